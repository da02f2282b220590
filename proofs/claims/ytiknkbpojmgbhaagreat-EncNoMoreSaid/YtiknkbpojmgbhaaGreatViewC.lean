/- ViewA, ViewB, ViewC. Conditions: in each theorem. -/
import Derived.Test.YtiknkbpojmgbhaaGreatViewP
import Derived.Test.YtiknkbpojmgbhaaGreatIntApp
import Derived.Test.YtiknkbpojmgbhaaGreatEqual
import Derived.StillTailTactics
import Derived.Deep.RegionWith
import Derived.Deep.RegionHeld3
import Derived.Deep.RegionLaw
import Derived.Deep.QuietTactic
import Derived.BigRegion
import Derived.BigQuiet
set_option maxHeartbeats 1600000
set_option maxRecDepth 100000
set_option linter.unusedVariables false
open Go.Proofs.Tryz
open Go.Lib (hid)
namespace Go.Proofs.YtiknkbpojmgbhaaGreat
open Go.RowKit Go.Maps
theorem Za.trans{F:Nat->Prop}{w w1 w2:World}(h:Za F w w1)(g:Za F w1 w2):Za F w w2:=
 ⟨g.os.trans h.os,g.tape.trans h.tape,g.output.trans h.output,Nat.le_trans h.size g.size,fun k hk hn=>(g.block k (Nat.lt_of_lt_of_le hk h.size) hn).trans (h.block k hk hn)⟩
theorem Za.mono{F G:Nat->Prop}{w w':World}(h:Za F w w')(hG:∀k,F k->G k):Za G w w':=⟨h.os,h.tape,h.output,h.size,fun k hk hn=>h.block k hk fun hf=>hn (hG k hf)⟩
theorem Za.grown{F:Nat->Prop}{w w1 w2:World}{b:Nat}(h:Za F w w1)(hg:w1.grownBy w2 (some b))(hb:F b):Za F w w2:=
 ⟨hg.os.trans h.os,hg.tape.trans h.tape,hg.output.trans h.output,Nat.le_trans h.size hg.size,fun k hk hn=>(hg.block k (Nat.lt_of_lt_of_le hk h.size) (fun e=>hn (by injection e with e;rw[e];exact hb))).trans (h.block k hk hn)⟩
def SV(w:World)(X:Nat->Prop)(v:Value)(l:List Int):Prop:=
 ∃(A:Option Addr) (n c:Nat),v=.slice A n c/\n<=c/\n<=140737488355328/\RB w w.heap.size A n l/\∀a,A=some a->0<n->¬X a.block
theorem SV.keep{w w':World}{X X':Nat->Prop}{v:Value}{l:List Int}(h:SV w X v l)(hs:w.heap.size<=w'.heap.size)(hX:∀k,k<w.heap.size->¬X k->¬X' k)(hk:∀k,k<w.heap.size->¬X k->w'.heap[k]?=w.heap[k]?):SV w' X' v l:=by
 obtain⟨A,n,c,rfl,h1,h2,h3,h4⟩:=h;refine⟨A,n,c,rfl,h1,h2,⟨h3.1,h3.2.1,fun hn=>?_⟩,fun a ha hn=>?_⟩
 · obtain⟨bb,o,e,hbb,hc⟩:=h3.2.2 hn;exact⟨bb,o,e,Nat.lt_of_lt_of_le hbb hs,fun j hj=>(World.cell?_of_block (a:=⟨bb,o+j,none⟩) (hk bb hbb (h4 _ e hn))).trans (hc j hj)⟩
 · obtain⟨bb,o,e,hbb,_⟩:=h3.2.2 hn;rw[ha]at e;cases e;exact hX _ hbb (h4 _ ha hn)
def Zd3(w:World)(X:Nat->Prop)(u:Value):Option (List Int)->Prop
 | none=>u=.agg #[.bool false,.slice none 0 0]
 | some l=>∃v,u=.agg #[.bool true,v]/\SV w X v l
theorem Zd3.keep{w w':World}{X X':Nat->Prop}{u:Value}{c:Option (List Int)}(h:Zd3 w X u c)(hs:w.heap.size<=w'.heap.size)(hX:∀k,k<w.heap.size->¬X k->¬X' k)(hk:∀k,k<w.heap.size->¬X k->w'.heap[k]?=w.heap[k]?):Zd3 w' X' u c:=by
 cases c with
 | none=>exact h
 | some l=>
  obtain⟨v,e,h1⟩:=h;exact⟨v,e,h1.keep hs hX hk⟩
def ZbN{β:Type}(R:World->(Nat->Prop)->Value->β->Prop)(w:World)(X:Nat->Prop)(b:Nat)(L:List (Txt×β)):Prop:=
 ∃f,Zcz w b L.length f/\∀x,(Zf L x=none->f x=none)/\∀c,Zf L x=some c->∃u,f x=some u/\R w X u c
def ZqS{β:Type}(R:World->(Nat->Prop)->Value->β->Prop):Prop:=∀{w w':World} {X X':Nat->Prop} {u:Value} {c:β},R w X u c->w.heap.size<=w'.heap.size->(∀k,k<w.heap.size->¬X k->¬X' k)->(∀k,k<w.heap.size->¬X k->w'.heap[k]?=w.heap[k]?)->R w' X' u c
theorem ZfG:ZqS SV:=fun h hs hX hk=>h.keep hs hX hk
theorem ZhQ:ZqS Zd3:=fun h hs hX hk=>h.keep hs hX hk
section
variable{β:Type}{R:World->(Nat->Prop)->Value->β->Prop}{w w':World}{X X':Nat->Prop}{b:Nat}{L:List (Txt×β)}
theorem ZbN.keep(HK:ZqS R)(h:ZbN R w X b L)(hs:w.heap.size<=w'.heap.size)(hX:∀k,k<w.heap.size->¬X k->¬X' k)(hk:∀k,k<w.heap.size->¬X k->w'.heap[k]?=w.heap[k]?)(hb:w'.heap[b]?=w.heap[b]?):ZbN R w' X' b L:=by
 obtain⟨f,h1,h2⟩:=h;refine⟨f,h1.of_block hb,fun x=>⟨(h2 x).1,fun c hc=>?_⟩⟩;obtain⟨u,e,hu⟩:=(h2 x).2 c hc;exact⟨u,e,HK hu hs hX hk⟩
theorem ZbN.made(w:World)(X:Nat->Prop):ZbN R (w.alloc (.map #[] 0)) X w.heap.size []:=⟨_,Zcz.made w,fun x=>⟨fun _=>rfl,fun c h=>by cases h⟩⟩
theorem ZbN.lt(h:ZbN R w X b L):b<w.heap.size:=by
 obtain⟨f,h1,_⟩:=h;exact h1.lt
theorem Zcz.few{n:Nat}{f:Txt->Option Value}(h:Zcz w b n f)(hf:∀x,Zf L x=none->f x=none):Zcz w b L.length f:=by
 have:=h.tight (L.map (·.1)) fun i hi=>by
  cases hl:Zf L i with
  | none=>exact absurd (hf i hl) hi
  | some c=>exact List.mem_map.2 ⟨_,Zao hl,rfl⟩
 simpa using this
theorem ZbN.store(HK:ZqS R)(h:ZbN R w X b L)(hup:ZG L)(hXb:X b){t e:TypeId}(ht:prog.underlying t=some (.map 9 e))(hn:L.length<maxLen){x:Txt}(hx:x.length<=maxLen){u:Value}{c:β}(hu:R w X u c) :
 ∃w',(Instr.mapUpdate t (.map (some b)) (encStr x) u).run prog w=.ok () w'/\ZbN R w' X b (Zaw L x c)/\w.grownBy w' (some b):=by
 obtain⟨f,h1,h2⟩:=h;obtain⟨w',hrun,h3,hg⟩:=h1.store ht hn hx u;have hk:∀k,k<w.heap.size->¬X k->w'.heap[k]?=w.heap[k]?:=fun k hk hn=>hg.block k hk fun e=>hn (by injection e with e;rw[e];exact hXb)
 have hf:∀y,Zf (Zaw L x c) y=none->(if y=x then some u else f y)=none:=by
  intro y hy;rw[Zaf hup]at hy;by_cases e:x=y
  · rw[if_pos e]at hy;cases hy
  · rw[if_neg e]at hy;rw[if_neg (fun e'=>e e'.symm)];exact(h2 y).1 hy
 refine⟨w',hrun,⟨_,h3.few hf,fun y=>⟨hf y,fun d hd=>?_⟩⟩,hg⟩;rw[Zaf hup]at hd;by_cases e:x=y
 · rw[if_pos e]at hd;cases hd;exact⟨u,by rw[if_pos e.symm],HK hu hg.size (fun _ _ h=>h) hk⟩
 · rw[if_neg e]at hd;obtain⟨u',e1,hu'⟩:=(h2 y).2 d hd;exact⟨u',by rw[if_neg (fun e'=>e e'.symm)];exact e1,HK hu' hg.size (fun _ _ h=>h) hk⟩
theorem ZbN.delete(HK:ZqS R)(h:ZbN R w X b L)(hXb:X b){t e:TypeId}(ht:prog.underlying t=some (.map 9 e)){x:Txt}(hx:x.length<=maxLen)(ty:TypeId) :
 ∃w',(Builtin.delete_ #[t,9] ty #[.map (some b),encStr x]).run prog w=.ok (.tuple #[]) w'/\ZbN R w' X b (ZbE L x)/\w.grownBy w' (some b):=by
 obtain⟨f,h1,h2⟩:=h;obtain⟨w',hrun,h3,hg⟩:=h1.delete ht hx ty;have hk:∀k,k<w.heap.size->¬X k->w'.heap[k]?=w.heap[k]?:=fun k hk hn=>hg.block k hk fun e=>hn (by injection e with e;rw[e];exact hXb)
 have hf:∀y,Zf (ZbE L x) y=none->(if y=x then none else f y)=none:=by
  intro y hy;rw[Zbs]at hy;by_cases e:y=x
  · rw[if_pos e]
  · rw[if_neg e];rw[if_neg (fun e'=>e e'.symm)]at hy;exact(h2 y).1 hy
 refine⟨w',hrun,⟨_,h3.few hf,fun y=>⟨hf y,fun d hd=>?_⟩⟩,hg⟩;rw[Zbs]at hd;by_cases e:x=y
 · rw[if_pos e]at hd;cases hd
 · rw[if_neg e]at hd;obtain⟨u',e1,hu'⟩:=(h2 y).2 d hd;exact⟨u',by rw[if_neg (fun e'=>e e'.symm)];exact e1,HK hu' hg.size (fun _ _ h=>h) hk⟩
theorem ZbN.clear_(h:ZbN R w X b L){t e:TypeId}(ht:prog.underlying t=some (.map 9 e))(ty:TypeId) :
 ∃w',(Builtin.clear_ #[t] ty #[.map (some b)]).run prog w=.ok (.tuple #[]) w'/\ZbN R w' X b []/\w.grownBy w' (some b):=by
 obtain⟨f,h1,h2⟩:=h;obtain⟨w',hrun,h3,hg⟩:=h1.clear_ ht ty;exact⟨w',hrun,⟨_,h3,fun y=>⟨fun _=>rfl,fun d hd=>by cases hd⟩⟩,hg⟩
theorem ZbN.look(h:ZbN R w X b L){t e:TypeId}(ht:prog.underlying t=some (.map 9 e)){z:Value}(hz:∀w,(zeroValue e).run prog w=.ok z w){x:Txt}(hx:x.length<=maxLen) :
 ∃u,(∀W,W.heap[b]?=w.heap[b]?->(Instr.lookup t (.map (some b)) (encStr x) true).run prog W=.ok (.tuple #[u,.bool (Zf L x).isSome]) W)/\(Zf L x=none->u=z)/\∀c,Zf L x=some c->R w X u c:=by
 obtain⟨f,h1,h2⟩:=h;have hr:=fun W (e:W.heap[b]?=w.heap[b]?)=>(h1.of_block e).look ht (hz W) hx
 cases hl:Zf L x with
 | none=>
  rw[(h2 x).1 hl]at hr;exact⟨z,hr,fun _=>rfl,fun c hc=>by cases hc⟩
 | some c=>
  obtain⟨u,e,hu⟩:=(h2 x).2 c hl;rw[e]at hr;exact⟨u,hr,(fun h=>by cases h),fun c' hc=>by cases hc;exact hu⟩
theorem ZbN.get(h:ZbN R w X b L){t e:TypeId}(ht:prog.underlying t=some (.map 9 e)){z:Value}(hz:(zeroValue e).run prog w=.ok z w){x:Txt}(hx:x.length<=maxLen){c:β}(hl:Zf L x=some c) :
 ∃u,(Instr.lookup t (.map (some b)) (encStr x) false).run prog w=.ok u w/\R w X u c:=by
 obtain⟨f,h1,h2⟩:=h;obtain⟨u,e,hu⟩:=(h2 x).2 c hl;exact⟨u,h1.get ht hz hx e,hu⟩
end
structure Ze(w:World)(X:Nat->Prop)(v m c:Nat)(S:VS):Prop where
 me:w.heap[v]?=some (.cells #[.iface 160 (.map (some m)),.map (some c),.int .i64 0] 127 (0,0))
 mem:ZbN SV w X m S.W
 chg:ZbN Zd3 w X c S.C
 mc:m≠c
 xv:X v
 xm:X m
 xc:X c
 ok:S.Ok
 lt:∀k,X k->k<w.heap.size
section
variable{w w':World}{X X':Nat->Prop}{v m c:Nat}{S:VS}
theorem Ze.cells(h:Ze w X v m c S):w.cell? ⟨v,0,none⟩=some (.iface 160 (.map (some m)))/\w.cell? ⟨v,1,none⟩=some (.map (some c))/\w.cell? ⟨v,2,none⟩=some (.int .i64 0)/\v<w.heap.size:=by
 refine⟨?_,?_,?_,(Array.getElem?_eq_some_iff.1 h.me).1⟩
 · rw[cell_of_row w v 0 _ _ (0,0) h.me];rfl
 · rw[cell_of_row w v 1 _ _ (0,0) h.me];rfl
 · rw[cell_of_row w v 2 _ _ (0,0) h.me];rfl
theorem Ze.vm(h:Ze w X v m c S):v≠m/\v≠c:=by
 obtain⟨f,h1,_⟩:=h.mem;obtain⟨g,h2,_⟩:=h.chg;obtain⟨es,k,e⟩:=h1.block;obtain⟨es',k',e'⟩:=h2.block
 have:=h.me
 refine⟨fun q=>?_,fun q=>?_⟩
 · rw[q,e]at this;cases this
 · rw[q,e']at this;cases this
theorem Ze.keep(h:Ze w X v m c S)(hs:w.heap.size<=w'.heap.size)(hX:∀k,k<w.heap.size->¬X k->¬X' k)(hx:∀k,X k->X' k)(hlt:∀k,X' k->k<w'.heap.size)(hk:∀k,k<w.heap.size->(k=v∨k=m∨k=c∨¬X k)->w'.heap[k]?=w.heap[k]?):Ze w' X' v m c S:=
 ⟨(hk v h.cells.2.2.2 (.inl rfl)).trans h.me,h.mem.keep ZfG hs hX (fun k h1 h2=>hk k h1 (.inr (.inr (.inr h2)))) (hk m h.mem.lt (.inr (.inl rfl))),h.chg.keep ZhQ hs hX (fun k h1 h2=>hk k h1 (.inr (.inr (.inr h2)))) (hk c h.chg.lt (.inr (.inr (.inl rfl)))),h.mc,hx v h.xv,hx m h.xm,hx c h.xc,h.ok,hlt⟩
theorem Ze.below(h:Ze w X v m c S)(hb:Below w.heap.size w w'):Ze w' X v m c S:=
 h.keep hb.size (fun _ _ h=>h) (fun _ h=>h) (fun k hk=>Nat.lt_of_lt_of_le (h.lt k hk) hb.size) (fun k hk _=>hb.block k hk)
theorem Ze.alloc(h:Ze w X v m c S)(o:Obj):Ze (w.alloc o) X v m c S:=h.below ((Below.refl _ w).alloc (Nat.le_refl _) o)
theorem Ze.turnC(h:Ze w X v m c S){C':List (Txt×Option (List Int))}(hg:w.grownBy w' (some c))(hm:ZbN Zd3 w' X c C')(hup:ZG C'):Ze w' X v m c ⟨S.W,C'⟩:=by
 have hk:∀k,k<w.heap.size->k≠c->w'.heap[k]?=w.heap[k]?:=fun k hk hn=>hg.block k hk fun e=>hn (by injection e)
 exact⟨(hk v h.cells.2.2.2 h.vm.2).trans h.me,h.mem.keep ZfG hg.size (fun _ _ h=>h) (fun k h1 h2=>hk k h1 fun e=>h2 (by rw[e];exact h.xc)) (hk m h.mem.lt h.mc),hm,h.mc,h.xv,h.xm,h.xc,⟨h.ok.w,hup⟩,fun k hk=>Nat.lt_of_lt_of_le (h.lt k hk) hg.size⟩
theorem Ze.turnM(h:Ze w X v m c S){W':TL}(hg:w.grownBy w' (some m))(hm:ZbN SV w' X m W')(hup:ZG W'):Ze w' X v m c ⟨W',S.C⟩:=by
 have hk:∀k,k<w.heap.size->k≠m->w'.heap[k]?=w.heap[k]?:=fun k hk hn=>hg.block k hk fun e=>hn (by injection e)
 exact⟨(hk v h.cells.2.2.2 h.vm.1).trans h.me,hm,h.chg.keep ZhQ hg.size (fun _ _ h=>h) (fun k h1 h2=>hk k h1 fun e=>h2 (by rw[e];exact h.xm)) (hk c h.chg.lt (fun e=>h.mc e.symm)),h.mc,h.xv,h.xm,h.xc,⟨hup,h.ok.c⟩,fun k hk=>Nat.lt_of_lt_of_le (h.lt k hk) hg.size⟩
end
theorem ZkI{w:World}{b k:Nat}{es:Array MapEntry}(h:w.heap[b]?=some (.map es k))(o:Nat):w.cell? ⟨b,o,none⟩=none:=by simp[World.cell?,h]
theorem ZbN.noCell{β:Type}{R:World->(Nat->Prop)->Value->β->Prop}{w:World}{X:Nat->Prop}{b:Nat}{L:List (Txt×β)}(h:ZbN R w X b L)(o:Nat):w.cell? ⟨b,o,none⟩=none:=by
 obtain⟨f,h1,_⟩:=h;obtain⟨es,k,e⟩:=h1.block;exact ZkI e o
theorem Ze.cellsKept{w w':World}{X X':Nat->Prop}{v m c:Nat}{S S':VS}(h:Ze w X v m c S)(h':Ze w' X' v m c S')(ht:Za (fun k=>k=m∨k=c) w w'):∀b o,b<w.heap.size->w'.cell? ⟨b,o,none⟩=w.cell? ⟨b,o,none⟩:=by
 intro b o hb;by_cases e1:b=m
 · rw[e1,h.mem.noCell,h'.mem.noCell]
 · by_cases e2:b=c
   · rw[e2,h.chg.noCell,h'.chg.noCell]
   · exact World.cell?_of_block (a:=⟨b,o,none⟩) (ht.block b hb (by rintro(a|a);exact e1 a;exact e2 a))
theorem Zes{w:World}{b o:Nat}{cs:Array Value}{T:TypeId}(h:w.heap[b]?=some (.cells cs T (0,0))){u:Value}(hu:cs[o]?=some u):w.setCell ⟨b,o,none⟩ u=w:=by
 have e1:cs.setIfInBounds o u=cs:=by
  apply Array.ext_getElem?;intro i;rw[Array.getElem?_setIfInBounds];split
  · rename_i e
    subst e;split
    · exact hu.symm
    · rename_i h'
      exact absurd (Array.getElem?_eq_some_iff.1 hu).1 h'
  · rfl
 have e2:(w.setCell ⟨b,o,none⟩ u).heap=w.heap:=by
  apply Array.ext_getElem?;intro k;by_cases e:k=b
  · subst e;rw[heap_setCell_same w k o cs T u h,e1];exact h.symm
  · exact heap_setCell_other w ⟨b,o,none⟩ k u e
 have e3:w.setCell ⟨b,o,none⟩ u = {w with heap:=(w.setCell ⟨b,o,none⟩ u).heap}:=rfl;rw[e3,e2]
theorem SV.far{w:World}{X Y:Nat->Prop}{v:Value}{l:List Int}(h:SV w X v l)(hY:∀k,Y k->X k):SV w Y v l:=by
 obtain⟨A,n,c,rfl,h1,h2,h3,h4⟩:=h;exact⟨A,n,c,rfl,h1,h2,h3,fun a ha hn hy=>h4 a ha hn (hY _ hy)⟩
theorem SV.nil_(w:World)(X:Nat->Prop)(c:Nat):SV w X (.slice none 0 c) []:=⟨none,0,c,rfl,Nat.zero_le _,Nat.zero_le _,RB.nil_,fun a h=>by cases h⟩
theorem SV.of_own{w:World}{base n:Nat}{v:Value}{l:List Int}(h:w.ownsRow base 5 1 v n (l.map (Value.int .u8)))(hl:Zm l)(hn:n<=140737488355328){X:Nat->Prop}(hX:∀k,X k->k<base):SV w X v l:=by
 obtain⟨A,c,rfl,hc⟩:=Zin h;refine⟨A,n,c,rfl,hc,hn,RB.of_own h hl,fun a ha hp hx=>?_⟩;subst ha
 have:=ZpS h a.block (by
  rcases h.2 with ⟨e,h0⟩|⟨g,cap,cur,e,_⟩
  · omega
  · cases e;rfl)
 have:=hX _ hx
 omega
theorem ZbB{w:World}{B n:Nat}{A:Option Addr}{l:List Int}(c:Nat)(h:RB w B A n l)(hB:B<=w.heap.size)(hn:n<=140737488355328) :
 Calls prog 182 #[.slice A n c] w fun e w'=>∃v,e=.returned v/\SV w' (fun k=>k<w.heap.size) v l/\Below w.heap.size w w':=by
 have q22:∀(w:World) (a:Option Addr) (n c n' c':Nat),(binOp .eql 99 (.slice a n c) (.slice none n' c')).run prog w=.ok (.bool a.isNone) w:=fun w a n c n' c'=>Lib.run_eql_slice_nil w _ _ a n c n' c' underlying99
 rcases A with _|ad
 · have hm:n=0:=by
    rcases Nat.eq_zero_or_pos n with h0|h0
    · exact h0
    · obtain⟨b,off,e,_⟩:=h.at_ h0;cases e
   subst hm;obtain rfl:l = []:=List.eq_nil_of_length_eq_zero h.len;go_enter func182,ntmps182;go_wp2;go_ret;exact⟨_,rfl,SV.nil_ _ _ _,Below.refl _ _⟩
 · go_enter func182,ntmps182
   go_wp2_with (at_builtin;refine Z5 rfl _ _ rfl w.heap.size _ 0 [] rfl (World.ownsRow_made w #[] 0 (Nat.le_refl _) (Nat.zero_le _) rfl) B (some ad) n c l rfl (h.alloc hB _) (by omega) (by simp) ?_;intro v1 w1 hown1 _ hb1)
   simp only[Nat.zero_add,List.nil_append]at hown1;go_ret;exact⟨_,rfl,SV.of_own hown1 h.bytes hn (fun k hk=>hk),((Below.refl w.heap.size w).alloc (Nat.le_refl _) _).trans hb1⟩
theorem Zmu(w:World):(zeroValue 99).run prog w=.ok (.slice none 0 0) w:=by kernel_rfl
theorem Zdj(w:World):(zeroValue 199).run prog w=.ok (.agg #[.bool false,.slice none 0 0]) w:=by kernel_rfl
section
variable{w w':World}{X:Nat->Prop}{v m c:Nat}{S:VS}
theorem Zcu(h:Ze w X v m c S):Calls prog 64 #[.pointer (some ⟨v,0,none⟩)] w fun e w'=>e=.returned (.bool true)/\w=w':=by
 obtain⟨c0,c1,c2,_⟩:=h.cells;clear h;go_enter func64,ntmps64;go_wp2;go_ret;exact⟨rfl,rfl⟩
theorem ZhR(h:Ze w X v m c S):Calls prog 65 #[.pointer (some ⟨v,0,none⟩)] w fun e w'=>e=.returned (.int .i64 0)/\w=w':=by
 obtain⟨c0,c1,c2,_⟩:=h.cells;have HM:=hid (Zcu h);clear h;go_enter func65,ntmps65;go_wp2_with fail;refine HM.out.mono ?_;rintro e w'⟨rfl,rfl⟩;go_wp2;go_ret;exact⟨rfl,rfl⟩
theorem ZdD(h:Ze w X v m c S):Calls prog 67 #[.pointer (some ⟨v,0,none⟩),.int .i64 0] w fun e w'=>e=.returned (.int .i64 0)/\w=w':=by
 obtain⟨c0,c1,c2,_⟩:=h.cells;have fr:w.frozen? ⟨v,2,none⟩=false:=frozen_of_row w v 2 _ _ h.me;have hs:w.setCell ⟨v,2,none⟩ (.int .i64 0)=w:=Zes h.me rfl;clear h;go_enter func67,ntmps67;go_wp2;go_ret;exact⟨rfl,rfl⟩
theorem ZgJ{W:TL}(h:ZbN SV w X m W)(hX:∀k,X k->k<w.heap.size){A:Option Addr}{n k B:Nat}{l:List Int}(hr:RB w B A n l)(hn:n<=maxLen) :
 Calls prog 490 #[.map (some m),.slice A n k] w fun e w'=>∃u,e=.returned (.tuple #[u,.bool (Zf W (tx l)).isSome,.int .i64 0])/\SV w' (fun k=>k<w.heap.size) u ((Zf W (tx l)).getD [])/\Below w.heap.size w w':=by
 have hconv:=hr.conv k;have hlen:=hr.len;obtain⟨u0,hlook,hnone,hsome⟩:=h.look underlying160 Zmu (x:=tx l) (by rw[ZZ,hlen];exact hn)
 have hu:SV w X u0 ((Zf W (tx l)).getD []):=by
  cases hl:Zf W (tx l)with
  | none=>rw[hnone hl];exact SV.nil_ _ _ _
  | some d=>exact hsome d hl
 have hlook':(Instr.lookup 160 (.map (some m)) (.string (strOfNums l)) true).run prog w=.ok (.tuple #[u0,.bool (Zf W (tx l)).isSome]) w:=hlook w rfl;obtain⟨A',n',c',rfl,e1,e2,e3,e4⟩:=hu;have HC:=hid (ZbB c' e3 (Nat.le_refl _) e2);generalize (Zf W (tx l)).isSome=bs at hlook' ⊢;generalize (Zf W (tx l)).getD []=d at HC e3 ⊢;generalize strOfNums l=st at hconv hlook';clear hlook hnone hsome e3 e4 h hr hlen hX;go_enter func490,ntmps490;go_wp2_with fail;refine HC.out.mono ?_;rintro e w'⟨u,rfl,hs,hb⟩;go_wp2
 go_ret3
 exact⟨u,rfl,hs,hb⟩
theorem Zjs(h:Ze w X v m c S){A:Option Addr}{n k B:Nat}{l:List Int}(hr:RB w B A n l)(hB:B<=w.heap.size)(hn:n<=maxLen) :
 Calls prog 198 #[.pointer (some ⟨v,0,none⟩),.slice A n k] w fun e w'=>∃u,e=.returned (.tuple #[u,.bool (S.now (tx l)).isSome,.int .i64 0])/\SV w' (fun k=>k<w.heap.size) u ((S.now (tx l)).getD [])/\Below w.heap.size w w':=by
 obtain⟨c0,c1,c2,hv⟩:=h.cells;have hlen:=hr.len;obtain⟨u0,hlk,n1,s1⟩:=h.chg.look underlying125 Zdj (x:=tx l) (by rw[ZZ,hlen];exact hn);have hmem:=h.mem;have B1:Below w.heap.size w w.drew:=(Below.refl _ w).drew;have B2:Below w.heap.size w (w.alloc (.cells #[.bool false,.slice none 0 0] 199)).drew:=((Below.refl _ w).alloc (Nat.le_refl _) _).drew;have v1:=(hr.below (B1.mono hB)).conv k;have v2:=(hr.below (B2.mono hB)).conv k
 have hm : ∀ n (w : World), (method (n + 1) 160 (.map (some m)) "Get").run prog w = .ok (490, .map (some m)) w := fun n w => by kernel_rfl
 have hch:∃(t:Bool) (A':Option Addr) (n' c':Nat),u0=.agg #[.bool t,.slice A' n' c']/\((Zf S.C (tx l)).isSome=true->(S.now (tx l)).isSome=t/\n'<=c'/\n'<=140737488355328/\RB w w.heap.size A' n' ((S.now (tx l)).getD [])):=by
  cases hl:Zf S.C (tx l)with
  | none=>exact⟨_,_,_,_,n1 hl,fun h=>by cases h⟩
  | some d=>
   have hd:=s1 d hl;have hnow:S.now (tx l)=d:=by unfold VS.now;rw[hl]
   rw[hnow];cases d with
   | none=>exact⟨_,_,_,_,hd,fun _=>⟨rfl,Nat.le_refl _,Nat.zero_le _,RB.nil_⟩⟩
   | some y=>
    obtain⟨q,rfl,A',n',c',rfl,e1,e2,e3,_⟩:=hd;exact⟨_,_,_,_,rfl,fun _=>⟨rfl,e1,e2,e3⟩⟩
 obtain⟨t,A',n',c',rfl,hch⟩:=hch;have k1:(Instr.lookup 125 (.map (some c)) (.string (strOfNums l)) true).run prog w.drew=.ok (.tuple #[.agg #[.bool t,.slice A' n' c'],.bool (Zf S.C (tx l)).isSome]) w.drew:=hlk _ rfl;have k2:(Instr.lookup 125 (.map (some c)) (.string (strOfNums l)) true).run prog (w.alloc (.cells #[.bool false,.slice none 0 0] 199)).drew=.ok (.tuple #[.agg #[.bool t,.slice A' n' c'],.bool (Zf S.C (tx l)).isSome]) (w.alloc (.cells #[.bool false,.slice none 0 0] 199)).drew:=hlk _ (Below.heap_alloc _ _ _ h.chg.lt);clear hlk n1 s1;generalize hst:strOfNums l=st at k1 k2 v1 v2
 cases hb0:(Zf S.C (tx l)).isSome with
 | true=>
  rw[hb0]at k1 k2;obtain⟨g1,g2,g3,g4⟩:=hch hb0;have hB4:Below w.heap.size w (w.alloc (.cells #[.bool t,.slice A' n' c'] 199)).drew.drew:=((Below.refl _ w).alloc (Nat.le_refl _) _).drew.drew;have HC:=hid (ZbB c' ((g4.below hB4).more hB4.size) (Nat.le_refl _) g3);have HB4:=hid hB4;rw[g1];generalize (S.now (tx l)).getD []=d at HC ⊢;clear hch g4 g1 h hr hmem B1 B2 hb0 hB4 hst;go_enter func198,ntmps198;go_wp2_with fail
  go_region_with fail
  all_goals
   go_wp2_with fail;clear k1 k2 v1 v2 hm c0 c1 c2;have q0:(w.alloc (.cells #[.bool t,.slice A' n' c'] 199)).drew.cell? ⟨w.heap.size,0,none⟩=some (.bool t):=by simp
   have q1:(w.alloc (.cells #[.bool t,.slice A' n' c'] 199)).drew.cell? ⟨w.heap.size,1,none⟩=some (.slice A' n' c'):=by simp
   have q2:w.heap.size<(w.alloc (.cells #[.bool t,.slice A' n' c'] 199)).drew.heap.size:=by simp
   have q2':w.heap.size<=(w.alloc (.cells #[.bool t,.slice A' n' c'] 199)).drew.drew.heap.size:=by simp
   generalize (w.alloc (.cells #[.bool t,.slice A' n' c'] 199)).drew=w1 at HC HB4 q0 q1 q2 q2' ⊢;obtain⟨bx,hbx⟩:∃bx,bx=w.heap.size:=⟨_,rfl⟩
   have HX:=hid hbx;rw[<-hbx]at q0 q1 q2 q2' HB4 ⊢;clear hbx
   go_region_held3 (fun w'=>w'.cell? ⟨bx,0,none⟩=some (.bool t)/\w'.cell? ⟨bx,1,none⟩=some (.slice A' n' c'))
    (first|with_reducible exact q3|with_reducible exact⟨q0,q1⟩|exact⟨q0,q1⟩)
    (first|(go_at_call 182;refine HC.out.mono ?_;rintro e w' ⟨u,rfl,hs,hb⟩;have q3:=And.intro ((hb.cell (p:=⟨bx,0,none⟩) q2).trans q0) ((hb.cell (p:=⟨bx,1,none⟩) q2).trans q1)))
   go_wp2_with fail
   go_ret3
   rw[HX.out]at q2';have hB5:=HB4.out;rw[HX.out]at hB5;exact⟨u,rfl,hs.far (fun k hk=>Nat.lt_of_lt_of_le hk q2'),hB5.trans (hb.mono q2')⟩
 | false=>
  rw[hb0]at k1 k2
  have hnow:S.now (tx l)=Zf S.W (tx l):=by
   unfold VS.now
   cases hl:Zf S.C (tx l)with
   | none=>rfl
   | some d=>rw[hl]at hb0;cases hb0
  rw[hnow];have hB4:Below w.heap.size w (w.alloc (.cells #[.bool t,.slice A' n' c'] 199)).drew:=((Below.refl _ w).alloc (Nat.le_refl _) _).drew;have h4:=h.below hB4;have HC:=hid (ZgJ h4.mem h4.lt (k:=k) (hr.below (hB4.mono hB)) hn);have HT:=hid h4;have HB4:=hid hB4;have c0':=h4.cells.1;generalize (Zf S.W (tx l)).getD []=d at HC ⊢;generalize (Zf S.W (tx l)).isSome=bs at HC ⊢;clear hch h hr hmem B1 B2 hb0 hB4 hst h4 hnow;go_enter func198,ntmps198;go_wp2_with fail
  go_region_with fail
  all_goals
   go_wp2_with fail;refine HC.out.mono ?_;rintro e w2⟨u,rfl,hs,hb⟩;have HM:=hid (ZdD (HT.out.below hb));have HS:=hid hs;have HB:=hid hb;clear hs hb;go_wp2_with fail;refine HM.out.mono ?_;rintro e w3⟨rfl,rfl⟩;go_wp2_with fail
   go_ret3
   exact⟨u,rfl,HS.out.far (fun k hk=>Nat.lt_of_lt_of_le hk HB4.out.size),HB4.out.trans (HB.out.mono HB4.out.size)⟩
end
section
variable{w w':World}{X:Nat->Prop}{v m c:Nat}{S:VS}
theorem ZdE(h:Ze w X v m c S){A:Option Addr}{n k B:Nat}{l:List Int}(hr:RB w B A n l)(hB:B<=w.heap.size)(hn:n<=maxLen) :
 Calls prog 109 #[.pointer (some ⟨v,0,none⟩),.slice A n k] w fun e w'=>∃u,e=.returned (.tuple #[u,.bool (S.now (tx l)).isSome])/\SV w' (fun k=>k<w.heap.size) u ((S.now (tx l)).getD [])/\Below w.heap.size w w':=by
 have HE:=hid (ZhR h);have HL:=hid (Zjs h (k:=k) hr hB hn);generalize (S.now (tx l)).getD []=d at HL ⊢;generalize (S.now (tx l)).isSome=bs at HL ⊢;clear h hr;go_enter func109,ntmps109;go_wp2_with fail;refine HE.out.mono ?_;rintro e w'⟨rfl,rfl⟩;go_wp2_with fail;refine HL.out.mono ?_;rintro e w'⟨u,rfl,hs,hb⟩;go_wp2_with fail;go_ret2;exact⟨u,rfl,hs,hb⟩
theorem ZgK(h:Ze w X v m c S):Calls prog 29 #[.pointer (some ⟨v,0,none⟩)] w fun e w'=>e=.returned (.tuple #[])/\Ze w' X v m c S.abort/\Za (fun k=>k=c) w w':=by
 obtain⟨c0,c1,c2,hv⟩:=h.cells;have HM:=hid (Zcu h);obtain⟨w1,hrun,hm1,hg1⟩:=h.chg.clear_ underlying125 0;have h1:Ze w1 X v m c S.abort:=h.turnC hg1 hm1 List.Pairwise.nil;have HT:=hid (And.intro h1 ((Za.refl (fun k=>k=c) w).grown hg1 rfl));have fr:w1.frozen? ⟨v,2,none⟩=false:=frozen_of_row w1 v 2 _ _ h1.me;have hs:w1.setCell ⟨v,2,none⟩ (.int .i64 0)=w1:=Zes h1.me rfl;have d2:=h1.cells.2.2.1;clear h h1 hm1 hg1;go_enter func29,ntmps29;go_wp2_with fail;refine HM.out.mono ?_;rintro e w'⟨rfl,rfl⟩;go_wp2_with fail
 go_end0
 exact⟨rfl,HT.out⟩
def putE(key val:List Int):Int:=if key.length<1∨key.length>32∨val.length>120 then 1 else 0
def VS.putR(S:VS)(key val:List Int):VS:=if putE key val=0 then S.put (tx key) val else S
theorem ZcU(h:Ze w X v m c S){A A':Option Addr}{n k B n' k' B':Nat}{l l':List Int}(hr:RB w B A n l)(hB:B<=w.heap.size)(hn:n<=maxLen)(hr':RB w B' A' n' l')(hB':B'<=w.heap.size)(hn':n'<=maxLen)(hC:S.C.length<maxLen) :
 Calls prog 96 #[.pointer (some ⟨v,0,none⟩),.slice A n k,.slice A' n' k'] w fun e w'=>e=.returned (.int .i64 (putE l l'))/\Ze w' X v m c (S.putR l l')/\Za (fun k=>k=c) w w':=by
 obtain⟨c0,c1,c2,hv⟩:=h.cells;have hlen:=hr.len;have hlen':=hr'.len;have HM:=hid (Zcu h);have HSAME:=hid (show Ze w X v m c S/\Za (fun k=>k=c) w w from⟨h,Za.refl _ _⟩);by_cases b1:n<1
 · have e1:putE l l'=1:=by unfold putE;rw[hlen];exact if_pos (.inl b1)
   have e2:S.putR l l'=S:=by unfold VS.putR;rw[e1];rfl
   have t1:decide ((n:Int)<1)=true:=by simp;omega
   rw[e1,e2];clear e1 e2 h hr hr';go_enter func96,ntmps96;go_wp2_with fail;refine HM.out.mono ?_;rintro e w'⟨rfl,rfl⟩;go_wp2_with fail;go_ret;exact⟨rfl,HSAME.out⟩
 have t1:decide ((n:Int)<1)=false:=by simp;omega
 by_cases b2:n>32
 · have e1:putE l l'=1:=by unfold putE;rw[hlen];exact if_pos (.inr (.inl b2))
   have e2:S.putR l l'=S:=by unfold VS.putR;rw[e1];rfl
   have t2:decide ((32:Int)<n)=true:=by simp;omega
   rw[e1,e2];clear e1 e2 h hr hr';go_enter func96,ntmps96;go_wp2_with fail;refine HM.out.mono ?_;rintro e w'⟨rfl,rfl⟩;go_wp2_with fail;go_ret;exact⟨rfl,HSAME.out⟩
 have t2:decide ((32:Int)<n)=false:=by simp;omega
 by_cases b3:n'>120
 · have e1:putE l l'=1:=by unfold putE;rw[hlen'];exact if_pos (.inr (.inr b3))
   have e2:S.putR l l'=S:=by unfold VS.putR;rw[e1];rfl
   have t3:decide ((120:Int)<n')=true:=by simp;omega
   rw[e1,e2];clear e1 e2 h hr hr';go_enter func96,ntmps96;go_wp2_with fail;refine HM.out.mono ?_;rintro e w'⟨rfl,rfl⟩;go_wp2_with fail;go_ret;exact⟨rfl,HSAME.out⟩
 have t3:decide ((120:Int)<n')=false:=by simp;omega
 have e1:putE l l'=0:=by unfold putE;rw[hlen,hlen'];exact if_neg (by rintro(a|a|a) <;> omega)
 have e2:S.putR l l'=S.put (tx l) l':=by unfold VS.putR;rw[e1];rfl
 rw[e1,e2];have B1:Below w.heap.size w w.drew:=(Below.refl _ w).drew;have v1:=(hr.below (B1.mono hB)).conv k;have HC:=hid (ZbB (w:=w.drew) k' (hr'.below (B1.mono hB')) hB' (by omega))
 have HS:=hid (show ∀w2 u,Below w.drew.heap.size w.drew w2->SV w2 (fun k=>k<w.drew.heap.size) u l'->(convert 99 9 (.slice A n k)).run prog w2=.ok (.string (strOfNums l)) w2/\w2.cell? ⟨v,1,none⟩=some (.map (some c))/\
  ∃w3,(Instr.mapUpdate 125 (.map (some c)) (.string (strOfNums l)) (.agg #[.bool true,u])).run prog w2=.ok () w3/\(convert 99 9 (.slice A n k)).run prog w3=.ok (.string (strOfNums l)) w3/\w3.cell? ⟨v,1,none⟩=some (.map (some c))/\Ze w3 X v m c (S.put (tx l) l')/\Za (fun k=>k=c) w w3 from by
  intro w2 u hb2 hs2;have h2:=h.below (B1.trans hb2);obtain⟨w3,hrun,hm3,hg3⟩:=h2.chg.store (R:=Zd3) @ZhQ h2.ok.c h2.xc underlying125 hC (x:=tx l) (by rw[ZZ,hlen];exact hn) (u:=.agg #[.bool true,u]) (c:=some l') (show Zd3 w2 X _ (some l')from⟨u,rfl,hs2.far (fun k hk=>h.lt k hk)⟩);have h3:Ze w3 X v m c (S.put (tx l) l'):=h2.turnC hg3 hm3 (h2.ok.c.set _ _);have hcc:=h2.cellsKept h3 ((Za.refl (fun k=>k=m∨k=c) w2).grown hg3 (.inr rfl));have hr2:=hr.below ((B1.trans hb2).mono hB)
  refine⟨hr2.conv k,h2.cells.2.1,w3,hrun,(hr2.keep fun b o hb=>hcc b o (by have:=hb2.size;have:w.heap.size<=w2.heap.size:=this;omega)).conv k,h3.cells.2.1,h3,(Za.of_below (B1.trans hb2)).grown hg3 rfl⟩)
 clear h hr hr' e1 e2;generalize strOfNums l=st at HS v1;go_enter func96,ntmps96;go_wp2_with fail;refine HM.out.mono ?_;rintro e w'⟨rfl,rfl⟩;go_wp2_with fail
 go_region_held3 (fun w'=>w'.cell? ⟨v,1,none⟩=some (.map (some c))/\(convert 99 9 (.slice A n k)).run prog w'=.ok (.string st) w')
  (first|with_reducible exact q3|with_reducible exact q2|exact⟨c1,v1⟩)
  (first|(go_at_call 182;refine HC.out.mono ?_;rintro e w2 ⟨u,rfl,hs,hb⟩;obtain⟨p1,p2,w3,p3,p4,p5,p6⟩:=HS.out w2 u hb hs;obtain⟨A2,n2,k2,rfl,_⟩:=hs;have q2:=And.intro p2 p1;have q3:=And.intro p5 p4))
 all_goals
  go_wp2_with fail;go_ret;exact⟨rfl,p6⟩
theorem ZkJ(h:Ze w X v m c S){A:Option Addr}{n k B:Nat}{l:List Int}(hr:RB w B A n l)(hB:B<=w.heap.size)(hn:n<=maxLen)(hC:S.C.length<maxLen) :
 Calls prog 311 #[.pointer (some ⟨v,0,none⟩),.slice A n k] w fun e w'=>e=.returned (.bool (S.now (tx l)).isSome)/\Ze w' X v m c (S.del (tx l))/\Za (fun k=>k=c) w w':=by
 have hlen:=hr.len;have HM:=hid (Zcu h);have HL:=hid (Zjs h (k:=k) hr hB hn)
 have HS:=hid (show ∀w1,Below w.heap.size w w1->(convert 99 9 (.slice A n k)).run prog w1.drew=.ok (.string (strOfNums l)) w1.drew/\w1.cell? ⟨v,1,none⟩=some (.map (some c))/\
  ∃w3,(Instr.mapUpdate 125 (.map (some c)) (.string (strOfNums l)) (.agg #[.bool false,.slice none 0 0])).run prog w1.drew=.ok () w3/\(convert 99 9 (.slice A n k)).run prog w3=.ok (.string (strOfNums l)) w3/\w3.cell? ⟨v,1,none⟩=some (.map (some c))/\Ze w3 X v m c (S.del (tx l))/\Za (fun k=>k=c) w w3 from by
  intro w1 hb2;have hb3:=hb2.drew;have h2:=h.below hb3;obtain⟨w3,hrun,hm3,hg3⟩:=h2.chg.store (R:=Zd3) @ZhQ h2.ok.c h2.xc underlying125 hC (x:=tx l) (by rw[ZZ,hlen];exact hn) (u:=.agg #[.bool false,.slice none 0 0]) (c:=none) rfl;have h3:Ze w3 X v m c (S.del (tx l)):=h2.turnC hg3 hm3 (h2.ok.c.set _ _);have hcc:=h2.cellsKept h3 ((Za.refl (fun k=>k=m∨k=c) w1.drew).grown hg3 (.inr rfl));have hr2:=hr.below (hb3.mono hB)
  refine⟨hr2.conv k,h2.cells.2.1,w3,hrun,(hr2.keep fun b o hb=>hcc b o (by have:=hb3.size;omega)).conv k,h3.cells.2.1,h3,(Za.of_below hb3).grown hg3 rfl⟩)
 generalize (S.now (tx l)).getD []=d at HL;generalize (S.now (tx l)).isSome=bs at HL ⊢;clear h hr hlen;generalize strOfNums l=st at HS;go_enter func311,ntmps311;go_wp2_with fail;refine HM.out.mono ?_;rintro e w'⟨rfl,rfl⟩;go_wp2_with fail;refine HL.out.mono ?_;rintro e w1⟨u,rfl,hs,hb⟩;obtain⟨p1,p2,w3,p3,p4,p5,p6⟩:=HS.out w1 hb;have HP:=hid p6;clear hs hb p4 p5 p6;go_wp2_with fail
 go_region_with fail
 all_goals
  go_wp2_with fail;go_ret;exact⟨rfl,HP.out⟩
theorem ZpA(w:World)(X:Nat->Prop)(hX:∀k,X k->k<w.heap.size):Calls prog 41 #[.pointer none] w fun e w'=>∃v m c,e=.returned (.pointer (some ⟨v,0,none⟩))/\Ze w' (fun k=>X k∨k=v∨k=m∨k=c) v m c ⟨[],[]⟩/\Below w.heap.size w w'/\w.heap.size<=v/\w.heap.size<=m/\w.heap.size<=c:=by
 have hmk:=@run_makeMap prog;have s0:∀o:Obj,(w.alloc o).heap.size=w.heap.size+1:=fun o=>by simp
 have hM:ZbN SV (w.alloc (.map #[] 0)) X w.heap.size []:=ZbN.made w X;have hb1:Below w.heap.size w (w.alloc (.map #[] 0)):=(Below.refl _ w).alloc (Nat.le_refl _) _
 have HFIN:=hid (show ∃v m c:Nat,(Value.pointer (some ⟨w.heap.size+1+1,0,none⟩))=.pointer (some ⟨v,0,none⟩)/\Ze (((w.alloc (.map #[] 0)).alloc (.map #[] 0)).alloc (.cells #[.iface 160 (.map (some w.heap.size)),.map (some (w.heap.size+1)),.int .i64 0] 127 (0,0))) (fun k=>X k∨k=v∨k=m∨k=c) v m c ⟨[],[]⟩/\Below w.heap.size w (((w.alloc (.map #[] 0)).alloc (.map #[] 0)).alloc (.cells #[.iface 160 (.map (some w.heap.size)),.map (some (w.heap.size+1)),.int .i64 0] 127 (0,0)))/\w.heap.size<=v/\w.heap.size<=m/\w.heap.size<=c from by
  refine⟨_,w.heap.size,w.heap.size+1,rfl,?_,?_,by omega,Nat.le_refl _,by omega⟩
  · have z2:((w.alloc (.map #[] 0)).alloc (.map #[] 0)).heap.size=w.heap.size+1+1:=by simp
    have z3:(((w.alloc (.map #[] 0)).alloc (.map #[] 0)).alloc (.cells #[.iface 160 (.map (some w.heap.size)),.map (some (w.heap.size+1)),.int .i64 0] 127 (0,0))).heap.size=w.heap.size+1+1+1:=by simp
    have hC:ZbN Zd3 ((w.alloc (.map #[] 0)).alloc (.map #[] 0)) X (w.heap.size+1) []:=by
     have:=ZbN.made (R:=Zd3) (w.alloc (.map #[] 0)) X
     rwa[s0]at this
    have g1:(((w.alloc (.map #[] 0)).alloc (.map #[] 0)).alloc (.cells #[.iface 160 (.map (some w.heap.size)),.map (some (w.heap.size+1)),.int .i64 0] 127 (0,0))).heap[w.heap.size]?=(w.alloc (.map #[] 0)).heap[w.heap.size]?:=by
     rw[Below.heap_alloc _ _ _ (by simp;omega),Below.heap_alloc _ _ _ (by simp)]
    have g2:(((w.alloc (.map #[] 0)).alloc (.map #[] 0)).alloc (.cells #[.iface 160 (.map (some w.heap.size)),.map (some (w.heap.size+1)),.int .i64 0] 127 (0,0))).heap[w.heap.size+1]?=((w.alloc (.map #[] 0)).alloc (.map #[] 0)).heap[w.heap.size+1]?:=Below.heap_alloc _ _ _ (by simp);refine⟨by rw[<-z2];exact heap_alloc_new _ _,?_,?_,by omega,.inr (.inl rfl),.inr (.inr (.inl rfl)),.inr (.inr (.inr rfl)),⟨List.Pairwise.nil,List.Pairwise.nil⟩,?_⟩
    · obtain⟨f,h1,h2⟩:=hM;exact⟨_,h1.of_block g1,fun x=>⟨(h2 x).1,fun c hc=>by cases hc⟩⟩
    · obtain⟨f,h1,h2⟩:=hC;exact⟨_,h1.of_block g2,fun x=>⟨(h2 x).1,fun c hc=>by cases hc⟩⟩
    · intro k hk;rw[z3];rcases hk with a|a|a|a
      · have:=hX k a;omega
      · omega
      · omega
      · omega
  · exact(hb1.alloc hb1.size _).alloc (by simp;omega) _)
 clear hM hb1 s0 hX;go_enter func41,ntmps41;go_wp2_with fail;go_ret;obtain⟨v,m,c,e,h⟩:=HFIN.out;exact⟨v,m,c,by exact congrArg Ending.returned e,h⟩
end
end Go.Proofs.YtiknkbpojmgbhaaGreat
