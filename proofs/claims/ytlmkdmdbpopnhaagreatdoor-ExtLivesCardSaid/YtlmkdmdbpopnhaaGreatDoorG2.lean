/- App, Put, NumBackP, CrcP, CrcW, SecP. Conditions: in each theorem. -/
import Derived.Test.YtlmkdmdbpopnhaaGreatDoorG1
import Derived.Laws.AppendOwnNone
import Derived.Laws.CopyOwn
import Derived.OwnWalk
import Derived.Laws.BitsLemmas
set_option maxHeartbeats 800000
set_option maxRecDepth 100000
set_option linter.unusedVariables false
open Go.Proofs.Tryz
open Go.Lib (hid)
namespace Go.Proofs.YtlmkdmdbpopnhaaGreatDoor
open Go.RowKit
theorem Zbg:(prog.info? 5).map (fun i=>(i.zero,i.size,i.bytes))=some (some (.int .u8 0),1,1):=by kernel_rfl
theorem ZnF:(prog.info? 5).map (·.size)=some 1:=by kernel_rfl
theorem ZnG{w:World}{base e size n:Nat}{v:Value}{xs:List Value}(h:w.ownsRow base e size v n xs):∀k,v.ownBlock=some k->base<=k:=by
 intro k hk;rcases h.2 with ⟨rfl,_⟩|⟨g,cap,cur,rfl,hb,_⟩
 · simp[Value.ownBlock]at hk
 · simp[Value.ownBlock]at hk;omega
theorem Zdv{w:World}{base e n:Nat}{v:Value}{xs:List Value}(h:w.ownsRow base e 1 v n xs):∃A c,v=.slice A n c/\n<=c:=by
 rcases h.2 with ⟨rfl,rfl⟩|⟨g,cap,cur,rfl,hb,_,hnc,_⟩
 · exact⟨none,0,rfl,ZZe _⟩
 · exact⟨_,cap,rfl,hnc⟩
theorem Zbh{P:Program}{w:World}(base:Nat)(t ty e:TypeId)(i:TypeInfo)(size:Nat)(ht:P.underlying t=some (.slice e))(hi:P.info? e=some i)
 (v:Value) (n:Nat) (xs:List Value) (hown:w.ownsRow base e size v n xs) (c:Nat) :
 (Builtin.append_ #[t,t] ty #[v,.slice none 0 c]).run P w=.ok v w:=by
 rcases hown.2 with ⟨rfl,rfl⟩|⟨g,cap,cur,rfl,_,_,hnc,_⟩
 · simp[Builtin.append_,run_underlying ht,sizeOf,typeInfo,hi,Builtin.lenOf,Builtin.firstCells]
 · simp[Builtin.append_,run_underlying ht,sizeOf,typeInfo,hi,Builtin.lenOf,Builtin.firstCells,hnc,storeCells]
theorem Zab{w:World}{ops:Array Oper}{rest:List Oper}{o:Oper}{a:Act}{Q:Exit->Act->World->Prop}(hgd:o.guard=none)(s x:Operand)
 (ho:o.op=.call {callee:=.builtin .append,args:=#[s,x],argTypes:=#[55,55]})
 (base:Nat) (v:Value) (n:Nat) (xs:List Int) (hs:a.eval s=v) (hown:w.ownsRow base 5 1 v n (xs.map (Value.int .u8)))
 (B:Nat) (A:Option Addr) (m c:Nat) (l:List Int) (hx:a.eval x=.slice A m c) (hr:RB w B A m l)
 (h63:n+m<=140737488355328) (hbase:base<=w.heap.size)
 (h:∀v' w',w'.ownsRow base 5 1 v' (n+m) ((xs++l).map (Value.int .u8))->w.grownBy w' v.ownBlock->Below base w w'->wpList prog ops Q rest (a.put o.dst v') w'):wpList prog ops Q (o::rest) a w:=by
 obtain⟨i0,hi,hz0,hz1,hz2⟩:=info_parts Zbg;rcases A with _|ad
 · have hm:m=0:=by
    rcases Nat.eq_zero_or_pos m with h0|h0
    · exact h0
    · obtain⟨b,off,e,_⟩:=hr.at_ h0;cases e
   subst hm;have hl:l = []:=List.eq_nil_of_length_eq_zero hr.len;subst hl;refine wpList_plain hgd fun K hK=>?_
   have hrun:=Zbh (P:=prog) (w:=w) base 55 o.type 5 i0 1 underlying55 hi v n _ hown c;unfold Oper.wp;simp[execOp,ho,resolve,invoke,builtin,hs,hx,hrun,Result.andThen];exact hK _ _ (h v w (by simpa using hown) (World.grownBy.refl w _) (Below.refl _ _))
 · refine wpList_append_own w hgd s x 55 ho base 5 i0 (.int .u8 0) 1 1 underlying55 hi hz0 hz1 hz2 rfl (by decide) v n _ hs hown ad m c (l.map (Value.int .u8)) hx (by simp[hr.len]) ?_ (Zai l) (by unfold maxLen;omega) (by omega) hbase ?_
   · intro j u hj;obtain⟨ad',e,hc⟩:=hr.src j u hj;cases e;exact hc
   · intro v' w' h1 h2 _;exact h v' w' (by simpa using h1) h2 ((Below.refl base w).grown h2 hbase (ZnG hown))
theorem Zev{w:World}{base e n:Nat}{v:Value}{l:List Int}(h:w.ownsRow base e 1 v n (l.map (Value.int .u8)))(hl:Ze l):∃A c,v=.slice A n c/\n<=c/\RB w w.heap.size A n l:=by
 obtain⟨A,c,rfl,hc⟩:=Zdv h;exact⟨A,c,rfl,hc,RB.of_own h hl⟩
theorem ZaU{w:World}{base base' e size n:Nat}{v:Value}{xs:List Value}(h:w.ownsRow base e size v n xs)(hb:base'<=base):w.ownsRow base' e size v n xs:=by
 rcases h.2 with h'|⟨g,cap,cur,hv,hg,h3⟩
 · exact⟨h.1,.inl h'⟩
 · exact⟨h.1,.inr ⟨g,cap,cur,hv,ZZf hb hg,h3⟩⟩
theorem ZnH{w w':World}{base e size n:Nat}{v:Value}{xs:List Value}(h:w.ownsRow base e size v n xs)(hb:Below w.heap.size w w'):w'.ownsRow base e size v n xs:=by
 rcases h.2 with h'|⟨g,cap,cur,hv,hg,hh,h3⟩
 · exact⟨h.1,.inl h'⟩
 · have hlt:g<w.heap.size:=by
    rcases Nat.lt_or_ge g w.heap.size with h'|h'
    · exact h'
    · rw[Array.getElem?_eq_none h']at hh;cases hh
   exact⟨h.1,.inr ⟨g,cap,cur,hv,hg,(hb.block g hlt).trans hh,h3⟩⟩
theorem Zhd{w:World}{base e g n:Nat}{xs:List Value}(h:w.ownsRow base e 1 (.slice (some ⟨g,0,none⟩) n n) n xs):w.heap[g]?=some (.cells xs.toArray e (0,0)):=by
 rcases h.2 with ⟨h',_⟩|⟨g',cap',cur,h',_,hg,_,_,hcs,htake⟩
 · simp at h'
 · simp only[Value.slice.injEq,Option.some.injEq,Addr.mk.injEq,and_true,true_and]at h';obtain⟨rfl,rfl⟩:=h';rw[<-htake,List.take_of_length_le (by simp;omega)];simpa using hg
theorem ZhR{w:World}{base e g n:Nat}(h:w.ownsRow base e 1 (.slice (some ⟨g,0,none⟩) n n) n (madeCells (Value.int .u8 0).cells (n*1)).toList):w.heap[g]?=some (.cells (List.replicate n (Value.int .u8 0)).toArray e (0,0)):=by
 have:=Zhd h
 rw[show(Value.int .u8 0).cells = #[Value.int .u8 0]from rfl,toList_madeCells_one,Nat.mul_one]at this;exact this
theorem ZhS{w:World}{B n:Nat}{A:Option Addr}{l:List Int}(h:RB w B A n l)(hp:0<(l.map (Value.int .u8)).length):∃ad,A=some ad/\∀j v,(l.map (Value.int .u8))[j]?=some v->w.cell? (ad.add j)=some v:=by
 obtain⟨ad,rfl,_⟩:=h.src 0 _ (ZZc hp);refine⟨ad,rfl,fun j v hv=>?_⟩;obtain⟨ad',e,hc⟩:=h.src j v hv;cases e;exact hc
def Zng(l:List Int)(x:Int)(k j:Nat)(e:TypeId):Obj:=.cells ((l++(List.replicate (k-j) 0++Zr x j)).map (Value.int .u8)).toArray e (0,0)
theorem Zmn{w:World}{g n k:Nat}{e:TypeId}{l:List Int}{x:Int}(hl:l.length=n)(h:w.heap[g]?=some (.cells (splice (List.replicate (n+k) (Value.int .u8 0)) 0 (l.map (Value.int .u8))).toArray e (0,0))):w.heap[g]?=some (Zng l x k 0 e):=by
 rw[h];subst hl;simp[Zng,splice,Zr,List.drop_replicate]
theorem Zkr{w:World}{g:Nat}{e:TypeId}{l:List Int}{x:Int}{k j m:Nat}(h:w.heap[g]?=some (Zng l x k j e)):w.frozen? ⟨g,m,none⟩=false:=by
 unfold Zng at h;simp[World.frozen?,h]
theorem Zks(l:List Int)(x:Int){k j:Nat}(hj:j<=k):(l++(List.replicate (k-j) 0++Zr x j)).length=l.length+k:=by
 simp[Zc];omega
theorem ZnI{w:World}{g n:Nat}{e:TypeId}{l:List Int}{x:Int}{k j:Nat}(hl:l.length=n)(h:w.heap[g]?=some (Zng l x k j e))(m:Nat)(hm:m<n+k/\j<=k):∃u,w.cell? ⟨g,m,none⟩=some u:=by
 unfold Zng at h;rw[cell_of_row w g m _ e (0,0) h]
 have:=Zks l x hm.2
 exact⟨_,Array.getElem?_eq_getElem (by simp only[List.size_toArray,List.length_map];omega)⟩
theorem ZnJ{w:World}{g n:Nat}{e:TypeId}{l:List Int}{x:Int}{k j m:Nat}(hl:l.length=n)(h:w.heap[g]?=some (Zng l x k j e))(hj:j<k)(hm:m+j+1=n+k) :
 (w.setCell ⟨g,m,none⟩ (.int .u8 (shN x j%256))).heap[g]?=some (Zng l x k (j+1) e):=by
 unfold Zng at h ⊢
 rw[heap_setCell_same w g m _ e _ h];subst hl;obtain⟨d,rfl⟩:∃d,k=j+1+d:=⟨k-(j+1),by omega⟩
 have e1:j+1+d-j=d+1:=by omega
 have e2:j+1+d-(j+1)=d:=by omega
 obtain rfl:m=l.length+d:=by omega
 rw[e1,e2,ZlT]
 congr 2
 rw[<-Array.toList_inj];simp only[Array.toList_setIfInBounds,List.map_append,List.map_cons,List.map_replicate];rw[List.replicate_succ',List.append_assoc,List.set_append_right _ _ (by simp),List.set_append_right _ _ (by simp)];simp
theorem Zo3{w:World}{g:Nat}{e:TypeId}{l:List Int}{x:Int}{k:Nat}(h:w.heap[g]?=some (Zng l x k k e)):w.heap[g]?=some (.cells ((l++Zr x k).map (Value.int .u8)).toArray e (0,0)):=by
 rw[h];simp[Zng]
theorem Zqr(A:Option Addr)(n c B:Nat)(l:List Int)(x:Int)(k:Nat)(w:World)(hr:RB w B A n l)(hB:B<=w.heap.size)(hc:n<=c)(hm:n<=140737488355000)(hs:Zj x (k:Int)=true)(hk8:k<=8)(hxl : -9223372036854775808<=x)(hxh:x<=9223372036854775807) :
 Calls prog 196 #[.slice A n c,.int .i64 x,.int .i64 (k:Int)] w fun e w'=>∃g,e=.returned (.slice (some ⟨g,0,none⟩) (n+k) (n+k))/\w.heap.size<=g/\w'.heap[g]?=some (.cells ((l++Zr x k).map (Value.int .u8)).toArray 5 (0,0))/\Below w.heap.size w w':=by
 obtain⟨i0,hi,hz0,hz1,hz2⟩:=info_parts Zbg;have HS:=hid hs;clear hs;go_enter func196,ntmps196
 go_wp2_with (first
  | (go_at_call 201;refine(ZcB _ _ _ HS.out).mono ?_;rintro e w' ⟨rfl,rfl⟩)
  | (refine wpList_make_full w rfl _ _ 55 rfl w.heap.size 5 i0 (.int .u8 0) 1 underlying55 hi hz0 hz1 .i64 .i64 _ _ (n+k) rfl rfl (by simp) (by simp) (by rw[hz2];omega) (by unfold maxLen;omega) (ZZe _) ?_;intro w1 hown1 hg1;have hb1:Below w.heap.size w w1:=(Below.refl _ _).grown hg1 (ZZe _) (by simp);have hblk1:=hid (ZhR hown1);clear hown1 hg1)
  | (with_reducible refine wpList_copy_splice rfl (.tmp 18) (.tmp 19) 55 55 rfl 5 underlying55 ZnF _ _ _ _ _ _ rfl rfl w.heap.size 0 (List.replicate (n+k) (Value.int .u8 0)) 5 hblk1.out (l.map (Value.int .u8)) (by rw[List.length_map,hr.len];exact(Nat.min_eq_left (by omega)).symm) (fun hp=>⟨rfl,ZhS (hr.below (hb1.mono hB)) hp⟩) (by rw[List.length_map,List.length_replicate,hr.len];omega) (Zai l) w.heap.size w hb1 (ZZe _) ?_;intro w2 hblk2 hb2))
 have hblk:=hid (Zmn (x:=x) hr.len hblk2.out);clear hblk2 hblk1 hb1
 go_loopw[1,8] (fun xn i wr=>∃(j:Nat) (z:Int),j<=k/\z+j+1<=n+k/\(n:Int)+k<=z+j+1/\i=.int .i64 z/\xn=.int .i64 (shN x j)/\Hid (wr.heap[w.heap.size]?=some (Zng l x k j 5))/\Below w.heap.size w wr)
  (fun _ i _=>(intOf i+1-(n:Int)).toNat)
 case atStart=>exact⟨0,_,Nat.zero_le _,by omega,by omega,rfl,rfl,hblk,hb2⟩
 case round=>
  obtain⟨j,z,hj,hz1,hz2,rfl,rfl,hblkj,hbj⟩:=hrel;clear hblk;by_cases hlt:j<k
  · obtain⟨m,rfl⟩:=Int.eq_ofNat_of_zero_le (show 0<=z by omega);have hfz:wr.frozen? ⟨w.heap.size,m,none⟩=false:=Zkr hblkj.out;obtain⟨u,hu⟩:=ZnI hr.len hblkj.out m ⟨by omega,by omega⟩;obtain⟨hx0,hx1⟩:=ZlU x hxl hxh j;have hnm:n<=m:=by omega
    have hmk:m<n+k:=by omega
    go_wp2;have hstep:=hid (ZnJ hr.len hblkj.out hlt (m:=m) (by omega));clear hu hfz hblkj;go_roundw
    case rel=>exact⟨j+1,_,by omega,by omega,by omega,rfl,rfl,hstep,hbj.setCell (ZZe _) _⟩
    case measure=>simp[intOf];omega
  · have hjk:j=k:=by omega
    subst hjk;have hend:=hid (Zo3 hblkj.out);have hzn:z<n:=by omega
    clear hblkj;go_wp2;go_ret;exact⟨_,rfl,ZZe _,hend.out,hbj⟩
theorem Zkt{w:World}{g n:Nat}{e:TypeId}{l:List Int}(hl:l.length=n)(h:w.heap[g]?=some (.cells (splice (List.replicate n (Value.int .u8 0)) 0 (l.map (Value.int .u8))).toArray e (0,0))):w.heap[g]?=some (.cells (l.map (Value.int .u8)).toArray e (0,0)):=by
 rw[h];subst hl;simp[splice]
theorem Zrb(A:Option Addr)(n c B:Nat)(l:List Int)(x s:Int)(w:World)(hr:RB w B A n l)(hB:B<=w.heap.size)(hc:n<=c)(hm:n<=140737488355000)(hs:Zj x s=false) :
 Calls prog 196 #[.slice A n c,.int .i64 x,.int .i64 s] w fun e w'=>∃g,e=.returned (.slice (some ⟨g,0,none⟩) n n)/\w.heap.size<=g/\w'.heap[g]?=some (.cells (l.map (Value.int .u8)).toArray 5 (0,0))/\Below w.heap.size w w':=by
 obtain⟨i0,hi,hz0,hz1,hz2⟩:=info_parts Zbg;have HS:=hid hs;clear hs;go_enter func196,ntmps196
 go_wp2_with (first
  | (go_at_call 201;refine(ZfK _ _ _ HS.out).mono ?_;rintro e w' ⟨rfl,rfl⟩)
  | (refine wpList_make_full w rfl _ _ 55 rfl w.heap.size 5 i0 (.int .u8 0) 1 underlying55 hi hz0 hz1 .i64 .i64 _ _ n rfl rfl (by simp) (by simp) (by rw[hz2];omega) (by unfold maxLen;omega) (ZZe _) ?_;intro w1 hown1 hg1;have hb1:Below w.heap.size w w1:=(Below.refl _ _).grown hg1 (ZZe _) (by simp);have hblk1:=hid (ZhR hown1);clear hown1 hg1)
  | (with_reducible refine wpList_copy_splice rfl (.tmp 18) (.tmp 19) 55 55 rfl 5 underlying55 ZnF _ _ _ _ _ _ rfl rfl w.heap.size 0 (List.replicate n (Value.int .u8 0)) 5 hblk1.out (l.map (Value.int .u8)) (by rw[List.length_map,hr.len];exact(Nat.min_eq_left (by omega)).symm) (fun hp=>⟨rfl,ZhS (hr.below (hb1.mono hB)) hp⟩) (by rw[List.length_map,List.length_replicate,hr.len];omega) (Zai l) w.heap.size w hb1 (ZZe _) ?_;intro w2 hblk2 hb2))
 have hblk:=hid (Zkt hr.len hblk2.out);clear hblk2 hblk1 hb1;refine wp_loop_rounds 1 ?_;rw[rounds_succ];go_wp2;go_ret;exact⟨_,rfl,ZZe _,hblk.out,hb2⟩
def ZhT(l:List Int)(x s:Int):List Int:=if Zj x s=true then l++Zr x s.toNat else l
theorem right_size{x s:Int}(h:Zj x s=true):s=1∨s=2∨s=4∨s=8:=by
 by_cases hs:ZbP s=true
 · exact size_cases hs
 · rw[Zd5 (by simpa using hs)]at h;cases h
def Zqs(w w':World)(e:TypeId)(v:Value)(l:List Int):Prop:=∃g,v=.slice (some ⟨g,0,none⟩) l.length l.length/\w.heap.size<=g/\w'.heap[g]?=some (.cells (l.map (Value.int .u8)).toArray e (0,0))
theorem ZhU(A:Option Addr)(n c B:Nat)(l:List Int)(x s:Int)(w:World)(hr:RB w B A n l)(hB:B<=w.heap.size)(hc:n<=c)(hm:n<=140737488355000)(hxl : -9223372036854775808<=x)(hxh:x<=9223372036854775807) :
 Calls prog 196 #[.slice A n c,.int .i64 x,.int .i64 s] w fun e w'=>∃v,e=.returned v/\Zqs w w' 5 v (ZhT l x s)/\Below w.heap.size w w':=by
 unfold ZhT;by_cases h:Zj x s=true
 · rw[if_pos h];have hc4:=right_size h;obtain⟨k,rfl⟩:=Int.eq_ofNat_of_zero_le (show 0<=s by omega);refine(Zqr A n c B l x k w hr hB hc hm h (by omega) hxl hxh).mono ?_;rintro e w'⟨g,rfl,h1,h2,h3⟩;refine⟨_,rfl,⟨g,?_,h1,h2⟩,h3⟩;simp[Zc,hr.len]
 · rw[if_neg h];refine(Zrb A n c B l x s w hr hB hc hm (by simpa using h)).mono ?_;rintro e w'⟨g,rfl,h1,h2,h3⟩;exact⟨_,rfl,⟨g,by rw[hr.len],h1,h2⟩,h3⟩
theorem Zqs.own{w w':World}{e:TypeId}{v:Value}{l:List Int}(h:Zqs w w' e v l)(hm:l.length<=maxLen):w'.ownsRow w.heap.size e 1 v l.length (l.map (Value.int .u8)):=by
 obtain⟨g,rfl,hb,hg⟩:=h;exact⟨by simp,.inr ⟨g,l.length,_,rfl,hb,hg,ZZe _,hm,by simp,by rw[Nat.mul_one];exact List.take_of_length_le (by simp)⟩⟩
theorem Zku(l:List Int)(x s:Int):(ZhT l x s).length<=l.length+8:=by
 unfold ZhT;by_cases h:Zj x s=true
 · rw[if_pos h,List.length_append,Zc]
   have:=right_size h
   omega
 · rw[if_neg h];omega
theorem Zkv(A:Option Addr)(n c B:Nat)(l:List Int)(x s:Int)(w:World)(hr:RB w B A n l)(hB:B<=w.heap.size)(hc:n<=c)(hm:n<=140737488355000)(hxl : -9223372036854775808<=x)(hxh:x<=9223372036854775807) :
 Calls prog 196 #[.slice A n c,.int .i64 x,.int .i64 s] w fun e w'=>∃v,e=.returned v/\w'.ownsRow w.heap.size 5 1 v (ZhT l x s).length ((ZhT l x s).map (Value.int .u8))/\Below w.heap.size w w':=by
 refine(ZhU A n c B l x s w hr hB hc hm hxl hxh).mono ?_;rintro e w'⟨v,rfl,hf,hb⟩
 have:=Zku l x s
 have:=hr.len
 exact⟨v,rfl,hf.own (by unfold maxLen;omega),hb⟩
theorem Zcc{x s:Int}(h:Zj x s=true)(hxl : -9223372036854775808<=x)(hxh:x<=9223372036854775807):numOf (Zr x s.toNat)=x:=by
 rw[ZdM _ (ZW _ _),Zni];rcases right_size h with rfl|rfl|rfl|rfl
 · have hb:0<=x/\x<256:=by simpa[Zj] using h
   rw[show(256:Int)^(1:Int).toNat=256 from rfl]
   unfold wrap64;omega
 · have hb:0<=x/\x<65536:=by simpa[Zj] using h
   rw[show(256:Int)^(2:Int).toNat=65536 from rfl]
   unfold wrap64;omega
 · have hb:0<=x/\x<4294967296:=by simpa[Zj] using h
   rw[show(256:Int)^(4:Int).toNat=4294967296 from rfl]
   unfold wrap64;omega
 · rw[show(256:Int)^(8:Int).toNat=18446744073709551616 from rfl]
   unfold wrap64;omega
theorem Zqt{l:List Int}{x s:Int}(h:Zj x s=true)(hxl : -9223372036854775808<=x)(hxh:x<=9223372036854775807):getR (ZhT l x s) (l.length:Int) s=(x,0):=by
 have hs:ZbP s=true:=by
  rcases right_size h with rfl|rfl|rfl|rfl <;> decide
 obtain⟨k,rfl⟩:=Int.eq_ofNat_of_zero_le (show 0<=s by rcases right_size h with h|h|h|h <;> omega);have hn:=Zcc h hxl hxh;unfold getR ZhT;rw[if_pos h,if_pos ⟨hs,by omega⟩,if_neg (by simp[Zc])];simp only[Int.toNat_natCast]at hn ⊢;rw[List.drop_left,List.take_of_length_le (by rw[Zc];exact ZZe _),hn]
def ZeQ(x:Nat):Nat:=if x%2=1 then(x/2) ^^^ 3988292384 else x/2
def ZnK(s c:Nat):Nat:=ZeQ (ZeQ (ZeQ (ZeQ (ZeQ (ZeQ (ZeQ (ZeQ (s ^^^ c))))))))
def Zo4:List Nat:=[0,498536548,997073096,651767980,1994146192,1802195444,1303535960,1342533948,3988292384,4027552580,3604390888,3412177804,2607071920,2262029012,2685067896,3183342108]
def nib(x:Nat):Nat:=(x/16) ^^^ (Zo4[x%16]?.getD 0)
def runB(s:Nat)(l:List Nat):Nat:=l.foldl ZnK s
theorem Zo5(a b:Nat):(a ^^^ b)/2=a/2 ^^^ b/2:=by
 have:=Nat.shiftRight_xor_distrib (a:=a) (b:=b) (i:=1)
 simpa[Nat.shiftRight_succ] using this
theorem Zmo(a b:Nat):(a ^^^ b)%2=(a+b)%2:=by
 have h:=Nat.xor_mod_two_pow (a:=a) (b:=b) (n:=1);simp only[Nat.pow_one]at h;rw[h];rcases Nat.mod_two_eq_zero_or_one a with ha|ha <;> rcases Nat.mod_two_eq_zero_or_one b with hb|hb <;> rw[ha,hb]
 · rw[show(a+b)%2=0 from by omega];rfl
 · rw[show(a+b)%2=1 from by omega];rfl
 · rw[show(a+b)%2=1 from by omega];rfl
 · rw[show(a+b)%2=0 from by omega];rfl
theorem ZfO(a b:Nat):ZeQ (a ^^^ b)=ZeQ a ^^^ ZeQ b:=by
 unfold ZeQ;rw[Zmo,Zo5];rcases Nat.mod_two_eq_zero_or_one a with ha|ha <;> rcases Nat.mod_two_eq_zero_or_one b with hb|hb
 · rw[if_neg (by omega),if_neg (by omega),if_neg (by omega)]
 · rw[if_pos (by omega),if_neg (by omega),if_pos hb,Nat.xor_assoc]
 · rw[if_pos (by omega),if_pos ha,if_neg (by omega),Nat.xor_assoc,Nat.xor_assoc,Nat.xor_comm (b/2)]
 · rw[if_neg (by omega),if_pos ha,if_pos hb];rw[Nat.xor_assoc,Nat.xor_comm 3988292384,Nat.xor_assoc,Nat.xor_self,Nat.xor_zero]
theorem Zew(q:Nat):ZeQ (2*q)=q:=by
 unfold ZeQ;rw[if_neg (by omega)];omega
theorem Zp4(x:Nat):nib x=ZeQ (ZeQ (ZeQ (ZeQ x))):=by
 have hx:x=(16*(x/16)) ^^^ (x%16):=by
  have h:=Nat.two_pow_add_eq_or_of_lt (i:=4) (b:=x%16) (by omega) (x/16)
  have h2:16*(x/16) ^^^ x%16=16*(x/16) ||| x%16:=by
   apply Nat.eq_of_testBit_eq;intro i;rw[Nat.testBit_xor,Nat.testBit_or];rcases Nat.lt_or_ge i 4 with hi|hi
   · have:(16*(x/16)).testBit i=false:=by
      have:=Nat.testBit_two_pow_mul (i:=4) (a:=x/16) (j:=i)
      simp only[show(2:Nat)^4=16 from rfl]at this;rw[this];simp;omega
     rw[this];simp
   · have:(x%16).testBit i=false:=Nat.testBit_lt_two_pow (ZZd (show x%16<2^4 by omega) (Nat.pow_le_pow_right (by decide) hi))
     rw[this];simp
  rw[h2,<-show(2:Nat)^4=16 from rfl,<-h];omega
 have hlow:∀r,r<16->ZeQ (ZeQ (ZeQ (ZeQ r)))=Zo4[r]?.getD 0:=by decide
 have hhigh:ZeQ (ZeQ (ZeQ (ZeQ (16*(x/16)))))=x/16:=by
  rw[show 16*(x/16)=2*(8*(x/16))from by omega,Zew,show 8*(x/16)=2*(4*(x/16))from by omega,Zew,
   show 4*(x/16)=2*(2*(x/16))from by omega,Zew,Zew]
 conv=>rhs;rw[hx]
 rw[ZfO,ZfO,ZfO,ZfO,hhigh,hlow _ (by omega)];rfl
theorem ZnL(s c:Nat):ZnK s c=nib (nib (s ^^^ c)):=by
 rw[Zp4,Zp4];rfl
theorem Zdw{x:Nat}(h:x<4294967296):ZeQ x<4294967296:=by
 unfold ZeQ;split
 · exact Nat.xor_lt_two_pow (n:=32) (by omega) (by decide)
 · omega
theorem ZiY{a b:Nat}(ha:a<4294967296)(hb:b<4294967296):a ^^^ b<4294967296:=Nat.xor_lt_two_pow (n:=32) ha hb
theorem Zo6{s c:Nat}(hs:s<4294967296)(hc:c<4294967296):ZnK s c<4294967296:=
 Zdw (Zdw (Zdw (Zdw (Zdw (Zdw (Zdw (Zdw (ZiY hs hc))))))))
theorem ZnM{l:List Nat}(hl:∀c∈l,c<256){s:Nat}(hs:s<4294967296):runB s l<4294967296:=by
 induction l generalizing s with
 | nil=>exact hs
 | cons c l ih=>exact ih (fun d hd=>hl d (List.mem_cons_of_mem _ hd)) (Zo6 hs (by have:=hl c (List.mem_cons_self ..);omega))
end Go.Proofs.YtlmkdmdbpopnhaaGreatDoor
namespace Go.Proofs.YtlmkdmdbpopnhaaGreatDoor
open Go.RowKit
def Tab(w:World):Prop:=∀i,i<16->w.cell? ⟨1,i,none⟩=some (.int .u32 ((Zo4[i]?.getD 0:Nat):Int))
theorem Tab.below{w w':World}{B:Nat}(h:Tab w)(hb:Below B w w')(hB:1<B):Tab w':=fun i hi=>(hb.cell (p:=⟨1,i,none⟩) hB).trans (h i hi)
theorem Zex(a b:Nat)(ha:a<4294967296)(hb:b<4294967296):bits .xor .u32 (a:Int) (b:Int)=((a ^^^ b:Nat):Int)/\bits .and .u32 (a:Int) (b:Int)=((a &&& b:Nat):Int):=by
 have hw:∀n:Int,0<=n->n<4294967296->IntKind.u32.wrap n=n:=fun n h0 h1=>by rw[IntKind.wrap_u32];omega
 have ha':a%4294967296=a:=Nat.mod_eq_of_lt ha;have hb':b%4294967296=b:=Nat.mod_eq_of_lt hb;constructor
 · simp only[bits,BitVec.ofInt_natCast,BitVec.toNat_xor,BitVec.toNat_ofNat];rw[show(2:Nat)^IntKind.u32.bits=4294967296 from rfl,ha',hb'];exact hw _ (Int.natCast_nonneg _) (by have:=ZiY ha hb;omega)
 · simp only[bits,BitVec.ofInt_natCast,BitVec.toNat_and,BitVec.toNat_ofNat];rw[show(2:Nat)^IntKind.u32.bits=4294967296 from rfl,ha',hb'];exact hw _ (Int.natCast_nonneg _) (by have:=Nat.and_lt_two_pow a (n:=32) (show b<2^32 from hb);omega)
theorem ZnN(i:Nat):Zo4[i]?.getD 0<4294967296:=by
 rcases Nat.lt_or_ge i 16 with h|h
 · revert h;revert i;decide
 · rw[List.getElem?_eq_none (by simpa[Zo4] using h)];decide
theorem Zrc{x:Nat}(h:x<4294967296):nib x<4294967296:=ZiY (by omega) (ZnN _)
theorem Zlk(x:Nat)(h:x<4294967296):bits .and .u32 (x:Int) 15=((x%16:Nat):Int)/\bits .xor .u32 ((x:Int)/16) ((Zo4[x%16]?.getD 0:Nat):Int)=((nib x:Nat):Int):=by
 constructor
 · have:=(Zex x 15 h (by decide)).2
   rw[show x &&& 15=x%16 from Nat.and_two_pow_sub_one_eq_mod x 4]at this;exact this
 · have:=(Zex (x/16) _ (by omega) (ZnN (x%16))).1
   rw[<-show((x/16:Nat):Int)=(x:Int)/16 from by omega];exact this
theorem Zo7(s c:Nat)(hs:s<4294967296)(hc:c<256)(w:World)(ht:Tab w) :
 Calls prog 234 #[.int .u32 (s:Int),.int .u8 (c:Int)] w fun e w'=>e=.returned (.int .u32 ((ZnK s c:Nat):Int))/\w=w':=by
 rw[ZnL];have f1:=(Zex s c hs (by omega)).1;have hx:s ^^^ c<4294967296:=ZiY hs (by omega);generalize s ^^^ c=x at f1 hx ⊢;obtain⟨f2,f3⟩:=Zlk x hx;have hy:=Zrc hx;have c1:=ht (x%16) (Nat.mod_lt _ (by decide));generalize nib x=y at f3 hy ⊢;obtain⟨f4,f5⟩:=Zlk y hy;have c2:=ht (y%16) (Nat.mod_lt _ (by decide));generalize nib y=z at f5 ⊢;have hi:x%16<16:=Nat.mod_lt _ (by decide);have hj:y%16<16:=Nat.mod_lt _ (by decide);generalize Zo4[x%16]?.getD 0=t at c1 f3;generalize Zo4[y%16]?.getD 0=u at c2 f5;generalize x%16=i at c1 f2 hi;generalize y%16=j at c2 f4 hj;clear ht;go_enter func234,ntmps234;go_wp2;go_ret;exact⟨rfl,rfl⟩
def Zdx(l:List Int):Nat:=runB 4294967295 (l.map Int.toNat) ^^^ 4294967295
theorem Zll{l:List Int}(h:Ze l):∀c∈l.map Int.toNat,c<256:=by
 intro c hc;obtain⟨x,hx,rfl⟩:=List.mem_map.1 hc
 have:=h x hx
 omega
theorem Zo8(l:List Int)(k:Nat)(h:k<l.length):runB 4294967295 ((l.map Int.toNat).take (k+1))=ZnK (runB 4294967295 ((l.map Int.toNat).take k)) (l[k]?.getD 0).toNat:=by
 rw[List.take_succ_eq_append_getElem (by simpa using h)];simp[runB,ZZc h]
theorem Zqu(l:List Int)(k:Nat)(h:l.length=k):runB 4294967295 ((l.map Int.toNat).take k) ^^^ 4294967295=Zdx l:=by
 rw[List.take_of_length_le (by simp;omega)];rfl
theorem Zo9(s:Nat)(h:s<4294967296):bits .xor .u32 IntKind.u32.max (s:Int)=((s ^^^ 4294967295:Nat):Int)/\bits .xor .u32 (s:Int) 4294967295=((s ^^^ 4294967295:Nat):Int):=by
 constructor
 · rw[Nat.xor_comm];exact(Zex 4294967295 s (by decide) h).1
 · exact(Zex s 4294967295 h (by decide)).1
theorem Zqv(A:Option Addr)(n c B:Nat)(l:List Int)(w:World)(hr:RB w B A n l)(hm:n<=maxLen)(ht:Tab w) :
 Calls prog 199 #[.slice A n c] w fun e w'=>e=.returned (.int .u32 ((Zdx l:Nat):Int))/\w=w':=by
 unfold maxLen at hm;have hall:∀k,runB 4294967295 ((l.map Int.toNat).take k)<4294967296:=fun k=>ZnM (fun c hc=>Zll hr.bytes c (List.mem_of_mem_take hc)) (by decide)
 have HA:=hid hall;clear hall;go_enter func199,ntmps199;go_wp2
 go_loop[3,8] (fun v i=>∃k:Nat,k<=n/\i=.int .i64 k/\v=.int .u32 ((runB 4294967295 ((l.map Int.toNat).take k):Nat):Int)) (fun _ i=>n-(intOf i).toNat)
 case atStart=>exact⟨0,Nat.zero_le _,rfl,rfl⟩
 case round=>
  obtain⟨k,hk,rfl,rfl⟩:=hrel;have hsk:=HA.out k;by_cases hlt:k<n
  · obtain⟨b,off,rfl,hb,hcell⟩:=hr.at_ (by omega);have hck:=hcell k hlt;obtain⟨hb0,hb1⟩:=hr.bytes.getD k;have hst:=hid (Zo8 l k (by have:=hr.len;omega));obtain⟨x,hx⟩:=Int.eq_ofNat_of_zero_le hb0;rw[hx]at hck hb1 hst;clear hcell hx hb0;have hx256:x<256:=by omega
    generalize runB 4294967295 ((l.map Int.toNat).take k)=s at hsk hst ⊢
    go_wp2_with (go_at_call 234;refine(Zo7 s x hsk hx256 _ ht).mono ?_;rintro e w' ⟨rfl,rfl⟩)
    go_round
    case rel=>exact⟨k+1,by omega,by go_num,by rw[hst.out];simp⟩
    case measure=>simp[intOf];omega
  · obtain rfl:k=n:=by omega
    have hend:=Zqu l k hr.len;generalize runB 4294967295 ((l.map Int.toNat).take k)=s at hsk hend ⊢;obtain⟨hx1,hx2⟩:=Zo9 s hsk;rw[hend]at hx1 hx2;have hsg:IntKind.u32.signed=false:=rfl;clear hend;go_wp2;go_ret;exact⟨rfl,rfl⟩
theorem ZfP{l:List Int}(h:Ze l):Zdx l<4294967296:=ZiY (ZnM (Zll h) (by decide)) (by decide)
def Zey(p s:Int):Bool:=decide (0<=p/\p<4294967296/\0<=s/\s<=4611686018427387904)
def Zbi(p s:Int)(l:List Int):List Int:=Zr p 4++Zr s 8++l
def Zav(p s:Int)(l:List Int):List Int:=Zr (Zdx (Zbi p s l):Int) 4++Zbi p s l
def Zdl(p s:Int)(l:List Int):List Int×Int:=if Zey p s=true/\l.length=240 then(Zav p s l,0)else([],1)
def Zkw(l:List Int):Prop:=l.length=256/\numOf (l.take 4)=(Zdx (l.drop 4):Int)/\Zey (numOf ((l.drop 4).take 4)) (numOf ((l.drop 8).take 8))=true
instance (l:List Int):Decidable (Zkw l):=by unfold Zkw;infer_instance
def Zd(l:List Int):Int×Int×List Int×Int:=if Zkw l then(numOf ((l.drop 4).take 4),numOf ((l.drop 8).take 8),l.drop 16,0)else(0,0,[],4)
theorem Zhe{p s:Int}(h:Zey p s=true):Zj p 4=true/\Zj s 8=true:=by
 have h':=of_decide_eq_true h;obtain⟨a,b,c,d⟩:=h';exact⟨by simp[Zj,a,b],by simp[Zj]⟩
theorem Zge{l:List Int}(h:Ze l):Zj (Zdx l:Int) 4=true:=by
 have:=ZfP h
 have b:((Zdx l:Nat):Int)<4294967296:=by omega
 simp[Zj,b]
theorem ZiZ{p s:Int}(h:Zey p s=true) : -9223372036854775808<=p/\p<=9223372036854775807/\-9223372036854775808<=s/\s<=9223372036854775807:=by
 have h':=of_decide_eq_true h;omega
theorem ZbZ(p s:Int){l:List Int}(h:Ze l):Ze (Zbi p s l):=(Ze.append (ZW _ _) (ZW _ _)).append h
theorem ZgX(p s:Int)(l:List Int):(Zbi p s l).length=l.length+12:=by
 simp[Zbi,Zc];omega
theorem Zhf(p s:Int){l:List Int}(h:Ze l):Ze (Zav p s l):=Ze.append (ZW _ _) (ZbZ p s h)
theorem ZaV(p s:Int)(l:List Int):(Zav p s l).length=l.length+16:=by
 simp[Zav,Zc,ZgX];omega
theorem Zmp(p s:Int)(l:List Int):(Zav p s l).take 4=Zr (Zdx (Zbi p s l):Int) 4/\(Zav p s l).drop 4=Zbi p s l/\((Zav p s l).drop 4).take 4=Zr p 4/\((Zav p s l).drop 8).take 8=Zr s 8/\(Zav p s l).drop 16=l:=by
 have e1:(Zav p s l).drop 4=Zbi p s l:=by
  unfold Zav;rw[List.drop_append_of_le_length (by rw[Zc];omega),List.drop_of_length_le (by rw[Zc];omega),List.nil_append]
 have e2:(Zbi p s l).drop 4=Zr s 8++l:=by
  unfold Zbi;rw[List.append_assoc,List.drop_append_of_le_length (by rw[Zc];omega),List.drop_of_length_le (by rw[Zc];omega),List.nil_append]
 refine⟨?_,e1,?_,?_,?_⟩
 · unfold Zav;rw[List.take_append_of_le_length (by rw[Zc];omega),List.take_of_length_le (by rw[Zc];omega)]
 · rw[e1];unfold Zbi;rw[List.append_assoc,List.take_append_of_le_length (by rw[Zc];omega),List.take_of_length_le (by rw[Zc];omega)]
 · rw[show 8=4+4 from rfl,<-List.drop_drop,e1,e2];rw[List.take_append_of_le_length (by rw[Zc];omega),List.take_of_length_le (by rw[Zc];omega)]
 · rw[show 16=4+(4+8)from rfl,<-List.drop_drop,e1,<-List.drop_drop,e2,List.drop_append_of_le_length (by rw[Zc];omega),List.drop_of_length_le (by rw[Zc];omega),List.nil_append]
theorem Zec{p s:Int}{l:List Int}(hl:Ze l)(h:Zey p s=true)(hn:l.length=240):Zd (Zav p s l)=(p,s,l,0):=by
 obtain⟨e1,e2,e3,e4,e5⟩:=Zmp p s l;obtain⟨r1,r2⟩:=Zhe h;obtain⟨b1,b2,b3,b4⟩:=ZiZ h;have hsum:=ZfP (ZbZ p s hl);have n1:numOf (Zr p 4)=p:=Zcc r1 b1 b2;have n2:numOf (Zr s 8)=s:=Zcc r2 b3 b4;have n3:numOf (Zr (Zdx (Zbi p s l):Int) 4)=(Zdx (Zbi p s l):Int):=Zcc (Zge (ZbZ p s hl)) (by omega) (by omega);have hsec:Zkw (Zav p s l):=⟨by rw[ZaV,hn],by rw[e1,n3,e2],by rw[e3,e4,n1,n2];exact h⟩
 unfold Zd;rw[if_pos hsec,e3,e4,e5,n1,n2]
theorem Zkx{l:List Int}(h:Ze l)(hn:l.length=4):Zr (numOf l) 4=l:=by
 match l,hn with
 | [a,b,c,d],_=>
  have ha:=h a (by simp);have hb:=h b (by simp);have hc:=h c (by simp);have hd:=h d (by simp);rw[ZdM _ h];simp only[beOf,List.foldl_cons,List.foldl_nil,Zr,List.nil_append,List.cons_append,List.cons.injEq,and_true];unfold wrap64;refine⟨by omega,by omega,by omega,by omega⟩
end Go.Proofs.YtlmkdmdbpopnhaaGreatDoor
