/- Ints, DiskP, IntApp. Conditions: in each theorem. -/
import Derived.Test.YtiknkbpojmgbhaaGreatBase
import Derived.Deep.Slices
import Derived.Deep.Fields
import Derived.ChangeSame
import Derived.ProofKit
import Derived.Laws.AppendOwnNone
import Derived.Deep.AppendLies
set_option maxRecDepth 100000
set_option linter.unusedVariables false
open Go.Proofs.Tryz
namespace Go.Proofs.YtiknkbpojmgbhaaGreat
open Go.RowKit
def RI(w:World)(B:Nat)(A:Option Addr)(n:Nat)(l:List Int):Prop:=
 l.length=n/\(∀x∈l,-9223372036854775808<=x/\x<=9223372036854775807)/\(0<n->∃b off,A=some ⟨b,off,none⟩/\b<B/\∀j,j<n->w.cell? ⟨b,off+j,none⟩=some (.int .i64 (l[j]?.getD 0)))
theorem RI.nil_{w:World}{B:Nat}{A:Option Addr}:RI w B A 0 []:=⟨rfl,(fun _ h=>by cases h),fun h=>absurd h (by omega)⟩
theorem RI.len{w:World}{B n:Nat}{A:Option Addr}{l:List Int}(h:RI w B A n l):l.length=n:=h.1
theorem RI.keep{w w':World}{B n:Nat}{A:Option Addr}{l:List Int}(h:RI w B A n l)(hk:∀b o,b<B->w'.cell? ⟨b,o,none⟩=w.cell? ⟨b,o,none⟩):RI w' B A n l:=
 ⟨h.1,h.2.1,fun hn=>by
  obtain⟨b,off,e,hb,hc⟩:=h.2.2 hn
  exact⟨b,off,e,hb,fun j hj=>(hk _ _ hb).trans (hc j hj)⟩⟩
theorem RI.below{w w':World}{B n:Nat}{A:Option Addr}{l:List Int}(h:RI w B A n l)(hb:Below B w w'):RI w' B A n l:=h.keep fun b o hp=>hb.cell (p:=⟨b,o,none⟩) hp
theorem RI.more{w:World}{B B' n:Nat}{A:Option Addr}{l:List Int}(h:RI w B A n l)(hB:B<=B'):RI w B' A n l:=
 ⟨h.1,h.2.1,fun hn=>by
  obtain⟨b,off,e,hb,hc⟩:=h.2.2 hn
  exact⟨b,off,e,by omega,hc⟩⟩
theorem ZcI{n:Int}(h:(Lit.int .i64 n).wf=true) : -9223372036854775808<=n/\n<=9223372036854775807:=by
 simp[Lit.wf,IntKind.min,IntKind.max,IntKind.signed,IntKind.bits]at h;omega
theorem Zdr(b off j:Nat):Addr.add ⟨b,off,none⟩ j=⟨b,off+j,none⟩:=by unfold Addr.add;split <;> simp_all
structure Za(F:Nat->Prop)(w w':World):Prop where
 os:w'.os=w.os
 tape:w'.tape=w.tape
 output:w'.output=w.output
 size:w.heap.size<=w'.heap.size
 block:∀k,k<w.heap.size->¬F k->w'.heap[k]?=w.heap[k]?
theorem Za.refl(F:Nat->Prop)(w:World):Za F w w:=⟨rfl,rfl,rfl,Nat.le_refl _,fun _ _ _=>rfl⟩
theorem Za.below{F:Nat->Prop}{B:Nat}{w w':World}(h:Za F w w')(hF:∀k,F k->B<=k)(hB:B<=w.heap.size):Below B w w':=
 ⟨h.os,h.tape,h.output,h.size,fun k hk=>h.block k (by omega) (fun hf=>by have:=hF k hf;omega)⟩
theorem Za.of_below{F:Nat->Prop}{w w':World}(h:Below w.heap.size w w'):Za F w w':=⟨h.os,h.tape,h.output,h.size,fun k hk _=>h.block k hk⟩
theorem Zhj:(prog.info? 3).map (fun i=>(i.zero,i.size,i.bytes))=some (some (.int .i64 0),1,8):=by kernel_rfl
theorem RI.of_own{w:World}{base e c n:Nat}{A:Option Addr}{l:List Int}(h:w.ownsRow base e 1 (.slice A n c) n (l.map (Value.int .i64)))(hl:∀x∈l,-9223372036854775808<=x/\x<=9223372036854775807):RI w w.heap.size A n l/\(0<n->∀a,A=some a->base<=a.block):=by
 have hlen:l.length=n:=by simpa using h.1
 rcases h.2 with ⟨_,h0⟩|⟨g,cap,cur,hv,hbg,hg,_,_,_,htake⟩
 · exact⟨⟨hlen,hl,fun hn=>by omega⟩,fun hn=>by omega⟩
 · have hA:A=some ⟨g,0,none⟩:=by injection hv
   subst hA
   have hlt:g<w.heap.size:=by
    rcases Nat.lt_or_ge g w.heap.size with h'|h'
    · exact h'
    · rw[Array.getElem?_eq_none h']at hg;cases hg
   refine⟨⟨hlen,hl,fun _=>⟨g,0,rfl,hlt,fun j hj=>?_⟩⟩,fun _ a ha=>by cases ha;exact hbg⟩;have e1:(l.map (Value.int .i64))[j]?=some (.int .i64 (l[j]?.getD 0)):=by simp[List.getElem?_eq_getElem (show j<l.length by omega)]
   rw[Nat.zero_add,cell_of_row w g j cur e (0,0) hg,<-e1,<-htake,List.getElem?_take,if_pos (by omega)];simp
theorem Zl0{w:World}{base e size n:Nat}{v:Value}{xs:List Value}(h:w.ownsRow base e size v n xs):∀k,v.ownBlock=some k->base<=k:=by
 intro k hk;rcases h.2 with ⟨rfl,_⟩|⟨g,cap,cur,rfl,hb,_⟩
 · simp[Value.ownBlock]at hk
 · simp[Value.ownBlock]at hk;omega
theorem Zcc{w:World}{base e n:Nat}{v:Value}{xs:List Value}(h:w.ownsRow base e 1 v n xs):∃A c,v=.slice A n c/\n<=c:=by
 rcases h.2 with ⟨rfl,rfl⟩|⟨g,cap,cur,rfl,hb,_,hnc,_⟩
 · exact⟨none,0,rfl,Nat.le_refl _⟩
 · exact⟨_,cap,rfl,hnc⟩
theorem ZaF{w:World}{ops:Array Oper}{rest:List Oper}{o:Oper}{a:Act}{Q:Exit->Act->World->Prop}(hgd:o.guard=none)(s x:Operand)
 (ho:o.op=.call {callee:=.builtin .append,args:=#[s,x],argTypes:=#[176,176]})
 (base:Nat) (v:Value) (n:Nat) (xs:List Int) (hs:a.eval s=v) (b:Nat) (z:Int) (T:TypeId) (hx:a.eval x=.slice (some ⟨b,0,none⟩) 1 1)
 (hown:w.ownsRow base 3 1 v n (xs.map (Value.int .i64))) (hb:w.heap[b]?=some (.cells #[.int .i64 z] T))
 (h63:n<=8796093022208) (hbase:base<=w.heap.size)
 (h:∀v' w',w'.ownsRow base 3 1 v' (n+1) ((xs++[z]).map (Value.int .i64))->Below base w w'->wpList prog ops Q rest (a.put o.dst v') w'):wpList prog ops Q (o::rest) a w:=by
 obtain⟨i0,hi,hz0,hz1,hz2⟩:=info_parts Zhj;refine wpList_append_own w hgd s x 176 ho base 3 i0 (.int .i64 0) 1 8 underlying176 hi hz0 hz1 hz2 rfl (by decide) v n _ hs hown ⟨b,0,none⟩ 1 1 [.int .i64 z] hx rfl (World.news_of_block (cs:=#[.int .i64 z]) hb) (fun u hu=>by obtain rfl:=List.mem_singleton.1 hu;rfl) (by unfold maxLen;omega) (by omega) hbase ?_;intro v' w' h1 h2 _;exact h v' w' (by simpa using h1) ((Below.refl base w).grown h2 hbase (Zl0 hown))
end Go.Proofs.YtiknkbpojmgbhaaGreat
