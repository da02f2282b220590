/- RefPut, SecRef, Equal, SecSaidB, RedoRA, IntApp. Conditions: in each theorem. -/
import Derived.Test.YtlmkdmdbpopnhaaGreatDoorG2
import Derived.Test.YtlmkdmdbpopnhaaGreatDoorG1
import Derived.Test.YtlmkdmdbpopnhaaGreatDoorG3
import Derived.Test.YtlmkdmdbpopnhaaGreatDoorG4
import Derived.Laws.BytesArg
import Derived.Lib.Bytes
import Derived.Laws.AppendOwnNone
import Derived.Deep.AppendLies
set_option maxHeartbeats 400000
set_option maxRecDepth 100000
set_option linter.unusedVariables false
open Go.Proofs.Tryz
namespace Go.Proofs.YtlmkdmdbpopnhaaGreatDoor
open Go.RowKit
theorem ZjQ{p:Int}(h:Zj p 4=true):ZhT [] p 4=Zr p 4:=by simp[ZhT,h]
theorem ZpQ{s:Int}(l:List Int)(h:Zj s 8=true):ZhT l s 8=l++Zr s 8:=by simp[ZhT,h]
theorem ZgG{l:List Int}(a k:Nat)(hk:ZbP (k:Int)=true)(h:a+k<=l.length):getR l (a:Int) (k:Int)=(numOf ((l.drop a).take k),0):=by
 unfold getR;rw[if_pos ⟨hk,by omega⟩,if_neg (by omega)];simp
theorem RB.conv{w:World}{B n:Nat}{A:Option Addr}{l:List Int}(h:RB w B A n l)(c:Nat):(convert 55 9 (.slice A n c)).run prog w=.ok (.string (strOfNums l)) w:=by
 rcases Nat.eq_zero_or_pos n with hn|hn
 · subst hn;obtain rfl:l = []:=List.eq_nil_of_length_eq_zero h.len;rw[run_convert_bytes_string w 55 9 5 _ 0 c underlying55 underlying5 underlying9]
   cases A <;> simp[Conv.bytesToString,loadCells]
   all_goals rfl
 · obtain⟨b,off,rfl,_,hc⟩:=h.at_ hn;exact run_convert_bytes_arg (P:=prog) w 55 5 underlying55 underlying5 b off n c l h.len (fun i hi=>by rw[hc i hi];simp) 9 underlying9
theorem Zis{l m:List Int}(hl:Ze l)(hm:Ze m)(h:(strOfNums l).toList=(strOfNums m).toList):l=m:=by
 have key:∀l:List Int,Ze l->l=(l.map fun n=>UInt8.ofNat n.toNat).map (fun u=>(u.toNat:Int)):=by
  intro l hl;rw[List.map_map]
  conv=>lhs;rw[<-List.map_id l]
  refine List.map_congr_left fun x hx=>?_
  obtain⟨a,b⟩:=hl x hx;simp;omega
 have e:∀l:List Int,(strOfNums l).toList=l.map fun n=>UInt8.ofNat n.toNat:=fun l=>by rw[Lib.strOfNums_toList];rfl
 rw[e,e]at h;rw[key l hl,key m hm,h]
theorem ZdI{w:World}{B B' n m:Nat}{A A':Option Addr}{l l':List Int}(c d:Nat)(h:RB w B A n l)(h':RB w B' A' m l') :
 Calls prog 31 #[.slice A n c,.slice A' m d] w fun e w'=>e=.returned (.bool (decide (l=l')))/\w=w':=by
 have h1:=h.conv c;have h2:=h'.conv d
 have hd:decide (l=l')=((strOfNums l).toList == (strOfNums l').toList):=by
  by_cases e:l=l'
  · subst e;simp
  · have:¬(strOfNums l).toList=(strOfNums l').toList:=fun e'=>e (Zis h.bytes h'.bytes e')
    simp[e,this]
 rw[hd];clear hd;go_enter func31,ntmps31;go_wp2;go_ret;exact⟨rfl,rfl⟩
def ZjR:Prop:=∀(p s:Int) (w:World),Calls prog 144 #[.int .i64 p,.int .i64 s] w fun e w'=>e=.returned (.bool (Zey p s))/\w=w'
def ZpR:Prop:=∀(A:Option Addr) (n c B:Nat) (l:List Int) (p s:Int) (w:World),RB w B A n l->B<=w.heap.size->n<=c->n<=140737488355000->Tab w->1<w.heap.size->
 Calls prog 136 #[.int .i64 p,.int .i64 s,.slice A n c] w fun e w'=>∃v,e=.returned (.tuple #[v,.int .i64 (Zdl p s l).2])/\w'.ownsRow w.heap.size 5 1 v (Zdl p s l).1.length ((Zdl p s l).1.map (Value.int .u8))/\Below w.heap.size w w'
def Zm4:Prop:=∀(A:Option Addr) (n c B:Nat) (l:List Int) (w:World),RB w B A n l->B<=w.heap.size->n<=c->n<=140737488355000->Tab w->1<w.heap.size->
 Calls prog 87 #[.slice A n c] w fun e w'=>∃A' n' c',e=.returned (.tuple #[.int .i64 (Zd l).1,.int .i64 (Zd l).2.1,.slice A' n' c',.int .i64 (Zd l).2.2.2])/\n'<=c'/\RB w' w'.heap.size A' n' (Zd l).2.2.1/\Below w.heap.size w w'
def zeros(n:Nat):List Int:=List.replicate n 0
theorem ZgH(n:Nat):Ze (zeros n):=fun x hx=>by
 obtain rfl:=(List.mem_replicate.1 hx).2;decide
theorem RB.made{w:World}{base g n:Nat}(h:w.ownsRow base 5 1 (.slice (some ⟨g,0,none⟩) n n) n (madeCells (Value.int .u8 0).cells (n*1)).toList):RB w w.heap.size (some ⟨g,0,none⟩) n (zeros n):=by
 refine RB.of_own (base:=base) (e:=5) (c:=n) ?_ (ZgH n);rw[show(Value.int .u8 0).cells = #[Value.int .u8 0]from rfl,toList_madeCells_one,Nat.mul_one]at h;rw[zeros,List.map_replicate];exact h
section
variable{w w1 w2:World}{G G1:Nat->Prop}{x:Addr}{S S1 S2:DS}
theorem ZfV{w:World}{base e n:Nat}{v:Value}{xs:List Value}(h:w.ownsRow base e 1 v n xs)(hn:0<n):∃g c,v=.slice (some ⟨g,0,none⟩) n c/\n<=c/\base<=g:=by
 rcases h.2 with ⟨_,h0⟩|⟨g,cap,cur,rfl,hb,_,hc,_⟩
 · omega
 · exact⟨g,cap,rfl,hc,hb⟩
theorem ZoL{c s:Int}(h:Zey c s=true){l:List Int}(hl:l.length=240):(Zdl c s l).1=Zav c s l:=by unfold Zdl;rw[if_pos ⟨h,hl⟩]
theorem ZgI(S:DS){c s:Int}(h:Zey c s=true):ZV S c s=ZaP (S.wr 0 (Zav c s ZH)) DS.fl:=by unfold ZV;rw[ZoL h ZaS.1]
theorem Zb4{r:Int×DS}{f:DS->Int×DS}(h:r.1=0):ZaP r f=f r.2:=if_pos h
theorem Zdc{r:Int×DS}{f:DS->Int×DS}(h:r.1≠0):ZaP r f=r:=if_neg h
end
theorem ZfW:(prog.info? 3).map (fun i=>(i.zero,i.size,i.bytes))=some (some (.int .i64 0),1,8):=by kernel_rfl
theorem RI.of_own{w:World}{base e c n:Nat}{A:Option Addr}{l:List Int}(h:w.ownsRow base e 1 (.slice A n c) n (l.map (Value.int .i64)))(hl:∀x∈l,-9223372036854775808<=x/\x<=9223372036854775807):RI w w.heap.size A n l/\(0<n->∀a,A=some a->base<=a.block):=by
 have hlen:l.length=n:=by simpa using h.1
 rcases h.2 with ⟨_,h0⟩|⟨g,cap,cur,hv,hbg,hg,_,_,_,htake⟩
 · exact⟨⟨hlen,hl,fun hn=>by omega⟩,fun hn=>by omega⟩
 · have hA:A=some ⟨g,0,none⟩:=by injection hv
   subst hA
   have hlt:g<w.heap.size:=by
    rcases Nat.lt_or_ge g w.heap.size with h'|h'
    · exact h'
    · rw[Array.getElem?_eq_none h']at hg;cases hg
   refine⟨⟨hlen,hl,fun _=>⟨g,0,rfl,hlt,fun j hj=>?_⟩⟩,fun _ a ha=>by cases ha;exact hbg⟩;have e1:(l.map (Value.int .i64))[j]?=some (.int .i64 (l[j]?.getD 0)):=by simp[ZZc (show j<l.length by omega)]
   rw[Nat.zero_add,cell_of_row w g j cur e (0,0) hg,<-e1,<-htake,List.getElem?_take,if_pos (by omega)];simp
theorem Zm5{w:World}{base e size n:Nat}{v:Value}{xs:List Value}(h:w.ownsRow base e size v n xs):∀k,v.ownBlock=some k->base<=k:=by
 intro k hk;rcases h.2 with ⟨rfl,_⟩|⟨g,cap,cur,rfl,hb,_⟩
 · simp[Value.ownBlock]at hk
 · simp[Value.ownBlock]at hk;omega
theorem Zat{w:World}{base e n:Nat}{v:Value}{xs:List Value}(h:w.ownsRow base e 1 v n xs):∃A c,v=.slice A n c/\n<=c:=by
 rcases h.2 with ⟨rfl,rfl⟩|⟨g,cap,cur,rfl,hb,_,hnc,_⟩
 · exact⟨none,0,rfl,ZZe _⟩
 · exact⟨_,cap,rfl,hnc⟩
end Go.Proofs.YtlmkdmdbpopnhaaGreatDoor
