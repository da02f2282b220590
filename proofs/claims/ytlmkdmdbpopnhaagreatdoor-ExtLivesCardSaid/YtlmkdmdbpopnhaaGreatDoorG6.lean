/- TwoRows, RedoRB, RedoRC, RedoRD, RedoRE, Zj1. Conditions: in each theorem. -/
import Derived.Test.YtlmkdmdbpopnhaaGreatDoorG1
import Derived.Test.YtlmkdmdbpopnhaaGreatDoorG2
import Derived.Test.YtlmkdmdbpopnhaaGreatDoorG5
import Derived.Maps.AppendAt
import Derived.BigQuiet
set_option maxRecDepth 100000
set_option linter.unusedVariables false
namespace Go.Proofs.YtlmkdmdbpopnhaaGreatDoor
open Go.RowKit
theorem Zcj{w:World}{base e size m:Nat}{v:Value}{xs:List Value}(h:w.ownsRow base e size v m xs):∀g,v.ownBlock=some g->base<=g/\g<w.heap.size:=by
 intro g hg;rcases h.2 with ⟨rfl,_⟩|⟨g',cap,cur,rfl,hb,hh,_⟩
 · simp[Value.ownBlock]at hg
 · simp[Value.ownBlock]at hg;subst hg;exact⟨hb,(ZZa.1 hh).1⟩
theorem ZcS{w w':World}{base e size m:Nat}{v:Value}{xs:List Value}(h:w.ownsRow base e size v m xs)(hk:∀g,v.ownBlock=some g->w'.heap[g]?=w.heap[g]?):w'.ownsRow base e size v m xs:=by
 rcases h.2 with h'|⟨g,cap,cur,rfl,hg,hb,h3⟩
 · exact⟨h.1,.inl h'⟩
 · exact⟨h.1,.inr ⟨g,cap,cur,rfl,hg,(hk g (by simp[Value.ownBlock])).trans hb,h3⟩⟩
theorem RB.there{w w':World}{g n:Nat}{l:List Int}(h:RB w w.heap.size (some ⟨g,0,none⟩) n l)(hn:0<n)(e:w'.heap[g]?=w.heap[g]?)(hs:w.heap.size<=w'.heap.size):RB w' w'.heap.size (some ⟨g,0,none⟩) n l:=by
 obtain⟨b,off,e',hb,hc⟩:=h.at_ hn;cases e';exact⟨h.1,h.2.1,fun _=>⟨g,0,rfl,by omega,fun j hj=>(World.cell?_of_block (a:=⟨g,0+j,none⟩) e).trans (hc j hj)⟩⟩
theorem ZjS{n seq:Int}{f:Nat->List Int}{k m:Nat}(h:Zas n f seq k=none)(hkm:k<=m):Zas n f seq m=none:=by
 induction hkm with
 | refl=>exact h
 | step _ ih=>unfold Zas;rw[ih]
theorem ZjT{n seq:Int}{f:Nat->List Int}{k:Nat}{l:List (Int×List Int)}{x:Int×List Int}(h:Zas n f seq k=some l)(hx:Zcq n f seq k=some x):Zas n f seq (k+1)=some (l++[x]):=by unfold Zas;rw[h,hx]
theorem ZjU{n seq:Int}{f:Nat->List Int}{k:Nat}(hx:Zcq n f seq k=none):Zas n f seq (k+1)=none:=by unfold Zas;rw[hx];split <;> simp_all
section
variable{w:World}{G:Nat->Prop}{x:Addr}{S:DS}
theorem Zk5(S:DS)(y:Int×List Int)(r:List (Int×List Int)):ZK S (y::r)=ZaP (S.wr (y.1+1+S.P) y.2) (fun S'=>ZK S' r):=by
 obtain⟨p,b⟩:=y;rfl
theorem Zhy(S:DS)(i:Int)(l:List Int):(S.write i l).writes<=S.writes+1/\(S.write i l).n=S.n:=by
 unfold DS.write;split
 · exact⟨ZZh _,rfl⟩
 split
 · exact⟨ZZh _,rfl⟩
 split
 · exact⟨ZZh _,rfl⟩
 · exact⟨ZZe _,rfl⟩
theorem ZqW{α:Type}{l:List α}{k:Nat}{y:α}(h:l[k]?=some y):l.drop k=y::l.drop (k+1):=by
 obtain⟨hk,e⟩:=ZZb.1 h;rw[List.drop_eq_getElem_cons hk,e]
end
theorem unpack_err(l:List Int):(Zd l).2.2.2=0∨(Zd l).2.2.2=4:=by
 unfold Zd;split
 · exact .inl rfl
 · exact .inr rfl
theorem Zfz{l:List Int}(h:(Zd l).2.2.2=0):(Zd l).1<4294967296/\(Zd l).2.1<=4611686018427387904:=by
 unfold Zd at h ⊢
 by_cases hs:Zkw l
 · rw[if_pos hs];have h4:=of_decide_eq_true hs.2.2;exact⟨h4.2.1,h4.2.2.2⟩
 · rw[if_neg hs]at h;cases h
def ZfX(S:DS)(seq:Int):Option (List (Int×List Int))->Int×Int×DS
 | none=>(0,seq,S)
 | some l=>if(ZK S l).1≠0 then((ZK S l).1,0,(ZK S l).2)else(0,seq,(ZK S l).2)
theorem ZpS{S:DS}(hd:S.down=false)(he:(Zd (S.last 0)).2.2.2=0):ZaF S=ZfX S (Zd (S.last 0)).2.1 (Zae S.n S.last (Zd (S.last 0)).1 (Zd (S.last 0)).2.1):=by
 unfold ZaF ZfX;rw[if_neg (by simp[hd]),if_neg (fun h'=>h' he)];rfl
def ZrB(w:World)(G:Nat->Prop)(b i:Nat)(y:Int×List Int):Prop:=
 w.cell? ⟨b,i*2,none⟩=some (.int .i64 y.1)/\∃D m c,w.cell? ⟨b,i*2+1,none⟩=some (.slice D m c)/\m<=c/\m<=9223372036854775807/\RB w w.heap.size D m y.2/\∀a,D=some a->0<m->¬G a.block
def Zbb(w:World)(G:Nat->Prop)(A:Option Addr)(n:Nat)(l:List (Int×List Int)):Prop:=
 l.length=n/\(0<n->∃b,A=some ⟨b,0,none⟩/\¬G b/\b<w.heap.size/\∀i y,l[i]?=some y->ZrB w G b i y)
theorem Zbb.keep{w w':World}{G G':Nat->Prop}{A:Option Addr}{n:Nat}{l:List (Int×List Int)}(h:Zbb w G A n l)(hs:w.heap.size<=w'.heap.size)(hG:∀k,k<w.heap.size->¬G k->¬G' k)(hk:∀k,k<w.heap.size->¬G k->w'.heap[k]?=w.heap[k]?):Zbb w' G' A n l:=by
 refine⟨h.1,fun hn=>?_⟩;obtain⟨b,e,h1,h2,h3⟩:=h.2 hn;refine⟨b,e,hG b h2 h1,by omega,fun i y hy=>?_⟩;obtain⟨c1,D,m,c,c2,c3,c4,c5,c6⟩:=h3 i y hy;refine⟨(World.cell?_of_block (a:=⟨b,i*2,none⟩) (hk b h2 h1)).trans c1,D,m,c,(World.cell?_of_block (a:=⟨b,i*2+1,none⟩) (hk b h2 h1)).trans c2,c3,c4,?_,fun a ha hm=>?_⟩
 · refine⟨c5.1,c5.2.1,fun hm=>?_⟩;obtain⟨bb,off,e2,hbb,hc⟩:=c5.2.2 hm;have hng:¬G bb:=by have:=c6 _ e2 hm;exact this
   exact⟨bb,off,e2,by omega,fun j hj=>(World.cell?_of_block (a:=⟨bb,off+j,none⟩) (hk bb hbb hng)).trans (hc j hj)⟩
 · obtain⟨bb,off,e2,hbb,hc⟩:=c5.2.2 hm;rw[e2]at ha;cases ha;exact hG bb hbb (c6 _ e2 hm)
def ZfA(S:DS)(l:List (Int×List Int))(i:Nat):Prop:=
 (∀j y,j<i->l[j]?=some y->0<=y.1/\y.1<S.P/\y.2.length=240)/\∀j k y z,j<k->k<i->l[j]?=some y->l[k]?=some z->y.1≠z.1
theorem ZfA.all{S:DS}{l:List (Int×List Int)}(h:ZfA S l l.length):ZbN S l:=by
 refine⟨fun x hx=>?_,?_⟩
 · obtain⟨i,hi,e⟩:=List.getElem_of_mem hx;exact h.1 i x hi (by rw[ZZc hi,e])
 · rw[List.nodup_iff_pairwise_ne,List.pairwise_iff_getElem];intro i j hi hj hij;simp only[List.length_map]at hi hj;rw[List.getElem_map,List.getElem_map];exact h.2 i j _ _ hij hj (ZZc hi) (ZZc hj)
theorem ZfB{S:DS}{l:List (Int×List Int)}{i:Nat}{y:Int×List Int}(hy:l[i]?=some y)(h:¬(0<=y.1/\y.1<S.P/\y.2.length=240)):¬ZbN S l:=fun hr=>h (hr.1 y (List.mem_of_getElem? hy))
theorem Zit{S:DS}{l:List (Int×List Int)}{i j:Nat}{y z:Int×List Int}(hij:j<i)(hy:l[i]?=some y)(hz:l[j]?=some z)(h:z.1=y.1):¬ZbN S l:=fun hr=>by
 have:=hr.2
 rw[List.nodup_iff_pairwise_ne,List.pairwise_iff_getElem]at this;obtain⟨hi,e1⟩:=ZZb.1 hy;obtain⟨hj,e2⟩:=ZZb.1 hz;refine this j i (by simpa using hj) (by simpa using hi) hij ?_;rw[List.getElem_map,List.getElem_map,e1,e2,h]
theorem ZfA.next{S:DS}{l:List (Int×List Int)}{i:Nat}{y:Int×List Int}(h:ZfA S l i)(hy:l[i]?=some y)(h1:0<=y.1/\y.1<S.P/\y.2.length=240)(h2:∀j z,j<i->l[j]?=some z->z.1≠y.1):ZfA S l (i+1):=by
 refine⟨fun j z hj hz=>?_,fun j k z v hjk hk hz hv=>?_⟩
 · rcases Nat.lt_or_ge j i with h'|h'
   · exact h.1 j z h' hz
   · obtain rfl:j=i:=by omega
     rw[hy]at hz;cases hz;exact h1
 · rcases Nat.lt_or_ge k i with h'|h'
   · exact h.2 j k z v hjk h' hz hv
   · obtain rfl:k=i:=by omega
     rw[hy]at hv;cases hv;exact h2 j z hjk hz
end Go.Proofs.YtlmkdmdbpopnhaaGreatDoor
