/- BkG, BkH, BkI, BkJ, ExtE, Gen. Conditions: in each theorem. -/
import Derived.Test.YtlmkdmdbpopnhaaGreatDoorG16
import Derived.Test.YtlmkdmdbpopnhaaGreatDoorG7
import Derived.Test.YtlmkdmdbpopnhaaGreatDoorG1
import Derived.Maps.AppendAt
import Derived.Deep.AppendLies
set_option maxHeartbeats 6400000
set_option maxRecDepth 100000
set_option linter.unusedVariables false
open Go.Proofs.Tryz
open Go.Lib (hid)
namespace Go.Proofs.YtlmkdmdbpopnhaaGreatDoor
open Go.RowKit
theorem Zet{l:List Int}(hb:Ze l)(a s:Int) : -9223372036854775808<=(getR l a s).1/\(getR l a s).1<=9223372036854775807:=by
 unfold getR;split
 · split
   · exact⟨by decide,by decide⟩
   · show -9223372036854775808<=numOf _/\numOf _<=9223372036854775807;rw[ZdM _ ((hb.drop _).take _)];generalize beOf _=x;unfold wrap64;omega
 · exact⟨by decide,by decide⟩
theorem ZiS{l:List Int}(hb:Ze l)(a:Nat):∃x:Nat,x<256/\(getR l (a:Int) 1).1=(x:Int)/\(a<l.length->l[a]?.getD 0=(x:Int)):=by
 have h0:=hb.getD a;unfold getR;rw[if_pos ⟨by decide,by omega⟩];split
 · exact⟨0,by decide,rfl,fun h=>by omega⟩
 · rename_i h
   have ha:a<l.length:=by omega
   refine⟨(l[a]?.getD 0).toNat,by omega,?_,fun _=>by omega⟩
   have e:(l.drop ((a:Int).toNat)).take ((1:Int).toNat) = [l[a]?.getD 0]:=by
    rw[Int.toNat_natCast,ZZc ha,List.drop_eq_getElem_cons ha];rfl
   rw[e];show numOf [l[a]?.getD 0]=_
   rw[ZdM _ (fun x hx=>by
    obtain rfl:x=_:=by simpa using hx
    exact h0)]
   show wrap64 (0*256+l[a]?.getD 0)=_;unfold wrap64;omega
def kN(l:List Int)(a:Nat):Nat:=((getR l (a:Int) 1).1).toNat
def vN(l:List Int)(a:Nat):Nat:=((getR l ((a+1:Nat):Int) 1).1).toNat
def cutE(l:List Int)(a:Nat):Nat:=a+2+kN l a+vN l a
def cutK(l:List Int)(a:Nat):List Int:=(l.drop (a+2)).take (kN l a)
def cutV(l:List Int)(a:Nat):List Int:=(l.drop (a+2+kN l a)).take (vN l a)
theorem Zqo{l:List Int}(hb:Ze l)(a:Nat):kN l a<256/\(getR l (a:Int) 1).1=(kN l a:Int):=by
 obtain⟨x,h1,h2,_⟩:=ZiS hb a;unfold kN;rw[h2];exact⟨by omega,by omega⟩
theorem Zqp{l:List Int}(hb:Ze l)(a:Nat):vN l a<256/\(getR l ((a+1:Nat):Int) 1).1=(vN l a:Int):=by
 obtain⟨x,h1,h2,_⟩:=ZiS hb (a+1);unfold vN;rw[h2];exact⟨by omega,by omega⟩
def ZcY(l:List Int):Nat->Nat->List KV
 | 0,_=>[]
 | c+1,a=>if 240<cutE l a then []else(cutK l a,cutV l a)::ZcY l c (cutE l a)
theorem Zmf(l:List Int)(a:Nat):ZcY l 0 a = []:=rfl
theorem Zg8{l:List Int}{c a:Nat}(h:240<cutE l a):ZcY l c a = []:=by
 cases c with
 | zero=>rfl
 | succ c=>unfold ZcY;rw[if_pos h]
theorem ZhP{l:List Int}{c a:Nat}(h:¬240<cutE l a):ZcY l (c+1) a=(cutK l a,cutV l a)::ZcY l c (cutE l a):=by
 show(if 240<cutE l a then []else(cutK l a,cutV l a)::ZcY l c (cutE l a))=_
 rw[if_neg h]
def ZnB(l:List Int):Nat:=((getR l 6 2).1).toNat
def readBk(l:List Int):BV:=⟨(getR l 1 1).1,(getR l 2 4).1,ZcY l (ZnB l) 8⟩
def Zap(l:List Int):BV×Int:=if l.length=240/\ZD (readBk l)=true/\pageBk (readBk l)=l then(readBk l,0)else(⟨0,0,[]⟩,4)
theorem ZbK{w:World}{B n c:Nat}{A:Option Addr}{l:List Int}(a s:Int)(hr:RB w B A n l)(hc:n<=c)(hm:n<=maxLen) :
 Calls prog 243 #[.slice A n c,.int .i64 a,.int .i64 s] w fun e w'=>e=.returned (.int .i64 (getR l a s).1)/\w=w':=by
 have HG:=hid (Zb7 A n c B l a s w hr hc hm);generalize getR l a s=r at HG ⊢;go_enter func243,ntmps243;go_wp2_with fail;refine HG.out.mono ?_;rintro e w'⟨rfl,rfl⟩;go_wp2;go_ret;exact⟨rfl,rfl⟩
theorem ZiT{w:World}{B n c:Nat}{A:Option Addr}{l:List Int}(a:Nat)(hr:RB w B A n l)(hB:B<=w.heap.size)(hn:n=240)(hc:n<=c)(ha:a<=240)(he:240<cutE l a) :
 Calls prog 244 #[.slice A n c,.int .i64 (a:Int)] w fun e w'=>e=.returned (.tuple #[.agg #[.slice none 0 0,.slice none 0 0],.int .i64 (cutE l a:Int)])/\Below w.heap.size w w':=by
 have hX:Below w.heap.size w (w.alloc (.cells #[.slice none 0 0,.slice none 0 0] 65 (0,0))):=(Below.refl _ _).alloc (ZZe _) _;have hk:=Zqo hr.bytes a;have hv:=Zqp hr.bytes a;have H1:=ZbK (a:Int) 1 (hr.below (hX.mono hB)) hc (by subst hn;decide);have H2:=ZbK ((a+1:Nat):Int) 1 (hr.below (hX.mono hB)) hc (by subst hn;decide);rw[hk.2]at H1;rw[hv.2]at H2;rw[show((a+1:Nat):Int)=(a:Int)+1 by omega]at H2;have HX:=hid hX;have H1:=hid H1;have H2:=hid H2;have hk256:=hk.1;have hv256:=hv.1;have hE:=hid (show cutE l a=a+2+kN l a+vN l a from rfl);rw[hE.out]at he;rw[hE.out];clear hE hX hk hv hr hc;subst hn;generalize kN l a=k at *;generalize vN l a=v at *;go_enter func244,ntmps244;go_wp2_with fail;refine H1.out.mono ?_;rintro e w'⟨rfl,rfl⟩;go_wp2_with fail;refine H2.out.mono ?_;rintro e w'⟨rfl,rfl⟩;go_wp2;obtain⟨d0,d1⟩:=(Zga.new w (.slice none 0 0) (.slice none 0 0)).cells
 refine bodyPost_ret (v:=.tuple #[.agg #[.slice none 0 0,.slice none 0 0],.int .i64 (a+2+k+v:Int)]) (by
  simp[results,Tryz.results244,go_sem,d0,d1]) rfl ?_
 exact⟨rfl,HX.out⟩
theorem ZiU{w:World}{B n c:Nat}{A:Option Addr}{l:List Int}(a:Nat)(hr:RB w B A n l)(hB:B<=w.heap.size)(hn:n=240)(hc:n<=c)(he:¬240<cutE l a) :
 Calls prog 244 #[.slice A n c,.int .i64 (a:Int)] w fun e w'=>∃ka va,e=.returned (.tuple #[.agg #[.slice ka (kN l a) (kN l a),.slice va (vN l a) (vN l a)],.int .i64 (cutE l a:Int)])/\RB w B ka (kN l a) (cutK l a)/\RB w B va (vN l a) (cutV l a)/\Below w.heap.size w w'/\∀y,(ka=some y∨va=some y)->∃x,A=some x/\y.block=x.block:=by
 have hX:Below w.heap.size w (w.alloc (.cells #[.slice none 0 0,.slice none 0 0] 65 (0,0))):=(Below.refl _ _).alloc (ZZe _) _;have hk:=Zqo hr.bytes a;have hv:=Zqp hr.bytes a;have H1:=ZbK (a:Int) 1 (hr.below (hX.mono hB)) hc (by subst hn;decide);have H2:=ZbK ((a+1:Nat):Int) 1 (hr.below (hX.mono hB)) hc (by subst hn;decide);rw[hk.2]at H1;rw[hv.2]at H2;rw[show((a+1:Nat):Int)=(a:Int)+1 by omega]at H2;have HX:=hid hX;have H1:=hid H1;have H2:=hid H2;have hk256:=hk.1;have hv256:=hv.1;have hE:=hid (show cutE l a=a+2+kN l a+vN l a from rfl);rw[hE.out]at he;rw[hE.out];obtain⟨b,off,rfl,hb,hcell⟩:=hr.at_ (by omega)
 have rk:RB w B (some ⟨b,off+(a+2),none⟩) (kN l a) (cutK l a):=by
  refine⟨by unfold cutK;rw[List.length_take,List.length_drop,hr.len];omega,(hr.bytes.drop _).take _,fun _=>⟨b,off+(a+2),rfl,hb,fun j hj=>?_⟩⟩;rw[Nat.add_assoc,hcell (a+2+j) (by omega)];unfold cutK;rw[List.getElem?_take,if_pos hj,List.getElem?_drop]
 have rv:RB w B (some ⟨b,off+(a+2+kN l a),none⟩) (vN l a) (cutV l a):=by
  refine⟨by unfold cutV;rw[List.length_take,List.length_drop,hr.len];omega,(hr.bytes.drop _).take _,fun _=>⟨b,off+(a+2+kN l a),rfl,hb,fun j hj=>?_⟩⟩;rw[Nat.add_assoc,hcell (a+2+kN l a+j) (by omega)];unfold cutV;rw[List.getElem?_take,if_pos hj,List.getElem?_drop]
 have RK:=hid rk;have RV:=hid rv;have RK0:=hid (fun(h:kN l a=0) (X:Option Addr)=>show RB w B X (kN l a) (cutK l a)from⟨rk.1,rk.2.1,fun hp=>by omega⟩);have RV0:=hid (fun(h:vN l a=0) (X:Option Addr)=>show RB w B X (vN l a) (cutV l a)from⟨rv.1,rv.2.1,fun hp=>by omega⟩);clear hE hX hk hv hr hcell rk rv;subst hn;generalize kN l a=k at *;generalize vN l a=v at *;generalize cutK l a=K at *;generalize cutV l a=V at *;go_enter func244,ntmps244;go_wp2_with fail;refine H1.out.mono ?_;rintro e w'⟨rfl,rfl⟩;go_wp2_with fail;refine H2.out.mono ?_;rintro e w'⟨rfl,rfl⟩;rcases Nat.eq_zero_or_pos k with k0|k0 <;> rcases Nat.eq_zero_or_pos v with v0|v0
 · subst k0 v0;go_wp2_with fail
   go_region
   go_wp2;have hpb:=(Zga.new w (.slice (some ⟨b,off,none⟩) 0 0) (.slice (some ⟨b,off,none⟩) 0 0)).drew;have HE:=hid (show Below w.heap.size w (w.alloc (.cells #[.slice (some ⟨b,off,none⟩) 0 0,.slice (some ⟨b,off,none⟩) 0 0] 65 (0,0))).drew from((Below.refl _ _).alloc (ZZe _) _).drew);obtain⟨d0,d1⟩:=hpb.cells
   refine bodyPost_ret (v:=.tuple #[.agg #[.slice (some ⟨b,off,none⟩) 0 0,.slice (some ⟨b,off,none⟩) 0 0],.int .i64 ((a:Int)+2)]) (by
    simp[results,Tryz.results244,go_sem,d0,d1]) rfl ?_
   exact⟨_,_,rfl,RK0.out trivial _,RV0.out trivial _,HE.out,fun y hy=>⟨_,rfl,by rcases hy with hy|hy <;> (cases hy;rfl)⟩⟩
 · subst k0;have hv0:¬v=0:=by omega
   go_wp2_with fail
   go_region
   go_wp2;have hpb:=(Zga.new w (.slice (some ⟨b,off,none⟩) 0 0) (.slice (some ⟨b,off+(a+2),none⟩) v v)).drew;have HE:=hid (show Below w.heap.size w (w.alloc (.cells #[.slice (some ⟨b,off,none⟩) 0 0,.slice (some ⟨b,off+(a+2),none⟩) v v] 65 (0,0))).drew from((Below.refl _ _).alloc (ZZe _) _).drew);obtain⟨d0,d1⟩:=hpb.cells
   refine bodyPost_ret (v:=.tuple #[.agg #[.slice (some ⟨b,off,none⟩) 0 0,.slice (some ⟨b,off+(a+2),none⟩) v v],.int .i64 ((a:Int)+2+(v:Int))]) (by
    simp[results,Tryz.results244,go_sem,d0,d1]) rfl ?_
   exact⟨_,_,rfl,RK0.out trivial _,RV.out,HE.out,fun y hy=>⟨_,rfl,by rcases hy with hy|hy <;> (cases hy;rfl)⟩⟩
 · subst v0;have hk0:¬k=0:=by omega
   go_wp2_with fail
   go_region
   go_wp2;have hpb:=(Zga.new w (.slice (some ⟨b,off+(a+2),none⟩) k k) (.slice (some ⟨b,off,none⟩) 0 0)).drew;have HE:=hid (show Below w.heap.size w (w.alloc (.cells #[.slice (some ⟨b,off+(a+2),none⟩) k k,.slice (some ⟨b,off,none⟩) 0 0] 65 (0,0))).drew from((Below.refl _ _).alloc (ZZe _) _).drew);obtain⟨d0,d1⟩:=hpb.cells
   refine bodyPost_ret (v:=.tuple #[.agg #[.slice (some ⟨b,off+(a+2),none⟩) k k,.slice (some ⟨b,off,none⟩) 0 0],.int .i64 ((a:Int)+2+(k:Int))]) (by
    simp[results,Tryz.results244,go_sem,d0,d1]) rfl ?_
   exact⟨_,_,rfl,RK.out,RV0.out trivial _,HE.out,fun y hy=>⟨_,rfl,by rcases hy with hy|hy <;> (cases hy;rfl)⟩⟩
 · have hv0:¬v=0:=by omega
   have hk0:¬k=0:=by omega
   go_wp2_with fail
   go_region
   go_wp2;have hpb:=(Zga.new w (.slice (some ⟨b,off+(a+2),none⟩) k k) (.slice (some ⟨b,off+(a+2+k),none⟩) v v)).drew;have HE:=hid (show Below w.heap.size w (w.alloc (.cells #[.slice (some ⟨b,off+(a+2),none⟩) k k,.slice (some ⟨b,off+(a+2+k),none⟩) v v] 65 (0,0))).drew from((Below.refl _ _).alloc (ZZe _) _).drew);obtain⟨d0,d1⟩:=hpb.cells
   refine bodyPost_ret (v:=.tuple #[.agg #[.slice (some ⟨b,off+(a+2),none⟩) k k,.slice (some ⟨b,off+(a+2+k),none⟩) v v],.int .i64 ((a:Int)+2+(k:Int)+(v:Int))]) (by
    simp[results,Tryz.results244,go_sem,d0,d1]) rfl ?_
   exact⟨_,_,rfl,RK.out,RV.out,HE.out,fun y hy=>⟨_,rfl,by rcases hy with hy|hy <;> (cases hy;rfl)⟩⟩
theorem ZnC:(prog.info? 65).map (fun i=>(i.zero,i.size,i.bytes))=some (some (.agg #[.slice none 0 0,.slice none 0 0]),2,48):=by kernel_rfl
theorem ZhQ{w:World}{base e size m:Nat}{v:Value}{xs:List Value}(h:w.ownsRow base e size v m xs):∀g,v.ownBlock=some g->base<=g/\g<w.heap.size:=by
 intro g hg;rcases h.2 with ⟨rfl,_⟩|⟨g',cap,cur,rfl,hb,hh,_⟩
 · simp[Value.ownBlock]at hg
 · simp[Value.ownBlock]at hg;subst hg;exact⟨hb,(ZZa.1 hh).1⟩
theorem Zmg{w w':World}{base e size m:Nat}{v:Value}{xs:List Value}(h:w.ownsRow base e size v m xs)(hk:∀g,v.ownBlock=some g->w'.heap[g]?=w.heap[g]?):w'.ownsRow base e size v m xs:=by
 rcases h.2 with h'|⟨g,cap,cur,rfl,hg,hb,h3⟩
 · exact⟨h.1,.inl h'⟩
 · exact⟨h.1,.inr ⟨g,cap,cur,rfl,hg,(hk g (by simp[Value.ownBlock])).trans hb,h3⟩⟩
def Zj0(w:World)(F:Nat->Prop)(v:Value)(A:Option Addr)(n c:Nat)(l:List Int):Prop:=
 n<=c/\n<=maxLen/\RB w w.heap.size A n l/\∀a,A=some a->0<n->¬F a.block/\v.ownBlock≠some a.block
structure ZgW(w:World)(F:Nat->Prop)(base:Nat)(v:Value)(l:List KV):Prop where
 row:∃vs,w.ownsRow base 65 2 v l.length vs/\∀(i:Nat) (x:KV),l[i]?=some x->∃(ka:Option Addr) (kn kc:Nat) (va:Option Addr) (vn vc:Nat),vs[i*2]?=some (.slice ka kn kc)/\vs[i*2+1]?=some (.slice va vn vc)/\Zj0 w F v ka kn kc x.1/\Zj0 w F v va vn vc x.2
 out:∀r,v.ownBlock=some r->¬F r
section
variable{w w':World}{F F':Nat->Prop}{base:Nat}{v:Value}{l:List KV}
theorem ZgW.start(w:World)(F:Nat->Prop)(base:Nat):ZgW w F base (.slice none 0 0) []:=
 ⟨⟨[],⟨rfl,.inl ⟨rfl,rfl⟩⟩,fun i x h=>by simp at h⟩,fun r h=>by simp[Value.ownBlock]at h⟩
theorem Zj0.keep{A:Option Addr}{n c:Nat}{b:List Int}(h:Zj0 w F v A n c b)(hs:w.heap.size<=w'.heap.size)(hF:∀k,k<w.heap.size->¬F k->¬F' k)(hk:∀k,k<w.heap.size->¬F k->v.ownBlock≠some k->w'.heap[k]?=w.heap[k]?):Zj0 w' F' v A n c b:=by
 obtain⟨h1,h2,h3,h4⟩:=h;refine⟨h1,h2,⟨h3.1,h3.2.1,fun hn=>?_⟩,fun a ha hn=>?_⟩
 · obtain⟨bb,o,e,hbb,hc⟩:=h3.2.2 hn;obtain⟨q1,q2⟩:=h4 _ e hn;exact⟨bb,o,e,ZZd hbb hs,fun j hj=>(World.cell?_of_block (a:=⟨bb,o+j,none⟩) (hk bb hbb q1 q2)).trans (hc j hj)⟩
 · obtain⟨bb,o,e,hbb,hc⟩:=h3.2.2 hn;obtain⟨q1,q2⟩:=h4 a ha hn;rw[e]at ha;cases ha;exact⟨hF _ hbb q1,q2⟩
theorem ZgW.keep(h:ZgW w F base v l)(hs:w.heap.size<=w'.heap.size)(hF:∀k,k<w.heap.size->¬F k->¬F' k)(hk:∀k,k<w.heap.size->¬F k->w'.heap[k]?=w.heap[k]?):ZgW w' F' base v l:=by
 obtain⟨vs,h1,h2⟩:=h.row;refine⟨⟨vs,Zmg h1 (fun g hg=>hk g (ZhQ h1 g hg).2 (h.out g hg)),fun i x hx=>?_⟩,fun r hr=>hF r (ZhQ h1 r hr).2 (h.out r hr)⟩;obtain⟨ka,kn,kc,va,vn,vc,h3,h4,h5,h6⟩:=h2 i x hx;exact⟨ka,kn,kc,va,vn,vc,h3,h4,h5.keep hs hF (fun k hk1 hk2 _=>hk k hk1 hk2),h6.keep hs hF (fun k hk1 hk2 _=>hk k hk1 hk2)⟩
theorem ZgW.below(h:ZgW w F base v l)(hb:Below w.heap.size w w'):ZgW w' F base v l:=h.keep hb.size (fun _ _ h=>h) (fun k hk _=>hb.block k hk)
theorem ZgW.setCell(h:ZgW w F base v l){p:Addr}(hp:F p.block)(u:Value):ZgW (w.setCell p u) F base v l:=
 h.keep (by simp[World.setCell]) (fun _ _ h=>h) (fun k _ hf=>Below.heap_setCell _ _ _ _ (fun e=>hf (by rw[e];exact hp)))
theorem ZgW.push{X w1:World}{v':Value}{ka va:Option Addr}{kn kc vn vc:Nat}{x:KV}(h:ZgW w F base v l)(hFlt:∀k,F k->k<w.heap.size)(hu:Zj0 w F v ka kn kc x.1)(hu2:Zj0 w F v va vn vc x.2){vs:List Value}(hvs:w.ownsRow base 65 2 v l.length vs)(hvl:∀(i:Nat) (x:KV),l[i]?=some x->∃(ka:Option Addr) (kn kc:Nat) (va:Option Addr) (vn vc:Nat),vs[i*2]?=some (.slice ka kn kc)/\vs[i*2+1]?=some (.slice va vn vc)/\Zj0 w F v ka kn kc x.1/\Zj0 w F v va vn vc x.2)
 (hX:Below w.heap.size w X) (hown:w1.ownsRow base 65 2 v' (l.length+1) (vs++[.slice ka kn kc,.slice va vn vc])) (hg:X.grownBy w1 v.ownBlock) (hl:v'.ownBlock=v.ownBlock∨∃r,v'.ownBlock=some r/\w.heap.size<=r) :
 ZgW w1 F base v' (l++[x])/\w.heap.size<=w1.heap.size/\∀k,k<w.heap.size->v.ownBlock≠some k->w1.heap[k]?=w.heap[k]?:=by
 have hs:w.heap.size<=w1.heap.size:=ZZf hX.size hg.size;have hall:∀k,k<w.heap.size->v.ownBlock≠some k->w1.heap[k]?=w.heap[k]?:=fun k hk hne=>(hg.block k (ZZd hk hX.size) (fun e=>hne e.symm)).trans (hX.block k hk)
 have far:∀{A:Option Addr} {n c:Nat} {y:List Int},Zj0 w F v A n c y->Zj0 w1 F v' A n c y:=fun {A n c y} ha=>by
  obtain⟨h1,h2,h3,h4⟩:=ha.keep (w':=w1) (F':=F) hs (fun _ _ h=>h) (fun k hk1 _ hk3=>hall k hk1 hk3);refine⟨h1,h2,h3,fun a hA hn=>⟨(h4 a hA hn).1,fun e=>?_⟩⟩;rcases hl with q|⟨rr,q,hrr⟩
  · exact(h4 a hA hn).2 (q.symm.trans e)
  · rw[q]at e;injection e with e;obtain⟨bb,o,e2,hbb,_⟩:=ha.2.2.1.2.2 hn;rw[e2]at hA;cases hA
    have:rr=bb:=e
    omega
 have hlen:(l++[x]).length=l.length+1:=by simp
 have hvlen:vs.length=l.length*2:=hvs.1;refine⟨⟨⟨vs++[.slice ka kn kc,.slice va vn vc],by rw[hlen];exact hown,fun i y hy=>?_⟩,fun r hr=>?_⟩,hs,hall⟩
 · rcases Nat.lt_or_ge i l.length with hi|hi
   · rw[List.getElem?_append_left hi]at hy;obtain⟨ka',kn',kc',va',vn',vc',h3,h4,h5,h6⟩:=hvl i y hy;exact⟨ka',kn',kc',va',vn',vc',by rw[List.getElem?_append_left (by omega)];exact h3,by rw[List.getElem?_append_left (by omega)];exact h4,far h5,far h6⟩
   · rw[List.getElem?_append_right hi]at hy
     have hi0:i-l.length=0:=by
      have:=(ZZb.1 hy).1
      simp at this;omega
     rw[hi0]at hy;obtain rfl:x=y:=by simpa using hy
     obtain rfl:i=l.length:=by omega
     refine⟨ka,kn,kc,va,vn,vc,?_,?_,far hu,far hu2⟩
     · rw[List.getElem?_append_right (by omega),hvlen,Nat.sub_self];rfl
     · rw[List.getElem?_append_right (by omega),hvlen,show l.length*2+1-l.length*2=1 by omega];rfl
 · rcases hl with a|⟨rr,a,hrr⟩
   · exact h.out r (a.symm.trans hr)
   · rw[a]at hr;injection hr with hr;intro hf
     have:=hFlt r hf
     omega
theorem ZgW.pairs{A:Option Addr}{n c:Nat}(h:ZgW w F base (.slice A n c) l):n=l.length/\n<=c/\Zaa w w.heap.size A n l:=by
 obtain⟨vs,h1,h2⟩:=h.row;rcases h1.2 with ⟨e,h0⟩|⟨g,cap,cur,e,hb,hg,hc,_,_,htake⟩
 · cases e;exact⟨h0.symm,ZZe _,h0,fun hn=>absurd hn (by omega)⟩
 · cases e;refine⟨rfl,hc,rfl,fun hn=>⟨g,0,rfl,(ZZa.1 hg).1,fun i y hy=>?_⟩⟩;have hi:=(ZZb.1 hy).1;obtain⟨ka,kn,kc,va,vn,vc,h3,h4,h5,h6⟩:=h2 i y hy;refine⟨ka,kn,kc,va,vn,vc,?_,?_,h5.2.2.1,⟨h5.1,h5.2.1⟩,h6.2.2.1,⟨h6.1,h6.2.1⟩⟩
   · rw[Nat.zero_add,cell_of_row w g (i*2) cur _ (0,0) hg,<-h3,<-htake,List.getElem?_take,if_pos (by omega)];simp
   · rw[Nat.zero_add,cell_of_row w g (i*2+1) cur _ (0,0) hg,<-h4,<-htake,List.getElem?_take,if_pos (by omega)];simp
end
theorem Zeu{w:World}{ops:Array Oper}{rest:List Oper}{o:Oper}{a:Act}{Q:Exit->Act->World->Prop}(hgd:o.guard=none)(s x:Operand)
 (ho:o.op=.call {callee:=.builtin .append,args:=#[s,x],argTypes:=#[31,31]})
 (base:Nat) (v:Value) (n:Nat) (xs:List Value) (hs:a.eval s=v) (b:Nat) (z u:Value) (T:TypeId) (hx:a.eval x=.slice (some ⟨b,0,none⟩) 1 1)
 (hown:w.ownsRow base 65 2 v n xs) (hb:w.heap[b]?=some (.cells #[z,u] T)) (hz:z.oneCell'=true) (hu:u.oneCell'=true) (h63:n<=4294967296) (hbase:base<=w.heap.size)
 (h:∀A' c' w',w'.ownsRow base 65 2 (.slice A' (n+1) c') (n+1) (xs++[z,u])->w.grownBy w' v.ownBlock->((Value.slice A' (n+1) c').ownBlock=v.ownBlock∨(Value.slice A' (n+1) c').ownBlock=some w.heap.size)->wpList prog ops Q rest (a.put o.dst (.slice A' (n+1) c')) w'):wpList prog ops Q (o::rest) a w:=by
 obtain⟨i0,hi,hz0,hz1,hz2⟩:=info_parts ZnC;refine wpList_append_own_at w hgd s x _ ho base _ i0 (.agg #[.slice none 0 0,.slice none 0 0]) 2 48 underlying31 hi hz0 hz1 hz2 rfl (by decide) v n _ hs hown ⟨b,0,none⟩ 1 1 [z,u] hx rfl (World.news_of_block (cs:=#[z,u]) hb) (fun y hy=>?_) (by unfold maxLen;omega) (by omega) hbase ?_
 · rcases List.mem_cons.1 hy with rfl|hy
   · exact hz
   · obtain rfl:=List.mem_singleton.1 hy;exact hu
 intro v' w' h1 h2 _ h4;obtain⟨g,cap,rfl,_⟩:=h1.form (Nat.succ_pos _);exact h _ cap w' h1 h2 h4
theorem ZR.set2{w:World}{g n c n' c':Nat}{d x:Int}{A A':Option Addr}(h:ZR w g d x A n c):ZR (w.setCell ⟨g,2,none⟩ (.slice A' n' c')) g d x A' n' c':=heap_setCell_same w g 2 _ _ (.slice A' n' c') h
theorem ZR.store{w:World}{g n c n' c':Nat}{d x d' x':Int}{A A':Option Addr}(h:ZR w g d x A n c):ZR (((w.setCell ⟨g,0,none⟩ (.int .i64 d')).setCell ⟨g,1,none⟩ (.int .i64 x')).setCell ⟨g,2,none⟩ (.slice A' n' c')) g d' x' A' n' c':=by
 have h1:=heap_setCell_same w g 0 _ _ (.int .i64 d') h;have h2:=heap_setCell_same _ g 1 _ _ (.int .i64 x') h1;exact heap_setCell_same _ g 2 _ _ (.slice A' n' c') h2
theorem ZR.frozen{w:World}{g n c:Nat}{d x:Int}{A:Option Addr}(h:ZR w g d x A n c)(i:Nat):w.frozen? ⟨g,i,none⟩=false:=by
 have h':w.heap[g]?=some (.cells #[.int .i64 d,.int .i64 x,.slice A n c] 102 (0,0)):=h;simp[World.frozen?,h']
theorem ZR.apart{w:World}{g b i n c:Nat}{d x:Int}{A:Option Addr}{u:Value}(h:ZR w b d x A n c)(hne:b≠g):ZR (w.setCell ⟨g,i,none⟩ u) b d x A n c:=(Below.heap_setCell _ _ _ _ hne).trans h
theorem Zkl{w0 X X2 w4:World}{F:Nat->Prop}{base j c0 c' p0 p n0 cc0:Nat}{d x d0 x0:Int}{A0 A' AA0:Option Addr}{m:List KV}{ka va:Option Addr}{kn kc vn vc:Nat}{y:KV}{vs:List Value}
 (hrow:ZgW X F base (.slice A0 j c0) m) (hm:m.length=j) (hFlt:∀k,F k->k<X.heap.size) (h0:ZR X p0 d0 x0 AA0 n0 cc0) (hp:ZR X p d x A0 j c0) (hF0:F p0) (hFp:F p)
 (hu:Zj0 X F (.slice A0 j c0) ka kn kc y.1) (hu2:Zj0 X F (.slice A0 j c0) va vn vc y.2)
 (hvs:X.ownsRow base 65 2 (.slice A0 j c0) m.length vs) (hvl:∀(i:Nat) (x:KV),m[i]?=some x->∃(ka:Option Addr) (kn kc:Nat) (va:Option Addr) (vn vc:Nat),vs[i*2]?=some (.slice ka kn kc)/\vs[i*2+1]?=some (.slice va vn vc)/\Zj0 X F (.slice A0 j c0) ka kn kc x.1/\Zj0 X F (.slice A0 j c0) va vn vc x.2)
 (hX:Below X.heap.size X X2) (hb:Below w0.heap.size w0 X) (hbase:w0.heap.size<=base)
 (hown:w4.ownsRow base 65 2 (.slice A' (j+1) c') (j+1) (vs++[.slice ka kn kc,.slice va vn vc])) (hg:X2.grownBy w4 (Value.slice A0 j c0).ownBlock) (hl:(Value.slice A' (j+1) c').ownBlock=(Value.slice A0 j c0).ownBlock∨(Value.slice A' (j+1) c').ownBlock=some X2.heap.size) :
 ZgW w4 F base (.slice A' (j+1) c') (m++[y])/\ZR w4 p0 d0 x0 AA0 n0 cc0/\ZR w4 p d x A0 j c0/\Below w0.heap.size w0 w4:=by
 subst hm
 have hl':(Value.slice A' (m.length+1) c').ownBlock=(Value.slice A0 m.length c0).ownBlock∨∃r,(Value.slice A' (m.length+1) c').ownBlock=some r/\X.heap.size<=r:=by
  rcases hl with q|q
  · exact .inl q
  · exact .inr ⟨_,q,hX.size⟩
 obtain⟨q1,q2,q3⟩:=hrow.push hFlt hu hu2 hvs hvl hX hown hg hl';refine⟨q1,(q3 _ h0.cells.2.2.2 (fun e=>hrow.out _ e hF0)).trans h0,(q3 _ hp.cells.2.2.2 (fun e=>hrow.out _ e hFp)).trans hp,?_⟩;exact(hb.trans (hX.mono hb.size)).grown hg (ZZf hb.size hX.size) (fun k hk=>ZZf hbase (ZhQ hvs k hk).1)
def Zp(w:World)(G:Nat->Prop)(A:Option Addr)(n:Nat)(ps:List KV):Prop:=∀W:World,w.heap.size<=W.heap.size->(∀k,k<w.heap.size->¬G k->W.heap[k]?=w.heap[k]?)->Zaa W W.heap.size A n ps
theorem Zp.now{w:World}{G:Nat->Prop}{A:Option Addr}{n:Nat}{ps:List KV}(h:Zp w G A n ps):Zaa w w.heap.size A n ps:=h w (ZZe _) (fun _ _ _=>rfl)
theorem Zp.later{w w':World}{G:Nat->Prop}{A:Option Addr}{n:Nat}{ps:List KV}(h:Zp w G A n ps)(hs:w.heap.size<=w'.heap.size)(hk:∀k,k<w.heap.size->¬G k->w'.heap[k]?=w.heap[k]?):Zp w' G A n ps:=fun W hW hkW=>h W (ZZf hs hW) (fun k h1 h2=>(hkW k (ZZd h1 hs) h2).trans (hk k h1 h2))
theorem Zp.below{w w':World}{G:Nat->Prop}{A:Option Addr}{n:Nat}{ps:List KV}(h:Zp w G A n ps)(hb:Below w.heap.size w w'):Zp w' G A n ps:=h.later hb.size (fun k hk _=>hb.block k hk)
theorem Zp.setCell{w:World}{G:Nat->Prop}{A:Option Addr}{n:Nat}{ps:List KV}(h:Zp w G A n ps){p:Addr}(hp:G p.block)(u:Value):Zp (w.setCell p u) G A n ps:=h.later (by simp[World.setCell]) (fun k _ hf=>Below.heap_setCell _ _ _ _ (fun e=>hf (by rw[e];exact hp)))
def bkF(p:Nat)(G:Nat->Prop):Nat->Prop:=fun k=>k=p∨k=p+1∨G k
theorem Zgb{w0 W:World}{F:Nat->Prop}{base n c p:Nat}{d x:Int}{A:Option Addr}{l m:List KV}(hk:ZgW W F base (.slice A n c) l)(hm:m=l)(h0:ZR W w0.heap.size 0 0 none 0 0)(hF:F w0.heap.size)(hb:Below w0.heap.size w0 W)(G:Nat->Prop)(hG:∀k,¬F k->¬G k) :
 ZR (((W.setCell ⟨w0.heap.size,0,none⟩ (.int .i64 d)).setCell ⟨w0.heap.size,1,none⟩ (.int .i64 x)).setCell ⟨w0.heap.size,2,none⟩ (.slice A n c)) w0.heap.size d x A n c/\n<=c/\Zp (((W.setCell ⟨w0.heap.size,0,none⟩ (.int .i64 d)).setCell ⟨w0.heap.size,1,none⟩ (.int .i64 x)).setCell ⟨w0.heap.size,2,none⟩ (.slice A n c)) G A n m/\Below w0.heap.size w0 (((W.setCell ⟨w0.heap.size,0,none⟩ (.int .i64 d)).setCell ⟨w0.heap.size,1,none⟩ (.int .i64 x)).setCell ⟨w0.heap.size,2,none⟩ (.slice A n c)):=by
 subst hm;have hq:=((hk.setCell (p:=⟨w0.heap.size,0,none⟩) hF (.int .i64 d)).setCell (p:=⟨w0.heap.size,1,none⟩) hF (.int .i64 x)).setCell (p:=⟨w0.heap.size,2,none⟩) hF (.slice A n c);obtain⟨q1,q2,q3⟩:=hq.pairs;exact⟨h0.store,q2,fun W' hs hk'=>(hq.keep (F':=G) hs (fun k _ h=>hG k h) (fun k h1 h2=>hk' k h1 (hG k h2))).pairs.2.2,((hb.setCell (p:=⟨w0.heap.size,0,none⟩) (ZZe _) _).setCell (p:=⟨w0.heap.size,1,none⟩) (ZZe _) _).setCell (p:=⟨w0.heap.size,2,none⟩) (ZZe _) _⟩
theorem Zmh{w:World}{B n c:Nat}{A:Option Addr}{l:List Int}(hr:RB w B A n l)(hB:B<=w.heap.size)(hn:n=240)(hc:n<=c)(G:Nat->Prop)(hG:∀k,G k->k<w.heap.size)(hAG:∀x,A=some x->¬G x.block) :
 Calls prog 223 #[.slice A n c] w fun e w'=>∃A' n' c',e=.returned (.agg #[.int .i64 (readBk l).d,.int .i64 (readBk l).x,.slice A' n' c'])/\n'<=c'/\Zp w' G A' n' (readBk l).ps/\Below w.heap.size w w':=by
 have hX1:Below w.heap.size w (w.alloc (Zax 0 0 none 0 0)):=(Below.refl _ _).alloc (ZZe _) _;have HG:=hid (fun(W:World) (hW:Below w.heap.size w W) (a s:Int)=>ZbK a s (hr.below (hW.mono hB)) hc (by subst hn;decide));have HC1:=hid (fun(W:World) (hW:Below w.heap.size w W) (a:Nat) (ha:a<=240) (he:240<cutE l a)=>ZiT a (hr.below (hW.mono hB)) (ZZf hB hW.size) hn hc ha he);have HC2:=hid (fun(W:World) (hW:Below w.heap.size w W) (a:Nat) (he:¬240<cutE l a)=>ZiU a (hr.below (hW.mono hB)) (ZZf hB hW.size) hn hc he);have HBN:=hid (ZZg (Zet hr.bytes 1 1) (ZZg (Zet hr.bytes 2 4) (Zet hr.bytes 6 2)));have HKB:=hid (fun a=>ZZg (Zqo hr.bytes a).1 (Zqp hr.bytes a).1);have HPB:=hid (fun(W:World) (hW:Below w.heap.size w W)=>hr.below (hW.mono hB));have HD:Hid ((readBk l).d=(getR l 1 1).1/\(readBk l).x=(getR l 2 4).1/\(readBk l).ps=ZcY l ((getR l 6 2).1).toNat 8):=hid ⟨rfl,rfl,rfl⟩;have hbx0:=ZR.new w 0 0 none 0 0;have HX1:=hid hX1;have hs1:(w.alloc (Zax 0 0 none 0 0)).heap.size=w.heap.size+1:=by simp
 have hG1:=hid (HG.out _ hX1 1 1);have hG2:=hid (HG.out _ hX1 2 4);have hbx1:=ZR.new (w.alloc (Zax 0 0 none 0 0)) (getR l 1 1).1 (getR l 2 4).1 none 0 0;have hX2:Below (w.alloc (Zax 0 0 none 0 0)).heap.size (w.alloc (Zax 0 0 none 0 0)) ((w.alloc (Zax 0 0 none 0 0)).alloc (Zax (getR l 1 1).1 (getR l 2 4).1 none 0 0)):=(Below.refl _ _).alloc (ZZe _) _;rw[hs1]at hbx1;have HX2:=hid (ZZg (hbx0.below hX2) (ZZg hbx1 (hX1.trans (hX2.mono hX1.size))));have hG3:=hid (HG.out _ HX2.out.2.2 6 2);clear hr hX1 hbx0 hbx1 hX2 HX1;obtain⟨⟨b1,b2⟩,⟨b3,b4⟩,⟨b5,b6⟩⟩:=HBN.out;subst hn;generalize (getR l 1 1).1=D0 at *;generalize (getR l 2 4).1=X0 at *;generalize (getR l 6 2).1=C0 at *;clear HBN HG
 unfold Zax at *
 go_enter func223,ntmps223;go_wp2_with fail;refine hG1.out.mono ?_;rintro e w'⟨rfl,rfl⟩;go_wp2_with fail;refine hG2.out.mono ?_;rintro e w'⟨rfl,rfl⟩;go_wp2_with fail;refine hG3.out.mono ?_;rintro e w'⟨rfl,rfl⟩;go_wp2_with fail;obtain⟨N,hN⟩:∃N,C0.toNat=N:=⟨_,rfl⟩
 have HN:=hid hN;have HPS:Hid ((readBk l).ps=ZcY l N 8):=hid (by rw[<-hN];exact HD.out.2.2);clear hG1 hG2 hG3 hN
 go_loopw[3,22] (fun av i wr=>∃(j a:Nat) (A0:Option Addr) (c0:Nat) (m:List KV),j<=N/\a<=240/\i=.int .i64 j/\av=.int .i64 a/\2*j<=a/\Hid (m.length=j)/\Hid (ZcY l N 8=m++ZcY l (N-j) a)/\Hid (ZgW wr (bkF w.heap.size G) (w.heap.size+2) (.slice A0 j c0) m)/\Hid (ZR wr w.heap.size 0 0 none 0 0/\ZR wr (w.heap.size+1) D0 X0 A0 j c0/\Below w.heap.size w wr)) (fun _ i _=>N-(intOf i).toNat)
 case atStart=>exact⟨0,8,none,0,[],Nat.zero_le _,by decide,rfl,rfl,by decide,hid rfl,hid rfl,hid (ZgW.start _ _ _),HX2⟩
 case round=>
  clear HX2;obtain⟨j,a,A0,c0,m,hj,ha,rfl,rfl,hja,hml,hcuts,hrow,hbxs⟩:=hrel;by_cases hlt:j<N
  · have hlt':(j:Int)<C0:=by have:=HN.out;omega
    by_cases he:240<cutE l a
    · have HC:=hid (HC1.out _ hbxs.out.2.2 a ha he);have hme:=hid (show(readBk l).ps=m from by rw[HPS.out,hcuts.out,Zg8 he,List.append_nil]);have he':240<(cutE l a:Int):=by omega
      have HCE:=hid (show cutE l a<=1000 from by have:=HKB.out a;unfold cutE;omega);have hce:=HCE.out;clear he;generalize cutE l a=E at HC he' hce;go_wp2_with fail;refine HC.out.mono ?_;rintro e w1⟨rfl,hb1⟩;have hX:Below w1.heap.size w1 (w1.alloc (.cells #[.slice none 0 0,.slice none 0 0] 65 (0,0))):=(Below.refl _ _).alloc (ZZe _) _;have hbX:=hb1.trans (hX.mono hb1.size);have hb0:=hbxs.out.1.below hbX;have hbp:=hbxs.out.2.1.below hbX;have HEND:=hid (Zgb (p:=0) (d:=D0) (x:=X0) (hrow.out.below hbX) hme.out hb0 (.inl rfl) (hbxs.out.2.2.trans (hbX.mono hbxs.out.2.2.size)) G (fun k h1 h2=>h1 (.inr (.inr h2))));have f0:=hb0.frozen 0;have f1:=hb0.frozen 1;have f2:=hb0.frozen 2;obtain⟨z0,z1,z2,_⟩:=hb0.cells;obtain⟨u0,u1,u2,_⟩:=hbp.cells;clear hb1 hX hbX hb0 hbp hrow hbxs HC hcuts;go_wp2;generalize hXX:((((w1.alloc (.cells #[.slice none 0 0,.slice none 0 0] 65 (0,0))).setCell ⟨w.heap.size,0,none⟩ (Value.int IntKind.i64 D0)).setCell ⟨w.heap.size,1,none⟩ (Value.int IntKind.i64 X0)).setCell ⟨w.heap.size,2,none⟩ (Value.slice A0 j c0))=X at *;obtain⟨d0,d1,d2,_⟩:=HEND.out.1.cells
      refine bodyPost_ret (v:=.agg #[.int .i64 D0,.int .i64 X0,.slice A0 j c0]) (by
       simp[results,Tryz.results223,go_sem,d0,d1,d2]) rfl ?_
      exact⟨A0,j,c0,by rw[HD.out.1,HD.out.2.1],HEND.out.2.1,HEND.out.2.2.1,HEND.out.2.2.2⟩
    · have HC:=hid (HC2.out _ hbxs.out.2.2 a he)
      have HNX:=hid (show ZcY l N 8=(m++[(cutK l a,cutV l a)])++ZcY l (N-(j+1)) (cutE l a)from by
       rw[hcuts.out,show N-j=(N-(j+1))+1 by omega,ZhP he]
       simp)
      have hEa:=hid (show 2*(j+1)<=cutE l a/\cutE l a<=240 from by unfold cutE;unfold cutE at he;omega);have hkb:=HKB.out a;have he':¬240<(cutE l a:Int):=by omega
      have hce:cutE l a<=240:=by omega
      clear he;generalize cutE l a=E at HC HNX hEa he' hce;generalize cutK l a=K at HC HNX;generalize cutV l a=V at HC HNX;generalize kN l a=kn at HC hkb;generalize vN l a=vn at HC hkb;go_wp2_with fail;refine HC.out.mono ?_;rintro e w1⟨ka,va,rfl,rk,rv,hb1,hin⟩;have hX:Below w1.heap.size w1 (w1.alloc (.cells #[.slice ka kn kn,.slice va vn vn] 65 (0,0))):=(Below.refl _ _).alloc (ZZe _) _;have hbX:=hb1.trans (hX.mono hb1.size);have hb0:=hbxs.out.1.below hbX;have hbp:=hbxs.out.2.1.below hbX;have hbw:=hbxs.out.2.2.trans (hbX.mono hbxs.out.2.2.size);have hrowX:=hrow.out.below hbX;have h1:0<1:=Nat.one_pos;have hX3:Below (w1.alloc (.cells #[.slice ka kn kn,.slice va vn vn] 65 (0,0))).heap.size (w1.alloc (.cells #[.slice ka kn kn,.slice va vn vn] 65 (0,0))) ((w1.alloc (.cells #[.slice ka kn kn,.slice va vn vn] 65 (0,0))).alloc (.cells #[.slice ka kn kn,.slice va vn vn] 65 (0,0))):=(Below.refl _ _).alloc (ZZe _) _;obtain⟨vs,hvs,hvl⟩:=hrowX.row
      have hFar:∀{D:Option Addr} {q:Nat} {L:List Int},RB wr B D q L->q<256->(∀y,D=some y->∃x,A=some x/\y.block=x.block)->Zj0 (w1.alloc (.cells #[.slice ka kn kn,.slice va vn vn] 65 (0,0))) (bkF w.heap.size G) (.slice A0 j c0) D q q L:=fun {D q L} h hq hin=>by
       refine⟨ZZe _,by unfold maxLen;omega,((h.below (hbX.mono (ZZf hB hbxs.out.2.2.size))).more (ZZf hB hbw.size)),fun x hx hq0=>?_⟩;obtain⟨bb,o,e,hbb,_⟩:=h.at_ hq0;rw[e]at hx;cases hx;refine⟨fun hf=>?_,fun hf=>?_⟩
       · rcases hf with hf|hf|hf
         · have:bb=w.heap.size:=hf
           omega
         · have:bb=w.heap.size+1:=hf
           omega
         · obtain⟨x,hx,hxb⟩:=hin _ e;exact hAG x hx (by rw[<-hxb];exact hf)
       · have:=(ZhQ hvs bb hf).1
         omega
      have hlen:(w1.alloc (.cells #[.slice ka kn kn,.slice va vn vn] 65 (0,0))).heap.size=w1.heap.size+1:=by simp
      have hpl:=hbp.cells.2.2.2
      have HSTEP:=hid (fun A' c' w4=>Zkl (w0:=w) (X2:=(w1.alloc (.cells #[.slice ka kn kn,.slice va vn vn] 65 (0,0))).alloc (.cells #[.slice ka kn kn,.slice va vn vn] 65 (0,0))) (w4:=w4) (A':=A') (c':=c') (y:=(K,V)) hrowX hml.out (fun k hk=>by
       rcases hk with rfl|rfl|hk
       · omega
       · omega
       · have:=hG k hk;have:=hbw.size;omega) hb0 hbp (.inl rfl) (.inr (.inl rfl)) (hFar rk hkb.1 (fun y hy=>hin y (.inl hy))) (hFar rv hkb.2 (fun y hy=>hin y (.inr hy))) hvs hvl hX3 hbw (by omega))
      have hownX:=ZnH hvs hX3;rw[hml.out]at hownX;obtain⟨u0,u1,u2,_⟩:=hbp.cells;obtain⟨y0,y1⟩:=(Zga.new w1 (.slice ka kn kn) (.slice va vn vn)).cells;have hsz3:w.heap.size+2<=((w1.alloc (.cells #[.slice ka kn kn,.slice va vn vn] 65 (0,0))).alloc (.cells #[.slice ka kn kn,.slice va vn vn] 65 (0,0))).heap.size:=by have:=hX3.size;omega
      have hblk3:((w1.alloc (.cells #[.slice ka kn kn,.slice va vn vn] 65 (0,0))).alloc (.cells #[.slice ka kn kn,.slice va vn vn] 65 (0,0))).heap[(w1.alloc (.cells #[.slice ka kn kn,.slice va vn vn] 65 (0,0))).heap.size]?=some (.cells #[.slice ka kn kn,.slice va vn vn] 65):=heap_alloc_new _ _;rw[hlen]at hblk3;have hj63:j<=4294967296:=by omega
      clear hb0 hbp hbw hrowX hX hX3 hbX hb1 rk rv hFar hvl hvs HC hrow hbxs
      go_wp2_with (at_builtin;refine Zeu rfl _ _ rfl (w.heap.size+2) (.slice A0 j c0) j vs rfl (w1.heap.size+1) (.slice ka kn kn) (.slice va vn vn) 65 rfl hownX hblk3 rfl rfl hj63 hsz3 ?_;intro A4 c4 w4 hown4 hg4 hl4;have HS4:=hid (HSTEP.out A4 c4 w4 hown4 hg4 hl4);clear hown4 hg4 hl4 hownX hblk3 hsz3 hlen HSTEP;have f2:=HS4.out.2.2.1.frozen 2;have z2:=HS4.out.2.2.1.cells.2.2.1)
      go_roundw
      case rel=>exact⟨j+1,E,A4,c4,m++[(K,V)],by omega,hce,by go_num,rfl,hEa.out.1,hid (by rw[List.length_append,hml.out];rfl),HNX,hid (HS4.out.1.setCell (p:=⟨w.heap.size+1,2,none⟩) (.inr (.inl rfl)) _),hid ⟨HS4.out.2.1.apart (by omega),HS4.out.2.2.1.set2,HS4.out.2.2.2.setCell (p:=⟨w.heap.size+1,2,none⟩) (by show _<=w.heap.size+1;omega) _⟩⟩
      case measure=>simp[intOf];omega
  · have hlt':¬(j:Int)<C0:=by have:=HN.out;omega
    obtain rfl:j=N:=by omega
    have hme:=hid (show(readBk l).ps=m from by rw[HPS.out,hcuts.out,Nat.sub_self,Zmf,List.append_nil]);have hb0:=hbxs.out.1;have HEND:=hid (Zgb (p:=0) (d:=D0) (x:=X0) hrow.out hme.out hb0 (.inl rfl) hbxs.out.2.2 G (fun k h1 h2=>h1 (.inr (.inr h2))));have f0:=hb0.frozen 0;have f1:=hb0.frozen 1;have f2:=hb0.frozen 2;obtain⟨z0,z1,z2,_⟩:=hb0.cells;obtain⟨u0,u1,u2,_⟩:=hbxs.out.2.1.cells;clear hb0 hrow hbxs hcuts;go_wp2;generalize hXX:(((wr.setCell ⟨w.heap.size,0,none⟩ (Value.int IntKind.i64 D0)).setCell ⟨w.heap.size,1,none⟩ (Value.int IntKind.i64 X0)).setCell ⟨w.heap.size,2,none⟩ (Value.slice A0 j c0))=X at *;obtain⟨d0,d1,d2,_⟩:=HEND.out.1.cells
    refine bodyPost_ret (v:=.agg #[.int .i64 D0,.int .i64 X0,.slice A0 j c0]) (by
     simp[results,Tryz.results223,go_sem,d0,d1,d2]) rfl ?_
    exact⟨A0,j,c0,by rw[HD.out.1,HD.out.2.1],HEND.out.2.1,HEND.out.2.2.1,HEND.out.2.2.2⟩
theorem Zmi(l:List Int)(c:Nat):∀a,a<=240->a+szP (ZcY l c a)<=240:=by
 induction c with
 | zero=>intro a ha;simpa[ZcY,szP] using ha
 | succ c ih=>
  intro a ha;by_cases h:240<cutE l a
  · rw[Zg8 h];simpa[szP] using ha
  · rw[ZhP h,ZfL]
    have:=ih (cutE l a) (by omega)
    have h1:(cutK l a).length<=kN l a:=by unfold cutK;rw[List.length_take];omega
    have h2:(cutV l a).length<=vN l a:=by unfold cutV;rw[List.length_take];omega
    have h3:cutE l a=a+2+kN l a+vN l a:=rfl;show a+(2+(cutK l a).length+(cutV l a).length+szP (ZcY l c (cutE l a)))<=240;omega
theorem Zg9(l:List Int):8+szP (readBk l).ps<=240/\(readBk l).ps.length<=116:=by
 have h:=Zmi l (ZnB l) 8 (by decide);have h2:=ZhM (readBk l).ps;have e:(readBk l).ps=ZcY l (ZnB l) 8:=rfl;rw[<-e]at h;exact⟨h,by omega⟩
theorem Zmj{l:List Int}(hb:Ze l):(-9223372036854775808<=(readBk l).d/\(readBk l).d<=9223372036854775807)/\(-9223372036854775808<=(readBk l).x/\(readBk l).x<=9223372036854775807):=⟨Zet hb 1 1,Zet hb 2 4⟩
theorem Zgc{l:List Int}(h:l.length=240)(hm:ZD (readBk l)=true)(hp:pageBk (readBk l)=l):Zap l=(readBk l,0):=by unfold Zap;rw[if_pos ⟨h,hm,hp⟩]
theorem Zha{l:List Int}(h:¬(l.length=240/\ZD (readBk l)=true/\pageBk (readBk l)=l)):Zap l=(⟨0,0,[]⟩,4):=by unfold Zap;rw[if_neg h]
theorem Zkm{w:World}{B n:Nat}{A:Option Addr}{l:List Int}(c:Nat)(h:RB w B A n l)(hB:B<=w.heap.size)(hn:n<=140737488355328) :
 Calls prog 112 #[.slice A n c] w fun e w'=>∃A' c',e=.returned (.slice A' n c')/\n<=c'/\RB w' w'.heap.size A' n l/\Below w.heap.size w w'/\∀x,A'=some x->w.heap.size<=x.block:=by
 have q22:∀(w:World) (a:Option Addr) (n c n' c':Nat),(binOp .eql 55 (.slice a n c) (.slice none n' c')).run prog w=.ok (.bool a.isNone) w:=fun w a n c n' c'=>Lib.run_eql_slice_nil w _ _ a n c n' c' underlying55
 rcases A with _|ad
 · have hm:n=0:=by
    rcases Nat.eq_zero_or_pos n with h0|h0
    · exact h0
    · obtain⟨b,off,e,_⟩:=h.at_ h0;cases e
   subst hm;obtain rfl:l = []:=List.eq_nil_of_length_eq_zero h.len;go_enter func112,ntmps112;go_wp2;go_ret;exact⟨none,0,rfl,ZZe _,RB.nil_,Below.refl _ _,fun x hx=>by cases hx⟩
 · go_enter func112,ntmps112
   go_wp2_with (at_builtin;refine Zab rfl _ _ rfl w.heap.size _ 0 [] rfl (World.ownsRow_made w #[] 0 (ZZe _) (Nat.zero_le _) rfl) B (some ad) n c l rfl (h.alloc hB _) (by omega) (by simp) ?_;intro v1 w1 hown1 _ hb1)
   simp only[Nat.zero_add,List.nil_append]at hown1;have hge:=ZnG hown1;obtain⟨A',c',rfl,hc'⟩:=Zdv hown1;go_ret;refine⟨A',c',rfl,hc',RB.of_own hown1 h.bytes,((Below.refl w.heap.size w).alloc (ZZe _) _).trans hb1,fun x hx=>?_⟩;subst hx;exact hge x.block (by simp[Value.ownBlock])
theorem Zp.none_(w:World)(G:Nat->Prop):Zp w G none 0 []:=fun W _ _=>Zaa.nil_
theorem Zd8{w0 W:World}{n c:Nat}{d x:Int}{A:Option Addr}{ps:List KV}(hr:Zp W (fun k=>k<=w0.heap.size) A n ps)(hc:n<=c)(h0:ZR W w0.heap.size 0 0 none 0 0)(hb:Below w0.heap.size w0 W) :
 ZR (((W.setCell ⟨w0.heap.size,0,none⟩ (.int .i64 d)).setCell ⟨w0.heap.size,1,none⟩ (.int .i64 x)).setCell ⟨w0.heap.size,2,none⟩ (.slice A n c)) w0.heap.size d x A n c/\n<=c/\Zp (((W.setCell ⟨w0.heap.size,0,none⟩ (.int .i64 d)).setCell ⟨w0.heap.size,1,none⟩ (.int .i64 x)).setCell ⟨w0.heap.size,2,none⟩ (.slice A n c)) (fun k=>k<=w0.heap.size) A n ps/\Below w0.heap.size w0 (((W.setCell ⟨w0.heap.size,0,none⟩ (.int .i64 d)).setCell ⟨w0.heap.size,1,none⟩ (.int .i64 x)).setCell ⟨w0.heap.size,2,none⟩ (.slice A n c)):=by
 have hq:=((hr.setCell (p:=⟨w0.heap.size,0,none⟩) (ZZe _) (.int .i64 d)).setCell (p:=⟨w0.heap.size,1,none⟩) (ZZe _) (.int .i64 x)).setCell (p:=⟨w0.heap.size,2,none⟩) (ZZe _) (.slice A n c);exact⟨h0.store,hc,hq,((hb.setCell (p:=⟨w0.heap.size,0,none⟩) (ZZe _) _).setCell (p:=⟨w0.heap.size,1,none⟩) (ZZe _) _).setCell (p:=⟨w0.heap.size,2,none⟩) (ZZe _) _⟩
theorem Zkn{w:World}{B n c:Nat}{A:Option Addr}{l:List Int}(hr:RB w B A n l)(hB:B<=w.heap.size)(hc:n<=c)(hm:n<=maxLen) :
 Calls prog 175 #[.slice A n c] w fun e w'=>∃A' n' c',e=.returned (.tuple #[.agg #[.int .i64 (Zap l).1.d,.int .i64 (Zap l).1.x,.slice A' n' c'],.int .i64 (Zap l).2])/\n'<=c'/\Zp w' (fun k=>k<=w.heap.size) A' n' (Zap l).1.ps/\Below w.heap.size w w':=by
 unfold maxLen at hm;have hX:Below w.heap.size w (w.alloc (Zax 0 0 none 0 0)):=(Below.refl _ _).alloc (ZZe _) _;have hbx:=ZR.new w 0 0 none 0 0;by_cases h240:n=240
 · have HC:=hid (Zkm c (hr.below (hX.mono hB)) (ZZf hB hX.size) (by omega));have HBX:=hid hbx;have HX:=hid hX;have HR:=hid hr;have HLEN:=hid (show l.length=240 by rw[hr.len];exact h240);have hfew:=Zg9 l;have hint:=Zmj hr.bytes;have hs1:w.heap.size<(w.alloc (Zax 0 0 none 0 0)).heap.size:=by simp
   clear hX hbx hr;subst h240
   unfold Zax at *
   go_enter func175,ntmps175;go_wp2_with fail;refine HC.out.mono ?_;rintro e w1⟨A1,c1,rfl,hc1,hr1,hb1,hnew⟩;have HB1:=hid (ZZg (HX.out.trans (hb1.mono HX.out.size)) (HBX.out.below hb1));have HRD:=hid (Zmh hr1 (ZZe _) rfl hc1 (fun k=>k<=w.heap.size) (fun k hk=>Nat.lt_of_le_of_lt hk HB1.out.2.cells.2.2.2) (fun x hx e=>by have:=hnew x hx;have e':x.block<=w.heap.size:=e;omega));clear hr1 hb1 hnew HC HX HBX;go_wp2_with fail;refine HRD.out.mono ?_;rintro e w2⟨A2,n2,c2,rfl,hc2,hst2,hb2⟩;have hXX:Below w2.heap.size w2 (w2.alloc (Zax (readBk l).d (readBk l).x A2 n2 c2)):=(Below.refl _ _).alloc (ZZe _) _;have hb2X:=hb2.trans (hXX.mono hb2.size);have HB2:=hid (ZZg (HB1.out.1.trans (hb2X.mono HB1.out.1.size)) (ZZg (HB1.out.2.below hb2X) (ZZg (ZR.new w2 (readBk l).d (readBk l).x A2 n2 c2) (hst2.below hXX))));have hn2:n2<=116:=by rw[<-hst2.now.len];exact hfew.2
   have HP:=hid (ZnA (readBk l).d (readBk l).x c2 HB2.out.2.2.2.now (ZZe _) (by unfold maxLen;omega) (by omega) hint.1 hint.2);obtain⟨u0,u1,u2,_⟩:=HB2.out.2.2.1.cells;have HPY:=hid (fun(hm:ZD (readBk l)=true) (hp:pageBk (readBk l)=l)=>Zgc HLEN.out hm hp);have HPN:=hid (fun(h:¬(ZD (readBk l)=true/\pageBk (readBk l)=l))=>Zha (l:=l) (fun h'=>h h'.2));have hput:Zd7 ⟨(readBk l).d,(readBk l).x,(readBk l).ps⟩=if ZD (readBk l)=true then(pageBk (readBk l),0)else([],1):=rfl
   rw[hput]at HP;clear hput hfew hint hst2 hb2 hXX hb2X HRD HB1;generalize readBk l=R at *;obtain⟨D,X0,PS⟩:=R
   unfold Zax at *
   go_wp2_with fail;refine HP.out.mono ?_;by_cases hmay:ZD ⟨D,X0,PS⟩=true
   · rw[if_pos hmay];rintro e w3⟨A3,n3,c3,rfl,hc3,hr3,hb3⟩;have hr3:RB w3 w3.heap.size A3 n3 (pageBk ⟨D,X0,PS⟩):=hr3;obtain⟨k1,k2,k3,k4⟩:=HB2.out;have hb03:=k1.trans (hb3.mono k1.size);have hbx0:=k2.below hb3;have hbx4:=k3.below hb3;have hst3:=k4.below hb3;have HE:=hid (ZdI c3 c hr3 (HR.out.below (hb03.mono hB)));have f0:=hbx0.frozen 0;have f1:=hbx0.frozen 1;have f2:=hbx0.frozen 2;obtain⟨z0,z1,z2,_⟩:=hbx0.cells;clear u0 u1 u2;obtain⟨u0,u1,u2,_⟩:=hbx4.cells;by_cases hpd:pageBk ⟨D,X0,PS⟩=l
     · have HPS:=hid (HPY.out hmay hpd);rw[decide_eq_true hpd]at HE;have HEND:=hid (Zd8 (d:=D) (x:=X0) hst3 hc2 hbx0 hb03);clear hr3 hb3 k1 k2 k3 k4 hb03 hbx0 hbx4 hst3 HP hpd hmay HPY HPN HB2;go_wp2_with fail;refine HE.out.mono ?_;rintro e w4⟨rfl,rfl⟩;go_wp2;generalize hXX:(((w3.setCell ⟨w.heap.size,0,none⟩ (Value.int IntKind.i64 D)).setCell ⟨w.heap.size,1,none⟩ (Value.int IntKind.i64 X0)).setCell ⟨w.heap.size,2,none⟩ (Value.slice A2 n2 c2))=X at *;obtain⟨d0,d1,d2,_⟩:=HEND.out.1.cells
       refine bodyPost_ret (v:=.tuple #[.agg #[.int .i64 D,.int .i64 X0,.slice A2 n2 c2],.int .i64 0]) (by
        simp[results,Tryz.results175,go_sem,d0,d1,d2]) rfl ?_
       rw[HPS.out];exact⟨_,_,_,rfl,HEND.out.2.1,HEND.out.2.2.1,HEND.out.2.2.2⟩
     · have HPS:=hid (HPN.out (fun h=>hpd h.2));rw[decide_eq_false hpd]at HE;have HEND:=hid (Zd8 (d:=0) (x:=0) (Zp.none_ w3 (fun k=>k<=w.heap.size)) (ZZe 0) hbx0 hb03);clear hr3 hb3 k1 k2 k3 k4 hb03 hbx0 hbx4 hst3 HP hpd hmay HPY HPN HB2;go_wp2_with fail;refine HE.out.mono ?_;rintro e w4⟨rfl,rfl⟩;go_wp2;generalize hXX:(((w3.setCell ⟨w.heap.size,0,none⟩ (Value.int IntKind.i64 0)).setCell ⟨w.heap.size,1,none⟩ (Value.int IntKind.i64 0)).setCell ⟨w.heap.size,2,none⟩ (Value.slice none 0 0))=X at *;obtain⟨d0,d1,d2,_⟩:=HEND.out.1.cells
       refine bodyPost_ret (v:=.tuple #[.agg #[.int .i64 0,.int .i64 0,.slice none 0 0],.int .i64 4]) (by
        simp[results,Tryz.results175,go_sem,d0,d1,d2]) rfl ?_
       rw[HPS.out];exact⟨_,_,_,rfl,HEND.out.2.1,HEND.out.2.2.1,HEND.out.2.2.2⟩
   · rw[if_neg hmay];rintro e w3⟨A3,n3,c3,rfl,hc3,hr3,hb3⟩;obtain⟨k1,k2,k3,k4⟩:=HB2.out;have hb03:=k1.trans (hb3.mono k1.size);have hbx0:=k2.below hb3;have f0:=hbx0.frozen 0;have f1:=hbx0.frozen 1;have f2:=hbx0.frozen 2;obtain⟨z0,z1,z2,_⟩:=hbx0.cells;have HPS:=hid (HPN.out (fun h=>hmay h.1));have HEND:=hid (Zd8 (d:=0) (x:=0) (Zp.none_ w3 (fun k=>k<=w.heap.size)) (ZZe 0) hbx0 hb03);clear u0 u1 u2 hr3 hb3 k1 k2 k3 k4 hb03 hbx0 HP hmay HPY HPN HB2;go_wp2;generalize hXX:(((w3.setCell ⟨w.heap.size,0,none⟩ (Value.int IntKind.i64 0)).setCell ⟨w.heap.size,1,none⟩ (Value.int IntKind.i64 0)).setCell ⟨w.heap.size,2,none⟩ (Value.slice none 0 0))=X at *;obtain⟨d0,d1,d2,_⟩:=HEND.out.1.cells
     refine bodyPost_ret (v:=.tuple #[.agg #[.int .i64 0,.int .i64 0,.slice none 0 0],.int .i64 4]) (by
      simp[results,Tryz.results175,go_sem,d0,d1,d2]) rfl ?_
     rw[HPS.out];exact⟨_,_,_,rfl,HEND.out.2.1,HEND.out.2.2.1,HEND.out.2.2.2⟩
 · have HPS:=hid (Zha (l:=l) (fun h=>h240 (by rw[<-hr.len];exact h.1)));have k1:((n:Int) != 240)=true:=by simp;omega
   have HX:=hid hX;obtain⟨z0,z1,z2,_⟩:=hbx.cells;clear h240 hX hr hbx
   unfold Zax at *
   go_enter func175,ntmps175;go_wp2
   refine bodyPost_ret (v:=.tuple #[.agg #[.int .i64 0,.int .i64 0,.slice none 0 0],.int .i64 4]) (by
    simp[results,Tryz.results175,go_sem,z0,z1,z2]) rfl ?_
   rw[HPS.out];exact⟨none,0,0,rfl,ZZe _,Zp.none_ _ _,HX.out⟩
theorem Zp.grow{w w':World}{G G':Nat->Prop}{A:Option Addr}{n:Nat}{ps:List KV}(h:Zp w G A n ps)(hs:w.heap.size<=w'.heap.size)(hk:∀k,k<w.heap.size->¬G k->w'.heap[k]?=w.heap[k]?)(hG:∀k,k<w.heap.size->¬G k->¬G' k):Zp w' G' A n ps:=
 fun W hW hkW=>h W (ZZf hs hW) (fun k h1 h2=>(hkW k (ZZd h1 hs) (hG k h1 h2)).trans (hk k h1 h2))
theorem ZaM{w:World}{base e size m:Nat}{v:Value}{xs:List Value}(h:w.ownsRow base e size v m xs):∀g,v.ownBlock=some g->base<=g/\g<w.heap.size:=by
 intro g hg;rcases h.2 with ⟨rfl,_⟩|⟨g',cap,cur,rfl,hb,hh,_⟩
 · simp[Value.ownBlock]at hg
 · simp[Value.ownBlock]at hg;subst hg;exact⟨hb,(ZZa.1 hh).1⟩
theorem ZB{w w':World}{base e size m:Nat}{v:Value}{xs:List Value}(h:w.ownsRow base e size v m xs)(hk:∀g,v.ownBlock=some g->w'.heap[g]?=w.heap[g]?):w'.ownsRow base e size v m xs:=by
 rcases h.2 with h'|⟨g,cap,cur,rfl,hg,hb,h3⟩
 · exact⟨h.1,.inl h'⟩
 · exact⟨h.1,.inr ⟨g,cap,cur,rfl,hg,(hk g (by simp[Value.ownBlock])).trans hb,h3⟩⟩
def Zko{β:Type}(R:World->(Nat->Prop)->List Value->β->Prop):Prop:=∀{w w':World} {Y Y':Nat->Prop} {us:List Value} {x:β},R w Y us x->w.heap.size<=w'.heap.size->(∀k,k<w.heap.size->¬Y k->¬Y' k)->(∀k,k<w.heap.size->¬Y k->w'.heap[k]?=w.heap[k]?)->R w' Y' us x
structure ZbL{β:Type}(R:World->(Nat->Prop)->List Value->β->Prop)(e:TypeId)(size:Nat)(w:World)(Y:Nat->Prop)(base:Nat)(v:Value)(l:List β):Prop where
 row:∃vs,w.ownsRow base e size v l.length vs/\∀(i:Nat) (x:β),l[i]?=some x->R w Y ((vs.drop (i*size)).take size) x
 own:∀r,v.ownBlock=some r->Y r
section
variable{β:Type}{R:World->(Nat->Prop)->List Value->β->Prop}{e:TypeId}{size:Nat}{w w':World}{Y Y':Nat->Prop}{base:Nat}{v:Value}{l:List β}
theorem ZbL.start(w:World)(Y:Nat->Prop)(base:Nat):ZbL R e size w Y base (.slice none 0 0) []:=
 ⟨⟨[],⟨by simp,.inl ⟨rfl,rfl⟩⟩,fun i x h=>by simp at h⟩,fun r h=>by simp[Value.ownBlock]at h⟩
theorem ZbL.at_(h:ZbL R e size w Y base v l):∀g,v.ownBlock=some g->base<=g/\g<w.heap.size:=by
 obtain⟨vs,h1,_⟩:=h.row;exact ZaM h1
theorem ZbL.keep(K:Zko R)(h:ZbL R e size w Y base v l)(hs:w.heap.size<=w'.heap.size)(hY:∀k,k<w.heap.size->¬Y k->¬Y' k)(hk:∀k,k<w.heap.size->¬Y k->w'.heap[k]?=w.heap[k]?)(ho:∀r,v.ownBlock=some r->w'.heap[r]?=w.heap[r]?/\Y' r):ZbL R e size w' Y' base v l:=by
 obtain⟨vs,h1,h2⟩:=h.row;exact⟨⟨vs,ZB h1 (fun g hg=>(ho g hg).1),fun i x hx=>K (h2 i x hx) hs hY hk⟩,fun r hr=>(ho r hr).2⟩
theorem ZbL.below(K:Zko R)(h:ZbL R e size w Y base v l)(hb:Below w.heap.size w w'):ZbL R e size w' Y base v l:=
 h.keep K hb.size (fun _ _ h=>h) (fun k hk _=>hb.block k hk) (fun r hr=>⟨hb.block r (h.at_ r hr).2,h.own r hr⟩)
theorem ZbL.shape(h:ZbL R e size w Y base v l):∃A c,v=.slice A l.length c/\l.length<=c:=by
 obtain⟨vs,h1,_⟩:=h.row;rcases h1.2 with ⟨rfl,h0⟩|⟨g,cap,cur,rfl,hb,hg,hc,_⟩
 · rw[h0];exact⟨none,0,rfl,ZZe _⟩
 · exact⟨_,cap,rfl,hc⟩
theorem ZbL.append(K:Zko R)(h:ZbL R e size w Y base v l){t ty:TypeId}{i0:TypeInfo}{z:Value}{bytes:Nat}(ht:prog.underlying t=some (.slice e))(hi:prog.info? e=some i0)(hz0:i0.zero=some z)(hz1:i0.size=size)(hz2:i0.bytes=bytes)(hzc:z.cells.size=size)(hsz:0<size)(hby:bytes<=64)
 {us:List Value} {x:β} {b:Nat} {T:TypeId} (hu:R w Y us x) (hul:us.length=size) (h1:∀u∈us,u.oneCell'=true) (hb:w.heap[b]?=some (.cells us.toArray T)) (hn:l.length<=4294967296) (hbase:base<=w.heap.size) :
 ∃v' w',(Builtin.append_ #[t,t] ty #[v,.slice (some ⟨b,0,none⟩) 1 1]).run prog w=.ok v' w'/\ZbL R e size w' (fun k=>Y k∨v'.ownBlock=some k) base v' (l++[x])/\w.grownBy w' v.ownBlock/\(v'.ownBlock=v.ownBlock∨v'.ownBlock=some w.heap.size)/\∃A c,v'=.slice A (l.length+1) c:=by
 obtain⟨vs,hown,hvs⟩:=h.row;have hvl:vs.length=l.length*size:=hown.1;have hlen:(l++[x]).length=l.length+1:=by simp
 obtain⟨v',w',hrun,h2,h3,_,h4⟩:=run_append_own_at (P:=prog) w base t ty e i0 z size bytes ht hi hz0 hz1 hz2 hzc hsz v l.length vs hown ⟨b,0,none⟩ 1 1 us (by simp[hul]) (World.news_of_block (cs:=us.toArray) hb) h1 (by unfold maxLen;omega) (by
  have:(l.length+1)*bytes<=(l.length+1)*64:=Nat.mul_le_mul_left _ hby
  omega) hbase
 have hwk:∀k,k<w.heap.size->¬Y k->w'.heap[k]?=w.heap[k]?:=fun k hk hy=>h3.block k hk (fun e=>hy (h.own k e.symm))
 refine⟨v',w',hrun,⟨⟨vs++us,by rw[hlen];exact h2,fun i y hy=>?_⟩,fun r hr=>.inr hr⟩,h3,h4,?_⟩
 · have far:∀{us:List Value} {y:β},R w Y us y->R w' (fun k=>Y k∨v'.ownBlock=some k) us y:=fun hr=>K hr h3.size (fun k hk hy hh=>by
    rcases hh with a|a
    · exact hy a
    · rcases h4 with q|q
      · rw[q]at a;exact hy (h.own k a)
      · rw[q]at a;injection a with a;omega) hwk
   rcases Nat.lt_or_ge i l.length with hi'|hi'
   · rw[List.getElem?_append_left hi']at hy
     have hle:i*size+size<=l.length*size:=by
      have:=Nat.mul_le_mul_right size (show i+1<=l.length from hi')
      rwa[Nat.add_mul,Nat.one_mul]at this
     rw[List.drop_append_of_le_length (by omega),List.take_append_of_le_length (by rw[List.length_drop];omega)];exact far (hvs i y hy)
   · rw[List.getElem?_append_right hi']at hy
     have hi0:i-l.length=0:=by
      have:=(ZZb.1 hy).1
      simp at this;omega
     rw[hi0]at hy;obtain rfl:x=y:=by simpa using hy
     obtain rfl:i=l.length:=by omega
     rw[<-hvl,List.drop_left,<-hul,List.take_length];exact far hu
 · obtain⟨g,cap,e,_⟩:=h2.form (Nat.succ_pos _);exact⟨_,cap,e⟩
end
end Go.Proofs.YtlmkdmdbpopnhaaGreatDoor
