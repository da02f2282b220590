/- ExuS, ExwA, ExP, ExQ, ExR, ExS. Conditions: in each theorem. -/
import Derived.Test.YtlmkdmdbpopnhaaGreatDoorG33
import Derived.Test.YtlmkdmdbpopnhaaGreatDoorG15
set_option maxRecDepth 100000
set_option linter.unusedVariables false
namespace Go.Proofs.YtlmkdmdbpopnhaaGreatDoor
open Go.RowKit
def Zb1(n:Int):Prop:=-9223372036854775808<=n/\n<=9223372036854775807
def Zdn(l:Zw):Prop:=Zb1 l.pg/\Zb1 l.d/\Zb1 l.x
def Zdo(x:KV)(l:Zw):Prop:=8+szP (l.ps++[x])<=240
def Zrh(x:KV)(ls:List Zw):Prop:=∀(j:Nat) (y:Zw),ls[j]?=some y->szP (y.ps++[x])<=4611686018427387904/\y.ps.length<=4294967295
structure Zn8(S:DS)(L:List (Int×List Int))(M M':MV)(SL:Int->Option Int)(l:Zw)(hh:Nat)(M1:MV)(SL1:Int->Option Int)(k:Nat)(ss1:List Stp)(pg:Int)(M2:MV)(K:Nat):Prop where
 x0:l.x=0
 d:0<=l.d/\l.d<=9
 lpg:Zb1 l.pg
 dbl:Zjh S L M M' SL l.d M1 SL1 k ss1
 md:Zb1 M'.d
 n:0<=M1.n/\M1.n<4611686018427387904
 f:Zb1 M1.f
 take:Zcr S L M1 pg M2
 pgI:Zb1 pg
 d2:0<=M2.d/\M2.d<=10
 hin:∀j:Nat,j<K->slotN hh (ZJ l.d)+2^ZA l.d+j*2^ZA (l.d+1)<2^ZA M2.d/\ZeF S L M SL1 ((slotN hh (ZJ l.d)+2^ZA l.d+j*2^ZA (l.d+1):Nat):Int) l.pg
 hend:2^ZA M2.d<=slotN hh (ZJ l.d)+2^ZA l.d+K*2^ZA (l.d+1)
 hend2:slotN hh (ZJ l.d)+2^ZA l.d+K*2^ZA (l.d+1)<=100000
 may:ZD (if ZaC hh l.d then loL l.pg l.d l.ps else hiL pg l.d l.ps).bv=true
 K:K<=1024
inductive AddDo (S:DS) (L:List (Int×List Int)) (M:MV) (x:KV) (hh:Nat):Nat->MV->(Int->Option Int)->List Zw->MV->(Int->Option Int)->Nat->List Stp->Prop
 | fit {N:Nat} {M':MV} {SL:Int->Option Int} {ls:List Zw} {m:Nat} {l:Zw} (hsz:Zrh x ls) (hml:ls[m]?=some l) (hfit:Zdo x l) (hnot:∀(j:Nat) (y:Zw),j<m->ls[j]?=some y->¬Zdo x y) (hb:Zdn l) (hmay:ZD ⟨l.d,l.x,l.ps++[x]⟩=true) :
  AddDo S L M x hh N M' SL ls M' SL 0 [.lay l.pg (pageBk ⟨l.d,l.x,l.ps++[x]⟩)]
 | follow {N:Nat} {M' M2:MV} {SL:Int->Option Int} {ls:List Zw} {l0 l:Zw} {pg:Int} (hsz:Zrh x ls) (hnot:∀(j:Nat) (y:Zw),ls[j]?=some y->¬Zdo x y) (h0:ls[0]?=some l0) (hd:l0.d=10) (hl:ls[ls.length-1]?=some l) (hn:0<=M'.n/\M'.n<4611686018427387904) (hf:Zb1 M'.f) (ht:Zcr S L M' pg M2) (hpg:Zb1 pg) (hb:Zdn l) (hmay1:ZD ⟨l.d,pg,l.ps⟩=true) (hmay2:ZD ⟨l.d,0,[x]⟩=true) :
  AddDo S L M x hh N M' SL ls M2 SL 0 ([.lay l.pg (pageBk ⟨l.d,pg,l.ps⟩)]++[.lay pg (pageBk ⟨l.d,0,[x]⟩)])
 | part {N:Nat} {M' M1 M2 M3:MV} {SL SL1 SL3:Int->Option Int} {l:Zw} {k K k3:Nat} {ss1 ss3:List Stp} {pg:Int} (hsz:Zrh x [l]) (hnot:¬Zdo x l) (hp:Zn8 S L M M' SL l hh M1 SL1 k ss1 pg M2 K)
  (rest:AddDo S L M x hh N M2 (Zcn (slotN hh (ZJ l.d)+2^ZA l.d) (2^ZA (l.d+1)) pg K SL1) [if ZaC hh l.d then hiL pg l.d l.ps else loL l.pg l.d l.ps] M3 SL3 k3 ss3) :
  AddDo S L M x hh (N+1) M' SL [l] M3 SL3 (k+K+k3) (ss1++ZaQ (slotN hh (ZJ l.d)+2^ZA l.d) (2^ZA (l.d+1)) pg K++[.lay (if ZaC hh l.d then loL l.pg l.d l.ps else hiL pg l.d l.ps).pg (pageBk (if ZaC hh l.d then loL l.pg l.d l.ps else hiL pg l.d l.ps).bv)]++ss3)
section
variable{S:DS}{L:List (Int×List Int)}{M M' M3:MV}{x:KV}{hh N k3:Nat}{SL SL3:Int->Option Int}{ls:List Zw}{ss3:List Stp}
theorem AddDo.sz(h:AddDo S L M x hh N M' SL ls M3 SL3 k3 ss3):Zrh x ls:=by
 cases h with
 | fit hsz=>exact hsz
 | follow hsz=>exact hsz
 | part hsz=>exact hsz
theorem AddDo.some_(h:AddDo S L M x hh N M' SL ls M3 SL3 k3 ss3):0<ls.length:=by
 cases h with
 | fit _ hml=>have:=(ZZb.1 hml).1;omega
 | follow _ _ h0=>exact(ZZb.1 h0).1
 | part=>exact Nat.one_pos
theorem AddDo.fit_at(h:AddDo S L M x hh N M' SL ls M3 SL3 k3 ss3){j:Nat}{y:Zw}(hy:ls[j]?=some y)(hf:Zdo x y)(hbef:∀(i:Nat) (z:Zw),i<j->ls[i]?=some z->¬Zdo x z) :
 M3=M'/\SL3=SL/\k3=0/\ss3 = [.lay y.pg (pageBk ⟨y.d,y.x,y.ps++[x]⟩)]/\Zdn y/\ZD ⟨y.d,y.x,y.ps++[x]⟩=true:=by
 cases h with
 | @fit _ _ _ _ m l hsz hml hfit hnot hb hmay=>
  have e:j=m:=by
   rcases Nat.lt_trichotomy j m with q|q|q
   · exact absurd hf (hnot j y q hy)
   · exact q
   · exact absurd hfit (hbef m l q hml)
  subst e;rw[hy]at hml;obtain rfl:=Option.some.inj hml;exact⟨rfl,rfl,rfl,rfl,hb,hmay⟩
 | follow _ hnot=>exact absurd hf (hnot j y hy)
 | part _ hnot=>
  have hj:j=0:=by have:=(ZZb.1 hy).1;simpa using this
  subst hj;obtain rfl:=Option.some.inj hy;exact absurd hf hnot
theorem AddDo.none_fits(h:AddDo S L M x hh N M' SL ls M3 SL3 k3 ss3)(hall:∀(j:Nat) (y:Zw),ls[j]?=some y->¬Zdo x y) :
 (∃(l0 l:Zw) (pg:Int),ls[0]?=some l0/\l0.d=10/\ls[ls.length-1]?=some l/\(0<=M'.n/\M'.n<4611686018427387904)/\Zb1 M'.f/\Zcr S L M' pg M3/\Zb1 pg/\Zdn l/\ZD ⟨l.d,pg,l.ps⟩=true/\ZD ⟨l.d,0,[x]⟩=true/\SL3=SL/\k3=0/\ss3 = [.lay l.pg (pageBk ⟨l.d,pg,l.ps⟩)]++[.lay pg (pageBk ⟨l.d,0,[x]⟩)])∨
 (∃(l:Zw) (N1:Nat) (M1 M2:MV) (SL1:Int->Option Int) (k K k4:Nat) (ss1 ss4:List Stp) (pg:Int),ls = [l]/\N=N1+1/\Zn8 S L M M' SL l hh M1 SL1 k ss1 pg M2 K/\AddDo S L M x hh N1 M2 (Zcn (slotN hh (ZJ l.d)+2^ZA l.d) (2^ZA (l.d+1)) pg K SL1) [if ZaC hh l.d then hiL pg l.d l.ps else loL l.pg l.d l.ps] M3 SL3 k4 ss4/\k3=k+K+k4/\ss3=ss1++ZaQ (slotN hh (ZJ l.d)+2^ZA l.d) (2^ZA (l.d+1)) pg K++[.lay (if ZaC hh l.d then loL l.pg l.d l.ps else hiL pg l.d l.ps).pg (pageBk (if ZaC hh l.d then loL l.pg l.d l.ps else hiL pg l.d l.ps).bv)]++ss4):=by
 cases h with
 | fit _ hml hfit=>exact absurd hfit (hall _ _ hml)
 | follow _ _ h0 hd hl hn hf ht hpg hb hmay1 hmay2=>exact .inl ⟨_,_,_,h0,hd,hl,hn,hf,ht,hpg,hb,hmay1,hmay2,rfl,rfl,rfl⟩
 | part _ _ hp rest=>exact .inr ⟨_,_,_,_,_,_,_,_,_,_,_,rfl,rfl,hp,rest,rfl,rfl⟩
end
def LC(w:World)(G:Nat->Prop)(A:Option Addr)(n:Nat)(ls:List Zw):Prop:=
 ls.length=n/\∃g,A=some ⟨g,0,none⟩/\g<w.heap.size/\¬G g/\∀(j:Nat) (y:Zw),ls[j]?=some y->∃(A':Option Addr) (n' c':Nat),(w.cell? ⟨g,j*4,none⟩=some (.int .i64 y.pg)/\w.cell? ⟨g,j*4+1,none⟩=some (.int .i64 y.d)/\w.cell? ⟨g,j*4+2,none⟩=some (.int .i64 y.x)/\w.cell? ⟨g,j*4+3,none⟩=some (.slice A' n' c'))/\n'<=c'/\n'<=maxLen/\Zp w (fun k=>G k∨k=g) A' n' y.ps
theorem LC.below{w w':World}{G:Nat->Prop}{A:Option Addr}{n:Nat}{ls:List Zw}(h:LC w G A n ls)(hb:Below w.heap.size w w'):LC w' G A n ls:=by
 obtain⟨h1,g,e,hg,hn,hc⟩:=h;refine⟨h1,g,e,ZZd hg hb.size,hn,fun j y hy=>?_⟩;obtain⟨A',n',c',⟨c0,c1,c2,c3⟩,h2,h3,h4⟩:=hc j y hy;exact⟨A',n',c',⟨(hb.cell (p:=⟨g,_,none⟩) hg).trans c0,(hb.cell (p:=⟨g,_,none⟩) hg).trans c1,(hb.cell (p:=⟨g,_,none⟩) hg).trans c2,(hb.cell (p:=⟨g,_,none⟩) hg).trans c3⟩,h2,h3,h4.below hb⟩
theorem LC.of_chain{wc w:World}{A:Option Addr}{n c:Nat}{ls:List Zw}(h:ZL wc w (.slice A n c) ls)(h0:0<ls.length){G:Nat->Prop}(hG:∀k,G k->k<wc.heap.size):LC w G A n ls:=by
 obtain⟨hnl,hc,hrd⟩:=h.read;obtain⟨g,e,hg,hwg,_,hat⟩:=hrd (by omega);refine⟨hnl.symm,g,e,hg,(fun q=>by have:=hG g q;omega),fun j y hy=>?_⟩;obtain⟨A',n',c',c0,c1,c2,c3,h1,h2,h3⟩:=hat j y hy;exact⟨A',n',c',⟨c0,c1,c2,c3⟩,h1,h2,h3.grow (ZZe _) (fun _ _ _=>rfl) (fun k hk hn hg2=>hn (hg2.imp (hG k) id))⟩
theorem LC.one{w:World}{G:Nat->Prop}(hG:∀k,G k->k<w.heap.size){l:Zw}{A':Option Addr}{n' c':Nat}(h1:n'<=c')(h2:n'<=maxLen)(hs:Zp w G A' n' l.ps){T:TypeId} :
 LC (w.alloc (.cells #[.int .i64 l.pg,.int .i64 l.d,.int .i64 l.x,.slice A' n' c'] T (0,0))) G (some ⟨w.heap.size,0,none⟩) 1 [l]:=by
 have hb:Below w.heap.size w (w.alloc (.cells #[.int .i64 l.pg,.int .i64 l.d,.int .i64 l.x,.slice A' n' c'] T (0,0))):=(Below.refl _ _).alloc (ZZe _) _;obtain⟨z0,z1,z2,z3,_,hl⟩:=Za (heap_alloc_new w (.cells #[.int .i64 l.pg,.int .i64 l.d,.int .i64 l.x,.slice A' n' c'] T (0,0)));refine⟨rfl,_,rfl,hl,(fun q=>by have:=hG _ q;omega),fun j y hy=>?_⟩;have hj:j=0:=by have:=(ZZb.1 hy).1;simpa using this
 subst hj;obtain rfl:=Option.some.inj hy
 exact⟨A',n',c',⟨z0,z1,z2,z3⟩,h1,h2,hs.grow hb.size (fun k hk _=>hb.block k hk) (fun k hk hn hg=>by
  rcases hg with q|q
  · exact hn q
  · omega)⟩
theorem LC.keep{w w':World}{G G':Nat->Prop}{A:Option Addr}{n:Nat}{ls:List Zw}(h:LC w G A n ls)(hs:w.heap.size<=w'.heap.size)(hk:∀k,k<w.heap.size->¬G k->w'.heap[k]?=w.heap[k]?)(hG:∀k,k<w.heap.size->¬G k->¬G' k):LC w' G' A n ls:=by
 obtain⟨h1,g,e,hg,hn,hc⟩:=h;refine⟨h1,g,e,ZZd hg hs,hG g hg hn,fun j y hy=>?_⟩;obtain⟨A',n',c',⟨c0,c1,c2,c3⟩,h2,h3,h4⟩:=hc j y hy;have hb:=hk g hg hn
 exact⟨A',n',c',⟨(World.cell?_of_block (a:=⟨g,_,none⟩) hb).trans c0,(World.cell?_of_block (a:=⟨g,_,none⟩) hb).trans c1,(World.cell?_of_block (a:=⟨g,_,none⟩) hb).trans c2,(World.cell?_of_block (a:=⟨g,_,none⟩) hb).trans c3⟩,h2,h3,h4.grow hs (fun k hk' hn'=>hk k hk' (fun q=>hn' (.inl q))) (fun k hk' hn' hg'=>by
  rcases hg' with q|q
  · exact hG k hk' (fun e=>hn' (.inl e)) q
  · exact hn' (.inr q))⟩
theorem Zn9{W:World}{g o:Nat}{y0 y1 y2 y3:Value}(h0:W.cell? ⟨g,o,none⟩=some y0)(h1:W.cell? ⟨g,o+1,none⟩=some y1)(h2:W.cell? ⟨g,o+2,none⟩=some y2)(h3:W.cell? ⟨g,o+3,none⟩=some y3)(x0 x1 x2 x3:Value) :
 (((((W.setCell ⟨g,o,none⟩ x0).setCell ⟨g,o+1,none⟩ x1).setCell ⟨g,o+2,none⟩ x2).setCell ⟨g,o+3,none⟩ x3).cell? ⟨g,o,none⟩=some x0/\((((W.setCell ⟨g,o,none⟩ x0).setCell ⟨g,o+1,none⟩ x1).setCell ⟨g,o+2,none⟩ x2).setCell ⟨g,o+3,none⟩ x3).cell? ⟨g,o+1,none⟩=some x1/\((((W.setCell ⟨g,o,none⟩ x0).setCell ⟨g,o+1,none⟩ x1).setCell ⟨g,o+2,none⟩ x2).setCell ⟨g,o+3,none⟩ x3).cell? ⟨g,o+2,none⟩=some x2/\((((W.setCell ⟨g,o,none⟩ x0).setCell ⟨g,o+1,none⟩ x1).setCell ⟨g,o+2,none⟩ x2).setCell ⟨g,o+3,none⟩ x3).cell? ⟨g,o+3,none⟩=some x3)/\
 ∀k,(k<o∨o+3<k)->((((W.setCell ⟨g,o,none⟩ x0).setCell ⟨g,o+1,none⟩ x1).setCell ⟨g,o+2,none⟩ x2).setCell ⟨g,o+3,none⟩ x3).cell? ⟨g,k,none⟩=W.cell? ⟨g,k,none⟩:=by
 have oth:∀(V:World) (i k:Nat) (u:Value),i≠k->(V.setCell ⟨g,i,none⟩ u).cell? ⟨g,k,none⟩=V.cell? ⟨g,k,none⟩:=fun V i k u h=>World.cell?_setCell_other V _ _ u (by intro e;injection e with e1 e2;exact h e2)
 refine⟨⟨?_,?_,?_,?_⟩,fun k hk=>?_⟩
 · rw[oth _ _ _ _ (by omega),oth _ _ _ _ (by omega),oth _ _ _ _ (by omega)];exact World.cell?_setCell_same _ _ _ h0
 · rw[oth _ _ _ _ (by omega),oth _ _ _ _ (by omega)];exact World.cell?_setCell_same _ _ _ ((oth _ _ _ _ (by omega)).trans h1)
 · rw[oth _ _ _ _ (by omega)];exact World.cell?_setCell_same _ _ _ ((oth _ _ _ _ (by omega)).trans ((oth _ _ _ _ (by omega)).trans h2))
 · exact World.cell?_setCell_same _ _ _ ((oth _ _ _ _ (by omega)).trans ((oth _ _ _ _ (by omega)).trans ((oth _ _ _ _ (by omega)).trans h3)))
 · rw[oth _ _ _ _ (by omega),oth _ _ _ _ (by omega),oth _ _ _ _ (by omega),oth _ _ _ _ (by omega)]
theorem LC.set{w w4:World}{G:Nat->Prop}{g n m:Nat}{ls:List Zw}{l l':Zw}(h:LC w G (some ⟨g,0,none⟩) n ls)(hb:Below w.heap.size w w4)(hm:ls[m]?=some l){A':Option Addr}{n' c':Nat}(h1:n'<=c')(h2:n'<=maxLen)(hs:Zp w4 (fun k=>G k∨k=g) A' n' l'.ps) :
 LC ((((w4.setCell ⟨g,m*4,none⟩ (.int .i64 l'.pg)).setCell ⟨g,m*4+1,none⟩ (.int .i64 l'.d)).setCell ⟨g,m*4+2,none⟩ (.int .i64 l'.x)).setCell ⟨g,m*4+3,none⟩ (.slice A' n' c')) G (some ⟨g,0,none⟩) n (ls.set m l'):=by
 obtain⟨hl,g',e,hg,hn,hc⟩:=h.below hb;obtain rfl:g=g':=by injection e with e;injection e
 have hml:=(ZZb.1 hm).1;obtain⟨_,_,_,⟨c0,c1,c2,c3⟩,_⟩:=hc m l hm;obtain⟨⟨f0,f1,f2,f3⟩,fo⟩:=Zn9 c0 c1 c2 c3 (.int .i64 l'.pg) (.int .i64 l'.d) (.int .i64 l'.x) (.slice A' n' c');have hsz:((((w4.setCell ⟨g,m*4,none⟩ (.int .i64 l'.pg)).setCell ⟨g,m*4+1,none⟩ (.int .i64 l'.d)).setCell ⟨g,m*4+2,none⟩ (.int .i64 l'.x)).setCell ⟨g,m*4+3,none⟩ (.slice A' n' c')).heap.size=w4.heap.size:=by simp[World.setCell]
 have hblk:∀k,k≠g->((((w4.setCell ⟨g,m*4,none⟩ (.int .i64 l'.pg)).setCell ⟨g,m*4+1,none⟩ (.int .i64 l'.d)).setCell ⟨g,m*4+2,none⟩ (.int .i64 l'.x)).setCell ⟨g,m*4+3,none⟩ (.slice A' n' c')).heap[k]?=w4.heap[k]?:=fun k hk=>(Below.heap_setCell _ ⟨g,_,none⟩ _ k hk).trans ((Below.heap_setCell _ ⟨g,_,none⟩ _ k hk).trans ((Below.heap_setCell _ ⟨g,_,none⟩ _ k hk).trans (Below.heap_setCell _ ⟨g,_,none⟩ _ k hk)))
 refine⟨by rw[List.length_set,hl],g,rfl,by rw[hsz];exact hg,hn,fun j y hy=>?_⟩;by_cases hj:m=j
 · subst hj;rw[List.getElem?_set_self hml]at hy;obtain rfl:=Option.some.inj hy;exact⟨A',n',c',⟨f0,f1,f2,f3⟩,h1,h2,hs.grow (Nat.le_of_eq hsz.symm) (fun k _ hn'=>hblk k (fun e=>hn' (.inr e))) (fun _ _ h=>h)⟩
 · rw[List.getElem?_set_ne hj]at hy;obtain⟨B',p',q',⟨d0,d1,d2,d3⟩,k1,k2,k3⟩:=hc j y hy;exact⟨B',p',q',⟨(fo _ (by omega)).trans d0,(fo _ (by omega)).trans d1,(fo _ (by omega)).trans d2,(fo _ (by omega)).trans d3⟩,k1,k2,k3.grow (Nat.le_of_eq hsz.symm) (fun k _ hn'=>hblk k (fun e=>hn' (.inr e))) (fun _ _ h=>h)⟩
theorem Zgr{α:Type}(L d:List α){o:Nat}(h:o+d.length<=L.length)(i:Nat):(splice L o d)[i]?=if i<o then L[i]? else if i<o+d.length then d[i-o]? else L[i]?:=by
 unfold splice;have hl:(L.take o).length=o:=by rw[List.length_take];omega
 by_cases h1:i<o
 · rw[if_pos h1,List.getElem?_append_left (by omega),List.getElem?_take,if_pos h1]
 · rw[if_neg h1,List.getElem?_append_right (by omega),hl];by_cases h2:i<o+d.length
   · rw[if_pos h2,List.getElem?_append_left (by omega)]
   · rw[if_neg h2,List.getElem?_append_right (by omega),List.getElem?_drop,show o+d.length+(i-o-d.length)=i by omega]
theorem Zh3{α:Type}(L:List α)(a k i:Nat):((L.drop a).take k)[i]?=if i<k then L[a+i]? else none:=by
 rw[List.getElem?_take,List.getElem?_drop]
theorem Zji{L d:List Int}{o:Nat}(h:o+d.length<=L.length):((splice L o d).drop o).take d.length=d:=by
 refine List.ext_getElem? fun i=>?_
 rw[Zh3,Zgr _ _ h];by_cases hi:i<d.length
 · rw[if_pos hi,if_neg (by omega),if_pos (by omega),show o+i-o=i by omega]
 · rw[if_neg hi,List.getElem?_eq_none (by omega)]
theorem Zh4{L d:List Int}{o a k:Nat}(h:o+d.length<=L.length)(ha:a+k<=o∨o+d.length<=a):((splice L o d).drop a).take k=(L.drop a).take k:=by
 refine List.ext_getElem? fun i=>?_
 rw[Zh3,Zh3,Zgr _ _ h];by_cases hi:i<k
 · rw[if_pos hi,if_pos hi];by_cases h1:a+i<o
   · rw[if_pos h1]
   · rw[if_neg h1,if_neg (by omega)]
 · rw[if_neg hi,if_neg hi]
theorem Zgs{S:DS}{L:List (Int×List Int)}{o i:Int}{x:List Int}:Zn S (Zef L o x) i=if i=o then(x,0)else Zn S L i:=by
 unfold Zn;rw[ZfR];by_cases e:i=o
 · rw[if_pos e,if_pos e]
 · rw[if_neg e,if_neg e]
section
variable{S:DS}{L:List (Int×List Int)}{M:MV}{i j:Int}{l:List Int}{s:Stp}{ss:List Stp}
def InP(S:DS)(i:Int):Prop:=0<i/\i<S.P
def ZdZ(S:DS)(L:List (Int×List Int)):Prop:=∀i,InP S i->(Zn S L i).2=0/\(Zn S L i).1.length=240
theorem Zpt(h:InP S i)(hl:l.length=240):Za4 S i l=0/\∀j,Zn S (Zcf S L i l) j=if j=i then(l,0)else Zn S L j:=by
 have hno:¬(i<0∨i≥S.P∨l.length≠240):=by have:=h.1;have:=h.2;omega
 refine⟨if_neg hno,fun j=>?_⟩;rw[show Zcf S L i l=Zef L i l from if_neg hno];exact Zgs
def Zh5(M:MV):Stp->Int
 | .lay pg _=>pg
 | .pt slot _=>ownD M.l slot
 | .fr pg _=>pg
def ZqD(S:DS)(L:List (Int×List Int))(M:MV):Stp->List Int
 | .lay _ l=>l
 | .pt slot pg=>splice (Zn S L (ownD M.l slot)).1 ((slot%60).toNat*4) (Zr pg 4)
 | .fr pg nx=>splice (Zn S L pg).1 0 (Zr nx 4)
def Zba(S:DS)(M:MV):Stp->Prop
 | .lay pg l=>InP S pg/\l.length=240
 | .pt slot pg=>okD M.d M.l.length slot=true/\InP S (ownD M.l slot)/\(0<=pg/\pg<4294967296)
 | .fr pg nx=>InP S pg/\(0<=nx/\nx<4294967296)
theorem Zc4(q:Int):ownD [q] 0=q:=by unfold ownD;rfl
theorem Zoa:okD 0 1 0=true:=by decide
theorem Zob(hP:ZdZ S L)(h:Zba S M s):(ZqD S L M s).length=240:=by
 cases s with
 | lay pg l=>exact h.2
 | pt slot pg=>
  obtain⟨_,h2⟩:=hP _ h.2.1;obtain⟨_,t,_,e60,_,ht60,_⟩:=ZhV h.1
  show(splice _ _ _).length=240
  rw[length_splice _ _ _ (by rw[Zc,h2];omega)];exact h2
 | fr pg nx=>
  obtain⟨_,h2⟩:=hP _ h.1
  show(splice _ _ _).length=240
  rw[length_splice _ _ _ (by rw[Zc,h2];omega)];exact h2
theorem Zqb(h:Zba S M s):InP S (Zh5 M s):=by
 cases s with
 | lay pg l=>exact h.1
 | pt slot pg=>exact h.2.1
 | fr pg nx=>exact h.1
theorem ZqE(hP:ZdZ S L)(h:Zba S M s):Zby S M L s=(Za4 S (Zh5 M s) (ZqD S L M s),Zcf S L (Zh5 M s) (ZqD S L M s)):=by
 cases s with
 | lay pg l=>rfl
 | pt slot pg=>exact Zgl ⟨h.1,h.2.2⟩ (hP _ h.2.1).1
 | fr pg nx=>
  have:=Zgl (S:=S) (L:=L) (d:=0) (k:=1) (l:=[pg]) (slot:=0) (page:=nx) ⟨Zoa,h.2⟩ (by rw[Zc4];exact(hP _ h.1).1)
  rw[Zc4]at this;exact this
theorem Zbj(hP:ZdZ S L)(h:Zba S M s):(Zby S M L s).1=0/\ZdZ S (Zby S M L s).2/\∀j,Zn S (Zby S M L s).2 j=if j=Zh5 M s then(ZqD S L M s,0)else Zn S L j:=by
 obtain⟨h1,h2⟩:=Zpt (L:=L) (Zqb h) (Zob hP h);rw[ZqE hP h];refine⟨h1,fun j hj=>?_,h2⟩;rw[show(Za4 S (Zh5 M s) (ZqD S L M s),Zcf S L (Zh5 M s) (ZqD S L M s)).2=Zcf S L (Zh5 M s) (ZqD S L M s)from rfl,h2 j];by_cases e:j=Zh5 M s
 · rw[if_pos e];exact⟨rfl,Zob hP h⟩
 · rw[if_neg e];exact hP j hj
theorem Zpu:runS S M L (s::ss)=runS S M (Zby S M L s).2 ss:=rfl
theorem ZbA(a b:List Stp):runS S M L (a++b)=runS S M (runS S M L a) b:=by unfold runS;rw[List.foldl_append]
theorem Zlw:∀{ss:List Stp} {L:List (Int×List Int)},ZdZ S L->(∀s∈ss,Zba S M s)->okS S M L ss/\ZdZ S (runS S M L ss)
 | [],L,hP,_=>⟨fun k s h=>by simp at h,hP⟩
 | s::ss,L,hP,h=>by
  obtain⟨h1,h2,_⟩:=Zbj hP (h s List.mem_cons_self);obtain⟨h3,h4⟩:=Zlw (ss:=ss) h2 fun t ht=>h t (List.mem_cons_of_mem _ ht)
  refine⟨fun k t ht=>?_,h4⟩;cases k with
  | zero=>
   obtain rfl:s=t:=by simpa using ht
   exact h1
  | succ k=>exact h3 k t (by simpa using ht)
theorem Zlx:∀{ss:List Stp} {L:List (Int×List Int)},ZdZ S L->(∀s∈ss,Zba S M s)->Zn S (runS S M L ss) 0=Zn S L 0
 | [],L,_,_=>rfl
 | s::ss,L,hP,h=>by
  obtain⟨_,h2,h3⟩:=Zbj hP (h s List.mem_cons_self);have h0:=(Zqb (h s List.mem_cons_self)).1;rw[Zpu,Zlx (ss:=ss) h2 fun t ht=>h t (List.mem_cons_of_mem _ ht),h3,if_neg (by omega)]
def Zh6(l:List Int)(t:Nat):Int:=numOf ((l.drop (t*4)).take 4)
theorem Zjj{t:Nat}{x:Int}(hl:l.length=240)(ht:t<60)(hx:0<=x/\x<4294967296):Zh6 (splice l (t*4) (Zr x 4)) t=x:=by
 have hat:t*4+(Zr x 4).length<=l.length:=by rw[Zc,hl];omega
 unfold Zh6
 have:=Zji hat
 rw[Zc]at this;rw[this]
 have:=Zcc (x:=x) (s:=4) ((ZcG x).trans (decide_eq_true hx)) (by omega) (by omega)
 rw[show(4:Int).toNat=4 from rfl]at this;exact this
theorem ZmH{t u:Nat}{x:Int}(hl:l.length=240)(ht:t<60)(hu:u≠t):Zh6 (splice l (t*4) (Zr x 4)) u=Zh6 l u:=by
 have hat:t*4+(Zr x 4).length<=l.length:=by rw[Zc,hl];omega
 unfold Zh6;rw[Zh4 hat (by rw[Zc];omega)]
def Zay(S:DS)(L:List (Int×List Int))(dir:List Int)(s:Nat)(pg:Int):Prop:=InP S (ownD dir s)/\Zh6 (Zn S L (ownD dir s)).1 (s%60)=pg
theorem Zay.get{dir:List Int}{n:Nat}{pg d:Int}{k:Nat}(hP:ZdZ S L)(h:Zay S L dir n pg)(hok:okD d k (n:Int)=true):Zaz S L d k dir (n:Int)=(pg,0):=by
 rw[Zi0 hok (hP _ h.1).1];have e:((n:Int)%60).toNat=n%60:=by omega
 rw[e];exact congrArg (fun z=>(z,(0:Int))) h.2
theorem Zay.step{dir:List Int}{n:Nat}{pg:Int}(hP:ZdZ S L)(h:Zay S L dir n pg)(hs:Zba S M s)(hne:ownD dir n≠Zh5 M s):Zay S (Zby S M L s).2 dir n pg:=by
 refine⟨h.1,?_⟩;rw[(Zbj hP hs).2.2,if_neg hne];exact h.2
theorem Zay.turned{dir:List Int}{n:Nat}{pg:Int}(hP:ZdZ S L)(hs:Zba S M (.pt (n:Int) pg))(hd:ownD dir n=ownD M.l n):Zay S (Zby S M L (.pt (n:Int) pg)).2 dir n pg:=by
 refine⟨by rw[hd];exact hs.2.1,?_⟩;rw[(Zbj hP hs).2.2,if_pos (show ownD dir n=Zh5 M (.pt (n:Int) pg)from hd)];show Zh6 (splice _ _ _) _=pg;have e:((n:Int)%60).toNat=n%60:=by omega
 rw[e];exact Zjj (hP _ hs.2.1).2 (by omega) hs.2.2
theorem Zay.beside{dir:List Int}{n m:Nat}{pg pg':Int}(hP:ZdZ S L)(h:Zay S L dir n pg)(hs:Zba S M (.pt (m:Int) pg'))(hne:ownD dir n=ownD M.l m->n%60≠m%60):Zay S (Zby S M L (.pt (m:Int) pg')).2 dir n pg:=by
 refine⟨h.1,?_⟩;rw[(Zbj hP hs).2.2];by_cases e:ownD dir n=Zh5 M (.pt (m:Int) pg')
 · rw[if_pos e];show Zh6 (splice _ _ _) _=pg;have e2:((m:Int)%60).toNat=m%60:=by omega
   rw[e2,ZmH (hP _ hs.2.1).2 (by omega) (hne e)];rw[show ownD M.l (m:Int)=ownD dir n from e.symm];exact h.2
 · rw[if_neg e];exact h.2
end
abbrev Chn:=List (Nat×List KV)
def Zk(c:Chn):List KV:=c.flatMap (·.2)
def Zg(c:Chn):List Nat:=c.map (·.1)
def szX(ps:List KV):Nat:=(ps.map fun x=>2+x.1.length+x.2.length).sum
theorem Ze7{a b:List KV}(h:a.Sublist b):szX a<=szX b:=by
 induction h with
 | slnil=>exact ZZe _
 | cons a _ ih=>simp only[szX,List.map_cons,List.sum_cons]at ih ⊢;omega
 | cons_cons a _ ih=>simp only[szX,List.map_cons,List.sum_cons]at ih ⊢;omega
def Zh7(x:KV):Prop:=1<=x.1.length/\x.1.length<=32/\x.2.length<=120
def Z1(d:Nat):Nat:=(2^d+59)/60
structure Ex where
 d:Nat
 dir:List Nat
 sl:Nat->Nat
 bd:Nat->Nat
 ch:Nat->Chn
 bs:List Nat
 fr:List Nat
 nx:Nat
def Ex.pairs(e:Ex):List KV:=e.bs.flatMap fun p=>Zk (e.ch p)
def Ex.pages(e:Ex):List Nat:=e.bs.flatMap fun p=>Zg (e.ch p)
structure Zh8(dir pgs fr:List Nat)(nx:Nat):Prop where
 nodup:(0::(dir++pgs++fr)).Nodup
 lt:∀x∈0::(dir++pgs++fr),x<nx
 len:(0::(dir++pgs++fr)).length=nx
structure Zpv(d:Nat)(sl bd:Nat->Nat)(bs:List Nat):Prop where
 once:bs.Nodup
 bsIs:∀p,p∈bs↔∃s,s<2^d/\sl s=p
 deep:∀p∈bs,bd p<=d
 same:∀s t,s<2^d->t<2^d->(sl s=sl t↔s%2^bd (sl s)=t%2^bd (sl s))
structure Zdp(h:List Int->Nat)(p b r:Nat)(c:Chn):Prop where
 head:∃ps t,c=(p,ps)::t/\(b<10->t = [])/\∀x∈t,x.2≠[]
 hash:∀x∈Zk c,h x.1%2^b=r%2^b
 size:∀x∈c,szX x.2<=232
 ok:∀x∈Zk c,Zh7 x
 keys:((Zk c).map (·.1)).Nodup
structure ZX(h:List Int->Nat)(e:Ex):Prop where
 d:e.d<=10
 sl:Zpv e.d e.sl e.bd e.bs
 ch:∀s,s<2^e.d->Zdp h (e.sl s) (e.bd (e.sl s)) s (e.ch (e.sl s))
 pg:Zh8 e.dir e.pages e.fr e.nx
theorem Zh8.perm{dir dir' pgs pgs' fr fr':List Nat}{nx:Nat}(h:Zh8 dir pgs fr nx)(hp:(dir'++pgs'++fr').Perm (dir++pgs++fr)):Zh8 dir' pgs' fr' nx:=by
 have hp':(0::(dir'++pgs'++fr')).Perm (0::(dir++pgs++fr)):=hp.cons 0;exact⟨hp'.nodup_iff.2 h.nodup,fun x hx=>h.lt x (hp'.mem_iff.1 hx),by rw[hp'.length_eq];exact h.len⟩
theorem Zh8.new{dir dir' pgs pgs':List Nat}{nx:Nat}(h:Zh8 dir pgs [] nx)(hp:(dir'++pgs').Perm (nx::(dir++pgs))):Zh8 dir' pgs' [] (nx+1):=by
 have h1:=h.nodup;have h2:=h.lt;have h3:=h.len;rw[List.append_nil]at h1 h2 h3
 have hp':(0::(dir'++pgs'++[])).Perm (nx::0::(dir++pgs)):=by
  rw[List.append_nil];exact(hp.cons 0).trans (List.Perm.swap _ _ _)
 refine⟨hp'.nodup_iff.2 (List.nodup_cons.2 ⟨fun hm=>Nat.lt_irrefl _ (h2 _ hm),h1⟩),fun x hx=>?_,by rw[hp'.length_eq,List.length_cons,h3]⟩;rcases List.mem_cons.1 (hp'.mem_iff.1 hx)with e|e
 · omega
 · have:=h2 x e;omega
def Zoc(cap:Nat)(fr:List Nat)(nx q:Nat)(fr':List Nat)(nx':Nat):Prop:=
 (fr=q::fr'/\nx'=nx)∨(fr = []/\fr' = []/\q=nx/\nx'=nx+1/\nx<cap)
theorem Zh8.take{dir pgs fr fr':List Nat}{nx nx' q cap:Nat}(h:Zh8 dir pgs fr nx)(ht:Zoc cap fr nx q fr' nx'){dir' pgs':List Nat}(hp:(dir'++pgs').Perm (q::(dir++pgs))):Zh8 dir' pgs' fr' nx':=by
 rcases ht with ⟨rfl,rfl⟩|⟨rfl,rfl,rfl,rfl,_⟩
 · refine h.perm ?_
   exact(hp.append_right fr').trans (by
    simp only[List.cons_append]
    exact(List.perm_middle (l₁:=dir++pgs)).symm)
 · exact h.new hp
theorem Zh8.fresh{dir pgs fr fr':List Nat}{nx nx' q cap:Nat}(h:Zh8 dir pgs fr nx)(ht:Zoc cap fr nx q fr' nx'):q∉pgs/\q∉dir/\q≠0:=by
 have h1:=h.nodup;rcases ht with ⟨rfl,rfl⟩|⟨rfl,rfl,rfl,rfl,_⟩
 · rw[List.nodup_cons]at h1;obtain⟨h0,h1⟩:=h1;have h2:=(List.nodup_append.1 h1).2.2;refine⟨fun hm=>?_,fun hm=>?_,fun e=>?_⟩
   · exact h2 q (List.mem_append.2 (.inr hm)) q List.mem_cons_self rfl
   · exact h2 q (List.mem_append.2 (.inl hm)) q List.mem_cons_self rfl
   · exact h0 (by subst e;simp)
 · have hn:∀x∈0::(dir++pgs++[]),x≠q:=fun x hx e=>by have:=h.lt x hx;omega
   exact⟨fun hm=>hn _ (by simp[hm]) rfl,fun hm=>hn _ (by simp[hm]) rfl,fun e=>hn 0 List.mem_cons_self e.symm⟩
theorem Zam{a b d:Nat}(h:b<=d):a%2^d%2^b=a%2^b:=Nat.mod_mod_of_dvd a (Nat.pow_dvd_pow 2 h)
theorem ZbR(a d:Nat):a%2^d<2^d:=Nat.mod_lt _ (Nat.pos_of_ne_zero (by simp))
def Ex.home(h:List Int->Nat)(e:Ex)(k:List Int):Nat:=e.sl (h k%2^e.d)
theorem ZX.home_mem{h:List Int->Nat}{e:Ex}(H:ZX h e)(k:List Int):e.home h k∈e.bs:=(H.sl.bsIs _).2 ⟨_,ZbR _ _,rfl⟩
theorem ZX.at_{h:List Int->Nat}{e:Ex}(H:ZX h e){p:Nat}(hp:p∈e.bs):∃s,s<2^e.d/\e.sl s=p/\Zdp h p (e.bd p) s (e.ch p):=by
 obtain⟨s,hs,rfl⟩:=(H.sl.bsIs p).1 hp;exact⟨s,hs,rfl,H.ch s hs⟩
theorem ZX.home_of{h:List Int->Nat}{e:Ex}(H:ZX h e){p:Nat}(hp:p∈e.bs){x:KV}(hx:x∈Zk (e.ch p)):e.home h x.1=p:=by
 obtain⟨s,hs,rfl,hc⟩:=H.at_ hp;have e1:=hc.hash x hx;have hb:=H.sl.deep _ hp;unfold Ex.home
 have:=(H.sl.same s (h x.1%2^e.d) hs (ZbR _ _)).2 (by rw[Zam hb];exact e1.symm)
 exact this.symm
theorem ZX.mem{h:List Int->Nat}{e:Ex}(H:ZX h e)(x:KV):x∈e.pairs↔x∈Zk (e.ch (e.home h x.1)):=by
 unfold Ex.pairs;rw[List.mem_flatMap];constructor
 · rintro⟨p,hp,hx⟩;rw[H.home_of hp hx];exact hx
 · intro hx;exact⟨_,H.home_mem x.1,hx⟩
theorem Zpv.double{d:Nat}{sl bd:Nat->Nat}{bs:List Nat}(h:Zpv d sl bd bs):Zpv (d+1) (fun s=>sl (s%2^d)) bd bs:=by
 have hlt:∀s,s%2^d<2^d:=fun s=>ZbR s d
 have hle:2^d<=2^(d+1):=Nat.pow_le_pow_right (by decide) (ZZh d);refine⟨h.once,fun p=>?_,fun p hp=>Nat.le_succ_of_le (h.deep p hp),fun s t _ _=>?_⟩
 · rw[h.bsIs];constructor
   · rintro⟨s,hs,rfl⟩;exact⟨s,ZZd hs hle,by rw[Nat.mod_eq_of_lt hs]⟩
   · rintro⟨s,_,rfl⟩;exact⟨_,hlt s,rfl⟩
 · have hb:=h.deep _ ((h.bsIs _).2 ⟨_,hlt s,rfl⟩);rw[h.same _ _ (hlt s) (hlt t),Zam hb,Zam hb]
theorem Zh9{a t b:Nat}(h:a%2^b=t%2^b):a%2^(b+1)=t%2^(b+1)↔a/2^b%2=t/2^b%2:=by
 rw[Nat.mod_pow_succ,Nat.mod_pow_succ,h];have hp:0<2^b:=Nat.pos_of_ne_zero (by simp);constructor
 · intro e;exact Nat.eq_of_mul_eq_mul_left hp (Nat.add_left_cancel e)
 · intro e;rw[e]
theorem Zly{a t b:Nat}(h:a%2^(b+1)=t%2^(b+1)):a%2^b=t%2^b:=by
 have:=congrArg (· % 2^b) h
 simpa[Zam (ZZh b)] using this
def Zbk(sl:Nat->Nat)(p q b:Nat)(s:Nat):Nat:=if sl s=p/\s/2^b%2=1 then q else sl s
def Z5{α:Type}(f:Nat->α)(p:Nat)(a:α)(s:Nat):α:=if s=p then a else f s
theorem ZT{α:Type}(f:Nat->α)(p:Nat)(a:α):Z5 f p a p=a:=by simp[Z5]
theorem ZG{α:Type}(f:Nat->α){p s:Nat}(a:α)(h:s≠p):Z5 f p a s=f s:=by simp[Z5,h]
theorem Zpv.part{d:Nat}{sl bd:Nat->Nat}{bs:List Nat}(h:Zpv d sl bd bs){p q:Nat}(hp:p∈bs)(hq:q∉bs)(hb:bd p<d) :
 Zpv d (Zbk sl p q (bd p)) (Z5 (Z5 bd p (bd p+1)) q (bd p+1)) (q::bs):=by
 have hpq:p≠q:=fun e=>hq (by rw[<-e];exact hp)
 have hin:∀s,s<2^d->sl s∈bs:=fun s hs=>(h.bsIs _).2 ⟨s,hs,rfl⟩
 have hnq:∀s,s<2^d->sl s≠q:=fun s hs e=>hq (by rw[<-e];exact hin s hs)
 obtain⟨s0,hs0,e0⟩:=(h.bsIs p).1 hp;have hB:2^(bd p+1)<=2^d:=Nat.pow_le_pow_right (by decide) hb;have hB1:2^(bd p)+2^(bd p)=2^(bd p+1):=by rw[Nat.pow_succ];omega
 have hP:0<2^(bd p):=Nat.pos_of_ne_zero (by simp);have hr:=ZbR s0 (bd p);have l1:sl (s0%2^bd p)=p:=((h.same s0 (s0%2^bd p) hs0 (by omega)).2 (by rw[e0,Nat.mod_mod])).symm.trans e0;have l2:sl (s0%2^bd p+2^bd p)=p:=((h.same s0 (s0%2^bd p+2^bd p) hs0 (by omega)).2 (by rw[e0,Nat.add_mod_right,Nat.mod_mod])).symm.trans e0;have b1:s0%2^bd p/2^bd p%2=0:=by rw[Nat.div_eq_of_lt hr]
 have b2:(s0%2^bd p+2^bd p)/2^bd p%2=1:=by rw[Nat.add_div_right _ hP,Nat.div_eq_of_lt hr]
 refine⟨List.nodup_cons.2 ⟨hq,h.once⟩,fun r=>?_,fun r hr=>?_,fun s t hs ht=>?_⟩
 · rw[List.mem_cons,h.bsIs];unfold Zbk;constructor
   · rintro(rfl|⟨s,hs,rfl⟩)
     · exact⟨s0%2^bd p+2^bd p,by omega,by rw[if_pos ⟨l2,b2⟩]⟩
     · by_cases hc:sl s=p
       · exact⟨s0%2^bd p,by omega,by rw[if_neg (by rw[b1];simp),l1,hc]⟩
       · exact⟨s,hs,by rw[if_neg (fun hh=>hc hh.1)]⟩
   · rintro⟨s,hs,rfl⟩;split
     · exact .inl rfl
     · exact .inr ⟨s,hs,rfl⟩
 · unfold Z5;split
   · omega
   · split
     · omega
     · rcases List.mem_cons.1 hr with e|e
       · contradiction
       · exact h.deep r e
 · have hst:=h.same s t hs ht;have hts:=h.same t s ht hs;unfold Zbk;by_cases cs:sl s=p
   · rw[cs]at hst;by_cases ct:sl t=p
     · have hmod:s%2^bd p=t%2^bd p:=hst.1 (by rw[ct]);have hbit:=Zh9 hmod;by_cases bs':s/2^bd p%2=1
       · rw[if_pos ⟨cs,bs'⟩,ZT];by_cases bt:t/2^bd p%2=1
         · rw[if_pos ⟨ct,bt⟩,hbit];simp[bs',bt]
         · rw[if_neg (fun hh=>bt hh.2),ct,hbit];exact⟨fun e=>absurd e.symm hpq,fun e=>absurd (e ▸ bs') bt⟩
       · rw[if_neg (fun hh=>bs' hh.2),cs,ZG _ _ hpq,ZT];by_cases bt:t/2^bd p%2=1
         · rw[if_pos ⟨ct,bt⟩,hbit];exact⟨fun e=>absurd e hpq,fun e=>absurd (e ▸ bt) bs'⟩
         · rw[if_neg (fun hh=>bt hh.2),ct,hbit];exact⟨fun _=>by omega,fun _=>rfl⟩
     · have hne:s%2^(bd p+1)≠t%2^(bd p+1):=fun e=>ct (hst.2 (Zly e)).symm
       have e2:(if sl t=p/\t/2^bd p%2=1 then q else sl t)=sl t:=if_neg fun hh=>ct hh.1
       rw[e2];by_cases bs':s/2^bd p%2=1
       · rw[if_pos ⟨cs,bs'⟩,ZT];exact⟨fun e=>absurd e.symm (hnq t ht),fun e=>absurd e hne⟩
       · rw[if_neg (fun hh=>bs' hh.2),cs,ZG _ _ hpq,ZT];exact⟨fun e=>absurd e.symm ct,fun e=>absurd e hne⟩
   · have e1:(if sl s=p/\s/2^bd p%2=1 then q else sl s)=sl s:=if_neg fun hh=>cs hh.1
     rw[e1,ZG _ _ (hnq s hs),ZG _ _ cs];by_cases ct:sl t=p
     · have hne:¬s%2^bd (sl s)=t%2^bd (sl s):=fun e=>cs ((hst.2 e).trans ct)
       by_cases bt:t/2^bd p%2=1
       · rw[if_pos ⟨ct,bt⟩];exact⟨fun e=>absurd e (hnq s hs),fun e=>absurd e hne⟩
       · rw[if_neg (fun hh=>bt hh.2),ct];exact⟨fun e=>absurd e cs,fun e=>absurd e hne⟩
     · rw[if_neg (fun hh=>ct hh.1)];exact hst
theorem Zb2(a b:Chn):Zk (a++b)=Zk a++Zk b:=by simp[Zk]
theorem ZbB(x:Nat×List KV)(b:Chn):Zk (x::b)=x.2++Zk b:=by simp[Zk]
theorem ZC(a b:Chn):Zg (a++b)=Zg a++Zg b:=by simp[Zg]
theorem Zc5(x:Nat×List KV)(b:Chn):Zg (x::b)=x.1::Zg b:=by simp[Zg]
section
variable{h:List Int->Nat}{p b r:Nat}{c c':Chn}{e:Ex}
theorem Zdp.shift{r':Nat}(H:Zdp h p b r c)(hr:r%2^b=r'%2^b):Zdp h p b r' c:=⟨H.head,fun x hx=>(H.hash x hx).trans hr,H.size,H.ok,H.keys⟩
def Ex.rest(e:Ex)(p:Nat):List Nat:=e.bs.erase p
theorem Ze8{α:Type}(e:Ex)(hp:p∈e.bs)(f:Chn->List α):(e.bs.flatMap fun p=>f (e.ch p)).Perm (f (e.ch p)++(e.rest p).flatMap fun p=>f (e.ch p)):=by
 have h1:=(List.perm_cons_erase hp).flatMap_right (fun p=>f (e.ch p));rw[List.flatMap_cons]at h1;exact h1
theorem ZqF(hn:e.bs.Nodup){s:Nat}(hs:s∈e.rest p):s≠p:=by
 unfold Ex.rest at hs;rw[List.Nodup.mem_erase_iff hn]at hs;exact hs.1
theorem Zlz{α:Type}{ch ch':Nat->Chn}(l:List Nat)(f:Chn->List α)(hk:∀s∈l,ch' s=ch s):(l.flatMap fun p=>f (ch' p))=l.flatMap fun p=>f (ch p):=by
 induction l with
 | nil=>rfl
 | cons a l ih=>
  rw[List.flatMap_cons,List.flatMap_cons,hk a List.mem_cons_self,ih fun s hs=>hk s (List.mem_cons_of_mem _ hs)]
theorem Ze9{α:Type}(hn:e.bs.Nodup)(hp:p∈e.bs)(c:Chn)(f:Chn->List α):(e.bs.flatMap fun s=>f (Z5 e.ch p c s)).Perm (f c++(e.rest p).flatMap fun s=>f (e.ch s)):=by
 have h1:=Ze8 {e with ch:=Z5 e.ch p c} hp f;refine h1.trans ?_
 show(f (Z5 e.ch p c p)++(e.bs.erase p).flatMap fun s=>f (Z5 e.ch p c s)).Perm _
 rw[ZT,Zlz (ch:=e.ch) (ch':=Z5 e.ch p c) (e.bs.erase p) f fun s hs=>ZG _ _ (ZqF (e:=e) hn hs)];exact List.Perm.refl _
theorem ZX.setCh(H:ZX h e)(hp:p∈e.bs)(hc:Zdp h p (e.bd p) r c)(hr:∃s,s<2^e.d/\e.sl s=p/\s%2^e.bd p=r%2^e.bd p){fr':List Nat}{nx':Nat}
 (hpg:Zh8 e.dir (Zg c++(e.rest p).flatMap fun s=>Zg (e.ch s)) fr' nx'):ZX h {e with ch:=Z5 e.ch p c,fr:=fr',nx:=nx'}:=by
 obtain⟨s0,hs0,e0,hr0⟩:=hr;refine⟨H.d,H.sl,fun s hs=>?_,?_⟩
 · show Zdp h (e.sl s) (e.bd (e.sl s)) s (Z5 e.ch p c (e.sl s));by_cases hsp:e.sl s=p
   · rw[hsp,ZT];refine hc.shift ?_;rw[<-hr0]
     have:=(H.sl.same s0 s hs0 hs).1 (e0.trans hsp.symm)
     rw[e0]at this;exact this
   · rw[ZG _ _ hsp];exact H.ch s hs
 · refine hpg.perm ?_;exact((Ze9 H.sl.once hp c Zg).append_left _).append_right _
theorem ZX.pages_at(H:ZX h e)(hp:p∈e.bs):Zh8 e.dir (Zg (e.ch p)++(e.rest p).flatMap fun s=>Zg (e.ch s)) e.fr e.nx:=
 H.pg.perm (((Ze8 e hp Zg).symm.append_left _).append_right _)
theorem ZX.pairs_at(hp:p∈e.bs):e.pairs.Perm (Zk (e.ch p)++(e.rest p).flatMap fun s=>Zk (e.ch s)):=Ze8 e hp Zk
theorem ZX.pairs_set(H:ZX h e)(hp:p∈e.bs)(c:Chn){fr':List Nat}{nx':Nat}:({e with ch:=Z5 e.ch p c,fr:=fr',nx:=nx'}:Ex).pairs.Perm (Zk c++(e.rest p).flatMap fun s=>Zk (e.ch s)):=Ze9 H.sl.once hp c Zk
def hiB(h:List Int->Nat)(b:Nat)(x:KV):Bool:=h x.1/2^b%2 == 1
def ZoR(h:List Int->Nat)(b:Nat)(ps:List KV):List KV:=ps.filter fun x=>!hiB h b x
def Zg1(h:List Int->Nat)(b:Nat)(ps:List KV):List KV:=ps.filter (hiB h b)
theorem ZkK(h:List Int->Nat)(b:Nat)(ps:List KV):(Zg1 h b ps++ZoR h b ps).Perm ps:=List.filter_append_perm _ _
theorem Zdp.half{q:Nat}{ps ps':List KV}(H:Zdp h p b r [(p,ps)])(hs:ps'.Sublist ps){s:Nat}(hsb:s%2^b=r%2^b)(hbit:∀x∈ps',h x.1/2^b%2=s/2^b%2):Zdp h q (b+1) s [(q,ps')]:=by
 have hsub:∀x,x∈Zk [(q,ps')]->x∈Zk [(p,ps)]:=fun x hx=>by
  simp[Zk]at hx ⊢;exact hs.subset hx
 refine⟨⟨ps',[],rfl,fun _=>rfl,fun x hx=>absurd hx List.not_mem_nil⟩,fun x hx=>?_,fun x hx=>?_,fun x hx=>H.ok x (hsub x hx),?_⟩
 · exact(Zh9 ((H.hash x (hsub x hx)).trans hsb.symm)).2 (hbit x (by simpa[Zk] using hx))
 · obtain rfl:=List.mem_singleton.1 hx;exact ZZf (Ze7 hs) (H.size (p,ps) List.mem_cons_self)
 · have hk:=H.keys;simp only[Zk,List.flatMap_cons,List.flatMap_nil,List.append_nil]at hk ⊢;exact hk.sublist (hs.map _)
def Ex.part(h:List Int->Nat)(e:Ex)(p q:Nat)(ps:List KV)(fr':List Nat)(nx':Nat):Ex:=
 {e with sl:=Zbk e.sl p q (e.bd p),bd:=Z5 (Z5 e.bd p (e.bd p+1)) q (e.bd p+1),ch:=Z5 (Z5 e.ch p [(p,ZoR h (e.bd p) ps)]) q [(q,Zg1 h (e.bd p) ps)],bs:=q::e.bs,fr:=fr',nx:=nx'}
theorem Zjk{α:Type}(hn:e.bs.Nodup)(hp:p∈e.bs){q:Nat}(hq:q∉e.bs)(c1 c2:Chn)(f:Chn->List α):((q::e.bs).flatMap fun s=>f (Z5 (Z5 e.ch p c1) q c2 s)).Perm (f c2++(f c1++(e.rest p).flatMap fun s=>f (e.ch s))):=by
 rw[List.flatMap_cons,ZT];refine List.Perm.append_left _ ?_;rw[Zlz (ch:=Z5 e.ch p c1) (ch':=Z5 (Z5 e.ch p c1) q c2) e.bs f fun s hs=>ZG _ _ fun e'=>hq (by rw[<-e'];exact hs)];exact Ze9 hn hp c1 f
theorem ZX.part(H:ZX h e)(hp:p∈e.bs){ps:List KV}(hch:e.ch p = [(p,ps)])(hb:e.bd p<e.d){cap q:Nat}{fr':List Nat}{nx':Nat}(ht:Zoc cap e.fr e.nx q fr' nx') :
 ZX h (e.part h p q ps fr' nx')/\(e.part h p q ps fr' nx').pairs.Perm e.pairs:=by
 have hfresh:=(H.pages_at hp).fresh ht
 have hq:q∉e.bs:=fun hm=>by
  refine(H.pg.fresh ht).1 ?_;obtain⟨s,hs,e1,hc⟩:=H.at_ hm;obtain⟨ps',t,e2,_⟩:=hc.head;exact List.mem_flatMap.2 ⟨q,hm,by rw[e2];simp[Zg]⟩
 have hpq:p≠q:=fun e'=>hq (by rw[<-e'];exact hp)
 obtain⟨s0,hs0,e0,hc0⟩:=H.at_ hp;rw[hch]at hc0;have hsl:=H.sl.part hp hq hb;refine⟨⟨H.d,hsl,fun s hs=>?_,?_⟩,?_⟩
 · show Zdp h (Zbk e.sl p q (e.bd p) s) (Z5 (Z5 e.bd p (e.bd p+1)) q (e.bd p+1) (Zbk e.sl p q (e.bd p) s)) s (Z5 (Z5 e.ch p [(p,ZoR h (e.bd p) ps)]) q [(q,Zg1 h (e.bd p) ps)] (Zbk e.sl p q (e.bd p) s));have hnq:e.sl s≠q:=fun e'=>hq (by rw[<-e'];exact(H.sl.bsIs _).2 ⟨s,hs,rfl⟩)
   unfold Zbk;by_cases cs:e.sl s=p
   · have hmod:s%2^e.bd p=s0%2^e.bd p:=by
      have:=(H.sl.same s0 s hs0 hs).1 (e0.trans cs.symm)
      rw[e0]at this;exact this.symm
     by_cases bs':s/2^e.bd p%2=1
     · rw[if_pos ⟨cs,bs'⟩,ZT,ZT];refine hc0.half List.filter_sublist hmod fun x hx=>?_
       have:=(List.mem_filter.1 hx).2
       unfold hiB at this;rw[bs'];simpa using this
     · rw[if_neg (fun hh=>bs' hh.2),cs,ZG _ _ hpq,ZT,ZG _ _ hpq,ZT];refine hc0.half List.filter_sublist hmod fun x hx=>?_
       have:=(List.mem_filter.1 hx).2
       unfold hiB at this;have h1:¬h x.1/2^e.bd p%2=1:=by simpa using this
       omega
   · rw[if_neg (fun hh=>cs hh.1),ZG _ _ hnq,ZG _ _ cs,ZG _ _ hnq,ZG _ _ cs];exact H.ch s hs
 · refine(H.pages_at hp).take ht ?_;have h1:=Zjk H.sl.once hp hq [(p,ZoR h (e.bd p) ps)] [(q,Zg1 h (e.bd p) ps)] Zg;rw[hch];refine(h1.append_left e.dir).trans ?_;exact List.perm_middle
 · refine(Zjk H.sl.once hp hq [(p,ZoR h (e.bd p) ps)] [(q,Zg1 h (e.bd p) ps)] Zk).trans ?_;refine List.Perm.trans ?_ (ZX.pairs_at hp).symm;rw[hch,<-List.append_assoc];refine List.Perm.append_right _ ?_;simp only[Zk,List.flatMap_cons,List.flatMap_nil,List.append_nil];exact ZkK h (e.bd p) ps
end
section
variable{h:List Int->Nat}{p b r g:Nat}{c c' a t:Chn}{e:Ex}{ps ps1 ps2:List KV}{x y:KV}
theorem Zdp.of(H:Zdp h p b r c)(hhead:∃ps t,c'=(p,ps)::t/\(b<10->t = [])/\∀x∈t,x.2≠[])(hp:∀x∈Zk c',x∈Zk c∨(Zh7 x/\h x.1%2^b=r%2^b))(hs:∀x∈c',szX x.2<=232)(hk:((Zk c').map (·.1)).Nodup):Zdp h p b r c':=
 ⟨hhead,fun x hx=>by rcases hp x hx with h1|h1;exact H.hash x h1;exact h1.2,hs,fun x hx=>by rcases hp x hx with h1|h1;exact H.ok x h1;exact h1.1,hk⟩
theorem Zb6(a:Chn)(g:Nat)(ps:List KV)(t:Chn):(Zk (a++(g,ps)::t)).Perm (ps++(Zk a++Zk t)):=by
 rw[Zb2,ZbB,<-List.append_assoc,<-List.append_assoc];exact List.perm_append_comm.append_right _
theorem Zia(hh:∃ps0 t0,a++(g,ps)::t=(p,ps0)::t0/\(b<10->t0 = [])/\∀x∈t0,x.2≠[])(ps':List KV)(hne:a = []∨ps'≠[]):∃ps0 t0,a++(g,ps')::t=(p,ps0)::t0/\(b<10->t0 = [])/\∀x∈t0,x.2≠[]:=by
 obtain⟨ps0,t0,e1,h1,h2⟩:=hh;cases a with
 | nil=>
  simp only[List.nil_append,List.cons.injEq,Prod.mk.injEq]at e1 ⊢;obtain⟨⟨rfl,rfl⟩,rfl⟩:=e1;exact⟨ps',t,⟨⟨rfl,rfl⟩,rfl⟩,h1,h2⟩
 | cons a0 a=>
  simp only[List.cons_append,List.cons.injEq]at e1 ⊢;obtain⟨rfl,rfl⟩:=e1;refine⟨ps0,a++(g,ps')::t,⟨rfl,rfl⟩,fun hb=>absurd (h1 hb) (by simp),fun x hx=>?_⟩;rcases List.mem_append.1 hx with hx|hx
  · exact h2 x (List.mem_append.2 (.inl hx))
  · rcases List.mem_cons.1 hx with rfl|hx
    · rcases hne with hne|hne
      · cases hne
      · exact hne
    · exact h2 x (List.mem_append.2 (.inr (List.mem_cons_of_mem _ hx)))
theorem Zib(hs:∀x∈a++(g,ps)::t,szX x.2<=232){ps':List KV}(h':szX ps'<=232):∀x∈a++(g,ps')::t,szX x.2<=232:=fun x hx=>by
 rcases List.mem_append.1 hx with hx|hx
 · exact hs x (List.mem_append.2 (.inl hx))
 · rcases List.mem_cons.1 hx with rfl|hx
   · exact h'
   · exact hs x (List.mem_append.2 (.inr (List.mem_cons_of_mem _ hx)))
theorem Zdp.ins(H:Zdp h p b r (a++(g,ps)::t))(hx:Zh7 x)(hh:h x.1%2^b=r%2^b)(hs:szX (ps++[x])<=232)(hk:∀y∈Zk (a++(g,ps)::t),y.1≠x.1) :
 Zdp h p b r (a++(g,ps++[x])::t)/\(Zk (a++(g,ps++[x])::t)).Perm (x::Zk (a++(g,ps)::t)):=by
 have hp:(Zk (a++(g,ps++[x])::t)).Perm (x::Zk (a++(g,ps)::t)):=by
  refine(Zb6 a g _ t).trans ?_;refine List.Perm.trans ?_ ((Zb6 a g ps t).cons x).symm;rw[List.append_assoc];exact List.perm_middle
 refine⟨H.of (Zia H.head _ (.inr (by simp))) (fun y hy=>?_) (Zib H.size hs) ?_,hp⟩
 · rcases List.mem_cons.1 (hp.mem_iff.1 hy)with rfl|hy
   · exact .inr ⟨hx,hh⟩
   · exact .inl hy
 · rw[(hp.map (·.1)).nodup_iff,List.map_cons,List.nodup_cons];exact⟨fun hm=>by obtain⟨y,hy,e⟩:=List.mem_map.1 hm;exact hk y hy e,H.keys⟩
theorem ZcJ(a:Chn)(g:Nat)(ps1:List KV)(y:KV)(ps2:List KV)(t:Chn):(Zk (a++(g,ps1++y::ps2)::t)).Perm (y::Zk (a++(g,ps1++ps2)::t)):=by
 refine(Zb6 a g _ t).trans ?_;refine List.Perm.trans ?_ ((Zb6 a g (ps1++ps2) t).cons y).symm;rw[<-List.cons_append];exact List.perm_middle.append_right _
theorem Zdp.drop(H:Zdp h p b r (a++(g,ps1++y::ps2)::t))(hne:a = []∨ps1++ps2≠[]):Zdp h p b r (a++(g,ps1++ps2)::t):=by
 have hp:=ZcJ a g ps1 y ps2 t;refine H.of (Zia H.head _ hne) (fun z hz=>.inl (hp.mem_iff.2 (List.mem_cons_of_mem _ hz))) (Zib H.size ?_) ?_
 · refine ZZf (Ze7 ?_) (H.size (g,ps1++y::ps2) (by simp));exact(List.sublist_cons_self y ps2).append_left ps1
 · have:=(hp.map (·.1)).nodup_iff.1 H.keys
   rw[List.map_cons,List.nodup_cons]at this;exact this.2
theorem Zdp.swap(H:Zdp h p b r (a++(g,ps1++y::ps2)::t))(hxy:x.1=y.1)(hx:Zh7 x)(hs:szX (ps1++ps2++[x])<=232) :
 Zdp h p b r (a++(g,ps1++ps2++[x])::t)/\(Zk (a++(g,ps1++ps2++[x])::t)).Perm (x::Zk (a++(g,ps1++ps2)::t)):=by
 have hd:=ZcJ a g ps1 y ps2 t
 have hp:(Zk (a++(g,ps1++ps2++[x])::t)).Perm (x::Zk (a++(g,ps1++ps2)::t)):=by
  refine(Zb6 a g _ t).trans ?_;refine List.Perm.trans ?_ ((Zb6 a g (ps1++ps2) t).cons x).symm;rw[List.append_assoc];exact List.perm_middle
 refine⟨H.of (Zia H.head _ (.inr (by simp))) (fun z hz=>?_) (Zib H.size hs) ?_,hp⟩
 · rcases List.mem_cons.1 (hp.mem_iff.1 hz)with rfl|hz
   · exact .inr ⟨hx,by rw[hxy];exact H.hash y (hd.mem_iff.2 List.mem_cons_self)⟩
   · exact .inl (hd.mem_iff.2 (List.mem_cons_of_mem _ hz))
 · have hn:=(hd.map (·.1)).nodup_iff.1 H.keys;rw[(hp.map (·.1)).nodup_iff,List.map_cons,hxy];exact hn
theorem Zdp.unlink(H:Zdp h p b r (a++(g,[y])::t))(ha:a≠[]):Zdp h p b r (a++t):=by
 have hsub:(a++t).Sublist (a++(g,[y])::t):=(List.sublist_cons_self _ t).append_left a;have hd:=ZcJ a g [] y [] t;have e:Zk (a++(g,([]:List KV))::t)=Zk (a++t):=by simp[Zk]
 simp only[List.nil_append]at hd;rw[e]at hd;refine H.of ?_ (fun z hz=>.inl (hd.mem_iff.2 (List.mem_cons_of_mem _ hz))) (fun z hz=>H.size z (hsub.subset hz)) ?_
 · obtain⟨ps0,t0,e1,h1,h2⟩:=H.head;cases a with
   | nil=>exact absurd rfl ha
   | cons a0 a=>
    simp only[List.cons_append,List.cons.injEq]at e1 ⊢;obtain⟨rfl,rfl⟩:=e1;exact⟨ps0,a++t,⟨rfl,rfl⟩,fun hb=>absurd (h1 hb) (by simp),fun z hz=>h2 z (by rcases List.mem_append.1 hz with hz|hz;exact List.mem_append.2 (.inl hz);exact List.mem_append.2 (.inr (List.mem_cons_of_mem _ hz)))⟩
 · have hn:=(hd.map (·.1)).nodup_iff.1 H.keys;rw[List.map_cons,List.nodup_cons]at hn;exact hn.2
theorem Zdp.follow(H:Zdp h p 10 r c)(hx:Zh7 x)(hh:h x.1%2^10=r%2^10)(hk:∀y∈Zk c,y.1≠x.1)(q:Nat):Zdp h p 10 r (c++[(q,[x])])/\(Zk (c++[(q,[x])])).Perm (x::Zk c):=by
 have hp:(Zk (c++[(q,[x])])).Perm (x::Zk c):=by
  rw[Zb2];simp[Zk]
 refine⟨H.of ?_ (fun z hz=>?_) (fun z hz=>?_) ?_,hp⟩
 · obtain⟨ps0,t0,rfl,h1,h2⟩:=H.head;exact⟨ps0,t0++[(q,[x])],rfl,fun hb=>absurd hb (by decide),fun z hz=>by rcases List.mem_append.1 hz with hz|hz;exact h2 z hz;obtain rfl:=List.mem_singleton.1 hz;simp⟩
 · rcases List.mem_cons.1 (hp.mem_iff.1 hz)with rfl|hz
   · exact .inr ⟨hx,hh⟩
   · exact .inl hz
 · rcases List.mem_append.1 hz with hz|hz
   · exact H.size z hz
   · obtain rfl:=List.mem_singleton.1 hz;obtain⟨h1,h2,h3⟩:=hx;simp[szX];omega
 · rw[(hp.map (·.1)).nodup_iff,List.map_cons,List.nodup_cons];exact⟨fun hm=>by obtain⟨y,hy,e⟩:=List.mem_map.1 hm;exact hk y hy e,H.keys⟩
theorem Zc6:∀{l m:List Nat},l.Nodup->(∀x∈l,x∈m)->l.length<=m.length
 | [],_,_,_=>Nat.zero_le _
 | x::l,m,hn,hs=>by
  rw[List.nodup_cons]at hn;have hx:=hs x List.mem_cons_self;have h1:=Zc6 (l:=l) (m:=m.erase x) hn.2 fun y hy=>(List.mem_erase_of_ne (fun e=>hn.1 (by rw[<-e];exact hy))).2 (hs y (List.mem_cons_of_mem _ hy))
  rw[List.length_erase_of_mem hx]at h1
  have:=List.length_pos_of_mem hx
  rw[List.length_cons];omega
theorem Zpv.few{d:Nat}{sl bd:Nat->Nat}{bs:List Nat}(H:Zpv d sl bd bs):bs.length<=2^d:=by
 have:=Zc6 (m:=(List.range (2^d)).map sl) H.once fun x hx=>by
  obtain⟨s,hs,rfl⟩:=(H.bsIs x).1 hx;exact List.mem_map.2 ⟨s,List.mem_range.2 hs,rfl⟩
 simpa using this
theorem Zdp.few(H:Zdp h p b r c):(Zg c).length<=1+(Zk c).length:=by
 obtain⟨ps,t,rfl,_,h2⟩:=H.head
 have:∀t:Chn,(∀x∈t,x.2≠[])->(Zg t).length<=(Zk t).length:=by
  intro t
  induction t with
  | nil=>intro _;exact ZZe _
  | cons x t ih=>
   intro hx;have h1:=ih fun y hy=>hx y (List.mem_cons_of_mem _ hy)
   have h3:=List.length_pos_iff.2 (hx x List.mem_cons_self);rw[Zc5,ZbB,List.length_cons,List.length_append];omega
 have h1:=this t h2;rw[Zc5,ZbB,List.length_cons,List.length_append];omega
theorem ZX.few(H:ZX h e):e.pages.length<=2^e.d+e.pairs.length:=by
 have h1:=H.sl.few
 have:∀l:List Nat,(∀p∈l,p∈e.bs)->(l.flatMap fun p=>Zg (e.ch p)).length<=l.length+(l.flatMap fun p=>Zk (e.ch p)).length:=by
  intro l
  induction l with
  | nil=>intro _;exact ZZe _
  | cons p l ih=>
   intro hp;have h2:=ih fun y hy=>hp y (List.mem_cons_of_mem _ hy)
   obtain⟨s,_,_,hc⟩:=H.at_ (hp p List.mem_cons_self);have h3:=hc.few;rw[List.flatMap_cons,List.flatMap_cons,List.length_append,List.length_append,List.length_cons];omega
 have h2:=this e.bs fun _ h=>h
 unfold Ex.pages Ex.pairs;omega
theorem ZX.room(H:ZX h e)(hf:e.fr = []):e.nx<=1025+e.dir.length+e.pairs.length:=by
 have h1:=H.few;have h2:=H.pg.len;have h3:2^e.d<=1024:=ZZf (Nat.pow_le_pow_right (by decide) H.d) (by decide);rw[hf,List.append_nil,List.length_cons,List.length_append]at h2;omega
end
def Zd0(cap:Nat)(fr:List Nat)(nx:Nat):Option (Nat×List Nat×Nat):=match fr with
 | q::f=>some (q,f,nx)
 | []=>if nx<cap then some (nx,[],nx+1)else none
theorem takeF_is{cap nx q nx':Nat}{fr fr':List Nat}(h:Zd0 cap fr nx=some (q,fr',nx')):Zoc cap fr nx q fr' nx':=by
 unfold Zd0 at h
 split at h
 · simp only[Option.some.injEq,Prod.mk.injEq]at h;obtain⟨rfl,rfl,rfl⟩:=h;exact .inl ⟨rfl,rfl⟩
 · split at h
   · rename_i hc
     simp only[Option.some.injEq,Prod.mk.injEq]at h;obtain⟨rfl,rfl,rfl⟩:=h;exact .inr ⟨rfl,rfl,rfl,rfl,hc⟩
   · cases h
theorem ZdR{cap nx:Nat}{fr:List Nat}(h:fr = []->nx<cap):∃q fr' nx',Zd0 cap fr nx=some (q,fr',nx'):=by
 unfold Zd0;cases fr with
 | nil=>exact⟨_,_,_,by rw[if_pos (h rfl)]⟩
 | cons q f=>exact⟨_,_,_,rfl⟩
def ZmI(cap:Nat):Nat->List Nat->List Nat->Nat->Option (List Nat×List Nat×Nat)
 | 0,dir,fr,nx=>some (dir,fr,nx)
 | k+1,dir,fr,nx=>match Zd0 cap fr nx with
  | none=>none
  | some (q,fr',nx')=>ZmI cap k (dir++[q]) fr' nx'
theorem Zod{cap:Nat}:∀(k:Nat) {dir pgs fr dir' fr':List Nat} {nx nx':Nat},Zh8 dir pgs fr nx->ZmI cap k dir fr nx=some (dir',fr',nx')->Zh8 dir' pgs fr' nx'/\dir'.length=dir.length+k
 | 0,dir,pgs,fr,dir',fr',nx,nx',h,e=>by
  simp only[ZmI,Option.some.injEq,Prod.mk.injEq]at e;obtain⟨rfl,rfl,rfl⟩:=e;exact⟨h,rfl⟩
 | k+1,dir,pgs,fr,dir',fr',nx,nx',h,e=>by
  unfold ZmI at e
  split at e
  · cases e
  · rename_i q f n ht
    have h1:=h.take (takeF_is ht) (dir':=dir++[q]) (pgs':=pgs) (by
     rw[List.append_assoc]
     exact List.perm_middle)
    obtain⟨h2,h3⟩:=Zod k h1 e;exact⟨h2,by rw[h3,List.length_append,List.length_singleton];omega⟩
theorem Zjl{cap:Nat}:∀(k:Nat) {dir pgs fr:List Nat} {nx:Nat},Zh8 dir pgs fr nx->1+dir.length+k+pgs.length<=cap->∃r,ZmI cap k dir fr nx=some r
 | 0,dir,pgs,fr,nx,h,_=>⟨_,rfl⟩
 | k+1,dir,pgs,fr,nx,h,hc=>by
  obtain⟨q,f,n,ht⟩:=ZdR (cap:=cap) (nx:=nx) (fr:=fr) (fun e=>by
   have:=h.len
   rw[e,List.append_nil,List.length_cons,List.length_append]at this
   omega)
  have h1:=h.take (takeF_is ht) (dir':=dir++[q]) (pgs':=pgs) (by
   rw[List.append_assoc]
   exact List.perm_middle)
  have h4:(dir++[q]).length=dir.length+1:=by simp
  obtain⟨r,hr⟩:=Zjl (cap:=cap) (dir:=dir++[q]) (pgs:=pgs) (fr:=f) (nx:=n) k h1 (by rw[h4];omega);exact⟨r,by unfold ZmI;rw[ht];exact hr⟩
def Ex.doubleF(cap:Nat)(e:Ex):Option Ex:=(ZmI cap (Z1 (e.d+1)-e.dir.length) e.dir e.fr e.nx).map fun r=>{e with d:=e.d+1,sl:=fun s=>e.sl (s%2^e.d),dir:=r.1,fr:=r.2.1,nx:=r.2.2}
theorem Zfa(d:Nat):Z1 d<=Z1 (d+1):=by
 unfold Z1
 have:2^d<=2^(d+1):=Nat.pow_le_pow_right (by decide) (ZZh d)
 omega
theorem Zcs{d:Nat}(h:d<=10):Z1 d<=18:=by
 unfold Z1
 have:2^d<=2^10:=Nat.pow_le_pow_right (by decide) h
 omega
section
variable{h:List Int->Nat}{e e':Ex}{cap:Nat}{x:KV}{p:Nat}
theorem ZX.double(H:ZX h e)(hd:e.d<10)(hl:e.dir.length=Z1 e.d)(he:e.doubleF cap=some e') :
 ZX h e'/\e'.dir.length=Z1 e'.d/\e'.d=e.d+1/\e'.bs=e.bs/\e'.bd=e.bd/\e'.ch=e.ch/\∀k,e'.home h k=e.home h k:=by
 unfold Ex.doubleF at he;rw[Option.map_eq_some_iff]at he;obtain⟨⟨dir',fr',nx'⟩,hr,rfl⟩:=he;obtain⟨h1,h2⟩:=Zod _ H.pg hr;have hm:=Zfa e.d;refine⟨⟨hd,H.sl.double,fun s hs=>?_,h1⟩,by show dir'.length=Z1 (e.d+1);omega,rfl,rfl,rfl,rfl,fun k=>?_⟩
 · have hb:=H.sl.deep _ ((H.sl.bsIs _).2 ⟨s%2^e.d,ZbR _ _,rfl⟩);exact(H.ch (s%2^e.d) (ZbR _ _)).shift (Zam hb)
 · show e.sl (h k%2^(e.d+1)%2^e.d)=e.sl (h k%2^e.d);rw[Zam (ZZh _)]
theorem ZX.double_some(H:ZX h e)(hd:e.d<10)(hl:e.dir.length=Z1 e.d)(hc:1043+e.pairs.length<=cap):∃e',e.doubleF cap=some e':=by
 have h1:=H.few;have h2:2^e.d<=2^10:=Nat.pow_le_pow_right (by decide) H.d;have h3:=Zcs (d:=e.d+1) hd;have h4:=Zfa e.d;obtain⟨r,hr⟩:=Zjl (cap:=cap) (Z1 (e.d+1)-e.dir.length) H.pg (by omega);exact⟨_,by unfold Ex.doubleF;rw[hr];rfl⟩
def Ex.partF(h:List Int->Nat)(cap:Nat)(e:Ex)(p:Nat)(k:List Int):Option (Nat×Ex):=
 match (if e.bd p=e.d then e.doubleF cap else some e)with
 | none=>none
 | some e1=>match Zd0 cap e1.fr e1.nx with
  | none=>none
  | some (q,fr',nx')=>some (if h k/2^e.bd p%2=1 then q else p,e1.part h p q (Zk (e.ch p)) fr' nx')
theorem Zoe(H:ZX h e){q:Nat}{ps:List KV}{fr':List Nat}{nx':Nat}{k:List Int}(hk:e.home h k=p)(hb:e.bd p<e.d):(e.part h p q ps fr' nx').home h k=if h k/2^e.bd p%2=1 then q else p:=by
 show Zbk e.sl p q (e.bd p) (h k%2^e.d)=_;unfold Ex.home at hk;unfold Zbk
 have hbit:h k%2^e.d/2^e.bd p%2=h k/2^e.bd p%2:=by
  have h1:h k%2^e.d%2^(e.bd p+1)=h k%2^(e.bd p+1):=Zam hb;exact(Zh9 (Zly h1)).1 h1
 rw[hk,hbit];by_cases hc:h k/2^e.bd p%2=1
 · rw[if_pos ⟨rfl,hc⟩,if_pos hc]
 · rw[if_neg (fun hh=>hc hh.2),if_neg hc]
theorem ZX.one(H:ZX h e)(hp:p∈e.bs)(hb:e.bd p<10):e.ch p = [(p,Zk (e.ch p))]:=by
 obtain⟨s,_,_,hc⟩:=H.at_ hp;obtain⟨ps,t,e1,h1,_⟩:=hc.head;rw[e1,h1 hb];simp[Zk]
theorem ZX.partF(H:ZX h e)(hl:e.dir.length=Z1 e.d){k:List Int}(hk:e.home h k=p)(hb:e.bd p<10){p':Nat}(he:e.partF h cap p k=some (p',e')) :
 ZX h e'/\e'.dir.length=Z1 e'.d/\e'.pairs.Perm e.pairs/\e'.home h k=p'/\e'.bd p'=e.bd p+1:=by
 have hp:p∈e.bs:=by rw[<-hk];exact H.home_mem k
 have hone:=H.one hp hb;have hdeep:=H.sl.deep p hp;unfold Ex.partF at he
 have key:∀e1:Ex,ZX h e1->e1.dir.length=Z1 e1.d->e1.bs=e.bs->e1.bd=e.bd->e1.ch=e.ch->e1.home h k=p->e.bd p<e1.d->
  (match Zd0 cap e1.fr e1.nx with
   | none=>none
   | some (q,fr',nx')=>some (if h k/2^e.bd p%2=1 then q else p,e1.part h p q (Zk (e.ch p)) fr' nx'))=some (p',e')->
  ZX h e'/\e'.dir.length=Z1 e'.d/\e'.pairs.Perm e.pairs/\e'.home h k=p'/\e'.bd p'=e.bd p+1:=by
  intro e1 H1 hl1 b1 b2 b3 hk1 hlt hm
  split at hm
  · cases hm
  · rename_i q fr' nx' ht
    simp only[Option.some.injEq,Prod.mk.injEq]at hm;obtain⟨rfl,rfl⟩:=hm;have hp1:p∈e1.bs:=by rw[b1];exact hp
    obtain⟨H2,hpr⟩:=H1.part hp1 (ps:=Zk (e.ch p)) (by rw[b3];exact hone) (by rw[b2];exact hlt) (takeF_is ht);refine⟨H2,hl1,?_,?_,?_⟩
    · have:e1.pairs=e.pairs:=by unfold Ex.pairs;rw[b1,b3]
      rw[<-this];exact hpr
    · rw[Zoe H1 hk1 (by rw[b2];exact hlt),b2]
    · have hfr:=H1.pg.fresh (takeF_is ht);show Z5 (Z5 e1.bd p (e1.bd p+1)) q (e1.bd p+1) _=_;rw[b2];split
      · rw[ZT]
      · have hpq:p≠q:=fun e'=>hfr.1 (by
         rw[<-e']
         exact List.mem_flatMap.2 ⟨p,hp1,by rw[b3,hone];simp[Zg]⟩)
        rw[ZG _ _ hpq,ZT]
 by_cases hc:e.bd p=e.d
 · rw[if_pos hc]at he
   split at he
   · cases he
   · rename_i e1 hd
     obtain⟨H1,hl1,d1,b1,b2,b3,hh⟩:=H.double (by omega) hl hd;exact key e1 H1 hl1 b1 b2 b3 ((hh k).trans hk) (by omega) he
 · rw[if_neg hc]at he;exact key e H hl rfl rfl rfl hk (by omega) he
theorem ZX.partF_some(H:ZX h e)(hl:e.dir.length=Z1 e.d){k:List Int}(hk:e.home h k=p)(hb:e.bd p<10)(hc:1044+e.pairs.length<=cap):∃r,e.partF h cap p k=some r:=by
 have hp:p∈e.bs:=by rw[<-hk];exact H.home_mem k
 have hdeep:=H.sl.deep p hp
 have key:∀e1:Ex,ZX h e1->e1.dir.length=Z1 e1.d->e1.pairs=e.pairs->∃r,(match Zd0 cap e1.fr e1.nx with
  | none=>none
  | some (q,fr',nx')=>some (if h k/2^e.bd p%2=1 then q else p,e1.part h p q (Zk (e.ch p)) fr' nx'))=some r:=by
  intro e1 H1 hl1 hpr
  obtain⟨q,fr',nx',ht⟩:=ZdR (cap:=cap) (nx:=e1.nx) (fr:=e1.fr) (fun ef=>by
   have h1:=H1.room ef;have h2:=Zcs H1.d;rw[hpr]at h1
   omega)
  exact⟨_,by rw[ht]⟩
 unfold Ex.partF;by_cases hcc:e.bd p=e.d
 · obtain⟨e1,h1⟩:=H.double_some (cap:=cap) (by omega) hl (by omega);obtain⟨H1,hl1,d1,b1,b2,b3,hh⟩:=H.double (by omega) hl h1;rw[if_pos hcc,h1];exact key e1 H1 hl1 (by unfold Ex.pairs;rw[b1,b3])
 · rw[if_neg hcc];exact key e H hl rfl
def ZdF:Chn->KV->Option Chn
 | [],_=>none
 | (g,ps)::t,x=>if szX (ps++[x])<=232 then some ((g,ps++[x])::t)else(ZdF t x).map ((g,ps) :: ·)
theorem Zjm:∀{c c':Chn},ZdF c x=some c'->∃a g ps t,c=a++(g,ps)::t/\c'=a++(g,ps++[x])::t/\szX (ps++[x])<=232
 | [],c',hc=>by cases hc
 | (g,ps)::t,c',hc=>by
  unfold ZdF at hc
  split at hc
  · rename_i hs
    exact⟨[],g,ps,t,rfl,(Option.some.inj hc).symm,hs⟩
  · rw[Option.map_eq_some_iff]at hc;obtain⟨c1,h1,rfl⟩:=hc;obtain⟨a,g1,ps1,t1,rfl,rfl,hs⟩:=Zjm h1;exact⟨(g,ps)::a,g1,ps1,t1,rfl,rfl,hs⟩
def Ex.addF(h:List Int->Nat)(cap:Nat):Nat->Ex->Nat->KV->Option Ex
 | n,e,p,x=>match ZdF (e.ch p) x with
  | some c=>some {e with ch:=Z5 e.ch p c}
  | none=>if e.bd p=10 then(Zd0 cap e.fr e.nx).map fun r=>{e with ch:=Z5 e.ch p (e.ch p++[(r.1,[x])]),fr:=r.2.1,nx:=r.2.2}
   else match n with
    | 0=>none
    | n+1=>match e.partF h cap p x.1 with
     | none=>none
     | some (p',e')=>Ex.addF h cap n e' p' x
theorem ZcK(a:Chn)(g:Nat)(ps ps':List KV)(t:Chn):Zg (a++(g,ps)::t)=Zg (a++(g,ps')::t):=by simp[Zg]
theorem ZX.sameCh(H:ZX h e)(hp:p∈e.bs){c:Chn}{s:Nat}(hs:s<2^e.d)(hsl:e.sl s=p)(hc:Zdp h p (e.bd p) s c)(hpg:Zg c=Zg (e.ch p)):ZX h {e with ch:=Z5 e.ch p c}:=
 H.setCh hp hc ⟨s,hs,hsl,rfl⟩ (by rw[hpg];exact H.pages_at hp)
theorem ZX.pairs_more(H:ZX h e)(hp:p∈e.bs){c:Chn}(hc:(Zk c).Perm (x::Zk (e.ch p))){fr':List Nat}{nx':Nat}:({e with ch:=Z5 e.ch p c,fr:=fr',nx:=nx'}:Ex).pairs.Perm (x::e.pairs):=by
 refine(H.pairs_set hp c).trans ?_;refine(hc.append_right _).trans ?_;exact((ZX.pairs_at hp).symm.cons x)
theorem ZX.hash_home(H:ZX h e){s:Nat}{k:List Int}(hs:s<2^e.d)(hsl:e.sl s=p)(hk:e.home h k=p):h k%2^e.bd p=s%2^e.bd p:=by
 unfold Ex.home at hk;have hb:=H.sl.deep p ((H.sl.bsIs p).2 ⟨s,hs,hsl⟩)
 have:=(H.sl.same s (h k%2^e.d) hs (ZbR _ _)).1 (hsl.trans hk.symm)
 rw[hsl,Zam hb]at this;exact this.symm
theorem ZX.not_in(H:ZX h e)(hp:p∈e.bs)(hn:∀y∈e.pairs,y.1≠x.1):∀y∈Zk (e.ch p),y.1≠x.1:=fun y hy=>hn y (List.mem_flatMap.2 ⟨p,hp,hy⟩)
theorem ZX.place(H:ZX h e)(hx:Zh7 x)(hl:e.dir.length=Z1 e.d)(hk:e.home h x.1=p)(hn:∀y∈e.pairs,y.1≠x.1){c:Chn}(hc:ZdF (e.ch p) x=some c) :
 ZX h {e with ch:=Z5 e.ch p c}/\({e with ch:=Z5 e.ch p c}:Ex).dir.length=Z1 ({e with ch:=Z5 e.ch p c}:Ex).d/\({e with ch:=Z5 e.ch p c}:Ex).pairs.Perm (x::e.pairs):=by
 have hp:p∈e.bs:=by rw[<-hk];exact H.home_mem x.1
 obtain⟨s,hs,hsl,hch⟩:=H.at_ hp;have hno:=H.not_in hp hn;obtain⟨a,g,ps,t,e1,e2,hsz⟩:=Zjm hc;rw[e1]at hch hno;obtain⟨h1,h2⟩:=hch.ins hx (H.hash_home hs hsl hk) hsz hno;rw[<-e2]at h1 h2;rw[<-e1]at h2;exact⟨H.sameCh hp hs hsl h1 (by rw[e1,e2];exact ZcK _ _ _ _ _),hl,H.pairs_more hp h2⟩
theorem ZX.behind(H:ZX h e)(hx:Zh7 x)(hl:e.dir.length=Z1 e.d)(hk:e.home h x.1=p)(hn:∀y∈e.pairs,y.1≠x.1)(hb:e.bd p=10){q:Nat}{fr':List Nat}{nx':Nat}(ht:Zoc cap e.fr e.nx q fr' nx') :
 ZX h {e with ch:=Z5 e.ch p (e.ch p++[(q,[x])]),fr:=fr',nx:=nx'}/\({e with ch:=Z5 e.ch p (e.ch p++[(q,[x])]),fr:=fr',nx:=nx'}:Ex).pairs.Perm (x::e.pairs):=by
 have hp:p∈e.bs:=by rw[<-hk];exact H.home_mem x.1
 obtain⟨s,hs,hsl,hch⟩:=H.at_ hp;have hno:=H.not_in hp hn;have hh:=H.hash_home hs hsl hk;rw[hb]at hch hh;obtain⟨h1,h2⟩:=hch.follow hx hh hno q;rw[<-hb]at h1;refine⟨H.setCh hp h1 ⟨s,hs,hsl,rfl⟩ ?_,H.pairs_more hp h2⟩;refine(H.pages_at hp).take ht ?_;rw[ZC]
 have:(e.dir++(Zg (e.ch p)++Zg [(q,[x])]++(e.rest p).flatMap fun s=>Zg (e.ch s)))=(e.dir++Zg (e.ch p))++q::(e.rest p).flatMap fun s=>Zg (e.ch s):=by simp[Zg]
 rw[this];refine List.perm_middle.trans ?_;rw[List.append_assoc]
theorem ZX.addF(hx:Zh7 x):∀(n:Nat) {e e':Ex} {p:Nat},ZX h e->e.dir.length=Z1 e.d->e.home h x.1=p->(∀y∈e.pairs,y.1≠x.1)->e.addF h cap n p x=some e'->
 ZX h e'/\e'.dir.length=Z1 e'.d/\e'.pairs.Perm (x::e.pairs):=by
 intro n
 induction n with
 | zero=>
  intro e e' p H hl hk hn he;unfold Ex.addF at he
  split at he
  · rename_i c hc
    obtain rfl:=Option.some.inj he;exact H.place hx hl hk hn hc
  · split at he
    · rename_i hb
      rw[Option.map_eq_some_iff]at he;obtain⟨⟨q,fr',nx'⟩,ht,rfl⟩:=he;obtain⟨h1,h2⟩:=H.behind hx hl hk hn hb (takeF_is ht);exact⟨h1,hl,h2⟩
    · cases he
 | succ n ih=>
  intro e e' p H hl hk hn he;unfold Ex.addF at he
  split at he
  · rename_i c hc
    obtain rfl:=Option.some.inj he;exact H.place hx hl hk hn hc
  · split at he
    · rename_i hb
      rw[Option.map_eq_some_iff]at he;obtain⟨⟨q,fr',nx'⟩,ht,rfl⟩:=he;obtain⟨h1,h2⟩:=H.behind hx hl hk hn hb (takeF_is ht);exact⟨h1,hl,h2⟩
    · rename_i hb
      dsimp only at he
      split at he
      · cases he
      · rename_i p1 e1 hpt
        have hp:p∈e.bs:=by rw[<-hk];exact H.home_mem x.1
        have hdeep:=H.sl.deep p hp;have hd:=H.d;obtain⟨H1,hl1,hpr,hk1,_⟩:=H.partF hl hk (by omega) hpt;obtain⟨h1,h2,h3⟩:=ih H1 hl1 hk1 (fun y hy=>hn y (hpr.mem_iff.1 hy)) he;exact⟨h1,h2,h3.trans (hpr.cons x)⟩
theorem ZX.addF_some(hx:Zh7 x):∀(n:Nat) {e:Ex} {p:Nat},ZX h e->e.dir.length=Z1 e.d->e.home h x.1=p->10<=n+e.bd p->1044+e.pairs.length<=cap->∃e',e.addF h cap n p x=some e':=by
 intro n
 induction n with
 | zero=>
  intro e p H hl hk hb hc;have hp:p∈e.bs:=by rw[<-hk];exact H.home_mem x.1
  have hdeep:=H.sl.deep p hp;have hd:=H.d;unfold Ex.addF;split
  · exact⟨_,rfl⟩
  · rw[if_pos (by omega)]
    obtain⟨q,fr',nx',ht⟩:=ZdR (cap:=cap) (nx:=e.nx) (fr:=e.fr) (fun ef=>by
     have h1:=H.room ef;have h2:=Zcs H.d
     omega)
    exact⟨_,by rw[ht];rfl⟩
 | succ n ih=>
  intro e p H hl hk hb hc;have hp:p∈e.bs:=by rw[<-hk];exact H.home_mem x.1
  have hdeep:=H.sl.deep p hp;have hd:=H.d;unfold Ex.addF;split
  · exact⟨_,rfl⟩
  · by_cases hb10:e.bd p=10
    · rw[if_pos hb10]
      obtain⟨q,fr',nx',ht⟩:=ZdR (cap:=cap) (nx:=e.nx) (fr:=e.fr) (fun ef=>by
       have h1:=H.room ef;have h2:=Zcs H.d
       omega)
      exact⟨_,by rw[ht];rfl⟩
    · rw[if_neg hb10];obtain⟨⟨p1,e1⟩,hpt⟩:=H.partF_some (cap:=cap) hl hk (by omega) hc;obtain⟨H1,hl1,hpr,hk1,hb1⟩:=H.partF hl hk (by omega) hpt;dsimp only;rw[hpt];exact ih H1 hl1 hk1 (by omega) (by rw[hpr.length_eq];exact hc)
theorem ZX.dropF(H:ZX h e)(hp:p∈e.bs){a t:Chn}{g:Nat}{ps1 ps2:List KV}{y:KV}(hc:e.ch p=a++(g,ps1++y::ps2)::t)(hne:a = []∨ps1++ps2≠[]) :
 ZX h {e with ch:=Z5 e.ch p (a++(g,ps1++ps2)::t)}/\e.pairs.Perm (y::({e with ch:=Z5 e.ch p (a++(g,ps1++ps2)::t)}:Ex).pairs):=by
 obtain⟨s,hs,hsl,hch⟩:=H.at_ hp;rw[hc]at hch;refine⟨H.sameCh hp hs hsl (hch.drop hne) (by rw[hc];exact ZcK _ _ _ _ _),?_⟩;refine(ZX.pairs_at hp).trans ?_;rw[hc];refine((ZcJ a g ps1 y ps2 t).append_right _).trans ?_;exact((H.pairs_set hp (a++(g,ps1++ps2)::t) (fr':=e.fr) (nx':=e.nx)).symm.cons y)
theorem ZX.freeF(H:ZX h e)(hp:p∈e.bs){a t:Chn}{g:Nat}{y:KV}(hc:e.ch p=a++(g,[y])::t)(ha:a≠[]) :
 ZX h {e with ch:=Z5 e.ch p (a++t),fr:=g::e.fr}/\e.pairs.Perm (y::({e with ch:=Z5 e.ch p (a++t),fr:=g::e.fr}:Ex).pairs):=by
 obtain⟨s,hs,hsl,hch⟩:=H.at_ hp;have hpg:=H.pages_at hp;rw[hc]at hch hpg;refine⟨H.setCh (nx':=e.nx) hp (hch.unlink ha) ⟨s,hs,hsl,rfl⟩ (hpg.perm ?_),?_⟩
 · have e1:(e.dir++(Zg (a++(g,[y])::t)++(e.rest p).flatMap fun s=>Zg (e.ch s))++e.fr)=(e.dir++Zg a)++g::(Zg t++((e.rest p).flatMap fun s=>Zg (e.ch s))++e.fr):=by simp[Zg]
   have e2:(e.dir++(Zg (a++t)++(e.rest p).flatMap fun s=>Zg (e.ch s))++g::e.fr)=(e.dir++Zg a++(Zg t++(e.rest p).flatMap fun s=>Zg (e.ch s)))++g::e.fr:=by simp[Zg]
   rw[e1,e2];refine List.perm_middle.trans ?_;refine List.Perm.trans ?_ List.perm_middle.symm;simp
 · refine(ZX.pairs_at hp).trans ?_;rw[hc];have h1:=ZcJ a g [] y [] t;have e3:Zk (a++(g,([]:List KV))::t)=Zk (a++t):=by simp[Zk]
   simp only[List.nil_append]at h1;rw[e3]at h1;exact(h1.append_right _).trans ((H.pairs_set hp (a++t) (fr':=g::e.fr) (nx':=e.nx)).symm.cons y)
theorem ZX.swapF(H:ZX h e)(hp:p∈e.bs){a t:Chn}{g:Nat}{ps1 ps2:List KV}{y:KV}(hc:e.ch p=a++(g,ps1++y::ps2)::t)(hxy:x.1=y.1)(hx:Zh7 x)(hs:szX (ps1++ps2++[x])<=232) :
 ZX h {e with ch:=Z5 e.ch p (a++(g,ps1++ps2++[x])::t)}/\∃R,e.pairs.Perm (y::R)/\({e with ch:=Z5 e.ch p (a++(g,ps1++ps2++[x])::t)}:Ex).pairs.Perm (x::R):=by
 obtain⟨s,hs',hsl,hch⟩:=H.at_ hp;rw[hc]at hch;obtain⟨h1,h2⟩:=hch.swap hxy hx hs;refine⟨H.sameCh hp hs' hsl h1 (by rw[hc];exact ZcK _ _ _ _ _),Zk (a++(g,ps1++ps2)::t)++(e.rest p).flatMap (fun s=>Zk (e.ch s)),?_,?_⟩
 · refine(ZX.pairs_at hp).trans ?_;rw[hc];exact(ZcJ a g ps1 y ps2 t).append_right _
 · refine(H.pairs_set hp _ (fr':=e.fr) (nx':=e.nx)).trans ?_;exact h2.append_right _
theorem ZX.keys(H:ZX h e):(e.pairs.map (·.1)).Nodup:=by
 unfold Ex.pairs
 have:∀l:List Nat,l.Nodup->(∀p∈l,p∈e.bs)->((l.flatMap fun p=>Zk (e.ch p)).map (·.1)).Nodup:=by
  intro l
  induction l with
  | nil=>intro _ _;exact List.nodup_nil
  | cons p l ih=>
   intro hn hl;rw[List.nodup_cons]at hn;have hp:=hl p List.mem_cons_self;obtain⟨s,_,_,hc⟩:=H.at_ hp;rw[List.flatMap_cons,List.map_append,List.nodup_append];refine⟨hc.keys,ih hn.2 fun y hy=>hl y (List.mem_cons_of_mem _ hy),?_⟩;intro k hk k' hk' e1;subst e1;obtain⟨u,hu,rfl⟩:=List.mem_map.1 hk;obtain⟨v,hv,e2⟩:=List.mem_map.1 hk';obtain⟨q,hq,hv⟩:=List.mem_flatMap.1 hv;have h1:=H.home_of hp hu;have h2:=H.home_of (hl q (List.mem_cons_of_mem _ hq)) hv;rw[e2,h1]at h2;exact hn.1 (by rw[h2];exact hq)
 exact this e.bs H.sl.once fun _ h=>h
end
end Go.Proofs.YtlmkdmdbpopnhaaGreatDoor
