/- ExuI, ExuW, ExuZ, EyA, BkP, ExwJ. Conditions: in each theorem. -/
import Derived.Test.YtlmkdmdbpopnhaaGreatDoorG37
import Derived.Test.YtlmkdmdbpopnhaaGreatDoorG38
import Derived.Test.YtlmkdmdbpopnhaaGreatDoorG36
import Derived.Test.YtlmkdmdbpopnhaaGreatDoorG17
set_option maxHeartbeats 3200000
set_option maxRecDepth 100000
set_option linter.unusedVariables false
open Go.Proofs.Tryz
open Go.Lib (hid)
namespace Go.Proofs.YtlmkdmdbpopnhaaGreatDoor
open Go.RowKit
section
variable{D:World->(Nat->Prop)->Addr->DS->Prop}{w w':World}{F O:Nat->Prop}{p:Addr}{S:DS}{q r b st:Nat}{seq:Int}{L:List (Int×List Int)}
theorem Zop(api:Zb D)(h:Top D w F O p S q seq r b st L){M:MV}(hM:ZbM S L M){ka:Option Addr}{kn kc B:Nat}{key:List Int}(hk:RB w B ka kn key)(hB:B<=w.heap.size)(hkc:kn<=kc/\kn<=maxLen)
 {pg:Int} {ls:List Zw} (hc:Za0 S L M key pg ls) (hcnt : -9223372036854775808<M.c/\M.c<=9223372036854775807)
 {m i:Nat} {l:Zw} (hfd:Zcv ls key m i l) (hcase:m=0∨(l.ps.eraseIdx i).length≠0) (hln:l.ps.length<=4294967295)
 (hlpg : -9223372036854775808<=l.pg/\l.pg<=9223372036854775807) (hd : -9223372036854775808<=l.d/\l.d<=9223372036854775807) (hx : -9223372036854775808<=l.x/\l.x<=9223372036854775807) (hmay:ZD ⟨l.d,l.x,l.ps.eraseIdx i⟩=true)
 (hN:Zfe {M with c:=M.c-1}) (hmayM:Zft {M with c:=M.c-1}=true) (hok:okS S {M with c:=M.c-1} L (ZcA M {M with c:=M.c-1} [.lay l.pg (pageBk ⟨l.d,l.x,l.ps.eraseIdx i⟩)])) :
 Calls prog 42 #[.pointer (some ⟨st,0,none⟩),.slice ka kn kc] w fun e w'=>e=.returned (.tuple #[.bool true,.int .i64 0])/\Zad D w F O p S q seq r b st (runS S {M with c:=M.c-1} L (ZcA M {M with c:=M.c-1} [.lay l.pg (pageBk ⟨l.d,l.x,l.ps.eraseIdx i⟩)])) w':=by
 have HHD:=hid (Zb0 api h.at_ hM)
 have HRM:=hid (show ∀(w2 w3:World) (ch mb:Nat) (v v' sv:Value),Below w.heap.size w w2->ZF w2 w3 ch st mb M M v v' sv 0 (fun _=>none) [] []->Calls prog 103 #[.pointer (some ⟨ch,0,none⟩),.slice ka kn kc] w3 fun e w'=>e=.returned (.tuple #[.bool true,.int .i64 0])/\∃sv2 f,ZF w2 w' ch st mb M {M with c:=M.c-1} v v' sv2 0 (fun _=>none) [f] [.lay l.pg (pageBk ⟨l.d,l.x,l.ps.eraseIdx i⟩)]from
  fun w2 w3 ch mb v v' sv hb hg=>Zjv api (h.at_.below api hb) hg (BIn.of_below (hk.more hB) (hb.trans (hg.bel.mono hb.size)) (fun k hk=>ZZf hb.size (hg.lt k hk).1)) hkc hc hcnt hfd hcase hln hlpg hd hx hmay (by decide))
 have HFIN:=hid (show ∀(w2 w3:World) (ch mb:Nat) (v v' sv:Value) (f:Value),Below w.heap.size w w2->ZF w2 w3 ch st mb M {M with c:=M.c-1} v v' sv 0 (fun _=>none) [f] [.lay l.pg (pageBk ⟨l.d,l.x,l.ps.eraseIdx i⟩)]->Calls prog 98 #[.pointer (some ⟨ch,0,none⟩)] w3 fun e w'=>e=.returned (.int .i64 0)/\Zad D w F O p S q seq r b st (runS S {M with c:=M.c-1} L (ZcA M {M with c:=M.c-1} [.lay l.pg (pageBk ⟨l.d,l.x,l.ps.eraseIdx i⟩)])) w' from
  fun w2 w3 ch mb v v' sv f hb hg=>(ZeE api (h.at_.below api hb) hg h.len (fun k hk=>ZZd (h.at_.pg.lt k hk) hb.size) h.out hN hmayM (by simp) hok).mono fun e w' z=>⟨z.1,h.did (z.2.base hb)⟩)
 clear h hM hk hc hfd hcase hln hlpg hd hx hmay hN hmayM hok hcnt;go_enter func42,ntmps42;go_wp2_with fail;refine HHD.out.mono ?_;rintro e w1⟨A,k,c,rfl,hkc1,hk1000,hri,_,hb1⟩;obtain⟨w2,hw2⟩:∃w2,w2=w1.alloc (.cells #[.int .i64 M.d,.int .i64 M.f,.int .i64 M.n,.int .i64 M.c,.slice A k c] 41):=⟨_,rfl⟩
 have hba:Below w1.heap.size w1 w2:=by rw[hw2];exact(Below.refl _ _).alloc (ZZe _) _
 have hb2:Below w.heap.size w w2:=hb1.trans (hba.mono hb1.size);have HCO:=hid (Za5 (w:=w2) (st:=st) (c:=c) M ((hri.below hba).more hba.size) hkc1 hk1000);have HB2:=hid hb2;clear hri hb1 hba hb2 HHD;go_wp2_with fail;rw[<-hw2];clear hw2;refine HCO.out.mono ?_;rintro e w3⟨v',rfl,hg3⟩;have HP:=hid (HRM.out w2 w3 _ _ _ _ _ HB2.out hg3);generalize w2.heap.size+2=ch at HP ⊢;clear hg3 HCO;go_wp2_with fail;refine HP.out.mono ?_;rintro e w4⟨rfl,sv2,f,hg4⟩;have HF:=hid (HFIN.out w2 w4 _ _ _ _ _ f HB2.out hg4);clear hg4 HP;go_wp2_with fail;refine HF.out.mono ?_;rintro e w5⟨rfl,ht⟩;have HE:=hid ht;clear ht HF;go_wp2_with fail;go_ret2;exact⟨rfl,HE.out⟩
theorem ZmN(api:Zb D)(h:Top D w F O p S q seq r b st L){M:MV}(hM:ZbM S L M) :
 Calls prog 15 #[.pointer (some ⟨st,0,none⟩)] w fun e w'=>∃A k c,e=.returned (.agg #[.int .i64 M.d,.int .i64 M.f,.int .i64 M.n,.int .i64 M.c,.slice A k c])/\k<=c/\RI w' w'.heap.size A k M.l/\Below w.heap.size w w':=by
 have hX:Below w.heap.size w (w.alloc (.cells #[.int .i64 0,.int .i64 0,.int .i64 0,.int .i64 0,.slice none 0 0] 41)):=(Below.refl _ _).alloc (ZZe _) _;have HM:=hid (Zb0 api (h.at_.below api hX) hM);have HX:=hid hX;have HZ:=hid (show(w.alloc (.cells #[.int .i64 0,.int .i64 0,.int .i64 0,.int .i64 0,.slice none 0 0] 41)).heap[w.heap.size]?=some (.cells #[.int .i64 0,.int .i64 0,.int .i64 0,.int .i64 0,.slice none 0 0] 41 (0,0))from heap_alloc_new _ _);clear h hM hX;go_enter func15,ntmps15;go_wp2_with fail;refine HM.out.mono ?_;rintro e w1⟨A,k,c,rfl,hkc,_,hri,hnew,hb1⟩;have hz1:=(hb1.block w.heap.size (by simp)).trans HZ.out;have HB:=hid (HX.out.trans (hb1.mono HX.out.size));obtain⟨d0,d1,d2,d3,d4,hf,hlt⟩:=Zcd hz1;have f0:=hf 0;have f1:=hf 1;have f2:=hf 2;have f3:=hf 3;have f4:=hf 4;have hz3:=Zi6 hz1 (.int .i64 M.d) (.int .i64 M.f) (.int .i64 M.n) (.int .i64 M.c) (.slice A k c);have hb3:=(((((HB.out.setCell (p:=⟨w.heap.size,0,none⟩) (ZZe _) (.int .i64 M.d)).setCell (p:=⟨w.heap.size,1,none⟩) (ZZe _) (.int .i64 M.f)).setCell (p:=⟨w.heap.size,2,none⟩) (ZZe _) (.int .i64 M.n)).setCell (p:=⟨w.heap.size,3,none⟩) (ZZe _) (.int .i64 M.c)).setCell (p:=⟨w.heap.size,4,none⟩) (ZZe _) (.slice A k c))
 have hz4:=(Below.heap_alloc _ (.cells #[.int .i64 M.d,.int .i64 M.f,.int .i64 M.n,.int .i64 M.c,.slice A k c] 41) _ (ZZa.1 hz3).1).trans hz3
 have hri3:RI (((((w1.setCell ⟨w.heap.size,0,none⟩ (.int .i64 M.d)).setCell ⟨w.heap.size,1,none⟩ (.int .i64 M.f)).setCell ⟨w.heap.size,2,none⟩ (.int .i64 M.n)).setCell ⟨w.heap.size,3,none⟩ (.int .i64 M.c)).setCell ⟨w.heap.size,4,none⟩ (.slice A k c)) (((((w1.setCell ⟨w.heap.size,0,none⟩ (.int .i64 M.d)).setCell ⟨w.heap.size,1,none⟩ (.int .i64 M.f)).setCell ⟨w.heap.size,2,none⟩ (.int .i64 M.n)).setCell ⟨w.heap.size,3,none⟩ (.int .i64 M.c)).setCell ⟨w.heap.size,4,none⟩ (.slice A k c)).heap.size A k M.l:=by
  have hsz:(((((w1.setCell ⟨w.heap.size,0,none⟩ (.int .i64 M.d)).setCell ⟨w.heap.size,1,none⟩ (.int .i64 M.f)).setCell ⟨w.heap.size,2,none⟩ (.int .i64 M.n)).setCell ⟨w.heap.size,3,none⟩ (.int .i64 M.c)).setCell ⟨w.heap.size,4,none⟩ (.slice A k c)).heap.size=w1.heap.size:=by simp[World.setCell]
  rw[hsz];refine⟨hri.1,hri.2.1,fun hn=>?_⟩;obtain⟨bb,off,e,hbb,hc⟩:=hri.2.2 hn;have hge:=hnew _ e
  have hne:bb≠w.heap.size:=fun e'=>by
   have:(w.alloc (.cells #[.int .i64 0,.int .i64 0,.int .i64 0,.int .i64 0,.slice none 0 0] 41)).heap.size<=bb:=hge
   simp at this;omega
  refine⟨bb,off,e,hbb,fun j hj=>(World.cell?_of_block (a:=⟨bb,off+j,none⟩) ?_).trans (hc j hj)⟩;rw[Below.heap_setCell _ _ _ _ hne,Below.heap_setCell _ _ _ _ hne,Below.heap_setCell _ _ _ _ hne,Below.heap_setCell _ _ _ _ hne,Below.heap_setCell _ _ _ _ hne]
 have hal:Below (((((w1.setCell ⟨w.heap.size,0,none⟩ (.int .i64 M.d)).setCell ⟨w.heap.size,1,none⟩ (.int .i64 M.f)).setCell ⟨w.heap.size,2,none⟩ (.int .i64 M.n)).setCell ⟨w.heap.size,3,none⟩ (.int .i64 M.c)).setCell ⟨w.heap.size,4,none⟩ (.slice A k c)).heap.size (((((w1.setCell ⟨w.heap.size,0,none⟩ (.int .i64 M.d)).setCell ⟨w.heap.size,1,none⟩ (.int .i64 M.f)).setCell ⟨w.heap.size,2,none⟩ (.int .i64 M.n)).setCell ⟨w.heap.size,3,none⟩ (.int .i64 M.c)).setCell ⟨w.heap.size,4,none⟩ (.slice A k c)) ((((((w1.setCell ⟨w.heap.size,0,none⟩ (.int .i64 M.d)).setCell ⟨w.heap.size,1,none⟩ (.int .i64 M.f)).setCell ⟨w.heap.size,2,none⟩ (.int .i64 M.n)).setCell ⟨w.heap.size,3,none⟩ (.int .i64 M.c)).setCell ⟨w.heap.size,4,none⟩ (.slice A k c)).alloc (.cells #[.int .i64 M.d,.int .i64 M.f,.int .i64 M.n,.int .i64 M.c,.slice A k c] 41)):=(Below.refl _ _).alloc (ZZe _) _;have HZ4:=hid hz4;have HB4:=hid (ZZg hkc (ZZg ((hri3.below hal).more hal.size) (hb3.trans (hal.mono hb3.size))));clear hb1 hf hz3 hb3 hz4 hri hri3 hal hnew hkc;go_wp2;obtain⟨e0,e1,e2,e3,e4,_,_⟩:=Zcd HZ4.out;have hB:=HB4.out;clear d0 d1 d2 d3 d4 f0 f1 f2 f3 f4 hz1 HZ4 HB4 HB hlt;generalize (((((w1.setCell ⟨w.heap.size,0,none⟩ (.int .i64 M.d)).setCell ⟨w.heap.size,1,none⟩ (.int .i64 M.f)).setCell ⟨w.heap.size,2,none⟩ (.int .i64 M.n)).setCell ⟨w.heap.size,3,none⟩ (.int .i64 M.c)).setCell ⟨w.heap.size,4,none⟩ (.slice A k c)).alloc (.cells #[.int .i64 M.d,.int .i64 M.f,.int .i64 M.n,.int .i64 M.c,.slice A k c] 41)=X at *;exact bodyPost_ret (v:=.agg #[.int .i64 M.d,.int .i64 M.f,.int .i64 M.n,.int .i64 M.c,.slice A k c]) (by simp[results,Tryz.results15,go_sem,e0,e1,e2,e3,e4]) rfl ⟨A,k,c,rfl,hB⟩
theorem Zjw(api:Zb D)(h:Top D w F O p S q seq r b st L){M:MV}(hM:ZbM S L M) :
 Calls prog 43 #[.pointer (some ⟨st,0,none⟩)] w fun e w'=>e=.returned (.int .i64 M.c)/\Below w.heap.size w w':=by
 have HM:=hid (ZmN api h hM);clear h hM;go_enter func43,ntmps43;go_wp2_with fail;refine HM.out.mono ?_;rintro e w1⟨A,k,c,rfl,_,_,hb1⟩;have hf:=Zih M.d M.f M.n M.c A k c w1;have HE:=hid hb1;clear hb1;go_wp2_with fail;go_ret;exact⟨rfl,HE.out⟩
end
section
variable{D:World->(Nat->Prop)->Addr->DS->Prop}{w w':World}{F O:Nat->Prop}{p:Addr}{S:DS}{q r b st:Nat}{seq:Int}{L:List (Int×List Int)}
theorem Zgv(api:Zb D)(h:Top D w F O p S q seq r b st L){M:MV}(hM:ZbM S L M){ka va:Option Addr}{kn kc vn vc B B':Nat}{x:KV}(hk:RB w B ka kn x.1)(hB:B<=w.heap.size)(hv:RB w B' va vn x.2)(hB':B'<=w.heap.size)(hkc:kn<=kc/\kn<=maxLen)(hvc:vn<=vc/\vn<=maxLen)(hk1:1<=kn/\kn<=32)(hv1:vn<=120)
 {M3:MV} {ssF:List Stp} (hput:∀(w2 w3:World) (ch mb:Nat) (v v' sv:Value),Below w.heap.size w w2->ZF w2 w3 ch st mb M M v v' sv 0 (fun _=>none) [] []->Calls prog 100 #[.pointer (some ⟨ch,0,none⟩),.agg #[.slice ka kn kc,.slice va vn vc]] w3 fun e w'=>e=.returned (.int .i64 0)/\∃v2 sv2 fs2 ns2 SL2,ZF w2 w' ch st mb M M3 v v2 sv2 ns2 SL2 fs2 ssF/\fs2.length<=3000000)
 (hN:Zfe M3) (hmayM:Zft M3=true) (hok:okS S M3 L (ZcA M M3 ssF)) :
 Calls prog 40 #[.pointer (some ⟨st,0,none⟩),.slice ka kn kc,.slice va vn vc] w fun e w'=>e=.returned (.int .i64 0)/\Zad D w F O p S q seq r b st (runS S M3 L (ZcA M M3 ssF)) w':=by
 have HMD:=hid (Zc2 h.at_.sto);have HHD:=hid (Zb0 api h.at_ hM);have HT:=hid h;have HK:=hid (hk.more hB);have HV:=hid (hv.more hB');have HPUT:=hid hput
 have HFIN:=hid (show ∀(w2 w3:World) (ch mb:Nat) (v v' sv:Value) (ns2:Nat) (SL2:Int->Option Int) (fs2:List Value),Below w.heap.size w w2->ZF w2 w3 ch st mb M M3 v v' sv ns2 SL2 fs2 ssF->fs2.length<=3000000->Calls prog 98 #[.pointer (some ⟨ch,0,none⟩)] w3 fun e w'=>e=.returned (.int .i64 0)/\Zad D w F O p S q seq r b st (runS S M3 L (ZcA M M3 ssF)) w' from
  fun w2 w3 ch mb v v' sv ns2 SL2 fs2 hb hg hfl=>(ZeE api (h.at_.below api hb) hg h.len (fun k hk=>ZZd (h.at_.pg.lt k hk) hb.size) h.out hN hmayM (by omega) hok).mono fun e w' z=>⟨z.1,h.did (z.2.base hb)⟩)
 clear h hM hk hv hput hN hmayM hok;have k1:decide ((kn:Int)<1)=false:=by simp;omega
 have k2:decide ((kn:Int)>32)=false:=by simp;omega
 have k3:decide ((vn:Int)>120)=false:=by simp;omega
 go_enter func40,ntmps40;go_wp2_with fail;refine HMD.out.mono ?_;rintro e w1⟨rfl,rfl⟩;go_wp2_with fail;refine HHD.out.mono ?_;rintro e w1⟨A,k,c,rfl,hkc1,hk1000,hri,_,hb1⟩;obtain⟨w2,hw2⟩:∃w2,w2=w1.alloc (.cells #[.int .i64 M.d,.int .i64 M.f,.int .i64 M.n,.int .i64 M.c,.slice A k c] 41):=⟨_,rfl⟩
 have hba:Below w1.heap.size w1 w2:=by rw[hw2];exact(Below.refl _ _).alloc (ZZe _) _
 have hb2:Below w.heap.size w w2:=hb1.trans (hba.mono hb1.size);have HCO:=hid (Za5 (w:=w2) (st:=st) (c:=c) M ((hri.below hba).more hba.size) hkc1 hk1000);have HB2:=hid hb2;clear hri hb1 hba hb2 HHD;go_wp2_with fail;rw[<-hw2];clear hw2;refine HCO.out.mono ?_;rintro e w3⟨v',rfl,hg3⟩;have HP:=hid (HPUT.out w2 w3 _ _ _ _ _ HB2.out hg3);generalize w2.heap.size+2=ch at HP ⊢;clear hg3 HCO;go_wp2_with fail;refine HP.out.mono ?_;rintro e w4⟨rfl,v2,sv2,fs2,ns2,SL2,hg4,hfl4⟩;have HF:=hid (HFIN.out w2 w4 _ _ _ _ _ _ _ _ HB2.out hg4 hfl4);clear hg4 hfl4 HP;go_wp2_with fail;refine HF.out.mono ?_;rintro e w5⟨rfl,ht⟩;have HE:=hid ht;clear ht HF;go_wp2_with fail;go_ret;exact⟨rfl,HE.out⟩
theorem ZkQ(api:Zb D)(h:Top D w F O p S q seq r b st L){M:MV}(hM:ZbM S L M){ka va:Option Addr}{kn kc vn vc B B':Nat}{x:KV}(hk:RB w B ka kn x.1)(hB:B<=w.heap.size)(hv:RB w B' va vn x.2)(hB':B'<=w.heap.size)(hkc:kn<=kc/\kn<=maxLen)(hvc:vn<=vc/\vn<=maxLen)(hk1:1<=kn/\kn<=32)(hv1:vn<=120)
 {pg:Int} {ls:List Zw} (hc:Za0 S L M x.1 pg ls) (hno:∀(m:Nat) (l:Zw),ls[m]?=some l->findI l.ps x.1<0) (hcnt : -9223372036854775808<=M.c/\M.c<9223372036854775807)
 {N:Nat} {M3:MV} {SL3:Int->Option Int} {k3:Nat} {ss3:List Stp} (hdo:AddDo S L M x (hashL x.1) N {M with c:=M.c+1} (fun _=>none) ls M3 SL3 k3 ss3) (hN11:N<=11)
 (hN:Zfe M3) (hmayM:Zft M3=true) (hok:okS S M3 L (ZcA M M3 ss3)) :
 Calls prog 40 #[.pointer (some ⟨st,0,none⟩),.slice ka kn kc,.slice va vn vc] w fun e w'=>e=.returned (.int .i64 0)/\Zad D w F O p S q seq r b st (runS S M3 L (ZcA M M3 ss3)) w':=
 Zgv api h hM hk hB hv hB' hkc hvc hk1 hv1 (fun w2 w3 ch mb v v' sv hb hg=>(Zpy api (h.at_.below api hb) hg (BIn.of_below (hk.more hB) (hb.trans (hg.bel.mono hb.size)) (fun k hk=>ZZf hb.size (hg.lt k hk).1)) (BIn.of_below (hv.more hB') (hb.trans (hg.bel.mono hb.size)) (fun k hk=>ZZf hb.size (hg.lt k hk).1)) hkc hvc hc hno hcnt hdo hN11 (by simp) (by omega)).mono fun e w' z=>⟨z.1,by
  obtain⟨_,v2,sv2,fs2,z1,z2⟩:=z
  exact⟨v2,sv2,fs2,_,_,by simpa using z1,by simpa using (ZZf z2 (by simp))⟩⟩) hN hmayM hok
end
section
variable{D:World->(Nat->Prop)->Addr->DS->Prop}{w0 w w':World}{F O:Nat->Prop}{p:Addr}{S:DS}{q r b st ch mb:Nat}{seq:Int}{L:List (Int×List Int)}
theorem Zgw(api:Zb D)(h:Top D w F O p S q seq r b st L){M:MV}(hM:ZbM S L M){ka:Option Addr}{kn kc B:Nat}{key:List Int}(hk:RB w B ka kn key)(hB:B<=w.heap.size)(hkc:kn<=kc/\kn<=maxLen)
 {M3:MV} {ssF:List Stp} (hrm:∀(w2 w3:World) (ch mb:Nat) (v v' sv:Value),Below w.heap.size w w2->ZF w2 w3 ch st mb M M v v' sv 0 (fun _=>none) [] []->Calls prog 103 #[.pointer (some ⟨ch,0,none⟩),.slice ka kn kc] w3 fun e w'=>e=.returned (.tuple #[.bool true,.int .i64 0])/\∃v2 sv2 fs2 ns2 SL2,ZF w2 w' ch st mb M M3 v v2 sv2 ns2 SL2 fs2 ssF/\fs2.length<=3000000)
 (hN:Zfe M3) (hmayM:Zft M3=true) (hok:okS S M3 L (ZcA M M3 ssF)) :
 Calls prog 42 #[.pointer (some ⟨st,0,none⟩),.slice ka kn kc] w fun e w'=>e=.returned (.tuple #[.bool true,.int .i64 0])/\Zad D w F O p S q seq r b st (runS S M3 L (ZcA M M3 ssF)) w':=by
 have HHD:=hid (Zb0 api h.at_ hM);have HRM:=hid hrm
 have HFIN:=hid (show ∀(w2 w3:World) (ch mb:Nat) (v v' sv:Value) (ns2:Nat) (SL2:Int->Option Int) (fs2:List Value),Below w.heap.size w w2->ZF w2 w3 ch st mb M M3 v v' sv ns2 SL2 fs2 ssF->fs2.length<=3000000->Calls prog 98 #[.pointer (some ⟨ch,0,none⟩)] w3 fun e w'=>e=.returned (.int .i64 0)/\Zad D w F O p S q seq r b st (runS S M3 L (ZcA M M3 ssF)) w' from
  fun w2 w3 ch mb v v' sv ns2 SL2 fs2 hb hg hfl=>(ZeE api (h.at_.below api hb) hg h.len (fun k hk=>ZZd (h.at_.pg.lt k hk) hb.size) h.out hN hmayM (by omega) hok).mono fun e w' z=>⟨z.1,h.did (z.2.base hb)⟩)
 clear h hM hk hrm hN hmayM hok;go_enter func42,ntmps42;go_wp2_with fail;refine HHD.out.mono ?_;rintro e w1⟨A,k,c,rfl,hkc1,hk1000,hri,_,hb1⟩;obtain⟨w2,hw2⟩:∃w2,w2=w1.alloc (.cells #[.int .i64 M.d,.int .i64 M.f,.int .i64 M.n,.int .i64 M.c,.slice A k c] 41):=⟨_,rfl⟩
 have hba:Below w1.heap.size w1 w2:=by rw[hw2];exact(Below.refl _ _).alloc (ZZe _) _
 have hb2:Below w.heap.size w w2:=hb1.trans (hba.mono hb1.size);have HCO:=hid (Za5 (w:=w2) (st:=st) (c:=c) M ((hri.below hba).more hba.size) hkc1 hk1000);have HB2:=hid hb2;clear hri hb1 hba hb2 HHD;go_wp2_with fail;rw[<-hw2];clear hw2;refine HCO.out.mono ?_;rintro e w3⟨v',rfl,hg3⟩;have HP:=hid (HRM.out w2 w3 _ _ _ _ _ HB2.out hg3);generalize w2.heap.size+2=ch at HP ⊢;clear hg3 HCO;go_wp2_with fail;refine HP.out.mono ?_;rintro e w4⟨rfl,v2,sv2,fs2,ns2,SL2,hg4,hfl4⟩;have HF:=hid (HFIN.out w2 w4 _ _ _ _ _ _ _ _ HB2.out hg4 hfl4);clear hg4 hfl4 HP;go_wp2_with fail;refine HF.out.mono ?_;rintro e w5⟨rfl,ht⟩;have HE:=hid ht;clear ht HF;go_wp2_with fail;go_ret2;exact⟨rfl,HE.out⟩
theorem ZmO(api:Zb D)(h:Top D w F O p S q seq r b st L){M:MV}(hM:ZbM S L M){ka:Option Addr}{kn kc B:Nat}{key:List Int}(hk:RB w B ka kn key)(hB:B<=w.heap.size)(hkc:kn<=kc/\kn<=maxLen)
 {pg:Int} {ls:List Zw} (hc:Za0 S L M key pg ls) (hcnt : -9223372036854775808<M.c/\M.c<=9223372036854775807)
 {m i:Nat} {l:Zw} (hfd:Zcv ls key m i l) (hcase:m=0∨(l.ps.eraseIdx i).length≠0) (hln:l.ps.length<=4294967295) (hli:Zdn l) (hmay:ZD ⟨l.d,l.x,l.ps.eraseIdx i⟩=true)
 (hN:Zfe {M with c:=M.c-1}) (hmayM:Zft {M with c:=M.c-1}=true) (hok:okS S {M with c:=M.c-1} L (ZcA M {M with c:=M.c-1} [.lay l.pg (pageBk ⟨l.d,l.x,l.ps.eraseIdx i⟩)])) :
 Calls prog 42 #[.pointer (some ⟨st,0,none⟩),.slice ka kn kc] w fun e w'=>e=.returned (.tuple #[.bool true,.int .i64 0])/\Zad D w F O p S q seq r b st (runS S {M with c:=M.c-1} L (ZcA M {M with c:=M.c-1} [.lay l.pg (pageBk ⟨l.d,l.x,l.ps.eraseIdx i⟩)])) w':=
 Zgw api h hM hk hB hkc (fun w2 w3 ch mb v v' sv hb hg=>(Zjv api (h.at_.below api hb) hg (BIn.of_below (hk.more hB) (hb.trans (hg.bel.mono hb.size)) (fun k hk=>ZZf hb.size (hg.lt k hk).1)) hkc hc hcnt hfd hcase hln hli.1 hli.2.1 hli.2.2 hmay (by simp)).mono fun e w' z=>⟨z.1,by
  obtain⟨_,sv2,f,z1⟩:=z
  exact⟨v',sv2,[f],0,_,by simpa using z1,by simp⟩⟩) hN hmayM hok
theorem Zjx(api:Zb D)(h:Top D w F O p S q seq r b st L){M:MV}(hM:ZbM S L M){ka:Option Addr}{kn kc B:Nat}{key:List Int}(hk:RB w B ka kn key)(hB:B<=w.heap.size)(hkc:kn<=kc/\kn<=maxLen)
 {pg:Int} {ls:List Zw} (hc:Za0 S L M key pg ls) (hcnt : -9223372036854775808<M.c/\M.c<=9223372036854775807)
 {m i:Nat} {l:Zw} (hfd:Zcv ls key m i l) (hemp:l.ps.eraseIdx i = []) {m1:Nat} (hm1:m=m1+1) {lb:Zw} (hlb:ls[m1]?=some lb) (hib:Zdn lb) (hf:Zb1 M.f) (hln:l.ps.length<=4294967295) (hli:Zdn l) (hmay:ZD ⟨lb.d,l.x,lb.ps⟩=true)
 (hN:Zfe {M with c:=M.c-1,f:=l.pg}) (hmayM:Zft {M with c:=M.c-1,f:=l.pg}=true) (hok:okS S {M with c:=M.c-1,f:=l.pg} L (ZcA M {M with c:=M.c-1,f:=l.pg} [.fr l.pg M.f,.lay lb.pg (pageBk ⟨lb.d,l.x,lb.ps⟩)])) :
 Calls prog 42 #[.pointer (some ⟨st,0,none⟩),.slice ka kn kc] w fun e w'=>e=.returned (.tuple #[.bool true,.int .i64 0])/\Zad D w F O p S q seq r b st (runS S {M with c:=M.c-1,f:=l.pg} L (ZcA M {M with c:=M.c-1,f:=l.pg} [.fr l.pg M.f,.lay lb.pg (pageBk ⟨lb.d,l.x,lb.ps⟩)])) w':=
 Zgw api h hM hk hB hkc (fun w2 w3 ch mb v v' sv hb hg=>(ZkP api (h.at_.below api hb) hg (BIn.of_below (hk.more hB) (hb.trans (hg.bel.mono hb.size)) (fun k hk=>ZZf hb.size (hg.lt k hk).1)) hkc hc hcnt hfd hemp hm1 hlb hib hf hln hli.1 hli.2.1 hli.2.2 hmay (by simp)).mono fun e w' z=>⟨z.1,by
  obtain⟨_,sv2,fs2,z1,z2⟩:=z
  exact⟨v',sv2,fs2,0,_,by simpa using z1,by rw[z2];simp⟩⟩) hN hmayM hok
theorem Zgx(api:Zb D)(h:Top D w F O p S q seq r b st L){M:MV}(hM:ZbM S L M){ka va:Option Addr}{kn kc vn vc B B':Nat}{x:KV}(hk:RB w B ka kn x.1)(hB:B<=w.heap.size)(hv:RB w B' va vn x.2)(hB':B'<=w.heap.size)(hkc:kn<=kc/\kn<=maxLen)(hvc:vn<=vc/\vn<=maxLen)(hk1:1<=kn/\kn<=32)(hv1:vn<=120)
 {pg:Int} {ls:List Zw} (hc:Za0 S L M x.1 pg ls) {m i:Nat} {l:Zw} (hfd:Zcv ls x.1 m i l) (hli:Zdn l) (hln:l.ps.length<=4294967295) (hsz:szP (l.ps.eraseIdx i++[x])<=4611686018427387904)
 {N:Nat} {M3:MV} {SL3:Int->Option Int} {k3:Nat} {ssF:List Stp} (hdo:Zpz S L M x N M (fun _=>none) ls m i l M3 SL3 k3 ssF) (hN11:N<=11)
 (hN:Zfe M3) (hmayM:Zft M3=true) (hok:okS S M3 L (ZcA M M3 ssF)) :
 Calls prog 40 #[.pointer (some ⟨st,0,none⟩),.slice ka kn kc,.slice va vn vc] w fun e w'=>e=.returned (.int .i64 0)/\Zad D w F O p S q seq r b st (runS S M3 L (ZcA M M3 ssF)) w':=
 Zgv api h hM hk hB hv hB' hkc hvc hk1 hv1 (fun w2 w3 ch mb v v' sv hb hg=>(ZpA api (h.at_.below api hb) hg (BIn.of_below (hk.more hB) (hb.trans (hg.bel.mono hb.size)) (fun k hk=>ZZf hb.size (hg.lt k hk).1)) (BIn.of_below (hv.more hB') (hb.trans (hg.bel.mono hb.size)) (fun k hk=>ZZf hb.size (hg.lt k hk).1)) hkc hvc hc hfd hli hln hsz hdo hN11 (by simp) (by omega)).mono fun e w' z=>⟨z.1,by
  obtain⟨_,v2,sv2,fs2,z1,z2⟩:=z
  exact⟨v2,sv2,fs2,_,_,by simpa using z1,by simpa using (ZZf z2 (by simp))⟩⟩) hN hmayM hok
end
section
variable{D:World->(Nat->Prop)->Addr->DS->Prop}{w0 w w':World}{F O:Nat->Prop}{p:Addr}{S:DS}{q r b st ch mb:Nat}{seq:Int}{L:List (Int×List Int)}{M M':MV}{v v' sv:Value}{ns:Nat}{SL:Int->Option Int}{fs:List Value}{ss:List Stp}
theorem ZkR(api:Zb D)(hS:SAt D w0 F O p S q seq r b st L)(h:ZF w0 w ch st mb M M' v v' sv ns SL fs ss){ka:Option Addr}{kn kc:Nat}{key:List Int}(hk:BIn w (GX ch mb v' sv) ka kn key)(hkc:kn<=kc/\kn<=maxLen)
 {pg:Int} {ls:List Zw} (hc:Za0 S L M' key pg ls) (hno:∀(m:Nat) (l:Zw),ls[m]?=some l->findI l.ps key<0) :
 Calls prog 103 #[.pointer (some ⟨ch,0,none⟩),.slice ka kn kc] w fun e w'=>e=.returned (.tuple #[.bool false,.int .i64 0])/\Below w.heap.size w w':=by
 obtain⟨A',c',hv'e,hc',hri⟩:=h.ri;have hfew:=h.few;have hb1:Below w.heap.size w w.drew:=(Below.refl _ _).drew;have hg1:=h.keep hb1;obtain⟨_,_,_,_,_,y6,y7,y8,y9,y10,_⟩:=hg1.at_.cells2;have y0:=hg1.at_.cells.1;rw[hv'e]at y10;have hk1:=hk.below hb1;have HZ2:=hid (show ∀W,Below w.drew.heap.size w.drew W->W.cell? ⟨ch,0,none⟩=some (.pointer (some ⟨st,0,none⟩))/\W.cell? ⟨ch,6,none⟩=some (.int .i64 M'.d)/\W.cell? ⟨ch,7,none⟩=some (.int .i64 M'.f)/\W.cell? ⟨ch,8,none⟩=some (.int .i64 M'.n)/\W.cell? ⟨ch,9,none⟩=some (.int .i64 M'.c)/\W.cell? ⟨ch,10,none⟩=some (.slice A' M'.l.length c')from fun W hb2=>⟨(hb2.cell (p:=⟨ch,0,none⟩) (World.block_lt_of_cell? _ _ y0)).trans y0,(hb2.cell (p:=⟨ch,6,none⟩) (World.block_lt_of_cell? _ _ y6)).trans y6,(hb2.cell (p:=⟨ch,7,none⟩) (World.block_lt_of_cell? _ _ y7)).trans y7,(hb2.cell (p:=⟨ch,8,none⟩) (World.block_lt_of_cell? _ _ y8)).trans y8,(hb2.cell (p:=⟨ch,9,none⟩) (World.block_lt_of_cell? _ _ y9)).trans y9,(hb2.cell (p:=⟨ch,10,none⟩) (World.block_lt_of_cell? _ _ y10)).trans y10⟩);have HCH:=hid (ZaX api ((hS.below api h.bel).below api hb1) M'.d M'.f M'.n M'.c (A0:=A') (cap:=c') (Kc:=kc) pg (hri.below hb1) hb1.size hc' (by unfold maxLen;omega) hk1.1 (ZZe _) hkc.2 hc.dir hc.ok hc.few hc.all);have HG:=hid h;have HB1:=hid hb1;have HK:=hid hk;have HLT:=hid h.lt;have HNO:=hid hno;have hlen:ls.length<=4294967296:=by have:=hc.few;have:=hc.all;omega
 clear h hk hg1 hk1 hc hri hS hno;go_enter func103,ntmps103;go_wp2_with fail
 go_region_held3 (fun W=>W.cell? ⟨ch,0,none⟩=some (.pointer (some ⟨st,0,none⟩))/\W.cell? ⟨ch,6,none⟩=some (.int .i64 M'.d)/\W.cell? ⟨ch,7,none⟩=some (.int .i64 M'.f)/\W.cell? ⟨ch,8,none⟩=some (.int .i64 M'.n)/\W.cell? ⟨ch,9,none⟩=some (.int .i64 M'.c)/\W.cell? ⟨ch,10,none⟩=some (.slice A' M'.l.length c'))
  (first|with_reducible exact z2|exact⟨y0,y6,y7,y8,y9,y10⟩)
  (first
   | (go_at_call 101;refine HCH.out.mono ?_;rintro e w2 ⟨A2,c2,rfl,hch2,hb2⟩;have z2:=HZ2.out w2 hb2))
 have hk2:=((HK.out.below HB1.out).below hb2)
 have HFI:=hid (ZaW (Kc:=kc) hch2 hk2.1 (ZZe _) hlen);have HCH2:=hid hch2;have HB2:=hid hb2;clear HCH hch2 hb2 hk2 y0 y6 y7 y8 y9 y10 HZ2 z2;go_wp2_with fail;refine HFI.out.mono ?_;rintro e w3⟨a,z,rfl,hfr,hb3⟩
 obtain⟨rfl,rfl⟩:a=0/\z = -1:=by
  rcases hfr with ⟨e1,e2,_⟩|⟨mm,ll,_,e1,e2,e3,_⟩
  · exact⟨e1,e2⟩
  · have:=HNO.out mm ll e1
    omega
 have HE:=hid (HB1.out.trans ((HB2.out.trans (hb3.mono HB2.out.size)).mono HB1.out.size));clear hfr hb3 HFI;go_wp2_with fail;go_ret2;exact⟨rfl,HE.out⟩
theorem Zjy(api:Zb D)(h:Top D w F O p S q seq r b st L){M:MV}(hM:ZbM S L M){ka:Option Addr}{kn kc B:Nat}{key:List Int}(hk:RB w B ka kn key)(hB:B<=w.heap.size)(hkc:kn<=kc/\kn<=maxLen)
 {pg:Int} {ls:List Zw} (hc:Za0 S L M key pg ls) (hno:∀(m:Nat) (l:Zw),ls[m]?=some l->findI l.ps key<0) :
 Calls prog 42 #[.pointer (some ⟨st,0,none⟩),.slice ka kn kc] w fun e w'=>e=.returned (.tuple #[.bool false,.int .i64 0])/\Below w.heap.size w w':=by
 have HHD:=hid (Zb0 api h.at_ hM)
 have HRM:=hid (show ∀(w2 w3:World) (ch mb:Nat) (v v' sv:Value),Below w.heap.size w w2->ZF w2 w3 ch st mb M M v v' sv 0 (fun _=>none) [] []->Calls prog 103 #[.pointer (some ⟨ch,0,none⟩),.slice ka kn kc] w3 fun e w'=>e=.returned (.tuple #[.bool false,.int .i64 0])/\Below w.heap.size w w' from
  fun w2 w3 ch mb v v' sv hb hg=>(ZkR api (h.at_.below api hb) hg (BIn.of_below (hk.more hB) (hb.trans (hg.bel.mono hb.size)) (fun k hk=>ZZf hb.size (hg.lt k hk).1)) hkc hc hno).mono fun e w' z=>⟨z.1,(hb.trans (hg.bel.mono hb.size)).trans (z.2.mono (ZZf hb.size hg.bel.size))⟩)
 clear h hM hk hc hno;go_enter func42,ntmps42;go_wp2_with fail;refine HHD.out.mono ?_;rintro e w1⟨A,k,c,rfl,hkc1,hk1000,hri,_,hb1⟩;obtain⟨w2,hw2⟩:∃w2,w2=w1.alloc (.cells #[.int .i64 M.d,.int .i64 M.f,.int .i64 M.n,.int .i64 M.c,.slice A k c] 41):=⟨_,rfl⟩
 have hba:Below w1.heap.size w1 w2:=by rw[hw2];exact(Below.refl _ _).alloc (ZZe _) _
 have hb2:Below w.heap.size w w2:=hb1.trans (hba.mono hb1.size);have HCO:=hid (Za5 (w:=w2) (st:=st) (c:=c) M ((hri.below hba).more hba.size) hkc1 hk1000);have HB2:=hid hb2;clear hri hb1 hba hb2 HHD;go_wp2_with fail;rw[<-hw2];clear hw2;refine HCO.out.mono ?_;rintro e w3⟨v',rfl,hg3⟩;have HP:=hid (HRM.out w2 w3 _ _ _ _ _ HB2.out hg3);generalize w2.heap.size+2=ch at HP ⊢;clear hg3 HCO;go_wp2_with fail;refine HP.out.mono ?_;rintro e w4⟨rfl,hb4⟩;have HE:=hid hb4;clear hb4 HP;go_wp2_with fail;go_ret2;exact⟨rfl,HE.out⟩
end
theorem ZcN(pre suf:List Int){x:Int}{k:Nat}(hk:Zj x (k:Int)=true)(hx : -9223372036854775808<=x/\x<=9223372036854775807):(getR (pre++(Zr x k++suf)) (pre.length:Int) (k:Int)).1=x:=by
 have hs:ZbP (k:Int)=true:=by
  rcases right_size hk with h|h|h|h <;> rw[h] <;> decide
 unfold getR;rw[if_pos ⟨hs,by omega⟩,if_neg (by simp[Zc];omega)];show numOf _=x;rw[Int.toNat_natCast,Int.toNat_natCast,List.drop_left' rfl,List.take_left' (Zc x k)]
 have:=Zcc hk hx.1 hx.2
 rw[Int.toNat_natCast]at this;exact this
theorem ZlC{y:KV}(h1:y.1.length<256)(h2:y.2.length<256):ZbY y=Zr (y.1.length:Int) 1++(Zr (y.2.length:Int) 1++(y.1++y.2)):=by
 rw[ZfN (by omega),ZfN (by omega)];rfl
theorem ZpB(pre suf:List Int){y:KV}(h1:y.1.length<256)(h2:y.2.length<256):kN (pre++(ZbY y++suf)) pre.length=y.1.length/\vN (pre++(ZbY y++suf)) pre.length=y.2.length/\cutK (pre++(ZbY y++suf)) pre.length=y.1/\cutV (pre++(ZbY y++suf)) pre.length=y.2:=by
 have k1:kN (pre++(ZbY y++suf)) pre.length=y.1.length:=by
  unfold kN;rw[ZlC h1 h2,List.append_assoc]
  have:=ZcN pre (Zr (y.2.length:Int) 1++(y.1++y.2)++suf) (x:=(y.1.length:Int)) (k:=1) (ZcX (by omega)) (by omega)
  rw[show((1:Nat):Int)=1 from rfl]at this;rw[this,Int.toNat_natCast]
 have k2:vN (pre++(ZbY y++suf)) pre.length=y.2.length:=by
  unfold vN;rw[ZlC h1 h2]
  have:=ZcN (pre++Zr (y.1.length:Int) 1) ((y.1++y.2)++suf) (x:=(y.2.length:Int)) (k:=1) (ZcX (by omega)) (by omega)
  rw[show((1:Nat):Int)=1 from rfl,List.length_append,Zc]at this;have e:pre++(Zr (y.1.length:Int) 1++(Zr (y.2.length:Int) 1++(y.1++y.2))++suf)=pre++Zr (y.1.length:Int) 1++(Zr (y.2.length:Int) 1++((y.1++y.2)++suf)):=by simp only[List.append_assoc]
  rw[e,this,Int.toNat_natCast]
 refine⟨k1,k2,?_,?_⟩
 · unfold cutK;rw[k1];have e:pre++(ZbY y++suf)=(pre++[(y.1.length:Int),(y.2.length:Int)])++(y.1++(y.2++suf)):=by simp[ZbY]
   rw[e,List.drop_left' (by simp;try omega),List.take_left' rfl]
 · unfold cutV;rw[k1,k2];have e:pre++(ZbY y++suf)=(pre++[(y.1.length:Int),(y.2.length:Int)]++y.1)++(y.2++suf):=by simp[ZbY]
   rw[e,List.drop_left' (by simp;try omega),List.take_left' rfl]
theorem Zoq(suf:List Int)(ps:List KV):∀pre:List Int,(∀y∈ps,y.1.length<256/\y.2.length<256)->pre.length+szP ps<=240->ZcY (pre++(ZP ps++suf)) ps.length pre.length=ps:=by
 induction ps with
 | nil=>intro pre _ _;rfl
 | cons y ps ih=>
  intro pre hb hs;obtain⟨h1,h2⟩:=hb y List.mem_cons_self;rw[ZfL]at hs;have e:pre++(ZP (y::ps)++suf)=pre++(ZbY y++(ZP ps++suf)):=by simp[ZP]
  obtain⟨c1,c2,c3,c4⟩:=ZpB pre (ZP ps++suf) h1 h2
  have hE:cutE (pre++(ZbY y++(ZP ps++suf))) pre.length=(pre++ZbY y).length:=by
   unfold cutE;rw[c1,c2,List.length_append,Zcp];omega
  rw[e,List.length_cons,ZhP (by rw[hE,List.length_append,Zcp];omega),c3,c4,hE]
  have:=ih (pre++ZbY y) (fun z hz=>hb z (List.mem_cons_of_mem _ hz)) (by rw[List.length_append,Zcp];omega)
  rw[List.append_assoc]at this;rw[this]
theorem ZdU(b:BV):pageBk b=ZQ b++(ZP b.ps++List.replicate (240-(8+szP b.ps)) 0):=by
 unfold pageBk;rw[List.append_assoc]
theorem ZpC{b:BV}(hm:ZD b=true):(getR (pageBk b) 6 2).1=(b.ps.length:Int):=by
 obtain⟨f1,f2,f3,f4⟩:=Zbe hm;have hl:=ZhM b.ps
 have e:pageBk b=(66::(Zr b.d 1++Zr b.x 4))++(Zr (b.ps.length:Int) 2++(ZP b.ps++List.replicate (240-(8+szP b.ps)) 0)):=by
  rw[ZdU];simp[ZQ]
 have:=ZcN (66::(Zr b.d 1++Zr b.x 4)) (ZP b.ps++List.replicate (240-(8+szP b.ps)) 0) (x:=(b.ps.length:Int)) (k:=2) (Zkk (by omega)) (by omega)
 rw[<-e]at this;have e2:(66::(Zr b.d 1++Zr b.x 4)).length=6:=by simp[Zc]
 rw[e2]at this;exact this
theorem Zrj{b:BV}(hm:ZD b=true):(getR (pageBk b) 1 1).1=b.d:=by
 obtain⟨f1,f2,f3,f4⟩:=Zbe hm
 have e:pageBk b = [66]++(Zr b.d 1++(Zr b.x 4++Zr (b.ps.length:Int) 2++(ZP b.ps++List.replicate (240-(8+szP b.ps)) 0))):=by
  rw[ZdU];simp[ZQ]
 have:=ZcN [66] (Zr b.x 4++Zr (b.ps.length:Int) 2++(ZP b.ps++List.replicate (240-(8+szP b.ps)) 0)) (x:=b.d) (k:=1) (ZcX (by omega)) (by omega)
 rw[<-e]at this;exact this
theorem Zrk{b:BV}(hm:ZD b=true):(getR (pageBk b) 2 4).1=b.x:=by
 obtain⟨f1,f2,f3,f4⟩:=Zbe hm
 have hx : -9223372036854775808<=b.x/\b.x<=9223372036854775807:=by
  unfold Zj at f3;simp at f3;omega
 have e:pageBk b=(66::Zr b.d 1)++(Zr b.x 4++(Zr (b.ps.length:Int) 2++(ZP b.ps++List.replicate (240-(8+szP b.ps)) 0))):=by
  rw[ZdU];simp[ZQ]
 have:=ZcN (66::Zr b.d 1) (Zr (b.ps.length:Int) 2++(ZP b.ps++List.replicate (240-(8+szP b.ps)) 0)) (x:=b.x) (k:=4) f3 hx
 rw[<-e]at this;have e2:(66::Zr b.d 1).length=2:=by simp[Zc]
 rw[e2]at this;exact this
theorem Zor{b:BV}(hm:ZD b=true):readBk (pageBk b)=b:=by
 obtain⟨f1,f2,f3,f4⟩:=Zbe hm;have hc:ZnB (pageBk b)=b.ps.length:=by unfold ZnB;rw[ZpC hm,Int.toNat_natCast]
 unfold readBk;rw[Zrj hm,Zrk hm,hc]
 have h8:=Zoq (List.replicate (240-(8+szP b.ps)) 0) b.ps (ZQ b) (fun y hy=>by
  obtain⟨k,hk,rfl⟩:=List.getElem_of_mem hy;obtain⟨⟨_,p2⟩,p3,_⟩:=Zds f4 (ZZc hk)
  omega) (by rw[Zal];exact f1)
 rw[Zal,<-ZdU]at h8;rw[h8]
theorem ZmP{b:BV}(hm:ZD b=true):Zap (pageBk b)=(b,0):=by
 have h:=Zor hm
 have:=Zgc (l:=pageBk b) (Zbd (Zbe hm).1) (by rw[h];exact hm) (by rw[h])
 rw[h]at this;exact this
def Zh(e:Ex):MV:=⟨(e.d:Int),ZaR e.fr,(e.nx:Int),(e.pairs.length:Int),Zch e.dir⟩
structure Zy(S:DS)(L:List (Int×List Int))(e:Ex)(cap:Nat):Prop where
 head:Zn S L 0=(ZM (Zh e),0)
 lies:ZbS S L e (fun _=>False)
 ok:ZX hashL e
 dir:e.dir.length=Z1 e.d
 sm:Zb3 cap e.nx e.fr
 P:S.P=(cap:Int)
 pg:pagesOf S.n=(cap:Int)
 few:cap<=1000000
section
variable{S:DS}{L:List (Int×List Int)}{M:MV}{e e':Ex}{cap:Nat}
theorem ZlD(f:Nat->Chn)(hs:∀l:Nat,∀x∈f l,szX x.2<=232):∀bs:List Nat,(bs.flatMap fun p=>Zk (f p)).length<=232*(bs.flatMap fun p=>Zg (f p)).length
 | []=>ZZe _
 | b::bs=>by
  have h1:=ZlD f hs bs
  have h2:∀c:Chn,(∀x∈c,szX x.2<=232)->(Zk c).length<=232*(Zg c).length:=by
   intro c
   induction c with
   | nil=>intro _;exact ZZe _
   | cons x t ih=>
    intro hx;have q1:=ih fun y hy=>hx y (List.mem_cons_of_mem _ hy)
    have q2:=Zgu (hx x List.mem_cons_self);rw[ZbB,Zc5,List.length_append,List.length_cons];omega
  have h3:=h2 (f b) (hs b);rw[List.flatMap_cons,List.flatMap_cons,List.length_append,List.length_append];omega
theorem ZcO(hH:ZX hashL e):e.pairs.length<=232*e.nx:=by
 have h1:∀bs:List Nat,(∀p∈bs,p∈e.bs)->(bs.flatMap fun p=>Zk (e.ch p)).length<=232*(bs.flatMap fun p=>Zg (e.ch p)).length:=by
  intro bs
  induction bs with
  | nil=>intro _;exact ZZe _
  | cons b bs ih=>
   intro hb;have q1:=ih fun p hp=>hb p (List.mem_cons_of_mem _ hp)
   obtain⟨s,_,_,hc⟩:=hH.at_ (hb b List.mem_cons_self);have q2:=ZlD (fun _=>e.ch b) (fun _ x hx=>hc.size x hx) [0];simp only[List.flatMap_cons,List.flatMap_nil,List.append_nil]at q2;rw[List.flatMap_cons,List.flatMap_cons,List.length_append,List.length_append];omega
 have h2:=h1 e.bs fun _ h=>h
 have h3:=hH.pg.len
 have h4:e.pages.length<=e.nx:=by
  rw[<-h3];simp only[List.length_cons,List.length_append];omega
 have h5:e.pairs.length<=232*e.pages.length:=h2;omega
theorem r4{x:Int}(h:0<=x/\x<4294967296):Zj x 4=true:=(ZcG _).trans (decide_eq_true h)
theorem ZdV(hH:ZX hashL e)(hl:e.dir.length=Z1 e.d)(hS:Zb3 cap e.nx e.fr)(hc:cap<=1000000):Zft (Zh e)=true:=by
 have h1:=ZcO hH;have h2:=hS.2.1;have h3:=hH.d;have h4:=Zcs h3
 have h5:1<=Z1 e.d:=by
  unfold Z1
  have:=Nat.two_pow_pos e.d
  omega
 have hf:ZaR e.fr<4294967296:=by
  unfold ZaR
  cases hfr:e.fr with
  | nil=>simp
  | cons a t=>
   have:=hS.2.2 a (by rw[hfr];exact List.mem_cons_self)
   simp only[List.getElem?_cons_zero,Option.getD_some];omega
 have h0:=(Zc7 hS).1
 have hd:Zgg (Zch e.dir)=true:=List.all_eq_true.2 fun y hy=>by
  obtain⟨q,hq,rfl⟩:=List.mem_map.1 hy
  have:=(hH.pg.apart.2.1 q hq).2.2.2
  exact r4 (by omega)
 have hfn:Zgg [ZaR e.fr,(e.nx:Int),(e.pairs.length:Int)]=true:=by
  simp only[Zgg,List.all_cons,List.all_nil,Bool.and_true,Bool.and_eq_true];exact⟨r4 ⟨h0,hf⟩,r4 (by omega),r4 (by omega)⟩
 unfold Zft Zh;simp only[hd,hfn,ZaZ,Bool.and_true,Bool.and_eq_true,decide_eq_true_eq];exact⟨⟨⟨by omega,by omega⟩,by omega⟩,by omega⟩
theorem ZdG(hH:ZX hashL e)(hS:Zb3 cap e.nx e.fr)(hc:cap<=1000000):Zfe (Zh e):=by
 have h1:=ZcO hH;have h2:=hS.2.1;have h3:=hH.d;have h0:=Zc7 hS;refine⟨⟨?_,?_⟩,⟨?_,?_⟩,⟨?_,?_⟩,?_,?_⟩
 · show(-9223372036854775808:Int)<=(e.d:Int);omega
 · show(e.d:Int)<=9223372036854775807;omega
 · show(-9223372036854775808:Int)<=ZaR e.fr;omega
 · show ZaR e.fr<=9223372036854775807;omega
 · show(-9223372036854775808:Int)<=(e.nx:Int);omega
 · show(e.nx:Int)<=9223372036854775807;omega
 · show(-9223372036854775808:Int)<=(e.pairs.length:Int);omega
 · show(e.pairs.length:Int)<=9223372036854775807;omega
theorem Zy.headIs(h:Zy S L e cap):ZbM S L (Zh e):=by
 refine⟨by rw[h.head],by rw[h.head];exact(Zmt (ZdV h.ok h.dir h.sm h.few)).2,?_⟩
 show(Zch e.dir).length<=1000
 rw[ZaZ,h.dir]
 have:=Zcs h.ok.d
 omega
theorem Zii(hH:ZX hashL e)(hl:e.dir.length=Z1 e.d):Fit (Zh e) e:=⟨⟨[],(List.append_nil _).symm⟩,e.d,rfl,ZZe _,hH.d,by show(Zch e.dir).length=_;rw[ZaZ,hl]⟩
theorem Zy.slot(h:Zy S L e cap){s:Nat}(hs:s<2^e.d):Zaz S L (Zh e).d (Zh e).l.length (Zh e).l (s:Int)=((e.sl s:Int),0):=
 (h.lies.slots s hs).get h.lies.pgs ((Zii h.ok h.dir).ok hs)
theorem Zy.slots(h:Zy S L e cap):ZbC S L (Zh e) (fun _=>none) (2^e.d) e.sl:=fun s hs=>.inr ⟨rfl,h.slot hs⟩
theorem Zjz(h:Zy S L e cap){p:Nat}(hp:p∈e.bs):ZeY S L (Zh e).d (p:Int) (ZI (e.bd p) (e.ch p)):=by
 obtain⟨s,_,_,hc⟩:=h.ok.at_ hp;obtain⟨ps0,t0,ec,_,_⟩:=hc.head;have hpg:=h.sm.pages h.ok hp;have hdeep:=h.ok.sl.deep p hp;have hd:=h.ok.d;have hlen:(Zg (e.ch p)).length=(e.ch p).length:=by simp[Zg]
 refine⟨?_,fun i l hi=>?_,fun i l l' hi hi'=>?_,fun i l hi hi'=>?_⟩
 · have h0:(e.ch p)[0]?=some (p,ps0):=by rw[ec];rfl
   have h1:=ZaG (b:=e.bd p) h0
   cases hl:ZI (e.bd p) (e.ch p)with
   | nil=>rw[hl]at h1;simp at h1
   | cons a t=>
    rw[hl]at h1;have h2:a=_:=Option.some.inj h1;exact⟨a,t,rfl,by rw[h2]⟩
 · obtain⟨g,ps,hg,rfl⟩:=Zah hi;have hgp:=hpg g (ZaA hg);have hE:=h.lies.ents g _ ⟨p,hp,i,ps,hg,rfl⟩ (fun h=>h);have hcc:=h.sm.1;refine⟨⟨?_,?_,?_,?_⟩,?_⟩
   · show(Zn S L (g:Int)).2=0
     rw[hE]
   · show Zap (Zn S L (g:Int)).1=_;rw[hE];exact ZmP (ZeK hc (by omega) hg fun g hg=>(hpg g hg).1)
   · show(-9223372036854775808:Int)<=(g:Int);omega
   · show(g:Int)<=9223372036854775807;omega
   · show(e.bd p:Int)<=(e.d:Int);omega
 · obtain⟨g,ps,hg,rfl⟩:=Zah hi;obtain⟨g',ps',hg',rfl⟩:=Zah hi';have h3:=ZcL hg';refine⟨?_,?_⟩
   · show(Zt (e.ch p) i:Int)=(g':Int)
     unfold Zt;rw[h3];rfl
   · have:=(h.ok.pg.apart.2.2.1 g' (ZaT hp (ZaA hg'))).1
     show(g':Int)≠0
     omega
 · obtain⟨g,ps,hg,rfl⟩:=Zah hi
   have h4:(e.ch p).length<=i+1:=by
    have:=List.getElem?_eq_none_iff.1 hi'
    rw[Zan]at this;exact this
   show(Zt (e.ch p) i:Int)=0
   unfold Zt;rw[List.getElem?_eq_none (by rw[hlen];exact h4)];rfl
theorem Zos(h:Zy S L e cap)(key:List Int):slotN (hashL key) (ZJ (Zh e).d)=hashL key%2^e.d:=by
 have:=h.ok.d
 show slotN (hashL key) (ZJ (e.d:Int))=_;rw[ZeH this];rfl
theorem Zy.chain(h:Zy S L e cap)(key:List Int):Za0 S L (Zh e) key ((e.home hashL key:Nat):Int) (ZI (e.bd (e.home hashL key)) (e.ch (e.home hashL key))):=by
 have hp:=h.ok.home_mem key;refine⟨?_,Zjz h hp,?_,?_⟩
 · rw[Zos h];exact h.slot (ZbR _ _)
 · rw[Zan,h.pg]
   have h1:(e.ch (e.home hashL key)).length<=e.nx:=by
    have h2:=Zc6 (m:=List.range e.nx) (ZbD h.ok hp) fun g hg=>List.mem_range.2 (h.ok.pg.apart.2.2.1 g (ZaT hp hg)).2.2.2
    simpa[Zg] using h2
   have:=h.sm.2.1
   omega
 · rw[h.pg]
   have:=h.sm.1
   omega
theorem Zy.fin(h:Zy S L e cap)(H2:ZX hashL e')(hl2:e'.dir.length=Z1 e'.d)(hS2:Zb3 cap e'.nx e'.fr){ss:List Stp}(hst:∀st∈ss,Zba S (Zh e') st)(hL2:ZbS S (runS S (Zh e') L ss) e' (fun _=>False)) :
 okS S (Zh e') L (ZcA (Zh e) (Zh e') ss)/\Zy S (runS S (Zh e') L (ZcA (Zh e) (Zh e') ss)) e' cap:=by
 obtain⟨k1,k2⟩:=Zlw h.lies.pgs hst;have hh:=Zlx h.lies.pgs hst;unfold ZcA;by_cases hs:Zgh (Zh e) (Zh e')=true
 · rw[if_pos hs];refine⟨k1,⟨?_,hL2,H2,hl2,hS2,h.P,h.pg,h.few⟩⟩;rw[hh,h.head,ZnR.1 hs]
 · rw[if_neg hs];have hml:(ZM (Zh e')).length=240:=ZaE (by show(Zch e'.dir).length<=55;rw[ZaZ,hl2];have:=Zcs H2.d;omega)
   have hc0:0<cap:=by
    have h1:=H2.pg.lt 0 List.mem_cons_self;have h2:=hS2.2.1;omega
   have hno:¬((0:Int)<0∨(0:Int)≥S.P∨(ZM (Zh e')).length≠240):=by rw[h.P,hml];omega
   generalize hL1:runS S (Zh e') L ss=L1 at k2 hL2;have e1:(Zby S (Zh e') L1 (.lay 0 (ZM (Zh e')))).1=0:=if_neg hno;have e2:(Zby S (Zh e') L1 (.lay 0 (ZM (Zh e')))).2=Zef L1 0 (ZM (Zh e')):=if_neg hno;have hg:∀i,Zn S (Zef L1 0 (ZM (Zh e'))) i=if i=0 then(ZM (Zh e'),0)else Zn S L1 i:=fun i=>Zgs
   refine⟨fun k st hk=>?_,?_⟩
   · by_cases hlt:k<ss.length
     · rw[List.getElem?_append_left hlt]at hk;rw[List.take_append_of_le_length (Nat.le_of_lt hlt)];exact k1 k st hk
     · have hk2:k=ss.length:=by
        have:=(ZZb.1 hk).1
        rw[List.length_append,List.length_singleton]at this;omega
       subst hk2;rw[List.getElem?_append_right (ZZe _),Nat.sub_self]at hk;obtain rfl:Stp.lay 0 (ZM (Zh e'))=st:=by simpa using hk
       rw[List.take_append_of_le_length (ZZe _),List.take_of_length_le (ZZe _),hL1];exact e1
   · rw[ZbA,hL1];show Zy S (Zby S (Zh e') L1 (.lay 0 (ZM (Zh e')))).2 e' cap;rw[e2];have hoth:∀i:Int,0<i->Zn S (Zef L1 0 (ZM (Zh e'))) i=Zn S L1 i:=fun i hi=>by rw[hg,if_neg (by omega)]
     have hsl:∀{dir:List Int} {s:Nat} {pg:Int},Zay S L1 dir s pg->Zay S (Zef L1 0 (ZM (Zh e'))) dir s pg:=fun ha=>⟨ha.1,by rw[hoth _ ha.1.1];exact ha.2⟩
     refine⟨by rw[hg,if_pos rfl],⟨fun i hi=>by rw[hoth i hi.1];exact k2 i hi,fun s hs=>hsl (hL2.slots s hs),fun g b hE hx=>?_,fun i q hq=>hsl (hL2.free i q hq)⟩,H2,hl2,hS2,h.P,h.pg,h.few⟩;have h0:=(H2.pg.apart.2.2.1 g hE.page).1;rw[hoth _ (by omega)];exact hL2.ents g b hE hx
end
end Go.Proofs.YtlmkdmdbpopnhaaGreatDoor
