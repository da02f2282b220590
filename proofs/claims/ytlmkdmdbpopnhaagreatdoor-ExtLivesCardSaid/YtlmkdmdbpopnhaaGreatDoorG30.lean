/- ExtO, ExtP, ExtQ, ExtR. Conditions: in each theorem. -/
import Derived.Test.YtlmkdmdbpopnhaaGreatDoorG28
import Derived.Test.YtlmkdmdbpopnhaaGreatDoorG29
import Derived.Deep.RegionHeld3
set_option maxHeartbeats 3200000
set_option maxRecDepth 100000
set_option linter.unusedVariables false
open Go.Proofs.Tryz
open Go.Lib (hid)
namespace Go.Proofs.YtlmkdmdbpopnhaaGreatDoor
open Go.RowKit
theorem Zei(w:World)(T1 T2 T3:TypeId)(u1 u2 u3:Value):((((w.alloc (.cells #[u1] T1)).alloc (.cells #[u2] T2)).alloc (.cells #[u3] T3)).cell? ⟨w.heap.size,0,none⟩=some u1/\(((w.alloc (.cells #[u1] T1)).alloc (.cells #[u2] T2)).alloc (.cells #[u3] T3)).cell? ⟨w.heap.size+1,0,none⟩=some u2/\(((w.alloc (.cells #[u1] T1)).alloc (.cells #[u2] T2)).alloc (.cells #[u3] T3)).cell? ⟨w.heap.size+2,0,none⟩=some u3)/\Below w.heap.size w (((w.alloc (.cells #[u1] T1)).alloc (.cells #[u2] T2)).alloc (.cells #[u3] T3))/\(((w.alloc (.cells #[u1] T1)).alloc (.cells #[u2] T2)).alloc (.cells #[u3] T3)).heap.size=w.heap.size+3:=by
 have b0:=heap_alloc_new w (.cells #[u1] T1);have b1:=heap_alloc_new (w.alloc (.cells #[u1] T1)) (.cells #[u2] T2);have b2:=heap_alloc_new ((w.alloc (.cells #[u1] T1)).alloc (.cells #[u2] T2)) (.cells #[u3] T3);have b0':=(Below.heap_alloc _ (.cells #[u3] T3) w.heap.size (by simp;omega)).trans ((Below.heap_alloc _ (.cells #[u2] T2) w.heap.size (by simp)).trans b0);have b1':=(Below.heap_alloc _ (.cells #[u3] T3) (w.alloc (.cells #[u1] T1)).heap.size (by simp)).trans b1;rw[show(w.alloc (.cells #[u1] T1)).heap.size=w.heap.size+1 by simp]at b1';rw[show((w.alloc (.cells #[u1] T1)).alloc (.cells #[u2] T2)).heap.size=w.heap.size+2 by simp]at b2;refine⟨⟨?_,?_,?_⟩,(((Below.refl _ _).alloc (ZZe _) _).alloc (by simp) _).alloc (by simp;omega) _,by simp⟩
 · rw[cell_of_row _ w.heap.size 0 _ _ (0,0) b0'];rfl
 · rw[cell_of_row _ (w.heap.size+1) 0 _ _ (0,0) b1'];rfl
 · rw[cell_of_row _ (w.heap.size+2) 0 _ _ (0,0) b2];rfl
section
variable{w0 w w':World}{ch st mb:Nat}{M M':MV}{v v' sv:Value}{ns:Nat}{SL:Int->Option Int}{fs:List Value}{ss:List Stp}
theorem ZF.lt(h:ZF w0 w ch st mb M M' v v' sv ns SL fs ss):∀k,GX ch mb v' sv k->w0.heap.size<=k/\k<w.heap.size:=fun k hk=>by
 rcases hk with a|a|a|a
 · rw[a];exact⟨h.chn,h.at_.cells.2.2.2.2.2.2.2.2⟩
 · rw[a];exact⟨h.mbn,h.mp.lt⟩
 · exact ZaM h.will k a
 · exact ZaM h.row k a
theorem ZqB(h:ZF w0 w ch st mb M M' v v' sv ns SL fs ss)(i:Int)(hi : -9223372036854775808<=i/\i<=9223372036854775807){A:Option Addr}{n c:Nat}{l:List Int}(hc:n<=c)(hn:n<=maxLen){Z:Nat}(hZ:Z<=w.heap.size)(hdZ:∀a,A=some a->0<n->Z<=a.block)(hd:BIn w (fun k=>GX ch mb v' sv k∨k<w0.heap.size) A n l)(hm:fs.length+1<=4000000) :
 Calls prog 151 #[.pointer (some ⟨ch,0,none⟩),.int .i64 i,.slice A n c] w fun e w'=>e=.returned (.tuple #[])/\∃sv' f,ZF w0 w' ch st mb M M' v v' sv' ns SL (fs++[f]) (ss++[.lay i l])/\ZZ w0.heap.size Z ch mb v' sv v' sv' fs (fs++[f]) ss (ss++[.lay i l]) w w':=by
 obtain⟨⟨z0,z1,z2⟩,hX,hs3⟩:=Zei w 153 3 55 (.pointer (some ⟨ch,0,none⟩)) (.int .i64 i) (.slice A n c);have hk:=h.keep hX;have hlt:=h.lt
 have hst:Za3 w0.heap.size (((w.alloc (.cells #[.pointer (some ⟨ch,0,none⟩)] 153)).alloc (.cells #[.int .i64 i] 3)).alloc (.cells #[.slice A n c] 55)) (GX ch mb v' sv) ch (Zg0 204 ⟨w.heap.size,0,none⟩ ⟨w.heap.size+1,0,none⟩ ⟨w.heap.size+2,0,none⟩) (.lay i l):=
  ⟨w.heap.size,_,_,_,rfl,z0,z1,z2,⟨fun e=>by have:=hlt _ e;omega,fun e=>by have:=hlt _ e;omega,fun e=>by have:=hlt _ e;omega⟩,h.bel.size,rfl,rfl,hi,A,n,c,rfl,hc,hn,hd.below hX⟩
 have hsY:∀Y:Nat->Prop,(∀k,Y k->k<Z)->Za3 w0.heap.size (((w.alloc (.cells #[.pointer (some ⟨ch,0,none⟩)] 153)).alloc (.cells #[.int .i64 i] 3)).alloc (.cells #[.slice A n c] 55)) Y ch (Zg0 204 ⟨w.heap.size,0,none⟩ ⟨w.heap.size+1,0,none⟩ ⟨w.heap.size+2,0,none⟩) (.lay i l):=
  fun Y hY=>⟨w.heap.size,_,_,_,rfl,z0,z1,z2,⟨fun e=>by have:=hY _ e;omega,fun e=>by have:=hY _ e;omega,fun e=>by have:=hY _ e;omega⟩,h.bel.size,rfl,rfl,hi,A,n,c,rfl,hc,hn,(hd.below hX).1,fun a ha hn0 hg=>by
   rcases hg with q|q
   · have:=hY _ q
     have:=hdZ a ha hn0
     omega
   · exact hd.2 a ha hn0 (.inr q)⟩
 have HT:=hid (ZhK hk.at_ hk.row hk.sch.1 (.func 204) #[] #[.pointer (some ⟨w.heap.size,0,none⟩),.pointer (some ⟨w.heap.size+1,0,none⟩),.pointer (some ⟨w.heap.size+2,0,none⟩)] (by have:=h.many;omega) (ZZf h.bel.size hX.size));have HG:=hid (fun w1 hd=>h.then_ (w':=w1) hX hst hsY hm hd);clear z1 z2 hX hs3 hk hlt hst hsY h hd hdZ;go_enter func151,ntmps151;go_wp2_with fail;refine HT.out.mono ?_;rintro e w1⟨rfl,h1⟩;have HE:=hid (HG.out w1 h1);clear h1 HT HG;go_wp2
 go_end0
 obtain⟨sv',hg,hw⟩:=HE.out;exact⟨rfl,sv',_,hg,hw⟩
theorem ZcI(h:ZF w0 w ch st mb M M' v v' sv ns SL fs ss){G:Nat->Prop}{lf:Value}{l:Zw}(hlf:Zd9 w G lf l)(hpg : -9223372036854775808<=l.pg/\l.pg<=9223372036854775807)(hd : -9223372036854775808<=l.d/\l.d<=9223372036854775807)(hx : -9223372036854775808<=l.x/\l.x<=9223372036854775807)(hmay:ZD l.bv=true)(hm:fs.length+1<=4000000) :
 Calls prog 97 #[.pointer (some ⟨ch,0,none⟩),lf] w fun e w'=>e=.returned (.int .i64 0)/\∃sv' f,ZF w0 w' ch st mb M M' v v' sv' ns SL (fs++[f]) (ss++[.lay l.pg (pageBk l.bv)])/\ZZ w0.heap.size w.heap.size ch mb v' sv v' sv' fs (fs++[f]) ss (ss++[.lay l.pg (pageBk l.bv)]) w w':=by
 obtain⟨pg,d,x,ps⟩:=l;obtain⟨A,n,c,rfl,hc,hn,hst⟩:=hlf;have hpg : -9223372036854775808<=pg/\pg<=9223372036854775807:=hpg;have hd : -9223372036854775808<=d/\d<=9223372036854775807:=hd;have hx : -9223372036854775808<=x/\x<=9223372036854775807:=hx;have hst:Zp w G A n ps:=hst;have hmay:ZD ⟨d,x,ps⟩=true:=hmay;show Calls prog 97 #[.pointer (some ⟨ch,0,none⟩),.agg #[.int .i64 pg,.int .i64 d,.int .i64 x,.slice A n c]] w fun e w'=>e=.returned (.int .i64 0)/\∃sv' f,ZF w0 w' ch st mb M M' v v' sv' ns SL (fs++[f]) (ss++[.lay pg (pageBk ⟨d,x,ps⟩)])/\ZZ w0.heap.size w.heap.size ch mb v' sv v' sv' fs (fs++[f]) ss (ss++[.lay pg (pageBk ⟨d,x,ps⟩)]) w w'
 have hX:Below w.heap.size w (w.alloc (.cells #[.int .i64 pg,.int .i64 d,.int .i64 x,.slice A n c] 104)):=(Below.refl _ _).alloc (ZZe _) _;have hz:(w.alloc (.cells #[.int .i64 pg,.int .i64 d,.int .i64 x,.slice A n c] 104)).heap[w.heap.size]?=some (.cells #[.int .i64 pg,.int .i64 d,.int .i64 x,.slice A n c] 104 (0,0)):=heap_alloc_new _ _
 have hsz:szP ps<=240:=by
  have h1:=hmay;unfold ZD at h1;simp only[Bool.and_eq_true]at h1;have h2:=of_decide_eq_true h1.1.1.1.1;have h3:8+szP ps<=240:=h2;omega
 have HP:=hid (Zn1 (w:=w.alloc (.cells #[.int .i64 pg,.int .i64 d,.int .i64 x,.slice A n c] 104)) d x c (hst.below hX).now (ZZe _) hn (by omega) hd hx);have hput:Zd7 ⟨d,x,ps⟩=(pageBk ⟨d,x,ps⟩,0):=by unfold Zd7;rw[if_pos hmay]
 rw[hput]at HP
 have hpl:(pageBk ⟨d,x,ps⟩).length<=1000:=by
  have h1:8+szP ps<=240:=by
   have h1:=hmay;unfold ZD at h1;simp only[Bool.and_eq_true]at h1;exact of_decide_eq_true h1.1.1.1.1
  rw[Zbd (b:=⟨d,x,ps⟩) h1];omega
 generalize pageBk ⟨d,x,ps⟩=page at HP hpl ⊢;have HX:=hid (ZZg hX (ZZg hz h));have HPL:=hid hpl;clear hst hX hz hput hmay hsz h hpl;go_enter func97,ntmps97;go_wp2_with fail;refine HP.out.mono ?_;rintro e w1⟨A1,n1,c1,rfl,hc1,hr1,hnew,hb1⟩;obtain⟨q1,q2,q3⟩:=HX.out;have hb01:=q1.trans (hb1.mono q1.size);have hG1:=q3.keep hb01;have hbx:=(hb1.block w.heap.size (by simp)).trans q2;obtain⟨z0,_,_,_,_,_⟩:=Za hbx
 have HL:=hid (ZqB hG1 pg hpg hc1 (by rw[<-hr1.len];have:=HPL.out;unfold maxLen;omega) (Z:=w.heap.size) hb01.size (fun a ha _=>by have h1:=hnew a ha;simp at h1;omega) ⟨hr1,fun a ha hn hg=>by
  have h1:=hnew a ha;simp at h1;rcases hg with hg|hg
  · have h2:=(q3.lt _ hg).2;omega
  · have:=q3.bel.size
    omega⟩ hm)
 have HW:=hid (ZZ.below (B:=w0.heap.size) (Z:=w.heap.size) (ch:=ch) (mb:=mb) (v':=v') (sv:=sv) (fs:=fs) (ss:=ss) hb01);clear hr1 hnew hb1 q1 q2 q3 hb01 hG1 hbx HP HX;go_wp2_with fail;refine HL.out.mono ?_;rintro e w2⟨rfl,sv',f,hg,hw⟩;have HE:=hid (ZZg hg (HW.out.trans hw));clear hg hw HW;go_wp2;go_ret;exact⟨rfl,sv',f,HE.out.1,HE.out.2⟩
end
section
variable{w0 w w':World}{ch st mb:Nat}{M M':MV}{v v' sv:Value}{ns:Nat}{SL:Int->Option Int}{fs:List Value}{ss:List Stp}
theorem ZF.mapped(h:ZF w0 w ch st mb M M' v v' sv ns SL fs ss){SL':Int->Option Int}{n':Nat}(hm:Zbl w' mb n' (fun i=>(SL' i).map (Value.int .i64)))(hg:w.grownBy w' (some mb)):ZF w0 w' ch st mb M M' v v' sv n' SL' fs ss:=by
 have hk:∀k,k<w.heap.size->k≠mb->w'.heap[k]?=w.heap[k]?:=fun k hk hn=>hg.block k hk (fun e=>hn (by cases e;rfl))
 have hl:=h.lt;refine⟨(hk ch (hl ch (.inl rfl)).2 h.cm).trans h.at_,h.chn,h.mbn,h.cm,h.was,ZB h.will (fun g hg'=>hk g (ZaM h.will g hg').2 (fun e=>h.vch.2 (by rw[hg',e]))),h.ints,h.few,ZB h.row (fun g hg'=>hk g (ZaM h.row g hg').2 (fun e=>h.sch.2 (by rw[hg',e]))),h.many,h.len,fun i f s hf hs=>(h.each i f s hf hs).keep hg.size (fun k hk' hx=>hk k hk' (fun e=>hx (.inr (.inl e)))) (fun _ _ h=>h),hm,h.vch,h.sch,h.vs,h.bel.trans ⟨hg.os,hg.tape,hg.output,hg.size,fun k hk'=>hk k (ZZd hk' h.bel.size) (fun e=>by have:=h.mbn;omega)⟩⟩
theorem ZZ.map{Z:Nat}(h:ZF w0 w ch st mb M M' v v' sv ns SL fs ss)(hg:w.grownBy w' (some mb)):ZZ w0.heap.size Z ch mb v' sv v' sv fs fs ss ss w w':=by
 have hk:∀k,k<w.heap.size->¬GX ch mb v' sv k->w'.heap[k]?=w.heap[k]?:=fun k hk hn=>hg.block k hk (fun e=>hn (.inr (.inl (by cases e;rfl))))
 exact⟨⟨hg.os,hg.tape,hg.output,hg.size,hk⟩,fun _ h=>.inl h,fun Y hY ha i f s hf hs=>((h.each i f s hf hs).both (ha i f s hf hs)).keep hg.size (fun k hk1 hn=>hk k hk1 (fun e=>hn (.inl e))) (fun k hk hn hy=>hn (.inr hy))⟩
theorem ZZ.cell{Z:Nat}(h:ZF w0 w ch st mb M M' v v' sv ns SL fs ss)(i:Nat)(u:Value):ZZ w0.heap.size Z ch mb v' sv v' sv fs fs ss ss w (w.setCell ⟨ch,i,none⟩ u):=by
 have hk:∀k,k<w.heap.size->¬GX ch mb v' sv k->(w.setCell ⟨ch,i,none⟩ u).heap[k]?=w.heap[k]?:=fun k hk hn=>Below.heap_setCell w ⟨ch,i,none⟩ u k (fun e=>hn (.inl e))
 exact⟨⟨rfl,rfl,rfl,by simp[World.setCell],hk⟩,fun _ h=>.inl h,fun Y hY ha i f s hf hs=>((h.each i f s hf hs).both (ha i f s hf hs)).keep (by simp[World.setCell]) (fun k hk1 hn=>hk k hk1 (fun e=>hn (.inl e))) (fun k hk hn hy=>hn (.inr hy))⟩
theorem ZkH(h:ZF w0 w ch st mb M M' v v' sv ns SL fs ss)(slot pg:Int)(hs : -9223372036854775808<=slot/\slot<=9223372036854775807)(hp : -9223372036854775808<=pg/\pg<=9223372036854775807)(hm:fs.length+1<=4000000)(hns:ns<4000000) :
 Calls prog 96 #[.pointer (some ⟨ch,0,none⟩),.int .i64 slot,.int .i64 pg] w fun e w'=>e=.returned (.tuple #[])/\∃sv' f,ZF w0 w' ch st mb M M' v v' sv' (ns+1) (fun i=>if i=slot then some pg else SL i) (fs++[f]) (ss++[.pt slot pg])/\ZZ w0.heap.size w.heap.size ch mb v' sv v' sv' fs (fs++[f]) ss (ss++[.pt slot pg]) w w':=by
 obtain⟨⟨z0,z1,z2⟩,hX,hs3⟩:=Zei w 153 3 3 (.pointer (some ⟨ch,0,none⟩)) (.int .i64 slot) (.int .i64 pg);have hk:=(h.keep hX).keep ((Below.refl _ (((w.alloc (.cells #[.pointer (some ⟨ch,0,none⟩)] 153)).alloc (.cells #[.int .i64 slot] 3)).alloc (.cells #[.int .i64 pg] 3))).drew);obtain⟨w2,hrun,hmp,hgr⟩:=hk.mp.store underlying202 (by unfold maxLen;omega) hs (.int .i64 pg)
 have hg2:=hk.mapped (SL':=fun i=>if i=slot then some pg else SL i) (hmp.congr (fun i=>by
  by_cases e:i=slot
  · rw[if_pos e,if_pos e];rfl
  · rw[if_neg e,if_neg e])) hgr
 have hX3:=hX.drew;have HW:=hid ((ZZ.below (B:=w0.heap.size) (Z:=w.heap.size) (ch:=ch) (mb:=mb) (v':=v') (sv:=sv) (fs:=fs) (ss:=ss) hX3).trans (ZZ.map hk hgr));have hlt:=h.lt;have hk2:∀k,k<w.heap.size+3->k≠mb->w2.heap[k]?=(((w.alloc (.cells #[.pointer (some ⟨ch,0,none⟩)] 153)).alloc (.cells #[.int .i64 slot] 3)).alloc (.cells #[.int .i64 pg] 3)).heap[k]?:=fun k hk' hn=>hgr.block k (by show k<(((w.alloc (.cells #[.pointer (some ⟨ch,0,none⟩)] 153)).alloc (.cells #[.int .i64 slot] 3)).alloc (.cells #[.int .i64 pg] 3)).heap.size;rw[hs3];exact hk') (fun e=>hn (by cases e;rfl))
 have hmbl:=(hlt mb (.inr (.inl rfl))).2;have y0:w2.cell? ⟨w.heap.size,0,none⟩=some (.pointer (some ⟨ch,0,none⟩)):=(World.cell?_of_block (a:=⟨w.heap.size,0,none⟩) (hk2 w.heap.size (by omega) (by omega))).trans z0;have y1:w2.cell? ⟨w.heap.size+1,0,none⟩=some (.int .i64 slot):=(World.cell?_of_block (a:=⟨w.heap.size+1,0,none⟩) (hk2 (w.heap.size+1) (by omega) (by omega))).trans z1;have y2:w2.cell? ⟨w.heap.size+2,0,none⟩=some (.int .i64 pg):=(World.cell?_of_block (a:=⟨w.heap.size+2,0,none⟩) (hk2 (w.heap.size+2) (by omega) (by omega))).trans z2
 have hst:Za3 w0.heap.size w2 (GX ch mb v' sv) ch (Zg0 155 ⟨w.heap.size,0,none⟩ ⟨w.heap.size+1,0,none⟩ ⟨w.heap.size+2,0,none⟩) (.pt slot pg):=
  ⟨w.heap.size,_,_,_,rfl,y0,y1,y2,⟨fun e=>by have:=hlt _ e;omega,fun e=>by have:=hlt _ e;omega,fun e=>by have:=hlt _ e;omega⟩,h.bel.size,rfl,rfl,rfl,hp⟩
 have hsY:∀Y:Nat->Prop,(∀k,Y k->k<w.heap.size)->Za3 w0.heap.size w2 Y ch (Zg0 155 ⟨w.heap.size,0,none⟩ ⟨w.heap.size+1,0,none⟩ ⟨w.heap.size+2,0,none⟩) (.pt slot pg):=
  fun Y hY=>⟨w.heap.size,_,_,_,rfl,y0,y1,y2,⟨fun e=>by have:=hY _ e;omega,fun e=>by have:=hY _ e;omega,fun e=>by have:=hY _ e;omega⟩,h.bel.size,rfl,rfl,rfl,hp⟩
 have HT:=hid (ZhK hg2.at_ hg2.row hg2.sch.1 (.func 155) #[] #[.pointer (some ⟨w.heap.size,0,none⟩),.pointer (some ⟨w.heap.size+1,0,none⟩),.pointer (some ⟨w.heap.size+2,0,none⟩)] (by have:=h.many;omega) hg2.bel.size);have HG:=hid (fun w1 hd=>hg2.then_ (w':=w1) (Below.refl _ _) hst hsY hm hd);have zm:(((w.alloc (.cells #[.pointer (some ⟨ch,0,none⟩)] 153)).alloc (.cells #[.int .i64 slot] 3)).alloc (.cells #[.int .i64 pg] 3)).cell? ⟨ch,11,none⟩=some (.map (some mb)):=(h.keep hX).at_.cells.2.2.2.2.2.2.1;have ym:w2.cell? ⟨ch,11,none⟩=some (.map (some mb)):=hg2.at_.cells.2.2.2.2.2.2.1;have HRUN:=hrun;clear hX hs3 hk hg2 hmp hgr hst hsY hlt hk2 hmbl hX3 h hrun;go_enter func96,ntmps96;go_wp2_with fail
 go_region_held3 (fun W=>W.cell? ⟨w.heap.size,0,none⟩=some (.pointer (some ⟨ch,0,none⟩))/\W.cell? ⟨w.heap.size+1,0,none⟩=some (.int .i64 slot)/\W.cell? ⟨w.heap.size+2,0,none⟩=some (.int .i64 pg)/\W.cell? ⟨ch,11,none⟩=some (.map (some mb)))
  (first|with_reducible exact⟨y0,y1,y2,ym⟩|exact⟨z0,z1,z2,zm⟩) (first|fail)
 all_goals
  clear z0 z1 z2 zm HRUN;go_wp2_with fail;refine HT.out.mono ?_;rintro e w3⟨rfl,h3⟩;have HE:=hid (HG.out w3 h3);clear h3;go_wp2
  go_end0
  obtain⟨sv',hg,hw⟩:=HE.out;exact⟨rfl,sv',_,hg,HW.out.trans hw⟩
theorem ZF.setFree(h:ZF w0 w ch st mb M M' v v' sv ns SL fs ss)(x:Int):ZF w0 (w.setCell ⟨ch,7,none⟩ (.int .i64 x)) ch st mb M {M' with f:=x} v v' sv ns SL fs ss:=by
 have hk:∀k,k≠ch->(w.setCell ⟨ch,7,none⟩ (.int .i64 x)).heap[k]?=w.heap[k]?:=fun k hn=>Below.heap_setCell w ⟨ch,7,none⟩ (.int .i64 x) k hn
 have hsz:(w.setCell ⟨ch,7,none⟩ (.int .i64 x)).heap.size=w.heap.size:=by simp[World.setCell]
 refine⟨h.at_.setF x,h.chn,h.mbn,h.cm,h.was,ZB h.will (fun g hg=>hk g (fun e=>h.vch.1 (by rw[hg,e]))),h.ints,h.few,ZB h.row (fun g hg=>hk g (fun e=>h.sch.1 (by rw[hg,e]))),h.many,h.len,fun i f s hf hs=>(h.each i f s hf hs).keep (by rw[hsz];exact ZZe _) (fun k _ hx=>hk k (fun e=>hx (.inl e))) (fun _ _ h=>h),h.mp.of_block (hk mb (fun e=>h.cm e.symm)),h.vch,h.sch,h.vs,h.bel.setCell h.chn _⟩
theorem ZF.setNext(h:ZF w0 w ch st mb M M' v v' sv ns SL fs ss)(x:Int):ZF w0 (w.setCell ⟨ch,8,none⟩ (.int .i64 x)) ch st mb M {M' with n:=x} v v' sv ns SL fs ss:=by
 have hk:∀k,k≠ch->(w.setCell ⟨ch,8,none⟩ (.int .i64 x)).heap[k]?=w.heap[k]?:=fun k hn=>Below.heap_setCell w ⟨ch,8,none⟩ (.int .i64 x) k hn
 have hsz:(w.setCell ⟨ch,8,none⟩ (.int .i64 x)).heap.size=w.heap.size:=by simp[World.setCell]
 refine⟨h.at_.setN x,h.chn,h.mbn,h.cm,h.was,ZB h.will (fun g hg=>hk g (fun e=>h.vch.1 (by rw[hg,e]))),h.ints,h.few,ZB h.row (fun g hg=>hk g (fun e=>h.sch.1 (by rw[hg,e]))),h.many,h.len,fun i f s hf hs=>(h.each i f s hf hs).keep (by rw[hsz];exact ZZe _) (fun k _ hx=>hk k (fun e=>hx (.inl e))) (fun _ _ h=>h),h.mp.of_block (hk mb (fun e=>h.cm e.symm)),h.vch,h.sch,h.vs,h.bel.setCell h.chn _⟩
theorem ZF.setCount(h:ZF w0 w ch st mb M M' v v' sv ns SL fs ss)(x:Int):ZF w0 (w.setCell ⟨ch,9,none⟩ (.int .i64 x)) ch st mb M {M' with c:=x} v v' sv ns SL fs ss:=by
 have hk:∀k,k≠ch->(w.setCell ⟨ch,9,none⟩ (.int .i64 x)).heap[k]?=w.heap[k]?:=fun k hn=>Below.heap_setCell w ⟨ch,9,none⟩ (.int .i64 x) k hn
 have hsz:(w.setCell ⟨ch,9,none⟩ (.int .i64 x)).heap.size=w.heap.size:=by simp[World.setCell]
 refine⟨h.at_.setC x,h.chn,h.mbn,h.cm,h.was,ZB h.will (fun g hg=>hk g (fun e=>h.vch.1 (by rw[hg,e]))),h.ints,h.few,ZB h.row (fun g hg=>hk g (fun e=>h.sch.1 (by rw[hg,e]))),h.many,h.len,fun i f s hf hs=>(h.each i f s hf hs).keep (by rw[hsz];exact ZZe _) (fun k _ hx=>hk k (fun e=>hx (.inl e))) (fun _ _ h=>h),h.mp.of_block (hk mb (fun e=>h.cm e.symm)),h.vch,h.sch,h.vs,h.bel.setCell h.chn _⟩
theorem ZF.setDepth(h:ZF w0 w ch st mb M M' v v' sv ns SL fs ss)(x:Int):ZF w0 (w.setCell ⟨ch,6,none⟩ (.int .i64 x)) ch st mb M {M' with d:=x} v v' sv ns SL fs ss:=by
 have hk:∀k,k≠ch->(w.setCell ⟨ch,6,none⟩ (.int .i64 x)).heap[k]?=w.heap[k]?:=fun k hn=>Below.heap_setCell w ⟨ch,6,none⟩ (.int .i64 x) k hn
 have hsz:(w.setCell ⟨ch,6,none⟩ (.int .i64 x)).heap.size=w.heap.size:=by simp[World.setCell]
 refine⟨h.at_.setD x,h.chn,h.mbn,h.cm,h.was,ZB h.will (fun g hg=>hk g (fun e=>h.vch.1 (by rw[hg,e]))),h.ints,h.few,ZB h.row (fun g hg=>hk g (fun e=>h.sch.1 (by rw[hg,e]))),h.many,h.len,fun i f s hf hs=>(h.each i f s hf hs).keep (by rw[hsz];exact ZZe _) (fun k _ hx=>hk k (fun e=>hx (.inl e))) (fun _ _ h=>h),h.mp.of_block (hk mb (fun e=>h.cm e.symm)),h.vch,h.sch,h.vs,h.bel.setCell h.chn _⟩
theorem Zrf(h:ZF w0 w ch st mb M M' v v' sv ns SL fs ss)(pg:Int)(hp : -9223372036854775808<=pg/\pg<=9223372036854775807)(hf : -9223372036854775808<=M'.f/\M'.f<=9223372036854775807)(hm:fs.length+1<=4000000) :
 Calls prog 167 #[.pointer (some ⟨ch,0,none⟩),.int .i64 pg] w fun e w'=>e=.returned (.tuple #[])/\∃sv' f,ZF w0 w' ch st mb M {M' with f:=pg} v v' sv' ns SL (fs++[f]) (ss++[.fr pg M'.f])/\ZZ w0.heap.size w.heap.size ch mb v' sv v' sv' fs (fs++[f]) ss (ss++[.fr pg M'.f]) w w':=by
 obtain⟨⟨z0,z1,z2⟩,hX,hs3⟩:=Zei w 153 3 3 (.pointer (some ⟨ch,0,none⟩)) (.int .i64 pg) (.int .i64 M'.f);have hlt:=h.lt;have hchl:=(hlt ch (.inl rfl)).2;have hX2:Below w.heap.size w ((w.alloc (.cells #[.pointer (some ⟨ch,0,none⟩)] 153)).alloc (.cells #[.int .i64 pg] 3)):=((Below.refl _ _).alloc (ZZe _) _).alloc (by simp) _;have c7:=(h.keep hX2).at_.cells.2.2.1;have hk:=h.keep hX;have f7:=hk.at_.frozen 7;have d7:=hk.at_.cells.2.2.1;have hg2:=hk.setFree pg;have hne:∀k,k≠ch->((((w.alloc (.cells #[.pointer (some ⟨ch,0,none⟩)] 153)).alloc (.cells #[.int .i64 pg] 3)).alloc (.cells #[.int .i64 M'.f] 3)).setCell ⟨ch,7,none⟩ (.int .i64 pg)).heap[k]?=(((w.alloc (.cells #[.pointer (some ⟨ch,0,none⟩)] 153)).alloc (.cells #[.int .i64 pg] 3)).alloc (.cells #[.int .i64 M'.f] 3)).heap[k]?:=fun k hn=>Below.heap_setCell _ ⟨ch,7,none⟩ (.int .i64 pg) k hn
 have y0:=(World.cell?_of_block (a:=⟨w.heap.size,0,none⟩) (hne w.heap.size (by omega))).trans z0;have y1:=(World.cell?_of_block (a:=⟨w.heap.size+1,0,none⟩) (hne (w.heap.size+1) (by omega))).trans z1;have y2:=(World.cell?_of_block (a:=⟨w.heap.size+2,0,none⟩) (hne (w.heap.size+2) (by omega))).trans z2
 have hst:Za3 w0.heap.size ((((w.alloc (.cells #[.pointer (some ⟨ch,0,none⟩)] 153)).alloc (.cells #[.int .i64 pg] 3)).alloc (.cells #[.int .i64 M'.f] 3)).setCell ⟨ch,7,none⟩ (.int .i64 pg)) (GX ch mb v' sv) ch (Zg0 219 ⟨w.heap.size,0,none⟩ ⟨w.heap.size+1,0,none⟩ ⟨w.heap.size+2,0,none⟩) (.fr pg M'.f):=
  ⟨w.heap.size,_,_,_,rfl,y0,y1,y2,⟨fun e=>by have:=hlt _ e;omega,fun e=>by have:=hlt _ e;omega,fun e=>by have:=hlt _ e;omega⟩,h.bel.size,rfl,rfl,rfl,hp,hf⟩
 have hsY:∀Y:Nat->Prop,(∀k,Y k->k<w.heap.size)->Za3 w0.heap.size ((((w.alloc (.cells #[.pointer (some ⟨ch,0,none⟩)] 153)).alloc (.cells #[.int .i64 pg] 3)).alloc (.cells #[.int .i64 M'.f] 3)).setCell ⟨ch,7,none⟩ (.int .i64 pg)) Y ch (Zg0 219 ⟨w.heap.size,0,none⟩ ⟨w.heap.size+1,0,none⟩ ⟨w.heap.size+2,0,none⟩) (.fr pg M'.f):=
  fun Y hY=>⟨w.heap.size,_,_,_,rfl,y0,y1,y2,⟨fun e=>by have:=hY _ e;omega,fun e=>by have:=hY _ e;omega,fun e=>by have:=hY _ e;omega⟩,h.bel.size,rfl,rfl,rfl,hp,hf⟩
 have HW:=hid ((ZZ.below (B:=w0.heap.size) (Z:=w.heap.size) (ch:=ch) (mb:=mb) (v':=v') (sv:=sv) (fs:=fs) (ss:=ss) hX).trans (ZZ.cell hk 7 (.int .i64 pg)));have HT:=hid (ZhK hg2.at_ hg2.row hg2.sch.1 (.func 219) #[] #[.pointer (some ⟨w.heap.size,0,none⟩),.pointer (some ⟨w.heap.size+1,0,none⟩),.pointer (some ⟨w.heap.size+2,0,none⟩)] (by have:=h.many;omega) hg2.bel.size);have HG:=hid (fun w1 hd=>hg2.then_ (w':=w1) (Below.refl _ _) hst hsY hm hd);clear hX hs3 hk hg2 hst hsY hlt hne hX2 h hf;go_enter func167,ntmps167;go_wp2_with fail;refine HT.out.mono ?_;rintro e w3⟨rfl,h3⟩;have HE:=hid (HG.out w3 h3);clear h3;go_wp2
 go_end0
 obtain⟨sv',hg,hw⟩:=HE.out;exact⟨rfl,sv',_,hg,HW.out.trans hw⟩
end
section
variable{D:World->(Nat->Prop)->Addr->DS->Prop}{w w':World}{F O:Nat->Prop}{p:Addr}{S:DS}{q r b st ch:Nat}{seq:Int}{L:List (Int×List Int)}
theorem Zf.of_drew{O:Nat->Prop}{w w2:World}(h:Zf O w.drew w2):Zf O w w2:=⟨h.os,h.tape,h.output,h.size,h.block⟩
theorem Zf.cell_{O:Nat->Prop}{w w2:World}(h:Zf O w w2){k i:Nat}{u:Value}(hk:¬O k)(hu:w.cell? ⟨k,i,none⟩=some u):w2.cell? ⟨k,i,none⟩=some u:=(World.cell?_of_block (a:=⟨k,i,none⟩) (h.block k (World.block_lt_of_cell? _ _ hu) hk)).trans hu
theorem ZmA(api:Zb D)(h:ZaN D w F O p S q seq r b L)(ht:Zdf w F)(hlen:∀i,(Zn S L i).2=0->(Zn S L i).1.length=240){g:Nat}{slot pg d f n c:Int}{A:Option Addr}{k cap B:Nat}{l:List Int}(hpg : -9223372036854775808<=pg/\pg<=9223372036854775807)
 (x0:w.cell? ⟨g,0,none⟩=some (.pointer (some ⟨ch,0,none⟩))) (x1:w.cell? ⟨g+1,0,none⟩=some (.int .i64 slot)) (x2:w.cell? ⟨g+2,0,none⟩=some (.int .i64 pg)) (x3:w.cell? ⟨ch,0,none⟩=some (.pointer (some ⟨st,0,none⟩))) (x4:w.cell? ⟨st,0,none⟩=some (.pointer (some ⟨r,0,none⟩)))
 (y0:w.cell? ⟨ch,6,none⟩=some (.int .i64 d)) (y1:w.cell? ⟨ch,7,none⟩=some (.int .i64 f)) (y2:w.cell? ⟨ch,8,none⟩=some (.int .i64 n)) (y3:w.cell? ⟨ch,9,none⟩=some (.int .i64 c)) (y4:w.cell? ⟨ch,10,none⟩=some (.slice A k cap))
 (ho:¬O g/\¬O (g+1)/\¬O (g+2)/\¬O ch/\¬O st) (hr:RI w B A k l) (hB:B<=w.heap.size) (hk:k<=cap) (hkm:k<=maxLen) :
 Calls prog 155 #[.pointer (some ⟨g,0,none⟩),.pointer (some ⟨g+1,0,none⟩),.pointer (some ⟨g+2,0,none⟩)] w fun e w'=>e=.returned (.int .i64 (Zaq S L d k l slot pg).1)/\∃O',ZaN D w' F O' p S q seq r b (Zaq S L d k l slot pg).2/\Zf O w w'/\∀k,O' k->O k∨w.heap.size<=k:=by
 have hd:Below w.heap.size w w.drew:=(Below.refl _ _).drew;have HS:=hid (Zhi api (h.below api hd) (ht.below hd) hlen d f n c (cap:=cap) slot pg hpg (hr.below (hd.mono hB)) hB hk hkm);obtain⟨o0,o1,o2,o3,o4⟩:=ho
 have HC:=hid (show ∀w2,Zf O w.drew w2->w2.cell? ⟨g,0,none⟩=some (.pointer (some ⟨ch,0,none⟩))/\w2.cell? ⟨g+1,0,none⟩=some (.int .i64 slot)/\w2.cell? ⟨g+2,0,none⟩=some (.int .i64 pg)/\w2.cell? ⟨ch,0,none⟩=some (.pointer (some ⟨st,0,none⟩))/\w2.cell? ⟨st,0,none⟩=some (.pointer (some ⟨r,0,none⟩))/\w2.cell? ⟨ch,6,none⟩=some (.int .i64 d)/\w2.cell? ⟨ch,7,none⟩=some (.int .i64 f)/\w2.cell? ⟨ch,8,none⟩=some (.int .i64 n)/\w2.cell? ⟨ch,9,none⟩=some (.int .i64 c)/\w2.cell? ⟨ch,10,none⟩=some (.slice A k cap)from fun w2 t=>
  ⟨t.of_drew.cell_ o0 x0,t.of_drew.cell_ o1 x1,t.of_drew.cell_ o2 x2,t.of_drew.cell_ o3 x3,t.of_drew.cell_ o4 x4,t.of_drew.cell_ o3 y0,t.of_drew.cell_ o3 y1,t.of_drew.cell_ o3 y2,t.of_drew.cell_ o3 y3,t.of_drew.cell_ o3 y4⟩)
 generalize hrr:Zaq S L d k l slot pg=rr at HS ⊢;clear h ht hlen hr hd hrr o0 o1 o2 o3 o4;go_enter func155,ntmps155;go_wp2_with fail
 go_region_held3 (fun W=>W.cell? ⟨g,0,none⟩=some (.pointer (some ⟨ch,0,none⟩))/\W.cell? ⟨g+1,0,none⟩=some (.int .i64 slot)/\W.cell? ⟨g+2,0,none⟩=some (.int .i64 pg)/\W.cell? ⟨ch,0,none⟩=some (.pointer (some ⟨st,0,none⟩))/\W.cell? ⟨st,0,none⟩=some (.pointer (some ⟨r,0,none⟩))/\W.cell? ⟨ch,6,none⟩=some (.int .i64 d)/\W.cell? ⟨ch,7,none⟩=some (.int .i64 f)/\W.cell? ⟨ch,8,none⟩=some (.int .i64 n)/\W.cell? ⟨ch,9,none⟩=some (.int .i64 c)/\W.cell? ⟨ch,10,none⟩=some (.slice A k cap))
  (first|with_reducible exact z1|exact⟨x0,x1,x2,x3,x4,y0,y1,y2,y3,y4⟩)
  (first
   | (go_at_call 156;refine HS.out.mono ?_;rintro e w2 ⟨rfl,O2,p2,t2,n2⟩;have z1:=HC.out w2 t2))
 all_goals
  have HE:=hid (show ∃O',ZaN D w2 F O' p S q seq r b rr.2/\Zf O w w2/\∀k,O' k->O k∨w.heap.size<=k from⟨O2,p2,t2.of_drew,n2⟩);clear p2 t2 n2 z1;go_wp2;go_ret;exact⟨rfl,HE.out⟩
theorem Zlt(pg:Int)(hp : -9223372036854775808<=pg/\pg<=9223372036854775807)(w:World):Calls prog 153 #[.int .i64 pg] w fun e w'=>∃A c,e=.returned (.agg #[.int .i64 0,.int .i64 0,.int .i64 0,.int .i64 0,.slice A 1 c])/\1<=c/\RI w' w'.heap.size A 1 [pg]/\Below w.heap.size w w':=by
 go_enter func153,ntmps153;go_wp2_with fail;have hb:=(Below.heap_alloc (w.alloc (.cells #[.int .i64 0,.int .i64 0,.int .i64 0,.int .i64 0,.slice (some ⟨w.heap.size+1,0,none⟩) 1 1] 41)) (.cells #[.int .i64 pg] 3) w.heap.size (by simp)).trans (heap_alloc_new w (.cells #[.int .i64 0,.int .i64 0,.int .i64 0,.int .i64 0,.slice (some ⟨w.heap.size+1,0,none⟩) 1 1] 41));have hbl:Below w.heap.size w ((w.alloc (.cells #[.int .i64 0,.int .i64 0,.int .i64 0,.int .i64 0,.slice (some ⟨w.heap.size+1,0,none⟩) 1 1] 41)).alloc (.cells #[.int .i64 pg] 3)):=((Below.refl _ _).alloc (ZZe _) _).alloc (by simp) _
 have hri:RI ((w.alloc (.cells #[.int .i64 0,.int .i64 0,.int .i64 0,.int .i64 0,.slice (some ⟨w.heap.size+1,0,none⟩) 1 1] 41)).alloc (.cells #[.int .i64 pg] 3)) ((w.alloc (.cells #[.int .i64 0,.int .i64 0,.int .i64 0,.int .i64 0,.slice (some ⟨w.heap.size+1,0,none⟩) 1 1] 41)).alloc (.cells #[.int .i64 pg] 3)).heap.size (some ⟨w.heap.size+1,0,none⟩) 1 [pg]:=by
  have hs:(w.alloc (.cells #[.int .i64 0,.int .i64 0,.int .i64 0,.int .i64 0,.slice (some ⟨w.heap.size+1,0,none⟩) 1 1] 41)).heap.size=w.heap.size+1:=by simp
  have hn:=heap_alloc_new (w.alloc (.cells #[.int .i64 0,.int .i64 0,.int .i64 0,.int .i64 0,.slice (some ⟨w.heap.size+1,0,none⟩) 1 1] 41)) (.cells #[.int .i64 pg] 3);rw[hs]at hn;refine⟨rfl,fun x hx=>?_,fun _=>⟨w.heap.size+1,0,rfl,(ZZa.1 hn).1,fun j hj=>?_⟩⟩
  · rw[List.mem_singleton.1 hx];exact hp
  · obtain rfl:j=0:=by omega
    rw[cell_of_row _ (w.heap.size+1) 0 _ _ (0,0) hn];rfl
 generalize ((w.alloc (.cells #[.int .i64 0,.int .i64 0,.int .i64 0,.int .i64 0,.slice (some ⟨w.heap.size+1,0,none⟩) 1 1] 41)).alloc (.cells #[.int .i64 pg] 3))=V at *;obtain⟨d0,d1,d2,d3,d4,_⟩:=Zcd hb
 refine bodyPost_ret (v:=.agg #[.int .i64 0,.int .i64 0,.int .i64 0,.int .i64 0,.slice (some ⟨w.heap.size+1,0,none⟩) 1 1]) (by
  simp[results,Tryz.results153,go_sem,d0,d1,d2,d3,d4]) rfl ?_
 exact⟨_,_,rfl,ZZe _,hri,hbl⟩
theorem Zn5(api:Zb D)(h:ZaN D w F O p S q seq r b L)(ht:Zdf w F)(hlen:∀i,(Zn S L i).2=0->(Zn S L i).1.length=240){g:Nat}{pg nx:Int}(hpg : -9223372036854775808<=pg/\pg<=9223372036854775807)(hnx : -9223372036854775808<=nx/\nx<=9223372036854775807)
 (x0:w.cell? ⟨g,0,none⟩=some (.pointer (some ⟨ch,0,none⟩))) (x1:w.cell? ⟨g+1,0,none⟩=some (.int .i64 pg)) (x2:w.cell? ⟨g+2,0,none⟩=some (.int .i64 nx)) (x3:w.cell? ⟨ch,0,none⟩=some (.pointer (some ⟨st,0,none⟩))) (x4:w.cell? ⟨st,0,none⟩=some (.pointer (some ⟨r,0,none⟩)))
 (ho:¬O g/\¬O (g+1)/\¬O (g+2)/\¬O ch/\¬O st) :
 Calls prog 219 #[.pointer (some ⟨g,0,none⟩),.pointer (some ⟨g+1,0,none⟩),.pointer (some ⟨g+2,0,none⟩)] w fun e w'=>e=.returned (.int .i64 (Zaq S L 0 1 [pg] 0 nx).1)/\∃O',ZaN D w' F O' p S q seq r b (Zaq S L 0 1 [pg] 0 nx).2/\Zf O w w'/\∀k,O' k->O k∨w.heap.size<=k:=by
 have hd:Below w.heap.size w w.drew:=(Below.refl _ _).drew;have HLK:=hid (Zlt pg hpg w.drew);obtain⟨o0,o1,o2,o3,o4⟩:=ho
 have HCB:=hid (show ∀w2,Below w.drew.heap.size w.drew w2->w2.cell? ⟨g,0,none⟩=some (.pointer (some ⟨ch,0,none⟩))/\w2.cell? ⟨g+1,0,none⟩=some (.int .i64 pg)/\w2.cell? ⟨g+2,0,none⟩=some (.int .i64 nx)/\w2.cell? ⟨ch,0,none⟩=some (.pointer (some ⟨st,0,none⟩))/\w2.cell? ⟨st,0,none⟩=some (.pointer (some ⟨r,0,none⟩))from fun w2 t=>by
  have hb:=hd.trans (t.mono hd.size)
  exact⟨(hb.cell (p:=⟨g,0,none⟩) (World.block_lt_of_cell? _ _ x0)).trans x0,(hb.cell (p:=⟨g+1,0,none⟩) (World.block_lt_of_cell? _ _ x1)).trans x1,(hb.cell (p:=⟨g+2,0,none⟩) (World.block_lt_of_cell? _ _ x2)).trans x2,(hb.cell (p:=⟨ch,0,none⟩) (World.block_lt_of_cell? _ _ x3)).trans x3,(hb.cell (p:=⟨st,0,none⟩) (World.block_lt_of_cell? _ _ x4)).trans x4⟩)
 have HOO:=hid (ZZg o0 (ZZg o1 (ZZg o2 (ZZg o3 o4))));have HPG:=hid (fun w2 (hb:Below w.heap.size w w2)=>ZZg (h.below api hb) (ht.below hb));have HDS:=hid (fun w2 (hb:Below w.heap.size w w2) {A:Option Addr} {c:Nat} (hr:RI w2 w2.heap.size A 1 [pg]) (hc:1<=c)=>Zhi api (h.below api hb) (ht.below hb) hlen 0 0 0 0 (cap:=c) 0 nx hnx hr (ZZe _) hc (by decide));have HDB:=hid hd;generalize hrr:Zaq S L 0 1 [pg] 0 nx=rr at HDS ⊢;clear h ht hlen hrr o0 o1 o2 o3 o4 hd;go_enter func219,ntmps219;go_wp2_with fail
 go_region_held3 (fun W=>W.cell? ⟨g,0,none⟩=some (.pointer (some ⟨ch,0,none⟩))/\W.cell? ⟨g+1,0,none⟩=some (.int .i64 pg)/\W.cell? ⟨g+2,0,none⟩=some (.int .i64 nx)/\W.cell? ⟨ch,0,none⟩=some (.pointer (some ⟨st,0,none⟩))/\W.cell? ⟨st,0,none⟩=some (.pointer (some ⟨r,0,none⟩)))
  (first|with_reducible exact z2|with_reducible exact z1|exact⟨x0,x1,x2,x3,x4⟩)
  (first
   | (go_at_call 153;refine HLK.out.mono ?_;rintro e w1 ⟨A1,c1,rfl,hc1,hr1,hb1⟩;have z1:=HCB.out w1 hb1;have hbw:=HDB.out.trans (hb1.mono HDB.out.size);have HD1:=hid (HDS.out w1 hbw hr1 hc1))
   | (go_at_call 156;refine HD1.out.mono ?_;rintro e w2 ⟨rfl,O2,p2,t2,n2⟩;have z2:w2.cell? ⟨g,0,none⟩=some (.pointer (some ⟨ch,0,none⟩))/\w2.cell? ⟨g+1,0,none⟩=some (.int .i64 pg)/\w2.cell? ⟨g+2,0,none⟩=some (.int .i64 nx)/\w2.cell? ⟨ch,0,none⟩=some (.pointer (some ⟨st,0,none⟩))/\w2.cell? ⟨st,0,none⟩=some (.pointer (some ⟨r,0,none⟩)):=⟨t2.cell_ HOO.out.1 z1.1,t2.cell_ HOO.out.2.1 z1.2.1,t2.cell_ HOO.out.2.2.1 z1.2.2.1,t2.cell_ HOO.out.2.2.2.1 z1.2.2.2.1,t2.cell_ HOO.out.2.2.2.2 z1.2.2.2.2⟩))
 all_goals
  have HE:=hid (show ∃O',ZaN D w2 F O' p S q seq r b rr.2/\Zf O w w2/\∀k,O' k->O k∨w.heap.size<=k from⟨O2,p2,⟨t2.os.trans hbw.os,t2.tape.trans hbw.tape,t2.output.trans hbw.output,ZZf hbw.size t2.size,fun k hk hn=>(t2.block k (ZZd hk hbw.size) hn).trans (hbw.block k hk)⟩,fun k hk=>by
   rcases n2 k hk with a|a
   · exact .inl a
   · exact .inr (ZZf hbw.size a)⟩)
  clear p2 t2 n2 z1 z2 hr1 hb1 hbw hc1;go_wp2;go_ret;exact⟨rfl,HE.out⟩
end
def Zby(S:DS)(M:MV)(L:List (Int×List Int)):Stp->Int×List (Int×List Int)
 | .lay pg l=>(Za4 S pg l,Zcf S L pg l)
 | .pt slot pg=>Zaq S L M.d M.l.length M.l slot pg
 | .fr pg nx=>Zaq S L 0 1 [pg] 0 nx
def runS(S:DS)(M:MV)(L:List (Int×List Int))(ss:List Stp):List (Int×List Int):=ss.foldl (fun L s=>(Zby S M L s).2) L
def okS(S:DS)(M:MV)(L:List (Int×List Int))(ss:List Stp):Prop:=∀(k:Nat) (s:Stp),ss[k]?=some s->(Zby S M (runS S M L (ss.take k)) s).1=0
theorem Zn6{S:DS}{M:MV}{L:List (Int×List Int)}{ss:List Stp}{k:Nat}{s:Stp}(h:ss[k]?=some s):runS S M L (ss.take (k+1))=(Zby S M (runS S M L (ss.take k)) s).2:=by
 unfold runS;rw[List.take_add_one,h,Option.toList_some,List.foldl_append];rfl
def Ziz(S:DS):Prop:=∀i,(Za9 S i).2=0->(Za9 S i).1.length=240
theorem Ziz.get{S:DS}(h:Ziz S){L:List (Int×List Int)}(ha:ZcH S L):∀i,(Zn S L i).2=0->(Zn S L i).1.length=240:=fun i hi=>by
 unfold Zn at hi ⊢
 cases e:atL L i with
 | some l=>exact(ha _ (Zh1 e)).2.2.1
 | none=>
  rw[e]at hi;exact h i hi
section
variable{D:World->(Nat->Prop)->Addr->DS->Prop}{w0 w w':World}{F O:Nat->Prop}{p:Addr}{S:DS}{q r b st ch mb:Nat}{seq:Int}{L:List (Int×List Int)}{M M':MV}{v v' sv:Value}{ns:Nat}{SL:Int->Option Int}{fs:List Value}{ss:List Stp}
def Did(D:World->(Nat->Prop)->Addr->DS->Prop)(wf:World)(F O:Nat->Prop)(p:Addr)(S:DS)(q:Nat)(seq:Int)(r b:Nat)(L':List (Int×List Int))(W:World):Prop:=
 ∃O',ZaN D W F O' p S q seq r b L'/\Zf O wf W/\∀k,O' k->O k∨wf.heap.size<=k
theorem Did.tab(hO:¬O 1)(ht:Zdf w F){W:World}(h:Zf O w W):Zdf W F:=
 ⟨fun i hi=>(World.cell?_of_block (a:=⟨1,i,none⟩) (h.block _ ht.lt hO)).trans (ht.tab i hi),ZZd ht.lt h.size,ht.out⟩
theorem Did.next{W W':World}{L'':List (Int×List Int)}{O1 O2:Nat->Prop}(h1:Zf O w W)(h2:∀k,O1 k->O k∨w.heap.size<=k)(hp:ZaN D W' F O2 p S q seq r b L'')(ht:Zf O1 W W')(h3:∀k,O2 k->O1 k∨W.heap.size<=k):Did D w F O p S q seq r b L'' W':=by
 refine⟨O2,hp,⟨ht.os.trans h1.os,ht.tape.trans h1.tape,ht.output.trans h1.output,ZZf h1.size ht.size,fun k hk hn=>(ht.block k (ZZd hk h1.size) (fun e=>?_)).trans (h1.block k hk hn)⟩,fun k hk=>?_⟩
 · rcases h2 k e with a|a
   · exact hn a
   · omega
 · rcases h3 k hk with a|a
   · exact h2 k a
   · exact .inr (ZZf h1.size a)
theorem Zpo(api:Zb D)(hS:SAt D w F O p S q seq r b st L)(h:ZF w0 w ch st mb M M' v v' sv ns SL fs ss)(hL:Ziz S)(hO:∀k,O k->k<w0.heap.size)(hOt:¬O 1)(hok:okS S M' L ss){A:Option Addr}{n c:Nat}(hsv:sv=.slice A n c) :
 Calls prog 92 #[sv] w fun e w'=>e=.returned (.int .i64 0)/\Did D w F O p S q seq r b (runS S M' L ss) w':=by
 subst hsv
 have hnl:n=fs.length:=by
  have h1:=h.row;rcases h1.2 with ⟨e,h0⟩|⟨g,cap,cur,e,_⟩
  · cases e;exact h0.symm
  · cases e;rfl
 have hlt:=h.lt;have hcN:¬O ch:=fun e=>by have:=hO _ e;have:=h.chn;omega
 have hstN:¬O st:=hS.out;obtain⟨x3,y0,y1,y2,y3,y4,_,_,hcl⟩:=h.at_.cells;have x4:=hS.sto.cell;obtain⟨A',c',hv',hc'⟩:=Zat h.will;have hri:=(RI.of_own (by rw[<-hv'];exact h.will) h.ints).1;rw[hv']at y4;have hrun:runS S M' L ss=runS S M' L (ss.take n):=by rw[List.take_of_length_le (by rw[h.len,hnl];exact ZZe _)]
 rw[hrun];refine Zmx fs (fun k W=>Did D w F O p S q seq r b (runS S M' L (ss.take k)) W) (by rw[hnl];have:=h.many;omega) hnl.symm ⟨O,hS.pg,Zf.refl _ _,fun k hk=>.inl hk⟩ (fun hn=>?_) (fun k f hf=>?_)
 · rcases h.row.2 with ⟨e,h0⟩|⟨g,cap,cur,e,hb,hg,hlen,hcap,hsz,htake⟩
   · cases e;omega
   · cases e;refine⟨g,rfl,fun k f W hJ hf=>?_⟩;obtain⟨_,_,ht,_⟩:=hJ;have hgO:¬O g:=fun e=>by have:=hO _ e;omega
     refine ht.cell_ hgO ?_;have hk:=(ZZb.1 hf).1;rw[cell_of_row w g k cur _ (0,0) hg,<-hf,<-htake,List.getElem?_take,if_pos (by omega)];simp
 · have hk:=(ZZb.1 hf).1;obtain⟨s,hs⟩:∃s,ss[k]?=some s:=⟨_,ZZc (by rw[h.len];exact hk)⟩
   have hsok:=hok k s hs;rw[Zn6 hs];obtain⟨g,K,a,bb,hfv,z0,z1,z2,_,hB,hkind⟩:=h.each k f s hf hs;have hgO:¬O g/\¬O (g+1)/\¬O (g+2):=⟨fun e=>by have:=hO _ e;omega,fun e=>by have:=hO _ e;omega,fun e=>by have:=hO _ e;omega⟩
   have hnotO:∀{O1:Nat->Prop},(∀j,O1 j->O j∨w.heap.size<=j)->∀j,j<w.heap.size->¬O j->¬O1 j:=fun hO1 j hj hn e=>by
    rcases hO1 j e with q|q
    · exact hn q
    · omega
   have l0:=World.block_lt_of_cell? _ _ z0;have l1:=World.block_lt_of_cell? _ _ z1;have l2:=World.block_lt_of_cell? _ _ z2;cases s with
   | lay pg l=>
    obtain⟨rfl,rfl,hpg,A2,n2,c2,rfl,hnc,hnm,hbin⟩:=hkind;refine⟨_,_,_,_,.inl rfl,hfv,fun W hJ=>?_⟩;obtain⟨O1,hp1,ht1,hO1⟩:=hJ;have ht:=Did.tab hOt hS.tab ht1;have hd:=hbin.grow (w':=W) (G':=fun k=>k<w0.heap.size) ht1.size (fun j hj hn=>ht1.block j hj (fun e=>hn (.inr (hO _ e)))) (fun j hj hn e=>hn (.inr e));have hno:=hnotO hO1;have hl:=(hL.get hp1.all)
    refine(Zo0 api hp1 hpg (ht1.cell_ hgO.1 z0) (ht1.cell_ hcN x3) (ht1.cell_ hstN x4) (ht1.cell_ hgO.2.1 z1) (ht1.cell_ hgO.2.2 z2) (fun j hj=>?_) hd.1 (ZZe _) hnm).mono ?_
    · rcases hj with e|e|e|e|e
      · rw[e];exact hno _ l0 hgO.1
      · rw[e];exact hno _ hcl hcN
      · rw[e];exact hno _ hS.lt hstN
      · rw[e];exact hno _ l1 hgO.2.1
      · rw[e];exact hno _ l2 hgO.2.2
    · rintro e W'⟨rfl,O2,p2,t2,n2⟩;exact⟨by rw[show Za4 S pg l=0 from hsok],Did.next ht1 hO1 p2 t2 n2⟩
   | pt slot pg=>
    obtain⟨rfl,rfl,rfl,hpg⟩:=hkind;refine⟨_,_,_,_,.inr (.inl rfl),hfv,fun W hJ=>?_⟩;obtain⟨O1,hp1,ht1,hO1⟩:=hJ;have ht:=Did.tab hOt hS.tab ht1;have hno:=hnotO hO1;have hl:=(hL.get hp1.all)
    have hriW:RI W W.heap.size A' M'.l.length M'.l:=by
     refine⟨hri.1,hri.2.1,fun hn=>?_⟩;obtain⟨b1,off,e,hb1,hc⟩:=hri.2.2 hn
     have hbO:¬O b1:=fun e2=>by
      have h1:=hO _ e2;have h2:=(ZaM h.will b1 (by rw[hv',e];rfl)).1;omega
     exact⟨b1,off,e,ZZd hb1 ht1.size,fun j hj=>ht1.cell_ hbO (hc j hj)⟩
    refine(ZmA api hp1 ht hl hpg (ht1.cell_ hgO.1 z0) (ht1.cell_ hgO.2.1 z1) (ht1.cell_ hgO.2.2 z2) (ht1.cell_ hcN x3) (ht1.cell_ hstN x4) (ht1.cell_ hcN y0) (ht1.cell_ hcN y1) (ht1.cell_ hcN y2) (ht1.cell_ hcN y3) (ht1.cell_ hcN y4) ⟨hno _ l0 hgO.1,hno _ l1 hgO.2.1,hno _ l2 hgO.2.2,hno _ hcl hcN,hno _ hS.lt hstN⟩ hriW (ZZe _) hc' (by have:=h.few;unfold maxLen;omega)).mono ?_;rintro e W'⟨rfl,O2,p2,t2,n2⟩;exact⟨by rw[show(Zaq S (runS S M' L (ss.take k)) M'.d M'.l.length M'.l slot pg).1=0 from hsok],Did.next ht1 hO1 p2 t2 n2⟩
   | fr pg nx=>
    obtain⟨rfl,rfl,rfl,hpg,hnx⟩:=hkind;refine⟨_,_,_,_,.inr (.inr rfl),hfv,fun W hJ=>?_⟩;obtain⟨O1,hp1,ht1,hO1⟩:=hJ;have ht:=Did.tab hOt hS.tab ht1;have hno:=hnotO hO1;have hl:=(hL.get hp1.all)
    refine(Zn5 api hp1 ht hl hpg hnx (ht1.cell_ hgO.1 z0) (ht1.cell_ hgO.2.1 z1) (ht1.cell_ hgO.2.2 z2) (ht1.cell_ hcN x3) (ht1.cell_ hstN x4) ⟨hno _ l0 hgO.1,hno _ l1 hgO.2.1,hno _ l2 hgO.2.2,hno _ hcl hcN,hno _ hS.lt hstN⟩).mono ?_;rintro e W'⟨rfl,O2,p2,t2,n2⟩;exact⟨by rw[show(Zaq S (runS S M' L (ss.take k)) 0 1 [pg] 0 nx).1=0 from hsok],Did.next ht1 hO1 p2 t2 n2⟩
end
end Go.Proofs.YtlmkdmdbpopnhaaGreatDoor
