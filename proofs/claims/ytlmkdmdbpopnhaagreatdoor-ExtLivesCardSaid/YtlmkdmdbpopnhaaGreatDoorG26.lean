/- ExtL, ExtM. Conditions: in each theorem. -/
import Derived.Test.YtlmkdmdbpopnhaaGreatDoorG21
import Derived.Test.YtlmkdmdbpopnhaaGreatDoorG24
import Derived.Test.YtlmkdmdbpopnhaaGreatDoorG25
import Derived.Test.YtlmkdmdbpopnhaaGreatDoorG9
import Derived.Test.YtlmkdmdbpopnhaaGreatDoorG5
import Derived.Maps.AppendAt
import Derived.Lib.Slices
set_option maxHeartbeats 3200000
set_option maxRecDepth 100000
set_option linter.unusedVariables false
open Go.Proofs.Tryz
open Go.Lib (hid)
namespace Go.Proofs.YtlmkdmdbpopnhaaGreatDoor
open Go.RowKit
theorem Zi6{w:World}{b:Nat}{T:TypeId}{a0 a1 a2 a3 a4:Value}(h:w.heap[b]?=some (.cells #[a0,a1,a2,a3,a4] T (0,0)))(x0 x1 x2 x3 x4:Value):(((((w.setCell ⟨b,0,none⟩ x0).setCell ⟨b,1,none⟩ x1).setCell ⟨b,2,none⟩ x2).setCell ⟨b,3,none⟩ x3).setCell ⟨b,4,none⟩ x4).heap[b]?=some (.cells #[x0,x1,x2,x3,x4] T (0,0)):=by
 have h0:=heap_setCell_same _ b 0 _ _ x0 h;have h1:=heap_setCell_same _ b 1 _ _ x1 h0;have h2:=heap_setCell_same _ b 2 _ _ x2 h1;have h3:=heap_setCell_same _ b 3 _ _ x3 h2;have h4:=heap_setCell_same _ b 4 _ _ x4 h3;simpa using h4
theorem Zcd{w:World}{b:Nat}{T:TypeId}{a0 a1 a2 a3 a4:Value}(h:w.heap[b]?=some (.cells #[a0,a1,a2,a3,a4] T (0,0))):w.cell? ⟨b,0,none⟩=some a0/\w.cell? ⟨b,1,none⟩=some a1/\w.cell? ⟨b,2,none⟩=some a2/\w.cell? ⟨b,3,none⟩=some a3/\w.cell? ⟨b,4,none⟩=some a4/\(∀i,w.frozen? ⟨b,i,none⟩=false)/\b<w.heap.size:=by
 refine⟨?_,?_,?_,?_,?_,fun i=>by simp[World.frozen?,h],(ZZa.1 h).1⟩ <;> (rw[cell_of_row w b _ _ _ (0,0) h];rfl)
section
variable{D:World->(Nat->Prop)->Addr->DS->Prop}{w w':World}{F O:Nat->Prop}{p:Addr}{S:DS}{q r b st:Nat}{seq:Int}{L:List (Int×List Int)}
theorem Zc2(h:ZoZ w st r):Calls prog 99 #[.pointer (some ⟨st,0,none⟩)] w fun e w'=>e=.returned (.bool true)/\w=w':=by
 have z:=h.cell;clear h;go_enter func99,ntmps99;go_wp2;go_ret;exact⟨rfl,rfl⟩
def ZbM(S:DS)(L:List (Int×List Int))(M:MV):Prop:=(Zn S L 0).2=0/\Zbo (Zn S L 0).1=(M,0)/\M.l.length<=1000
theorem Zb0(api:Zb D)(h:SAt D w F O p S q seq r b st L){M:MV}(hM:ZbM S L M) :
 Calls prog 50 #[.pointer (some ⟨st,0,none⟩)] w fun e w'=>∃A k c,e=.returned (.tuple #[.agg #[.int .i64 M.d,.int .i64 M.f,.int .i64 M.n,.int .i64 M.c,.slice A k c],.int .i64 0])/\k<=c/\k<=1000/\RI w' w'.heap.size A k M.l/\(∀a,A=some a->w.heap.size<=a.block)/\Below w.heap.size w w':=by
 obtain⟨hg,hp,hl⟩:=hM;have hX:Below w.heap.size w (w.alloc (.cells #[.int .i64 0,.int .i64 0,.int .i64 0,.int .i64 0,.slice none 0 0] 41)):=(Below.refl _ _).alloc (ZZe _) _;have hz:(w.alloc (.cells #[.int .i64 0,.int .i64 0,.int .i64 0,.int .i64 0,.slice none 0 0] 41)).heap[w.heap.size]?=some (.cells #[.int .i64 0,.int .i64 0,.int .i64 0,.int .i64 0,.slice none 0 0] 41 (0,0)):=heap_alloc_new _ _;have hX1:=h.below api hX;have HM:=hid (Zc2 hX1.sto);have HG:=hid (Zer api hX1.pg hX1.tab 0 (by omega));have hst:=hX1.sto.cell;have hln:=h.len 0 hg;rw[hg]at HG;have HP:=hid hp;generalize (Zn S L 0).1=data at HG HP hln;have HX:=hid (ZZg hX hz);clear h hX hz hX1 hg hp;go_enter func50,ntmps50;go_wp2_with fail;refine HM.out.mono ?_;rintro e w1⟨rfl,hw1⟩;subst hw1;go_wp2_with fail;refine HG.out.mono ?_;rintro e w2⟨A,n,c,rfl,hc,hr,hb2⟩;have hn:n<=maxLen:=by rw[<-hr.len,hln];decide
 have HB:=hid (ZZg (HX.out.1.trans (hb2.mono HX.out.1.size)) ((hb2.block w.heap.size (by simp)).trans HX.out.2));have HPC:=hid (ZnY hr hc (ZZe _) hn);rw[HP.out]at HPC;clear hr hb2 hn hln HX HG HM hst;go_wp2_with fail;refine HPC.out.mono ?_;rintro e w3⟨A3,k3,c3,rfl,hc3,hr3,hnew3,hb3⟩;have h1:w.heap.size<w2.heap.size:=(ZZa.1 HB.out.2).1;have hk3:=(hb3.block _ h1).trans HB.out.2;have hkl:k3<=1000:=by rw[<-hr3.len];exact hl
 obtain⟨z0,z1,z2,z3,z4,fz,_⟩:=Zcd hk3;have f0:=fz 0;have f1:=fz 1;have f2:=fz 2;have f3:=fz 3;have f4:=fz 4;have hb03:=HB.out.1.trans (hb3.mono HB.out.1.size)
 have HFIN:=hid (show(((((w3.setCell ⟨w.heap.size,0,none⟩ (.int .i64 M.d)).setCell ⟨w.heap.size,1,none⟩ (.int .i64 M.f)).setCell ⟨w.heap.size,2,none⟩ (.int .i64 M.n)).setCell ⟨w.heap.size,3,none⟩ (.int .i64 M.c)).setCell ⟨w.heap.size,4,none⟩ (.slice A3 k3 c3)).heap[w.heap.size]?=some (.cells #[.int .i64 M.d,.int .i64 M.f,.int .i64 M.n,.int .i64 M.c,.slice A3 k3 c3] 41 (0,0))/\RI (((((w3.setCell ⟨w.heap.size,0,none⟩ (.int .i64 M.d)).setCell ⟨w.heap.size,1,none⟩ (.int .i64 M.f)).setCell ⟨w.heap.size,2,none⟩ (.int .i64 M.n)).setCell ⟨w.heap.size,3,none⟩ (.int .i64 M.c)).setCell ⟨w.heap.size,4,none⟩ (.slice A3 k3 c3)) (((((w3.setCell ⟨w.heap.size,0,none⟩ (.int .i64 M.d)).setCell ⟨w.heap.size,1,none⟩ (.int .i64 M.f)).setCell ⟨w.heap.size,2,none⟩ (.int .i64 M.n)).setCell ⟨w.heap.size,3,none⟩ (.int .i64 M.c)).setCell ⟨w.heap.size,4,none⟩ (.slice A3 k3 c3)).heap.size A3 k3 M.l/\(∀a,A3=some a->w.heap.size<=a.block)/\Below w.heap.size w (((((w3.setCell ⟨w.heap.size,0,none⟩ (.int .i64 M.d)).setCell ⟨w.heap.size,1,none⟩ (.int .i64 M.f)).setCell ⟨w.heap.size,2,none⟩ (.int .i64 M.n)).setCell ⟨w.heap.size,3,none⟩ (.int .i64 M.c)).setCell ⟨w.heap.size,4,none⟩ (.slice A3 k3 c3))from by
  refine⟨Zi6 hk3 _ _ _ _ _,?_,fun a ha=>ZZf (Nat.le_of_lt h1) (hnew3 a ha),((((hb03.setCell (p:=⟨w.heap.size,0,none⟩) (ZZe _) _).setCell (p:=⟨w.heap.size,1,none⟩) (ZZe _) _).setCell (p:=⟨w.heap.size,2,none⟩) (ZZe _) _).setCell (p:=⟨w.heap.size,3,none⟩) (ZZe _) _).setCell (p:=⟨w.heap.size,4,none⟩) (ZZe _) _⟩;refine⟨hr3.1,hr3.2.1,fun hn=>?_⟩;obtain⟨b,off,e,hb,hcell⟩:=hr3.2.2 hn;have hbn:b≠w.heap.size:=fun e2=>by have:=hnew3 _ e;have:w2.heap.size<=b:=this;omega
  refine⟨b,off,e,by simp[World.setCell];exact hb,fun j hj=>?_⟩;refine Eq.trans ?_ (hcell j hj);refine World.cell?_of_block (a:=⟨b,off+j,none⟩) ?_
  exact(Below.heap_setCell _ ⟨w.heap.size,4,none⟩ _ b hbn).trans ((Below.heap_setCell _ ⟨w.heap.size,3,none⟩ _ b hbn).trans ((Below.heap_setCell _ ⟨w.heap.size,2,none⟩ _ b hbn).trans ((Below.heap_setCell _ ⟨w.heap.size,1,none⟩ _ b hbn).trans (Below.heap_setCell _ ⟨w.heap.size,0,none⟩ _ b hbn)))))
 clear fz hk3 hb03 hr3 hnew3 hb3 HB HPC h1 hl;go_wp2;generalize (((((w3.setCell ⟨w.heap.size,0,none⟩ (.int .i64 M.d)).setCell ⟨w.heap.size,1,none⟩ (.int .i64 M.f)).setCell ⟨w.heap.size,2,none⟩ (.int .i64 M.n)).setCell ⟨w.heap.size,3,none⟩ (.int .i64 M.c)).setCell ⟨w.heap.size,4,none⟩ (.slice A3 k3 c3))=V at *;obtain⟨d0,d1,d2,d3,d4,_⟩:=Zcd HFIN.out.1
 refine bodyPost_ret (v:=.tuple #[.agg #[.int .i64 M.d,.int .i64 M.f,.int .i64 M.n,.int .i64 M.c,.slice A3 k3 c3],.int .i64 0]) (by
  simp[results,Tryz.results50,go_sem,d0,d1,d2,d3,d4]) rfl ?_
 exact⟨_,_,_,rfl,hc3,hkl,HFIN.out.2.1,HFIN.out.2.2.1,HFIN.out.2.2.2⟩
theorem ZaX(api:Zb D)(h:SAt D w F O p S q seq r b st L)(d f n c:Int){A0 KA:Option Addr}{k cap B Kn Kc BK:Nat}{l key:List Int}(pg:Int){ls:List Zw}(hr:RI w B A0 k l)(hB:B<=w.heap.size)(hk:k<=cap)(hkm:k<=maxLen)(hkey:RB w BK KA Kn key)(hBK:BK<=w.heap.size)(hKn:Kn<=maxLen)(hd:Zaz S L d k l ((slotN (hashL key) (ZJ d):Nat):Int)=(pg,0))(hc:ZeY S L d pg ls)(hm:(ls.length:Int)<=pagesOf S.n)(hm2:pagesOf S.n<=4294967296) :
 Calls prog 101 #[.pointer (some ⟨st,0,none⟩),.agg #[.int .i64 d,.int .i64 f,.int .i64 n,.int .i64 c,.slice A0 k cap],.slice KA Kn Kc] w fun e w'=>∃A' c',e=.returned (.tuple #[.slice A' ls.length c',.int .i64 0])/\ZL w w' (.slice A' ls.length c') ls/\Below w.heap.size w w':=by
 have hX:Below w.heap.size w (w.alloc (.cells #[.int .i64 d,.int .i64 f,.int .i64 n,.int .i64 c,.slice A0 k cap] 41)).drew:=((Below.refl _ _).alloc (ZZe _) _).drew;have hS:=h.below api hX;have HOF:=hid (ZnZ KA Kn Kc BK key (w.alloc (.cells #[.int .i64 d,.int .i64 f,.int .i64 n,.int .i64 c,.slice A0 k cap] 41)).drew ((hkey.below (hX.mono hBK))) hKn);have HSL:=hid (ZeB (hashL key) d (ZeA key) (w.alloc (.cells #[.int .i64 d,.int .i64 f,.int .i64 n,.int .i64 c,.slice A0 k cap] 41)).drew);have HPG:=hid (ZdO api hS.pg);have HCH:=hid (Zgf api hS d f n c (cap:=cap) ((slotN (hashL key) (ZJ d):Nat):Int) (pagesOf S.n) pg (hr.below (hX.mono hB)) (ZZf hB hX.size) hk hkm hd hc hm hm2);have hst:=(h.below api ((Below.refl w.heap.size w).alloc (ZZe _) (.cells #[.int .i64 d,.int .i64 f,.int .i64 n,.int .i64 c,.slice A0 k cap] 41))).sto.cell;obtain⟨z0,z1,z2,z3,z4,_⟩:=(ZiX.new w d f n c (.slice A0 k cap)).cells;have HX:=hid hX
 have HKK:=hid (fun w2 (hb2:Below (w.alloc (.cells #[.int .i64 d,.int .i64 f,.int .i64 n,.int .i64 c,.slice A0 k cap] 41)).drew.heap.size (w.alloc (.cells #[.int .i64 d,.int .i64 f,.int .i64 n,.int .i64 c,.slice A0 k cap] 41)).drew w2)=>show w2.cell? ⟨st,0,none⟩=some (.pointer (some ⟨r,0,none⟩))/\w2.cell? ⟨w.heap.size,0,none⟩=some (.int .i64 d)/\w2.cell? ⟨w.heap.size,1,none⟩=some (.int .i64 f)/\w2.cell? ⟨w.heap.size,2,none⟩=some (.int .i64 n)/\w2.cell? ⟨w.heap.size,3,none⟩=some (.int .i64 c)/\w2.cell? ⟨w.heap.size,4,none⟩=some (.slice A0 k cap)from
  ⟨(hb2.cell (p:=⟨st,0,none⟩) (ZZd h.lt hX.size)).trans hst,(hb2.cell (p:=⟨w.heap.size,0,none⟩) (by simp)).trans z0,(hb2.cell (p:=⟨w.heap.size,1,none⟩) (by simp)).trans z1,(hb2.cell (p:=⟨w.heap.size,2,none⟩) (by simp)).trans z2,(hb2.cell (p:=⟨w.heap.size,3,none⟩) (by simp)).trans z3,(hb2.cell (p:=⟨w.heap.size,4,none⟩) (by simp)).trans z4⟩)
 generalize slotN (hashL key) (ZJ d)=slot at HSL HCH;generalize hashL key=hh at HOF HSL;generalize pagesOf S.n=pgs at HPG HCH;clear h hr hkey hd hc hm hm2 hX hS;go_enter func101,ntmps101;go_wp2_with fail
 go_region_held3 (fun W=>W.cell? ⟨st,0,none⟩=some (.pointer (some ⟨r,0,none⟩))/\W.cell? ⟨w.heap.size,0,none⟩=some (.int .i64 d)/\W.cell? ⟨w.heap.size,1,none⟩=some (.int .i64 f)/\W.cell? ⟨w.heap.size,2,none⟩=some (.int .i64 n)/\W.cell? ⟨w.heap.size,3,none⟩=some (.int .i64 c)/\W.cell? ⟨w.heap.size,4,none⟩=some (.slice A0 k cap))
  (first|with_reducible exact y1|exact⟨hst,z0,z1,z2,z3,z4⟩)
  (first
   | (go_at_call 165;refine HOF.out.mono ?_;rintro e w2 ⟨e1,e2⟩;subst e1;subst e2)
   | (go_at_call 164;refine HSL.out.mono ?_;rintro e w2 ⟨e1,e2⟩;subst e1;subst e2)
   | (go_at_call 51;refine HPG.out.mono ?_;rintro e w2 ⟨e1,e2⟩;subst e1;subst e2)
   | (go_at_call 52;refine HCH.out.mono ?_;rintro e w2 ⟨A2,c2,rfl,h2,hb2⟩;have y1:=HKK.out w2 hb2))
 all_goals
  have HE:=hid (ZZg (h2.base (w0:=w) HX.out.size) (HX.out.trans (hb2.mono HX.out.size)));clear h2 hb2 y1;go_wp2;go_ret2;exact⟨_,_,rfl,HE.out.1,HE.out.2⟩
def ZrG(w w':World)(e:Ending)(ls:List Zw)(key:List Int):Prop:=
 ((∀(m:Nat) (l:Zw),ls[m]?=some l->findI l.ps key<0)/\e=.returned (.tuple #[.slice none 0 0,.bool false,.int .i64 0])/\Below w.heap.size w w')∨
 (∃(m i:Nat) (l:Zw) (x:KV) (A:Option Addr) (n c:Nat),ls[m]?=some l/\l.ps[i]?=some x/\findI l.ps key=(i:Int)/\e=.returned (.tuple #[.slice A n c,.bool true,.int .i64 0])/\n<=c/\n<=maxLen/\RB w' w'.heap.size A n x.2/\(∀a,A=some a->0<n->w.heap.size<=a.block)/\Below w.heap.size w w')
theorem Zhh(api:Zb D)(h:SAt D w F O p S q seq r b st L){M:MV}(hM:ZbM S L M){KA:Option Addr}{Kn Kc BK:Nat}{key:List Int}(pg:Int){ls:List Zw}(hkey:RB w BK KA Kn key)(hBK:BK<=w.heap.size)(hKn:Kn<=maxLen)(hd:Zaz S L M.d M.l.length M.l ((slotN (hashL key) (ZJ M.d):Nat):Int)=(pg,0))(hc:ZeY S L M.d pg ls)(hm:(ls.length:Int)<=pagesOf S.n)(hm2:pagesOf S.n<=4294967296) :
 Calls prog 41 #[.pointer (some ⟨st,0,none⟩),.slice KA Kn Kc] w fun e w'=>ZrG w w' e ls key:=by
 have HH:=hid (Zb0 api h hM);have HS:=hid (fun w1 (hb:Below w.heap.size w w1)=>h.below api hb);have HK:=hid (fun w1 (hb:Below w.heap.size w w1)=>(hkey.below (hb.mono hBK)).more (ZZf hBK hb.size));have HLE:=hid (show ls.length<=4294967296 by omega);clear h;go_enter func41,ntmps41;go_wp2_with fail;refine HH.out.mono ?_;rintro e w1⟨A1,k1,c1,rfl,hc1,hk1,hr1,_,hb1⟩;have hX:Below w1.heap.size w1 (w1.alloc (.cells #[.int .i64 M.d,.int .i64 M.f,.int .i64 M.n,.int .i64 M.c,.slice A1 k1 c1] 41)):=(Below.refl _ _).alloc (ZZe _) _;have hbX:=hb1.trans (hX.mono hb1.size);have hkl:k1=M.l.length:=hr1.len.symm;have HCO:=hid (ZaX (Kc:=Kc) api (HS.out _ hbX) M.d M.f M.n M.c (cap:=c1) pg ((hr1.below hX).more hX.size) (ZZe _) hc1 (by unfold maxLen;omega) (HK.out _ hbX) (ZZe _) hKn (by rw[hkl];exact hd) hc hm hm2);have HB:=hid hbX;have HSZ:=hid hbX.size;clear hr1 hb1 hX hbX hkl HH hc hd hm;go_wp2_with fail;refine HCO.out.mono ?_;rintro e w2⟨A2,c2,rfl,hch,hb2⟩;have hb02:=HB.out.trans (hb2.mono HB.out.size);have HF:=hid (ZaW (Kc:=Kc) hch (HK.out w2 hb02) (ZZe _) HLE.out);have HB2:=hid (ZZg hb02 hch);clear hb2 hch hb02 HCO HB;go_wp2_with fail;refine HF.out.mono ?_;rintro e w3⟨a,i,rfl,hfr,hb3⟩;have HB3:=hid (HB2.out.1.trans (hb3.mono HB2.out.1.size));rcases hfr with ⟨rfl,rfl,hall⟩|⟨m,l,rfl,hl,hi,hi0,_⟩
 · have HALL:=hid hall;clear hall hb3;go_wp2
   go_ret3
   exact .inl ⟨HALL.out,rfl,HB3.out⟩
 · obtain⟨hn2,_,hrd⟩:=(HB2.out.2.below hb3).read;have hmlt:m<ls.length:=(ZZb.1 hl).1;obtain⟨g,hg,hgl,_,_,hcells⟩:=hrd (by omega);subst hg;obtain⟨A',n',c',q0,q1,q2,q3,q4,q5,q6⟩:=hcells m l hl;obtain⟨j,rfl⟩:=Int.eq_ofNat_of_zero_le hi0
   have hjl:j<l.ps.length:=by
    have:=Zfn l.ps key
    have hne:findI l.ps key≠l.ps.length:=fun e=>by
     unfold findI at e
     cases hq:l.ps.findIdx? (fun x=>x.1 == key)with
     | none=>rw[hq]at e;simp at e
     | some t=>rw[hq]at e;have:=(List.findIdx?_eq_some_iff_getElem.1 hq).1;simp at e;omega
    omega
   obtain⟨x,hx⟩:∃x,l.ps[j]?=some x:=⟨_,ZZc hjl⟩
   obtain⟨hpl,hpp⟩:=q6.pin;obtain⟨pb,po,hpA,hpb,_,hpc⟩:=hpp (by omega);subst hpA;obtain⟨ka,kn,kc,va,vn,vc,p0,p1,_,_,p4,p5⟩:=hpc j x hx;have HFIN:=hid (ZZg hl (ZZg hx (ZZg hi.symm (ZZg p5 (ZZg p4.1 (show ∀a,va=some a->0<vn->w.heap.size<=a.block from fun a ha h0=>ZZf HSZ.out (Nat.le_of_not_lt (fun hq=>p4.2 a ha h0 (.inl hq)))))))));have hjn:j<n':=by omega
   have k0:¬(j:Int)<0:=by omega
   clear hi hl hx hb3 hrd hcells q6 hpl hpp hpc p4 p5 hn2 hjl;go_wp2
   go_ret3
   exact .inr ⟨m,j,l,x,va,vn,vc,HFIN.out.1,HFIN.out.2.1,HFIN.out.2.2.1,rfl,HFIN.out.2.2.2.1.1,HFIN.out.2.2.2.1.2,HFIN.out.2.2.2.2.1,HFIN.out.2.2.2.2.2,HB3.out⟩
end
theorem Zmw{w:World}{B n:Nat}{A:Option Addr}{l:List Int}(c:Nat)(h:RI w B A n l)(hB:B<=w.heap.size)(hn:n<=8796093022208) :
 Calls prog 149 #[.slice A n c] w fun e w'=>∃A' c',e=.returned (.slice A' n c')/\n<=c'/\w'.ownsRow w.heap.size 3 1 (.slice A' n c') n (l.map (Value.int .i64))/\Below w.heap.size w w':=by
 have q22:∀(w:World) (a:Option Addr) (n c n' c':Nat),(binOp .eql 39 (.slice a n c) (.slice none n' c')).run prog w=.ok (.bool a.isNone) w:=fun w a n c n' c'=>Lib.run_eql_slice_nil w _ _ a n c n' c' underlying39
 obtain⟨i0,hi,hz0,hz1,hz2⟩:=info_parts ZfW;have hl:=h.len;rcases A with _|ad
 · have h0:n=0:=by
    rcases Nat.eq_zero_or_pos n with h0|h0
    · exact h0
    · obtain⟨b,off,e,_⟩:=h.2.2 h0;cases e
   subst h0;have hl0:l = []:=List.eq_nil_of_length_eq_zero hl;subst hl0;clear h hl;go_enter func149,ntmps149;go_wp2;go_ret;exact⟨none,0,rfl,ZZe _,World.ownsRow_nil _ _ _ _,Below.refl _ _⟩
 · have hX:Below w.heap.size w (w.alloc (.cells #[] 3)):=(Below.refl _ _).alloc (ZZe _) _;have hown:(w.alloc (.cells #[] 3)).ownsRow w.heap.size 3 1 (.slice (some ⟨w.heap.size,0,none⟩) 0 0) 0 []:=⟨rfl,.inr ⟨w.heap.size,0,_,rfl,ZZe _,heap_alloc_new _ _,ZZe _,Nat.zero_le _,rfl,rfl⟩⟩
   obtain⟨v',w',hrun,h1,h2,_,h3⟩:=run_append_own_at (P:=prog) (w.alloc (.cells #[] 3)) w.heap.size 39 39 3 i0 (.int .i64 0) 1 8 underlying39 hi hz0 hz1 hz2 rfl (by decide) _ 0 [] hown ad n c (l.map (Value.int .i64)) (by simp[hl]) (fun j u hj=>by
    have hjn:j<n:=by rw[<-hl];simpa using (ZZb.1 hj).1
    obtain⟨b,off,e,hb,hc⟩:=h.2.2 (by omega);cases e;rw[ZdL];refine((hX.cell (p:=⟨b,off+j,none⟩) (ZZd hb hB)).trans (hc j hjn)).trans ?_;rw[<-hj,List.getElem?_map,ZZc (by omega)]
    rfl) (fun u hu=>by obtain⟨x,_,rfl⟩:=List.mem_map.1 hu;rfl) (by unfold maxLen;omega) (by omega) hX.size
   simp only[Nat.zero_add,List.nil_append]at h1;obtain⟨A',c',rfl,hc'⟩:=Zat h1;have HRUN:=hid hrun;have HE:=hid (ZZg h1 ((hX.trans ((Below.refl w.heap.size _).grown h2 hX.size (Zm5 hown)))));clear h hl hX hown hrun h1 h2 h3;go_enter func149,ntmps149
   go_wp2_with (at_builtin;refine Lib.wpList_append_run _ rfl _ _ _ _ rfl _ _ rfl rfl _ _ HRUN.out ?_)
   go_ret;exact⟨A',c',rfl,hc',HE.out.1,HE.out.2⟩
def Zg0(K:Nat)(a1 a2 a3:Addr):Value:=.func (.func K) #[] #[.pointer (some a1),.pointer (some a2),.pointer (some a3)]
def Zpl(f:Value)(P Q:World->Prop):Prop:=∃K a1 a2 a3,(K=204∨K=155∨K=219)/\f=Zg0 K a1 a2 a3/\∀w,P w->Calls prog K #[.pointer (some a1),.pointer (some a2),.pointer (some a3)] w fun e w'=>e=.returned (.int .i64 0)/\Q w'
theorem Zmx{w:World}{A:Option Addr}{n c:Nat}(fs:List Value)(J:Nat->World->Prop)(hn:n<=4294967296)(hl:fs.length=n)(h0:J 0 w)(hrow:0<n->∃g,A=some ⟨g,0,none⟩/\∀(k:Nat) (f:Value) w,J k w->fs[k]?=some f->w.cell? ⟨g,k,none⟩=some f)(hstep:∀(k:Nat) (f:Value),fs[k]?=some f->Zpl f (J k) (J (k+1))) :
 Calls prog 92 #[.slice A n c] w fun e w'=>e=.returned (.int .i64 0)/\J n w':=by
 have HR:=hid hrow;have HS:=hid hstep;have HL:=hid hl;clear hrow hstep hl;go_enter func92,ntmps92;go_wp2_with fail
 go_loopw[8] (fun i wr=>∃k:Nat,k<=n/\i=.int .i64 k/\Hid (J k wr)) (fun i _=>n-(intOf i).toNat)
 case atStart=>exact⟨0,Nat.zero_le _,rfl,hid h0⟩
 case round=>
  obtain⟨k,hk,rfl,hJ⟩:=hrel;by_cases hlt:k<n
  · obtain⟨g,rfl,hcell⟩:=HR.out (by omega);obtain⟨f,hf⟩:∃f,fs[k]?=some f:=⟨_,ZZc (by have:=HL.out;omega)⟩
    have hc:=hcell k f wr hJ.out hf;obtain⟨K,a1,a2,a3,hK,rfl,hdo⟩:=HS.out k f hf;have HD:=hid (hdo wr hJ.out);unfold Zg0 at hc;clear hcell hf hdo;rcases hK with rfl|rfl|rfl
    all_goals
     go_wp2_with fail;refine HD.out.mono ?_;rintro e w1⟨rfl,hj1⟩;have HJ1:=hid hj1;clear hj1;go_wp2;go_roundw
     case rel=>exact⟨k+1,by omega,by go_num,HJ1⟩
     case measure=>simp[intOf];omega
  · obtain rfl:k=n:=by omega
    go_wp2;go_ret;exact⟨rfl,hJ.out⟩
end Go.Proofs.YtlmkdmdbpopnhaaGreatDoor
