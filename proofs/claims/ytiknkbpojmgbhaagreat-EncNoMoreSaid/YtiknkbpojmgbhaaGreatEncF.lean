/- EncA, EncB, EncC, EncD, EncE, EncF. Conditions: in each theorem. -/
import Derived.Test.YtiknkbpojmgbhaaGreatPreO
import Derived.Test.YtiknkbpojmgbhaaGreatPreD
import Derived.Test.YtiknkbpojmgbhaaGreatPreG
import Derived.Test.YtiknkbpojmgbhaaGreatDocE
set_option maxHeartbeats 12800000
set_option maxRecDepth 100000
set_option linter.unusedVariables false
open Go.Proofs.Tryz
open Go.Lib (hid)
namespace Go.Proofs.YtiknkbpojmgbhaaGreat
open Go.RowKit Go.Maps
def ZbI(w:World)(g n cap:Nat)(st:List Dl):Prop:=∃cur:Array Value,w.heap[g]?=some (.cells cur 50 (0,0))/\n<=cap/\cap<=maxLen/\cur.size=cap*4/\cur.toList.take (n*4)=DlE.all st/\st.length=n
section
variable{w w':World}{g n cap:Nat}{st:List Dl}
theorem ZbI.lt(h:ZbI w g n cap st):g<w.heap.size:=by
 obtain⟨cur,h1,_⟩:=h;exact(Array.getElem?_eq_some_iff.1 h1).1
theorem ZbI.keep(h:ZbI w g n cap st)(e:w'.heap[g]?=w.heap[g]?):ZbI w' g n cap st:=by
 obtain⟨cur,h1,h2⟩:=h;exact⟨cur,e.trans h1,h2⟩
theorem ZbI.frozen(h:ZbI w g n cap st)(k:Nat):w.frozen? ⟨g,k,none⟩=false:=by
 obtain⟨cur,h1,h2⟩:=h;simp[World.frozen?,h1]
theorem ZbI.of_own{base:Nat}{A:Option Addr}(h:DlE.Own 50 w base (.slice A n cap) st)(hn:0<n):∃g,A=some ⟨g,0,none⟩/\base<=g/\ZbI w g n cap st:=by
 rcases h.2 with ⟨e,_⟩|⟨g',cap',cur,e,hb,hg,hc,hm,hs,ht⟩
 · cases e;omega
 · cases e;exact⟨g',rfl,hb,cur,hg,hc,hm,hs,ht,rfl⟩
theorem ZlH{i:Nat}{x:Int}:∀{st:List Dl} {z:Dl},st[i]?=some z->DlE.all (st.set i ⟨z.nd,z.o,x,z.c⟩)=(DlE.all st).set (i*4+2) (.int .i64 x):=by
 induction i with
 | zero=>
  intro st z h;cases st with
  | nil=>cases h
  | cons y r=>cases h;rfl
 | succ i ih=>
  intro st z h;cases st with
  | nil=>cases h
  | cons y r=>
   have h':r[i]?=some z:=by simpa using h
   show dlV y++DlE.all (r.set i _)=(dlV y++DlE.all r).set ((i+1)*4+2) _;rw[ih h',List.set_append_right _ _ (by show 4<=_;omega)]
   congr 2
   show i*4+2=(i+1)*4+2-4;omega
theorem ZbI.set(h:ZbI w g n cap st){i:Nat}{z:Dl}(hz:st[i]?=some z)(x:Int):ZbI (w.setCell ⟨g,i*4+2,none⟩ (.int .i64 x)) g n cap (st.set i ⟨z.nd,z.o,x,z.c⟩):=by
 obtain⟨cur,h1,h2,h3,h4,h5,h6⟩:=h;have hi:=(List.getElem?_eq_some_iff.1 hz).1;refine⟨_,heap_setCell_same w g (i*4+2) _ _ _ h1,h2,h3,by simpa using h4,?_,by simpa using h6⟩;rw[ZlH hz,<-h5];simp only[Array.toList_setIfInBounds];rw[List.take_set]
theorem ZbI.cell(h:ZbI w g n cap st){i:Nat}{z:Dl}(hz:st[i]?=some z):DlE.At w g (i*4) z:=by
 obtain⟨cur,h1,h2,h3,h4,h5,h6⟩:=h;have hi:=(List.getElem?_eq_some_iff.1 hz).1;intro k hk;have hk4:k<4:=hk;have e:=Enc.all_at (E:=DlE) hz k hk;rw[<-h5,List.getElem?_take_of_lt (by show i*4+k<_;omega)]at e;rw[<-e]
 have:=cell_of_row w g (i*4+k) cur 50 (0,0) h1
 rw[this];simp;rfl
theorem ZbI.cells(h:ZbI w g n cap st){i:Nat}{z:Dl}(hz:st[i]?=some z):w.cell? ⟨g,i*4,none⟩=some (.int .i64 z.nd)/\w.cell? ⟨g,i*4+1,none⟩=some (.int .i64 z.o)/\w.cell? ⟨g,i*4+2,none⟩=some (.int .i64 z.l)/\w.cell? ⟨g,i*4+3,none⟩=some (.int .i64 z.c):=by
 have h2:=h.cell hz;exact⟨h2 0 (by decide),h2 1 (by decide),h2 2 (by decide),h2 3 (by decide)⟩
theorem ZbI.R(h:ZbI w g n cap st)(hok:∀z∈st,ZaE z):DlE.R w w.heap.size (some ⟨g,0,none⟩) n st:=by
 have hl:=h.lt;refine⟨?_,hok,fun _=>⟨g,0,rfl,hl,fun j z hz=>?_⟩⟩
 · obtain⟨cur,h1,h2,h3,h4,h5,h6⟩:=h;exact h6
 · have:=h.cell hz
   rw[show(0:Nat)+j*DlE.K=j*4 by rw[Nat.zero_add];rfl];exact this
theorem Zb8(n:Int):IntKind.i64.wrap n=wrap64 n:=by rw[IntKind.wrap_i64];unfold wrap64;omega
def ZjO(w w':World)(g n cap:Nat)(R:(List Dl×List Dl)×Int)(e:Ending):Prop:=
 ∃u,e=.returned (.tuple #[u,.int .i64 R.2])/\(R.2=0->ZbI w' g n cap R.1.1/\DlE.Own 50 w' w.heap.size u R.1.2)/\(R.2≠0->u=.slice none 0 0)/\Za (fun k=>k=g) w w'
theorem ZcC{st:List Dl}{x:Ln}(h:x.n<0∨x.n≥(st.length:Int)):Zez st x=7:=by unfold Zez;rw[if_pos h]
theorem Ze2{st:List Dl}{x:Ln}{z:Dl}{k:Nat}(hk:x.n=k)(hz:st[k]?=some z):Zez st x=if openL z<x.a then 12 else 0:=by
 have hlt:=(List.getElem?_eq_some_iff.1 hz).1;unfold Zez;rw[if_neg (by omega),hk,Int.toNat_natCast,hz,Option.getD_some]
theorem ZjP{st:List Dl}{x:Ln}{z:Dl}{k:Nat}(hk:x.n=k)(hz:st[k]?=some z):Zcr st x=st.set k ⟨z.nd,z.o,wrap64 (z.l+x.a),z.c⟩:=by
 unfold Zcr ZjD;rw[hk,Int.toNat_natCast,hz,Option.getD_some]
theorem ZjQ{st:List Dl}{x:Ln}{z:Dl}{k:Nat}(hk:x.n=k)(hz:st[k]?=some z):Zox st x=⟨z.nd,x.a,0,0⟩:=by
 unfold Zox;rw[hk,Int.toNat_natCast,hz,Option.getD_some]
theorem Zm8(h:ZbI w g n cap st)(hok:∀z∈st,ZaE z)(hn:n<=6){A:Option Addr}{m c:Nat}{l:List Ln}(hl:∀W,Za (fun k=>k=g) w W->RL W W.heap.size A m l)(hm:m<=1000) :
 Calls prog 243 #[.slice (some ⟨g,0,none⟩) n cap,.slice A m c] w fun e w'=>ZjO w w' g n cap (ZE st l) e:=by
 have hst:st.length=n:=by obtain⟨cur,h1,h2,h3,h4,h5,h6⟩:=h;exact h6
 have hlen:=(hl w (Za.refl _ _)).len;have hlok:=(hl w (Za.refl _ _)).ok;have hgw:=h.lt;have HL:=hid hl;have HST:=hid (And.intro hst (And.intro hok (And.intro hlen hlok)));have H0:=hid (show ZbI w g n cap (ZE st (l.take 0)).1.1/\(ZE st (l.take 0)).2=0/\DlE.Own 50 w w.heap.size (.slice none 0 0) (ZE st (l.take 0)).1.2/\Za (fun k=>k=g) w w from⟨h,rfl,Enc.Own.start _ _ _,Za.refl _ _⟩);clear h hok hl hst hlen hlok;go_enter func243,ntmps243;go_wp2_with fail
 go_loopw[6,12] (fun uv iv wr=>∃j:Nat,j<=m/\iv=.int .i64 j/\(∃A' k',uv=.slice A' j k')/\Hid (ZbI wr g n cap (ZE st (l.take j)).1.1/\(ZE st (l.take j)).2=0/\DlE.Own 50 wr w.heap.size uv (ZE st (l.take j)).1.2/\Za (fun k=>k=g) w wr)) (fun _ iv _=>m-(intOf iv).toNat)
 case atStart=>exact⟨0,Nat.zero_le _,rfl,⟨none,0,rfl⟩,H0⟩
 case round=>
  clear H0;obtain⟨j,hj,rfl,⟨A',k',rfl⟩,HJ⟩:=hrel;by_cases hlt:j<m
  · have hlt':(j:Int)<(m:Int):=by omega
    have hj0:(0:Int)<=(j:Int):=by omega
    obtain⟨hrow,hz0,hown,ht⟩:=HJ.out;obtain⟨x,hx⟩:∃x,l[j]?=some x:=⟨_,List.getElem?_eq_getElem (by rw[HST.out.2.2.1];exact hlt)⟩
    obtain⟨b,off,rfl,hb,hat⟩:=(HL.out wr ht).2.2 (by omega);obtain⟨c0,c1,c2,c3⟩:=hat j x hx;have hxok:=HST.out.2.2.2 x (List.mem_of_getElem? hx);obtain⟨wb,hwb⟩:∃wb,wb=wr.alloc (.cells #[.int .i64 x.f,.int .i64 x.o,.int .i64 x.n,.int .i64 x.a] 34 (0,0)):=⟨_,rfl⟩
    have hbb:Below wr.heap.size wr wb:=by rw[hwb];exact(Below.refl _ _).alloc (Nat.le_refl _) _
    have hblk:wb.heap[wr.heap.size]?=some (.cells #[.int .i64 x.f,.int .i64 x.o,.int .i64 x.n,.int .i64 x.a] 34 (0,0)):=by rw[hwb];exact heap_alloc_new wr _
    have hsz:wb.heap.size=wr.heap.size+1:=by rw[hwb];simp
    have e2:wb.cell? ⟨wr.heap.size,2,none⟩=some (.int .i64 x.n):=cell_of_row wb _ 2 _ _ (0,0) hblk;have e3:wb.cell? ⟨wr.heap.size,3,none⟩=some (.int .i64 x.a):=cell_of_row wb _ 3 _ _ (0,0) hblk;have hstj:=ZcP (l.take j) st;rw[HST.out.1]at hstj;have hokj:=(Zdd (l:=l.take j) (st:=st) HST.out.2.1 fun z hz=>HST.out.2.2.2 z (List.mem_of_mem_take hz)).1;have htkl:=Za5 (l.take j) st hz0;have hTK:=Zfs hx hz0;have hBD:=fun h2=>Zhy hx hz0 h2
    have hwr:=ht.size
    have HEND:=hid (show ∀W,Below wb.heap.size wb W->∀v:Int,v≠0->(ZE st l).2=v->ZjO w W g n cap (ZE st l) (.returned (.tuple #[.slice none 0 0,.int .i64 v]))from fun W hW v hv hq=>
     ⟨_,by rw[hq],fun h=>absurd (hq.symm.trans h) hv,fun _=>rfl,ht.trans ((Za.of_below hbb).trans (Za.of_below hW))⟩)
    have hb0:=Below.refl wb.heap.size wb;have hrowb:=hrow.keep (hbb.block g hrow.lt);have hownb:=hown.below hbb;have hgr:=hrow.lt;have HT:=hid (ht.trans (Za.of_below hbb));clear hrow hown hat hb HJ ht;by_cases hneg:x.n<0
    · have k1:decide (x.n<0)=true:=decide_eq_true hneg;have hE:=ZcC (st:=(ZE st (l.take j)).1.1) (x:=x) (.inl hneg);have HE:=hid (HEND.out wb hb0 7 (by decide) ((hBD (by rw[hE];decide)).trans hE));clear hE hBD hTK hneg HEND hb0 hrowb hownb hstj hokj htkl hx;go_wp2_with fail;rw[<-hwb];go_ret2;exact HE.out
    · have k1:decide (x.n<0)=false:=decide_eq_false hneg;by_cases hge:(n:Int)<=x.n
      · have k2:decide ((n:Int)<=x.n)=true:=decide_eq_true hge;have hE:=ZcC (st:=(ZE st (l.take j)).1.1) (x:=x) (.inr (by rw[hstj];exact hge));have HE:=hid (HEND.out wb hb0 7 (by decide) ((hBD (by rw[hE];decide)).trans hE));clear hE hBD hTK hneg hge HEND hb0 hrowb hownb hstj hokj htkl hx;go_wp2_with fail;rw[<-hwb];go_ret2;exact HE.out
      · have k2:decide ((n:Int)<=x.n)=false:=decide_eq_false hge;obtain⟨k,hk⟩:∃k:Nat,x.n=k:=⟨x.n.toNat,by omega⟩
        have hkn:k<n:=by omega
        obtain⟨z,hz⟩:∃z,(ZE st (l.take j)).1.1[k]?=some z:=⟨_,List.getElem?_eq_getElem (by rw[hstj];exact hkn)⟩
        have hzok:=hokj z (List.mem_of_getElem? hz);have hEo:=Ze2 hk hz;have hNi:=ZjP hk hz;have hKi:=ZjQ hk hz;obtain⟨r0,r1,r2,r3⟩:=hrowb.cells hz;have HOP:=hid (ZoJ z wb.drew);have hd:=(Below.refl wb.heap.size wb).drew
        have KK:=hid (show ∀W,Below wb.heap.size wb W->(W.cell? ⟨g,k*4,none⟩=some (.int .i64 z.nd)/\W.cell? ⟨g,k*4+1,none⟩=some (.int .i64 z.o)/\W.cell? ⟨g,k*4+2,none⟩=some (.int .i64 z.l)/\W.cell? ⟨g,k*4+3,none⟩=some (.int .i64 z.c)/\W.cell? ⟨wr.heap.size,3,none⟩=some (.int .i64 x.a))/\W.cell? ⟨wr.heap.size,2,none⟩=some (.int .i64 x.n)from fun W hW=>by
         obtain⟨q0,q1,q2,q3⟩:=(hrowb.keep (hW.block g hrowb.lt)).cells hz;have hb:=(hW.block wr.heap.size (by omega)).trans hblk
         exact⟨⟨q0,q1,q2,q3,cell_of_row W _ 3 _ _ (0,0) hb⟩,cell_of_row W _ 2 _ _ (0,0) hb⟩)
        have c5:=(KK.out _ hd).1;have HBAD:=hid hBD;have HTK:=hid hTK;have HROW:=hid (And.intro hrowb (And.intro hownb (And.intro hz (And.intro hzok (And.intro hxok (And.intro htkl hx))))));have HEO:=hid (And.intro hEo (And.intro hNi hKi));clear hBD hTK hneg hge hb0 hrowb hownb hstj hokj htkl hx hz hzok hxok hEo hNi hKi r0 r1 r2 r3 hd e2 e3 hblk hz0;have HWB:=hid hwb;obtain⟨xf,xo,xn,xa⟩:=x;simp only at hk HWB KK c5 k1 k2 HBAD HTK HROW HEO hwb c0 c1 c2 c3;subst hk;have hk0:(0:Int)<=(k:Int):=by omega
        have hkn':(k:Int)<(n:Int):=by omega
        go_wp2_with fail;rw[<-hwb];clear hwb c0 c1 c2 c3 HWB;generalize openL z=oz at HOP HEO;obtain⟨zn,zo,zl,zc⟩:=z;simp only at HOP HROW HEO KK c5
        go_region_held3 (fun W=>W.cell? ⟨g,k*4,none⟩=some (.int .i64 zn)/\W.cell? ⟨g,k*4+1,none⟩=some (.int .i64 zo)/\W.cell? ⟨g,k*4+2,none⟩=some (.int .i64 zl)/\W.cell? ⟨g,k*4+3,none⟩=some (.int .i64 zc)/\W.cell? ⟨wr.heap.size,3,none⟩=some (.int .i64 xa))
         (first|with_reducible exact c5|exact c5)
         (first|(go_at_call 54;refine Calls.mono HOP.out ?_;rintro e w5 ⟨rfl,hb5⟩;have hb5:=((Below.refl wb.heap.size wb).drew).trans hb5;have c5:=(KK.out _ hb5).1))
        have HB5:=hid hb5;clear c5 hb5 HOP;obtain⟨Bb,hBb⟩:∃B,B=decide (oz<xa):=⟨_,rfl⟩
        rw[<-hBb];cases Bb with
        | true=>
         have hop:=of_decide_eq_true hBb.symm;clear hBb;have hE:=HEO.out.1.trans (if_pos hop);have HE:=hid (HEND.out w5 HB5.out 12 (by decide) ((HBAD.out (by rw[hE];decide)).trans hE));clear hE HBAD HTK hop HEND HEO HROW;go_wp2_with fail;go_ret2;exact HE.out
        | false=>
         have hop:=of_decide_eq_false hBb.symm;clear hBb;have hE:=HEO.out.1.trans (if_neg hop);have hTK:=HTK.out;rw[if_pos hE]at hTK;have hrow5:=HROW.out.1.keep (HB5.out.block g HROW.out.1.lt);obtain⟨⟨q0,q1,q2,q3,q4⟩,q5⟩:=KK.out w5 HB5.out;have n2:w5.drew.cell? ⟨g,k*4+2,none⟩=some (.int .i64 zl):=q2;have n3:w5.drew.cell? ⟨wr.heap.size,3,none⟩=some (.int .i64 xa):=q4;have nf:w5.drew.frozen? ⟨g,k*4+2,none⟩=false:=hrow5.frozen _;have hwz:IntKind.i64.wrap (zl+xa)=wrap64 (zl+xa):=Zb8 _;have HTKH:=hid hTK;clear hE hTK hop HEND HBAD HTK;go_wp2_with fail
         have HW6:=hid (show ∃w6,w6=(w5.setCell ⟨g,k*4+2,none⟩ (.int .i64 (wrap64 (zl+xa)))).drew/\ZbI w6 g n cap (Zcr (ZE st (l.take j)).1.1 ⟨xf,xo,k,xa⟩)/\w6.cell? ⟨g,k*4,none⟩=some (.int .i64 zn)/\w6.cell? ⟨wr.heap.size,3,none⟩=some (.int .i64 xa)/\DlE.Own 50 w6 w.heap.size (.slice A' j k') (ZE st (l.take j)).1.2/\Za (fun k=>k=g) w w6/\w.heap.size<=w6.heap.size from by
          have hset:=hrow5.set HROW.out.2.2.1 (wrap64 (zl+xa));have hd6:=(Below.refl (w5.setCell ⟨g,k*4+2,none⟩ (.int .i64 (wrap64 (zl+xa)))).heap.size (w5.setCell ⟨g,k*4+2,none⟩ (.int .i64 (wrap64 (zl+xa))))).drew;have hs6:(w5.setCell ⟨g,k*4+2,none⟩ (.int .i64 (wrap64 (zl+xa)))).heap.size=w5.heap.size:=by simp
          have hgw5:=hrow5.lt;have hs5:=HB5.out.size;have hset':=hset.keep (hd6.block g (by rw[hs6];exact hgw5));have hz':((ZE st (l.take j)).1.1.set k ⟨zn,zo,wrap64 (zl+xa),zc⟩)[k]?=some ⟨zn,zo,wrap64 (zl+xa),zc⟩:=List.getElem?_set_self (List.getElem?_eq_some_iff.1 HROW.out.2.2.1).1
          have hown5:=HROW.out.2.1.stays (w':=(w5.setCell ⟨g,k*4+2,none⟩ (.int .i64 (wrap64 (zl+xa)))).drew) fun q hq=>by
           have hq2:=HROW.out.2.1.at_ q hq;refine(hd6.block q (by rw[hs6];omega)).trans ((heap_setCell_other _ _ _ _ (show q≠g from fun e=>by omega)).trans (HB5.out.block q hq2.2))
          have hbx:(w5.setCell ⟨g,k*4+2,none⟩ (.int .i64 (wrap64 (zl+xa)))).drew.cell? ⟨wr.heap.size,3,none⟩=some (.int .i64 xa):=by
           have hwl:wr.heap.size<w5.heap.size:=by omega
           exact(hd6.cell (p:=⟨wr.heap.size,3,none⟩) (by rw[hs6];exact hwl)).trans ((World.cell?_of_block (a:=⟨wr.heap.size,3,none⟩) (heap_setCell_other _ _ _ _ (show wr.heap.size≠g by omega))).trans q4)
          refine⟨_,rfl,by rw[HEO.out.2.1];exact hset',(hset'.cells hz').1,hbx,hown5,?_,by show w.heap.size<=(w5.setCell _ _).heap.size;rw[hs6];omega⟩
          refine HT.out.trans ((Za.of_below HB5.out).trans ⟨rfl,rfl,rfl,by show w5.heap.size<=(w5.setCell _ _).heap.size;rw[hs6];exact Nat.le_refl _,fun q hq hn=>(hd6.block q (by rw[hs6];exact hq)).trans (heap_setCell_other _ _ _ _ hn)⟩))
         clear q0 q1 q2 q3 q4 q5 hrow5
         go_region_law (fail)
         all_goals
          obtain⟨w6,hw6,hr6,d0,d3,hown6,ht6,hs6⟩:=HW6.out;rw[<-hw6];clear hw6 n2 n3 nf HW6;have e0:w6.drew.cell? ⟨g,k*4,none⟩=some (.int .i64 zn):=d0;have e3:w6.drew.cell? ⟨wr.heap.size,3,none⟩=some (.int .i64 xa):=d3;have hb7:Below w6.heap.size w6 (w6.alloc (.cells #[.int .i64 zn,.int .i64 xa,.int .i64 0,.int .i64 0] 50)).drew:=((Below.refl _ _).alloc (Nat.le_refl _) _).drew;have hkl:(ZE st (l.take j)).1.2.length=j:=by rw[HROW.out.2.2.2.2.2.1,List.length_take];have:=HST.out.2.2.1;omega
          have hkok:ZaE ⟨zn,xa,0,0⟩:=by
           intro q hq;simp only[List.mem_cons,List.not_mem_nil,or_false]at hq;rcases hq with rfl|rfl|rfl|rfl
           · exact HROW.out.2.2.2.1 _ (by simp)
           · exact HROW.out.2.2.2.2.1.2.2.2
           · omega
           · omega
          obtain⟨v',w8,hrun,hown8,hb8,hgr,hgn⟩:=(hown6.below hb7).append1 DlT (x:=⟨zn,xa,0,0⟩) (heap_alloc_new w6 _) rfl hkok (by omega) (Nat.le_trans hs6 hb7.size) 45;obtain⟨A8,k8,rfl,hk8⟩:=hown8.shape;have hl8:((ZE st (l.take j)).1.2++[(⟨zn,xa,0,0⟩:Dl)]).length=j+1:=by rw[List.length_append,hkl];rfl
          rw[hl8]at hrun hown8;have HRUN:=hid hrun;have hg6:g<w6.heap.size:=hr6.lt
          have HJ2:=hid (show ZbI w8 g n cap (ZE st (l.take (j+1))).1.1/\(ZE st (l.take (j+1))).2=0/\DlE.Own 50 w8 w.heap.size (.slice A8 (j+1) k8) (ZE st (l.take (j+1))).1.2/\Za (fun k=>k=g) w w8 from by
           rw[HTKH.out]
           refine⟨hr6.keep ((hb8.block g hgw).trans (hb7.block g hg6)),rfl,by rw[HEO.out.2.2];exact hown8,⟨hb8.os.trans (hb7.os.trans ht6.os),hb8.tape.trans (hb7.tape.trans ht6.tape),hb8.output.trans (hb7.output.trans ht6.output),Nat.le_trans ht6.size (Nat.le_trans hb7.size hb8.size),fun q hq hn=>(hb8.block q hq).trans ((hb7.block q (Nat.lt_of_lt_of_le hq ht6.size)).trans (ht6.block q hq hn))⟩⟩)
          clear hr6 hown6 ht6 hs6 hb7 hkl hkok hrun hown8 hb8 hgr hgn hk8 hl8 hg6;go_wp2_with fail
          go_region_law (refine Zcq rfl (.tmp 46) (.tmp 54) _ _ rfl _ _ (by rfl) (by rfl) HRUN.out ?_)
          all_goals
           clear HRUN;go_wp2_with fail;go_roundw
           case rel=>exact⟨j+1,by omega,by go_num,⟨A8,k8,rfl⟩,HJ2⟩
           case measure=>simp[intOf];omega
  · obtain rfl:j=m:=by omega
    have htk:l.take j=l:=List.take_of_length_le (by have:=HST.out.2.2.1;omega);obtain⟨hrow,hz0,hown,ht⟩:=HJ.out;rw[htk]at hrow hz0 hown
    have HE:=hid (show ZjO w wr g n cap (ZE st l) (.returned (.tuple #[.slice A' j k',.int .i64 0]))from
     ⟨_,by rw[hz0],fun _=>⟨hrow,hown⟩,fun h=>absurd hz0 h,ht⟩)
    clear hrow hz0 hown ht htk HJ;go_wp2_with fail;go_ret2;exact HE.out
end
theorem Ze3{f:Int}{F:List Dl}{N:Nat}(hF:∀z∈F,ZaE z)(hFl:F.length=N){d:Dc}:∀{l:List Ln} {S:VS} {st:List Dl},S.Ok->ZqZ N l->docGet S f=some (d,st)->st.length=N->∃st',docGet (Zce f F l S) f=some (d,st')/\st'.length=N
 | [],S,st,_,_,h,hl=>⟨st,h,hl⟩
 | x::r,S,st,hS,hp,h,hl=>by
  have hx:=hp x List.mem_cons_self;obtain⟨k,hk⟩:∃k:Nat,x.n=k:=⟨x.n.toNat,by omega⟩
  have hkl:k<st.length:=by omega
  have hz:ZaE (F[x.n.toNat]?.getD Zav):=by
   rw[List.getElem?_eq_getElem (by omega),Option.getD_some];exact hF _ (List.getElem_mem _)
  have h2:=Zfu hS h (j:=k) hkl hz;rw[<-hk]at h2;exact Ze3 hF hFl (l:=r) (ZbQ hS f x.n _) (fun y hy=>hp y (List.mem_cons_of_mem _ hy)) h2 (by rw[List.length_set];exact hl)
theorem Zf9{f:Int}{F:List Dl}{l:List Ln}{j:Nat}{x:Ln}(hx:l[j]?=some x)(S:VS):Zce f F (l.take (j+1)) S=(Zce f F (l.take j) S).putL f x.n (F[x.n.toNat]?.getD Zav):=by
 obtain⟨hj,rfl⟩:=List.getElem?_eq_some_iff.1 hx;unfold Zce;rw[List.take_succ_eq_append_getElem hj,List.foldl_append];rfl
theorem ZcD{S:VS}{i:Int}{d:Dc}{st:List Dl}(h:docGet S i=some (d,st)){j:Int}(hj:0<=j/\j<(st.length:Int))(x:Dl):setLine S i j x=(0,S.putL i j x):=by
 unfold setLine;rw[h];dsimp only;rw[if_pos hj]
theorem Ze4(f:Int)(F:List Dl):∀(l:List Ln) (S:VS),(Zce f F l S).C.length<=S.C.length+l.length
 | [],S=>Nat.le_refl _
 | x::r,S=>by
  have h1:=Ze4 f F r (S.putL f x.n (F[x.n.toNat]?.getD Zav));have h2:(S.putL f x.n (F[x.n.toNat]?.getD Zav)).C.length<=S.C.length+1:=ZL _ _ _;rw[List.length_cons]
  show(Zce f F r (S.putL f x.n (F[x.n.toNat]?.getD Zav))).C.length<=_
  omega
theorem ZcE{S:VS}{k y f:Int}{l:List Ln}(h:docGet S f=none):takeR S k y f l=(([],7),S):=by unfold takeR;rw[h]
theorem Zb9{S:VS}{k y f:Int}{l:List Ln}{d:Dc}{st:List Dl}(h:docGet S f=some (d,st))(hd:d.k≠k∨d.y≠y):takeR S k y f l=(([],12),S):=by
 unfold takeR;rw[h];dsimp only;rw[if_pos hd]
theorem Zdn{S:VS}{k y f:Int}{l:List Ln}{d:Dc}{st:List Dl}(h:docGet S f=some (d,st))(hd:d.k=k)(hy:d.y=y)(hl:(ZE st l).2≠0):takeR S k y f l=(([],(ZE st l).2),S):=by
 unfold takeR;rw[h];dsimp only;rw[if_neg (by rintro(q|q);exact q hd;exact q hy),if_neg hl]
theorem ZcF{S:VS}{k y f:Int}{l:List Ln}{d:Dc}{st:List Dl}(h:docGet S f=some (d,st))(hd:d.k=k)(hy:d.y=y)(hl:(ZE st l).2=0):takeR S k y f l=(((ZE st l).1.2,0),ZaZ f S st l):=by
 unfold takeR;rw[h];dsimp only;rw[if_neg (by rintro(q|q);exact q hd;exact q hy),if_pos hl]
def Zca(w w':World)(X:Nat->Prop)(v m c:Nat)(R:(List Dl×Int)×VS)(e:Ending):Prop:=
 ∃u,e=.returned (.tuple #[u,.int .i64 R.1.2])/\Ze w' X v m c R.2/\DlE.Own 50 w' w.heap.size u R.1.1/\Za (fun k=>k=c) w w'
section
variable{w w':World}{X:Nat->Prop}{v m c:Nat}{S:VS}
theorem ZjR(h:Ze w X v m c S)(k y f:Int)(hf:ZS f){A:Option Addr}{n cap:Nat}{l:List Ln}(hl:∀W,Za (fun k=>k=c) w W->RL W W.heap.size A n l)(hn:n<=1000)(hC:S.C.length<=100000) :
 Calls prog 195 #[.pointer (some ⟨v,0,none⟩),.int .i64 k,.int .i64 y,.int .i64 f,.slice A n cap] w fun e w'=>Zca w w' X v m c (takeR S k y f l) e:=by
 have HG:=hid (Zc4 h f hf);have hcw:=h.lt c h.xc;have hlen:=(hl w (Za.refl _ _)).len;have hlok:=(hl w (Za.refl _ _)).ok;have HS:=hid (And.intro h.ok hC);have HV:=hid (show ∀W,Below w.heap.size w W->Ze W X v m c S/\Za (fun k=>k=c) w W from fun W hW=>⟨h.below hW,Za.of_below hW⟩);have HL:=hid hl;have HLEN:=hid (And.intro hlen hlok)
 have HBAD:=hid (show ∀(v':Int) W,takeR S k y f l=(([],v'),S)->Below w.heap.size w W->Zca w W X v m c (takeR S k y f l) (.returned (.tuple #[.slice none 0 0,.int .i64 v']))from fun v' W hR hW=>by
  rw[hR]
  exact⟨_,rfl,h.below hW,Enc.Own.start _ _ _,Za.of_below hW⟩)
 have h6:=fun(d:Dc) (st:List Dl) (hd:docGet S f=some (d,st))=>ZaT hd
 have t1:=fun(hd:docGet S f=none)=>ZcE (k:=k) (y:=y) (l:=l) hd
 have t2:=fun(d:Dc) (st:List Dl) (hd:docGet S f=some (d,st)) (q:d.k≠k∨d.y≠y)=>Zb9 (l:=l) hd q
 have t3:=fun(d:Dc) (st:List Dl) (hd:docGet S f=some (d,st)) (q1:d.k=k) (q2:d.y=y) (q:(ZE st l).2≠0)=>Zdn hd q1 q2 q
 have t4:=fun(d:Dc) (st:List Dl) (hd:docGet S f=some (d,st)) (q1:d.k=k) (q2:d.y=y) (q:(ZE st l).2=0)=>ZcF hd q1 q2 q
 have HT:=hid (And.intro h6 (And.intro t1 (And.intro t2 (And.intro t3 t4))));clear h6 t1 t2 t3 t4 h hl hlen hlok hC;obtain⟨o,ho⟩:∃o,o=docGet S f:=⟨_,rfl⟩
 rw[<-ho]at HG HT;have HO:=hid ho;clear ho;generalize takeR S k y f l=R at HBAD HT ⊢;go_enter func195,ntmps195;go_wp2_with fail;refine HG.out.mono ?_;rintro e w1⟨A0,k0,rfl,hown,hok,hdok,hb1⟩;clear HG;cases o with
 | none=>
  have HE:=hid (HBAD.out 7 (w1.alloc (.cells #[.int .i64 0,.int .i64 0,.int .i64 0,.int .i64 0,.int .i64 0] 44 (0,0))) (HT.out.2.1 rfl) (hb1.trans (((Below.refl w1.heap.size w1).alloc (Nat.le_refl _) _).mono hb1.size)));clear HT HBAD HO hown hok hdok hb1;simp only[dcW,Option.map_none,Option.getD_none,Zbt,Option.isSome_none];go_wp2_with fail;go_ret2;exact HE.out
 | some p=>
  obtain⟨d,st⟩:=p;obtain⟨g1,g2,g3,g4,g5,g6,g7⟩:=HT.out.1 d st rfl;simp only[Zet]at hown hok;obtain⟨g,rfl,hgb,hrow⟩:=ZbI.of_own hown (by omega);obtain⟨w2,hw2⟩:∃w2,w2=w1.alloc (.cells #[.int .i64 d.i,.int .i64 d.k,.int .i64 d.y,.int .i64 d.f,.int .i64 d.n] 44 (0,0)):=⟨_,rfl⟩
  have hb2:Below w1.heap.size w1 w2:=by rw[hw2];exact(Below.refl _ _).alloc (Nat.le_refl _) _
  have hblk:w2.heap[w1.heap.size]?=some (.cells #[.int .i64 d.i,.int .i64 d.k,.int .i64 d.y,.int .i64 d.f,.int .i64 d.n] 44 (0,0)):=by rw[hw2];exact heap_alloc_new w1 _
  have hb12:=hb1.trans (hb2.mono hb1.size);have hrow2:=hrow.keep (hb2.block g hrow.lt);have HST:=hid (show st.length=st.length/\1<=st.length/\st.length<=6/\(∀z∈st,ZaE z)from⟨rfl,g5,g6,hok⟩);have HB12:=hid hb12;have HT2:=hid (HT.out.2.2.1 d st rfl);have HT3:=hid (HT.out.2.2.2.1 d st rfl);have HT4:=hid (HT.out.2.2.2.2 d st rfl);clear HT hown hok hdok hb1 hb2 hrow g1 g2 g3 g4 g5 g6 g7;simp only[dcW,Option.map_some,Option.getD_some,Option.isSome_some,Zet];obtain⟨q0,q1,q2,q3,q4⟩:w2.cell? ⟨w1.heap.size,0,none⟩=some (.int .i64 d.i)/\w2.cell? ⟨w1.heap.size,1,none⟩=some (.int .i64 d.k)/\w2.cell? ⟨w1.heap.size,2,none⟩=some (.int .i64 d.y)/\w2.cell? ⟨w1.heap.size,3,none⟩=some (.int .i64 d.f)/\w2.cell? ⟨w1.heap.size,4,none⟩=some (.int .i64 d.n):=⟨cell_of_row w2 _ 0 _ _ (0,0) hblk,cell_of_row w2 _ 1 _ _ (0,0) hblk,cell_of_row w2 _ 2 _ _ (0,0) hblk,cell_of_row w2 _ 3 _ _ (0,0) hblk,cell_of_row w2 _ 4 _ _ (0,0) hblk⟩
  by_cases hdk:d.k=k
  · by_cases hdy:d.y=y
    · -- it is of this kind and year
      have HLQ:=hid (Zm8 hrow2 HST.out.2.2.2 HST.out.2.2.1 (A:=A) (m:=n) (c:=cap) (l:=l) (fun W hW=>HL.out W (Za.of_below (HB12.out.trans (hW.below (fun q hq=>by rw[hq];exact hgb) HB12.out.size)))) hn);obtain⟨dI,dK,dY,dF,dN⟩:=d;simp only at hdk hdy hw2 q0 q1 q2 q3 q4 HO;subst hdk hdy;have HT3':=hid (HT3.out rfl rfl);have HT4':=hid (HT4.out rfl rfl);clear HT2 HT3 HT4 hrow2 hblk;go_wp2_with fail;rw[<-hw2];clear hw2 q0 q1 q2 q3 q4;refine HLQ.out.mono ?_;rintro e w3⟨u,rfl,hlq1,hlq2,ht3⟩;have hb3:Below w.heap.size w w3:=HB12.out.trans (ht3.below (fun q hq=>by rw[hq];exact hgb) HB12.out.size);by_cases hz:(ZE st l).2=0
      · obtain⟨hrow3,hown3⟩:=hlq1 hz;have hokF:=(Zdd (l:=l) (st:=st) HST.out.2.2.2 HLEN.out.2).1;have hlenF:=ZcP l st;have hpl:=Zby hz;have hR:=HT4'.out hz;have hsame:=Zi4 (f:=f) HS.out.1 HST.out.2.2.1 hz;have htl:=Za5 l st hz;obtain⟨F,hF⟩:∃F,F=(ZE st l).1.1:=⟨_,rfl⟩
        obtain⟨tk,htk⟩:∃tk,tk=(ZE st l).1.2:=⟨_,rfl⟩
        rw[<-hF]at hokF hlenF hsame hrow3;rw[<-htk]at hown3 hR htl;rw[<-hsame]at hR;rw[hz];have H0:=hid (show Ze w3 X v m c (Zce f F (l.take 0) S)/\Za (fun k=>k=c) w w3/\Za (fun k=>k=c) w3 w3 from⟨(HV.out w3 hb3).1,(HV.out w3 hb3).2,Za.refl _ _⟩);have HF:=hid (And.intro hokF (And.intro hlenF (And.intro hpl (And.intro hrow3 (And.intro hown3 hR)))));have hs12:=HB12.out.size;have hg3:=hrow3.lt;have HSZ:=hid (And.intro hs12 hg3);clear hlq1 hlq2 ht3 hb3 hokF hlenF hpl hsame hrow3 hown3 hR HT3' HT4' HLQ hF htk htl hz;go_wp2_with fail
        go_loopw[52] (fun iv wr=>∃j:Nat,j<=n/\iv=.int .i64 j/\Hid (Ze wr X v m c (Zce f F (l.take j) S)/\Za (fun k=>k=c) w wr/\Za (fun k=>k=c) w3 wr)) (fun iv _=>n-(intOf iv).toNat)
        case atStart=>exact⟨0,Nat.zero_le _,rfl,H0⟩
        case round=>
         clear H0;obtain⟨j,hj,rfl,HJ⟩:=hrel;by_cases hlt:j<n
         · have hlt':(j:Int)<(n:Int):=by omega
           have hj0:(0:Int)<=(j:Int):=by omega
           obtain⟨hv,ht,ht3⟩:=HJ.out;obtain⟨x,hx⟩:∃x,l[j]?=some x:=⟨_,List.getElem?_eq_getElem (by rw[HLEN.out.1];exact hlt)⟩
           obtain⟨b,off,rfl,hb,hat⟩:=(HL.out wr ht).2.2 (by omega);obtain⟨c0,c1,c2,c3⟩:=hat j x hx;have hxok:=HLEN.out.2 x (List.mem_of_getElem? hx);obtain⟨wb,hwb⟩:∃wb,wb=wr.alloc (.cells #[.int .i64 x.f,.int .i64 x.o,.int .i64 x.n,.int .i64 x.a] 34 (0,0)):=⟨_,rfl⟩
           have hbb:Below wr.heap.size wr wb:=by rw[hwb];exact(Below.refl _ _).alloc (Nat.le_refl _) _
           have hblk:wb.heap[wr.heap.size]?=some (.cells #[.int .i64 x.f,.int .i64 x.o,.int .i64 x.n,.int .i64 x.a] 34 (0,0)):=by rw[hwb];exact heap_alloc_new wr _
           have hsz:wb.heap.size=wr.heap.size+1:=by rw[hwb];simp
           have hxp:=HF.out.2.2.1 x (List.mem_of_getElem? hx);obtain⟨p,hp⟩:∃p:Nat,x.n=p:=⟨x.n.toNat,by omega⟩
           have hpl:p<F.length:=by rw[HF.out.2.1];omega
           obtain⟨z,hz⟩:∃z,F[p]?=some z:=⟨_,List.getElem?_eq_getElem hpl⟩
           have hzok:=HF.out.1 z (List.mem_of_getElem? hz);have hrow:=HF.out.2.2.2.1.keep (ht3.block g HSZ.out.2 (fun e=>by omega));obtain⟨st',hst',hsl'⟩:=Ze3 (f:=f) HF.out.1 HF.out.2.1 (l:=l.take j) (S:=S) (st:=st) HS.out.1 (fun y hy=>HF.out.2.2.1 y (List.mem_of_mem_take hy)) HO.out.symm rfl;have hset:=ZcD hst' (j:=x.n) (by rw[hsl'];exact hxp) z;have hFS:=Zf9 (f:=f) (F:=F) hx S;rw[hp,Int.toNat_natCast,hz,Option.getD_some,<-hp]at hFS;have hCl:=Ze4 f F (l.take j) S;rw[List.length_take]at hCl;have hd:=(Below.refl wb.heap.size wb).drew;have HST2:=hid (ZeX ((hv.below hbb).below hd) f x.n z hzok hf hxok.2.2.1 (by have:=HS.out.2;have:=HLEN.out.1;omega));rw[hset]at HST2;have hrg:=hrow.lt
           have KK:=hid (show ∀W,Za (fun k=>k=c) wb W->(W.cell? ⟨g,p*4,none⟩=some (.int .i64 z.nd)/\W.cell? ⟨g,p*4+1,none⟩=some (.int .i64 z.o)/\W.cell? ⟨g,p*4+2,none⟩=some (.int .i64 z.l)/\W.cell? ⟨g,p*4+3,none⟩=some (.int .i64 z.c)/\W.cell? ⟨wr.heap.size,2,none⟩=some (.int .i64 x.n))from fun W hW=>by
            obtain⟨a0,a1,a2,a3⟩:=((hrow.keep (hbb.block g hrg)).keep (hW.block g (Nat.lt_of_lt_of_le hrg hbb.size) (fun e=>by omega))).cells hz;have hb:=(hW.block wr.heap.size (by omega) (fun e=>by have:=ht.size;omega)).trans hblk
            exact⟨a0,a1,a2,a3,cell_of_row W _ 2 _ _ (0,0) hb⟩)
           have c5:=KK.out _ (Za.of_below hd);have HTT:=hid (show Za (fun k=>k=c) w wb/\Za (fun k=>k=c) w3 wb from⟨ht.trans (Za.of_below hbb),ht3.trans (Za.of_below hbb)⟩);have HFS:=hid hFS;clear hv ht ht3 hx hb hat hxok hbb hblk hsz hxp hz hzok hrow hst' hsl' hset hFS hCl hd hrg HJ;obtain⟨xf,xo,xn,xa⟩:=x;obtain⟨zn,zo,zl,zc⟩:=z;simp only at hp HST2 KK c5 HFS hwb c0 c1 c2 c3;subst hp;have hp0:(0:Int)<=(p:Int):=by omega
           have hpl':(p:Int)<(st.length:Int):=by rw[HF.out.2.1]at hpl;omega
           go_wp2_with fail;rw[<-hwb];clear hwb c0 c1 c2 c3
           go_region_held3 (fun W=>W.cell? ⟨g,p*4,none⟩=some (.int .i64 zn)/\W.cell? ⟨g,p*4+1,none⟩=some (.int .i64 zo)/\W.cell? ⟨g,p*4+2,none⟩=some (.int .i64 zl)/\W.cell? ⟨g,p*4+3,none⟩=some (.int .i64 zc)/\W.cell? ⟨wr.heap.size,2,none⟩=some (.int .i64 p))
            (first|with_reducible exact c5|exact c5)
            (first|(go_at_call 165;refine Calls.mono HST2.out ?_;rintro e w5 ⟨rfl,hv5,ht5⟩;have ht5:=(Za.of_below (F:=fun k=>k=c) ((Below.refl wb.heap.size wb).drew)).trans ht5;have c5:=KK.out _ ht5))
           have HJ:=hid (show Ze w5 X v m c (Zce f F (l.take (j+1)) S)/\Za (fun k=>k=c) w w5/\Za (fun k=>k=c) w3 w5 from⟨by rw[HFS.out];exact hv5,HTT.out.1.trans ht5,HTT.out.2.trans ht5⟩);clear c5 hv5 ht5 KK HTT HFS HST2;go_wp2_with fail;go_roundw
           case rel=>exact⟨j+1,by omega,by go_num,HJ⟩
           case measure=>simp[intOf];omega
         · obtain rfl:j=n:=by omega
           have htk:l.take j=l:=List.take_of_length_le (by have:=HLEN.out.1;omega);obtain⟨hv,ht,ht3⟩:=HJ.out;rw[htk]at hv;obtain⟨f1,f2,f3,f4,f5,f6⟩:=HF.out
           have HE:=hid (show Zca w wr X v m c R (.returned (.tuple #[u,.int .i64 0]))from by
            rw[f6];refine⟨u,rfl,hv,(f5.base_le HSZ.out.1).stays fun q hq=>ht3.block q (f5.at_ q hq).2 (fun e=>?_),ht⟩
            have:=(f5.at_ q hq).1
            have:=HSZ.out.1
            omega)
           clear hv ht ht3 f1 f2 f3 f4 f5 f6 HJ htk;go_wp2_with fail;go_ret2;exact HE.out
      · obtain rfl:=hlq2 hz;have hR:=HT3'.out hz;have k1:((ZE st l).2 != 0)=true:=by simp[hz]
        have HE:=hid (HBAD.out _ w3 hR hb3);clear hlq1 hlq2 ht3 hb3 hR HT3' HT4' hz;generalize (ZE st l).2=le at HE k1 ⊢;go_wp2_with fail;go_ret2;exact HE.out
    · have HE:=hid (HBAD.out 12 w2 (HT2.out (.inr hdy)) HB12.out);have k1:(d.k != k)=false:=by simp[hdk]
      have k2:(d.y != y)=true:=by simp[hdy]
      clear HT2 HT3 HT4 hrow2 hblk hdk hdy HO;obtain⟨dI,dK,dY,dF,dN⟩:=d;simp only at k1 k2 hw2 q0 q1 q2 q3 q4;go_wp2_with fail;rw[<-hw2];go_ret2;exact HE.out
  · have HE:=hid (HBAD.out 12 w2 (HT2.out (.inl hdk)) HB12.out);have k1:(d.k != k)=true:=by simp[hdk]
    clear HT2 HT3 HT4 hrow2 hblk hdk HO;obtain⟨dI,dK,dY,dF,dN⟩:=d;simp only at k1 hw2 q0 q1 q2 q3 q4;go_wp2_with fail;rw[<-hw2];go_ret2;exact HE.out
end
section
variable{w w':World}{X X':Nat->Prop}{v m c g:Nat}{S:VS}{T:TypeId}{k y f:Int}{wn:Bool}
def encCh(f:Int)(z:Dl):Chg:=Zqx (!(f == 0)) z
theorem Zg3(h:Ze w X v m c S)(hg:X g)(hgv:g≠v/\g≠m/\g≠c)(ho:Zan w 93 g v k y f wn)(hy:ZS y)(z:Dl)(hz:ZaE z)(hC:S.C.length<=1000000) :
 Calls prog 107 #[.pointer (some ⟨g,0,none⟩),.agg #[.int .i64 z.nd,.int .i64 z.o,.int .i64 z.l,.int .i64 z.c]] w fun e w'=>e=.returned (.int .i64 (chargeR S y (encCh f z).i (encCh f z).p (encCh f z).e (encCh f z).q).1.2)/\Ze w' X v m c (chargeR S y (encCh f z).i (encCh f z).p (encCh f z).e (encCh f z).q).2/\Zan w' 93 g v k y f (wn||(chargeR S y (encCh f z).i (encCh f z).p (encCh f z).e (encCh f z).q).1.1)/\Za (fun k=>k=c∨k=g) w w':=by
 obtain⟨w1,hw1⟩:∃w1,w1=w.alloc (.cells #[.int .i64 z.nd,.int .i64 z.o,.int .i64 z.l,.int .i64 z.c] 50):=⟨_,rfl⟩
 have hb1:Below w.heap.size w w1:=by rw[hw1];exact(Below.refl _ _).alloc (Nat.le_refl _) _
 have hs1:w1.heap.size=w.heap.size+1:=by rw[hw1];simp
 have hblk:w1.heap[w.heap.size]?=some (.cells #[.int .i64 z.nd,.int .i64 z.o,.int .i64 z.l,.int .i64 z.c] 50 (0,0)):=by rw[hw1];exact heap_alloc_new w _
 have ho1:=ho.keep (hb1.block g ho.lt);have hcw:=h.lt c h.xc;have hgw:=ho.lt;have hd1:Below w1.heap.size w1 w1.drew:=(Below.refl _ _).drew
 have hpi:ZS (encCh f z).p:=by
  unfold encCh Zqx;simp only[];split
  · unfold wrap64 ZS;omega
  · unfold ZS;omega
 have HCH:=hid (Zf7 ((h.below hb1).below hd1) y (encCh f z).i (encCh f z).p (encCh f z).e (encCh f z).q hy (hz z.nd (by simp)) hpi (hz z.o (by simp)) (show ZS 0 by unfold ZS;omega) hC)
 have K:=hid (show ∀W,Za (fun k=>k=c) w1 W->(W.cell? ⟨g,0,none⟩=some (.pointer (some ⟨v,0,none⟩))/\W.cell? ⟨g,3,none⟩=some (.int .i64 y)/\W.cell? ⟨w.heap.size,0,none⟩=some (.int .i64 z.nd)/\W.cell? ⟨w.heap.size,1,none⟩=some (.int .i64 z.o))/\Zan W 93 g v k y f wn from fun W ht=>by
  have hb:=(ht.block w.heap.size (by omega) (by omega)).trans hblk;have ho2:=ho1.keep (ht.block g (by omega) (fun e=>hgv.2.2 e));obtain⟨c0,c1,c2,c3,c4,c5,c6⟩:=ho2.cells
  exact⟨⟨c0,c3,cell_of_row W _ 0 _ _ (0,0) hb,cell_of_row W _ 1 _ _ (0,0) hb⟩,ho2⟩)
 have HT1:=hid (show Za (fun k=>k=c∨k=g) w w1 from Za.of_below hb1);have HG:=hid (And.intro hg hgv);have c5:=(K.out _ (Za.of_below hd1)).1;have s4:=ho1.cells.2.2.2.2.1;have l1:w1.cell? ⟨w.heap.size,1,none⟩=some (.int .i64 z.o):=cell_of_row w1 _ 1 _ _ (0,0) hblk;clear h ho hb1 hblk ho1 hd1 hC hy hpi
 have hop:((encCh f z).i=z.nd/\(encCh f z).e=z.o/\(encCh f z).q=0)/\(f=0->(encCh f z).p=0)/\(f≠0->(encCh f z).p=wrap64 (-z.o)):=by
  refine⟨⟨rfl,rfl,rfl⟩,fun h=>?_,fun h=>?_⟩
  · subst h;rfl
  · unfold encCh Zqx;simp[h]
 generalize encCh f z=C at HCH hop ⊢;obtain⟨ci,cp,ce,cq⟩:=C;obtain⟨⟨rfl,rfl,rfl⟩,hp0,hp1⟩:=hop;simp only at HCH hp0 hp1 ⊢;generalize chargeR S y z.nd cp z.o 0=R at HCH ⊢;obtain⟨⟨r1,r2⟩,S'⟩:=R;obtain⟨zn,zo,zl,zc⟩:=z;simp only at HCH K c5 hw1 l1 hp0 hp1 ⊢;rw[hw1]at s4 l1;by_cases hf:f=0
 · obtain rfl:=hp0 hf;subst hf;clear hp0 hp1;go_enter func107,ntmps107;go_wp2_with fail;rw[<-hw1];clear hw1
   go_region_held3 (fun W=>W.cell? ⟨g,0,none⟩=some (.pointer (some ⟨v,0,none⟩))/\W.cell? ⟨g,3,none⟩=some (.int .i64 y)/\W.cell? ⟨w.heap.size,0,none⟩=some (.int .i64 zn)/\W.cell? ⟨w.heap.size,1,none⟩=some (.int .i64 zo))
    (first|with_reducible exact c5|exact c5)
    (first|(go_at_call 189;refine Calls.mono HCH.out ?_;rintro e w2 ⟨rfl,h2,t2⟩;have t2:=(Za.of_below (F:=fun k=>k=c) ((Below.refl w1.heap.size w1).drew)).trans t2;have c5:=(K.out _ t2).1))
   have ho2:=(K.out _ t2).2;obtain⟨z0,z1,z2,z3,z4,z5,z6⟩:=ho2.cells;have f6:w2.frozen? ⟨g,6,none⟩=false:=by simp[World.frozen?,show w2.heap[g]?=_ from ho2]
   have HE:=hid (show ∀b:Bool,Ze (w2.setCell ⟨g,6,none⟩ (.bool b)) X v m c S'/\Zan (w2.setCell ⟨g,6,none⟩ (.bool b)) 93 g v k y 0 b/\Za (fun k=>k=c∨k=g) w (w2.setCell ⟨g,6,none⟩ (.bool b))from fun b=>
    ⟨h2.boxSet HG.out.1 HG.out.2 6 _,ho2.warn b,HT1.out.trans ((t2.mono fun k hk=>.inl hk).trans ⟨rfl,rfl,rfl,by simp,fun k hk hn=>heap_setCell_other _ _ _ _ (fun e=>hn (.inr e))⟩)⟩)
   clear c5 h2 t2 ho2 z0 z1 z2 z3 z4 z5 K HCH HG HT1 s4 l1;cases wn with
   | true=>
    go_wp2_with fail;go_ret;exact⟨rfl,HE.out true⟩
   | false=>
    go_wp2_with fail;go_ret;exact⟨rfl,HE.out r1⟩
 · have k1:(f != 0)=true:=by simp[hf]
   have hcp:=(hp1 hf).symm;have hcp':IntKind.i64.wrap (-zo)=cp:=(Zb8 _).trans hcp;clear hp0 hp1 hf;go_enter func107,ntmps107;go_wp2_with fail;rw[<-hw1];clear hw1
   go_region_held3 (fun W=>W.cell? ⟨g,0,none⟩=some (.pointer (some ⟨v,0,none⟩))/\W.cell? ⟨g,3,none⟩=some (.int .i64 y)/\W.cell? ⟨w.heap.size,0,none⟩=some (.int .i64 zn)/\W.cell? ⟨w.heap.size,1,none⟩=some (.int .i64 zo))
    (first|with_reducible exact c5|exact c5)
    (first|(go_at_call 189;refine Calls.mono HCH.out ?_;rintro e w2 ⟨rfl,h2,t2⟩;have t2:=(Za.of_below (F:=fun k=>k=c) ((Below.refl w1.heap.size w1).drew)).trans t2;have c5:=(K.out _ t2).1))
   have ho2:=(K.out _ t2).2;obtain⟨z0,z1,z2,z3,z4,z5,z6⟩:=ho2.cells;have f6:w2.frozen? ⟨g,6,none⟩=false:=by simp[World.frozen?,show w2.heap[g]?=_ from ho2]
   have HE:=hid (show ∀b:Bool,Ze (w2.setCell ⟨g,6,none⟩ (.bool b)) X v m c S'/\Zan (w2.setCell ⟨g,6,none⟩ (.bool b)) 93 g v k y f b/\Za (fun k=>k=c∨k=g) w (w2.setCell ⟨g,6,none⟩ (.bool b))from fun b=>
    ⟨h2.boxSet HG.out.1 HG.out.2 6 _,ho2.warn b,HT1.out.trans ((t2.mono fun k hk=>.inl hk).trans ⟨rfl,rfl,rfl,by simp,fun k hk hn=>heap_setCell_other _ _ _ _ (fun e=>hn (.inr e))⟩)⟩)
   clear c5 h2 t2 ho2 z0 z1 z2 z3 z4 z5 K HCH HG HT1 s4 l1;cases wn with
   | true=>
    go_wp2_with fail;go_ret;exact⟨rfl,HE.out true⟩
   | false=>
    go_wp2_with fail;go_ret;exact⟨rfl,HE.out r1⟩
end
def Zdo(S:VS)(y f:Int)(l:List Ln):(List Dl×Int)×VS:=if f=0 then((l.map ZY,0),S)else takeR S 1 y f l
theorem ZaI(S:VS)(y f:Int)(l:List Ln):encNew S y f l=if yChk S y=0 then(if preChk l=0 then(if(Zdo S y f l).1.2=0 then ZI (Zdo S y f l).2 y 2 f ((Zdo S y f l).1.1.map (encCh f)) (Zdo S y f l).1.1 else((0,false,(Zdo S y f l).1.2),(Zdo S y f l).2))else((0,false,1),S))else((0,false,yChk S y),S):=by
 unfold encNew Zdo encCh;by_cases hf:f=0
 · subst hf;simp
 · have h1:(!(f == 0))=true:=by simp[hf]
   rw[if_neg hf,if_neg hf,h1]
section
variable{w w':World}{X X':Nat->Prop}{v m c g:Nat}{S:VS}{T:TypeId}{k y f:Int}{wn:Bool}
theorem Zii(h:Ze w X v m c S)(hgv:g≠c)(ho:Zan w 93 g v k y f wn)(hf64:ZS f){A:Option Addr}{n cap:Nat}{l:List Ln}(hl:∀W,Za (fun k=>k=c) w W->RL W W.heap.size A n l)(hn:n<=1000)(hC:S.C.length<=100000) :
 Calls prog 106 #[.pointer (some ⟨g,0,none⟩),.slice A n cap] w fun e w'=>Zca w w' X v m c (Zdo S y f l) e:=by
 obtain⟨s0,s1,s2,s3,s4,s5,s6⟩:=ho.cells;by_cases hf:f=0
 · have hE:Zdo S y f l=((l.map ZY,0),S):=if_pos hf;rw[hE];subst hf;have HL:=hid (hl w (Za.refl _ _));have HV:=hid (show ∀W,Below w.heap.size w W->Ze W X v m c S/\Za (fun k=>k=c) w W from fun W hW=>⟨h.below hW,Za.of_below hW⟩);clear h ho hl hE s0 s1 s2 s3 s5 s6;go_enter func106,ntmps106;go_wp2_with fail
   go_loopw[6,35] (fun uv iv wr=>∃j:Nat,j<=n/\iv=.int .i64 j/\(∃A' k',uv=.slice A' j k')/\Hid (DlE.Own 50 wr w.heap.size uv ((l.take j).map ZY)/\Below w.heap.size w wr)) (fun _ iv _=>n-(intOf iv).toNat)
   case atStart=>exact⟨0,Nat.zero_le _,rfl,⟨none,0,rfl⟩,hid ⟨Enc.Own.start _ _ _,Below.refl _ _⟩⟩
   case round=>
    obtain⟨j,hj,rfl,⟨A',k',rfl⟩,HJ⟩:=hrel;by_cases hlt:j<n
    · have hlt':(j:Int)<(n:Int):=by omega
      have hj0:(0:Int)<=(j:Int):=by omega
      obtain⟨hown,hbw⟩:=HJ.out;obtain⟨x,hx⟩:∃x,l[j]?=some x:=⟨_,List.getElem?_eq_getElem (by rw[HL.out.1];exact hlt)⟩
      have hxok:=HL.out.2.1 x (List.mem_of_getElem? hx);obtain⟨b,off,rfl,hb,hat⟩:=(HL.out.below hbw).2.2 (by omega);obtain⟨c0,c1,c2,c3⟩:=hat j x hx;obtain⟨wb,hwb⟩:∃wb,wb=wr.alloc (.cells #[.int .i64 x.f,.int .i64 x.o,.int .i64 x.n,.int .i64 x.a] 34 (0,0)):=⟨_,rfl⟩
      have hbb:Below wr.heap.size wr wb:=by rw[hwb];exact(Below.refl _ _).alloc (Nat.le_refl _) _
      have hsz:wb.heap.size=wr.heap.size+1:=by rw[hwb];simp
      have htk:((l.take j).map ZY).length=j:=by rw[List.length_map,List.length_take];have:=HL.out.1;omega
      have hb5:Below wb.heap.size wb (wb.alloc (.cells #[.int .i64 x.n,.int .i64 x.a,.int .i64 0,.int .i64 0] 50)):=(Below.refl _ _).alloc (Nat.le_refl _) _;have hb25:=hbb.trans (hb5.mono hbb.size);obtain⟨v',w6,hrun,hown6,hb6,hgr,hgn⟩:=(hown.below hb25).append1 DlT (x:=⟨x.n,x.a,0,0⟩) (heap_alloc_new wb _) rfl (ZcN hxok) (by omega) (Nat.le_trans hbw.size hb25.size) 45;obtain⟨A6,k6,rfl,hk6⟩:=hown6.shape;have hl6:((l.take j).map ZY++[(⟨x.n,x.a,0,0⟩:Dl)]).length=j+1:=by rw[List.length_append,htk];rfl
      rw[hl6]at hrun hown6;rw[hsz]at hrun;have HRUN:=hid hrun;have HJ2:=hid (show DlE.Own 50 w6 w.heap.size (.slice A6 (j+1) k6) ((l.take (j+1)).map ZY)/\Below w.heap.size w w6 from⟨by rw[ZeJ (f:=ZY) hx];exact hown6,(hbw.trans (hb25.mono hbw.size)).trans hb6⟩);rw[hwb]at HRUN;clear hown hbw hx hxok hat hb htk hb5 hb25 hbb hsz hwb wb hrun hown6 hb6 hgr hgn HJ hk6 hl6
      go_wp2_with (at_builtin;refine Lib.wpList_append_run _ rfl _ _ _ _ rfl _ _ rfl rfl _ _ HRUN.out ?_)
      go_roundw
      case rel=>exact⟨j+1,by omega,by go_num,⟨A6,k6,rfl⟩,HJ2⟩
      case measure=>simp[intOf];omega
    · obtain rfl:j=n:=by omega
      have htk:l.take j=l:=List.take_of_length_le (by have:=HL.out.1;omega);obtain⟨hown,hbw⟩:=HJ.out;rw[htk]at hown;have HE:=hid (show Zca w wr X v m c ((l.map ZY,0),S) (.returned (.tuple #[.slice A' j k',.int .i64 0]))from⟨_,rfl,(HV.out wr hbw).1,hown,(HV.out wr hbw).2⟩);clear hown hbw htk HJ;go_wp2_with fail;go_ret2;exact HE.out
 · have hE:Zdo S y f l=takeR S 1 y f l:=if_neg hf;rw[hE];have k1:(f != 0)=true:=by simp[hf]
   have hd:=(Below.refl w.heap.size w).drew;have HTK:=hid (ZjR (cap:=cap) (h.below hd) 1 y f hf64 (fun W hW=>hl W ((Za.of_below hd).trans hW)) hn hC);have hgw:=ho.lt
   have KK:=hid (show ∀W,Za (fun k=>k=c) w W->W.cell? ⟨g,0,none⟩=some (.pointer (some ⟨v,0,none⟩))/\W.cell? ⟨g,3,none⟩=some (.int .i64 y)/\W.cell? ⟨g,4,none⟩=some (.int .i64 f)from fun W hW=>by
    obtain⟨a0,a1,a2,a3,a4,a5,a6⟩:=(ho.keep (hW.block g hgw hgv)).cells
    exact⟨a0,a3,a4⟩)
   have c5:=KK.out _ (Za.of_below hd);have HD:=hid hd.size;clear h ho hl hE s0 s1 s2 s3 s5 s6 hd hf;generalize takeR S 1 y f l=R at HTK ⊢;go_enter func106,ntmps106;go_wp2_with fail
   go_region_held3 (fun W=>W.cell? ⟨g,0,none⟩=some (.pointer (some ⟨v,0,none⟩))/\W.cell? ⟨g,3,none⟩=some (.int .i64 y)/\W.cell? ⟨g,4,none⟩=some (.int .i64 f))
    (first|with_reducible exact c5|exact c5)
    (first|(go_at_call 195;refine Calls.mono HTK.out ?_;rintro e w2 ⟨u,rfl,h2,o2,t2⟩;have t2:=(Za.of_below (F:=fun k=>k=c) ((Below.refl w.heap.size w).drew)).trans t2;have c5:=KK.out _ t2))
   have HE:=hid (show Zca w w2 X v m c R (.returned (.tuple #[u,.int .i64 R.1.2]))from⟨u,rfl,h2,o2.base_le HD.out,t2⟩);clear c5 h2 o2 t2 KK HTK;go_wp2_with fail;go_ret2;exact HE.out
end
theorem ZoO{S:VS}{y f:Int}{l:List Ln}(h:(Zdo S y f l).1.2=0):(Zdo S y f l).1.1.length=l.length:=by
 unfold Zdo at h ⊢
 split
 · rw[List.length_map]
 · rename_i hf
   rw[if_neg hf]at h;exact Zbq h
theorem ZeF{S:VS}{k y f:Int}{l:List Ln}(hS:∀d st,docGet S f=some (d,st)->∀z∈st,ZaE z)(hl:∀x∈l,Za7 x):∀z∈(takeR S k y f l).1.1,ZaE z:=by
 unfold takeR
 cases hd:docGet S f with
 | none=>intro z hz;cases hz
 | some u=>
  obtain⟨d,st⟩:=u;dsimp only;split
  · intro z hz;cases hz
  · split
    · exact(Zdd (hS d st hd) hl).2
    · intro z hz;cases hz
theorem Zp4{S:VS}{y f:Int}{l:List Ln}(hS:∀d st,docGet S f=some (d,st)->∀z∈st,ZaE z)(hl:∀x∈l,Za7 x):∀z∈(Zdo S y f l).1.1,ZaE z:=by
 unfold Zdo;split
 · exact Zbx hl
 · exact ZeF hS hl
theorem Zga(S:VS)(k y f:Int)(l:List Ln):(takeR S k y f l).2.C.length<=S.C.length+l.length:=by
 have hJ:∀(l:List Ln) (st:List Dl) (S:VS),(ZaZ f S st l).C.length<=S.C.length+l.length:=by
  intro l
  induction l with
  | nil=>intro st S;exact Nat.le_refl _
  | cons x r ih=>
   intro st S;have h1:=ih (Zcr st x) (S.putL f x.n (ZjD (st[x.n.toNat]?.getD Zav) x.a));have h2:(S.putL f x.n (ZjD (st[x.n.toNat]?.getD Zav) x.a)).C.length<=S.C.length+1:=ZL _ _ _;rw[List.length_cons]
   show(ZaZ f (S.putL f x.n (ZjD (st[x.n.toNat]?.getD Zav) x.a)) (Zcr st x) r).C.length<=_
   omega
 unfold takeR;split
 · exact Nat.le_add_right _ _
 · split
   · exact Nat.le_add_right _ _
   · split
     · exact hJ _ _ _
     · exact Nat.le_add_right _ _
theorem Zm9(S:VS)(y f:Int)(l:List Ln):(Zdo S y f l).2.C.length<=S.C.length+l.length:=by
 unfold Zdo;split
 · exact Nat.le_add_right _ _
 · exact Zga _ _ _ _ _
def Zeh(w wr:World)(X:Nat->Prop)(v m c g:Nat)(T:TypeId)(S:VS)(k y f:Int)(cs:List Chg):Prop:=
 (runC y S false cs).1.2=0/\Ze wr X v m c (runC y S false cs).2/\Zan wr T g v k y f (runC y S false cs).1.1/\Za (fun k=>k=c∨k=g) w wr
section
variable{w w':World}{X X':Nat->Prop}{v m c g:Nat}{S:VS}{T:TypeId}{k y f:Int}{wn:Bool}
theorem Zij(h:Ze w X v m c S)(hg:X g)(hgv:g≠v/\g≠m/\g≠c)(ho:Zan w 93 g v 2 y f false)(hy:ZS y)(hf:ZS f)(hdok:∀d st,docGet S f=some (d,st)->∀z∈st,ZaE z){A:Option Addr}{n cap:Nat}{l:List Ln}(hl:∀W,Za (fun k=>k=c∨k=g) w W->RL W W.heap.size A n l)(hcap:n<=cap)(hn:n<=maxLen)(hC:S.C.length<=90000) :
 Calls prog 49 #[.pointer (some ⟨g,0,none⟩),.slice A n cap] w fun e w'=>ZbW w w' X v m c g 93 2 y f (encNew S y f l) e:=by
 have hd:=(Below.refl w.heap.size w).drew;have hcw:=h.lt c h.xc;have hgw:=ho.lt;have HY:=hid (Zd7 (h.below hd) y hy);have HYR:=hid (show Zoz (stV (S.now (ZbO y)))=yChk S y from rfl)
 have K:=hid (show ∀W,Below w.heap.size w W->(W.cell? ⟨g,0,none⟩=some (.pointer (some ⟨v,0,none⟩))/\W.cell? ⟨g,3,none⟩=some (.int .i64 y))/\Zan W 93 g v 2 y f false/\Ze W X v m c S/\Za (fun k=>k=c∨k=g) w W from fun W hW=>by
  have ho2:=ho.keep (hW.block g hgw);obtain⟨c0,c1,c2,c3,c4,c5,c6⟩:=ho2.cells
  exact⟨⟨c0,c3⟩,ho2,h.below hW,Za.of_below hW⟩)
 have HL:=hid hl;have HG:=hid (And.intro hg hgv);have hlen:l.length=n:=(hl w (Za.refl _ _)).len;have hlok:=(hl w (Za.refl _ _)).ok;have HLEN:=hid (And.intro hlen (And.intro hlok hC));have e1:yChk S y≠0->encNew S y f l=((0,false,yChk S y),S):=fun h=>by rw[ZaI,if_neg h]
 have e2:yChk S y=0->preChk l≠0->encNew S y f l=((0,false,1),S):=fun h g=>by rw[ZaI,if_pos h,if_neg g]
 have e3:yChk S y=0->preChk l=0->(Zdo S y f l).1.2≠0->encNew S y f l=((0,false,(Zdo S y f l).1.2),(Zdo S y f l).2):=fun h g q=>by rw[ZaI,if_pos h,if_pos g,if_neg q]
 have e4:yChk S y=0->preChk l=0->(Zdo S y f l).1.2=0->encNew S y f l=ZI (Zdo S y f l).2 y 2 f ((Zdo S y f l).1.1.map (encCh f)) (Zdo S y f l).1.1:=fun h g q=>by rw[ZaI,if_pos h,if_pos g,if_pos q]
 have HPC:=hid (fun W (hW:Below w.heap.size w W)=>Zem cap (hl W (Za.of_below hW)) hn (Nat.le_refl W.heap.size));have hp01:preChk l=0∨preChk l=1:=by unfold preChk;split;exact .inr rfl;exact .inl rfl
 have HP6:=hid (fun h=>Zbp (l:=l) h);have HLI:=hid (show ∀W,Below w.heap.size w W->n<=6->Calls prog 106 #[.pointer (some ⟨g,0,none⟩),.slice A n cap] W fun e w'=>Zca W w' X v m c (Zdo S y f l) e from fun W hW h6=>Zii (h.below hW) hgv.2.2 (ho.keep (hW.block g hgw)) hf (fun V hV=>hl V ((Za.of_below hW).trans (hV.mono fun k hk=>.inl hk))) (by omega) (by omega));have HEL:=hid (And.intro (fun h=>ZoO (S:=S) (y:=y) (f:=f) (l:=l) h) (And.intro (Zp4 (y:=y) hdok hlok) (Zm9 S y f l)));have E:=hid (And.intro e1 (And.intro e2 (And.intro e3 e4)));have c5:=(K.out _ hd).1;have HYY:=hid (And.intro hy hf);have HM3:=hid (And.intro h.xv (And.intro h.xm h.xc));clear e1 e2 e3 e4 h ho hl hlok hC hd hy hf hdok;obtain⟨R,hR⟩:∃R,R=encNew S y f l:=⟨_,rfl⟩
 rw[<-hR]at E ⊢;clear hR;unfold maxLen at hn;obtain⟨yc,hyc⟩:∃yc,yc=yChk S y:=⟨_,rfl⟩
 rw[HYR.out,<-hyc]at HY;rw[<-hyc]at E;clear hyc HYR;obtain⟨pc,hpc⟩:∃pc,pc=preChk l:=⟨_,rfl⟩
 rw[<-hpc]at E HPC hp01 HP6;clear hpc;obtain⟨LR,hLR⟩:∃LR,LR=Zdo S y f l:=⟨_,rfl⟩
 rw[<-hLR]at E HLI HEL;clear hLR;go_enter func49,ntmps49;go_wp2_with fail
 go_region_held3 (fun W=>W.cell? ⟨g,0,none⟩=some (.pointer (some ⟨v,0,none⟩))/\W.cell? ⟨g,3,none⟩=some (.int .i64 y))
  (first|with_reducible exact c5|exact c5)
  (first|(go_at_call 99;refine Calls.mono HY.out ?_;rintro e w2 ⟨rfl,h2⟩;have h2:=((Below.refl w.heap.size w).drew).trans h2;have c5:=(K.out _ h2).1))
 have H2:=hid h2;clear c5 h2 HY;by_cases h0:yc=0
 · subst h0;have HPC2:=hid (HPC.out w2 H2.out);clear HPC;go_wp2_with fail;refine HPC2.out.mono ?_;rintro e w3⟨rfl,h3⟩;have H3:=hid (H2.out.trans (h3.mono H2.out.size));clear h3 HPC2 H2;rcases hp01 with rfl|rfl
   · obtain⟨n1,n6,hra⟩:=HP6.out (by first|rfl|trivial);rw[HLEN.out.1]at n1 n6;have E3:=hid (fun h=>E.out.2.2.1 (by first|rfl|trivial) (by first|rfl|trivial) h);have E4:=hid (fun h=>E.out.2.2.2 (by first|rfl|trivial) (by first|rfl|trivial) h);have HLI3:=hid (HLI.out w3 H3.out n6);have HO3:=hid (K.out w3 H3.out).2;have HS3:=hid H3.out.size;clear E HP6 HLI K hra;obtain⟨⟨LL,le⟩,LS⟩:=LR;simp only at E3 E4 HEL;go_wp2_with fail;refine HLI3.out.mono ?_;rintro e w4⟨u,rfl,h4,o4,t4⟩;clear HLI3;have ht4:Za (fun k=>k=c∨k=g) w w4:=HO3.out.2.2.trans (t4.mono fun k hk=>.inl hk);by_cases hle:le=0
     · subst hle;have hER:=E4.out (by first|rfl|trivial);obtain⟨l1,l2,l3⟩:=HEL.out;have hll:=l1 (by first|rfl|trivial);rw[HLEN.out.1]at hll;obtain⟨A',k',rfl,hk'⟩:=o4.shape;rw[hll]at o4 hk' ⊢;have hs3:=HS3.out
       have HROW:=hid (show ∀W,Za (fun k=>k=c∨k=g) w4 W->DlE.R W W.heap.size A' n LL from fun W hW=>by
        have ho:=o4.stays (w':=W) fun q hq=>hW.block q (o4.at_ q hq).2 (fun e=>by have:=(o4.at_ q hq).1;rcases e with e|e <;> omega)
        exact(ho.read l2).2.2)
       have ho4:Zan w4 93 g v 2 y f false:=HO3.out.1.keep (t4.block g (by omega) (fun e=>HG.out.2.2.2 e));have H0:=hid (show Zeh w w4 X v m c g 93 LS 2 y f ((LL.map (encCh f)).take 0)/\Za (fun k=>k=c∨k=g) w4 w4 from⟨⟨rfl,h4,ho4,ht4⟩,Za.refl _ _⟩);have HER:=hid hER;have HLL:=hid (And.intro hll (And.intro l2 (And.intro l3 (And.intro hk' t4.size))));clear hER l1 l2 l3 hll o4 hk' h4 ho4 t4 ht4 E3 E4 HEL HO3 hs3;go_wp2_with fail
       go_loopw[42] (fun iv wr=>∃j:Nat,j<=n/\iv=.int .i64 j/\Hid (Zeh w wr X v m c g 93 LS 2 y f ((LL.map (encCh f)).take j)/\Za (fun k=>k=c∨k=g) w4 wr)) (fun iv _=>n-(intOf iv).toNat)
       case atStart=>exact⟨0,Nat.zero_le _,rfl,H0⟩
       case round=>
        clear H0;obtain⟨j,hj,rfl,HJ⟩:=hrel;by_cases hlt:j<n
        · have hlt':(j:Int)<(n:Int):=by omega
          have hj0:(0:Int)<=(j:Int):=by omega
          obtain⟨⟨hz,hv,hor,ht⟩,ht4⟩:=HJ.out;obtain⟨x,hx⟩:∃x,LL[j]?=some x:=⟨_,List.getElem?_eq_getElem (by rw[HLL.out.1];exact hlt)⟩
          have hxok:=HLL.out.2.1 x (List.mem_of_getElem? hx);obtain⟨b,off,rfl,hb,c0,c1,c2,c3⟩:=ZlF (HROW.out wr ht4) hx;obtain⟨wb,hwb⟩:∃wb,wb=wr.alloc (.cells #[.int .i64 x.nd,.int .i64 x.o,.int .i64 x.l,.int .i64 x.c] 50 (0,0)):=⟨_,rfl⟩
          have hbb:Below wr.heap.size wr wb:=by rw[hwb];exact(Below.refl _ _).alloc (Nat.le_refl _) _
          have hCj:=Zdv y ((LL.map (encCh f)).take j) LS false;rw[List.length_take]at hCj;have hxm:(LL.map (encCh f))[j]?=some (encCh f x):=by rw[List.getElem?_map,hx];rfl
          have hwr:=ht.size;have HCH:=hid (Zg3 (hv.below hbb) HG.out.1 HG.out.2 (hor.keep (hbb.block g (Nat.lt_of_lt_of_le hgw ht.size))) HYY.out.1 x hxok (by have:=HLEN.out.2.2;have:=HLL.out.2.2.1;have:=HLEN.out.1;omega));have HOK:=hid (fun h2=>Zfq hxm hz h2);have HBAD:=hid (fun h2=>Zhv hxm hz h2);have HT:=hid (show Za (fun k=>k=c∨k=g) w wb/\Za (fun k=>k=c∨k=g) w4 wb from⟨ht.trans (Za.of_below hbb),ht4.trans (Za.of_below hbb)⟩);clear hz hv hor ht ht4 hx hb hbb hCj hxm HJ hxok hwr;generalize runC y LS false ((LL.map (encCh f)).take j)=Rj at HCH HOK HBAD;obtain⟨⟨bj,ej⟩,Sj⟩:=Rj;simp only at HCH HOK HBAD;generalize chargeR Sj y (encCh f x).i (encCh f x).p (encCh f x).e (encCh f x).q=R2 at HCH HOK HBAD;obtain⟨⟨r1,r2⟩,S2⟩:=R2;obtain⟨xn,xo,xl,xc⟩:=x;simp only at HCH HOK HBAD hwb c0 c1 c2 c3;go_wp2_with fail;rw[<-hwb];clear hwb c0 c1 c2 c3;refine HCH.out.mono ?_;rintro e w5⟨rfl,h5,o5,t5⟩;clear HCH;by_cases hr2:r2=0
          · subst hr2;have hR:=HOK.out (by first|rfl|trivial)
            have HJ:=hid (show Zeh w w5 X v m c g 93 LS 2 y f ((LL.map (encCh f)).take (j+1))/\Za (fun k=>k=c∨k=g) w4 w5 from by
             refine⟨?_,HT.out.2.trans t5⟩;unfold Zeh;rw[hR]
             exact⟨rfl,h5,o5,HT.out.1.trans t5⟩)
            clear hR h5 o5 t5 HT HOK HBAD;go_wp2_with fail;go_roundw
            case rel=>exact⟨j+1,by omega,by go_num,HJ⟩
            case measure=>simp[intOf];omega
          · have k1:(r2 != 0)=true:=by simp[hr2]
            have hR:=HER.out.trans (ZcL (HBAD.out hr2) hr2)
            have HE:=hid (show ZbW w w5 X v m c g 93 2 y f R (.returned (.tuple #[.int .i64 0,.int .i64 r2]))from by
             rw[hR]
             exact⟨0,rfl,h5,fun h=>absurd h hr2,HT.out.1.trans t5⟩)
            clear hR h5 o5 t5 HT HOK HBAD HER hr2;go_wp2_with fail;go_ret2;exact HE.out
        · obtain rfl:j=n:=by omega
          obtain⟨⟨hz,hv,hor,ht⟩,ht4⟩:=HJ.out;have htm:(LL.map (encCh f)).take j=LL.map (encCh f):=List.take_of_length_le (by rw[List.length_map];have:=HLL.out.1;omega);rw[htm]at hz hv hor;have hCj:=Zdv y (LL.map (encCh f)) LS false;rw[List.length_map]at hCj;have hER:=HER.out;obtain⟨Rj,hRj⟩:∃Rj,Rj=runC y LS false (LL.map (encCh f)):=⟨_,rfl⟩
          rw[<-hRj]at hz hv hor hCj;obtain⟨⟨bj,ej⟩,Sj⟩:=Rj;simp only at hz hv hor hCj;subst hz;rw[ZcM hRj.symm]at hER;have hdr:=(Below.refl wr.heap.size wr).drew
          have hDOK:ZmW ⟨0,2,y,f,0⟩:=by
           intro q hq;simp only[List.mem_cons,List.not_mem_nil,or_false]at hq;rcases hq with rfl|rfl|rfl|rfl|rfl
           · omega
           · omega
           · exact HYY.out.1
           · exact HYY.out.2
           · omega
          have HPUT:=hid (ZeV (hv.below hdr) ⟨0,2,y,f,0⟩ hDOK (HROW.out wr.drew (ht4.trans (Za.of_below hdr))) HLL.out.2.2.2.1 (by unfold maxLen;omega) (by have:=HLEN.out.2.2;have:=HLL.out.2.2.1;have:=HLEN.out.1;have:=HLL.out.1;omega));have hog:=hor.lt
          have K:=hid (show ∀W,Za (fun k=>k=c) wr.drew W->(W.cell? ⟨g,0,none⟩=some (.pointer (some ⟨v,0,none⟩))/\W.cell? ⟨g,1,none⟩=some (.int .i64 0)/\W.cell? ⟨g,2,none⟩=some (.int .i64 2)/\W.cell? ⟨g,3,none⟩=some (.int .i64 y)/\W.cell? ⟨g,4,none⟩=some (.int .i64 f)/\W.cell? ⟨g,5,none⟩=some (.int .i64 0))/\Zan W 93 g v 2 y f bj from fun W hW=>by
           have ho2:=(hor.keep (hdr.block g hog)).keep (hW.block g (Nat.lt_of_lt_of_le hog hdr.size) (fun e=>HG.out.2.2.2 e));obtain⟨c0,c1,c2,c3,c4,c5,c6⟩:=ho2.cells
           exact⟨⟨c0,c1,c2,c3,c4,c5⟩,ho2⟩)
          have c5:=(K.out _ (Za.refl _ _)).1;have HT:=hid (show Za (fun k=>k=c∨k=g) w wr.drew from ht.trans (Za.of_below hdr));have HER2:=hid hER;clear HJ hv hor ht ht4 htm hCj hRj hDOK hog hdr hER HER HROW;generalize putDoc Sj ⟨0,2,y,f,0⟩ LL=PD at HPUT HER2;obtain⟨⟨pa,pb⟩,PS⟩:=PD;simp only at HPUT HER2;go_wp2_with fail
          go_region_held3 (fun W=>W.cell? ⟨g,0,none⟩=some (.pointer (some ⟨v,0,none⟩))/\W.cell? ⟨g,1,none⟩=some (.int .i64 0)/\W.cell? ⟨g,2,none⟩=some (.int .i64 2)/\W.cell? ⟨g,3,none⟩=some (.int .i64 y)/\W.cell? ⟨g,4,none⟩=some (.int .i64 f)/\W.cell? ⟨g,5,none⟩=some (.int .i64 0))
           (first|with_reducible exact c5|exact c5)
           (first|(go_at_call 102;refine Calls.mono HPUT.out ?_;rintro e w5 ⟨rfl,h5,t5⟩;have c5:=(K.out _ t5).1))
          have HE:=hid (show ZbW w w5 X v m c g 93 2 y f R (.returned (.tuple #[.int .i64 pa,.int .i64 pb]))from by
           have ht5:Za (fun k=>k=c∨k=g) w w5:=HT.out.trans (t5.mono fun k hk=>.inl hk);rw[HER2.out];by_cases hb:pb=0
           · rw[if_pos hb];subst hb;exact⟨pa,rfl,h5,fun _=>⟨rfl,(K.out _ t5).2⟩,ht5⟩
           · rw[if_neg hb]
             exact⟨pa,rfl,h5,fun h=>absurd h hb,ht5⟩)
          clear c5 h5 t5 K HT HER2 HPUT;go_wp2_with fail;go_ret2;exact HE.out
     · have k1:(le != 0)=true:=by simp[hle]
       have hR:=E3.out hle
       have HE:=hid (show ZbW w w4 X v m c g 93 2 y f R (.returned (.tuple #[.int .i64 0,.int .i64 le]))from by
        rw[hR]
        exact⟨0,rfl,h4,fun h=>absurd h hle,ht4⟩)
       clear hR h4 o4 t4 ht4 E3 E4 HEL HO3 hle;go_wp2_with fail;go_ret2;exact HE.out
   · have hER:=E.out.2.1 (by first|rfl|trivial) (by decide)
     have HE:=hid (show ZbW w w3 X v m c g 93 2 y f R (.returned (.tuple #[.int .i64 0,.int .i64 1]))from by
      rw[hER]
      exact⟨0,rfl,(K.out w3 H3.out).2.2.1,fun h=>absurd (show(1:Int)=0 from h) (by decide),(K.out w3 H3.out).2.2.2⟩)
     clear hER E K HP6 H3;go_wp2_with fail;go_ret2;exact HE.out
 · have k1:(yc != 0)=true:=by simp[h0]
   have hER:=E.out.1 h0
   have HE:=hid (show ZbW w w2 X v m c g 93 2 y f R (.returned (.tuple #[.int .i64 0,.int .i64 yc]))from by
    rw[hER]
    exact⟨0,rfl,(K.out w2 H2.out).2.2.1,fun h=>absurd h h0,(K.out w2 H2.out).2.2.2⟩)
   clear hER E K HP6 H2 h0;go_wp2_with fail;go_ret2;exact HE.out
end
theorem Zgb{S:VS}{i:Int}(h:∀(j:Int) z,lineAt S i j=some z->ZaE z):∀{n:Nat} {l:List Dl},ZM S i n=some l->∀z∈l,ZaE z
 | 0,l,e=>by cases e;intro z hz;cases hz
 | n+1,l,e=>by
  unfold ZM at e
  split at e
  · cases e
  · rename_i m hm
    split at e
    · cases e
    · rename_i x hx
      cases e;intro z hz;rcases List.mem_append.1 hz with hz|hz
      · exact Zgb h hm z hz
      · rw[List.mem_singleton]at hz;rw[hz];exact h _ _ hx
theorem Ze.docOk{w:World}{X:Nat->Prop}{v m c:Nat}{S:VS}(h:Ze w X v m c S){i:Int}{d:Dc}{st:List Dl}(hd:docGet S i=some (d,st)):∀z∈st,ZaE z:=by
 obtain⟨_,_,_,hl,_⟩:=ZaT hd;refine Zgb (fun j z hz=>?_) hl;unfold lineAt at hz;refine ZmX (Z3 (by omega) _) ?_ hz
 cases e:S.now (lKy i j)with
 | none=>intro x hx;cases hx
 | some b=>exact h.bytes e
theorem Ze5{S:VS}{y k f:Int}{cs:List Chg}{ls:List Dl}:(ZI S y k f cs ls).1.2.2≠0->(ZI S y k f cs ls).1.1=0/\(ZI S y k f cs ls).1.2.1=false:=fun h=>by
 unfold ZI at h ⊢
 split
 · split
   · rename_i p q
     rw[if_pos p,if_pos q]at h;exact absurd rfl h
   · exact⟨rfl,rfl⟩
 · exact⟨rfl,rfl⟩
theorem ZlI{S:VS}{y f:Int}{l:List Ln}:(encNew S y f l).1.2.2≠0->(encNew S y f l).1.1=0/\(encNew S y f l).1.2.1=false:=fun h=>by
 rw[ZaI]at h ⊢;split
 · split
   · split
     · rename_i a b d
       rw[if_pos a,if_pos b,if_pos d]at h;exact Ze5 h
     · exact⟨rfl,rfl⟩
   · exact⟨rfl,rfl⟩
 · exact⟨rfl,rfl⟩
section
variable{w w':World}{X X':Nat->Prop}{v m c g:Nat}{S:VS}
theorem ZlJ(h:Ze w X v m c S){y f:Int}(hy:ZS y)(hf:ZS f){A:Option Addr}{n cap:Nat}{l:List Ln}(hl:∀W,Za (fun k=>k=c) w W->RL W W.heap.size A n l)(hcap:n<=cap)(hn:n<=maxLen)(hC:S.C.length<=90000) :
 Calls prog 12 #[.pointer (some ⟨v,0,none⟩),.int .i64 y,.int .i64 f,.slice A n cap] w fun e w'=>e=.returned (.tuple #[.int .i64 (encNew S y f l).1.1,.bool (encNew S y f l).1.2.1,.int .i64 (encNew S y f l).1.2.2])/\Ze w' X v m c (encNew S y f l).2/\Za (fun k=>k=c) w w':=by
 have hbad:(encNew S y f l).1.2.2≠0->(encNew S y f l).1.1=0/\(encNew S y f l).1.2.1=false:=ZlI;obtain⟨w1,hw1⟩:∃w1,w1=w.alloc (.cells #[.pointer (some ⟨v,0,none⟩),.int .i64 0,.int .i64 2,.int .i64 y,.int .i64 f,.int .i64 0,.bool false] 93 (0,0)):=⟨_,rfl⟩
 have hb1:Below w.heap.size w w1:=by rw[hw1];exact(Below.refl _ _).alloc (Nat.le_refl _) _
 have ho1:Zan w1 93 w.heap.size v 2 y f false:=by rw[hw1];exact heap_alloc_new w _
 have hv1:Ze w1 (fun k=>X k∨k=w.heap.size) v m c S:=by rw[hw1];exact h.box _
 have htn:∀W,Za (fun k=>k=c∨k=w.heap.size) w1 W->Za (fun k=>k=c) w W:=fun W hW=>by rw[hw1]at hW;exact ZiW hW
 have hlt:=(And.intro (h.lt v h.xv) (And.intro (h.lt m h.xm) (h.lt c h.xc)))
 have HP:=hid (Zij hv1 (.inr rfl) (by omega) ho1 hy hf (fun d st hd=>h.docOk hd) (fun W hW=>hl W (htn W hW)) hcap hn hC);have HX:=hid (And.intro h.xv (And.intro h.xm h.xc));have HTN:=hid htn;have HBAD:=hid hbad;clear h hl hC hb1 ho1 hv1 htn hbad hlt;generalize encNew S y f l=R at HP HBAD ⊢;go_enter func12,ntmps12;go_wp2_with fail;rw[<-hw1];clear hw1;refine HP.out.mono ?_;rintro e w2⟨id,rfl,h2,ho2,t2⟩;have HE:=hid (show ∀W,Below w2.heap.size w2 W->Ze W X v m c R.2/\Za (fun k=>k=c) w W from fun W hW=>⟨(h2.below hW).less (fun k hk=>.inl hk) HX.out.1 HX.out.2.1 HX.out.2.2,(HTN.out w2 t2).trans (Za.of_below hW)⟩);obtain⟨⟨ra,rb,re⟩,RS⟩:=R;simp only at ho2 HE HBAD ⊢;clear h2 t2 HP HTN HX;by_cases h0:re=0
 · subst h0;obtain⟨rfl,ho⟩:=ho2 (by first|rfl|trivial);obtain⟨c0,c1,c2,c3,c4,c5,c6⟩:=ho.cells;have hd:=(Below.refl w2.heap.size w2).drew;have d6:w2.drew.cell? ⟨w.heap.size,6,none⟩=some (.bool rb):=(hd.cell (p:=⟨w.heap.size,6,none⟩) ho.lt).trans c6;have HE2:=hid (And.intro (HE.out w2 (Below.refl _ _)) (HE.out w2.drew hd));clear HBAD HE c0 c1 c2 c3 c4 c5 hd ho ho2;go_wp2_with fail;have c5:=d6
   go_region_held3 (fun W=>W.cell? ⟨w.heap.size,6,none⟩=some (.bool rb))
    (first|with_reducible exact c5|exact c5)
    (first|fail)
   clear c5 d6;go_wp2_with fail
   go_ret3
   exact⟨rfl,HE2.out.2⟩
 · have k1:(re != 0)=true:=by simp[h0]
   obtain⟨rfl,rfl⟩:=HBAD.out h0;have HE2:=hid (HE.out w2 (Below.refl _ _));clear HBAD HE ho2 h0;go_wp2_with fail
   go_ret3
   exact⟨rfl,HE2.out⟩
end
end Go.Proofs.YtiknkbpojmgbhaaGreat
