/- MetaW. Conditions: in each theorem. -/
import Derived.Test.YtlmkdmdbpopnhaaGreatDoorG23
import Derived.Laws.Cover3
import Derived.Deep.MidRow
import Derived.Deep.RegionHeld3
set_option maxHeartbeats 6400000
set_option maxRecDepth 100000
set_option linter.unusedVariables false
open Go.Proofs.Tryz
open Go.Lib (hid)
namespace Go.Proofs.YtlmkdmdbpopnhaaGreatDoor
open Go.RowKit
theorem ZnY{w:World}{B n c:Nat}{A:Option Addr}{data:List Int}(hr:RB w B A n data)(hc:n<=c)(hB:B<=w.heap.size)(hm:n<=maxLen) :
 Calls prog 107 #[.slice A n c] w fun e w'=>∃A' k' c',e=.returned (.tuple #[.agg #[.int .i64 (Zbo data).1.d,.int .i64 (Zbo data).1.f,.int .i64 (Zbo data).1.n,.int .i64 (Zbo data).1.c,.slice A' k' c'],.int .i64 (Zbo data).2])/\k'<=c'/\RI w' w'.heap.size A' k' (Zbo data).1.l/\(∀a,A'=some a->w.heap.size<=a.block)/\Below w.heap.size w w':=by
 unfold maxLen at hm;have hlen:=hr.len;have hby:=hr.bytes;have HB0:=hid (ZdA.new w 0 0 0 0 (.slice none 0 0));have hX:Below w.heap.size w (w.alloc (.cells #[.int .i64 0,.int .i64 0,.int .i64 0,.int .i64 0,.slice none 0 0] 41)):=(Below.refl _ _).alloc (ZZe _) _;by_cases h240:n=240
 · subst h240;have hsX:(w.alloc (.cells #[.int .i64 0,.int .i64 0,.int .i64 0,.int .i64 0,.slice none 0 0] 41)).heap.size=w.heap.size+1:=by simp
   have HRD:=hid (Zpg (hr.below (hX.mono hB)) hc (ZZf hB hX.size));have HRX:=hid (fun(w1:World) (hb:Below w.heap.size w w1)=>hr.below (hb.mono hB));have HX:=hid hX;have HBY:=hid hby;have HLEN:=hid hlen;clear hX hr hby hlen;go_enter func107,ntmps107;go_wp2_with fail;refine HRD.out.mono ?_;rintro e w1⟨g,rfl,hg,hi1,hb1⟩;have HGG:=hid (show w.heap.size<=g by rw[hsX]at hg;omega);have hb01:=HX.out.trans (hb1.mono HX.out.size);have hmb1:=HB0.out.below hb1;have hK:=(Zp5 HBY.out HLEN.out).2;have hri1:RI w1 w1.heap.size (some ⟨g,0,none⟩) (ZE data) (ZgY data 18 4 (ZE data)):=hi1.ri (Zbv _ _ _ _) (Ze1 HBY.out _ _ _);have hX2:Below w1.heap.size w1 (w1.alloc (.cells #[.int .i64 (at_ data 4 1),.int .i64 (at_ data 6 4),.int .i64 (at_ data 10 4),.int .i64 (at_ data 14 4),.slice (some ⟨g,0,none⟩) (ZE data) (ZE data)] 41)):=(Below.refl _ _).alloc (ZZe _) _;have HPT:=hid (ZkB (w:=w1.alloc (.cells #[.int .i64 (at_ data 4 1),.int .i64 (at_ data 6 4),.int .i64 (at_ data 10 4),.int .i64 (at_ data 14 4),.slice (some ⟨g,0,none⟩) (ZE data) (ZE data)] 41)) (cap:=ZE data) (at_ data 4 1) (at_ data 6 4) (at_ data 10 4) (at_ data 14 4) ((hri1.below hX2).more hX2.size) (by unfold maxLen;omega) (ZdB HBY.out _ _) (ZdB HBY.out _ _) (ZdB HBY.out _ _) (ZdB HBY.out _ _));rw[<-Zqy]at HPT;have HK1:=hid (ZZg hb01 (ZZg hmb1 (ZZg hi1 hX2)));clear hb1 hb01 hmb1 hi1 hri1 hX2 HRD;go_wp2_with fail;refine HPT.out.mono ?_;by_cases hmay:Zft (Zez data (ZE data))=true
   · have hP:Ziy (Zez data (ZE data))=(ZM (Zez data (ZE data)),0):=by unfold Ziy;rw[if_pos hmay]
     rw[hP];rintro e w2⟨A2,n2,c2,rfl,hc2,hr2,hb2⟩
     have hl2:(ZM (Zez data (ZE data))).length=240:=ZaE (by
      have:=(ZeZ hmay).2.1.2
      omega)
     obtain rfl:n2=240:=by rw[<-hr2.len];exact hl2
     obtain⟨ab,ao,rfl,hab,_⟩:=hr2.at_ (by decide);obtain⟨hb01,hmb1,hi1,hX2⟩:=HK1.out;have hb12:=hX2.trans (hb2.mono hX2.size);have hb02:=hb01.trans (hb12.mono hb01.size);have hrd2:=HRX.out w2 hb02;obtain⟨db,dof,rfl,hdb,_⟩:=hrd2.at_ (by decide);have q1:=Zgk hr2;have q2:=Zgk hrd2;have p1:∀W:World,(Instr.arrayAt 222 (.slice (some ⟨ab,ao,none⟩) 240 c2)).run prog W=.ok (.pointer (some ⟨ab,ao,none⟩)) W:=fun W=>run_arrayAt W 222 5 240 (some ⟨ab,ao,none⟩) 240 c2 underlying222 (ZZe _)
     have p2:∀W:World,(Instr.arrayAt 222 (.slice (some ⟨db,dof,none⟩) 240 c)).run prog W=.ok (.pointer (some ⟨db,dof,none⟩)) W:=fun W=>run_arrayAt W 222 5 240 (some ⟨db,dof,none⟩) 240 c underlying222 (ZZe _)
     obtain⟨j0,hj,_⟩:∃j0,prog.info? 5=some j0/\True:=by
      cases hq:prog.info? 5 with
      | none=>have:=ZfJ;rw[hq]at this;cases this
      | some j0=>exact⟨j0,rfl,trivial⟩
     have qn:=fun W:World=>ZnV (P:=prog) W 222 5 .u8 240 (ZM (Zez data (ZE data))) data underlying222 underlying5 hj (by kernel_rfl) hl2 HLEN.out
     generalize hplq:ZM (Zez data (ZE data))=pl at *;have HPL:=hid hplq;clear hplq;have hu43:=underlying222;have hi43:(prog.info? 222).map (·.size)=some 240:=by kernel_rfl
     have hza:(prog.info? 222).map (·.size)=some (pl.map (Value.int .u8)).length:=by rw[List.length_map,hl2];exact hi43
     have hzb:(prog.info? 222).map (·.size)=some (data.map (Value.int .u8)).length:=by rw[List.length_map,HLEN.out];exact hi43
     clear hl2 hi43;have hmbm:=(ZdA.new w1 (at_ data 4 1) (at_ data 6 4) (at_ data 10 4) (at_ data 14 4) (.slice (some ⟨g,0,none⟩) (ZE data) (ZE data))).below hb2;obtain⟨m0,m1,m2,m3,m4,_⟩:=hmbm.cells;have hmr:=hmb1.below hb12;have f0:=hmr.frozen 0;have f1:=hmr.frozen 1;have f2:=hmr.frozen 2;have f3:=hmr.frozen 3;have f4:=hmr.frozen 4;obtain⟨z0,z1,z2,z3,z4,_⟩:=hmr.cells;have HI2:=hid (ZZg hmr (ZZg (hi1.keep (hb12.block _ hi1.lt)) (ZZg hb02 hmay)));have hg':g≠w.heap.size:=by have:=hb01.size;rw[hsX]at hg;omega
     clear hmr hmbm hmb1 hi1 hX2 hb12 hb02 hb01 hmay hb2 hr2 hrd2 hP;go_wp2_with fail;refine wp_region_held_drew (S:=(fun w'=>w'.rangeAt ab ao (pl.map (Value.int .u8))/\w'.rangeAt db dof (data.map (Value.int .u8)))) (by kernel_rfl) ⟨q1,q2⟩ (fun hHeld=>?_);refine wpAnyH_take (i:=0) (oi:={dst:=some 18,op:=.move (.tmp 6),type:=_,pos:=_,after:=_,guard:=_}) (v:=.int .i64 0) rfl (by kernel_rfl) (by kernel_rfl) (by kernel_rfl) (fun _ _ _ h=>h) (Or.inl ⟨by rfl,fun w hSw=>?_⟩) (by assumption) ?_
     · go_simp
     simp only[Act.put,List.setIfInBounds_toArray,List.set_cons_zero,List.set_cons_succ];refine wpAnyH_take (i:=1) (oi:={dst:=some 19,op:=.binOp .neq 32 (.tmp 18) (.const (.int .i64 0)) 32,type:=_,pos:=_,after:=_,guard:=_}) (v:=.bool false) rfl (by kernel_rfl) (by kernel_rfl) (by kernel_rfl) (fun _ _ _ h=>h) (Or.inl ⟨by rfl,fun w hSw=>?_⟩) (by assumption) ?_
     · go_simp
     simp only[Act.put,List.setIfInBounds_toArray,List.set_cons_zero,List.set_cons_succ];refine wpAnyH_take (i:=2) (oi:={dst:=some 20,op:=.move (.tmp 19),type:=_,pos:=_,after:=_,guard:=_}) (v:=.bool false) rfl (by kernel_rfl) (by kernel_rfl) (by kernel_rfl) (fun _ _ _ h=>h) (Or.inl ⟨by rfl,fun w hSw=>?_⟩) (by assumption) ?_
     · go_simp
     simp only[Act.put,List.setIfInBounds_toArray,List.set_cons_zero,List.set_cons_succ];refine wpAnyH_take (i:=3) (oi:={dst:=some 21,op:=.move (.tmp 5),type:=_,pos:=_,after:=_,guard:=_}) (v:=.slice (some ⟨ab,ao,none⟩) 240 c2) rfl (by kernel_rfl) (by kernel_rfl) (by kernel_rfl) (fun _ _ _ h=>h) (Or.inl ⟨by rfl,fun w hSw=>?_⟩) (by assumption) ?_
     · go_simp
     simp only[Act.put,List.setIfInBounds_toArray,List.set_cons_zero,List.set_cons_succ];refine wpAnyH_take (i:=4) (oi:={dst:=some 22,op:=.sliceToArrayPointer 222 (.tmp 21),type:=_,pos:=_,after:=_,guard:=_}) (v:=.pointer (some ⟨ab,ao,none⟩)) rfl (by kernel_rfl) (by kernel_rfl) (by kernel_rfl) (fun _ _ _ h=>h) (Or.inl ⟨by rfl,fun w hSw=>?_⟩) (by assumption) ?_
     · go_simp
     simp only[Act.put,List.setIfInBounds_toArray,List.set_cons_zero,List.set_cons_succ];refine' wpAnyH_take (i:=5) (oi:={dst:=some 23,op:=.load 222 (.tmp 22),type:=_,pos:=_,after:=_,guard:=_}) (v:=_) rfl (by kernel_rfl) (by kernel_rfl) (by kernel_rfl) (fun _ _ _ h=>h) (yieldsIf_load_mid (by rfl) _ _ rfl _ _ rfl (pl.map (Value.int .u8)) _ (fun w h=>h.1) hu43 rfl hza) (by assumption) ?_;simp only[Act.put,List.setIfInBounds_toArray,List.set_cons_zero,List.set_cons_succ];refine wpAnyH_take (i:=6) (oi:={dst:=some 24,op:=.move (.tmp 0),type:=_,pos:=_,after:=_,guard:=_}) (v:=.slice (some ⟨db,dof,none⟩) 240 c) rfl (by kernel_rfl) (by kernel_rfl) (by kernel_rfl) (fun _ _ _ h=>h) (Or.inl ⟨by rfl,fun w hSw=>?_⟩) (by assumption) ?_
     · go_simp
     simp only[Act.put,List.setIfInBounds_toArray,List.set_cons_zero,List.set_cons_succ];refine wpAnyH_take (i:=7) (oi:={dst:=some 25,op:=.sliceToArrayPointer 222 (.tmp 24),type:=_,pos:=_,after:=_,guard:=_}) (v:=.pointer (some ⟨db,dof,none⟩)) rfl (by kernel_rfl) (by kernel_rfl) (by kernel_rfl) (fun _ _ _ h=>h) (Or.inl ⟨by rfl,fun w hSw=>?_⟩) (by assumption) ?_
     · go_simp
     simp only[Act.put,List.setIfInBounds_toArray,List.set_cons_zero,List.set_cons_succ];refine' wpAnyH_take (i:=8) (oi:={dst:=some 26,op:=.load 222 (.tmp 25),type:=_,pos:=_,after:=_,guard:=_}) (v:=_) rfl (by kernel_rfl) (by kernel_rfl) (by kernel_rfl) (fun _ _ _ h=>h) (yieldsIf_load_mid (by rfl) _ _ rfl _ _ rfl (data.map (Value.int .u8)) _ (fun w h=>h.2) hu43 rfl hzb) (by assumption) ?_;simp only[Act.put,List.setIfInBounds_toArray,List.set_cons_zero,List.set_cons_succ];refine wpAnyH_take (i:=9) (oi:={dst:=some 27,op:=.binOp .neq 222 (.tmp 23) (.tmp 26) 222,type:=_,pos:=_,after:=_,guard:=_}) (v:=.bool (!decide (pl=data))) rfl (by kernel_rfl) (by kernel_rfl) (by kernel_rfl) (fun _ _ _ h=>h) (Or.inl ⟨by rfl,fun w hSw=>?_⟩) (by assumption) ?_
     · go_simp
     simp only[Act.put,List.setIfInBounds_toArray,List.set_cons_zero,List.set_cons_succ];refine wpAnyH_take (i:=10) (oi:={dst:=some 28,op:=.pick (.tmp 20) (.const (.bool true)) (.tmp 27),type:=_,pos:=_,after:=_,guard:=_}) (v:=.bool (!decide (pl=data))) rfl (by kernel_rfl) (by kernel_rfl) (by kernel_rfl) (fun _ _ _ h=>h) (Or.inl ⟨by rfl,fun w hSw=>?_⟩) (by assumption) ?_
     · go_simp
     simp only[Act.put,List.setIfInBounds_toArray,List.set_cons_zero,List.set_cons_succ];refine wpAnyH_done (by kernel_rfl) ?_ _;by_cases hpd:pl=data
     · have hkd:(!decide (pl=data))=false:=by simpa using hpd
       have hps:Zbo data=(Zez data (ZE data),0):=by
        unfold Zbo;rw[if_pos ⟨HLEN.out,HI2.out.2.2.2,by rw[HPL.out];exact hpd⟩]
       have HPS:=hid hps;have HS:=hid (show ZdA (((((w2.setCell ⟨w.heap.size,0,none⟩ (Value.int IntKind.i64 (at_ data 4 1))).setCell ⟨w.heap.size,1,none⟩ (Value.int IntKind.i64 (at_ data 6 4))).setCell ⟨w.heap.size,2,none⟩ (Value.int IntKind.i64 (at_ data 10 4))).setCell ⟨w.heap.size,3,none⟩ (Value.int IntKind.i64 (at_ data 14 4))).setCell ⟨w.heap.size,4,none⟩ (Value.slice (some ⟨g,0,none⟩) (ZE data) (ZE data))).drew w.heap.size (at_ data 4 1) (at_ data 6 4) (at_ data 10 4) (at_ data 14 4) (.slice (some ⟨g,0,none⟩) (ZE data) (ZE data))/\ZgZ (((((w2.setCell ⟨w.heap.size,0,none⟩ (Value.int IntKind.i64 (at_ data 4 1))).setCell ⟨w.heap.size,1,none⟩ (Value.int IntKind.i64 (at_ data 6 4))).setCell ⟨w.heap.size,2,none⟩ (Value.int IntKind.i64 (at_ data 10 4))).setCell ⟨w.heap.size,3,none⟩ (Value.int IntKind.i64 (at_ data 14 4))).setCell ⟨w.heap.size,4,none⟩ (Value.slice (some ⟨g,0,none⟩) (ZE data) (ZE data))).drew g (ZgY data 18 4 (ZE data))/\Below w.heap.size w (((((w2.setCell ⟨w.heap.size,0,none⟩ (Value.int IntKind.i64 (at_ data 4 1))).setCell ⟨w.heap.size,1,none⟩ (Value.int IntKind.i64 (at_ data 6 4))).setCell ⟨w.heap.size,2,none⟩ (Value.int IntKind.i64 (at_ data 10 4))).setCell ⟨w.heap.size,3,none⟩ (Value.int IntKind.i64 (at_ data 14 4))).setCell ⟨w.heap.size,4,none⟩ (Value.slice (some ⟨g,0,none⟩) (ZE data) (ZE data))).drew from⟨ZdA.store (w:=w2) HI2.out.1 _ _ _ _ _,ZgZ.keep (w:=w2) HI2.out.2.1 (Ze2 hg'),(ZdQ HI2.out.2.2.1 (ZZe _)).drew⟩);clear hpd hps;rw[hkd];clear hkd;go_wp2;generalize hXX:(((((w2.setCell ⟨w.heap.size,0,none⟩ (Value.int IntKind.i64 (at_ data 4 1))).setCell ⟨w.heap.size,1,none⟩ (Value.int IntKind.i64 (at_ data 6 4))).setCell ⟨w.heap.size,2,none⟩ (Value.int IntKind.i64 (at_ data 10 4))).setCell ⟨w.heap.size,3,none⟩ (Value.int IntKind.i64 (at_ data 14 4))).setCell ⟨w.heap.size,4,none⟩ (Value.slice (some ⟨g,0,none⟩) (ZE data) (ZE data))).drew=X at *;obtain⟨d0,d1,d2,d3,d4,_⟩:=HS.out.1.cells;go_wp2
       refine bodyPost_ret (v:=.tuple #[.agg #[.int .i64 (at_ data 4 1),.int .i64 (at_ data 6 4),.int .i64 (at_ data 10 4),.int .i64 (at_ data 14 4),.slice (some ⟨g,0,none⟩) (ZE data) (ZE data)],.int .i64 0]) (by
        simp[results,Tryz.results107,go_sem,d0,d1,d2,d3,d4]) rfl ?_
       rw[HPS.out];exact⟨_,_,_,rfl,ZZe _,HS.out.2.1.ri (Zbv _ _ _ _) (Ze1 HBY.out _ _ _),(fun a ha=>by cases ha;exact HGG.out),HS.out.2.2⟩
     · have hkd:(!decide (pl=data))=true:=by simpa using hpd
       have hps:Zbo data=(MV.zero,4):=by
        unfold Zbo;rw[if_neg (fun h=>hpd (by rw[<-HPL.out];exact h.2.2))]
       have HPS:=hid hps;have HS:=hid (show ZdA (((((w2.setCell ⟨w.heap.size,0,none⟩ (Value.int IntKind.i64 0)).setCell ⟨w.heap.size,1,none⟩ (Value.int IntKind.i64 0)).setCell ⟨w.heap.size,2,none⟩ (Value.int IntKind.i64 0)).setCell ⟨w.heap.size,3,none⟩ (Value.int IntKind.i64 0)).setCell ⟨w.heap.size,4,none⟩ (Value.slice none 0 0)).drew w.heap.size 0 0 0 0 (.slice none 0 0)/\Below w.heap.size w (((((w2.setCell ⟨w.heap.size,0,none⟩ (Value.int IntKind.i64 0)).setCell ⟨w.heap.size,1,none⟩ (Value.int IntKind.i64 0)).setCell ⟨w.heap.size,2,none⟩ (Value.int IntKind.i64 0)).setCell ⟨w.heap.size,3,none⟩ (Value.int IntKind.i64 0)).setCell ⟨w.heap.size,4,none⟩ (Value.slice none 0 0)).drew from⟨ZdA.store (w:=w2) HI2.out.1 _ _ _ _ _,(ZdQ HI2.out.2.2.1 (ZZe _)).drew⟩);clear hpd hps;rw[hkd];clear hkd;go_wp2;generalize hXX:(((((w2.setCell ⟨w.heap.size,0,none⟩ (Value.int IntKind.i64 0)).setCell ⟨w.heap.size,1,none⟩ (Value.int IntKind.i64 0)).setCell ⟨w.heap.size,2,none⟩ (Value.int IntKind.i64 0)).setCell ⟨w.heap.size,3,none⟩ (Value.int IntKind.i64 0)).setCell ⟨w.heap.size,4,none⟩ (Value.slice none 0 0)).drew=X at *;obtain⟨d0,d1,d2,d3,d4,_⟩:=HS.out.1.cells;go_wp2
       refine bodyPost_ret (v:=.tuple #[.agg #[.int .i64 0,.int .i64 0,.int .i64 0,.int .i64 0,.slice none 0 0],.int .i64 4]) (by
        simp[results,Tryz.results107,go_sem,d0,d1,d2,d3,d4]) rfl ?_
       rw[HPS.out];exact⟨none,0,0,rfl,ZZe _,RI.nil_,(fun a ha=>by cases ha),HS.out.2⟩
   · have hP:Ziy (Zez data (ZE data))=([],1):=by unfold Ziy;rw[if_neg hmay]
     have HPS:=hid (show Zbo data=(MV.zero,4)from by
      unfold Zbo
      rw[if_neg (fun h=>hmay h.2.1)])
     rw[hP];rintro e w2⟨A2,n2,c2,rfl,hc2,hr2,hb2⟩;obtain⟨hb01,hmb1,hi1,hX2⟩:=HK1.out;have hb12:=hX2.trans (hb2.mono hX2.size);have hb02:=hb01.trans (hb12.mono hb01.size);have hmr:=hmb1.below hb12;have f0:=hmr.frozen 0;have f1:=hmr.frozen 1;have f2:=hmr.frozen 2;have f3:=hmr.frozen 3;have f4:=hmr.frozen 4;obtain⟨z0,z1,z2,z3,z4,_⟩:=hmr.cells;have HS:=hid (show ZdA (((((w2.setCell ⟨w.heap.size,0,none⟩ (Value.int IntKind.i64 0)).setCell ⟨w.heap.size,1,none⟩ (Value.int IntKind.i64 0)).setCell ⟨w.heap.size,2,none⟩ (Value.int IntKind.i64 0)).setCell ⟨w.heap.size,3,none⟩ (Value.int IntKind.i64 0)).setCell ⟨w.heap.size,4,none⟩ (Value.slice none 0 0)).drew w.heap.size 0 0 0 0 (.slice none 0 0)/\Below w.heap.size w (((((w2.setCell ⟨w.heap.size,0,none⟩ (Value.int IntKind.i64 0)).setCell ⟨w.heap.size,1,none⟩ (Value.int IntKind.i64 0)).setCell ⟨w.heap.size,2,none⟩ (Value.int IntKind.i64 0)).setCell ⟨w.heap.size,3,none⟩ (Value.int IntKind.i64 0)).setCell ⟨w.heap.size,4,none⟩ (Value.slice none 0 0)).drew from⟨ZdA.store (w:=w2) hmr _ _ _ _ _,(ZdQ hb02 (ZZe _)).drew⟩);clear hmr hmb1 hi1 hX2 hb12 hb02 hb01 hb2 hr2 hP hmay;go_wp2_with fail
     first
      | go_region
      | fail
     go_wp2;generalize hXX:(((((w2.setCell ⟨w.heap.size,0,none⟩ (Value.int IntKind.i64 0)).setCell ⟨w.heap.size,1,none⟩ (Value.int IntKind.i64 0)).setCell ⟨w.heap.size,2,none⟩ (Value.int IntKind.i64 0)).setCell ⟨w.heap.size,3,none⟩ (Value.int IntKind.i64 0)).setCell ⟨w.heap.size,4,none⟩ (Value.slice none 0 0)).drew=X at *;obtain⟨d0,d1,d2,d3,d4,_⟩:=HS.out.1.cells;go_wp2
     refine bodyPost_ret (v:=.tuple #[.agg #[.int .i64 0,.int .i64 0,.int .i64 0,.int .i64 0,.slice none 0 0],.int .i64 4]) (by
      simp[results,Tryz.results107,go_sem,d0,d1,d2,d3,d4]) rfl ?_
     rw[HPS.out];exact⟨none,0,0,rfl,ZZe _,RI.nil_,(fun a ha=>by cases ha),HS.out.2⟩
 · have hps:Zbo data=(MV.zero,4):=by
    unfold Zbo;rw[if_neg (fun h=>h240 (by rw[<-hlen];exact h.1))]
   have HPS:=hid hps;have k1:((n:Int) != 240)=true:=by simp;omega
   have HX:=hid hX;obtain⟨z0,z1,z2,z3,z4,_⟩:=HB0.out.cells;clear hps h240 hX hr hby hlen;go_enter func107,ntmps107;go_wp2
   refine bodyPost_ret (v:=.tuple #[.agg #[.int .i64 0,.int .i64 0,.int .i64 0,.int .i64 0,.slice none 0 0],.int .i64 4]) (by
    simp[results,Tryz.results107,go_sem,z0,z1,z2,z3,z4]) rfl ?_
   rw[HPS.out];exact⟨none,0,0,rfl,ZZe _,RI.nil_,(fun a ha=>by cases ha),HX.out⟩
end Go.Proofs.YtlmkdmdbpopnhaaGreatDoor
