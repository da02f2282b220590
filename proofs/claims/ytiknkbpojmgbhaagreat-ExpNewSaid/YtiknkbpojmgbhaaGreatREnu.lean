/- RAm, RBal, REnt, REnu. Conditions: in each theorem. -/
import Derived.Test.YtiknkbpojmgbhaaGreatAmtV
import Derived.Test.YtiknkbpojmgbhaaGreatDocS
import Derived.Test.YtiknkbpojmgbhaaGreatBalB
import Derived.Test.YtiknkbpojmgbhaaGreatExpF
import Derived.Test.YtiknkbpojmgbhaaGreatItfR
import Derived.Test.YtiknkbpojmgbhaaGreatPreG
import Derived.Test.YtiknkbpojmgbhaaGreatExpP
set_option maxHeartbeats 12800000
set_option maxRecDepth 100000
set_option linter.unusedVariables false
open Go.Proofs.Tryz
open Go.Lib (hid)
namespace Go.Proofs.YtiknkbpojmgbhaaGreat
open Go.RowKit
theorem ZJ(a:Int)(w:World):Calls prog 282 #[.int .i64 a] w fun e w'=>e=.returned (.bool (ZU a))/\w=w':=by
 unfold ZU;by_cases h : -4611686018427387904<=a
 · go_enter func282,ntmps282;go_wp2;go_ret;simp[h]
 · go_enter func282,ntmps282;go_wp2;go_ret;simp;omega
theorem Zkn(a b:Int)(w:World):Calls prog 249 #[.int .i64 a,.int .i64 b] w fun e w'=>e=.returned (.tuple #[.int .i64 (amtAddR a b).1,.int .i64 (amtAddR a b).2])/\w=w':=by
 unfold amtAddR
 cases ha:ZU a
 · simp only[Bool.false_and,Bool.false_eq_true,if_false];go_enter func249,ntmps249
   go_wp2_with (refine(ZJ _ _).mono ?_;rw[ha];rintro e w' ⟨rfl,rfl⟩)
   go_ret2;exact⟨rfl,rfl⟩
 · cases hb:ZU b
   · simp only[Bool.false_and,Bool.and_false,Bool.false_eq_true,if_false];go_enter func249,ntmps249;go_wp2_with fail;refine(ZJ _ _).mono ?_;rw[ha];rintro e w' ⟨rfl,rfl⟩;go_wp2_with fail;refine(ZJ _ _).mono ?_;rw[hb];rintro e w' ⟨rfl,rfl⟩;go_wp2_with fail;go_ret2;exact⟨rfl,rfl⟩
   · have hA:=(Za1 a).1 ha;have hB:=(Za1 b).1 hb;by_cases hs : -4611686018427387904<=a+b/\a+b<=4611686018427387904
     · have hk:IntKind.i64.wrap (a+b)=a+b:=by rw[IntKind.wrap_i64];omega
       rw[(Za1 (a+b)).2 hs];simp only[Bool.and_self,if_true];obtain⟨s,hS⟩:∃s,a+b=s:=⟨_,rfl⟩
       rw[hS]at hs ⊢;have hk:IntKind.i64.wrap (a+b)=s:=by rw[hk,hS]
       rcases(show 0<a∨a=0∨a<0 by omega)with h0|h0|h0
       · -- a above 0
         have d1:decide (0<a)=true:=by simp;omega
         have d2:decide (a<0)=false:=by simp;omega
         obtain⟨p,hp⟩:∃p,4611686018427387904-a=p:=⟨_,rfl⟩
         have k1:IntKind.i64.wrap (4611686018427387904-a)=p:=by rw[IntKind.wrap_i64];omega
         have d3:decide (p<b)=false:=by simp;omega
         have HS:=hid hS;clear h0 hp hA hB hS;go_enter func249,ntmps249;go_wp2_with fail;refine(ZJ _ _).mono ?_;rw[ha];rintro e w' ⟨rfl,rfl⟩;go_wp2_with fail;refine(ZJ _ _).mono ?_;rw[hb];rintro e w' ⟨rfl,rfl⟩;go_wp2_with fail;go_ret2;obtain rfl:=HS.out;exact⟨rfl,rfl⟩
       · subst h0;obtain rfl:b=s:=by omega
         clear hS hA hB;go_enter func249,ntmps249;go_wp2_with fail;refine(ZJ _ _).mono ?_;rw[ha];rintro e w' ⟨rfl,rfl⟩;go_wp2_with fail;refine(ZJ _ _).mono ?_;rw[hb];rintro e w' ⟨rfl,rfl⟩;go_wp2_with fail;go_ret2;exact⟨rfl,rfl⟩
       · -- a below 0
         have d1:decide (0<a)=false:=by simp;omega
         have d2:decide (a<0)=true:=by simp;omega
         obtain⟨q,hq⟩:∃q,-4611686018427387904-a=q:=⟨_,rfl⟩
         have k2:IntKind.i64.wrap (-4611686018427387904-a)=q:=by rw[IntKind.wrap_i64];omega
         have d3:decide (b<q)=false:=by simp;omega
         have HS:=hid hS;clear h0 hq hA hB hS;go_enter func249,ntmps249;go_wp2_with fail;refine(ZJ _ _).mono ?_;rw[ha];rintro e w' ⟨rfl,rfl⟩;go_wp2_with fail;refine(ZJ _ _).mono ?_;rw[hb];rintro e w' ⟨rfl,rfl⟩;go_wp2_with fail;go_ret2;obtain rfl:=HS.out;exact⟨rfl,rfl⟩
     · have hn:ZU (a+b)=false:=by rw[Bool.eq_false_iff];exact fun h=>hs ((Za1 _).1 h)
       rw[hn];simp only[Bool.and_false,Bool.false_eq_true,if_false];have hS:=hs
       rcases(show 0<a∨a=0∨a<0 by omega)with h0|h0|h0
       · -- a above 0
         have d1:decide (0<a)=true:=by simp;omega
         have d2:decide (a<0)=false:=by simp;omega
         obtain⟨p,hp⟩:∃p,4611686018427387904-a=p:=⟨_,rfl⟩
         have k1:IntKind.i64.wrap (4611686018427387904-a)=p:=by rw[IntKind.wrap_i64];omega
         have d3:decide (p<b)=true:=by simp;omega
         clear hs h0 hp hA hB hS;go_enter func249,ntmps249;go_wp2_with fail;refine(ZJ _ _).mono ?_;rw[ha];rintro e w' ⟨rfl,rfl⟩;go_wp2_with fail;refine(ZJ _ _).mono ?_;rw[hb];rintro e w' ⟨rfl,rfl⟩;go_wp2_with fail;go_ret2;exact⟨rfl,rfl⟩
       · omega
       · -- a below 0
         have d1:decide (0<a)=false:=by simp;omega
         have d2:decide (a<0)=true:=by simp;omega
         obtain⟨q,hq⟩:∃q,-4611686018427387904-a=q:=⟨_,rfl⟩
         have k2:IntKind.i64.wrap (-4611686018427387904-a)=q:=by rw[IntKind.wrap_i64];omega
         have d3:decide (b<q)=true:=by simp;omega
         clear hs h0 hq hA hB hS;go_enter func249,ntmps249;go_wp2_with fail;refine(ZJ _ _).mono ?_;rw[ha];rintro e w' ⟨rfl,rfl⟩;go_wp2_with fail;refine(ZJ _ _).mono ?_;rw[hb];rintro e w' ⟨rfl,rfl⟩;go_wp2_with fail;go_ret2;exact⟨rfl,rfl⟩
end Go.Proofs.YtiknkbpojmgbhaaGreat
namespace Go.Proofs.YtiknkbpojmgbhaaGreat
open Go.RowKit Go.Maps
section
variable{w w':World}{X:Nat->Prop}{x p q r N:Nat}{a:TL}{S:VS}
theorem Zq0(h:ZP w X x p q r a S N)(hN:N<=1000000000){A:Option Addr}{n k B:Nat}{l:List Int}(hr:RB w B A n l)(hB:B<=w.heap.size) :
 Calls prog 178 #[.pointer (some ⟨x,0,none⟩),.slice A n k] w fun e w'=>∃ok,e=.returned (.tuple #[.int .i64 (seqV (S.now (tx l))),.bool ok])/\Below w.heap.size w w':=by
 obtain⟨b,d,h1,h2,h3,h4⟩:=h
 have:=ZhL (k:=k) h1 (Nat.le_trans h3 (by omega)) hr hB
 rwa[h2.now]at this
theorem Zq1(h:ZP w X x p q r a S N)(hN:N<=1000000000){A A':Option Addr}{n k n' k':Nat}{K V:List Int}(hk:SV w X (.slice A n k) K)(hv:SV w X (.slice A' n' k') V)(h0:putE K V=0) :
 Calls prog 98 #[.pointer (some ⟨x,0,none⟩),.slice A n k,.slice A' n' k'] w fun e w'=>e=.returned (.int .i64 0)/\ZP w' X x p q r a (S.put (tx K) V) (N+1)/\Za (fun k=>k=q∨k=r) w w':=by
 obtain⟨b,d,h1,h2,h3,h4⟩:=h
 have:=Zcs h1 (Nat.le_trans h3 (by omega)) (Nat.le_trans h4 (by omega)) hk hv
 rw[if_pos h0,if_pos h0,h0]at this;refine this.mono ?_;rintro e w'⟨rfl,h5,h6⟩;exact⟨rfl,⟨_,_,h5,h2.put _ _,Nat.le_trans (ZL _ _ _) (Nat.succ_le_succ h3),Nat.le_trans (ZL _ _ _) (Nat.succ_le_succ h4)⟩,h6⟩
theorem Zq2(h:ZP w X x p q r a S N)(hN:N<=1000000000){A:Option Addr}{n k:Nat}{K:List Int}(hk:SV w X (.slice A n k) K) :
 Calls prog 251 #[.pointer (some ⟨x,0,none⟩),.slice A n k] w fun e w'=>(∃bb,e=.returned (.bool bb))/\ZP w' X x p q r a (S.del (tx K)) (N+1)/\Za (fun k=>k=q∨k=r) w w':=by
 obtain⟨b,d,h1,h2,h3,h4⟩:=h
 have:=ZhE h1 (Nat.le_trans h3 (by omega)) (Nat.le_trans h4 (by omega)) hk
 refine this.mono ?_;rintro e w'⟨rfl,h5,h6⟩;refine⟨⟨_,rfl⟩,⟨_,_,h5,h2.del _,?_,?_⟩,h6⟩
 · split
   · exact Nat.le_trans (List.length_filter_le _ _) (Nat.le_succ_of_le h3)
   · exact Nat.le_succ_of_le h3
 · split
   · exact Nat.le_trans (ZL _ _ _) (Nat.succ_le_succ h4)
   · exact Nat.le_succ_of_le h4
theorem Zfw(y f o:Int)(W:World)(g:Nat)(T:TypeId)(h:W.heap[g]?=some (.cells #[.int .i64 y,.int .i64 f,.int .i64 o] T (0,0)))(hy:I64 y)(hf:I64 f)(ho:I64 o) :
 Calls prog 126 #[.int .u8 66,.slice (some ⟨g,0,none⟩) 3 3] W fun e w'=>∃A c,e=.returned (.slice A 13 c)/\SV w' (fun k=>k<W.heap.size) (.slice A 13 c) (Zi 66 [y,f,o])/\Below W.heap.size W w':=by
 have hr:RI W W.heap.size (some ⟨g,0,none⟩) 3 [y,f,o]:=by
  refine⟨rfl,fun z hz=>by
   simp only[List.mem_cons,List.not_mem_nil,or_false]at hz;rcases hz with rfl|rfl|rfl
   · exact hy
   · exact hf
   · exact ho,fun _=>⟨g,0,rfl,(Array.getElem?_eq_some_iff.1 h).1,fun j hj=>?_⟩⟩
  rw[Nat.zero_add,cell_of_row W g j _ T (0,0) h];have hj3:j<3:=hj;obtain rfl|rfl|rfl:j=0∨j=1∨j=2:=by omega
  · rfl
  · rfl
  · rfl
 refine(ZeH 66 _ 3 3 _ [y,f,o] W (by omega) hr (Nat.le_refl _) (Nat.le_refl _) (by decide)).mono ?_;rintro e w'⟨u,rfl,ho⟩;have hs:=Zeq ho (Zk (by omega) _) (by rw[ZfT];omega);obtain⟨A,c,rfl,h1,h2⟩:=ho.read (Zk (by omega) _);rw[ZfT]at hs ⊢;exact⟨A,c,rfl,hs,ho.2⟩
theorem Zko(h:ZP w X x p q r a S N)(hN:N<=1000000000)(y f o:Int)(hy:I64 y)(hf:I64 f)(ho:I64 o) :
 Calls prog 250 #[.pointer (some ⟨x,0,none⟩),.int .i64 y,.int .i64 f,.int .i64 o] w fun e w'=>e=.returned (.int .i64 (seqV (S.now (bKy y f o))))/\Below w.heap.size w w':=by
 have hb1:Below w.heap.size w (w.alloc (.cells #[.int .i64 y,.int .i64 f,.int .i64 o] 3)):=(Below.refl _ _).alloc (Nat.le_refl _) _;have HK:=hid (Zfw y f o (w.alloc (.cells #[.int .i64 y,.int .i64 f,.int .i64 o] 3)) w.heap.size 3 (heap_alloc_new w _) hy hf ho);go_enter func250,ntmps250;go_wp2_with fail;refine HK.out.mono ?_;rintro e w2⟨A,c,rfl,hs,hb2⟩;obtain⟨s1,s2,s3⟩:=hs.parts;have hP:=hb1.trans (hb2.mono hb1.size);have HM:=hid (Zq0 (k:=c) (h.below hP) hN s1 (Nat.le_refl _));have HB:=hid hP;clear s1 s2 s3 hs hb2 hb1 hP HK h;generalize hk:seqV (S.now (tx (Zi 66 [y,f,o])))=k at HM;go_wp2_with fail;refine HM.out.mono ?_;rintro e w3⟨ok,rfl,hb3⟩;have HE:=hid (HB.out.trans (hb3.mono HB.out.size));clear hb3 HB HM;go_wp2_with fail;go_ret;exact⟨by first|rfl|(rw[hk];rfl)|rw[hk],HE.out⟩
theorem ZnY(y f o x:Int):putE (Zi 66 [y,f,o]) (Zj 8 [x])=0:=by
 have h8:(Zj 8 [x]).length=8:=by rw[Zh];rfl
 unfold putE;rw[ZfT,h8];exact if_neg (by rintro(a|a|a) <;> omega)
theorem Zkp(h:ZP w X x p q r a S N)(hN:N<=1000000000)(y f o n aa:Int)(hy:I64 y)(hf:I64 f)(ho:I64 o) :
 Calls prog 208 #[.pointer (some ⟨x,0,none⟩),.int .i64 y,.agg #[.int .i64 f,.int .i64 o,.int .i64 n,.int .i64 aa]] w fun e w'=>e=.returned (.int .i64 (amtAddR (seqV (S.now (bKy y f o))) aa).2)/\ZP w' X x p q r a (S.addB (bKy y f o) aa) (N+1)/\Za (fun k=>k=q∨k=r) w w':=by
 obtain⟨wa,hwa⟩:∃wa,wa=w.alloc (.cells #[.int .i64 f,.int .i64 o,.int .i64 n,.int .i64 aa] 34):=⟨_,rfl⟩
 have hba:Below w.heap.size w wa:=by rw[hwa];exact(Below.refl _ _).alloc (Nat.le_refl _) _
 have hblk:wa.heap[w.heap.size]?=some (.cells #[.int .i64 f,.int .i64 o,.int .i64 n,.int .i64 aa] 34 (0,0)):=by rw[hwa];exact heap_alloc_new w _
 have hlt:=(Array.getElem?_eq_some_iff.1 hblk).1
 have KK:=hid (show ∀W,Below wa.heap.size wa W->W.cell? ⟨w.heap.size,0,none⟩=some (.int .i64 f)/\W.cell? ⟨w.heap.size,1,none⟩=some (.int .i64 o)/\W.cell? ⟨w.heap.size,3,none⟩=some (.int .i64 aa)from fun W hW=>by
  have hb:=(hW.block w.heap.size hlt).trans hblk
  exact⟨cell_of_row W _ 0 _ _ (0,0) hb,cell_of_row W _ 1 _ _ (0,0) hb,cell_of_row W _ 3 _ _ (0,0) hb⟩)
 have hP:Below wa.heap.size wa wa.drew:=(Below.refl _ _).drew;have c5:=KK.out _ hP;have hcells:=KK.out _ (Below.refl wa.heap.size wa);have HV:=hid (show ∀W,Below wa.heap.size wa W->ZP W X x p q r a S N/\Za (fun k=>k=q∨k=r) w W from fun W hW=>⟨h.below (hba.trans (hW.mono hba.size)),Za.of_below (hba.trans (hW.mono hba.size))⟩);have HG:=hid (Zko (HV.out _ hP).1 hN y f o hy hf ho);have HOLD:=hid (And.intro h.old hba.size);unfold VS.addB;generalize seqV (S.now (bKy y f o))=b at HG ⊢;have hamt:=hid (fun W=>Zkn b aa W)
 have hin:(amtAddR b aa).2=0->I64 (amtAddR b aa).1:=fun h=>by
  obtain⟨_,_,h3,h4⟩:=ZdL h;rw[h4];exact⟨by have:=h3.1;omega,by have:=h3.2;omega⟩
 generalize amtAddR b aa=res at hamt hin ⊢;obtain⟨r1,r2⟩:=res;simp only at hin ⊢;generalize hSS:(if r2=0 then S.setB (bKy y f o) r1 else S)=SS;have HSS:=hid hSS;clear h hblk hlt hba hSS;go_enter func208,ntmps208;go_wp2_with fail;rw[<-hwa];clear hwa
 go_region_held3 (fun W=>W.cell? ⟨w.heap.size,0,none⟩=some (.int .i64 f)/\W.cell? ⟨w.heap.size,1,none⟩=some (.int .i64 o)/\W.cell? ⟨w.heap.size,3,none⟩=some (.int .i64 aa))
  (first|with_reducible exact c5|exact c5)
  (first
   | (go_at_call 250;refine Calls.mono HG.out ?_;rintro e wk ⟨rfl,hbk⟩;have hP:=hP.trans (hbk.mono hP.size);have c5:=KK.out _ hP)
   | (go_at_call 249;refine Calls.mono (hamt.out _) ?_;rintro e wq ⟨rfl,rfl⟩))
 have HP:=hid hP;obtain⟨e0,e1,e3⟩:=c5;clear hP hcells HG hamt hbk e3;have HWK:=hid (HV.out wk HP.out);have HKS:=hid HP.out.size;clear HP HV KK;by_cases h2:r2=0
 · subst h2;have hI:=hin (by first|rfl|trivial);have H9:=hid (show SS=S.setB (bKy y f o) r1 from by rw[<-HSS.out,if_pos rfl]);have hb1:Below wk.heap.size wk (wk.alloc (.cells #[.int .i64 y,.int .i64 f,.int .i64 o] 3)):=(Below.refl _ _).alloc (Nat.le_refl _) _;have HK:=hid (Zfw y f o (wk.alloc (.cells #[.int .i64 y,.int .i64 f,.int .i64 o] 3)) wk.heap.size 3 (heap_alloc_new wk _) hy hf ho);have HB1:=hid hb1;clear hin hb1;go_wp2_with fail;refine HK.out.mono ?_;rintro e w4⟨A,c,rfl,hs,hb4⟩;have hP4:=HB1.out.trans (hb4.mono HB1.out.size);have hXl:=HOLD.out.1;have hsX:SV w4 X (.slice A 13 c) (Zi 66 [y,f,o]):=Za9 hs (fun z hz=>by have:=hXl z hz;have:=HKS.out;have:=HOLD.out.2;have:=HB1.out.size;omega) (Below.refl _ _);have H4:=hid (And.intro (HWK.out.1.below hP4) (HWK.out.2.trans (Za.of_below hP4)));have HSX:=hid (And.intro hsX hP4.size);clear hs hb4 hP4 hXl hsX HK HB1 HWK;by_cases h0:r1=0
   · subst h0;have HS9:=hid (show SS=S.del (bKy y f o)from H9.out.trans (if_pos rfl));have HD:=hid (Zq2 H4.out.1 hN HSX.out.1);clear hI H9 HSS;go_wp2_with fail;refine HD.out.mono ?_;rintro e w5⟨⟨bb,rfl⟩,h5,t5⟩;have HE:=hid (And.intro h5 (H4.out.2.trans t5));clear h5 t5 HD H4 HSX;go_wp2_with fail;go_ret;rw[HS9.out];exact⟨rfl,HE.out⟩
   · have k1:(r1 == 0)=false:=by simp[h0]
     have HS9:=hid (show SS=S.put (bKy y f o) (Zj 8 [r1])from H9.out.trans (if_neg h0));have hb5:Below w4.heap.size w4 (w4.alloc (.cells #[.int .i64 r1] 3)):=(Below.refl _ _).alloc (Nat.le_refl _) _;have HPK:=hid (Zct r1 (w4.alloc (.cells #[.int .i64 r1] 3)) w4.heap.size 3 (heap_alloc_new w4 _) hI);have HB5:=hid hb5;clear H9 HSS h0 hb5;go_wp2_with fail;refine HPK.out.mono ?_;rintro e w6⟨A2,c2,rfl,hs2,hb6⟩;have hP6:=HB5.out.trans (hb6.mono HB5.out.size);have hXl:=HOLD.out.1;have hk6:SV w6 X (.slice A 13 c) (Zi 66 [y,f,o]):=HSX.out.1.keep hP6.size (fun _ _ hn hx=>hn hx) (fun k hk _=>hP6.block k hk);have hv6:SV w6 X (.slice A2 8 c2) (Zj 8 [r1]):=Za9 hs2 (fun z hz=>by have:=hXl z hz;have:=HKS.out;have:=HOLD.out.2;have:=HSX.out.2;have:=HB5.out.size;omega) (Below.refl _ _);have HPUT:=hid (Zq1 (H4.out.1.below hP6) hN hk6 hv6 (ZnY y f o r1));have HT6:=hid (H4.out.2.trans (Za.of_below hP6));clear hs2 hb6 hP6 hXl hk6 hv6 HPK HB5 H4 HSX;go_wp2_with fail;refine HPUT.out.mono ?_;rintro e w7⟨rfl,h7,t7⟩;have HE:=hid (And.intro h7 (HT6.out.trans t7));clear h7 t7 HPUT HT6;go_wp2_with fail;go_ret;rw[HS9.out];exact⟨rfl,HE.out⟩
 · have k1:(r2 != 0)=true:=by simp[h2]
   have H9:=hid (show SS=S from by rw[<-HSS.out,if_neg h2]);have HE:=hid (And.intro (HWK.out.1.more (Nat.le_succ N)) HWK.out.2);clear hin h2 HWK HSS;go_wp2_with fail;go_ret;rw[H9.out];exact⟨rfl,HE.out⟩
end
theorem Zmh(i j f o a:Int):putE (Zi 74 [i,j]) (Zj 8 [f,o,a])=0:=by
 unfold putE;rw[if_neg];rw[Zh,show(Zi 74 [i,j]).length=9 by unfold Zi;rw[Zt];rfl];simp
theorem ZnZ(i a b c d e:Int):putE (Zi 69 [i]) (Zj 8 [a,b,c,d,e])=0:=by
 unfold putE;rw[if_neg];rw[Zh,show(Zi 69 [i]).length=5 by unfold Zi;rw[Zt];rfl];simp
theorem Zq3{w:World}{B b off n:Nat}{l:List Ln}{j:Nat}{z:Ln}(h:RL w B (some ⟨b,off,none⟩) n l)(hz:l[j]?=some z):ZpV w b (off+j*4) z:=by
 have hj:=(List.getElem?_eq_some_iff.1 hz).1;obtain⟨b',off',e,hb,hc⟩:=h.2.2 (by rw[<-h.1];omega);cases e;exact hc j z hz
section
variable{w w':World}{X:Nat->Prop}{x p q r N:Nat}{a:TL}{S:VS}
theorem Zhz(h:ZP w X x p q r a S N)(hN:N<=1000000)(a0 y kind n3 of_ by_:Int)(hy:I64 y)(hkind:I64 kind)(hof:I64 of_){A:Option Addr}{n cap:Nat}{l:List Ln}(hr:∀W,Za (fun k=>k=q∨k=r) w W->RL W W.heap.size A n l)(hn:n<=1000) :
 Calls prog 124 #[.pointer (some ⟨x,0,none⟩),.agg #[.int .i64 a0,.int .i64 y,.int .i64 kind,.int .i64 n3,.int .i64 of_,.int .i64 by_],.slice A n cap] w fun e w'=>e=.returned (.tuple #[.int .i64 (Z7 S y kind of_ l).2.1,.int .i64 (Z7 S y kind of_ l).2.2])/\ZP w' X x p q r a (Z7 S y kind of_ l).1 (N+(2*n+2))/\Za (fun k=>k=q∨k=r) w w':=by
 have hown:=h.own;have hq:=h.old q hown.1;have hrr:=h.old r hown.2;have hlen:=(hr w (Za.refl _ _)).len;have hlok:=(hr w (Za.refl _ _)).ok;obtain⟨w1,hw1⟩:∃w1,w1=w.alloc (.cells #[.int .i64 a0,.int .i64 y,.int .i64 kind,.int .i64 n3,.int .i64 of_,.int .i64 by_] 121):=⟨_,rfl⟩
 have hb1:Below w.heap.size w w1:=by rw[hw1];exact(Below.refl _ _).alloc (Nat.le_refl _) _
 have hs1:w1.heap.size=w.heap.size+1:=by rw[hw1];simp
 have hblk:w1.heap[w.heap.size]?=some (.cells #[.int .i64 a0,.int .i64 y,.int .i64 kind,.int .i64 n3,.int .i64 of_,.int .i64 by_] 121 (0,0)):=by rw[hw1];exact heap_alloc_new w _
 have BX:=hid (show ∀W,Za (fun k=>k=q∨k=r) w1 W->W.cell? ⟨w.heap.size,1,none⟩=some (.int .i64 y)/\W.cell? ⟨w.heap.size,2,none⟩=some (.int .i64 kind)/\W.cell? ⟨w.heap.size,4,none⟩=some (.int .i64 of_)from fun W hW=>by
  have hb:=(hW.block w.heap.size (by omega) (by omega)).trans hblk
  exact⟨cell_of_row W _ 1 _ _ (0,0) hb,cell_of_row W _ 2 _ _ (0,0) hb,cell_of_row W _ 4 _ _ (0,0) hb⟩)
 have HR:=hid (show ∀W,Za (fun k=>k=q∨k=r) w1 W->RL W W.heap.size A n l from fun W hW=>hr W ((Za.of_below hb1).trans hW));have HY:=hid (Zen (h.below hb1) (by omega) y hy);have HV:=hid (show ∀W,Below w1.heap.size w1 W->ZP W X x p q r a S N/\Za (fun k=>k=q∨k=r) w W from fun W hW=>⟨(h.below hb1).below hW,(Za.of_below hb1).trans (Za.of_below hW)⟩);have HLEN:=hid (And.intro hlen hlok);have HT1:=hid (Za.of_below (F:=fun k=>k=q∨k=r) hb1);have E1:=hid (show yChk S y≠0->Z7 S y kind of_ l=(S,0,yChk S y)from fun g=>by unfold Z7;exact if_pos g)
 have E2:=hid (show yChk S y=0->(nextE (seqV (S.now (tx (Zi 83 [1]))))).2≠0->Z7 S y kind of_ l=(S.next 1,0,(nextE (seqV (S.now (tx (Zi 83 [1]))))).2)from fun g k=>by
  have g':¬Zoz (stV (S.now (ZbO y)))≠0:=fun e=>e g
  unfold Z7;rw[if_neg g',if_pos k])
 have E3:=hid (show yChk S y=0->(nextE (seqV (S.now (tx (Zi 83 [1]))))).2=0->Z7 S y kind of_ l=if(Zo y (nextE (seqV (S.now (tx (Zi 83 [1]))))).1 (S.next 1) 0 l).2≠0 then((Zo y (nextE (seqV (S.now (tx (Zi 83 [1]))))).1 (S.next 1) 0 l).1,0,(Zo y (nextE (seqV (S.now (tx (Zi 83 [1]))))).1 (S.next 1) 0 l).2)else((Zo y (nextE (seqV (S.now (tx (Zi 83 [1]))))).1 (S.next 1) 0 l).1.put (tx (Zi 69 [(nextE (seqV (S.now (tx (Zi 83 [1]))))).1])) (Zj 8 [y,kind,(l.length:Int),of_,0]),(nextE (seqV (S.now (tx (Zi 83 [1]))))).1,0)from fun g k=>by
  have g':¬Zoz (stV (S.now (ZbO y)))≠0:=fun e=>e g
  unfold Z7;rw[if_neg g',if_neg (fun e=>e k)])
 have HNX:=hid (show ∀W,Below w1.heap.size w1 W->Calls prog 117 #[.pointer (some ⟨x,0,none⟩),.int .i64 1] W fun e w'=>e=.returned (.tuple #[.int .i64 (nextE (seqV (S.now (tx (Zi 83 [1]))))).1,.int .i64 (nextE (seqV (S.now (tx (Zi 83 [1]))))).2])/\ZP w' X x p q r a (S.next 1) (N+1)/\Za (fun k=>k=q∨k=r) W w' from fun W hW=>ZpP (HV.out W hW).1 (by omega) 1 (by omega))
 have hn64:(nextE (seqV (S.now (tx (Zi 83 [1]))))).2=0->I64 (nextE (seqV (S.now (tx (Zi 83 [1]))))).1:=fun g=>by
  have:=Zg2 (S:=S) (n:=1) g
  rw[this.1];unfold I64;simp only[];omega
 generalize nextE (seqV (S.now (tx (Zi 83 [1]))))=ne at E2 E3 HNX hn64;obtain⟨id,er⟩:=ne;simp only at E2 E3 HNX hn64;have HI:=hid hn64;obtain⟨R,hR⟩:∃R,R=Z7 S y kind of_ l:=⟨_,rfl⟩
 rw[<-hR]at E1 E2 E3 ⊢;obtain⟨yc,hyc⟩:∃yc,yc=yChk S y:=⟨_,rfl⟩
 rw[<-hyc]at E1 E2 E3 HY;have HQ:=hid (And.intro hq (And.intro hrr hs1));have HW1:=hid hw1;obtain⟨d1,d2,d4⟩:=BX.out w1 (Za.refl _ _);clear h hr hlen hlok hb1 hs1 hblk hown hq hrr hR hyc hn64;go_enter func124,ntmps124;go_wp2_with fail;rw[<-hw1];clear hw1;go_wp2_with fail;refine HY.out.mono ?_;rintro e w2⟨rfl,hb2⟩;have HB2:=hid hb2;clear hb2 HY d1 d2 d4;by_cases h0:yc=0
 · subst h0;have HNX2:=hid (HNX.out w2 HB2.out);have HT2:=hid (Za.of_below (F:=fun k=>k=q∨k=r) HB2.out);clear HNX;go_wp2_with fail;refine HNX2.out.mono ?_;rintro e w3⟨rfl,h3,t3⟩;by_cases h2:er=0
   · subst h2;have HI2:=hid (HI.out (by first|rfl|trivial));have HE3:=hid (E3.out (by first|rfl|trivial) (by first|rfl|trivial));have HT3:=hid (HT2.out.trans t3);have H3:=hid (show ∃S',ZP w3 X x p q r a S' (N+1+2*0)/\Zo y id (S.next 1) 0 l=Zo y id S' 0 (l.drop 0)from⟨_,h3,rfl⟩);clear h3 t3 HNX2 E1 E2 E3 HI HT2 HB2;go_wp2_with fail
     go_loopw[11] (fun iv wr=>∃j:Nat,j<=n/\iv=.int .i64 j/\Hid (∃S',ZP wr X x p q r a S' (N+1+2*j)/\Zo y id (S.next 1) 0 l=Zo y id S' j (l.drop j))/\Hid (Za (fun k=>k=q∨k=r) w1 wr)) (fun iv _=>n-(intOf iv).toNat)
     case atStart=>exact⟨0,Nat.zero_le _,rfl,H3,HT3⟩
     case round=>
      clear H3;obtain⟨j,hj,rfl,HM,HTQ⟩:=hrel;obtain⟨S',hvw,hline⟩:=HM.out;have hrl:=HR.out wr HTQ.out;by_cases hlt:j<n
      · have hlt':(j:Int)<(n:Int):=by omega
        have hj0:(0:Int)<=(j:Int):=by omega
        obtain⟨z,hz⟩:∃z,l[j]?=some z:=⟨_,List.getElem?_eq_getElem (by rw[HLEN.out.1];exact hlt)⟩
        have hzok:=HLEN.out.2 z (List.mem_of_getElem? hz);obtain⟨b,off,rfl,hbb,hat⟩:=hrl.2.2 (by omega);obtain⟨l0,l1,l2,l3⟩:=hat j z hz
        have hdrop:l.drop j=z::l.drop (j+1):=by
         obtain⟨hk',e⟩:=List.getElem?_eq_some_iff.1 hz;rw[<-e];exact List.drop_eq_getElem_cons hk'
        have HLI:=hid (Zks id (j:Int) z.f z.o z.n z.a wr (by
         intro u hu;simp only[List.mem_cons,List.not_mem_nil,or_false]at hu;rcases hu with rfl|rfl|rfl|rfl|rfl|rfl
         · exact hzok.1
         · exact hzok.2.1
         · exact hzok.2.2.1
         · exact hzok.2.2.2
         · exact HI2.out
         · omega))
        have HV2:=hid (And.intro hvw (And.intro hline (And.intro hdrop hzok)))
        have KZ:=hid (show ∀W,Za (fun k=>k=q∨k=r) wr W->(W.cell? ⟨w.heap.size,1,none⟩=some (.int .i64 y)/\W.cell? ⟨b,off+j*4,none⟩=some (.int .i64 z.f)/\W.cell? ⟨b,off+j*4+1,none⟩=some (.int .i64 z.o)/\W.cell? ⟨b,off+j*4+2,none⟩=some (.int .i64 z.n)/\W.cell? ⟨b,off+j*4+3,none⟩=some (.int .i64 z.a))from fun W hW=>by
         have ht:=HTQ.out.trans hW;obtain⟨a1,a2,a4⟩:=BX.out W ht;obtain⟨g0,g1,g2,g3⟩:=Zq3 (HR.out W ht) hz
         exact⟨a1,g0,g1,g2,g3⟩)
        clear hvw hline hdrop hz hat hbb hrl hzok HM;obtain⟨zf,zo,zn,za⟩:=z;simp only at l0 l1 l2 l3 HLI HV2 KZ;go_wp2_with fail;clear l0 l1 l2 l3;refine HLI.out.mono ?_;rintro e w4 hp;obtain⟨kA,kc,vA,vc,rfl,hk,hv,hb4⟩:=hp.svs HV2.out.1.old (Zk (by omega) _) (Zz _ _) (by rw[show(Zi 74 [id,(j:Int)]).length=9 by unfold Zi;rw[Zt];rfl];omega) (by rw[Zh];simp);have HSET:=hid (ZeE (HV2.out.1.below hb4) (by omega) hk hv (Zmh _ _ _ _ _));have HT4:=hid (Za.of_below (F:=fun k=>k=q∨k=r) hb4);clear hp hk hv hb4 HLI;go_wp2_with fail;refine HSET.out.mono ?_;rintro e w5⟨rfl,h5,t5⟩;have ht5:=HT4.out.trans t5;have hd5:=(Below.refl w5.heap.size w5).drew;have HADD:=hid (Zkp (h5.below hd5) (by omega) y zf zo zn za hy HV2.out.2.2.2.1 HV2.out.2.2.2.2.1);have c5:=KZ.out _ (ht5.trans (Za.of_below hd5));have HT5:=hid (ht5.trans (Za.of_below hd5))
        have HST:=hid (show ∀(S2:VS),S2=S'.put (tx (Zi 74 [id,(j:Int)])) (Zj 8 [zf,zo,za])->Zo y id S' j (l.drop j)=if(amtAddR (seqV (S2.now (bKy y zf zo))) za).2=0 then Zo y id (S2.addB (bKy y zf zo) za) (j+1) (l.drop (j+1))else(S2.addB (bKy y zf zo) za,(amtAddR (seqV (S2.now (bKy y zf zo))) za).2)from fun S2 e=>by
         rw[e,HV2.out.2.2.1]
         rfl)
        have HLN:=hid HV2.out.2.1;clear h5 t5 ht5 hd5 HSET HT4 HV2;obtain⟨S2,hS2⟩:∃S2,S2=S'.put (tx (Zi 74 [id,(j:Int)])) (Zj 8 [zf,zo,za]):=⟨_,rfl⟩
        have hst2:=HST.out S2 hS2;rw[<-hS2]at HADD;have HST2:=hid (HLN.out.trans hst2);clear hst2 HST hS2 HLN;obtain⟨S3,hS3⟩:∃S3,S3=S2.addB (bKy y zf zo) za:=⟨_,rfl⟩
        rw[<-hS3]at HADD HST2;clear hS3;generalize (amtAddR (seqV (S2.now (bKy y zf zo))) za).2=ae at HADD HST2;go_wp2_with fail
        go_region_held3 (fun W=>W.cell? ⟨w.heap.size,1,none⟩=some (.int .i64 y)/\W.cell? ⟨b,off+j*4,none⟩=some (.int .i64 zf)/\W.cell? ⟨b,off+j*4+1,none⟩=some (.int .i64 zo)/\W.cell? ⟨b,off+j*4+2,none⟩=some (.int .i64 zn)/\W.cell? ⟨b,off+j*4+3,none⟩=some (.int .i64 za))
         (first|with_reducible exact c5|exact c5)
         (first|(go_at_call 208;refine Calls.mono HADD.out ?_;rintro e w6 ⟨rfl,h6,t6⟩;have t6:=HT5.out.trans t6;have c5:=KZ.out _ t6))
        by_cases hae:ae=0
        · subst hae;have HM:=hid (show ∃S',ZP w6 X x p q r a S' (N+1+2*(j+1))/\Zo y id (S.next 1) 0 l=Zo y id S' (j+1) (l.drop (j+1))from⟨S3,h6.more (by omega),HST2.out.trans (if_pos rfl)⟩);have HTN:=hid (HTQ.out.trans t6);clear c5 h6 t6 HADD HT5 HST2 KZ;go_wp2_with fail;go_roundw
          case rel=>exact⟨j+1,by omega,by go_num,HM,HTN⟩
          case measure=>simp[intOf];omega
        · have k1:(ae != 0)=true:=by simp[hae]
          have he:=HST2.out.trans (if_neg hae);have HE:=hid (show R=(S3,0,ae)/\ZP w6 X x p q r a S3 (N+(2*n+2))/\Za (fun k=>k=q∨k=r) w w6 from⟨by rw[HE3.out,he];exact if_pos hae,h6.more (by omega),HT1.out.trans (HTQ.out.trans t6)⟩);clear c5 h6 t6 HADD HT5 HST2 KZ he hae;go_wp2_with fail;go_ret2;rw[HE.out.1];exact⟨rfl,HE.out.2⟩
      · obtain rfl:j=n:=by omega
        have hdr:l.drop j = []:=List.drop_eq_nil_of_le (by have:=HLEN.out.1;omega);rw[hdr]at hline;have hline:Zo y id (S.next 1) 0 l=(S',0):=hline;have hR3:=HE3.out;rw[hline]at hR3;have hR3:R=(S'.put (tx (Zi 69 [id])) (Zj 8 [y,kind,(l.length:Int),of_,0]),id,0):=hR3;rw[HLEN.out.1]at hR3;obtain⟨d1,d2,d4⟩:=BX.out wr HTQ.out
        have HEN:=hid (Zjb id y kind (j:Int) of_ 0 wr (by
         intro u hu;simp only[List.mem_cons,List.not_mem_nil,or_false]at hu;rcases hu with rfl|rfl|rfl|rfl|rfl|rfl
         · exact HI2.out
         · exact hy
         · exact hkind
         · omega
         · exact hof
         · omega))
        have HV2:=hid (And.intro hvw hR3);clear hvw hline hdr hR3 hrl HM;go_wp2_with fail;refine HEN.out.mono ?_;rintro e w4 hp;obtain⟨kA,kc,vA,vc,rfl,hk,hv,hb4⟩:=hp.svs HV2.out.1.old (Zk (by omega) _) (Zz _ _) (by rw[show(Zi 69 [id]).length=5 by unfold Zi;rw[Zt];rfl];omega) (by rw[Zh];simp);have HSET:=hid (ZeE (HV2.out.1.below hb4) (by omega) hk hv (ZnZ _ _ _ _ _ _));have HT4:=hid (HT1.out.trans (HTQ.out.trans (Za.of_below (F:=fun k=>k=q∨k=r) hb4)));clear hp hk hv hb4 HEN d1 d2 d4;go_wp2_with fail;refine HSET.out.mono ?_;rintro e w5⟨rfl,h5,t5⟩;have HE:=hid (And.intro (h5.more (show N+1+2*j+1<=N+(2*j+2) by omega)) (HT4.out.trans t5));clear h5 t5 HSET HT4;go_wp2_with fail;go_ret2;rw[HV2.out.2];exact⟨rfl,HE.out⟩
   · have k1:(er != 0)=true:=by simp[h2]
     have hR:=E2.out (by first|rfl|trivial) h2;have HE:=hid (show R=(S.next 1,0,er)/\ZP w3 X x p q r a (S.next 1) (N+(2*n+2))/\Za (fun k=>k=q∨k=r) w w3 from⟨hR,h3.more (by omega),HT1.out.trans (HT2.out.trans t3)⟩);clear h3 t3 HNX2 E1 E2 E3 HI HT2 HB2 hR h2;go_wp2_with fail;go_ret2;rw[HE.out.1];exact⟨rfl,HE.out.2⟩
 · have k1:(yc != 0)=true:=by simp[h0]
   have hR:=E1.out h0;have HE:=hid (show R=(S,0,yc)/\ZP w2 X x p q r a S (N+(2*n+2))/\Za (fun k=>k=q∨k=r) w w2 from⟨hR,(HV.out w2 HB2.out).1.more (by omega),(HV.out w2 HB2.out).2⟩);clear HNX E1 E2 E3 HI HB2 hR h0;go_wp2_with fail;go_ret2;rw[HE.out.1];exact⟨rfl,HE.out.2⟩
end
section
variable{w w':World}{X:Nat->Prop}{x p q r N:Nat}{a:TL}{S:VS}
theorem Zfx(h:ZP w X x p q r a S N)(hN:N<=1000000)(a0 y kind n3 of_ by_:Int)(hy:I64 y)(hkind:I64 kind)(hof:I64 of_){A:Option Addr}{n cap:Nat}{l:List Ln}(hr:RL w w.heap.size A n l)(hn:n<=1000) :
 Calls prog 62 #[.pointer (some ⟨x,0,none⟩),.agg #[.int .i64 a0,.int .i64 y,.int .i64 kind,.int .i64 n3,.int .i64 of_,.int .i64 by_],.slice A n cap] w fun e w'=>e=.returned (.tuple #[.int .i64 (entPut S y kind of_ l).2.1,.int .i64 (entPut S y kind of_ l).2.2])/\ZP w' X x p q r a (entPut S y kind of_ l).1 (N+(4*n+2))/\Za (fun k=>k=q∨k=r) w w':=by
 have hown:=h.own;have hq:=h.old q hown.1;have hrr:=h.old r hown.2;have hlen:l.length=n:=hr.len;obtain⟨w1,hw1⟩:∃w1,w1=w.alloc (.cells #[.int .i64 a0,.int .i64 y,.int .i64 kind,.int .i64 n3,.int .i64 of_,.int .i64 by_] 121):=⟨_,rfl⟩
 have hb1:Below w.heap.size w w1:=by rw[hw1];exact(Below.refl _ _).alloc (Nat.le_refl _) _
 have hs1:w1.heap.size=w.heap.size+1:=by rw[hw1];simp
 have hblk:w1.heap[w.heap.size]?=some (.cells #[.int .i64 a0,.int .i64 y,.int .i64 kind,.int .i64 n3,.int .i64 of_,.int .i64 by_] 121 (0,0)):=by rw[hw1];exact heap_alloc_new w _
 have HV1:=hid (And.intro ((h.below hb1).more (show N<=N+(4*n+2) by omega)) (Za.of_below (F:=fun k=>k=q∨k=r) hb1));by_cases hbad:l.length<1∨200<l.length
 · have HEQ:=hid (show entPut S y kind of_ l=(S,0,1) by unfold entPut;rw[if_pos hbad]);rw[hlen]at hbad;clear h hr hblk hs1 hb1 hown hq hrr;rcases hbad with hx|hx
   · have k1:decide ((n:Int)<1)=true:=decide_eq_true (by omega);clear hx;go_enter func62,ntmps62;go_wp2_with fail;rw[<-hw1];go_ret2;rw[HEQ.out];exact⟨rfl,HV1.out⟩
   · have k1:decide ((n:Int)<1)=false:=decide_eq_false (by omega);have k2:decide ((n:Int)>200)=true:=decide_eq_true (by omega);clear hx;go_enter func62,ntmps62;go_wp2_with fail;rw[<-hw1];go_ret2;rw[HEQ.out];exact⟨rfl,HV1.out⟩
 have HEQ:=hid (show entPut S y kind of_ l=Z7 S y kind of_ (l++balL (fundsOf l)) by unfold entPut;rw[if_neg hbad]);rw[hlen]at hbad;have k1:decide ((n:Int)<1)=false:=decide_eq_false (by omega);have k2:decide ((n:Int)>200)=false:=decide_eq_false (by omega);have C5:=hid (show ∀W,Za (fun k=>k=q∨k=r) w1 W->W.cell? ⟨w.heap.size,0,none⟩=some (.int .i64 a0)/\W.cell? ⟨w.heap.size,1,none⟩=some (.int .i64 y)/\W.cell? ⟨w.heap.size,2,none⟩=some (.int .i64 kind)/\W.cell? ⟨w.heap.size,3,none⟩=some (.int .i64 n3)/\W.cell? ⟨w.heap.size,4,none⟩=some (.int .i64 of_)/\W.cell? ⟨w.heap.size,5,none⟩=some (.int .i64 by_)from fun W hW=>Zdi ((hW.block _ (by omega) (by omega)).trans hblk));have hP:Below w1.heap.size w1 w1.drew:=(Below.refl _ _).drew;have c5:=C5.out w1.drew (Za.of_below hP);have HIT:=Zl7 (w:=w1.drew) (k:=cap) (hr.below (hb1.trans (hP.mono hb1.size))) (Nat.le_trans hb1.size hP.size) (by omega);have hlb:=Nat.le_trans (Zb5 (fundsOf l)) (Zah l)
 have hlok:∀z∈l++balL (fundsOf l),Za7 z:=fun z hz=>by
  rcases List.mem_append.1 hz with hz|hz
  · exact hr.ok z hz
  · exact ZdK (ZaO l hr.ok) z hz
 have HADD:=hid (show ∀W u,Below w1.heap.size w1 W->Z8 W w1.drew.heap.size u (l++balL (fundsOf l))->Calls prog 124 #[.pointer (some ⟨x,0,none⟩),.agg #[.int .i64 a0,.int .i64 y,.int .i64 kind,.int .i64 n3,.int .i64 of_,.int .i64 by_],u] W fun e w'=>e=.returned (.tuple #[.int .i64 (entPut S y kind of_ l).2.1,.int .i64 (entPut S y kind of_ l).2.2])/\ZP w' X x p q r a (entPut S y kind of_ l).1 (N+(4*n+2))/\Za (fun k=>k=q∨k=r) W w' from fun W u hW hown2=>by
  obtain⟨A',k',rfl,hk'⟩:=hown2.shape;rw[HEQ.out]
  refine(Zhz (cap:=k') ((h.below hb1).below hW) hN a0 y kind n3 of_ by_ hy hkind hof (fun W' hW'=>((hown2.stays fun g hg=>hW'.block g (hown2.at_ g hg).2 (fun e=>by
   have h1:=(hown2.at_ g hg).1;have h2:w1.drew.heap.size=w1.heap.size:=rfl
   omega)).read hlok).2.2) (by rw[List.length_append];omega)).mono ?_
  rintro e w'⟨rfl,h6,t6⟩
  exact⟨rfl,h6.more (by rw[List.length_append];omega),t6⟩)
 have HT1:=hid (Za.of_below (F:=fun k=>k=q∨k=r) hb1)
 have HALL:=hid (HIT.mono (R':=fun e w5=>∃u,e=.returned u/\(w5.cell? ⟨w.heap.size,0,none⟩=some (.int .i64 a0)/\w5.cell? ⟨w.heap.size,1,none⟩=some (.int .i64 y)/\w5.cell? ⟨w.heap.size,2,none⟩=some (.int .i64 kind)/\w5.cell? ⟨w.heap.size,3,none⟩=some (.int .i64 n3)/\w5.cell? ⟨w.heap.size,4,none⟩=some (.int .i64 of_)/\w5.cell? ⟨w.heap.size,5,none⟩=some (.int .i64 by_))/\Calls prog 124 #[.pointer (some ⟨x,0,none⟩),.agg #[.int .i64 a0,.int .i64 y,.int .i64 kind,.int .i64 n3,.int .i64 of_,.int .i64 by_],u] w5 fun e w6=>e=.returned (.tuple #[.int .i64 (entPut S y kind of_ l).2.1,.int .i64 (entPut S y kind of_ l).2.2])/\(ZP w6 X x p q r a (entPut S y kind of_ l).1 (N+(4*n+2))/\Za (fun k=>k=q∨k=r) w w6)/\(w6.cell? ⟨w.heap.size,0,none⟩=some (.int .i64 a0)/\w6.cell? ⟨w.heap.size,1,none⟩=some (.int .i64 y)/\w6.cell? ⟨w.heap.size,2,none⟩=some (.int .i64 kind)/\w6.cell? ⟨w.heap.size,3,none⟩=some (.int .i64 n3)/\w6.cell? ⟨w.heap.size,4,none⟩=some (.int .i64 of_)/\w6.cell? ⟨w.heap.size,5,none⟩=some (.int .i64 by_))) fun e w5 zz=>by
  obtain⟨u,rfl,hown2,hb5⟩:=zz;have hb15:Below w1.heap.size w1 w5:=hP.trans (hb5.mono hP.size);refine⟨u,rfl,C5.out w5 (Za.of_below hb15),(HADD.out w5 u hb15 hown2).mono ?_⟩;rintro e w6⟨rfl,h6,t6⟩
  exact⟨rfl,⟨h6,HT1.out.trans ((Za.of_below hb15).trans t6)⟩,C5.out w6 ((Za.of_below hb15).trans t6)⟩)
 generalize entPut S y kind of_ l=EP at HALL ⊢;obtain⟨ES,ei,ee⟩:=EP;simp only at HALL ⊢;clear h hr hblk hs1 hb1 hown hq hrr hbad hlb hlok HEQ HV1 HADD HIT hP;go_enter func62,ntmps62;go_wp2_with fail;rw[<-hw1];clear hw1
 go_region_held3 (fun W=>W.cell? ⟨w.heap.size,0,none⟩=some (.int .i64 a0)/\W.cell? ⟨w.heap.size,1,none⟩=some (.int .i64 y)/\W.cell? ⟨w.heap.size,2,none⟩=some (.int .i64 kind)/\W.cell? ⟨w.heap.size,3,none⟩=some (.int .i64 n3)/\W.cell? ⟨w.heap.size,4,none⟩=some (.int .i64 of_)/\W.cell? ⟨w.heap.size,5,none⟩=some (.int .i64 by_))
  (first|with_reducible exact c7|with_reducible exact c6|exact c5)
  (first
   | (go_at_call 125;refine HALL.out.mono ?_;rintro e w5 ⟨u,rfl,c6,HA2⟩)
   | (go_at_call 124;refine HA2.mono ?_;rintro e w6 ⟨rfl,HE,c7⟩))
 have HE:=hid HE;clear c5 c6 c7 HALL HA2 C5;go_wp2_with fail;go_ret2;exact⟨rfl,HE.out⟩
end
end Go.Proofs.YtiknkbpojmgbhaaGreat
