/-
  ExpNew: it returns true. No condition beyond those that the statement itself says.
-/
import Derived.Test.YtiknkbpojmgbhaaGreatEncI
import Derived.Test.YtiknkbpojmgbhaaGreatRExpC
import Derived.Test.YtiknkbpojmgbhaaGreatItfB
set_option maxHeartbeats 25600000
set_option maxRecDepth 100000
set_option linter.unusedVariables false
open Go.Proofs.Tryz
open Go.Lib (hid)
namespace Go.Proofs.YtiknkbpojmgbhaaGreat
open Go.RowKit Go.Maps
theorem RL.touched{w w':World}{B n:Nat}{A:Option Addr}{l:List Ln}(h:RL w B A n l){F:Nat->Prop}(hB:B<=w.heap.size)(ht:Za F w w')(hF:∀k,F k->B<=k):RL w' w'.heap.size A n l:=
 (h.below (ht.below hF hB)).more (Nat.le_trans hB ht.size)
theorem Zhb{w:World}{A:Option Addr}{n cap:Nat}{l:List Nd}(hr:NdE.R w w.heap.size A n l)(hcap:n<=cap)(hn:n<=maxLen){A':Option Addr}{n' cap':Nat}{l':List ZfN}(hr':Dos33E.R w w.heap.size A' n' l')(hcap':n'<=cap')(hn':n'<=maxLen){A'':Option Addr}{n'' cap'':Nat}{l'':List ZfN}(hr'':Dos33E.R w w.heap.size A'' n'' l'')(hcap'':n''<=cap'')(hn'':n''<=maxLen) :
 Calls prog 4 #[.slice A n cap,.slice A' n' cap',.slice A'' n'' cap''] w fun e w'=>e=.returned (.bool true)/\Below w.heap.size w w':=by
 have HF:=hid (Ze6 (A:=A) (cap:=cap) (cap':=cap') hn ⟨w,Nat.le_refl _,Below.refl _ _,hr'⟩ hn');have HF2:=hid (show ∀W,Below w.heap.size w W->Calls prog 18 #[.slice none 0 0,.slice A'' n'' cap''] W fun e w'=>e=.returned (.bool (few33B 0 l''))/\Below W.heap.size W w' from fun W hW=>Ze6 (Nat.zero_le _) ⟨w,hW.size,hW,hr''⟩ hn'');have HIS:=hid (fun h=>Zg5 (n:=n) (l:=l') h);have HIS2:=hid (fun h=>Zg5 (n:=0) (l:=l'') h);have HA:=hid (fun W=>Ze7 W);have HR:=hid hr;have HR':=hid hr';have HR2:=hid hr'';unfold maxLen at hn hn' hn'';clear hr hr' hr'';generalize few33B n l'=fw at HF HIS;generalize few33B 0 l''=fw2 at HF2 HIS2;cases fw with
 | false=>
  clear HIS HIS2 HF2;go_enter func4,ntmps4;go_wp2_with fail;refine HF.out.mono ?_;rintro u w1⟨rfl,h1⟩;have H1:=hid h1;clear h1 HF;go_wp2_with fail;refine(HA.out w1).mono ?_;rintro u w2⟨rfl,h2⟩;have HE:=hid (H1.out.trans (h2.mono H1.out.size));clear h2;go_wp2_with fail;go_ret;exact⟨rfl,HE.out⟩
 | true=>
 cases fw2 with
 | false=>
  clear HIS HIS2;go_enter func4,ntmps4;go_wp2_with fail;refine HF.out.mono ?_;rintro u w1⟨rfl,h1⟩;have H1:=hid h1;have HF3:=hid (HF2.out w1 h1);clear h1 HF HF2;go_wp2_with fail;refine HF3.out.mono ?_;rintro u w2⟨rfl,h2⟩;have H2:=hid (H1.out.trans (h2.mono H1.out.size));clear h2 HF3;go_wp2_with fail;refine(HA.out w2).mono ?_;rintro u w3⟨rfl,h3⟩;have HE:=hid (H2.out.trans (h3.mono H2.out.size));clear h3;go_wp2_with fail;go_ret;exact⟨rfl,HE.out⟩
 | true=>
 obtain⟨q1,q2,q3⟩:=HIS.out (by first|rfl|trivial);have HFEW:=hid (And.intro q1 (And.intro q2 q3));clear HIS q1 q2 q3;obtain⟨_,q2,q3⟩:=HIS2.out (by first|rfl|trivial);have HFEW2:=hid (And.intro q2 q3);clear HIS2 q2 q3;go_enter func4,ntmps4;go_wp2_with fail;refine HF.out.mono ?_;rintro u w00⟨rfl,h00⟩;have H00:=hid h00;have HF3:=hid (HF2.out w00 h00);clear h00 HF HF2;go_wp2_with fail;refine HF3.out.mono ?_;rintro u w1⟨rfl,h1⟩;have h1:=H00.out.trans (h1.mono H00.out.size);have HBG:=hid (Zc5 (cap:=cap) ((HR.out.below h1).more h1.size) (Nat.le_trans HFEW.out.1 (by omega)));have H1:=hid h1;clear h1 HF3 HR H00;go_wp2_with fail;refine HBG.out.mono ?_;rintro u w2⟨v,m,c,x,rfl,h2⟩;have H0:=hid (show(∃S,Duo (fun _=>False) w1 w1.heap.size (42+124*0) v m c x S S w2)/\w1.heap.size<=w2.heap.size from⟨⟨_,h2.more (by have:=HFEW.out.1;omega)⟩,h2.was.size⟩);clear h2 HBG;go_wp2_with fail
 go_loopw[42] (fun iv wr=>∃j:Nat,j<=n'/\iv=.int .i64 j/\Hid ((∃S,Duo (fun _=>False) w1 w1.heap.size (42+124*j) v m c x S S wr)/\w1.heap.size<=wr.heap.size)) (fun iv _=>n'-(intOf iv).toNat)
 case atStart=>exact⟨0,Nat.zero_le _,rfl,H0⟩
 case round=>
  clear H0;obtain⟨j,hj,rfl,HJ⟩:=hrel;by_cases hlt:j<n'
  · have hlt':(j:Int)<(n':Int):=by omega
    have hj0:(0:Int)<=(j:Int):=by omega
    obtain⟨⟨S,hdj⟩,hwr⟩:=HJ.out;obtain⟨k,hk⟩:∃k,l'[j]?=some k:=⟨_,List.getElem?_eq_getElem (by rw[HR'.out.len];exact hlt)⟩
    have hj20:j<20:=by have:=HFEW.out.2.1;have:=HR'.out.len;omega
    have hwas:=H1.out.trans (hdj.was.mono H1.out.size);obtain⟨b,off,rfl,hb,⟨c0,c1,c2⟩,hin,hkc,hkm,⟨ls,hls⟩⟩:=Zg4 HR'.out hwas hk;obtain⟨wb,hwb⟩:∃wb,wb=wr.alloc (.cells #[.int .i64 k.y,.int .i64 k.f,.slice k.a k.n k.c] 55 (0,0)):=⟨_,rfl⟩
    have hbb:Below wr.heap.size wr wb:=by rw[hwb];exact(Below.refl _ _).alloc (Nat.le_refl _) _
    have hblk:wb.heap[wr.heap.size]?=some (.cells #[.int .i64 k.y,.int .i64 k.f,.slice k.a k.n k.c] 55 (0,0)):=by rw[hwb];exact heap_alloc_new wr _
    have hsz:wb.heap.size=wr.heap.size+1:=by rw[hwb];simp
    have hown:=hdj.own (Z:=fun k=>k=wr.heap.size) hwr hbb (fun k hk=>.inr (by rw[hk];omega));have hs1:=H1.out.size;have hlsb:=(hls.below (hbb.mono (Nat.le_trans hs1 hwr)))
    have HLS:=hid (show ∀W,ZbP (fun k=>k=wr.heap.size) w1.heap.size wb W->RL W w1.heap.size k.a k.n ls/\w1.heap.size<=W.heap.size/\W.heap[wr.heap.size]?=some (.cells #[.int .i64 k.y,.int .i64 k.f,.slice k.a k.n k.c] 55 (0,0))from fun W hW=>
     ⟨(hlsb.below (hW.2.2.mono hs1)).more hs1,Nat.le_trans hwr (Nat.le_trans hbb.size hW.size),(hW.1 _ rfl).trans hblk⟩)
    have hsb:=Nat.le_trans hwr hbb.size;have HP:=hid (hown.view (M:=42+124*j+62) (S':=(encNew S k.y 0 ls).2) (P:=fun e _=>e=.returned (.tuple #[.int .i64 (encNew S k.y 0 ls).1.1,.bool (encNew S k.y 0 ls).1.2.1,.int .i64 (encNew S k.y 0 ls).1.2.2])) hsb (fun hms=>Zkh hms k.y 0 ls) (Zpj S k.y 0 ls) (by omega) (fun X hX hmx hXB=>(ZlJ (cap:=k.c) hX (y:=k.y) (f:=0) (hin _ (by simp)) (by unfold ZS;omega) (fun W hW=>(hlsb.more hs1).touched hsb hW (fun q hq=>by rw[hq];exact hXB _ hX.xc)) hkc (Nat.le_trans hkc hkm) (by have:=hmx.len;omega)).mono fun e w' ⟨a,b,c⟩=>⟨a,b,c⟩));have HY:=hid (And.intro (hin k.y (by simp)) (And.intro hkc hkm));have HN:=hid (show 42+124*(j+1)<=20000 by omega);have HOK:=hid (fun f d st (hd:docGet S f=some (d,st))=>hdj.docOk hd);clear hdj hwr hk hwas hb hin hkc hkm hls hbb hblk hsz hown hlsb hsb HJ;obtain⟨R,hR⟩:∃R,R=encNew S k.y 0 ls:=⟨_,rfl⟩
    have HRR:=hid hR;rw[<-hR]at HP;clear hR;obtain⟨⟨ra,rb,re⟩,RS⟩:=R;obtain⟨ky,kf,ka,kn,kc⟩:=k;simp only at HP HLS HY HRR hwb c0 c1 c2;go_wp2_with fail;rw[<-hwb];clear hwb c0 c1 c2;refine HP.out.mono ?_;rintro u w5⟨rfl,h5,k5⟩;obtain⟨hl5,hs5,hk5⟩:=HLS.out w5 k5;have y0:w5.cell? ⟨wr.heap.size,0,none⟩=some (.int .i64 ky):=by rw[cell_of_row w5 _ 0 _ _ (0,0) hk5];rfl
    have y2:w5.cell? ⟨wr.heap.size,2,none⟩=some (.slice ka kn kc):=by rw[cell_of_row w5 _ 2 _ _ (0,0) hk5];rfl
    have HQ:=hid (h5.ref (M:=42+124*(j+1)) (P:=fun e _ T'=>e=.returned (.tuple #[.int .i64 ra,.bool rb,.int .i64 re])/\(re=0->T'=RS)) hs5 (by omega) (fun X p q r a hX hmx hB=>(ZjU (cap:=kc) hX hmx (by omega) HOK.out ky 0 HY.out.1 (by unfold ZS;omega) (l:=ls) (fun W hW=>hl5.touched hs5 hW (fun z hz=>by
     have ho:=hX.own;rcases hz with hz|hz
     · rw[hz];exact hB _ ho.1
     · rw[hz];exact hB _ ho.2)) (Nat.le_trans HY.out.2.1 HY.out.2.2)).mono fun e w' ⟨T,a1,a2,a3,a4,a5,a6⟩=>by
     rw[<-HRR.out]at a1 a2
     exact⟨T,⟨a1,a2⟩,a3.more (by omega),a4.more (by omega),a5,a6⟩))
    have HK5:=hid k5;clear h5 k5 hl5 hs5 hk5 HP;go_wp2_with fail;refine HQ.out.mono ?_;rintro u w6⟨T,⟨rfl,hT⟩,h6,k6⟩;have k56:=HK5.out.trans k6;obtain⟨hl6,hs6,hk6⟩:=HLS.out w6 k56
    have HEN:=hid (show Calls prog 22 #[.pointer (some ⟨v,0,none⟩),.pointer (some ⟨x,0,none⟩),.int .i64 re] w6 fun u w'=>u=.returned (.bool true)/\(∃S,Duo (fun k=>k=wr.heap.size) w1 w1.heap.size (42+124*(j+1)) v m c x S S w')from by
     refine(Zik h6 hs6 (by have:=HN.out;omega) re hT).mono ?_;rintro u w'⟨rfl,⟨U,_,_,hU⟩,hk⟩
     exact⟨rfl,⟨U,hU⟩⟩)
    clear h6 k6 k56 hl6 hs6 hk6 hT HK5 HQ y0 y2 HLS;go_wp2_with fail;refine HEN.out.mono ?_;rintro e w9⟨rfl,hU⟩
    have HJ:=hid (show(∃S,Duo (fun _=>False) w1 w1.heap.size (42+124*(j+1)) v m c x S S w9)/\w1.heap.size<=w9.heap.size from by
     obtain⟨U,hU⟩:=hU
     exact⟨⟨U,hU.own hU.was.size (Below.refl _ _) (fun k hk=>hk.elim)⟩,hU.was.size⟩)
    clear hU HEN;go_wp2_with fail;go_roundw
    case rel=>exact⟨j+1,by omega,by go_num,HJ⟩
    case measure=>simp[intOf];omega
  · obtain rfl:j=n':=by omega
    have H0:=hid (show(∃S,Duo (fun _=>False) w1 w1.heap.size (2600+224*0) v m c x S S wr)/\w1.heap.size<=wr.heap.size from by
     obtain⟨⟨S,hS⟩,hw⟩:=HJ.out
     exact⟨⟨S,hS.more (by have:=HFEW.out.2.1;have:=HR'.out.len;omega)⟩,hw⟩)
    clear HJ;go_wp2_with fail
    go_loopw[70] (fun iv wr=>∃j:Nat,j<=n''/\iv=.int .i64 j/\Hid ((∃S,Duo (fun _=>False) w1 w1.heap.size (2600+224*j) v m c x S S wr)/\w1.heap.size<=wr.heap.size)) (fun iv _=>n''-(intOf iv).toNat)
    case atStart=>exact⟨0,Nat.zero_le _,rfl,H0⟩
    case round=>
     clear H0;obtain⟨i,hi,rfl,HJ⟩:=hrel;by_cases hlt:i<n''
     · have hlt':(i:Int)<(n'':Int):=by omega
       have hi0:(0:Int)<=(i:Int):=by omega
       obtain⟨⟨S,hdj⟩,hwr⟩:=HJ.out;obtain⟨k,hk⟩:∃k,l''[i]?=some k:=⟨_,List.getElem?_eq_getElem (by rw[HR2.out.len];exact hlt)⟩
       have hkn:=HFEW2.out.2 k (List.mem_of_getElem? hk);have hi20:i<20:=by have:=HFEW2.out.1;have:=HR2.out.len;omega
       have hwas:=H1.out.trans (hdj.was.mono H1.out.size);obtain⟨b,off,rfl,hb,⟨c0,c1,c2⟩,hin,hkc,hkm,⟨ls,hls⟩⟩:=Zg4 HR2.out hwas hk;obtain⟨wb,hwb⟩:∃wb,wb=wr.alloc (.cells #[.int .i64 k.y,.int .i64 k.f,.slice k.a k.n k.c] 55 (0,0)):=⟨_,rfl⟩
       have hbb:Below wr.heap.size wr wb:=by rw[hwb];exact(Below.refl _ _).alloc (Nat.le_refl _) _
       have hblk:wb.heap[wr.heap.size]?=some (.cells #[.int .i64 k.y,.int .i64 k.f,.slice k.a k.n k.c] 55 (0,0)):=by rw[hwb];exact heap_alloc_new wr _
       have hsz:wb.heap.size=wr.heap.size+1:=by rw[hwb];simp
       have hown:=hdj.own (Z:=fun k=>k=wr.heap.size) hwr hbb (fun k hk=>.inr (by rw[hk];omega));have hs1:=H1.out.size;have hlsb:=(hls.below (hbb.mono (Nat.le_trans hs1 hwr)))
       have HLS:=hid (show ∀W,ZbP (fun k=>k=wr.heap.size) w1.heap.size wb W->RL W w1.heap.size k.a k.n ls/\w1.heap.size<=W.heap.size/\W.heap[wr.heap.size]?=some (.cells #[.int .i64 k.y,.int .i64 k.f,.slice k.a k.n k.c] 55 (0,0))from fun W hW=>
        ⟨(hlsb.below (hW.2.2.mono hs1)).more hs1,Nat.le_trans hwr (Nat.le_trans hbb.size hW.size),(hW.1 _ rfl).trans hblk⟩)
       have hsb:=Nat.le_trans hwr hbb.size;have HP:=hid (hown.view (M:=2600+224*i+112) (S':=(expNew S k.y k.f ls).2) (P:=fun e _=>e=.returned (.tuple #[.int .i64 (expNew S k.y k.f ls).1.1,.bool (expNew S k.y k.f ls).1.2.1,.int .i64 (expNew S k.y k.f ls).1.2.2])) hsb (fun hms=>Zc8 hms k.y k.f ls) (Zk8 hdj.many.1 k.y k.f ls) (by omega) (fun X hX hmx hXB=>(ZdQ (cap:=k.c) hX (y:=k.y) (f:=k.f) (hin _ (by simp)) (hin _ (by simp)) (fun W hW=>(hlsb.more hs1).touched hsb hW (fun q hq=>by rw[hq];exact hXB _ hX.xc)) hkc (Nat.le_trans hkc hkm) (by have:=hmx.len;omega)).mono fun e w' ⟨a,b,c⟩=>⟨a,b,c⟩));have HY:=hid (show(ZS k.y/\ZS k.f)/\k.n<=k.c/\k.c<=maxLen/\k.n<=20/\(∀z∈ls,Za7 z)/\ls.length=k.n from⟨⟨hin _ (by simp),hin _ (by simp)⟩,hkc,hkm,hkn,hls.ok,hls.len⟩);have HOK:=hid (fun f d st (hd:docGet S f=some (d,st))=>hdj.docOk hd);have HN:=hid (show 2600+224*(i+1)<=20000 by omega);clear hdj hwr hk hwas hb hin hkc hkm hls hbb hblk hsz hown hlsb hsb HJ hkn;obtain⟨R,hR⟩:∃R,R=expNew S k.y k.f ls:=⟨_,rfl⟩
       have HRR:=hid hR;rw[<-hR]at HP;clear hR;obtain⟨⟨ra,rb,re⟩,RS⟩:=R;obtain⟨ky,kf,ka,kn,kc⟩:=k;simp only at HP HLS HY HRR hwb c0 c1 c2;go_wp2_with fail;rw[<-hwb];clear hwb c0 c1 c2;refine HP.out.mono ?_;rintro u w5⟨rfl,h5,k5⟩;obtain⟨hl5,hs5,hk5⟩:=HLS.out w5 k5;have y0:w5.cell? ⟨wr.heap.size,0,none⟩=some (.int .i64 ky):=by rw[cell_of_row w5 _ 0 _ _ (0,0) hk5];rfl
       have y1:w5.cell? ⟨wr.heap.size,1,none⟩=some (.int .i64 kf):=by rw[cell_of_row w5 _ 1 _ _ (0,0) hk5];rfl
       have y2:w5.cell? ⟨wr.heap.size,2,none⟩=some (.slice ka kn kc):=by rw[cell_of_row w5 _ 2 _ _ (0,0) hk5];rfl
       have HQ:=hid (h5.ref (M:=2600+224*(i+1)) (P:=fun e _ T'=>e=.returned (.tuple #[.int .i64 ra,.bool rb,.int .i64 re])/\(re=0->T'=RS)) hs5 (by omega) (fun X p q r a hX hmx hB=>(Zkq (cap:=kc) hX hmx (by omega) HOK.out ky kf HY.out.1.1 HY.out.1.2 (l:=ls) (fun W hW=>hl5.touched hs5 hW (fun z hz=>by
        have ho:=hX.own;rcases hz with hz|hz
        · rw[hz];exact hB _ ho.1
        · rw[hz];exact hB _ ho.2)) (Nat.le_trans HY.out.2.1 HY.out.2.2.1)).mono fun e w' ⟨T,a1,a2,a3,a4,a5,a6⟩=>by
        rw[<-HRR.out]at a1 a2
        exact⟨T,⟨a1,a2⟩,a3.more (by omega),a4.more (by omega),a5,a6⟩))
       have HK5:=hid k5;clear h5 k5 hl5 hs5 hk5 HP;go_wp2_with fail;refine HQ.out.mono ?_;rintro u w6⟨T,⟨rfl,hT⟩,h6,k6⟩;have k56:=HK5.out.trans k6;obtain⟨hl6,hs6,hk6⟩:=HLS.out w6 k56
       have HEN:=hid (show Calls prog 22 #[.pointer (some ⟨v,0,none⟩),.pointer (some ⟨x,0,none⟩),.int .i64 re] w6 fun u w'=>u=.returned (.bool true)/\(∃U,Duo (fun k=>k=wr.heap.size) w1 w1.heap.size (2600+224*(i+1)) v m c x U U w')/\ZbP (fun k=>k=wr.heap.size) w1.heap.size wb w' from by
        refine(Zik h6 hs6 (by have:=HN.out;omega) re hT).mono ?_;rintro u w'⟨rfl,⟨U,_,_,hU⟩,hk⟩
        exact⟨rfl,⟨U,hU⟩,k56.trans hk⟩)
       have x1:(ra != ra)=false:=by simp
       have x2:(rb != rb)=false:=by simp
       have x3:(re != re)=false:=by simp
       clear h6 k6 k56 hl6 hs6 hk6 hT HK5 HQ y0 y1 y2 HOK HRR;go_wp2_with fail;refine HEN.out.mono ?_;rintro e w9⟨rfl,⟨U,h9⟩,k9⟩;clear x1 x2 x3 HEN;obtain⟨hl9,hs9,hk9⟩:=HLS.out w9 k9;have z0:w9.cell? ⟨wr.heap.size,0,none⟩=some (.int .i64 ky):=by rw[cell_of_row w9 _ 0 _ _ (0,0) hk9];rfl
       have z1:w9.cell? ⟨wr.heap.size,1,none⟩=some (.int .i64 kf):=by rw[cell_of_row w9 _ 1 _ _ (0,0) hk9];rfl
       have z2:w9.cell? ⟨wr.heap.size,2,none⟩=some (.slice ka kn kc):=by rw[cell_of_row w9 _ 2 _ _ (0,0) hk9];rfl
       have z0':=z0;have hlk:=hl9.len;have HKZ:=hid (show ∀W,Below w9.heap.size w9 W->W.cell? ⟨wr.heap.size,0,none⟩=some (.int .i64 ky)from fun W hW=>(hW.cell (p:=⟨wr.heap.size,0,none⟩) (by have:=(Array.getElem?_eq_some_iff.1 hk9).1;exact this)).trans z0');have H9:=hid (And.intro h9 (And.intro hl9 (And.intro hs9 hlk)));clear h9 k9 hl9 hs9 hk9 z0' hlk;obtain⟨wo,hwo⟩:∃wo,wo=wr:=⟨_,rfl⟩
       subst hwo;go_wp2_with fail
       go_loopw[22,121] (fun uv iv wr=>∃j:Nat,j<=kn/\iv=.int .i64 j/\(∃A' k',uv=.slice A' j k')/\Hid (DlE.Own 50 wr w9.heap.size uv ((ls.take j).map ZY)/\Below w9.heap.size w9 wr)) (fun _ iv _=>kn-(intOf iv).toNat)
       case atStart=>exact⟨0,Nat.zero_le _,rfl,⟨none,0,rfl⟩,hid ⟨Enc.Own.start _ _ _,Below.refl _ _⟩⟩
       case round=>
        obtain⟨j,hj,rfl,⟨A',k',rfl⟩,HJ⟩:=hrel;by_cases hltj:j<kn
        · have hltj':(j:Int)<(kn:Int):=by omega
          have hj0:(0:Int)<=(j:Int):=by omega
          obtain⟨hown,hbw⟩:=HJ.out;obtain⟨z,hz⟩:∃z,ls[j]?=some z:=⟨_,List.getElem?_eq_getElem (by rw[H9.out.2.2.2];exact hltj)⟩
          have hzok:=H9.out.2.1.ok z (List.mem_of_getElem? hz);obtain⟨b,off,rfl,hb,hat⟩:=(H9.out.2.1.below (hbw.mono H9.out.2.2.1)).2.2 (by omega);obtain⟨c0,c1,c2,c3⟩:=hat j z hz;obtain⟨wb,hwb⟩:∃wb,wb=wr.alloc (.cells #[.int .i64 z.f,.int .i64 z.o,.int .i64 z.n,.int .i64 z.a] 34 (0,0)):=⟨_,rfl⟩
          have hbb:Below wr.heap.size wr wb:=by rw[hwb];exact(Below.refl _ _).alloc (Nat.le_refl _) _
          have hsz:wb.heap.size=wr.heap.size+1:=by rw[hwb];simp
          have htk:((ls.take j).map ZY).length=j:=by rw[List.length_map,List.length_take];have:=H9.out.2.2.2;omega
          have hb5:Below wb.heap.size wb (wb.alloc (.cells #[.int .i64 z.n,.int .i64 z.a,.int .i64 0,.int .i64 0] 50)):=(Below.refl _ _).alloc (Nat.le_refl _) _;have hb25:=hbb.trans (hb5.mono hbb.size);have hk20:=HY.out.2.2.2.1;obtain⟨v',w6',hrun,hown6,hb6,hgr,hgn⟩:=(hown.below hb25).append1 DlT (x:=⟨z.n,z.a,0,0⟩) (heap_alloc_new wb _) rfl (ZcN hzok) (by omega) (Nat.le_trans hbw.size hb25.size) 45;obtain⟨A6,k6,rfl,hk6⟩:=hown6.shape;have hl6:((ls.take j).map ZY++[(⟨z.n,z.a,0,0⟩:Dl)]).length=j+1:=by rw[List.length_append,htk];rfl
          rw[hl6]at hrun hown6;rw[hsz]at hrun;have HRUN:=hid hrun;have HJ2:=hid (show DlE.Own 50 w6' w9.heap.size (.slice A6 (j+1) k6) ((ls.take (j+1)).map ZY)/\Below w9.heap.size w9 w6' from⟨by rw[ZeJ (f:=ZY) hz];exact hown6,(hbw.trans (hb25.mono hbw.size)).trans hb6⟩);rw[hwb]at HRUN;clear hown hbw hz hzok hat hb htk hb5 hb25 hbb hsz hwb wb hrun hown6 hb6 hgr hgn HJ hk6 hl6 z0 z1 z2
          go_wp2_with (at_builtin;refine Lib.wpList_append_run _ rfl _ _ _ _ rfl _ _ rfl rfl _ _ HRUN.out ?_)
          go_roundw
          case rel=>exact⟨j+1,by omega,by go_num,⟨A6,k6,rfl⟩,HJ2⟩
          case measure=>simp[intOf];omega
        · obtain rfl:j=kn:=by omega
          have htk:ls.take j=ls:=List.take_of_length_le (by have:=H9.out.2.2.2;omega);obtain⟨hown,hbw⟩:=HJ.out;rw[htk]at hown;have hdok:=Zbx HY.out.2.2.2.2.1;have hrow:=(hown.read hdok).2.2;have hk20:=HY.out.2.2.2.1;obtain⟨JL,hJL⟩:∃JL,JL=jLines U ky (ls.map ZY):=⟨_,rfl⟩
          obtain⟨NL,hNL⟩:∃NL,NL=JL.length:=⟨_,rfl⟩
          have hjl:NL<=40:=by
           rw[hNL,hJL]
           have:=ZaR U ky (ls.map ZY)
           rw[List.length_map]at this
           have:=H9.out.2.2.2
           omega
          have HL1:=hid (show ∀W,Below wr.heap.size wr W->Calls prog 26 #[.pointer (some ⟨v,0,none⟩),.int .i64 ky,.slice A' j k'] W fun e w'=>∃A1 k1,e=.returned (.slice A1 NL k1)/\RL w' w'.heap.size A1 NL JL/\Below W.heap.size W w' from fun W hW=>by
           refine(H9.out.1.below H9.out.2.2.1 (hbw.trans (hW.mono hbw.size))).tell fun X hX hmx=>?_
           refine(Zei (cap:=k') hX ky HY.out.1.1 ((hrow.below hW).more hW.size) (by omega)).mono ?_;rintro e w'⟨u,rfl,ho,hb⟩;rw[<-hJL]at ho;obtain⟨A1,k1,rfl,hk1⟩:=ho.shape;have hjok:=Zfh (S:=U) (y:=ky) (fun n i hn=>hX.nodeOk hn) hdok;rw[<-hJL]at hjok;rw[<-hNL]at ho ⊢
           exact⟨A1,k1,rfl,(ho.read hjok).2.2,hb⟩)
          have HL2:=hid (show ∀W,Below wr.heap.size wr W->Calls prog 27 #[.pointer (some ⟨x,0,none⟩),.int .i64 ky,.slice A' j k'] W fun e w'=>∃A1 k1,e=.returned (.slice A1 NL k1)/\RL w' w'.heap.size A1 NL JL/\Below W.heap.size W w' from fun W hW=>by
           refine(H9.out.1.below H9.out.2.2.1 (hbw.trans (hW.mono hbw.size))).tellR fun X p q r a hX hmx=>?_
           refine(Zcf (cap:=k') hX (by have:=HN.out;omega) ky HY.out.1.1 ((hrow.below hW).more hW.size) (by omega)).mono ?_;rintro e w'⟨u,rfl,ho,hjok,hb⟩;rw[<-hJL]at ho hjok;obtain⟨A1,k1,rfl,hk1⟩:=ho.shape;rw[<-hNL]at ho ⊢
           exact⟨A1,k1,rfl,(ho.read hjok).2.2,hb⟩)
          have HEQ:=hid (show ∀W A1 k1 A2 k2,RL W W.heap.size A1 NL JL->RL W W.heap.size A2 NL JL->Calls prog 25 #[.slice A1 NL k1,.slice A2 NL k2] W fun e w'=>e=.returned (.bool true)/\Below W.heap.size W w' from fun W A1 k1 A2 k2 h1 h2=>by
           have:=Zj9 k1 k2 h1 h2 (by unfold maxLen;omega) (by unfold maxLen;omega) (Nat.le_refl _) (Nat.le_refl _)
           rwa[decide_eq_true (rfl:JL=JL)]at this)
          have hP:Below wr.heap.size wr wr.drew:=(Below.refl _ _).drew;have KK:=hid (show ∀W,Below wr.heap.size wr W->W.cell? ⟨wo.heap.size,0,none⟩=some (.int .i64 ky)from fun W hW=>HKZ.out W (hbw.trans (hW.mono hbw.size)));have c5:=KK.out _ hP;have HB9:=hid hbw;have hr0:RL wr.drew wr.drew.heap.size none 0 []:=RL.nil_;clear hown hbw htk hdok hrow hk20 hJL hNL hjl HJ z0 z1 z2;go_wp2_with fail
          go_region_held3 (fun W=>W.cell? ⟨wo.heap.size,0,none⟩=some (.int .i64 ky))
           (first|with_reducible exact c5|exact c5)
           (first
            | (go_at_call 26;refine Calls.mono (HL1.out _ hP) ?_;rintro e wk ⟨A1,k1,rfl,hr1,hbk⟩;(try have hr2:=(hr2.below hbk).more hbk.size);have hP:=hP.trans (hbk.mono hP.size);have c5:=KK.out _ hP)
            | (go_at_call 27;refine Calls.mono (HL2.out _ hP) ?_;rintro e wl ⟨A2,k2,rfl,hr2,hbk⟩;(try have hr1:=(hr1.below hbk).more hbk.size);have hP:=hP.trans (hbk.mono hP.size);have c5:=KK.out _ hP)
            | (go_at_call 25;refine Calls.mono (HEQ.out _ _ _ _ _ hr1 hr2) ?_;rintro e wm ⟨rfl,hbm⟩;have hP:=hP.trans (hbm.mono hP.size);have c5:=KK.out _ hP))
          all_goals
           have HJ2:=hid (show(∃S,Duo (fun _=>False) w1 w1.heap.size (2600+224*(i+1)) v m c x S S wm)/\w1.heap.size<=wm.heap.size from by
            have hb:=HB9.out.trans (hP.mono HB9.out.size)
            exact⟨⟨U,(H9.out.1.below H9.out.2.2.1 hb).own (Nat.le_trans H9.out.2.2.1 hb.size) (Below.refl _ _) (fun k hk=>hk.elim)⟩,Nat.le_trans H9.out.2.2.1 hb.size⟩)
           clear c5 hP hr1 hr2 HL1 HL2 HEQ KK HB9 H9 HKZ hr0;go_wp2_with fail;go_roundw
           case rel=>exact⟨i+1,by omega,by go_num,HJ2⟩
           case measure=>simp[intOf];omega
     · obtain rfl:i=n'':=by omega
       have hw:=(HJ.out.1.choose_spec).was;have HB:=hid (H1.out.trans (hw.mono H1.out.size));have HAW:=hid (HA.out wr);clear hw HJ;go_wp2_with fail;refine HAW.out.mono ?_;rintro u w2⟨rfl,h2⟩;have HE:=hid (HB.out.trans (h2.mono HB.out.size));clear h2;go_wp2_with fail;go_ret;exact⟨rfl,HE.out⟩
end Go.Proofs.YtiknkbpojmgbhaaGreat
