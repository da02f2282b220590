/- BkW. Conditions: in each theorem. -/
import Derived.Test.YtlmkdmdbpopnhaaGreatDoorG16
set_option maxHeartbeats 6400000
set_option maxRecDepth 100000
set_option linter.unusedVariables false
open Go.Proofs.Tryz
open Go.Lib (hid)
namespace Go.Proofs.YtlmkdmdbpopnhaaGreatDoor
open Go.RowKit
theorem Zn1{w:World}{B n:Nat}{A:Option Addr}{ps:List KV}(d x:Int)(c:Nat)(hr:Zaa w B A n ps)(hB:B<=w.heap.size)(hm:n<=maxLen)(hsz:szP ps<=4611686018427387904)(hd : -9223372036854775808<=d/\d<=9223372036854775807)(hx : -9223372036854775808<=x/\x<=9223372036854775807) :
 Calls prog 157 #[.agg #[.int .i64 d,.int .i64 x,.slice A n c]] w fun e w'=>∃A' n' c',e=.returned (.tuple #[.slice A' n' c',.int .i64 (Zd7 ⟨d,x,ps⟩).2])/\n'<=c'/\RB w' w'.heap.size A' n' (Zd7 ⟨d,x,ps⟩).1/\(∀a,A'=some a->w.heap.size<=a.block)/\Below w.heap.size w w':=by
 obtain⟨i0,hi,hz0,hz1,hz2⟩:=info_parts Zbg;have hbox:Below w.heap.size w (w.alloc (Zax d x A n c)):=(Below.refl _ _).alloc (ZZe _) _;have HM:=hid (Zf8 d x c (hr.below (hbox.mono hB)) (ZZf hB hbox.size) hm hsz);have HBX:=hid (ZR.new w d x A n c);obtain⟨c0,c1,c2,hbl⟩:=HBX.out.cells;have HB:=hid hbox;have HR:=hid hr
 cases hmb:ZD ⟨d,x,ps⟩ with
 | false=>
  have hP:Zd7 ⟨d,x,ps⟩=([],1):=by unfold Zd7;rw[if_neg (by rw[hmb];decide)]
  rw[hmb]at HM;rw[hP];clear hP hmb hbox hr
  unfold Zax at *
  go_enter func157,ntmps157;go_wp2_with fail;refine HM.out.mono ?_;rintro e w1⟨rfl,hb1⟩;have hF:=hid (HB.out.trans (hb1.mono HB.out.size));clear hb1 c0 c1 c2;go_wp2;go_ret2;exact⟨none,0,0,rfl,ZZe _,RB.nil_,(fun a ha=>by cases ha),hF.out⟩
 | true=>
  obtain⟨f1,f2,f3,f4⟩:=Zbe hmb;have f1:8+szP ps<=240:=f1;have f2:0<=d/\d<=10:=f2;have f3:Zj x ((4:Nat):Int)=true:=f3;have hn:n<=116:=by have:=ZhM ps;rw[hr.len]at this;omega
  have hP:Zd7 ⟨d,x,ps⟩=(pageBk ⟨d,x,ps⟩,0):=by unfold Zd7;rw[if_pos hmb]
  have HPD:=hid (ZiP ⟨d,x,ps⟩ f1);have HPL:=hid (Zbd (b:=⟨d,x,ps⟩) f1);have HPH:=hid (ZiQ ⟨d,x,ps⟩);have HPP:=hid (fun k (y:KV) (hy:ps[k]?=some y)=>ZZg (Zds f4 hy) (ZiR (b:=⟨d,x,ps⟩) hy hmb));have HQ1:=hid (fun w=>Z7 d 1 w (ZcX (by omega)) (by decide) hd);have HQ2:=hid (fun w=>Z7 x 4 w f3 (by decide) hx);have HQ3:=hid (fun w=>Z7 (n:Int) 2 w (Zkk (by omega)) (by decide) (by omega));have HLEN:=hid hr.len;have HSZ:=hid f1;have HBY:=hid (Zfp hmb hr.bytes);rw[hmb]at HM;rw[hP];clear hP hmb hbox hr f1 f2 f3 f4
  unfold Zax at *
  go_enter func157,ntmps157;go_wp2_with fail;refine HM.out.mono ?_;rintro e w1⟨rfl,hb1⟩;have hbx1:=HBX.out.below hb1;have hb01:=HB.out.trans (hb1.mono HB.out.size);have hs1:=hb01.size;clear hb1 c0 c1 c2;obtain⟨c0,c1,c2,hbl1⟩:=hbx1.cells
  go_wp2_with (first
   | (refine wpList_make_full w1 rfl _ _ 55 rfl w1.heap.size 5 i0 (.int .u8 0) 1 underlying55 hi hz0 hz1 .i64 .i64 _ _ 240 rfl rfl (by simp) (by simp) (by rw[hz2];decide) (by decide) (ZZe _) ?_;intro w2 hown2 hg2;have hb2:Below w1.heap.size w1 w2:=(Below.refl _ _).grown hg2 (ZZe _) (by simp);obtain⟨w3,hrun3,HK3,hbx3⟩:=Zes hown2 hb2 hbx1;obtain⟨c0,c1,c2,hbl3⟩:=hbx3.cells;clear hown2 hg2 hb2))
  have HG3:=hid HK3.out.1;have HT3:=hid HK3.out.2;have hgw:w1.heap.size<w3.heap.size:=(ZZa.1 HG3.out).1;have hbW3:=hid (hb01.trans (HT3.out.below (B:=w.heap.size) (fun j e=>by rw[e];exact hs1) hs1));have c3:=hbx3.drew.cells3;have HBX3:=hid hbx3;have tok1:True:=trivial;clear hbx1 hb01 hbx3 c0 c1 c2 hbl3 HM HBX HB HK3;go_wp2_with fail
  go_region_held3 (fun w'=>w'.cell? ⟨w.heap.size,0,none⟩=some (.int .i64 d)/\w'.cell? ⟨w.heap.size,1,none⟩=some (.int .i64 x)/\w'.cell? ⟨w.heap.size,2,none⟩=some (.slice A n c))
   (first|with_reducible exact c8|with_reducible exact c7|with_reducible exact c6|with_reducible exact c5|with_reducible exact c4|with_reducible exact c3|exact c3)
   (first
    | (go_at_call 196;have _t:=tok1;clear tok1;refine(HQ1.out _).mono ?_;rintro e w4 ⟨g4,rfl,hg4,hr4,hb4⟩;have tok2:True:=trivial;have hbx4:=HBX3.out.drew.below hb4;have c4:=hbx4.cells3)
    | (go_at_call 196;have _t:=tok2;clear tok2;refine(HQ2.out _).mono ?_;rintro e w5 ⟨g5,rfl,hg5,hr5,hb5⟩;have tok3:True:=trivial;have hbx5:=hbx4.below hb5;have c5:=hbx5.cells3)
    | (go_at_call 196;have _t:=tok3;clear tok3;refine(HQ3.out _).mono ?_;rintro e w6 ⟨g6,rfl,hg6,hr6,hb6⟩;have tok4:True:=trivial;have hbx6:=hbx5.below hb6;have c6:=hbx6.cells3;have c7:=(hbx6.below ((Below.refl w6.heap.size w6).alloc (ZZe _) (.cells #[.slice (some ⟨g4,0,none⟩) 1 1,.slice (some ⟨g5,0,none⟩) 4 4,.slice (some ⟨g6,0,none⟩) 2 2] 55 (0,0)))).cells3;have HL6:=hid (Zfq hgw hg4 hg5 hg6 hr4 hr5 hr6 hb4 hb5 hb6 HG3.out hs1 (by omega)))
    | (go_at_call 207;have _t:=tok4;clear tok4;refine(HL6.out.2 3).mono ?_;rintro e w7 ⟨rfl,hblk7,ht7⟩;have hbx7:=HBX3.out.touch ht7 (by omega);have c8:=hbx7.cells3))
  have HG7:=hid (show w7.heap[w1.heap.size]?=some (.cells ((splice ZbJ 0 (ZQ ⟨d,x,ps⟩++ZP (ps.take 0))).map (Value.int .u8)).toArray 5 (0,0))from by
   have:=HPH.out
   rw[HLEN.out]at this;rw[<-this]
   exact hblk7)
  have HB7:=hid (hbW3.out.trans (ht7.below (B:=w.heap.size) (fun j e=>by rw[e];exact hs1) hbW3.out.size));obtain⟨d0,d1,d2⟩:=hbx7.cells3;clear c3 c4 c5 c6 c7 c8 hbx4 hbx5 hbx6 hbx7 hblk7 ht7 hr4 hr5 hr6 hb4 hb5 hb6 hg4 hg5 hg6 HL6 HBX3 HG3 HT3 hbW3 HQ1 HQ2 HQ3 HPH _t;go_wp2_with fail;clear d0 d1 d2
  go_loopw[5,31] (fun av i wr=>∃k:Nat,k<=n/\i=.int .i64 k/\av=.int .i64 ((8+szP (ps.take k):Nat):Int)/\Hid (wr.heap[w1.heap.size]?=some (.cells ((splice ZbJ 0 (ZQ ⟨d,x,ps⟩++ZP (ps.take k))).map (Value.int .u8)).toArray 5 (0,0)))/\Hid (Below w.heap.size w wr)) (fun _ i _=>n-(intOf i).toNat)
  case atStart=>exact⟨0,Nat.zero_le _,rfl,rfl,HG7,HB7⟩
  case round=>
   clear HG7 HB7;obtain⟨k,hk,rfl,rfl,hg,hb⟩:=hrel;by_cases hlt:k<n
   · obtain⟨b,off,rfl,hbB,hat⟩:=HR.out.2 (by omega);obtain⟨y,hy⟩:∃y,ps[k]?=some y:=⟨_,ZZc (by rw[HLEN.out];exact hlt)⟩
     obtain⟨⟨⟨p1,p2⟩,p3,_⟩,p4⟩:=HPP.out k y hy;have hst:=ZfM hy;obtain⟨ka,kn,kc,va,vn,vc,h0,h1,h2,h3,h4,h5⟩:=(hat k y hy).keep hbB (fun b o hbb=>hb.out.cell (p:=⟨b,o,none⟩) (ZZd hbb hB));have hle:=ZcW ps (k+1);rw[h2.len]at hst p1 p2 p4;rw[h4.len]at hst p3 p4;have HST:=hid hst;have HNX:=hid p4;have HAK:=hid (show 8+szP (ps.take k)+(2+kn+vn)=8+szP (ps.take (k+1)) by omega);have hlt':(k:Int)<(n:Int):=by omega
     have HLK:=hid (show(splice ZbJ 0 (ZQ ⟨d,x,ps⟩++ZP (ps.take k))).length=240 from by
      rw[length_splice _ _ _ (by rw[List.length_append,Zal,Zbc,Zaj];omega),Zaj])
     have hat:8+szP (ps.take k)+(2+kn+vn)<=240:=by omega
     have hgx:w1.heap.size<wr.heap.size:=(ZZa.1 hg.out).1;have hX:Below wr.heap.size wr (wr.alloc (.cells #[.slice ka kn kc,.slice va vn vc] 65 (0,0))):=(Below.refl _ _).alloc (ZZe _) _;have HPB:=hid (Zga.new wr (.slice ka kn kc) (.slice va vn vc));have HKV:=hid (ZZg (h2.alloc (ZZf hB hb.out.size) (.cells #[.slice ka kn kc,.slice va vn vc] 65 (0,0))) (ZZg (h4.alloc (ZZf hB hb.out.size) (.cells #[.slice ka kn kc,.slice va vn vc] 65 (0,0))) (ZZg h3 h5)));have HGX:=hid ((hX.block _ hgx).trans hg.out);have HQ1:=hid (fun w=>Z7 (kn:Int) 1 w (ZcX (by omega)) (by decide) (by omega));have HQ2:=hid (fun w=>Z7 (vn:Int) 1 w (ZcX (by omega)) (by decide) (by omega));have HBX:=hid (hb.out.trans (hX.mono hb.out.size));have hgX:w1.heap.size<(wr.alloc (.cells #[.slice ka kn kc,.slice va vn vc] 65 (0,0))).heap.size:=ZZd hgx hX.size;have hBg:B<=w1.heap.size:=ZZf hB hs1;have c3:=HPB.out.drew.cells;have tok1:True:=trivial;clear hst hle p4 h2 h4 h3 h5 hy c0 c1 c2 hX hbl;generalize splice ZbJ 0 (ZQ ⟨d,x,ps⟩++ZP (ps.take k))=Lk at hg HGX HNX HLK;generalize 8+szP (ps.take k)=ak at *;go_wp2_with fail
     go_region_held3 (fun w'=>w'.cell? ⟨wr.heap.size,0,none⟩=some (.slice ka kn kc)/\w'.cell? ⟨wr.heap.size,1,none⟩=some (.slice va vn vc))
      (first|with_reducible exact c7|with_reducible exact c6|with_reducible exact c5|with_reducible exact c4|with_reducible exact c3|exact c3)
      (first
       | (go_at_call 196;have _t:=tok1;clear tok1;refine(HQ1.out _).mono ?_;rintro e w4 ⟨g4,rfl,hg4,hr4,hb4⟩;have tok2:True:=trivial;have hpb4:=HPB.out.drew.below hb4;have c4:=hpb4.cells)
       | (go_at_call 196;have _t:=tok2;clear tok2;refine(HQ2.out _).mono ?_;rintro e w5 ⟨g5,rfl,hg5,hr5,hb5⟩;have tok3:True:=trivial;have hpb5:=hpb4.below hb5;have c5:=hpb5.cells;have c6:=(hpb5.below ((Below.refl w5.heap.size w5).alloc (ZZe _) (.cells #[.slice (some ⟨g4,0,none⟩) 1 1,.slice (some ⟨g5,0,none⟩) 1 1,.slice ka kn kc,.slice va vn vc] 55 (0,0)))).cells;have HL6:=hid (Zfr (a:=ak) hgX hg4 hg5 hr4 hr5 hb4 hb5 HGX.out HLK.out HKV.out.1 HKV.out.2.1 hBg HKV.out.2.2.1 HKV.out.2.2.2 hat))
       | (go_at_call 207;have _t:=tok3;clear tok3;refine(HL6.out.2 4).mono ?_;rintro e w6 ⟨rfl,hblk6,ht6⟩;have hpb6:=HPB.out.touch ht6 (by omega);have c7:=hpb6.cells))
     have HE:=hid (show w6.heap[w1.heap.size]?=some (.cells ((splice ZbJ 0 (ZQ ⟨d,x,ps⟩++ZP (ps.take (k+1)))).map (Value.int .u8)).toArray 5 (0,0))from by rw[<-HNX.out];exact hblk6);have HT:=hid (HBX.out.trans (ht6.below (B:=w.heap.size) (fun j e=>by rw[e];exact hs1) HBX.out.size));clear c3 c4 c5 c6 c7 hpb4 hpb5 hpb6 hblk6 ht6 hr4 hr5 hb4 hb5 hg4 hg5 HL6 HPB HKV HGX HQ1 HQ2 HBX HNX HLK hg hb h0 h1;go_wp2;go_roundw
     case rel=>exact⟨k+1,by omega,by go_num,by rw[<-HAK.out];congr 1,HE,HT⟩
     case measure=>simp[intOf];omega
   · obtain rfl:k=n:=by omega
     have e:ps.take k=ps:=List.take_of_length_le (by rw[HLEN.out];exact ZZe _);rw[e]at hg ⊢
     have HE:=hid (show RB wr wr.heap.size (some ⟨w1.heap.size,0,none⟩) 240 (pageBk ⟨d,x,ps⟩)from by
      have hgo:=hg.out;rw[HPD.out]at hgo;refine⟨HPL.out,HBY.out,fun _=>⟨w1.heap.size,0,rfl,(ZZa.1 hgo).1,fun j hj=>?_⟩⟩;rw[Nat.zero_add,cell_of_row wr _ j _ _ (0,0) hgo,List.getElem?_toArray,List.getElem?_map,ZZc (by rw[HPL.out];exact hj)]
      rfl)
     clear e hg;go_wp2;go_ret2;exact⟨_,240,240,rfl,ZZe _,HE.out,(fun a ha=>by cases ha;exact hs1),hb.out⟩
end Go.Proofs.YtlmkdmdbpopnhaaGreatDoor
