/- MetaX. Conditions: in each theorem. -/
import Derived.Test.YtlmkdmdbpopnhaaGreatDoorG22
import Derived.Lib.BufferWrite
set_option maxHeartbeats 6400000
set_option maxRecDepth 100000
set_option linter.unusedVariables false
open Go.Proofs.Tryz
open Go.Lib (hid)
namespace Go.Proofs.YtlmkdmdbpopnhaaGreatDoor
open Go.RowKit
theorem ZkI{w:World}{A:Option Addr}{k cap:Nat}(d f n c:Int){l:List Int}(hr:RI w w.heap.size A k l)(hm:k<=maxLen)(hd : -9223372036854775808<=d/\d<=9223372036854775807)(hf : -9223372036854775808<=f/\f<=9223372036854775807)(hn : -9223372036854775808<=n/\n<=9223372036854775807)(hc : -9223372036854775808<=c/\c<=9223372036854775807) :
 Calls prog 159 #[.agg #[.int .i64 d,.int .i64 f,.int .i64 n,.int .i64 c,.slice A k cap]] w fun e w'=>∃A' n' c',e=.returned (.tuple #[.slice A' n' c',.int .i64 (Ziy ⟨d,f,n,c,l⟩).2])/\n'<=c'/\RB w' w'.heap.size A' n' (Ziy ⟨d,f,n,c,l⟩).1/\(∀a,A'=some a->w.heap.size<=a.block)/\Below w.heap.size w w':=by
 obtain⟨i0,hi,hz0,hz1,hz2⟩:=info_parts Zbg;have hbox:Below w.heap.size w (w.alloc (.cells #[.int .i64 d,.int .i64 f,.int .i64 n,.int .i64 c,.slice A k cap] 41)):=(Below.refl _ _).alloc (ZZe _) _;have hmb:=ZdA.new w d f n c (.slice A k cap);have hsz:=hbox.size;have HM:=hid (Zi5 (w:=w.alloc (.cells #[.int .i64 d,.int .i64 f,.int .i64 n,.int .i64 c,.slice A k cap] 41)) (cap:=cap) d f n c ((hr.below hbox).more hsz) hm ⟨hf,hn,hc⟩);have HR:=hid hr;have HB:=hid hbox;have hlen:=hid hr.len;have hmay:=fun h=>ZeZ (m:=⟨d,f,n,c,l⟩) h
 obtain⟨c0,c1,c2,c3,c4,hbl⟩:=hmb.cells;have HMB:=hid hmb
 cases hmb2:Zft ⟨d,f,n,c,l⟩ with
 | false=>
  have hP:Ziy ⟨d,f,n,c,l⟩=([],1):=by unfold Ziy;rw[if_neg (by rw[hmb2];decide)]
  rw[hmb2]at HM;rw[hP];clear hP hmay hmb2 hmb hbox hr;go_enter func159,ntmps159;go_wp2_with fail;refine HM.out.mono ?_;rintro e w1⟨rfl,hb1⟩;have hF:=hid (HB.out.trans (hb1.mono hsz));clear hb1;go_wp2;go_ret2;exact⟨none,0,0,rfl,ZZe _,RB.nil_,(fun a ha=>by cases ha),hF.out⟩
 | true=>
  obtain⟨⟨m1,m2⟩,⟨m3,m4⟩,m5,m6⟩:=hmay hmb2;have hk20:k<=20:=by have:=hlen.out;simp at m4;omega
  have hP:Ziy ⟨d,f,n,c,l⟩=(ZM ⟨d,f,n,c,l⟩,0):=by unfold Ziy;rw[if_pos hmb2]
  have HME:=hid (Zln (m:=⟨d,f,n,c,l⟩));have HML:=hid (ZaE (m:=⟨d,f,n,c,l⟩) (by simp at m4 ⊢;omega));have HFD:Hid (∀x∈l,Zj x ((4:Nat):Int)=true):=hid fun x hx=>Zbu m6 hx
  have HF3:Hid (∀x∈[f,n,c],Zj x ((4:Nat):Int)=true):=hid fun x hx=>Zbu m5 hx
  have HF1:Hid (∀x∈[d,(k:Int)],Zj x ((1:Nat):Int)=true):=hid fun x hx=>by
   simp at hx m1 m2;rcases hx with rfl|rfl
   · exact Zi4 (by omega)
   · exact Zi4 (by omega)
  rw[hmb2]at HM;rw[hP];clear hP hmay hmb2 hmb hbox hr m1 m2 m3 m4 m5 m6;go_enter func159,ntmps159;go_wp2_with fail;refine HM.out.mono ?_;rintro e w1⟨rfl,hb1⟩;have hmb1:=HMB.out.below hb1;have hb01:=HB.out.trans (hb1.mono hsz);have hs1:=hb01.size;obtain⟨c0,c1,c2,c3,c4,hbl1⟩:=hmb1.cells
  go_wp2_with (first
   | (refine wpList_make_full w1 rfl _ _ 55 rfl w1.heap.size 5 i0 (.int .u8 0) 1 underlying55 hi hz0 hz1 .i64 .i64 _ _ 240 rfl rfl (by simp) (by simp) (by rw[hz2];decide) (by decide) (ZZe _) ?_;intro w2 hown2 hg2;have hb2:Below w1.heap.size w1 w2:=(Below.refl _ _).grown hg2 (ZZe _) (by simp);obtain⟨w3,hrun3,HK3,hmb3⟩:=Zfu hown2 hb2 hmb1;obtain⟨c0,c1,c2,c3,c4,hbl3⟩:=hmb3.cells;clear hown2 hg2 hb2))
  have HG3:=hid HK3.out.1;have HT3:=hid HK3.out.2;have hgw:w1.heap.size<w3.heap.size:=(ZZa.1 HG3.out).1;have hbW3:=hid (hb01.trans (HT3.out.below (B:=w.heap.size) (fun j e=>by rw[e];exact hs1) hs1));have hX4:Below w3.heap.size w3 (w3.alloc (.cells #[.int .i64 d,.int .i64 (k:Int)] 3)):=(Below.refl _ _).alloc (ZZe _) _
  have HL4:=hid (Ze0 (cap:=2) (w:=w3.alloc (.cells #[.int .i64 d,.int .i64 (k:Int)] 3)) (g:=w1.heap.size) (a:=4) (s:=1) (n:=2) (L:=splice (Zcm 240 0) 0 Za8) (l:=[d,(k:Int)]) ((hX4.block _ hgw).trans HG3.out) (by rw[length_splice _ _ _ (by rw[Zv];decide),Zv]) (RI.lit w3 3 [d,(k:Int)] #[.int .i64 d,.int .i64 (k:Int)] rfl (fun x hx=>by
   simp at hx;rcases hx with rfl|rfl
   · exact hd
   · omega)) (by simp) (fun _ x hx=>by cases hx;show ¬w3.heap.size=w1.heap.size;omega) (.inl rfl) (by decide) HF1.out)
  rw[show((4+1*2:Nat):Int)=6 from rfl,show((4:Nat):Int)=4 from rfl,show((1:Nat):Int)=1 from rfl,Zbw (L:=Zcm 240 0) (k:=4) (d:=Za8) rfl (by rw[Zi,Zv];show 4+1*2<=240;decide)]at HL4;have hmb4:=hid (hmb3.below hX4);have hbX4:=hid (hbW3.out.trans (hX4.mono hbW3.out.size));clear hX4 hmb3;go_wp2_with fail;refine HL4.out.mono ?_;rintro e w4⟨rfl,hblk4,ht4⟩;have hmb5:=hmb4.out.keep (ht4.block _ hmb4.out.cells.2.2.2.2.2 (fun e=>by omega));have hbW4:=hid (hbX4.out.trans (ht4.below (B:=w.heap.size) (fun j e=>by rw[e];exact hs1) hbX4.out.size));have hgw4:w1.heap.size<w4.heap.size:=(ZZa.1 hblk4).1;have HG4:=hid hblk4;clear HL4 HG3 hbX4 hbW3 hmb4 ht4 hblk4 c0 c1 c2 c3 c4;obtain⟨c0,c1,c2,c3,c4,hbl4⟩:=hmb5.cells;have hX5:Below w4.heap.size w4 (w4.alloc (.cells #[.int .i64 f,.int .i64 n,.int .i64 c] 3)):=(Below.refl _ _).alloc (ZZe _) _
  have HL5:=hid (Ze0 (cap:=3) (w:=w4.alloc (.cells #[.int .i64 f,.int .i64 n,.int .i64 c] 3)) (g:=w1.heap.size) (a:=6) (s:=4) (n:=3) (L:=splice (Zcm 240 0) 0 (Za8++ZS 1 [d,(k:Int)])) (l:=[f,n,c]) ((hX5.block _ hgw4).trans HG4.out) (by rw[length_splice _ _ _ (by rw[Zv,List.length_append,Zi];show 0+(4+1*2)<=240;decide),Zv]) (RI.lit w4 3 [f,n,c] #[.int .i64 f,.int .i64 n,.int .i64 c] rfl (fun x hx=>by
   simp at hx;rcases hx with rfl|rfl|rfl
   · exact hf
   · exact hn
   · exact hc)) (by simp) (fun _ x hx=>by cases hx;show ¬w4.heap.size=w1.heap.size;omega) (.inr rfl) (by decide) HF3.out)
  rw[show((6+4*3:Nat):Int)=18 from rfl,show((6:Nat):Int)=6 from rfl,show((4:Nat):Int)=4 from rfl,Zbw (L:=Zcm 240 0) (k:=6) (d:=Za8++ZS 1 [d,(k:Int)]) (by rw[List.length_append,Zi];rfl) (by rw[Zi,List.length_append,Zi,Zv];show 4+1*2+4*3<=240;decide)]at HL5;have hmb6:=hid (hmb5.below hX5);have hbX5:=hid (hbW4.out.trans (hX5.mono hbW4.out.size));clear hX5 hmb5;go_wp2_with fail;refine HL5.out.mono ?_;rintro e w5⟨rfl,hblk5,ht5⟩;have hmb7:=hmb6.out.keep (ht5.block _ hmb6.out.cells.2.2.2.2.2 (fun e=>by omega));have hbW5:=hid (hbX5.out.trans (ht5.below (B:=w.heap.size) (fun j e=>by rw[e];exact hs1) hbX5.out.size));have hgw5:w1.heap.size<w5.heap.size:=(ZZa.1 hblk5).1;have HG5:=hid hblk5;clear HL5 HG4 hbX5 hbW4 hmb6 ht5 hblk5 c0 c1 c2 c3 c4;obtain⟨c0,c1,c2,c3,c4,hbl5⟩:=hmb7.cells
  have HL6:=hid (Ze0 (cap:=cap) (w:=w5) (g:=w1.heap.size) (a:=18) (s:=4) (n:=k) (L:=splice (Zcm 240 0) 0 (Za8++ZS 1 [d,(k:Int)]++ZS 4 [f,n,c])) (l:=l) HG5.out (by rw[length_splice _ _ _ (by rw[Zv,List.length_append,List.length_append,Zi,Zi];show 0+(4+1*2+4*3)<=240;decide),Zv]) (HR.out.below hbW5.out) hbW5.out.size (fun h0 x hx=>by
   obtain⟨b,off,e,hb,_⟩:=HR.out.2.2 h0;rw[hx]at e;cases e;show ¬b=w1.heap.size
   omega) (.inr rfl) (by omega) HFD.out)
  have hfr:Za8++ZS 1 [d,(k:Int)]++ZS 4 [f,n,c]++ZS 4 l=Zbn ⟨d,f,n,c,l⟩:=by
   unfold Zbn;rw[show((l.length:Nat):Int)=(k:Int) by rw[hlen.out]]
  rw[show((18:Nat):Int)=18 from rfl,show((4:Nat):Int)=4 from rfl,Zbw (L:=Zcm 240 0) (k:=18) (d:=Za8++ZS 1 [d,(k:Int)]++ZS 4 [f,n,c]) (by rw[List.length_append,List.length_append,Zi,Zi];rfl) (by rw[Zi,List.length_append,List.length_append,Zi,Zi,Zv,hlen.out];show 4+2+12+4*k<=240;omega),hfr,HME.out]at HL6;clear hfr hmb7;go_wp2_with fail;refine HL6.out.mono ?_;rintro e w6⟨rfl,hblk6,ht6⟩;have hF:=hid (hbW5.out.trans (ht6.below (B:=w.heap.size) (fun j e=>by rw[e];exact hs1) hbW5.out.size));have hbyt:=Zee ⟨d,f,n,c,l⟩;have hRB:=hid (Zd2.rb (w:=w6) (g:=w1.heap.size) (L:=ZM ⟨d,f,n,c,l⟩) ⟨[],by rw[List.append_nil];exact hblk6⟩ HML.out hbyt);clear HL6 hblk6 ht6 hbyt HG5 hbW5 c0 c1 c2 c3 c4;go_wp2;go_ret2;exact⟨_,240,240,rfl,ZZe _,hRB.out,(fun a ha=>by cases ha;exact hs1),hF.out⟩
end Go.Proofs.YtlmkdmdbpopnhaaGreatDoor
