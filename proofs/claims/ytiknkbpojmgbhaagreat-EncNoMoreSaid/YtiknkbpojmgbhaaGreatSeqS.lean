/-
  Contracts of the document's own numbering over its own view: Num, Last, Next, Set. Condition: which number is an int; tables of fewer than 2^31 pairs.
-/
import Derived.Test.YtiknkbpojmgbhaaGreatRefF
import Derived.Test.YtiknkbpojmgbhaaGreatSeqP
set_option maxHeartbeats 3200000
set_option maxRecDepth 100000
set_option linter.unusedVariables false
open Go.Proofs.Tryz
open Go.Lib (hid)
namespace Go.Proofs.YtiknkbpojmgbhaaGreat
open Go.RowKit Go.Maps
theorem Zeq{w w':World}{u:Value}{l:List Int}(h:ZaG w w' u l)(hl:Zm l)(hlen:l.length<=140737488355328):SV w' (fun k=>k<w.heap.size) u l:=by
 obtain⟨A,c,rfl,h1,h2⟩:=h.read hl;refine⟨A,l.length,c,rfl,h1,hlen,h2,fun a ha hn=>?_⟩;rcases h.1.2 with h'|⟨k,cap,cur,e,hk,_⟩
 · obtain⟨_,h0⟩:=h';omega
 · cases e;cases ha;exact Nat.not_lt.2 hk
section
variable{w w':World}{X:Nat->Prop}{x p q r:Nat}{a b d:TL}
theorem ZfA(n:Int)(W:World)(g:Nat)(T:TypeId)(h:W.heap[g]?=some (.cells #[.int .i64 n] T (0,0)))(hn : -9223372036854775808<=n/\n<=9223372036854775807) :
 Calls prog 126 #[.int .u8 83,.slice (some ⟨g,0,none⟩) 1 1] W fun e w'=>∃A c,e=.returned (.slice A 5 c)/\SV w' (fun k=>k<W.heap.size) (.slice A 5 c) (Zi 83 [n])/\Below W.heap.size W w':=by
 have hr:RI W W.heap.size (some ⟨g,0,none⟩) 1 [n]:=by
  refine⟨rfl,fun y hy=>by obtain rfl:=List.mem_singleton.1 hy;exact hn,fun _=>⟨g,0,rfl,(Array.getElem?_eq_some_iff.1 h).1,fun j hj=>?_⟩⟩;rw[Nat.zero_add,cell_of_row W g j _ T (0,0) h];obtain rfl:j=0:=by simpa using hj
  rfl
 refine(ZeH 83 _ 1 1 _ [n] W (by omega) hr (Nat.le_refl _) (Nat.le_refl _) (by decide)).mono ?_;rintro e w'⟨u,rfl,ho⟩;have hs:=Zeq ho (Zk (by omega) _) (by rw[ZbZ];omega);obtain⟨A,c,rfl,h1,h2⟩:=ho.read (Zk (by omega) _);rw[ZbZ]at hs ⊢;exact⟨A,c,rfl,hs,ho.2⟩
theorem Zct(n:Int)(W:World)(g:Nat)(T:TypeId)(h:W.heap[g]?=some (.cells #[.int .i64 n] T (0,0)))(hn : -9223372036854775808<=n/\n<=9223372036854775807) :
 Calls prog 179 #[.slice (some ⟨g,0,none⟩) 1 1] W fun e w'=>∃A c,e=.returned (.slice A 8 c)/\SV w' (fun k=>k<W.heap.size) (.slice A 8 c) (Zj 8 [n])/\Below W.heap.size W w':=by
 have hr:RI W W.heap.size (some ⟨g,0,none⟩) 1 [n]:=by
  refine⟨rfl,fun y hy=>by obtain rfl:=List.mem_singleton.1 hy;exact hn,fun _=>⟨g,0,rfl,(Array.getElem?_eq_some_iff.1 h).1,fun j hj=>?_⟩⟩;rw[Nat.zero_add,cell_of_row W g j _ T (0,0) h];obtain rfl:j=0:=by simpa using hj
  rfl
 refine(ZiP _ 1 1 _ [n] W hr (Nat.le_refl _) (Nat.le_refl _) (by decide)).mono ?_;rintro e w'⟨u,rfl,ho⟩;have e8:(Zj 8 ([n].take 15)).length=8:=by rw[Zh];rfl
 have hs:=Zeq ho (Zz _ _) (by rw[e8];omega);obtain⟨A,c,rfl,h1,h2⟩:=ho.read (Zz _ _);rw[e8]at hs ⊢;exact⟨A,c,rfl,hs,ho.2⟩
theorem ZhL(h:ZH w X x p q r a b d)(hN:b.length<=2147483647){A:Option Addr}{n k B:Nat}{l:List Int}(hr:RB w B A n l)(hB:B<=w.heap.size) :
 Calls prog 178 #[.pointer (some ⟨x,0,none⟩),.slice A n k] w fun e w'=>∃ok,e=.returned (.tuple #[.int .i64 (seqV (Zf b (tx l))),.bool ok])/\Below w.heap.size w w':=by
 have HG:=hid (ZbA (k:=k) h hN hr hB)
 cases hS:Zf b (tx l)with
 | none=>
  rw[hS]at HG;have hv:seqV none=0:=rfl;go_enter func178,ntmps178;go_wp2_with fail;refine HG.out.mono ?_;rintro e w2⟨u,rfl,hs,hb2⟩;obtain⟨Au,nu,ku,rfl,hu1,hu2,hu3,_⟩:=hs;have hu3:RB w2 w2.heap.size Au nu []:=hu3;have HU:=hid (Zdc Au nu ku _ [] 1 w2 hu3 (Nat.le_refl _) hu1 (Nat.le_trans hu2 (by unfold maxLen;omega)) (by omega) (by omega));have HB:=hid hb2;clear hu3 hu1 hu2 hb2 h hr HG;go_wp2_with fail;refine HU.out.mono ?_;rintro e w3⟨A3,k3,c3,rfl,hk3,_,hr3,hb3⟩;have HE:=hid (HB.out.trans (hb3.mono HB.out.size));clear HU HB hr3 hb3;go_wp2_with fail;go_ret2;exact⟨false,rfl,HE.out⟩
 | some bb=>
  rw[hS]at HG;go_enter func178,ntmps178;go_wp2_with fail;refine HG.out.mono ?_;rintro e w2⟨u,rfl,hs,hb2⟩;obtain⟨Au,nu,ku,rfl,hu1,hu2,hu3,_⟩:=hs;have hu3:RB w2 w2.heap.size Au nu bb:=hu3;have HU:=hid (Zdc Au nu ku _ bb 1 w2 hu3 (Nat.le_refl _) hu1 (Nat.le_trans hu2 (by unfold maxLen;omega)) (by omega) (by omega));have HB:=hid hb2;clear hu3 hu1 hu2 hb2 h hr HG;rcases unpack_one bb with ⟨y,hy⟩|⟨en,hen,hy⟩
  · have hv:seqV (some bb)=y:=by simp[seqV,hy]
    rw[hy]at HU;go_wp2_with fail;refine HU.out.mono ?_;rintro e w3⟨A3,k3,c3,rfl,hk3,_,hr3,hb3⟩;obtain rfl:1=k3:=hr3.len;obtain⟨bl,o,rfl,hbb,hc⟩:=hr3.2.2 (by simp);have c0:=hc 0 (by simp);have HE:=hid (HB.out.trans (hb3.mono HB.out.size));simp only[Nat.add_zero,List.getElem?_cons_zero,Option.getD_some]at c0;clear HU HB hr3 hb3 hc;go_wp2_with fail;go_ret2;exact⟨true,by rw[hv];rfl,HE.out⟩
  · have hv:seqV (some bb)=0:=by simp[seqV,hy,hen]
    have he2:(en != 0)=true:=by simp[hen]
    have he3:(en == 0)=false:=by simp[hen]
    rw[hy]at HU;go_wp2_with fail;refine HU.out.mono ?_;rintro e w3⟨A3,k3,c3,rfl,hk3,_,hr3,hb3⟩;have HE:=hid (HB.out.trans (hb3.mono HB.out.size));clear HU HB hr3 hb3;go_wp2_with fail;go_ret2;exact⟨false,by rw[hv];rfl,HE.out⟩
theorem Zn8(h:ZH w X x p q r a b d)(hN:b.length<=2147483647)(n:Int)(hn : -9223372036854775808<=n/\n<=9223372036854775807) :
 Calls prog 205 #[.pointer (some ⟨x,0,none⟩),.int .i64 n] w fun e w'=>e=.returned (.int .i64 (seqV (Zf b (tx (Zi 83 [n])))))/\Below w.heap.size w w':=by
 have hb1:Below w.heap.size w (w.alloc (.cells #[.int .i64 n] 3)):=(Below.refl _ _).alloc (Nat.le_refl _) _;have HK:=hid (ZfA n (w.alloc (.cells #[.int .i64 n] 3)) w.heap.size 3 (heap_alloc_new w _) hn);go_enter func205,ntmps205;go_wp2_with fail;refine HK.out.mono ?_;rintro e w2⟨A,c,rfl,hs,hb2⟩;obtain⟨s1,s2,s3⟩:=hs.parts;have hP:=hb1.trans (hb2.mono hb1.size);have HM:=hid (ZhL (k:=c) (h.below hP) hN s1 (Nat.le_refl _));have HB:=hid hP;clear s1 s2 s3 hs hb2 hb1 hP HK h;generalize hk:seqV (Zf b (tx (Zi 83 [n])))=k at HM;go_wp2_with fail;refine HM.out.mono ?_;rintro e w3⟨ok,rfl,hb3⟩;have HE:=hid (HB.out.trans (hb3.mono HB.out.size));clear hb3 HB HM;go_wp2_with fail;go_ret;exact⟨by first|rfl|(rw[hk];rfl)|rw[hk],HE.out⟩
theorem Za9{W W':World}{s:Nat}{u:Value}{l:List Int}(h:SV W (fun k=>k<s) u l)(hX:∀k,X k->k<s)(hb:Below W.heap.size W W'):SV W' X u l:=
 h.keep hb.size (fun k _ hn hx=>hn (hX k hx)) (fun k hk _=>hb.block k hk)
theorem Zn9(h:ZH w X x p q r a b d)(hN:b.length<=2147483647)(hD:d.length<=2147483647)(n:Int)(hn : -9223372036854775808<=n/\n<=9223372036854775807) :
 Calls prog 117 #[.pointer (some ⟨x,0,none⟩),.int .i64 n] w fun e w'=>
  e=.returned (.tuple #[.int .i64 (nextE (seqV (Zf b (tx (Zi 83 [n]))))).1,.int .i64 (nextE (seqV (Zf b (tx (Zi 83 [n]))))).2])/\
  ZH w' X x p q r a (if seqV (Zf b (tx (Zi 83 [n])))<0∨seqV (Zf b (tx (Zi 83 [n])))≥4294967295 then b else Zaw b (tx (Zi 83 [n])) (Zj 8 [seqV (Zf b (tx (Zi 83 [n])))+1])) (if seqV (Zf b (tx (Zi 83 [n])))<0∨seqV (Zf b (tx (Zi 83 [n])))≥4294967295 then d else Zaw d (tx (Zi 83 [n])) [])/\Za (fun k=>k=q∨k=r) w w':=by
 have HL:=hid (Zn8 h hN n hn);unfold nextE;generalize hk:seqV (Zf b (tx (Zi 83 [n])))=k at HL ⊢;have HR:=hid h;go_enter func117,ntmps117;go_wp2_with fail;refine HL.out.mono ?_;rintro e w2⟨rfl,hb2⟩;clear HL h;by_cases dd:k<0∨k≥4294967295
 · have HE:=hid (And.intro (HR.out.below hb2) hb2);clear hb2 HR;by_cases d1:k<0
   · have e1:=decide_eq_true d1;go_wp2_with fail;go_ret2;refine⟨?_,?_,Za.of_below HE.out.2⟩
     · first|rfl|(rw[if_pos dd];rfl)|rw[if_pos dd]
     · first|exact HE.out.1|(rw[if_pos dd,if_pos dd];exact HE.out.1)
   · have e1:=decide_eq_false d1;have e2:decide (k>4294967294)=true:=decide_eq_true (by omega);go_wp2_with fail;go_ret2;refine⟨?_,?_,Za.of_below HE.out.2⟩
     · first|rfl|(rw[if_pos dd];rfl)|rw[if_pos dd]
     · first|exact HE.out.1|(rw[if_pos dd,if_pos dd];exact HE.out.1)
 · have e1:decide (k<0)=false:=decide_eq_false (fun z=>dd (.inl z));have e2:decide (k>4294967294)=false:=decide_eq_false (fun z=>dd (.inr (by omega)));have wr:IntKind.i64.wrap (k+1)=k+1:=by rw[IntKind.wrap_i64];first|(unfold wrap64;omega)|omega
   have hb3:Below w2.heap.size w2 (w2.alloc (.cells #[.int .i64 n] 3)):=(Below.refl _ _).alloc (Nat.le_refl _) _;have HK:=hid (ZfA n (w2.alloc (.cells #[.int .i64 n] 3)) w2.heap.size 3 (heap_alloc_new w2 _) hn);have HB:=hid (And.intro hb2 (hb2.trans (hb3.mono hb2.size)));clear hb2 hb3;go_wp2_with fail;refine HK.out.mono ?_;rintro e w4⟨A,c,rfl,hs,hb4⟩;have hb5:Below w4.heap.size w4 (w4.alloc (.cells #[.int .i64 (k+1)] 3)):=(Below.refl _ _).alloc (Nat.le_refl _) _;have HP:=hid (Zct (k+1) (w4.alloc (.cells #[.int .i64 (k+1)] 3)) w4.heap.size 3 (heap_alloc_new w4 _) (by omega));have HS:=hid (And.intro hs (And.intro (HB.out.2.trans (hb4.mono HB.out.2.size)) hb5));clear hs hb4 hb5 HK;go_wp2_with fail;refine HP.out.mono ?_;rintro e w6⟨A2,c2,rfl,hs2,hb6⟩;have hb7:=HS.out.2.2.trans (hb6.mono HS.out.2.2.size);have hb8:=HS.out.2.1.trans (hb7.mono HS.out.2.1.size);have hXl:=HR.out.old;have hk1:SV w6 X (.slice A 5 c) (Zi 83 [n]):=Za9 HS.out.1 (fun z hz=>Nat.lt_of_lt_of_le (hXl z hz) HB.out.2.size) hb7;have hk2:SV w6 X (.slice A2 8 c2) (Zj 8 [k+1]):=Za9 hs2 (fun z hz=>Nat.lt_of_lt_of_le (hXl z hz) (Nat.le_trans HS.out.2.1.size HS.out.2.2.size)) (Below.refl _ _);have hput:=Zcs (HR.out.below hb8) hN hD hk1 hk2;rw[ZhK,if_pos rfl,if_pos rfl]at hput;have HQ:=hid hput;have HB8:=hid hb8;clear hs2 hb6 hb7 hb8 hXl hk1 hk2 hput HP HS HR HB;go_wp2_with fail;refine HQ.out.mono ?_;rintro e w7⟨rfl,hr7,ht7⟩;have HE:=hid (And.intro hr7 ((Za.of_below HB8.out).trans ht7));clear hr7 ht7 HQ HB8;go_wp2_with fail;go_ret2;refine⟨?_,?_,HE.out.2⟩
   · first|rfl|(rw[if_neg dd];rfl)|rw[if_neg dd]
   · first|exact HE.out.1|(rw[if_neg dd,if_neg dd];exact HE.out.1)
end
end Go.Proofs.YtiknkbpojmgbhaaGreat
