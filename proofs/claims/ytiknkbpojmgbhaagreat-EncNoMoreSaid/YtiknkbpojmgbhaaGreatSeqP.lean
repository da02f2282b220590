/- SeqA, SeqP. Conditions: in each theorem. -/
import Derived.Test.YtiknkbpojmgbhaaGreatViewC
import Derived.Test.YtiknkbpojmgbhaaGreatKeyB
import Derived.Deep.RegionHeld3
set_option maxHeartbeats 3200000
set_option maxRecDepth 100000
set_option linter.unusedVariables false
open Go.Proofs.Tryz
open Go.Lib (hid)
namespace Go.Proofs.YtiknkbpojmgbhaaGreat
open Go.RowKit Go.Maps
def seqV(o:Option (List Int)):Int:=match o with
 | none=>0
 | some b=>if(unpackR b 1).2=0 then(unpackR b 1).1[0]?.getD 0 else 0
theorem ZhJ(w:World)(e:TypeId)(l:List Int)(cs:Array Value)(hcs:cs=(l.map (Value.int .i64)).toArray)(h:∀x∈l,-9223372036854775808<=x/\x<=9223372036854775807):RI (w.alloc (.cells cs e)) (w.heap.size+1) (some ⟨w.heap.size,0,none⟩) l.length l:=by
 subst hcs;refine⟨rfl,h,fun _=>⟨w.heap.size,0,rfl,Nat.lt_succ_self _,fun j hj=>?_⟩⟩;rw[Nat.zero_add,cell_of_row (w.alloc (.cells _ e)) w.heap.size j _ e (0,0) (heap_alloc_new w _)];simp[List.getElem?_eq_getElem hj]
theorem Za6(x:Int)(W:World)(g:Nat)(T:TypeId)(h:W.heap[g]?=some (.cells #[.int .i64 x] T (0,0)))(hx : -9223372036854775808<=x/\x<=9223372036854775807) :
 Calls prog 177 #[.slice (some ⟨g,0,none⟩) 1 1] W fun e w'=>∃A c,e=.returned (.slice A 8 c)/\8<=c/\RB w' w'.heap.size A 8 (Zj 8 [x])/\Below W.heap.size W w':=by
 have hr:RI W W.heap.size (some ⟨g,0,none⟩) 1 [x]:=by
  refine⟨rfl,fun y hy=>by obtain rfl:=List.mem_singleton.1 hy;exact hx,fun _=>⟨g,0,rfl,(Array.getElem?_eq_some_iff.1 h).1,fun j hj=>?_⟩⟩;rw[Nat.zero_add,cell_of_row W g j _ T (0,0) h];obtain rfl:j=0:=by simpa using hj
  rfl
 refine(ZiO _ 1 1 _ [x] W hr (Nat.le_refl _) (Nat.le_refl _) (by decide)).mono ?_;rintro e w'⟨u,rfl,ho⟩;obtain⟨A,c,rfl,h1,h2⟩:=ho.read (Zz _ _);have e8:(Zj 8 ([x].take 15)).length=8:=by rw[Zh];rfl
 rw[e8]at h1 h2;exact⟨A,c,by rw[e8],h1,h2,ho.2⟩
theorem unpack_one(b:List Int):(∃x,unpackR b 1=([x],0))∨∃e,e≠0/\unpackR b 1=([],e):=by
 unfold unpackR;rw[if_pos ⟨by omega,by omega⟩];split
 · exact .inl ⟨_,rfl⟩
 · exact .inr ⟨4,by omega,rfl⟩
theorem ZbZ(n:Int):(Zi 83 [n]).length=5:=by unfold Zi;rw[Zt];rfl
section
variable{w w':World}{X:Nat->Prop}{v m c:Nat}{S:VS}
theorem Zls(p:Value)(n:Int)(w:World)(hn : -9223372036854775808<=n/\n<=9223372036854775807) :
 Calls prog 241 #[.agg #[p,.int .i64 n]] w fun e w'=>∃A c,e=.returned (.slice A 5 c)/\5<=c/\RB w' w'.heap.size A 5 (Zi 83 [n])/\Below w.heap.size w w':=by
 have hb:Below w.heap.size w (((w.alloc (.cells #[p,.int .i64 n] 288)).alloc (.cells #[.int .i64 n] 3))):=((Below.refl _ _).alloc (Nat.le_refl _) _).alloc (by simp) _;have hz:(w.alloc (.cells #[p,.int .i64 n] 288)).heap.size=w.heap.size+1:=by simp
 have hl:=ZhJ (w.alloc (.cells #[p,.int .i64 n] 288)) 3 [n] #[.int .i64 n] rfl (fun x hx=>by obtain rfl:=List.mem_singleton.1 hx;exact hn);rw[hz]at hl;have HK:=hid (ZeG 83 _ 1 1 _ [n] _ (by omega) hl (by simp) (Nat.le_refl _) (by decide));have HB:=hid hb;clear hl hb;go_enter func241,ntmps241;go_wp2_with fail;refine HK.out.mono ?_;rintro e w2⟨u,rfl,ho⟩;obtain⟨A,c,rfl,h1,h2⟩:=ho.read (Zk (by omega) _);have HE:=hid (And.intro h1 (And.intro h2 (HB.out.trans (ho.2.mono HB.out.size))));clear HK ho h1 h2 hz;go_wp2;go_ret;have e5:=ZbZ n;obtain⟨h1,h2,h3⟩:=HE.out;rw[e5]at h1 h2;exact⟨A,c,rfl,h1,h2,h3⟩
theorem Zn6(h:Ze w X v m c S)(n:Int)(hn : -9223372036854775808<=n/\n<=9223372036854775807) :
 Calls prog 240 #[.agg #[.pointer (some ⟨v,0,none⟩),.int .i64 n]] w fun e w'=>e=.returned (.int .i64 (seqV (S.now (tx (Zi 83 [n])))))/\Below w.heap.size w w':=by
 obtain⟨w1,hw1⟩:∃w1,w1=w.alloc (.cells #[.pointer (some ⟨v,0,none⟩),.int .i64 n] 288):=⟨_,rfl⟩
 have hb1:Below w.heap.size w w1:=by rw[hw1];exact(Below.refl _ _).alloc (Nat.le_refl _) _
 have c0:w1.drew.cell? ⟨w.heap.size,0,none⟩=some (.pointer (some ⟨v,0,none⟩)):=by rw[hw1];exact cell_of_row _ _ 0 _ _ (0,0) (heap_alloc_new w _)
 have c1:w1.drew.cell? ⟨w.heap.size,1,none⟩=some (.int .i64 n):=by rw[hw1];exact cell_of_row _ _ 1 _ _ (0,0) (heap_alloc_new w _)
 have hlt:w.heap.size<w1.drew.heap.size:=by rw[hw1];show w.heap.size<(w.alloc _).heap.size;simp
 have hT:=hb1.drew;have h1:Ze w1.drew X v m c S:=h.below hb1.drew;have C5:Hid (∀W,Below w1.drew.heap.size w1.drew W->W.cell? ⟨w.heap.size,0,none⟩=some (.pointer (some ⟨v,0,none⟩))/\W.cell? ⟨w.heap.size,1,none⟩=some (.int .i64 n)):=hid fun W hW=>⟨(hW.cell (p:=⟨w.heap.size,0,none⟩) hlt).trans c0,(hW.cell (p:=⟨w.heap.size,1,none⟩) hlt).trans c1⟩
 have c5:=C5.out _ (Below.refl _ _);clear c0 c1 hb1 h;go_enter func240,ntmps240;go_wp2_with fail;rw[<-hw1];clear hw1
 go_region_held3 (fun W=>W.cell? ⟨w.heap.size,0,none⟩=some (.pointer (some ⟨v,0,none⟩))/\W.cell? ⟨w.heap.size,1,none⟩=some (.int .i64 n))
  (first|with_reducible exact c5|exact c5)
  (first
   | (go_at_call 241;refine Calls.mono (Zls _ n _ hn) ?_;rintro e wk ⟨A,k,rfl,hk,hr,hbk⟩;have hg:=ZdE (k:=k) (h1.below hbk) hr (Nat.le_refl _) (by decide);have hT:=hT.trans (hbk.mono hT.size);have c5:=C5.out _ hbk;have hP:=hbk;clear hr hbk)
   | (go_at_call 109;refine Calls.mono hg ?_;rintro e wg ⟨u,rfl,hs,hbg⟩;have hT:=hT.trans (hbg.mono hT.size);have c5:=C5.out _ (hP.trans (hbg.mono hP.size));clear hg hbg))
 obtain⟨Au,nu,ku,rfl,hu1,hu2,hu3,_⟩:=hs;have HT:=hid hT;clear hT c5 C5 h1 hP
 cases hS:S.now (tx (Zi 83 [n]))with
 | none=>
  have hv:seqV none=0:=rfl;go_wp2_with fail;go_ret;refine⟨?_,HT.out⟩
  first|(rw[hS];rfl)|rfl
 | some b=>
  rw[hS]at hu3;have hu3:RB wg wg.heap.size Au nu b:=hu3;have HU:=hid (Zcd Au nu ku _ b 1 wg hu3 (Nat.le_refl _) hu1 (Nat.le_trans hu2 (by unfold maxLen;omega)) (by omega) (by omega));clear hu3 hu1 hu2;rcases unpack_one b with ⟨x,hx⟩|⟨en,hen,hx⟩
  · have hv:seqV (some b)=x:=by simp[seqV,hx]
    rw[hx]at HU;go_wp2_with fail;refine HU.out.mono ?_;rintro e w3⟨A3,k3,c3,rfl,hk3,_,hr3,hb3⟩;obtain rfl:1=k3:=hr3.len;obtain⟨bb,o,rfl,hbb,hc⟩:=hr3.2.2 (by simp);have c0:=hc 0 (by simp);have HE:=hid (HT.out.trans (hb3.mono HT.out.size));simp only[Nat.add_zero,List.getElem?_cons_zero,Option.getD_some]at c0;clear HU HT hr3 hb3 hc;go_wp2_with fail;go_ret;refine⟨?_,HE.out⟩
    first|(rw[hS,hv];rfl)|(rw[hv];rfl)|rfl
  · have hv:seqV (some b)=0:=by simp[seqV,hx,hen]
    have he2:(en != 0)=true:=by simp[hen]
    rw[hx]at HU;go_wp2_with fail;refine HU.out.mono ?_;rintro e w3⟨A3,k3,c3,rfl,hk3,_,hr3,hb3⟩;have HE:=hid (HT.out.trans (hb3.mono HT.out.size));clear HU HT hr3 hb3;go_wp2_with fail;go_ret;refine⟨?_,HE.out⟩
    first|(rw[hS,hv];rfl)|(rw[hv];rfl)|rfl
def VS.next(S:VS)(n:Int):VS:=if seqV (S.now (tx (Zi 83 [n])))<0∨seqV (S.now (tx (Zi 83 [n])))≥4294967295 then S else S.put (tx (Zi 83 [n])) (Zj 8 [seqV (S.now (tx (Zi 83 [n])))+1])
def nextE(k:Int):Int×Int:=if k<0∨k≥4294967295 then(0,9)else(k+1,0)
theorem ZhK(n x:Int):putE (Zi 83 [n]) (Zj 8 [x])=0:=by
 have h8:(Zj 8 [x]).length=8:=by rw[Zh];rfl
 unfold putE;rw[ZbZ,h8];exact if_neg (by rintro(a|a|a) <;> omega)
theorem Zjl(h:Ze w X v m c S)(n:Int)(hn : -9223372036854775808<=n/\n<=9223372036854775807)(hC:S.C.length<maxLen) :
 Calls prog 190 #[.pointer (some ⟨v,0,none⟩),.int .i64 n] w fun e w'=>
  e=.returned (.tuple #[.int .i64 (nextE (seqV (S.now (tx (Zi 83 [n]))))).1,.int .i64 (nextE (seqV (S.now (tx (Zi 83 [n]))))).2])/\Ze w' X v m c (S.next n)/\Za (fun k=>k=c) w w':=by
 obtain⟨w1,hw1⟩:∃w1,w1=w.alloc (.cells #[.pointer (some ⟨v,0,none⟩),.int .i64 n] 288):=⟨_,rfl⟩
 have hb1:Below w.heap.size w w1:=by rw[hw1];exact(Below.refl _ _).alloc (Nat.le_refl _) _
 have c0:w1.cell? ⟨w.heap.size,0,none⟩=some (.pointer (some ⟨v,0,none⟩)):=by rw[hw1];exact cell_of_row _ _ 0 _ _ (0,0) (heap_alloc_new w _)
 have c1:w1.cell? ⟨w.heap.size,1,none⟩=some (.int .i64 n):=by rw[hw1];exact cell_of_row _ _ 1 _ _ (0,0) (heap_alloc_new w _)
 have hlt:w.heap.size<w1.heap.size:=by rw[hw1];simp
 have HL:=hid (Zn6 (h.below hb1) n hn);have C5:Hid (∀W,Below w1.heap.size w1 W->W.cell? ⟨w.heap.size,0,none⟩=some (.pointer (some ⟨v,0,none⟩))/\W.cell? ⟨w.heap.size,1,none⟩=some (.int .i64 n)):=hid fun W hW=>⟨(hW.cell (p:=⟨w.heap.size,0,none⟩) hlt).trans c0,(hW.cell (p:=⟨w.heap.size,1,none⟩) hlt).trans c1⟩
 have HV:=hid (h.below hb1);have hcw:w.heap.size≠c:=Nat.ne_of_gt (h.lt c h.xc);unfold VS.next nextE;generalize hk:seqV (S.now (tx (Zi 83 [n])))=k at HL ⊢;go_enter func190,ntmps190;go_wp2_with fail;rw[<-hw1];go_wp2_with fail;refine HL.out.mono ?_;rintro e w2⟨rfl,hb2⟩;clear c0 c1 HL h;by_cases d:k<0∨k≥4294967295
 · have HE:=hid (And.intro (HV.out.below hb2) (hb1.trans (hb2.mono hb1.size)));clear hb1 hb2 hw1 C5 HV;by_cases d1:k<0
   · have e1:=decide_eq_true d1;go_wp2_with fail;go_ret2;refine⟨?_,?_,Za.of_below HE.out.2⟩
     · first|rfl|(rw[if_pos d];rfl)|rw[if_pos d]
     · first|exact HE.out.1|(rw[if_pos d];exact HE.out.1)
   · have e1:=decide_eq_false d1;have e2:decide (k≥4294967295)=true:=decide_eq_true (by omega);go_wp2_with fail;go_ret2;refine⟨?_,?_,Za.of_below HE.out.2⟩
     · first|rfl|(rw[if_pos d];rfl)|rw[if_pos d]
     · first|exact HE.out.1|(rw[if_pos d];exact HE.out.1)
 · have e1:decide (k<0)=false:=decide_eq_false (fun q=>d (.inl q));have e2:decide (k≥4294967295)=false:=decide_eq_false (fun q=>d (.inr q));have hk0:0<=k:=by omega
   have hk1:k<4294967295:=by omega
   have wr:IntKind.i64.wrap (k+1)=k+1:=by rw[IntKind.wrap_i64];first|(unfold wrap64;omega)|omega
   have hk64 : -9223372036854775808<=k+1/\k+1<=9223372036854775807:=by omega
   have HR:Hid (∀W,Below (w2.alloc (.cells #[.int .i64 (k+1)] 3 (0,0))).drew.heap.size (w2.alloc (.cells #[.int .i64 (k+1)] 3 (0,0))).drew W->W.heap[w2.heap.size]?=some (.cells #[.int .i64 (k+1)] 3 (0,0))):=hid fun W hW=>(hW.block _ (by show w2.heap.size<(w2.alloc _).heap.size;simp)).trans (heap_alloc_new w2 _)
   have hP:Below w1.heap.size w1 w2.drew:=hb2.drew;have c5:=C5.out _ hP;have hv:Ze w2.drew X v m c S:=HV.out.below hP;have HB:=hid hb1;clear hb1 hw1 HV;obtain⟨c50,c51⟩:=C5.out _ hb2;go_wp2_with fail;clear c50 c51
   go_region_held3 (fun W=>W.cell? ⟨w.heap.size,0,none⟩=some (.pointer (some ⟨v,0,none⟩))/\W.cell? ⟨w.heap.size,1,none⟩=some (.int .i64 n))
    (first|with_reducible exact c5|exact c5|exact C5.out _ (hP.alloc hP.size _))
    (first
     | (go_at_call 241;refine Calls.mono (Zls _ n _ hn) ?_;rintro e wk ⟨A,j,rfl,hj,hr,hbk⟩;(first|have hv:=hv.below hbk|have hv:=(hv.alloc _).below hbk);(first|have hP:=hP.trans (hbk.mono hP.size)|have hP:=(hP.alloc hP.size _).trans (hbk.mono (hP.alloc hP.size _).size));have c5:=C5.out _ hP;have hpB:=Za6 (k+1) (wk.alloc (.cells #[.int .i64 (k+1)] 3 (0,0))) wk.heap.size 3 (heap_alloc_new _ _) hk64;(first|have hpC:=Za6 (k+1) wk w2.heap.size 3 (HR.out _ hbk) hk64|skip))
     | (go_at_call 177;(first|with_reducible refine Calls.mono hpB ?_|with_reducible refine Calls.mono hpC ?_);rintro e wp ⟨A2,j2,rfl,hj2,hr2,hbp⟩;(first|(have hr:=(hr.below hbp).more hbp.size;have hv:=hv.below hbp;have hP:=hP.trans (hbp.mono hP.size))|(have hba:=(Below.refl wk.heap.size wk).alloc (Nat.le_refl _) (.cells #[.int .i64 (k+1)] 3 (0,0));have hr:=(hr.below hba).more hba.size;have hr:=(hr.below hbp).more hbp.size;have hv:=(hv.alloc (.cells #[.int .i64 (k+1)] 3 (0,0))).below hbp;have hP:=(hP.alloc hP.size (.cells #[.int .i64 (k+1)] 3 (0,0))).trans (hbp.mono (hP.alloc hP.size (.cells #[.int .i64 (k+1)] 3 (0,0))).size)));have c5:=C5.out _ hP;have hput:=ZcU (k:=j) (k':=j2) hv hr (Nat.le_refl _) (by decide) hr2 (Nat.le_refl _) (by decide) hC;rw[ZhK]at hput)
     | (go_at_call 96;refine Calls.mono hput ?_;rintro e wq ⟨rfl,hvq,htq⟩;have c5:wq.cell? ⟨w.heap.size,0,none⟩=some (.pointer (some ⟨v,0,none⟩))/\wq.cell? ⟨w.heap.size,1,none⟩=some (.int .i64 n):=⟨(World.cell?_of_block (a:=⟨w.heap.size,0,none⟩) (htq.block w.heap.size (Nat.lt_of_lt_of_le hlt hP.size) hcw)).trans c5.1,(World.cell?_of_block (a:=⟨w.heap.size,1,none⟩) (htq.block w.heap.size (Nat.lt_of_lt_of_le hlt hP.size) hcw)).trans c5.2⟩))
   all_goals have eS:S.putR (Zi 83 [n]) (Zj 8 [k+1])=S.put (tx (Zi 83 [n])) (Zj 8 [k+1]):=by unfold VS.putR;rw[ZhK];rfl
   all_goals rw[eS]at hvq
   all_goals have HE:=hid (And.intro hvq ((Za.of_below (HB.out.trans (hP.mono HB.out.size))).trans htq))
   all_goals clear hvq htq hput hr hr2 hbk hbp hv hP c5 C5 HR HB hpB
   all_goals try clear hba
   all_goals try clear hpC
   all_goals go_wp2_with fail
   all_goals go_ret2
   all_goals refine⟨?_,?_,HE.out.2⟩
   all_goals first|exact HE.out.1|(rw[if_neg d];exact HE.out.1)|rfl|(rw[if_neg d];rfl)|rw[if_neg d]
end
end Go.Proofs.YtiknkbpojmgbhaaGreat
namespace Go.Proofs.YtiknkbpojmgbhaaGreat
open Go.RowKit Go.Maps
theorem Zn7{x:Int}(h : -9223372036854775808<=x/\x<=9223372036854775807):seqV (some (Zj 8 [x]))=x:=by
 have e:unpackR (Zj 8 [x]) 1=([x],0):=by
  unfold unpackR;rw[if_pos ⟨by omega,by omega⟩,if_pos (by rw[Zh];rfl)]
  show(Z0 8 (Zj 8 [x]) 0 1,(0:Int))=([x],0)
  rw[show(1:Nat) = [x].length from rfl,Zdb 8 [x] (fun y hy=>by obtain rfl:=List.mem_singleton.1 hy;exact Zq9 h)]
 simp[seqV,e]
theorem Zpw(S:VS)(n:Int):(S.next n).C.length<=S.C.length+1:=by
 unfold VS.next;split
 · exact Nat.le_succ _
 · exact ZL _ _ _
end Go.Proofs.YtiknkbpojmgbhaaGreat
