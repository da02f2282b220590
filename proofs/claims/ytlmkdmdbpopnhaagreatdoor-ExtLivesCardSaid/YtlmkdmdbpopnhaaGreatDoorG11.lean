/- DevI, RedoPF, RedoPG, RedoPH. Conditions: in each theorem. -/
import Derived.Test.YtlmkdmdbpopnhaaGreatDoorG10
import Derived.Test.YtlmkdmdbpopnhaaGreatDoorG9
set_option maxHeartbeats 8000000
set_option maxRecDepth 100000
set_option linter.unusedVariables false
open Go.Proofs.Tryz
open Go.Lib (hid)
namespace Go.Proofs.YtlmkdmdbpopnhaaGreatDoor
open Go.RowKit
theorem Zl0(t:Int)(w:World):Calls prog 198 #[.int .i64 t] w fun e w'=>e=.returned (.bool true)/\Below w.heap.size w w':=by
 go_enter func198,ntmps198;go_wp2;go_ret;exact⟨rfl,Below.refl _ _⟩
theorem Zj8{S:DS}(h:S.Ok)(hd:S.down=false):S.settled (fun _=>true)=S.flush:=by
 have e:ZbQ S (fun _=>true) S.pend.length=S.last:=by
  funext j
  by_cases hj:j∈S.pend
  · unfold ZbQ;obtain⟨t,ht,e⟩:=List.getElem_of_mem hj;rw[if_pos ⟨t,ht,by rw[ZZc ht,e],rfl⟩]
  · unfold ZbQ;rw[if_neg (fun⟨t,_,h1,_⟩=>hj (List.mem_of_getElem? h1))];exact(h.same j hj).symm
 unfold DS.settled DS.flush;rw[e,if_neg (by simp[hd])]
theorem Znt(w:World)(F:Nat->Prop)(p:Addr)(S:DS)(h:DAt w F p S):Calls prog 138 #[.pointer (some p)] w fun e w'=>e=.returned (.int .i64 S.flushE)/\ZaD F w w' p S.flush:=by
 have h0:=h;obtain⟨b,sb,fb,left,pv,sN,fN,sf,ff,rfl,hrow,hrest,harm,hok,hdom,hcnt,hFb,hlt,c0,c1,c2,c3,c4,c5,c6⟩:=h.parts;have hn:(0:Int)<(S.n:Int):=by have:=hok.size;omega
 by_cases hd:S.down=true
 · have e1:S.flushE=5:=by simp[DS.flushE,hd]
   have e2:S.flush=S:=by simp[DS.flush,hd]
   rw[e1,e2];have HE:=hid (ZaD.same h0);rw[hd]at c1;clear h h0 hrow hrest hdom hlt e1 e2;go_enter func138,ntmps138;go_wp2_with fail;refine(Zfm c1 c2 hn).mono ?_;rintro e w1⟨rfl,rfl⟩;go_wp2;go_ret;exact⟨rfl,HE.out⟩
 · have hd':S.down=false:=by simpa using hd
   have e1:S.flushE=0:=by simp[DS.flushE,hd']
   rw[e1,<-Zj8 hok hd'];rw[hd']at c1;have HS:=hid (ZlZ (fun _=>true) (fun _=>True) w F ⟨b,0,none⟩ S h0 trivial (fun _ _ _ _ _ _=>trivial) (fun t w1 _ _=>Zl0 t w1));clear h h0 hrow hrest hdom hlt e1;go_enter func138,ntmps138;go_wp2_with fail;refine(ZbI c1 c2 hn).mono ?_;rintro e w1⟨rfl,rfl⟩;go_wp2_with fail;refine HS.out.mono ?_;rintro e w2⟨rfl,ha⟩;go_wp2;go_ret;exact⟨rfl,ha⟩
def ZcC(l:List Int)(k:Nat):Int->Option Value:=fun i=>if i∈l.take k then some (.agg #[])else none
theorem Zf2{l:List Int}{k:Nat}{i:Int}(h:l[k]?=some i):(fun j=>if j=i then some (Value.agg #[])else ZcC l k j)=ZcC l (k+1):=by
 funext j
 unfold ZcC;have e:l.take (k+1)=l.take k++[i]:=by rw[List.take_add_one,h];rfl
 rw[e];by_cases hj:j=i
 · subst hj;simp
 · rw[if_neg hj];simp[hj]
theorem ZiF(w:World):(zeroValue 194).run prog w=.ok (.agg #[]) w:=by kernel_rfl
theorem Zdr{P:Program}{t k e:TypeId}(ht:P.underlying t=some (.map k e))(n:Int)(w:World):(Instr.makeMap t (some (.int .i64 n))).run P w=.ok (.map (some w.heap.size)) (w.alloc (.map #[] 0)):=by
 simp[Instr.makeMap,run_underlying ht,asInt,asIntOf]
theorem ZiG(A:Option Addr)(n c B:Nat)(l:List Int)(w:World)(hr:RI w B A n l)(hm:n<=maxLen) :
 Calls prog 81 #[.slice A n c] w fun e w'=>∃pc pm,e=.returned (.func (.func 135) #[] #[.pointer (some ⟨pc,0,none⟩)])/\w'.heap[pc]?=some (.cells #[.map (some pm)] 193)/\Zbl w' pm n (ZcC l n)/\w.heap.size<=pc/\w.heap.size<=pm/\Below w.heap.size w w':=by
 have hmk:=Zdr (P:=prog) underlying193 (n:Int);unfold maxLen at hm;have HR:=hid hr;clear hr;go_enter func81,ntmps81;go_wp2
 go_loopw[11] (fun i wr=>∃k:Nat,k<=n/\i=.int .i64 k/\Hid (wr.heap[w.heap.size+1]?=some (.cells #[.map (some w.heap.size)] 193)/\Zbl wr w.heap.size k (ZcC l k)/\Below w.heap.size w wr)) (fun i _=>n-(intOf i).toNat)
 case atStart=>
  refine⟨0,Nat.zero_le _,rfl,hid ⟨?_,?_,((Below.refl _ _).alloc (ZZe _) _).alloc (by simp) _⟩⟩
  · have h:=heap_alloc_new (w.alloc (.map #[] 0)) (.cells #[.map (some w.heap.size)] 193);simpa using h
  · have h:=(Zbl.made w).of_block (w':=(w.alloc (.map #[] 0)).alloc (.cells #[.map (some w.heap.size)] 193)) (heap_alloc_old _ _ (by simp));refine h.congr (fun i=>?_);simp[ZcC]
 case round=>
  obtain⟨k,hk,rfl,hM⟩:=hrel;obtain⟨hpc,him,hb⟩:=hM.out;by_cases hlt:k<n
  · have hlt':(k:Int)<(n:Int):=by omega
    obtain⟨ab,ao,rfl,hab,hcell⟩:=HR.out.2.2 (by omega);have hck:=(World.cell?_of_block (a:=⟨ab,ao+k,none⟩) (hb.block ab (Znn (hcell k hlt)))).trans (hcell k hlt);have hlk:l[k]?=some (l[k]?.getD 0):=by rw[ZZc (by have:=HR.out.len;omega)];rfl
    have hrange:=HR.out.2.1 _ (List.mem_of_getElem? hlk);have hst:=Zf2 hlk
    have hcp:wr.cell? ⟨w.heap.size+1,0,none⟩=some (.map (some w.heap.size)):=by
     rw[cell_of_row wr _ 0 _ _ (0,0) hpc];rfl
    generalize l[k]?.getD 0=x at hck hrange hst;obtain⟨w2,hrun,him2,hg⟩:=him.store underlying193 (by unfold maxLen;omega) hrange (.agg #[])
    have hM2:=hid (show w2.heap[w.heap.size+1]?=some (.cells #[.map (some w.heap.size)] 193)/\Zbl w2 w.heap.size (k+1) (ZcC l (k+1))/\Below w.heap.size w w2 from
     ⟨(hg.block _ (ZZa.1 hpc).1 (fun e=>by injection e with e;omega)).trans hpc,by rw[<-hst];exact him2,hb.grown hg hb.size (fun k hk=>by injection hk with hk;omega)⟩)
    clear hcell hlk him hpc hb him2 hg hst hmk hM hab;go_wp2;go_roundw
    case rel=>exact⟨k+1,by omega,by go_num,hM2⟩
    case measure=>simp[intOf];omega
  · obtain rfl:k=n:=by omega
    clear hmk;go_wp2;go_ret;exact⟨w.heap.size+1,w.heap.size,rfl,hpc,him,by omega,ZZe _,hb⟩
theorem Zg5(l:List Int)(n:Nat)(i:Int):(ZcC l n i).getD (.agg #[])=.agg #[]/\(ZcC l n i).isSome=decide (i∈l.take n):=by
 unfold ZcC;by_cases h:i∈l.take n <;> simp[h]
theorem Zl1{pc pm n:Nat}{l:List Int}(t:Int)(w:World)(hpc:w.heap[pc]?=some (.cells #[.map (some pm)] 193))(him:Zbl w pm n (ZcC l n))(ht : -9223372036854775808<=t/\t<=9223372036854775807) :
 Calls prog 135 #[.int .i64 t,.pointer (some ⟨pc,0,none⟩)] w fun e w'=>e=.returned (.bool (decide (t∈l.take n)))/\Below w.heap.size w w':=by
 have hcp:w.cell? ⟨pc,0,none⟩=some (.map (some pm)):=by
  rw[cell_of_row w pc 0 _ _ (0,0) hpc];rfl
 have q:=him.look underlying193 (ZiF w) ht;obtain⟨e1,e2⟩:=Zg5 l n t;rw[e1,e2]at q;clear him hpc e1 e2;go_enter func135,ntmps135;go_wp2;go_ret;exact⟨rfl,(Below.refl _ _).alloc (ZZe _) _⟩
open Classical in
theorem ZhH{S:DS}(l:List Int) : {S.settled (fun t=>decide ((t:Int)∈l))with arm:=none,down:=false}=S.crash l:=by
 have e:ZbQ S (fun t=>decide ((t:Int)∈l)) S.pend.length=fun i=>if S.kept l i then S.last i else S.safe i:=by
  funext j
  unfold ZbQ
  have h:Zp0 S (fun t=>decide ((t:Int)∈l)) S.pend.length j↔S.kept l j:=by
   constructor
   · rintro⟨t,_,h1,h2⟩;exact⟨t,h1,of_decide_eq_true h2⟩
   · rintro⟨t,h1,h2⟩;exact⟨t,(ZZb.1 h1).1,h1,decide_eq_true h2⟩
  by_cases hk:S.kept l j
  · rw[if_pos hk,if_pos (h.2 hk)]
  · rw[if_neg hk,if_neg (fun h'=>hk (h.1 h'))]
 unfold DS.settled DS.crash;rw[e]
theorem ZaD.trans{F:Nat->Prop}{w w1 w2:World}{p:Addr}{S1 S2:DS}(h:ZaD F w w1 p S1)(h':∀F1,DAt w1 F1 p S1->ZaD F1 w1 w2 p S2):ZaD F w w2 p S2:=by
 obtain⟨F1,h1,h2,h3⟩:=h;obtain⟨F2,h4,h5,h6⟩:=h' F1 h1;refine⟨F2,h4,⟨h5.os.trans h2.os,h5.tape.trans h2.tape,h5.output.trans h2.output,ZZf h2.size h5.size,fun k hk hF=>(h5.block k (ZZd hk h2.size) (fun hf=>?_)).trans (h2.block k hk hF)⟩,fun k hk=>?_⟩
 · rcases h3 k hf with a|a
   · exact hF a
   · omega
 · rcases h6 k hk with a|a
   · exact h3 k a
   · exact .inr (ZZf h2.size a)
theorem ZaD.base{F:Nat->Prop}{w0 w w1:World}{p:Addr}{S:DS}(h:ZaD F w w1 p S)(hb:Below w0.heap.size w0 w):ZaD F w0 w1 p S:=by
 obtain⟨F1,h1,h2,h3⟩:=h;refine⟨F1,h1,⟨h2.os.trans hb.os,h2.tape.trans hb.tape,h2.output.trans hb.output,ZZf hb.size h2.size,fun k hk hF=>(h2.block k (ZZd hk hb.size) hF).trans (hb.block k hk)⟩,fun k hk=>?_⟩;rcases h3 k hk with a|a
 · exact .inl a
 · exact .inr (ZZf hb.size a)
theorem Zp1{F:Nat->Prop}{w:World}{b:Nat}{S:DS}(h:DAt w F ⟨b,0,none⟩ S):(∃v0,w.cell? ⟨b,0,none⟩=some v0)/\(∃v1,w.cell? ⟨b,1,none⟩=some v1)/\w.frozen? ⟨b,0,none⟩=false/\w.frozen? ⟨b,1,none⟩=false/\ZaD F w ((w.setCell ⟨b,0,none⟩ (.int .i64 (-1))).setCell ⟨b,1,none⟩ (.bool false)) ⟨b,0,none⟩ {S with arm:=none,down:=false}:=by
 obtain⟨b',sb,fb,left,pv,sN,fN,sf,ff,e,hrow,hrest,harm,hok,hdom,hcnt,hFb,hlt,c0,c1,c2,c3,c4,c5,c6⟩:=h.parts;obtain rfl:b=b':=by injection e
 refine⟨⟨_,c0⟩,⟨_,c1⟩,hrow.frozen 0,hrow.frozen 1,?_⟩;have hrow1:=(hrow.set 0 (.int .i64 (-1))).congr (ZdK _ _ _ _ _ _ _ _);have hrow2:=(hrow1.set 1 (.bool false)).congr (ZfE _ _ _ _ _ _ _ _);have hr:=((hrest.keep (F':=FN F w) (w':=w) (fun _ h _=>.inl h) (fun _ _ _ _=>rfl)).setCell hrow 0 (.int .i64 (-1))).setCell hrow1 1 (.bool false);have hFx:∀x,(some b:Option Nat)=some x->FN F w x:=fun x e=>.inl (by injection e with e;rw[<-e];exact hFb)
 exact ZaD.mk' (S:={S with arm:=none,down:=false}) hrow2 hr ⟨by omega,.inl ⟨by omega,rfl⟩⟩ ⟨hok.size,hok.safeBytes,hok.lastBytes,hok.pendLt,hok.pendNodup,hok.same⟩ hdom hcnt (.inl hFb) (((Zf.refl F w).grow (ZU w b 0 _) hFx).grow (ZU _ b 1 _) hFx)
theorem Znu(A:Option Addr)(n c B:Nat)(l:List Int)(w:World)(F:Nat->Prop)(p:Addr)(S:DS)(h:DAt w F p S)(hr:RI w B A n l)(hm:n<=maxLen) :
 Calls prog 33 #[.pointer (some p),.slice A n c] w fun e w'=>e=.returned (.tuple #[])/\ZaD F w w' p (S.crash l):=by
 have h0:=h;obtain⟨b,sb,fb,left,pv,sN,fN,sf,ff,rfl,hrow,hrest,harm,hok,hdom,hcnt,hFb,hlt,c0,c1,c2,c3,c4,c5,c6⟩:=h.parts;have hn:(0:Int)<(S.n:Int):=by have:=hok.size;omega
 have hsz:=hok.size;have hpl:=Zb8 hok;rw[<-ZhH l];have hl:=hr.len;clear h hrow hrest hdom;go_enter func33,ntmps33;go_wp2_with fail;refine(ZeP c2 hn).mono ?_;rintro e w1⟨rfl,rfl⟩;go_wp2_with fail;refine(ZiG A n c B l w hr hm).mono ?_;rintro e w2⟨pc,pm,rfl,hpc,him,hpc0,hpm0,hb2⟩;have h2:=h0.keep (w':=w2) (fun k hk=>hb2.block k (hlt k hk));have hpcl:=(ZZa.1 hpc).1
 have HS:=Zns pc (fun t=>decide ((t:Int)∈l.take n)) (fun w'=>w'.heap[pc]?=w2.heap[pc]?/\w'.heap[pm]?=w2.heap[pm]?/\w2.heap.size<=w'.heap.size) w2 F ⟨b,0,none⟩ S h2 ⟨rfl,rfl,ZZe _⟩
  (fun w3 w4 row h3 hg hx=>by
   have far:∀x,w.heap.size<=x->x<w2.heap.size->some x≠row:=fun x hx1 hx2 e=>by
    rcases hx x e.symm with a|a
    · have:=hlt x a;omega
    · omega
   exact⟨(hg.block pc (ZZd hpcl h3.2.2) (far pc hpc0 hpcl)).trans h3.1,(hg.block pm (ZZd him.lt h3.2.2) (far pm hpm0 him.lt)).trans h3.2.1,ZZf h3.2.2 hg.size⟩)
  (fun t w3 ht h3=>Zl1 (t:Int) w3 (h3.1.trans hpc) (him.of_block h3.2.1) (by omega))
 rw[List.take_of_length_le (by omega)]at HS;have HSS:=hid HS;clear HS him hpc h2 h0 hr;go_wp2_with fail;refine HSS.out.mono ?_;rintro e w3⟨rfl,ha⟩;have ha':=ha;obtain⟨F3,hd3,_⟩:=ha;obtain⟨⟨v0,g0⟩,⟨v1,g1⟩,f0,f1,_⟩:=Zp1 hd3;have HE:=hid ((ha'.trans (fun F1 h1=>(Zp1 h1).2.2.2.2)).base hb2);clear hd3 ha';go_wp2_with fail;refine(ZpY g0 g1 f0 f1).mono ?_;rintro e w4⟨rfl,rfl⟩;go_wp2
 go_end0
 exact⟨rfl,HE.out⟩
def Zaw(S:DS)(l:List (Int×List Int)):Int:=if(l.length:Int)>S.P then 6 else if ZbN S l then 0 else 1
section
variable{D:World->(Nat->Prop)->Addr->DS->Prop}{w:World}{F:Nat->Prop}{p:Addr}{S:DS}{q:Nat}{seq:Int}
theorem Znv(api:Zb D)(h:D w F p S)(hq:Zdq w q p seq){G:Nat->Prop}{A:Option Addr}{n c:Nat}{l:List (Int×List Int)}(hl:Zbb w G A n l)(hin:∀y∈l,-9223372036854775808<=y.1/\y.1<=9223372036854775807)(hn:n<=65536) :
 Calls prog 170 #[.pointer (some ⟨q,0,none⟩),.slice A n c] w fun e w'=>e=.returned (.int .i64 (Zaw S l))/\Below w.heap.size w w':=by
 have hok:=api.ok _ _ _ _ h;have hsz:=hok.size;have hlen:=hl.1;have hpb:=Zm (S.n:Int);have hP:S.P=pagesOf S.n:=rfl;have HMD:=hid (ZfY hq);have HP:=hid (ZdX api h hq);have HS:=hid (fun w1 (hb:Below w.heap.size w w1)=>api.sizeSame w1 F p S (api.below h hb));have LC:=hid (fun w1 (hb:Below w.heap.size w w1)=>(hq.below hb).cells);have HL:=hid (fun(w1:World) (hb:Below w.heap.size w w1)=>hl.keep hb.size (fun _ _ h=>h) (fun k hk _=>hb.block k hk));have HI:=hid hin;clear hq h hl hin;by_cases hcp:pagesOf (S.n:Int)<(n:Int)
 · have k1:decide (pagesOf (S.n:Int)<(n:Int))=true:=by simpa using hcp
   have HN:=hid (show Zaw S l=6 by unfold Zaw;rw[if_pos (by rw[hlen,hP];exact hcp)]);clear hcp;go_enter func170,ntmps170;go_wp2_with fail;refine HMD.out.mono ?_;rintro e w1⟨rfl,rfl⟩;go_wp2_with fail;refine HP.out.mono ?_;rintro e w1⟨rfl,hw1⟩;have hw1:=hw1.symm;subst hw1;go_wp2;go_ret;rw[HN.out];exact⟨rfl,Below.refl _ _⟩
 · have k1:decide (pagesOf (S.n:Int)<(n:Int))=false:=by simpa using hcp
   have HR:=hid (show Zaw S l=if ZbN S l then 0 else 1 by unfold Zaw;rw[if_neg (by rw[hlen,hP];exact hcp)]);have hmk:=Zdr (P:=prog) underlying193 (n:Int);clear hcp;go_enter func170,ntmps170;go_wp2_with fail;refine HMD.out.mono ?_;rintro e w1⟨rfl,rfl⟩;go_wp2_with fail;refine HP.out.mono ?_;rintro e w1⟨rfl,hw1⟩;have hw1:=hw1.symm;subst hw1;have HB1:=hid (Below.refl w.heap.size w);go_wp2
   go_loopw[25] (fun i wr=>∃k:Nat,k<=n/\i=.int .i64 k/\Hid (ZfA S l k/\Zbl wr w.heap.size k (ZcC (l.map (·.1)) k)/\Below w.heap.size w wr)) (fun i _=>n-(intOf i).toNat)
   case atStart=>exact⟨0,Nat.zero_le _,rfl,hid ⟨⟨fun j y hj=>absurd hj (by omega),fun j k y z hjk hk=>absurd hk (by omega)⟩,(Zbl.made w).congr (fun i=>by simp[ZcC]),HB1.out.alloc HB1.out.size _⟩⟩
   case round=>
    obtain⟨k,hk,rfl,hM⟩:=hrel;by_cases hlt1:k<n
    · obtain⟨hgu,him,hb⟩:=hM.out;have hlt':(k:Int)<(n:Int):=by omega
      obtain⟨y,hy⟩:∃y,l[k]?=some y:=⟨_,ZZc (by omega)⟩
      obtain⟨b,rfl,hGb,hbl,hat⟩:=(HL.out wr hb).2 (by omega);obtain⟨c1,D1,m,cm,c2,hmc,hm63,hrb,_⟩:=hat k y hy;have hml:y.2.length=m:=hrb.len;have hyi:=HI.out y (List.mem_of_getElem? hy);have hX:Below wr.heap.size wr (wr.alloc (.cells #[.int .i64 y.1,.slice D1 m cm] 167)):=(Below.refl _ _).alloc (ZZe _) _;have hmb:=him.lt;have qlk:=(him.of_block (hX.block _ hmb)).look underlying193 (ZiF _) hyi;obtain⟨e1,e2⟩:=Zg5 (l.map (·.1)) k y.1;rw[e1,e2]at qlk;have HHM:=hid (show ∀w,Calls prog 184 #[.int .i64 (S.n:Int),.int .i64 y.1] w fun e w'=>e=.returned (.tuple #[.int .i64 (ZaL (S.n:Int) y.1).1,.bool (ZaL (S.n:Int) y.1).2])/\w'=w from fun w=>(ZbH.home (S.n:Int) y.1 w (by omega) hyi).mono fun e w' h'=>⟨h'.1,h'.2.symm⟩);have hX2:Below wr.heap.size wr ((wr.alloc (.cells #[.int .i64 y.1,.slice D1 m cm] 167)).alloc (.cells #[] 194)):=hX.alloc hX.size _;have hbX2:=hb.trans (hX2.mono hb.size);have HBX:=hid hbX2;obtain⟨l0,_,_,_⟩:=LC.out _ hbX2;have HIM:=hid (him.of_block (w':=(wr.alloc (.cells #[.int .i64 y.1,.slice D1 m cm] 167)).alloc (.cells #[] 194)) (hX2.block _ hmb));have HY:=hid hy;have hn63:n<=9223372036854775807:=by omega
      have hmem:y.1∈(l.map (·.1)).take k↔∃j z,j<k/\l[j]?=some z/\z.1=y.1:=by
       constructor
       · intro hm;obtain⟨j,hj,e⟩:=List.getElem_of_mem hm;have hj':j<k:=by have:=hj;simp at this;omega
         have hjl:j<l.length:=by have:=hj;simp at this;omega
         refine⟨j,l[j],hj',ZZc hjl,?_⟩;rw[<-e];simp
       · rintro⟨j,z,hj,hz,e⟩;obtain⟨hjl,e2⟩:=ZZb.1 hz;refine List.mem_of_getElem? (i:=j) ?_;rw[List.getElem?_take,if_pos hj,List.getElem?_map,hz];simp[e]
      generalize hd:decide (y.1∈(l.map (·.1)).take k)=tw at qlk;have HTW:=hid hd;have HMEM:=hid hmem;generalize hho:ZaL (S.n:Int) y.1=ho at HHM;have HHO:=hid hho;have HKE:=hid (ZZg hgu (ZZg hb hml));have HBS:=hid hb.size;clear hat hrb hgu him hb hM hd hho e1 e2 hX hX2 hbX2 hmem hml hy;go_wp2_with fail
      go_quiet (first
       | (go_at_call 148;exact Calls.quiet_of_same (HS.out _ (Zck HBX.out _)))
       | (go_at_call 184;exact Calls.quiet_of_same (HHM.out _)))
      obtain⟨ho1,ho2⟩:=ho;have HBQ:=hid (Zck HBX.out nq);cases tw
      · cases ho2
        · have HN:=hid (show Zaw S l=1 by
           have hnr:¬ZbN S l:=ZfB HY.out (fun h=>by
            have:=HHO.out
            unfold ZaL at this;rw[if_neg (by rw[hP]at h;omega)]at this
            cases this)
           rw[HR.out,if_neg hnr])
          go_wp2;go_ret;rw[HN.out];exact⟨rfl,Zck HBX.out _⟩
        · by_cases h3:m=240
          · subst h3;obtain⟨w2,hrun,him2,hg⟩:=(HIM.out.of_block (w':=(((wr.alloc (.cells #[.int .i64 y.1,.slice D1 240 cm] 167)).alloc (.cells #[] 194)).drewN nq)) rfl).store underlying193 (by unfold maxLen;omega) hyi (.agg #[]);have hst:=Zf2 (l:=l.map (·.1)) (k:=k) (i:=y.1) (by rw[List.getElem?_map,HY.out];rfl);rw[hst]at him2
            have hin:0<=y.1/\y.1<pagesOf S.n:=by
             have:=HHO.out
             unfold ZaL at this;by_cases hc:y.1<0∨y.1≥pagesOf S.n
             · rw[if_pos hc]at this;cases this
             · omega
            have hgn:=ZfA.next HKE.out.1 HY.out ⟨hin.1,by rw[hP];exact hin.2,HKE.out.2.2⟩ (fun j z hj hz e=>by
             have:=HTW.out
             rw[decide_eq_false_iff_not]at this
             exact this (HMEM.out.2 ⟨j,z,hj,hz,e⟩))
            have hb2:Below w.heap.size w w2:=(Zck HBX.out nq).grown hg (by have:=HBX.out.size;exact this) (fun k hk=>by injection hk with hk;omega);have hM2:=hid (ZZg hgn (ZZg him2 hb2));clear him2 hgn hb2 hg hst hin;go_wp2;go_roundw
            case rel=>exact⟨k+1,by omega,by go_num,hM2⟩
            case measure=>simp[intOf];omega
          · have k3:((m:Int) != 240)=true:=by simp;omega
            have HN:=hid (show Zaw S l=1 by
             have hnr:¬ZbN S l:=ZfB HY.out (fun h=>h3 (by have:=HKE.out.2.2;omega))
             rw[HR.out,if_neg hnr])
            clear h3;go_wp2;go_ret;rw[HN.out];exact⟨rfl,Zck HBX.out _⟩
      · have HN:=hid (show Zaw S l=1 by
         obtain⟨j,z,hj,hz,e⟩:=HMEM.out.1 (by simpa using HTW.out)
         rw[HR.out,if_neg (Zit hj HY.out hz e)])
        go_wp2;go_ret;rw[HN.out];exact⟨rfl,Zck HBX.out _⟩
    · obtain rfl:k=n:=by omega
      have HN:=hid (show Zaw S l=0 by
       have:=(hlen ▸ hM.out.1:ZfA S l l.length).all
       rw[HR.out,if_pos this])
      have HB:=hid hM.out.2.2;go_wp2;go_ret;rw[HN.out];exact⟨rfl,HB.out⟩
end
def Zq(i:Nat):List (Int×List Int)->List (Int×List Int)
 | []=>[]
 | y::r=>((i:Int)+1,y.2)::Zq (i+1) r
theorem ZaO(l:List (Int×List Int)):∀i,(Zq i l).length=l.length:=by
 induction l with
 | nil=>intro i;rfl
 | cons y r ih=>intro i;simp[Zq,ih]
theorem ZgS(l:List (Int×List Int))(y:Int×List Int):∀i,Zq i (l++[y])=Zq i l++[(((i+l.length:Nat):Int)+1,y.2)]:=by
 induction l with
 | nil=>intro i;simp[Zq]
 | cons z r ih=>
  intro i;simp only[List.cons_append,Zq,ih,List.length_cons];rw[show i+1+r.length=i+(r.length+1) by omega]
theorem Zj9(l:List (Int×List Int)):∀i,∀y∈Zq i l,∃z∈l,y.2=z.2:=by
 induction l with
 | nil=>intro i y hy;cases hy
 | cons z r ih=>
  intro i y hy;rcases List.mem_cons.1 hy with rfl|hy
  · exact⟨z,List.mem_cons_self ..,rfl⟩
  · obtain⟨u,hu,e⟩:=ih _ y hy;exact⟨u,List.mem_cons_of_mem _ hu,e⟩
theorem Zl2(l:List (Int×List Int)):∀(S:DS) (i:Nat),Zdk S (Zq i l)=ZaP (ZbU S i l) DS.fl:=by
 induction l with
 | nil=>intro S i;exact(Zb4 (r:=(0,S)) rfl).symm
 | cons y r ih=>
  intro S i;obtain⟨pg,b⟩:=y;show ZaP (S.wr ((i:Int)+1) b) (fun S'=>Zdk S' (Zq (i+1) r))=ZaP (ZaP (S.wr ((i:Int)+1) b) (fun S'=>ZbU S' ((i:Int)+1) r)) DS.fl;by_cases h:(S.wr ((i:Int)+1) b).1=0
  · rw[Zb4 h,Zb4 h]
    have:=ih (S.wr ((i:Int)+1) b).2 (i+1)
    rw[show(((i+1:Nat):Int))=(i:Int)+1 by omega]at this;exact this
  · rw[Zdc h,Zdc h,Zdc h]
section
variable{D:World->(Nat->Prop)->Addr->DS->Prop}{w:World}{F:Nat->Prop}{p:Addr}{S:DS}{q:Nat}{seq:Int}
theorem Zlf{W:World}{o:Obj}{A:Option Addr}{n c:Nat}{v:Value}(h:(Value.slice A n c).ownBlock=v.ownBlock∨(Value.slice A n c).ownBlock=some (W.alloc o).heap.size):(Value.slice A n c).ownBlock=v.ownBlock∨∃r,(Value.slice A n c).ownBlock=some r/\W.heap.size<=r:=h.imp id (fun e=>⟨_,e,by simp⟩)
theorem ZbF(w:World)(a b:Addr)(v:Value):(w.setCell a v).frozen? b=w.frozen? b:=by
 unfold World.frozen?
 by_cases h:b.block=a.block
 · rw[h];simp only[World.setCell,Array.getElem?_modify];simp
   cases hh:w.heap[a.block]? with
   | none=>rfl
   | some o=>cases o <;> rfl
 · rw[Below.heap_setCell _ _ _ _ h]
def ZiH(F:Nat->Prop)(b:Nat):Nat->Prop:=fun k=>F k∨k=b
def Zlg(F:Nat->Prop)(v:Value):Nat->Prop:=fun k=>F k∨v.ownBlock=some k
def Zka(B:Nat)(wr:World)(F:Nat->Prop)(ov pv:Value)(l1 l2:List (Int×List Int)):Prop:=
 ZgR 141 256 wr (Zlg F pv) B ov l1/\ZgR 141 256 wr (Zlg F ov) B pv l2
theorem Zka.swap{B:Nat}{wr:World}{ov pv:Value}{l1 l2:List (Int×List Int)}(h:Zka B wr F ov pv l1 l2):Zka B wr F pv ov l2 l1:=⟨h.2,h.1⟩
theorem Zka.below{B:Nat}{wr w1:World}{ov pv:Value}{l1 l2:List (Int×List Int)}(h:Zka B wr F ov pv l1 l2)(hb:Below wr.heap.size wr w1):Zka B w1 F ov pv l1 l2:=⟨h.1.below (by decide) hb,h.2.below (by decide) hb⟩
theorem Zka.push{B:Nat}{wr X w1:World}{ov pv ov':Value}{l1 l2:List (Int×List Int)}{x:Int}{b:List Int}{g cg:Nat}(h:Zka B wr F ov pv l1 l2)(hFlt:∀k,F k->k<wr.heap.size)
 (hfar:256<=cg/\¬F g/\ov.ownBlock≠some g/\pv.ownBlock≠some g/\g<wr.heap.size/\RB wr wr.heap.size (some ⟨g,0,none⟩) 256 b)
 {vs:List Value} (hvs:wr.ownsRow B 141 2 ov l1.length vs) (hvl:∀(i:Nat) (x:Int×List Int),l1[i]?=some x->vs[i*2]?=some (.int .i64 x.1)/\∃u,vs[i*2+1]?=some u/\Far wr (Zlg F pv) ov u 256 x.2)
 (hX:Below wr.heap.size wr X) (hown:w1.ownsRow B 141 2 ov' (l1.length+1) (vs++[.int .i64 x,.slice (some ⟨g,0,none⟩) 256 cg])) (hg:X.grownBy w1 ov.ownBlock) (hl:ov'.ownBlock=ov.ownBlock∨∃r,ov'.ownBlock=some r/\wr.heap.size<=r) :
 Zka B w1 F ov' pv (l1++[(x,b)]) l2/\wr.heap.size<=w1.heap.size/\(∀k,k<wr.heap.size->ov.ownBlock≠some k->w1.heap[k]?=wr.heap[k]?)/\(ov'.ownBlock≠some g/\pv.ownBlock≠some g/\g<w1.heap.size/\RB w1 w1.heap.size (some ⟨g,0,none⟩) 256 b):=by
 obtain⟨h1,h2⟩:=h;obtain⟨f1,f2,f3,f4,f5,f6⟩:=hfar;obtain⟨vs2,hv2,_⟩:=h2.row
 obtain⟨q1,q2,q3⟩:=h1.push (x:=x) (b:=b) (by decide) (fun k hk=>by
  rcases hk with a|a
  · exact hFlt k a
  · exact(Zcj hv2 k a).2) ⟨g,cg,rfl,f1,fun hf=>by
    rcases hf with a|a
    · exact f2 a
    · exact f4 a,f3,f5,f6⟩ hvs hvl hX hown hg hl
 have hng:ov'.ownBlock≠some g:=fun e=>by
  rcases hl with a|⟨r,a,hr⟩
  · exact f3 (a.symm.trans e)
  · rw[a]at e;injection e with e;omega
 refine⟨⟨q1,h2.keep (by decide) q2 (fun k hk hn hf=>?_) (fun k hk hn=>q3 k hk (fun e=>hn (.inr e)))⟩,q2,q3,hng,f4,by omega,f6.there (by decide) (q3 g f5 f3) q2⟩;rcases hf with a|a
 · exact hn (.inl a)
 · rcases hl with e|⟨r,e,hr⟩
   · exact hn (.inr (e.symm.trans a))
   · rw[e]at a;injection a with a;omega
theorem Zl3(api:Zb D)(h:D w F p S)(hq:Zdq w q p seq)(ht:Zdf w F){G F2:Nat->Prop}(hF2:∀k,F2 k->k<w.heap.size){A:Option Addr}{n c:Nat}{l:List (Int×List Int)}(hl:Zbb w G A n l)(him:Zj1 S.n seq l)(hn:n<=65536)(hnP:(n:Int)<=pagesOf S.n) :
 Calls prog 171 #[.pointer (some ⟨q,0,none⟩),.slice A n c] w fun e w'=>Below w.heap.size w w'/\∃A1 c1 g cg A2 c2,e=.returned (.tuple #[.slice A1 n c1,.agg #[.int .i64 0,.slice (some ⟨g,0,none⟩) 256 cg],.slice A2 n c2,.int .i64 0])/\
  Zbb w' F2 A1 n (Zq 0 (Zo (seq+1) l))/\Zbb w' F2 A2 n (atHomes (pagesOf S.n) (Zo (seq+1) l))/\256<=cg/\w.heap.size<=g/\RB w' w'.heap.size (some ⟨g,0,none⟩) 256 (Zav n (seq+1) ZH):=by
 have hok:=api.ok _ _ _ _ h;have hlt:=api.lt _ _ _ _ h;have hsz:=hok.size;have hlen:=hl.1;have hpb:=Zm (S.n:Int);have hseq:=him.seq0;have hseq2:=him.seq1;have hfew:=him.few;have HS:=hid (fun w1 (hb:Below w.heap.size w w1)=>api.sizeSame w1 F p S (api.below h hb));have LC:=hid (fun w1 (hb:Below w.heap.size w w1)=>(hq.below hb).cells);have HL:=hid (fun(w1:World) (hb:Below w.heap.size w w1)=>hl.keep hb.size (fun _ _ h=>h) (fun k hk _=>hb.block k hk));have HT:=hid (fun w1 (hb:Below w.heap.size w w1)=>ht.below hb);have HPS:=hid ZjX;have HIM:=hid him;have hX0:Below (w.heap.size+1) (w.alloc (.cells #[.int .i64 0,.slice none 0 0] 141)) (w.alloc (.cells #[.int .i64 0,.slice none 0 0] 141)):=Below.refl _ _;have hw0:=(Ziu hX0).1;obtain⟨l0,l1,_,_⟩:=LC.out _ hw0;have r1:wrap64 (seq+1)=seq+1:=by unfold wrap64;omega
 clear hl him ht h;go_enter func171,ntmps171;go_wp2_with fail
 go_loopw[4,6,24] (fun ov pv i wr=>∃k:Nat,k<=n/\i=.int .i64 k/\Hid (Zka (w.heap.size+1) wr (ZiH F2 w.heap.size) ov pv (Zq 0 ((Zo (seq+1) l).take k)) (atHomes (pagesOf S.n) ((Zo (seq+1) l).take k))/\Below (w.heap.size+1) (w.alloc (.cells #[.int .i64 0,.slice none 0 0] 141)) wr)) (fun _ _ i _=>n-(intOf i).toNat)
 case atStart=>exact⟨0,Nat.zero_le _,rfl,hid ⟨⟨ZgR.start _ _ _ _ _,ZgR.start _ _ _ _ _⟩,Below.refl _ _⟩⟩
 case round=>
  obtain⟨k,hk,rfl,hM⟩:=hrel;clear l0 l1 hw0 hX0;obtain⟨⟨hrow1,hrow2⟩,hX⟩:=hM.out;obtain⟨hb,c0,c1,f0,f1,hs1⟩:=Ziu hX;have hpl:=Z8 (seq+1) l;by_cases hlt1:k<n
  · have hlt':(k:Int)<(n:Int):=by omega
    obtain⟨y,hy⟩:∃y,l[k]?=some y:=⟨_,ZZc (by omega)⟩
    have hym:=List.mem_of_getElem? hy;obtain⟨hpk,hup,hb256⟩:=HIM.out.pack hym;have hps:(Zo (seq+1) l)[k]?=some (y.1,Zav y.1 (seq+1) y.2):=by unfold Zo;rw[List.getElem?_map,hy,<-hpk];rfl
    have hpage:=HIM.out.page y hym;obtain⟨b,rfl,hGb,hbl,hat⟩:=(HL.out wr hb).2 (by omega);obtain⟨d1,D1,m,cm,d2,hmc,hm63,hrb,_⟩:=hat k y hy;have hm240:m=240:=by rw[<-hrb.len];exact hpage.2.2
    subst hm240;have hI:Below wr.heap.size wr (wr.alloc (.cells #[.int .i64 y.1,.slice D1 240 cm] 167)):=(Below.refl _ _).alloc (ZZe _) _;have hbI:=hb.trans (hI.mono hb.size);have htI:=HT.out _ hbI;have hsec:Zey y.1 (seq+1)=true:=decide_eq_true ⟨hpage.1,by omega,by omega,by omega⟩;have hpr:Zdl y.1 (seq+1) y.2=(Zav y.1 (seq+1) y.2,0):=by unfold Zdl;rw[if_pos ⟨hsec,hpage.2.2⟩]
    have HPK:=hid (HPS.out D1 240 cm _ y.2 y.1 (seq+1) _ (hrb.below hI) (by simp) hmc (by omega) htI.tab htI.lt);rw[hpr]at HPK;simp only[hb256]at HPK;have hn63:n<=9223372036854775807:=by omega
    have HKE:=hid (ZZg hrow1 (ZZg hrow2 (ZZg hX (ZZg hy (ZZg hps hI)))));have HBY:=hid (Zhf y.1 (seq+1) (HIM.out.bytes y hym));have HPG:=hid hpage;obtain⟨A1,q1,rfl,_,_⟩:=hrow1.imgs (by decide);obtain⟨A2,q2,rfl,_,_⟩:=hrow2.imgs (by decide);clear hrow1 hrow2 hX hM hat hrb hy hps hpk hup hpage hI htI hpr hb256 hpl hsec hym;go_wp2_with fail;refine HPK.out.mono ?_;rintro e w2⟨v2,rfl,hown2,hb2⟩;obtain⟨g,cg,rfl,hcg,hg⟩:=ZfV hown2 (by decide);have hr2:RB w2 w2.heap.size (some ⟨g,0,none⟩) 256 (Zav y.1 (seq+1) y.2):=RB.of_own hown2 HBY.out;obtain⟨hrow1,hrow2,hX,hy,hps,hI⟩:=HKE.out;have hsI:(wr.alloc (.cells #[.int .i64 y.1,.slice D1 240 cm] 167)).heap.size=wr.heap.size+1:=by simp
    have hb2':Below wr.heap.size wr w2:=hI.trans (hb2.mono (by rw[hsI];omega));have hX2:=hX.trans (hb2'.mono hs1);have hbw2:=hb.trans (hb2'.mono hb.size);have hTP2:Zka (w.heap.size+1) w2 (ZiH F2 w.heap.size) _ _ _ _:=Zka.below ⟨hrow1,hrow2⟩ hb2';have hgw:wr.heap.size<g:=by rw[hsI]at hg;omega
    have hgl:g<w2.heap.size:=by obtain⟨bb,_,e,hbb,_⟩:=hr2.at_ (by decide);cases e;exact hbb
    have hno1:(Value.slice A1 (Zq 0 ((Zo (seq+1) l).take k)).length q1).ownBlock≠some g:=fun e=>by
     obtain⟨vs0,hv0,_⟩:=hrow1.row
     have:=(Zcj hv0 g e).2
     omega
    have hno2:(Value.slice A2 (atHomes (pagesOf S.n) ((Zo (seq+1) l).take k)).length q2).ownBlock≠some g:=fun e=>by
     obtain⟨vs0,hv0,_⟩:=hrow2.row
     have:=(Zcj hv0 g e).2
     omega
    have hFg:¬ZiH F2 w.heap.size g:=fun hf=>by
     have:=hb.size
     rcases hf with a|a
     · have:=hF2 g a;omega
     · omega
    obtain⟨l0,l1,_,_⟩:=LC.out _ hbw2
    have i0:w2.cell? ⟨wr.heap.size,0,none⟩=some (.int .i64 y.1):=by
     rw[hb2.cell (p:=⟨wr.heap.size,0,none⟩) (by simp),cell_of_row _ wr.heap.size 0 _ _ (0,0) (heap_alloc_new _ _)];rfl
    have hsl:Zgm (S.n:Int) (k:Int)=((k:Int)+1,true):=by unfold Zgm;rw[if_neg (by omega)]
    have HSL:=hid (show ∀w,Calls prog 202 #[.int .i64 (S.n:Int),.int .i64 (k:Int)] w fun e w'=>e=.returned (.tuple #[.int .i64 ((k:Int)+1),.bool true])/\w'=w from fun w=>by
     have hh:=ZbH.slot (S.n:Int) (k:Int) w (by omega) (by omega);rw[hsl]at hh
     exact hh.mono fun e w' h'=>⟨h'.1,h'.2.symm⟩)
    have hpg:=HPG.out;have hho:ZaL (S.n:Int) y.1=(y.1+1+pagesOf S.n,true):=by unfold ZaL;rw[if_neg (by omega)]
    have HHM:=hid (show ∀w,Calls prog 184 #[.int .i64 (S.n:Int),.int .i64 y.1] w fun e w'=>e=.returned (.tuple #[.int .i64 (y.1+1+pagesOf S.n),.bool true])/\w'=w from fun w=>by
     have hh:=ZbH.home (S.n:Int) y.1 w (by omega) (by omega);rw[hho]at hh
     exact hh.mono fun e w' h'=>⟨h'.1,h'.2.symm⟩)
    have HBW:=hid hbw2;have HK2:=hid (ZZg hTP2 (ZZg (show 256<=cg/\¬ZiH F2 w.heap.size g/\(Value.slice A1 (Zq 0 ((Zo (seq+1) l).take k)).length q1).ownBlock≠some g/\(Value.slice A2 (atHomes (pagesOf S.n) ((Zo (seq+1) l).take k)).length q2).ownBlock≠some g/\g<w2.heap.size/\RB w2 w2.heap.size (some ⟨g,0,none⟩) 256 (Zav y.1 (seq+1) y.2)from⟨hcg,hFg,hno1,hno2,hgl,hr2⟩) (ZZg hX2 hps)));clear hown2 hr2 hrow1 hrow2 hX hy hps hI hsI hb2' hX2 hbw2 hTP2 hgw hgl hno1 hno2 hFg hsl hho hcg hpg hb2 hb c0 c1 f0 f1;generalize hL1:Zq 0 ((Zo (seq+1) l).take k)=L1 at *;generalize hL2:atHomes (pagesOf S.n) ((Zo (seq+1) l).take k)=L2 at *
    go_wp2_with (first
     | (go_at_call 148;refine(HS.out _ HBW.out).mono ?_;rintro e w3 ⟨rfl,hw3⟩;have hw3:=hw3.symm;subst hw3)
     | (go_at_call 202;refine(HSL.out _).mono ?_;rintro e w3 ⟨rfl,hw3⟩;have hw3:=hw3.symm;subst hw3))
    go_quiet (first
     | (go_at_call 148;exact Calls.quiet_of_same (HS.out _ (Zck HBW.out _)))
     | (go_at_call 184;exact Calls.quiet_of_same (HHM.out _)))
    obtain⟨hTP,hfar,hX2,hps⟩:=HK2.out;have hTPq:Zka (w.heap.size+1) (w2.drewN nq) (ZiH F2 w.heap.size) (.slice A1 L1.length q1) (.slice A2 L2.length q2) L1 L2:=hTP.below (Zck (Below.refl _ _) nq);obtain⟨vs1,hv1,hl1⟩:=hTPq.1.row;have hXa:Below w2.heap.size (w2.drewN nq) ((w2.drewN nq).alloc (.cells #[.int .i64 ((k:Int)+1),.slice (some ⟨g,0,none⟩) 256 cg] 141)):=(Below.refl w2.heap.size (w2.drewN nq)).alloc (ZZe _) _;have hv1X:=ZcS hv1 (fun r hr=>hXa.block r (Zcj hv1 r hr).2);have hbk1:((w2.drewN nq).alloc (.cells #[.int .i64 ((k:Int)+1),.slice (some ⟨g,0,none⟩) 256 cg] 141)).heap[w2.heap.size]?=some (.cells #[.int .i64 ((k:Int)+1),.slice (some ⟨g,0,none⟩) 256 cg] 141 (0,0)):=heap_alloc_new (w2.drewN nq) _
    have hwF:∀k,ZiH F2 w.heap.size k->k<w2.heap.size:=fun k hk=>by
     have:=(Ziu hX2).2.2.2.2.2
     rcases hk with a|a
     · have:=hF2 k a;omega
     · omega
    have HPU:=hid (fun(w4:World) (A4:Option Addr) (c4:Nat) h1 h2 h3=>hTPq.push (w1:=w4) (ov':=.slice A4 (L1.length+1) c4) (x:=(k:Int)+1) hwF hfar hv1 hl1 hXa h1 h2 h3);have hs2:w.heap.size+1<=w2.heap.size:=(Ziu hX2).2.2.2.2.2;have hll1:L1.length<=4294967296:=by rw[<-hL1,ZaO,List.length_take];omega
    have hll2:L2.length<=4294967296:=by rw[<-hL2];simp[atHomes,List.length_take];omega
    have HOV1:=hid (fun r hr=>(Zcj hv1 r hr).1);have HL12:=hid (ZZg hL1 hL2);have HKP:=hid (ZZg hfar (ZZg hX2 hps));clear hTP hfar hX2 hps hTPq hv1 hl1 hXa hL1 hL2
    go_wp2_with (first
     | (at_builtin;refine ZaJ rfl _ _ 198 141 rfl underlying198 Zfk (w.heap.size+1) (.slice A1 L1.length q1) L1.length vs1 rfl w2.heap.size (.int .i64 ((k:Int)+1)) (.slice (some ⟨g,0,none⟩) 256 cg) 141 rfl hv1X hbk1 rfl rfl hll1 (by simp;omega) ?_;intro A4 c4 w4 hown4 hg4 hl4;have HO4:=hid (ZZg hown4 (ZZg hg4 hl4));have hs4:w2.heap.size+1<=w4.heap.size:=(by have:=hg4.size;simpa using this);obtain⟨hTP4,hsz4,hall4,hno41,hno42,hgl4,hr4⟩:=HPU.out w4 A4 c4 hown4 hg4 (Zlf hl4);obtain⟨vs2,hv2,hl2⟩:=hTP4.2.row;have hXb:Below w4.heap.size w4 (w4.alloc (.cells #[.int .i64 (y.1+1+pagesOf S.n),.slice (some ⟨g,0,none⟩) 256 cg] 141)):=(Below.refl _ _).alloc (ZZe _) _;have hv2X:=ZcS hv2 (fun r hr=>hXb.block r (Zcj hv2 r hr).2);have hbk2:(w4.alloc (.cells #[.int .i64 (y.1+1+pagesOf S.n),.slice (some ⟨g,0,none⟩) 256 cg] 141)).heap[w4.heap.size]?=some (.cells #[.int .i64 (y.1+1+pagesOf S.n),.slice (some ⟨g,0,none⟩) 256 cg] 141 (0,0)):=heap_alloc_new _ _;have HPU2:=hid (fun(w5:World) (A5:Option Addr) (c5:Nat) h1 h2 h3=>hTP4.swap.push (w1:=w5) (ov':=.slice A5 (L2.length+1) c5) (x:=y.1+1+pagesOf S.n) (fun k hk=>ZZd (hwF k hk) hsz4) ⟨HKP.out.1.1,HKP.out.1.2.1,hno42,hno41,hgl4,hr4⟩ hv2 hl2 hXb h1 h2 h3);have HOV2:=hid (fun r hr=>(Zcj hv2 r hr).1);clear hown4 hg4 hl4 hv1X hbk1 hTP4 hall4 hno41 hno42 hgl4 hr4 hv2 hl2 hXb hsz4)
     | (at_builtin;refine ZaJ rfl _ _ 198 141 rfl underlying198 Zfk (w.heap.size+1) (.slice A2 L2.length q2) L2.length vs2 rfl w4.heap.size (.int .i64 (y.1+1+pagesOf S.n)) (.slice (some ⟨g,0,none⟩) 256 cg) 141 rfl hv2X hbk2 rfl rfl hll2 (by simp;omega) ?_;intro A5 c5 w5 hown5 hg5 hl5;have HO5:=hid (ZZg hown5 (ZZg hg5 hl5));clear hown5 hg5 hl5 hv2X hbk2))
    obtain⟨hTP5,_⟩:=HPU2.out w5 A5 c5 HO5.out.1 HO5.out.2.1 (Zlf HO5.out.2.2);obtain⟨_,hX2,hps⟩:=HKP.out;have hkl:((Zo (seq+1) l).take k).length=k:=by rw[List.length_take,Z8];omega
    have hX4:Below (w.heap.size+1) (w.alloc (.cells #[.int .i64 0,.slice none 0 0] 141)) w4:=((Zck hX2 nq).alloc hs2 _).grown HO4.out.2.1 (by simp;omega) HOV1.out;have hX5:Below (w.heap.size+1) (w.alloc (.cells #[.int .i64 0,.slice none 0 0] 141)) w5:=(hX4.alloc (by omega) _).grown HO5.out.2.1 (by simp;omega) HOV2.out
    have hM2:=hid (show Zka (w.heap.size+1) w5 (ZiH F2 w.heap.size) (.slice A4 (L1.length+1) c4) (.slice A5 (L2.length+1) c5) (Zq 0 ((Zo (seq+1) l).take (k+1))) (atHomes (pagesOf S.n) ((Zo (seq+1) l).take (k+1)))/\Below (w.heap.size+1) (w.alloc (.cells #[.int .i64 0,.slice none 0 0] 141)) w5 from by
     rw[List.take_add_one,hps];refine⟨?_,hX5⟩;have e1:=ZgS ((Zo (seq+1) l).take k) (y.1,Zav y.1 (seq+1) y.2) 0;rw[hkl,HL12.out.1,Nat.zero_add]at e1
     have e2:atHomes (pagesOf S.n) ((Zo (seq+1) l).take k++[(y.1,Zav y.1 (seq+1) y.2)])=L2++[(y.1+1+pagesOf S.n,Zav y.1 (seq+1) y.2)]:=by
      rw[<-HL12.out.2];simp[atHomes]
     show Zka _ _ _ _ _ (Zq 0 ((Zo (seq+1) l).take k++[(y.1,Zav y.1 (seq+1) y.2)])) (atHomes (pagesOf S.n) ((Zo (seq+1) l).take k++[(y.1,Zav y.1 (seq+1) y.2)]));rw[e1,e2]
     exact hTP5.swap)
    clear hTP5 hX2 hps hkl hX4 hX5;go_roundw
    case rel=>exact⟨k+1,by omega,by go_num,hM2⟩
    case measure=>simp[intOf];omega
  · obtain rfl:k=n:=by omega
    obtain⟨A1,q1,rfl,_,him1⟩:=hrow1.imgs (by decide);obtain⟨A2,q2,rfl,_,him2⟩:=hrow2.imgs (by decide);have hfull:(Zo (seq+1) l).take k=Zo (seq+1) l:=List.take_of_length_le (by omega);rw[hfull]at him1 him2;have e1:(Zq 0 ((Zo (seq+1) l).take k)).length=k:=by rw[ZaO,hfull,hpl];omega
    have e2:(atHomes (pagesOf S.n) ((Zo (seq+1) l).take k)).length=k:=by rw[hfull];simp[atHomes,hpl];omega
    have e1':(Zq 0 (Zo (seq+1) l)).length=k:=by rw[hfull]at e1;exact e1
    have e2':(atHomes (pagesOf S.n) (Zo (seq+1) l)).length=k:=by rw[hfull]at e2;exact e2
    rw[e1']at him1;rw[e2']at him2;have HIM1:=hid (ZZg him1 him2);have HMK:=hid (ZhF (F:=F) (k:Int) (seq+1) (decide_eq_true ⟨by omega,by omega,by omega,by omega⟩) (HT.out wr hb));have HX:=hid hX;have hsw:=hb.size;clear hrow1 hrow2 hX hM hfull him1 him2 e1' e2' c0 c1 f0 f1;go_wp2_with fail;refine HMK.out.mono ?_;rintro e w2⟨g,c2,rfl,hc2,hg2,hr2,hb2⟩;have hX2:=HX.out.trans (hb2.mono hs1);obtain⟨hbw,c0,c1,f0,f1,_⟩:=Ziu hX2;have hE:=hid (ZgO hX2 (.int .i64 0) (.slice (some ⟨g,0,none⟩) 256 c2));obtain⟨d0,d1⟩:=Za1 (w:=w2) (.int .i64 0) (.slice (some ⟨g,0,none⟩) 256 c2) c0 c1;have fs0:((w2.setCell ⟨w.heap.size,0,none⟩ (.int .i64 0)).setCell ⟨w.heap.size,1,none⟩ (.slice (some ⟨g,0,none⟩) 256 c2)).frozen? ⟨w.heap.size,0,none⟩=false:=by rw[ZbF,ZbF];exact f0
    have fs1:((w2.setCell ⟨w.heap.size,0,none⟩ (.int .i64 0)).setCell ⟨w.heap.size,1,none⟩ (.slice (some ⟨g,0,none⟩) 256 c2)).frozen? ⟨w.heap.size,1,none⟩=false:=by rw[ZbF,ZbF];exact f1
    obtain⟨d2,d3⟩:=Za1 (w:=(w2.setCell ⟨w.heap.size,0,none⟩ (.int .i64 0)).setCell ⟨w.heap.size,1,none⟩ (.slice (some ⟨g,0,none⟩) 256 c2)) (.int .i64 0) (.slice (some ⟨g,0,none⟩) 256 c2) d0 d1;have HK:=hid (ZZg hX2 (ZZg hr2 (ZZg hc2 (ZZg hg2 (ZZg hb2 (ZZg e1 e2))))));clear hX2 hr2 hc2 hg2 hb2 hbw e1 e2;go_wp2
    go_region
    obtain⟨hX2,hr2,hc2,hg2,hb2,e1,e2⟩:=HK.out
    have hbY:Below w.heap.size w ((((w2.setCell ⟨w.heap.size,0,none⟩ (.int .i64 0)).setCell ⟨w.heap.size,1,none⟩ (.slice (some ⟨g,0,none⟩) 256 c2)).setCell ⟨w.heap.size,0,none⟩ (.int .i64 0)).setCell ⟨w.heap.size,1,none⟩ (.slice (some ⟨g,0,none⟩) 256 c2)).drew:=
     (((((Ziu hX2).1.setCell (ZZe _) _).setCell (ZZe _) _).setCell (ZZe _) _).setCell (ZZe _) _).drew
    have hother:∀r,r≠w.heap.size->((((w2.setCell ⟨w.heap.size,0,none⟩ (.int .i64 0)).setCell ⟨w.heap.size,1,none⟩ (.slice (some ⟨g,0,none⟩) 256 c2)).setCell ⟨w.heap.size,0,none⟩ (.int .i64 0)).setCell ⟨w.heap.size,1,none⟩ (.slice (some ⟨g,0,none⟩) 256 c2)).drew.heap[r]?=w2.heap[r]?:=fun r hr=>by
     show(((((w2.setCell ⟨w.heap.size,0,none⟩ (.int .i64 0)).setCell ⟨w.heap.size,1,none⟩ (.slice (some ⟨g,0,none⟩) 256 c2)).setCell ⟨w.heap.size,0,none⟩ (.int .i64 0)).setCell ⟨w.heap.size,1,none⟩ (.slice (some ⟨g,0,none⟩) 256 c2))).heap[r]?=w2.heap[r]?
     rw[Below.heap_setCell _ _ _ _ hr,Below.heap_setCell _ _ _ _ hr,Below.heap_setCell _ _ _ _ hr,Below.heap_setCell _ _ _ _ hr]
    have hszY:((((w2.setCell ⟨w.heap.size,0,none⟩ (.int .i64 0)).setCell ⟨w.heap.size,1,none⟩ (.slice (some ⟨g,0,none⟩) 256 c2)).setCell ⟨w.heap.size,0,none⟩ (.int .i64 0)).setCell ⟨w.heap.size,1,none⟩ (.slice (some ⟨g,0,none⟩) 256 c2)).drew.heap.size=w2.heap.size:=by simp
    have hdY:((((w2.setCell ⟨w.heap.size,0,none⟩ (.int .i64 0)).setCell ⟨w.heap.size,1,none⟩ (.slice (some ⟨g,0,none⟩) 256 c2)).setCell ⟨w.heap.size,0,none⟩ (.int .i64 0)).setCell ⟨w.heap.size,1,none⟩ (.slice (some ⟨g,0,none⟩) 256 c2)).drew.cell? ⟨w.heap.size,0,none⟩=some (.int .i64 0)/\((((w2.setCell ⟨w.heap.size,0,none⟩ (.int .i64 0)).setCell ⟨w.heap.size,1,none⟩ (.slice (some ⟨g,0,none⟩) 256 c2)).setCell ⟨w.heap.size,0,none⟩ (.int .i64 0)).setCell ⟨w.heap.size,1,none⟩ (.slice (some ⟨g,0,none⟩) 256 c2)).drew.cell? ⟨w.heap.size,1,none⟩=some (.slice (some ⟨g,0,none⟩) 256 c2):=⟨d2,d3⟩
    clear d0 d1 d2 d3 fs0 fs1 c0 c1 f0 f1;generalize ((((w2.setCell ⟨w.heap.size,0,none⟩ (.int .i64 0)).setCell ⟨w.heap.size,1,none⟩ (.slice (some ⟨g,0,none⟩) 256 c2)).setCell ⟨w.heap.size,0,none⟩ (.int .i64 0)).setCell ⟨w.heap.size,1,none⟩ (.slice (some ⟨g,0,none⟩) 256 c2)).drew=Y at *;obtain⟨y0,y1⟩:=hdY;have hkeep:∀v:Value,∀A0 l0,Zbb wr (Zlg (ZiH F2 w.heap.size) v) A0 k l0->Zbb Y F2 A0 k l0:=fun v A0 l0 him=>him.keep (by rw[hszY];exact hb2.size) (fun r _ hn hf=>hn (.inl (.inl hf))) (fun r hr hn=>(hother r (fun e=>hn (.inl (.inr e)))).trans (hb2.block r hr))
    have HF:=hid (show Below w.heap.size w Y/\Zbb Y F2 A1 k (Zq 0 (Zo (seq+1) l))/\Zbb Y F2 A2 k (atHomes (pagesOf S.n) (Zo (seq+1) l))/\256<=c2/\w.heap.size<=g/\RB Y Y.heap.size (some ⟨g,0,none⟩) 256 (Zav k (seq+1) ZH)from⟨hbY,hkeep _ _ _ HIM1.out.1,hkeep _ _ _ HIM1.out.2,hc2,by have:=hb.size;omega,hr2.there (by decide) (hother g (by omega)) (by omega)⟩);have HE:=hid (ZZg e1 e2);clear hX2 hr2 hc2 hg2 hb2 hbY hother hszY hkeep e1 e2;go_wp2
    refine bodyPost_ret (v:=.tuple #[.slice A1 (Zq 0 ((Zo (seq+1) l).take k)).length q1,.agg #[.int .i64 0,.slice (some ⟨g,0,none⟩) 256 c2],.slice A2 (atHomes (pagesOf S.n) ((Zo (seq+1) l).take k)).length q2,.int .i64 0]) (by
     simp[results,Tryz.results171,go_sem,y0,y1]) rfl ?_
    rw[HE.out.1,HE.out.2];exact⟨HF.out.1,A1,q1,g,c2,A2,q2,rfl,HF.out.2⟩
end
section
variable{S:DS}{seq:Int}{l:List (Int×List Int)}
def ZcU(S3:DS)(seq:Int)(l:List (Int×List Int)):Int×Int×DS:=
 if(ZV S3 l.length (seq+1)).1≠0 then((ZV S3 l.length (seq+1)).1,seq,(ZV S3 l.length (seq+1)).2)else
 ((ZK (ZV S3 l.length (seq+1)).2 (Zo (seq+1) l)).1,seq+1,(ZK (ZV S3 l.length (seq+1)).2 (Zo (seq+1) l)).2)
def commitP(S:DS)(seq:Int)(l:List (Int×List Int)):Int×Int×DS:=
 if(Zdk S (Zq 0 (Zo (seq+1) l))).1≠0 then((Zdk S (Zq 0 (Zo (seq+1) l))).1,seq,(Zdk S (Zq 0 (Zo (seq+1) l))).2)else
 ZcU (Zdk S (Zq 0 (Zo (seq+1) l))).2 seq l
theorem ZeT(h1:Zaw S l=0)(h2:l≠[]):Zs S seq l=commitP S seq l:=by
 unfold Zaw at h1;by_cases ha:(l.length:Int)>S.P
 · rw[if_pos ha]at h1;cases h1
 rw[if_neg ha]at h1;by_cases hb:ZbN S l
 · unfold Zs commitP;rw[if_neg ha,if_neg (fun h=>h hb),if_neg h2,Zl2];rfl
 · rw[if_neg hb]at h1;cases h1
theorem Zd6(h:Zaw S l≠0∨l = []):Zs S seq l=(Zaw S l,seq,S):=by
 unfold Zaw at *
 unfold Zs;by_cases ha:(l.length:Int)>S.P
 · rw[if_pos ha,if_pos ha]
 rw[if_neg ha]at h ⊢;rw[if_neg ha];by_cases hb:ZbN S l
 · rw[if_pos hb]at h ⊢;rw[if_neg (fun h=>h hb),if_pos (h.resolve_left (fun h=>h rfl))]
 · rw[if_neg hb,if_pos hb]
theorem ZoX(h:Zaw S l=0):ZbN S l/\(l.length:Int)<=S.P:=by
 unfold Zaw at h;by_cases ha:(l.length:Int)>S.P
 · rw[if_pos ha]at h;cases h
 rw[if_neg ha]at h;by_cases hb:ZbN S l
 · exact⟨hb,by omega⟩
 · rw[if_neg hb]at h;cases h
end
theorem ZcD(l:List (Int×List Int)):∀S:DS,(Zdk S l).2.writes<=S.writes+l.length/\(Zdk S l).2.n=S.n:=by
 induction l with
 | nil=>
  intro S;refine⟨?_,Zgq S⟩;show S.flush.writes<=_;unfold DS.flush
  split <;> simp
 | cons y r ih=>
  intro S;rw[ZgM];have h1:=Zhy S y.1 y.2;by_cases h:(S.wr y.1 y.2).1=0
  · rw[Zb4 h];have h2:=ih (S.wr y.1 y.2).2;have e1:(S.wr y.1 y.2).2.writes<=S.writes+1:=h1.1;have e2:(S.wr y.1 y.2).2.n=S.n:=h1.2;rw[List.length_cons];exact⟨by omega,h2.2.trans e2⟩
  · rw[Zdc h,List.length_cons];exact⟨by have:(S.wr y.1 y.2).2.writes<=S.writes+1:=h1.1;omega,h1.2⟩
theorem ZhI(S:DS){c s:Int}(h:Zey c s=true):Zdk S [(0,Zav c s ZH)]=ZV S c s:=(ZgI S h).symm
theorem Zdq.store{w:World}{q:Nat}{p:Addr}{seq:Int}(h:Zdq w q p seq)(z:Int):Zdq (w.setCell ⟨q,1,none⟩ (.int .i64 z)) q p z:=by
 unfold Zdq at *
 simp[World.setCell,Array.getElem?_modify,h]
theorem Zbb.weaken{w:World}{G G':Nat->Prop}{A:Option Addr}{n:Nat}{l:List (Int×List Int)}(h:Zbb w G A n l)(hG:∀k,G' k->G k):Zbb w G' A n l:=h.keep (ZZe _) (fun k _ hn hg=>hn (hG k hg)) (fun _ _ _=>rfl)
theorem Zbb.below{w w':World}{G:Nat->Prop}{A:Option Addr}{n:Nat}{l:List (Int×List Int)}(h:Zbb w G A n l)(hb:Below w.heap.size w w'):Zbb w' G A n l:=h.keep hb.size (fun _ _ h=>h) (fun k hk _=>hb.block k hk)
section
variable{D:World->(Nat->Prop)->Addr->DS->Prop}{w:World}{F:Nat->Prop}{p:Addr}{S:DS}{q:Nat}{seq:Int}
theorem Zbb.touchQ{w1 w2:World}{F1 F2:Nat->Prop}{A:Option Addr}{n:Nat}{l:List (Int×List Int)}(h:Zbb w1 (ZiH F1 q) A n l)(ht:Zf F1 w1 w2)(hF:∀k,F2 k->F1 k∨w1.heap.size<=k):Zbb w2 (ZiH F2 q) A n l:=
 h.keep ht.size (fun k hk hn hf=>by
  rcases hf with a|a
  · rcases hF k a with b|b
    · exact hn (.inl b)
    · omega
  · exact hn (.inr a)) (fun k hk hn=>ht.block k hk (fun hf=>hn (.inl hf)))
def Zbs(D:World->(Nat->Prop)->Addr->DS->Prop)(w:World)(F:Nat->Prop)(p:Addr)(q:Nat)(r:Int×Int×DS)(w':World):Prop:=
 ∃F',D w' F' p r.2.2/\Zdq w' q p r.2.1/\¬F' q/\Zf (ZiH F q) w w'/\∀k,F' k->F k∨w.heap.size<=k
theorem Zbs.of{w':World}{S':DS}{e:Int}(hq:Zdq w q p seq)(hqF:¬F q)(h:Z4 D w F p S' w'):Zbs D w F p q (e,seq,S') w':=by
 obtain⟨F',h1,h2,h3⟩:=h;have hlt:=hq.cells.2.2.2;refine⟨F',h1,hq.keep (h2.block q hlt hqF),fun hf=>?_,⟨h2.os,h2.tape,h2.output,h2.size,fun k hk hF=>h2.block k hk (fun hg=>hF (.inl hg))⟩,h3⟩;rcases h3 q hf with a|a
 · exact hqF a
 · omega
theorem Zl4(api:Zb D)(h:D w F p S)(hq:Zdq w q p seq)(hqF:¬F q)(ht:Zdf w F){A:Option Addr}{n c:Nat}{l:List (Int×List Int)}(hl:Zbb w (ZiH F q) A n l)(hby:∀y∈l,Ze y.2)(hin:∀y∈l,-9223372036854775808<=y.1/\y.1<=9223372036854775807)(hn:n<=65536)(hs:0<=seq/\seq<4611686018427387904)(hw:S.writes<=9223372036854500000) :
 Calls prog 106 #[.pointer (some ⟨q,0,none⟩),.slice A n c] w fun e w'=>e=.returned (.int .i64 (Zs S seq l).1)/\Zbs D w F p q (Zs S seq l) w':=by
 have hlen:=hl.1;have hok:=api.ok _ _ _ _ h;have hlt:=api.lt _ _ _ _ h;have hsz:=hok.size;have hpb:=Zm (S.n:Int);have HRT:=hid (Znv (c:=c) api h hq hl hin hn);have HD:=hid (ZZg h (ZZg hq (ZZg ht hl)));have HF1:=hid (fun w1 hb e=>Zbs.of (e:=e) hq hqF (Z4.later (w1:=w1) api h hb));by_cases hr:Zaw S l=0
 · have HR0:=hid hr;by_cases hn0:n=0
   · have hl0:l = []:=List.eq_nil_of_length_eq_zero (by omega);have HC:=hid (Zd6 (S:=S) (seq:=seq) (l:=l) (.inr hl0));subst hn0;clear hr h hq ht hl hl0 hlen;go_enter func106,ntmps106;go_wp2_with fail;refine HRT.out.mono ?_;rw[HR0.out];rintro e w1⟨rfl,hb⟩;have hF:=hid (HF1.out w1 hb 0);clear hb;go_wp2;go_ret;rw[HC.out,HR0.out];exact⟨rfl,hF.out⟩
   · obtain⟨hrs,hnP⟩:=ZoX hr;have hP:S.P=pagesOf S.n:=rfl;have hne:l≠[]:=fun e=>hn0 (by rw[<-hlen,e];rfl)
     have HI:Zj1 S.n seq l:=⟨fun y hy=>by have:=hrs.1 y hy;rw[hP]at this;exact this,hby,hrs.2,by omega,hs.1,hs.2⟩
     have HC:=hid (show Zs S seq l=commitP S seq l from ZeT hr hne)
     have HPC:=hid (fun w1 (hb:Below w.heap.size w w1)=>Zl3 (c:=c) (F2:=ZiH F q) api (api.below h hb) (hq.below hb) (ht.below hb) (fun k hk=>by
      rcases hk with a|a
      · have:=hlt k a;have:=hb.size;omega
      · have:=hq.cells.2.2.2;have:=hb.size;omega) (hl.below hb) HI hn (by omega))
     have k3:((n:Int) == 0)=false:=by simp;omega
     have hql:=hq.cells.2.2.2
     have HP256:=hid (show(∀y∈Zq 0 (Zo (seq+1) l),y.2.length=256)/\(∀y∈atHomes (pagesOf S.n) (Zo (seq+1) l),y.2.length=256)from⟨fun y hy=>by
      obtain⟨z,hz,e⟩:=Zj9 _ _ y hy;rw[e];exact(HI.mem hz).2,fun y hy=>by
      obtain⟨z,hz,rfl⟩:=List.mem_map.1 hy
      exact(HI.mem hz).2⟩)
     have hseqw:wrap64 (seq+1)=seq+1:=by unfold wrap64;omega
     have hsecR:Zey n (seq+1)=true:=decide_eq_true ⟨by omega,by omega,by omega,by omega⟩;clear hr h hq ht hl hrs hne HI;go_enter func106,ntmps106;go_wp2_with fail;refine HRT.out.mono ?_;rw[HR0.out];rintro e w1⟨rfl,hb1⟩;have hpc:=HPC.out w1 hb1;have HB1:=hid hb1;clear hb1;go_wp2_with fail;refine hpc.mono ?_;rintro e w2⟨hb2,A1,c1,g,cg,A2,c2,rfl,hi1,hi2,hcg,hgw,hrg⟩;have hb02:=HB1.out.trans (hb2.mono HB1.out.size);have hX:Below w2.heap.size w2 (w2.alloc (.cells #[.int .i64 0,.slice (some ⟨g,0,none⟩) 256 cg] 141)):=(Below.refl _ _).alloc (ZZe _) _;have hbX:=hb02.trans (hX.mono hb02.size);obtain⟨hD,hq,ht,_⟩:=HD.out;have hDX:=api.below hD hbX;have hi1X:=hi1.below hX;have hi2X:=hi2.below hX;have hgl:g<w2.heap.size:=by obtain⟨bb,_,e,hbb,_⟩:=hrg.at_ (by decide);cases e;exact hbb
     have hrgX:=hrg.there (by decide) (hX.block g hgl) hX.size;have hqX:=hq.below hbX;obtain⟨l0,l1,f1,_⟩:=hqX.cells;have hgo:w.heap.size<=g:=ZZf HB1.out.size hgw;have hw02:=hb02.size;have hFm:¬F w2.heap.size:=fun hf=>by have:=hlt _ hf;omega
     have hFg:¬F g:=fun hf=>by have:=hlt _ hf;omega
     have hmc:(w2.alloc (.cells #[.int .i64 0,.slice (some ⟨g,0,none⟩) 256 cg] 141)).heap[w2.heap.size]?=some (.cells #[.int .i64 0,.slice (some ⟨g,0,none⟩) 256 cg] 141 (0,0)):=heap_alloc_new _ _;have HPUT:=hid (ZgN api (c:=c1) hDX (hi1X.weaken (fun k hk=>.inl hk)) HP256.out.1 hn (by omega));have HK:=hid (ZZg hbX (ZZg hi2X (ZZg hrgX (ZZg hqX (ZZg hmc (ZZg hFm (ZZg hFg hcg)))))));have hXs:(w2.alloc (.cells #[.int .i64 0,.slice (some ⟨g,0,none⟩) 256 cg] 141)).heap.size=w2.heap.size+1:=by simp
     clear hb2 hX hbX hD hq ht hDX hi1 hi2 hi1X hi2X hrg hrgX hqX hmc hFm hFg hcg hpc hb02;go_wp2_with fail;by_cases h0:(Zdk S (Zq 0 (Zo (seq+1) l))).1=0
     · obtain⟨hm1,hm2⟩:=ZcD (Zq 0 (Zo (seq+1) l)) S;rw[ZaO,Z8]at hm1;have H0:=hid h0;refine HPUT.out.mono ?_;rw[h0];rintro e w3⟨rfl,F3,d3,t3,n3⟩;obtain⟨hbX,hi2X,hrgX,hqX,hmc,hFm,hFg,hcg⟩:=HK.out;have T3:Zf F w w3:=(Zf.of_below hbX).join (fun k hk=>.inl hk) t3;have N3:∀k,F3 k->F k∨w.heap.size<=k:=Zde hbX.size (fun k hk=>.inl hk) n3;have hq3:Zdq w3 q p seq:=hqX.keep (t3.block q hqX.cells.2.2.2 hqF);have hi23:=hi2X.touchQ t3 n3;have hgX:=(show g<(w2.alloc (.cells #[.int .i64 0,.slice (some ⟨g,0,none⟩) 256 cg] 141)).heap.size by omega)
       have hrg3:=hrgX.there (by decide) (t3.block g hgX hFg) t3.size;have hmc3:=(t3.block w2.heap.size (by omega) hFm).trans hmc
       have hF3g:¬F3 g:=fun hf=>by
        rcases n3 g hf with a|a
        · exact hFg a
        · omega
       have hF3q:¬F3 q:=fun hf=>by
        rcases n3 q hf with a|a
        · exact hqF a
        · have:=hqX.cells.2.2.2;omega
       have hlt3:=api.lt _ _ _ _ d3;have hX3:Below w3.heap.size w3 (w3.alloc (.cells #[.int .i64 0,.slice (some ⟨g,0,none⟩) 256 cg] 141)).drew:=((Below.refl _ _).alloc (ZZe _) _).drew;have hg3:g<w3.heap.size:=ZZd hgX t3.size;have HPUT2:=hid (ZgN api (c:=1) (api.below d3 hX3) (Zbb.one (show(w3.alloc (.cells #[.int .i64 0,.slice (some ⟨g,0,none⟩) 256 cg] 141)).drew.heap[w3.heap.size]?=some (.cells #[.int .i64 0,.slice (some ⟨g,0,none⟩) 256 cg] 141 (0,0))from heap_alloc_new _ _) (fun hf=>by have:=hlt3 _ hf;omega) hF3g hcg (by decide) (hrg3.there (by decide) (hX3.block g hg3) hX3.size)) (fun y hy=>by obtain rfl:=List.mem_singleton.1 hy;exact(ZaV ..).trans (by rw[ZaS.1])) (by decide) (by omega));rw[ZhI _ hsecR]at HPUT2;obtain⟨l0,l1,f1,_⟩:=hq3.cells;have m0:w3.cell? ⟨w2.heap.size,0,none⟩=some (.int .i64 0):=by rw[cell_of_row w3 _ 0 _ _ (0,0) hmc3];rfl
       have m1:w3.cell? ⟨w2.heap.size,1,none⟩=some (.slice (some ⟨g,0,none⟩) 256 cg):=by rw[cell_of_row w3 _ 1 _ _ (0,0) hmc3];rfl
       have hF3m:¬F3 w2.heap.size:=fun hf=>by
        rcases n3 _ hf with a|a
        · exact hFm a
        · omega
       have hm3:w2.heap.size<w3.heap.size:=ZZd (by omega) t3.size;have HC3:=hid (show(w3.alloc (.cells #[.int .i64 0,.slice (some ⟨g,0,none⟩) 256 cg] 141)).drew.cell? ⟨q,0,none⟩=some (.pointer (some p))/\(w3.alloc (.cells #[.int .i64 0,.slice (some ⟨g,0,none⟩) 256 cg] 141)).drew.cell? ⟨w2.heap.size,0,none⟩=some (.int .i64 0)/\(w3.alloc (.cells #[.int .i64 0,.slice (some ⟨g,0,none⟩) 256 cg] 141)).drew.cell? ⟨w2.heap.size,1,none⟩=some (.slice (some ⟨g,0,none⟩) 256 cg)from⟨(hX3.cell (p:=⟨q,0,none⟩) hq3.cells.2.2.2).trans l0,(hX3.cell (p:=⟨w2.heap.size,0,none⟩) hm3).trans m0,(hX3.cell (p:=⟨w2.heap.size,1,none⟩) hm3).trans m1⟩);have hs33:w3.heap.size<=(w3.alloc (.cells #[.int .i64 0,.slice (some ⟨g,0,none⟩) 256 cg] 141)).drew.heap.size:=hX3.size;have HC5:=hid (fun(w5:World) (t5:Zf F3 (w3.alloc (.cells #[.int .i64 0,.slice (some ⟨g,0,none⟩) 256 cg] 141)).drew w5)=>show w5.cell? ⟨q,0,none⟩=some (.pointer (some p))/\w5.cell? ⟨w2.heap.size,0,none⟩=some (.int .i64 0)/\w5.cell? ⟨w2.heap.size,1,none⟩=some (.slice (some ⟨g,0,none⟩) 256 cg)from⟨(World.cell?_of_block (a:=⟨q,0,none⟩) (t5.block q (ZZd hq3.cells.2.2.2 hs33) hF3q)).trans HC3.out.1,(World.cell?_of_block (a:=⟨w2.heap.size,0,none⟩) (t5.block _ (ZZd hm3 hs33) hF3m)).trans HC3.out.2.1,(World.cell?_of_block (a:=⟨w2.heap.size,1,none⟩) (t5.block _ (ZZd hm3 hs33) hF3m)).trans HC3.out.2.2⟩);have HC5W:=hid (fun(w5:World) (S5:DS) (hW:Z4 D (w3.alloc (.cells #[.int .i64 0,.slice (some ⟨g,0,none⟩) 256 cg] 141)).drew F3 p S5 w5)=>HC5.out w5 (by obtain⟨_,_,t5,_⟩:=hW;exact t5));have HK3:=hid (ZZg T3 (ZZg N3 (ZZg hq3 (ZZg hi23 (ZZg hX3 hF3q)))));have hP3:(Zdk S (Zq 0 (Zo (seq+1) l))).2.P=pagesOf S.n:=by unfold DS.P;rw[hm2]
       have HCP2:=hid (show commitP S seq l=ZcU (Zdk S (Zq 0 (Zo (seq+1) l))).2 seq l from if_neg (fun h=>h h0));clear h0 d3 t3 n3 hbX hi2X hrgX hqX hmc hFm hFg hcg T3 N3 hq3 hi23 hrg3 hmc3 hF3g hX3 HPUT HK hlt3 hF3q hgX hg3 hF3m hm3 hs33;generalize (Zdk S (Zq 0 (Zo (seq+1) l))).2=S3 at *;go_wp2_with fail;by_cases h1:(ZV S3 n (seq+1)).1=0
       · have H1:=hid h1
         go_region_held3 (fun w'=>w'.cell? ⟨q,0,none⟩=some (.pointer (some p))/\w'.cell? ⟨w2.heap.size,0,none⟩=some (.int .i64 0)/\w'.cell? ⟨w2.heap.size,1,none⟩=some (.slice (some ⟨g,0,none⟩) 256 cg))
          (first|exact⟨l0,m0,m1⟩|exact HC3.out|exact c5)
          ((go_at_call 84;refine HPUT2.out.mono ?_;rw[H1.out];rintro e w5 ⟨rfl,F5,d5,t5,n5⟩;have c5:=HC5.out w5 t5))
         clear c5 HC5 HC5W HC3;obtain⟨T3,N3,hq3,hi23,hX3,hF3q⟩:=HK3.out;have T5:Zf F w w5:=T3.join N3 ((Zf.of_below hX3).join (fun k hk=>.inl hk) t5);have N5:∀k,F5 k->F k∨w.heap.size<=k:=Zde T3.size N3 (Zde hX3.size (fun k hk=>.inl hk) n5);have hq5:Zdq w5 q p seq:=(hq3.below hX3).keep (t5.block q (hq3.below hX3).cells.2.2.2 hF3q);have hi25:=(hi23.below hX3).touchQ t5 n5
         have hF5q:¬F5 q:=fun hf=>by
          rcases n5 q hf with a|a
          · exact hF3q a
          · have:=(hq3.below hX3).cells.2.2.2;omega
         have d6:=api.keep w5 (w5.setCell ⟨q,1,none⟩ (.int .i64 (seq+1))) F5 p _ d5 (fun k hk=>Below.heap_setCell _ _ _ _ (fun e=>hF5q (by have:k=q:=e;rw[<-this];exact hk)));have hi26:Zbb (w5.setCell ⟨q,1,none⟩ (.int .i64 (seq+1))) F5 A2 n (atHomes (pagesOf S.n) (Zo (seq+1) l)):=hi25.keep (by simp) (fun k _ hn hf=>hn (.inl hf)) (fun k _ hn=>Below.heap_setCell _ _ _ _ (fun e=>hn (.inr e)));have hmk:=ZcD [(0,Zav n (seq+1) ZH)] S3;rw[ZhI _ hsecR]at hmk;have hPM:(ZV S3 n (seq+1)).2.P=pagesOf S.n:=by unfold DS.P;rw[hmk.2,<-hP3];rfl
         have HPUT3:=hid (ZgN api (c:=c2) d6 hi26 HP256.out.2 hn (by have:=hmk.1;simp at this;omega));have hph:=ZdY (Zo (seq+1) l) (ZV S3 n (seq+1)).2;rw[hPM]at hph;rw[hph]at HPUT3;obtain⟨l0,l1,f1,_⟩:=hq5.cells;have l06:(w5.setCell ⟨q,1,none⟩ (.int .i64 (seq+1))).cell? ⟨q,0,none⟩=some (.pointer (some p)):=(World.cell?_setCell_other _ ⟨q,1,none⟩ ⟨q,0,none⟩ _ (by simp)).trans l0
         have HCP3:=hid (show ZcU S3 seq l=((ZK (ZV S3 n (seq+1)).2 (Zo (seq+1) l)).1,seq+1,(ZK (ZV S3 n (seq+1)).2 (Zo (seq+1) l)).2)from by
          unfold ZcU
          rw[hlen,if_neg (fun h=>h h1)])
         have HK5:=hid (ZZg T5 (ZZg N5 (ZZg (hq5.store (seq+1)) hF5q)));clear T3 N3 hq3 hi23 hX3 hF3q T5 N5 hq5 hi25 hF5q d5 d6 hi26 t5 n5 h1 HPUT2 HK3 hph hPM hmk m0 m1;go_wp2_with fail;refine HPUT3.out.mono ?_;rintro e w7⟨rfl,F7,d7,t7,n7⟩;obtain⟨T5,N5,hq6,hF5q⟩:=HK5.out
         have hF:=hid (show Zbs D w F p q ((ZK (ZV S3 n (seq+1)).2 (Zo (seq+1) l)).1,seq+1,(ZK (ZV S3 n (seq+1)).2 (Zo (seq+1) l)).2) w7 from
          ⟨F7,d7,hq6.keep (t7.block q hq6.cells.2.2.2 hF5q),fun hf=>by
           rcases n7 q hf with a|a
           · exact hF5q a
           · have:=hq6.cells.2.2.2;omega,⟨t7.os.trans T5.os,t7.tape.trans T5.tape,t7.output.trans T5.output,by have:=T5.size;have:=t7.size;simp at this;omega,fun k hk hn=>(t7.block k (by have:=T5.size;simp;omega) (fun hf=>by
             rcases N5 k hf with a|a
             · exact hn (.inl a)
             · omega)).trans ((Below.heap_setCell _ _ _ _ (fun e=>hn (.inr e))).trans (T5.block k hk (fun hf=>hn (.inl hf))))⟩,Zde T5.size N5 (fun k hk=>(n7 k hk).imp id (fun a=>by simpa using a))⟩)
         clear T5 N5 hq6 hF5q d7 t7 n7;go_wp2;go_ret;rw[HC.out,HCP2.out,HCP3.out];exact⟨rfl,hF.out⟩
       · have KN:=hid (show((ZV S3 n (seq+1)).1 != 0)=true by simpa using h1)
         have HCP3:=hid (show ZcU S3 seq l=((ZV S3 n (seq+1)).1,seq,(ZV S3 n (seq+1)).2)from by
          unfold ZcU
          rw[hlen,if_pos h1])
         clear h1
         go_region_held3 (fun w'=>w'.cell? ⟨q,0,none⟩=some (.pointer (some p))/\w'.cell? ⟨w2.heap.size,0,none⟩=some (.int .i64 0)/\w'.cell? ⟨w2.heap.size,1,none⟩=some (.slice (some ⟨g,0,none⟩) 256 cg))
          (first|exact⟨l0,m0,m1⟩|exact HC3.out|exact c5)
          ((go_at_call 84;refine HPUT2.out.mono ?_;rintro e w5 ⟨rfl,hW⟩;have c5:=HC5W.out w5 _ hW))
         have kne:=KN.out;clear c5 HC5 HC5W HC3;obtain⟨T3,N3,hq3,hi23,hX3,hF3q⟩:=HK3.out;have hF:=hid (Zbs.of (e:=(ZV S3 n (seq+1)).1) HD.out.2.1 hqF (Z4.join T3 N3 (Z4.join (Zf.of_below hX3) (fun k hk=>.inl hk) hW)));clear hW T3 N3 hq3 hi23 hX3 hF3q;go_wp2;go_ret;rw[HC.out,HCP2.out,HCP3.out];exact⟨rfl,hF.out⟩
     · have KN:=hid (show((Zdk S (Zq 0 (Zo (seq+1) l))).1 != 0)=true by simpa using h0);have HCP2:=hid (show commitP S seq l=((Zdk S (Zq 0 (Zo (seq+1) l))).1,seq,(Zdk S (Zq 0 (Zo (seq+1) l))).2)from if_pos h0);clear h0;refine HPUT.out.mono ?_;rintro e w3⟨rfl,hW⟩;have kne:=KN.out;have hF:=hid (Zbs.of (e:=(Zdk S (Zq 0 (Zo (seq+1) l))).1) HD.out.2.1 hqF (Z4.join (Zf.of_below HK.out.1) (fun k hk=>.inl hk) hW));clear hW;go_wp2;go_ret;rw[HC.out,HCP2.out];exact⟨rfl,hF.out⟩
 · have k1:(Zaw S l != 0)=true:=by simpa using hr
   have HC:=hid (Zd6 (S:=S) (seq:=seq) (l:=l) (.inl hr));have K1:=hid k1;clear hr h hq ht hl k1;go_enter func106,ntmps106;go_wp2_with fail;refine HRT.out.mono ?_;rintro e w1⟨rfl,hb⟩;have hF:=hid (HF1.out w1 hb (Zaw S l));have k1:=K1.out;clear hb;go_wp2;go_ret;rw[HC.out];exact⟨rfl,hF.out⟩
end
end Go.Proofs.YtlmkdmdbpopnhaaGreatDoor
