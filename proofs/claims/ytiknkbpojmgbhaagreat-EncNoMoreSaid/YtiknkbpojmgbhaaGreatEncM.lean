/-
  What a further law needs of the texts below. Conditions: those that each part says.
-/
import Derived.Test.YtiknkbpojmgbhaaGreatViewP
import Derived.Lib.BytesEntry
import Derived.Laws.Externs
import Derived.Lib.Walk
import Derived.Lib.Strings
import Derived.Lib.Slices
import Derived.Laws.Strings3
import Derived.Test.YtiknkbpojmgbhaaGreatKeyB
import Derived.Test.YtiknkbpojmgbhaaGreatGRow
import Derived.Test.YtiknkbpojmgbhaaGreatViewC
import Derived.Test.YtiknkbpojmgbhaaGreatIntApp
import Derived.Test.YtiknkbpojmgbhaaGreatManS
import Derived.Test.YtiknkbpojmgbhaaGreatEqual
import Derived.Maps.AppendAt
import Derived.Deep.AppendLies
import Derived.Laws.AppendOwnNone
import Derived.OpenShut
import Derived.Deep.Slices
import Derived.ProofKit
import Derived.Test.YtiknkbpojmgbhaaGreatRecA
import Derived.Test.YtiknkbpojmgbhaaGreatRecD
import Derived.BigQuiet
import Derived.Laws.StructEq
import Derived.Test.YtiknkbpojmgbhaaGreatRecG
import Derived.Test.YtiknkbpojmgbhaaGreatSeqP
import Derived.Test.YtiknkbpojmgbhaaGreatTreP
import Derived.Test.YtiknkbpojmgbhaaGreatRecF
import Derived.Test.YtiknkbpojmgbhaaGreatSeqS
import Derived.Deep.RegionHeld3
import Derived.Laws.ResultCell
import Derived.Lib.AppendZeros
import Derived.WalkMore
import Derived.Test.YtiknkbpojmgbhaaGreatDocE
import Derived.Test.YtiknkbpojmgbhaaGreatViewN
import Derived.StillTailTactics
import Derived.Test.YtiknkbpojmgbhaaGreatTreC
import Derived.Test.YtiknkbpojmgbhaaGreatCtlC
import Derived.Test.YtiknkbpojmgbhaaGreatDocM
import Derived.Test.YtiknkbpojmgbhaaGreatAmtV
import Derived.Test.YtiknkbpojmgbhaaGreatYrB
import Derived.Test.YtiknkbpojmgbhaaGreatPreO
import Derived.Test.YtiknkbpojmgbhaaGreatPreD
namespace Go.Proofs.YtiknkbpojmgbhaaGreat
open Go.RowKit
set_option maxRecDepth 100000
set_option linter.unusedVariables false
theorem tag_prefix{t:Int}(ht:0≤t∧t<256)(y:Txt):(tx [t]).isPrefixOf y=true↔(by_ y)[0]?=some t:=by
 obtain⟨n,rfl⟩:=Int.eq_ofNat_of_zero_le ht.1
 have hn:(UInt8.ofNat n).toNat=n:=by rw[UInt8.toNat_ofNat'];omega
 cases y with
 | nil=>exact⟨fun h=>(by cases h),fun h=>(by cases h)⟩
 | cons u r=>
  show((UInt8.ofNat n == u)&&([]:Txt).isPrefixOf r)=true↔some ((u.toNat:Int))=some (n:Int)
  have:([]:Txt).isPrefixOf r=true:=rfl
  rw[this,Bool.and_true]
  constructor
  · intro h
    have:UInt8.ofNat n=u:=by simpa using h
    rw[←this,hn]
  · intro h
    have h:(u.toNat:Int)=(n:Int):=Option.some.inj h
    have:UInt8.ofNat n=u:=UInt8.toNat.inj (by rw[hn];omega)
    simpa using this
end Go.Proofs.YtiknkbpojmgbhaaGreat
namespace Go.Proofs.YtiknkbpojmgbhaaGreat
open Go.RowKit Go.Maps
set_option maxRecDepth 100000
set_option linter.unusedVariables false
end Go.Proofs.YtiknkbpojmgbhaaGreat
namespace Go.Proofs.YtiknkbpojmgbhaaGreat
open Go.RowKit
set_option maxRecDepth 100000
set_option linter.unusedVariables false
def setV(x:Txt)(v:List Int)(q:Txt×List Int):Txt×List Int:=if q.1=x then(q.1,v)else q
theorem setV_key(x:Txt)(v:List Int)(q:Txt×List Int):(setV x v q).1=q.1:=by
 unfold setV
 split <;> rfl
theorem setV_look(L:TL)(x:Txt)(v:List Int)(y:Txt):Zf (L.map (setV x v)) y=if x=y then(Zf L y).map (fun _=>v)else Zf L y:=by
 induction L with
 | nil=>simp[Zf]
 | cons p r ih=>
  rw[List.map_cons,Zb2,Zb2,setV_key,ih]
  by_cases h:p.1=y
  · rw[if_pos h,if_pos h]
    unfold setV
    by_cases e:x=y
    · rw[if_pos e,if_pos (h.trans e.symm)];rfl
    · rw[if_neg e,if_neg (fun q=>e (q.symm.trans h))]
  · rw[if_neg h,if_neg h]
theorem setV_rise{L:TL}(h:ZG L)(x:Txt)(v:List Int):ZG (L.map (setV x v)):=by
 unfold ZG at *
 rw[List.pairwise_map]
 refine h.imp fun {a b} hab=>?_
 rw[setV_key,setV_key]
 exact hab
theorem scan_put{S:VS}(h:S.Ok){x:Txt}(v:List Int)(hx:(S.now x).isSome=true)(y:Txt):(S.put x v).scan y=(S.scan y).map (setV x v):=by
 have e:(S.put x v).nowL=S.nowL.map (setV x v):=ZG.ext (h.put x v).nowL (setV_rise h.nowL x v) fun z=>by
  rw[(h.put x v).look,h.now_put,setV_look,h.look]
  by_cases e:x=z
  · subst e
    rw[if_pos rfl,if_pos rfl]
    obtain⟨b,hb⟩:=Option.isSome_iff_exists.1 hx
    rw[hb];rfl
  · rw[if_neg e,if_neg e]
 show(S.put x v).nowL.filter _=(S.nowL.filter _).map _
 rw[e,List.filter_map]
 congr 1
 refine List.filter_congr fun q _=>?_
 simp only[Function.comp,setV_key]
end Go.Proofs.YtiknkbpojmgbhaaGreat
namespace Go.Proofs.YtiknkbpojmgbhaaGreat
open Go.RowKit
set_option maxRecDepth 100000
set_option linter.unusedVariables false
section
variable{β:Type}{E:Enc β}
end
end Go.Proofs.YtiknkbpojmgbhaaGreat
namespace Go.Proofs.YtiknkbpojmgbhaaGreat
open Go.RowKit Go.Maps
set_option maxRecDepth 100000
set_option linter.unusedVariables false
theorem nYearLen(y:Int):(Zi 78 [y]).length=5:=by unfold Zi;rw[Zt];rfl
def nodesK(ps:List KV):List Nd:=ps.filterMap ndK
def allN(S:VS)(y:Int):List Nd:=if Zbn y then nodesK ((S.scan (tx (Zi 78 [y]))).map Zaq)else []
theorem key_of2{b:List Int}(hb:Zm b)(h1:(splitK b).2.2=true)(h3:(splitK b).1.length=2):∃t x y,b=Zi t [x,y]∧(splitK b).1 = [x,y]∧Zpn [x,y]∧b[0]?=some t:=by
 unfold splitK Zco at h1 h3 ⊢
 split at h1
 · rename_i hl
   rw[if_pos hl]at h3 ⊢
   have h3:(Z0 4 b 1 (b.length/4)).length=2:=h3
   rw[ZaJ]at h3
   have hl9:b.length=9:=by omega
   rw[show b.length/4=2 by omega]
   match b,hl9 with
   | [t,a0,a1,a2,a3,b0,b1,b2,b3],_=>
    have A:=ZdW (hb a0 (by simp)) (hb a1 (by simp)) (hb a2 (by simp)) (hb a3 (by simp))
    have B:=ZdW (hb b0 (by simp)) (hb b1 (by simp)) (hb b2 (by simp)) (hb b3 (by simp))
    have hu:Zpn [numOf [a0,a1,a2,a3],numOf [b0,b1,b2,b3]]:=fun v hv=>by
     simp only[List.mem_cons,List.not_mem_nil,or_false]at hv
     rcases hv with rfl|rfl
     · exact A.1
     · exact B.1
    refine⟨t,numOf [a0,a1,a2,a3],numOf [b0,b1,b2,b3],?_,rfl,hu,rfl⟩
    unfold Zi ZdI
    rw[List.take_of_length_le (by simp),Zcp hu,show Zj 4 [numOf [a0,a1,a2,a3],numOf [b0,b1,b2,b3]]=ZaS (numOf [a0,a1,a2,a3]) 4++(ZaS (numOf [b0,b1,b2,b3]) 4++[])from rfl,A.2,B.2]
    rfl
 · cases h1
theorem year_of{S:VS}(h:S.Ok){y:Int}{q:Txt×List Int}(hq:q∈S.scan (tx (Zi 78 [y]))){x:Nd}(hx:ndK (Zaq q)=some x):x.y=Zn y∧0≤x.y∧x.y<4294967296∧0≤x.i∧x.i<4294967296∧q.1=nKy x.y x.i:=by
 have hp:=((Zph h).1 hq).2
 unfold ndK numsR at hx
 split at hx
 · rename_i hs
   obtain⟨t,a,i,hk,hn,hu,ht⟩:=key_of2 (ZhV q.1) hs.1.1 hs.1.2.2
   have hx:=Option.some.inj (show some (ZqR _)=some x from hx)
   subst hx
   · have hn':(splitK (Zaq q).1).1 = [a,i]:=hn
     simp only[ZqR,hn']
     have hkey:q.1=tx (Zi t [a,i]):=by rw[←hk,ZfJ]
     rw[hkey,List.isPrefixOf_iff_prefix]at hp
     obtain⟨r,hr⟩:=hp
     have tb:0≤t∧t<256:=ZhV q.1 t (List.mem_of_getElem? ht)
     have e5:(Zi t [a,i]).take 5=Zi 78 [y]:=by
      have h1:(tx (Zi t [a,i])).take 5=tx (Zi 78 [y]):=by
       rw[←hr,List.take_append_of_le_length (by rw[ZZ,nYearLen];omega),List.take_of_length_le (by rw[ZZ,nYearLen];omega)]
      rw[Zqt]at h1
      exact Zlv (fun z hz=>Zk tb _ z (List.mem_of_mem_take hz)) (Zk (by omega) _) h1
     have ha:=hu a (by simp)
     have hi:=hu i (by simp)
     have e6:t::((ZaS (Zn a) 4++(ZaS (Zn i) 4++[])).take 4)=78::(ZaS (Zn y) 4++[]):=e5
     rw[List.take_append_of_le_length (by rw[Zaj];omega),List.take_of_length_le (by rw[Zaj];omega),List.append_nil]at e6
     injection e6 with e7 e8
     have e9:a=Zn y:=by
      have h1:=congrArg numOf e8
      have haa:Zn a=a:=by unfold Zn;omega
      rw[haa,ZqH ha,ZqH (ZcK y)]at h1
      exact h1
     subst e7
     exact⟨e9,ha.1,ha.2,hi.1,hi.2,hkey⟩
 · cases hx
end Go.Proofs.YtiknkbpojmgbhaaGreat
namespace Go.Proofs.YtiknkbpojmgbhaaGreat
open Go.RowKit Go.Maps
set_option maxRecDepth 100000
set_option linter.unusedVariables false
def rightL(x:Dl):Bool:=[x.o,x.l,x.c,openL x].all fun n=>!(decide (n<0)||decide (n>1152921504606846976))
theorem dcK_made{x:Dc}(h:ZmW x)(hi:ZaQ x.i=true):dcK (Zi 68 [x.i],ZpZ x)=some x:=by
 have a:=(Zaa _).1 hi
 unfold dcK ZpZ
 rw[ZgB (i:=1) (j:=4) (by intro v hv;simp only[List.mem_cons,List.not_mem_nil,or_false]at hv;rw[hv];exact a) (by
  intro v hv
  simp only[List.mem_cons,List.not_mem_nil,or_false]at hv
  rcases hv with rfl|rfl|rfl|rfl
  · exact h _ (by simp)
  · exact h _ (by simp)
  · exact h _ (by simp)
  · exact h _ (by simp)) rfl (by omega) rfl (by omega)]
 rfl
theorem putLs_ok(i:Int):∀(l:List Dl) {S:VS} (j:Nat),S.Ok→(putLs S i j l).Ok
 | [],S,j,h=>h
 | x::r,S,j,h=>by unfold putLs;exact putLs_ok i r (j+1) (h.put _ _)
theorem putLs_other(i:Int){z:Txt}(hz:∀j,z≠lKy i j):∀(l:List Dl) {S:VS} (j:Nat),S.Ok→(putLs S i j l).now z=S.now z
 | [],S,j,h=>rfl
 | x::r,S,j,h=>by
  show(putLs (S.put (lKy i j) (Zg1 x)) i (j+1) r).now z=S.now z
  rw[putLs_other i hz r (j+1) (h.put _ _),h.now_put,if_neg (fun e=>hz _ e.symm)]
theorem putLs_line(i:Int):∀(l:List Dl) {S:VS} (j:Nat),S.Ok→j+l.length≤100→∀k:Nat,k<100→(putLs S i j l).now (lKy i k)=if j≤k∧k<j+l.length then(l[k-j]?).map Zg1 else S.now (lKy i k)
 | [],S,j,h,hj,k,hk=>by
  rw[if_neg (by rintro⟨a,b⟩;rw[List.length_nil]at b;omega)]
  rfl
 | x::r,S,j,h,hj,k,hk=>by
  rw[List.length_cons]at hj ⊢
  show(putLs (S.put (lKy i j) (Zg1 x)) i (j+1) r).now (lKy i k)=_
  rw[putLs_line i r (j+1) (h.put _ _) (by omega) k hk]
  by_cases hkj:k=j
  · subst hkj
    rw[if_neg (by omega),if_pos (by omega)]
    rw[h.now_put,if_pos rfl,Nat.sub_self]
    rfl
  · have hne:¬lKy i (j:Int)=lKy i (k:Int):=fun e=>hkj (by
     have:=ZmY ((Zaa _).2 (by omega)) ((Zaa _).2 (by omega)) e
     omega)
    by_cases hin:j+1≤k∧k<j+1+r.length
    · rw[if_pos hin,if_pos (by omega),show k-j=(k-(j+1))+1 by omega,List.getElem?_cons_succ]
    · rw[if_neg hin,h.now_put,if_neg hne,if_neg (by omega)]
theorem linesAt_put{S:VS}(h:S.Ok){i:Int}(hi:ZaQ i=true){l:List Dl}(hl:∀x∈l,ZaE x)(h100:l.length≤100){d:Dc}:∀n,n≤l.length→ZM ((putLs S i 0 l).putD d) i n=some (l.take n)
 | 0,_=>rfl
 | n+1,hn=>by
  unfold ZM
  rw[linesAt_put h hi hl h100 n (by omega)]
  have hx:l[n]?=some l[n]:=List.getElem?_eq_getElem (by omega)
  have hnow:((putLs S i 0 l).putD d).now (lKy i n)=some (Zg1 l[n]):=by
   unfold VS.putD
   rw[(putLs_ok i l 0 h).now_put,if_neg (Zia (by omega) (by omega) (by omega) _ _),putLs_line i l 0 h (by omega) n (by omega),if_pos (by omega),Nat.sub_zero,hx]
   rfl
  have hline:lineAt ((putLs S i 0 l).putD d) i n=some l[n]:=by
   unfold lineAt
   rw[hnow,Option.getD_some]
   exact ZoI (hl _ (List.getElem_mem _)) hi ((Zaa _).2 (by omega))
  simp only[hline]
  rw[List.take_succ_eq_append_getElem (by omega)]
theorem putDoc_ok{S:VS}{d:Dc}{l:List Dl}(h1:¬(l.length<1∨l.length>6)){k:Int}(hk:seqV (S.now (tx (Zi 83 [2])))=k)(h0:(nextE k).2=0):putDoc S d l=((k+1,0),(putLs (S.next 2) (k+1) 0 l).putD ⟨k+1,d.k,d.y,d.f,l.length⟩):=by
 subst hk
 unfold putDoc
 rw[if_neg h1,if_pos h0]
def okNum(n:Int):Bool:=!(decide (n<0)||decide (n>1152921504606846976))
theorem rightL_is(x:Dl):rightL x=([x.o,x.l,x.c,openL x].all okNum):=rfl
theorem idx4_0(a b c d:Int)(W:World):(Instr.index 106 (.agg #[.int .i64 a,.int .i64 b,.int .i64 c,.int .i64 d]) (.int .i64 0)).run Tryz.prog W=.ok (.int .i64 a) W:=by kernel_rfl
theorem idx4_1(a b c d:Int)(W:World):(Instr.index 106 (.agg #[.int .i64 a,.int .i64 b,.int .i64 c,.int .i64 d]) (.int .i64 1)).run Tryz.prog W=.ok (.int .i64 b) W:=by kernel_rfl
theorem idx4_2(a b c d:Int)(W:World):(Instr.index 106 (.agg #[.int .i64 a,.int .i64 b,.int .i64 c,.int .i64 d]) (.int .i64 2)).run Tryz.prog W=.ok (.int .i64 c) W:=by kernel_rfl
theorem idx4_3(a b c d:Int)(W:World):(Instr.index 106 (.agg #[.int .i64 a,.int .i64 b,.int .i64 c,.int .i64 d]) (.int .i64 3)).run Tryz.prog W=.ok (.int .i64 d) W:=by kernel_rfl
set_option maxHeartbeats 3200000 in
theorem docsRight_any(x:Dl)(w:World):Calls Tryz.prog 17 #[.agg #[.int .i64 x.nd,.int .i64 x.o,.int .i64 x.l,.int .i64 x.c]] w fun e w'=>e=.returned (.bool (rightL x))∧Below w.heap.size w w':=by
 have HO:=Lib.hid (fun W=>ZoJ x W)
 rw[rightL_is]
 obtain⟨nd,a0,a1,a2⟩:=x
 simp only at HO ⊢
 generalize openL ⟨nd,a0,a1,a2⟩=z at HO ⊢
 obtain⟨R,hR⟩:∃R,R = [a0,a1,a2,z].all okNum:=⟨_,rfl⟩
 rw[←hR]
 have HRR:=Lib.hid hR
 clear hR
 obtain⟨w1,hw1⟩:∃w1,w1=w.alloc (.cells #[.int .i64 nd,.int .i64 a0,.int .i64 a1,.int .i64 a2] 50):=⟨_,rfl⟩
 have hb1:Below w.heap.size w w1:=by rw[hw1];exact(Below.refl _ _).alloc (Nat.le_refl _) _
 have hs1:w1.heap.size=w.heap.size+1:=by rw[hw1];simp
 have hblk:w1.heap[w.heap.size]?=some (.cells #[.int .i64 nd,.int .i64 a0,.int .i64 a1,.int .i64 a2] 50 (0,0)):=by rw[hw1];exact heap_alloc_new w _
 have H1:=Lib.hid (show ∀W,Below w1.heap.size w1 W→W.cell? ⟨w.heap.size,0,none⟩=some (.int .i64 nd)∧W.cell? ⟨w.heap.size,1,none⟩=some (.int .i64 a0)∧W.cell? ⟨w.heap.size,2,none⟩=some (.int .i64 a1)∧W.cell? ⟨w.heap.size,3,none⟩=some (.int .i64 a2)from fun W hW=>Zu ((hW.block _ (by omega)).trans hblk))
 have HB:=Lib.hid hb1
 clear hs1 hblk hb1
 go_enter Tryz.func17,Tryz.ntmps17
 go_wp2_with fail
 rw[←hw1]
 clear hw1
 have c5:=H1.out _ ((Below.refl w1.heap.size w1).drew)
 go_region_held3 (fun W=>W.cell? ⟨w.heap.size,0,none⟩=some (.int .i64 nd)∧W.cell? ⟨w.heap.size,1,none⟩=some (.int .i64 a0)∧W.cell? ⟨w.heap.size,2,none⟩=some (.int .i64 a1)∧W.cell? ⟨w.heap.size,3,none⟩=some (.int .i64 a2))
  (first|with_reducible exact c5|exact c5)
  (first|(go_at_call 54;refine Calls.mono (HO.out _) ?_;rintro e wk ⟨rfl,hbk⟩;have hbk:=((Below.refl w1.heap.size w1).drew).trans hbk;have c5:=H1.out _ hbk))
 have HE:=Lib.hid (HB.out.trans (hbk.mono HB.out.size))
 clear c5 hbk H1 HB HO
 go_wp2_with fail
 go_loop[14] (fun iv=>∃k:Nat,k≤4∧iv=.int .i64 k∧Hid (∀y∈[a0,a1,a2,z].take k,okNum y=true)) (fun iv=>4-(intOf iv).toNat)
 case atStart=>exact⟨0,Nat.zero_le _,rfl,Lib.hid (fun y h=>by cases h)⟩
 case round=>
  obtain⟨k,hk,rfl,hbef⟩:=hrel
  by_cases hlt:k<4
  · have hst:∀y,[a0,a1,a2,z][k]?=some y→okNum y=true→∀u∈[a0,a1,a2,z].take (k+1),okNum u=true:=fun y hy ho u hu=>by
     obtain⟨hl,rfl⟩:=List.getElem?_eq_some_iff.1 hy
     rw[List.take_succ_eq_append_getElem hl]at hu
     rcases List.mem_append.1 hu with hu|hu
     · exact hbef.out u hu
     · obtain rfl:=List.mem_singleton.1 hu
       exact ho
    have hno:∀y,[a0,a1,a2,z][k]?=some y→okNum y=false→[a0,a1,a2,z].all okNum=false:=fun y hy ho=>by
     rw[List.all_eq_false]
     exact⟨y,List.mem_of_getElem? hy,by rw[ho];decide⟩
    have HST:=Lib.hid hst
    have HNO:=Lib.hid hno
    clear hst hno hbef
    obtain rfl|rfl|rfl|rfl:k=0∨k=1∨k=2∨k=3:=by omega
    · rw[show((0:Nat):Int)=0 from rfl]
      have hix:=idx4_0 a0 a1 a2 z wk
      by_cases g1:a0<0
      · have k1:decide (a0<0)=true:=decide_eq_true g1
        have HF:=Lib.hid (HNO.out a0 rfl (by unfold okNum;rw[k1];rfl))
        clear g1 HNO HST
        go_wp2
        go_ret
        exact⟨congrArg (fun b=>Ending.returned (Value.bool b)) (HF.out.symm.trans HRR.out.symm),HE.out⟩
      · have k1:decide (a0<0)=false:=decide_eq_false g1
        by_cases g2:a0>1152921504606846976
        · have k2:decide (a0>1152921504606846976)=true:=decide_eq_true g2
          have HF:=Lib.hid (HNO.out a0 rfl (by unfold okNum;rw[k1,k2];rfl))
          clear g1 g2 HNO HST
          go_wp2
          go_ret
          exact⟨congrArg (fun b=>Ending.returned (Value.bool b)) (HF.out.symm.trans HRR.out.symm),HE.out⟩
        · have k2:decide (a0>1152921504606846976)=false:=decide_eq_false g2
          have HF:=Lib.hid (HST.out a0 rfl (by unfold okNum;rw[k1,k2];rfl))
          clear g1 g2 HNO HST
          go_wp2
          go_round
          case rel=>exact⟨1,by omega,by go_num,HF⟩
          case measure=>simp[intOf]
    · rw[show((1:Nat):Int)=1 from rfl]
      have hix:=idx4_1 a0 a1 a2 z wk
      by_cases g1:a1<0
      · have k1:decide (a1<0)=true:=decide_eq_true g1
        have HF:=Lib.hid (HNO.out a1 rfl (by unfold okNum;rw[k1];rfl))
        clear g1 HNO HST
        go_wp2
        go_ret
        exact⟨congrArg (fun b=>Ending.returned (Value.bool b)) (HF.out.symm.trans HRR.out.symm),HE.out⟩
      · have k1:decide (a1<0)=false:=decide_eq_false g1
        by_cases g2:a1>1152921504606846976
        · have k2:decide (a1>1152921504606846976)=true:=decide_eq_true g2
          have HF:=Lib.hid (HNO.out a1 rfl (by unfold okNum;rw[k1,k2];rfl))
          clear g1 g2 HNO HST
          go_wp2
          go_ret
          exact⟨congrArg (fun b=>Ending.returned (Value.bool b)) (HF.out.symm.trans HRR.out.symm),HE.out⟩
        · have k2:decide (a1>1152921504606846976)=false:=decide_eq_false g2
          have HF:=Lib.hid (HST.out a1 rfl (by unfold okNum;rw[k1,k2];rfl))
          clear g1 g2 HNO HST
          go_wp2
          go_round
          case rel=>exact⟨2,by omega,by go_num,HF⟩
          case measure=>simp[intOf]
    · rw[show((2:Nat):Int)=2 from rfl]
      have hix:=idx4_2 a0 a1 a2 z wk
      by_cases g1:a2<0
      · have k1:decide (a2<0)=true:=decide_eq_true g1
        have HF:=Lib.hid (HNO.out a2 rfl (by unfold okNum;rw[k1];rfl))
        clear g1 HNO HST
        go_wp2
        go_ret
        exact⟨congrArg (fun b=>Ending.returned (Value.bool b)) (HF.out.symm.trans HRR.out.symm),HE.out⟩
      · have k1:decide (a2<0)=false:=decide_eq_false g1
        by_cases g2:a2>1152921504606846976
        · have k2:decide (a2>1152921504606846976)=true:=decide_eq_true g2
          have HF:=Lib.hid (HNO.out a2 rfl (by unfold okNum;rw[k1,k2];rfl))
          clear g1 g2 HNO HST
          go_wp2
          go_ret
          exact⟨congrArg (fun b=>Ending.returned (Value.bool b)) (HF.out.symm.trans HRR.out.symm),HE.out⟩
        · have k2:decide (a2>1152921504606846976)=false:=decide_eq_false g2
          have HF:=Lib.hid (HST.out a2 rfl (by unfold okNum;rw[k1,k2];rfl))
          clear g1 g2 HNO HST
          go_wp2
          go_round
          case rel=>exact⟨3,by omega,by go_num,HF⟩
          case measure=>simp[intOf]
    · rw[show((3:Nat):Int)=3 from rfl]
      have hix:=idx4_3 a0 a1 a2 z wk
      by_cases g1:z<0
      · have k1:decide (z<0)=true:=decide_eq_true g1
        have HF:=Lib.hid (HNO.out z rfl (by unfold okNum;rw[k1];rfl))
        clear g1 HNO HST
        go_wp2
        go_ret
        exact⟨congrArg (fun b=>Ending.returned (Value.bool b)) (HF.out.symm.trans HRR.out.symm),HE.out⟩
      · have k1:decide (z<0)=false:=decide_eq_false g1
        by_cases g2:z>1152921504606846976
        · have k2:decide (z>1152921504606846976)=true:=decide_eq_true g2
          have HF:=Lib.hid (HNO.out z rfl (by unfold okNum;rw[k1,k2];rfl))
          clear g1 g2 HNO HST
          go_wp2
          go_ret
          exact⟨congrArg (fun b=>Ending.returned (Value.bool b)) (HF.out.symm.trans HRR.out.symm),HE.out⟩
        · have k2:decide (z>1152921504606846976)=false:=decide_eq_false g2
          have HF:=Lib.hid (HST.out z rfl (by unfold okNum;rw[k1,k2];rfl))
          clear g1 g2 HNO HST
          go_wp2
          go_round
          case rel=>exact⟨4,by omega,by go_num,HF⟩
          case measure=>simp[intOf]
  · obtain rfl:k=4:=by omega
    have HALL:=Lib.hid (show [a0,a1,a2,z].all okNum=true from List.all_eq_true.2 fun y hy=>hbef.out y hy)
    clear hbef
    go_wp2
    go_ret
    exact⟨congrArg (fun b=>Ending.returned (Value.bool b)) (HALL.out.symm.trans HRR.out.symm),HE.out⟩
end Go.Proofs.YtiknkbpojmgbhaaGreat
namespace Go.Proofs.YtiknkbpojmgbhaaGreat
open Go.RowKit Go.Maps
set_option maxRecDepth 100000
set_option linter.unusedVariables false
theorem nodesK_len(ps:List KV):(nodesK ps).length≤ps.length:=List.length_filterMap_le _ _
theorem nodesK_step{ps:List KV}{k:Nat}{x:KV}(h:ps[k]?=some x):nodesK (ps.take (k+1))=nodesK (ps.take k)++(ndK x).toList:=by
 obtain⟨hk,rfl⟩:=List.getElem?_eq_some_iff.1 h
 unfold nodesK
 rw[List.take_succ_eq_append_getElem hk,List.filterMap_append]
 congr 1
def PairsN(ps:List KV):Prop:=∀x∈ps,Zm x.1∧Zm x.2
theorem nodesK_ok{ps:List KV}(h:PairsN ps):∀l∈nodesK ps,ZbR l:=by
 intro l hl
 obtain⟨q,hq,e⟩:=List.mem_filterMap.1 hl
 exact Zod (h q hq).1 (h q hq).2 e
def ScansN(w:World)(v:Nat)(y:Int)(ps:List KV):Prop:=
 ∀W A k,Below w.heap.size w W→RB W W.heap.size A 5 (Zi 78 [y])→Calls Tryz.prog 84 #[.pointer (some ⟨v,0,none⟩),.slice A 5 k] W fun e w'=>∃A' n' k',e=.returned (.slice A' n' k')∧n'≤k'∧Zat w' w'.heap.size A' n' ps∧Below W.heap.size W w'
section
variable{w w':World}{v:Nat}
set_option maxHeartbeats 6400000 in
theorem treeNodes_of{ps:List KV}{y:Int}(hy:ZS y)(hs:ScansN w v y ps)(hl:ps.length≤2147483647) :
 Calls Tryz.prog 48 #[.agg #[.pointer (some ⟨v,0,none⟩),.int .i64 y]] w fun e w'=>∃u,e=.returned u∧ZbM w w' u (if Zbn y then nodesK ps else []):=by
 obtain⟨w1,hw1⟩:∃w1,w1=w.alloc (.cells #[.pointer (some ⟨v,0,none⟩),.int .i64 y] 89):=⟨_,rfl⟩
 have hb1:Below w.heap.size w w1:=by rw[hw1];exact(Below.refl _ _).alloc (Nat.le_refl _) _
 have hs1:w1.heap.size=w.heap.size+1:=by rw[hw1];simp
 have c0:w1.cell? ⟨w.heap.size,0,none⟩=some (.pointer (some ⟨v,0,none⟩)):=by rw[hw1];exact cell_of_row _ _ 0 _ _ (0,0) (heap_alloc_new w _)
 have c1:w1.cell? ⟨w.heap.size,1,none⟩=some (.int .i64 y):=by rw[hw1];exact cell_of_row _ _ 1 _ _ (0,0) (heap_alloc_new w _)
 have H1:=Zjm y
 have HB:=Lib.hid hb1
 cases e1:Zbn y with
 | false=>
  rw[e1]at H1
  clear hb1 hs
  go_enter Tryz.func48,Tryz.ntmps48
  go_wp2_with fail
  rw[←hw1]
  clear hw1
  refine(H1 _).mono ?_
  rintro e w'⟨rfl,rfl⟩
  go_wp2_with fail
  go_ret
  exact⟨_,rfl,Enc.Own.start _ _ _,(fun x h=>by cases h),HB.out⟩
 | true=>
  rw[e1]at H1
  have HC:=Lib.hid (show ∀W,Below w1.heap.size w1 W→W.cell? ⟨w.heap.size,0,none⟩=some (.pointer (some ⟨v,0,none⟩))∧W.cell? ⟨w.heap.size,1,none⟩=some (.int .i64 y)from fun W hW=>
   ⟨(hW.cell (p:=⟨w.heap.size,0,none⟩) (by show w.heap.size<w1.heap.size;omega)).trans c0,(hW.cell (p:=⟨w.heap.size,1,none⟩) (by show w.heap.size<w1.heap.size;omega)).trans c1⟩)
  have HK:=Lib.hid (Zep 78 [y] 1 5 ZeC (fun z hz=>by obtain rfl:=List.mem_singleton.1 hz;exact hy) rfl (by omega) rfl)
  have HS:=Lib.hid (show ∀W A k,Below w1.heap.size w1 W→RB W W.heap.size A 5 (Zi 78 [y])→Calls Tryz.prog 84 #[.pointer (some ⟨v,0,none⟩),.slice A 5 k] W fun e w'=>∃A' n' k',e=.returned (.slice A' n' k')∧n'≤k'∧Zat w' w'.heap.size A' n' ps∧Below W.heap.size W w' from fun W A k hW hr=>hs W A k (hb1.trans (hW.mono hb1.size)) hr)
  have HL:=Lib.hid hl
  clear hb1 hs e1 hy hs1 hl
  go_enter Tryz.func48,Tryz.ntmps48
  go_wp2_with fail
  rw[←hw1]
  clear hw1
  refine(H1 _).mono ?_
  rintro e w'⟨rfl,rfl⟩
  clear H1 c0 c1
  go_wp2_with fail
  go_region_held3 (fun W=>W.cell? ⟨w.heap.size,0,none⟩=some (.pointer (some ⟨v,0,none⟩))∧W.cell? ⟨w.heap.size,1,none⟩=some (.int .i64 y))
   (first|exact HC.out _ ((Below.refl _ _).drew)|exact HC.out _ (((Below.refl _ _).alloc (Nat.le_refl _) _).drew)|exact HC.out _ ((Below.refl _ _).drew.alloc (Nat.le_refl _) _)|exact HC.out _ hb2|exact HC.out _ hb3)
   (first
   | (go_at_call 104;refine Calls.mono (HK.out _ _ ?_) ?_;(first|exact ZR.a (l:=[y]) _ _|exact ZR.a' (l:=[y]) _ _|exact ZR.b (l:=[y]) _ _ _|exact ZR.c (l:=[y]) _ _ _|exact ZR.d (l:=[y]) _ _ _);rintro e w2 ⟨A,k,rfl,ko⟩;have ko1:=(by first|exact ko.of_le (w0:=w1) ((Below.refl _ _).alloc (Nat.le_refl _) _).drew|exact ko.of_le (w0:=w1) ((Below.refl _ _).drew.alloc (Nat.le_refl _) _):ZaG w1 w2 (.slice A 5 k) _);have hb2:=ko1.2;have hrk:=ko1.read (Zk ZeC _);rw[nYearLen]at hrk;obtain⟨A9,k9,e9,hk9,hr9⟩:=hrk;injection e9 with q1 q2 q3;subst q1 q3;clear q2;have HCS:=Lib.hid (HS.out w2 A k hb2 hr9);clear ko ko1 hr9)
   | (go_at_call 84;refine Calls.mono HCS.out ?_;rintro e w3 ⟨A2,n,k2,rfl,hnk,hp,hb3'⟩;have hb3:=hb2.trans (hb3'.mono hb2.size)))
  have HP:=Lib.hid hp
  have HB2:=Lib.hid (HB.out.trans (hb3.mono HB.out.size))
  have hn:n≤2147483647:=by rw[←hp.len];exact HL.out
  clear hp hb2 hb3 hb3' HC HK HS HL HCS hk9
  go_wp2_with fail
  go_loopw[3,20] (fun u i wr=>∃k:Nat,k≤n∧i=.int .i64 k∧Hid (NdE.Own 40 wr w3.heap.size u (nodesK (ps.take k))∧PairsN (ps.take k))∧Hid (Below w3.heap.size w3 wr)) (fun _ i _=>n-(intOf i).toNat)
  case atStart=>exact⟨0,Nat.zero_le _,rfl,Lib.hid ⟨Enc.Own.start _ _ _,fun x hx=>by cases hx⟩,Lib.hid (Below.refl _ _)⟩
  case round=>
   obtain⟨k,hk,rfl,hown,hbw⟩:=hrel
   by_cases hlt:k<n
   · have hlt':(k:Int)<(n:Int):=by omega
     obtain⟨bb,off,rfl,hbb,hat⟩:=HP.out.2 (by omega)
     obtain⟨x,hx⟩:∃x,ps[k]?=some x:=⟨_,List.getElem?_eq_getElem (by rw[HP.out.len];exact hlt)⟩
     obtain⟨ka,kn,kc,va,vn,vc,h0,h1,h2,⟨h3a,h3b⟩,h4,⟨h5a,h5b⟩⟩:=(hat k x hx).keep hbb (fun b o hbb=>hbw.out.cell (p:=⟨b,o,none⟩) hbb)
     have hst:=nodesK_step hx
     have hlen:(nodesK (ps.take k)).length≤k:=Nat.le_trans (nodesK_len _) (by rw[List.length_take];exact Nat.min_le_left _ _)
     have hPB:=Lib.hid (show PairsN (ps.take (k+1))from by
      obtain⟨hk',e⟩:=List.getElem?_eq_some_iff.1 hx
      rw[List.take_succ_eq_append_getElem hk',e]
      intro z hz
      rcases List.mem_append.1 hz with hz|hz
      · exact hown.out.2 z hz
      · obtain rfl:=List.mem_singleton.1 hz
        exact⟨h2.bytes,h4.bytes⟩)
     have hxok:=Lib.hid (show ∀l,ndK x=some l→ZbR l from fun l h=>Zod h2.bytes h4.bytes h)
     obtain⟨w4,hw4⟩:∃w4,w4=wr.alloc (.cells #[.slice ka kn kc,.slice va vn vc] 101):=⟨_,rfl⟩
     have hba:Below wr.heap.size wr w4:=by rw[hw4];exact(Below.refl _ _).alloc (Nat.le_refl _) _
     have q0:w4.cell? ⟨wr.heap.size,0,none⟩=some (.slice ka kn kc):=by rw[hw4];exact cell_of_row _ _ 0 _ _ (0,0) (heap_alloc_new wr _)
     have q1:w4.cell? ⟨wr.heap.size,1,none⟩=some (.slice va vn vc):=by rw[hw4];exact cell_of_row _ _ 1 _ _ (0,0) (heap_alloc_new wr _)
     have HG:=ZhD ka kn kc va vn vc x w3.heap.size w4 (h2.below (hba.mono hbw.out.size)) (h4.below (hba.mono hbw.out.size)) (Nat.le_trans hbw.out.size hba.size) h3a h5a h3b h5b
     rw[Zd0,ZcT]at HG
     have HG:=Lib.hid HG
     have HA:=Lib.hid (hbw.out.trans (hba.mono hbw.out.size))
     have HO:=Lib.hid (hown.out.1.below hba)
     generalize ndK x=L at HG hst hxok
     have HST:=Lib.hid hst
     clear hat hx h2 h4 hown hbw hba hst
     go_wp2_with fail
     rw[←hw4]
     go_wp2_with fail
     refine HG.out.mono ?_
     rintro e w5⟨rfl,hb5⟩
     have ha5:=HA.out.trans (hb5.mono HA.out.size)
     have ho5:=HO.out.below hb5
     clear HA HO HG hb5 hw4 q0 q1 h3a h3b h5a h5b h0 h1
     cases L with
     | none=>
      have hX:Below w5.heap.size w5 (w5.alloc (.cells #[.int .i64 0,.int .i64 0,.int .i64 0,.int .i64 0,.int .i64 0,.bool false,.int .i64 0,.int .i64 0,.int .i64 0,.int .i64 0,.int .i64 0,.int .i64 0] 40 (0,0))):=(Below.refl _ _).alloc (Nat.le_refl _) _
      have HE:=Lib.hid (show NdE.Own 40 (w5.alloc (.cells #[.int .i64 0,.int .i64 0,.int .i64 0,.int .i64 0,.int .i64 0,.bool false,.int .i64 0,.int .i64 0,.int .i64 0,.int .i64 0,.int .i64 0,.int .i64 0] 40 (0,0))) w3.heap.size _ (nodesK (ps.take (k+1)))∧PairsN (ps.take (k+1))from⟨by rw[HST.out];show NdE.Own _ _ _ _ (_++[]);rw[List.append_nil];exact ho5.below hX,hPB.out⟩)
      have HBX:=Lib.hid (ha5.trans (hX.mono ha5.size))
      clear hX ha5 ho5
      simp only[ndW,ndO,Option.getD_none,Zd1]
      go_wp2_with fail
      go_roundw
      case rel=>exact⟨k+1,by omega,by go_num,HE,HBX⟩
      case measure=>simp[intOf];omega
     | some l=>
      have hok:=hxok.out l rfl
      obtain⟨a0,a1,a2,a3,a4,a5,a6,a7,a8,a9,a10,a11⟩:=l
      have hX:Below w5.heap.size w5 (w5.alloc (.cells #[.int .i64 a0,.int .i64 a1,.int .i64 a2,.int .i64 a3,.int .i64 a4,.bool a5,.int .i64 a6,.int .i64 a7,.int .i64 a8,.int .i64 a9,.int .i64 a10,.int .i64 a11] 40 (0,0))):=(Below.refl _ _).alloc (Nat.le_refl _) _
      obtain⟨wx,hwx⟩:∃wx,wx=w5.alloc (.cells #[.int .i64 a0,.int .i64 a1,.int .i64 a2,.int .i64 a3,.int .i64 a4,.bool a5,.int .i64 a6,.int .i64 a7,.int .i64 a8,.int .i64 a9,.int .i64 a10,.int .i64 a11] 40 (0,0)):=⟨_,rfl⟩
      have hblk:wx.heap[w5.heap.size]?=some (.cells #[.int .i64 a0,.int .i64 a1,.int .i64 a2,.int .i64 a3,.int .i64 a4,.bool a5,.int .i64 a6,.int .i64 a7,.int .i64 a8,.int .i64 a9,.int .i64 a10,.int .i64 a11] 40 (0,0)):=by rw[hwx];exact heap_alloc_new w5 _
      have hsz:wx.heap.size=w5.heap.size+1:=by rw[hwx];simp
      rw[←hwx]at hX
      obtain⟨r0,r1,r2,r3,r4,r5,r6,r7,r8,r9,r10,r11⟩:=Zq hblk
      have hY:Below wx.heap.size wx (wx.alloc (.cells #[.int .i64 a0,.int .i64 a1,.int .i64 a2,.int .i64 a3,.int .i64 a4,.bool a5,.int .i64 a6,.int .i64 a7,.int .i64 a8,.int .i64 a9,.int .i64 a10,.int .i64 a11] 40 (0,0))):=(Below.refl _ _).alloc (Nat.le_refl _) _
      have hXY:=hX.trans (hY.mono hX.size)
      obtain⟨v',w6,hrun,hown6,hb6,_⟩:=(ho5.below hXY).append1 NdT (x:=⟨a0,a1,a2,a3,a4,a5,a6,a7,a8,a9,a10,a11⟩) (heap_alloc_new wx _) rfl hok (by omega) (Nat.le_trans ha5.size hXY.size) 22
      rw[hsz]at hrun
      have HE:=Lib.hid (show NdE.Own 40 w6 w3.heap.size v' (nodesK (ps.take (k+1)))∧PairsN (ps.take (k+1))from⟨by rw[HST.out];exact hown6,hPB.out⟩)
      have HBX:=Lib.hid ((ha5.trans (hXY.mono ha5.size)).trans hb6)
      subst hwx
      have HRUN:=Lib.hid hrun
      clear hX hY hXY ha5 ho5 hrun hown6 hb6 hblk hok hsz
      simp only[ndW,ndO,Option.getD_some]
      go_wp2_with (at_builtin;refine Lib.wpList_append_run _ rfl _ _ _ _ rfl _ _ rfl rfl _ _ HRUN.out ?_)
      go_roundw
      case rel=>exact⟨k+1,by omega,by go_num,HE,HBX⟩
      case measure=>simp[intOf];omega
   · obtain rfl:k=n:=by omega
     have HE:=Lib.hid (show ZbM w wr _ (nodesK ps)from by
      have h:=hown.out
      rw[List.take_of_length_le (by rw[HP.out.len];exact Nat.le_refl _)]at h
      exact⟨h.1.base_le HB2.out.size,nodesK_ok h.2,HB2.out.trans (hbw.out.mono HB2.out.size)⟩)
     clear hown
     go_wp2
     go_ret
     exact⟨_,rfl,HE.out⟩
set_option maxHeartbeats 800000 in
theorem treeAll_of{ps:List KV}{y:Int}(hy:ZS y)(hs:ScansN w v y ps)(hl:ps.length≤2147483647) :
 Calls Tryz.prog 11 #[.pointer (some ⟨v,0,none⟩),.int .i64 y] w fun e w'=>∃u,e=.returned u∧ZbM w w' u (if Zbn y then nodesK ps else []):=by
 have HL:=Lib.hid (treeNodes_of hy hs hl)
 generalize (if Zbn y then nodesK ps else [])=o at HL ⊢
 clear hs
 go_enter Tryz.func11,Tryz.ntmps11
 go_wp2_with fail
 refine HL.out.mono ?_
 rintro e w2⟨u,rfl,h2⟩
 have HE:=Lib.hid h2
 clear h2 HL
 go_wp2_with fail
 go_ret
 exact⟨_,rfl,HE.out⟩
end
end Go.Proofs.YtiknkbpojmgbhaaGreat
namespace Go.Proofs.YtiknkbpojmgbhaaGreat
open Go.RowKit Go.Maps
set_option maxRecDepth 100000
set_option linter.unusedVariables false
structure NodeIn(S:VS)(y:Int)(x:Nd):Prop where
 yr:x.y=y
 ok:ZbR x
 there:(nodeAt S y x.i).isSome=true
theorem nodeAt_now{S:VS}{y i:Int}(h:(nodeAt S y i).isSome=true):(S.now (nKy y i)).isSome=true:=by
 rw[Zd2]at h
 cases e:S.now (nKy y i)with
 | none=>rw[e]at h;cases h
 | some b=>rfl
theorem nodeAt_put{S:VS}(h:S.Ok){y:Int}{x:Nd}(hx:NodeIn S y x)(i:Int):nodeAt (S.putN x) y i=if x.i=i then some x else nodeAt S y i:=by
 obtain⟨n0,hn0⟩:=Option.isSome_iff_exists.1 hx.there
 obtain⟨_,_,hy,hi⟩:=Zjq hn0
 unfold nodeAt VS.putN
 rw[hx.yr,h.now_put]
 by_cases e:x.i=i
 · subst e
   rw[if_pos rfl,if_pos rfl,hy,hi,if_pos (show(true&&true)=true from rfl),Option.getD_some]
   have:=ZoC hx.ok (by rw[hx.yr];exact hy) hi
   unfold Zms at this
   rw[hx.yr]at this
   exact this
 · rw[if_neg e]
   by_cases hh:(Zbn y&&Zbn i)=true
   · rw[if_pos hh,if_pos hh]
     rw[Bool.and_eq_true]at hh
     rw[if_neg (fun q=>e (ZpX hi hh.2 q))]
   · rw[if_neg hh,if_neg hh]
def updNd(x n:Nd):Nd:=if n.i=x.i then x else n
theorem all_put{S:VS}(h:S.Ok){y:Int}{x:Nd}(hx:NodeIn S y x):allN (S.putN x) y=(allN S y).map (updNd x):=by
 obtain⟨n0,hn0⟩:=Option.isSome_iff_exists.1 hx.there
 obtain⟨_,_,hy,hi⟩:=Zjq hn0
 have hyb:=(ZaC _).1 hy
 have hib:=(ZaC _).1 hi
 unfold allN
 rw[if_pos hy,if_pos hy]
 unfold VS.putN
 rw[hx.yr,scan_put h _ (nodeAt_now hx.there),List.map_map]
 unfold nodesK
 have key:∀L:TL,(∀q∈L,q∈S.scan (tx (Zi 78 [y])))→(L.map (Zaq ∘ setV (nKy y x.i) (ZhO x))).filterMap ndK=((L.map Zaq).filterMap ndK).map (updNd x):=by
  intro L
  induction L with
  | nil=>intro _;rfl
  | cons q r ih=>
   intro hL
   have ih:=ih fun z hz=>hL z (List.mem_cons_of_mem _ hz)
   have hq:=hL q List.mem_cons_self
   rw[List.map_cons,List.map_cons,List.filterMap_cons,List.filterMap_cons,ih]
   simp only[Function.comp]
   by_cases e:q.1=nKy y x.i
   · have e1:ndK (Zaq (setV (nKy y x.i) (ZhO x) q))=some x:=by
      unfold setV
      rw[if_pos e]
      have:=ZoC hx.ok (by rw[hx.yr];exact hy) hi
      unfold Zms at this
      rw[hx.yr]at this
      show ndK (by_ q.1,ZhO x)=some x
      rw[e,ZpG (Z3 (by omega) _)]
      exact this
     have e2:∃n,ndK (Zaq q)=some n∧n.i=x.i:=by
      have hnow:=((Zph h).1 hq).1
      have h2:nodeAt S y x.i=ndK (Zaq q):=by
       unfold nodeAt
       rw[hy,hi,if_pos (show(true&&true)=true from rfl),←e,hnow,Option.getD_some]
       show ndK (Zi 78 [y,x.i],q.2)=ndK (by_ q.1,q.2)
       rw[e,ZpG (Z3 (by omega) _)]
      rw[h2]at hn0
      exact⟨n0,hn0,(Zjq (h2.trans hn0)).2.1⟩
     obtain⟨n,en,hni⟩:=e2
     rw[e1,en]
     simp only[List.map_cons]
     congr 1
     unfold updNd
     rw[if_pos hni]
   · have e1:setV (nKy y x.i) (ZhO x) q=q:=by unfold setV;rw[if_neg e]
     rw[e1]
     cases en:ndK (Zaq q)with
     | none=>rfl
     | some n=>
      simp only[List.map_cons]
      congr 1
      obtain⟨g1,g2,g3,g4,g5,g6⟩:=year_of h hq en
      unfold updNd
      rw[if_neg]
      intro e3
      refine e ?_
      rw[g6,e3,show n.y=y by unfold Zn at g1;omega]
 exact key _ fun q hq=>hq
theorem all_puts{y:Int}:∀(Q:List Nd) {S:VS},S.Ok→(∀x∈Q,NodeIn S y x)→(Q.foldl VS.putN S).Ok∧allN (Q.foldl VS.putN S) y=(allN S y).map fun n=>Q.foldl (fun n x=>updNd x n) n
 | [],S,h,_=>⟨h,by simp⟩
 | x::Q,S,h,hq=>by
  have hx:=hq x List.mem_cons_self
  rw[List.foldl_cons]
  obtain⟨h1,h2⟩:=all_puts Q (S:=S.putN x) (h.put _ _) fun z hz=>by
   have hz':=hq z (List.mem_cons_of_mem _ hz)
   refine⟨hz'.yr,hz'.ok,?_⟩
   rw[nodeAt_put h hx]
   split
   · rfl
   · exact hz'.there
  refine⟨h1,?_⟩
  rw[h2,all_put h hx,List.map_map]
  rfl
theorem upds_grow{p e q:Int}(n:Nd):∀(P:List Nd) (m:Nd),(∀x∈P,x.i=n.i→x=n)→(m=n∨m=growN n p e q)→(P.map fun x=>growN x p e q).foldl (fun n x=>updNd x n) m=m∨((P.map fun x=>growN x p e q).foldl (fun n x=>updNd x n) m=growN n p e q∧n∈P)
 | [],m,_,hm=>.inl rfl
 | x::P,m,hP,hm=>by
  rw[List.map_cons,List.foldl_cons]
  have hmi:m.i=n.i:=by rcases hm with rfl|rfl <;> rfl
  by_cases hx:x.i=n.i
  · have hxn:=hP x List.mem_cons_self hx
    subst hxn
    have h1:updNd (growN x p e q) m=growN x p e q:=by unfold updNd;rw[if_pos (show m.i=(growN x p e q).i from hmi)]
    rw[h1]
    rcases upds_grow x P (growN x p e q) (fun z hz=>hP z (List.mem_cons_of_mem _ hz)) (.inr rfl)with h2|h2
    · exact .inr ⟨h2,List.mem_cons_self⟩
    · exact .inr ⟨h2.1,List.mem_cons_self⟩
  · have h1:updNd (growN x p e q) m=m:=by
     unfold updNd
     rw[if_neg (fun z=>hx (z.symm.trans hmi))]
    rw[h1]
    rcases upds_grow n P m (fun z hz=>hP z (List.mem_cons_of_mem _ hz)) hm with h2|h2
    · exact .inl h2
    · exact .inr ⟨h2.1,List.mem_cons_of_mem _ h2.2⟩
theorem all_mem{S:VS}(h:S.Ok){y:Int}{n:Nd}(hn:n∈allN S y):nodeAt S y n.i=some n:=by
 unfold allN at hn
 split at hn
 · rename_i hy
   have hyb:=(ZaC _).1 hy
   obtain⟨x,hx,e⟩:=List.mem_filterMap.1 hn
   obtain⟨q,hq,rfl⟩:=List.mem_map.1 hx
   obtain⟨g1,g2,g3,g4,g5,g6⟩:=year_of h hq e
   have hny:n.y=y:=by unfold Zn at g1;omega
   have hnow:=((Zph h).1 hq).1
   unfold nodeAt
   rw[hy,(ZaC n.i).2 ⟨g4,g5⟩,if_pos (show(true&&true)=true from rfl),show nKy y n.i=q.1 by rw[g6,hny],hnow,Option.getD_some]
   have:Zi 78 [y,n.i]=by_ q.1:=by rw[g6,hny,ZpG (Z3 (by omega) _)]
   rw[this]
   exact e
 · cases hn
end Go.Proofs.YtiknkbpojmgbhaaGreat
namespace Go.Proofs.YtiknkbpojmgbhaaGreat
open Go.RowKit Go.Maps
set_option maxRecDepth 100000
set_option linter.unusedVariables false
theorem scansN{w:World}{X:Nat→Prop}{v m c:Nat}{S:VS}(h:Ze w X v m c S)(hS:ZnR S)(y:Int):ScansN w v y ((S.scan (tx (Zi 78 [y]))).map Zaq):=
 fun W A k hb hr=>ZjA (h.below hb) hS.wf hS.wk hS.cf hS.ck hr (Nat.le_refl _)
theorem scansM{w:World}{X:Nat→Prop}{v m c:Nat}{S:VS}(h:Ze w X v m c S){n:Nat}(hS:Zv S n)(hn:n≤32767)(y:Int)(hy:ZS y) :
 Calls Tryz.prog 11 #[.pointer (some ⟨v,0,none⟩),.int .i64 y] w fun e w'=>∃u,e=.returned u∧ZbM w w' u (allN S y):=
 treeAll_of hy (scansN h (hS.scanOk hn) y) (Nat.le_trans (hS.scan _) (by omega))
theorem many_all{S:VS}{n:Nat}(h:Zv S n)(y:Int):(allN S y).length≤n:=by
 unfold allN
 split
 · exact Nat.le_trans (nodesK_len _) (h.scan _)
 · exact Nat.zero_le _
end Go.Proofs.YtiknkbpojmgbhaaGreat
namespace Go.Proofs.YtiknkbpojmgbhaaGreat
open Go.RowKit Go.Maps
set_option maxRecDepth 100000
set_option linter.unusedVariables false
def preC(x:Ln):Chg:=⟨x.n,x.a,0,0⟩
def preNew(S:VS)(y:Int)(l:List Ln):(Int×Bool×Int)×VS:=
 if yChk S y=0 then(if preChk l=0 then ZI S y 1 0 (l.map preC) (l.map ZY)else((0,false,1),S))else((0,false,yChk S y),S)
theorem many_preNew{S:VS}{n:Nat}(h:Zv S n)(y:Int)(l:List Ln):Zv (preNew S y l).2 (n+56):=by
 unfold preNew
 split
 · split
   · rename_i hp
     have:=Zbp hp
     exact(ZcO h _ _ _ _ _).more (by rw[List.length_map];omega)
   · exact h.more (by omega)
 · exact h.more (by omega)
section
variable{S:VS}
theorem putNs_ok:∀(Q:List Nd) {S:VS},S.Ok→(Q.foldl VS.putN S).Ok
 | [],S,h=>h
 | x::Q,S,h=>putNs_ok Q (S:=S.putN x) (h.put _ _)
theorem putNs_other{z:Txt}(hz:∀y i,nKy y i≠z):∀(Q:List Nd) {S:VS},S.Ok→(Q.foldl VS.putN S).now z=S.now z
 | [],S,h=>rfl
 | x::Q,S,h=>by
  rw[List.foldl_cons,putNs_other hz Q (S:=S.putN x) (h.put _ _)]
  unfold VS.putN
  rw[h.now_put,if_neg (hz _ _)]
theorem nodeAt_puts_not{y i:Int}(hyb:Zbn y=true):∀{Q:List Nd} {S:VS},S.Ok→ZqL y Q→(∀x∈Q,x.i≠i)→nodeAt (Q.foldl VS.putN S) y i=nodeAt S y i
 | [],S,h,_,_=>rfl
 | x::Q,S,h,hQ,hn=>by
  obtain⟨a,b,c⟩:=hQ x List.mem_cons_self
  rw[List.foldl_cons,nodeAt_puts_not hyb (S:=S.putN x) (h.put _ _) (fun z hz=>hQ z (List.mem_cons_of_mem _ hz)) fun z hz=>hn z (List.mem_cons_of_mem _ hz),Zki h a b hyb c,if_neg (hn x List.mem_cons_self)]
theorem nodeAt_puts_one{y i:Int}(hyb:Zbn y=true){z:Nd}:∀{Q:List Nd} {S:VS},S.Ok→ZqL y Q→z∈Q→z.i=i→(∀x∈Q,x.i=i→x=z)→nodeAt (Q.foldl VS.putN S) y i=some z
 | x::Q,S,h,hQ,hz,hi,hu=>by
  obtain⟨a,b,c⟩:=hQ x List.mem_cons_self
  rw[List.foldl_cons]
  by_cases hin:∃u∈Q,u.i=i
  · obtain⟨u,hu1,hu2⟩:=hin
    have e:=hu u (List.mem_cons_of_mem _ hu1) hu2
    exact nodeAt_puts_one hyb (S:=S.putN x) (h.put _ _) (fun w hw=>hQ w (List.mem_cons_of_mem _ hw)) (e ▸ hu1) hi fun w hw=>hu w (List.mem_cons_of_mem _ hw)
  · rw[nodeAt_puts_not hyb (S:=S.putN x) (h.put _ _) (fun w hw=>hQ w (List.mem_cons_of_mem _ hw)) fun w hw e=>hin ⟨w,hw,e⟩,Zki h a b hyb c]
    rcases List.mem_cons.1 hz with rfl|hz
    · rw[if_pos hi]
    · exact absurd ⟨z,hz,hi⟩ hin
theorem next_ok_(h:S.Ok)(n:Int):(S.next n).Ok:=by
 unfold VS.next
 split
 · exact h
 · exact h.put _ _
theorem putDoc_okV(h:S.Ok)(d:Dc)(l:List Dl):(putDoc S d l).2.Ok:=by
 unfold putDoc
 split
 · exact h
 · split
   · exact(putLs_ok _ l 0 (next_ok_ h 2)).put _ _
   · exact h
theorem putDoc_node(h:S.Ok)(d:Dc)(l:List Dl)(y i:Int):(putDoc S d l).2.now (nKy y i)=S.now (nKy y i):=by
 unfold putDoc
 split
 · rfl
 · split
   · show((putLs (S.next 2) _ 0 l).put (tx (Zi 68 _)) _).now (nKy y i)=_
     rw[ZaX (putLs_ok _ l 0 (next_ok_ h 2)) (by omega) (by omega),putLs_other _ (fun j e=>Zlo (t:=76) (by omega) (by omega) _ _ _ e.symm) l 0 (next_ok_ h 2),ZnX h]
   · rfl
theorem path_in{S:VS}{y:Int}(hok:∀n,∀i,nodeAt S y i=some n→ZbR n){k:Nat}{i:Int}:∀x∈pathN S y k i,NodeIn S y x:=fun x hx=>by
 have h:=ZgY hx
 exact⟨(Zjq h).1,hok x _ h,by rw[h];rfl⟩
theorem charge_node(h:S.Ok){y:Int}(hyb:Zbn y=true)(hok:∀n,∀i,nodeAt S y i=some n→ZbR n){i p e q:Int}(k:Int) :
 (∀z∈pathN S y 8 i,z.i=k→nodeAt ((((pathN S y 8 i).map fun x=>growN x p e q)).foldl VS.putN S) y k=some (growN z p e q))∧((∀z∈pathN S y 8 i,z.i≠k)→nodeAt ((((pathN S y 8 i).map fun x=>growN x p e q)).foldl VS.putN S) y k=nodeAt S y k):=by
 have hin:=Zpk (Zmg hok (k:=8) (i:=i)) p e q
 refine⟨fun z hz hk=>?_,fun hn=>?_⟩
 · refine nodeAt_puts_one hyb h hin (List.mem_map.2 ⟨z,hz,rfl⟩) hk fun x hx hxk=>?_
   obtain⟨u,hu,rfl⟩:=List.mem_map.1 hx
   have h1:=ZgY hu
   have h2:=ZgY hz
   have:u.i=z.i:=(show u.i=k from hxk).trans hk.symm
   rw[this,h2]at h1
   cases h1
   rfl
 · refine nodeAt_puts_not hyb h hin fun x hx=>?_
   obtain⟨u,hu,rfl⟩:=List.mem_map.1 hx
   exact hn u hu
theorem path_grown{S T:VS}{y p e q:Int}:∀{k:Nat} {i:Int},(∀z∈pathN S y k i,nodeAt T y z.i=some (growN z p e q))→(∀j,nodeAt S y j=none→nodeAt T y j=none)→pathN T y k i=(pathN S y k i).map fun x=>growN x p e q
 | 0,i,_,_=>rfl
 | k+1,i,h1,h2=>by
  unfold pathN at h1 ⊢
  cases hn:nodeAt S y i with
  | none=>rw[h2 i hn];rfl
  | some n=>
   have hi:=(Zjq hn).2.1
   rw[hn]at h1
   simp only[]at h1 ⊢
   by_cases h0:n.p=0
   · rw[if_pos h0]at h1 ⊢
     have:=h1 n List.mem_cons_self
     rw[hi]at this
     rw[this]
     simp only[]
     rw[if_pos (show(growN n p e q).p=0 from h0)]
     rfl
   · rw[if_neg h0]at h1 ⊢
     have:=h1 n List.mem_cons_self
     rw[hi]at this
     rw[this]
     simp only[]
     rw[if_neg (show ¬(growN n p e q).p=0 from h0),List.map_cons]
     congr 1
     exact path_grown (fun z hz=>h1 z (List.mem_cons_of_mem _ hz)) h2
end
theorem yearS_ok:Zkk.Ok:=VS.Ok.put (S:=⟨[],[]⟩) ⟨List.Pairwise.nil,List.Pairwise.nil⟩ _ _
theorem begunS_ok(l:List Nd):(Zau l).Ok:=putNs_ok _ yearS_ok
theorem begunS_year(l:List Nd):yChk (Zau l) 2020=0:=by
 unfold yChk Zau
 rw[putNs_other (fun y i e=>Zia (by omega) (by omega) (by omega) _ _ e) _ yearS_ok]
 unfold Zkk
 rw[VS.Ok.now_put (S:=⟨[],[]⟩) ⟨List.Pairwise.nil,List.Pairwise.nil⟩,if_pos rfl]
 decide +kernel
theorem begunS_seq(l:List Nd):(Zau l).now (tx (Zi 83 [2]))=none:=by
 unfold Zau
 rw[putNs_other (fun y i e=>Zia (by omega) (by omega) (by omega) _ _ e) _ yearS_ok]
 unfold Zkk
 rw[VS.Ok.now_put (S:=⟨[],[]⟩) ⟨List.Pairwise.nil,List.Pairwise.nil⟩,if_neg (Zia (by omega) (by omega) (by omega) _ _)]
 rfl
end Go.Proofs.YtiknkbpojmgbhaaGreat
namespace Go.Proofs.YtiknkbpojmgbhaaGreat
open Go.RowKit
set_option maxRecDepth 100000
set_option linter.unusedVariables false
end Go.Proofs.YtiknkbpojmgbhaaGreat
namespace Go.Proofs.YtiknkbpojmgbhaaGreat
open Go.RowKit Go.Maps
set_option maxRecDepth 100000
set_option linter.unusedVariables false
section
variable{w w':World}{X X':Nat→Prop}{v m c g:Nat}{S:VS}{T:TypeId}{k y f:Int}{wn:Bool}
set_option maxHeartbeats 3200000 in
theorem preCharge_any(h:Ze w X v m c S)(hg:X g)(hgv:g≠v∧g≠m∧g≠c)(ho:Zan w 85 g v k y f wn)(hy:ZS y)(x:Ln)(hx:Za7 x)(hC:S.C.length≤1000000) :
 Calls Tryz.prog 101 #[.pointer (some ⟨g,0,none⟩),.agg #[.int .i64 x.f,.int .i64 x.o,.int .i64 x.n,.int .i64 x.a]] w fun e w'=>e=.returned (.int .i64 (chargeR S y x.n x.a 0 0).1.2)∧Ze w' X v m c (chargeR S y x.n x.a 0 0).2∧Zan w' 85 g v k y f (wn||(chargeR S y x.n x.a 0 0).1.1)∧Za (fun k=>k=c∨k=g) w w':=by
 obtain⟨w1,hw1⟩:∃w1,w1=w.alloc (.cells #[.int .i64 x.f,.int .i64 x.o,.int .i64 x.n,.int .i64 x.a] 34):=⟨_,rfl⟩
 have hb1:Below w.heap.size w w1:=by rw[hw1];exact(Below.refl _ _).alloc (Nat.le_refl _) _
 have hs1:w1.heap.size=w.heap.size+1:=by rw[hw1];simp
 have hblk:w1.heap[w.heap.size]?=some (.cells #[.int .i64 x.f,.int .i64 x.o,.int .i64 x.n,.int .i64 x.a] 34 (0,0)):=by rw[hw1];exact heap_alloc_new w _
 have ho1:=ho.keep (hb1.block g ho.lt)
 have hcw:=h.lt c h.xc
 have hgw:=ho.lt
 have hd1:Below w1.heap.size w1 w1.drew:=(Below.refl _ _).drew
 have HCH:=Lib.hid (Zf7 ((h.below hb1).below hd1) y x.n x.a 0 0 hy hx.2.2.1 hx.2.2.2 (by unfold ZS;omega) (by unfold ZS;omega) hC)
 have K:=Lib.hid (show ∀W,Za (fun k=>k=c) w1 W→(W.cell? ⟨g,0,none⟩=some (.pointer (some ⟨v,0,none⟩))∧W.cell? ⟨g,3,none⟩=some (.int .i64 y)∧W.cell? ⟨w.heap.size,2,none⟩=some (.int .i64 x.n)∧W.cell? ⟨w.heap.size,3,none⟩=some (.int .i64 x.a))∧Zan W 85 g v k y f wn from fun W ht=>by
  have hb:=(ht.block w.heap.size (by omega) (by omega)).trans hblk
  have ho2:=ho1.keep (ht.block g (by omega) (fun e=>hgv.2.2 e))
  obtain⟨c0,c1,c2,c3,c4,c5,c6⟩:=ho2.cells
  exact⟨⟨c0,c3,cell_of_row W _ 2 _ _ (0,0) hb,cell_of_row W _ 3 _ _ (0,0) hb⟩,ho2⟩)
 have HT1:=Lib.hid (show Za (fun k=>k=c∨k=g) w w1 from Za.of_below hb1)
 have HG:=Lib.hid (And.intro hg hgv)
 have c5:=(K.out _ (Za.of_below hd1)).1
 clear h ho hb1 hblk ho1 hd1 hC hy
 generalize chargeR S y x.n x.a 0 0=R at HCH ⊢
 obtain⟨⟨r1,r2⟩,S'⟩:=R
 obtain⟨xf,xo,xn,xa⟩:=x
 simp only at HCH K c5 hw1 ⊢
 go_enter Tryz.func101,Tryz.ntmps101
 go_wp2_with fail
 rw[←hw1]
 clear hw1
 go_region_held3 (fun W=>W.cell? ⟨g,0,none⟩=some (.pointer (some ⟨v,0,none⟩))∧W.cell? ⟨g,3,none⟩=some (.int .i64 y)∧W.cell? ⟨w.heap.size,2,none⟩=some (.int .i64 xn)∧W.cell? ⟨w.heap.size,3,none⟩=some (.int .i64 xa))
  (first|with_reducible exact c5|exact c5)
  (first|(go_at_call 189;refine Calls.mono HCH.out ?_;rintro e w2 ⟨rfl,h2,t2⟩;have t2:=(Za.of_below (F:=fun k=>k=c) ((Below.refl w1.heap.size w1).drew)).trans t2;have c5:=(K.out _ t2).1))
 have ho2:=(K.out _ t2).2
 obtain⟨z0,z1,z2,z3,z4,z5,z6⟩:=ho2.cells
 have f6:w2.frozen? ⟨g,6,none⟩=false:=by simp[World.frozen?,show w2.heap[g]?=_ from ho2]
 have HE:=Lib.hid (show ∀b:Bool,Ze (w2.setCell ⟨g,6,none⟩ (.bool b)) X v m c S'∧Zan (w2.setCell ⟨g,6,none⟩ (.bool b)) 85 g v k y f b∧Za (fun k=>k=c∨k=g) w (w2.setCell ⟨g,6,none⟩ (.bool b))from fun b=>
  ⟨h2.boxSet HG.out.1 HG.out.2 6 _,ho2.warn b,HT1.out.trans ((t2.mono fun k hk=>.inl hk).trans ⟨rfl,rfl,rfl,by simp,fun k hk hn=>heap_setCell_other _ _ _ _ (fun e=>hn (.inr e))⟩)⟩)
 clear c5 h2 t2 ho2 z0 z1 z2 z3 z4 z5 K HCH HG HT1
 cases wn with
 | true=>
  go_wp2_with fail
  go_ret
  exact⟨rfl,HE.out true⟩
 | false=>
  go_wp2_with fail
  go_ret
  exact⟨rfl,HE.out r1⟩
end
section
variable{w w':World}{X X':Nat→Prop}{v m c g:Nat}{S:VS}{T:TypeId}{k y f:Int}{wn:Bool}
theorem Ze.grow(h:Ze w X v m c S){row:Option Nat}(hg:w.grownBy w' row)(hrow:∀b,row=some b→X b∧b≠v∧b≠m∧b≠c):Ze w' (fun k=>X k∨(k=w.heap.size∧k<w'.heap.size)) v m c S:=
 h.keep hg.size (fun k hk hn he=>by rcases he with he|he;exact hn he;omega) (fun k hk=>.inl hk) (fun k hk=>by
  rcases hk with hk|hk
  · exact Nat.lt_of_lt_of_le (h.lt k hk) hg.size
  · exact hk.2) (fun k hk hh=>hg.block k hk fun e=>by
  obtain⟨a1,a2,a3,a4⟩:=hrow k e.symm
  rcases hh with hh|hh|hh|hh
  · exact a2 hh
  · exact a3 hh
  · exact a4 hh
  · exact hh a1)
def OrdRun(w wr:World)(X:Nat→Prop)(v m c g:Nat)(T:TypeId)(S:VS)(k y f:Int)(cs:List Chg)(u:Value):Prop:=
 (runC y S false cs).1.2=0∧(∃X',(∀k,X k→X' k)∧(∀k,X' k→X k∨w.heap.size≤k)∧(∀b,u.ownBlock=some b→X' b)∧Ze wr X' v m c (runC y S false cs).2)∧Zan wr T g v k y f (runC y S false cs).1.1∧Za (fun k=>k=c∨k=g) w wr
set_option maxHeartbeats 12800000 in
theorem prePlace_any(h:Ze w X v m c S)(hg:X g)(hgv:g≠v∧g≠m∧g≠c)(ho:Zan w 85 g v 1 y 0 false)(hy:ZS y){A:Option Addr}{n cap:Nat}{l:List Ln}(hl:∀W,Za (fun k=>k=c∨k=g) w W→RL W W.heap.size A n l)(hcap:n≤cap)(hn:n≤maxLen)(hC:S.C.length≤100000) :
 Calls Tryz.prog 47 #[.pointer (some ⟨g,0,none⟩),.slice A n cap] w fun e w'=>ZbW w w' X v m c g 85 1 y 0 (preNew S y l) e:=by
 have hd:=(Below.refl w.heap.size w).drew
 have hcw:=h.lt c h.xc
 have hgw:=ho.lt
 have HY:=Lib.hid (Zd7 (h.below hd) y hy)
 have HYR:=Lib.hid (show Zoz (stV (S.now (ZbO y)))=yChk S y from rfl)
 have K:=Lib.hid (show ∀W,Below w.heap.size w W→(W.cell? ⟨g,0,none⟩=some (.pointer (some ⟨v,0,none⟩))∧W.cell? ⟨g,3,none⟩=some (.int .i64 y))∧Zan W 85 g v 1 y 0 false∧Ze W X v m c S∧Za (fun k=>k=c∨k=g) w W from fun W hW=>by
  have ho2:=ho.keep (hW.block g hgw)
  obtain⟨c0,c1,c2,c3,c4,c5,c6⟩:=ho2.cells
  exact⟨⟨c0,c3⟩,ho2,h.below hW,Za.of_below hW⟩)
 have HL:=Lib.hid hl
 have HG:=Lib.hid (And.intro hg hgv)
 have hlen:l.length=n:=(hl w (Za.refl _ _)).len
 have hlok:=(hl w (Za.refl _ _)).ok
 have HLEN:=Lib.hid (And.intro hlen (And.intro hlok hC))
 have e1:yChk S y≠0→preNew S y l=((0,false,yChk S y),S):=fun h=>by unfold preNew;rw[if_neg h]
 have e2:yChk S y=0→preChk l≠0→preNew S y l=((0,false,1),S):=fun h g=>by unfold preNew;rw[if_pos h,if_neg g]
 have e3:yChk S y=0→preChk l=0→preNew S y l=ZI S y 1 0 (l.map preC) (l.map ZY):=fun h g=>by unfold preNew;rw[if_pos h,if_pos g]
 have HPC:=Lib.hid (fun W (hW:Below w.heap.size w W)=>Zem cap (hl W (Za.of_below hW)) hn (Nat.le_refl W.heap.size))
 have hp01:preChk l=0∨preChk l=1:=by unfold preChk;split;exact .inr rfl;exact .inl rfl
 have HP6:=Lib.hid (fun h=>Zbp (l:=l) h)
 have E:=Lib.hid (And.intro e1 (And.intro e2 e3))
 have c5:=(K.out _ hd).1
 have HYY:=Lib.hid hy
 have HM3:=Lib.hid (And.intro (h.lt v h.xv) (And.intro (h.lt m h.xm) (And.intro h.xv (And.intro h.xm h.xc))))
 clear e1 e2 e3 h ho hl hlok hC hd hy
 obtain⟨R,hR⟩:∃R,R=preNew S y l:=⟨_,rfl⟩
 rw[←hR]at E ⊢
 clear hR
 unfold maxLen at hn
 obtain⟨yc,hyc⟩:∃yc,yc=yChk S y:=⟨_,rfl⟩
 rw[HYR.out,←hyc]at HY
 rw[←hyc]at E
 clear hyc HYR
 obtain⟨pc,hpc⟩:∃pc,pc=preChk l:=⟨_,rfl⟩
 rw[←hpc]at E HPC hp01 HP6
 clear hpc
 go_enter Tryz.func47,Tryz.ntmps47
 go_wp2_with fail
 go_region_held3 (fun W=>W.cell? ⟨g,0,none⟩=some (.pointer (some ⟨v,0,none⟩))∧W.cell? ⟨g,3,none⟩=some (.int .i64 y))
  (first|with_reducible exact c5|exact c5)
  (first|(go_at_call 99;refine Calls.mono HY.out ?_;rintro e w2 ⟨rfl,h2⟩;have h2:=((Below.refl w.heap.size w).drew).trans h2;have c5:=(K.out _ h2).1))
 have H2:=Lib.hid h2
 clear c5 h2 HY
 by_cases h0:yc=0
 · subst h0
   have HPC2:=Lib.hid (HPC.out w2 H2.out)
   clear HPC
   go_wp2_with fail
   refine HPC2.out.mono ?_
   rintro e w3⟨rfl,h3⟩
   have H3:=Lib.hid (H2.out.trans (h3.mono H2.out.size))
   clear h3 HPC2 H2
   rcases hp01 with rfl|rfl
   · have hER:=E.out.2.2 (by first|rfl|trivial) (by first|rfl|trivial)
     have HER:=Lib.hid hER
     clear hER
     obtain⟨n1,n6,hra⟩:=HP6.out (by first|rfl|trivial)
     rw[HLEN.out.1]at n1 n6
     have H0:=Lib.hid (show OrdRun w w3 X v m c g 85 S 1 y 0 ((l.map preC).take 0) (.slice none 0 0)from⟨rfl,⟨X,fun _ h=>h,fun _ h=>.inl h,(fun b hb=>by cases hb),(K.out w3 H3.out).2.2.1⟩,(K.out w3 H3.out).2.1,(K.out w3 H3.out).2.2.2⟩)
     clear E K HP6 H3 hra
     go_wp2_with fail
     go_loopw[8,32] (fun uv iv wr=>∃j:Nat,j≤n∧iv=.int .i64 j∧(∃A' k',uv=.slice A' j k')∧Hid (DlE.Own 50 wr w.heap.size uv ((l.take j).map ZY)∧OrdRun w wr X v m c g 85 S 1 y 0 ((l.map preC).take j) uv)) (fun _ iv _=>n-(intOf iv).toNat)
     case atStart=>exact⟨0,Nat.zero_le _,rfl,⟨none,0,rfl⟩,Lib.hid ⟨Enc.Own.start _ _ _,H0.out⟩⟩
     case round=>
      clear H0
      obtain⟨j,hj,rfl,⟨A',k',rfl⟩,HJ⟩:=hrel
      by_cases hlt:j<n
      · have hlt':(j:Int)<(n:Int):=by omega
        have hj0:(0:Int)≤(j:Int):=by omega
        obtain⟨hown,hz,⟨X1,hx1,hx2,hx3,hv⟩,hor,ht⟩:=HJ.out
        obtain⟨x,hx⟩:∃x,l[j]?=some x:=⟨_,List.getElem?_eq_getElem (by rw[HLEN.out.1];exact hlt)⟩
        have hxok:=HLEN.out.2.1 x (List.mem_of_getElem? hx)
        obtain⟨b,off,rfl,hb,hat⟩:=(HL.out wr ht).2.2 (by omega)
        obtain⟨c0,c1,c2,c3⟩:=hat j x hx
        obtain⟨wb,hwb⟩:∃wb,wb=wr.alloc (.cells #[.int .i64 x.f,.int .i64 x.o,.int .i64 x.n,.int .i64 x.a] 34 (0,0)):=⟨_,rfl⟩
        have hbb:Below wr.heap.size wr wb:=by rw[hwb];exact(Below.refl _ _).alloc (Nat.le_refl _) _
        have hblk:wb.heap[wr.heap.size]?=some (.cells #[.int .i64 x.f,.int .i64 x.o,.int .i64 x.n,.int .i64 x.a] 34 (0,0)):=by rw[hwb];exact heap_alloc_new wr _
        have hsz:wb.heap.size=wr.heap.size+1:=by rw[hwb];simp
        have hCj:=Zdv y ((l.map preC).take j) S false
        rw[List.length_take]at hCj
        have hxm:(l.map preC)[j]?=some (preC x):=by rw[List.getElem?_map,hx];rfl
        have hwr:=ht.size
        have HCH:=Lib.hid (preCharge_any (hv.below hbb) (hx1 _ HG.out.1) HG.out.2 (hor.keep (hbb.block g (Nat.lt_of_lt_of_le hgw ht.size))) HYY.out x hxok (by have:=HLEN.out.2.2;omega))
        have HOK:=Lib.hid (show(chargeR (runC y S false ((l.map preC).take j)).2 y x.n x.a 0 0).1.2=0→runC y S false ((l.map preC).take (j+1))=(((runC y S false ((l.map preC).take j)).1.1||(chargeR (runC y S false ((l.map preC).take j)).2 y x.n x.a 0 0).1.1,0),(chargeR (runC y S false ((l.map preC).take j)).2 y x.n x.a 0 0).2)from fun h2=>Zfq hxm hz h2)
        have HBAD:=Lib.hid (show(chargeR (runC y S false ((l.map preC).take j)).2 y x.n x.a 0 0).1.2≠0→runC y S false (l.map preC)=(((runC y S false ((l.map preC).take j)).1.1,(chargeR (runC y S false ((l.map preC).take j)).2 y x.n x.a 0 0).1.2),(chargeR (runC y S false ((l.map preC).take j)).2 y x.n x.a 0 0).2)from fun h2=>Zhv hxm hz h2)
        have HSN:=Lib.hid (show(l.take (j+1)).map ZY=(l.take j).map ZY++[(⟨x.n,x.a,0,0⟩:Dl)]from ZeJ (f:=ZY) hx)
        have HDO:=Lib.hid (show ZaE ⟨x.n,x.a,0,0⟩ from ZcN hxok)
        have htk:(l.take j).length=j:=by rw[List.length_take];have:=HLEN.out.1;omega
        have hown':=hown.below hbb
        have HOW:=Lib.hid (show ∀W,Za (fun k=>k=c∨k=g) wb W→DlE.Own 50 W w.heap.size (.slice A' j k') ((l.take j).map ZY)from fun W hW=>hown'.stays fun q hq=>hW.block q (hown'.at_ q hq).2 (fun e=>by have:=(hown'.at_ q hq).1;rcases e with e|e <;> omega))
        have HX1:=Lib.hid (And.intro hx1 (And.intro hx2 hx3))
        have HT:=Lib.hid (show Za (fun k=>k=c∨k=g) w wb from ht.trans (Za.of_below hbb))
        have HBL:=Lib.hid (show ∀W,Za (fun k=>k=c∨k=g) wb W→W.cell? ⟨wr.heap.size,2,none⟩=some (.int .i64 x.n)∧W.cell? ⟨wr.heap.size,3,none⟩=some (.int .i64 x.a)from fun W hW=>by
         have hb:=(hW.block wr.heap.size (by omega) (by omega)).trans hblk
         exact⟨cell_of_row W _ 2 _ _ (0,0) hb,cell_of_row W _ 3 _ _ (0,0) hb⟩)
        have HAB:=Lib.hid (And.intro (show ∀q,(Value.slice A' j k').ownBlock=some q→w.heap.size≤q∧q<wb.heap.size from fun q hq=>hown'.at_ q hq) (And.intro htk (Nat.le_trans hwr hbb.size)))
        clear hown hz hx1 hx2 hx3 hv hor ht hx hb hat hbb hblk hsz hCj hxm HJ htk hown' hxok
        generalize runC y S false ((l.map preC).take j)=Rj at HCH HOK HBAD
        obtain⟨⟨bj,ej⟩,Sj⟩:=Rj
        simp only at HCH HOK HBAD
        generalize chargeR Sj y x.n x.a 0 0=R2 at HCH HOK HBAD
        obtain⟨⟨r1,r2⟩,S2⟩:=R2
        obtain⟨xf,xo,xn,xa⟩:=x
        simp only at HCH HOK HBAD hwb HBL HSN HDO c0 c1 c2 c3
        go_wp2_with fail
        rw[←hwb]
        clear hwb c0 c1 c2 c3
        refine HCH.out.mono ?_
        rintro e w4⟨rfl,h4,o4,t4⟩
        obtain⟨d2,d3⟩:=HBL.out w4 t4
        clear HCH
        by_cases hr2:r2=0
        · subst hr2
          have hR:=HOK.out (by first|rfl|trivial)
          have hw4:=t4.size
          obtain⟨w5,hw5⟩:∃w5,w5=w4.alloc (.cells #[.int .i64 xn,.int .i64 xa,.int .i64 0,.int .i64 0] 50 (0,0)):=⟨_,rfl⟩
          have hb5:Below w4.heap.size w4 w5:=by rw[hw5];exact(Below.refl _ _).alloc (Nat.le_refl _) _
          have hs5:w5.heap.size=w4.heap.size+1:=by rw[hw5];simp
          have hk5:w5.heap[w4.heap.size]?=some (.cells #[.int .i64 xn,.int .i64 xa,.int .i64 0,.int .i64 0] 50 (0,0)):=by rw[hw5];exact heap_alloc_new w4 _
          have hown4:=HOW.out w4 t4
          have hl4:((l.take j).map ZY).length=j:=by rw[List.length_map];exact HAB.out.2.1
          obtain⟨v',w6,hrun,hown6,hb6,hgr,hgn⟩:=(hown4.below hb5).append1 DlT (x:=⟨xn,xa,0,0⟩) hk5 rfl HDO.out (by omega) (by have:=HAB.out.2.2;omega) 45
          obtain⟨A6,k6,rfl,hk6⟩:=hown6.shape
          have hl6:((l.take j).map ZY++[(⟨xn,xa,0,0⟩:Dl)]).length=j+1:=by rw[List.length_append,hl4];rfl
          rw[hl6]at hrun hown6 hgn
          have hga:g<w4.heap.size:=by have:=HAB.out.2.2;omega
          have hrun2:=hrun
          rw[hw5]at hrun2
          have HRUN:=Lib.hid hrun2
          clear hrun2
          have hv6:=(h4.below hb5).grow hgr (fun q hq=>by
           have:=(HAB.out.1 q hq).1
           have h3:=HM3.out
           exact⟨HX1.out.2.2 q hq,by omega,by omega,by omega⟩)
          have ho6:Zan w6 85 g v 1 y 0 (bj||r1):=(o4.keep (hb5.block g hga)).keep (hgr.block g (Nat.lt_of_lt_of_le hga hb5.size) (fun q=>by have:=(HAB.out.1 g q.symm).1;omega))
          have htw4:=HT.out.trans t4
          have ht6:Za (fun k=>k=c∨k=g) w w6:=⟨hb6.os.trans (hb5.os.trans htw4.os),hb6.tape.trans (hb5.tape.trans htw4.tape),hb6.output.trans (hb5.output.trans htw4.output),Nat.le_trans htw4.size (Nat.le_trans hb5.size hb6.size),fun k hk hn=>(hb6.block k hk).trans ((hb5.block k (Nat.lt_of_lt_of_le hk htw4.size)).trans (htw4.block k hk hn))⟩
          have HJ:=Lib.hid (show DlE.Own 50 w6 w.heap.size (.slice A6 (j+1) k6) ((l.take (j+1)).map ZY)∧OrdRun w w6 X v m c g 85 S 1 y 0 ((l.map preC).take (j+1)) (.slice A6 (j+1) k6)from by
           rw[HSN.out]
           refine⟨hown6,?_⟩
           unfold OrdRun
           rw[hR]
           refine⟨rfl,⟨_,fun k hk=>.inl (HX1.out.1 k hk),fun k hk=>?_,fun q hq=>?_,hv6⟩,ho6,ht6⟩
           · rcases hk with hk|hk
             · exact HX1.out.2.1 k hk
             · exact .inr (by have:=HAB.out.2.2;omega)
           · rcases hgn with hgn|hgn
             · exact .inl (HX1.out.2.2 q (hgn.symm.trans hq))
             · rw[hgn]at hq
               cases hq
               exact .inr ⟨rfl,(hown6.at_ _ hgn).2⟩)
          clear htw4 hga hw5 hR h4 o4 t4 hw4 hb5 hk5 hown4 hown6 hb6 hgr hgn hrun hv6 ho6 ht6 HOW HX1 HT HBL HAB HBAD HOK HSN HDO hl4 hl6 hk6
          go_wp2_with (at_builtin;refine Lib.wpList_append_run _ rfl _ _ _ _ rfl _ _ rfl rfl _ _ HRUN.out ?_)
          go_roundw
          case rel=>exact⟨j+1,by omega,by go_num,⟨A6,k6,rfl⟩,HJ⟩
          case measure=>simp[intOf];omega
        · have k1:(r2 != 0)=true:=by simp[hr2]
          have hR:=HER.out.trans (ZcL (HBAD.out hr2) hr2)
          have HE:=Lib.hid (show ZbW w w4 X v m c g 85 1 y 0 R (.returned (.tuple #[.int .i64 0,.int .i64 r2]))from by
           rw[hR]
           exact⟨0,rfl,h4.less HX1.out.1 HM3.out.2.2.1 HM3.out.2.2.2.1 HM3.out.2.2.2.2,fun h=>absurd h hr2,HT.out.trans t4⟩)
          clear hR h4 o4 t4 HOW HX1 HT HBL HAB HBAD HOK HSN HDO HER hr2
          go_wp2_with fail
          go_ret2
          exact HE.out
      · obtain rfl:j=n:=by omega
        obtain⟨hown,hz,⟨X1,hx1,hx2,hx3,hv⟩,hor,ht⟩:=HJ.out
        have htk:l.take j=l:=List.take_of_length_le (by have:=HLEN.out.1;omega)
        have htm:(l.map preC).take j=l.map preC:=List.take_of_length_le (by rw[List.length_map];have:=HLEN.out.1;omega)
        rw[htk]at hown
        rw[htm]at hz hv hor
        have hCj:=Zdv y (l.map preC) S false
        rw[List.length_map]at hCj
        have hER:=HER.out
        obtain⟨Rj,hRj⟩:∃Rj,Rj=runC y S false (l.map preC):=⟨_,rfl⟩
        rw[←hRj]at hz hv hor hCj
        obtain⟨⟨bj,ej⟩,Sj⟩:=Rj
        simp only at hz hv hor hCj
        subst hz
        rw[ZcM hRj.symm]at hER
        have hdr:=(Below.refl wr.heap.size wr).drew
        have hlen:=HLEN.out.1
        have hrd:=(hown.below hdr).read (Zbx HLEN.out.2.1)
        have hDOK:ZmW ⟨0,1,y,0,0⟩:=by
         intro q hq
         simp only[List.mem_cons,List.not_mem_nil,or_false]at hq
         rcases hq with rfl|rfl|rfl|rfl|rfl
         · omega
         · omega
         · exact HYY.out
         · omega
         · omega
        have HPUT:=Lib.hid (ZeV (hv.below hdr) ⟨0,1,y,0,0⟩ hDOK hrd.2.2 hrd.2.1 (by unfold maxLen;omega) (by have:=HLEN.out.2.2;omega))
        have hog:=hor.lt
        have hcv:=hv.lt c (hx1 _ HM3.out.2.2.2.2)
        have K:=Lib.hid (show ∀W,Za (fun k=>k=c) wr.drew W→(W.cell? ⟨g,0,none⟩=some (.pointer (some ⟨v,0,none⟩))∧W.cell? ⟨g,1,none⟩=some (.int .i64 0)∧W.cell? ⟨g,2,none⟩=some (.int .i64 1)∧W.cell? ⟨g,3,none⟩=some (.int .i64 y)∧W.cell? ⟨g,4,none⟩=some (.int .i64 0)∧W.cell? ⟨g,5,none⟩=some (.int .i64 0))∧Zan W 85 g v 1 y 0 bj from fun W hW=>by
         have ho2:=(hor.keep (hdr.block g hog)).keep (hW.block g (Nat.lt_of_lt_of_le hog hdr.size) (fun e=>HG.out.2.2.2 e))
         obtain⟨c0,c1,c2,c3,c4,c5,c6⟩:=ho2.cells
         exact⟨⟨c0,c1,c2,c3,c4,c5⟩,ho2⟩)
        have c5:=(K.out _ (Za.refl _ _)).1
        have HT:=Lib.hid (show Za (fun k=>k=c∨k=g) w wr.drew from ht.trans (Za.of_below hdr))
        have HX1:=Lib.hid hx1
        have HER2:=Lib.hid hER
        clear HJ hown hx1 hx2 hx3 hv hor ht htk htm hCj hRj hrd hDOK hog hcv hdr hER HER hlen
        generalize putDoc Sj ⟨0,1,y,0,0⟩ (l.map ZY)=PD at HPUT HER2
        obtain⟨⟨pa,pb⟩,PS⟩:=PD
        simp only at HPUT HER2
        go_wp2_with fail
        go_region_held3 (fun W=>W.cell? ⟨g,0,none⟩=some (.pointer (some ⟨v,0,none⟩))∧W.cell? ⟨g,1,none⟩=some (.int .i64 0)∧W.cell? ⟨g,2,none⟩=some (.int .i64 1)∧W.cell? ⟨g,3,none⟩=some (.int .i64 y)∧W.cell? ⟨g,4,none⟩=some (.int .i64 0)∧W.cell? ⟨g,5,none⟩=some (.int .i64 0))
         (first|with_reducible exact c5|exact c5)
         (first|(go_at_call 102;refine Calls.mono HPUT.out ?_;rintro e w5 ⟨rfl,h5,t5⟩;have c5:=(K.out _ t5).1))
        have HE:=Lib.hid (show ZbW w w5 X v m c g 85 1 y 0 R (.returned (.tuple #[.int .i64 pa,.int .i64 pb]))from by
         have hl5:=h5.less HX1.out HM3.out.2.2.1 HM3.out.2.2.2.1 HM3.out.2.2.2.2
         have ht5:Za (fun k=>k=c∨k=g) w w5:=HT.out.trans (t5.mono fun k hk=>.inl hk)
         rw[HER2.out]
         by_cases hb:pb=0
         · rw[if_pos hb]
           subst hb
           exact⟨pa,rfl,hl5,fun _=>⟨rfl,(K.out _ t5).2⟩,ht5⟩
         · rw[if_neg hb]
           exact⟨pa,rfl,hl5,fun h=>absurd h hb,ht5⟩)
        clear c5 h5 t5 K HT HX1 HER2 HPUT
        go_wp2_with fail
        go_ret2
        exact HE.out
   · have hER:=E.out.2.1 (by first|rfl|trivial) (by decide)
     have HE:=Lib.hid (show ZbW w w3 X v m c g 85 1 y 0 R (.returned (.tuple #[.int .i64 0,.int .i64 1]))from by
      rw[hER]
      exact⟨0,rfl,(K.out w3 H3.out).2.2.1,fun h=>absurd (show(1:Int)=0 from h) (by decide),(K.out w3 H3.out).2.2.2⟩)
     clear hER E K HP6 H3
     go_wp2_with fail
     go_ret2
     exact HE.out
 · have k1:(yc != 0)=true:=by simp[h0]
   have hER:=E.out.1 h0
   have HE:=Lib.hid (show ZbW w w2 X v m c g 85 1 y 0 R (.returned (.tuple #[.int .i64 0,.int .i64 yc]))from by
    rw[hER]
    exact⟨0,rfl,(K.out w2 H2.out).2.2.1,fun h=>absurd h h0,(K.out w2 H2.out).2.2.2⟩)
   clear hER E K HP6 H2 h0
   go_wp2_with fail
   go_ret2
   exact HE.out
end
section
variable{w w':World}{X X':Nat→Prop}{v m c g:Nat}{S:VS}
set_option maxHeartbeats 6400000 in
theorem preNew_any(h:Ze w X v m c S){y:Int}(hy:ZS y){A:Option Addr}{n cap:Nat}{l:List Ln}(hl:∀W,Za (fun k=>k=c) w W→RL W W.heap.size A n l)(hcap:n≤cap)(hn:n≤maxLen)(hC:S.C.length≤100000) :
 Calls Tryz.prog 10 #[.pointer (some ⟨v,0,none⟩),.int .i64 y,.slice A n cap] w fun e w'=>e=.returned (.tuple #[.int .i64 (preNew S y l).1.1,.bool (preNew S y l).1.2.1,.int .i64 (preNew S y l).1.2.2])∧Ze w' X v m c (preNew S y l).2∧Za (fun k=>k=c) w w':=by
 have hbad:(preNew S y l).1.2.2≠0→(preNew S y l).1.1=0∧(preNew S y l).1.2.1=false:=fun h=>by
  unfold preNew at h ⊢
  split
  · split
    · rename_i a b
      rw[if_pos a,if_pos b]at h
      unfold ZI at h ⊢
      split
      · split
        · rename_i p q
          rw[if_pos p,if_pos q]at h
          exact absurd rfl h
        · exact⟨rfl,rfl⟩
      · exact⟨rfl,rfl⟩
    · exact⟨rfl,rfl⟩
  · exact⟨rfl,rfl⟩
 obtain⟨w1,hw1⟩:∃w1,w1=w.alloc (.cells #[.pointer (some ⟨v,0,none⟩),.int .i64 0,.int .i64 1,.int .i64 y,.int .i64 0,.int .i64 0,.bool false] 85 (0,0)):=⟨_,rfl⟩
 have hb1:Below w.heap.size w w1:=by rw[hw1];exact(Below.refl _ _).alloc (Nat.le_refl _) _
 have ho1:Zan w1 85 w.heap.size v 1 y 0 false:=by rw[hw1];exact heap_alloc_new w _
 have hv1:Ze w1 (fun k=>X k∨k=w.heap.size) v m c S:=by rw[hw1];exact h.box _
 have htn:∀W,Za (fun k=>k=c∨k=w.heap.size) w1 W→Za (fun k=>k=c) w W:=fun W hW=>by rw[hw1]at hW;exact ZiW hW
 have hlt:=(And.intro (h.lt v h.xv) (And.intro (h.lt m h.xm) (h.lt c h.xc)))
 have HP:=Lib.hid (prePlace_any hv1 (.inr rfl) (by omega) ho1 hy (fun W hW=>hl W (htn W hW)) hcap hn hC)
 have HX:=Lib.hid (And.intro h.xv (And.intro h.xm h.xc))
 have HTN:=Lib.hid htn
 have HBAD:=Lib.hid hbad
 clear h hl hC hb1 ho1 hv1 htn hbad hlt
 generalize preNew S y l=R at HP HBAD ⊢
 go_enter Tryz.func10,Tryz.ntmps10
 go_wp2_with fail
 rw[←hw1]
 clear hw1
 refine HP.out.mono ?_
 rintro e w2⟨id,rfl,h2,ho2,t2⟩
 have HE:=Lib.hid (show ∀W,Below w2.heap.size w2 W→Ze W X v m c R.2∧Za (fun k=>k=c) w W from fun W hW=>⟨(h2.below hW).less (fun k hk=>.inl hk) HX.out.1 HX.out.2.1 HX.out.2.2,(HTN.out w2 t2).trans (Za.of_below hW)⟩)
 obtain⟨⟨ra,rb,re⟩,RS⟩:=R
 simp only at ho2 HE HBAD ⊢
 clear h2 t2 HP HTN HX
 by_cases h0:re=0
 · subst h0
   obtain⟨rfl,ho⟩:=ho2 (by first|rfl|trivial)
   obtain⟨c0,c1,c2,c3,c4,c5,c6⟩:=ho.cells
   have hd:=(Below.refl w2.heap.size w2).drew
   have d6:w2.drew.cell? ⟨w.heap.size,6,none⟩=some (.bool rb):=(hd.cell (p:=⟨w.heap.size,6,none⟩) ho.lt).trans c6
   have HE2:=Lib.hid (And.intro (HE.out w2 (Below.refl _ _)) (HE.out w2.drew hd))
   clear HBAD HE c0 c1 c2 c3 c4 c5 hd ho ho2
   go_wp2_with fail
   have c5:=d6
   go_region_held3 (fun W=>W.cell? ⟨w.heap.size,6,none⟩=some (.bool rb))
    (first|with_reducible exact c5|exact c5)
    (first|fail)
   clear c5 d6
   go_wp2_with fail
   go_ret3
   exact⟨rfl,HE2.out.2⟩
 · have k1:(re != 0)=true:=by simp[h0]
   obtain⟨rfl,rfl⟩:=HBAD.out h0
   have HE2:=Lib.hid (HE.out w2 (Below.refl _ _))
   clear HBAD HE ho2 h0
   go_wp2_with fail
   go_ret3
   exact⟨rfl,HE2.out⟩
end
end Go.Proofs.YtiknkbpojmgbhaaGreat
