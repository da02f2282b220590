/- PreP, EncP, PreO. Conditions: in each theorem. -/
import Derived.Test.YtiknkbpojmgbhaaGreatDocM
import Derived.Test.YtiknkbpojmgbhaaGreatAmtV
import Derived.Test.YtiknkbpojmgbhaaGreatYrB
set_option maxRecDepth 100000
set_option linter.unusedVariables false
namespace Go.Proofs.YtiknkbpojmgbhaaGreat
open Go.RowKit Go.Maps
def preChk(l:List Ln):Int:=if l.length<1∨l.length>6∨(l.any fun x=>!amtRightB x.a)=true then 1 else 0
def ZY(x:Ln):Dl:=⟨x.n,x.a,0,0⟩
theorem ZcN{x:Ln}(h:Za7 x):ZaE (ZY x):=by
 intro v hv;simp only[ZY,List.mem_cons,List.not_mem_nil,or_false]at hv;rcases hv with rfl|rfl|rfl|rfl
 · exact h.2.2.1
 · exact h.2.2.2
 · omega
 · omega
structure Chg where
 i:Int
 p:Int
 e:Int
 q:Int
def runC(y:Int):VS->Bool->List Chg->(Bool×Int)×VS
 | S,wn,[]=>((wn,0),S)
 | S,wn,x::r=>if(chargeR S y x.i x.p x.e x.q).1.2=0 then runC y (chargeR S y x.i x.p x.e x.q).2 (wn||(chargeR S y x.i x.p x.e x.q).1.1) r else((wn,(chargeR S y x.i x.p x.e x.q).1.2),(chargeR S y x.i x.p x.e x.q).2)
theorem ZiX{y:Int}{x:Chg}:∀{l:List Chg} {S:VS} {wn:Bool},(runC y S wn l).1.2=0->runC y S wn (l++[x]) =
 if(chargeR (runC y S wn l).2 y x.i x.p x.e x.q).1.2=0 then(((runC y S wn l).1.1||(chargeR (runC y S wn l).2 y x.i x.p x.e x.q).1.1,0),(chargeR (runC y S wn l).2 y x.i x.p x.e x.q).2)else(((runC y S wn l).1.1,(chargeR (runC y S wn l).2 y x.i x.p x.e x.q).1.2),(chargeR (runC y S wn l).2 y x.i x.p x.e x.q).2)
 | [],S,wn,_=>rfl
 | z::l,S,wn,h=>by
  unfold runC at h;rw[List.cons_append];by_cases e:(chargeR S y z.i z.p z.e z.q).1.2=0
  · rw[if_pos e]at h;have e1:∀r,runC y S wn (z::r)=runC y (chargeR S y z.i z.p z.e z.q).2 (wn||(chargeR S y z.i z.p z.e z.q).1.1) r:=fun r=>if_pos e
    rw[e1,e1];exact ZiX h
  · rw[if_neg e]at h;exact absurd h e
theorem ZiY{y:Int}{x:Chg}{r:List Chg}:∀{l:List Chg} {S:VS} {wn:Bool},(runC y S wn l).1.2=0->(chargeR (runC y S wn l).2 y x.i x.p x.e x.q).1.2≠0->runC y S wn (l++x::r)=(((runC y S wn l).1.1,(chargeR (runC y S wn l).2 y x.i x.p x.e x.q).1.2),(chargeR (runC y S wn l).2 y x.i x.p x.e x.q).2)
 | [],S,wn,_,h=>if_neg h
 | z::l,S,wn,h,h2=>by
  unfold runC at h;rw[List.cons_append];by_cases e:(chargeR S y z.i z.p z.e z.q).1.2=0
  · rw[if_pos e]at h;have e1:∀r,runC y S wn (z::r)=runC y (chargeR S y z.i z.p z.e z.q).2 (wn||(chargeR S y z.i z.p z.e z.q).1.1) r:=fun r=>if_pos e
    rw[e1]at h2 ⊢;rw[e1];exact ZiY h h2
  · rw[if_neg e]at h;exact absurd h e
theorem ZnS{y:Int}{S:VS}{wn:Bool}{l:List Chg}{j:Nat}{x:Chg}(hx:l[j]?=some x)(h:(runC y S wn (l.take j)).1.2=0):runC y S wn (l.take (j+1)) =
 if(chargeR (runC y S wn (l.take j)).2 y x.i x.p x.e x.q).1.2=0 then(((runC y S wn (l.take j)).1.1||(chargeR (runC y S wn (l.take j)).2 y x.i x.p x.e x.q).1.1,0),(chargeR (runC y S wn (l.take j)).2 y x.i x.p x.e x.q).2)else(((runC y S wn (l.take j)).1.1,(chargeR (runC y S wn (l.take j)).2 y x.i x.p x.e x.q).1.2),(chargeR (runC y S wn (l.take j)).2 y x.i x.p x.e x.q).2):=by
 obtain⟨hj,rfl⟩:=List.getElem?_eq_some_iff.1 hx;rw[List.take_succ_eq_append_getElem hj,ZiX h]
theorem Zhv{y:Int}{S:VS}{wn:Bool}{l:List Chg}{j:Nat}{x:Chg}(hx:l[j]?=some x)(h:(runC y S wn (l.take j)).1.2=0)(h2:(chargeR (runC y S wn (l.take j)).2 y x.i x.p x.e x.q).1.2≠0) :
 runC y S wn l=(((runC y S wn (l.take j)).1.1,(chargeR (runC y S wn (l.take j)).2 y x.i x.p x.e x.q).1.2),(chargeR (runC y S wn (l.take j)).2 y x.i x.p x.e x.q).2):=by
 obtain⟨hj,rfl⟩:=List.getElem?_eq_some_iff.1 hx;have e:l=l.take j++l[j]::l.drop (j+1):=by rw[List.getElem_cons_drop,List.take_append_drop]
 have:=ZiY (x:=l[j]) (r:=l.drop (j+1)) h h2
 rwa[<-e]at this
theorem Zfr:∀(Q:List Nd) (S:VS),(Q.foldl VS.putN S).W=S.W
 | [],S=>rfl
 | x::Q,S=>by rw[List.foldl_cons,Zfr Q];rfl
theorem Zlk(S:VS)(y i p e q:Int):(chargeR S y i p e q).2.W=S.W:=by
 unfold chargeR;split
 · rfl
 · split
   · rfl
   · split
     · exact Zfr _ _
     · rfl
theorem Zgx(y:Int):∀(l:List Chg) (S:VS) (wn:Bool),(runC y S wn l).2.W=S.W
 | [],S,wn=>rfl
 | x::r,S,wn=>by
  unfold runC;split
  · rw[Zgx y r,Zlk]
  · exact Zlk _ _ _ _ _ _
theorem Zdx(y:Int):∀(l:List Chg) {S:VS} {n:Nat} (wn:Bool),Zv S n->Zv (runC y S wn l).2 (n+8*l.length)
 | [],S,n,wn,h=>h
 | x::r,S,n,wn,h=>by
  unfold runC;rw[List.length_cons];split
  · exact(Zdx y r _ (ZeY h y x.i x.p x.e x.q)).more (by omega)
  · exact(ZeY h y x.i x.p x.e x.q).more (by omega)
theorem Zll(i:Int):∀(l:List Dl) (S:VS) (j:Nat),(putLs S i j l).W=S.W
 | [],S,j=>rfl
 | x::r,S,j=>by
  show(putLs (S.putL i j x) i (j+1) r).W=S.W
  rw[Zll i r];rfl
theorem Zqh(S:VS)(n:Int):(S.next n).W=S.W:=by
 unfold VS.next
 split <;> rfl
theorem ZbX(S:VS)(d:Dc)(l:List Dl):(putDoc S d l).2.W=S.W:=by
 unfold putDoc;split
 · rfl
 · split
   · show(putLs (S.next 2) _ 0 l).W=S.W
     rw[Zll,Zqh]
   · rfl
def yChk(S:VS)(y:Int):Int:=Zoz (stV (S.now (ZbO y)))
def ZI(S:VS)(y k f:Int)(cs:List Chg)(ls:List Dl):(Int×Bool×Int)×VS:=
 if(runC y S false cs).1.2=0 then
  (if(putDoc (runC y S false cs).2 ⟨0,k,y,f,0⟩ ls).1.2=0 then(((putDoc (runC y S false cs).2 ⟨0,k,y,f,0⟩ ls).1.1,(runC y S false cs).1.1,0),(putDoc (runC y S false cs).2 ⟨0,k,y,f,0⟩ ls).2)
  else((0,false,(putDoc (runC y S false cs).2 ⟨0,k,y,f,0⟩ ls).1.2),(putDoc (runC y S false cs).2 ⟨0,k,y,f,0⟩ ls).2))
 else((0,false,(runC y S false cs).1.2),(runC y S false cs).2)
theorem Zhw(S:VS)(y k f:Int)(cs:List Chg)(ls:List Dl):(ZI S y k f cs ls).2.W=S.W:=by
 unfold ZI;split
 · split
   · exact(ZbX _ _ _).trans (Zgx _ _ _ _)
   · exact(ZbX _ _ _).trans (Zgx _ _ _ _)
 · exact Zgx _ _ _ _
theorem ZcO{S:VS}{n:Nat}(h:Zv S n)(y k f:Int)(cs:List Chg)(ls:List Dl):Zv (ZI S y k f cs ls).2 (n+8*cs.length+8):=by
 unfold ZI;split
 · split
   · exact Za2 (Zdx y cs false h) _ _
   · exact Za2 (Zdx y cs false h) _ _
 · exact(Zdx y cs false h).more (by omega)
theorem Zbp{l:List Ln}(h:preChk l=0):1<=l.length/\l.length<=6/\∀x∈l,1<=x.a/\x.a<=9007199254740992:=by
 unfold preChk at h
 split at h
 · cases h
 · rename_i hh
   rw[not_or,not_or,Bool.not_eq_true]at hh;refine⟨by omega,by omega,fun x hx=>?_⟩
   have:=List.any_eq_false.1 hh.2.2 x hx
   simp only[Bool.not_eq_true,Bool.not_eq_false']at this;unfold amtRightB at this;simpa using this
def ZjD(z:Dl)(a:Int):Dl:=⟨z.nd,z.o,wrap64 (z.l+a),z.c⟩
theorem ZnT{z:Dl}(h:ZaE z)(a:Int):ZaE (ZjD z a):=by
 intro v hv;simp only[ZjD,List.mem_cons,List.not_mem_nil,or_false]at hv;rcases hv with rfl|rfl|rfl|rfl
 · exact h _ (by simp)
 · exact h _ (by simp)
 · unfold wrap64;omega
 · exact h _ (by simp)
def Zez(st:List Dl)(x:Ln):Int:=if x.n<0∨x.n≥(st.length:Int)then 7 else if openL (st[x.n.toNat]?.getD Zav)<x.a then 12 else 0
def Zcr(st:List Dl)(x:Ln):List Dl:=st.set x.n.toNat (ZjD (st[x.n.toNat]?.getD Zav) x.a)
def Zox(st:List Dl)(x:Ln):Dl:=⟨(st[x.n.toNat]?.getD Zav).nd,x.a,0,0⟩
def ZE:List Dl->List Ln->(List Dl×List Dl)×Int
 | st,[]=>((st,[]),0)
 | st,x::r=>if Zez st x=0 then(((ZE (Zcr st x) r).1.1,Zox st x::(ZE (Zcr st x) r).1.2),(ZE (Zcr st x) r).2)else((st,[]),Zez st x)
theorem Zhx(st:List Dl)(x:Ln):(Zcr st x).length=st.length:=List.length_set
theorem ZcP:∀(l:List Ln) (st:List Dl),(ZE st l).1.1.length=st.length
 | [],st=>rfl
 | x::r,st=>by
  unfold ZE;split
  · exact(ZcP r _).trans (Zhx st x)
  · rfl
theorem Za5:∀(l:List Ln) (st:List Dl),(ZE st l).2=0->(ZE st l).1.2.length=l.length
 | [],st,_=>rfl
 | x::r,st,h=>by
  unfold ZE at h ⊢
  split at h
  · rename_i e
    rw[if_pos e,List.length_cons,List.length_cons,Za5 r _ h]
  · rename_i e
    exact absurd h e
theorem Zdy{st:List Dl}{x:Ln}(h:Zez st x=0):0<=x.n/\x.n<(st.length:Int)/\x.a<=openL (st[x.n.toNat]?.getD Zav):=by
 unfold Zez at h
 split at h
 · cases h
 · rename_i g
   split at h
   · cases h
   · omega
theorem ZiZ{x:Ln}:∀{l:List Ln} {st:List Dl},(ZE st l).2=0->ZE st (l++[x])=if Zez (ZE st l).1.1 x=0 then((Zcr (ZE st l).1.1 x,(ZE st l).1.2++[Zox (ZE st l).1.1 x]),0)else(((ZE st l).1.1,(ZE st l).1.2),Zez (ZE st l).1.1 x)
 | [],st,_=>rfl
 | z::l,st,h=>by
  unfold ZE at h;rw[List.cons_append];by_cases e:Zez st z=0
  · rw[if_pos e]at h;have e1:∀r,ZE st (z::r)=(((ZE (Zcr st z) r).1.1,Zox st z::(ZE (Zcr st z) r).1.2),(ZE (Zcr st z) r).2):=fun r=>if_pos e
    rw[e1,e1,ZiZ h];simp only[]
    split <;> rfl
  · rw[if_neg e]at h;exact absurd h e
theorem Zi0{x:Ln}{r:List Ln}:∀{l:List Ln} {st:List Dl},(ZE st l).2=0->Zez (ZE st l).1.1 x≠0->(ZE st (l++x::r)).2=Zez (ZE st l).1.1 x
 | [],st,_,h=>by
  have h':¬Zez st x=0:=h
  show(ZE st (x::r)).2=Zez st x
  have e1:ZE st (x::r)=((st,[]),Zez st x):=if_neg h';rw[e1]
 | z::l,st,h,h2=>by
  unfold ZE at h;rw[List.cons_append];by_cases e:Zez st z=0
  · rw[if_pos e]at h;have e1:∀r,ZE st (z::r)=(((ZE (Zcr st z) r).1.1,Zox st z::(ZE (Zcr st z) r).1.2),(ZE (Zcr st z) r).2):=fun r=>if_pos e
    rw[e1]at h2 ⊢;rw[e1];exact Zi0 h h2
  · rw[if_neg e]at h;exact absurd h e
theorem Zfs{st:List Dl}{l:List Ln}{j:Nat}{x:Ln}(hx:l[j]?=some x)(h:(ZE st (l.take j)).2=0):ZE st (l.take (j+1))=if Zez (ZE st (l.take j)).1.1 x=0 then((Zcr (ZE st (l.take j)).1.1 x,(ZE st (l.take j)).1.2++[Zox (ZE st (l.take j)).1.1 x]),0)else(((ZE st (l.take j)).1.1,(ZE st (l.take j)).1.2),Zez (ZE st (l.take j)).1.1 x):=by
 obtain⟨hj,rfl⟩:=List.getElem?_eq_some_iff.1 hx;rw[List.take_succ_eq_append_getElem hj,ZiZ h]
theorem Zhy{st:List Dl}{l:List Ln}{j:Nat}{x:Ln}(hx:l[j]?=some x)(h:(ZE st (l.take j)).2=0)(h2:Zez (ZE st (l.take j)).1.1 x≠0):(ZE st l).2=Zez (ZE st (l.take j)).1.1 x:=by
 obtain⟨hj,rfl⟩:=List.getElem?_eq_some_iff.1 hx;have e:l=l.take j++l[j]::l.drop (j+1):=by rw[List.getElem_cons_drop,List.take_append_drop]
 have:=Zi0 (x:=l[j]) (r:=l.drop (j+1)) h h2
 rwa[<-e]at this
theorem Zdd:∀{l:List Ln} {st:List Dl},(∀z∈st,ZaE z)->(∀x∈l,Za7 x)->(∀z∈(ZE st l).1.1,ZaE z)/\∀z∈(ZE st l).1.2,ZaE z
 | [],st,h,_=>⟨h,fun z hz=>by cases hz⟩
 | x::r,st,h,hl=>by
  unfold ZE;split
  · rename_i e
    obtain⟨e1,e2,e3⟩:=Zdy e
    have hz:ZaE (st[x.n.toNat]?.getD Zav):=by
     rw[List.getElem?_eq_getElem (by omega),Option.getD_some];exact h _ (List.getElem_mem _)
    obtain⟨i1,i2⟩:=Zdd (l:=r) (st:=Zcr st x) (fun z hz'=>by
     unfold Zcr at hz';rcases List.mem_or_eq_of_mem_set hz' with hz'|rfl
     · exact h z hz'
     · exact ZnT hz _) fun z hz'=>hl z (List.mem_cons_of_mem _ hz')
    refine⟨i1,fun z hz'=>?_⟩;rcases List.mem_cons.1 hz' with rfl|hz'
    · intro v hv;simp only[Zox,List.mem_cons,List.not_mem_nil,or_false]at hv;rcases hv with rfl|rfl|rfl|rfl
      · exact hz _ (by simp)
      · exact(hl x List.mem_cons_self).2.2.2
      · omega
      · omega
    · exact i2 z hz'
  · exact⟨h,fun z hz=>by cases hz⟩
def Zce(f:Int)(st:List Dl)(l:List Ln)(S:VS):VS:=l.foldl (fun S x=>S.putL f x.n (st[x.n.toNat]?.getD Zav)) S
def ZaZ(f:Int):VS->List Dl->List Ln->VS
 | S,st,[]=>S
 | S,st,x::r=>ZaZ f (S.putL f x.n (ZjD (st[x.n.toNat]?.getD Zav) x.a)) (Zcr st x) r
theorem ZnU(f:Int)(st:List Dl):∀(l:List Ln) (S:VS),(Zce f st l S).W=S.W
 | [],S=>rfl
 | x::r,S=>ZnU f st r (S.putL f x.n (st[x.n.toNat]?.getD Zav))
theorem Zde(f:Int):∀(l:List Ln) (st:List Dl) (S:VS),(ZaZ f S st l).W=S.W
 | [],st,S=>rfl
 | x::r,st,S=>Zde f r (Zcr st x) (S.putL f x.n (ZjD (st[x.n.toNat]?.getD Zav) x.a))
theorem Zgy(f:Int){x:Ln}:∀{l:List Ln} {st:List Dl} {S:VS},(ZE st l).2=0->ZaZ f S st (l++[x])=(ZaZ f S st l).putL f x.n (ZjD ((ZE st l).1.1[x.n.toNat]?.getD Zav) x.a)
 | [],st,S,_=>rfl
 | z::l,st,S,h=>by
  unfold ZE at h;by_cases e:Zez st z=0
  · rw[if_pos e]at h;have e1:ZE st (z::l)=(((ZE (Zcr st z) l).1.1,Zox st z::(ZE (Zcr st z) l).1.2),(ZE (Zcr st z) l).2):=if_pos e;rw[e1];exact Zgy f h
  · rw[if_neg e]at h;exact absurd h e
theorem Zft{S:VS}{n:Nat}(h:Zv S n)(i j:Int)(x:Dl):Zv (S.putL i j x) (n+1):=h.put (by rw[ZZ,Zeb];omega) _
theorem Zgz(f:Int):∀(l:List Ln) (st:List Dl) {S:VS} {n:Nat},Zv S n->Zv (ZaZ f S st l) (n+l.length)
 | [],st,S,n,h=>h
 | x::r,st,S,n,h=>(Zgz f r (Zcr st x) (Zft h f x.n (ZjD (st[x.n.toNat]?.getD Zav) x.a))).more (by rw[List.length_cons];omega)
theorem ZqK{S T:VS}(hS:S.Ok)(hT:T.Ok)(hW:S.W=T.W)(h:∀z,Zf S.C z=Zf T.C z):S=T:=by
 obtain⟨W,C⟩:=S;obtain⟨W',C'⟩:=T;simp only at hW h;have hc:C=C':=ZG.ext hS.c hT.c h;subst hW hc;rfl
theorem ZbQ{S:VS}(h:S.Ok)(i j:Int)(x:Dl):(S.putL i j x).Ok:=h.put _ _
theorem Zlm(f:Int)(st:List Dl):∀(l:List Ln) {S:VS},S.Ok->(Zce f st l S).Ok
 | [],S,h=>h
 | x::r,S,h=>Zlm f st r (ZbQ h f x.n (st[x.n.toNat]?.getD Zav))
theorem Zln(f:Int):∀(l:List Ln) (st:List Dl) {S:VS},S.Ok->(ZaZ f S st l).Ok
 | [],st,S,h=>h
 | x::r,st,S,h=>Zln f r (Zcr st x) (ZbQ h f x.n (ZjD (st[x.n.toNat]?.getD Zav) x.a))
theorem ZcQ{S:VS}(h:S.Ok)(i j:Int)(x:Dl)(z:Txt):Zf (S.putL i j x).C z=if lKy i j=z then some (some (Zg1 x))else Zf S.C z:=Zaf h.c _ _ _
def ZqZ(N:Nat)(l:List Ln):Prop:=∀x∈l,0<=x.n/\x.n<(N:Int)
theorem Zi1{f a b:Int}{N:Nat}(hN:N<=6)(ha:0<=a/\a<(N:Int))(hb:0<=b/\b<(N:Int))(h:lKy f a=lKy f b):a=b:=ZmY ((Zaa _).2 (by omega)) ((Zaa _).2 (by omega)) h
theorem Zdf{f:Int}{st:List Dl}{z:Txt}:∀{l:List Ln} {S:VS},S.Ok->(∀x∈l,lKy f x.n≠z)->Zf (Zce f st l S).C z=Zf S.C z
 | [],S,h,_=>rfl
 | x::r,S,h,hz=>by
  show Zf (Zce f st r (S.putL f x.n (st[x.n.toNat]?.getD Zav))).C z=_;rw[Zdf (ZbQ h _ _ _) fun y hy=>hz y (List.mem_cons_of_mem _ hy),ZcQ h,if_neg (hz x List.mem_cons_self)]
theorem Zi2{f:Int}{st:List Dl}{z:Txt}{N:Nat}(hN:N<=6):∀{l:List Ln} {S:VS},S.Ok->ZqZ N l->∀x∈l,lKy f x.n=z->Zf (Zce f st l S).C z=some (some (Zg1 (st[x.n.toNat]?.getD Zav)))
 | y::r,S,h,hp,x,hx,hz=>by
  show Zf (Zce f st r (S.putL f y.n (st[y.n.toNat]?.getD Zav))).C z=_;by_cases hr:∃u∈r,lKy f u.n=z
  · obtain⟨u,hu,huz⟩:=hr;rw[Zi2 hN (ZbQ h _ _ _) (fun a ha=>hp a (List.mem_cons_of_mem _ ha)) u hu huz,Zi1 hN (hp u (List.mem_cons_of_mem _ hu)) (hp x hx) (huz.trans hz.symm)]
  · rw[Zdf (ZbQ h _ _ _) fun u hu e=>hr ⟨u,hu,e⟩,ZcQ h];rcases List.mem_cons.1 hx with rfl|hx
    · rw[if_pos hz]
    · exact absurd ⟨x,hx,hz⟩ hr
theorem Zdg{f:Int}{z:Txt}:∀{l:List Ln} {st:List Dl} {S:VS},S.Ok->(∀x∈l,lKy f x.n≠z)->Zf (ZaZ f S st l).C z=Zf S.C z
 | [],st,S,h,_=>rfl
 | x::r,st,S,h,hz=>by
  show Zf (ZaZ f (S.putL f x.n (ZjD (st[x.n.toNat]?.getD Zav) x.a)) (Zcr st x) r).C z=_;rw[Zdg (ZbQ h _ _ _) fun y hy=>hz y (List.mem_cons_of_mem _ hy),ZcQ h,if_neg (hz x List.mem_cons_self)]
theorem Zdz{st:List Dl}{x:Ln}{r:List Ln}(h:(ZE st (x::r)).2=0):Zez st x=0/\(ZE (Zcr st x) r).2=0/\(ZE st (x::r)).1.1=(ZE (Zcr st x) r).1.1:=by
 by_cases e:Zez st x=0
 · have e1:ZE st (x::r)=(((ZE (Zcr st x) r).1.1,Zox st x::(ZE (Zcr st x) r).1.2),(ZE (Zcr st x) r).2):=if_pos e;rw[e1]at h ⊢;exact⟨e,h,rfl⟩
 · have e1:ZE st (x::r)=((st,[]),Zez st x):=if_neg e;rw[e1]at h;exact absurd h e
theorem Zby:∀{l:List Ln} {st:List Dl},(ZE st l).2=0->ZqZ st.length l
 | [],st,_=>fun x hx=>by cases hx
 | x::r,st,h=>by
  obtain⟨e,h2,_⟩:=Zdz h
  have:=Zdy e
  intro y hy;rcases List.mem_cons.1 hy with rfl|hy
  · exact⟨this.1,this.2.1⟩
  · have:=Zby h2 y hy
    rwa[Zhx]at this
theorem ZnV{k:Int}:∀{l:List Ln} {st:List Dl},(ZE st l).2=0->0<=k->(∀x∈l,x.n≠k)->(ZE st l).1.1[k.toNat]?=st[k.toNat]?
 | [],st,_,_,_=>rfl
 | x::r,st,h,hk,hz=>by
  obtain⟨e,h2,h3⟩:=Zdz h;rw[h3,ZnV h2 hk fun y hy=>hz y (List.mem_cons_of_mem _ hy)];unfold Zcr
  have:=Zdy e
  rw[List.getElem?_set_ne];intro q;exact hz x List.mem_cons_self (by omega)
theorem Zi3{f:Int}{z:Txt}{N:Nat}(hN:N<=6):∀{l:List Ln} {st:List Dl} {S:VS},S.Ok->st.length=N->(ZE st l).2=0->∀x∈l,lKy f x.n=z->Zf (ZaZ f S st l).C z=some (some (Zg1 ((ZE st l).1.1[x.n.toNat]?.getD Zav)))
 | y::r,st,S,h,hst,hq,x,hx,hz=>by
  have hp:=Zby hq;rw[hst]at hp;obtain⟨e,h2,h3⟩:=Zdz hq;show Zf (ZaZ f (S.putL f y.n (ZjD (st[y.n.toNat]?.getD Zav) y.a)) (Zcr st y) r).C z=_;rw[h3];by_cases hr:∃u∈r,lKy f u.n=z
  · obtain⟨u,hu,huz⟩:=hr;rw[Zi3 hN (ZbQ h _ _ _) ((Zhx st y).trans hst) h2 u hu huz,Zi1 hN (hp u (List.mem_cons_of_mem _ hu)) (hp x hx) (huz.trans hz.symm)]
  · rw[Zdg (ZbQ h _ _ _) fun u hu e=>hr ⟨u,hu,e⟩,ZcQ h];rcases List.mem_cons.1 hx with rfl|hx
    · have hy:=hp x List.mem_cons_self;rw[if_pos hz,ZnV h2 hy.1 fun u hu q=>hr ⟨u,hu,by rw[q];exact hz⟩];unfold Zcr;rw[List.getElem?_set_self (by omega),Option.getD_some]
    · exact absurd ⟨x,hx,hz⟩ hr
theorem Zi4{f:Int}{S:VS}(hS:S.Ok){st:List Dl}{l:List Ln}(hst:st.length<=6)(h:(ZE st l).2=0):Zce f (ZE st l).1.1 l S=ZaZ f S st l:=by
 refine ZqK (Zlm _ _ _ hS) (Zln _ _ _ hS) ((ZnU _ _ _ _).trans (Zde _ _ _ _).symm) fun z=>?_
 by_cases hz:∃x∈l,lKy f x.n=z
 · obtain⟨x,hx,e⟩:=hz;rw[Zi2 hst hS (Zby h) x hx e,Zi3 hst hS rfl h x hx e]
 · rw[Zdf hS fun x hx e=>hz ⟨x,hx,e⟩,Zdg hS fun x hx e=>hz ⟨x,hx,e⟩]
theorem Zkf{S:VS}(h:S.Ok){i j k:Int}{x:Dl}(hi:ZaQ i=true)(hj:ZaQ j=true)(hk:ZaQ k=true)(hx:ZaE x):lineAt (S.putL i j x) i k=if j=k then some x else lineAt S i k:=by
 unfold lineAt VS.putL;rw[h.now_put];by_cases e:j=k
 · subst e;rw[if_pos rfl,if_pos rfl,Option.getD_some];exact ZoI hx hi hj
 · rw[if_neg e,if_neg fun q=>e (ZmY hj hk q)]
theorem Zmf{S:VS}(h:S.Ok)(i j k:Int)(x:Dl):docAt (S.putL i j x) k=docAt S k:=by
 unfold docAt VS.putL;rw[h.now_put,if_neg (Zia (by omega) (by omega) (by omega) _ _)]
theorem Zeo{S:VS}(h:S.Ok){i:Int}{j:Nat}{x:Dl}(hi:ZaQ i=true)(hx:ZaE x)(hj6:j<100):∀{n:Nat} {l:List Dl},n<=100->ZM S i n=some l->ZM (S.putL i j x) i n=some (l.set j x)
 | 0,l,_,hl=>by cases hl;rfl
 | n+1,l,hn,hl=>by
  have hlen:=ZaK hl
  unfold ZM at hl ⊢
  cases h1:ZM S i n with
  | none=>rw[h1]at hl;cases hl
  | some l0=>
   rw[h1]at hl;simp only at hl;have hl0:=ZaK h1;rw[Zeo h hi hx hj6 (by omega) h1];simp only[];rw[Zkf h hi ((Zaa _).2 (by omega)) ((Zaa _).2 (by omega)) hx]
   cases h2:lineAt S i n with
   | none=>rw[h2]at hl;cases hl
   | some u=>
    rw[h2]at hl;cases hl;by_cases e:(j:Int)=(n:Int)
    · have e':j=n:=by omega
      subst e';rw[if_pos rfl];simp only[];rw[List.set_append_right _ _ (by omega),List.set_eq_of_length_le (by omega),hl0,Nat.sub_self];rfl
    · rw[if_neg e];simp only[];rcases Nat.lt_or_ge j n with hlt|hge
      · rw[List.set_append_left _ _ (by omega)]
      · rw[List.set_eq_of_length_le (by omega),List.set_eq_of_length_le (by rw[List.length_append,List.length_singleton];omega)]
theorem ZaT{S:VS}{i:Int}{d:Dc}{l:List Dl}(h:docGet S i=some (d,l)):ZaQ i=true/\docAt S i=some d/\Zcj d=true/\ZM S i d.n.toNat=some l/\1<=l.length/\l.length<=6/\d.n=l.length:=by
 unfold docGet at h
 split at h
 · rename_i hh
   split at h
   · cases h
   · rename_i d' hd
     split at h
     · rename_i hin
       obtain⟨l',hl',e⟩:=Option.map_eq_some_iff.1 h;cases e;have hlen:=ZaK hl';have hin':=hin;unfold Zcj at hin';simp only[Bool.and_eq_true,decide_eq_true_eq]at hin';exact⟨hh,hd,hin,hl',by omega,by omega,by omega⟩
     · cases h
 · cases h
theorem ZnW{S:VS}{i:Int}{d:Dc}{l:List Dl}(h1:ZaQ i=true)(h2:docAt S i=some d)(h3:Zcj d=true)(h4:ZM S i d.n.toNat=some l):docGet S i=some (d,l):=by
 unfold docGet;rw[if_pos h1,h2];simp only[];rw[if_pos h3,h4];rfl
theorem Zfu{S:VS}(h:S.Ok){i:Int}{d:Dc}{l:List Dl}(hg:docGet S i=some (d,l)){j:Nat}(hj:j<l.length){x:Dl}(hx:ZaE x):docGet (S.putL i j x) i=some (d,l.set j x):=by
 obtain⟨h1,h2,h3,h4,h5,h6,h7⟩:=ZaT hg;exact ZnW h1 ((Zmf h i j i x).trans h2) h3 (Zeo h h1 hx (by omega) (by omega) h4)
def takeR(S:VS)(k y f:Int)(l:List Ln):(List Dl×Int)×VS:=
 match docGet S f with
 | none=>(([],7),S)
 | some (d,st)=>if d.k≠k∨d.y≠y then(([],12),S)else if(ZE st l).2=0 then(((ZE st l).1.2,0),ZaZ f S st l)else(([],(ZE st l).2),S)
theorem Zkg(S:VS)(k y f:Int)(l:List Ln):(takeR S k y f l).2.W=S.W:=by
 unfold takeR;split
 · rfl
 · split
   · rfl
   · split
     · exact Zde _ _ _ _
     · rfl
theorem Zfv{S:VS}{n:Nat}(h:Zv S n)(k y f:Int)(l:List Ln):Zv (takeR S k y f l).2 (n+l.length):=by
 unfold takeR;split
 · exact h.more (by omega)
 · split
   · exact h.more (by omega)
   · split
     · exact Zgz _ _ _ h
     · exact h.more (by omega)
theorem Zbq{S:VS}{k y f:Int}{l:List Ln}(h:(takeR S k y f l).1.2=0):(takeR S k y f l).1.1.length=l.length:=by
 unfold takeR at h ⊢
 cases hd:docGet S f with
 | none=>rw[hd]at h;cases h
 | some u=>
  obtain⟨d,st⟩:=u;rw[hd]at h;dsimp only at h ⊢;by_cases g1:d.k≠k∨d.y≠y
  · rw[if_pos g1]at h;cases h
  · rw[if_neg g1]at h ⊢;by_cases g2:(ZE st l).2=0
    · rw[if_pos g2];exact Za5 _ _ g2
    · rw[if_neg g2]at h;exact absurd h g2
def Zqx(over:Bool)(z:Dl):Chg:=⟨z.nd,if over=true then wrap64 (-z.o)else 0,z.o,0⟩
def encNew(S:VS)(y f:Int)(l:List Ln):(Int×Bool×Int)×VS:=
 if yChk S y=0 then
  (if preChk l=0 then
   (if f=0 then ZI S y 2 0 ((l.map ZY).map (Zqx false)) (l.map ZY)
   else if(takeR S 1 y f l).1.2=0 then ZI (takeR S 1 y f l).2 y 2 f ((takeR S 1 y f l).1.1.map (Zqx true)) (takeR S 1 y f l).1.1
   else((0,false,(takeR S 1 y f l).1.2),(takeR S 1 y f l).2))
  else((0,false,1),S))
 else((0,false,yChk S y),S)
theorem Zpj(S:VS)(y f:Int)(l:List Ln):(encNew S y f l).2.W=S.W:=by
 unfold encNew;split
 · split
   · split
     · exact Zhw _ _ _ _ _ _
     · split
       · exact(Zhw _ _ _ _ _ _).trans (Zkg _ _ _ _ _)
       · exact Zkg _ _ _ _ _
   · rfl
 · rfl
theorem Zkh{S:VS}{n:Nat}(h:Zv S n)(y f:Int)(l:List Ln):Zv (encNew S y f l).2 (n+62):=by
 unfold encNew;split
 · split
   · rename_i hp
     have:=Zbp hp
     split
     · exact(ZcO h _ _ _ _ _).more (by rw[List.length_map,List.length_map];omega)
     · split
       · rename_i ht
         exact(ZcO (Zfv h 1 y f l) _ _ _ _ _).more (by rw[List.length_map,Zbq ht];omega)
       · exact(Zfv h 1 y f l).more (by omega)
   · exact h.more (by omega)
 · exact h.more (by omega)
section
variable{S:VS}
theorem Zki(h:S.Ok){y:Int}{x:Nd}(hok:ZbR x)(hy:x.y=y)(hyb:Zbn y=true)(hib:Zbn x.i=true)(i:Int):nodeAt (S.putN x) y i=if x.i=i then some x else nodeAt S y i:=by
 unfold nodeAt VS.putN;rw[hy,h.now_put];by_cases e:x.i=i
 · subst e;rw[if_pos rfl,if_pos rfl,hyb,hib,if_pos (show(true&&true)=true from rfl),Option.getD_some]
   have:=ZoC hok (by rw[hy];exact hyb) hib
   unfold Zms at this;rw[hy]at this;exact this
 · rw[if_neg e];by_cases hh:(Zbn y&&Zbn i)=true
   · rw[if_pos hh,if_pos hh];rw[Bool.and_eq_true]at hh;rw[if_neg (fun q=>e (ZpX hib hh.2 q))]
   · rw[if_neg hh,if_neg hh]
def ZqL(y:Int)(Q:List Nd):Prop:=∀x∈Q,ZbR x/\x.y=y/\Zbn x.i=true
theorem Zbj{S T:VS}(h:∀y i,S.now (nKy y i)=T.now (nKy y i))(y i:Int):nodeAt S y i=nodeAt T y i:=by
 unfold nodeAt;rw[h]
theorem Zlo{t:Int}(ht:0<=t/\t<256)(h:t≠78)(l:List Int)(y i:Int):tx (Zi t l)≠nKy y i:=Zia ht (by omega) h _ _
theorem ZaX(h:S.Ok){t:Int}(ht:0<=t/\t<256)(hn:t≠78)(l v:List Int)(y i:Int):(S.put (tx (Zi t l)) v).now (nKy y i)=S.now (nKy y i):=by
 rw[h.now_put,if_neg (Zlo ht hn l y i)]
theorem ZnX(h:S.Ok)(n y i:Int):(S.next n).now (nKy y i)=S.now (nKy y i):=by
 unfold VS.next;split
 · rfl
 · exact ZaX h (by omega) (by omega) _ _ _ _
theorem Zpk{y:Int}{P:List Nd}(h:∀x∈P,ZbR x/\x.y=y/\Zbn x.i=true)(p e q:Int):ZqL y (P.map fun x=>growN x p e q):=fun x hx=>by
 obtain⟨u,hu,rfl⟩:=List.mem_map.1 hx;obtain⟨a,b,c⟩:=h u hu;refine⟨?_,b,c⟩;intro v hv;simp only[growN,List.mem_cons,List.not_mem_nil,or_false]at hv;rcases hv with rfl|rfl|rfl|rfl|rfl|rfl|rfl|rfl|rfl|rfl|rfl
 · exact a _ (by simp)
 · exact a _ (by simp)
 · exact a _ (by simp)
 · exact a _ (by simp)
 · exact a _ (by simp)
 · exact a _ (by simp)
 · unfold wrap64;omega
 · unfold wrap64;omega
 · unfold wrap64;omega
 · exact a _ (by simp)
 · exact a _ (by simp)
theorem Zmg{y:Int}(hok:∀n,∀i,nodeAt S y i=some n->ZbR n){k:Nat}{i:Int}:∀x∈pathN S y k i,ZbR x/\x.y=y/\Zbn x.i=true:=fun x hx=>by
 have h:=ZgY hx;have g:=Zjq h;exact⟨hok x _ h,g.1,g.2.2.2⟩
end
def ZmI(x:Nd):Nd:=⟨2020,x.i,x.p,x.f,x.o,x.ab,x.li,x.pr,x.en,x.ex,x.la,x.ca⟩
theorem Zkj{x:Nd}(h:ZbR x):ZbR (ZmI x):=by
 intro v hv;simp only[ZmI,List.mem_cons,List.not_mem_nil,or_false]at hv;rcases hv with rfl|rfl|rfl|rfl|rfl|rfl|rfl|rfl|rfl|rfl|rfl
 · omega
 · exact h _ (by simp)
 · exact h _ (by simp)
 · exact h _ (by simp)
 · exact h _ (by simp)
 · exact h _ (by simp)
 · exact h _ (by simp)
 · exact h _ (by simp)
 · exact h _ (by simp)
 · exact h _ (by simp)
 · exact h _ (by simp)
def Zkk:VS:=(⟨[],[]⟩:VS).put (ZbO 2020) (Zj 8 [1])
theorem Zlp:(⟨[],[]⟩:VS).open_ 2020=Zkk:=by
 unfold VS.open_;rw[if_pos (by decide +kernel)];rfl
theorem ZgA:ZdH ((⟨[],[]⟩:VS).now (ZbO 2020)) 2020=0:=by decide +kernel
def Zau(l:List Nd):VS:=(l.map ZmI).foldl VS.putN Zkk
theorem Zkl{l:List Nd}{j:Nat}{x:Nd}(h:l[j]?=some x):Zau (l.take (j+1))=(Zau (l.take j)).putN (ZmI x):=by
 obtain⟨hj,rfl⟩:=List.getElem?_eq_some_iff.1 h;unfold Zau;rw[List.take_succ_eq_append_getElem hj,List.map_append,List.foldl_append];rfl
theorem Zpl(l:List Nd):(Zau l).W = []:=Zfr _ _
theorem ZdX:Zv Zkk 1:=Zv.start.put (by rw[ZZ,ZkN];omega) _
theorem Zkm(l:List Nd):Zv (Zau l) (1+l.length):=by
 have:=Zck (S:=Zkk) (l.map ZmI) ZdX
 rwa[List.length_map]at this
end Go.Proofs.YtiknkbpojmgbhaaGreat
