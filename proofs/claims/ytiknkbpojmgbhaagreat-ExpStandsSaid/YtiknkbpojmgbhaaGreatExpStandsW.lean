/- ExpG, CloN, TriA, TriB, ExpStandsW. Conditions: in each theorem. -/
import Derived.Test.YtiknkbpojmgbhaaGreatExpP
import Derived.Test.YtiknkbpojmgbhaaGreatPreO
import Derived.Test.YtiknkbpojmgbhaaGreatTreC
import Derived.Lib.AppendZeros
import Derived.Test.YtiknkbpojmgbhaaGreatTreP
import Derived.Test.YtiknkbpojmgbhaaGreatBalB
import Derived.Test.YtiknkbpojmgbhaaGreatAnyZ
import Derived.BigQuiet
import Derived.Laws.StructEq
import Derived.Test.YtiknkbpojmgbhaaGreatEncI
import Derived.Test.YtiknkbpojmgbhaaGreatDuo
set_option maxHeartbeats 12800000
set_option maxRecDepth 100000
set_option linter.unusedVariables false
open Go.Proofs.Tryz
open Go.Lib (hid)
namespace Go.Proofs.YtiknkbpojmgbhaaGreat
open Go.RowKit Go.Maps
structure BkN(S:VS):Prop where
 ok:S.Ok
 bk:ZaW S 2020
 nd:∀i n,nodeAt S 2020 i=some n->ZbR n/\n.o=5010
theorem BkN.same{S T:VS}(h:BkN S)(hT:T.Ok)(hb:∀p,Zch p 2020 T.nowL=Zch p 2020 S.nowL)(hn:∀y i,T.now (nKy y i)=S.now (nKy y i)):BkN T:=
 ⟨hT,⟨fun F=>by rw[hb];exact h.bk.1 F,by rw[hb];exact h.bk.2⟩,fun i n hi=>h.nd i n (by rw[<-Zbj hn];exact hi)⟩
theorem BkN.put{S:VS}(h:BkN S){t:Int}(ht:0<=t/\t<256)(h66:t≠66)(h78:t≠78)(l v:List Int):BkN (S.put (tx (Zi t l)) v):=
 h.same (h.ok.put _ _) (fun p=>ZbS h.ok p 2020 ht h66 l v) fun y i=>ZaX h.ok ht h78 l v y i
theorem BkN.putN{S:VS}(h:BkN S){x:Nd}(hx:ZbR x)(hy:x.y=2020)(ho:x.o=5010):BkN (S.putN x):=by
 have hk:nKy 2020 (Zn x.i)=nKy 2020 x.i:=by
  unfold nKy;rw[ZhP 2020 (Zn x.i),ZhP 2020 x.i,Zgr (ZcK x.i)]
 obtain⟨z,hz⟩:∃z:Nd,z=⟨x.y,Zn x.i,x.p,x.f,x.o,x.ab,x.li,x.pr,x.en,x.ex,x.la,x.ca⟩:=⟨_,rfl⟩
 have he:S.putN x=S.putN z:=by
  unfold VS.putN;rw[hz];simp only[];rw[hy,hk];rfl
 have hzok:ZbR z:=by
  rw[hz];intro v hv
  have:=ZcK x.i
  simp only[List.mem_cons,List.not_mem_nil,or_false]at hv;rcases hv with rfl|rfl|rfl|rfl|rfl|rfl|rfl|rfl|rfl|rfl|rfl
  · exact hx _ (by simp)
  · omega
  · exact hx _ (by simp)
  · exact hx _ (by simp)
  · exact hx _ (by simp)
  · exact hx _ (by simp)
  · exact hx _ (by simp)
  · exact hx _ (by simp)
  · exact hx _ (by simp)
  · exact hx _ (by simp)
  · exact hx _ (by simp)
 have hzy:z.y=2020:=by rw[hz];exact hy
 have hzi:Zbn z.i=true:=by rw[hz];exact(ZaC _).2 (ZcK x.i)
 have hzo:z.o=5010:=by rw[hz];exact ho
 rw[he];have hb:∀p,Zch p 2020 (S.putN z).nowL=Zch p 2020 S.nowL:=fun p=>ZbS h.ok p 2020 (by omega) (by omega) _ _
 refine⟨h.ok.put _ _,⟨fun F=>by rw[hb];exact h.bk.1 F,by rw[hb];exact h.bk.2⟩,fun i n hi=>?_⟩;rw[Zki h.ok hzok hzy (by decide) hzi]at hi
 split at hi
 · cases hi;exact⟨hzok,hzo⟩
 · exact h.nd i n hi
theorem BkN.putNs:∀(Q:List Nd) {S:VS},BkN S->(∀x∈Q,ZbR x/\x.y=2020/\x.o=5010)->BkN (Q.foldl VS.putN S)
 | [],S,h,_=>h
 | x::Q,S,h,hQ=>by
  obtain⟨a,b,c⟩:=hQ x List.mem_cons_self;exact BkN.putNs Q (h.putN a b c) fun z hz=>hQ z (List.mem_cons_of_mem _ hz)
theorem BkN.charge{S:VS}(h:BkN S)(i p e q:Int):BkN (chargeR S 2020 i p e q).2:=by
 unfold chargeR;split
 · exact h
 · split
   · exact h
   · split
     · refine h.putNs _ fun x hx=>?_
       have h1:=Zpk (Zmg (S:=S) (y:=2020) (k:=8) (i:=i) fun n j hn=>(h.nd j n hn).1) p e q x hx;refine⟨h1.1,h1.2.1,?_⟩;obtain⟨u,hu,rfl⟩:=List.mem_map.1 hx;exact(h.nd _ _ (ZgY hu)).2
     · exact h
theorem BkN.run:∀(l:List Chg) {S:VS} (wn:Bool),BkN S->BkN (runC 2020 S wn l).2
 | [],S,wn,h=>h
 | x::r,S,wn,h=>by
  unfold runC;split
  · exact BkN.run r _ (h.charge _ _ _ _)
  · exact h.charge _ _ _ _
theorem BkN.next{S:VS}(h:BkN S)(n:Int):BkN (S.next n):=by
 unfold VS.next;split
 · exact h
 · exact h.put (by omega) (by omega) (by omega) _ _
theorem BkN.putLs(i:Int):∀(l:List Dl) {S:VS} (j:Nat),BkN S->BkN (putLs S i j l)
 | [],S,j,h=>h
 | x::r,S,j,h=>BkN.putLs i r (j+1) (h.put (t:=76) (by omega) (by omega) (by omega) _ _)
theorem BkN.doc{S:VS}(h:BkN S)(d:Dc)(l:List Dl):BkN (putDoc S d l).2:=by
 unfold putDoc;split
 · exact h
 · split
   · exact(BkN.putLs _ l 0 (h.next 2)).put (t:=68) (by omega) (by omega) (by omega) _ _
   · exact h
theorem BkN.order{S:VS}(h:BkN S)(k f:Int)(cs:List Chg)(ls:List Dl):BkN (ZI S 2020 k f cs ls).2:=by
 unfold ZI;split
 · split
   · exact(BkN.run cs false h).doc _ _
   · exact(BkN.run cs false h).doc _ _
 · exact BkN.run cs false h
theorem Zhe{S:VS}(h:S.Ok){t:Int}(ht:0<=t/\t<256)(hn:t≠78)(l:List Int)(y i:Int):(S.del (tx (Zi t l))).now (nKy y i)=S.now (nKy y i):=by
 rw[h.now_del,if_neg (Zlo ht hn l y i)]
theorem ZiA{S:VS}(h:S.Ok)(y f o a y' i:Int):(S.addB (bKy y f o) a).now (nKy y' i)=S.now (nKy y' i):=by
 unfold VS.addB VS.setB;split
 · split
   · exact Zhe h (t:=66) (by omega) (by omega) _ _ _
   · exact ZaX h (t:=66) (by omega) (by omega) _ _ _ _
 · rfl
theorem Zdq(y id:Int):∀(r:List Ln) (S:VS) (k:Nat),S.Ok->∀y' i,(Zo y id S k r).1.now (nKy y' i)=S.now (nKy y' i)
 | [],S,k,h,_,_=>rfl
 | l::r,S,k,h,y',i=>by
  have h1:=Zac.put h (ZbT 74 [id,(k:Int)]) (Zj 8 [l.f,l.o,l.a]);have h2:=Zac.addB h1.ok (show(bKy y l.f l.o).length<=60 by rw[ZgT];omega) l.a;have e1:=ZaX h (t:=74) (by omega) (by omega) [id,(k:Int)] (Zj 8 [l.f,l.o,l.a]) y' i;unfold Zo;split
  · rw[Zdq y id r _ (k+1) h2.ok,ZiA h1.ok,e1]
  · show(VS.addB _ _ _).now _=_
    rw[ZiA h1.ok,e1]
theorem Zj1{S:VS}(h:S.Ok)(y kind of_:Int)(all:List Ln)(y' i:Int):(Z7 S y kind of_ all).1.now (nKy y' i)=S.now (nKy y' i):=by
 have h1:=Zac.next h 1;have e1:=ZnX h 1 y' i;have h2:=Zbm y (nextE (seqV (S.now (tx (Zi 83 [1]))))).1 all _ 0 h1.ok;have e2:=(Zdq y (nextE (seqV (S.now (tx (Zi 83 [1]))))).1 all _ 0 h1.ok y' i).trans e1;unfold Z7;split
 · rfl
 · split
   · exact e1
   · split
     · exact e2
     · show(VS.put _ (tx (Zi 69 _)) _).now _=_
       rw[ZaX h2.ok (by omega) (by omega)];exact e2
theorem BkN.entPut{S:VS}(h:BkN S){kind of_:Int}{l:List Ln}(hl:∀x∈l,Za7 x)(hz:ZaU l%18446744073709551616=0)(hd:∀x∈l,x.o≠1900/\x.o≠2900)(h0:(entPut S 2020 kind of_ l).2.2=0):BkN (entPut S 2020 kind of_ l).1:=by
 have hb:=Ziz h.ok h.bk hl hz hd h0
 have hn:∀y i,(Go.Proofs.YtiknkbpojmgbhaaGreat.entPut S 2020 kind of_ l).1.now (nKy y i)=S.now (nKy y i):=fun y i=>by
  unfold Go.Proofs.YtiknkbpojmgbhaaGreat.entPut;split
  · rfl
  · exact Zj1 h.ok _ _ _ _ _ _
 exact⟨(Zcm h.ok 2020 kind of_ l).ok,hb,fun i n hi=>h.nd i n (by rw[<-Zbj hn];exact hi)⟩
theorem Zgi(S:VS)(y:Int):∀(l:List Dl),ZaU (jLines S y l)%18446744073709551616=0
 | []=>rfl
 | z::r=>by
  have ih:=Zgi S y r;show ZaU (ZcW S y z++jLines S y r)%_=0
  unfold ZaU at ih ⊢
  rw[List.map_append,List.sum_append]
  have h1:((ZcW S y z).map Ln.a).sum%18446744073709551616=0:=by
   unfold ZcW;split
   · rfl
   · simp only[List.map_cons,List.map_nil,List.sum_cons,List.sum_nil];unfold wrap64;omega
  omega
theorem BkN.jLines_obj{S:VS}(h:BkN S){l:List Dl}:∀x∈jLines S 2020 l,x.o≠1900/\x.o≠2900:=fun x hx=>by
 obtain⟨z,hz,hx⟩:=List.mem_flatMap.1 hx;unfold ZcW at hx
 split at hx
 · cases hx
 · rename_i n hn
   have ho:=(h.nd _ n hn).2;rcases List.mem_cons.1 hx with rfl|hx
   · exact⟨by show n.o≠_;omega,by show n.o≠_;omega⟩
   · obtain rfl:=List.mem_singleton.1 hx;exact⟨by show(1010:Int)≠_;omega,by show(1010:Int)≠_;omega⟩
theorem BkN.expNew{S:VS}(h:BkN S){l:List Ln}(hl:∀x∈l,Za7 x)(h0:(expNew S 2020 0 l).1.2.2=0):BkN (expNew S 2020 0 l).2:=by
 have hls:∀z∈(l.map ZY).map Zbo,ZaE z:=Zdp fun z hz=>by
  obtain⟨u,hu,rfl⟩:=List.mem_map.1 hz;exact ZcN (hl u hu)
 unfold Go.Proofs.YtiknkbpojmgbhaaGreat.expNew at h0 ⊢
 split at h0
 · rename_i a
   rw[if_pos a]
   split at h0
   · rename_i b
     rw[if_pos b];have e:Zcb S 2020 0 l=(((l.map ZY).map Zbo,0),S):=if_pos rfl;rw[e]at h0 ⊢;simp only[if_true]at h0 ⊢
     unfold Zbe at h0 ⊢
     have h1:=h.order 3 0 (((l.map ZY).map Zbo).map (expCh 0)) ((l.map ZY).map Zbo)
     split at h0
     · rename_i p
       rw[if_pos p]
       split at h0
       · rename_i q
         rw[if_pos q];exact h1.entPut (Zfh (fun n i hn=>(h1.nd i n hn).1) hls) (Zgi _ _ _) h1.jLines_obj q
       · rename_i q
         exact absurd h0 q
     · rename_i p
       exact absurd h0 p
   · cases h0
 · rename_i a
   exact absurd h0 a
theorem BkN.commit{S:VS}(h:BkN S):BkN S.commit:=by
 refine⟨h.ok.commit,h.bk.commit h.ok,fun i n hi=>h.nd i n ?_⟩;rw[<-Zbj (S:=S.commit) (T:=S) fun y i=>?_]
 · exact hi
 · rw[<-h.ok.look,<-h.ok.commitW];rfl
theorem BkN.start:BkN ⟨[],[]⟩:=⟨⟨List.Pairwise.nil,List.Pairwise.nil⟩,ZaW.start 2020,fun i n hi=>by
 unfold nodeAt at hi
 split at hi
 · have:ndK (Zi 78 [2020,i],[])=some n:=hi
   rw[ZkH]at this;cases this
 · cases hi⟩
theorem BkN.begun{l:List Nd}(hl:∀x∈l,ZbR x/\x.o=5010):BkN (Zau l):=by
 refine BkN.putNs _ (BkN.start.put (t:=89) (by omega) (by omega) (by omega) _ _) fun x hx=>?_
 obtain⟨u,hu,rfl⟩:=List.mem_map.1 hx;exact⟨Zkj (hl u hu).1,rfl,(hl u hu).2⟩
structure SpN(S:VS)(n:Nat):Prop where
 many:Zv S n
 bk:BkN S
 ab:BkN S.abort
theorem SpN.more{S:VS}{n m:Nat}(h:SpN S n)(hm:n<=m):SpN S m:=⟨h.many.more hm,h.bk,h.ab⟩
theorem SpN.begun{l:List Nd}(hl:∀x∈l,ZbR x/\x.o=5010):SpN (Zau l) (1+l.length):=⟨Zkm l,BkN.begun hl,by
 have:(Zau l).abort=⟨[],[]⟩:=by unfold VS.abort;rw[Zpl]
 rw[this]
 exact BkN.start⟩
theorem SpN.done{S:VS}{n:Nat}(h:SpN S n){l:List Ln}(hl:∀x∈l,Za7 x)(h0:(expNew S 2020 0 l).1.2.2=0):SpN (expNew S 2020 0 l).2.commit (n+112):=
 ⟨(Zc8 h.many 2020 0 l).commit,(h.bk.expNew hl h0).commit,(h.bk.expNew hl h0).commit⟩
theorem SpN.back{S:VS}{n:Nat}(h:SpN S n)(l:List Ln):SpN (expNew S 2020 0 l).2.abort (n+112):=by
 have e:(expNew S 2020 0 l).2.abort=S.abort:=by unfold VS.abort;rw[Zk8 h.many]
 rw[e];exact⟨h.many.abort.more (by omega),h.ab,h.ab⟩
section
variable{w w':World}{B n g base:Nat}{A:Option Addr}{l:List Nd}
theorem Zj2(c:Nat)(h:NdE.R w B A n l)(hB:B<=w.heap.size)(hn:n<=2147483647) :
 Calls prog 28 #[.slice A n c] w fun e w'=>∃u,e=.returned u/\NdE.Own 40 w' w.heap.size u l/\Below w.heap.size w w':=by
 have q22:∀(w:World) (a:Option Addr) (n c n' c':Nat),(binOp .eql 22 (.slice a n c) (.slice none n' c')).run prog w=.ok (.bool a.isNone) w:=fun w a n c n' c'=>Lib.run_eql_slice_nil w _ _ a n c n' c' underlying22
 rcases A with _|ad
 · have hm:n=0:=by
    rcases Nat.eq_zero_or_pos n with h0|h0
    · exact h0
    · obtain⟨b,off,e,_⟩:=h.2.2 h0;cases e
   subst hm;obtain rfl:l = []:=List.eq_nil_of_length_eq_zero h.len;go_enter func28,ntmps28;go_wp2;go_ret;exact⟨_,rfl,Enc.Own.start _ _ _,Below.refl _ _⟩
 · have hX:Below w.heap.size w (w.alloc (.cells #[] 40 (0,0))):=(Below.refl _ _).alloc (Nat.le_refl _) _;have hO:NdE.Own 40 (w.alloc (.cells #[] 40 (0,0))) w.heap.size (.slice (some ⟨w.heap.size,0,none⟩) 0 0) []:=World.ownsRow_made w #[] 0 (Nat.le_refl _) (Nat.zero_le _) rfl;obtain⟨v',w2,hrun,hown,hb2,_⟩:=hO.appendL NdT (c:=c) (h.below (hX.mono hB)) (by simp) hn hX.size 22;rw[List.nil_append]at hown;have HRUN:=hid hrun;have HE:=hid (And.intro hown (hX.trans hb2));clear hrun hown hb2 hX hO h;go_enter func28,ntmps28
   go_wp2_with (at_builtin;refine Lib.wpList_append_run _ rfl _ _ _ _ rfl _ _ rfl rfl _ _ HRUN.out ?_)
   go_ret;exact⟨_,rfl,HE.out⟩
def Zou(o:Int)(x:Nd):Nd:=⟨x.y,x.i,x.p,x.f,o,x.ab,x.li,x.pr,x.en,x.ex,x.la,x.ca⟩
theorem Zns{o:Int}(ho : -9223372036854775808<=o/\o<9223372036854775808){x:Nd}(h:ZbR x):ZbR (Zou o x):=by
 intro v hv;simp only[Zou,List.mem_cons,List.not_mem_nil,or_false]at hv;rcases hv with rfl|rfl|rfl|rfl|rfl|rfl|rfl|rfl|rfl|rfl|rfl
 · exact h _ (by simp)
 · exact h _ (by simp)
 · exact h _ (by simp)
 · exact h _ (by simp)
 · omega
 · exact h _ (by simp)
 · exact h _ (by simp)
 · exact h _ (by simp)
 · exact h _ (by simp)
 · exact h _ (by simp)
 · exact h _ (by simp)
structure ZmE(w0 w:World)(g n cap:Nat)(o:Int)(l:List Nd)(j:Nat):Prop where
 row:∃vs,Zbh w g n cap vs/\∀a x,l[a]?=some x->NdI vs a (if a<j then Zou o x else x)
 at_:Za (fun k=>k=g) w0 w
theorem NdI.setO{vs:List Value}{a:Nat}{x:Nd}(h:NdI vs a x)(o:Int)(hl:a*12+4<vs.length):NdI (vs.set (a*12+4) (.int .i64 o)) a (Zou o x):=fun k hk=>by
 by_cases e:k=4
 · subst e;rw[List.getElem?_set_self hl];rfl
 · rw[List.getElem?_set_ne (by omega),h k hk]
   have:k=0∨k=1∨k=2∨k=3∨k=5∨k=6∨k=7∨k=8∨k=9∨k=10∨k=11:=by omega
   rcases this with rfl|rfl|rfl|rfl|rfl|rfl|rfl|rfl|rfl|rfl|rfl <;> rfl
theorem ZmE.set{w0:World}{cap j:Nat}{o:Int}{x:Nd}(h:ZmE w0 w g n cap o l j)(hj:j<n)(hx:l[j]?=some x):ZmE w0 (w.setCell ⟨g,j*12+4,none⟩ (.int .i64 o)) g n cap o l (j+1):=by
 obtain⟨⟨vs,hr,hv⟩,ht⟩:=h;have hlen:=hr.len;refine⟨?_,ht.trans (ZW _ _ _ _)⟩;refine⟨vs.set (j*12+4) (.int .i64 o),?_,fun a y hy=>?_⟩
 · obtain⟨cur,h1,h2,h3,h4,rfl⟩:=hr;refine⟨_,heap_setCell_same _ g (j*12+4) _ 40 (.int .i64 o) h1,h2,h3,by simpa using h4,?_⟩;simp only[Array.toList_setIfInBounds,List.take_set]
 · by_cases e:a=j
   · subst e;have h0:=hv a y hy;rw[if_neg (Nat.lt_irrefl a)]at h0;rw[if_pos (Nat.lt_succ_self a)];exact h0.setO o (by omega)
   · have h0:=hv a y hy
     have e1:(if a<j+1 then Zou o y else y)=(if a<j then Zou o y else y):=by
      by_cases q:a<j
      · rw[if_pos q,if_pos (by omega)]
      · rw[if_neg q,if_neg (by omega)]
     rw[e1];intro k hk;rw[List.getElem?_set_ne (by omega)];exact h0 k hk
theorem ZmE.frozen{w0:World}{cap j:Nat}{o:Int}(h:ZmE w0 w g n cap o l j)(k:Nat):w.frozen? ⟨g,k,none⟩=false:=by
 obtain⟨⟨vs,hr,_⟩,_⟩:=h;exact hr.frozen k
theorem ZmE.cell{w0:World}{cap j:Nat}{o:Int}(h:ZmE w0 w g n cap o l j)(hj:j<n):∃u,w.cell? ⟨g,j*12+4,none⟩=some u:=by
 obtain⟨⟨vs,hr,_⟩,_⟩:=h;have hl:=hr.len;exact⟨_,hr.cell (List.getElem?_eq_getElem (by omega))⟩
theorem ZmE.done{w0:World}{cap:Nat}{o:Int}(h:ZmE w0 w g n cap o l n)(hl:l.length=n)(hok:∀x∈l,ZbR x)(ho : -9223372036854775808<=o/\o<9223372036854775808):NdE.R w w.heap.size (some ⟨g,0,none⟩) n (l.map (Zou o)):=by
 obtain⟨⟨vs,hr,hv⟩,_⟩:=h
 have h1:NdE.Own 40 w 0 (.slice (some ⟨g,0,none⟩) n cap) (l.map (Zou o)):=Zoe hr (by rw[List.length_map,hl]) (Nat.le_refl _) (Nat.zero_le _) fun a x hx=>by
  rw[List.getElem?_map]at hx;obtain⟨y,hy,rfl⟩:=Option.map_eq_some_iff.1 hx
  have:=hv a y hy
  rwa[if_pos (by have:=(List.getElem?_eq_some_iff.1 hy).1;omega)]at this
 exact(h1.read (fun x hx=>by
  obtain⟨y,hy,rfl⟩:=List.mem_map.1 hx
  exact Zns ho (hok y hy))).2.2
end
def smV(s:Sm):List Value:=[.int .i64 s.f,.int .i64 s.d,.int .i64 s.c]
def ZmF(s:Sm):Prop:=B64 s.f/\B64 s.d/\B64 s.c
def SmE:Enc Sm:=⟨smV,3,ZmF,fun _=>rfl,by decide,fun x u hu=>by
 unfold smV at hu;simp only[List.mem_cons,List.not_mem_nil,or_false]at hu
 rcases hu with rfl|rfl|rfl <;> rfl⟩
theorem Zo3:(prog.info? 137).map (fun i=>(i.zero,i.size,i.bytes))=some (some (.agg #[.int .i64 0,.int .i64 0,.int .i64 0]),3,24):=by kernel_rfl
theorem SmT:SmE.Ty 134 137:=by
 obtain⟨i0,hi,hz0,hz1,hz2⟩:=info_parts Zo3;exact⟨underlying134,i0,_,hi,hz0,hz1,by omega,rfl⟩
theorem Zq8{w:World}{b off:Nat}{s:Sm}(h:SmE.At w b off s):w.cell? ⟨b,off,none⟩=some (.int .i64 s.f)/\w.cell? ⟨b,off+1,none⟩=some (.int .i64 s.d)/\w.cell? ⟨b,off+2,none⟩=some (.int .i64 s.c):=⟨h 0 (by decide),h 1 (by decide),h 2 (by decide)⟩
theorem ZqB{w:World}{base:Nat}{u:Value}{P:List Sm}{s:Sm}(h:SmE.Own 137 w base u (P++[s]))(hok:∀x∈P++[s],ZmF x):∃g cap,u=.slice (some ⟨g,0,none⟩) (P.length+1) cap/\base<=g/\g<w.heap.size/\(∀o,w.frozen? ⟨g,o,none⟩=false)/\w.cell? ⟨g,P.length*3,none⟩=some (.int .i64 s.f)/\w.cell? ⟨g,P.length*3+1,none⟩=some (.int .i64 s.d)/\w.cell? ⟨g,P.length*3+2,none⟩=some (.int .i64 s.c):=by
 have hlen:(P++[s]).length=P.length+1:=by simp
 obtain⟨A,k,rfl,hk⟩:=h.shape;obtain⟨_,_,hr⟩:=h.read hok;have h':=h;rcases h'.2 with ⟨e,h0⟩|⟨g,cap,cur,e,hb,hg,_⟩
 · rw[hlen]at h0;cases h0
 · injection e with e1 e2 e3;subst e1 e3;obtain⟨b,off,e,hbl,hc⟩:=hr.2.2 (by rw[hlen];omega);injection e with e;injection e with q1 q2 q3;subst q1 q2;obtain⟨c0,c1,c2⟩:=Zq8 (hc P.length s (by simp));simp only[Nat.zero_add,show SmE.K=3 from rfl]at c0 c1 c2;exact⟨g,k,by rw[hlen],hb,(Array.getElem?_eq_some_iff.1 hg).1,fun o=>frozen_of_row w g o _ _ hg,c0,c1,c2⟩
theorem ZqC(P:List Sm)(s:Sm)(j:Nat)(v:Value)(hj:j<3):(SmE.all (P++[s])).set (P.length*3+j) v=SmE.all P++(smV s).set j v:=by
 rw[Enc.all_append];have hl:(SmE.all P).length=P.length*3:=Enc.all_length P;rw[List.set_append_right _ _ (by omega),hl,show P.length*3+j-P.length*3=j by omega]
 congr 1
theorem Zqb{w:World}{base g cap:Nat}{P:List Sm}{s s':Sm}{j:Nat}{v:Value}(h:SmE.Own 137 w base (.slice (some ⟨g,0,none⟩) (P.length+1) cap) (P++[s]))(hj:j<3)(hs:(smV s).set j v=smV s') :
 SmE.Own 137 (w.setCell ⟨g,P.length*3+j,none⟩ v) base (.slice (some ⟨g,0,none⟩) (P.length+1) cap) (P++[s']):=by
 have hlen:(P++[s]).length=P.length+1:=by simp
 have hlen':(P++[s']).length=P.length+1:=by simp
 have h1:w.ownsRow base 137 3 (.slice (some ⟨g,0,none⟩) (P.length+1) cap) (P.length+1) (SmE.all (P++[s])):=by rw[<-hlen];rw[<-hlen]at h;exact h
 have h2:=(h1.stored (P.length*3+j) v).1;rw[ZqC P s j v hj,hs]at h2
 show(w.setCell _ v).ownsRow base 137 3 _ (P++[s']).length (SmE.all (P++[s']))
 rw[hlen',Enc.all_append];exact h2
theorem ZdS(z:Int):IntKind.i64.wrap z=wrap64 z:=by rw[IntKind.wrap_i64];unfold wrap64;rfl
theorem Zfi{w:World}{base pl:Nat}{u:Value}{P:List Sm}{s:Sm}(h:SmE.Own 137 w base u (P++[s]))(hok:∀x∈P++[s],ZmF x)(hpl:P.length=pl):∃g cap,u=.slice (some ⟨g,0,none⟩) (pl+1) cap/\base<=g/\g<w.heap.size/\(∀o,w.frozen? ⟨g,o,none⟩=false)/\w.cell? ⟨g,pl*3,none⟩=some (.int .i64 s.f)/\w.cell? ⟨g,pl*3+1,none⟩=some (.int .i64 s.d)/\w.cell? ⟨g,pl*3+2,none⟩=some (.int .i64 s.c):=by subst hpl;exact ZqB h hok
theorem ZcH{w:World}{base g cap pl:Nat}{P:List Sm}{s s':Sm}{j:Nat}{v:Value}(h:SmE.Own 137 w base (.slice (some ⟨g,0,none⟩) (pl+1) cap) (P++[s]))(hpl:P.length=pl)(hj:j<3)(hs:(smV s).set j v=smV s') :
 SmE.Own 137 (w.setCell ⟨g,pl*3+j,none⟩ v) base (.slice (some ⟨g,0,none⟩) (pl+1) cap) (P++[s']):=by subst hpl;exact Zqb h hj hs
theorem Zgj(p:Int->Int->Bool)(L:List Ln)(x:Ln):Zbd p (L++[x])=Zbd p L+if p x.f x.o then x.a else 0:=by
 rw[Zej,Zap,Ziu,Int.add_zero]
theorem Zhf{L:List Ln}{k:Nat}{x:Ln}(h:L[k]?=some x):dueFrom (L.take (k+1))=if x.o=1900 then wrap64 (dueFrom (L.take k)+x.a)else dueFrom (L.take k):=by
 obtain⟨hk,rfl⟩:=List.getElem?_eq_some_iff.1 h;rw[List.take_succ_eq_append_getElem hk];unfold dueFrom;rw[Zgj];by_cases e:(L[k]).o=1900
 · simp only[e,beq_self_eq_true,if_true];simp only[IntKind.wrap_i64];unfold wrap64;omega
 · simp[e]
theorem Zj3{L:List Ln}{k:Nat}{x:Ln}(h:L[k]?=some x):dueTo (L.take (k+1))=if x.o=2900 then wrap64 (dueTo (L.take k)-x.a)else dueTo (L.take k):=by
 obtain⟨hk,rfl⟩:=List.getElem?_eq_some_iff.1 h;rw[List.take_succ_eq_append_getElem hk];unfold dueTo;rw[Zgj];by_cases e:(L[k]).o=2900
 · simp only[e,beq_self_eq_true,if_true];simp only[IntKind.wrap_i64];unfold wrap64;omega
 · simp[e]
section
variable{w w':World}{v:Nat}{L:List Ln}{y:Int}
def ZlS(w:World)(v:Nat)(y:Int)(L:List Ln):Prop:=Calls prog 133 #[.pointer (some ⟨v,0,none⟩),.int .i64 y] w fun e w'=>∃A k,e=.returned (.slice A L.length k)/\L.length<=k/\RL w' w'.heap.size A L.length L/\Below w.heap.size w w'
theorem Znt(hall:ZlS w v y L)(hl:L.length<=2147483647) :
 Calls prog 69 #[.pointer (some ⟨v,0,none⟩),.int .i64 y] w fun e w'=>e=.returned (.tuple #[.int .i64 (dueFrom L),.int .i64 (dueTo L)])/\Below w.heap.size w w':=by
 have HALL:=hid hall;obtain⟨n,hn⟩:∃n,n=L.length:=⟨_,rfl⟩
 have HNE:=hid hn;unfold ZlS at HALL;rw[<-hn]at HALL hl;clear hall hn;go_enter func69,ntmps69;go_wp2_with fail;refine HALL.out.mono ?_;rintro e w2⟨A,kc,rfl,hkc,hr,hb2⟩;have HR:=hid hr;have HB2:=hid hb2;clear hr hb2 HALL;go_wp2_with fail
 go_loopw[6,7,14] (fun fv tv iv wr=>∃k:Nat,k<=n/\iv=.int .i64 k/\fv=.int .i64 (dueFrom (L.take k))/\tv=.int .i64 (dueTo (L.take k))/\Hid (Below w2.heap.size w2 wr)) (fun _ _ iv _=>n-(intOf iv).toNat)
 case atStart=>exact⟨0,Nat.zero_le _,rfl,rfl,rfl,hid (Below.refl _ _)⟩
 case round=>
  obtain⟨k,hk,rfl,rfl,rfl,hbw⟩:=hrel;by_cases hlt:k<n
  · have hlt':(k:Int)<(n:Int):=by omega
    obtain⟨x,hx⟩:∃x,L[k]?=some x:=⟨_,List.getElem?_eq_getElem (by rw[<-HNE.out];exact hlt)⟩
    obtain⟨b,off,rfl,hb,hat⟩:=(HR.out.below hbw.out).2.2 (by omega);obtain⟨l0,l1,l2,l3⟩:=hat k x hx;have hf:=Zhf hx;have ht:=Zj3 hx;have HX:=hid (show Below w2.heap.size w2 (wr.alloc (.cells #[.int .i64 x.f,.int .i64 x.o,.int .i64 x.n,.int .i64 x.a] 34 (0,0)))from hbw.out.alloc hbw.out.size _);have HFT:=hid (And.intro hf ht);generalize dueFrom (L.take k)=F at HFT;generalize dueTo (L.take k)=T at HFT;obtain⟨xf,xo,xn,xa⟩:=x;simp only at l0 l1 l2 l3 HFT;clear hf ht hat hx hbw;by_cases h1:xo=1900
    · subst h1;go_wp2_with fail;go_roundw
      case rel=>exact⟨k+1,by omega,by go_num,by rw[HFT.out.1,if_pos rfl],by rw[HFT.out.2,if_neg (by decide)],HX⟩
      case measure=>simp[intOf];omega
    · have k1:(xo == 1900)=false:=by simp[h1]
      by_cases h2:xo=2900
      · subst h2;go_wp2_with fail;go_roundw
        case rel=>exact⟨k+1,by omega,by go_num,by rw[HFT.out.1,if_neg (by decide)],by rw[HFT.out.2,if_pos rfl],HX⟩
        case measure=>simp[intOf];omega
      · have k2:(xo == 2900)=false:=by simp[h2]
        have HH:=hid (And.intro h1 h2);clear h1 h2;go_wp2_with fail;go_roundw
        case rel=>exact⟨k+1,by omega,by go_num,by rw[HFT.out.1,if_neg HH.out.1],by rw[HFT.out.2,if_neg HH.out.2],HX⟩
        case measure=>simp[intOf];omega
  · obtain rfl:k=n:=by omega
    have HE:=hid (show L.take k=L from List.take_of_length_le (by rw[<-HNE.out];exact Nat.le_refl _));have HBE:=hid (HB2.out.trans (hbw.out.mono HB2.out.size));go_wp2;go_ret2;rw[HE.out];exact⟨rfl,HBE.out⟩
theorem Zk9{L:List Ln}(h:∀x∈L,Za7 x):∀s∈sumsF L,ZmF s:=by
 refine Zb4 (P:=fun L=>(∀x∈L,Za7 x)->∀s∈sumsF L,ZmF s) (fun _ s hs=>by cases hs) (fun L x ih hL s hs=>?_) L h;have ih:=ih fun z hz=>hL z (List.mem_append_left _ hz)
 have hx:=hL x (by simp);have z0:B64 0:=by unfold B64;omega
 have hup:∀t,ZmF t->∀a,ZmF (upS t a):=fun t ht a=>by
  unfold upS;split
  · exact⟨ht.1,ZdJ _,ht.2.2⟩
  · exact⟨ht.1,ht.2.1,ZdJ _⟩
 rw[ZcG]at hs;unfold Zbi at hs;generalize sumsF L=A at ih hs
 split at hs
 · rename_i t ht
   split at hs
   · rcases List.mem_append.1 hs with hs|hs
     · exact ih s (List.dropLast_subset _ hs)
     · obtain rfl:=List.mem_singleton.1 hs;exact hup t (ih t (List.mem_of_getLast? ht)) _
   · rcases List.mem_append.1 hs with hs|hs
     · exact ih s hs
     · obtain rfl:=List.mem_singleton.1 hs;exact hup _ ⟨hx.1,z0,z0⟩ _
 · rcases List.mem_append.1 hs with hs|hs
   · exact ih s hs
   · obtain rfl:=List.mem_singleton.1 hs;exact hup _ ⟨hx.1,z0,z0⟩ _
theorem Zo4(x:Ln):Zbi [] x = []++[upS ⟨x.f,0,0⟩ x.a]:=rfl
theorem Znu{P:List Sm}{s:Sm}{x:Ln}(h:s.f=x.f):Zbi (P++[s]) x=P++[upS s x.a]:=by
 unfold Zbi;rw[List.getLast?_append,List.getLast?_singleton,List.dropLast_concat];exact if_pos h
theorem Zo5{P:List Sm}{s:Sm}{x:Ln}(h:s.f≠x.f):Zbi (P++[s]) x=(P++[s])++[upS ⟨x.f,0,0⟩ x.a]:=by
 unfold Zbi;rw[List.getLast?_append,List.getLast?_singleton];exact if_neg h
theorem ZlT{L:List Ln}{k:Nat}{x:Ln}(h:L[k]?=some x):sumsF (L.take (k+1))=Zbi (sumsF (L.take k)) x:=by
 obtain⟨hk,rfl⟩:=List.getElem?_eq_some_iff.1 h;rw[List.take_succ_eq_append_getElem hk,ZcG]
theorem ZiB(L:List Ln):(sumsF L).length<=L.length:=by
 refine Zb4 (P:=fun L=>(sumsF L).length<=L.length) (Nat.le_refl _) (fun L x ih=>?_) L;rw[ZcG,List.length_append,List.length_singleton];unfold Zbi;generalize sumsF L=A at ih;split
 · rename_i t ht
   have hpos:0<A.length:=List.length_pos_of_mem (List.mem_of_getLast? ht);split
   · rw[List.length_append,List.length_dropLast,List.length_singleton];omega
   · rw[List.length_append,List.length_singleton];omega
 · rw[List.length_append,List.length_singleton];omega
theorem ZlU(hall:ZlS w v y L)(hl:L.length<=2147483647) :
 Calls prog 68 #[.pointer (some ⟨v,0,none⟩),.int .i64 y] w fun e w'=>∃u,e=.returned u/\SmE.Own 137 w' w.heap.size u (sumsF L)/\(∀s∈sumsF L,ZmF s)/\Below w.heap.size w w':=by
 have HALL:=hid hall;obtain⟨n,hn⟩:∃n,n=L.length:=⟨_,rfl⟩
 have HNE:=hid hn;unfold ZlS at HALL;rw[<-hn]at HALL hl;clear hall hn;go_enter func68,ntmps68;go_wp2_with fail;refine HALL.out.mono ?_;rintro e w2⟨A,kc,rfl,hkc,hr,hb2⟩;have HR:=hid hr;have HB2:=hid hb2;have HSO:=hid (Zk9 hr.ok);clear hr hb2 HALL;go_wp2_with fail
 go_loopw[5,13] (fun u iv wr=>∃k:Nat,k<=n/\iv=.int .i64 k/\Hid (SmE.Own 137 wr w2.heap.size u (sumsF (L.take k)))/\Hid (Below w2.heap.size w2 wr)) (fun _ iv _=>n-(intOf iv).toNat)
 case atStart=>exact⟨0,Nat.zero_le _,rfl,hid (Enc.Own.start _ _ _),hid (Below.refl _ _)⟩
 case round=>
  obtain⟨k,hk,rfl,hown,hbw⟩:=hrel;by_cases hlt:k<n
  · have hlt':(k:Int)<(n:Int):=by omega
    obtain⟨x,hx⟩:∃x,L[k]?=some x:=⟨_,List.getElem?_eq_getElem (by rw[<-HNE.out];exact hlt)⟩
    have hrl:=HR.out.below hbw.out;have hxok:=hrl.ok x (List.mem_of_getElem? hx);have haok:=Zk9 (L:=L.take k) (fun z hz=>hrl.ok z (List.mem_of_mem_take hz));obtain⟨b,off,rfl,hb,hat⟩:=hrl.2.2 (by omega);obtain⟨l0,l1,l2,l3⟩:=hat k x hx;have hst:=ZlT hx;have hlenA:(sumsF (L.take k)).length<=2147483647:=Nat.le_trans (ZiB _) (by rw[List.length_take];omega);have HO:=hid hown.out;generalize sumsF (L.take k)=Q at HO hst haok hlenA;obtain⟨w4,hw4⟩:∃w4,w4=wr.alloc (.cells #[.int .i64 x.f,.int .i64 x.o,.int .i64 x.n,.int .i64 x.a] 34 (0,0)):=⟨_,rfl⟩
    have hb4:Below wr.heap.size wr w4:=by rw[hw4];exact(Below.refl _ _).alloc (Nat.le_refl _) _
    have g4:w4.heap[wr.heap.size]?=some (.cells #[.int .i64 x.f,.int .i64 x.o,.int .i64 x.n,.int .i64 x.a] 34 (0,0)):=by rw[hw4];exact heap_alloc_new wr _
    have hs4:w4.heap.size=wr.heap.size+1:=by rw[hw4];simp
    obtain⟨gl,hgl⟩:∃gl,gl=wr.heap.size:=⟨_,rfl⟩
    have hb24:=hbw.out.trans (hb4.mono hbw.out.size);rw[<-hgl]at g4;have ho4:=HO.out.below hb4;rcases List.eq_nil_or_concat Q with rfl|⟨P,s,rfl⟩
    · obtain⟨A5,k5,hu5,hk5⟩:=ho4.shape;subst hu5;obtain⟨pe,hpe⟩:∃pe,([]:List Sm).length=pe:=⟨_,rfl⟩
      have HPE:=hid hpe;have hpe31:pe<=2147483647:=by rw[<-hpe];exact Nat.zero_le _
      clear hpe;have HD:=hid (show ∀q,SmE.Own 137 (w4.drewN q) w2.heap.size (.slice A5 ([]:List Sm).length k5) []/\(w4.drewN q).heap[gl]?=some (.cells #[.int .i64 x.f,.int .i64 x.o,.int .i64 x.n,.int .i64 x.a] 34 (0,0))/\Below w2.heap.size w2 (w4.drewN q)from fun q=>⟨ho4,g4,⟨hb24.os,hb24.tape,hb24.output,hb24.size,hb24.block⟩⟩);obtain⟨m0,m1,m2,m3⟩:=ZF g4;have HST:=hid hst;have HXO:=hid (And.intro hxok (And.intro haok hlenA));have HNB:=hid (show ∀r,Value.ownBlock (.slice A5 ([]:List Sm).length k5)=some r->r≠gl from fun r hr=>by have:=(HO.out.at_ r hr).2;omega);clear ho4 g4 hb24 hb4 hst haok hxok hat hx hrl hbw HO hown hlenA hk5;simp only[List.length_nil];go_wp2_with fail;rw[<-hgl,<-hw4];clear hgl hw4
      go_quiet (fail)
      obtain⟨wd,hwd⟩:∃wd,wd=w4.drewN nq:=⟨_,rfl⟩
      rw[<-hwd];have hf:=HD.out nq;rw[<-hwd]at hf;obtain⟨hf1,hf2,hf3⟩:=hf;clear hwd HD m0 m1 m2 m3;obtain⟨q0,_⟩:=ZF hf2;have hY:Below wd.heap.size wd (wd.alloc (.cells #[.int .i64 x.f,.int .i64 0,.int .i64 0] 137 (0,0))):=(Below.refl _ _).alloc (Nat.le_refl _) _;obtain⟨v',wE,hrun,ownE,hb6,hgrow,_⟩:=(hf1.below hY).append1 SmT (x:=⟨x.f,0,0⟩) (heap_alloc_new wd _) rfl (show ZmF ⟨x.f,0,0⟩ from⟨HXO.out.1.1,by unfold B64;simp only[];omega,by unfold B64;simp only[];omega⟩) (Nat.le_trans HXO.out.2.2 (Nat.le_refl _)) (Nat.le_trans hf3.size hY.size) 134
      have okE:∀z∈[]++[(⟨x.f,0,0⟩:Sm)],ZmF z:=fun z hz=>by
       rcases List.mem_append.1 hz with hz|hz
       · exact HXO.out.2.1 z hz
       · obtain rfl:=List.mem_singleton.1 hz;exact⟨HXO.out.1.1,by unfold B64;simp only[];omega,by unfold B64;simp only[];omega⟩
      have hglw:=(Array.getElem?_eq_some_iff.1 hf2).1;have boxE:=((hgrow.block gl (Nat.lt_of_lt_of_le hglw hY.size) (fun e=>HNB.out gl e.symm rfl)).trans (hY.block gl hglw)).trans hf2;have belE:=(hf3.trans (hY.mono hf3.size)).trans hb6;have hstE:sumsF (L.take (k+1)) = []++[upS ⟨x.f,0,0⟩ x.a]:=by rw[HST.out];exact Zo4 x
      clear hf1 hf2 hf3 hY hb6 hgrow hglw;obtain⟨g,cap,hu,hgb,hgl2,hfr,c0,c1,c2⟩:=Zfi ownE okE HPE.out;subst hu;obtain⟨m0,m1,m2,m3⟩:=ZF boxE;have HRUN:=hid hrun;clear hrun;have hwr:IntKind.i64.wrap (((pe+1:Nat):Int)-1)=(pe:Int):=by rw[IntKind.wrap_i64];omega
      have hwr2:IntKind.i64.wrap ((pe:Int)+1-1)=(pe:Int):=by rw[IntKind.wrap_i64];omega
      have hi0:(0:Int)<=(pe:Int):=by omega
      by_cases hp:x.a>0
      · have k3:decide (x.a>0)=true:=decide_eq_true hp;have hup:upS (⟨x.f,0,0⟩:Sm) x.a=⟨((⟨x.f,0,0⟩:Sm)).f,wrap64 x.a,((⟨x.f,0,0⟩:Sm)).c⟩:=by unfold upS;rw[if_pos hp,ZdS];simp only[Int.zero_add]
        have HN:=hid (show SmE.Own 137 (wE.setCell ⟨g,pe*3+1,none⟩ (.int .i64 (wrap64 x.a))).drew w2.heap.size (.slice (some ⟨g,0,none⟩) (pe+1) cap) (sumsF (L.take (k+1)))/\Below w2.heap.size w2 (wE.setCell ⟨g,pe*3+1,none⟩ (.int .i64 (wrap64 x.a))).drew from
         ⟨by rw[hstE,hup];exact(ZcH (j:=1) (s:=(⟨x.f,0,0⟩:Sm)) (s':=⟨((⟨x.f,0,0⟩:Sm)).f,wrap64 x.a,((⟨x.f,0,0⟩:Sm)).c⟩) (v:=.int .i64 (wrap64 x.a)) ownE HPE.out (by decide) rfl).below (Below.refl _ _).drew,(belE.setCell hgb _).drew⟩)
        have n1:wE.drew.cell? ⟨g,pe*3+1,none⟩=_:=c1;have n3:wE.drew.cell? ⟨gl,3,none⟩=_:=m3;have nf:wE.drew.frozen? ⟨g,pe*3+1,none⟩=false:=hfr _;clear hup hfr ownE okE boxE belE hstE hgl2 hgb hp
        go_wp2_with (at_builtin;refine Lib.wpList_append_run _ rfl _ _ _ _ rfl _ _ rfl rfl _ _ HRUN.out ?_)
        go_region_law (fail)
        all_goals
         go_wp2_with fail;go_roundw
         case rel=>exact⟨k+1,by omega,by go_num,hid HN.out.1,hid HN.out.2⟩
         case measure=>simp[intOf];omega
      · have k3:decide (x.a>0)=false:=decide_eq_false hp;have hup:upS (⟨x.f,0,0⟩:Sm) x.a=⟨((⟨x.f,0,0⟩:Sm)).f,((⟨x.f,0,0⟩:Sm)).d,wrap64 (-x.a)⟩:=by unfold upS;rw[if_neg hp,ZdS];simp only[Int.zero_sub]
        have HN:=hid (show SmE.Own 137 (wE.setCell ⟨g,pe*3+2,none⟩ (.int .i64 (wrap64 (-x.a)))).drew w2.heap.size (.slice (some ⟨g,0,none⟩) (pe+1) cap) (sumsF (L.take (k+1)))/\Below w2.heap.size w2 (wE.setCell ⟨g,pe*3+2,none⟩ (.int .i64 (wrap64 (-x.a)))).drew from
         ⟨by rw[hstE,hup];exact(ZcH (j:=2) (s:=(⟨x.f,0,0⟩:Sm)) (s':=⟨((⟨x.f,0,0⟩:Sm)).f,((⟨x.f,0,0⟩:Sm)).d,wrap64 (-x.a)⟩) (v:=.int .i64 (wrap64 (-x.a))) ownE HPE.out (by decide) rfl).below (Below.refl _ _).drew,(belE.setCell hgb _).drew⟩)
        have n1:wE.drew.cell? ⟨g,pe*3+2,none⟩=_:=c2;have n3:wE.drew.cell? ⟨gl,3,none⟩=_:=m3;have nf:wE.drew.frozen? ⟨g,pe*3+2,none⟩=false:=hfr _;clear hup hfr ownE okE boxE belE hstE hgl2 hgb hp
        go_wp2_with (at_builtin;refine Lib.wpList_append_run _ rfl _ _ _ _ rfl _ _ rfl rfl _ _ HRUN.out ?_)
        go_region_law (fail)
        all_goals
         go_wp2_with fail;go_roundw
         case rel=>exact⟨k+1,by omega,by go_num,hid HN.out.1,hid HN.out.2⟩
         case measure=>simp[intOf];omega
    · rw[List.concat_eq_append]at HO hst haok hlenA ho4;by_cases hs:s.f=x.f
      · have HSX:=hid hs;obtain⟨pl,hpl⟩:∃pl,P.length=pl:=⟨_,rfl⟩
        have HPL:=hid hpl;have hpl31:pl<2147483647:=by rw[List.length_append,hpl]at hlenA;exact hlenA
        obtain⟨g5,cap5,hu5,hgb5,hgl5,hfr5,e0,e1,e2⟩:=Zfi ho4 haok hpl;subst hu5;have hwr5:IntKind.i64.wrap (((pl+1:Nat):Int)-1)=(pl:Int):=by rw[IntKind.wrap_i64];omega
        have hwr6:IntKind.i64.wrap ((pl:Int)+1-1)=(pl:Int):=by rw[IntKind.wrap_i64];omega
        have hi5:(0:Int)<=(pl:Int):=by omega
        have hz5:((pl:Int)+1 == 0)=false:=by simp;omega
        have hz6:(((pl+1:Nat):Int) == 0)=false:=by simp;omega
        have HPE:=HPL;have hsx:(s.f != x.f)=false:=by simp[hs]
        have HD:=hid (show ∀q,SmE.Own 137 (w4.drewN q) w2.heap.size (.slice (some ⟨g5,0,none⟩) (pl+1) cap5) (P++[s])/\(w4.drewN q).heap[gl]?=some (.cells #[.int .i64 x.f,.int .i64 x.o,.int .i64 x.n,.int .i64 x.a] 34 (0,0))/\Below w2.heap.size w2 (w4.drewN q)from fun q=>⟨ho4,g4,⟨hb24.os,hb24.tape,hb24.output,hb24.size,hb24.block⟩⟩);obtain⟨m0,m1,m2,m3⟩:=ZF g4;have HST:=hid hst;have HXO:=hid (And.intro hxok (And.intro haok hlenA));have HNB:=hid (show ∀r,Value.ownBlock (.slice (some ⟨g5,0,none⟩) (pl+1) cap5)=some r->r≠gl from fun r hr=>by have:=(HO.out.at_ r hr).2;omega);clear ho4 g4 hb24 hb4 hst haok hxok hat hx hrl hbw HO hown hlenA hgb5 hgl5 hfr5 hs hpl;go_wp2_with fail;rw[<-hgl,<-hw4];clear hgl hw4
        go_quiet (fail)
        obtain⟨wd,hwd⟩:∃wd,wd=w4.drewN nq:=⟨_,rfl⟩
        rw[<-hwd];have hf:=HD.out nq;rw[<-hwd]at hf;obtain⟨hf1,hf2,hf3⟩:=hf;clear hwd HD m0 m1 m2 m3 e0 e1 e2 hwr5 hwr6 hi5 hz5 hz6 hsx;have ownE:=hf1;have okE:=HXO.out.2.1;have boxE:=hf2;have belE:=hf3;have hstE:sumsF (L.take (k+1))=P++[upS s x.a]:=by rw[HST.out];exact Znu HSX.out
        obtain⟨wE,hwE⟩:∃wE,wE=wd:=⟨_,rfl⟩
        rw[<-hwE]at ownE boxE belE ⊢;clear hf1 hf2 hf3 hwE;obtain⟨g,cap,hu,hgb,hgl2,hfr,c0,c1,c2⟩:=Zfi ownE okE HPE.out;injection hu with hu1 hu2 hu3;injection hu1 with hu1;injection hu1 with hu1 _ _;subst hu1 hu3;clear hu2;obtain⟨m0,m1,m2,m3⟩:=ZF boxE;have hwr:IntKind.i64.wrap (((pl+1:Nat):Int)-1)=(pl:Int):=by rw[IntKind.wrap_i64];omega
        have hwr2:IntKind.i64.wrap ((pl:Int)+1-1)=(pl:Int):=by rw[IntKind.wrap_i64];omega
        have hi0:(0:Int)<=(pl:Int):=by omega
        by_cases hp:x.a>0
        · have k3:decide (x.a>0)=true:=decide_eq_true hp;have hup:upS (s:Sm) x.a=⟨((s:Sm)).f,wrap64 (((s:Sm)).d+x.a),((s:Sm)).c⟩:=by unfold upS;rw[if_pos hp,ZdS]
          have HN:=hid (show SmE.Own 137 (wE.setCell ⟨g5,pl*3+1,none⟩ (.int .i64 (wrap64 (((s:Sm)).d+x.a)))).drew w2.heap.size (.slice (some ⟨g5,0,none⟩) (pl+1) cap5) (sumsF (L.take (k+1)))/\Below w2.heap.size w2 (wE.setCell ⟨g5,pl*3+1,none⟩ (.int .i64 (wrap64 (((s:Sm)).d+x.a)))).drew from
           ⟨by rw[hstE,hup];exact(ZcH (j:=1) (s:=(s:Sm)) (s':=⟨((s:Sm)).f,wrap64 (((s:Sm)).d+x.a),((s:Sm)).c⟩) (v:=.int .i64 (wrap64 (((s:Sm)).d+x.a))) ownE HPE.out (by decide) rfl).below (Below.refl _ _).drew,(belE.setCell hgb _).drew⟩)
          have n1:wE.drew.cell? ⟨g5,pl*3+1,none⟩=_:=c1;have n3:wE.drew.cell? ⟨gl,3,none⟩=_:=m3;have nf:wE.drew.frozen? ⟨g5,pl*3+1,none⟩=false:=hfr _;clear hup hfr ownE okE boxE belE hstE hgl2 hgb hp;go_wp2_with fail
          go_region_law (fail)
          all_goals
           go_wp2_with fail;go_roundw
           case rel=>exact⟨k+1,by omega,by go_num,hid HN.out.1,hid HN.out.2⟩
           case measure=>simp[intOf];omega
        · have k3:decide (x.a>0)=false:=decide_eq_false hp;have hup:upS (s:Sm) x.a=⟨((s:Sm)).f,((s:Sm)).d,wrap64 (((s:Sm)).c-x.a)⟩:=by unfold upS;rw[if_neg hp,ZdS]
          have HN:=hid (show SmE.Own 137 (wE.setCell ⟨g5,pl*3+2,none⟩ (.int .i64 (wrap64 (((s:Sm)).c-x.a)))).drew w2.heap.size (.slice (some ⟨g5,0,none⟩) (pl+1) cap5) (sumsF (L.take (k+1)))/\Below w2.heap.size w2 (wE.setCell ⟨g5,pl*3+2,none⟩ (.int .i64 (wrap64 (((s:Sm)).c-x.a)))).drew from
           ⟨by rw[hstE,hup];exact(ZcH (j:=2) (s:=(s:Sm)) (s':=⟨((s:Sm)).f,((s:Sm)).d,wrap64 (((s:Sm)).c-x.a)⟩) (v:=.int .i64 (wrap64 (((s:Sm)).c-x.a))) ownE HPE.out (by decide) rfl).below (Below.refl _ _).drew,(belE.setCell hgb _).drew⟩)
          have n1:wE.drew.cell? ⟨g5,pl*3+2,none⟩=_:=c2;have n3:wE.drew.cell? ⟨gl,3,none⟩=_:=m3;have nf:wE.drew.frozen? ⟨g5,pl*3+2,none⟩=false:=hfr _;clear hup hfr ownE okE boxE belE hstE hgl2 hgb hp;go_wp2_with fail
          go_region_law (fail)
          all_goals
           go_wp2_with fail;go_roundw
           case rel=>exact⟨k+1,by omega,by go_num,hid HN.out.1,hid HN.out.2⟩
           case measure=>simp[intOf];omega
      · have HSX:=hid hs;obtain⟨pl,hpl⟩:∃pl,P.length=pl:=⟨_,rfl⟩
        have HPL:=hid hpl;have hpl31:pl<2147483647:=by rw[List.length_append,hpl]at hlenA;exact hlenA
        obtain⟨g5,cap5,hu5,hgb5,hgl5,hfr5,e0,e1,e2⟩:=Zfi ho4 haok hpl;subst hu5;have hwr5:IntKind.i64.wrap (((pl+1:Nat):Int)-1)=(pl:Int):=by rw[IntKind.wrap_i64];omega
        have hwr6:IntKind.i64.wrap ((pl:Int)+1-1)=(pl:Int):=by rw[IntKind.wrap_i64];omega
        have hi5:(0:Int)<=(pl:Int):=by omega
        have hz5:((pl:Int)+1 == 0)=false:=by simp;omega
        have hz6:(((pl+1:Nat):Int) == 0)=false:=by simp;omega
        obtain⟨pe,hpe⟩:∃pe,(P++[s]).length=pe:=⟨_,rfl⟩
        have HPE:=hid hpe;have hpe31:pe<=2147483647:=by rw[<-hpe];exact hlenA
        have hsx:(s.f != x.f)=true:=by simp[hs]
        clear hpe;have HD:=hid (show ∀q,SmE.Own 137 (w4.drewN q) w2.heap.size (.slice (some ⟨g5,0,none⟩) (pl+1) cap5) (P++[s])/\(w4.drewN q).heap[gl]?=some (.cells #[.int .i64 x.f,.int .i64 x.o,.int .i64 x.n,.int .i64 x.a] 34 (0,0))/\Below w2.heap.size w2 (w4.drewN q)from fun q=>⟨ho4,g4,⟨hb24.os,hb24.tape,hb24.output,hb24.size,hb24.block⟩⟩);obtain⟨m0,m1,m2,m3⟩:=ZF g4;have HST:=hid hst;have HXO:=hid (And.intro hxok (And.intro haok hlenA));have HNB:=hid (show ∀r,Value.ownBlock (.slice (some ⟨g5,0,none⟩) (pl+1) cap5)=some r->r≠gl from fun r hr=>by have:=(HO.out.at_ r hr).2;omega);clear ho4 g4 hb24 hb4 hst haok hxok hat hx hrl hbw HO hown hlenA hgb5 hgl5 hfr5 hs hpl;go_wp2_with fail;rw[<-hgl,<-hw4];clear hgl hw4
        go_quiet (fail)
        obtain⟨wd,hwd⟩:∃wd,wd=w4.drewN nq:=⟨_,rfl⟩
        rw[<-hwd];have hf:=HD.out nq;rw[<-hwd]at hf;obtain⟨hf1,hf2,hf3⟩:=hf;clear hwd HD m0 m1 m2 m3 e0 e1 e2 hwr5 hwr6 hi5 hz5 hz6 hsx;obtain⟨q0,_⟩:=ZF hf2;have hY:Below wd.heap.size wd (wd.alloc (.cells #[.int .i64 x.f,.int .i64 0,.int .i64 0] 137 (0,0))):=(Below.refl _ _).alloc (Nat.le_refl _) _;obtain⟨v',wE,hrun,ownE,hb6,hgrow,_⟩:=(hf1.below hY).append1 SmT (x:=⟨x.f,0,0⟩) (heap_alloc_new wd _) rfl (show ZmF ⟨x.f,0,0⟩ from⟨HXO.out.1.1,by unfold B64;simp only[];omega,by unfold B64;simp only[];omega⟩) (Nat.le_trans HXO.out.2.2 (Nat.le_refl _)) (Nat.le_trans hf3.size hY.size) 134
        have okE:∀z∈(P++[s])++[(⟨x.f,0,0⟩:Sm)],ZmF z:=fun z hz=>by
         rcases List.mem_append.1 hz with hz|hz
         · exact HXO.out.2.1 z hz
         · obtain rfl:=List.mem_singleton.1 hz;exact⟨HXO.out.1.1,by unfold B64;simp only[];omega,by unfold B64;simp only[];omega⟩
        have hglw:=(Array.getElem?_eq_some_iff.1 hf2).1;have boxE:=((hgrow.block gl (Nat.lt_of_lt_of_le hglw hY.size) (fun e=>HNB.out gl e.symm rfl)).trans (hY.block gl hglw)).trans hf2;have belE:=(hf3.trans (hY.mono hf3.size)).trans hb6;have hstE:sumsF (L.take (k+1))=(P++[s])++[upS ⟨x.f,0,0⟩ x.a]:=by rw[HST.out];exact Zo5 HSX.out
        clear hf1 hf2 hf3 hY hb6 hgrow hglw;obtain⟨g,cap,hu,hgb,hgl2,hfr,c0,c1,c2⟩:=Zfi ownE okE HPE.out;subst hu;obtain⟨m0,m1,m2,m3⟩:=ZF boxE;have HRUN:=hid hrun;clear hrun;have hwr:IntKind.i64.wrap (((pe+1:Nat):Int)-1)=(pe:Int):=by rw[IntKind.wrap_i64];omega
        have hwr2:IntKind.i64.wrap ((pe:Int)+1-1)=(pe:Int):=by rw[IntKind.wrap_i64];omega
        have hi0:(0:Int)<=(pe:Int):=by omega
        by_cases hp:x.a>0
        · have k3:decide (x.a>0)=true:=decide_eq_true hp;have hup:upS (⟨x.f,0,0⟩:Sm) x.a=⟨((⟨x.f,0,0⟩:Sm)).f,wrap64 x.a,((⟨x.f,0,0⟩:Sm)).c⟩:=by unfold upS;rw[if_pos hp,ZdS];simp only[Int.zero_add]
          have HN:=hid (show SmE.Own 137 (wE.setCell ⟨g,pe*3+1,none⟩ (.int .i64 (wrap64 x.a))).drew w2.heap.size (.slice (some ⟨g,0,none⟩) (pe+1) cap) (sumsF (L.take (k+1)))/\Below w2.heap.size w2 (wE.setCell ⟨g,pe*3+1,none⟩ (.int .i64 (wrap64 x.a))).drew from
           ⟨by rw[hstE,hup];exact(ZcH (j:=1) (s:=(⟨x.f,0,0⟩:Sm)) (s':=⟨((⟨x.f,0,0⟩:Sm)).f,wrap64 x.a,((⟨x.f,0,0⟩:Sm)).c⟩) (v:=.int .i64 (wrap64 x.a)) ownE HPE.out (by decide) rfl).below (Below.refl _ _).drew,(belE.setCell hgb _).drew⟩)
          have n1:wE.drew.cell? ⟨g,pe*3+1,none⟩=_:=c1;have n3:wE.drew.cell? ⟨gl,3,none⟩=_:=m3;have nf:wE.drew.frozen? ⟨g,pe*3+1,none⟩=false:=hfr _;clear hup hfr ownE okE boxE belE hstE hgl2 hgb hp
          go_wp2_with (at_builtin;refine Lib.wpList_append_run _ rfl _ _ _ _ rfl _ _ rfl rfl _ _ HRUN.out ?_)
          go_region_law (fail)
          all_goals
           go_wp2_with fail;go_roundw
           case rel=>exact⟨k+1,by omega,by go_num,hid HN.out.1,hid HN.out.2⟩
           case measure=>simp[intOf];omega
        · have k3:decide (x.a>0)=false:=decide_eq_false hp;have hup:upS (⟨x.f,0,0⟩:Sm) x.a=⟨((⟨x.f,0,0⟩:Sm)).f,((⟨x.f,0,0⟩:Sm)).d,wrap64 (-x.a)⟩:=by unfold upS;rw[if_neg hp,ZdS];simp only[Int.zero_sub]
          have HN:=hid (show SmE.Own 137 (wE.setCell ⟨g,pe*3+2,none⟩ (.int .i64 (wrap64 (-x.a)))).drew w2.heap.size (.slice (some ⟨g,0,none⟩) (pe+1) cap) (sumsF (L.take (k+1)))/\Below w2.heap.size w2 (wE.setCell ⟨g,pe*3+2,none⟩ (.int .i64 (wrap64 (-x.a)))).drew from
           ⟨by rw[hstE,hup];exact(ZcH (j:=2) (s:=(⟨x.f,0,0⟩:Sm)) (s':=⟨((⟨x.f,0,0⟩:Sm)).f,((⟨x.f,0,0⟩:Sm)).d,wrap64 (-x.a)⟩) (v:=.int .i64 (wrap64 (-x.a))) ownE HPE.out (by decide) rfl).below (Below.refl _ _).drew,(belE.setCell hgb _).drew⟩)
          have n1:wE.drew.cell? ⟨g,pe*3+2,none⟩=_:=c2;have n3:wE.drew.cell? ⟨gl,3,none⟩=_:=m3;have nf:wE.drew.frozen? ⟨g,pe*3+2,none⟩=false:=hfr _;clear hup hfr ownE okE boxE belE hstE hgl2 hgb hp
          go_wp2_with (at_builtin;refine Lib.wpList_append_run _ rfl _ _ _ _ rfl _ _ rfl rfl _ _ HRUN.out ?_)
          go_region_law (fail)
          all_goals
           go_wp2_with fail;go_roundw
           case rel=>exact⟨k+1,by omega,by go_num,hid HN.out.1,hid HN.out.2⟩
           case measure=>simp[intOf];omega
  · obtain rfl:k=n:=by omega
    have HE:=hid (show L.take k=L from List.take_of_length_le (by rw[<-HNE.out];exact Nat.le_refl _));have HF:=hid (And.intro (hown.out.base_le HB2.out.size) (HB2.out.trans (hbw.out.mono HB2.out.size)));clear hown;go_wp2;go_ret
    have:=HF.out.1
    rw[HE.out]at this;exact⟨_,rfl,this,HSO.out,HF.out.2⟩
end
section
variable{w w':World}{v:Nat}{L:List Ln}{y:Int}
theorem Zj4(hall:∀W,Below w.heap.size w W->ZlS W v y L)(hl:L.length<=2147483647)(hs:∀s∈sumsF L,s.d=s.c)(hd:dueFrom L=dueTo L) :
 Calls prog 31 #[.pointer (some ⟨v,0,none⟩),.int .i64 y] w fun e w'=>e=.returned (.bool true)/\Below w.heap.size w w':=by
 have HS:=hid (ZlU (hall w (Below.refl _ _)) hl)
 have HD:=hid (show ∀W,Below w.heap.size w W->Calls prog 69 #[.pointer (some ⟨v,0,none⟩),.int .i64 y] W fun e w'=>e=.returned (.tuple #[.int .i64 (dueFrom L),.int .i64 (dueFrom L)])/\Below W.heap.size W w' from fun W hW=>by
  have:=Znt (hall W hW) hl
  rwa[<-hd]at this)
 have HEQ:=hid hs;have hlen:=ZiB L;generalize dueFrom L=D at HD;generalize sumsF L=Q at HS HEQ hlen;obtain⟨n,hn⟩:∃n,n=Q.length:=⟨_,rfl⟩
 have hn31:n<=2147483647:=by omega
 have HNE:=hid hn;clear hall hs hd hlen hn hl;go_enter func31,ntmps31;go_wp2_with fail;refine HS.out.mono ?_;rintro e w2⟨u,rfl,hown,hok,hb2⟩;obtain⟨A,kc,rfl,hkc⟩:=hown.shape;have HR:=hid (hown.read hok).2.2;have HB2:=hid hb2;rw[<-HNE.out]at HR hkc ⊢;clear hown hok hb2 HS;go_wp2_with fail
 go_loopw[13] (fun iv wr=>∃k:Nat,k<=n/\iv=.int .i64 k/\Hid (Below w2.heap.size w2 wr)) (fun iv _=>n-(intOf iv).toNat)
 case atStart=>exact⟨0,Nat.zero_le _,rfl,hid (Below.refl _ _)⟩
 case round=>
  obtain⟨k,hk,rfl,hbw⟩:=hrel;by_cases hlt:k<n
  · have hlt':(k:Int)<(n:Int):=by omega
    obtain⟨x,hx⟩:∃x,Q[k]?=some x:=⟨_,List.getElem?_eq_getElem (by rw[<-HNE.out];exact hlt)⟩
    have hdc:=HEQ.out x (List.mem_of_getElem? hx);obtain⟨b,off,rfl,hb,hat⟩:=(HR.out.below hbw.out).2.2 (by omega);have hat:=hat k x hx;rw[show SmE.K=3 from rfl]at hat;obtain⟨c0,c1,c2⟩:=Zq8 hat;obtain⟨xf,xd,xc⟩:=x;simp only at c0 c1 c2 hdc;subst hdc;have HX:=hid (show Below w2.heap.size w2 (wr.alloc (.cells #[.int .i64 xf,.int .i64 xd,.int .i64 xd] 137 (0,0)))from hbw.out.alloc hbw.out.size _);have heq:(xd != xd)=false:=by simp
    clear hat hx hbw;go_wp2_with fail;go_roundw
    case rel=>exact⟨k+1,by omega,by go_num,HX⟩
    case measure=>simp[intOf];omega
  · obtain rfl:k=n:=by omega
    have HD2:=hid (HD.out wr (HB2.out.trans (hbw.out.mono HB2.out.size)));have HBE:=hid (HB2.out.trans (hbw.out.mono HB2.out.size));have hee:(D == D)=true:=by simp
    go_wp2_with fail;refine HD2.out.mono ?_;rintro e w5⟨rfl,hb5⟩;have HE:=hid (HBE.out.trans (hb5.mono HBE.out.size));clear hb5;go_wp2_with fail;go_ret;exact⟨rfl,HE.out⟩
end
theorem Znv{w:World}{X:Nat->Prop}{v m c:Nat}{S:VS}(h:Ze w X v m c S)(hS:ZnR S)(hW:S.W.length<=2147000000){y:Int}(hy:0<=y/\y<=4294967295):ZlS w v y (Zas ((S.scan (tx (Zi 66 [y]))).map Zaq)):=Zlz h hS hW hy
theorem ZlV{S:VS}{n:Nat}(h:Zv S n)(hn:n<=32767)(x:Txt):(Zas ((S.scan x).map Zaq)).length<=2147483647:=by
 refine Nat.le_trans (ZfX _) ?_
 have:=h.scan x
 omega
section
variable{w w':World}{A A':Option Addr}{n cap n' cap':Nat}{l:List Nd}{l':List ZfN}
theorem Zew(hr:NdE.R w w.heap.size A n l)(hcap:n<=cap)(hn:n<=maxLen)(hr':Dos33E.R w w.heap.size A' n' l')(hcap':n'<=cap')(hn':n'<=maxLen) :
 Calls prog 5 #[.slice A n cap,.slice A' n' cap'] w fun e w'=>e=.returned (.bool true)/\Below w.heap.size w w':=by
 have HF:=hid (Ze6 (A:=A) (cap:=cap) (cap':=cap') hn ⟨w,Nat.le_refl _,Below.refl _ _,hr'⟩ hn');have HIS:=hid (fun h=>Zg5 (n:=n) (l:=l') h);have HA:=hid (fun W=>Ze7 W);have HR:=hid hr;have HR':=hid hr';unfold maxLen at hn hn';clear hr hr';generalize few33B n l'=fw at HF HIS;cases fw with
 | false=>
  clear HIS;go_enter func5,ntmps5;go_wp2_with fail;refine HF.out.mono ?_;rintro u w1⟨rfl,h1⟩;have H1:=hid h1;clear h1 HF;go_wp2_with fail;refine(HA.out w1).mono ?_;rintro u w2⟨rfl,h2⟩;have HE:=hid (H1.out.trans (h2.mono H1.out.size));clear h2;go_wp2_with fail;go_ret;exact⟨rfl,HE.out⟩
 | true=>
 obtain⟨q1,q2,q3⟩:=HIS.out (by first|rfl|trivial);have HFEW:=hid (And.intro q1 (And.intro q2 q3));clear HIS q1 q2 q3;go_enter func5,ntmps5;go_wp2_with fail;refine HF.out.mono ?_;rintro u w1⟨rfl,h1⟩;have HCL:=hid (Zj2 cap ((HR.out.below h1).more h1.size) (Nat.le_refl _) (by have:=HFEW.out.1;omega));have H1:=hid h1;clear h1 HF;go_wp2_with fail;refine HCL.out.mono ?_;rintro u w2⟨u2,rfl,ho2,hb2⟩;have hb02:=H1.out.trans (hb2.mono H1.out.size);obtain⟨A2,c2,rfl,hc2⟩:=ho2.shape;have hlen:=HR.out.len;rw[hlen]at ho2 hc2 ⊢;have HOK:=hid HR.out.ok;have HLEN:=hid hlen
 have H0:=hid (show Below w.heap.size w w2/\((l = []/\n=0)∨∃g,A2=some ⟨g,0,none⟩/\w.heap.size<=g/\ZmE w2 w2 g n c2 5010 l 0)from⟨hb02,by
  by_cases h0:n=0
  · exact .inl ⟨List.eq_nil_of_length_eq_zero (by omega),h0⟩
  · right;have hshape:=ho2;rcases ho2.2 with ⟨e,_⟩|⟨g,cap',cur,e,hg,_⟩
    · cases e;exact absurd (by first|rfl|omega) h0
    · cases e;obtain⟨_,hg,hrow⟩:=Zjo (v:=.slice none 0 0) hshape
      exact⟨g,rfl,Nat.le_trans H1.out.size hg,⟨⟨_,hrow,fun a x hx=>by
       rw[if_neg (Nat.not_lt_zero a)]
       exact fun k hk=>Enc.all_at (E:=NdE) hx k hk⟩,Za.refl _ _⟩⟩⟩)
 clear ho2 hb2 hb02 HCL H1 HR hlen;go_wp2_with fail
 go_loopw[23] (fun iv wr=>∃j:Nat,j<=n/\iv=.int .i64 j/\Hid (Below w.heap.size w wr/\((l = []/\n=0)∨∃g,A2=some ⟨g,0,none⟩/\w.heap.size<=g/\ZmE w2 wr g n c2 5010 l j))) (fun iv _=>n-(intOf iv).toNat)
 case atStart=>exact⟨0,Nat.zero_le _,rfl,H0⟩
 case round=>
  clear H0;obtain⟨j,hj,rfl,HJ⟩:=hrel;by_cases hlt:j<n
  · have hlt':(j:Int)<(n:Int):=by omega
    have hj0:(0:Int)<=(j:Int):=by omega
    obtain⟨hbw,hor⟩:=HJ.out;rcases hor with ⟨_,h0⟩|⟨g,rfl,hg,hod⟩
    · exact absurd hlt (by omega)
    obtain⟨z,hz⟩:∃z,l[j]?=some z:=⟨_,List.getElem?_eq_getElem (by have:=HLEN.out;omega)⟩
    obtain⟨u0,hu0⟩:=hod.cell hlt;have fz:=hod.frozen (j*12+4)
    have HJ:=hid (show Below w.heap.size w (wr.setCell ⟨g,j*12+4,none⟩ (.int .i64 5010))/\((l = []/\n=0)∨∃g',some (⟨g,0,none⟩:Addr)=some ⟨g',0,none⟩/\w.heap.size<=g'/\ZmE w2 (wr.setCell ⟨g,j*12+4,none⟩ (.int .i64 5010)) g' n c2 5010 l (j+1))from
     ⟨hbw.trans ((ZW wr g (j*12+4) (.int .i64 5010)).below (fun k hk=>by rw[hk];exact hg) hbw.size),.inr ⟨g,rfl,hg,hod.set hlt hz⟩⟩)
    clear hbw hod hz hg;go_wp2_with fail;go_roundw
    case rel=>exact⟨j+1,by omega,by go_num,HJ⟩
    case measure=>simp[intOf];omega
  · obtain rfl:j=n:=by omega
    obtain⟨hbw,hor⟩:=HJ.out
    have hown:NdE.R wr wr.heap.size A2 j (l.map (Zou 5010)):=by
     rcases hor with ⟨h1,h0⟩|⟨g,rfl,hg,hod⟩
     · subst h1 h0;exact Enc.R.nil_
     · exact hod.done HLEN.out HOK.out (by omega)
    have HBG:=hid (Zc5 (cap:=c2) hown (Nat.le_trans HFEW.out.1 (by omega)))
    have HSP:=hid (SpN.begun (l:=l.map (Zou 5010)) (fun x hx=>by
     obtain⟨y,hy,rfl⟩:=List.mem_map.1 hx
     exact⟨Zns (by omega) (HOK.out y hy),rfl⟩))
    have HB:=hid hbw;clear hbw hor hown HJ;go_wp2_with fail;refine HBG.out.mono ?_;rintro u w3⟨v,m,c,x,rfl,h3⟩;obtain⟨X,hX⟩:=h3.view_
    have hcB:wr.heap.size<=m/\wr.heap.size<=c:=by
     obtain⟨X',p,q,r,a,z1,z2,z3,z4,z5,z6,z7,z8,z9⟩:=h3;exact⟨(z7 m z1.xm).1,(z7 c z1.xc).1⟩
    have HM:=hid (show w.heap.size<=m/\w.heap.size<=c from⟨Nat.le_trans HB.out.size hcB.1,Nat.le_trans HB.out.size hcB.2⟩);have H0:=hid (show ∃S,Ze w3 X v m c S/\SpN S (21+112*0)/\Below w.heap.size w w3 from⟨_,hX,HSP.out.more (by have:=HFEW.out.1;have:=HLEN.out;rw[List.length_map];omega),HB.out.trans (h3.was.mono HB.out.size)⟩);clear h3 hX hcB HB HBG HSP;go_wp2_with fail
    go_loopw[38] (fun iv wr=>∃i:Nat,i<=n'/\iv=.int .i64 i/\Hid (∃S,Ze wr X v m c S/\SpN S (21+112*i)/\Below w.heap.size w wr)) (fun iv _=>n'-(intOf iv).toNat)
    case atStart=>exact⟨0,Nat.zero_le _,rfl,H0⟩
    case round=>
     clear H0;obtain⟨i,hi,rfl,HJ⟩:=hrel;by_cases hlt:i<n'
     · have hlt':(i:Int)<(n':Int):=by omega
       have hi0:(0:Int)<=(i:Int):=by omega
       obtain⟨S,hv,hsp,hbw⟩:=HJ.out;obtain⟨k,hk⟩:∃k,l'[i]?=some k:=⟨_,List.getElem?_eq_getElem (by rw[HR'.out.len];exact hlt)⟩
       have hi20:i<20:=by have:=HFEW.out.2.1;have:=HR'.out.len;omega
       obtain⟨b,off,rfl,hb,⟨c0,c1,c2'⟩,hin,hkc,hkm,⟨ls,hls⟩⟩:=Zg4 HR'.out hbw hk;obtain⟨wb,hwb⟩:∃wb,wb=wr.alloc (.cells #[.int .i64 k.y,.int .i64 k.f,.slice k.a k.n k.c] 55 (0,0)):=⟨_,rfl⟩
       have hbb:Below wr.heap.size wr wb:=by rw[hwb];exact(Below.refl _ _).alloc (Nat.le_refl _) _
       have hblk:wb.heap[wr.heap.size]?=some (.cells #[.int .i64 k.y,.int .i64 k.f,.slice k.a k.n k.c] 55 (0,0)):=by rw[hwb];exact heap_alloc_new wr _
       have hbw2:=hbw.trans (hbb.mono hbw.size);have hlsb:=hls.below (hbb.mono hbw.size);have HP:=hid (ZdQ (cap:=k.c) (hv.below hbb) (y:=2020) (f:=0) (by unfold ZS;omega) (by unfold ZS;omega) (l:=ls) (fun W hW=>(hlsb.below (hW.below (fun q hq=>by rw[hq];exact HM.out.2) hbw2.size)).more (Nat.le_trans hbw2.size hW.size)) hkc (Nat.le_trans hkc hkm) (by have:=hsp.many.len;omega));have HLN:=hid hlsb.ok;have HSP:=hid (And.intro hsp (show 21+112*(i+1)<=2500 by omega));have HB:=hid hbw2;have HDN:=hid (fun h0=>hsp.done hlsb.ok h0);have HBK:=hid (hsp.back ls);have HMN:=hid (Zc8 hsp.many 2020 0 ls);clear hv hsp hbw hk hb hin hkc hkm hls hbb hblk hbw2 hlsb HJ;generalize expNew S 2020 0 ls=R at HP HDN HBK HMN;obtain⟨⟨ra,rb,re⟩,RS⟩:=R;obtain⟨ky,kf,ka,kn,kc⟩:=k;simp only at HP HDN HBK HMN hwb c0 c1 c2';go_wp2_with fail;rw[<-hwb];clear hwb c0 c1 c2';refine HP.out.mono ?_;rintro u w5⟨rfl,h5,t5⟩;have hb5:=HB.out.trans (t5.below (fun q hq=>by rw[hq];exact HM.out.2) HB.out.size);by_cases he:re=0
       · subst he;have HSD:=hid (HDN.out rfl);have HCO:=hid (Ze1 h5 (by have:=HMN.out.len;have:=HSP.out.2;omega) (fun p hp=>Nat.le_trans (HMN.out.ck p hp) (by decide)) (by have:=HMN.out.len;have:=HSP.out.2;omega));have HB5:=hid hb5;clear h5 t5 hb5 HP HDN HB HLN HBK HMN;go_wp2_with fail;refine HCO.out.mono ?_;rintro u w6⟨rfl,h6,t6⟩;have hb6:=HB5.out.trans (t6.below (fun q hq=>by rcases hq with hq|hq;exact(by rw[hq];exact HM.out.1);exact(by rw[hq];exact HM.out.2)) HB5.out.size);have HTR:=hid (Zj4 (w:=w6) (v:=v) (y:=2020) (fun W hW=>Znv (h6.below hW) (HSD.out.many.scanOk (by have:=HSP.out.2;omega)) (by have:=HSD.out.many.len;have:=HSP.out.2;omega) (by omega)) (ZlV HSD.out.many (by have:=HSP.out.2;omega) _) (HSD.out.bk.bk.level HSD.out.bk.ok (by omega)) HSD.out.bk.bk.due);have HJ6:=hid (And.intro h6 hb6);clear h6 t6 hb6 HCO HB5;go_wp2_with fail;refine HTR.out.mono ?_;rintro u w7⟨rfl,hb7⟩;have HJ:=hid (show ∃S,Ze w7 X v m c S/\SpN S (21+112*(i+1))/\Below w.heap.size w w7 from⟨_,HJ6.out.1.below hb7,HSD.out.more (by omega),HJ6.out.2.trans (hb7.mono HJ6.out.2.size)⟩);clear hb7 HTR HJ6 HSD HSP;go_wp2_with fail;go_roundw
         case rel=>exact⟨i+1,by omega,by go_num,HJ⟩
         case measure=>simp[intOf];omega
       · have ke:(re != 0)=true:=by simp[he]
         have HAB:=hid (ZgK h5);have HB5:=hid hb5;clear h5 t5 hb5 HP HDN HB he HLN HMN;go_wp2_with fail;refine HAB.out.mono ?_;rintro u w6⟨rfl,h6,t6⟩;have HJ:=hid (show ∃S,Ze w6 X v m c S/\SpN S (21+112*(i+1))/\Below w.heap.size w w6 from⟨_,h6,HBK.out.more (by omega),HB5.out.trans (t6.below (fun q hq=>by rw[hq];exact HM.out.2) HB5.out.size)⟩);clear h6 t6 HAB HBK HB5 HSP;go_wp2_with fail;go_roundw
         case rel=>exact⟨i+1,by omega,by go_num,HJ⟩
         case measure=>simp[intOf];omega
     · obtain rfl:i=n':=by omega
       have HE:=hid HJ.out;clear HJ;go_wp2_with fail;refine(HA.out wr).mono ?_;rintro u w9⟨rfl,h9⟩
       have HE9:=hid (show Below w.heap.size w w9 from by
        obtain⟨S,_,_,hb⟩:=HE.out
        exact hb.trans (h9.mono hb.size))
       clear h9 HE;go_wp2_with fail;go_ret;exact⟨rfl,HE9.out⟩
end
end Go.Proofs.YtiknkbpojmgbhaaGreat
