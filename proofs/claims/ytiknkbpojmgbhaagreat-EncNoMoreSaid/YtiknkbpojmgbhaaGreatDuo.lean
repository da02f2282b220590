/- ViewF, Duo. Conditions: in each theorem. -/
import Derived.Test.YtiknkbpojmgbhaaGreatViewE
import Derived.Test.YtiknkbpojmgbhaaGreatDocS
import Derived.Test.YtiknkbpojmgbhaaGreatManS
set_option maxHeartbeats 1600000
set_option maxRecDepth 100000
set_option linter.unusedVariables false
open Go.Proofs.Tryz
open Go.Lib (hid)
namespace Go.Proofs.YtiknkbpojmgbhaaGreat
open Go.RowKit Go.Maps
section
variable{w w':World}{X:Nat->Prop}{v m c:Nat}{S:VS}
theorem Ze.valLen(h:Ze w X v m c S):∀p∈S.puts,p.2.length<=140737488355328:=by
 intro p hp;obtain⟨q,hq,hqp⟩:=List.mem_filterMap.1 hp;obtain⟨k1,k2,_⟩:=VS.putsF_key hqp;obtain⟨f,_,h2⟩:=h.chg;obtain⟨u,_,hu⟩:=(h2 q.1).2 _ (h.ok.c.look (show(q.1,q.2)∈S.C from hq));rw[k2]at hu;obtain⟨v,_,A,n,c,_,_,h3,h4,_⟩:=hu;rw[h4.len];exact h3
theorem Zm6(S:VS):S.puts.length<=S.C.length:=List.length_filterMap_le _ _
theorem Zp3(S:VS):S.dels.length<=S.C.length:=List.length_filterMap_le _ _
theorem Ze1(h:Ze w X v m c S)(hfew:S.C.length<=32767)(hkeys:∀p∈S.C,p.1.length<=140737488355328)(hW:S.W.length<=4611686018427387904) :
 Calls prog 30 #[.pointer (some ⟨v,0,none⟩)] w fun e w'=>e=.returned (.int .i64 0)/\Ze w' X v m c S.commit/\Za (fun k=>k=m∨k=c) w w':=by
 have HE:=hid (ZhR h);have HC:=hid (Zjy h hfew hkeys);have HH:=hid h;have HF:=hid (And.intro hfew hW)
 have hm : ∀ n (w : World), (method (n + 1) 160 (.map (some m)) "Write").run prog w = .ok (492, .map (some m)) w := fun n w => by kernel_rfl
 clear h hfew hkeys hW;go_enter func30,ntmps30;go_wp2_with fail;refine HE.out.mono ?_;rintro e w'⟨rfl,rfl⟩;go_wp2_with fail;refine HC.out.mono ?_;rintro e w1⟨A,n,k,A',n',k',rfl,hnk,hP,hnk',hT,hb⟩;have hv1:=HH.out.below hb;obtain⟨d0,d1,d2,_⟩:=hv1.cells;have hpn:n<=32767:=by rw[<-hP.len,List.length_map];exact Nat.le_trans (Zm6 S) HF.out.1
 have hdn:n'<=32767:=by rw[<-hT.len,List.length_map];exact Nat.le_trans (Zp3 S) HF.out.1
 have HWr:=hid (Zjx (k:=k) (k':=k') hv1.mem hv1.ok.w hv1.xm hv1.lt hP hT (Nat.le_refl _) (by unfold maxLen;omega) (by unfold maxLen;omega) HH.out.valLen (by
  have:=HF.out
  have:=Zm6 S
  unfold maxLen
  omega))
 have HV1:=hid hv1;have HB:=hid hb;clear hnk hP hnk' hT hb hv1 hpn hdn;go_wp2_with fail;refine HWr.out.mono ?_;rintro e w2⟨rfl,hm2,ht2⟩;have hg2:w1.grownBy w2 (some m):=⟨ht2.os,ht2.tape,ht2.output,ht2.size,fun k hk hne=>ht2.block k hk (fun e=>hne (by rw[e]))⟩
 have hv2:=HV1.out.turnM hg2 hm2 HV1.out.ok.written.1;have HMe:=hid (ZdD hv2);obtain⟨w3,hrun,hm3,hg3⟩:=hv2.chg.clear_ underlying125 0;have hv3:Ze w3 X v m c S.commit:=hv2.turnC hg3 hm3 List.Pairwise.nil;obtain⟨f0,f1,f2,_⟩:=hv2.cells;have HFIN:=hid (And.intro hv3 (((Za.of_below HB.out).trans (ht2.mono fun k hk=>.inl hk)).grown (F:=fun k=>k=m∨k=c) hg3 (.inr rfl)));clear hm2 ht2 hg2 hv2 hm3 hg3 hv3 d0 d1 d2;go_wp2_with fail;refine HMe.out.mono ?_;rintro e w2'⟨rfl,rfl⟩;go_wp2_with fail;go_ret;exact⟨rfl,HFIN.out⟩
variable{u:Value}
end
def Duo(Y:Nat->Prop)(w0:World)(B N:Nat)(v m c x:Nat)(S T:VS)(w:World):Prop:=
 ∃(X:Nat->Prop) (p q r:Nat) (a:TL),Ze w X v m c S/\ZP w X x p q r a T N/\Zql v m c x p q r/\Zv S N/\Zv T N/\S.W=T.W/\(∀k,X k->B<=k/\¬Y k)/\(∀k,Y k->k<w.heap.size)/\Below B w0 w
def ZbP(Y:Nat->Prop)(B:Nat)(w w':World):Prop:=(∀k,Y k->w'.heap[k]?=w.heap[k]?)/\w.heap.size<=w'.heap.size/\Below B w w'
section
variable{w w' w0:World}{v m c x B N:Nat}{Y Z:Nat->Prop}{S T:VS}
theorem ZbP.trans{w1 w2:World}(h:ZbP Y B w w1)(g:ZbP Y B w1 w2):ZbP Y B w w2:=⟨fun k hk=>(g.1 k hk).trans (h.1 k hk),Nat.le_trans h.2.1 g.2.1,h.2.2.trans g.2.2⟩
theorem ZbP.of_below(hY:∀k,Y k->k<w.heap.size)(hB:B<=w.heap.size)(hb:Below w.heap.size w w'):ZbP Y B w w':=⟨fun k hk=>hb.block k (hY k hk),hb.size,hb.mono hB⟩
theorem ZbP.size(h:ZbP Y B w w'):w.heap.size<=w'.heap.size:=h.2.1
theorem Duo.was(h:Duo Y w0 B N v m c x S T w):Below B w0 w:=by
 obtain⟨X,p,q,r,a,h1,h2,h3,h4,h5,h6,h7,h8,h9⟩:=h;exact h9
theorem Duo.old(h:Duo Y w0 B N v m c x S T w):∀k,Y k->k<w.heap.size:=by
 obtain⟨X,p,q,r,a,h1,h2,h3,h4,h5,h6,h7,h8,h9⟩:=h;exact h8
theorem Duo.many(h:Duo Y w0 B N v m c x S T w):Zv S N/\Zv T N:=by
 obtain⟨X,p,q,r,a,h1,h2,h3,h4,h5,h6,h7,h8,h9⟩:=h;exact⟨h4,h5⟩
theorem Duo.more{M:Nat}(h:Duo Y w0 B N v m c x S T w)(hM:N<=M):Duo Y w0 B M v m c x S T w:=by
 obtain⟨X,p,q,r,a,h1,h2,h3,h4,h5,h6,h7,h8,h9⟩:=h;exact⟨X,p,q,r,a,h1,h2.more hM,h3,h4.more hM,h5.more hM,h6,h7,h8,h9⟩
theorem Duo.own(h:Duo Y w0 B N v m c x S T w)(hB:B<=w.heap.size)(hb:Below w.heap.size w w')(hZ:∀k,Z k->Y k∨(w.heap.size<=k/\k<w'.heap.size)):Duo Z w0 B N v m c x S T w':=by
 obtain⟨X,p,q,r,a,h1,h2,h3,h4,h5,h6,h7,h8,h9⟩:=h;refine⟨X,p,q,r,a,h1.below hb,h2.below hb,h3,h4,h5,h6,fun k hk=>⟨(h7 k hk).1,fun hz=>?_⟩,fun k hk=>?_,h9.trans (hb.mono hB)⟩
 · rcases hZ k hz with hy|hy
   · exact(h7 k hk).2 hy
   · have:=h1.lt k hk
     omega
 · rcases hZ k hk with hy|hy
   · exact Nat.lt_of_lt_of_le (h8 k hy) hb.size
   · exact hy.2
theorem Duo.below(h:Duo Y w0 B N v m c x S T w)(hB:B<=w.heap.size)(hb:Below w.heap.size w w'):Duo Y w0 B N v m c x S T w':=h.own hB hb fun k hk=>.inl hk
theorem Duo.view_(h:Duo Y w0 B N v m c x S T w):∃X,Ze w X v m c S:=by
 obtain⟨X,p,q,r,a,h1,h2,h3,h4,h5,h6,h7,h8,h9⟩:=h;exact⟨X,h1⟩
theorem Duo.view(h:Duo Y w0 B N v m c x S T w)(hB:B<=w.heap.size){S':VS}{M:Nat}{f:FuncId}{args:Array Value}{P:Ending->World->Prop}(hS:Zv S N->Zv S' M)(hW:S'.W=S.W)(hM:N<=M)
 (H:∀X,Ze w X v m c S->Zv S N->(∀k,X k->B<=k)->Calls prog f args w fun e w'=>P e w'/\Ze w' X v m c S'/\Za (fun k=>k=c) w w') :
 Calls prog f args w fun e w'=>P e w'/\Duo Y w0 B M v m c x S' T w'/\ZbP Y B w w':=by
 obtain⟨X,p,q,r,a,h1,h2,h3,h4,h5,h6,h7,h8,h9⟩:=h;refine(H X h1 h4 fun k hk=>(h7 k hk).1).mono ?_;rintro e w1⟨hp,hv,ht⟩;have hcB:∀k,k=c->B<=k:=fun k hk=>by rw[hk];exact(h7 _ h1.xc).1
 have hb:Below B w w1:=ht.below hcB hB;obtain⟨b,d,hr,hl,hb',hd'⟩:=h2;have ht':Za (fun k=>k=m∨k=c) w w1:=⟨ht.os,ht.tape,ht.output,ht.size,fun k hk hn=>ht.block k hk fun e=>hn (.inr e)⟩
 have hr1:ZH w1 X x p q r a b d:=hr.keep ht.size (fun _ _ h=>h) (fun _ h=>h) (fun k hk=>Nat.lt_of_lt_of_le (hr.old k hk) ht.size) (fun k hk hh=>ht.block k hk fun e=>by
  obtain⟨f1,f2,f3,f4⟩:=h3 c (.inr (.inr rfl));rw[e]at hh;rcases hh with hh|hh|hh|hh|hh
  · exact f1 hh
  · exact f2 hh
  · exact f3 hh
  · exact f4 hh
  · exact hh h1.xc)
 refine⟨hp,⟨X,p,q,r,a,hv,⟨b,d,hr1,hl,Nat.le_trans hb' hM,Nat.le_trans hd' hM⟩,h3,hS h4,h5.more hM,hW.trans h6,h7,fun k hk=>Nat.lt_of_lt_of_le (h8 k hk) ht.size,h9.trans hb⟩,fun k hk=>ht.block k (h8 k hk) fun e=>(h7 c h1.xc).2 (e ▸ hk),ht.size,hb⟩
theorem Duo.ref(h:Duo Y w0 B N v m c x S T w)(hB:B<=w.heap.size){M:Nat}{f:FuncId}{args:Array Value}{P:Ending->World->VS->Prop}(hM:N<=M)
 (H:∀X p q r a,ZP w X x p q r a T N->Zv T N->(∀k,X k->B<=k)->Calls prog f args w fun e w'=>∃T',P e w' T'/\ZP w' X x p q r a T' M/\Zv T' M/\T'.W=T.W/\Za (fun k=>k=q∨k=r) w w') :
 Calls prog f args w fun e w'=>∃T',P e w' T'/\Duo Y w0 B M v m c x S T' w'/\ZbP Y B w w':=by
 obtain⟨X,p,q,r,a,h1,h2,h3,h4,h5,h6,h7,h8,h9⟩:=h;refine(H X p q r a h2 h5 fun k hk=>(h7 k hk).1).mono ?_;rintro e w1⟨T',hp,hr,hm,hw,ht⟩;have hown:=h2.own
 have hqB:∀k,k=q∨k=r->B<=k:=fun k hk=>by
  rcases hk with hk|hk
  · rw[hk];exact(h7 _ hown.1).1
  · rw[hk];exact(h7 _ hown.2).1
 have hb:Below B w w1:=ht.below hqB hB;obtain⟨b,d,hr0,_,_,_⟩:=h2;have hv:Ze w1 X v m c S:=ZhG h1 hr0 h3 ht (fun k hk=>by rcases hk with e|e;exact .inr (.inr (.inl e));exact .inr (.inr (.inr e))) (fun _ _ h=>h) (fun _ h=>h) (fun k hk=>Nat.lt_of_lt_of_le (h1.lt k hk) ht.size);refine⟨T',hp,⟨X,p,q,r,a,hv,hr,h3,h4.more hM,hm,h6.trans hw.symm,h7,fun k hk=>Nat.lt_of_lt_of_le (h8 k hk) ht.size,h9.trans hb⟩,fun k hk=>ht.block k (h8 k hk) fun e=>?_,ht.size,hb⟩;rcases e with e|e
 · exact(h7 q hown.1).2 (e ▸ hk)
 · exact(h7 r hown.2).2 (e ▸ hk)
theorem Duo.tell(h:Duo Y w0 B N v m c x S T w){f:FuncId}{args:Array Value}{P:Ending->World->Prop}
 (H:∀X,Ze w X v m c S->Zv S N->Calls prog f args w P):Calls prog f args w P:=by
 obtain⟨X,p,q,r,a,h1,h2,h3,h4,h5,h6,h7,h8,h9⟩:=h;exact H X h1 h4
theorem Duo.tellR(h:Duo Y w0 B N v m c x S T w){f:FuncId}{args:Array Value}{P:Ending->World->Prop}
 (H:∀X p q r a,ZP w X x p q r a T N->Zv T N->Calls prog f args w P):Calls prog f args w P:=by
 obtain⟨X,p,q,r,a,h1,h2,h3,h4,h5,h6,h7,h8,h9⟩:=h;exact H X p q r a h2 h5
theorem Duo.same(h:Duo Y w0 B N v m c x S S w)(hN:N<=32767) :
 Calls prog 37 #[.pointer (some ⟨v,0,none⟩),.pointer (some ⟨x,0,none⟩)] w fun e w'=>e=.returned (.bool true)/\Below w.heap.size w w':=by
 obtain⟨X,p,q,r,a,h1,⟨b,d,hr,hl,hb,hd⟩,h3,h4,h5,h6,h7,h8,h9⟩:=h;have hlen:=h4.len;exact Zpu h1 hr hl (by omega) (fun p hp=>Nat.le_trans (h4.wk p hp) (by decide)) (by omega) (fun p hp=>Nat.le_trans (h4.ck p hp) (by decide)) (by omega)
theorem Duo.commit(h:Duo Y w0 B N v m c x S S w)(hB:B<=w.heap.size)(hN:N<=32767) :
 Calls prog 30 #[.pointer (some ⟨v,0,none⟩)] w fun e w1=>e=.returned (.int .i64 0)/\
  Calls prog 34 #[.pointer (some ⟨x,0,none⟩)] w1 fun e w2=>e=.returned (.tuple #[])/\Duo Y w0 B N v m c x S.commit S.commit w2/\ZbP Y B w w2:=by
 obtain⟨X,p,q,r,a,h1,⟨b,d,hr,hl,hb,hd⟩,h3,h4,h5,h6,h7,h8,h9⟩:=h;have hlen:=h4.len;refine(Ze1 h1 (by omega) (fun p hp=>Nat.le_trans (h4.ck p hp) (by decide)) (by omega)).mono ?_;rintro e w1⟨rfl,hv1,ht1⟩;have hboth:Zqm w X v m c x p q r S a b d:=⟨h1,hr,hl,h3⟩
 refine⟨rfl,(ZhF (hboth.afterView ht1)).mono ?_⟩;rintro e w2⟨rfl,hr2,ht2⟩;have hb2:=hboth.renew hv1 hr2 ht1 ht2 hl.commit (.inr (Nat.le_refl _)) (.inl rfl) (Nat.le_succ _);have hbel:Below B w w2:=(ht1.below (fun k hk=>by rcases hk with e|e;rw[e];exact(h7 _ h1.xm).1;rw[e];exact(h7 _ h1.xc).1) hB).trans (ht2.below (fun k hk=>by rw[hk];exact(h7 _ hr.own).1) (Nat.le_trans hB ht1.size));have hsz:=Nat.le_trans ht1.size ht2.size;refine⟨rfl,⟨_,_,_,_,_,hb2.view,⟨_,_,hb2.ref,hb2.link,hb,Nat.zero_le _⟩,hb2.far,h4.commit,h4.commit,rfl,fun k hk=>?_,fun k hk=>Nat.lt_of_lt_of_le (h8 k hk) hsz,h9.trans hbel⟩,fun k hk=>?_,hsz,hbel⟩
 · rcases hk with hk|hk
   · exact h7 k hk
   · refine⟨by have:=ht1.size;omega,fun hy=>?_⟩
     have:=h8 k hy
     have:=ht1.size
     omega
 · have h8':=h8 k hk;refine(ht2.block k (Nat.lt_of_lt_of_le h8' ht1.size) fun e=>(h7 x hr.own).2 (e ▸ hk)).trans (ht1.block k h8' fun e=>?_);rcases e with e|e
   · exact(h7 m h1.xm).2 (e ▸ hk)
   · exact(h7 c h1.xc).2 (e ▸ hk)
theorem Duo.abort(h:Duo Y w0 B N v m c x S T w)(hB:B<=w.heap.size) :
 Calls prog 29 #[.pointer (some ⟨v,0,none⟩)] w fun e w1=>e=.returned (.tuple #[])/\
  Calls prog 36 #[.pointer (some ⟨x,0,none⟩)] w1 fun e w2=>e=.returned (.tuple #[])/\Duo Y w0 B N v m c x S.abort S.abort w2/\ZbP Y B w w2:=by
 obtain⟨X,p,q,r,a,h1,⟨b,d,hr,hl,hb,hd⟩,h3,h4,h5,h6,h7,h8,h9⟩:=h;refine(ZgK h1).mono ?_;rintro e w1⟨rfl,hv1,ht1⟩;have ht1':Za (fun k=>k=m∨k=c) w w1:=⟨ht1.os,ht1.tape,ht1.output,ht1.size,fun k hk hn=>ht1.block k hk fun e=>hn (.inr e)⟩
 have hr1:ZH w1 X x p q r a b d:=hr.keep ht1.size (fun _ _ h=>h) (fun _ h=>h) (fun k hk=>Nat.lt_of_lt_of_le (hr.old k hk) ht1.size) (fun k hk hh=>ht1.block k hk fun e=>by
  obtain⟨f1,f2,f3,f4⟩:=h3 c (.inr (.inr rfl));rw[e]at hh;rcases hh with hh|hh|hh|hh|hh
  · exact f1 hh
  · exact f2 hh
  · exact f3 hh
  · exact f4 hh
  · exact hh h1.xc)
 refine⟨rfl,(Zjh hr1).mono ?_⟩;rintro e w2⟨rfl,hr2,ht2⟩
 have hSl:ZfM S.abort a a []:=by
  have:=hl.abort
  have e1:S.abort=T.abort:=by show(⟨S.W,[]⟩:VS)=⟨T.W,[]⟩;rw[h6]
  rw[e1];exact this
 have hv2:Ze w2 (Zpt X w1 w2) v m c S.abort:=ZhG hv1 hr1 h3 ht2 (fun k hk=>.inl hk) (fun k hk hx hy=>by
  rcases hy with e|e
  · exact hx e
  · omega) (fun k hk=>.inl hk) (fun k hk=>by
  rcases hk with e|e
  · exact Nat.lt_of_lt_of_le (hv1.lt k e) ht2.size
  · exact e.2)
 have hbel:Below B w w2:=(ht1.below (fun k hk=>by rw[hk];exact(h7 _ h1.xc).1) hB).trans (ht2.below (fun k hk=>by rw[hk];exact(h7 _ hr.own).1) (Nat.le_trans hB ht1.size));have hsz:=Nat.le_trans ht1.size ht2.size
 have haN:a.length<=N:=by
  have e:=hl.was
  have:=h5.len
  rw[e];omega
 refine⟨rfl,⟨_,_,_,_,_,hv2,⟨_,_,hr2,hSl,haN,Nat.zero_le _⟩,fun i hi=>?_,h4.abort,h4.abort,rfl,fun k hk=>?_,fun k hk=>Nat.lt_of_lt_of_le (h8 k hk) hsz,h9.trans hbel⟩,fun k hk=>?_,hsz,hbel⟩
 · obtain⟨f1,f2,f3,f4⟩:=h3 i hi
   have hil:i<w1.heap.size:=by
    rcases hi with e|e|e
    · rw[e];exact hv1.lt _ hv1.xv
    · rw[e];exact hv1.lt _ hv1.xm
    · rw[e];exact hv1.lt _ hv1.xc
   exact⟨f1,f2,by omega,by omega⟩
 · rcases hk with hk|hk
   · exact h7 k hk
   · refine⟨by have:=ht1.size;omega,fun hy=>?_⟩
     have:=h8 k hy
     have:=ht1.size
     omega
 · have h8':=h8 k hk;exact(ht2.block k (Nat.lt_of_lt_of_le h8' ht1.size) fun e=>(h7 x hr.own).2 (e ▸ hk)).trans (ht1.block k h8' fun e=>(h7 c h1.xc).2 (e ▸ hk))
end
theorem Zm7{w1 w2:World}{v m c x p q r B:Nat}(hv:Ze w1 (fun k=>False∨k=v∨k=m∨k=c) v m c ⟨[],[]⟩)(hr:ZH w2 (fun k=>w1.heap.size<=k/\k<w2.heap.size) x p q r [] [] [])(hb:Below w1.heap.size w1 w2)
 (h1:B<=v) (h2:B<=m) (h3:B<=c) (h4:B<=w1.heap.size):Duo (fun _=>False) w2 B 0 v m c x ⟨[],[]⟩ ⟨[],[]⟩ w2:=by
 obtain⟨X,p,q,r,S,a,b,d,hb,hs,hX,hw⟩:=Zm2 hv hr hb h1 h2 h3 h4;have eC:S.C = []:=List.eq_nil_of_length_eq_zero (Nat.le_zero.1 hs.c);have eb:b = []:=List.eq_nil_of_length_eq_zero (Nat.le_zero.1 hs.b);have ed:d = []:=List.eq_nil_of_length_eq_zero (Nat.le_zero.1 hs.d)
 have eS:S=⟨[],[]⟩:=by
  obtain⟨W,C⟩:=S
  have:=hs.w
  simp only at this eC;rw[this,eC]
 subst eS eb ed;exact⟨X,p,q,r,a,hb.view,⟨_,_,hb.ref,hb.link,Nat.le_refl _,Nat.le_refl _⟩,hb.far,Zv.start,Zv.start,rfl,fun k hk=>⟨hX k hk,fun h=>h⟩,fun k hk=>hk.elim,hw⟩
end Go.Proofs.YtiknkbpojmgbhaaGreat
