/- RefA, RefB, RefC, RefD. Conditions: in each theorem. -/
import Derived.Test.YtiknkbpojmgbhaaGreatTabF
set_option maxHeartbeats 3200000
set_option maxRecDepth 100000
set_option linter.unusedVariables false
open Go.Proofs.Tryz
open Go.Lib (hid)
namespace Go.Proofs.YtiknkbpojmgbhaaGreat
open Go.RowKit Go.Maps
structure ZH(w:World)(X:Nat->Prop)(x p q r:Nat)(a b d:TL):Prop where
 me:w.heap[x]?=some (.cells #[.pointer (some ⟨p,0,none⟩),.pointer (some ⟨q,0,none⟩),.pointer (some ⟨r,0,none⟩)] 146 (0,0))
 own:X x
 was:Z9 w X p a
 now:Z9 w X q b
 told:Z9 w X r d
 apart:x≠p/\x≠q/\x≠r/\p≠q/\p≠r/\q≠r
 old:∀k,X k->k<w.heap.size
section
variable{w w':World}{X:Nat->Prop}{x p q r:Nat}{a b d:TL}
theorem Z9.own{t:Nat}{L:TL}(h:Z9 w X t L):X t:=by
 obtain⟨_,_,_,_,h,_⟩:=h;exact h
theorem Z9.touch{t s:Nat}{L:TL}(h:Z9 w X t L)(ht:Za (fun k=>k=s) w w')(hs:X s)(hne:t≠s):Z9 w' X t L:=
 h.keep ht.size (fun _ _ h=>h) (fun _ h=>h) (fun k hk hx=>ht.block k hk fun e=>hx (by rw[e];exact hs)) (ht.block t h.lt hne)
theorem ZH.lt(h:ZH w X x p q r a b d):x<w.heap.size:=(Array.getElem?_eq_some_iff.1 h.me).1
theorem ZH.below(h:ZH w X x p q r a b d)(hb:RowKit.Below w.heap.size w w'):ZH w' X x p q r a b d:=
 ⟨(hb.block x h.lt).trans h.me,h.own,h.was.below hb,h.now.below hb,h.told.below hb,h.apart,fun k hk=>Nat.lt_of_lt_of_le (h.old k hk) hb.size⟩
theorem ZH.turnR{d':TL}(h:ZH w X x p q r a b d)(ht:Za (fun k=>k=r) w w')(hr:Z9 w' X r d'):ZH w' X x p q r a b d':=
 ⟨(ht.block x h.lt h.apart.2.2.1).trans h.me,h.own,h.was.touch ht h.told.own h.apart.2.2.2.2.1,h.now.touch ht h.told.own h.apart.2.2.2.2.2,hr,h.apart,fun k hk=>Nat.lt_of_lt_of_le (h.old k hk) ht.size⟩
theorem ZH.turnQ{b':TL}(h:ZH w X x p q r a b d)(ht:Za (fun k=>k=q) w w')(hr:Z9 w' X q b'):ZH w' X x p q r a b' d:=
 ⟨(ht.block x h.lt h.apart.2.1).trans h.me,h.own,h.was.touch ht h.now.own h.apart.2.2.2.1,hr,h.told.touch ht h.now.own (Ne.symm h.apart.2.2.2.2.2),h.apart,fun k hk=>Nat.lt_of_lt_of_le (h.old k hk) ht.size⟩
theorem ZH.cells(h:ZH w X x p q r a b d):w.cell? ⟨x,0,none⟩=some (.pointer (some ⟨p,0,none⟩))/\w.cell? ⟨x,1,none⟩=some (.pointer (some ⟨q,0,none⟩))/\w.cell? ⟨x,2,none⟩=some (.pointer (some ⟨r,0,none⟩)):=
 ⟨by rw[cell_of_row w x 0 _ _ (0,0) h.me];rfl,by rw[cell_of_row w x 1 _ _ (0,0) h.me];rfl,by rw[cell_of_row w x 2 _ _ (0,0) h.me];rfl⟩
theorem Zjg{s t:Nat}{w1:World}(h:Za (fun k=>k=s) w w1)(k:Za (fun k=>k=t) w1 w')(hs:X s)(ht:X t):Za X w w':=
 ⟨k.os.trans h.os,k.tape.trans h.tape,k.output.trans h.output,Nat.le_trans h.size k.size,fun i hi hF=>(k.block i (Nat.lt_of_lt_of_le hi h.size) fun e=>hF (by rw[e];exact ht)).trans (h.block i hi fun e=>hF (by rw[e];exact hs))⟩
theorem ZbA(h:ZH w X x p q r a b d)(hN:b.length<=2147483647){A:Option Addr}{n k B:Nat}{l:List Int}(hr:RB w B A n l)(hB:B<=w.heap.size) :
 Calls prog 127 #[.pointer (some ⟨x,0,none⟩),.slice A n k] w fun e w'=>∃u,e=.returned (.tuple #[u,.bool (Zf b (tx l)).isSome])/\SV w' (fun k=>k<w.heap.size) u ((Zf b (tx l)).getD [])/\RowKit.Below w.heap.size w w':=by
 have HG:=hid (ZgE (k:=k) h.now (by omega) hr hB);obtain⟨c0,c1,c2⟩:=h.cells;clear h hr;go_enter func127,ntmps127;go_wp2_with fail;refine HG.out.mono ?_;rintro e w'⟨u,rfl,hs,hb⟩;go_wp2_with fail;go_ret2;exact⟨u,rfl,hs,hb⟩
theorem Zkv(h:ZH w X x p q r a b d)(hN:b.length<=2147483647){A:Option Addr}{n k B:Nat}{l:List Int}(hr:RB w B A n l)(hB:B<=w.heap.size)(hnm:n<=maxLen)(hnk:n<=k) :
 Calls prog 85 #[.pointer (some ⟨x,0,none⟩),.slice A n k] w fun e w'=>∃A' n' k',e=.returned (.slice A' n' k')/\SPs w' X A' n' k' (b.filter fun q=>(tx l).isPrefixOf q.1)/\RowKit.Below w.heap.size w w':=by
 have HG:=hid (ZkC (k:=k) h.now h.old (by omega) hr hB hnm hnk);obtain⟨c0,c1,c2⟩:=h.cells;clear h hr;go_enter func85,ntmps85;go_wp2_with fail;refine HG.out.mono ?_;rintro e w'⟨A',n',k',rfl,hs,hb⟩;go_wp2_with fail;go_ret;exact⟨_,_,_,rfl,hs,hb⟩
theorem SV.touch{u:Value}{l:List Int}{s:Nat}(hs:SV w X u l)(ht:Za (fun k=>k=s) w w')(hX:X s):SV w' X u l:=hs.keep ht.size (fun _ _ h=>h) (fun k hk hx=>ht.block k hk fun e=>hx (by rw[e];exact hX))
theorem SV.parts{A:Option Addr}{n k:Nat}{l:List Int}(hs:SV w X (.slice A n k) l):RB w w.heap.size A n l/\n<=140737488355328/\n<=k:=by
 obtain⟨A,n,k,e,h1,h2,h3,_⟩:=hs;cases e;exact⟨h3,h2,h1⟩
theorem Zqk{n n':Nat}{l l':List Int}(h:l.length=n)(h':l'.length=n'):putE l l'=0↔(decide (1<=n)&&decide (n<=32)&&decide (n'<=120))=true:=by
 unfold putE;rw[h,h'];simp only[Bool.and_eq_true,decide_eq_true_eq]
 split <;> omega
theorem Zcs(h:ZH w X x p q r a b d)(hN:b.length<=2147483647)(hD:d.length<=2147483647){A A':Option Addr}{n k n' k':Nat}{l l':List Int}(hr:SV w X (.slice A n k) l)(hr':SV w X (.slice A' n' k') l') :
 Calls prog 98 #[.pointer (some ⟨x,0,none⟩),.slice A n k,.slice A' n' k'] w fun e w'=>e=.returned (.int .i64 (putE l l'))/\
  ZH w' X x p q r a (if putE l l'=0 then Zaw b (tx l) l' else b) (if putE l l'=0 then Zaw d (tx l) []else d)/\Za (fun k=>k=q∨k=r) w w':=by
 obtain⟨r1,r2,_⟩:=hr.parts;obtain⟨s1,s2,_⟩:=hr'.parts;have HR:=hid (ZkD w (A:=A) (A':=A') (k:=k) (k':=k') (n:=n) (n':=n') (by unfold maxLen;omega) (by unfold maxLen;omega));have HT:=hid (ZdZ (k:=k) (k':=0) h.told h.old hD r1 (Nat.le_refl _) r2 (RB.nil_ (w:=w) (B:=0) (A:=none)) (Nat.zero_le _) (Nat.zero_le _))
 have HQ:=hid (show ∀w1,Z9 w1 X r (Zaw d (tx l) [])->Za (fun k=>k=r) w w1->ZH w1 X x p q r a b (Zaw d (tx l) [])/\Calls prog 185 #[.pointer (some ⟨q,0,none⟩),.slice A n k,.slice A' n' k'] w1 (fun e w'=>e=.returned (.tuple #[])/\Z9 w' X q (Zaw b (tx l) l')/\Za (fun k=>k=q) w1 w')from fun w1 ht htt=>by
  have h1:=h.turnR htt ht;have k1:=hr.touch htt h.told.own;have k2:=hr'.touch htt h.told.own;obtain⟨a1,a2,_⟩:=k1.parts;obtain⟨b1,b2,_⟩:=k2.parts
  exact⟨h1,ZdZ h1.now h1.old hN a1 (Nat.le_refl _) a2 b1 (Nat.le_refl _) b2⟩)
 obtain⟨c0,c1,c2⟩:=h.cells;have HSAME:=hid (And.intro h (Za.refl (fun k=>k=q∨k=r) w));have he:=Zqk r1.len s1.len;by_cases hp:(decide (1<=n)&&decide (n<=32)&&decide (n'<=120))=true
 · have e0:=he.2 hp;rw[e0,if_pos rfl,if_pos rfl];have HP:=hid hp;clear h hr hr' r1 s1 he hp e0;go_enter func98,ntmps98;go_wp2_with fail;refine HR.out.mono ?_;rintro e w'⟨rfl,rfl⟩;rw[HP.out];go_wp2_with fail;refine HT.out.mono ?_;rintro e w1⟨rfl,ht,htt⟩;obtain⟨h1,hc⟩:=HQ.out w1 ht htt;obtain⟨d0,d1,d2⟩:=h1.cells;have HC:=hid hc;have H1:=hid (And.intro h1 htt);clear h1 hc ht htt;go_wp2_with fail;refine HC.out.mono ?_;rintro e w2⟨rfl,ht,htt⟩;have HEND:=hid (And.intro (H1.out.1.turnQ htt ht) (Zjg (X:=fun k=>k=q∨k=r) H1.out.2 htt (Or.inr rfl) (Or.inl rfl)));clear ht htt;go_wp2_with fail;go_ret;exact⟨rfl,HEND.out⟩
 · have e0:putE l l'=1:=by
    have h1:putE l l'≠0:=fun e=>hp (he.1 e)
    unfold putE at h1 ⊢
    split
    · rfl
    · rename_i hh;rw[if_neg hh]at h1;exact absurd rfl h1
   rw[e0,if_neg (by decide),if_neg (by decide)];have HP:=hid (Bool.eq_false_iff.2 hp);clear h hr hr' r1 s1 he hp e0;go_enter func98,ntmps98;go_wp2_with fail;refine HR.out.mono ?_;rintro e w'⟨rfl,rfl⟩;rw[HP.out];go_wp2_with fail;go_ret;exact⟨rfl,HSAME.out⟩
theorem ZhE(h:ZH w X x p q r a b d)(hN:b.length<=2147483647)(hD:d.length<=2147483647){A:Option Addr}{n k:Nat}{l:List Int}(hr:SV w X (.slice A n k) l) :
 Calls prog 251 #[.pointer (some ⟨x,0,none⟩),.slice A n k] w fun e w'=>e=.returned (.bool (Zf b (tx l)).isSome)/\
  ZH w' X x p q r a (if(Zf b (tx l)).isSome then ZbE b (tx l)else b) (if(Zf b (tx l)).isSome then Zaw d (tx l) []else d)/\Za (fun k=>k=q∨k=r) w w':=by
 obtain⟨r1,r2,_⟩:=hr.parts;have HG:=hid (ZgE (k:=k) h.now (by omega) r1 (Nat.le_refl _))
 have HT:=hid (show ∀w1,RowKit.Below w.heap.size w w1->ZH w1 X x p q r a b d/\Calls prog 185 #[.pointer (some ⟨r,0,none⟩),.slice A n k,.slice none 0 0] w1 (fun e w'=>e=.returned (.tuple #[])/\Z9 w' X r (Zaw d (tx l) [])/\Za (fun k=>k=r) w1 w')from fun w1 hb=>by
  have h1:=h.below hb;obtain⟨a1,a2,_⟩:=(hr.keep hb.size (fun _ _ h=>h) (fun k hk _=>hb.block k hk)).parts
  exact⟨h1,ZdZ h1.told h1.old hD a1 (Nat.le_refl _) a2 (RB.nil_ (w:=w1) (B:=0) (A:=none)) (Nat.zero_le _) (Nat.zero_le _)⟩)
 have HQ:=hid (show ∀w1 w2,RowKit.Below w.heap.size w w1->ZH w1 X x p q r a b d->Z9 w2 X r (Zaw d (tx l) [])->Za (fun k=>k=r) w1 w2->ZH w2 X x p q r a b (Zaw d (tx l) [])/\Calls prog 283 #[.pointer (some ⟨q,0,none⟩),.slice A n k] w2 (fun e w'=>e=.returned (.bool (Zf b (tx l)).isSome)/\Z9 w' X q (ZbE b (tx l))/\Za (fun k=>k=q) w2 w')from fun w1 w2 hb h1 ht htt=>by
  have h2:=h1.turnR htt ht;have k1:=(hr.keep hb.size (fun _ _ h=>h) (fun k hk _=>hb.block k hk)).touch htt h1.told.own;obtain⟨a1,a2,_⟩:=k1.parts
  exact⟨h2,ZhM h2.now h2.old (by omega) a1 (Nat.le_refl _)⟩)
 obtain⟨c0,c1,c2⟩:=h.cells;have H0:=hid h;by_cases hp:(Zf b (tx l)).isSome=true
 · have HP:=hid hp;rw[if_pos hp,if_pos hp];clear h hr r1 hp;go_enter func251,ntmps251;go_wp2_with fail;refine HG.out.mono ?_;rintro e w1⟨u,rfl,hs,hb⟩;obtain⟨U,un,uc,rfl⟩:=hs.slice;rw[HP.out];obtain⟨h1,hc⟩:=HT.out w1 hb;obtain⟨d0,d1,d2⟩:=h1.cells;have HC:=hid hc;have H1:=hid (And.intro h1 hb);clear h1 hc hb hs;go_wp2_with fail;refine HC.out.mono ?_;rintro e w2⟨rfl,ht,htt⟩;obtain⟨h2,hc⟩:=HQ.out w1 w2 H1.out.2 H1.out.1 ht htt;obtain⟨d0,d1,d2⟩:=h2.cells;have HC2:=hid hc;have H2:=hid (And.intro h2 htt);clear h2 hc ht htt;go_wp2_with fail;refine HC2.out.mono ?_;rintro e w3⟨rfl,ht,htt⟩;have HEND:=hid (And.intro (H2.out.1.turnQ htt ht) (Zbr H1.out.2 (Zjg (X:=fun k=>k=q∨k=r) H2.out.2 htt (Or.inr rfl) (Or.inl rfl))));clear ht htt;go_wp2_with fail;go_ret;exact⟨rfl,HEND.out⟩
 · have HP:=hid (Bool.eq_false_iff.2 hp);rw[if_neg hp,if_neg hp];clear h hr r1 hp;go_enter func251,ntmps251;go_wp2_with fail;refine HG.out.mono ?_;rintro e w1⟨u,rfl,hs,hb⟩;obtain⟨U,un,uc,rfl⟩:=hs.slice;rw[HP.out];have HEND:=hid (And.intro (H0.out.below hb) (Za.of_below (F:=fun k=>k=q∨k=r) hb));clear hb hs;go_wp2_with fail;go_ret;exact⟨congrArg (fun b=>Ending.returned (Value.bool b)) HP.out.symm,HEND.out⟩
end
section
variable{w w':World}{X:Nat->Prop}{x p q r:Nat}{a b d:TL}
def Zpt(X:Nat->Prop)(w w':World):Nat->Prop:=fun k=>X k∨(w.heap.size<=k/\k<w'.heap.size)
theorem SPs.more{A:Option Addr}{n c:Nat}{L:TL}(h:SPs w X A n c L)(hx:X x)(hs:w.heap.size<=w'.heap.size)(hk:∀k,k<w.heap.size->k≠x->w'.heap[k]?=w.heap[k]?):SPs w' (Zpt X w w') A n c L:=
 h.keep hs (fun k hk hx hy=>by rcases hy with a|a;exact hx a;omega) (fun k hk' hX=>hk k hk' fun e=>hX (by rw[e];exact hx))
theorem Z9.more{t:Nat}{L:TL}(h:Z9 w X t L)(hx:X x)(hs:w.heap.size<=w'.heap.size)(hk:∀k,k<w.heap.size->k≠x->w'.heap[k]?=w.heap[k]?)(hne:t≠x):Z9 w' (Zpt X w w') t L:=by
 have ht:=h.lt;obtain⟨A,n,c,h1,h2,h3⟩:=h;exact⟨A,n,c,(hk t ht hne).trans h1,.inl h2,h3.more hx hs hk⟩
def ZaA(w:World)(x i:Nat)(u:Value):World:=
 (((w.setCell ⟨x,i,none⟩ (.pointer (some ⟨w.heap.size,0,none⟩))).setCell ⟨x,2,none⟩ (.pointer (some ⟨w.heap.size+1,0,none⟩))).alloc (.cells #[u] 144 (0,0))).alloc (.cells #[.slice none 0 0] 144 (0,0))
theorem ZgC(h:ZH w X x p q r a b d)(u:Value)(i:Nat) :
 (ZaA w x i u).heap.size=w.heap.size+2/\(∀k,k<w.heap.size->k≠x->(ZaA w x i u).heap[k]?=w.heap[k]?)/\(ZaA w x i u).heap[w.heap.size]?=some (.cells #[u] 144 (0,0))/\(ZaA w x i u).heap[w.heap.size+1]?=some (.cells #[.slice none 0 0] 144 (0,0))/\
  (ZaA w x i u).heap[x]?=some (.cells (((#[.pointer (some ⟨p,0,none⟩),.pointer (some ⟨q,0,none⟩),.pointer (some ⟨r,0,none⟩)]:Array Value).setIfInBounds i (.pointer (some ⟨w.heap.size,0,none⟩))).setIfInBounds 2 (.pointer (some ⟨w.heap.size+1,0,none⟩))) 146 (0,0))/\Za (fun k=>k=x) w (ZaA w x i u):=by
 have hx:=h.lt;obtain⟨w1,h1⟩:∃w1,w1=w.setCell ⟨x,i,none⟩ (.pointer (some ⟨w.heap.size,0,none⟩)):=⟨_,rfl⟩
 obtain⟨w2,h2⟩:∃w2,w2=w1.setCell ⟨x,2,none⟩ (.pointer (some ⟨w.heap.size+1,0,none⟩)):=⟨_,rfl⟩
 obtain⟨w3,h3⟩:∃w3,w3=w2.alloc (.cells #[u] 144 (0,0)):=⟨_,rfl⟩
 obtain⟨w4,h4⟩:∃w4,w4=w3.alloc (.cells #[.slice none 0 0] 144 (0,0)):=⟨_,rfl⟩
 have e:ZaA w x i u=w4:=by rw[h4,h3,h2,h1];rfl
 rw[e];have z1:w1.heap.size=w.heap.size:=by rw[h1];simp[World.setCell]
 have z2:w2.heap.size=w.heap.size:=by rw[h2,<-z1];simp[World.setCell]
 have z3:w3.heap.size=w.heap.size+1:=by rw[h3];simp[z2]
 have z4:w4.heap.size=w.heap.size+2:=by rw[h4];simp[z3]
 have b1:∀k,k≠x->w1.heap[k]?=w.heap[k]?:=fun k hk=>by rw[h1];exact Below.heap_setCell _ _ _ _ hk
 have b2:∀k,k≠x->w2.heap[k]?=w1.heap[k]?:=fun k hk=>by rw[h2];exact Below.heap_setCell _ _ _ _ hk
 have b3:∀k,k<w.heap.size->w3.heap[k]?=w2.heap[k]?:=fun k hk=>by rw[h3];exact heap_alloc_old _ _ (by omega)
 have b4:∀k,k<w.heap.size+1->w4.heap[k]?=w3.heap[k]?:=fun k hk=>by rw[h4];exact heap_alloc_old _ _ (by omega)
 have n3:w3.heap[w.heap.size]?=some (.cells #[u] 144 (0,0)):=by rw[h3,<-z2];exact heap_alloc_new _ _
 have n4:w4.heap[w.heap.size+1]?=some (.cells #[.slice none 0 0] 144 (0,0)):=by rw[h4,<-z3];exact heap_alloc_new _ _
 have m1:=heap_setCell_same w x i _ 146 (.pointer (some ⟨w.heap.size,0,none⟩)) h.me;rw[<-h1]at m1;have m2:=heap_setCell_same w1 x 2 _ 146 (.pointer (some ⟨w.heap.size+1,0,none⟩)) m1;rw[<-h2]at m2;have m4:=(b4 x (by omega)).trans ((b3 x hx).trans m2);have hk:∀k,k<w.heap.size->k≠x->w4.heap[k]?=w.heap[k]?:=fun k hk hne=>(b4 k (by omega)).trans ((b3 k hk).trans ((b2 k hne).trans (b1 k hne)))
 refine⟨z4,hk,(b4 _ (by omega)).trans n3,n4,m4,⟨?_,?_,?_,by omega,fun k hk' hX=>hk k hk' hX⟩⟩
 · rw[h4,h3,h2,h1];rfl
 · rw[h4,h3,h2,h1];rfl
 · rw[h4,h3,h2,h1];rfl
theorem ZhF(h:ZH w X x p q r a b d) :
 Calls prog 34 #[.pointer (some ⟨x,0,none⟩)] w fun e w'=>e=.returned (.tuple #[])/\ZH w' (Zpt X w w') x w.heap.size q (w.heap.size+1) b b []/\Za (fun k=>k=x) w w':=by
 obtain⟨c0,c1,c2⟩:=h.cells;have hx:=h.lt;obtain⟨A,n,c,hq,_,hs⟩:=h.now;have cq:w.cell? ⟨q,0,none⟩=some (.slice A n c):=by rw[cell_of_row w q 0 _ _ (0,0) hq];rfl
 have hf:∀i,w.frozen? ⟨x,i,none⟩=false:=fun i=>frozen_of_row w x i _ _ h.me
 have hql:=h.now.lt
 have HEND:=hid (show ZH (ZaA w x 0 (.slice A n c)) (Zpt X w (ZaA w x 0 (.slice A n c))) x w.heap.size q (w.heap.size+1) b b []/\Za (fun k=>k=x) w (ZaA w x 0 (.slice A n c))from by
  obtain⟨r1,r2,r3,r4,r5,r6⟩:=ZgC h (.slice A n c) 0;have hle:w.heap.size<=(ZaA w x 0 (.slice A n c)).heap.size:=by omega
  refine⟨⟨r5,.inl h.own,⟨A,n,c,r3,.inr (by omega),hs.more h.own hle r2⟩,h.now.more h.own hle r2 (Ne.symm h.apart.2.1),⟨none,0,0,r4,.inr (by omega),SPs.nil_ _ _ _ _⟩,⟨by omega,h.apart.2.1,by omega,by omega,by omega,by omega⟩,fun k hk=>?_⟩,r6⟩;rcases hk with a|a
  · exact Nat.lt_of_lt_of_le (h.old k a) hle
  · exact a.2)
 have f0:=hf 0;have f2:=hf 2;have hne:¬x=w.heap.size:=by omega
 clear h hs hq hf;unfold ZaA at HEND;go_enter func34,ntmps34;go_wp2_with fail
 go_end0
 exact⟨rfl,HEND.out⟩
theorem Zjh(h:ZH w X x p q r a b d) :
 Calls prog 36 #[.pointer (some ⟨x,0,none⟩)] w fun e w'=>e=.returned (.tuple #[])/\ZH w' (Zpt X w w') x p w.heap.size (w.heap.size+1) a a []/\Za (fun k=>k=x) w w':=by
 obtain⟨c0,c1,c2⟩:=h.cells;have hx:=h.lt;obtain⟨A,n,c,hq,_,hs⟩:=h.was;have cq:w.cell? ⟨p,0,none⟩=some (.slice A n c):=by rw[cell_of_row w p 0 _ _ (0,0) hq];rfl
 have hf:∀i,w.frozen? ⟨x,i,none⟩=false:=fun i=>frozen_of_row w x i _ _ h.me
 have hql:=h.was.lt
 have HEND:=hid (show ZH (ZaA w x 1 (.slice A n c)) (Zpt X w (ZaA w x 1 (.slice A n c))) x p w.heap.size (w.heap.size+1) a a []/\Za (fun k=>k=x) w (ZaA w x 1 (.slice A n c))from by
  obtain⟨r1,r2,r3,r4,r5,r6⟩:=ZgC h (.slice A n c) 1;have hle:w.heap.size<=(ZaA w x 1 (.slice A n c)).heap.size:=by omega
  refine⟨⟨r5,.inl h.own,h.was.more h.own hle r2 (Ne.symm h.apart.1),⟨A,n,c,r3,.inr (by omega),hs.more h.own hle r2⟩,⟨none,0,0,r4,.inr (by omega),SPs.nil_ _ _ _ _⟩,⟨h.apart.1,by omega,by omega,by omega,by omega,by omega⟩,fun k hk=>?_⟩,r6⟩;rcases hk with a|a
  · exact Nat.lt_of_lt_of_le (h.old k a) hle
  · exact a.2)
 have f0:=hf 1;have f2:=hf 2;have hne:¬x=w.heap.size:=by omega
 clear h hs hq hf;unfold ZaA at HEND;go_enter func36,ntmps36;go_wp2_with fail
 go_end0
 exact⟨rfl,HEND.out⟩
theorem Zmm(w:World) :
 Calls prog 42 #[.slice none 0 0] w fun e w'=>e=.returned (.pointer (some ⟨w.heap.size+3,0,none⟩))/\ZH w' (fun k=>w.heap.size<=k/\k<w'.heap.size) (w.heap.size+3) w.heap.size (w.heap.size+1) (w.heap.size+2) [] [] []/\RowKit.Below w.heap.size w w':=by
 go_enter func42,ntmps42;go_wp2_with fail;go_ret;refine⟨rfl,?_⟩;obtain⟨w1,h1⟩:∃w1,w1=w.alloc (.cells #[.slice none 0 0] 144 (0,0)):=⟨_,rfl⟩
 obtain⟨w2,h2⟩:∃w2,w2=w1.alloc (.cells #[.slice none 0 0] 144 (0,0)):=⟨_,rfl⟩
 obtain⟨w3,h3⟩:∃w3,w3=w2.alloc (.cells #[.slice none 0 0] 144 (0,0)):=⟨_,rfl⟩
 obtain⟨w4,h4⟩:∃w4,w4=w3.alloc (.cells #[.pointer (some ⟨w.heap.size,0,none⟩),.pointer (some ⟨w.heap.size+1,0,none⟩),.pointer (some ⟨w.heap.size+1+1,0,none⟩)] 146 (0,0)):=⟨_,rfl⟩
 have z1:w1.heap.size=w.heap.size+1:=by rw[h1];simp
 have z2:w2.heap.size=w.heap.size+2:=by rw[h2];simp[z1]
 have z3:w3.heap.size=w.heap.size+3:=by rw[h3];simp[z2]
 have z4:w4.heap.size=w.heap.size+4:=by rw[h4];simp[z3]
 have n1:w1.heap[w.heap.size]?=some (.cells #[.slice none 0 0] 144 (0,0)):=by rw[h1];exact heap_alloc_new _ _
 have n2:w2.heap[w.heap.size+1]?=some (.cells #[.slice none 0 0] 144 (0,0)):=by rw[h2,<-z1];exact heap_alloc_new _ _
 have n3:w3.heap[w.heap.size+2]?=some (.cells #[.slice none 0 0] 144 (0,0)):=by rw[h3,<-z2];exact heap_alloc_new _ _
 have n4:w4.heap[w.heap.size+3]?=some (.cells #[.pointer (some ⟨w.heap.size,0,none⟩),.pointer (some ⟨w.heap.size+1,0,none⟩),.pointer (some ⟨w.heap.size+1+1,0,none⟩)] 146 (0,0)):=by rw[h4,<-z3];exact heap_alloc_new _ _
 have b2:∀k,k<w.heap.size+1->w2.heap[k]?=w1.heap[k]?:=fun k hk=>by rw[h2];exact heap_alloc_old _ _ (by omega)
 have b3:∀k,k<w.heap.size+2->w3.heap[k]?=w2.heap[k]?:=fun k hk=>by rw[h3];exact heap_alloc_old _ _ (by omega)
 have b4:∀k,k<w.heap.size+3->w4.heap[k]?=w3.heap[k]?:=fun k hk=>by rw[h4];exact heap_alloc_old _ _ (by omega)
 have hb:RowKit.Below w.heap.size w w4:=by
  rw[h4,h3,h2,h1];exact((((RowKit.Below.refl _ _).alloc (Nat.le_refl _) _).alloc (by simp) _).alloc (by simp;omega) _).alloc (by simp;omega) _
 rw[<-h1,<-h2,<-h3,<-h4]
 refine⟨⟨n4,⟨by omega,by omega⟩,⟨none,0,0,(b4 _ (by omega)).trans ((b3 _ (by omega)).trans ((b2 _ (by omega)).trans n1)),⟨by omega,by omega⟩,SPs.nil_ _ _ _ _⟩,⟨none,0,0,(b4 _ (by omega)).trans ((b3 _ (by omega)).trans n2),⟨by omega,by omega⟩,SPs.nil_ _ _ _ _⟩,
  ⟨none,0,0,(b4 _ (by omega)).trans n3,⟨by omega,by omega⟩,SPs.nil_ _ _ _ _⟩,⟨by omega,by omega,by omega,by omega,by omega,by omega⟩,fun k hk=>hk.2⟩,hb⟩
end
structure ZfM(S:VS)(a b d:TL):Prop where
 ok:S.Ok
 was:a=S.W
 rb:ZG b
 now:∀y,Zf b y=S.now y
 rd:ZG d
 diff:∀y,S.now y≠Zf S.W y->(Zf d y).isSome=true
section
variable{S:VS}{a b d:TL}
theorem ZfM.nowL(h:ZfM S a b d):b=S.nowL:=ZG.ext h.rb h.ok.nowL fun y=>(h.now y).trans (h.ok.look y).symm
theorem ZfM.start:ZfM ⟨[],[]⟩ [] [] []:=⟨⟨List.Pairwise.nil,List.Pairwise.nil⟩,rfl,List.Pairwise.nil,fun y=>rfl,List.Pairwise.nil,fun y h=>absurd rfl h⟩
theorem ZfM.put(h:ZfM S a b d)(x:Txt)(v:List Int):ZfM (S.put x v) a (Zaw b x v) (Zaw d x []):=by
 refine⟨h.ok.put x v,h.was,h.rb.set x v,fun y=>?_,h.rd.set x [],fun y hy=>?_⟩
 · rw[Zaf h.rb,h.ok.now_put,h.now]
 · rw[Zaf h.rd];by_cases e:x=y
   · rw[if_pos e];rfl
   · rw[if_neg e];rw[h.ok.now_put,if_neg e]at hy;exact h.diff y hy
theorem ZfM.del(h:ZfM S a b d)(x:Txt):ZfM (S.del x) a (if(Zf b x).isSome then ZbE b x else b) (if(Zf b x).isSome then Zaw d x []else d):=by
 cases hb:Zf b x with
 | none=>
  have hn:S.now x=none:=(h.now x).symm.trans hb;refine⟨h.ok.del x,h.was,h.rb,fun y=>?_,h.rd,fun y hy=>?_⟩
  · show Zf b y=_;rw[h.ok.now_del,h.now];by_cases e:x=y
    · rw[if_pos e,<-e,hn]
    · rw[if_neg e]
  · rw[h.ok.now_del]at hy;by_cases e:x=y
    · rw[if_pos e]at hy;exact h.diff y (by rw[<-e,hn,e];exact hy)
    · rw[if_neg e]at hy;exact h.diff y hy
 | some u=>
  refine⟨h.ok.del x,h.was,h.rb.del x,fun y=>?_,h.rd.set x [],fun y hy=>?_⟩
  · show Zf (ZbE b x) y=_;rw[Zbs,h.ok.now_del,h.now]
  · show(Zf (Zaw d x []) y).isSome=true
    rw[Zaf h.rd];by_cases e:x=y
    · rw[if_pos e];rfl
    · rw[if_neg e];rw[h.ok.now_del,if_neg e]at hy;exact h.diff y hy
theorem ZfM.commit(h:ZfM S a b d):ZfM S.commit b b []:=by
 have e:b=S.commit.W:=h.nowL.trans h.ok.commitW.symm;exact⟨h.ok.commit,e,h.rb,fun y=>by rw[e];rfl,List.Pairwise.nil,fun y hy=>absurd rfl hy⟩
theorem ZfM.abort(h:ZfM S a b d):ZfM S.abort a a []:=
 ⟨h.ok.abort,h.was,by rw[h.was];exact h.ok.w,fun y=>by rw[h.was];rfl,List.Pairwise.nil,fun y hy=>absurd rfl hy⟩
end
end Go.Proofs.YtiknkbpojmgbhaaGreat
