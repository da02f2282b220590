/- EqF, RefE, RefF. Conditions: in each theorem. -/
import Derived.Test.YtiknkbpojmgbhaaGreatTabD
import Derived.Test.YtiknkbpojmgbhaaGreatRefD
set_option maxHeartbeats 3200000
set_option maxRecDepth 100000
set_option linter.unusedVariables false
open Go.Proofs.Tryz
open Go.Lib (hid)
namespace Go.Proofs.YtiknkbpojmgbhaaGreat
open Go.RowKit Go.Maps
section
variable{w w':World}
theorem Zmn{B B':Nat}{A1 A2 B1 B2:Option Addr}{n1 k1 n2 k2 m1 l1 m2 l2:Nat}{x1 x2 y1 y2:List Int}(hx1:RB w B A1 n1 x1)(hx2:RB w B A2 n2 x2)(hy1:RB w B' B1 m1 y1)(hy2:RB w B' B2 m2 y2)(hB:B<=w.heap.size)(hB':B'<=w.heap.size) :
 Calls prog 167 #[.agg #[.slice A1 n1 k1,.slice A2 n2 k2],.agg #[.slice B1 m1 l1,.slice B2 m2 l2]] w fun e w'=>e=.returned (.bool (decide ((x1,x2)=(y1,y2))))/\RowKit.Below w.heap.size w w':=by
 have hb1:RowKit.Below w.heap.size w (w.alloc (.cells #[.slice A1 n1 k1,.slice A2 n2 k2] 101 (0,0))):=(RowKit.Below.refl _ _).alloc (Nat.le_refl _) _;have hb2:RowKit.Below w.heap.size w ((w.alloc (.cells #[.slice A1 n1 k1,.slice A2 n2 k2] 101 (0,0))).alloc (.cells #[.slice B1 m1 l1,.slice B2 m2 l2] 101 (0,0))):=hb1.alloc hb1.size _;have HE1:=hid (Zfa k1 l1 (hx1.below (hb2.mono hB)) (hy1.below (hb2.mono hB')));have HE2:=hid (Zfa k2 l2 (hx2.below (hb2.mono hB)) (hy2.below (hb2.mono hB')));have HB:=hid hb2;have hd:decide ((x1,x2)=(y1,y2))=(decide (x1=y1)&&decide (x2=y2)):=by rw[Bool.eq_iff_iff];simp
 rw[hd];clear hd hx1 hx2 hy1 hy2 hb1 hb2
 cases hq:decide (x1=y1)with
 | true=>
  rw[hq]at HE1;generalize decide (x2=y2)=r at HE2 ⊢;rw[Bool.true_and];clear hq;go_enter func167,ntmps167;go_wp2_with fail;refine HE1.out.mono ?_;rintro e w'⟨rfl,rfl⟩;go_wp2_with fail;refine HE2.out.mono ?_;rintro e w'⟨rfl,rfl⟩;go_wp2;go_ret;exact⟨rfl,HB.out⟩
 | false=>
  rw[hq]at HE1;rw[Bool.false_and];clear hq;go_enter func167,ntmps167;go_wp2_with fail;refine HE1.out.mono ?_;rintro e w'⟨rfl,rfl⟩;go_wp2;go_ret;exact⟨rfl,HB.out⟩
theorem Zji{α:Type}{l m:List α}(hl:l.length=m.length)(h:∀(a:Nat) (x y:α),l[a]?=some x->m[a]?=some y->x=y):l=m:=by
 apply List.ext_getElem hl;intro a h1 h2;exact h a _ _ (List.getElem?_eq_getElem h1) (List.getElem?_eq_getElem h2)
theorem Zkw{B B':Nat}{A A':Option Addr}{n k n' k':Nat}{ps qs:List KV}(hp:Zat w B A n ps)(hq:Zat w B' A' n' qs)(hB:B<=w.heap.size)(hB':B'<=w.heap.size)(hn:n<=maxLen)(hn':n'<=maxLen) :
 Calls prog 166 #[.slice A n k,.slice A' n' k',.func (.func 167) #[] #[]] w fun e w'=>e=.returned (.bool (decide (ps=qs)))/\RowKit.Below w.heap.size w w':=by
 unfold maxLen at hn hn';by_cases hne:n=n'
 · subst hne;have HP:=hid hp;have HQ:=hid hq;clear hp hq;go_enter func166,ntmps166;go_wp2_with fail
   go_loopw[17] (fun i wr=>∃j:Nat,j<=n/\i=.int .i64 j/\Hid ((∀(a:Nat) (x y:KV),a<j->ps[a]?=some x->qs[a]?=some y->x=y)/\RowKit.Below w.heap.size w wr)) (fun i _=>n-(intOf i).toNat)
   case atStart=>exact⟨0,Nat.zero_le _,rfl,hid ⟨fun a x y h=>absurd h (Nat.not_lt_zero _),RowKit.Below.refl _ _⟩⟩
   case round=>
    obtain⟨j,hj,rfl,HM⟩:=hrel;obtain⟨hall,hb⟩:=HM.out;by_cases hlt:j<n
    · obtain⟨b,off,rfl,hbB,hat⟩:=(HP.out.below (hb.mono hB)).2 (by omega);obtain⟨b',off',rfl,hbB',hat'⟩:=(HQ.out.below (hb.mono hB')).2 (by omega);obtain⟨x,hx⟩:∃x,ps[j]?=some x:=⟨_,List.getElem?_eq_getElem (by rw[HP.out.len];exact hlt)⟩
      obtain⟨y,hy⟩:∃y,qs[j]?=some y:=⟨_,List.getElem?_eq_getElem (by rw[HQ.out.len];exact hlt)⟩
      obtain⟨ka,kn,kc,va,vn,vc,c0,c1,r1,_,r2,_⟩:=hat j x hx;obtain⟨la,ln,lc,ua,un,uc,d0,d1,s1,_,s2,_⟩:=hat' j y hy;obtain⟨w2,hw2⟩:∃w2,w2=(wr.alloc (.cells #[.slice ka kn kc,.slice va vn vc] 101 (0,0))).alloc (.cells #[.slice la ln lc,.slice ua un uc] 101 (0,0)):=⟨_,rfl⟩
      have hb1:RowKit.Below wr.heap.size wr (wr.alloc (.cells #[.slice ka kn kc,.slice va vn vc] 101 (0,0))):=(RowKit.Below.refl _ _).alloc (Nat.le_refl _) _;have hb2:RowKit.Below wr.heap.size wr w2:=by rw[hw2];exact hb1.alloc hb1.size _
      have hBr:B<=wr.heap.size:=Nat.le_trans hB hb.size;have hBr':B'<=wr.heap.size:=Nat.le_trans hB' hb.size;have HC:=hid (Zmn (k1:=kc) (k2:=vc) (l1:=lc) (l2:=uc) (r1.below (hb2.mono hBr)) (r2.below (hb2.mono hBr)) (s1.below (hb2.mono hBr')) (s2.below (hb2.mono hBr')) (Nat.le_trans hBr hb2.size) (Nat.le_trans hBr' hb2.size));have HX:=hid (And.intro hx (And.intro hy (And.intro hall (hb.trans (hb2.mono hb.size)))));have hj64:(j:Int)<(n:Int):=by omega
      have d0':(wr.alloc (.cells #[.slice ka kn kc,.slice va vn vc] 101 (0,0))).cell? ⟨b',off'+j*2,none⟩=some (.slice la ln lc):=(hb1.cell (p:=⟨b',off'+j*2,none⟩) (Nat.lt_of_lt_of_le hbB' hBr')).trans d0;have d1':(wr.alloc (.cells #[.slice ka kn kc,.slice va vn vc] 101 (0,0))).cell? ⟨b',off'+j*2+1,none⟩=some (.slice ua un uc):=(hb1.cell (p:=⟨b',off'+j*2+1,none⟩) (Nat.lt_of_lt_of_le hbB' hBr')).trans d1;by_cases he:x=y
      · have hd:decide ((x.1,x.2)=(y.1,y.2))=true:=decide_eq_true (show x=y from he);rw[hd]at HC;have HE:=hid he;clear hx hy hall hb hb1 hb2 hat hat' r1 r2 s1 s2 he hd;go_wp2_with fail;rw[<-hw2];clear hw2;refine HC.out.mono ?_;rintro e w3⟨rfl,hb3⟩
        have HN:=hid (show(∀(a:Nat) (x y:KV),a<j+1->ps[a]?=some x->qs[a]?=some y->x=y)/\RowKit.Below w.heap.size w w3 from by
         obtain⟨x1,x2,x3,x4⟩:=HX.out;refine⟨fun a x' y' ha hx' hy'=>?_,x4.trans (hb3.mono x4.size)⟩;by_cases e:a=j
         · rw[e,x1]at hx';rw[e,x2]at hy';cases hx';cases hy';exact HE.out
         · exact x3 a x' y' (by omega) hx' hy')
        clear hb3;go_wp2;go_roundw
        case rel=>exact⟨j+1,by omega,by go_num,HN⟩
        case measure=>simp[intOf];omega
      · have hd:decide ((x.1,x.2)=(y.1,y.2))=false:=decide_eq_false (fun e=>he (show x=y from e));rw[hd]at HC;have hne:ps≠qs:=fun e=>he (by rw[e,hy]at hx;exact(Option.some.inj hx).symm)
        have HD:=hid (show decide (ps=qs)=false by simpa using hne);clear hx hy hall hb hb1 hb2 hat hat' r1 r2 s1 s2 he hd hne;go_wp2_with fail;rw[<-hw2];clear hw2;refine HC.out.mono ?_;rintro e w3⟨rfl,hb3⟩;have HB3:=hid hb3;clear hb3;go_wp2;go_ret;rw[HD.out];obtain⟨_,_,_,x4⟩:=HX.out;exact⟨rfl,x4.trans (HB3.out.mono x4.size)⟩
    · obtain rfl:j=n:=by omega
      have he:ps=qs:=Zji (by rw[HP.out.len,HQ.out.len]) (fun a x y hx hy=>hall a x y (by have:=(List.getElem?_eq_some_iff.1 hx).1;have:=HP.out.len;omega) hx hy);have HD:=hid (show decide (ps=qs)=true by simpa using he);have HB:=hid hb;clear hall hb he;go_wp2;go_ret;rw[HD.out];exact⟨rfl,HB.out⟩
 · have hd:decide (ps=qs)=false:=by
    have:ps≠qs:=fun e=>hne (by rw[<-hp.len,<-hq.len,e])
    simpa using this
   rw[hd];have t1:(n == n')=false:=by simpa using hne
   clear hp hq hd;go_enter func166,ntmps166;go_wp2
   · go_ret;exact⟨rfl,RowKit.Below.refl _ _⟩
theorem Zkx{B B':Nat}{A A':Option Addr}{n k n' k':Nat}{ps qs:List KV}(hp:Zat w B A n ps)(hq:Zat w B' A' n' qs)(hB:B<=w.heap.size)(hB':B'<=w.heap.size)(hn:n<=maxLen)(hn':n'<=maxLen) :
 Calls prog 83 #[.slice A n k,.slice A' n' k'] w fun e w'=>e=.returned (.bool (decide (ps=qs)))/\RowKit.Below w.heap.size w w':=by
 have HE:=hid (Zkw (k:=k) (k':=k') hp hq hB hB' hn hn');generalize decide (ps=qs)=r at HE ⊢;clear hp hq;go_enter func83,ntmps83;go_wp2_with fail;refine HE.out.mono ?_;rintro e w'⟨rfl,hb⟩;have HB:=hid hb;clear hb;go_wp2;go_ret;exact⟨rfl,HB.out⟩
end
section
variable{w w':World}{X:Nat->Prop}{v m c x p q r:Nat}{a b d:TL}{S:VS}
theorem Zpu(hv:Ze w X v m c S)(hr:ZH w X x p q r a b d)(hl:ZfM S a b d)(hWf:S.W.length<=2147483647)(hWk:∀p∈S.W,p.1.length<=140737488355328)(hCf:S.C.length<=32767)(hCk:∀p∈S.C,p.1.length<=140737488355328)(hb:b.length<=2147483647) :
 Calls prog 37 #[.pointer (some ⟨v,0,none⟩),.pointer (some ⟨x,0,none⟩)] w fun e w'=>e=.returned (.bool true)/\RowKit.Below w.heap.size w w':=by
 have H1:=hid (ZjA hv hWf hWk hCf hCk (A:=none) (n:=0) (k:=0) (l:=[]) (RB.nil_ (w:=w) (B:=0)) (Nat.zero_le _))
 have H2:=hid (show ∀w1,RowKit.Below w.heap.size w w1->Calls prog 85 #[.pointer (some ⟨x,0,none⟩),.slice none 0 0] w1 fun e w'=>∃A' n' k',e=.returned (.slice A' n' k')/\SPs w' X A' n' k' (b.filter fun q=>(tx []).isPrefixOf q.1)/\RowKit.Below w1.heap.size w1 w' from fun w1 hb1=>
  Zkv (hr.below hb1) hb (RB.nil_ (w:=w1) (B:=0)) (Nat.zero_le _) (Nat.zero_le _) (Nat.le_refl _))
 have HE:=hid (show S.scan (tx [])=b.filter fun q=>(tx []).isPrefixOf q.1 from by unfold VS.scan;rw[hl.nowL]);have HN:=hid (show(b.filter fun q=>(tx []).isPrefixOf q.1).length<=maxLen from Nat.le_trans (List.length_filter_le _ _) (by unfold maxLen;omega));clear hv hr hl hWf hWk hCf hCk hb;go_enter func37,ntmps37;go_wp2_with fail;refine H1.out.mono ?_;rintro e w1⟨A1,n1,k1,rfl,hk1,hp1,hb1⟩;have HP1:=hid hp1;have HB1:=hid hb1;have h2:=H2.out w1 hb1;have HC:=hid h2;clear hp1 hb1 h2;go_wp2_with fail;refine HC.out.mono ?_;rintro e w2⟨A2,n2,k2,rfl,hs2,hb2⟩;have hq:=hs2.pairs;have h1:=HP1.out;rw[HE.out]at h1;have hn1:n1<=maxLen:=by rw[<-h1.1,List.length_map];exact HN.out
 have hn2:n2<=maxLen:=by rw[<-hq.1,List.length_map];exact HN.out
 have HPL:=hid (Zkx (k:=k1) (k':=k2) (h1.below hb2) hq hb2.size (Nat.le_refl _) hn1 hn2);have HB2:=hid (HB1.out.trans (hb2.mono HB1.out.size));clear hs2 hb2 hq h1;go_wp2_with fail;refine HPL.out.mono ?_;rintro e w3⟨rfl,hb3⟩;have HB3:=hid (HB2.out.trans (hb3.mono HB2.out.size));clear hb3;go_wp2_with fail;go_ret;exact⟨by simp,HB3.out⟩
end
end Go.Proofs.YtiknkbpojmgbhaaGreat
namespace Go.Proofs.YtiknkbpojmgbhaaGreat
open Go.RowKit Go.Maps
def Zql(v m c x p q r:Nat):Prop:=∀i,(i=v∨i=m∨i=c)->i≠x/\i≠p/\i≠q/\i≠r
structure Zqm(w:World)(X:Nat->Prop)(v m c x p q r:Nat)(S:VS)(a b d:TL):Prop where
 view:Ze w X v m c S
 ref:ZH w X x p q r a b d
 link:ZfM S a b d
 far:Zql v m c x p q r
section
variable{w w':World}{X X':Nat->Prop}{v m c x p q r p' q' r':Nat}{S S':VS}{a b d a' b' d':TL}
theorem ZH.keep(h:ZH w X x p q r a b d)(hs:w.heap.size<=w'.heap.size)(hX:∀k,k<w.heap.size->¬X k->¬X' k)(hx:∀k,X k->X' k)(hlt:∀k,X' k->k<w'.heap.size)(hk:∀k,k<w.heap.size->(k=x∨k=p∨k=q∨k=r∨¬X k)->w'.heap[k]?=w.heap[k]?):ZH w' X' x p q r a b d:=by
 have hk':∀k,k<w.heap.size->¬X k->w'.heap[k]?=w.heap[k]?:=fun k h1 h2=>hk k h1 (.inr (.inr (.inr (.inr h2))))
 exact⟨(hk x h.lt (.inl rfl)).trans h.me,hx x h.own,h.was.keep hs hX hx hk' (hk p h.was.lt (.inr (.inl rfl))),h.now.keep hs hX hx hk' (hk q h.now.lt (.inr (.inr (.inl rfl)))),h.told.keep hs hX hx hk' (hk r h.told.lt (.inr (.inr (.inr (.inl rfl))))),h.apart,hlt⟩
theorem Zqm.afterView(h:Zqm w X v m c x p q r S a b d)(ht:Za (fun k=>k=m∨k=c) w w'):ZH w' X x p q r a b d:=by
 have hmc:∀k,(k=x∨k=p∨k=q∨k=r∨¬X k)->¬(k=m∨k=c):=fun k hk e=>by
  obtain⟨f1,f2,f3,f4⟩:=h.far k (.inr e);rcases hk with hk|hk|hk|hk|hk
  · exact f1 hk
  · exact f2 hk
  · exact f3 hk
  · exact f4 hk
  · rcases e with e|e
    · exact hk (by rw[e];exact h.view.xm)
    · exact hk (by rw[e];exact h.view.xc)
 exact h.ref.keep ht.size (fun _ _ h=>h) (fun _ h=>h) (fun k hk=>Nat.lt_of_lt_of_le (h.ref.old k hk) ht.size) (fun k hk hh=>ht.block k hk (hmc k hh))
theorem ZhG{F:Nat->Prop}(hv:Ze w X v m c S)(hr:ZH w X x p q r a b d)(hfar:Zql v m c x p q r)(ht:Za F w w')(hF:∀k,F k->k=x∨k=p∨k=q∨k=r)(hX:∀k,k<w.heap.size->¬X k->¬X' k)(hx:∀k,X k->X' k)(hlt:∀k,X' k->k<w'.heap.size):Ze w' X' v m c S:=by
 refine hv.keep ht.size hX hx hlt fun k hk hh=>ht.block k hk fun hf=>?_
 have e:=hF k hf
 have hXk:X k:=by
  rcases e with e|e|e|e
  · rw[e];exact hr.own
  · rw[e];exact hr.was.own
  · rw[e];exact hr.now.own
  · rw[e];exact hr.told.own
 have hh':k=v∨k=m∨k=c:=by
  rcases hh with hh|hh|hh|hh
  · exact .inl hh
  · exact .inr (.inl hh)
  · exact .inr (.inr hh)
  · exact absurd hXk hh
 obtain⟨f1,f2,f3,f4⟩:=hfar k hh';rcases e with e|e|e|e
 · exact f1 e
 · exact f2 e
 · exact f3 e
 · exact f4 e
theorem Zqm.renew{w1:World}(h:Zqm w X v m c x p q r S a b d)(hv:Ze w1 X v m c S')(hr:ZH w' (Zpt X w1 w') x p' q' r' a' b' d')(ht:Za (fun k=>k=m∨k=c) w w1)(ht':Za (fun k=>k=x) w1 w')(hl:ZfM S' a' b' d')
 (hp:p'=p∨w1.heap.size<=p') (hq:q'=q∨w1.heap.size<=q') (hr':w1.heap.size<=r'):Zqm w' (Zpt X w1 w') v m c x p' q' r' S' a' b' d':=by
 refine⟨ZhG hv (h.afterView ht) h.far ht' (fun k hk=>.inl hk) (fun k hk hx hy=>?_) (fun k hk=>.inl hk) (fun k hk=>?_),hr,hl,fun i hi=>?_⟩
 · rcases hy with e|e
   · exact hx e
   · omega
 · rcases hk with e|e
   · exact Nat.lt_of_lt_of_le (hv.lt k e) ht'.size
   · exact e.2
 · obtain⟨f1,f2,f3,f4⟩:=h.far i hi
   have hil:i<w1.heap.size:=by
    rcases hi with e|e|e
    · rw[e];exact hv.lt _ hv.xv
    · rw[e];exact hv.lt _ hv.xm
    · rw[e];exact hv.lt _ hv.xc
   refine⟨f1,?_,?_,by omega⟩
   · rcases hp with e|e
     · rw[e];exact f2
     · omega
   · rcases hq with e|e
     · rw[e];exact f3
     · omega
end
end Go.Proofs.YtiknkbpojmgbhaaGreat
