/- StrP, ViewH, ViewI, ViewJ, ViewL. Conditions: in each theorem. -/
import Derived.Test.YtiknkbpojmgbhaaGreatViewC
import Derived.Test.YtiknkbpojmgbhaaGreatManS
import Derived.Lib.BytesEntry
import Derived.Laws.Externs
import Derived.Lib.Walk
import Derived.Lib.Strings
import Derived.Lib.Slices
import Derived.Laws.Strings3
import Derived.Test.YtiknkbpojmgbhaaGreatViewE
set_option maxHeartbeats 6400000
set_option maxRecDepth 100000
set_option linter.unusedVariables false
open Go.Proofs.Tryz
open Go.Lib (hid)
namespace Go.Proofs.YtiknkbpojmgbhaaGreat
open Go.RowKit Go.Maps
theorem Zoo(s p:ByteArray)(w:World) :
 Calls prog 231 #[.string s,.string p] w fun e w'=>e=.returned (.bool (p.data.toList.isPrefixOf s.data.toList))/\w=w':=by
 show Calls prog 231 #[.string s,.string p] w fun e w'=>e=.returned (.bool (Lib.hasPrefix s.data.toList p.data.toList))/\w=w'
 rw[<-Lib.hasPrefix_of_take,<-Lib.size_eq,<-Lib.size_eq];go_enter func231,ntmps231;go_wp2
 · rename_i h
   go_ret;refine⟨?_,rfl⟩;show Ending.returned (Value.bool ((s.extract 0 p.size).toList == p.toList))=_;rw[Lib.extract_toList,Lib.toList_data];simp[h]
 · rename_i h
   go_ret;refine⟨?_,rfl⟩;show Ending.returned (Value.bool false)=_;simp[h]
theorem ZgN(x p:Txt)(w:World) :
 Calls prog 170 #[encStr x,encStr p] w fun e w'=>e=.returned (.bool (p.isPrefixOf x))/\w=w':=by
 have H:=hid (Zoo ⟨x.toArray⟩ ⟨p.toArray⟩ w);have e:p.toArray.toList.isPrefixOf x.toArray.toList=p.isPrefixOf x:=by simp
 simp only at H;generalize p.isPrefixOf x=r at H ⊢;go_enter func170,ntmps170;go_wp2_with fail;refine H.out.mono ?_;rintro e w'⟨rfl,rfl⟩;go_wp2;go_ret;exact⟨rfl,rfl⟩
def Zmx(W:TL)(p:Txt)(left:Txt->Bool)(ps:TL):Prop:=ps.Nodup/\∀q,q∈ps↔q∈W/\p.isPrefixOf q.1=true/\left q.1=false
theorem Zmx.start(W:TL)(p:Txt):Zmx W p (fun x=>(Zf W x).isSome) []:=⟨List.nodup_nil,fun q=>⟨fun h=>(by cases h),fun h=>by
 obtain⟨h1,_,h3⟩:=h
 cases hl:Zf W q.1 with
 | none=>exact absurd rfl (ZO.1 hl q h1)
 | some c=>simp[hl]at h3⟩⟩
theorem Zmx.step{W:TL}{p x:Txt}{left:Txt->Bool}{ps:TL}{l:List Int}(h:Zmx W p left ps)(hW:ZG W)(hx:Zf W x=some l)(hl:left x=true)(hp:p.isPrefixOf x=true):Zmx W p (fun z=>left z && !decide (z=x)) (ps++[(x,l)]):=by
 obtain⟨h1,h2⟩:=h
 have hno:(x,l)∉ps:=fun hm=>by
  have:=((h2 _).1 hm).2.2
  rw[hl]at this;cases this
 refine⟨?_,fun q=>?_⟩
 · rw[List.nodup_append];refine⟨h1,List.nodup_cons.2 ⟨by simp,List.nodup_nil⟩,fun a ha b hb e=>?_⟩;obtain rfl:=List.mem_singleton.1 hb;rw[e]at ha;exact hno ha
 · rw[List.mem_append,List.mem_singleton,h2 q];constructor
   · rintro(⟨a,b,c⟩|rfl)
     · exact⟨a,b,by show(left q.1&&_)=false;rw[c];rfl⟩
     · exact⟨Zao hx,hp,by simp⟩
   · rintro⟨a,b,c⟩;by_cases e:q.1=x
     · right;have h3:=hW.look (show(q.1,q.2)∈W from a);rw[e,hx]at h3;exact Prod.ext e (Option.some.inj h3).symm
     · left;refine⟨a,b,?_⟩
       have:decide (q.1=x)=false:=by simpa using e
       have c':(left q.1 && !decide (q.1=x))=false:=c;rw[this]at c';simpa using c'
theorem Zmx.skip{W:TL}{p x:Txt}{left:Txt->Bool}{ps:TL}(h:Zmx W p left ps)(hp:p.isPrefixOf x=false):Zmx W p (fun z=>left z && !decide (z=x)) ps:=by
 obtain⟨h1,h2⟩:=h;refine⟨h1,fun q=>?_⟩;rw[h2 q];constructor
 · rintro⟨a,b,c⟩;exact⟨a,b,by show(left q.1&&_)=false;rw[c];rfl⟩
 · rintro⟨a,b,c⟩;refine⟨a,b,?_⟩
   have:decide (q.1=x)=false:=by
    have:q.1≠x:=fun e=>by rw[e,hp]at b;cases b
    simpa using this
   have c':(left q.1 && !decide (q.1=x))=false:=c;rw[this]at c';simpa using c'
theorem Zmx.done{W:TL}{p:Txt}{left:Txt->Bool}{ps:TL}(h:Zmx W p left ps)(hW:ZG W)(h0:∀x,left x=false):ps.Perm (W.filter fun q=>p.isPrefixOf q.1):=by
 obtain⟨h1,h2⟩:=h;have hn:W.Nodup:=List.nodup_iff_pairwise_ne.2 (hW.imp fun {a b} h e=>by rw[e]at h;exact ZC _ h);refine(List.perm_ext_iff_of_nodup h1 (hn.filter _)).2 fun q=>?_
 rw[h2 q,List.mem_filter];constructor
 · rintro⟨a,b,_⟩;exact⟨a,b⟩
 · rintro⟨a,b⟩;exact⟨a,b,h0 _⟩
section
variable{w w':World}{X:Nat->Prop}{v m c:Nat}{S:VS}
theorem Za8.beside{β:Type}{R:World->(Nat->Prop)->List Value->β->Prop}(K:ZlX R){e:TypeId}{size base r:Nat}{Y:Nat->Prop}{v:Value}{l:List β}(h:Za8 R e size w Y base v l)(hg:w.grownBy w' (some r))(hr:Y r)(ho:v.ownBlock≠some r):Za8 R e size w' Y base v l:=
 h.keep K hg.size (fun _ _ h=>h) (fun k hk hy=>hg.block k hk fun e=>hy (by injection e with e;rw[e];exact hr)) (fun k hk=>⟨hg.block k (h.at_ k hk).2 (fun e=>ho (by rw[hk,e])),h.own k hk⟩)
def Zy(w:World)(r base:Nat)(v:Value)(P:List KV):Prop:=
 ∃Y:Nat->Prop,Za8 Zc9 101 2 w Y base v P/\Y r/\(∀k,Y k->base<=k∨k=r)/\(∀k,Y k->k<w.heap.size)/\v.ownBlock≠some r
theorem Zy.below{r base:Nat}{u:Value}{P:List KV}(h:Zy w r base u P)(hb:Below w.heap.size w w'):Zy w' r base u P:=by
 obtain⟨Y,h1,h2,h3,h4,h5⟩:=h;exact⟨Y,h1.below @ZV hb,h2,h3,fun k hk=>Nat.lt_of_lt_of_le (h4 k hk) hb.size,h5⟩
theorem Zy.turned{r base:Nat}{u:Value}{P:List KV}(h:Zy w r base u P)(hg:w.grownBy w' (some r)):Zy w' r base u P:=by
 obtain⟨Y,h1,h2,h3,h4,h5⟩:=h;exact⟨Y,h1.beside @ZV hg h2 h5,h2,h3,fun k hk=>Nat.lt_of_lt_of_le (h4 k hk) hg.size,h5⟩
theorem Zy.shape{r base:Nat}{u:Value}{P:List KV}(h:Zy w r base u P):∃A c,u=.slice A P.length c:=by
 obtain⟨Y,h1,_⟩:=h;obtain⟨A,c,e,_⟩:=h1.shape;exact⟨A,c,e⟩
theorem Zy.push{W:World}{r base:Nat}{u u1 u2:Value}{P:List KV}{x:KV}{b:Nat}{TT:TypeId}(h:Zy W r base u P)(hW:Below W.heap.size W w)(hu1:SV w (fun k=>k<W.heap.size) u1 x.1)(hu2:SV w (fun k=>k<W.heap.size) u2 x.2)(hb:w.heap[b]?=some (.cells #[u1,u2] TT))(hn:P.length<=4294967296)(hbase:base<=w.heap.size)(ty:TypeId) :
 ∃v' w',(Builtin.append_ #[128,128] ty #[u,.slice (some ⟨b,0,none⟩) 1 1]).run prog w=.ok v' w'/\Zy w' r base v' (P++[x])/\Below base w w'/\w.grownBy w' u.ownBlock/\(v'.ownBlock=u.ownBlock∨v'.ownBlock=some w.heap.size):=by
 obtain⟨Y,h1,h2,h3,h4,h5⟩:=h;have h1':=h1.below @ZV hW;obtain⟨v',w',hrun,g1,g2,g3,_⟩:=h1'.append_pair (hu1.far fun k hk=>h4 k hk) (hu2.far fun k hk=>h4 k hk) hb hn hbase ty;have hrw:r<w.heap.size:=Nat.lt_of_lt_of_le (h4 r h2) hW.size;refine⟨v',w',hrun,⟨_,g1,.inl h2,fun k hk=>?_,fun k hk=>?_,fun e=>?_⟩,(Below.refl base w).grown g2 hbase (fun k hk=>(h1.at_ k hk).1),g2,g3⟩
 · rcases hk with a|a
   · exact h3 k a
   · exact .inl (g1.at_ k a).1
 · rcases hk with a|a
   · exact Nat.lt_of_lt_of_le (h4 k a) (Nat.le_trans hW.size g2.size)
   · exact(g1.at_ k a).2
 · rcases g3 with q|q
   · rw[q]at e;exact h5 e
   · rw[q]at e;injection e with e;omega
theorem ZkL{W:TL}(h:ZbN SV w X m W)(hup:ZG W)(hX:∀k,X k->k<w.heap.size)(hfew:W.length<=4294967295)(hkeys:∀p∈W,p.1.length<=140737488355328){A:Option Addr}{n k B:Nat}{l:List Int}(hr:RB w B A n l) :
 Calls prog 491 #[.map (some m),.slice A n k] w fun e w'=>∃(u:Value) (ps:TL),e=.returned (.tuple #[u,.int .i64 0])/\Zy w' w.heap.size (w.heap.size+1) u (ps.map Zaq)/\ps.Perm (W.filter fun q=>(tx l).isPrefixOf q.1)/\Below w.heap.size w w':=by
 have hconv:(convert 99 9 (.slice A n k)).run prog w=.ok (encStr (tx l)) w:=hr.conv k;obtain⟨f,hS,hf⟩:=h;obtain⟨w0,cnt0,hrange,hR0,hcnt0,hg0,hs0⟩:=hS.range underlying160;have hb0:Below w.heap.size w w0:=(Below.refl _ _).grown hg0 (Nat.le_refl _) (fun k h=>by cases h);have hm0:m<w.heap.size:=hS.lt
 have hmap:∀{w1:World},Below w.heap.size w w1->∀x y,f x=some y->∃l,Zf W x=some l/\SV w1 X y l:=by
  intro w1 hb x y hx
  cases hl:Zf W x with
  | none=>rw[(hf x).1 hl]at hx;cases hx
  | some d=>
   obtain⟨u,e,hu⟩:=(hf x).2 d hl;rw[e]at hx;cases hx;exact⟨d,rfl,hu.keep hb.size (fun _ _ h=>h) (fun k hk _=>hb.block k hk)⟩
 have hleft0:(fun x=>(f x).isSome)=fun x=>(Zf W x).isSome:=by
  funext x
  cases hl:Zf W x with
  | none=>rw[(hf x).1 hl];rfl
  | some d=>obtain⟨u,e,_⟩:=(hf x).2 d hl;rw[e];rfl
 rw[hleft0]at hR0;have hst:Zy w0 w.heap.size (w.heap.size+1) (.slice none 0 0) ((([]:TL)).map Zaq):=⟨fun k=>k=w.heap.size,Za8.start _ _ _,rfl,fun k hk=>.inr hk,fun k hk=>by rw[hk,hs0];omega,by simp[Value.ownBlock]⟩
 have H0:=hid (And.intro hR0 (And.intro hst (And.intro (Zmx.start W (tx l)) (And.intro hb0 (show([]:TL).length+cnt0<=W.length by simpa using hcnt0)))));have HMAP:=hid (fun w1 hb x y hx=>hmap (w1:=w1) hb x y hx);have HUP:=hid hup;have HF:=hid (And.intro hfew (And.intro hkeys hX));obtain⟨r,hrr⟩:∃r,r=w.heap.size:=⟨_,rfl⟩
 have HRR:=hid hrr;rw[<-hrr]at hrange H0 HMAP;generalize hpst:encStr (tx l)=pst at hconv;have HPST:=hid hpst;clear hcnt0 hS hf hR0 hg0 hs0 hb0 hmap hleft0 hst hup hfew hkeys hX hr hpst hrr;go_enter func491,ntmps491;go_wp2_with fail
 go_loopw[7] (fun u wr=>∃(left:Txt->Bool) (cnt:Nat) (ps:TL),Hid (Za0 wr m r W.length f left cnt/\Zy wr r (r+1) u (ps.map Zaq)/\Zmx W (tx l) left ps/\Below r w wr/\ps.length+cnt<=W.length)) (fun _ wr=>wr.rangeLeft m r)
 case atStart=>exact⟨_,_,_,H0⟩
 case round=>
  obtain⟨left,cnt,ps,HR⟩:=hrel;obtain⟨hR,hrow,hC,hbel,hcnt⟩:=HR.out;rcases hR.next 0 with ⟨h0,hl0,hnext⟩|⟨x,y,w1,cnt1,hxl,hlx,hfx,hnext,hR1,hlt,hg1,hs1,hen⟩
  · have HFIN:=hid (And.intro hrow (And.intro (hC.done HUP.out hl0) hbel));obtain⟨PA,PK,rfl⟩:=hrow.shape;clear hR hrow hC hbel hl0;go_wp2;go_ret2;have hh:=HFIN.out;rw[HRR.out]at hh;exact⟨_,ps,rfl,hh⟩
  · have hrs:r<wr.heap.size:=hR.lt;have hbel1:Below r w w1:=hbel.grown hg1 (by have:=hbel.size;omega) (fun k e=>by injection e with e;omega);obtain⟨l2,hl2,hsv⟩:=HMAP.out w1 hbel1 x y hfx;obtain⟨A2,n2,k2,rfl,_,z2,z3,_⟩:=hsv;have hrow1:=hrow.turned hg1;have hkl:=HF.out.2.1 _ (Zao hl2);have HPre:=hid (ZgN x (tx l) w1);rw[HPST.out]at HPre;have HML:=hR.left_eq
    cases hpre:(tx l).isPrefixOf x with
    | false=>
     have HN:=hid (And.intro hR1 (And.intro hrow1 (And.intro (hC.skip hpre) (And.intro hbel1 (show ps.length+cnt1<=W.length by omega)))));rw[hpre]at HPre;generalize encStr x=st at hnext hen HPre;have hsh:=hrow.shape;rw[List.length_map]at hsh;obtain⟨PA,PK,rfl⟩:=hsh;have HLT:=hid (And.intro hlt (And.intro HML hR1.left_eq));clear hR hrow hC hbel hcnt hR1 hrow1 hg1 hs1 hl2 z3 hkl hlt HML;go_wp2_with fail;refine HPre.out.mono ?_;rintro e w2⟨rfl,rfl⟩;go_wp2;go_roundw
     case rel=>exact⟨_,_,_,HN⟩
     case measure=>obtain⟨q1,q2,q3⟩:=HLT.out;rw[q2,q3];exact q1
    | true=>
     have HPO:=hid (ZcV w1 x hkl (k:=k2) z3 (Nat.le_refl _) z2);have hC1:=hC.step HUP.out hl2 hlx hpre;have HC:=hid (And.intro hC1 (And.intro (show(ps++[(x,l2)]).length+cnt1<=W.length by rw[List.length_append];simp;omega) (And.intro hbel1 (And.intro hrow1 (And.intro hR1 (And.intro (show r<w1.heap.size by omega) (show(ps.map Zaq).length<=4294967296 by rw[List.length_map];have:=HF.out.1;omega)))))));rw[hpre]at HPre;generalize encStr x=st at hnext hen HPre HPO;have hsh:=hrow.shape;rw[List.length_map]at hsh;have HLT:=hid (And.intro hlt HML);clear hR hrow hC hbel hcnt hR1 hrow1 hg1 hs1 hl2 z3 hkl hlt HML hC1;obtain⟨PA,PK,rfl⟩:=hsh;go_wp2_with fail;refine HPre.out.mono ?_;rintro e w2⟨rfl,rfl⟩;go_wp2_with fail;refine HPO.out.mono ?_;rintro e w3⟨x1,x2,rfl,hx1,hx2,hb3⟩;obtain⟨c1,c2,c3,c4,c5,c6,c7⟩:=HC.out;have hX5:Below w3.heap.size w3 (w3.alloc (.cells #[x1,x2] 101 (0,0))):=(Below.refl _ _).alloc (Nat.le_refl _) _;have hb5:=hb3.trans (hX5.mono hb3.size);obtain⟨v',w6,hrun,hR6,hb6,hg6,ho6⟩:=c4.push (x:=Zaq (x,l2)) hb5 (hx1.keep hX5.size (fun _ _ h=>h) (fun k hk _=>hX5.block k hk)) (hx2.keep hX5.size (fun _ _ h=>h) (fun k hk _=>hX5.block k hk)) (heap_alloc_new _ _) c7 (by have:=hb5.size;omega) 128;have hb16:Below (r+1) w1 w6:=(hb5.mono (by omega)).trans hb6
     have HN:=hid (show Za0 w6 m r W.length f (fun z=>left z && !decide (z=x)) cnt1/\Zy w6 r (r+1) v' ((ps++[(x,l2)]).map Zaq)/\Zmx W (tx l) (fun z=>left z && !decide (z=x)) (ps++[(x,l2)])/\Below r w w6/\(ps++[(x,l2)]).length+cnt1<=W.length from
      ⟨c5.keep (hb16.block m (by have:=HRR.out;omega)) (hb16.block r (by omega)),by rw[List.map_append];exact hR6,c1,c3.trans (hb16.mono (by omega)),c2⟩)
     have HLE:=hid HN.out.1.left_eq;have HRUN:=hid hrun;obtain⟨B1,m1,l1,rfl,_⟩:=hx1;obtain⟨B2,m2,l2',rfl,_⟩:=hx2;clear hX5 hb5 hR6 hb6 hg6 ho6 hb16 hb3 c1 c2 c3 c4 c5 c6 c7 hrun
     go_wp2_with (at_builtin;refine Lib.wpList_append_run _ rfl _ _ _ _ rfl _ _ rfl rfl _ _ HRUN.out ?_)
     go_roundw
     case rel=>exact⟨_,_,_,HN⟩
     case measure=>obtain⟨q1,q2⟩:=HLT.out;rw[q2,HLE.out];exact q1
end
section
variable{w w':World}{X:Nat->Prop}{v m c:Nat}{S:VS}
theorem Zqq(h:Ze w X v m c S){bx:Nat}(hbx:w.cell? ⟨bx,0,none⟩=some (.pointer (some ⟨v,0,none⟩)))(hbl:bx<w.heap.size){A A':Option Addr}{n k n' k' B:Nat}{l:List Int}(hr:RB w B A n l)(hB:B<=w.heap.size)(hn:n<=maxLen) :
 Calls prog 169 #[.agg #[.slice A n k,.slice A' n' k'],.pointer (some ⟨bx,0,none⟩)] w fun e w'=>e=.returned (.bool (Zf S.C (tx l)).isSome)/\Below w.heap.size w w':=by
 have hlen:=hr.len;obtain⟨u0,hlk,n1,s1⟩:=h.chg.look underlying125 Zdj (x:=tx l) (by rw[ZZ,hlen];exact hn)
 have hch:∃(t:Bool) (A3:Option Addr) (n3 k3:Nat),u0=.agg #[.bool t,.slice A3 n3 k3]:=by
  cases hl:Zf S.C (tx l)with
  | none=>exact⟨_,_,_,_,n1 hl⟩
  | some d=>
   have hd:=s1 d hl;cases d with
   | none=>exact⟨_,_,_,_,hd⟩
   | some y=>
    obtain⟨q,rfl,A3,n3,k3,rfl,_⟩:=hd;exact⟨_,_,_,_,rfl⟩
 obtain⟨t,A3,n3,k3,rfl⟩:=hch;obtain⟨w1,hw1⟩:∃w1,w1=w.alloc (.cells #[.slice A n k,.slice A' n' k'] 101 (0,0)):=⟨_,rfl⟩
 have B1:Below w.heap.size w w1:=by rw[hw1];exact(Below.refl _ w).alloc (Nat.le_refl _) _
 have hs1:w1.heap.size=w.heap.size+1:=by rw[hw1];simp
 have hbk:w1.heap[w.heap.size]?=some (.cells #[.slice A n k,.slice A' n' k'] 101 (0,0)):=by rw[hw1];exact heap_alloc_new _ _
 have hC:Below w1.heap.size w1 (w1.alloc (.cells #[.bool false,.slice none 0 0] 199)).drew:=((Below.refl _ w1).alloc (Nat.le_refl _) _).drew;have b2:=B1.drew;have b3:=B1.trans (hC.mono B1.size)
 have mk:∀W,Below w.heap.size w W->(convert 99 9 (.slice A n k)).run prog W=.ok (.string (strOfNums l)) W/\(Instr.lookup 125 (.map (some c)) (.string (strOfNums l)) true).run prog W=.ok (.tuple #[.agg #[.bool t,.slice A3 n3 k3],.bool (Zf S.C (tx l)).isSome]) W/\W.cell? ⟨bx,0,none⟩=some (.pointer (some ⟨v,0,none⟩))/\W.cell? ⟨v,1,none⟩=some (.map (some c)):=fun W hW=>
  ⟨(hr.below (hW.mono hB)).conv k,hlk W (hW.block c h.chg.lt),(hW.cell (p:=⟨bx,0,none⟩) hbl).trans hbx,(h.below hW).cells.2.1⟩
 obtain⟨p1,p2,p3,p4⟩:=mk _ b2;obtain⟨q1,q2,q3,q4⟩:=mk _ b3;obtain⟨_,_,r3,r4⟩:=mk _ B1
 have cells:∀W:World,W.heap[w.heap.size]?=w1.heap[w.heap.size]?->W.cell? ⟨w.heap.size,0,none⟩=some (.slice A n k):=fun W e=>by
  rw[hbk]at e;rw[cell_of_row W _ 0 _ _ (0,0) e];rfl
 have d1:=cells w1.drew rfl;have d2:=cells (w1.alloc (.cells #[.bool false,.slice none 0 0] 199)).drew (Below.heap_alloc _ _ _ (by omega));have HFIN:=hid (show ∀o,Below w.heap.size w (w1.alloc o).drew from fun o=>(B1.alloc B1.size o).drew);generalize (Zf S.C (tx l)).isSome=bs at p2 q2 ⊢;generalize strOfNums l=st at p1 p2 q1 q2;clear hlk n1 s1 mk cells h hr hC b2 b3 B1 hbk hbx;go_enter func169,ntmps169;go_wp2_with fail;rw[<-hw1];obtain⟨bz,hbz⟩:∃bz,bz=w.heap.size:=⟨_,rfl⟩
 have HBZ:=hid hbz;rw[<-hbz]at d1 d2 HFIN ⊢;clear hw1 hs1 hbz hbl hB
 go_region_with fail
 all_goals
  go_wp2_with fail;go_ret;have hh:=HFIN.out;rw[HBZ.out]at hh;exact⟨rfl,hh _⟩
end
def ZbC(w:World)(g n cap:Nat)(vs:List Value):Prop:=∃cur:Array Value,w.heap[g]?=some (.cells cur 101 (0,0))/\n<=cap/\cap<=maxLen/\cur.size=cap*2/\cur.toList.take (n*2)=vs
def ZcX(w:World)(Y:Nat->Prop)(vs:List Value)(a:Nat)(x:KV):Prop:=∃u1 u2,vs[a*2]?=some u1/\vs[a*2+1]?=some u2/\SV w Y u1 x.1/\SV w Y u2 x.2
section
variable{w w':World}{Y:Nat->Prop}{g n cap base:Nat}{vs:List Value}
theorem ZbC.len(h:ZbC w g n cap vs):vs.length=n*2:=by
 obtain⟨cur,_,h1,_,h2,rfl⟩:=h;rw[List.length_take,Array.length_toList,h2];omega
theorem ZbC.lt(h:ZbC w g n cap vs):g<w.heap.size:=by
 obtain⟨cur,h1,_⟩:=h;exact(Array.getElem?_eq_some_iff.1 h1).1
theorem ZbC.keep(h:ZbC w g n cap vs)(e:w'.heap[g]?=w.heap[g]?):ZbC w' g n cap vs:=by
 obtain⟨cur,h1,h2⟩:=h;exact⟨cur,e.trans h1,h2⟩
theorem ZbC.cell(h:ZbC w g n cap vs){k:Nat}{u:Value}(hu:vs[k]?=some u):w.cell? ⟨g,k,none⟩=some u:=by
 have hl:=h.len;obtain⟨cur,h1,h2,h3,h4,rfl⟩:=h;have hk:=(List.getElem?_eq_some_iff.1 hu).1;rw[cell_of_row w g k cur _ (0,0) h1,<-hu,List.getElem?_take,if_pos (by omega)];simp
theorem ZbC.frozen(h:ZbC w g n cap vs)(k:Nat):w.frozen? ⟨g,k,none⟩=false:=by
 obtain⟨cur,h1,_⟩:=h;exact frozen_of_row w g k _ _ h1
theorem ZbC.set2(h:ZbC w g n cap vs){i:Nat}(hi:i<n)(u1 u2:Value):ZbC ((w.setCell ⟨g,i*2,none⟩ u1).setCell ⟨g,i*2+1,none⟩ u2) g n cap ((vs.set (i*2) u1).set (i*2+1) u2):=by
 obtain⟨cur,h1,h2,h3,h4,rfl⟩:=h;have e1:=heap_setCell_same w g (i*2) cur 101 u1 h1;have e2:=heap_setCell_same _ g (i*2+1) _ 101 u2 e1;refine⟨_,e2,h2,h3,by simpa using h4,?_⟩;simp only[Array.toList_setIfInBounds,List.take_set]
theorem ZcX.keep{a:Nat}{x:KV}(h:ZcX w Y vs a x)(ht:Za (fun k=>k=g) w w')(hY:Y g):ZcX w' Y vs a x:=by
 obtain⟨u1,u2,h1,h2,h3,h4⟩:=h;have hk:∀k,k<w.heap.size->¬Y k->w'.heap[k]?=w.heap[k]?:=fun k hk hy=>ht.block k hk fun e=>hy (by rw[e];exact hY)
 exact⟨u1,u2,h1,h2,h3.keep ht.size (fun _ _ h=>h) hk,h4.keep ht.size (fun _ _ h=>h) hk⟩
theorem ZcX.of{us:List Value}{a:Nat}{x:KV}(h:ZcX w Y vs a x)(e1:us[a*2]?=vs[a*2]?)(e2:us[a*2+1]?=vs[a*2+1]?):ZcX w Y us a x:=by
 obtain⟨u1,u2,h1,h2,h3⟩:=h;exact⟨u1,u2,e1.trans h1,e2.trans h2,h3⟩
theorem Za8.open_{l:List KV}(h:Za8 Zc9 101 2 w Y base (.slice (some ⟨g,0,none⟩) n cap) l):n=l.length/\base<=g/\Y g/\∃vs,ZbC w g n cap vs/\∀a x,l[a]?=some x->ZcX w Y vs a x:=by
 obtain⟨vs,h1,h2⟩:=h.row;have hY:=h.own g rfl;rcases h1.2 with ⟨e,h0⟩|⟨g',cap',cur,e,hb,hg,hc,hm,hs,htake⟩
 · cases e
 · cases e;refine⟨rfl,hb,hY,vs,⟨cur,hg,hc,hm,hs,htake⟩,fun a x hx=>?_⟩;obtain⟨u1,u2,e3,s1,s2⟩:=h2 a x hx;refine⟨u1,u2,?_,?_,s1,s2⟩
   · have:((vs.drop (a*2)).take 2)[0]?=some u1:=by rw[e3];rfl
     rw[List.getElem?_take,if_pos (by decide),List.getElem?_drop]at this;simpa using this
   · have:((vs.drop (a*2)).take 2)[1]?=some u2:=by rw[e3];rfl
     rw[List.getElem?_take,if_pos (by decide),List.getElem?_drop]at this;simpa using this
theorem Zlu{vs:List Value}{k:Nat}{a b:Value}(h1:vs[k]?=some a)(h2:vs[k+1]?=some b):(vs.drop k).take 2 = [a,b]:=by
 obtain⟨l1,rfl⟩:=List.getElem?_eq_some_iff.1 h1;obtain⟨l2,rfl⟩:=List.getElem?_eq_some_iff.1 h2;rw[List.drop_eq_getElem_cons l1,List.drop_eq_getElem_cons l2];rfl
theorem Za8.shut{l:List KV}(h:ZbC w g n cap vs)(hl:l.length<=n)(hb:base<=g)(hY:Y g)(hp:∀a x,l[a]?=some x->ZcX w Y vs a x):Za8 Zc9 101 2 w Y base (.slice (some ⟨g,0,none⟩) l.length cap) l:=by
 have hlen:=h.len;obtain⟨cur,h1,h2,h3,h4,h5⟩:=h
 refine⟨⟨vs.take (l.length*2),⟨by rw[List.length_take,hlen];omega,.inr ⟨g,cap,cur,rfl,hb,h1,Nat.le_trans hl h2,h3,h4,by rw[<-h5,List.take_take];congr 1;omega⟩⟩,fun a x hx=>?_⟩,fun r hr=>by
  simp[Value.ownBlock]at hr;rw[<-hr]
  exact hY⟩
 have ha:=(List.getElem?_eq_some_iff.1 hx).1;obtain⟨u1,u2,e1,e2,s1,s2⟩:=hp a x hx;exact⟨u1,u2,Zlu (by rw[List.getElem?_take,if_pos (by omega)];exact e1) (by rw[List.getElem?_take,if_pos (by omega)];exact e2),s1,s2⟩
theorem ZbC.clear_(h:ZbC w g n cap vs){i k:Nat}(hi:i<n)(ty:TypeId) :
 ∃w',(Builtin.clear_ #[128] ty #[.slice (some ⟨g,i*2,none⟩) (n-i) k]).run prog w=.ok (.tuple #[]) w'/\(∃vs',ZbC w' g n cap vs'/\∀j,j<i*2->vs'[j]?=vs[j]?)/\Za (fun k=>k=g) w w':=by
 obtain⟨i0,hi0,hz0,hz1,hz2⟩:=info_parts ZdT;obtain⟨cur,h1,h2,h3,h4,rfl⟩:=h;have hz:(zeroValue 101).run prog w=.ok (.agg #[.slice none 0 0,.slice none 0 0]) w:=by kernel_rfl
 have hzl:(Builtin.zeroCells (Value.agg #[.slice none 0 0,.slice none 0 0]).cells (n-i)).toList.length=(n-i)*2:=by
  rw[Array.length_toList,size_zeroCells];rfl
 have hone:∀v∈(Builtin.zeroCells (Value.agg #[.slice none 0 0,.slice none 0 0]).cells (n-i)).toList,v.oneCell'=true:=by
  intro v hv;have hv':v∈((Array.range ((n-i)*2)).map fun k=>#[Value.slice none 0 0,Value.slice none 0 0][k%2]!).toList:=hv;rw[Array.toList_map]at hv';obtain⟨k,_,rfl⟩:=List.mem_map.1 hv'
  have:k%2=0∨k%2=1:=by omega
  rcases this with e|e <;> rw[e] <;> rfl
 have hst:=run_storeCells_at prog g (i*2) 101 _ 0 cur w h1 (by rw[hzl];omega) hone
 have hrun:(Builtin.clear_ #[128] ty #[.slice (some ⟨g,i*2,none⟩) (n-i) k]).run prog w=.ok (.tuple #[]) (w.setRow g (cur.toList.take (i*2+0)++(Builtin.zeroCells (Value.agg #[.slice none 0 0,.slice none 0 0]).cells (n-i)).toList++cur.toList.drop (i*2+0+(Builtin.zeroCells (Value.agg #[.slice none 0 0,.slice none 0 0]).cells (n-i)).toList.length)).toArray):=by
  obtain⟨k',hk'⟩:∃k',n-i=k'+1:=⟨n-i-1,by omega⟩
  rw[hk']at hst ⊢;simp only[Builtin.clear_];simp only[List.getElem?_toArray,List.getElem?_cons_zero];simp only[Sem.run_bind,run_underlying underlying128,hz,Result.andThen];rw[hst];rfl
 generalize (Builtin.zeroCells (Value.agg #[.slice none 0 0,.slice none 0 0]).cells (n-i)).toList=C at hrun hzl;refine⟨_,hrun,⟨_,⟨_,setRow_heap w g cur _ 101 _ h1,h2,h3,?_,rfl⟩,fun j hj=>?_⟩,⟨rfl,rfl,rfl,by simp[World.setRow],fun k hk hne=>setRow_other w g k _ (fun e=>hne e)⟩⟩
 · rw[List.size_toArray,List.length_append,List.length_append,hzl,List.length_take,List.length_drop,Array.length_toList];omega
 · rw[List.append_assoc,List.getElem?_take,if_pos (by omega),List.getElem?_append_left (by rw[List.length_take,Array.length_toList];omega),List.getElem?_take,if_pos (by omega),List.getElem?_take,if_pos (by omega)]
end
def Zq6(w:World)(g bx:Nat)(Y:Nat->Prop)(P:KV->Bool):Prop:=∀(W:World) (u1 u2:Value) (x:KV),Za (fun k=>k=g) w W->SV W Y u1 x.1->SV W Y u2 x.2->Calls prog 169 #[.agg #[u1,u2],.pointer (some ⟨bx,0,none⟩)] W fun e w'=>e=.returned (.bool (P x))/\Below W.heap.size W w'
section
variable{w w':World}{Y:Nat->Prop}{g n cap base bx:Nat}{l:List KV}{P:KV->Bool}
theorem SV.slice{u:Value}{x:List Int}(h:SV w Y u x):∃A n c,u=.slice A n c:=by
 obtain⟨A,n,c,rfl,_⟩:=h;exact⟨A,n,c,rfl⟩
theorem ZpB{vs:List Value}(hrow:ZbC w g n cap vs)(hl:l.length=n)(hY:Y g)(hvs:∀a x,l[a]?=some x->ZcX w Y vs a x)(hP:Zq6 w g bx Y P)(hn:n<=4294967296) :
 Calls prog 230 #[.slice (some ⟨g,0,none⟩) n cap,.func (.func 169) #[] #[.pointer (some ⟨bx,0,none⟩)]] w fun e w'=>
  ((∃i x,l[i]?=some x/\P x=true/\(∀(a:Nat) (y:KV),a<i->l[a]?=some y->P y=false)/\e=.returned (.int .i64 (i:Nat)))∨((∀(a:Nat) (y:KV),l[a]?=some y->P y=false)/\e=.returned (.int .i64 (-1))))/\Below w.heap.size w w':=by
 have HR:=hid hrow;have HV:=hid hvs;have HP:=hid hP;have HL:=hid hl;clear hrow hvs hP hl;go_enter func230,ntmps230;go_wp2_with fail
 go_loopw[8] (fun i wr=>∃j:Nat,j<=n/\i=.int .i64 j/\Hid ((∀(a:Nat) (y:KV),a<j->l[a]?=some y->P y=false)/\Below w.heap.size w wr)) (fun i _=>n-(intOf i).toNat)
 case atStart=>exact⟨0,Nat.zero_le _,rfl,hid ⟨fun a y h=>absurd h (Nat.not_lt_zero _),Below.refl _ _⟩⟩
 case round=>
  obtain⟨j,hj,rfl,HM⟩:=hrel;by_cases hlt:j<n
  · obtain⟨hno,hb⟩:=HM.out;obtain⟨x,hx⟩:∃x,l[j]?=some x:=⟨_,List.getElem?_eq_getElem (by rw[HL.out];exact hlt)⟩
    have ht:Za (fun k=>k=g) w wr:=Za.of_below hb;have hr1:=HR.out.keep (w':=wr) (hb.block g HR.out.lt);obtain⟨u1,u2,e1,e2,s1,s2⟩:=(HV.out j x hx).keep ht hY;have c1:=hr1.cell e1;have c2:=hr1.cell e2;have HC:=hid (HP.out wr u1 u2 x ht s1 s2);obtain⟨A1,n1,k1,rfl⟩:=s1.slice;obtain⟨A2,n2,k2,rfl⟩:=s2.slice;have hj64:(j:Int)<(n:Int):=by omega
    cases hpx:P x with
    | true=>
     have HFIN:=hid (And.intro hx (And.intro hpx (And.intro hno hb)));rw[hpx]at HC;clear hno hb hx ht hr1 e1 e2 s1 s2 hpx;go_wp2_with fail;refine HC.out.mono ?_;rintro e w2⟨rfl,hb2⟩;have HB2:=hid hb2;clear hb2;go_wp2;go_ret;obtain⟨f1,f2,f3,f4⟩:=HFIN.out;exact⟨.inl ⟨j,x,f1,f2,f3,rfl⟩,f4.trans (HB2.out.mono f4.size)⟩
    | false=>
     rw[hpx]at HC
     have HN:=hid (show ∀(a:Nat) (y:KV),a<j+1->l[a]?=some y->P y=false from fun a y ha hy=>by
      by_cases e:a=j
      · rw[e,hx]at hy;cases hy;exact hpx
      · exact hno a y (by omega) hy)
     have HB:=hid hb;clear hno hb hx ht hr1 e1 e2 s1 s2 hpx;go_wp2_with fail;refine HC.out.mono ?_;rintro e w2⟨rfl,hb2⟩;have HB2:=hid (And.intro HN.out (HB.out.trans (hb2.mono HB.out.size)));clear hb2;go_wp2;go_roundw
     case rel=>exact⟨j+1,by omega,by go_num,HB2⟩
     case measure=>simp[intOf];omega
  · obtain rfl:j=n:=by omega
    go_wp2;go_ret;obtain⟨hno,hb⟩:=HM.out;exact⟨.inr ⟨fun a y hy=>hno a y (by rw[<-HL.out];exact(List.getElem?_eq_some_iff.1 hy).1) hy,rfl⟩,hb⟩
def Zdk(P:KV->Bool)(l:List KV)(j:Nat):List KV:=(l.take j).filter fun x=>!P x
theorem Zcw{P:KV->Bool}{l:List KV}{j:Nat}{x:KV}(hx:l[j]?=some x):Zdk P l (j+1)=if P x then Zdk P l j else Zdk P l j++[x]:=by
 obtain⟨hi,rfl⟩:=List.getElem?_eq_some_iff.1 hx;unfold Zdk;rw[List.take_succ_eq_append_getElem hi,List.filter_append]
 cases h:P l[j] <;> simp[h]
def Zd6(w wr:World)(g n cap:Nat)(Y:Nat->Prop)(P:KV->Bool)(l:List KV)(j:Nat):Prop:=
 ∃vs,ZbC wr g n cap vs/\(∀a x,(Zdk P l j)[a]?=some x->ZcX wr Y vs a x)/\(∀a x,j<=a->l[a]?=some x->ZcX wr Y vs a x)/\Za (fun k=>k=g) w wr
theorem Zd6.touch{wr wr':World}{j:Nat}(h:Zd6 w wr g n cap Y P l j)(hb:Below wr.heap.size wr wr')(hY:Y g):Zd6 w wr' g n cap Y P l j:=by
 obtain⟨vs,h1,h2,h3,h4⟩:=h;have ht:Za (fun k=>k=g) wr wr':=Za.of_below hb;exact⟨vs,h1.keep (hb.block g h1.lt),fun a x hx=>(h2 a x hx).keep ht hY,fun a x ha hx=>(h3 a x ha hx).keep ht hY,h4.trans ht⟩
theorem Zd6.drop{wr:World}{j:Nat}{x:KV}(h:Zd6 w wr g n cap Y P l j)(hx:l[j]?=some x)(hp:P x=true):Zd6 w wr g n cap Y P l (j+1):=by
 obtain⟨vs,h1,h2,h3,h4⟩:=h;refine⟨vs,h1,fun a y hy=>h2 a y ?_,fun a y ha hy=>h3 a y (by omega) hy,h4⟩;rw[Zcw hx,if_pos hp]at hy;exact hy
theorem Zd6.move{wr:World}{j i:Nat}{x:KV}{u1 u2:Value}(h:Zd6 w wr g n cap Y P l j)(hx:l[j]?=some x)(hp:P x=false)(hi:(Zdk P l j).length=i)(hij:i<j)(hjn:j<n)(hY:Y g)(s1:SV wr Y u1 x.1)(s2:SV wr Y u2 x.2) :
 Zd6 w ((wr.setCell ⟨g,i*2,none⟩ u1).setCell ⟨g,i*2+1,none⟩ u2) g n cap Y P l (j+1):=by
 obtain⟨vs,h1,h2,h3,h4⟩:=h;have hlen:=h1.len
 have ht:Za (fun k=>k=g) wr ((wr.setCell ⟨g,i*2,none⟩ u1).setCell ⟨g,i*2+1,none⟩ u2):=
  ⟨rfl,rfl,rfl,by simp[World.setCell],fun k _ hne=>by rw[Below.heap_setCell _ _ _ _ (by simpa using hne),Below.heap_setCell _ _ _ _ (by simpa using hne)]⟩
 have hk:∀k,k<wr.heap.size->¬Y k->((wr.setCell ⟨g,i*2,none⟩ u1).setCell ⟨g,i*2+1,none⟩ u2).heap[k]?=wr.heap[k]?:=fun k hk hy=>ht.block k hk fun e=>hy (by rw[e];exact hY)
 have old:∀a y,a≠i->ZcX wr Y vs a y->ZcX ((wr.setCell ⟨g,i*2,none⟩ u1).setCell ⟨g,i*2+1,none⟩ u2) Y ((vs.set (i*2) u1).set (i*2+1) u2) a y:=fun a y ha hy=>(hy.keep ht hY).of
  (by rw[List.getElem?_set_ne (by omega),List.getElem?_set_ne (by omega)]) (by rw[List.getElem?_set_ne (by omega),List.getElem?_set_ne (by omega)])
 refine⟨_,h1.set2 (by omega) u1 u2,fun a y hy=>?_,fun a y ha hy=>old a y (by omega) (h3 a y (by omega) hy),h4.trans ht⟩;rw[Zcw hx,if_neg (by rw[hp];decide)]at hy;rcases Nat.lt_or_ge a i with h'|h'
 · rw[List.getElem?_append_left (by omega)]at hy;exact old a y (by omega) (h2 a y hy)
 · rw[List.getElem?_append_right (by omega)]at hy
   have ha0:a-(Zdk P l j).length=0:=by
    have:=(List.getElem?_eq_some_iff.1 hy).1
    simp at this;omega
   rw[ha0]at hy;obtain rfl:x=y:=by simpa using hy
   obtain rfl:a=i:=by omega
   refine⟨u1,u2,?_,?_,s1.keep ht.size (fun _ _ h=>h) hk,s2.keep ht.size (fun _ _ h=>h) hk⟩
   · rw[List.getElem?_set_ne (by omega),List.getElem?_set_self (by omega)]
   · rw[List.getElem?_set_self (by rw[List.length_set];omega)]
theorem ZpC(h:Za8 Zc9 101 2 w Y base (.slice (some ⟨g,0,none⟩) n cap) l)(hYlt:∀k,Y k->k<w.heap.size)(hP:Zq6 w g bx Y P)(hn:n<=4294967296) :
 Calls prog 168 #[.slice (some ⟨g,0,none⟩) n cap,.func (.func 169) #[] #[.pointer (some ⟨bx,0,none⟩)]] w fun e w'=>
  e=.returned (.slice (some ⟨g,0,none⟩) (l.filter fun x=>!P x).length cap)/\Za8 Zc9 101 2 w' Y base (.slice (some ⟨g,0,none⟩) (l.filter fun x=>!P x).length cap) (l.filter fun x=>!P x)/\Za (fun k=>k=g) w w':=by
 obtain⟨hl,hbg,hY,vs,hrow,hvs⟩:=h.open_;have hcap:n<=cap:=by obtain⟨_,_,hc,_⟩:=hrow;exact hc
 have hcapm:cap<=2^63-1:=by obtain⟨_,_,_,hc,_⟩:=hrow;exact hc
 have HI:=hid (ZpB hrow hl.symm hY hvs hP hn);have H0:=hid (And.intro hrow hvs);have HP:=hid hP;have HL:=hid hl;have HB:=hid hbg;have HG:=hid h;clear hrow hvs hP hl hbg h;go_enter func168,ntmps168;go_wp2_with fail;refine HI.out.mono ?_;rintro e w1⟨hcase,hb1⟩;rcases hcase with ⟨i0,x0,hx0,hp0,hno,rfl⟩|⟨hno,rfl⟩
 · have hi0:i0<n:=by have:=(List.getElem?_eq_some_iff.1 hx0).1;rw[<-HL.out]at this;exact this
   have hst0:Zdk P l (i0+1)=l.take i0:=by
    rw[Zcw hx0,if_pos hp0];unfold Zdk;rw[List.filter_eq_self];intro a ha;obtain⟨k,hk,rfl⟩:=List.getElem_of_mem ha;rw[List.length_take]at hk;rw[List.getElem_take,hno k _ (by omega) (List.getElem?_eq_getElem (by omega))];rfl
   have hD0:Zd6 w w1 g n cap Y P l (i0+1):=by
    obtain⟨hrow,hvs⟩:=H0.out;have ht:Za (fun k=>k=g) w w1:=Za.of_below hb1;refine⟨vs,hrow.keep (hb1.block g hrow.lt),fun a x hx=>?_,fun a x _ hx=>(hvs a x hx).keep ht hY,ht⟩;rw[hst0]at hx;rw[List.getElem?_take]at hx
    split at hx
    · exact(hvs a x hx).keep ht hY
    · cases hx
   have hlen0:(Zdk P l (i0+1)).length=i0:=by rw[hst0,List.length_take,<-HL.out];omega
   have HD0:=hid (And.intro hD0 hlen0);have hi64:((i0:Int) == -1)=false:=by simp
   clear hx0 hp0 hno hb1 hst0 hD0 hlen0;go_wp2_with fail
   go_loopw[5,6] (fun iv jv wr=>∃i j:Nat,i<j/\j<=n/\iv=.int .i64 i/\jv=.int .i64 j/\Hid (Zd6 w wr g n cap Y P l j/\(Zdk P l j).length=i)) (fun _ jv _=>n-(intOf jv).toNat)
   case atStart=>exact⟨i0,i0+1,by omega,by omega,rfl,by go_num,HD0⟩
   case round=>
    obtain⟨i,j,hij,hjn,rfl,rfl,HD⟩:=hrel;obtain⟨hD,hsl⟩:=HD.out;by_cases hlt:j<n
    · obtain⟨x,hx⟩:∃x,l[j]?=some x:=⟨_,List.getElem?_eq_getElem (by rw[<-HL.out];exact hlt)⟩
      have hcl:∃u1 u2,wr.cell? ⟨g,j*2,none⟩=some u1/\wr.cell? ⟨g,j*2+1,none⟩=some u2/\SV wr Y u1 x.1/\SV wr Y u2 x.2/\g<wr.heap.size/\Za (fun k=>k=g) w wr:=by
       obtain⟨vs',h1,h2,h3,h4⟩:=hD;obtain⟨u1,u2,e1,e2,s1,s2⟩:=h3 j x (Nat.le_refl _) hx;exact⟨u1,u2,h1.cell e1,h1.cell e2,s1,s2,h1.lt,h4⟩
      obtain⟨u1,u2,c1,c2,s1,s2,hgl,ht⟩:=hcl;obtain⟨w2,hw2⟩:∃w2,w2=wr.alloc (.cells #[u1,u2] 101 (0,0)):=⟨_,rfl⟩
      have hb2:Below wr.heap.size wr w2:=by rw[hw2];exact(Below.refl _ _).alloc (Nat.le_refl _) _
      have hs2:wr.heap.size<w2.heap.size:=by rw[hw2];simp
      have hbk:w2.heap[wr.heap.size]?=some (.cells #[u1,u2] 101 (0,0)):=by rw[hw2];exact heap_alloc_new _ _
      have t2:Za (fun k=>k=g) w w2:=ht.trans (Za.of_below hb2);have HC:=hid (HP.out w2 u1 u2 x t2 (s1.keep hb2.size (fun _ _ h=>h) (fun k hk _=>hb2.block k hk)) (s2.keep hb2.size (fun _ _ h=>h) (fun k hk _=>hb2.block k hk)));have hj64:(j:Int)<(n:Int):=by omega
      have HX:=hid (And.intro hx (And.intro hD (And.intro hsl (And.intro s1 s2))));have HB2:=hid (And.intro hb2 (And.intro hs2 (And.intro hbk hgl)));obtain⟨A1,n1,k1,rfl⟩:=s1.slice;obtain⟨A2,n2,k2,rfl⟩:=s2.slice;clear hx hD hsl hb2 hs2 hbk t2 ht hgl
      cases hpx:P x with
      | true=>
       have HPX:=hid hpx;rw[hpx]at HC;clear s1 s2 hpx;go_wp2_with fail;rw[<-hw2];clear hw2;refine HC.out.mono ?_;rintro e w3⟨rfl,hb3⟩;obtain⟨x1,x2,x3,_⟩:=HX.out;obtain⟨y1,y2,y3,y4⟩:=HB2.out;have HN:=hid (show Zd6 w w3 g n cap Y P l (j+1)/\(Zdk P l (j+1)).length=i from⟨(x2.touch (y1.trans (hb3.mono y1.size)) hY).drop x1 HPX.out,by rw[Zcw x1,if_pos HPX.out];exact x3⟩);clear x1 x2 x3 y1 y2 y3 y4 hb3;go_wp2;go_roundw
       case rel=>exact⟨i,j+1,by omega,by omega,rfl,by go_num,HN⟩
       case measure=>simp[intOf];omega
      | false=>
       have HPX:=hid hpx;rw[hpx]at HC;clear s1 s2 hpx;go_wp2_with fail;rw[<-hw2];clear hw2;refine HC.out.mono ?_;rintro e w3⟨rfl,hb3⟩;obtain⟨x1,x2,x3,x4,x5⟩:=HX.out;obtain⟨y1,y2,y3,y4⟩:=HB2.out;have y5:=y1.trans (hb3.mono y1.size);have hbk3:=(hb3.block wr.heap.size y2).trans y3;have d0:w3.cell? ⟨wr.heap.size,0,none⟩=some (.slice A1 n1 k1):=by rw[cell_of_row w3 _ 0 _ _ (0,0) hbk3];rfl
       have d1:w3.cell? ⟨wr.heap.size,1,none⟩=some (.slice A2 n2 k2):=by rw[cell_of_row w3 _ 1 _ _ (0,0) hbk3];rfl
       have hD3:=x2.touch y5 hY
       have hio:∃v0 v1,w3.cell? ⟨g,i*2,none⟩=some v0/\w3.cell? ⟨g,i*2+1,none⟩=some v1/\w3.frozen? ⟨g,i*2,none⟩=false/\w3.frozen? ⟨g,i*2+1,none⟩=false:=by
        obtain⟨vs3,z1,_,_,_⟩:=hD3;have hl3:=z1.len;exact⟨_,_,z1.cell (List.getElem?_eq_getElem (by omega)),z1.cell (List.getElem?_eq_getElem (by omega)),z1.frozen _,z1.frozen _⟩
       obtain⟨v0,v1,i1,i2,i3,i4⟩:=hio;have hi64:(i:Int)<(n:Int):=by omega
       have HN:=hid (show Zd6 w ((w3.setCell ⟨g,i*2,none⟩ (.slice A1 n1 k1)).setCell ⟨g,i*2+1,none⟩ (.slice A2 n2 k2)) g n cap Y P l (j+1)/\(Zdk P l (j+1)).length=i+1 from
        ⟨hD3.move x1 HPX.out x3 hij hlt hY (x4.keep y5.size (fun _ _ h=>h) (fun k hk _=>y5.block k hk)) (x5.keep y5.size (fun _ _ h=>h) (fun k hk _=>y5.block k hk)),by rw[Zcw x1,if_neg (by rw[HPX.out];decide),List.length_append,x3];rfl⟩)
       clear x1 x2 x3 x4 x5 y1 y2 y3 y4 y5 hb3 hbk3 hD3 c1 c2;go_wp2;go_roundw
       case rel=>exact⟨i+1,j+1,by omega,by omega,by go_num,by go_num,HN⟩
       case measure=>simp[intOf];omega
    · obtain rfl:j=n:=by omega
      have hfil:Zdk P l j=l.filter fun x=>!P x:=by unfold Zdk;rw[List.take_of_length_le (by rw[HL.out];exact Nat.le_refl _)]
      rw[hfil]at hsl;obtain⟨vs',r1,r2,r3,r4⟩:=hD;rw[hfil]at r2;obtain⟨w4,hrun,⟨vs4,q1,q2⟩,q3⟩:=r1.clear_ (k:=cap-i) hij 0
      have HFIN:=hid (show Za8 Zc9 101 2 w4 Y base (.slice (some ⟨g,0,none⟩) (l.filter fun x=>!P x).length cap) (l.filter fun x=>!P x)/\Za (fun k=>k=g) w w4 from
       ⟨Za8.shut q1 (by omega) HB.out hY (fun a x hx=>((r2 a x hx).keep q3 hY).of (q2 _ (by have:=(List.getElem?_eq_some_iff.1 hx).1;omega)) (q2 _ (by have:=(List.getElem?_eq_some_iff.1 hx).1;omega))),r4.trans q3⟩)
      have HSL:=hid hsl;have hij64:(i:Int)<(j:Int):=by omega
      have hi0:(0:Int)<=(i:Int):=by omega
      clear hfil r1 r2 r3 r4 q1 q2 q3 hsl;go_wp2;go_ret;exact⟨congrArg (fun z=>Ending.returned (Value.slice (some ⟨g,0,none⟩) z cap)) HSL.out.symm,HFIN.out⟩
 · have hfil:(l.filter fun x=>!P x)=l:=by
    rw[List.filter_eq_self];intro a ha;obtain⟨k,hk,rfl⟩:=List.getElem_of_mem ha;rw[hno k _ (List.getElem?_eq_getElem hk)];rfl
   have HFIN:=hid (show Za8 Zc9 101 2 w1 Y base (.slice (some ⟨g,0,none⟩) (l.filter fun x=>!P x).length cap) (l.filter fun x=>!P x)/\Za (fun k=>k=g) w w1 from by
    rw[hfil,<-HL.out]
    exact⟨HG.out.below @ZV hb1,Za.of_below hb1⟩)
   have HSL:=hid (show(l.filter fun x=>!P x).length=n by rw[hfil];exact HL.out.symm);clear hno hb1 hfil;go_wp2;go_ret;exact⟨congrArg (fun z=>Ending.returned (Value.slice (some ⟨g,0,none⟩) z cap)) HSL.out.symm,HFIN.out⟩
end
end Go.Proofs.YtiknkbpojmgbhaaGreat
