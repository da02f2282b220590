/- RedoWP, RedoAt, PgD, StepApp, RedoRG. Conditions: in each theorem. -/
import Derived.Test.YtlmkdmdbpopnhaaGreatDoorG14
import Derived.Test.YtlmkdmdbpopnhaaGreatDoorG6
import Derived.Test.YtlmkdmdbpopnhaaGreatDoorG9
import Derived.Test.YtlmkdmdbpopnhaaGreatDoorG11
import Derived.StillTailTactics
import Derived.Deep.AppendLies
import Derived.Deep.RegionLaw
import Derived.Deep.RegionHeld3
import Derived.BigRegion
set_option maxHeartbeats 4000000
set_option maxRecDepth 100000
set_option linter.unusedVariables false
open Go.Proofs.Tryz
open Go.Lib (hid)
namespace Go.Proofs.YtlmkdmdbpopnhaaGreatDoor
open Go.RowKit
theorem ZbE{S:DS}{seq:Int}:Zs S seq []=(0,seq,S):=by
 have hb:=Zm (S.n:Int);rw[Zd6 (.inr rfl)]
 have:Zaw S []=0:=by
  unfold Zaw;rw[if_neg (by show ¬((0:Nat):Int)>pagesOf _;omega),if_pos ⟨(fun x hx=>by cases hx),List.nodup_nil⟩]
 rw[this]
section
variable{S:DS}{f g:Nat->List Int}{n seq:Int}
structure ZrI(S:DS)(f:Nat->List Int)(seq:Int):Prop where
 rests:ZdC S f
 opn:Zdh S.n f=f
 err:(Zd (f 0)).2.2.2=0
 num:(Zd (f 0)).2.1=seq
theorem ZmV(S:DS)(l:List (Int×List Int)):(ZK S l).2.writes<=S.writes+l.length:=by
 rw[<-ZdY]
 have:=(ZcD (atHomes S.P l) S).1
 simpa[atHomes] using this
theorem ZkW{l:List (Int×List Int)}(hn:n=S.n)(hI:Zj1 n seq l):(Zs S seq l).2.2.writes<=S.writes+(2*l.length+1)/\(Zs S seq l).2.2.n=S.n/\seq<=(Zs S seq l).2.1/\(Zs S seq l).2.1<=seq+1:=by
 have hP:S.P=pagesOf n:=by unfold DS.P;rw[hn]
 have hfew:=hI.few;have h4:=(ZN n).2.2;have h0:=hI.seq0;have h1:=hI.seq1;have hright:ZbN S l:=⟨fun x hx=>by rw[hP];exact hI.page x hx,hI.once⟩
 have he:Zaw S l=0:=by unfold Zaw;rw[if_neg (by rw[hP];omega),if_pos hright]
 have hsec:Zey l.length (seq+1)=true:=decide_eq_true ⟨by omega,by omega,by omega,by omega⟩;by_cases hne:l = []
 · subst hne;rw[ZbE];exact⟨Nat.le_add_right _ _,rfl,Int.le_refl _,by show seq<=seq+1;omega⟩
 rw[ZeT he hne];have p1:=ZcD (Zq 0 (Zo (seq+1) l)) S;rw[ZaO,Z8]at p1;unfold commitP;split
 · exact⟨by show(Zdk S _).2.writes<=_;omega,p1.2,Int.le_refl _,by show seq<=seq+1;omega⟩
 generalize (Zdk S (Zq 0 (Zo (seq+1) l))).2=S3 at p1 ⊢;have p2:=ZcD [(0,Zav l.length (seq+1) ZH)] S3;rw[ZhI _ hsec]at p2;have p2':(ZV S3 l.length (seq+1)).2.writes<=S3.writes+1:=p2.1;unfold ZcU;split
 · exact⟨by show(ZV S3 _ _).2.writes<=_;omega,p2.2.trans p1.2,Int.le_refl _,by show seq<=seq+1;omega⟩
 have p3:=ZmV (ZV S3 l.length (seq+1)).2 (Zo (seq+1) l);rw[Z8]at p3;exact⟨by show(ZK _ _).2.writes<=_;omega,(Zn3 _ _).trans (p2.2.trans p1.2),by show seq<=seq+1;omega,Int.le_refl _⟩
end
section
variable{D:World->(Nat->Prop)->Addr->DS->Prop}{w w':World}{F O:Nat->Prop}{p:Addr}{S:DS}{q r b:Nat}{seq:Int}{L:List (Int×List Int)}
def pgO(F:Nat->Prop)(q r b:Nat)(k:Nat):Prop:=F k∨k=q∨k=r∨k=b
theorem ZpM(api:Zb D)(hd:D w F p S)(hq:Zdq w q p seq)(hqF:¬F q)(hp:0<pagesOf S.n):Calls prog 36 #[.pointer (some ⟨q,0,none⟩)] w fun e w'=>∃r b,e=.returned (.tuple #[.pointer (some ⟨r,0,none⟩),.int .i64 0])/\w.heap.size<=r/\w.heap.size<=b/\ZaN D w' F (pgO F q r b) p S q seq r b []/\Below w.heap.size w w':=by
 have HP:=hid (ZdX api hd hq);have hlt:=api.lt _ _ _ _ hd;have hql:=hq.cells.2.2.2;have k1:(pagesOf S.n == 0)=false:=by simp;omega
 have hX:Below w.heap.size w ((w.alloc (.map #[] 0)).alloc (.cells #[.pointer (some ⟨q,0,none⟩),.map (some w.heap.size)] 151)):=((Below.refl _ _).alloc (ZZe _) _).alloc (by simp) _
 have hblk:((w.alloc (.map #[] 0)).alloc (.cells #[.pointer (some ⟨q,0,none⟩),.map (some w.heap.size)] 151)).heap[w.heap.size+1]?=some (.cells #[.pointer (some ⟨q,0,none⟩),.map (some w.heap.size)] 151 (0,0)):=by
  have:=heap_alloc_new (w.alloc (.map #[] 0)) (.cells #[.pointer (some ⟨q,0,none⟩),.map (some w.heap.size)] 151)
  simpa using this
 have hm:Zbl ((w.alloc (.map #[] 0)).alloc (.cells #[.pointer (some ⟨q,0,none⟩),.map (some w.heap.size)] 151)) w.heap.size 0 (fun _=>none):=(Zbl.made w).of_block (heap_alloc_old _ _ (by simp));have hsX:((w.alloc (.map #[] 0)).alloc (.cells #[.pointer (some ⟨q,0,none⟩),.map (some w.heap.size)] 151)).heap.size=w.heap.size+2:=by simp
 have HE:=hid (show ZaN D ((w.alloc (.map #[] 0)).alloc (.cells #[.pointer (some ⟨q,0,none⟩),.map (some w.heap.size)] 151)) F (pgO F q (w.heap.size+1) w.heap.size) p S q seq (w.heap.size+1) w.heap.size []from
  ⟨api.below hd hX,hq.below hX,hblk,hqF,fun hf=>by have:=hlt _ hf;omega,fun hf=>by have:=hlt _ hf;omega,by omega,fun k hk=>hk,fun k hk=>by
   rw[hsX];rcases hk with a|a|a|a
   · have:=hlt k a;omega
   · omega
   · omega
   · omega,⟨_,hm,fun i=>⟨fun _=>rfl,fun l hl=>by cases hl⟩⟩,List.Pairwise.nil,fun x hx=>by cases hx⟩)
 have HX:=hid hX;have hmk:=@run_makeMap prog;clear hd hq hX hblk hm hsX;go_enter func36,ntmps36;go_wp2_with fail;refine HP.out.mono ?_;rintro e w1⟨rfl,hw⟩;have hw:=hw.symm;subst hw;go_wp2;go_ret2;exact⟨w.heap.size+1,w.heap.size,rfl,ZZh _,ZZe _,HE.out,HX.out⟩
theorem ZoC(h:Zbp L)(h2:ZcH S L)(hs:0<=seq/\seq<4611686018427387904):Zj1 S.n seq L:=
 ⟨fun x hx=>⟨(h2 x hx).1,(h2 x hx).2.1,(h2 x hx).2.2.1⟩,fun x hx=>(h2 x hx).2.2.2,h.nodup,Zgn h h2,hs.1,hs.2⟩
theorem ZpN(h:Zbp L)(h2:ZcH S L)(hs:0<=seq/\seq<4611686018427387904):(Zs S seq L).2.2.n=S.n:=(ZkW (n:=S.n) rfl (ZoC h h2 hs)).2.1
theorem ZaN.committed(api:Zb D)(h:ZaN D w F O p S q seq r b L){F':Nat->Prop}{S':DS}{seq':Int}(hn:S'.n=S.n)(hd:D w' F' p S')(hl:Zdq w' q p seq')(hqF:¬F' q)(ht:Zf (ZiH F q) w w')(hF:∀k,F' k->F k∨w.heap.size<=k):ZaN D w' F' (fun k=>O k∨F' k) p S' q seq' r b L:=by
 have hrl:=h.cells.2.2;obtain⟨f,hf,hset⟩:=id h.set;have hbl:=hf.lt
 have hbq:b≠q:=fun e=>by
  obtain⟨es,c,e2⟩:=hf.block
  have:=h.log
  unfold Zdq at this;rw[<-e,e2]at this;cases this
 have hP:S'.P=S.P:=by unfold DS.P;rw[hn]
 refine⟨hd,hl,(ht.block r hrl (fun a=>a.elim h.rF h.rq)).trans h.me,hqF,fun a=>?_,fun a=>?_,h.rq,fun k hk=>?_,fun k hk=>?_,h.set.keep ht.size (ht.block b hbl (fun a=>a.elim h.bF hbq)) (fun g hg _ hx=>ht.block g hg (fun a=>a.elim (fun a=>hx (.inl a)) (fun a=>hx (.inr (.inl a))))) (fun g hg _ hx a=>?_) (fun g ho=>.inl ho),h.up,fun x hx=>by rw[hP];exact h.all x hx⟩
 · rcases hF r a with a|a
   · exact h.rF a
   · omega
 · rcases hF b a with a|a
   · exact h.bF a
   · omega
 · rcases hk with a|a
   · exact .inr a
   · exact .inl (h.own k (.inr a))
 · rcases hk with a|a
   · exact ZZd (h.lt k a) ht.size
   · exact api.lt _ _ _ _ hd k a
 · rcases a with a|a
   · rcases hF g a with a|a
     · exact hx (.inl a)
     · omega
   · exact hx (.inr a)
def ZoD(D:World->(Nat->Prop)->Addr->DS->Prop)(w:World)(F O:Nat->Prop)(p:Addr)(S:DS)(q:Nat)(seq:Int)(r b:Nat)(L:List (Int×List Int))(w':World):Prop:=
 ∃F' O',ZaN D w' F' O' p (Zs S seq L).2.2 q (Zs S seq L).2.1 r b (ZdD S seq L)/\Zf O w w'/\(∀k,F' k->F k∨w.heap.size<=k)/\∀k,O' k->O k∨w.heap.size<=k
theorem ZgC(api:Zb D)(h:ZaN D w F O p S q seq r b L)(ht:Zdf w F)(hs:0<=seq/\seq<4611686018427387904)(hw:S.writes<=9223372036854500000) :
 Calls prog 44 #[.pointer (some ⟨r,0,none⟩)] w fun e w'=>e=.returned (.int .i64 (Zs S seq L).1)/\ZoD D w F O p S q seq r b L w':=by
 obtain⟨l0,l1,l2⟩:=h.cells;have hpb:=Zm (S.n:Int);have hfew:=Zgn h.up h.all;have hL:L.length<=32767:=by unfold DS.P at hfew;omega
 have hcn:=ZpN h.up h.all hs;have HM:=hid (Zb9 h);have HCH:=hid (ZiK api h);have HH:=hid (fun w1 (hb:Below w.heap.size w w1)=>h.below api hb);have HT:=hid (fun w1 (hb:Below w.heap.size w w1)=>ht.below hb);have HOX:=hid (fun k (hk:ZiH F q k)=>h.lt k (h.own k (hk.elim (fun a=>.inl a) (fun a=>.inr (.inl a)))));have HALL:=hid h.all;have HUP:=hid h.up;have HOL:=hid h.lt;have HOW:=hid h.own;clear h ht hfew hpb;go_enter func44,ntmps44;go_wp2_with fail;refine HM.out.mono ?_;rintro e w1⟨rfl,rfl⟩;go_wp2_with fail;refine HCH.out.mono ?_;rintro e w1⟨A,c,rfl,hc,hri,hb1⟩;have HB1:=hid hb1;have HRI:=hid hri;clear hb1 hri HCH HM;go_wp2_with fail
 go_loopw[3,13] (fun ov i wr=>∃k:Nat,k<=L.length/\i=.int .i64 k/\Hid (ZgR 167 240 wr (ZiH F q) w1.heap.size ov (L.take k))/\Hid (Below w1.heap.size w1 wr)) (fun _ i _=>L.length-(intOf i).toNat)
 case atStart=>exact⟨0,Nat.zero_le _,rfl,hid (ZgR.start _ _ _ _ _),hid (Below.refl _ _)⟩
 case round=>
  obtain⟨k,hk,rfl,hrow,hbw⟩:=hrel;have hb0:=HB1.out.trans (hbw.out.mono HB1.out.size);by_cases hlt:k<L.length
  · have hlt':(k:Int)<(L.length:Int):=by omega
    obtain⟨bb,off,rfl,hbb,hcell⟩:=HRI.out.2.2 (by omega);have hck:=(hbw.out.cell (p:=⟨bb,off+k,none⟩) hbb).trans (hcell k hlt);have hPg:=HH.out wr hb0;obtain⟨f,hf,hset⟩:=hPg.set;obtain⟨y,hkk⟩:∃y,L[k]?=some y:=⟨_,ZZc hlt⟩
    have hmem:y∈L:=List.mem_of_getElem? hkk
    have HTK:L.take (k+1)=L.take k++[(y.1,y.2)]:=by
     rw[List.take_succ_eq_append_getElem hlt]
     have:=(ZZb.1 hkk).2
     rw[this]
    obtain⟨a1,a2,a3,a4⟩:=HALL.out _ hmem;obtain⟨g,c1,e1,hc1,hrg,hgX,hgO⟩:=(hset y.1).2 y.2 (HUP.out.at_ hmem);have hpb:=Zm (S.n:Int);have hib : -9223372036854775808<=y.1/\y.1<=9223372036854775807:=by unfold DS.P at a2;omega
    have qlk:=hf.get underlying125 (Za2 wr) hib e1;have hge:(L.map (·.1))[k]?.getD 0=y.1:=by rw[List.getElem?_map,hkk];rfl
    rw[hge]at hck;have l1w:=(hb0.cell (p:=⟨r,1,none⟩) l2).trans l1;have hgl:g<w.heap.size:=HOL.out g hgO;have hgw:g<wr.heap.size:=ZZd hgl hb0.size;obtain⟨A0,c0,rfl,hAc,_⟩:=hrow.out.imgs (by decide);obtain⟨vs,hvs,hvl⟩:=hrow.out.row;have hX:Below wr.heap.size wr (wr.alloc (.cells #[.int .i64 y.1,.slice (some ⟨g,0,none⟩) 240 c1] 167)):=(Below.refl _ _).alloc (ZZe _) _;have hvsX:=ZcS hvs (fun r hr=>hX.block r (Zcj hvs r hr).2);have hbk:=heap_alloc_new wr (.cells #[.int .i64 y.1,.slice (some ⟨g,0,none⟩) 240 c1] 167)
    have hno:(Value.slice A0 (L.take k).length c0).ownBlock≠some g:=fun e=>by
     have:=(Zcj hvs g e).1
     have:=HB1.out.size
     omega
    have hfar:Far wr (ZiH F q) (.slice A0 (L.take k).length c0) (.slice (some ⟨g,0,none⟩) 240 c1) 240 y.2:=⟨g,c1,rfl,hc1,fun hf=>hgX (hf.elim (fun a=>.inl a) (fun a=>.inr (.inl a))),hno,hgw,hrg⟩
    have HPU:=hid (fun(w3:World) (A':Option Addr) (c':Nat) h1 h2 h3=>hrow.out.push (v':=.slice A' ((L.take k).length+1) c') (w1:=w3) (x:=y.1) (by decide) (fun k hk=>ZZd (HOX.out k hk) hb0.size) hfar hvs hvl hX h1 h2 h3);have HOV:=hid (fun r hr=>(Zcj hvs r hr).1);have HTL:(L.take k).length=k:=by rw[List.length_take];omega
    have HTKH:=hid HTK;have hk64:(L.take k).length<=4294967296:=by omega
    have HX:=hid hX;have HB0:=hid hb0;have hb0s:=hb0.size;have hbws:=hbw.out.size;clear hcell hPg hset hf hkk hmem a1 a2 a3 a4 hrg hgX hgO hge hrow hfar hvl hno hX hib hpb hb0 HTK HTL e1;generalize L.take k=LL at *;generalize y.1=y1 at *;generalize y.2=y2 at *
    go_wp2_with (at_builtin;refine ZaJ rfl _ _ 164 167 rfl underlying164 Zna w1.heap.size (.slice A0 LL.length c0) LL.length vs rfl wr.heap.size (.int .i64 y1) (.slice (some ⟨g,0,none⟩) 240 c1) 167 rfl hvsX hbk rfl rfl (by omega) (by simp;omega) ?_;intro A4 c4 w4 hown4 hg4 hl4;have HO4:=hid (ZZg hown4 (ZZg hg4 hl4));clear hown4 hg4 hl4)
    obtain⟨q1,q2,q3⟩:=HPU.out w4 A4 c4 HO4.out.1 HO4.out.2.1 (by
     rcases HO4.out.2.2 with a|a
     · exact .inl a
     · exact .inr ⟨_,a,by simp⟩)
    have hb4:Below w1.heap.size w1 w4:=(hbw.out.trans (HX.out.mono hbw.out.size)).grown HO4.out.2.1 (by have:=HX.out.size;have:=hbw.out.size;omega) HOV.out;have HRE:=hid (ZZg q1 hb4);clear q1 q2 q3 hb4 hvsX hbk HO4 HPU hvs;go_roundw
    case rel=>exact⟨k+1,by omega,by go_num,hid (HTKH.out ▸ HRE.out.1),hid HRE.out.2⟩
    case measure=>simp[intOf];omega
  · obtain rfl:k=L.length:=by omega
    have hrow2:=hrow.out;rw[List.take_length]at hrow2;obtain⟨A0,c0,rfl,hAc,him⟩:=hrow2.imgs (by decide);have hPg:=HH.out wr hb0;have l0w:=(hb0.cell (p:=⟨r,0,none⟩) l2).trans l0
    have HCM:=hid (Zl4 (c:=c0) api hPg.d hPg.log hPg.qF (HT.out wr hb0) him (fun y hy=>(HALL.out y hy).2.2.2) (fun y hy=>by
     have a:=HALL.out y hy;have hpb:=Zm (S.n:Int);unfold DS.P at a
     omega) (by omega) hs hw)
    have HPG:=hid (ZZg hPg hb0);clear hrow hrow2 him hPg hbw hb0;go_wp2_with fail;refine HCM.out.mono ?_;rintro e w5⟨rfl,F',d5,hl5,hq5,t5,n5⟩;have h5:=HPG.out.1.committed api hcn d5 hl5 hq5 t5 n5;have hT5:Zf O w w5:=⟨t5.os.trans HPG.out.2.os,t5.tape.trans HPG.out.2.tape,t5.output.trans HPG.out.2.output,ZZf HPG.out.2.size t5.size,fun k hk hn=>(t5.block k (ZZd hk HPG.out.2.size) (fun a=>hn (HOW.out k (a.elim (fun a=>.inl a) (fun a=>.inr (.inl a)))))).trans (HPG.out.2.block k hk)⟩
    have hN5:∀k,F' k->F k∨w.heap.size<=k:=fun k hk=>(n5 k hk).imp id (fun a=>ZZf HPG.out.2.size a)
    have hO5:∀k,(O k∨F' k)->O k∨w.heap.size<=k:=fun k hk=>hk.elim .inl (fun a=>(hN5 k a).imp (fun a=>HOW.out k (.inl a)) id)
    by_cases hc0:(Zs S seq L).1=0
    · have kne:((Zs S seq L).1 != 0)=false:=by simpa using hc0
      obtain⟨f,hf,hset⟩:=h5.set;obtain⟨w6,hrun6,hm6,hg6⟩:=hf.clear_ underlying125 0;obtain⟨_,l15,_⟩:=h5.cells;have hleft:ZdD S seq L = []:=if_pos hc0
      have HE:=hid (show ZoD D w F O p S q seq r b L w6 from by
       refine⟨F',_,by rw[hleft];exact h5.empty api hm6 hg6,?_,hN5,hO5⟩;have t6:=Zf5 (X:=O) hg6 (HOW.out b (.inr (.inr (.inr rfl))))
       exact⟨t6.os.trans hT5.os,t6.tape.trans hT5.tape,t6.output.trans hT5.output,ZZf hT5.size t6.size,fun k hk hn=>(t6.block k (ZZd hk hT5.size) hn).trans (hT5.block k hk hn)⟩)
      have HC0:=hid hc0;clear hf hset hm6 hg6 h5 hT5 hN5 hO5 d5 hl5 t5 n5 hc0 hleft;go_wp2;go_ret;rw[HC0.out];exact⟨rfl,HE.out⟩
    · have kne:((Zs S seq L).1 != 0)=true:=by simpa using hc0
      have hleft:ZdD S seq L=L:=if_neg hc0;have HE:=hid (show ZoD D w F O p S q seq r b L w5 from⟨F',_,by rw[hleft];exact h5,hT5,hN5,hO5⟩);clear h5 hT5 hN5 hO5 d5 hl5 t5 n5 hc0 hleft;go_wp2;go_ret;exact⟨rfl,HE.out⟩
end
end Go.Proofs.YtlmkdmdbpopnhaaGreatDoor
