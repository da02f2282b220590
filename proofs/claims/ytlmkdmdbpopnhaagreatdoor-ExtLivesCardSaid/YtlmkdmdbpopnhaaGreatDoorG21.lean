/- PgS, DirC, ExtG, ExtK, MetaP. Conditions: in each theorem. -/
import Derived.Test.YtlmkdmdbpopnhaaGreatDoorG14
import Derived.Test.YtlmkdmdbpopnhaaGreatDoorG20
import Derived.Test.YtlmkdmdbpopnhaaGreatDoorG19
import Derived.Test.YtlmkdmdbpopnhaaGreatDoorG1
import Derived.Test.YtlmkdmdbpopnhaaGreatDoorG8
import Derived.Test.YtlmkdmdbpopnhaaGreatDoorG18
import Derived.Test.YtlmkdmdbpopnhaaGreatDoorG16
import Derived.Test.YtlmkdmdbpopnhaaGreatDoorG15
import Derived.Test.YtlmkdmdbpopnhaaGreatDoorG2
import Derived.Deep.RegionHeld3
set_option maxHeartbeats 6400000
set_option maxRecDepth 100000
set_option linter.unusedVariables false
open Go.Proofs.Tryz
open Go.Lib (hid)
namespace Go.Proofs.YtlmkdmdbpopnhaaGreatDoor
end Go.Proofs.YtlmkdmdbpopnhaaGreatDoor
namespace Go.Proofs.YtlmkdmdbpopnhaaGreatDoor
open Go.RowKit
def ownD(l:List Int)(slot:Int):Int:=l[(slot/60).toNat]?.getD 0
def Zaz(S:DS)(L:List (Int×List Int))(d:Int)(k:Nat)(l:List Int)(slot:Int):Int×Int:=
 if okD d k slot=true then
  (if(Zn S L (ownD l slot)).2=0 then(numOf (((Zn S L (ownD l slot)).1.drop ((slot%60).toNat*4)).take 4),0)else(0,(Zn S L (ownD l slot)).2))
 else(0,1)
theorem ZhV{d:Int}{k:Nat}{slot:Int}(h:okD d k slot=true):∃a t:Nat,slot/60=(a:Int)/\slot%60=(t:Int)/\a<k/\t<60/\k<=18/\0<=slot/\slot<1024:=by
 have h':=of_decide_eq_true h;obtain⟨_,⟨h1,h2⟩,h3⟩:=h';have hp:=Zeb d;unfold needD at h3;generalize 2^ZA d=m at *;exact⟨(slot/60).toNat,(slot%60).toNat,by omega,by omega,by omega,by omega,by omega,h1,by omega⟩
theorem RI.range{w:World}{B n:Nat}{A:Option Addr}{l:List Int}(h:RI w B A n l)(j:Nat) : -9223372036854775808<=l[j]?.getD 0/\l[j]?.getD 0<=9223372036854775807:=by
 cases hj:l[j]? with
 | none=>simp
 | some x=>exact h.2.1 x (List.mem_of_getElem? hj)
theorem Zdy(d f n c:Int){A:Option Addr}{k cap B:Nat}{l:List Int}{slot:Int}{w:World}(hr:RI w B A k l)(hB:B<=w.heap.size)(hk:k<=cap)(hok:okD d k slot=true) :
 Calls prog 174 #[.agg #[.int .i64 d,.int .i64 f,.int .i64 n,.int .i64 c,.slice A k cap],.int .i64 slot] w fun e w'=>e=.returned (.tuple #[.int .i64 (ownD l slot),.int .i64 ((((slot%60).toNat*4:Nat)):Int)])/\Below w.heap.size w w':=by
 obtain⟨a,t,ha,ht,hak,ht60,hk18,hs0,hs1⟩:=ZhV hok;have HX:=hid (show Below w.heap.size w (w.alloc (.cells #[.int .i64 d,.int .i64 f,.int .i64 n,.int .i64 c,.slice A k cap] 41))from(Below.refl _ _).alloc (ZZe _) _);obtain⟨z0,z1,z2,z3,z4,_⟩:=(ZiX.new w d f n c (.slice A k cap)).cells;obtain⟨b,off,rfl,hb,hcell⟩:=hr.2.2 (by omega);have hc:=(HX.out.cell (p:=⟨b,off+a,none⟩) (ZZd hb hB)).trans (hcell a hak);have hown:ownD l slot=l[a]?.getD 0:=by unfold ownD;rw[ha,Int.toNat_natCast]
 have hat:(((slot%60).toNat*4:Nat):Int)=((t*4:Nat):Int):=by rw[ht,Int.toNat_natCast]
 rw[hown,hat];have HO:=hid (RI.range hr a);generalize l[a]?.getD 0=own at hc HO ⊢;clear hcell hown hat hr hok;have hsl:slot=(a:Int)*60+t:=by omega
 subst hsl;have hak':(a:Int)<(k:Int):=by omega
 go_enter func174,ntmps174;go_wp2_with fail
 go_quiet ((go_at_call 203;exact Calls.quiet_of_same ((Zkq _).mono (fun e w' h=>⟨h.1,h.2.symm⟩))))
 go_wp2;go_ret2;exact⟨rfl,Zck HX.out _⟩
theorem ZnP{S:DS}{L:List (Int×List Int)}{d:Int}{k:Nat}{l:List Int}{slot:Int}(h:okD d k slot=false):Zaz S L d k l slot=(0,1):=by
 unfold Zaz;rw[if_neg (by rw[h];decide)]
theorem Zmr{S:DS}{L:List (Int×List Int)}{d:Int}{k:Nat}{l:List Int}{slot:Int}(h:okD d k slot=true)(he:¬(Zn S L (ownD l slot)).2=0):Zaz S L d k l slot=(0,(Zn S L (ownD l slot)).2):=by
 unfold Zaz;rw[if_pos h,if_neg he]
theorem Zi0{S:DS}{L:List (Int×List Int)}{d:Int}{k:Nat}{l:List Int}{slot:Int}(h:okD d k slot=true)(he:(Zn S L (ownD l slot)).2=0):Zaz S L d k l slot=(numOf (((Zn S L (ownD l slot)).1.drop ((slot%60).toNat*4)).take 4),0):=by
 unfold Zaz;rw[if_pos h,if_pos he]
section
variable{D:World->(Nat->Prop)->Addr->DS->Prop}{w w':World}{F O G Z:Nat->Prop}{p xa:Addr}{S T:DS}{q q' r b xr base:Nat}{seq t:Int}{v:Value}{L M:List (Int×List Int)}
theorem ZeX(api:Zb D)(h:ZaN D w F O p S q seq r b L)(ht:Zdf w F)(hlen:∀i,(Zn S L i).2=0->(Zn S L i).1.length=240)(d f n c:Int){A:Option Addr}{k cap B:Nat}{l:List Int}(slot:Int)(hr:RI w B A k l)(hB:B<=w.heap.size)(hk:k<=cap)(hkm:k<=maxLen) :
 Calls prog 108 #[.pointer (some ⟨r,0,none⟩),.agg #[.int .i64 d,.int .i64 f,.int .i64 n,.int .i64 c,.slice A k cap],.int .i64 slot] w fun e w'=>e=.returned (.tuple #[.int .i64 (Zaz S L d k l slot).1,.int .i64 (Zaz S L d k l slot).2])/\Below w.heap.size w w':=by
 have hX:Below w.heap.size w (w.alloc (.cells #[.int .i64 d,.int .i64 f,.int .i64 n,.int .i64 c,.slice A k cap] 41)):=(Below.refl _ _).alloc (ZZe _) _;have HX:=hid hX;have HBX:=hid (ZiX.new w d f n c (.slice A k cap));obtain⟨z0,z1,z2,z3,z4,_⟩:=HBX.out.cells;have HH:=hid (Zhc d f n c A k cap slot (w.alloc (.cells #[.int .i64 d,.int .i64 f,.int .i64 n,.int .i64 c,.slice A k cap] 41)) hkm);have HPG:=hid (ZZg h ht);have HR:=hid hr;have HLN:=hid hlen;clear h ht hr hlen hX
 cases hok:okD d k slot with
 | false=>
  rw[ZnP hok];rw[hok]at HH;clear hok;go_enter func108,ntmps108;go_wp2_with fail;refine HH.out.mono ?_;rintro e w1⟨rfl,hb1⟩;have HE:=hid (HX.out.trans (hb1.mono HX.out.size));clear hb1;go_wp2;go_ret2;exact⟨rfl,HE.out⟩
 | true=>
  rw[hok]at HH;have HOK:=hid hok;have HN:=hid (ZhV hok);by_cases he:(Zn S L (ownD l slot)).2=0
  · rw[Zi0 hok he];have hl:=HLN.out _ he;have HG:=hid (fun w2 (hb:Below w.heap.size w w2)=>Zer api (HPG.out.1.below api hb) (HPG.out.2.below hb) (ownD l slot) (RI.range HR.out _));have HGA:=hid (ZgG (l:=(Zn S L (ownD l slot)).1) ((slot%60).toNat*4) 4 (by decide) (by rw[hl];obtain⟨_,t,_,e,_,_,_⟩:=HN.out;omega));have HL:=hid hl;rw[he]at HG;have HPF:=hid (fun w1 (hb:Below w.heap.size w w1)=>Zdy d f n c (cap:=cap) (HR.out.below (hb.mono hB)) (ZZf hB hb.size) hk HOK.out);clear hok he hl;generalize (Zn S L (ownD l slot)).1=pg at *;generalize ownD l slot=own at HG HPF;generalize (slot%60).toNat*4=at4 at HPF HGA ⊢;generalize numOf ((pg.drop at4).take 4)=nv at HGA ⊢;go_enter func108,ntmps108;go_wp2_with fail;refine HH.out.mono ?_;rintro e w1⟨rfl,hb1⟩;have HB1:=hid (HX.out.trans (hb1.mono HX.out.size));have HP:=hid (HPF.out w1 HB1.out);obtain⟨y0,y1,y2,y3,y4,_⟩:=(HBX.out.below hb1).cells;clear hb1 z0 z1 z2 z3 z4;go_wp2_with fail;refine HP.out.mono ?_;rintro e w2⟨rfl,hb2⟩;have HB2:=hid (HB1.out.trans (hb2.mono HB1.out.size));clear hb2 y0 y1 y2 y3 y4 HP;go_wp2_with fail;refine(HG.out w2 HB2.out).mono ?_;rintro e w3⟨A3,n3,c3,rfl,hc3,hr3,hb3⟩;have HB3:=hid (HB2.out.trans (hb3.mono HB2.out.size));obtain rfl:n3=240:=by rw[<-hr3.len];exact HL.out
    have HGT:=hid (Zb7 A3 240 c3 _ pg (at4:Int) 4 w3 hr3 hc3 (by decide));rw[show getR pg (at4:Int) 4=(nv,0)from HGA.out]at HGT;clear hr3 hb3 hc3;go_wp2_with fail;refine HGT.out.mono ?_;rintro e w4⟨rfl,rfl⟩;go_wp2;go_ret2;exact⟨rfl,HB3.out⟩
  · rw[Zmr hok he];have HG:=hid (fun w2 (hb:Below w.heap.size w w2)=>Zer api (HPG.out.1.below api hb) (HPG.out.2.below hb) (ownD l slot) (RI.range HR.out _));generalize (Zn S L (ownD l slot)).2=er at *;generalize (Zn S L (ownD l slot)).1=pg at *;have k1:(er != 0)=true:=by simpa using he
    have HPF:=hid (fun w1 (hb:Below w.heap.size w w1)=>Zdy d f n c (cap:=cap) (HR.out.below (hb.mono hB)) (ZZf hB hb.size) hk HOK.out);clear hok he;generalize ownD l slot=own at HG HPF;generalize (slot%60).toNat*4=at4 at HPF;go_enter func108,ntmps108;go_wp2_with fail;refine HH.out.mono ?_;rintro e w1⟨rfl,hb1⟩;have HB1:=hid (HX.out.trans (hb1.mono HX.out.size));have HP:=hid (HPF.out w1 HB1.out);obtain⟨y0,y1,y2,y3,y4,_⟩:=(HBX.out.below hb1).cells;clear hb1 z0 z1 z2 z3 z4;go_wp2_with fail;refine HP.out.mono ?_;rintro e w2⟨rfl,hb2⟩;have HB2:=hid (HB1.out.trans (hb2.mono HB1.out.size));clear hb2 y0 y1 y2 y3 y4 HP;go_wp2_with fail;refine(HG.out w2 HB2.out).mono ?_;rintro e w3⟨A3,n3,c3,rfl,hc3,hr3,hb3⟩;have HB3:=hid (HB2.out.trans (hb3.mono HB2.out.size));clear hr3 hb3 hc3;go_wp2;go_ret2;exact⟨rfl,HB3.out⟩
end
theorem ZnQ:(prog.info? 104).map (fun i=>(i.zero,i.size,i.bytes))=some (some (.agg #[.int .i64 0,.int .i64 0,.int .i64 0,.slice none 0 0]),4,48):=by kernel_rfl
def Zms(w:World)(Y:Nat->Prop)(us:List Value)(l:Zw):Prop:=∃A n c,us = [.int .i64 l.pg,.int .i64 l.d,.int .i64 l.x,.slice A n c]/\n<=c/\n<=maxLen/\Zp w Y A n l.ps
theorem ZcE:Zko Zms:=by
 intro w w' Y Y' us l h hs hY hk;obtain⟨A,n,c,e,h1,h2,h3⟩:=h;exact⟨A,n,c,e,h1,h2,h3.grow hs hk hY⟩
def ZL(w0 w:World)(v:Value)(ls:List Zw):Prop:=ZbL Zms 104 4 w (fun j=>j<w0.heap.size∨v.ownBlock=some j) w0.heap.size v ls
theorem ZL.start(w0 w:World):ZL w0 w (.slice none 0 0) []:=ZbL.start _ _ _
theorem ZL.below{w0 w w':World}{v:Value}{ls:List Zw}(h:ZL w0 w v ls)(hb:Below w.heap.size w w'):ZL w0 w' v ls:=ZbL.below (R:=Zms) ZcE h hb
theorem ZL.base{w0 w1 w:World}{v:Value}{ls:List Zw}(h:ZL w1 w v ls)(hs:w0.heap.size<=w1.heap.size):ZL w0 w v ls:=by
 obtain⟨⟨vs,h1,h2⟩,h3⟩:=h
 exact⟨⟨vs,ZaU h1 hs,fun i x hx=>ZcE (h2 i x hx) (ZZe _) (fun k _ hk hk'=>hk (by
  rcases hk' with a|a
  · exact .inl (ZZd a hs)
  · exact .inr a)) (fun _ _ _=>rfl)⟩,fun r hr=>.inr hr⟩
def Zrd(S:DS)(L:List (Int×List Int))(l:Zw):Prop:=(Zn S L l.pg).2=0/\Zap (Zn S L l.pg).1=(l.bv,0)/\-9223372036854775808<=l.pg/\l.pg<=9223372036854775807
structure ZeY(S:DS)(L:List (Int×List Int))(d pg:Int)(ls:List Zw):Prop where
 first:∃l t,ls=l::t/\l.pg=pg
 ok:∀(i:Nat) (l:Zw),ls[i]?=some l->Zrd S L l/\l.d<=d
 link:∀(i:Nat) (l l':Zw),ls[i]?=some l->ls[i+1]?=some l'->l.x=l'.pg/\l'.pg≠0
 last:∀(i:Nat) (l:Zw),ls[i]?=some l->ls[i+1]?=none->l.x=0
theorem ZL.push{w0 w:World}{v:Value}{ls:List Zw}(h:ZL w0 w v ls)(hb:w0.heap.size<=w.heap.size){l:Zw}{A:Option Addr}{n c g:Nat}(hn:n<=c/\n<=maxLen)(hs:Zp w (fun k=>k<w0.heap.size∨v.ownBlock=some k) A n l.ps)(hg:w.heap[g]?=some (.cells #[.int .i64 l.pg,.int .i64 l.d,.int .i64 l.x,.slice A n c] 104 (0,0)))(hl:ls.length<=4294967296) :
 ∃A' c' w',(Builtin.append_ #[98,98] 98 #[v,.slice (some ⟨g,0,none⟩) 1 1]).run prog w=.ok (.slice A' (ls.length+1) c') w'/\ZL w0 w' (.slice A' (ls.length+1) c') (ls++[l])/\Below w0.heap.size w w'/\(∀k,k<w.heap.size->v.ownBlock≠some k->w'.heap[k]?=w.heap[k]?):=by
 obtain⟨i0,hi,hz0,hz1,hz2⟩:=info_parts ZnQ
 obtain⟨v',w',hrun,h1,h2,h3,A',c',rfl⟩:=ZbL.append (R:=Zms) ZcE h underlying98 hi hz0 hz1 hz2 rfl (by decide) (by decide) (ty:=98) (us:=[.int .i64 l.pg,.int .i64 l.d,.int .i64 l.x,.slice A n c]) (x:=l) ⟨A,n,c,rfl,hn.1,hn.2,hs⟩ rfl (fun u hu=>by
  simp only[List.mem_cons,List.not_mem_nil,or_false]at hu
  rcases hu with rfl|rfl|rfl|rfl <;> rfl) hg hl hb
 refine⟨A',c',w',hrun,?_,?_,fun k hk hne=>h2.block k hk (fun e=>hne e.symm)⟩
 · refine ZbL.keep (R:=Zms) ZcE h1 (ZZe _) (fun k hk hy=>?_) (fun _ _ _=>rfl) (fun r hr=>⟨rfl,.inr hr⟩);intro hy';rcases hy' with a|a
   · exact hy (.inl (.inl a))
   · exact hy (.inr a)
 · exact(Below.refl w0.heap.size w).grown h2 hb (fun k hk=>(h.at_ k hk).1)
section
variable{D:World->(Nat->Prop)->Addr->DS->Prop}{w w':World}{F O:Nat->Prop}{p:Addr}{S:DS}{q r b st:Nat}{seq:Int}{L:List (Int×List Int)}
theorem Zgf(api:Zb D)(h:SAt D w F O p S q seq r b st L)(d f n c:Int){A0:Option Addr}{k cap B:Nat}{l:List Int}(slot:Int)(most pg:Int){ls:List Zw}(hr:RI w B A0 k l)(hB:B<=w.heap.size)(hk:k<=cap)(hkm:k<=maxLen)(hd:Zaz S L d k l slot=(pg,0))(hc:ZeY S L d pg ls)(hm:(ls.length:Int)<=most)(hm2:most<=4294967296) :
 Calls prog 52 #[.pointer (some ⟨st,0,none⟩),.agg #[.int .i64 d,.int .i64 f,.int .i64 n,.int .i64 c,.slice A0 k cap],.int .i64 slot,.int .i64 most] w fun e w'=>∃A' c',e=.returned (.tuple #[.slice A' ls.length c',.int .i64 0])/\ZL w w' (.slice A' ls.length c') ls/\Below w.heap.size w w':=by
 have hX:Below w.heap.size w (w.alloc (.cells #[.int .i64 d,.int .i64 f,.int .i64 n,.int .i64 c,.slice A0 k cap] 41)):=(Below.refl _ _).alloc (ZZe _) _;have hXd:Below w.heap.size w (w.alloc (.cells #[.int .i64 d,.int .i64 f,.int .i64 n,.int .i64 c,.slice A0 k cap] 41)).drew:=hX.drew;have hz:(w.alloc (.cells #[.int .i64 d,.int .i64 f,.int .i64 n,.int .i64 c,.slice A0 k cap] 41)).heap[w.heap.size]?=some (.cells #[.int .i64 d,.int .i64 f,.int .i64 n,.int .i64 c,.slice A0 k cap] 41 (0,0)):=heap_alloc_new _ _;have h2:=h.below api hXd;have HD:=hid (ZeX api h2.pg h2.tab h2.len d f n c (cap:=cap) slot (hr.below (hXd.mono hB)) (ZZf hB hXd.size) hk hkm);rw[hd]at HD;have hst:=(h.below api hX).sto.cell;have HC:=hid hc;have HH:=hid (ZZg h hX);obtain⟨l0,t0,hl0,hpg0⟩:=hc.first;have hlen:0<ls.length:=by rw[hl0];simp
 obtain⟨z0,z1,z2,z3,z4,_⟩:=(ZiX.new w d f n c (.slice A0 k cap)).cells;have HPG:=hid (show ls[0]?=some l0/\l0.pg=pg from⟨by rw[hl0];rfl,hpg0⟩)
 have HK:=hid (fun w2 (hb2:Below (w.alloc (.cells #[.int .i64 d,.int .i64 f,.int .i64 n,.int .i64 c,.slice A0 k cap] 41)).drew.heap.size (w.alloc (.cells #[.int .i64 d,.int .i64 f,.int .i64 n,.int .i64 c,.slice A0 k cap] 41)).drew w2)=>show w2.cell? ⟨st,0,none⟩=some (.pointer (some ⟨r,0,none⟩))/\w2.cell? ⟨w.heap.size,0,none⟩=some (.int .i64 d)/\w2.cell? ⟨w.heap.size,1,none⟩=some (.int .i64 f)/\w2.cell? ⟨w.heap.size,2,none⟩=some (.int .i64 n)/\w2.cell? ⟨w.heap.size,3,none⟩=some (.int .i64 c)/\w2.cell? ⟨w.heap.size,4,none⟩=some (.slice A0 k cap)from
  ⟨(hb2.cell (p:=⟨st,0,none⟩) (ZZd h.lt hXd.size)).trans hst,(hb2.cell (p:=⟨w.heap.size,0,none⟩) (by simp)).trans z0,(hb2.cell (p:=⟨w.heap.size,1,none⟩) (by simp)).trans z1,(hb2.cell (p:=⟨w.heap.size,2,none⟩) (by simp)).trans z2,(hb2.cell (p:=⟨w.heap.size,3,none⟩) (by simp)).trans z3,(hb2.cell (p:=⟨w.heap.size,4,none⟩) (by simp)).trans z4⟩)
 have HK2:=hid (fun w2 (hb2:Below (w.alloc (.cells #[.int .i64 d,.int .i64 f,.int .i64 n,.int .i64 c,.slice A0 k cap] 41)).drew.heap.size (w.alloc (.cells #[.int .i64 d,.int .i64 f,.int .i64 n,.int .i64 c,.slice A0 k cap] 41)).drew w2)=>show w2.heap[w.heap.size]?=some (.cells #[.int .i64 d,.int .i64 f,.int .i64 n,.int .i64 c,.slice A0 k cap] 41 (0,0))/\Below w.heap.size w w2 from⟨(hb2.block w.heap.size (by simp)).trans hz,hXd.trans (hb2.mono hXd.size)⟩);have HWS:=hid (show(w.alloc (.cells #[.int .i64 d,.int .i64 f,.int .i64 n,.int .i64 c,.slice A0 k cap] 41)).heap.size=w.heap.size+1 by simp);generalize hWX:w.alloc (.cells #[.int .i64 d,.int .i64 f,.int .i64 n,.int .i64 c,.slice A0 k cap] 41)=WX at *;clear h hc hX hXd hz h2 hr hd hl0 hpg0;go_enter func52,ntmps52;go_wp2_with fail
 go_region_held3 (fun W=>W.cell? ⟨st,0,none⟩=some (.pointer (some ⟨r,0,none⟩))/\W.cell? ⟨w.heap.size,0,none⟩=some (.int .i64 d)/\W.cell? ⟨w.heap.size,1,none⟩=some (.int .i64 f)/\W.cell? ⟨w.heap.size,2,none⟩=some (.int .i64 n)/\W.cell? ⟨w.heap.size,3,none⟩=some (.int .i64 c)/\W.cell? ⟨w.heap.size,4,none⟩=some (.slice A0 k cap))
  (first|with_reducible exact y1|exact⟨hst,z0,z1,z2,z3,z4⟩)
  (first
   | (go_at_call 108;refine HD.out.mono ?_;rintro e w2 ⟨rfl,hb2⟩;have y1:=HK.out w2 hb2))
 obtain⟨hsz2,hbw2⟩:=HK2.out w2 hb2;clear hb2 y1;go_wp2_with fail
 go_loopw[10,12,29] (fun pv v i wr=>∃(j:Nat) (A:Option Addr) (c':Nat) (lj:Zw),i=.int .i64 j/\pv=.int .i64 lj.pg/\v=.slice A j c'/\Hid (ls[j]?=some lj/\ZL WX wr (.slice A j c') (ls.take j)/\Below w.heap.size w wr/\wr.heap[w.heap.size]?=some (.cells #[.int .i64 d,.int .i64 f,.int .i64 n,.int .i64 c,.slice A0 k cap] 41 (0,0)))) (fun _ _ i _=>ls.length-(intOf i).toNat)
 case atStart=>exact⟨0,none,0,l0,rfl,by rw[HPG.out.2],rfl,hid ⟨HPG.out.1,ZL.start _ _,hbw2,hsz2⟩⟩
 case round=>
  obtain⟨j,A,c',⟨pj,dj,xj,psj⟩,rfl,rfl,rfl,HR⟩:=hrel;obtain⟨hlj,hch,hbw,hbox⟩:=HR.out;have hjl:j<ls.length:=(ZZb.1 hlj).1;obtain⟨⟨hg,hpz,hp1,hp2⟩,hdd⟩:=HC.out.ok j _ hlj;have hS:=HH.out.1.below api hbw;have HL:=hid (Zmk api hS pj ⟨hp1,hp2⟩ hg hpz);have HBW:=hid (ZZg hbw (ZZg hch (ZZg hbox hlj)));have hjm:(j:Int)<most:=by omega
  have HJL:=hid hjl;have hjb:j<=4294967295:=by omega
  have hle:¬d<dj:=by have:dj<=d:=hdd;omega
  clear hlj hch hbw hbox hg hpz hp1 hp2 hdd hS hjl HR;go_wp2_with fail;refine HL.out.mono ?_;rintro e w3⟨v3,rfl,⟨A3,n3,c3,hv3,hc3,hn3,hs3⟩,hb3⟩;have hv3:v3=.agg #[.int .i64 pj,.int .i64 dj,.int .i64 xj,.slice A3 n3 c3]:=hv3;subst hv3;have hb4:Below wr.heap.size wr ((w3.alloc (.cells #[.int .i64 pj,.int .i64 dj,.int .i64 xj,.slice A3 n3 c3] 104)).alloc (.cells #[.int .i64 pj,.int .i64 dj,.int .i64 xj,.slice A3 n3 c3] 104)):=(hb3.alloc hb3.size _).alloc (by have:=hb3.size;simp;omega) _;have hb34:Below w3.heap.size w3 ((w3.alloc (.cells #[.int .i64 pj,.int .i64 dj,.int .i64 xj,.slice A3 n3 c3] 104)).alloc (.cells #[.int .i64 pj,.int .i64 dj,.int .i64 xj,.slice A3 n3 c3] 104)):=((Below.refl _ _).alloc (ZZe _) _).alloc (by simp) _;have hs4:((w3.alloc (.cells #[.int .i64 pj,.int .i64 dj,.int .i64 xj,.slice A3 n3 c3] 104)).alloc (.cells #[.int .i64 pj,.int .i64 dj,.int .i64 xj,.slice A3 n3 c3] 104)).heap.size=w3.heap.size+2:=by simp
  have hg4:((w3.alloc (.cells #[.int .i64 pj,.int .i64 dj,.int .i64 xj,.slice A3 n3 c3] 104)).alloc (.cells #[.int .i64 pj,.int .i64 dj,.int .i64 xj,.slice A3 n3 c3] 104)).heap[w3.heap.size+1]?=some (.cells #[.int .i64 pj,.int .i64 dj,.int .i64 xj,.slice A3 n3 c3] 104 (0,0)):=by
   have:=heap_alloc_new (w3.alloc (.cells #[.int .i64 pj,.int .i64 dj,.int .i64 xj,.slice A3 n3 c3] 104)) (.cells #[.int .i64 pj,.int .i64 dj,.int .i64 xj,.slice A3 n3 c3] 104)
   simpa using this
  have hg3:((w3.alloc (.cells #[.int .i64 pj,.int .i64 dj,.int .i64 xj,.slice A3 n3 c3] 104)).alloc (.cells #[.int .i64 pj,.int .i64 dj,.int .i64 xj,.slice A3 n3 c3] 104)).heap[w3.heap.size]?=some (.cells #[.int .i64 pj,.int .i64 dj,.int .i64 xj,.slice A3 n3 c3] 104 (0,0)):=
   (Below.heap_alloc _ _ _ (by simp)).trans (heap_alloc_new _ _)
  have hWr:WX.heap.size<=wr.heap.size:=by
   have h1:=(ZZa.1 HBW.out.2.2.1).1;rw[HWS.out];omega
  have htk:(ls.take j).length=j:=by rw[List.length_take];have:=HJL.out;omega
  obtain⟨A5,c5,w5,hrun,hch5,hb5,hkeep5⟩:=(HBW.out.2.1.below hb4).push (l:=⟨pj,dj,xj,psj⟩) (A:=A3) (n:=n3) (c:=c3) (g:=w3.heap.size+1) (ZZf hWr hb4.size) ⟨hc3,hn3⟩ ((hs3.below hb34).grow (ZZe _) (fun _ _ _=>rfl) (fun k _ hk hk'=>hk (by
   rcases hk' with a|a
   · exact ZZd a hWr
   · exact(HBW.out.2.1.at_ k a).2))) hg4 (by rw[htk];omega)
  rw[htk]at hrun hch5;have hown:∀k,(Value.slice A j c').ownBlock=some k->k<wr.heap.size:=fun k hk=>(HBW.out.2.1.at_ k hk).2
  have hlt3:wr.heap.size<=w3.heap.size:=hb3.size;have h53:w5.heap[w3.heap.size]?=some (.cells #[.int .i64 pj,.int .i64 dj,.int .i64 xj,.slice A3 n3 c3] 104 (0,0)):=(hkeep5 _ (by omega) (fun e=>by have:=hown _ e;omega)).trans hg3
  have hbx5:w5.heap[w.heap.size]?=some (.cells #[.int .i64 d,.int .i64 f,.int .i64 n,.int .i64 c,.slice A0 k cap] 41 (0,0)):=by
   have hlt:w.heap.size<wr.heap.size:=(ZZa.1 HBW.out.2.2.1).1;refine(hkeep5 _ (by omega) (fun e=>?_)).trans ((hb4.block _ hlt).trans HBW.out.2.2.1)
   have:=(HBW.out.2.1.at_ _ e).1
   rw[HWS.out]at this;omega
  have hbw5:Below w.heap.size w w5:=(HBW.out.1.trans (hb4.mono HBW.out.1.size)).trans (hb5.mono (by rw[HWS.out];omega));obtain⟨y0,y1,y2,y3,_,_⟩:=Za h53
  have zz0:(w3.alloc (.cells #[.int .i64 pj,.int .i64 dj,.int .i64 xj,.slice A3 n3 c3] 104)).cell? ⟨w.heap.size,0,none⟩=some (.int .i64 d):=by
   have hlt:w.heap.size<wr.heap.size:=(ZZa.1 HBW.out.2.2.1).1;exact((hb3.alloc hb3.size _).cell (p:=⟨w.heap.size,0,none⟩) hlt).trans (show ZiX wr w.heap.size d f n c (.slice A0 k cap)from HBW.out.2.2.1).cells.1
  have hts:ls.take (j+1)=ls.take j++[⟨pj,dj,xj,psj⟩]:=by rw[List.take_add_one,HBW.out.2.2.2];rfl
  rw[<-hts]at hch5;have HRUN:=hid hrun;have hx0:ls[j+1]?=none->xj=0:=HC.out.last j _ HBW.out.2.2.2;have hx1:∀l',ls[j+1]?=some l'->xj=l'.pg/\l'.pg≠0:=fun l' h'=>HC.out.link j _ l' HBW.out.2.2.2 h'
  by_cases hlast:j+1<ls.length
  · obtain⟨l',hl'⟩:∃l',ls[j+1]?=some l':=⟨_,ZZc hlast⟩
    obtain⟨hxe,hxn⟩:=hx1 l' hl';have hx:(xj == 0)=false:=by rw[hxe];simpa using hxn
    have HN:=hid (ZZg hl' (ZZg hch5 (ZZg hbw5 (ZZg hbx5 hxe))));clear hrun hch5 hb5 hkeep5 hb4 hb34 hg4 hg3 hs4 htk hown hlt3 h53 hbx5 hbw5 hs3 hb3 hts hx0 hx1 hl' hxe hxn hWr
    go_wp2_with (at_builtin;refine Lib.wpList_append_run _ rfl _ _ _ _ rfl _ _ rfl rfl _ _ HRUN.out ?_)
    go_roundw
    case rel=>exact⟨j+1,A5,c5,l',by go_num,by rw[HN.out.2.2.2.2],rfl,hid ⟨HN.out.1,HN.out.2.1,HN.out.2.2.1,HN.out.2.2.2.1⟩⟩
    case measure=>simp[intOf];omega
  · have hx:xj=0:=hx0 (List.getElem?_eq_none (by omega));subst hx;have hall:ls.take (j+1)=ls:=List.take_of_length_le (by omega);have hjj:j+1=ls.length:=by have:=HJL.out;omega
    rw[hall,hjj]at hch5;rw[hjj]at HRUN;have HN:=hid (ZZg (hch5.base (w0:=w) (by rw[HWS.out];omega)) hbw5);clear hrun hch5 hb5 hkeep5 hb4 hb34 hg4 hg3 hs4 htk hown hlt3 h53 hbx5 hbw5 hs3 hb3 hts hx0 hx1 hWr hall hjj
    go_wp2_with (at_builtin;refine Lib.wpList_append_run _ rfl _ _ _ _ rfl _ _ rfl rfl _ _ HRUN.out ?_)
    go_ret2;exact⟨_,_,rfl,HN.out.1,HN.out.2⟩
end
theorem Zed{w:World}{G:Nat->Prop}{l:Zw}{A:Option Addr}{n c i:Nat}(hc:n<=c)(h:Zp w G A n l.ps)(hG:∀k,G k->k<w.heap.size)(hi:i<n)(hn:n<=4294967296) :
 Calls prog 161 #[.agg #[.int .i64 l.pg,.int .i64 l.d,.int .i64 l.x,.slice A n c],.int .i64 (i:Int)] w fun e w'=>∃v,e=.returned v/\Zd9 w' G v ⟨l.pg,l.d,l.x,l.ps.eraseIdx i⟩/\Below w.heap.size w w':=by
 obtain⟨pg,d,xx,ps⟩:=l;obtain⟨m,rfl⟩:∃m,n=m+1:=⟨n-1,by omega⟩
 have hl:ps.length=m+1:=h.now.len;have hX1:Below w.heap.size w (w.alloc (.cells #[.int .i64 pg,.int .i64 d,.int .i64 xx,.slice A (m+1) c] 104)):=(Below.refl _ _).alloc (ZZe _) _;have hX2:=hX1.alloc hX1.size (.cells #[.int .i64 0,.int .i64 0,.int .i64 0,.slice none 0 0] 104);have b0:=heap_alloc_new w (.cells #[.int .i64 pg,.int .i64 d,.int .i64 xx,.slice A (m+1) c] 104);have b1:=heap_alloc_new (w.alloc (.cells #[.int .i64 pg,.int .i64 d,.int .i64 xx,.slice A (m+1) c] 104)) (.cells #[.int .i64 0,.int .i64 0,.int .i64 0,.slice none 0 0] 104);have s1:(w.alloc (.cells #[.int .i64 pg,.int .i64 d,.int .i64 xx,.slice A (m+1) c] 104)).heap.size=w.heap.size+1:=by simp
 have s2:((w.alloc (.cells #[.int .i64 pg,.int .i64 d,.int .i64 xx,.slice A (m+1) c] 104)).alloc (.cells #[.int .i64 0,.int .i64 0,.int .i64 0,.slice none 0 0] 104)).heap.size=w.heap.size+2:=by simp
 rw[s1]at b1;have c0:=(Below.heap_alloc _ (.cells #[.int .i64 0,.int .i64 0,.int .i64 0,.slice none 0 0] 104) w.heap.size (by rw[s1];omega)).trans b0;clear b0 s1 hX1;go_enter func161,ntmps161;go_wp2_with fail;generalize ((w.alloc (.cells #[.int .i64 pg,.int .i64 d,.int .i64 xx,.slice A (m+1) c] 104)).alloc (.cells #[.int .i64 0,.int .i64 0,.int .i64 0,.slice none 0 0] 104))=X at *
 have hG1:∀k,k<w.heap.size->¬G k->¬(G k∨w.heap.size<=k):=fun k hk hg hg'=>by
  rcases hg' with a|a
  · exact hg a
  · omega
 have HC:=hid (Zmm (c:=c) (h.grow (w':=X) (G':=fun k=>G k∨w.heap.size<=k) hX2.size (fun k hk _=>hX2.block k hk) hG1) (Nat.succ_pos _) hn);refine HC.out.mono ?_;rintro e w1⟨g,c1,vs,cs,rfl,hc1,hg,hblk,hvs,hcs,hb1⟩;have hD:=Zkp (c:=c1) (i:=i) hvs hblk hcs hl (by omega) hc1 (.inr (ZZf hX2.size hg)) (by omega);rw[show((i+1:Nat):Int)=(i:Int)+1 by omega]at hD;have HD:=hid hD;have HB1:=hid (ZZg (hX2.trans (hb1.mono hX2.size)) (ZZg ((hb1.block w.heap.size (by omega)).trans c0) (ZZg ((hb1.block (w.heap.size+1) (by omega)).trans b1) hg)));have HS2:=hid s2;clear HC hvs hblk hcs hb1 hD c0 b1 hX2 s2 hG1 h hg;go_wp2_with fail;refine HD.out.mono ?_;rintro e w2⟨vs',cs',rfl,hblk2,hvs2,hcs2,hsz2,hk2,hbg⟩;obtain⟨q1,q2,q3,q4⟩:=HB1.out;have hgX:w.heap.size+2<=g:=by have:=HS2.out;omega
 have t0:w2.heap[w.heap.size]?=some (.cells #[.int .i64 pg,.int .i64 d,.int .i64 xx,.slice A (m+1) c] 104 (0,0)):=(hk2 _ (by omega)).trans q2;have t1:w2.heap[w.heap.size+1]?=some (.cells #[.int .i64 0,.int .i64 0,.int .i64 0,.slice none 0 0] 104 (0,0)):=(hk2 _ (by omega)).trans q3;have hb2:Below w.heap.size w w2:=q1.trans (hbg.mono (by omega));have hps:(ps.eraseIdx i).length=m:=by rw[List.length_eraseIdx,if_pos (by omega)];omega
 have hfin:=(hvs2.grow (w':=w2) (G':=G) (ZZe _) (fun _ _ _=>rfl) (fun k _ h1 h2=>h1 (.inl h2))).pin hblk2 (fun hg=>absurd (hG _ hg) (by omega)) hcs2;rw[hps]at hfin
 have hstp:Zp w2 (fun k=>G k∨k<w.heap.size+2/\w.heap.size<=k) (some ⟨g,0,none⟩) m (ps.eraseIdx i):=by
  have:=(hvs2.grow (w':=w2) (G':=fun k=>G k∨k<w.heap.size+2/\w.heap.size<=k) (ZZe _) (fun _ _ _=>rfl) (fun k _ h1 h2=>h1 (by
   rcases h2 with a|a
   · exact .inl a
   · exact .inr a.2))).pin hblk2 (fun hg=>by
   rcases hg with a|a
   · exact absurd (hG _ a) (by omega)
   · omega) hcs2
  rw[hps]at this;exact this.stays
 have t0s:=heap_setCell_same w2 w.heap.size 3 _ _ (.slice (some ⟨g,0,none⟩) m c1) t0;have t1s:=(Below.heap_setCell w2 ⟨w.heap.size,3,none⟩ (.slice (some ⟨g,0,none⟩) m c1) (w.heap.size+1) (by simp)).trans t1;obtain⟨_,_,_,y3,fy,_⟩:=Za t0;have fy3:=fy 3;have hWs:=hstp.setCell (p:=⟨w.heap.size,3,none⟩) (.inr ⟨by simp,ZZe _⟩) (.slice (some ⟨g,0,none⟩) m c1);have hWb:=hb2.setCell (p:=⟨w.heap.size,3,none⟩) (ZZe _) (.slice (some ⟨g,0,none⟩) m c1);clear hblk2 hvs2 hcs2 hsz2 hk2 hbg q1 q2 q3 q4 t0 t1 fy hb2 hfin hstp HD HB1 hgX;generalize hW:w2.setCell ⟨w.heap.size,3,none⟩ (.slice (some ⟨g,0,none⟩) m c1)=W at *;have t0s':W.heap[w.heap.size]?=some (.cells #[.int .i64 pg,.int .i64 d,.int .i64 xx,.slice (some ⟨g,0,none⟩) m c1] 104 (0,0)):=t0s;obtain⟨z0,z1,z2,z3,_,_⟩:=Za t0s';obtain⟨u0,u1,u2,u3,fu,_⟩:=Za t1s;have f0:=fu 0;have f1:=fu 1;have f2:=fu 2;have f3:=fu 3;have HFIN:=hid (ZZg (Zbf t1s (.int .i64 pg) (.int .i64 d) (.int .i64 xx) (.slice (some ⟨g,0,none⟩) m c1)) (ZZg (Zag hWb (Nat.le_add_right _ 1) (.int .i64 pg) (.int .i64 d) (.int .i64 xx) (.slice (some ⟨g,0,none⟩) m c1)) (show Zp ((((W.setCell ⟨w.heap.size+1,0,none⟩ (.int .i64 pg)).setCell ⟨w.heap.size+1,1,none⟩ (.int .i64 d)).setCell ⟨w.heap.size+1,2,none⟩ (.int .i64 xx)).setCell ⟨w.heap.size+1,3,none⟩ (.slice (some ⟨g,0,none⟩) m c1)) G (some ⟨g,0,none⟩) m (ps.eraseIdx i)from((((hWs.setCell (p:=⟨w.heap.size+1,0,none⟩) (.inr ⟨by simp,by simp⟩) (.int .i64 pg)).setCell (p:=⟨w.heap.size+1,1,none⟩) (.inr ⟨by simp,by simp⟩) (.int .i64 d)).setCell (p:=⟨w.heap.size+1,2,none⟩) (.inr ⟨by simp,by simp⟩) (.int .i64 xx)).setCell (p:=⟨w.heap.size+1,3,none⟩) (.inr ⟨by simp,by simp⟩) (.slice (some ⟨g,0,none⟩) m c1)).grow (ZZe _) (fun _ _ _=>rfl) (fun k _ h1 h2=>h1 (.inl h2)))));have hmc:m<=c1:=by omega
 clear fu t0s t0s' t1s hWs hWb;go_wp2;generalize ((((W.setCell ⟨w.heap.size+1,0,none⟩ (.int .i64 pg)).setCell ⟨w.heap.size+1,1,none⟩ (.int .i64 d)).setCell ⟨w.heap.size+1,2,none⟩ (.int .i64 xx)).setCell ⟨w.heap.size+1,3,none⟩ (.slice (some ⟨g,0,none⟩) m c1))=V at *;obtain⟨d0,d1,d2,d3,_⟩:=Za HFIN.out.1
 refine bodyPost_ret (v:=.agg #[.int .i64 pg,.int .i64 d,.int .i64 xx,.slice (some ⟨g,0,none⟩) m c1]) (by
  simp[results,Tryz.results161,go_sem,d0,d1,d2,d3]) rfl ?_
 exact⟨_,rfl,⟨_,_,_,rfl,hmc,by unfold maxLen;omega,HFIN.out.2.2⟩,HFIN.out.2.1⟩
theorem ZhW{w:World}{G:Nat->Prop}{l:Zw}{A:Option Addr}{n c:Nat}(h:Zp w G A n l.ps)(hn:n<=maxLen)(hsz:szP l.ps<=4611686018427387904) :
 Calls prog 163 #[.agg #[.int .i64 l.pg,.int .i64 l.d,.int .i64 l.x,.slice A n c]] w fun e w'=>e=.returned (.bool (decide (8+szP l.ps<=240)))/\Below w.heap.size w w':=by
 obtain⟨pg,d,xx,ps⟩:=l;have hX1:Below w.heap.size w (w.alloc (.cells #[.int .i64 pg,.int .i64 d,.int .i64 xx,.slice A n c] 104)):=(Below.refl _ _).alloc (ZZe _) _;have HF:=hid (Zg6 d xx c (h.now.below hX1) hX1.size hn hsz);have HX:=hid hX1;clear hX1 h;go_enter func163,ntmps163;go_wp2_with fail;refine HF.out.mono ?_;rintro e w1⟨rfl,hb1⟩;have HE:=hid (HX.out.trans (hb1.mono HX.out.size));clear hb1;go_wp2;go_ret;exact⟨rfl,HE.out⟩
def Zre(ls:List Zw)(key:List Int)(a i:Int):Prop:=(a=0/\i = -1/\∀(m:Nat) (l:Zw),ls[m]?=some l->findI l.ps key<0)∨(∃(m:Nat) (l:Zw),a=(m:Int)/\ls[m]?=some l/\i=findI l.ps key/\0<=i/\∀(m':Nat) (l':Zw),m'<m->ls[m']?=some l'->findI l'.ps key<0)
theorem ZL.read{w0 w:World}{A:Option Addr}{n c:Nat}{ls:List Zw}(h:ZL w0 w (.slice A n c) ls):n=ls.length/\n<=c/\(0<n->∃g,A=some ⟨g,0,none⟩/\g<w.heap.size/\w0.heap.size<=g/\(∀i,w.frozen? ⟨g,i,none⟩=false)/\∀(j:Nat) (l:Zw),ls[j]?=some l->∃A' n' c',w.cell? ⟨g,j*4,none⟩=some (.int .i64 l.pg)/\w.cell? ⟨g,j*4+1,none⟩=some (.int .i64 l.d)/\w.cell? ⟨g,j*4+2,none⟩=some (.int .i64 l.x)/\w.cell? ⟨g,j*4+3,none⟩=some (.slice A' n' c')/\n'<=c'/\n'<=maxLen/\Zp w (fun k=>k<w0.heap.size∨k=g) A' n' l.ps):=by
 obtain⟨⟨vs,h1,h2⟩,_⟩:=h;rcases h1.2 with ⟨e,h0⟩|⟨g,cap,cur,e,hb,hg,hc,_,_,htake⟩
 · cases e;exact⟨h0.symm,ZZe _,fun hn=>absurd hn (by omega)⟩
 · cases e;refine⟨rfl,hc,fun hn=>⟨g,rfl,(ZZa.1 hg).1,hb,fun i=>by simp[World.frozen?,hg],fun j l hl=>?_⟩⟩;have hj:=(ZZb.1 hl).1;obtain⟨A',n',c',hus,q1,q2,q3⟩:=h2 j l hl
   have hcell:∀k,k<4->w.cell? ⟨g,j*4+k,none⟩=((vs.drop (j*4)).take 4)[k]?:=fun k hk=>by
    rw[cell_of_row w g (j*4+k) cur _ (0,0) hg,List.getElem?_take,if_pos hk,List.getElem?_drop,<-htake,List.getElem?_take,if_pos (by omega)];simp
   rw[hus]at hcell;refine⟨A',n',c',hcell 0 (by omega),hcell 1 (by omega),hcell 2 (by omega),hcell 3 (by omega),q1,q2,q3.grow (ZZe _) (fun _ _ _=>rfl) (fun k _ hk hk'=>hk ?_)⟩;rcases hk' with a|a
   · exact .inl a
   · exact .inr (by rw[a];rfl)
theorem ZaW{w0 w:World}{A KA:Option Addr}{n c Kn Kc B:Nat}{ls:List Zw}{key:List Int}(h:ZL w0 w (.slice A n c) ls)(hkey:RB w B KA Kn key)(hB:B<=w.heap.size)(hn:n<=4294967296) :
 Calls prog 102 #[.slice A n c,.slice KA Kn Kc] w fun e w'=>∃a i,e=.returned (.tuple #[.int .i64 a,.int .i64 i])/\Zre ls key a i/\Below w.heap.size w w':=by
 obtain⟨hnl,hc,hrd⟩:=h.read;have HNL:=hid hnl;clear hnl;go_enter func102,ntmps102;go_wp2_with fail
 go_loopw[11] (fun i wr=>∃j:Nat,j<=n/\i=.int .i64 j/\Hid ((∀(m:Nat) (l:Zw),m<j->ls[m]?=some l->findI l.ps key<0)/\Below w.heap.size w wr)) (fun i _=>n-(intOf i).toNat)
 case atStart=>exact⟨0,Nat.zero_le _,rfl,hid ⟨fun m l hm=>absurd hm (Nat.not_lt_zero _),Below.refl _ _⟩⟩
 case round=>
  obtain⟨j,hj,rfl,HR⟩:=hrel;by_cases hlt:j<n
  · obtain⟨g,rfl,hgl,_,_,hall⟩:=hrd (by omega);obtain⟨⟨pj,dj,xj,psj⟩,hlj⟩:∃l,ls[j]?=some l:=⟨_,ZZc (by have:=HNL.out;omega)⟩
    obtain⟨A',n',c',c0,c1,c2,c3,hn',hm',hst⟩:=hall j _ hlj;have hbw:=HR.out.2;have e0:=(hbw.cell (p:=⟨g,j*4,none⟩) hgl).trans c0;have e1:=(hbw.cell (p:=⟨g,j*4+1,none⟩) hgl).trans c1;have e2:=(hbw.cell (p:=⟨g,j*4+2,none⟩) hgl).trans c2;have e3:=(hbw.cell (p:=⟨g,j*4+3,none⟩) hgl).trans c3;have hX:Below wr.heap.size wr (wr.alloc (.cells #[.int .i64 pj,.int .i64 dj,.int .i64 xj,.slice A' n' c'] 104)):=(Below.refl _ _).alloc (ZZe _) _;have hbX:=hbw.trans (hX.mono hbw.size);have HF:=hid (Zg7 dj xj c' Kc ((hst.below hbX).now) (ZZe _) hm' ((hkey.below (hbX.mono hB)).more (ZZf hB hbX.size)));have HX:=hid hbX;have HL:=hid hlj;clear c0 c1 c2 c3 hall hst hX hbX hbw hlj;by_cases hf:0<=findI psj key
    · have k1:decide (findI psj key≥0)=true:=by simpa using hf
      have HFF:=hid hf;obtain⟨q,hq⟩:∃q,q=findI psj key:=⟨_,rfl⟩
      rw[<-hq]at HF k1 hf;have HQ:=hid hq;clear hq;go_wp2_with fail;refine HF.out.mono ?_;rintro e w1⟨rfl,hb1⟩;have HE:=hid (HX.out.trans (hb1.mono HX.out.size));clear hb1;go_wp2;go_ret2;exact⟨_,_,rfl,.inr ⟨j,_,rfl,HL.out,HQ.out,hf,fun m' l' h1 h2=>HR.out.1 m' l' h1 h2⟩,HE.out⟩
    · have k1:decide (findI psj key≥0)=false:=by simpa using hf
      have HN:=hid (show ∀(m:Nat) (l:Zw),m<j+1->ls[m]?=some l->findI l.ps key<0 from fun m l hm hl=>by
       by_cases e:m=j
       · subst e;rw[HL.out]at hl;cases hl;exact Int.not_le.1 hf
       · exact HR.out.1 m l (by omega) hl)
      obtain⟨q,hq⟩:∃q,q=findI psj key:=⟨_,rfl⟩
      rw[<-hq]at HF k1 hf;clear hq;go_wp2_with fail;refine HF.out.mono ?_;rintro e w1⟨rfl,hb1⟩;have HE:=hid (HX.out.trans (hb1.mono HX.out.size));clear hb1;go_wp2;go_roundw
      case rel=>exact⟨j+1,by omega,by go_num,hid ⟨HN.out,HE.out⟩⟩
      case measure=>simp[intOf];omega
  · obtain rfl:j=n:=by omega
    go_wp2;go_ret2;exact⟨_,_,rfl,.inl ⟨rfl,rfl,fun m l hl=>HR.out.1 m l (by have:=(ZZb.1 hl).1;have:=HNL.out;omega) hl⟩,HR.out.2⟩
structure MV where
 d:Int
 f:Int
 n:Int
 c:Int
 l:List Int
def MV.zero:MV:=⟨0,0,0,0,[]⟩
def ZS(k:Nat):List Int->List Int
 | []=>[]
 | x::r=>Zr x k++ZS k r
theorem Zi(k:Nat):∀l:List Int,(ZS k l).length=k*l.length
 | []=>rfl
 | x::r=>by
  show(Zr x k++ZS k r).length=_
  rw[List.length_append,Zc,Zi k r,List.length_cons,Nat.mul_add];omega
theorem Zdz(k:Nat):∀l m:List Int,ZS k (l++m)=ZS k l++ZS k m
 | [],m=>rfl
 | x::r,m=>by
  show Zr x k++ZS k (r++m)=Zr x k++ZS k r++ZS k m;rw[Zdz k r m,List.append_assoc]
theorem Zc1(k:Nat):∀l:List Int,Ze (ZS k l)
 | []=>Ze.nil
 | x::r=>Ze.append (ZW x k) (Zc1 k r)
def Zgg(l:List Int):Bool:=l.all fun x=>Zj x 4
def Zft(m:MV):Bool:=decide (0<=m.d)&&decide (m.d<=10)&&decide (1<=m.l.length)&&decide (m.l.length<=20)&&Zgg [m.f,m.n,m.c]&&Zgg m.l
def Za8:List Int:=[69,88,67,72]
def Zbn(m:MV):List Int:=Za8++ZS 1 [m.d,(m.l.length:Int)]++ZS 4 [m.f,m.n,m.c]++ZS 4 m.l
def ZM(m:MV):List Int:=Zbn m++List.replicate (240-(Zbn m).length) 0
def Ziy(m:MV):List Int×Int:=if Zft m=true then(ZM m,0)else([],1)
def at_(data:List Int)(a s:Int):Int:=(getR data a s).1
def ZgY(data:List Int)(a s:Int):Nat->List Int
 | 0=>[]
 | k+1=>ZgY data a s k++[at_ data (a+k*s) s]
def Zez(data:List Int)(k:Nat):MV:=⟨at_ data 4 1,at_ data 6 4,at_ data 10 4,at_ data 14 4,ZgY data 18 4 k⟩
def ZE(data:List Int):Nat:=(data[5]?.getD 0).toNat
def Zi1(data:List Int):Prop:=data.length=240/\Zft (Zez data (ZE data))=true/\ZM (Zez data (ZE data))=data
instance (data:List Int):Decidable (Zi1 data):=by unfold Zi1;infer_instance
def Zbo(data:List Int):MV×Int:=if Zi1 data then(Zez data (ZE data),0)else(MV.zero,4)
def Zgh(a b:MV):Bool:=decide (a.d=b.d)&&decide (a.f=b.f)&&decide (a.n=b.n)&&decide (a.c=b.c)&&decide (a.l=b.l)
theorem ZnR{a b:MV}:Zgh a b=true↔a=b:=by
 unfold Zgh
 cases a;cases b
 simp[and_assoc]
theorem ZhX(m:MV):(Zbn m).length=18+4*m.l.length:=by
 unfold Zbn;simp only[List.length_append,Zi,List.length_cons,List.length_nil];show 4+1*2+4*3+4*m.l.length=_;omega
theorem Zi2(m:MV):Ze (Zbn m):=by
 unfold Zbn;refine Ze.append (Ze.append (Ze.append ?_ (Zc1 _ _)) (Zc1 _ _)) (Zc1 _ _);intro x hx;unfold Za8 at hx;simp at hx;omega
theorem Zee(m:MV):Ze (ZM m):=Ze.append (Zi2 m) fun x hx=>by
 obtain rfl:=(List.mem_replicate.1 hx).2;decide
theorem ZeZ{m:MV}(h:Zft m=true):(0<=m.d/\m.d<=10)/\(1<=m.l.length/\m.l.length<=20)/\Zgg [m.f,m.n,m.c]=true/\Zgg m.l=true:=by
 unfold Zft at h;simp only[Bool.and_eq_true,decide_eq_true_eq]at h;exact⟨⟨h.1.1.1.1.1,h.1.1.1.1.2⟩,⟨h.1.1.1.2,h.1.1.2⟩,h.1.2,h.2⟩
theorem ZaE{m:MV}(h:m.l.length<=55):(ZM m).length=240:=by
 unfold ZM;rw[List.length_append,List.length_replicate,ZhX];omega
theorem Zbu{l:List Int}(h:Zgg l=true){x:Int}(hx:x∈l):Zj x 4=true:=List.all_eq_true.1 h x hx
theorem Zlm{x:Int}(h:Zj x 4=true):0<=x/\x<4294967296:=by
 unfold Zj at h;simp at h;exact h
theorem Zbv(data:List Int)(a s:Int):∀k,(ZgY data a s k).length=k
 | 0=>rfl
 | k+1=>by
  show(ZgY data a s k++_).length=_
  rw[List.length_append,Zbv data a s k];rfl
theorem Zpc(pre suf:List Int){x:Int}{k:Nat}(hk:Zj x (k:Int)=true)(hx : -9223372036854775808<=x/\x<=9223372036854775807):(getR (pre++Zr x k++suf) (pre.length:Int) (k:Int)).1=x:=by
 have hs:ZbP (k:Int)=true:=by
  by_cases hs:ZbP (k:Int)=true
  · exact hs
  · rw[Zd5 (by simpa using hs)]at hk;cases hk
 have h0:=Zqt (l:=pre) hk hx.1 hx.2
 unfold getR at h0 ⊢
 rw[if_pos ⟨hs,by omega⟩]at h0 ⊢;unfold ZhT at h0;rw[if_pos hk,Int.toNat_natCast]at h0;have hl:(pre++Zr x k++suf).length=pre.length+k+suf.length:=by simp[Zc,Nat.add_assoc]
 have hl0:(pre++Zr x k).length=pre.length+k:=by simp[Zc]
 rw[if_neg (by rw[hl0];omega)]at h0;rw[if_neg (by rw[hl];omega)];simp only[Int.toNat_natCast]at h0 ⊢
 have e:((pre++Zr x k++suf).drop pre.length).take k=((pre++Zr x k).drop pre.length).take k:=by
  rw[List.append_assoc,List.drop_left,List.drop_left,List.take_left' (Zc x k),List.take_of_length_le (by rw[Zc];omega)]
 rw[e];exact congrArg Prod.fst h0
theorem Zi3(data pre suf:List Int){x a s:Int}{k:Nat}(hd:data=pre++Zr x k++suf)(ha:a=(pre.length:Int))(hs:s=(k:Int))(hk:Zj x (k:Int)=true)(hx : -9223372036854775808<=x/\x<=9223372036854775807):at_ data a s=x:=by
 subst hd;subst ha;subst hs
 exact Zpc pre suf hk hx
theorem Zi4{x:Int}(h:0<=x/\x<256):Zj x 1=true:=by
 unfold Zj;simp[h]
theorem Zpd(pre suf:List Int):∀(l:List Int),Zgg l=true->∀k,k<=l.length->ZgY (pre++ZS 4 l++suf) (pre.length:Int) 4 k=l.take k:=by
 intro l hf k
 induction k with
 | zero=>intro _;simp[ZgY]
 | succ k ih=>
  intro hk;show ZgY _ _ _ k++[_]=_;rw[ih (by omega),List.take_succ_eq_append_getElem (show k<l.length by omega)]
  congr 2
  have hx:=Zlm (Zbu hf (List.getElem_mem (show k<l.length by omega)));have hr:=Zbu hf (List.getElem_mem (show k<l.length by omega));refine Zi3 _ (pre++ZS 4 (l.take k)) (ZS 4 (l.drop (k+1))++suf) (k:=4) ?_ ?_ rfl hr ⟨by omega,by omega⟩
  · have e:l=l.take k++l[k]::l.drop (k+1):=by rw[<-List.drop_eq_getElem_cons];exact(List.take_append_drop k l).symm
    have e2:ZS 4 l=ZS 4 (l.take k)++(Zr l[k] 4++ZS 4 (l.drop (k+1))):=by
     conv=>lhs;rw[e]
     rw[Zdz];rfl
    rw[e2];simp[List.append_assoc]
  · rw[List.length_append,Zi,List.length_take,Nat.min_eq_left (by omega)];omega
theorem ZnS{m:MV}(h:Zft m=true):ZE (ZM m)=m.l.length/\Zez (ZM m) m.l.length=m:=by
 obtain⟨⟨h1,h2⟩,⟨h3,h4⟩,h5,h6⟩:=ZeZ h;have hf:=Zlm (Zbu h5 (x:=m.f) (by simp));have hn:=Zlm (Zbu h5 (x:=m.n) (by simp));have hc:=Zlm (Zbu h5 (x:=m.c) (by simp));have rf:=Zbu h5 (x:=m.f) (by simp);have rn:=Zbu h5 (x:=m.n) (by simp);have rc:=Zbu h5 (x:=m.c) (by simp)
 have e1:∀x:Int,0<=x/\x<256->Zr x 1 = [x]:=fun x hx=>by
  show Zr (x/256) 0++[x%256] = [x];show []++[x%256] = [x];rw[List.nil_append,Int.emod_eq_of_lt hx.1 hx.2]
 have hbig:ZM m=Za8++Zr m.d 1++(Zr (m.l.length:Int) 1++(Zr m.f 4++(Zr m.n 4++(Zr m.c 4++(ZS 4 m.l++List.replicate (240-(Zbn m).length) 0))))):=by
  unfold ZM Zbn;simp[ZS,List.append_assoc]
 have l1:∀x:Int,(Zr x 1).length=1:=fun x=>Zc x 1
 have l4:∀x:Int,(Zr x 4).length=4:=fun x=>Zc x 4
 refine⟨?_,?_⟩
 · unfold ZE;rw[hbig,e1 m.d (by omega),e1 _ (show 0<=((m.l.length:Nat):Int)/\((m.l.length:Nat):Int)<256 by omega)]
   show(((m.l.length:Nat):Int)).toNat=_
   omega
 · unfold Zez;have c0:at_ (ZM m) 4 1=m.d:=Zi3 _ Za8 _ (k:=1) hbig rfl rfl (Zi4 (by omega)) (by omega);have c1:at_ (ZM m) 6 4=m.f:=Zi3 _ (Za8++Zr m.d 1++Zr (m.l.length:Int) 1) (Zr m.n 4++(Zr m.c 4++(ZS 4 m.l++List.replicate (240-(Zbn m).length) 0))) (k:=4) (by rw[hbig];simp[List.append_assoc]) (by simp[l1,Za8]) rfl rf (by omega);have c2:at_ (ZM m) 10 4=m.n:=Zi3 _ (Za8++Zr m.d 1++Zr (m.l.length:Int) 1++Zr m.f 4) (Zr m.c 4++(ZS 4 m.l++List.replicate (240-(Zbn m).length) 0)) (k:=4) (by rw[hbig];simp[List.append_assoc]) (by simp[l1,l4,Za8]) rfl rn (by omega);have c3:at_ (ZM m) 14 4=m.c:=Zi3 _ (Za8++Zr m.d 1++Zr (m.l.length:Int) 1++Zr m.f 4++Zr m.n 4) (ZS 4 m.l++List.replicate (240-(Zbn m).length) 0) (k:=4) (by rw[hbig];simp[List.append_assoc]) (by simp[l1,l4,Za8]) rfl rc (by omega)
   have c4:ZgY (ZM m) 18 4 m.l.length=m.l:=by
    have:=Zpd (Za8++Zr m.d 1++Zr (m.l.length:Int) 1++Zr m.f 4++Zr m.n 4++Zr m.c 4) (List.replicate (240-(Zbn m).length) 0) m.l h6 m.l.length (ZZe _)
    rw[List.take_of_length_le (ZZe _)]at this;have e:(Za8++Zr m.d 1++Zr (m.l.length:Int) 1++Zr m.f 4++Zr m.n 4++Zr m.c 4).length=18:=by simp[l1,l4,Za8]
    rw[e]at this;have e2:Za8++Zr m.d 1++Zr (m.l.length:Int) 1++Zr m.f 4++Zr m.n 4++Zr m.c 4++ZS 4 m.l++List.replicate (240-(Zbn m).length) 0=ZM m:=by rw[hbig];simp[List.append_assoc]
    rw[e2]at this;exact this
   rw[c0,c1,c2,c3,c4]
theorem Zmt{m:MV}(h:Zft m=true):Zi1 (ZM m)/\Zbo (ZM m)=(m,0):=by
 obtain⟨e1,e2⟩:=ZnS h;have hm:Zi1 (ZM m):=⟨ZaE (by have:=(ZeZ h).2.1.2;omega),by rw[e1,e2];exact h,by rw[e1,e2]⟩
 refine⟨hm,?_⟩;unfold Zbo;rw[if_pos hm,e1,e2]
end Go.Proofs.YtlmkdmdbpopnhaaGreatDoor
