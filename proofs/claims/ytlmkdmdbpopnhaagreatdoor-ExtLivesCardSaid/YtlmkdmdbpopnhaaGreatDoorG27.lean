/- AppB, DirE. Conditions: in each theorem. -/
import Derived.Test.YtlmkdmdbpopnhaaGreatDoorG1
import Derived.Test.YtlmkdmdbpopnhaaGreatDoorG2
import Derived.Test.YtlmkdmdbpopnhaaGreatDoorG16
import Derived.Test.YtlmkdmdbpopnhaaGreatDoorG21
import Derived.Test.YtlmkdmdbpopnhaaGreatDoorG14
import Derived.Lib.AppendZerosOnto
import Derived.Maps.AppendAt
import Derived.Deep.RegionHeld3
set_option maxHeartbeats 6400000
set_option maxRecDepth 100000
set_option linter.unusedVariables false
open Go.Proofs.Tryz
open Go.Lib (hid)
namespace Go.Proofs.YtlmkdmdbpopnhaaGreatDoor
open Go.RowKit
theorem PutNil_any(x:Int)(k:Nat)(w:World)(hs:Zj x (k:Int)=true)(hk8:k<=8)(hx : -9223372036854775808<=x/\x<=9223372036854775807) :
 Calls prog 196 #[.slice none 0 0,.int .i64 x,.int .i64 (k:Int)] w fun e w'=>∃g,e=.returned (.slice (some ⟨g,0,none⟩) k k)/\w.heap.size<=g/\w'.heap[g]?=some (.cells ((Zr x k).map (Value.int .u8)).toArray 5 (0,0))/\Below w.heap.size w w':=by
 refine(ZhU none 0 0 0 [] x (k:Int) w RB.nil_ (Nat.zero_le _) (ZZe _) (by decide) hx.1 hx.2).mono ?_;rintro e w'⟨v,rfl,⟨g,rfl,hg,hh⟩,hb⟩
 have e1:ZhT [] x (k:Int)=Zr x k:=by
  unfold ZhT;rw[if_pos hs,Int.toNat_natCast,List.nil_append]
 rw[e1]at hh;exact⟨g,by rw[e1,Zc],hg,hh,hb⟩
theorem row_src{w:World}{g:Nat}{l:List Int}(h:w.heap[g]?=some (.cells (l.map (Value.int .u8)).toArray 5 (0,0))):∀j v,(l.map (Value.int .u8))[j]?=some v->w.cell? ((⟨g,0,none⟩:Addr).add j)=some v:=by
 intro j v hv;rw[ZdL,Nat.zero_add,cell_of_row w g j _ _ (0,0) h,List.getElem?_toArray];exact hv
def Zaq(S:DS)(L:List (Int×List Int))(d:Int)(k:Nat)(l:List Int)(slot page:Int):Int×List (Int×List Int):=
 if okD d k slot=true/\(0<=page/\page<4294967296)then
  (if(Zn S L (ownD l slot)).2=0 then
   (Za4 S (ownD l slot) (splice (Zn S L (ownD l slot)).1 ((slot%60).toNat*4) (Zr page 4)),Zcf S L (ownD l slot) (splice (Zn S L (ownD l slot)).1 ((slot%60).toNat*4) (Zr page 4)))
  else((Zn S L (ownD l slot)).2,L))
 else(1,L)
theorem ZcG(x:Int):Zj x 4=decide (0<=x/\x<4294967296):=by
 unfold Zj;simp
section
variable{S:DS}{L:List (Int×List Int)}{d:Int}{k:Nat}{l:List Int}{slot page:Int}
theorem Zn0(h:¬(okD d k slot=true/\(0<=page/\page<4294967296))):Zaq S L d k l slot page=(1,L):=by
 unfold Zaq;rw[if_neg h]
theorem Zmy(h:okD d k slot=true/\(0<=page/\page<4294967296))(he:¬(Zn S L (ownD l slot)).2=0):Zaq S L d k l slot page=((Zn S L (ownD l slot)).2,L):=by
 unfold Zaq;rw[if_pos h,if_neg he]
theorem Zgl(h:okD d k slot=true/\(0<=page/\page<4294967296))(he:(Zn S L (ownD l slot)).2=0):Zaq S L d k l slot page=(Za4 S (ownD l slot) (splice (Zn S L (ownD l slot)).1 ((slot%60).toNat*4) (Zr page 4)),Zcf S L (ownD l slot) (splice (Zn S L (ownD l slot)).1 ((slot%60).toNat*4) (Zr page 4))):=by
 unfold Zaq;rw[if_pos h,if_pos he]
end
section
variable{D:World->(Nat->Prop)->Addr->DS->Prop}{w w':World}{F O:Nat->Prop}{p:Addr}{S:DS}{q r b:Nat}{seq:Int}{L:List (Int×List Int)}
theorem Zhi(api:Zb D)(h:ZaN D w F O p S q seq r b L)(ht:Zdf w F)(hlen:∀i,(Zn S L i).2=0->(Zn S L i).1.length=240)(d f n c:Int){A:Option Addr}{k cap B:Nat}{l:List Int}(slot page:Int)(hpg : -9223372036854775808<=page/\page<=9223372036854775807)(hr:RI w B A k l)(hB:B<=w.heap.size)(hk:k<=cap)(hkm:k<=maxLen) :
 Calls prog 156 #[.pointer (some ⟨r,0,none⟩),.agg #[.int .i64 d,.int .i64 f,.int .i64 n,.int .i64 c,.slice A k cap],.int .i64 slot,.int .i64 page] w fun e w'=>e=.returned (.int .i64 (Zaq S L d k l slot page).1)/\∃O',ZaN D w' F O' p S q seq r b (Zaq S L d k l slot page).2/\Zf O w w'/\∀k,O' k->O k∨w.heap.size<=k:=by
 have hX:Below w.heap.size w (w.alloc (.cells #[.int .i64 d,.int .i64 f,.int .i64 n,.int .i64 c,.slice A k cap] 41)):=(Below.refl _ _).alloc (ZZe _) _;have HX:=hid hX;have HBX:=hid (ZiX.new w d f n c (.slice A k cap));obtain⟨z0,z1,z2,z3,z4,_⟩:=HBX.out.cells;have HH:=hid (Zhc d f n c A k cap slot (w.alloc (.cells #[.int .i64 d,.int .i64 f,.int .i64 n,.int .i64 c,.slice A k cap] 41)) hkm);have HPG:=hid (ZZg h ht);have HR:=hid hr;have HLN:=hid hlen;have HRT:=hid (fun w1=>Zf0 page 4 w1);have HBT:=hid (fun(w1:World) (hb:Below w.heap.size w w1)=>(⟨hb.os,hb.tape,hb.output,hb.size,fun k hk _=>hb.block k hk⟩:Zf O w w1));rw[ZcG]at HRT;clear h ht hr hlen hX;by_cases hok2:okD d k slot=true/\(0<=page/\page<4294967296)
 case neg=>
  rw[Zn0 hok2]
  cases hok:okD d k slot with
  | false=>
   rw[hok]at HH;clear hok hok2;go_enter func156,ntmps156;go_wp2_with fail;refine HH.out.mono ?_;rintro e w1⟨rfl,hb1⟩;have HE:=hid (HX.out.trans (hb1.mono HX.out.size));clear hb1;go_wp2;go_ret;exact⟨rfl,O,HPG.out.1.below api HE.out,HBT.out _ HE.out,fun k hk=>.inl hk⟩
  | true=>
   rw[hok]at HH;rw[decide_eq_false (fun hh=>hok2 ⟨hok,hh⟩)]at HRT;clear hok hok2;go_enter func156,ntmps156;go_wp2_with fail;refine HH.out.mono ?_;rintro e w1⟨rfl,hb1⟩;have HE:=hid (HX.out.trans (hb1.mono HX.out.size));clear hb1;go_wp2_with fail;refine(HRT.out _).mono ?_;rintro e w2⟨rfl,rfl⟩;go_wp2;go_ret;exact⟨rfl,O,HPG.out.1.below api HE.out,HBT.out _ HE.out,fun k hk=>.inl hk⟩
 have hok:=hok2.1;rw[decide_eq_true hok2.2]at HRT;rw[hok]at HH;have HPF:=hid (fun w1 (hb:Below w.heap.size w w1)=>Zdy d f n c (cap:=cap) (HR.out.below (hb.mono hB)) (ZZf hB hb.size) hk hok);have HRG:=hid (RI.range HR.out (slot/60).toNat);by_cases he:(Zn S L (ownD l slot)).2=0
 case neg=>
  rw[Zmy hok2 he];have HG:=hid (fun w2 (hb:Below w.heap.size w w2)=>Zer api (HPG.out.1.below api hb) (HPG.out.2.below hb) (ownD l slot) (RI.range HR.out _));generalize (Zn S L (ownD l slot)).2=er at *;generalize (Zn S L (ownD l slot)).1=pg at *;have k1:(er != 0)=true:=by simpa using he
  clear hok he hok2;generalize ownD l slot=own at HG HPF;generalize (slot%60).toNat*4=at4 at HPF;go_enter func156,ntmps156;go_wp2_with fail;refine HH.out.mono ?_;rintro e w1⟨rfl,hb1⟩;have HB1:=hid (HX.out.trans (hb1.mono HX.out.size));have HP:=hid (HPF.out w1 HB1.out);obtain⟨y0,y1,y2,y3,y4,_⟩:=(HBX.out.below hb1).cells;clear hb1 z0 z1 z2 z3 z4;go_wp2_with fail;refine(HRT.out _).mono ?_;rintro e w2⟨rfl,rfl⟩;go_wp2_with fail;refine HP.out.mono ?_;rintro e w2⟨rfl,hb2⟩;have HB2:=hid (HB1.out.trans (hb2.mono HB1.out.size));clear hb2 y0 y1 y2 y3 y4 HP;go_wp2_with fail;refine(HG.out w2 HB2.out).mono ?_;rintro e w3⟨A3,n3,c3,rfl,hc3,hr3,hb3⟩;have HB3:=hid (HB2.out.trans (hb3.mono HB2.out.size));clear hr3 hb3 hc3;go_wp2;go_ret;exact⟨rfl,O,HPG.out.1.below api HB3.out,HBT.out _ HB3.out,fun k hk=>.inl hk⟩
 rw[Zgl hok2 he];have hl:=HLN.out _ he;have HG:=hid (fun w2 (hb:Below w.heap.size w w2)=>Zpb api (HPG.out.1.below api hb) (HPG.out.2.below hb) (ownD l slot) (RI.range HR.out _));have HL:=hid hl;rw[he]at HG;have HRB:=hid (show Zj page ((4:Nat):Int)=true from(ZcG page).trans (decide_eq_true hok2.2));obtain⟨_,t,_,e60,_,ht60,_⟩:=ZhV hok;have hat4:(slot%60).toNat*4<=236:=by omega
 have HOWR:=hid (show -9223372036854775808<=ownD l slot/\ownD l slot<=9223372036854775807 from HRG.out);clear hok he hl hok2 e60 HRG ht60 t;generalize (Zn S L (ownD l slot)).1=pg at *;generalize ownD l slot=own at HG HPF HOWR ⊢;generalize (slot%60).toNat*4=at4 at HPF hat4 ⊢;have HNW:=hid (show(splice pg at4 (Zr page 4)).length=240 from by rw[length_splice _ _ _ (by rw[Zc,HL.out];omega)];exact HL.out);have hsp:∀(tl:List Value),splice ((pg.map (Value.int .u8))++tl) at4 ((Zr page 4).map (Value.int .u8))=((splice pg at4 (Zr page 4)).map (Value.int .u8))++tl:=fun tl=>ZeV (by rw[Zc,HL.out];omega)
 have HSP:=hid hsp
 have hby:∀x∈splice pg at4 (Zr page 4),x∈pg∨x∈Zr page 4:=fun x hx=>by
  unfold splice at hx;rcases List.mem_append.1 hx with a|a
  · exact .inl (List.mem_of_mem_take a)
  · rcases List.mem_append.1 a with a|a
    · exact .inr a
    · exact .inl (List.mem_of_mem_drop a)
 have HBY:=hid hby;clear hsp hby;generalize splice pg at4 (Zr page 4)=npg at *;go_enter func156,ntmps156;go_wp2_with fail;refine HH.out.mono ?_;rintro e w1⟨rfl,hb1⟩;have HB1:=hid (HX.out.trans (hb1.mono HX.out.size));have HP:=hid (HPF.out w1 HB1.out);obtain⟨y0,y1,y2,y3,y4,_⟩:=(HBX.out.below hb1).cells;clear hb1 z0 z1 z2 z3 z4;go_wp2_with fail;refine(HRT.out _).mono ?_;rintro e w2⟨rfl,rfl⟩;go_wp2_with fail;refine HP.out.mono ?_;rintro e w2⟨rfl,hb2⟩;have HB2:=hid (HB1.out.trans (hb2.mono HB1.out.size));clear hb2 y0 y1 y2 y3 y4 HP;go_wp2_with fail;refine(HG.out w2 HB2.out).mono ?_;rintro e w3⟨A3,n3,c3,rfl,hc3,hm3,hb3⟩;have HB3:=hid (HB2.out.trans (hb3.mono HB2.out.size));obtain rfl:n3=240:=by rw[<-hm3.rb.len];exact HL.out
 obtain⟨g3,c3',e3,_,hg3⟩:=ZfV hm3.1 (by decide);simp only[Value.slice.injEq]at e3;obtain⟨rfl,_,rfl⟩:=e3;obtain⟨tl,hblk⟩:=Zd2.of_own hm3.1;have HM3:=hid (ZZg hm3.2 hblk);have hg3w:g3<w3.heap.size:=(ZZa.1 hblk).1;have hg3l:w.heap.size<=g3:=ZZf HB2.out.size hg3;have hP3:=hid (HPG.out.1.below api HB3.out);have hwl:=HPG.out.1.lt;have hne:¬(240=at4):=by omega
 have hne2:¬(c3=at4):=by omega
 have hat240:at4<=240:=by omega
 have hatc:at4<=c3:=by omega
 have hI1:(0:Int)<=(at4:Int):=by omega
 have hI2:(at4:Int)<=240:=by omega
 clear hm3 hblk hb3;go_wp2_with fail
 trace "REGION"
 go_region_held3 (fun w'=>True) (exact trivial)
  (first
   | (go_at_call 196;refine(PutNil_any page 4 _ HRB.out (by decide) hpg).mono ?_;rintro e w4 ⟨g4,rfl,hg4,hh4,hb4⟩)
   | (refine Zfo (by rfl) _ _ 55 55 (by rfl) 5 underlying55 ZfJ (some ⟨g3,at4,none⟩) ⟨g4,0,none⟩ (240-at4) (c3-at4) 4 4 (by rfl) (by rfl) g3 at4 rfl (pg.map (Value.int .u8)++tl) 5 ((hb4.block g3 hg3w).trans HM3.out.2) ((Zr page 4).map (Value.int .u8)) (by rw[List.length_map,Zc];exact(Nat.min_eq_left (by omega)).symm) (fun j v hj=>row_src hh4 j v hj) (by rw[List.length_map,List.length_append,List.length_map,Zc,HL.out];omega) (Zai _) ?_;intro w5 hblk5 htc5))
 have hb34:Below w3.heap.size w3 w4:=(Below.refl _ _).drew.trans hb4;have hP4:=hP3.out.below api hb34;have hs4:=hb34.size;have hnO:∀k,O k->k≠g3:=fun k hk e=>by have:=hwl k hk;omega
 have hP5:=hP4.keep api htc5.out.size (fun k hk=>htc5.out.block k (ZZd (hwl k hk) (ZZf HB3.out.size hs4)) (hnO k hk))
 have hrb5:RB w5 w5.heap.size (some ⟨g3,0,none⟩) 240 npg:=by
  have e5:=hblk5.out;rw[HSP.out tl]at e5
  exact Zd2.rb ⟨tl,e5⟩ HNW.out (fun x hx=>by
   rcases HBY.out x hx with a|a
   · exact HM3.out.1 x a
   · exact ZW _ _ x a)
 have HS:=hid (Zlh (c:=c3) api hP5 own HOWR.out hrb5 (ZZe _) (by decide));have HT5:=hid (show Zf O w w5 from⟨htc5.out.os.trans (hb34.os.trans HB3.out.os),htc5.out.tape.trans (hb34.tape.trans HB3.out.tape),htc5.out.output.trans (hb34.output.trans HB3.out.output),ZZf HB3.out.size (ZZf hs4 htc5.out.size),fun k hk _=>(htc5.out.block k (by have:=HB3.out.size;omega) (fun e=>by omega)).trans ((hb34.block k (ZZd hk HB3.out.size)).trans (HB3.out.block k hk))⟩);clear hP3 hP4 hP5 hrb5 hblk5 htc5 hb34 hb4 hh4 hnO hs4 hg4;go_wp2_with fail;refine HS.out.mono ?_;rintro e w6⟨rfl,O6,h6,t6,n6⟩;have HE:=hid (show ∃O',ZaN D w6 F O' p S q seq r b (Zcf S L own npg)/\Zf O w w6/\∀k,O' k->O k∨w.heap.size<=k from⟨O6,h6,⟨t6.os.trans HT5.out.os,t6.tape.trans HT5.out.tape,t6.output.trans HT5.out.output,ZZf HT5.out.size t6.size,fun k hk hn=>(t6.block k (ZZd hk HT5.out.size) hn).trans (HT5.out.block k hk hn)⟩,fun k hk=>(n6 k hk).imp id (fun a=>ZZf HT5.out.size a)⟩);clear h6 t6 n6 HS;go_wp2;go_ret;exact⟨rfl,HE.out⟩
end
end Go.Proofs.YtlmkdmdbpopnhaaGreatDoor
