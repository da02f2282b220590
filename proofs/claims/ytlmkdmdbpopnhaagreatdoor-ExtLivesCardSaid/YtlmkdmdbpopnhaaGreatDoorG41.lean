/- GenM, ExvA, Bcmp, SortP, ExvB, ExvC. Conditions: in each theorem. -/
import Derived.Test.YtlmkdmdbpopnhaaGreatDoorG17
import Derived.Test.YtlmkdmdbpopnhaaGreatDoorG18
import Derived.Test.YtlmkdmdbpopnhaaGreatDoorG40
import Derived.Test.YtlmkdmdbpopnhaaGreatDoorG21
import Derived.Lib.BytesEntry
import Derived.Laws.Externs
import Derived.Lib.Walk
import Derived.Lib.Strings
import Derived.Lib.Slices
import Derived.Laws.Strings3
import Derived.Shelf.SlSortCmp.WholeK
import Derived.Shelf.SlSortCmp.NoneTotal
import Derived.Test.YtlmkdmdbpopnhaaGreatDoorProg
import Derived.Deep.OwnRows
set_option maxHeartbeats 800000
set_option maxRecDepth 100000
set_option linter.unusedVariables false
open Go.Proofs.Tryz
open Go.Lib (hid)
namespace Go.Proofs.YtlmkdmdbpopnhaaGreatDoor
open Go.RowKit
section
variable{β:Type}{R:World->(Nat->Prop)->List Value->β->Prop}{e:TypeId}{size:Nat}{w w':World}{Y Y':Nat->Prop}{base:Nat}{v:Value}{l:List β}
theorem ZbL.appendM(K:Zko R)(h:ZbL R e size w Y base v l){t ty:TypeId}{i0:TypeInfo}{z:Value}{bytes:Nat}(ht:prog.underlying t=some (.slice e))(hi:prog.info? e=some i0)(hz0:i0.zero=some z)(hz1:i0.size=size)(hz2:i0.bytes=bytes)(hzc:z.cells.size=size)(hsz:0<size)(hby:bytes<=64)
 {xs:List β} {us:List Value} {ad:Addr} {c:Nat} (hul:us.length=xs.length*size) (hcell:∀j u,us[j]?=some u->w.cell? (ad.add j)=some u) (h1:∀u∈us,u.oneCell'=true) (hu:∀(i:Nat) (x:β),xs[i]?=some x->R w Y ((us.drop (i*size)).take size) x) (hn:l.length<=1073741824) (hm:xs.length<=1073741824) (hbase:base<=w.heap.size) :
 ∃v' w',(Builtin.append_ #[t,t] ty #[v,.slice (some ad) xs.length c]).run prog w=.ok v' w'/\ZbL R e size w' (fun k=>Y k∨v'.ownBlock=some k) base v' (l++xs)/\w.grownBy w' v.ownBlock/\(v'.ownBlock=v.ownBlock∨v'.ownBlock=some w.heap.size):=by
 obtain⟨vs,hown,hvs⟩:=h.row;have hvl:vs.length=l.length*size:=hown.1;have hlen:(l++xs).length=l.length+xs.length:=by simp
 obtain⟨v',w',hrun,h2,h3,_,h4⟩:=run_append_own_at (P:=prog) w base t ty e i0 z size bytes ht hi hz0 hz1 hz2 hzc hsz v l.length vs hown ad xs.length c us hul hcell h1 (by unfold maxLen;omega) (by
  have:(l.length+xs.length)*bytes<=(l.length+xs.length)*64:=Nat.mul_le_mul_left _ hby
  omega) hbase
 have hwk:∀k,k<w.heap.size->¬Y k->w'.heap[k]?=w.heap[k]?:=fun k hk hy=>h3.block k hk (fun e=>hy (h.own k e.symm))
 have far:∀{us:List Value} {y:β},R w Y us y->R w' (fun k=>Y k∨v'.ownBlock=some k) us y:=fun hr=>K hr h3.size (fun k hk hy hh=>by
  rcases hh with a|a
  · exact hy a
  · rcases h4 with q|q
    · rw[q]at a;exact hy (h.own k a)
    · rw[q]at a;injection a with a;omega) hwk
 refine⟨v',w',hrun,⟨⟨vs++us,by rw[hlen];exact h2,fun i y hy=>?_⟩,fun r hr=>.inr hr⟩,h3,h4⟩;rcases Nat.lt_or_ge i l.length with hi'|hi'
 · rw[List.getElem?_append_left hi']at hy
   have hle:i*size+size<=l.length*size:=by
    have:=Nat.mul_le_mul_right size (show i+1<=l.length from hi')
    rwa[Nat.add_mul,Nat.one_mul]at this
   rw[List.drop_append_of_le_length (by omega),List.take_append_of_le_length (by rw[List.length_drop];omega)];exact far (hvs i y hy)
 · rw[List.getElem?_append_right hi']at hy;obtain⟨d,rfl⟩:∃d,i=l.length+d:=⟨i-l.length,by omega⟩
   rw[Nat.add_sub_cancel_left]at hy
   have e1:(vs++us).drop ((l.length+d)*size)=us.drop (d*size):=by
    rw[Nat.add_mul,<-hvl,<-List.drop_drop,List.drop_left]
   rw[e1];exact far (hu d y hy)
end
def Zcx(w:World)(Y:Nat->Prop)(us:List Value)(x:KV):Prop:=
 ∃(ka:Option Addr) (kn kc:Nat) (va:Option Addr) (vn vc:Nat),us = [.slice ka kn kc,.slice va vn vc]/\BIn w Y ka kn x.1/\(kn<=kc/\kn<=maxLen)/\BIn w Y va vn x.2/\(vn<=vc/\vn<=maxLen)
theorem Za7:Zko Zcx:=by
 intro w w' Y Y' us x h hs hY hk;obtain⟨ka,kn,kc,va,vn,vc,e,h1,h2,h3,h4⟩:=h;exact⟨ka,kn,kc,va,vn,vc,e,h1.grow hs hk hY,h2,h3.grow hs hk hY,h4⟩
theorem ZmR:(prog.info? 65).map (fun i=>(i.zero,i.size,i.bytes))=some (some (.agg #[.slice none 0 0,.slice none 0 0]),2,48):=by kernel_rfl
section
variable{w w':World}{Y Y':Nat->Prop}{base n c:Nat}{v:Value}{l ps:List KV}{A:Option Addr}
theorem ZbL.addPairs(h:ZbL Zcx 65 2 w Y base v l)(hs:Zp w Y A n ps)(hl:l.length<=1073741824)(hn:n<=1073741824)(hbase:base<=w.heap.size)(ty:TypeId) :
 ∃v' w',(Builtin.append_ #[31,31] ty #[v,.slice A n c]).run prog w=.ok v' w'/\ZbL Zcx 65 2 w' (fun k=>Y k∨v'.ownBlock=some k) base v' (l++ps)/\w.grownBy w' v.ownBlock/\(v'.ownBlock=v.ownBlock∨v'.ownBlock=some w.heap.size):=by
 obtain⟨i0,hi,hz0,hz1,hz2⟩:=info_parts ZmR;obtain⟨hpl,hp⟩:=hs.pin;rcases Nat.eq_zero_or_pos n with h0|h0
 · subst h0;obtain rfl:ps = []:=List.eq_nil_of_length_eq_zero hpl;rw[List.append_nil];rcases A with _|ad
   · obtain⟨vs,hown,hvs⟩:=h.row
     exact⟨v,w,Zbh (P:=prog) (w:=w) base 31 ty 65 i0 2 underlying31 hi _ _ _ hown c,ZbL.keep (R:=Zcx) Za7 h (ZZe _) (fun k hk hy hy'=>by
      rcases hy' with a|a
      · exact hy a
      · exact hy (h.own k a)) (fun _ _ _=>rfl) (fun r hr=>⟨rfl,.inr hr⟩),⟨rfl,rfl,rfl,ZZe _,fun _ _ _=>rfl⟩,.inl rfl⟩
   · have:=ZbL.appendM (R:=Zcx) Za7 h (t:=31) (ty:=ty) underlying31 hi hz0 hz1 hz2 rfl (by decide) (by decide) (xs:=[]) (us:=[]) (ad:=ad) (c:=c) rfl (fun j u hj=>by simp at hj) (fun u hu=>by cases hu) (fun i x hx=>by simp at hx) hl (by decide) hbase
     rw[List.append_nil]at this;exact this
 · obtain⟨b,off,rfl,hb,hYb,hall⟩:=hp h0
   have hget:∀(i:Nat) (x:KV),ps[i]?=some x->∃us,Zcx w Y us x/\w.cell? ⟨b,off+i*2,none⟩=us[0]?/\w.cell? ⟨b,off+i*2+1,none⟩=us[1]?:=fun i x hx=>by
    obtain⟨ka,kn,kc,va,vn,vc,c0,c1,r1,b1,r2,b2⟩:=hall i x hx;exact⟨_,⟨ka,kn,kc,va,vn,vc,rfl,r1,b1,r2,b2⟩,c0,c1⟩
   obtain⟨us,hul,hup⟩:∃us:List Value,us.length=ps.length*2/\∀(i:Nat) (x:KV),ps[i]?=some x->Zcx w Y ((us.drop (i*2)).take 2) x/\w.cell? ⟨b,off+i*2,none⟩=us[i*2]?/\w.cell? ⟨b,off+i*2+1,none⟩=us[i*2+1]?:=by
    clear hall hs hpl h0 hp hi hz0 hz1 hz2;induction ps generalizing off with
    | nil=>exact⟨[],rfl,fun i x hx=>by simp at hx⟩
    | cons y r ih=>
     obtain⟨u0,p0,q0,q1⟩:=hget 0 y rfl
     obtain⟨us,hul,hup⟩:=ih (off:=off+2) (fun i x hx=>by
      have:=hget (i+1) x (by simpa using hx)
      rwa[show off+(i+1)*2=off+2+i*2 by omega]at this)
     obtain⟨ka,kn,kc,va,vn,vc,rfl,r1,b1,r2,b2⟩:=p0;refine⟨.slice ka kn kc :: .slice va vn vc::us,by simp only[List.length_cons,hul];omega,fun i x hx=>?_⟩;cases i with
     | zero=>
      obtain rfl:y=x:=by simpa using hx
      exact⟨⟨ka,kn,kc,va,vn,vc,rfl,r1,b1,r2,b2⟩,q0,q1⟩
     | succ i=>
      obtain⟨a1,a2,a3⟩:=hup i x (by simpa using hx);have e:(i+1)*2=i*2+1+1:=by omega
      rw[e];refine⟨a1,?_,?_⟩
      · rw[show off+(i*2+1+1)=off+2+i*2 by omega];exact a2
      · rw[show off+(i*2+1+1)+1=off+2+i*2+1 by omega];exact a3
   rw[<-hpl];refine ZbL.appendM (R:=Zcx) Za7 h underlying31 hi hz0 hz1 hz2 rfl (by decide) (by decide) (us:=us) hul (fun j u hj=>?_) (fun u hu=>?_) (fun i x hx=>(hup i x hx).1) hl (by omega) hbase
   · have hjl:=(ZZb.1 hj).1;obtain⟨x,hx⟩:∃x,ps[j/2]?=some x:=⟨_,ZZc (by omega)⟩
     obtain⟨_,a2,a3⟩:=hup _ x hx;have ea:Addr.add ⟨b,off,none⟩ j=⟨b,off+j,none⟩:=by unfold Addr.add;split <;> simp_all
     rw[ea];have h2:j=j/2*2∨j=j/2*2+1:=by omega
     rcases h2 with e|e
     · rw[<-hj,show w.cell? ⟨b,off+j,none⟩=w.cell? ⟨b,off+j/2*2,none⟩ by rw[<-e],a2,<-e]
     · rw[<-hj,show w.cell? ⟨b,off+j,none⟩=w.cell? ⟨b,off+j/2*2+1,none⟩ by rw[show off+j/2*2+1=off+j by omega],a3,<-e]
   · obtain⟨j,hj⟩:=List.mem_iff_getElem?.1 hu;have hjl:=(ZZb.1 hj).1;obtain⟨x,hx⟩:∃x,ps[j/2]?=some x:=⟨_,ZZc (by omega)⟩
     obtain⟨⟨ka,kn,kc,va,vn,vc,e3,_⟩,_,_⟩:=hup _ x hx
     have g0:us[j/2*2]?=some (.slice ka kn kc):=by
      have:((us.drop (j/2*2)).take 2)[0]?=some (.slice ka kn kc):=by rw[e3];rfl
      rw[List.getElem?_take,if_pos (by decide),List.getElem?_drop]at this;simpa using this
     have g1:us[j/2*2+1]?=some (.slice va vn vc):=by
      have:((us.drop (j/2*2)).take 2)[1]?=some (.slice va vn vc):=by rw[e3];rfl
      rw[List.getElem?_take,if_pos (by decide),List.getElem?_drop]at this;simpa using this
     have h2:j/2*2=j∨j/2*2+1=j:=by omega
     rcases h2 with e|e
     · rw[e,hj]at g0;cases g0;rfl
     · rw[e,hj]at g1;cases g1;rfl
end
theorem Zcy:∀(x y:Txt),Lib.compareBytes x y<0↔x<y
 | [],[]=>by simp[Lib.compareBytes]
 | [],_::_=>by simp[Lib.compareBytes]
 | _::_,[]=>by simp[Lib.compareBytes]
 | a::x,b::y=>by
  unfold Lib.compareBytes;rw[List.cons_lt_cons_iff];by_cases h1:a<b
  · simp[h1]
  · by_cases h2:b<a
    · have h3:¬a=b:=fun e=>by subst e;exact absurd h2 (UInt8.lt_irrefl _)
      simp[h1,h2,h3]
    · have h3:a=b:=UInt8.le_antisymm (UInt8.not_lt.1 h2) (UInt8.not_lt.1 h1);subst h3;simp[h1,Zcy x y]
theorem ZpG{w:World}{B B' n m:Nat}{A A':Option Addr}{l l':List Int}(c d:Nat)(h:RB w B A n l)(h':RB w B' A' m l') :
 (Extern.BytealgCompare.compare #[.slice A n c,.slice A' m d]).run prog w=.ok (.int .i64 (Lib.compareBytes (tx l) (tx l'))) w:=by
 have key:∀{B n:Nat} {A:Option Addr} {l:List Int} (c:Nat),RB w B A n l->(Extern.Bytes.bytesOf (.slice A n c)).run prog w=.ok ⟨(tx l).toArray⟩ w:=by
  intro B n A l c h;rcases Nat.eq_zero_or_pos n with h0|h0
  · subst h0;obtain rfl:l = []:=List.eq_nil_of_length_eq_zero h.len
    cases A <;> rfl
  · obtain⟨b,off,rfl,_,hc⟩:=h.at_ h0
    have hl:=Lib.run_loadBytesX (P:=prog) w l ⟨b,off,none⟩ .empty (fun j x hj=>by
     have hjl:j<l.length:=(ZZb.1 hj).1;have e:(⟨b,off,none⟩:Addr).add j=⟨b,off+j,none⟩:=by unfold Addr.add;split <;> simp_all
     rw[e,hc j (by rw[<-h.len];exact hjl),hj]
     rfl)
    rw[h.len]at hl
    have he:(⟨ByteArray.empty.data++(Lib.bytesOf l).toArray⟩:ByteArray)=⟨(tx l).toArray⟩:=by
     apply ByteArray.ext
     show(#[]:Array UInt8)++(Lib.bytesOf l).toArray=(tx l).toArray
     simp[Lib.bytesOf,tx]
    rw[he]at hl;exact hl
 change Sem.run prog (do pure (goInt (Extern.BytealgCompare.cmp (<-Extern.Bytes.bytesOf (.slice A n c)) (<-Extern.Bytes.bytesOf (.slice A' m d))))) w=_;simp only[Sem.run_bind,Sem.run_pure,key c h,key d h',Result.andThen];rw[Lib.cmp_eq];simp[goInt]
theorem ZpH{w:World}{B B' n m:Nat}{A A':Option Addr}{l l':List Int}(c d:Nat)(h:RB w B A n l)(h':RB w B' A' m l') :
 Calls prog 55 #[.slice A n c,.slice A' m d] w fun e w'=>e=.returned (.int .i64 (Lib.compareBytes (tx l) (tx l')))/\w=w':=by
 have hr:=hid (ZpG c d h h');clear h h';generalize Lib.compareBytes (tx l) (tx l')=r at hr ⊢;go_enter func55,ntmps55;go_wp2_with fail;rw[run_callFunc_extern func111 (by kernel_rfl) (by kernel_rfl) (by kernel_rfl) (e:=Extern.BytealgCompare.compare) (by kernel_rfl),hr.out];simp only[Result.andThen];rw[Oper.upon_value];go_wp2;go_ret;exact⟨rfl,rfl⟩
end Go.Proofs.YtlmkdmdbpopnhaaGreatDoor
namespace Go.Proofs
open Go.Shelf
def Tryz.sortP_ren:Go.Shelf.Ren:=⟨fun|6=>53|15=>66|14=>110|28=>127|29=>128|20=>176|21=>177|22=>178|23=>179|24=>180|25=>181|26=>182|27=>183|46=>224|47=>190|48=>191|49=>225|50=>226|57=>245|n=>n,fun|22=>31|24=>65|25=>107|3=>3|39=>114|0=>0|53=>119|55=>189|4=>4|46=>180|45=>179|50=>185|5=>5|9=>9|66=>234|70=>238|76=>255|77=>162|n=>n,fun|n=>n⟩
theorem Tryz.sortP:Go.Proofs.SlLaysF0.n6 prog Tryz.sortP_ren:={
 mixed:=by kernel_rfl
 f6:=⟨Tryz.f53.name,by decide,func53.trans (congrArg some (by kernel_rfl))⟩
 f14:=⟨Tryz.f110.name,by decide,func110.trans (congrArg some (by kernel_rfl))⟩
 f15:=func66.trans (congrArg some (by kernel_rfl))
 f20:=⟨Tryz.f176.name,by decide,func176.trans (congrArg some (by kernel_rfl))⟩
 f21:=⟨Tryz.f177.name,by decide,func177.trans (congrArg some (by kernel_rfl))⟩
 f22:=⟨Tryz.f178.name,by decide,func178.trans (congrArg some (by kernel_rfl))⟩
 f23:=⟨Tryz.f179.name,by decide,func179.trans (congrArg some (by kernel_rfl))⟩
 f24:=⟨Tryz.f180.name,by decide,func180.trans (congrArg some (by kernel_rfl))⟩
 f25:=⟨Tryz.f181.name,by decide,func181.trans (congrArg some (by kernel_rfl))⟩
 f26:=⟨Tryz.f182.name,by decide,func182.trans (congrArg some (by kernel_rfl))⟩
 f27:=⟨Tryz.f183.name,by decide,func183.trans (congrArg some (by kernel_rfl))⟩
 f28:=func127.trans (congrArg some (by kernel_rfl))
 f29:=func128.trans (congrArg some (by kernel_rfl))
 f46:=⟨Tryz.f224.name,by decide,func224.trans (congrArg some (by kernel_rfl))⟩
 f47:=func190.trans (congrArg some (by kernel_rfl))
 f48:=func191.trans (congrArg some (by kernel_rfl))
 f49:=⟨Tryz.f225.name,by decide,func225.trans (congrArg some (by kernel_rfl))⟩
 f50:=⟨Tryz.f226.name,by decide,func226.trans (congrArg some (by kernel_rfl))⟩
 f57:=⟨Tryz.f245.name,by decide,func245.trans (congrArg some (by kernel_rfl))⟩
 t0:=underlying0
 a0:=Tryz.isAgg0
 z0:=Tryz.sizeOf0
 v0:=Tryz.zeroValue0
 t3:=underlying3
 a3:=Tryz.isAgg3
 z3:=Tryz.sizeOf3
 v3:=Tryz.zeroValue3
 t4:=underlying4
 a4:=Tryz.isAgg4
 z4:=Tryz.sizeOf4
 v4:=Tryz.zeroValue4
 t5:=underlying5
 a5:=Tryz.isAgg5
 z5:=Tryz.sizeOf5
 v5:=Tryz.zeroValue5
 t9:=underlying9
 a9:=Tryz.isAgg9
 z9:=Tryz.sizeOf9
 v9:=Tryz.zeroValue9
 t22:=underlying31
 a22:=Tryz.isAgg31
 z22:=Tryz.sizeOf31
 v22:=Tryz.zeroValue31
 t25:=underlying107
 a25:=Tryz.isAgg107
 z25:=Tryz.sizeOf107
 v25:=Tryz.zeroValue107
 t39:=underlying114
 a39:=Tryz.isAgg114
 z39:=Tryz.sizeOf114
 v39:=Tryz.zeroValue114
 t45:=underlying179
 a45:=Tryz.isAgg179
 z45:=Tryz.sizeOf179
 v45:=Tryz.zeroValue179
 t46:=underlying180
 a46:=Tryz.isAgg180
 z46:=Tryz.sizeOf180
 v46:=Tryz.zeroValue180
 t50:=underlying185
 a50:=Tryz.isAgg185
 z50:=Tryz.sizeOf185
 v50:=Tryz.zeroValue185
 t53:=underlying119
 a53:=Tryz.isAgg119
 z53:=Tryz.sizeOf119
 v53:=Tryz.zeroValue119
 t55:=underlying189
 a55:=Tryz.isAgg189
 z55:=Tryz.sizeOf189
 v55:=Tryz.zeroValue189
 t66:=underlying234
 a66:=Tryz.isAgg234
 z66:=Tryz.sizeOf234
 v66:=Tryz.zeroValue234
 t70:=underlying238
 a70:=Tryz.isAgg238
 z70:=Tryz.sizeOf238
 v70:=Tryz.zeroValue238
 t76:=underlying255
 a76:=Tryz.isAgg255
 z76:=Tryz.sizeOf255
 v76:=Tryz.zeroValue255
 t77:=underlying162
 a77:=Tryz.isAgg162
 z77:=Tryz.sizeOf162
 v77:=Tryz.zeroValue162}
end Go.Proofs
namespace Go.Proofs.YtlmkdmdbpopnhaaGreatDoor
open Go.RowKit Go.Maps Go.Sort Go.Shelf
section
variable{w w':World}{Y:Nat->Prop}{g n cap base:Nat}
theorem ZpI(W:World){A1 A2 B1 B2:Option Addr}{n1 k1 n2 k2 m1 l1 m2 l2 B B':Nat}{x y:List Int}(hx:RB W B A1 n1 x)(hy:RB W B' B1 m1 y)(hB:B<=W.heap.size)(hB':B'<=W.heap.size) :
 Calls prog 54 #[.agg #[.slice A1 n1 k1,.slice A2 n2 k2],.agg #[.slice B1 m1 l1,.slice B2 m2 l2]] W fun e w'=>e=.returned (.int .i64 (Lib.compareBytes (tx x) (tx y)))/\∃q os',w'=grow (W.drewN q) os':=by
 have hb1:Below W.heap.size W (W.alloc (.cells #[.slice A1 n1 k1,.slice A2 n2 k2] 65 (0,0))):=(Below.refl _ _).alloc (ZZe _) _;have hb2:Below W.heap.size W ((W.alloc (.cells #[.slice A1 n1 k1,.slice A2 n2 k2] 65 (0,0))).alloc (.cells #[.slice B1 m1 l1,.slice B2 m2 l2] 65 (0,0))):=hb1.alloc hb1.size _;have HC:=hid (ZpH k1 l1 (hx.below (hb2.mono hB)) (hy.below (hb2.mono hB')));generalize Lib.compareBytes (tx x) (tx y)=r at HC ⊢;clear hx hy hb1 hb2;go_enter func54,ntmps54;go_wp2_with fail;refine HC.out.mono ?_;rintro e w'⟨rfl,rfl⟩;go_wp2;go_ret;exact⟨rfl,0,_,by rw[alloc_eq_grow,alloc_eq_grow,grow_grow];rfl⟩
def SE(w:World)(Y:Nat->Prop):Type:={p:List Value×KV // Zcx w Y p.1 p.2}
theorem Zou(w:World)(Y:Nat->Prop):Zcx w Y [.slice none 0 0,.slice none 0 0] ([],[]):=
 ⟨none,0,0,none,0,0,rfl,⟨RB.nil_,fun a h=>by cases h⟩,⟨ZZe _,Nat.zero_le _⟩,⟨RB.nil_,fun a h=>by cases h⟩,ZZe _,Nat.zero_le _⟩
instance seInh (w:World) (Y:Nat->Prop):Inhabited (SE w Y):=⟨⟨([.slice none 0 0,.slice none 0 0],([],[])),Zou w Y⟩⟩
def ZeR{w:World}{Y:Nat->Prop}(p:SE w Y):List Value:=p.1.1
def kvE{w:World}{Y:Nat->Prop}(p:SE w Y):KV:=p.1.2
def Zrv{w:World}{Y:Nat->Prop}(p q:SE w Y):Int:=Lib.compareBytes (tx (kvE p).1) (tx (kvE q).1)
theorem ZbG(p:SE w Y):(ZeR p).length=2:=by
 obtain⟨ka,kn,kc,va,vn,vc,e,_⟩:=p.2;unfold ZeR;rw[e];rfl
theorem ZrH(w:World)(Y:Nat->Prop):SWO (ltOf (Zrv (w:=w) (Y:=Y))) where
 irrefl x:=by
  have:¬Zrv x x<0:=fun h=>ZaI _ ((Zcy _ _).1 h)
  simp[ltOf,this]
 trans x y z h1 h2:=by
  simp only[ltOf,decide_eq_true_eq]at *;exact(Zcy _ _).2 (ZdH ((Zcy _ _).1 h1) ((Zcy _ _).1 h2))
 ntrans x y z h1 h2:=by
  simp only[ltOf,decide_eq_false_iff_not]at *;intro h3;have h3':=(Zcy _ _).1 h3;rcases tlt_tri (tx (kvE x).1) (tx (kvE y).1)with a|a|a
  · exact h1 ((Zcy _ _).2 a)
  · rw[a]at h3';exact h2 ((Zcy _ _).2 h3')
  · exact h2 ((Zcy _ _).2 (ZdH a h3'))
theorem ZgA{α:Type}[Inhabited α](enc:α->List Value)(k m:Nat)(w:World)(dk:Array α)(os:Array Obj):Zf (fun k=>k=g) w (sortWorldK enc k w g 0 m dk os):=by
 refine⟨rfl,rfl,rfl,by simp[sortWorldK,putRowK,putRow,mapBlock,Sort.ahead,grow],fun j hj hne=>?_⟩
 show(grow (putRow id (Sort.ahead w m) g 0 (flatK enc k dk)) os).heap[j]?=_
 rw[heap_grow_old _ _ (by simpa using hj)]
 have:g≠j:=fun e=>hne e.symm
 simp[putRow,mapBlock,Sort.ahead,Array.getElem?_modify,this]
theorem ZpJ(hY:Y g)(size:Nat):CmpLays prog 54 #[] (ZeR (w:=w) (Y:=Y)) 2 Zrv g 0 size w:=by
 intro m os dk hs x y;have ht:=ZgA (g:=g) (ZeR (w:=w) (Y:=Y)) 2 m w dk os;have hk:∀k,k<w.heap.size->¬Y k->(sortWorldK (ZeR (w:=w) (Y:=Y)) 2 w g 0 m dk os).heap[k]?=w.heap[k]?:=fun k hk hy=>ht.block k hk fun e=>hy (by rw[e];exact hY)
 obtain⟨⟨xv,xk⟩,hx⟩:=x;obtain⟨⟨yv,yk⟩,hy⟩:=y;obtain⟨A1,n1,k1,A2,n2,k2,e1,r1,_⟩:=Za7 hx ht.size (fun _ _ h=>h) hk;obtain⟨B1,m1,l1,B2,m2,l2,e2,r2,_⟩:=Za7 hy ht.size (fun _ _ h=>h) hk;have H:=ZpI (A2:=A2) (n2:=n2) (k2:=k2) (B2:=B2) (m2:=m2) (l2:=l2) (k1:=k1) (l1:=l1) _ r1.1 r2.1 (ZZe _) (ZZe _)
 have ea:(#[Value.agg (ZeR (⟨(xv,xk),hx⟩:SE w Y)).toArray,Value.agg (ZeR (⟨(yv,yk),hy⟩:SE w Y)).toArray] ++ #[]:Array Value) = #[.agg #[.slice A1 n1 k1,.slice A2 n2 k2],.agg #[.slice B1 m1 l1,.slice B2 m2 l2]]:=by
  have e1':xv=_:=e1;have e2':yv=_:=e2;simp[ZeR,e1',e2']
 rw[ea];exact H
theorem ZrD:∀(ps:List KV) (vs:List Value),vs.length=ps.length*2->(∀(a:Nat) (x:KV),ps[a]?=some x->Zcx w Y ((vs.drop (a*2)).take 2) x)->∃ds:List (SE w Y),ds.map kvE=ps/\ds.flatMap ZeR=vs
 | [],vs,hl,_=>⟨[],rfl,(List.eq_nil_of_length_eq_zero (by simpa using hl)).symm⟩
 | x::ps,vs,hl,h=>by
  have h0:=h 0 x rfl;rcases vs with _|⟨v1,_|⟨v2,vs⟩⟩
  · simp at hl
  · simp at hl;omega
  · obtain⟨ds,h1,h2⟩:=ZrD ps vs (by simp at hl;omega) (fun a y hy=>by
     have:=h (a+1) y (by simpa using hy)
     rw[show(a+1)*2=a*2+1+1 by omega]at this
     simpa using this)
    have h0':Zcx w Y [v1,v2] x:=by simpa using h0
    obtain⟨d,hd⟩:∃d:SE w Y,d.1=([v1,v2],x):=⟨⟨([v1,v2],x),h0'⟩,rfl⟩
    refine⟨d::ds,?_,?_⟩
    · rw[List.map_cons,h1];unfold kvE;rw[hd]
    · rw[List.flatMap_cons,h2];unfold ZeR;rw[hd];rfl
theorem Zil:∀(ds:List (SE w Y)) (t:Nat),t<ds.length*2->(ds.flatMap ZeR)[t]?=some ((ZeR (ds.getD (t/2) default))[t%2]!)
 | [],t,h=>by simp at h
 | d::ds,t,h=>by
  rw[List.flatMap_cons];rcases Nat.lt_or_ge t 2 with h2|h2
  · rw[List.getElem?_append_left (by rw[ZbG];exact h2)];have e1:t/2=0:=by omega
    have e2:t%2=t:=by omega
    rw[e1,e2]
    show(ZeR d)[t]?=some ((ZeR d)[t]!)
    rw[ZZc (by rw[ZbG];exact h2),getElem!_pos _ t (by rw[ZbG];exact h2)]
  · have ih:=Zil ds (t-2) (by rw[List.length_cons]at h;omega);rw[List.getElem?_append_right (by rw[ZbG];exact h2),ZbG,ih];have e1:t/2=(t-2)/2+1:=by omega
    have e2:t%2=(t-2)%2:=by omega
    rw[e1,e2,List.getD_cons_succ]
theorem Zov(ds:List (SE w Y)):(ds.flatMap ZeR).length=ds.length*2:=by
 induction ds with
 | nil=>rfl
 | cons d ds ih=>rw[List.flatMap_cons,List.length_append,ih,List.length_cons,ZbG];omega
theorem ZgB(ds:List (SE w Y)):(flatK ZeR 2 ds.toArray).toList=ds.flatMap ZeR:=by
 apply List.ext_getElem?;intro t;rcases Nat.lt_or_ge t (ds.length*2)with h|h
 · rw[Zil ds t h,Array.getElem?_toList,Array.getElem?_eq_getElem (by simpa using h)];have h1:=get_flatK (ZeR (w:=w) (Y:=Y)) 2 ds.toArray t (by simpa using h);rw[getElem!_pos _ t (by simpa using h)]at h1;rw[h1]
   congr 3
   have h2:t/2<ds.length:=by omega
   simp[List.getD,h2]
 · rw[List.getElem?_eq_none (by simpa using h),List.getElem?_eq_none (by rw[Zov];exact h)]
theorem ZjD{α:Type}[Inhabited α]{enc:α->List Value}{k m:Nat}{dk:Array α}{os:Array Obj}{cur:Array Value}{e:TypeId}{fr:Nat×Nat}(hb:w.heap[g]?=some (.cells cur e fr)) :
 (sortWorldK enc k w g 0 m dk os).heap[g]?=some (.cells (putCells id 0 (flatK enc k dk) cur) e fr):=by
 have hg:g<w.heap.size:=(ZZa.1 hb).1
 show(grow (putRow id (Sort.ahead w m) g 0 (flatK enc k dk)) os).heap[g]?=_
 rw[heap_grow_old _ _ (by simpa using hg)];simp[putRow,mapBlock,Sort.ahead,Array.getElem?_modify,hb,onCells]
theorem Zg2(cur F:Array Value)(h:F.size<=cur.size):(putCells id 0 F cur).toList.take F.size=F.toList:=by
 apply List.ext_getElem?;intro j;by_cases hj:j<F.size
 · rw[List.getElem?_take_of_lt hj,Array.getElem?_toList,Array.getElem?_toList];simp[putCells,hj,show j<cur.size by omega]
 · rw[List.getElem?_take_eq_none (by omega),List.getElem?_eq_none (by simp;omega)]
theorem Zow{v:Value}{ps:List KV}(h:ZbL Zcx 65 2 w Y base v ps)(hn:ps.length<=4294967296)(hdis:(ps.map fun x=>tx x.1).Nodup) :
 Calls prog 53 #[v,.func (.func 54) #[] #[]] w fun e w'=>
  e=.returned (.tuple #[])/\∃ps':List KV,ps'.Perm ps/\ps'.Pairwise (fun x y=>tx x.1<tx y.1)/\ZbL Zcx 65 2 w' Y base v ps'/\Zf (fun k=>v.ownBlock=some k) w w':=by
 obtain⟨vs,hown,hvs⟩:=h.row;have hYo:=h.own;rcases hown.2 with ⟨rfl,h0⟩|⟨g,cap,cur,rfl,hb,hg,hc,hcm,hsz,htake⟩
 · obtain rfl:=List.eq_nil_of_length_eq_zero h0;refine(AnyF.slices_SortFunc_none Tryz.sortP none 0 (.func (.func 54) #[] #[]) w).mono ?_;rintro e w'⟨rfl,rfl⟩;exact⟨rfl,[],List.Perm.refl _,List.Pairwise.nil,h,⟨rfl,rfl,rfl,ZZe _,fun _ _ _=>rfl⟩⟩
 · have hY:Y g:=hYo g (by simp[Value.ownBlock]);have hvl:vs.length=ps.length*2:=hown.1;obtain⟨ds,h1,h2⟩:=ZrD ps vs hvl hvs;have hdl:ds.length=ps.length:=by rw[<-h1,List.length_map]
   have hflat:=ZgB ds
   have hcell:∀k u,vs[k]?=some u->w.cell? ⟨g,k,none⟩=some u:=fun k u hu=>by
    have hk:=(ZZb.1 hu).1;rw[cell_of_row w g k cur _ (0,0) hg,<-hu,<-htake,List.getElem?_take,if_pos (by omega)];simp
   have hH:HoldsK ZeR 2 w g 0 ds.toArray:=by
    intro j hj
    have e:vs[j]?=some ((flatK ZeR 2 ds.toArray)[j]!):=by
     rw[<-h2,<-hflat,Array.getElem?_toList,Array.getElem?_eq_getElem hj,getElem!_pos _ j hj]
    refine⟨?_,?_⟩
    · rw[Nat.zero_add];exact hcell _ _ e
    · rw[Nat.zero_add];exact frozen_of_row w g _ _ _ hg
   have eg:∀args w,(callFunc 54 args).run prog w=.ok (.enter 54 args) w:=enters_of func54 (by kernel_rfl) rfl
   have hcon:=AnyQ.slices_SortFunc Tryz.sortP 2 Tryz.isAgg65 Tryz.sizeOf65 (ZeR (w:=w) (Y:=Y)) ZbG (fun x v hv=>by
    obtain⟨ka,kn,kc,va,vn,vc,e,_⟩:=x.2;unfold ZeR at hv;rw[e]at hv;simp only[List.mem_cons,List.not_mem_nil,or_false]at hv
    rcases hv with rfl|rfl <;> rfl) Zrv (ZrH w Y) 54 #[] g 0 cap ds.toArray w eg (ZpJ hY _) hH (ZZa.1 hg).1 (by simp;omega)
   change Calls prog 53 _ _ _ at hcon;have hsz0:ds.toArray.size=ps.length:=by simpa using hdl
   rw[hsz0]at hcon;refine hcon.mono ?_;rintro e w'⟨rfl,d',m,os,hp,hsd,rfl⟩;have ht:=ZgA (g:=g) (ZeR (w:=w) (Y:=Y)) 2 m w d' os;have hd'n:d'.size=ps.length:=by rw[hp.1];exact hsz0
   have hperm:d'.toList.Perm ds:=by
    have h3:=hp.2.2;have a1:d'.extract 0 ps.length=d':=by rw[<-hd'n];simp
    have a2:ds.toArray.extract 0 ps.length=ds.toArray:=by rw[<-hsz0];simp
    rw[a1,a2]at h3;simpa using h3
   have hpp:(d'.toList.map kvE).Perm ps:=by rw[<-h1];exact hperm.map _
   have hlen:(d'.toList.map kvE).length=ps.length:=by rw[List.length_map];simpa using hd'n
   have hk:∀k,k<w.heap.size->¬Y k->(sortWorldK ZeR 2 w g 0 m d' os).heap[k]?=w.heap[k]?:=fun k hk hy=>ht.block k hk fun e=>hy (by rw[e];exact hY)
   refine⟨rfl,d'.toList.map kvE,hpp,?_,⟨⟨(flatK ZeR 2 d').toList,⟨?_,Or.inr ⟨g,cap,_,by rw[hlen],hb,ZjD hg,by rw[hlen];exact hc,hcm,by simpa[putCells] using hsz,?_⟩⟩,fun a x hx=>?_⟩,hYo⟩,⟨ht.os,ht.tape,ht.output,ht.size,fun k hk hne=>ht.block k hk (fun e=>hne (by rw[e];simp[Value.ownBlock]))⟩⟩
   · have hnd:((d'.toList.map kvE).map fun x=>tx x.1).Nodup:=(hpp.map _).nodup_iff.2 hdis;rw[List.nodup_iff_pairwise_ne,List.pairwise_map]at hnd;refine List.pairwise_iff_getElem.2 fun i j hi hj hij=>?_
     have hne:=List.pairwise_iff_getElem.1 hnd i j hi hj hij;simp only[List.length_map,Array.length_toList]at hi hj;have hs:=hsd i j (Nat.zero_le _) hij (by omega);simp only[ltOf,decide_eq_false_iff_not]at hs;simp only[List.getElem_map,Array.getElem_toList]at hne ⊢;rw[getElem!_pos d' i hi,getElem!_pos d' j hj]at hs;rcases tlt_tri (tx (kvE d'[i]).1) (tx (kvE d'[j]).1)with a|a|a
     · exact a
     · exact absurd a hne
     · exact absurd ((Zcy _ _).2 a) hs
   · rw[hlen,Array.length_toList,size_flatK,hd'n]
   · have hfs:(flatK (ZeR (w:=w) (Y:=Y)) 2 d').size=ps.length*2:=by rw[size_flatK,hd'n]
     rw[hlen,<-hfs];exact Zg2 _ _ (by rw[hfs,hsz];omega)
   · rw[List.getElem?_map]at hx;obtain⟨p,hp',rfl⟩:=Option.map_eq_some_iff.1 hx;have hal:=(ZZb.1 hp').1;have hfl:=ZgB d'.toList;rw[Array.toArray_toList]at hfl;rw[hfl];have hgd:d'.toList.getD a default=p:=by rw[List.getD_eq_getElem?_getD,hp'];rfl
     have he:((d'.toList.flatMap ZeR).drop (a*2)).take 2=ZeR p:=by
      apply List.ext_getElem?;intro t;rw[List.getElem?_take];by_cases ht2:t<2
      · rw[if_pos ht2,List.getElem?_drop,Zil _ _ (by omega),show(a*2+t)/2=a by omega,show(a*2+t)%2=t by omega,hgd,ZZc (by rw[ZbG];exact ht2),getElem!_pos _ t (by rw[ZbG];exact ht2)]
      · rw[if_neg ht2,List.getElem?_eq_none (by rw[ZbG];omega)]
     rw[he];exact Za7 p.2 ht.size (fun _ _ h=>h) hk
end
end Go.Proofs.YtlmkdmdbpopnhaaGreatDoor
namespace Go.Proofs.YtlmkdmdbpopnhaaGreatDoor
open Go.RowKit
theorem ZpK{d:Int}{N:Nat}(h0:0<=d/\d<=10)(hs:wrap64 (2^d.toNat)=(N:Int))(W:World):(Op.shift .shl .i64 1 .i64 d).run prog W=.ok (.int .i64 (N:Int)) W:=by
 have h1:¬d<0:=by omega
 have h2:min d.toNat 64=d.toNat:=by omega
 simp[go_sem];generalize (2:Int)^d.toNat=z at *;rw[IntKind.wrap_i64];unfold wrap64 at hs;exact hs
def ZqN(seen:Nat->Bool)(s step:Nat):Nat->Bool:=fun i=>seen i||(decide (s<=i)&&decide ((i-s)%step=0))
def Z6(cs:Nat->List Zw)(bd:Nat->Nat):Nat->(Nat->Bool)×List KV×Nat
 | 0=>(fun _=>false,[],0)
 | k+1=>if(Z6 cs bd k).1 k=true then Z6 cs bd k else(ZqN (Z6 cs bd k).1 k (2^bd k),(Z6 cs bd k).2.1++(cs k).flatMap Zw.ps,(Z6 cs bd k).2.2+(cs k).length)
theorem Zfi{cs:Nat->List Zw}{bd:Nat->Nat}{k:Nat}(h:(Z6 cs bd k).1 k=true):Z6 cs bd (k+1)=Z6 cs bd k:=by
 show(if _ then _ else _)=_
 rw[if_pos h]
theorem ZeL{cs:Nat->List Zw}{bd:Nat->Nat}{k:Nat}(h:(Z6 cs bd k).1 k=false):Z6 cs bd (k+1)=(ZqN (Z6 cs bd k).1 k (2^bd k),(Z6 cs bd k).2.1++(cs k).flatMap Zw.ps,(Z6 cs bd k).2.2+(cs k).length):=by
 show(if _ then _ else _)=_
 rw[if_neg (by rw[h];decide)]
theorem Zhs(cs:Nat->List Zw)(bd:Nat->Nat)(k:Nat):∀m,(Z6 cs bd k).2.2<=(Z6 cs bd (k+m)).2.2/\(Z6 cs bd k).2.1.length<=(Z6 cs bd (k+m)).2.1.length
 | 0=>⟨ZZe _,ZZe _⟩
 | m+1=>by
  obtain⟨h1,h2⟩:=Zhs cs bd k m
  cases hb:(Z6 cs bd (k+m)).1 (k+m)with
  | true=>rw[<-Nat.add_assoc,Zfi hb];exact⟨h1,h2⟩
  | false=>
   rw[<-Nat.add_assoc,ZeL hb];refine⟨ZZf h1 (Nat.le_add_right _ _),ZZf h2 ?_⟩;rw[List.length_append];exact Nat.le_add_right _ _
structure Zht(w1 W:World)(mb sb N:Nat)(box:Obj)(seen:Nat->Bool)(v:Value)(P:List KV)(Y:Nat->Prop):Prop where
 row:ZbL Zcx 65 2 W Y (sb+1) v P
 low:∀k,k<=sb->Y k
 lt:∀k,Y k->k<W.heap.size
 seen:W.rowIs sb 4 N (fun i=>.bool (seen i))
 box:W.heap[mb]?=some box
 bel:Below w1.heap.size w1 W
 at_:w1.heap.size<=mb/\mb<sb
section
variable{w1 W W':World}{mb sb N n c:Nat}{box:Obj}{seen:Nat->Bool}{v:Value}{P ps:List KV}{Y:Nat->Prop}{A:Option Addr}
theorem Zht.below(h:Zht w1 W mb sb N box seen v P Y)(hb:Below W.heap.size W W'):Zht w1 W' mb sb N box seen v P Y:=
 ⟨ZbL.below (R:=Zcx) Za7 h.row hb,h.low,fun k hk=>ZZd (h.lt k hk) hb.size,h.seen.of_block (hb.block sb h.seen.lt),(hb.block mb (ZZa.1 h.box).1).trans h.box,h.bel.trans (hb.mono h.bel.size),h.at_⟩
theorem Zht.add(h:Zht w1 W mb sb N box seen v P Y)(hs:Zp W Y A n ps)(hP:P.length<=1073741824)(hn:n<=1073741824)(ty:TypeId) :
 ∃v' W',(Builtin.append_ #[31,31] ty #[v,.slice A n c]).run prog W=.ok v' W'/\Zht w1 W' mb sb N box seen v' (P++ps) (fun k=>Y k∨v'.ownBlock=some k)/\
  (∀(A':Option Addr) (n':Nat) (ps':List KV),Zp W Y A' n' ps'->Zp W' (fun k=>Y k∨v'.ownBlock=some k) A' n' ps')/\(∀k,k<W.heap.size->v.ownBlock≠some k->W'.heap[k]?=W.heap[k]?)/\(v'.ownBlock=v.ownBlock∨v'.ownBlock=some W.heap.size)/\W.heap.size<=W'.heap.size:=by
 have hsl:=h.seen.lt;obtain⟨v',W',hrun,h1,h2,h3⟩:=h.row.addPairs (c:=c) hs hP hn (by omega) ty;have hno:∀k,v.ownBlock=some k->sb+1<=k:=fun k hk=>(h.row.at_ k hk).1
 have hkeep:∀k,k<W.heap.size->v.ownBlock≠some k->W'.heap[k]?=W.heap[k]?:=fun k hk hne=>h2.block k hk fun e=>hne e.symm
 refine⟨v',W',hrun,⟨h1,fun k hk=>.inl (h.low k hk),fun k hk=>?_,h.seen.of_block (hkeep sb hsl fun e=>by have:=hno _ e;omega),(hkeep mb (ZZa.1 h.box).1 fun e=>by have:=hno _ e;have:=h.at_;omega).trans h.box,h.bel.grown h2 h.bel.size (fun k hk=>by have:=hno _ hk;have:=h.at_;omega),h.at_⟩,fun A' n' ps' hs'=>hs'.grow h2.size (fun k hk hy=>hkeep k hk fun e=>hy (h.row.own k e)) (fun k hk hy hy'=>?_),hkeep,h3,h2.size⟩
 · rcases hk with a|a
   · exact ZZd (h.lt k a) h2.size
   · exact(h1.at_ k a).2
 · rcases hy' with a|a
   · exact hy a
   · rcases h3 with q|q
     · rw[q]at a;exact hy (h.row.own k a)
     · rw[q]at a;injection a with a;omega
theorem Zht.mark(h:Zht w1 W mb sb N box seen v P Y)(i:Nat) :
 Zht w1 (W.setCell ⟨sb,i,none⟩ (.bool true)) mb sb N box (fun j=>seen j||decide (j=i)) v P Y/\(∀k,k≠sb->(W.setCell ⟨sb,i,none⟩ (.bool true)).heap[k]?=W.heap[k]?)/\W.heap.size<=(W.setCell ⟨sb,i,none⟩ (.bool true)).heap.size:=by
 have hk:∀k,k≠sb->(W.setCell ⟨sb,i,none⟩ (.bool true)).heap[k]?=W.heap[k]?:=fun k hk=>Below.heap_setCell _ _ _ _ hk
 have hsz:W.heap.size<=(W.setCell ⟨sb,i,none⟩ (.bool true)).heap.size:=by simp[World.setCell]
 have hYs:=h.low sb (ZZe _);have ha:=h.at_;refine⟨⟨ZbL.keep (R:=Zcx) Za7 h.row hsz (fun _ _ h=>h) (fun k _ hy=>hk k fun e=>hy (by rw[e];exact hYs)) (fun r hr=>⟨hk r fun e=>by have:=(h.row.at_ r hr).1;omega,h.row.own r hr⟩),h.low,fun k hk'=>ZZd (h.lt k hk') hsz,(h.seen.set i (.bool true)).congr fun j _=>?_,(hk mb (by omega)).trans h.box,⟨h.bel.os,h.bel.tape,h.bel.output,ZZf h.bel.size hsz,fun k hk'=>(hk k (by omega)).trans (h.bel.block k hk')⟩,ha⟩,hk,hsz⟩;by_cases e:j=i
 · rw[if_pos e,decide_eq_true e,Bool.or_true]
 · rw[if_neg e,decide_eq_false e,Bool.or_false]
theorem Zht.congr(h:Zht w1 W mb sb N box seen v P Y){seen':Nat->Bool}(e:∀i,i<N->seen i=seen' i):Zht w1 W mb sb N box seen' v P Y:=
 ⟨h.row,h.low,h.lt,h.seen.congr fun i hi=>by rw[e i hi],h.box,h.bel,h.at_⟩
end
end Go.Proofs.YtlmkdmdbpopnhaaGreatDoor
