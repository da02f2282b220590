/- ExtZ, ExuA, ExuB, ExuC, ExuD, ExuR. Conditions: in each theorem. -/
import Derived.Test.YtlmkdmdbpopnhaaGreatDoorG32
import Derived.Test.YtlmkdmdbpopnhaaGreatDoorG25
set_option maxHeartbeats 6400000
set_option maxRecDepth 100000
set_option linter.unusedVariables false
open Go.Proofs.Tryz
open Go.Lib (hid)
namespace Go.Proofs.YtlmkdmdbpopnhaaGreatDoor
open Go.RowKit
def Zcn(first stp:Nat)(hp:Int)(k:Nat)(SL:Int->Option Int):Int->Option Int:=fun i=>if((List.range k).any fun j=>decide (i=((first+j*stp:Nat):Int)))=true then some hp else SL i
def ZaQ(first stp:Nat)(hp:Int)(k:Nat):List Stp:=(List.range k).map (fun j=>Stp.pt ((first+j*stp:Nat):Int) hp)
theorem ZmD(first stp:Nat)(hp:Int)(SL:Int->Option Int):Zcn first stp hp 0 SL=SL:=by
 funext i
 unfold Zcn;simp
theorem ZmE(first stp:Nat)(hp:Int)(k:Nat)(SL:Int->Option Int):(fun i=>if i=((first+k*stp:Nat):Int)then some hp else Zcn first stp hp k SL i)=Zcn first stp hp (k+1) SL:=by
 funext i
 unfold Zcn;rw[List.range_succ,List.any_append];by_cases h:i=((first+k*stp:Nat):Int)
 · rw[if_pos h,if_pos (by simp[h])]
 · rw[if_neg h];have h2:decide (i=((first+k*stp:Nat):Int))=false:=by simpa using h
   simp only[List.any_cons,List.any_nil,h2,Bool.or_false]
theorem ZmF(first stp:Nat)(hp:Int)(k:Nat)(SL:Int->Option Int)(hs:0<stp):Zcn first stp hp k SL ((first+k*stp:Nat):Int)=SL ((first+k*stp:Nat):Int):=by
 unfold Zcn;rw[if_neg];intro h;obtain⟨j,hj,he⟩:=List.any_eq_true.1 h;have hj:=List.mem_range.1 hj;have he:=of_decide_eq_true he;have h1:(j+1)*stp<=k*stp:=Nat.mul_le_mul_right _ hj;rw[Nat.succ_mul]at h1;omega
theorem ZmG(first stp:Nat)(hp:Int)(k:Nat):ZaQ first stp hp (k+1)=ZaQ first stp hp k++[Stp.pt ((first+k*stp:Nat):Int) hp]:=by
 unfold ZaQ;rw[List.range_succ,List.map_append];rfl
theorem ZfT{d:Int}{N:Nat}(h0:0<=d/\d<=10)(hs:wrap64 (2^d.toNat)=(N:Int))(W:World):(Op.shift .shl .i64 1 .i64 d).run prog W=.ok (.int .i64 (N:Int)) W:=by
 have h1:¬d<0:=by omega
 have h2:min d.toNat 64=d.toNat:=by omega
 simp[go_sem];generalize (2:Int)^d.toNat=z at *;rw[IntKind.wrap_i64];unfold wrap64 at hs;exact hs
section
variable{D:World->(Nat->Prop)->Addr->DS->Prop}{w0 w w':World}{F O:Nat->Prop}{p:Addr}{S:DS}{q r b st ch mb:Nat}{seq:Int}{L:List (Int×List Int)}{M M':MV}{v v' sv:Value}{ns:Nat}{SL:Int->Option Int}{fs:List Value}{ss:List Stp}
theorem Zje(api:Zb D)(hS:SAt D w0 F O p S q seq r b st L)(h:ZF w0 w ch st mb M M' v v' sv ns SL fs ss)(first K:Nat){lp ld lx hp hd hx:Int}{LA HA:Option Addr}{ln lc hn hc:Nat}(hd1:0<=M'.d/\M'.d<=10)(hd2:0<=hd/\hd<=10)(hp1 : -9223372036854775808<=hp/\hp<=9223372036854775807)
 (hin:∀k:Nat,k<K->first+k*2^ZA hd<2^ZA M'.d/\ZeF S L M SL ((first+k*2^ZA hd:Nat):Int) lp) (hend:2^ZA M'.d<=first+K*2^ZA hd) (hend2:first+K*2^ZA hd<=100000) (hm:fs.length+K<=3999999) (hns:ns+K<=3999999) :
 Calls prog 239 #[.pointer (some ⟨ch,0,none⟩),.int .i64 (first:Int),.agg #[.int .i64 lp,.int .i64 ld,.int .i64 lx,.slice LA ln lc],.agg #[.int .i64 hp,.int .i64 hd,.int .i64 hx,.slice HA hn hc]] w fun e w'=>e=.returned (.int .i64 0)/\∃sv2 fs2,ZF w0 w' ch st mb M M' v v' sv2 (ns+K) (Zcn first (2^ZA hd) hp K SL) fs2 (ss++ZaQ first (2^ZA hd) hp K)/\fs2.length=fs.length+K/\ZZ w0.heap.size w.heap.size ch mb v' sv v' sv2 fs fs2 ss (ss++ZaQ first (2^ZA hd) hp K) w w':=by
 have hsh:=Zq6 hd1;have hsh2:=Zq6 hd2;have hpw2:=Zeb hd;have hX:Below w.heap.size w ((w.alloc (.cells #[.int .i64 lp,.int .i64 ld,.int .i64 lx,.slice LA ln lc] 104)).alloc (.cells #[.int .i64 hp,.int .i64 hd,.int .i64 hx,.slice HA hn hc] 104)):=((Below.refl _ _).alloc (ZZe _) _).alloc (by simp) _;have hb0:((w.alloc (.cells #[.int .i64 lp,.int .i64 ld,.int .i64 lx,.slice LA ln lc] 104)).alloc (.cells #[.int .i64 hp,.int .i64 hd,.int .i64 hx,.slice HA hn hc] 104)).heap[w.heap.size]?=some (.cells #[.int .i64 lp,.int .i64 ld,.int .i64 lx,.slice LA ln lc] 104 (0,0)):=(Below.heap_alloc _ _ w.heap.size (by simp)).trans (heap_alloc_new _ _)
 have hb1:((w.alloc (.cells #[.int .i64 lp,.int .i64 ld,.int .i64 lx,.slice LA ln lc] 104)).alloc (.cells #[.int .i64 hp,.int .i64 hd,.int .i64 hx,.slice HA hn hc] 104)).heap[w.heap.size+1]?=some (.cells #[.int .i64 hp,.int .i64 hd,.int .i64 hx,.slice HA hn hc] 104 (0,0)):=by
  have:=heap_alloc_new (w.alloc (.cells #[.int .i64 lp,.int .i64 ld,.int .i64 lx,.slice LA ln lc] 104)) (.cells #[.int .i64 hp,.int .i64 hd,.int .i64 hx,.slice HA hn hc] 104)
  simpa using this
 generalize 2^ZA M'.d=N at *;generalize 2^ZA hd=stp at *;have hlt0:=h.lt;have HG:=hid (h.keep hX)
 have HBX:=hid (show ∀(svk:Value) (fsk:List Value) (ssk:List Stp) wr,ZZ w0.heap.size w.heap.size ch mb v' sv v' svk fs fsk ss ssk ((w.alloc (.cells #[.int .i64 lp,.int .i64 ld,.int .i64 lx,.slice LA ln lc] 104)).alloc (.cells #[.int .i64 hp,.int .i64 hd,.int .i64 hx,.slice HA hn hc] 104)) wr->wr.cell? ⟨w.heap.size,0,none⟩=some (.int .i64 lp)/\wr.cell? ⟨w.heap.size+1,0,none⟩=some (.int .i64 hp)/\wr.cell? ⟨w.heap.size+1,1,none⟩=some (.int .i64 hd)from fun svk fsk ssk wr hw=>by
  have c0:=Za ((hw.touch.block _ (ZZa.1 hb0).1 (fun e=>by have:=(hlt0 _ e).2;omega)).trans hb0);have c1:=Za ((hw.touch.block _ (ZZa.1 hb1).1 (fun e=>by have:=(hlt0 _ e).2;omega)).trans hb1)
  exact⟨c0.1,c1.1,c1.2.1⟩)
 have HXW:=hid (ZZ.below (B:=w0.heap.size) (Z:=w.heap.size) (ch:=ch) (mb:=mb) (v':=v') (sv:=sv) (fs:=fs) (ss:=ss) hX);have HIN:=hid hin;have HS:=hid hS;have run1:=fun W=>ZfT hd1 hsh W
 have run2:=fun W=>ZfT hd2 hsh2 W
 clear hd1 hd2 hsh hsh2;clear h hin hS hX hb0 hb1 hlt0;go_enter func239,ntmps239;go_wp2_with fail
 go_loopw[9] (fun i wr=>∃(k:Nat) (svk:Value) (fsk:List Value),k<=K/\i=.int .i64 ((first+k*stp:Nat):Int)/\Hid (ZF w0 wr ch st mb M M' v v' svk (ns+k) (Zcn first stp hp k SL) fsk (ss++ZaQ first stp hp k))/\Hid (fsk.length=fs.length+k)/\Hid (ZZ w0.heap.size w.heap.size ch mb v' sv v' svk fs fsk ss (ss++ZaQ first stp hp k) ((w.alloc (.cells #[.int .i64 lp,.int .i64 ld,.int .i64 lx,.slice LA ln lc] 104)).alloc (.cells #[.int .i64 hp,.int .i64 hd,.int .i64 hx,.slice HA hn hc] 104)) wr)) (fun i _=>200000-(intOf i).toNat)
 case atStart=>exact⟨0,sv,fs,Nat.zero_le _,by simp,by rw[ZmD];unfold ZaQ;simpa using HG,hid rfl,by unfold ZaQ;simpa using hid (ZZ.below (B:=w0.heap.size) (Z:=w.heap.size) (ch:=ch) (mb:=mb) (v':=v') (sv:=sv) (fs:=fs) (ss:=ss) (Below.refl _ _))⟩
 case round=>
  obtain⟨k,svk,fsk,hk,rfl,hg,hfl,hwk⟩:=hrel;have HSL:=hid (ZmF first stp hp k SL (by omega));have HSTEP:=hid (ZmE first stp hp k SL);have HSTS:=hid (ZmG first stp hp k);have hs1:first+(k+1)*stp=first+k*stp+stp:=by rw[Nat.succ_mul];omega
  have hsK:k<K->first+k*stp+stp<=first+K*stp:=fun hlt=>by
   have:=Nat.mul_le_mul_right stp (show k+1<=K from hlt)
   rw[Nat.succ_mul]at this;omega
  have HKN:=hid (HIN.out k);have hKK:k=K->first+k*stp=first+K*stp:=fun e=>by rw[e]
  obtain⟨y0,y1,y2⟩:=HBX.out _ _ _ wr hwk.out;obtain⟨_,_,_,_,_,y6,_⟩:=hg.out.at_.cells2;by_cases hlt:k<K
  · have hp0:=HKN.out hlt;generalize hsl:first+k*stp=s at *;have k1:decide (((s:Nat):Int)<((N:Nat):Int))=true:=by simpa using hp0.1
    have k2:decide (s<N)=true:=by simpa using hp0.1
    have HPO:=hid (Zlu (slot:=(s:Int)) (pg:=lp) api HS.out hg.out (by have:=hsK hlt;omega) (by
     rcases hp0.2 with a|⟨a,a2⟩
     · exact .inl (HSL.out.trans a)
     · exact .inr ⟨HSL.out.trans a,a2⟩))
    clear hp0 HKN hKK;go_wp2_with fail;refine HPO.out.mono ?_;rintro e w2⟨rfl,hb2⟩;have HW2:=hid (hwk.out.trans (ZZ.below hb2));have HPT:=hid (ZkH (hg.out.keep hb2) (s:Int) hp (by have:=hsK hlt;omega) hp1 (by have:=hfl.out;omega) (by omega));obtain⟨x0,x1,x2⟩:=HBX.out _ _ _ w2 HW2.out;clear hb2 HPO y0 y1 y2 y6;go_wp2_with fail;refine HPT.out.mono ?_;rintro e w3⟨rfl,svn,fn,hgn,hwn⟩;have HSZ:=hid (ZZf HXW.out.touch.size HW2.out.touch.size)
    have HW3:=hid (show ZZ w0.heap.size w.heap.size ch mb v' sv v' svn fs (fsk++[fn]) ss (ss++ZaQ first stp hp (k+1)) ((w.alloc (.cells #[.int .i64 lp,.int .i64 ld,.int .i64 lx,.slice LA ln lc] 104)).alloc (.cells #[.int .i64 hp,.int .i64 hd,.int .i64 hx,.slice HA hn hc] 104)) w3 from by
     rw[HSTS.out,<-List.append_assoc]
     exact HW2.out.trans (hwn.mono HSZ.out))
    have HGN:=hid (show ZF w0 w3 ch st mb M M' v v' svn (ns+(k+1)) (Zcn first stp hp (k+1) SL) (fsk++[fn]) (ss++ZaQ first stp hp (k+1))from by
     rw[<-HSTEP.out,HSTS.out,<-List.append_assoc]
     exact hgn)
    obtain⟨z0,z1,z2⟩:=HBX.out _ _ _ w3 HW3.out
    have e3:(s:Int)+(stp:Int)=((first+(k+1)*stp:Nat):Int):=by
     rw[hs1];omega
    have e4:s+stp<=100000:=ZZf (hsK hlt) hend2;have E3:=hid e3;have HSKL:=hid (hsK hlt);clear e3 hsK hs1;clear hgn hwn HPT HW2 x0 x1 x2;go_wp2;go_roundw
    case rel=>exact⟨k+1,svn,fsk++[fn],by omega,by rw[<-E3.out],HGN,hid (by have:=hfl.out;simp;omega),HW3⟩
    case measure=>
     simp[intOf];omega
  · obtain rfl:k=K:=by omega
    have k1:decide (((first+k*stp:Nat):Int)<((N:Nat):Int))=false:=by simp;omega
    have k2:decide (first+k*stp<N)=false:=by simp;omega
    generalize first+k*stp=s at k1 k2 ⊢;go_wp2;go_ret;exact⟨rfl,svk,fsk,hg.out,hfl.out,HXW.out.trans hwk.out⟩
end
def ZaC(h:Nat)(d:Int):Bool:=decide (slotN h (ZJ (d+1))≠slotN h (ZJ d))
theorem Ze6(h:Nat)(d:Int)(hh:h<4294967296)(hd : -9223372036854775808<=d/\d<=9223372036854775806)(w:World) :
 Calls prog 240 #[.int .u32 (h:Int),.int .i64 d] w fun e w'=>e=.returned (.bool (ZaC h d))/\w=w':=by
 have H1:=hid (ZeB h (d+1) hh w);have H2:=hid (ZeB h d hh w);unfold ZaC;generalize slotN h (ZJ (d+1))=a at *;generalize slotN h (ZJ d)=c at *;obtain⟨hd1,hd2⟩:=hd;go_enter func240,ntmps240;go_wp2_with fail;refine H1.out.mono ?_;rintro e w1⟨rfl,rfl⟩;go_wp2_with fail;refine H2.out.mono ?_;rintro e w2⟨rfl,rfl⟩
 have hne:decide (a=c) = !(((a:Nat):Int) != ((c:Nat):Int)):=by
  rw[show(((a:Nat):Int) != ((c:Nat):Int)) = !decide (((a:Nat):Int)=((c:Nat):Int)) by simp[bne];rfl,Bool.not_not];exact decide_eq_decide.2 (by omega)
 go_wp2;go_ret;refine⟨?_,rfl⟩;simp;rw[hne,Bool.not_not]
section
variable{w0 w w':World}{ch st mb:Nat}{M M':MV}{v v' sv:Value}{ns:Nat}{SL:Int->Option Int}{fs:List Value}{ss:List Stp}
theorem Za3.fresh{B:Nat}{X:Nat->Prop}{f:Value}{s:Stp}(h:Za3 B w X ch f s)(hb:Below w.heap.size w w'):Za3 B w' (fun k=>w.heap.size<=k/\k<w'.heap.size) ch f s:=by
 obtain⟨g,K,a,b,e,c0,c1,c2,⟨x0,x1,x2⟩,hB,h⟩:=h;have l0:g<w.heap.size:=World.block_lt_of_cell? _ _ c0;have l1:g+1<w.heap.size:=World.block_lt_of_cell? _ _ c1;have l2:g+2<w.heap.size:=World.block_lt_of_cell? _ _ c2;refine⟨g,K,a,b,e,(hb.cell (p:=⟨g,0,none⟩) l0).trans c0,(hb.cell (p:=⟨g+1,0,none⟩) l1).trans c1,(hb.cell (p:=⟨g+2,0,none⟩) l2).trans c2,⟨fun q=>by have:=q.1;omega,fun q=>by have:=q.1;omega,fun q=>by have:=q.1;omega⟩,hB,?_⟩;cases s with
 | lay pg l=>
  obtain⟨h1,h2,h3,A,n,c,h4,h5,h6,h7⟩:=h;refine⟨h1,h2,h3,A,n,c,h4,h5,h6,(h7.below hb).1,fun ad ha hn hg=>?_⟩;rcases hg with q|q
  · obtain⟨b1,off,e1,hb1,_⟩:=h7.1.2.2 hn;rw[ha]at e1;cases e1;have q1:w.heap.size<=b1:=q.1;omega
  · exact h7.2 ad ha hn (.inr q)
 | pt slot pg=>exact h
 | fr pg nx=>exact h
theorem ZF.avoid(h:ZF w0 w ch st mb M M' v v' sv ns SL fs ss)(hb:Below w.heap.size w w'):ZeC w0.heap.size w' (fun k=>w.heap.size<=k/\k<w'.heap.size) ch fs ss:=fun i f s hf hs=>(h.each i f s hf hs).fresh hb
theorem ZeC.poke{B:Nat}{Y:Nat->Prop}(h:ZeC B w Y ch fs ss){a:Addr}(ha:Y a.block)(u:Value):ZeC B (w.setCell a u) Y ch fs ss:=fun i f s hf hs=>(h i f s hf hs).keep (by simp[World.setCell]) (fun k _ hn=>Below.heap_setCell w a u k (fun e=>hn (e ▸ ha))) (fun _ _ h=>h)
theorem ZF.poke(h:ZF w0 w ch st mb M M' v v' sv ns SL fs ss){Y:Nat->Prop}(hY:ZeC w0.heap.size w Y ch fs ss){a:Addr}(ha:Y a.block)(hn:¬GX ch mb v' sv a.block)(h0:w0.heap.size<=a.block)(u:Value):ZF w0 (w.setCell a u) ch st mb M M' v v' sv ns SL fs ss:=by
 have hk:∀k,k≠a.block->(w.setCell a u).heap[k]?=w.heap[k]?:=fun k hk=>Below.heap_setCell w a u k hk
 have hx:∀k,GX ch mb v' sv k->k≠a.block:=fun k hk e=>hn (e ▸ hk)
 have hsz:(w.setCell a u).heap.size=w.heap.size:=by simp[World.setCell]
 exact⟨(hk ch (hx ch (.inl rfl))).trans h.at_,h.chn,h.mbn,h.cm,h.was,ZB h.will (fun g hg=>hk g (hx g (.inr (.inr (.inl hg))))),h.ints,h.few,ZB h.row (fun g hg=>hk g (hx g (.inr (.inr (.inr hg))))),h.many,h.len,fun i f s hf hs=>((h.each i f s hf hs).both (hY i f s hf hs)).keep (by rw[hsz];exact ZZe _) (fun k _ hn'=>hk k (fun e=>hn' (.inr (e ▸ ha)))) (fun k _ hn' hy=>hn' (.inl hy)),h.mp.of_block (hk mb (hx mb (.inr (.inl rfl)))),h.vch,h.sch,h.vs,h.bel.setCell h0 _⟩
theorem ZZ.poke{B Z:Nat}{v1 sv1:Value}{fs1:List Value}{ss1:List Stp}{w1:World}(h:ZZ B Z ch mb v' sv v1 sv1 fs fs1 ss ss1 w w1){Yb:Nat->Prop}(hYb:ZeC B w1 Yb ch fs1 ss1){a:Addr}(hya:Yb a.block)(ha:w.heap.size<=a.block)(u:Value):ZZ B Z ch mb v' sv v1 sv1 fs fs1 ss ss1 w (w1.setCell a u):=
 ⟨⟨h.touch.os,h.touch.tape,h.touch.output,by simpa[World.setCell] using h.touch.size,fun k hk hn=>(Below.heap_setCell w1 a u k (by omega)).trans (h.touch.block k hk hn)⟩,h.own,fun Y hY hav i f s hf hs=>((h.steps Y hY hav i f s hf hs).both (hYb i f s hf hs)).keep (by simp[World.setCell]) (fun k _ hn=>Below.heap_setCell w1 a u k (fun e=>hn (.inr (e ▸ hya)))) (fun k _ hn hy=>hn (.inl hy))⟩
end
section
variable{D:World->(Nat->Prop)->Addr->DS->Prop}{w0 w w':World}{F O:Nat->Prop}{p:Addr}{S:DS}{q r b st ch mb:Nat}{seq:Int}{L:List (Int×List Int)}{M M':MV}{v v' sv:Value}{ns:Nat}{SL:Int->Option Int}{fs:List Value}{ss:List Stp}
theorem Zps(api:Zb D)(hS:SAt D w0 F O p S q seq r b st L)(h:ZF w0 w ch st mb M M' v v' sv ns SL fs ss){G:Nat->Prop}(hG:∀k,G k->k<w.heap.size)(hGX:∀k,GX ch mb v' sv k->G k){l:Zw}{A ka va:Option Addr}{n c kn kc vn vc:Nat}{x:KV}(hnc:n<=c/\n<=maxLen)(hst:Zp w G A n l.ps)(hk:BIn w G ka kn x.1)(hv:BIn w G va vn x.2)(hkc:kn<=kc/\kn<=maxLen)(hvc:vn<=vc/\vn<=maxLen)
 (hn:0<=M'.n/\M'.n<4611686018427387904) (hf : -9223372036854775808<=M'.f/\M'.f<=9223372036854775807) {pg:Int} {M2:MV} (ht:Zcr S L M' pg M2) (hpg : -9223372036854775808<=pg/\pg<=9223372036854775807) (hlpg : -9223372036854775808<=l.pg/\l.pg<=9223372036854775807) (hd : -9223372036854775808<=l.d/\l.d<=9223372036854775807) (hmay1:ZD ⟨l.d,pg,l.ps⟩=true) (hmay2:ZD ⟨l.d,0,[x]⟩=true) (hm:fs.length+2<=4000000) :
 Calls prog 212 #[.pointer (some ⟨ch,0,none⟩),.agg #[.int .i64 l.pg,.int .i64 l.d,.int .i64 l.x,.slice A n c],.agg #[.slice ka kn kc,.slice va vn vc]] w fun e w'=>e=.returned (.int .i64 0)/\∃sv2 fs2,ZF w0 w' ch st mb M M2 v v' sv2 ns SL fs2 (ss++[.lay l.pg (pageBk ⟨l.d,pg,l.ps⟩)]++[.lay pg (pageBk ⟨l.d,0,[x]⟩)])/\fs2.length=fs.length+2/\ZZ w0.heap.size w.heap.size ch mb v' sv v' sv2 fs fs2 ss (ss++[.lay l.pg (pageBk ⟨l.d,pg,l.ps⟩)]++[.lay pg (pageBk ⟨l.d,0,[x]⟩)]) w w':=by
 obtain⟨lpg,ld,lx,ps⟩:=l;simp only at hst hlpg hd hmay1 hmay2 ⊢;have hX:Below w.heap.size w ((w.alloc (.cells #[.int .i64 lpg,.int .i64 ld,.int .i64 lx,.slice A n c] 104)).alloc (.cells #[.slice ka kn kc,.slice va vn vc] 65)):=((Below.refl _ _).alloc (ZZe _) _).alloc (by simp) _;have hb0:((w.alloc (.cells #[.int .i64 lpg,.int .i64 ld,.int .i64 lx,.slice A n c] 104)).alloc (.cells #[.slice ka kn kc,.slice va vn vc] 65)).heap[w.heap.size]?=some (.cells #[.int .i64 lpg,.int .i64 ld,.int .i64 lx,.slice A n c] 104 (0,0)):=(Below.heap_alloc _ _ w.heap.size (by simp)).trans (heap_alloc_new _ _)
 have hb1:((w.alloc (.cells #[.int .i64 lpg,.int .i64 ld,.int .i64 lx,.slice A n c] 104)).alloc (.cells #[.slice ka kn kc,.slice va vn vc] 65)).heap[w.heap.size+1]?=some (.cells #[.slice ka kn kc,.slice va vn vc] 65 (0,0)):=by
  have:=heap_alloc_new (w.alloc (.cells #[.int .i64 lpg,.int .i64 ld,.int .i64 lx,.slice A n c] 104)) (.cells #[.slice ka kn kc,.slice va vn vc] 65)
  simpa using this
 have hsX:((w.alloc (.cells #[.int .i64 lpg,.int .i64 ld,.int .i64 lx,.slice A n c] 104)).alloc (.cells #[.slice ka kn kc,.slice va vn vc] 65)).heap.size=w.heap.size+2:=by simp
 have HTK:=hid (Zjc api hS (h.keep hX) hn hf ht);have HAV:=hid (h.avoid hX);have HH:=hid h;have HX:=hid hX;have HB0:=hid hb0;have HB1:=hid hb1;have HST:=hid hst;have HK:=hid hk;have HV:=hid hv;have HGS:=hid hG;have HGX:=hid hGX;have HLT:=hid h.lt;clear h hX hb0 hb1 hst hk hv hG hGX ht;go_enter func212,ntmps212;go_wp2_with fail;generalize (w.alloc (.cells #[.int .i64 lpg,.int .i64 ld,.int .i64 lx,.slice A n c] 104)).alloc (.cells #[.slice ka kn kc,.slice va vn vc] 65)=W0 at *;refine HTK.out.mono ?_;rintro e w1⟨rfl,hg1,hw1⟩;have hbs:=HH.out.bel.size;have hn0:¬GX ch mb v' sv w.heap.size:=fun e=>by have:=(HLT.out _ e).2;omega
 have hn1:¬GX ch mb v' sv (w.heap.size+1):=fun e=>by have:=(HLT.out _ e).2;omega
 have hav1:ZeC w0.heap.size w1 (fun k=>w.heap.size<=k/\k<W0.heap.size) ch fs ss:=hw1.steps _ (fun k hk=>hk.2) HAV.out;have hb01:=(hw1.touch.block w.heap.size (by omega) hn0).trans HB0.out;have hb11:=(hw1.touch.block (w.heap.size+1) (by omega) hn1).trans HB1.out;have hg1':=hg1.poke hav1 (a:=⟨w.heap.size,2,none⟩) ⟨ZZe _,by show w.heap.size<W0.heap.size;omega⟩ hn0 hbs (.int .i64 pg);have hw1':=((ZZ.below HX.out).trans (hw1.mono HX.out.size)).poke hav1 (a:=⟨w.heap.size,2,none⟩) ⟨ZZe _,by show w.heap.size<W0.heap.size;omega⟩ (ZZe _) (.int .i64 pg);have hb0':=heap_setCell_same w1 w.heap.size 2 _ _ (.int .i64 pg) hb01;have hb1':=(Below.heap_setCell w1 ⟨w.heap.size,2,none⟩ (.int .i64 pg) (w.heap.size+1) (by show w.heap.size+1≠w.heap.size;omega)).trans hb11;simp at hb0';have hst1:Zp (w1.setCell ⟨w.heap.size,2,none⟩ (.int .i64 pg)) G A n ps:=HST.out.later hw1'.touch.size (fun k hk hn'=>hw1'.touch.block k hk (fun e=>hn' (HGX.out k e)));have HKP:=hid (ZcI hg1' (G:=G) (lf:=.agg #[.int .i64 lpg,.int .i64 ld,.int .i64 pg,.slice A n c]) (l:=⟨lpg,ld,pg,ps⟩) ⟨A,n,c,rfl,hnc.1,hnc.2,hst1⟩ hlpg hd hpg hmay1 (by omega));obtain⟨z0,z1,z2,z3,fz,_⟩:=Za hb01;obtain⟨y0,y1,y2,y3,_,_⟩:=Za hb0';have f2:=fz 2;have HW1:=hid hw1';have HBA:=hid (ZZg hb0' hb1');clear hg1 hw1 hav1 hb01 hb11 hg1' hw1' hb0' hb1' hst1 HTK fz;go_wp2_with fail;refine HKP.out.mono ?_;rintro e w2⟨rfl,sv2,f2,hg2,hw2⟩
 have hsz1:W0.heap.size<=(w1.setCell ⟨w.heap.size,2,none⟩ (.int .i64 pg)).heap.size:=by
  have:=(ZZa.1 HBA.out.2).1
  omega
 have hbx:=(hw2.touch.block w.heap.size (by omega) hn0).trans HBA.out.1;have hby:=(hw2.touch.block (w.heap.size+1) (by omega) hn1).trans HBA.out.2;obtain⟨x0,x1,x2,x3,_,_⟩:=Za hbx;have p0:w2.cell? ⟨w.heap.size+1,0,none⟩=some (.slice ka kn kc):=by rw[cell_of_row _ (w.heap.size+1) 0 _ _ (0,0) hby];rfl
 have p1:w2.cell? ⟨w.heap.size+1,1,none⟩=some (.slice va vn vc):=by rw[cell_of_row _ (w.heap.size+1) 1 _ _ (0,0) hby];rfl
 have hw02:=HW1.out.trans (hw2.mono HW1.out.touch.size);have hal:Below w2.heap.size w2 (w2.alloc (.cells #[.int .i64 pg,.int .i64 ld,.int .i64 0,.slice none 0 0] 104)):=(Below.refl _ _).alloc (ZZe _) _;have hw03:ZZ w0.heap.size w.heap.size ch mb v' sv v' sv2 fs (fs++[f2]) ss (ss++[.lay lpg (pageBk ⟨ld,pg,ps⟩)]) w (w2.alloc (.cells #[.int .i64 pg,.int .i64 ld,.int .i64 0,.slice none 0 0] 104)):=hw02.trans (ZZ.below hal);have hkept:∀k,k<w.heap.size->¬G k->(w2.alloc (.cells #[.int .i64 pg,.int .i64 ld,.int .i64 0,.slice none 0 0] 104)).heap[k]?=w.heap[k]?:=fun k hk hn'=>hw03.touch.block k hk (fun e=>hn' (HGX.out k e))
 have HWITH:=hid (Zc0 (w:=w2.alloc (.cells #[.int .i64 pg,.int .i64 ld,.int .i64 0,.slice none 0 0] 104)) (G:=G) (l:=⟨pg,ld,0,[]⟩) (A:=none) (n:=0) (c:=0) (x:=x) (ZZe 0) (Zp.none_ _ _) (fun k hk=>ZZd (HGS.out k hk) hw03.touch.size) (HK.out.grow hw03.touch.size hkept (fun _ _ h=>h)) (HV.out.grow hw03.touch.size hkept (fun _ _ h=>h)) hkc hvc (by decide));have q0:=(hal.cell (p:=⟨w.heap.size+1,0,none⟩) (World.block_lt_of_cell? _ _ p0)).trans p0;have q1:=(hal.cell (p:=⟨w.heap.size+1,1,none⟩) (World.block_lt_of_cell? _ _ p1)).trans p1;have HW3:=hid hw03;have HG3:=hid (hg2.keep hal);clear hg2 hw2 hbx hby hsz1 HKP HBA y0 y1 y2 y3 z0 z1 z2 z3 hw02 hw03 hkept hal p0 p1;go_wp2_with fail;refine HWITH.out.mono ?_;rintro e w4⟨lv,rfl,hlv,hb4⟩;have HKP2:=hid (ZcI (HG3.out.keep hb4) (l:=⟨pg,ld,0,[]++[x]⟩) hlv hpg hd (by show -9223372036854775808<=(0:Int)/\(0:Int)<=9223372036854775807;decide) hmay2 (by simp;omega));have HW4:=hid (HW3.out.trans (ZZ.below hb4));clear hlv hb4 HWITH;go_wp2_with fail;refine HKP2.out.mono ?_;rintro e w5⟨rfl,sv3,f3,hg5,hw5⟩;have HE:=hid (ZZg hg5 (HW4.out.trans (hw5.mono HW4.out.touch.size)));clear hg5 hw5 HKP2;go_wp2;go_ret;exact⟨rfl,sv3,_,HE.out.1,by simp,HE.out.2⟩
end
def Zdm(d:Int)(x:KV):Bool:=ZaC (hashL x.1) d
def Zlv(w0 w:World)(G:Nat->Prop)(pg d xx other:Int)(A:Option Addr)(n c:Nat)(lo hi:List KV):Prop:=
 ∃(A1:Option Addr) (n1 c1:Nat) (A2:Option Addr) (n2 c2:Nat),w.heap[w0.heap.size]?=some (.cells #[.int .i64 pg,.int .i64 d,.int .i64 xx,.slice A n c] 104 (0,0))/\w.heap[w0.heap.size+1]?=some (.cells #[.int .i64 pg,.int .i64 (d+1),.int .i64 0,.slice A1 n1 c1] 104 (0,0))/\w.heap[w0.heap.size+1+1]?=some (.cells #[.int .i64 other,.int .i64 (d+1),.int .i64 0,.slice A2 n2 c2] 104 (0,0))/\(n1<=c1/\n1<=maxLen)/\(n2<=c2/\n2<=maxLen)/\Zp w (fun k=>G k∨(w0.heap.size<=k/\k<w0.heap.size+3)) A1 n1 lo/\Zp w (fun k=>G k∨(w0.heap.size<=k/\k<w0.heap.size+3)) A2 n2 hi/\Below w0.heap.size w0 w
theorem Zlv.below{w0 w w':World}{G:Nat->Prop}{pg d xx other:Int}{A:Option Addr}{n c:Nat}{lo hi:List KV}(h:Zlv w0 w G pg d xx other A n c lo hi)(hb:Below w.heap.size w w'):Zlv w0 w' G pg d xx other A n c lo hi:=by
 obtain⟨A1,n1,c1,A2,n2,c2,b0,b1,b2,e1,e2,s1,s2,hw⟩:=h;exact⟨A1,n1,c1,A2,n2,c2,(hb.block _ (ZZa.1 b0).1).trans b0,(hb.block _ (ZZa.1 b1).1).trans b1,(hb.block _ (ZZa.1 b2).1).trans b2,e1,e2,s1.below hb,s2.below hb,hw.trans (hb.mono hw.size)⟩
theorem Za6{w:World}{b g:Nat}(hg:g≠b)(x0 x1 x2 x3:Value):((((w.setCell ⟨b,0,none⟩ x0).setCell ⟨b,1,none⟩ x1).setCell ⟨b,2,none⟩ x2).setCell ⟨b,3,none⟩ x3).heap[g]?=w.heap[g]?:=
 (Below.heap_setCell _ ⟨b,3,none⟩ _ g hg).trans ((Below.heap_setCell _ ⟨b,2,none⟩ _ g hg).trans ((Below.heap_setCell _ ⟨b,1,none⟩ _ g hg).trans (Below.heap_setCell _ ⟨b,0,none⟩ _ g hg)))
theorem Zbz{w:World}{G:Nat->Prop}{A:Option Addr}{n b:Nat}{ps:List KV}(h:Zp w G A n ps)(hb:G b)(x0 x1 x2 x3:Value):Zp ((((w.setCell ⟨b,0,none⟩ x0).setCell ⟨b,1,none⟩ x1).setCell ⟨b,2,none⟩ x2).setCell ⟨b,3,none⟩ x3) G A n ps:=
 (((h.setCell (p:=⟨b,0,none⟩) hb _).setCell (p:=⟨b,1,none⟩) hb _).setCell (p:=⟨b,2,none⟩) hb _).setCell (p:=⟨b,3,none⟩) hb _
theorem Zlv.low{w0 w:World}{G:Nat->Prop}{pg d xx other:Int}{A A1:Option Addr}{n c n1 c1:Nat}{lo hi lo':List KV}(h:Zlv w0 w G pg d xx other A n c lo hi)(e:n1<=c1/\n1<=maxLen)(s:Zp w (fun k=>G k∨(w0.heap.size<=k/\k<w0.heap.size+3)) A1 n1 lo') :
 Zlv w0 ((((w.setCell ⟨w0.heap.size+1,0,none⟩ (.int .i64 pg)).setCell ⟨w0.heap.size+1,1,none⟩ (.int .i64 (d+1))).setCell ⟨w0.heap.size+1,2,none⟩ (.int .i64 0)).setCell ⟨w0.heap.size+1,3,none⟩ (.slice A1 n1 c1)) G pg d xx other A n c lo' hi:=by
 obtain⟨_,_,_,A2,n2,c2,b0,b1,b2,_,e2,_,s2,hw⟩:=h;exact⟨A1,n1,c1,A2,n2,c2,(Za6 (by omega) _ _ _ _).trans b0,Zbf b1 _ _ _ _,(Za6 (by omega) _ _ _ _).trans b2,e,e2,Zbz s (.inr ⟨by omega,by omega⟩) _ _ _ _,Zbz s2 (.inr ⟨by omega,by omega⟩) _ _ _ _,Zag hw (by omega) _ _ _ _⟩
theorem Zlv.high{w0 w:World}{G:Nat->Prop}{pg d xx other:Int}{A A1:Option Addr}{n c n1 c1:Nat}{lo hi hi':List KV}(h:Zlv w0 w G pg d xx other A n c lo hi)(e:n1<=c1/\n1<=maxLen)(s:Zp w (fun k=>G k∨(w0.heap.size<=k/\k<w0.heap.size+3)) A1 n1 hi') :
 Zlv w0 ((((w.setCell ⟨w0.heap.size+1+1,0,none⟩ (.int .i64 other)).setCell ⟨w0.heap.size+1+1,1,none⟩ (.int .i64 (d+1))).setCell ⟨w0.heap.size+1+1,2,none⟩ (.int .i64 0)).setCell ⟨w0.heap.size+1+1,3,none⟩ (.slice A1 n1 c1)) G pg d xx other A n c lo hi':=by
 obtain⟨A2,n2,c2,_,_,_,b0,b1,b2,e2,_,s2,_,hw⟩:=h;exact⟨A2,n2,c2,A1,n1,c1,(Za6 (by omega) _ _ _ _).trans b0,(Za6 (by omega) _ _ _ _).trans b1,Zbf b2 _ _ _ _,e2,e,Zbz s2 (.inr ⟨by omega,by omega⟩) _ _ _ _,Zbz s (.inr ⟨by omega,by omega⟩) _ _ _ _,Zag hw (by omega) _ _ _ _⟩
theorem Zjf{w X:World}{G:Nat->Prop}{pg d xx other:Int}{A:Option Addr}{n c:Nat}(c0:X.heap[w.heap.size]?=some (.cells #[.int .i64 pg,.int .i64 d,.int .i64 xx,.slice A n c] 104 (0,0)))
 (c1:X.heap[w.heap.size+1]?=some (.cells #[.int .i64 0,.int .i64 0,.int .i64 0,.slice none 0 0] 104 (0,0))) (c2:X.heap[w.heap.size+1+1]?=some (.cells #[.int .i64 0,.int .i64 0,.int .i64 0,.slice none 0 0] 104 (0,0))) (hX:Below w.heap.size w X) :
 Zlv w ((((((((X.setCell ⟨w.heap.size+1,0,none⟩ (.int .i64 pg)).setCell ⟨w.heap.size+1,1,none⟩ (.int .i64 (d+1))).setCell ⟨w.heap.size+1,2,none⟩ (.int .i64 0)).setCell ⟨w.heap.size+1,3,none⟩ (.slice none 0 0)).setCell ⟨w.heap.size+1+1,0,none⟩ (.int .i64 other)).setCell ⟨w.heap.size+1+1,1,none⟩ (.int .i64 (d+1))).setCell ⟨w.heap.size+1+1,2,none⟩ (.int .i64 0)).setCell ⟨w.heap.size+1+1,3,none⟩ (.slice none 0 0)).drew G pg d xx other A n c [] []:=by
 obtain⟨s1,hs1⟩:∃s,s=((((X.setCell ⟨w.heap.size+1,0,none⟩ (.int .i64 pg)).setCell ⟨w.heap.size+1,1,none⟩ (.int .i64 (d+1))).setCell ⟨w.heap.size+1,2,none⟩ (.int .i64 0)).setCell ⟨w.heap.size+1,3,none⟩ (.slice none 0 0)):=⟨_,rfl⟩
 rw[<-hs1];have q0:s1.heap[w.heap.size]?=some (.cells #[.int .i64 pg,.int .i64 d,.int .i64 xx,.slice A n c] 104 (0,0)):=by rw[hs1];exact(Za6 (by omega) _ _ _ _).trans c0
 have q1:s1.heap[w.heap.size+1]?=some (.cells #[.int .i64 pg,.int .i64 (d+1),.int .i64 0,.slice none 0 0] 104 (0,0)):=by rw[hs1];exact Zbf c1 _ _ _ _
 have q2:s1.heap[w.heap.size+1+1]?=some (.cells #[.int .i64 0,.int .i64 0,.int .i64 0,.slice none 0 0] 104 (0,0)):=by rw[hs1];exact(Za6 (by omega) _ _ _ _).trans c2
 have hX1:Below w.heap.size w s1:=by rw[hs1];exact Zag hX (by omega) _ _ _ _
 exact⟨none,0,0,none,0,0,(Za6 (by omega) _ _ _ _).trans q0,(Za6 (by omega) _ _ _ _).trans q1,Zbf q2 _ _ _ _,⟨ZZe _,by decide⟩,⟨ZZe _,by decide⟩,Zp.none_ _ _,Zp.none_ _ _,(Zag hX1 (by omega) _ _ _ _).drew⟩
theorem Zjg{A I:World->Prop}{B:Prop}(h:(∀W,I W->A W)->B)(h2:∀W,I W->A W):B:=h h2
theorem Zhp{w:World}{G:Nat->Prop}{l:Zw}{A:Option Addr}{n c:Nat}(other:Int)(hnc:n<=c/\n<=4294967296)(h:Zp w G A n l.ps)(hG:∀k,G k->k<w.heap.size)(hd:0<=l.d/\l.d<=30) :
 Calls prog 238 #[.agg #[.int .i64 l.pg,.int .i64 l.d,.int .i64 l.x,.slice A n c],.int .i64 other] w fun e w'=>∃v1 v2,e=.returned (.tuple #[v1,v2])/\Zd9 w' G v1 ⟨l.pg,l.d+1,0,l.ps.filter (fun x=>!Zdm l.d x)⟩/\Zd9 w' G v2 ⟨other,l.d+1,0,l.ps.filter (Zdm l.d)⟩/\Below w.heap.size w w':=by
 obtain⟨pg,d,xx,ps⟩:=l;simp only at h hd ⊢;obtain⟨hd1,hd2⟩:=hd;have hX:Below w.heap.size w ((((w.alloc (.cells #[.int .i64 pg,.int .i64 d,.int .i64 xx,.slice A n c] 104)).alloc (.cells #[.int .i64 0,.int .i64 0,.int .i64 0,.slice none 0 0] 104)).alloc (.cells #[.int .i64 0,.int .i64 0,.int .i64 0,.slice none 0 0] 104)).alloc (.cells #[.int .i64 (d+1),.int .i64 0,.slice none 0 0] 102)):=((((Below.refl _ _).alloc (ZZe _) _).alloc (by simp) _).alloc (by simp <;> omega) _).alloc (by simp <;> omega) _;have c0:((((w.alloc (.cells #[.int .i64 pg,.int .i64 d,.int .i64 xx,.slice A n c] 104)).alloc (.cells #[.int .i64 0,.int .i64 0,.int .i64 0,.slice none 0 0] 104)).alloc (.cells #[.int .i64 0,.int .i64 0,.int .i64 0,.slice none 0 0] 104)).alloc (.cells #[.int .i64 (d+1),.int .i64 0,.slice none 0 0] 102)).heap[w.heap.size]?=some (.cells #[.int .i64 pg,.int .i64 d,.int .i64 xx,.slice A n c] 104 (0,0)):=(Below.heap_alloc _ _ w.heap.size (by simp <;> omega)).trans ((Below.heap_alloc _ _ w.heap.size (by simp <;> omega)).trans ((Below.heap_alloc _ _ w.heap.size (by simp)).trans (heap_alloc_new _ _)))
 have c1:((((w.alloc (.cells #[.int .i64 pg,.int .i64 d,.int .i64 xx,.slice A n c] 104)).alloc (.cells #[.int .i64 0,.int .i64 0,.int .i64 0,.slice none 0 0] 104)).alloc (.cells #[.int .i64 0,.int .i64 0,.int .i64 0,.slice none 0 0] 104)).alloc (.cells #[.int .i64 (d+1),.int .i64 0,.slice none 0 0] 102)).heap[w.heap.size+1]?=some (.cells #[.int .i64 0,.int .i64 0,.int .i64 0,.slice none 0 0] 104 (0,0)):=(Below.heap_alloc _ _ (w.heap.size+1) (by simp <;> omega)).trans ((Below.heap_alloc _ _ (w.heap.size+1) (by simp)).trans (by
  have:=heap_alloc_new (w.alloc (.cells #[.int .i64 pg,.int .i64 d,.int .i64 xx,.slice A n c] 104)) (.cells #[.int .i64 0,.int .i64 0,.int .i64 0,.slice none 0 0] 104)
  simpa using this))
 have c2:((((w.alloc (.cells #[.int .i64 pg,.int .i64 d,.int .i64 xx,.slice A n c] 104)).alloc (.cells #[.int .i64 0,.int .i64 0,.int .i64 0,.slice none 0 0] 104)).alloc (.cells #[.int .i64 0,.int .i64 0,.int .i64 0,.slice none 0 0] 104)).alloc (.cells #[.int .i64 (d+1),.int .i64 0,.slice none 0 0] 102)).heap[w.heap.size+1+1]?=some (.cells #[.int .i64 0,.int .i64 0,.int .i64 0,.slice none 0 0] 104 (0,0)):=(Below.heap_alloc _ _ (w.heap.size+1+1) (by simp)).trans (by
  have:=heap_alloc_new ((w.alloc (.cells #[.int .i64 pg,.int .i64 d,.int .i64 xx,.slice A n c] 104)).alloc (.cells #[.int .i64 0,.int .i64 0,.int .i64 0,.slice none 0 0] 104)) (.cells #[.int .i64 0,.int .i64 0,.int .i64 0,.slice none 0 0] 104)
  simpa using this)
 have c3:((((w.alloc (.cells #[.int .i64 pg,.int .i64 d,.int .i64 xx,.slice A n c] 104)).alloc (.cells #[.int .i64 0,.int .i64 0,.int .i64 0,.slice none 0 0] 104)).alloc (.cells #[.int .i64 0,.int .i64 0,.int .i64 0,.slice none 0 0] 104)).alloc (.cells #[.int .i64 (d+1),.int .i64 0,.slice none 0 0] 102)).heap[w.heap.size+1+1+1]?=some (.cells #[.int .i64 (d+1),.int .i64 0,.slice none 0 0] 102 (0,0)):=by
  have:=heap_alloc_new (((w.alloc (.cells #[.int .i64 pg,.int .i64 d,.int .i64 xx,.slice A n c] 104)).alloc (.cells #[.int .i64 0,.int .i64 0,.int .i64 0,.slice none 0 0] 104)).alloc (.cells #[.int .i64 0,.int .i64 0,.int .i64 0,.slice none 0 0] 104)) (.cells #[.int .i64 (d+1),.int .i64 0,.slice none 0 0] 102)
  simpa using this
 go_enter func238,ntmps238;go_wp2_with fail;generalize ((((w.alloc (.cells #[.int .i64 pg,.int .i64 d,.int .i64 xx,.slice A n c] 104)).alloc (.cells #[.int .i64 0,.int .i64 0,.int .i64 0,.slice none 0 0] 104)).alloc (.cells #[.int .i64 0,.int .i64 0,.int .i64 0,.slice none 0 0] 104)).alloc (.cells #[.int .i64 (d+1),.int .i64 0,.slice none 0 0] 102))=X at *;obtain⟨x0,x1,x2,x3,_,_⟩:=Za c0;obtain⟨_,_,_,_,f1,_⟩:=Za c1;obtain⟨_,_,_,_,f2,_⟩:=Za c2;have y0:X.cell? ⟨w.heap.size+1+1+1,0,none⟩=some (.int .i64 (d+1)):=by rw[cell_of_row X _ 0 _ _ (0,0) c3];rfl
 have y1:X.cell? ⟨w.heap.size+1+1+1,1,none⟩=some (.int .i64 0):=by rw[cell_of_row X _ 1 _ _ (0,0) c3];rfl
 have y2:X.cell? ⟨w.heap.size+1+1+1,2,none⟩=some (.slice none 0 0):=by rw[cell_of_row X _ 2 _ _ (0,0) c3];rfl
 have HC:=hid (ZZg c0 (ZZg c1 (ZZg c2 hX)));have HPIN:=hid h.pin;have HGS:=hid hG;clear c0 c1 c2 c3 hX h hG;have f10:=f1 0;have f11:=f1 1;have f12:=f1 2;have f13:=f1 3;have f20:=f2 0;have f21:=f2 1;have f22:=f2 2;have f23:=f2 3;clear f1 f2;apply Zjg (I:=fun W=>Zlv w W G pg d xx other A n c [] [])
 · intro rest0;have REST:=hid rest0;clear rest0
   go_region_law (fail)
   all_goals
    have HINV:=hid (Zjf (G:=G) (A:=A) (n:=n) (c:=c) (xx:=xx) (other:=other) HC.out.1 HC.out.2.1 HC.out.2.2.1 HC.out.2.2.2);generalize ((((((((X.setCell ⟨w.heap.size+1,0,none⟩ (.int .i64 pg)).setCell ⟨w.heap.size+1,1,none⟩ (.int .i64 (d+1))).setCell ⟨w.heap.size+1,2,none⟩ (.int .i64 0)).setCell ⟨w.heap.size+1,3,none⟩ (.slice none 0 0)).setCell ⟨w.heap.size+1+1,0,none⟩ (.int .i64 other)).setCell ⟨w.heap.size+1+1,1,none⟩ (.int .i64 (d+1))).setCell ⟨w.heap.size+1+1,2,none⟩ (.int .i64 0)).setCell ⟨w.heap.size+1+1,3,none⟩ (.slice none 0 0)).drew=W at HINV ⊢;exact REST.out W HINV.out
 clear f10 f11 f12 f13 f20 f21 f22 f23 x0 x1 x2 x3 y0 y1 y2 HC;intro W hinv;have HINV:=hid hinv;clear hinv
 obtain⟨b0,b1,b2⟩:W.heap[w.heap.size]?=some (.cells #[.int .i64 pg,.int .i64 d,.int .i64 xx,.slice A n c] 104 (0,0))/\True/\True:=by
  obtain⟨_,_,_,_,_,_,b0,_⟩:=HINV.out;exact⟨b0,trivial,trivial⟩
 obtain⟨x0,x1,x2,x3,_,_⟩:=Za b0;clear b0 b1 b2;go_wp2
 go_loopw[25] (fun i wr=>∃k:Nat,k<=n/\i=.int .i64 k/\Hid (Zlv w wr G pg d xx other A n c ((ps.take k).filter (fun x=>!Zdm d x)) ((ps.take k).filter (Zdm d)))) (fun i _=>n-(intOf i).toNat)
 case atStart=>exact⟨0,Nat.zero_le _,rfl,by simpa using HINV⟩
 case round=>
  obtain⟨k,hk,rfl,hv⟩:=hrel;by_cases hlt:k<n
  · obtain⟨b,off,rfl,hb,hbG,hat⟩:=HPIN.out.2 (by omega);obtain⟨x,hx⟩:∃x,ps[k]?=some x:=⟨_,ZZc (by rw[HPIN.out.1];exact hlt)⟩
    obtain⟨ka,kn,kc,va,vn,vc,h0,h1,hk1,hkc,hv1,hvc⟩:=hat k x hx;have htk:ps.take (k+1)=ps.take k++[x]:=by rw[List.take_add_one,hx];rfl
    have hbw:Below w.heap.size w wr:=by
     obtain⟨_,_,_,_,_,_,_,_,_,_,_,_,_,hbw⟩:=hv.out;exact hbw
    have h0':=(hbw.cell (p:=⟨b,off+k*2,none⟩) hb).trans h0;have h1':=(hbw.cell (p:=⟨b,off+k*2+1,none⟩) hb).trans h1;have hal:Below wr.heap.size wr (wr.alloc (.cells #[.slice ka kn kc,.slice va vn vc] 65)).drew:=((Below.refl _ _).alloc (ZZe _) _).drew;have HV5:=hid (hv.out.below hal);have HLO:=hid (show(ps.take (k+1)).filter (fun x=>!Zdm d x)=(ps.take k).filter (fun x=>!Zdm d x)++(if Zdm d x then []else [x]) by rw[htk,List.filter_append];by_cases hh:Zdm d x=true <;> simp[hh]);have HHI:=hid (show(ps.take (k+1)).filter (Zdm d)=(ps.take k).filter (Zdm d)++(if Zdm d x then [x]else []) by rw[htk,List.filter_append];by_cases hh:Zdm d x=true <;> simp[hh])
    have hG':∀j,(G j∨(w.heap.size<=j/\j<w.heap.size+3))->j<(wr.alloc (.cells #[.slice ka kn kc,.slice va vn vc] 65)).drew.heap.size:=fun j hj=>by
     obtain⟨_,_,_,_,_,_,_,_,b2,_,_,_,_,hbw'⟩:=hv.out;have h2:=(ZZa.1 b2).1;have hs:(wr.alloc (.cells #[.slice ka kn kc,.slice va vn vc] 65)).drew.heap.size=wr.heap.size+1:=by show(wr.alloc _).heap.size=_;simp
     rcases hj with hj|hj
     · have:=HGS.out j hj
       have:=hbw'.size
       omega
     · omega
    have HGW:=hid hG'
    have HBK:Hid (BIn (wr.alloc (.cells #[.slice ka kn kc,.slice va vn vc] 65)).drew (fun j=>G j∨(w.heap.size<=j/\j<w.heap.size+3)) ka kn x.1/\BIn (wr.alloc (.cells #[.slice ka kn kc,.slice va vn vc] 65)).drew (fun j=>G j∨(w.heap.size<=j/\j<w.heap.size+3)) va vn x.2):=hid (by
     have hw5:=hbw.trans (hal.mono hbw.size)
     have hk5:∀j,j<w.heap.size->¬G j->¬(G j∨(w.heap.size<=j/\j<w.heap.size+3)):=fun j hj hn e=>by
      rcases e with e|e
      · exact hn e
      · omega
     exact⟨hk1.grow hw5.size (fun j hj _=>hw5.block j hj) hk5,hv1.grow hw5.size (fun j hj _=>hw5.block j hj) hk5⟩)
    have hbk:=HBK.out.1.1;have hpb:=heap_alloc_new wr (.cells #[.slice ka kn kc,.slice va vn vc] 65)
    have hb5:(wr.alloc (.cells #[.slice ka kn kc,.slice va vn vc] 65)).drew.heap[w.heap.size]?=some (.cells #[.int .i64 pg,.int .i64 d,.int .i64 xx,.slice (some ⟨b,off,none⟩) n c] 104 (0,0)):=by
     obtain⟨_,_,_,_,_,_,b0,_⟩:=HV5.out;exact b0
    have c5:(wr.alloc (.cells #[.slice ka kn kc,.slice va vn vc] 65)).drew.cell? ⟨wr.heap.size,0,none⟩=some (.slice ka kn kc)/\(wr.alloc (.cells #[.slice ka kn kc,.slice va vn vc] 65)).drew.cell? ⟨w.heap.size,1,none⟩=some (.int .i64 d):=⟨cell_of_row _ _ 0 _ _ (0,0) hpb,(Za hb5).2.1⟩
    have HP1:=hid (show(wr.alloc (.cells #[.slice ka kn kc,.slice va vn vc] 65)).drew.cell? ⟨wr.heap.size,1,none⟩=some (.slice va vn vc)from cell_of_row _ _ 1 _ _ (0,0) hpb);have HOf:=hid (ZnZ ka kn kc _ x.1 _ hbk hkc.2);have HHi:=hid (Ze6 (hashL x.1) d (ZeA _) ⟨by omega,by omega⟩ (wr.alloc (.cells #[.slice ka kn kc,.slice va vn vc] 65)).drew);have hhk:ZaC (hashL x.1) d=Zdm d x:=rfl;rw[hhk]at HHi;clear hbw hal hG' h0 h1 hat hx htk hk1 hv1 hbk hpb hb5;go_wp2_with fail
    go_region_held3 (fun W=>W.cell? ⟨wr.heap.size,0,none⟩=some (.slice ka kn kc)/\W.cell? ⟨w.heap.size,1,none⟩=some (.int .i64 d))
     (first|with_reducible exact c5|exact c5)
     (first
      | (go_at_call 165;refine Calls.mono HOf.out ?_;rintro e wE ⟨rfl,rfl⟩)
      | (go_at_call 240;refine Calls.mono HHi.out ?_;rintro e wE ⟨rfl,rfl⟩))
    clear HOf HHi;obtain⟨wy,hwy⟩:∃wy,wy=(wr.alloc (.cells #[.slice ka kn kc,.slice va vn vc] 65)).drew:=⟨_,rfl⟩
    rw[<-hwy]at c5 HV5 HGW HBK HP1 ⊢;have hgb:wr.heap.size<wy.heap.size:=by rw[hwy];show wr.heap.size<(wr.alloc _).heap.size;simp
    clear hwy;obtain⟨A1,n1,c1,A2,n2,c2,b0,b1,b2,e1,e2,s1,s2,hbw⟩:=HV5.out;have p0:wy.drew.cell? ⟨wr.heap.size,0,none⟩=some (.slice ka kn kc):=c5.1;have p1:wy.drew.cell? ⟨wr.heap.size,1,none⟩=some (.slice va vn vc):=HP1.out
    cases hh:Zdm d x with
    | false=>
     obtain⟨z0,z1,z2,z3,_,_⟩:=Za b1;have HBX:=hid b1
     have hn1:n1<=4294967296:=by
      have h1:=s1.now.1;have h2:((ps.take k).filter (fun x=>!Zdm d x)).length<=(ps.take k).length:=List.length_filter_le _ _;have h3:(ps.take k).length<=k:=by rw[List.length_take];exact Nat.min_le_left _ _
      omega
     have HW:=hid (Zc0 (l:=⟨pg,d+1,0,(ps.take k).filter (fun x=>!Zdm d x)⟩) e1.1 s1 HGW.out HBK.out.1 HBK.out.2 hkc hvc hn1);have q0:wy.cell? ⟨wr.heap.size,0,none⟩=some (.slice ka kn kc):=p0;have q1:wy.cell? ⟨wr.heap.size,1,none⟩=some (.slice va vn vc):=p1;clear b0 b1 b2 s1 s2 hbw c5 p0 p1;go_wp2_with fail;refine HW.out.mono ?_;rintro e w5⟨lv,rfl,⟨A3,n3,c3,rfl,hc3,hm3,hs3⟩,hb5⟩;have HV6:=HV5.out.below hb5;obtain⟨u0,u1,u2,u3,f2,_⟩:=Za ((hb5.block _ (ZZa.1 HBX.out).1).trans HBX.out);have HV7:=hid (HV6.low ⟨hc3,hm3⟩ hs3);have g0:=f2 0;have g1:=f2 1;have g2:=f2 2;have g3:=f2 3;clear f2 HV6 hb5 hs3 HW HBX z0 z1 z2 z3 q0 q1;go_wp2_with fail;go_roundw
     case rel=>exact⟨k+1,by omega,by go_num,hid (by have h:=HV7.out;rw[HLO.out,HHI.out,hh];simpa using h)⟩
     case measure=>simp[intOf];omega
    | true=>
     obtain⟨z0,z1,z2,z3,_,_⟩:=Za b2;have HBX:=hid b2
     have hn1:n2<=4294967296:=by
      have h1:=s2.now.1;have h2:((ps.take k).filter (Zdm d)).length<=(ps.take k).length:=List.length_filter_le _ _;have h3:(ps.take k).length<=k:=by rw[List.length_take];exact Nat.min_le_left _ _
      omega
     have HW:=hid (Zc0 (l:=⟨other,d+1,0,(ps.take k).filter (Zdm d)⟩) e2.1 s2 HGW.out HBK.out.1 HBK.out.2 hkc hvc hn1);have q0:wy.cell? ⟨wr.heap.size,0,none⟩=some (.slice ka kn kc):=p0;have q1:wy.cell? ⟨wr.heap.size,1,none⟩=some (.slice va vn vc):=p1;clear b0 b1 b2 s1 s2 hbw c5 p0 p1;go_wp2_with fail;refine HW.out.mono ?_;rintro e w5⟨lv,rfl,⟨A3,n3,c3,rfl,hc3,hm3,hs3⟩,hb5⟩;have HV6:=HV5.out.below hb5;obtain⟨u0,u1,u2,u3,f2,_⟩:=Za ((hb5.block _ (ZZa.1 HBX.out).1).trans HBX.out);have HV7:=hid (HV6.high ⟨hc3,hm3⟩ hs3);have g0:=f2 0;have g1:=f2 1;have g2:=f2 2;have g3:=f2 3;clear f2 HV6 hb5 hs3 HW HBX z0 z1 z2 z3 q0 q1;go_wp2_with fail;go_roundw
     case rel=>exact⟨k+1,by omega,by go_num,hid (by have h:=HV7.out;rw[HLO.out,HHI.out,hh];simpa using h)⟩
     case measure=>simp[intOf];omega
  · obtain rfl:k=n:=by omega
    have HN:Hid (Zlv w wr G pg d xx other A k c (ps.filter (fun x=>!Zdm d x)) (ps.filter (Zdm d))):=hid (by
     have:=hv.out
     rwa[List.take_of_length_le (Nat.le_of_eq HPIN.out.1)]at this)
    obtain⟨A1,n1,c1,A2,n2,c2,b0,b1,b2,e1,e2,s1,s2,hbw⟩:=HN.out;obtain⟨z0,z1,z2,z3,_,_⟩:=Za b1;obtain⟨y0,y1,y2,y3,_,_⟩:=Za b2;have HB:=hid (ZZg b1 b2);have HES:=hid (ZZg e1 (ZZg e2 (ZZg s1 s2)));clear b0 b1 b2 e1 e2 s1 s2 hbw;go_wp2_with fail;apply Zjg (I:=fun W=>Zlv w W G pg d xx other A k c (ps.filter (fun x=>!Zdm d x)) (ps.filter (Zdm d)))
    · intro rest0;have REST:=hid rest0;clear rest0
      go_region_law (fail)
      all_goals
       have HEND:=hid (((HN.out.low HES.out.1 HES.out.2.2.1).high HES.out.2.1 (Zbz HES.out.2.2.2 (.inr ⟨by omega,by omega⟩) _ _ _ _)).below (Below.refl _ _).drew);generalize ((((((((wr.setCell ⟨w.heap.size+1,0,none⟩ (.int .i64 pg)).setCell ⟨w.heap.size+1,1,none⟩ (.int .i64 (d+1))).setCell ⟨w.heap.size+1,2,none⟩ (.int .i64 0)).setCell ⟨w.heap.size+1,3,none⟩ (.slice A1 n1 c1)).setCell ⟨w.heap.size+1+1,0,none⟩ (.int .i64 other)).setCell ⟨w.heap.size+1+1,1,none⟩ (.int .i64 (d+1))).setCell ⟨w.heap.size+1+1,2,none⟩ (.int .i64 0)).setCell ⟨w.heap.size+1+1,3,none⟩ (.slice A2 n2 c2)).drew=W at HEND ⊢;exact REST.out W HEND.out
    · intro W2 hW2;have HW2:=hid hW2;obtain⟨A3,n3,c3,A4,n4,c4,b0,b1,b2,e1,e2,s1,s2,hbw⟩:=hW2;obtain⟨z0,z1,z2,z3,_,_⟩:=Za b1;obtain⟨y0,y1,y2,y3,_,_⟩:=Za b2;clear HES HN HB;go_wp2;have H1:Zp W2 G A3 n3 (ps.filter (fun x=>!Zdm d x)):=fun V hV hk=>s1 V hV (fun k hk' hn=>hk k hk' (fun g=>hn (.inl g)))
      have H2:Zp W2 G A4 n4 (ps.filter (Zdm d)):=fun V hV hk=>s2 V hV (fun k hk' hn=>hk k hk' (fun g=>hn (.inl g)))
      clear b0 b1 b2 s1 s2 HW2;exact bodyPost_ret (v:=.tuple #[.agg #[.int .i64 pg,.int .i64 (d+1),.int .i64 0,.slice A3 n3 c3],.agg #[.int .i64 other,.int .i64 (d+1),.int .i64 0,.slice A4 n4 c4]]) (by simp[results,Tryz.results238,go_sem,z0,z1,z2,z3,y0,y1,y2,y3]) rfl ⟨_,_,rfl,⟨A3,n3,c3,rfl,e1.1,e1.2,H1⟩,⟨A4,n4,c4,rfl,e2.1,e2.2,H2⟩,hbw⟩
def Zjh(S:DS)(L:List (Int×List Int))(M M':MV)(SL:Int->Option Int)(d:Int)(M1:MV)(SL1:Int->Option Int)(k:Nat)(ss1:List Stp):Prop:=
 (d≠M'.d/\M1=M'/\SL1=SL/\k=0/\ss1 = [])∨
 (d=M'.d/\0<=M'.d/\M'.d<=9/\∃(ssl:List Stp) (pgs:Nat->Int),LenIs S L {M' with d:=M'.d+1} M1 ssl/\(∀j:Nat,j<2^ZA M'.d->ZeF S L M SL (j:Int) (pgs j)/\-9223372036854775808<=pgs j/\pgs j<=9223372036854775807)/\ssl.length<=1000/\SL1=ZdE (2^ZA M'.d) pgs (2^ZA M'.d) SL/\k=2^ZA M'.d/\ss1=ssl++Zej (2^ZA M'.d) pgs (2^ZA M'.d))
def loL(pg d:Int)(ps:List KV):Zw:=⟨pg,d+1,0,ps.filter (fun x=>!Zdm d x)⟩
def hiL(pg d:Int)(ps:List KV):Zw:=⟨pg,d+1,0,ps.filter (Zdm d)⟩
def Zc3(w0 w w':World)(ch st mb:Nat)(M M2:MV)(v v' sv:Value)(ns k K:Nat)(SL1:Int->Option Int)(fs:List Value)(ss ss1:List Stp)(G:Nat->Prop)(hi:Bool)(lpg pg ld:Int)(ps:List KV)(s0:Nat)(u:Value):Prop:=
 ∃v2 sv2 fs2,Zd9 w' (fun k=>G k∨GX ch mb v2 sv2 k) u (if hi then hiL pg ld ps else loL lpg ld ps)/\ZF w0 w' ch st mb M M2 v v2 sv2 (ns+k+K) (Zcn s0 (2^ZA (ld+1)) pg K SL1) fs2 (ss++ss1++ZaQ s0 (2^ZA (ld+1)) pg K++[.lay (if hi then loL lpg ld ps else hiL pg ld ps).pg (pageBk (if hi then loL lpg ld ps else hiL pg ld ps).bv)])/\fs2.length<=fs.length+4000/\ZZ w0.heap.size w.heap.size ch mb v' sv v2 sv2 fs fs2 ss (ss++ss1++ZaQ s0 (2^ZA (ld+1)) pg K++[.lay (if hi then loL lpg ld ps else hiL pg ld ps).pg (pageBk (if hi then loL lpg ld ps else hiL pg ld ps).bv)]) w w'
theorem Zp7{a b K:Nat}(h:a<=b+2024)(hm:b+4000<=3999999)(hK:K<=1024):a+K<=3999999:=by omega
theorem Zp8{a k K:Nat}(h:a+2048<=3999999)(hk:k<=1024)(hK:K<=1024):a+k+K<=3999999:=by omega
theorem Zp9{d:Int}(h:0<=d/\d<=9):0<=d+1/\d+1<=10:=by omega
theorem Zao{W:World}{g h:Nat}{T:TypeId}{x0 x1 x2 x3 y0 y1 y2 y3:Value}(hx:W.heap[g]?=some (.cells #[x0,x1,x2,x3] T (0,0)))(hy:W.heap[h]?=some (.cells #[y0,y1,y2,y3] T (0,0))):(W.cell? ⟨g,0,none⟩=some x0/\W.cell? ⟨g,1,none⟩=some x1/\W.cell? ⟨g,2,none⟩=some x2/\W.cell? ⟨g,3,none⟩=some x3)/\(W.cell? ⟨h,0,none⟩=some y0/\W.cell? ⟨h,1,none⟩=some y1/\W.cell? ⟨h,2,none⟩=some y2/\W.cell? ⟨h,3,none⟩=some y3):=by
 obtain⟨a0,a1,a2,a3,_⟩:=Za hx;obtain⟨b0,b1,b2,b3,_⟩:=Za hy;exact⟨⟨a0,a1,a2,a3⟩,b0,b1,b2,b3⟩
theorem Z0(W:World){g k:Nat}(h:k≠g)(x0 x1 x2 x3:Value):((((W.setCell ⟨g,0,none⟩ x0).setCell ⟨g,1,none⟩ x1).setCell ⟨g,2,none⟩ x2).setCell ⟨g,3,none⟩ x3).heap[k]?=W.heap[k]?:=
 (Below.heap_setCell _ ⟨g,3,none⟩ x3 k h).trans ((Below.heap_setCell _ ⟨g,2,none⟩ x2 k h).trans ((Below.heap_setCell _ ⟨g,1,none⟩ x1 k h).trans (Below.heap_setCell _ ⟨g,0,none⟩ x0 k h)))
section
variable{D:World->(Nat->Prop)->Addr->DS->Prop}{w0 w w':World}{F O:Nat->Prop}{p:Addr}{S:DS}{q r b st ch mb:Nat}{seq:Int}{L:List (Int×List Int)}{M M':MV}{v v' sv:Value}{ns:Nat}{SL:Int->Option Int}{fs:List Value}{ss:List Stp}
theorem ZqC(api:Zb D)(hS:SAt D w0 F O p S q seq r b st L)(h:ZF w0 w ch st mb M M' v v' sv ns SL fs ss){d:Int}{M1:MV}{SL1:Int->Option Int}{k:Nat}{ss1:List Stp}(hdb:Zjh S L M M' SL d M1 SL1 k ss1)(hm:fs.length+2024<=3999999)(hns:ns+1024<=3999999)(he:d=M'.d) :
 Calls prog 237 #[.pointer (some ⟨ch,0,none⟩)] w fun e w'=>e=.returned (.int .i64 0)/\∃v2 sv2 fs2,ZF w0 w' ch st mb M M1 v v2 sv2 (ns+k) SL1 fs2 (ss++ss1)/\fs2.length<=fs.length+2024/\ZZ w0.heap.size w.heap.size ch mb v' sv v2 sv2 fs fs2 ss (ss++ss1) w w':=by
 rcases hdb with ⟨hne,_⟩|⟨_,h0,h9,ssl,pgs,hl,hp,hll,rfl,rfl,rfl⟩
 · exact absurd he hne
 · have hpw:=Zeb M'.d;refine(Zpr api hS h ⟨h0,h9⟩ hl pgs hp (by omega) hns).mono fun e w' z=>?_
   obtain⟨e1,v2,sv2,fs2,z1,z2,z3⟩:=z;rw[List.append_assoc]at z1 z3;exact⟨e1,v2,sv2,fs2,z1,by omega,z3⟩
theorem ZeG{v2 sv2:Value}{fs2:List Value}{ss2:List Stp}{wK:World}{M2:MV}{n2:Nat}{SL2:Int->Option Int}(hg:ZF w0 wK ch st mb M M2 v v2 sv2 n2 SL2 fs2 ss2){Z B2:Nat}(hw:ZZ w0.heap.size Z ch mb v' sv v2 sv2 fs fs2 ss ss2 w wK){lo:Nat}(hav:ZeC w0.heap.size wK (fun k=>lo<=k/\k<B2) ch fs2 ss2){g:Nat}(hgl:lo<=g/\g<B2)(hn:¬GX ch mb v2 sv2 g)(h0:w0.heap.size<=g)(hwg:w.heap.size<=g){T:TypeId}{z0 z1 z2 z3:Value}(hz:wK.heap[g]?=some (.cells #[z0,z1,z2,z3] T (0,0)))(x0 x1 x2 x3:Value) :
 ZF w0 ((((wK.setCell ⟨g,0,none⟩ x0).setCell ⟨g,1,none⟩ x1).setCell ⟨g,2,none⟩ x2).setCell ⟨g,3,none⟩ x3) ch st mb M M2 v v2 sv2 n2 SL2 fs2 ss2/\ZZ w0.heap.size Z ch mb v' sv v2 sv2 fs fs2 ss ss2 w ((((wK.setCell ⟨g,0,none⟩ x0).setCell ⟨g,1,none⟩ x1).setCell ⟨g,2,none⟩ x2).setCell ⟨g,3,none⟩ x3)/\((((wK.setCell ⟨g,0,none⟩ x0).setCell ⟨g,1,none⟩ x1).setCell ⟨g,2,none⟩ x2).setCell ⟨g,3,none⟩ x3).heap[g]?=some (.cells #[x0,x1,x2,x3] T (0,0)):=by
 have g1:=hg.poke hav (a:=⟨g,0,none⟩) hgl hn h0 x0;have w1:=hw.poke hav (a:=⟨g,0,none⟩) hgl hwg x0;have a1:=hav.poke (a:=⟨g,0,none⟩) hgl x0;have g2:=g1.poke a1 (a:=⟨g,1,none⟩) hgl hn h0 x1;have w2:=w1.poke a1 (a:=⟨g,1,none⟩) hgl hwg x1;have a2:=a1.poke (a:=⟨g,1,none⟩) hgl x1;have g3:=g2.poke a2 (a:=⟨g,2,none⟩) hgl hn h0 x2;have w3:=w2.poke a2 (a:=⟨g,2,none⟩) hgl hwg x2;have a3:=a2.poke (a:=⟨g,2,none⟩) hgl x2;refine⟨g3.poke a3 (a:=⟨g,3,none⟩) hgl hn h0 x3,w3.poke a3 (a:=⟨g,3,none⟩) hgl hwg x3,?_⟩;have h1:(wK.setCell ⟨g,0,none⟩ x0).heap[g]?=some (.cells #[x0,z1,z2,z3] T (0,0)):=heap_setCell_same _ g 0 _ T x0 hz;have h2:((wK.setCell ⟨g,0,none⟩ x0).setCell ⟨g,1,none⟩ x1).heap[g]?=some (.cells #[x0,x1,z2,z3] T (0,0)):=heap_setCell_same _ g 1 _ T x1 h1;have h3:(((wK.setCell ⟨g,0,none⟩ x0).setCell ⟨g,1,none⟩ x1).setCell ⟨g,2,none⟩ x2).heap[g]?=some (.cells #[x0,x1,x2,z3] T (0,0)):=heap_setCell_same _ g 2 _ T x2 h2;exact heap_setCell_same _ g 3 _ T x3 h3
theorem Zqa(api:Zb D)(hS:SAt D w0 F O p S q seq r b st L)(h:ZF w0 w ch st mb M M' v v' sv ns SL fs ss){G:Nat->Prop}(hG:∀k,G k->k<w.heap.size)(hGX:∀k,GX ch mb v' sv k->G k){lpg ld:Int}{ps:List KV}{A:Option Addr}{n c:Nat}(hnc:n<=c/\n<=4294967296)(hst:Zp w G A n ps){hh:Nat}(hhl:hh<4294967296)(hld:0<=ld/\ld<=9)(hlpg : -9223372036854775808<=lpg/\lpg<=9223372036854775807)
 {M1:MV} {SL1:Int->Option Int} {k:Nat} {ss1:List Stp} (hdb:Zjh S L M M' SL ld M1 SL1 k ss1) (hmd : -9223372036854775808<=M'.d/\M'.d<=9223372036854775807) (hn:0<=M1.n/\M1.n<4611686018427387904) (hf : -9223372036854775808<=M1.f/\M1.f<=9223372036854775807) {pg:Int} {M2:MV} (ht:Zcr S L M1 pg M2) (hpg : -9223372036854775808<=pg/\pg<=9223372036854775807) (hd2:0<=M2.d/\M2.d<=10) (K:Nat)
 (hin:∀j:Nat,j<K->slotN hh (ZJ ld)+2^ZA ld+j*2^ZA (ld+1)<2^ZA M2.d/\ZeF S L M SL1 ((slotN hh (ZJ ld)+2^ZA ld+j*2^ZA (ld+1):Nat):Int) lpg) (hend:2^ZA M2.d<=slotN hh (ZJ ld)+2^ZA ld+K*2^ZA (ld+1)) (hend2:slotN hh (ZJ ld)+2^ZA ld+K*2^ZA (ld+1)<=100000)
 (hmay:ZD (if ZaC hh ld then loL lpg ld ps else hiL pg ld ps).bv=true) (hK:K<=1024) (hm:fs.length+4000<=3999999) (hns:ns+2048<=3999999) :
 Calls prog 213 #[.pointer (some ⟨ch,0,none⟩),.agg #[.int .i64 lpg,.int .i64 ld,.int .i64 0,.slice A n c],.int .u32 (hh:Int)] w fun e w'=>∃u,e=.returned (.tuple #[u,.int .i64 0])/\Zc3 w0 w w' ch st mb M M2 v v' sv ns k K SL1 fs ss ss1 G (ZaC hh ld) lpg pg ld ps (slotN hh (ZJ ld)+2^ZA ld) u:=by
 have hX:Below w.heap.size w ((w.alloc (.cells #[.int .i64 lpg,.int .i64 ld,.int .i64 0,.slice A n c] 104)).alloc (.cells #[.int .i64 0,.int .i64 0,.int .i64 0,.slice none 0 0] 104)):=((Below.refl _ _).alloc (ZZe _) _).alloc (by simp) _;have hb0:((w.alloc (.cells #[.int .i64 lpg,.int .i64 ld,.int .i64 0,.slice A n c] 104)).alloc (.cells #[.int .i64 0,.int .i64 0,.int .i64 0,.slice none 0 0] 104)).heap[w.heap.size]?=some (.cells #[.int .i64 lpg,.int .i64 ld,.int .i64 0,.slice A n c] 104 (0,0)):=(Below.heap_alloc _ _ w.heap.size (by simp)).trans (heap_alloc_new _ _)
 have hb1:((w.alloc (.cells #[.int .i64 lpg,.int .i64 ld,.int .i64 0,.slice A n c] 104)).alloc (.cells #[.int .i64 0,.int .i64 0,.int .i64 0,.slice none 0 0] 104)).heap[w.heap.size+1]?=some (.cells #[.int .i64 0,.int .i64 0,.int .i64 0,.slice none 0 0] 104 (0,0)):=by
  have:=heap_alloc_new (w.alloc (.cells #[.int .i64 lpg,.int .i64 ld,.int .i64 0,.slice A n c] 104)) (.cells #[.int .i64 0,.int .i64 0,.int .i64 0,.slice none 0 0] 104)
  simpa using this
 have hsX:((w.alloc (.cells #[.int .i64 lpg,.int .i64 ld,.int .i64 0,.slice A n c] 104)).alloc (.cells #[.int .i64 0,.int .i64 0,.int .i64 0,.slice none 0 0] 104)).heap.size=w.heap.size+2:=by simp
 have HS:=hid hS;have HH:=hid h;have HST:=hid hst;have HGS:=hid hG;have HGX:=hid hGX;have HLT:=hid h.lt;have HDB:=hid hdb;have HIN:=hid hin;have HTK:=hid ht;have HEN:=hid (ZZg hend hend2);clear hS h hst hG hGX hdb hin ht hend hend2;go_enter func213,ntmps213;generalize hW0:(w.alloc (.cells #[.int .i64 lpg,.int .i64 ld,.int .i64 0,.slice A n c] 104)).alloc (.cells #[.int .i64 0,.int .i64 0,.int .i64 0,.slice none 0 0] 104)=W0 at *;obtain⟨z0,z1,z2,z3,_,_⟩:=Za hb0;have hg0:=HH.out.keep hX;obtain⟨y1,y2,y3,y4,y5,y6,y7,y8⟩:=hg0.at_.cells2;have z2':=z2;rw[<-hW0]at z2';have HG0:=hid hg0;have HX:=hid hX;have HB0:=hid (ZZg hb0 hb1);have HAV:=hid (HH.out.avoid hX);clear hg0 hX hb0 hb1 y1 y2 y3 y4 y5 y7 y8;go_wp2_with fail;clear hW0 z2'
 go_region_held3 (fun W=>W.cell? ⟨w.heap.size,1,none⟩=some (.int .i64 ld)/\W.cell? ⟨ch,6,none⟩=some (.int .i64 M'.d))
  (first|with_reducible exact⟨z1,y6⟩|exact⟨z1,y6⟩)
  (fail)
 have HX0:=hid (show Below W0.heap.size W0 W0.drew from(Below.refl _ _).drew);by_cases hde:ld=M'.d
 · --POS
   subst hde
   have HKK:=hid (show k<=1024 from by
    rcases HDB.out with ⟨a,_⟩|⟨_,_,_,_,_,_,_,_,_,e,_⟩
    · exact absurd rfl a
    · rw[e];exact(Zeb _).2)
   have HD:=hid (ZqC api HS.out (HG0.out.keep HX0.out) HDB.out (by omega) (by omega) rfl);go_wp2_with fail;refine HD.out.mono ?_;rintro e wd⟨rfl,v1,sv1,fs1,hg1,hfl1,hw1⟩;have HG1:=hid hg1;have HFL1:=hid hfl1;have HW1:=hid ((ZZ.below HX0.out).trans (hw1.mono HX0.out.size));clear hg1 hfl1 hw1 HD;have HT:=hid (Zjc api HS.out HG1.out hn hf HTK.out);go_wp2_with fail;refine HT.out.mono ?_;rintro e w1⟨rfl,hg1,hw1⟩;have hwW:=HW1.out.trans (hw1.mono HW1.out.touch.size);have hb0:=(hwW.touch.block w.heap.size (by omega) (fun e=>by have:=(HLT.out _ e).2;omega)).trans HB0.out.1;have hb1:=(hwW.touch.block (w.heap.size+1) (by omega) (fun e=>by have:=(HLT.out _ e).2;omega)).trans HB0.out.2;have hwX:=(ZZ.below HX.out).trans (hwW.mono HX.out.size);obtain⟨G2,hG2⟩:∃G2:Nat->Prop,G2=fun k=>G k∨(w.heap.size<=k/\k<w1.heap.size):=⟨_,rfl⟩
   have HG2S:=hid (show(∀k,G k->G2 k)/\(∀k,w.heap.size<=k->k<w1.heap.size->G2 k)from⟨fun k hk=>by rw[hG2];exact .inl hk,fun k h1 h2=>by rw[hG2];exact .inr ⟨h1,h2⟩⟩);have hst1:Zp w1 G2 A n ps:=HST.out.grow hwX.touch.size (fun k hk hn'=>hwX.touch.block k hk (fun e=>hn' (HGX.out k e))) (fun k hk hn' hg=>by rw[hG2]at hg;rcases hg with q|q;exact hn' q;omega)
   have hG1:∀k,G2 k->k<w1.heap.size:=fun k hk=>by
    rw[hG2]at hk;rcases hk with q|q
    · exact ZZd (HGS.out k q) hwX.touch.size
    · exact q.2
   have HHV:Hid (Calls prog 238 #[.agg #[.int .i64 lpg,.int .i64 M'.d,.int .i64 0,.slice A n c],.int .i64 pg] w1 fun e w'=>∃v1 v2,e=.returned (.tuple #[v1,v2])/\Zd9 w' G2 v1 (loL lpg M'.d ps)/\Zd9 w' G2 v2 (hiL pg M'.d ps)/\Below w1.heap.size w1 w'):=hid (Zhp (l:=⟨lpg,M'.d,0,ps⟩) pg hnc hst1 hG1 ⟨hld.1,by show M'.d<=30;omega⟩);obtain⟨x0,x1,x2,x3,_,_⟩:=Za hb0;have HG2:=hid hg1;have HW2:=hid hwX;have HWW:=hid hwW;have HB1:=hid (ZZg hb0 hb1);clear hwW hb0 hb1 hwX hst1 hG1 hG2 hg1 hw1 HT z0 z1 z2 z3 y6;go_wp2_with fail;refine HHV.out.mono ?_;intro e w2 hz;obtain⟨u1,u2,he,l1,l2,hb2⟩:=hz
   --MARK1
   obtain⟨A1,n1,c1,hu1,e1,e1',s1⟩:=l1;obtain⟨A2,n2,c2,hu2,e2,e2',s2⟩:=l2
   --MARK2
   have he':e=.returned (.tuple #[.agg #[.int .i64 lpg,.int .i64 (M'.d+1),.int .i64 0,.slice A1 n1 c1],.agg #[.int .i64 pg,.int .i64 (M'.d+1),.int .i64 0,.slice A2 n2 c2]]):=by rw[he,hu1,hu2];rfl
   clear hu1 hu2 he;subst he'
   --MARK3
   obtain⟨w4,hw4⟩:∃w4,w4=(w2.alloc (.cells #[.int .i64 lpg,.int .i64 (M'.d+1),.int .i64 0,.slice A1 n1 c1] 104)).alloc (.cells #[.int .i64 pg,.int .i64 (M'.d+1),.int .i64 0,.slice A2 n2 c2] 104):=⟨_,rfl⟩
   have hb4:Below w2.heap.size w2 w4:=by rw[hw4];exact((Below.refl _ _).alloc (ZZe _) _).alloc (by simp) _
   have r0:w4.heap[w2.heap.size]?=some (.cells #[.int .i64 lpg,.int .i64 (M'.d+1),.int .i64 0,.slice A1 n1 c1] 104 (0,0)):=by rw[hw4];exact(Below.heap_alloc _ _ w2.heap.size (by simp)).trans (heap_alloc_new _ _)
   have r1:w4.heap[w2.heap.size+1]?=some (.cells #[.int .i64 pg,.int .i64 (M'.d+1),.int .i64 0,.slice A2 n2 c2] 104 (0,0)):=by
    rw[hw4]
    have:=heap_alloc_new (w2.alloc (.cells #[.int .i64 lpg,.int .i64 (M'.d+1),.int .i64 0,.slice A1 n1 c1] 104)) (.cells #[.int .i64 pg,.int .i64 (M'.d+1),.int .i64 0,.slice A2 n2 c2] 104)
    simpa using this
   have HR:=hid (ZZg r0 (ZZg r1 (ZZg hb2 hb4)));have HE12:=hid (ZZg (ZZg e1 (ZZg e1' s1)) (ZZg e2 (ZZg e2' s2)));clear HHV hb2 hb4 r0 r1 e1 e1' s1 e2 e2' s2;go_wp2_with fail;rw[<-hw4];clear hw4;obtain⟨N1,hN1⟩:∃N,N=2^ZA M'.d:=⟨_,rfl⟩
   obtain⟨s0,hs0⟩:∃s,s=slotN hh (ZJ M'.d):=⟨_,rfl⟩
   have hsh:wrap64 (2^M'.d.toNat)=(N1:Int):=by rw[hN1];exact Zq6 ⟨hld.1,by omega⟩
   have run1:=fun W=>ZfT ⟨hld.1,by omega⟩ hsh W
   have hb14:Below w1.heap.size w1 w4:=HR.out.2.2.1.trans (HR.out.2.2.2.mono HR.out.2.2.1.size);have hb14':Below w1.heap.size w1 w4.drew:=hb14.drew;have hb04:=(hb14.block w.heap.size (ZZa.1 HB1.out.1).1).trans HB1.out.1;obtain⟨_,x1',_,_,_,_⟩:=Za hb04;obtain⟨l0,l1,l2,l3,_,_⟩:=Za HR.out.1;obtain⟨h0,h1,h2,h3,_,_⟩:=Za HR.out.2.1
   have HRP:Hid (Calls prog 239 #[.pointer (some ⟨ch,0,none⟩),.int .i64 ((s0:Int)+(N1:Int)),.agg #[.int .i64 lpg,.int .i64 (M'.d+1),.int .i64 0,.slice A1 n1 c1],.agg #[.int .i64 pg,.int .i64 (M'.d+1),.int .i64 0,.slice A2 n2 c2]] w4.drew _):=hid (by
    have:=Zje api HS.out (HG2.out.keep hb14') (slotN hh (ZJ M'.d)+2^ZA M'.d) K (lp:=lpg) (ld:=M'.d+1) (lx:=0) (LA:=A1) (ln:=n1) (lc:=c1) (hp:=pg) (hd:=M'.d+1) (hx:=0) (HA:=A2) (hn:=n2) (hc:=c2) hd2 (Zp9 hld) hpg HIN.out HEN.out.1 HEN.out.2 (Zp7 HFL1.out hm hK) (Zp8 hns HKK.out hK)
    rw[<-hs0,<-hN1,Int.natCast_add]at this
    exact this)
   have HSL:Hid (∀W,Calls prog 164 #[.int .u32 (hh:Int),.int .i64 M'.d] W fun e w'=>e=.returned (.int .i64 (s0:Int))/\W=w'):=hid (fun W=>by rw[hs0];exact ZeB hh M'.d hhl W)
   have hsb:s0+N1<=100000:=by
    rw[hs0,hN1];exact ZZf (Nat.le_add_right _ _) HEN.out.2
   have hnb0:¬GX ch mb v1 sv1 w.heap.size:=fun e=>by
    rcases HWW.out.own _ e with a|a
    · have:=(HLT.out _ a).2;omega
    · omega
   have hnb1:¬GX ch mb v1 sv1 (w.heap.size+1):=fun e=>by
    rcases HWW.out.own _ e with a|a
    · have:=(HLT.out _ a).2;omega
    · omega
   have hnlo:¬GX ch mb v1 sv1 w2.heap.size:=fun e=>by
    have:=(HG2.out.lt _ e).2
    have:=HR.out.2.2.1.size
    omega
   have hnhi:¬GX ch mb v1 sv1 (w2.heap.size+1):=fun e=>by
    have:=(HG2.out.lt _ e).2
    have:=HR.out.2.2.1.size
    omega
   have hb14s:=hb14.size
   have HBX:=hid (show ∀W,Zf (GX ch mb v1 sv1) w4.drew W->W.heap[w.heap.size]?=some (.cells #[.int .i64 lpg,.int .i64 M'.d,.int .i64 0,.slice A n c] 104 (0,0))/\W.heap[w.heap.size+1]?=some (.cells #[.int .i64 0,.int .i64 0,.int .i64 0,.slice none 0 0] 104 (0,0))/\W.heap[w2.heap.size]?=some (.cells #[.int .i64 lpg,.int .i64 (M'.d+1),.int .i64 0,.slice A1 n1 c1] 104 (0,0))/\W.heap[w2.heap.size+1]?=some (.cells #[.int .i64 pg,.int .i64 (M'.d+1),.int .i64 0,.slice A2 n2 c2] 104 (0,0))from fun W t=>
    have b0:=hb04;have b1:=(hb14.block (w.heap.size+1) (ZZa.1 HB1.out.2).1).trans HB1.out.2
    ⟨(t.block _ (ZZa.1 b0).1 hnb0).trans b0,(t.block _ (ZZa.1 b1).1 hnb1).trans b1,(t.block _ (ZZa.1 HR.out.1).1 hnlo).trans HR.out.1,(t.block _ (ZZa.1 HR.out.2.1).1 hnhi).trans HR.out.2.1⟩)
   have HCC:=hid (show ∀W,Zf (GX ch mb v1 sv1) w4.drew W->W.cell? ⟨w.heap.size,1,none⟩=some (.int .i64 M'.d)/\W.cell? ⟨w2.heap.size,0,none⟩=some (.int .i64 lpg)/\W.cell? ⟨w2.heap.size,1,none⟩=some (.int .i64 (M'.d+1))/\W.cell? ⟨w2.heap.size,2,none⟩=some (.int .i64 0)/\W.cell? ⟨w2.heap.size,3,none⟩=some (.slice A1 n1 c1)/\W.cell? ⟨w2.heap.size+1,0,none⟩=some (.int .i64 pg)/\W.cell? ⟨w2.heap.size+1,1,none⟩=some (.int .i64 (M'.d+1))/\W.cell? ⟨w2.heap.size+1,2,none⟩=some (.int .i64 0)/\W.cell? ⟨w2.heap.size+1,3,none⟩=some (.slice A2 n2 c2)from fun W t=>by
    obtain⟨a0,_,a2,a3⟩:=HBX.out W t;obtain⟨_,d1,_⟩:=Za a0;obtain⟨l0,l1,l2,l3,_⟩:=Za a2;obtain⟨h0,h1,h2,h3,_⟩:=Za a3
    exact⟨d1,l0,l1,l2,l3,h0,h1,h2,h3⟩)
   have HIH:=hid (fun W=>Ze6 hh M'.d hhl ⟨by omega,by omega⟩ W);have HB14:=hid hb14';have HNS:=hid (ZZg hN1 hs0);clear hN1 hs0 hsh hb14 hb14' hb04;clear hnb0 hnb1 hnlo hnhi hb14s;have hsum:IntKind.i64.wrap ((s0:Int)+(N1:Int))=(s0:Int)+(N1:Int):=by rw[IntKind.wrap_i64];first|(unfold wrap64;omega)|omega
   have HNN:=hid (ZZg hsX (ZZg hld (ZZg hlpg (ZZg hhl (ZZg hn (ZZg hf (ZZg hpg (ZZg hd2 (ZZg HEN.out.1 (ZZg HEN.out.2 (ZZg hmay (ZZg hK (ZZg hm (ZZg hns (ZZg hnc hsb)))))))))))))));clear hsX hld hlpg hhl hn hf hpg hd2 hmay hK hm hns hnc hsb x0 x1 x2 x3
   try clear k1
   try clear hde
   try clear hmd
   go_region_held3 (fun W=>W.cell? ⟨w.heap.size,1,none⟩=some (.int .i64 M'.d)/\W.cell? ⟨w2.heap.size,0,none⟩=some (.int .i64 lpg)/\W.cell? ⟨w2.heap.size,1,none⟩=some (.int .i64 (M'.d+1))/\W.cell? ⟨w2.heap.size,2,none⟩=some (.int .i64 0)/\W.cell? ⟨w2.heap.size,3,none⟩=some (.slice A1 n1 c1)/\W.cell? ⟨w2.heap.size+1,0,none⟩=some (.int .i64 pg)/\W.cell? ⟨w2.heap.size+1,1,none⟩=some (.int .i64 (M'.d+1))/\W.cell? ⟨w2.heap.size+1,2,none⟩=some (.int .i64 0)/\W.cell? ⟨w2.heap.size+1,3,none⟩=some (.slice A2 n2 c2))
    (first|with_reducible exact⟨x1',l0,l1,l2,l3,h0,h1,h2,h3⟩|exact⟨x1',l0,l1,l2,l3,h0,h1,h2,h3⟩|with_reducible exact c6)
    (first
     | (go_at_call 164;refine Calls.mono (HSL.out _) ?_;rintro e wE ⟨rfl,rfl⟩)
     | (go_at_call 239;refine Calls.mono HRP.out ?_;rintro e wE ⟨rfl,sv5,fs5,hg5,hfl5,hw5⟩;have c6:=HCC.out wE hw5.touch;have HG5:=hid hg5;have HFL5:=hid hfl5;have HW5:=hid hw5;clear hg5 hfl5 hw5))
   clear HRP HSL HCC x1' l0 l1 l2 l3 h0 h1 h2 h3;have q1:=c6.1;have HB5:=hid (HBX.out wE HW5.out.touch);clear c6 HBX;go_wp2_with fail;refine(HIH.out _).mono ?_;rintro e w6⟨rfl,rfl⟩;clear q1;obtain⟨l0,l1,l2,l3,_,_⟩:=Za HB5.out.2.2.1;obtain⟨h0,h1,h2,h3,_,_⟩:=Za HB5.out.2.2.2;obtain⟨wF,hwF⟩:∃wF,wF=wE.drew:=⟨_,rfl⟩
   have hF:Below wE.heap.size wE wF:=by rw[hwF];exact(Below.refl _ _).drew
   have HGF:=hid (HG5.out.keep hF);have hw5F:=HW5.out.trans (ZZ.below hF);have hs24:w2.heap.size<=w4.drew.heap.size:=HR.out.2.2.2.size;have hs01:=HWW.out.touch.size;have hs14:=HB14.out.size
   have hGXX:∀k,GX ch mb v1 sv1 k->G2 k:=fun k e=>by
    have hl:=(HG2.out.lt _ e).2;rcases HWW.out.own _ e with a|a
    · exact HG2S.out.1 k (HGX.out k a)
    · exact HG2S.out.2 k (by have:=HNN.out.1;omega) hl
   have HG2K:=hid (show w2.heap.size<=wF.heap.size/\∀k,k<w2.heap.size->¬G2 k->¬GX ch mb v1 sv5 k/\wF.heap[k]?=w2.heap[k]? from⟨ZZf hs24 hw5F.touch.size,fun k hk hn=>⟨fun e=>by
    rcases HW5.out.own _ e with a|a
    · exact hn (hGXX k a)
    · omega,(hw5F.touch.block k (ZZd hk hs24) (fun e=>hn (hGXX k e))).trans (HR.out.2.2.2.block k hk)⟩⟩)
   have hwTF:=(HWW.out.trans (ZZ.below HB14.out)).trans (hw5F.mono (ZZf hs01 hs14));have HTF:=hid hwTF;have HBF:=hid (show wF.heap[w.heap.size+1]?=_/\wF.heap[w2.heap.size]?=_/\wF.heap[w2.heap.size+1]?=_ from⟨(hF.block _ (ZZa.1 HB5.out.2.1).1).trans HB5.out.2.1,(hF.block _ (ZZa.1 HB5.out.2.2.1).1).trans HB5.out.2.2.1,(hF.block _ (ZZa.1 HB5.out.2.2.2).1).trans HB5.out.2.2.2⟩);have hw1s:w.heap.size+1<w1.heap.size:=by have:=HNN.out.1;omega
   have HBX5:=hid (show ∀sv6,(∀k,GX ch mb v1 sv6 k->GX ch mb v' sv k∨W0.heap.size<=k)->¬GX ch mb v1 sv6 (w.heap.size+1)from fun sv6 h e=>by
    have:=HNN.out.1
    rcases h _ e with a|a
    · have:=(HLT.out _ a).2;omega
    · omega)
   have HG2B:=hid (HG2S.out.2 _ (ZZh _) hw1s)
   have HNL:=hid (show ¬GX ch mb v1 sv5 w2.heap.size/\¬GX ch mb v1 sv5 (w2.heap.size+1)/\w2.heap.size≠w.heap.size+1/\w2.heap.size+1≠w.heap.size+1 from by
    have h12:=HR.out.2.2.1.size;have hl:=(ZZa.1 HR.out.2.1).1
    have:=HNN.out.1
    have hz:w4.drew.heap.size=w4.heap.size:=rfl;have hlt:=fun k (e:GX ch mb v1 sv5 k)=>show k<w1.heap.size∨w4.heap.size<=k from(HW5.out.own k e).imp (fun a=>(HG2.out.lt _ a).2) (fun a=>a)
    exact⟨fun e=>by rcases hlt _ e with a|a <;> omega,fun e=>by rcases hlt _ e with a|a <;> omega,by omega,by omega⟩)
   have HLEN:=hid (show fs5.length+1<=4000000/\∀f:Value,(fs5++[f]).length<=fs.length+4000 from by
    obtain⟨_,_,_,_,_,_,_,_,_,_,_,q1,q2,_⟩:=HNN.out;have q3:=HFL5.out;have q4:=HFL1.out
    exact⟨by omega,fun f=>by rw[List.length_append];show fs5.length+1<=_;omega⟩)
   clear hF hw5F hs24 hs01 hs14 hGXX hwTF hw1s
   cases hhi:ZaC hh M'.d with
   | true=>
    have hlf:Zd9 wF G2 (.agg #[.int .i64 lpg,.int .i64 (M'.d+1),.int .i64 0,.slice A1 n1 c1]) (loL lpg M'.d ps):=⟨_,_,_,rfl,HE12.out.1.1,HE12.out.1.2.1,HE12.out.1.2.2.later HG2K.out.1 (fun k hk hn=>(HG2K.out.2 k hk hn).2)⟩
    have HKP:=hid (ZcI HGF.out hlf (show _/\_ from HNN.out.2.2.1) (show -9223372036854775808<=M'.d+1/\M'.d+1<=9223372036854775807 from by have:=HNN.out.2.1;omega) (show -9223372036854775808<=(0:Int)/\(0:Int)<=9223372036854775807 from by decide) (by have:=HNN.out.2.2.2.2.2.2.2.2.2.2.1;rw[hhi]at this;exact this) HLEN.out.1);clear hlf;subst hwF
    have HARM:=hid (show ∀(wK:World) (sv6 f6:Value) (nx:Nat) (SLx:Int->Option Int) (ssx:List Stp),ZF w0 wK ch st mb M M2 v v1 sv6 nx SLx (fs5++[f6]) ssx->ZZ w0.heap.size wE.drew.heap.size ch mb v1 sv5 v1 sv6 fs5 (fs5++[f6]) _ ssx wE.drew wK->(ZF w0 ((((wK.setCell ⟨w.heap.size+1,0,none⟩ (.int .i64 pg)).setCell ⟨w.heap.size+1,1,none⟩ (.int .i64 (M'.d+1))).setCell ⟨w.heap.size+1,2,none⟩ (.int .i64 0)).setCell ⟨w.heap.size+1,3,none⟩ (.slice A2 n2 c2)) ch st mb M M2 v v1 sv6 nx SLx (fs5++[f6]) ssx/\ZZ w0.heap.size w.heap.size ch mb v' sv v1 sv6 fs (fs5++[f6]) ss ssx w ((((wK.setCell ⟨w.heap.size+1,0,none⟩ (.int .i64 pg)).setCell ⟨w.heap.size+1,1,none⟩ (.int .i64 (M'.d+1))).setCell ⟨w.heap.size+1,2,none⟩ (.int .i64 0)).setCell ⟨w.heap.size+1,3,none⟩ (.slice A2 n2 c2))/\((((wK.setCell ⟨w.heap.size+1,0,none⟩ (.int .i64 pg)).setCell ⟨w.heap.size+1,1,none⟩ (.int .i64 (M'.d+1))).setCell ⟨w.heap.size+1,2,none⟩ (.int .i64 0)).setCell ⟨w.heap.size+1,3,none⟩ (.slice A2 n2 c2)).heap[w.heap.size+1]?=some (.cells #[.int .i64 pg,.int .i64 (M'.d+1),.int .i64 0,.slice A2 n2 c2] 104 (0,0)))/\Zp ((((wK.setCell ⟨w.heap.size+1,0,none⟩ (.int .i64 pg)).setCell ⟨w.heap.size+1,1,none⟩ (.int .i64 (M'.d+1))).setCell ⟨w.heap.size+1,2,none⟩ (.int .i64 0)).setCell ⟨w.heap.size+1,3,none⟩ (.slice A2 n2 c2)) (fun k=>G k∨GX ch mb v1 sv6 k) A2 n2 (hiL pg M'.d ps).ps/\wK.heap[w.heap.size+1]?=some (.cells #[.int .i64 0,.int .i64 0,.int .i64 0,.slice none 0 0] 104 (0,0))/\((wK.cell? ⟨w2.heap.size,0,none⟩=some (.int .i64 lpg)/\wK.cell? ⟨w2.heap.size,1,none⟩=some (.int .i64 (M'.d+1))/\wK.cell? ⟨w2.heap.size,2,none⟩=some (.int .i64 0)/\wK.cell? ⟨w2.heap.size,3,none⟩=some (.slice A1 n1 c1))/\(wK.cell? ⟨w2.heap.size+1,0,none⟩=some (.int .i64 pg)/\wK.cell? ⟨w2.heap.size+1,1,none⟩=some (.int .i64 (M'.d+1))/\wK.cell? ⟨w2.heap.size+1,2,none⟩=some (.int .i64 0)/\wK.cell? ⟨w2.heap.size+1,3,none⟩=some (.slice A2 n2 c2)))/\((((((wK.setCell ⟨w.heap.size+1,0,none⟩ (.int .i64 pg)).setCell ⟨w.heap.size+1,1,none⟩ (.int .i64 (M'.d+1))).setCell ⟨w.heap.size+1,2,none⟩ (.int .i64 0)).setCell ⟨w.heap.size+1,3,none⟩ (.slice A2 n2 c2)).cell? ⟨w2.heap.size,0,none⟩=some (.int .i64 lpg)/\((((wK.setCell ⟨w.heap.size+1,0,none⟩ (.int .i64 pg)).setCell ⟨w.heap.size+1,1,none⟩ (.int .i64 (M'.d+1))).setCell ⟨w.heap.size+1,2,none⟩ (.int .i64 0)).setCell ⟨w.heap.size+1,3,none⟩ (.slice A2 n2 c2)).cell? ⟨w2.heap.size,1,none⟩=some (.int .i64 (M'.d+1))/\((((wK.setCell ⟨w.heap.size+1,0,none⟩ (.int .i64 pg)).setCell ⟨w.heap.size+1,1,none⟩ (.int .i64 (M'.d+1))).setCell ⟨w.heap.size+1,2,none⟩ (.int .i64 0)).setCell ⟨w.heap.size+1,3,none⟩ (.slice A2 n2 c2)).cell? ⟨w2.heap.size,2,none⟩=some (.int .i64 0)/\((((wK.setCell ⟨w.heap.size+1,0,none⟩ (.int .i64 pg)).setCell ⟨w.heap.size+1,1,none⟩ (.int .i64 (M'.d+1))).setCell ⟨w.heap.size+1,2,none⟩ (.int .i64 0)).setCell ⟨w.heap.size+1,3,none⟩ (.slice A2 n2 c2)).cell? ⟨w2.heap.size,3,none⟩=some (.slice A1 n1 c1))/\(((((wK.setCell ⟨w.heap.size+1,0,none⟩ (.int .i64 pg)).setCell ⟨w.heap.size+1,1,none⟩ (.int .i64 (M'.d+1))).setCell ⟨w.heap.size+1,2,none⟩ (.int .i64 0)).setCell ⟨w.heap.size+1,3,none⟩ (.slice A2 n2 c2)).cell? ⟨w2.heap.size+1,0,none⟩=some (.int .i64 pg)/\((((wK.setCell ⟨w.heap.size+1,0,none⟩ (.int .i64 pg)).setCell ⟨w.heap.size+1,1,none⟩ (.int .i64 (M'.d+1))).setCell ⟨w.heap.size+1,2,none⟩ (.int .i64 0)).setCell ⟨w.heap.size+1,3,none⟩ (.slice A2 n2 c2)).cell? ⟨w2.heap.size+1,1,none⟩=some (.int .i64 (M'.d+1))/\((((wK.setCell ⟨w.heap.size+1,0,none⟩ (.int .i64 pg)).setCell ⟨w.heap.size+1,1,none⟩ (.int .i64 (M'.d+1))).setCell ⟨w.heap.size+1,2,none⟩ (.int .i64 0)).setCell ⟨w.heap.size+1,3,none⟩ (.slice A2 n2 c2)).cell? ⟨w2.heap.size+1,2,none⟩=some (.int .i64 0)/\((((wK.setCell ⟨w.heap.size+1,0,none⟩ (.int .i64 pg)).setCell ⟨w.heap.size+1,1,none⟩ (.int .i64 (M'.d+1))).setCell ⟨w.heap.size+1,2,none⟩ (.int .i64 0)).setCell ⟨w.heap.size+1,3,none⟩ (.slice A2 n2 c2)).cell? ⟨w2.heap.size+1,3,none⟩=some (.slice A2 n2 c2)))from fun wK sv6 f6 nx SLx ssx hg6 hw6=>by
     have hwT:=HTF.out.trans (hw6.mono HTF.out.touch.size);have hbk:=(hw6.touch.block (w.heap.size+1) (ZZa.1 HBF.out.1).1 (HBX5.out sv5 HTF.out.own)).trans HBF.out.1;have hwA:=(ZZ.below HX.out).trans (hwT.mono HX.out.size);have hlo:=(hw6.touch.block w2.heap.size (ZZa.1 HBF.out.2.1).1 HNL.out.1).trans HBF.out.2.1;have hhi2:=(hw6.touch.block (w2.heap.size+1) (ZZa.1 HBF.out.2.2).1 HNL.out.2.1).trans HBF.out.2.2
     refine⟨ZeG hg6 hwA (hwT.steps _ (fun k hk=>hk.2) HAV.out) (g:=w.heap.size+1) ⟨ZZh _,by have:=HNN.out.1;omega⟩ (HBX5.out sv6 hwT.own) (ZZf HH.out.bel.size (ZZh _)) (ZZh _) hbk _ _ _ _,HE12.out.2.2.2.grow (ZZf HG2K.out.1 (ZZf hw6.touch.size (by simp[World.setCell]))) (fun k hk hn=>(Z0 _ (fun e=>hn (by rw[e];exact HG2B.out)) _ _ _ _).trans ((hw6.touch.block k (ZZd hk HG2K.out.1) (HG2K.out.2 k hk hn).1).trans (HG2K.out.2 k hk hn).2)) (fun k hk hn hg=>by
      rcases hg with q|q
      · exact hn (HG2S.out.1 k q)
      · rcases hw6.own k q with q|q
        · exact(HG2K.out.2 k hk hn).1 q
        · exact absurd (ZZd hk HG2K.out.1) (Nat.not_lt.2 q)),hbk,Zao hlo hhi2,Zao ((Z0 _ HNL.out.2.2.1 _ _ _ _).trans hlo) ((Z0 _ HNL.out.2.2.2 _ _ _ _).trans hhi2)⟩)
    have c5:=Zao HBF.out.2.1 HBF.out.2.2;have c4:=Zao HB5.out.2.2.1 HB5.out.2.2.2;clear l0 l1 l2 l3 h0 h1 h2 h3;go_wp2_with fail
    go_region_held3 (fun W=>(W.cell? ⟨w2.heap.size,0,none⟩=some (.int .i64 lpg)/\W.cell? ⟨w2.heap.size,1,none⟩=some (.int .i64 (M'.d+1))/\W.cell? ⟨w2.heap.size,2,none⟩=some (.int .i64 0)/\W.cell? ⟨w2.heap.size,3,none⟩=some (.slice A1 n1 c1))/\(W.cell? ⟨w2.heap.size+1,0,none⟩=some (.int .i64 pg)/\W.cell? ⟨w2.heap.size+1,1,none⟩=some (.int .i64 (M'.d+1))/\W.cell? ⟨w2.heap.size+1,2,none⟩=some (.int .i64 0)/\W.cell? ⟨w2.heap.size+1,3,none⟩=some (.slice A2 n2 c2)))
     (first|with_reducible exact c4|with_reducible exact c5|with_reducible exact c6|with_reducible exact c7)
     (first
      | (go_at_call 97;refine Calls.mono HKP.out ?_;rintro e wK ⟨rfl,sv6,f6,hg6,hw6⟩;obtain⟨hp,hs6,hbk,c6,c7⟩:=HARM.out wK sv6 f6 _ _ _ hg6 hw6;have HP:=hid hp;have HST6:=hid hs6;obtain⟨z0,z1,z2,z3,fz,_⟩:=Za hbk;have f0:=fz 0;have f1:=fz 1;have f2:=fz 2;have f3:=fz 3;clear hp hs6 hbk fz hg6 hw6))
    all_goals clear HKP HARM c4 c5 c6 c7
    go_wp2_with fail;obtain⟨d0,d1,d2,d3,_,_⟩:=Za HP.out.2.2;obtain⟨eN,eS⟩:=HNS.out;subst eN eS;have HD:Zc3 w0 w _ ch st mb M M2 v v' sv ns k K SL1 fs ss ss1 G true lpg pg M'.d ps (slotN hh (ZJ M'.d)+2^ZA M'.d) (.agg #[.int .i64 pg,.int .i64 (M'.d+1),.int .i64 0,.slice A2 n2 c2]):=⟨_,_,_,⟨_,_,_,rfl,HE12.out.2.1,HE12.out.2.2.1,HST6.out⟩,HP.out.1,HLEN.out.2 _,HP.out.2.1⟩
    exact bodyPost_ret (v:=.tuple #[.agg #[.int .i64 pg,.int .i64 (M'.d+1),.int .i64 0,.slice A2 n2 c2],.int .i64 0]) (by simp[results,Tryz.results213,go_sem,d0,d1,d2,d3]) rfl ⟨_,rfl,by first|exact HD|(rw[hhi];exact HD)⟩
   | false=>
    have hlf:Zd9 wF G2 (.agg #[.int .i64 pg,.int .i64 (M'.d+1),.int .i64 0,.slice A2 n2 c2]) (hiL pg M'.d ps):=⟨_,_,_,rfl,HE12.out.2.1,HE12.out.2.2.1,HE12.out.2.2.2.later HG2K.out.1 (fun k hk hn=>(HG2K.out.2 k hk hn).2)⟩
    have HKP:=hid (ZcI HGF.out hlf (show _/\_ from HNN.out.2.2.2.2.2.2.1) (show -9223372036854775808<=M'.d+1/\M'.d+1<=9223372036854775807 from by have:=HNN.out.2.1;omega) (show -9223372036854775808<=(0:Int)/\(0:Int)<=9223372036854775807 from by decide) (by have:=HNN.out.2.2.2.2.2.2.2.2.2.2.1;rw[hhi]at this;exact this) HLEN.out.1);clear hlf;subst hwF
    have HARM:=hid (show ∀(wK:World) (sv6 f6:Value) (nx:Nat) (SLx:Int->Option Int) (ssx:List Stp),ZF w0 wK ch st mb M M2 v v1 sv6 nx SLx (fs5++[f6]) ssx->ZZ w0.heap.size wE.drew.heap.size ch mb v1 sv5 v1 sv6 fs5 (fs5++[f6]) _ ssx wE.drew wK->(ZF w0 ((((wK.setCell ⟨w.heap.size+1,0,none⟩ (.int .i64 lpg)).setCell ⟨w.heap.size+1,1,none⟩ (.int .i64 (M'.d+1))).setCell ⟨w.heap.size+1,2,none⟩ (.int .i64 0)).setCell ⟨w.heap.size+1,3,none⟩ (.slice A1 n1 c1)) ch st mb M M2 v v1 sv6 nx SLx (fs5++[f6]) ssx/\ZZ w0.heap.size w.heap.size ch mb v' sv v1 sv6 fs (fs5++[f6]) ss ssx w ((((wK.setCell ⟨w.heap.size+1,0,none⟩ (.int .i64 lpg)).setCell ⟨w.heap.size+1,1,none⟩ (.int .i64 (M'.d+1))).setCell ⟨w.heap.size+1,2,none⟩ (.int .i64 0)).setCell ⟨w.heap.size+1,3,none⟩ (.slice A1 n1 c1))/\((((wK.setCell ⟨w.heap.size+1,0,none⟩ (.int .i64 lpg)).setCell ⟨w.heap.size+1,1,none⟩ (.int .i64 (M'.d+1))).setCell ⟨w.heap.size+1,2,none⟩ (.int .i64 0)).setCell ⟨w.heap.size+1,3,none⟩ (.slice A1 n1 c1)).heap[w.heap.size+1]?=some (.cells #[.int .i64 lpg,.int .i64 (M'.d+1),.int .i64 0,.slice A1 n1 c1] 104 (0,0)))/\Zp ((((wK.setCell ⟨w.heap.size+1,0,none⟩ (.int .i64 lpg)).setCell ⟨w.heap.size+1,1,none⟩ (.int .i64 (M'.d+1))).setCell ⟨w.heap.size+1,2,none⟩ (.int .i64 0)).setCell ⟨w.heap.size+1,3,none⟩ (.slice A1 n1 c1)) (fun k=>G k∨GX ch mb v1 sv6 k) A1 n1 (loL lpg M'.d ps).ps/\wK.heap[w.heap.size+1]?=some (.cells #[.int .i64 0,.int .i64 0,.int .i64 0,.slice none 0 0] 104 (0,0))/\((wK.cell? ⟨w2.heap.size,0,none⟩=some (.int .i64 lpg)/\wK.cell? ⟨w2.heap.size,1,none⟩=some (.int .i64 (M'.d+1))/\wK.cell? ⟨w2.heap.size,2,none⟩=some (.int .i64 0)/\wK.cell? ⟨w2.heap.size,3,none⟩=some (.slice A1 n1 c1))/\(wK.cell? ⟨w2.heap.size+1,0,none⟩=some (.int .i64 pg)/\wK.cell? ⟨w2.heap.size+1,1,none⟩=some (.int .i64 (M'.d+1))/\wK.cell? ⟨w2.heap.size+1,2,none⟩=some (.int .i64 0)/\wK.cell? ⟨w2.heap.size+1,3,none⟩=some (.slice A2 n2 c2)))/\((((((wK.setCell ⟨w.heap.size+1,0,none⟩ (.int .i64 lpg)).setCell ⟨w.heap.size+1,1,none⟩ (.int .i64 (M'.d+1))).setCell ⟨w.heap.size+1,2,none⟩ (.int .i64 0)).setCell ⟨w.heap.size+1,3,none⟩ (.slice A1 n1 c1)).cell? ⟨w2.heap.size,0,none⟩=some (.int .i64 lpg)/\((((wK.setCell ⟨w.heap.size+1,0,none⟩ (.int .i64 lpg)).setCell ⟨w.heap.size+1,1,none⟩ (.int .i64 (M'.d+1))).setCell ⟨w.heap.size+1,2,none⟩ (.int .i64 0)).setCell ⟨w.heap.size+1,3,none⟩ (.slice A1 n1 c1)).cell? ⟨w2.heap.size,1,none⟩=some (.int .i64 (M'.d+1))/\((((wK.setCell ⟨w.heap.size+1,0,none⟩ (.int .i64 lpg)).setCell ⟨w.heap.size+1,1,none⟩ (.int .i64 (M'.d+1))).setCell ⟨w.heap.size+1,2,none⟩ (.int .i64 0)).setCell ⟨w.heap.size+1,3,none⟩ (.slice A1 n1 c1)).cell? ⟨w2.heap.size,2,none⟩=some (.int .i64 0)/\((((wK.setCell ⟨w.heap.size+1,0,none⟩ (.int .i64 lpg)).setCell ⟨w.heap.size+1,1,none⟩ (.int .i64 (M'.d+1))).setCell ⟨w.heap.size+1,2,none⟩ (.int .i64 0)).setCell ⟨w.heap.size+1,3,none⟩ (.slice A1 n1 c1)).cell? ⟨w2.heap.size,3,none⟩=some (.slice A1 n1 c1))/\(((((wK.setCell ⟨w.heap.size+1,0,none⟩ (.int .i64 lpg)).setCell ⟨w.heap.size+1,1,none⟩ (.int .i64 (M'.d+1))).setCell ⟨w.heap.size+1,2,none⟩ (.int .i64 0)).setCell ⟨w.heap.size+1,3,none⟩ (.slice A1 n1 c1)).cell? ⟨w2.heap.size+1,0,none⟩=some (.int .i64 pg)/\((((wK.setCell ⟨w.heap.size+1,0,none⟩ (.int .i64 lpg)).setCell ⟨w.heap.size+1,1,none⟩ (.int .i64 (M'.d+1))).setCell ⟨w.heap.size+1,2,none⟩ (.int .i64 0)).setCell ⟨w.heap.size+1,3,none⟩ (.slice A1 n1 c1)).cell? ⟨w2.heap.size+1,1,none⟩=some (.int .i64 (M'.d+1))/\((((wK.setCell ⟨w.heap.size+1,0,none⟩ (.int .i64 lpg)).setCell ⟨w.heap.size+1,1,none⟩ (.int .i64 (M'.d+1))).setCell ⟨w.heap.size+1,2,none⟩ (.int .i64 0)).setCell ⟨w.heap.size+1,3,none⟩ (.slice A1 n1 c1)).cell? ⟨w2.heap.size+1,2,none⟩=some (.int .i64 0)/\((((wK.setCell ⟨w.heap.size+1,0,none⟩ (.int .i64 lpg)).setCell ⟨w.heap.size+1,1,none⟩ (.int .i64 (M'.d+1))).setCell ⟨w.heap.size+1,2,none⟩ (.int .i64 0)).setCell ⟨w.heap.size+1,3,none⟩ (.slice A1 n1 c1)).cell? ⟨w2.heap.size+1,3,none⟩=some (.slice A2 n2 c2)))from fun wK sv6 f6 nx SLx ssx hg6 hw6=>by
     have hwT:=HTF.out.trans (hw6.mono HTF.out.touch.size);have hbk:=(hw6.touch.block (w.heap.size+1) (ZZa.1 HBF.out.1).1 (HBX5.out sv5 HTF.out.own)).trans HBF.out.1;have hwA:=(ZZ.below HX.out).trans (hwT.mono HX.out.size);have hlo:=(hw6.touch.block w2.heap.size (ZZa.1 HBF.out.2.1).1 HNL.out.1).trans HBF.out.2.1;have hhi2:=(hw6.touch.block (w2.heap.size+1) (ZZa.1 HBF.out.2.2).1 HNL.out.2.1).trans HBF.out.2.2
     refine⟨ZeG hg6 hwA (hwT.steps _ (fun k hk=>hk.2) HAV.out) (g:=w.heap.size+1) ⟨ZZh _,by have:=HNN.out.1;omega⟩ (HBX5.out sv6 hwT.own) (ZZf HH.out.bel.size (ZZh _)) (ZZh _) hbk _ _ _ _,HE12.out.1.2.2.grow (ZZf HG2K.out.1 (ZZf hw6.touch.size (by simp[World.setCell]))) (fun k hk hn=>(Z0 _ (fun e=>hn (by rw[e];exact HG2B.out)) _ _ _ _).trans ((hw6.touch.block k (ZZd hk HG2K.out.1) (HG2K.out.2 k hk hn).1).trans (HG2K.out.2 k hk hn).2)) (fun k hk hn hg=>by
      rcases hg with q|q
      · exact hn (HG2S.out.1 k q)
      · rcases hw6.own k q with q|q
        · exact(HG2K.out.2 k hk hn).1 q
        · exact absurd (ZZd hk HG2K.out.1) (Nat.not_lt.2 q)),hbk,Zao hlo hhi2,Zao ((Z0 _ HNL.out.2.2.1 _ _ _ _).trans hlo) ((Z0 _ HNL.out.2.2.2 _ _ _ _).trans hhi2)⟩)
    have c5:=Zao HBF.out.2.1 HBF.out.2.2;have c4:=Zao HB5.out.2.2.1 HB5.out.2.2.2;clear l0 l1 l2 l3 h0 h1 h2 h3;go_wp2_with fail
    go_region_held3 (fun W=>(W.cell? ⟨w2.heap.size,0,none⟩=some (.int .i64 lpg)/\W.cell? ⟨w2.heap.size,1,none⟩=some (.int .i64 (M'.d+1))/\W.cell? ⟨w2.heap.size,2,none⟩=some (.int .i64 0)/\W.cell? ⟨w2.heap.size,3,none⟩=some (.slice A1 n1 c1))/\(W.cell? ⟨w2.heap.size+1,0,none⟩=some (.int .i64 pg)/\W.cell? ⟨w2.heap.size+1,1,none⟩=some (.int .i64 (M'.d+1))/\W.cell? ⟨w2.heap.size+1,2,none⟩=some (.int .i64 0)/\W.cell? ⟨w2.heap.size+1,3,none⟩=some (.slice A2 n2 c2)))
     (first|with_reducible exact c4|with_reducible exact c5|with_reducible exact c6|with_reducible exact c7)
     (first
      | (go_at_call 97;refine Calls.mono HKP.out ?_;rintro e wK ⟨rfl,sv6,f6,hg6,hw6⟩;obtain⟨hp,hs6,hbk,c6,c7⟩:=HARM.out wK sv6 f6 _ _ _ hg6 hw6;have HP:=hid hp;have HST6:=hid hs6;obtain⟨z0,z1,z2,z3,fz,_⟩:=Za hbk;have f0:=fz 0;have f1:=fz 1;have f2:=fz 2;have f3:=fz 3;clear hp hs6 hbk fz hg6 hw6))
    all_goals clear HKP HARM c4 c5 c6 c7
    go_wp2_with fail;obtain⟨d0,d1,d2,d3,_,_⟩:=Za HP.out.2.2;obtain⟨eN,eS⟩:=HNS.out;subst eN eS;have HD:Zc3 w0 w _ ch st mb M M2 v v' sv ns k K SL1 fs ss ss1 G false lpg pg M'.d ps (slotN hh (ZJ M'.d)+2^ZA M'.d) (.agg #[.int .i64 lpg,.int .i64 (M'.d+1),.int .i64 0,.slice A1 n1 c1]):=⟨_,_,_,⟨_,_,_,rfl,HE12.out.1.1,HE12.out.1.2.1,HST6.out⟩,HP.out.1,HLEN.out.2 _,HP.out.2.1⟩
    exact bodyPost_ret (v:=.tuple #[.agg #[.int .i64 lpg,.int .i64 (M'.d+1),.int .i64 0,.slice A1 n1 c1],.int .i64 0]) (by simp[results,Tryz.results213,go_sem,d0,d1,d2,d3]) rfl ⟨_,rfl,by first|exact HD|(rw[hhi];exact HD)⟩
 · --NEG
   have k1:decide (ld=M'.d)=false:=by simpa using hde
   obtain⟨wd,hwd⟩:∃wd,wd=W0.drew:=⟨_,rfl⟩
   rw[<-hwd]at HX0
   obtain⟨rfl,rfl,rfl,rfl⟩:M1=M'/\SL1=SL/\k=0/\ss1 = []:=by
    rcases HDB.out with ⟨_,a⟩|⟨a,_⟩
    · exact a
    · exact absurd a hde
   have HKK:=hid (show 0<=1024 from Nat.zero_le _);have HG1:=hid (show ZF w0 wd ch st mb M M1 v v' sv (ns+0) SL1 fs (ss++[]) by simpa using HG0.out.keep HX0.out);have HFL1:=hid (show fs.length<=fs.length+2024 by omega);have HW1:=hid (show ZZ w0.heap.size W0.heap.size ch mb v' sv v' sv fs fs ss (ss++[]) W0 wd by simpa using ZZ.below (v':=v') (sv:=sv) (fs:=fs) (ss:=ss) (ch:=ch) (mb:=mb) (B:=w0.heap.size) (Z:=W0.heap.size) HX0.out);have HT:=hid (Zjc api HS.out HG1.out hn hf HTK.out);go_wp2_with fail;rw[<-hwd];clear hwd;refine HT.out.mono ?_;rintro e w1⟨rfl,hg1,hw1⟩;have hwW:=HW1.out.trans (hw1.mono HW1.out.touch.size);have hb0:=(hwW.touch.block w.heap.size (by omega) (fun e=>by have:=(HLT.out _ e).2;omega)).trans HB0.out.1;have hb1:=(hwW.touch.block (w.heap.size+1) (by omega) (fun e=>by have:=(HLT.out _ e).2;omega)).trans HB0.out.2;have hwX:=(ZZ.below HX.out).trans (hwW.mono HX.out.size);obtain⟨G2,hG2⟩:∃G2:Nat->Prop,G2=fun k=>G k∨(w.heap.size<=k/\k<w1.heap.size):=⟨_,rfl⟩
   have HG2S:=hid (show(∀k,G k->G2 k)/\(∀k,w.heap.size<=k->k<w1.heap.size->G2 k)from⟨fun k hk=>by rw[hG2];exact .inl hk,fun k h1 h2=>by rw[hG2];exact .inr ⟨h1,h2⟩⟩);have hst1:Zp w1 G2 A n ps:=HST.out.grow hwX.touch.size (fun k hk hn'=>hwX.touch.block k hk (fun e=>hn' (HGX.out k e))) (fun k hk hn' hg=>by rw[hG2]at hg;rcases hg with q|q;exact hn' q;omega)
   have hG1:∀k,G2 k->k<w1.heap.size:=fun k hk=>by
    rw[hG2]at hk;rcases hk with q|q
    · exact ZZd (HGS.out k q) hwX.touch.size
    · exact q.2
   have HHV:Hid (Calls prog 238 #[.agg #[.int .i64 lpg,.int .i64 ld,.int .i64 0,.slice A n c],.int .i64 pg] w1 fun e w'=>∃v1 v2,e=.returned (.tuple #[v1,v2])/\Zd9 w' G2 v1 (loL lpg ld ps)/\Zd9 w' G2 v2 (hiL pg ld ps)/\Below w1.heap.size w1 w'):=hid (Zhp (l:=⟨lpg,ld,0,ps⟩) pg hnc hst1 hG1 ⟨hld.1,by show ld<=30;omega⟩);obtain⟨x0,x1,x2,x3,_,_⟩:=Za hb0;have HG2:=hid hg1;have HW2:=hid hwX;have HWW:=hid hwW;have HB1:=hid (ZZg hb0 hb1);clear hwW hb0 hb1 hwX hst1 hG1 hG2 hg1 hw1 HT z0 z1 z2 z3 y6;go_wp2_with fail;refine HHV.out.mono ?_;intro e w2 hz;obtain⟨u1,u2,he,l1,l2,hb2⟩:=hz
   --MARK1
   obtain⟨A1,n1,c1,hu1,e1,e1',s1⟩:=l1;obtain⟨A2,n2,c2,hu2,e2,e2',s2⟩:=l2
   --MARK2
   have he':e=.returned (.tuple #[.agg #[.int .i64 lpg,.int .i64 (ld+1),.int .i64 0,.slice A1 n1 c1],.agg #[.int .i64 pg,.int .i64 (ld+1),.int .i64 0,.slice A2 n2 c2]]):=by rw[he,hu1,hu2];rfl
   clear hu1 hu2 he;subst he'
   --MARK3
   obtain⟨w4,hw4⟩:∃w4,w4=(w2.alloc (.cells #[.int .i64 lpg,.int .i64 (ld+1),.int .i64 0,.slice A1 n1 c1] 104)).alloc (.cells #[.int .i64 pg,.int .i64 (ld+1),.int .i64 0,.slice A2 n2 c2] 104):=⟨_,rfl⟩
   have hb4:Below w2.heap.size w2 w4:=by rw[hw4];exact((Below.refl _ _).alloc (ZZe _) _).alloc (by simp) _
   have r0:w4.heap[w2.heap.size]?=some (.cells #[.int .i64 lpg,.int .i64 (ld+1),.int .i64 0,.slice A1 n1 c1] 104 (0,0)):=by rw[hw4];exact(Below.heap_alloc _ _ w2.heap.size (by simp)).trans (heap_alloc_new _ _)
   have r1:w4.heap[w2.heap.size+1]?=some (.cells #[.int .i64 pg,.int .i64 (ld+1),.int .i64 0,.slice A2 n2 c2] 104 (0,0)):=by
    rw[hw4]
    have:=heap_alloc_new (w2.alloc (.cells #[.int .i64 lpg,.int .i64 (ld+1),.int .i64 0,.slice A1 n1 c1] 104)) (.cells #[.int .i64 pg,.int .i64 (ld+1),.int .i64 0,.slice A2 n2 c2] 104)
    simpa using this
   have HR:=hid (ZZg r0 (ZZg r1 (ZZg hb2 hb4)));have HE12:=hid (ZZg (ZZg e1 (ZZg e1' s1)) (ZZg e2 (ZZg e2' s2)));clear HHV hb2 hb4 r0 r1 e1 e1' s1 e2 e2' s2;go_wp2_with fail;rw[<-hw4];clear hw4;obtain⟨N1,hN1⟩:∃N,N=2^ZA ld:=⟨_,rfl⟩
   obtain⟨s0,hs0⟩:∃s,s=slotN hh (ZJ ld):=⟨_,rfl⟩
   have hsh:wrap64 (2^ld.toNat)=(N1:Int):=by rw[hN1];exact Zq6 ⟨hld.1,by omega⟩
   have run1:=fun W=>ZfT ⟨hld.1,by omega⟩ hsh W
   have hb14:Below w1.heap.size w1 w4:=HR.out.2.2.1.trans (HR.out.2.2.2.mono HR.out.2.2.1.size);have hb14':Below w1.heap.size w1 w4.drew:=hb14.drew;have hb04:=(hb14.block w.heap.size (ZZa.1 HB1.out.1).1).trans HB1.out.1;obtain⟨_,x1',_,_,_,_⟩:=Za hb04;obtain⟨l0,l1,l2,l3,_,_⟩:=Za HR.out.1;obtain⟨h0,h1,h2,h3,_,_⟩:=Za HR.out.2.1
   have HRP:Hid (Calls prog 239 #[.pointer (some ⟨ch,0,none⟩),.int .i64 ((s0:Int)+(N1:Int)),.agg #[.int .i64 lpg,.int .i64 (ld+1),.int .i64 0,.slice A1 n1 c1],.agg #[.int .i64 pg,.int .i64 (ld+1),.int .i64 0,.slice A2 n2 c2]] w4.drew _):=hid (by
    have:=Zje api HS.out (HG2.out.keep hb14') (slotN hh (ZJ ld)+2^ZA ld) K (lp:=lpg) (ld:=ld+1) (lx:=0) (LA:=A1) (ln:=n1) (lc:=c1) (hp:=pg) (hd:=ld+1) (hx:=0) (HA:=A2) (hn:=n2) (hc:=c2) hd2 (Zp9 hld) hpg HIN.out HEN.out.1 HEN.out.2 (Zp7 HFL1.out hm hK) (Zp8 hns HKK.out hK)
    rw[<-hs0,<-hN1,Int.natCast_add]at this
    exact this)
   have HSL:Hid (∀W,Calls prog 164 #[.int .u32 (hh:Int),.int .i64 ld] W fun e w'=>e=.returned (.int .i64 (s0:Int))/\W=w'):=hid (fun W=>by rw[hs0];exact ZeB hh ld hhl W)
   have hsb:s0+N1<=100000:=by
    rw[hs0,hN1];exact ZZf (Nat.le_add_right _ _) HEN.out.2
   have hnb0:¬GX ch mb v' sv w.heap.size:=fun e=>by
    rcases HWW.out.own _ e with a|a
    · have:=(HLT.out _ a).2;omega
    · omega
   have hnb1:¬GX ch mb v' sv (w.heap.size+1):=fun e=>by
    rcases HWW.out.own _ e with a|a
    · have:=(HLT.out _ a).2;omega
    · omega
   have hnlo:¬GX ch mb v' sv w2.heap.size:=fun e=>by
    have:=(HG2.out.lt _ e).2
    have:=HR.out.2.2.1.size
    omega
   have hnhi:¬GX ch mb v' sv (w2.heap.size+1):=fun e=>by
    have:=(HG2.out.lt _ e).2
    have:=HR.out.2.2.1.size
    omega
   have hb14s:=hb14.size
   have HBX:=hid (show ∀W,Zf (GX ch mb v' sv) w4.drew W->W.heap[w.heap.size]?=some (.cells #[.int .i64 lpg,.int .i64 ld,.int .i64 0,.slice A n c] 104 (0,0))/\W.heap[w.heap.size+1]?=some (.cells #[.int .i64 0,.int .i64 0,.int .i64 0,.slice none 0 0] 104 (0,0))/\W.heap[w2.heap.size]?=some (.cells #[.int .i64 lpg,.int .i64 (ld+1),.int .i64 0,.slice A1 n1 c1] 104 (0,0))/\W.heap[w2.heap.size+1]?=some (.cells #[.int .i64 pg,.int .i64 (ld+1),.int .i64 0,.slice A2 n2 c2] 104 (0,0))from fun W t=>
    have b0:=hb04;have b1:=(hb14.block (w.heap.size+1) (ZZa.1 HB1.out.2).1).trans HB1.out.2
    ⟨(t.block _ (ZZa.1 b0).1 hnb0).trans b0,(t.block _ (ZZa.1 b1).1 hnb1).trans b1,(t.block _ (ZZa.1 HR.out.1).1 hnlo).trans HR.out.1,(t.block _ (ZZa.1 HR.out.2.1).1 hnhi).trans HR.out.2.1⟩)
   have HCC:=hid (show ∀W,Zf (GX ch mb v' sv) w4.drew W->W.cell? ⟨w.heap.size,1,none⟩=some (.int .i64 ld)/\W.cell? ⟨w2.heap.size,0,none⟩=some (.int .i64 lpg)/\W.cell? ⟨w2.heap.size,1,none⟩=some (.int .i64 (ld+1))/\W.cell? ⟨w2.heap.size,2,none⟩=some (.int .i64 0)/\W.cell? ⟨w2.heap.size,3,none⟩=some (.slice A1 n1 c1)/\W.cell? ⟨w2.heap.size+1,0,none⟩=some (.int .i64 pg)/\W.cell? ⟨w2.heap.size+1,1,none⟩=some (.int .i64 (ld+1))/\W.cell? ⟨w2.heap.size+1,2,none⟩=some (.int .i64 0)/\W.cell? ⟨w2.heap.size+1,3,none⟩=some (.slice A2 n2 c2)from fun W t=>by
    obtain⟨a0,_,a2,a3⟩:=HBX.out W t;obtain⟨_,d1,_⟩:=Za a0;obtain⟨l0,l1,l2,l3,_⟩:=Za a2;obtain⟨h0,h1,h2,h3,_⟩:=Za a3
    exact⟨d1,l0,l1,l2,l3,h0,h1,h2,h3⟩)
   have HIH:=hid (fun W=>Ze6 hh ld hhl ⟨by omega,by omega⟩ W);have HB14:=hid hb14';have HNS:=hid (ZZg hN1 hs0);clear hN1 hs0 hsh hb14 hb14' hb04;clear hnb0 hnb1 hnlo hnhi hb14s;have hsum:IntKind.i64.wrap ((s0:Int)+(N1:Int))=(s0:Int)+(N1:Int):=by rw[IntKind.wrap_i64];first|(unfold wrap64;omega)|omega
   have HNN:=hid (ZZg hsX (ZZg hld (ZZg hlpg (ZZg hhl (ZZg hn (ZZg hf (ZZg hpg (ZZg hd2 (ZZg HEN.out.1 (ZZg HEN.out.2 (ZZg hmay (ZZg hK (ZZg hm (ZZg hns (ZZg hnc hsb)))))))))))))));clear hsX hld hlpg hhl hn hf hpg hd2 hmay hK hm hns hnc hsb x0 x1 x2 x3
   try clear k1
   try clear hde
   try clear hmd
   go_region_held3 (fun W=>W.cell? ⟨w.heap.size,1,none⟩=some (.int .i64 ld)/\W.cell? ⟨w2.heap.size,0,none⟩=some (.int .i64 lpg)/\W.cell? ⟨w2.heap.size,1,none⟩=some (.int .i64 (ld+1))/\W.cell? ⟨w2.heap.size,2,none⟩=some (.int .i64 0)/\W.cell? ⟨w2.heap.size,3,none⟩=some (.slice A1 n1 c1)/\W.cell? ⟨w2.heap.size+1,0,none⟩=some (.int .i64 pg)/\W.cell? ⟨w2.heap.size+1,1,none⟩=some (.int .i64 (ld+1))/\W.cell? ⟨w2.heap.size+1,2,none⟩=some (.int .i64 0)/\W.cell? ⟨w2.heap.size+1,3,none⟩=some (.slice A2 n2 c2))
    (first|with_reducible exact⟨x1',l0,l1,l2,l3,h0,h1,h2,h3⟩|exact⟨x1',l0,l1,l2,l3,h0,h1,h2,h3⟩|with_reducible exact c6)
    (first
     | (go_at_call 164;refine Calls.mono (HSL.out _) ?_;rintro e wE ⟨rfl,rfl⟩)
     | (go_at_call 239;refine Calls.mono HRP.out ?_;rintro e wE ⟨rfl,sv5,fs5,hg5,hfl5,hw5⟩;have c6:=HCC.out wE hw5.touch;have HG5:=hid hg5;have HFL5:=hid hfl5;have HW5:=hid hw5;clear hg5 hfl5 hw5))
   clear HRP HSL HCC x1' l0 l1 l2 l3 h0 h1 h2 h3;have q1:=c6.1;have HB5:=hid (HBX.out wE HW5.out.touch);clear c6 HBX;go_wp2_with fail;refine(HIH.out _).mono ?_;rintro e w6⟨rfl,rfl⟩;clear q1;obtain⟨l0,l1,l2,l3,_,_⟩:=Za HB5.out.2.2.1;obtain⟨h0,h1,h2,h3,_,_⟩:=Za HB5.out.2.2.2;obtain⟨wF,hwF⟩:∃wF,wF=wE.drew:=⟨_,rfl⟩
   have hF:Below wE.heap.size wE wF:=by rw[hwF];exact(Below.refl _ _).drew
   have HGF:=hid (HG5.out.keep hF);have hw5F:=HW5.out.trans (ZZ.below hF);have hs24:w2.heap.size<=w4.drew.heap.size:=HR.out.2.2.2.size;have hs01:=HWW.out.touch.size;have hs14:=HB14.out.size
   have hGXX:∀k,GX ch mb v' sv k->G2 k:=fun k e=>by
    have hl:=(HG2.out.lt _ e).2;rcases HWW.out.own _ e with a|a
    · exact HG2S.out.1 k (HGX.out k a)
    · exact HG2S.out.2 k (by have:=HNN.out.1;omega) hl
   have HG2K:=hid (show w2.heap.size<=wF.heap.size/\∀k,k<w2.heap.size->¬G2 k->¬GX ch mb v' sv5 k/\wF.heap[k]?=w2.heap[k]? from⟨ZZf hs24 hw5F.touch.size,fun k hk hn=>⟨fun e=>by
    rcases HW5.out.own _ e with a|a
    · exact hn (hGXX k a)
    · omega,(hw5F.touch.block k (ZZd hk hs24) (fun e=>hn (hGXX k e))).trans (HR.out.2.2.2.block k hk)⟩⟩)
   have hwTF:=(HWW.out.trans (ZZ.below HB14.out)).trans (hw5F.mono (ZZf hs01 hs14));have HTF:=hid hwTF;have HBF:=hid (show wF.heap[w.heap.size+1]?=_/\wF.heap[w2.heap.size]?=_/\wF.heap[w2.heap.size+1]?=_ from⟨(hF.block _ (ZZa.1 HB5.out.2.1).1).trans HB5.out.2.1,(hF.block _ (ZZa.1 HB5.out.2.2.1).1).trans HB5.out.2.2.1,(hF.block _ (ZZa.1 HB5.out.2.2.2).1).trans HB5.out.2.2.2⟩);have hw1s:w.heap.size+1<w1.heap.size:=by have:=HNN.out.1;omega
   have HBX5:=hid (show ∀sv6,(∀k,GX ch mb v' sv6 k->GX ch mb v' sv k∨W0.heap.size<=k)->¬GX ch mb v' sv6 (w.heap.size+1)from fun sv6 h e=>by
    have:=HNN.out.1
    rcases h _ e with a|a
    · have:=(HLT.out _ a).2;omega
    · omega)
   have HG2B:=hid (HG2S.out.2 _ (ZZh _) hw1s)
   have HNL:=hid (show ¬GX ch mb v' sv5 w2.heap.size/\¬GX ch mb v' sv5 (w2.heap.size+1)/\w2.heap.size≠w.heap.size+1/\w2.heap.size+1≠w.heap.size+1 from by
    have h12:=HR.out.2.2.1.size;have hl:=(ZZa.1 HR.out.2.1).1
    have:=HNN.out.1
    have hz:w4.drew.heap.size=w4.heap.size:=rfl;have hlt:=fun k (e:GX ch mb v' sv5 k)=>show k<w1.heap.size∨w4.heap.size<=k from(HW5.out.own k e).imp (fun a=>(HG2.out.lt _ a).2) (fun a=>a)
    exact⟨fun e=>by rcases hlt _ e with a|a <;> omega,fun e=>by rcases hlt _ e with a|a <;> omega,by omega,by omega⟩)
   have HLEN:=hid (show fs5.length+1<=4000000/\∀f:Value,(fs5++[f]).length<=fs.length+4000 from by
    obtain⟨_,_,_,_,_,_,_,_,_,_,_,q1,q2,_⟩:=HNN.out;have q3:=HFL5.out;have q4:=HFL1.out
    exact⟨by omega,fun f=>by rw[List.length_append];show fs5.length+1<=_;omega⟩)
   clear hF hw5F hs24 hs01 hs14 hGXX hwTF hw1s
   cases hhi:ZaC hh ld with
   | true=>
    have hlf:Zd9 wF G2 (.agg #[.int .i64 lpg,.int .i64 (ld+1),.int .i64 0,.slice A1 n1 c1]) (loL lpg ld ps):=⟨_,_,_,rfl,HE12.out.1.1,HE12.out.1.2.1,HE12.out.1.2.2.later HG2K.out.1 (fun k hk hn=>(HG2K.out.2 k hk hn).2)⟩
    have HKP:=hid (ZcI HGF.out hlf (show _/\_ from HNN.out.2.2.1) (show -9223372036854775808<=ld+1/\ld+1<=9223372036854775807 from by have:=HNN.out.2.1;omega) (show -9223372036854775808<=(0:Int)/\(0:Int)<=9223372036854775807 from by decide) (by have:=HNN.out.2.2.2.2.2.2.2.2.2.2.1;rw[hhi]at this;exact this) HLEN.out.1);clear hlf;subst hwF
    have HARM:=hid (show ∀(wK:World) (sv6 f6:Value) (nx:Nat) (SLx:Int->Option Int) (ssx:List Stp),ZF w0 wK ch st mb M M2 v v' sv6 nx SLx (fs5++[f6]) ssx->ZZ w0.heap.size wE.drew.heap.size ch mb v' sv5 v' sv6 fs5 (fs5++[f6]) _ ssx wE.drew wK->(ZF w0 ((((wK.setCell ⟨w.heap.size+1,0,none⟩ (.int .i64 pg)).setCell ⟨w.heap.size+1,1,none⟩ (.int .i64 (ld+1))).setCell ⟨w.heap.size+1,2,none⟩ (.int .i64 0)).setCell ⟨w.heap.size+1,3,none⟩ (.slice A2 n2 c2)) ch st mb M M2 v v' sv6 nx SLx (fs5++[f6]) ssx/\ZZ w0.heap.size w.heap.size ch mb v' sv v' sv6 fs (fs5++[f6]) ss ssx w ((((wK.setCell ⟨w.heap.size+1,0,none⟩ (.int .i64 pg)).setCell ⟨w.heap.size+1,1,none⟩ (.int .i64 (ld+1))).setCell ⟨w.heap.size+1,2,none⟩ (.int .i64 0)).setCell ⟨w.heap.size+1,3,none⟩ (.slice A2 n2 c2))/\((((wK.setCell ⟨w.heap.size+1,0,none⟩ (.int .i64 pg)).setCell ⟨w.heap.size+1,1,none⟩ (.int .i64 (ld+1))).setCell ⟨w.heap.size+1,2,none⟩ (.int .i64 0)).setCell ⟨w.heap.size+1,3,none⟩ (.slice A2 n2 c2)).heap[w.heap.size+1]?=some (.cells #[.int .i64 pg,.int .i64 (ld+1),.int .i64 0,.slice A2 n2 c2] 104 (0,0)))/\Zp ((((wK.setCell ⟨w.heap.size+1,0,none⟩ (.int .i64 pg)).setCell ⟨w.heap.size+1,1,none⟩ (.int .i64 (ld+1))).setCell ⟨w.heap.size+1,2,none⟩ (.int .i64 0)).setCell ⟨w.heap.size+1,3,none⟩ (.slice A2 n2 c2)) (fun k=>G k∨GX ch mb v' sv6 k) A2 n2 (hiL pg ld ps).ps/\wK.heap[w.heap.size+1]?=some (.cells #[.int .i64 0,.int .i64 0,.int .i64 0,.slice none 0 0] 104 (0,0))/\((wK.cell? ⟨w2.heap.size,0,none⟩=some (.int .i64 lpg)/\wK.cell? ⟨w2.heap.size,1,none⟩=some (.int .i64 (ld+1))/\wK.cell? ⟨w2.heap.size,2,none⟩=some (.int .i64 0)/\wK.cell? ⟨w2.heap.size,3,none⟩=some (.slice A1 n1 c1))/\(wK.cell? ⟨w2.heap.size+1,0,none⟩=some (.int .i64 pg)/\wK.cell? ⟨w2.heap.size+1,1,none⟩=some (.int .i64 (ld+1))/\wK.cell? ⟨w2.heap.size+1,2,none⟩=some (.int .i64 0)/\wK.cell? ⟨w2.heap.size+1,3,none⟩=some (.slice A2 n2 c2)))/\((((((wK.setCell ⟨w.heap.size+1,0,none⟩ (.int .i64 pg)).setCell ⟨w.heap.size+1,1,none⟩ (.int .i64 (ld+1))).setCell ⟨w.heap.size+1,2,none⟩ (.int .i64 0)).setCell ⟨w.heap.size+1,3,none⟩ (.slice A2 n2 c2)).cell? ⟨w2.heap.size,0,none⟩=some (.int .i64 lpg)/\((((wK.setCell ⟨w.heap.size+1,0,none⟩ (.int .i64 pg)).setCell ⟨w.heap.size+1,1,none⟩ (.int .i64 (ld+1))).setCell ⟨w.heap.size+1,2,none⟩ (.int .i64 0)).setCell ⟨w.heap.size+1,3,none⟩ (.slice A2 n2 c2)).cell? ⟨w2.heap.size,1,none⟩=some (.int .i64 (ld+1))/\((((wK.setCell ⟨w.heap.size+1,0,none⟩ (.int .i64 pg)).setCell ⟨w.heap.size+1,1,none⟩ (.int .i64 (ld+1))).setCell ⟨w.heap.size+1,2,none⟩ (.int .i64 0)).setCell ⟨w.heap.size+1,3,none⟩ (.slice A2 n2 c2)).cell? ⟨w2.heap.size,2,none⟩=some (.int .i64 0)/\((((wK.setCell ⟨w.heap.size+1,0,none⟩ (.int .i64 pg)).setCell ⟨w.heap.size+1,1,none⟩ (.int .i64 (ld+1))).setCell ⟨w.heap.size+1,2,none⟩ (.int .i64 0)).setCell ⟨w.heap.size+1,3,none⟩ (.slice A2 n2 c2)).cell? ⟨w2.heap.size,3,none⟩=some (.slice A1 n1 c1))/\(((((wK.setCell ⟨w.heap.size+1,0,none⟩ (.int .i64 pg)).setCell ⟨w.heap.size+1,1,none⟩ (.int .i64 (ld+1))).setCell ⟨w.heap.size+1,2,none⟩ (.int .i64 0)).setCell ⟨w.heap.size+1,3,none⟩ (.slice A2 n2 c2)).cell? ⟨w2.heap.size+1,0,none⟩=some (.int .i64 pg)/\((((wK.setCell ⟨w.heap.size+1,0,none⟩ (.int .i64 pg)).setCell ⟨w.heap.size+1,1,none⟩ (.int .i64 (ld+1))).setCell ⟨w.heap.size+1,2,none⟩ (.int .i64 0)).setCell ⟨w.heap.size+1,3,none⟩ (.slice A2 n2 c2)).cell? ⟨w2.heap.size+1,1,none⟩=some (.int .i64 (ld+1))/\((((wK.setCell ⟨w.heap.size+1,0,none⟩ (.int .i64 pg)).setCell ⟨w.heap.size+1,1,none⟩ (.int .i64 (ld+1))).setCell ⟨w.heap.size+1,2,none⟩ (.int .i64 0)).setCell ⟨w.heap.size+1,3,none⟩ (.slice A2 n2 c2)).cell? ⟨w2.heap.size+1,2,none⟩=some (.int .i64 0)/\((((wK.setCell ⟨w.heap.size+1,0,none⟩ (.int .i64 pg)).setCell ⟨w.heap.size+1,1,none⟩ (.int .i64 (ld+1))).setCell ⟨w.heap.size+1,2,none⟩ (.int .i64 0)).setCell ⟨w.heap.size+1,3,none⟩ (.slice A2 n2 c2)).cell? ⟨w2.heap.size+1,3,none⟩=some (.slice A2 n2 c2)))from fun wK sv6 f6 nx SLx ssx hg6 hw6=>by
     have hwT:=HTF.out.trans (hw6.mono HTF.out.touch.size);have hbk:=(hw6.touch.block (w.heap.size+1) (ZZa.1 HBF.out.1).1 (HBX5.out sv5 HTF.out.own)).trans HBF.out.1;have hwA:=(ZZ.below HX.out).trans (hwT.mono HX.out.size);have hlo:=(hw6.touch.block w2.heap.size (ZZa.1 HBF.out.2.1).1 HNL.out.1).trans HBF.out.2.1;have hhi2:=(hw6.touch.block (w2.heap.size+1) (ZZa.1 HBF.out.2.2).1 HNL.out.2.1).trans HBF.out.2.2
     refine⟨ZeG hg6 hwA (hwT.steps _ (fun k hk=>hk.2) HAV.out) (g:=w.heap.size+1) ⟨ZZh _,by have:=HNN.out.1;omega⟩ (HBX5.out sv6 hwT.own) (ZZf HH.out.bel.size (ZZh _)) (ZZh _) hbk _ _ _ _,HE12.out.2.2.2.grow (ZZf HG2K.out.1 (ZZf hw6.touch.size (by simp[World.setCell]))) (fun k hk hn=>(Z0 _ (fun e=>hn (by rw[e];exact HG2B.out)) _ _ _ _).trans ((hw6.touch.block k (ZZd hk HG2K.out.1) (HG2K.out.2 k hk hn).1).trans (HG2K.out.2 k hk hn).2)) (fun k hk hn hg=>by
      rcases hg with q|q
      · exact hn (HG2S.out.1 k q)
      · rcases hw6.own k q with q|q
        · exact(HG2K.out.2 k hk hn).1 q
        · exact absurd (ZZd hk HG2K.out.1) (Nat.not_lt.2 q)),hbk,Zao hlo hhi2,Zao ((Z0 _ HNL.out.2.2.1 _ _ _ _).trans hlo) ((Z0 _ HNL.out.2.2.2 _ _ _ _).trans hhi2)⟩)
    have c5:=Zao HBF.out.2.1 HBF.out.2.2;have c4:=Zao HB5.out.2.2.1 HB5.out.2.2.2;clear l0 l1 l2 l3 h0 h1 h2 h3;go_wp2_with fail
    go_region_held3 (fun W=>(W.cell? ⟨w2.heap.size,0,none⟩=some (.int .i64 lpg)/\W.cell? ⟨w2.heap.size,1,none⟩=some (.int .i64 (ld+1))/\W.cell? ⟨w2.heap.size,2,none⟩=some (.int .i64 0)/\W.cell? ⟨w2.heap.size,3,none⟩=some (.slice A1 n1 c1))/\(W.cell? ⟨w2.heap.size+1,0,none⟩=some (.int .i64 pg)/\W.cell? ⟨w2.heap.size+1,1,none⟩=some (.int .i64 (ld+1))/\W.cell? ⟨w2.heap.size+1,2,none⟩=some (.int .i64 0)/\W.cell? ⟨w2.heap.size+1,3,none⟩=some (.slice A2 n2 c2)))
     (first|with_reducible exact c4|with_reducible exact c5|with_reducible exact c6|with_reducible exact c7)
     (first
      | (go_at_call 97;refine Calls.mono HKP.out ?_;rintro e wK ⟨rfl,sv6,f6,hg6,hw6⟩;obtain⟨hp,hs6,hbk,c6,c7⟩:=HARM.out wK sv6 f6 _ _ _ hg6 hw6;have HP:=hid hp;have HST6:=hid hs6;obtain⟨z0,z1,z2,z3,fz,_⟩:=Za hbk;have f0:=fz 0;have f1:=fz 1;have f2:=fz 2;have f3:=fz 3;clear hp hs6 hbk fz hg6 hw6))
    all_goals clear HKP HARM c4 c5 c6 c7
    go_wp2_with fail;obtain⟨d0,d1,d2,d3,_,_⟩:=Za HP.out.2.2;obtain⟨eN,eS⟩:=HNS.out;subst eN eS;have HD:Zc3 w0 w _ ch st mb M M2 v v' sv ns 0 K SL1 fs ss [] G true lpg pg ld ps (slotN hh (ZJ ld)+2^ZA ld) (.agg #[.int .i64 pg,.int .i64 (ld+1),.int .i64 0,.slice A2 n2 c2]):=⟨_,_,_,⟨_,_,_,rfl,HE12.out.2.1,HE12.out.2.2.1,HST6.out⟩,HP.out.1,HLEN.out.2 _,HP.out.2.1⟩
    exact bodyPost_ret (v:=.tuple #[.agg #[.int .i64 pg,.int .i64 (ld+1),.int .i64 0,.slice A2 n2 c2],.int .i64 0]) (by simp[results,Tryz.results213,go_sem,d0,d1,d2,d3]) rfl ⟨_,rfl,by first|exact HD|(rw[hhi];exact HD)⟩
   | false=>
    have hlf:Zd9 wF G2 (.agg #[.int .i64 pg,.int .i64 (ld+1),.int .i64 0,.slice A2 n2 c2]) (hiL pg ld ps):=⟨_,_,_,rfl,HE12.out.2.1,HE12.out.2.2.1,HE12.out.2.2.2.later HG2K.out.1 (fun k hk hn=>(HG2K.out.2 k hk hn).2)⟩
    have HKP:=hid (ZcI HGF.out hlf (show _/\_ from HNN.out.2.2.2.2.2.2.1) (show -9223372036854775808<=ld+1/\ld+1<=9223372036854775807 from by have:=HNN.out.2.1;omega) (show -9223372036854775808<=(0:Int)/\(0:Int)<=9223372036854775807 from by decide) (by have:=HNN.out.2.2.2.2.2.2.2.2.2.2.1;rw[hhi]at this;exact this) HLEN.out.1);clear hlf;subst hwF
    have HARM:=hid (show ∀(wK:World) (sv6 f6:Value) (nx:Nat) (SLx:Int->Option Int) (ssx:List Stp),ZF w0 wK ch st mb M M2 v v' sv6 nx SLx (fs5++[f6]) ssx->ZZ w0.heap.size wE.drew.heap.size ch mb v' sv5 v' sv6 fs5 (fs5++[f6]) _ ssx wE.drew wK->(ZF w0 ((((wK.setCell ⟨w.heap.size+1,0,none⟩ (.int .i64 lpg)).setCell ⟨w.heap.size+1,1,none⟩ (.int .i64 (ld+1))).setCell ⟨w.heap.size+1,2,none⟩ (.int .i64 0)).setCell ⟨w.heap.size+1,3,none⟩ (.slice A1 n1 c1)) ch st mb M M2 v v' sv6 nx SLx (fs5++[f6]) ssx/\ZZ w0.heap.size w.heap.size ch mb v' sv v' sv6 fs (fs5++[f6]) ss ssx w ((((wK.setCell ⟨w.heap.size+1,0,none⟩ (.int .i64 lpg)).setCell ⟨w.heap.size+1,1,none⟩ (.int .i64 (ld+1))).setCell ⟨w.heap.size+1,2,none⟩ (.int .i64 0)).setCell ⟨w.heap.size+1,3,none⟩ (.slice A1 n1 c1))/\((((wK.setCell ⟨w.heap.size+1,0,none⟩ (.int .i64 lpg)).setCell ⟨w.heap.size+1,1,none⟩ (.int .i64 (ld+1))).setCell ⟨w.heap.size+1,2,none⟩ (.int .i64 0)).setCell ⟨w.heap.size+1,3,none⟩ (.slice A1 n1 c1)).heap[w.heap.size+1]?=some (.cells #[.int .i64 lpg,.int .i64 (ld+1),.int .i64 0,.slice A1 n1 c1] 104 (0,0)))/\Zp ((((wK.setCell ⟨w.heap.size+1,0,none⟩ (.int .i64 lpg)).setCell ⟨w.heap.size+1,1,none⟩ (.int .i64 (ld+1))).setCell ⟨w.heap.size+1,2,none⟩ (.int .i64 0)).setCell ⟨w.heap.size+1,3,none⟩ (.slice A1 n1 c1)) (fun k=>G k∨GX ch mb v' sv6 k) A1 n1 (loL lpg ld ps).ps/\wK.heap[w.heap.size+1]?=some (.cells #[.int .i64 0,.int .i64 0,.int .i64 0,.slice none 0 0] 104 (0,0))/\((wK.cell? ⟨w2.heap.size,0,none⟩=some (.int .i64 lpg)/\wK.cell? ⟨w2.heap.size,1,none⟩=some (.int .i64 (ld+1))/\wK.cell? ⟨w2.heap.size,2,none⟩=some (.int .i64 0)/\wK.cell? ⟨w2.heap.size,3,none⟩=some (.slice A1 n1 c1))/\(wK.cell? ⟨w2.heap.size+1,0,none⟩=some (.int .i64 pg)/\wK.cell? ⟨w2.heap.size+1,1,none⟩=some (.int .i64 (ld+1))/\wK.cell? ⟨w2.heap.size+1,2,none⟩=some (.int .i64 0)/\wK.cell? ⟨w2.heap.size+1,3,none⟩=some (.slice A2 n2 c2)))/\((((((wK.setCell ⟨w.heap.size+1,0,none⟩ (.int .i64 lpg)).setCell ⟨w.heap.size+1,1,none⟩ (.int .i64 (ld+1))).setCell ⟨w.heap.size+1,2,none⟩ (.int .i64 0)).setCell ⟨w.heap.size+1,3,none⟩ (.slice A1 n1 c1)).cell? ⟨w2.heap.size,0,none⟩=some (.int .i64 lpg)/\((((wK.setCell ⟨w.heap.size+1,0,none⟩ (.int .i64 lpg)).setCell ⟨w.heap.size+1,1,none⟩ (.int .i64 (ld+1))).setCell ⟨w.heap.size+1,2,none⟩ (.int .i64 0)).setCell ⟨w.heap.size+1,3,none⟩ (.slice A1 n1 c1)).cell? ⟨w2.heap.size,1,none⟩=some (.int .i64 (ld+1))/\((((wK.setCell ⟨w.heap.size+1,0,none⟩ (.int .i64 lpg)).setCell ⟨w.heap.size+1,1,none⟩ (.int .i64 (ld+1))).setCell ⟨w.heap.size+1,2,none⟩ (.int .i64 0)).setCell ⟨w.heap.size+1,3,none⟩ (.slice A1 n1 c1)).cell? ⟨w2.heap.size,2,none⟩=some (.int .i64 0)/\((((wK.setCell ⟨w.heap.size+1,0,none⟩ (.int .i64 lpg)).setCell ⟨w.heap.size+1,1,none⟩ (.int .i64 (ld+1))).setCell ⟨w.heap.size+1,2,none⟩ (.int .i64 0)).setCell ⟨w.heap.size+1,3,none⟩ (.slice A1 n1 c1)).cell? ⟨w2.heap.size,3,none⟩=some (.slice A1 n1 c1))/\(((((wK.setCell ⟨w.heap.size+1,0,none⟩ (.int .i64 lpg)).setCell ⟨w.heap.size+1,1,none⟩ (.int .i64 (ld+1))).setCell ⟨w.heap.size+1,2,none⟩ (.int .i64 0)).setCell ⟨w.heap.size+1,3,none⟩ (.slice A1 n1 c1)).cell? ⟨w2.heap.size+1,0,none⟩=some (.int .i64 pg)/\((((wK.setCell ⟨w.heap.size+1,0,none⟩ (.int .i64 lpg)).setCell ⟨w.heap.size+1,1,none⟩ (.int .i64 (ld+1))).setCell ⟨w.heap.size+1,2,none⟩ (.int .i64 0)).setCell ⟨w.heap.size+1,3,none⟩ (.slice A1 n1 c1)).cell? ⟨w2.heap.size+1,1,none⟩=some (.int .i64 (ld+1))/\((((wK.setCell ⟨w.heap.size+1,0,none⟩ (.int .i64 lpg)).setCell ⟨w.heap.size+1,1,none⟩ (.int .i64 (ld+1))).setCell ⟨w.heap.size+1,2,none⟩ (.int .i64 0)).setCell ⟨w.heap.size+1,3,none⟩ (.slice A1 n1 c1)).cell? ⟨w2.heap.size+1,2,none⟩=some (.int .i64 0)/\((((wK.setCell ⟨w.heap.size+1,0,none⟩ (.int .i64 lpg)).setCell ⟨w.heap.size+1,1,none⟩ (.int .i64 (ld+1))).setCell ⟨w.heap.size+1,2,none⟩ (.int .i64 0)).setCell ⟨w.heap.size+1,3,none⟩ (.slice A1 n1 c1)).cell? ⟨w2.heap.size+1,3,none⟩=some (.slice A2 n2 c2)))from fun wK sv6 f6 nx SLx ssx hg6 hw6=>by
     have hwT:=HTF.out.trans (hw6.mono HTF.out.touch.size);have hbk:=(hw6.touch.block (w.heap.size+1) (ZZa.1 HBF.out.1).1 (HBX5.out sv5 HTF.out.own)).trans HBF.out.1;have hwA:=(ZZ.below HX.out).trans (hwT.mono HX.out.size);have hlo:=(hw6.touch.block w2.heap.size (ZZa.1 HBF.out.2.1).1 HNL.out.1).trans HBF.out.2.1;have hhi2:=(hw6.touch.block (w2.heap.size+1) (ZZa.1 HBF.out.2.2).1 HNL.out.2.1).trans HBF.out.2.2
     refine⟨ZeG hg6 hwA (hwT.steps _ (fun k hk=>hk.2) HAV.out) (g:=w.heap.size+1) ⟨ZZh _,by have:=HNN.out.1;omega⟩ (HBX5.out sv6 hwT.own) (ZZf HH.out.bel.size (ZZh _)) (ZZh _) hbk _ _ _ _,HE12.out.1.2.2.grow (ZZf HG2K.out.1 (ZZf hw6.touch.size (by simp[World.setCell]))) (fun k hk hn=>(Z0 _ (fun e=>hn (by rw[e];exact HG2B.out)) _ _ _ _).trans ((hw6.touch.block k (ZZd hk HG2K.out.1) (HG2K.out.2 k hk hn).1).trans (HG2K.out.2 k hk hn).2)) (fun k hk hn hg=>by
      rcases hg with q|q
      · exact hn (HG2S.out.1 k q)
      · rcases hw6.own k q with q|q
        · exact(HG2K.out.2 k hk hn).1 q
        · exact absurd (ZZd hk HG2K.out.1) (Nat.not_lt.2 q)),hbk,Zao hlo hhi2,Zao ((Z0 _ HNL.out.2.2.1 _ _ _ _).trans hlo) ((Z0 _ HNL.out.2.2.2 _ _ _ _).trans hhi2)⟩)
    have c5:=Zao HBF.out.2.1 HBF.out.2.2;have c4:=Zao HB5.out.2.2.1 HB5.out.2.2.2;clear l0 l1 l2 l3 h0 h1 h2 h3;go_wp2_with fail
    go_region_held3 (fun W=>(W.cell? ⟨w2.heap.size,0,none⟩=some (.int .i64 lpg)/\W.cell? ⟨w2.heap.size,1,none⟩=some (.int .i64 (ld+1))/\W.cell? ⟨w2.heap.size,2,none⟩=some (.int .i64 0)/\W.cell? ⟨w2.heap.size,3,none⟩=some (.slice A1 n1 c1))/\(W.cell? ⟨w2.heap.size+1,0,none⟩=some (.int .i64 pg)/\W.cell? ⟨w2.heap.size+1,1,none⟩=some (.int .i64 (ld+1))/\W.cell? ⟨w2.heap.size+1,2,none⟩=some (.int .i64 0)/\W.cell? ⟨w2.heap.size+1,3,none⟩=some (.slice A2 n2 c2)))
     (first|with_reducible exact c4|with_reducible exact c5|with_reducible exact c6|with_reducible exact c7)
     (first
      | (go_at_call 97;refine Calls.mono HKP.out ?_;rintro e wK ⟨rfl,sv6,f6,hg6,hw6⟩;obtain⟨hp,hs6,hbk,c6,c7⟩:=HARM.out wK sv6 f6 _ _ _ hg6 hw6;have HP:=hid hp;have HST6:=hid hs6;obtain⟨z0,z1,z2,z3,fz,_⟩:=Za hbk;have f0:=fz 0;have f1:=fz 1;have f2:=fz 2;have f3:=fz 3;clear hp hs6 hbk fz hg6 hw6))
    all_goals clear HKP HARM c4 c5 c6 c7
    go_wp2_with fail;obtain⟨d0,d1,d2,d3,_,_⟩:=Za HP.out.2.2;obtain⟨eN,eS⟩:=HNS.out;subst eN eS;have HD:Zc3 w0 w _ ch st mb M M2 v v' sv ns 0 K SL1 fs ss [] G false lpg pg ld ps (slotN hh (ZJ ld)+2^ZA ld) (.agg #[.int .i64 lpg,.int .i64 (ld+1),.int .i64 0,.slice A1 n1 c1]):=⟨_,_,_,⟨_,_,_,rfl,HE12.out.1.1,HE12.out.1.2.1,HST6.out⟩,HP.out.1,HLEN.out.2 _,HP.out.2.1⟩
    exact bodyPost_ret (v:=.tuple #[.agg #[.int .i64 lpg,.int .i64 (ld+1),.int .i64 0,.slice A1 n1 c1],.int .i64 0]) (by simp[results,Tryz.results213,go_sem,d0,d1,d2,d3]) rfl ⟨_,rfl,by first|exact HD|(rw[hhi];exact HD)⟩
end
end Go.Proofs.YtlmkdmdbpopnhaaGreatDoor
