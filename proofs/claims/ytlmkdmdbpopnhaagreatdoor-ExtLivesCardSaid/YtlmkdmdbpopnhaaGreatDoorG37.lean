/- ExuG, ExuX, ExuY, ExuH. Conditions: in each theorem. -/
import Derived.Test.YtlmkdmdbpopnhaaGreatDoorG36
set_option maxHeartbeats 3200000
set_option maxRecDepth 100000
set_option linter.unusedVariables false
open Go.Proofs.Tryz
open Go.Lib (hid)
namespace Go.Proofs.YtlmkdmdbpopnhaaGreatDoor
open Go.RowKit
section
variable{D:World->(Nat->Prop)->Addr->DS->Prop}{w0 w w':World}{F O:Nat->Prop}{p:Addr}{S:DS}{q r b st ch mb:Nat}{seq:Int}{L:List (Int×List Int)}{M M':MV}{v v' sv:Value}{ns:Nat}{SL:Int->Option Int}{fs:List Value}{ss:List Stp}
structure Zcv(ls:List Zw)(key:List Int)(m i:Nat)(l:Zw):Prop where
 leaf:ls[m]?=some l
 at_:findI l.ps key=(i:Int)
 lt:i<l.ps.length
 no:∀(m':Nat) (l':Zw),m'<m->ls[m']?=some l'->findI l'.ps key<0
theorem Zcv.same{ls:List Zw}{key:List Int}{m i:Nat}{l:Zw}(h:Zcv ls key m i l){a z:Int}(hr:Zre ls key a z):a=(m:Int)/\z=(i:Int):=by
 rcases hr with ⟨_,_,hno⟩|⟨m2,l2,rfl,e2,rfl,h0,hno⟩
 · have:=hno m l h.leaf
   have:=h.at_
   omega
 · have e:m2=m:=by
    rcases Nat.lt_trichotomy m2 m with q|q|q
    · have:=h.no m2 l2 q e2;omega
    · exact q
    · have:=hno m l q h.leaf
      have:=h.at_
      omega
   subst e
   have:=h.leaf
   rw[e2]at this;obtain rfl:=Option.some.inj this;exact⟨rfl,h.at_⟩
theorem Zjv(api:Zb D)(hS:SAt D w0 F O p S q seq r b st L)(h:ZF w0 w ch st mb M M' v v' sv ns SL fs ss){ka:Option Addr}{kn kc:Nat}{key:List Int}(hk:BIn w (GX ch mb v' sv) ka kn key)(hkc:kn<=kc/\kn<=maxLen)
 {pg:Int} {ls:List Zw} (hc:Za0 S L M' key pg ls) (hcnt : -9223372036854775808<M'.c/\M'.c<=9223372036854775807)
 {m i:Nat} {l:Zw} (hfd:Zcv ls key m i l) (hcase:m=0∨(l.ps.eraseIdx i).length≠0) (hln:l.ps.length<=4294967295)
 (hlpg : -9223372036854775808<=l.pg/\l.pg<=9223372036854775807) (hd : -9223372036854775808<=l.d/\l.d<=9223372036854775807) (hx : -9223372036854775808<=l.x/\l.x<=9223372036854775807) (hmay:ZD ⟨l.d,l.x,l.ps.eraseIdx i⟩=true) (hmm:fs.length+1<=4000000) :
 Calls prog 103 #[.pointer (some ⟨ch,0,none⟩),.slice ka kn kc] w fun e w'=>e=.returned (.tuple #[.bool true,.int .i64 0])/\∃sv2 f,ZF w0 w' ch st mb M {M' with c:=M'.c-1} v v' sv2 ns SL (fs++[f]) (ss++[.lay l.pg (pageBk ⟨l.d,l.x,l.ps.eraseIdx i⟩)]):=by
 obtain⟨A',c',hv'e,hc',hri⟩:=h.ri;have hfew:=h.few;have hb1:Below w.heap.size w w.drew:=(Below.refl _ _).drew;have hg1:=h.keep hb1;obtain⟨_,_,_,_,_,y6,y7,y8,y9,y10,_⟩:=hg1.at_.cells2;have y0:=hg1.at_.cells.1;rw[hv'e]at y10;have hk1:=hk.below hb1;have HZ2:=hid (show ∀W,Below w.drew.heap.size w.drew W->W.cell? ⟨ch,0,none⟩=some (.pointer (some ⟨st,0,none⟩))/\W.cell? ⟨ch,6,none⟩=some (.int .i64 M'.d)/\W.cell? ⟨ch,7,none⟩=some (.int .i64 M'.f)/\W.cell? ⟨ch,8,none⟩=some (.int .i64 M'.n)/\W.cell? ⟨ch,9,none⟩=some (.int .i64 M'.c)/\W.cell? ⟨ch,10,none⟩=some (.slice A' M'.l.length c')from fun W hb2=>⟨(hb2.cell (p:=⟨ch,0,none⟩) (World.block_lt_of_cell? _ _ y0)).trans y0,(hb2.cell (p:=⟨ch,6,none⟩) (World.block_lt_of_cell? _ _ y6)).trans y6,(hb2.cell (p:=⟨ch,7,none⟩) (World.block_lt_of_cell? _ _ y7)).trans y7,(hb2.cell (p:=⟨ch,8,none⟩) (World.block_lt_of_cell? _ _ y8)).trans y8,(hb2.cell (p:=⟨ch,9,none⟩) (World.block_lt_of_cell? _ _ y9)).trans y9,(hb2.cell (p:=⟨ch,10,none⟩) (World.block_lt_of_cell? _ _ y10)).trans y10⟩);have HCH:=hid (ZaX api ((hS.below api h.bel).below api hb1) M'.d M'.f M'.n M'.c (A0:=A') (cap:=c') (Kc:=kc) pg (hri.below hb1) hb1.size hc' (by unfold maxLen;omega) hk1.1 (ZZe _) hkc.2 hc.dir hc.ok hc.few hc.all);have HG:=hid h;have HB1:=hid hb1;have HK:=hid hk;have HLT:=hid h.lt;have HFD:=hid hfd;have hlen:ls.length<=4294967296:=by have:=hc.few;have:=hc.all;omega
 have hmls:m<ls.length:=(ZZb.1 hfd.leaf).1;have wrc:IntKind.i64.wrap (M'.c-1)=M'.c-1:=by rw[IntKind.wrap_i64];first|(unfold wrap64;omega)|omega
 have hi0:i<l.ps.length:=hfd.lt;clear h hk hg1 hk1 hc hri hS hfd;go_enter func103,ntmps103;go_wp2_with fail
 go_region_held3 (fun W=>W.cell? ⟨ch,0,none⟩=some (.pointer (some ⟨st,0,none⟩))/\W.cell? ⟨ch,6,none⟩=some (.int .i64 M'.d)/\W.cell? ⟨ch,7,none⟩=some (.int .i64 M'.f)/\W.cell? ⟨ch,8,none⟩=some (.int .i64 M'.n)/\W.cell? ⟨ch,9,none⟩=some (.int .i64 M'.c)/\W.cell? ⟨ch,10,none⟩=some (.slice A' M'.l.length c'))
  (first|with_reducible exact z2|exact⟨y0,y6,y7,y8,y9,y10⟩)
  (first
   | (go_at_call 101;refine HCH.out.mono ?_;rintro e w2 ⟨A2,c2,rfl,hch2,hb2⟩;have z2:=HZ2.out w2 hb2))
 have hk2:=((HK.out.below HB1.out).below hb2)
 have HFI:=hid (ZaW (Kc:=kc) hch2 hk2.1 (ZZe _) hlen);have HCH2:=hid hch2;have HB2:=hid hb2;clear HCH hch2 hb2 hk2 y0 y6 y7 y8 y9 y10 HZ2 z2;go_wp2_with fail;refine HFI.out.mono ?_;rintro e w3⟨a,z,rfl,hfr,hb3⟩;obtain⟨rfl,rfl⟩:=HFD.out.same hfr;have hb13:=HB2.out.trans (hb3.mono HB2.out.size);have hb03:=HB1.out.trans (hb13.mono HB1.out.size);have hg3:=HG.out.keep hb03;obtain⟨_,_,_,_,_,_,_,_,x9,_,_⟩:=hg3.at_.cells2;have hat3:=hg3.at_;unfold ZcT at hat3;have f9:w3.frozen? ⟨ch,9,none⟩=false:=by simp[World.frozen?,hat3]
 have hchl:ch<w.heap.size:=(HLT.out ch (.inl rfl)).2;have hcl:ch<w.drew.heap.size:=ZZd hchl HB1.out.size;obtain⟨w4,hw4⟩:∃w4,w4=w3.setCell ⟨ch,9,none⟩ (.int .i64 (M'.c-1)):=⟨_,rfl⟩
 have hg4:ZF w0 w4 ch st mb M {M' with c:=M'.c-1} v v' sv ns SL fs ss:=by rw[hw4];exact hg3.setCount _
 have hch4:ZL w.drew w4 (.slice A2 ls.length c2) ls:=by rw[hw4];exact(HCH2.out.below hb3).poke hcl _
 obtain⟨g,A5,n5,c5,rfl,hgl,hwg,s0,s1,s2,s3,hn5,hm5,hst5,_⟩:=hch4.leaf HFD.out.leaf (Below.refl _ _);obtain⟨lpg,ld,lx,ps⟩:=l;simp only at s0 s1 s2 hst5 hi0 hln hlpg hd hx hmay hcase;have hn5e:ps.length=n5:=hst5.now.1
 have hGin:∀k,(k<w.drew.heap.size∨k=g)->k<w4.heap.size:=fun k hk=>by
  rcases hk with e|e
  · exact ZZd e (ZZf hb13.size (by rw[hw4];simp[World.setCell]))
  · rw[e];exact hgl
 have HWO:=hid (Zed (l:=⟨lpg,ld,lx,ps⟩) (i:=i) hn5 hst5 hGin (by omega) (by omega));have HG4:=hid hg4;have hm':(m:Int)<(ls.length:Int):=by omega
 have s0':=s0;have s1':=s1;have s2':=s2;have s3':=s3;rw[hw4]at s0' s1' s2' s3';have hb04:w.heap.size<=w4.heap.size:=by rw[hw4];simpa[World.setCell] using hb03.size
 clear hfr hb3 hb13 hb03 hg3 hat3 HFI hg4 hch4 hst5 hGin HB2 HCH2 hcl;go_wp2_with fail;rw[<-hw4];clear hw4 s0' s1' s2' s3' x9 f9;refine HWO.out.mono ?_;rintro e w5⟨lv,rfl,⟨A6,n6,c6,rfl,hc6,hn6,hst6⟩,hb5⟩;simp only at hst6;have hn6e:(ps.eraseIdx i).length=n6:=hst6.now.1;obtain⟨w6,hw6⟩:∃w6,w6=w5.alloc (.cells #[.int .i64 lpg,.int .i64 ld,.int .i64 lx,.slice A6 n6 c6] 104):=⟨_,rfl⟩
 have hba:Below w5.heap.size w5 w6:=by rw[hw6];exact(Below.refl _ _).alloc (ZZe _) _
 have hbx:w6.heap[w5.heap.size]?=some (.cells #[.int .i64 lpg,.int .i64 ld,.int .i64 lx,.slice A6 n6 c6] 104 (0,0)):=by rw[hw6];exact heap_alloc_new _ _
 obtain⟨t0,t1,t2,t3,_,_⟩:=Za hbx;have hb46:Below w4.heap.size w4 w6:=hb5.trans (hba.mono hb5.size);have HKP:=hid (ZcI (HG4.out.keep hb46) (l:=⟨lpg,ld,lx,ps.eraseIdx i⟩) ⟨A6,n6,c6,rfl,hc6,hn6,hst6.below hba⟩ hlpg hd hx hmay hmm);have t3':=t3;rw[hw6]at t3';clear hba hbx hb46 hst6 hb5 HG4 HWO s0 s1 s2 s3;by_cases hm0:m=0
 · subst hm0;clear hcase;go_wp2_with fail;rw[<-hw6];clear hw6 t3';go_wp2_with fail;refine HKP.out.mono ?_;rintro e w7⟨rfl,sv2,f,hg7,_⟩;have HE:=hid hg7;clear hg7 HKP;go_wp2_with fail;go_ret2;exact⟨rfl,sv2,f,by have q:=HE.out;rw[hv'e]at q;exact q⟩
 · have hmp:(m:Int)>0:=by omega
   have hne:((n6:Int) == 0)=false:=by
    have:=hcase.resolve_left hm0
    rw[hn6e]at this;simp;exact this
   clear hcase;go_wp2_with fail;rw[<-hw6];clear hw6 t3';go_wp2_with fail;refine HKP.out.mono ?_;rintro e w7⟨rfl,sv2,f,hg7,_⟩;have HE:=hid hg7;clear hg7 HKP;go_wp2_with fail;go_ret2;exact⟨rfl,sv2,f,by have q:=HE.out;rw[hv'e]at q;exact q⟩
end
def Zpz(S:DS)(L:List (Int×List Int))(M:MV)(x:KV)(N:Nat)(M':MV)(SL:Int->Option Int)(ls:List Zw)(m i:Nat)(l:Zw)(M3:MV)(SL3:Int->Option Int)(k3:Nat)(ssF:List Stp):Prop:=
 (Zdo x ⟨l.pg,l.d,l.x,l.ps.eraseIdx i⟩/\ZD ⟨l.d,l.x,l.ps.eraseIdx i++[x]⟩=true/\M3=M'/\SL3=SL/\k3=0/\ssF = [.lay l.pg (pageBk ⟨l.d,l.x,l.ps.eraseIdx i++[x]⟩)])∨
 (¬Zdo x ⟨l.pg,l.d,l.x,l.ps.eraseIdx i⟩/\ZD ⟨l.d,l.x,l.ps.eraseIdx i⟩=true/\∃ss3,ssF = [.lay l.pg (pageBk ⟨l.d,l.x,l.ps.eraseIdx i⟩)]++ss3/\AddDo S L M x (hashL x.1) N M' SL (ls.set m ⟨l.pg,l.d,l.x,l.ps.eraseIdx i⟩) M3 SL3 k3 ss3)
section
variable{D:World->(Nat->Prop)->Addr->DS->Prop}{w0 w w':World}{F O:Nat->Prop}{p:Addr}{S:DS}{q r b st ch mb:Nat}{seq:Int}{L:List (Int×List Int)}{M M':MV}{v v' sv:Value}{ns:Nat}{SL:Int->Option Int}{fs:List Value}{ss:List Stp}
theorem ZpA(api:Zb D)(hS:SAt D w0 F O p S q seq r b st L)(h:ZF w0 w ch st mb M M' v v' sv ns SL fs ss){ka va:Option Addr}{kn kc vn vc:Nat}{x:KV}(hk:BIn w (GX ch mb v' sv) ka kn x.1)(hv:BIn w (GX ch mb v' sv) va vn x.2)(hkc:kn<=kc/\kn<=maxLen)(hvc:vn<=vc/\vn<=maxLen)
 {pg:Int} {ls:List Zw} (hc:Za0 S L M' x.1 pg ls)
 {m i:Nat} {l:Zw} (hfd:Zcv ls x.1 m i l) (hli:Zdn l) (hln:l.ps.length<=4294967295) (hsz:szP (l.ps.eraseIdx i++[x])<=4611686018427387904)
 {N:Nat} {M3:MV} {SL3:Int->Option Int} {k3:Nat} {ssF:List Stp} (hdo:Zpz S L M x N M' SL ls m i l M3 SL3 k3 ssF) (hN:N<=11) (hm:fs.length<=3899999) (hns:ns<=3800000) :
 Calls prog 100 #[.pointer (some ⟨ch,0,none⟩),.agg #[.slice ka kn kc,.slice va vn vc]] w fun e w'=>e=.returned (.int .i64 0)/\∃v2 sv2 fs2,ZF w0 w' ch st mb M M3 v v2 sv2 (ns+k3) SL3 fs2 (ss++ssF)/\fs2.length<=fs.length+50001:=by
 obtain⟨A',c',hv'e,hc',hri⟩:=h.ri;have hfew:=h.few;obtain⟨w1,hw1⟩:∃w1,w1=w.alloc (.cells #[.slice ka kn kc,.slice va vn vc] 65):=⟨_,rfl⟩
 have hb1:Below w.heap.size w w1.drew:=by rw[hw1];exact((Below.refl _ _).alloc (ZZe _) _).drew
 have hz1:w1.drew.heap.size=w.heap.size+1:=by rw[hw1];show(w.alloc _).heap.size=_;simp
 have hp1:w1.drew.heap[w.heap.size]?=some (.cells #[.slice ka kn kc,.slice va vn vc] 65 (0,0)):=by rw[hw1];exact heap_alloc_new w _
 have hg1:=h.keep hb1;obtain⟨_,_,_,_,_,y6,y7,y8,y9,y10,_⟩:=hg1.at_.cells2;have y0:=hg1.at_.cells.1;rw[hv'e]at y10;have p0:w1.drew.cell? ⟨w.heap.size,0,none⟩=some (.slice ka kn kc):=by rw[cell_of_row _ _ 0 _ _ (0,0) hp1];rfl
 have hk1:=hk.below hb1;have HZ2:=hid (show ∀W,Below w1.drew.heap.size w1.drew W->W.cell? ⟨ch,0,none⟩=some (.pointer (some ⟨st,0,none⟩))/\W.cell? ⟨ch,6,none⟩=some (.int .i64 M'.d)/\W.cell? ⟨ch,7,none⟩=some (.int .i64 M'.f)/\W.cell? ⟨ch,8,none⟩=some (.int .i64 M'.n)/\W.cell? ⟨ch,9,none⟩=some (.int .i64 M'.c)/\W.cell? ⟨ch,10,none⟩=some (.slice A' M'.l.length c')/\W.cell? ⟨w.heap.size,0,none⟩=some (.slice ka kn kc)from fun W hb2=>⟨(hb2.cell (p:=⟨ch,0,none⟩) (World.block_lt_of_cell? _ _ y0)).trans y0,(hb2.cell (p:=⟨ch,6,none⟩) (World.block_lt_of_cell? _ _ y6)).trans y6,(hb2.cell (p:=⟨ch,7,none⟩) (World.block_lt_of_cell? _ _ y7)).trans y7,(hb2.cell (p:=⟨ch,8,none⟩) (World.block_lt_of_cell? _ _ y8)).trans y8,(hb2.cell (p:=⟨ch,9,none⟩) (World.block_lt_of_cell? _ _ y9)).trans y9,(hb2.cell (p:=⟨ch,10,none⟩) (World.block_lt_of_cell? _ _ y10)).trans y10,(hb2.cell (p:=⟨w.heap.size,0,none⟩) (World.block_lt_of_cell? _ _ p0)).trans p0⟩);have HCH:=hid (ZaX api ((hS.below api h.bel).below api hb1) M'.d M'.f M'.n M'.c (A0:=A') (cap:=c') (Kc:=kc) pg (hri.below hb1) hb1.size hc' (by unfold maxLen;omega) hk1.1 (ZZe _) hkc.2 hc.dir hc.ok hc.few hc.all);have HG:=hid h;have HB1:=hid hb1;have HK:=hid hk;have HV:=hid hv;have HP1:=hid hp1;have HZ1:=hid hz1;have HLT:=hid h.lt;have HFD:=hid hfd;have HDO:=hid hdo;have HLI:=hid hli;have HSZ:=hid hsz;have HS:=hid hS;have hlen:ls.length<=4294967296:=by have:=hc.few;have:=hc.all;omega
 have HCF:=hid (show ls.length<=4294967296 from hlen);clear h hk hv hb1 hp1 hg1 hk1 hfd hdo hc hri hS hz1 hli hsz;go_enter func100,ntmps100;go_wp2_with fail;rw[<-hw1];clear hw1
 go_region_held3 (fun W=>W.cell? ⟨ch,0,none⟩=some (.pointer (some ⟨st,0,none⟩))/\W.cell? ⟨ch,6,none⟩=some (.int .i64 M'.d)/\W.cell? ⟨ch,7,none⟩=some (.int .i64 M'.f)/\W.cell? ⟨ch,8,none⟩=some (.int .i64 M'.n)/\W.cell? ⟨ch,9,none⟩=some (.int .i64 M'.c)/\W.cell? ⟨ch,10,none⟩=some (.slice A' M'.l.length c')/\W.cell? ⟨w.heap.size,0,none⟩=some (.slice ka kn kc))
  (first|with_reducible exact z2|exact⟨y0,y6,y7,y8,y9,y10,p0⟩)
  (first
   | (go_at_call 101;refine HCH.out.mono ?_;rintro e w2 ⟨A2,c2,rfl,hch2,hb2⟩;have z2:=HZ2.out w2 hb2))
 obtain⟨_,_,_,_,_,_,p2⟩:=z2;have hk2:=((HK.out.below HB1.out).below hb2)
 have HFI:=hid (ZaW (Kc:=kc) hch2 hk2.1 (ZZe _) hlen);have HCH2:=hid hch2;have HB2:=hid hb2;clear HCH hch2 hb2 hk2 y0 y6 y7 y8 y9 y10 p0 HZ2;go_wp2_with fail;refine HFI.out.mono ?_;rintro e w3⟨a,i,rfl,hfr,hb3⟩;obtain⟨rfl,rfl⟩:=HFD.out.same hfr;have hb13:=HB2.out.trans (hb3.mono HB2.out.size);have hb03:=HB1.out.trans (hb13.mono HB1.out.size);have hml:=HFD.out.leaf;have hmlt:=(ZZb.1 hml).1;obtain⟨hnl,hc2,hrd⟩:=(HCH2.out.below hb3).read;obtain⟨g,rfl,hg3,hwg,hfz,hat⟩:=hrd (by omega);obtain⟨A',n',c',c0,c1,c2',c3,hc',hn',hst⟩:=hat m l hml;have HG3:=hid (ZZg hg3 hwg);have HB13:=hid hb13;have HLN:=hid hln;have HB03:=hid hb03;have HCH3:=hid (HCH2.out.below hb3);have hn4:n'<=4294967296:=by have:=hst.now.1;omega
 have hi':i<n':=by have:=hst.now.1;have:=HFD.out.lt;omega
 have HWO:=hid (Zed (l:=l) (i:=i) hc' hst (fun k hk=>by
  rcases hk with q|q
  · exact ZZd q hb13.size
  · omega) hi' hn4)
 have HFZ:=hid hfz;have hmi:(0:Int)<=(m:Int):=by omega
 have hmi2:(m:Int)<(ls.length:Int):=by omega
 have hni:¬((i:Int)<0):=by omega
 obtain⟨lpg,ld,lx,lps⟩:=l;simp only at c0 c1 c2' HWO;clear hfr hb3 hb13 hb03 hrd hat hst HFI hg3 hwg hfz hml hmlt hnl hn4 hi';go_wp2_with fail;refine HWO.out.mono ?_;rintro e w4⟨lv,rfl,⟨A5,n5,c5,rfl,hc5,hn5,hs5⟩,hb4⟩;have hgl:g<w4.heap.size:=ZZd HG3.out.1 hb4.size;have hblkg:=hb4.block g HG3.out.1
 have fz:∀k,w4.frozen? ⟨g,k,none⟩=false:=fun k=>by
  have:=HFZ.out k
  simpa[World.frozen?,hblkg] using this
 have f0:=fz (m*4);have f1:=fz (m*4+1);have f2:=fz (m*4+2);have f3:=fz (m*4+3);have k0:=(hb4.cell (p:=⟨g,m*4,none⟩) HG3.out.1).trans c0;have k1:=(hb4.cell (p:=⟨g,m*4+1,none⟩) HG3.out.1).trans c1;have k2:=(hb4.cell (p:=⟨g,m*4+2,none⟩) HG3.out.1).trans c2';have k3':=(hb4.cell (p:=⟨g,m*4+3,none⟩) HG3.out.1).trans c3;have hb13:=HB13.out;have hGXw:∀k,GX ch mb v' sv k->k<w1.drew.heap.size:=fun k hk=>ZZd (HLT.out k hk).2 HB1.out.size
 have hs5':Zp w4 (fun k=>GX ch mb v' sv k∨k=g) A5 n5 (lps.eraseIdx i):=Zp.grow (ps:=lps.eraseIdx i) hs5 (ZZe _) (fun _ _ _=>rfl) (fun k _ hn hg=>hn (hg.imp (hGXw k) id));have hlc3:=LC.of_chain HCH3.out (by have:=HFD.out.leaf;have:=(ZZb.1 this).1;omega) hGXw;have HL5:=hid (LC.set (l':=⟨lpg,ld,lx,lps.eraseIdx i⟩) hlc3 hb4 HFD.out.leaf hc5 hn5 hs5');obtain⟨⟨r0,r1,r2,r3⟩,_⟩:=Zn9 k0 k1 k2 k3' (.int .i64 lpg) (.int .i64 ld) (.int .i64 lx) (.slice A5 n5 c5);have hb15:Below w1.drew.heap.size w1.drew ((((w4.setCell ⟨g,m*4,none⟩ (.int .i64 lpg)).setCell ⟨g,m*4+1,none⟩ (.int .i64 ld)).setCell ⟨g,m*4+2,none⟩ (.int .i64 lx)).setCell ⟨g,m*4+3,none⟩ (.slice A5 n5 c5)):=((((hb13.trans (hb4.mono hb13.size)).setCell (p:=⟨g,m*4,none⟩) HG3.out.2 _).setCell (p:=⟨g,m*4+1,none⟩) HG3.out.2 _).setCell (p:=⟨g,m*4+2,none⟩) HG3.out.2 _).setCell (p:=⟨g,m*4+3,none⟩) HG3.out.2 _;have hs55:Zp ((((w4.setCell ⟨g,m*4,none⟩ (.int .i64 lpg)).setCell ⟨g,m*4+1,none⟩ (.int .i64 ld)).setCell ⟨g,m*4+2,none⟩ (.int .i64 lx)).setCell ⟨g,m*4+3,none⟩ (.slice A5 n5 c5)) (fun k=>GX ch mb v' sv k∨k=g) A5 n5 (lps.eraseIdx i):=(((hs5'.setCell (p:=⟨g,m*4,none⟩) (.inr rfl) _).setCell (p:=⟨g,m*4+1,none⟩) (.inr rfl) _).setCell (p:=⟨g,m*4+2,none⟩) (.inr rfl) _).setCell (p:=⟨g,m*4+3,none⟩) (.inr rfl) _;obtain⟨W5,hW5⟩:∃W5,W5=((((w4.setCell ⟨g,m*4,none⟩ (.int .i64 lpg)).setCell ⟨g,m*4+1,none⟩ (.int .i64 ld)).setCell ⟨g,m*4+2,none⟩ (.int .i64 lx)).setCell ⟨g,m*4+3,none⟩ (.slice A5 n5 c5)):=⟨_,rfl⟩
 rw[<-hW5]at HL5 r0 r1 r2 r3 hb15 hs55;have hgW:g<W5.heap.size:=by rw[hW5];simpa[World.setCell] using hgl
 have hpW:=(hb15.block w.heap.size (by rw[HZ1.out];omega)).trans HP1.out;have hwW:w.heap.size<W5.heap.size:=(ZZa.1 hpW).1;have hb05:=HB1.out.trans (hb15.mono HB1.out.size);have hgw0:w.heap.size<g:=by have:=HG3.out.2;rw[HZ1.out]at this;omega
 have HCS:=hid (show ∀W,Below W5.heap.size W5 W->(W.cell? ⟨g,m*4,none⟩=some (.int .i64 lpg)/\W.cell? ⟨g,m*4+1,none⟩=some (.int .i64 ld)/\W.cell? ⟨g,m*4+2,none⟩=some (.int .i64 lx)/\W.cell? ⟨g,m*4+3,none⟩=some (.slice A5 n5 c5))/\W.cell? ⟨w.heap.size,0,none⟩=some (.slice ka kn kc)/\W.cell? ⟨w.heap.size,1,none⟩=some (.slice va vn vc)from fun W hW=>⟨⟨(hW.cell (p:=⟨g,_,none⟩) hgW).trans r0,(hW.cell (p:=⟨g,_,none⟩) hgW).trans r1,(hW.cell (p:=⟨g,_,none⟩) hgW).trans r2,(hW.cell (p:=⟨g,_,none⟩) hgW).trans r3⟩,(hW.cell (p:=⟨w.heap.size,0,none⟩) hwW).trans (cell_of_row _ _ 0 _ _ (0,0) hpW),(hW.cell (p:=⟨w.heap.size,1,none⟩) hwW).trans (cell_of_row _ _ 1 _ _ (0,0) hpW)⟩)
 have hnog:∀k,k<w.heap.size->¬GX ch mb v' sv k->¬(GX ch mb v' sv k∨k=g):=fun k hk hn e=>by
  rcases e with q|q
  · exact hn q
  · omega
 have hnogA:∀k,k<w.heap.size->¬GX ch mb v' sv k->¬((GX ch mb v' sv k∨k=g)∨k=W5.heap.size):=fun k hk hn e=>by
  rcases e with q|q
  · exact hnog k hk hn q
  · omega
 have hn5':n5<=4294967296:=by
  have h1:=hs5'.now.1;have h2:(lps.eraseIdx i).length<=lps.length:=List.length_eraseIdx_le _ _;have h3:lps.length<=4294967295:=HLN.out;omega
 have bd:Below W5.heap.size W5 W5.drew:=(Below.refl _ _).drew;have bda:Below W5.heap.size W5 (W5.alloc (.cells #[.int .i64 0,.int .i64 0,.int .i64 0,.slice none 0 0] 104 (0,0))).drew:=((Below.refl _ _).alloc (ZZe _) _).drew;have hzA:(W5.alloc (.cells #[.int .i64 0,.int .i64 0,.int .i64 0,.slice none 0 0] 104 (0,0))).drew.heap.size=W5.heap.size+1:=by show(W5.alloc _).heap.size=_;simp
 have HWB:=hid (Zc0 (w:=W5.drew) (G:=fun k=>GX ch mb v' sv k∨k=g) (l:=⟨lpg,ld,lx,lps.eraseIdx i⟩) hc5 (hs55.below bd) (fun k hk=>by
  show k<W5.heap.size;rcases hk with q|q
  · exact ZZd (hGXw k q) hb15.size
  · omega) (HK.out.grow hb05.size (fun k hk _=>hb05.block k hk) hnog) (HV.out.grow hb05.size (fun k hk _=>hb05.block k hk) hnog) hkc hvc hn5')
 have hb05A:=hb05.trans (bda.mono hb05.size)
 have HWA:=hid (Zc0 (w:=(W5.alloc (.cells #[.int .i64 0,.int .i64 0,.int .i64 0,.slice none 0 0] 104 (0,0))).drew) (G:=fun k=>(GX ch mb v' sv k∨k=g)∨k=W5.heap.size) (l:=⟨lpg,ld,lx,lps.eraseIdx i⟩) hc5 (hs55.grow bda.size (fun k hk _=>bda.block k hk) (fun k hk hn hg=>by
  rcases hg with q|q
  · exact hn q
  · omega)) (fun k hk=>by
  rw[hzA];rcases hk with (q|q)|q
  · have:=ZZd (hGXw k q) hb15.size;omega
  · omega
  · omega) (HK.out.grow hb05A.size (fun k hk _=>hb05A.block k hk) hnogA) (HV.out.grow hb05A.size (fun k hk _=>hb05A.block k hk) hnogA) hkc hvc hn5')
 have HB6:=hid (show ∀(w6:World) (A7:Option Addr) (n7 c7:Nat),n7<=c7->n7<=maxLen->Zp w6 (fun k=>GX ch mb v' sv k∨k=g) A7 n7 (lps.eraseIdx i++[x])->Below W5.drew.heap.size W5.drew w6->Hid ((Below W5.heap.size W5 (w6.alloc (.cells #[.int .i64 lpg,.int .i64 ld,.int .i64 lx,.slice A7 n7 c7] 104 (0,0))))/\n7<=c7/\n7<=maxLen/\∃G7,Zp (w6.alloc (.cells #[.int .i64 lpg,.int .i64 ld,.int .i64 lx,.slice A7 n7 c7] 104 (0,0))) G7 A7 n7 (lps.eraseIdx i++[x]))/\((w6.alloc (.cells #[.int .i64 lpg,.int .i64 ld,.int .i64 lx,.slice A7 n7 c7] 104 (0,0))).cell? ⟨w6.heap.size,0,none⟩=some (.int .i64 lpg)/\(w6.alloc (.cells #[.int .i64 lpg,.int .i64 ld,.int .i64 lx,.slice A7 n7 c7] 104 (0,0))).cell? ⟨w6.heap.size,1,none⟩=some (.int .i64 ld)/\(w6.alloc (.cells #[.int .i64 lpg,.int .i64 ld,.int .i64 lx,.slice A7 n7 c7] 104 (0,0))).cell? ⟨w6.heap.size,2,none⟩=some (.int .i64 lx)/\(w6.alloc (.cells #[.int .i64 lpg,.int .i64 ld,.int .i64 lx,.slice A7 n7 c7] 104 (0,0))).cell? ⟨w6.heap.size,3,none⟩=some (.slice A7 n7 c7))from fun w6 A7 n7 c7 h1 h2 h3 h4=>by
  obtain⟨q0,q1,q2,q3,_⟩:=Za (heap_alloc_new w6 (.cells #[.int .i64 lpg,.int .i64 ld,.int .i64 lx,.slice A7 n7 c7] 104 (0,0)));have hb:Below w6.heap.size w6 (w6.alloc (.cells #[.int .i64 lpg,.int .i64 ld,.int .i64 lx,.slice A7 n7 c7] 104 (0,0))):=(Below.refl _ _).alloc (ZZe _) _;have h6:=bd.trans (h4.mono bd.size)
  exact⟨hid ⟨h6.trans (hb.mono h6.size),h1,h2,_,h3.below hb⟩,q0,q1,q2,q3⟩)
 have HA6:=hid (show ∀(w6:World) (A7:Option Addr) (n7 c7:Nat),n7<=c7->n7<=maxLen->Zp w6 (fun k=>(GX ch mb v' sv k∨k=g)∨k=W5.heap.size) A7 n7 (lps.eraseIdx i++[x])->Below (W5.alloc (.cells #[.int .i64 0,.int .i64 0,.int .i64 0,.slice none 0 0] 104 (0,0))).drew.heap.size (W5.alloc (.cells #[.int .i64 0,.int .i64 0,.int .i64 0,.slice none 0 0] 104 (0,0))).drew w6->(w6.heap[W5.heap.size]?=some (.cells #[.int .i64 0,.int .i64 0,.int .i64 0,.slice none 0 0] 104 (0,0)))/\Hid ((Below W5.heap.size W5 ((((w6.setCell ⟨W5.heap.size,0,none⟩ (.int .i64 lpg)).setCell ⟨W5.heap.size,1,none⟩ (.int .i64 ld)).setCell ⟨W5.heap.size,2,none⟩ (.int .i64 lx)).setCell ⟨W5.heap.size,3,none⟩ (.slice A7 n7 c7)))/\n7<=c7/\n7<=maxLen/\∃G7,Zp ((((w6.setCell ⟨W5.heap.size,0,none⟩ (.int .i64 lpg)).setCell ⟨W5.heap.size,1,none⟩ (.int .i64 ld)).setCell ⟨W5.heap.size,2,none⟩ (.int .i64 lx)).setCell ⟨W5.heap.size,3,none⟩ (.slice A7 n7 c7)) G7 A7 n7 (lps.eraseIdx i++[x]))/\(((((w6.setCell ⟨W5.heap.size,0,none⟩ (.int .i64 lpg)).setCell ⟨W5.heap.size,1,none⟩ (.int .i64 ld)).setCell ⟨W5.heap.size,2,none⟩ (.int .i64 lx)).setCell ⟨W5.heap.size,3,none⟩ (.slice A7 n7 c7)).cell? ⟨W5.heap.size,0,none⟩=some (.int .i64 lpg)/\((((w6.setCell ⟨W5.heap.size,0,none⟩ (.int .i64 lpg)).setCell ⟨W5.heap.size,1,none⟩ (.int .i64 ld)).setCell ⟨W5.heap.size,2,none⟩ (.int .i64 lx)).setCell ⟨W5.heap.size,3,none⟩ (.slice A7 n7 c7)).cell? ⟨W5.heap.size,1,none⟩=some (.int .i64 ld)/\((((w6.setCell ⟨W5.heap.size,0,none⟩ (.int .i64 lpg)).setCell ⟨W5.heap.size,1,none⟩ (.int .i64 ld)).setCell ⟨W5.heap.size,2,none⟩ (.int .i64 lx)).setCell ⟨W5.heap.size,3,none⟩ (.slice A7 n7 c7)).cell? ⟨W5.heap.size,2,none⟩=some (.int .i64 lx)/\((((w6.setCell ⟨W5.heap.size,0,none⟩ (.int .i64 lpg)).setCell ⟨W5.heap.size,1,none⟩ (.int .i64 ld)).setCell ⟨W5.heap.size,2,none⟩ (.int .i64 lx)).setCell ⟨W5.heap.size,3,none⟩ (.slice A7 n7 c7)).cell? ⟨W5.heap.size,3,none⟩=some (.slice A7 n7 c7))from fun w6 A7 n7 c7 h1 h2 h3 h4=>by
  have hz:=(h4.block W5.heap.size (by rw[hzA];omega)).trans (heap_alloc_new W5 (.cells #[.int .i64 0,.int .i64 0,.int .i64 0,.slice none 0 0] 104 (0,0)));obtain⟨q0,q1,q2,q3,_⟩:=Za (Zbf hz (.int .i64 lpg) (.int .i64 ld) (.int .i64 lx) (.slice A7 n7 c7))
  exact⟨hz,hid ⟨Zag (bda.trans (h4.mono bda.size)) (ZZe _) _ _ _ _,h1,h2,_,Zbz h3 (.inr rfl) _ _ _ _⟩,q0,q1,q2,q3⟩)
 have HWB2:=hid (HWB.out.mono (show ∀e w6,_->(∃(A7:Option Addr) (n7 c7:Nat),e=.returned (.agg #[.int .i64 lpg,.int .i64 ld,.int .i64 lx,.slice A7 n7 c7])/\Hid ((Below W5.heap.size W5 (w6.alloc (.cells #[.int .i64 lpg,.int .i64 ld,.int .i64 lx,.slice A7 n7 c7] 104 (0,0))))/\n7<=c7/\n7<=maxLen/\∃G7,Zp (w6.alloc (.cells #[.int .i64 lpg,.int .i64 ld,.int .i64 lx,.slice A7 n7 c7] 104 (0,0))) G7 A7 n7 (lps.eraseIdx i++[x]))/\((w6.alloc (.cells #[.int .i64 lpg,.int .i64 ld,.int .i64 lx,.slice A7 n7 c7] 104 (0,0))).cell? ⟨w6.heap.size,0,none⟩=some (.int .i64 lpg)/\(w6.alloc (.cells #[.int .i64 lpg,.int .i64 ld,.int .i64 lx,.slice A7 n7 c7] 104 (0,0))).cell? ⟨w6.heap.size,1,none⟩=some (.int .i64 ld)/\(w6.alloc (.cells #[.int .i64 lpg,.int .i64 ld,.int .i64 lx,.slice A7 n7 c7] 104 (0,0))).cell? ⟨w6.heap.size,2,none⟩=some (.int .i64 lx)/\(w6.alloc (.cells #[.int .i64 lpg,.int .i64 ld,.int .i64 lx,.slice A7 n7 c7] 104 (0,0))).cell? ⟨w6.heap.size,3,none⟩=some (.slice A7 n7 c7))/\((w6.cell? ⟨g,m*4,none⟩=some (.int .i64 lpg)/\w6.cell? ⟨g,m*4+1,none⟩=some (.int .i64 ld)/\w6.cell? ⟨g,m*4+2,none⟩=some (.int .i64 lx)/\w6.cell? ⟨g,m*4+3,none⟩=some (.slice A5 n5 c5))/\w6.cell? ⟨w.heap.size,0,none⟩=some (.slice ka kn kc)/\w6.cell? ⟨w.heap.size,1,none⟩=some (.slice va vn vc))/\(((w6.alloc (.cells #[.int .i64 0,.int .i64 0,.int .i64 0,.slice none 0 0] 104 (0,0))).cell? ⟨g,m*4,none⟩=some (.int .i64 lpg)/\(w6.alloc (.cells #[.int .i64 0,.int .i64 0,.int .i64 0,.slice none 0 0] 104 (0,0))).cell? ⟨g,m*4+1,none⟩=some (.int .i64 ld)/\(w6.alloc (.cells #[.int .i64 0,.int .i64 0,.int .i64 0,.slice none 0 0] 104 (0,0))).cell? ⟨g,m*4+2,none⟩=some (.int .i64 lx)/\(w6.alloc (.cells #[.int .i64 0,.int .i64 0,.int .i64 0,.slice none 0 0] 104 (0,0))).cell? ⟨g,m*4+3,none⟩=some (.slice A5 n5 c5))/\(w6.alloc (.cells #[.int .i64 0,.int .i64 0,.int .i64 0,.slice none 0 0] 104 (0,0))).cell? ⟨w.heap.size,0,none⟩=some (.slice ka kn kc)/\(w6.alloc (.cells #[.int .i64 0,.int .i64 0,.int .i64 0,.slice none 0 0] 104 (0,0))).cell? ⟨w.heap.size,1,none⟩=some (.slice va vn vc))/\(((w6.alloc (.cells #[.int .i64 lpg,.int .i64 ld,.int .i64 lx,.slice A7 n7 c7] 104 (0,0))).cell? ⟨g,m*4,none⟩=some (.int .i64 lpg)/\(w6.alloc (.cells #[.int .i64 lpg,.int .i64 ld,.int .i64 lx,.slice A7 n7 c7] 104 (0,0))).cell? ⟨g,m*4+1,none⟩=some (.int .i64 ld)/\(w6.alloc (.cells #[.int .i64 lpg,.int .i64 ld,.int .i64 lx,.slice A7 n7 c7] 104 (0,0))).cell? ⟨g,m*4+2,none⟩=some (.int .i64 lx)/\(w6.alloc (.cells #[.int .i64 lpg,.int .i64 ld,.int .i64 lx,.slice A7 n7 c7] 104 (0,0))).cell? ⟨g,m*4+3,none⟩=some (.slice A5 n5 c5))/\(w6.alloc (.cells #[.int .i64 lpg,.int .i64 ld,.int .i64 lx,.slice A7 n7 c7] 104 (0,0))).cell? ⟨w.heap.size,0,none⟩=some (.slice ka kn kc)/\(w6.alloc (.cells #[.int .i64 lpg,.int .i64 ld,.int .i64 lx,.slice A7 n7 c7] 104 (0,0))).cell? ⟨w.heap.size,1,none⟩=some (.slice va vn vc)))from fun e w6 z=>by
  obtain⟨u6,rfl,⟨A7,n7,c7,rfl,hc7,hn7,hs7⟩,hb6⟩:=z;obtain⟨h1,h2⟩:=HB6.out w6 A7 n7 c7 hc7 hn7 hs7 hb6;have hb:=bd.trans (hb6.mono bd.size)
  exact⟨A7,n7,c7,rfl,h1,h2,HCS.out w6 hb,HCS.out _ (hb.alloc hb.size _),HCS.out _ (hb.alloc hb.size _)⟩))
 have HWA2:=hid (HWA.out.mono (show ∀e w6,_->(∃(A7:Option Addr) (n7 c7:Nat),e=.returned (.agg #[.int .i64 lpg,.int .i64 ld,.int .i64 lx,.slice A7 n7 c7])/\Hid ((Below W5.heap.size W5 ((((w6.setCell ⟨W5.heap.size,0,none⟩ (.int .i64 lpg)).setCell ⟨W5.heap.size,1,none⟩ (.int .i64 ld)).setCell ⟨W5.heap.size,2,none⟩ (.int .i64 lx)).setCell ⟨W5.heap.size,3,none⟩ (.slice A7 n7 c7)))/\n7<=c7/\n7<=maxLen/\∃G7,Zp ((((w6.setCell ⟨W5.heap.size,0,none⟩ (.int .i64 lpg)).setCell ⟨W5.heap.size,1,none⟩ (.int .i64 ld)).setCell ⟨W5.heap.size,2,none⟩ (.int .i64 lx)).setCell ⟨W5.heap.size,3,none⟩ (.slice A7 n7 c7)) G7 A7 n7 (lps.eraseIdx i++[x]))/\(((((w6.setCell ⟨W5.heap.size,0,none⟩ (.int .i64 lpg)).setCell ⟨W5.heap.size,1,none⟩ (.int .i64 ld)).setCell ⟨W5.heap.size,2,none⟩ (.int .i64 lx)).setCell ⟨W5.heap.size,3,none⟩ (.slice A7 n7 c7)).cell? ⟨W5.heap.size,0,none⟩=some (.int .i64 lpg)/\((((w6.setCell ⟨W5.heap.size,0,none⟩ (.int .i64 lpg)).setCell ⟨W5.heap.size,1,none⟩ (.int .i64 ld)).setCell ⟨W5.heap.size,2,none⟩ (.int .i64 lx)).setCell ⟨W5.heap.size,3,none⟩ (.slice A7 n7 c7)).cell? ⟨W5.heap.size,1,none⟩=some (.int .i64 ld)/\((((w6.setCell ⟨W5.heap.size,0,none⟩ (.int .i64 lpg)).setCell ⟨W5.heap.size,1,none⟩ (.int .i64 ld)).setCell ⟨W5.heap.size,2,none⟩ (.int .i64 lx)).setCell ⟨W5.heap.size,3,none⟩ (.slice A7 n7 c7)).cell? ⟨W5.heap.size,2,none⟩=some (.int .i64 lx)/\((((w6.setCell ⟨W5.heap.size,0,none⟩ (.int .i64 lpg)).setCell ⟨W5.heap.size,1,none⟩ (.int .i64 ld)).setCell ⟨W5.heap.size,2,none⟩ (.int .i64 lx)).setCell ⟨W5.heap.size,3,none⟩ (.slice A7 n7 c7)).cell? ⟨W5.heap.size,3,none⟩=some (.slice A7 n7 c7))/\((w6.cell? ⟨g,m*4,none⟩=some (.int .i64 lpg)/\w6.cell? ⟨g,m*4+1,none⟩=some (.int .i64 ld)/\w6.cell? ⟨g,m*4+2,none⟩=some (.int .i64 lx)/\w6.cell? ⟨g,m*4+3,none⟩=some (.slice A5 n5 c5))/\w6.cell? ⟨w.heap.size,0,none⟩=some (.slice ka kn kc)/\w6.cell? ⟨w.heap.size,1,none⟩=some (.slice va vn vc))/\((((((w6.setCell ⟨W5.heap.size,0,none⟩ (.int .i64 lpg)).setCell ⟨W5.heap.size,1,none⟩ (.int .i64 ld)).setCell ⟨W5.heap.size,2,none⟩ (.int .i64 lx)).setCell ⟨W5.heap.size,3,none⟩ (.slice A7 n7 c7)).cell? ⟨g,m*4,none⟩=some (.int .i64 lpg)/\((((w6.setCell ⟨W5.heap.size,0,none⟩ (.int .i64 lpg)).setCell ⟨W5.heap.size,1,none⟩ (.int .i64 ld)).setCell ⟨W5.heap.size,2,none⟩ (.int .i64 lx)).setCell ⟨W5.heap.size,3,none⟩ (.slice A7 n7 c7)).cell? ⟨g,m*4+1,none⟩=some (.int .i64 ld)/\((((w6.setCell ⟨W5.heap.size,0,none⟩ (.int .i64 lpg)).setCell ⟨W5.heap.size,1,none⟩ (.int .i64 ld)).setCell ⟨W5.heap.size,2,none⟩ (.int .i64 lx)).setCell ⟨W5.heap.size,3,none⟩ (.slice A7 n7 c7)).cell? ⟨g,m*4+2,none⟩=some (.int .i64 lx)/\((((w6.setCell ⟨W5.heap.size,0,none⟩ (.int .i64 lpg)).setCell ⟨W5.heap.size,1,none⟩ (.int .i64 ld)).setCell ⟨W5.heap.size,2,none⟩ (.int .i64 lx)).setCell ⟨W5.heap.size,3,none⟩ (.slice A7 n7 c7)).cell? ⟨g,m*4+3,none⟩=some (.slice A5 n5 c5))/\((((w6.setCell ⟨W5.heap.size,0,none⟩ (.int .i64 lpg)).setCell ⟨W5.heap.size,1,none⟩ (.int .i64 ld)).setCell ⟨W5.heap.size,2,none⟩ (.int .i64 lx)).setCell ⟨W5.heap.size,3,none⟩ (.slice A7 n7 c7)).cell? ⟨w.heap.size,0,none⟩=some (.slice ka kn kc)/\((((w6.setCell ⟨W5.heap.size,0,none⟩ (.int .i64 lpg)).setCell ⟨W5.heap.size,1,none⟩ (.int .i64 ld)).setCell ⟨W5.heap.size,2,none⟩ (.int .i64 lx)).setCell ⟨W5.heap.size,3,none⟩ (.slice A7 n7 c7)).cell? ⟨w.heap.size,1,none⟩=some (.slice va vn vc))/\(w6.cell? ⟨W5.heap.size,0,none⟩=some (.int .i64 0)/\w6.cell? ⟨W5.heap.size,1,none⟩=some (.int .i64 0)/\w6.cell? ⟨W5.heap.size,2,none⟩=some (.int .i64 0)/\w6.cell? ⟨W5.heap.size,3,none⟩=some (.slice none 0 0))/\(w6.frozen? ⟨W5.heap.size,0,none⟩=false/\w6.frozen? ⟨W5.heap.size,1,none⟩=false/\w6.frozen? ⟨W5.heap.size,2,none⟩=false/\w6.frozen? ⟨W5.heap.size,3,none⟩=false))from fun e w6 z=>by
  obtain⟨u6,rfl,⟨A7,n7,c7,rfl,hc7,hn7,hs7⟩,hb6⟩:=z;obtain⟨hz,h1,h2⟩:=HA6.out w6 A7 n7 c7 hc7 hn7 hs7 hb6;have hb:=bda.trans (hb6.mono bda.size);obtain⟨z0,z1,z2,z3,fz,_⟩:=Za hz
  exact⟨A7,n7,c7,rfl,h1,h2,HCS.out w6 hb,HCS.out _ (Zag hb (ZZe _) _ _ _ _),⟨z0,z1,z2,z3⟩,fz 0,fz 1,fz 2,fz 3⟩))
 have HW5:=hid (ZZg hb05 (ZZg hs55 (ZZg hgW hwW)));have c5s:=HCS.out W5 (Below.refl _ _);have c4s:=HCS.out _ bda;rw[hW5]at r0 r1 r2 r3;clear HWB HWA HB6 HA6 hgl hblkg fz hb13 hGXw hs5 hs5' hlc3 hb15 hs55 hgW hpW hwW hb05 hgw0 hnog hnogA hn5' hzA hb05A hb4 r0 r1 r2 r3 c0 c1 c2' c3 p2;go_wp2_with fail;rw[<-hW5];clear hW5 f0 f1 f2 f3 k0 k1 k2 k3'
 go_region_held3 (fun W=>(W.cell? ⟨g,m*4,none⟩=some (.int .i64 lpg)/\W.cell? ⟨g,m*4+1,none⟩=some (.int .i64 ld)/\W.cell? ⟨g,m*4+2,none⟩=some (.int .i64 lx)/\W.cell? ⟨g,m*4+3,none⟩=some (.slice A5 n5 c5))/\W.cell? ⟨w.heap.size,0,none⟩=some (.slice ka kn kc)/\W.cell? ⟨w.heap.size,1,none⟩=some (.slice va vn vc))
  (first|with_reducible exact c5s|exact c5s|with_reducible exact c4s|with_reducible exact c6|with_reducible exact c7s|with_reducible exact c8)
  (first
   | (go_at_call 162;with_reducible refine Calls.mono HWB2.out ?_;rintro e w6 ⟨A7,n7,c7,rfl,HM7,⟨q0,q1,q2,q3⟩,c6,c7s,c8⟩)
   | (go_at_call 162;with_reducible refine Calls.mono HWA2.out ?_;rintro e w6 ⟨A7,n7,c7,rfl,HM7,⟨q0,q1,q2,q3⟩,c6,c8,⟨z0,z1,z2,z3⟩,f0,f1,f2,f3⟩))
 all_goals clear c4s c5s c6 c8 HWB2 HWA2
 all_goals try clear c7s
 all_goals try clear z0 z1 z2 z3 f0 f1 f2 f3
 all_goals first
  | (obtain⟨W7,hW7⟩:∃W7,W7=(w6.alloc (.cells #[.int .i64 lpg,.int .i64 ld,.int .i64 lx,.slice A7 n7 c7] 104 (0,0))):=⟨_,rfl⟩;rw[<-hW7];rw[<-hW7]at HM7 q0 q1 q2 q3;clear hW7)
  | (obtain⟨W7,hW7⟩:∃W7,W7=((((w6.setCell ⟨W5.heap.size,0,none⟩ (.int .i64 lpg)).setCell ⟨W5.heap.size,1,none⟩ (.int .i64 ld)).setCell ⟨W5.heap.size,2,none⟩ (.int .i64 lx)).setCell ⟨W5.heap.size,3,none⟩ (.slice A7 n7 c7)):=⟨_,rfl⟩;rw[<-hW7];rw[<-hW7]at HM7 q0 q1 q2 q3;clear hW7)
 all_goals (
  obtain⟨hb57,h1,h2,G7,hs7⟩:=HM7.out;have HFT:=hid (ZhW (w:=W7) (c:=c7) (l:=⟨lpg,ld,lx,lps.eraseIdx i++[x]⟩) hs7 h2 HSZ.out);have HS7:=hid hs7;have HQ:=hid (ZZg q0 (ZZg q1 (ZZg q2 q3)));have hb9:=World.block_lt_of_cell? _ _ q0;have HB9:=hid hb9;clear hs7 hb57 hb9;go_wp2_with fail;refine HFT.out.mono ?_;rintro e w8⟨rfl,hb8⟩;have hb58:=HM7.out.1.trans (hb8.mono HM7.out.1.size);have hb08:=HW5.out.1.trans (hb58.mono HW5.out.1.size);have HB58:=hid hb58;have HB08:=hid hb08;rcases HDO.out with ⟨hft,hmay,hM,hSL,hk3,hss⟩|⟨hnf,hmay,ss3,hss,hadd⟩
  · rw[show decide (8+szP (⟨lpg,ld,lx,lps.eraseIdx i++[x]⟩:Zw).ps<=240)=true from decide_eq_true hft];have HKP:=hid (ZcI (HG.out.keep hb08) (l:=⟨lpg,ld,lx,lps.eraseIdx i++[x]⟩) ⟨A7,n7,c7,rfl,h1,h2,HS7.out.below hb8⟩ HLI.out.1 HLI.out.2.1 HLI.out.2.2 hmay (by omega));have HEQ:=hid (ZZg hM (ZZg hSL (ZZg hk3 hss)));obtain⟨q0',q1',q2',q3'⟩:=HQ.out;have e0:=(hb8.cell HB9.out).trans q0';have e1:=(hb8.cell HB9.out).trans q1';have e2:=(hb8.cell HB9.out).trans q2';have e3:=(hb8.cell HB9.out).trans q3';clear hft hmay hM hSL hk3 hss q0 q1 q2 q3 q0' q1' q2' q3' hb8 hb58 hb08 HFT;go_wp2_with fail;refine HKP.out.mono ?_;rintro e w9⟨rfl,sv2,f,hg9,hw9⟩
    have HE:=hid (show ∃v2 sv2 fs2,ZF w0 w9 ch st mb M M3 v v2 sv2 (ns+k3) SL3 fs2 (ss++ssF)/\fs2.length<=fs.length+50001 from by
     obtain⟨hM,hSL,hk3,hss⟩:=HEQ.out;rw[hM,hSL,hk3,hss]
     exact⟨v',sv2,fs++[f],hg9,by rw[List.length_append];show fs.length+1<=_;omega⟩)
    clear hg9 hw9 HKP e0 e1 e2 e3;go_wp2_with fail;go_ret;exact⟨rfl,HE.out⟩
  · rw[show decide (8+szP (⟨lpg,ld,lx,lps.eraseIdx i++[x]⟩:Zw).ps<=240)=false from decide_eq_false hnf];have HKP:=hid (ZcI (HG.out.keep hb08) (l:=⟨lpg,ld,lx,lps.eraseIdx i⟩) ⟨A5,n5,c5,rfl,hc5,hn5,HW5.out.2.1.below hb58⟩ HLI.out.1 HLI.out.2.1 HLI.out.2.2 hmay (by omega));obtain⟨⟨e0,e1,e2,e3⟩,_,_⟩:=HCS.out w8 hb58;have HAD:=hid hadd;have HSS:=hid hss;clear hnf hmay hss hadd q0 q1 q2 q3 hb8 hb58 hb08 HFT;go_wp2_with fail;refine HKP.out.mono ?_;rintro e w9⟨rfl,sv6,f,hg9,hw9⟩;have hs08:=HB08.out.size;have hwl:w.heap.size<w8.heap.size:=ZZd HW5.out.2.2.2 HB58.out.size;have hbp:=hw9.touch.block w.heap.size hwl (fun e=>by have:=(HLT.out _ e).2;omega);have p0:=(World.cell?_of_block (a:=⟨w.heap.size,0,none⟩) hbp).trans (HCS.out w8 HB58.out).2.1;have p1:=(World.cell?_of_block (a:=⟨w.heap.size,1,none⟩) hbp).trans (HCS.out w8 HB58.out).2.2;have hs89:=hw9.touch.size
    have hl9:=(HL5.out.below HB58.out).keep (G':=GX ch mb v' sv6) hs89 (fun k hk hn=>hw9.touch.block k hk hn) (fun k hk hn e=>by
     rcases hw9.own k e with q|q
     · exact hn q
     · omega)
    have hkp:∀k,k<w.heap.size->¬GX ch mb v' sv k->w9.heap[k]?=w.heap[k]?:=fun k hk hn=>(hw9.touch.block k (ZZd hk hs08) hn).trans (HB08.out.block k hk)
    have hno9:∀k,k<w.heap.size->¬GX ch mb v' sv k->¬GX ch mb v' sv6 k:=fun k hk hn e=>by
     rcases hw9.own k e with q|q
     · exact hn q
     · omega
    have HADD:=hid (Zri (c:=c2) api HS.out hg9 (G:=GX ch mb v' sv6) (fun _ h=>h) (fun k hk=>(hg9.lt k hk).2) (fun _ h=>h) hl9 (HK.out.grow (ZZf hs08 hs89) hkp hno9) (HV.out.grow (ZZf hs08 hs89) hkp hno9) hkc hvc HAD.out (by rw[List.length_set];exact HCF.out) hN (by rw[List.length_append];show fs.length+1<=_;omega) hns);clear hg9 hw9 HKP e0 e1 e2 e3 hs08 hwl hbp hs89 hl9 hkp hno9;go_wp2_with fail;refine HADD.out.mono ?_;rintro e wZ⟨rfl,v2,sv2,fs2,z1,z2,_⟩
    have HE:=hid (show ∃v2 sv2 fs2,ZF w0 wZ ch st mb M M3 v v2 sv2 (ns+k3) SL3 fs2 (ss++ssF)/\fs2.length<=fs.length+50001 from by
     rw[HSS.out,<-List.append_assoc]
     exact⟨v2,sv2,fs2,z1,by rw[List.length_append]at z2;have:([f]:List Value).length=1:=rfl;omega⟩)
    clear z1 z2 HADD p0 p1;go_wp2_with fail;go_ret
    exact⟨rfl,HE.out⟩)
end
section
variable{D:World->(Nat->Prop)->Addr->DS->Prop}{w0 w w':World}{F O:Nat->Prop}{p:Addr}{S:DS}{q r b st ch mb:Nat}{seq:Int}{L:List (Int×List Int)}{M M':MV}{v v' sv:Value}{ns:Nat}{SL:Int->Option Int}{fs:List Value}{ss:List Stp}
theorem Zon{M2:MV}{v2 sv2:Value}{n2:Nat}{SL2:Int->Option Int}{fs2:List Value}{ss2:List Stp}{wK:World}(hg:ZF w0 wK ch st mb M M2 v v2 sv2 n2 SL2 fs2 ss2){lo B2:Nat}(hav:ZeC w0.heap.size wK (fun k=>lo<=k/\k<B2) ch fs2 ss2){g:Nat}(hgl:lo<=g/\g<B2)(hn:¬GX ch mb v2 sv2 g)(h0:w0.heap.size<=g)(x0 x1 x2 x3:Value) :
 ZF w0 ((((wK.setCell ⟨g,0,none⟩ x0).setCell ⟨g,1,none⟩ x1).setCell ⟨g,2,none⟩ x2).setCell ⟨g,3,none⟩ x3) ch st mb M M2 v v2 sv2 n2 SL2 fs2 ss2:=by
 have g1:=hg.poke hav (a:=⟨g,0,none⟩) hgl hn h0 x0;have a1:=hav.poke (a:=⟨g,0,none⟩) hgl x0;have g2:=g1.poke a1 (a:=⟨g,1,none⟩) hgl hn h0 x1;have a2:=a1.poke (a:=⟨g,1,none⟩) hgl x1;have g3:=g2.poke a2 (a:=⟨g,2,none⟩) hgl hn h0 x2;have a3:=a2.poke (a:=⟨g,2,none⟩) hgl x2;exact g3.poke a3 (a:=⟨g,3,none⟩) hgl hn h0 x3
theorem ZkP(api:Zb D)(hS:SAt D w0 F O p S q seq r b st L)(h:ZF w0 w ch st mb M M' v v' sv ns SL fs ss){ka:Option Addr}{kn kc:Nat}{key:List Int}(hk:BIn w (GX ch mb v' sv) ka kn key)(hkc:kn<=kc/\kn<=maxLen)
 {pg:Int} {ls:List Zw} (hc:Za0 S L M' key pg ls) (hcnt : -9223372036854775808<M'.c/\M'.c<=9223372036854775807)
 {m i:Nat} {l:Zw} (hfd:Zcv ls key m i l) (hemp:l.ps.eraseIdx i = []) {m1:Nat} (hm1:m=m1+1) {lb:Zw} (hlb:ls[m1]?=some lb) (hib:Zdn lb) (hf:Zb1 M'.f) (hln:l.ps.length<=4294967295)
 (hlpg : -9223372036854775808<=l.pg/\l.pg<=9223372036854775807) (hd : -9223372036854775808<=l.d/\l.d<=9223372036854775807) (hx : -9223372036854775808<=l.x/\l.x<=9223372036854775807) (hmay:ZD ⟨lb.d,l.x,lb.ps⟩=true) (hmm:fs.length+2<=4000000) :
 Calls prog 103 #[.pointer (some ⟨ch,0,none⟩),.slice ka kn kc] w fun e w'=>e=.returned (.tuple #[.bool true,.int .i64 0])/\∃sv2 fs2,ZF w0 w' ch st mb M {M' with c:=M'.c-1,f:=l.pg} v v' sv2 ns SL fs2 (ss++[.fr l.pg M'.f,.lay lb.pg (pageBk ⟨lb.d,l.x,lb.ps⟩)])/\fs2.length=fs.length+2:=by
 obtain⟨A',c',hv'e,hc',hri⟩:=h.ri;have hfew:=h.few;have hb1:Below w.heap.size w w.drew:=(Below.refl _ _).drew;have hg1:=h.keep hb1;obtain⟨_,_,_,_,_,y6,y7,y8,y9,y10,_⟩:=hg1.at_.cells2;have y0:=hg1.at_.cells.1;rw[hv'e]at y10;have hk1:=hk.below hb1;have HZ2:=hid (show ∀W,Below w.drew.heap.size w.drew W->W.cell? ⟨ch,0,none⟩=some (.pointer (some ⟨st,0,none⟩))/\W.cell? ⟨ch,6,none⟩=some (.int .i64 M'.d)/\W.cell? ⟨ch,7,none⟩=some (.int .i64 M'.f)/\W.cell? ⟨ch,8,none⟩=some (.int .i64 M'.n)/\W.cell? ⟨ch,9,none⟩=some (.int .i64 M'.c)/\W.cell? ⟨ch,10,none⟩=some (.slice A' M'.l.length c')from fun W hb2=>⟨(hb2.cell (p:=⟨ch,0,none⟩) (World.block_lt_of_cell? _ _ y0)).trans y0,(hb2.cell (p:=⟨ch,6,none⟩) (World.block_lt_of_cell? _ _ y6)).trans y6,(hb2.cell (p:=⟨ch,7,none⟩) (World.block_lt_of_cell? _ _ y7)).trans y7,(hb2.cell (p:=⟨ch,8,none⟩) (World.block_lt_of_cell? _ _ y8)).trans y8,(hb2.cell (p:=⟨ch,9,none⟩) (World.block_lt_of_cell? _ _ y9)).trans y9,(hb2.cell (p:=⟨ch,10,none⟩) (World.block_lt_of_cell? _ _ y10)).trans y10⟩);have HCH:=hid (ZaX api ((hS.below api h.bel).below api hb1) M'.d M'.f M'.n M'.c (A0:=A') (cap:=c') (Kc:=kc) pg (hri.below hb1) hb1.size hc' (by unfold maxLen;omega) hk1.1 (ZZe _) hkc.2 hc.dir hc.ok hc.few hc.all);have HG:=hid h;have HB1:=hid hb1;have HK:=hid hk;have HLT:=hid h.lt;have HFD:=hid hfd;have hlen:ls.length<=4294967296:=by have:=hc.few;have:=hc.all;omega
 have hmls:m<ls.length:=(ZZb.1 hfd.leaf).1;have wrc:IntKind.i64.wrap (M'.c-1)=M'.c-1:=by rw[IntKind.wrap_i64];first|(unfold wrap64;omega)|omega
 have hi0:i<l.ps.length:=hfd.lt;clear h hk hg1 hk1 hc hri hS hfd;go_enter func103,ntmps103;go_wp2_with fail
 go_region_held3 (fun W=>W.cell? ⟨ch,0,none⟩=some (.pointer (some ⟨st,0,none⟩))/\W.cell? ⟨ch,6,none⟩=some (.int .i64 M'.d)/\W.cell? ⟨ch,7,none⟩=some (.int .i64 M'.f)/\W.cell? ⟨ch,8,none⟩=some (.int .i64 M'.n)/\W.cell? ⟨ch,9,none⟩=some (.int .i64 M'.c)/\W.cell? ⟨ch,10,none⟩=some (.slice A' M'.l.length c'))
  (first|with_reducible exact z2|exact⟨y0,y6,y7,y8,y9,y10⟩)
  (first
   | (go_at_call 101;refine HCH.out.mono ?_;rintro e w2 ⟨A2,c2,rfl,hch2,hb2⟩;have z2:=HZ2.out w2 hb2))
 have hk2:=((HK.out.below HB1.out).below hb2)
 have HFI:=hid (ZaW (Kc:=kc) hch2 hk2.1 (ZZe _) hlen);have HCH2:=hid hch2;have HB2:=hid hb2;clear HCH hch2 hb2 hk2 y0 y6 y7 y8 y9 y10 HZ2 z2;go_wp2_with fail;refine HFI.out.mono ?_;rintro e w3⟨a,z,rfl,hfr,hb3⟩;obtain⟨rfl,rfl⟩:=HFD.out.same hfr;have hb13:=HB2.out.trans (hb3.mono HB2.out.size);have hb03:=HB1.out.trans (hb13.mono HB1.out.size);have hg3:=HG.out.keep hb03;obtain⟨_,_,_,_,_,_,_,_,x9,_,_⟩:=hg3.at_.cells2;have hat3:=hg3.at_;unfold ZcT at hat3;have f9:w3.frozen? ⟨ch,9,none⟩=false:=by simp[World.frozen?,hat3]
 have hchl:ch<w.heap.size:=(HLT.out ch (.inl rfl)).2;have hcl:ch<w.drew.heap.size:=ZZd hchl HB1.out.size;obtain⟨w4,hw4⟩:∃w4,w4=w3.setCell ⟨ch,9,none⟩ (.int .i64 (M'.c-1)):=⟨_,rfl⟩
 have hg4:ZF w0 w4 ch st mb M {M' with c:=M'.c-1} v v' sv ns SL fs ss:=by rw[hw4];exact hg3.setCount _
 have hch4:ZL w.drew w4 (.slice A2 ls.length c2) ls:=by rw[hw4];exact(HCH2.out.below hb3).poke hcl _
 obtain⟨g,A5,n5,c5,rfl,hgl,hwg,s0,s1,s2,s3,hn5,hm5,hst5,_⟩:=hch4.leaf HFD.out.leaf (Below.refl _ _);obtain⟨g2,A8,n8,c8,eg,_,_,u0,u1,u2,u3,hn8,hm8,hst8,_⟩:=hch4.leaf hlb (Below.refl _ _);obtain rfl:g=g2:=by injection eg with eg;injection eg
 obtain⟨lpg,ld,lx,ps⟩:=l;obtain⟨bpg,bd,bx,bps⟩:=lb;simp only at s0 s1 s2 hst5 hi0 hln hlpg hd hx hmay hemp u0 u1 u2 hst8;obtain⟨ib1,ib2,ib3⟩:=hib;have hn5e:ps.length=n5:=hst5.now.1
 have hGin:∀k,(k<w.drew.heap.size∨k=g)->k<w4.heap.size:=fun k hk=>by
  rcases hk with e|e
  · exact ZZd e (ZZf hb13.size (by rw[hw4];simp[World.setCell]))
  · rw[e];exact hgl
 have HWO:=hid (Zed (l:=⟨lpg,ld,lx,ps⟩) (i:=i) hn5 hst5 hGin (by omega) (by omega));have HG4:=hid hg4;have HST8:=hid hst8;have HGL:=hid hgl;have hq0:(0:Int)<=(m1:Int):=by omega
 have hq1:(m1:Int)<(ls.length:Int):=by omega
 have hqw:IntKind.i64.wrap ((m:Int)-1)=(m1:Int):=by rw[IntKind.wrap_i64];first|(unfold wrap64;omega)|omega
 have hmp:(m:Int)>0:=by omega
 have HM1:=hid hm1;clear hm1;have hm':(m:Int)<(ls.length:Int):=by omega
 have s0':=s0;have s1':=s1;have s2':=s2;have s3':=s3;rw[hw4]at s0' s1' s2' s3';have hb04:w.heap.size<=w4.heap.size:=by rw[hw4];simpa[World.setCell] using hb03.size
 clear hfr hb3 hb13 hb03 hg3 hat3 HFI hg4 hch4 hst5 hst8 hGin HB2 HCH2 hcl eg;go_wp2_with fail;rw[<-hw4];clear hw4 s0' s1' s2' s3' x9 f9;refine HWO.out.mono ?_;rintro e w5⟨lv,rfl,⟨A6,n6,c6,rfl,hc6,hn6,hst6⟩,hb5⟩;simp only at hst6;have hn6e:(ps.eraseIdx i).length=n6:=hst6.now.1;obtain⟨w6,hw6⟩:∃w6,w6=w5.alloc (.cells #[.int .i64 lpg,.int .i64 ld,.int .i64 lx,.slice A6 n6 c6] 104):=⟨_,rfl⟩
 have hba:Below w5.heap.size w5 w6:=by rw[hw6];exact(Below.refl _ _).alloc (ZZe _) _
 have hbx:w6.heap[w5.heap.size]?=some (.cells #[.int .i64 lpg,.int .i64 ld,.int .i64 lx,.slice A6 n6 c6] 104 (0,0)):=by rw[hw6];exact heap_alloc_new _ _
 obtain⟨t0,t1,t2,t3,_,_⟩:=Za hbx;have hb46:Below w4.heap.size w4 w6:=hb5.trans (hba.mono hb5.size);obtain rfl:n6=0:=by rw[<-hn6e,hemp];rfl
 have v0:=(hb46.cell (p:=⟨g,m1*4,none⟩) HGL.out).trans u0;have v1:=(hb46.cell (p:=⟨g,m1*4+1,none⟩) HGL.out).trans u1;have v2:=(hb46.cell (p:=⟨g,m1*4+2,none⟩) HGL.out).trans u2;have v3:=(hb46.cell (p:=⟨g,m1*4+3,none⟩) HGL.out).trans u3;obtain⟨w8,hw8⟩:∃w8,w8=w6.alloc (.cells #[.int .i64 bpg,.int .i64 bd,.int .i64 lx,.slice A8 n8 c8] 104 (0,0)):=⟨_,rfl⟩
 have hb8:Below w6.heap.size w6 w8:=by rw[hw8];exact(Below.refl _ _).alloc (ZZe _) _
 have hbx8:w8.heap[w6.heap.size]?=some (.cells #[.int .i64 bpg,.int .i64 bd,.int .i64 lx,.slice A8 n8 c8] 104 (0,0)):=by rw[hw8];exact heap_alloc_new _ _
 have hbt8:=(hb8.block w5.heap.size (ZZa.1 hbx).1).trans hbx;have hb48:Below w4.heap.size w4 w8:=hb46.trans (hb8.mono hb46.size);have hz6:w6.heap.size=w5.heap.size+1:=by rw[hw6];simp
 have HFR:=hid (Zrf (HG4.out.keep hb48) lpg hlpg hf (by omega));have HAV:=hid (HG4.out.avoid hb48);have HB8:=hid (ZZg hbx8 (ZZg hbt8 (ZZg hb48 (ZZg hz6 hb5.size))));have HB04:=hid hb04;obtain⟨b0,b1,b2,b3,_,_⟩:=Za hbt8;rw[hw8]at b0 b1 b2 b3;clear hba hbx hb46 hst6 hb5 HG4 HWO s0 s1 s2 s3 hbx8 hbt8 hb48 hb8 u0 u1 u2 u3 hz6 hn6e hb04;have t3':=t3;have t0':=t0;have t1':=t1;have t2':=t2;rw[hw6]at t3' t0' t1' t2';have v0':=v0;have v1':=v1;have v2':=v2;have v3':=v3;rw[hw6]at v0' v1' v2' v3';go_wp2_with fail;rw[<-hw6];clear hw6 t3' t0' t1' t2' v0' v1' v2' v3';go_wp2_with fail;rw[<-hw8];clear hw8 b0 b1 b2 b3 t0 t1 t2 t3 v0 v1 v2 v3;refine HFR.out.mono ?_;rintro e w9⟨rfl,sv9,f9,hg9,hw9⟩;have hz6:=HB8.out.2.2.2.1;have h45:=HB8.out.2.2.2.2;have hs48:=HB8.out.2.2.1.size;have hl8:=(ZZa.1 HB8.out.1).1
 have hng:∀k,w4.heap.size<=k->¬GX ch mb (.slice A' M'.l.length c') sv k:=fun k hk e=>by
  have:=(HLT.out k (by first|exact e|(rw[hv'e];exact e))).2
  have:=HB04.out
  omega
 have hby9:=(hw9.touch.block w6.heap.size hl8 (by first|exact hng _ (by omega)|(rw[hv'e];exact hng _ (by omega)))).trans HB8.out.1;have hbt9:=(hw9.touch.block w5.heap.size (by omega) (by first|exact hng _ (by omega)|(rw[hv'e];exact hng _ (by omega)))).trans HB8.out.2.1
 have hng9:¬GX ch mb v' sv9 w5.heap.size:=fun e=>by
  rcases hw9.own _ e with q|q
  · exact hng _ h45 (by first|exact q|(rw[hv'e]at q;exact q))
  · omega
 have hav9:=hw9.steps (fun k=>w4.heap.size<=k/\k<w8.heap.size) (fun k hk=>hk.2) HAV.out;have hg10:=Zon hg9 hav9 (g:=w5.heap.size) ⟨h45,by omega⟩ hng9 (ZZf HG.out.bel.size (ZZf HB04.out h45)) (.int .i64 bpg) (.int .i64 bd) (.int .i64 lx) (.slice A8 n8 c8);obtain⟨w10,hw10⟩:∃w10,w10=((((w9.setCell ⟨w5.heap.size,0,none⟩ (.int .i64 bpg)).setCell ⟨w5.heap.size,1,none⟩ (.int .i64 bd)).setCell ⟨w5.heap.size,2,none⟩ (.int .i64 lx)).setCell ⟨w5.heap.size,3,none⟩ (.slice A8 n8 c8)):=⟨_,rfl⟩
 have hbx10:=Zbf hbt9 (.int .i64 bpg) (.int .i64 bd) (.int .i64 lx) (.slice A8 n8 c8)
 have hst10:=HST8.out.later (w':=w10) (by rw[hw10];have:=hw9.touch.size;simp[World.setCell];omega) (fun k hk hn=>by
  rw[hw10]
  exact(Z0 _ (fun e=>by omega) _ _ _ _).trans ((hw9.touch.block k (ZZd hk hs48) (fun e=>hn (.inl (by
   have q:=(HLT.out k e).2
   exact ZZd q HB1.out.size)))).trans (HB8.out.2.2.1.block k hk)))
 rw[<-hw10]at hg10 hbx10;have HKP:=hid (ZcI hg10 (l:=⟨bpg,bd,lx,bps⟩) ⟨A8,n8,c8,rfl,hn8,hm8,hst10⟩ ib1 ib2 hx hmay (by rw[List.length_append];show fs.length+1+1<=_;omega));rw[hz6]at hby9;obtain⟨y0,y1,y2,y3,_,_⟩:=Za hby9;obtain⟨z0,z1,z2,z3,fz,_⟩:=Za hbt9;have g0:=fz 0;have g1:=fz 1;have g2:=fz 2;have g3:=fz 3;obtain⟨x0,x1,x2,x3,_,_⟩:=Za hbx10;rw[hw10]at x0 x1 x2 x3;clear hz6 h45 hs48 hl8 hng hby9 hbt9 hng9 hav9 hg10 hbx10 hst10 fz hg9 hw9 HFR;go_wp2_with fail;rw[<-hw10];clear hw10 x0 x1 x2 x3 y0 y1 y2 y3 z0 z1 z2 z3 g0 g1 g2 g3;refine HKP.out.mono ?_;rintro e w11⟨rfl,sv11,f11,hg11,_⟩;have HE:=hid (show ∃sv2 fs2,ZF w0 w11 ch st mb M {M' with c:=M'.c-1,f:=lpg} v v' sv2 ns SL fs2 (ss++[.fr lpg M'.f,.lay bpg (pageBk ⟨bd,lx,bps⟩)])/\fs2.length=fs.length+2 from⟨sv11,fs++[f9]++[f11],by simpa[Zw.bv] using hg11,by simp⟩);clear hg11 HKP;go_wp2_with fail;go_ret2;exact⟨rfl,by have q:=HE.out;first|exact q|(rw[hv'e]at q;exact q)⟩
end
section
variable{D:World->(Nat->Prop)->Addr->DS->Prop}{w w':World}{F O:Nat->Prop}{p:Addr}{S:DS}{q r b st:Nat}{seq:Int}{L:List (Int×List Int)}
structure Top(D:World->(Nat->Prop)->Addr->DS->Prop)(w:World)(F O:Nat->Prop)(p:Addr)(S:DS)(q:Nat)(seq:Int)(r b st:Nat)(L:List (Int×List Int)):Prop where
 at_:SAt D w F O p S q seq r b st L
 len:Ziz S
 out:¬O 1
theorem Top.below(api:Zb D)(h:Top D w F O p S q seq r b st L)(hb:Below w.heap.size w w'):Top D w' F O p S q seq r b st L:=⟨h.at_.below api hb,h.len,h.out⟩
def Zad(D:World->(Nat->Prop)->Addr->DS->Prop)(w:World)(F O:Nat->Prop)(p:Addr)(S:DS)(q:Nat)(seq:Int)(r b st:Nat)(L':List (Int×List Int))(w':World):Prop:=
 ∃O',Top D w' F O' p S q seq r b st L'/\Zf O w w'/\∀k,O' k->O k∨w.heap.size<=k
theorem Top.did(h:Top D w F O p S q seq r b st L){L':List (Int×List Int)}(hd:Did D w F O p S q seq r b L' w'):Zad D w F O p S q seq r b st L' w':=by
 obtain⟨O',h1,h2,h3⟩:=hd;refine⟨O',⟨⟨h1,Did.tab h.out h.at_.tab h2,h.len.get h1.all,(h2.block st h.at_.lt h.at_.out).trans h.at_.sto,fun e=>?_⟩,h.len,fun e=>?_⟩,h2,h3⟩
 · rcases h3 st e with a|a
   · exact h.at_.out a
   · have:=h.at_.lt
     omega
 · rcases h3 _ e with a|a
   · exact h.out a
   · have:=h.at_.tab.lt
     omega
def Zfe(M:MV):Prop:=(-9223372036854775808<=M.d/\M.d<=9223372036854775807)/\(-9223372036854775808<=M.f/\M.f<=9223372036854775807)/\(-9223372036854775808<=M.n/\M.n<=9223372036854775807)/\(-9223372036854775808<=M.c/\M.c<=9223372036854775807)
theorem Zoo(api:Zb D)(h:Top D w F O p S q seq r b st L){M:MV}(hM:ZbM S L M){ka va:Option Addr}{kn kc vn vc B B':Nat}{x:KV}(hk:RB w B ka kn x.1)(hB:B<=w.heap.size)(hv:RB w B' va vn x.2)(hB':B'<=w.heap.size)(hkc:kn<=kc/\kn<=maxLen)(hvc:vn<=vc/\vn<=maxLen)(hk1:1<=kn/\kn<=32)(hv1:vn<=120)
 {pg:Int} {ls:List Zw} (hc:Za0 S L M x.1 pg ls) (hno:∀(m:Nat) (l:Zw),ls[m]?=some l->findI l.ps x.1<0) (hcnt : -9223372036854775808<=M.c/\M.c<9223372036854775807)
 {m:Nat} {l:Zw} (hml:ls[m]?=some l) (hfit:8+szP (l.ps++[x])<=240) (hnot:∀(j:Nat) (y:Zw),j<m->ls[j]?=some y->¬8+szP (y.ps++[x])<=240) (hsz:∀(j:Nat) (y:Zw),ls[j]?=some y->szP (y.ps++[x])<=4611686018427387904/\y.ps.length<=4294967295)
 (hlpg : -9223372036854775808<=l.pg/\l.pg<=9223372036854775807) (hd : -9223372036854775808<=l.d/\l.d<=9223372036854775807) (hx : -9223372036854775808<=l.x/\l.x<=9223372036854775807) (hmay:ZD ⟨l.d,l.x,l.ps++[x]⟩=true)
 (hN:Zfe {M with c:=M.c+1}) (hmayM:Zft {M with c:=M.c+1}=true) (hok:okS S {M with c:=M.c+1} L (ZcA M {M with c:=M.c+1} [.lay l.pg (pageBk ⟨l.d,l.x,l.ps++[x]⟩)])) :
 Calls prog 40 #[.pointer (some ⟨st,0,none⟩),.slice ka kn kc,.slice va vn vc] w fun e w'=>e=.returned (.int .i64 0)/\Zad D w F O p S q seq r b st (runS S {M with c:=M.c+1} L (ZcA M {M with c:=M.c+1} [.lay l.pg (pageBk ⟨l.d,l.x,l.ps++[x]⟩)])) w':=by
 have HMD:=hid (Zc2 h.at_.sto);have HHD:=hid (Zb0 api h.at_ hM);have HT:=hid h;have HK:=hid (hk.more hB);have HV:=hid (hv.more hB')
 have HPUT:=hid (show ∀(w2 w3:World) (ch mb:Nat) (v v' sv:Value),Below w.heap.size w w2->ZF w2 w3 ch st mb M M v v' sv 0 (fun _=>none) [] []->Calls prog 100 #[.pointer (some ⟨ch,0,none⟩),.agg #[.slice ka kn kc,.slice va vn vc]] w3 fun e w'=>e=.returned (.int .i64 0)/\∃sv2 f,ZF w2 w' ch st mb M {M with c:=M.c+1} v v' sv2 0 (fun _=>none) [f] [.lay l.pg (pageBk ⟨l.d,l.x,l.ps++[x]⟩)]from
  fun w2 w3 ch mb v v' sv hb hg=>ZqJ api (h.at_.below api hb) hg (BIn.of_below (hk.more hB) (hb.trans (hg.bel.mono hb.size)) (fun k hk=>ZZf hb.size (hg.lt k hk).1)) (BIn.of_below (hv.more hB') (hb.trans (hg.bel.mono hb.size)) (fun k hk=>ZZf hb.size (hg.lt k hk).1)) hkc hvc hc hno hcnt hml hfit hnot hsz hlpg hd hx hmay (by decide))
 have HFIN:=hid (show ∀(w2 w3:World) (ch mb:Nat) (v v' sv:Value) (f:Value),Below w.heap.size w w2->ZF w2 w3 ch st mb M {M with c:=M.c+1} v v' sv 0 (fun _=>none) [f] [.lay l.pg (pageBk ⟨l.d,l.x,l.ps++[x]⟩)]->Calls prog 98 #[.pointer (some ⟨ch,0,none⟩)] w3 fun e w'=>e=.returned (.int .i64 0)/\Zad D w F O p S q seq r b st (runS S {M with c:=M.c+1} L (ZcA M {M with c:=M.c+1} [.lay l.pg (pageBk ⟨l.d,l.x,l.ps++[x]⟩)])) w' from
  fun w2 w3 ch mb v v' sv f hb hg=>(ZeE api (h.at_.below api hb) hg h.len (fun k hk=>ZZd (h.at_.pg.lt k hk) hb.size) h.out hN hmayM (by simp) hok).mono fun e w' z=>⟨z.1,h.did (z.2.base hb)⟩)
 clear h hM hk hv hc hno hml hfit hnot hsz hlpg hd hx hmay hN hmayM hok hcnt;have k1:decide ((kn:Int)<1)=false:=by simp;omega
 have k2:decide ((kn:Int)>32)=false:=by simp;omega
 have k3:decide ((vn:Int)>120)=false:=by simp;omega
 go_enter func40,ntmps40;go_wp2_with fail;refine HMD.out.mono ?_;rintro e w1⟨rfl,rfl⟩;go_wp2_with fail;refine HHD.out.mono ?_;rintro e w1⟨A,k,c,rfl,hkc1,hk1000,hri,_,hb1⟩;obtain⟨w2,hw2⟩:∃w2,w2=w1.alloc (.cells #[.int .i64 M.d,.int .i64 M.f,.int .i64 M.n,.int .i64 M.c,.slice A k c] 41):=⟨_,rfl⟩
 have hba:Below w1.heap.size w1 w2:=by rw[hw2];exact(Below.refl _ _).alloc (ZZe _) _
 have hb2:Below w.heap.size w w2:=hb1.trans (hba.mono hb1.size);have HCO:=hid (Za5 (w:=w2) (st:=st) (c:=c) M ((hri.below hba).more hba.size) hkc1 hk1000);have HB2:=hid hb2;clear hri hb1 hba hb2 HHD;go_wp2_with fail;rw[<-hw2];clear hw2;refine HCO.out.mono ?_;rintro e w3⟨v',rfl,hg3⟩;have HP:=hid (HPUT.out w2 w3 _ _ _ _ _ HB2.out hg3);generalize w2.heap.size+2=ch at HP ⊢;clear hg3 HCO;go_wp2_with fail;refine HP.out.mono ?_;rintro e w4⟨rfl,sv2,f,hg4⟩;have HF:=hid (HFIN.out w2 w4 _ _ _ _ _ f HB2.out hg4);clear hg4 HP;go_wp2_with fail;refine HF.out.mono ?_;rintro e w5⟨rfl,ht⟩;have HE:=hid ht;clear ht HF;go_wp2_with fail;go_ret;exact⟨rfl,HE.out⟩
end
end Go.Proofs.YtlmkdmdbpopnhaaGreatDoor
