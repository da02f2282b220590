/- ExuL, ExuM, ExuN, KvM, ExwQ, TabV. Conditions: in each theorem. -/
import Derived.Test.YtlmkdmdbpopnhaaGreatDoorG43
import Derived.Test.YtlmkdmdbpopnhaaGreatDoorG44
import Derived.Test.YtlmkdmdbpopnhaaGreatDoorG39
import Derived.Test.YtlmkdmdbpopnhaaGreatDoorG41
import Derived.Test.YtlmkdmdbpopnhaaGreatDoorG42
import Derived.Test.YtlmkdmdbpopnhaaGreatDoorG40
import Derived.Test.YtlmkdmdbpopnhaaGreatDoorG1
import Derived.Test.YtlmkdmdbpopnhaaGreatDoorG7
import Derived.Test.YtlmkdmdbpopnhaaGreatDoorG5
import Derived.Test.YtlmkdmdbpopnhaaGreatDoorG15
import Derived.Test.YtlmkdmdbpopnhaaGreatDoorG17
import Derived.Lib.SlBytesConst
import Derived.Maps.OwnSet
import Derived.Maps.OwnOps
import Derived.Maps.RangeWalk
import Derived.StringKeys
import Derived.Sort.KeysCollected
import Derived.StillTailTactics
import Derived.Deep.RegionWith
import Derived.Deep.RegionHeld3
import Derived.Deep.RegionLaw
import Derived.Deep.QuietTactic
import Derived.BigRegion
import Derived.BigQuiet
import Derived.Maps.AppendAt
import Derived.Deep.AppendLies
import Derived.Lib.ConvBytes
import Derived.Lib.AppendZeros
import Derived.Lib.BytesEntry
import Derived.Laws.Externs
import Derived.Lib.Walk
import Derived.Lib.Strings
import Derived.Lib.Slices
import Derived.Laws.Strings3
set_option maxHeartbeats 4000000
set_option maxRecDepth 100000
set_option linter.unusedVariables false
open Go.Proofs.Tryz
open Go.Lib (hid)
namespace Go.Proofs.YtlmkdmdbpopnhaaGreatDoor
open Go.RowKit
theorem ZjG:¬Zkw Zdg:=by decide +kernel
theorem ZjH{n p:Int}(hp:0<=p):Zd4 n Zco p=ZH:=by
 have hn:=(ZN n).1
 have e:Zco (p+1+pagesOf n).toNat=Zdg:=by
  unfold Zco ZfG;rw[if_neg (by omega)]
 unfold Zd4;rw[e]
 have:(Zd Zdg).2.2.2=4:=by unfold Zd;rw[if_neg ZjG]
 rw[if_pos (.inl (by rw[this];decide))]
def S12(n:Nat):DS:=(ZaF (ZV (DS.new n) 0 1).2).2.2
theorem ZjI{n:Nat}(hn:3<=n/\n<=65536):(S12 n).n=n/\ZdC (S12 n) Zco:=by
 obtain⟨r1,r2,r3,r4,r5,r6,r7⟩:=Zf4 (m:=n) hn;exact⟨r5,r7⟩
theorem ZoE{n:Nat}(hn:3<=n/\n<=65536):Ziz (S12 n):=fun i hi=>by
 obtain⟨h1,h2⟩:=ZjI hn;by_cases hr:i<0∨i≥(S12 n).P
 · exfalso
   unfold Za9 at hi;rw[if_pos hr]at hi;exact absurd hi (by decide)
 · rw[Ze5 (n:=(S12 n).n) rfl h2 ⟨by omega,by have e:(S12 n).P=pagesOf (S12 n).n:=rfl;omega⟩,ZjH (by omega)];decide
section
variable{D:World->(Nat->Prop)->Addr->DS->Prop}
theorem ZgD(api:Zb D)(w:World)(ht:Tab w/\1<w.heap.size){P:Nat}(hP:1<=P/\P<=3000) :
 Calls prog 9 #[.int .i64 (P:Int)] w fun e w'=>∃r b q F p,e=.returned (.pointer (some ⟨r,0,none⟩))/\ZaN D w' F (pgO F q r b) p (S12 (2*P+1)) q 1 r b []/\Below w.heap.size w w'/\∀k,pgO F q r b k->w.heap.size<=k:=by
 obtain⟨m,hm⟩:∃m,m=2*P+1:=⟨_,rfl⟩
 have hm3:3<=m/\m<=65536:=by omega
 obtain⟨r1,r2,r3,r4,r5,r6,r7⟩:=Zf4 (m:=m) hm3;have hfw:=ZgU (m:=m) hm3;have hpg:0<pagesOf ((m:Nat):Int):=by unfold pagesOf;omega
 have wr1:IntKind.i64.wrap (2*(P:Int))=2*(P:Int):=by rw[IntKind.wrap_i64];first|(unfold wrap64;omega)|omega
 have wr2:IntKind.i64.wrap (2*(P:Int)+1)=(m:Int):=by rw[IntKind.wrap_i64];first|(unfold wrap64;omega)|omega
 have HN:=hid (Zqn api (w0:=w) (w:=w) (n:=(m:Int)) (by omega) (by omega) ht (Below.refl _ _));rw[show((m:Nat):Int).toNat=m from Int.toNat_natCast m]at HN;rw[<-hm];clear hm;go_enter func9,ntmps9;go_wp2_with fail;refine HN.out.mono ?_;rintro e w1⟨p,F1,rfl,L1,_⟩;have HFM:=hid (Zl6 api L1 (show(DS.new m).writes<=_ from Nat.zero_le _));rw[r1]at HFM;clear L1 HN;go_wp2_with fail;refine HFM.out.mono ?_;rintro e w2⟨rfl,F2,L2,_⟩;have HO:=hid (Zkf api L2 hfw r2);rw[r3]at HO;clear L2 HFM;go_wp2_with fail;refine HO.out.mono ?_;rintro e w3⟨q,F3,rfl,hq3,L3,_⟩
 have HNP:=hid (ZpM api L3.d L3.log L3.qF (by
  show 0<pagesOf ((ZaF (ZV (DS.new m) 0 1).2).2.2.n:Int);rw[r5]
  exact hpg))
 have HL3:=hid L3;clear L3 HO;go_wp2_with fail;refine HNP.out.mono ?_;rintro e w4⟨r,b,rfl,hr4,hb4,P4,hbel4⟩;have hbs:=HL3.out.bel.size
 have HE:=hid (show ZaN D w4 F3 (pgO F3 q r b) p (S12 m) q 1 r b []/\Below w.heap.size w w4/\∀k,pgO F3 q r b k->w.heap.size<=k from⟨P4,HL3.out.bel.trans (hbel4.mono hbs),fun k hk=>by
  rcases hk with a|a|a|a
  · exact HL3.out.out k a
  · have:=HL3.out.q0;omega
  · omega
  · omega⟩)
 clear P4 hbel4 HNP hr4 hb4;go_wp2_with fail;go_ret;exact⟨r,b,q,F3,p,rfl,HE.out⟩
end
theorem ZbO(S:DS)(M:MV)(L:List (Int×List Int))(s:Stp)(ss:List Stp):runS S M L (s::ss)=runS S M (Zby S M L s).2 ss:=rfl
theorem Zim(S:DS)(M:MV)(L:List (Int×List Int)):runS S M L []=L:=rfl
theorem ZkX(S:DS)(M:MV)(L:List (Int×List Int)):okS S M L []:=fun k s h=>by simp at h
theorem Zct{S:DS}{M:MV}{L:List (Int×List Int)}{s:Stp}{ss:List Stp}(h:(Zby S M L s).1=0)(h2:okS S M (Zby S M L s).2 ss):okS S M L (s::ss):=fun k t ht=>by
 cases k with
 | zero=>
  obtain rfl:s=t:=by simpa using ht
  exact h
 | succ k=>exact h2 k t (by simpa using ht)
theorem Zda{S:DS}{M:MV}{L:List (Int×List Int)}{pg:Int}{l:List Int}(hp:0<=pg/\pg<S.P)(hl:l.length=240):Zby S M L (.lay pg l)=(0,Zef L pg l):=by
 show(Za4 S pg l,Zcf S L pg l)=_
 unfold Za4 Zcf;rw[if_neg (by rw[hl];omega),if_neg (by rw[hl];omega)]
theorem ZqQ{S:DS}{M:MV}{L:List (Int×List Int)}{slot pg o:Int}{l:List Int}(hok:okD M.d M.l.length slot=true)(hp:0<=pg/\pg<4294967296)(ho:ownD M.l slot=o)(hg:Zn S L o=(l,0))(hoP:0<=o/\o<S.P)(hl:(splice l ((slot%60).toNat*4) (Zr pg 4)).length=240):Zby S M L (.pt slot pg)=(0,Zef L o (splice l ((slot%60).toNat*4) (Zr pg 4))):=by
 show Zaq S L M.d M.l.length M.l slot pg=_;unfold Zaq;rw[if_pos ⟨hok,hp⟩,ho,hg,if_pos rfl];unfold Za4 Zcf;rw[if_neg (by rw[hl];omega),if_neg (by rw[hl];omega)]
def awM(c:Int):MV:=⟨0,0,3,c,[1]⟩
def awD:List Int:=splice (Zcm 240 0) 0 (Zr 2 4)
def awB(ps:List KV):List Int:=pageBk ⟨0,0,ps⟩
def awL(c:Int)(ps:List KV):List (Int×List Int):=[(0,ZM (awM c)),(1,awD),(2,awB ps)]
def kA:KV:=([97],[120])
def kB:KV:=([98],[])
section
variable{S:DS}
theorem Zrm(hn:200<=pagesOf S.n/\pagesOf S.n<=3000):LenIs S [] M00 ⟨0,0,2,0,[1]⟩ [.lay 1 (Zcm 240 0)]:=
 .more (M1:=⟨0,0,2,0,[]⟩) (by decide) (by decide) (by decide) (.inl ⟨rfl,Int.lt_of_lt_of_le (by decide) hn.1,rfl,rfl⟩) (by decide) (.done (by decide))
theorem Zqg(hn:200<=pagesOf S.n/\pagesOf S.n<=3000):Zcr S [] ⟨0,0,2,0,[1]⟩ 2 (awM 0):=.inl ⟨rfl,Int.lt_of_lt_of_le (by decide) hn.1,rfl,rfl⟩
theorem ZqR:ZcA M00 (awM 0) ([.lay 1 (Zcm 240 0)]++[.pt 0 2]++[.lay 2 (pageBk ⟨0,0,[]⟩)]) = [.lay 1 (Zcm 240 0),.pt 0 2,.lay 2 (awB []),.lay 0 (ZM (awM 0))]:=by
 unfold ZcA;rw[if_neg (by decide)];rfl
theorem Zin(hP:200<=S.P/\S.P<=3000):okS S (awM 0) [] [.lay 1 (Zcm 240 0),.pt 0 2,.lay 2 (awB []),.lay 0 (ZM (awM 0))]/\runS S (awM 0) [] [.lay 1 (Zcm 240 0),.pt 0 2,.lay 2 (awB []),.lay 0 (ZM (awM 0))]=awL 0 []:=by
 have s1:=Zda (S:=S) (M:=awM 0) (L:=[]) (pg:=1) (l:=Zcm 240 0) (by omega) (Zv _ _);have s2:=ZqQ (S:=S) (M:=awM 0) (L:=Zef [] 1 (Zcm 240 0)) (slot:=0) (pg:=2) (o:=1) (l:=Zcm 240 0) (by decide) (by decide) (by decide) rfl (by omega) (by decide);have s3:=Zda (S:=S) (M:=awM 0) (L:=Zef (Zef [] 1 (Zcm 240 0)) 1 (splice (Zcm 240 0) (((0:Int)%60).toNat*4) (Zr 2 4))) (pg:=2) (l:=awB []) (by omega) (by decide);have s4:=Zda (S:=S) (M:=awM 0) (L:=Zef (Zef (Zef [] 1 (Zcm 240 0)) 1 (splice (Zcm 240 0) (((0:Int)%60).toNat*4) (Zr 2 4))) 2 (awB [])) (pg:=0) (l:=ZM (awM 0)) (by omega) (by decide);refine⟨Zct (by rw[s1]) (by rw[s1];exact Zct (by rw[s2]) (by rw[s2];exact Zct (by rw[s3]) (by rw[s3];exact Zct (by rw[s4]) (ZkX _ _ _)))),?_⟩;rw[ZbO,s1,ZbO,s2,ZbO,s3,ZbO,s4,Zim];rfl
theorem ZlK(c:Int)(hc:c=0∨c=1∨c=2)(ps:List KV):ZbM S (awL c ps) (awM c):=by
 refine⟨rfl,?_,by show 1<=1000;decide⟩;show Zbo (ZM (awM c))=(awM c,0);rcases hc with rfl|rfl|rfl <;> kernel_rfl
theorem ZkY(hn:200<=pagesOf S.n/\pagesOf S.n<=3000)(c:Int){ps:List KV}(hb:Zap (awB ps)=(⟨0,0,ps⟩,0))(key:List Int):Za0 S (awL c ps) (awM c) key 2 [⟨2,0,0,ps⟩]:=by
 have hs:((slotN (hashL key) (ZJ (awM c).d):Nat):Int)=0:=by
  show((slotN (hashL key) (ZJ 0):Nat):Int)=0
  rw[show ZJ 0=0 from by decide];unfold slotN;omega
 refine⟨?_,⟨⟨_,[],rfl,rfl⟩,fun i l hi=>?_,fun i l l' hi hi'=>?_,fun i l hi hi'=>?_⟩,Int.le_trans (show((1:Nat):Int)<=200 by decide) hn.1,Int.le_trans hn.2 (by decide)⟩
 · rw[hs]
   show(if okD 0 1 0=true then(if(0:Int)=0 then(numOf ((awD.drop (((0:Int)%60).toNat*4)).take 4),0)else _)else(0,1))=((2:Int),(0:Int))
   rw[if_pos (by decide),if_pos rfl]
   kernel_rfl
 · obtain rfl:i=0:=by
    have:=(ZZb.1 hi).1
    simpa using this
   obtain rfl:(⟨2,0,0,ps⟩:Zw)=l:=by simpa using hi
   exact⟨⟨rfl,hb,by show(-9223372036854775808:Int)<=2;decide,by show(2:Int)<=9223372036854775807;decide⟩,by show(0:Int)<=0;decide⟩
 · have:=(ZZb.1 hi').1
   simp at this
 · obtain rfl:i=0:=by
    have:=(ZZb.1 hi).1
    simpa using this
   obtain rfl:(⟨2,0,0,ps⟩:Zw)=l:=by simpa using hi
   rfl
theorem Zrw(hP:200<=S.P/\S.P<=3000){c:Int}{ps ps':List KV}(h0:(awM (c+1))≠awM c)(hl:(awB ps').length=240)(hm:(ZM (awM (c+1))).length=240):okS S (awM (c+1)) (awL c ps) [.lay 2 (awB ps'),.lay 0 (ZM (awM (c+1)))]/\runS S (awM (c+1)) (awL c ps) [.lay 2 (awB ps'),.lay 0 (ZM (awM (c+1)))]=awL (c+1) ps':=by
 have s3:=Zda (S:=S) (M:=awM (c+1)) (L:=awL c ps) (pg:=2) (l:=awB ps') (by omega) hl;have s4:=Zda (S:=S) (M:=awM (c+1)) (L:=Zef (awL c ps) 2 (awB ps')) (pg:=0) (l:=ZM (awM (c+1))) (by omega) hm;refine⟨Zct (by rw[s3]) (by rw[s3];exact Zct (by rw[s4]) (ZkX _ _ _)),?_⟩;rw[ZbO,s3,ZbO,s4,Zim];rfl
end
theorem Zrn:Zap (awB [])=(⟨0,0,[]⟩,0):=by kernel_rfl
theorem Zro:Zap (awB [kA])=(⟨0,0,[kA]⟩,0):=by kernel_rfl
theorem Zqh:Zap (awB [kA,kB])=(⟨0,0,[kA,kB]⟩,0):=by kernel_rfl
section
variable{D:World->(Nat->Prop)->Addr->DS->Prop}{w0 w w':World}{F O:Nat->Prop}{p:Addr}{S:DS}{q r b st:Nat}{seq:Int}{L L':List (Int×List Int)}
theorem Zrp(c:Int):awM (c+1)≠awM c:=fun e=>by
 have h:c+1=c:=congrArg MV.c e;omega
theorem ZoF{c:Int}(h:c=0∨c=1∨c=2):(ZM (awM c)).length=240:=by
 rcases h with rfl|rfl|rfl <;> decide +kernel
theorem Zio{c:Int}(h:c=0∨c=1∨c=2):Zft (awM c)=true:=by
 rcases h with rfl|rfl|rfl <;> decide +kernel
theorem ZfU{c:Int}(h:c=0∨c=1∨c=2):Zfe (awM c):=by
 rcases h with rfl|rfl|rfl <;> (unfold Zfe;decide)
theorem ZlL{M M':MV}(h:Zgh M M'=false)(s:Stp):ZcA M M' [s] = [s,.lay 0 (ZM M')]:=by
 unfold ZcA;rw[h];rfl
theorem ZjJ(api:Zb D)(hP:200<=S.P/\S.P<=3000)(hn:200<=pagesOf S.n/\pagesOf S.n<=3000){c:Int}{ps:List KV}(h:Top D w F O p S q seq r b st (awL c ps))(hc:c=0∨c=1)(hb:Zap (awB ps)=(⟨0,0,ps⟩,0)){ka va:Option Addr}{kn kc vn vc B B':Nat}{x:KV}(hk:RB w B ka kn x.1)(hB:B<=w.heap.size)(hv:RB w B' va vn x.2)(hB':B'<=w.heap.size)(hkc:kn<=kc/\kn<=maxLen)(hvc:vn<=vc/\vn<=maxLen)(hk1:1<=kn/\kn<=32)(hv1:vn<=120)
 (hno:findI ps x.1<0) (hfit:8+szP (ps++[x])<=240) (hln:ps.length<=100) (hl:(awB (ps++[x])).length=240) (hmay:ZD ⟨0,0,ps++[x]⟩=true) :
 Calls prog 40 #[.pointer (some ⟨st,0,none⟩),.slice ka kn kc,.slice va vn vc] w fun e w'=>e=.returned (.int .i64 0)/\Zad D w F O p S q seq r b st (awL (c+1) (ps++[x])) w':=by
 have hc1:c+1=0∨c+1=1∨c+1=2:=by omega
 obtain⟨ok,run⟩:=Zrw hP (c:=c) (ps:=ps) (ps':=ps++[x]) (Zrp c) hl (ZoF hc1);have ef:ZcA (awM c) (awM (c+1)) [.lay 2 (awB (ps++[x]))] = [.lay 2 (awB (ps++[x])),.lay 0 (ZM (awM (c+1)))]:=ZlL (by rcases hc with rfl|rfl <;> decide) _;rw[<-ef]at ok run
 have one:∀(j:Nat) (y:Zw),[(⟨2,0,0,ps⟩:Zw)][j]?=some y->y=⟨2,0,0,ps⟩:=fun j y hj=>by
  have hj0:j=0:=by
   have:=(ZZb.1 hj).1
   simpa using this
  subst hj0;simpa using hj.symm
 have hz:c<9223372036854775807/\-9223372036854775808<=c:=by omega
 refine(Zoo api h (ZlK c (by omega) ps) hk hB hv hB' hkc hvc hk1 hv1 (ZkY hn c hb x.1) (fun m l hm=>by rw[one m l hm];exact hno) ⟨hz.2,hz.1⟩ (m:=0) (l:=⟨2,0,0,ps⟩) rfl hfit (fun j y hj=>by omega) (fun j y hj=>by rw[one j y hj];exact⟨by show szP (ps++[x])<=_;omega,by show ps.length<=_;omega⟩) ⟨by show(-9223372036854775808:Int)<=2;decide,by show(2:Int)<=9223372036854775807;decide⟩ ⟨by show(-9223372036854775808:Int)<=0;decide,by show(0:Int)<=9223372036854775807;decide⟩ ⟨by show(-9223372036854775808:Int)<=0;decide,by show(0:Int)<=9223372036854775807;decide⟩ hmay (ZfU hc1) (Zio hc1) ok).mono fun e w' z=>⟨z.1,?_⟩
 rw[<-run];exact z.2
theorem ZoG(api:Zb D)(hP:200<=S.P/\S.P<=3000)(hn:200<=pagesOf S.n/\pagesOf S.n<=3000){c:Int}{ps:List KV}(h:Top D w F O p S q seq r b st (awL (c+1) ps))(hc:c=0∨c=1)(hb:Zap (awB ps)=(⟨0,0,ps⟩,0)){ka:Option Addr}{kn kc B:Nat}{key:List Int}(hk:RB w B ka kn key)(hB:B<=w.heap.size)(hkc:kn<=kc/\kn<=maxLen)
 {i:Nat} (hfd:findI ps key=(i:Int)) (hi:i<ps.length) (hln:ps.length<=100) (hl:(awB (ps.eraseIdx i)).length=240) (hmay:ZD ⟨0,0,ps.eraseIdx i⟩=true) :
 Calls prog 42 #[.pointer (some ⟨st,0,none⟩),.slice ka kn kc] w fun e w'=>e=.returned (.tuple #[.bool true,.int .i64 0])/\Zad D w F O p S q seq r b st (awL c (ps.eraseIdx i)) w':=by
 have hc1:c=0∨c=1∨c=2:=by omega
 have s3:=Zda (S:=S) (M:=awM c) (L:=awL (c+1) ps) (pg:=2) (l:=awB (ps.eraseIdx i)) (by omega) hl;have s4:=Zda (S:=S) (M:=awM c) (L:=Zef (awL (c+1) ps) 2 (awB (ps.eraseIdx i))) (pg:=0) (l:=ZM (awM c)) (by omega) (ZoF hc1)
 have em : {awM (c+1)with c:=(awM (c+1)).c-1}=awM c:=by
  show(⟨0,0,3,c+1-1,[1]⟩:MV)=⟨0,0,3,c,[1]⟩
  rw[Int.add_sub_cancel]
 have ef:ZcA (awM (c+1)) (awM c) [.lay 2 (awB (ps.eraseIdx i))] = [.lay 2 (awB (ps.eraseIdx i)),.lay 0 (ZM (awM c))]:=ZlL (by rcases hc with rfl|rfl <;> decide) _
 have ok:okS S (awM c) (awL (c+1) ps) (ZcA (awM (c+1)) (awM c) [.lay 2 (awB (ps.eraseIdx i))]):=by
  rw[ef];exact Zct (by rw[s3]) (by rw[s3];exact Zct (by rw[s4]) (ZkX _ _ _))
 have run:runS S (awM c) (awL (c+1) ps) (ZcA (awM (c+1)) (awM c) [.lay 2 (awB (ps.eraseIdx i))])=awL c (ps.eraseIdx i):=by
  rw[ef,ZbO,s3,ZbO,s4,Zim];rfl
 have hz:c+1<=9223372036854775807/\-9223372036854775808<c+1:=by omega
 rw[<-em]at ok run;have I1:=ZfU hc1;have I2:=Zio hc1;rw[<-em]at I1 I2;refine(Zop api h (ZlK (c+1) (by omega) ps) hk hB hkc (ZkY hn (c+1) hb key) ⟨hz.2,hz.1⟩ (m:=0) (i:=i) (l:=⟨2,0,0,ps⟩) ⟨rfl,hfd,hi,fun m' l' h'=>by omega⟩ (.inl rfl) (by show ps.length<=_;omega) ⟨by show(-9223372036854775808:Int)<=2;decide,by show(2:Int)<=9223372036854775807;decide⟩ ⟨by show(-9223372036854775808:Int)<=0;decide,by show(0:Int)<=9223372036854775807;decide⟩ ⟨by show(-9223372036854775808:Int)<=0;decide,by show(0:Int)<=9223372036854775807;decide⟩ hmay I1 I2 ok).mono fun e w' z=>⟨z.1,?_⟩
 rw[<-run];exact z.2
def AwT(D:World->(Nat->Prop)->Addr->DS->Prop)(w0 w:World)(F:Nat->Prop)(p:Addr)(S:DS)(q:Nat)(seq:Int)(r b st:Nat)(L:List (Int×List Int)):Prop:=
 ∃O,Top D w F O p S q seq r b st L/\Below w0.heap.size w0 w/\∀k,O k->w0.heap.size<=k
theorem AwT.below(api:Zb D)(h:AwT D w0 w F p S q seq r b st L)(hb:Below w.heap.size w w'):AwT D w0 w' F p S q seq r b st L:=by
 obtain⟨O,h1,h2,h3⟩:=h;exact⟨O,h1.below api hb,h2.trans (hb.mono h2.size),h3⟩
theorem AwT.aft(hb0:Below w0.heap.size w0 w)(hO:∀k,O k->w0.heap.size<=k)(h:Zad D w F O p S q seq r b st L w'):AwT D w0 w' F p S q seq r b st L/\Zf O w w':=by
 obtain⟨O',h1,h2,h3⟩:=h;refine⟨⟨O',h1,hb0.trans (Zf.below (B:=w0.heap.size) h2 hO hb0.size),fun k hk=>?_⟩,h2⟩;rcases h3 k hk with a|a
 · exact hO k a
 · exact ZZf hb0.size a
end
section
variable{S:DS}{f:Nat->List Int}{seq:Int}{L:List (Int×List Int)}
structure Kp(S:DS)(f:Nat->List Int)(seq:Int):Prop where
 free:ZfH S
 set_:ZrI S f seq
 n3:3<=S.n
 n6:S.n<=65536
 len:Ziz S
 s0:0<=seq
 s1:seq<1000000
theorem Kp.load(h:Kp S f seq){i:Int}(hi:0<=i/\i<pagesOf S.n):Za9 S i=(Zd4 S.n f i,0):=Ze5 rfl h.set_.rests hi
theorem ZoH{S:DS}{i:Int}(hr:i<0∨i≥S.P):Za9 S i=([],1):=by unfold Za9;rw[if_pos hr]
theorem Kp.commit(h:Kp S f seq)(up:Zbp L)(all:ZcH S L)(hne:L≠[])(hs:seq<999999) :
 (Zs S seq L).1=0/\(Zs S seq L).2.1=seq+1/\(Zs S seq L).2.2.n=S.n/\(Zs S seq L).2.2.writes=S.writes+(2*L.length+1)/\(∃g,Kp (Zs S seq L).2.2 g (seq+1))/\∀i,0<=i->i<pagesOf S.n->Zn (Zs S seq L).2.2 [] i=Zn S L i:=by
 have hs0:=h.s0;have hn3:=h.n3;have hI:Zj1 S.n seq L:=ZoC up all ⟨h.s0,by omega⟩;obtain⟨h1,h2,h3,h4,h5,h6⟩:=Zke rfl (by omega) hI hne h.free h.set_.rests;have hnn:=(ZN (S.n:Int)).1;obtain⟨m1,m2,m3⟩:=Zgp (f:=f) hI;obtain⟨p1,p2⟩:=ZiJ (f:=f) hI
 have hall:∀i,0<=i->i<pagesOf S.n->Zn (Zs S seq L).2.2 [] i=Zn S L i:=fun i i0 i1=>by
  show Za9 _ i=_;rw[Ze5 (n:=S.n) (by rw[h4]) h6 ⟨i0,i1⟩];unfold Zn
  cases ha:atL L i with
  | some l=>rw[p1 (i,l) (Zh1 ha)]
  | none=>
   rw[p2 i i0 i1 (fun x hx e=>by
    have:=up.at_ (i:=x.1) (l:=x.2) hx
    rw[e,ha]at this
    cases this)]
   exact(h.load ⟨i0,i1⟩).symm
 refine⟨h1,h2,h4,h5,⟨_,h3,⟨h6,?_,?_,?_⟩,by rw[h4];exact hn3,by rw[h4];exact h.n6,fun i hi=>?_,by omega,by omega⟩,hall⟩
 · rw[h4,<-ZaY m2];exact Zja hnn _
 · rw[ZfS _ _ (fun x hx e=>by have:=(hI.mem hx).1.1;omega),m1]
 · rw[ZfS _ _ (fun x hx e=>by have:=(hI.mem hx).1.1;omega),m1]
 · have hP:(Zs S seq L).2.2.P=pagesOf S.n:=by unfold DS.P;rw[h4]
   by_cases hr:i<0∨i≥(Zs S seq L).2.2.P
   · exfalso
     rw[ZoH hr]at hi;exact absurd hi (by decide)
   · have e:=hall i (by omega) (by omega);have e':Za9 (Zs S seq L).2.2 i=Zn S L i:=e;rw[e']at hi ⊢;exact h.len.get all i hi
theorem Kp.first{n:Nat}(hn:3<=n/\n<=65536):Kp (S12 n) Zco 1/\(S12 n).n=n/\(S12 n).writes=1:=by
 obtain⟨r1,r2,r3,r4,r5,r6,r7⟩:=Zf4 (m:=n) hn;exact⟨⟨r4,⟨r7,(ZcV _).2,by rw[Zbt],by rw[Zbt]⟩,by show 3<=(ZaF _).2.2.n;rw[r5];exact hn.1,by show(ZaF _).2.2.n<=65536;rw[r5];exact hn.2,ZoE hn,by decide,by decide⟩,r5,r6⟩
def ZqS(S:DS)(L:List (Int×List Int))(c:Int)(ps:List KV):Prop:=Zn S L 0=(ZM (awM c),0)/\Zn S L 1=(awD,0)/\Zn S L 2=(awB ps,0)
variable{c:Int}{ps ps':List KV}
theorem ZqS.first:ZqS S (awL 0 []) 0 []:=⟨rfl,rfl,rfl⟩
end
section
variable{S:DS}{L:List (Int×List Int)}{f:Nat->List Int}{seq:Int}{T:TL}{cap:Nat}
theorem Kp.pgs(h:Kp S f seq)(all:ZcH S L):ZdZ S L:=fun i hi=>by
 have h0:(Zn S L i).2=0:=by
  unfold Zn
  cases e:atL L i with
  | some l=>rfl
  | none=>
   show(Za9 S i).2=0
   rw[h.load ⟨Int.le_of_lt hi.1,hi.2⟩]
 exact⟨h0,h.len.get all i h0⟩
theorem Zrx(hP:200<=S.P):ZcH S (awL 0 []):=by
 intro x hx
 have hx':x=(0,ZM (awM 0))∨x=(1,awD)∨x=(2,awB []):=by
  simpa[awL] using hx
 rcases hx' with rfl|rfl|rfl
 · exact⟨by show(0:Int)<=0;decide,by show(0:Int)<S.P;omega,ZaE (by decide),Zee _⟩
 · refine⟨by show(0:Int)<=1;decide,by show(1:Int)<S.P;omega,by kernel_rfl,?_⟩;show ∀x∈awD,0<=x/\x<256;decide
 · refine⟨by show(0:Int)<=2;decide,by show(2:Int)<S.P;omega,by kernel_rfl,?_⟩;show ∀x∈awB [],0<=x/\x<256;decide
theorem ZpO(h:Kp S f seq)(hP:S.P=(cap:Int))(hc:200<=cap/\cap<=3000):ZO S (awL 0 []) [] cap:=by
 have hs:=@ZqS.first S;obtain⟨ok1,ok2,ok3⟩:=ZmQ hashL;refine⟨Zel,⟨hs.1,⟨h.pgs (Zrx (by omega)),fun s hs'=>?_,fun g b hE _=>?_,fun i q hq=>by simp[Zel]at hq⟩,ok1,ok2,⟨by omega,by show 3<=cap;omega,fun x hx=>absurd hx List.not_mem_nil⟩,hP,by rw[<-hP];rfl,by omega⟩,ok3⟩
 · have e:s=0:=by
    have:s<2^0:=hs'
    omega
   subst e;have e1:ownD (Zch Zel.dir) ((0:Nat):Int)=1:=by decide
   refine⟨by rw[e1];exact⟨by decide,by omega⟩,?_⟩;rw[e1,hs.2.1]
   kernel_rfl
 · obtain⟨p,hp,i,ps,hi,rfl⟩:=hE;have e1:p=2:=List.mem_singleton.1 (show p∈[2]from hp);subst e1;obtain⟨rfl,rfl,rfl⟩:=Zol (show [(2,([]:List KV))][i]?=some (g,ps)from hi);exact hs.2.2
theorem ZO.commit(hK:Kp S f seq)(up:Zbp L)(all:ZcH S L)(hne:L≠[])(hs:seq<999999)(hT:ZO S L T cap):ZO (Zs S seq L).2.2 [] T cap:=by
 obtain⟨c1,c2,c3,c4,_,c5⟩:=hK.commit up all hne hs;exact hT.congr c3 fun i h0 h1=>c5 i h0 h1
end
section
variable{D:World->(Nat->Prop)->Addr->DS->Prop}{w w':World}{F O:Nat->Prop}{p:Addr}{S S':DS}{q r b st:Nat}{seq:Int}{cap:Nat}{f:Nat->List Int}
theorem ZO.format(api:Zb D)(hP:ZaN D w F O p S q seq r b [])(htab:Zdf w F)(hlen:Ziz S)(hout:¬O 1)(hK:Kp S f seq)(hc:S.P=(cap:Int))(hcap:200<=cap/\cap<=3000) :
 ZO S (awL 0 []) [] cap/\Calls prog 39 #[.pointer (some ⟨r,0,none⟩)] w fun e w'=>∃st,e=.returned (.tuple #[.pointer (some ⟨st,0,none⟩),.int .i64 0])/\w.heap.size<=st/\Zad D w F O p S q seq r b st (awL 0 []) w':=by
 have hn:200<=pagesOf S.n/\pagesOf S.n<=3000:=by
  have:S.P=pagesOf S.n:=rfl
  omega
 obtain⟨ok,run⟩:=Zin (S:=S) hn;rw[<-ZqR]at ok run;refine⟨ZpO hK hc hcap,(ZeM api hP htab hlen hout (Zrm hn) (by decide) (by decide) (by decide) (Zqg hn) (by decide) (by decide) (ZfU (.inl rfl)) (Zio (.inl rfl)) ok).mono fun e w' z=>?_⟩;obtain⟨st,z1,z2,z3⟩:=z;rw[run]at z3;exact⟨st,z1,z2,z3⟩
end
end Go.Proofs.YtlmkdmdbpopnhaaGreatDoor
namespace Go.Proofs.YtlmkdmdbpopnhaaGreatDoor
open Go.RowKit Go.Maps
def SV(w:World)(X:Nat->Prop)(v:Value)(l:List Int):Prop:=
 ∃(A:Option Addr) (n c:Nat),v=.slice A n c/\n<=c/\n<=140737488355328/\RB w w.heap.size A n l/\∀a,A=some a->0<n->¬X a.block
theorem SV.keep{w w':World}{X X':Nat->Prop}{v:Value}{l:List Int}(h:SV w X v l)(hs:w.heap.size<=w'.heap.size)(hX:∀k,k<w.heap.size->¬X k->¬X' k)(hk:∀k,k<w.heap.size->¬X k->w'.heap[k]?=w.heap[k]?):SV w' X' v l:=by
 obtain⟨A,n,c,rfl,h1,h2,h3,h4⟩:=h;refine⟨A,n,c,rfl,h1,h2,⟨h3.1,h3.2.1,fun hn=>?_⟩,fun a ha hn=>?_⟩
 · obtain⟨bb,o,e,hbb,hc⟩:=h3.2.2 hn;exact⟨bb,o,e,ZZd hbb hs,fun j hj=>(World.cell?_of_block (a:=⟨bb,o+j,none⟩) (hk bb hbb (h4 _ e hn))).trans (hc j hj)⟩
 · obtain⟨bb,o,e,hbb,_⟩:=h3.2.2 hn;rw[ha]at e;cases e;exact hX _ hbb (h4 _ ha hn)
theorem SV.far{w:World}{X Y:Nat->Prop}{v:Value}{l:List Int}(h:SV w X v l)(hY:∀k,Y k->X k):SV w Y v l:=by
 obtain⟨A,n,c,rfl,h1,h2,h3,h4⟩:=h;exact⟨A,n,c,rfl,h1,h2,h3,fun a ha hn hy=>h4 a ha hn (hY _ hy)⟩
theorem SV.nil_(w:World)(X:Nat->Prop)(c:Nat):SV w X (.slice none 0 c) []:=⟨none,0,c,rfl,Nat.zero_le _,Nat.zero_le _,RB.nil_,fun a h=>by cases h⟩
theorem SV.of_own{w:World}{base n:Nat}{v:Value}{l:List Int}(h:w.ownsRow base 5 1 v n (l.map (Value.int .u8)))(hl:Ze l)(hn:n<=140737488355328){X:Nat->Prop}(hX:∀k,X k->k<base):SV w X v l:=by
 obtain⟨A,c,rfl,hc⟩:=Zdv h;refine⟨A,n,c,rfl,hc,hn,RB.of_own h hl,fun a ha hp hx=>?_⟩;subst ha
 have:=ZnG h a.block (by
  rcases h.2 with ⟨e,h0⟩|⟨g,cap,cur,e,_⟩
  · omega
  · cases e;rfl)
 have:=hX _ hx
 omega
theorem Zhu:(prog.info? 65).map (fun i=>(i.zero,i.size,i.bytes))=some (some (.agg #[.slice none 0 0,.slice none 0 0]),2,48):=by kernel_rfl
abbrev ZoS(p:Txt×List Int):KV:=(by_ p.1,p.2)
def ZkZ(w:World)(Y:Nat->Prop)(us:List Value)(x:KV):Prop:=∃u1 u2,us = [u1,u2]/\SV w Y u1 x.1/\SV w Y u2 x.2
theorem ZcP:Zko ZkZ:=by
 intro w w' Y Y' us x h hs hY hk;obtain⟨u1,u2,e,h1,h2⟩:=h;exact⟨u1,u2,e,h1.keep hs hY hk,h2.keep hs hY hk⟩
section
variable{w w':World}{Y:Nat->Prop}{base:Nat}{A:Option Addr}{n c:Nat}
theorem ZbL.append_pair{v:Value}{l:List KV}(h:ZbL ZkZ 65 2 w Y base v l){u1 u2:Value}{x:KV}{b:Nat}{T:TypeId}(hu1:SV w Y u1 x.1)(hu2:SV w Y u2 x.2)(hb:w.heap[b]?=some (.cells #[u1,u2] T))(hn:l.length<=4294967296)(hbase:base<=w.heap.size)(ty:TypeId) :
 ∃v' w',(Builtin.append_ #[31,31] ty #[v,.slice (some ⟨b,0,none⟩) 1 1]).run prog w=.ok v' w'/\ZbL ZkZ 65 2 w' (fun k=>Y k∨v'.ownBlock=some k) base v' (l++[x])/\w.grownBy w' v.ownBlock/\(v'.ownBlock=v.ownBlock∨v'.ownBlock=some w.heap.size)/\∃A c,v'=.slice A (l.length+1) c:=by
 obtain⟨i0,hi,hz0,hz1,hz2⟩:=info_parts Zhu;have o1:∀{u:Value} {l:List Int},SV w Y u l->u.oneCell'=true:=by rintro u l ⟨A,n,c,rfl,_⟩;rfl
 exact h.append @ZcP underlying31 hi hz0 hz1 hz2 rfl (by decide) (by decide) (us:=[u1,u2]) ⟨u1,u2,rfl,hu1,hu2⟩ rfl (fun u hu=>by
  rcases List.mem_cons.1 hu with rfl|hu
  · exact o1 hu1
  · obtain rfl:=List.mem_singleton.1 hu;exact o1 hu2) hb hn hbase
end
def ZgE(w:World)(g n cap:Nat)(vs:List Value):Prop:=∃cur:Array Value,w.heap[g]?=some (.cells cur 65 (0,0))/\n<=cap/\cap<=maxLen/\cur.size=cap*2/\cur.toList.take (n*2)=vs
def ZjK(w:World)(Y:Nat->Prop)(vs:List Value)(a:Nat)(x:KV):Prop:=∃u1 u2,vs[a*2]?=some u1/\vs[a*2+1]?=some u2/\SV w Y u1 x.1/\SV w Y u2 x.2
section
variable{w w':World}{Y:Nat->Prop}{g n cap base:Nat}{vs:List Value}
theorem ZgE.len(h:ZgE w g n cap vs):vs.length=n*2:=by
 obtain⟨cur,_,h1,_,h2,rfl⟩:=h;rw[List.length_take,Array.length_toList,h2];omega
theorem ZgE.cell(h:ZgE w g n cap vs){k:Nat}{u:Value}(hu:vs[k]?=some u):w.cell? ⟨g,k,none⟩=some u:=by
 have hl:=h.len;obtain⟨cur,h1,h2,h3,h4,rfl⟩:=h;have hk:=(ZZb.1 hu).1;rw[cell_of_row w g k cur _ (0,0) h1,<-hu,List.getElem?_take,if_pos (by omega)];simp
theorem ZgE.frozen(h:ZgE w g n cap vs)(k:Nat):w.frozen? ⟨g,k,none⟩=false:=by
 obtain⟨cur,h1,_⟩:=h;exact frozen_of_row w g k _ _ h1
theorem ZgE.set2(h:ZgE w g n cap vs){i:Nat}(hi:i<n)(u1 u2:Value):ZgE ((w.setCell ⟨g,i*2,none⟩ u1).setCell ⟨g,i*2+1,none⟩ u2) g n cap ((vs.set (i*2) u1).set (i*2+1) u2):=by
 obtain⟨cur,h1,h2,h3,h4,rfl⟩:=h;have e1:=heap_setCell_same w g (i*2) cur 65 u1 h1;have e2:=heap_setCell_same _ g (i*2+1) _ 65 u2 e1;refine⟨_,e2,h2,h3,by simpa using h4,?_⟩;simp only[Array.toList_setIfInBounds,List.take_set]
theorem ZjK.keep{a:Nat}{x:KV}(h:ZjK w Y vs a x)(ht:Zf (fun k=>k=g) w w')(hY:Y g):ZjK w' Y vs a x:=by
 obtain⟨u1,u2,h1,h2,h3,h4⟩:=h;have hk:∀k,k<w.heap.size->¬Y k->w'.heap[k]?=w.heap[k]?:=fun k hk hy=>ht.block k hk fun e=>hy (by rw[e];exact hY)
 exact⟨u1,u2,h1,h2,h3.keep ht.size (fun _ _ h=>h) hk,h4.keep ht.size (fun _ _ h=>h) hk⟩
theorem ZjK.of{us:List Value}{a:Nat}{x:KV}(h:ZjK w Y vs a x)(e1:us[a*2]?=vs[a*2]?)(e2:us[a*2+1]?=vs[a*2+1]?):ZjK w Y us a x:=by
 obtain⟨u1,u2,h1,h2,h3⟩:=h;exact⟨u1,u2,e1.trans h1,e2.trans h2,h3⟩
theorem ZbL.open_{l:List KV}(h:ZbL ZkZ 65 2 w Y base (.slice (some ⟨g,0,none⟩) n cap) l):n=l.length/\base<=g/\Y g/\∃vs,ZgE w g n cap vs/\∀a x,l[a]?=some x->ZjK w Y vs a x:=by
 obtain⟨vs,h1,h2⟩:=h.row;have hY:=h.own g rfl;rcases h1.2 with ⟨e,h0⟩|⟨g',cap',cur,e,hb,hg,hc,hm,hs,htake⟩
 · cases e
 · cases e;refine⟨rfl,hb,hY,vs,⟨cur,hg,hc,hm,hs,htake⟩,fun a x hx=>?_⟩;obtain⟨u1,u2,e3,s1,s2⟩:=h2 a x hx;refine⟨u1,u2,?_,?_,s1,s2⟩
   · have:((vs.drop (a*2)).take 2)[0]?=some u1:=by rw[e3];rfl
     rw[List.getElem?_take,if_pos (by decide),List.getElem?_drop]at this;simpa using this
   · have:((vs.drop (a*2)).take 2)[1]?=some u2:=by rw[e3];rfl
     rw[List.getElem?_take,if_pos (by decide),List.getElem?_drop]at this;simpa using this
theorem ZlM{vs:List Value}{k:Nat}{a b:Value}(h1:vs[k]?=some a)(h2:vs[k+1]?=some b):(vs.drop k).take 2 = [a,b]:=by
 obtain⟨l1,rfl⟩:=ZZb.1 h1;obtain⟨l2,rfl⟩:=ZZb.1 h2;rw[List.drop_eq_getElem_cons l1,List.drop_eq_getElem_cons l2];rfl
theorem ZbL.shut{l:List KV}(h:ZgE w g n cap vs)(hl:l.length<=n)(hb:base<=g)(hY:Y g)(hp:∀a x,l[a]?=some x->ZjK w Y vs a x):ZbL ZkZ 65 2 w Y base (.slice (some ⟨g,0,none⟩) l.length cap) l:=by
 have hlen:=h.len;obtain⟨cur,h1,h2,h3,h4,h5⟩:=h
 refine⟨⟨vs.take (l.length*2),⟨by rw[List.length_take,hlen];omega,.inr ⟨g,cap,cur,rfl,hb,h1,ZZf hl h2,h3,h4,by rw[<-h5,List.take_take];congr 1;omega⟩⟩,fun a x hx=>?_⟩,fun r hr=>by
  simp[Value.ownBlock]at hr;rw[<-hr]
  exact hY⟩
 have ha:=(ZZb.1 hx).1;obtain⟨u1,u2,e1,e2,s1,s2⟩:=hp a x hx;exact⟨u1,u2,ZlM (by rw[List.getElem?_take,if_pos (by omega)];exact e1) (by rw[List.getElem?_take,if_pos (by omega)];exact e2),s1,s2⟩
end
section
variable{w w':World}{Y:Nat->Prop}{g n cap base bx:Nat}{l:List KV}{P:KV->Bool}
theorem SV.slice{u:Value}{x:List Int}(h:SV w Y u x):∃A n c,u=.slice A n c:=by
 obtain⟨A,n,c,rfl,_⟩:=h;exact⟨A,n,c,rfl⟩
end
end Go.Proofs.YtlmkdmdbpopnhaaGreatDoor
