/- ExtB, ExtC, ExtD, PairM, BkM, BkA. Conditions: in each theorem. -/
import Derived.Test.YtlmkdmdbpopnhaaGreatDoorG14
import Derived.Test.YtlmkdmdbpopnhaaGreatDoorG1
import Derived.Test.YtlmkdmdbpopnhaaGreatDoorG2
import Derived.Maps.AppendAt
import Derived.Deep.AppendLies
import Derived.Deep.Slices
import Derived.Deep.Fields
import Derived.ChangeSame
import Derived.ProofKit
import Derived.BigQuiet
set_option maxHeartbeats 1600000
set_option maxRecDepth 100000
set_option linter.unusedVariables false
open Go.Proofs.Tryz
open Go.Lib (hid)
namespace Go.Proofs.YtlmkdmdbpopnhaaGreatDoor
open Go.RowKit
section
variable{D:World->(Nat->Prop)->Addr->DS->Prop}{w w':World}{F O:Nat->Prop}{p:Addr}{S:DS}{q r b:Nat}{seq:Int}{L:List (Int×List Int)}{ch st mb:Nat}{d f n c d' f' n' c':Int}{v v' sv:Value}
theorem ZoZ.cell(h:ZoZ w st r):w.cell? ⟨st,0,none⟩=some (.pointer (some ⟨r,0,none⟩)):=by
 rw[cell_of_row w st 0 _ _ (0,0) h];rfl
theorem ZcT.cells(h:ZcT w ch st d f n c v d' f' n' c' v' mb sv):w.cell? ⟨ch,0,none⟩=some (.pointer (some ⟨st,0,none⟩))/\w.cell? ⟨ch,6,none⟩=some (.int .i64 d')/\w.cell? ⟨ch,7,none⟩=some (.int .i64 f')/\w.cell? ⟨ch,8,none⟩=some (.int .i64 n')/\w.cell? ⟨ch,9,none⟩=some (.int .i64 c')/\w.cell? ⟨ch,10,none⟩=some v'/\w.cell? ⟨ch,11,none⟩=some (.map (some mb))/\w.cell? ⟨ch,12,none⟩=some sv/\ch<w.heap.size:=by
 refine⟨?_,?_,?_,?_,?_,?_,?_,?_,(ZZa.1 h).1⟩ <;> (rw[cell_of_row w ch _ _ _ (0,0) h];rfl)
theorem ZcT.frozen(h:ZcT w ch st d f n c v d' f' n' c' v' mb sv)(i:Nat):w.frozen? ⟨ch,i,none⟩=false:=by
 have h':w.heap[ch]?=_:=h;simp[World.frozen?,h']
theorem ZcT.setN(h:ZcT w ch st d f n c v d' f' n' c' v' mb sv)(x:Int):ZcT (w.setCell ⟨ch,8,none⟩ (.int .i64 x)) ch st d f n c v d' f' x c' v' mb sv:=heap_setCell_same w ch 8 _ _ (.int .i64 x) h
theorem ZcT.setF(h:ZcT w ch st d f n c v d' f' n' c' v' mb sv)(x:Int):ZcT (w.setCell ⟨ch,7,none⟩ (.int .i64 x)) ch st d f n c v d' x n' c' v' mb sv:=heap_setCell_same w ch 7 _ _ (.int .i64 x) h
theorem ZcT.setC(h:ZcT w ch st d f n c v d' f' n' c' v' mb sv)(x:Int):ZcT (w.setCell ⟨ch,9,none⟩ (.int .i64 x)) ch st d f n c v d' f' n' x v' mb sv:=heap_setCell_same w ch 9 _ _ (.int .i64 x) h
theorem ZcT.setD(h:ZcT w ch st d f n c v d' f' n' c' v' mb sv)(x:Int):ZcT (w.setCell ⟨ch,6,none⟩ (.int .i64 x)) ch st d f n c v x f' n' c' v' mb sv:=heap_setCell_same w ch 6 _ _ (.int .i64 x) h
theorem ZcT.setV(h:ZcT w ch st d f n c v d' f' n' c' v' mb sv)(u:Value):ZcT (w.setCell ⟨ch,10,none⟩ u) ch st d f n c v d' f' n' c' u mb sv:=heap_setCell_same w ch 10 _ _ u h
theorem ZcT.setS(h:ZcT w ch st d f n c v d' f' n' c' v' mb sv)(u:Value):ZcT (w.setCell ⟨ch,12,none⟩ u) ch st d f n c v d' f' n' c' v' mb u:=heap_setCell_same w ch 12 _ _ u h
theorem ZcT.below(h:ZcT w ch st d f n c v d' f' n' c' v' mb sv)(hb:Below w.heap.size w w'):ZcT w' ch st d f n c v d' f' n' c' v' mb sv:=(hb.block ch h.cells.2.2.2.2.2.2.2.2).trans h
theorem Zkg(api:Zb D)(h:ZaN D w F O p S q seq r b L)(hc:ZcT w ch st d f n c v d' f' n' c' v' mb sv)(hs:ZoZ w st r)(hn:0<=n'/\n'<4611686018427387904) :
 Calls prog 152 #[.pointer (some ⟨ch,0,none⟩)] w fun e w'=>(pagesOf S.n<=n'/\e=.returned (.tuple #[.int .i64 0,.int .i64 6])/\w'=w)∨(n'<pagesOf S.n/\e=.returned (.tuple #[.int .i64 n',.int .i64 0])/\w'=w.setCell ⟨ch,8,none⟩ (.int .i64 (n'+1))):=by
 obtain⟨z0,_,_,z3,_,_,_,_,zl⟩:=hc.cells;have zs:=hs.cell;have fz:=hc.frozen 8;have HP:=hid (ZdO api h);obtain⟨n0,n1⟩:=hn;have hpb:=Zm (S.n:Int);clear h hs hc;by_cases hf:pagesOf S.n<=n'
 · have k1:decide (pagesOf S.n<=n')=true:=by simpa using hf
   go_enter func152,ntmps152;go_wp2_with fail;refine HP.out.mono ?_;rintro e w1⟨rfl,hw⟩;subst hw;go_wp2;go_ret2;exact .inl ⟨hf,rfl,rfl⟩
 · have k1:decide (pagesOf S.n<=n')=false:=by simpa using hf
   go_enter func152,ntmps152;go_wp2_with fail;refine HP.out.mono ?_;rintro e w1⟨rfl,hw⟩;subst hw;go_wp2;go_ret2;exact .inr ⟨by omega,rfl,rfl⟩
end
theorem Znx:(prog.info? 90).map (fun i=>(i.zero.map (fun z=>z.cells.size),i.size,i.bytes))=some (some 1,1,8):=by kernel_rfl
theorem Zl8:∃i z,prog.info? 90=some i/\i.zero=some z/\i.size=1/\i.bytes=8/\z.cells.size=1:=by
 have h:=Znx
 cases hi:prog.info? 90 with
 | none=>rw[hi]at h;cases h
 | some i=>
  rw[hi]at h;simp only[Option.map_some,Option.some.injEq,Prod.mk.injEq]at h;obtain⟨h1,h2,h3⟩:=h
  cases hz:i.zero with
  | none=>rw[hz]at h1;cases h1
  | some z=>
   rw[hz]at h1;exact⟨i,z,rfl,hz,h2,h3,by simpa using h1⟩
section
variable{D:World->(Nat->Prop)->Addr->DS->Prop}{w w':World}{F O:Nat->Prop}{p:Addr}{S:DS}{q r b:Nat}{seq:Int}{L:List (Int×List Int)}{ch st mb base k:Nat}{d f n c d' f' n' c':Int}{v v' sv:Value}{fs:List Value}
def ZhJ(w:World)(base ch st:Nat)(d f n c:Int)(v:Value)(d' f' n' c':Int)(v':Value)(mb:Nat)(sv:Value)(fs:List Value)(w':World):Prop:=
 ∃sv',ZcT w' ch st d f n c v d' f' n' c' v' mb sv'/\w'.ownsRow base 90 1 sv' fs.length fs/\Zf (fun j=>j=ch∨sv.ownBlock=some j) w w'/\(sv'.ownBlock=sv.ownBlock∨∃g,sv'.ownBlock=some g/\w.heap.size<=g)
theorem Zl9(hc:ZcT w ch st d f n c v d' f' n' c' v' mb sv)(hch:sv.ownBlock≠some ch)(hkk:fs.length=k){w4:World}{u fv:Value}{T:TypeId}(hown:w4.ownsRow base 90 1 u (k+1) (fs++[fv]))(hg:(w.alloc (.cells #[fv] T)).grownBy w4 sv.ownBlock)(hl:u.ownBlock=sv.ownBlock∨u.ownBlock=some (w.alloc (.cells #[fv] T)).heap.size) :
 w4.frozen? ⟨ch,12,none⟩=false/\w4.cell? ⟨ch,12,none⟩=some sv/\Hid (ZhJ w base ch st d f n c v d' f' n' c' v' mb sv (fs++[fv]) (w4.setCell ⟨ch,12,none⟩ u)):=by
 have zl:=hc.cells.2.2.2.2.2.2.2.2;have hb4:∀j,j<w.heap.size->sv.ownBlock≠some j->w4.heap[j]?=w.heap[j]?:=fun j hj hne=>(hg.block j (by simp;omega) (fun e=>hne e.symm)).trans (Below.heap_alloc _ _ j hj)
 have hc4:ZcT w4 ch st d f n c v d' f' n' c' v' mb sv:=(hb4 ch zl hch).trans hc;have hs4:=hg.size
 have hne4:∀g,u.ownBlock=some g->g≠ch:=fun g hg2 e=>by
  rcases hl with a|a
  · exact hch (by rw[<-a,hg2,e])
  · rw[hg2]at a;injection a with a;simp at a;omega
 exact⟨hc4.frozen 12,hc4.cells.2.2.2.2.2.2.2.1,hid ⟨_,hc4.setS _,by
  rw[List.length_append,hkk];exact ZcS hown (fun g hg=>Below.heap_setCell _ _ _ _ (hne4 g hg)),⟨hg.os,hg.tape,hg.output,ZZf (by simp) (ZZf hs4 (by simp)),fun j hj hn=>(Below.heap_setCell _ _ _ _ (fun e=>hn (.inl e))).trans (hb4 j hj (fun e=>hn (.inr e)))⟩,by
  rcases hl with a|a
  · exact .inl a
  · exact .inr ⟨_,a,by simp⟩⟩⟩
theorem ZhK(hc:ZcT w ch st d f n c v d' f' n' c' v' mb sv)(hown:w.ownsRow base 90 1 sv fs.length fs)(hch:sv.ownBlock≠some ch)(fn:Fn)(bs cs:Array Value)(hk:fs.length<=4294967296)(hbase:base<=w.heap.size) :
 Calls prog 154 #[.pointer (some ⟨ch,0,none⟩),.func fn bs cs] w fun e w'=>e=.returned (.tuple #[])/\ZhJ w base ch st d f n c v d' f' n' c' v' mb sv (fs++[.func fn bs cs]) w':=by
 obtain⟨i0,z,hi,hz,hs1,hb8,hzc⟩:=Zl8;obtain⟨_,_,_,_,_,_,_,z7,zl⟩:=hc.cells;have HC:=hid hc;have HO:=hid hown;have HCH:=hid hch;generalize hkk:fs.length=k at *;have HKK:=hid hkk;clear hc hown hch hkk;go_enter func154,ntmps154
 go_wp2_with (at_builtin;refine wpList_append_own_at _ rfl _ _ 203 rfl base 90 i0 z 1 8 underlying203 hi hz hs1 hb8 hzc (by decide) sv k fs rfl (HO.out.alloc _) ⟨w.heap.size,0,none⟩ 1 1 [.func fn bs cs] rfl rfl (fun j u hj=>World.news_of_block (cs:=#[.func fn bs cs]) (heap_alloc_new _ _) j u hj) (fun u hu=>by rw[List.mem_singleton.1 hu];rfl) (by unfold maxLen;omega) (by omega) (by simp;omega) ?_;intro v4 w4 hown4 hg4 hx4 hl4;clear hx4;obtain⟨g4,cap4,hv4,_⟩:=hown4.form (Nat.succ_pos _);subst hv4;obtain⟨f4,y4,HE⟩:=Zl9 HC.out HCH.out HKK.out hown4 hg4 hl4;clear hown4 hg4 hl4)
 go_end0
 exact⟨rfl,HE.out⟩
end
section
variable{D:World->(Nat->Prop)->Addr->DS->Prop}{w w':World}{F O:Nat->Prop}{p:Addr}{S:DS}{q r b:Nat}{seq:Int}{L:List (Int×List Int)}{ch st mb base k:Nat}{d f n c d' f' n' c':Int}{v v' sv:Value}{fs:List Value}
theorem Zo1(api:Zb D)(h:ZaN D w F O p S q seq r b L)(hc:ZcT w ch st d f n c v d' 0 n' c' v' mb sv)(hs:ZoZ w st r)(hn:0<=n'/\n'<4611686018427387904) :
 Calls prog 95 #[.pointer (some ⟨ch,0,none⟩)] w fun e w'=>(pagesOf S.n<=n'/\e=.returned (.tuple #[.int .i64 0,.int .i64 6])/\w'=w)∨(n'<pagesOf S.n/\e=.returned (.tuple #[.int .i64 n',.int .i64 0])/\w'=w.setCell ⟨ch,8,none⟩ (.int .i64 (n'+1))):=by
 obtain⟨_,_,z2,_,_,_,_,_,zl⟩:=hc.cells;have HT:=hid (Zkg api h hc hs hn);clear h hc hs;go_enter func95,ntmps95;go_wp2_with fail;refine HT.out.mono ?_;rintro e w1 (⟨hf,rfl,rfl⟩|⟨hf,rfl,rfl⟩)
 · go_wp2;go_ret2;exact .inl ⟨hf,rfl,rfl⟩
 · go_wp2;go_ret2;exact .inr ⟨hf,rfl,rfl⟩
end
abbrev KV:=List Int×List Int
def Zli(w:World)(B b off:Nat)(x:KV):Prop:=
 ∃(ka:Option Addr) (kn kc:Nat) (va:Option Addr) (vn vc:Nat),w.cell? ⟨b,off,none⟩=some (.slice ka kn kc)/\w.cell? ⟨b,off+1,none⟩=some (.slice va vn vc)/\RB w B ka kn x.1/\(kn<=kc/\kn<=maxLen)/\RB w B va vn x.2/\(vn<=vc/\vn<=maxLen)
def Zaa(w:World)(B:Nat)(A:Option Addr)(n:Nat)(ps:List KV):Prop:=
 ps.length=n/\(0<n->∃b off,A=some ⟨b,off,none⟩/\b<B/\∀j x,ps[j]?=some x->Zli w B b (off+j*2) x)
section
variable{w w':World}{B B' n:Nat}{A:Option Addr}{ps:List KV}
theorem Zli.keep{b off:Nat}{x:KV}(h:Zli w B b off x)(hb:b<B)(hk:∀b o,b<B->w'.cell? ⟨b,o,none⟩=w.cell? ⟨b,o,none⟩):Zli w' B b off x:=by
 obtain⟨ka,kn,kc,va,vn,vc,h0,h1,h2,h3,h4,h5⟩:=h;exact⟨ka,kn,kc,va,vn,vc,(hk _ _ hb).trans h0,(hk _ _ hb).trans h1,h2.keep hk,h3,h4.keep hk,h5⟩
theorem Zaa.nil_:Zaa w B A 0 []:=⟨rfl,fun h=>absurd h (by omega)⟩
theorem Zaa.len(h:Zaa w B A n ps):ps.length=n:=h.1
theorem Zaa.keep(h:Zaa w B A n ps)(hk:∀b o,b<B->w'.cell? ⟨b,o,none⟩=w.cell? ⟨b,o,none⟩):Zaa w' B A n ps:=
 ⟨h.1,fun hn=>by
  obtain⟨b,off,e,hb,hc⟩:=h.2 hn
  exact⟨b,off,e,hb,fun j x hx=>(hc j x hx).keep hb hk⟩⟩
theorem Zaa.below(h:Zaa w B A n ps)(hb:Below B w w'):Zaa w' B A n ps:=h.keep fun b o hp=>hb.cell (p:=⟨b,o,none⟩) hp
end
def szP(ps:List KV):Nat:=(ps.map fun x=>2+x.1.length+x.2.length).sum
theorem ZhL(ps:List KV)(x:KV):szP (ps++[x])=szP ps+(2+x.1.length+x.2.length):=by simp[szP]
theorem ZfL(x:KV)(ps:List KV):szP (x::ps)=(2+x.1.length+x.2.length)+szP ps:=by simp[szP]
theorem Zma(a b:List KV):szP (a++b)=szP a+szP b:=by simp[szP]
theorem ZfM{ps:List KV}{k:Nat}{x:KV}(h:ps[k]?=some x):szP (ps.take (k+1))=szP (ps.take k)+(2+x.1.length+x.2.length):=by
 obtain⟨hk,rfl⟩:=ZZb.1 h;rw[List.take_succ_eq_append_getElem hk,ZhL]
theorem ZcW(ps:List KV)(k:Nat):szP (ps.take k)<=szP ps:=by
 have:=Zma (ps.take k) (ps.drop k)
 rw[List.take_append_drop]at this;omega
theorem ZhM(ps:List KV):2*ps.length<=szP ps:=by
 induction ps with
 | nil=>simp[szP]
 | cons x ps ih=>rw[ZfL,List.length_cons];omega
def findI(ps:List KV)(key:List Int):Int:=match ps.findIdx? (fun x=>x.1 == key)with|some i=>(i:Int)|none=>-1
theorem ZhN{ps:List KV}{key:List Int}{j:Nat}{x:KV}(hx:ps[j]?=some x)(hk:x.1=key)(hbef:∀(m:Nat) (y:KV),m<j->ps[m]?=some y->y.1≠key):findI ps key=(j:Int):=by
 unfold findI;obtain⟨hj,rfl⟩:=ZZb.1 hx
 have:ps.findIdx? (fun x=>x.1 == key)=some j:=by
  rw[List.findIdx?_eq_some_iff_getElem];exact⟨hj,by simpa using hk,fun m hm=>by simpa using hbef m _ hm (ZZc (by omega))⟩
 rw[this]
theorem ZeU{ps:List KV}{key:List Int}(h:∀(m:Nat) (y:KV),ps[m]?=some y->y.1≠key):findI ps key = -1:=by
 unfold findI
 have:ps.findIdx? (fun x=>x.1 == key)=none:=by
  rw[List.findIdx?_eq_none_iff];intro x hx;obtain⟨m,hm,rfl⟩:=List.getElem_of_mem hx;simpa using h m _ (ZZc hm)
 rw[this]
theorem Zfn(ps:List KV)(key:List Int) : -1<=findI ps key/\findI ps key<=ps.length:=by
 unfold findI
 cases h:ps.findIdx? (fun x=>x.1 == key)with
 | none=>simp
 | some i=>
  have:=(List.findIdx?_eq_some_iff_getElem.1 h).1
  simp;omega
def Zmb(ps:List KV)(i:Nat):Bool:=match ps[i]? with
 | some x=>decide (1<=x.1.length)&&decide (x.1.length<=32)&&decide (x.2.length<=120)&&(findI ps x.1 == (i:Int))
 | none=>true
theorem Zf6{ps:List KV}{i:Nat}{x:KV}(h:ps[i]?=some x):Zmb ps i=(decide (1<=x.1.length)&&decide (x.1.length<=32)&&decide (x.2.length<=120)&&(findI ps x.1 == (i:Int))):=by
 unfold Zmb;rw[h]
def pairsB(ps:List KV):Bool:=(List.range ps.length).all (Zmb ps)
theorem ZiL{ps:List KV}{i:Nat}(hi:i<ps.length)(h:Zmb ps i=false):pairsB ps=false:=by
 cases e:pairsB ps
 · rfl
 · have:=List.all_eq_true.1 e i (by simpa using hi)
   rw[h]at this;cases this
theorem Zf7{ps:List KV}(h:∀i,i<ps.length->Zmb ps i=true):pairsB ps=true:=
 List.all_eq_true.2 fun i hi=>h i (by simpa using hi)
structure BV where
 d:Int
 x:Int
 ps:List KV
def ZD(b:BV):Bool:=decide (8+szP b.ps<=240)&&decide (0<=b.d)&&decide (b.d<=10)&&Zj b.x 4&&pairsB b.ps
def ZbY(x:KV):List Int:=(x.1.length:Int)::(x.2.length:Int)::(x.1++x.2)
def ZP(ps:List KV):List Int:=ps.flatMap ZbY
theorem Zcp(x:KV):(ZbY x).length=2+x.1.length+x.2.length:=by simp[ZbY];omega
theorem Zbc(ps:List KV):(ZP ps).length=szP ps:=by
 induction ps with
 | nil=>rfl
 | cons x ps ih=>rw[ZfL,<-ih];simp[ZP,ZbY];omega
theorem Zkh{ps:List KV}{k:Nat}{x:KV}(h:ps[k]?=some x):ZP (ps.take (k+1))=ZP (ps.take k)++ZbY x:=by
 obtain⟨hk,rfl⟩:=ZZb.1 h;unfold ZP;rw[List.take_succ_eq_append_getElem hk,List.flatMap_append];simp only[List.flatMap_cons,List.flatMap_nil,List.append_nil]
def ZQ(b:BV):List Int:=66::(Zr b.d 1++(Zr b.x 4++Zr (b.ps.length:Int) 2))
theorem Zal(b:BV):(ZQ b).length=8:=by simp[ZQ,Zc]
def pageBk(b:BV):List Int:=ZQ b++ZP b.ps++List.replicate (240-(8+szP b.ps)) 0
theorem Zbd{b:BV}(h:8+szP b.ps<=240):(pageBk b).length=240:=by
 unfold pageBk;rw[List.length_append,List.length_append,Zal,Zbc,List.length_replicate];omega
def Zd7(b:BV):List Int×Int:=if ZD b=true then(pageBk b,0)else([],1)
def Zax(d x:Int)(A:Option Addr)(n c:Nat):Obj:=.cells #[.int .i64 d,.int .i64 x,.slice A n c] 102 (0,0)
def ZR(w:World)(g:Nat)(d x:Int)(A:Option Addr)(n c:Nat):Prop:=w.heap[g]?=some (Zax d x A n c)
theorem ZR.cells{w:World}{g n c:Nat}{d x:Int}{A:Option Addr}(h:ZR w g d x A n c):w.cell? ⟨g,0,none⟩=some (.int .i64 d)/\w.cell? ⟨g,1,none⟩=some (.int .i64 x)/\w.cell? ⟨g,2,none⟩=some (.slice A n c)/\g<w.heap.size:=by
 refine⟨?_,?_,?_,(ZZa.1 h).1⟩ <;> (rw[cell_of_row w g _ _ _ (0,0) h];rfl)
theorem ZR.below{w w':World}{g n c:Nat}{d x:Int}{A:Option Addr}(h:ZR w g d x A n c)(hb:Below w.heap.size w w'):ZR w' g d x A n c:=(hb.block g (ZZa.1 h).1).trans h
theorem ZR.new(w:World)(d x:Int)(A:Option Addr)(n c:Nat):ZR (w.alloc (Zax d x A n c)) w.heap.size d x A n c:=heap_alloc_new w _
theorem Zp3{n:Int}(h0 : -9223372036854775808<=n)(h1:n<=9223372036854775807):wrap64 n=n:=by unfold wrap64;omega
theorem Zmc{w:World}{B n:Nat}{A:Option Addr}{ps:List KV}(d x:Int)(c:Nat)(hr:Zaa w B A n ps)(hB:B<=w.heap.size)(hm:n<=maxLen)(hsz:szP ps<=4611686018427387904) :
 Calls prog 241 #[.agg #[.int .i64 d,.int .i64 x,.slice A n c]] w fun e w'=>e=.returned (.int .i64 ((8+szP ps:Nat):Int))/\Below w.heap.size w w':=by
 unfold maxLen at hm;have HX:=hid (show Below w.heap.size w (w.alloc (Zax d x A n c))from(Below.refl _ _).alloc (ZZe _) _);obtain⟨x0,x1,x2,_⟩:=(ZR.new w d x A n c).cells;have HSZ:=hid (fun k=>ZcW ps k);have HALL:=hid (show szP ps=szP (ps.take n) by rw[List.take_of_length_le (by rw[hr.len];exact ZZe _)]);have HR:=hid hr;clear hr
 unfold Zax at *
 go_enter func241,ntmps241;go_wp2_with fail;clear x0 x1 x2
 go_loopw[3,9] (fun v i wr=>∃k:Nat,k<=n/\i=.int .i64 k/\v=.int .i64 ((8+szP (ps.take k):Nat):Int)/\Hid (Below w.heap.size w wr)) (fun _ i _=>n-(intOf i).toNat)
 case atStart=>exact⟨0,Nat.zero_le _,rfl,rfl,HX⟩
 case round=>
  obtain⟨k,hk,rfl,rfl,hb⟩:=hrel;have hsk:=HSZ.out k;by_cases hlt:k<n
  · obtain⟨b,off,rfl,hbB,hat⟩:=HR.out.2 (by omega);obtain⟨y,hy⟩:∃y,ps[k]?=some y:=⟨_,ZZc (by rw[HR.out.len];exact hlt)⟩
    have hst:=hid (ZfM hy);have hs1:=HSZ.out (k+1);rw[hst.out]at hs1;obtain⟨ka,kn,kc,va,vn,vc,h0,h1,h2,h3,h4,h5⟩:=(hat k y hy).keep hbB (fun b o hbb=>hb.out.cell (p:=⟨b,o,none⟩) (ZZd hbb hB));rw[h2.len,h4.len]at hst hs1;clear hat hy h2 h4;have HN:=hid (hb.out.alloc hb.out.size (.cells #[.slice ka kn kc,.slice va vn vc] 65 (0,0)));obtain⟨h3a,h3b⟩:=h3;obtain⟨h5a,h5b⟩:=h5;unfold maxLen at h3b h5b;generalize szP (ps.take k)=s at hsk hst hs1 ⊢;have hk64:(k:Int)<(n:Int):=by omega
    go_wp2;go_roundw
    case rel=>exact⟨k+1,by omega,by go_num,by rw[hst.out];congr 1;omega,HN⟩
    case measure=>simp[intOf];omega
  · obtain rfl:k=n:=by omega
    rw[<-HALL.out];go_wp2;go_ret;exact⟨rfl,hb.out⟩
theorem ZR.kept{w wr:World}{n c:Nat}{d x:Int}{A:Option Addr}(hb:Below (w.alloc (Zax d x A n c)).heap.size (w.alloc (Zax d x A n c)) wr):ZR wr w.heap.size d x A n c/\Below w.heap.size w wr:=
 ⟨(ZR.new w d x A n c).below hb,((Below.refl w.heap.size w).alloc (ZZe _) _).trans (hb.mono (by simp))⟩
theorem Zg6{w:World}{B n:Nat}{A:Option Addr}{ps:List KV}(d x:Int)(c:Nat)(hr:Zaa w B A n ps)(hB:B<=w.heap.size)(hm:n<=maxLen)(hsz:szP ps<=4611686018427387904) :
 Calls prog 217 #[.agg #[.int .i64 d,.int .i64 x,.slice A n c]] w fun e w'=>e=.returned (.bool (decide (8+szP ps<=240)))/\Below w.heap.size w w':=by
 have hX:Below w.heap.size w (w.alloc (Zax d x A n c)):=(Below.refl _ _).alloc (ZZe _) _;have HS:=hid (Zmc d x c (hr.below (hX.mono hB)) (ZZf hB hX.size) hm hsz);have HX:=hid hX;obtain⟨x0,x1,x2,_⟩:=(ZR.new w d x A n c).cells
 have hd:decide (8+szP ps<=240)=decide (((8+szP ps:Nat):Int)<=240):=by
  congr 1
  exact propext (by omega)
 rw[hd];clear hr hd hX;generalize 8+szP ps=s at HS ⊢
 unfold Zax at *
 go_enter func217,ntmps217;go_wp2_with fail;refine HS.out.mono ?_;rintro e w'⟨rfl,hb⟩;have HE:=hid (HX.out.trans (hb.mono HX.out.size));clear hb x0 x1 x2;go_wp2;go_ret;exact⟨rfl,HE.out⟩
end Go.Proofs.YtlmkdmdbpopnhaaGreatDoor
