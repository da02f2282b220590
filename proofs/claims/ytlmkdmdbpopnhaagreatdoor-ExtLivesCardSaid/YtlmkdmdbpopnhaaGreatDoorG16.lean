/- BkB, BkC, Blk, BkD, BkE, BkF. Conditions: in each theorem. -/
import Derived.Test.YtlmkdmdbpopnhaaGreatDoorG15
import Derived.Test.YtlmkdmdbpopnhaaGreatDoorG5
import Derived.Test.YtlmkdmdbpopnhaaGreatDoorG1
import Derived.BigQuiet
import Derived.Laws.CopyOwn
import Derived.Deep.RegionLaw
import Derived.Deep.RegionHeld3
import Derived.Lib.BufferWrite
set_option maxHeartbeats 6400000
set_option maxRecDepth 100000
set_option linter.unusedVariables false
open Go.Proofs.Tryz
open Go.Lib (hid)
namespace Go.Proofs.YtlmkdmdbpopnhaaGreatDoor
open Go.RowKit
theorem Zo2(w:World)(u v:Value):(w.alloc (.cells #[u,v] 65 (0,0))).cell? ⟨w.heap.size,0,none⟩=some u/\(w.alloc (.cells #[u,v] 65 (0,0))).cell? ⟨w.heap.size,1,none⟩=some v:=by
 have h:=heap_alloc_new w (.cells #[u,v] 65 (0,0))
 constructor <;> (rw[cell_of_row _ _ _ _ _ (0,0) h];rfl)
theorem Zny{w:World}{B kn kc:Nat}{ka:Option Addr}{k key:List Int}(v:Value)(kx:Addr)(KA:Option Addr)(Kn Kc:Nat)(hk:RB w B ka kn k)(hB:B<=w.heap.size)(hx:w.cell? kx=some (.slice KA Kn Kc))(hkey:RB w B KA Kn key) :
 Calls prog 218 #[.agg #[.slice ka kn kc,v],.pointer (some kx)] w fun e w'=>e=.returned (.bool (decide (k=key)))/\Below w.heap.size w w':=by
 have hX:Below w.heap.size w (w.alloc (.cells #[.slice ka kn kc,v] 65 (0,0))):=(Below.refl _ _).alloc (ZZe _) _;obtain⟨x0,x1⟩:=Zo2 w (.slice ka kn kc) v;have hx':=(World.cell?_alloc_lt w (.cells #[.slice ka kn kc,v] 65 (0,0)) kx (World.block_lt_of_cell? _ _ hx)).trans hx;have HE:=hid (ZdI kc Kc (hk.below (hX.mono hB)) (hkey.below (hX.mono hB)));have HX:=hid hX;clear hX hk hkey hx;go_enter func218,ntmps218;go_wp2_with fail;refine HE.out.mono ?_;rintro e w'⟨rfl,rfl⟩;clear x0 x1 hx';go_wp2;go_ret;exact⟨rfl,HX.out⟩
theorem Zki{w:World}{B n:Nat}{A:Option Addr}{ps:List KV}{key:List Int}(c:Nat)(kx:Addr)(KA:Option Addr)(Kn Kc:Nat)(hr:Zaa w B A n ps)(hm:n<=maxLen)(hB:B<=w.heap.size)(hx:w.cell? kx=some (.slice KA Kn Kc))(hkey:RB w B KA Kn key) :
 Calls prog 134 #[.slice A n c,.func (.func 218) #[] #[.pointer (some kx)]] w fun e w'=>e=.returned (.int .i64 (findI ps key))/\Below w.heap.size w w':=by
 unfold maxLen at hm;have HKX:=hid (ZZg hx (ZZg (World.block_lt_of_cell? _ _ hx) hkey));have HR:=hid hr;clear hr hx hkey;go_enter func134,ntmps134;go_wp2_with fail
 go_loopw[8] (fun i wr=>∃j:Nat,j<=n/\i=.int .i64 j/\Hid (∀(m:Nat) (y:KV),m<j->ps[m]?=some y->y.1≠key)/\Hid (Below w.heap.size w wr)) (fun i _=>n-(intOf i).toNat)
 case atStart=>exact⟨0,Nat.zero_le _,rfl,hid (fun m y hm=>absurd hm (by omega)),hid (Below.refl _ _)⟩
 case round=>
  obtain⟨j,hj,rfl,hbef,hbw⟩:=hrel;by_cases hlt:j<n
  · obtain⟨b,off,rfl,hb,hat⟩:=HR.out.2 (by omega);obtain⟨y,hy⟩:∃y,ps[j]?=some y:=⟨_,ZZc (by rw[HR.out.len];exact hlt)⟩
    obtain⟨ka,kn,kc,va,vn,vc,h0,h1,h2,h3,h4,h5⟩:=(hat j y hy).keep hb (fun b o hbb=>hbw.out.cell (p:=⟨b,o,none⟩) (ZZd hbb hB));have HF:=hid (Zny (kc:=kc) (.slice va vn vc) kx KA Kn Kc h2 (ZZf hB hbw.out.size) ((hbw.out.cell HKX.out.2.1).trans HKX.out.1) (HKX.out.2.2.below (hbw.out.mono hB)));have HY:=hid hy;clear hat hy h2 h3 h4 h5;have hlt':(j:Int)<(n:Int):=by omega
    by_cases hk:y.1=key
    · rw[decide_eq_true hk]at HF;have HEX:=hid (ZhN HY.out hk hbef.out);clear hk;go_wp2_with fail;refine HF.out.mono ?_;rintro e w'⟨rfl,hb'⟩;have HE:=hid (hbw.out.trans (hb'.mono hbw.out.size));clear hb' h0 h1;go_wp2;go_ret;rw[HEX.out];exact⟨rfl,HE.out⟩
    · rw[decide_eq_false hk]at HF
      have hn:=hid (fun(m:Nat) (z:KV) (hm:m<j+1)=>show ps[m]?=some z->z.1≠key by
       intro hz;rcases Nat.lt_or_ge m j with h|h
       · exact hbef.out m z h hz
       · obtain rfl:m=j:=by omega
         rw[HY.out]at hz;cases hz
         exact hk)
      clear hk;go_wp2_with fail;refine HF.out.mono ?_;rintro e w'⟨rfl,hb'⟩;have HE:=hid (hbw.out.trans (hb'.mono hbw.out.size));clear hb' h0 h1;go_wp2;go_roundw
      case rel=>exact⟨j+1,by omega,by go_num,hn,HE⟩
      case measure=>simp[intOf];omega
  · obtain rfl:j=n:=by omega
    have HEX:=hid (ZeU (ps:=ps) (key:=key) (fun m y hy=>hbef.out m y (by have:=(ZZb.1 hy).1;rw[HR.out.len]at this;exact this) hy));go_wp2;go_ret;rw[HEX.out];exact⟨rfl,hbw.out⟩
theorem Zg7{w:World}{B n Kn:Nat}{A KA:Option Addr}{ps:List KV}{key:List Int}(d x:Int)(c Kc:Nat)(hr:Zaa w B A n ps)(hB:B<=w.heap.size)(hm:n<=maxLen)(hkey:RB w B KA Kn key) :
 Calls prog 166 #[.agg #[.int .i64 d,.int .i64 x,.slice A n c],.slice KA Kn Kc] w fun e w'=>e=.returned (.int .i64 (findI ps key))/\Below w.heap.size w w':=by
 have hX:Below w.heap.size w ((w.alloc (Zax d x A n c)).alloc (.cells #[.slice KA Kn Kc] 55 (0,0))):=((Below.refl _ _).alloc (ZZe _) _).alloc (by simp) _;have hbx:ZR ((w.alloc (Zax d x A n c)).alloc (.cells #[.slice KA Kn Kc] 55 (0,0))) w.heap.size d x A n c:=(ZR.new w d x A n c).below ((Below.refl _ _).alloc (ZZe _) _)
 have hkx:((w.alloc (Zax d x A n c)).alloc (.cells #[.slice KA Kn Kc] 55 (0,0))).cell? ⟨w.heap.size+1,0,none⟩=some (.slice KA Kn Kc):=by
  have h:=heap_alloc_new (w.alloc (Zax d x A n c)) (.cells #[.slice KA Kn Kc] 55 (0,0));have e:(w.alloc (Zax d x A n c)).heap.size=w.heap.size+1:=by simp
  rw[e]at h;rw[cell_of_row _ _ _ _ _ (0,0) h];rfl
 have HF:=hid (Zki c ⟨w.heap.size+1,0,none⟩ KA Kn Kc (hr.below (hX.mono hB)) hm (ZZf hB hX.size) hkx (hkey.below (hX.mono hB)));obtain⟨x0,x1,x2,_⟩:=hbx.cells;have HX:=hid hX;clear hX hbx hkx hr hkey
 unfold Zax at *
 go_enter func166,ntmps166;go_wp2_with fail;refine HF.out.mono ?_;rintro e w'⟨rfl,hb⟩;have HE:=hid (HX.out.trans (hb.mono HX.out.size));clear hb x0 x1 x2;go_wp2;go_ret;exact⟨rfl,HE.out⟩
theorem Zmd{ps:List KV}{j:Nat}{y:KV}(hy:ps[j]?=some y):(y.1.length<1->Zmb ps j=false)/\(32<y.1.length->Zmb ps j=false)/\(120<y.2.length->Zmb ps j=false)/\(findI ps y.1≠(j:Int)->Zmb ps j=false)/\(1<=y.1.length->y.1.length<=32->y.2.length<=120->findI ps y.1=(j:Int)->Zmb ps j=true):=by
 rw[Zf6 hy];refine⟨fun h=>?_,fun h=>?_,fun h=>?_,fun h=>?_,fun h1 h2 h3 h4=>?_⟩
 · simp;omega
 · simp;omega
 · simp;omega
 · simp[h]
 · simp[h4];omega
theorem ZgV{w:World}{B n:Nat}{A:Option Addr}{ps:List KV}(d x:Int)(c:Nat)(hr:Zaa w B A n ps)(hB:B<=w.heap.size)(hm:n<=maxLen) :
 Calls prog 235 #[.agg #[.int .i64 d,.int .i64 x,.slice A n c]] w fun e w'=>e=.returned (.bool (pairsB ps))/\Below w.heap.size w w':=by
 have HM:=hid hm;unfold maxLen at hm;have HR:=hid hr;have HK:=hid (fun wr=>ZR.kept (w:=w) (wr:=wr) (n:=n) (c:=c) (d:=d) (x:=x) (A:=A));clear hr;obtain⟨x0,x1,x2,_⟩:=(ZR.new w d x A n c).cells;unfold Zax at HK x0 x1 x2;go_enter func235,ntmps235;go_wp2_with fail;clear x0 x1 x2
 go_loopw[8] (fun i wr=>∃j:Nat,j<=n/\i=.int .i64 j/\Hid (∀m,m<j->Zmb ps m=true)/\Hid (Below (w.alloc (.cells #[.int .i64 d,.int .i64 x,.slice A n c] 102 (0,0))).heap.size (w.alloc (.cells #[.int .i64 d,.int .i64 x,.slice A n c] 102 (0,0))) wr)) (fun i _=>n-(intOf i).toNat)
 case atStart=>exact⟨0,Nat.zero_le _,rfl,hid (fun m hm=>absurd hm (by omega)),hid (Below.refl _ _)⟩
 case round=>
  obtain⟨j,hj,rfl,hbef,hb0⟩:=hrel;by_cases hlt:j<n
  · obtain⟨b,off,rfl,hb,hat⟩:=HR.out.2 (by omega);obtain⟨y,hy⟩:∃y,ps[j]?=some y:=⟨_,ZZc (by rw[HR.out.len];exact hlt)⟩
    obtain⟨ka,kn,kc,va,vn,vc,h0,h1,h2,⟨h3a,h3b⟩,h4,⟨h5a,h5b⟩⟩:=(hat j y hy).keep hb (fun b o hbb=>(HK.out wr hb0.out).2.cell (p:=⟨b,o,none⟩) (ZZd hbb hB));have hb1:=hb0.out.alloc hb0.out.size (.cells #[.slice ka kn kc,.slice va vn vc] 65 (0,0));have hw1:=(HK.out _ hb1).2;have hk1:RB (wr.alloc (.cells #[.slice ka kn kc,.slice va vn vc] 65 (0,0))) B ka kn y.1:=h2.alloc (ZZf hB (HK.out wr hb0.out).2.size) _;have HF:=hid (Zg7 d x c kc (HR.out.below (hw1.mono hB)) (ZZf hB hw1.size) HM.out hk1);obtain⟨x0,x1,x2,_⟩:=(HK.out _ hb1).1.cells;have HB1:=hid hb1;have ho:=Zmd hy;rw[h2.len,h4.len]at ho;obtain⟨o1,o2,o3,o4,o5⟩:=ho;have HO:=hid (ZZg (fun h:Zmb ps j=false=>ZiL (by rw[HR.out.len];exact hlt) h) (ZZg o1 (ZZg o2 (ZZg o3 (ZZg o4 o5)))));unfold maxLen at h3b h5b;clear o1 o2 o3 o4 o5 hat hy h2 h4 hb1 hw1 hk1;have hlt':(j:Int)<(n:Int):=by omega
    by_cases g1:kn<1
    · have HE:=hid (HO.out.1 (HO.out.2.1 g1));have g1':(kn:Int)<1:=by omega
      clear x0 x1 x2;go_wp2;go_ret;rw[HE.out];exact⟨rfl,(HK.out _ HB1.out).2⟩
    by_cases g2:32<kn
    · have HE:=hid (HO.out.1 (HO.out.2.2.1 g2));have g1':¬(kn:Int)<1:=by omega
      have g2':32<(kn:Int):=by omega
      clear x0 x1 x2;go_wp2;go_ret;rw[HE.out];exact⟨rfl,(HK.out _ HB1.out).2⟩
    have g1':¬(kn:Int)<1:=by omega
    have g2':¬32<(kn:Int):=by omega
    by_cases g3:120<vn
    · have HE:=hid (HO.out.1 (HO.out.2.2.2.1 g3));have g3':120<(vn:Int):=by omega
      clear x0 x1 x2;go_wp2;go_ret;rw[HE.out];exact⟨rfl,(HK.out _ HB1.out).2⟩
    have g3':¬120<(vn:Int):=by omega
    by_cases g4:findI ps y.1=(j:Int)
    · have HN:=hid (fun m (hm:m<j+1)=>show Zmb ps m=true by
       rcases Nat.lt_or_ge m j with h|h
       · exact hbef.out m h
       · obtain rfl:m=j:=by omega
         exact HO.out.2.2.2.2.2 (by omega) (by omega) (by omega) g4)
      rw[g4]at HF;clear g4;go_wp2_with fail;refine HF.out.mono ?_;rintro e w'⟨rfl,hb'⟩;have HE:=hid (HB1.out.trans (hb'.mono HB1.out.size));clear hb' h0 h1 x0 x1 x2;go_wp2;go_roundw
      case rel=>exact⟨j+1,by omega,by go_num,HN,HE⟩
      case measure=>simp[intOf];omega
    · have HE:=hid (HO.out.1 (HO.out.2.2.2.2.1 g4));have gb:=Zfn ps y.1;have hne:(findI ps y.1 != (j:Int))=true:=by simpa using g4
      generalize findI ps y.1=f at HF hne;clear g4 gb;go_wp2_with fail;refine HF.out.mono ?_;rintro e w'⟨rfl,hb'⟩;have HE2:=hid ((HK.out _ HB1.out).2.trans (hb'.mono (HK.out _ HB1.out).2.size));clear hb' h0 h1 x0 x1 x2;go_wp2;go_ret;rw[HE.out];exact⟨rfl,HE2.out⟩
  · obtain rfl:j=n:=by omega
    have HE:=hid (Zf7 (ps:=ps) (fun i hi=>hbef.out i (by rw[HR.out.len]at hi;exact hi)));go_wp2;go_ret;rw[HE.out];exact⟨rfl,(HK.out _ hb0.out).2⟩
theorem Zf8{w:World}{B n:Nat}{A:Option Addr}{ps:List KV}(d x:Int)(c:Nat)(hr:Zaa w B A n ps)(hB:B<=w.heap.size)(hm:n<=maxLen)(hsz:szP ps<=4611686018427387904) :
 Calls prog 206 #[.agg #[.int .i64 d,.int .i64 x,.slice A n c]] w fun e w'=>e=.returned (.bool (ZD ⟨d,x,ps⟩))/\Below w.heap.size w w':=by
 have HK:=hid (fun wr=>ZR.kept (w:=w) (wr:=wr) (n:=n) (c:=c) (d:=d) (x:=x) (A:=A));have HR:=hid (ZZg hr (ZZg hB (ZZg hm hsz)));have hF:=Zg6 d x c (hr.below ((HK.out _ (Below.refl _ _)).2.mono hB)) (ZZf hB (HK.out _ (Below.refl _ _)).2.size) hm hsz;have HP:=hid (fun wr (hb:Below (w.alloc (Zax d x A n c)).heap.size (w.alloc (Zax d x A n c)) wr)=>ZgV d x c (hr.below ((HK.out _ hb).2.mono hB)) (ZZf hB (HK.out _ hb).2.size) hm);have HF:=hid hF;obtain⟨x0,x1,x2,_⟩:=(ZR.new w d x A n c).cells;have hmay:ZD ⟨d,x,ps⟩=(decide (8+szP ps<=240)&&decide (0<=d)&&decide (d<=10)&&Zj x 4&&pairsB ps):=rfl;rw[hmay];clear hmay hr hF hB hm hsz;generalize decide (8+szP ps<=240)=b1 at HF;generalize g2:decide (0<=d)=b2;generalize g3:decide (d<=10)=b3;generalize hr4:Zj x 4=b4;generalize pairsB ps=b5 at HP;have HR4:=hid hr4;clear hr4
 unfold Zax at *
 go_enter func206,ntmps206;go_wp2_with fail;refine HF.out.mono ?_;rintro e w1⟨rfl,hb⟩;have HB:=hid hb;clear hb x0 x1 x2 HF;obtain⟨x0,x1,x2,_⟩:=(HK.out _ HB.out).1.cells;cases b1
 · clear x0 x1 x2;go_wp2;go_ret;exact⟨rfl,(HK.out _ HB.out).2⟩
 cases b2
 · go_wp2;go_ret;exact⟨rfl,(HK.out _ HB.out).2⟩
 cases b3
 · go_wp2;go_ret;exact⟨rfl,(HK.out _ HB.out).2⟩
 cases b4
 · go_wp2_with fail;refine(ZfK _ _ _ HR4.out).mono ?_;rintro e w2⟨rfl,rfl⟩;go_wp2;go_ret;exact⟨rfl,(HK.out _ HB.out).2⟩
 go_wp2_with fail;refine(ZcB _ _ _ HR4.out).mono ?_;rintro e w2⟨rfl,rfl⟩;go_wp2_with fail;refine(HP.out _ HB.out).mono ?_;rintro e w2⟨rfl,hb⟩;have HE:=hid ((HK.out _ HB.out).2.trans (hb.mono (HK.out _ HB.out).2.size));clear hb x0 x1 x2;go_wp2;go_ret;exact⟨rfl,HE.out⟩
def Zd2(w:World)(g:Nat)(L:List Int):Prop:=∃tl:List Value,w.heap[g]?=some (.cells ((L.map (Value.int .u8))++tl).toArray 5 (0,0))
theorem Zd2.of_own{w:World}{base g n c:Nat}{L:List Int}(h:w.ownsRow base 5 1 (.slice (some ⟨g,0,none⟩) n c) n (L.map (Value.int .u8))):Zd2 w g L:=by
 rcases h.2 with ⟨e,_⟩|⟨g',cap,cur,e,_,hb,_,_,_,htake⟩
 · cases e
 · cases e;refine⟨cur.toList.drop (n*1),?_⟩;rw[hb,<-htake,List.take_append_drop]
theorem Zd2.lt{w:World}{g:Nat}{L:List Int}(h:Zd2 w g L):g<w.heap.size:=by
 obtain⟨tl,h⟩:=h;exact(ZZa.1 h).1
theorem Zd2.rb{w:World}{g n:Nat}{L:List Int}(h:Zd2 w g L)(hn:L.length=n)(hb:Ze L):RB w w.heap.size (some ⟨g,0,none⟩) n L:=by
 refine⟨hn,hb,fun h0=>⟨g,0,rfl,h.lt,fun j hj=>?_⟩⟩;obtain⟨tl,h⟩:=h;rw[Nat.zero_add,cell_of_row w g j _ _ (0,0) h,List.getElem?_toArray,List.getElem?_append_left (by simp;omega),List.getElem?_map,ZZc (by omega)];rfl
theorem ZeV{L d:List Int}{tl:List Value}{o:Nat}(h:o+d.length<=L.length):splice ((L.map (Value.int .u8))++tl) o (d.map (Value.int .u8))=((splice L o d).map (Value.int .u8))++tl:=by
 unfold splice;rw[List.take_append_of_le_length (by simp;omega),List.length_map,List.drop_append_of_le_length (by simp;omega)];simp[List.map_take,List.map_drop,List.append_assoc]
theorem Zfo{P:Program}{ops:Array Oper}{o:Oper}{a:Act}{w:World}{K:Act->World->Prop}{Q:Exit->Act->World->Prop}{E:Prop}(hgd:o.guard=none)(d s:Operand)(dT sT:TypeId)
 (ho:o.op=.call {callee:=.builtin .copy,args:=#[d,s],argTypes:=#[dT,sT]}) (elem:TypeId) (hu:P.underlying dT=some (.slice elem)) (hsz:(P.info? elem).map (·.size)=some 1)
 (dp:Option Addr) (ad:Addr) (dLen dCap sLen sCap:Nat) (hd:a.eval d=.slice dp dLen dCap) (hs:a.eval s=.slice (some ad) sLen sCap)
 (g off:Nat) (hdp:dp=some ⟨g,off,none⟩) (cur:List Value) (t:TypeId) (hg:w.heap[g]?=some (.cells cur.toArray t (0,0))) (cs:List Value) (hn:cs.length=Nat.min sLen dLen)
 (hsrc:∀j v,cs[j]?=some v->w.cell? (ad.add j)=some v)
 (hfit:off+cs.length<=cur.length) (h1:∀v∈cs,v.oneCell'=true)
 (h:∀w',Hid (w'.heap[g]?=some (.cells (splice cur off cs).toArray t (0,0)))->Hid (Zf (fun j=>j=g) w w')->K (a.put o.dst (goInt cs.length)) w') :
 if Region.wanted o (yielded ops a.tmps)=true then Oper.wp P o a w K Q else E:=by
 have hw:Region.wanted o (yielded ops a.tmps)=true:=by simp[Region.wanted,hgd]
 rw[if_pos hw];subst hdp;have hrun:=run_copy_row (P:=P) w dT sT o.type elem g off dLen dCap ad sLen sCap cur.toArray t cs hu hsz hg hn hsrc (by simpa using hfit) h1;unfold Oper.wp;simp[execOp,ho,resolve,invoke,builtin,hd,hs,hrun,Result.andThen];exact h _ (show _=_ by simpa[splice] using setRow_heap w g _ _ t _ hg) (hid ⟨rfl,rfl,rfl,by simp[World.setRow],fun k hk hne=>setRow_other w g k _ (fun e=>hne e)⟩)
theorem Zf9:(prog.info? 5).map (·.size)=some 1:=by kernel_rfl
theorem ZeW{L d e:List Int}{a:Nat}(h:a+d.length+e.length<=L.length):splice (splice L a d) (a+d.length) e=splice L a (d++e):=by
 have hP:(L.take a++d).length=a+d.length:=by simp;omega
 have e0:splice L a d=(L.take a++d)++L.drop (a+d.length):=by unfold splice;simp[List.append_assoc]
 have h1:((L.take a++d)++L.drop (a+d.length)).take (a+d.length)=L.take a++d:=List.take_left' hP
 have h2:((L.take a++d)++L.drop (a+d.length)).drop (a+d.length+e.length)=L.drop (a+(d++e).length):=by
  rw[<-List.drop_drop,List.drop_left' hP,List.drop_drop,List.length_append,Nat.add_assoc]
 rw[e0];unfold splice;rw[h1,h2];simp[List.append_assoc]
theorem Zme(L:List Int)(a:Nat):splice L a []=L:=by unfold splice;simp
theorem Zf.then_{F:Nat->Prop}{a b c:World}(h:Zf F a b)(k:Zf F b c):Zf F a c:=
 ⟨k.os.trans h.os,k.tape.trans h.tape,k.output.trans h.output,ZZf h.size k.size,fun j hj hn=>(k.block j (ZZd hj h.size) hn).trans (h.block j hj hn)⟩
theorem Zd3{P:Program}{w:World}{ops:Array Oper}{rest:List Oper}{o:Oper}{a:Act}{Q:Exit->Act->World->Prop}(hgd:o.guard=none)(d s:Operand)(dT sT:TypeId)
 (ho:o.op=.call {callee:=.builtin .copy,args:=#[d,s],argTypes:=#[dT,sT]}) (elem:TypeId) (hu:P.underlying dT=some (.slice elem)) (hsz:(P.info? elem).map (·.size)=some 1)
 (dp sp:Option Addr) (dLen dCap sLen sCap:Nat) (hd:a.eval d=.slice dp dLen dCap) (hs:a.eval s=.slice sp sLen sCap)
 (g off:Nat) (cur:List Value) (t:TypeId) (hg:w.heap[g]?=some (.cells cur.toArray t (0,0))) (cs:List Value) (hn:cs.length=Nat.min sLen dLen)
 (hpos:0<cs.length->dp=some ⟨g,off,none⟩/\∃ad,sp=some ad/\∀j v,cs[j]?=some v->w.cell? (ad.add j)=some v)
 (hfit:off+cs.length<=cur.length) (h1:∀v∈cs,v.oneCell'=true)
 (h:∀w',Hid (w'.heap[g]?=some (.cells (splice cur off cs).toArray t (0,0)))->Hid (Zf (fun j=>j=g) w w')->wpList P ops Q rest (a.put o.dst (goInt cs.length)) w') :
 wpList P ops Q (o::rest) a w:=by
 by_cases h0:cs.length=0
 · obtain rfl:cs = []:=List.eq_nil_of_length_eq_zero h0;refine wpList_copy_nothing hgd d s dT sT ho elem hu hsz dp sp dLen dCap sLen sCap hd hs (by simpa using hn.symm) ?_;exact h w (show _=_ by simpa[splice] using hg) (hid (Zf.refl _ _))
 · obtain⟨rfl,ad,rfl,hsrc⟩:=hpos (by omega);refine wpList_copy_own hgd d s dT sT ho elem hu hsz g off dLen dCap ad sLen sCap hd hs cur.toArray t hg cs hn hsrc (by simpa using hfit) h1 ?_;exact h _ (show _=_ by simpa[splice] using setRow_heap w g _ _ t _ hg) (hid ⟨rfl,rfl,rfl,by simp[World.setRow],fun k hk hne=>setRow_other w g k _ (fun e=>hne e)⟩)
def ZiM(w:World)(g b off:Nat)(l:List Int):Prop:=
 ∃(D:Option Addr) (m c:Nat),w.cell? ⟨b,off,none⟩=some (.slice D m c)/\m<=maxLen/\m<=c/\RB w w.heap.size D m l/\∀x,D=some x->0<m->x.block≠g
def Znz(w:World)(g:Nat)(A:Option Addr)(n:Nat)(pl:List (List Int)):Prop:=
 pl.length=n/\(0<n->∃b off,A=some ⟨b,off,none⟩/\b≠g/\b<w.heap.size/\∀j l,pl[j]?=some l->ZiM w g b (off+j) l)
theorem ZiM.keep{w w':World}{g b off:Nat}{l:List Int}(h:ZiM w g b off l)(hb:b<w.heap.size)(hbg:b≠g)(ht:Zf (fun j=>j=g) w w'):ZiM w' g b off l:=by
 obtain⟨D,m,c,h0,h1,h2,h3,h4⟩:=h;refine⟨D,m,c,(World.cell?_of_block (a:=⟨b,off,none⟩) (ht.block b hb hbg)).trans h0,h1,h2,⟨h3.1,h3.2.1,fun hm=>?_⟩,h4⟩;obtain⟨bb,o,e,hbb,hc⟩:=h3.2.2 hm;have hne:bb≠g:=h4 _ e hm;exact⟨bb,o,e,ZZd hbb ht.size,fun j hj=>(World.cell?_of_block (a:=⟨bb,o+j,none⟩) (ht.block bb hbb hne)).trans (hc j hj)⟩
theorem ZiN{w:World}{g a n c:Nat}{A:Option Addr}{L:List Int}{pl:List (List Int)}(hp:w.heap[g]?=some (.cells (L.map (Value.int .u8)).toArray 5 (0,0)))(hL:L.length=240)(hr:Znz w g A n pl)(hm:n<=maxLen)(ha:a+pl.flatten.length<=240) :
 Calls prog 207 #[.slice (some ⟨g,0,none⟩) 240 240,.int .i64 (a:Int),.slice A n c] w fun e w'=>e=.returned (.int .i64 ((a+pl.flatten.length:Nat):Int))/\w'.heap[g]?=some (.cells ((splice L a pl.flatten).map (Value.int .u8)).toArray 5 (0,0))/\Zf (fun j=>j=g) w w':=by
 unfold maxLen at hm;have hgl:g<w.heap.size:=(ZZa.1 hp).1;have HLL:=hid hL;have HR:=hid hr;have HA:=hid ha;have HP:=hid hp;clear hL hr hp ha;go_enter func207,ntmps207;go_wp2_with fail
 go_loopw[1,11] (fun av i wr=>∃k:Nat,k<=n/\i=.int .i64 k/\av=.int .i64 ((a+(pl.take k).flatten.length:Nat):Int)/\Hid (wr.heap[g]?=some (.cells ((splice L a (pl.take k).flatten).map (Value.int .u8)).toArray 5 (0,0)))/\Hid (Zf (fun j=>j=g) w wr)) (fun _ i _=>n-(intOf i).toNat)
 case atStart=>
  refine⟨0,Nat.zero_le _,rfl,by simp,hid ?_,hid (Zf.refl _ _)⟩;rw[List.take_zero,List.flatten_nil,Zme];exact HP.out
 case round=>
  obtain⟨k,hk,rfl,rfl,hblk,htc⟩:=hrel;by_cases hlt:k<n
  · have hlt':(k:Int)<(n:Int):=by omega
    obtain⟨b,off,rfl,hbg,hb,hat⟩:=HR.out.2 (by omega);obtain⟨y,hy⟩:∃y,pl[k]?=some y:=⟨_,ZZc (by rw[HR.out.1];exact hlt)⟩
    obtain⟨D,m,cm,h0,h1,h2,h3,h4⟩:=(hat k y hy).keep hb hbg htc.out
    have hst:(pl.take (k+1)).flatten=(pl.take k).flatten++y:=by
     obtain⟨hk',rfl⟩:=ZZb.1 hy;rw[List.take_succ_eq_append_getElem hk',List.flatten_append];simp
    have hle:(pl.take (k+1)).flatten.length<=pl.flatten.length:=by
     have:pl.flatten=(pl.take (k+1)).flatten++(pl.drop (k+1)).flatten:=by rw[<-List.flatten_append,List.take_append_drop]
     rw[this,List.length_append];omega
    have HST:=hid hst;rw[hst,List.length_append,h3.len]at hle;have hfit:a+(pl.take k).flatten.length+m<=240:=by have:=HA.out;omega
    have HLS:=hid (show(splice L a (pl.take k).flatten).length=240 from by
     rw[length_splice _ _ _ (by rw[HLL.out];omega)]
     exact HLL.out)
    have HNX:=hid (show splice (splice L a (pl.take k).flatten) (a+(pl.take k).flatten.length) y=splice L a (pl.take (k+1)).flatten from by
     rw[ZeW (by rw[h3.len,HLL.out];omega),HST.out])
    have HAK:=hid (show a+(pl.take k).flatten.length+m=a+(pl.take (k+1)).flatten.length by rw[HST.out,List.length_append,h3.len,Nat.add_assoc]);have H3:=hid h3;clear hat hy hst hle h3;generalize splice L a (pl.take k).flatten=Lk at hblk HLS HNX;generalize a+(pl.take k).flatten.length=ak at hfit HNX HAK ⊢;have hI3:IntKind.i64.wrap ((ak:Int)+(m:Int))=((ak+m:Nat):Int):=by unfold IntKind.wrap;simp[IntKind.bits,IntKind.signed];omega
    have hI1:(0:Int)<=(ak:Int):=by omega
    have hI2:(ak:Int)<=240:=by omega
    have hfin:∀w2:World,Hid (w2.heap[g]?=some (.cells (splice (Lk.map (Value.int .u8)) ak (y.map (Value.int .u8))).toArray 5 (0,0)))->Hid (Zf (fun j=>j=g) wr w2)->w2.heap[g]?=some (.cells ((splice L a (pl.take (k+1)).flatten).map (Value.int .u8)).toArray 5 (0,0))/\Zf (fun j=>j=g) w w2:=fun w2 q1 q2=>by
     have:=q1.out
     have hsm:=ZeV (L:=Lk) (d:=y) (tl:=[]) (o:=ak) (by rw[H3.out.len,HLS.out];omega);rw[List.append_nil,List.append_nil]at hsm;rw[hsm,HNX.out]at this;exact⟨this,htc.out.then_ q2.out⟩
    have HFIN:=hid hfin;clear hfin;rcases Nat.lt_or_ge ak 240 with h240|h240
    · have hne:¬(ak=240):=by omega
      go_wp2_with (with_reducible refine Zd3 rfl (.tmp 18) (.tmp 19) 55 55 rfl 5 underlying55 Zf9 (some ⟨g,ak,none⟩) D (240-ak) (240-ak) m cm rfl rfl g ak (Lk.map (Value.int .u8)) 5 hblk.out (y.map (Value.int .u8)) (by rw[List.length_map,H3.out.len];exact(Nat.min_eq_left (by omega)).symm) (fun hp=>⟨rfl,ZhS H3.out hp⟩) (by rw[List.length_map,List.length_map,H3.out.len,HLS.out];omega) (Zai _) ?_;intro w2 hblk2 htc2)
      have HE:=hid (HFIN.out w2 hblk2 htc2);clear hblk htc hblk2 htc2 HFIN h0;go_roundw
      case rel=>exact⟨k+1,by omega,by go_num,by rw[H3.out.len,<-HAK.out,Zp3 (by omega) (by omega)];congr 1,hid HE.out.1,hid HE.out.2⟩
      case measure=>simp[intOf];omega
    · obtain rfl:ak=240:=by omega
      obtain rfl:m=0:=by omega
      go_wp2_with (with_reducible refine Zd3 rfl (.tmp 18) (.tmp 19) 55 55 rfl 5 underlying55 Zf9 _ D 0 0 0 cm rfl rfl g 240 (Lk.map (Value.int .u8)) 5 hblk.out (y.map (Value.int .u8)) (by rw[List.length_map,H3.out.len];decide) (fun hp=>absurd hp (by rw[List.length_map,H3.out.len];omega)) (by rw[List.length_map,List.length_map,H3.out.len,HLS.out];omega) (Zai _) ?_;intro w2 hblk2 htc2)
      have HE:=hid (HFIN.out w2 hblk2 htc2);clear hblk htc hblk2 htc2 HFIN h0;go_roundw
      case rel=>exact⟨k+1,by omega,by go_num,by rw[H3.out.len,<-HAK.out,Zp3 (by omega) (by omega)];congr 1,hid HE.out.1,hid HE.out.2⟩
      case measure=>simp[intOf];omega
  · obtain rfl:k=n:=by omega
    have e:pl.take k=pl:=List.take_of_length_le (by rw[HR.out.1];exact ZZe _);rw[e]at hblk ⊢;clear e;go_wp2;go_ret;exact⟨rfl,hblk.out,htc.out⟩
theorem Z7(x:Int)(k:Nat)(w:World)(hs:Zj x (k:Int)=true)(hk8:k<=8)(hx : -9223372036854775808<=x/\x<=9223372036854775807) :
 Calls prog 196 #[.slice none 0 0,.int .i64 x,.int .i64 (k:Int)] w fun e w'=>∃g,e=.returned (.slice (some ⟨g,0,none⟩) k k)/\w.heap.size<=g/\RB w' w'.heap.size (some ⟨g,0,none⟩) k (Zr x k)/\Below w.heap.size w w':=by
 refine(ZhU none 0 0 0 [] x (k:Int) w RB.nil_ (Nat.zero_le _) (ZZe _) (by decide) hx.1 hx.2).mono ?_;rintro e w'⟨v,rfl,⟨g,rfl,hg,hh⟩,hb⟩
 have e1:ZhT [] x (k:Int)=Zr x k:=by
  unfold ZhT;rw[if_pos hs,Int.toNat_natCast,List.nil_append]
 rw[e1]at hh;refine⟨g,by rw[e1,Zc],hg,⟨Zc _ _,ZW _ _,fun _=>⟨g,0,rfl,(ZZa.1 hh).1,fun j hj=>?_⟩⟩,hb⟩;rw[Nat.zero_add,cell_of_row w' g j _ _ (0,0) hh,List.getElem?_toArray,List.getElem?_map,ZZc (by rw[Zc];exact hj)];rfl
structure ZhO(w:World)(g:Nat)(A:Option Addr)(n c:Nat)(l:List Int):Prop where
 hm:n<=maxLen
 hc:n<=c
 hr:RB w w.heap.size A n l
 hg:∀x,A=some x->0<n->x.block≠g
theorem ZhO.below{w w':World}{g n c:Nat}{A:Option Addr}{l:List Int}(h:ZhO w g A n c l)(hb:Below w.heap.size w w'):ZhO w' g A n c l:=⟨h.hm,h.hc,(h.hr.below hb).more hb.size,h.hg⟩
theorem ZhO.at_{w w':World}{g n c b off:Nat}{A:Option Addr}{l:List Int}(h:ZhO w g A n c l)(hb:Below w.heap.size w w')(hcell:w'.cell? ⟨b,off,none⟩=some (.slice A n c)):ZiM w' g b off l:=
 ⟨A,n,c,hcell,h.hm,h.hc,(h.hr.below hb).more hb.size,h.hg⟩
theorem Zq9{w:World}{g n1 n2 n3 c1 c2 c3:Nat}{A1 A2 A3:Option Addr}{l1 l2 l3:List Int}(T:TypeId)(hg:g<w.heap.size)(h1:ZhO w g A1 n1 c1 l1)(h2:ZhO w g A2 n2 c2 l2)(h3:ZhO w g A3 n3 c3 l3):Znz (w.alloc (.cells #[.slice A1 n1 c1,.slice A2 n2 c2,.slice A3 n3 c3] T (0,0))) g (some ⟨w.heap.size,0,none⟩) 3 [l1,l2,l3]:=by
 have hX:Below w.heap.size w (w.alloc (.cells #[.slice A1 n1 c1,.slice A2 n2 c2,.slice A3 n3 c3] T (0,0))):=(Below.refl _ _).alloc (ZZe _) _;have hh:=heap_alloc_new w (.cells #[.slice A1 n1 c1,.slice A2 n2 c2,.slice A3 n3 c3] T (0,0));refine⟨rfl,fun _=>⟨w.heap.size,0,rfl,by omega,by simp,fun j l hj=>?_⟩⟩
 match j,hj with
 | 0,hj=>
  obtain rfl:l1=l:=by simpa using hj
  exact h1.at_ hX (by rw[cell_of_row _ _ _ _ _ (0,0) hh];rfl)
 | 1,hj=>
  obtain rfl:l2=l:=by simpa using hj
  exact h2.at_ hX (by rw[cell_of_row _ _ _ _ _ (0,0) hh];rfl)
 | 2,hj=>
  obtain rfl:l3=l:=by simpa using hj
  exact h3.at_ hX (by rw[cell_of_row _ _ _ _ _ (0,0) hh];rfl)
theorem Zra{w:World}{g n1 n2 n3 n4 c1 c2 c3 c4:Nat}{A1 A2 A3 A4:Option Addr}{l1 l2 l3 l4:List Int}(T:TypeId)(hg:g<w.heap.size)(h1:ZhO w g A1 n1 c1 l1)(h2:ZhO w g A2 n2 c2 l2)(h3:ZhO w g A3 n3 c3 l3)(h4:ZhO w g A4 n4 c4 l4):Znz (w.alloc (.cells #[.slice A1 n1 c1,.slice A2 n2 c2,.slice A3 n3 c3,.slice A4 n4 c4] T (0,0))) g (some ⟨w.heap.size,0,none⟩) 4 [l1,l2,l3,l4]:=by
 have hX:Below w.heap.size w (w.alloc (.cells #[.slice A1 n1 c1,.slice A2 n2 c2,.slice A3 n3 c3,.slice A4 n4 c4] T (0,0))):=(Below.refl _ _).alloc (ZZe _) _;have hh:=heap_alloc_new w (.cells #[.slice A1 n1 c1,.slice A2 n2 c2,.slice A3 n3 c3,.slice A4 n4 c4] T (0,0));refine⟨rfl,fun _=>⟨w.heap.size,0,rfl,by omega,by simp,fun j l hj=>?_⟩⟩
 match j,hj with
 | 0,hj=>
  obtain rfl:l1=l:=by simpa using hj
  exact h1.at_ hX (by rw[cell_of_row _ _ _ _ _ (0,0) hh];rfl)
 | 1,hj=>
  obtain rfl:l2=l:=by simpa using hj
  exact h2.at_ hX (by rw[cell_of_row _ _ _ _ _ (0,0) hh];rfl)
 | 2,hj=>
  obtain rfl:l3=l:=by simpa using hj
  exact h3.at_ hX (by rw[cell_of_row _ _ _ _ _ (0,0) hh];rfl)
 | 3,hj=>
  obtain rfl:l4=l:=by simpa using hj
  exact h4.at_ hX (by rw[cell_of_row _ _ _ _ _ (0,0) hh];rfl)
theorem ZfN{x:Int}(h:0<=x/\x<256):Zr x 1 = [x]:=by
 show []++[x%256] = [x];rw[List.nil_append,Int.emod_eq_of_lt h.1 h.2]
def ZbJ:List Int:=List.replicate 240 0
theorem Zaj:ZbJ.length=240:=List.length_replicate
theorem Zkj:ZbJ.map (Value.int .u8)=List.replicate 240 (Value.int .u8 0):=by unfold ZbJ;rw[List.map_replicate]
theorem ZiO{w:World}{g:Nat}(h:w.heap[g]?=some (.cells (ZbJ.map (Value.int .u8)).toArray 5 (0,0)))(ty:TypeId):∃w',(Builtin.copy_ #[55,9] ty #[.slice (some ⟨g,0,none⟩) 240 240,.string {data:=#[66]}]).run prog w=.ok (.int .i64 1) w'/\w'.heap[g]?=some (.cells ((splice ZbJ 0 [66]).map (Value.int .u8)).toArray 5 (0,0))/\Zf (fun j=>j=g) w w':=by
 have hrun:=Lib.run_copy_row_string (P:=prog) w 55 9 ty 5 g 0 240 240 {data:=#[66]} _ 5 underlying55 Zf9 h (by decide) (by rw[List.size_toArray,List.length_map,Zaj];decide);refine⟨_,hrun,?_,⟨rfl,rfl,rfl,by simp[World.setRow],fun k hk hne=>setRow_other w g k _ (fun e=>hne e)⟩⟩;rw[setRow_heap w g _ _ _ _ h];rfl
theorem ZR.touch{w w':World}{b g n c:Nat}{d x:Int}{A:Option Addr}(h:ZR w b d x A n c)(ht:Zf (fun j=>j=g) w w')(hne:b≠g):ZR w' b d x A n c:=(ht.block b h.cells.2.2.2 hne).trans h
theorem ZR.cells3{w:World}{g n c:Nat}{d x:Int}{A:Option Addr}(h:ZR w g d x A n c):w.cell? ⟨g,0,none⟩=some (.int .i64 d)/\w.cell? ⟨g,1,none⟩=some (.int .i64 x)/\w.cell? ⟨g,2,none⟩=some (.slice A n c):=⟨h.cells.1,h.cells.2.1,h.cells.2.2.1⟩
theorem ZR.drew{w:World}{g n c:Nat}{d x:Int}{A:Option Addr}(h:ZR w g d x A n c):ZR w.drew g d x A n c:=h
theorem Zes{w1 w2:World}{b n c:Nat}{d x:Int}{A:Option Addr}(hown2:w2.ownsRow w1.heap.size 5 1 (.slice (some ⟨w1.heap.size,0,none⟩) 240 240) 240 (madeCells (Value.int .u8 0).cells (240*1)).toList)(hb2:Below w1.heap.size w1 w2)(hmb:ZR w1 b d x A n c) :
 ∃w3,(Builtin.copy_ #[55,9] 3 #[.slice (some ⟨w1.heap.size,0,none⟩) 240 240,.string {data:=#[66]}]).run prog w2=.ok (.int .i64 1) w3/\Hid (w3.heap[w1.heap.size]?=some (.cells ((splice ZbJ 0 [66]).map (Value.int .u8)).toArray 5 (0,0))/\Zf (fun j=>j=w1.heap.size) w1 w3)/\ZR w3 b d x A n c:=by
 have hblk2:=ZhR hown2;rw[<-Zkj]at hblk2;obtain⟨w3,hrun3,hblk3,ht3⟩:=ZiO hblk2 3;have hbl:=hmb.cells.2.2.2;have hs2:=hb2.size;have ht:Zf (fun j=>j=w1.heap.size) w1 w3:=⟨ht3.os.trans hb2.os,ht3.tape.trans hb2.tape,ht3.output.trans hb2.output,ZZf hs2 ht3.size,fun j hj hn=>(ht3.block j (ZZd hj hs2) hn).trans (hb2.block j hj)⟩
 exact⟨w3,hrun3,hid ⟨hblk3,ht⟩,hmb.touch ht (by omega)⟩
theorem Zbe{b:BV}(h:ZD b=true):8+szP b.ps<=240/\(0<=b.d/\b.d<=10)/\Zj b.x 4=true/\pairsB b.ps=true:=by
 unfold ZD at h;simp only[Bool.and_eq_true,decide_eq_true_eq]at h;exact⟨h.1.1.1.1,⟨h.1.1.1.2,h.1.1.2⟩,h.1.2,h.2⟩
theorem Zds{ps:List KV}(h:pairsB ps=true){k:Nat}{y:KV}(hy:ps[k]?=some y):(1<=y.1.length/\y.1.length<=32)/\y.2.length<=120/\findI ps y.1=(k:Int):=by
 have hk:=(ZZb.1 hy).1
 have:=List.all_eq_true.1 h k (by simpa using hk)
 rw[Zf6 hy]at this;simp only[Bool.and_eq_true,decide_eq_true_eq,beq_iff_eq]at this;exact⟨this.1.1,this.1.2,this.2⟩
theorem ZcX{x:Int}(h:0<=x/\x<256):Zj x ((1:Nat):Int)=true:=by
 unfold Zj;simp[h]
theorem Zkk{x:Int}(h:0<=x/\x<65536):Zj x ((2:Nat):Int)=true:=by
 unfold Zj;simp[h]
theorem Zaa.bytes{w:World}{B n:Nat}{A:Option Addr}{ps:List KV}(h:Zaa w B A n ps):∀y∈ps,Ze y.1/\Ze y.2:=by
 intro y hy;obtain⟨k,hk,rfl⟩:=List.getElem_of_mem hy;obtain⟨b,off,e,hb,hat⟩:=h.2 (by rw[<-h.len];exact Nat.lt_of_le_of_lt (Nat.zero_le _) hk);obtain⟨_,_,_,_,_,_,_,_,hk1,_,hv1,_⟩:=hat k _ (ZZc hk);exact⟨hk1.bytes,hv1.bytes⟩
theorem Zfp{b:BV}(hm:ZD b=true)(hall:∀y∈b.ps,Ze y.1/\Ze y.2):Ze (pageBk b):=by
 obtain⟨f1,f2,f3,f4⟩:=Zbe hm;refine((Ze.append ?_ ?_).append (fun y hy=>by have:=List.eq_of_mem_replicate hy;omega))
 · intro y hy;simp only[ZQ,List.mem_cons,List.mem_append]at hy;rcases hy with rfl|hy|hy|hy
   · decide
   · exact ZW _ _ y hy
   · exact ZW _ _ y hy
   · exact ZW _ _ y hy
 · intro z hz;obtain⟨y,hy,hz⟩:=List.mem_flatMap.1 hz;obtain⟨k,hk,he⟩:=List.getElem_of_mem hy;have hpk:=Zds f4 (k:=k) (y:=y) (by rw[ZZc hk,he]);simp only[ZbY,List.mem_cons,List.mem_append]at hz;rcases hz with rfl|rfl|hz|hz
   · omega
   · omega
   · exact(hall y hy).1 z hz
   · exact(hall y hy).2 z hz
theorem ZiP(b:BV)(hsz:8+szP b.ps<=240):splice ZbJ 0 (ZQ b++ZP b.ps)=pageBk b:=by
 unfold splice pageBk ZbJ;rw[List.take_zero,List.nil_append,Nat.zero_add,List.drop_replicate,List.length_append,Zal,Zbc,List.append_assoc]
theorem ZiQ(b:BV):splice (splice ZbJ 0 [66]) 1 ([Zr b.d 1,Zr b.x 4,Zr (b.ps.length:Int) 2]:List (List Int)).flatten=splice ZbJ 0 (ZQ b++ZP (b.ps.take 0)):=by
 have h:=ZeW (L:=ZbJ) (d:=[66]) (e:=([Zr b.d 1,Zr b.x 4,Zr (b.ps.length:Int) 2]:List (List Int)).flatten) (a:=0) (by simp[Zc,Zaj])
 have e:ZQ b++ZP (b.ps.take 0) = [66]++([Zr b.d 1,Zr b.x 4,Zr (b.ps.length:Int) 2]:List (List Int)).flatten:=by
  simp[ZQ,ZP]
 rw[e,<-h];rfl
theorem ZiR{b:BV}{k:Nat}{y:KV}(hy:b.ps[k]?=some y)(hm:ZD b=true):splice (splice ZbJ 0 (ZQ b++ZP (b.ps.take k))) (8+szP (b.ps.take k)) ([Zr (y.1.length:Int) 1,Zr (y.2.length:Int) 1,y.1,y.2]:List (List Int)).flatten=splice ZbJ 0 (ZQ b++ZP (b.ps.take (k+1))):=by
 obtain⟨h1,h2,h3,h4⟩:=Zbe hm;obtain⟨p1,p2,p3⟩:=Zds h4 hy
 have e1:([Zr (y.1.length:Int) 1,Zr (y.2.length:Int) 1,y.1,y.2]:List (List Int)).flatten=ZbY y:=by
  rw[ZfN (by omega),ZfN (by omega)];simp[ZbY]
 have hs:=ZfM hy;have hle:=ZcW b.ps (k+1);have hl:(ZQ b++ZP (b.ps.take k)).length=8+szP (b.ps.take k):=by rw[List.length_append,Zal,Zbc]
 have h:=ZeW (L:=ZbJ) (d:=ZQ b++ZP (b.ps.take k)) (e:=ZbY y) (a:=0) (by rw[hl,Zaj,Zcp];omega);rw[hl,Nat.zero_add]at h;rw[e1,h,Zkh hy,List.append_assoc]
theorem Zfq{w3 w4 w5 w6:World}{g g4 g5 g6 n W0:Nat}{d x:Int}(hg:g<w3.heap.size)(hg4:w3.drew.heap.size<=g4)(hg5:w4.heap.size<=g5)(hg6:w5.heap.size<=g6)
 (hr4:RB w4 w4.heap.size (some ⟨g4,0,none⟩) 1 (Zr d 1)) (hr5:RB w5 w5.heap.size (some ⟨g5,0,none⟩) 4 (Zr x 4)) (hr6:RB w6 w6.heap.size (some ⟨g6,0,none⟩) 2 (Zr (n:Int) 2))
 (hb4:Below w3.drew.heap.size w3.drew w4) (hb5:Below w4.heap.size w4 w5) (hb6:Below w5.heap.size w5 w6)
 (hp:w3.heap[g]?=some (.cells ((splice ZbJ 0 [66]).map (Value.int .u8)).toArray 5 (0,0))) (hs:W0<=g) (hn:n<=116) :
 Below w3.heap.size w3 w6/\∀c,Calls prog 207 #[.slice (some ⟨g,0,none⟩) 240 240,.int .i64 1,.slice (some ⟨w6.heap.size,0,none⟩) 3 c] (w6.alloc (.cells #[.slice (some ⟨g4,0,none⟩) 1 1,.slice (some ⟨g5,0,none⟩) 4 4,.slice (some ⟨g6,0,none⟩) 2 2] 55 (0,0))) fun e w'=>e=.returned (.int .i64 8)/\w'.heap[g]?=some (.cells ((splice (splice ZbJ 0 [66]) 1 ([Zr d 1,Zr x 4,Zr (n:Int) 2]:List (List Int)).flatten).map (Value.int .u8)).toArray 5 (0,0))/\Zf (fun j=>j=g) w3 w':=by
 have hs3:w3.drew.heap.size=w3.heap.size:=rfl;rw[hs3]at hg4 hb4;have s4:=hb4.size;have s5:=hb5.size;have s6:=hb6.size;rw[hs3]at s4;have b36:Below w3.heap.size w3 w6:=((show Below w3.heap.size w3 w4 from⟨hb4.os,hb4.tape,hb4.output,hb4.size,hb4.block⟩).trans (hb5.mono s4)).trans (hb6.mono (ZZf s4 s5));refine⟨b36,fun c=>?_⟩;have p4:ZhO w4 g (some ⟨g4,0,none⟩) 1 1 (Zr d 1):=⟨by decide,ZZe _,hr4,fun y hy _=>by cases hy;show g4≠g;omega⟩
 have p5:ZhO w5 g (some ⟨g5,0,none⟩) 4 4 (Zr x 4):=⟨by decide,ZZe _,hr5,fun y hy _=>by cases hy;show g5≠g;omega⟩
 have p6:ZhO w6 g (some ⟨g6,0,none⟩) 2 2 (Zr (n:Int) 2):=⟨by decide,ZZe _,hr6,fun y hy _=>by cases hy;show g6≠g;omega⟩
 have hX:Below w6.heap.size w6 (w6.alloc (.cells #[.slice (some ⟨g4,0,none⟩) 1 1,.slice (some ⟨g5,0,none⟩) 4 4,.slice (some ⟨g6,0,none⟩) 2 2] 55 (0,0))):=(Below.refl _ _).alloc (ZZe _) _;have hgX:=(hX.block g (by omega)).trans ((b36.block g hg).trans hp);have hL:=ZiN (a:=1) (c:=c) hgX (by rw[length_splice _ _ _ (by rw[Zaj];decide),Zaj]) (Zq9 55 (by omega) ((p4.below hb5).below hb6) (p5.below hb6) p6) (by decide) (by simp[Zc]);have e:1+([Zr d 1,Zr x 4,Zr (n:Int) 2]:List (List Int)).flatten.length=8:=by simp[Zc]
 rw[e]at hL;refine hL.mono ?_;rintro e w'⟨h1,h2,h3⟩;refine⟨h1,h2,?_⟩;have hb:=b36.trans (hX.mono (by omega));exact⟨h3.os.trans hb.os,h3.tape.trans hb.tape,h3.output.trans hb.output,ZZf hb.size h3.size,fun j hj hn=>(h3.block j (ZZd hj hb.size) hn).trans (hb.block j hj)⟩
def Zga(w:World)(b:Nat)(u v:Value):Prop:=w.heap[b]?=some (.cells #[u,v] 65 (0,0))
theorem Zga.new(w:World)(u v:Value):Zga (w.alloc (.cells #[u,v] 65 (0,0))) w.heap.size u v:=heap_alloc_new w _
theorem Zga.cells{w:World}{b:Nat}{u v:Value}(h:Zga w b u v):w.cell? ⟨b,0,none⟩=some u/\w.cell? ⟨b,1,none⟩=some v:=by
 constructor <;> (rw[cell_of_row _ _ _ _ _ (0,0) h];rfl)
theorem Zga.lt{w:World}{b:Nat}{u v:Value}(h:Zga w b u v):b<w.heap.size:=(ZZa.1 h).1
theorem Zga.below{w w':World}{b:Nat}{u v:Value}(h:Zga w b u v)(hb:Below w.heap.size w w'):Zga w' b u v:=(hb.block b h.lt).trans h
theorem Zga.touch{w w':World}{b g:Nat}{u v:Value}(h:Zga w b u v)(ht:Zf (fun j=>j=g) w w')(hne:b≠g):Zga w' b u v:=(ht.block b h.lt hne).trans h
theorem Zga.drew{w:World}{b:Nat}{u v:Value}(h:Zga w b u v):Zga w.drew b u v:=h
theorem Zfr{X w4 w5:World}{g g4 g5 a kn kc vn vc B:Nat}{ka va:Option Addr}{k v L:List Int}(hg:g<X.heap.size)(hg4:X.drew.heap.size<=g4)(hg5:w4.heap.size<=g5)
 (hr4:RB w4 w4.heap.size (some ⟨g4,0,none⟩) 1 (Zr (kn:Int) 1)) (hr5:RB w5 w5.heap.size (some ⟨g5,0,none⟩) 1 (Zr (vn:Int) 1))
 (hb4:Below X.drew.heap.size X.drew w4) (hb5:Below w4.heap.size w4 w5)
 (hp:X.heap[g]?=some (.cells (L.map (Value.int .u8)).toArray 5 (0,0))) (hL:L.length=240) (hk:RB X B ka kn k) (hv:RB X B va vn v) (hBg:B<=g) (hkc:kn<=kc/\kn<=maxLen) (hvc:vn<=vc/\vn<=maxLen) (ha:a+(2+kn+vn)<=240) :
 Below X.heap.size X w5/\∀c,Calls prog 207 #[.slice (some ⟨g,0,none⟩) 240 240,.int .i64 (a:Int),.slice (some ⟨w5.heap.size,0,none⟩) 4 c] (w5.alloc (.cells #[.slice (some ⟨g4,0,none⟩) 1 1,.slice (some ⟨g5,0,none⟩) 1 1,.slice ka kn kc,.slice va vn vc] 55 (0,0))) fun e w'=>e=.returned (.int .i64 ((a+(2+kn+vn):Nat):Int))/\w'.heap[g]?=some (.cells ((splice L a ([Zr (kn:Int) 1,Zr (vn:Int) 1,k,v]:List (List Int)).flatten).map (Value.int .u8)).toArray 5 (0,0))/\Zf (fun j=>j=g) X w':=by
 have hs3:X.drew.heap.size=X.heap.size:=rfl;rw[hs3]at hg4 hb4;have s4:=hb4.size;have s5:=hb5.size;rw[hs3]at s4;have b35:Below X.heap.size X w5:=(show Below X.heap.size X w4 from⟨hb4.os,hb4.tape,hb4.output,hb4.size,hb4.block⟩).trans (hb5.mono s4);refine⟨b35,fun c=>?_⟩
 have ap:∀{A:Option Addr} {n:Nat} {l:List Int},RB X B A n l->∀y,A=some y->0<n->y.block≠g:=by
  intro A n l h y hy hn;obtain⟨b,off,e,hb,_⟩:=h.at_ hn;rw[e]at hy;cases hy;show b≠g;omega
 have p4:ZhO w4 g (some ⟨g4,0,none⟩) 1 1 (Zr (kn:Int) 1):=⟨by decide,ZZe _,hr4,fun y hy _=>by cases hy;show g4≠g;omega⟩
 have p5:ZhO w5 g (some ⟨g5,0,none⟩) 1 1 (Zr (vn:Int) 1):=⟨by decide,ZZe _,hr5,fun y hy _=>by cases hy;show g5≠g;omega⟩
 have hBX:B<=X.heap.size:=by omega
 have pk:ZhO X g ka kn kc k:=⟨hkc.2,hkc.1,hk.more hBX,ap hk⟩
 have pv:ZhO X g va vn vc v:=⟨hvc.2,hvc.1,hv.more hBX,ap hv⟩
 have hX:Below w5.heap.size w5 (w5.alloc (.cells #[.slice (some ⟨g4,0,none⟩) 1 1,.slice (some ⟨g5,0,none⟩) 1 1,.slice ka kn kc,.slice va vn vc] 55 (0,0))):=(Below.refl _ _).alloc (ZZe _) _;have hgX:=(hX.block g (by omega)).trans ((b35.block g hg).trans hp);have e:([Zr (kn:Int) 1,Zr (vn:Int) 1,k,v]:List (List Int)).flatten.length=2+kn+vn:=by simp[Zc,hk.len,hv.len];omega
 have hLY:=ZiN (a:=a) (c:=c) hgX hL (Zra 55 (by omega) (p4.below hb5) p5 (pk.below b35) (pv.below b35)) (by decide) (by rw[e];exact ha);rw[e]at hLY;refine hLY.mono ?_;rintro e w'⟨h1,h2,h3⟩;refine⟨h1,h2,?_⟩;have hb:=b35.trans (hX.mono (by omega));exact⟨h3.os.trans hb.os,h3.tape.trans hb.tape,h3.output.trans hb.output,ZZf hb.size h3.size,fun j hj hn=>(h3.block j (ZZd hj hb.size) hn).trans (hb.block j hj)⟩
theorem ZnA{w:World}{B n:Nat}{A:Option Addr}{ps:List KV}(d x:Int)(c:Nat)(hr:Zaa w B A n ps)(hB:B<=w.heap.size)(hm:n<=maxLen)(hsz:szP ps<=4611686018427387904)(hd : -9223372036854775808<=d/\d<=9223372036854775807)(hx : -9223372036854775808<=x/\x<=9223372036854775807) :
 Calls prog 157 #[.agg #[.int .i64 d,.int .i64 x,.slice A n c]] w fun e w'=>∃A' n' c',e=.returned (.tuple #[.slice A' n' c',.int .i64 (Zd7 ⟨d,x,ps⟩).2])/\n'<=c'/\RB w' w'.heap.size A' n' (Zd7 ⟨d,x,ps⟩).1/\Below w.heap.size w w':=by
 obtain⟨i0,hi,hz0,hz1,hz2⟩:=info_parts Zbg;have hbox:Below w.heap.size w (w.alloc (Zax d x A n c)):=(Below.refl _ _).alloc (ZZe _) _;have HM:=hid (Zf8 d x c (hr.below (hbox.mono hB)) (ZZf hB hbox.size) hm hsz);have HBX:=hid (ZR.new w d x A n c);obtain⟨c0,c1,c2,hbl⟩:=HBX.out.cells;have HB:=hid hbox;have HR:=hid hr
 cases hmb:ZD ⟨d,x,ps⟩ with
 | false=>
  have hP:Zd7 ⟨d,x,ps⟩=([],1):=by unfold Zd7;rw[if_neg (by rw[hmb];decide)]
  rw[hmb]at HM;rw[hP];clear hP hmb hbox hr
  unfold Zax at *
  go_enter func157,ntmps157;go_wp2_with fail;refine HM.out.mono ?_;rintro e w1⟨rfl,hb1⟩;have hF:=hid (HB.out.trans (hb1.mono HB.out.size));clear hb1 c0 c1 c2;go_wp2;go_ret2;exact⟨none,0,0,rfl,ZZe _,RB.nil_,hF.out⟩
 | true=>
  obtain⟨f1,f2,f3,f4⟩:=Zbe hmb;have f1:8+szP ps<=240:=f1;have f2:0<=d/\d<=10:=f2;have f3:Zj x ((4:Nat):Int)=true:=f3;have hn:n<=116:=by have:=ZhM ps;rw[hr.len]at this;omega
  have hP:Zd7 ⟨d,x,ps⟩=(pageBk ⟨d,x,ps⟩,0):=by unfold Zd7;rw[if_pos hmb]
  have HPD:=hid (ZiP ⟨d,x,ps⟩ f1);have HPL:=hid (Zbd (b:=⟨d,x,ps⟩) f1);have HPH:=hid (ZiQ ⟨d,x,ps⟩);have HPP:=hid (fun k (y:KV) (hy:ps[k]?=some y)=>ZZg (Zds f4 hy) (ZiR (b:=⟨d,x,ps⟩) hy hmb));have HQ1:=hid (fun w=>Z7 d 1 w (ZcX (by omega)) (by decide) hd);have HQ2:=hid (fun w=>Z7 x 4 w f3 (by decide) hx);have HQ3:=hid (fun w=>Z7 (n:Int) 2 w (Zkk (by omega)) (by decide) (by omega));have HLEN:=hid hr.len;have HSZ:=hid f1;have HBY:=hid (Zfp hmb hr.bytes);rw[hmb]at HM;rw[hP];clear hP hmb hbox hr f1 f2 f3 f4
  unfold Zax at *
  go_enter func157,ntmps157;go_wp2_with fail;refine HM.out.mono ?_;rintro e w1⟨rfl,hb1⟩;have hbx1:=HBX.out.below hb1;have hb01:=HB.out.trans (hb1.mono HB.out.size);have hs1:=hb01.size;clear hb1 c0 c1 c2;obtain⟨c0,c1,c2,hbl1⟩:=hbx1.cells
  go_wp2_with (first
   | (refine wpList_make_full w1 rfl _ _ 55 rfl w1.heap.size 5 i0 (.int .u8 0) 1 underlying55 hi hz0 hz1 .i64 .i64 _ _ 240 rfl rfl (by simp) (by simp) (by rw[hz2];decide) (by decide) (ZZe _) ?_;intro w2 hown2 hg2;have hb2:Below w1.heap.size w1 w2:=(Below.refl _ _).grown hg2 (ZZe _) (by simp);obtain⟨w3,hrun3,HK3,hbx3⟩:=Zes hown2 hb2 hbx1;obtain⟨c0,c1,c2,hbl3⟩:=hbx3.cells;clear hown2 hg2 hb2))
  have HG3:=hid HK3.out.1;have HT3:=hid HK3.out.2;have hgw:w1.heap.size<w3.heap.size:=(ZZa.1 HG3.out).1;have hbW3:=hid (hb01.trans (HT3.out.below (B:=w.heap.size) (fun j e=>by rw[e];exact hs1) hs1));have c3:=hbx3.drew.cells3;have HBX3:=hid hbx3;have tok1:True:=trivial;clear hbx1 hb01 hbx3 c0 c1 c2 hbl3 HM HBX HB HK3;go_wp2_with fail
  go_region_held3 (fun w'=>w'.cell? ⟨w.heap.size,0,none⟩=some (.int .i64 d)/\w'.cell? ⟨w.heap.size,1,none⟩=some (.int .i64 x)/\w'.cell? ⟨w.heap.size,2,none⟩=some (.slice A n c))
   (first|with_reducible exact c8|with_reducible exact c7|with_reducible exact c6|with_reducible exact c5|with_reducible exact c4|with_reducible exact c3|exact c3)
   (first
    | (go_at_call 196;have _t:=tok1;clear tok1;refine(HQ1.out _).mono ?_;rintro e w4 ⟨g4,rfl,hg4,hr4,hb4⟩;have tok2:True:=trivial;have hbx4:=HBX3.out.drew.below hb4;have c4:=hbx4.cells3)
    | (go_at_call 196;have _t:=tok2;clear tok2;refine(HQ2.out _).mono ?_;rintro e w5 ⟨g5,rfl,hg5,hr5,hb5⟩;have tok3:True:=trivial;have hbx5:=hbx4.below hb5;have c5:=hbx5.cells3)
    | (go_at_call 196;have _t:=tok3;clear tok3;refine(HQ3.out _).mono ?_;rintro e w6 ⟨g6,rfl,hg6,hr6,hb6⟩;have tok4:True:=trivial;have hbx6:=hbx5.below hb6;have c6:=hbx6.cells3;have c7:=(hbx6.below ((Below.refl w6.heap.size w6).alloc (ZZe _) (.cells #[.slice (some ⟨g4,0,none⟩) 1 1,.slice (some ⟨g5,0,none⟩) 4 4,.slice (some ⟨g6,0,none⟩) 2 2] 55 (0,0)))).cells3;have HL6:=hid (Zfq hgw hg4 hg5 hg6 hr4 hr5 hr6 hb4 hb5 hb6 HG3.out hs1 (by omega)))
    | (go_at_call 207;have _t:=tok4;clear tok4;refine(HL6.out.2 3).mono ?_;rintro e w7 ⟨rfl,hblk7,ht7⟩;have hbx7:=HBX3.out.touch ht7 (by omega);have c8:=hbx7.cells3))
  have HG7:=hid (show w7.heap[w1.heap.size]?=some (.cells ((splice ZbJ 0 (ZQ ⟨d,x,ps⟩++ZP (ps.take 0))).map (Value.int .u8)).toArray 5 (0,0))from by
   have:=HPH.out
   rw[HLEN.out]at this;rw[<-this]
   exact hblk7)
  have HB7:=hid (hbW3.out.trans (ht7.below (B:=w.heap.size) (fun j e=>by rw[e];exact hs1) hbW3.out.size));obtain⟨d0,d1,d2⟩:=hbx7.cells3;clear c3 c4 c5 c6 c7 c8 hbx4 hbx5 hbx6 hbx7 hblk7 ht7 hr4 hr5 hr6 hb4 hb5 hb6 hg4 hg5 hg6 HL6 HBX3 HG3 HT3 hbW3 HQ1 HQ2 HQ3 HPH _t;go_wp2_with fail;clear d0 d1 d2
  go_loopw[5,31] (fun av i wr=>∃k:Nat,k<=n/\i=.int .i64 k/\av=.int .i64 ((8+szP (ps.take k):Nat):Int)/\Hid (wr.heap[w1.heap.size]?=some (.cells ((splice ZbJ 0 (ZQ ⟨d,x,ps⟩++ZP (ps.take k))).map (Value.int .u8)).toArray 5 (0,0)))/\Hid (Below w.heap.size w wr)) (fun _ i _=>n-(intOf i).toNat)
  case atStart=>exact⟨0,Nat.zero_le _,rfl,rfl,HG7,HB7⟩
  case round=>
   clear HG7 HB7;obtain⟨k,hk,rfl,rfl,hg,hb⟩:=hrel;by_cases hlt:k<n
   · obtain⟨b,off,rfl,hbB,hat⟩:=HR.out.2 (by omega);obtain⟨y,hy⟩:∃y,ps[k]?=some y:=⟨_,ZZc (by rw[HLEN.out];exact hlt)⟩
     obtain⟨⟨⟨p1,p2⟩,p3,_⟩,p4⟩:=HPP.out k y hy;have hst:=ZfM hy;obtain⟨ka,kn,kc,va,vn,vc,h0,h1,h2,h3,h4,h5⟩:=(hat k y hy).keep hbB (fun b o hbb=>hb.out.cell (p:=⟨b,o,none⟩) (ZZd hbb hB));have hle:=ZcW ps (k+1);rw[h2.len]at hst p1 p2 p4;rw[h4.len]at hst p3 p4;have HST:=hid hst;have HNX:=hid p4;have HAK:=hid (show 8+szP (ps.take k)+(2+kn+vn)=8+szP (ps.take (k+1)) by omega);have hlt':(k:Int)<(n:Int):=by omega
     have HLK:=hid (show(splice ZbJ 0 (ZQ ⟨d,x,ps⟩++ZP (ps.take k))).length=240 from by
      rw[length_splice _ _ _ (by rw[List.length_append,Zal,Zbc,Zaj];omega),Zaj])
     have hat:8+szP (ps.take k)+(2+kn+vn)<=240:=by omega
     have hgx:w1.heap.size<wr.heap.size:=(ZZa.1 hg.out).1;have hX:Below wr.heap.size wr (wr.alloc (.cells #[.slice ka kn kc,.slice va vn vc] 65 (0,0))):=(Below.refl _ _).alloc (ZZe _) _;have HPB:=hid (Zga.new wr (.slice ka kn kc) (.slice va vn vc));have HKV:=hid (ZZg (h2.alloc (ZZf hB hb.out.size) (.cells #[.slice ka kn kc,.slice va vn vc] 65 (0,0))) (ZZg (h4.alloc (ZZf hB hb.out.size) (.cells #[.slice ka kn kc,.slice va vn vc] 65 (0,0))) (ZZg h3 h5)));have HGX:=hid ((hX.block _ hgx).trans hg.out);have HQ1:=hid (fun w=>Z7 (kn:Int) 1 w (ZcX (by omega)) (by decide) (by omega));have HQ2:=hid (fun w=>Z7 (vn:Int) 1 w (ZcX (by omega)) (by decide) (by omega));have HBX:=hid (hb.out.trans (hX.mono hb.out.size));have hgX:w1.heap.size<(wr.alloc (.cells #[.slice ka kn kc,.slice va vn vc] 65 (0,0))).heap.size:=ZZd hgx hX.size;have hBg:B<=w1.heap.size:=ZZf hB hs1;have c3:=HPB.out.drew.cells;have tok1:True:=trivial;clear hst hle p4 h2 h4 h3 h5 hy c0 c1 c2 hX hbl;generalize splice ZbJ 0 (ZQ ⟨d,x,ps⟩++ZP (ps.take k))=Lk at hg HGX HNX HLK;generalize 8+szP (ps.take k)=ak at *;go_wp2_with fail
     go_region_held3 (fun w'=>w'.cell? ⟨wr.heap.size,0,none⟩=some (.slice ka kn kc)/\w'.cell? ⟨wr.heap.size,1,none⟩=some (.slice va vn vc))
      (first|with_reducible exact c7|with_reducible exact c6|with_reducible exact c5|with_reducible exact c4|with_reducible exact c3|exact c3)
      (first
       | (go_at_call 196;have _t:=tok1;clear tok1;refine(HQ1.out _).mono ?_;rintro e w4 ⟨g4,rfl,hg4,hr4,hb4⟩;have tok2:True:=trivial;have hpb4:=HPB.out.drew.below hb4;have c4:=hpb4.cells)
       | (go_at_call 196;have _t:=tok2;clear tok2;refine(HQ2.out _).mono ?_;rintro e w5 ⟨g5,rfl,hg5,hr5,hb5⟩;have tok3:True:=trivial;have hpb5:=hpb4.below hb5;have c5:=hpb5.cells;have c6:=(hpb5.below ((Below.refl w5.heap.size w5).alloc (ZZe _) (.cells #[.slice (some ⟨g4,0,none⟩) 1 1,.slice (some ⟨g5,0,none⟩) 1 1,.slice ka kn kc,.slice va vn vc] 55 (0,0)))).cells;have HL6:=hid (Zfr (a:=ak) hgX hg4 hg5 hr4 hr5 hb4 hb5 HGX.out HLK.out HKV.out.1 HKV.out.2.1 hBg HKV.out.2.2.1 HKV.out.2.2.2 hat))
       | (go_at_call 207;have _t:=tok3;clear tok3;refine(HL6.out.2 4).mono ?_;rintro e w6 ⟨rfl,hblk6,ht6⟩;have hpb6:=HPB.out.touch ht6 (by omega);have c7:=hpb6.cells))
     have HE:=hid (show w6.heap[w1.heap.size]?=some (.cells ((splice ZbJ 0 (ZQ ⟨d,x,ps⟩++ZP (ps.take (k+1)))).map (Value.int .u8)).toArray 5 (0,0))from by rw[<-HNX.out];exact hblk6);have HT:=hid (HBX.out.trans (ht6.below (B:=w.heap.size) (fun j e=>by rw[e];exact hs1) HBX.out.size));clear c3 c4 c5 c6 c7 hpb4 hpb5 hpb6 hblk6 ht6 hr4 hr5 hb4 hb5 hg4 hg5 HL6 HPB HKV HGX HQ1 HQ2 HBX HNX HLK hg hb h0 h1;go_wp2;go_roundw
     case rel=>exact⟨k+1,by omega,by go_num,by rw[<-HAK.out];congr 1,HE,HT⟩
     case measure=>simp[intOf];omega
   · obtain rfl:k=n:=by omega
     have e:ps.take k=ps:=List.take_of_length_le (by rw[HLEN.out];exact ZZe _);rw[e]at hg ⊢
     have HE:=hid (show RB wr wr.heap.size (some ⟨w1.heap.size,0,none⟩) 240 (pageBk ⟨d,x,ps⟩)from by
      have hgo:=hg.out;rw[HPD.out]at hgo;refine⟨HPL.out,HBY.out,fun _=>⟨w1.heap.size,0,rfl,(ZZa.1 hgo).1,fun j hj=>?_⟩⟩;rw[Nat.zero_add,cell_of_row wr _ j _ _ (0,0) hgo,List.getElem?_toArray,List.getElem?_map,ZZc (by rw[HPL.out];exact hj)]
      rfl)
     clear e hg;go_wp2;go_ret2;exact⟨_,240,240,rfl,ZZe _,HE.out,hb.out⟩
end Go.Proofs.YtlmkdmdbpopnhaaGreatDoor
