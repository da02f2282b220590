/- BalP, BalA, BalC, BalE, BalB. Conditions: in each theorem. -/
import Derived.Test.YtiknkbpojmgbhaaGreatSeqP
import Derived.Test.YtiknkbpojmgbhaaGreatManS
import Derived.Test.YtiknkbpojmgbhaaGreatAmtV
import Derived.Test.YtiknkbpojmgbhaaGreatViewC
import Derived.Deep.RegionHeld3
import Derived.Test.YtiknkbpojmgbhaaGreatPreD
import Derived.Laws.ResultCell
import Derived.StillTailTactics
import Derived.Test.YtiknkbpojmgbhaaGreatViewN
import Derived.Lib.AppendZeros
set_option maxHeartbeats 3200000
set_option maxRecDepth 100000
set_option linter.unusedVariables false
open Go.Proofs.Tryz
open Go.Lib (hid)
namespace Go.Proofs.YtiknkbpojmgbhaaGreat
open Go.RowKit Go.Maps
abbrev bKy(y f o:Int):Txt:=tx (Zi 66 [y,f,o])
theorem ZfT(y f o:Int):(Zi 66 [y,f,o]).length=13:=by unfold Zi;rw[Zt];rfl
theorem ZgT(y f o:Int):(bKy y f o).length=13:=by rw[ZZ,ZfT]
def ZoA(n:Int):Prop:=-4611686018427387904<=n/\n<=4611686018427387904
def VS.setB(S:VS)(x:Txt)(n:Int):VS:=if n=0 then S.del x else S.put x (Zj 8 [n])
def VS.addB(S:VS)(x:Txt)(a:Int):VS:=if(amtAddR (seqV (S.now x)) a).2=0 then S.setB x (amtAddR (seqV (S.now x)) a).1 else S
theorem ZdL{b a:Int}(h:(amtAddR b a).2=0):ZoA b/\ZoA a/\ZoA (b+a)/\(amtAddR b a).1=b+a:=by
 unfold amtAddR at h ⊢
 split
 · rename_i hh
   simp only[Bool.and_eq_true,Za1]at hh;exact⟨hh.1.1,hh.1.2,hh.2,rfl⟩
 · rename_i hh
   rw[if_neg hh]at h;exact absurd h (by decide)
abbrev I64(n:Int):Prop:=-9223372036854775808<=n/\n<=9223372036854775807
def numB(b:List Int):Int×Bool:=if(unpackR b 1).2=0 then((unpackR b 1).1[0]?.getD 0,true)else(0,false)
theorem ZkS(o:Option (List Int)):(numB (o.getD [])).1=seqV o:=by
 cases o with
 | none=>rfl
 | some b=>
  by_cases h:(unpackR b 1).2=0 <;> simp[numB,seqV,h]
theorem Zd9{w:World}{A:Option Addr}{n k B:Nat}{b:List Int}(hr:RB w B A n b)(hB:B<=w.heap.size)(hk:n<=k)(hn:n<=maxLen) :
 Calls prog 200 #[.slice A n k] w fun e w'=>e=.returned (.tuple #[.int .i64 (numB b).1,.bool (numB b).2])/\Below w.heap.size w w':=by
 have HU:=hid (Zcd A n k B b 1 w hr hB hk hn (by omega) (by omega));unfold numB;clear hr;rcases unpack_one b with ⟨x,hx⟩|⟨en,hen,hx⟩
 · rw[hx]at HU;rw[hx];clear hx;go_enter func200,ntmps200;go_wp2_with fail;refine HU.out.mono ?_;rintro e w3⟨A3,k3,c3,rfl,hk3,_,hr3,hb3⟩;obtain rfl:1=k3:=hr3.len;obtain⟨bb,o,rfl,hbb,hc⟩:=hr3.2.2 (by simp);have c0:=hc 0 (by simp);have HE:=hid hb3;simp only[Nat.add_zero,List.getElem?_cons_zero,Option.getD_some]at c0;clear HU hr3 hb3 hc;go_wp2_with fail;go_ret2;exact⟨rfl,HE.out⟩
 · rw[hx]at HU;rw[hx];have he2:(en != 0)=true:=by simp[hen]
   rw[if_neg (show ¬en=0 from hen)];clear hx hen;go_enter func200,ntmps200;go_wp2_with fail;refine HU.out.mono ?_;rintro e w3⟨A3,k3,c3,rfl,hk3,_,hr3,hb3⟩;have HE:=hid hb3;clear HU hr3 hb3;go_wp2_with fail;go_ret2;exact⟨rfl,HE.out⟩
theorem ZfU(A:Option Addr)(n c B:Nat)(l:List Int)(w:World)(hr:RI w B A n l)(hB:B<=w.heap.size)(hc:n<=c)(hm:n<=maxLen) :
 Calls prog 217 #[.slice A n c] w fun e w'=>∃u,e=.returned u/\ZaG w w' u (Zi 66 l):=by
 have HK:=hid (ZeG 66 A n c B l w (by omega) hr hB hc hm);clear hr;go_enter func217,ntmps217;go_wp2_with fail;refine HK.out.mono ?_;rintro e w2⟨u,rfl,ho⟩;have HE:=hid ho;clear HK ho;go_wp2;go_ret;exact⟨_,rfl,HE.out⟩
section
variable{w w':World}{X:Nat->Prop}{v m c:Nat}{S:VS}
theorem ZdM(p:Value)(y f o:Int)(w:World)(hy:I64 y)(hf:I64 f)(ho:I64 o) :
 Calls prog 199 #[.agg #[p,.int .i64 y,.int .i64 f,.int .i64 o]] w fun e w'=>∃A c,e=.returned (.slice A 13 c)/\13<=c/\RB w' w'.heap.size A 13 (Zi 66 [y,f,o])/\Below w.heap.size w w':=by
 have hb:Below w.heap.size w (((w.alloc (.cells #[p,.int .i64 y,.int .i64 f,.int .i64 o] 182)).alloc (.cells #[.int .i64 y,.int .i64 f,.int .i64 o] 3))):=((Below.refl _ _).alloc (Nat.le_refl _) _).alloc (by simp) _;have hz:(w.alloc (.cells #[p,.int .i64 y,.int .i64 f,.int .i64 o] 182)).heap.size=w.heap.size+1:=by simp
 have hl:=ZhJ (w.alloc (.cells #[p,.int .i64 y,.int .i64 f,.int .i64 o] 182)) 3 [y,f,o] #[.int .i64 y,.int .i64 f,.int .i64 o] rfl (fun x hx=>by
  simp only[List.mem_cons,List.not_mem_nil,or_false]at hx;rcases hx with rfl|rfl|rfl
  · exact hy
  · exact hf
  · exact ho)
 rw[hz]at hl;have HK:=hid (ZfU _ 3 3 _ [y,f,o] _ hl (by simp) (Nat.le_refl _) (by decide));have HB:=hid hb;clear hl hb;go_enter func199,ntmps199;go_wp2_with fail;refine HK.out.mono ?_;rintro e w2⟨u,rfl,ho⟩;obtain⟨A,c,rfl,h1,h2⟩:=ho.read (Zk (by omega) _);have HE:=hid (And.intro h1 (And.intro h2 (HB.out.trans (ho.2.mono HB.out.size))));clear HK ho h1 h2 hz;go_wp2;go_ret;have e5:=ZfT y f o;obtain⟨h1,h2,h3⟩:=HE.out;rw[e5]at h1 h2;exact⟨A,c,rfl,h1,h2,h3⟩
def Zb6(W:World)(g v:Nat)(y f o:Int):Prop:=W.cell? ⟨g,0,none⟩=some (.pointer (some ⟨v,0,none⟩))/\W.cell? ⟨g,1,none⟩=some (.int .i64 y)/\W.cell? ⟨g,2,none⟩=some (.int .i64 f)/\W.cell? ⟨g,3,none⟩=some (.int .i64 o)
theorem Zb6.made(w:World)(T:TypeId)(v:Nat)(y f o:Int):Zb6 (w.alloc (.cells #[.pointer (some ⟨v,0,none⟩),.int .i64 y,.int .i64 f,.int .i64 o] T)) w.heap.size v y f o:=
 ⟨cell_of_row _ _ 0 _ _ (0,0) (heap_alloc_new w _),cell_of_row _ _ 1 _ _ (0,0) (heap_alloc_new w _),cell_of_row _ _ 2 _ _ (0,0) (heap_alloc_new w _),cell_of_row _ _ 3 _ _ (0,0) (heap_alloc_new w _)⟩
theorem Zb6.block{W W':World}{g v:Nat}{y f o:Int}(h:Zb6 W g v y f o)(hb:W'.heap[g]?=W.heap[g]?):Zb6 W' g v y f o:=
 ⟨(World.cell?_of_block (a:=⟨g,0,none⟩) hb).trans h.1,(World.cell?_of_block (a:=⟨g,1,none⟩) hb).trans h.2.1,(World.cell?_of_block (a:=⟨g,2,none⟩) hb).trans h.2.2.1,(World.cell?_of_block (a:=⟨g,3,none⟩) hb).trans h.2.2.2⟩
theorem Zb6.below{W W':World}{B g v:Nat}{y f o:Int}(h:Zb6 W g v y f o)(hb:Below B W W')(hg:g<B):Zb6 W' g v y f o:=h.block (hb.block g hg)
theorem ZfV(h:Ze w X v m c S)(y f o:Int)(hy:I64 y)(hf:I64 f)(ho:I64 o) :
 Calls prog 110 #[.agg #[.pointer (some ⟨v,0,none⟩),.int .i64 y,.int .i64 f,.int .i64 o]] w fun e w'=>e=.returned (.int .i64 (seqV (S.now (bKy y f o))))/\Below w.heap.size w w':=by
 obtain⟨w1,hw1⟩:∃w1,w1=w.alloc (.cells #[.pointer (some ⟨v,0,none⟩),.int .i64 y,.int .i64 f,.int .i64 o] 182):=⟨_,rfl⟩
 have hb1:Below w.heap.size w w1:=by rw[hw1];exact(Below.refl _ _).alloc (Nat.le_refl _) _
 have hlt:w.heap.size<w1.drew.heap.size:=by rw[hw1];show w.heap.size<(w.alloc _).heap.size;simp
 have hA:Zb6 w1.drew w.heap.size v y f o:=by rw[hw1];exact Zb6.made w _ v y f o
 have hT:=hb1.drew;have h1:Ze w1.drew X v m c S:=h.below hb1.drew;have C5:Hid (∀W,Below w1.drew.heap.size w1.drew W->Zb6 W w.heap.size v y f o):=hid fun W hW=>hA.below hW hlt
 have c5:w1.drew.cell? ⟨w.heap.size,0,none⟩=some (.pointer (some ⟨v,0,none⟩))/\w1.drew.cell? ⟨w.heap.size,1,none⟩=some (.int .i64 y)/\w1.drew.cell? ⟨w.heap.size,2,none⟩=some (.int .i64 f)/\w1.drew.cell? ⟨w.heap.size,3,none⟩=some (.int .i64 o):=hA;rw[<-ZkS];clear hA hb1 h;go_enter func110,ntmps110;go_wp2_with fail;rw[<-hw1];clear hw1
 go_region_held3 (fun W=>W.cell? ⟨w.heap.size,0,none⟩=some (.pointer (some ⟨v,0,none⟩))/\W.cell? ⟨w.heap.size,1,none⟩=some (.int .i64 y)/\W.cell? ⟨w.heap.size,2,none⟩=some (.int .i64 f)/\W.cell? ⟨w.heap.size,3,none⟩=some (.int .i64 o))
  (first|with_reducible exact c5|exact c5)
  (first
   | (go_at_call 199;refine Calls.mono (ZdM _ y f o _ hy hf ho) ?_;rintro e wk ⟨A,k,rfl,hk,hr,hbk⟩;have hg:=ZdE (k:=k) (h1.below hbk) hr (Nat.le_refl _) (by decide);have hT:=hT.trans (hbk.mono hT.size);have c5:=C5.out _ hbk;have hP:=hbk;clear hr hbk)
   | (go_at_call 109;refine Calls.mono hg ?_;rintro e wg ⟨u,rfl,hs,hbg⟩;have hT:=hT.trans (hbg.mono hT.size);have c5:=C5.out _ (hP.trans (hbg.mono hP.size));clear hg hbg))
 obtain⟨Au,nu,ku,rfl,hu1,hu2,hu3,_⟩:=hs;have HT:=hid hT;have HU:=hid (Zd9 hu3 (Nat.le_refl _) hu1 (Nat.le_trans hu2 (by unfold maxLen;omega)));clear hT c5 C5 h1 hP hu1 hu2 hu3;go_wp2_with fail;refine HU.out.mono ?_;rintro e w3⟨rfl,hb3⟩;have HE:=hid (HT.out.trans (hb3.mono HT.out.size));clear hb3 HU HT;go_wp2_with fail;go_ret;exact⟨rfl,HE.out⟩
theorem ZfW(h:Ze w X v m c S)(y f o:Int)(hy:I64 y)(hf:I64 f)(ho:I64 o) :
 Calls prog 55 #[.pointer (some ⟨v,0,none⟩),.int .i64 y,.int .i64 f,.int .i64 o] w fun e w'=>e=.returned (.int .i64 (seqV (S.now (bKy y f o))))/\Below w.heap.size w w':=by
 have HL:=hid (ZfV h y f o hy hf ho);generalize seqV (S.now (bKy y f o))=k at HL ⊢;clear h;go_enter func55,ntmps55;go_wp2_with fail;refine HL.out.mono ?_;rintro e w2⟨rfl,hb2⟩;have HE:=hid hb2;clear hb2 HL;go_wp2_with fail;go_ret;exact⟨rfl,HE.out⟩
end
def lineK(x:KV):Option Ln:=if(splitK x.1).2.2=true/\(splitK x.1).1.length=3 then(if(numB x.2).2=true then some ⟨(splitK x.1).1[1]?.getD 0,(splitK x.1).1[2]?.getD 0,0,(numB x.2).1⟩ else none)else none
def lnO:Option Ln->Value
 | some l=>.agg #[.int .i64 l.f,.int .i64 l.o,.int .i64 l.n,.int .i64 l.a]
 | none=>.agg #[.int .i64 0,.int .i64 0,.int .i64 0,.int .i64 0]
theorem ZcB{fn:Func}{p u:Tmp}{ty:TypeId}{P:Program}{w:World}(h:fn.results = #[.cell p ty,.tmp u])(tmps:Array Value)(g:Nat)(cs:Array Value)
 (hp:tmps.getD p undef=.pointer (some ⟨g,0,none⟩)) (hr:(loadVar ty ⟨g,0,none⟩).run P w=.ok (.agg cs) w) :
 (results fn tmps).run P w=.ok (.tuple #[.agg cs,tmps.getD u undef]) w:=by
 rw[results_cell_tmp h,hp];simp[asAddr,hr,Result.andThen]
theorem ZkT{w w':World}{g:Nat}(h:Below w.heap.size w w')(hg:w.heap.size<=g)(i:Nat)(x:Value):Below w.heap.size w (w'.setCell ⟨g,i,none⟩ x):=h.setCell hg x
theorem Zal{w:World}{g o:Nat}{cs:Array Value}{T:TypeId}(h:w.heap[g]?=some (.cells cs T (0,0))):w.frozen? ⟨g,o,none⟩=false:=by simp[World.frozen?,h]
theorem ZbF:(prog.info? 34).map (·.size)=some 4:=by kernel_rfl
theorem Zc2{w:World}{g:Nat}{T:TypeId}{z0 z1 z2 z3:Value}{x0 x1 x2 x3:Value}(h:w.heap[g]?=some (.cells #[z0,z1,z2,z3] T (0,0))):((((w.setCell ⟨g,0,none⟩ x0).setCell ⟨g,1,none⟩ x1).setCell ⟨g,2,none⟩ x2).setCell ⟨g,3,none⟩ x3).heap[g]?=some (.cells #[x0,x1,x2,x3] T (0,0)):=by
 have h1:(w.setCell ⟨g,0,none⟩ x0).heap[g]?=some (.cells #[x0,z1,z2,z3] T (0,0)):=heap_setCell_same _ g 0 _ T x0 h;have h2:((w.setCell ⟨g,0,none⟩ x0).setCell ⟨g,1,none⟩ x1).heap[g]?=some (.cells #[x0,x1,z2,z3] T (0,0)):=heap_setCell_same _ g 1 _ T x1 h1;have h3:(((w.setCell ⟨g,0,none⟩ x0).setCell ⟨g,1,none⟩ x1).setCell ⟨g,2,none⟩ x2).heap[g]?=some (.cells #[x0,x1,x2,z3] T (0,0)):=heap_setCell_same _ g 2 _ T x2 h2;have h4:((((w.setCell ⟨g,0,none⟩ x0).setCell ⟨g,1,none⟩ x1).setCell ⟨g,2,none⟩ x2).setCell ⟨g,3,none⟩ x3).heap[g]?=some (.cells #[x0,x1,x2,x3] T (0,0)):=heap_setCell_same _ g 3 _ T x3 h3;exact h4
theorem ZF{w:World}{g:Nat}{T:TypeId}{z0 z1 z2 z3:Value}(h:w.heap[g]?=some (.cells #[z0,z1,z2,z3] T (0,0))):w.cell? ⟨g,0,none⟩=some z0/\w.cell? ⟨g,1,none⟩=some z1/\w.cell? ⟨g,2,none⟩=some z2/\w.cell? ⟨g,3,none⟩=some z3:=
 ⟨cell_of_row w g 0 _ T (0,0) h,cell_of_row w g 1 _ T (0,0) h,cell_of_row w g 2 _ T (0,0) h,cell_of_row w g 3 _ T (0,0) h⟩
theorem ZjG{w0 w:World}{g:Nat}(h:Below w0.heap.size w0 w)(hg:w0.heap.size<=g)(x0 x1 x2 x3:Value):Below w0.heap.size w0 ((((w.setCell ⟨g,0,none⟩ x0).setCell ⟨g,1,none⟩ x1).setCell ⟨g,2,none⟩ x2).setCell ⟨g,3,none⟩ x3):=ZkT (ZkT (ZkT (ZkT h hg 0 x0) hg 1 x1) hg 2 x2) hg 3 x3
theorem ZgU(ka:Option Addr)(kn kc:Nat)(va:Option Addr)(vn vc:Nat)(p:KV)(B:Nat)(w:World)(hk:RB w B ka kn p.1)(hv:RB w B va vn p.2)(hB:B<=w.heap.size)(hkc:kn<=kc)(hvc:vn<=vc)(hkm:kn<=maxLen)(hvm:vn<=maxLen) :
 Calls prog 218 #[.agg #[.slice ka kn kc,.slice va vn vc]] w fun e w'=>e=.returned (.tuple #[lnO (lineK p),.bool (lineK p).isSome])/\Below w.heap.size w w':=by
 obtain⟨w1,hw1⟩:∃w1,w1=((w.alloc (.cells #[.slice ka kn kc,.slice va vn vc] 101)).alloc (.cells #[.int .i64 0,.int .i64 0,.int .i64 0,.int .i64 0] 34)):=⟨_,rfl⟩
 have hb1:Below w.heap.size w w1:=by rw[hw1];exact((Below.refl _ _).alloc (Nat.le_refl _) _).alloc (by simp) _
 have g0:w1.heap[w.heap.size]?=some (.cells #[.slice ka kn kc,.slice va vn vc] 101 (0,0)):=by rw[hw1];exact(((Below.refl (w.alloc _).heap.size _).alloc (Nat.le_refl _) _).block _ (by simp)).trans (heap_alloc_new _ _)
 have g1:w1.heap[w.heap.size+1]?=some (.cells #[.int .i64 0,.int .i64 0,.int .i64 0,.int .i64 0] 34 (0,0)):=by rw[hw1];exact heap_alloc2_new _ _ _
 have hs1:w1.heap.size=w.heap.size+2:=by rw[hw1];simp
 have c0:w1.cell? ⟨w.heap.size,0,none⟩=some (.slice ka kn kc):=cell_of_row w1 _ 0 _ _ (0,0) g0;have C1:=hid (show ∀W,Below w1.heap.size w1 W->W.cell? ⟨w.heap.size,1,none⟩=some (.slice va vn vc)from fun W hW=>(hW.cell (p:=⟨w.heap.size,1,none⟩) (by show w.heap.size<w1.heap.size;omega)).trans (cell_of_row w1 _ 1 _ _ (0,0) g0));have HS:=hid (Zgt ka kn kc B p.1 w1 (hk.below (hb1.mono hB)) (Nat.le_trans hB hb1.size) hkc hkm);have HNU:=hid (show ∀W,Below w1.heap.size w1 W->Calls prog 200 #[.slice va vn vc] W fun e w'=>e=.returned (.tuple #[.int .i64 (numB p.2).1,.bool (numB p.2).2])/\Below W.heap.size W w' from fun W hW=>Zd9 (hv.below ((hb1.trans (hW.mono hb1.size)).mono hB)) (Nat.le_trans hB (Nat.le_trans hb1.size hW.size)) hvc hvm);have HLK:=hid (show lineK p=if(splitK p.1).2.2=true/\(splitK p.1).1.length=3 then(if(numB p.2).2=true then some ⟨(splitK p.1).1[1]?.getD 0,(splitK p.1).1[2]?.getD 0,0,(numB p.2).1⟩ else none)else none from rfl);have HZ:=hid (fun(W:World) (h:Below w1.heap.size w1 W)=>show W.heap[w.heap.size+1]?=some (.cells #[.int .i64 0,.int .i64 0,.int .i64 0,.int .i64 0] 34 (0,0))from(h.block _ (by omega)).trans g1);have HB1:=hid hb1;generalize lineK p=L at HLK ⊢;generalize splitK p.1=sp at HS HLK;generalize numB p.2=nb at HNU HLK;obtain⟨nums,tag,ok⟩:=sp;obtain⟨x,xok⟩:=nb;clear g0 g1 hs1 hk hv hb1;go_enter func218,ntmps218;go_wp2_with fail;rw[<-hw1];clear hw1;go_wp2_with fail;refine HS.out.mono ?_;clear HS;rintro e w2⟨A,n,c,rfl,hnc,hn1,hri,hb2⟩;have hlen:=hri.len;by_cases hok:ok=true/\n=3
 · obtain⟨rfl,rfl⟩:=hok;obtain⟨b,o,rfl,hbb,hcell⟩:=hri.2.2 (by omega);have HN:=hid (HNU.out w2 hb2);have c1:=C1.out w2 hb2;have HC:=hid (show ∀W,Below w2.heap.size w2 W->W.cell? ⟨b,o+1,none⟩=some (.int .i64 (nums[1]?.getD 0))/\W.cell? ⟨b,o+2,none⟩=some (.int .i64 (nums[2]?.getD 0))from fun W hW=>⟨(hW.cell (p:=⟨b,o+1,none⟩) hbb).trans (hcell 1 (by omega)),(hW.cell (p:=⟨b,o+2,none⟩) hbb).trans (hcell 2 (by omega))⟩);have HB2:=hid hb2
   have HLK2:=hid (show L=if xok=true then some ⟨nums[1]?.getD 0,nums[2]?.getD 0,0,x⟩ else none from by
    have:=HLK.out
    rwa[if_pos ⟨rfl,hlen⟩]at this)
   clear hri hcell hb2 hlen HLK C1 HNU c0;go_wp2_with fail;refine HN.out.mono ?_;rintro e w3⟨rfl,hb3⟩;have hb13:=HB2.out.trans (hb3.mono HB2.out.size);have g3:=HZ.out w3 hb13;have HC3:=hid (HC.out w3 hb3);have hb03:=HB1.out.trans (hb13.mono HB1.out.size);clear HC HN c1 hb13 hb3;cases xok with
   | false=>
    have HL:=hid (show L=none from HLK2.out);obtain⟨z0,z1,z2,z3⟩:=ZF g3;have f0:=Zal (o:=0) g3;have f1:=Zal (o:=1) g3;have f2:=Zal (o:=2) g3;have f3:=Zal (o:=3) g3;have HG:=hid (Zc2 (x0:=.int .i64 0) (x1:=.int .i64 0) (x2:=.int .i64 0) (x3:=.int .i64 0) g3);have HB:=hid (ZjG (g:=w.heap.size+1) hb03 (Nat.le_succ _) (.int .i64 0) (.int .i64 0) (.int .i64 0) (.int .i64 0));clear g3 hb03;go_wp2_with fail;refine bodyPost_ret (ZcB rfl _ (w.heap.size+1) _ rfl (run_loadVar_row _ _ _ _ _ (0,0) _ HG.out underlying34 rfl ZbF)) rfl ?_;rw[HL.out];exact⟨rfl,HB.out⟩
   | true=>
    have HL:=hid (show L=some ⟨nums[1]?.getD 0,nums[2]?.getD 0,0,x⟩ from HLK2.out);generalize nums[1]?.getD 0=n1 at HC3 HL;generalize nums[2]?.getD 0=n2 at HC3 HL;have HG:=hid (Zc2 (w:=w3.drew) (x0:=.int .i64 n1) (x1:=.int .i64 n2) (x2:=.int .i64 0) (x3:=.int .i64 x) g3);have HB:=hid (ZjG (g:=w.heap.size+1) hb03.drew (Nat.le_succ _) (.int .i64 n1) (.int .i64 n2) (.int .i64 0) (.int .i64 x));have HZ3:=hid (show w3.drew.heap[w.heap.size+1]?=_ from g3);have HT:Hid (w3.drew.cell? ⟨b,o+1,none⟩=some (.int .i64 n1)/\w3.drew.cell? ⟨b,o+2,none⟩=some (.int .i64 n2)):=hid HC3.out;obtain⟨s1,s2⟩:=HC3.out;clear g3 hb03 HC3 HLK2;go_wp2_with fail
    go_still_tail 8,(by kernel_rfl)
    change wpList _ _ _ _ _ w3.drew;obtain⟨w4,hw4⟩:∃w4:World,w4=w3.drew:=⟨_,rfl⟩
    rw[<-hw4]at HT HG HB HZ3 ⊢;clear hw4 s1 s2 HZ;obtain⟨s1,s2⟩:=HT.out;obtain⟨z0,z1,z2,z3⟩:=ZF HZ3.out;have f0:=Zal (o:=0) HZ3.out;have f1:=Zal (o:=1) HZ3.out;have f2:=Zal (o:=2) HZ3.out;have f3:=Zal (o:=3) HZ3.out;go_wp2_with fail;refine bodyPost_ret (ZcB rfl _ (w.heap.size+1) _ rfl (run_loadVar_row _ _ _ _ _ (0,0) _ HG.out underlying34 rfl ZbF)) rfl ?_;rw[HL.out];exact⟨rfl,HB.out⟩
 · have HL:=hid (show L=none from by
    have:=HLK.out
    rwa[if_neg (show ¬(ok=true/\nums.length=3)from fun q=>hok ⟨q.1,by rw[<-hlen];exact q.2⟩)]at this)
   have g3:=HZ.out w2 hb2;obtain⟨z0,z1,z2,z3⟩:=ZF g3;have f0:=Zal (o:=0) g3;have f1:=Zal (o:=1) g3;have f2:=Zal (o:=2) g3;have f3:=Zal (o:=3) g3;have HG:=hid (Zc2 (x0:=.int .i64 0) (x1:=.int .i64 0) (x2:=.int .i64 0) (x3:=.int .i64 0) g3);have HB:=hid (ZjG (g:=w.heap.size+1) (HB1.out.trans (hb2.mono HB1.out.size)) (Nat.le_succ _) (.int .i64 0) (.int .i64 0) (.int .i64 0) (.int .i64 0));clear g3 hri hb2 HLK C1 HNU c0;cases ok with
   | false=>
    clear hok hlen;go_wp2_with fail;refine bodyPost_ret (ZcB rfl _ (w.heap.size+1) _ rfl (run_loadVar_row _ _ _ _ _ (0,0) _ HG.out underlying34 rfl ZbF)) rfl ?_;rw[HL.out];exact⟨rfl,HB.out⟩
   | true=>
    have hn3:((n:Int) != 3)=true:=by simp;exact fun q=>hok ⟨rfl,by omega⟩
    clear hok hlen;go_wp2_with fail;refine bodyPost_ret (ZcB rfl _ (w.heap.size+1) _ rfl (run_loadVar_row _ _ _ _ _ (0,0) _ HG.out underlying34 rfl ZbF)) rfl ?_;rw[HL.out];exact⟨rfl,HB.out⟩
def Zas(ps:List KV):List Ln:=ps.filterMap lineK
theorem ZfX(ps:List KV):(Zas ps).length<=ps.length:=List.length_filterMap_le _ _
theorem ZjH{ps:List KV}{k:Nat}{x:KV}(h:ps[k]?=some x):Zas (ps.take (k+1))=Zas (ps.take k)++(lineK x).toList:=by
 obtain⟨hk,rfl⟩:=List.getElem?_eq_some_iff.1 h;unfold Zas;rw[List.take_succ_eq_append_getElem hk,List.filterMap_append]
 congr 1
theorem ZgV{l:List Int}(h:∀x∈l,-9223372036854775808<=x/\x<=9223372036854775807)(k:Nat):I64 (l[k]?.getD 0):=by
 rcases Nat.lt_or_ge k l.length with hk|hk
 · rw[List.getElem?_eq_getElem hk];exact h _ (List.getElem_mem hk)
 · rw[List.getElem?_eq_none hk];exact⟨by decide,by decide⟩
theorem ZoB{b:List Int}(hb:Zm b):I64 (numB b).1:=by
 unfold numB;split
 · refine ZgV (fun x hx=>?_) 0;unfold unpackR at hx
   split at hx
   · split at hx
     · exact Z1 8 b _ _ hb x hx
     · cases hx
   · cases hx
 · exact⟨by decide,by decide⟩
theorem ZeQ{b:List Int}(hb:Zm b):∀x∈(splitK b).1,-9223372036854775808<=x/\x<=9223372036854775807:=by
 intro x hx;unfold splitK Zco at hx
 split at hx
 · exact Z1 4 b _ _ hb x hx
 · cases hx
theorem ZkU{x:KV}(hk:Zm x.1)(hv:Zm x.2){l:Ln}(h:lineK x=some l):Za7 l:=by
 unfold lineK at h
 split at h
 · split at h
   · obtain rfl:=Option.some.inj h;exact⟨ZgV (ZeQ hk) 1,ZgV (ZeQ hk) 2,(show B64 0 by unfold B64;omega),ZoB hv⟩
   · cases h
 · cases h
def ZeR(ps:List KV):Prop:=∀x∈ps,Zm x.1/\Zm x.2
theorem ZmL{ps:List KV}(h:ZeR ps):∀l∈Zas ps,Za7 l:=by
 intro l hl;obtain⟨q,hq,e⟩:=List.mem_filterMap.1 hl;exact ZkU (h q hq).1 (h q hq).2 e
def ZmM(w:World)(v:Nat)(y:Int)(ps:List KV):Prop:=
 ∀W A k,Below w.heap.size w W->RB W W.heap.size A 5 (Zi 66 [y])->Calls prog 84 #[.pointer (some ⟨v,0,none⟩),.slice A 5 k] W fun e w'=>∃A' n' k',e=.returned (.slice A' n' k')/\n'<=k'/\Zat w' w'.heap.size A' n' ps/\Below W.heap.size W w'
theorem ZgW(y:Int):(Zi 66 [y]).length=5:=by unfold Zi;rw[Zt];rfl
section
variable{w w':World}{v:Nat}
theorem ZmN{ps:List KV}{y:Int}(hy:0<=y/\y<=4294967295)(hs:ZmM w v y ps)(hl:ps.length<=2147483647) :
 Calls prog 133 #[.pointer (some ⟨v,0,none⟩),.int .i64 y] w fun e w'=>∃u,e=.returned u/\Z8 w' w.heap.size u (Zas ps)/\ZeR ps/\Below w.heap.size w w':=by
 have k1:decide (y<0)=false:=decide_eq_false (by omega);have k2:decide (y>4294967295)=false:=decide_eq_false (by omega);have hl1:=ZhJ w 3 [y] #[.int .i64 y] rfl (fun x hx=>by obtain rfl:=List.mem_singleton.1 hx;omega);have hb0:Below w.heap.size w (w.alloc (.cells #[.int .i64 y] 3)):=(Below.refl _ _).alloc (Nat.le_refl _) _;have HK:=hid (ZfU _ 1 1 _ [y] _ hl1 (by simp) (Nat.le_refl _) (by decide));have HB0:=hid hb0;have HS:=hid hs;have HL:=hid hl;clear hs hl hy hl1 hb0;go_enter func133,ntmps133;go_wp2_with fail;refine HK.out.mono ?_;rintro e w1⟨u,rfl,ho⟩;obtain⟨A,k,rfl,h1,h2⟩:=ho.read (Zk (by omega) _);have hb01:=HB0.out.trans (ho.2.mono HB0.out.size);rw[ZgW]at h1 h2 ⊢;have HC:=hid (HS.out w1 A k hb01 h2);have HB1:=hid hb01;clear ho h1 h2 HK HS hb01;go_wp2_with fail;refine HC.out.mono ?_;rintro e w2⟨A2,n,k2',rfl,hnk,hp,hb2⟩;have HP:=hid hp;have HB2:=hid (HB1.out.trans (hb2.mono HB1.out.size));have hn:n<=2147483647:=by rw[<-hp.len];exact HL.out
 clear hp hb2 HC HB1 HL;go_wp2_with fail
 go_loopw[5,22] (fun u i wr=>∃k:Nat,k<=n/\i=.int .i64 k/\Hid (Z8 wr w2.heap.size u (Zas (ps.take k))/\ZeR (ps.take k))/\Hid (Below w2.heap.size w2 wr)) (fun _ i _=>n-(intOf i).toNat)
 case atStart=>exact⟨0,Nat.zero_le _,rfl,hid ⟨Z8.start _ _,fun x hx=>by cases hx⟩,hid (Below.refl _ _)⟩
 case round=>
  obtain⟨k,hk,rfl,hown,hbw⟩:=hrel;by_cases hlt:k<n
  · have hlt':(k:Int)<(n:Int):=by omega
    obtain⟨bb,off,rfl,hbb,hat⟩:=HP.out.2 (by omega);obtain⟨x,hx⟩:∃x,ps[k]?=some x:=⟨_,List.getElem?_eq_getElem (by rw[HP.out.len];exact hlt)⟩
    obtain⟨ka,kn,kc,va,vn,vc,h0,h1,h2,⟨h3a,h3b⟩,h4,⟨h5a,h5b⟩⟩:=(hat k x hx).keep hbb (fun b o hbb=>hbw.out.cell (p:=⟨b,o,none⟩) hbb);have hst:=ZjH hx;have hlen:(Zas (ps.take k)).length<=k:=Nat.le_trans (ZfX _) (by rw[List.length_take];exact Nat.min_le_left _ _)
    have hPB:=hid (show ZeR (ps.take (k+1))from by
     obtain⟨hk',e⟩:=List.getElem?_eq_some_iff.1 hx;rw[List.take_succ_eq_append_getElem hk',e];intro z hz;rcases List.mem_append.1 hz with hz|hz
     · exact hown.out.2 z hz
     · obtain rfl:=List.mem_singleton.1 hz
       exact⟨h2.bytes,h4.bytes⟩)
    have hxok:=hid (show ∀l,lineK x=some l->Za7 l from fun l h=>ZkU h2.bytes h4.bytes h);obtain⟨w3,hw3⟩:∃w3,w3=wr.alloc (.cells #[.slice ka kn kc,.slice va vn vc] 101):=⟨_,rfl⟩
    have hba:Below wr.heap.size wr w3:=by rw[hw3];exact(Below.refl _ _).alloc (Nat.le_refl _) _
    have q0:w3.cell? ⟨wr.heap.size,0,none⟩=some (.slice ka kn kc):=by rw[hw3];exact cell_of_row _ _ 0 _ _ (0,0) (heap_alloc_new wr _)
    have q1:w3.cell? ⟨wr.heap.size,1,none⟩=some (.slice va vn vc):=by rw[hw3];exact cell_of_row _ _ 1 _ _ (0,0) (heap_alloc_new wr _)
    have HG:=hid (ZgU ka kn kc va vn vc x w2.heap.size w3 (h2.below (hba.mono hbw.out.size)) (h4.below (hba.mono hbw.out.size)) (Nat.le_trans hbw.out.size hba.size) h3a h5a h3b h5b);have HA:=hid (hbw.out.trans (hba.mono hbw.out.size));have HO:=hid (hown.out.1.below hba);generalize lineK x=L at HG hst hxok;have HST:=hid hst;clear hat hx h2 h4 hown hbw hba hst;go_wp2_with fail;rw[<-hw3];go_wp2_with fail;refine HG.out.mono ?_;rintro e w4⟨rfl,hb4⟩;have ha4:=HA.out.trans (hb4.mono HA.out.size);have ho4:=HO.out.below hb4;clear HA HO HG hb4 hw3 q0 q1 h3a h3b h5a h5b h0 h1;cases L with
    | none=>
     have hX:Below w4.heap.size w4 (w4.alloc (.cells #[.int .i64 0,.int .i64 0,.int .i64 0,.int .i64 0] 34 (0,0))):=(Below.refl _ _).alloc (Nat.le_refl _) _;have HE:=hid (show Z8 (w4.alloc (.cells #[.int .i64 0,.int .i64 0,.int .i64 0,.int .i64 0] 34 (0,0))) w2.heap.size _ (Zas (ps.take (k+1)))/\ZeR (ps.take (k+1))from⟨by rw[HST.out];show Z8 _ _ _ (_++[]);rw[List.append_nil];exact ho4.below hX,hPB.out⟩);have HB:=hid (ha4.trans (hX.mono ha4.size));clear hX ha4 ho4;unfold lnO;go_wp2_with fail;go_roundw
     case rel=>exact⟨k+1,by omega,by go_num,HE,HB⟩
     case measure=>simp[intOf];omega
    | some l=>
     have hok:=hxok.out l rfl;obtain⟨f,o,nn,a⟩:=l;have hX:Below w4.heap.size w4 (w4.alloc (.cells #[.int .i64 f,.int .i64 o,.int .i64 nn,.int .i64 a] 34 (0,0))):=(Below.refl _ _).alloc (Nat.le_refl _) _;obtain⟨wx,hwx⟩:∃wx,wx=w4.alloc (.cells #[.int .i64 f,.int .i64 o,.int .i64 nn,.int .i64 a] 34 (0,0)):=⟨_,rfl⟩
     have hblk:wx.heap[w4.heap.size]?=some (.cells #[.int .i64 f,.int .i64 o,.int .i64 nn,.int .i64 a] 34 (0,0)):=by rw[hwx];exact heap_alloc_new w4 _
     have hsz:wx.heap.size=w4.heap.size+1:=by rw[hwx];simp
     rw[<-hwx]at hX;obtain⟨r0,r1,r2,r3⟩:=ZF hblk;have hY:Below wx.heap.size wx (wx.alloc (.cells #[.int .i64 f,.int .i64 o,.int .i64 nn,.int .i64 a] 34 (0,0))):=(Below.refl _ _).alloc (Nat.le_refl _) _;have hXY:=hX.trans (hY.mono hX.size);obtain⟨v',w6,hrun,hown6,hb6,_⟩:=(ho4.below hXY).append1 (x:=⟨f,o,nn,a⟩) (heap_alloc_new wx _) hok (by omega) (Nat.le_trans ha4.size hXY.size) 35;rw[hsz]at hrun;have HE:=hid (show Z8 w6 w2.heap.size v' (Zas (ps.take (k+1)))/\ZeR (ps.take (k+1))from⟨by rw[HST.out];exact hown6,hPB.out⟩);have HB:=hid ((ha4.trans (hXY.mono ha4.size)).trans hb6);subst hwx;have HRUN:=hid hrun;clear hX hY hXY ha4 ho4 hrun hown6 hb6 hblk hok hsz;unfold lnO
     go_wp2_with (at_builtin;refine Lib.wpList_append_run _ rfl _ _ _ _ rfl _ _ rfl rfl _ _ HRUN.out ?_)
     go_roundw
     case rel=>exact⟨k+1,by omega,by go_num,HE,HB⟩
     case measure=>simp[intOf];omega
  · obtain rfl:k=n:=by omega
    have HE:=hid (show Z8 wr w.heap.size _ (Zas ps)/\ZeR ps from by
     have h:=hown.out;rw[List.take_of_length_le (by rw[HP.out.len];exact Nat.le_refl _)]at h
     exact⟨h.1.base_le HB2.out.size,h.2⟩)
    clear hown;go_wp2;go_ret;exact⟨_,rfl,HE.out.1,HE.out.2,HB2.out.trans (hbw.out.mono HB2.out.size)⟩
theorem Zlz{X:Nat->Prop}{m c:Nat}{S:VS}(h:Ze w X v m c S)(hS:ZnR S)(hW:S.W.length<=2147000000){y:Int}(hy:0<=y/\y<=4294967295) :
 Calls prog 133 #[.pointer (some ⟨v,0,none⟩),.int .i64 y] w fun e w'=>∃A k,e=.returned (.slice A (Zas ((S.scan (tx (Zi 66 [y]))).map Zaq)).length k)/\(Zas ((S.scan (tx (Zi 66 [y]))).map Zaq)).length<=k/\RL w' w'.heap.size A (Zas ((S.scan (tx (Zi 66 [y]))).map Zaq)).length (Zas ((S.scan (tx (Zi 66 [y]))).map Zaq))/\Below w.heap.size w w':=by
 refine(ZmN (ps:=(S.scan (tx (Zi 66 [y]))).map Zaq) hy (fun W A k hb hr=>ZjA (h.below hb) hS.wf hS.wk hS.cf hS.ck hr (Nat.le_refl _)) ?_).mono ?_
 · rw[List.length_map]
   have:=Zli S (tx (Zi 66 [y]));have:=hS.cf
   omega
 · rintro e w'⟨u,rfl,ho,hpb,hb⟩;obtain⟨A,k,rfl,hk⟩:=ho.shape;exact⟨A,k,rfl,hk,(ho.read (ZmL hpb)).2.2,hb⟩
end
theorem ZkV(y f o x:Int):putE (Zi 66 [y,f,o]) (Zj 8 [x])=0:=by
 have h8:(Zj 8 [x]).length=8:=by rw[Zh];rfl
 unfold putE;rw[ZfT,h8];exact if_neg (by rintro(a|a|a) <;> omega)
section
variable{w w':World}{X:Nat->Prop}{v m c:Nat}{S:VS}
theorem ZlA(h:Ze w X v m c S)(y f o s:Int)(hy:I64 y)(hf:I64 f)(ho:I64 o)(hs:I64 s)(hC:S.C.length<maxLen) :
 Calls prog 301 #[.agg #[.pointer (some ⟨v,0,none⟩),.int .i64 y,.int .i64 f,.int .i64 o],.int .i64 s] w fun e w'=>e=.returned (.int .i64 0)/\Ze w' X v m c (S.setB (bKy y f o) s)/\Za (fun k=>k=c) w w':=by
 obtain⟨w1,hw1⟩:∃w1,w1=w.alloc (.cells #[.pointer (some ⟨v,0,none⟩),.int .i64 y,.int .i64 f,.int .i64 o] 182):=⟨_,rfl⟩
 have hb1:Below w.heap.size w w1:=by rw[hw1];exact(Below.refl _ _).alloc (Nat.le_refl _) _
 have hA:Zb6 w1 w.heap.size v y f o:=by rw[hw1];exact Zb6.made w _ v y f o
 have hlt:w.heap.size<w1.heap.size:=by rw[hw1];simp
 have C5:Hid (∀W,Below w1.heap.size w1 W->Zb6 W w.heap.size v y f o):=hid fun W hW=>hA.below hW hlt
 have HV:=hid (h.below hb1);have hcw:w.heap.size≠c:=Nat.ne_of_gt (h.lt c h.xc);have hP:Below w1.heap.size w1 w1.drew:=(Below.refl _ _).drew;have c5:w1.drew.cell? ⟨w.heap.size,0,none⟩=some (.pointer (some ⟨v,0,none⟩))/\w1.drew.cell? ⟨w.heap.size,1,none⟩=some (.int .i64 y)/\w1.drew.cell? ⟨w.heap.size,2,none⟩=some (.int .i64 f)/\w1.drew.cell? ⟨w.heap.size,3,none⟩=some (.int .i64 o):=C5.out _ hP;have hv:Ze w1.drew X v m c S:=HV.out.below hP;have HB:=hid hb1;clear h hb1 hA;by_cases h0:s=0
 · subst h0;have eS:S.setB (bKy y f o) 0=S.del (bKy y f o):=if_pos rfl;rw[eS];clear eS;go_enter func301,ntmps301;go_wp2_with fail;rw[<-hw1];clear hw1 HV
   go_region_held3 (fun W=>W.cell? ⟨w.heap.size,0,none⟩=some (.pointer (some ⟨v,0,none⟩))/\W.cell? ⟨w.heap.size,1,none⟩=some (.int .i64 y)/\W.cell? ⟨w.heap.size,2,none⟩=some (.int .i64 f)/\W.cell? ⟨w.heap.size,3,none⟩=some (.int .i64 o))
    (first|with_reducible exact c5|exact c5)
    (first
     | (go_at_call 199;refine Calls.mono (ZdM _ y f o _ hy hf ho) ?_;rintro e wk ⟨A,j,rfl,hj,hr,hbk⟩;have hv:=hv.below hbk;have hP:=hP.trans (hbk.mono hP.size);have c5:=C5.out _ hP;have hdel:=ZkJ (k:=j) hv hr (Nat.le_refl _) (by decide) hC)
     | (go_at_call 311;refine Calls.mono hdel ?_;rintro e wq ⟨rfl,hvq,htq⟩;have c5:=Zb6.block c5 (htq.block w.heap.size (Nat.lt_of_lt_of_le hlt hP.size) hcw)))
   all_goals have HE:=hid (And.intro hvq ((Za.of_below (HB.out.trans (hP.mono HB.out.size))).trans htq))
   all_goals clear hvq htq hdel hr hbk hv hP c5 C5 HB
   all_goals go_wp2_with fail
   all_goals go_ret
   all_goals exact⟨rfl,HE.out⟩
 have d0:(s == 0)=false:=by simp[h0]
 have eS:S.setB (bKy y f o) s=S.putR (Zi 66 [y,f,o]) (Zj 8 [s]):=by unfold VS.setB VS.putR;rw[if_neg h0,ZkV];rfl
 rw[eS];have HR:Hid (∀W,Below (w1.drew.alloc (.cells #[.int .i64 s] 3 (0,0))).heap.size (w1.drew.alloc (.cells #[.int .i64 s] 3 (0,0))) W->W.heap[w1.heap.size]?=some (.cells #[.int .i64 s] 3 (0,0))):=hid fun W hW=>(hW.block _ (by show w1.heap.size<(w1.drew.alloc _).heap.size;simp)).trans (heap_alloc_new w1.drew _)
 clear h0 eS;go_enter func301,ntmps301;go_wp2_with fail;rw[<-hw1];clear hw1 HV
 go_region_held3 (fun W=>W.cell? ⟨w.heap.size,0,none⟩=some (.pointer (some ⟨v,0,none⟩))/\W.cell? ⟨w.heap.size,1,none⟩=some (.int .i64 y)/\W.cell? ⟨w.heap.size,2,none⟩=some (.int .i64 f)/\W.cell? ⟨w.heap.size,3,none⟩=some (.int .i64 o))
  (first|with_reducible exact c5|exact c5|exact C5.out _ (hP.alloc hP.size _))
  (first
   | (go_at_call 199;refine Calls.mono (ZdM _ y f o _ hy hf ho) ?_;rintro e wk ⟨A,j,rfl,hj,hr,hbk⟩;(first|have hv:=hv.below hbk|have hv:=(hv.alloc _).below hbk);(first|have hP:=hP.trans (hbk.mono hP.size)|have hP:=(hP.alloc hP.size _).trans (hbk.mono (hP.alloc hP.size _).size));have c5:=C5.out _ hP;have hpB:=Za6 s (wk.alloc (.cells #[.int .i64 s] 3 (0,0))) wk.heap.size 3 (heap_alloc_new _ _) hs;(first|have hpC:=Za6 s wk w1.heap.size 3 (HR.out _ hbk) hs|skip))
   | (go_at_call 177;(first|with_reducible refine Calls.mono hpB ?_|with_reducible refine Calls.mono hpC ?_);rintro e wp ⟨A2,j2,rfl,hj2,hr2,hbp⟩;(first|(have hr:=(hr.below hbp).more hbp.size;have hv:=hv.below hbp;have hP:=hP.trans (hbp.mono hP.size))|(have hba:=(Below.refl wk.heap.size wk).alloc (Nat.le_refl _) (.cells #[.int .i64 s] 3 (0,0));have hr:=(hr.below hba).more hba.size;have hr:=(hr.below hbp).more hbp.size;have hv:=(hv.alloc (.cells #[.int .i64 s] 3 (0,0))).below hbp;have hP:=(hP.alloc hP.size (.cells #[.int .i64 s] 3 (0,0))).trans (hbp.mono (hP.alloc hP.size (.cells #[.int .i64 s] 3 (0,0))).size)));have c5:=C5.out _ hP;have hput:=ZcU (k:=j) (k':=j2) hv hr (Nat.le_refl _) (by decide) hr2 (Nat.le_refl _) (by decide) hC;rw[ZkV]at hput)
   | (go_at_call 96;refine Calls.mono hput ?_;rintro e wq ⟨rfl,hvq,htq⟩;have c5:=Zb6.block c5 (htq.block w.heap.size (Nat.lt_of_lt_of_le hlt hP.size) hcw)))
 all_goals have HE:=hid (And.intro hvq ((Za.of_below (HB.out.trans (hP.mono HB.out.size))).trans htq))
 all_goals clear hvq htq hput hr hr2 hbk hbp hv hP c5 C5 HR HB hpB
 all_goals try clear hba
 all_goals try clear hpC
 all_goals go_wp2_with fail
 all_goals go_ret
 all_goals exact⟨rfl,HE.out⟩
theorem ZmO{b a:Int}(h:(amtAddR b a).2=0):I64 (amtAddR b a).1:=by
 obtain⟨_,_,h3,h4⟩:=ZdL h;rw[h4];exact⟨by have:=h3.1;omega,by have:=h3.2;omega⟩
theorem ZlB(h:Ze w X v m c S)(y f o n a:Int)(hy:I64 y)(hf:I64 f)(ho:I64 o)(hC:S.C.length<maxLen) :
 Calls prog 278 #[.pointer (some ⟨v,0,none⟩),.int .i64 y,.agg #[.int .i64 f,.int .i64 o,.int .i64 n,.int .i64 a]] w fun e w'=>e=.returned (.int .i64 (amtAddR (seqV (S.now (bKy y f o))) a).2)/\Ze w' X v m c (S.addB (bKy y f o) a)/\Za (fun k=>k=c) w w':=by
 obtain⟨wa,hwa⟩:∃wa,wa=w.alloc (.cells #[.int .i64 f,.int .i64 o,.int .i64 n,.int .i64 a] 34):=⟨_,rfl⟩
 have hza:wa.heap.size=w.heap.size+1:=by rw[hwa];simp
 have hba:Below w.heap.size w wa:=by rw[hwa];exact(Below.refl _ _).alloc (Nat.le_refl _) _
 have l0:wa.cell? ⟨w.heap.size,0,none⟩=some (.int .i64 f):=by rw[hwa];exact cell_of_row _ _ 0 _ _ (0,0) (heap_alloc_new w _)
 have l1:wa.cell? ⟨w.heap.size,1,none⟩=some (.int .i64 o):=by rw[hwa];exact cell_of_row _ _ 1 _ _ (0,0) (heap_alloc_new w _)
 have l3:wa.cell? ⟨w.heap.size,3,none⟩=some (.int .i64 a):=by rw[hwa];exact cell_of_row _ _ 3 _ _ (0,0) (heap_alloc_new w _)
 obtain⟨w1,hw1⟩:∃w1,w1=wa.alloc (.cells #[.pointer (some ⟨v,0,none⟩),.int .i64 y,.int .i64 f,.int .i64 o] 182):=⟨_,rfl⟩
 have hb01:Below wa.heap.size wa w1:=by rw[hw1];exact(Below.refl _ _).alloc (Nat.le_refl _) _
 have hb1:Below w.heap.size w w1:=hba.trans (hb01.mono hba.size);have hz1:w1.heap.size=wa.heap.size+1:=by rw[hw1];simp
 have hA:Zb6 w1 wa.heap.size v y f o:=by rw[hw1];exact Zb6.made wa _ v y f o
 have l3':w1.cell? ⟨w.heap.size,3,none⟩=some (.int .i64 a):=(hb01.cell (p:=⟨w.heap.size,3,none⟩) (by show w.heap.size<wa.heap.size;omega)).trans l3;obtain⟨g,hg⟩:∃g,g=w.heap.size+1:=⟨_,rfl⟩
 rw[hza,<-hg]at hA;have C5:Hid (∀W,Below w1.heap.size w1 W->Zb6 W g v y f o/\W.cell? ⟨w.heap.size,3,none⟩=some (.int .i64 a)):=hid fun W hW=>⟨hA.below hW (by omega),(hW.cell (p:=⟨w.heap.size,3,none⟩) (by show w.heap.size<w1.heap.size;omega)).trans l3'⟩
 have hP:Below w1.heap.size w1 w1.drew:=(Below.refl _ _).drew;have c5:(w1.drew.cell? ⟨g,0,none⟩=some (.pointer (some ⟨v,0,none⟩))/\w1.drew.cell? ⟨g,1,none⟩=some (.int .i64 y)/\w1.drew.cell? ⟨g,2,none⟩=some (.int .i64 f)/\w1.drew.cell? ⟨g,3,none⟩=some (.int .i64 o))/\w1.drew.cell? ⟨w.heap.size,3,none⟩=some (.int .i64 a):=C5.out _ hP;have HV:=hid (show ∀W,Below w1.heap.size w1 W->Ze W X v m c S from fun W hW=>h.below (hb1.trans (hW.mono hb1.size)));have HB:=hid hb1;have hbal:=ZfV (HV.out _ hP) y f o hy hf ho;have HSET:=hid (show ∀W s,Below w1.heap.size w1 W->I64 s->Calls prog 301 #[.agg #[.pointer (some ⟨v,0,none⟩),.int .i64 y,.int .i64 f,.int .i64 o],.int .i64 s] W fun e w'=>e=.returned (.int .i64 0)/\Ze w' X v m c (S.setB (bKy y f o) s)/\Za (fun k=>k=c) W w' from fun W s hW hs=>ZlA (HV.out _ hW) y f o s hy hf ho hs hC);unfold VS.addB;generalize seqV (S.now (bKy y f o))=b at hbal ⊢;have hamt:=Zly b a;have hin:=@ZmO b a;generalize amtAddR b a=r at hamt hin ⊢;obtain⟨r1,r2⟩:=r;have hin:r2=0->I64 r1:=hin;simp only;generalize hSS:(if r2=0 then S.setB (bKy y f o) r1 else S)=SS;have HSS:=hid hSS;clear h hb1 hba hb01 hA l3' hza hz1 hSS;go_enter func278,ntmps278;go_wp2_with fail;rw[<-hwa];go_wp2_with fail;rw[<-hw1,<-hg];clear hw1 hwa hg l0 l1 l3
 go_region_held3 (fun W=>(W.cell? ⟨g,0,none⟩=some (.pointer (some ⟨v,0,none⟩))/\W.cell? ⟨g,1,none⟩=some (.int .i64 y)/\W.cell? ⟨g,2,none⟩=some (.int .i64 f)/\W.cell? ⟨g,3,none⟩=some (.int .i64 o))/\W.cell? ⟨w.heap.size,3,none⟩=some (.int .i64 a))
  (first|with_reducible exact c5|exact c5)
  (first
   | (go_at_call 110;refine Calls.mono hbal ?_;rintro e wk ⟨rfl,hbk⟩;have hP:=hP.trans (hbk.mono hP.size);have c5:=C5.out _ hP)
   | (go_at_call 300;refine Calls.mono (hamt _) ?_;rintro e wq ⟨rfl,rfl⟩))
 obtain⟨⟨e0,e1,e2,e3⟩,_⟩:=c5;have HP:=hid hP;clear hbal hamt C5 hP hbk;by_cases h2:r2=0
 · subst h2;have HQ:=hid (HSET.out _ r1 HP.out (hin rfl));have H9:=hid (show SS=S.setB (bKy y f o) r1 from by rw[<-HSS.out,if_pos rfl]);clear HSET hin HSS;go_wp2_with fail;refine HQ.out.mono ?_;rintro e w4⟨rfl,hv4,ht4⟩;have HE:=hid (And.intro hv4 ((Za.of_below (HB.out.trans (HP.out.mono HB.out.size))).trans ht4));clear hv4 ht4 HQ e0 e1 e2 e3;go_wp2_with fail;go_ret;rw[H9.out];exact⟨rfl,HE.out⟩
 · have d2:(r2 != 0)=true:=by simp[h2]
   have H9:=hid (show SS=S from by rw[<-HSS.out,if_neg h2]);have HE:=hid (And.intro (HV.out _ HP.out) (Za.of_below (F:=fun k=>k=c) (HB.out.trans (HP.out.mono HB.out.size))));clear HSET hin h2 e0 e1 e2 e3;go_wp2_with fail;go_ret;rw[H9.out];exact⟨rfl,HE.out⟩
end
end Go.Proofs.YtiknkbpojmgbhaaGreat
