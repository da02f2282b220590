/- RecO, RecA. Conditions: in each theorem. -/
import Derived.Test.YtiknkbpojmgbhaaGreatGRow
import Derived.OpenShut
import Derived.Deep.Slices
import Derived.Deep.Fields
import Derived.ChangeSame
import Derived.ProofKit
import Derived.Test.YtiknkbpojmgbhaaGreatKeyB
import Derived.Deep.RegionHeld3
set_option maxHeartbeats 1600000
set_option maxRecDepth 100000
set_option linter.unusedVariables false
open Go.Proofs.Tryz
open Go.Lib (hid)
namespace Go.Proofs.YtiknkbpojmgbhaaGreat
open Go.RowKit
def ZbL(l:List Int):Prop:=∀v∈l,-9223372036854775808<=v/\v<=9223372036854775807
def Zpn(l:List Int):Prop:=∀v∈l,0<=v/\v<4294967296
theorem ZbL.sub{l m:List Int}(h:ZbL l)(hs:∀x∈m,x∈l):ZbL m:=fun v hv=>h v (hs v hv)
theorem ZbY:prog.cellsOf 3=1:=by kernel_rfl
theorem Zqi:prog.cellsOf 4=1:=by kernel_rfl
theorem Z2{n:Int}(h:(Lit.int .i64 n).wf=true) : -9223372036854775808<=n/\n<=9223372036854775807:=by
 simp[Lit.wf,IntKind.min,IntKind.max,IntKind.signed,IntKind.bits]at h;omega
theorem Zmj:prog.cellsOf 40=12:=by kernel_rfl
open Go.ChangeShapes Go.WideShapes in
theorem Zn1{H:Type}{enc:TypeId×Value->H}{w:World}{fuel:Nat}{cs:List Value}{x:DataW H×List MemPlace}(h:DataW.trod enc prog w 0 (fun _=>true) true fuel 40 cs=some x)(hcl:cs.length=12) :
 ∃(a:Int) (b:Int) (c:Int) (d:Int) (e:Int) (f:Bool) (g:Int) (h:Int) (i:Int) (j:Int) (k:Int) (l:Int),cs = [.int .i64 a,.int .i64 b,.int .i64 c,.int .i64 d,.int .i64 e,.bool f,.int .i64 g,.int .i64 h,.int .i64 i,.int .i64 j,.int .i64 k,.int .i64 l]/\ZbL [a,b,c,d,e,g,h,i,j,k,l]:=by
 obtain⟨fs,hfs⟩:∃fs,prog.underlying 40=some (.struct fs):=⟨_,underlying40⟩
 obtain⟨ys,n',hn',hy,hlen,hyl,hf⟩:=DataW.trod_struct underlying40 h
 match cs,hcl with
 | [c0,c1,c2,c3,c4,c5,c6,c7,c8,c9,c10,c11],_=>
  match ys,hyl with
  | [y0,y1,y2,y3,y4,y5,y6,y7,y8,y9,y10,y11],_=>
   have f0:DataW.trod enc prog w 0 (fun _=>true) true n' 3 (([c0,c1,c2,c3,c4,c5,c6,c7,c8,c9,c10,c11].drop 0).take (prog.cellsOf 3)) = [y0,y1,y2,y3,y4,y5,y6,y7,y8,y9,y10,y11][0]?:=hf 0 _ rfl;rw[ZbY]at f0;have f1:DataW.trod enc prog w 0 (fun _=>true) true n' 3 (([c0,c1,c2,c3,c4,c5,c6,c7,c8,c9,c10,c11].drop 1).take (prog.cellsOf 3)) = [y0,y1,y2,y3,y4,y5,y6,y7,y8,y9,y10,y11][1]?:=hf 1 _ rfl;rw[ZbY]at f1;have f2:DataW.trod enc prog w 0 (fun _=>true) true n' 3 (([c0,c1,c2,c3,c4,c5,c6,c7,c8,c9,c10,c11].drop 2).take (prog.cellsOf 3)) = [y0,y1,y2,y3,y4,y5,y6,y7,y8,y9,y10,y11][2]?:=hf 2 _ rfl;rw[ZbY]at f2;have f3:DataW.trod enc prog w 0 (fun _=>true) true n' 3 (([c0,c1,c2,c3,c4,c5,c6,c7,c8,c9,c10,c11].drop 3).take (prog.cellsOf 3)) = [y0,y1,y2,y3,y4,y5,y6,y7,y8,y9,y10,y11][3]?:=hf 3 _ rfl;rw[ZbY]at f3;have f4:DataW.trod enc prog w 0 (fun _=>true) true n' 3 (([c0,c1,c2,c3,c4,c5,c6,c7,c8,c9,c10,c11].drop 4).take (prog.cellsOf 3)) = [y0,y1,y2,y3,y4,y5,y6,y7,y8,y9,y10,y11][4]?:=hf 4 _ rfl;rw[ZbY]at f4;have f5:DataW.trod enc prog w 0 (fun _=>true) true n' 4 (([c0,c1,c2,c3,c4,c5,c6,c7,c8,c9,c10,c11].drop 5).take (prog.cellsOf 4)) = [y0,y1,y2,y3,y4,y5,y6,y7,y8,y9,y10,y11][5]?:=hf 5 _ rfl;rw[Zqi]at f5;have f6:DataW.trod enc prog w 0 (fun _=>true) true n' 3 (([c0,c1,c2,c3,c4,c5,c6,c7,c8,c9,c10,c11].drop 6).take (prog.cellsOf 3)) = [y0,y1,y2,y3,y4,y5,y6,y7,y8,y9,y10,y11][6]?:=hf 6 _ rfl;rw[ZbY]at f6;have f7:DataW.trod enc prog w 0 (fun _=>true) true n' 3 (([c0,c1,c2,c3,c4,c5,c6,c7,c8,c9,c10,c11].drop 7).take (prog.cellsOf 3)) = [y0,y1,y2,y3,y4,y5,y6,y7,y8,y9,y10,y11][7]?:=hf 7 _ rfl;rw[ZbY]at f7;have f8:DataW.trod enc prog w 0 (fun _=>true) true n' 3 (([c0,c1,c2,c3,c4,c5,c6,c7,c8,c9,c10,c11].drop 8).take (prog.cellsOf 3)) = [y0,y1,y2,y3,y4,y5,y6,y7,y8,y9,y10,y11][8]?:=hf 8 _ rfl;rw[ZbY]at f8;have f9:DataW.trod enc prog w 0 (fun _=>true) true n' 3 (([c0,c1,c2,c3,c4,c5,c6,c7,c8,c9,c10,c11].drop 9).take (prog.cellsOf 3)) = [y0,y1,y2,y3,y4,y5,y6,y7,y8,y9,y10,y11][9]?:=hf 9 _ rfl;rw[ZbY]at f9;have f10:DataW.trod enc prog w 0 (fun _=>true) true n' 3 (([c0,c1,c2,c3,c4,c5,c6,c7,c8,c9,c10,c11].drop 10).take (prog.cellsOf 3)) = [y0,y1,y2,y3,y4,y5,y6,y7,y8,y9,y10,y11][10]?:=hf 10 _ rfl;rw[ZbY]at f10;have f11:DataW.trod enc prog w 0 (fun _=>true) true n' 3 (([c0,c1,c2,c3,c4,c5,c6,c7,c8,c9,c10,c11].drop 11).take (prog.cellsOf 3)) = [y0,y1,y2,y3,y4,y5,y6,y7,y8,y9,y10,y11][11]?:=hf 11 _ rfl;rw[ZbY]at f11;simp only[List.drop_zero,List.take_succ_cons,List.take_zero,List.drop_succ_cons,List.getElem?_cons_zero,List.getElem?_cons_succ]at f0 f1 f2 f3 f4 f5 f6 f7 f8 f9 f10 f11;obtain⟨n0,e0,_,w0⟩:=DataW.trod_int underlying3 f0;obtain⟨n1,e1,_,w1⟩:=DataW.trod_int underlying3 f1;obtain⟨n2,e2,_,w2⟩:=DataW.trod_int underlying3 f2;obtain⟨n3,e3,_,w3⟩:=DataW.trod_int underlying3 f3;obtain⟨n4,e4,_,w4⟩:=DataW.trod_int underlying3 f4;obtain⟨n5,e5,_⟩:=DataW.trod_bool underlying4 f5;obtain⟨n6,e6,_,w6⟩:=DataW.trod_int underlying3 f6;obtain⟨n7,e7,_,w7⟩:=DataW.trod_int underlying3 f7;obtain⟨n8,e8,_,w8⟩:=DataW.trod_int underlying3 f8;obtain⟨n9,e9,_,w9⟩:=DataW.trod_int underlying3 f9;obtain⟨n10,e10,_,w10⟩:=DataW.trod_int underlying3 f10;obtain⟨n11,e11,_,w11⟩:=DataW.trod_int underlying3 f11;simp only[List.cons.injEq,and_true]at e0 e1 e2 e3 e4 e5 e6 e7 e8 e9 e10 e11;subst e0 e1 e2 e3 e4 e5 e6 e7 e8 e9 e10 e11
   exact⟨n0,n1,n2,n3,n4,n5,n6,n7,n8,n9,n10,n11,rfl,by
    intro v hv;simp only[List.mem_cons,List.not_mem_nil,or_false]at hv;rcases hv with rfl|rfl|rfl|rfl|rfl|rfl|rfl|rfl|rfl|rfl|rfl
    · exact Z2 w0
    · exact Z2 w1
    · exact Z2 w2
    · exact Z2 w3
    · exact Z2 w4
    · exact Z2 w6
    · exact Z2 w7
    · exact Z2 w8
    · exact Z2 w9
    · exact Z2 w10
    · exact Z2 w11⟩
def Zae(w w':World)(e:Ending)(K V:List Int):Prop:=∃kv vv,e=.returned (.agg #[kv,vv])/\ZaG w w' kv K/\ZaG w w' vv V
theorem ZaG.later{w w1 w2:World}{v:Value}{l:List Int}(h:ZaG w w1 v l)(hb:Below w1.heap.size w1 w2):ZaG w w2 v l:=⟨Zng h.1 hb,h.2.trans (hb.mono h.2.size)⟩
theorem Zak:(prog.info? 101).map (·.size)=some (#[Value.slice none 0 0,Value.slice none 0 0]:Array Value).size:=by kernel_rfl
theorem ZaM{w2:World}{g:Nat}{u v x y:Value}{T:TypeId}(h:w2.heap[g]?=some (.cells #[u,v] T (0,0))):((w2.setCell ⟨g,0,none⟩ x).setCell ⟨g,1,none⟩ y).heap[g]?=some (.cells #[x,y] T (0,0)):=by
 have h1:=heap_setCell_same w2 g 0 _ T x h;have h2:=heap_setCell_same _ g 1 _ T y h1;rw[h2];rfl
theorem ZaG.boxed{w w1 w2:World}{v:Value}{l:List Int}{x y:Value}{g:Nat}(h:ZaG w1 w2 v l)(hb:Below w.heap.size w w1)(hg:w.heap.size<=g)(hlt:g<w1.heap.size):ZaG w ((w2.setCell ⟨g,0,none⟩ x).setCell ⟨g,1,none⟩ y) v l:=by
 refine⟨?_,((hb.trans (h.2.mono hb.size)).setCell hg _).setCell hg _⟩;rcases h.1.2 with h'|⟨k,cap,cur,rfl,hk,hbk,h3⟩
 · exact⟨h.1.1,.inl h'⟩
 · refine⟨h.1.1,.inr ⟨k,cap,cur,rfl,Nat.le_trans hb.size hk,?_,h3⟩⟩;rw[heap_setCell_other _ _ _ _ (show k≠g by omega),heap_setCell_other _ _ _ _ (show k≠g by omega)];exact hbk
theorem Zc{w:World}{g o:Nat}{cs:Array Value}{T:TypeId}(h:w.heap[g]?=some (.cells cs T (0,0))):w.frozen? ⟨g,o,none⟩=false:=by simp[World.frozen?,h]
theorem ZA{w:World}{g:Nat}{u v:Value}{T:TypeId}(h:w.heap[g]?=some (.cells #[u,v] T (0,0))):w.cell? ⟨g,0,none⟩=some u:=cell_of_row w g 0 _ T (0,0) h
theorem ZB{w:World}{g:Nat}{u v:Value}{T:TypeId}(h:w.heap[g]?=some (.cells #[u,v] T (0,0))):w.cell? ⟨g,1,none⟩=some v:=cell_of_row w g 1 _ T (0,0) h
def ZR(w:World)(g:Nat)(l:List Int):Prop:=∃T,w.heap[g]?=some (.cells (l.map (Value.int .i64)).toArray T (0,0))
theorem ZR.later{w w':World}{g:Nat}{l:List Int}(h:ZR w g l)(hb:Below w.heap.size w w'):ZR w' g l:=by
 obtain⟨T,hT⟩:=h;exact⟨T,(hb.block g (Array.getElem?_eq_some_iff.1 hT).1).trans hT⟩
theorem ZR.ri{w:World}{g:Nat}{l:List Int}(h:ZR w g l)(hl:ZbL l):RI w w.heap.size (some ⟨g,0,none⟩) l.length l:=by
 obtain⟨T,hT⟩:=h;refine⟨rfl,hl,fun _=>⟨g,0,rfl,(Array.getElem?_eq_some_iff.1 hT).1,fun j hj=>?_⟩⟩;rw[Nat.zero_add,cell_of_row w g j _ T (0,0) hT];simp[List.getElem?_eq_getElem hj]
theorem ZR.a{l:List Int}(X:World)(e:TypeId):ZR (X.alloc (.cells (l.map (Value.int .i64)).toArray e)).drew X.heap.size l:=⟨e,heap_alloc_new X _⟩
theorem ZR.a'{l:List Int}(X:World)(e:TypeId):ZR (X.alloc (.cells (l.map (Value.int .i64)).toArray e)) X.heap.size l:=⟨e,heap_alloc_new X _⟩
theorem ZR.b{l:List Int}(X:World)(e:TypeId)(o:Obj):ZR ((X.alloc (.cells (l.map (Value.int .i64)).toArray e)).alloc o).drew X.heap.size l:=(ZR.a' X e).later (((Below.refl _ _).alloc (Nat.le_refl _) o).drew)
theorem ZR.c{l:List Int}(X:World)(e:TypeId)(o:Obj):ZR ((X.alloc o).alloc (.cells (l.map (Value.int .i64)).toArray e)).drew (X.heap.size+1) l:=by
 have:=ZR.a (l:=l) (X.alloc o) e
 rwa[show(X.alloc o).heap.size=X.heap.size+1 by simp]at this
theorem ZR.d{l:List Int}(X:World)(e:TypeId)(o:Obj):ZR ((X.alloc o).alloc (.cells (l.map (Value.int .i64)).toArray e)).drew (X.alloc o).heap.size l:=ZR.a (l:=l) (X.alloc o) e
theorem Zep(t:Int)(l:List Int)(n m:Nat)(ht:0<=t/\t<256)(hl:ZbL l)(hn:l.length=n)(h7:n<=7)(hm:1+4*n=m)(W:World)(g:Nat)(hr:ZR W g l) :
 Calls prog 104 #[.int .u8 t,.slice (some ⟨g,0,none⟩) n n] W fun e w'=>∃A c,e=.returned (.slice A m c)/\ZaG W w' (.slice A m c) (Zi t l):=by
 subst hn hm;refine(ZeG t _ _ _ _ l W ht (hr.ri hl) (Nat.le_refl _) (Nat.le_refl _) (by unfold maxLen;omega)).mono ?_;rintro e w'⟨v,rfl,ho⟩;obtain⟨A,c,e1,_,_⟩:=ho.read (Zk ht _);subst e1;have e2:(Zi t l).length=1+4*l.length:=by unfold Zi;rw[Zt,List.length_map,List.length_take];omega
 rw[e2]at ho ⊢;exact⟨A,c,rfl,ho⟩
theorem ZhA(t:Int)(l:List Int)(n m:Nat)(ht:0<=t/\t<256)(hl:ZbL l)(hn:l.length=n)(h7:n<=7)(hm:1+4*n=m)(W:World)(g:Nat)(hr:ZR W g l) :
 Calls prog 126 #[.int .u8 t,.slice (some ⟨g,0,none⟩) n n] W fun e w'=>∃A c,e=.returned (.slice A m c)/\ZaG W w' (.slice A m c) (Zi t l):=by
 subst hn hm;refine(ZeH t _ _ _ _ l W ht (hr.ri hl) (Nat.le_refl _) (Nat.le_refl _) (by unfold maxLen;omega)).mono ?_;rintro e w'⟨v,rfl,ho⟩;obtain⟨A,c,e1,_,_⟩:=ho.read (Zk ht _);subst e1;have e2:(Zi t l).length=1+4*l.length:=by unfold Zi;rw[Zt,List.length_map,List.length_take];omega
 rw[e2]at ho ⊢;exact⟨A,c,rfl,ho⟩
theorem Zpo(kA:Option Addr)(kn kc:Nat)(A:Option Addr)(n c B:Nat)(l:List Int)(w:World)(hr:RI w B A n l)(hB:B<=w.heap.size)(hc:n<=c)(hm:n<=15) :
 Calls prog 180 #[.slice kA kn kc,.slice A n c] w fun e w'=>∃vv,e=.returned (.agg #[.slice kA kn kc,vv])/\ZaG w w' vv (Zj 8 l):=by
 have hb1:Below w.heap.size w (w.alloc (.cells #[.slice none 0 0,.slice none 0 0] 101)):=(Below.refl _ _).alloc (Nat.le_refl _) _;have HP:=hid (ZiO A n c B l _ (hr.below (hb1.mono hB)) (Nat.le_trans hB hb1.size) hc (by unfold maxLen;omega));rw[List.take_of_length_le (by rw[hr.len];exact hm)]at HP;go_enter func180,ntmps180;go_wp2_with fail;refine HP.out.mono ?_;rintro e w2⟨vv,rfl,ho⟩;have c0:=(ho.2.cell (p:=⟨w.heap.size,0,none⟩) (by simp)).trans (cell_of_row (w.alloc (.cells #[.slice none 0 0,.slice none 0 0] 101)) w.heap.size 0 _ _ (0,0) (heap_alloc_new w _));have c1:=(ho.2.cell (p:=⟨w.heap.size,1,none⟩) (by simp)).trans (cell_of_row (w.alloc (.cells #[.slice none 0 0,.slice none 0 0] 101)) w.heap.size 1 _ _ (0,0) (heap_alloc_new w _));simp only[List.getElem?_toArray,List.getElem?_cons_zero,List.getElem?_cons_succ]at c0 c1;have hblk:=(ho.2.block w.heap.size (by simp)).trans (heap_alloc_new w (.cells #[.slice none 0 0,.slice none 0 0] 101));have hf0:w2.frozen? ⟨w.heap.size,0,none⟩=false:=by simp[World.frozen?,hblk]
 have hf1:w2.frozen? ⟨w.heap.size,1,none⟩=false:=by simp[World.frozen?,hblk]
 have HG:=hid (fun x y=>ZaM (x:=x) (y:=y) hblk);have HO:=hid (fun x y=>ho.boxed (g:=w.heap.size) (x:=x) (y:=y) hb1 (Nat.le_refl _) (by simp));obtain⟨vA,vc,rfl,hvc,hrv⟩:=ho.read (Zz _ _);clear ho hrv hblk;go_wp2_with fail;refine bodyPost_ret (results_cell_row rfl _ _ w.heap.size _ _ _ _ rfl (HG.out _ _) underlying101 rfl Zak) rfl ?_;exact⟨_,rfl,HO.out _ _⟩
theorem ZdY(l:List Int)(n m:Nat)(hl:ZbL l)(hn:l.length=n)(h15:n<=15)(hm:8*n=m)(kA:Option Addr)(kn kc:Nat)(W:World)(g:Nat)(hr:ZR W g l) :
 Calls prog 180 #[.slice kA kn kc,.slice (some ⟨g,0,none⟩) n n] W fun e w'=>∃A c,e=.returned (.agg #[.slice kA kn kc,.slice A m c])/\ZaG W w' (.slice A m c) (Zj 8 l):=by
 subst hn hm;refine(Zpo kA kn kc _ _ _ _ l W (hr.ri hl) (Nat.le_refl _) (Nat.le_refl _) h15).mono ?_;rintro e w'⟨v,rfl,ho⟩;obtain⟨A,c,e1,_,_⟩:=ho.read (Zz _ _);subst e1;rw[Zh]at ho ⊢;exact⟨A,c,rfl,ho⟩
theorem ZX{w w1 w2 w3:World}{g:Nat}{k v x y:Value}{K V:List Int}(hb:Below w.heap.size w w1)(hg:w.heap.size<=g)(hlt:g<w1.heap.size)(hk:ZaG w1 w2 k K)(h23:Below w2.heap.size w2 w3)(hv:ZaG w1 w3 v V) :
 Zae w ((w3.setCell ⟨g,0,none⟩ x).setCell ⟨g,1,none⟩ y) (.returned (.agg #[k,v])) K V:=
 ⟨k,v,rfl,(hk.later h23).boxed hb hg hlt,hv.boxed hb hg hlt⟩
end Go.Proofs.YtiknkbpojmgbhaaGreat
