/- Dos12. Conditions: in each theorem. -/
import Derived.Test.YtlmkdmdbpopnhaaGreatDoorG15
import Derived.Test.YtlmkdmdbpopnhaaGreatDoorG1
import Derived.OpenShut
import Derived.Deep.Slices
import Derived.Deep.Fields
import Derived.ChangeSame
import Derived.ProofKit
set_option maxRecDepth 100000
set_option linter.unusedVariables false
open Go.Proofs.Tryz
namespace Go.Proofs.YtlmkdmdbpopnhaaGreatDoor
open Go.RowKit
structure Ziq where
 op:Int
 key:List Int
 val:List Int
def Zhx(w:World)(B b off:Nat)(d:Ziq):Prop:=
 ∃ka kn kc va vn vc,w.cell? ⟨b,off,none⟩=some (.int .i64 d.op)/\w.cell? ⟨b,off+1,none⟩=some (.slice ka kn kc)/\w.cell? ⟨b,off+2,none⟩=some (.slice va vn vc)/\
  (-9223372036854775808<=d.op/\d.op<=9223372036854775807)/\RB w B ka kn d.key/\(kn<=kc/\kn<=maxLen)/\RB w B va vn d.val/\(vn<=vc/\vn<=maxLen)
def Zdj(w:World)(B:Nat)(A:Option Addr)(n:Nat)(ds:List Ziq):Prop:=
 ds.length=n/\(0<n->∃b off,A=some ⟨b,off,none⟩/\b<B/\∀j,j<n->∃d,ds[j]?=some d/\Zhx w B b (off+j*3) d)
theorem Zhx.below{w w':World}{B b off:Nat}{d:Ziq}(h:Zhx w B b off d)(hb:b<B)(hk:Below B w w'):Zhx w' B b off d:=by
 obtain⟨ka,kn,kc,va,vn,vc,h0,h1,h2,h3,h4,h5,h6,h7⟩:=h;exact⟨ka,kn,kc,va,vn,vc,(hk.cell (p:=⟨b,off,none⟩) hb).trans h0,(hk.cell (p:=⟨b,off+1,none⟩) hb).trans h1,(hk.cell (p:=⟨b,off+2,none⟩) hb).trans h2,h3,h4.below hk,h5,h6.below hk,h7⟩
theorem Zdj.nil_{w:World}{B:Nat}{A:Option Addr}:Zdj w B A 0 []:=⟨rfl,fun h=>absurd h (by omega)⟩
theorem Zdj.below{w w':World}{B n:Nat}{A:Option Addr}{ds:List Ziq}(h:Zdj w B A n ds)(hk:Below B w w'):Zdj w' B A n ds:=
 ⟨h.1,fun hn=>by
  obtain⟨b,off,e,hb,hc⟩:=h.2 hn;refine⟨b,off,e,hb,fun j hj=>?_⟩;obtain⟨d,hd,hat⟩:=hc j hj
  exact⟨d,hd,hat.below hb hk⟩⟩
theorem ZqT:prog.cellsOf 3=1:=by kernel_rfl
theorem ZjM:prog.cellsOf 55=1:=by kernel_rfl
theorem ZjN:prog.cellsOf 83=3:=by kernel_rfl
theorem ZqU(b off i:Nat):Addr.add ⟨b,off,none⟩ i=⟨b,off+i,none⟩:=by unfold Addr.add;split <;> simp_all
theorem Zk2{n:Int}(h:(Lit.int .i64 n).wf=true) : -9223372036854775808<=n/\n<=9223372036854775807:=by
 simp[Lit.wf,IntKind.min,IntKind.max,IntKind.signed,IntKind.bits]at h;omega
open Go.ChangeShapes Go.WideShapes Go.Deep in
theorem Zfy{H:Type}{enc:TypeId×Value->H}{w:World}{fuel:Nat}{v:Value}{x:DataW H×List MemPlace}(h:DataW.trod enc prog w 0 (fun _=>true) true fuel 55 [v]=some x) :
 ∃A n c l,v=.slice A n c/\RB w w.heap.size A n l/\n<=c/\n<=maxLen:=by
 rcases open_ints underlying55 underlying5 (by kernel_rfl) h with ⟨hk,_⟩|⟨x',l',c',zs,hk,_,hl',hm',hz',_,hcell',hwz'⟩
 · simp only[List.cons.injEq,and_true]at hk;exact⟨none,0,0,[],hk,RB.nil_,ZZe _,Nat.zero_le _⟩
 · simp only[List.cons.injEq,and_true]at hk;exact⟨_,l',c',_,hk,RB.of_cells hl' (by simpa using hz') hcell' hwz',hl',ZZf hl' hm'⟩
open Go.ChangeShapes Go.WideShapes Go.Deep in
theorem open_dos12{H:Type}{enc:TypeId×Value->H}{w:World}{fuel:Nat}{cs:List Value}{x:DataW H×List MemPlace}(h:DataW.trod enc prog w 0 (fun _=>true) true fuel 22 cs=some x) :
 cs = [.slice none 0 0]∨∃(a:Addr) (len cap:Nat) (ds:List Ziq),cs = [.slice (some a) len cap]/\len<=cap/\cap<=maxLen/\Zdj w w.heap.size (some a) len ds:=by
 obtain⟨fs,hfs⟩:∃fs,prog.underlying 83=some (.struct fs):=⟨_,underlying83⟩
 rcases open_slice underlying22 h with ⟨h0,_⟩|⟨a,len,cap,m,n,D,Pl,hcs,hb,hl,hm,hmm,hx,hi⟩
 · exact .inl h0
 · right;have hmc:m=cap:=by simpa using hmm
   have each:∀i,i<len->∃d:Ziq,∀b off,a=⟨b,off,none⟩->Zhx w w.heap.size b (off+i*3) d:=by
    intro i hilen;obtain⟨cs',hc,ht'⟩:=hi i (by omega);rw[ZjN]at hc;obtain⟨ys,n',hn',hy,hlen,hyl,hf⟩:=DataW.trod_struct underlying83 ht';obtain⟨_,hcl,hat⟩:=World.cells?_some hc
    match cs',hcl with
    | [c0,c1,c2],_=>
     match ys,hyl with
     | [y0,y1,y2],_=>
      have f0:DataW.trod enc prog w 0 (fun _=>true) true n' 3 (([c0,c1,c2].drop 0).take (prog.cellsOf 3)) = [y0,y1,y2][0]?:=hf 0 _ rfl;rw[ZqT]at f0;have f1:DataW.trod enc prog w 0 (fun _=>true) true n' 55 (([c0,c1,c2].drop 1).take (prog.cellsOf 55)) = [y0,y1,y2][1]?:=hf 1 _ rfl;rw[ZjM]at f1;have f2:DataW.trod enc prog w 0 (fun _=>true) true n' 55 (([c0,c1,c2].drop 2).take (prog.cellsOf 55)) = [y0,y1,y2][2]?:=hf 2 _ rfl;rw[ZjM]at f2;simp only[List.drop_zero,List.take_succ_cons,List.take_zero,List.drop_succ_cons,List.getElem?_cons_zero,List.getElem?_cons_succ]at f0 f1 f2;obtain⟨n0,e0,_,w0⟩:=DataW.trod_int underlying3 f0;obtain⟨ka,kn,kc,K,e1,hk,hkc,hkm⟩:=Zfy f1;obtain⟨va,vn,vc,V,e2,hv,hvc,hvm⟩:=Zfy f2;simp only[List.cons.injEq,and_true]at e0;refine⟨⟨n0,K,V⟩,fun b off ha=>?_⟩;subst ha e0 e1 e2;have a0:=hat 0 (by decide);have a1:=hat 1 (by decide);have a2:=hat 2 (by decide);simp only[ZqU,List.getElem?_cons_zero,List.getElem?_cons_succ,Nat.add_zero]at a0 a1 a2;exact⟨ka,kn,kc,va,vn,vc,a0,a1,a2,Zk2 w0,hk,⟨hkc,hkm⟩,hv,⟨hvc,hvm⟩⟩
   obtain⟨f,hf⟩:∃f:Nat->Ziq,∀i,i<len->∀b off,a=⟨b,off,none⟩->Zhx w w.heap.size b (off+i*3) (f i):=by
    refine⟨fun i=>if h:i<len then(each i h).choose else⟨0,[],[]⟩,fun i hil=>?_⟩;simp only[hil,dif_pos];exact(each i hil).choose_spec
   refine⟨a,len,cap,(List.range len).map f,hcs,hl,hm,by simp,fun hn=>?_⟩;obtain⟨cs',hc,_⟩:=hi 0 (by omega);rw[ZjN]at hc;obtain⟨_,hcl,hat⟩:=World.cells?_some hc;have h0:=hat 0 (by decide);have hlt0:0<cs'.length:=by omega
   rw[ZZc hlt0]at h0;obtain⟨b,off,spot⟩:=a;have hspot:spot=none:=by simpa[Addr.add] using World.cell?_spot h0
   subst hspot;refine⟨b,off,rfl,?_,fun j hj=>⟨f j,by simp[hj],hf j hj b off rfl⟩⟩
   have:=World.block_lt_of_cell? _ _ h0
   simpa[Addr.add] using this
end Go.Proofs.YtlmkdmdbpopnhaaGreatDoor
