/- LinA, PreA, PreB, PreC, PreD. Conditions: in each theorem. -/
import Derived.Test.YtiknkbpojmgbhaaGreatAmtV
import Derived.Test.YtiknkbpojmgbhaaGreatIntApp
import Derived.Test.YtiknkbpojmgbhaaGreatEqual
import Derived.Maps.AppendAt
import Derived.Deep.AppendLies
import Derived.Laws.AppendOwnNone
import Derived.Test.YtiknkbpojmgbhaaGreatPreO
import Derived.StillTailTactics
import Derived.Test.YtiknkbpojmgbhaaGreatDocE
import Derived.Test.YtiknkbpojmgbhaaGreatYrB
import Derived.Deep.RegionHeld3
import Derived.Lib.AppendZeros
set_option maxHeartbeats 800000
set_option maxRecDepth 100000
set_option linter.unusedVariables false
open Go.Proofs.Tryz
open Go.Lib (hid)
namespace Go.Proofs.YtiknkbpojmgbhaaGreat
open Go.RowKit
def lnV(x:Ln):List Value:=[.int .i64 x.f,.int .i64 x.o,.int .i64 x.n,.int .i64 x.a]
def Zdl(l:List Ln):List Value:=l.flatMap lnV
theorem Za4(l:List Ln):(Zdl l).length=l.length*4:=by
 unfold Zdl
 induction l with
 | nil=>rfl
 | cons x r ih=>rw[List.flatMap_cons,List.length_append,ih,List.length_cons];show 4+_=_;omega
theorem Zke(l m:List Ln):Zdl (l++m)=Zdl l++Zdl m:=List.flatMap_append
theorem Zhr:∀{l:List Ln} {i:Nat} {x:Ln},l[i]?=some x->(Zdl l)[i*4]?=some (.int .i64 x.f)/\(Zdl l)[i*4+1]?=some (.int .i64 x.o)/\(Zdl l)[i*4+2]?=some (.int .i64 x.n)/\(Zdl l)[i*4+3]?=some (.int .i64 x.a)
 | [],i,x,h=>by cases h
 | y::r,0,x,h=>by
  obtain rfl:y=x:=by simpa using h
  exact⟨rfl,rfl,rfl,rfl⟩
 | y::r,i+1,x,h=>by
  obtain⟨h0,h1,h2,h3⟩:=Zhr (l:=r) (i:=i) (x:=x) (by simpa using h)
  have e:∀k,(Zdl (y::r))[k+4]?=(Zdl r)[k]?:=fun k=>by
   show(lnV y++Zdl r)[k+4]?=_
   rw[List.getElem?_append_right (by show 4<=_;omega)]
   show(Zdl r)[k+4-4]?=_
   rw[Nat.add_sub_cancel]
  rw[show(i+1)*4=i*4+4 by omega,show i*4+4+1=i*4+1+4 by omega,show i*4+4+2=i*4+2+4 by omega,show i*4+4+3=i*4+3+4 by omega,e,e,e,e];exact⟨h0,h1,h2,h3⟩
theorem Zlj(l:List Ln):∀u∈Zdl l,u.oneCell'=true:=by
 intro u hu;obtain⟨x,_,hx⟩:=List.mem_flatMap.1 hu;unfold lnV at hx;simp only[List.mem_cons,List.not_mem_nil,or_false]at hx;rcases hx with rfl|rfl|rfl|rfl <;> rfl
def ZpV(w:World)(b off:Nat)(x:Ln):Prop:=
 w.cell? ⟨b,off,none⟩=some (.int .i64 x.f)/\w.cell? ⟨b,off+1,none⟩=some (.int .i64 x.o)/\w.cell? ⟨b,off+2,none⟩=some (.int .i64 x.n)/\w.cell? ⟨b,off+3,none⟩=some (.int .i64 x.a)
def RL(w:World)(B:Nat)(A:Option Addr)(n:Nat)(l:List Ln):Prop:=
 l.length=n/\(∀x∈l,Za7 x)/\(0<n->∃b off,A=some ⟨b,off,none⟩/\b<B/\∀j x,l[j]?=some x->ZpV w b (off+j*4) x)
section
variable{w w':World}{B B' n base:Nat}{A:Option Addr}{l:List Ln}
theorem ZpV.keep{b off:Nat}{x:Ln}(h:ZpV w b off x)(hb:b<B)(hk:∀b o,b<B->w'.cell? ⟨b,o,none⟩=w.cell? ⟨b,o,none⟩):ZpV w' b off x:=by
 obtain⟨h0,h1,h2,h3⟩:=h;exact⟨(hk _ _ hb).trans h0,(hk _ _ hb).trans h1,(hk _ _ hb).trans h2,(hk _ _ hb).trans h3⟩
theorem RL.nil_:RL w B A 0 []:=⟨rfl,(fun _ h=>by cases h),fun h=>absurd h (by omega)⟩
theorem RL.len(h:RL w B A n l):l.length=n:=h.1
theorem RL.ok(h:RL w B A n l):∀x∈l,Za7 x:=h.2.1
theorem RL.keep(h:RL w B A n l)(hk:∀b o,b<B->w'.cell? ⟨b,o,none⟩=w.cell? ⟨b,o,none⟩):RL w' B A n l:=
 ⟨h.1,h.2.1,fun hn=>by
  obtain⟨b,off,e,hb,hc⟩:=h.2.2 hn
  exact⟨b,off,e,hb,fun j x hx=>(hc j x hx).keep hb hk⟩⟩
theorem RL.below(h:RL w B A n l)(hb:Below B w w'):RL w' B A n l:=h.keep fun b o hp=>hb.cell (p:=⟨b,o,none⟩) hp
theorem RL.more(h:RL w B A n l)(hB:B<=B'):RL w B' A n l:=
 ⟨h.1,h.2.1,fun hn=>by
  obtain⟨b,off,e,hb,hc⟩:=h.2.2 hn
  exact⟨b,off,e,by omega,hc⟩⟩
theorem RL.front{j:Nat}(h:RL w B A n l)(hj:j<=n):RL w B A j (l.take j):=by
 obtain⟨h1,h2,h3⟩:=h;refine⟨by rw[List.length_take];omega,fun x hx=>h2 x (List.mem_of_mem_take hx),fun hn=>?_⟩;obtain⟨b,off,e,hb,hp⟩:=h3 (by omega);refine⟨b,off,e,hb,fun i y hy=>hp i y ?_⟩;rw[List.getElem?_take]at hy
 split at hy
 · exact hy
 · cases hy
theorem RL.back{j c:Nat}(h:RL w B A n l)(hj:j<=n)(hnc:n<=c):RL w B (if c=j then A else A.map (·.add (j*4))) (n-j) (l.drop j):=by
 obtain⟨h1,h2,h3⟩:=h;refine⟨by rw[List.length_drop,h1],fun x hx=>h2 x (List.mem_of_mem_drop hx),fun hn=>?_⟩;obtain⟨b,off,rfl,hb,hp⟩:=h3 (by omega);rw[if_neg (by omega)];refine⟨b,off+j*4,congrArg some (Zdr _ _ _),hb,fun i y hy=>?_⟩;rw[List.getElem?_drop]at hy
 have:=hp (j+i) y hy
 rwa[show off+(j+i)*4=off+j*4+i*4 by omega]at this
theorem RL.src(h:RL w B A n l):∀j u,(Zdl l)[j]?=some u->∃ad,A=some ad/\w.cell? (ad.add j)=some u:=by
 intro j u hu
 have hjl:j<l.length*4:=by
  rcases Nat.lt_or_ge j (l.length*4)with h'|h'
  · exact h'
  · rw[List.getElem?_eq_none (by rw[Za4];omega)]at hu;cases hu
 obtain⟨x,hx⟩:∃x,l[j/4]?=some x:=⟨_,List.getElem?_eq_getElem (by omega)⟩
 obtain⟨b,off,rfl,_,hc⟩:=h.2.2 (by rw[<-h.1];omega);obtain⟨c0,c1,c2,c3⟩:=hc _ _ hx;obtain⟨v0,v1,v2,v3⟩:=Zhr hx;refine⟨_,rfl,?_⟩;rw[Zdr];have h4:j=j/4*4∨j=j/4*4+1∨j=j/4*4+2∨j=j/4*4+3:=by omega
 rcases h4 with e|e|e|e
 · rw[e]at hu ⊢;rw[v0]at hu;rw[<-hu,<-c0]
 · rw[e]at hu ⊢;rw[v1]at hu;rw[<-hu,<-c1];congr 2
 · rw[e]at hu ⊢;rw[v2]at hu;rw[<-hu,<-c2];congr 2
 · rw[e]at hu ⊢;rw[v3]at hu;rw[<-hu,<-c3];congr 2
def Z8(w:World)(base:Nat)(v:Value)(l:List Ln):Prop:=w.ownsRow base 34 4 v l.length (Zdl l)
theorem Z8.start(w:World)(base:Nat):Z8 w base (.slice none 0 0) []:=World.ownsRow_nil _ _ _ _
theorem Z8.at_{v:Value}(h:Z8 w base v l):∀g,v.ownBlock=some g->base<=g/\g<w.heap.size:=by
 intro g hg;rcases h.2 with ⟨rfl,_⟩|⟨g',cap,cur,rfl,hb,hh,_⟩
 · simp[Value.ownBlock]at hg
 · simp[Value.ownBlock]at hg;subst hg;exact⟨hb,(Array.getElem?_eq_some_iff.1 hh).1⟩
theorem Z8.stays{v:Value}(h:Z8 w base v l)(hk:∀g,v.ownBlock=some g->w'.heap[g]?=w.heap[g]?):Z8 w' base v l:=by
 rcases h.2 with h'|⟨g,cap,cur,rfl,hg,hb,h3⟩
 · exact⟨h.1,.inl h'⟩
 · exact⟨h.1,.inr ⟨g,cap,cur,rfl,hg,(hk g (by simp[Value.ownBlock])).trans hb,h3⟩⟩
theorem Z8.below{v:Value}(h:Z8 w base v l)(hb:Below w.heap.size w w'):Z8 w' base v l:=h.stays fun g hg=>hb.block g (h.at_ g hg).2
theorem Z8.shape{v:Value}(h:Z8 w base v l):∃A c,v=.slice A l.length c/\l.length<=c:=by
 rcases h.2 with ⟨rfl,h0⟩|⟨g,cap,cur,rfl,hb,hg,hc,_⟩
 · rw[h0];exact⟨none,0,rfl,Nat.le_refl _⟩
 · exact⟨_,cap,rfl,hc⟩
theorem Z8.base_le{v:Value}(h:Z8 w base v l){b:Nat}(hb:b<=base):Z8 w b v l:=by
 rcases h.2 with h'|⟨g,cap,cur,rfl,hg,h3⟩
 · exact⟨h.1,.inl h'⟩
 · exact⟨h.1,.inr ⟨g,cap,cur,rfl,Nat.le_trans hb hg,h3⟩⟩
theorem Z8.read{n c:Nat}(h:Z8 w base (.slice A n c) l)(hl:∀x∈l,Za7 x):n=l.length/\n<=c/\RL w w.heap.size A n l:=by
 rcases h.2 with ⟨e,h0⟩|⟨g,cap,cur,e,hb,hg,hc,_,_,htake⟩
 · cases e;exact⟨h0.symm,Nat.le_refl _,h0,hl,fun hn=>absurd hn (by omega)⟩
 · cases e;refine⟨rfl,hc,rfl,hl,fun hn=>⟨g,0,rfl,(Array.getElem?_eq_some_iff.1 hg).1,fun i y hy=>?_⟩⟩;have hi:=(List.getElem?_eq_some_iff.1 hy).1;obtain⟨g0,g1,g2,g3⟩:=Zhr hy
   have at_:∀k u,k<l.length*4->(Zdl l)[k]?=some u->w.cell? ⟨g,k,none⟩=some u:=fun k u hk hu=>by
    rw[cell_of_row w g k cur _ (0,0) hg,<-hu,<-htake,List.getElem?_take,if_pos hk];simp
   rw[Nat.zero_add];exact⟨at_ _ _ (by omega) g0,at_ _ _ (by omega) g1,at_ _ _ (by omega) g2,at_ _ _ (by omega) g3⟩
theorem ZiU:(prog.info? 34).map (fun i=>(i.zero,i.size,i.bytes))=some (some (.agg #[.int .i64 0,.int .i64 0,.int .i64 0,.int .i64 0]),4,32):=by kernel_rfl
theorem Zpi:(Value.agg #[.int .i64 0,.int .i64 0,.int .i64 0,.int .i64 0]).cells.size=4:=rfl
theorem Z8.appendL{v:Value}(h:Z8 w base v l){m:List Ln}{k c:Nat}(hr:RL w B A k m)(hn:l.length<=2147483647)(hk:k<=2147483647)(hbase:base<=w.heap.size)(ty:TypeId) :
 ∃v' w',(Builtin.append_ #[35,35] ty #[v,.slice A k c]).run prog w=.ok v' w'/\Z8 w' base v' (l++m)/\Below base w w'/\w.grownBy w' v.ownBlock/\(v'.ownBlock=v.ownBlock∨v'.ownBlock=some w.heap.size):=by
 obtain⟨i0,hi,hz0,hz1,hz2⟩:=info_parts ZiU;rcases A with _|ad
 · have hm:k=0:=by
    rcases Nat.eq_zero_or_pos k with h0|h0
    · exact h0
    · obtain⟨b,off,e,_⟩:=hr.2.2 h0;cases e
   subst hm;obtain rfl:m = []:=List.eq_nil_of_length_eq_zero hr.len;rw[List.append_nil];exact⟨_,w,Zax (P:=prog) (w:=w) base 35 ty 34 i0 4 underlying35 hi _ _ _ h c,h,Below.refl _ _,⟨rfl,rfl,rfl,Nat.le_refl _,fun _ _ _=>rfl⟩,.inl rfl⟩
 · obtain⟨v',w',hrun,h1,h2,_,h3⟩:=run_append_own_at (P:=prog) w base 35 ty 34 i0 _ 4 32 underlying35 hi hz0 hz1 hz2 Zpi (by decide) v _ _ h ad k c (Zdl m) (by rw[Za4,hr.len]) (fun j u hj=>by
    obtain⟨ad',e,hc⟩:=hr.src j u hj;cases e
    exact hc) (Zlj m) (by unfold maxLen;omega) (by omega) hbase
   refine⟨v',w',hrun,?_,(Below.refl _ _).grown h2 hbase (fun k hk=>(h.at_ k hk).1),h2,h3⟩;show w'.ownsRow base 34 4 v' (l++m).length (Zdl (l++m));rw[Zke,List.length_append,hr.len];exact h1
theorem Z8.append1{v:Value}(h:Z8 w base v l){x:Ln}{b:Nat}{T:TypeId}(hb:w.heap[b]?=some (.cells #[.int .i64 x.f,.int .i64 x.o,.int .i64 x.n,.int .i64 x.a] T))(hx:Za7 x)(hn:l.length<=2147483647)(hbase:base<=w.heap.size)(ty:TypeId) :
 ∃v' w',(Builtin.append_ #[35,35] ty #[v,.slice (some ⟨b,0,none⟩) 1 1]).run prog w=.ok v' w'/\Z8 w' base v' (l++[x])/\Below base w w'/\w.grownBy w' v.ownBlock/\(v'.ownBlock=v.ownBlock∨v'.ownBlock=some w.heap.size):=
 h.appendL (B:=w.heap.size) (m:=[x]) ⟨rfl,fun y hy=>by obtain rfl:=List.mem_singleton.1 hy;exact hx,fun _=>⟨b,0,rfl,(Array.getElem?_eq_some_iff.1 hb).1,fun j y hy=>by
  have hj:j=0:=by
   have:=(List.getElem?_eq_some_iff.1 hy).1
   simp at this;omega
  subst hj;obtain rfl:x=y:=by simpa using hy
  exact⟨cell_of_row w b 0 _ T (0,0) hb,cell_of_row w b 1 _ T (0,0) hb,cell_of_row w b 2 _ T (0,0) hb,cell_of_row w b 3 _ T (0,0) hb⟩⟩⟩ hn (Nat.le_of_ble_eq_true rfl) hbase ty
end
open Go.ChangeShapes Go.WideShapes Go.Deep in
theorem ZeI:prog.cellsOf 3=1:=by kernel_rfl
theorem ZiV:prog.cellsOf 34=4:=by kernel_rfl
open Go.ChangeShapes Go.WideShapes Go.Deep in
theorem open_lines{H:Type}{enc:TypeId×Value->H}{w:World}{fuel:Nat}{cs:List Value}{x:DataW H×List MemPlace}(h:DataW.trod enc prog w 0 (fun _=>true) true fuel 35 cs=some x) :
 cs = [.slice none 0 0]∨∃(a:Addr) (len cap:Nat) (ls:List Ln),cs = [.slice (some a) len cap]/\len<=cap/\cap<=maxLen/\RL w w.heap.size (some a) len ls:=by
 rcases open_slice underlying35 h with ⟨h0,_⟩|⟨a,len,cap,m,n,D,Pl,hcs,hb,hl,hm,hmm,hx,hi⟩
 · exact .inl h0
 · right;have hmc:m=cap:=by simpa using hmm
   have each:∀i,i<len->∃d:Ln,Za7 d/\∀b off,a=⟨b,off,none⟩->ZpV w b (off+i*4) d:=by
    intro i hilen;obtain⟨cs',hc,ht'⟩:=hi i (by omega);rw[ZiV]at hc;obtain⟨ys,n',hn',hy,hlen,hyl,hf⟩:=DataW.trod_struct underlying34 ht';obtain⟨_,hcl,hat⟩:=World.cells?_some hc
    match cs',hcl with
    | [c0,c1,c2,c3],_=>
     match ys,hyl with
     | [y0,y1,y2,y3],_=>
      have f0:DataW.trod enc prog w 0 (fun _=>true) true n' 3 (([c0,c1,c2,c3].drop 0).take (prog.cellsOf 3)) = [y0,y1,y2,y3][0]?:=hf 0 _ rfl;rw[ZeI]at f0;have f1:DataW.trod enc prog w 0 (fun _=>true) true n' 3 (([c0,c1,c2,c3].drop 1).take (prog.cellsOf 3)) = [y0,y1,y2,y3][1]?:=hf 1 _ rfl;rw[ZeI]at f1;have f2:DataW.trod enc prog w 0 (fun _=>true) true n' 3 (([c0,c1,c2,c3].drop 2).take (prog.cellsOf 3)) = [y0,y1,y2,y3][2]?:=hf 2 _ rfl;rw[ZeI]at f2;have f3:DataW.trod enc prog w 0 (fun _=>true) true n' 3 (([c0,c1,c2,c3].drop 3).take (prog.cellsOf 3)) = [y0,y1,y2,y3][3]?:=hf 3 _ rfl;rw[ZeI]at f3;simp only[List.drop_zero,List.take_succ_cons,List.take_zero,List.drop_succ_cons,List.getElem?_cons_zero,List.getElem?_cons_succ]at f0 f1 f2 f3;obtain⟨n0,e0,_,w0⟩:=DataW.trod_int underlying3 f0;obtain⟨n1,e1,_,w1⟩:=DataW.trod_int underlying3 f1;obtain⟨n2,e2,_,w2⟩:=DataW.trod_int underlying3 f2;obtain⟨n3,e3,_,w3⟩:=DataW.trod_int underlying3 f3;simp only[List.cons.injEq,and_true]at e0 e1 e2 e3;subst e0 e1 e2 e3;refine⟨⟨n0,n1,n2,n3⟩,⟨ZcI w0,ZcI w1,ZcI w2,ZcI w3⟩,fun b off ha=>?_⟩;subst ha;have a0:=hat 0 (by decide);have a1:=hat 1 (by decide);have a2:=hat 2 (by decide);have a3:=hat 3 (by decide);simp only[Zdr,List.getElem?_cons_zero,List.getElem?_cons_succ,Nat.add_zero]at a0 a1 a2 a3;exact⟨a0,a1,a2,a3⟩
   obtain⟨f,hf⟩:∃f:Nat->Ln,∀i,i<len->Za7 (f i)/\∀b off,a=⟨b,off,none⟩->ZpV w b (off+i*4) (f i):=by
    refine⟨fun i=>if h:i<len then(each i h).choose else⟨0,0,0,0⟩,fun i hil=>?_⟩;simp only[hil,dif_pos];exact(each i hil).choose_spec
   refine⟨a,len,cap,(List.range len).map f,hcs,hl,hm,by simp,fun y hy=>?_,fun hn=>?_⟩
   · obtain⟨i,hi,rfl⟩:=List.mem_map.1 hy;exact(hf i (List.mem_range.1 hi)).1
   obtain⟨cs',hc,_⟩:=hi 0 (by omega);rw[ZiV]at hc;obtain⟨_,hcl,hat⟩:=World.cells?_some hc;have h0:=hat 0 (by decide);have hlt0:0<cs'.length:=by omega
   rw[List.getElem?_eq_getElem hlt0]at h0;obtain⟨b,off,spot⟩:=a;have hspot:spot=none:=by simpa[Addr.add] using World.cell?_spot h0
   subst hspot;refine⟨b,off,rfl,?_,fun j y hy=>?_⟩
   · have:=World.block_lt_of_cell? _ _ h0
     simpa[Addr.add] using this
   · rw[List.getElem?_map]at hy;obtain⟨i,hi,rfl⟩:=Option.map_eq_some_iff.1 hy;obtain⟨hlt,e⟩:=List.getElem?_eq_some_iff.1 hi;rw[List.getElem_range]at e;subst e;rw[List.length_range]at hlt;exact(hf j hlt).2 b off rfl
end Go.Proofs.YtiknkbpojmgbhaaGreat
namespace Go.Proofs.YtiknkbpojmgbhaaGreat
open Go.RowKit Go.Maps
def ZhZ(x:Ln):Bool:=!amtRightB x.a
theorem Zmc(x:Ln)(w:World):Calls prog 187 #[.agg #[.int .i64 x.f,.int .i64 x.o,.int .i64 x.n,.int .i64 x.a]] w fun e w'=>e=.returned (.bool (ZhZ x))/\Below w.heap.size w w':=by
 have HA:=hid (fun W=>Zh2 x.a W);have HX:=hid (show Below w.heap.size w (w.alloc (.cells #[.int .i64 x.f,.int .i64 x.o,.int .i64 x.n,.int .i64 x.a] 34 (0,0)))from(Below.refl _ _).alloc (Nat.le_refl _) _);have c3:(w.alloc (.cells #[.int .i64 x.f,.int .i64 x.o,.int .i64 x.n,.int .i64 x.a] 34 (0,0))).cell? ⟨w.heap.size,3,none⟩=some (.int .i64 x.a):=cell_of_row _ _ 3 _ _ (0,0) (heap_alloc_new w _);unfold ZhZ;generalize amtRightB x.a=bb at HA ⊢;go_enter func187,ntmps187;go_wp2_with fail;refine(HA.out _).mono ?_;rintro e w'⟨rfl,rfl⟩;go_wp2_with fail;go_ret;exact⟨rfl,HX.out⟩
theorem Zmd{w:World}{B n:Nat}{A:Option Addr}{ps:List Ln}(c:Nat)(hr:RL w B A n ps)(hm:n<=maxLen)(hB:B<=w.heap.size) :
 Calls prog 236 #[.slice A n c,.func (.func 187) #[] #[]] w fun e w'=>∃i:Int,e=.returned (.int .i64 i)/\decide (0<=i)=ps.any ZhZ/\Below w.heap.size w w':=by
 unfold maxLen at hm;have HR:=hid hr;clear hr;go_enter func236,ntmps236;go_wp2_with fail
 go_loopw[8] (fun i wr=>∃j:Nat,j<=n/\i=.int .i64 j/\Hid (∀(m:Nat) (y:Ln),m<j->ps[m]?=some y->ZhZ y=false)/\Hid (Below w.heap.size w wr)) (fun i _=>n-(intOf i).toNat)
 case atStart=>exact⟨0,Nat.zero_le _,rfl,hid (fun m y hm=>absurd hm (by omega)),hid (Below.refl _ _)⟩
 case round=>
  obtain⟨j,hj,rfl,hbef,hbw⟩:=hrel;by_cases hlt:j<n
  · obtain⟨b,off,rfl,hb,hat⟩:=HR.out.2.2 (by omega);obtain⟨y,hy⟩:∃y,ps[j]?=some y:=⟨_,List.getElem?_eq_getElem (by rw[HR.out.1];exact hlt)⟩
    obtain⟨c0,c1,c2,c3⟩:=(hat j y hy).keep hb (fun b o hbb=>hbw.out.cell (p:=⟨b,o,none⟩) (Nat.lt_of_lt_of_le hbb hB));have HF:=hid (Zmc y wr);have HY:=hid hy;clear hat hy;have hlt':(j:Int)<(n:Int):=by omega
    cases hk:ZhZ y
    · rw[hk]at HF
      have hn:=hid (fun(m:Nat) (z:Ln) (hm:m<j+1)=>show ps[m]?=some z->ZhZ z=false by
       intro hz;rcases Nat.lt_or_ge m j with h|h
       · exact hbef.out m z h hz
       · obtain rfl:m=j:=by omega
         rw[HY.out]at hz;cases hz
         exact hk)
      clear hk;go_wp2_with fail;refine HF.out.mono ?_;rintro e w'⟨rfl,hb'⟩;have HE:=hid (hbw.out.trans (hb'.mono hbw.out.size));clear hb' c0 c1 c2 c3;go_wp2;go_roundw
      case rel=>exact⟨j+1,by omega,by go_num,hn,HE⟩
      case measure=>simp[intOf];omega
    · rw[hk]at HF;have HEX:=hid (show ps.any ZhZ=true from List.any_eq_true.2 ⟨y,List.mem_of_getElem? HY.out,hk⟩);clear hk;go_wp2_with fail;refine HF.out.mono ?_;rintro e w'⟨rfl,hb'⟩;have HE:=hid (hbw.out.trans (hb'.mono hbw.out.size));clear hb' c0 c1 c2 c3;go_wp2;go_ret;exact⟨_,rfl,by rw[HEX.out];exact decide_eq_true (by omega),HE.out⟩
  · obtain rfl:j=n:=by omega
    have HEX:=hid (show ps.any ZhZ=false from List.any_eq_false.2 (fun y hy=>by
     obtain⟨k,hk,rfl⟩:=List.getElem_of_mem hy;rw[hbef.out k _ (by rw[HR.out.1]at hk;exact hk) (List.getElem?_eq_getElem hk)]
     decide))
    go_wp2;go_ret;exact⟨_,rfl,by rw[HEX.out];decide,hbw.out⟩
theorem Zem{w:World}{B n:Nat}{A:Option Addr}{ps:List Ln}(c:Nat)(hr:RL w B A n ps)(hm:n<=maxLen)(hB:B<=w.heap.size) :
 Calls prog 100 #[.slice A n c] w fun e w'=>e=.returned (.int .i64 (preChk ps))/\Below w.heap.size w w':=by
 have hI:=hid (fun W (hW:Below w.heap.size w W)=>Zmd c (hr.below (hW.mono hB)) hm (Nat.le_trans hB hW.size))
 have HC:Hid (∀W,Below w.heap.size w W->Calls prog 188 #[.slice A n c,.func (.func 187) #[] #[]] W fun e w'=>e=.returned (.bool (ps.any ZhZ))/\Below w.heap.size w w'):=hid (fun W hW=>by
  have hI:=hid (hI.out W hW);have HW:=hid hW;clear hW;generalize ps.any ZhZ=bb at hI ⊢;clear hr;go_enter func188,ntmps188;go_wp2_with fail;refine hI.out.mono ?_;rintro e w'⟨i,rfl,hi,hb⟩;have HI:=hid hi;clear hi;go_wp2;go_ret;rw[<-HI.out]
  exact⟨rfl,HW.out.trans (hb.mono HW.out.size)⟩)
 have hs:preChk ps=if n<1∨n>6∨ps.any ZhZ=true then 1 else 0:=by unfold preChk;rw[hr.1];rfl
 rw[hs];clear hs hr hI;unfold maxLen at hm;generalize ps.any ZhZ=bb at HC ⊢;by_cases h:n<1
 · have k0:(n:Int)<1:=by omega
   rw[if_pos (.inl h)];clear h HC;go_enter func100,ntmps100;go_wp2_with fail;go_ret;exact⟨rfl,Below.refl _ _⟩
 · have k0:¬(n:Int)<1:=by omega
   by_cases h6:n>6
   · have k1:(n:Int)>6:=by omega
     rw[if_pos (.inr (.inl h6))];clear h h6 HC;go_enter func100,ntmps100;go_wp2_with fail;go_ret;exact⟨rfl,Below.refl _ _⟩
   · have k1:¬(n:Int)>6:=by omega
     have hb0:Below w.heap.size w w:=Below.refl _ _;have HCW:=hid (HC.out w hb0);clear HC hb0;cases bb with
     | true=>
      rw[if_pos (.inr (.inr rfl))];clear h h6;go_enter func100,ntmps100;go_wp2_with fail;refine HCW.out.mono ?_;rintro e w'⟨rfl,hb⟩;have HE:=hid hb;clear hb;go_wp2_with fail;go_ret;exact⟨rfl,HE.out⟩
     | false=>
      rw[if_neg (by rintro(a|a|a);exact h a;exact h6 a;cases a)];clear h h6;go_enter func100,ntmps100;go_wp2_with fail;refine HCW.out.mono ?_;rintro e w'⟨rfl,hb⟩;have HE:=hid hb;clear hb;go_wp2_with fail;go_ret;exact⟨rfl,HE.out⟩
theorem Zhs(a:Int)(w:World):Calls prog 163 #[.int .i64 a] w fun e w'=>e=.returned (.bool (amtRightB a))/\w=w':=by
 unfold amtRightB;by_cases h:1<=a
 · go_enter func163,ntmps163;go_wp2;go_ret;simp[h]
 · go_enter func163,ntmps163;go_wp2;go_ret;simp;omega
def Zra(v:Nat)(k y f:Int)(wn:Bool):Array Value:=#[.pointer (some ⟨v,0,none⟩),.int .i64 0,.int .i64 k,.int .i64 y,.int .i64 f,.int .i64 0,.bool wn]
def Zan(w:World)(T:TypeId)(g v:Nat)(k y f:Int)(wn:Bool):Prop:=w.heap[g]?=some (.cells (Zra v k y f wn) T (0,0))
section
variable{w w':World}{X X':Nat->Prop}{v m c g:Nat}{S:VS}{T:TypeId}{k y f:Int}{wn:Bool}
theorem Zan.cells(h:Zan w T g v k y f wn):w.cell? ⟨g,0,none⟩=some (.pointer (some ⟨v,0,none⟩))/\w.cell? ⟨g,1,none⟩=some (.int .i64 0)/\w.cell? ⟨g,2,none⟩=some (.int .i64 k)/\w.cell? ⟨g,3,none⟩=some (.int .i64 y)/\w.cell? ⟨g,4,none⟩=some (.int .i64 f)/\w.cell? ⟨g,5,none⟩=some (.int .i64 0)/\w.cell? ⟨g,6,none⟩=some (.bool wn):=
 ⟨cell_of_row w _ 0 _ _ (0,0) h,cell_of_row w _ 1 _ _ (0,0) h,cell_of_row w _ 2 _ _ (0,0) h,cell_of_row w _ 3 _ _ (0,0) h,cell_of_row w _ 4 _ _ (0,0) h,cell_of_row w _ 5 _ _ (0,0) h,cell_of_row w _ 6 _ _ (0,0) h⟩
theorem Zan.lt(h:Zan w T g v k y f wn):g<w.heap.size:=(Array.getElem?_eq_some_iff.1 h).1
theorem Zan.keep(h:Zan w T g v k y f wn)(hk:w'.heap[g]?=w.heap[g]?):Zan w' T g v k y f wn:=hk.trans h
theorem Zan.warn(h:Zan w T g v k y f wn)(b:Bool):Zan (w.setCell ⟨g,6,none⟩ (.bool b)) T g v k y f b:=by
 unfold Zan at h ⊢
 rw[heap_setCell_same w g 6 _ _ _ h];rfl
theorem Ze.box(h:Ze w X v m c S)(o:Obj):Ze (w.alloc o) (fun k=>X k∨k=w.heap.size) v m c S:=
 h.keep (by simp) (fun k hk hn he=>by rcases he with he|he;exact hn he;omega) (fun k hk=>.inl hk) (fun k hk=>by
  rcases hk with hk|hk
  · have:=h.lt k hk;simp;omega
  · simp;omega) (fun k hk _=>((Below.refl _ _).alloc (Nat.le_refl _) o).block k hk)
theorem Ze.less(h:Ze w X' v m c S)(hx:∀k,X k->X' k)(hv:X v)(hm:X m)(hc:X c):Ze w X v m c S:=by
 have hsv:∀(u:Value) (l:List Int),SV w X' u l->SV w X u l:=fun u l hu=>by
  obtain⟨A,n,k,e,h1,h2,h3,h4⟩:=hu;exact⟨A,n,k,e,h1,h2,h3,fun a ha hn hxa=>h4 a ha hn (hx _ hxa)⟩
 refine⟨h.me,?_,?_,h.mc,hv,hm,hc,h.ok,fun k hk=>h.lt k (hx k hk)⟩
 · obtain⟨f,h1,h2⟩:=h.mem;refine⟨f,h1,fun x=>⟨(h2 x).1,fun d hd=>?_⟩⟩;obtain⟨u,e,hu⟩:=(h2 x).2 d hd;exact⟨u,e,hsv u d hu⟩
 · obtain⟨f,h1,h2⟩:=h.chg;refine⟨f,h1,fun x=>⟨(h2 x).1,fun d hd=>?_⟩⟩;obtain⟨u,e,hu⟩:=(h2 x).2 d hd;refine⟨u,e,?_⟩;cases d with
   | none=>exact hu
   | some l=>
    obtain⟨z,e2,hz⟩:=hu;exact⟨z,e2,hsv z l hz⟩
theorem Ze.boxSet(h:Ze w X v m c S)(hg:X g)(hgv:g≠v/\g≠m/\g≠c)(i:Nat)(x:Value):Ze (w.setCell ⟨g,i,none⟩ x) X v m c S:=
 h.keep (by simp) (fun _ _ h=>h) (fun _ h=>h) (fun k hk=>by have:=h.lt k hk;simpa using this) (fun k hk hh=>by
  rw[heap_setCell_other _ _ _ _ (show k≠g from fun e=>by
   subst e;rcases hh with hh|hh|hh|hh
   · exact hgv.1 hh
   · exact hgv.2.1 hh
   · exact hgv.2.2 hh
   · exact hh hg)])
end
section
variable{w w':World}{X X':Nat->Prop}{v m c g:Nat}{S:VS}{T:TypeId}{k y f:Int}{wn:Bool}
theorem Zfq{y:Int}{S:VS}{wn:Bool}{l:List Chg}{j:Nat}{x:Chg}(hx:l[j]?=some x)(h:(runC y S wn (l.take j)).1.2=0)(h2:(chargeR (runC y S wn (l.take j)).2 y x.i x.p x.e x.q).1.2=0) :
 runC y S wn (l.take (j+1))=(((runC y S wn (l.take j)).1.1||(chargeR (runC y S wn (l.take j)).2 y x.i x.p x.e x.q).1.1,0),(chargeR (runC y S wn (l.take j)).2 y x.i x.p x.e x.q).2):=by
 rw[ZnS hx h,if_pos h2]
theorem Zme(S:VS)(y i p e q:Int):(chargeR S y i p e q).2.C.length<=S.C.length+8:=by
 unfold chargeR;split
 · exact Nat.le_add_right _ _
 · split
   · exact Nat.le_add_right _ _
   · split
     · have h1:=Zie ((pathN S y 8 i).map fun x=>growN x p e q) S;have h2:=ZdC S y 8 i;rw[List.length_map]at h1
       show(((pathN S y 8 i).map fun x=>growN x p e q).foldl VS.putN S).C.length<=_
       omega
     · exact Nat.le_add_right _ _
theorem Zdv(y:Int):∀(l:List Chg) (S:VS) (wn:Bool),(runC y S wn l).2.C.length<=S.C.length+8*l.length
 | [],S,wn=>Nat.le_refl _
 | x::r,S,wn=>by
  unfold runC;rw[List.length_cons];have h1:=Zme S y x.i x.p x.e x.q;split
  · have h2:=Zdv y r (chargeR S y x.i x.p x.e x.q).2 (wn||(chargeR S y x.i x.p x.e x.q).1.1);omega
  · show(chargeR S y x.i x.p x.e x.q).2.C.length<=_
    omega
def ZbW(w w':World)(X:Nat->Prop)(v m c g:Nat)(T:TypeId)(k y f:Int)(R:(Int×Bool×Int)×VS)(e:Ending):Prop:=
 ∃id:Int,e=.returned (.tuple #[.int .i64 id,.int .i64 R.1.2.2])/\Ze w' X v m c R.2/\(R.1.2.2=0->id=R.1.1/\Zan w' T g v k y f R.1.2.1)/\Za (fun k=>k=c∨k=g) w w'
theorem ZcL{S S2:VS}{y k f r:Int}{b:Bool}{cs:List Chg}{ls:List Dl}(h:runC y S false cs=((b,r),S2))(hr:r≠0):ZI S y k f cs ls=((0,false,r),S2):=by
 unfold ZI;rw[h];dsimp only;rw[if_neg hr]
theorem ZcM{S S2:VS}{y k f:Int}{b:Bool}{cs:List Chg}{ls:List Dl}(h:runC y S false cs=((b,0),S2)):ZI S y k f cs ls=if(putDoc S2 ⟨0,k,y,f,0⟩ ls).1.2=0 then(((putDoc S2 ⟨0,k,y,f,0⟩ ls).1.1,b,0),(putDoc S2 ⟨0,k,y,f,0⟩ ls).2)else((0,false,(putDoc S2 ⟨0,k,y,f,0⟩ ls).1.2),(putDoc S2 ⟨0,k,y,f,0⟩ ls).2):=by
 unfold ZI;rw[h];dsimp only;rw[if_pos rfl]
theorem Zbx{l:List Ln}(h:∀x∈l,Za7 x):∀z∈l.map ZY,ZaE z:=fun z hz=>by
 obtain⟨x,hx,rfl⟩:=List.mem_map.1 hz;exact ZcN (h x hx)
theorem ZeJ{α β:Type}{f:α->β}{l:List α}{j:Nat}{x:α}(h:l[j]?=some x):(l.take (j+1)).map f=(l.take j).map f++[f x]:=by
 obtain⟨hj,rfl⟩:=List.getElem?_eq_some_iff.1 h;rw[List.take_succ_eq_append_getElem hj,List.map_append];rfl
theorem ZiW{o:Obj}(h:Za (fun k=>k=c∨k=w.heap.size) (w.alloc o) w'):Za (fun k=>k=c) w w':=
 ⟨h.os,h.tape,h.output,Nat.le_trans (by simp) h.size,fun k hk hn=>(h.block k (by simp;omega) (fun e=>by rcases e with e|e;exact hn e;omega)).trans (((Below.refl w.heap.size w).alloc (Nat.le_refl _) o).block k hk)⟩
end
end Go.Proofs.YtiknkbpojmgbhaaGreat
