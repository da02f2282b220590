/- Stru, NodA, TreP. Conditions: in each theorem. -/
import Derived.Test.YtiknkbpojmgbhaaGreatIntApp
import Derived.Test.YtiknkbpojmgbhaaGreatEqual
import Derived.Maps.AppendAt
import Derived.Deep.AppendLies
import Derived.Laws.AppendOwnNone
import Derived.OpenShut
import Derived.Deep.Slices
import Derived.ProofKit
import Derived.Test.YtiknkbpojmgbhaaGreatRecA
import Derived.Test.YtiknkbpojmgbhaaGreatRecD
import Derived.BigQuiet
import Derived.Laws.StructEq
import Derived.Test.YtiknkbpojmgbhaaGreatRecG
import Derived.Test.YtiknkbpojmgbhaaGreatManS
import Derived.Test.YtiknkbpojmgbhaaGreatSeqP
set_option maxRecDepth 100000
set_option linter.unusedVariables false
open Go.Proofs.Tryz
namespace Go.Proofs.YtiknkbpojmgbhaaGreat
open Go.RowKit
structure Enc(β:Type) where
 V:β->List Value
 K:Nat
 ok:β->Prop
 len:∀x,(V x).length=K
 pos:0<K
 one:∀x,∀u∈V x,u.oneCell'=true
section
variable{β:Type}{E:Enc β}
def Enc.all(E:Enc β)(l:List β):List Value:=l.flatMap E.V
theorem Enc.all_length(l:List β):(E.all l).length=l.length*E.K:=by
 unfold Enc.all
 induction l with
 | nil=>simp
 | cons x r ih=>rw[List.flatMap_cons,List.length_append,ih,List.length_cons,E.len,Nat.add_mul,Nat.one_mul,Nat.add_comm]
theorem Enc.all_append(l m:List β):E.all (l++m)=E.all l++E.all m:=List.flatMap_append
theorem Enc.all_at:∀{l:List β} {i:Nat} {x:β},l[i]?=some x->∀k,k<E.K->(E.all l)[i*E.K+k]?=(E.V x)[k]?
 | [],i,x,h,k,hk=>by cases h
 | y::r,0,x,h,k,hk=>by
  obtain rfl:y=x:=by simpa using h
  show(E.V y++E.all r)[0*E.K+k]?=_
  rw[Nat.zero_mul,Nat.zero_add,List.getElem?_append_left (by rw[E.len];exact hk)]
 | y::r,i+1,x,h,k,hk=>by
  have ih:=Enc.all_at (l:=r) (i:=i) (x:=x) (by simpa using h) k hk
  show(E.V y++E.all r)[(i+1)*E.K+k]?=_
  have e:(i+1)*E.K=E.K+i*E.K:=by rw[Nat.add_mul,Nat.one_mul,Nat.add_comm]
  rw[e,List.getElem?_append_right (by rw[E.len];omega),E.len,show E.K+i*E.K+k-E.K=i*E.K+k by omega];exact ih
theorem Enc.all_one(l:List β):∀u∈E.all l,u.oneCell'=true:=by
 intro u hu;obtain⟨x,_,hx⟩:=List.mem_flatMap.1 hu;exact E.one x u hx
def Enc.At(E:Enc β)(w:World)(b off:Nat)(x:β):Prop:=∀k,k<E.K->w.cell? ⟨b,off+k,none⟩=(E.V x)[k]?
def Enc.R(E:Enc β)(w:World)(B:Nat)(A:Option Addr)(n:Nat)(l:List β):Prop:=
 l.length=n/\(∀x∈l,E.ok x)/\(0<n->∃b off,A=some ⟨b,off,none⟩/\b<B/\∀j x,l[j]?=some x->E.At w b (off+j*E.K) x)
def Enc.Own(E:Enc β)(e:TypeId)(w:World)(base:Nat)(v:Value)(l:List β):Prop:=w.ownsRow base e E.K v l.length (E.all l)
structure Enc.Ty(E:Enc β)(t e:TypeId):Prop where
 und:prog.underlying t=some (.slice e)
 info:∃i0 z,prog.info? e=some i0/\i0.zero=some z/\i0.size=E.K/\i0.bytes<=128/\z.cells.size=E.K
section
variable{w w':World}{B B' n base:Nat}{A:Option Addr}{l:List β}{t e:TypeId}
theorem Enc.At.keep{b off:Nat}{x:β}(h:E.At w b off x)(hb:b<B)(hk:∀b o,b<B->w'.cell? ⟨b,o,none⟩=w.cell? ⟨b,o,none⟩):E.At w' b off x:=fun k hkk=>(hk _ _ hb).trans (h k hkk)
theorem Enc.R.nil_:E.R w B A 0 []:=⟨rfl,(fun _ h=>by cases h),fun h=>absurd h (by omega)⟩
theorem Enc.R.len(h:E.R w B A n l):l.length=n:=h.1
theorem Enc.R.ok(h:E.R w B A n l):∀x∈l,E.ok x:=h.2.1
theorem Enc.R.keep(h:E.R w B A n l)(hk:∀b o,b<B->w'.cell? ⟨b,o,none⟩=w.cell? ⟨b,o,none⟩):E.R w' B A n l:=
 ⟨h.1,h.2.1,fun hn=>by
  obtain⟨b,off,e,hb,hc⟩:=h.2.2 hn
  exact⟨b,off,e,hb,fun j x hx=>(hc j x hx).keep hb hk⟩⟩
theorem Enc.R.below(h:E.R w B A n l)(hb:Below B w w'):E.R w' B A n l:=h.keep fun b o hp=>hb.cell (p:=⟨b,o,none⟩) hp
theorem Enc.R.more(h:E.R w B A n l)(hB:B<=B'):E.R w B' A n l:=
 ⟨h.1,h.2.1,fun hn=>by
  obtain⟨b,off,e,hb,hc⟩:=h.2.2 hn
  exact⟨b,off,e,by omega,hc⟩⟩
theorem Enc.R.src(h:E.R w B A n l):∀j u,(E.all l)[j]?=some u->∃ad,A=some ad/\w.cell? (ad.add j)=some u:=by
 intro j u hu
 have hjl:j<l.length*E.K:=by
  rcases Nat.lt_or_ge j (l.length*E.K)with h'|h'
  · exact h'
  · rw[List.getElem?_eq_none (by rw[Enc.all_length];omega)]at hu;cases hu
 have hdiv:j/E.K<l.length:=Nat.div_lt_of_lt_mul (by rw[Nat.mul_comm];exact hjl);obtain⟨x,hx⟩:∃x,l[j/E.K]?=some x:=⟨_,List.getElem?_eq_getElem hdiv⟩
 obtain⟨b,off,rfl,_,hc⟩:=h.2.2 (by rw[<-h.1];exact Nat.lt_of_le_of_lt (Nat.zero_le _) hdiv);have hmod:=Nat.mod_lt j E.pos;have hj:j/E.K*E.K+j%E.K=j:=by rw[Nat.mul_comm];exact Nat.div_add_mod j E.K
 have h1:=hc _ _ hx (j%E.K) hmod;have h2:=Enc.all_at hx (j%E.K) hmod;rw[hj]at h2;refine⟨_,rfl,?_⟩;rw[Zdr,<-hu,h2,<-h1,Nat.add_assoc,hj]
theorem Enc.R.of_row{b:Nat}{T:TypeId}{fr:Nat×Nat}{cs:Array Value}(hb:w.heap[b]?=some (.cells cs T fr))(hcs:cs.toList=E.all l)(hl:∀x∈l,E.ok x):E.R w w.heap.size (some ⟨b,0,none⟩) l.length l:=
 ⟨rfl,hl,fun _=>⟨b,0,rfl,(Array.getElem?_eq_some_iff.1 hb).1,fun j x hx k hk=>by
  rw[Nat.zero_add,cell_of_row w b _ _ T fr hb,<-Enc.all_at hx k hk,<-hcs]
  simp⟩⟩
theorem Enc.R.one{b:Nat}{T:TypeId}{fr:Nat×Nat}{x:β}(hb:w.heap[b]?=some (.cells (E.V x).toArray T fr))(hx:E.ok x):E.R w w.heap.size (some ⟨b,0,none⟩) 1 [x]:=
 Enc.R.of_row (l:=[x]) hb (by simp[Enc.all]) (fun y hy=>by obtain rfl:=List.mem_singleton.1 hy;exact hx)
theorem Enc.Own.start(w:World)(e:TypeId)(base:Nat):E.Own e w base (.slice none 0 0) []:=World.ownsRow_nil _ _ _ _
theorem Enc.Own.at_{v:Value}(h:E.Own e w base v l):∀g,v.ownBlock=some g->base<=g/\g<w.heap.size:=by
 intro g hg;rcases h.2 with ⟨rfl,_⟩|⟨g',cap,cur,rfl,hb,hh,_⟩
 · simp[Value.ownBlock]at hg
 · simp[Value.ownBlock]at hg;subst hg;exact⟨hb,(Array.getElem?_eq_some_iff.1 hh).1⟩
theorem Enc.Own.stays{v:Value}(h:E.Own e w base v l)(hk:∀g,v.ownBlock=some g->w'.heap[g]?=w.heap[g]?):E.Own e w' base v l:=by
 rcases h.2 with h'|⟨g,cap,cur,rfl,hg,hb,h3⟩
 · exact⟨h.1,.inl h'⟩
 · exact⟨h.1,.inr ⟨g,cap,cur,rfl,hg,(hk g (by simp[Value.ownBlock])).trans hb,h3⟩⟩
theorem Enc.Own.below{v:Value}(h:E.Own e w base v l)(hb:Below w.heap.size w w'):E.Own e w' base v l:=h.stays fun g hg=>hb.block g (h.at_ g hg).2
theorem Enc.Own.shape{v:Value}(h:E.Own e w base v l):∃A c,v=.slice A l.length c/\l.length<=c:=by
 rcases h.2 with ⟨rfl,h0⟩|⟨g,cap,cur,rfl,hb,hg,hc,_⟩
 · rw[h0];exact⟨none,0,rfl,Nat.le_refl _⟩
 · exact⟨_,cap,rfl,hc⟩
theorem Enc.Own.base_le{v:Value}(h:E.Own e w base v l){b:Nat}(hb:b<=base):E.Own e w b v l:=by
 rcases h.2 with h'|⟨g,cap,cur,rfl,hg,h3⟩
 · exact⟨h.1,.inl h'⟩
 · exact⟨h.1,.inr ⟨g,cap,cur,rfl,Nat.le_trans hb hg,h3⟩⟩
theorem Enc.Own.read{n c:Nat}(h:E.Own e w base (.slice A n c) l)(hl:∀x∈l,E.ok x):n=l.length/\n<=c/\E.R w w.heap.size A n l:=by
 rcases h.2 with ⟨e,h0⟩|⟨g,cap,cur,e,hb,hg,hc,_,_,htake⟩
 · cases e;exact⟨h0.symm,Nat.le_refl _,h0,hl,fun hn=>absurd hn (by omega)⟩
 · cases e;refine⟨rfl,hc,rfl,hl,fun hn=>⟨g,0,rfl,(Array.getElem?_eq_some_iff.1 hg).1,fun i y hy k hk=>?_⟩⟩;have hi:=(List.getElem?_eq_some_iff.1 hy).1
   have hik:i*E.K+k<l.length*E.K:=by
    have:=Nat.mul_le_mul_right E.K (show i+1<=l.length from hi)
    rw[Nat.add_mul,Nat.one_mul]at this;omega
   rw[Nat.zero_add,cell_of_row w g _ cur _ (0,0) hg,<-Enc.all_at hy k hk,<-htake,List.getElem?_take,if_pos hik];simp
theorem Enc.Own.appendL{v:Value}(h:E.Own e w base v l)(T:E.Ty t e){m:List β}{k c:Nat}(hr:E.R w B A k m)(hn:l.length<=2147483647)(hk:k<=2147483647)(hbase:base<=w.heap.size)(ty:TypeId) :
 ∃v' w',(Builtin.append_ #[t,t] ty #[v,.slice A k c]).run prog w=.ok v' w'/\E.Own e w' base v' (l++m)/\Below base w w'/\w.grownBy w' v.ownBlock/\(v'.ownBlock=v.ownBlock∨v'.ownBlock=some w.heap.size):=by
 obtain⟨i0,z,hi,hz0,hz1,hz2,hz3⟩:=T.info;rcases A with _|ad
 · have hm:k=0:=by
    rcases Nat.eq_zero_or_pos k with h0|h0
    · exact h0
    · obtain⟨b,off,e,_⟩:=hr.2.2 h0;cases e
   subst hm;obtain rfl:m = []:=List.eq_nil_of_length_eq_zero hr.len;rw[List.append_nil];exact⟨_,w,Zax (P:=prog) (w:=w) base t ty e i0 E.K T.und hi _ _ _ h c,h,Below.refl _ _,⟨rfl,rfl,rfl,Nat.le_refl _,fun _ _ _=>rfl⟩,.inl rfl⟩
 · obtain⟨v',w',hrun,h1,h2,_,h3⟩:=run_append_own_at (P:=prog) w base t ty e i0 z E.K i0.bytes T.und hi hz0 hz1 rfl hz3 E.pos v _ _ h ad k c (E.all m) (by rw[Enc.all_length,hr.len]) (fun j u hj=>by
    obtain⟨ad',e,hc⟩:=hr.src j u hj;cases e
    exact hc) (Enc.all_one m) (by unfold maxLen;omega) (by
     have:(l.length+k)*i0.bytes<=(l.length+k)*128:=Nat.mul_le_mul_left _ hz2
     omega) hbase
   refine⟨v',w',hrun,?_,(Below.refl _ _).grown h2 hbase (fun k hk=>(h.at_ k hk).1),h2,h3⟩;show w'.ownsRow base e E.K v' (l++m).length (E.all (l++m));rw[Enc.all_append,List.length_append,hr.len];exact h1
theorem Enc.Own.append1{v:Value}(h:E.Own e w base v l)(T:E.Ty t e){x:β}{b:Nat}{TT:TypeId}{fr:Nat×Nat}{cs:Array Value}(hb:w.heap[b]?=some (.cells cs TT fr))(hcs:cs=(E.V x).toArray)(hx:E.ok x)(hn:l.length<=2147483647)(hbase:base<=w.heap.size)(ty:TypeId) :
 ∃v' w',(Builtin.append_ #[t,t] ty #[v,.slice (some ⟨b,0,none⟩) 1 1]).run prog w=.ok v' w'/\E.Own e w' base v' (l++[x])/\Below base w w'/\w.grownBy w' v.ownBlock/\(v'.ownBlock=v.ownBlock∨v'.ownBlock=some w.heap.size):=by
 subst hcs;exact h.appendL T (Enc.R.one hb hx) hn (by omega) hbase ty
end
open Go.ChangeShapes Go.WideShapes Go.Deep in
theorem Enc.open_rows{H:Type}{enc:TypeId×Value->H}{w:World}{fuel:Nat}{cs:List Value}{x:DataW H×List MemPlace}{t e:TypeId}(dflt:β)(hu:prog.underlying t=some (.slice e))(hc:prog.cellsOf e=E.K)
 (op:∀(n:Nat) (ys:List Value) (y:DataW H×List MemPlace),DataW.trod enc prog w 0 (fun _=>true) true n e ys=some y->ys.length=E.K->∃d,E.ok d/\ys=E.V d)
 (h:DataW.trod enc prog w 0 (fun _=>true) true fuel t cs=some x) :
 cs = [.slice none 0 0]∨∃(a:Addr) (len cap:Nat) (ls:List β),cs = [.slice (some a) len cap]/\len<=cap/\cap<=maxLen/\E.R w w.heap.size (some a) len ls:=by
 rcases open_slice hu h with ⟨h0,_⟩|⟨a,len,cap,m,n,D,Pl,hcs,hb,hl,hm,hmm,hx,hi⟩
 · exact .inl h0
 · right;have hmc:m=cap:=by simpa using hmm
   have each:∀i,i<len->∃d:β,E.ok d/\∀b off,a=⟨b,off,none⟩->E.At w b (off+i*E.K) d:=by
    intro i hilen;obtain⟨cs',hcc,ht'⟩:=hi i (by omega);rw[hc]at hcc;obtain⟨_,hcl,hat⟩:=World.cells?_some hcc;obtain⟨d,hd,rfl⟩:=op _ _ _ ht' hcl;refine⟨d,hd,fun b off ha k hk=>?_⟩;subst ha
    have:=hat k hk
    simp only[Zdr]at this;exact this
   obtain⟨f,hf⟩:∃f:Nat->β,∀i,i<len->E.ok (f i)/\∀b off,a=⟨b,off,none⟩->E.At w b (off+i*E.K) (f i):=by
    refine⟨fun i=>if h:i<len then(each i h).choose else dflt,fun i hil=>?_⟩;simp only[hil,dif_pos];exact(each i hil).choose_spec
   refine⟨a,len,cap,(List.range len).map f,hcs,hl,hm,by simp,fun y hy=>?_,fun hn=>?_⟩
   · obtain⟨i,hi,rfl⟩:=List.mem_map.1 hy;exact(hf i (List.mem_range.1 hi)).1
   obtain⟨cs',hcc,_⟩:=hi 0 (by omega);rw[hc]at hcc;obtain⟨_,hcl,hat⟩:=World.cells?_some hcc;have hp:=E.pos;have h0:=hat 0 hp;have hlt0:0<cs'.length:=by omega
   rw[List.getElem?_eq_getElem hlt0]at h0;obtain⟨b,off,spot⟩:=a;have hspot:spot=none:=by simpa[Addr.add] using World.cell?_spot h0
   subst hspot;refine⟨b,off,rfl,?_,fun j y hy=>?_⟩
   · have:=World.block_lt_of_cell? _ _ h0
     simpa[Addr.add] using this
   · rw[List.getElem?_map]at hy;obtain⟨i,hi,rfl⟩:=Option.map_eq_some_iff.1 hy;obtain⟨hlt,e⟩:=List.getElem?_eq_some_iff.1 hi;rw[List.getElem_range]at e;subst e;rw[List.length_range]at hlt;exact(hf j hlt).2 b off rfl
end
end Go.Proofs.YtiknkbpojmgbhaaGreat
namespace Go.Proofs.YtiknkbpojmgbhaaGreat
open Go.RowKit Go.Maps
structure Nd where
 y:Int
 i:Int
 p:Int
 f:Int
 o:Int
 ab:Bool
 li:Int
 pr:Int
 en:Int
 ex:Int
 la:Int
 ca:Int
def ndV(x:Nd):List Value:=[.int .i64 x.y,.int .i64 x.i,.int .i64 x.p,.int .i64 x.f,.int .i64 x.o,.bool x.ab,.int .i64 x.li,.int .i64 x.pr,.int .i64 x.en,.int .i64 x.ex,.int .i64 x.la,.int .i64 x.ca]
def ZbR(x:Nd):Prop:=ZbL [x.y,x.i,x.p,x.f,x.o,x.li,x.pr,x.en,x.ex,x.la,x.ca]
def NdE:Enc Nd:=⟨ndV,12,ZbR,fun _=>rfl,by decide,fun x u hu=>by
 unfold ndV at hu;simp only[List.mem_cons,List.not_mem_nil,or_false]at hu
 rcases hu with rfl|rfl|rfl|rfl|rfl|rfl|rfl|rfl|rfl|rfl|rfl|rfl <;> rfl⟩
theorem Zof:(prog.info? 40).map (fun i=>(i.zero,i.size,i.bytes))=some (some (.agg #[.int .i64 0,.int .i64 0,.int .i64 0,.int .i64 0,.int .i64 0,.bool false,.int .i64 0,.int .i64 0,.int .i64 0,.int .i64 0,.int .i64 0,.int .i64 0]),12,96):=by kernel_rfl
theorem NdT:NdE.Ty 22 40:=by
 obtain⟨i0,hi,hz0,hz1,hz2⟩:=info_parts Zof;exact⟨underlying22,i0,_,hi,hz0,hz1,by omega,rfl⟩
theorem open_nds{H:Type}{enc:TypeId×Value->H}{w:World}{fuel:Nat}{cs:List Value}{x:DataW H×List MemPlace}(h:DataW.trod enc prog w 0 (fun _=>true) true fuel 22 cs=some x) :
 cs = [.slice none 0 0]∨∃(a:Addr) (len cap:Nat) (ls:List Nd),cs = [.slice (some a) len cap]/\len<=cap/\cap<=maxLen/\NdE.R w w.heap.size (some a) len ls:=
 Enc.open_rows (E:=NdE) (⟨0,0,0,0,0,false,0,0,0,0,0,0⟩:Nd) underlying22 Zmj (fun n ys y hy hl=>by
  obtain⟨a0,a1,a2,a3,a4,a5,a6,a7,a8,a9,a10,a11,rfl,hok⟩:=Zn1 hy hl
  exact⟨⟨a0,a1,a2,a3,a4,a5,a6,a7,a8,a9,a10,a11⟩,hok,rfl⟩) h
theorem ZqU{w:World}{b off:Nat}{x:Nd}(h:NdE.At w b off x):w.cell? ⟨b,off,none⟩=some (.int .i64 x.y)/\w.cell? ⟨b,off+1,none⟩=some (.int .i64 x.i)/\w.cell? ⟨b,off+2,none⟩=some (.int .i64 x.p)/\w.cell? ⟨b,off+3,none⟩=some (.int .i64 x.f)/\w.cell? ⟨b,off+4,none⟩=some (.int .i64 x.o)/\w.cell? ⟨b,off+5,none⟩=some (.bool x.ab)/\w.cell? ⟨b,off+6,none⟩=some (.int .i64 x.li)/\w.cell? ⟨b,off+7,none⟩=some (.int .i64 x.pr)/\w.cell? ⟨b,off+8,none⟩=some (.int .i64 x.en)/\w.cell? ⟨b,off+9,none⟩=some (.int .i64 x.ex)/\w.cell? ⟨b,off+10,none⟩=some (.int .i64 x.la)/\w.cell? ⟨b,off+11,none⟩=some (.int .i64 x.ca):=
 ⟨h 0 (by decide),h 1 (by decide),h 2 (by decide),h 3 (by decide),h 4 (by decide),h 5 (by decide),h 6 (by decide),h 7 (by decide),h 8 (by decide),h 9 (by decide),h 10 (by decide),h 11 (by decide)⟩
def ZqR(r:List Int×List Int):Nd:=⟨r.1[0]?.getD 0,r.1[1]?.getD 0,r.2[0]?.getD 0,r.2[1]?.getD 0,r.2[2]?.getD 0,r.2[3]?.getD 0 != 0,r.2[4]?.getD 0,r.2[5]?.getD 0,r.2[6]?.getD 0,r.2[7]?.getD 0,r.2[8]?.getD 0,r.2[9]?.getD 0⟩
def Zd1:Nd:=⟨0,0,0,0,0,false,0,0,0,0,0,0⟩
def ndK(x:KV):Option Nd:=(numsR x 78 2 10).map ZqR
def ndO(o:Option Nd):Nd:=o.getD Zd1
theorem ZcT(x:KV):(numsR x 78 2 10).isSome=(ndK x).isSome:=by
 unfold ndK
 cases numsR x 78 2 10 <;> rfl
abbrev nKy(y i:Int):Txt:=tx (Zi 78 [y,i])
theorem Zc0(y i:Int):(Zi 78 [y,i]).length=9:=by unfold Zi;rw[Zt];rfl
theorem ZkG(y i:Int):(nKy y i).length=9:=by rw[ZZ,Zc0]
def Zms(x:Nd):List Int:=Zi 78 [x.y,x.i]
def ZhO(x:Nd):List Int:=Zj 8 [x.p,x.f,x.o,Zoy x.ab,x.li,x.pr,x.en,x.ex,x.la,x.ca]
def Zbn(n:Int):Bool:=decide (0<=n)&&decide (n<=4294967295)
theorem ZaC(n:Int):Zbn n=true↔0<=n/\n<4294967296:=by unfold Zbn;simp only[Bool.and_eq_true,decide_eq_true_eq];omega
def VS.putN(S:VS)(x:Nd):VS:=S.put (nKy x.y x.i) (ZhO x)
def nodeAt(S:VS)(y i:Int):Option Nd:=if Zbn y&&Zbn i then ndK (Zi 78 [y,i],(S.now (nKy y i)).getD [])else none
def pathN(S:VS)(y:Int):Nat->Int->List Nd
 | 0,_=>[]
 | k+1,i=>match nodeAt S y i with
  | none=>[]
  | some n=>if n.p=0 then [n]else n::pathN S y k n.p
def usedN(x:Nd):Int:=wrap64 (wrap64 (x.pr+x.en)+x.ex)
theorem ZhP(y i:Int):Zi 78 [y,i]=Zi 78 [Zn y,Zn i]:=by
 have hh:∀x,Zn (Zn x)=Zn x:=fun x=>by unfold Zn;omega
 show ZdI 78 [Zn y,Zn i]=ZdI 78 [Zn (Zn y),Zn (Zn i)];rw[hh,hh]
theorem ZeL(y i:Int):splitK (Zi 78 [y,i])=([Zn y,Zn i],78,true):=by
 unfold splitK
 rw[ZhP,Zdu (fun x hx=>by
  simp only[List.mem_cons,List.not_mem_nil,or_false]at hx
  rcases hx with rfl|rfl <;> exact ZcK _) (by simp)]
theorem Zog{y i:Int}{b:List Int}{x:Nd}(h:ndK (Zi 78 [y,i],b)=some x):x.y=Zn y/\x.i=Zn i:=by
 unfold ndK numsR at h;simp only[ZeL]at h
 split at h
 · have h:=Option.some.inj (show some (ZqR _)=some x from h);subst h;exact⟨rfl,rfl⟩
 · cases h
theorem ZkH(y i:Int):ndK (Zi 78 [y,i],[])=none:=by
 unfold ndK numsR;simp only[ZeL];rfl
theorem Zjq{S:VS}{y i:Int}{x:Nd}(h:nodeAt S y i=some x):x.y=y/\x.i=i/\Zbn y=true/\Zbn i=true:=by
 unfold nodeAt at h
 split at h
 · rename_i hh
   rw[Bool.and_eq_true]at hh;obtain⟨h1,h2⟩:=Zog h;have a:=(ZaC _).1 hh.1;have b:=(ZaC _).1 hh.2;unfold Zn at h1 h2;exact⟨by omega,by omega,hh.1,hh.2⟩
 · cases h
theorem Zd2(S:VS)(y i:Int):nodeAt S y i=(match S.now (nKy y i)with
 | none=>none
 | some b=>match ndK (Zi 78 [y,i],b)with
  | none=>none
  | some x=>if x.y=y/\x.i=i then some x else none):=by
 unfold nodeAt
 cases e:S.now (nKy y i)with
 | none=>simp only[Option.getD_none,ZkH];split <;> rfl
 | some b=>
  simp only[Option.getD_some]
  cases e2:ndK (Zi 78 [y,i],b)with
  | none=>simp only[];split <;> rfl
  | some x=>
   obtain⟨h1,h2⟩:=Zog e2;simp only[];by_cases hh:Zbn y=true/\Zbn i=true
   · have a:=(ZaC _).1 hh.1;have b:=(ZaC _).1 hh.2;unfold Zn at h1 h2;rw[hh.1,hh.2,if_pos (by rfl),if_pos ⟨by omega,by omega⟩]
   · rw[if_neg (by simpa using hh),if_neg];rintro⟨q1,q2⟩;refine hh ⟨(ZaC _).2 ?_,(ZaC _).2 ?_⟩
     · unfold Zn at h1;omega
     · unfold Zn at h2;omega
theorem ZdC(S:VS)(y:Int):∀(k:Nat) (i:Int),(pathN S y k i).length<=k
 | 0,i=>Nat.le_refl _
 | k+1,i=>by
  unfold pathN;split
  · exact Nat.zero_le _
  · split
    · exact Nat.succ_le_succ (Nat.zero_le _)
    · rw[List.length_cons];exact Nat.succ_le_succ (ZdC S y k _)
end Go.Proofs.YtiknkbpojmgbhaaGreat
