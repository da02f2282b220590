/- Base, Ints, DiskP, NumP, NumA, Get. Conditions: in each theorem. -/
import Derived.Test.YtlmkdmdbpopnhaaGreatDoorRows
import Derived.WalkKit
import Derived.WalkSpells
import Derived.WalkLawsBesides
import Derived.Below
import Derived.Laws.OwnMore
import Derived.IntWalk
import Derived.Lib.Hide
import Derived.Deep.Slices
import Derived.Deep.Fields
import Derived.ChangeSame
import Derived.ProofKit
import Derived.Laws.BitsLemmas
import Derived.RowKit
set_option maxHeartbeats 1600000
set_option maxRecDepth 100000
set_option linter.unusedVariables false
open Go.Proofs.Tryz
open Go.Lib (hid)
namespace Go.Proofs.YtlmkdmdbpopnhaaGreatDoor
open Go.RowKit
theorem ZZa{α:Type _}{a:Array α}{i:Nat}{b:α}:a[i]?=some b↔∃h:i<a.size,a[i]=b:=Array.getElem?_eq_some_iff
theorem ZZb{α:Type _}{l:List α}{i:Nat}{a:α}:l[i]?=some a↔∃h:i<l.length,l[i]=a:=List.getElem?_eq_some_iff
theorem ZZc{α:Type _}{l:List α}{i:Nat}(h:i<l.length):l[i]?=some l[i]:=List.getElem?_eq_getElem h
theorem ZZd{n m k:Nat}:n<m->m<=k->n<k:=Nat.lt_of_lt_of_le
theorem ZZe(n:Nat):n<=n:=Nat.le_refl n
theorem ZZf{n m k:Nat}:n<=m->m<=k->n<=k:=Nat.le_trans
theorem ZZh(n:Nat):n<=n+1:=Nat.le_succ n
theorem ZZg{a b:Prop}(x:a)(y:b):a/\b:=⟨x,y⟩
def Ze(l:List Int):Prop:=∀x∈l,0<=x/\x<256
theorem Ze.getD{l:List Int}(h:Ze l)(i:Nat):0<=l[i]?.getD 0/\l[i]?.getD 0<256:=by
 rcases Nat.lt_or_ge i l.length with hi|hi
 · have e:l[i]?.getD 0=l[i]:=by simp[ZZc hi]
   rw[e];exact h _ (List.getElem_mem hi)
 · have e:l[i]?.getD 0=0:=by simp[List.getElem?_eq_none hi]
   rw[e];decide
theorem Ze.take{l:List Int}(h:Ze l)(n:Nat):Ze (l.take n):=fun x hx=>h x (List.mem_of_mem_take hx)
theorem Ze.drop{l:List Int}(h:Ze l)(n:Nat):Ze (l.drop n):=fun x hx=>h x (List.mem_of_mem_drop hx)
theorem Ze.append{l m:List Int}(h:Ze l)(g:Ze m):Ze (l++m):=fun x hx=>by
 rcases List.mem_append.1 hx with a|a
 · exact h x a
 · exact g x a
theorem Ze.nil:Ze []:=fun _ h=>by cases h
def RB(w:World)(B:Nat)(A:Option Addr)(n:Nat)(l:List Int):Prop:=
 l.length=n/\Ze l/\(0<n->∃b off,A=some ⟨b,off,none⟩/\b<B/\∀j,j<n->w.cell? ⟨b,off+j,none⟩=some (.int .u8 (l[j]?.getD 0)))
section
variable{w w':World}{B B' n:Nat}{A:Option Addr}{l:List Int}
theorem RB.nil_:RB w B A 0 []:=⟨rfl,Ze.nil,fun h=>absurd h (by omega)⟩
theorem RB.len(h:RB w B A n l):l.length=n:=h.1
theorem RB.bytes(h:RB w B A n l):Ze l:=h.2.1
theorem RB.at_(h:RB w B A n l)(hn:0<n):∃b off,A=some ⟨b,off,none⟩/\b<B/\∀j,j<n->w.cell? ⟨b,off+j,none⟩=some (.int .u8 (l[j]?.getD 0)):=h.2.2 hn
theorem RB.keep(h:RB w B A n l)(hk:∀b o,b<B->w'.cell? ⟨b,o,none⟩=w.cell? ⟨b,o,none⟩):RB w' B A n l:=
 ⟨h.1,h.2.1,fun hn=>by
  obtain⟨b,off,e,hb,hc⟩:=h.2.2 hn
  exact⟨b,off,e,hb,fun j hj=>(hk _ _ hb).trans (hc j hj)⟩⟩
theorem RB.more(h:RB w B A n l)(hB:B<=B'):RB w B' A n l:=
 ⟨h.1,h.2.1,fun hn=>by
  obtain⟨b,off,e,hb,hc⟩:=h.2.2 hn
  exact⟨b,off,e,by omega,hc⟩⟩
theorem RB.below(h:RB w B A n l)(hb:Below B w w'):RB w' B A n l:=h.keep fun b o hp=>hb.cell (p:=⟨b,o,none⟩) hp
theorem RB.drew(h:RB w B A n l):RB w.drew B A n l:=h.keep fun _ _ _=>rfl
theorem RB.alloc(h:RB w B A n l)(hB:B<=w.heap.size)(o:Obj):RB (w.alloc o) B A n l:=h.keep fun b o' hp=>World.cell?_alloc_lt w o ⟨b,o',none⟩ (by simp;omega)
theorem RB.of_own{base e c:Nat}(h:w.ownsRow base e 1 (.slice A n c) n (l.map (Value.int .u8)))(hl:Ze l):RB w w.heap.size A n l:=by
 have hlen:l.length=n:=by simpa using h.1
 refine⟨hlen,hl,fun hn=>?_⟩;rcases h.2 with ⟨_,h0⟩|⟨g,cap,cur,hv,_,hg,_,_,_,htake⟩
 · omega
 · have hA:A=some ⟨g,0,none⟩:=by injection hv
   subst hA
   have hlt:g<w.heap.size:=by
    rcases Nat.lt_or_ge g w.heap.size with h'|h'
    · exact h'
    · rw[Array.getElem?_eq_none h']at hg;cases hg
   refine⟨g,0,rfl,hlt,fun j hj=>?_⟩;have e1:(l.map (Value.int .u8))[j]?=some (.int .u8 (l[j]?.getD 0)):=by simp[ZZc (show j<l.length by omega)]
   rw[Nat.zero_add,cell_of_row w g j cur e (0,0) hg,<-e1,<-htake,List.getElem?_take,if_pos (by omega)];simp
theorem RB.cut{b off:Nat}(h:RB w B A n l)(hc:∀j,j<n->w.cell? ⟨b,off+j,none⟩=some (.int .u8 (l[j]?.getD 0)))(k:Nat)(hk:k<=n)(hb:b<B):RB w B (some ⟨b,off+k,none⟩) (n-k) (l.drop k):=by
 refine⟨by rw[List.length_drop,h.len],h.bytes.drop k,fun _=>⟨b,off+k,rfl,hb,fun j hj=>?_⟩⟩;rw[Nat.add_assoc,hc (k+j) (by omega),List.getElem?_drop]
theorem RB.src(h:RB w B A n l):∀j v,(l.map (Value.int .u8))[j]?=some v->∃ad,A=some ad/\w.cell? (ad.add j)=some v:=by
 intro j v hv
 have hj:j<n:=by
  rcases Nat.lt_or_ge j n with h'|h'
  · exact h'
  · rw[List.getElem?_eq_none (by simp[h.len];omega)]at hv;cases hv
 obtain⟨b,off,rfl,_,hc⟩:=h.at_ (by omega);refine⟨_,rfl,?_⟩;have ea:Addr.add ⟨b,off,none⟩ j=⟨b,off+j,none⟩:=by unfold Addr.add;split <;> simp_all
 rw[ea,hc j hj,<-hv,List.getElem?_map,ZZc (show j<l.length by rw[h.len];exact hj)];simp
theorem Zai(l:List Int):∀v∈l.map (Value.int .u8),v.oneCell'=true:=by
 intro v hv;obtain⟨x,_,rfl⟩:=List.mem_map.1 hv;rfl
end
theorem RB.mark(w:World)(e:TypeId)(l:List Int)(cs:Array Value)(fr:Nat×Nat)(hcs:cs=(l.map (Value.int .u8)).toArray)(h:Ze l):RB (w.alloc (.cells cs e fr)) (w.heap.size+1) (some ⟨w.heap.size,0,none⟩) l.length l:=by
 subst hcs;refine⟨rfl,h,fun _=>⟨w.heap.size,0,rfl,Nat.lt_succ_self _,fun j hj=>?_⟩⟩;rw[Nat.zero_add,cell_of_row (w.alloc (.cells _ e fr)) w.heap.size j _ e fr (heap_alloc_new w _)];simp[ZZc hj]
theorem RB.of_cells{w:World}{x:Addr}{len cap:Nat}{zs:List Int}(hl:len<=cap)(hz:zs.length=cap)(hcell:∀i,i<zs.length->w.cell? (x.add i)=some (.int .u8 (zs.getD i 0)))(hw:∀n∈zs,(Lit.int .u8 n).wf=true):RB w w.heap.size (some x) len (zs.take len):=by
 refine⟨by simp;omega,fun y hy=>?_,fun hn=>?_⟩
 · have:=hw y (List.mem_of_mem_take hy)
   simp[Lit.wf,IntKind.min,IntKind.max,IntKind.signed,IntKind.bits]at this;omega
 · obtain⟨b,off,spot⟩:=x;have hc:=hcell 0 (by omega);have hspot:spot=none:=by simpa[Addr.add] using World.cell?_spot hc
   subst hspot;refine⟨b,off,rfl,?_,fun j hj=>?_⟩
   · have hc':w.cell? ⟨b,off,none⟩=some (.int .u8 (zs.getD 0 0)):=by simpa[Addr.add] using hc
     exact World.block_lt_of_cell? _ _ hc'
   · have:=hcell j (by omega)
     have e:(zs.take len)[j]?.getD 0=zs.getD j 0:=by simp[hj]
     have ea:Addr.add ⟨b,off,none⟩ j=⟨b,off+j,none⟩:=by unfold Addr.add;split <;> simp_all
     rw[e,<-ea];exact this
end Go.Proofs.YtlmkdmdbpopnhaaGreatDoor
namespace Go.Proofs.YtlmkdmdbpopnhaaGreatDoor
open Go.RowKit
def RI(w:World)(B:Nat)(A:Option Addr)(n:Nat)(l:List Int):Prop:=
 l.length=n/\(∀x∈l,-9223372036854775808<=x/\x<=9223372036854775807)/\(0<n->∃b off,A=some ⟨b,off,none⟩/\b<B/\∀j,j<n->w.cell? ⟨b,off+j,none⟩=some (.int .i64 (l[j]?.getD 0)))
theorem RI.nil_{w:World}{B:Nat}{A:Option Addr}:RI w B A 0 []:=⟨rfl,(fun _ h=>by cases h),fun h=>absurd h (by omega)⟩
theorem RI.len{w:World}{B n:Nat}{A:Option Addr}{l:List Int}(h:RI w B A n l):l.length=n:=h.1
theorem RI.keep{w w':World}{B n:Nat}{A:Option Addr}{l:List Int}(h:RI w B A n l)(hk:∀b o,b<B->w'.cell? ⟨b,o,none⟩=w.cell? ⟨b,o,none⟩):RI w' B A n l:=
 ⟨h.1,h.2.1,fun hn=>by
  obtain⟨b,off,e,hb,hc⟩:=h.2.2 hn
  exact⟨b,off,e,hb,fun j hj=>(hk _ _ hb).trans (hc j hj)⟩⟩
theorem RI.below{w w':World}{B n:Nat}{A:Option Addr}{l:List Int}(h:RI w B A n l)(hb:Below B w w'):RI w' B A n l:=h.keep fun b o hp=>hb.cell (p:=⟨b,o,none⟩) hp
theorem RI.more{w:World}{B B' n:Nat}{A:Option Addr}{l:List Int}(h:RI w B A n l)(hB:B<=B'):RI w B' A n l:=
 ⟨h.1,h.2.1,fun hn=>by
  obtain⟨b,off,e,hb,hc⟩:=h.2.2 hn
  exact⟨b,off,e,by omega,hc⟩⟩
theorem ZdL(b off j:Nat):Addr.add ⟨b,off,none⟩ j=⟨b,off+j,none⟩:=by unfold Addr.add;split <;> simp_all
def Zcm(n:Nat)(c:Int):List Int:=List.replicate n c
theorem Zv(n:Nat)(c:Int):(Zcm n c).length=n:=List.length_replicate ..
theorem ZfJ:(prog.info? 5).map (·.size)=some 1:=by kernel_rfl
structure DS where
 n:Nat
 safe:Nat->List Int
 last:Nat->List Int
 pend:List Nat
 arm:Option Nat
 down:Bool
 writes:Nat
def Zdg:List Int:=List.replicate 256 0
def DS.new(n:Nat):DS:=⟨n,fun _=>Zdg,fun _=>Zdg,[],none,false,0⟩
structure DS.Ok(S:DS):Prop where
 size:3<=S.n/\S.n<=65536
 safeBytes:∀i,(S.safe i).length=256/\Ze (S.safe i)
 lastBytes:∀i,(S.last i).length=256/\Ze (S.last i)
 pendLt:∀i∈S.pend,i<S.n
 pendNodup:S.pend.Nodup
 same:∀i,i∉S.pend->S.last i=S.safe i
def DS.has(S:DS)(i:Int):Prop:=0<=i/\i<S.n
instance (S:DS) (i:Int):Decidable (S.has i):=by unfold DS.has;infer_instance
def DS.readE(S:DS)(i:Int):Int:=if S.down=true then 5 else if S.has i then 0 else 1
def DS.readL(S:DS)(i:Int):List Int:=if S.readE i=0 then S.last i.toNat else []
def DS.put(S:DS)(i:Nat)(l:List Int):DS:=
 {S with last:=fun j=>if j=i then l else S.last j,pend:=if i∈S.pend then S.pend else S.pend++[i],arm:=S.arm.map (· - 1),writes:=S.writes+1}
def DS.writeE(S:DS)(i:Int)(l:List Int):Int:=if S.down=true then 5 else if ¬(S.has i/\l.length=256)then 1 else if S.arm=some 0 then 5 else 0
def DS.write(S:DS)(i:Int)(l:List Int):DS:=
 if S.down=true then S else if ¬(S.has i/\l.length=256)then S else if S.arm=some 0 then {S with down:=true}else S.put i.toNat l
def DS.flushE(S:DS):Int:=if S.down=true then 5 else 0
def DS.flush(S:DS):DS:=if S.down=true then S else {S with safe:=S.last,pend:=[]}
def DS.fuse(S:DS)(k:Int):DS:={S with arm:=if k<0 then none else some k.toNat}
def DS.kept(S:DS)(keep:List Int)(i:Nat):Prop:=∃at_:Nat,S.pend[at_]?=some i/\(at_:Int)∈keep
open Classical in
noncomputable def DS.crash (S:DS) (keep:List Int):DS:=
 {S with safe:=fun i=>if S.kept keep i then S.last i else S.safe i,last:=fun i=>if S.kept keep i then S.last i else S.safe i,pend:=[],arm:=none,down:=false}
def DS.pending(S:DS):List Int:=S.pend.map Int.ofNat
theorem ZfZ:Zdg.length=256/\Ze Zdg:=⟨List.length_replicate ..,fun x hx=>by
 obtain rfl:=(List.mem_replicate.1 hx).2
 decide⟩
theorem DS.new_ok{n:Nat}(h:3<=n/\n<=65536):(DS.new n).Ok:=⟨h,fun _=>ZfZ,fun _=>ZfZ,(fun _ h=>by cases h),List.nodup_nil,fun _ _=>rfl⟩
theorem DS.put_ok{S:DS}(h:S.Ok){i:Nat}{l:List Int}(hi:i<S.n)(hl:l.length=256/\Ze l):(S.put i l).Ok:=by
 refine⟨h.size,h.safeBytes,fun j=>?_,fun j hj=>?_,?_,fun j hj=>?_⟩
 · show(if j=i then l else S.last j).length=256/\Ze (if j=i then l else S.last j)
   split
   · exact hl
   · exact h.lastBytes j
 · have hj':j∈(if i∈S.pend then S.pend else S.pend++[i]):=hj
   split at hj'
   · exact h.pendLt j hj'
   · rcases List.mem_append.1 hj' with a|a
     · exact h.pendLt j a
     · obtain rfl:=List.mem_singleton.1 a;exact hi
 · show(if i∈S.pend then S.pend else S.pend++[i]).Nodup
   split
   · exact h.pendNodup
   · rename_i hn
     refine List.nodup_append.2 ⟨h.pendNodup,by simp,fun a ha b hb=>?_⟩;obtain rfl:=List.mem_singleton.1 hb;intro e;subst e;exact hn ha
 · have hj':j∉(if i∈S.pend then S.pend else S.pend++[i]):=hj
   have hne:j≠i:=by
    rintro rfl
    split at hj'
    · rename_i hm;exact hj' hm
    · exact hj' (by simp)
   have hjp:j∉S.pend:=by
    split at hj'
    · exact hj'
    · intro hm;exact hj' (by simp[hm])
   show(if j=i then l else S.last j)=S.safe j
   rw[if_neg hne];exact h.same j hjp
theorem DS.fuse_ok{S:DS}(h:S.Ok)(k:Int):(S.fuse k).Ok:=⟨h.size,h.safeBytes,h.lastBytes,h.pendLt,h.pendNodup,h.same⟩
structure Zf(F:Nat->Prop)(w w':World):Prop where
 os:w'.os=w.os
 tape:w'.tape=w.tape
 output:w'.output=w.output
 size:w.heap.size<=w'.heap.size
 block:∀k,k<w.heap.size->¬F k->w'.heap[k]?=w.heap[k]?
theorem Zf.refl(F:Nat->Prop)(w:World):Zf F w w:=⟨rfl,rfl,rfl,ZZe _,fun _ _ _=>rfl⟩
theorem Zf.below{F:Nat->Prop}{B:Nat}{w w':World}(h:Zf F w w')(hF:∀k,F k->B<=k)(hB:B<=w.heap.size):Below B w w':=
 ⟨h.os,h.tape,h.output,h.size,fun k hk=>h.block k (by omega) (fun hf=>by have:=hF k hf;omega)⟩
theorem Zf.of_below{F:Nat->Prop}{w w':World}(h:Below w.heap.size w w'):Zf F w w':=⟨h.os,h.tape,h.output,h.size,fun k hk _=>h.block k hk⟩
theorem ZoT:∀(N:Nat) (l:List Nat),l.Nodup->(∀x∈l,x<N)->l.length<=N:=by
 intro N
 induction N with
 | zero=>
  intro l _ h;cases l with
  | nil=>exact ZZe _
  | cons a l=>exact absurd (h a (by simp)) (by omega)
 | succ N ih=>
  intro l hn h;by_cases hm:N∈l
  · have h1:=ih (l.erase N) (hn.erase N) (fun x hx=>by
     have:=h x (List.mem_of_mem_erase hx)
     have hne:x≠N:=fun e=>by subst e;exact(List.Nodup.not_mem_erase hn) hx
     omega)
    have h2:=List.length_erase_of_mem hm;omega
  · have:=ih l hn (fun x hx=>by
     have:=h x hx
     have hne:x≠N:=fun e=>by subst e;exact hm hx
     omega)
    omega
end Go.Proofs.YtlmkdmdbpopnhaaGreatDoor
namespace Go.Proofs.YtlmkdmdbpopnhaaGreatDoor
open Go.RowKit
def Znh(n c:Int):Int:=bits .or .i64 (wrap64 (n*256)) c
def numOf(l:List Int):Int:=l.foldl Znh 0
def beOf(l:List Int):Int:=l.foldl (fun n c=>n*256+c) 0
def Zr(n:Int):Nat->List Int|0=>[]|k+1=>Zr (n/256) k++[n%256]
theorem Zg3(l:List Int)(x:Int):numOf (l++[x])=Znh (numOf l) x:=by simp[numOf]
theorem ZiA(l:List Int)(x:Int):beOf (l++[x])=beOf l*256+x:=by simp[beOf]
theorem ZlS(l:List Int)(a k:Nat)(h:a+k<l.length):numOf ((l.drop a).take (k+1))=Znh (numOf ((l.drop a).take k)) (l[a+k]?.getD 0):=by
 have e:(l.drop a).take (k+1)=(l.drop a).take k++[l[a+k]?.getD 0]:=by
  rw[List.take_succ_eq_append_getElem (by simp;omega)];simp[ZZc h]
 rw[e,Zg3]
theorem ZhG(x y:Int):bits .or .i64 x y=wrap64 (((x%18446744073709551616).toNat ||| (y%18446744073709551616).toNat:Nat):Int):=by
 have e:∀z:Int,IntKind.i64.wrap z=wrap64 z:=fun z=>by rw[IntKind.wrap_i64];first|rfl|(unfold wrap64;rfl)|unfold wrap64
 simp only[bits];rw[e,BitVec.toNat_or,BitVec.toNat_ofInt,BitVec.toNat_ofInt];rfl
theorem ZoU(n c:Int)(h0:0<=c)(h1:c<256):Znh n c=wrap64 (n*256+c):=by
 unfold Znh;rw[ZhG]
 obtain⟨q,hq⟩:∃q:Nat,(wrap64 (n*256)%18446744073709551616).toNat=256*q:=by
  refine⟨(wrap64 (n*256)%18446744073709551616).toNat/256,?_⟩;unfold wrap64;omega
 obtain⟨d,rfl⟩:=Int.eq_ofNat_of_zero_le h0;have hd:((d:Int)%18446744073709551616).toNat=d:=by omega
 rw[hq,hd];have hor:256*q ||| d=256*q+d:=(Nat.two_pow_add_eq_or_of_lt (i:=8) (by omega) q).symm
 rw[hor]
 unfold wrap64 at hq ⊢
 omega
theorem ZdM(l:List Int)(h:∀x∈l,0<=x/\x<256):numOf l=wrap64 (beOf l):=by
 suffices H:∀k,k<=l.length->numOf (l.take k)=wrap64 (beOf (l.take k)) by
  have:=H l.length (ZZe _);rwa[List.take_length]at this
 intro k
 induction k with
 | zero=>intro _;simp[numOf,beOf,wrap64]
 | succ k ih=>
  intro hk;rw[List.take_succ_eq_append_getElem (by omega),Zg3,ZiA,ih (by omega)];obtain⟨a,b⟩:=h _ (List.getElem_mem (by omega:k<l.length));rw[ZoU _ _ a b];generalize beOf (List.take k l)=z;unfold wrap64;omega
theorem Zc(n:Int)(k:Nat):(Zr n k).length=k:=by
 induction k generalizing n with
 | zero=>rfl
 | succ k ih=>simp[Zr,ih]
theorem ZW(n:Int)(k:Nat):∀x∈Zr n k,0<=x/\x<256:=by
 induction k generalizing n with
 | zero=>intro x hx;cases hx
 | succ k ih=>
  intro x hx;simp only[Zr,List.mem_append,List.mem_singleton]at hx;rcases hx with h|h
  · exact ih _ x h
  · subst h;omega
theorem Zni(n:Int)(k:Nat):beOf (Zr n k)=n%256^k:=by
 induction k generalizing n with
 | zero=>simp[Zr,beOf]
 | succ k ih=>
  rw[Zr,ZiA,ih,Int.pow_succ];have h1:=Int.emod_add_mul_ediv n 256;have h2:=Int.emod_add_mul_ediv (n/256) (256^k);have hp:(0:Int)<256^k:=Int.pow_pos (by decide);have h3:0<=n/256%256^k:=Int.emod_nonneg _ (by omega);have h4:n/256%256^k<256^k:=Int.emod_lt_of_pos _ hp
  have h5:n=(n/256%256^k*256+n%256)+(256^k*256)*(n/256/256^k):=by
   have:256^k*256*(n/256/256^k)=256*(256^k*(n/256/256^k)):=by
    rw[Int.mul_comm (256^k) 256,Int.mul_assoc]
   rw[this];omega
  have h6:(n/256%256^k*256+n%256)%(256^k*256)=n/256%256^k*256+n%256:=
   Int.emod_eq_of_lt (by omega) (by omega)
  rw[<-h6]
  conv=>rhs;rw[h5]
  rw[Int.add_mul_emod_self_left]
def shN(n:Int):Nat->Int|0=>n|j+1=>shN n j/256
theorem Znj(n:Int)(j:Nat):shN n (j+1)=shN (n/256) j:=by
 induction j with
 | zero=>rfl
 | succ j ih=>rw[shN,ih];rfl
theorem ZlT(n:Int)(j:Nat):Zr n (j+1)=(shN n j%256)::Zr n j:=by
 induction j generalizing n with
 | zero=>simp[Zr,shN]
 | succ j ih=>
  rw[Zr,ih,Znj]
  conv=>rhs;rw[Zr]
  simp
theorem ZlU(n:Int)(h0 : -9223372036854775808<=n)(h1:n<=9223372036854775807)(j:Nat) : -9223372036854775808<=shN n j/\shN n j<=9223372036854775807:=by
 induction j with
 | zero=>exact⟨h0,h1⟩
 | succ j ih=>rw[shN];omega
def ZbP(s:Int):Bool:=decide (s=1∨s=2∨s=4∨s=8)
def Zj(n s:Int):Bool:=decide (s=8)||(decide (s=1)&&decide (0<=n/\n<256))||(decide (s=2)&&decide (0<=n/\n<65536))||(decide (s=4)&&decide (0<=n/\n<4294967296))
theorem size_cases{s:Int}(h:ZbP s=true):s=1∨s=2∨s=4∨s=8:=of_decide_eq_true h
theorem Zaf(s:Int)(w:World) :
 Calls prog 200 #[.int .i64 s] w fun e w'=>e=.returned (.bool (ZbP s))/\w=w':=by
 by_cases h1:s=1
 · subst h1;go_enter func200,ntmps200
   go_wp2;go_ret;exact⟨rfl,rfl⟩
 by_cases h2:s=2
 · subst h2;go_enter func200,ntmps200
   go_wp2;go_ret;exact⟨rfl,rfl⟩
 by_cases h4:s=4
 · subst h4;go_enter func200,ntmps200
   go_wp2;go_ret;exact⟨rfl,rfl⟩
 by_cases h8:s=8
 · subst h8;go_enter func200,ntmps200
   go_wp2;go_ret;exact⟨rfl,rfl⟩
 have e:ZbP s=false:=by simp[ZbP,h1,h2,h4,h8]
 have k1:(s == 1)=false:=by simpa using h1
 have k2:(s == 2)=false:=by simpa using h2
 have k4:(s == 4)=false:=by simpa using h4
 have k8:(s == 8)=false:=by simpa using h8
 rw[e];clear e h1 h2 h4 h8;go_enter func200,ntmps200
 go_wp2;go_ret;exact⟨rfl,rfl⟩
theorem Zd5{n s:Int}(h:ZbP s=false):Zj n s=false:=by
 simp only[ZbP,decide_eq_false_iff_not,not_or]at h;obtain⟨a,b,c,d⟩:=h;simp[Zj,a,b,c,d]
theorem ZiB(s:Int)(w:World)(h:ZbP s=false) :
 Calls prog 200 #[.int .i64 s] w fun e w'=>e=.returned (.bool false)/\w=w':=by
 have:=Zaf s w;rwa[h]at this
theorem ZeS(s:Int)(w:World)(h:ZbP s=true) :
 Calls prog 200 #[.int .i64 s] w fun e w'=>e=.returned (.bool true)/\w=w':=by
 have:=Zaf s w;rwa[h]at this
theorem Zf0(n s:Int)(w:World) :
 Calls prog 201 #[.int .i64 n,.int .i64 s] w fun e w'=>e=.returned (.bool (Zj n s))/\w=w':=by
 by_cases hs:ZbP s=true
 · rcases size_cases hs with rfl|rfl|rfl|rfl
   · clear hs;by_cases h0:0<=n
     · by_cases h1:n<256
       · have e:Zj n 1=true:=by simp[Zj,h0,h1]
         have k0:decide (0<=n)=true:=by simp[h0]
         have k1:decide (n<256)=true:=by simp[h1]
         rw[e];clear e h0 h1
         go_enter func201,ntmps201;go_wp2_with (go_at_call 200;refine(Zaf _ _).mono ?_;rintro e w' ⟨rfl,rfl⟩);go_ret;exact⟨rfl,rfl⟩
       · have e:Zj n 1=false:=by simp[Zj,h1]
         have k0:decide (0<=n)=true:=by simp[h0]
         have k1:decide (n<256)=false:=by simp;omega
         rw[e];clear e h0 h1
         go_enter func201,ntmps201;go_wp2_with (go_at_call 200;refine(Zaf _ _).mono ?_;rintro e w' ⟨rfl,rfl⟩);go_ret;exact⟨rfl,rfl⟩
     · have e:Zj n 1=false:=by simp[Zj,h0]
       have k0:decide (0<=n)=false:=by simp;omega
       rw[e];clear e h0
       go_enter func201,ntmps201;go_wp2_with (go_at_call 200;refine(Zaf _ _).mono ?_;rintro e w' ⟨rfl,rfl⟩);go_ret;exact⟨rfl,rfl⟩
   · clear hs;by_cases h0:0<=n
     · by_cases h1:n<65536
       · have e:Zj n 2=true:=by simp[Zj,h0,h1]
         have k0:decide (0<=n)=true:=by simp[h0]
         have k1:decide (n<65536)=true:=by simp[h1]
         rw[e];clear e h0 h1
         go_enter func201,ntmps201;go_wp2_with (go_at_call 200;refine(Zaf _ _).mono ?_;rintro e w' ⟨rfl,rfl⟩);go_ret;exact⟨rfl,rfl⟩
       · have e:Zj n 2=false:=by simp[Zj,h1]
         have k0:decide (0<=n)=true:=by simp[h0]
         have k1:decide (n<65536)=false:=by simp;omega
         rw[e];clear e h0 h1
         go_enter func201,ntmps201;go_wp2_with (go_at_call 200;refine(Zaf _ _).mono ?_;rintro e w' ⟨rfl,rfl⟩);go_ret;exact⟨rfl,rfl⟩
     · have e:Zj n 2=false:=by simp[Zj,h0]
       have k0:decide (0<=n)=false:=by simp;omega
       rw[e];clear e h0
       go_enter func201,ntmps201;go_wp2_with (go_at_call 200;refine(Zaf _ _).mono ?_;rintro e w' ⟨rfl,rfl⟩);go_ret;exact⟨rfl,rfl⟩
   · clear hs;by_cases h0:0<=n
     · by_cases h1:n<4294967296
       · have e:Zj n 4=true:=by simp[Zj,h0,h1]
         have k0:decide (0<=n)=true:=by simp[h0]
         have k1:decide (n<4294967296)=true:=by simp[h1]
         rw[e];clear e h0 h1
         go_enter func201,ntmps201;go_wp2_with (go_at_call 200;refine(Zaf _ _).mono ?_;rintro e w' ⟨rfl,rfl⟩);go_ret;exact⟨rfl,rfl⟩
       · have e:Zj n 4=false:=by simp[Zj,h1]
         have k0:decide (0<=n)=true:=by simp[h0]
         have k1:decide (n<4294967296)=false:=by simp;omega
         rw[e];clear e h0 h1
         go_enter func201,ntmps201;go_wp2_with (go_at_call 200;refine(Zaf _ _).mono ?_;rintro e w' ⟨rfl,rfl⟩);go_ret;exact⟨rfl,rfl⟩
     · have e:Zj n 4=false:=by simp[Zj,h0]
       have k0:decide (0<=n)=false:=by simp;omega
       rw[e];clear e h0
       go_enter func201,ntmps201;go_wp2_with (go_at_call 200;refine(Zaf _ _).mono ?_;rintro e w' ⟨rfl,rfl⟩);go_ret;exact⟨rfl,rfl⟩
   · clear hs;have e:Zj n 8=true:=by simp[Zj]
     rw[e];clear e
     go_enter func201,ntmps201;go_wp2_with (go_at_call 200;refine(Zaf _ _).mono ?_;rintro e w' ⟨rfl,rfl⟩);go_ret;exact⟨rfl,rfl⟩
 · have hs':ZbP s=false:=by simpa using hs
   rw[Zd5 hs']
   have k8:(s == 8)=false:=by
    simp only[ZbP,decide_eq_false_iff_not,not_or]at hs';simpa using hs'.2.2.2
   clear hs;have HS:=hid hs';clear hs'
   go_enter func201,ntmps201;go_wp2_with (go_at_call 200;refine(ZiB _ _ HS.out).mono ?_;rintro e w' ⟨rfl,rfl⟩);go_ret;exact⟨rfl,rfl⟩
theorem ZcB(n s:Int)(w:World)(h:Zj n s=true):Calls prog 201 #[.int .i64 n,.int .i64 s] w fun e w'=>e=.returned (.bool true)/\w=w':=by
 have:=Zf0 n s w;rwa[h]at this
theorem ZfK(n s:Int)(w:World)(h:Zj n s=false):Calls prog 201 #[.int .i64 n,.int .i64 s] w fun e w'=>e=.returned (.bool false)/\w=w':=by
 have:=Zf0 n s w;rwa[h]at this
end Go.Proofs.YtlmkdmdbpopnhaaGreatDoor
namespace Go.Proofs.YtlmkdmdbpopnhaaGreatDoor
open Go.RowKit
def getR(l:List Int)(a s:Int):Int×Int:=
 if ZbP s=true/\0<=a then(if a>(l.length:Int)-s then(0,3)else(numOf ((l.drop a.toNat).take s.toNat),0))else(0,1)
theorem Zq8(A:Option Addr)(n c B:Nat)(l:List Int)(at_:Nat)(size:Nat)(w:World)(hr:RB w B A n l)(hc:n<=c)(hm:n<=maxLen)(hs:ZbP (size:Int)=true)(hat:at_+size<=n) :
 Calls prog 143 #[.slice A n c,.int .i64 (at_:Int),.int .i64 (size:Int)] w fun e w'=>e=.returned (.tuple #[.int .i64 (numOf ((l.drop at_).take size)),.int .i64 0])/\w=w':=by
 unfold maxLen at hm;have hsz:1<=size/\size<=8:=by rcases size_cases hs with h|h|h|h <;> omega
 obtain⟨hsz1,hsz8⟩:=hsz;obtain⟨b,off,rfl,hb,hcell⟩:=hr.at_ (by omega);have HC:=hid hcell;have HS:=hid hs;clear hcell hs;have k1:decide ((at_:Int)<0)=false:=by simp
 have k2:decide ((at_:Int)>(n:Int)-size)=false:=by simp;omega
 go_enter func143,ntmps143
 go_wp2_with (go_at_call 200;refine(ZeS _ _ HS.out).mono ?_;rintro e w' ⟨rfl,rfl⟩)
 go_loop[8,31] (fun x i=>∃k:Nat,k<=size/\i=.int .i64 k/\x=.int .i64 (numOf ((l.drop at_).take k))) (fun _ i=>size-(intOf i).toNat)
 case atStart=>exact⟨0,Nat.zero_le _,rfl,rfl⟩
 case round=>
  obtain⟨k,hk,rfl,rfl⟩:=hrel;by_cases hlt:k<size
  · have hcell:w.cell? ⟨b,off+at_+k,none⟩=some (.int .u8 (l[at_+k]?.getD 0)):=by rw[Nat.add_assoc];exact HC.out (at_+k) (by omega)
    have hbd:=hr.bytes.getD (at_+k);obtain⟨hb0,hb1⟩:=hbd;have hst:=hid (ZlS l at_ k (by have:=hr.len;omega));have hbig:k<at_+size-at_:=by omega
    go_wp2
    go_round
    case rel=>exact⟨k+1,by omega,by go_num,by rw[hst.out];rfl⟩
    case measure=>simp[intOf];omega
  · have hnlt:¬(k<size):=hlt;go_wp2;go_ret2;obtain rfl:k=size:=by omega
    exact⟨rfl,rfl⟩
theorem Znk(A:Option Addr)(n c:Nat)(at_ s:Int)(w:World)(hm:n<=maxLen)(hs:ZbP s=true)(ha:0<=at_)(hat:at_>(n:Int)-s) :
 Calls prog 143 #[.slice A n c,.int .i64 at_,.int .i64 s] w fun e w'=>e=.returned (.tuple #[.int .i64 0,.int .i64 3])/\w=w':=by
 unfold maxLen at hm;have hsz:1<=s/\s<=8:=by rcases size_cases hs with h|h|h|h <;> omega
 obtain⟨hsz1,hsz8⟩:=hsz;have HS:=hid hs;have k1:decide (at_<0)=false:=by simp;omega
 have k2:decide (at_>(n:Int)-s)=true:=by simp;omega
 clear hs hat;go_enter func143,ntmps143
 go_wp2_with (go_at_call 200;refine(ZeS _ _ HS.out).mono ?_;rintro e w' ⟨rfl,rfl⟩)
 go_ret2;exact⟨rfl,rfl⟩
theorem Zqk(A:Option Addr)(n c:Nat)(at_ s:Int)(w:World)(h:ZbP s=false∨at_<0) :
 Calls prog 143 #[.slice A n c,.int .i64 at_,.int .i64 s] w fun e w'=>e=.returned (.tuple #[.int .i64 0,.int .i64 1])/\w=w':=by
 by_cases hs:ZbP s=true
 · have ha:at_<0:=by
    rcases h with h|h
    · rw[hs]at h;cases h
    · exact h
   have k1:decide (at_<0)=true:=by simp[ha]
   have HS:=hid hs;clear hs h ha;go_enter func143,ntmps143
   go_wp2_with (go_at_call 200;refine(ZeS _ _ HS.out).mono ?_;rintro e w' ⟨rfl,rfl⟩)
   go_ret2;exact⟨rfl,rfl⟩
 · have hs':ZbP s=false:=by simpa using hs
   have HS:=hid hs';clear hs hs' h;go_enter func143,ntmps143
   go_wp2_with (go_at_call 200;refine(ZiB _ _ HS.out).mono ?_;rintro e w' ⟨rfl,rfl⟩)
   go_ret2;exact⟨rfl,rfl⟩
theorem Zb7(A:Option Addr)(n c B:Nat)(l:List Int)(at_ s:Int)(w:World)(hr:RB w B A n l)(hc:n<=c)(hm:n<=maxLen) :
 Calls prog 143 #[.slice A n c,.int .i64 at_,.int .i64 s] w fun e w'=>e=.returned (.tuple #[.int .i64 (getR l at_ s).1,.int .i64 (getR l at_ s).2])/\w=w':=by
 unfold getR;by_cases hs:ZbP s=true/\0<=at_
 · rw[if_pos hs];obtain⟨h1,h2⟩:=hs;rw[hr.len];by_cases hat:at_>(n:Int)-s
   · rw[if_pos hat];exact Znk A n c at_ s w hm h1 h2 hat
   · rw[if_neg hat];obtain⟨a,rfl⟩:=Int.eq_ofNat_of_zero_le h2;obtain⟨z,rfl⟩:=Int.eq_ofNat_of_zero_le (show 0<=s by rcases size_cases h1 with h|h|h|h <;> omega);exact Zq8 A n c B l a z w hr hc hm h1 (by omega)
 · rw[if_neg hs];refine Zqk A n c at_ s w ?_;by_cases h1:ZbP s=true
   · right;by_cases h2:0<=at_
     · exact absurd ⟨h1,h2⟩ hs
     · omega
   · left;simpa using h1
end Go.Proofs.YtlmkdmdbpopnhaaGreatDoor
