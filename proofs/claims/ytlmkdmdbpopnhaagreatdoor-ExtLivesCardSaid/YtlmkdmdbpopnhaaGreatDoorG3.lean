/- LayP, RedoP, PgP, DiskSaidB, RedoC, RedoD. Conditions: in each theorem. -/
import Derived.Test.YtlmkdmdbpopnhaaGreatDoorG1
import Derived.Test.YtlmkdmdbpopnhaaGreatDoorG2
import Derived.Test.YtlmkdmdbpopnhaaGreatDoorRows
import Derived.WalkKit
import Derived.WalkSpells
import Derived.WalkLawsBesides
import Derived.IntWalk
import Derived.Below
import Derived.Lib.Hide
set_option maxRecDepth 100000
set_option linter.unusedVariables false
open Go.Proofs.Tryz
namespace Go.Proofs.YtlmkdmdbpopnhaaGreatDoor
open Go.RowKit
def pagesOf(n:Int):Int:=if n<3∨n>65536 then 0 else(n-1)/2
def Zgm(n i:Int):Int×Bool:=if i<0∨i≥pagesOf n then(0,false)else(i+1,true)
def ZaL(n p:Int):Int×Bool:=if p<0∨p≥pagesOf n then(0,false)else(p+1+pagesOf n,true)
theorem Zm(n:Int):0<=pagesOf n/\pagesOf n<=32767:=by
 unfold pagesOf
 split <;> omega
theorem ZN(n:Int):0<=pagesOf n/\(3<=n->2*pagesOf n<n)/\pagesOf n<=32767:=by
 unfold pagesOf
 split <;> omega
def ZH:List Int:=List.replicate 240 0
theorem ZaS:ZH.length=240/\Ze ZH:=⟨List.length_replicate ..,fun x hx=>by
 obtain rfl:=(List.mem_replicate.1 hx).2
 decide⟩
def DS.P(S:DS):Int:=pagesOf S.n
def ZaP(r:Int×DS)(f:DS->Int×DS):Int×DS:=if r.1=0 then f r.2 else r
def DS.wr(S:DS)(i:Int)(l:List Int):Int×DS:=(S.writeE i l,S.write i l)
def DS.fl(S:DS):Int×DS:=(S.flushE,S.flush)
def ZV(S:DS)(count seq:Int):Int×DS:=ZaP (S.wr 0 (Zdl count seq ZH).1) DS.fl
def Zcq(n:Int)(f:Nat->List Int)(seq:Int)(i:Nat):Option (Int×List Int):=
 if(Zd (f (i+1))).2.2.2=0/\(Zd (f (i+1))).2.1=seq/\(Zd (f (i+1))).1<pagesOf n then some ((Zd (f (i+1))).1,f (i+1))else none
def Zas(n:Int)(f:Nat->List Int)(seq:Int):Nat->Option (List (Int×List Int))
 | 0=>some []
 | k+1=>match Zas n f seq k,Zcq n f seq k with|some l,some x=>some (l++[x])|_,_=>none
def Zae(n:Int)(f:Nat->List Int)(count seq:Int):Option (List (Int×List Int)):=if count>pagesOf n then none else Zas n f seq count.toNat
def ZK(S:DS):List (Int×List Int)->Int×DS
 | []=>S.fl
 | (p,b)::r=>ZaP (S.wr (p+1+S.P) b) (fun S'=>ZK S' r)
def ZaF(S:DS):Int×Int×DS:=
 if S.down=true then(5,0,S)else
 if(Zd (S.last 0)).2.2.2≠0 then(4,0,S)else
 match Zae S.n S.last (Zd (S.last 0)).1 (Zd (S.last 0)).2.1 with
 | none=>(0,(Zd (S.last 0)).2.1,S)
 | some l=>if(ZK S l).1≠0 then((ZK S l).1,0,(ZK S l).2)else(0,(Zd (S.last 0)).2.1,(ZK S l).2)
def Za9(S:DS)(p:Int):List Int×Int:=
 if p<0∨p≥S.P then([],1)else if S.down=true then([],5)else
 if(Zd (S.last (p+1+S.P).toNat)).2.2.2≠0∨(Zd (S.last (p+1+S.P).toNat)).1≠p then(ZH,0)else((Zd (S.last (p+1+S.P).toNat)).2.2.1,0)
def ZbN(S:DS)(l:List (Int×List Int)):Prop:=(∀x∈l,0<=x.1/\x.1<S.P/\x.2.length=240)/\(l.map (·.1)).Nodup
instance (S:DS) (l:List (Int×List Int)):Decidable (ZbN S l):=by unfold ZbN;infer_instance
def Zo(seq:Int)(l:List (Int×List Int)):List (Int×List Int):=l.map fun x=>(x.1,(Zdl x.1 seq x.2).1)
def ZbU(S:DS)(i:Int):List (Int×List Int)->Int×DS
 | []=>(0,S)
 | (_,b)::r=>ZaP (S.wr (i+1) b) (fun S'=>ZbU S' (i+1) r)
def Zs(S:DS)(seq:Int)(l:List (Int×List Int)):Int×Int×DS:=
 if(l.length:Int)>S.P then(6,seq,S)else if ¬ZbN S l then(1,seq,S)else if l = []then(0,seq,S)else
 let a:=ZaP (ZbU S 0 (Zo (seq+1) l)) DS.fl
 if a.1≠0 then(a.1,seq,a.2)else
 let m:=ZV a.2 l.length (seq+1)
 if m.1≠0 then(m.1,seq,m.2)else
 ((ZK m.2 (Zo (seq+1) l)).1,seq+1,(ZK m.2 (Zo (seq+1) l)).2)
def ZfG(f:Nat->List Int)(i:Nat)(l:List Int):Nat->List Int:=fun j=>if j=i then l else f j
def Zh0(n:Int)(f:Nat->List Int)(l:List (Int×List Int)):Nat->List Int:=l.foldl (fun g x=>ZfG g (x.1+1+pagesOf n).toNat x.2) f
def Zdh(n:Int)(f:Nat->List Int):Nat->List Int:=
 match Zae n f (Zd (f 0)).1 (Zd (f 0)).2.1 with
 | none=>f
 | some l=>Zh0 n f l
def Zd4(n:Int)(f:Nat->List Int)(p:Int):List Int:=
 if(Zd (f (p+1+pagesOf n).toNat)).2.2.2≠0∨(Zd (f (p+1+pagesOf n).toNat)).1≠p then ZH else(Zd (f (p+1+pagesOf n).toNat)).2.2.1
structure ZdC(S:DS)(f:Nat->List Int):Prop where
 safe:S.safe=f
 last:S.last=f
 up:S.down=false
def Zce(f:Nat->List Int)(W:Nat->List Int->Prop)(g:Nat->List Int):Prop:=∀i,g i=f i∨W i (g i)
section
variable{S:DS}{f g:Nat->List Int}{W:Nat->List Int->Prop}{n:Int}
theorem Zce.refl(f:Nat->List Int)(W:Nat->List Int->Prop):Zce f W f:=fun i=>.inl rfl
theorem Zce.put(h:Zce f W g){i:Nat}{l:List Int}(hw:W i l):Zce f W (ZfG g i l):=fun j=>by
 unfold ZfG;by_cases e:j=i
 · subst e;rw[if_pos rfl];exact .inr hw
 · rw[if_neg e];exact h j
def ZgQ(f:Nat->List Int)(W:Nat->List Int->Prop)(S:DS):Prop:=Zce f W S.safe/\Zce f W S.last
theorem ZgQ.write(h:ZgQ f W S){i:Int}{l:List Int}(hw:W i.toNat l):ZgQ f W (S.write i l):=by
 unfold DS.write;split
 · exact h
 split
 · exact h
 split
 · exact h
 · exact⟨h.1,h.2.put hw⟩
theorem ZgQ.flush(h:ZgQ f W S):ZgQ f W S.flush:=by
 unfold DS.flush;split
 · exact h
 · exact⟨h.2,h.2⟩
theorem ZdC.both(h:ZdC S f)(W:Nat->List Int->Prop):ZgQ f W S:=by
 obtain⟨h1,h2,_⟩:=h;exact⟨by rw[h1];exact Zce.refl f W,by rw[h2];exact Zce.refl f W⟩
theorem ZgQ.homes(l:List (Int×List Int)):∀{S:DS},ZgQ f W S->(∀x∈l,W (x.1+1+S.P).toNat x.2)->ZgQ f W (ZK S l).2:=by
 induction l with
 | nil=>intro S h _;exact h.flush
 | cons x r ih=>
  obtain⟨p,b⟩:=x;intro S h hw;unfold ZK ZaP;have h1:ZgQ f W (S.write (p+1+S.P) b):=h.write (hw _ (List.mem_cons_self ..))
  have hn:(S.write (p+1+S.P) b).P=S.P:=by
   unfold DS.P DS.write;split
   · rfl
   split
   · rfl
   split <;> rfl
  split
  · exact ih h1 fun x hx=>by
     rw[show(S.wr (p+1+S.P) b).2=S.write (p+1+S.P) b from rfl,hn];exact hw x (List.mem_cons_of_mem _ hx)
  · exact h1
theorem ZgQ.slots(l:List (Int×List Int)):∀{S:DS} (i:Int),ZgQ f W S->(∀(k:Nat) (x:Int×List Int),l[k]?=some x->W (i+k+1).toNat x.2)->ZgQ f W (ZbU S i l).2:=by
 induction l with
 | nil=>intro S i h _;exact h
 | cons x r ih=>
  obtain⟨p,b⟩:=x;intro S i h hw;unfold ZbU ZaP;have h1:ZgQ f W (S.write (i+1) b):=h.write (by have:=hw 0 _ rfl;simpa using this);split
  · exact ih (i+1) h1 fun k x hx=>by
     have:=hw (k+1) x hx
     rw[show i+1+(k:Int)+1=i+((k+1:Nat):Int)+1 by omega];exact this
  · exact h1
end
def atL:List (Int×List Int)->Int->Option (List Int)
 | [],_=>none
 | x::r,i=>if x.1=i then some x.2 else atL r i
def Zef:List (Int×List Int)->Int->List Int->List (Int×List Int)
 | [],i,l=>[(i,l)]
 | x::r,i,l=>if x.1<i then x::Zef r i l else if x.1=i then(i,l)::r else(i,l)::x::r
def Zbp(L:List (Int×List Int)):Prop:=L.Pairwise fun a b=>a.1<b.1
def ZcH(S:DS)(L:List (Int×List Int)):Prop:=∀x∈L,0<=x.1/\x.1<S.P/\x.2.length=240/\Ze x.2
def Zn(S:DS)(L:List (Int×List Int))(i:Int):List Int×Int:=match atL L i with|some l=>(l,0)|none=>Za9 S i
def Za4(S:DS)(i:Int)(l:List Int):Int:=if i<0∨i≥S.P∨l.length≠240 then 1 else 0
def Zcf(S:DS)(L:List (Int×List Int))(i:Int)(l:List Int):List (Int×List Int):=if i<0∨i≥S.P∨l.length≠240 then L else Zef L i l
def ZdD(S:DS)(seq:Int)(L:List (Int×List Int)):List (Int×List Int):=if(Zs S seq L).1=0 then []else L
section
variable{S:DS}{L:List (Int×List Int)}{i j:Int}{l:List Int}
theorem ZfR:∀L:List (Int×List Int),atL (Zef L i l) j=if j=i then some l else atL L j
 | []=>by
  show(if i=j then some l else none)=_
  by_cases h:j=i
  · rw[if_pos h,if_pos h.symm]
  · rw[if_neg h,if_neg (fun e=>h e.symm)];rfl
 | x::r=>by
  unfold Zef;by_cases h1:x.1<i
  · rw[if_pos h1]
    show(if x.1=j then some x.2 else atL (Zef r i l) j)=if j=i then some l else if x.1=j then some x.2 else atL r j
    rw[ZfR r];by_cases h2:x.1=j
    · rw[if_pos h2,if_pos h2,if_neg (by omega)]
    · rw[if_neg h2,if_neg h2]
  · rw[if_neg h1];by_cases h2:x.1=i
    · rw[if_pos h2]
      show(if i=j then some l else atL r j)=if j=i then some l else if x.1=j then some x.2 else atL r j
      by_cases h3:j=i
      · rw[if_pos h3.symm,if_pos h3]
      · rw[if_neg (fun e=>h3 e.symm),if_neg h3,if_neg (by omega)]
    · rw[if_neg h2]
      show(if i=j then some l else if x.1=j then some x.2 else atL r j)=if j=i then some l else if x.1=j then some x.2 else atL r j
      by_cases h3:j=i
      · rw[if_pos h3.symm,if_pos h3]
      · rw[if_neg (fun e=>h3 e.symm),if_neg h3]
theorem mem_setL{x:Int×List Int}:∀L:List (Int×List Int),x∈Zef L i l->x=(i,l)∨x∈L
 | [],h=>.inl (List.mem_singleton.1 h)
 | y::r,h=>by
  unfold Zef at h;by_cases h1:y.1<i
  · rw[if_pos h1]at h;rcases List.mem_cons.1 h with rfl|h
    · exact .inr (List.mem_cons_self ..)
    · exact(mem_setL r h).imp id (List.mem_cons_of_mem _)
  · rw[if_neg h1]at h;by_cases h2:y.1=i
    · rw[if_pos h2]at h;rcases List.mem_cons.1 h with rfl|h
      · exact .inl rfl
      · exact .inr (List.mem_cons_of_mem _ h)
    · rw[if_neg h2]at h;rcases List.mem_cons.1 h with rfl|h
      · exact .inl rfl
      · exact .inr h
theorem Zbp.set:∀{L:List (Int×List Int)},Zbp L->Zbp (Zef L i l)
 | [],_=>List.pairwise_singleton ..
 | y::r,h=>by
  have h':=List.pairwise_cons.1 h;unfold Zef;by_cases h1:y.1<i
  · rw[if_pos h1];refine List.pairwise_cons.2 ⟨fun z hz=>?_,Zbp.set h'.2⟩;rcases mem_setL r hz with rfl|hz
    · exact h1
    · exact h'.1 z hz
  · rw[if_neg h1];by_cases h2:y.1=i
    · rw[if_pos h2];exact List.pairwise_cons.2 ⟨fun z hz=>by have:=h'.1 z hz;show i<z.1;omega,h'.2⟩
    · rw[if_neg h2];refine List.pairwise_cons.2 ⟨fun z hz=>?_,h⟩;rcases List.mem_cons.1 hz with rfl|hz
      · show i<z.1;omega
      · have:=h'.1 z hz;show i<z.1;omega
theorem ZcH.set(h:ZcH S L)(hi:0<=i/\i<S.P)(hl:l.length=240)(hb:Ze l):ZcH S (Zef L i l):=fun x hx=>by
 rcases mem_setL L hx with rfl|hx
 · exact⟨hi.1,hi.2,hl,hb⟩
 · exact h x hx
theorem Zh1:∀{L:List (Int×List Int)},atL L i=some l->(i,l)∈L
 | [],h=>by cases h
 | x::r,h=>by
  unfold atL at h;by_cases h1:x.1=i
  · rw[if_pos h1]at h;cases h;rw[<-h1];exact List.mem_cons_self ..
  · rw[if_neg h1]at h;exact List.mem_cons_of_mem _ (Zh1 h)
theorem Zbp.at_:∀{L:List (Int×List Int)},Zbp L->(i,l)∈L->atL L i=some l
 | [],_,h=>by cases h
 | x::r,hr,h=>by
  have h':=List.pairwise_cons.1 hr;unfold atL;rcases List.mem_cons.1 h with e|h
  · rw[<-e,if_pos rfl]
  · have:x.1<i:=h'.1 _ h
    rw[if_neg (by omega)];exact Zbp.at_ h'.2 h
theorem Zbp.nodup(h:Zbp L):(L.map (·.1)).Nodup:=by
 rw[List.nodup_iff_pairwise_ne,List.pairwise_map];exact h.imp fun {a b} hab=>by omega
theorem ZeD:∀(N:Nat) (l:List Int),l.Nodup->(∀x∈l,0<=x/\x<N)->l.length<=N
 | 0,l,_,h=>by
  cases l with
  | nil=>exact ZZe _
  | cons x r=>have:=h x (List.mem_cons_self ..);omega
 | N+1,l,hn,h=>by
  have h1:(l.erase (N:Int)).length<=N:=ZeD N _ (hn.erase _) fun x hx=>by
   have hx':=(hn.mem_erase_iff).1 hx
   have:=h x hx'.2
   have:=hx'.1
   omega
  have h2:l.length<=(l.erase (N:Int)).length+1:=by
   rw[List.length_erase]
   split <;> omega
  omega
theorem Zgn(h:Zbp L)(h2:ZcH S L):(L.length:Int)<=S.P:=by
 have hp:=Zm (S.n:Int);rcases Int.lt_or_le S.P 0 with hneg|hpos
 · cases L with
   | nil=>exfalso;have:=(ZN (S.n:Int)).1;unfold DS.P at hneg;omega
   | cons x r=>have:=h2 x (List.mem_cons_self ..);omega
 · obtain⟨N,hN⟩:=Int.eq_ofNat_of_zero_le hpos
   have:=ZeD N (L.map (·.1)) h.nodup fun x hx=>by
    obtain⟨y,hy,rfl⟩:=List.mem_map.1 hx
    have:=h2 y hy
    omega
   rw[List.length_map]at this;omega
end
structure Zb(D:World->(Nat->Prop)->Addr->DS->Prop):Prop where
 keep:∀(w w':World) (F:Nat->Prop) (p:Addr) (S:DS),D w F p S->(∀k,F k->w'.heap[k]?=w.heap[k]?)->D w' F p S
 lt:∀(w:World) (F:Nat->Prop) (p:Addr) (S:DS),D w F p S->∀k,F k->k<w.heap.size
 ok:∀(w:World) (F:Nat->Prop) (p:Addr) (S:DS),D w F p S->S.Ok
 new:∀(n:Int) (w:World),3<=n->n<=65536->Calls prog 18 #[.int .i64 n] w fun e w'=>∃(p:Addr) (F:Nat->Prop),e=.returned (.tuple #[.pointer (some p),.int .i64 0])/\D w' F p (DS.new n.toNat)/\Below w.heap.size w w'/\∀k,F k->w.heap.size<=k
 newNo:∀(n:Int) (w:World),¬(3<=n/\n<=65536)->Calls prog 18 #[.int .i64 n] w fun e w'=>e=.returned (.tuple #[.pointer none,.int .i64 1])/\w=w'
 read:∀(i:Int) (w:World) (F:Nat->Prop) (p:Addr) (S:DS),D w F p S->Calls prog 85 #[.pointer (some p),.int .i64 i] w fun e w'=>∃(A:Option Addr) (n c:Nat),e=.returned (.tuple #[.slice A n c,.int .i64 (S.readE i)])/\n<=c/\RB w' w'.heap.size A n (S.readL i)/\Below w.heap.size w w'
 readAt:∀(i:Int) (w:World) (F:Nat->Prop) (p:Addr) (S:DS),D w F p S->S.readE i=0->Calls prog 85 #[.pointer (some p),.int .i64 i] w fun e w'=>∃g c,e=.returned (.tuple #[.slice (some ⟨g,0,none⟩) 256 c,.int .i64 0])/\256<=c/\w.heap.size<=g/\RB w' w'.heap.size (some ⟨g,0,none⟩) 256 (S.last i.toNat)/\Below w.heap.size w w'
 write:∀(i:Int) (A:Option Addr) (n c B:Nat) (l:List Int) (w:World) (F:Nat->Prop) (p:Addr) (S:DS),D w F p S->RB w B A n l->n<=c->n<=4096->S.writes<=9223372036854775806->(∀a,A=some a->¬F a.block)->
  Calls prog 137 #[.pointer (some p),.int .i64 i,.slice A n c] w fun e w'=>e=.returned (.int .i64 (S.writeE i l))/\∃F':Nat->Prop,D w' F' p (S.write i l)/\Zf F w w'/\∀k,F' k->F k∨w.heap.size<=k
 flush:∀(w:World) (F:Nat->Prop) (p:Addr) (S:DS),D w F p S->Calls prog 138 #[.pointer (some p)] w fun e w'=>e=.returned (.int .i64 S.flushE)/\∃F':Nat->Prop,D w' F' p S.flush/\Zf F w w'/\∀k,F' k->F k∨w.heap.size<=k
 arm:∀(i:Int) (w:World) (F:Nat->Prop) (p:Addr) (S:DS),D w F p S->(-9223372036854775808<=i/\i<=9223372036854775807)->Calls prog 32 #[.pointer (some p),.int .i64 i] w fun e w'=>e=.returned (.tuple #[])/\∃F':Nat->Prop,D w' F' p (S.fuse i)/\Zf F w w'/\∀k,F' k->F k∨w.heap.size<=k
 crash:∀(A:Option Addr) (n c B:Nat) (l:List Int) (w:World) (F:Nat->Prop) (p:Addr) (S:DS),D w F p S->RI w B A n l->n<=c->n<=maxLen->(0<n->∀a,A=some a->¬F a.block)->
  Calls prog 33 #[.pointer (some p),.slice A n c] w fun e w'=>e=.returned (.tuple #[])/\∃F':Nat->Prop,D w' F' p (S.crash l)/\Zf F w w'/\∀k,F' k->F k∨w.heap.size<=k
 sizes:∀(w:World) (F:Nat->Prop) (p:Addr) (S:DS),D w F p S->Calls prog 148 #[.pointer (some p)] w fun e w'=>e=.returned (.int .i64 (S.n:Int))/\Below w.heap.size w w'
 sizeSame:∀(w:World) (F:Nat->Prop) (p:Addr) (S:DS),D w F p S->Calls prog 148 #[.pointer (some p)] w fun e w'=>e=.returned (.int .i64 (S.n:Int))/\w'=w
theorem Zb.below{D:World->(Nat->Prop)->Addr->DS->Prop}(api:Zb D){w w':World}{F:Nat->Prop}{p:Addr}{S:DS}(h:D w F p S)(hb:Below w.heap.size w w'):D w' F p S:=
 api.keep w w' F p S h fun k hk=>hb.block k (api.lt w F p S h k hk)
section
variable{S:DS}{f g:Nat->List Int}{n:Int}
theorem Zb5{i:Int}{l:List Int}(h:S.writeE i l=0):S.down=false/\S.write i l=S.put i.toNat l:=by
 unfold DS.writeE at h
 split at h
 · cases h
 rename_i hd
 split at h
 · cases h
 rename_i h2
 split at h
 · cases h
 rename_i h3
 refine⟨by simpa using hd,?_⟩;unfold DS.write;rw[if_neg hd,if_neg h2,if_neg h3]
theorem Zbx(h:S.flushE=0):S.down=false/\S.flush = {S with safe:=S.last,pend:=[]}:=by
 unfold DS.flushE at h
 split at h
 · cases h
 rename_i hd
 refine⟨by simpa using hd,?_⟩;unfold DS.flush;rw[if_neg hd]
theorem Zhj(l:List (Int×List Int)):∀{S:DS},(ZK S l).1=0->ZdC (ZK S l).2 (Zh0 S.n S.last l)/\(ZK S l).2.n=S.n:=by
 induction l with
 | nil=>
  intro S h;obtain⟨h1,h2⟩:=Zbx (S:=S) h;have e:(ZK S []).2 = {S with safe:=S.last,pend:=[]}:=h2;rw[e];exact⟨⟨rfl,rfl,h1⟩,rfl⟩
 | cons x r ih=>
  obtain⟨p,b⟩:=x;intro S h
  unfold ZK ZaP at h ⊢
  by_cases h0:(S.wr (p+1+S.P) b).1=0
  · rw[if_pos h0]at h ⊢;obtain⟨h1,h2⟩:=Zb5 (S:=S) (i:=p+1+S.P) (l:=b) h0;have e:(S.wr (p+1+S.P) b).2=S.put (p+1+S.P).toNat b:=h2;rw[e]at h ⊢;obtain⟨h3,h4⟩:=ih h;exact⟨h3,h4⟩
  · rw[if_neg h0]at h;exact absurd h h0
def Zi7(f:Nat->List Int)(i:Nat):List (Int×List Int)->Nat->List Int
 | []=>f
 | x::r=>Zi7 (ZfG f (i+1) x.2) (i+1) r
theorem Zi8(l:List (Int×List Int)):∀(f:Nat->List Int) (i j:Nat),j<=i∨i+l.length<j->Zi7 f i l j=f j:=by
 induction l with
 | nil=>intro f i j _;rfl
 | cons x r ih=>
  intro f i j h;rw[Zi7,ih _ _ _ (by simp only[List.length_cons]at h;omega),ZfG,if_neg (by simp only[List.length_cons]at h;omega)]
theorem Zpm(l:List (Int×List Int)):∀(f:Nat->List Int) (i k:Nat) (x:Int×List Int),l[k]?=some x->Zi7 f i l (i+k+1)=x.2:=by
 induction l with
 | nil=>intro f i k x h;simp at h
 | cons y r ih=>
  intro f i k x h;rw[Zi7];cases k with
  | zero=>
   obtain rfl:y=x:=by simpa using h
   rw[Zi8 _ _ _ _ (.inl (by omega)),ZfG,if_pos (by omega)]
  | succ k=>
   rw[show i+(k+1)+1=(i+1)+k+1 by omega];exact ih _ _ k x (by simpa using h)
theorem Zmz(l:List (Int×List Int)):∀{S:DS} (i:Nat),S.down=false->(ZbU S i l).1=0->(ZbU S i l).2.last=Zi7 S.last i l/\(ZbU S i l).2.n=S.n/\(ZbU S i l).2.down=false:=by
 induction l with
 | nil=>intro S i hd _;exact⟨rfl,rfl,hd⟩
 | cons x r ih=>
  obtain⟨p,b⟩:=x;intro S i hd h
  unfold ZbU ZaP at h ⊢
  by_cases h0:(S.wr ((i:Int)+1) b).1=0
  · rw[if_pos h0]at h ⊢;obtain⟨h1,h2⟩:=Zb5 (S:=S) (i:=(i:Int)+1) (l:=b) h0
    have e:(S.wr ((i:Int)+1) b).2=S.put (i+1) b:=by
     have:((i:Int)+1).toNat=i+1:=by omega
     rw[<-this];exact h2
    rw[e]at h ⊢;rw[show(i:Int)+1=((i+1:Nat):Int) by omega]at h ⊢;obtain⟨h3,h4,h5⟩:=ih (S:=S.put (i+1) b) (i+1) hd h;exact⟨h3,h4,h5⟩
  · rw[if_neg h0]at h;exact absurd h h0
structure ZfH(S:DS):Prop where
 up:S.down=false
 arm:S.arm=none
theorem ZfH.write(h:ZfH S){i:Int}{l:List Int}(hi:0<=i/\i<S.n)(hl:l.length=256):S.writeE i l=0/\ZfH (S.write i l)/\(S.write i l).n=S.n:=by
 have e:S.writeE i l=0:=by
  unfold DS.writeE;rw[if_neg (by simp[h.up]),if_neg (fun h'=>h' ⟨hi,hl⟩),if_neg (by simp[h.arm])]
 obtain⟨_,h2⟩:=Zb5 e;rw[h2];exact⟨e,⟨h.up,by show S.arm.map _=none;rw[h.arm];rfl⟩,rfl⟩
theorem ZfH.flush(h:ZfH S):S.flushE=0/\ZfH S.flush:=by
 have e:S.flushE=0:=by unfold DS.flushE;rw[if_neg (by simp[h.up])]
 obtain⟨_,h2⟩:=Zbx e;rw[h2];exact⟨e,h.up,h.arm⟩
theorem ZfH.homes(l:List (Int×List Int)):∀{S:DS},ZfH S->(∀x∈l,(0<=x.1+1+S.P/\x.1+1+S.P<S.n)/\x.2.length=256)->(ZK S l).1=0/\ZfH (ZK S l).2:=by
 induction l with
 | nil=>intro S h _;exact h.flush
 | cons x r ih=>
  obtain⟨p,b⟩:=x;intro S h hv;obtain⟨v1,v2⟩:=hv _ (List.mem_cons_self ..);obtain⟨h1,h2,h3⟩:=h.write v1 v2;unfold ZK ZaP;rw[if_pos (show(S.wr (p+1+S.P) b).1=0 from h1)];have h3':(S.write (p+1+S.P) b).n=S.n:=h3
  have e1:(S.wr (p+1+S.P) b).2.P=S.P:=by
   show pagesOf ((S.write (p+1+S.P) b).n:Int)=pagesOf (S.n:Int);rw[h3']
  have e2:(S.wr (p+1+S.P) b).2.n=S.n:=h3
  exact ih h2 fun x hx=>by
   rw[e1,e2];exact hv x (List.mem_cons_of_mem _ hx)
theorem Zn2(l:List (Int×List Int)):∀{f g:Nat->List Int} (j:Nat),(∃x∈l,j=(x.1+1+pagesOf n).toNat)∨f j=g j->Zh0 n f l j=Zh0 n g l j:=by
 induction l with
 | nil=>
  intro f g j h;rcases h with ⟨x,hx,_⟩|h
  · cases hx
  · exact h
 | cons y r ih=>
  intro f g j h;show Zh0 n (ZfG f _ y.2) r j=Zh0 n (ZfG g _ y.2) r j;apply ih;rcases h with ⟨x,hx,e⟩|h
  · rcases List.mem_cons.1 hx with rfl|hx
    · right;unfold ZfG;rw[if_pos e,if_pos e]
    · exact .inl ⟨x,hx,e⟩
  · right;unfold ZfG;split
    · rfl
    · exact h
theorem ZkE(l:List (Int×List Int)):∀{f g:Nat->List Int} {W:Nat->List Int->Prop},Zce f W g->(∀x∈l,W (x.1+1+pagesOf n).toNat x.2)->Zce f W (Zh0 n g l):=by
 induction l with
 | nil=>intro f g W h _;exact h
 | cons y r ih=>
  intro f g W h hw;exact ih (h.put (hw y (List.mem_cons_self ..))) fun x hx=>hw x (List.mem_cons_of_mem _ hx)
theorem ZfS(l:List (Int×List Int)):∀{f:Nat->List Int} (j:Nat),(∀x∈l,j≠(x.1+1+pagesOf n).toNat)->Zh0 n f l j=f j:=by
 induction l with
 | nil=>intro f j _;rfl
 | cons y r ih=>
  intro f j h;show Zh0 n (ZfG f _ y.2) r j=f j;rw[ih _ (fun x hx=>h x (List.mem_cons_of_mem _ hx)),ZfG,if_neg (h y (List.mem_cons_self ..))]
theorem Zcg{seq:Int}:∀(k:Nat) {l:List (Int×List Int)},Zas n f seq k=some l->l.length=k/\∀i x,l[i]?=some x->Zcq n f seq i=some x:=by
 intro k
 induction k with
 | zero=>
  intro l h;have : []=l:=by simpa[Zas] using h
  subst this;exact⟨rfl,fun i x hx=>by simp at hx⟩
 | succ k ih=>
  intro l h;unfold Zas at h
  split at h
  · rename_i l' x' h1 h2
    obtain rfl:l'++[x']=l:=by simpa using h
    obtain⟨h3,h4⟩:=ih h1;refine⟨by simp[h3],fun i x hx=>?_⟩;rcases Nat.lt_or_ge i l'.length with hi|hi
    · rw[List.getElem?_append_left hi]at hx;exact h4 i x hx
    · rw[List.getElem?_append_right hi]at hx
      have hik:i-l'.length=0:=by
       have:=(ZZb.1 hx).1
       simp at this;omega
      rw[hik]at hx;obtain rfl:x'=x:=by simpa using hx
      rw[show i=k by omega];exact h2
  · cases h
theorem Zhk{seq:Int}:∀(k:Nat) {l:List (Int×List Int)},l.length=k->(∀i x,l[i]?=some x->Zcq n f seq i=some x)->Zas n f seq k=some l:=by
 intro k
 induction k with
 | zero=>
  intro l h _;rw[List.length_eq_zero_iff.1 h];rfl
 | succ k ih=>
  intro l h hx;have hne:l≠[]:=by intro e;rw[e]at h;cases h
  obtain⟨l',x',rfl⟩:∃l' x',l=l'++[x']:=⟨l.dropLast,l.getLast hne,(List.dropLast_concat_getLast hne).symm⟩
  have hl':l'.length=k:=by simp at h;omega
  have h1:=ih hl' (fun i x hi=>hx i x (by rw[List.getElem?_append_left ((ZZb.1 hi).1)];exact hi));have h2:=hx k x' (by rw[List.getElem?_append_right (by omega)];simp[hl']);unfold Zas;rw[h1,h2]
theorem Zgo{seq:Int}{i:Nat}{x:Int×List Int}(h:Zcq n f seq i=some x):(Zd (f (i+1))).2.2.2=0/\(Zd (f (i+1))).2.1=seq/\(Zd (f (i+1))).1<pagesOf n/\x=((Zd (f (i+1))).1,f (i+1)):=by
 unfold Zcq at h
 split at h
 · rename_i hc
   exact⟨hc.1,hc.2.1,hc.2.2,(by simpa using h.symm)⟩
 · cases h
theorem ZkF{seq:Int}{i:Nat}(e:g (i+1)=f (i+1)):Zcq n g seq i=Zcq n f seq i:=by
 unfold Zcq;rw[e]
theorem Zeg{l:List Int}(h:(Zd l).2.2.2=0):0<=(Zd l).1/\0<=(Zd l).2.1/\l.length=256:=by
 unfold Zd at h ⊢
 by_cases hs:Zkw l
 · rw[if_pos hs];obtain⟨h1,_,h3⟩:=hs;have h4:=of_decide_eq_true h3;exact⟨h4.1,h4.2.2.1,h1⟩
 · rw[if_neg hs]at h;cases h
def Zx(n:Int)(f:Nat->List Int):Option (List (Int×List Int)):=Zae n f (Zd (f 0)).1 (Zd (f 0)).2.1
theorem ZaY{l:List (Int×List Int)}(h:Zx n f=some l):Zdh n f=Zh0 n f l:=by
 unfold Zdh;rw[show Zae n f (Zd (f 0)).1 (Zd (f 0)).2.1=some l from h]
theorem Zeh(h:Zx n f=none):Zdh n f=f:=by
 unfold Zdh;rw[show Zae n f (Zd (f 0)).1 (Zd (f 0)).2.1=none from h]
theorem Zfw{c s:Int}{l:List (Int×List Int)}(h:Zae n f c s=some l):c<=pagesOf n/\Zas n f s c.toNat=some l:=by
 unfold Zae at h
 split at h
 · cases h
 · rename_i hc
   exact⟨by omega,h⟩
theorem Ze3{c s:Int}{l:List (Int×List Int)}(hc:c<=pagesOf n)(h:Zas n f s c.toNat=some l):Zae n f c s=some l:=by
 unfold Zae;rw[if_neg (by omega)];exact h
theorem Zhl{l:List (Int×List Int)}(h:Zx n f=some l):∀x∈l,(0<=x.1/\x.1<pagesOf n)/\x.2.length=256:=by
 intro x hx;obtain⟨_,h2⟩:=Zfw h;obtain⟨h3,h4⟩:=Zcg _ h2;obtain⟨i,hi,e⟩:=List.getElem_of_mem hx;obtain⟨h5,_,h6,h7⟩:=Zgo (h4 i x (by rw[ZZc hi,e]));obtain⟨h8,_,h9⟩:=Zeg h5;rw[h7];exact⟨⟨h8,h6⟩,h9⟩
def Zpn(n:Int)(l:List (Int×List Int))(i:Nat)(b:List Int):Prop:=∃x∈l,i=(x.1+1+pagesOf n).toNat/\b=x.2
theorem Zi9{l:List (Int×List Int)}(hl:∀x∈l,0<=x.1)(h:Zce f (Zpn n l) g)(hn:0<=pagesOf n){j:Nat}(hj:(j:Int)<=pagesOf n):g j=f j:=by
 rcases h j with e|⟨x,hx,e,_⟩
 · exact e
 · have:=hl x hx
   omega
theorem ZkG{l:List (Int×List Int)}(hn:0<=pagesOf n)(h:Zx n f=some l)(hw:Zce f (Zpn n l) g):Zx n g=some l/\Zdh n g=Zdh n f:=by
 have hl:∀x∈l,0<=x.1:=fun x hx=>(Zhl h x hx).1.1
 have e0:g 0=f 0:=Zi9 hl hw hn (by omega)
 have hg:Zx n g=some l:=by
  obtain⟨h1,h2⟩:=Zfw h;obtain⟨h3,h4⟩:=Zcg _ h2;unfold Zx;rw[e0];refine Ze3 h1 (Zhk _ h3 fun i x hx=>?_);have hi:=(ZZb.1 hx).1;rw[ZkF (Zi9 hl hw hn (by omega))];exact h4 i x hx
 refine⟨hg,?_⟩;rw[ZaY h,ZaY hg]
 funext j
 apply Zn2;rcases hw j with e|⟨x,hx,e,_⟩
 · exact .inr e
 · exact .inl ⟨x,hx,e⟩
theorem Zja(hn:0<=pagesOf n)(f:Nat->List Int):Zdh n (Zdh n f)=Zdh n f:=by
 rcases h:Zx n f with _|l
 · rw[Zeh h,Zeh h]
 · rw[ZaY h];have hw:Zce f (Zpn n l) (Zh0 n f l):=ZkE l (Zce.refl _ _) fun x hx=>⟨x,hx,rfl,rfl⟩
   rw[(ZkG hn h hw).2,ZaY h]
end
section
variable{S:DS}{f g:Nat->List Int}{n seq:Int}
def Zqz(l:List (Int×List Int))(i:Nat)(b:List Int):Prop:=∃k x,l[k]?=some x/\i=k+1/\b=x.2
structure Zj1(n seq:Int)(l:List (Int×List Int)):Prop where
 page:∀x∈l,0<=x.1/\x.1<pagesOf n/\x.2.length=240
 bytes:∀x∈l,Ze x.2
 once:(l.map (·.1)).Nodup
 few:(l.length:Int)<=pagesOf n
 seq0:0<=seq
 seq1:seq<4611686018427387904
theorem Zj1.pack{l:List (Int×List Int)}(h:Zj1 n seq l){x:Int×List Int}(hx:x∈l):(Zdl x.1 (seq+1) x.2).1=Zav x.1 (seq+1) x.2/\Zd (Zav x.1 (seq+1) x.2)=(x.1,seq+1,x.2,0)/\(Zav x.1 (seq+1) x.2).length=256:=by
 obtain⟨h1,h2,h3⟩:=h.page x hx;have h4:=(ZN n).2.2;have h5:=h.seq0;have h6:=h.seq1;have hr:Zey x.1 (seq+1)=true:=decide_eq_true ⟨h1,by omega,by omega,by omega⟩;refine⟨by unfold Zdl;rw[if_pos ⟨hr,h3⟩],Zec (h.bytes x hx) hr h3,by rw[ZaV,h3]⟩
theorem Zj1.at_{l:List (Int×List Int)}(h:Zj1 n seq l){k:Nat}{y:Int×List Int}(hy:(Zo (seq+1) l)[k]?=some y):∃x,l[k]?=some x/\y=(x.1,Zav x.1 (seq+1) x.2)/\Zd y.2=(x.1,seq+1,x.2,0)/\y.2.length=256/\0<=x.1/\x.1<pagesOf n:=by
 unfold Zo at hy;rw[List.getElem?_map]at hy;rcases hx:l[k]? with _|x
 · rw[hx]at hy;cases hy
 · rw[hx]at hy;have hm:=List.mem_of_getElem? hx;obtain⟨h1,h2,h3⟩:=h.pack hm;obtain rfl:(x.1,(Zdl x.1 (seq+1) x.2).1)=y:=by simpa using hy
   obtain⟨h4,h5,_⟩:=h.page x hm;exact⟨x,rfl,by rw[h1],by rw[h1];exact h2,by rw[h1];exact h3,h4,h5⟩
theorem Zj1.mem{l:List (Int×List Int)}(h:Zj1 n seq l){y:Int×List Int}(hy:y∈Zo (seq+1) l):(0<=y.1/\y.1<pagesOf n)/\y.2.length=256:=by
 obtain⟨k,hk,e⟩:=List.getElem_of_mem hy;obtain⟨x,_,h2,_,h4,h5,h6⟩:=h.at_ (k:=k) (by rw[ZZc hk,e]);rw[h2]at h4 ⊢;exact⟨⟨h5,h6⟩,h4⟩
def Zbq(f:Nat->List Int)(seq:Int)(l:List (Int×List Int)):Nat->List Int:=ZfG (Zi7 f 0 (Zo (seq+1) l)) 0 (Zav l.length (seq+1) ZH)
theorem Z8(seq:Int)(l:List (Int×List Int)):(Zo seq l).length=l.length:=by simp[Zo]
theorem Zgp{l:List (Int×List Int)}(h:Zj1 n seq l):Zd (Zbq f seq l 0)=((l.length:Int),seq+1,ZH,0)/\Zx n (Zbq f seq l)=some (Zo (seq+1) l)/\∀j:Nat,pagesOf n<j->Zbq f seq l j=f j:=by
 have hfew:=h.few;have h4:=(ZN n).2.2;have h5:=h.seq0;have h6:=h.seq1;have hr:Zey l.length (seq+1)=true:=decide_eq_true ⟨by omega,by omega,by omega,by omega⟩
 have e0:Zd (Zbq f seq l 0)=((l.length:Int),seq+1,ZH,0):=by
  unfold Zbq ZfG;rw[if_pos rfl];exact Zec ZaS.2 hr ZaS.1
 refine⟨e0,?_,fun j hj=>?_⟩
 · unfold Zx;rw[e0];refine Ze3 hfew (Zhk _ (by rw[Z8];simp) fun i y hy=>?_);obtain⟨x,_,h8,h9,_,h10,h11⟩:=h.at_ hy
   have e1:Zbq f seq l (i+1)=y.2:=by
    unfold Zbq ZfG;rw[if_neg (by omega)]
    have:=Zpm (Zo (seq+1) l) f 0 i y hy
    rwa[Nat.zero_add]at this
   unfold Zcq;rw[e1,h9,if_pos ⟨rfl,rfl,h11⟩,h8]
 · unfold Zbq ZfG;rw[if_neg (by omega),Zi8 _ _ _ _ (.inr (by rw[Z8];omega))]
theorem Ze4(S:DS)(i:Int)(l:List Int):(S.write i l).n=S.n:=by
 unfold DS.write;split
 · rfl
 split
 · rfl
 split <;> rfl
theorem Zgq(S:DS):S.flush.n=S.n:=by
 unfold DS.flush
 split <;> rfl
theorem Zn3(l:List (Int×List Int)):∀S:DS,(ZK S l).2.n=S.n:=by
 induction l with
 | nil=>exact fun S=>Zgq S
 | cons x r ih=>
  obtain⟨p,b⟩:=x;intro S;unfold ZK ZaP;split
  · rw[ih];exact Ze4 S _ _
  · exact Ze4 S _ _
theorem ZqA(l:List (Int×List Int)):∀(S:DS) (i:Int),(ZbU S i l).2.n=S.n:=by
 induction l with
 | nil=>exact fun S i=>rfl
 | cons x r ih=>
  obtain⟨p,b⟩:=x;intro S i;unfold ZbU ZaP;split
  · rw[ih];exact Ze4 S _ _
  · exact Ze4 S _ _
theorem Zh2{l:List (Int×List Int)}(hn:n=S.n)(h:Zj1 n seq l)(hne:l≠[])(hR:ZdC S f) :
 (Zs S seq l).2.2.n=S.n/\(((Zs S seq l).1≠0/\ZgQ f (Zqz (Zo (seq+1) l)) (Zs S seq l).2.2)∨(ZgQ (Zbq f seq l) (Zpn n (Zo (seq+1) l)) (Zs S seq l).2.2/\((Zs S seq l).1=0->ZdC (Zs S seq l).2.2 (Zh0 n (Zbq f seq l) (Zo (seq+1) l))))):=by
 have hP:S.P=pagesOf n:=by unfold DS.P;rw[hn]
 have hright:ZbN S l:=⟨fun x hx=>by rw[hP];exact h.page x hx,h.once⟩
 unfold Zs;rw[if_neg (by have:=h.few;omega),if_neg (fun h'=>h' hright),if_neg hne];simp only[];have hB:ZgQ f (Zqz (Zo (seq+1) l)) (ZbU S 0 (Zo (seq+1) l)).2:=ZgQ.slots _ 0 (hR.both _) fun k x hx=>⟨k,x,hx,by omega,rfl⟩
 have hn1:=ZqA (Zo (seq+1) l) S 0;have hsd:=Zmz (Zo (seq+1) l) (S:=S) 0 hR.up;generalize hA:ZbU S 0 (Zo (seq+1) l)=A at hB hn1;rw[show ZbU S ((0:Nat):Int) (Zo (seq+1) l)=A from hA]at hsd;by_cases h0':¬A.1=0
 · have h0:=h0';have e:ZaP A DS.fl=A:=by unfold ZaP;rw[if_neg h0]
   rw[e,if_pos h0];exact⟨hn1,.inl ⟨h0,hB⟩⟩
 have h0:A.1=0:=Classical.not_not.1 h0';obtain⟨e1,_,e2⟩:=hsd h0;have e:ZaP A DS.fl=(A.2.flushE,A.2.flush):=by unfold ZaP;rw[if_pos h0];rfl
 rw[e];have hf0:A.2.flushE=0:=by unfold DS.flushE;rw[if_neg (by simp[e2])]
 obtain⟨_,e3⟩:=Zbx hf0;rw[if_neg (fun h'=>h' hf0)];have hB2:ZgQ f (Zqz (Zo (seq+1) l)) A.2.flush:=hB.flush;have hn2:A.2.flush.n=S.n:=(Zgq _).trans hn1;have hl2:A.2.flush.last=Zi7 f 0 (Zo (seq+1) l):=by rw[e3];show A.2.last=_;rw[e1,hR.last]
 have hu2:A.2.flush.down=false:=by rw[e3];exact e2
 generalize A.2.flush=S2 at hB2 hn2 hl2 hu2;have hfew:=h.few;have h4:=(ZN n).2.2;have h5:=h.seq0;have h6:=h.seq1;have hr:Zey l.length (seq+1)=true:=decide_eq_true ⟨by omega,by omega,by omega,by omega⟩;have hpk:(Zdl l.length (seq+1) ZH).1=Zav l.length (seq+1) ZH:=by unfold Zdl;rw[if_pos ⟨hr,ZaS.1⟩]
 have hmk:ZV S2 l.length (seq+1)=ZaP (S2.wr 0 (Zav l.length (seq+1) ZH)) DS.fl:=by unfold ZV;rw[hpk]
 rw[hmk];by_cases hm0':¬(S2.wr 0 (Zav l.length (seq+1) ZH)).1=0
 · have hm0:=hm0';have e:ZaP (S2.wr 0 (Zav l.length (seq+1) ZH)) DS.fl=S2.wr 0 (Zav l.length (seq+1) ZH):=by unfold ZaP;rw[if_neg hm0]
   rw[e,if_pos hm0];refine⟨(Ze4 S2 _ _).trans hn2,.inl ⟨hm0,?_⟩⟩;have hE:S2.writeE 0 (Zav l.length (seq+1) ZH)≠0:=hm0;show ZgQ f _ (S2.write 0 (Zav l.length (seq+1) ZH));unfold DS.write;split
   · exact hB2
   rename_i g1
   split
   · exact hB2
   rename_i g2
   split
   · exact hB2
   rename_i g3
   unfold DS.writeE at hE;rw[if_neg g1,if_neg g2,if_neg g3]at hE;exact absurd rfl hE
 have hm0:(S2.wr 0 (Zav l.length (seq+1) ZH)).1=0:=Classical.not_not.1 hm0';obtain⟨_,e4⟩:=Zb5 (S:=S2) (i:=0) (l:=Zav l.length (seq+1) ZH) hm0;have e5:(S2.wr 0 (Zav l.length (seq+1) ZH)).2=S2.put 0 (Zav l.length (seq+1) ZH):=e4;have e:ZaP (S2.wr 0 (Zav l.length (seq+1) ZH)) DS.fl=(S2.put 0 (Zav l.length (seq+1) ZH)).fl:=by unfold ZaP;rw[if_pos hm0,e5]
 rw[e];have hu3:(S2.put 0 (Zav l.length (seq+1) ZH)).down=false:=hu2;have hf3:(S2.put 0 (Zav l.length (seq+1) ZH)).flushE=0:=by unfold DS.flushE;rw[if_neg (by simp[hu3])]
 obtain⟨_,e6⟩:=Zbx hf3
 have hl3:(S2.put 0 (Zav l.length (seq+1) ZH)).last=Zbq f seq l:=by
  show ZfG S2.last 0 _=_;rw[hl2];rfl
 rw[if_neg (fun h'=>h' hf3)];have e7:(S2.put 0 (Zav l.length (seq+1) ZH)).fl.2=(S2.put 0 (Zav l.length (seq+1) ZH)).flush:=rfl;rw[e7]
 have hR4:ZdC (S2.put 0 (Zav l.length (seq+1) ZH)).flush (Zbq f seq l):=by
  rw[e6];exact⟨hl3,hl3,hu3⟩
 have hn4:(S2.put 0 (Zav l.length (seq+1) ZH)).flush.n=S.n:=(Zgq _).trans hn2;generalize (S2.put 0 (Zav l.length (seq+1) ZH)).flush=S4 at hR4 hn4;have hP4:S4.P=pagesOf n:=by unfold DS.P;rw[hn4,hn]
 refine⟨(Zn3 _ _).trans hn4,.inr ⟨ZgQ.homes _ (hR4.both _) fun x hx=>⟨x,hx,by rw[hP4],rfl⟩,fun hz=>?_⟩⟩;obtain⟨h8,_⟩:=Zhj (Zo (seq+1) l) hz;rw[hn4,hR4.last,<-hn]at h8;exact h8
theorem Zn4(hn:n=S.n)(hok:3<=n)(hF:ZfH S)(hR:ZdC S g)(hm:(Zd (g 0)).2.2.2=0):(ZaF S).1=0/\(ZaF S).2.1=(Zd (g 0)).2.1/\ZdC (ZaF S).2.2 (Zdh n g)/\ZfH (ZaF S).2.2/\(ZaF S).2.2.n=S.n:=by
 have hl:S.last=g:=hR.last;have hnn:=ZN n;unfold ZaF;rw[if_neg (by simp[hR.up]),hl,if_neg (fun h'=>h' hm),<-hn];rcases h:Zx n g with _|l
 · rw[show Zae n g (Zd (g 0)).1 (Zd (g 0)).2.1=none from h,Zeh h];exact⟨rfl,rfl,hR,hF,rfl⟩
 · rw[show Zae n g (Zd (g 0)).1 (Zd (g 0)).2.1=some l from h,ZaY h];have hP:S.P=pagesOf n:=by unfold DS.P;rw[hn]
   obtain⟨h1,h2⟩:=hF.homes l fun x hx=>by
    obtain⟨⟨a,b⟩,c⟩:=Zhl h x hx
    have:=hnn.2.1 hok
    exact⟨⟨by rw[hP];omega,by rw[hP,<-hn];omega⟩,c⟩
   obtain⟨h3,h4⟩:=Zhj l h1;simp only[];rw[if_neg (fun h'=>h' h1)];rw[<-hn,hl]at h3;exact⟨rfl,rfl,h3,h2,h4⟩
theorem Ze5(hn:n=S.n)(hR:ZdC S g){p:Int}(hp:0<=p/\p<pagesOf n):Za9 S p=(Zd4 n g p,0):=by
 have hP:S.P=pagesOf n:=by unfold DS.P;rw[hn]
 unfold Za9 Zd4;rw[hP,hR.last,if_neg (by omega),if_neg (by simp[hR.up])]
 split <;> rfl
end
end Go.Proofs.YtlmkdmdbpopnhaaGreatDoor
