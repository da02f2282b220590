/- PgA, RedoE, RedoLaw, PgB, PgC, ExtA. Conditions: in each theorem. -/
import Derived.Test.YtlmkdmdbpopnhaaGreatDoorG12
import Derived.Test.YtlmkdmdbpopnhaaGreatDoorG13
import Derived.Test.YtlmkdmdbpopnhaaGreatDoorG3
import Derived.Test.YtlmkdmdbpopnhaaGreatDoorG5
import Derived.Test.YtlmkdmdbpopnhaaGreatDoorG11
import Derived.Deep.RegionHeld3
set_option maxHeartbeats 3200000
set_option maxRecDepth 100000
set_option linter.unusedVariables false
open Go.Proofs.Tryz
open Go.Lib (hid)
namespace Go.Proofs.YtlmkdmdbpopnhaaGreatDoor
open Go.RowKit Go.Maps Go.Sort Go.Shelf
theorem Zl5(m:Nat):AnyZI.SortsIn prog Tryz.sortedA_ren Fence.wide m:=
 ⟨fun blk off cap ss W hH hblk hsz=>callsIn_wide.2 (AnyM.slices_Sort_int Tryz.sortA blk off cap ss W hH hblk hsz),
  fun p cap W=>callsIn_wide.2 (AnyM.slices_Sort_int_none Tryz.sortA p cap W)⟩
theorem Zbl.keys{w:World}{b n:Nat}{f:Int->Option Value}{D:DataW Value}(hD:w.ownsMap prog 3 ZeO b n D)(hf:∀i:Int,Maps.has D (.int .i64 i)=(f i).isSome/\∀v z,f i=some v->D.atKey (.int .i64 i) z=.held v) :
 (intKeys D).Nodup/\∀i,i∈intKeys D↔f i≠none:=by
 obtain⟨es,rfl,hne,hkey⟩:=hD.entries ZgP
 have hint:∀p∈es,∃i:Int,p.1=.int .i64 i:=by
  obtain⟨es',c,hb,Ft,hs,he⟩:=hD;intro p hp;injection he with he;rw[he]at hp;obtain⟨x,hx,rfl⟩:=List.mem_map.1 (mem_sorted.1 hp);obtain⟨y,hy⟩:=Ft.reads x hx;rw[WideElems.rg_of hy];obtain⟨z,hz,hz2,_⟩:=Maps.keyOf_i64 underlying3 (WideElems.rd_key hy);exact⟨z,hz2⟩
 refine⟨?_,fun i=>?_⟩
 · show(es.map fun p=>Go.intOf p.1).Nodup
   rw[List.nodup_iff_pairwise_ne,List.pairwise_map];refine hne.imp_of_mem fun {p q} hp hq hpq e=>hpq ?_
   obtain⟨i,hi⟩:=hint p hp;obtain⟨j,hj⟩:=hint q hq;rw[hi,hj]at e ⊢
   have:i=j:=e
   rw[this]
 · have h1:=(hf i).1;rw[Maps.has_eq]at h1;show i∈es.map (fun p=>Go.intOf p.1)↔_;rw[List.mem_map];constructor
   · rintro⟨p,hp,rfl⟩ e0;obtain⟨j,hj⟩:=hint p hp;rw[hj]at e0 h1;have e1:f j=none:=e0;have h2:es.any (fun p=>p.1.sameKey (.int .i64 j))=true:=List.any_eq_true.2 ⟨p,hp,by rw[hj];simp[Lit.sameKey]⟩;have h3:es.any (fun p=>p.1.sameKey (.int .i64 j))=(f j).isSome:=h1;rw[h2,e1]at h3;cases h3
   · intro hne0
     have h2:es.any (fun p=>p.1.sameKey (.int .i64 i))=true:=by
      rw[h1]
      cases hfi:f i with
      | none=>exact absurd hfi hne0
      | some v=>rfl
     obtain⟨p,hp,hk⟩:=List.any_eq_true.1 h2;obtain⟨j,hj⟩:=hint p hp;refine⟨p,hp,?_⟩;rw[hj]at hk ⊢;simpa[Lit.sameKey,Go.intOf] using hk
theorem Znw{l:List Int}(hn:l.Nodup):(l.mergeSort leI).Pairwise (fun a b=>a<b):=by
 have tr:∀a b c:Int,leI a b=true->leI b c=true->leI a c=true:=fun a b c h1 h2=>by simp only[leI,decide_eq_true_eq]at *;exact Int.le_trans h1 h2
 have to:∀a b:Int,(leI a b||leI b a)=true:=fun a b=>by simp only[leI,Bool.or_eq_true,decide_eq_true_eq];exact Int.le_total a b
 have h1:=List.pairwise_mergeSort tr to l;have h2:(l.mergeSort leI).Nodup:=(List.mergeSort_perm l leI).nodup_iff.2 hn;refine(List.pairwise_and_iff.2 ⟨h1,List.nodup_iff_pairwise_ne.1 h2⟩).imp fun {a b} h=>?_
 have:=h.1
 simp only[leI,decide_eq_true_eq]at this
 have:=h.2
 omega
theorem Zkc{l m:List Int}(h1:l.Pairwise (fun a b=>a<b))(h2:m.Pairwise (fun a b=>a<b))(h:∀i,i∈l↔i∈m):l=m:=by
 have n1:l.Nodup:=List.nodup_iff_pairwise_ne.2 (h1.imp fun {a b} h=>by omega);have n2:m.Nodup:=List.nodup_iff_pairwise_ne.2 (h2.imp fun {a b} h=>by omega);refine List.Perm.eq_of_pairwise (le:=fun a b=>a<b) (fun a b _ _ h1 h2=>by omega) h1 h2 ((List.perm_ext_iff_of_nodup n1 n2).2 h)
theorem Zkd(mb:Option Nat)(W:World):Calls prog 169 #[.map mb] W fun e w'=>e=.returned (.func (.func 221) #[] #[.pointer (some ⟨W.heap.size,0,none⟩)])/\w'=W.alloc (.cells #[.map mb] 125):=
 (callsIn_wide (n:=5)).1 (AnyZI.keys_in Tryz.keysA Fence.wide 5 trivial rfl mb W)
theorem ZgT{w:World}{b n:Nat}{f:Int->Option Value}(h:Zbl w b n f)(hn:n<=32767) :
 Calls prog 168 #[.func (.func 221) #[] #[.pointer (some ⟨w.heap.size,0,none⟩)]] (w.alloc (.cells #[.map (some b)] 125)) fun e w'=>
  ∃(A:Option Addr) (c:Nat) (l:List Int),e=.returned (.slice A l.length c)/\l.length<=c/\l.Pairwise (fun a b=>a<b)/\(∀i,i∈l↔f i≠none)/\w'.ownsRow w.heap.size 3 1 (.slice A l.length c) l.length (l.map (Value.int .i64))/\Below w.heap.size w w':=by
 obtain⟨D,hD,hf⟩:=h;obtain⟨hnd,hmem⟩:=Zbl.keys hD hf;have hsz:=hD.size_le;have hbl:=hD.lt
 have hseq:SeqGives Fence.wide 2 prog 221 #[.pointer (some ⟨w.heap.size,0,none⟩)] encZ (fun ss=>ss.Perm (intKeys D)) (Maps.size D) (w.alloc (.cells #[.map (some b)] 125)):=
  AnyZI.keys_gives (ρ:=Tryz.keysA_ren) {Tryz.keysA with} Fence.wide _ trivial rfl (by omega) w.heap.size b n D _ (by simp) (by simp) (by
   obtain⟨es,clock,hb,Ft,hs,hD⟩:=hD
   exact⟨es,clock,(Below.heap_alloc _ _ b hbl).trans hb,Ft,hs,hD⟩)
 have cS:=AnyZI.sorted_in Tryz.sortedA Fence.wide 5 trivial trivial trivial trivial rfl (by omega) (Zl5 _) (enters_of func17 (by kernel_rfl) rfl) 221 #[.pointer (some ⟨w.heap.size,0,none⟩)] trivial (enters_of func221 (by kernel_rfl) rfl) _ _ (by unfold maxLen;omega) (by omega) _ hseq;change CallsIn _ _ prog 168 _ _ _ at cS;refine((callsIn_wide (n:=5)).1 cS).mono ?_;rintro e w'⟨v,ss,rfl,hS,hrow,hnil,hb⟩;have hrow':=ZaU hrow (show w.heap.size<=(w.alloc (.cells #[.map (some b)] 125)).heap.size by simp);have hl:(ss.mergeSort leI).length=ss.length:=List.length_mergeSort ss;rw[<-hl]at hrow';obtain⟨A,c,rfl,hc⟩:=Zat hrow';have hp:(ss.mergeSort leI).Perm (intKeys D):=(List.mergeSort_perm ss leI).trans hS;refine⟨A,c,ss.mergeSort leI,rfl,hc,Znw (hS.nodup_iff.2 hnd),fun i=>(hp.mem_iff).trans (hmem i),hrow',((Below.refl w.heap.size w).alloc (ZZe _) _).trans (hb.mono (by simp))⟩
end Go.Proofs.YtlmkdmdbpopnhaaGreatDoor
namespace Go.Proofs.YtlmkdmdbpopnhaaGreatDoor
open Go.RowKit
section
variable{S:DS}{f g:Nat->List Int}{n seq:Int}
theorem ZfH.write_count(h:ZfH S){i:Int}{l:List Int}(hi:0<=i/\i<S.n)(hl:l.length=256):(S.write i l).writes=S.writes+1:=by
 obtain⟨e,_⟩:=h.write hi hl;rw[(Zb5 e).2];rfl
theorem ZfH.put(l:List (Int×List Int)):∀{S:DS},ZfH S->(∀x∈l,(0<=x.1/\x.1<S.n)/\x.2.length=256)->(Zdk S l).1=0/\ZfH (Zdk S l).2/\(Zdk S l).2.writes=S.writes+l.length:=by
 induction l with
 | nil=>
  intro S h _;obtain⟨h1,h2⟩:=h.flush;refine⟨h1,h2,?_⟩;show S.flush.writes=_;rw[(Zbx h1).2];rfl
 | cons x r ih=>
  intro S h hv;obtain⟨v1,v2⟩:=hv _ (List.mem_cons_self ..);obtain⟨h1,h2,h3⟩:=h.write v1 v2;have h4:=h.write_count v1 v2;rw[ZgM,Zb4 (show(S.wr x.1 x.2).1=0 from h1)]
  obtain⟨q1,q2,q3⟩:=ih (S:=(S.wr x.1 x.2).2) h2 (fun y hy=>by
   have e:(S.wr x.1 x.2).2.n=S.n:=h3;rw[e]
   exact hv y (List.mem_cons_of_mem _ hy))
  refine⟨q1,q2,?_⟩;rw[q3,List.length_cons,show(S.wr x.1 x.2).2.writes=S.writes+1 from h4];omega
theorem Zf3(h:ZfH S)(hn:3<=S.n){c s:Int}(hs:Zey c s=true):(ZV S c s).1=0/\ZfH (ZV S c s).2/\(ZV S c s).2.n=S.n/\(ZV S c s).2.writes=S.writes+1/\ZdC (ZV S c s).2 (ZfG S.last 0 (Zav c s ZH)):=by
 have hl:(Zav c s ZH).length=256:=by rw[ZaV,ZaS.1]
 rw[ZgI S hs];obtain⟨h1,h2,h3⟩:=h.write (i:=0) (l:=Zav c s ZH) (by omega) hl;have h4:=h.write_count (i:=0) (l:=Zav c s ZH) (by omega) hl;rw[Zb4 (show(S.wr 0 (Zav c s ZH)).1=0 from h1)];have hw:=(Zb5 h1).2;obtain⟨f1,f2⟩:=h2.flush;have hf:=Zbx f1
 show(S.write 0 (Zav c s ZH)).flushE=0/\ZfH (S.write 0 (Zav c s ZH)).flush/\(S.write 0 (Zav c s ZH)).flush.n=S.n/\(S.write 0 (Zav c s ZH)).flush.writes=S.writes+1/\ZdC (S.write 0 (Zav c s ZH)).flush (ZfG S.last 0 (Zav c s ZH))
 refine⟨f1,f2,(Zgq _).trans h3,?_,?_⟩
 · rw[hf.2];exact h4
 · rw[hf.2];have e:(S.write 0 (Zav c s ZH)).last=ZfG S.last 0 (Zav c s ZH):=by rw[hw];rfl
   exact⟨e,e,hf.1⟩
theorem Zke{l:List (Int×List Int)}(hn:n=S.n)(hn3:3<=n)(hI:Zj1 n seq l)(hne:l≠[])(h:ZfH S)(hR:ZdC S f) :
 (Zs S seq l).1=0/\(Zs S seq l).2.1=seq+1/\ZfH (Zs S seq l).2.2/\(Zs S seq l).2.2.n=S.n/\(Zs S seq l).2.2.writes=S.writes+(2*l.length+1)/\ZdC (Zs S seq l).2.2 (Zh0 n (Zbq f seq l) (Zo (seq+1) l)):=by
 obtain⟨g1,g2⟩:=Zh2 hn hI hne hR;have hP:S.P=pagesOf n:=by unfold DS.P;rw[hn]
 have hpn:=(ZN n).2.1 hn3;have h4:=(ZN n).2.2;have hright:ZbN S l:=⟨fun x hx=>by rw[hP];exact hI.page x hx,hI.once⟩
 have hfew:=hI.few;have h0:=hI.seq0;have h1:=hI.seq1;have he:Zaw S l=0:=by unfold Zaw;rw[if_neg (by rw[hP];omega),if_pos hright]
 have hsec:Zey l.length (seq+1)=true:=decide_eq_true ⟨by omega,by omega,by omega,by omega⟩;rw[ZeT he hne]at g1 g2 ⊢
 have hsl:∀(l':List (Int×List Int)) (i:Nat),((i:Int)+l'.length+1<=S.n)->(∀x∈l',x.2.length=256)->∀x∈Zq i l',(0<=x.1/\x.1<S.n)/\x.2.length=256:=by
  intro l'
  induction l' with
  | nil=>intro i _ _ x hx;cases hx
  | cons y r ih=>
   intro i hi hy x hx;simp only[List.length_cons]at hi;rcases List.mem_cons.1 hx with rfl|hx
   · exact⟨⟨by show 0<=(i:Int)+1;omega,by show(i:Int)+1<S.n;omega⟩,hy y (List.mem_cons_self ..)⟩
   · exact ih (i+1) (by omega) (fun z hz=>hy z (List.mem_cons_of_mem _ hz)) x hx
 obtain⟨p1,p2,p3⟩:=h.put (Zq 0 (Zo (seq+1) l)) (hsl _ 0 (by rw[Z8];omega) (fun x hx=>(hI.mem hx).2));have p4:=(ZcD (Zq 0 (Zo (seq+1) l)) S).2;rw[ZaO,Z8]at p3;have ec:commitP S seq l=ZcU (Zdk S (Zq 0 (Zo (seq+1) l))).2 seq l:=if_neg (fun e=>e p1);obtain⟨m1,m2,m3,m4,_⟩:=Zf3 p2 (by rw[p4];omega) hsec;have em:ZcU (Zdk S (Zq 0 (Zo (seq+1) l))).2 seq l=_:=if_neg (fun e=>e m1);have hPM:(ZV (Zdk S (Zq 0 (Zo (seq+1) l))).2 l.length (seq+1)).2.P=pagesOf n:=by unfold DS.P;rw[m3,p4,hn]
 obtain⟨q1,q2,q3⟩:=m2.put (atHomes (pagesOf n) (Zo (seq+1) l)) (fun x hx=>by
  obtain⟨z,hz,rfl⟩:=List.mem_map.1 hx;obtain⟨⟨a,b⟩,c⟩:=hI.mem hz;refine⟨⟨by show 0<=z.1+1+pagesOf n;omega,?_⟩,c⟩;show z.1+1+pagesOf n<_
  rw[m3,p4];omega)
 have hph:=ZdY (Zo (seq+1) l) (ZV (Zdk S (Zq 0 (Zo (seq+1) l))).2 l.length (seq+1)).2;rw[hPM]at hph;rw[hph]at q1 q2 q3;have eall:commitP S seq l=((ZK (ZV (Zdk S (Zq 0 (Zo (seq+1) l))).2 l.length (seq+1)).2 (Zo (seq+1) l)).1,seq+1,(ZK (ZV (Zdk S (Zq 0 (Zo (seq+1) l))).2 l.length (seq+1)).2 (Zo (seq+1) l)).2):=ec.trans em;rw[eall]at g1 g2 ⊢;refine⟨q1,rfl,q2,g1,?_,?_⟩
 · show(ZK _ _).2.writes=_
   rw[q3,m4,p3];simp[atHomes,Z8];omega
 · rcases g2 with ⟨a,_⟩|⟨_,b⟩
   · exact absurd q1 a
   · exact b q1
theorem Zqm(l:List (Int×List Int)):∀{f:Nat->List Int},(l.map (·.1)).Nodup->(∀x∈l,0<=x.1)->0<=pagesOf n->∀x∈l,Zh0 n f l (x.1+1+pagesOf n).toNat=x.2:=by
 induction l with
 | nil=>intro f _ _ _ x hx;cases hx
 | cons y r ih=>
  intro f hnd h0 hn x hx;rw[List.map_cons,List.nodup_cons]at hnd;show Zh0 n (ZfG f _ y.2) r _=x.2;rcases List.mem_cons.1 hx with rfl|hx
  · rw[ZfS r _ (fun z hz e=>by
     have a:=h0 x (List.mem_cons_self ..);have b:=h0 z (List.mem_cons_of_mem _ hz)
     exact hnd.1 (List.mem_map.2 ⟨z,hz,by omega⟩)),ZfG,if_pos rfl]
  · exact ih hnd.2 (fun z hz=>h0 z (List.mem_cons_of_mem _ hz)) hn x hx
theorem ZiJ{l:List (Int×List Int)}(hI:Zj1 n seq l):(∀x∈l,Zd4 n (Zh0 n (Zbq f seq l) (Zo (seq+1) l)) x.1=x.2)/\∀p,0<=p->p<pagesOf n->(∀x∈l,x.1≠p)->Zd4 n (Zh0 n (Zbq f seq l) (Zo (seq+1) l)) p=Zd4 n f p:=by
 have hnn:=(ZN n).1;have hfst:(Zo (seq+1) l).map (·.1)=l.map (·.1):=by unfold Zo;rw[List.map_map];rfl
 refine⟨fun x hx=>?_,fun p h0 h1 hno=>?_⟩
 · obtain⟨e1,e2,e3⟩:=hI.pack hx;have hm:(x.1,(Zdl x.1 (seq+1) x.2).1)∈Zo (seq+1) l:=List.mem_map.2 ⟨x,hx,rfl⟩
   have:=Zqm (n:=n) (Zo (seq+1) l) (f:=Zbq f seq l) (by rw[hfst];exact hI.once) (fun z hz=>(hI.mem hz).1.1) hnn _ hm
   unfold Zd4;rw[show Zh0 n (Zbq f seq l) (Zo (seq+1) l) (x.1+1+pagesOf n).toNat=Zav x.1 (seq+1) x.2 from this.trans e1,e2,if_neg (by simp)]
 · have e:Zh0 n (Zbq f seq l) (Zo (seq+1) l) (p+1+pagesOf n).toNat=f (p+1+pagesOf n).toNat:=by
    rw[ZfS _ _ (fun z hz e=>by
     have a:=(hI.mem hz).1.1;obtain⟨x,hx,e2⟩:=List.mem_map.1 hz
     have:x.1=z.1:=by rw[<-e2]
     exact hno x hx (by omega))]
    exact(Zgp hI).2.2 _ (by omega)
   unfold Zd4;rw[e]
end
def Zco:Nat->List Int:=ZfG (fun _=>Zdg) 0 (Zav 0 1 ZH)
theorem Zbt:Zd (Zco 0)=(0,1,ZH,0):=by
 unfold Zco ZfG;rw[if_pos rfl];exact Zec ZaS.2 (by decide) ZaS.1
theorem ZcV(n:Int):Zx n Zco=some []/\Zdh n Zco=Zco:=by
 have hnn:=(ZN n).1
 have e:Zx n Zco=some []:=by
  unfold Zx;rw[Zbt];exact Ze3 hnn rfl
 exact⟨e,ZaY e⟩
theorem Zf4{m:Nat}(h:3<=m/\m<=65536):(ZV (DS.new m) 0 1).1=0/\(ZaF (ZV (DS.new m) 0 1).2).1=0/\(ZaF (ZV (DS.new m) 0 1).2).2.1=1/\ZfH (ZaF (ZV (DS.new m) 0 1).2).2.2/\(ZaF (ZV (DS.new m) 0 1).2).2.2.n=m/\(ZaF (ZV (DS.new m) 0 1).2).2.2.writes=1/\ZdC (ZaF (ZV (DS.new m) 0 1).2).2.2 Zco:=by
 have hF:ZfH (DS.new m):=⟨rfl,rfl⟩
 obtain⟨h1,h2,h3,h4,h5⟩:=Zf3 hF (c:=0) (s:=1) (show 3<=m from h.1) (by decide);have h5':ZdC (ZV (DS.new m) 0 1).2 Zco:=h5;have h3':(ZV (DS.new m) 0 1).2.n=m:=h3;obtain⟨o1,o2,o3,o4,o5⟩:=Zn4 (n:=(m:Int)) (by rw[h3']) (by omega) h2 h5' (by rw[Zbt]);rw[Zbt]at o2;rw[(ZcV _).2]at o3;refine⟨h1,o1,o2,o4,o5.trans h3',?_,o3⟩;have hw:(ZV (DS.new m) 0 1).2.writes=1:=h4;generalize hS:(ZV (DS.new m) 0 1).2=S at *;have hl:S.last=Zco:=h5'.last
 have e:(ZaF S).2.2=(ZK S []).2:=by
  unfold ZaF;rw[if_neg (by simp[h2.up]),hl,if_neg (by rw[Zbt];simp)];have hls:=(ZcV (m:Int)).1;unfold Zx at hls;rw[h3',hls];simp only[];rw[if_neg (fun h'=>h' (h2.flush.1))]
 rw[e];show S.flush.writes=1;rw[(Zbx h2.flush.1).2];exact hw
structure Znf(D:World->(Nat->Prop)->Addr->DS->Prop)(w0 w:World)(F:Nat->Prop)(p:Addr)(S:DS):Prop where
 d:D w F p S
 out:∀k,F k->w0.heap.size<=k
 bel:Below w0.heap.size w0 w
 tab:Tab w0/\1<w0.heap.size
structure ZrC(D:World->(Nat->Prop)->Addr->DS->Prop)(w0 w:World)(F:Nat->Prop)(p:Addr)(S:DS)(q:Nat)(seq:Int):Prop extends Znf D w0 w F p S where
 log:Zdq w q p seq
 qF:¬F q
 q0:w0.heap.size<=q
section
variable{D:World->(Nat->Prop)->Addr->DS->Prop}{w0 w w':World}{F F':Nat->Prop}{p:Addr}{S S':DS}{q:Nat}{seq:Int}
theorem Znf.tabF(h:Znf D w0 w F p S):Zdf w F:=⟨h.tab.1.below h.bel h.tab.2,ZZd h.tab.2 h.bel.size,fun hf=>by have:=h.out _ hf;have:=h.tab.2;omega⟩
theorem Znf.next(h:Znf D w0 w F p S)(hd:D w' F' p S')(ht:Zf F w w')(hF:∀k,F' k->F k∨w.heap.size<=k):Znf D w0 w' F' p S':=
 ⟨hd,fun k hk=>by
  rcases hF k hk with a|a
  · exact h.out k a
  · exact ZZf h.bel.size a,h.bel.trans (ht.below h.out h.bel.size),h.tab⟩
theorem Zqn(api:Zb D){n:Int}(h1:3<=n)(h2:n<=65536)(ht:Tab w0/\1<w0.heap.size)(hb:Below w0.heap.size w0 w):Calls prog 18 #[.int .i64 n] w fun e w'=>∃(p:Addr) (F:Nat->Prop),e=.returned (.tuple #[.pointer (some p),.int .i64 0])/\Znf D w0 w' F p (DS.new n.toNat)/\Below w.heap.size w w':=by
 refine(api.new n w h1 h2).mono ?_;rintro e w'⟨p,F,rfl,hd,hb',hF⟩;exact⟨p,F,rfl,⟨hd,fun k hk=>ZZf hb.size (hF k hk),hb.trans (hb'.mono hb.size),ht⟩,hb'⟩
theorem Zl6(api:Zb D)(h:Znf D w0 w F p S)(hw:S.writes<=9223372036854775800):Calls prog 34 #[.pointer (some p)] w fun e w'=>e=.returned (.int .i64 (ZV S 0 1).1)/\∃F',Znf D w0 w' F' p (ZV S 0 1).2/\Zf F w w'/\∀k,F' k->F k∨w.heap.size<=k:=by
 refine(Zm8 api h.d h.tabF hw).mono ?_;rintro e w'⟨rfl,F',d,t,n⟩;exact⟨rfl,F',h.next d t n,t,n⟩
theorem ZoY(api:Zb D)(h:Znf D w0 w F p S)(hw:S.writes<=9223372036854700000):Calls prog 35 #[.pointer (some p)] w fun e w'=>
 ((ZaF S).1≠0/\e=.returned (.tuple #[.pointer none,.int .i64 (ZaF S).1])/\∃F',Znf D w0 w' F' p (ZaF S).2.2/\Zf F w w'/\∀k,F' k->F k∨w.heap.size<=k)∨
 ((ZaF S).1=0/\∃q F',e=.returned (.tuple #[.pointer (some ⟨q,0,none⟩),.int .i64 0])/\w.heap.size<=q/\ZrC D w0 w' F' p (ZaF S).2.2 q (ZaF S).2.1/\Zf F w w'/\∀k,F' k->F k∨w.heap.size<=k):=by
 refine(ZpX api h.d h.tabF hw).mono ?_;rintro e w' (⟨h1,rfl,F',d,t,n⟩|⟨h1,q,F',rfl,hq,hl,hqF,d,t,n⟩)
 · exact .inl ⟨h1,rfl,F',h.next d t n,t,n⟩
 · exact .inr ⟨h1,q,F',rfl,hq,⟨h.next d t n,hl,hqF,ZZf h.bel.size hq⟩,t,n⟩
theorem Zkf(api:Zb D)(h:Znf D w0 w F p S)(hw:S.writes<=9223372036854700000)(h0:(ZaF S).1=0):Calls prog 35 #[.pointer (some p)] w fun e w'=>
 ∃q F',e=.returned (.tuple #[.pointer (some ⟨q,0,none⟩),.int .i64 0])/\w.heap.size<=q/\ZrC D w0 w' F' p (ZaF S).2.2 q (ZaF S).2.1/\Zf F w w'/\∀k,F' k->F k∨w.heap.size<=k:=by
 refine(ZoY api h hw).mono ?_;rintro e w' (⟨h1,_⟩|⟨_,h2⟩)
 · exact absurd h0 h1
 · exact h2
theorem ZgU{m:Nat}(hm:3<=m/\m<=65536):(ZV (DS.new m) 0 1).2.writes<=9223372036854700000:=by
 have hF:ZfH (DS.new m):=⟨rfl,rfl⟩
 obtain⟨_,_,_,h4,_⟩:=Zf3 hF (c:=0) (s:=1) (show 3<=m from hm.1) (by decide);rw[h4];show 0+1<=9223372036854700000;omega
end
section
variable{D:World->(Nat->Prop)->Addr->DS->Prop}{w w':World}{F O:Nat->Prop}{p:Addr}{S:DS}{q r b:Nat}{seq:Int}{L:List (Int×List Int)}
theorem Zb9(h:ZaN D w F O p S q seq r b L):Calls prog 104 #[.pointer (some ⟨r,0,none⟩)] w fun e w'=>e=.returned (.bool true)/\w=w':=by
 obtain⟨l0,l1,l2⟩:=h.cells;clear h;go_enter func104,ntmps104;go_wp2;go_ret;exact⟨rfl,rfl⟩
theorem ZdO(api:Zb D)(h:ZaN D w F O p S q seq r b L):Calls prog 51 #[.pointer (some ⟨r,0,none⟩)] w fun e w'=>e=.returned (.int .i64 (pagesOf S.n))/\w'=w:=by
 obtain⟨l0,l1,l2⟩:=h.cells;have HM:=hid (Zb9 h);have HP:=hid (ZdX api h.d h.log);clear h;go_enter func51,ntmps51;go_wp2_with fail;refine HM.out.mono ?_;rintro e w1⟨rfl,rfl⟩;go_wp2_with fail;refine HP.out.mono ?_;rintro e w1⟨rfl,hw⟩;have hw:=hw.symm;subst hw;go_wp2;go_ret;exact⟨rfl,rfl⟩
theorem Zkb.sup{X:Nat->Prop}(h:Zkb w X O b L):∃f,Zbl w b L.length f/\∀i,f i≠none↔atL L i≠none:=by
 obtain⟨f,h1,h2⟩:=h;refine⟨f,h1,fun i=>⟨fun hf e=>hf ((h2 i).1 e),fun ha e=>?_⟩⟩
 cases hl:atL L i with
 | none=>exact ha hl
 | some l=>
  obtain⟨g,c,e1,_⟩:=(h2 i).2 l hl;rw[e1]at e;cases e
theorem Zp2{i:Int}(h:Zbp L):atL L i≠none↔i∈L.map (·.1):=by
 constructor
 · intro hne
   cases hl:atL L i with
   | none=>exact absurd hl hne
   | some l=>exact List.mem_map.2 ⟨_,Zh1 hl,rfl⟩
 · intro hm e;obtain⟨x,hx,rfl⟩:=List.mem_map.1 hm;rw[h.at_ (i:=x.1) (l:=x.2) hx]at e;cases e
theorem ZiK(api:Zb D)(h:ZaN D w F O p S q seq r b L):Calls prog 105 #[.pointer (some ⟨r,0,none⟩)] w fun e w'=>∃(A:Option Addr) (c:Nat),e=.returned (.slice A L.length c)/\L.length<=c/\RI w' w'.heap.size A L.length (L.map (·.1))/\Below w.heap.size w w':=by
 obtain⟨l0,l1,l2⟩:=h.cells;have HM:=hid (Zb9 h);obtain⟨f,hf,hsup⟩:=h.set.sup;have hb:=Zm (S.n:Int);have hfew:=Zgn h.up h.all;have hup:=h.up;have hall:=h.all;have HK:=hid (Zkd (some b) w);have HS:=hid (ZgT hf (by unfold DS.P at hfew;omega));have HSUP:=hid (fun i=>(hsup i).trans (Zp2 hup));have HUP:=hid (ZZg hup (ZZg hall hb));clear h hf hsup hfew hup hall hb;go_enter func105,ntmps105;go_wp2_with fail;refine HM.out.mono ?_;rintro e w1⟨rfl,rfl⟩;go_wp2_with fail;refine HK.out.mono ?_;rintro e w1⟨rfl,rfl⟩;go_wp2_with fail;refine HS.out.mono ?_;rintro e w1⟨A,c,l,rfl,hc,hl,hmem,hown,hb⟩;have hl2:l=L.map (·.1):=Zkc hl (List.pairwise_map.2 HUP.out.1) (fun i=>(hmem i).trans (HSUP.out i));have HB:=hid hb;subst hl2;rw[List.length_map]at hown hc ⊢
 have hri:=hid (RI.of_own hown (fun x hx=>by
  obtain⟨y,hy,rfl⟩:=List.mem_map.1 hx;obtain⟨a1,a2,_⟩:=HUP.out.2.1 y hy
  have:=HUP.out.2.2
  unfold DS.P at a2
  omega)).1
 clear hl hmem hown hb;go_wp2;go_ret;exact⟨_,_,rfl,hc,hri.out,HB.out⟩
theorem Zer(api:Zb D)(h:ZaN D w F O p S q seq r b L)(ht:Zdf w F)(i:Int)(hi : -9223372036854775808<=i/\i<=9223372036854775807):Calls prog 58 #[.pointer (some ⟨r,0,none⟩),.int .i64 i] w fun e w'=>∃A n c,e=.returned (.tuple #[.slice A n c,.int .i64 (Zn S L i).2])/\n<=c/\RB w' w'.heap.size A n (Zn S L i).1/\Below w.heap.size w w':=by
 obtain⟨l0,l1,l2⟩:=h.cells;have HM:=hid (Zb9 h);obtain⟨f,hf,hset⟩:=h.set;have HLD:=hid (ZpV api h.d h.log ht i hi);have q1:=hf.look underlying125 (Za2 w) hi
 cases ha:atL L i with
 | none=>
  have hg:Zn S L i=Za9 S i:=by unfold Zn;rw[ha]
  rw[(hset i).1 ha]at q1;simp only[Option.getD_none,Option.isSome_none]at q1;rw[hg];clear hg ha hset hf h ht;go_enter func58,ntmps58;go_wp2_with fail;refine HM.out.mono ?_;rintro e w1⟨rfl,rfl⟩;go_wp2_with fail;refine HLD.out.mono ?_;rintro e w1⟨A,n,c,rfl,hc,hr,hb⟩;have HE:=hid (ZZg hr hb);clear hr hb;go_wp2;go_ret2;exact⟨_,_,_,rfl,hc,HE.out.1,HE.out.2⟩
 | some l=>
  have hg:Zn S L i=(l,0):=by unfold Zn;rw[ha]
  obtain⟨g,c,e1,hc,hr,_⟩:=(hset i).2 l ha;rw[e1]at q1;simp only[Option.getD_some,Option.isSome_some]at q1;have HCL:=hid (ZhC c hr (ZZe _) (by decide));rw[hg];clear hg ha hset hf h ht hr e1;go_enter func58,ntmps58;go_wp2_with fail;refine HM.out.mono ?_;rintro e w1⟨rfl,rfl⟩;go_wp2_with fail;refine HCL.out.mono ?_;rintro e w1⟨A,c1,rfl,hc1,hr,hb⟩;have HE:=hid (ZZg hr hb);clear hr hb;go_wp2;go_ret2;exact⟨_,_,_,rfl,hc1,HE.out.1,HE.out.2⟩
theorem ZaN.empty(api:Zb D)(h:ZaN D w F O p S q seq r b L)(hm:Zbl w' b 0 (fun _=>none))(hg:w.grownBy w' (some b)):ZaN D w' F O p S q seq r b []:=
 h.turn api hg (fun k hk=>hk) (fun k hk=>ZZd (h.lt k hk) hg.size) ⟨_,hm,fun i=>⟨fun _=>rfl,fun l hl=>by cases hl⟩⟩ List.Pairwise.nil (fun x hx=>by cases hx)
theorem Zf5{X:Nat->Prop}(hg:w.grownBy w' (some b))(hb:X b):Zf X w w':=⟨hg.os,hg.tape,hg.output,hg.size,fun k hk hn=>hg.block k hk (fun e=>hn (by injection e with e;rw[e];exact hb))⟩
theorem Zl7(api:Zb D)(h:ZaN D w F O p S q seq r b L):Calls prog 46 #[.pointer (some ⟨r,0,none⟩)] w fun e w'=>e=.returned (.tuple #[])/\ZaN D w' F O p S q seq r b []/\w.grownBy w' (some b):=by
 obtain⟨l0,l1,l2⟩:=h.cells;have HM:=hid (Zb9 h);obtain⟨f,hf,hset⟩:=h.set;obtain⟨w5,hrun5,hm5,hg5⟩:=hf.clear_ underlying125 0;have HE:=hid (ZZg (h.empty api hm5 hg5) hg5);clear h hf hset hm5 hg5;go_enter func46,ntmps46;go_wp2_with fail;refine HM.out.mono ?_;rintro e w1⟨rfl,rfl⟩;go_wp2
 go_end0
 exact⟨rfl,HE.out⟩
end
section
variable{D:World->(Nat->Prop)->Addr->DS->Prop}{w w':World}{F O:Nat->Prop}{p:Addr}{S:DS}{q r b:Nat}{seq:Int}{L:List (Int×List Int)}
theorem ZaN.stored(api:Zb D)(h:ZaN D w F O p S q seq r b L){i:Int}{l:List Int}(hi:0<=i/\i<S.P)(hl:l.length=240)(hb:Ze l){w1:World}{g c:Nat}(hb1:Below w.heap.size w w1)(hg:w.heap.size<=g)(hc:240<=c)(hr:RB w1 w1.heap.size (some ⟨g,0,none⟩) 240 l) :
 ∃w2,(Instr.mapUpdate 125 (.map (some b)) (.int .i64 i) (.slice (some ⟨g,0,none⟩) 240 c)).run prog w1=.ok () w2/\Hid (ZaN D w2 F (fun k=>O k∨k=g) p S q seq r b (Zef L i l)/\Zf O w w2):=by
 have hfew:=Zgn h.up h.all;have hpb:=Zm (S.n:Int);have h1:=h.below api hb1;obtain⟨f,hf,hset⟩:=h1.set;have hgl:g<w1.heap.size:=by obtain⟨bb,_,e,hbb,_⟩:=hr.at_ (by decide);cases e;exact hbb
 obtain⟨w2,hrun,hm2,hg2⟩:=hf.store underlying125 (i:=i) (by unfold maxLen;unfold DS.P at hfew;omega) (by unfold DS.P at hi;omega) (.slice (some ⟨g,0,none⟩) 240 c)
 have hsup:∀j,(fun j=>if j=i then some (Value.slice (some ⟨g,0,none⟩) 240 c)else f j) j≠none->j∈(Zef L i l).map (·.1):=by
  intro j hj;have hup:Zbp (Zef L i l):=h.up.set;rw[<-Zp2 hup,ZfR];by_cases e:j=i
  · rw[if_pos e];simp
  · rw[if_neg e];intro ha;simp only[if_neg e]at hj;exact hj ((hset j).1 ha)
 have hm3:=hm2.tight ((Zef L i l).map (·.1)) hsup;rw[List.length_map]at hm3
 have hno:∀k,(F k∨k=q∨k=r∨k=b)->k≠g:=fun k hk e=>by
  have:=h.lt k (h.own k hk)
  omega
 have hgb:g≠b:=fun e=>hno b (.inr (.inr (.inr rfl))) e.symm
 refine⟨w2,hrun,hid ⟨h1.turn api hg2 (fun k hk=>.inl hk) (fun k hk=>?_) ⟨_,hm3,fun j=>?_⟩ h.up.set (h.all.set hi hl hb),?_⟩⟩
 · rcases hk with a|a
   · exact ZZd (h1.lt k a) hg2.size
   · rw[a];exact ZZd hgl hg2.size
 · rw[ZfR];by_cases e:j=i
   · rw[if_pos e];refine⟨fun ha=>(by cases ha),fun l' hl'=>?_⟩;cases hl';refine⟨g,c,by simp[e],hc,hr.there (by decide) (hg2.block g hgl (fun e=>hgb (Option.some.inj e))) hg2.size,fun hx=>hno g hx rfl,.inr rfl⟩
   · rw[if_neg e];refine⟨fun ha=>by simp only[if_neg e];exact(hset j).1 ha,fun l' hl'=>?_⟩;obtain⟨g',c',e1,e2,e3,e4,e5⟩:=(hset j).2 l' hl';have hg':g'<w1.heap.size:=by obtain⟨bb,_,e,hbb,_⟩:=e3.at_ (by decide);cases e;exact hbb
     exact⟨g',c',by simp only[if_neg e];exact e1,e2,e3.there (by decide) (hg2.block g' hg' (fun e=>e4 (.inr (.inr (.inr (Option.some.inj e)))))) hg2.size,e4,.inl e5⟩
 · have hOb:=h.own b (.inr (.inr (.inr rfl)));exact⟨hg2.os.trans hb1.os,hg2.tape.trans hb1.tape,hg2.output.trans hb1.output,ZZf hb1.size hg2.size,fun k hk hn=>(hg2.block k (ZZd hk hb1.size) (fun e=>hn (by injection e with e;rw[e];exact hOb))).trans (hb1.block k hk)⟩
theorem Zlh(api:Zb D)(h:ZaN D w F O p S q seq r b L)(i:Int){A:Option Addr}{n c B:Nat}{l:List Int}(hi : -9223372036854775808<=i/\i<=9223372036854775807)(hr:RB w B A n l)(hB:B<=w.heap.size)(hn:n<=maxLen) :
 Calls prog 205 #[.pointer (some ⟨r,0,none⟩),.int .i64 i,.slice A n c] w fun e w'=>e=.returned (.int .i64 (Za4 S i l))/\∃O',ZaN D w' F O' p S q seq r b (Zcf S L i l)/\Zf O w w'/\∀k,O' k->O k∨w.heap.size<=k:=by
 unfold maxLen at hn;obtain⟨l0,l1,l2⟩:=h.cells;have hlen:=hr.len;have HM:=hid (Zb9 h);have HP:=hid (ZdO api h);have hPd:S.P=pagesOf S.n:=rfl;have HH:=hid h;have HSAME:=hid (show ZaN D w F O p S q seq r b L/\Zf O w w/\∀k,O k->O k∨w.heap.size<=k from⟨h,Zf.refl _ _,fun k hk=>.inl hk⟩);by_cases h1:i<0
 · have hE:Za4 S i l=1/\Zcf S L i l=L:=by unfold Za4 Zcf;exact⟨if_pos (.inl h1),if_pos (.inl h1)⟩
   have k1:decide (i<0)=true:=by simpa using h1
   rw[hE.1,hE.2];clear hE h1 h hr hlen;go_enter func205,ntmps205;go_wp2_with fail;refine HM.out.mono ?_;rintro e w1⟨rfl,rfl⟩;go_wp2;go_ret;exact⟨rfl,O,HSAME.out⟩
 have k1:decide (i<0)=false:=by simpa using h1
 by_cases h2:i≥S.P
 · have hE:Za4 S i l=1/\Zcf S L i l=L:=by unfold Za4 Zcf;exact⟨if_pos (.inr (.inl h2)),if_pos (.inr (.inl h2))⟩
   have k2:decide (i≥pagesOf S.n)=true:=by rw[<-hPd];simpa using h2
   rw[hE.1,hE.2];clear hE h1 h2 h hr hlen hPd;go_enter func205,ntmps205;go_wp2_with fail;refine HM.out.mono ?_;rintro e w1⟨rfl,rfl⟩;go_wp2_with fail;refine HP.out.mono ?_;rintro e w1⟨rfl,hw⟩;have hw:=hw.symm;subst hw;go_wp2;go_ret;exact⟨rfl,O,HSAME.out⟩
 have k2:decide (i≥pagesOf S.n)=false:=by rw[<-hPd];simpa using h2
 by_cases h3:n=240
 · subst h3;have hE:Za4 S i l=0/\Zcf S L i l=Zef L i l:=by unfold Za4 Zcf;exact⟨if_neg (by rw[hlen];omega),if_neg (by rw[hlen];omega)⟩
   rw[hE.1,hE.2];have hrd:RB w.drew w.drew.heap.size A 240 l:=(hr.more hB).drew;have HST:=hid (fun(w1:World) (g c1:Nat) (hb1:Below w.heap.size w w1) (hg:w.heap.size<=g) (hc:240<=c1) (hr1:RB w1 w1.heap.size (some ⟨g,0,none⟩) 240 l)=>h.stored api (i:=i) ⟨by omega,by omega⟩ hlen hr.bytes hb1 hg hc hr1);have HBY:=hid hr.bytes;clear hE h1 h2 h hr hlen hPd;go_enter func205,ntmps205;go_wp2_with fail;refine HM.out.mono ?_;rintro e w1⟨rfl,rfl⟩;go_wp2_with fail;refine HP.out.mono ?_;rintro e w1⟨rfl,hw⟩;have hw:=hw.symm;subst hw;go_wp2_with fail;have e1:w.drew.cell? ⟨r,1,none⟩=some (.map (some b)):=l1
   go_region_with
    (go_at_call 112;refine(Zbr c hrd (ZZe _) (by decide)).mono ?_;rintro e w5 ⟨A5,k5,rfl,hk5,hown5,hb5⟩;obtain⟨g5,k5',e5,hk5',hg5⟩:=ZfV hown5 (by decide);cases e5;have hb5':Below w.heap.size w w5:=(Below.refl _ _).drew.trans hb5;obtain⟨w6,hrun6,HE⟩:=HST.out w5 g5 k5 hb5' hg5 hk5 (RB.of_own hown5 HBY.out);have l5:w5.cell? ⟨r,1,none⟩=some (.map (some b)):=(hb5'.cell (p:=⟨r,1,none⟩) l2).trans l1;clear hown5 hb5 hb5')
   all_goals go_wp2
   all_goals go_ret
   all_goals exact⟨rfl,_,HE.out.1,HE.out.2,fun k hk=>hk.imp id (fun e=>by rw[e];exact hg5)⟩
 · have hE:Za4 S i l=1/\Zcf S L i l=L:=by unfold Za4 Zcf;exact⟨if_pos (.inr (.inr (by rw[hlen];exact h3))),if_pos (.inr (.inr (by rw[hlen];exact h3)))⟩
   have k3:((n:Int) != 240)=true:=by simp;omega
   rw[hE.1,hE.2];clear hE h1 h2 h3 h hr hlen hPd;go_enter func205,ntmps205;go_wp2_with fail;refine HM.out.mono ?_;rintro e w1⟨rfl,rfl⟩;go_wp2_with fail;refine HP.out.mono ?_;rintro e w1⟨rfl,hw⟩;have hw:=hw.symm;subst hw;go_wp2;go_ret;exact⟨rfl,O,HSAME.out⟩
end
section
variable{D:World->(Nat->Prop)->Addr->DS->Prop}{w w':World}{F O:Nat->Prop}{p:Addr}{S:DS}{q r b:Nat}{seq:Int}{L:List (Int×List Int)}
def ZoZ(w:World)(st r:Nat):Prop:=w.heap[st]?=some (.cells #[.pointer (some ⟨r,0,none⟩)] 96 (0,0))
def ZcT(w:World)(ch st:Nat)(d f n c:Int)(v:Value)(d' f' n' c':Int)(v':Value)(mb:Nat)(sv:Value):Prop:=
 w.heap[ch]?=some (.cells #[.pointer (some ⟨st,0,none⟩),.int .i64 d,.int .i64 f,.int .i64 n,.int .i64 c,v,.int .i64 d',.int .i64 f',.int .i64 n',.int .i64 c',v',.map (some mb),sv] 205 (0,0))
theorem Zo0(api:Zb D)(h:ZaN D w F O p S q seq r b L){cb pb db ch st:Nat}{i:Int}{A:Option Addr}{n c B:Nat}{l:List Int}(hi : -9223372036854775808<=i/\i<=9223372036854775807)
 (h0:w.cell? ⟨cb,0,none⟩=some (.pointer (some ⟨ch,0,none⟩))) (h1:w.cell? ⟨ch,0,none⟩=some (.pointer (some ⟨st,0,none⟩))) (h2:w.cell? ⟨st,0,none⟩=some (.pointer (some ⟨r,0,none⟩))) (h3:w.cell? ⟨pb,0,none⟩=some (.int .i64 i)) (h4:w.cell? ⟨db,0,none⟩=some (.slice A n c)) (ho:∀k,k=cb∨k=ch∨k=st∨k=pb∨k=db->¬O k) (hr:RB w B A n l) (hB:B<=w.heap.size) (hn:n<=maxLen) :
 Calls prog 204 #[.pointer (some ⟨cb,0,none⟩),.pointer (some ⟨pb,0,none⟩),.pointer (some ⟨db,0,none⟩)] w fun e w'=>e=.returned (.int .i64 (Za4 S i l))/\∃O',ZaN D w' F O' p S q seq r b (Zcf S L i l)/\Zf O w w'/\∀k,O' k->O k∨w.heap.size<=k:=by
 have HS:=hid (fun(w1:World) (hb:Below w.heap.size w w1)=>Zlh (c:=c) api (h.below api hb) i hi (hr.below (hb.mono hB)) (ZZf hB hb.size) hn);have hd:Below w.heap.size w w.drew:=(Below.refl _ _).drew;have HC:=hid (show ∀w2,Zf O w w2->∀(k:Nat) (u:Value),(k=cb∨k=ch∨k=st∨k=pb∨k=db)->w.cell? ⟨k,0,none⟩=some u->w2.cell? ⟨k,0,none⟩=some u from fun w2 ht k u hk hu=>(World.cell?_of_block (a:=⟨k,0,none⟩) (ht.block k (World.block_lt_of_cell? _ _ hu) (ho k hk))).trans hu);have HT:=hid (show ∀w2,Zf O w.drew w2->Zf O w w2 from fun w2 ht=>⟨ht.os,ht.tape,ht.output,ht.size,ht.block⟩);have HSD:=hid (HS.out w.drew hd);clear h hr HS hd;go_enter func204,ntmps204;go_wp2_with fail
 go_region_held3 (fun w'=>w'.cell? ⟨cb,0,none⟩=some (.pointer (some ⟨ch,0,none⟩))/\w'.cell? ⟨ch,0,none⟩=some (.pointer (some ⟨st,0,none⟩))/\w'.cell? ⟨st,0,none⟩=some (.pointer (some ⟨r,0,none⟩))/\w'.cell? ⟨pb,0,none⟩=some (.int .i64 i)/\w'.cell? ⟨db,0,none⟩=some (.slice A n c))
  (first|with_reducible exact y1|exact⟨h0,h1,h2,h3,h4⟩)
  (first
   | (go_at_call 205;refine HSD.out.mono ?_;rintro e w2 ⟨rfl,O2,p2,t2,n2⟩;have tt:=HT.out w2 t2;have y1:w2.cell? ⟨cb,0,none⟩=some (.pointer (some ⟨ch,0,none⟩))/\w2.cell? ⟨ch,0,none⟩=some (.pointer (some ⟨st,0,none⟩))/\w2.cell? ⟨st,0,none⟩=some (.pointer (some ⟨r,0,none⟩))/\w2.cell? ⟨pb,0,none⟩=some (.int .i64 i)/\w2.cell? ⟨db,0,none⟩=some (.slice A n c):=⟨HC.out w2 tt cb _ (.inl rfl) h0,HC.out w2 tt ch _ (.inr (.inl rfl)) h1,HC.out w2 tt st _ (.inr (.inr (.inl rfl))) h2,HC.out w2 tt pb _ (.inr (.inr (.inr (.inl rfl)))) h3,HC.out w2 tt db _ (.inr (.inr (.inr (.inr rfl)))) h4⟩))
 have HE:=hid (show ∃O',ZaN D w2 F O' p S q seq r b (Zcf S L i l)/\Zf O w w2/\∀k,O' k->O k∨w.heap.size<=k from⟨O2,p2,tt,n2⟩);clear p2 t2 n2 tt y1;go_wp2;go_ret;exact⟨rfl,HE.out⟩
end
end Go.Proofs.YtlmkdmdbpopnhaaGreatDoor
