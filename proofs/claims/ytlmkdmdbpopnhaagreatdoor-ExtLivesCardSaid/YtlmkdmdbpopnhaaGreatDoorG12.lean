/- PgM. Conditions: in each theorem. -/
import Derived.Test.YtlmkdmdbpopnhaaGreatDoorG3
import Derived.Test.YtlmkdmdbpopnhaaGreatDoorG11
import Derived.Test.YtlmkdmdbpopnhaaGreatDoorG9
import Derived.Maps.Range
set_option maxRecDepth 100000
set_option linter.unusedVariables false
open Go.Proofs.Tryz
namespace Go.Proofs.YtlmkdmdbpopnhaaGreatDoor
open Go.RowKit Go.Maps
theorem ZiI:∀(l m:List Int),l.Nodup->(∀x∈l,x∈m)->l.length<=m.length
 | [],m,_,_=>Nat.zero_le _
 | x::r,m,hn,h=>by
  have hn':=List.nodup_cons.1 hn;have h1:=ZiI r (m.erase x) hn'.2 (fun y hy=>(List.mem_erase_of_ne (fun e=>hn'.1 (by rw[<-e];exact hy))).2 (h y (List.mem_cons_of_mem _ hy)));have h2:=List.length_erase_of_mem (h x (List.mem_cons_self ..));have h3:0<m.length:=List.length_pos_of_mem (h x (List.mem_cons_self ..));rw[List.length_cons];omega
theorem Zbl.tight{w:World}{b n:Nat}{f:Int->Option Value}(h:Zbl w b n f)(ks:List Int)(hk:∀i,f i≠none->i∈ks):Zbl w b ks.length f:=by
 obtain⟨D,hD,hf⟩:=h;obtain⟨es,rfl,hne,hkey⟩:=hD.entries ZgP
 have hint:∀p∈es,∃i:Int,p.1=.int .i64 i:=by
  obtain⟨es',c,hb,Ft,hs,he⟩:=hD;intro p hp;injection he with he;rw[he]at hp;obtain⟨x,hx,rfl⟩:=List.mem_map.1 (mem_sorted.1 hp);obtain⟨y,hy⟩:=Ft.reads x hx;rw[WideElems.rg_of hy];have h3:keyOf prog 3 x.key=some y.1:=WideElems.rd_key hy
  revert h3
  generalize y.1=kl;intro h3;generalize x.key=key at h3
  cases key <;> simp[keyOf,underlying3,mapKey]at h3
  obtain⟨⟨rfl,_⟩,rfl⟩:=h3;exact⟨_,rfl⟩
 have hlen:es.length<=ks.length:=by
  have hsub:∀i∈es.map (fun p=>match p.1 with | .int _ i=>i|_=>0),i∈ks:=by
   intro i hi;obtain⟨p,hp,rfl⟩:=List.mem_map.1 hi;obtain⟨i,e⟩:=hint p hp;rw[e];refine hk i (fun e0=>?_)
   have:=(hf i).1
   rw[e0,Maps.has_eq]at this;have h2:es.any (fun p=>p.1.sameKey (.int .i64 i))=true:=List.any_eq_true.2 ⟨p,hp,by rw[e];simp[Lit.sameKey]⟩;rw[h2]at this;cases this
  have hnd:(es.map (fun p=>match p.1 with | .int _ i=>i|_=>0)).Nodup:=by
   rw[List.nodup_iff_pairwise_ne,List.pairwise_map];refine hne.imp_of_mem fun {p q} hp hq hpq e=>hpq ?_
   obtain⟨i,hi⟩:=hint p hp;obtain⟨j,hj⟩:=hint q hq;rw[hi,hj]at e ⊢
   have:i=j:=e
   rw[this]
  have:=ZiI _ ks hnd hsub
  simpa using this
 obtain⟨es',c,hb,Ft,hs,he⟩:=hD;refine⟨_,⟨es',c,hb,Ft,?_,he⟩,hf⟩;injection he with he
 have:es.length=es'.size:=by rw[he,length_sorted];simp
 omega
def Zkb(w:World)(X O:Nat->Prop)(b:Nat)(L:List (Int×List Int)):Prop:=
 ∃f,Zbl w b L.length f/\∀i,(atL L i=none->f i=none)/\∀l,atL L i=some l->∃g c,f i=some (.slice (some ⟨g,0,none⟩) 240 c)/\240<=c/\RB w w.heap.size (some ⟨g,0,none⟩) 240 l/\¬X g/\O g
structure ZaN(D:World->(Nat->Prop)->Addr->DS->Prop)(w:World)(F O:Nat->Prop)(p:Addr)(S:DS)(q:Nat)(seq:Int)(r b:Nat)(L:List (Int×List Int)):Prop where
 d:D w F p S
 log:Zdq w q p seq
 me:w.heap[r]?=some (.cells #[.pointer (some ⟨q,0,none⟩),.map (some b)] 151 (0,0))
 qF:¬F q
 rF:¬F r
 bF:¬F b
 rq:r≠q
 own:∀k,F k∨k=q∨k=r∨k=b->O k
 lt:∀k,O k->k<w.heap.size
 set:Zkb w (fun k=>F k∨k=q∨k=r∨k=b) O b L
 up:Zbp L
 all:ZcH S L
section
variable{D:World->(Nat->Prop)->Addr->DS->Prop}{w w':World}{F O:Nat->Prop}{p:Addr}{S:DS}{q r b:Nat}{seq:Int}{L:List (Int×List Int)}{X:Nat->Prop}
theorem Zkb.keep(h:Zkb w X O b L){X' O':Nat->Prop}(hs:w.heap.size<=w'.heap.size)(hb:w'.heap[b]?=w.heap[b]?)(hk:∀g,g<w.heap.size->O g->¬X g->w'.heap[g]?=w.heap[g]?)(hX:∀g,g<w.heap.size->O g->¬X g->¬X' g)(hO:∀g,O g->O' g):Zkb w' X' O' b L:=by
 obtain⟨f,h1,h2⟩:=h;refine⟨f,h1.of_block hb,fun i=>⟨(h2 i).1,fun l hl=>?_⟩⟩;obtain⟨g,c,e1,e2,e3,e4,e5⟩:=(h2 i).2 l hl;have hg:g<w.heap.size:=by obtain⟨bb,_,e,hbb,_⟩:=e3.at_ (by decide);cases e;exact hbb
 exact⟨g,c,e1,e2,e3.there (by decide) (hk g hg e5 e4) hs,hX g hg e5 e4,hO g e5⟩
theorem ZaN.cells(h:ZaN D w F O p S q seq r b L):w.cell? ⟨r,0,none⟩=some (.pointer (some ⟨q,0,none⟩))/\w.cell? ⟨r,1,none⟩=some (.map (some b))/\r<w.heap.size:=by
 refine⟨?_,?_,(ZZa.1 h.me).1⟩
 · rw[cell_of_row w r 0 _ _ (0,0) h.me];rfl
 · rw[cell_of_row w r 1 _ _ (0,0) h.me];rfl
theorem ZaN.keep(api:Zb D)(h:ZaN D w F O p S q seq r b L)(hs:w.heap.size<=w'.heap.size)(hk:∀k,O k->w'.heap[k]?=w.heap[k]?):ZaN D w' F O p S q seq r b L:=
 ⟨api.keep w w' F p S h.d (fun k hf=>hk k (h.own k (.inl hf))),h.log.keep (hk q (h.own q (.inr (.inl rfl)))),(hk r (h.own r (.inr (.inr (.inl rfl))))).trans h.me,h.qF,h.rF,h.bF,h.rq,h.own,fun k hk'=>ZZd (h.lt k hk') hs,
  h.set.keep hs (hk b (h.own b (.inr (.inr (.inr rfl))))) (fun g _ ho _=>hk g ho) (fun g _ _ hx=>hx) (fun g ho=>ho),h.up,h.all⟩
theorem ZaN.below(api:Zb D)(h:ZaN D w F O p S q seq r b L)(hb:Below w.heap.size w w'):ZaN D w' F O p S q seq r b L:=h.keep api hb.size fun k hk=>hb.block k (h.lt k hk)
theorem ZaN.turn(api:Zb D)(h:ZaN D w F O p S q seq r b L){O':Nat->Prop}{L':List (Int×List Int)}(hg:w.grownBy w' (some b))(hO:∀k,O k->O' k)(hlt:∀k,O' k->k<w'.heap.size)(hset:Zkb w' (fun k=>F k∨k=q∨k=r∨k=b) O' b L')(hup:Zbp L')(hall:ZcH S L'):ZaN D w' F O' p S q seq r b L':=by
 have hbm:b≠q/\b≠r:=by
  obtain⟨f,h1,_⟩:=h.set;obtain⟨es,c,e⟩:=h1.block;refine⟨fun e'=>?_,fun e'=>?_⟩
  · have:=h.log;unfold Zdq at this;rw[<-e',e]at this;cases this
  · have:=h.me;rw[<-e',e]at this;cases this
 have hB:∀k,k<w.heap.size->k≠b->w'.heap[k]?=w.heap[k]?:=fun k hk hne=>hg.block k hk (fun e=>hne (Option.some.inj e))
 exact⟨api.keep w w' F p S h.d (fun k hf=>hB k (api.lt w F p S h.d k hf) (fun e=>h.bF (e ▸ hf))),h.log.keep (hB q h.log.cells.2.2.2 (fun e=>hbm.1 e.symm)),(hB r h.cells.2.2 (fun e=>hbm.2 e.symm)).trans h.me,h.qF,h.rF,h.bF,h.rq,fun k hk=>hO k (h.own k hk),hlt,hset,hup,hall⟩
end
end Go.Proofs.YtlmkdmdbpopnhaaGreatDoor
