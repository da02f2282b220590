/- ExtF, ExtH, ExtI, ExtJ. Conditions: in each theorem. -/
import Derived.Test.YtlmkdmdbpopnhaaGreatDoorG15
import Derived.Test.YtlmkdmdbpopnhaaGreatDoorG17
import Derived.Deep.AppendSrc
import Derived.Laws.Append
import Derived.Deep.RegionHeld3
import Derived.Deep.RegionLaw
import Derived.Lib.SliceRun
import Derived.ArgAppend
set_option maxHeartbeats 3200000
set_option maxRecDepth 100000
set_option linter.unusedVariables false
open Go.Proofs.Tryz
open Go.Lib (hid)
namespace Go.Proofs.YtlmkdmdbpopnhaaGreatDoor
open Go.RowKit
theorem Zbf{w:World}{b:Nat}{T:TypeId}{a0 a1 a2 a3:Value}(h:w.heap[b]?=some (.cells #[a0,a1,a2,a3] T (0,0)))(x0 x1 x2 x3:Value):((((w.setCell ⟨b,0,none⟩ x0).setCell ⟨b,1,none⟩ x1).setCell ⟨b,2,none⟩ x2).setCell ⟨b,3,none⟩ x3).heap[b]?=some (.cells #[x0,x1,x2,x3] T (0,0)):=by
 have h0:=heap_setCell_same _ b 0 _ _ x0 h;have h1:=heap_setCell_same _ b 1 _ _ x1 h0;have h2:=heap_setCell_same _ b 2 _ _ x2 h1;have h3:=heap_setCell_same _ b 3 _ _ x3 h2;simpa using h3
theorem Za{w:World}{b:Nat}{T:TypeId}{a0 a1 a2 a3:Value}(h:w.heap[b]?=some (.cells #[a0,a1,a2,a3] T (0,0))):w.cell? ⟨b,0,none⟩=some a0/\w.cell? ⟨b,1,none⟩=some a1/\w.cell? ⟨b,2,none⟩=some a2/\w.cell? ⟨b,3,none⟩=some a3/\(∀i,w.frozen? ⟨b,i,none⟩=false)/\b<w.heap.size:=by
 refine⟨?_,?_,?_,?_,fun i=>by simp[World.frozen?,h],(ZZa.1 h).1⟩ <;> (rw[cell_of_row w b _ _ _ (0,0) h];rfl)
theorem Zag{w w':World}{B b:Nat}(h:Below B w w')(hb:B<=b)(x0 x1 x2 x3:Value):Below B w ((((w'.setCell ⟨b,0,none⟩ x0).setCell ⟨b,1,none⟩ x1).setCell ⟨b,2,none⟩ x2).setCell ⟨b,3,none⟩ x3):=
 (((h.setCell (p:=⟨b,0,none⟩) hb _).setCell (p:=⟨b,1,none⟩) hb _).setCell (p:=⟨b,2,none⟩) hb _).setCell (p:=⟨b,3,none⟩) hb _
structure Zw where
 pg:Int
 d:Int
 x:Int
 ps:List KV
def Zw.bv(l:Zw):BV:=⟨l.d,l.x,l.ps⟩
def Zd9(w:World)(G:Nat->Prop)(v:Value)(l:Zw):Prop:=∃A n c,v=.agg #[.int .i64 l.pg,.int .i64 l.d,.int .i64 l.x,.slice A n c]/\n<=c/\n<=maxLen/\Zp w G A n l.ps
section
variable{D:World->(Nat->Prop)->Addr->DS->Prop}{w w':World}{F O:Nat->Prop}{p:Addr}{S:DS}{q r b st:Nat}{seq:Int}{L:List (Int×List Int)}
structure SAt(D:World->(Nat->Prop)->Addr->DS->Prop)(w:World)(F O:Nat->Prop)(p:Addr)(S:DS)(q:Nat)(seq:Int)(r b st:Nat)(L:List (Int×List Int)):Prop where
 pg:ZaN D w F O p S q seq r b L
 tab:Zdf w F
 len:∀i,(Zn S L i).2=0->(Zn S L i).1.length=240
 sto:ZoZ w st r
 out:¬O st
theorem SAt.lt(h:SAt D w F O p S q seq r b st L):st<w.heap.size:=(ZZa.1 h.sto).1
theorem SAt.below(api:Zb D)(h:SAt D w F O p S q seq r b st L)(hb:Below w.heap.size w w'):SAt D w' F O p S q seq r b st L:=⟨h.pg.below api hb,h.tab.below hb,h.len,(hb.block st h.lt).trans h.sto,h.out⟩
theorem Zmk(api:Zb D)(h:SAt D w F O p S q seq r b st L)(pg:Int)(hpg : -9223372036854775808<=pg/\pg<=9223372036854775807){bv:BV}(hg:(Zn S L pg).2=0)(hp:Zap (Zn S L pg).1=(bv,0)) :
 Calls prog 109 #[.pointer (some ⟨st,0,none⟩),.int .i64 pg] w fun e w'=>∃v,e=.returned (.tuple #[v,.int .i64 0])/\Zd9 w' (fun k=>k<w.heap.size) v ⟨pg,bv.d,bv.x,bv.ps⟩/\Below w.heap.size w w':=by
 have hX:Below w.heap.size w (w.alloc (.cells #[.int .i64 0,.int .i64 0,.int .i64 0,.slice none 0 0] 104)):=(Below.refl _ _).alloc (ZZe _) _;have hz:(w.alloc (.cells #[.int .i64 0,.int .i64 0,.int .i64 0,.slice none 0 0] 104)).heap[w.heap.size]?=some (.cells #[.int .i64 0,.int .i64 0,.int .i64 0,.slice none 0 0] 104 (0,0)):=heap_alloc_new _ _;have HG:=hid (Zer api (h.pg.below api hX) (h.tab.below hX) pg hpg);have hst:=(h.below api hX).sto.cell;have HX:=hid (ZZg hX hz);have HP:=hid hp;have hln:=h.len pg hg;rw[hg]at HG;generalize (Zn S L pg).1=data at HG HP hln;clear h hX hz hp hg;go_enter func109,ntmps109;go_wp2_with fail;refine HG.out.mono ?_;rintro e w1⟨A,n,c,rfl,hc,hr,hb1⟩;have hn:n<=maxLen:=by rw[<-hr.len,hln];decide
 have HB1:=hid (ZZg (HX.out.1.trans (hb1.mono HX.out.1.size)) ((hb1.block w.heap.size (by simp)).trans HX.out.2));have HPC:=hid (Zkn (c:=c) hr (ZZe _) hc hn);rw[HP.out]at HPC;clear hr hb1 HX hst HG hn hln;go_wp2_with fail;refine HPC.out.mono ?_;rintro e w2⟨A2,n2,c2,rfl,hc2,hs2,hb2⟩
 have hk2:(w2.alloc (.cells #[.int .i64 bv.d,.int .i64 bv.x,.slice A2 n2 c2] 102)).heap[w.heap.size]?=some (.cells #[.int .i64 0,.int .i64 0,.int .i64 0,.slice none 0 0] 104 (0,0)):=by
  have h1:w.heap.size<w1.heap.size:=(ZZa.1 HB1.out.2).1;exact(Below.heap_alloc _ _ _ (ZZd h1 hb2.size)).trans ((hb2.block _ h1).trans HB1.out.2)
 obtain⟨z0,z1,z2,z3,fz,zl⟩:=Za hk2;have f0:=fz 0;have f1:=fz 1;have f2:=fz 2;have f3:=fz 3;have hb3:Below w.heap.size w (w2.alloc (.cells #[.int .i64 bv.d,.int .i64 bv.x,.slice A2 n2 c2] 102)):=HB1.out.1.trans ((hb2.trans ((Below.refl w1.heap.size w2).alloc hb2.size _)).mono HB1.out.1.size)
 have HEND:=hid (ZZg (Zbf hk2 (.int .i64 pg) (.int .i64 bv.d) (.int .i64 bv.x) (.slice A2 n2 c2)) (ZZg (Zag hb3 (ZZe _) (.int .i64 pg) (.int .i64 bv.d) (.int .i64 bv.x) (.slice A2 n2 c2)) (show Zp ((((((w2.alloc (.cells #[.int .i64 bv.d,.int .i64 bv.x,.slice A2 n2 c2] 102)).setCell ⟨w.heap.size,0,none⟩ (.int .i64 pg))).setCell ⟨w.heap.size,1,none⟩ (.int .i64 bv.d)).setCell ⟨w.heap.size,2,none⟩ (.int .i64 bv.x)).setCell ⟨w.heap.size,3,none⟩ (.slice A2 n2 c2)) (fun k=>k<w.heap.size) A2 n2 bv.ps from by
  have h1:w.heap.size<w1.heap.size:=(ZZa.1 HB1.out.2).1;have s1:=hs2.below (w':=w2.alloc (.cells #[.int .i64 bv.d,.int .i64 bv.x,.slice A2 n2 c2] 102)) ((Below.refl _ _).alloc (ZZe _) _);have s2:=(((s1.setCell (p:=⟨w.heap.size,0,none⟩) (Nat.le_of_lt h1) (.int .i64 pg)).setCell (p:=⟨w.heap.size,1,none⟩) (Nat.le_of_lt h1) (.int .i64 bv.d)).setCell (p:=⟨w.heap.size,2,none⟩) (Nat.le_of_lt h1) (.int .i64 bv.x)).setCell (p:=⟨w.heap.size,3,none⟩) (Nat.le_of_lt h1) (.slice A2 n2 c2)
  exact s2.grow (ZZe _) (fun _ _ _=>rfl) (fun k _ hk=>fun h=>hk (by omega)))))
 have hn2:n2<=maxLen:=by
  have h1:=hs2.now.len;have h2:=Zg9 data
  have h3:bv.ps.length<=116:=by
   have e:Zap data=(bv,0):=HP.out;unfold Zap at e
   split at e
   · injection e with e1 _;rw[<-e1];exact h2.2
   · injection e with e1 e2;exact absurd e2 (by decide)
  unfold maxLen;omega
 clear hs2 hb2 hk2 hb3 fz HPC HB1 HP;go_wp2;generalize hXX:((((((w2.alloc (.cells #[.int .i64 bv.d,.int .i64 bv.x,.slice A2 n2 c2] 102)).setCell ⟨w.heap.size,0,none⟩ (.int .i64 pg))).setCell ⟨w.heap.size,1,none⟩ (.int .i64 bv.d)).setCell ⟨w.heap.size,2,none⟩ (.int .i64 bv.x)).setCell ⟨w.heap.size,3,none⟩ (.slice A2 n2 c2))=X at *;obtain⟨d0,d1,d2,d3,_⟩:=Za HEND.out.1
 refine bodyPost_ret (v:=.tuple #[.agg #[.int .i64 pg,.int .i64 bv.d,.int .i64 bv.x,.slice A2 n2 c2],.int .i64 0]) (by
  simp[results,Tryz.results109,go_sem,d0,d1,d2,d3]) rfl ?_
 exact⟨_,rfl,⟨_,_,_,rfl,hc2,hn2,HEND.out.2.2⟩,HEND.out.2.1⟩
end
def BIn(w:World)(G:Nat->Prop)(A:Option Addr)(n:Nat)(l:List Int):Prop:=RB w w.heap.size A n l/\∀a,A=some a->0<n->¬G a.block
def PIn(w:World)(G:Nat->Prop)(A:Option Addr)(n:Nat)(ps:List KV):Prop:=
 ps.length=n/\(0<n->∃b off,A=some ⟨b,off,none⟩/\b<w.heap.size/\¬G b/\∀(j:Nat) (x:KV),ps[j]?=some x->∃(ka:Option Addr) (kn kc:Nat) (va:Option Addr) (vn vc:Nat),w.cell? ⟨b,off+j*2,none⟩=some (.slice ka kn kc)/\w.cell? ⟨b,off+j*2+1,none⟩=some (.slice va vn vc)/\BIn w G ka kn x.1/\(kn<=kc/\kn<=maxLen)/\BIn w G va vn x.2/\(vn<=vc/\vn<=maxLen))
section
variable{w w' w0:World}{G G':Nat->Prop}{A:Option Addr}{n:Nat}{l:List Int}{ps:List KV}
theorem BIn.grow(h:BIn w G A n l)(hs:w.heap.size<=w'.heap.size)(hk:∀k,k<w.heap.size->¬G k->w'.heap[k]?=w.heap[k]?)(hG:∀k,k<w.heap.size->¬G k->¬G' k):BIn w' G' A n l:=by
 obtain⟨h1,h2⟩:=h;refine⟨⟨h1.1,h1.2.1,fun hn=>?_⟩,fun a ha hn=>?_⟩
 · obtain⟨b,off,e,hb,hc⟩:=h1.2.2 hn;exact⟨b,off,e,ZZd hb hs,fun j hj=>(World.cell?_of_block (a:=⟨b,off+j,none⟩) (hk b hb (h2 _ e hn))).trans (hc j hj)⟩
 · obtain⟨b,off,e,hb,hc⟩:=h1.2.2 hn;have e2:=ha;rw[e]at e2;cases e2;exact hG _ hb (h2 _ e hn)
theorem BIn.below(h:BIn w G A n l)(hb:Below w.heap.size w w'):BIn w' G A n l:=h.grow hb.size (fun k hk _=>hb.block k hk) (fun _ _ h=>h)
theorem BIn.of_below(h:RB w0 w0.heap.size A n l)(hb:Below w0.heap.size w0 w)(hG:∀k,G k->w0.heap.size<=k):BIn w G A n l:=by
 refine⟨(h.below hb).more hb.size,fun a ha hn hg=>?_⟩;obtain⟨b,off,e,hb',_⟩:=h.2.2 hn;rw[e]at ha;cases ha
 have:=hG _ hg
 have:w0.heap.size<=b:=this
 omega
theorem PIn.stays(h:PIn w G A n ps):Zp w G A n ps:=fun W hW hk=>by
 refine⟨h.1,fun hn=>?_⟩;obtain⟨b,off,e,hb,hgb,hall⟩:=h.2 hn;refine⟨b,off,e,ZZd hb hW,fun j x hx=>?_⟩;obtain⟨ka,kn,kc,va,vn,vc,c0,c1,r1,b1,r2,b2⟩:=hall j x hx;exact⟨ka,kn,kc,va,vn,vc,(World.cell?_of_block (a:=⟨b,off+j*2,none⟩) (hk b hb hgb)).trans c0,(World.cell?_of_block (a:=⟨b,off+j*2+1,none⟩) (hk b hb hgb)).trans c1,(r1.grow hW hk (fun _ _ h=>h)).1,b1,(r2.grow hW hk (fun _ _ h=>h)).1,b2⟩
def emptied(w:World)(b:Nat):World:={w with heap:=w.heap.modify b (fun _=>.cells #[] 0)}
theorem Zdt(w:World)(b:Nat):(emptied w b).heap.size=w.heap.size:=by simp[emptied]
theorem ZcZ(w:World){b k:Nat}(h:k≠b):(emptied w b).heap[k]?=w.heap[k]?:=by
 simp[emptied,Array.getElem?_modify,Ne.symm h]
theorem Zfs(w:World)(b i:Nat):(emptied w b).cell? ⟨b,i,none⟩=none:=by
 rcases Nat.lt_or_ge b w.heap.size with hb|hb
 · have:(emptied w b).heap[b]?=some (.cells #[] 0 (0,0)):=by
    simp[emptied,Array.getElem_modify,hb]
   rw[cell_of_row _ b i _ _ (0,0) this];rfl
 · have:(emptied w b).heap[b]?=none:=Array.getElem?_eq_none (by rw[Zdt];exact hb)
   cases hc:(emptied w b).cell? ⟨b,i,none⟩ with
   | none=>rfl
   | some v=>
    have:=World.block_lt_of_cell? _ _ hc
    rw[Zdt]at this
    have:b<w.heap.size:=this
    omega
theorem Zp.apart(h:Zp w G A n ps){b:Nat}(hg:G b):Zaa (emptied w b) (emptied w b).heap.size A n ps:=h _ (by rw[Zdt];exact ZZe _) (fun k _ hk=>ZcZ w (fun e=>hk (by rw[e];exact hg)))
theorem RB.not_emptied{b B:Nat}(h:RB (emptied w b) B A n l)(hn:0<n):∀a,A=some a->a.block≠b:=fun a ha e=>by
 obtain⟨b',off,e',hb',hc⟩:=h.2.2 hn;rw[e']at ha;cases ha;have e:b'=b:=e;subst e
 have:=hc 0 hn
 rw[Zfs]at this;cases this
theorem Zp.pin(h:Zp w G A n ps):PIn w G A n ps:=by
 refine⟨h.now.1,fun hn=>?_⟩;obtain⟨b,off,e,hb,hall⟩:=h.now.2 hn;have hx0:∃x,ps[0]?=some x:=⟨_,ZZc (by rw[h.now.1];exact hn)⟩
 have hgb:¬G b:=fun hg=>by
  obtain⟨b',off',e',hb',hall'⟩:=(h.apart hg).2 hn;rw[e]at e';cases e';obtain⟨x,hx⟩:=hx0;obtain⟨_,_,_,_,_,_,c0,_⟩:=hall' 0 x hx;rw[Zfs]at c0;cases c0
 refine⟨b,off,e,hb,hgb,fun j x hx=>?_⟩;obtain⟨ka,kn,kc,va,vn,vc,c0,c1,r1,b1,r2,b2⟩:=hall j x hx
 have other:∀b2,G b2->RB (emptied w b2) (emptied w b2).heap.size ka kn x.1/\RB (emptied w b2) (emptied w b2).heap.size va vn x.2:=fun b2 hg=>by
  obtain⟨b',off',e',hb',hall'⟩:=(h.apart hg).2 hn;rw[e]at e';cases e';obtain⟨ka',kn',kc',va',vn',vc',c0',c1',r1',_,r2',_⟩:=hall' j x hx;have hne:b≠b2:=fun e=>hgb (by rw[e];exact hg)
  rw[World.cell?_of_block (a:=⟨b,off+j*2,none⟩) (ZcZ w hne),c0]at c0';rw[World.cell?_of_block (a:=⟨b,off+j*2+1,none⟩) (ZcZ w hne),c1]at c1';cases c0';cases c1';exact⟨r1',r2'⟩
 exact⟨ka,kn,kc,va,vn,vc,c0,c1,⟨r1,fun a ha hn' hg=>(other _ hg).1.not_emptied hn' a ha rfl⟩,b1,⟨r2,fun a ha hn' hg=>(other _ hg).2.not_emptied hn' a ha rfl⟩,b2⟩
end
theorem ZdP:(prog.info? 65).map (fun i=>(i.zero,i.size,i.bytes))=some (some (.agg #[.slice none 0 0,.slice none 0 0]),2,48):=by kernel_rfl
section
variable{w w':World}{G:Nat->Prop}{A:Option Addr}{n:Nat}{ps:List KV}{x:KV}{ka va:Option Addr}{kn kc vn vc b:Nat}
theorem Zml(h:Zp w G A n ps)(hG:∀k,G k->k<w.heap.size)(hk:BIn w G ka kn x.1)(hv:BIn w G va vn x.2)(hkc:kn<=kc/\kn<=maxLen)(hvc:vn<=vc/\vn<=maxLen)(hb:w.heap[b]?=some (.cells #[.slice ka kn kc,.slice va vn vc] 65 (0,0)))(hn:n<=4294967296)(ty:TypeId) :
 ∃g c' w',(Builtin.append_ #[31,31] ty #[.slice A n n,.slice (some ⟨b,0,none⟩) 1 1]).run prog w=.ok (.slice (some ⟨g,0,none⟩) (n+1) c') w'/\n+1<=c'/\Zp w' G (some ⟨g,0,none⟩) (n+1) (ps++[x])/\Below w.heap.size w w':=by
 obtain⟨i0,hi,hz0,hz1,hz2⟩:=info_parts ZdP;obtain⟨hl,hp⟩:=h.pin
 obtain⟨olds,hol,hrow,hcell⟩:∃olds:List Value,olds.length=n*2/\(Builtin.firstCells i0.size n (.slice A n n)).run prog w.drew=.ok olds.toArray w.drew/\(∀(j:Nat) (y:KV),ps[j]?=some y->∃(ka:Option Addr) (kn kc:Nat) (va:Option Addr) (vn vc:Nat),olds[j*2]?=some (.slice ka kn kc)/\olds[j*2+1]?=some (.slice va vn vc)/\BIn w G ka kn y.1/\(kn<=kc/\kn<=maxLen)/\BIn w G va vn y.2/\(vn<=vc/\vn<=maxLen)):=by
  rcases Nat.eq_zero_or_pos n with h0|h0
  · subst h0;refine⟨[],rfl,?_,fun j y hy=>?_⟩
    · cases A with
      | none=>exact run_firstCells_none w.drew i0.size 0 0 0
      | some a=>exact run_firstCells_some (P:=prog) w.drew i0.size 0 a 0 0 [] (by simp) (fun j v h=>by cases h)
    · rw[List.eq_nil_of_length_eq_zero hl]at hy;cases hy
  · obtain⟨b',off,rfl,hb',hgb,hall⟩:=hp h0
    have hcl:∀j,j<n*2->∃u,w.cell? ⟨b',off+j,none⟩=some u:=fun j hj=>by
     obtain⟨y,hy⟩:∃y,ps[j/2]?=some y:=⟨_,ZZc (by omega)⟩
     obtain⟨_,_,_,_,_,_,c0,c1,_⟩:=hall _ y hy;rcases Nat.mod_two_eq_zero_or_one j with e|e
     · exact⟨_,by rw[show off+j=off+j/2*2 by omega];exact c0⟩
     · exact⟨_,by rw[show off+j=off+j/2*2+1 by omega];exact c1⟩
    have hget:∀j,j<n*2->((List.range (n*2)).map fun j=>(w.cell? ⟨b',off+j,none⟩).getD (.bool false))[j]?=w.cell? ⟨b',off+j,none⟩:=fun j hj=>by
     obtain⟨u,hu⟩:=hcl j hj;rw[List.getElem?_map,List.getElem?_range hj,Option.map_some,hu,Option.getD_some]
    refine⟨(List.range (n*2)).map fun j=>(w.cell? ⟨b',off+j,none⟩).getD (.bool false),by simp,?_,fun j y hy=>?_⟩
    · refine run_firstCells_some (P:=prog) w.drew i0.size n ⟨b',off,none⟩ n n _ (by rw[hz1];simp) (fun j v hv=>?_)
      have hj:j<n*2:=by
       have:=(ZZb.1 hv).1
       simpa using this
      rw[hget j hj]at hv;rw[show(⟨b',off,none⟩:Addr).add j=⟨b',off+j,none⟩ by unfold Addr.add;split <;> simp_all];exact hv
    · obtain⟨ka,kn,kc,va,vn,vc,c0,c1,r⟩:=hall j y hy;have hj:j<n:=by rw[<-hl];exact(ZZb.1 hy).1
      exact⟨ka,kn,kc,va,vn,vc,by rw[hget _ (by omega)];exact c0,by rw[hget _ (by omega),<-Nat.add_assoc];exact c1,r⟩
 have hrun:=run_append_grow_src (P:=prog) (w:=w) 31 31 ty 65 i0 _ underlying31 hi hz0 A n n olds hrow (.slice (some ⟨b,0,none⟩) 1 1) 1 [Value.slice ka kn kc,Value.slice va vn vc] (Src.ofSlice w underlying31 ⟨b,0,none⟩ 1 1 [Value.slice ka kn kc,Value.slice va vn vc] (by rw[hz1];rfl) (World.news_of_block (cs:=#[.slice ka kn kc,.slice va vn vc]) hb) (fun u hu=>by
  simp only[List.mem_cons,List.not_mem_nil,or_false]at hu
  rcases hu with rfl|rfl <;> rfl)) (by omega) (by omega) (by rw[hz2];exact growslice_fits (by omega) (by omega))
 have hge:=grownCap_ge w (n+1) n 65;generalize grownCap w (n+1) n 65=cap at hrun hge;generalize hz:Builtin.zeroCells (Value.agg #[.slice none 0 0,.slice none 0 0]).cells (cap-(n+1))=zs at hrun;refine⟨w.heap.size,cap,_,hrun,hge,PIn.stays ⟨by simp[hl],fun _=>⟨w.heap.size,0,rfl,?_,fun hg=>absurd (hG _ hg) (Nat.lt_irrefl _),fun j y hy=>?_⟩⟩,(Below.refl _ _).drew.alloc (ZZe _) _⟩
 · show w.heap.size<(w.drew.heap.push _).size;rw[Array.size_push];exact Nat.lt_succ_self _
 · have hblk:=heap_alloc_new w.drew (.cells ((olds++[Value.slice ka kn kc,Value.slice va vn vc]).toArray++zs) 65);have hbel:Below w.heap.size w (w.drew.alloc (.cells ((olds++[Value.slice ka kn kc,Value.slice va vn vc]).toArray++zs) 65)):=(Below.refl _ _).drew.alloc (ZZe _) _
   have hcl:∀(k:Nat) (u:Value),(olds++[Value.slice ka kn kc,Value.slice va vn vc])[k]?=some u->(w.drew.alloc (.cells ((olds++[Value.slice ka kn kc,Value.slice va vn vc]).toArray++zs) 65)).cell? ⟨w.heap.size,0+k,none⟩=some u:=fun k u hu=>by
    rw[Nat.zero_add,cell_of_row _ w.heap.size k _ 65 (0,0) hblk];have hk':=(ZZb.1 hu).1;rw[Array.getElem?_append_left (by simpa using hk')];simpa using hu
   rcases Nat.lt_or_ge j n with hj|hj
   · rw[List.getElem?_append_left (by omega)]at hy;obtain⟨ka',kn',kc',va',vn',vc',c0,c1,r1,b1,r2,b2⟩:=hcell j y hy;exact⟨ka',kn',kc',va',vn',vc',hcl _ _ (by rw[List.getElem?_append_left (show j*2<olds.length by omega)];exact c0),hcl _ _ (by rw[List.getElem?_append_left (show j*2+1<olds.length by omega)];exact c1),r1.below hbel,b1,r2.below hbel,b2⟩
   · have hjn:j=n:=by
      have:=(ZZb.1 hy).1
      simp at this;omega
     subst hjn;rw[List.getElem?_append_right (by omega),hl,Nat.sub_self]at hy;obtain rfl:x=y:=by simpa using hy
     exact⟨ka,kn,kc,va,vn,vc,hcl _ _ (by rw[List.getElem?_append_right (show olds.length<=j*2 by omega),hol,Nat.sub_self];rfl),hcl _ _ (by rw[List.getElem?_append_right (show olds.length<=j*2+1 by omega),hol,show j*2+1-j*2=1 by omega];rfl),hk.below hbel,hkc,hv.below hbel,hvc⟩
end
theorem ZnD{w:World}{A:Option Addr}{n c:Nat}(hc:n<=c):Calls prog 216 #[.slice A n c] w fun e w'=>e=.returned (.slice A n n)/\w=w':=by
 go_enter func216,ntmps216;go_wp2;go_ret;exact⟨rfl,rfl⟩
theorem Zca{P:Program}{ops:Array Oper}{o:Oper}{a:Act}{w:World}{K:Act->World->Prop}{Q:Exit->Act->World->Prop}{E:Prop}(hgd:o.guard=none)(s x:Operand)(t tn:TypeId)
 (ho:o.op=.call {callee:=.builtin .append,args:=#[s,x],argTypes:=#[t,tn]}) (v u:Value) (hs:a.eval s=v) (hx:a.eval x=u) {v':Value} {w':World}
 (hrun:(Builtin.append_ #[t,tn] o.type #[v,u]).run P w=.ok v' w') (h:K (a.put o.dst v') w') :
 if Region.wanted o (yielded ops a.tmps)=true then Oper.wp P o a w K Q else E:=by
 have hw:Region.wanted o (yielded ops a.tmps)=true:=by simp[Region.wanted,hgd]
 rw[if_pos hw];exact Lib.wp_append_run w s x t tn ho v u hs hx _ _ hrun h
theorem Zc0{w:World}{G:Nat->Prop}{l:Zw}{A ka va:Option Addr}{n c kn kc vn vc:Nat}{x:KV}(hc:n<=c)(h:Zp w G A n l.ps)(hG:∀k,G k->k<w.heap.size)(hk:BIn w G ka kn x.1)(hv:BIn w G va vn x.2)(hkc:kn<=kc/\kn<=maxLen)(hvc:vn<=vc/\vn<=maxLen)(hn:n<=4294967296) :
 Calls prog 162 #[.agg #[.int .i64 l.pg,.int .i64 l.d,.int .i64 l.x,.slice A n c],.agg #[.slice ka kn kc,.slice va vn vc]] w fun e w'=>∃v,e=.returned v/\Zd9 w' G v ⟨l.pg,l.d,l.x,l.ps++[x]⟩/\Below w.heap.size w w':=by
 obtain⟨pg,d,xx,ps⟩:=l;have hX1:Below w.heap.size w (w.alloc (.cells #[.int .i64 pg,.int .i64 d,.int .i64 xx,.slice A n c] 104)):=(Below.refl _ _).alloc (ZZe _) _;have hX2:=hX1.alloc hX1.size (.cells #[.slice ka kn kc,.slice va vn vc] 65);have hX3:=hX2.alloc hX2.size (.cells #[.int .i64 0,.int .i64 0,.int .i64 0,.slice none 0 0] 104);have b0:=heap_alloc_new w (.cells #[.int .i64 pg,.int .i64 d,.int .i64 xx,.slice A n c] 104);have b1:=heap_alloc_new (w.alloc (.cells #[.int .i64 pg,.int .i64 d,.int .i64 xx,.slice A n c] 104)) (.cells #[.slice ka kn kc,.slice va vn vc] 65);have b2:=heap_alloc_new ((w.alloc (.cells #[.int .i64 pg,.int .i64 d,.int .i64 xx,.slice A n c] 104)).alloc (.cells #[.slice ka kn kc,.slice va vn vc] 65)) (.cells #[.int .i64 0,.int .i64 0,.int .i64 0,.slice none 0 0] 104);have s1:(w.alloc (.cells #[.int .i64 pg,.int .i64 d,.int .i64 xx,.slice A n c] 104)).heap.size=w.heap.size+1:=by simp
 have s2:((w.alloc (.cells #[.int .i64 pg,.int .i64 d,.int .i64 xx,.slice A n c] 104)).alloc (.cells #[.slice ka kn kc,.slice va vn vc] 65)).heap.size=w.heap.size+1+1:=by simp
 rw[s1]at b1;rw[s2]at b2;have c1:=(Below.heap_alloc ((w.alloc (.cells #[.int .i64 pg,.int .i64 d,.int .i64 xx,.slice A n c] 104)).alloc (.cells #[.slice ka kn kc,.slice va vn vc] 65)) (.cells #[.int .i64 0,.int .i64 0,.int .i64 0,.slice none 0 0] 104) (w.heap.size+1) (by rw[s2];omega)).trans b1;have c0:=(Below.heap_alloc ((w.alloc (.cells #[.int .i64 pg,.int .i64 d,.int .i64 xx,.slice A n c] 104)).alloc (.cells #[.slice ka kn kc,.slice va vn vc] 65)) (.cells #[.int .i64 0,.int .i64 0,.int .i64 0,.slice none 0 0] 104) w.heap.size (by rw[s2];omega)).trans ((Below.heap_alloc _ (.cells #[.slice ka kn kc,.slice va vn vc] 65) w.heap.size (by rw[s1];omega)).trans b0);have s3:(((w.alloc (.cells #[.int .i64 pg,.int .i64 d,.int .i64 xx,.slice A n c] 104)).alloc (.cells #[.slice ka kn kc,.slice va vn vc] 65)).alloc (.cells #[.int .i64 0,.int .i64 0,.int .i64 0,.slice none 0 0] 104)).heap.size=w.heap.size+3:=by simp
 clear b0 b1 hX1 hX2 s1 s2;have HBX:=hid hX3;go_enter func162,ntmps162;go_wp2_with fail;generalize (((w.alloc (.cells #[.int .i64 pg,.int .i64 d,.int .i64 xx,.slice A n c] 104)).alloc (.cells #[.slice ka kn kc,.slice va vn vc] 65)).alloc (.cells #[.int .i64 0,.int .i64 0,.int .i64 0,.slice none 0 0] 104))=X at *;have hb4:Below X.heap.size X (X.alloc (.cells #[.slice ka kn kc,.slice va vn vc] 65)).drew:=((Below.refl _ _).alloc (ZZe _) _).drew;have hb4w:=hX3.trans (hb4.mono hX3.size)
 have hG1:∀k,k<w.heap.size->¬G k->¬(G k∨(w.heap.size<=k/\k<w.heap.size+3)):=fun k hk hg hg'=>by
  rcases hg' with a|a
  · exact hg a
  · omega
 obtain⟨g,cc,w2,hrun,hcc,hst2,hb2⟩:=Zml (G:=fun k=>G k∨(w.heap.size<=k/\k<w.heap.size+3)) (b:=X.heap.size) (kc:=kc) (vc:=vc) (h.grow hb4w.size (fun k hk _=>hb4w.block k hk) hG1) (fun k hk=>by
  have:=hb4.size
  rcases hk with a|a
  · exact ZZd (hG k a) hb4w.size
  · omega) (hk.grow hb4w.size (fun k hk _=>hb4w.block k hk) hG1) (hv.grow hb4w.size (fun k hk _=>hb4w.block k hk) hG1) hkc hvc (heap_alloc_new X _) hn 31
 have hb2w:=hb4w.trans (hb2.mono hb4w.size);have hkeep:∀k,k<X.heap.size->w2.heap[k]?=X.heap[k]?:=fun k hk=>(hb2.block k (ZZd hk hb4.size)).trans (hb4.block k hk)
 have d0:=(hkeep w.heap.size (by omega)).trans c0;have d2:=(hkeep (w.heap.size+1+1) (by omega)).trans b2;obtain⟨x0,x1,x2,x3,fx,_⟩:=Za c0;obtain⟨y0,y1,y2,y3,fy,_⟩:=Za d0;have e0:X.cell? ⟨w.heap.size+1,0,none⟩=some (.slice ka kn kc):=by rw[cell_of_row X _ 0 _ _ (0,0) c1];rfl
 have e1:X.cell? ⟨w.heap.size+1,1,none⟩=some (.slice va vn vc):=by rw[cell_of_row X _ 1 _ _ (0,0) c1];rfl
 have fy3:=fy 3;have d0s:=heap_setCell_same w2 w.heap.size 3 _ _ (.slice (some ⟨g,0,none⟩) (n+1) cc) d0;have HRUN:=hid hrun;have HEND:=hid (ZZg d0s (ZZg ((Below.heap_setCell w2 ⟨w.heap.size,3,none⟩ (.slice (some ⟨g,0,none⟩) (n+1) cc) (w.heap.size+1+1) (by simp;omega)).trans d2) (ZZg hst2 hb2w)));clear d0s d2 b2 d0 c0 c1 fx fy hrun hst2 hb2 hkeep hb4 hb4w hb2w hX3 h hk hv hG s3
 go_region_law (first
  | (refine Zca rfl (.tmp 8) (.tmp 10) _ _ rfl _ _ (by rfl) (by rfl) HRUN.out ?_)
  | (go_simp;go_at_call 216;refine(ZnD hc).mono ?_;rintro e w1 ⟨rfl,rfl⟩))
 all_goals
  obtain⟨W,hW⟩:∃W,W=w2.setCell ⟨w.heap.size,3,none⟩ (.slice (some ⟨g,0,none⟩) (n+1) cc):=⟨_,rfl⟩
  rw[<-hW];obtain⟨r0,r2,rs,rb⟩:=HEND.out;rw[<-hW]at r0 r2;have hWs:Zp W (fun k=>G k∨(w.heap.size<=k/\k<w.heap.size+3)) (some ⟨g,0,none⟩) (n+1) (ps++[x]):=by rw[hW];exact rs.setCell (p:=⟨w.heap.size,3,none⟩) (.inr ⟨ZZe _,by simp⟩) _
  have hWb:Below w.heap.size w W:=by rw[hW];exact rb.setCell (ZZe _) _
  have r0':W.heap[w.heap.size]?=some (.cells #[.int .i64 pg,.int .i64 d,.int .i64 xx,.slice (some ⟨g,0,none⟩) (n+1) cc] 104 (0,0)):=r0;clear hW r0 rs rb x0 x1 x2 x3 y0 y1 y2 y3 e0 e1 fy3 HRUN HEND;obtain⟨x0,x1,x2,x3,_,_⟩:=Za r0';obtain⟨y0,y1,y2,y3,fy,_⟩:=Za r2;have f0:=fy 0;have f1:=fy 1;have f2:=fy 2;have f3:=fy 3;have HFIN:=hid (ZZg (Zbf r2 (.int .i64 pg) (.int .i64 d) (.int .i64 xx) (.slice (some ⟨g,0,none⟩) (n+1) cc)) (ZZg (Zag hWb (Nat.le_add_right _ 2) (.int .i64 pg) (.int .i64 d) (.int .i64 xx) (.slice (some ⟨g,0,none⟩) (n+1) cc)) (show Zp ((((W.setCell ⟨w.heap.size+1+1,0,none⟩ (.int .i64 pg)).setCell ⟨w.heap.size+1+1,1,none⟩ (.int .i64 d)).setCell ⟨w.heap.size+1+1,2,none⟩ (.int .i64 xx)).setCell ⟨w.heap.size+1+1,3,none⟩ (.slice (some ⟨g,0,none⟩) (n+1) cc)) G (some ⟨g,0,none⟩) (n+1) (ps++[x])from((((hWs.setCell (p:=⟨w.heap.size+1+1,0,none⟩) (.inr ⟨by simp;omega,by simp⟩) (.int .i64 pg)).setCell (p:=⟨w.heap.size+1+1,1,none⟩) (.inr ⟨by simp;omega,by simp⟩) (.int .i64 d)).setCell (p:=⟨w.heap.size+1+1,2,none⟩) (.inr ⟨by simp;omega,by simp⟩) (.int .i64 xx)).setCell (p:=⟨w.heap.size+1+1,3,none⟩) (.inr ⟨by simp;omega,by simp⟩) (.slice (some ⟨g,0,none⟩) (n+1) cc)).grow (ZZe _) (fun _ _ _=>rfl) (fun k _ h1 h2=>h1 (.inl h2)))));clear fy r0' r2 hWs hWb;go_wp2;generalize ((((W.setCell ⟨w.heap.size+1+1,0,none⟩ (.int .i64 pg)).setCell ⟨w.heap.size+1+1,1,none⟩ (.int .i64 d)).setCell ⟨w.heap.size+1+1,2,none⟩ (.int .i64 xx)).setCell ⟨w.heap.size+1+1,3,none⟩ (.slice (some ⟨g,0,none⟩) (n+1) cc))=V at *;obtain⟨d0,d1,d2,d3,_⟩:=Za HFIN.out.1
  refine bodyPost_ret (v:=.agg #[.int .i64 pg,.int .i64 d,.int .i64 xx,.slice (some ⟨g,0,none⟩) (n+1) cc]) (by
   simp[results,Tryz.results162,go_sem,d0,d1,d2,d3]) rfl ?_
  exact⟨_,rfl,⟨_,_,_,rfl,hcc,by unfold maxLen;omega,HFIN.out.2.2⟩,HFIN.out.2.1⟩
def ZiV(cs:Array Value)(o:Nat):List Value->Array Value | []=>cs|v::vs=>ZiV (cs.setIfInBounds o v) (o+1) vs
theorem Zhb:∀(vs:List Value) (cs:Array Value) (o:Nat),(ZiV cs o vs).size=cs.size
 | [],_,_=>rfl
 | v::vs,cs,o=>by rw[ZiV,Zhb];simp
theorem Zgd:∀(vs:List Value) (cs:Array Value) (o k:Nat),o+vs.length<=cs.size->(ZiV cs o vs)[k]?=if o<=k/\k<o+vs.length then vs[k-o]? else cs[k]?
 | [],cs,o,k,_=>by rw[ZiV,if_neg (by rw[List.length_nil];omega)]
 | v::vs,cs,o,k,h=>by
  rw[List.length_cons]at h;rw[ZiV,Zgd vs _ (o+1) k (by simp;omega)];by_cases h1:o+1<=k/\k<o+1+vs.length
  · rw[if_pos h1,if_pos (by rw[List.length_cons];omega),show k-o=(k-(o+1))+1 by omega,List.getElem?_cons_succ]
  · rw[if_neg h1];by_cases h2:k=o
    · subst h2;rw[if_pos (by rw[List.length_cons];omega),Nat.sub_self,List.getElem?_cons_zero,Array.getElem?_setIfInBounds_self_of_lt (by omega)]
    · rw[if_neg (by rw[List.length_cons];omega),Array.getElem?_setIfInBounds_ne (Ne.symm h2)]
theorem Zdu{b:Nat}{T:TypeId}:∀(vs:List Value) (o:Nat) (w:World) (cs:Array Value),w.heap[b]?=some (.cells cs T (0,0))->(w.setCells b o vs).heap[b]?=some (.cells (ZiV cs o vs) T (0,0))/\(w.setCells b o vs).heap.size=w.heap.size/\∀k,k≠b->(w.setCells b o vs).heap[k]?=w.heap[k]?
 | [],o,w,cs,h=>⟨h,rfl,fun _ _=>rfl⟩
 | v::vs,o,w,cs,h=>by
  have h1:=heap_setCell_same w b o cs T v h;obtain⟨q1,q2,q3⟩:=Zdu vs (o+1) _ _ h1;exact⟨q1,q2.trans (by simp[World.setCell]),fun k hk=>(q3 k hk).trans (Below.heap_setCell w ⟨b,o,none⟩ v k (fun e=>hk e))⟩
theorem Zea{B b:Nat}(hb:B<=b):∀(vs:List Value) (o:Nat) {a w:World},Below B a w->Below B a (w.setCells b o vs)
 | [],_,_,_,h=>h
 | v::vs,o,_,_,h=>Zea hb vs (o+1) (h.setCell (p:=⟨b,o,none⟩) hb v)
def Zcb(w:World)(G:Nat->Prop)(vs:List Value)(ps:List KV):Prop:=vs.length=ps.length*2/\∀(j:Nat) (y:KV),ps[j]?=some y->∃(ka:Option Addr) (kn kc:Nat) (va:Option Addr) (vn vc:Nat),vs[j*2]?=some (.slice ka kn kc)/\vs[j*2+1]?=some (.slice va vn vc)/\BIn w G ka kn y.1/\(kn<=kc/\kn<=maxLen)/\BIn w G va vn y.2/\(vn<=vc/\vn<=maxLen)
theorem Zcb.below{w w':World}{G:Nat->Prop}{vs:List Value}{ps:List KV}(h:Zcb w G vs ps)(hb:Below w.heap.size w w'):Zcb w' G vs ps:=by
 refine⟨h.1,fun j y hy=>?_⟩;obtain⟨ka,kn,kc,va,vn,vc,c0,c1,r1,b1,r2,b2⟩:=h.2 j y hy;exact⟨ka,kn,kc,va,vn,vc,c0,c1,r1.below hb,b1,r2.below hb,b2⟩
theorem Zcb.grow{w w':World}{G G':Nat->Prop}{vs:List Value}{ps:List KV}(h:Zcb w G vs ps)(hs:w.heap.size<=w'.heap.size)(hk:∀k,k<w.heap.size->¬G k->w'.heap[k]?=w.heap[k]?)(hG:∀k,k<w.heap.size->¬G k->¬G' k):Zcb w' G' vs ps:=by
 refine⟨h.1,fun j y hy=>?_⟩;obtain⟨ka,kn,kc,va,vn,vc,c0,c1,r1,b1,r2,b2⟩:=h.2 j y hy;exact⟨ka,kn,kc,va,vn,vc,c0,c1,r1.grow hs hk hG,b1,r2.grow hs hk hG,b2⟩
theorem Zcb.one{w:World}{G:Nat->Prop}{vs:List Value}{ps:List KV}(h:Zcb w G vs ps):∀u∈vs,u.oneCell'=true:=fun u hu=>by
 obtain⟨k,hk,rfl⟩:=List.getElem_of_mem hu;obtain⟨y,hy⟩:∃y,ps[k/2]?=some y:=⟨_,ZZc (by have:=h.1;omega)⟩
 obtain⟨ka,kn,kc,va,vn,vc,c0,c1,_⟩:=h.2 _ y hy;rcases Nat.mod_two_eq_zero_or_one k with e|e
 · rw[show k/2*2=k by omega,ZZc hk]at c0;injection c0 with c0;rw[c0];rfl
 · rw[show k/2*2+1=k by omega,ZZc hk]at c1;injection c1 with c1;rw[c1];rfl
theorem PIn.olds{w:World}{G:Nat->Prop}{A:Option Addr}{n:Nat}{ps:List KV}(h:PIn w G A n ps)(hn:0<n):∃vs ad,Zcb w G vs ps/\A=some ad/\∀(j:Nat) (u:Value),vs[j]?=some u->w.cell? (ad.add j)=some u:=by
 obtain⟨hl,hp⟩:=h;obtain⟨b',off,rfl,hb',hgb,hall⟩:=hp hn
 have hcl:∀j,j<n*2->∃u,w.cell? ⟨b',off+j,none⟩=some u:=fun j hj=>by
  obtain⟨y,hy⟩:∃y,ps[j/2]?=some y:=⟨_,ZZc (by omega)⟩
  obtain⟨_,_,_,_,_,_,c0,c1,_⟩:=hall _ y hy;rcases Nat.mod_two_eq_zero_or_one j with e|e
  · exact⟨_,by rw[show off+j=off+j/2*2 by omega];exact c0⟩
  · exact⟨_,by rw[show off+j=off+j/2*2+1 by omega];exact c1⟩
 have hget:∀j,j<n*2->((List.range (n*2)).map fun j=>(w.cell? ⟨b',off+j,none⟩).getD (.bool false))[j]?=w.cell? ⟨b',off+j,none⟩:=fun j hj=>by
  obtain⟨u,hu⟩:=hcl j hj;rw[List.getElem?_map,List.getElem?_range hj,Option.map_some,hu,Option.getD_some]
 refine⟨(List.range (n*2)).map fun j=>(w.cell? ⟨b',off+j,none⟩).getD (.bool false),_,⟨by simp[hl],fun j y hy=>?_⟩,rfl,fun j v hv=>?_⟩
 · obtain⟨ka,kn,kc,va,vn,vc,c0,c1,r⟩:=hall j y hy;have hj:j<n:=by rw[<-hl];exact(ZZb.1 hy).1
   exact⟨ka,kn,kc,va,vn,vc,by rw[hget _ (by omega)];exact c0,by rw[hget _ (by omega),<-Nat.add_assoc];exact c1,r⟩
 · have hj:j<n*2:=by
    have:=(ZZb.1 hv).1
    simpa using this
   rw[hget j hj]at hv;rw[ZdL];exact hv
theorem Zcb.pin{w:World}{G:Nat->Prop}{vs:List Value}{ps:List KV}{g:Nat}{cs:Array Value}(h:Zcb w G vs ps)(hg:w.heap[g]?=some (.cells cs 65 (0,0)))(hgG:¬G g)(hc:∀(k:Nat) (u:Value),vs[k]?=some u->cs[k]?=some u):PIn w G (some ⟨g,0,none⟩) ps.length ps:=by
 refine⟨rfl,fun _=>⟨g,0,rfl,(ZZa.1 hg).1,hgG,fun j y hy=>?_⟩⟩;obtain⟨ka,kn,kc,va,vn,vc,c0,c1,r⟩:=h.2 j y hy;exact⟨ka,kn,kc,va,vn,vc,by rw[Nat.zero_add,cell_of_row w g _ cs _ (0,0) hg];exact hc _ _ c0,by rw[Nat.zero_add,cell_of_row w g _ cs _ (0,0) hg];exact hc _ _ c1,r⟩
theorem Zmm{w:World}{G:Nat->Prop}{A:Option Addr}{n c:Nat}{ps:List KV}(h:Zp w G A n ps)(hn0:0<n)(hn:n<=4294967296) :
 Calls prog 215 #[.slice A n c] w fun e w'=>∃g c' vs cs,e=.returned (.slice (some ⟨g,0,none⟩) n c')/\n<=c'/\w.heap.size<=g/\w'.heap[g]?=some (.cells cs 65 (0,0))/\Zcb w' G vs ps/\(∀(k:Nat) (u:Value),vs[k]?=some u->cs[k]?=some u)/\Below w.heap.size w w':=by
 have q22:∀(w:World) (a:Option Addr) (n c n' c':Nat),(binOp .eql 31 (.slice a n c) (.slice none n' c')).run prog w=.ok (.bool a.isNone) w:=fun w a n c n' c'=>Lib.run_eql_slice_nil w _ _ a n c n' c' underlying31
 obtain⟨i0,hi,hz0,hz1,hz2⟩:=info_parts ZdP;obtain⟨vs,ad,hvs,rfl,hcell⟩:=h.pin.olds hn0;have hl:ps.length=n:=h.now.len;have hX:Below w.heap.size w (w.alloc (.cells #[] 65)):=(Below.refl _ _).alloc (ZZe _) _
 have hrun:=run_append_grow_src (P:=prog) (w:=w.alloc (.cells #[] 65)) 31 31 31 65 i0 _ underlying31 hi hz0 (some ⟨w.heap.size,0,none⟩) 0 0 [] (run_firstCells_some (P:=prog) _ i0.size 0 ⟨w.heap.size,0,none⟩ 0 0 [] (by simp) (fun j v h=>by cases h)) (.slice (some ad) n c) n vs (Src.ofSlice _ underlying31 ad n c vs (by rw[hz1,hvs.1,hl]) (fun j u hj=>by
  have:=hcell j u hj
  exact(hX.cell (World.block_lt_of_cell? _ _ this)).trans this) hvs.one) (by omega) (by omega) (by rw[hz2];exact growslice_fits (by omega) (by omega))
 have hge:=grownCap_ge (w.alloc (.cells #[] 65)) (0+n) 0 65;generalize grownCap (w.alloc (.cells #[] 65)) (0+n) 0 65=cap at hrun hge;generalize hz:Builtin.zeroCells (Value.agg #[.slice none 0 0,.slice none 0 0]).cells (cap-(0+n))=zs at hrun;simp only[Nat.zero_add,List.nil_append]at hrun hge;have hblk:=heap_alloc_new (w.alloc (.cells #[] 65)).drew (.cells (vs.toArray++zs) 65);have hs1:(w.alloc (.cells #[] 65)).drew.heap.size=w.heap.size+1:=by simp
 have hs1':(w.alloc (.cells #[] 65)).heap.size=w.heap.size+1:=by simp
 rw[hs1]at hblk;rw[hs1']at hrun;have hb2:Below w.heap.size w ((w.alloc (.cells #[] 65)).drew.alloc (.cells (vs.toArray++zs) 65)):=hX.drew.alloc hX.size _;have HRUN:=hid hrun
 have HEND:=hid (ZZg hblk (ZZg (hvs.below hb2) (ZZg (show ∀(k:Nat) (u:Value),vs[k]?=some u->(vs.toArray++zs)[k]?=some u from fun k u hu=>by
  have:=(ZZb.1 hu).1
  rw[Array.getElem?_append_left (by simpa using this)]
  simpa using hu) hb2)))
 clear hvs hcell hX hblk hs1 hs1' hb2 hrun h hl;go_enter func215,ntmps215
 go_wp2_with (at_builtin;refine Lib.wpList_append_run _ rfl _ _ _ _ rfl _ _ rfl rfl _ _ HRUN.out ?_)
 go_ret;exact⟨_,_,_,_,rfl,hge,ZZh _,HEND.out.1,HEND.out.2.1,HEND.out.2.2.1,HEND.out.2.2.2⟩
theorem ZnE{w:World}{b o c:Nat}{cs:Array Value}(h:w.heap[b]?=some (.cells cs 65 (0,0)))(ho:o+2<=cs.size)(ty:TypeId):(Builtin.clear_ #[31] ty #[.slice (some ⟨b,o,none⟩) 1 c]).run prog w=.ok (.tuple #[]) (w.setCells b o [.slice none 0 0,.slice none 0 0]):=by
 obtain⟨i0,hi,hz0,hz1,hz2⟩:=info_parts ZdP
 have hc:∀j,j<2->(w.cell? ⟨b,o+j,none⟩).isSome=true:=fun j hj=>by
  rw[cell_of_row w b (o+j) cs _ (0,0) h,Array.getElem?_eq_getElem (by omega)];rfl
 have hf:∀j,w.frozen? ⟨b,o+j,none⟩=false:=fun j=>by simp[World.frozen?,h]
 have hst:=run_storeCells_cells (P:=prog) b o [.slice none 0 0,.slice none 0 0] 0 w (by simpa using hc) (fun j _=>hf _) (by intro v hv;simp at hv;rw[hv];rfl);simp only[Nat.add_zero]at hst
 have hzv:∀w:World,(zeroValue 65).run prog w=.ok (.agg #[.slice none 0 0,.slice none 0 0]) w:=fun w=>by
  simp[zeroValue,typeInfo,hi,hz0]
 have hl:(List.map (fun i=>[Value.slice none 0 0,Value.slice none 0 0][i%2]?.getD default) (List.range 2)) = [Value.slice none 0 0,Value.slice none 0 0]:=rfl;simp[Builtin.clear_,run_underlying underlying31,hzv,Builtin.zeroCells,Value.cells];rw[hl,hst];rfl
theorem Zkp{w:World}{G:Nat->Prop}{m c g i:Nat}{ps:List KV}{vs:List Value}{cs:Array Value}(hvs:Zcb w G vs ps)(hg:w.heap[g]?=some (.cells cs 65 (0,0)))(hcs:∀(k:Nat) (u:Value),vs[k]?=some u->cs[k]?=some u)(hl:ps.length=m+1)(hi:i<=m)(hc:m+1<=c)(hG:G g)(hm:m<=4294967296) :
 Calls prog 214 #[.slice (some ⟨g,0,none⟩) (m+1) c,.int .i64 (i:Int),.int .i64 ((i+1:Nat):Int)] w fun e w'=>∃vs' cs',e=.returned (.slice (some ⟨g,0,none⟩) m c)/\w'.heap[g]?=some (.cells cs' 65 (0,0))/\Zcb w' G vs' (ps.eraseIdx i)/\(∀(k:Nat) (u:Value),vs'[k]?=some u->cs'[k]?=some u)/\w'.heap.size=w.heap.size/\(∀k,k≠g->w'.heap[k]?=w.heap[k]?)/\Below g w w':=by
 obtain⟨i0,hi0,hz0,hz1,hz2⟩:=info_parts ZdP;have hvl:vs.length=(m+1)*2:=by rw[hvs.1,hl]
 have hcl:vs.length<=cs.size:=by
  rcases Nat.eq_zero_or_pos vs.length with h0|h0
  · omega
  · have:=hcs (vs.length-1) _ (ZZc (by omega))
    have:=(ZZa.1 this).1
    omega
 obtain⟨news,hnews⟩:∃news,news=vs.drop ((i+1)*2):=⟨_,rfl⟩
 have hnl:news.length=(m-i)*2:=by rw[hnews,List.length_drop];omega
 have hsrc:∀(j:Nat) (u:Value),news[j]?=some u->w.drew.cell? (Addr.add ⟨g,(i+1)*2,none⟩ j)=some u:=fun j u hj=>by
  rw[hnews,List.getElem?_drop]at hj;rw[ZdL];show w.cell? _=_;rw[cell_of_row w g _ cs _ (0,0) hg];exact hcs _ _ hj
 have hroom:∀(A:Addr) (cc:Nat),(0<m-i->A=⟨g,(i+1)*2,none⟩)->∀ty,(Builtin.append_ #[31,31] ty #[.slice (some ⟨g,0,none⟩) i c,.slice (some A) (m-i) cc]).run prog w.drew=.ok (.slice (some ⟨g,0,none⟩) m c) (w.drew.setCells g (0+i*i0.size) news):=fun A cc hA ty=>by
  have:=run_append_room_cells (P:=prog) (w:=w.drew) 31 ty 65 i0 underlying31 hi0 g 0 i c A (m-i) cc news (by rw[hz1,hnl]) (fun j u hj=>by
   have h0:0<m-i:=by
    have:=(ZZb.1 hj).1
    omega
   rw[hA h0]
   exact hsrc j u hj) (fun u hu=>hvs.one u (by rw[hnews]at hu;exact List.mem_of_mem_drop hu)) (by omega) (fun j hj=>by
   show(w.cell? _).isSome=true
   rw[cell_of_row w g _ cs _ (0,0) hg,Array.getElem?_eq_getElem (by rw[hz1];omega)]
   rfl) (fun j hj=>by
   show w.frozen? _=false
   simp[World.frozen?,hg])
  rw[show i+(m-i)=m by omega]at this;exact this
 have hg':w.drew.heap[g]?=some (.cells cs 65 (0,0)):=hg;obtain⟨b1,b2,b3⟩:=Zdu news (0+i*i0.size) w.drew cs hg';have hsz1:(ZiV cs (0+i*i0.size) news).size=cs.size:=Zhb _ _ _;have hclr:=ZnE (o:=m*2) (c:=c-m) b1 (by rw[hsz1];omega) 0;obtain⟨d1,d2,d3⟩:=Zdu [.slice none 0 0,.slice none 0 0] (m*2) _ _ b1
 have HFIN:=hid (show ∃vs' cs',((w.drew.setCells g (0+i*i0.size) news).setCells g (m*2) [.slice none 0 0,.slice none 0 0]).heap[g]?=some (.cells cs' 65 (0,0))/\Zcb ((w.drew.setCells g (0+i*i0.size) news).setCells g (m*2) [.slice none 0 0,.slice none 0 0]) G vs' (ps.eraseIdx i)/\(∀(k:Nat) (u:Value),vs'[k]?=some u->cs'[k]?=some u)/\((w.drew.setCells g (0+i*i0.size) news).setCells g (m*2) [.slice none 0 0,.slice none 0 0]).heap.size=w.heap.size/\(∀k,k≠g->((w.drew.setCells g (0+i*i0.size) news).setCells g (m*2) [.slice none 0 0,.slice none 0 0]).heap[k]?=w.heap[k]?)/\Below g w ((w.drew.setCells g (0+i*i0.size) news).setCells g (m*2) [.slice none 0 0,.slice none 0 0])from by
  have hk:∀k,k≠g->((w.drew.setCells g (0+i*i0.size) news).setCells g (m*2) [.slice none 0 0,.slice none 0 0]).heap[k]?=w.heap[k]?:=fun k hk=>(d3 k hk).trans (b3 k hk)
  have hs:((w.drew.setCells g (0+i*i0.size) news).setCells g (m*2) [.slice none 0 0,.slice none 0 0]).heap.size=w.heap.size:=d2.trans b2;have hgr:∀{A:Option Addr} {n:Nat} {l:List Int},BIn w G A n l->BIn ((w.drew.setCells g (0+i*i0.size) news).setCells g (m*2) [.slice none 0 0,.slice none 0 0]) G A n l:=fun h=>h.grow (by rw[hs];exact ZZe _) (fun k _ hkG=>hk k (fun e=>hkG (by rw[e];exact hG))) (fun _ _ h=>h)
  refine⟨vs.take (i*2)++news,_,d1,⟨?_,fun j y hy=>?_⟩,fun k u hu=>?_,hs,hk,Zea (ZZe g) _ _ (Zea (ZZe g) _ _ ((Below.refl g w).drew))⟩
  · rw[List.length_append,List.length_take,hnl,List.length_eraseIdx,if_pos (by omega)];omega
  · rw[List.getElem?_eraseIdx]at hy;by_cases hj:j<i
    · rw[if_pos hj]at hy;obtain⟨ka,kn,kc,va,vn,vc,c0,c1,r1,q1,r2,q2⟩:=hvs.2 j y hy;have hlt:(vs.take (i*2)).length=i*2:=by rw[List.length_take];omega
      exact⟨ka,kn,kc,va,vn,vc,by rw[List.getElem?_append_left (by omega),List.getElem?_take,if_pos (by omega)];exact c0,by rw[List.getElem?_append_left (by omega),List.getElem?_take,if_pos (by omega)];exact c1,hgr r1,q1,hgr r2,q2⟩
    · rw[if_neg hj]at hy;obtain⟨ka,kn,kc,va,vn,vc,c0,c1,r1,q1,r2,q2⟩:=hvs.2 (j+1) y hy;have hlt:(vs.take (i*2)).length=i*2:=by rw[List.length_take];omega
      refine⟨ka,kn,kc,va,vn,vc,?_,?_,hgr r1,q1,hgr r2,q2⟩
      · rw[List.getElem?_append_right (by omega),hlt,hnews,List.getElem?_drop,show(i+1)*2+(j*2-i*2)=(j+1)*2 by omega];exact c0
      · rw[List.getElem?_append_right (by omega),hlt,hnews,List.getElem?_drop,show(i+1)*2+(j*2+1-i*2)=(j+1)*2+1 by omega];exact c1
  · have hklt:=(ZZb.1 hu).1;rw[List.length_append,List.length_take,hnl]at hklt;rw[Zgd _ _ _ _ (by rw[hsz1];simp;omega),if_neg (by simp;omega),Zgd _ _ _ _ (by rw[hz1,hnl];omega)];have hlt:(vs.take (i*2)).length=i*2:=by rw[List.length_take];omega
    rw[hz1];by_cases hk2:0+i*2<=k/\k<0+i*2+news.length
    · rw[if_pos hk2];rw[List.getElem?_append_right (by omega),hlt]at hu;rw[show k-(0+i*2)=k-i*2 by omega];exact hu
    · rw[if_neg hk2];rw[List.getElem?_append_left (by omega),List.getElem?_take,if_pos (by omega)]at hu
      exact hcs k u hu)
 have HRUN:=hid hroom;have HCLR:=hid hclr;have k1:¬c=i:=by omega
 have k3:i<=c:=by omega
 have k4:(0:Int)<=(i:Int)+1:=by omega
 have k5:¬c=m:=by omega
 generalize w.drew.setCells g (0+i*i0.size) news=W1 at *;generalize W1.setCells g (m*2) [.slice none 0 0,.slice none 0 0]=W2 at *;clear hvs hg hcs hl hvl hcl hnews hnl hsrc hroom hg' b1 b2 b3 hsz1 hclr d1 d2 d3 hi0 hz0 hz1 hz2;by_cases k2:c=i+1
 · have k6:m=i:=by omega
   subst k6;subst k2;go_enter func214,ntmps214;have k7:(m:Int)<=(m:Int)+1:=by omega
   have HRUN0:=hid (HRUN.out ⟨g,0,none⟩ 0 (fun h=>absurd h (by omega)) 31);rw[Nat.sub_self]at HRUN0;have hcl:=HCLR.out;rw[show m+1-m=1 by omega]at hcl;clear HRUN HCLR;go_wp2_with fail
   go_region_law (refine Zca rfl (.tmp 22) (.tmp 25) _ _ rfl _ _ (by rfl) (by rfl) HRUN0.out ?_)
   all_goals go_wp2
   all_goals go_ret
   all_goals
    obtain⟨vs',cs',q1,q2,q3,q4,q5,q6⟩:=HFIN.out;exact⟨vs',cs',rfl,q1,q2,q3,q4,q5,q6⟩
 · go_enter func214,ntmps214;go_wp2_with fail
   go_region_law (refine Zca rfl (.tmp 22) (.tmp 25) _ _ rfl _ _ (by rfl) (by rfl) (HRUN.out _ _ (fun _=>rfl) _) ?_)
   have hcl:=HCLR.out
   all_goals go_wp2
   all_goals go_ret
   all_goals
    obtain⟨vs',cs',q1,q2,q3,q4,q5,q6⟩:=HFIN.out;exact⟨vs',cs',rfl,q1,q2,q3,q4,q5,q6⟩
end Go.Proofs.YtlmkdmdbpopnhaaGreatDoor
