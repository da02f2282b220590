/- ViewK, ViewD, ViewE. Conditions: in each theorem. -/
import Derived.Test.YtiknkbpojmgbhaaGreatViewC
import Derived.Test.YtiknkbpojmgbhaaGreatSortS
import Derived.Test.YtiknkbpojmgbhaaGreatGRow
import Derived.Lib.ConvBytes
import Derived.Lib.AppendZeros
set_option maxHeartbeats 6400000
set_option maxRecDepth 100000
set_option linter.unusedVariables false
open Go.Proofs.Tryz
open Go.Lib (hid)
namespace Go.Proofs.YtiknkbpojmgbhaaGreat
open Go.RowKit Go.Maps Go.Sort Go.Shelf
theorem ZkK(m:Nat):AnyZ.SortsIn prog Tryz.sortedS_ren Fence.wide m:=
 ⟨fun blk off cap ss W hH hblk hsz=>callsIn_wide.2 (AnyM.slices_Sort_string Tryz.sortS blk off cap ss W hH hblk hsz),
  fun p cap W=>callsIn_wide.2 (AnyM.slices_Sort_string_none Tryz.sortS p cap W)⟩
theorem Zcz.keys{w:World}{b n:Nat}{f:Txt->Option Value}{D:DataW Value}(hD:w.ownsMap prog 9 Zqu b n D)(hf:ZqT D f) :
 (strKeys D).Nodup/\∀i,i∈strKeys D↔f i≠none:=by
 obtain⟨es,rfl,hne,hkey⟩:=hD.entries Zcy
 have hint:∀p∈es,∃i:Txt,p.1=.string i:=by
  obtain⟨es',c,hb,Ft,hs,he⟩:=hD;intro p hp;injection he with he;rw[he]at hp;obtain⟨x,hx,rfl⟩:=List.mem_map.1 (mem_sorted.1 hp);obtain⟨y,hy⟩:=Ft.reads x hx;rw[WideElems.rg_of hy];obtain⟨i,_,e,_⟩:=Maps.keyOf_str underlying9 (WideElems.rd_key hy);exact⟨i,e⟩
 refine⟨?_,fun i=>?_⟩
 · show(es.map fun p=>strOf p.1).Nodup
   rw[List.nodup_iff_pairwise_ne,List.pairwise_map];refine hne.imp_of_mem fun {p q} hp hq hpq e=>hpq ?_
   obtain⟨i,hi⟩:=hint p hp;obtain⟨j,hj⟩:=hint q hq;rw[hi,hj]at e ⊢
   have:i=j:=e
   rw[this]
 · have h1:=(hf i).1;rw[Maps.has_eq]at h1;show i∈es.map (fun p=>strOf p.1)↔_;rw[List.mem_map];constructor
   · rintro⟨p,hp,rfl⟩ e0;obtain⟨j,hj⟩:=hint p hp;rw[hj]at e0 h1;have e1:f j=none:=e0;have h2:es.any (fun p=>p.1.sameKey (.string j))=true:=List.any_eq_true.2 ⟨p,hp,by rw[hj];simp[Lit.sameKey]⟩;have h3:es.any (fun p=>p.1.sameKey (.string j))=(f j).isSome:=h1;rw[h2,e1]at h3;cases h3
   · intro hne0
     have h2:es.any (fun p=>p.1.sameKey (.string i))=true:=by
      rw[h1]
      cases hfi:f i with
      | none=>exact absurd hfi hne0
      | some v=>rfl
     obtain⟨p,hp,hk⟩:=List.any_eq_true.1 h2;obtain⟨j,hj⟩:=hint p hp;refine⟨p,hp,?_⟩;rw[hj]at hk ⊢;simpa[Lit.sameKey,strOf] using hk
theorem Zmv{l:List Txt}(hn:l.Nodup):(l.mergeSort leB).Pairwise (fun a b=>a<b):=by
 have tr:∀a b c:Txt,leB a b=true->leB b c=true->leB a c=true:=fun a b c h1 h2=>by simp only[leB,decide_eq_true_eq]at *;exact List.le_trans h1 h2
 have to:∀a b:Txt,(leB a b||leB b a)=true:=fun a b=>by simp only[leB,Bool.or_eq_true,decide_eq_true_eq];exact List.le_total a b
 have h1:=List.pairwise_mergeSort tr to l;have h2:(l.mergeSort leB).Nodup:=(List.mergeSort_perm l leB).nodup_iff.2 hn;refine(List.pairwise_and_iff.2 ⟨h1,List.nodup_iff_pairwise_ne.1 h2⟩).imp fun {a b} h=>?_
 have h3:=h.1;simp only[leB,decide_eq_true_eq]at h3;rcases tlt_tri a b with q|q|q
 · exact q
 · exact absurd q h.2
 · exact absurd q (List.not_lt.2 h3)
theorem Zjt{l m:List Txt}(h1:l.Pairwise (fun a b=>a<b))(h2:m.Pairwise (fun a b=>a<b))(h:∀i,i∈l↔i∈m):l=m:=by
 have n1:l.Nodup:=List.nodup_iff_pairwise_ne.2 (h1.imp fun {a b} h e=>by rw[e]at h;exact ZC _ h);have n2:m.Nodup:=List.nodup_iff_pairwise_ne.2 (h2.imp fun {a b} h e=>by rw[e]at h;exact ZC _ h);exact List.Perm.eq_of_pairwise (le:=fun a b=>a<b) (fun a b _ _ h1 h2=>absurd (ZbD h1 h2) (ZC _)) h1 h2 ((List.perm_ext_iff_of_nodup n1 n2).2 h)
theorem Zmw(mb:Option Nat)(W:World):Calls prog 130 #[.map mb] W fun e w'=>e=.returned (.func (.func 216) #[] #[.pointer (some ⟨W.heap.size,0,none⟩)])/\w'=W.alloc (.cells #[.map mb] 125):=
 (callsIn_wide (n:=5)).1 (AnyZ.keys_in Tryz.keysS Fence.wide 5 trivial rfl mb W)
theorem ZhS{w:World}{base e n:Nat}{v:Value}{xs:List Value}(h:w.ownsRow base e 1 v n xs):∃A c,v=.slice A n c/\n<=c:=by
 rcases h.2 with ⟨rfl,rfl⟩|⟨g,cap,cur,rfl,hb,_,hnc,_⟩
 · exact⟨none,0,rfl,Nat.le_refl _⟩
 · exact⟨_,cap,rfl,hnc⟩
theorem Zju{w:World}{X:Nat->Prop}{b:Nat}{L:List (Txt×Option (List Int))}(h:ZbN Zd3 w X b L)(hL:ZG L)(hn:L.length<=32767) :
 Calls prog 129 #[.func (.func 216) #[] #[.pointer (some ⟨w.heap.size,0,none⟩)]] (w.alloc (.cells #[.map (some b)] 125)) fun e w'=>
  ∃(A:Option Addr) (c:Nat),e=.returned (.slice A L.length c)/\L.length<=c/\w'.ownsRow w.heap.size 9 1 (.slice A L.length c) L.length ((L.map (·.1)).map encStr)/\Below w.heap.size w w':=by
 obtain⟨f,⟨D,hD,hf⟩,h2⟩:=h;obtain⟨hnd,hmem⟩:=Zcz.keys hD hf;have hsz:=hD.size_le;have hbl:=hD.lt
 have hseq:SeqGives Fence.wide 2 prog 216 #[.pointer (some ⟨w.heap.size,0,none⟩)] encStr (fun ss=>ss.Perm (strKeys D)) (Maps.size D) (w.alloc (.cells #[.map (some b)] 125)):=
  AnyZ.keys_gives (ρ:=Tryz.keysS_ren) {Tryz.keysS with} Fence.wide _ trivial rfl (by omega) w.heap.size b L.length D _ (by simp) (by simp) (by
   obtain⟨es,clock,hb,Ft,hs,hD⟩:=hD
   exact⟨es,clock,(Below.heap_alloc _ _ b hbl).trans hb,Ft,hs,hD⟩)
 have cS:=AnyZ.sorted_in Tryz.sortedS Fence.wide 5 trivial trivial trivial trivial rfl (by omega) (ZkK _) (enters_of func215 (by kernel_rfl) rfl) 216 #[.pointer (some ⟨w.heap.size,0,none⟩)] trivial (enters_of func216 (by kernel_rfl) rfl) _ _ (by unfold maxLen;omega) (by omega) _ hseq;change CallsIn _ _ prog 129 _ _ _ at cS;refine((callsIn_wide (n:=5)).1 cS).mono ?_;rintro e w'⟨v,ss,rfl,hS,hrow,hnil,hb⟩;have hrow':=Ze9 hrow (show w.heap.size<=(w.alloc (.cells #[.map (some b)] 125)).heap.size by simp);have hp:(ss.mergeSort leB).Perm (strKeys D):=(List.mergeSort_perm ss leB).trans hS
 have hE:ss.mergeSort leB=L.map (·.1):=by
  refine Zjt (Zmv (hS.nodup_iff.2 hnd)) (List.pairwise_map.2 hL) fun i=>?_
  rw[hp.mem_iff,hmem i];constructor
  · intro hne
    cases hl:Zf L i with
    | none=>exact absurd ((h2 i).1 hl) hne
    | some c=>exact List.mem_map.2 ⟨_,Zao hl,rfl⟩
  · intro hi;obtain⟨p,hp,rfl⟩:=List.mem_map.1 hi;obtain⟨u,e,_⟩:=(h2 p.1).2 _ (hL.look (show(p.1,p.2)∈L from hp));rw[e]
    intro h;cases h
 have hl:ss.length=L.length:=by
  have:=congrArg List.length hE
  rw[List.length_mergeSort,List.length_map]at this;exact this
 have hrow2:w'.ownsRow w.heap.size 9 1 v L.length ((L.map (·.1)).map encStr):=by
  rw[<-hl,<-hE];exact hrow'
 obtain⟨A,c,rfl,hc⟩:=ZhS hrow2;exact⟨A,c,rfl,hc,hrow2,((Below.refl w.heap.size w).alloc (Nat.le_refl _) _).trans (hb.mono (by simp))⟩
end Go.Proofs.YtiknkbpojmgbhaaGreat
namespace Go.Proofs.YtiknkbpojmgbhaaGreat
open Go.RowKit Go.Maps
theorem ZhT(w:World)(x:Txt)(hx:x.length<=140737488355328):∃u w',(convert 9 99 (encStr x)).run prog w=.ok u w'/\SV w' (fun k=>k<w.heap.size) u (by_ x)/\Below w.heap.size w w':=by
 have hrun:=Lib.run_convert_string_bytes (P:=prog) w 9 99 5 ⟨x.toArray⟩ underlying9 underlying99 underlying5;have hsz:(ByteArray.mk x.toArray).size=x.length:=by simp[ByteArray.size]
 have hge:=grownCap_ge w x.length 0 5;rw[hsz]at hrun;refine⟨_,_,hrun,⟨_,_,_,rfl,hge,hx,⟨by rw[ZdG],ZhV x,fun hn=>⟨w.heap.size,0,rfl,by rw[Lib.bytesWorld_size];omega,fun j hj=>?_⟩⟩,fun a ha hn hlt=>?_⟩,⟨rfl,rfl,rfl,by rw[Lib.bytesWorld_size];omega,fun k hk=>Lib.bytesWorld_at_old _ _ _ _ hk⟩⟩
 · rw[Nat.zero_add,Lib.bytesWorld_cell _ _ _ _ (by rw[hsz];exact hj)];unfold by_;rw[List.getElem?_map,List.getElem?_eq_getElem hj];simp[List.getD,hj]
 · cases ha;exact absurd hlt (Nat.lt_irrefl _)
theorem Zjv{w:World}{b:Nat}{x0 x1:Value}(z0 z1:Value)(h0:w.cell? ⟨b,0,none⟩=some x0)(h1:w.cell? ⟨b,1,none⟩=some x1):((w.setCell ⟨b,0,none⟩ z0).setCell ⟨b,1,none⟩ z1).cell? ⟨b,0,none⟩=some z0/\((w.setCell ⟨b,0,none⟩ z0).setCell ⟨b,1,none⟩ z1).cell? ⟨b,1,none⟩=some z1:=by
 refine⟨?_,World.cell?_setCell_same' _ _ _ ?_⟩
 · rw[World.cell?_setCell_other _ _ _ _ (by simp)];exact World.cell?_setCell_same' _ _ _ (by rw[h0];rfl)
 · rw[World.cell?_setCell_other _ _ _ _ (by simp),h1];rfl
section
variable{w w':World}{X:Nat->Prop}{v m c:Nat}{S:VS}
theorem ZcV(w:World)(x:Txt)(hx:x.length<=140737488355328){A:Option Addr}{n k B:Nat}{l:List Int}(hr:RB w B A n l)(hB:B<=w.heap.size)(hn:n<=140737488355328) :
 Calls prog 132 #[encStr x,.slice A n k] w fun e w'=>∃u1 u2,e=.returned (.agg #[u1,u2])/\SV w' (fun k=>k<w.heap.size) u1 (by_ x)/\SV w' (fun k=>k<w.heap.size) u2 l/\Below w.heap.size w w':=by
 obtain⟨w1,hw1⟩:∃w1,w1=w.alloc (.cells #[.slice none 0 0,.slice none 0 0] 101 (0,0)):=⟨_,rfl⟩
 have hb1:Below w.heap.size w w1:=by rw[hw1];exact(Below.refl _ w).alloc (Nat.le_refl _) _
 have hs1:w1.heap.size=w.heap.size+1:=by rw[hw1];simp
 have hbk1:w1.heap[w.heap.size]?=some (.cells #[.slice none 0 0,.slice none 0 0] 101 (0,0)):=by rw[hw1];exact heap_alloc_new _ _
 obtain⟨u1,w2,hconv,hsv1,hb2⟩:=ZhT w1 x hx;have hbk2:=(hb2.block w.heap.size (by omega)).trans hbk1;have hb02:=hb1.trans (hb2.mono hb1.size);have HC:=hid (ZbB (w:=w2) k (hr.below (hb02.mono hB)) (by have:=hb2.size;omega) hn);have HS1:=hid hsv1;obtain⟨A1,n1,k1,rfl,_⟩:=hsv1;have HB:=hid hb02;have HK:=hid (And.intro hbk2 (And.intro hs1 hb2.size));generalize hst:encStr x=st at hconv ⊢;rw[hw1]at hconv;clear hbk1 hbk2 hb1 hb2 hb02 hs1 hr hst;go_enter func132,ntmps132;go_wp2_with fail;refine HC.out.mono ?_;rintro e w3⟨u2,rfl,hs2,hb3⟩;obtain⟨hk2,hz1,hz2⟩:=HK.out;have hk3:=(hb3.block w.heap.size (by omega)).trans hk2;have c0:w3.cell? ⟨w.heap.size,0,none⟩=some (.slice none 0 0):=by rw[cell_of_row w3 _ 0 _ _ (0,0) hk3];rfl
 have c1:w3.cell? ⟨w.heap.size,1,none⟩=some (.slice none 0 0):=by rw[cell_of_row w3 _ 1 _ _ (0,0) hk3];rfl
 have f0:w3.frozen? ⟨w.heap.size,0,none⟩=false:=by simp[World.frozen?,hk3]
 have f1:w3.frozen? ⟨w.heap.size,1,none⟩=false:=by simp[World.frozen?,hk3]
 have HS2:=hid hs2;obtain⟨A2,n2,k2,rfl,_⟩:=hs2;have HB3:=hid hb3;have HZ:=hid (And.intro hz1 hz2);clear hk2 hz1 hz2 hk3 hb3;go_wp2_with fail;obtain⟨d0,d1⟩:=Zjv (.slice A1 n1 k1) (.slice A2 n2 k2) c0 c1
 refine bodyPost_ret (v:=.agg #[.slice A1 n1 k1,.slice A2 n2 k2]) (by
  generalize ((w3.setCell ⟨w.heap.size,0,none⟩ (Value.slice A1 n1 k1)).setCell ⟨w.heap.size,1,none⟩ (Value.slice A2 n2 k2))=X at *
  simp[results,Tryz.results132,go_sem,d0,d1]) rfl ?_
 obtain⟨hz1,hz2⟩:=HZ.out;have hbs:Below w.heap.size w3 ((w3.setCell ⟨w.heap.size,0,none⟩ (Value.slice A1 n1 k1)).setCell ⟨w.heap.size,1,none⟩ (Value.slice A2 n2 k2)):=Below.setCell (p:=⟨w.heap.size,1,none⟩) (Below.setCell (p:=⟨w.heap.size,0,none⟩) (Below.refl _ _) (Nat.le_refl _) _) (Nat.le_refl _) _
 have hkeep:∀{u:Value} {d:List Int},SV w3 (fun k=>k<w1.heap.size) u d->SV ((w3.setCell ⟨w.heap.size,0,none⟩ (Value.slice A1 n1 k1)).setCell ⟨w.heap.size,1,none⟩ (Value.slice A2 n2 k2)) (fun k=>k<w.heap.size) u d:=fun h=>(h.keep (X':=fun k=>k<w1.heap.size) hbs.size (fun _ _ h=>h) (fun k hk hn=>by
  rw[Below.heap_setCell _ _ _ _ (by simp;omega),Below.heap_setCell _ _ _ _ (by simp;omega)])).far (fun k hk=>by omega)
 refine⟨_,_,rfl,hkeep (HS1.out.keep HB3.out.size (fun _ _ h=>h) (fun k hk _=>HB3.out.block k hk)),hkeep (HS2.out.far fun k hk=>by omega),(HB.out.trans (HB3.out.mono HB.out.size)).trans hbs⟩
theorem ZbN.cellsKept{β:Type}{R:World->(Nat->Prop)->Value->β->Prop}{X X':Nat->Prop}{b:Nat}{L L':List (Txt×β)}(h:ZbN R w X b L)(h':ZbN R w' X' b L')(ht:Za (fun k=>k=b) w w'):∀p o,p<w.heap.size->w'.cell? ⟨p,o,none⟩=w.cell? ⟨p,o,none⟩:=by
 intro p o hp;by_cases e:p=b
 · rw[e,h.noCell,h'.noCell]
 · exact World.cell?_of_block (a:=⟨p,o,none⟩) (ht.block p hp e)
theorem Zoj{W:TL}{ds:List Txt}{i:Nat}{x:Txt}(h:ds[i]?=some x):(ds.take (i+1)).foldl ZbE W=ZbE ((ds.take i).foldl ZbE W) x:=by
 obtain⟨hi,rfl⟩:=List.getElem?_eq_some_iff.1 h;rw[List.take_succ_eq_append_getElem hi,List.foldl_append];rfl
theorem Zok{W ps:TL}{i:Nat}{x:Txt×List Int}(h:ps[i]?=some x):(ps.take (i+1)).foldl (fun L p=>Zaw L p.1 p.2) W=Zaw ((ps.take i).foldl (fun L p=>Zaw L p.1 p.2) W) x.1 x.2:=by
 obtain⟨hi,rfl⟩:=List.getElem?_eq_some_iff.1 h;rw[List.take_succ_eq_append_getElem hi,List.foldl_append];rfl
theorem ZdF:∀(ds:List Txt) {W:TL},ZG W->ZG (ds.foldl ZbE W)/\(ds.foldl ZbE W).length<=W.length
 | [],W,h=>⟨h,Nat.le_refl _⟩
 | d::ds,W,h=>by
  have ih:=ZdF ds (h.del d);exact⟨ih.1,Nat.le_trans ih.2 (ZhW _ _)⟩
theorem Zjw:∀(ps:TL) {W:TL},ZG W->ZG (ps.foldl (fun L p=>Zaw L p.1 p.2) W)/\(ps.foldl (fun L p=>Zaw L p.1 p.2) W).length<=W.length+ps.length
 | [],W,h=>⟨h,Nat.le_refl _⟩
 | d::ds,W,h=>by
  have ih:=Zjw ds (h.set d.1 d.2);refine⟨ih.1,Nat.le_trans ih.2 ?_⟩
  have:=ZL W d.1 d.2
  simp;omega
theorem Zjx{W ps:TL}{ds:List Txt}(h:ZbN SV w X m W)(hup:ZG W)(hXm:X m)(hX:∀k,X k->k<w.heap.size){A A':Option Addr}{n k n' k' B:Nat}(hp:Zat w B A n (ps.map Zaq))(hd:Zgk w B A' n' (ds.map by_))(hB:B<=w.heap.size)(hn:n<=maxLen)(hn':n'<=maxLen)(hv:∀p∈ps,p.2.length<=140737488355328)(hfew:W.length+ps.length<maxLen) :
 Calls prog 492 #[.map (some m),.slice A n k,.slice A' n' k'] w fun e w'=>e=.returned (.int .i64 0)/\ZbN SV w' X m (VS.written W ps ds)/\Za (fun k=>k=m) w w':=by
 unfold maxLen at hn hn';have hpl:ps.length=n:=by simpa using hp.len
 have hdl:ds.length=n':=by simpa using hd.len
 have hsw:=hid (And.intro h hup);have H1:=hid (show ZbN SV w X m ((ds.take 0).foldl ZbE W)/\Za (fun k=>k=m) w w from⟨h,Za.refl _ _⟩);have HP:=hid hp;have HD:=hid hd;have HV:=hid (And.intro hv (And.intro hX hfew));have HPL:=hid hpl;have HDL:=hid hdl;clear hp hd h hup hX hv hfew hpl hdl;go_enter func492,ntmps492;go_wp2_with fail
 go_loopw[13] (fun i wr=>∃j:Nat,j<=n'/\i=.int .i64 j/\Hid (ZbN SV wr X m ((ds.take j).foldl ZbE W)/\Za (fun k=>k=m) w wr)) (fun i _=>n'-(intOf i).toNat)
 case atStart=>exact⟨0,Nat.zero_le _,rfl,H1⟩
 case round=>
  obtain⟨j,hj,rfl,HM⟩:=hrel;obtain⟨hm,ht⟩:=HM.out;obtain⟨h,hup⟩:=hsw.out;by_cases hlt:j<n'
  · obtain⟨b,off,rfl,hbB,hat⟩:=HD.out.2 (by omega);obtain⟨y,hy⟩:∃y,ds[j]?=some y:=⟨_,List.getElem?_eq_getElem (by rw[HDL.out];exact hlt)⟩
    obtain⟨ka,kn,kc,h0,h1,h2,h3⟩:=(hat j (by_ y) (by rw[List.getElem?_map,hy];rfl)).keep hbB (fun b o hbb=>h.cellsKept hm ht b o (Nat.lt_of_lt_of_le hbb hB));have hlen:=h1.len;rw[ZdG]at hlen;have hconv:(convert 99 9 (.slice ka kn kc)).run prog wr=.ok (encStr (tx (by_ y))) wr:=h1.conv kc;rw[ZfJ]at hconv;obtain⟨w3,hrun,hm3,hg3⟩:=hm.delete @ZfG hXm (e:=99) underlying160 (x:=y) (by omega) 0;have hst:=hid (Zoj (W:=W) hy);rw[<-hst.out]at hm3;have HN:=hid (And.intro hm3 (ht.grown hg3 rfl));clear hat hy h1 h hup hm ht hm3 hg3 hst hlen;generalize encStr y=st at hconv hrun;have hk64:(j:Int)<(n':Int):=by omega
    go_wp2;go_roundw
    case rel=>exact⟨j+1,by omega,by go_num,HN⟩
    case measure=>simp[intOf];omega
  · obtain rfl:j=n':=by omega
    have hW1:=ZdF ds hup
    have hm1:ZbN SV wr X m (((ps.take 0).foldl (fun L p=>Zaw L p.1 p.2) (ds.foldl ZbE W))):=by
     have:=hm
     rw[<-HDL.out,List.take_length]at this;exact this
    have H2:=hid (And.intro hm1 ht);have HU:=hid hW1;clear hm ht h hup hm1 hW1;go_wp2_with fail
    go_loopw[23] (fun i wr=>∃j:Nat,j<=n/\i=.int .i64 j/\Hid (ZbN SV wr X m ((ps.take j).foldl (fun L p=>Zaw L p.1 p.2) (ds.foldl ZbE W))/\Za (fun k=>k=m) w wr)) (fun i _=>n-(intOf i).toNat)
    case atStart=>exact⟨0,Nat.zero_le _,rfl,H2⟩
    case round=>
     obtain⟨q,hq,rfl,HM2⟩:=hrel;obtain⟨hm,ht⟩:=HM2.out;obtain⟨h,hup⟩:=hsw.out;by_cases hlt:q<n
     · obtain⟨hv,hX,hfew⟩:=HV.out;have hXr:∀k,X k->k<wr.heap.size:=fun k hk=>Nat.lt_of_lt_of_le (hX k hk) ht.size
       have hPr:Zat wr B A n (ps.map Zaq):=HP.out.keep fun b o hbb=>h.cellsKept hm ht b o (Nat.lt_of_lt_of_le hbb hB)
       have hBr:B<=wr.heap.size:=Nat.le_trans hB ht.size;obtain⟨b,off,rfl,hbB,hat⟩:=hPr.2 (by omega);obtain⟨y,hy⟩:∃y,ps[q]?=some y:=⟨_,List.getElem?_eq_getElem (by rw[HPL.out];exact hlt)⟩
       obtain⟨ka,kn,kc,va,vn,vc,h0,h1,h2,h3,h4,h5⟩:=hat q (Zaq y) (by rw[List.getElem?_map,hy];rfl);have hvn:vn<=140737488355328:=by rw[<-h4.len];exact hv y (List.mem_of_getElem? hy)
       have hkl:y.1.length<=maxLen:=by have:=h2.len;rw[ZdG]at this;rw[this];exact h3.2
       have hrise:=Zjw (ps.take q) (ZdF ds hup).1
       have hcount:((ps.take q).foldl (fun L p=>Zaw L p.1 p.2) (ds.foldl ZbE W)).length<maxLen:=by
        have h1:=(ZdF ds hup).2;have h2:=hrise.2;have h3:(ps.take q).length<=ps.length:=by rw[List.length_take];exact Nat.min_le_right ..
        omega
       obtain⟨w1,hw1⟩:∃w1,w1=wr.alloc (.cells #[.slice ka kn kc,.slice va vn vc] 101 (0,0)):=⟨_,rfl⟩
       have hb1:Below wr.heap.size wr w1.drew:=by rw[hw1];exact((Below.refl _ wr).alloc (Nat.le_refl _) _).drew
       have hs1:wr.heap.size<w1.drew.heap.size:=by rw[hw1];simp
       have hbk1:w1.drew.heap[wr.heap.size]?=some (.cells #[.slice ka kn kc,.slice va vn vc] 101 (0,0)):=by rw[hw1];exact heap_alloc_new _ _
       have HC:=hid (ZbB (w:=w1.drew) (B:=B) vc (h4.below (hb1.mono hBr)) (Nat.le_trans hBr hb1.size) hvn)
       have box:∀w2:World,w2.heap[wr.heap.size]?=w1.drew.heap[wr.heap.size]?->w2.cell? ⟨wr.heap.size,0,none⟩=some (.slice ka kn kc)/\w2.cell? ⟨wr.heap.size,1,none⟩=some (.slice va vn vc):=fun w2 e=>by
        rw[hbk1]at e;exact⟨by rw[cell_of_row w2 _ 0 _ _ (0,0) e];rfl,by rw[cell_of_row w2 _ 1 _ _ (0,0) e];rfl⟩
       have cv:∀w2:World,(∀b o,b<B->w2.cell? ⟨b,o,none⟩=wr.cell? ⟨b,o,none⟩)->(convert 99 9 (.slice ka kn kc)).run prog w2=.ok (encStr y.1) w2:=fun w2 e=>by
        have:(convert 99 9 (.slice ka kn kc)).run prog w2=.ok (encStr (tx (by_ y.1))) w2:=(h2.keep e).conv kc
        rwa[ZfJ]at this
       have q1:(w1.drew.cell? ⟨wr.heap.size,0,none⟩=some (.slice ka kn kc)/\w1.drew.cell? ⟨wr.heap.size,1,none⟩=some (.slice va vn vc))/\(convert 99 9 (.slice ka kn kc)).run prog w1.drew=.ok (encStr y.1) w1.drew:=⟨box _ rfl,cv _ fun b o hbb=>(hb1.cell (p:=⟨b,o,none⟩) (Nat.lt_of_lt_of_le hbb hBr))⟩
       have HS:=hid (show ∀w2 u,Below w1.drew.heap.size w1.drew w2->SV w2 (fun k=>k<w1.drew.heap.size) u y.2->
        ((w2.cell? ⟨wr.heap.size,0,none⟩=some (.slice ka kn kc)/\w2.cell? ⟨wr.heap.size,1,none⟩=some (.slice va vn vc))/\(convert 99 9 (.slice ka kn kc)).run prog w2=.ok (encStr y.1) w2)/\
        ∃w3,(Instr.mapUpdate 160 (.map (some m)) (encStr y.1) u).run prog w2=.ok () w3/\((w3.cell? ⟨wr.heap.size,0,none⟩=some (.slice ka kn kc)/\w3.cell? ⟨wr.heap.size,1,none⟩=some (.slice va vn vc))/\(convert 99 9 (.slice ka kn kc)).run prog w3=.ok (encStr y.1) w3)/\
        Hid (ZbN SV w3 X m ((ps.take (q+1)).foldl (fun L p=>Zaw L p.1 p.2) (ds.foldl ZbE W))/\Za (fun k=>k=m) w w3)from by
        intro w2 u hb2 hs2;have hb12:=hb1.trans (hb2.mono hb1.size);have hm2:=hm.keep @ZfG (X':=X) hb12.size (fun _ _ h=>h) (fun k hk _=>hb12.block k hk) (hb12.block m hm.lt);obtain⟨w3,hrun,hm3,hg3⟩:=hm2.store (R:=SV) @ZfG hrise.1 hXm underlying160 hcount hkl (hs2.far fun k hk=>Nat.lt_trans (hXr k hk) hs1);have hmne:wr.heap.size≠m:=fun e=>by have:=hm.lt;omega
        have t13:Za (fun k=>k=m) wr w3:=(Za.of_below hb12).grown hg3 rfl
        refine⟨⟨box w2 (hb2.block _ hs1),cv w2 fun b o hbb=>hb12.cell (p:=⟨b,o,none⟩) (Nat.lt_of_lt_of_le hbb hBr)⟩,w3,hrun,⟨box w3 ((hg3.block _ (Nat.lt_of_lt_of_le hs1 hb2.size) (fun e=>hmne (by injection e))).trans (hb2.block _ hs1)),cv w3 fun b o hbb=>hm.cellsKept hm3 t13 b o (Nat.lt_of_lt_of_le hbb hBr)⟩,hid ⟨by rw[Zok hy];exact hm3,ht.trans t13⟩⟩)
       obtain⟨h3a,h3b⟩:=h3;obtain⟨h5a,h5b⟩:=h5;unfold maxLen at h3b h5b;have hk64:(q:Int)<(n:Int):=by omega
       clear hv hX hfew hXr hPr hBr hat hy h2 h4 hrise hcount hbk1 box cv hb1 hm ht h hup hkl hvn;generalize encStr y.1=st at q1 HS;go_wp2_with fail;rw[<-hw1];clear hw1;generalize wr.heap.size=bx at q1 HS hs1 ⊢
       go_region_held3 (fun w'=>(w'.cell? ⟨bx,0,none⟩=some (.slice ka kn kc)/\w'.cell? ⟨bx,1,none⟩=some (.slice va vn vc))/\(convert 99 9 (.slice ka kn kc)).run prog w'=.ok st w')
        (first|with_reducible exact q3|with_reducible exact q2|exact q1)
        (first|(go_at_call 182;refine HC.out.mono ?_;rintro e w2 ⟨u,rfl,hs,hb⟩;obtain⟨q2,w3,hrun3,q3,HN⟩:=HS.out w2 u hb hs;obtain⟨A2,n2,k2,rfl,_⟩:=hs))
       all_goals
        clear q1 q2 q3 hrun3 HC HS h0 h1 hb;go_wp2;go_roundw
        case rel=>exact⟨q+1,by omega,by go_num,HN⟩
        case measure=>simp[intOf];omega
     · obtain rfl:q=n:=by omega
       have HFIN:=hid (show ZbN SV wr X m (VS.written W ps ds)/\Za (fun k=>k=m) w wr from by
        refine⟨?_,ht⟩
        have:=hm
        rw[<-HPL.out,List.take_length]at this
        exact this)
       clear hm ht h hup;go_wp2;go_ret;exact⟨rfl,HFIN.out⟩
end
def ZaH(w:World)(base:Nat)(pv dv:Value)(P:List KV)(T:List (List Int)):Prop:=
 ∃Y:Nat->Prop,Za8 Zc9 101 2 w Y base pv P/\Za8 Znw 99 1 w Y base dv T/\(∀k,Y k->k<w.heap.size)/\∀r,pv.ownBlock=some r->dv.ownBlock≠some r
section
variable{w w':World}{base:Nat}{pv dv:Value}{P:List KV}{T:List (List Int)}
theorem ZaH.start(w:World)(base:Nat):ZaH w base (.slice none 0 0) (.slice none 0 0) [] []:=
 ⟨fun _=>False,Za8.start _ _ _,Za8.start _ _ _,fun k h=>h.elim,fun r h=>by simp[Value.ownBlock]at h⟩
theorem ZaH.below(h:ZaH w base pv dv P T)(hb:Below w.heap.size w w'):ZaH w' base pv dv P T:=by
 obtain⟨Y,h1,h2,h3,h4⟩:=h;exact⟨Y,h1.below @ZV hb,h2.below @ZbU hb,fun k hk=>Nat.lt_of_lt_of_le (h3 k hk) hb.size,h4⟩
theorem ZaH.shapes(h:ZaH w base pv dv P T):∃A c A' c',pv=.slice A P.length c/\dv=.slice A' T.length c':=by
 obtain⟨Y,h1,h2,_⟩:=h;obtain⟨A,c,e,_⟩:=h1.shape;obtain⟨A',c',e',_⟩:=h2.shape;exact⟨A,c,A',c',e,e'⟩
theorem ZaH.pushP{W:World}{u1 u2:Value}{x:KV}{b:Nat}{TT:TypeId}(h:ZaH W base pv dv P T)(hW:Below W.heap.size W w)(hu1:SV w (fun k=>k<W.heap.size) u1 x.1)(hu2:SV w (fun k=>k<W.heap.size) u2 x.2)(hb:w.heap[b]?=some (.cells #[u1,u2] TT))(hn:P.length<=4294967296)(hbase:base<=w.heap.size)(ty:TypeId) :
 ∃v' w',(Builtin.append_ #[128,128] ty #[pv,.slice (some ⟨b,0,none⟩) 1 1]).run prog w=.ok v' w'/\ZaH w' base v' dv (P++[x]) T/\Below base w w':=by
 obtain⟨Y,h1,h2,h3,h4⟩:=h;have h1':=h1.below @ZV hW;have h2':=h2.below @ZbU hW;obtain⟨v',w',hrun,g1,g2,g3,_⟩:=h1'.append_pair (hu1.far fun k hk=>h3 k hk) (hu2.far fun k hk=>h3 k hk) hb hn hbase ty;refine⟨v',w',hrun,⟨_,g1,h2'.keep @ZbU g2.size (fun k hk hy hh=>?_) (fun k hk hy=>g2.block k hk fun e=>hy (h1.own k e.symm)) (fun r hr=>⟨g2.block r (h2'.at_ r hr).2 (fun e=>h4 r e.symm hr),.inl (h2.own r hr)⟩),fun k hk=>?_,fun r hr hd=>?_⟩,?_⟩
 · rcases hh with a|a
   · exact hy a
   · rcases g3 with q|q
     · rw[q]at a;exact hy (h1.own k a)
     · rw[q]at a;injection a with a;omega
 · rcases hk with a|a
   · exact Nat.lt_of_lt_of_le (h3 k a) (Nat.le_trans hW.size g2.size)
   · exact(g1.at_ k a).2
 · rcases g3 with q|q
   · rw[q]at hr;exact h4 r hr hd
   · rw[q]at hr;injection hr with hr
     have:=(h2'.at_ r hd).2
     omega
 · exact(Below.refl base w).grown g2 hbase (fun k hk=>(h1.at_ k hk).1)
theorem ZaH.pushT{W:World}{u1:Value}{x:List Int}{b:Nat}{TT:TypeId}(h:ZaH W base pv dv P T)(hW:Below W.heap.size W w)(hu1:SV w (fun k=>k<W.heap.size) u1 x)(hb:w.heap[b]?=some (.cells #[u1] TT))(hn:T.length<=4294967296)(hbase:base<=w.heap.size)(ty:TypeId) :
 ∃v' w',(Builtin.append_ #[129,129] ty #[dv,.slice (some ⟨b,0,none⟩) 1 1]).run prog w=.ok v' w'/\ZaH w' base pv v' P (T++[x])/\Below base w w':=by
 obtain⟨Y,h1,h2,h3,h4⟩:=h;have h1':=h1.below @ZV hW;have h2':=h2.below @ZbU hW;obtain⟨v',w',hrun,g1,g2,g3,_⟩:=h2'.append_text (hu1.far fun k hk=>h3 k hk) hb hn hbase ty;refine⟨v',w',hrun,⟨_,h1'.keep @ZV g2.size (fun k hk hy hh=>?_) (fun k hk hy=>g2.block k hk fun e=>hy (h2.own k e.symm)) (fun r hr=>⟨g2.block r (h1'.at_ r hr).2 (fun e=>h4 r hr e.symm),.inl (h1.own r hr)⟩),g1,fun k hk=>?_,fun r hr hd=>?_⟩,?_⟩
 · rcases hh with a|a
   · exact hy a
   · rcases g3 with q|q
     · rw[q]at a;exact hy (h2.own k a)
     · rw[q]at a;injection a with a;omega
 · rcases hk with a|a
   · exact Nat.lt_of_lt_of_le (h3 k a) (Nat.le_trans hW.size g2.size)
   · exact(g1.at_ k a).2
 · rcases g3 with q|q
   · rw[q]at hd;exact h4 r hr hd
   · rw[q]at hd;injection hd with hd
     have:=(h1'.at_ r hr).2
     omega
 · exact(Below.refl base w).grown g2 hbase (fun k hk=>(h2.at_ k hk).1)
theorem ZaH.read{A A':Option Addr}{n c n' c':Nat}(h:ZaH w base (.slice A n c) (.slice A' n' c') P T):n=P.length/\n<=c/\Zat w w.heap.size A n P/\n'=T.length/\n'<=c'/\Zgk w w.heap.size A' n' T:=by
 obtain⟨Y,h1,h2,_⟩:=h;obtain⟨a1,a2,a3⟩:=h1.pairs;obtain⟨b1,b2,b3⟩:=h2.texts;exact⟨a1,a2,a3,b1,b2,b3⟩
end
theorem Zol{α β:Type}{f:α->Option β}{L:List α}{j:Nat}{p:α}(h:L[j]?=some p):(L.take (j+1)).filterMap f=(L.take j).filterMap f++(f p).toList:=by
 obtain⟨hi,rfl⟩:=List.getElem?_eq_some_iff.1 h;rw[List.take_succ_eq_append_getElem hi,List.filterMap_append]
 congr 1
section
variable{w w':World}{X:Nat->Prop}{v m c:Nat}{S:VS}
def Zcv(S:VS)(j:Nat):List KV:=((S.C.take j).filterMap (VS.putsF S.W)).map Zaq
def Zci(S:VS)(j:Nat):List (List Int):=((S.C.take j).filterMap (VS.delsF S.W)).map by_
theorem Zom(S:VS)(j:Nat):(Zcv S j).length<=j:=by
 unfold Zcv;rw[List.length_map];exact Nat.le_trans (List.length_filterMap_le _ _) (by rw[List.length_take];exact Nat.min_le_left _ _)
theorem Zon(S:VS)(j:Nat):(Zci S j).length<=j:=by
 unfold Zci;rw[List.length_map];exact Nat.le_trans (List.length_filterMap_le _ _) (by rw[List.length_take];exact Nat.min_le_left _ _)
theorem Zb0{S:VS}{j:Nat}{p:Txt×Option (List Int)}(hp:S.C[j]?=some p):Zcv S (j+1)=Zcv S j++(VS.putsF S.W p).toList.map Zaq:=by
 unfold Zcv;rw[Zol hp,List.map_append]
theorem Zb1{S:VS}{j:Nat}{p:Txt×Option (List Int)}(hp:S.C[j]?=some p):Zci S (j+1)=Zci S j++(VS.delsF S.W p).toList.map by_:=by
 unfold Zci;rw[Zol hp,List.map_append]
theorem Zd4{W:TL}{p:Txt×Option (List Int)}{val:List Int}(hc:p.2=some val):VS.putsF W p=if Zf W p.1=some val then none else some (p.1,val):=by
 unfold VS.putsF;rw[hc]
theorem ZgL{W:TL}{p:Txt×Option (List Int)}(hc:p.2=none):VS.putsF W p=none:=by
 unfold VS.putsF;rw[hc]
theorem Zd5{W:TL}{p:Txt×Option (List Int)}{val:List Int}(hc:p.2=some val):VS.delsF W p=none:=by
 unfold VS.delsF;rw[hc]
theorem ZgM{W:TL}{p:Txt×Option (List Int)}(hc:p.2=none):VS.delsF W p=if(Zf W p.1).isSome then some p.1 else none:=by
 unfold VS.delsF;rw[hc]
theorem Zjy(h:Ze w X v m c S)(hfew:S.C.length<=32767)(hkeys:∀p∈S.C,p.1.length<=140737488355328) :
 Calls prog 66 #[.pointer (some ⟨v,0,none⟩)] w fun e w'=>∃A n k A' n' k',e=.returned (.tuple #[.slice A n k,.slice A' n' k',.int .i64 0])/\n<=k/\Zat w' w'.heap.size A n (S.puts.map Zaq)/\n'<=k'/\Zgk w' w'.heap.size A' n' (S.dels.map by_)/\Below w.heap.size w w':=by
 obtain⟨c0,c1,c2,hv⟩:=h.cells;have HM:=hid (Zcu h);have HK:=hid (Zmw (some c) w);have HSo:=hid (Zju h.chg h.ok.c hfew);have HH:=hid h;have HKL:=hid hkeys;clear h hkeys
 have hm : ∀ n (w : World), (method (n + 1) 160 (.map (some m)) "Get").run prog w = .ok (490, .map (some m)) w := fun n w => by kernel_rfl
 go_enter func66,ntmps66;go_wp2_with fail;refine HM.out.mono ?_;rintro e w'⟨rfl,rfl⟩;go_wp2_with fail;refine HK.out.mono ?_;rintro e w'⟨rfl,rfl⟩;go_wp2_with fail;refine HSo.out.mono ?_;rintro e wK⟨AK,cK,rfl,hcK,hrowK,hbK⟩;have HROW:=hid hrowK;have HBK:=hid hbK;have hfew':S.C.length<=2^63-1:=by omega
 clear hrowK hbK c0 c1 c2;obtain⟨N,hN⟩:∃N,N=S.C.length:=⟨_,rfl⟩
 rw[<-hN]at hfew' hcK hfew HROW;have HN:=hid hN;rw[<-hN];clear hN;go_wp2_with fail
 go_loopw[2,3,21] (fun pv dv i wr=>∃j:Nat,j<=N/\i=.int .i64 j/\Hid (ZaH wr wK.heap.size pv dv (Zcv S j) (Zci S j))/\Hid (Below wK.heap.size wK wr)) (fun _ _ i _=>N-(intOf i).toNat)
 case atStart=>exact⟨0,Nat.zero_le _,rfl,hid (ZaH.start _ _),hid (Below.refl _ _)⟩
 case round=>
  obtain⟨j,hj,rfl,HR,HB⟩:=hrel;by_cases hlt:j<N
  · obtain⟨p,hp⟩:∃p,S.C[j]?=some p:=⟨_,List.getElem?_eq_getElem (by rw[<-HN.out];exact hlt)⟩
    have hpm:(p.1,p.2)∈S.C:=List.mem_of_getElem? hp;have hpl:Zf S.C p.1=some p.2:=HH.out.ok.c.look hpm;have hkl:=HKL.out p hpm
    have hcell:∃g,AK=some ⟨g,0,none⟩/\wr.cell? ⟨g,j,none⟩=some (encStr p.1):=by
     have h1:=HROW.out;rcases h1.2 with ⟨e,h0⟩|⟨g,cap,cur,e,_,hg,_,_,_,htake⟩
     · omega
     · cases e;refine⟨g,rfl,?_⟩;rw[HB.out.cell (p:=⟨g,j,none⟩) (Array.getElem?_eq_some_iff.1 hg).1,cell_of_row wK g j cur _ (0,0) hg];have h2:(List.map encStr (List.map (fun x=>x.fst) S.C))[j]?=some (encStr p.1):=by rw[List.getElem?_map,List.getElem?_map,hp];rfl
       rw[<-htake,List.getElem?_take,if_pos (by omega)]at h2;simpa using h2
    obtain⟨g,rfl,hcell⟩:=hcell;have hbr:=HBK.out.trans (HB.out.mono HBK.out.size);have hvr:=HH.out.below hbr;obtain⟨d0,d1,d2,_⟩:=hvr.cells;obtain⟨u1,w1,hconv,hs1,hb1⟩:=ZhT wr p.1 hkl;have hv1:=hvr.below hb1;obtain⟨A1,n1,k1,rfl,e1,e2,e3,_⟩:=hs1;have HG:=hid (ZgJ hv1.mem hv1.lt (k:=k1) e3 (by unfold maxLen;omega));rw[ZfJ]at HG;have HVR:=hid hvr;have HV1:=hid hv1;have HB1:=hid hb1;have HP:=hid (And.intro hp (And.intro hpl hkl));have hpn:(Zcv S j).length<=4294967296:=by have:=Zom S j;omega
    have hdn:(Zci S j).length<=4294967296:=by have:=Zon S j;omega
    have hj64:(j:Int)<(N:Int):=by omega
    have HPN:=hid (And.intro hpn hdn);obtain⟨PA,PK,DA,DK,rfl,rfl⟩:=HR.out.shapes;generalize hst:encStr p.1=st at hcell hconv;have HST:=hid hst;clear hp hpm hpl hvr hv1 hb1 hbr e1 e2 e3 hpn hdn hst;go_wp2_with fail;refine HG.out.mono ?_;rintro e w2⟨u2,rfl,hs2,hb2⟩;have hv2:=HV1.out.below hb2;have HMe:=hid (ZdD hv2);have HV2:=hid hv2;have hr2:=HB1.out.trans (hb2.mono HB1.out.size);have HB2:=hid hr2;have HS2:=hid hs2;obtain⟨A2,n2,k2,rfl,_,_,g3,_⟩:=hs2;have HG3:=hid g3;obtain⟨u3,hget,hch⟩:=hv2.chg.get underlying125 (Zdj w2) (x:=p.1) (by unfold maxLen;omega) HP.out.2.1;rw[HST.out]at hget;obtain⟨f0,f1,f2,_⟩:=hv2.cells;clear hv2 hb2 hr2 g3 hconv d0 d1 d2 hcell;go_wp2_with fail;refine HMe.out.mono ?_;rintro e w2'⟨rfl,rfl⟩
    cases hc:p.2 with
    | some val=>
     rw[hc]at hch;obtain⟨u,rfl,A3,n3,k3,rfl,t1,t2,t3,_⟩:=hch
     cases hw:Zf S.W p.1 with
     | none=>
      have hb:(Zf S.W p.1).isSome=false:=by rw[hw];rfl
      have hPF:VS.putsF S.W p=some (p.1,val):=by rw[Zd4 hc,hw];rfl
      simp only[Option.isSome_none];have hX3:Below w2.heap.size w2 (w2.alloc (.cells #[.bool true,.slice A3 n3 k3] 199 (0,0))):=(Below.refl _ _).alloc (Nat.le_refl _) _;have HPO:=hid (ZcV (w2.alloc (.cells #[.bool true,.slice A3 n3 k3] 199 (0,0))) p.1 hkl (k:=k3) (t3.below hX3) hX3.size t2);rw[HST.out]at HPO;have HX3:=hid hX3;clear t3 hX3;go_wp2_with fail;refine HPO.out.mono ?_;rintro e w4⟨x1,x2,rfl,hx1,hx2,hb4⟩;have hX5:Below w4.heap.size w4 (w4.alloc (.cells #[x1,x2] 101 (0,0))):=(Below.refl _ _).alloc (Nat.le_refl _) _;have hb24:=HX3.out.trans (hb4.mono HX3.out.size);have hr4:=HB2.out.trans (hb24.mono HB2.out.size);have hr5:=hr4.trans (hX5.mono hr4.size);have hz:∀k,k<wr.heap.size->k<(w2.alloc (.cells #[.bool true,.slice A3 n3 k3] 199 (0,0))).heap.size:=fun k hk=>Nat.lt_of_lt_of_le hk (Nat.le_trans HB2.out.size HX3.out.size)
      obtain⟨v',w6,hrun,hR6,hb6⟩:=HR.out.pushP (x:=Zaq (p.1,val)) hr5 ((hx1.far hz).keep hX5.size (fun _ _ h=>h) (fun k hk _=>hX5.block k hk)) ((hx2.far hz).keep hX5.size (fun _ _ h=>h) (fun k hk _=>hX5.block k hk)) (heap_alloc_new _ _) HPN.out.1 (Nat.le_trans HB.out.size hr5.size) 128
      have HN6:=hid (show ZaH w6 wK.heap.size v' (.slice DA (Zci S j).length DK) (Zcv S (j+1)) (Zci S (j+1))from by
       rw[Zb0 HP.out.1,Zb1 HP.out.1,hPF,Zd5 hc]
       simpa using hR6)
      have HB6:=hid ((HB.out.trans (hr5.mono HB.out.size)).trans hb6);obtain⟨B1,m1,l1,rfl,_⟩:=hx1;obtain⟨B2,m2,l2,rfl,_⟩:=hx2;have HRUN:=hid hrun;clear hX5 hb24 hr4 hr5 hz hR6 hb6 hb4 hrun
      go_wp2_with (at_builtin;refine Lib.wpList_append_run _ rfl _ _ _ _ rfl _ _ rfl rfl _ _ HRUN.out ?_)
      go_roundw
      case rel=>exact⟨j+1,by omega,by go_num,HN6,HB6⟩
      case measure=>simp[intOf];omega
     | some wv=>
      rw[hw]at HG3;have hX3e:Below w2.heap.size w2 (w2.alloc (.cells #[.bool true,.slice A3 n3 k3] 199 (0,0))):=(Below.refl _ _).alloc (Nat.le_refl _) _;have HE:=hid (Zfa k2 k3 (HG3.out.below hX3e) (t3.below hX3e));simp only[Option.getD_some]at HE;simp only[Option.isSome_some];by_cases heq:wv=val
      · have hd:decide (wv=val)=true:=by simpa using heq
        rw[hd]at HE;clear hd t3 hX3e
        have HN6:=hid (show ∀w6,Below wr.heap.size wr w6->ZaH w6 wK.heap.size (.slice PA (Zcv S j).length PK) (.slice DA (Zci S j).length DK) (Zcv S (j+1)) (Zci S (j+1))/\Below wK.heap.size wK w6 from fun w6 hb=>⟨by
         rw[Zb0 HP.out.1,Zb1 HP.out.1,Zd4 hc,hw,if_pos (by rw[heq]),Zd5 hc]
         simpa using HR.out.below hb,HB.out.trans (hb.mono HB.out.size)⟩)
        have hX3:Below w2.heap.size w2 (w2.alloc (.cells #[.bool true,.slice A3 n3 k3] 199 (0,0))):=(Below.refl _ _).alloc (Nat.le_refl _) _;have HX3:=hid (HB2.out.trans (hX3.mono HB2.out.size));clear hX3;go_wp2_with fail;refine HE.out.mono ?_;rintro e w4⟨rfl,rfl⟩;go_wp2;go_roundw
        case rel=>exact⟨j+1,by omega,by go_num,hid (HN6.out _ HX3.out).1,hid (HN6.out _ HX3.out).2⟩
        case measure=>simp[intOf];omega
      · have hd:decide (wv=val)=false:=by simpa using heq
        have hPF:VS.putsF S.W p=some (p.1,val):=by rw[Zd4 hc,hw,if_neg (fun e=>heq (by injection e))]
        rw[hd]at HE;clear hd hX3e;have hX3:Below w2.heap.size w2 (w2.alloc (.cells #[.bool true,.slice A3 n3 k3] 199 (0,0))):=(Below.refl _ _).alloc (Nat.le_refl _) _;have HPO:=hid (ZcV (w2.alloc (.cells #[.bool true,.slice A3 n3 k3] 199 (0,0))) p.1 hkl (k:=k3) (t3.below hX3) hX3.size t2);rw[HST.out]at HPO;have HX3:=hid hX3;clear t3 hX3;go_wp2_with fail;refine HE.out.mono ?_;rintro e w4⟨rfl,rfl⟩;go_wp2_with fail;refine HPO.out.mono ?_;rintro e w4⟨x1,x2,rfl,hx1,hx2,hb4⟩;have hX5:Below w4.heap.size w4 (w4.alloc (.cells #[x1,x2] 101 (0,0))):=(Below.refl _ _).alloc (Nat.le_refl _) _;have hb24:=HX3.out.trans (hb4.mono HX3.out.size);have hr4:=HB2.out.trans (hb24.mono HB2.out.size);have hr5:=hr4.trans (hX5.mono hr4.size);have hz:∀k,k<wr.heap.size->k<(w2.alloc (.cells #[.bool true,.slice A3 n3 k3] 199 (0,0))).heap.size:=fun k hk=>Nat.lt_of_lt_of_le hk (Nat.le_trans HB2.out.size HX3.out.size)
        obtain⟨v',w6,hrun,hR6,hb6⟩:=HR.out.pushP (x:=Zaq (p.1,val)) hr5 ((hx1.far hz).keep hX5.size (fun _ _ h=>h) (fun k hk _=>hX5.block k hk)) ((hx2.far hz).keep hX5.size (fun _ _ h=>h) (fun k hk _=>hX5.block k hk)) (heap_alloc_new _ _) HPN.out.1 (Nat.le_trans HB.out.size hr5.size) 128
        have HN6:=hid (show ZaH w6 wK.heap.size v' (.slice DA (Zci S j).length DK) (Zcv S (j+1)) (Zci S (j+1))from by
         rw[Zb0 HP.out.1,Zb1 HP.out.1,hPF,Zd5 hc]
         simpa using hR6)
        have HB6:=hid ((HB.out.trans (hr5.mono HB.out.size)).trans hb6);obtain⟨B1,m1,l1,rfl,_⟩:=hx1;obtain⟨B2,m2,l2,rfl,_⟩:=hx2;have HRUN:=hid hrun;clear hX5 hb24 hr4 hr5 hz hR6 hb6 hb4 hrun
        go_wp2_with (at_builtin;refine Lib.wpList_append_run _ rfl _ _ _ _ rfl _ _ rfl rfl _ _ HRUN.out ?_)
        go_roundw
        case rel=>exact⟨j+1,by omega,by go_num,HN6,HB6⟩
        case measure=>simp[intOf];omega
    | none=>
     rw[hc]at hch;obtain⟨A3,n3,k3,h3⟩:∃(A3:Option Addr) (n3 k3:Nat),u3=.agg #[.bool false,.slice A3 n3 k3]:=⟨none,0,0,hch⟩
     subst h3;clear hch
     cases hw:Zf S.W p.1 with
     | none=>
      simp only[Option.isSome_none]
      have HN6:=hid (show ∀w6,Below wr.heap.size wr w6->ZaH w6 wK.heap.size (.slice PA (Zcv S j).length PK) (.slice DA (Zci S j).length DK) (Zcv S (j+1)) (Zci S (j+1))/\Below wK.heap.size wK w6 from fun w6 hb=>⟨by
       rw[Zb0 HP.out.1,Zb1 HP.out.1,ZgL hc,ZgM hc,hw]
       simpa using HR.out.below hb,HB.out.trans (hb.mono HB.out.size)⟩)
      have hX3:Below w2.heap.size w2 (w2.alloc (.cells #[.bool false,.slice A3 n3 k3] 199 (0,0))):=(Below.refl _ _).alloc (Nat.le_refl _) _;have HX3:=hid (HB2.out.trans (hX3.mono HB2.out.size));clear hX3;go_wp2;go_roundw
      case rel=>exact⟨j+1,by omega,by go_num,hid (HN6.out _ HX3.out).1,hid (HN6.out _ HX3.out).2⟩
      case measure=>simp[intOf];omega
     | some wv=>
      simp only[Option.isSome_some];have hX3:Below w2.heap.size w2 (w2.alloc (.cells #[.bool false,.slice A3 n3 k3] 199 (0,0))):=(Below.refl _ _).alloc (Nat.le_refl _) _;obtain⟨x1,w4,hconv4,hx1,hb4⟩:=ZhT (w2.alloc (.cells #[.bool false,.slice A3 n3 k3] 199 (0,0))) p.1 hkl;rw[HST.out]at hconv4;have hX5:Below w4.heap.size w4 (w4.alloc (.cells #[x1] 99 (0,0))):=(Below.refl _ _).alloc (Nat.le_refl _) _;have hb24:=hX3.trans (hb4.mono hX3.size);have hr4:=HB2.out.trans (hb24.mono HB2.out.size);have hr5:=hr4.trans (hX5.mono hr4.size);have hz:∀k,k<wr.heap.size->k<(w2.alloc (.cells #[.bool false,.slice A3 n3 k3] 199 (0,0))).heap.size:=fun k hk=>Nat.lt_of_lt_of_le hk (Nat.le_trans HB2.out.size hX3.size)
      obtain⟨v',w6,hrun,hR6,hb6⟩:=HR.out.pushT (x:=by_ p.1) hr5 ((hx1.far hz).keep hX5.size (fun _ _ h=>h) (fun k hk _=>hX5.block k hk)) (heap_alloc_new _ _) HPN.out.2 (Nat.le_trans HB.out.size hr5.size) 129
      have HN6:=hid (show ZaH w6 wK.heap.size (.slice PA (Zcv S j).length PK) v' (Zcv S (j+1)) (Zci S (j+1))from by
       rw[Zb0 HP.out.1,Zb1 HP.out.1,ZgL hc,ZgM hc,hw]
       simpa using hR6)
      have HB6:=hid ((HB.out.trans (hr5.mono HB.out.size)).trans hb6);obtain⟨B1,m1,l1,rfl,_⟩:=hx1;have HRUN:=hid hrun;clear hX5 hb24 hr4 hr5 hz hR6 hb6 hb4 hrun hX3
      go_wp2_with (at_builtin;refine Lib.wpList_append_run _ rfl _ _ _ _ rfl _ _ rfl rfl _ _ HRUN.out ?_)
      go_roundw
      case rel=>exact⟨j+1,by omega,by go_num,HN6,HB6⟩
      case measure=>simp[intOf];omega
  · obtain rfl:j=N:=by omega
    obtain⟨A,k,A',k',rfl,rfl⟩:=HR.out.shapes;obtain⟨r1,r2,r3,r4,r5,r6⟩:=HR.out.read;have hp:Zcv S j=S.puts.map Zaq:=by unfold Zcv;rw[HN.out,List.take_length];rfl
    have hd:Zci S j=S.dels.map by_:=by unfold Zci;rw[HN.out,List.take_length];rfl
    have HFIN:=hid (And.intro r2 (And.intro r3 (And.intro r5 (And.intro r6 (HBK.out.trans (HB.out.mono HBK.out.size))))));rw[hp,hd]at HFIN ⊢;clear r1 r2 r3 r4 r5 r6 hp hd;go_wp2
    go_ret3
    obtain⟨f1,f2,f3,f4,f5⟩:=HFIN.out;exact⟨_,_,_,_,_,_,rfl,f1,f2,f3,f4,f5⟩
end
end Go.Proofs.YtiknkbpojmgbhaaGreat
