/- ExuK. Conditions: in each theorem. -/
import Derived.Test.YtlmkdmdbpopnhaaGreatDoorG42
set_option maxHeartbeats 3200000
set_option maxRecDepth 100000
set_option linter.unusedVariables false
open Go.Proofs.Tryz
open Go.Lib (hid)
namespace Go.Proofs.YtlmkdmdbpopnhaaGreatDoor
open Go.RowKit
def M00:MV:=⟨0,0,1,0,[]⟩
section
variable{D:World->(Nat->Prop)->Addr->DS->Prop}{w w':World}{F O:Nat->Prop}{p:Addr}{S:DS}{q r b:Nat}{seq:Int}{L:List (Int×List Int)}
theorem ZeM(api:Zb D)(hP:ZaN D w F O p S q seq r b L)(htab:Zdf w F)(hlen:Ziz S)(hout:¬O 1){M1 M2:MV}{ss1:List Stp}{pg:Int}(hl1:LenIs S L M00 M1 ss1)(hs1:ss1.length<=1000)(hn:0<=M1.n/\M1.n<4611686018427387904)(hf : -9223372036854775808<=M1.f/\M1.f<=9223372036854775807)(ht:Zcr S L M1 pg M2)(hpg : -9223372036854775808<=pg/\pg<=9223372036854775807)(hmay:ZD ⟨0,0,[]⟩=true)
 (hN:Zfe M2) (hmayM:Zft M2=true) (hok:okS S M2 L (ZcA M00 M2 (ss1++[.pt 0 pg]++[.lay pg (pageBk ⟨0,0,[]⟩)]))) :
 Calls prog 39 #[.pointer (some ⟨r,0,none⟩)] w fun e w'=>∃st,e=.returned (.tuple #[.pointer (some ⟨st,0,none⟩),.int .i64 0])/\w.heap.size<=st/\Zad D w F O p S q seq r b st (runS S M2 L (ZcA M00 M2 (ss1++[.pt 0 pg]++[.lay pg (pageBk ⟨0,0,[]⟩)]))) w':=by
 obtain⟨w1,hw1⟩:∃w1,w1=w.alloc (.cells #[.pointer (some ⟨r,0,none⟩)] 96):=⟨_,rfl⟩
 have hb1:Below w.heap.size w w1:=by rw[hw1];exact(Below.refl _ _).alloc (ZZe _) _
 have hst1:ZoZ w1 w.heap.size r:=by rw[hw1];exact heap_alloc_new _ _
 have hT1:Top D w1 F O p S q seq r b w.heap.size L:=⟨⟨hP.below api hb1,htab.below hb1,hlen.get hP.all,hst1,fun e=>Nat.lt_irrefl _ (hP.lt _ e)⟩,hlen,hout⟩
 have HCO:=hid (Za5 (w:=w1) (st:=w.heap.size) (A:=none) (k:=0) (c:=0) M00 RI.nil_ (ZZe _) (Nat.zero_le _));have HT:=hid hT1;have HB1:=hid hb1
 have HFS:=hid (show ∀(w2:World) (ch mb bx:Nat) (v v' sv:Value) (fs:List Value),ZF w1 w2 ch w.heap.size mb M00 M1 v v' sv 0 (fun _=>none) fs ss1->w2.heap[bx]?=some (.cells #[.pointer (some ⟨ch,0,none⟩)] 153 (0,0))->¬GX ch mb v' sv bx->fs.length<=1000->
  Calls prog 94 #[.pointer (some ⟨bx,0,none⟩)] w2 fun e w'=>e=.returned (.int .i64 0)/\∃sv2 fs2,ZF w1 w' ch w.heap.size mb M00 M2 v v' sv2 1 (fun i=>if i=0 then some pg else none) fs2 (ss1++[.pt 0 pg]++[.lay pg (pageBk ⟨0,0,[]⟩)])/\fs2.length=fs.length+2/\ZZ w1.heap.size w2.heap.size ch mb v' sv v' sv2 fs fs2 ss1 (ss1++[.pt 0 pg]++[.lay pg (pageBk ⟨0,0,[]⟩)]) w2 w' from
  fun w2 ch mb bx v v' sv fs hg hb hx hm=>ZmU api hT1.at_ hg hb hx hn hf ht hpg hmay (by omega) (by omega))
 have HLN:=hid (show ∀(w2:World) (ch mb:Nat) (v v' sv:Value),ZF w1 w2 ch w.heap.size mb M00 M00 v v' sv 0 (fun _=>none) [] []->Calls prog 93 #[.pointer (some ⟨ch,0,none⟩)] w2 fun e w'=>e=.returned (.int .i64 0)/\∃v2 sv2 fs2,ZF w1 w' ch w.heap.size mb M00 M1 v v2 sv2 0 (fun _=>none) fs2 ss1/\fs2.length=ss1.length/\ZZ w1.heap.size w2.heap.size ch mb v' sv v2 sv2 [] fs2 [] ss1 w2 w' from
  fun w2 ch mb v v' sv hg=>(Zhn api hT1.at_ hg hl1 (by simp;omega)).mono fun e w' z=>by
   obtain⟨e1,v2,sv2,fs2,z1,z2,z3⟩:=z
   exact⟨e1,v2,sv2,fs2,by simpa using z1,by simpa using z2,by simpa using z3⟩)
 have HFN:=hid (show ∀(w2:World) (ch mb:Nat) (v v' sv:Value) (fs:List Value),ZF w1 w2 ch w.heap.size mb M00 M2 v v' sv 1 (fun i=>if i=0 then some pg else none) fs (ss1++[.pt 0 pg]++[.lay pg (pageBk ⟨0,0,[]⟩)])->fs.length<=1002->Calls prog 98 #[.pointer (some ⟨ch,0,none⟩)] w2 fun e w'=>e=.returned (.int .i64 0)/\Zad D w1 F O p S q seq r b w.heap.size (runS S M2 L (ZcA M00 M2 (ss1++[.pt 0 pg]++[.lay pg (pageBk ⟨0,0,[]⟩)]))) w' from
  fun w2 ch mb v v' sv fs hg hm=>(ZeE api hT1.at_ hg hT1.len (fun k hk=>hT1.at_.pg.lt k hk) hT1.out hN hmayM (by omega) hok).mono fun e w' z=>⟨z.1,hT1.did z.2⟩)
 generalize runS S M2 L (ZcA M00 M2 (ss1++[.pt 0 pg]++[.lay pg (pageBk ⟨0,0,[]⟩)]))=L2 at HFN ⊢;clear hP htab hlen hout hl1 hn hf ht hpg hmay hN hmayM hok hb1 hst1 hT1;unfold M00 at HCO;go_enter func39,ntmps39;go_wp2_with fail;rw[<-hw1];clear hw1;refine HCO.out.mono ?_;rintro e w2⟨v',rfl,hg2⟩;obtain⟨ch,hch⟩:∃ch,ch=w1.heap.size+2:=⟨_,rfl⟩
 obtain⟨mb,hmb⟩:∃mb,mb=w1.heap.size+1:=⟨_,rfl⟩
 rw[<-hch,<-hmb]at hg2;rw[<-hch];have hg2:ZF w1 w2 ch w.heap.size mb M00 M00 (.slice none 0 0) v' (.slice none 0 0) 0 (fun _=>none) [] []:=hg2;obtain⟨w3,hw3⟩:∃w3,w3=w2.alloc (.cells #[.pointer (some ⟨ch,0,none⟩)] 153):=⟨_,rfl⟩
 obtain⟨w4,hw4⟩:∃w4,w4=w3.alloc (.cells #[.func (.func 93) #[.pointer (some ⟨ch,0,none⟩)] #[],.func (.func 94) #[] #[.pointer (some ⟨w2.heap.size,0,none⟩)],.func (.func 98) #[.pointer (some ⟨ch,0,none⟩)] #[]] 90):=⟨_,rfl⟩
 have hb3:Below w2.heap.size w2 w3:=by rw[hw3];exact(Below.refl _ _).alloc (ZZe _) _
 have hz3:w3.heap.size=w2.heap.size+1:=by rw[hw3];simp
 have hb4:Below w2.heap.size w2 w4:=by rw[hw4];exact hb3.alloc hb3.size _
 have hz4:w4.heap.size=w2.heap.size+2:=by rw[hw4];simp;omega
 have hbx:w4.heap[w2.heap.size]?=some (.cells #[.pointer (some ⟨ch,0,none⟩)] 153 (0,0)):=by
  rw[hw4];exact(Below.heap_alloc _ _ _ (by omega)).trans (by rw[hw3];exact heap_alloc_new _ _)
 have hrow:w4.heap[w2.heap.size+1]?=some (.cells #[.func (.func 93) #[.pointer (some ⟨ch,0,none⟩)] #[],.func (.func 94) #[] #[.pointer (some ⟨w2.heap.size,0,none⟩)],.func (.func 98) #[.pointer (some ⟨ch,0,none⟩)] #[]] 90 (0,0)):=by
  rw[hw4,<-hz3];exact heap_alloc_new _ _
 have hlt:=hg2.lt;have hx0:¬GX ch mb v' (.slice none 0 0) w2.heap.size:=fun e=>Nat.lt_irrefl _ (hlt _ e).2
 have hx1:¬GX ch mb v' (.slice none 0 0) (w2.heap.size+1):=fun e=>by have:=(hlt _ e).2;omega
 have hg4:=hg2.keep hb4;have hcell:∀W:World,W.heap[w2.heap.size+1]?=some (.cells #[.func (.func 93) #[.pointer (some ⟨ch,0,none⟩)] #[],.func (.func 94) #[] #[.pointer (some ⟨w2.heap.size,0,none⟩)],.func (.func 98) #[.pointer (some ⟨ch,0,none⟩)] #[]] 90 (0,0))->W.cell? ⟨w2.heap.size+1,0,none⟩=some (.func (.func 93) #[.pointer (some ⟨ch,0,none⟩)] #[])/\W.cell? ⟨w2.heap.size+1,1,none⟩=some (.func (.func 94) #[] #[.pointer (some ⟨w2.heap.size,0,none⟩)])/\W.cell? ⟨w2.heap.size+1,2,none⟩=some (.func (.func 98) #[.pointer (some ⟨ch,0,none⟩)] #[]):=fun W h=>⟨by rw[cell_of_row _ _ _ _ _ (0,0) h];rfl,by rw[cell_of_row _ _ _ _ _ (0,0) h];rfl,by rw[cell_of_row _ _ _ _ _ (0,0) h];rfl⟩
 have HTURN:=hid (ZqP (w:=w4) (g:=w2.heap.size+1) (cap:=3) (ch:=ch) (bx:=w2.heap.size)
  (P1:=fun wr=>∃v2 sv2 fs2,ZF w1 wr ch w.heap.size mb M00 M1 (.slice none 0 0) v2 sv2 0 (fun _=>none) fs2 ss1/\fs2.length=ss1.length/\wr.heap[w2.heap.size]?=some (.cells #[.pointer (some ⟨ch,0,none⟩)] 153 (0,0))/\¬GX ch mb v2 sv2 w2.heap.size/\wr.heap[w2.heap.size+1]?=some (.cells #[.func (.func 93) #[.pointer (some ⟨ch,0,none⟩)] #[],.func (.func 94) #[] #[.pointer (some ⟨w2.heap.size,0,none⟩)],.func (.func 98) #[.pointer (some ⟨ch,0,none⟩)] #[]] 90 (0,0))/\¬GX ch mb v2 sv2 (w2.heap.size+1))
  (P2:=fun wr=>∃v2 sv2 fs2,ZF w1 wr ch w.heap.size mb M00 M2 (.slice none 0 0) v2 sv2 1 (fun i=>if i=0 then some pg else none) fs2 (ss1++[.pt 0 pg]++[.lay pg (pageBk ⟨0,0,[]⟩)])/\fs2.length=ss1.length+2/\wr.heap[w2.heap.size+1]?=some (.cells #[.func (.func 93) #[.pointer (some ⟨ch,0,none⟩)] #[],.func (.func 94) #[] #[.pointer (some ⟨w2.heap.size,0,none⟩)],.func (.func 98) #[.pointer (some ⟨ch,0,none⟩)] #[]] 90 (0,0)))
  (P3:=fun wr=>Zad D w1 F O p S q seq r b w.heap.size L2 wr) (ZZe _) (hcell w4 hrow).1 (fun wr h=>by obtain⟨_,_,_,_,_,_,_,h5,_⟩:=h;exact(hcell wr h5).2.1) (fun wr h=>by obtain⟨_,_,_,_,_,h3⟩:=h;exact(hcell wr h3).2.2)
  ((HLN.out w4 ch mb _ v' _ hg4).mono fun e wr z=>by
   obtain⟨e1,v2,sv2,fs2,z1,z2,z3⟩:=z
   exact⟨e1,v2,sv2,fs2,z1,z2,(z3.touch.block _ (by omega) hx0).trans hbx,fun q=>by
    rcases z3.own _ q with a|a
    · exact hx0 a
    · omega,(z3.touch.block _ (by omega) hx1).trans hrow,fun q=>by
    rcases z3.own _ q with a|a
    · exact hx1 a
    · omega⟩)
  (fun wr h=>by
   obtain⟨v2,sv2,fs2,z1,z2,z3,z4,z5,z6⟩:=h;refine(HFS.out wr ch mb w2.heap.size _ v2 sv2 fs2 z1 z3 z4 (by omega)).mono fun e W y=>?_
   obtain⟨e1,sv3,fs3,y1,y2,y3⟩:=y
   exact⟨e1,v2,sv3,fs3,y1,by omega,(y3.touch.block _ (ZZa.1 z5).1 z6).trans z5⟩)
  (fun wr h=>by
   obtain⟨v2,sv2,fs2,z1,z2,z3⟩:=h
   exact HFN.out wr ch mb _ v2 sv2 fs2 z1 (by omega)))
 have b0:w3.cell? ⟨w2.heap.size,0,none⟩=some (.pointer (some ⟨ch,0,none⟩)):=by rw[hw3,cell_of_row _ _ 0 _ _ (0,0) (heap_alloc_new _ _)];rfl
 have b0':=b0;rw[hw3]at b0';clear hg2 hb3 hb4 hz4 hbx hrow hlt hx0 hx1 hg4 hcell HLN HFS HFN HCO hch hmb;go_wp2_with fail;rw[<-hw3,<-hw4];clear hw3 hw4 b0 b0' hz3;refine HTURN.out.mono ?_;rintro e w5⟨rfl,O',t1,t2,t3⟩
 have HE:=hid (show Zad D w F O p S q seq r b w.heap.size L2 w5 from⟨O',t1,⟨t2.os.trans HB1.out.os,t2.tape.trans HB1.out.tape,t2.output.trans HB1.out.output,ZZf HB1.out.size t2.size,fun k hk hn=>(t2.block k (ZZd hk HB1.out.size) hn).trans (HB1.out.block k hk)⟩,fun k hk=>by
  rcases t3 k hk with a|a
  · exact .inl a
  · exact .inr (ZZf HB1.out.size a)⟩)
 clear t1 t2 t3 HTURN;go_wp2_with fail;go_ret2;exact⟨_,rfl,ZZe _,HE.out⟩
end
end Go.Proofs.YtlmkdmdbpopnhaaGreatDoor
