/- MetaA, MetaB, MetaC, MetaD, MetaE, EqIntsB. Conditions: in each theorem. -/
import Derived.Test.YtlmkdmdbpopnhaaGreatDoorG21
import Derived.Test.YtlmkdmdbpopnhaaGreatDoorG16
import Derived.Test.YtlmkdmdbpopnhaaGreatDoorG1
import Derived.Test.YtlmkdmdbpopnhaaGreatDoorG5
import Derived.Deep.RegionHeld3
import Derived.Lib.BufferWrite
import Derived.BigQuiet
set_option maxHeartbeats 6400000
set_option maxRecDepth 100000
set_option linter.unusedVariables false
open Go.Proofs.Tryz
open Go.Lib (hid)
namespace Go.Proofs.YtlmkdmdbpopnhaaGreatDoor
open Go.RowKit
theorem ZnT{l:List Int}{k:Nat}(h:Zgg (l.take k)=true)(hk:k<l.length)(hr:Zj (l[k]?.getD 0) 4=true):Zgg (l.take (k+1))=true:=by
 rw[List.take_succ_eq_append_getElem hk];rw[ZZc hk]at hr
 unfold Zgg at h ⊢
 rw[List.all_append,h];simpa using hr
theorem Zpe{l:List Int}{k:Nat}(hk:k<l.length)(hr:Zj (l[k]?.getD 0) 4=false):Zgg l=false:=by
 rw[ZZc hk]at hr
 cases h:Zgg l
 · rfl
 · have:=Zbu h (List.getElem_mem hk)
   have hr':Zj l[k] 4=false:=hr;rw[this]at hr';cases hr'
theorem ZnU{w:World}{B n:Nat}{A:Option Addr}{l:List Int}(c:Nat)(hr:RI w B A n l)(hm:n<=maxLen) :
 Calls prog 236 #[.slice A n c] w fun e w'=>e=.returned (.bool (Zgg l))/\w=w':=by
 unfold maxLen at hm;have hlen:=hr.len;go_enter func236,ntmps236;go_wp2_with fail
 go_loop[7] (fun i=>∃k:Nat,k<=n/\i=.int .i64 k/\Hid (Zgg (l.take k)=true)) (fun i=>n-(intOf i).toNat)
 case atStart=>exact⟨0,Nat.zero_le _,rfl,hid rfl⟩
 case round=>
  obtain⟨k,hk,rfl,hbef⟩:=hrel;by_cases hlt:k<n
  · obtain⟨b,off,rfl,hb,hcell⟩:=hr.2.2 (by omega);have hck:=hcell k hlt;have hlt':(k:Int)<(n:Int):=by omega
    cases hv:Zj (l[k]?.getD 0) 4
    · have HV:=hid hv;have HF:=hid (Zpe (by omega) hv);clear hv hcell;generalize l[k]?.getD 0=u at hck HV
      go_wp2_with (go_at_call 201;refine(ZfK _ _ _ HV.out).mono ?_;rintro e w' ⟨rfl,rfl⟩)
      go_ret;rw[HF.out];exact⟨rfl,rfl⟩
    · have HV:=hid hv;have HF:=hid (ZnT hbef.out (by omega) hv);clear hv hcell;generalize l[k]?.getD 0=u at hck HV
      go_wp2_with (go_at_call 201;refine(ZcB _ _ _ HV.out).mono ?_;rintro e w' ⟨rfl,rfl⟩)
      go_round
      case rel=>exact⟨k+1,by omega,by go_num,HF⟩
      case measure=>simp[intOf];omega
  · obtain rfl:k=n:=by omega
    have HF:=hid (show Zgg l=true by
     have:=hbef.out
     rwa[List.take_of_length_le (by omega)]at this)
    go_wp2;go_ret;rw[HF.out];exact⟨rfl,rfl⟩
theorem RI.lit(w:World)(e:TypeId)(l:List Int)(cs:Array Value)(hcs:cs=(l.map (Value.int .i64)).toArray)(h:∀x∈l,-9223372036854775808<=x/\x<=9223372036854775807):RI (w.alloc (.cells cs e)) (w.heap.size+1) (some ⟨w.heap.size,0,none⟩) l.length l:=by
 subst hcs;refine⟨rfl,h,fun hn=>⟨w.heap.size,0,rfl,Nat.lt_succ_self _,fun j hj=>?_⟩⟩;rw[Nat.zero_add,cell_of_row _ w.heap.size j _ e (0,0) (heap_alloc_new w _)];simp[ZZc hj]
theorem PutNil_any(x:Int)(k:Nat)(w:World)(hs:Zj x (k:Int)=true)(hk8:k<=8)(hx : -9223372036854775808<=x/\x<=9223372036854775807) :
 Calls prog 196 #[.slice none 0 0,.int .i64 x,.int .i64 (k:Int)] w fun e w'=>∃g,e=.returned (.slice (some ⟨g,0,none⟩) k k)/\w.heap.size<=g/\w'.heap[g]?=some (.cells ((Zr x k).map (Value.int .u8)).toArray 5 (0,0))/\Below w.heap.size w w':=by
 refine(ZhU none 0 0 0 [] x (k:Int) w RB.nil_ (Nat.zero_le _) (ZZe _) (by decide) hx.1 hx.2).mono ?_;rintro e w'⟨v,rfl,⟨g,rfl,hg,hh⟩,hb⟩
 have e1:ZhT [] x (k:Int)=Zr x k:=by
  unfold ZhT;rw[if_pos hs,Int.toNat_natCast,List.nil_append]
 rw[e1]at hh;exact⟨g,by rw[e1,Zc],hg,hh,hb⟩
theorem Zgi{L d e:List Int}{a:Nat}(h:a+d.length+e.length<=L.length):splice (splice L a d) (a+d.length) e=splice L a (d++e):=by
 have hP:(L.take a++d).length=a+d.length:=by simp;omega
 have e0:splice L a d=(L.take a++d)++L.drop (a+d.length):=by unfold splice;simp[List.append_assoc]
 have h1:((L.take a++d)++L.drop (a+d.length)).take (a+d.length)=L.take a++d:=List.take_left' hP
 have h2:((L.take a++d)++L.drop (a+d.length)).drop (a+d.length+e.length)=L.drop (a+(d++e).length):=by
  rw[<-List.drop_drop,List.drop_left' hP,List.drop_drop,List.length_append,Nat.add_assoc]
 rw[e0];unfold splice;rw[h1,h2];simp[List.append_assoc]
theorem row_src{w:World}{g:Nat}{l:List Int}(h:w.heap[g]?=some (.cells (l.map (Value.int .u8)).toArray 5 (0,0))):∀j v,(l.map (Value.int .u8))[j]?=some v->w.cell? ((⟨g,0,none⟩:Addr).add j)=some v:=by
 intro j v hv;rw[ZdL,Nat.zero_add,cell_of_row w g j _ _ (0,0) h,List.getElem?_toArray];exact hv
theorem Zi5{w:World}{A:Option Addr}{k cap:Nat}(d f n c:Int){l:List Int}(hr:RI w w.heap.size A k l)(hm:k<=maxLen)(hb:(-9223372036854775808<=f/\f<=9223372036854775807)/\(-9223372036854775808<=n/\n<=9223372036854775807)/\(-9223372036854775808<=c/\c<=9223372036854775807)) :
 Calls prog 210 #[.agg #[.int .i64 d,.int .i64 f,.int .i64 n,.int .i64 c,.slice A k cap]] w fun e w'=>e=.returned (.bool (Zft ⟨d,f,n,c,l⟩))/\Below w.heap.size w w':=by
 have hlen:=hr.len;have hbox:Below w.heap.size w (w.alloc (.cells #[.int .i64 d,.int .i64 f,.int .i64 n,.int .i64 c,.slice A k cap] 41)):=(Below.refl _ _).alloc (ZZe _) _
 have hmay:Zft ⟨d,f,n,c,l⟩=(decide (0<=d)&&decide (d<=10)&&decide (1<=(k:Int))&&decide ((k:Int)<=20)&&Zgg [f,n,c]&&Zgg l):=by
  unfold Zft
  show(decide (0<=d)&&decide (d<=10)&&decide (1<=l.length)&&decide (l.length<=20)&&Zgg [f,n,c]&&Zgg l)=_
  rw[hlen]
  congr 4
  · have:(1<=k)=(1<=(k:Int)):=propext (by omega)
    simp[this]
  · have:(k<=20)=((k:Int)<=20):=propext (by omega)
    simp[this]
 rw[hmay];have hbox2:=hbox.alloc hbox.size (.cells #[.int .i64 f,.int .i64 n,.int .i64 c] 3)
 have hlit:RI ((w.alloc (.cells #[.int .i64 d,.int .i64 f,.int .i64 n,.int .i64 c,.slice A k cap] 41)).alloc (.cells #[.int .i64 f,.int .i64 n,.int .i64 c] 3)) (w.heap.size+2) (some ⟨w.heap.size+1,0,none⟩) 3 [f,n,c]:=by
  have:=RI.lit (w.alloc (.cells #[.int .i64 d,.int .i64 f,.int .i64 n,.int .i64 c,.slice A k cap] 41)) 3 [f,n,c] #[.int .i64 f,.int .i64 n,.int .i64 c] rfl (fun x hx=>by
   simp at hx;rcases hx with rfl|rfl|rfl
   · exact hb.1
   · exact hb.2.1
   · exact hb.2.2)
  simpa using this
 have HF3:=hid (ZnU 3 hlit (by decide));have HFD:=hid (ZnU cap (hr.below hbox2) hm);have HB1:=hid hbox;have HB2:=hid hbox2;clear hmay hlit hbox hbox2 hr hlen hb;generalize g1:decide (0<=d)=b1;generalize g2:decide (d<=10)=b2;generalize g3:decide (1<=(k:Int))=b3;generalize g4:decide ((k:Int)<=20)=b4;generalize hx5:Zgg [f,n,c]=b5 at HF3;generalize hx6:Zgg l=b6 at HFD;clear hx5 hx6;cases b1
 · have hF:=hid HB1.out;clear HB1 HB2 HF3 HFD;go_enter func210,ntmps210;go_wp2;go_ret;exact⟨rfl,hF.out⟩
 cases b2
 · have hF:=hid HB1.out;clear HB1 HB2 HF3 HFD;go_enter func210,ntmps210;go_wp2;go_ret;exact⟨rfl,hF.out⟩
 cases b3
 · have hF:=hid HB1.out;clear HB1 HB2 HF3 HFD;go_enter func210,ntmps210;go_wp2;go_ret;exact⟨rfl,hF.out⟩
 cases b4
 · have hF:=hid HB1.out;clear HB1 HB2 HF3 HFD;go_enter func210,ntmps210;go_wp2;go_ret;exact⟨rfl,hF.out⟩
 cases b5
 · go_enter func210,ntmps210;go_wp2_with fail;refine HF3.out.mono ?_;rintro e w'⟨rfl,rfl⟩;go_wp2;go_ret;exact⟨rfl,HB2.out⟩
 cases b6
 · go_enter func210,ntmps210;go_wp2_with fail;refine HF3.out.mono ?_;rintro e w'⟨rfl,rfl⟩;go_wp2_with fail;refine HFD.out.mono ?_;rintro e w'⟨rfl,rfl⟩;go_wp2;go_ret;exact⟨rfl,HB2.out⟩
 · go_enter func210,ntmps210;go_wp2_with fail;refine HF3.out.mono ?_;rintro e w'⟨rfl,rfl⟩;go_wp2_with fail;refine HFD.out.mono ?_;rintro e w'⟨rfl,rfl⟩;go_wp2;go_ret;exact⟨rfl,HB2.out⟩
theorem Ze0{w:World}{g a s n cap B:Nat}{A:Option Addr}{L l:List Int}(hp:w.heap[g]?=some (.cells (L.map (Value.int .u8)).toArray 5 (0,0)))(hL:L.length=240)(hr:RI w B A n l)(hB:B<=w.heap.size)(hA:0<n->∀x,A=some x->x.block≠g)(hs:s=1∨s=4)(ha:a+s*n<240)(hfit:∀x∈l,Zj x (s:Int)=true) :
 Calls prog 211 #[.slice (some ⟨g,0,none⟩) 240 240,.int .i64 (a:Int),.int .i64 (s:Int),.slice A n cap] w fun e w'=>e=.returned (.int .i64 ((a+s*n:Nat):Int))/\w'.heap[g]?=some (.cells ((splice L a (ZS s l)).map (Value.int .u8)).toArray 5 (0,0))/\Zf (fun j=>j=g) w w':=by
 have hlen:=hr.len;have hgl:g<w.heap.size:=(ZZa.1 hp).1;have hs8:1<=s/\s<=8:=by omega
 have HFIT:=hid hfit;have HLL:=hid hL;have HBY:=hid hr.2.1;have HR:=hid hr;have HBG:=hid hB;have HA:=hid hA;have HN:=hid hlen;have HP:=hid hp
 have hn240:n<=240:=by
  rcases hs with rfl|rfl <;> omega
 have HSS:=hid hs;clear hfit hL hlen hr hB hp hs hA;go_enter func211,ntmps211;go_wp2_with fail
 go_loopw[1,13] (fun av i wr=>∃k:Nat,k<=n/\i=.int .i64 k/\av=.int .i64 ((a+s*k:Nat):Int)/\Hid (wr.heap[g]?=some (.cells ((splice L a (ZS s (l.take k))).map (Value.int .u8)).toArray 5 (0,0)))/\Hid (Zf (fun j=>j=g) w wr)) (fun _ i _=>n-(intOf i).toNat)
 case atStart=>
  refine⟨0,Nat.zero_le _,rfl,by rw[Nat.mul_zero,Nat.add_zero],hid ?_,hid (Zf.refl _ _)⟩;rw[List.take_zero,show splice L a (ZS s [])=L from by unfold splice;simp[ZS]];exact HP.out
 case round=>
  obtain⟨k,hk,rfl,rfl,hblk,htc⟩:=hrel;by_cases hlt:k<n
  · have hlt':(k:Int)<(n:Int):=by omega
    obtain⟨b,off,rfl,hb,hcell⟩:=HR.out.2.2 (by omega);have hck:=(World.cell?_of_block (a:=⟨b,off+k,none⟩) (htc.out.block b (by have:=HBG.out;omega) (HA.out (by omega) _ rfl))).trans (hcell k hlt)
    have hmem:(l[k]?.getD 0)∈l:=by
     rw[ZZc (show k<l.length by have:=HN.out;omega)];exact List.getElem_mem _
    have HPUT:=hid (fun w1=>PutNil_any (l[k]?.getD 0) s w1 (HFIT.out _ hmem) hs8.2 (HBY.out _ hmem))
    have hat:a+s*k+s<=a+s*n:=by
     have:s*(k+1)<=s*n:=Nat.mul_le_mul_left s hlt
     rw[Nat.mul_succ]at this;omega
    have HNX:=hid (show splice (splice L a (ZS s (l.take k))) (a+s*k) (Zr (l[k]?.getD 0) s)=splice L a (ZS s (l.take (k+1)))from by
     have hkl:k<l.length:=by have:=HN.out;omega
     have e1:(ZS s (l.take k)).length=s*k:=by rw[Zi,List.length_take,Nat.min_eq_left (by omega)]
     have:=Zgi (L:=L) (d:=ZS s (l.take k)) (e:=Zr (l[k]?.getD 0) s) (a:=a) (by rw[e1,Zc,HLL.out];omega)
     rw[e1]at this;rw[this,List.take_succ_eq_append_getElem hkl,Zdz,ZZc hkl]
     congr 2
     show Zr l[k] s=Zr l[k] s++[]
     rw[List.append_nil])
    have HLS:=hid (show(splice L a (ZS s (l.take k))).length=240 from by
     rw[length_splice _ _ _ (by rw[Zi,List.length_take,HLL.out,Nat.min_eq_left (by have:=HN.out;omega)];omega)]
     exact HLL.out)
    have hat2:a+s*k<240:=by omega
    have hne:¬(a+s*k=240):=by omega
    have hI1:(0:Int)<=((a+s*k:Nat):Int):=by omega
    have hI2:((a+s*k:Nat):Int)<=240:=by omega
    have hI3:IntKind.i64.wrap (((a+s*k:Nat):Int)+(s:Int))=((a+s*k+s:Nat):Int):=by unfold IntKind.wrap;simp[IntKind.bits,IntKind.signed];omega
    have hgwr:g<wr.heap.size:=ZZd hgl htc.out.size;clear hcell hmem;generalize hLk:splice L a (ZS s (l.take k))=Lk at *;generalize l[k]?.getD 0=u at *;generalize hak:a+s*k=ak at *;go_wp2_with fail
    go_region_held3 (fun w'=>True) (exact trivial)
     (first
      | (go_at_call 196;refine(HPUT.out _).mono ?_;rintro e w2 ⟨g2,rfl,hg2,hh2,hb2⟩)
      | (refine Zfo (by rfl) _ _ 55 55 (by rfl) 5 underlying55 ZfJ (some ⟨g,ak,none⟩) ⟨g2,0,none⟩ (240-ak) (240-ak) s s (by rfl) (by rfl) g ak rfl (Lk.map (Value.int .u8)) 5 ((hb2.block g hgwr).trans hblk.out) ((Zr u s).map (Value.int .u8)) (by rw[List.length_map,Zc];exact(Nat.min_eq_left (by omega)).symm) (fun j v hj=>row_src hh2 j v hj) (by rw[List.length_map,List.length_map,Zc,HLS.out];omega) (Zai _) ?_;intro w3 hblk3 htc3))
    have HE:=hid (show w3.heap[g]?=some (.cells ((splice L a (ZS s (l.take (k+1)))).map (Value.int .u8)).toArray 5 (0,0))from by
     have:=hblk3.out
     have hsm:=ZeV (L:=Lk) (d:=Zr u s) (tl:=[]) (o:=ak) (by rw[Zc,HLS.out];omega);rw[List.append_nil,List.append_nil]at hsm;rw[hsm,HNX.out]at this
     exact this)
    have HT:=hid (show Zf (fun j=>j=g) w w3 from by
     have t1:=htc.out;have t3:=htc3.out;have h2s:wr.heap.size<=w2.heap.size:=hb2.size
     exact⟨t3.os.trans (hb2.os.trans t1.os),t3.tape.trans (hb2.tape.trans t1.tape),t3.output.trans (hb2.output.trans t1.output),ZZf t1.size (ZZf h2s t3.size),fun j hj hn=>(t3.block j (ZZd hj (ZZf t1.size h2s)) hn).trans ((hb2.block j (ZZd hj t1.size)).trans (t1.block j hj hn))⟩)
    have HAK:=hid (show ak+s=a+s*(k+1) by rw[<-hak,Nat.mul_succ,Nat.add_assoc]);clear hblk htc hblk3 htc3 hb2 hh2 hg2 HPUT HNX hak;rw[Zc,hI3];go_wp2;go_roundw
    case rel=>exact⟨k+1,by omega,by go_num,by rw[HAK.out],HE,HT⟩
    case measure=>simp[intOf];omega
  · obtain rfl:k=n:=by omega
    have HE:=hid (show wr.heap[g]?=some (.cells ((splice L a (ZS s l)).map (Value.int .u8)).toArray 5 (0,0))from by
     have:=hblk.out
     rwa[List.take_of_length_le (by have:=HN.out;omega)]at this)
    go_wp2;go_ret;exact⟨rfl,HE.out,htc.out⟩
def ZdA(w:World)(b:Nat)(d f n c:Int)(v:Value):Prop:=w.heap[b]?=some (.cells #[.int .i64 d,.int .i64 f,.int .i64 n,.int .i64 c,v] 41 (0,0))
section
variable{w w':World}{b:Nat}{d f n c:Int}{v:Value}
theorem ZdA.new(w:World)(d f n c:Int)(v:Value):ZdA (w.alloc (.cells #[.int .i64 d,.int .i64 f,.int .i64 n,.int .i64 c,v] 41)) w.heap.size d f n c v:=heap_alloc_new _ _
theorem ZdA.cells(h:ZdA w b d f n c v):w.cell? ⟨b,0,none⟩=some (.int .i64 d)/\w.cell? ⟨b,1,none⟩=some (.int .i64 f)/\w.cell? ⟨b,2,none⟩=some (.int .i64 n)/\w.cell? ⟨b,3,none⟩=some (.int .i64 c)/\w.cell? ⟨b,4,none⟩=some v/\b<w.heap.size:=by
 refine⟨?_,?_,?_,?_,?_,(ZZa.1 h).1⟩
 · rw[cell_of_row w b 0 _ _ (0,0) h];rfl
 · rw[cell_of_row w b 1 _ _ (0,0) h];rfl
 · rw[cell_of_row w b 2 _ _ (0,0) h];rfl
 · rw[cell_of_row w b 3 _ _ (0,0) h];rfl
 · rw[cell_of_row w b 4 _ _ (0,0) h];rfl
theorem ZdA.keep(h:ZdA w b d f n c v)(e:w'.heap[b]?=w.heap[b]?):ZdA w' b d f n c v:=e.trans h
theorem ZdA.below(h:ZdA w b d f n c v)(hb:Below w.heap.size w w'):ZdA w' b d f n c v:=h.keep (hb.block b h.cells.2.2.2.2.2)
end
theorem Zbw{L d e:List Int}{k:Nat}(hk:k=d.length)(h:d.length+e.length<=L.length):splice (splice L 0 d) k e=splice L 0 (d++e):=by
 subst hk
 have:=Zgi (L:=L) (d:=d) (e:=e) (a:=0) (by omega)
 rw[Nat.zero_add]at this;exact this
theorem Zln{m:MV}:splice (Zcm 240 0) 0 (Zbn m)=ZM m:=by
 unfold splice ZM Zcm;rw[List.take_zero,List.nil_append,Nat.zero_add,List.drop_replicate]
theorem Zkz:((Zcm 240 0).map (Value.int .u8))=List.replicate 240 (Value.int .u8 0):=by unfold Zcm;rw[List.map_replicate]
theorem ZkA{w:World}{g:Nat}(h:w.heap[g]?=some (.cells ((Zcm 240 0).map (Value.int .u8)).toArray 5 (0,0)))(ty:TypeId):∃w',(Builtin.copy_ #[55,9] ty #[.slice (some ⟨g,0,none⟩) 240 240,.string {data:=#[69,88,67,72]}]).run prog w=.ok (.int .i64 4) w'/\w'.heap[g]?=some (.cells ((splice (Zcm 240 0) 0 Za8).map (Value.int .u8)).toArray 5 (0,0))/\Zf (fun j=>j=g) w w':=by
 have hrun:=Lib.run_copy_row_string (P:=prog) w 55 9 ty 5 g 0 240 240 {data:=#[69,88,67,72]} _ 5 underlying55 ZfJ h (by decide) (by rw[List.size_toArray,List.length_map,Zv];decide);refine⟨_,hrun,?_,⟨rfl,rfl,rfl,by simp[World.setRow],fun k hk hne=>setRow_other w g k _ (fun e=>hne e)⟩⟩;rw[setRow_heap w g _ _ _ _ h];rfl
theorem Zfu{w1 w2:World}{b:Nat}{d f n c:Int}{v:Value}(hown2:w2.ownsRow w1.heap.size 5 1 (.slice (some ⟨w1.heap.size,0,none⟩) 240 240) 240 (madeCells (Value.int .u8 0).cells (240*1)).toList)(hb2:Below w1.heap.size w1 w2)(hmb:ZdA w1 b d f n c v) :
 ∃w3,(Builtin.copy_ #[55,9] 3 #[.slice (some ⟨w1.heap.size,0,none⟩) 240 240,.string {data:=#[69,88,67,72]}]).run prog w2=.ok (.int .i64 4) w3/\Hid (w3.heap[w1.heap.size]?=some (.cells ((splice (Zcm 240 0) 0 Za8).map (Value.int .u8)).toArray 5 (0,0))/\Zf (fun j=>j=w1.heap.size) w1 w3)/\ZdA w3 b d f n c v:=by
 have hblk2:=ZhR hown2;rw[<-Zkz]at hblk2;obtain⟨w3,hrun3,hblk3,ht3⟩:=ZkA hblk2 3;have hs2:=hb2.size;have hmb2:=hmb.below hb2;have hbl:=hmb.cells.2.2.2.2.2;exact⟨w3,hrun3,hid ⟨hblk3,⟨ht3.os.trans hb2.os,ht3.tape.trans hb2.tape,ht3.output.trans hb2.output,ZZf hs2 ht3.size,fun j hj hn=>(ht3.block j (ZZd hj hs2) hn).trans (hb2.block j hj)⟩⟩,hmb2.keep (ht3.block _ hmb2.cells.2.2.2.2.2 (fun e=>by omega))⟩
theorem ZkB{w:World}{A:Option Addr}{k cap:Nat}(d f n c:Int){l:List Int}(hr:RI w w.heap.size A k l)(hm:k<=maxLen)(hd : -9223372036854775808<=d/\d<=9223372036854775807)(hf : -9223372036854775808<=f/\f<=9223372036854775807)(hn : -9223372036854775808<=n/\n<=9223372036854775807)(hc : -9223372036854775808<=c/\c<=9223372036854775807) :
 Calls prog 159 #[.agg #[.int .i64 d,.int .i64 f,.int .i64 n,.int .i64 c,.slice A k cap]] w fun e w'=>∃A' n' c',e=.returned (.tuple #[.slice A' n' c',.int .i64 (Ziy ⟨d,f,n,c,l⟩).2])/\n'<=c'/\RB w' w'.heap.size A' n' (Ziy ⟨d,f,n,c,l⟩).1/\Below w.heap.size w w':=by
 obtain⟨i0,hi,hz0,hz1,hz2⟩:=info_parts Zbg;have hbox:Below w.heap.size w (w.alloc (.cells #[.int .i64 d,.int .i64 f,.int .i64 n,.int .i64 c,.slice A k cap] 41)):=(Below.refl _ _).alloc (ZZe _) _;have hmb:=ZdA.new w d f n c (.slice A k cap);have hsz:=hbox.size;have HM:=hid (Zi5 (w:=w.alloc (.cells #[.int .i64 d,.int .i64 f,.int .i64 n,.int .i64 c,.slice A k cap] 41)) (cap:=cap) d f n c ((hr.below hbox).more hsz) hm ⟨hf,hn,hc⟩);have HR:=hid hr;have HB:=hid hbox;have hlen:=hid hr.len;have hmay:=fun h=>ZeZ (m:=⟨d,f,n,c,l⟩) h
 obtain⟨c0,c1,c2,c3,c4,hbl⟩:=hmb.cells;have HMB:=hid hmb
 cases hmb2:Zft ⟨d,f,n,c,l⟩ with
 | false=>
  have hP:Ziy ⟨d,f,n,c,l⟩=([],1):=by unfold Ziy;rw[if_neg (by rw[hmb2];decide)]
  rw[hmb2]at HM;rw[hP];clear hP hmay hmb2 hmb hbox hr;go_enter func159,ntmps159;go_wp2_with fail;refine HM.out.mono ?_;rintro e w1⟨rfl,hb1⟩;have hF:=hid (HB.out.trans (hb1.mono hsz));clear hb1;go_wp2;go_ret2;exact⟨none,0,0,rfl,ZZe _,RB.nil_,hF.out⟩
 | true=>
  obtain⟨⟨m1,m2⟩,⟨m3,m4⟩,m5,m6⟩:=hmay hmb2;have hk20:k<=20:=by have:=hlen.out;simp at m4;omega
  have hP:Ziy ⟨d,f,n,c,l⟩=(ZM ⟨d,f,n,c,l⟩,0):=by unfold Ziy;rw[if_pos hmb2]
  have HME:=hid (Zln (m:=⟨d,f,n,c,l⟩));have HML:=hid (ZaE (m:=⟨d,f,n,c,l⟩) (by simp at m4 ⊢;omega));have HFD:Hid (∀x∈l,Zj x ((4:Nat):Int)=true):=hid fun x hx=>Zbu m6 hx
  have HF3:Hid (∀x∈[f,n,c],Zj x ((4:Nat):Int)=true):=hid fun x hx=>Zbu m5 hx
  have HF1:Hid (∀x∈[d,(k:Int)],Zj x ((1:Nat):Int)=true):=hid fun x hx=>by
   simp at hx m1 m2;rcases hx with rfl|rfl
   · exact Zi4 (by omega)
   · exact Zi4 (by omega)
  rw[hmb2]at HM;rw[hP];clear hP hmay hmb2 hmb hbox hr m1 m2 m3 m4 m5 m6;go_enter func159,ntmps159;go_wp2_with fail;refine HM.out.mono ?_;rintro e w1⟨rfl,hb1⟩;have hmb1:=HMB.out.below hb1;have hb01:=HB.out.trans (hb1.mono hsz);have hs1:=hb01.size;obtain⟨c0,c1,c2,c3,c4,hbl1⟩:=hmb1.cells
  go_wp2_with (first
   | (refine wpList_make_full w1 rfl _ _ 55 rfl w1.heap.size 5 i0 (.int .u8 0) 1 underlying55 hi hz0 hz1 .i64 .i64 _ _ 240 rfl rfl (by simp) (by simp) (by rw[hz2];decide) (by decide) (ZZe _) ?_;intro w2 hown2 hg2;have hb2:Below w1.heap.size w1 w2:=(Below.refl _ _).grown hg2 (ZZe _) (by simp);obtain⟨w3,hrun3,HK3,hmb3⟩:=Zfu hown2 hb2 hmb1;obtain⟨c0,c1,c2,c3,c4,hbl3⟩:=hmb3.cells;clear hown2 hg2 hb2))
  have HG3:=hid HK3.out.1;have HT3:=hid HK3.out.2;have hgw:w1.heap.size<w3.heap.size:=(ZZa.1 HG3.out).1;have hbW3:=hid (hb01.trans (HT3.out.below (B:=w.heap.size) (fun j e=>by rw[e];exact hs1) hs1));have hX4:Below w3.heap.size w3 (w3.alloc (.cells #[.int .i64 d,.int .i64 (k:Int)] 3)):=(Below.refl _ _).alloc (ZZe _) _
  have HL4:=hid (Ze0 (cap:=2) (w:=w3.alloc (.cells #[.int .i64 d,.int .i64 (k:Int)] 3)) (g:=w1.heap.size) (a:=4) (s:=1) (n:=2) (L:=splice (Zcm 240 0) 0 Za8) (l:=[d,(k:Int)]) ((hX4.block _ hgw).trans HG3.out) (by rw[length_splice _ _ _ (by rw[Zv];decide),Zv]) (RI.lit w3 3 [d,(k:Int)] #[.int .i64 d,.int .i64 (k:Int)] rfl (fun x hx=>by
   simp at hx;rcases hx with rfl|rfl
   · exact hd
   · omega)) (by simp) (fun _ x hx=>by cases hx;show ¬w3.heap.size=w1.heap.size;omega) (.inl rfl) (by decide) HF1.out)
  rw[show((4+1*2:Nat):Int)=6 from rfl,show((4:Nat):Int)=4 from rfl,show((1:Nat):Int)=1 from rfl,Zbw (L:=Zcm 240 0) (k:=4) (d:=Za8) rfl (by rw[Zi,Zv];show 4+1*2<=240;decide)]at HL4;have hmb4:=hid (hmb3.below hX4);have hbX4:=hid (hbW3.out.trans (hX4.mono hbW3.out.size));clear hX4 hmb3;go_wp2_with fail;refine HL4.out.mono ?_;rintro e w4⟨rfl,hblk4,ht4⟩;have hmb5:=hmb4.out.keep (ht4.block _ hmb4.out.cells.2.2.2.2.2 (fun e=>by omega));have hbW4:=hid (hbX4.out.trans (ht4.below (B:=w.heap.size) (fun j e=>by rw[e];exact hs1) hbX4.out.size));have hgw4:w1.heap.size<w4.heap.size:=(ZZa.1 hblk4).1;have HG4:=hid hblk4;clear HL4 HG3 hbX4 hbW3 hmb4 ht4 hblk4 c0 c1 c2 c3 c4;obtain⟨c0,c1,c2,c3,c4,hbl4⟩:=hmb5.cells;have hX5:Below w4.heap.size w4 (w4.alloc (.cells #[.int .i64 f,.int .i64 n,.int .i64 c] 3)):=(Below.refl _ _).alloc (ZZe _) _
  have HL5:=hid (Ze0 (cap:=3) (w:=w4.alloc (.cells #[.int .i64 f,.int .i64 n,.int .i64 c] 3)) (g:=w1.heap.size) (a:=6) (s:=4) (n:=3) (L:=splice (Zcm 240 0) 0 (Za8++ZS 1 [d,(k:Int)])) (l:=[f,n,c]) ((hX5.block _ hgw4).trans HG4.out) (by rw[length_splice _ _ _ (by rw[Zv,List.length_append,Zi];show 0+(4+1*2)<=240;decide),Zv]) (RI.lit w4 3 [f,n,c] #[.int .i64 f,.int .i64 n,.int .i64 c] rfl (fun x hx=>by
   simp at hx;rcases hx with rfl|rfl|rfl
   · exact hf
   · exact hn
   · exact hc)) (by simp) (fun _ x hx=>by cases hx;show ¬w4.heap.size=w1.heap.size;omega) (.inr rfl) (by decide) HF3.out)
  rw[show((6+4*3:Nat):Int)=18 from rfl,show((6:Nat):Int)=6 from rfl,show((4:Nat):Int)=4 from rfl,Zbw (L:=Zcm 240 0) (k:=6) (d:=Za8++ZS 1 [d,(k:Int)]) (by rw[List.length_append,Zi];rfl) (by rw[Zi,List.length_append,Zi,Zv];show 4+1*2+4*3<=240;decide)]at HL5;have hmb6:=hid (hmb5.below hX5);have hbX5:=hid (hbW4.out.trans (hX5.mono hbW4.out.size));clear hX5 hmb5;go_wp2_with fail;refine HL5.out.mono ?_;rintro e w5⟨rfl,hblk5,ht5⟩;have hmb7:=hmb6.out.keep (ht5.block _ hmb6.out.cells.2.2.2.2.2 (fun e=>by omega));have hbW5:=hid (hbX5.out.trans (ht5.below (B:=w.heap.size) (fun j e=>by rw[e];exact hs1) hbX5.out.size));have hgw5:w1.heap.size<w5.heap.size:=(ZZa.1 hblk5).1;have HG5:=hid hblk5;clear HL5 HG4 hbX5 hbW4 hmb6 ht5 hblk5 c0 c1 c2 c3 c4;obtain⟨c0,c1,c2,c3,c4,hbl5⟩:=hmb7.cells
  have HL6:=hid (Ze0 (cap:=cap) (w:=w5) (g:=w1.heap.size) (a:=18) (s:=4) (n:=k) (L:=splice (Zcm 240 0) 0 (Za8++ZS 1 [d,(k:Int)]++ZS 4 [f,n,c])) (l:=l) HG5.out (by rw[length_splice _ _ _ (by rw[Zv,List.length_append,List.length_append,Zi,Zi];show 0+(4+1*2+4*3)<=240;decide),Zv]) (HR.out.below hbW5.out) hbW5.out.size (fun h0 x hx=>by
   obtain⟨b,off,e,hb,_⟩:=HR.out.2.2 h0;rw[hx]at e;cases e;show ¬b=w1.heap.size
   omega) (.inr rfl) (by omega) HFD.out)
  have hfr:Za8++ZS 1 [d,(k:Int)]++ZS 4 [f,n,c]++ZS 4 l=Zbn ⟨d,f,n,c,l⟩:=by
   unfold Zbn;rw[show((l.length:Nat):Int)=(k:Int) by rw[hlen.out]]
  rw[show((18:Nat):Int)=18 from rfl,show((4:Nat):Int)=4 from rfl,Zbw (L:=Zcm 240 0) (k:=18) (d:=Za8++ZS 1 [d,(k:Int)]++ZS 4 [f,n,c]) (by rw[List.length_append,List.length_append,Zi,Zi];rfl) (by rw[Zi,List.length_append,List.length_append,Zi,Zi,Zv,hlen.out];show 4+2+12+4*k<=240;omega),hfr,HME.out]at HL6;clear hfr hmb7;go_wp2_with fail;refine HL6.out.mono ?_;rintro e w6⟨rfl,hblk6,ht6⟩;have hF:=hid (hbW5.out.trans (ht6.below (B:=w.heap.size) (fun j e=>by rw[e];exact hs1) hbW5.out.size));have hbyt:=Zee ⟨d,f,n,c,l⟩;have hRB:=hid (Zd2.rb (w:=w6) (g:=w1.heap.size) (L:=ZM ⟨d,f,n,c,l⟩) ⟨[],by rw[List.append_nil];exact hblk6⟩ HML.out hbyt);clear HL6 hblk6 ht6 hbyt HG5 hbW5 c0 c1 c2 c3 c4;go_wp2;go_ret2;exact⟨_,240,240,rfl,ZZe _,hRB.out,hF.out⟩
theorem ZdB{data:List Int}(hb:Ze data)(a s:Int) : -9223372036854775808<=at_ data a s/\at_ data a s<=9223372036854775807:=by
 unfold at_ getR;split
 · split
   · show(-9223372036854775808:Int)<=0/\(0:Int)<=9223372036854775807
     omega
   · show -9223372036854775808<=numOf _/\numOf _<=9223372036854775807;rw[ZdM _ ((hb.drop _).take _)];unfold wrap64;omega
 · show(-9223372036854775808:Int)<=0/\(0:Int)<=9223372036854775807
   omega
def ZgZ(w:World)(g:Nat)(l:List Int):Prop:=w.heap[g]?=some (.cells (l.map (Value.int .i64)).toArray 3 (0,0))
theorem ZgZ.lt{w:World}{g:Nat}{l:List Int}(h:ZgZ w g l):g<w.heap.size:=(ZZa.1 h).1
theorem ZgZ.keep{w w':World}{g:Nat}{l:List Int}(h:ZgZ w g l)(e:w'.heap[g]?=w.heap[g]?):ZgZ w' g l:=e.trans h
theorem ZgZ.ri{w:World}{g n:Nat}{l:List Int}(h:ZgZ w g l)(hn:l.length=n)(hb:∀x∈l,-9223372036854775808<=x/\x<=9223372036854775807):RI w w.heap.size (some ⟨g,0,none⟩) n l:=by
 refine⟨hn,hb,fun h0=>⟨g,0,rfl,h.lt,fun j hj=>?_⟩⟩;rw[Nat.zero_add,cell_of_row w g j _ _ (0,0) h];simp[ZZc (show j<l.length by omega)]
theorem ZgZ.cell{w:World}{g:Nat}{l:List Int}(h:ZgZ w g l){j:Nat}{x:Int}(hj:l[j]?=some x):w.cell? ⟨g,j,none⟩=some (.int .i64 x):=by
 rw[cell_of_row w g j _ _ (0,0) h,List.getElem?_toArray,List.getElem?_map,hj];rfl
theorem ZgZ.frozen{w:World}{g:Nat}{l:List Int}(h:ZgZ w g l)(j:Nat):w.frozen? ⟨g,j,none⟩=false:=by
 have h':w.heap[g]?=_:=h;simp[World.frozen?,h']
theorem ZgZ.set{w:World}{g:Nat}{l:List Int}(h:ZgZ w g l)(j:Nat)(x:Int):ZgZ (w.setCell ⟨g,j,none⟩ (.int .i64 x)) g (l.set j x):=by
 unfold ZgZ;rw[heap_setCell_same w g j _ _ _ h]
 congr 2
 rw[<-Array.toList_inj];simp[List.map_set]
theorem Zpf{w:World}{base e g n:Nat}(h:w.ownsRow base e 1 (.slice (some ⟨g,0,none⟩) n n) n (madeCells (Value.int .i64 0).cells (n*1)).toList):w.heap[g]?=some (.cells ((List.replicate n (0:Int)).map (Value.int .i64)).toArray e (0,0)):=by
 have:=Zhd h
 rw[show(Value.int .i64 0).cells = #[Value.int .i64 0]from rfl,toList_madeCells_one,Nat.mul_one]at this;rw[List.map_replicate];exact this
theorem Zqw{data:List Int}{a s:Int}{i k:Nat}(h:i<k):(ZgY data a s i++List.replicate (k-i) 0).set i (at_ data (a+i*s) s)=ZgY data a s (i+1)++List.replicate (k-(i+1)) 0:=by
 obtain⟨d,rfl⟩:∃d,k=i+1+d:=⟨k-(i+1),by omega⟩
 rw[show i+1+d-i=d+1 by omega,show i+1+d-(i+1)=d by omega,List.replicate_succ,List.set_append_right _ _ (by rw[Zbv];omega),Zbv,Nat.sub_self,List.set_cons_zero];show _=(ZgY data a s i++[_])++_;rw[List.append_assoc];rfl
theorem Ze1{data:List Int}(hb:Ze data)(a s:Int):∀k,∀x∈ZgY data a s k,-9223372036854775808<=x/\x<=9223372036854775807
 | 0=>fun x hx=>by cases hx
 | k+1=>fun x hx=>by
  rcases List.mem_append.1 hx with h|h
  · exact Ze1 hb a s k x h
  · obtain rfl:=List.mem_singleton.1 h;exact ZdB hb _ _
theorem ZkC{w:World}{B c k:Nat}{A:Option Addr}{data:List Int}{a s:Int}(hr:RB w B A 240 data)(hc:240<=c)(hB:B<=w.heap.size)(ha:0<=a/\a<=240)(hs:1<=s/\s<=4)(hk:k<=255) :
 Calls prog 222 #[.slice A 240 c,.int .i64 a,.int .i64 s,.int .i64 (k:Int)] w fun e w'=>∃g,e=.returned (.slice (some ⟨g,0,none⟩) k k)/\w.heap.size<=g/\ZgZ w' g (ZgY data a s k)/\Below w.heap.size w w':=by
 obtain⟨i0,hi,hz0,hz1,hz2⟩:=info_parts ZfW;have HG:=hid (fun(w1:World) (hb:Below w.heap.size w w1) (x:Int)=>Zb7 A 240 c B data x s w1 (hr.below (hb.mono hB)) hc (by decide));clear hr;go_enter func222,ntmps222
 go_wp2_with (first
  | (refine wpList_make_full w rfl _ _ 39 rfl w.heap.size 3 i0 (.int .i64 0) 1 underlying39 hi hz0 hz1 .i64 .i64 _ _ k rfl rfl (by simp) (by simp) (by rw[hz2];omega) (by unfold maxLen;omega) (ZZe _) ?_;intro w1 hown1 hg1;have hb1:Below w.heap.size w w1:=(Below.refl _ _).grown hg1 (ZZe _) (by simp);have hblk1:=hid (Zpf hown1);clear hown1 hg1))
 go_loopw[15] (fun i wr=>∃j:Nat,j<=k/\i=.int .i64 j/\Hid (ZgZ wr w.heap.size (ZgY data a s j++List.replicate (k-j) 0))/\Hid (Below w.heap.size w wr)) (fun i _=>k-(intOf i).toNat)
 case atStart=>exact⟨0,Nat.zero_le _,rfl,hid hblk1.out,hid hb1⟩
 case round=>
  obtain⟨j,hj,rfl,hblk,hbw⟩:=hrel;clear hb1 hblk1;by_cases hlt:j<k
  · have hlt':(j:Int)<(k:Int):=by omega
    have hm0:0<=(j:Int)*s:=Int.mul_nonneg (by omega) (by omega);have hm1:(j:Int)*s<=255*4:=Int.mul_le_mul (by omega) hs.2 (by omega) (by omega);have W1:IntKind.i64.wrap ((j:Int)*s)=(j:Int)*s:=by rw[IntKind.wrap_i64];omega
    have W2:IntKind.i64.wrap (a+(j:Int)*s)=a+(j:Int)*s:=by rw[IntKind.wrap_i64];omega
    have HGJ:=hid (HG.out wr hbw.out (a+(j:Int)*s));have hlenj:(ZgY data a s j++List.replicate (k-j) 0).length=k:=by rw[List.length_append,Zbv,List.length_replicate];omega
    obtain⟨old,hcell⟩:∃u,wr.cell? ⟨w.heap.size,j,none⟩=some (.int .i64 u):=⟨_,hblk.out.cell (j:=j) (ZZc (show j<(ZgY data a s j++List.replicate (k-j) 0).length by omega))⟩
    have hfz:=hblk.out.frozen j;have HSET:=hid (hblk.out.set j (at_ data (a+(j:Int)*s) s));rw[Zqw hlt]at HSET;have HB2:=hid (hbw.out.setCell (p:=⟨w.heap.size,j,none⟩) (ZZe _) (.int .i64 (at_ data (a+(j:Int)*s) s)));clear hlenj hblk hbw hm0 hm1;go_wp2_with fail;refine HGJ.out.mono ?_;rintro e w2⟨rfl,rfl⟩;go_wp2;go_roundw
    case rel=>exact⟨j+1,by omega,by go_num,HSET,HB2⟩
    case measure=>simp[intOf];omega
  · obtain rfl:j=k:=by omega
    have HE:=hid (show ZgZ wr w.heap.size (ZgY data a s j)from by
     have:=hblk.out
     rwa[Nat.sub_self,List.replicate_zero,List.append_nil]at this)
    go_wp2;go_ret;exact⟨_,rfl,ZZe _,HE.out,hbw.out⟩
theorem ZdA.frozen{w:World}{b:Nat}{d f n c:Int}{v:Value}(h:ZdA w b d f n c v)(i:Nat):w.frozen? ⟨b,i,none⟩=false:=by
 have h':w.heap[b]?=_:=h;simp[World.frozen?,h']
theorem ZdA.store{w:World}{b:Nat}{d f n c:Int}{v:Value}(h:ZdA w b d f n c v)(d' f' n' c':Int)(v':Value) :
 ZdA (((((w.setCell ⟨b,0,none⟩ (.int .i64 d')).setCell ⟨b,1,none⟩ (.int .i64 f')).setCell ⟨b,2,none⟩ (.int .i64 n')).setCell ⟨b,3,none⟩ (.int .i64 c')).setCell ⟨b,4,none⟩ v') b d' f' n' c' v':=by
 have h1:=heap_setCell_same w b 0 _ _ (.int .i64 d') h;have h2:=heap_setCell_same _ b 1 _ _ (.int .i64 f') h1;have h3:=heap_setCell_same _ b 2 _ _ (.int .i64 n') h2;have h4:=heap_setCell_same _ b 3 _ _ (.int .i64 c') h3;have h5:=heap_setCell_same _ b 4 _ _ v' h4;exact h5
theorem ZdQ{B:Nat}{w0 w:World}{b:Nat}{x0 x1 x2 x3 x4:Value}(h:Below B w0 w)(hb:B<=b):Below B w0 (((((w.setCell ⟨b,0,none⟩ x0).setCell ⟨b,1,none⟩ x1).setCell ⟨b,2,none⟩ x2).setCell ⟨b,3,none⟩ x3).setCell ⟨b,4,none⟩ x4):=
 ((((h.setCell hb _).setCell hb _).setCell hb _).setCell hb _).setCell hb _
theorem Ze2{w:World}{b g:Nat}{x0 x1 x2 x3 x4:Value}(hg:g≠b):(((((w.setCell ⟨b,0,none⟩ x0).setCell ⟨b,1,none⟩ x1).setCell ⟨b,2,none⟩ x2).setCell ⟨b,3,none⟩ x3).setCell ⟨b,4,none⟩ x4).heap[g]?=w.heap[g]?:=by
 rw[Below.heap_setCell _ _ _ _ hg,Below.heap_setCell _ _ _ _ hg,Below.heap_setCell _ _ _ _ hg,Below.heap_setCell _ _ _ _ hg,Below.heap_setCell _ _ _ _ hg]
theorem ZcF{w:World}{b g i:Nat}{v x0 x1 x2 x3 x4:Value}(hg:g≠b)(h:w.cell? ⟨g,i,none⟩=some v):(((((w.setCell ⟨b,0,none⟩ x0).setCell ⟨b,1,none⟩ x1).setCell ⟨b,2,none⟩ x2).setCell ⟨b,3,none⟩ x3).setCell ⟨b,4,none⟩ x4).cell? ⟨g,i,none⟩=some v:=(World.cell?_of_block (a:=⟨g,i,none⟩) (Ze2 hg)).trans h
theorem Zp5{data:List Int}(hb:Ze data)(hl:data.length=240):at_ data 5 1=((ZE data:Nat):Int)/\ZE data<=255:=by
 obtain⟨h0,h1⟩:=hb.getD 5
 have e:at_ data 5 1=numOf ((data.drop 5).take 1):=by
  unfold at_ getR;rw[if_pos ⟨by decide,by decide⟩,if_neg (by rw[hl];decide)];rfl
 have e2:(data.drop 5).take 1 = [data[5]?.getD 0]:=by
  rw[List.drop_eq_getElem_cons (show 5<data.length by omega),ZZc (show 5<data.length by omega)];rfl
 rw[e,e2];unfold ZE;generalize data[5]?.getD 0=x at h0 h1;refine⟨?_,by omega⟩;rw[ZdM _ (fun y hy=>by obtain rfl:=List.mem_singleton.1 hy;exact⟨h0,h1⟩)];show wrap64 (0*256+x)=_;unfold wrap64;omega
theorem Zpg{w:World}{B c:Nat}{A:Option Addr}{data:List Int}(hr:RB w B A 240 data)(hc:240<=c)(hB:B<=w.heap.size) :
 Calls prog 172 #[.slice A 240 c] w fun e w'=>∃g,e=.returned (.agg #[.int .i64 (at_ data 4 1),.int .i64 (at_ data 6 4),.int .i64 (at_ data 10 4),.int .i64 (at_ data 14 4),.slice (some ⟨g,0,none⟩) (ZE data) (ZE data)])/\w.heap.size<=g/\ZgZ w' g (ZgY data 18 4 (ZE data))/\Below w.heap.size w w':=by
 obtain⟨hK,hK255⟩:=Zp5 hr.bytes hr.len;have HR:=hid (fun(w1:World) (hb:Below w.heap.size w w1)=>hr.below (hb.mono hB));have hX:Below w.heap.size w (w.alloc (.cells #[.int .i64 0,.int .i64 0,.int .i64 0,.int .i64 0,.slice none 0 0] 41)):=(Below.refl _ _).alloc (ZZe _) _;have HC1:=hid (ZkC (a:=4) (s:=1) (k:=2) (HR.out _ hX) hc (ZZf hB hX.size) (by decide) (by decide) (by decide));have HMB:=hid (ZdA.new w 0 0 0 0 (.slice none 0 0));have HX:=hid hX;have hsX:(w.alloc (.cells #[.int .i64 0,.int .i64 0,.int .i64 0,.int .i64 0,.slice none 0 0] 41)).heap.size=w.heap.size+1:=by simp
 have HK:=hid hK;clear hX hr hK;generalize hKK:ZE data=K at *;clear hKK;go_enter func172,ntmps172;go_wp2_with fail;refine HC1.out.mono ?_;rintro e w1⟨g1,rfl,hg1,hi1,hb1⟩;have hb01:=HX.out.trans (hb1.mono HX.out.size);have hmb1:=HMB.out.below hb1;have HC2:=hid (ZkC (a:=6) (s:=4) (k:=3) (HR.out _ hb01) hc (ZZf hB hb01.size) (by decide) (by decide) (by decide));have HS1:=hid (ZZg hb01 (ZZg hmb1 hi1));rw[hsX]at hg1;have hb1s:w.heap.size+1<=w1.heap.size:=by have:=hb1.size;rw[hsX]at this;exact this
 clear hb01 hmb1 hi1 hb1 HC1 HMB;go_wp2_with fail;refine HC2.out.mono ?_;rintro e w2⟨g2,rfl,hg2,hi2,hb2⟩;obtain⟨hb01,hmb1,hi1⟩:=HS1.out;have hb02:=hb01.trans (hb2.mono hb01.size);have hmb2:=hmb1.below hb2;have hi12:=hi1.keep (hb2.block _ hi1.lt);have hg1l:=hi1.lt;have k0:w2.cell? ⟨g1,0,none⟩=some (.int .i64 (at_ data 4 1)):=hi12.cell rfl;have k1:w2.cell? ⟨g1,1,none⟩=some (.int .i64 (K:Int)):=by rw[<-HK.out];exact hi12.cell rfl
 have k2:w2.cell? ⟨g2,0,none⟩=some (.int .i64 (at_ data 6 4)):=hi2.cell rfl;have k3:w2.cell? ⟨g2,1,none⟩=some (.int .i64 (at_ data 10 4)):=hi2.cell rfl;have k4:w2.cell? ⟨g2,2,none⟩=some (.int .i64 (at_ data 14 4)):=hi2.cell rfl;have hl1:=hi12.lt;have hl2:=hi2.lt;have hn1:g1≠w.heap.size:=by omega
 have hn2:g2≠w.heap.size:=by have:=hb1s;omega
 have HC3:=hid (fun(W:World) (hW:Below w2.heap.size w2 W)=>ZkC (w:=W) (a:=18) (s:=4) (k:=K) (HR.out _ (hb02.trans (hW.mono hb02.size))) hc (ZZf hB (ZZf hb02.size hW.size)) (by decide) (by decide) hK255);have HS2:=hid (ZZg hb02 hmb2);clear hb01 hmb1 hi1 hb02 hmb2 hi12 hi2 hb2 HC2 HS1 HR HX HK;generalize hq0:at_ data 4 1=y0 at *;generalize hq1:at_ data 6 4=y1 at *;generalize hq2:at_ data 10 4=y2 at *;generalize hq3:at_ data 14 4=y3 at *;go_wp2_with fail;have c5:w2.cell? ⟨g1,0,none⟩=some (.int .i64 y0)/\w2.cell? ⟨g1,1,none⟩=some (.int .i64 (K:Int))/\w2.cell? ⟨g2,0,none⟩=some (.int .i64 y1)/\w2.cell? ⟨g2,1,none⟩=some (.int .i64 y2)/\w2.cell? ⟨g2,2,none⟩=some (.int .i64 y3):=⟨k0,k1,k2,k3,k4⟩
 go_region_held3 (fun w'=>w'.cell? ⟨g1,0,none⟩=some (.int .i64 y0)/\w'.cell? ⟨g1,1,none⟩=some (.int .i64 (K:Int))/\w'.cell? ⟨g2,0,none⟩=some (.int .i64 y1)/\w'.cell? ⟨g2,1,none⟩=some (.int .i64 y2)/\w'.cell? ⟨g2,2,none⟩=some (.int .i64 y3))
  (first|with_reducible exact c5|with_reducible exact⟨ZcF hn1 c5.1,ZcF hn1 c5.2.1,ZcF hn2 c5.2.2.1,ZcF hn2 c5.2.2.2.1,ZcF hn2 c5.2.2.2.2⟩|exact⟨k0,k1,k2,k3,k4⟩)
  ((go_at_call 222;refine(HC3.out _ (Below.refl _ _).drew).mono ?_;rintro e w5 ⟨g3,rfl,hg3,hi3,hb3⟩;have hb3':Below w2.heap.size w2 w5:=(Below.refl _ _).drew.trans hb3;have c5:w5.cell? ⟨g1,0,none⟩=some (.int .i64 y0)/\w5.cell? ⟨g1,1,none⟩=some (.int .i64 (K:Int))/\w5.cell? ⟨g2,0,none⟩=some (.int .i64 y1)/\w5.cell? ⟨g2,1,none⟩=some (.int .i64 y2)/\w5.cell? ⟨g2,2,none⟩=some (.int .i64 y3):=⟨(hb3'.cell (p:=⟨g1,0,none⟩) hl1).trans k0,(hb3'.cell (p:=⟨g1,1,none⟩) hl1).trans k1,(hb3'.cell (p:=⟨g2,0,none⟩) hl2).trans k2,(hb3'.cell (p:=⟨g2,1,none⟩) hl2).trans k3,(hb3'.cell (p:=⟨g2,2,none⟩) hl2).trans k4⟩;have hmb5:=HS2.out.2.below hb3';have f0:=hmb5.frozen 0;have f1:=hmb5.frozen 1;have f2:=hmb5.frozen 2;have f3:=hmb5.frozen 3;have f4:=hmb5.frozen 4;obtain⟨z0,z1,z2,z3,z4,z5⟩:=hmb5.cells))
 have HX5:=hid (ZZg (hmb5.store y0 y1 y2 y3 (.slice (some ⟨g3,0,none⟩) K K)) (ZZg hi3 (ZdQ (x0:=.int .i64 y0) (x1:=.int .i64 y1) (x2:=.int .i64 y2) (x3:=.int .i64 y3) (x4:=.slice (some ⟨g3,0,none⟩) K K) (HS2.out.1.trans (hb3'.mono HS2.out.1.size)) (ZZe _))));have hg3':g3≠w.heap.size/\w.heap.size<=g3:=by have:w2.heap.size<=g3:=hg3;omega
 clear hb3 hb3' hmb5 hi3 c5 f0 f1 f2 f3 f4 z0 z1 z2 z3 z4 z5 HC3;have hblk:=hid ((Ze2 (w:=w5) (x0:=.int .i64 y0) (x1:=.int .i64 y1) (x2:=.int .i64 y2) (x3:=.int .i64 y3) (x4:=.slice (some ⟨g3,0,none⟩) K K) hg3'.1));generalize hXX:(((((w5.setCell ⟨w.heap.size,0,none⟩ (Value.int IntKind.i64 y0)).setCell ⟨w.heap.size,1,none⟩ (Value.int IntKind.i64 y1)).setCell ⟨w.heap.size,2,none⟩ (Value.int IntKind.i64 y2)).setCell ⟨w.heap.size,3,none⟩ (Value.int IntKind.i64 y3)).setCell ⟨w.heap.size,4,none⟩ (Value.slice (some ⟨g3,0,none⟩) K K))=X at *;obtain⟨hmX,hiX,hbX⟩:=HX5.out;obtain⟨d0,d1,d2,d3,d4,_⟩:=hmX.cells;have HE:=hid (ZZg (hiX.keep hblk.out) hbX);clear hmX hiX hbX hXX hblk HX5;go_wp2
 refine bodyPost_ret (v:=.agg #[.int .i64 y0,.int .i64 y1,.int .i64 y2,.int .i64 y3,.slice (some ⟨g3,0,none⟩) K K]) (by
  simp[results,Tryz.results172,go_sem,d0,d1,d2,d3,d4]) rfl ?_
 subst hq0 hq1 hq2 hq3;exact⟨g3,rfl,hg3'.2,HE.out.1,HE.out.2⟩
theorem Zqx{l m:List Int}(h:l.length=m.length)(he:∀j,j<l.length->l[j]?.getD 0=m[j]?.getD 0):l=m:=by
 apply List.ext_getElem h;intro j h1 h2
 have:=he j h1
 rw[ZZc h1,ZZc h2]at this;exact this
theorem Zfv{B:Nat}{w w':World}(h:Below B w w'):∀n,Below B w (w'.drewN n):=fun n=>⟨h.os,h.tape,h.output,h.size,h.block⟩
theorem ZhY{w:World}{B B' n m:Nat}{A A':Option Addr}{l l':List Int}(c d:Nat)(hr:RI w B A n l)(hr':RI w B' A' m l')(hm:n<=maxLen)(hm':m<=maxLen)(hB:B<=w.heap.size)(hB':B'<=w.heap.size) :
 Calls prog 209 #[.slice A n c,.slice A' m d] w fun e w'=>e=.returned (.bool (decide (l=l')))/\Below w.heap.size w w':=by
 unfold maxLen at hm hm';have hlen:=hr.len;have hlen':=hr'.len;by_cases hnm:n=m
 · subst hnm;have hne:((n:Int) != (n:Int))=false:=by simp
   go_enter func209,ntmps209;go_wp2
   go_loopw[13] (fun i wr=>∃k:Nat,k<=n/\i=.int .i64 k/\Hid (∀j,j<k->l[j]?.getD 0=l'[j]?.getD 0)/\Below w.heap.size w wr) (fun i _=>n-(intOf i).toNat)
   case atStart=>exact⟨0,Nat.zero_le _,rfl,hid (fun j hj=>absurd hj (by omega)),Below.refl _ _⟩
   case round=>
    obtain⟨k,hk,rfl,hbef,hbw⟩:=hrel;by_cases hlt:k<n
    · obtain⟨b,off,rfl,hb,hcell⟩:=hr.2.2 (by omega);obtain⟨b',off',rfl,hb',hcell'⟩:=hr'.2.2 (by omega);have hck:=(hbw.cell (p:=⟨b,off+k,none⟩) (ZZd hb hB)).trans (hcell k hlt);have hck':=(hbw.cell (p:=⟨b',off'+k,none⟩) (ZZd hb' hB')).trans (hcell' k hlt);clear hcell hcell';have hlt':(k:Int)<(n:Int):=by omega
      by_cases hv:l[k]?.getD 0=l'[k]?.getD 0
      · have hn:=hid (fun j (hj:j<k+1)=>show l[j]?.getD 0=l'[j]?.getD 0 by
         rcases Nat.lt_or_ge j k with h|h
         · exact hbef.out j h
         · obtain rfl:j=k:=by omega
           exact hv)
        have kv:(l[k]?.getD 0 != l'[k]?.getD 0)=false:=by simp[hv]
        clear hv;generalize l[k]?.getD 0=u at hck kv;generalize l'[k]?.getD 0=u' at hck' kv;go_wp2_with fail
        go_quiet (fail)
        go_wp2;go_roundw
        case rel=>exact⟨k+1,by omega,by go_num,hn,Zfv hbw _⟩
        case measure=>simp[intOf];omega
      · have hd:=hid (show decide (l=l')=false by
         have:¬l=l':=fun e=>hv (by rw[e])
         simpa using this)
        have kv:(l[k]?.getD 0 != l'[k]?.getD 0)=true:=by simpa using hv
        clear hv;generalize l[k]?.getD 0=u at hck kv;generalize l'[k]?.getD 0=u' at hck' kv;go_wp2_with fail
        go_quiet (fail)
        go_wp2;go_ret;rw[hd.out];exact⟨rfl,Zfv hbw _⟩
    · obtain rfl:k=n:=by omega
      have hd:=hid (show decide (l=l')=true by
       have:l=l':=Zqx (by omega) (fun j hj=>hbef.out j (by omega))
       simpa using this)
      go_wp2;go_ret;rw[hd.out];exact⟨rfl,hbw⟩
 · have hne:((n:Int) != (m:Int))=true:=by simp;omega
   have hd:decide (l=l')=false:=by
    have:¬l=l':=fun e=>hnm (by rw[<-hlen,<-hlen',e])
    simpa using this
   rw[hd];clear hd hnm;go_enter func209,ntmps209;go_wp2;go_ret;exact⟨rfl,Below.refl _ _⟩
end Go.Proofs.YtlmkdmdbpopnhaaGreatDoor
