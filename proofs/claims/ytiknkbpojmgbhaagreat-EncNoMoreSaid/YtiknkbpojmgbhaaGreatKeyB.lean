/- FldP, FldA, FldB, KeyP, KeyA, KeyB. Conditions: in each theorem. -/
import Derived.Test.YtiknkbpojmgbhaaGreatRefPut
import Derived.Test.YtiknkbpojmgbhaaGreatIntApp
import Derived.Laws.CopyOwn
import Derived.Lib.BytesEntry
import Derived.Laws.Externs
import Derived.Lib.Walk
import Derived.Lib.Strings
import Derived.Lib.Slices
import Derived.Laws.Strings3
set_option maxHeartbeats 3200000
set_option maxRecDepth 100000
set_option linter.unusedVariables false
open Go.Proofs.Tryz
open Go.Lib (hid)
namespace Go.Proofs.YtiknkbpojmgbhaaGreat
open Go.RowKit
def Zj(k:Nat)(l:List Int):List Int:=l.flatMap (fun x=>ZaS x k)
def Z0(k:Nat)(b:List Int)(a m:Nat):List Int:=(List.range m).map (fun i=>numOf ((b.drop (a+k*i)).take k))
theorem Zbf(k:Nat)(l m:List Int):Zj k (l++m)=Zj k l++Zj k m:=by simp[Zj]
theorem Zdt(k:Nat)(x:Int):Zj k [x]=ZaS x k:=by simp[Zj]
theorem Zh(k:Nat)(l:List Int):(Zj k l).length=k*l.length:=by
 induction l with
 | nil=>simp[Zj]
 | cons x r ih=>
  rw[show x::r = [x]++r from rfl,Zbf,List.length_append,ih,Zdt,Zaj,List.length_append,Nat.mul_add];simp
theorem Zz(k:Nat)(l:List Int):Zm (Zj k l):=fun x hx=>by
 obtain⟨y,_,hy⟩:=List.mem_flatMap.1 hx;exact Zgn _ _ x hy
theorem ZcJ(k:Nat)(l:List Int)(i:Nat)(h:i<l.length):Zj k (l.take (i+1))=Zj k (l.take i)++ZaS (l[i]?.getD 0) k:=by
 rw[List.take_succ_eq_append_getElem h,Zbf,Zdt];simp[List.getElem?_eq_getElem h]
theorem Zbg(k:Nat)(b:List Int)(a m:Nat):Z0 k b a (m+1)=Z0 k b a m++[numOf ((b.drop (a+k*m)).take k)]:=by
 simp[Z0,List.range_succ]
theorem ZaJ(k:Nat)(b:List Int)(a m:Nat):(Z0 k b a m).length=m:=by simp[Z0]
theorem Zkc(l:List Int)(h:Zm l) : -9223372036854775808<=numOf l/\numOf l<=9223372036854775807:=by
 rw[Zhh l h];unfold wrap64;omega
theorem Z1(k:Nat)(b:List Int)(a m:Nat)(h:Zm b):∀x∈Z0 k b a m,-9223372036854775808<=x/\x<=9223372036854775807:=fun x hx=>by
 obtain⟨i,_,rfl⟩:=List.mem_map.1 hx;exact Zkc _ ((h.drop _).take _)
theorem ZiN(k:Nat)(p b:List Int)(a m:Nat)(h:p.length=a):Z0 k (p++b) a m=Z0 k b 0 m:=by
 subst h;unfold Z0;apply List.map_congr_left;intro i _;rw[List.drop_append,List.drop_of_length_le (by omega),List.nil_append]
 congr 3
 omega
theorem Zdb(k:Nat)(l:List Int)(h:∀x∈l,numOf (ZaS x k)=x):Z0 k (Zj k l) 0 l.length=l:=by
 apply List.ext_getElem (ZaJ _ _ _ _);intro i h1 h2;have hi:i<l.length:=h2;have e0:(Z0 k (Zj k l) 0 l.length)[i]=numOf (((Zj k l).drop (0+k*i)).take k):=by simp[Z0]
 rw[e0]
 have e:Zj k l=Zj k (l.take i)++(ZaS l[i] k++Zj k (l.drop (i+1))):=by
  rw[<-Zdt,<-Zbf,<-Zbf]
  congr 1
  rw[List.singleton_append,<-List.drop_eq_getElem_cons hi,List.take_append_drop]
 rw[e,Nat.zero_add,List.drop_append,List.drop_of_length_le (by rw[Zh,List.length_take];rw[Nat.min_eq_left (by omega)];exact Nat.le_refl _),List.nil_append,Zh,List.length_take,Nat.min_eq_left (by omega),Nat.sub_self,List.drop_zero,List.take_append_of_le_length (by rw[Zaj];exact Nat.le_refl _),List.take_of_length_le (by rw[Zaj];exact Nat.le_refl _)];exact h _ (List.getElem_mem hi)
theorem Zq9{x:Int}(h : -9223372036854775808<=x/\x<=9223372036854775807):numOf (ZaS x 8)=x:=Zjj (s:=8) (by simp[Zp]) h.1 h.2
theorem ZqH{x:Int}(h:0<=x/\x<4294967296):numOf (ZaS x 4)=x:=Zjj (s:=4) (by simp[Zp,h]) (by omega) (by omega)
def Zn(x:Int):Int:=min (max x 0) 4294967295
theorem ZcK(x:Int):0<=Zn x/\Zn x<4294967296:=by unfold Zn;omega
theorem Zgr{x:Int}(h:0<=x/\x<4294967296):Zn x=x:=by unfold Zn;omega
theorem Zpc(l:List Int)(x:Int):putR l x 8=l++ZaS x 8:=by unfold putR;rw[if_pos (by simp[Zp])];rfl
theorem Zpd(l:List Int)(x:Int)(h:0<=x/\x<4294967296):putR l x 4=l++ZaS x 4:=by unfold putR;rw[if_pos (by simp[Zp,h])];rfl
def ZaG(w0 w':World)(v:Value)(l:List Int):Prop:=w'.ownsRow w0.heap.size 5 1 v l.length (l.map (Value.int .u8))/\Below w0.heap.size w0 w'
theorem ZaG.nil_(w:World):ZaG w w (.slice none 0 0) []:=⟨World.ownsRow_nil _ _ _ _,Below.refl _ _⟩
theorem ZaG.read{w0 w':World}{v:Value}{l:List Int}(h:ZaG w0 w' v l)(hl:Zm l):∃A c,v=.slice A l.length c/\l.length<=c/\RB w' w'.heap.size A l.length l:=ZoW h.1 hl
theorem ZaG.of_le{w0 w1 w2:World}{v:Value}{l:List Int}(h:ZaG w1 w2 v l)(hb:Below w0.heap.size w0 w1):ZaG w0 w2 v l:=⟨Ze9 h.1 hb.size,hb.trans (h.2.mono hb.size)⟩
theorem RI.int{w:World}{B n:Nat}{A:Option Addr}{l:List Int}(h:RI w B A n l)(k:Nat) : -9223372036854775808<=l[k]?.getD 0/\l[k]?.getD 0<=9223372036854775807:=by
 rcases Nat.lt_or_ge k l.length with hk|hk
 · have e:l[k]?.getD 0=l[k]:=by simp[List.getElem?_eq_getElem hk]
   rw[e];exact h.2.1 _ (List.getElem_mem hk)
 · have e:l[k]?.getD 0=0:=by simp[List.getElem?_eq_none hk]
   rw[e];omega
theorem ZiO(A:Option Addr)(n c B:Nat)(l:List Int)(w:World)(hr:RI w B A n l)(hB:B<=w.heap.size)(hc:n<=c)(hm:n<=maxLen) :
 Calls prog 177 #[.slice A n c] w fun e w'=>∃v,e=.returned v/\ZaG w w' v (Zj 8 (l.take 15)):=by
 unfold maxLen at hm;have HL:=hid hr.len;by_cases h15:15<n
 · have h15c:15<=c:=by omega
   have h15i:(15:Int)<n:=by omega
   go_enter func177,ntmps177;go_wp2
   go_loopw[3,12] (fun v i wr=>∃k:Nat,k<=15/\i=.int .i64 k/\ZaG w wr v (Zj 8 (l.take k))) (fun _ i _=>15-(intOf i).toNat)
   case atStart=>exact⟨0,Nat.zero_le _,rfl,ZaG.nil_ _⟩
   case round=>
    obtain⟨k,hk,rfl,ho⟩:=hrel;by_cases hlt:k<15
    · obtain⟨b,off,rfl,hb,hcell⟩:=hr.2.2 (by omega);have hck:=(ho.2.cell (p:=⟨b,off+k,none⟩) (Nat.lt_of_lt_of_le hb hB)).trans (hcell k (by omega));clear hcell;obtain⟨hx0,hx1⟩:=hr.int k;obtain⟨A',c',rfl,hc',hrd⟩:=ho.read (Zz _ _);have hpl:(Zj 8 (l.take k)).length<=120:=by rw[Zh,List.length_take];omega
      have hst:=hid (ZcJ 8 l k (by have:=HL.out;omega));have HO:=hid ho;have HP:=hid (ZhH _ _ c' _ _ (l[k]?.getD 0) 8 wr hrd (Nat.le_refl _) hc' (by omega) hx0 hx1);clear ho hrd;go_wp2_with fail;refine HP.out.mono ?_;rintro e w2⟨v2,rfl,hown2,hb2⟩;rw[Zpc,<-hst.out]at hown2;have HN:=hid (ZaG.of_le (w0:=w) ⟨hown2,hb2⟩ HO.out.2);clear hown2 hb2;go_wp2;go_roundw
      case rel=>exact⟨k+1,by omega,by go_num,HN.out⟩
      case measure=>simp[intOf];omega
    · obtain rfl:k=15:=by omega
      go_wp2;go_ret;exact⟨_,rfl,ho⟩
 · have hle:(n:Int)<=15:=by omega
   rw[show l.take 15=l.take n by rw[List.take_of_length_le (by have:=HL.out;omega),List.take_of_length_le (by have:=HL.out;omega)]];go_enter func177,ntmps177;go_wp2
   go_loopw[3,12] (fun v i wr=>∃k:Nat,k<=n/\i=.int .i64 k/\ZaG w wr v (Zj 8 (l.take k))) (fun _ i _=>n-(intOf i).toNat)
   case atStart=>exact⟨0,Nat.zero_le _,rfl,ZaG.nil_ _⟩
   case round=>
    obtain⟨k,hk,rfl,ho⟩:=hrel;by_cases hlt:k<n
    · obtain⟨b,off,rfl,hb,hcell⟩:=hr.2.2 (by omega);have hck:=(ho.2.cell (p:=⟨b,off+k,none⟩) (Nat.lt_of_lt_of_le hb hB)).trans (hcell k (by omega));clear hcell;obtain⟨hx0,hx1⟩:=hr.int k;obtain⟨A',c',rfl,hc',hrd⟩:=ho.read (Zz _ _);have hpl:(Zj 8 (l.take k)).length<=120:=by rw[Zh,List.length_take];omega
      have hst:=hid (ZcJ 8 l k (by have:=HL.out;omega));have HO:=hid ho;have HP:=hid (ZhH _ _ c' _ _ (l[k]?.getD 0) 8 wr hrd (Nat.le_refl _) hc' (by omega) hx0 hx1);clear ho hrd;go_wp2_with fail;refine HP.out.mono ?_;rintro e w2⟨v2,rfl,hown2,hb2⟩;rw[Zpc,<-hst.out]at hown2;have HN:=hid (ZaG.of_le (w0:=w) ⟨hown2,hb2⟩ HO.out.2);clear hown2 hb2;go_wp2;go_roundw
      case rel=>exact⟨k+1,by omega,by go_num,HN.out⟩
      case measure=>simp[intOf];omega
    · obtain rfl:k=n:=by omega
      go_wp2;go_ret;exact⟨_,rfl,ho⟩
theorem ZiP(A:Option Addr)(n c B:Nat)(l:List Int)(w:World)(hr:RI w B A n l)(hB:B<=w.heap.size)(hc:n<=c)(hm:n<=maxLen) :
 Calls prog 179 #[.slice A n c] w fun e w'=>∃v,e=.returned v/\ZaG w w' v (Zj 8 (l.take 15)):=by
 unfold maxLen at hm;have HL:=hid hr.len;by_cases h15:15<n
 · have h15c:15<=c:=by omega
   have h15i:(15:Int)<n:=by omega
   go_enter func179,ntmps179;go_wp2
   go_loopw[3,4] (fun v i wr=>∃k:Nat,k<=15/\i=.int .i64 k/\ZaG w wr v (Zj 8 (l.take k))) (fun _ i _=>15-(intOf i).toNat)
   case atStart=>exact⟨0,Nat.zero_le _,rfl,ZaG.nil_ _⟩
   case round=>
    obtain⟨k,hk,rfl,ho⟩:=hrel;by_cases hlt:k<15
    · obtain⟨b,off,rfl,hb,hcell⟩:=hr.2.2 (by omega);have hck:=(ho.2.cell (p:=⟨b,off+k,none⟩) (Nat.lt_of_lt_of_le hb hB)).trans (hcell k (by omega));clear hcell;obtain⟨hx0,hx1⟩:=hr.int k;obtain⟨A',c',rfl,hc',hrd⟩:=ho.read (Zz _ _);have hpl:(Zj 8 (l.take k)).length<=120:=by rw[Zh,List.length_take];omega
      have hst:=hid (ZcJ 8 l k (by have:=HL.out;omega));have HO:=hid ho;have HP:=hid (ZcS _ _ c' _ _ (l[k]?.getD 0) 8 wr hrd (Nat.le_refl _) (by omega) hx0 hx1);clear ho hrd;go_wp2_with fail;refine HP.out.mono ?_;rintro e w2⟨v2,rfl,hown2,hb2⟩;rw[Zpc,<-hst.out]at hown2;have HN:=hid (ZaG.of_le (w0:=w) ⟨hown2,hb2⟩ HO.out.2);clear hown2 hb2;go_wp2;go_roundw
      case rel=>exact⟨k+1,by omega,by go_num,HN.out⟩
      case measure=>simp[intOf];omega
    · obtain rfl:k=15:=by omega
      go_wp2;go_ret;exact⟨_,rfl,ho⟩
 · have hle:(n:Int)<=15:=by omega
   rw[show l.take 15=l.take n by rw[List.take_of_length_le (by have:=HL.out;omega),List.take_of_length_le (by have:=HL.out;omega)]];go_enter func179,ntmps179;go_wp2
   go_loopw[3,4] (fun v i wr=>∃k:Nat,k<=n/\i=.int .i64 k/\ZaG w wr v (Zj 8 (l.take k))) (fun _ i _=>n-(intOf i).toNat)
   case atStart=>exact⟨0,Nat.zero_le _,rfl,ZaG.nil_ _⟩
   case round=>
    obtain⟨k,hk,rfl,ho⟩:=hrel;by_cases hlt:k<n
    · obtain⟨b,off,rfl,hb,hcell⟩:=hr.2.2 (by omega);have hck:=(ho.2.cell (p:=⟨b,off+k,none⟩) (Nat.lt_of_lt_of_le hb hB)).trans (hcell k (by omega));clear hcell;obtain⟨hx0,hx1⟩:=hr.int k;obtain⟨A',c',rfl,hc',hrd⟩:=ho.read (Zz _ _);have hpl:(Zj 8 (l.take k)).length<=120:=by rw[Zh,List.length_take];omega
      have hst:=hid (ZcJ 8 l k (by have:=HL.out;omega));have HO:=hid ho;have HP:=hid (ZcS _ _ c' _ _ (l[k]?.getD 0) 8 wr hrd (Nat.le_refl _) (by omega) hx0 hx1);clear ho hrd;go_wp2_with fail;refine HP.out.mono ?_;rintro e w2⟨v2,rfl,hown2,hb2⟩;rw[Zpc,<-hst.out]at hown2;have HN:=hid (ZaG.of_le (w0:=w) ⟨hown2,hb2⟩ HO.out.2);clear hown2 hb2;go_wp2;go_roundw
      case rel=>exact⟨k+1,by omega,by go_num,HN.out⟩
      case measure=>simp[intOf];omega
    · obtain rfl:k=n:=by omega
      go_wp2;go_ret;exact⟨_,rfl,ho⟩
def unpackR(b:List Int)(m:Int):List Int×Int:=if 0<=m/\m<=15 then(if(b.length:Int)=8*m then(Z0 8 b 0 m.toNat,0)else([],4))else([],1)
def Zov(w w':World)(e:Ending)(r:List Int×Int):Prop:=∃A k c,e=.returned (.tuple #[.slice A k c,.int .i64 r.2])/\k<=c/\k<=1000/\RI w' w'.heap.size A k r.1/\Below w.heap.size w w'
theorem Zov.none_(w:World)(x:Int):Zov w w (.returned (.tuple #[.slice none 0 0,.int .i64 x])) ([],x):=⟨none,0,0,rfl,Nat.le_refl _,Nat.zero_le _,RI.nil_,Below.refl _ _⟩
def Zey(l:List Int)(m:Nat)(e:TypeId):Obj:=.cells ((l++List.replicate (m-l.length) 0).map (Value.int .i64)).toArray e (0,0)
theorem Zkd{w:World}{base e g n:Nat}(h:w.ownsRow base e 1 (.slice (some ⟨g,0,none⟩) n n) n (madeCells (Value.int .i64 0).cells (n*1)).toList):w.heap[g]?=some (Zey [] n e):=by
 have:=ZgD h
 rw[show(Value.int .i64 0).cells = #[Value.int .i64 0]from rfl,toList_madeCells_one,Nat.mul_one]at this;rw[this];simp[Zey]
theorem ZiQ{w:World}{g m k:Nat}{e:TypeId}{l:List Int}(h:w.heap[g]?=some (Zey l m e)):w.frozen? ⟨g,k,none⟩=false:=by
 unfold Zey at h;simp[World.frozen?,h]
theorem Zl8{w:World}{g m k:Nat}{e:TypeId}{l:List Int}(h:w.heap[g]?=some (Zey l m e))(hk:k<m):∃u,w.cell? ⟨g,k,none⟩=some u:=by
 unfold Zey at h;rw[cell_of_row w g k _ e (0,0) h];exact⟨_,Array.getElem?_eq_getElem (by simp;omega)⟩
theorem Zl9{w:World}{g m k:Nat}{e:TypeId}{l:List Int}(x:Int)(h:w.heap[g]?=some (Zey l m e))(hk:l.length=k)(hm:k<m) :
 (w.setCell ⟨g,k,none⟩ (.int .i64 x)).heap[g]?=some (Zey (l++[x]) m e):=by
 unfold Zey at h ⊢
 rw[heap_setCell_same w g k _ e _ h];subst hk;obtain⟨d,rfl⟩:∃d,m=l.length+1+d:=⟨m-(l.length+1),by omega⟩
 congr 2
 rw[<-Array.toList_inj];have e1:l.length+1+d-l.length=d+1:=by omega
 have e2:l.length+1+d-(l++[x]).length=d:=by simp
 rw[e1,e2];simp[List.replicate_succ]
theorem Zma{w:World}{g m:Nat}{e:TypeId}{l:List Int}(h:w.heap[g]?=some (Zey l m e))(hm:l.length=m)(hl:∀x∈l,-9223372036854775808<=x/\x<=9223372036854775807):RI w w.heap.size (some ⟨g,0,none⟩) m l:=by
 subst hm;unfold Zey at h;rw[Nat.sub_self,List.replicate_zero,List.append_nil]at h;refine⟨rfl,hl,fun _=>⟨g,0,rfl,?_,fun j hj=>?_⟩⟩
 · rcases Nat.lt_or_ge g w.heap.size with h'|h'
   · exact h'
   · rw[Array.getElem?_eq_none h']at h;cases h
 · rw[Nat.zero_add,cell_of_row w g j _ e (0,0) h];simp[List.getElem?_eq_getElem hj]
theorem Zlg{b:List Int}{m k:Nat}(hb:b.length=8*m)(hk:k<m):ZmG b (8*(k:Int)) 8=(numOf ((b.drop (0+8*k)).take 8),0):=by
 unfold ZmG;rw[if_pos ⟨by decide,by omega⟩,if_neg (by omega)];rw[show(8*(k:Int)).toNat=0+8*k by omega];rfl
theorem Zcd(A:Option Addr)(n c B:Nat)(b:List Int)(many:Int)(w:World)(hr:RB w B A n b)(hB:B<=w.heap.size)(hc:n<=c)(hm:n<=maxLen)(hml : -9223372036854775808<=many)(hmh:many<=9223372036854775807) :
 Calls prog 197 #[.slice A n c,.int .i64 many] w fun e w'=>Zov w w' e (unpackR b many):=by
 obtain⟨i0,hi,hz0,hz1,hz2⟩:=info_parts Zhj;have hmx:=hm;unfold maxLen at hm;have HL:=hid hr.len;unfold unpackR;by_cases h15:0<=many/\many<=15
 · rw[if_pos h15];obtain⟨m,rfl⟩:=Int.eq_ofNat_of_zero_le h15.1;have hm15:m<=15:=by omega
   clear h15 hml hmh;by_cases h8:n=8*m
   · rw[if_pos (by have:=HL.out;omega)];rw[Int.toNat_natCast];have HB8:=hid (show b.length=8*m by have:=HL.out;omega);clear HL;obtain rfl:=h8;go_enter func197,ntmps197
     go_wp2_with (refine wpList_make_full w rfl _ _ 176 rfl w.heap.size 3 i0 (.int .i64 0) 1 underlying176 hi hz0 hz1 .i64 .i64 _ _ m rfl rfl (by simp) (by simp) (by rw[hz2];omega) (by unfold maxLen;omega) (Nat.le_refl _) ?_;intro w1 hown1 hg1;have hb1:Below w.heap.size w w1:=(Below.refl _ _).grown hg1 (Nat.le_refl _) (by simp);have hblk1:=hid (Zkd hown1);clear hown1 hg1)
     go_loopw[23] (fun i wr=>∃k:Nat,k<=m/\i=.int .i64 k/\Hid (wr.heap[w.heap.size]?=some (Zey (Z0 8 b 0 k) m 3))/\Below w.heap.size w wr) (fun i _=>m-(intOf i).toNat)
     case atStart=>exact⟨0,Nat.zero_le _,rfl,hblk1,hb1⟩
     case round=>
      obtain⟨k,hk,rfl,hblk,hbw⟩:=hrel;clear hblk1;by_cases hlt:k<m
      · have hfz:wr.frozen? ⟨w.heap.size,k,none⟩=false:=ZiQ hblk.out;obtain⟨u,hu⟩:=Zl8 hblk.out hlt;have HG:=hid (Zhi A (8*m) c B b (8*(k:Int)) 8 wr (hr.below (hbw.mono hB)) hc (by unfold maxLen;omega));rw[Zlg HB8.out hlt]at HG;have hst:=hid (Zbg 8 b 0 k);generalize numOf ((b.drop (0+8*k)).take 8)=x at HG hst;have HS:=hid (Zl9 (w:=wr) x hblk.out (ZaJ 8 b 0 k) hlt);rw[<-hst.out]at HS;clear hst hblk;go_wp2_with fail;refine HG.out.mono ?_;rintro e w2⟨rfl,rfl⟩;go_wp2;go_roundw
        case rel=>exact⟨k+1,by omega,by go_num,HS,hbw.setCell (Nat.le_refl _) _⟩
        case measure=>simp[intOf];omega
      · obtain rfl:k=m:=by omega
        have HR:=hid (Zma hblk.out (ZaJ 8 b 0 k) (Z1 8 b 0 k hr.bytes));clear hblk;go_wp2;go_ret2;exact⟨_,_,_,rfl,Nat.le_refl _,by omega,HR.out,hbw⟩
   · rw[if_neg (by have:=HL.out;omega)];have h0:((n:Int) != 8*(m:Int))=true:=by simp;omega
     go_enter func197,ntmps197;go_wp2;go_ret2;exact Zov.none_ _ _
 · rw[if_neg h15];by_cases hneg:many<0
   · clear h15;go_enter func197,ntmps197;go_wp2;go_ret2;exact Zov.none_ _ _
   · have hbig:15<many:=by omega
     clear h15;go_enter func197,ntmps197;go_wp2;go_ret2;exact Zov.none_ _ _
theorem Zdc(A:Option Addr)(n c B:Nat)(b:List Int)(many:Int)(w:World)(hr:RB w B A n b)(hB:B<=w.heap.size)(hc:n<=c)(hm:n<=maxLen)(hml : -9223372036854775808<=many)(hmh:many<=9223372036854775807) :
 Calls prog 235 #[.slice A n c,.int .i64 many] w fun e w'=>Zov w w' e (unpackR b many):=by
 obtain⟨i0,hi,hz0,hz1,hz2⟩:=info_parts Zhj;have hmx:=hm;unfold maxLen at hm;have HL:=hid hr.len;unfold unpackR;by_cases h15:0<=many/\many<=15
 · rw[if_pos h15];obtain⟨m,rfl⟩:=Int.eq_ofNat_of_zero_le h15.1;have hm15:m<=15:=by omega
   clear h15 hml hmh;by_cases h8:n=8*m
   · rw[if_pos (by have:=HL.out;omega)];rw[Int.toNat_natCast];have HB8:=hid (show b.length=8*m by have:=HL.out;omega);clear HL;obtain rfl:=h8;go_enter func235,ntmps235;go_wp2_with fail
     go_loopw[6,7] (fun v i wr=>∃k:Nat,k<=m/\i=.int .i64 k/\Hid (wr.ownsRow w.heap.size 3 1 v k ((Z0 8 b 0 k).map (Value.int .i64)))/\Below w.heap.size w wr) (fun _ i _=>m-(intOf i).toNat)
     case atStart=>exact⟨0,Nat.zero_le _,rfl,hid (World.ownsRow_nil _ _ _ _),Below.refl _ _⟩
     case round=>
      obtain⟨k,hk,rfl,hown,hbw⟩:=hrel;by_cases hlt:k<m
      · have HG:=hid (Zgo A (8*m) c B b (8*(k:Int)) 8 wr (hr.below (hbw.mono hB)) hc (by unfold maxLen;omega));rw[Zlg HB8.out hlt]at HG;have hst:=hid (Zbg 8 b 0 k);generalize numOf ((b.drop (0+8*k)).take 8)=x at HG hst;go_wp2_with fail;refine HG.out.mono ?_;rintro e w2⟨rfl,rfl⟩
        go_wp2_with (refine ZaF rfl _ _ rfl w.heap.size _ k _ rfl wr.heap.size x _ rfl (hown.out.alloc _) (heap_alloc_new _ _) (by omega) (by have:=hbw.size;simp;omega) ?_;intro v2 w2 hown2 hb2;rw[<-hst.out]at hown2;have HO:=hid hown2;have hbn:=(hbw.alloc hbw.size _).trans hb2;clear hown2 hb2)
        go_roundw
        case rel=>exact⟨k+1,by omega,by go_num,HO,hbn⟩
        case measure=>simp[intOf];omega
      · obtain rfl:k=m:=by omega
        obtain⟨A',c',rfl,hc'⟩:=Zcc hown.out;have HR:=hid (RI.of_own hown.out (Z1 8 b 0 k hr.bytes)).1;clear hown;go_wp2;go_ret2;exact⟨_,_,_,rfl,hc',by omega,HR.out,hbw⟩
   · rw[if_neg (by have:=HL.out;omega)];have h0:((n:Int) != 8*(m:Int))=true:=by simp;omega
     go_enter func235,ntmps235;go_wp2;go_ret2;exact Zov.none_ _ _
 · rw[if_neg h15];by_cases hneg:many<0
   · clear h15;go_enter func235,ntmps235;go_wp2;go_ret2;exact Zov.none_ _ _
   · have hbig:15<many:=by omega
     clear h15;go_enter func235,ntmps235;go_wp2;go_ret2;exact Zov.none_ _ _
def ZdI(t:Int)(l:List Int):List Int:=t::Zj 4 l
def Zi(t:Int)(l:List Int):List Int:=ZdI t ((l.take 7).map Zn)
def Zco(b:List Int):Int×List Int×Bool:=if 1<=b.length/\b.length<=29/\b.length%4=1 then(b[0]?.getD 0,Z0 4 b 1 (b.length/4),true)else(0,[],false)
theorem Zt(t:Int)(l:List Int):(ZdI t l).length=1+4*l.length:=by simp[ZdI,Zh];omega
theorem Zk{t:Int}(h:0<=t/\t<256)(l:List Int):Zm (ZdI t l):=fun x hx=>by
 rcases List.mem_cons.1 hx with rfl|hx
 · exact h
 · exact Zz 4 l x hx
theorem ZiR(t:Int)(l:List Int)(i:Nat)(h:i<l.length):ZdI t ((l.take (i+1)).map Zn)=ZdI t ((l.take i).map Zn)++ZaS (Zn (l[i]?.getD 0)) 4:=by
 unfold ZdI;rw[List.take_succ_eq_append_getElem h,List.map_append,Zbf,List.cons_append]
 congr 2
 rw[List.map_singleton,Zdt];simp[List.getElem?_eq_getElem h]
theorem Zcp{l:List Int}(h:∀x∈l,0<=x/\x<4294967296):l.map Zn=l:=by
 conv=>rhs;rw[<-List.map_id l]
 exact List.map_congr_left fun x hx=>Zgr (h x hx)
theorem Zdu{t:Int}{l:List Int}(h:∀x∈l,0<=x/\x<4294967296)(hl:l.length<=7):Zco (Zi t l)=(t,l,true):=by
 unfold Zi;rw[List.take_of_length_le hl,Zcp h];unfold Zco;rw[Zt,if_pos (by omega)];have e:(1+4*l.length)/4=l.length:=by omega
 rw[e]
 have e2:Z0 4 (ZdI t l) 1 l.length=l:=by
  show Z0 4 ([t]++Zj 4 l) 1 l.length=l;rw[ZiN 4 [t] _ 1 _ rfl];exact Zdb 4 l fun x hx=>ZqH (h x hx)
 rw[e2];rfl
theorem Zhp{b:List Int}{n k:Nat}(hb:b.length=n)(hk:1+4*k+4<=n):ZmG b ((1+4*k:Nat):Int) 4=(numOf ((b.drop (1+4*k)).take 4),0):=by
 unfold ZmG;rw[if_pos ⟨by decide,by omega⟩,if_neg (by omega)];rw[Int.toNat_natCast];rfl
theorem ZnP{b:List Int}{n k:Nat}(hb:b.length=n)(hk:n<1+4*k+4):ZmG b ((1+4*k:Nat):Int) 4=(0,3):=by
 unfold ZmG;rw[if_pos ⟨by decide,by omega⟩,if_pos (by omega)]
theorem Zqf(w:World)(t:Int)(e:TypeId):(w.alloc (.cells #[.int .u8 t] e)).ownsRow w.heap.size e 1 (.slice (some ⟨w.heap.size,0,none⟩) 1 1) 1 ([t].map (Value.int .u8)):=
 ⟨rfl,.inr ⟨w.heap.size,1,_,rfl,Nat.le_refl _,heap_alloc_new _ _,Nat.le_refl _,by unfold maxLen;omega,rfl,rfl⟩⟩
theorem ZaG.tag_(w:World)(t:Int):ZaG w (w.alloc (.cells #[.int .u8 t] 5)) (.slice (some ⟨w.heap.size,0,none⟩) 1 1) (ZdI t []):=⟨Zqf w t 5,(Below.refl _ _).alloc (Nat.le_refl _) _⟩
theorem ZeG(t:Int)(A:Option Addr)(n c B:Nat)(l:List Int)(w:World)(ht:0<=t/\t<256)(hr:RI w B A n l)(hB:B<=w.heap.size)(hc:n<=c)(hm:n<=maxLen) :
 Calls prog 104 #[.int .u8 t,.slice A n c] w fun e w'=>∃v,e=.returned v/\ZaG w w' v (Zi t l):=by
 unfold maxLen at hm;have HL:=hid hr.len;unfold Zi;obtain⟨m,HM,HT⟩:∃m:List Int,Hid (∀i,i<l.length->ZdI t (m.take (i+1))=ZdI t (m.take i)++ZaS (Zn (l[i]?.getD 0)) 4)/\Hid (∀i,(l.take i).map Zn=m.take i):=⟨l.map Zn,hid (fun i hi=>by rw[<-List.map_take,<-List.map_take];exact ZiR t l i hi),hid (fun i=>List.map_take)⟩
 by_cases h7:7<n
 · rw[HT.out 7];have h7c:7<=c:=by omega
   have hmin:min (n:Int) 7=7:=by omega
   have hmax:max (7:Int) 0=7:=by omega
   go_enter func104,ntmps104;go_wp2
   go_loopw[5,16] (fun v i wr=>∃k:Nat,k<=7/\i=.int .i64 k/\ZaG w wr v (ZdI t (m.take k))) (fun _ i _=>7-(intOf i).toNat)
   case atStart=>exact⟨0,Nat.zero_le _,rfl,ZaG.tag_ w t⟩
   case round=>
    obtain⟨k,hk,rfl,ho⟩:=hrel;by_cases hlt:k<7
    · obtain⟨b,off,rfl,hb,hcell⟩:=hr.2.2 (by omega);have hck:=(ho.2.cell (p:=⟨b,off+k,none⟩) (Nat.lt_of_lt_of_le hb hB)).trans (hcell k (by omega));clear hcell;obtain⟨hx0,hx1⟩:=hr.int k;have hpl:(ZdI t (m.take k)).length<=29:=by rw[Zt,List.length_take];omega
      have hst:=hid (HM.out k (by have:=HL.out;omega));obtain⟨A',c',rfl,hc',hrd⟩:=ho.read (Zk ht _);generalize l[k]?.getD 0=x at hck hx0 hx1 hst;have HO:=hid ho;have HX:=hid (show 0<=min (max x 0) (4294967295:Int)/\min (max x 0) (4294967295:Int)<4294967296 by omega);have HH:=hid (show Zn x=min (max x 0) (4294967295:Int)from rfl);have HP:=hid (ZhH _ _ c' wr.heap.size _ (min (max x 0) (4294967295:Int)) 4 wr hrd (Nat.le_refl _) hc' (by omega) (by omega) (by omega));clear ho hrd;go_wp2_with fail;refine HP.out.mono ?_;rintro e w2⟨v2,rfl,hown2,hb2⟩;rw[Zpd _ _ HX.out,<-HH.out,<-hst.out]at hown2;have HN:=hid (ZaG.of_le (w0:=w) ⟨hown2,hb2⟩ HO.out.2);clear hown2 hb2;go_wp2;go_roundw
      case rel=>exact⟨k+1,by omega,by go_num,HN.out⟩
      case measure=>simp[intOf];omega
    · obtain rfl:k=7:=by omega
      go_wp2;go_ret;exact⟨_,rfl,ho⟩
 · have hmin:min (n:Int) 7=n:=by omega
   have hmax:max (n:Int) 0=n:=by omega
   rw[show l.take 7=l.take n by rw[List.take_of_length_le (by have:=HL.out;omega),List.take_of_length_le (by have:=HL.out;omega)],HT.out n];go_enter func104,ntmps104;go_wp2
   go_loopw[5,16] (fun v i wr=>∃k:Nat,k<=n/\i=.int .i64 k/\ZaG w wr v (ZdI t (m.take k))) (fun _ i _=>n-(intOf i).toNat)
   case atStart=>exact⟨0,Nat.zero_le _,rfl,ZaG.tag_ w t⟩
   case round=>
    obtain⟨k,hk,rfl,ho⟩:=hrel;by_cases hlt:k<n
    · obtain⟨b,off,rfl,hb,hcell⟩:=hr.2.2 (by omega);have hck:=(ho.2.cell (p:=⟨b,off+k,none⟩) (Nat.lt_of_lt_of_le hb hB)).trans (hcell k (by omega));clear hcell;obtain⟨hx0,hx1⟩:=hr.int k;have hpl:(ZdI t (m.take k)).length<=29:=by rw[Zt,List.length_take];omega
      have hst:=hid (HM.out k (by have:=HL.out;omega));obtain⟨A',c',rfl,hc',hrd⟩:=ho.read (Zk ht _);generalize l[k]?.getD 0=x at hck hx0 hx1 hst;have HO:=hid ho;have HX:=hid (show 0<=min (max x 0) (4294967295:Int)/\min (max x 0) (4294967295:Int)<4294967296 by omega);have HH:=hid (show Zn x=min (max x 0) (4294967295:Int)from rfl);have HP:=hid (ZhH _ _ c' wr.heap.size _ (min (max x 0) (4294967295:Int)) 4 wr hrd (Nat.le_refl _) hc' (by omega) (by omega) (by omega));clear ho hrd;go_wp2_with fail;refine HP.out.mono ?_;rintro e w2⟨v2,rfl,hown2,hb2⟩;rw[Zpd _ _ HX.out,<-HH.out,<-hst.out]at hown2;have HN:=hid (ZaG.of_le (w0:=w) ⟨hown2,hb2⟩ HO.out.2);clear hown2 hb2;go_wp2;go_roundw
      case rel=>exact⟨k+1,by omega,by go_num,HN.out⟩
      case measure=>simp[intOf];omega
    · obtain rfl:k=n:=by omega
      go_wp2;go_ret;exact⟨_,rfl,ho⟩
theorem ZeH(t:Int)(A:Option Addr)(n c B:Nat)(l:List Int)(w:World)(ht:0<=t/\t<256)(hr:RI w B A n l)(hB:B<=w.heap.size)(hc:n<=c)(hm:n<=maxLen) :
 Calls prog 126 #[.int .u8 t,.slice A n c] w fun e w'=>∃v,e=.returned v/\ZaG w w' v (Zi t l):=by
 unfold maxLen at hm;have HL:=hid hr.len;unfold Zi;obtain⟨m,HM,HT⟩:∃m:List Int,Hid (∀i,i<l.length->ZdI t (m.take (i+1))=ZdI t (m.take i)++ZaS (Zn (l[i]?.getD 0)) 4)/\Hid (∀i,(l.take i).map Zn=m.take i):=⟨l.map Zn,hid (fun i hi=>by rw[<-List.map_take,<-List.map_take];exact ZiR t l i hi),hid (fun i=>List.map_take)⟩
 by_cases h7:7<n
 · rw[HT.out 7];have h7c:7<=c:=by omega
   have hmin:min (n:Int) 7=7:=by omega
   have hmax:max (7:Int) 0=7:=by omega
   go_enter func126,ntmps126;go_wp2
   go_loopw[5,6] (fun v i wr=>∃k:Nat,k<=7/\i=.int .i64 k/\ZaG w wr v (ZdI t (m.take k))) (fun _ i _=>7-(intOf i).toNat)
   case atStart=>exact⟨0,Nat.zero_le _,rfl,ZaG.tag_ w t⟩
   case round=>
    obtain⟨k,hk,rfl,ho⟩:=hrel;by_cases hlt:k<7
    · obtain⟨b,off,rfl,hb,hcell⟩:=hr.2.2 (by omega);have hck:=(ho.2.cell (p:=⟨b,off+k,none⟩) (Nat.lt_of_lt_of_le hb hB)).trans (hcell k (by omega));clear hcell;obtain⟨hx0,hx1⟩:=hr.int k;have hpl:(ZdI t (m.take k)).length<=29:=by rw[Zt,List.length_take];omega
      have hst:=hid (HM.out k (by have:=HL.out;omega));obtain⟨A',c',rfl,hc',hrd⟩:=ho.read (Zk ht _);generalize l[k]?.getD 0=x at hck hx0 hx1 hst;have HO:=hid ho;have HX:=hid (show 0<=min (max x 0) (4294967295:Int)/\min (max x 0) (4294967295:Int)<4294967296 by omega);have HH:=hid (show Zn x=min (max x 0) (4294967295:Int)from rfl);have HP:=hid (ZcS _ _ c' wr.heap.size _ (min (max x 0) (4294967295:Int)) 4 wr hrd (Nat.le_refl _) (by omega) (by omega) (by omega));clear ho hrd;go_wp2_with fail;refine HP.out.mono ?_;rintro e w2⟨v2,rfl,hown2,hb2⟩;rw[Zpd _ _ HX.out,<-HH.out,<-hst.out]at hown2;have HN:=hid (ZaG.of_le (w0:=w) ⟨hown2,hb2⟩ HO.out.2);clear hown2 hb2;go_wp2;go_roundw
      case rel=>exact⟨k+1,by omega,by go_num,HN.out⟩
      case measure=>simp[intOf];omega
    · obtain rfl:k=7:=by omega
      go_wp2;go_ret;exact⟨_,rfl,ho⟩
 · have hmin:min (n:Int) 7=n:=by omega
   have hmax:max (n:Int) 0=n:=by omega
   rw[show l.take 7=l.take n by rw[List.take_of_length_le (by have:=HL.out;omega),List.take_of_length_le (by have:=HL.out;omega)],HT.out n];go_enter func126,ntmps126;go_wp2
   go_loopw[5,6] (fun v i wr=>∃k:Nat,k<=n/\i=.int .i64 k/\ZaG w wr v (ZdI t (m.take k))) (fun _ i _=>n-(intOf i).toNat)
   case atStart=>exact⟨0,Nat.zero_le _,rfl,ZaG.tag_ w t⟩
   case round=>
    obtain⟨k,hk,rfl,ho⟩:=hrel;by_cases hlt:k<n
    · obtain⟨b,off,rfl,hb,hcell⟩:=hr.2.2 (by omega);have hck:=(ho.2.cell (p:=⟨b,off+k,none⟩) (Nat.lt_of_lt_of_le hb hB)).trans (hcell k (by omega));clear hcell;obtain⟨hx0,hx1⟩:=hr.int k;have hpl:(ZdI t (m.take k)).length<=29:=by rw[Zt,List.length_take];omega
      have hst:=hid (HM.out k (by have:=HL.out;omega));obtain⟨A',c',rfl,hc',hrd⟩:=ho.read (Zk ht _);generalize l[k]?.getD 0=x at hck hx0 hx1 hst;have HO:=hid ho;have HX:=hid (show 0<=min (max x 0) (4294967295:Int)/\min (max x 0) (4294967295:Int)<4294967296 by omega);have HH:=hid (show Zn x=min (max x 0) (4294967295:Int)from rfl);have HP:=hid (ZcS _ _ c' wr.heap.size _ (min (max x 0) (4294967295:Int)) 4 wr hrd (Nat.le_refl _) (by omega) (by omega) (by omega));clear ho hrd;go_wp2_with fail;refine HP.out.mono ?_;rintro e w2⟨v2,rfl,hown2,hb2⟩;rw[Zpd _ _ HX.out,<-HH.out,<-hst.out]at hown2;have HN:=hid (ZaG.of_le (w0:=w) ⟨hown2,hb2⟩ HO.out.2);clear hown2 hb2;go_wp2;go_roundw
      case rel=>exact⟨k+1,by omega,by go_num,HN.out⟩
      case measure=>simp[intOf];omega
    · obtain rfl:k=n:=by omega
      go_wp2;go_ret;exact⟨_,rfl,ho⟩
def Zow(w w':World)(e:Ending)(r:List Int×Int×Bool):Prop:=∃A k c,e=.returned (.tuple #[.int .u8 r.2.1,.slice A k c,.bool r.2.2])/\k<=c/\k<=1000/\RI w' w'.heap.size A k r.1/\Below w.heap.size w w'
theorem Zow.none_(w w':World)(h:Below w.heap.size w w'):Zow w w' (.returned (.tuple #[.int .u8 0,.slice none 0 0,.bool false])) ([],0,false):=⟨none,0,0,rfl,Nat.le_refl _,Nat.zero_le _,RI.nil_,h⟩
def splitK(b:List Int):List Int×Int×Bool:=((Zco b).2.1,(Zco b).1,(Zco b).2.2)
theorem Za3{b:List Int}{n:Nat}(hb:b.length=n)(h:¬(1<=n/\n<=29/\n%4=1)):splitK b=([],0,false):=by
 subst hb;unfold splitK Zco;rw[if_neg h]
theorem Zgs{b:List Int}{n m:Nat}(hb:b.length=n)(hn:n=1+4*m)(hm:m<=7):splitK b=(Z0 4 b 1 m,b[0]?.getD 0,true):=by
 subst hb;unfold splitK Zco;rw[if_pos (by omega),show b.length/4=m by omega]
theorem Zgt(A:Option Addr)(n c B:Nat)(b:List Int)(w:World)(hr:RB w B A n b)(hB:B<=w.heap.size)(hc:n<=c)(hm:n<=maxLen) :
 Calls prog 196 #[.slice A n c] w fun e w'=>Zow w w' e (splitK b):=by
 unfold maxLen at hm;have HL:=hid hr.len;by_cases h0:n=0
 · rw[Za3 HL.out (by omega)];subst h0;go_enter func196,ntmps196;go_wp2
   go_ret3
   exact Zow.none_ _ _ (Below.refl _ _)
 by_cases h29:29<n
 · rw[Za3 HL.out (by omega)];have k1:(29:Int)<n:=by omega
   have k2:¬(n:Int)=0:=by omega
   have k3:¬(n:Int)<1:=by omega
   go_enter func196,ntmps196;go_wp2
   go_ret3
   exact Zow.none_ _ _ (Below.refl _ _)
 have k1:¬(29:Int)<n:=by omega
 have k2:¬(n:Int)=0:=by omega
 have k3:¬(n:Int)<1:=by omega
 have k4:(1:Int)<n∨(n:Int)=1:=by omega
 clear k4;by_cases h4:n%4=1
 · obtain⟨m,hnm⟩:∃m,n=1+4*m:=⟨n/4,by omega⟩
   rw[Zgs HL.out hnm (by omega)];have hnm1:n<=1+4*m:=by omega
   have hnm2:1+4*m<=n:=by omega
   clear hnm;obtain⟨B0,off,rfl,hbb,hcell⟩:=hr.at_ (by omega);have hc0:=hcell 0 (by omega);rw[Nat.add_zero]at hc0;generalize b[0]?.getD 0=b0 at hc0 ⊢;clear hcell;have k5:((n:Int)%4 == 1)=true:=by simp;omega
   have k6:((n:Int)%4 != 1)=false:=by simp;omega
   clear h4;go_enter func196,ntmps196;go_wp2_with fail
   go_loopw[5,6] (fun v i wr=>∃k:Nat,1+4*k<=n/\i=.int .i64 ((1+4*k:Nat):Int)/\Hid (wr.ownsRow w.heap.size 3 1 v k ((Z0 4 b 1 k).map (Value.int .i64)))/\Below w.heap.size w wr) (fun _ i _=>n-(intOf i).toNat)
   case atStart=>exact⟨0,by omega,rfl,hid (World.ownsRow_nil _ _ _ _),Below.refl _ _⟩
   case round=>
    obtain⟨k,hk,rfl,hown,hbw⟩:=hrel;have hk29:1+4*k<=29:=by omega
    by_cases hlt:1+4*k<n
    · have HG:=hid (Zhi _ n c B b ((1+4*k:Nat):Int) 4 wr (hr.below (hbw.mono hB)) hc (by unfold maxLen;omega));rw[Zhp HL.out (by omega)]at HG;have hst:=hid (Zbg 4 b 1 k);generalize numOf ((b.drop (1+4*k)).take 4)=x at HG hst;have HAT:=hid (show((1+4*k:Nat):Int)+4=((1+4*(k+1):Nat):Int) by omega);obtain⟨z,hz⟩:∃z:Nat,z=1+4*k:=⟨_,rfl⟩
      rw[<-hz]at HG HAT;rw[<-hz];have hzn:z<n:=by omega
      have hz29:z<=29:=by omega
      clear hz;go_wp2_with fail;refine HG.out.mono ?_;rintro e w2⟨rfl,rfl⟩
      go_wp2_with (refine ZaF rfl _ _ rfl w.heap.size _ k _ rfl wr.heap.size x _ rfl (hown.out.alloc _) (heap_alloc_new _ _) (by omega) (by have:=hbw.size;simp;omega) ?_;intro v2 w2 hown2 hb2;rw[<-hst.out]at hown2;have HO:=hid hown2;have hbn:=(hbw.alloc hbw.size _).trans hb2;clear hown2 hb2)
      go_roundw
      case rel=>exact⟨k+1,by omega,by rw[<-HAT.out],HO,hbn⟩
      case measure=>simp[intOf];omega
    · have hzn:¬(1+4*k:Nat)<n:=hlt;have hkm:k=m:=by omega
      obtain⟨A',c',rfl,hc'⟩:=Zcc hown.out;have HR:=hid (RI.of_own hown.out (Z1 4 b 1 k hr.bytes)).1;have hck:=(hbw.cell (p:=⟨B0,off,none⟩) (Nat.lt_of_lt_of_le hbb hB)).trans hc0;obtain⟨z,hz⟩:∃z:Nat,z=1+4*k:=⟨_,rfl⟩
      rw[<-hz];have hzn':¬z<n:=by omega
      clear hown hz;go_wp2
      go_ret3
      rw[<-hkm];exact⟨_,_,_,rfl,hc',by omega,HR.out,hbw⟩
 · rw[Za3 HL.out (by omega)];have k5:((n:Int)%4 == 1)=false:=by simp;omega
   have k6:((n:Int)%4 != 1)=true:=by simp;omega
   go_enter func196,ntmps196;go_wp2_with fail
   go_loopw[5,6] (fun v i wr=>∃k:Nat,1+4*k<=n/\i=.int .i64 ((1+4*k:Nat):Int)/\Hid (wr.ownsRow w.heap.size 3 1 v k ((Z0 4 b 1 k).map (Value.int .i64)))/\Below w.heap.size w wr) (fun _ i _=>n-(intOf i).toNat)
   case atStart=>exact⟨0,by omega,rfl,hid (World.ownsRow_nil _ _ _ _),Below.refl _ _⟩
   case round=>
    obtain⟨k,hk,rfl,hown,hbw⟩:=hrel;have hk29:1+4*k<=29:=by omega
    by_cases hfit:1+4*k+4<=n
    · have HG:=hid (Zhi _ n c B b ((1+4*k:Nat):Int) 4 wr (hr.below (hbw.mono hB)) hc (by unfold maxLen;omega));rw[Zhp HL.out (by omega)]at HG;have hst:=hid (Zbg 4 b 1 k);generalize numOf ((b.drop (1+4*k)).take 4)=x at HG hst;have HAT:=hid (show((1+4*k:Nat):Int)+4=((1+4*(k+1):Nat):Int) by omega);obtain⟨z,hz⟩:∃z:Nat,z=1+4*k:=⟨_,rfl⟩
      rw[<-hz]at HG HAT;rw[<-hz];have hzn:z<n:=by omega
      have hz29:z<=29:=by omega
      clear hz;go_wp2_with fail;refine HG.out.mono ?_;rintro e w2⟨rfl,rfl⟩
      go_wp2_with (refine ZaF rfl _ _ rfl w.heap.size _ k _ rfl wr.heap.size x _ rfl (hown.out.alloc _) (heap_alloc_new _ _) (by omega) (by have:=hbw.size;simp;omega) ?_;intro v2 w2 hown2 hb2;rw[<-hst.out]at hown2;have HO:=hid hown2;have hbn:=(hbw.alloc hbw.size _).trans hb2;clear hown2 hb2)
      go_roundw
      case rel=>exact⟨k+1,by omega,by rw[<-HAT.out],HO,hbn⟩
      case measure=>simp[intOf];omega
    · have HG:=hid (Zhi _ n c B b ((1+4*k:Nat):Int) 4 wr (hr.below (hbw.mono hB)) hc (by unfold maxLen;omega));rw[ZnP HL.out (by omega)]at HG;obtain⟨z,hz⟩:∃z:Nat,z=1+4*k:=⟨_,rfl⟩
      rw[<-hz]at HG;rw[<-hz];have hzn:z<n:=by omega
      clear hz;go_wp2_with fail;refine HG.out.mono ?_;rintro e w2⟨rfl,rfl⟩;have HB:=hid hbw;go_wp2
      go_ret3
      exact Zow.none_ _ _ HB.out
theorem Zmb(A:Option Addr)(n c B:Nat)(b:List Int)(w:World)(hr:RB w B A n b)(hB:B<=w.heap.size)(hc:n<=c)(hm:n<=maxLen) :
 Calls prog 259 #[.slice A n c] w fun e w'=>Zow w w' e (splitK b):=by
 unfold maxLen at hm;have HL:=hid hr.len;by_cases h0:n=0
 · rw[Za3 HL.out (by omega)];subst h0;go_enter func259,ntmps259;go_wp2
   go_ret3
   exact Zow.none_ _ _ (Below.refl _ _)
 by_cases h29:29<n
 · rw[Za3 HL.out (by omega)];have k1:(29:Int)<n:=by omega
   have k2:¬(n:Int)=0:=by omega
   have k3:¬(n:Int)<1:=by omega
   go_enter func259,ntmps259;go_wp2
   go_ret3
   exact Zow.none_ _ _ (Below.refl _ _)
 have k1:¬(29:Int)<n:=by omega
 have k2:¬(n:Int)=0:=by omega
 have k3:¬(n:Int)<1:=by omega
 have k4:(1:Int)<n∨(n:Int)=1:=by omega
 clear k4;by_cases h4:n%4=1
 · obtain⟨m,hnm⟩:∃m,n=1+4*m:=⟨n/4,by omega⟩
   rw[Zgs HL.out hnm (by omega)];have hnm1:n<=1+4*m:=by omega
   have hnm2:1+4*m<=n:=by omega
   clear hnm;obtain⟨B0,off,rfl,hbb,hcell⟩:=hr.at_ (by omega);have hc0:=hcell 0 (by omega);rw[Nat.add_zero]at hc0;generalize b[0]?.getD 0=b0 at hc0 ⊢;clear hcell;have k5:((n:Int)%4 == 1)=true:=by simp;omega
   have k6:((n:Int)%4 != 1)=false:=by simp;omega
   clear h4;go_enter func259,ntmps259;go_wp2_with fail
   go_loopw[5,6] (fun v i wr=>∃k:Nat,1+4*k<=n/\i=.int .i64 ((1+4*k:Nat):Int)/\Hid (wr.ownsRow w.heap.size 3 1 v k ((Z0 4 b 1 k).map (Value.int .i64)))/\Below w.heap.size w wr) (fun _ i _=>n-(intOf i).toNat)
   case atStart=>exact⟨0,by omega,rfl,hid (World.ownsRow_nil _ _ _ _),Below.refl _ _⟩
   case round=>
    obtain⟨k,hk,rfl,hown,hbw⟩:=hrel;have hk29:1+4*k<=29:=by omega
    by_cases hlt:1+4*k<n
    · have HG:=hid (Zgo _ n c B b ((1+4*k:Nat):Int) 4 wr (hr.below (hbw.mono hB)) hc (by unfold maxLen;omega));rw[Zhp HL.out (by omega)]at HG;have hst:=hid (Zbg 4 b 1 k);generalize numOf ((b.drop (1+4*k)).take 4)=x at HG hst;have HAT:=hid (show((1+4*k:Nat):Int)+4=((1+4*(k+1):Nat):Int) by omega);obtain⟨z,hz⟩:∃z:Nat,z=1+4*k:=⟨_,rfl⟩
      rw[<-hz]at HG HAT;rw[<-hz];have hzn:z<n:=by omega
      have hz29:z<=29:=by omega
      clear hz;go_wp2_with fail;refine HG.out.mono ?_;rintro e w2⟨rfl,rfl⟩
      go_wp2_with (refine ZaF rfl _ _ rfl w.heap.size _ k _ rfl wr.heap.size x _ rfl (hown.out.alloc _) (heap_alloc_new _ _) (by omega) (by have:=hbw.size;simp;omega) ?_;intro v2 w2 hown2 hb2;rw[<-hst.out]at hown2;have HO:=hid hown2;have hbn:=(hbw.alloc hbw.size _).trans hb2;clear hown2 hb2)
      go_roundw
      case rel=>exact⟨k+1,by omega,by rw[<-HAT.out],HO,hbn⟩
      case measure=>simp[intOf];omega
    · have hzn:¬(1+4*k:Nat)<n:=hlt;have hkm:k=m:=by omega
      obtain⟨A',c',rfl,hc'⟩:=Zcc hown.out;have HR:=hid (RI.of_own hown.out (Z1 4 b 1 k hr.bytes)).1;have hck:=(hbw.cell (p:=⟨B0,off,none⟩) (Nat.lt_of_lt_of_le hbb hB)).trans hc0;obtain⟨z,hz⟩:∃z:Nat,z=1+4*k:=⟨_,rfl⟩
      rw[<-hz];have hzn':¬z<n:=by omega
      clear hown hz;go_wp2
      go_ret3
      rw[<-hkm];exact⟨_,_,_,rfl,hc',by omega,HR.out,hbw⟩
 · rw[Za3 HL.out (by omega)];have k5:((n:Int)%4 == 1)=false:=by simp;omega
   have k6:((n:Int)%4 != 1)=true:=by simp;omega
   go_enter func259,ntmps259;go_wp2
   go_ret3
   exact Zow.none_ _ _ (Below.refl _ _)
end Go.Proofs.YtiknkbpojmgbhaaGreat
