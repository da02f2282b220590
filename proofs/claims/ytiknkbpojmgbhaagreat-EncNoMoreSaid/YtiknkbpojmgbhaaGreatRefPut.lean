/- Put, NumBackP, RefPut. Conditions: in each theorem. -/
import Derived.Test.YtiknkbpojmgbhaaGreatEqual
import Derived.Test.YtiknkbpojmgbhaaGreatGet
import Derived.Laws.CopyOwn
import Derived.OwnWalk
set_option maxHeartbeats 800000
set_option maxRecDepth 100000
set_option linter.unusedVariables false
open Go.Proofs.Tryz
open Go.Lib (hid)
namespace Go.Proofs.YtiknkbpojmgbhaaGreat
open Go.RowKit
theorem ZgD{w:World}{base e g n:Nat}{xs:List Value}(h:w.ownsRow base e 1 (.slice (some ⟨g,0,none⟩) n n) n xs):w.heap[g]?=some (.cells xs.toArray e (0,0)):=by
 rcases h.2 with ⟨h',_⟩|⟨g',cap',cur,h',_,hg,_,_,hcs,htake⟩
 · simp at h'
 · simp only[Value.slice.injEq,Option.some.injEq,Addr.mk.injEq,and_true,true_and]at h';obtain⟨rfl,rfl⟩:=h';rw[<-htake,List.take_of_length_le (by simp;omega)];simpa using hg
theorem Zn2{w:World}{base e g n:Nat}(h:w.ownsRow base e 1 (.slice (some ⟨g,0,none⟩) n n) n (madeCells (Value.int .u8 0).cells (n*1)).toList):w.heap[g]?=some (.cells (List.replicate n (Value.int .u8 0)).toArray e (0,0)):=by
 have:=ZgD h
 rw[show(Value.int .u8 0).cells = #[Value.int .u8 0]from rfl,toList_madeCells_one,Nat.mul_one]at this;exact this
theorem Zlr{w:World}{B n:Nat}{A:Option Addr}{l:List Int}(h:RB w B A n l)(hp:0<(l.map (Value.int .u8)).length):∃ad,A=some ad/\∀j v,(l.map (Value.int .u8))[j]?=some v->w.cell? (ad.add j)=some v:=by
 obtain⟨ad,rfl,_⟩:=h.src 0 _ (List.getElem?_eq_getElem hp);refine⟨ad,rfl,fun j v hv=>?_⟩;obtain⟨ad',e,hc⟩:=h.src j v hv;cases e;exact hc
def ZmJ(l:List Int)(x:Int)(k j:Nat)(e:TypeId):Obj:=.cells ((l++(List.replicate (k-j) 0++ZaS x j)).map (Value.int .u8)).toArray e (0,0)
theorem Zmo{w:World}{g n k:Nat}{e:TypeId}{l:List Int}{x:Int}(hl:l.length=n)(h:w.heap[g]?=some (.cells (splice (List.replicate (n+k) (Value.int .u8 0)) 0 (l.map (Value.int .u8))).toArray e (0,0))):w.heap[g]?=some (ZmJ l x k 0 e):=by
 rw[h];subst hl;simp[ZmJ,splice,ZaS,List.drop_replicate]
theorem Zky{w:World}{g:Nat}{e:TypeId}{l:List Int}{x:Int}{k j m:Nat}(h:w.heap[g]?=some (ZmJ l x k j e)):w.frozen? ⟨g,m,none⟩=false:=by
 unfold ZmJ at h;simp[World.frozen?,h]
theorem Zkz(l:List Int)(x:Int){k j:Nat}(hj:j<=k):(l++(List.replicate (k-j) 0++ZaS x j)).length=l.length+k:=by
 simp[Zaj];omega
theorem Zn3{w:World}{g n:Nat}{e:TypeId}{l:List Int}{x:Int}{k j:Nat}(hl:l.length=n)(h:w.heap[g]?=some (ZmJ l x k j e))(m:Nat)(hm:m<n+k/\j<=k):∃u,w.cell? ⟨g,m,none⟩=some u:=by
 unfold ZmJ at h;rw[cell_of_row w g m _ e (0,0) h]
 have:=Zkz l x hm.2
 exact⟨_,Array.getElem?_eq_getElem (by simp only[List.size_toArray,List.length_map];omega)⟩
theorem Zn4{w:World}{g n:Nat}{e:TypeId}{l:List Int}{x:Int}{k j m:Nat}(hl:l.length=n)(h:w.heap[g]?=some (ZmJ l x k j e))(hj:j<k)(hm:m+j+1=n+k) :
 (w.setCell ⟨g,m,none⟩ (.int .u8 (shN x j%256))).heap[g]?=some (ZmJ l x k (j+1) e):=by
 unfold ZmJ at h ⊢
 rw[heap_setCell_same w g m _ e _ h];subst hl;obtain⟨d,rfl⟩:∃d,k=j+1+d:=⟨k-(j+1),by omega⟩
 have e1:j+1+d-j=d+1:=by omega
 have e2:j+1+d-(j+1)=d:=by omega
 obtain rfl:m=l.length+d:=by omega
 rw[e1,e2,ZdV]
 congr 2
 rw[<-Array.toList_inj];simp only[Array.toList_setIfInBounds,List.map_append,List.map_cons,List.map_replicate];rw[List.replicate_succ',List.append_assoc,List.set_append_right _ _ (by simp),List.set_append_right _ _ (by simp)];simp
theorem Zpv{w:World}{g:Nat}{e:TypeId}{l:List Int}{x:Int}{k:Nat}(h:w.heap[g]?=some (ZmJ l x k k e)):w.heap[g]?=some (.cells ((l++ZaS x k).map (Value.int .u8)).toArray e (0,0)):=by
 rw[h];simp[ZmJ]
theorem Zqn(A:Option Addr)(n c B:Nat)(l:List Int)(x:Int)(k:Nat)(w:World)(hr:RB w B A n l)(hB:B<=w.heap.size)(hc:n<=c)(hm:n<=140737488355000)(hs:Zp x (k:Int)=true)(hk8:k<=8)(hxl : -9223372036854775808<=x)(hxh:x<=9223372036854775807) :
 Calls prog 194 #[.slice A n c,.int .i64 x,.int .i64 (k:Int)] w fun e w'=>∃g,e=.returned (.slice (some ⟨g,0,none⟩) (n+k) (n+k))/\w.heap.size<=g/\w'.heap[g]?=some (.cells ((l++ZaS x k).map (Value.int .u8)).toArray 5 (0,0))/\Below w.heap.size w w':=by
 obtain⟨i0,hi,hz0,hz1,hz2⟩:=info_parts Zg7;have HS:=hid hs;clear hs;go_enter func194,ntmps194
 go_wp2_with (first
  | (go_at_call 242;refine(Znx _ _ _ HS.out).mono ?_;rintro e w' ⟨rfl,rfl⟩)
  | (refine wpList_make_full w rfl _ _ 99 rfl w.heap.size 5 i0 (.int .u8 0) 1 underlying99 hi hz0 hz1 .i64 .i64 _ _ (n+k) rfl rfl (by simp) (by simp) (by rw[hz2];omega) (by unfold maxLen;omega) (Nat.le_refl _) ?_;intro w1 hown1 hg1;have hb1:Below w.heap.size w w1:=(Below.refl _ _).grown hg1 (Nat.le_refl _) (by simp);have hblk1:=hid (Zn2 hown1);clear hown1 hg1)
  | (with_reducible refine wpList_copy_splice rfl (.tmp 18) (.tmp 19) 99 99 rfl 5 underlying99 Znf _ _ _ _ _ _ rfl rfl w.heap.size 0 (List.replicate (n+k) (Value.int .u8 0)) 5 hblk1.out (l.map (Value.int .u8)) (by rw[List.length_map,hr.len];exact(Nat.min_eq_left (by omega)).symm) (fun hp=>⟨rfl,Zlr (hr.below (hb1.mono hB)) hp⟩) (by rw[List.length_map,List.length_replicate,hr.len];omega) (Zbl l) w.heap.size w hb1 (Nat.le_refl _) ?_;intro w2 hblk2 hb2))
 have hblk:=hid (Zmo (x:=x) hr.len hblk2.out);clear hblk2 hblk1 hb1
 go_loopw[1,8] (fun xn i wr=>∃(j:Nat) (z:Int),j<=k/\z+j+1<=n+k/\(n:Int)+k<=z+j+1/\i=.int .i64 z/\xn=.int .i64 (shN x j)/\Hid (wr.heap[w.heap.size]?=some (ZmJ l x k j 5))/\Below w.heap.size w wr)
  (fun _ i _=>(intOf i+1-(n:Int)).toNat)
 case atStart=>exact⟨0,_,Nat.zero_le _,by omega,by omega,rfl,rfl,hblk,hb2⟩
 case round=>
  obtain⟨j,z,hj,hz1,hz2,rfl,rfl,hblkj,hbj⟩:=hrel;clear hblk;by_cases hlt:j<k
  · obtain⟨m,rfl⟩:=Int.eq_ofNat_of_zero_le (show 0<=z by omega);have hfz:wr.frozen? ⟨w.heap.size,m,none⟩=false:=Zky hblkj.out;obtain⟨u,hu⟩:=Zn3 hr.len hblkj.out m ⟨by omega,by omega⟩;obtain⟨hx0,hx1⟩:=ZlY x hxl hxh j;have hnm:n<=m:=by omega
    have hmk:m<n+k:=by omega
    go_wp2;have hstep:=hid (Zn4 hr.len hblkj.out hlt (m:=m) (by omega));clear hu hfz hblkj;go_roundw
    case rel=>exact⟨j+1,_,by omega,by omega,by omega,rfl,rfl,hstep,hbj.setCell (Nat.le_refl _) _⟩
    case measure=>simp[intOf];omega
  · have hjk:j=k:=by omega
    subst hjk;have hend:=hid (Zpv hblkj.out);have hzn:z<n:=by omega
    clear hblkj;go_wp2;go_ret;exact⟨_,rfl,Nat.le_refl _,hend.out,hbj⟩
theorem ZkA{w:World}{g n:Nat}{e:TypeId}{l:List Int}(hl:l.length=n)(h:w.heap[g]?=some (.cells (splice (List.replicate n (Value.int .u8 0)) 0 (l.map (Value.int .u8))).toArray e (0,0))):w.heap[g]?=some (.cells (l.map (Value.int .u8)).toArray e (0,0)):=by
 rw[h];subst hl;simp[splice]
theorem ZqO(A:Option Addr)(n c B:Nat)(l:List Int)(x s:Int)(w:World)(hr:RB w B A n l)(hB:B<=w.heap.size)(hc:n<=c)(hm:n<=140737488355000)(hs:Zp x s=false) :
 Calls prog 194 #[.slice A n c,.int .i64 x,.int .i64 s] w fun e w'=>∃g,e=.returned (.slice (some ⟨g,0,none⟩) n n)/\w.heap.size<=g/\w'.heap[g]?=some (.cells (l.map (Value.int .u8)).toArray 5 (0,0))/\Below w.heap.size w w':=by
 obtain⟨i0,hi,hz0,hz1,hz2⟩:=info_parts Zg7;have HS:=hid hs;clear hs;go_enter func194,ntmps194
 go_wp2_with (first
  | (go_at_call 242;refine(Zo6 _ _ _ HS.out).mono ?_;rintro e w' ⟨rfl,rfl⟩)
  | (refine wpList_make_full w rfl _ _ 99 rfl w.heap.size 5 i0 (.int .u8 0) 1 underlying99 hi hz0 hz1 .i64 .i64 _ _ n rfl rfl (by simp) (by simp) (by rw[hz2];omega) (by unfold maxLen;omega) (Nat.le_refl _) ?_;intro w1 hown1 hg1;have hb1:Below w.heap.size w w1:=(Below.refl _ _).grown hg1 (Nat.le_refl _) (by simp);have hblk1:=hid (Zn2 hown1);clear hown1 hg1)
  | (with_reducible refine wpList_copy_splice rfl (.tmp 18) (.tmp 19) 99 99 rfl 5 underlying99 Znf _ _ _ _ _ _ rfl rfl w.heap.size 0 (List.replicate n (Value.int .u8 0)) 5 hblk1.out (l.map (Value.int .u8)) (by rw[List.length_map,hr.len];exact(Nat.min_eq_left (by omega)).symm) (fun hp=>⟨rfl,Zlr (hr.below (hb1.mono hB)) hp⟩) (by rw[List.length_map,List.length_replicate,hr.len];omega) (Zbl l) w.heap.size w hb1 (Nat.le_refl _) ?_;intro w2 hblk2 hb2))
 have hblk:=hid (ZkA hr.len hblk2.out);clear hblk2 hblk1 hb1;refine wp_loop_rounds 1 ?_;rw[rounds_succ];go_wp2;go_ret;exact⟨_,rfl,Nat.le_refl _,hblk.out,hb2⟩
def putR(l:List Int)(x s:Int):List Int:=if Zp x s=true then l++ZaS x s.toNat else l
theorem right_size{x s:Int}(h:Zp x s=true):s=1∨s=2∨s=4∨s=8:=by
 by_cases hs:Zay s=true
 · exact size_cases hs
 · rw[Zda (by simpa using hs)]at h;cases h
def Zqo(w w':World)(e:TypeId)(v:Value)(l:List Int):Prop:=∃g,v=.slice (some ⟨g,0,none⟩) l.length l.length/\w.heap.size<=g/\w'.heap[g]?=some (.cells (l.map (Value.int .u8)).toArray e (0,0))
theorem Zqp(A:Option Addr)(n c B:Nat)(l:List Int)(x s:Int)(w:World)(hr:RB w B A n l)(hB:B<=w.heap.size)(hc:n<=c)(hm:n<=140737488355000)(hxl : -9223372036854775808<=x)(hxh:x<=9223372036854775807) :
 Calls prog 194 #[.slice A n c,.int .i64 x,.int .i64 s] w fun e w'=>∃v,e=.returned v/\Zqo w w' 5 v (putR l x s)/\Below w.heap.size w w':=by
 unfold putR;by_cases h:Zp x s=true
 · rw[if_pos h];have hc4:=right_size h;obtain⟨k,rfl⟩:=Int.eq_ofNat_of_zero_le (show 0<=s by omega);refine(Zqn A n c B l x k w hr hB hc hm h (by omega) hxl hxh).mono ?_;rintro e w'⟨g,rfl,h1,h2,h3⟩;refine⟨_,rfl,⟨g,?_,h1,h2⟩,h3⟩;simp[Zaj,hr.len]
 · rw[if_neg h];refine(ZqO A n c B l x s w hr hB hc hm (by simpa using h)).mono ?_;rintro e w'⟨g,rfl,h1,h2,h3⟩;exact⟨_,rfl,⟨g,by rw[hr.len],h1,h2⟩,h3⟩
theorem Zqo.own{w w':World}{e:TypeId}{v:Value}{l:List Int}(h:Zqo w w' e v l)(hm:l.length<=maxLen):w'.ownsRow w.heap.size e 1 v l.length (l.map (Value.int .u8)):=by
 obtain⟨g,rfl,hb,hg⟩:=h;exact⟨by simp,.inr ⟨g,l.length,_,rfl,hb,hg,Nat.le_refl _,hm,by simp,by rw[Nat.mul_one];exact List.take_of_length_le (by simp)⟩⟩
theorem ZkB(l:List Int)(x s:Int):(putR l x s).length<=l.length+8:=by
 unfold putR;by_cases h:Zp x s=true
 · rw[if_pos h,List.length_append,Zaj]
   have:=right_size h
   omega
 · rw[if_neg h];omega
theorem ZhH(A:Option Addr)(n c B:Nat)(l:List Int)(x s:Int)(w:World)(hr:RB w B A n l)(hB:B<=w.heap.size)(hc:n<=c)(hm:n<=140737488355000)(hxl : -9223372036854775808<=x)(hxh:x<=9223372036854775807) :
 Calls prog 194 #[.slice A n c,.int .i64 x,.int .i64 s] w fun e w'=>∃v,e=.returned v/\w'.ownsRow w.heap.size 5 1 v (putR l x s).length ((putR l x s).map (Value.int .u8))/\Below w.heap.size w w':=by
 refine(Zqp A n c B l x s w hr hB hc hm hxl hxh).mono ?_;rintro e w'⟨v,rfl,hf,hb⟩
 have:=ZkB l x s
 have:=hr.len
 exact⟨v,rfl,hf.own (by unfold maxLen;omega),hb⟩
theorem Zjj{x s:Int}(h:Zp x s=true)(hxl : -9223372036854775808<=x)(hxh:x<=9223372036854775807):numOf (ZaS x s.toNat)=x:=by
 rw[Zhh _ (Zgn _ _),Znz];rcases right_size h with rfl|rfl|rfl|rfl
 · have hb:0<=x/\x<256:=by simpa[Zp] using h
   rw[show(256:Int)^(1:Int).toNat=256 from rfl]
   unfold wrap64;omega
 · have hb:0<=x/\x<65536:=by simpa[Zp] using h
   rw[show(256:Int)^(2:Int).toNat=65536 from rfl]
   unfold wrap64;omega
 · have hb:0<=x/\x<4294967296:=by simpa[Zp] using h
   rw[show(256:Int)^(4:Int).toNat=4294967296 from rfl]
   unfold wrap64;omega
 · rw[show(256:Int)^(8:Int).toNat=18446744073709551616 from rfl]
   unfold wrap64;omega
theorem ZhI{w:World}{base e n k:Nat}{v:Value}{l:List Int}{x:Int}(h:w.ownsRow base e 1 v n (l.map (Value.int .u8))):w.ownsRow base e 1 v (n+0) ((l++ZaS (shN x (k-0)) 0).map (Value.int .u8)):=by
 simpa[ZaS] using h
theorem ZqP(x:Int)(m:Nat):shN x m=x/2^(8*m):=by
 induction m with
 | zero=>simp[shN]
 | succ m ih=>
  rw[shN,ih,Int.ediv_ediv_of_nonneg (Int.le_of_lt (Int.pow_pos (by decide)))]
  congr 1
  rw[show 8*(m+1)=8*m+8 from by omega,Int.pow_add];rfl
theorem Zjk{w:World}{base e n k j m:Nat}{v:Value}{l:List Int}{x:Int}(hk:m+j+1=k)(h:w.ownsRow base e 1 v (n+j+1) ((l++ZaS (shN x (k-j)) j++[x/2^(8*m)%256]).map (Value.int .u8))) :
 w.ownsRow base e 1 v (n+(j+1)) ((l++ZaS (shN x (k-(j+1))) (j+1)).map (Value.int .u8)):=by
 subst hk;have e1:m+j+1-j=m+1:=by omega
 have e2:m+j+1-(j+1)=m:=by omega
 rw[e1]at h;rw[e2];rw[<-ZqP]at h;rw[ZaS,<-List.append_assoc];exact h
theorem Zmp(A:Option Addr)(n c B:Nat)(l:List Int)(x:Int)(k:Nat)(w:World)(hr:RB w B A n l)(hB:B<=w.heap.size)(hm:n<=140737488355000)(hs:Zp x (k:Int)=true)(hk1:1<=k)(hk8:k<=8)(hxl : -9223372036854775808<=x)(hxh:x<=9223372036854775807) :
 Calls prog 211 #[.slice A n c,.int .i64 x,.int .i64 (k:Int)] w fun e w'=>∃v,e=.returned v/\w'.ownsRow w.heap.size 5 1 v (n+k) ((l++ZaS x k).map (Value.int .u8))/\Below w.heap.size w w':=by
 have HS:=hid hs;clear hs;go_enter func211,ntmps211
 go_wp2_with (first
  | (go_at_call 253;refine(ZiE _ _ _ HS.out).mono ?_;rintro e w' ⟨rfl,rfl⟩)
  | (at_builtin;refine Z5 rfl _ (.tmp 9) rfl w.heap.size _ 0 [] rfl (World.ownsRow_nil _ _ _ _) B A n c l rfl hr (by omega) (Nat.le_refl _) ?_;intro v1 w1 hown1 _ hb1))
 simp only[Nat.zero_add,List.nil_append]at hown1;have hown:=hid (ZhI (x:=x) (k:=k) hown1);clear hown1
 go_loopw[7,8] (fun v i wr=>∃(j:Nat) (z:Int),j<=k/\z+j+1<=k/\(k:Int)<=z+j+1/\i=.int .i64 z/\Hid (wr.ownsRow w.heap.size 5 1 v (n+j) ((l++ZaS (shN x (k-j)) j).map (Value.int .u8)))/\Below w.heap.size w wr)
  (fun _ i _=>(intOf i+1).toNat)
 case atStart=>exact⟨0,_,Nat.zero_le _,by omega,by omega,rfl,hown,hb1⟩
 case round=>
  obtain⟨j,z,hj,hz1,hz2,rfl,hownj,hbj⟩:=hrel;clear hown;by_cases hlt:j<k
  · obtain⟨m,rfl⟩:=Int.eq_ofNat_of_zero_le (show 0<=z by omega);have hm7:m<=7:=by omega
    go_wp2_with (at_builtin;refine Z5 rfl (.tmp 22) (.tmp 28) rfl w.heap.size _ (n+j) _ rfl (hownj.out.alloc _) (wr.heap.size+1) (some ⟨wr.heap.size,0,none⟩) 1 1 [_] rfl (RB.one wr 5 (by omega)) (by omega) (by have:=hbj.size;simp;omega) ?_;intro v2 w2 hown2 _ hb2)
    have hstep:=hid (Zjk (j:=j) (m:=m) (k:=k) (by omega) hown2);clear hown2 hownj;go_roundw
    case rel=>exact⟨j+1,_,by omega,by omega,by omega,rfl,hstep,(hbj.alloc hbj.size _).trans hb2⟩
    case measure=>simp[intOf]
  · have hjk:j=k:=by omega
    subst hjk;have hzn:z<0:=by omega
    go_wp2;go_ret;exact⟨_,rfl,by simpa[shN] using hownj.out,hbj⟩
theorem Zn5(A:Option Addr)(n c B:Nat)(l:List Int)(x s:Int)(w:World)(hr:RB w B A n l)(hm:n<=140737488355000)(hs:Zp x s=false) :
 Calls prog 211 #[.slice A n c,.int .i64 x,.int .i64 s] w fun e w'=>∃v,e=.returned v/\w'.ownsRow w.heap.size 5 1 v n (l.map (Value.int .u8))/\Below w.heap.size w w':=by
 have HS:=hid hs;clear hs;go_enter func211,ntmps211
 go_wp2_with (first
  | (go_at_call 253;refine(Zj8 _ _ _ HS.out).mono ?_;rintro e w' ⟨rfl,rfl⟩)
  | (at_builtin;refine Z5 rfl _ (.tmp 9) rfl w.heap.size _ 0 [] rfl (World.ownsRow_nil _ _ _ _) B A n c l rfl hr (by omega) (Nat.le_refl _) ?_;intro v1 w1 hown1 _ hb1))
 simp only[Nat.zero_add,List.nil_append]at hown1;go_ret;exact⟨_,rfl,hown1,hb1⟩
theorem ZcS(A:Option Addr)(n c B:Nat)(l:List Int)(x s:Int)(w:World)(hr:RB w B A n l)(hB:B<=w.heap.size)(hm:n<=140737488355000)(hxl : -9223372036854775808<=x)(hxh:x<=9223372036854775807) :
 Calls prog 211 #[.slice A n c,.int .i64 x,.int .i64 s] w fun e w'=>∃v,e=.returned v/\w'.ownsRow w.heap.size 5 1 v (putR l x s).length ((putR l x s).map (Value.int .u8))/\Below w.heap.size w w':=by
 unfold putR;by_cases h:Zp x s=true
 · rw[if_pos h];have hc4:=right_size h;obtain⟨k,rfl⟩:=Int.eq_ofNat_of_zero_le (show 0<=s by omega);refine(Zmp A n c B l x k w hr hB hm h (by omega) (by omega) hxl hxh).mono ?_;rintro e w'⟨v,rfl,h1,h2⟩;refine⟨v,rfl,?_,h2⟩;rw[List.length_append,Zaj,hr.len];exact h1
 · rw[if_neg h];refine(Zn5 A n c B l x s w hr hm (by simpa using h)).mono ?_;rintro e w'⟨v,rfl,h1,h2⟩;refine⟨v,rfl,?_,h2⟩;rw[hr.len];exact h1
end Go.Proofs.YtiknkbpojmgbhaaGreat
