/- NumA, NumP, Get. Conditions: in each theorem. -/
import Derived.Test.YtiknkbpojmgbhaaGreatRows
import Derived.WalkKit
import Derived.WalkSpells
import Derived.WalkLawsBesides
import Derived.IntWalk
import Derived.Lib.Hide
import Derived.Laws.BitsLemmas
import Derived.RowKit
import Derived.Test.YtiknkbpojmgbhaaGreatBase
set_option maxHeartbeats 1600000
set_option maxRecDepth 100000
set_option linter.unusedVariables false
open Go.Proofs.Tryz
open Go.Lib (hid)
namespace Go.Proofs.YtiknkbpojmgbhaaGreat
open Go.RowKit
def Zay(s:Int):Bool:=decide (s=1∨s=2∨s=4∨s=8)
def Zp(n s:Int):Bool:=decide (s=8)||(decide (s=1)&&decide (0<=n/\n<256))||(decide (s=2)&&decide (0<=n/\n<65536))||(decide (s=4)&&decide (0<=n/\n<4294967296))
theorem size_cases{s:Int}(h:Zay s=true):s=1∨s=2∨s=4∨s=8:=of_decide_eq_true h
theorem Zab(s:Int)(w:World) :
 Calls prog 275 #[.int .i64 s] w fun e w'=>e=.returned (.bool (Zay s))/\w=w':=by
 by_cases h1:s=1
 · subst h1;go_enter func275,ntmps275
   go_wp2;go_ret;exact⟨rfl,rfl⟩
 by_cases h2:s=2
 · subst h2;go_enter func275,ntmps275
   go_wp2;go_ret;exact⟨rfl,rfl⟩
 by_cases h4:s=4
 · subst h4;go_enter func275,ntmps275
   go_wp2;go_ret;exact⟨rfl,rfl⟩
 by_cases h8:s=8
 · subst h8;go_enter func275,ntmps275
   go_wp2;go_ret;exact⟨rfl,rfl⟩
 have e:Zay s=false:=by simp[Zay,h1,h2,h4,h8]
 have k1:(s == 1)=false:=by simpa using h1
 have k2:(s == 2)=false:=by simpa using h2
 have k4:(s == 4)=false:=by simpa using h4
 have k8:(s == 8)=false:=by simpa using h8
 rw[e];clear e h1 h2 h4 h8;go_enter func275,ntmps275
 go_wp2;go_ret;exact⟨rfl,rfl⟩
theorem Zam(s:Int)(w:World) :
 Calls prog 284 #[.int .i64 s] w fun e w'=>e=.returned (.bool (Zay s))/\w=w':=by
 by_cases h1:s=1
 · subst h1;go_enter func284,ntmps284
   go_wp2;go_ret;exact⟨rfl,rfl⟩
 by_cases h2:s=2
 · subst h2;go_enter func284,ntmps284
   go_wp2;go_ret;exact⟨rfl,rfl⟩
 by_cases h4:s=4
 · subst h4;go_enter func284,ntmps284
   go_wp2;go_ret;exact⟨rfl,rfl⟩
 by_cases h8:s=8
 · subst h8;go_enter func284,ntmps284
   go_wp2;go_ret;exact⟨rfl,rfl⟩
 have e:Zay s=false:=by simp[Zay,h1,h2,h4,h8]
 have k1:(s == 1)=false:=by simpa using h1
 have k2:(s == 2)=false:=by simpa using h2
 have k4:(s == 4)=false:=by simpa using h4
 have k8:(s == 8)=false:=by simpa using h8
 rw[e];clear e h1 h2 h4 h8;go_enter func284,ntmps284
 go_wp2;go_ret;exact⟨rfl,rfl⟩
theorem Zda{n s:Int}(h:Zay s=false):Zp n s=false:=by
 simp only[Zay,decide_eq_false_iff_not,not_or]at h;obtain⟨a,b,c,d⟩:=h;simp[Zp,a,b,c,d]
def Zqc:Nat->Int|0=>1|k+1=>Zqc k*256
theorem Zj7(k:Nat)(hk:k<=7)(w:World) :
 Calls prog 285 #[.int .i64 (k:Int)] w fun e w'=>e=.returned (.int .i64 (Zqc k))/\w=w':=by
 have hall:k=0∨k=1∨k=2∨k=3∨k=4∨k=5∨k=6∨k=7:=by omega
 have hlt:∀j,j<7->0<=Zqc j/\Zqc j<10000000000000000:=by
  intro j hj
  have:j=0∨j=1∨j=2∨j=3∨j=4∨j=5∨j=6:=by omega
  rcases this with rfl|rfl|rfl|rfl|rfl|rfl|rfl <;> decide
 have HL:=hid hlt;clear hlt hall;go_enter func285,ntmps285;go_wp2
 go_loop[3,4] (fun n i=>∃j:Nat,j<=k/\i=.int .i64 j/\n=.int .i64 (Zqc j)) (fun _ i=>k-(intOf i).toNat)
 case atStart=>exact⟨0,Nat.zero_le _,rfl,rfl⟩
 case round=>
  obtain⟨j,hj,rfl,rfl⟩:=hrel;by_cases hlt:j<k
  · obtain⟨b0,b1⟩:=HL.out j (by omega);have H2:=hid (show Zqc (j+1)=Zqc j*256 from rfl);go_wp2
    go_round
    case rel=>exact⟨j+1,by omega,by go_num,by rw[H2.out]⟩
    case measure=>simp[intOf];omega
  · go_wp2;go_ret;obtain rfl:j=k:=by omega
    exact⟨rfl,rfl⟩
theorem ZqD(w:World):Calls prog 285 #[.int .i64 1] w fun e w'=>e=.returned (.int .i64 256)/\w=w':=Zj7 1 (by decide) w
theorem ZqX(w:World):Calls prog 285 #[.int .i64 2] w fun e w'=>e=.returned (.int .i64 65536)/\w=w':=Zj7 2 (by decide) w
theorem ZqY(w:World):Calls prog 285 #[.int .i64 4] w fun e w'=>e=.returned (.int .i64 4294967296)/\w=w':=Zj7 4 (by decide) w
theorem ZiC(s:Int)(w:World)(h:Zay s=false) :
 Calls prog 275 #[.int .i64 s] w fun e w'=>e=.returned (.bool false)/\w=w':=by
 have:=Zab s w;rwa[h]at this
theorem ZdU(s:Int)(w:World)(h:Zay s=true) :
 Calls prog 275 #[.int .i64 s] w fun e w'=>e=.returned (.bool true)/\w=w':=by
 have:=Zab s w;rwa[h]at this
theorem Zlc(s:Int)(w:World)(h:Zay s=false) :
 Calls prog 284 #[.int .i64 s] w fun e w'=>e=.returned (.bool false)/\w=w':=by
 have:=Zam s w;rwa[h]at this
theorem Zfj(s:Int)(w:World)(h:Zay s=true) :
 Calls prog 284 #[.int .i64 s] w fun e w'=>e=.returned (.bool true)/\w=w':=by
 have:=Zam s w;rwa[h]at this
theorem ZiD(n s:Int)(w:World) :
 Calls prog 242 #[.int .i64 n,.int .i64 s] w fun e w'=>e=.returned (.bool (Zp n s))/\w=w':=by
 by_cases hs:Zay s=true
 · rcases size_cases hs with rfl|rfl|rfl|rfl
   · clear hs;by_cases h0:0<=n
     · by_cases h1:n<256
       · have e:Zp n 1=true:=by simp[Zp,h0,h1]
         have k0:decide (0<=n)=true:=by simp[h0]
         have k1:decide (n<256)=true:=by simp[h1]
         rw[e];clear e h0 h1
         go_enter func242,ntmps242;go_wp2_with (go_at_call 275;refine(Zab _ _).mono ?_;rintro e w' ⟨rfl,rfl⟩);go_ret;exact⟨rfl,rfl⟩
       · have e:Zp n 1=false:=by simp[Zp,h1]
         have k0:decide (0<=n)=true:=by simp[h0]
         have k1:decide (n<256)=false:=by simp;omega
         rw[e];clear e h0 h1
         go_enter func242,ntmps242;go_wp2_with (go_at_call 275;refine(Zab _ _).mono ?_;rintro e w' ⟨rfl,rfl⟩);go_ret;exact⟨rfl,rfl⟩
     · have e:Zp n 1=false:=by simp[Zp,h0]
       have k0:decide (0<=n)=false:=by simp;omega
       rw[e];clear e h0
       go_enter func242,ntmps242;go_wp2_with (go_at_call 275;refine(Zab _ _).mono ?_;rintro e w' ⟨rfl,rfl⟩);go_ret;exact⟨rfl,rfl⟩
   · clear hs;by_cases h0:0<=n
     · by_cases h1:n<65536
       · have e:Zp n 2=true:=by simp[Zp,h0,h1]
         have k0:decide (0<=n)=true:=by simp[h0]
         have k1:decide (n<65536)=true:=by simp[h1]
         rw[e];clear e h0 h1
         go_enter func242,ntmps242;go_wp2_with (go_at_call 275;refine(Zab _ _).mono ?_;rintro e w' ⟨rfl,rfl⟩);go_ret;exact⟨rfl,rfl⟩
       · have e:Zp n 2=false:=by simp[Zp,h1]
         have k0:decide (0<=n)=true:=by simp[h0]
         have k1:decide (n<65536)=false:=by simp;omega
         rw[e];clear e h0 h1
         go_enter func242,ntmps242;go_wp2_with (go_at_call 275;refine(Zab _ _).mono ?_;rintro e w' ⟨rfl,rfl⟩);go_ret;exact⟨rfl,rfl⟩
     · have e:Zp n 2=false:=by simp[Zp,h0]
       have k0:decide (0<=n)=false:=by simp;omega
       rw[e];clear e h0
       go_enter func242,ntmps242;go_wp2_with (go_at_call 275;refine(Zab _ _).mono ?_;rintro e w' ⟨rfl,rfl⟩);go_ret;exact⟨rfl,rfl⟩
   · clear hs;by_cases h0:0<=n
     · by_cases h1:n<4294967296
       · have e:Zp n 4=true:=by simp[Zp,h0,h1]
         have k0:decide (0<=n)=true:=by simp[h0]
         have k1:decide (n<4294967296)=true:=by simp[h1]
         rw[e];clear e h0 h1
         go_enter func242,ntmps242;go_wp2_with (go_at_call 275;refine(Zab _ _).mono ?_;rintro e w' ⟨rfl,rfl⟩);go_ret;exact⟨rfl,rfl⟩
       · have e:Zp n 4=false:=by simp[Zp,h1]
         have k0:decide (0<=n)=true:=by simp[h0]
         have k1:decide (n<4294967296)=false:=by simp;omega
         rw[e];clear e h0 h1
         go_enter func242,ntmps242;go_wp2_with (go_at_call 275;refine(Zab _ _).mono ?_;rintro e w' ⟨rfl,rfl⟩);go_ret;exact⟨rfl,rfl⟩
     · have e:Zp n 4=false:=by simp[Zp,h0]
       have k0:decide (0<=n)=false:=by simp;omega
       rw[e];clear e h0
       go_enter func242,ntmps242;go_wp2_with (go_at_call 275;refine(Zab _ _).mono ?_;rintro e w' ⟨rfl,rfl⟩);go_ret;exact⟨rfl,rfl⟩
   · clear hs;have e:Zp n 8=true:=by simp[Zp]
     rw[e];clear e
     go_enter func242,ntmps242;go_wp2_with (go_at_call 275;refine(Zab _ _).mono ?_;rintro e w' ⟨rfl,rfl⟩);go_ret;exact⟨rfl,rfl⟩
 · have hs':Zay s=false:=by simpa using hs
   rw[Zda hs']
   have k8:(s == 8)=false:=by
    simp only[Zay,decide_eq_false_iff_not,not_or]at hs';simpa using hs'.2.2.2
   clear hs;have HS:=hid hs';clear hs'
   go_enter func242,ntmps242;go_wp2_with (go_at_call 275;refine(ZiC _ _ HS.out).mono ?_;rintro e w' ⟨rfl,rfl⟩);go_ret;exact⟨rfl,rfl⟩
theorem Zel(n s:Int)(w:World) :
 Calls prog 253 #[.int .i64 n,.int .i64 s] w fun e w'=>e=.returned (.bool (Zp n s))/\w=w':=by
 by_cases hs:Zay s=true
 · rcases size_cases hs with rfl|rfl|rfl|rfl
   · clear hs;by_cases h0:0<=n
     · by_cases h1:n<256
       · have e:Zp n 1=true:=by simp[Zp,h0,h1]
         have k0:decide (0<=n)=true:=by simp[h0]
         have k1:decide (n<256)=true:=by simp[h1]
         rw[e];clear e h0 h1
         go_enter func253,ntmps253;go_wp2_with (first|(go_at_call 284;refine(Zam _ _).mono ?_;rintro e w' ⟨rfl,rfl⟩)|(go_at_call 285;refine(ZqD _).mono ?_;rintro e w' ⟨rfl,rfl⟩));go_ret;exact⟨rfl,rfl⟩
       · have e:Zp n 1=false:=by simp[Zp,h1]
         have k0:decide (0<=n)=true:=by simp[h0]
         have k1:decide (n<256)=false:=by simp;omega
         rw[e];clear e h0 h1
         go_enter func253,ntmps253;go_wp2_with (first|(go_at_call 284;refine(Zam _ _).mono ?_;rintro e w' ⟨rfl,rfl⟩)|(go_at_call 285;refine(ZqD _).mono ?_;rintro e w' ⟨rfl,rfl⟩));go_ret;exact⟨rfl,rfl⟩
     · have e:Zp n 1=false:=by simp[Zp,h0]
       have k0:decide (0<=n)=false:=by simp;omega
       rw[e];clear e h0
       go_enter func253,ntmps253;go_wp2_with (first|(go_at_call 284;refine(Zam _ _).mono ?_;rintro e w' ⟨rfl,rfl⟩)|(go_at_call 285;refine(ZqD _).mono ?_;rintro e w' ⟨rfl,rfl⟩));go_ret;exact⟨rfl,rfl⟩
   · clear hs;by_cases h0:0<=n
     · by_cases h1:n<65536
       · have e:Zp n 2=true:=by simp[Zp,h0,h1]
         have k0:decide (0<=n)=true:=by simp[h0]
         have k1:decide (n<65536)=true:=by simp[h1]
         rw[e];clear e h0 h1
         go_enter func253,ntmps253;go_wp2_with (first|(go_at_call 284;refine(Zam _ _).mono ?_;rintro e w' ⟨rfl,rfl⟩)|(go_at_call 285;refine(ZqX _).mono ?_;rintro e w' ⟨rfl,rfl⟩));go_ret;exact⟨rfl,rfl⟩
       · have e:Zp n 2=false:=by simp[Zp,h1]
         have k0:decide (0<=n)=true:=by simp[h0]
         have k1:decide (n<65536)=false:=by simp;omega
         rw[e];clear e h0 h1
         go_enter func253,ntmps253;go_wp2_with (first|(go_at_call 284;refine(Zam _ _).mono ?_;rintro e w' ⟨rfl,rfl⟩)|(go_at_call 285;refine(ZqX _).mono ?_;rintro e w' ⟨rfl,rfl⟩));go_ret;exact⟨rfl,rfl⟩
     · have e:Zp n 2=false:=by simp[Zp,h0]
       have k0:decide (0<=n)=false:=by simp;omega
       rw[e];clear e h0
       go_enter func253,ntmps253;go_wp2_with (first|(go_at_call 284;refine(Zam _ _).mono ?_;rintro e w' ⟨rfl,rfl⟩)|(go_at_call 285;refine(ZqX _).mono ?_;rintro e w' ⟨rfl,rfl⟩));go_ret;exact⟨rfl,rfl⟩
   · clear hs;by_cases h0:0<=n
     · by_cases h1:n<4294967296
       · have e:Zp n 4=true:=by simp[Zp,h0,h1]
         have k0:decide (0<=n)=true:=by simp[h0]
         have k1:decide (n<4294967296)=true:=by simp[h1]
         rw[e];clear e h0 h1
         go_enter func253,ntmps253;go_wp2_with (first|(go_at_call 284;refine(Zam _ _).mono ?_;rintro e w' ⟨rfl,rfl⟩)|(go_at_call 285;refine(ZqY _).mono ?_;rintro e w' ⟨rfl,rfl⟩));go_ret;exact⟨rfl,rfl⟩
       · have e:Zp n 4=false:=by simp[Zp,h1]
         have k0:decide (0<=n)=true:=by simp[h0]
         have k1:decide (n<4294967296)=false:=by simp;omega
         rw[e];clear e h0 h1
         go_enter func253,ntmps253;go_wp2_with (first|(go_at_call 284;refine(Zam _ _).mono ?_;rintro e w' ⟨rfl,rfl⟩)|(go_at_call 285;refine(ZqY _).mono ?_;rintro e w' ⟨rfl,rfl⟩));go_ret;exact⟨rfl,rfl⟩
     · have e:Zp n 4=false:=by simp[Zp,h0]
       have k0:decide (0<=n)=false:=by simp;omega
       rw[e];clear e h0
       go_enter func253,ntmps253;go_wp2_with (first|(go_at_call 284;refine(Zam _ _).mono ?_;rintro e w' ⟨rfl,rfl⟩)|(go_at_call 285;refine(ZqY _).mono ?_;rintro e w' ⟨rfl,rfl⟩));go_ret;exact⟨rfl,rfl⟩
   · clear hs;have e:Zp n 8=true:=by simp[Zp]
     rw[e];clear e
     go_enter func253,ntmps253;go_wp2_with (first|(go_at_call 284;refine(Zam _ _).mono ?_;rintro e w' ⟨rfl,rfl⟩)|(go_at_call 285;refine(ZqD _).mono ?_;rintro e w' ⟨rfl,rfl⟩));go_ret;exact⟨rfl,rfl⟩
 · have hs':Zay s=false:=by simpa using hs
   rw[Zda hs']
   have k8:(s == 8)=false:=by
    simp only[Zay,decide_eq_false_iff_not,not_or]at hs';simpa using hs'.2.2.2
   clear hs;have HS:=hid hs';clear hs'
   go_enter func253,ntmps253;go_wp2_with (first|(go_at_call 284;refine(Zlc _ _ HS.out).mono ?_;rintro e w' ⟨rfl,rfl⟩)|(go_at_call 285;refine(ZqD _).mono ?_;rintro e w' ⟨rfl,rfl⟩));go_ret;exact⟨rfl,rfl⟩
theorem Znx(n s:Int)(w:World)(h:Zp n s=true):Calls prog 242 #[.int .i64 n,.int .i64 s] w fun e w'=>e=.returned (.bool true)/\w=w':=by
 have:=ZiD n s w;rwa[h]at this
theorem Zo6(n s:Int)(w:World)(h:Zp n s=false):Calls prog 242 #[.int .i64 n,.int .i64 s] w fun e w'=>e=.returned (.bool false)/\w=w':=by
 have:=ZiD n s w;rwa[h]at this
theorem ZiE(n s:Int)(w:World)(h:Zp n s=true):Calls prog 253 #[.int .i64 n,.int .i64 s] w fun e w'=>e=.returned (.bool true)/\w=w':=by
 have:=Zel n s w;rwa[h]at this
theorem Zj8(n s:Int)(w:World)(h:Zp n s=false):Calls prog 253 #[.int .i64 n,.int .i64 s] w fun e w'=>e=.returned (.bool false)/\w=w':=by
 have:=Zel n s w;rwa[h]at this
def Zny(n c:Int):Int:=bits .or .i64 (wrap64 (n*256)) c
def numOf(l:List Int):Int:=l.foldl Zny 0
def beOf(l:List Int):Int:=l.foldl (fun n c=>n*256+c) 0
def ZaS(n:Int):Nat->List Int|0=>[]|k+1=>ZaS (n/256) k++[n%256]
theorem Zgl(l:List Int)(x:Int):numOf (l++[x])=Zny (numOf l) x:=by simp[numOf]
theorem ZiF(l:List Int)(x:Int):beOf (l++[x])=beOf l*256+x:=by simp[beOf]
theorem Zgm(l:List Int)(a k:Nat)(h:a+k<l.length):numOf ((l.drop a).take (k+1))=Zny (numOf ((l.drop a).take k)) (l[a+k]?.getD 0):=by
 have e:(l.drop a).take (k+1)=(l.drop a).take k++[l[a+k]?.getD 0]:=by
  rw[List.take_succ_eq_append_getElem (by simp;omega)];simp[List.getElem?_eq_getElem h]
 rw[e,Zgl]
theorem Zhg(x y:Int):bits .or .i64 x y=wrap64 (((x%18446744073709551616).toNat ||| (y%18446744073709551616).toNat:Nat):Int):=by
 have e:∀z:Int,IntKind.i64.wrap z=wrap64 z:=fun z=>by rw[IntKind.wrap_i64];first|rfl|(unfold wrap64;rfl)|unfold wrap64
 simp only[bits];rw[e,BitVec.toNat_or,BitVec.toNat_ofInt,BitVec.toNat_ofInt];rfl
theorem Zo7(n c:Int)(h0:0<=c)(h1:c<256):Zny n c=wrap64 (n*256+c):=by
 unfold Zny;rw[Zhg]
 obtain⟨q,hq⟩:∃q:Nat,(wrap64 (n*256)%18446744073709551616).toNat=256*q:=by
  refine⟨(wrap64 (n*256)%18446744073709551616).toNat/256,?_⟩;unfold wrap64;omega
 obtain⟨d,rfl⟩:=Int.eq_ofNat_of_zero_le h0;have hd:((d:Int)%18446744073709551616).toNat=d:=by omega
 rw[hq,hd];have hor:256*q ||| d=256*q+d:=(Nat.two_pow_add_eq_or_of_lt (i:=8) (by omega) q).symm
 rw[hor]
 unfold wrap64 at hq ⊢
 omega
theorem Zhh(l:List Int)(h:∀x∈l,0<=x/\x<256):numOf l=wrap64 (beOf l):=by
 suffices H:∀k,k<=l.length->numOf (l.take k)=wrap64 (beOf (l.take k)) by
  have:=H l.length (Nat.le_refl _);rwa[List.take_length]at this
 intro k
 induction k with
 | zero=>intro _;simp[numOf,beOf,wrap64]
 | succ k ih=>
  intro hk;rw[List.take_succ_eq_append_getElem (by omega),Zgl,ZiF,ih (by omega)];obtain⟨a,b⟩:=h _ (List.getElem_mem (by omega:k<l.length));rw[Zo7 _ _ a b];generalize beOf (List.take k l)=z;unfold wrap64;omega
theorem Zaj(n:Int)(k:Nat):(ZaS n k).length=k:=by
 induction k generalizing n with
 | zero=>rfl
 | succ k ih=>simp[ZaS,ih]
theorem Zgn(n:Int)(k:Nat):∀x∈ZaS n k,0<=x/\x<256:=by
 induction k generalizing n with
 | zero=>intro x hx;cases hx
 | succ k ih=>
  intro x hx;simp only[ZaS,List.mem_append,List.mem_singleton]at hx;rcases hx with h|h
  · exact ih _ x h
  · subst h;omega
theorem Znz(n:Int)(k:Nat):beOf (ZaS n k)=n%256^k:=by
 induction k generalizing n with
 | zero=>simp[ZaS,beOf]
 | succ k ih=>
  rw[ZaS,ZiF,ih,Int.pow_succ];have h1:=Int.emod_add_mul_ediv n 256;have h2:=Int.emod_add_mul_ediv (n/256) (256^k);have hp:(0:Int)<256^k:=Int.pow_pos (by decide);have h3:0<=n/256%256^k:=Int.emod_nonneg _ (by omega);have h4:n/256%256^k<256^k:=Int.emod_lt_of_pos _ hp
  have h5:n=(n/256%256^k*256+n%256)+(256^k*256)*(n/256/256^k):=by
   have:256^k*256*(n/256/256^k)=256*(256^k*(n/256/256^k)):=by
    rw[Int.mul_comm (256^k) 256,Int.mul_assoc]
   rw[this];omega
  have h6:(n/256%256^k*256+n%256)%(256^k*256)=n/256%256^k*256+n%256:=
   Int.emod_eq_of_lt (by omega) (by omega)
  rw[<-h6]
  conv=>rhs;rw[h5]
  rw[Int.add_mul_emod_self_left]
def shN(n:Int):Nat->Int|0=>n|j+1=>shN n j/256
theorem ZnA(n:Int)(j:Nat):shN n (j+1)=shN (n/256) j:=by
 induction j with
 | zero=>rfl
 | succ j ih=>rw[shN,ih];rfl
theorem ZdV(n:Int)(j:Nat):ZaS n (j+1)=(shN n j%256)::ZaS n j:=by
 induction j generalizing n with
 | zero=>simp[ZaS,shN]
 | succ j ih=>
  rw[ZaS,ih,ZnA]
  conv=>rhs;rw[ZaS]
  simp
theorem ZlY(n:Int)(h0 : -9223372036854775808<=n)(h1:n<=9223372036854775807)(j:Nat) : -9223372036854775808<=shN n j/\shN n j<=9223372036854775807:=by
 induction j with
 | zero=>exact⟨h0,h1⟩
 | succ j ih=>rw[shN];omega
end Go.Proofs.YtiknkbpojmgbhaaGreat
namespace Go.Proofs.YtiknkbpojmgbhaaGreat
open Go.RowKit
def ZmG(l:List Int)(a s:Int):Int×Int:=
 if Zay s=true/\0<=a then(if a>(l.length:Int)-s then(0,3)else(numOf ((l.drop a.toNat).take s.toNat),0))else(0,1)
theorem ZqE(A:Option Addr)(n c B:Nat)(l:List Int)(at_:Nat)(size:Nat)(w:World)(hr:RB w B A n l)(hc:n<=c)(hm:n<=maxLen)(hs:Zay (size:Int)=true)(hat:at_+size<=n) :
 Calls prog 244 #[.slice A n c,.int .i64 (at_:Int),.int .i64 (size:Int)] w fun e w'=>e=.returned (.tuple #[.int .i64 (numOf ((l.drop at_).take size)),.int .i64 0])/\w=w':=by
 unfold maxLen at hm;have hsz:1<=size/\size<=8:=by rcases size_cases hs with h|h|h|h <;> omega
 obtain⟨hsz1,hsz8⟩:=hsz;obtain⟨b,off,rfl,hb,hcell⟩:=hr.at_ (by omega);have HC:=hid hcell;have HS:=hid hs;clear hcell hs;have k1:decide ((at_:Int)<0)=false:=by simp
 have k2:decide ((at_:Int)>(n:Int)-size)=false:=by simp;omega
 go_enter func244,ntmps244
 go_wp2_with (go_at_call 275;refine(ZdU _ _ HS.out).mono ?_;rintro e w' ⟨rfl,rfl⟩)
 go_loop[8,31] (fun x i=>∃k:Nat,k<=size/\i=.int .i64 k/\x=.int .i64 (numOf ((l.drop at_).take k))) (fun _ i=>size-(intOf i).toNat)
 case atStart=>exact⟨0,Nat.zero_le _,rfl,rfl⟩
 case round=>
  obtain⟨k,hk,rfl,rfl⟩:=hrel;by_cases hlt:k<size
  · have hcell:w.cell? ⟨b,off+at_+k,none⟩=some (.int .u8 (l[at_+k]?.getD 0)):=by rw[Nat.add_assoc];exact HC.out (at_+k) (by omega)
    have hbd:=hr.bytes.getD (at_+k);obtain⟨hb0,hb1⟩:=hbd;have hst:=hid (Zgm l at_ k (by have:=hr.len;omega));have hbig:k<at_+size-at_:=by omega
    go_wp2
    go_round
    case rel=>exact⟨k+1,by omega,by go_num,by rw[hst.out];rfl⟩
    case measure=>simp[intOf];omega
  · have hnlt:¬(k<size):=hlt;go_wp2;go_ret2;obtain rfl:k=size:=by omega
    exact⟨rfl,rfl⟩
theorem ZnB(A:Option Addr)(n c:Nat)(at_ s:Int)(w:World)(hm:n<=maxLen)(hs:Zay s=true)(ha:0<=at_)(hat:at_>(n:Int)-s) :
 Calls prog 244 #[.slice A n c,.int .i64 at_,.int .i64 s] w fun e w'=>e=.returned (.tuple #[.int .i64 0,.int .i64 3])/\w=w':=by
 unfold maxLen at hm;have hsz:1<=s/\s<=8:=by rcases size_cases hs with h|h|h|h <;> omega
 obtain⟨hsz1,hsz8⟩:=hsz;have HS:=hid hs;have k1:decide (at_<0)=false:=by simp;omega
 have k2:decide (at_>(n:Int)-s)=true:=by simp;omega
 clear hs hat;go_enter func244,ntmps244
 go_wp2_with (go_at_call 275;refine(ZdU _ _ HS.out).mono ?_;rintro e w' ⟨rfl,rfl⟩)
 go_ret2;exact⟨rfl,rfl⟩
theorem Zqd(A:Option Addr)(n c:Nat)(at_ s:Int)(w:World)(h:Zay s=false∨at_<0) :
 Calls prog 244 #[.slice A n c,.int .i64 at_,.int .i64 s] w fun e w'=>e=.returned (.tuple #[.int .i64 0,.int .i64 1])/\w=w':=by
 by_cases hs:Zay s=true
 · have ha:at_<0:=by
    rcases h with h|h
    · rw[hs]at h;cases h
    · exact h
   have k1:decide (at_<0)=true:=by simp[ha]
   have HS:=hid hs;clear hs h ha;go_enter func244,ntmps244
   go_wp2_with (go_at_call 275;refine(ZdU _ _ HS.out).mono ?_;rintro e w' ⟨rfl,rfl⟩)
   go_ret2;exact⟨rfl,rfl⟩
 · have hs':Zay s=false:=by simpa using hs
   have HS:=hid hs';clear hs hs' h;go_enter func244,ntmps244
   go_wp2_with (go_at_call 275;refine(ZiC _ _ HS.out).mono ?_;rintro e w' ⟨rfl,rfl⟩)
   go_ret2;exact⟨rfl,rfl⟩
theorem Zhi(A:Option Addr)(n c B:Nat)(l:List Int)(at_ s:Int)(w:World)(hr:RB w B A n l)(hc:n<=c)(hm:n<=maxLen) :
 Calls prog 244 #[.slice A n c,.int .i64 at_,.int .i64 s] w fun e w'=>e=.returned (.tuple #[.int .i64 (ZmG l at_ s).1,.int .i64 (ZmG l at_ s).2])/\w=w':=by
 unfold ZmG;by_cases hs:Zay s=true/\0<=at_
 · rw[if_pos hs];obtain⟨h1,h2⟩:=hs;rw[hr.len];by_cases hat:at_>(n:Int)-s
   · rw[if_pos hat];exact ZnB A n c at_ s w hm h1 h2 hat
   · rw[if_neg hat];obtain⟨a,rfl⟩:=Int.eq_ofNat_of_zero_le h2;obtain⟨z,rfl⟩:=Int.eq_ofNat_of_zero_le (show 0<=s by rcases size_cases h1 with h|h|h|h <;> omega);exact ZqE A n c B l a z w hr hc hm h1 (by omega)
 · rw[if_neg hs];refine Zqd A n c at_ s w ?_;by_cases h1:Zay s=true
   · right;by_cases h2:0<=at_
     · exact absurd ⟨h1,h2⟩ hs
     · omega
   · left;simpa using h1
theorem ZnC(A:Option Addr)(n c B:Nat)(l:List Int)(at_:Nat)(size:Nat)(w:World)(hr:RB w B A n l)(hc:n<=c)(hm:n<=maxLen)(hs:Zay (size:Int)=true)(hat:at_+size<=n) :
 Calls prog 270 #[.slice A n c,.int .i64 (at_:Int),.int .i64 (size:Int)] w fun e w'=>e=.returned (.tuple #[.int .i64 (numOf ((l.drop at_).take size)),.int .i64 0])/\w=w':=by
 unfold maxLen at hm;have hsz:1<=size/\size<=8:=by rcases size_cases hs with h|h|h|h <;> omega
 obtain⟨hsz1,hsz8⟩:=hsz;obtain⟨b,off,rfl,hb,hcell⟩:=hr.at_ (by omega);have HC:=hid hcell;have HS:=hid hs;clear hcell hs;have k1:decide ((at_:Int)<0)=false:=by simp
 have k2:decide ((at_:Int)>(n:Int)-size)=false:=by simp;omega
 go_enter func270,ntmps270
 go_wp2_with (go_at_call 284;refine(Zfj _ _ HS.out).mono ?_;rintro e w' ⟨rfl,rfl⟩)
 go_loop[8,9] (fun x i=>∃k:Nat,k<=size/\i=.int .i64 k/\x=.int .i64 (numOf ((l.drop at_).take k))) (fun _ i=>size-(intOf i).toNat)
 case atStart=>exact⟨0,Nat.zero_le _,rfl,rfl⟩
 case round=>
  obtain⟨k,hk,rfl,rfl⟩:=hrel;by_cases hlt:k<size
  · have hcell:w.cell? ⟨b,off+(at_+k),none⟩=some (.int .u8 (l[at_+k]?.getD 0)):=by exact HC.out (at_+k) (by omega)
    have hbd:=hr.bytes.getD (at_+k);obtain⟨hb0,hb1⟩:=hbd;have hst:=hid (Zgm l at_ k (by have:=hr.len;omega));have hbig:at_+k<n:=by omega
    go_wp2
    go_round
    case rel=>exact⟨k+1,by omega,by go_num,by rw[hst.out];rfl⟩
    case measure=>simp[intOf];omega
  · have hnlt:¬(k<size):=hlt;go_wp2;go_ret2;obtain rfl:k=size:=by omega
    exact⟨rfl,rfl⟩
theorem ZiG(A:Option Addr)(n c:Nat)(at_ s:Int)(w:World)(hm:n<=maxLen)(hs:Zay s=true)(ha:0<=at_)(hat:at_>(n:Int)-s) :
 Calls prog 270 #[.slice A n c,.int .i64 at_,.int .i64 s] w fun e w'=>e=.returned (.tuple #[.int .i64 0,.int .i64 3])/\w=w':=by
 unfold maxLen at hm;have hsz:1<=s/\s<=8:=by rcases size_cases hs with h|h|h|h <;> omega
 obtain⟨hsz1,hsz8⟩:=hsz;have HS:=hid hs;have k1:decide (at_<0)=false:=by simp;omega
 have k2:decide (at_>(n:Int)-s)=true:=by simp;omega
 clear hs hat;go_enter func270,ntmps270
 go_wp2_with (go_at_call 284;refine(Zfj _ _ HS.out).mono ?_;rintro e w' ⟨rfl,rfl⟩)
 go_ret2;exact⟨rfl,rfl⟩
theorem ZlZ(A:Option Addr)(n c:Nat)(at_ s:Int)(w:World)(h:Zay s=false∨at_<0) :
 Calls prog 270 #[.slice A n c,.int .i64 at_,.int .i64 s] w fun e w'=>e=.returned (.tuple #[.int .i64 0,.int .i64 1])/\w=w':=by
 by_cases hs:Zay s=true
 · have ha:at_<0:=by
    rcases h with h|h
    · rw[hs]at h;cases h
    · exact h
   have k1:decide (at_<0)=true:=by simp[ha]
   have HS:=hid hs;clear hs h ha;go_enter func270,ntmps270
   go_wp2_with (go_at_call 284;refine(Zfj _ _ HS.out).mono ?_;rintro e w' ⟨rfl,rfl⟩)
   go_ret2;exact⟨rfl,rfl⟩
 · have hs':Zay s=false:=by simpa using hs
   have HS:=hid hs';clear hs hs' h;go_enter func270,ntmps270
   go_wp2_with (go_at_call 284;refine(Zlc _ _ HS.out).mono ?_;rintro e w' ⟨rfl,rfl⟩)
   go_ret2;exact⟨rfl,rfl⟩
theorem Zgo(A:Option Addr)(n c B:Nat)(l:List Int)(at_ s:Int)(w:World)(hr:RB w B A n l)(hc:n<=c)(hm:n<=maxLen) :
 Calls prog 270 #[.slice A n c,.int .i64 at_,.int .i64 s] w fun e w'=>e=.returned (.tuple #[.int .i64 (ZmG l at_ s).1,.int .i64 (ZmG l at_ s).2])/\w=w':=by
 unfold ZmG;by_cases hs:Zay s=true/\0<=at_
 · rw[if_pos hs];obtain⟨h1,h2⟩:=hs;rw[hr.len];by_cases hat:at_>(n:Int)-s
   · rw[if_pos hat];exact ZiG A n c at_ s w hm h1 h2 hat
   · rw[if_neg hat];obtain⟨a,rfl⟩:=Int.eq_ofNat_of_zero_le h2;obtain⟨z,rfl⟩:=Int.eq_ofNat_of_zero_le (show 0<=s by rcases size_cases h1 with h|h|h|h <;> omega);exact ZnC A n c B l a z w hr hc hm h1 (by omega)
 · rw[if_neg hs];refine ZlZ A n c at_ s w ?_;by_cases h1:Zay s=true
   · right;by_cases h2:0<=at_
     · exact absurd ⟨h1,h2⟩ hs
     · omega
   · left;simpa using h1
end Go.Proofs.YtiknkbpojmgbhaaGreat
