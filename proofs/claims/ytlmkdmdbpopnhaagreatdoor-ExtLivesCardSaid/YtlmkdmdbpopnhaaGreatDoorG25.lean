/- Hash. Conditions: in each theorem. -/
import Derived.Test.YtlmkdmdbpopnhaaGreatDoorG1
import Derived.Lib.SlBytesConst
set_option maxHeartbeats 400000
set_option maxRecDepth 100000
set_option linter.unusedVariables false
open Go.Proofs.Tryz
open Go.Lib (hid)
namespace Go.Proofs.YtlmkdmdbpopnhaaGreatDoor
open Go.RowKit
theorem Zp6{a b:Nat}(ha:a<4294967296)(hb:b<4294967296):a ^^^ b<4294967296:=Nat.xor_lt_two_pow (n:=32) ha hb
theorem Zlq(a b:Nat)(ha:a<4294967296)(hb:b<4294967296):bits .xor .u32 (a:Int) (b:Int)=((a ^^^ b:Nat):Int)/\bits .and .u32 (a:Int) (b:Int)=((a &&& b:Nat):Int):=by
 have hw:∀n:Int,0<=n->n<4294967296->IntKind.u32.wrap n=n:=fun n h0 h1=>by rw[IntKind.wrap_u32];omega
 have ha':a%4294967296=a:=Nat.mod_eq_of_lt ha;have hb':b%4294967296=b:=Nat.mod_eq_of_lt hb;constructor
 · simp only[bits,BitVec.ofInt_natCast,BitVec.toNat_xor,BitVec.toNat_ofNat];rw[show(2:Nat)^IntKind.u32.bits=4294967296 from rfl,ha',hb'];exact hw _ (Int.natCast_nonneg _) (by have:=Zp6 ha hb;omega)
 · simp only[bits,BitVec.ofInt_natCast,BitVec.toNat_and,BitVec.toNat_ofNat];rw[show(2:Nat)^IntKind.u32.bits=4294967296 from rfl,ha',hb'];exact hw _ (Int.natCast_nonneg _) (by have:=Nat.and_lt_two_pow a (n:=32) (show b<2^32 from hb);omega)
def ZkD(h c:Nat):Nat:=(h ^^^ c)*16777619%4294967296
def hashL(l:List Int):Nat:=l.foldl (fun h c=>ZkD h c.toNat) 2166136261
theorem Zpi(h c:Nat):ZkD h c<4294967296:=by
 unfold ZkD;generalize h ^^^ c=x;omega
theorem Zhg(l:List Int)(x:Int):hashL (l++[x])=ZkD (hashL l) x.toNat:=by
 unfold hashL;rw[List.foldl_append,List.foldl_cons,List.foldl_nil]
theorem ZeA(l:List Int):hashL l<4294967296:=by
 rcases List.eq_nil_or_concat l with rfl|⟨k,x,rfl⟩
 · show(2166136261:Nat)<4294967296
   omega
 · rw[List.concat_eq_append,Zhg];exact Zpi _ _
theorem Zmv(l:List Int)(k:Nat)(h:k<l.length):hashL (l.take (k+1))=ZkD (hashL (l.take k)) (l[k]?.getD 0).toNat:=by
 rw[List.take_succ_eq_append_getElem h,Zhg];simp[ZZc h]
theorem ZnZ(A:Option Addr)(n c B:Nat)(l:List Int)(w:World)(hr:RB w B A n l)(hm:n<=maxLen) :
 Calls prog 165 #[.slice A n c] w fun e w'=>e=.returned (.int .u32 ((hashL l:Nat):Int))/\w=w':=by
 unfold maxLen at hm;go_enter func165,ntmps165;go_wp2
 go_loop[3,8] (fun v i=>∃k:Nat,k<=n/\i=.int .i64 k/\v=.int .u32 ((hashL (l.take k):Nat):Int)) (fun _ i=>n-(intOf i).toNat)
 case atStart=>exact⟨0,Nat.zero_le _,rfl,rfl⟩
 case round=>
  obtain⟨k,hk,rfl,rfl⟩:=hrel;have hsk:=ZeA (l.take k);by_cases hlt:k<n
  · obtain⟨b,off,rfl,hb,hcell⟩:=hr.at_ (by omega);have hck:=hcell k hlt;obtain⟨hb0,hb1⟩:=hr.bytes.getD k;have hst:=hid (Zmv l k (by have:=hr.len;omega));obtain⟨x,hx⟩:=Int.eq_ofNat_of_zero_le hb0;rw[hx]at hck hb1 hst;clear hcell hx hb0;have hx256:x<256:=by omega
    generalize hashL (l.take k)=s at hsk hst ⊢;have f1:=(Zlq s x hsk (by omega)).1;have hy:=Zp6 hsk (show x<4294967296 by omega);have hst2:=hid (show ZkD s x=(s ^^^ x)*16777619%4294967296 by unfold ZkD;rfl);generalize s ^^^ x=y at f1 hy hst2;go_wp2
    go_round
    case rel=>exact⟨k+1,by omega,by go_num,by rw[hst.out];simp only[Int.toNat_natCast];rw[hst2.out];first|rfl|simp⟩
    case measure=>simp[intOf];omega
  · obtain rfl:k=n:=by omega
    have hend:l.take k=l:=List.take_of_length_le (by have:=hr.len;omega);rw[hend]at hsk ⊢;clear hend;go_wp2;go_ret;exact⟨rfl,rfl⟩
def ZJ(d:Int):Nat:=(min (max d 0) 30).toNat
def slotN(h d:Nat):Nat:=h%2^d
theorem Zpj{d:Int}(h:d<0):ZJ d=0:=by unfold ZJ;omega
theorem Zpk{d:Int}(h:30<d):ZJ d=30:=by unfold ZJ;omega
theorem Zlr{k:Nat}(h:k<=30):ZJ (k:Int)=k:=by unfold ZJ;omega
theorem Zls{k:Nat}(h:k<=30):0<2^k/\2^k<=1073741824:=⟨Nat.two_pow_pos k,by have:=Nat.pow_le_pow_right (n:=2) (by decide) h;omega⟩
theorem ZhZ(h k:Nat)(hh:h<4294967296)(hk:k<=30):wrap64 (bits .and .u32 (h:Int) ((((2^k-1:Nat):Int))))=((slotN h k:Nat):Int):=by
 obtain⟨p0,p1⟩:=Zls hk;rw[(Zlq h (2^k-1) hh (by omega)).2,Nat.and_two_pow_sub_one_eq_mod]
 have:h%2^k<2^k:=Nat.mod_lt _ p0
 unfold slotN wrap64;omega
theorem ZeB(h:Nat)(d:Int)(hh:h<4294967296)(w:World) :
 Calls prog 164 #[.int .u32 (h:Int),.int .i64 d] w fun e w'=>e=.returned (.int .i64 ((slotN h (ZJ d):Nat):Int))/\w=w':=by
 rcases Int.lt_or_le d 0 with hd|hd
 · have hf:=ZhZ h 0 hh (by decide);rw[Zpj hd];generalize slotN h 0=r at hf ⊢;have hm:¬(30:Int)<0:=by decide
   go_enter func164,ntmps164;go_wp2;go_ret;exact⟨by rw[<-hf];rfl,rfl⟩
 · rcases Int.lt_or_le 30 d with hd2|hd2
   · have hf:=ZhZ h 30 hh (by decide);rw[Zpk hd2];generalize slotN h 30=r at hf ⊢;go_enter func164,ntmps164;go_wp2;go_ret;exact⟨by rw[<-hf];rfl,rfl⟩
   · obtain⟨k,rfl⟩:=Int.eq_ofNat_of_zero_le hd;have hk:k<=30:=by omega
     have hf:=ZhZ h k hh hk;rw[Zlr hk];obtain⟨p0,p1⟩:=Zls hk
     have e1:((2^k-1:Nat):Int)=((2:Int)^k-1)%4294967296:=by
      have:((2^k:Nat):Int)=(2:Int)^k:=by simp
      rw[<-this];omega
     rw[e1]at hf;clear e1;have HF:=hid hf;clear hf;generalize slotN h k=r at HF ⊢;go_enter func164,ntmps164;go_wp2;go_ret;exact⟨by rw[<-HF.out];rfl,rfl⟩
end Go.Proofs.YtlmkdmdbpopnhaaGreatDoor
