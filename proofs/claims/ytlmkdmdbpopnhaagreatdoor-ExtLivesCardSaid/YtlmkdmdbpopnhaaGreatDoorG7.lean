/- Zqi, LayDev, SConcat, SEqual, SClone, SecPack. Conditions: in each theorem. -/
import Derived.Test.YtlmkdmdbpopnhaaGreatDoorG4
import Derived.Test.YtlmkdmdbpopnhaaGreatDoorG2
import Derived.Test.YtlmkdmdbpopnhaaGreatDoorG1
import Derived.Test.YtlmkdmdbpopnhaaGreatDoorG5
import Derived.IntWalk
import Derived.Lib.AppendZerosOnto
import Derived.BigQuiet
set_option maxHeartbeats 1600000
set_option maxRecDepth 100000
set_option linter.unusedVariables false
open Go.Proofs.Tryz
open Go.Lib (hid)
namespace Go.Proofs.YtlmkdmdbpopnhaaGreatDoor
open Go.RowKit
def ZfC:Prop:=∀(n:Int) (w:World),-9223372036854775808<=n/\n<=9223372036854775807->Calls prog 147 #[.int .i64 n] w fun e w'=>e=.returned (.int .i64 (pagesOf n))/\w=w'
def ZgJ:Prop:=∀(n i:Int) (w:World),-9223372036854775808<=n/\n<=9223372036854775807->-9223372036854775808<=i/\i<=9223372036854775807->Calls prog 202 #[.int .i64 n,.int .i64 i] w fun e w'=>e=.returned (.tuple #[.int .i64 (Zgm n i).1,.bool (Zgm n i).2])/\w=w'
def ZgK:Prop:=∀(n i:Int) (w:World),-9223372036854775808<=n/\n<=9223372036854775807->-9223372036854775808<=i/\i<=9223372036854775807->Calls prog 184 #[.int .i64 n,.int .i64 i] w fun e w'=>e=.returned (.tuple #[.int .i64 (ZaL n i).1,.bool (ZaL n i).2])/\w=w'
def ZgL:Prop:=∀w:World,Calls prog 86 #[] w fun e w'=>e=.returned (.int .i64 0)/\w=w'
structure Zqi:Prop where
 pages:ZfC
 slot:ZgJ
 home:ZgK
 mark:ZgL
theorem Zen:ZgL:=by
 intro w;go_enter func86,ntmps86
 go_wp2;go_ret;exact⟨rfl,rfl⟩
theorem ZdJ:ZfC:=by
 intro n w hn;unfold pagesOf;by_cases h1:n<3
 · rw[if_pos (.inl h1)];have k1:decide (n<3)=true:=by simpa using h1
   clear h1;go_enter func147,ntmps147
   go_wp2;go_ret;exact⟨rfl,rfl⟩
 by_cases h2:65536<n
 · rw[if_pos (.inr h2)];have k1:decide (n<3)=false:=by simpa using h1
   have k2:decide (65536<n)=true:=by simpa using h2
   clear h1 h2;go_enter func147,ntmps147
   go_wp2;go_ret;exact⟨rfl,rfl⟩
 · rw[if_neg (by omega)];have k1:decide (n<3)=false:=by simpa using h1
   have k2:decide (65536<n)=false:=by simpa using h2
   go_enter func147,ntmps147
   go_wp2;go_ret
   exact⟨rfl,rfl⟩
theorem Zhz(n i:Int)(w:World)(hn : -9223372036854775808<=n/\n<=9223372036854775807)(hi : -9223372036854775808<=i/\i<=9223372036854775807):Calls prog 227 #[.int .i64 n,.int .i64 i] w fun e w'=>e=.returned (.bool (decide (0<=i/\i<pagesOf n)))/\w=w':=by
 have hp:=Zm n;have HP:=hid (ZdJ n w hn);by_cases h1:i<0
 · rw[show decide (0<=i/\i<pagesOf n)=false from by simpa using fun h=>by omega];have k1:decide (0<=i)=false:=by simpa using h1
   clear h1;go_enter func227,ntmps227
   go_wp2_with (go_at_call 147;refine HP.out.mono ?_;rintro e w1 ⟨rfl,rfl⟩)
   go_ret;exact⟨rfl,rfl⟩
 have k1:decide (0<=i)=true:=by simpa using h1
 by_cases h2:i<pagesOf n
 · rw[show decide (0<=i/\i<pagesOf n)=true from by simpa using ⟨by omega,h2⟩];have k2:decide (i<pagesOf n)=true:=by simpa using h2
   clear h1 h2;go_enter func227,ntmps227
   go_wp2_with (go_at_call 147;refine HP.out.mono ?_;rintro e w1 ⟨rfl,rfl⟩)
   go_ret;exact⟨rfl,rfl⟩
 · rw[show decide (0<=i/\i<pagesOf n)=false from by simpa using fun h=>by omega];have k2:decide (i<pagesOf n)=false:=by simpa using h2
   clear h1 h2;go_enter func227,ntmps227
   go_wp2_with (go_at_call 147;refine HP.out.mono ?_;rintro e w1 ⟨rfl,rfl⟩)
   go_ret;exact⟨rfl,rfl⟩
theorem Zk6:ZgJ:=by
 intro n i w hn hi;have hp:=Zm n;have HH:=hid (Zhz n i w hn hi);have HM:=hid (Zen w);unfold Zgm;by_cases h:0<=i/\i<pagesOf n
 · rw[if_neg (by omega)];rw[show decide (0<=i/\i<pagesOf n)=true from by simpa using h]at HH;go_enter func202,ntmps202
   go_wp2_with (first
    | (go_at_call 227;refine HH.out.mono ?_;rintro e w1 ⟨rfl,rfl⟩)
    | (go_at_call 86;refine HM.out.mono ?_;rintro e w1 ⟨rfl,rfl⟩))
   go_ret2;exact⟨by simp;omega,rfl⟩
 · rw[if_pos (by omega)];rw[show decide (0<=i/\i<pagesOf n)=false from by simpa using h]at HH;go_enter func202,ntmps202
   go_wp2_with (first
    | (go_at_call 227;refine HH.out.mono ?_;rintro e w1 ⟨rfl,rfl⟩)
    | (go_at_call 86;refine HM.out.mono ?_;rintro e w1 ⟨rfl,rfl⟩))
   go_ret2;exact⟨rfl,rfl⟩
theorem Zk7:ZgK:=by
 intro n i w hn hi;have hp:=Zm n;have HH:=hid (Zhz n i w hn hi);have HM:=hid (Zen w);have HP:=hid (ZdJ n w hn);unfold ZaL;by_cases h:0<=i/\i<pagesOf n
 · rw[if_neg (by omega)];rw[show decide (0<=i/\i<pagesOf n)=true from by simpa using h]at HH;generalize pagesOf n=P at *;go_enter func184,ntmps184
   go_wp2_with (first
    | (go_at_call 227;refine HH.out.mono ?_;rintro e w1 ⟨rfl,rfl⟩)
    | (go_at_call 86;refine HM.out.mono ?_;rintro e w1 ⟨rfl,rfl⟩)
    | (go_at_call 147;refine HP.out.mono ?_;rintro e w1 ⟨rfl,rfl⟩))
   go_ret2;exact⟨by simp;omega,rfl⟩
 · rw[if_pos (by omega)];rw[show decide (0<=i/\i<pagesOf n)=false from by simpa using h]at HH;go_enter func184,ntmps184
   go_wp2_with (first
    | (go_at_call 227;refine HH.out.mono ?_;rintro e w1 ⟨rfl,rfl⟩)
    | (go_at_call 86;refine HM.out.mono ?_;rintro e w1 ⟨rfl,rfl⟩)
    | (go_at_call 147;refine HP.out.mono ?_;rintro e w1 ⟨rfl,rfl⟩))
   go_ret2;exact⟨rfl,rfl⟩
theorem ZbH:Zqi:=⟨ZdJ,Zk6,Zk7,Zen⟩
theorem Zk8(n:Nat)(w:World)(h0:0<n)(hn:n<=140737488355328):Calls prog 233 #[.slice none 0 0,.int .i64 n] w fun e w'=>∃v,e=.returned v/\w'.ownsRow w.heap.size 5 1 v 0 []/\Below w.heap.size w w':=by
 obtain⟨i0,hi,hz0,hz1,hz2⟩:=info_parts Zbg
 have hrz:∀ty,(Builtin.append_ #[55,3] ty #[.slice none 0 0,.int .i64 (n:Int)]).run prog w =
  .ok (.slice (some ⟨w.heap.size,0,none⟩) n (grownCap w n 0 5)) (w.drew.alloc (.cells (#[]++Builtin.zeroCells (Value.int .u8 0).cells n++Builtin.zeroCells (Value.int .u8 0).cells (grownCap w n 0 5-n)) 5)):=fun ty=>by
  have h:=Lib.run_append_grow_zeros w 55 3 ty 5 i0 (.int .u8 0) .i64 .i64 underlying55 underlying3 hi hz0 none 0 0 [] (run_firstCells_none w.drew i0.size 0 0 0) n h0 (by rw[hz1];decide) (by omega) (by omega) (by rw[hz2];omega) (by rw[hz2];exact growslice_fits (by omega) (by omega));simp only[Nat.zero_add]at h;exact h
 have hGn:n<=grownCap w n 0 5:=grownCap_ge w _ _ _;have hGm:=grownCap_le_maxLen w n 0 5 (by unfold maxLen;omega);obtain⟨G,hG⟩:∃G,G=grownCap w n 0 5:=⟨_,rfl⟩
 rw[<-hG]at hrz hGn hGm;have hG63:G<=9223372036854775807:=by unfold maxLen at hGm;omega
 clear hG hi hz0 hz1 hz2;have hn0:(0:Int)<(n:Int):=by omega
 go_enter func233,ntmps233
 go_wp2_with (at_builtin;refine Lib.wpList_append_run _ rfl _ _ _ _ rfl _ _ rfl rfl _ _ (hrz _) ?_)
 all_goals go_ret
 all_goals refine⟨_,rfl,⟨rfl,.inr ⟨w.heap.size,G,_,rfl,ZZe _,heap_alloc_new _ _,Nat.zero_le _,hGm,?_,rfl⟩⟩,(Below.refl w.heap.size w).drew.alloc (ZZe _) _⟩
 all_goals simp[size_zeroCells]
 all_goals omega
def ZjV(ns:Nat->Nat):Nat->Nat|0=>0|k+1=>ZjV ns k+ns k
def Zqj(ls:Nat->List Int):Nat->List Int|0=>[]|k+1=>Zqj ls k++ls k
theorem ZqX(ns:Nat->Nat){j k:Nat}(h:j<=k):ZjV ns j<=ZjV ns k:=by
 induction h with
 | refl=>exact ZZe _
 | step _ ih=>exact ZZf ih (Nat.le_add_right _ _)
theorem ZhA(g k B:Nat)(As:Nat->Option Addr)(ns cs:Nat->Nat)(ls:Nat->List Int)(w:World)(hg:g<w.heap.size)(hB:B<=w.heap.size)(hk:k<=1000)
 (hcell:∀j,j<k->w.cell? ⟨g,j,none⟩=some (.slice (As j) (ns j) (cs j))) (hr:∀j,j<k->RB w B (As j) (ns j) (ls j)) (h0:0<ZjV ns k) (hn:ZjV ns k<=140737488355328) :
 Calls prog 195 #[.slice (some ⟨g,0,none⟩) k k] w fun e w'=>∃v,e=.returned v/\w'.ownsRow w.heap.size 5 1 v (ZjV ns k) ((Zqj ls k).map (Value.int .u8))/\Below w.heap.size w w':=by
 have HC:=hid hcell;have HR:=hid hr;have HT:=hid (fun j (hj:j<k)=>show ZjV ns j+ns j<=ZjV ns k from ZqX ns (Nat.succ_le_of_lt hj));clear hcell hr;go_enter func195,ntmps195;go_wp2
 go_loop[3,11] (fun s i=>∃j:Nat,j<=k/\i=.int .i64 j/\s=.int .i64 (ZjV ns j:Int)) (fun _ i=>k-(intOf i).toNat)
 case atStart=>exact⟨0,Nat.zero_le _,rfl,rfl⟩
 case round=>
  obtain⟨j,hj,rfl,rfl⟩:=hrel;by_cases hlt:j<k
  · have hc:=HC.out j hlt;have ht:=HT.out j hlt;have hlt':(j:Int)<(k:Int):=by omega
    obtain⟨x,hx⟩:∃x,x=ZjV ns j:=⟨_,rfl⟩
    obtain⟨y,hy⟩:∃y,y=ns j:=⟨_,rfl⟩
    have hxy:=hid (show ZjV ns (j+1)=x+y by rw[hx,hy];rfl);rw[<-hy]at hc;rw[<-hx,<-hy]at ht;rw[<-hx];clear hx hy;have hns:¬((x:Int)+(y:Int)<0):=by omega
    go_wp2;go_roundw
    case rel=>exact⟨j+1,by omega,by go_num,by rw[hxy.out];go_num⟩
    case measure=>simp[intOf];omega
  · obtain rfl:j=k:=by omega
    go_wp2_with fail;refine(Zk8 _ _ h0 hn).mono ?_;rintro e w1⟨v1,rfl,hown1,hb1⟩;go_wp2
    go_loopw[6,27] (fun v i wr=>∃m:Nat,m<=j/\i=.int .i64 m/\wr.ownsRow w.heap.size 5 1 v (ZjV ns m) ((Zqj ls m).map (Value.int .u8))/\Below w.heap.size w wr) (fun _ i _=>j-(intOf i).toNat)
    case atStart=>exact⟨0,Nat.zero_le _,rfl,hown1,hb1⟩
    case round=>
     obtain⟨m,hm,rfl,hown,hbw⟩:=hrel;by_cases hlt2:m<j
     · have hc:=(hbw.cell (p:=⟨g,m,none⟩) hg).trans (HC.out m hlt2);have ht:=HT.out m hlt2;have hrm:=(HR.out m hlt2).below (hbw.mono hB);have hlt':(m:Int)<(j:Int):=by omega
       go_wp2_with (at_builtin;refine Zab rfl _ _ rfl w.heap.size _ (ZjV ns m) (Zqj ls m) rfl hown B (As m) (ns m) (cs m) (ls m) rfl hrm (by omega) hbw.size ?_;intro v2 w2 hown2 _ hb2;have HO2:=hid hown2;have HB2:=hid (hbw.trans hb2);clear hown2 hb2)
       go_roundw
       case rel=>exact⟨m+1,by omega,by go_num,HO2.out,HB2.out⟩
       case measure=>simp[intOf];omega
     · obtain rfl:m=j:=by omega
       go_wp2;go_ret;exact⟨_,rfl,hown,hbw⟩
theorem Zm6{l m:List Int}(h:l.length=m.length)(he:∀j,j<l.length->l[j]?.getD 0=m[j]?.getD 0):l=m:=by
 apply List.ext_getElem h;intro j h1 h2
 have:=he j h1
 rw[ZZc h1,ZZc h2]at this;exact this
theorem Zeo{B:Nat}{w w':World}(h:Below B w w'):∀n,Below B w (w'.drewN n):=fun n=>⟨h.os,h.tape,h.output,h.size,h.block⟩
theorem ZhB{w:World}{B B' n m:Nat}{A A':Option Addr}{l l':List Int}(c d:Nat)(hr:RB w B A n l)(hr':RB w B' A' m l')(hm:n<=maxLen)(hm':m<=maxLen)(hB:B<=w.heap.size)(hB':B'<=w.heap.size) :
 Calls prog 141 #[.slice A n c,.slice A' m d] w fun e w'=>e=.returned (.bool (decide (l=l')))/\Below w.heap.size w w':=by
 unfold maxLen at hm hm';have hlen:=hr.len;have hlen':=hr'.len;by_cases hnm:n=m
 · subst hnm;have hne:((n:Int) != (n:Int))=false:=by simp
   go_enter func141,ntmps141;go_wp2
   go_loopw[13] (fun i wr=>∃k:Nat,k<=n/\i=.int .i64 k/\Hid (∀j,j<k->l[j]?.getD 0=l'[j]?.getD 0)/\Below w.heap.size w wr) (fun i _=>n-(intOf i).toNat)
   case atStart=>exact⟨0,Nat.zero_le _,rfl,hid (fun j hj=>absurd hj (by omega)),Below.refl _ _⟩
   case round=>
    obtain⟨k,hk,rfl,hbef,hbw⟩:=hrel;by_cases hlt:k<n
    · obtain⟨b,off,rfl,hb,hcell⟩:=hr.2.2 (by omega);obtain⟨b',off',rfl,hb',hcell'⟩:=hr'.2.2 (by omega);have hck:=(hbw.cell (p:=⟨b,off+k,none⟩) (ZZd hb hB)).trans (hcell k hlt);have hck':=(hbw.cell (p:=⟨b',off'+k,none⟩) (ZZd hb' hB')).trans (hcell' k hlt);clear hcell hcell';have hlt':(k:Int)<(n:Int):=by omega
      by_cases hv:l[k]?.getD 0=l'[k]?.getD 0
      · have hn:=hid (fun j (hj:j<k+1)=>show l[j]?.getD 0=l'[j]?.getD 0 by
         rcases Nat.lt_or_ge j k with h|h
         · exact hbef.out j h
         · obtain rfl:j=k:=by omega
           exact hv)
        have kv:(l[k]?.getD 0 != l'[k]?.getD 0)=false:=by simp[hv]
        clear hv;generalize l[k]?.getD 0=u at hck kv;generalize l'[k]?.getD 0=u' at hck' kv;go_wp2_with fail
        go_quiet (fail)
        go_wp2;go_roundw
        case rel=>exact⟨k+1,by omega,by go_num,hn,Zeo hbw _⟩
        case measure=>simp[intOf];omega
      · have hd:=hid (show decide (l=l')=false by
         have:¬l=l':=fun e=>hv (by rw[e])
         simpa using this)
        have kv:(l[k]?.getD 0 != l'[k]?.getD 0)=true:=by simpa using hv
        clear hv;generalize l[k]?.getD 0=u at hck kv;generalize l'[k]?.getD 0=u' at hck' kv;go_wp2_with fail
        go_quiet (fail)
        go_wp2;go_ret;rw[hd.out];exact⟨rfl,Zeo hbw _⟩
    · obtain rfl:k=n:=by omega
      have hd:=hid (show decide (l=l')=true by
       have:l=l':=Zm6 (by omega) (fun j hj=>hbef.out j (by omega))
       simpa using this)
      go_wp2;go_ret;rw[hd.out];exact⟨rfl,hbw⟩
 · have hne:((n:Int) != (m:Int))=true:=by simp;omega
   have hd:decide (l=l')=false:=by
    have:¬l=l':=fun e=>hnm (by rw[<-hlen,<-hlen',e])
    simpa using this
   rw[hd];clear hd hnm;go_enter func141,ntmps141;go_wp2;go_ret;exact⟨rfl,Below.refl _ _⟩
theorem ZhC{w:World}{B n:Nat}{A:Option Addr}{l:List Int}(c:Nat)(h:RB w B A n l)(hB:B<=w.heap.size)(hn:n<=140737488355328) :
 Calls prog 112 #[.slice A n c] w fun e w'=>∃A' c',e=.returned (.slice A' n c')/\n<=c'/\RB w' w'.heap.size A' n l/\Below w.heap.size w w':=by
 have q22:∀(w:World) (a:Option Addr) (n c n' c':Nat),(binOp .eql 55 (.slice a n c) (.slice none n' c')).run prog w=.ok (.bool a.isNone) w:=fun w a n c n' c'=>Lib.run_eql_slice_nil w _ _ a n c n' c' underlying55
 rcases A with _|ad
 · have hm:n=0:=by
    rcases Nat.eq_zero_or_pos n with h0|h0
    · exact h0
    · obtain⟨b,off,e,_⟩:=h.at_ h0;cases e
   subst hm;obtain rfl:l = []:=List.eq_nil_of_length_eq_zero h.len;go_enter func112,ntmps112;go_wp2;go_ret;exact⟨none,0,rfl,ZZe _,RB.nil_,Below.refl _ _⟩
 · go_enter func112,ntmps112
   go_wp2_with (at_builtin;refine Zab rfl _ _ rfl w.heap.size _ 0 [] rfl (World.ownsRow_made w #[] 0 (ZZe _) (Nat.zero_le _) rfl) B (some ad) n c l rfl (h.alloc hB _) (by omega) (by simp) ?_;intro v1 w1 hown1 _ hb1)
   simp only[Nat.zero_add,List.nil_append]at hown1;obtain⟨A',c',rfl,hc'⟩:=Zdv hown1;go_ret;exact⟨A',c',rfl,hc',RB.of_own hown1 h.bytes,((Below.refl w.heap.size w).alloc (ZZe _) _).trans hb1⟩
theorem ZpT(p s:Int):Zey p s=(Zj p 4&&(decide (0<=s)&&decide (s<=4611686018427387904))):=by
 unfold Zey Zj;by_cases a:0<=p <;> by_cases b:p<4294967296 <;> by_cases c:0<=s <;> by_cases d:s<=4611686018427387904 <;> simp[a,b,c,d]
theorem Zau:ZjR:=by
 intro p s w;rw[ZpT];generalize hb:Zj p 4=b;generalize h3:decide (0<=s)=b3;generalize h4:decide (s<=4611686018427387904)=b4;have HB:=hid hb;clear hb;cases b
 · go_enter func144,ntmps144
   go_wp2_with (go_at_call 201;refine(ZfK _ _ _ HB.out).mono ?_;rintro e w' ⟨rfl,rfl⟩)
   go_ret;exact⟨rfl,rfl⟩
 cases b3
 · go_enter func144,ntmps144
   go_wp2_with (go_at_call 201;refine(ZcB _ _ _ HB.out).mono ?_;rintro e w' ⟨rfl,rfl⟩)
   go_ret;exact⟨rfl,rfl⟩
 cases b4
 · go_enter func144,ntmps144
   go_wp2_with (go_at_call 201;refine(ZcB _ _ _ HB.out).mono ?_;rintro e w' ⟨rfl,rfl⟩)
   go_ret;exact⟨rfl,rfl⟩
 · go_enter func144,ntmps144
   go_wp2_with (go_at_call 201;refine(ZcB _ _ _ HB.out).mono ?_;rintro e w' ⟨rfl,rfl⟩)
   go_ret;exact⟨rfl,rfl⟩
theorem ZjW(A:Option Addr)(n c B:Nat)(l:List Int)(w:World)(hr:RB w B A n l)(hm:n<=maxLen)(ht:Tab w) :
 Calls prog 142 #[.slice A n c] w fun e w'=>∃v,e=.returned v/\w'.ownsRow w.heap.size 5 1 v 4 ((Zr (Zdx l:Int) 4).map (Value.int .u8))/\Below w.heap.size w w':=by
 have hsl:=ZfP hr.bytes;have HR:=hid (ZjQ (Zge hr.bytes));go_enter func142,ntmps142;go_wp2_with fail;refine(Zqv _ _ _ _ _ _ hr hm ht).mono ?_;rintro e w1⟨rfl,rfl⟩;go_wp2_with fail;refine(Zkv none 0 0 0 [] (Zdx l:Int) 4 _ RB.nil_ (Nat.zero_le _) (ZZe _) (by decide) (by omega) (by omega)).mono ?_;rw[HR.out,Zc];rintro e w2⟨v,rfl,hown,hb⟩;go_wp2;go_ret;exact⟨_,rfl,hown,hb⟩
theorem ZlP(w:World)(cs:Array Value)(T:TypeId)(f:Nat->Value)(k:Nat)(h:∀j,j<k->cs[j]?=some (f j)):∀j,j<k->(w.alloc (.cells cs T)).cell? ⟨w.heap.size,j,none⟩=some (f j):=by
 intro j hj;rw[cell_of_row (w.alloc (.cells cs T)) w.heap.size j cs T (0,0) (heap_alloc_new w _)];exact h j hj
def ZqY(v1 v2 v3:Value):Nat->Value|0=>v1|1=>v2|_=>v3
theorem Zk9(w:World)(v1 v2 v3:Value)(T:TypeId):∀j,j<3->(w.alloc (.cells #[v1,v2,v3] T)).cell? ⟨w.heap.size,j,none⟩=some (ZqY v1 v2 v3 j):=
 ZlP w _ T _ 3 fun j hj=>by
  rcases(show j=0∨j=1∨j=2 by omega)with rfl|rfl|rfl <;> rfl
theorem ZoM(w:World)(v1 v2:Value)(T:TypeId):∀j,j<2->(w.alloc (.cells #[v1,v2] T)).cell? ⟨w.heap.size,j,none⟩=some (ZqY v1 v2 v2 j):=
 ZlP w _ T _ 2 fun j hj=>by
  rcases(show j=0∨j=1 by omega)with rfl|rfl <;> rfl
def Zdd{α:Type}(a b c:α):Nat->α|0=>a|1=>b|_=>c
theorem ZfD(A1 A2 A3:Option Addr)(n1 n2 n3 c1 c2 c3:Nat)(j:Nat):ZqY (.slice A1 n1 c1) (.slice A2 n2 c2) (.slice A3 n3 c3) j=.slice (Zdd A1 A2 A3 j) (Zdd n1 n2 n3 j) (Zdd c1 c2 c3 j):=by
 match j with
 | 0=>rfl
 | 1=>rfl
 | j+2=>rfl
theorem ZqZ{A1 A2 A3:Option Addr}{n1 n2 n3 c1 c2 c3 B:Nat}{l1 l2 l3:List Int}{w:World}(T:TypeId)(h1:RB w B A1 n1 l1)(h2:RB w B A2 n2 l2)(h3:RB w B A3 n3 l3)(hB:B<=w.heap.size)(h0:0<n1)(hn:n1+n2+n3<=140737488355328) :
 Calls prog 195 #[.slice (some ⟨w.heap.size,0,none⟩) 3 3] (w.alloc (.cells #[.slice A1 n1 c1,.slice A2 n2 c2,.slice A3 n3 c3] T)) fun e w'=>∃v,e=.returned v/\w'.ownsRow w.heap.size 5 1 v (n1+n2+n3) ((l1++l2++l3).map (Value.int .u8))/\Below w.heap.size w w':=by
 have ht:ZjV (Zdd n1 n2 n3) 3=n1+n2+n3:=by simp[ZjV,Zdd]
 have hl:Zqj (Zdd l1 l2 l3) 3=l1++l2++l3:=by simp[Zqj,Zdd]
 have hx:=ZhA w.heap.size 3 B (Zdd A1 A2 A3) (Zdd n1 n2 n3) (Zdd c1 c2 c3) (Zdd l1 l2 l3) (w.alloc (.cells #[.slice A1 n1 c1,.slice A2 n2 c2,.slice A3 n3 c3] T)) (by simp) (by simp;omega) (by decide)
  (fun j hj=>by rw[<-ZfD];exact Zk9 w _ _ _ T j hj)
  (fun j hj=>by
   rcases(show j=0∨j=1∨j=2 by omega)with rfl|rfl|rfl
   · exact h1.alloc hB _
   · exact h2.alloc hB _
   · exact h3.alloc hB _)
  (by omega) (by omega)
 rw[ht,hl]at hx;refine hx.mono ?_;rintro e w'⟨v,rfl,hown,hb⟩;exact⟨v,rfl,ZaU hown (by simp),((Below.refl w.heap.size w).alloc (ZZe _) _).trans (hb.mono (by simp))⟩
theorem Zq0{A1 A2:Option Addr}{n1 n2 c1 c2 B:Nat}{l1 l2:List Int}{w:World}(T:TypeId)(h1:RB w B A1 n1 l1)(h2:RB w B A2 n2 l2)(hB:B<=w.heap.size)(h0:0<n1)(hn:n1+n2<=140737488355328) :
 Calls prog 195 #[.slice (some ⟨w.heap.size,0,none⟩) 2 2] (w.alloc (.cells #[.slice A1 n1 c1,.slice A2 n2 c2] T)) fun e w'=>∃v,e=.returned v/\w'.ownsRow w.heap.size 5 1 v (n1+n2) ((l1++l2).map (Value.int .u8))/\Below w.heap.size w w':=by
 have ht:ZjV (Zdd n1 n2 n2) 2=n1+n2:=by simp[ZjV,Zdd]
 have hl:Zqj (Zdd l1 l2 l2) 2=l1++l2:=by simp[Zqj,Zdd]
 have hx:=ZhA w.heap.size 2 B (Zdd A1 A2 A2) (Zdd n1 n2 n2) (Zdd c1 c2 c2) (Zdd l1 l2 l2) (w.alloc (.cells #[.slice A1 n1 c1,.slice A2 n2 c2] T)) (by simp) (by simp;omega) (by decide)
  (fun j hj=>by rw[<-ZfD];exact ZoM w _ _ T j hj)
  (fun j hj=>by
   rcases(show j=0∨j=1 by omega)with rfl|rfl
   · exact h1.alloc hB _
   · exact h2.alloc hB _)
  (by omega) (by omega)
 rw[ht,hl]at hx;refine hx.mono ?_;rintro e w'⟨v,rfl,hown,hb⟩;exact⟨v,rfl,ZaU hown (by simp),((Below.refl w.heap.size w).alloc (ZZe _) _).trans (hb.mono (by simp))⟩
theorem ZpU(A:Option Addr)(n c B:Nat)(l:List Int)(p s:Int)(w:World)(hr:RB w B A n l)(hB:B<=w.heap.size)(hn:n=240)(hs:Zey p s=true)(ht:Tab w)(hg:1<w.heap.size) :
 Calls prog 136 #[.int .i64 p,.int .i64 s,.slice A n c] w fun e w'=>∃v,e=.returned (.tuple #[v,.int .i64 0])/\w'.ownsRow w.heap.size 5 1 v 256 ((Zav p s l).map (Value.int .u8))/\Below w.heap.size w w':=by
 subst hn;obtain⟨r1,r2⟩:=Zhe hs;obtain⟨b1,b2,b3,b4⟩:=ZiZ hs;have HS:=hid hs;have hlen:=hr.len;have HR1:=hid (ZjQ r1);have HR2:=hid (ZpQ [] r2);have hbytes:=ZbZ p s hr.bytes;clear hs r1 r2;go_enter func136,ntmps136;go_wp2_with fail;refine(Zau _ _ _).mono ?_;rw[HS.out];rintro e w1⟨rfl,rfl⟩;go_wp2_with fail;refine(Zkv none 0 0 0 [] p 4 _ RB.nil_ (Nat.zero_le _) (ZZe _) (by decide) b1 b2).mono ?_;rw[HR1.out,Zc];rintro e w1⟨v1,rfl,hown1,hb1⟩;obtain⟨A1,c1,rfl,hc1,hr1⟩:=Zev hown1 (ZW _ _);have hs1:=hb1.size;have hra1:=hr.below (hb1.mono hB);clear hown1;go_wp2_with fail;refine(Zkv none 0 0 0 [] s 8 _ RB.nil_ (Nat.zero_le _) (ZZe _) (by decide) b3 b4).mono ?_;rw[HR2.out,List.nil_append,Zc];rintro e w2⟨v2,rfl,hown2,hb2⟩;obtain⟨A2,c2,rfl,hc2,hr2⟩:=Zev hown2 (ZW _ _);have hs2:=hb2.size;have hb02:=hb1.trans (hb2.mono hs1);have hra2:=(hra1.below (hb2.mono (ZZf hB hs1))).more (B':=w2.heap.size) (by omega);have hr12:=(hr1.below hb2).more (B':=w2.heap.size) hs2;clear hr1 hra1 hown2;go_wp2_with fail;refine(ZqZ _ hr12 hr2 hra2 (ZZe _) (by decide) (by decide)).mono ?_;rintro e w3⟨v3,rfl,hown3,hb3⟩;have hown3':w3.ownsRow w2.heap.size 5 1 v3 252 ((Zbi p s l).map (Value.int .u8)):=hown3;obtain⟨A3,c3,rfl,hc3,hr3⟩:=Zev hown3' hbytes;have hs3:=hb3.size;have hb03:=hb02.trans (hb3.mono hb02.size);have ht3:=ht.below hb03 hg;clear hown3 hown3' hra2 hr12 hr2;go_wp2_with fail;refine(ZjW _ _ _ _ _ _ hr3 (by decide) ht3).mono ?_;rintro e w4⟨v4,rfl,hown4,hb4⟩;obtain⟨A4,c4,rfl,hc4,hr4⟩:=Zev hown4 (ZW _ _);have hs4:=hb4.size;have hr34:=(hr3.below hb4).more (B':=w4.heap.size) hs4;have hb04:=hb03.trans (hb4.mono hb03.size);clear hr3 hown4;go_wp2_with fail;refine(Zq0 _ hr4 hr34 (ZZe _) (by decide) (by decide)).mono ?_;rintro e w5⟨v5,rfl,hown5,hb5⟩;have hown5':=hid (ZaU (show w5.ownsRow w4.heap.size 5 1 v5 256 ((Zav p s l).map (Value.int .u8))from hown5) hb04.size);have hb05:=hb04.trans (hb5.mono hb04.size);clear hown5 hr4 hr34;go_wp2;go_ret2;exact⟨_,rfl,hown5'.out,hb05⟩
theorem Zq1(A:Option Addr)(n c:Nat)(p s:Int)(w:World)(hn:n<=maxLen)(h:Zey p s=false∨n≠240) :
 Calls prog 136 #[.int .i64 p,.int .i64 s,.slice A n c] w fun e w'=>e=.returned (.tuple #[.slice none 0 0,.int .i64 1])/\w=w':=by
 unfold maxLen at hn;by_cases hs:Zey p s=true
 · have hne:n≠240:=by
    rcases h with h|h
    · rw[hs]at h;cases h
    · exact h
   have k:((n:Int) != 240)=true:=by simp;omega
   have HS:=hid hs;clear hs h;go_enter func136,ntmps136;go_wp2_with fail;refine(Zau _ _ _).mono ?_;rw[HS.out];rintro e w1⟨rfl,rfl⟩;go_wp2;go_ret2;exact⟨rfl,rfl⟩
 · have HS:=hid (show Zey p s=false by simpa using hs);clear hs h;go_enter func136,ntmps136;go_wp2_with fail;refine(Zau _ _ _).mono ?_;rw[HS.out];rintro e w1⟨rfl,rfl⟩;go_wp2;go_ret2;exact⟨rfl,rfl⟩
theorem ZjX:ZpR:=by
 intro A n c B l p s w hr hB hc hn ht hg;unfold Zdl;by_cases h:Zey p s=true/\l.length=240
 · rw[if_pos h];refine(ZpU A n c B l p s w hr hB (by rw[<-hr.len];exact h.2) h.1 ht hg).mono ?_;rintro e w'⟨v,rfl,hown,hb⟩;have hl:(Zav p s l).length=256:=by rw[ZaV,h.2]
   exact⟨v,rfl,by rw[hl];exact hown,hb⟩
 · rw[if_neg h]
   have h':Zey p s=false∨n≠240:=by
    by_cases hs:Zey p s=true
    · right;intro e;exact h ⟨hs,by rw[hr.len];exact e⟩
    · left;simpa using hs
   refine(Zq1 A n c p s w (by unfold maxLen;omega) h').mono ?_;rintro e w'⟨rfl,rfl⟩;exact⟨_,rfl,World.ownsRow_nil _ _ _ _,Below.refl _ _⟩
end Go.Proofs.YtlmkdmdbpopnhaaGreatDoor
