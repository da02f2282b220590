/- DirA, DirB. Conditions: in each theorem. -/
import Derived.Test.YtlmkdmdbpopnhaaGreatDoorG1
import Derived.Test.YtlmkdmdbpopnhaaGreatDoorG9
import Derived.Deep.QuietTactic
import Derived.BigQuiet
set_option maxHeartbeats 6400000
set_option maxRecDepth 100000
set_option linter.unusedVariables false
open Go.Proofs.Tryz
open Go.Lib (hid)
namespace Go.Proofs.YtlmkdmdbpopnhaaGreatDoor
open Go.RowKit
theorem Zkq(w:World):Calls prog 203 #[] w fun e w'=>e=.returned (.int .i64 60)/\w=w':=by
 go_enter func203,ntmps203;go_wp2;go_ret;exact⟨rfl,rfl⟩
def ZA(d:Int):Nat:=(min (max d 0) 10).toNat
def needD(d:Int):Nat:=(2^ZA d+59)/60
def okD(d:Int)(k:Nat)(slot:Int):Bool:=decide ((0<=d/\d<=10)/\(0<=slot/\slot<((2^ZA d:Nat):Int))/\k=needD d)
theorem ZiW(P:Int->Nat->Prop)(hn:∀d,d<0->P d 0)(hb:∀d,10<d->P d 10)(hm:P 0 0/\P 1 1/\P 2 2/\P 3 3/\P 4 4/\P 5 5/\P 6 6/\P 7 7/\P 8 8/\P 9 9/\P 10 10)(d:Int):P d (ZA d):=by
 rcases Int.lt_or_le d 0 with h|h
 · rw[show ZA d=0 by unfold ZA;omega];exact hn d h
 rcases Int.lt_or_le 10 d with h2|h2
 · rw[show ZA d=10 by unfold ZA;omega];exact hb d h2
 obtain⟨k,rfl⟩:=Int.eq_ofNat_of_zero_le h;rw[show ZA (k:Int)=k by unfold ZA;omega];obtain⟨h0,h1,h2',h3,h4,h5,h6,h7,h8,h9,h10⟩:=hm;have hk:k<=10:=by omega
 clear h h2
 match k,hk with
 | 0,_=>exact h0
 | 1,_=>exact h1
 | 2,_=>exact h2'
 | 3,_=>exact h3
 | 4,_=>exact h4
 | 5,_=>exact h5
 | 6,_=>exact h6
 | 7,_=>exact h7
 | 8,_=>exact h8
 | 9,_=>exact h9
 | 10,_=>exact h10
theorem Zq6{d:Int}(h:0<=d/\d<=10):wrap64 (2^d.toNat)=((2^ZA d:Nat):Int):=by
 revert h
 refine ZiW (fun d q=>0<=d/\d<=10->wrap64 (2^d.toNat)=((2^q:Nat):Int)) (fun d h h2=>by omega) (fun d h h2=>by omega) ?_ d;refine⟨?_,?_,?_,?_,?_,?_,?_,?_,?_,?_,?_⟩ <;> (intro _;decide +kernel)
theorem Zqq(d:Int):ZA d<=10:=by unfold ZA;omega
theorem Zeb(d:Int):1<=2^ZA d/\2^ZA d<=1024:=
 ⟨Nat.two_pow_pos _,ZZf (Nat.pow_le_pow_right (n:=2) (by decide) (Zqq d)) (by decide)⟩
theorem Zlj(d:Int)(w:World):Calls prog 150 #[.int .i64 d] w fun e w'=>e=.returned (.int .i64 ((needD d:Nat):Int))/\w=w':=by
 unfold needD;refine ZiW (fun d q=>Calls prog 150 #[.int .i64 d] w fun e w'=>e=.returned (.int .i64 (((2^q+59)/60:Nat):Int))/\w=w') (fun d h=>?_) (fun d h=>?_) ⟨?_,?_,?_,?_,?_,?_,?_,?_,?_,?_,?_⟩ d
 all_goals
  go_enter func150,ntmps150;go_wp2_with fail
  all_goals try omega
  all_goals (refine(Zkq _).mono ?_;rintro e w' ⟨rfl,rfl⟩)
  all_goals go_wp2_with fail
  all_goals (refine(Zkq _).mono ?_;rintro e w' ⟨rfl,rfl⟩)
  all_goals go_wp2
  all_goals go_ret
  all_goals exact⟨rfl,rfl⟩
def ZiX(w:World)(b:Nat)(d f n c:Int)(v:Value):Prop:=w.heap[b]?=some (.cells #[.int .i64 d,.int .i64 f,.int .i64 n,.int .i64 c,v] 41 (0,0))
theorem ZiX.new(w:World)(d f n c:Int)(v:Value):ZiX (w.alloc (.cells #[.int .i64 d,.int .i64 f,.int .i64 n,.int .i64 c,v] 41)) w.heap.size d f n c v:=heap_alloc_new _ _
theorem ZiX.cells{w:World}{b:Nat}{d f n c:Int}{v:Value}(h:ZiX w b d f n c v):w.cell? ⟨b,0,none⟩=some (.int .i64 d)/\w.cell? ⟨b,1,none⟩=some (.int .i64 f)/\w.cell? ⟨b,2,none⟩=some (.int .i64 n)/\w.cell? ⟨b,3,none⟩=some (.int .i64 c)/\w.cell? ⟨b,4,none⟩=some v/\b<w.heap.size:=by
 refine⟨?_,?_,?_,?_,?_,(ZZa.1 h).1⟩ <;> (rw[cell_of_row w b _ _ _ (0,0) h];rfl)
theorem ZiX.below{w w':World}{b:Nat}{d f n c:Int}{v:Value}(h:ZiX w b d f n c v)(hb:Below w.heap.size w w'):ZiX w' b d f n c v:=(hb.block b h.cells.2.2.2.2.2).trans h
theorem Zhc(d f n c:Int)(A:Option Addr)(k cap:Nat)(slot:Int)(w:World)(hk:k<=maxLen) :
 Calls prog 173 #[.agg #[.int .i64 d,.int .i64 f,.int .i64 n,.int .i64 c,.slice A k cap],.int .i64 slot] w fun e w'=>e=.returned (.bool (okD d k slot))/\Below w.heap.size w w':=by
 unfold maxLen at hk;have HX:=hid (show Below w.heap.size w (w.alloc (.cells #[.int .i64 d,.int .i64 f,.int .i64 n,.int .i64 c,.slice A k cap] 41))from(Below.refl _ _).alloc (ZZe _) _);have HND:=hid (fun w=>Zlj d w);obtain⟨z0,z1,z2,z3,z4,_⟩:=(ZiX.new w d f n c (.slice A k cap)).cells;have hp:=Zeb d;by_cases h1:0<=d
 case neg=>
  have hr:okD d k slot=false:=decide_eq_false (fun h=>h1 h.1.1);rw[hr];clear hr;have k1:decide (0<=d)=false:=by simpa using h1
  clear h1;go_enter func173,ntmps173;go_wp2_with fail
  go_quiet (fail)
  go_wp2;go_ret;exact⟨rfl,Zck HX.out _⟩
 have k1:decide (0<=d)=true:=by simpa using h1
 by_cases h2:d<=10
 case neg=>
  have hr:okD d k slot=false:=decide_eq_false (fun h=>h2 h.1.2);rw[hr];clear hr;have k2:decide (d<=10)=false:=by simpa using h2
  clear h1 h2;go_enter func173,ntmps173;go_wp2_with fail
  go_quiet (fail)
  go_wp2;go_ret;exact⟨rfl,Zck HX.out _⟩
 have k2:decide (d<=10)=true:=by simpa using h2
 have hsh:=Zq6 ⟨h1,h2⟩;by_cases h3:0<=slot
 case neg=>
  have hr:okD d k slot=false:=decide_eq_false (fun h=>h3 h.2.1.1);rw[hr];clear hr hsh;have k3:decide (0<=slot)=false:=by simpa using h3
  clear h3;go_enter func173,ntmps173;go_wp2_with fail
  go_quiet (fail)
  go_wp2;go_ret;exact⟨rfl,Zck HX.out _⟩
 have k3:decide (0<=slot)=true:=by simpa using h3
 by_cases h4:slot<((2^ZA d:Nat):Int)
 case neg=>
  have hr:okD d k slot=false:=decide_eq_false (fun h=>h4 h.2.1.2);rw[hr];clear hr;have k4:decide (slot<((2^ZA d:Nat):Int))=false:=by simpa using h4
  clear h4;generalize 2^ZA d=m at hsh hp k4;go_enter func173,ntmps173;go_wp2_with fail
  go_quiet (fail)
  go_wp2;go_ret;exact⟨rfl,Zck HX.out _⟩
 have k4:decide (slot<((2^ZA d:Nat):Int))=true:=by simpa using h4
 have hr:okD d k slot=((k:Int) == ((needD d:Nat):Int)):=by
  unfold okD;by_cases e:k=needD d
  · rw[decide_eq_true ⟨⟨h1,h2⟩,⟨h3,h4⟩,e⟩,e];simp
  · rw[decide_eq_false (fun h=>e h.2.2)];simp;omega
 rw[hr];clear hr h4;generalize needD d=nd at *;generalize 2^ZA d=m at *;go_enter func173,ntmps173;go_wp2_with fail
 go_quiet ((go_at_call 150;exact Calls.quiet_of_same ((HND.out _).mono (fun e w' h=>⟨h.1,h.2.symm⟩))))
 go_wp2;go_ret;exact⟨rfl,Zck HX.out _⟩
end Go.Proofs.YtlmkdmdbpopnhaaGreatDoor
