/-
  A library function of the program, as the library's contract speaks of it: each function is the one that the contract names, number by number. No condition.
-/
import Derived.Shelf.SlicesQ.IndexFunc
import Derived.Test.YtccibahlcpkiaaaGreatProg
namespace Go.Proofs
open Go.Shelf
def Tryz.conL_ren : Go.Shelf.Ren := ⟨fun | 8 => 35 | 6 => 58 | n => n, fun | 22 => 23 | 23 => 37 | 25 => 71 | 4 => 4 | 3 => 3 | 0 => 0 | n => n, fun | n => n⟩
theorem Tryz.conL : Go.Proofs.SlLaysH0.n8 Tryz.prog Tryz.conL_ren := {
  mixed := by kernel_rfl
  f6 := ⟨Tryz.f58.name, by decide, Tryz.func58.trans (congrArg some (by kernel_rfl))⟩
  f8 := ⟨Tryz.f35.name, by decide, Tryz.func35.trans (congrArg some (by kernel_rfl))⟩
  t0 := Tryz.underlying0
  a0 := Tryz.isAgg0
  z0 := Tryz.sizeOf0
  v0 := Tryz.zeroValue0
  t3 := Tryz.underlying3
  a3 := Tryz.isAgg3
  z3 := Tryz.sizeOf3
  v3 := Tryz.zeroValue3
  t4 := Tryz.underlying4
  a4 := Tryz.isAgg4
  z4 := Tryz.sizeOf4
  v4 := Tryz.zeroValue4
  t22 := Tryz.underlying23
  a22 := Tryz.isAgg23
  z22 := Tryz.sizeOf23
  v22 := Tryz.zeroValue23
  t25 := Tryz.underlying71
  a25 := Tryz.isAgg71
  z25 := Tryz.sizeOf71
  v25 := Tryz.zeroValue71 }
end Go.Proofs
