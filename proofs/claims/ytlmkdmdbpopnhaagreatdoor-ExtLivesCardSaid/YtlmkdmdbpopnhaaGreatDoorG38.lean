/- ExtNo. Conditions: in each theorem. -/
import Derived.Test.YtlmkdmdbpopnhaaGreatDoorG1
set_option maxRecDepth 100000
set_option linter.unusedVariables false
open Go.Proofs.Tryz
namespace Go.Proofs.YtlmkdmdbpopnhaaGreatDoor
open Go.RowKit
section
variable{w:World}{v:Value}
theorem Zih(d f n c:Int)(A:Option Addr)(k cap:Nat)(w:World):(Instr.field 41 (.agg #[.int .i64 d,.int .i64 f,.int .i64 n,.int .i64 c,.slice A k cap]) 3).run prog w=.ok (.int .i64 c) w:=by
 kernel_rfl
end
end Go.Proofs.YtlmkdmdbpopnhaaGreatDoor
