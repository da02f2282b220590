/- LayRef, RefDiskP, RefDiskF, RefDiskG, RefDiskH, RefDiskI. Conditions: in each theorem. -/
import Derived.Test.YtlmkdmdbpopnhaaGreatDoorG3
import Derived.Test.YtlmkdmdbpopnhaaGreatDoorG1
import Derived.Test.YtlmkdmdbpopnhaaGreatDoorG2
import Derived.IntWalk
import Derived.Deep.OwnRows
import Derived.Laws.CopyOwn
import Derived.Deep.RegionLaw
import Derived.Deep.AppendLies
import Derived.BigRegion
import Derived.Deep.RegionHeld3
set_option maxRecDepth 100000
set_option linter.unusedVariables false
namespace Go.Proofs.YtlmkdmdbpopnhaaGreatDoor
open Go.RowKit
end Go.Proofs.YtlmkdmdbpopnhaaGreatDoor
