/- The row of MachinesCheck: the closed facts of its cells. -/
import Derived.Test.YtemnhihpoabefaaGreatDoorRows
import Derived.ProofKit
import Derived.JoinedCond
namespace Go.Proofs.YtemnhihpoabefaaGreatDoor
namespace machinesCheck

theorem closed : joinedFacts Tryz.pinned.checked.prog 3 Tryz.f3 (Rows.OpenSpec.upto Rows.machinesCheckSpec).bare Rows.machinesCheckUptoRow = true := by kernel_rfl
theorem named : Tryz.pinned.checked.prog.funcNamed Rows.machinesCheckUptoRow.func = some 3 := by kernel_rfl
theorem inst : Tryz.f3.isInstance Tryz.pinned.checked.prog Rows.machinesCheckUptoRow.origin Rows.machinesCheckUptoRow.targs := of_decide_eq_true (by kernel_rfl)
theorem wrap : Tryz.f3.isWrapper Tryz.pinned.checked.prog Rows.machinesCheckUptoRow.wrapper Rows.machinesCheckUptoRow.mainSum := by
  unfold Func.isWrapper; first | (rw [if_pos (by decide +kernel)]; kernel_rfl) | (rw [if_neg (by decide +kernel)]; exact ⟨rfl, rfl⟩)
end machinesCheck
end Go.Proofs.YtemnhihpoabefaaGreatDoor
