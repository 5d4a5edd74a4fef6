/- The row of MachinesParse: the closed facts of its cells. -/
import Derived.Test.YtkibmoekadmjnaaGreatDoorRows
import Derived.ProofKit
import Derived.JoinedCond

namespace Go.Proofs.YtkibmoekadmjnaaGreatDoor
namespace machinesParse

theorem closed : joinedFacts Tryz.pinned.checked.prog 9 Tryz.f9 (OpenSpec.ofChange Rows.machinesParseSpec).bare Rows.machinesParseRow = true := by kernel_rfl
theorem named : Tryz.pinned.checked.prog.funcNamed Rows.machinesParseRow.func = some 9 := by kernel_rfl
theorem inst : Tryz.f9.isInstance Tryz.pinned.checked.prog Rows.machinesParseRow.origin Rows.machinesParseRow.targs := of_decide_eq_true (by kernel_rfl)
theorem wrap : Tryz.f9.isWrapper Tryz.pinned.checked.prog Rows.machinesParseRow.wrapper Rows.machinesParseRow.mainSum := by
  unfold Func.isWrapper; first | (rw [if_pos (by decide +kernel)]; kernel_rfl) | (rw [if_neg (by decide +kernel)]; exact ⟨rfl, rfl⟩)
end machinesParse
end Go.Proofs.YtkibmoekadmjnaaGreatDoor
