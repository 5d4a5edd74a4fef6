/- The row of ChangesPrint: the closed facts of its cells. -/
import Derived.Test.YtkibmoekadmjnaaGreatDoorRows
import Derived.ProofKit
import Derived.JoinedCond

namespace Go.Proofs.YtkibmoekadmjnaaGreatDoor
namespace changesPrint

theorem closed : joinedFacts Tryz.pinned.checked.prog 10 Tryz.f10 (Rows.OpenSpec.upto Rows.changesPrintSpec).bare Rows.changesPrintUptoRow = true := by kernel_rfl
theorem named : Tryz.pinned.checked.prog.funcNamed Rows.changesPrintUptoRow.func = some 10 := by kernel_rfl
theorem inst : Tryz.f10.isInstance Tryz.pinned.checked.prog Rows.changesPrintUptoRow.origin Rows.changesPrintUptoRow.targs := of_decide_eq_true (by kernel_rfl)
theorem wrap : Tryz.f10.isWrapper Tryz.pinned.checked.prog Rows.changesPrintUptoRow.wrapper Rows.changesPrintUptoRow.mainSum := by
  unfold Func.isWrapper; first | (rw [if_pos (by decide +kernel)]; kernel_rfl) | (rw [if_neg (by decide +kernel)]; exact ⟨rfl, rfl⟩)
end changesPrint
end Go.Proofs.YtkibmoekadmjnaaGreatDoor
