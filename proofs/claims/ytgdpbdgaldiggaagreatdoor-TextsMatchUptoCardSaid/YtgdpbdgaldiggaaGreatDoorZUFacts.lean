/- The row of TextsMatch: the closed facts of its cells. -/
import Derived.Test.YtgdpbdgaldiggaaGreatDoorRows
import Derived.ProofKit
import Derived.JoinedCond

namespace Go.Proofs.YtgdpbdgaldiggaaGreatDoor
namespace textsMatch

theorem closed : joinedFacts Tryz.pinned.checked.prog 8 Tryz.f8 (Rows.OpenSpec.upto Rows.textsMatchSpec).bare Rows.textsMatchUptoRow = true := by kernel_rfl
theorem named : Tryz.pinned.checked.prog.funcNamed Rows.textsMatchUptoRow.func = some 8 := by kernel_rfl
theorem inst : Tryz.f8.isInstance Tryz.pinned.checked.prog Rows.textsMatchUptoRow.origin Rows.textsMatchUptoRow.targs := of_decide_eq_true (by kernel_rfl)
theorem wrap : Tryz.f8.isWrapper Tryz.pinned.checked.prog Rows.textsMatchUptoRow.wrapper Rows.textsMatchUptoRow.mainSum := by
  unfold Func.isWrapper; first | (rw [if_pos (by decide +kernel)]; kernel_rfl) | (rw [if_neg (by decide +kernel)]; exact ⟨rfl, rfl⟩)
end textsMatch
end Go.Proofs.YtgdpbdgaldiggaaGreatDoor
