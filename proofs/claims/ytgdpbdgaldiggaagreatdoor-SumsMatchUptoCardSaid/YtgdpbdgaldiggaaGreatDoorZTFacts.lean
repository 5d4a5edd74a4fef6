/- The row of SumsMatch: the closed facts of its cells. -/
import Derived.Test.YtgdpbdgaldiggaaGreatDoorRows
import Derived.ProofKit
import Derived.JoinedCond

namespace Go.Proofs.YtgdpbdgaldiggaaGreatDoor
namespace sumsMatch

theorem closed : joinedFacts Tryz.pinned.checked.prog 7 Tryz.f7 (Rows.OpenSpec.upto Rows.sumsMatchSpec).bare Rows.sumsMatchUptoRow = true := by kernel_rfl
theorem named : Tryz.pinned.checked.prog.funcNamed Rows.sumsMatchUptoRow.func = some 7 := by kernel_rfl
theorem inst : Tryz.f7.isInstance Tryz.pinned.checked.prog Rows.sumsMatchUptoRow.origin Rows.sumsMatchUptoRow.targs := of_decide_eq_true (by kernel_rfl)
theorem wrap : Tryz.f7.isWrapper Tryz.pinned.checked.prog Rows.sumsMatchUptoRow.wrapper Rows.sumsMatchUptoRow.mainSum := by
  unfold Func.isWrapper; first | (rw [if_pos (by decide +kernel)]; kernel_rfl) | (rw [if_neg (by decide +kernel)]; exact ⟨rfl, rfl⟩)
end sumsMatch
end Go.Proofs.YtgdpbdgaldiggaaGreatDoor
