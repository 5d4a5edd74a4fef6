/- The row of VersionsMatch: the closed facts of its cells. -/
import Derived.Test.YtffblkkhjphcfaaGreatDoorRows
import Derived.ProofKit
import Derived.JoinedCond
namespace Go.Proofs.YtffblkkhjphcfaaGreatDoor
namespace versionsMatch

theorem closed : joinedFacts Tryz.pinned.checked.prog 3 Tryz.f3 (Rows.OpenSpec.upto Rows.versionsMatchSpec).bare Rows.versionsMatchUptoRow = true := by kernel_rfl
theorem named : Tryz.pinned.checked.prog.funcNamed Rows.versionsMatchUptoRow.func = some 3 := by kernel_rfl
theorem inst : Tryz.f3.isInstance Tryz.pinned.checked.prog Rows.versionsMatchUptoRow.origin Rows.versionsMatchUptoRow.targs := of_decide_eq_true (by kernel_rfl)
theorem wrap : Tryz.f3.isWrapper Tryz.pinned.checked.prog Rows.versionsMatchUptoRow.wrapper Rows.versionsMatchUptoRow.mainSum := by
  unfold Func.isWrapper; first | (rw [if_pos (by decide +kernel)]; kernel_rfl) | (rw [if_neg (by decide +kernel)]; exact ⟨rfl, rfl⟩)
end versionsMatch
end Go.Proofs.YtffblkkhjphcfaaGreatDoor
