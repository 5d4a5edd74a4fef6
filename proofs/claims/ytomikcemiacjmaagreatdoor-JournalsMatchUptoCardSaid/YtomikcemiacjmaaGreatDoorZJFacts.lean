/- The row of JournalsMatch: the closed facts of its cells. -/
import Derived.Test.YtomikcemiacjmaaGreatDoorRows
import Derived.ProofKit
import Derived.JoinedCond

namespace Go.Proofs.YtomikcemiacjmaaGreatDoor
namespace journalsMatch

set_option maxHeartbeats 0 in
theorem closed : joinedFacts Tryz.pinned.checked.prog 12 Tryz.f12 (Rows.OpenSpec.upto Rows.journalsMatchSpec).bare Rows.journalsMatchUptoRow = true := by
  unfold joinedFacts
  iterate 31 refine (Bool.and_eq_true_iff).mpr ⟨?_, ?_⟩
  all_goals as_aux_lemma => kernel_rfl
theorem named : Tryz.pinned.checked.prog.funcNamed Rows.journalsMatchUptoRow.func = some 12 := by kernel_rfl
theorem inst : Tryz.f12.isInstance Tryz.pinned.checked.prog Rows.journalsMatchUptoRow.origin Rows.journalsMatchUptoRow.targs := of_decide_eq_true (by kernel_rfl)
theorem wrap : Tryz.f12.isWrapper Tryz.pinned.checked.prog Rows.journalsMatchUptoRow.wrapper Rows.journalsMatchUptoRow.mainSum := by
  unfold Func.isWrapper; first | (rw [if_pos (by decide +kernel)]; kernel_rfl) | (rw [if_neg (by decide +kernel)]; exact ⟨rfl, rfl⟩)
end journalsMatch
end Go.Proofs.YtomikcemiacjmaaGreatDoor
