/- The row of ThingsAreFound: the closed facts of its cells. -/
import Derived.Test.YtpnjlhippngfcaaGreatDoorRows
import Derived.ProofKit
import Derived.JoinedCond

namespace Go.Proofs.YtpnjlhippngfcaaGreatDoor
namespace thingsAreFound

theorem closed : joinedFacts Tryz.pinned.checked.prog 4 Tryz.f4 (Rows.OpenSpec.upto Rows.thingsAreFoundSpec).bare Rows.thingsAreFoundUptoRow = true := by kernel_rfl
theorem named : Tryz.pinned.checked.prog.funcNamed Rows.thingsAreFoundUptoRow.func = some 4 := by kernel_rfl
theorem inst : Tryz.f4.isInstance Tryz.pinned.checked.prog Rows.thingsAreFoundUptoRow.origin Rows.thingsAreFoundUptoRow.targs := of_decide_eq_true (by kernel_rfl)
theorem wrap : Tryz.f4.isWrapper Tryz.pinned.checked.prog Rows.thingsAreFoundUptoRow.wrapper Rows.thingsAreFoundUptoRow.mainSum := by
  unfold Func.isWrapper; first | (rw [if_pos (by decide +kernel)]; kernel_rfl) | (rw [if_neg (by decide +kernel)]; exact ⟨rfl, rfl⟩)
end thingsAreFound
end Go.Proofs.YtpnjlhippngfcaaGreatDoor
