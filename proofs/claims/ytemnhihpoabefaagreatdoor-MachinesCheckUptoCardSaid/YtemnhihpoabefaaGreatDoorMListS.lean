/- Walks: package disk: the lists of settings. -/
import Derived.Test.YtemnhihpoabefaaGreatDoorMList
import Derived.Deep.QuietTactic
import Derived.BigQuiet
namespace Go.Proofs.YtemnhihpoabefaaGreatDoor
open Go.RowKit Go.Shelf

/-- the settings L lie where the slice (a, cap) says, in blocks that lay in w -/
structure StsAt (m : Nat) (w : World) (a : Option Addr) (L : List P.St) (cap : Nat) : Prop where
  le : L.length ≤ cap
  at_ : L ≠ [] → ∃ b off, a = some ⟨b, off, none⟩ ∧ b < m ∧ ∀ k (hk : k < L.length), w.cell? ⟨b, off + k * 2, none⟩ = some (.string L[k].k) ∧ w.cell? ⟨b, off + k * 2 + 1, none⟩ = some (.string L[k].v)
theorem StsAt.below {m : Nat} {w w' : World} {a : Option Addr} {L : List P.St} {cap : Nat} (h : StsAt m w a L cap) (hb : Below m w w') : StsAt m w' a L cap :=
  ⟨h.le, fun hn => let ⟨b, off, e, hbm, hc⟩ := h.at_ hn; ⟨b, off, e, hbm, fun k hk => ⟨(hb.cell (p := ⟨b, off + k * 2, none⟩) hbm).trans (hc k hk).1, (hb.cell (p := ⟨b, off + k * 2 + 1, none⟩) hbm).trans (hc k hk).2⟩⟩⟩
theorem ne_nil_of_lt {α : Type} {L : List α} {k : Nat} (h : k < L.length) : L ≠ [] := fun e => by subst e; simp at h
def stsFit (L : List P.St) : Prop := ∀ k (hk : k < L.length), L[k].k.size ≤ 4294967280 ∧ L[k].v.size ≤ 4294967280

/-- a function on settings that answers the error f -/
def StFn (g : Nat) (f : P.St → Int) : Prop :=
  (∀ args w, (callFunc g args).run Tryz.prog w = .ok (.enter g args) w) ∧
  ∀ (x : P.St), x.k.size ≤ 4294967280 → x.v.size ≤ 4294967280 → ∀ (w : World), Good w → Calls Tryz.prog g #[.agg #[.string x.k, .string x.v]] w fun e w' => e = .returned (.int .i64 (f x)) ∧ Below w.heap.size w w'
theorem StFn.fact : StFn 67 P.factErr := ⟨enters_of Tryz.func67 (by kernel_rfl) rfl, fun x h1 h2 w hw => checkFact_any x h1 h2 w hw⟩
theorem StFn.setting : StFn 72 P.setErr := ⟨enters_of Tryz.func72 (by kernel_rfl) rfl, fun x h1 h2 w hw => checkSetting_any x h1 h2 w hw⟩

theorem keyOf_any (k v : ByteArray) (w : World) : Calls Tryz.prog 66 #[.agg #[.string k, .string v]] w fun e w' => e = .returned (.string k) ∧ w' = w.alloc (.cells #[.string k, .string v] 62) := by
  go_enter Tryz.func66, Tryz.ntmps66
  go_wp2
  go_ret
  exact ⟨rfl, rfl⟩
end Go.Proofs.YtemnhihpoabefaaGreatDoor
