/- A journal that came in, opened. -/
import Derived.Test.YtomikcemiacjmaaGreatDoorZMOpen

namespace Go.Proofs.YtomikcemiacjmaaGreatDoor
open Go.ChangeShapes Go.WideShapes Go.RowKit Go.Joins Go.Deep

theorem jr_fields : ∃ f0 f1 f2 : Field, Tryz.prog.underlying 106 = some (.struct #[f0, f1, f2]) ∧ f0.type = 9 ∧ f1.type = 27 ∧ f2.type = 27 ∧ oneCellFields Tryz.prog #[f0, f1, f2] = true := by
  refine ⟨_, _, _, Tryz.underlying106, rfl, rfl, rfl, ?_⟩
  kernel_rfl
theorem cells106 : Tryz.prog.cellsOf 106 = 3 := by kernel_rfl
section
variable {H : Type} {enc : TypeId × Value → H} {W : World} {base : Nat} {spare : Nat → Bool} {held : Bool}
set_option maxRecDepth 100000 in
/-- A JOURNAL OPENED. -/
theorem open_jr {b0 : Nat} {r : Reach} {v : Value} {d : DataW H} {p : List MemPlace} (hv : Value.okWide Tryz.prog W r b0 106 v) (h : DataW.Trod enc Tryz.prog W base spare held 106 v d p) (hb : Rows.uptoBulk d ≤ 1048576) :
    ∃ (id : ByteArray) (a1 : Option Addr) (cs : List P.Chg) (c1 : Nat) (a2 : Option Addr) (os : List P.Chg) (c2 : Nat), v = .agg #[.string id, .slice a1 cs.length c1, .slice a2 os.length c2] ∧ id.size ≤ 1048576 ∧ cs.length ≤ 1048576 ∧ os.length ≤ 1048576 ∧
      ChsAt W.heap.size W a1 cs c1 ∧ ChsAt W.heap.size W a2 os c2 ∧ (∀ c ∈ cs, P.CSm 1048576 c) ∧ (∀ c ∈ os, P.CSm 1048576 c) := by
  obtain ⟨f0, f1, f2, u, t0, t1, t2, hone⟩ := jr_fields
  obtain ⟨v0, v1, v2, y0, y1, y2, n, rfl, rfl, rfl, h0, h1, h2⟩ := open_agg3 u hone cells106 hv h
  rw [t0] at h0
  rw [t1] at h1
  rw [t2] at h2
  simp only [Rows.uptoBulk, Rows.uptoBulkAll] at hb
  obtain ⟨id, e0, e1, _⟩ := DataW.trod_string Tryz.underlying9 h0
  simp only [List.cons.injEq, and_true] at e0
  subst e0
  have hid : Rows.uptoBulk y0.1 = 1 + id.size ∨ id.size ≤ Rows.uptoBulk y0.1 := by
    right; rw [e1]; simp only [Rows.uptoBulk, Array.length_toList]
    have e : id.data.size = id.size := rfl
    omega
  obtain ⟨a1, cs, c1, rfl, n1, at1, s1⟩ := open_chs h1
  obtain ⟨a2, os, c2, rfl, n2, at2, s2⟩ := open_chs h2
  refine ⟨id, a1, cs, c1, a2, os, c2, rfl, ?_, by omega, by omega, at1, at2, fun c hc => (s1 c hc).up (by omega), fun c hc => (s2 c hc).up (by omega)⟩
  rcases hid with h | h <;> omega
end
end Go.Proofs.YtomikcemiacjmaaGreatDoor
