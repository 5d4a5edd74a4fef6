/- VersionsMatch at whatever arguments of bulk at most 1048576. -/
import Derived.Test.YtffblkkhjphcfaaGreatDoorLaid
import Derived.Test.YtffblkkhjphcfaaGreatDoorLawC
import Derived.Test.YtffblkkhjphcfaaGreatDoorLawD
import Derived.Test.YtffblkkhjphcfaaGreatDoorLawE
import Derived.WalkKit
import Derived.ProofKit
import Derived.OpenShut
import Derived.Deep.DeepHandedRow
import Derived.Lib.SmallJoins
namespace Go.Proofs.YtffblkkhjphcfaaGreatDoor
open Go.ChangeShapes Go.WideShapes Go.ChangeAt Go.RowKit Go.Joins Go.Deep
open Go.ChangeMaps (open_string shut_string)

theorem law_any (a1 a2 a3 b1 b2 b3 p : Int) (a4 b4 t : ByteArray) (ha : a4.size ≤ 1048576) (hb : b4.size ≤ 1048576) (ht : t.size ≤ 1048576) (w : World) (hw : Good w) :
    Calls Tryz.prog 3 #[.agg #[.int .i64 a1, .int .i64 a2, .int .i64 a3, .string a4], .agg #[.int .i64 b1, .int .i64 b2, .int .i64 b3, .string b4], .int .i64 p, .string t] w fun e w' =>
      e = .returned (.bool true) ∧ Below w.heap.size w w' := by
  by_cases h1 : P.verr a1 a2 a3 a4 = 0
  · by_cases h2 : P.verr b1 b2 b3 b4 = 0
    · exact law_good a1 a2 a3 b1 b2 b3 p a4 b4 t ha hb ht w hw h1 h2
    · exact law_half a1 a2 a3 b1 b2 b3 p a4 b4 t ha hb ht w hw h1 h2
  · exact law_bad a1 a2 a3 b1 b2 b3 p a4 b4 t ha hb ht w hw h1

/-- Four fields of one cell each: what lies under a version. -/
theorem version_fields : ∃ f0 f1 f2 f3 : Field, Tryz.prog.underlying 23 = some (.struct #[f0, f1, f2, f3]) ∧ f0.type = 3 ∧ f1.type = 3 ∧ f2.type = 3 ∧ f3.type = 9 ∧ oneCellFields Tryz.prog #[f0, f1, f2, f3] = true := by
  refine ⟨_, _, _, _, Tryz.underlying23, rfl, rfl, rfl, rfl, ?_⟩
  kernel_rfl
theorem cells23 : Tryz.prog.cellsOf 23 = 4 := by kernel_rfl

set_option maxRecDepth 100000 in
theorem open_version {H : Type} {enc : TypeId × Value → H} {W : World} {base b0 : Nat} {spare : Nat → Bool} {held : Bool} {r : Reach} {v : Value} {d : DataW H} {p : List MemPlace}
    (hv : Value.okWide Tryz.prog W r b0 23 v) (h : DataW.Trod enc Tryz.prog W base spare held 23 v d p) :
    ∃ (a b c : Int) (s : ByteArray), v = .agg #[.int .i64 a, .int .i64 b, .int .i64 c, .string s] ∧ d = .agg [.lit (.int .i64 a), .lit (.int .i64 b), .lit (.int .i64 c), .lit (.string s.data.toList)] ∧ p = [] ∧
      (Lit.int .i64 a).wf = true ∧ (Lit.int .i64 b).wf = true ∧ (Lit.int .i64 c).wf = true ∧ s.size ≤ maxLen := by
  obtain ⟨f0, f1, f2, f3, u, t0, t1, t2, t3, hone⟩ := version_fields
  obtain ⟨v0, v1, v2, v3, y0, y1, y2, y3, n, rfl, rfl, rfl, h0, h1, h2, h3⟩ := open_agg4 u hone cells23 hv h
  rw [t0] at h0
  rw [t1] at h1
  rw [t2] at h2
  rw [t3] at h3
  obtain ⟨a, e0, rfl, w0⟩ := DataW.trod_int Tryz.underlying3 h0
  obtain ⟨b, e1, rfl, w1⟩ := DataW.trod_int Tryz.underlying3 h1
  obtain ⟨c, e2, rfl, w2⟩ := DataW.trod_int Tryz.underlying3 h2
  obtain ⟨s, e3, rfl, w3⟩ := DataW.trod_string Tryz.underlying9 h3
  simp only [List.cons.injEq, and_true] at e0 e1 e2 e3
  subst e0 e1 e2 e3
  exact ⟨a, b, c, s, rfl, rfl, rfl, w0, w1, w2, w3⟩
set_option maxRecDepth 100000 in
theorem shut_version {H : Type} {enc : TypeId × Value → H} {W : World} {base : Nat} {spare : Nat → Bool} {held : Bool} {a b c : Int} {s : ByteArray}
    (w0 : (Lit.int .i64 a).wf = true) (w1 : (Lit.int .i64 b).wf = true) (w2 : (Lit.int .i64 c).wf = true) (w3 : s.size ≤ maxLen) :
    DataW.Trod enc Tryz.prog W base spare held 23 (.agg #[.int .i64 a, .int .i64 b, .int .i64 c, .string s]) (.agg [.lit (.int .i64 a), .lit (.int .i64 b), .lit (.int .i64 c), .lit (.string s.data.toList)]) [] := by
  obtain ⟨f0, f1, f2, f3, u, t0, t1, t2, t3, hone⟩ := version_fields
  exact shut_agg4 (y0 := (.lit (.int .i64 a), [])) (y1 := (.lit (.int .i64 b), [])) (y2 := (.lit (.int .i64 c), [])) (y3 := (.lit (.string s.data.toList), [])) u hone cells23
    (by rw [t0]; exact field_of_Trod (shut_int Tryz.underlying3 w0) rfl) (by rw [t1]; exact field_of_Trod (shut_int Tryz.underlying3 w1) rfl) (by rw [t2]; exact field_of_Trod (shut_int Tryz.underlying3 w2) rfl)
    (by rw [t3]; exact field_of_Trod (shut_string Tryz.underlying9 w3) rfl)

namespace versionsMatch

set_option maxRecDepth 100000 in
theorem contract (H : Type) (enc : TypeId × Value → H) (F : Stop.Interp) (W : World) (base : Nat) (args : Array Value) (ds gs : List (DataW H)) (before : List MemPlace)
    (hval : ∀ (j : Nat) t v, Tryz.f3.params[j]? = some t → args[j]? = some v → Value.okWide Tryz.prog W .any base t v)
    (hW : DataW.Whole enc Tryz.prog Tryz.f3.params.toList Rows.versionsMatchSpec.vars false W args.toList ds gs before) (hk : Rows.uptoSmall H (ds ++ gs) = true)
    (hG : Good W) :
    Calls Tryz.prog 3 args W fun e W' => ∃ v, e = .returned v ∧ ((Rows.OpenSpec.upto Rows.versionsMatchSpec).at F).post enc Tryz.prog Tryz.f3 false true false false W args v W' := by
  have hW' := hW
  obtain ⟨p, q, hA0, hV, rfl, hfz, hnd⟩ := hW
  have hA : DataW.TrodAll enc Tryz.prog W 0 (fun _ => true) true Tryz.f3.params.toList args.toList ds p := hA0
  rw [Tryz.params3] at hA hval
  obtain ⟨v0, vs0, d0, ds0, p0, q0, hargs, rfl, rfl, h0, r0⟩ := trodAll_cons hA
  obtain ⟨v1, vs1, d1, ds1, p1, q1, rfl, rfl, rfl, h1, r1⟩ := trodAll_cons r0
  obtain ⟨v2, vs2, d2, ds2, p2, q2, rfl, rfl, rfl, h2, r2⟩ := trodAll_cons r1
  obtain ⟨v3, vs3, d3, ds3, p3, q3, rfl, rfl, rfl, h3, r3⟩ := trodAll_cons r2
  obtain ⟨rfl, rfl, rfl⟩ := trodAll_nil r3
  obtain rfl : args = #[v0, v1, v2, v3] := by cases args; simp_all
  obtain ⟨rfl, rfl⟩ := trodVars_none hV
  obtain ⟨a1, a2, a3, a4, rfl, rfl, rfl, wa1, wa2, wa3, wa4⟩ := open_version (hval 0 23 v0 rfl rfl) h0
  obtain ⟨b1, b2, b3, b4, rfl, rfl, rfl, wb1, wb2, wb3, wb4⟩ := open_version (hval 1 23 v1 rfl rfl) h1
  obtain ⟨pt, rfl, rfl, rfl, wp⟩ := open_int Tryz.underlying3 (hval 2 3 v2 rfl rfl) h2
  obtain ⟨t, rfl, rfl, rfl, wt⟩ := open_string Tryz.underlying9 (hval 3 9 v3 rfl rfl) h3
  clear hA0
  simp only [List.append_nil] at hW' hk
  have hb := of_decide_eq_true hk
  simp only [Rows.uptoBulkAll, Rows.uptoBulk, Array.length_toList] at hb
  have ha4 : a4.size ≤ 1048576 := by have : a4.data.size = a4.size := rfl; omega
  have hb4 : b4.size ≤ 1048576 := by have : b4.data.size = b4.size := rfl; omega
  have ht4 : t.size ≤ 1048576 := by have : t.data.size = t.size := rfl; omega
  refine (law_any a1 a2 a3 b1 b2 b3 pt a4 b4 t ha4 hb4 ht4 W hG).mono fun e W' ⟨he, bel⟩ => ?_
  subst he
  refine ⟨_, rfl, _, _, _, [], [], [], hW', ?_, ?_, ?_, bel.frame _, fun h => by cases h⟩
  · exact trodAll_cons_mk (shut_bool Tryz.underlying4 _) trodAll_mk0
  · exact trodAll_cons_mk (shut_version wa1 wa2 wa3 wa4) (trodAll_cons_mk (shut_version wb1 wb2 wb3 wb4) (trodAll_cons_mk (shut_int Tryz.underlying3 wp) (trodAll_cons_mk (shut_string Tryz.underlying9 wt) trodAll_mk0)))
  · rfl

end versionsMatch
end Go.Proofs.YtffblkkhjphcfaaGreatDoor
