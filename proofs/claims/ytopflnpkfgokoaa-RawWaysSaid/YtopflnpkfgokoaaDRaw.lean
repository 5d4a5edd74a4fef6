/-
  RawWays at whatever arguments: CheckWays of any list of ways and any list of sizes answers what the reference does. No condition.
-/
import Derived.Test.YtopflnpkfgokoaaDRCheck
import Derived.Test.YtopflnpkfgokoaaDOpen
import Derived.WalkKit
import Derived.ProofKit
import Derived.OpenShut
import Derived.Carry
namespace Go.Proofs.Ytopflnpkfgokoaa
open Go.ChangeShapes Go.WideShapes Go.ChangeAt Go.RowKit Go.Joins Go.Deep
namespace rawWays

theorem own : ownKnob Try.prog.godebug = none := by kernel_rfl
theorem laidOut : laidOutB Try.prog = true := by kernel_rfl
theorem readableWays : Try.prog.readableRec 22 = true := by kernel_rfl
theorem readableInts : Try.prog.readableRec 23 = true := by kernel_rfl
theorem rowWays : 22 < Try.prog.types.size := of_decide_eq_true (by kernel_rfl)
theorem rowInts : 23 < Try.prog.types.size := of_decide_eq_true (by kernel_rfl)

theorem law (L : List P.Wy) (S : List Int) (a s : Option Addr) (c d : Nat) (w : World) (hL : WysAt w.heap.size w a L c) (hS : IntsAt w.heap.size w s S d) :
    Calls Try.prog 3 #[.slice a L.length c, .slice s S.length d] w fun e w' => e = .returned (.bool true) ∧ Below w.heap.size w w' := by
  have HA := Lib.hid (checkWays_any L S a s c d w hL hS)
  have HB := Lib.hid (fun W hL hS => waysError_any L S a s c d W hL hS)
  have HL := Lib.hid hL
  have HS := Lib.hid hS
  have HD := Lib.hid landed_any
  clear hL hS
  generalize P.waysErr L S = r at *
  go_enter Try.func3, Try.ntmps3
  go_wp2_with (first
    | (go_at_call 4; refine (HD.out _).mono ?_; rintro e w' ⟨rfl, rfl⟩)
    | (go_at_call 5; refine HA.out.mono ?_; rintro e w1 ⟨rfl, hb1⟩))
  have HL1 := (HL.out.below hb1).up hb1.size
  have HS1 := (HS.out.below hb1).up hb1.size
  replace HB := Lib.hid (HB.out w1 HL1 HS1)
  go_wp2_with (go_at_call 6; refine HB.out.mono ?_; rintro e w2 ⟨rfl, hb2⟩)
  have HB3 := Lib.hid (bstep hb1 hb2)
  go_ret
  exact ⟨by simp, HB3.out⟩

set_option maxRecDepth 100000 in
theorem contract (H : Type) (enc : TypeId × Value → H) (W : World) (base : Nat) (args : Array Value) (ds gs : List (DataW H)) (before : List MemPlace)
    (hval : ∀ (j : Nat) t v, Try.f3.params[j]? = some t → args[j]? = some v → Value.okWide Try.prog W .any base t v)
    (hW : DataW.Whole enc Try.prog Try.f3.params.toList Rows.rawWaysSpec.vars false W args.toList ds gs before) :
    Calls Try.prog 3 args W fun e W' => ∃ v, e = .returned v ∧ Rows.rawWaysSpec.post enc Try.prog Try.f3 false true false false W args v W' := by
  have hW' := hW
  obtain ⟨p, q, hA0, hV, rfl, hfz, hnd⟩ := hW
  have hA : DataW.TrodAll enc Try.prog W 0 (fun _ => true) true Try.f3.params.toList args.toList ds p := hA0
  rw [Try.params3] at hA hval
  obtain ⟨v0, vs0, d0, ds0, p0, q0, hargs, rfl, rfl, h0, r0⟩ := trodAll_cons hA
  obtain ⟨v1, vs1, d1, ds1, p1, q1, rfl, rfl, rfl, h1, r1⟩ := trodAll_cons r0
  obtain ⟨rfl, rfl, rfl⟩ := trodAll_nil r1
  obtain rfl : args = #[v0, v1] := by cases args; simp_all
  obtain ⟨rfl, rfl⟩ := trodVars_none hV
  have k0 := h0
  have k1 := h1
  have hlt : ∀ x ∈ p0 ++ (p1 ++ []) ++ [], x.block < W.heap.size := fun x hx => by simpa using hW'.lt x hx
  simp only [List.append_nil] at hW' hlt
  obtain ⟨x0, n0, e0, rfl⟩ := okWide_slice Try.underlying22 (hval 0 22 v0 rfl rfl)
  obtain ⟨x1, n1, e1, rfl⟩ := okWide_slice Try.underlying23 (hval 1 23 v1 rfl rfl)
  obtain ⟨f0, h0⟩ := h0
  obtain ⟨f1, h1⟩ := h1
  obtain ⟨a, L, c, hv0, hL⟩ := open_ways (v := .slice x0 n0 e0) (by simpa [Value.cells] using h0)
  obtain ⟨s, S, d, hv1, hS⟩ := open_sizes (v := .slice x1 n1 e1) (by simpa [Value.cells] using h1)
  cases hv0
  cases hv1
  clear hA0
  refine (law L S _ _ _ _ W hL hS).mono fun e W' ⟨he, bel⟩ => ?_
  subst he
  refine ⟨_, rfl, _, _, _, [], p0 ++ (p1 ++ []), [], hW', ?_, ?_, ?_, bel.frame _, fun h => by cases h⟩
  · exact trodAll_cons_mk (shut_bool Try.underlying4 _) trodAll_mk0
  · exact trodAll_cons_mk (Below.trod laidOut readableWays rowWays k0 bel (fun x hx => hlt x (by simp [hx]))) (trodAll_cons_mk (Below.trod laidOut readableInts rowInts k1 bel (fun x hx => hlt x (by simp [hx]))) trodAll_mk0)
  · rfl

set_option maxRecDepth 100000 in
theorem lifted (os : Os) (started : os.Started) (H : Type) (enc : TypeId × Value → H) :
    ReturnsInHanded {} Try.checked os 3 .any (Rows.rawWaysSpec.pre6 enc Try.prog Try.f3 Rows.rawWaysRow.domain false) (Rows.rawWaysSpec.post enc Try.prog Try.f3 false true false false) := by
  refine returnsInHanded_of_change (C := Try.checked) own started (by kernel_rfl) Try.func3
    (ChangeSpec.witness6 (enc := enc) (C := Try.checked) false ⟨#[], #[.slice none 0 0, .slice none 0 0], []⟩ 8 (by kernel_rfl) (by kernel_rfl) (by kernel_rfl) (by kernel_rfl)) ?_
  intro W base args ds gs before hval hW _ _
  exact contract H enc W base args ds gs before hval hW

theorem proved : Rows.RawWaysSaid :=
  OpenClaim.holds_of_wide 3 Try.f3 rfl rfl rfl rfl rfl rfl rfl ⟨rfl, rfl, rfl, rfl, rfl⟩ rfl rfl rfl rfl rfl (by kernel_rfl) Try.func3 (by kernel_rfl)
    (of_decide_eq_true (by kernel_rfl)) (by unfold Func.isWrapper; first | (rw [if_pos (by decide +kernel)]; kernel_rfl) | (rw [if_neg (by decide +kernel)]; exact ⟨rfl, rfl⟩))
    (fun os started H enc _ => lifted os started H enc)
end rawWays
end Go.Proofs.Ytopflnpkfgokoaa
