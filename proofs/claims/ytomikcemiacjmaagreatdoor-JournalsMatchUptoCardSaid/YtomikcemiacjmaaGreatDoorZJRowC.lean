/- JournalsMatch at whatever arguments of bulk at most 1048576. -/
import Derived.Test.YtomikcemiacjmaaGreatDoorZJLaid
import Derived.Test.YtomikcemiacjmaaGreatDoorZJOpen
import Derived.Test.YtomikcemiacjmaaGreatDoorZJLaw
import Derived.WalkKit
import Derived.ProofKit
import Derived.OpenShut
import Derived.Carry
import Derived.Deep.DeepHandedRow
import Derived.Lib.SmallJoins

namespace Go.Proofs.YtomikcemiacjmaaGreatDoor
open Go.ChangeShapes Go.WideShapes Go.ChangeAt Go.RowKit Go.Joins Go.Deep
open Go.ChangeMaps (open_string shut_string)
namespace journalsMatch

theorem readable106 : Tryz.prog.readableRec 106 = true := by kernel_rfl
theorem row106 : 106 < Tryz.prog.types.size := of_decide_eq_true (by kernel_rfl)

set_option maxRecDepth 100000 in
theorem contract (H : Type) (enc : TypeId × Value → H) (F : Stop.Interp) (W : World) (base : Nat) (args : Array Value) (ds gs : List (DataW H)) (before : List MemPlace)
    (hval : ∀ (j : Nat) t v, Tryz.f12.params[j]? = some t → args[j]? = some v → Value.okWide Tryz.prog W .any base t v)
    (hW : DataW.Whole enc Tryz.prog Tryz.f12.params.toList Rows.journalsMatchSpec.vars false W args.toList ds gs before) (hk : Rows.uptoSmall H (ds ++ gs) = true)
    (hG : JW W) :
    Calls Tryz.prog 12 args W fun e W' => ∃ v, e = .returned v ∧ ((Rows.OpenSpec.upto Rows.journalsMatchSpec).at F).post enc Tryz.prog Tryz.f12 false true false false W args v W' := by
  have hW' := hW
  obtain ⟨p, q, hA0, hV, rfl, hfz, hnd⟩ := hW
  have hA : DataW.TrodAll enc Tryz.prog W 0 (fun _ => true) true Tryz.f12.params.toList args.toList ds p := hA0
  rw [Tryz.params12] at hA hval
  obtain ⟨v0, vs0, d0, ds0, p0, q0, hargs, rfl, rfl, h0, r0⟩ := trodAll_cons hA
  obtain ⟨v1, vs1, d1, ds1, p1, q1, rfl, rfl, rfl, h1, r1⟩ := trodAll_cons r0
  obtain ⟨v2, vs2, d2, ds2, p2, q2, rfl, rfl, rfl, h2, r2⟩ := trodAll_cons r1
  obtain ⟨v3, vs3, d3, ds3, p3, q3, rfl, rfl, rfl, h3, r3⟩ := trodAll_cons r2
  obtain ⟨rfl, rfl, rfl⟩ := trodAll_nil r3
  obtain rfl : args = #[v0, v1, v2, v3] := by cases args; simp_all
  obtain ⟨rfl, rfl⟩ := trodVars_none hV
  have k0 := h0
  have hlt : ∀ x ∈ p0 ++ (p1 ++ (p2 ++ (p3 ++ []))) ++ [], x.block < W.heap.size := fun x hx => by simpa using hW'.lt x hx
  simp only [List.append_nil] at hW' hk hlt
  have hb := of_decide_eq_true hk
  simp only [Rows.uptoBulkAll] at hb
  obtain ⟨id, a1, cs, c1, a2, os, c2, rfl, hid, n1, n2, at1, at2, s1, s2⟩ := open_jr (hval 0 106 v0 rfl rfl) h0 (by omega)
  obtain ⟨at', rfl, rfl, rfl, w1⟩ := open_int Tryz.underlying3 (hval 1 3 v1 rfl rfl) h1
  obtain ⟨by', rfl, rfl, rfl, w2⟩ := open_int Tryz.underlying5 (hval 2 5 v2 rfl rfl) h2
  obtain ⟨t, rfl, rfl, rfl, wt⟩ := open_string Tryz.underlying9 (hval 3 9 v3 rfl rfl) h3
  clear hA0
  have ht : t.size ≤ 1048576 := by
    simp only [Rows.uptoBulk, Array.length_toList] at hb
    have e : t.data.size = t.size := rfl
    omega
  have hw1 := w1
  have hw2 := w2
  unfold Lit.wf at hw1 hw2
  simp only [Bool.and_eq_true, decide_eq_true_eq] at hw1 hw2
  refine (law_journals id hid cs a1 c1 os a2 c2 n1 n2 (fun c hc => (s1 c hc).up (by omega)) (fun c hc => (s2 c hc).up (by omega)) at' hw1.1 hw1.2 by' hw2.1 hw2.2 t ht W hG at1 at2).mono fun e W' ⟨he, bel⟩ => ?_
  subst he
  refine ⟨_, rfl, _, _, _, [], p0 ++ ([] ++ ([] ++ ([] ++ []))), [], hW', ?_, ?_, ?_, bel.frame _, fun h => by cases h⟩
  · exact trodAll_cons_mk (shut_bool Tryz.underlying4 _) trodAll_mk0
  · exact trodAll_cons_mk (Below.trod laidOut readable106 row106 k0 bel (fun x hx => hlt x (by simp [hx]))) (trodAll_cons_mk (shut_int Tryz.underlying3 w1) (trodAll_cons_mk (shut_int Tryz.underlying5 w2) (trodAll_cons_mk (shut_string Tryz.underlying9 wt) trodAll_mk0)))
  · rfl

end journalsMatch
end Go.Proofs.YtomikcemiacjmaaGreatDoor
