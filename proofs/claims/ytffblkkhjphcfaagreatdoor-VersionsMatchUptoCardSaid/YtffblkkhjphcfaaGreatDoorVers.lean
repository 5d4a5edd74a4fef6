/- Walks: versions of package ver: Check. -/
import Derived.Test.YtffblkkhjphcfaaGreatDoorPaths
import Derived.Handy
namespace Go.Proofs.YtffblkkhjphcfaaGreatDoor
open Go.RowKit Go.Shelf

theorem below_step {w w1 w2 : World} (h1 : Below w.heap.size w w1) (h2 : Below w1.heap.size w1 w2) : Below w.heap.size w w2 := h1.trans (h2.mono h1.size)

theorem verr_num {a b c : Int} {s : ByteArray} (h : P.numOk a = false ∨ P.numOk b = false ∨ P.numOk c = false) : P.verr a b c s = 3 := by
  unfold P.verr
  rcases h with h | h | h <;> simp [h]
theorem numOk_true {a : Int} (h : P.numOk a = true) : 0 ≤ a ∧ a ≤ 999999 := by simpa [P.numOk] using h
theorem numOk_false {a : Int} (h : P.numOk a = false) : a < 0 ∨ (0 ≤ a ∧ 999999 < a) := by simp [P.numOk] at h; omega

set_option maxHeartbeats 1000000 in
theorem check_any (a b c : Int) (s : ByteArray) (hs : s.size ≤ 4294967280) (w : World) (hw : Good w) :
    Calls Tryz.prog 16 #[.agg #[.int .i64 a, .int .i64 b, .int .i64 c, .string s]] w fun e w' => e = .returned (.int .i64 (P.verr a b c s)) ∧ Below w.heap.size w w' := by
  cases h1 : P.numOk a with
  | false =>
    have hr := Lib.hid (verr_num (b := b) (c := c) (s := s) (.inl h1))
    rcases numOk_false h1 with h | ⟨h, h'⟩
    all_goals
      clear h1
      go_enter Tryz.func16, Tryz.ntmps16
      go_wp2
      refine wp_loop_rounds 4 ?_
      rw [rounds_succ]
      go_wp2
      go_ret
      exact ⟨by rw [hr.out]; rfl, by go_grown⟩
  | true =>
    obtain ⟨a0, a1⟩ := numOk_true h1
    cases h2 : P.numOk b with
    | false =>
      have hr := Lib.hid (verr_num (a := a) (c := c) (s := s) (.inr (.inl h2)))
      rcases numOk_false h2 with h | ⟨h, h'⟩
      all_goals
        clear h1 h2
        go_enter Tryz.func16, Tryz.ntmps16
        go_wp2
        refine wp_loop_rounds 4 ?_
        rw [rounds_succ]
        go_wp2
        rw [rounds_succ]
        go_wp2
        go_ret
        exact ⟨by rw [hr.out]; rfl, by go_grown⟩
    | true =>
      obtain ⟨b0, b1⟩ := numOk_true h2
      cases h3 : P.numOk c with
      | false =>
        have hr := Lib.hid (verr_num (a := a) (b := b) (s := s) (.inr (.inr h3)))
        rcases numOk_false h3 with h | ⟨h, h'⟩
        all_goals
          clear h1 h2 h3
          go_enter Tryz.func16, Tryz.ntmps16
          go_wp2
          refine wp_loop_rounds 4 ?_
          rw [rounds_succ]
          go_wp2
          rw [rounds_succ]
          go_wp2
          rw [rounds_succ]
          go_wp2
          go_ret
          exact ⟨by rw [hr.out]; rfl, by go_grown⟩
      | true =>
        obtain ⟨c0, c1⟩ := numOk_true h3
        have hr : P.verr a b c s = if s.toList.isEmpty || P.earlyS s then 0 else 2 := by unfold P.verr; rw [h1, h2, h3]; rfl
        cases h4 : s.toList.isEmpty with
        | true =>
          rw [h4] at hr
          have Hr := Lib.hid hr
          have h4' := eq_of h4
          clear h1 h2 h3 h4 hr
          go_enter Tryz.func16, Tryz.ntmps16
          go_wp2
          refine wp_loop_rounds 4 ?_
          rw [rounds_succ]
          go_wp2
          rw [rounds_succ]
          go_wp2
          rw [rounds_succ]
          go_wp2
          rw [rounds_succ]
          go_wp2
          go_ret
          exact ⟨by rw [Hr.out]; rfl, by go_grown⟩
        | false =>
          rw [h4] at hr
          have h4' := ne_of h4
          have he := fun W hW => isEarly_any s hs W hW
          cases h5 : P.earlyS s
          all_goals
            rw [h5] at hr he
            have Hr := Lib.hid hr
            have He := Lib.hid he
            have Hw := Lib.hid hw
            clear h1 h2 h3 h5 hr he hw
            go_enter Tryz.func16, Tryz.ntmps16
            go_wp2
            refine wp_loop_rounds 4 ?_
            rw [rounds_succ]
            go_wp2
            rw [rounds_succ]
            go_wp2
            rw [rounds_succ]
            go_wp2
            rw [rounds_succ]
            go_wp2_with (go_at_call 64; refine (He.out _ ?_).mono ?_)
            · exact Hw.out.mono (by go_grown)
            · rintro e w1 ⟨rfl, hb⟩
              have HB := Lib.hid hb
              clear hb
              go_wp2
              go_ret
              exact ⟨by rw [Hr.out]; rfl, below_step (by go_grown) HB.out⟩
end Go.Proofs.YtffblkkhjphcfaaGreatDoor
