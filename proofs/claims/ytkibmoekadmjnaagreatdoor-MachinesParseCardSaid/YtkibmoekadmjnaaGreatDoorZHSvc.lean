/- Walks: outref1's serviceOf. -/
import Derived.Test.YtkibmoekadmjnaaGreatDoorZHCut
import Derived.Test.YtkibmoekadmjnaaGreatDoorZUSvc

namespace Go.Proofs.YtkibmoekadmjnaaGreatDoor
open Go.RowKit Go.Lib Go.Shelf

theorem row_four {W : World} {b : Nat} {x1 x2 x3 x4 : ByteArray} (h : HasRow W b ([x1, x2, x3, x4].map Value.string).toArray) :
    W.cell? ⟨b, 0, none⟩ = some (.string x1) ∧ W.cell? ⟨b, 1, none⟩ = some (.string x2) ∧ W.cell? ⟨b, 2, none⟩ = some (.string x3) ∧ W.cell? ⟨b, 3, none⟩ = some (.string x4) :=
  ⟨h.cell 0, h.cell 1, h.cell 2, h.cell 3⟩
theorem flag_cases (c : ByteArray) : (P.isFlag c = false ∧ (c.toList == [48]) = false ∧ (c.toList == [49]) = false) ∨ (P.isFlag c = true ∧ c.toList = [48] ∧ (c.toList == [49]) = false) ∨ (P.isFlag c = true ∧ (c.toList == [48]) = false ∧ c.toList = [49]) := by
  unfold P.isFlag
  by_cases h0 : c.toList = [48]
  · exact .inr (.inl ⟨by rw [h0]; rfl, h0, by rw [h0]; decide⟩)
  · by_cases h1 : c.toList = [49]
    · exact .inr (.inr ⟨by rw [h1]; rfl, by rw [h1]; decide, h1⟩)
    · refine .inl ⟨?_, by simpa using h0, by simpa using h1⟩
      simp [h0, h1]
theorem rsvc_four (x1 x2 x3 x4 : ByteArray) : P.rsvc [x1, x2, x3, x4] = if !x1.toList.isEmpty && !x2.toList.isEmpty && P.isFlag x3 && P.isFlag x4 then (⟨x1, x2, x3.toList == [49], x4.toList == [49]⟩, true) else (P.svc0, false) := rfl

set_option maxRecDepth 100000 in
set_option maxHeartbeats 4000000 in
theorem serviceOf_any (l : List ByteArray) (b cap : Nat) (w : World) (h : HasRow w b (l.map Value.string).toArray) :
    Calls Tryz.prog 152 #[.slice (some ⟨b, 0, none⟩) l.length cap] w fun e w' => e = .returned (.tuple #[svcAgg (P.rsvc l).1, .bool (P.rsvc l).2]) ∧ Below w.heap.size w w' := by
  have HR := Lib.hid (HasRow.new w #[.string ⟨#[]⟩, .string ⟨#[]⟩, .bool false, .bool false] 46)
  have HB := Lib.hid (below_alloc w (.cells #[.string ⟨#[]⟩, .string ⟨#[]⟩, .bool false, .bool false] 46))
  have mixed : Tryz.prog.follows .mixedOrders = true := by kernel_rfl
  by_cases h4 : l.length = 4
  · obtain ⟨x1, x2, x3, x4, rfl⟩ : ∃ a b c d, l = [a, b, c, d] := by
      match l, h4 with
      | [a, b, c, d], _ => exact ⟨a, b, c, d, rfl⟩
    obtain ⟨k0, k1, k2, k3⟩ := row_four (h.below HB.out)
    have hr := rsvc_four x1 x2 x3 x4
    have n4 : [x1, x2, x3, x4].length = 4 := rfl
    rw [n4]
    clear h h4 n4
    obtain ⟨c0, c1, c2, c3, _⟩ := hrow4 HR.out
    have f0 := HR.out.free 0
    have f1 := HR.out.free 1
    have f2 := HR.out.free 2
    have f3 := HR.out.free 3
    by_cases hbad : (!x1.toList.isEmpty && !x2.toList.isEmpty && P.isFlag x3 && P.isFlag x4) = true
    · rw [if_pos hbad] at hr
      simp only [Bool.and_eq_true, Bool.not_eq_true'] at hbad
      obtain ⟨⟨⟨h1, h2⟩, h3⟩, h4⟩ := hbad
      have h1' := ne_of h1
      have h2' := ne_of h2
      rcases flag_cases x3 with ⟨e3, _⟩ | ⟨_, p3, q3⟩ | ⟨_, q3, p3⟩
      · rw [e3] at h3; cases h3
      all_goals rcases flag_cases x4 with ⟨e4, _⟩ | ⟨_, p4, q4⟩ | ⟨_, q4, p4⟩
      all_goals first | (rw [e4] at h4; cases h4; done) | skip
      all_goals
        first | rw [q3] at hr | rw [p3, show (([49] : List UInt8) == [49]) = true from rfl] at hr
        first | rw [q4] at hr | rw [p4, show (([49] : List UInt8) == [49]) = true from rfl] at hr
        replace hr := Lib.hid hr
        rw [hr.out]
        clear h3 h4
        go_enter Tryz.func152, Tryz.ntmps152
        go_wp2_with fail
      all_goals
        refine region_quiet_tail 15 mixed (by kernel_rfl) ?_
        simp only [List.take_succ_cons, List.take_zero, List.drop_succ_cons, List.drop_zero]
        repeat (first
          | go_big_quiet_step (first | fail)
          | (refine wpQuiet_step (fun K hK => ?_); go_simp; refine hK _ ?_; clear hK K))
        refine wpQuiet_nil ?_
        go_wp2_with fail
      all_goals
        first
        | (have HN := HasRow.new w #[.string x1, .string x2, .bool false, .bool false] 46
           have HB2 := below_alloc w (.cells #[.string x1, .string x2, .bool false, .bool false] 46)
           obtain ⟨d0, d1, d2, d3, _⟩ := hrow4 HN.drew
           refine bodyPost_ret (v := .tuple #[.agg #[.string x1, .string x2, .bool false, .bool false], .bool true]) ?_ rfl ⟨rfl, HB2.drew⟩
           simp [results, Tryz.results152, go_sem, d0, d1, d2, d3])
        | (have HN := HasRow.new w #[.string x1, .string x2, .bool false, .bool true] 46
           have HB2 := below_alloc w (.cells #[.string x1, .string x2, .bool false, .bool true] 46)
           obtain ⟨d0, d1, d2, d3, _⟩ := hrow4 HN.drew
           refine bodyPost_ret (v := .tuple #[.agg #[.string x1, .string x2, .bool false, .bool true], .bool true]) ?_ rfl ⟨rfl, HB2.drew⟩
           simp [results, Tryz.results152, go_sem, d0, d1, d2, d3])
        | (have HN := HasRow.new w #[.string x1, .string x2, .bool true, .bool false] 46
           have HB2 := below_alloc w (.cells #[.string x1, .string x2, .bool true, .bool false] 46)
           obtain ⟨d0, d1, d2, d3, _⟩ := hrow4 HN.drew
           refine bodyPost_ret (v := .tuple #[.agg #[.string x1, .string x2, .bool true, .bool false], .bool true]) ?_ rfl ⟨rfl, HB2.drew⟩
           simp [results, Tryz.results152, go_sem, d0, d1, d2, d3])
        | (have HN := HasRow.new w #[.string x1, .string x2, .bool true, .bool true] 46
           have HB2 := below_alloc w (.cells #[.string x1, .string x2, .bool true, .bool true] 46)
           obtain ⟨d0, d1, d2, d3, _⟩ := hrow4 HN.drew
           refine bodyPost_ret (v := .tuple #[.agg #[.string x1, .string x2, .bool true, .bool true], .bool true]) ?_ rfl ⟨rfl, HB2.drew⟩
           simp [results, Tryz.results152, go_sem, d0, d1, d2, d3])
    · replace hr := Lib.hid (hr.trans (if_neg hbad))
      rw [hr.out]
      have hcs : (x1.toList = [] ∧ x1.toList.isEmpty = true) ∨ (¬ x1.toList = [] ∧ x1.toList.isEmpty = false ∧ x2.toList = [] ∧ x2.toList.isEmpty = true) ∨ (¬ x1.toList = [] ∧ x1.toList.isEmpty = false ∧ ¬ x2.toList = [] ∧ x2.toList.isEmpty = false ∧ (x3.toList == [48]) = false ∧ (x3.toList == [49]) = false) ∨
          (¬ x1.toList = [] ∧ x1.toList.isEmpty = false ∧ ¬ x2.toList = [] ∧ x2.toList.isEmpty = false ∧ (x3.toList = [48] ∨ x3.toList = [49]) ∧ (x4.toList == [48]) = false ∧ (x4.toList == [49]) = false) := by
        cases h1 : x1.toList.isEmpty with
        | true => exact .inl ⟨eq_of h1, rfl⟩
        | false =>
          cases h2 : x2.toList.isEmpty with
          | true => exact .inr (.inl ⟨ne_of h1, rfl, eq_of h2, rfl⟩)
          | false =>
            rw [h1, h2] at hbad
            rcases flag_cases x3 with ⟨e3, p3, q3⟩ | ⟨e3, p3, _⟩ | ⟨e3, _, p3⟩
            · exact .inr (.inr (.inl ⟨ne_of h1, rfl, ne_of h2, rfl, p3, q3⟩))
            all_goals
              rw [e3] at hbad
              rcases flag_cases x4 with ⟨e4, p4, q4⟩ | ⟨e4, _⟩ | ⟨e4, _⟩
              · exact .inr (.inr (.inr ⟨ne_of h1, rfl, ne_of h2, rfl, (by first | exact .inl p3 | exact .inr p3), p4, q4⟩))
              all_goals (rw [e4] at hbad; exact absurd rfl hbad)
      clear hbad
      rcases hcs with ⟨h1, h1'⟩ | ⟨h1, h1', h2, h2'⟩ | ⟨h1, h1', h2, h2', h3, h3'⟩ | ⟨h1, h1', h2, h2', h3 | h3, h4, h4'⟩
      all_goals
        go_enter Tryz.func152, Tryz.ntmps152
        go_wp2_with fail
        obtain ⟨d0, d1, d2, d3, _⟩ := hrow4 HR.out
        refine bodyPost_ret (v := .tuple #[.agg #[.string ⟨#[]⟩, .string ⟨#[]⟩, .bool false, .bool false], .bool false]) ?_ rfl ⟨rfl, HB.out⟩
        simp [results, Tryz.results152, go_sem, d0, d1, d2, d3]
  · have hr := Lib.hid (P.rsvc_other h4)
    rw [hr.out]
    have g1 : ((l.length : Int) != 4) = true := by simp; omega
    clear h4 h
    obtain ⟨c0, c1, c2, c3, _⟩ := hrow4 HR.out
    have f0 := HR.out.free 0
    have f1 := HR.out.free 1
    have f2 := HR.out.free 2
    have f3 := HR.out.free 3
    go_enter Tryz.func152, Tryz.ntmps152
    go_wp2_with fail
    obtain ⟨d0, d1, d2, d3, _⟩ := hrow4 HR.out
    refine bodyPost_ret (v := .tuple #[.agg #[.string ⟨#[]⟩, .string ⟨#[]⟩, .bool false, .bool false], .bool false]) ?_ rfl ⟨rfl, HB.out⟩
    simp [results, Tryz.results152, go_sem, d0, d1, d2, d3]
end Go.Proofs.YtkibmoekadmjnaaGreatDoor
