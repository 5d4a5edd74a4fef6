/- Walks: paths of package outref2. -/
import Derived.Test.YtffblkkhjphcfaaGreatDoorRefB
namespace Go.Proofs.YtffblkkhjphcfaaGreatDoor
open Go.RowKit Go.Shelf

set_option maxHeartbeats 4000000 in
theorem pathOf_any (s : ByteArray) (hs : s.size ≤ 4294967280) (w : World) (hw : Good w) :
    Calls Tryz.prog 20 #[.string s] w fun e w' => e = .returned (.bool (P.pathS s)) ∧ Below w.heap.size w w' := by
  by_cases h2 : s.size ≤ 200
  · have hr := Lib.hid (path_short h2)
    have hsz := P.splitS_size s 47
    have Hsplit := Lib.hid (split_any s 47 (by omega) w hw)
    have hb := below_alloc w (.cells ((P.splitS s 47).map Value.string).toArray 9)
    have hcells := fun k h => pieces_cell w (P.splitS s 47) 9 k h
    have hlen : (P.splitS s 47).length ≤ 4294967281 := splitS_count s 47 hs
    generalize P.splitS s 47 = l at *
    have HB := Lib.hid hb
    have HC := Lib.hid hcells
    have HZ := Lib.hid hsz
    clear hb hcells hsz
    go_enter Tryz.func20, Tryz.ntmps20
    go_wp2_with fail
    refine (Hsplit.out).mono ?_
    rintro e w1 ⟨rfl, hw1⟩
    have hc1 : ∀ k (h : k < l.length), w1.cell? ⟨w.heap.size, k, none⟩ = some (.string l[k]) := fun k h => by rw [hw1]; exact HC.out k h
    have hb1 : Below w.heap.size w w1 := by rw [hw1]; exact HB.out
    have hl1 : Hid (w.heap.size < w1.heap.size) := Lib.hid (by rw [hw1]; simp)
    have HC1 := Lib.hid hc1
    have HB1 := Lib.hid hb1
    clear hc1 hb1 hw1 HC HB Hsplit
    go_wp2
    go_loopw [11] (fun i wr => ∃ k : Nat, k ≤ l.length ∧ i = .int .i64 k ∧ Aside ((l.take k).all P.partS = true) ∧ Below w1.heap.size w1 wr) (fun i _ => l.length - (intOf i).toNat)
    case atStart => exact ⟨0, Nat.zero_le _, rfl, aside (by simp), Below.refl _ _⟩
    case round =>
      obtain ⟨k, hk, rfl, A, hbw⟩ := hrel
      have HW := Lib.hid hbw
      clear hbw
      by_cases hlt : k < l.length
      · have hcell := (HW.out.cell (p := ⟨w.heap.size, k, none⟩) hl1.out).trans (HC1.out k hlt)
        have hz : l[k].size ≤ 4294967280 := by have := HZ.out k hlt; omega
        have hstep : (l.take (k + 1)).all P.partS = P.partS l[k] := by
          rw [List.take_succ_eq_append_getElem hlt, List.all_append, A.out]; simp
        have hall : l.all P.partS = true → P.partS l[k] = true := fun h => List.all_eq_true.1 h _ (List.getElem_mem hlt)
        have hfalse : Hid (P.partS l[k] = false → l.all P.partS = false) := Lib.hid fun hq => by
          cases h : l.all P.partS with
          | true => have := hall h; rw [hq] at this; cases this
          | false => rfl
        have Hs := Lib.hid hstep
        clear hstep hall A
        generalize l[k] = x at *
        cases h1 : x.toList.isEmpty with
        | true =>
          have Hq := Lib.hid (hfalse.out (part_false (.inl h1)))
          clear hfalse
          go_wp2_with fail
          go_ret
          exact ⟨by rw [hr.out, Hq.out]; rfl, HB1.out.trans (HW.out.mono HB1.out.size)⟩
        | false =>
          have h1' := ne_of h1
          cases h3 : (x.toList == [46]) with
          | true =>
            have Hq := Lib.hid (hfalse.out (part_false (.inr (.inr (.inl (by simpa using h3))))))
            have h3' : x.toList = [46] := by simpa using h3
            clear hfalse h1 h1' h3
            go_wp2_with fail
            go_ret
            exact ⟨by rw [hr.out, Hq.out]; rfl, HB1.out.trans (HW.out.mono HB1.out.size)⟩
          | false =>
            have h3' : ¬ x.toList = [46] := by simpa using h3
            cases h4 : (x.toList == [46, 46]) with
            | true =>
              have Hq := Lib.hid (hfalse.out (part_false (.inr (.inr (.inr (by simpa using h4))))))
              have h4' : x.toList = [46, 46] := by simpa using h4
              clear hfalse h1 h1' h3 h3' h4
              go_wp2_with fail
              go_ret
              exact ⟨by rw [hr.out, Hq.out]; rfl, HB1.out.trans (HW.out.mono HB1.out.size)⟩
            | false =>
              have h4' : ¬ x.toList = [46, 46] := by simpa using h4
              by_cases h5 : x.size ≤ 40
              · have hp := part_true h1 h5 h3 h4
                have ho := fun W => of_any x _ P.partC setPart hz W
                cases hq : P.allS P.partC x <;> rw [hq] at hp ho
                · have Hq := Lib.hid (hfalse.out hp)
                  have HO := Lib.hid ho
                  clear hfalse hp hq ho
                  go_wp2_with (go_at_call 61; refine (HO.out _).mono ?_; rintro e w2 ⟨rfl, hB⟩)
                  go_ret
                  exact ⟨by rw [hr.out, Hq.out]; rfl, (HB1.out.trans (HW.out.mono HB1.out.size)).trans (Below.mono (by assumption) (Nat.le_trans HB1.out.size HW.out.size))⟩
                · have Hp := Lib.hid hp
                  have HO := Lib.hid ho
                  clear hfalse hp hq ho
                  go_wp2_with (go_at_call 61; refine (HO.out _).mono ?_; rintro e w2 ⟨rfl, hB⟩)
                  go_roundw
                  case rel => exact ⟨k + 1, by omega, by go_num, aside (by rw [Hs.out, Hp.out]), HW.out.trans (Below.mono (by assumption) HW.out.size)⟩
                  case measure => simp [intOf]; omega
              · have Hq := Lib.hid (hfalse.out (part_false (.inr (.inl (by omega : 40 < x.size)))))
                clear hfalse
                go_wp2_with fail
                go_ret
                exact ⟨by rw [hr.out, Hq.out]; rfl, HB1.out.trans (HW.out.mono HB1.out.size)⟩
      · have hk' : k = l.length := by omega
        have hA : l.all P.partS = true := by have := A.out; rw [hk', List.take_of_length_le (Nat.le_refl _)] at this; exact this
        have HA := Lib.hid hA
        clear hA hk' A
        go_wp2
        go_ret
        exact ⟨by rw [hr.out, HA.out]; rfl, HB1.out.trans (HW.out.mono HB1.out.size)⟩
  · have hr := Lib.hid (path_long (by omega : 200 < s.size))
    go_enter Tryz.func20, Tryz.ntmps20
    go_wp2_with fail
    go_ret
    exact ⟨by rw [hr.out]; rfl, Below.refl _ _⟩
end Go.Proofs.YtffblkkhjphcfaaGreatDoor
