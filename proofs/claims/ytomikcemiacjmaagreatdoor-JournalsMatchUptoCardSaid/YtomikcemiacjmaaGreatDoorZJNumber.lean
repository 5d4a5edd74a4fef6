/- Walks: stage's reader: number. -/
import Derived.Test.YtomikcemiacjmaaGreatDoorZJRd
import Derived.Shelf.GgClosure.Gives

namespace Go.Proofs.YtomikcemiacjmaaGreatDoor
open Go.RowKit Go.Lib Go.Shelf Go.Maps

theorem atoi_range {l : P.B} {v : Int} (h : Lib.atoiAll l = .ok v) : -9223372036854775808 ≤ v ∧ v ≤ 9223372036854775807 := by
  unfold Lib.atoiAll at h
  split at h
  · cases h
  · simp only at h
    split at h
    · cases h
    · cases h
    · split at h
      · cases h
      · rename_i h1
        split at h
        · cases h
        · rename_i h2
          have e := (Lib.NumEnd.ok.inj h)
          split at e <;> rename_i h3
          · simp only [h3, true_and, Nat.not_lt] at h2; omega
          · simp only [h3, not_false_eq_true, true_and, Nat.not_le] at h1; omega
theorem atoi_bad (s : ByteArray) (hs : s.size ≤ 1000000000) (h : ∀ v, Lib.atoiAll s.data.toList ≠ .ok v) (w : World) (hw : JW w) :
    Calls Tryz.prog 175 #[.string s] w fun e w' => ∃ n te pe, e = .returned (.tuple #[.int .i64 n, .iface te pe]) ∧ Below w.heap.size w w' := by
  have key : Lib.atoiAll s.data.toList = Lib.atoiAll [] ∨ Lib.atoiAll s.data.toList = .range := by
    generalize Lib.atoiAll s.data.toList = q at *
    cases q with
    | ok v => exact absurd rfl (h v)
    | range => exact .inr rfl
    | _ => exact .inl rfl
  rcases key with ha | ha
  · obtain ⟨ev, h1, h2⟩ := hw.e.e
    exact (Tryz.strconv_Atoi_syntax s (by omega) ha ev w h1 h2).mono fun e w' ⟨N, he, _, _, hb⟩ => ⟨_, _, _, he, hb⟩
  · obtain ⟨ev, h1, h2⟩ := hw.r
    exact (Tryz.strconv_Atoi_range s (by omega) ha ev w h1 h2).mono fun e w' ⟨N, he, _, _, hb⟩ => ⟨_, _, _, he, hb⟩
theorem atoi_good (s : ByteArray) (hs : s.size ≤ 1000000000) {v : Int} (h : Lib.atoiAll s.data.toList = .ok v) (w : World) :
    Calls Tryz.prog 175 #[.string s] w fun e w' => e = .returned (.tuple #[.int .i64 v, .nilIface]) ∧ Below w.heap.size w w' :=
  (Tryz.strconv_Atoi_ok s (by omega) v h w).mono fun e w' ⟨he, hw'⟩ => ⟨he, by
    rcases hw' with rfl | ⟨t, rfl⟩
    · exact Below.refl _ _
    · exact Lib.bytesWorld_below _ _ _⟩
theorem itoa_any (n : Int) (h0 : -9223372036854775808 ≤ n) (h1 : n ≤ 9223372036854775807) (w : World) (hw : JW w) :
    Calls Tryz.prog 168 #[.int .i64 n] w fun e w' => e = .returned (.string (P.txt (Lib.itoa n))) ∧ Below w.heap.size w w' :=
  (Tryz.strconv_Itoa n h0 h1 w hw.p.here).mono fun e w' ⟨he, k, os, hg⟩ => ⟨he, by rw [hg]; exact below_grown w k os⟩
namespace P
/-- the ways of a number that is read -/
theorem num_cases (d : B) : (∃ k : Nat, sNo d = some k ∧ Lib.atoiAll d = .ok (k : Int) ∧ Lib.itoa (k : Int) = d ∧ (k : Int) ≤ 9223372036854775807) ∨
    (sNo d = none ∧ ((∀ v, Lib.atoiAll d ≠ .ok v) ∨ ∃ v : Int, Lib.atoiAll d = .ok v ∧ -9223372036854775808 ≤ v ∧ v ≤ 9223372036854775807 ∧ (v < 0 ∨ (0 ≤ v ∧ Lib.itoa v ≠ d)))) := by
  cases ha : Lib.atoiAll d with
  | ok v =>
    have hr := atoi_range ha
    by_cases h0 : 0 ≤ v
    · by_cases h1 : Lib.itoa v = d
      · refine .inl ⟨v.toNat, ?_, ?_, ?_, by omega⟩
        · unfold sNo; rw [ha]; simp only; rw [if_pos ⟨h0, h1⟩]
        · rw [Int.toNat_of_nonneg h0]
        · rw [Int.toNat_of_nonneg h0]; exact h1
      · refine .inr ⟨?_, .inr ⟨v, rfl, hr.1, hr.2, .inr ⟨h0, h1⟩⟩⟩
        unfold sNo; rw [ha]; simp only; rw [if_neg (fun h => h1 h.2)]
    · refine .inr ⟨?_, .inr ⟨v, rfl, hr.1, hr.2, .inl (by omega)⟩⟩
      unfold sNo; rw [ha]; simp only; rw [if_neg (fun h => h0 h.1)]
  | _ => exact .inr ⟨by unfold sNo; rw [ha], .inl (fun v h => by cases h)⟩
end P

/-- what number leaves -/
def NUM (b : Nat) (_word t : ByteArray) (x : Bool) (w : World) (o : Option Nat) (e : Ending) (w' : World) : Prop := ∃ n : Int, e = .returned (.int .i64 n) ∧ (∀ k, o = some k → n = (k : Int)) ∧
  HasRow w' b #[.string (P.lineR t), .bool (if o.isSome then x else true)] ∧ Gb b w w'

set_option maxRecDepth 100000 in
theorem number_any (word : ByteArray) (h10 : (10 : UInt8) ∉ word.data.toList) (hw0 : word.data.toList ≠ []) (t : ByteArray) (hs : t.size ≤ 1000000000) (x : Bool) (b : Nat) (h8 : 8 ≤ b) (w : World) (hw : JW w) (h : HasRow w b #[.string t, .bool x]) :
    Calls Tryz.prog 241 #[.pointer (some ⟨b, 0, none⟩), .string word] w fun e w' => NUM b word t x w (P.numO word t) e w' := by
  have HB := Lib.hid (rdBehind_any word h10 hw0 t hs x b w h)
  have Hw := Lib.hid hw
  have HJ := Lib.hid (fun W (hg : Gb b w W) => hw.gb hg h8 h.lt)
  cases hb : P.behO word t with
  | none =>
    have hN : P.numO word t = none := by unfold P.numO; rw [hb]; rfl
    rw [hN]
    rw [hb] at HB
    have HA := Lib.hid (fun W hW => atoi_bad (P.behT none) (by decide) (fun v => by show Lib.atoiAll [] ≠ _; intro h; cases h) W hW)
    generalize P.behT none = d at *
    clear h hs hw hN hb h10 hw0
    go_enter Tryz.func241, Tryz.ntmps241
    go_wp2_with (first
      | (go_at_call 169; refine HB.out.mono ?_; rintro e w1 ⟨rfl, hr1, hg1⟩; have HR := Lib.hid hr1; have HG := Lib.hid hg1; clear hr1)
      | (go_at_call 175; refine (HA.out _ (HJ.out _ HG.out)).mono ?_; rintro e w2 ⟨n, te, pe, rfl, hb2⟩; have HR2 := Lib.hid (HR.out.below hb2); have HG2 := Lib.hid (HG.out.trans (Gb.of hb2)); have f1 := HR2.out.free 1; have d1 := HR2.out.cell 1))
    go_ret
    refine ⟨n, rfl, (fun k hk => by cases hk), ?_, HG2.out.set 1 _⟩
    have := HR2.out.set 1 (.bool true) (by simp)
    simpa using this
  | some d =>
    have hdl := P.behO_le hb
    have hN : P.numO word t = P.sNo d := by unfold P.numO; rw [hb]; rfl
    rw [hN]
    rw [hb] at HB
    have hT : P.behT (some d) = P.txt d := rfl
    rw [hT] at HB
    have hds : (P.txt d).size ≤ 1000000000 := by rw [P.txt_size]; omega
    have hdl2 := P.txt_list d
    rcases P.num_cases d with ⟨k, e1, e2, e3, e4⟩ | ⟨e1, e2⟩
    · rw [e1]
      rw [← hdl2] at e2
      have HA := Lib.hid (fun W => atoi_good (P.txt d) hds e2 W)
      have HI := Lib.hid (fun W hW => itoa_any (k : Int) (by omega) e4 W hW)
      rw [e3] at HI
      have g1 : decide ((k : Int) < 0) = false := decide_eq_false (by omega)
      clear h hs hw hN hb h10 hw0 e1 e2 e3 e4 hdl hdl2 hds hT
      generalize P.txt d = D at *
      go_enter Tryz.func241, Tryz.ntmps241
      go_wp2_with (first
        | (go_at_call 169; refine HB.out.mono ?_; rintro e w1 ⟨rfl, hr1, hg1⟩; have HR := Lib.hid hr1; have HG := Lib.hid hg1; clear hr1)
        | (go_at_call 175; refine (HA.out _).mono ?_; rintro e w2 ⟨rfl, hb2⟩; have HR2 := Lib.hid (HR.out.below hb2); have HG2 := Lib.hid (HG.out.trans (Gb.of hb2)))
        | (go_at_call 168; refine (HI.out _ (HJ.out _ HG2.out)).mono ?_; rintro e w3 ⟨rfl, hb3⟩; have HR3 := Lib.hid (HR2.out.below hb3); have HG3 := Lib.hid (HG2.out.trans (Gb.of hb3))))
      go_ret
      exact ⟨k, rfl, (fun k' hk => by cases hk; rfl), HR3.out, HG3.out⟩
    · rw [e1]
      rcases e2 with e2 | ⟨v, e2, v1, v2, e3⟩
      · rw [← hdl2] at e2
        have HA := Lib.hid (fun W hW => atoi_bad (P.txt d) hds e2 W hW)
        clear h hs hw hN hb h10 hw0 e1 e2 hdl hdl2 hds hT
        generalize P.txt d = D at *
        go_enter Tryz.func241, Tryz.ntmps241
        go_wp2_with (first
          | (go_at_call 169; refine HB.out.mono ?_; rintro e w1 ⟨rfl, hr1, hg1⟩; have HR := Lib.hid hr1; have HG := Lib.hid hg1; clear hr1)
          | (go_at_call 175; refine (HA.out _ (HJ.out _ HG.out)).mono ?_; rintro e w2 ⟨n, te, pe, rfl, hb2⟩; have HR2 := Lib.hid (HR.out.below hb2); have HG2 := Lib.hid (HG.out.trans (Gb.of hb2)); have f1 := HR2.out.free 1; have d1 := HR2.out.cell 1))
        go_ret
        refine ⟨n, rfl, (fun k hk => by cases hk), ?_, HG2.out.set 1 _⟩
        have := HR2.out.set 1 (.bool true) (by simp)
        simpa using this
      · rw [← hdl2] at e2
        have HA := Lib.hid (fun W => atoi_good (P.txt d) hds e2 W)
        have HI := Lib.hid (fun W hW => itoa_any v v1 v2 W hW)
        rcases e3 with e3 | ⟨e3, e4⟩
        · have g1 : decide (v < 0) = true := decide_eq_true e3
          clear h hs hw hN hb h10 hw0 e1 e2 e3 v1 v2 hdl hdl2 hds hT HI
          generalize P.txt d = D at *
          go_enter Tryz.func241, Tryz.ntmps241
          go_wp2_with (first
            | (go_at_call 169; refine HB.out.mono ?_; rintro e w1 ⟨rfl, hr1, hg1⟩; have HR := Lib.hid hr1; have HG := Lib.hid hg1; clear hr1)
            | (go_at_call 175; refine (HA.out _).mono ?_; rintro e w2 ⟨rfl, hb2⟩; have HR2 := Lib.hid (HR.out.below hb2); have HG2 := Lib.hid (HG.out.trans (Gb.of hb2)); have f1 := HR2.out.free 1; have d1 := HR2.out.cell 1))
          go_ret
          refine ⟨v, rfl, (fun k hk => by cases hk), ?_, HG2.out.set 1 _⟩
          have := HR2.out.set 1 (.bool true) (by simp)
          simpa using this
        · have g1 : decide (v < 0) = false := decide_eq_false (by omega)
          have g2 : ((P.txt (Lib.itoa v)).toList == (P.txt d).toList) = false := by
            rw [Lib.toList_data, Lib.toList_data, P.txt_list, P.txt_list]; simpa using e4
          clear h hs hw hN hb h10 hw0 e1 e2 e3 e4 v1 v2 hdl hdl2 hds hT
          generalize P.txt d = D at *
          generalize P.txt (Lib.itoa v) = I at *
          go_enter Tryz.func241, Tryz.ntmps241
          go_wp2_with (first
            | (go_at_call 169; refine HB.out.mono ?_; rintro e w1 ⟨rfl, hr1, hg1⟩; have HR := Lib.hid hr1; have HG := Lib.hid hg1; clear hr1)
            | (go_at_call 175; refine (HA.out _).mono ?_; rintro e w2 ⟨rfl, hb2⟩; have HR2 := Lib.hid (HR.out.below hb2); have HG2 := Lib.hid (HG.out.trans (Gb.of hb2)))
            | (go_at_call 168; refine (HI.out _ (HJ.out _ HG2.out)).mono ?_; rintro e w3 ⟨rfl, hb3⟩; have HR3 := Lib.hid (HR2.out.below hb3); have HG3 := Lib.hid (HG2.out.trans (Gb.of hb3)); have f1 := HR3.out.free 1; have d1 := HR3.out.cell 1))
          go_ret
          refine ⟨v, rfl, (fun k hk => by cases hk), ?_, HG3.out.set 1 _⟩
          have := HR3.out.set 1 (.bool true) (by simp)
          simpa using this
end Go.Proofs.YtomikcemiacjmaaGreatDoor
