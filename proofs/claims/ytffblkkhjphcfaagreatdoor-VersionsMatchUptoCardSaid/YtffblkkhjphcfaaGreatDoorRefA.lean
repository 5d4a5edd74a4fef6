/- Walks: the plain tests of package outref2: Of, inner, In, When, First. -/
import Derived.Test.YtffblkkhjphcfaaGreatDoorParse
namespace Go.Proofs.YtffblkkhjphcfaaGreatDoor
open Go.RowKit Go.Shelf

/-- The bytes of cs are those of which p holds. -/
structure SetIs (cs : ByteArray) (p : UInt8 → Bool) : Prop where
  size : cs.size ≤ 200
  ascii : ∀ (j : Nat) b, cs.data.toList[j]? = some b → b.toNat < 128
  mem : ∀ c, cs.data.toList.contains c = p c
theorem every {q : UInt8 → Bool} (h : ∀ n, n < 256 → q (UInt8.ofNat n) = true) (c : UInt8) : q c = true := by
  have := h c.toNat (by have := c.toNat_lt; omega)
  rwa [UInt8.ofNat_toNat] at this
theorem set_of {cs : ByteArray} {p : UInt8 → Bool} (h1 : decide (cs.size ≤ 200) = true) (h2 : cs.data.toList.all (fun b => decide (b.toNat < 128)) = true) (h3 : ∀ n, n < 256 → (cs.data.toList.contains (UInt8.ofNat n) == p (UInt8.ofNat n)) = true) : SetIs cs p :=
  ⟨of_decide_eq_true h1, ascii_of_all h2, fun c => by simpa using every (q := fun c => cs.data.toList.contains c == p c) h3 c⟩

theorem trimS_nil_iff (l cs : List UInt8) : Lib.trimS l cs = [] ↔ l.all (cs.contains ·) = true := by
  unfold Lib.trimS Lib.trimLeftS Lib.trimRightS
  have drop_nil : ∀ (m : List UInt8) (q : UInt8 → Bool), m.dropWhile q = [] ↔ m.all q = true := by
    intro m q
    induction m with
    | nil => simp
    | cons a m ih =>
      rw [List.dropWhile_cons]
      cases hq : q a <;> simp [hq, ih]
  rw [drop_nil]
  have key : ∀ m : List UInt8, (m.dropWhile (cs.contains ·)).all (cs.contains ·) = true ↔ m.all (cs.contains ·) = true := by
    intro m
    induction m with
    | nil => simp
    | cons a m ih =>
      rw [List.dropWhile_cons]
      cases hq : cs.contains a
      · simp
      · rw [if_pos rfl, ih, List.all_cons, hq]; simp
  rw [List.all_reverse, key, List.all_reverse]

theorem indexByte_neg (l : List UInt8) (c : UInt8) : decide (Lib.indexByte l c < 0) = !l.contains c := by
  induction l with
  | nil => rfl
  | cons b l ih =>
    unfold Lib.indexByte
    have hge := Lib.indexByte_ge l c
    cases hb : (b == c) with
    | true =>
      have : b = c := by simpa using hb
      subst this; simp
    | false =>
      have hne : ¬ c = b := fun e => by subst e; simp at hb
      simp only [List.contains_cons]
      have hcb : (c == b) = false := by simpa using hne
      rw [hcb, Bool.false_or, ← ih]
      split
      · rename_i h1; cases h1
      · split
        · rename_i h1; have h2 : Lib.indexByte l c = -1 := by simpa using h1
          rw [h2]
        · rename_i h1; have h2 : ¬ Lib.indexByte l c = -1 := by simpa using h1
          exact decide_eq_decide.2 (by omega)

theorem inner_any (s cs : ByteArray) (p : UInt8 → Bool) (hp : SetIs cs p) (hs : s.size ≤ 4294967280) (w : World) :
    Calls Tryz.prog 130 #[.string s, .string cs] w fun e w' => e = .returned (.bool (P.allS p s)) ∧ w = w' := by
  obtain ⟨_, _, hm⟩ := hp
  have Hm := Lib.hid hm
  clear hm
  go_enter Tryz.func130, Tryz.ntmps130
  go_wp2
  go_loop [8] (fun i => ∃ k : Nat, k ≤ s.size ∧ i = .int .i64 k ∧ Aside ((s.data.toList.take k).all p = true)) (fun i => s.size - (intOf i).toNat)
  case atStart => exact ⟨0, Nat.zero_le _, rfl, aside (by simp)⟩
  case round =>
    obtain ⟨k, hk, rfl, A⟩ := hrel
    by_cases hlt : k < s.size
    · have hc := fun W => Tryz.strings_IndexByte cs (s[k].toNat : Int) W
      rw [show ((s[k].toNat : Int)).toNat.toUInt8 = s[k] from by simp] at hc
      have hneg := indexByte_neg cs.data.toList s[k]
      rw [Hm.out] at hneg
      have hstep : (s.data.toList.take (k + 1)).all p = p s[k] := by
        rw [List.take_succ_eq_append_getElem (by simpa using hlt), List.all_append, A.out]; simp; rfl
      have hall : s.data.toList.all p = true → p s[k] = true := fun h => List.all_eq_true.1 h _ (by simp [ByteArray.getElem_eq_getElem_data])
      have Hs := Lib.hid hstep
      have Ha := Lib.hid hall
      clear hstep hall A
      cases hq : p s[k] <;> rw [hq] at hneg <;> simp only [Bool.not_true, Bool.not_false, decide_eq_true_eq, decide_eq_false_iff_not] at hneg
      · have hneg' : Lib.indexByte cs.data.toList s[k] < 0 := hneg
        generalize Lib.indexByte cs.data.toList s[k] = ix at *
        have Hc := Lib.hid hc
        have Hq := Lib.hid hq
        clear hc hq hneg
        go_wp2_with (go_at_call 159; refine (Hc.out _).mono ?_; rintro e w' ⟨rfl, rfl⟩)
        go_ret
        refine ⟨?_, rfl⟩
        show Ending.returned (.bool false) = _
        unfold P.allS
        cases h : s.data.toList.all p with
        | true => have := Ha.out h; rw [Hq.out] at this; cases this
        | false => rfl
      · have hneg' : ¬ Lib.indexByte cs.data.toList s[k] < 0 := hneg
        generalize Lib.indexByte cs.data.toList s[k] = ix at *
        have Hc := Lib.hid hc
        have Hq := Lib.hid hq
        clear hc hq hneg
        go_wp2_with (go_at_call 159; refine (Hc.out _).mono ?_; rintro e w' ⟨rfl, rfl⟩)
        go_round
        case rel => exact ⟨k + 1, by omega, by go_num, aside (by rw [Hs.out, Hq.out])⟩
        case measure => simp [intOf]; omega
    · have hk' : k = s.size := by omega
      have hA : s.data.toList.all p = true := by
        have := A.out; rw [hk', List.take_of_length_le (by simp)] at this; exact this
      have HA := Lib.hid hA
      clear hA hk' A
      go_wp2
      go_ret
      exact ⟨by unfold P.allS; rw [HA.out]; rfl, rfl⟩

def trimmed (s cs : ByteArray) : ByteArray := ⟨(Lib.trimS s.data.toList cs.data.toList).toArray⟩
theorem trim_any (s cs : ByteArray) (p : UInt8 → Bool) (hp : SetIs cs p) (hs : s.size ≤ 4294967280) (w : World) :
    Calls Tryz.prog 129 #[.string s, .string cs] w fun e w' => e = .returned (.string (trimmed s cs)) ∧ Below w.heap.size w w' :=
  Any.strings_Trim_laid Tryz.lays160 (by kernel_rfl) s cs w (by omega) (by have := hp.size; omega) hp.ascii
theorem trimmed_empty {s cs : ByteArray} {p : UInt8 → Bool} (hp : SetIs cs p) : (trimmed s cs).toList.isEmpty = P.allS p s := by
  have hpf : (cs.data.toList.contains ·) = p := funext hp.mem
  have h := trimS_nil_iff s.data.toList cs.data.toList
  rw [hpf] at h
  unfold P.allS
  rw [Lib.toList_data]
  unfold trimmed
  cases ha : s.data.toList.all p with
  | true => rw [h.2 ha]; rfl
  | false =>
    have : Lib.trimS s.data.toList cs.data.toList ≠ [] := fun e => by rw [h.1 e] at ha; cases ha
    cases hl : Lib.trimS s.data.toList cs.data.toList with
    | nil => exact absurd hl this
    | cons a t => simp

theorem of_any (s cs : ByteArray) (p : UInt8 → Bool) (hp : SetIs cs p) (hs : s.size ≤ 4294967280) (w : World) :
    Calls Tryz.prog 61 #[.string s, .string cs] w fun e w' => e = .returned (.bool (P.allS p s)) ∧ Below w.heap.size w w' := by
  have HT := Lib.hid (trim_any s cs p hp hs w)
  have HI := inner_any s cs p hp hs
  have he := trimmed_empty (s := s) hp
  cases ha : P.allS p s <;> rw [ha] at HI he
  all_goals
    have HI := Lib.hid HI
    generalize trimmed s cs = t at *
  · have he' := ne_of he
    go_enter Tryz.func61, Tryz.ntmps61
    go_wp2_with fail
    refine HT.out.mono ?_
    rintro e w1 ⟨rfl, hb⟩
    have HB := Lib.hid hb
    clear hb
    go_wp2
    go_ret
    exact ⟨rfl, HB.out⟩
  · go_enter Tryz.func61, Tryz.ntmps61
    go_wp2_with fail
    refine HT.out.mono ?_
    rintro e w1 ⟨rfl, hb⟩
    have HB := Lib.hid hb
    clear hb
    go_wp2_with (go_at_call 130; refine (HI.out _).mono ?_; rintro e w' ⟨rfl, rfl⟩)
    go_ret
    exact ⟨rfl, HB.out⟩

theorem in_any (n lo hi : Int) (w : World) :
    Calls Tryz.prog 59 #[.int .i64 n, .int .i64 lo, .int .i64 hi] w fun e w' => e = .returned (.bool (decide (lo ≤ n) && decide (n ≤ hi))) ∧ w = w' := by
  by_cases h : lo ≤ n
  · go_enter Tryz.func59, Tryz.ntmps59
    go_wp2
    go_ret
    exact ⟨by rw [decide_eq_true h]; rfl, rfl⟩
  · go_enter Tryz.func59, Tryz.ntmps59
    go_wp2
    go_ret
    exact ⟨by rw [dF (by omega)]; rfl, rfl⟩
theorem when_any (b : Bool) (x : Int) (w : World) :
    Calls Tryz.prog 37 #[.bool b, .int .i64 x] w fun e w' => e = .returned (.int .i64 (if b then x else 0)) ∧ w = w' := by
  cases b
  all_goals
    go_enter Tryz.func37, Tryz.ntmps37
    go_wp2
    go_ret
    exact ⟨rfl, rfl⟩

theorem first_any (b : Nat) (l : List Int) (hl : l.length ≤ 1000) (w : World) (hc : ∀ j (hj : j < l.length), w.cell? ⟨b, j, none⟩ = some (.int .i64 l[j])) :
    Calls Tryz.prog 10 #[.slice (some ⟨b, 0, none⟩) l.length l.length] w fun e w' => e = .returned (.int .i64 (P.orI l)) ∧ w = w' := by
  have HC := Lib.hid hc
  clear hc
  go_enter Tryz.func10, Tryz.ntmps10
  go_wp2
  go_loop [7] (fun i => ∃ k : Nat, k ≤ l.length ∧ i = .int .i64 k ∧ Aside (∀ j (hj : j < l.length), j < k → l[j] = 0)) (fun i => l.length - (intOf i).toNat)
  case atStart => exact ⟨0, Nat.zero_le _, rfl, aside (fun j _ h => absurd h (by omega))⟩
  case round =>
    obtain ⟨k, hk, rfl, A⟩ := hrel
    by_cases hlt : k < l.length
    · have hcell := HC.out k hlt
      by_cases hz : l[k] = 0
      · rw [hz] at hcell
        have Hz := Lib.hid hz
        clear hz
        go_wp2
        go_round
        case rel =>
          exact ⟨k + 1, by omega, by go_num, aside (fun j hj h => by
            by_cases e : j = k
            · subst e; exact Hz.out
            · exact A.out j hj (by omega))⟩
        case measure => simp [intOf]; omega
      · have hr := Lib.hid (orI_take A.out hlt hz)
        have hz' : (l[k] != 0) = true := by simpa using hz
        generalize l[k] = x at *
        clear A
        go_wp2
        go_ret
        exact ⟨by rw [hr.out]; rfl, rfl⟩
    · have hr := Lib.hid (orI_none (l := l) (fun j hj => A.out j hj (by omega)))
      clear A
      go_wp2
      go_ret
      exact ⟨by rw [hr.out]; rfl, rfl⟩
end Go.Proofs.YtffblkkhjphcfaaGreatDoor
