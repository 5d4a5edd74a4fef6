/- Walks: package outref1: when, first, IsName, isPart, IsValue, IsPath. -/
/- Plain facts: the classes of a byte. -/
/- Walks: package outref1: IsName, isPart, IsValue. -/
/- Walks: package outref1: isPart. -/
/- Walks: package outref1: IsValue. -/
import Derived.Test.YtomikcemiacjmaaGreatDoorZMNames

namespace Go.Proofs.YtomikcemiacjmaaGreatDoor
open Go.RowKit Go.Shelf

theorem rwhen_any (b : Bool) (x : Int) (w : World) :
    Calls Tryz.prog 87 #[.bool b, .int .i64 x] w fun e w' => e = .returned (.int .i64 (if b then x else 0)) ∧ w = w' := by
  cases b
  all_goals
    go_enter Tryz.func87, Tryz.ntmps87
    go_wp2
    go_ret
    exact ⟨rfl, rfl⟩

namespace P
def orL : List Int → Int
  | [] => 0
  | x :: l => orE x (orL l)
theorem orL_take {l : List Int} {k : Nat} (h : ∀ j (hj : j < l.length), j < k → l[j] = 0) (hk : k < l.length) (h0 : l[k] ≠ 0) : orL l = l[k] := by
  induction l generalizing k with
  | nil => simp at hk
  | cons x l ih =>
    cases k with
    | zero => simp only [List.getElem_cons_zero] at h0 ⊢; exact orE_ne h0 _
    | succ k =>
      have := h 0 (by simp) (by omega)
      simp only [List.getElem_cons_zero] at this
      subst this
      show orE 0 (orL l) = _
      rw [orE_zero]
      simp only [List.getElem_cons_succ] at h0 ⊢
      exact ih (fun j hj hjk => by have := h (j + 1) (by simpa using hj) (by omega); simpa using this) (by simpa using hk) h0
theorem orL_none {l : List Int} (h : ∀ j (hj : j < l.length), l[j] = 0) : orL l = 0 := by
  induction l with
  | nil => rfl
  | cons x l ih =>
    have h0 := h 0 (by simp)
    simp only [List.getElem_cons_zero] at h0
    subst h0
    exact ih (fun j hj => by have := h (j + 1) (by simpa using hj); simpa using this)
end P

theorem rfirst_any (b : Nat) (l : List Int) (hl : l.length ≤ 1000) (w : World) (hc : ∀ j (hj : j < l.length), w.cell? ⟨b, j, none⟩ = some (.int .i64 l[j])) :
    Calls Tryz.prog 88 #[.slice (some ⟨b, 0, none⟩) l.length l.length] w fun e w' => e = .returned (.int .i64 (P.orL l)) ∧ w = w' := by
  have HC := Lib.hid hc
  clear hc
  go_enter Tryz.func88, Tryz.ntmps88
  go_wp2
  go_loop [7] (fun i => ∃ k : Nat, k ≤ l.length ∧ i = .int .i64 k ∧ Aside (∀ j (hj : j < l.length), j < k → l[j] = 0)) (fun i => l.length - (intOf i).toNat)
  case atStart => exact ⟨0, Nat.zero_le _, rfl, aside (fun j _ h => absurd h (by omega))⟩
  case round =>
    obtain ⟨k, hk, rfl, A⟩ := hrel
    by_cases hlt : k < l.length
    · have hcell := HC.out k hlt
      by_cases hz : l[k] = 0
      · rw [hz] at hcell
        have Hz := Lib.hid hz
        clear hz
        go_wp2
        go_round
        case rel =>
          exact ⟨k + 1, by omega, by go_num, aside (fun j hj h => by
            by_cases e : j = k
            · subst e; exact Hz.out
            · exact A.out j hj (by omega))⟩
        case measure => simp [intOf]; omega
      · have hr := Lib.hid (P.orL_take A.out hlt hz)
        have hz' : (l[k] != 0) = true := by simpa using hz
        generalize l[k] = x at *
        clear A
        go_wp2
        go_ret
        exact ⟨by rw [hr.out]; rfl, rfl⟩
    · have hr := Lib.hid (P.orL_none (l := l) (fun j hj => A.out j hj (by omega)))
      clear A
      go_wp2
      go_ret
      exact ⟨by rw [hr.out]; rfl, rfl⟩

/-! ### names -/
namespace P
def nameAt (k : Nat) (c : UInt8) : Bool := if k = 0 then sml c else nameC c
theorem name_end {s : ByteArray} (h : ∀ j (hj : j < s.size), nameAt j s[j] = true) : nameS s = (!s.toList.isEmpty && decide (s.size ≤ 40)) := by
  cases he : s.toList.isEmpty with
  | true => rw [empty_iff] at he; unfold nameS; rw [he]; rfl
  | false =>
    have hpos : 0 < s.size := by rw [nonempty_iff] at he; rw [← size_len]; exact List.length_pos_iff.2 he
    have hh := head_get s hpos
    have h0 : sml s[0] = true := by have := h 0 hpos; unfold nameAt at this; simpa using this
    have hall : s.data.toList.all nameC = true := by
      rw [List.all_eq_true]
      intro c hc
      obtain ⟨j, hj, rfl⟩ := List.mem_iff_getElem.1 hc
      have hj' : j < s.size := by rw [← size_len]; exact hj
      have := h j hj'
      have e : s[j] = s.data.toList[j] := by rw [ByteArray.getElem_eq_getElem_data]; simp
      rw [e] at this
      unfold nameAt at this
      by_cases e0 : j = 0
      · rw [if_pos e0] at this; unfold nameC; rw [this]; rfl
      · rw [if_neg e0] at this; exact this
    have hl := size_len s
    unfold nameS
    rw [← hl]
    generalize s.data.toList = l at *
    cases l with
    | nil => cases hh
    | cons c t =>
      injection hh with hc _
      rw [← hc] at h0
      show (decide ((c :: t).length ≤ 40) && sml c && (c :: t).all nameC) = _
      rw [h0, hall]; simp
theorem name_bad {s : ByteArray} {j : Nat} (hj : j < s.size) (h : nameAt j s[j] = false) : nameS s = false := by
  have hpos : 0 < s.size := by omega
  have hh := head_get s hpos
  have e : s[j] = s.data.toList[j]'(by rw [size_len]; exact hj) := by rw [ByteArray.getElem_eq_getElem_data]; simp
  rw [e] at h
  have hm : s.data.toList[j]'(by rw [size_len]; exact hj) ∈ s.data.toList := List.getElem_mem _
  unfold nameAt at h
  unfold nameS
  by_cases e0 : j = 0
  · subst e0
    rw [if_pos rfl, ← e] at h
    clear hm e
    generalize s.data.toList = l at *
    cases l with
    | nil => cases hh
    | cons c t =>
      injection hh with hc _
      rw [← hc] at h
      show (decide ((c :: t).length ≤ 40) && sml c && (c :: t).all nameC) = _
      rw [h]; simp
  · rw [if_neg e0] at h
    have : s.data.toList.all nameC = false := by
      cases ha : s.data.toList.all nameC with
      | false => rfl
      | true => rw [List.all_eq_true.1 ha _ hm] at h; cases h
    clear hm e h
    generalize s.data.toList = l at *
    cases l with
    | nil => cases hh
    | cons c t =>
      show (decide ((c :: t).length ≤ 40) && sml c && (c :: t).all nameC) = _
      rw [this]; simp
end P
end Go.Proofs.YtomikcemiacjmaaGreatDoor

namespace Go.Proofs.YtomikcemiacjmaaGreatDoor
namespace P
theorem everyC {q : UInt8 → Prop} [DecidablePred q] (h : ∀ n, n < 256 → q (UInt8.ofNat n)) (c : UInt8) : q c := by
  have := h c.toNat (by have := c.toNat_lt; omega)
  rwa [UInt8.ofNat_toNat] at this
theorem clsN (c : UInt8) :
    (sml c = true ∧ nameC c = true ∧ (97 : Int) ≤ c.toNat ∧ (c.toNat : Int) ≤ 122) ∨ (sml c = false ∧ nameC c = true ∧ (48 : Int) ≤ c.toNat ∧ (c.toNat : Int) ≤ 57) ∨
    (sml c = false ∧ nameC c = true ∧ (c.toNat : Int) = 45) ∨ (sml c = false ∧ nameC c = true ∧ (c.toNat : Int) = 46) ∨
    (sml c = false ∧ nameC c = false ∧ (c.toNat : Int) < 48 ∧ ((c.toNat : Int) != 45) = true ∧ ((c.toNat : Int) != 46) = true) ∨
    (sml c = false ∧ nameC c = false ∧ (57 : Int) < c.toNat ∧ (c.toNat : Int) < 97 ∧ ((c.toNat : Int) != 45) = true ∧ ((c.toNat : Int) != 46) = true) ∨ (sml c = false ∧ nameC c = false ∧ (122 : Int) < c.toNat ∧ ((c.toNat : Int) != 45) = true ∧ ((c.toNat : Int) != 46) = true) :=
  everyC (q := fun c => (sml c = true ∧ nameC c = true ∧ (97 : Int) ≤ c.toNat ∧ (c.toNat : Int) ≤ 122) ∨ (sml c = false ∧ nameC c = true ∧ (48 : Int) ≤ c.toNat ∧ (c.toNat : Int) ≤ 57) ∨
    (sml c = false ∧ nameC c = true ∧ (c.toNat : Int) = 45) ∨ (sml c = false ∧ nameC c = true ∧ (c.toNat : Int) = 46) ∨
    (sml c = false ∧ nameC c = false ∧ (c.toNat : Int) < 48 ∧ ((c.toNat : Int) != 45) = true ∧ ((c.toNat : Int) != 46) = true) ∨
    (sml c = false ∧ nameC c = false ∧ (57 : Int) < c.toNat ∧ (c.toNat : Int) < 97 ∧ ((c.toNat : Int) != 45) = true ∧ ((c.toNat : Int) != 46) = true) ∨ (sml c = false ∧ nameC c = false ∧ (122 : Int) < c.toNat ∧ ((c.toNat : Int) != 45) = true ∧ ((c.toNat : Int) != 46) = true)) (by decide +kernel) c
theorem clsPt (c : UInt8) : partC c = true →
    ((97 : Int) ≤ c.toNat ∧ (c.toNat : Int) ≤ 122) ∨ ((65 : Int) ≤ c.toNat ∧ (c.toNat : Int) ≤ 90) ∨ ((48 : Int) ≤ c.toNat ∧ (c.toNat : Int) ≤ 57) ∨ (c.toNat : Int) = 45 ∨ (c.toNat : Int) = 46 ∨ (c.toNat : Int) = 95 :=
  everyC (q := fun c => partC c = true → ((97 : Int) ≤ c.toNat ∧ (c.toNat : Int) ≤ 122) ∨ ((65 : Int) ≤ c.toNat ∧ (c.toNat : Int) ≤ 90) ∨ ((48 : Int) ≤ c.toNat ∧ (c.toNat : Int) ≤ 57) ∨ (c.toNat : Int) = 45 ∨ (c.toNat : Int) = 46 ∨ (c.toNat : Int) = 95) (by decide +kernel) c
theorem clsPf (c : UInt8) : partC c = false →
    ((c.toNat : Int) < 48) ∨ ((57 : Int) < c.toNat ∧ (c.toNat : Int) < 65) ∨ ((90 : Int) < c.toNat ∧ (c.toNat : Int) < 97) ∨ ((122 : Int) < c.toNat) :=
  everyC (q := fun c => partC c = false → ((c.toNat : Int) < 48) ∨ ((57 : Int) < c.toNat ∧ (c.toNat : Int) < 65) ∨ ((90 : Int) < c.toNat ∧ (c.toNat : Int) < 97) ∨ ((122 : Int) < c.toNat)) (by decide +kernel) c
theorem clsPn (c : UInt8) : partC c = false →
    ((c.toNat : Int) != 45) = true ∧ ((c.toNat : Int) != 46) = true ∧ ((c.toNat : Int) != 95) = true :=
  everyC (q := fun c => partC c = false → ((c.toNat : Int) != 45) = true ∧ ((c.toNat : Int) != 46) = true ∧ ((c.toNat : Int) != 95) = true) (by decide +kernel) c
theorem clsV (c : UInt8) :
    (valC c = true ∧ (32 : Int) ≤ c.toNat ∧ (c.toNat : Int) ≤ 126) ∨ (valC c = false ∧ (c.toNat : Int) < 32) ∨ (valC c = false ∧ (126 : Int) < c.toNat) :=
  everyC (q := fun c => (valC c = true ∧ (32 : Int) ≤ c.toNat ∧ (c.toNat : Int) ≤ 126) ∨ (valC c = false ∧ (c.toNat : Int) < 32) ∨ (valC c = false ∧ (126 : Int) < c.toNat)) (by decide +kernel) c
end P
end Go.Proofs.YtomikcemiacjmaaGreatDoor

namespace Go.Proofs.YtomikcemiacjmaaGreatDoor
open Go.RowKit Go.Shelf

namespace P
theorem allS_end {p : UInt8 → Bool} {s : ByteArray} (h : ∀ j (hj : j < s.size), p s[j] = true) : allS p s = true := by
  unfold allS
  rw [List.all_eq_true]
  intro c hc
  obtain ⟨j, hj, rfl⟩ := List.mem_iff_getElem.1 hc
  have := h j (by rw [← size_len]; exact hj)
  rwa [ByteArray.getElem_eq_getElem_data, ← Array.getElem_toList] at this
theorem allS_bad {p : UInt8 → Bool} {s : ByteArray} {j : Nat} (hj : j < s.size) (h : p s[j] = false) : allS p s = false := by
  unfold allS
  cases ha : s.data.toList.all p with
  | false => rfl
  | true =>
    rw [ByteArray.getElem_eq_getElem_data, ← Array.getElem_toList] at h
    rw [List.all_eq_true.1 ha _ (List.getElem_mem _)] at h; cases h
theorem part_all {s : ByteArray} (h : allS partC s = false) : partS s = false := by
  unfold partS part; unfold allS at h; rw [h]; simp
end P

set_option maxHeartbeats 2000000 in
theorem rname_any (s : ByteArray) (hs : s.size ≤ 4294967280) (w : World) :
    Calls Tryz.prog 39 #[.string s] w fun e w' => e = .returned (.bool (P.nameS s)) ∧ w = w' := by
  have HE : Hid ((∀ j (hj : j < s.size), P.nameAt j s[j] = true) → P.nameS s = (!s.toList.isEmpty && decide (s.size ≤ 40))) := Lib.hid (fun h => P.name_end h)
  have HN : Hid (∀ (j : Nat) (hj : j < s.size), P.nameAt j s[j] = false → P.nameS s = false) := Lib.hid (fun j hj h => P.name_bad hj h)
  go_enter Tryz.func39, Tryz.ntmps39
  go_wp2
  go_loop [8] (fun i => ∃ k : Nat, k ≤ s.size ∧ i = .int .i64 k ∧ Aside (∀ j (hj : j < s.size), j < k → P.nameAt j s[j] = true)) (fun i => s.size - (intOf i).toNat)
  case atStart => exact ⟨0, Nat.zero_le _, rfl, aside (fun j _ h => absurd h (by omega))⟩
  case round =>
    obtain ⟨k, hk, rfl, A⟩ := hrel
    by_cases hlt : k < s.size
    · have HB : Hid (P.nameAt k s[k] = false → P.nameS s = false) := Lib.hid (fun h => HN.out k hlt h)
      have HG : Hid (P.nameAt k s[k] = true → ∀ j (hj : j < s.size), j < k + 1 → P.nameAt j s[j] = true) := Lib.hid fun h j hj hjk => by
        by_cases e : j = k
        · subst e; exact h
        · exact A.out j hj (by omega)
      have hc := P.clsN s[k]
      clear A HE HN
      by_cases h0 : k = 0
      · subst h0
        have hA : P.nameAt 0 s[0] = P.sml s[0] := if_pos rfl
        rw [hA] at HB HG
        clear hA
        rcases hc with ⟨e1, e2, h1, h2⟩ | ⟨e1, e2, h1, h2⟩ | ⟨e1, e2, h1⟩ | ⟨e1, e2, h1⟩ | ⟨e1, e2, h1, h2, h3⟩ | ⟨e1, e2, h1, h2, h3, h4⟩ | ⟨e1, e2, h1, h2, h3⟩
        · replace HG := Lib.hid (HG.out e1)
          clear HB e1 e2
          go_wp2
          go_round
          case rel => exact ⟨0 + 1, by omega, by first | rfl | go_num, aside HG.out⟩
          case measure => simp [intOf]; omega
        all_goals
          replace HB := Lib.hid (HB.out e1)
          clear HG e1 e2
          go_wp2
          go_ret
          exact ⟨by rw [HB.out]; rfl, rfl⟩
      · have h0' : ¬ (k : Int) = 0 := by omega
        have hA : P.nameAt k s[k] = P.nameC s[k] := if_neg h0
        rw [hA] at HB HG
        clear hA
        rcases hc with ⟨e1, e2, h1, h2⟩ | ⟨e1, e2, h1, h2⟩ | ⟨e1, e2, h1⟩ | ⟨e1, e2, h1⟩ | ⟨e1, e2, h1, h2, h3⟩ | ⟨e1, e2, h1, h2, h3, h4⟩ | ⟨e1, e2, h1, h2, h3⟩
        iterate 4
          · replace HG := Lib.hid (HG.out e2)
            clear HB e1 e2
            go_wp2
            go_round
            case rel => exact ⟨k + 1, by omega, by go_num, aside HG.out⟩
            case measure => simp [intOf]; omega
        iterate 2
          · replace HB := Lib.hid (HB.out e2)
            clear HG e1 e2
            go_wp2
            go_ret
            exact ⟨by rw [HB.out]; rfl, rfl⟩
        · replace HB := Lib.hid (HB.out e2)
          have h5 : decide ((s[k].toNat : Int) ≤ 122) = false := dF h1
          clear HG e1 e2
          go_wp2
          go_ret
          exact ⟨by rw [HB.out]; rfl, rfl⟩
    · have HR := Lib.hid (HE.out (fun j hj => A.out j hj (by omega)))
      clear A HE HN
      cases h1 : s.toList.isEmpty with
      | true =>
        have h1' := eq_of h1
        rw [h1] at HR
        clear h1
        go_wp2
        go_ret
        exact ⟨by rw [HR.out]; rfl, rfl⟩
      | false =>
        have h1' := ne_of h1
        rw [h1] at HR
        have H1 := Lib.hid h1
        clear h1
        go_wp2
        go_ret
        exact ⟨by rw [HR.out]; exact congrArg (fun b => Ending.returned (Value.bool b)) (by rw [H1.out]; simp only [Bool.not_false, Bool.true_and]; exact decide_eq_decide.2 (by omega)), rfl⟩

end Go.Proofs.YtomikcemiacjmaaGreatDoor

namespace Go.Proofs.YtomikcemiacjmaaGreatDoor
open Go.RowKit Go.Shelf

set_option maxHeartbeats 2000000 in
theorem rpart_any (s : ByteArray) (hs : s.size ≤ 4294967280) (w : World) :
    Calls Tryz.prog 130 #[.string s] w fun e w' => e = .returned (.bool (P.partS s)) ∧ w = w' := by
  have HE : Hid ((∀ j (hj : j < s.size), P.partC s[j] = true) → P.allS P.partC s = true) := Lib.hid (fun h => P.allS_end h)
  have HN : Hid (∀ (j : Nat) (hj : j < s.size), P.partC s[j] = false → P.allS P.partC s = false) := Lib.hid (fun j hj h => P.allS_bad hj h)
  go_enter Tryz.func130, Tryz.ntmps130
  go_wp2
  go_loop [7] (fun i => ∃ k : Nat, k ≤ s.size ∧ i = .int .i64 k ∧ Aside (∀ j (hj : j < s.size), j < k → P.partC s[j] = true)) (fun i => s.size - (intOf i).toNat)
  case atStart => exact ⟨0, Nat.zero_le _, rfl, aside (fun j _ h => absurd h (by omega))⟩
  case round =>
    obtain ⟨k, hk, rfl, A⟩ := hrel
    by_cases hlt : k < s.size
    · have HB : Hid (P.partC s[k] = false → P.partS s = false) := Lib.hid (fun h => P.part_all (HN.out k hlt h))
      have HG : Hid (P.partC s[k] = true → ∀ j (hj : j < s.size), j < k + 1 → P.partC s[j] = true) := Lib.hid fun h j hj hjk => by
        by_cases e : j = k
        · subst e; exact h
        · exact A.out j hj (by omega)
      clear A HE HN
      cases e1 : P.partC s[k] with
      | true =>
        replace HG := Lib.hid (HG.out e1)
        have hc := P.clsPt s[k] e1
        clear HB e1
        rcases hc with ⟨h1, h2⟩ | ⟨h1, h2⟩ | ⟨h1, h2⟩ | h1 | h1 | h1
        all_goals
          go_wp2
          go_round
          case rel => exact ⟨k + 1, by omega, by go_num, aside HG.out⟩
          case measure => simp [intOf]; omega
      | false =>
        replace HB := Lib.hid (HB.out e1)
        have hc := P.clsPf s[k] e1
        obtain ⟨h3, h4, h5⟩ := P.clsPn s[k] e1
        clear HG e1
        rcases hc with h1 | ⟨h1, h2⟩ | ⟨h1, h2⟩ | h1
        all_goals
          go_wp2
          go_ret
          exact ⟨by rw [HB.out]; rfl, rfl⟩
    · have HA := Lib.hid (HE.out (fun j hj => A.out j hj (by omega)))
      clear A HE HN
      cases h1 : s.toList.isEmpty with
      | true =>
        have hr := Lib.hid (part_false (.inl h1))
        have h1' := eq_of h1
        clear h1
        go_wp2
        go_ret
        exact ⟨by rw [hr.out]; rfl, rfl⟩
      | false =>
        have h1' := ne_of h1
        by_cases h2 : s.size ≤ 40
        · cases h3 : (s.toList == [46]) with
          | true =>
            have hr := Lib.hid (part_false (.inr (.inr (.inl (by simpa using h3)))))
            have h3' : s.toList = [46] := by simpa using h3
            clear h3 h1 h1'
            go_wp2
            go_ret
            exact ⟨by rw [hr.out]; rfl, rfl⟩
          | false =>
            have h3' : ¬ s.toList = [46] := by simpa using h3
            cases h4 : (s.toList == [46, 46]) with
            | true =>
              have hr := Lib.hid (part_false (.inr (.inr (.inr (by simpa using h4)))))
              go_wp2
              go_ret
              exact ⟨by rw [hr.out]; first | rfl | simp, rfl⟩
            | false =>
              have hr := Lib.hid (part_true h1 h2 h3 h4)
              have h4' : ¬ s.toList = [46, 46] := by simpa using h4
              go_wp2
              go_ret
              exact ⟨by rw [hr.out, HA.out]; first | rfl | simp [h4], rfl⟩
        · have hr := Lib.hid (part_false (.inr (.inl (by omega : 40 < s.size))))
          go_wp2
          go_ret
          exact ⟨by rw [hr.out]; first | rfl | simp, rfl⟩

end Go.Proofs.YtomikcemiacjmaaGreatDoor

namespace Go.Proofs.YtomikcemiacjmaaGreatDoor
open Go.RowKit Go.Shelf

set_option maxHeartbeats 2000000 in
theorem rvalue_any (s : ByteArray) (hs : s.size ≤ 4294967280) (w : World) :
    Calls Tryz.prog 89 #[.string s] w fun e w' => e = .returned (.bool (P.valueS s)) ∧ w = w' := by
  have hc : P.valueS s = (decide (s.size ≤ 1000) && P.allS P.valC s) := by unfold P.valueS P.value P.allS; rw [P.size_len]
  rw [hc]
  clear hc
  have HE : Hid ((∀ j (hj : j < s.size), P.valC s[j] = true) → P.allS P.valC s = true) := Lib.hid (fun h => P.allS_end h)
  have HN : Hid (∀ (j : Nat) (hj : j < s.size), P.valC s[j] = false → P.allS P.valC s = false) := Lib.hid (fun j hj h => P.allS_bad hj h)
  go_enter Tryz.func89, Tryz.ntmps89
  go_wp2
  go_loop [6] (fun i => ∃ k : Nat, k ≤ s.size ∧ i = .int .i64 k ∧ Aside (∀ j (hj : j < s.size), j < k → P.valC s[j] = true)) (fun i => s.size - (intOf i).toNat)
  case atStart => exact ⟨0, Nat.zero_le _, rfl, aside (fun j _ h => absurd h (by omega))⟩
  case round =>
    obtain ⟨k, hk, rfl, A⟩ := hrel
    by_cases hlt : k < s.size
    · have HB : Hid (P.valC s[k] = false → P.allS P.valC s = false) := Lib.hid (fun h => HN.out k hlt h)
      have HG : Hid (P.valC s[k] = true → ∀ j (hj : j < s.size), j < k + 1 → P.valC s[j] = true) := Lib.hid fun h j hj hjk => by
        by_cases e : j = k
        · subst e; exact h
        · exact A.out j hj (by omega)
      have hc := P.clsV s[k]
      clear A HE HN
      rcases hc with ⟨e1, h1, h2⟩ | ⟨e1, h1⟩ | ⟨e1, h1⟩
      · replace HG := Lib.hid (HG.out e1)
        clear HB e1
        go_wp2
        go_round
        case rel => exact ⟨k + 1, by omega, by go_num, aside HG.out⟩
        case measure => simp [intOf]; omega
      all_goals
        replace HB := Lib.hid (HB.out e1)
        clear HG e1
        go_wp2
        go_ret
        exact ⟨by rw [HB.out]; simp, rfl⟩
    · have HA := Lib.hid (HE.out (fun j hj => A.out j hj (by omega)))
      clear A HE HN
      go_wp2
      go_ret
      exact ⟨by rw [HA.out]; exact congrArg (fun b => Ending.returned (Value.bool b)) (by rw [Bool.and_true]; exact decide_eq_decide.2 (by omega)), rfl⟩
end Go.Proofs.YtomikcemiacjmaaGreatDoor
