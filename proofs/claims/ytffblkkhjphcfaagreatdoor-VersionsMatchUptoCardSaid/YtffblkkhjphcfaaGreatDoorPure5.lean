/- Plain functions: words of digits in order. No program stands here. -/
import Derived.Test.YtffblkkhjphcfaaGreatDoorPure4
import Derived.Lib.Bytealg
namespace Go.Proofs.YtffblkkhjphcfaaGreatDoor
namespace P

theorem compareInt_lt {x y : Int} (h : x < y) : Lib.compareInt x y = -1 := if_pos h
theorem compareInt_gt {x y : Int} (h : y < x) : Lib.compareInt x y = 1 := by unfold Lib.compareInt; rw [if_neg (by omega), if_pos h]
theorem compareInt_eq {x : Int} : Lib.compareInt x x = 0 := by unfold Lib.compareInt; rw [if_neg (by omega), if_neg (by omega)]

/-- what a row of digits spells behind acc -/
theorem decFrom_val : ∀ (l : B) (acc n : Nat), Lib.decFrom acc l = some n → acc * 10 ^ l.length ≤ n ∧ n < (acc + 1) * 10 ^ l.length
  | [], acc, n, h => by simp only [Lib.decFrom, Option.some.injEq] at h; subst h; simp
  | c :: t, acc, n, h => by
    simp only [Lib.decFrom] at h
    cases hd : Lib.digitVal c with
    | none => rw [hd] at h; cases h
    | some d =>
      rw [hd] at h
      have hd9 : d ≤ 9 := by
        unfold Lib.digitVal at hd
        split at hd
        · injection hd with hd; omega
        · cases hd
      obtain ⟨h1, h2⟩ := decFrom_val t _ n h
      rw [List.length_cons, Nat.pow_succ]
      constructor
      · calc acc * (10 ^ t.length * 10) = (acc * 10) * 10 ^ t.length := by rw [Nat.mul_comm (10 ^ t.length), Nat.mul_assoc]
          _ ≤ (acc * 10 + d) * 10 ^ t.length := Nat.mul_le_mul_right _ (by omega)
          _ ≤ n := h1
      · calc n < (acc * 10 + d + 1) * 10 ^ t.length := h2
          _ ≤ ((acc + 1) * 10) * 10 ^ t.length := Nat.mul_le_mul_right _ (by omega)
          _ = (acc + 1) * (10 ^ t.length * 10) := by rw [Nat.mul_comm (10 ^ t.length), Nat.mul_assoc]

/-- rows of digits of one length: their numbers are in the order of their bytes -/
theorem dec_same : ∀ (l m : B) (acc n k : Nat), l.length = m.length → Lib.decFrom acc l = some n → Lib.decFrom acc m = some k → Lib.compareInt n k = Lib.compareBytes l m
  | [], [], acc, n, k, _, h1, h2 => by
    simp only [Lib.decFrom, Option.some.injEq] at h1 h2
    subst h1; subst h2; exact compareInt_eq
  | c :: t, d :: r, acc, n, k, hl, h1, h2 => by
    simp only [Lib.decFrom] at h1 h2
    cases hc : Lib.digitVal c with
    | none => rw [hc] at h1; cases h1
    | some x =>
      cases hd : Lib.digitVal d with
      | none => rw [hd] at h2; cases h2
      | some y =>
        rw [hc] at h1; rw [hd] at h2
        have hlen : t.length = r.length := by simpa using hl
        have ex : x = c.toNat - 48 ∧ 48 ≤ c.toNat := by
          unfold Lib.digitVal at hc; split at hc
          · injection hc with hc; omega
          · cases hc
        have ey : y = d.toNat - 48 ∧ 48 ≤ d.toNat := by
          unfold Lib.digitVal at hd; split at hd
          · injection hd with hd; omega
          · cases hd
        obtain ⟨a1, a2⟩ := decFrom_val t _ n h1
        obtain ⟨b1, b2⟩ := decFrom_val r _ k h2
        unfold Lib.compareBytes
        by_cases hlt : c < d
        · rw [if_pos hlt]
          have : c.toNat < d.toNat := UInt8.lt_iff_toNat_lt.1 hlt
          apply compareInt_lt
          have : (acc * 10 + x + 1) * 10 ^ t.length ≤ (acc * 10 + y) * 10 ^ r.length := by rw [hlen]; exact Nat.mul_le_mul_right _ (by omega)
          omega
        · rw [if_neg hlt]
          by_cases hgt : c > d
          · rw [if_pos hgt]
            have : d.toNat < c.toNat := UInt8.lt_iff_toNat_lt.1 hgt
            apply compareInt_gt
            have : (acc * 10 + y + 1) * 10 ^ r.length ≤ (acc * 10 + x) * 10 ^ t.length := by rw [hlen]; exact Nat.mul_le_mul_right _ (by omega)
            omega
          · rw [if_neg hgt]
            have e : c = d := by
              apply UInt8.toNat_inj.1
              have g1 : ¬ c.toNat < d.toNat := fun h => hlt (UInt8.lt_iff_toNat_lt.2 h)
              have g2 : ¬ d.toNat < c.toNat := fun h => hgt (UInt8.lt_iff_toNat_lt.2 h)
              omega
            have exy : x = y := by rw [ex.1, ey.1, e]
            subst exy
            exact dec_same t r _ n k hlen h1 h2

theorem number_lower {c : UInt8} {t : B} {n : Nat} (h : number (c :: t) = true) (ht : t ≠ []) (hn : Lib.decFrom 0 (c :: t) = some n) : 10 ^ t.length ≤ n := by
  have h' : ((c :: t).all dig && (t.isEmpty || (c.toNat : Int) != 48)) = true := h
  rw [Bool.and_eq_true] at h'
  have h48 : (c.toNat : Int) ≠ 48 := by
    have := h'.2
    cases t with
    | nil => exact absurd rfl ht
    | cons _ _ => simpa using this
  have hd : dig c = true := by have := h'.1; rw [List.all_cons, Bool.and_eq_true] at this; exact this.1
  simp only [dig, Bool.and_eq_true, decide_eq_true_eq] at hd
  have hv : Lib.digitVal c = some (c.toNat - 48) := by unfold Lib.digitVal; rw [if_pos (by omega)]
  simp only [Lib.decFrom, hv] at hn
  have := (decFrom_val t _ n hn).1
  calc 10 ^ t.length = 1 * 10 ^ t.length := (Nat.one_mul _).symm
    _ ≤ (0 * 10 + (c.toNat - 48)) * 10 ^ t.length := Nat.mul_le_mul_right _ (by omega)
    _ ≤ n := this

theorem number_short {l m : B} {n k : Nat} (hm : number m = true) (hlt : l.length < m.length) (h1 : Lib.decFrom 0 l = some n) (h2 : Lib.decFrom 0 m = some k) (hl : 0 < l.length) : n < k := by
  obtain ⟨d, r, rfl, _⟩ := number_cons hm
  have hr : r ≠ [] := by rintro rfl; simp at hlt; subst hlt; simp at hl
  have a := (decFrom_val l 0 n h1).2
  have b := number_lower hm hr h2
  have : 10 ^ l.length ≤ 10 ^ r.length := Nat.pow_le_pow_right (by omega) (by simp at hlt; omega)
  omega

theorem digits_order {x y : ByteArray} (hx : numberS x = true) (hy : numberS y = true) :
    Lib.compareInt (atoiV x) (atoiV y) = orI [Lib.compareInt x.size y.size, Lib.compareBytes x.data.toList y.data.toList] := by
  unfold numberS at hx hy
  unfold atoiV
  rw [← size_len x, ← size_len y]
  generalize x.data.toList = l at *
  generalize y.data.toList = m at *
  obtain ⟨c, t, rfl, h1⟩ := number_cons hx
  obtain ⟨d, r, rfl, h2⟩ := number_cons hy
  obtain ⟨n, e1, e2⟩ := atoi_digits h1
  obtain ⟨k, e3, e4⟩ := atoi_digits h2
  rw [e2, e4]
  show Lib.compareInt (n : Int) (k : Int) = _
  unfold orI
  by_cases hlt : (c :: t).length < (d :: r).length
  · have := number_short hy hlt e1 e3 (by simp)
    rw [compareInt_lt (by omega), compareInt_lt (by omega), if_neg (by decide)]
  · by_cases hgt : (d :: r).length < (c :: t).length
    · have := number_short hx hgt e3 e1 (by simp)
      rw [compareInt_gt (by omega), compareInt_gt (by omega), if_neg (by decide)]
    · have he : (c :: t).length = (d :: r).length := by omega
      rw [he, compareInt_eq, if_pos rfl, dec_same _ _ 0 n k he e1 e3]
      unfold orI
      split
      · rename_i h; rw [h]; rfl
      · rfl

theorem compareBytes_same : ∀ l : B, Lib.compareBytes l l = 0
  | [] => rfl
  | c :: t => by
    unfold Lib.compareBytes
    have : ¬ c < c := fun h => by have := UInt8.lt_iff_toNat_lt.1 h; omega
    rw [if_neg this, if_neg this]; exact compareBytes_same t
theorem wordCmp_same (x : ByteArray) : wordCmp x x = 0 := by
  unfold wordCmp
  rw [compareInt_eq, compareBytes_same]
  cases allS dig x <;> rfl
theorem listCmp_same : ∀ l : List ByteArray, listCmp l l = 0
  | [] => rfl
  | x :: l => by unfold listCmp; rw [wordCmp_same, if_pos rfl]; exact listCmp_same l
theorem earlyCmp_both {a b : ByteArray} (h1 : a.toList.isEmpty = false) (h2 : b.toList.isEmpty = false) : earlyCmp a b = listCmp (splitS a 46) (splitS b 46) := by
  unfold earlyCmp
  cases h : a.toList == b.toList with
  | true =>
    have e : a = b := by
      have : a.toList = b.toList := by simpa using h
      rw [Lib.toList_data, Lib.toList_data] at this
      apply ByteArray.ext; exact Array.toList_inj.1 this
    subst e; rw [if_pos rfl, listCmp_same]
  | false => rw [h1, h2]; rfl

/-- how package outref2 compares two words -/
def refCmp (x y : ByteArray) : Int :=
  if allS dig x then (if allS dig y then Lib.compareInt (atoiV x) (atoiV y) else -1) else if allS dig y then 1 else Lib.compareBytes x.data.toList y.data.toList
theorem word_number {x : ByteArray} (h : wordS x = true) (hd : allS dig x = true) : numberS x = true := by
  unfold wordS word at h
  unfold allS at hd
  rw [hd] at h
  simp only [if_true, Bool.and_eq_true] at h
  exact h.2
theorem refCmp_word {x y : ByteArray} (hx : wordS x = true) (hy : wordS y = true) : refCmp x y = wordCmp x y := by
  unfold refCmp wordCmp
  cases h1 : allS dig x
  · rfl
  · cases h2 : allS dig y
    · rfl
    · rw [if_pos rfl, if_pos rfl, if_pos rfl, if_pos rfl]; exact digits_order (word_number hx h1) (word_number hy h2)
theorem word_size {x : ByteArray} (h : wordS x = true) : x.size ≤ 10 := by
  unfold wordS word at h
  rw [size_len] at h
  simp only [Bool.and_eq_true, decide_eq_true_eq] at h
  exact h.1.2
theorem verr_words {a b c : Int} {s : ByteArray} (h : verr a b c s = 0) (he : s.toList.isEmpty = false) : s.size ≤ 40 ∧ ∀ j (hj : j < (splitS s 46).length), wordS (splitS s 46)[j] = true := by
  unfold verr at h
  rw [he] at h
  have hs : earlyS s = true := by
    split at h
    · cases hh : earlyS s with
      | true => rfl
      | false => rw [hh] at h; cases h
    · cases h
  unfold earlyS early at hs
  rw [size_len, Bool.and_eq_true, decide_eq_true_eq] at hs
  refine ⟨hs.1, fun j hj => ?_⟩
  rw [← splitS_all] at hs
  exact List.all_eq_true.1 hs.2 _ (List.getElem_mem hj)
end P
end Go.Proofs.YtffblkkhjphcfaaGreatDoor
