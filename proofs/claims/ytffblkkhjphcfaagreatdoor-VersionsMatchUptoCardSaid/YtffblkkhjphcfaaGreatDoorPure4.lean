/- Plain functions: a version's text taken apart. No program stands here. -/
import Derived.Test.YtffblkkhjphcfaaGreatDoorPure3
import Derived.Lib.AtoiTie
import Derived.Lib.Atoi
namespace Go.Proofs.YtffblkkhjphcfaaGreatDoor
namespace P

theorem splitB_more (sep : ByteArray) (h1 : 1 ≤ sep.size) : ∀ (k : Nat) (s : ByteArray), Lib.countB s sep ≤ k → Lib.splitB sep 0 k s = Lib.splitB sep 0 (Lib.countB s sep) s
  | 0, s, h => by rw [show Lib.countB s sep = 0 by omega]
  | k + 1, s, h => by
    rcases Lib.indexB_cases s sep with hix | ⟨i, hix, _⟩
    · rw [Lib.splitB_miss sep 0 _ s hix, Lib.splitB_miss sep 0 _ s hix]
    · have hc := Lib.countB_hit s sep i h1 hix
      rw [hc, Nat.add_comm 1, Lib.splitB_hit sep 0 _ s i hix, Lib.splitB_hit sep 0 _ s i hix, splitB_more sep h1 k _ (by omega)]
theorem splitB_few (sep : ByteArray) (h1 : 1 ≤ sep.size) : ∀ (k : Nat) (s : ByteArray), k ≤ Lib.countB s sep → (Lib.splitB sep 0 k s).length = k + 1
  | 0, s, _ => rfl
  | k + 1, s, h => by
    rcases Lib.indexB_cases s sep with hix | ⟨i, hix, _⟩
    · rw [Lib.countB_miss s sep hix] at h; omega
    · have hc := Lib.countB_hit s sep i h1 hix
      rw [Lib.splitB_hit sep 0 _ s i hix, List.length_cons, splitB_few sep h1 k _ (by omega)]
/-- what SplitN gives, at most four pieces -/
def split4 (s : ByteArray) : List ByteArray := Lib.splitB ⟨#[46]⟩ 0 (min 4 (s.size + 1) - 1) s
theorem split4_three {s : ByteArray} (h : (splitS s 46).length = 3) : split4 s = splitS s 46 := by
  have hn := Lib.countB_le ⟨#[46]⟩ (one_le 46) _ s (Nat.le_refl _)
  rw [splitS_length] at h
  unfold split4 splitS
  exact splitB_more _ (one_le 46) _ s (by omega)
theorem split4_other {s : ByteArray} (h : (splitS s 46).length ≠ 3) : (split4 s).length ≠ 3 := by
  have hn := Lib.countB_le ⟨#[46]⟩ (one_le 46) _ s (Nat.le_refl _)
  by_cases h4 : Lib.countB s ⟨#[46]⟩ ≤ 3
  · have : split4 s = splitS s 46 := by unfold split4 splitS; exact splitB_more _ (one_le 46) _ s (by omega)
    rw [this]; exact h
  · unfold split4
    rw [show min 4 (s.size + 1) - 1 = 3 by omega, splitB_few _ (one_le 46) 3 s (by omega)]
    omega

/-- a number of a version's text -/
def numW (s : ByteArray) : Bool := numberS s && decide (s.size ≤ 9)
def atoiV (s : ByteArray) : Int := (Lib.atoi s.data.toList).getD 0

theorem decFrom_digits : ∀ (l : B) (acc : Nat), l.all dig = true → ∃ n, Lib.decFrom acc l = some n
  | [], acc, _ => ⟨acc, rfl⟩
  | c :: t, acc, h => by
    rw [List.all_cons, Bool.and_eq_true] at h
    have hd : Lib.digitVal c = some (c.toNat - 48) := by
      unfold Lib.digitVal
      have := h.1
      simp only [dig, Bool.and_eq_true, decide_eq_true_eq] at this
      rw [if_pos (by omega)]
    obtain ⟨n, hn⟩ := decFrom_digits t (acc * 10 + (c.toNat - 48)) h.2
    exact ⟨n, by rw [Lib.decFrom, hd]; exact hn⟩
theorem atoi_digits {c : UInt8} {t : B} (h : (c :: t).all dig = true) : ∃ n : Nat, Lib.decFrom 0 (c :: t) = some n ∧ Lib.atoi (c :: t) = some (n : Int) := by
  obtain ⟨n, hn⟩ := decFrom_digits _ 0 h
  refine ⟨n, hn, ?_⟩
  have hc : dig c = true := by rw [List.all_cons, Bool.and_eq_true] at h; exact h.1
  simp only [dig, Bool.and_eq_true, decide_eq_true_eq] at hc
  have h45 : (c == 45) = false := by rw [beq_eq_false_iff_ne]; rintro rfl; revert hc; decide
  have h43 : (c == 43) = false := by rw [beq_eq_false_iff_ne]; rintro rfl; revert hc; decide
  unfold Lib.atoi
  simp only [h45, h43]
  unfold Lib.decNat
  rw [if_neg (by simp), hn]; rfl
theorem number_cons {l : B} (h : number l = true) : ∃ c t, l = c :: t ∧ (c :: t).all dig = true := by
  cases l with
  | nil => cases h
  | cons c t =>
    have h' : ((c :: t).all dig && (t.isEmpty || (c.toNat : Int) != 48)) = true := h
    rw [Bool.and_eq_true] at h'
    exact ⟨c, t, rfl, h'.1⟩
theorem numW_atoi {s : ByteArray} (h : numW s = true) : Lib.atoiAll s.data.toList = .ok (atoiV s) := by
  unfold numW at h
  rw [Bool.and_eq_true, decide_eq_true_eq] at h
  obtain ⟨c, t, e, hd⟩ := number_cons (l := s.data.toList) h.1
  obtain ⟨n, _, hn⟩ := atoi_digits hd
  rw [Lib.atoiAll_short _ (by rw [size_len]; omega)]
  unfold atoiV
  rw [e, hn]; rfl

/-- a version's text taken apart, its numbers' sizes and the form of its tail not looked at -/
def headS (s : ByteArray) : ByteArray := ⟨(Lib.cut s.data.toList [45]).1.toArray⟩
def tailS (s : ByteArray) : ByteArray := ⟨(Lib.cut s.data.toList [45]).2.1.toArray⟩
def hasTail (s : ByteArray) : Bool := (Lib.cut s.data.toList [45]).2.2
def words3 : List ByteArray → Option (Int × Int × Int)
  | [x, y, z] => if numW x && numW y && numW z then some (atoiV x, atoiV y, atoiV z) else none
  | _ => none
def readV (s : ByteArray) : Option (Int × Int × Int × ByteArray) :=
  if hasTail s && (tailS s).toList.isEmpty then none else (words3 (splitS (headS s) 46)).map fun x => (x.1, x.2.1, x.2.2, tailS s)
theorem headS_size (s : ByteArray) : (headS s).size ≤ s.size := by
  unfold headS Lib.cut
  rw [← size_len, ← size_len s]
  split
  · simp; omega
  · simp
theorem tailS_size (s : ByteArray) : (tailS s).size ≤ s.size := by
  unfold tailS Lib.cut
  rw [← size_len, ← size_len s]
  split
  · simp
  · simp
end P
end Go.Proofs.YtffblkkhjphcfaaGreatDoor
