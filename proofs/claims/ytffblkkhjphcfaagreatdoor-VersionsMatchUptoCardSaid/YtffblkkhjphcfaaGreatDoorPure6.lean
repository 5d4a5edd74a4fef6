/- Plain functions: what is written of a version is read. No program stands here. -/
import Derived.Test.YtffblkkhjphcfaaGreatDoorPure5
import Derived.Lib.ItoaNum
namespace Go.Proofs.YtffblkkhjphcfaaGreatDoor
namespace P

theorem digit_byte {k : Nat} (h : k < 10) : (UInt8.ofNat (48 + k)).toNat = 48 + k := by
  rw [UInt8.toNat_ofNat']; omega
theorem dec_all : ∀ u : Nat, (Lib.decDigits u).all dig = true := by
  intro u
  induction u using Nat.strongRecOn with
  | _ u ih =>
    rw [Lib.decDigits]
    split
    · rename_i h
      simp only [List.all_cons, List.all_nil, Bool.and_true, dig, digit_byte h, Bool.and_eq_true, decide_eq_true_eq]; omega
    · rw [List.all_append, ih _ (by omega)]
      simp only [List.all_cons, List.all_nil, Bool.and_true, Bool.true_and, dig, digit_byte (Nat.mod_lt u (by decide)), Bool.and_eq_true, decide_eq_true_eq]; omega
theorem dec_head : ∀ u : Nat, 1 ≤ u → ∃ c t, Lib.decDigits u = c :: t ∧ (c.toNat : Int) ≠ 48 := by
  intro u
  induction u using Nat.strongRecOn with
  | _ u ih =>
    intro h1
    rw [Lib.decDigits]
    split
    · rename_i h
      exact ⟨_, [], rfl, by rw [digit_byte h]; omega⟩
    · obtain ⟨c, t, e, hc⟩ := ih (u / 10) (by omega) (by omega)
      exact ⟨c, t ++ [UInt8.ofNat (48 + u % 10)], by rw [e]; rfl, hc⟩
theorem dec_number (u : Nat) : number (Lib.decDigits u) = true := by
  have ha := dec_all u
  by_cases h : 1 ≤ u
  · obtain ⟨c, t, e, hc⟩ := dec_head u h
    rw [e] at ha ⊢
    show ((c :: t).all dig && (t.isEmpty || (c.toNat : Int) != 48)) = true
    rw [ha]; simp [hc]
  · have : u = 0 := by omega
    subst this
    rw [Lib.decDigits]; rfl
theorem dec_length (u k : Nat) (h : u < 10 ^ (k + 1)) : (Lib.decDigits u).length ≤ k + 1 := by
  induction k generalizing u with
  | zero => rw [Lib.decDigits, dif_pos (by simpa using h)]; simp
  | succ k ih =>
    rw [Lib.decDigits]
    split
    · simp
    · rw [List.length_append]
      have := ih (u / 10) (by rw [Nat.pow_succ] at h; omega)
      simp; omega
theorem decFrom_snoc : ∀ (l : B) (acc n : Nat) (d : Nat) (hd : d < 10), Lib.decFrom acc l = some n → Lib.decFrom acc (l ++ [UInt8.ofNat (48 + d)]) = some (n * 10 + d)
  | [], acc, n, d, hd, h => by
    simp only [Lib.decFrom, Option.some.injEq] at h; subst h
    have : Lib.digitVal (UInt8.ofNat (48 + d)) = some d := by unfold Lib.digitVal; rw [digit_byte hd, if_pos (by omega)]; congr 1; omega
    simp only [List.nil_append, Lib.decFrom, this]
  | c :: t, acc, n, d, hd, h => by
    simp only [List.cons_append, Lib.decFrom] at h ⊢
    cases hc : Lib.digitVal c with
    | none => rw [hc] at h; cases h
    | some x => rw [hc] at h; exact decFrom_snoc t _ n d hd h
theorem dec_value : ∀ u : Nat, Lib.decFrom 0 (Lib.decDigits u) = some u := by
  intro u
  induction u using Nat.strongRecOn with
  | _ u ih =>
    rw [Lib.decDigits]
    split
    · rename_i h
      have := decFrom_snoc [] 0 0 u h rfl
      simpa using this
    · have := decFrom_snoc _ 0 _ (u % 10) (Nat.mod_lt u (by decide)) (ih (u / 10) (by omega))
      rw [this]; congr 1; omega

/-- a number between 0 and 999999, written -/
theorem itoa_ok {n : Int} (h : numOk n = true) : ∃ u : Nat, n = u ∧ u ≤ 999999 ∧ Lib.itoa n = Lib.decDigits u := by
  unfold numOk at h
  rw [Bool.and_eq_true, decide_eq_true_eq, decide_eq_true_eq] at h
  refine ⟨n.toNat, by omega, by omega, ?_⟩
  unfold Lib.itoa
  rw [if_neg (by omega)]
theorem numW_itoa {n : Int} (h : numOk n = true) : numW ⟨(Lib.itoa n).toArray⟩ = true ∧ atoiV ⟨(Lib.itoa n).toArray⟩ = n ∧ (Lib.itoa n).all dig = true := by
  obtain ⟨u, rfl, hu, e⟩ := itoa_ok h
  rw [e]
  refine ⟨?_, ?_, dec_all u⟩
  · unfold numW numberS
    rw [Bool.and_eq_true, decide_eq_true_eq]
    refine ⟨dec_number u, ?_⟩
    rw [← size_len]
    have := dec_length u 5 (by omega)
    show (Lib.decDigits u).length ≤ 9
    omega
  · unfold atoiV
    show (Lib.atoi (Lib.decDigits u)).getD 0 = _
    obtain ⟨c, t, e2, hd⟩ := number_cons (dec_number u)
    obtain ⟨n, h1, h2⟩ := atoi_digits hd
    have := dec_value u
    rw [e2] at this ⊢
    rw [h1] at this
    injection this with this
    rw [h2, this]; rfl

theorem index_no {c : UInt8} : ∀ l : B, c ∉ l → Lib.index l [c] = -1
  | [], _ => rfl
  | b :: l, h => by
    have hb : ¬ c = b := fun e => h (by rw [e]; exact List.mem_cons_self)
    have hp : ([c] : B).isPrefixOf (b :: l) = false := by simp [List.isPrefixOf, hb]
    unfold Lib.index
    rw [hp, index_no l (fun e => h (List.mem_cons_of_mem _ e))]; rfl
theorem index_at {c : UInt8} : ∀ (l r : B), c ∉ l → Lib.index (l ++ c :: r) [c] = l.length
  | [], r, _ => by
    rw [List.nil_append]
    unfold Lib.index
    rw [if_pos (by simp [List.isPrefixOf])]; rfl
  | b :: l, r, h => by
    have hb : ¬ c = b := fun e => h (by rw [e]; exact List.mem_cons_self)
    have hp : ([c] : B).isPrefixOf (b :: (l ++ c :: r)) = false := by simp [List.isPrefixOf, hb]
    have ih := index_at l r (fun e => h (List.mem_cons_of_mem _ e))
    rw [List.cons_append]
    unfold Lib.index
    rw [hp, ih]
    have : ((l.length : Int) == -1) = false := by rw [beq_eq_false_iff_ne]; omega
    rw [this]; simp
theorem not_digit {c : UInt8} {l : B} (h : l.all dig = true) (hc : dig c = false) : c ∉ l := fun hm => by
  have := List.all_eq_true.1 h c hm; rw [hc] at this; cases this

theorem splitK_at {c : UInt8} {k : Nat} {l r : B} (h : c ∉ l) : Lib.splitK [c] 0 (k + 1) (l ++ c :: r) = l :: Lib.splitK [c] 0 k r := by
  conv => lhs; unfold Lib.splitK
  rw [index_at l r h]
  have : ((l.length : Int) == -1) = false := by rw [beq_eq_false_iff_ne]; omega
  rw [this]
  simp
theorem splitK_no {c : UInt8} {k : Nat} {l : B} (h : c ∉ l) : Lib.splitK [c] 0 k l = [l] := by
  cases k with
  | zero => rfl
  | succ k => unfold Lib.splitK; rw [index_no l h]; rfl
theorem split_three {c : UInt8} {x y z : B} (hx : c ∉ x) (hy : c ∉ y) (hz : c ∉ z) : Lib.split (x ++ c :: (y ++ c :: z)) [c] = [x, y, z] := by
  unfold Lib.split
  rw [Lib.count_one]
  have : (x ++ c :: (y ++ c :: z)).count c = 2 := by
    rw [List.count_append, List.count_cons_self, List.count_append, List.count_cons_self, List.count_eq_zero.2 hx, List.count_eq_zero.2 hy, List.count_eq_zero.2 hz]
  rw [this, splitK_at hx, splitK_at hy, splitK_no hz]

theorem splitS_three {s : ByteArray} {c : UInt8} {x y z : B} (h : s.data.toList = x ++ c :: (y ++ c :: z)) (hx : c ∉ x) (hy : c ∉ y) (hz : c ∉ z) : splitS s c = [⟨x.toArray⟩, ⟨y.toArray⟩, ⟨z.toArray⟩] := by
  have hd := splitS_data s c
  rw [h, split_three hx hy hz] at hd
  match hl : splitS s c, hd with
  | [a, b, d], hd =>
    simp only [List.map_cons, List.map_nil, List.cons.injEq, and_true] at hd
    obtain ⟨h1, h2, h3⟩ := hd
    have k : ∀ {u : ByteArray} {v : B}, u.data.toList = v → u = ⟨v.toArray⟩ := fun {u v} e => by
      apply ByteArray.ext; apply Array.toList_inj.1; simpa using e
    rw [k h1, k h2, k h3]
  | [], hd => simp at hd
  | [_], hd => simp at hd
  | [_, _], hd => simp at hd
  | _ :: _ :: _ :: _ :: _, hd => simp at hd

/-- what is written of a right version is read -/
theorem read_text {a b c : Int} {s : ByteArray} (ha : numOk a = true) (hb : numOk b = true) (hc : numOk c = true) : readV ⟨(vtextL a b c s.data.toList).toArray⟩ = some (a, b, c, s) := by
  obtain ⟨a1, a2, a3⟩ := numW_itoa ha
  obtain ⟨b1, b2, b3⟩ := numW_itoa hb
  obtain ⟨c1, c2, c3⟩ := numW_itoa hc
  have d46 : dig 46 = false := by decide
  have d45 : dig 45 = false := by decide
  have hsb : (⟨s.data.toList.toArray⟩ : ByteArray) = s := by apply ByteArray.ext; simp
  have key : ∀ t : ByteArray, headS t = ⟨(Lib.itoa a ++ 46 :: (Lib.itoa b ++ 46 :: Lib.itoa c)).toArray⟩ → tailS t = s → (hasTail t && (tailS t).toList.isEmpty) = false → readV t = some (a, b, c, s) := fun t h1 h2 h3 => by
    unfold readV
    rw [h3, h1, splitS_three (x := Lib.itoa a) (y := Lib.itoa b) (z := Lib.itoa c) (c := 46) rfl (not_digit a3 d46) (not_digit b3 d46) (not_digit c3 d46)]
    have : words3 [⟨(Lib.itoa a).toArray⟩, ⟨(Lib.itoa b).toArray⟩, ⟨(Lib.itoa c).toArray⟩] = some (a, b, c) := by
      show (if _ then _ else _) = _
      rw [a1, b1, c1, a2, b2, c2]; rfl
    rw [this, h2]; rfl
  have no45 : (45 : UInt8) ∉ Lib.itoa a ++ 46 :: (Lib.itoa b ++ 46 :: Lib.itoa c) := by
    intro h
    rw [List.mem_append, List.mem_cons, List.mem_append, List.mem_cons] at h
    rcases h with h | h | h | h | h
    · exact not_digit a3 d45 h
    · revert h; decide
    · exact not_digit b3 d45 h
    · revert h; decide
    · exact not_digit c3 d45 h
  cases he : s.data.toList.isEmpty with
  | true =>
    have ht : vtextL a b c s.data.toList = Lib.itoa a ++ 46 :: (Lib.itoa b ++ 46 :: Lib.itoa c) := by unfold vtextL; rw [he]; simp
    have hs0 : s.data.toList = [] := by simpa using he
    have hcut : Lib.cut (Lib.itoa a ++ 46 :: (Lib.itoa b ++ 46 :: Lib.itoa c)) [45] = (Lib.itoa a ++ 46 :: (Lib.itoa b ++ 46 :: Lib.itoa c), [], false) := by
      unfold Lib.cut; rw [index_no _ no45]; rfl
    rw [ht]
    refine key _ ?_ ?_ ?_
    · unfold headS; show (⟨(Lib.cut _ _).1.toArray⟩ : ByteArray) = _; rw [hcut]
    · unfold tailS; show (⟨(Lib.cut _ _).2.1.toArray⟩ : ByteArray) = _; rw [hcut, ← hsb, hs0]
    · unfold hasTail; show ((Lib.cut _ _).2.2 && _) = false; rw [hcut]; rfl
  | false =>
    have ht : vtextL a b c s.data.toList = (Lib.itoa a ++ 46 :: (Lib.itoa b ++ 46 :: Lib.itoa c)) ++ 45 :: s.data.toList := by unfold vtextL; rw [he]; simp
    have hcut : Lib.cut ((Lib.itoa a ++ 46 :: (Lib.itoa b ++ 46 :: Lib.itoa c)) ++ 45 :: s.data.toList) [45] = (Lib.itoa a ++ 46 :: (Lib.itoa b ++ 46 :: Lib.itoa c), s.data.toList, true) := by
      unfold Lib.cut
      rw [index_at _ _ no45, if_pos (by omega), Int.toNat_natCast, List.take_left' rfl]
      rw [List.drop_append]
      simp
    rw [ht]
    have htl : tailS ⟨((Lib.itoa a ++ 46 :: (Lib.itoa b ++ 46 :: Lib.itoa c)) ++ 45 :: s.data.toList).toArray⟩ = s := by
      unfold tailS; show (⟨(Lib.cut _ _).2.1.toArray⟩ : ByteArray) = _; rw [hcut]
    refine key _ ?_ htl ?_
    · unfold headS; show (⟨(Lib.cut _ _).1.toArray⟩ : ByteArray) = _; rw [hcut]
    · rw [htl, Lib.toList_data, he, Bool.and_false]
end P
end Go.Proofs.YtffblkkhjphcfaaGreatDoor
