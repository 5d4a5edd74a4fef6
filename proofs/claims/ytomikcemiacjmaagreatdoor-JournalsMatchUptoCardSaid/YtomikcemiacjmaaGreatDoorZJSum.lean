/- Plain: texts of which one byte differs have unlike sums. -/
/- Plain: what can be a sum. -/
/- Walks: outref1.IsSum; stage.isSum. -/
import Derived.Test.YtomikcemiacjmaaGreatDoorZTPure
import Derived.Test.YtomikcemiacjmaaGreatDoorZJShelf

namespace Go.Proofs.YtomikcemiacjmaaGreatDoor
open Go.RowKit Go.Lib Go.Shelf

namespace P
def invK : Nat := 14886173955864302971
theorem inv_K : 1099511628211 * invK % 18446744073709551616 = 1 := by decide +kernel
theorem mulK_inj {x y : Nat} (hx : x < 18446744073709551616) (hy : y < 18446744073709551616) (h : x * 1099511628211 % 18446744073709551616 = y * 1099511628211 % 18446744073709551616) : x = y := by
  have key : ∀ z : Nat, z < 18446744073709551616 → (z * 1099511628211 % 18446744073709551616) * invK % 18446744073709551616 = z := by
    intro z hz
    rw [Nat.mod_mul_mod, Nat.mul_assoc, ← Nat.mul_mod_mod, inv_K, Nat.mul_one, Nat.mod_eq_of_lt hz]
  rw [← key x hx, h, key y hy]
theorem xor_lt {a : Nat} (h : a < 18446744073709551616) (c : UInt8) : a ^^^ c.toNat < 18446744073709551616 := by
  have hc : c.toNat < 2 ^ 64 := Nat.lt_of_lt_of_le c.toNat_lt (by decide)
  exact Nat.xor_lt_two_pow (n := 64) h hc
theorem xorR {a b c : Nat} (h : a ^^^ c = b ^^^ c) : a = b := by
  have := congrArg (· ^^^ c) h
  simpa [Nat.xor_assoc] using this
theorem xorL {a b c : Nat} (h : a ^^^ b = a ^^^ c) : b = c := xorR (c := a) (by rw [Nat.xor_comm b, Nat.xor_comm c]; exact h)
theorem fnvStep_left {a b : Nat} {c : UInt8} (ha : a < 18446744073709551616) (hb : b < 18446744073709551616) (h : fnvStep a c = fnvStep b c) : a = b := by
  have := mulK_inj (xor_lt ha c) (xor_lt hb c) h
  exact xorR this
theorem fnvStep_right {a : Nat} {c d : UInt8} (ha : a < 18446744073709551616) (h : fnvStep a c = fnvStep a d) : c = d := by
  have := mulK_inj (xor_lt ha c) (xor_lt ha d) h
  exact UInt8.toNat_inj.1 (xorL this)
theorem foldl_inj : ∀ (q : B) (a b : Nat), a < 18446744073709551616 → b < 18446744073709551616 → q.foldl fnvStep a = q.foldl fnvStep b → a = b
  | [], _, _, _, _, h => h
  | _c :: q, _a, _b, ha, hb, h => fnvStep_left ha hb (foldl_inj q _ _ (fnvStep_lt _ _) (fnvStep_lt _ _) h)
theorem fnv_byte {p q : B} {c d : UInt8} (h : fnv (p ++ c :: q) = fnv (p ++ d :: q)) : c = d := by
  unfold fnv at h
  rw [List.foldl_append, List.foldl_append, List.foldl_cons, List.foldl_cons] at h
  exact fnvStep_right (foldl_lt p _ (by omega)) (foldl_inj q _ _ (fnvStep_lt _ _) (fnvStep_lt _ _) h)
/-- the number that digits to the base 16 say -/
def hv (c : UInt8) : Nat := if c.toNat < 58 then c.toNat - 48 else c.toNat - 87
def hval (l : B) : Nat := l.foldl (fun a c => a * 16 + hv c) 0
theorem hv_hexC_fin : ∀ d : Fin 16, hv (hexC d) = d.val := by decide +kernel
theorem hv_hexC {d : Nat} (h : d < 16) : hv (hexC d) = d := hv_hexC_fin ⟨d, h⟩
theorem hval_snoc (l : B) (c : UInt8) : hval (l ++ [c]) = hval l * 16 + hv c := by unfold hval; rw [List.foldl_append]; rfl
theorem hval_hex : ∀ (k n : Nat), n < 16 ^ k → hval (hexDigits k n) = n
  | 0, n, h => by
    have : n = 0 := by simpa using h
    subst this; rfl
  | k + 1, n, h => by
    unfold hexDigits
    by_cases hs : n < 16
    · rw [if_pos hs]
      show 0 * 16 + hv (hexC n) = n
      rw [hv_hexC hs]; omega
    · rw [if_neg hs, hval_snoc, hv_hexC (by omega), hval_hex k (n / 16) (by rw [Nat.pow_succ] at h; omega)]
      omega
theorem hval_zeros (l : B) : ∀ n, hval (List.replicate n 48 ++ l) = hval l
  | 0 => rfl
  | n + 1 => by
    have := hval_zeros l n
    unfold hval at this ⊢
    rw [List.replicate_succ, List.cons_append, List.foldl_cons]
    exact this
theorem hval_sum (l : B) : hval (sumL l) = fnv l := by
  unfold sumL
  have e : Lib.repeatL [48] (16 - (hex (fnv l)).length) = List.replicate (16 - (hex (fnv l)).length) (48 : UInt8) := by
    generalize 16 - (hex (fnv l)).length = n
    induction n with
    | zero => rfl
    | succ n ih => rw [List.replicate_succ, ← ih]; rfl
  rw [e, hval_zeros]
  exact hval_hex 16 _ (by have := fnv_lt l; omega)
theorem sumL_len (l : B) : (sumL l).length = 16 := by
  have := hex_le (fnv l)
  unfold sumL
  rw [List.length_append, Lib.repeatL_length]
  simp only [List.length_cons, List.length_nil]
  omega
/-- a changed byte changes the sum -/
theorem sum_byte {p q : B} {c d : UInt8} (h : sumL (p ++ c :: q) = sumL (p ++ d :: q)) : c = d := by
  have := congrArg hval h
  rw [hval_sum, hval_sum] at this
  exact fnv_byte this
end P
end Go.Proofs.YtomikcemiacjmaaGreatDoor

namespace Go.Proofs.YtomikcemiacjmaaGreatDoor
open Go.RowKit Go.Lib Go.Shelf

namespace P
def lowHex (c : UInt8) : Bool := (decide (48 ≤ c.toNat) && decide (c.toNat ≤ 57)) || (decide (97 ≤ c.toNat) && decide (c.toNat ≤ 102))
def sumOk (s : ByteArray) : Bool := s.data.toList.all lowHex && decide (s.size = 16)
theorem lowHex_no {c : UInt8} (h : ¬ (48 ≤ c.toNat ∧ c.toNat ≤ 57)) (h2 : ¬ (97 ≤ c.toNat ∧ c.toNat ≤ 102)) : lowHex c = false := by
  unfold lowHex
  have e1 : (decide (48 ≤ c.toNat) && decide (c.toNat ≤ 57)) = false := by rw [← Bool.decide_and]; exact decide_eq_false h
  have e2 : (decide (97 ≤ c.toNat) && decide (c.toNat ≤ 102)) = false := by rw [← Bool.decide_and]; exact decide_eq_false h2
  rw [e1, e2]; rfl
theorem lowHex_dig {c : UInt8} (h : 48 ≤ c.toNat ∧ c.toNat ≤ 57) : lowHex c = true := by unfold lowHex; rw [decide_eq_true h.1, decide_eq_true h.2]; rfl
theorem lowHex_let {c : UInt8} (h : 97 ≤ c.toNat ∧ c.toNat ≤ 102) : lowHex c = true := by unfold lowHex; rw [decide_eq_true h.1, decide_eq_true h.2]; simp
end P
end Go.Proofs.YtomikcemiacjmaaGreatDoor

namespace Go.Proofs.YtomikcemiacjmaaGreatDoor
open Go.RowKit Go.Lib Go.Shelf

set_option maxHeartbeats 2000000 in
theorem risSum_any (s : ByteArray) (hs : s.size ≤ 9223372036854775807) (w : World) : Calls Tryz.prog 176 #[.string s] w fun e w' => e = .returned (.bool (P.sumOk s)) ∧ w = w' := by
  go_enter Tryz.func176, Tryz.ntmps176
  go_wp2
  go_loop [7] (fun i => ∃ k : Nat, k ≤ s.size ∧ i = .int .i64 k ∧ Hid ((s.data.toList.take k).all P.lowHex = true)) (fun i => s.size - (intOf i).toNat)
  case atStart => exact ⟨0, Nat.zero_le _, rfl, Lib.hid (by simp)⟩
  case round =>
    obtain ⟨k, hk, rfl, A⟩ := hrel
    by_cases hlt : k < s.size
    · have HZ : Hid (P.lowHex s[k] = true → (s.data.toList.take (k + 1)).all P.lowHex = true) := Lib.hid fun h => by
        rw [List.take_succ_eq_append_getElem (by simpa using hlt), List.all_append, A.out]; simp; exact h
      have HF : Hid (P.lowHex s[k] = false → P.sumOk s = false) := Lib.hid fun h => by
        unfold P.sumOk
        have : s.data.toList.all P.lowHex = false := by
          cases hq : s.data.toList.all P.lowHex with
          | false => rfl
          | true =>
            have := List.all_eq_true.1 hq s[k] (by simp [ByteArray.getElem_eq_getElem_data])
            rw [h] at this; cases this
        rw [this]; rfl
      clear A
      have hcls : s[k].toNat < 48 ∨ (48 ≤ s[k].toNat ∧ s[k].toNat ≤ 57) ∨ (57 < s[k].toNat ∧ s[k].toNat < 97) ∨ (97 ≤ s[k].toNat ∧ s[k].toNat ≤ 102) ∨ 102 < s[k].toNat := by omega
      rcases hcls with h | ⟨h, h'⟩ | ⟨h, h'⟩ | ⟨h, h'⟩ | h
      · have hr := Lib.hid (HF.out (P.lowHex_no (by omega) (by omega)))
        have g1 : decide ((s[k].toNat : Int) < 48) = true := decide_eq_true (by omega)
        have g3 : decide ((s[k].toNat : Int) < 97) = true := decide_eq_true (by omega)
        clear h HZ HF
        go_wp2
        go_ret
        exact ⟨by rw [hr.out]; rfl, rfl⟩
      · have hr := Lib.hid (HZ.out (P.lowHex_dig ⟨h, h'⟩))
        have g1 : decide ((s[k].toNat : Int) < 48) = false := decide_eq_false (by omega)
        have g2 : decide ((57 : Int) < (s[k].toNat : Int)) = false := decide_eq_false (by omega)
        clear h h' HZ HF
        go_wp2
        go_round
        case rel => exact ⟨k + 1, by omega, by go_num, Lib.hid hr.out⟩
        case measure => simp [intOf]; omega
      · have hr := Lib.hid (HF.out (P.lowHex_no (by omega) (by omega)))
        have g1 : decide ((s[k].toNat : Int) < 48) = false := decide_eq_false (by omega)
        have g2 : decide ((57 : Int) < (s[k].toNat : Int)) = true := decide_eq_true (by omega)
        have g3 : decide ((s[k].toNat : Int) < 97) = true := decide_eq_true (by omega)
        clear h h' HZ HF
        go_wp2
        go_ret
        exact ⟨by rw [hr.out]; rfl, rfl⟩
      · have hr := Lib.hid (HZ.out (P.lowHex_let ⟨h, h'⟩))
        have g1 : decide ((s[k].toNat : Int) < 48) = false := decide_eq_false (by omega)
        have g2 : decide ((57 : Int) < (s[k].toNat : Int)) = true := decide_eq_true (by omega)
        have g3 : decide ((s[k].toNat : Int) < 97) = false := decide_eq_false (by omega)
        have g4 : decide ((102 : Int) < (s[k].toNat : Int)) = false := decide_eq_false (by omega)
        clear h h' HZ HF
        go_wp2
        go_round
        case rel => exact ⟨k + 1, by omega, by go_num, Lib.hid hr.out⟩
        case measure => simp [intOf]; omega
      · have hr := Lib.hid (HF.out (P.lowHex_no (by omega) (by omega)))
        have g1 : decide ((s[k].toNat : Int) < 48) = false := decide_eq_false (by omega)
        have g2 : decide ((57 : Int) < (s[k].toNat : Int)) = true := decide_eq_true (by omega)
        have g3 : decide ((s[k].toNat : Int) < 97) = false := decide_eq_false (by omega)
        have g4 : decide ((102 : Int) < (s[k].toNat : Int)) = true := decide_eq_true (by omega)
        clear h HZ HF
        go_wp2
        go_ret
        exact ⟨by rw [hr.out]; rfl, rfl⟩
    · have hkl : k = s.size := by omega
      have ha : s.data.toList.all P.lowHex = true := by have := A.out; rw [hkl, List.take_of_length_le (by simp)] at this; exact this
      have hr : Hid (P.sumOk s = decide (s.size = 16)) := Lib.hid (by unfold P.sumOk; rw [ha]; rfl)
      have g : ((s.size : Int) == 16) = decide (s.size = 16) := by
        by_cases h : s.size = 16
        · rw [h]; rfl
        · rw [decide_eq_false h, beq_eq_false_iff_ne]; omega
      clear A ha hkl
      go_wp2
      go_ret
      exact ⟨by rw [hr.out]; rfl, rfl⟩
namespace P
def digS : ByteArray := ⟨#[48, 49, 50, 51, 52, 53, 54, 55, 56, 57, 97, 98, 99, 100, 101, 102]⟩
theorem dig_fin : ∀ n : Fin 256, digS.data.toList.contains (UInt8.ofNat n) = lowHex (UInt8.ofNat n) := by decide +kernel
theorem dig_mem (c : UInt8) : digS.data.toList.contains c = lowHex c := by
  have := dig_fin ⟨c.toNat, c.toNat_lt⟩
  simpa using this
theorem dropWhile_nil {α : Type} (p : α → Bool) : ∀ (l : List α), l.dropWhile p = [] ↔ l.all p = true
  | [] => by simp
  | a :: l => by
    rw [List.dropWhile_cons]
    cases h : p a with
    | true => simp only [if_true]; rw [dropWhile_nil p l, List.all_cons, h]; simp
    | false => simp [h]
theorem trim_nil (l cs : B) : Lib.trimS l cs = [] ↔ l.all (cs.contains ·) = true := by
  unfold Lib.trimS Lib.trimLeftS Lib.trimRightS
  rw [dropWhile_nil]
  constructor
  · intro h
    cases ha : (l.reverse.dropWhile (cs.contains ·)) with
    | nil =>
      have := (dropWhile_nil (cs.contains ·) l.reverse).1 ha
      simpa using this
    | cons a t =>
      rw [ha] at h
      have h1 : cs.contains a = true := List.all_eq_true.1 h a (by simp)
      have h2 := List.head?_dropWhile_not (cs.contains ·) l.reverse
      rw [ha] at h2
      simp only [List.head?_cons] at h2
      rw [h1] at h2
      cases h2
  · intro h
    have : l.reverse.dropWhile (cs.contains ·) = [] := (dropWhile_nil (cs.contains ·) l.reverse).2 (by simpa using h)
    rw [this]; rfl
end P
theorem disSum_any (s : ByteArray) (w : World) (hT : Tz w) (hw : Good w) : Calls Tryz.prog 171 #[.string s] w fun e w' => e = .returned (.bool (P.sumOk s)) ∧ Below w.heap.size w w' := by
  have HZ := Lib.hid (dsumOf_any ⟨#[]⟩ (by decide) w hT hw)
  have hz : (P.sumOf ⟨#[]⟩).size = 16 := by unfold P.sumOf; rw [P.txt_size, P.sumL_len]
  generalize P.sumOf ⟨#[]⟩ = z at *
  clear hT hw
  by_cases h16 : s.size = 16
  · have HT := Lib.hid (fun W => Any.strings_Trim_laid Tryz.lays160 (by kernel_rfl) s P.digS W (by omega) (by decide) (ascii_of_all (by decide +kernel)))
    have hv : P.sumOk s = s.data.toList.all P.lowHex := by unfold P.sumOk; rw [decide_eq_true h16, Bool.and_true]
    have he := P.trim_nil s.data.toList P.digS.data.toList
    have hfun : (P.digS.data.toList.contains ·) = P.lowHex := funext P.dig_mem
    rw [hfun] at he
    have g1 : ((s.size : Int) == (z.size : Int)) = true := by rw [h16, hz]; rfl
    generalize Lib.trimS s.data.toList P.digS.data.toList = t at *
    have hte : t.isEmpty = s.data.toList.all P.lowHex := by
      cases ha : s.data.toList.all P.lowHex with
      | true => rw [he.2 ha]; rfl
      | false =>
        cases t with
        | nil => rw [he.1 rfl] at ha; cases ha
        | cons a r => rfl
    have hr := Lib.hid (hv.trans hte.symm)
    clear h16 hv he hfun hte hz
    go_enter Tryz.func171, Tryz.ntmps171
    go_wp2_with (first
      | (go_at_call 51; refine HZ.out.mono ?_; rintro e w0 ⟨rfl, hb0⟩)
      | (go_at_call 243; refine (HT.out _).mono ?_; rintro e w1 ⟨rfl, hb1⟩))
    go_ret
    exact ⟨by rw [hr.out]; rfl, bstep hb0 hb1⟩
  · have hr := Lib.hid (show P.sumOk s = false by unfold P.sumOk; rw [decide_eq_false h16, Bool.and_false])
    have g1 : ((s.size : Int) == (z.size : Int)) = false := by rw [beq_eq_false_iff_ne]; omega
    clear h16 hz
    go_enter Tryz.func171, Tryz.ntmps171
    go_wp2_with (go_at_call 51; refine HZ.out.mono ?_; rintro e w0 ⟨rfl, hb0⟩)
    go_ret
    exact ⟨by rw [hr.out]; rfl, hb0⟩
end Go.Proofs.YtomikcemiacjmaaGreatDoor
