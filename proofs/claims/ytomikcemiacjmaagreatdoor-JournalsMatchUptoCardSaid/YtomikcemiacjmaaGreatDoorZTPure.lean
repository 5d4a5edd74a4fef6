/- Plain functions: sums; quoted texts; the text of a machine; a machine behind a start. No program stands here. -/
/- strings.Builder's WriteByte, WriteString and String at this program, in one form: a builder in a block of the call's own; and Repeat. -/
/- Walks: sums of texts: both SumOf; strconv.FormatUint at the base 16. -/
import Derived.Test.YtomikcemiacjmaaGreatDoorZMWFit
import Derived.Lib.Repeat
import Derived.Laws.Bits64
import Derived.Shelf.Strings.Builder1
import Derived.Shelf.Strings.Repeat
import Derived.Test.YtomikcemiacjmaaGreatDoorZMNames
import Derived.Test.YtomikcemiacjmaaGreatDoorZTShelf
import Derived.Laws.BitsAllLaws
import Derived.BigQuiet
import Derived.Lib.SlBytesRow

namespace Go.Proofs.YtomikcemiacjmaaGreatDoor
namespace P
def hexC (n : Nat) : UInt8 := if n < 10 then UInt8.ofNat (48 + n) else UInt8.ofNat (87 + n)
/-- the bytes that stand for c between quotes -/
def quoteB (c : UInt8) : B :=
  if c.toNat = 34 ∨ c.toNat = 92 then [92, c] else if c.toNat = 10 then [92, 110] else if c.toNat < 32 ∨ 126 < c.toNat then [92, 120, hexC (c.toNat / 16), hexC (c.toNat % 16)] else [c]
def quoteIn (l : B) : B := l.flatMap quoteB
def quoteL (l : B) : B := 34 :: (quoteIn l ++ [34])
theorem quoteB_le (c : UInt8) : (quoteB c).length ≤ 4 := by
  unfold quoteB
  split
  · simp
  · split
    · simp
    · split <;> simp
theorem quoteIn_le (l : B) : (quoteIn l).length ≤ 4 * l.length := by
  unfold quoteIn
  induction l with
  | nil => simp
  | cons c l ih => rw [List.flatMap_cons, List.length_append, List.length_cons]; have := quoteB_le c; omega
theorem quoteIn_snoc (l : B) (k : Nat) (hk : k < l.length) : quoteIn (l.take (k + 1)) = quoteIn (l.take k) ++ quoteB l[k] := by
  rw [List.take_succ_eq_append_getElem hk]; unfold quoteIn; rw [List.flatMap_append]; simp
theorem quoteL_le (l : B) : (quoteL l).length ≤ 4 * l.length + 2 := by
  have := quoteIn_le l
  unfold quoteL; rw [List.length_cons, List.length_append]; simp; omega
theorem quoteB_esc {c : UInt8} (h : c.toNat = 34 ∨ c.toNat = 92) : quoteB c = [92, c] := if_pos h
theorem quoteB_nl {c : UInt8} (h : c.toNat = 10) : quoteB c = [92, 110] := by unfold quoteB; rw [if_neg (by omega), if_pos h]
theorem quoteB_hex {c : UInt8} (h : c.toNat < 32 ∨ 126 < c.toNat) (h' : c.toNat ≠ 10) : quoteB c = [92, 120, hexC (c.toNat / 16), hexC (c.toNat % 16)] := by unfold quoteB; rw [if_neg (by omega), if_neg h', if_pos h]
theorem quoteB_plain {c : UInt8} (h1 : c.toNat ≠ 34) (h2 : c.toNat ≠ 92) (h3 : ¬ c.toNat < 32) (h4 : ¬ 126 < c.toNat) : quoteB c = [c] := by unfold quoteB; rw [if_neg (by omega), if_neg (by omega), if_neg (by omega)]
/-- a text of bytes -/
def txt (l : B) : ByteArray := ⟨l.toArray⟩
theorem txt_list (l : B) : (txt l).data.toList = l := by unfold txt; simp
theorem txt_size (l : B) : (txt l).size = l.length := by rw [← size_len, txt_list]
theorem txt_eq {a : ByteArray} {l : B} (h : a.data.toList = l) : a = txt l := ba_inj (by rw [txt_list]; exact h)
theorem txt_self (a : ByteArray) : txt a.data.toList = a := (txt_eq rfl).symm
def quote (s : ByteArray) : ByteArray := txt (quoteL s.data.toList)

/-! ### sums -/
def fnvStep (h : Nat) (c : UInt8) : Nat := ((h ^^^ c.toNat) * 1099511628211) % 18446744073709551616
def fnv (l : B) : Nat := l.foldl fnvStep 14695981039346656037
theorem fnv_nil : fnv [] = 14695981039346656037 := by unfold fnv; rw [List.foldl_nil]
theorem fnv_snoc (l : B) (k : Nat) (hk : k < l.length) : fnv (l.take (k + 1)) = fnvStep (fnv (l.take k)) l[k] := by
  rw [List.take_succ_eq_append_getElem hk]; unfold fnv; rw [List.foldl_append, List.foldl_cons, List.foldl_nil]
theorem fnvStep_lt (h : Nat) (c : UInt8) : fnvStep h c < 18446744073709551616 := by unfold fnvStep; omega
theorem foldl_lt (l : B) : ∀ (a : Nat), a < 18446744073709551616 → l.foldl fnvStep a < 18446744073709551616 := by
  induction l with
  | nil => intro a h; exact h
  | cons c l ih => intro a _; rw [List.foldl_cons]; exact ih _ (fnvStep_lt _ _)
theorem fnv_lt (l : B) : fnv l < 18446744073709551616 := by unfold fnv; exact foldl_lt l _ (by omega)
/-- the digits of n to the base 16, at most so many -/
def hexDigits : Nat → Nat → B
  | 0, _ => []
  | k + 1, n => if n < 16 then [hexC n] else hexDigits k (n / 16) ++ [hexC (n % 16)]
theorem hexDigits_le : ∀ k n, (hexDigits k n).length ≤ k
  | 0, _ => by simp [hexDigits]
  | k + 1, n => by
    unfold hexDigits
    split
    · simp
    · rw [List.length_append]; have := hexDigits_le k (n / 16); simp; omega
def hex (n : Nat) : B := hexDigits 16 n
theorem hex_le (n : Nat) : (hex n).length ≤ 16 := hexDigits_le 16 n
/-- the state of the loop that writes digits: k of them stand in t, m is left -/
def HexSt (n k m : Nat) (t : B) : Prop := k ≤ 15 ∧ t.length = k ∧ m < 16 ^ (16 - k) ∧ hexDigits (16 - k) m ++ t = hex n
theorem HexSt.start {n : Nat} (h : n < 18446744073709551616) : HexSt n 0 n [] := ⟨by omega, rfl, h, by unfold hex; simp⟩
theorem HexSt.step {n k m : Nat} {t : B} (h : HexSt n k m t) (hm : 16 ≤ m) : HexSt n (k + 1) (m / 16) (hexC (m % 16) :: t) ∧ k < 15 := by
  obtain ⟨h1, h2, h3, h4⟩ := h
  have hk : k < 15 := by
    rcases Nat.lt_or_ge k 15 with h | h
    · exact h
    · have e : k = 15 := by omega
      subst e
      have : m < 16 := h3
      omega
  have e : 16 - k = (16 - (k + 1)) + 1 := by omega
  refine ⟨⟨by omega, by simp [h2], ?_, ?_⟩, hk⟩
  · rw [e, Nat.pow_succ] at h3
    exact Nat.div_lt_of_lt_mul (by rw [Nat.mul_comm]; exact h3)
  · rw [e] at h4
    unfold hexDigits at h4
    rw [if_neg (by omega)] at h4
    rw [← h4]; simp
theorem HexSt.done {n k m : Nat} {t : B} (h : HexSt n k m t) (hm : m < 16) : hex n = hexC m :: t := by
  obtain ⟨h1, h2, h3, h4⟩ := h
  have e : 16 - k = (15 - k) + 1 := by omega
  rw [e] at h4
  unfold hexDigits at h4
  rw [if_pos hm] at h4
  rw [← h4]; rfl
theorem and15 (x : Nat) (hx : x < 18446744073709551616) : bits .and .u64 (x : Int) 15 = ((x % 16 : Nat) : Int) := by
  have h1 : (BitVec.ofInt 64 (x : Int)).toNat = x := by
    rw [BitVec.ofInt_natCast, BitVec.toNat_ofNat]; exact Nat.mod_eq_of_lt (by omega)
  have h2 : (BitVec.ofInt 64 (15 : Int)).toNat = 15 := by decide
  show IntKind.u64.wrap ((BitVec.ofInt 64 (x : Int) &&& BitVec.ofInt 64 (15 : Int)).toNat : Int) = _
  rw [BitVec.toNat_and, h1, h2, show (15 : Nat) = 2 ^ 4 - 1 from rfl, Nat.and_two_pow_sub_one_eq_mod, IntKind.wrap_u64]
  omega
def sumL (l : B) : B := Lib.repeatL [48] (16 - (hex (fnv l)).length) ++ hex (fnv l)
def sumOf (s : ByteArray) : ByteArray := txt (sumL s.data.toList)

/-! ### the text of a machine -/
def bitL (b : Bool) : B := if b then [49] else [48]
def sizeOf (L : List Fi) : Nat := (L.map (·.d.size)).sum

theorem bitL_len (b : Bool) : (bitL b).length = 1 := by cases b <;> rfl
theorem flat_snoc {α : Type} (f : α → B) (L : List α) (k : Nat) (hk : k < L.length) : (L.take (k + 1)).flatMap f = (L.take k).flatMap f ++ f L[k] := by
  rw [List.take_succ_eq_append_getElem hk, List.flatMap_append]; simp
theorem fnv_start (l : B) : Value.int .u64 14695981039346656037 = Value.int .u64 ((fnv (l.take 0) : Nat) : Int) := by simp only [List.take_zero, fnv_nil, Int.cast_ofNat_Int]
end P
end Go.Proofs.YtomikcemiacjmaaGreatDoor

namespace Go.Proofs
open Go.Shelf
def Tryz.bld_ren : Go.Shelf.Ren := ⟨fun | 166 => 144 | 167 => 149 | 169 => 146 | 240 => 228 | 276 => 277 | n => n, fun | 70 => 169 | 9 => 9 | 0 => 0 | 72 => 171 | 37 => 111 | 127 => 255 | 3 => 3 | 5 => 5 | 4 => 4 | 20 => 20 | 75 => 173 | 80 => 176 | 164 => 287 | n => n, fun | n => n⟩
theorem Tryz.bld169 : Go.Proofs.Lays.n169 Tryz.prog Tryz.bld_ren := {
  mixed := by kernel_rfl
  f169 := Tryz.func146.trans (congrArg some (by kernel_rfl))
  t0 := Tryz.underlying0, a0 := Tryz.isAgg0, z0 := Tryz.sizeOf0, v0 := Tryz.zeroValue0
  t3 := Tryz.underlying3, a3 := Tryz.isAgg3, z3 := Tryz.sizeOf3, v3 := Tryz.zeroValue3
  t9 := Tryz.underlying9, a9 := Tryz.isAgg9, z9 := Tryz.sizeOf9, v9 := Tryz.zeroValue9
  t37 := Tryz.underlying111, a37 := Tryz.isAgg111, z37 := Tryz.sizeOf111, v37 := Tryz.zeroValue111
  t70 := Tryz.underlying169, a70 := Tryz.isAgg169, z70 := Tryz.sizeOf169, v70 := Tryz.zeroValue169
  t72 := Tryz.underlying171, a72 := Tryz.isAgg171, z72 := Tryz.sizeOf171, v72 := Tryz.zeroValue171
  t127 := Tryz.underlying255, a127 := Tryz.isAgg255, z127 := Tryz.sizeOf255, v127 := Tryz.zeroValue255 }
theorem Tryz.bld166 : Go.Proofs.Lays.n166 Tryz.prog Tryz.bld_ren := {
  mixed := by kernel_rfl
  f166 := Tryz.func144.trans (congrArg some (by kernel_rfl))
  f240 := Tryz.func228.trans (congrArg some (by kernel_rfl))
  f276 := Tryz.func277.trans (congrArg some (by kernel_rfl))
  t0 := Tryz.underlying0, a0 := Tryz.isAgg0, z0 := Tryz.sizeOf0, v0 := Tryz.zeroValue0
  t3 := Tryz.underlying3, a3 := Tryz.isAgg3, z3 := Tryz.sizeOf3, v3 := Tryz.zeroValue3
  t4 := Tryz.underlying4, a4 := Tryz.isAgg4, z4 := Tryz.sizeOf4, v4 := Tryz.zeroValue4
  t9 := Tryz.underlying9, a9 := Tryz.isAgg9, z9 := Tryz.sizeOf9, v9 := Tryz.zeroValue9
  t20 := Tryz.underlying20, a20 := Tryz.isAgg20, z20 := Tryz.sizeOf20, v20 := Tryz.zeroValue20
  t37 := Tryz.underlying111, a37 := Tryz.isAgg111, z37 := Tryz.sizeOf111, v37 := Tryz.zeroValue111
  t70 := Tryz.underlying169, a70 := Tryz.isAgg169, z70 := Tryz.sizeOf169, v70 := Tryz.zeroValue169
  t72 := Tryz.underlying171, a72 := Tryz.isAgg171, z72 := Tryz.sizeOf171, v72 := Tryz.zeroValue171
  t75 := Tryz.underlying173, a75 := Tryz.isAgg173, z75 := Tryz.sizeOf173, v75 := Tryz.zeroValue173
  t164 := Tryz.underlying287, a164 := Tryz.isAgg287, z164 := Tryz.sizeOf287, v164 := Tryz.zeroValue287 }
theorem Tryz.bld167 : Go.Proofs.Lays.n167 Tryz.prog Tryz.bld_ren := {
  Tryz.bld166 with
  f167 := Tryz.func149.trans (congrArg some (by kernel_rfl))
  t5 := Tryz.underlying5, a5 := Tryz.isAgg5, z5 := Tryz.sizeOf5, v5 := Tryz.zeroValue5 }
theorem Tryz.bldX : Builder.Extra Tryz.prog Tryz.bld_ren := {
  sizeBuilder := by kernel_rfl
  liesBuilder := by kernel_rfl
  t5 := Tryz.underlying5
  a5 := Tryz.isAgg5
  z5 := Tryz.sizeOf5
  v5 := Tryz.zeroValue5
  infoByte := by kernel_rfl
  cellsByte := by kernel_rfl
  sizeByte := by kernel_rfl
  neB5 := by decide }
namespace YtomikcemiacjmaaGreatDoor
open Go.RowKit Go.Lib

/-- block b is a builder that holds the bytes l; its buffer lies in a block from B on -/
def Bld (B b : Nat) (l : List UInt8) (w : World) : Prop := Lib.IsBuilder 171 5 B b (Lib.byteCells l) w
theorem byteCells_app (l : List UInt8) (s : ByteArray) : Lib.byteCells l ++ Lib.strCells s = Lib.byteCells (l ++ s.data.toList) := by
  simp [Lib.byteCells, Lib.strCells]
theorem byteCells_snoc (l : List UInt8) (c : UInt8) : Lib.byteCells l ++ [.int .u8 (c.toNat : Int)] = Lib.byteCells (l ++ [c]) := by
  simp [Lib.byteCells]
theorem Bld.fresh (w : World) : Bld w.heap.size w.heap.size [] (w.alloc (.cells #[.pointer none, .slice none 0 0] 171)) := fresh_isBuilder 171 5 w
theorem writeString_any (B b : Nat) (l : List UInt8) (s : ByteArray) (w : World) (h : Bld B b l w) (hlen : l.length + s.size ≤ 140737488355328) (hBw : B ≤ w.heap.size) :
    Calls Tryz.prog 144 #[.pointer (some ⟨b, 0, none⟩), .string s] w fun e w' => e = .returned (.tuple #[.int .i64 s.size, .nilIface]) ∧ Bld B b (l ++ s.data.toList) w' ∧ Below B w w' :=
  (Any.Builder_WriteString Tryz.bld166 Tryz.bldX B b (Lib.byteCells l) s w h (by simpa [Lib.byteCells] using hlen) hBw).mono fun _ _ ⟨h1, h2, h3⟩ => ⟨h1, .inr (by rw [← byteCells_app]; exact h2), h3⟩
theorem writeByte_any (B b : Nat) (l : List UInt8) (c : UInt8) (w : World) (h : Bld B b l w) (hlen : l.length + 1 ≤ 140737488355328) (hBw : B ≤ w.heap.size) :
    Calls Tryz.prog 149 #[.pointer (some ⟨b, 0, none⟩), .int .u8 (c.toNat : Int)] w fun e w' => e = .returned .nilIface ∧ Bld B b (l ++ [c]) w' ∧ Below B w w' :=
  (Any.Builder_WriteByte Tryz.bld167 Tryz.bldX B b (Lib.byteCells l) c.toNat w h (by simpa [Lib.byteCells] using hlen) hBw).mono fun _ _ ⟨h1, h2, h3⟩ => ⟨h1, .inr (by rw [← byteCells_snoc]; exact h2), h3⟩
theorem string_any (B b : Nat) (l : List UInt8) (w : World) (h : Bld B b l w) (hBw : B ≤ w.heap.size) :
    Calls Tryz.prog 146 #[.pointer (some ⟨b, 0, none⟩)] w fun e w' => e = .returned (.string ⟨l.toArray⟩) ∧ Below B w w' :=
  Any.Builder_String_any Tryz.bld169 Tryz.bldX B b l w h hBw
end YtomikcemiacjmaaGreatDoor
end Go.Proofs

namespace Go.Proofs.YtomikcemiacjmaaGreatDoor
open Go.RowKit Go.Lib Go.Shelf

/-- the one cell of bits' table that is read -/
def Tz (w : World) : Prop := w.cell? ⟨7, 15, none⟩ = some (.int .u8 4)
theorem Tz.mono {w w' : World} (h : Tz w) (hw : Good w) (hb : Below w.heap.size w w') : Tz w' := by
  unfold Tz at *
  rw [hb.cell (p := ⟨7, 15, none⟩) (by have := hw.sz; show 7 < _; omega)]; exact h

theorem tz64 (w : World) (h : Tz w) : Calls Tryz.prog 346 #[.int .u64 16] w fun e w' => e = .returned (.int .i64 4) ∧ Below w.heap.size w w' := by
  unfold Tz at h
  have hx : IntKind.u64.wrap (bits BinOp.and IntKind.u64 16 (IntKind.u64.wrap (-16)) * 285870213051353865) / 288230376151711744 = 15 := by decide +kernel
  go_enter Tryz.func346, Tryz.ntmps346
  go_wp2_with fail
  go_ret
  exact ⟨rfl, Below.refl _ _⟩
theorem tz (w : World) (h : Tz w) : Calls Tryz.prog 324 #[.int .u64 16] w fun e w' => e = .returned (.int .i64 4) ∧ Below w.heap.size w w' := by
  have H := Lib.hid (tz64 w h)
  go_enter Tryz.func324, Tryz.ntmps324
  go_wp2_with fail
  refine H.out.mono ?_
  rintro e w' ⟨rfl, hb⟩
  have HB := Lib.hid hb
  clear hb
  go_wp2_with fail
  go_ret
  exact ⟨rfl, HB.out⟩
theorem isPow (w : World) : Calls Tryz.prog 323 #[.int .i64 16] w fun e w' => e = .returned (.bool true) ∧ w = w' := by
  go_enter Tryz.func323, Tryz.ntmps323
  go_wp2_with fail
  go_ret
  exact ⟨rfl, rfl⟩

/-- the row of 65 bytes whose last ones are t -/
def fbRow (k : Nat) (t : P.B) : Array Value := (List.replicate (65 - k) (Value.int .u8 0) ++ t.map (fun c => Value.int .u8 (c.toNat : Int))).toArray
theorem fbRow_set {k : Nat} {t : P.B} (hk : k < 65) (c : UInt8) : (fbRow k t).setIfInBounds (64 - k) (.int .u8 (c.toNat : Int)) = fbRow (k + 1) (c :: t) := by
  unfold fbRow
  have e : 65 - k = (65 - (k + 1)) + 1 := by omega
  have e2 : 64 - k = 65 - (k + 1) := by omega
  apply Array.toList_inj.1
  rw [Array.toList_setIfInBounds]
  simp only [List.map_cons]
  rw [e, List.replicate_succ', List.append_assoc, e2, List.set_append_right _ _ (by simp)]
  simp
theorem fbRow_size {k : Nat} {t : P.B} (hk : k ≤ 65) (ht : t.length = k) : (fbRow k t).size = 65 := by unfold fbRow; simp; omega

theorem fbRow_get {k : Nat} {t : P.B} {j : Nat} (hj : j < 65 - k) : (fbRow k t)[j]? = some (.int .u8 0) := by
  unfold fbRow
  rw [List.getElem?_toArray, List.getElem?_append_left (by simpa using hj)]
  simp [hj]
def digs : ByteArray := ⟨#[48, 49, 50, 51, 52, 53, 54, 55, 56, 57, 97, 98, 99, 100, 101, 102, 103, 104, 105, 106, 107, 108, 109, 110, 111, 112, 113, 114, 115, 116, 117, 118, 119, 120, 121, 122]⟩
theorem digs_get {d : Nat} (h : d < 16) (h' : d < digs.size) : digs[d] = P.hexC d := by
  have : d = 0 ∨ d = 1 ∨ d = 2 ∨ d = 3 ∨ d = 4 ∨ d = 5 ∨ d = 6 ∨ d = 7 ∨ d = 8 ∨ d = 9 ∨ d = 10 ∨ d = 11 ∨ d = 12 ∨ d = 13 ∨ d = 14 ∨ d = 15 := by omega
  rcases this with rfl | rfl | rfl | rfl | rfl | rfl | rfl | rfl | rfl | rfl | rfl | rfl | rfl | rfl | rfl | rfl <;> rfl
theorem fbRow_bytes {W : World} {b k : Nat} {t : P.B} (h : HasRow W b (fbRow k t)) (_ht : t.length = k) (_hk : k ≤ 65) : Lib.Bytes W b (65 - k) (P.txt t) := by
  intro i hi
  rw [P.txt_size] at hi
  rw [h.cell (65 - k + i)]
  unfold fbRow
  rw [List.getElem?_toArray, List.getElem?_append_right (by simp)]
  have e : (P.txt t)[i]'(by rw [P.txt_size]; exact hi) = t[i] := by
    rw [ByteArray.getElem_eq_getElem_data]; simp [P.txt]
  rw [e]
  simp [hi]

theorem run_slice65 (W : World) (b j : Nat) (h1 : 1 ≤ j) (h2 : j ≤ 65) :
    (Instr.sliceAt 318 (.pointer (some ⟨b, 0, none⟩)) (some (.int .i64 ((j : Int) - 1))) none none).run Tryz.prog W = .ok (.slice (some ⟨b, j - 1, none⟩) (66 - j) (66 - j)) W := by
  have hl : Tryz.prog.arrayLen 318 = 65 := by simp [Program.arrayLen, Tryz.underlying318]
  have he : Tryz.prog.elem 318 = 5 := by simp [Program.elem, Tryz.underlying318]
  rw [run_sliceAt_array_l W 318 ⟨b, 0, none⟩ (by rw [hl, he]; exact Tryz.underlying318) .i64 ((j : Int) - 1) (by omega) (by rw [hl]; omega), hl, he, Tryz.sizeOf5]
  show Result.ok (slicedAt _ _ _ _ _) W = _
  unfold slicedAt
  rw [if_neg (by omega)]
  have e : ((j : Int) - 1).toNat = j - 1 := by omega
  rw [e]
  simp [Addr.add]
  omega

set_option maxRecDepth 100000 in
set_option maxHeartbeats 4000000 in
theorem formatBits_any (n : Nat) (hn : n < 18446744073709551616) (w : World) (hT : Tz w) (hw : Good w) :
    Calls Tryz.prog 273 #[.slice none 0 0, .int .u64 n, .int .i64 16, .bool false, .bool false] w fun e w' => e = .returned (.tuple #[.slice none 0 0, .string (P.txt (P.hex n))]) ∧ Below w.heap.size w w' := by
  have HP := Lib.hid isPow
  have HT := Lib.hid (fun W (h : Below w.heap.size w W) => tz W (hT.mono hw h))
  clear hT hw
  go_enter Tryz.func273, Tryz.ntmps273
  go_wp2_with fail
  refine (HP.out _).mono ?_
  rintro e w' ⟨rfl, rfl⟩
  go_wp2_with fail
  refine (HT.out _ (below_alloc _ _)).mono ?_
  rintro e w2 ⟨rfl, hb⟩
  go_wp2_with fail
  have HR := Lib.hid ((show HasRow (w.alloc (.cells (fbRow 0 []) 318)) w.heap.size (fbRow 0 []) from HasRow.new _ _ _).below hb)
  have HB := Lib.hid (bstep (below_alloc _ _) hb)
  have HN := Lib.hid (P.HexSt.start hn)
  clear hb HT HP
  go_loopw [1, 13] (fun u i wr => ∃ (m j : Nat) (t : P.B), u = .int .u64 m ∧ i = .int .i64 j ∧ 50 ≤ j ∧ j ≤ 65 ∧ m < 18446744073709551616 ∧ Hid (P.HexSt n (65 - j) m t) ∧ Hid (HasRow wr w.heap.size (fbRow (65 - j) t)) ∧ Hid (Below w.heap.size w wr)) (fun u _ _ => (RowKit.intOf u).toNat)
  case atStart => exact ⟨n, 65, [], rfl, rfl, by omega, by omega, hn, HN, HR, HB⟩
  case round =>
    obtain ⟨m, j, t, rfl, rfl, hj1, hj2, hm, HS, HR, HB⟩ := hrel
    have c0 : wr.cell? ⟨w.heap.size, j - 1, none⟩ = some (.int .u8 0) := (HR.out.cell (j - 1)).trans (fbRow_get (by omega))
    have f0 := HR.out.free (j - 1)
    by_cases hlt : 16 ≤ m
    · have hand := P.and15 m hm
      have HS2 : Hid (P.HexSt n (65 - (j - 1)) (m / 16) (P.hexC (m % 16) :: t) ∧ 51 ≤ j) := Lib.hid (by
        have h := HS.out.step hlt
        rw [show 65 - j + 1 = 65 - (j - 1) by omega] at h
        exact ⟨h.1, by omega⟩)
      have HR2 : Hid (∀ c : UInt8, HasRow (wr.setCell ⟨w.heap.size, j - 1, none⟩ (.int .u8 (c.toNat : Int))) w.heap.size (fbRow (65 - (j - 1)) (c :: t))) := Lib.hid (fun c => by
        have h := HR.out.set (j - 1) (.int .u8 (c.toNat : Int)) (by have := fbRow_size (t := t) (k := 65 - j) (by omega) (by have := HS.out.2.1; omega); omega)
        rw [show j - 1 = 64 - (65 - j) by omega, fbRow_set (by omega) c] at h
        rw [show 65 - (j - 1) = 65 - j + 1 by omega, show j - 1 = 64 - (65 - j) by omega]
        exact h)
      go_wp2_with fail
      go_roundw
      case rel =>
        refine ⟨m / 16, j - 1, P.hexC (m % 16) :: t, by go_num, ?_, by have := HS2.out.2; omega, by omega, by omega, Lib.hid HS2.out.1, Lib.hid ?_, Lib.hid (HB.out.setCell (p := ⟨w.heap.size, j - 1, none⟩) (Nat.le_refl _) _)⟩
        · congr 1; omega
        · have hx := digs_get (d := m % 16) (by omega) (by show _ < 36; omega)
          rw [← hx]
          exact HR2.out _
      case measure => simp [RowKit.intOf]; omega
    · have hm16 : m < 16 := by omega
      have hm36 : m < digs.size := by show m < 36; omega
      have hrow := HR.out.set (j - 1) (.int .u8 (digs[m].toNat : Int)) (by have := fbRow_size (t := t) (k := 65 - j) (by omega) (by have := HS.out.2.1; omega); omega)
      rw [show j - 1 = 64 - (65 - j) by omega, fbRow_set (by omega) digs[m], show 64 - (65 - j) = j - 1 by omega, digs_get hm16] at hrow
      have hlen : (P.hexC m :: t).length = 65 - j + 1 := by have := HS.out.2.1; simp [this]
      have hby := fbRow_bytes hrow hlen (by omega)
      have hcv := Lib.run_convert_whole (P := Tryz.prog) _ 111 5 9 Tryz.underlying111 Tryz.underlying5 Tryz.underlying9 w.heap.size _ _ hby (66 - j)
      rw [P.txt_size, hlen, show 65 - j + 1 = 66 - j by omega, show 65 - (66 - j) = j - 1 by omega, ← HS.out.done hm16, ← digs_get hm16 hm36] at hcv
      delta digs at hcv
      have hsl := fun W => run_slice65 W w.heap.size j (by omega) hj2
      clear hrow hlen hby
      have HC := Lib.hid hcv
      clear hcv
      go_wp2_with fail
      erw [HC.out]
      go_wp2_with fail
      go_ret2
      exact ⟨rfl, HB.out.setCell (p := ⟨w.heap.size, j - 1, none⟩) (Nat.le_refl _) _⟩

theorem formatUint_in (n : Nat) (hn : n < 18446744073709551616) (w : World) (hT : Tz w) (hw : Good w) :
    Calls Tryz.prog 224 #[.int .u64 n, .int .i64 16] w fun e w' => e = .returned (.string (P.txt (P.hex n))) ∧ Below w.heap.size w w' := by
  have H := Lib.hid (formatBits_any n hn w hT hw)
  go_enter Tryz.func224, Tryz.ntmps224
  go_wp2_with fail
  refine H.out.mono ?_
  rintro e w' ⟨rfl, hb⟩
  have HB := Lib.hid hb
  clear hb
  go_wp2_with fail
  go_ret
  exact ⟨rfl, HB.out⟩
theorem formatUint_any (n : Nat) (hn : n < 18446744073709551616) (w : World) (hT : Tz w) (hw : Good w) :
    Calls Tryz.prog 142 #[.int .u64 n, .int .i64 16] w fun e w' => e = .returned (.string (P.txt (P.hex n))) ∧ Below w.heap.size w w' := by
  have H := Lib.hid (formatUint_in n hn w hT hw)
  go_enter Tryz.func142, Tryz.ntmps142
  go_wp2_with fail
  refine H.out.mono ?_
  rintro e w' ⟨rfl, hb⟩
  have HB := Lib.hid hb
  clear hb
  go_wp2_with fail
  go_ret
  exact ⟨rfl, HB.out⟩
theorem repeat_any (l : P.B) (hl : l.length ≤ 16) (w : World) :
    Calls Tryz.prog 143 #[.string ⟨#[48]⟩, .int .i64 (16 - ((P.txt l).size : Int))] w fun e w' => e = .returned (.string (P.txt (Lib.repeatL [48] (16 - l.length)))) ∧ Below w.heap.size w w' := by
  have h := Tryz.strings_Repeat ⟨#[48]⟩ (16 - l.length) w (by omega) (by show 1 * _ ≤ _; omega)
  rw [P.txt_size, show (16 : Int) - (l.length : Int) = ((16 - l.length : Nat) : Int) by omega]
  exact h
theorem fnv_walk (h : Nat) (c : UInt8) (hh : h < 18446744073709551616) : IntKind.u64.wrap (bits .xor .u64 (h : Int) (IntKind.u64.wrap (c.toNat : Int)) * 1099511628211) = ((P.fnvStep h c : Nat) : Int) := by
  rw [show IntKind.u64.wrap (c.toNat : Int) = (c.toNat : Int) by rw [IntKind.wrap_u64]; have := c.toNat_lt; omega, bits_xor_u64_nat h c.toNat hh (by have := c.toNat_lt; omega), IntKind.wrap_u64]
  unfold P.fnvStep
  rw [Int.natCast_emod, Int.natCast_mul]
  rfl

set_option maxHeartbeats 1000000 in
theorem dsumOf_any (s : ByteArray) (hs : s.size ≤ 4294967280) (w : World) (hT : Tz w) (hw : Good w) :
    Calls Tryz.prog 51 #[.string s] w fun e w' => e = .returned (.string (P.sumOf s)) ∧ Below w.heap.size w w' := by
  have HF := Lib.hid (formatUint_any (P.fnv s.data.toList) (P.fnv_lt _) w hT hw)
  have HR := Lib.hid (fun W => repeat_any (P.hex (P.fnv s.data.toList)) (P.hex_le _) W)
  have HE : Hid (P.txt (Lib.repeatL [48] (16 - (P.hex (P.fnv s.data.toList)).length)) ++ P.txt (P.hex (P.fnv s.data.toList)) = P.sumOf s) := Lib.hid (P.txt_eq (by rw [ByteArray.data_append, Array.toList_append, P.txt_list, P.txt_list]; rfl))
  have hD : (P.txt (P.hex (P.fnv s.data.toList))).size ≤ 16 := by rw [P.txt_size]; exact P.hex_le _
  have hZ : (P.txt (Lib.repeatL [48] (16 - (P.hex (P.fnv s.data.toList)).length))).size ≤ 16 := by rw [P.txt_size, Lib.repeatL_length]; simp
  generalize P.txt (Lib.repeatL [48] (16 - (P.hex (P.fnv s.data.toList)).length)) = Z at *
  generalize P.txt (P.hex (P.fnv s.data.toList)) = D at *
  have hl := P.size_len s
  clear hT hw
  go_enter Tryz.func51, Tryz.ntmps51
  go_wp2_with fail
  go_loop [3, 8] (fun h i => ∃ k : Nat, k ≤ s.size ∧ i = .int .i64 k ∧ Hid (h = .int .u64 (P.fnv (s.data.toList.take k)))) (fun _ i => s.size - (RowKit.intOf i).toNat)
  case atStart => exact ⟨0, Nat.zero_le _, rfl, Lib.hid (P.fnv_start _)⟩
  case round =>
    obtain ⟨k, hk, rfl, HH⟩ := hrel
    have hh := HH.out
    clear HH
    subst hh
    by_cases hlt : k < s.size
    · have hlt2 : k < s.data.toList.length := by omega
      have hst := fnv_walk (P.fnv (s.data.toList.take k)) s[k] (P.fnv_lt _)
      have hsn := P.fnv_snoc s.data.toList k hlt2
      have hg : s.data.toList[k] = s[k] := by rw [ByteArray.getElem_eq_getElem_data, Array.getElem_toList]
      rw [hg] at hsn
      rw [← hsn] at hst
      have HS := Lib.hid hst
      clear hst hsn hg
      generalize P.fnv (s.data.toList.take k) = h0 at *
      generalize hh1 : P.fnv (s.data.toList.take (k + 1)) = h1 at *
      have HE1 := Lib.hid hh1
      clear hh1
      have hst := HS.out
      go_wp2_with fail
      go_round
      case rel => exact ⟨k + 1, by omega, by go_num, Lib.hid (by rw [HE1.out])⟩
      case measure => simp [RowKit.intOf]; omega
    · have hkl : k = s.size := by omega
      subst hkl
      rw [List.take_of_length_le (by omega)]
      go_wp2_with fail
      refine HF.out.mono ?_
      rintro e w' ⟨rfl, hb⟩
      have HB := Lib.hid hb
      clear hb
      go_wp2_with fail
      refine (HR.out _).mono ?_
      rintro e w2 ⟨rfl, hb⟩
      have HB2 := Lib.hid (bstep HB.out hb)
      clear hb
      go_wp2_with fail
      go_ret
      exact ⟨by rw [HE.out]; rfl, HB2.out⟩

set_option maxHeartbeats 1000000 in
theorem rsumOf_any (s : ByteArray) (hs : s.size ≤ 4294967280) (w : World) (hT : Tz w) (hw : Good w) :
    Calls Tryz.prog 52 #[.string s] w fun e w' => e = .returned (.string (P.sumOf s)) ∧ Below w.heap.size w w' := by
  have HF := Lib.hid (formatUint_any (P.fnv s.data.toList) (P.fnv_lt _) w hT hw)
  have HR := Lib.hid (fun W => repeat_any (P.hex (P.fnv s.data.toList)) (P.hex_le _) W)
  have HE : Hid (P.txt (Lib.repeatL [48] (16 - (P.hex (P.fnv s.data.toList)).length)) ++ P.txt (P.hex (P.fnv s.data.toList)) = P.sumOf s) := Lib.hid (P.txt_eq (by rw [ByteArray.data_append, Array.toList_append, P.txt_list, P.txt_list]; rfl))
  have hD : (P.txt (P.hex (P.fnv s.data.toList))).size ≤ 16 := by rw [P.txt_size]; exact P.hex_le _
  have hZ : (P.txt (Lib.repeatL [48] (16 - (P.hex (P.fnv s.data.toList)).length))).size ≤ 16 := by rw [P.txt_size, Lib.repeatL_length]; simp
  generalize P.txt (Lib.repeatL [48] (16 - (P.hex (P.fnv s.data.toList)).length)) = Z at *
  generalize P.txt (P.hex (P.fnv s.data.toList)) = D at *
  have hl := P.size_len s
  clear hT hw
  go_enter Tryz.func52, Tryz.ntmps52
  go_wp2_with fail
  go_loop [3, 8] (fun h i => ∃ k : Nat, k ≤ s.size ∧ i = .int .i64 k ∧ Hid (h = .int .u64 (P.fnv (s.data.toList.take k)))) (fun _ i => s.size - (RowKit.intOf i).toNat)
  case atStart => exact ⟨0, Nat.zero_le _, rfl, Lib.hid (P.fnv_start _)⟩
  case round =>
    obtain ⟨k, hk, rfl, HH⟩ := hrel
    have hh := HH.out
    clear HH
    subst hh
    by_cases hlt : k < s.size
    · have hlt2 : k < s.data.toList.length := by omega
      have hst := fnv_walk (P.fnv (s.data.toList.take k)) s[k] (P.fnv_lt _)
      have hsn := P.fnv_snoc s.data.toList k hlt2
      have hg : s.data.toList[k] = s[k] := by rw [ByteArray.getElem_eq_getElem_data, Array.getElem_toList]
      rw [hg] at hsn
      rw [← hsn] at hst
      have HS := Lib.hid hst
      clear hst hsn hg
      generalize P.fnv (s.data.toList.take k) = h0 at *
      generalize hh1 : P.fnv (s.data.toList.take (k + 1)) = h1 at *
      have HE1 := Lib.hid hh1
      clear hh1
      have hst := HS.out
      go_wp2_with fail
      go_round
      case rel => exact ⟨k + 1, by omega, by go_num, Lib.hid (by rw [HE1.out])⟩
      case measure => simp [RowKit.intOf]; omega
    · have hkl : k = s.size := by omega
      subst hkl
      rw [List.take_of_length_le (by omega)]
      go_wp2_with fail
      refine HF.out.mono ?_
      rintro e w' ⟨rfl, hb⟩
      have HB := Lib.hid hb
      clear hb
      go_wp2_with fail
      refine (HR.out _).mono ?_
      rintro e w2 ⟨rfl, hb⟩
      have HB2 := Lib.hid (bstep HB.out hb)
      clear hb
      go_wp2_with fail
      go_ret
      exact ⟨by rw [HE.out]; rfl, HB2.out⟩
end Go.Proofs.YtomikcemiacjmaaGreatDoor
