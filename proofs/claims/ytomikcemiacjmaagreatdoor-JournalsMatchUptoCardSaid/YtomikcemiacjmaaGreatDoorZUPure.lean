/- Plain functions: what is read back out of quoted texts. No program stands here. -/
/- Walks: internal/strconv.ParseUint and strconv.ParseUint of at most two bytes, to the base 16, into 8 bits. -/
/- Walks: strconv.ParseUint of two bytes to the base 16; disk's unquoteByte. -/
/- Walks: disk's unquoteByte. -/
/- Walks: disk's Unquote. -/
/- Walks: disk's Unquote of whatever text. -/
/- Plain: what the reference reads a quoted text as. -/
/- A region that draws its order, whose operations but the last few only read: one walk, in the order of the text. Of no program. -/
/- Walks: outref1's Unquote of whatever text. -/
/- Walks: disk's isWord, isFlag, readPair. -/
/- Plain: a service that is read. -/
/- The machine that is being read: where it lies; what an append to one of its lists leaves. -/
/- Walks: disk's readThing: a line of a fact. -/
import Derived.Test.YtomikcemiacjmaaGreatDoorZTPure
import Derived.Lib.Strings
import Derived.Test.YtomikcemiacjmaaGreatDoorZUShelf
import Derived.Lib.ConvBytes
import Derived.Lib.AtoiAllMem
import Derived.BigCall
import Derived.BigGuard
import Derived.Test.YtomikcemiacjmaaGreatDoorZTQuote
import Derived.Lib.IndexBytes
import Derived.StillTail
import Derived.BigQuiet
import Derived.WalkKit
import Derived.Test.YtomikcemiacjmaaGreatDoorZMWFit
import Derived.Lib.Split
import Derived.Test.YtomikcemiacjmaaGreatDoorZMWMach
import Derived.Deep.RegionLaw

namespace Go.Proofs.YtomikcemiacjmaaGreatDoor
namespace P
/-- the value of a digit to the base 16, small or great -/
def lowI (c : UInt8) : Int := bits .or .u8 (c.toNat : Int) 32
def hexV (c : UInt8) : Option Nat := if 48 ≤ c.toNat ∧ c.toNat ≤ 57 then some (c.toNat - 48) else if 97 ≤ lowI c ∧ lowI c ≤ 102 then some (lowI c - 87).toNat else none
def hexN : Nat → B → Option Nat
  | a, [] => some a
  | a, c :: l => match hexV c with
    | some d => hexN (a * 16 + d) l
    | none => none
theorem hexN_cons (a : Nat) (c : UInt8) (l : B) : hexN a (c :: l) = match hexV c with | some d => hexN (a * 16 + d) l | none => none := rfl
theorem hexN_dig {a : Nat} {c : UInt8} {l : B} (h : 48 ≤ c.toNat ∧ c.toNat ≤ 57) : hexN a (c :: l) = hexN (a * 16 + (c.toNat - 48)) l := by
  rw [hexN_cons, hexV, if_pos h]
theorem hexN_let {a : Nat} {c : UInt8} {l : B} (h : ¬ (48 ≤ c.toNat ∧ c.toNat ≤ 57)) (h2 : 97 ≤ lowI c ∧ lowI c ≤ 102) : hexN a (c :: l) = hexN (a * 16 + (lowI c - 87).toNat) l := by
  rw [hexN_cons, hexV, if_neg h, if_pos h2]
theorem hexN_no {a : Nat} {c : UInt8} {l : B} (h : ¬ (48 ≤ c.toNat ∧ c.toNat ≤ 57)) (h2 : ¬ (97 ≤ lowI c ∧ lowI c ≤ 102)) : hexN a (c :: l) = none := by
  rw [hexN_cons, hexV, if_neg h, if_neg h2]
theorem hexV_hexC : ∀ d : Fin 16, hexV (hexC d) = some d.val := by decide +kernel
theorem hexN_two {x y : Nat} (hx : x < 16) (hy : y < 16) : hexN 0 [hexC x, hexC y] = some (x * 16 + y) := by
  have h1 := hexV_hexC ⟨x, hx⟩
  have h2 := hexV_hexC ⟨y, hy⟩
  simp only at h1 h2
  simp only [hexN, h1, h2, Nat.zero_mul, Nat.zero_add]
end P
end Go.Proofs.YtomikcemiacjmaaGreatDoor

namespace Go.Proofs.YtomikcemiacjmaaGreatDoor
open Go.RowKit Go.Lib Go.Shelf

def puOut : Option Nat → Value
  | some n => .tuple #[.int .u64 n, .nilIface]
  | none => .tuple #[.int .u64 0, .iface 300 (.int .i64 2)]

set_option maxHeartbeats 4000000 in
set_option maxRecDepth 100000 in
theorem ipu_any (t : ByteArray) (hne : t.size ≠ 0) (hmax : t.size ≤ 2) (w : World) :
    Calls Tryz.prog 278 #[.string t, .int .i64 16, .int .i64 8] w fun e w' => e = .returned (puOut (P.hexN 0 t.data.toList)) ∧ Below w.heap.size w w' := by
  have hemp : t.toList.isEmpty = false := by
    rw [← decide_eq_emptyBytes]
    exact decide_eq_false (fun h => hne (by rw [h]; rfl))
  have hcv := Lib.run_convert_string_bytes (P := Tryz.prog) w 9 111 5 t (u := .string) Tryz.underlying9 Tryz.underlying111 Tryz.underlying5
  have hB : ∀ j, j < t.size → (Lib.bytesWorld w 5 t).cell? ⟨w.heap.size, j, none⟩ = some (.int .u8 (t.data.toList.getD j 0).toNat) := fun j hj => Lib.bytesWorld_cell w 5 t j hj
  have HW := Lib.hid (Lib.bytesWorld_below w 5 t)
  obtain ⟨W1, hW1⟩ : ∃ W1, W1 = Lib.bytesWorld w 5 t := ⟨_, rfl⟩
  rw [← hW1] at hcv hB HW
  clear hW1
  obtain ⟨bs, hL⟩ : ∃ bs, bs = t.data.toList := ⟨_, rfl⟩
  have hLn : bs.length = t.size := by rw [hL, Lib.size_eq]
  rw [← hL] at hB ⊢
  clear hL
  have HL := Lib.hid (fun (c : UInt8) W => Tryz.internal_strconv_lower (c.toNat : Int) W)
  go_enter Tryz.func278, Tryz.ntmps278
  go_wp2
  go_loop [12, 13, 101] (fun vu vn vi => ∃ (k acc : Nat) (a : Int), vu = .bool false ∧ vn = .int .u64 a ∧ vi = .int .i64 k ∧ k ≤ t.size ∧ Hid (a = (acc : Int) ∧ acc < 16 ^ k ∧ P.hexN 0 bs = P.hexN acc (bs.drop k)))
    (fun _ _ vi => t.size - (RowKit.intOf vi).toNat)
  case atStart => exact ⟨0, 0, 0, rfl, rfl, rfl, by omega, Lib.hid ⟨rfl, by omega, rfl⟩⟩
  case round =>
    obtain ⟨k, acc, a, rfl, rfl, rfl, hk, hh⟩ := hrel
    obtain ⟨ha, hacc, hdec⟩ := hh.out
    clear hh
    have a0 : 0 ≤ a := by omega
    by_cases hkn : k < t.size
    · have hacc' : acc < 16 := by
        have : k = 0 ∨ k = 1 := by omega
        rcases this with rfl | rfl
        · have : acc < 1 := hacc; omega
        · exact hacc
      have a1 : a < 16 := by omega
      have hpow : 16 ^ (k + 1) = 16 ^ k * 16 := Nat.pow_succ 16 k
      have hc := hB k hkn
      have hdrop : bs.drop k = bs[k]'(by omega) :: bs.drop (k + 1) := List.drop_eq_getElem_cons (by omega)
      have hget : bs.getD k 0 = bs[k]'(by omega) := by simp [List.getD, List.getElem?_eq_getElem (show k < bs.length by omega)]
      rw [hdrop] at hdec
      rw [hget] at hc
      generalize bs[k]'(by omega) = c at hc hdec
      have hc256 : c.toNat < 256 := c.toNat_lt
      clear hB hdrop hget
      by_cases hdig : 48 ≤ c.toNat ∧ c.toNat ≤ 57
      · rw [P.hexN_dig hdig] at hdec
        obtain ⟨hd0, hd1⟩ := hdig
        have HN : Hid (a * 16 + ((c.toNat : Int) - 48) = ((acc * 16 + (c.toNat - 48) : Nat) : Int) ∧ acc * 16 + (c.toNat - 48) < 16 ^ (k + 1) ∧ P.hexN 0 bs = P.hexN (acc * 16 + (c.toNat - 48)) (bs.drop (k + 1))) := Lib.hid ⟨by omega, by omega, hdec⟩
        clear hacc hdec ha hpow hacc'
        go_wp2
        refine ⟨⟨k + 1, acc * 16 + (c.toNat - 48), a * 16 + ((c.toNat : Int) - 48), rfl, (by first | rfl | (congr 1; omega)), (by first | rfl | (congr 1; omega)), by omega, HN⟩, by simp [RowKit.intOf]; omega⟩
      · have hu0 := bits_lo_u8 .or (c.toNat : Int) 32
        have hu1 := bits_hi_u8 .or (c.toNat : Int) 32
        have hv0 := bits_lo_u8 .or 95 32
        have hv1 := bits_hi_u8 .or 95 32
        have HL1 := Lib.hid (fun W => Tryz.internal_strconv_lower (c.toNat : Int) W)
        have HD1 : Hid (97 ≤ P.lowI c ∧ P.lowI c ≤ 102 → P.hexN 0 bs = P.hexN (acc * 16 + (P.lowI c - 87).toNat) (bs.drop (k + 1))) := Lib.hid fun h => by rw [hdec, P.hexN_let hdig h]
        have HD2 : Hid (¬ (97 ≤ P.lowI c ∧ P.lowI c ≤ 102) → P.hexN 0 bs = none) := Lib.hid fun h => by rw [hdec, P.hexN_no hdig h]
        unfold P.lowI at HD1 HD2
        clear HL hdec hv0 hv1
        generalize bits .or .u8 (c.toNat : Int) 32 = l at *
        have hcls : (48 ≤ c.toNat ∧ 57 < c.toNat) ∨ c.toNat < 48 := by omega
        have hlcs : l < 97 ∨ (97 ≤ l ∧ l ≤ 102) ∨ (102 < l ∧ l ≤ 122) ∨ 122 < l := by omega
        have h95 : ((c.toNat : Int) == 95) = true ∨ ((c.toNat : Int) == 95) = false := by cases ((c.toNat : Int) == 95) <;> simp
        clear hdig
        rcases hcls with ⟨hc1, hc2⟩ | hc1 <;> rcases hlcs with hl | ⟨hl, hl2⟩ | ⟨hl, hl2⟩ | hl <;> rcases h95 with g95 | g95
        all_goals first
          | (have hlet : 97 ≤ l ∧ l ≤ 102 := ⟨hl, hl2⟩
             replace HD1 := HD1.out hlet
             have HN : Hid (a * 16 + (l - 97 + 10) = ((acc * 16 + (l - 87).toNat : Nat) : Int) ∧ acc * 16 + (l - 87).toNat < 16 ^ (k + 1) ∧ P.hexN 0 bs = P.hexN (acc * 16 + (l - 87).toNat) (bs.drop (k + 1))) := Lib.hid ⟨by omega, by omega, HD1⟩
             clear hlet HD1 HD2 hacc ha hpow hacc'
             go_wp2_with (go_at_call 326; refine (HL1.out _).mono ?_; rintro e w' ⟨rfl, rfl⟩)
             refine ⟨⟨k + 1, acc * 16 + (l - 87).toNat, a * 16 + (l - 97 + 10), rfl, (by first | rfl | (congr 1; omega)), (by first | rfl | (congr 1; omega)), by omega, HN⟩, by simp [RowKit.intOf]; omega⟩)
          | (replace HD2 := Lib.hid (HD2.out (by omega))
             clear HD1 hacc ha hpow hacc' hu0 hu1
             go_wp2_with (go_at_call 326; refine (HL1.out _).mono ?_; rintro e w' ⟨rfl, rfl⟩)
             all_goals go_ret2
             all_goals exact ⟨by rw [HD2.out]; rfl, HW.out⟩)
    · have hkk : k = t.size := by omega
      subst hkk
      have hF : P.hexN acc (bs.drop t.size) = some acc := by rw [List.drop_eq_nil_of_le (by omega)]; rfl
      rw [hF] at hdec
      subst ha
      have HD := Lib.hid hdec
      clear hacc hF a0 hdec
      go_wp2
      go_ret2
      exact ⟨by rw [HD.out]; rfl, HW.out⟩
end Go.Proofs.YtomikcemiacjmaaGreatDoor

namespace Go.Proofs.YtomikcemiacjmaaGreatDoor
open Go.RowKit Go.Lib Go.Shelf

/-- what the library's error variable holds -/
structure Es (w : World) : Prop where
  e : ∃ ev, w.cell? ⟨2, 0, none⟩ = some ev ∧ (ev = .nilIface ∨ ∃ te pe, ev = .iface te pe)
theorem Es.mono {w w' : World} (h : Es w) (hg : Good w) (hb : Below w.heap.size w w') : Es w' :=
  ⟨let ⟨ev, h1, h2⟩ := h.e; ⟨ev, by rw [hb.cell (p := ⟨2, 0, none⟩) (by have := hg.sz; show 2 < _; omega)]; exact h1, h2⟩⟩

theorem hexN_lt (t : List UInt8) : ∀ (a : Nat) (n : Nat), P.hexN a t = some n → n < (a + 1) * 16 ^ t.length := by
  induction t with
  | nil => intro a n h; cases h; simp
  | cons c l ih =>
    intro a n h
    rw [P.hexN_cons] at h
    cases hv : P.hexV c with
    | none => rw [hv] at h; cases h
    | some d =>
      rw [hv] at h
      have hd : d < 16 := by
        unfold P.hexV at hv
        split at hv
        · cases hv; omega
        · split at hv
          · cases hv; omega
          · cases hv
      have := ih _ _ h
      rw [List.length_cons, Nat.pow_succ]
      calc n < (a * 16 + d + 1) * 16 ^ l.length := this
        _ ≤ ((a + 1) * 16) * 16 ^ l.length := Nat.mul_le_mul_right _ (by omega)
        _ = (a + 1) * (16 ^ l.length * 16) := by rw [Nat.mul_assoc, Nat.mul_comm 16]

theorem pu_ok (t : ByteArray) (hne : t.size ≠ 0) (hmax : t.size ≤ 2) (n : Nat) (hn : P.hexN 0 t.data.toList = some n) (w : World) :
    Calls Tryz.prog 230 #[.string t, .int .i64 16, .int .i64 8] w fun e w' => e = .returned (.tuple #[.int .u64 n, .nilIface]) ∧ Below w.heap.size w w' := by
  have H := ipu_any t hne hmax w
  rw [hn] at H
  replace H := Lib.hid H
  unfold puOut at H
  simp only at H
  go_enter Tryz.func230, Tryz.ntmps230
  go_wp2_with (go_at_call 278; refine H.out.mono ?_; rintro e w' ⟨rfl, hb1⟩)
  go_ret2
  exact ⟨rfl, hb1⟩
theorem pu_no (t : ByteArray) (hne : t.size ≠ 0) (hmax : t.size ≤ 2) (hn : P.hexN 0 t.data.toList = none) (w : World) (hw : Good w) (he : Es w) :
    Calls Tryz.prog 230 #[.string t, .int .i64 16, .int .i64 8] w fun e w' => (∃ N, e = .returned (.tuple #[.int .u64 0, .iface 303 (.pointer (some ⟨N, 0, none⟩))])) ∧ Below w.heap.size w w' := by
  have H := ipu_any t hne hmax w
  rw [hn] at H
  replace H := Lib.hid H
  unfold puOut at H
  simp only at H
  have HE := Lib.hid he
  have Hw := Lib.hid hw
  clear hw he
  go_enter Tryz.func230, Tryz.ntmps230
  go_wp2_with (go_at_call 278; refine H.out.mono ?_; rintro e w1 ⟨rfl, hb1⟩)
  obtain ⟨ev, h1, h2⟩ := (HE.out.mono Hw.out hb1).e
  have HT := Lib.hid (fun fn => Tryz.strconv_toError_syntax fn t 16 8 ev w1 (by omega) h1 h2)
  clear h1 h2
  go_wp2_with (go_at_call 246; refine (HT.out _).mono ?_; rintro e w2 ⟨N, rfl, _, _, hb2⟩)
  have HB := Lib.hid (bstep hb1 hb2)
  go_ret2
  exact ⟨⟨N, rfl⟩, HB.out⟩
end Go.Proofs.YtomikcemiacjmaaGreatDoor

namespace Go.Proofs.YtomikcemiacjmaaGreatDoor
open Go.RowKit Go.Lib Go.Shelf

namespace P
def hexTwo : B → Option Nat
  | x :: y :: _ => hexN 0 [x, y]
  | _ => none
/-- the first byte of what stands in quotes, and how long it is there -/
def unqB : B → UInt8 × Nat
  | [] => (0, 1)
  | [c] => (c, 1)
  | c :: d :: l =>
    if c.toNat ≠ 92 then (c, 1) else if d.toNat = 110 then (10, 2) else if d.toNat = 120 then
      (match hexTwo l with
      | some n => (UInt8.ofNat n, 4)
      | none => (c, 1))
    else (d, 2)
theorem unqB_two (c d : UInt8) (l : B) : unqB (c :: d :: l) = if c.toNat ≠ 92 then (c, 1) else if d.toNat = 110 then (10, 2) else if d.toNat = 120 then
      (match hexTwo l with
      | some n => (UInt8.ofNat n, 4)
      | none => (c, 1))
    else (d, 2) := rfl
theorem drop_get (s : ByteArray) (k : Nat) (h : k < s.size) : s.data.toList.drop k = s[k] :: s.data.toList.drop (k + 1) := by
  rw [List.drop_eq_getElem_cons (by rw [size_len]; exact h)]
  congr 1
theorem two_get (s : ByteArray) (h : 1 < s.size) : s.data.toList = s[0] :: s[1] :: s.data.toList.drop 2 := by
  rw [← drop_get s 1 h, ← drop_get s 0 (by omega)]; rfl
theorem unqB_one (s : ByteArray) (h : 0 < s.size) (h1 : s.size = 1) : unqB s.data.toList = (s[0], 1) := by
  have e := drop_get s 0 h
  rw [show s.data.toList.drop 0 = s.data.toList from rfl, List.drop_eq_nil_of_le (by rw [size_len]; omega)] at e
  rw [e]; rfl
theorem unqB_plain (s : ByteArray) (h : 0 < s.size) (h1 : s[0].toNat ≠ 92) : unqB s.data.toList = (s[0], 1) := by
  by_cases h2 : s.size = 1
  · exact unqB_one s h h2
  · rw [two_get s (by omega), unqB_two, if_pos h1]
theorem unqB_nl (s : ByteArray) (h : 1 < s.size) (h1 : s[0].toNat = 92) (h2 : s[1].toNat = 110) : unqB s.data.toList = (10, 2) := by
  rw [two_get s h, unqB_two, if_neg (by omega), if_pos h2]
theorem unqB_esc (s : ByteArray) (h : 1 < s.size) (h1 : s[0].toNat = 92) (h2 : s[1].toNat ≠ 110) (h3 : s[1].toNat ≠ 120) : unqB s.data.toList = (s[1], 2) := by
  rw [two_get s h, unqB_two, if_neg (by omega), if_neg h2, if_neg h3]
theorem unqB_short (s : ByteArray) (h : 1 < s.size) (h1 : s[0].toNat = 92) (h3 : s[1].toNat = 120) (h4 : s.size < 4) : unqB s.data.toList = (s[0], 1) := by
  rw [two_get s h, unqB_two, if_neg (by omega), if_neg (by omega), if_pos h3]
  have hl : (s.data.toList.drop 2).length < 2 := by rw [List.length_drop, size_len]; omega
  have hx : hexTwo (s.data.toList.drop 2) = none := by
    generalize s.data.toList.drop 2 = l at *
    match l, hl with
    | [], _ => rfl
    | [x], _ => rfl
  rw [hx]
theorem ext_two (s : ByteArray) (h : 4 ≤ s.size) : (s.extract 2 4).data.toList = [s[2], s[3]] := by
  have e : (s.extract 2 4).data.toList = (s.data.toList.drop 2).take 2 := by
    rw [ByteArray.data_extract, Array.toList_extract]
  rw [e, drop_get s 2 (by omega), drop_get s 3 (by omega)]; rfl
theorem unqB_hex (s : ByteArray) (h : 4 ≤ s.size) (h1 : s[0].toNat = 92) (h3 : s[1].toNat = 120) (n : Nat) (hn : hexN 0 (s.extract 2 4).data.toList = some n) : unqB s.data.toList = (UInt8.ofNat n, 4) := by
  rw [two_get s (by omega), unqB_two, if_neg (by omega), if_neg (by omega), if_pos h3, drop_get s 2 (by omega), drop_get s 3 (by omega)]
  rw [ext_two s h] at hn
  rw [show hexTwo (s[2] :: s[3] :: s.data.toList.drop (3 + 1)) = some n from hn]
theorem unqB_bad (s : ByteArray) (h : 4 ≤ s.size) (h1 : s[0].toNat = 92) (h3 : s[1].toNat = 120) (hn : hexN 0 (s.extract 2 4).data.toList = none) : unqB s.data.toList = (s[0], 1) := by
  rw [two_get s (by omega), unqB_two, if_neg (by omega), if_neg (by omega), if_pos h3, drop_get s 2 (by omega), drop_get s 3 (by omega)]
  rw [ext_two s h] at hn
  rw [show hexTwo (s[2] :: s[3] :: s.data.toList.drop (3 + 1)) = none from hn]
end P
def unqOut (x : UInt8 × Nat) : Value := .tuple #[.int .u8 (x.1.toNat : Int), .int .i64 (x.2 : Int)]

set_option maxHeartbeats 2000000 in
theorem unqB_any (s : ByteArray) (h0 : 0 < s.size) (w : World) (hw : Good w) (he : Es w) :
    Calls Tryz.prog 148 #[.string s] w fun e w' => e = .returned (unqOut (P.unqB s.data.toList)) ∧ Below w.heap.size w w' := by
  have i0 : (0 : Int) < (s.size : Int) := by omega
  by_cases h92 : s[0].toNat = 92
  · have g1 : ((s[0].toNat : Int) != 92) = false := by simp [h92]
    by_cases h1 : s.size = 1
    · have hr := Lib.hid (P.unqB_one s h0 h1)
      have g2 : ((s.size : Int) == 1) = true := by simp [h1]
      clear h1 h92 he hw
      go_enter Tryz.func148, Tryz.ntmps148
      go_wp2_with fail
      go_ret2
      exact ⟨by rw [hr.out]; rfl, Below.refl _ _⟩
    · have g2 : ((s.size : Int) == 1) = false := by simp; omega
      have i1 : (1 : Int) < (s.size : Int) := by omega
      by_cases h110 : s[1].toNat = 110
      · have hr := Lib.hid (P.unqB_nl s (by omega) h92 h110)
        have g3 : ((s[1].toNat : Int) == 110) = true := by simp [h110]
        clear h1 h92 he hw h110
        go_enter Tryz.func148, Tryz.ntmps148
        go_wp2_with fail
        go_ret2
        exact ⟨by rw [hr.out]; rfl, Below.refl _ _⟩
      · have g3 : ((s[1].toNat : Int) == 110) = false := by simp; omega
        by_cases h120 : s[1].toNat = 120
        · have g4 : ((s[1].toNat : Int) == 120) = true := by simp [h120]
          by_cases h4 : s.size < 4
          · have hr := Lib.hid (P.unqB_short s (by omega) h92 h120 h4)
            have i4 : (s.size : Int) < 4 := by omega
            clear h1 h92 he hw h110 h120
            go_enter Tryz.func148, Tryz.ntmps148
            go_wp2_with fail
            go_ret2
            exact ⟨by rw [hr.out]; rfl, Below.refl _ _⟩
          · have i4 : (4 : Int) ≤ (s.size : Int) := by omega
            have hz : (s.extract 2 4).size = 2 := by rw [ByteArray.size_extract]; omega
            cases hn : P.hexN 0 (s.extract 2 4).data.toList with
            | some n =>
              have hr := Lib.hid (P.unqB_hex s (by omega) h92 h120 n hn)
              have H := Lib.hid (fun W => pu_ok (s.extract 2 4) (by omega) (by omega) n hn W)
              have hlt : n < 256 := by have := hexN_lt _ _ _ hn; rw [P.size_len, hz] at this; omega
              have hu : IntKind.u8.wrap (n : Int) = (n : Int) := by rw [IntKind.wrap_u8]; omega
              have hu2 := Lib.hid (show (UInt8.ofNat n).toNat = n by rw [UInt8.toNat_ofNat']; omega)
              clear h1 h92 he hw h110 h120 hn hz
              go_enter Tryz.func148, Tryz.ntmps148
              go_wp2_with (go_at_call 230; refine (H.out _).mono ?_; rintro e w1 ⟨rfl, hb1⟩)
              go_ret2
              exact ⟨by rw [hr.out]; unfold unqOut; simp only; rw [hu2.out]; rfl, hb1⟩
            | none =>
              have hr := Lib.hid (P.unqB_bad s (by omega) h92 h120 hn)
              have H := Lib.hid (fun W hw he => pu_no (s.extract 2 4) (by omega) (by omega) hn W hw he)
              have HE := Lib.hid he
              have Hw := Lib.hid hw
              clear h1 h92 he hw h110 h120 hn hz
              go_enter Tryz.func148, Tryz.ntmps148
              go_wp2_with (go_at_call 230; refine (H.out _ Hw.out HE.out).mono ?_; rintro e w1 ⟨⟨N, rfl⟩, hb1⟩)
              go_ret2
              exact ⟨by rw [hr.out]; rfl, hb1⟩
        · have hr := Lib.hid (P.unqB_esc s (by omega) h92 h110 h120)
          have g4 : ((s[1].toNat : Int) == 120) = false := by simp; omega
          clear h1 h92 he hw h110 h120
          go_enter Tryz.func148, Tryz.ntmps148
          go_wp2_with fail
          go_ret2
          exact ⟨by rw [hr.out]; rfl, Below.refl _ _⟩
  · have hr := Lib.hid (P.unqB_plain s h0 h92)
    have g1 : ((s[0].toNat : Int) != 92) = true := by simp; omega
    clear h92 he hw
    go_enter Tryz.func148, Tryz.ntmps148
    go_wp2_with fail
    go_ret2
    exact ⟨by rw [hr.out]; rfl, Below.refl _ _⟩
end Go.Proofs.YtomikcemiacjmaaGreatDoor

namespace Go.Proofs.YtomikcemiacjmaaGreatDoor
open Go.RowKit Go.Lib Go.Shelf

namespace P
theorem unqB_le {l : B} (h : l ≠ []) : 1 ≤ (unqB l).2 ∧ (unqB l).2 ≤ l.length := by
  match l, h with
  | [c], _ => simp [unqB]
  | c :: d :: l, _ =>
    rw [unqB_two]
    simp only [List.length_cons]
    split
    · simp
    · split
      · simp
      · split
        · split
          · rename_i n hn
            match l, hn with
            | x :: y :: l', _ => simp
          · simp
        · simp
def unqF : Nat → B → B
  | 0, _ => []
  | n + 1, l => if l = [] then [] else (unqB l).1 :: unqF n (l.drop (unqB l).2)
theorem unqF_more : ∀ (n m : Nat) (l : B), l.length ≤ n → l.length ≤ m → unqF n l = unqF m l
  | 0, m, l, h, _ => by
    obtain rfl : l = [] := List.length_eq_zero_iff.1 (by omega)
    cases m <;> simp [unqF]
  | n + 1, 0, l, _, h => by
    obtain rfl : l = [] := List.length_eq_zero_iff.1 (by omega)
    simp [unqF]
  | n + 1, m + 1, l, h, h' => by
    unfold unqF
    by_cases e : l = []
    · rw [if_pos e, if_pos e]
    · have := unqB_le e
      rw [if_neg e, if_neg e, unqF_more n m _ (by rw [List.length_drop]; omega) (by rw [List.length_drop]; omega)]
/-- what a text between quotes is read as -/
def unqD (l : B) : B := unqF l.length l
theorem unqD_nil : unqD [] = [] := rfl
theorem unqD_cons {l : B} (h : l ≠ []) : unqD l = (unqB l).1 :: unqD (l.drop (unqB l).2) := by
  have h1 := unqB_le h
  have hp := List.length_pos_iff.2 h
  unfold unqD
  obtain ⟨n, hn⟩ : ∃ n, l.length = n + 1 := ⟨l.length - 1, by omega⟩
  rw [hn, unqF, if_neg h, unqF_more n _ _ (by rw [List.length_drop]; omega) (Nat.le_refl _)]
theorem unqF_len : ∀ (n : Nat) (l : B), (unqF n l).length ≤ n
  | 0, _ => by simp [unqF]
  | n + 1, l => by
    unfold unqF
    split
    · simp
    · have := unqF_len n (l.drop (unqB l).2)
      simp only [List.length_cons]; omega
theorem unqD_len (l : B) : (unqD l).length ≤ l.length := unqF_len _ l
theorem unqB_quote (c : UInt8) (l : B) : unqB (quoteB c ++ l) = (c, (quoteB c).length) := by
  have hc := c.toNat_lt
  by_cases h1 : c.toNat = 34 ∨ c.toNat = 92
  · rw [quoteB_esc h1]
    show unqB (92 :: c :: l) = _
    rw [unqB_two, if_neg (by decide), if_neg (by omega), if_neg (by omega)]; rfl
  · by_cases h2 : c.toNat = 10
    · rw [quoteB_nl h2]
      show unqB (92 :: 110 :: l) = _
      rw [unqB_two, if_neg (by decide), if_pos (by decide)]
      have : c = 10 := UInt8.toNat_inj.1 (by rw [h2]; rfl)
      subst this; rfl
    · by_cases h3 : c.toNat < 32 ∨ 126 < c.toNat
      · rw [quoteB_hex h3 h2]
        show unqB (92 :: 120 :: hexC (c.toNat / 16) :: hexC (c.toNat % 16) :: l) = _
        rw [unqB_two, if_neg (by decide), if_neg (by decide), if_pos (by decide), show hexTwo (hexC (c.toNat / 16) :: hexC (c.toNat % 16) :: l) = _ from hexN_two (by omega) (by omega)]
        simp only
        have : c.toNat / 16 * 16 + c.toNat % 16 = c.toNat := by omega
        rw [this, UInt8.ofNat_toNat]; rfl
      · rw [quoteB_plain (by omega) (by omega) (by omega) (by omega)]
        show unqB (c :: l) = _
        cases l with
        | nil => rfl
        | cons d l => rw [unqB_two, if_pos (by omega)]; rfl
theorem unqD_quote : ∀ l : B, unqD (quoteIn l) = l
  | [] => rfl
  | c :: l => by
    have hne : quoteB c ≠ [] := by
      intro h
      have := unqB_quote c []
      rw [h] at this
      have h2 := congrArg Prod.snd this
      simp [unqB] at h2
    have e : quoteIn (c :: l) = quoteB c ++ quoteIn l := by unfold quoteIn; rw [List.flatMap_cons]
    rw [e, unqD_cons (by simp [hne]), unqB_quote, List.drop_left]
    simp only [unqD_quote l]
/-- what stands between the first and the last byte -/
def inner (s : ByteArray) : ByteArray := s.extract 1 (s.size - 1)
theorem inner_quote (x : ByteArray) : (inner (quote x)).data.toList = quoteIn x.data.toList := by
  unfold inner
  rw [ByteArray.data_extract, Array.toList_extract]
  have e : (quote x).data.toList = 34 :: (quoteIn x.data.toList ++ [34]) := txt_list _
  have hz : (quote x).size = (quoteIn x.data.toList).length + 2 := by rw [← size_len, e]; simp
  rw [e, hz]
  simp [List.extract]
theorem unqD_of_quote {x s : ByteArray} (h : quote x = s) : txt (unqD (inner s).data.toList) = x := by
  subst h
  rw [inner_quote, unqD_quote, txt_self]
theorem quote_two (x : ByteArray) : 2 ≤ (quote x).size := by
  have e : (quote x).data.toList = 34 :: (quoteIn x.data.toList ++ [34]) := txt_list _
  rw [← size_len, e]; simp
open Classical in
noncomputable def unquote (s : ByteArray) : ByteArray × Int := if quote (txt (unqD (inner s).data.toList)) = s then (txt (unqD (inner s).data.toList), 0) else (⟨#[]⟩, 8)
theorem unquote_quote (x : ByteArray) : unquote (quote x) = (x, 0) := by
  have := unqD_of_quote (x := x) rfl
  unfold unquote
  rw [if_pos (by rw [this]), this]
theorem unquote_yes {s : ByteArray} (h : quote (txt (unqD (inner s).data.toList)) = s) : unquote s = (txt (unqD (inner s).data.toList), 0) := if_pos h
theorem unquote_no {s : ByteArray} (h : quote (txt (unqD (inner s).data.toList)) ≠ s) : unquote s = (⟨#[]⟩, 8) := if_neg h
theorem unquote_short {s : ByteArray} (h : s.size < 2) : unquote s = (⟨#[]⟩, 8) := if_neg fun e => by have := quote_two (txt (unqD (inner s).data.toList)); rw [e] at this; omega
end P
def unquoteOut (x : ByteArray × Int) : Value := .tuple #[.string x.1, .int .i64 x.2]
theorem own8_nil (B : Nat) (W : World) : Own8 B W (.slice none 0 0) [] := ⟨by simp [Lib.byteCells], .inl ⟨rfl, rfl⟩⟩
end Go.Proofs.YtomikcemiacjmaaGreatDoor

namespace Go.Proofs.YtomikcemiacjmaaGreatDoor
open Go.RowKit Go.Lib Go.Shelf

def strLen : Value → Nat
  | .string t => t.size
  | _ => 0
theorem drop_ext (t : ByteArray) (k : Nat) (_h : k ≤ t.size) : (t.extract k t.size).data.toList = t.data.toList.drop k := by
  rw [ByteArray.data_extract, Array.toList_extract, List.extract_eq_take_drop, List.take_of_length_le (by rw [List.length_drop, P.size_len]; exact Nat.le_refl _)]

theorem toList_ne {a b : ByteArray} (h : a ≠ b) : (a.toList == b.toList) = false := by
  rw [beq_eq_false_iff_ne, Lib.toList_data, Lib.toList_data]
  exact fun e => h (P.ba_inj e)
theorem conv_none (w : World) : (convert 111 9 (.slice none 0 0)).run Tryz.prog w = .ok (.string (P.txt [])) w := by kernel_rfl
set_option maxRecDepth 100000 in
set_option maxHeartbeats 2000000 in
theorem dunquote_any (s : ByteArray) (hs : s.size ≤ 1000000000) (w : World) (hw : Good w) (he : Es w) :
    Calls Tryz.prog 57 #[.string s] w fun e w' => e = .returned (unquoteOut (P.unquote s)) ∧ Below w.heap.size w w' := by
  by_cases h2 : s.size < 2
  · have hr := Lib.hid (P.unquote_short h2)
    have i2 : (s.size : Int) < 2 := by omega
    clear h2 he hw
    go_enter Tryz.func57, Tryz.ntmps57
    go_wp2_with fail
    go_ret2
    exact ⟨by rw [hr.out]; rfl, Below.refl _ _⟩
  · obtain ⟨i0, hi, hz0, hz1, hz2⟩ := info_parts info5
    have i2 : (2 : Int) ≤ (s.size : Int) := by omega
    have e1 : IntKind.i64.wrap ((s.size : Int) - 1) = ((s.size - 1 : Nat) : Int) := by rw [IntKind.wrap_i64]; omega
    have b0 : (1 : Int) ≤ ((s.size - 1 : Nat) : Int) := by omega
    have b1 : ((s.size - 1 : Nat) : Int) ≤ (s.size : Int) := by omega
    have HE := Lib.hid he
    have Hw := Lib.hid hw
    have HI : Hid (s.extract 1 (s.size - 1) = P.inner s ∧ (P.inner s).size ≤ s.size) := Lib.hid ⟨rfl, by unfold P.inner; rw [ByteArray.size_extract]; omega⟩
    clear he hw h2
    go_enter Tryz.func57, Tryz.ntmps57
    go_wp2_with fail
    rw [HI.out.1]
    go_loopw [4, 5] (fun q r wr => ∃ (acc : P.B) (t : ByteArray), r = .string t ∧ acc.length + t.size ≤ s.size ∧ Hid (Own8 w.heap.size wr q acc) ∧ Hid (acc = [] → q = .slice none 0 0) ∧ Hid (acc ++ P.unqD t.data.toList = P.unqD (P.inner s).data.toList) ∧ Hid (Below w.heap.size w wr)) (fun _ r _ => strLen r)
    case atStart => exact ⟨[], P.inner s, rfl, by have := HI.out.2; simpa using this, Lib.hid (own8_nil _ _), Lib.hid (fun _ => rfl), Lib.hid rfl, Lib.hid (Below.refl _ _)⟩
    case round =>
      obtain ⟨acc, t, rfl, hlen, HO, HN, HD, HB⟩ := hrel
      have HOw : Hid (∀ k, u4.ownBlock = some k → w.heap.size ≤ k) := Lib.hid (fun k hk => (World.ownsRow.lt HO.out k hk).1)
      cases ht : t.toList.isEmpty with
      | false =>
        have hne := ne_of ht
        have hp := pos_of ht
        have hl : t.data.toList ≠ [] := by rw [← P.nonempty_iff]; exact ht
        have hle := P.unqB_le hl
        have hcons := P.unqD_cons hl
        have HC := Lib.hid (unqB_any t hp wr (Hw.out.mono HB.out) (HE.out.mono Hw.out HB.out))
        rw [P.size_len] at hle
        have HD2 : Hid (∀ x n, P.unqB t.data.toList = (x, n) → (acc ++ [x]) ++ P.unqD (t.extract n t.size).data.toList = P.unqD (P.inner s).data.toList) := Lib.hid fun x n hx => by
          rw [drop_ext t n (by rw [hx] at hle; exact hle.2), ← HD.out, hcons, hx]; simp
        clear hl hcons
        rcases hx : P.unqB t.data.toList with ⟨x, n⟩
        rw [hx] at HC hle
        replace HD2 := Lib.hid (HD2.out x n hx)
        simp only at hle
        unfold unqOut at HC
        simp only at HC
        clear hx
        have b2 : (0 : Int) ≤ (n : Int) := by omega
        have b3 : (n : Int) ≤ (t.size : Int) := by omega
        have hz := Lib.hid (show (t.extract n t.size).size = t.size - n by rw [ByteArray.size_extract]; omega)
        go_wp2_with (first
          | (go_at_call 148; refine HC.out.mono ?_; rintro e w1 ⟨rfl, hb1⟩; have HO1 : Hid (Own8 w.heap.size w1 u4 acc) := Lib.hid (own_below HO.out hb1))
          | (at_builtin; refine wpList_append_own _ rfl _ _ 111 rfl w.heap.size 5 i0 _ 1 1 Tryz.underlying111 hi hz0 hz1 hz2 rfl (by decide) _ _ _ rfl (Own8.alloc HO1.out _) ⟨w1.heap.size, 0, none⟩ 1 1 (Lib.byteCells [x]) rfl rfl (new_cells _ _ _) (bytes_one _) (by unfold maxLen; omega) (by omega) (by have := HB.out.size; have := hb1.size; simp; omega) ?_; intro v' w2 hown hgrow hnil))
        have HR1 := Lib.hid (own8_app (l := acc) (m := [x]) hown)
        have HR2 := Lib.hid ((bstep (bstep HB.out hb1) (below_alloc w1 (.cells (Lib.byteCells [x]).toArray 5))).grown hgrow (Nat.le_trans HB.out.size (Nat.le_trans hb1.size (below_alloc _ _).size)) HOw.out)
        go_roundw
        case rel => exact ⟨acc ++ [x], t.extract n t.size, rfl, by rw [hz.out]; simp; omega, HR1, Lib.hid (fun h => by simp at h), HD2, HR2⟩
        case measure => show (t.extract n t.size).size < t.size; rw [hz.out]; omega
      | true =>
        have hem := eq_of ht
        have hl : t.data.toList = [] := by rw [← P.empty_iff]; exact ht
        have HD2 : Hid (acc = P.unqD (P.inner s).data.toList) := Lib.hid (by have := HD.out; rw [hl] at this; simpa [P.unqD_nil] using this)
        clear HD hl
        have HV : Hid (∀ W, Below wr.heap.size wr W → (convert 111 9 u4).run Tryz.prog W = .ok (.string (P.txt acc)) W) := Lib.hid fun W hb => by
          by_cases h0 : acc = []
          · have := HN.out h0
            rw [this, h0]
            exact conv_none W
          · exact Own8.text (show Own8 w.heap.size W u4 acc from own_below HO.out hb) h0
        have hcv := HV.out wr (Below.refl _ _)
        have hlen2 : acc.length ≤ s.size := by omega
        have HQ := Lib.hid (fun W => dquote_any (P.txt acc) (by rw [P.txt_size]; omega) W)
        have hcases : P.quote (P.txt acc) = s ∨ P.quote (P.txt acc) ≠ s := by by_cases h : P.quote (P.txt acc) = s <;> simp [h]
        rcases hcases with hq | hq
        · have hr : Hid (P.unquote s = (P.txt acc, 0)) := Lib.hid (by have e := HD2.out; have := P.unquote_yes (s := s) (by rw [← e]; exact hq); rw [← e] at this; exact this)
          go_wp2_with (go_at_call 56; refine (HQ.out _).mono ?_; rintro e w1 ⟨rfl, hb1⟩; have hcv1 := HV.out w1 hb1)
          have HB2 := Lib.hid (bstep HB.out hb1)
          go_ret2
          exact ⟨by rw [hr.out]; rfl, HB2.out⟩
        · have hr : Hid (P.unquote s = (⟨#[]⟩, 8)) := Lib.hid (by have e := HD2.out; exact P.unquote_no (s := s) (by rw [← e]; exact hq))
          have gne : ((P.quote (P.txt acc)).toList == s.toList) = false := toList_ne hq
          go_wp2_with (go_at_call 56; refine (HQ.out _).mono ?_; rintro e w1 ⟨rfl, hb1⟩)
          have HB2 := Lib.hid (bstep HB.out hb1)
          go_ret2
          exact ⟨by rw [hr.out]; rfl, HB2.out⟩
end Go.Proofs.YtomikcemiacjmaaGreatDoor

namespace Go.Proofs.YtomikcemiacjmaaGreatDoor
open Go.RowKit Go.Lib Go.Shelf

namespace P
def idx (c : UInt8) : Int := Lib.index hexS.data.toList [c]
theorem idx_ge (c : UInt8) : -1 ≤ idx c := Lib.index_ge _ _
theorem idx_le (c : UInt8) : idx c ≤ 16 := Lib.index_le hexS.data.toList [c]
theorem idx_hexC : ∀ d : Fin 16, idx (hexC d) = (d.val : Int) := by decide +kernel
def rhexB (x y : UInt8) : UInt8 := UInt8.ofNat (IntKind.u8.wrap (idx x * 16 + idx y)).toNat
theorem rhexB_toNat (x y : UInt8) : ((rhexB x y).toNat : Int) = IntKind.u8.wrap (idx x * 16 + idx y) := by
  unfold rhexB
  rw [IntKind.wrap_u8, UInt8.toNat_ofNat']
  omega
theorem rhexB_hexC {a b : Nat} (ha : a < 16) (hb : b < 16) : rhexB (hexC a) (hexC b) = UInt8.ofNat (a * 16 + b) := by
  have h1 := idx_hexC ⟨a, ha⟩
  have h2 := idx_hexC ⟨b, hb⟩
  simp only at h1 h2
  unfold rhexB
  rw [h1, h2, IntKind.wrap_u8]
  congr 1; omega
def rhex : B → Option (UInt8 × Nat)
  | x :: y :: _ => some (rhexB x y, 4)
  | _ => none
def rstep2 : B → Option (UInt8 × Nat)
  | [] => none
  | d :: l => if d.toNat = 34 ∨ d.toNat = 92 then some (d, 2) else if d.toNat = 110 then some (10, 2) else if d.toNat = 120 then rhex l else none
def rstep : B → Option (UInt8 × Nat)
  | [] => none
  | c :: l => if c.toNat ≠ 92 then some (c, 1) else rstep2 l
theorem rstep_cons (c : UInt8) (l : B) : rstep (c :: l) = if c.toNat ≠ 92 then some (c, 1) else rstep2 l := rfl
theorem rstep2_cons (d : UInt8) (l : B) : rstep2 (d :: l) = if d.toNat = 34 ∨ d.toNat = 92 then some (d, 2) else if d.toNat = 110 then some (10, 2) else if d.toNat = 120 then rhex l else none := rfl
theorem rstep_le {l : B} {c : UInt8} {k : Nat} (h : rstep l = some (c, k)) : 1 ≤ k ∧ k ≤ l.length := by
  match l, h with
  | c' :: l, h =>
    rw [rstep_cons] at h
    split at h
    · cases h; simp
    · match l, h with
      | d :: l, h =>
        rw [rstep2_cons] at h
        simp only [List.length_cons]
        split at h
        · cases h; simp
        · split at h
          · cases h; simp
          · split at h
            · match l, h with
              | x :: y :: l, h => cases h; simp
            · cases h
def rdF : Nat → B → Option B
  | 0, _ => some []
  | n + 1, l => if l = [] then some [] else match rstep l with
    | none => none
    | some (c, k) => (rdF n (l.drop k)).map (c :: ·)
theorem rdF_more : ∀ (n m : Nat) (l : B), l.length ≤ n → l.length ≤ m → rdF n l = rdF m l
  | 0, m, l, h, _ => by
    obtain rfl : l = [] := List.length_eq_zero_iff.1 (by omega)
    cases m <;> simp [rdF]
  | n + 1, 0, l, _, h => by
    obtain rfl : l = [] := List.length_eq_zero_iff.1 (by omega)
    simp [rdF]
  | n + 1, m + 1, l, h, h' => by
    unfold rdF
    by_cases e : l = []
    · rw [if_pos e, if_pos e]
    · rw [if_neg e, if_neg e]
      cases hr : rstep l with
      | none => rfl
      | some x =>
        obtain ⟨c, k⟩ := x
        have := rstep_le hr
        simp only
        rw [rdF_more n m _ (by rw [List.length_drop]; omega) (by rw [List.length_drop]; omega)]
def rdD (l : B) : Option B := rdF l.length l
theorem rdD_nil : rdD [] = some [] := rfl
theorem rdD_some {l : B} {c : UInt8} {k : Nat} (h : rstep l = some (c, k)) : rdD l = (rdD (l.drop k)).map (c :: ·) := by
  have h1 := rstep_le h
  unfold rdD
  obtain ⟨n, hn⟩ : ∃ n, l.length = n + 1 := ⟨l.length - 1, by omega⟩
  rw [hn, rdF, if_neg (fun e => by subst e; simp at hn), h]
  simp only
  rw [rdF_more n _ _ (by rw [List.length_drop]; omega) (Nat.le_refl _)]
theorem rdD_none {l : B} (hl : l ≠ []) (h : rstep l = none) : rdD l = none := by
  have := List.length_pos_iff.2 hl
  unfold rdD
  obtain ⟨n, hn⟩ : ∃ n, l.length = n + 1 := ⟨l.length - 1, by omega⟩
  rw [hn, rdF, if_neg hl, h]
theorem rstep_quote (c : UInt8) (l : B) : rstep (quoteB c ++ l) = some (c, (quoteB c).length) := by
  have hc := c.toNat_lt
  by_cases h1 : c.toNat = 34 ∨ c.toNat = 92
  · rw [quoteB_esc h1]
    show rstep (92 :: c :: l) = _
    rw [rstep_cons, if_neg (by decide), rstep2_cons, if_pos h1]; rfl
  · by_cases h2 : c.toNat = 10
    · rw [quoteB_nl h2]
      show rstep (92 :: 110 :: l) = _
      rw [rstep_cons, if_neg (by decide), rstep2_cons, if_neg (by decide), if_pos (by decide)]
      have : c = 10 := UInt8.toNat_inj.1 (by rw [h2]; rfl)
      subst this; rfl
    · by_cases h3 : c.toNat < 32 ∨ 126 < c.toNat
      · rw [quoteB_hex h3 h2]
        show rstep (92 :: 120 :: hexC (c.toNat / 16) :: hexC (c.toNat % 16) :: l) = _
        rw [rstep_cons, if_neg (by decide), rstep2_cons, if_neg (by decide), if_neg (by decide), if_pos (by decide)]
        show some (rhexB _ _, 4) = _
        rw [rhexB_hexC (by omega) (by omega)]
        have : c.toNat / 16 * 16 + c.toNat % 16 = c.toNat := by omega
        rw [this, UInt8.ofNat_toNat]; rfl
      · rw [quoteB_plain (by omega) (by omega) (by omega) (by omega)]
        show rstep (c :: l) = _
        rw [rstep_cons, if_pos (by omega)]; rfl
theorem rdD_quote : ∀ l : B, rdD (quoteIn l) = some l
  | [] => rfl
  | c :: l => by
    have e : quoteIn (c :: l) = quoteB c ++ quoteIn l := by unfold quoteIn; rw [List.flatMap_cons]
    rw [e, rdD_some (rstep_quote c _), List.drop_left, rdD_quote l]; rfl
theorem quoted_inner {s x : ByteArray} (h : quote x = s) : rdD (inner s).data.toList = some x.data.toList := by
  subst h; rw [inner_quote, rdD_quote]
theorem unq_fail {s : ByteArray} (h : rdD (inner s).data.toList = none) : unquote s = (⟨#[]⟩, 8) := unquote_no fun e => by rw [quoted_inner e] at h; cases h
theorem unq_yes {s : ByteArray} {D : B} (h : quote (txt D) = s) : unquote s = (txt D, 0) := by
  have := unqD_of_quote h
  have h2 := unquote_yes (s := s) (by rw [this]; exact h)
  rw [this] at h2; exact h2
theorem unq_no {s : ByteArray} {D : B} (h : rdD (inner s).data.toList = some D) (hq : quote (txt D) ≠ s) : unquote s = (⟨#[]⟩, 8) := unquote_no fun e => by
  rw [quoted_inner e] at h
  injection h with h
  rw [txt_list] at h
  rw [h] at e
  exact hq e
theorem quote_first (x : ByteArray) (h : 0 < (quote x).size) : (quote x)[0].toNat = 34 := by
  have e := drop_get (quote x) 0 h
  have e2 : (quote x).data.toList = 34 :: (quoteIn x.data.toList ++ [34]) := txt_list _
  rw [List.drop_zero, e2] at e
  injection e with e _
  rw [← e]; rfl
theorem quote_last (x : ByteArray) (k : Nat) (hk : k + 1 = (quote x).size) (h : k < (quote x).size) : (quote x)[k].toNat = 34 := by
  have e := drop_get (quote x) k h
  have e2 : (quote x).data.toList = (34 :: quoteIn x.data.toList) ++ [34] := txt_list _
  have hz : k = (34 :: quoteIn x.data.toList).length := by rw [← size_len, e2, List.length_append] at hk; simp at hk ⊢; omega
  generalize (quote x)[k] = c at e ⊢
  rw [e2, hz, List.drop_left] at e
  injection e with e _
  rw [← e]; rfl
theorem unq_first {s : ByteArray} (h : 0 < s.size) (h1 : s[0].toNat ≠ 34) : unquote s = (⟨#[]⟩, 8) := unquote_no fun e => by
  have := quote_first (txt (unqD (inner s).data.toList)) (by rw [e]; exact h)
  exact h1 (by simpa [e] using this)
theorem unq_last {s : ByteArray} (k : Nat) (hk : k + 1 = s.size) (h : k < s.size) (h1 : s[k].toNat ≠ 34) : unquote s = (⟨#[]⟩, 8) := unquote_no fun e => by
  have := quote_last (txt (unqD (inner s).data.toList)) k (by rw [e]; exact hk) (by rw [e]; exact h)
  exact h1 (by simpa [e] using this)
end P
theorem Own8.text_any {B : Nat} {W : World} {v : Value} {l : List UInt8} (h : Own8 B W v l) : (convert 111 9 v).run Tryz.prog W = .ok (.string (P.txt l)) W := by
  by_cases h0 : l = []
  · subst h0
    obtain ⟨_, ⟨rfl, _⟩ | ⟨g, cap, cur, rfl, _⟩⟩ := h
    · exact conv_none W
    · have := Lib.run_convert_whole (P := Tryz.prog) W 111 5 9 Tryz.underlying111 Tryz.underlying5 Tryz.underlying9 g 0 (P.txt []) (fun i hi => by rw [P.txt_size] at hi; simp at hi) cap
      rwa [P.txt_size] at this
  · exact h.text h0
end Go.Proofs.YtomikcemiacjmaaGreatDoor

namespace Go.Proofs.YtomikcemiacjmaaGreatDoor

theorem still_of_quiet {P : Program} {ops : Array Oper} {W : World} {Q : Act → Prop} : ∀ {l : List Oper} {a : Act}, wpQuiet P ops (fun w' => w' = W) Q l a → wpStill P ops W Q l a
  | [], _, h => h
  | o :: l, a, h => by
    unfold wpQuiet at h
    unfold wpStill
    split at h
    · rename_i hw
      rw [if_pos hw]
      obtain ⟨v, h1, h2⟩ := h
      have h3 := h1 W rfl
      unfold Oper.still
      unfold Oper.quietAt at h3
      generalize (execOp a.eval o).run P W = r at *
      cases r with
      | ok n w' =>
        cases n with
        | value u =>
          obtain ⟨e1, e2⟩ := h3
          subst e1 e2
          exact ⟨rfl, still_of_quiet h2⟩
        | skip =>
          obtain ⟨e1, e2⟩ := h3
          subst e1 e2
          exact ⟨rfl, still_of_quiet h2⟩
        | enter f args =>
          obtain ⟨e1, e2⟩ := h3
          subst e1
          exact ⟨rfl, v, e2, still_of_quiet h2⟩
        | _ => exact h3.elim
      | _ => exact h3.elim
    · rename_i hw
      rw [if_neg hw]
      exact still_of_quiet h
theorem region_quiet_tail {P : Program} {id : Nat} {Q : Exit → Act → World → Prop} {a : Act} {w : World} {l : List Oper} (n : Nat) (hm : P.follows .mixedOrders = true) (hB : Region.lexTailB .any l.toArray n = true)
    (h : wpQuiet P l.toArray (fun w' => w' = w.drew) (fun a' => wpList P l.toArray Q (l.drop n) a' w.drew) (l.take n) a) : (Code.region id l.toArray true).wp P Q a w := wp_region_still_tail n hm hB (still_of_quiet h)
end Go.Proofs.YtomikcemiacjmaaGreatDoor

namespace Go.Proofs.YtomikcemiacjmaaGreatDoor
open Go.RowKit Go.Lib Go.Shelf

theorem map_snoc {acc : P.B} {c : UInt8} {l m : P.B} {k : Nat} {r : Option P.B} (hs : P.rstep l = some (c, k)) (hm : m = l.drop k) (h : (P.rdD l).map (acc ++ ·) = r) : (P.rdD m).map ((acc ++ [c]) ++ ·) = r := by
  subst hm
  rw [P.rdD_some hs, Option.map_map] at h
  rw [← h]
  congr 1
  funext x
  simp
theorem idx_any (c : UInt8) (w : World) (hw : Good w) : Calls Tryz.prog 150 #[.string P.hexS, .string ⟨#[c]⟩] w fun e w' => e = .returned (.int .i64 (P.idx c)) ∧ w' = w := by
  obtain ⟨m, hm⟩ := hw.m
  exact Tryz.strings_Index P.hexS ⟨#[c]⟩ m w (by decide) hm
theorem ext_one (t : ByteArray) (k : Nat) (h : k < t.size) : t.extract k (k + 1) = ⟨#[t[k]]⟩ := by
  apply P.ba_inj
  rw [ByteArray.data_extract, Array.toList_extract, List.extract_eq_take_drop, P.drop_get t k h]
  simp

set_option maxRecDepth 100000 in
set_option maxHeartbeats 4000000 in
theorem runquote_any (s : ByteArray) (hs : s.size ≤ 1000000000) (w : World) (hw : Good w) :
    Calls Tryz.prog 59 #[.string s] w fun e w' => e = .returned (unquoteOut (P.unquote s)) ∧ Below w.heap.size w w' := by
  by_cases h2 : s.size < 2
  · have hr := Lib.hid (P.unquote_short h2)
    have i2 : (s.size : Int) < 2 := by omega
    have i3 : decide ((s.size : Int) < 2) = true := decide_eq_true i2
    clear h2 hw
    go_enter Tryz.func59, Tryz.ntmps59
    go_wp2_with fail
    go_ret2
    exact ⟨by rw [hr.out]; rfl, Below.refl _ _⟩
  · have i3 : decide ((s.size : Int) < 2) = false := decide_eq_false (by omega)
    have j0 : (0 : Int) < (s.size : Int) := by omega
    have e1 : IntKind.i64.wrap ((s.size : Int) - 1) = ((s.size - 1 : Nat) : Int) := by rw [IntKind.wrap_i64]; omega
    have b0 : (0 : Int) ≤ ((s.size - 1 : Nat) : Int) := by omega
    have b1 : ((s.size - 1 : Nat) : Int) < (s.size : Int) := by omega
    have b2 : (1 : Int) ≤ ((s.size - 1 : Nat) : Int) := by omega
    have b3 : ((s.size - 1 : Nat) : Int) ≤ (s.size : Int) := by omega
    have hk : s.size - 1 < s.size := by omega
    by_cases h34 : s[0].toNat = 34
    · have g1 : ((s[0].toNat : Int) != 34) = false := by simp [h34]
      by_cases hl34 : s[s.size - 1].toNat = 34
      · have g2 : ((s[s.size - 1].toNat : Int) != 34) = false := by simp [hl34]
        obtain ⟨i0, hi, hz0, hz1, hz2⟩ := info_parts info5
        have Hw := Lib.hid hw
        have HI : Hid (s.extract 1 (s.size - 1) = P.inner s ∧ (P.inner s).size ≤ s.size) := Lib.hid ⟨rfl, by unfold P.inner; rw [ByteArray.size_extract]; omega⟩
        have HO0 := Lib.hid (own8_new w [] (by unfold maxLen; decide))
        clear hw h34 hl34
        go_enter Tryz.func59, Tryz.ntmps59
        go_wp2_with fail
        rw [HI.out.1]
        go_loopw [4, 5] (fun q r wr => ∃ (acc : P.B) (t : ByteArray), r = .string t ∧ acc.length + t.size ≤ s.size ∧ Hid (Own8 w.heap.size wr q acc) ∧ Hid ((P.rdD t.data.toList).map (acc ++ ·) = P.rdD (P.inner s).data.toList) ∧ Hid (Below w.heap.size w wr)) (fun _ r _ => strLen r)
        case atStart => exact ⟨[], P.inner s, rfl, by have := HI.out.2; simpa using this, HO0, Lib.hid (by cases P.rdD (P.inner s).data.toList <;> rfl), Lib.hid (below_alloc _ _)⟩
        case round =>
          obtain ⟨acc, t, rfl, hlen, HO, HD, HB⟩ := hrel
          have HOw : Hid (∀ k, u4.ownBlock = some k → w.heap.size ≤ k) := Lib.hid (fun k hk => (World.ownsRow.lt HO.out k hk).1)
          cases ht : t.toList.isEmpty with
          | false =>
            have hne := ne_of ht
            have hp := pos_of ht
            have hl : t.data.toList ≠ [] := by rw [← P.nonempty_iff]; exact ht
            have HS : Hid (∀ c k, P.rstep t.data.toList = some (c, k) → (P.rdD (t.extract k t.size).data.toList).map ((acc ++ [c]) ++ ·) = P.rdD (P.inner s).data.toList) := Lib.hid fun c k h => map_snoc h (drop_ext t k (by have := P.rstep_le h; rw [P.size_len] at this; omega)) HD.out
            have HF : Hid (P.rstep t.data.toList = none → P.unquote s = (⟨#[]⟩, 8)) := Lib.hid fun h => P.unq_fail (by have := HD.out; rw [P.rdD_none hl h] at this; exact this.symm)
            have hg0 := P.drop_get t 0 hp
            rw [List.drop_zero] at hg0
            clear hl HD
            have q0 : (0 : Int) < (t.size : Int) := by omega
            by_cases k92 : t[0].toNat = 92
            · have r1 : ((t[0].toNat : Int) != 92) = false := by simp [k92]
              by_cases t1 : t.size = 1
              · have hr := Lib.hid (HF.out (by rw [hg0, P.rstep_cons, if_neg (by omega), List.drop_eq_nil_of_le (by rw [P.size_len]; omega)]; rfl))
                have g2a : decide ((2 : Int) ≤ (t.size : Int)) = false := decide_eq_false (by omega)
                have g4a : decide ((4 : Int) ≤ (t.size : Int)) = false := decide_eq_false (by omega)
                clear HS HF hg0 k92 t1
                go_wp2_with fail
                go_ret2
                exact ⟨by rw [hr.out]; rfl, HB.out⟩
              · have h1t : 1 < t.size := by omega
                have hg1 := P.drop_get t 1 h1t
                rw [show (0 + 1) = 1 from rfl, hg1] at hg0
                have g2a : decide ((2 : Int) ≤ (t.size : Int)) = true := decide_eq_true (by omega)
                have q1 : (1 : Int) < (t.size : Int) := by omega
                have q2 : (2 : Int) ≤ (t.size : Int) := by omega
                have hz := Lib.hid (show (t.extract 2 t.size).size = t.size - 2 by rw [ByteArray.size_extract]; omega)
                have hst : P.rstep t.data.toList = P.rstep2 (t[1] :: t.data.toList.drop 2) := by rw [hg0, P.rstep_cons, if_neg (by omega)]; rfl
                rw [P.rstep2_cons] at hst
                clear hg0 hg1 t1
                by_cases k34 : t[1].toNat = 34
                · have f1 : ((t[1].toNat : Int) == 34) = true := by simp [k34]
                  have HS1 := Lib.hid (HS.out t[1] 2 (by rw [hst, if_pos (.inl k34)]))
                  clear HS HF hst k92 k34
                  go_wp2_with (at_builtin; refine wpList_append_own _ rfl _ _ 111 rfl w.heap.size 5 i0 _ 1 1 Tryz.underlying111 hi hz0 hz1 hz2 rfl (by decide) _ _ _ rfl (Own8.alloc HO.out _) ⟨wr.heap.size, 0, none⟩ 1 1 (Lib.byteCells [t[1]]) rfl rfl (new_cells _ _ _) (bytes_one _) (by unfold maxLen; omega) (by omega) (by have := HB.out.size; simp; omega) ?_; intro v' w2 hown hgrow hnil)
                  have HR1 := Lib.hid (own8_app (l := acc) (m := [t[1]]) hown)
                  have HR2 := Lib.hid ((bstep HB.out (below_alloc wr (.cells (Lib.byteCells [t[1]]).toArray 5))).grown hgrow (Nat.le_trans HB.out.size (below_alloc _ _).size) HOw.out)
                  go_roundw
                  case rel => exact ⟨acc ++ [t[1]], t.extract 2 t.size, rfl, by rw [hz.out]; simp; omega, HR1, HS1, HR2⟩
                  case measure => show (t.extract 2 t.size).size < t.size; rw [hz.out]; omega
                · have f1 : ((t[1].toNat : Int) == 34) = false := by simp; omega
                  by_cases k2 : t[1].toNat = 92
                  · have f2 : ((t[1].toNat : Int) == 92) = true := by simp [k2]
                    have HS1 := Lib.hid (HS.out t[1] 2 (by rw [hst, if_pos (.inr k2)]))
                    clear HS HF hst k92 k34 k2
                    go_wp2_with (at_builtin; refine wpList_append_own _ rfl _ _ 111 rfl w.heap.size 5 i0 _ 1 1 Tryz.underlying111 hi hz0 hz1 hz2 rfl (by decide) _ _ _ rfl (Own8.alloc HO.out _) ⟨wr.heap.size, 0, none⟩ 1 1 (Lib.byteCells [t[1]]) rfl rfl (new_cells _ _ _) (bytes_one _) (by unfold maxLen; omega) (by omega) (by have := HB.out.size; simp; omega) ?_; intro v' w2 hown hgrow hnil)
                    have HR1 := Lib.hid (own8_app (l := acc) (m := [t[1]]) hown)
                    have HR2 := Lib.hid ((bstep HB.out (below_alloc wr (.cells (Lib.byteCells [t[1]]).toArray 5))).grown hgrow (Nat.le_trans HB.out.size (below_alloc _ _).size) HOw.out)
                    go_roundw
                    case rel => exact ⟨acc ++ [t[1]], t.extract 2 t.size, rfl, by rw [hz.out]; simp; omega, HR1, HS1, HR2⟩
                    case measure => show (t.extract 2 t.size).size < t.size; rw [hz.out]; omega
                  · have f2 : ((t[1].toNat : Int) == 92) = false := by simp; omega
                    rw [if_neg (by omega)] at hst
                    by_cases k110 : t[1].toNat = 110
                    · have f3 : ((t[1].toNat : Int) == 110) = true := by simp [k110]
                      have HS1 := Lib.hid (HS.out 10 2 (by rw [hst, if_pos k110]))
                      clear HS HF hst k92 k34 k2 k110
                      go_wp2_with (at_builtin; refine wpList_append_own _ rfl _ _ 111 rfl w.heap.size 5 i0 _ 1 1 Tryz.underlying111 hi hz0 hz1 hz2 rfl (by decide) _ _ _ rfl (Own8.alloc HO.out _) ⟨wr.heap.size, 0, none⟩ 1 1 (Lib.byteCells [10]) rfl rfl (new_cells _ _ _) (bytes_one _) (by unfold maxLen; omega) (by omega) (by have := HB.out.size; simp; omega) ?_; intro v' w2 hown hgrow hnil)
                      have HR1 := Lib.hid (own8_app (l := acc) (m := [10]) hown)
                      have HR2 := Lib.hid ((bstep HB.out (below_alloc wr (.cells (Lib.byteCells [10]).toArray 5))).grown hgrow (Nat.le_trans HB.out.size (below_alloc _ _).size) HOw.out)
                      go_roundw
                      case rel => exact ⟨acc ++ [10], t.extract 2 t.size, rfl, by rw [hz.out]; simp; omega, HR1, HS1, HR2⟩
                      case measure => show (t.extract 2 t.size).size < t.size; rw [hz.out]; omega
                    · have f3 : ((t[1].toNat : Int) == 110) = false := by simp; omega
                      rw [if_neg k110] at hst
                      by_cases k120 : t[1].toNat = 120
                      · have f4 : ((t[1].toNat : Int) == 120) = true := by simp [k120]
                        rw [if_pos k120] at hst
                        by_cases k4 : 4 ≤ t.size
                        · have g4a : decide ((4 : Int) ≤ (t.size : Int)) = true := decide_eq_true (by omega)
                          have q4 : (4 : Int) ≤ (t.size : Int) := by omega
                          have q3 : (3 : Int) ≤ (t.size : Int) := by omega
                          have e23 : t.extract 2 3 = ⟨#[t[2]]⟩ := ext_one t 2 (by omega)
                          have e34 : t.extract 3 4 = ⟨#[t[3]]⟩ := ext_one t 3 (by omega)
                          have HS1 := Lib.hid (HS.out (P.rhexB t[2] t[3]) 4 (by rw [hst, P.drop_get t 2 (by omega), P.drop_get t 3 (by omega)]; rfl))
                          have hz4 := Lib.hid (show (t.extract 4 t.size).size = t.size - 4 by rw [ByteArray.size_extract]; omega)
                          have hw8 := P.rhexB_toNat t[2] t[3]
                          have i1 := P.idx_ge t[2]
                          have i2 := P.idx_le t[2]
                          have j1 := P.idx_ge t[3]
                          have j2 := P.idx_le t[3]
                          have H1 := Lib.hid (fun W hW => idx_any t[2] W hW)
                          have H2 := Lib.hid (fun W hW => idx_any t[3] W hW)
                          have HG := Lib.hid (Hw.out.mono (bstep HB.out (Below.refl _ wr).drew))
                          have mixed : Tryz.prog.follows .mixedOrders = true := by kernel_rfl
                          clear HS HF hst k92 k34 k2 k110 k120
                          generalize P.rhexB t[2] t[3] = c at *
                          generalize P.idx t[2] = i at *
                          generalize P.idx t[3] = j at *
                          have w1 : IntKind.i64.wrap (i * 16) = i * 16 := by rw [IntKind.wrap_i64]; omega
                          have w2 : IntKind.i64.wrap (i * 16 + j) = i * 16 + j := by rw [IntKind.wrap_i64]; omega
                          replace hw8 := hw8.symm
                          clear i1 i2 j1 j2
                          go_wp2_with fail
                          refine region_quiet_tail 8 mixed (by kernel_rfl) ?_
                          simp only [List.take_succ_cons, List.take_zero, List.drop_succ_cons, List.drop_zero]
                          repeat (first
                            | go_big_quiet_step (first | fail)
                            | (refine wpQuiet_step (fun K hK => ?_); go_simp; first | refine ⟨_, H1.out _ HG.out, hK _ ?_⟩ | refine ⟨_, H2.out _ HG.out, hK _ ?_⟩; clear hK K))
                          refine wpQuiet_nil ?_
                          go_wp2_with (at_builtin; refine wpList_append_own _ rfl _ _ 111 rfl w.heap.size 5 i0 _ 1 1 Tryz.underlying111 hi hz0 hz1 hz2 rfl (by decide) _ _ _ rfl (Own8.alloc (Own8.drew HO.out) _) ⟨wr.heap.size, 0, none⟩ 1 1 (Lib.byteCells [c]) rfl rfl (new_cells wr.drew _ _) (bytes_one _) (by unfold maxLen; omega) (by omega) (by have := HB.out.size; simp; omega) ?_; intro v' w2 hown hgrow hnil)
                          have HR1 := Lib.hid (own8_app (l := acc) (m := [c]) hown)
                          have HG2 : Hid (∀ X : World, Below wr.heap.size wr X → X.grownBy w2 u4.ownBlock → Below w.heap.size w w2) := Lib.hid fun X hX hg => (bstep HB.out hX).grown hg (Nat.le_trans HB.out.size hX.size) HOw.out
                          have HR2 := Lib.hid (HG2.out _ (by first | exact (below_alloc wr _).drew | exact (Below.refl _ wr).drew.alloc (Nat.le_refl _) _) hgrow)
                          go_roundw
                          case rel => exact ⟨acc ++ [c], t.extract 4 t.size, rfl, by rw [hz4.out]; simp; omega, HR1, HS1, HR2⟩
                          case measure => show (t.extract 4 t.size).size < t.size; rw [hz4.out]; omega
                        · have g4a : decide ((4 : Int) ≤ (t.size : Int)) = false := decide_eq_false (by omega)
                          have hr := Lib.hid (HF.out (by
                            rw [hst]
                            have hl : (t.data.toList.drop 2).length < 2 := by rw [List.length_drop, P.size_len]; omega
                            generalize t.data.toList.drop 2 = l at hl
                            match l, hl with
                            | [], _ => rfl
                            | [x], _ => rfl))
                          clear HS HF hst k92 k34 k2 k110 k120
                          go_wp2_with fail
                          go_ret2
                          exact ⟨by rw [hr.out]; rfl, HB.out⟩
                      · have f4 : ((t[1].toNat : Int) == 120) = false := by simp; omega
                        have hr := Lib.hid (HF.out (by rw [hst, if_neg k120]))
                        have g4 : decide ((4 : Int) ≤ (t.size : Int)) = false ∨ decide ((4 : Int) ≤ (t.size : Int)) = true := by cases decide ((4 : Int) ≤ (t.size : Int)) <;> simp
                        clear HS HF hst k92 k34 k2 k110 k120
                        rcases g4 with g4 | g4
                        all_goals
                          go_wp2_with fail
                          go_ret2
                          exact ⟨by rw [hr.out]; rfl, HB.out⟩
            · have r1 : ((t[0].toNat : Int) != 92) = true := by simp; omega
              have HS1 := Lib.hid (HS.out t[0] 1 (by rw [hg0, P.rstep_cons, if_pos k92]))
              have hz := Lib.hid (show (t.extract 1 t.size).size = t.size - 1 by rw [ByteArray.size_extract]; omega)
              have q1 : (1 : Int) ≤ (t.size : Int) := by omega
              clear HS HF hg0 k92
              go_wp2_with (at_builtin; refine wpList_append_own _ rfl _ _ 111 rfl w.heap.size 5 i0 _ 1 1 Tryz.underlying111 hi hz0 hz1 hz2 rfl (by decide) _ _ _ rfl (Own8.alloc HO.out _) ⟨wr.heap.size, 0, none⟩ 1 1 (Lib.byteCells [t[0]]) rfl rfl (new_cells _ _ _) (bytes_one _) (by unfold maxLen; omega) (by omega) (by have := HB.out.size; simp; omega) ?_; intro v' w2 hown hgrow hnil)
              have HR1 := Lib.hid (own8_app (l := acc) (m := [t[0]]) hown)
              have HR2 := Lib.hid ((bstep HB.out (below_alloc wr (.cells (Lib.byteCells [t[0]]).toArray 5))).grown hgrow (Nat.le_trans HB.out.size (below_alloc _ _).size) HOw.out)
              go_roundw
              case rel => exact ⟨acc ++ [t[0]], t.extract 1 t.size, rfl, by rw [hz.out]; simp; omega, HR1, HS1, HR2⟩
              case measure => show (t.extract 1 t.size).size < t.size; rw [hz.out]; omega
          | true =>
            have hem := eq_of ht
            have hl : t.data.toList = [] := by rw [← P.empty_iff]; exact ht
            have HD2 : Hid (P.rdD (P.inner s).data.toList = some acc) := Lib.hid (by have := HD.out; rw [hl, P.rdD_nil] at this; simpa using this.symm)
            clear HD hl
            have HV : Hid (∀ W, Below wr.heap.size wr W → (convert 111 9 u4).run Tryz.prog W = .ok (.string (P.txt acc)) W) := Lib.hid fun W hb => Own8.text_any (show Own8 w.heap.size W u4 acc from own_below HO.out hb)
            have hcv := HV.out wr (Below.refl _ _)
            have hlen2 : acc.length ≤ s.size := by omega
            have HQ := Lib.hid (fun W => rquote_any (P.txt acc) (by rw [P.txt_size]; omega) W)
            have hcases : P.quote (P.txt acc) = s ∨ P.quote (P.txt acc) ≠ s := by by_cases h : P.quote (P.txt acc) = s <;> simp [h]
            rcases hcases with hq | hq
            · have hr : Hid (P.unquote s = (P.txt acc, 0)) := Lib.hid (P.unq_yes hq)
              go_wp2_with (go_at_call 58; refine (HQ.out _).mono ?_; rintro e w1 ⟨rfl, hb1⟩; have hcv1 := HV.out w1 hb1)
              have HB2 := Lib.hid (bstep HB.out hb1)
              go_ret2
              exact ⟨by rw [hr.out]; rfl, HB2.out⟩
            · have hr : Hid (P.unquote s = (⟨#[]⟩, 8)) := Lib.hid (P.unq_no HD2.out hq)
              have gne : ((P.quote (P.txt acc)).toList == s.toList) = false := toList_ne hq
              go_wp2_with (go_at_call 58; refine (HQ.out _).mono ?_; rintro e w1 ⟨rfl, hb1⟩)
              have HB2 := Lib.hid (bstep HB.out hb1)
              go_ret2
              exact ⟨by rw [hr.out]; rfl, HB2.out⟩
      · have hr := Lib.hid (P.unq_last (s.size - 1) (by omega) hk hl34)
        have g2 : ((s[s.size - 1].toNat : Int) != 34) = true := by simp; omega
        clear hw h34 hl34
        go_enter Tryz.func59, Tryz.ntmps59
        go_wp2_with fail
        go_ret2
        exact ⟨by rw [hr.out]; rfl, Below.refl _ _⟩
    · have hr := Lib.hid (P.unq_first (by omega) h34)
      have g1 : ((s[0].toNat : Int) != 34) = true := by simp; omega
      clear hw h34
      go_enter Tryz.func59, Tryz.ntmps59
      go_wp2_with fail
      go_ret2
      exact ⟨by rw [hr.out]; rfl, Below.refl _ _⟩
end Go.Proofs.YtomikcemiacjmaaGreatDoor

namespace Go.Proofs.YtomikcemiacjmaaGreatDoor
open Go.RowKit Go.Lib Go.Shelf

namespace P
def isWord (s : ByteArray) : Bool := !s.toList.isEmpty && !decide (0 ≤ Lib.indexByte s.data.toList 32)
def isFlag (s : ByteArray) : Bool := s.toList == [48] || s.toList == [49]
def cutA (s : ByteArray) (c : UInt8) : ByteArray := txt (Lib.cut s.data.toList [c]).1
def cutB (s : ByteArray) (c : UInt8) : ByteArray := txt (Lib.cut s.data.toList [c]).2.1
def cutOk (s : ByteArray) (c : UInt8) : Bool := (Lib.cut s.data.toList [c]).2.2
noncomputable def pairK (s : ByteArray) : ByteArray := cutA s 32
noncomputable def pairV (s : ByteArray) : ByteArray := (unquote (cutB s 32)).1
noncomputable def pairOk (s : ByteArray) : Bool := isWord (cutA s 32) && (unquote (cutB s 32)).2 == 0
end P
theorem isWord_any (s : ByteArray) (w : World) : Calls Tryz.prog 237 #[.string s] w fun e w' => e = .returned (.bool (P.isWord s)) ∧ w = w' := by
  have H := Lib.hid (fun W => Tryz.strings_Contains_one s 32 W)
  cases h1 : s.toList.isEmpty with
  | true =>
    have hv := Lib.hid (show P.isWord s = false by unfold P.isWord; rw [h1]; rfl)
    have h1' := eq_of h1
    clear h1
    go_enter Tryz.func237, Tryz.ntmps237
    go_wp2_with fail
    go_ret
    exact ⟨by rw [hv.out]; rfl, rfl⟩
  | false =>
    have hv := Lib.hid (show P.isWord s = !decide (0 ≤ Lib.indexByte s.data.toList 32) by unfold P.isWord; rw [h1]; rfl)
    generalize decide (0 ≤ Lib.indexByte s.data.toList 32) = b at *
    have h1' := ne_of h1
    have He := Lib.hid h1
    clear h1
    go_enter Tryz.func237, Tryz.ntmps237
    go_wp2_with (go_at_call 238; refine (H.out _).mono ?_; rintro e w' ⟨rfl, rfl⟩)
    go_ret
    exact ⟨by rw [hv.out]; show Ending.returned (.bool (!s.toList.isEmpty && !b)) = _; rw [He.out]; rfl, rfl⟩
theorem isFlag_any (s : ByteArray) (w : World) : Calls Tryz.prog 284 #[.string s] w fun e w' => e = .returned (.bool (P.isFlag s)) ∧ w = w' := by
  unfold P.isFlag
  cases h1 : (s.toList == [48])
  all_goals
    go_enter Tryz.func284, Tryz.ntmps284
    go_wp2_with fail
    go_ret
    exact ⟨by simp, rfl⟩
theorem cut_any (s : ByteArray) (c : UInt8) (hs : s.size ≤ 1000000000) (w : World) (hw : Good w) :
    Calls Tryz.prog 155 #[.string s, .string ⟨#[c]⟩] w fun e w' => e = .returned (.tuple #[.string (P.cutA s c), .string (P.cutB s c), .bool (P.cutOk s c)]) ∧ Below w.heap.size w w' := by
  obtain ⟨m, hm⟩ := hw.m
  refine (Tryz.strings_Cut s ⟨#[c]⟩ m w (by omega) hm).mono fun e w' h => ⟨h.1, ?_⟩
  obtain ⟨n, rfl⟩ := h.2
  exact ⟨rfl, rfl, rfl, Nat.le_refl _, fun _ _ => rfl⟩

theorem cutB_le (s : ByteArray) (c : UInt8) : (P.cutB s c).size ≤ s.size := by
  unfold P.cutB Lib.cut
  rw [P.txt_size, ← P.size_len s]
  split
  · simp only [List.length_drop]; omega
  · simp
theorem cutA_le (s : ByteArray) (c : UInt8) : (P.cutA s c).size ≤ s.size := by
  unfold P.cutA Lib.cut
  rw [P.txt_size, ← P.size_len s]
  split
  · simp only [List.length_take]; omega
  · simp
theorem readPair_any (s : ByteArray) (hs : s.size ≤ 1000000000) (w : World) (hw : Good w) (he : Es w) :
    Calls Tryz.prog 232 #[.string s] w fun e w' => e = .returned (.tuple #[.agg #[.string (P.pairK s), .string (P.pairV s)], .bool (P.pairOk s)]) ∧ Below w.heap.size w w' := by
  have HC := Lib.hid (fun W hW => cut_any s 32 hs W hW)
  have HU := Lib.hid (fun W hW hE => dunquote_any (P.cutB s 32) (Nat.le_trans (cutB_le s 32) hs) W hW hE)
  have HW := Lib.hid (fun W => isWord_any (P.cutA s 32) W)
  have Hw := Lib.hid hw
  have HE := Lib.hid he
  clear hw he
  unfold P.pairK P.pairV P.pairOk
  unfold unquoteOut at HU
  generalize P.cutA s 32 = k at *
  generalize P.cutB s 32 = q at *
  generalize P.unquote q = u at *
  obtain ⟨v, n⟩ := u
  simp only at HU ⊢
  generalize P.isWord k = b at *
  cases b
  all_goals
    go_enter Tryz.func232, Tryz.ntmps232
    go_wp2_with (first
      | (go_at_call 155; refine (HC.out _ (Hw.out.mono (below_alloc _ _))).mono ?_; rintro e w1 ⟨rfl, hb1⟩; have HB1 := Lib.hid (bstep (below_alloc w (.cells #[.string ⟨#[]⟩, .string ⟨#[]⟩] 62)) hb1); have HR1 := Lib.hid ((HasRow.new w #[.string ⟨#[]⟩, .string ⟨#[]⟩] 62).below hb1))
      | (go_at_call 57; refine (HU.out _ (Hw.out.mono HB1.out) (HE.out.mono Hw.out HB1.out)).mono ?_; rintro e w2 ⟨rfl, hb2⟩; have HR2 := Lib.hid (HR1.out.below hb2); have HB2 := Lib.hid (bstep HB1.out hb2); obtain ⟨c0, c1, _⟩ := hrow2 HR2.out; have f0 := HR2.out.free 0; have f1 := HR2.out.free 1)
      | (go_at_call 237; refine (HW.out _).mono ?_; rintro e w3 ⟨rfl, rfl⟩))
    have HS := Lib.hid (store2 HR2.out HB2.out (Nat.le_refl _) (.string k) (.string v))
    clear c0 c1 f0 f1
    obtain ⟨d0, d1, _⟩ := hrow2 HS.out.1
    refine bodyPost_ret (v := .tuple #[.agg #[.string k, .string v], .bool _]) ?_ rfl ⟨rfl, HS.out.2⟩
    simp [results, Tryz.results232, go_sem, d0, d1]
end Go.Proofs.YtomikcemiacjmaaGreatDoor

namespace Go.Proofs.YtomikcemiacjmaaGreatDoor
open Go.RowKit Go.Lib Go.Shelf

namespace P
def svcWords (s : ByteArray) : List ByteArray := Lib.splitB ⟨#[32]⟩ 0 (min 5 (s.size + 1) - 1) s
def svc0 : Sv := ⟨⟨#[]⟩, ⟨#[]⟩, false, false⟩
def svcRead : List ByteArray → Sv × Bool
  | [a, b, c, d] => if isFlag c && isFlag d then (⟨a, b, c.toList == [49], d.toList == [49]⟩, isWord a && isWord b) else (svc0, false)
  | _ => (svc0, false)
theorem svcRead_other {l : List ByteArray} (h : l.length ≠ 4) : svcRead l = (svc0, false) := by
  match l, h with
  | [], _ => rfl
  | [_], _ => rfl
  | [_, _], _ => rfl
  | [_, _, _], _ => rfl
  | [_, _, _, _], h => exact absurd rfl h
  | _ :: _ :: _ :: _ :: _ :: _, _ => rfl
end P
def svcAgg (x : P.Sv) : Value := .agg #[.string x.n, .string x.p, .bool x.a, .bool x.o]
end Go.Proofs.YtomikcemiacjmaaGreatDoor

namespace Go.Proofs.YtomikcemiacjmaaGreatDoor
open Go.RowKit Go.Shelf Go.Maps

theorem step_append_own5 {P : Program} {w : World} {ops : Array Oper} {o : Oper} {a : Act} {K : Act → World → Prop} {Q : Exit → Act → World → Prop} {E : Prop} (hgd : o.guard = none) (s x : Operand) (t : TypeId)
    (ho : o.op = .call { callee := .builtin .append, args := #[s, x], argTypes := #[t, t] })
    (base : Nat) (e : TypeId) (i : TypeInfo) (z : Value) (size bytes : Nat) (ht : P.underlying t = some (.slice e)) (hi : P.info? e = some i) (hz : i.zero = some z)
    (hsize : i.size = size) (hby : i.bytes = bytes) (hzs : z.cells.size = size) (hsz : 0 < size)
    (v : Value) (n : Nat) (xs : List Value) (hs : a.eval s = v) (hown : w.ownsRow base e size v n xs)
    (ad : Addr) (m c : Nat) (news : List Value) (hx : a.eval x = .slice (some ad) m c) (hl : news.length = m * size) (hnews : ∀ j u, news[j]? = some u → w.cell? (ad.add j) = some u) (h1 : ∀ u ∈ news, u.oneCell' = true)
    (h63 : n + m ≤ maxLen) (hbytes : (n + m) * bytes ≤ 140737488355328) (hbase : base ≤ w.heap.size)
    (h : ∀ p' c' w', w'.ownsRow base e size (.slice p' (n + m) c') (n + m) (xs ++ news) → w.grownBy w' v.ownBlock → ((Value.slice p' (n + m) c').ownBlock = v.ownBlock ∨ (Value.slice p' (n + m) c').ownBlock = some w.heap.size) → K (a.put o.dst (.slice p' (n + m) c')) w') :
    if Region.wanted o (yielded ops a.tmps) = true then Oper.wp P o a w K Q else E := by
  have hw : Region.wanted o (yielded ops a.tmps) = true := by simp [Region.wanted, hgd]
  rw [if_pos hw]
  obtain ⟨v', w', hr, h2, h3, h4, h5⟩ := run_append_own_at (P := P) w base t o.type e i z size bytes ht hi hz hsize hby hzs hsz v n xs hown ad m c news hl hnews h1 h63 hbytes hbase
  obtain ⟨p', c', rfl⟩ : ∃ p c, v' = .slice p (n + m) c := by
    obtain ⟨_, ⟨rfl, e0⟩ | ⟨g, cap, cur, rfl, _⟩⟩ := h2
    · exact ⟨none, 0, by rw [e0]⟩
    · exact ⟨_, _, rfl⟩
  unfold Oper.wp execOp
  simp only [ho, resolve, invoke, builtin, Sem.run_bind, Sem.run_pure, Result.andThen_ok, List.map_toArray, List.map_cons, List.map_nil, hs, hx, hr]
  exact h p' c' w' h2 h3 h5

def apart (a b : Option Addr) : Prop := ∀ p q, a = some p → b = some q → p.block ≠ q.block
theorem apart.symm {a b : Option Addr} (h : apart a b) : apart b a := fun p q h1 h2 e => h q p h2 h1 e.symm
theorem apart.kept {a b : Option Addr} {n c n' c' : Nat} (h : apart a b) : (Value.slice b n c).ownBlock = none ∨ (Value.slice b n c).ownBlock ≠ (Value.slice a n' c').ownBlock := by
  cases a with
  | none => cases b with
    | none => exact .inl rfl
    | some q => exact .inr (by simp [Value.ownBlock])
  | some p => cases b with
    | none => exact .inl rfl
    | some q => exact .inr (fun e => h p q rfl rfl (by injection e with e; exact e.symm))
theorem apart.new {a b p' : Option Addr} {n c n' c' k : Nat} (h : apart a b) (hb : ∀ q, b = some q → q.block < k) (hk : (Value.slice p' n' c').ownBlock = (Value.slice a n c).ownBlock ∨ (Value.slice p' n' c').ownBlock = some k) : apart p' b := by
  intro p q h1 h2 e
  subst h1
  rcases hk with hk | hk
  · cases a with
    | none => cases hk
    | some x =>
      injection hk with hk
      exact h x q rfl h2 (hk.symm.trans e)
  · injection hk with hk
    have := hb q h2
    have h3 : p.block = k := hk
    omega
theorem own_block {W : World} {base n size cap m : Nat} {e : TypeId} {a : Option Addr} {xs : List Value} (h : W.ownsRow base e size (.slice a n cap) m xs) : ∀ q, a = some q → q.block < W.heap.size := fun q e => by
  subst e
  exact (World.ownsRow.lt h q.block rfl).2

structure PS (base : Nat) (W : World) (N : Nat) (A : Ad) (m : P.Mach) : Prop where
  row : HasRow W N (machCells A m)
  own : MOwn base W A m
  nb : N < base
  hb : base ≤ W.heap.size
  d12 : apart A.a1 A.a2
  d13 : apart A.a1 A.a3
  d14 : apart A.a1 A.a4
  d23 : apart A.a2 A.a3
  d24 : apart A.a2 A.a4
  d34 : apart A.a3 A.a4
theorem PS.below {base : Nat} {W W' : World} {N : Nat} {A : Ad} {m : P.Mach} (h : PS base W N A m) (hb : Below W.heap.size W W') : PS base W' N A m :=
  { h with row := h.row.below hb, own := h.own.below hb, hb := Nat.le_trans h.hb hb.size }
theorem PS.drew {base : Nat} {W : World} {N : Nat} {A : Ad} {m : P.Mach} (h : PS base W N A m) : PS base W.drew N A m := h.below (Below.refl _ _).drew

theorem PS.addF {base : Nat} {W W' W3 : World} {N : Nat} {A : Ad} {m : P.Mach} {x : P.St} {p' : Option Addr} {c' : Nat} (h : PS base W N A m) (hb : Below W.heap.size W W')
    (hown : W3.ownsRow base 62 2 (.slice p' (m.facts.length + 1) c') (m.facts.length + 1) (flat cellsS m.facts ++ cellsS x)) (hg : W'.grownBy W3 (Value.slice A.a1 m.facts.length A.c1).ownBlock)
    (hk : (Value.slice p' (m.facts.length + 1) c').ownBlock = (Value.slice A.a1 m.facts.length A.c1).ownBlock ∨ (Value.slice p' (m.facts.length + 1) c').ownBlock = some W'.heap.size) :
    W3.cell? ⟨N, 0, none⟩ = some (.slice A.a1 m.facts.length A.c1) ∧ W3.frozen? ⟨N, 0, none⟩ = false ∧
    PS base (W3.setCell ⟨N, 0, none⟩ (.slice p' (m.facts.length + 1) c')) N { A with a1 := p', c1 := c' } { m with facts := m.facts ++ [x] } ∧ Below N W (W3.setCell ⟨N, 0, none⟩ (.slice p' (m.facts.length + 1) c')) := by
  have hge : ∀ k, (Value.slice A.a1 m.facts.length A.c1).ownBlock = some k → base ≤ k := own_ge h.own.f
  have hr : HasRow W3 N (machCells A m) := (h.row.below hb).grown hg (fun e => by have := hge _ e.symm; have := h.nb; omega)
  have hbl : Below N W W3 := ((hb.mono (Nat.le_of_lt h.row.lt))).grown hg (Nat.le_of_lt (h.row.below hb).lt) (fun k e => by have := hge _ e; have := h.nb; omega)
  refine ⟨hr.cell 0, hr.free 0, { row := ?_, own := ⟨own_store (by rw [List.length_append, flat_snoc]; exact hown) h.nb, own_store ((own_below h.own.i hb).kept hg h.d12.kept) h.nb, own_store ((own_below h.own.s hb).kept hg h.d13.kept) h.nb, own_store ((own_below h.own.v hb).kept hg h.d14.kept) h.nb⟩, nb := h.nb, hb := ?_, d12 := h.d12.new (own_block (own_below h.own.i hb)) hk, d13 := h.d13.new (own_block (own_below h.own.s hb)) hk, d14 := h.d14.new (own_block (own_below h.own.v hb)) hk, d23 := h.d23, d24 := h.d24, d34 := h.d34 }, hbl.setCell (p := ⟨N, 0, none⟩) (Nat.le_refl _) _⟩
  · have := hr.set 0 (.slice p' (m.facts.length + 1) c') (by simp [machCells])
    have e : (machCells A m).setIfInBounds 0 (.slice p' (m.facts.length + 1) c') = machCells { A with a1 := p', c1 := c' } { m with facts := m.facts ++ [x] } := by simp [machCells]
    rw [← e]; exact this
  · show base ≤ (W3.setCell _ _).heap.size
    have h1 := h.hb
    have h2 := hb.size
    have h3 := hg.size
    simp [World.setCell]; omega

theorem PS.addI {base : Nat} {W W' W3 : World} {N : Nat} {A : Ad} {m : P.Mach} {x : P.Fi} {p' : Option Addr} {c' : Nat} (h : PS base W N A m) (hb : Below W.heap.size W W')
    (hown : W3.ownsRow base 42 3 (.slice p' (m.files.length + 1) c') (m.files.length + 1) (flat cellsF m.files ++ cellsF x)) (hg : W'.grownBy W3 (Value.slice A.a2 m.files.length A.c2).ownBlock)
    (hk : (Value.slice p' (m.files.length + 1) c').ownBlock = (Value.slice A.a2 m.files.length A.c2).ownBlock ∨ (Value.slice p' (m.files.length + 1) c').ownBlock = some W'.heap.size) :
    W3.cell? ⟨N, 1, none⟩ = some (.slice A.a2 m.files.length A.c2) ∧ W3.frozen? ⟨N, 1, none⟩ = false ∧
    PS base (W3.setCell ⟨N, 1, none⟩ (.slice p' (m.files.length + 1) c')) N { A with a2 := p', c2 := c' } { m with files := m.files ++ [x] } ∧ Below N W (W3.setCell ⟨N, 1, none⟩ (.slice p' (m.files.length + 1) c')) := by
  have hge : ∀ k, (Value.slice A.a2 m.files.length A.c2).ownBlock = some k → base ≤ k := own_ge h.own.i
  have hr : HasRow W3 N (machCells A m) := (h.row.below hb).grown hg (fun e => by have := hge _ e.symm; have := h.nb; omega)
  have hbl : Below N W W3 := ((hb.mono (Nat.le_of_lt h.row.lt))).grown hg (Nat.le_of_lt (h.row.below hb).lt) (fun k e => by have := hge _ e; have := h.nb; omega)
  refine ⟨hr.cell 1, hr.free 1, { row := ?_, own := ⟨own_store ((own_below h.own.f hb).kept hg h.d12.symm.kept) h.nb, own_store (by rw [List.length_append, flat_snoc]; exact hown) h.nb, own_store ((own_below h.own.s hb).kept hg h.d23.kept) h.nb, own_store ((own_below h.own.v hb).kept hg h.d24.kept) h.nb⟩, nb := h.nb, hb := ?_, d12 := (h.d12.symm.new (own_block (own_below h.own.f hb)) hk).symm, d13 := h.d13, d14 := h.d14, d23 := h.d23.new (own_block (own_below h.own.s hb)) hk, d24 := h.d24.new (own_block (own_below h.own.v hb)) hk, d34 := h.d34 }, hbl.setCell (p := ⟨N, 1, none⟩) (Nat.le_refl _) _⟩
  · have := hr.set 1 (.slice p' (m.files.length + 1) c') (by simp [machCells])
    have e : (machCells A m).setIfInBounds 1 (.slice p' (m.files.length + 1) c') = machCells { A with a2 := p', c2 := c' } { m with files := m.files ++ [x] } := by simp [machCells]
    rw [← e]; exact this
  · show base ≤ (W3.setCell _ _).heap.size
    have h1 := h.hb
    have h2 := hb.size
    have h3 := hg.size
    simp [World.setCell]; omega

theorem PS.addS {base : Nat} {W W' W3 : World} {N : Nat} {A : Ad} {m : P.Mach} {x : P.St} {p' : Option Addr} {c' : Nat} (h : PS base W N A m) (hb : Below W.heap.size W W')
    (hown : W3.ownsRow base 62 2 (.slice p' (m.sets.length + 1) c') (m.sets.length + 1) (flat cellsS m.sets ++ cellsS x)) (hg : W'.grownBy W3 (Value.slice A.a3 m.sets.length A.c3).ownBlock)
    (hk : (Value.slice p' (m.sets.length + 1) c').ownBlock = (Value.slice A.a3 m.sets.length A.c3).ownBlock ∨ (Value.slice p' (m.sets.length + 1) c').ownBlock = some W'.heap.size) :
    W3.cell? ⟨N, 2, none⟩ = some (.slice A.a3 m.sets.length A.c3) ∧ W3.frozen? ⟨N, 2, none⟩ = false ∧
    PS base (W3.setCell ⟨N, 2, none⟩ (.slice p' (m.sets.length + 1) c')) N { A with a3 := p', c3 := c' } { m with sets := m.sets ++ [x] } ∧ Below N W (W3.setCell ⟨N, 2, none⟩ (.slice p' (m.sets.length + 1) c')) := by
  have hge : ∀ k, (Value.slice A.a3 m.sets.length A.c3).ownBlock = some k → base ≤ k := own_ge h.own.s
  have hr : HasRow W3 N (machCells A m) := (h.row.below hb).grown hg (fun e => by have := hge _ e.symm; have := h.nb; omega)
  have hbl : Below N W W3 := ((hb.mono (Nat.le_of_lt h.row.lt))).grown hg (Nat.le_of_lt (h.row.below hb).lt) (fun k e => by have := hge _ e; have := h.nb; omega)
  refine ⟨hr.cell 2, hr.free 2, { row := ?_, own := ⟨own_store ((own_below h.own.f hb).kept hg h.d13.symm.kept) h.nb, own_store ((own_below h.own.i hb).kept hg h.d23.symm.kept) h.nb, own_store (by rw [List.length_append, flat_snoc]; exact hown) h.nb, own_store ((own_below h.own.v hb).kept hg h.d34.kept) h.nb⟩, nb := h.nb, hb := ?_, d12 := h.d12, d13 := (h.d13.symm.new (own_block (own_below h.own.f hb)) hk).symm, d14 := h.d14, d23 := (h.d23.symm.new (own_block (own_below h.own.i hb)) hk).symm, d24 := h.d24, d34 := h.d34.new (own_block (own_below h.own.v hb)) hk }, hbl.setCell (p := ⟨N, 2, none⟩) (Nat.le_refl _) _⟩
  · have := hr.set 2 (.slice p' (m.sets.length + 1) c') (by simp [machCells])
    have e : (machCells A m).setIfInBounds 2 (.slice p' (m.sets.length + 1) c') = machCells { A with a3 := p', c3 := c' } { m with sets := m.sets ++ [x] } := by simp [machCells]
    rw [← e]; exact this
  · show base ≤ (W3.setCell _ _).heap.size
    have h1 := h.hb
    have h2 := hb.size
    have h3 := hg.size
    simp [World.setCell]; omega

theorem PS.addV {base : Nat} {W W' W3 : World} {N : Nat} {A : Ad} {m : P.Mach} {x : P.Sv} {p' : Option Addr} {c' : Nat} (h : PS base W N A m) (hb : Below W.heap.size W W')
    (hown : W3.ownsRow base 46 4 (.slice p' (m.svcs.length + 1) c') (m.svcs.length + 1) (flat cellsV m.svcs ++ cellsV x)) (hg : W'.grownBy W3 (Value.slice A.a4 m.svcs.length A.c4).ownBlock)
    (hk : (Value.slice p' (m.svcs.length + 1) c').ownBlock = (Value.slice A.a4 m.svcs.length A.c4).ownBlock ∨ (Value.slice p' (m.svcs.length + 1) c').ownBlock = some W'.heap.size) :
    W3.cell? ⟨N, 3, none⟩ = some (.slice A.a4 m.svcs.length A.c4) ∧ W3.frozen? ⟨N, 3, none⟩ = false ∧
    PS base (W3.setCell ⟨N, 3, none⟩ (.slice p' (m.svcs.length + 1) c')) N { A with a4 := p', c4 := c' } { m with svcs := m.svcs ++ [x] } ∧ Below N W (W3.setCell ⟨N, 3, none⟩ (.slice p' (m.svcs.length + 1) c')) := by
  have hge : ∀ k, (Value.slice A.a4 m.svcs.length A.c4).ownBlock = some k → base ≤ k := own_ge h.own.v
  have hr : HasRow W3 N (machCells A m) := (h.row.below hb).grown hg (fun e => by have := hge _ e.symm; have := h.nb; omega)
  have hbl : Below N W W3 := ((hb.mono (Nat.le_of_lt h.row.lt))).grown hg (Nat.le_of_lt (h.row.below hb).lt) (fun k e => by have := hge _ e; have := h.nb; omega)
  refine ⟨hr.cell 3, hr.free 3, { row := ?_, own := ⟨own_store ((own_below h.own.f hb).kept hg h.d14.symm.kept) h.nb, own_store ((own_below h.own.i hb).kept hg h.d24.symm.kept) h.nb, own_store ((own_below h.own.s hb).kept hg h.d34.symm.kept) h.nb, own_store (by rw [List.length_append, flat_snoc]; exact hown) h.nb⟩, nb := h.nb, hb := ?_, d12 := h.d12, d13 := h.d13, d14 := (h.d14.symm.new (own_block (own_below h.own.f hb)) hk).symm, d23 := h.d23, d24 := (h.d24.symm.new (own_block (own_below h.own.i hb)) hk).symm, d34 := (h.d34.symm.new (own_block (own_below h.own.s hb)) hk).symm }, hbl.setCell (p := ⟨N, 3, none⟩) (Nat.le_refl _) _⟩
  · have := hr.set 3 (.slice p' (m.svcs.length + 1) c') (by simp [machCells])
    have e : (machCells A m).setIfInBounds 3 (.slice p' (m.svcs.length + 1) c') = machCells { A with a4 := p', c4 := c' } { m with svcs := m.svcs ++ [x] } := by simp [machCells]
    rw [← e]; exact this
  · show base ≤ (W3.setCell _ _).heap.size
    have h1 := h.hb
    have h2 := hb.size
    have h3 := hg.size
    simp [World.setCell]; omega
end Go.Proofs.YtomikcemiacjmaaGreatDoor

namespace Go.Proofs.YtomikcemiacjmaaGreatDoor
open Go.RowKit Go.Lib Go.Shelf Go.Maps

namespace P
def wFact : B := [102, 97, 99, 116]
def wFile : B := [102, 105, 108, 101]
def wRun : B := [114, 117, 110]
def wSet : B := [115, 101, 116]
def wSvc : B := [115, 101, 114, 118, 105, 99, 101]
noncomputable def readFact (m : Mach) (r : ByteArray) : Mach × Bool := ({ m with facts := m.facts ++ [⟨pairK r, pairV r⟩] }, pairOk r && (m.files.length + m.sets.length + m.svcs.length == 0))
noncomputable def readFile (m : Mach) (r : ByteArray) (x : Bool) : Mach × Bool := ({ m with files := m.files ++ [⟨pairK r, pairV r, x⟩] }, pairOk r && (m.sets.length + m.svcs.length == 0))
noncomputable def readSet (m : Mach) (r : ByteArray) : Mach × Bool := ({ m with sets := m.sets ++ [⟨pairK r, pairV r⟩] }, pairOk r && (m.svcs.length == 0))
noncomputable def readSvc (m : Mach) (r : ByteArray) : Mach × Bool := ({ m with svcs := m.svcs ++ [(svcRead (svcWords r)).1] }, (svcRead (svcWords r)).2)
noncomputable def readThing (m : Mach) (l : ByteArray) : Mach × Bool :=
  if (cutA l 32).toList = wFact then readFact m (cutB l 32)
  else if (cutA l 32).toList = wFile then readFile m (cutB l 32) false
  else if (cutA l 32).toList = wRun then readFile m (cutB l 32) true
  else if (cutA l 32).toList = wSet then readSet m (cutB l 32)
  else if (cutA l 32).toList = wSvc then readSvc m (cutB l 32)
  else (m, false)
end P
/-- what readThing leaves -/
def RT (base N : Nat) (w : World) (r : P.Mach × Bool) (e : Ending) (w' : World) : Prop := ∃ A', e = .returned (.bool r.2) ∧ PS base w' N A' r.1 ∧ Below N w w'
theorem sum3 (a b c : Nat) (h : a + b + c ≤ 100000000) : ∃ n1 n2 : Nat, ∃ q : Bool, IntKind.i64.wrap ((a : Int) + b) = (n1 : Int) ∧ IntKind.i64.wrap ((n1 : Int) + c) = (n2 : Int) ∧ ((n2 : Int) == 0) = q ∧ (a + b + c == 0) = q := by
  refine ⟨a + b, a + b + c, a + b + c == 0, by rw [IntKind.wrap_i64]; omega, by rw [IntKind.wrap_i64]; omega, ?_, rfl⟩
  by_cases h0 : a + b + c = 0
  · rw [h0]; rfl
  · rw [show (a + b + c == 0) = false by simpa using h0]
    rw [beq_eq_false_iff_ne]; omega
theorem sum2 (a b : Nat) (h : a + b ≤ 100000000) : ∃ n1 : Nat, ∃ q : Bool, IntKind.i64.wrap ((a : Int) + b) = (n1 : Int) ∧ ((n1 : Int) == 0) = q ∧ (a + b == 0) = q := by
  refine ⟨a + b, a + b == 0, by rw [IntKind.wrap_i64]; omega, ?_, rfl⟩
  by_cases h0 : a + b = 0
  · rw [h0]; rfl
  · rw [show (a + b == 0) = false by simpa using h0]
    rw [beq_eq_false_iff_ne]; omega

set_option maxRecDepth 100000 in
set_option maxHeartbeats 4000000 in
theorem readFact_any (line : ByteArray) (hs : line.size ≤ 10000000) (base N : Nat) (A : Ad) (m : P.Mach) (w : World) (hw : Good w) (he : Es w) (h : PS base w N A m)
    (hl : m.facts.length + m.files.length + m.sets.length + m.svcs.length ≤ 10000000) (hwd : (P.cutA line 32).toList = P.wFact) :
    Calls Tryz.prog 153 #[.pointer (some ⟨N, 0, none⟩), .string line] w fun e w' => RT base N w (P.readFact m (P.cutB line 32)) e w' := by
  have HC := Lib.hid (fun W hW => cut_any line 32 (by omega) W hW)
  have HP := Lib.hid (fun W hW hE => readPair_any (P.cutB line 32) (by have := cutB_le line 32; omega) W hW hE)
  have Hw := Lib.hid hw
  have HE := Lib.hid he
  have HS := Lib.hid h
  have mixed : Tryz.prog.follows .mixedOrders = true := by kernel_rfl
  obtain ⟨i0, hi, hz0, hz1, hz2⟩ := info_parts info62
  clear hw he h
  obtain ⟨z1, z2, zq, y1, y2, y3, hzq⟩ := sum3 m.files.length m.sets.length m.svcs.length (by omega)
  unfold P.readFact RT
  rw [hzq]
  clear hzq
  generalize P.cutA line 32 = wd at *
  generalize P.cutB line 32 = r at *
  generalize P.pairK r = k at *
  generalize P.pairV r = v at *
  unfold P.wFact at hwd
  cases hok : P.pairOk r
  all_goals
    rw [hok] at HP
    clear hok
    go_enter Tryz.func153, Tryz.ntmps153
    go_wp2_with (first
      | (go_at_call 155; refine (HC.out _ Hw.out).mono ?_; rintro e w1 ⟨rfl, hb1⟩)
      | (go_at_call 232; refine (HP.out _ (Hw.out.mono hb1) (HE.out.mono Hw.out hb1)).mono ?_; rintro e w2 ⟨rfl, hb2⟩))
    have HB2 := Lib.hid (bstep hb1 hb2)
    have HS5 := Lib.hid (((HS.out.below hb1).below hb2).below (below_alloc w2 (.cells #[.string k, .string v] 62)))
    have HB5 := Lib.hid (bstep HB2.out (below_alloc w2 (.cells #[.string k, .string v] 62)))
    have HN5 := Lib.hid (HasRow.new w2 #[.string k, .string v] 62)
    generalize w2.alloc (.cells #[.string k, .string v] 62) = W5 at *
    obtain ⟨n0, n1, _⟩ := hrow2 HN5.out
    obtain ⟨r0, r1, r2, r3, hN⟩ := hrow4 HS5.out.row
    have m0 := cell_keep (below_alloc W5 (.cells #[.string k, .string v] 62)) r0
    have hwb := HS5.out.hb
    have hlen : m.facts.length ≤ 10000000 := by omega
    go_region_law
      (first
        | (refine step_append_own5 rfl _ _ 22 rfl base 62 i0 _ 2 32 Tryz.underlying22 hi hz0 hz1 hz2 rfl (by decide) _ _ _ rfl (own_below (W := W5) HS5.out.own.f (below_alloc W5 (.cells #[.string k, .string v] 62)).drew) ⟨W5.heap.size, 0, none⟩ 1 1 (cellsS ⟨k, v⟩) rfl rfl (cells_new W5 (cellsS ⟨k, v⟩) 62) (by intro u hu; simp [cellsS] at hu; rcases hu with rfl | rfl <;> rfl) (by unfold maxLen; omega) (by omega) (by simp; omega) ?_; intro p' c' w3 hown hgrow hblk; obtain ⟨q1, q2, q3, q4⟩ := HS5.out.addF (x := ⟨k, v⟩) (below_alloc W5 (.cells #[.string k, .string v] 62)).drew hown hgrow hblk))
    all_goals
      have HB6 := Lib.hid (((HB5.out.mono (show N ≤ w.heap.size from Nat.le_of_lt HS.out.row.lt)).trans q4))
      have HS6 := Lib.hid q3
      clear q1 q2 q3 q4 hown hgrow hblk m0 n0 n1 r0 r1 r2 r3
      generalize w3.setCell ⟨N, 0, none⟩ (.slice p' (m.facts.length + 1) c') = W6 at *
      have s1 : W6.cell? ⟨N, 1, none⟩ = some (.slice A.a2 m.files.length A.c2) := HS6.out.row.cell 1
      have s2 : W6.cell? ⟨N, 2, none⟩ = some (.slice A.a3 m.sets.length A.c3) := HS6.out.row.cell 2
      have s3 : W6.cell? ⟨N, 3, none⟩ = some (.slice A.a4 m.svcs.length A.c4) := HS6.out.row.cell 3
      go_wp2_with fail
      refine region_quiet_tail 21 mixed (by kernel_rfl) ?_
      simp only [List.take_succ_cons, List.take_zero, List.drop_succ_cons, List.drop_zero]
      repeat (first
        | go_big_quiet_step (first | fail)
        | (refine wpQuiet_step (fun K hK => ?_); go_simp; refine hK _ ?_; clear hK K))
      refine wpQuiet_nil ?_
      go_wp2_with fail
      go_ret
      exact ⟨_, by first | rfl | (simp; done), HS6.out.drew, HB6.out.drew⟩
end Go.Proofs.YtomikcemiacjmaaGreatDoor
