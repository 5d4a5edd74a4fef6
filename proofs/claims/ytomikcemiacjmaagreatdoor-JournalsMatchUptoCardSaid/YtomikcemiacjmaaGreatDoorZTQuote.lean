/- Walks: package outref1: Quote. -/
/- Walks: package disk: Quote. -/
import Derived.Test.YtomikcemiacjmaaGreatDoorZTPure
import Derived.Laws.BitsAllLaws
import Derived.BigQuiet
import Derived.Deep.RegionHeld3
import Derived.Deep.RegionLaw
import Derived.Test.YtomikcemiacjmaaGreatDoorZMWMach
import Derived.Lib.SlBytesRow

namespace Go.Proofs.YtomikcemiacjmaaGreatDoor
open Go.RowKit Go.Lib Go.Shelf

theorem Bld.lt {B b : Nat} {l : List UInt8} {w : World} (h : Bld B b l w) : b < w.heap.size := by
  rcases h with h | h <;> exact h.lt
theorem Bld.drew {B b : Nat} {l : List UInt8} {w : World} (h : Bld B b l w) : Bld B b l w.drew := by
  rcases h with h | h
  · exact .inl h.drew
  · exact .inr h.drew
namespace P
theorem and15b (c : UInt8) : bits .and .u8 (c.toNat : Int) 15 = ((c.toNat % 16 : Nat) : Int) := by
  have hc : c.toNat < 256 := c.toNat_lt
  have h1 : (BitVec.ofInt 8 (c.toNat : Int)).toNat = c.toNat := by
    rw [BitVec.ofInt_natCast, BitVec.toNat_ofNat]; exact Nat.mod_eq_of_lt (by omega)
  have h2 : (BitVec.ofInt 8 (15 : Int)).toNat = 15 := by decide
  show IntKind.u8.wrap ((BitVec.ofInt 8 (c.toNat : Int) &&& BitVec.ofInt 8 (15 : Int)).toNat : Int) = _
  rw [BitVec.toNat_and, h1, h2, show (15 : Nat) = 2 ^ 4 - 1 from rfl, Nat.and_two_pow_sub_one_eq_mod]
  simp [IntKind.wrap, IntKind.bits, IntKind.signed]
  omega
theorem wrap_u8 (n : Int) (h : 0 ≤ n ∧ n < 256) : IntKind.u8.wrap n = n := by
  simp [IntKind.wrap, IntKind.bits, IntKind.signed]
  omega
def hexS : ByteArray := ⟨#[48, 49, 50, 51, 52, 53, 54, 55, 56, 57, 97, 98, 99, 100, 101, 102]⟩
theorem hexS_get {d : Nat} (h : d < 16) (h' : d < hexS.size) : hexS[d] = hexC d := by
  have : d = 0 ∨ d = 1 ∨ d = 2 ∨ d = 3 ∨ d = 4 ∨ d = 5 ∨ d = 6 ∨ d = 7 ∨ d = 8 ∨ d = 9 ∨ d = 10 ∨ d = 11 ∨ d = 12 ∨ d = 13 ∨ d = 14 ∨ d = 15 := by omega
  rcases this with rfl | rfl | rfl | rfl | rfl | rfl | rfl | rfl | rfl | rfl | rfl | rfl | rfl | rfl | rfl | rfl <;> rfl
theorem hex_cut {d r : Nat} (hd : d < 16) (hr : r < 16) :
    (((⟨#[92, 120]⟩ : ByteArray) ++ (⟨#[48, 49, 50, 51, 52, 53, 54, 55, 56, 57, 97, 98, 99, 100, 101, 102]⟩ : ByteArray).extract d (d + 1)) ++ (⟨#[48, 49, 50, 51, 52, 53, 54, 55, 56, 57, 97, 98, 99, 100, 101, 102]⟩ : ByteArray).extract r (r + 1)).data.toList = [92, 120, hexC d, hexC r] ∧
    (((⟨#[92, 120]⟩ : ByteArray) ++ (⟨#[48, 49, 50, 51, 52, 53, 54, 55, 56, 57, 97, 98, 99, 100, 101, 102]⟩ : ByteArray).extract d (d + 1)) ++ (⟨#[48, 49, 50, 51, 52, 53, 54, 55, 56, 57, 97, 98, 99, 100, 101, 102]⟩ : ByteArray).extract r (r + 1)).size = 4 := by
  have h1 : ∀ d, d < 16 → ((⟨#[48, 49, 50, 51, 52, 53, 54, 55, 56, 57, 97, 98, 99, 100, 101, 102]⟩ : ByteArray).extract d (d + 1)).data.toList = [hexC d] := by
    intro d h
    have : d = 0 ∨ d = 1 ∨ d = 2 ∨ d = 3 ∨ d = 4 ∨ d = 5 ∨ d = 6 ∨ d = 7 ∨ d = 8 ∨ d = 9 ∨ d = 10 ∨ d = 11 ∨ d = 12 ∨ d = 13 ∨ d = 14 ∨ d = 15 := by omega
    rcases this with rfl | rfl | rfl | rfl | rfl | rfl | rfl | rfl | rfl | rfl | rfl | rfl | rfl | rfl | rfl | rfl <;> rfl
  have h2 : (((⟨#[92, 120]⟩ : ByteArray) ++ (⟨#[48, 49, 50, 51, 52, 53, 54, 55, 56, 57, 97, 98, 99, 100, 101, 102]⟩ : ByteArray).extract d (d + 1)) ++ (⟨#[48, 49, 50, 51, 52, 53, 54, 55, 56, 57, 97, 98, 99, 100, 101, 102]⟩ : ByteArray).extract r (r + 1)).data.toList = [92, 120, hexC d, hexC r] := by
    rw [ByteArray.data_append, ByteArray.data_append, Array.toList_append, Array.toList_append, h1 d hd, h1 r hr]; rfl
  exact ⟨h2, by rw [← size_len, h2]; rfl⟩
theorem quote_head (l : B) (k : Nat) : (34 :: quoteIn (l.take k)).length ≤ 4 * l.length + 1 := by
  have := quoteIn_le (l.take k)
  have := List.length_take_le' k l
  simp only [List.length_cons]; omega
theorem extract_one (s : ByteArray) (k : Nat) (h : k < s.size) : (s.extract k (k + 1)).data.toList = [s[k]] := by
  rw [ByteArray.data_extract]
  have hl : k < s.data.toList.length := by rw [size_len]; exact h
  simp only [Array.toList_extract, List.extract_eq_take_drop, Nat.add_sub_cancel_left]
  rw [List.drop_eq_getElem_cons hl]
  simp [ByteArray.getElem_eq_getElem_data]
end P

set_option maxRecDepth 100000 in
set_option maxHeartbeats 4000000 in
theorem rquote_any (s : ByteArray) (hs : s.size ≤ 4294967280) (w : World) :
    Calls Tryz.prog 58 #[.string s] w fun e w' => e = .returned (.string (P.quote s)) ∧ Below w.heap.size w w' := by
  have hl := P.size_len s
  have HS : Hid (∀ (l : P.B) (t : ByteArray) (W : World), Bld w.heap.size w.heap.size l W → l.length + t.size ≤ 140737488355328 → Calls Tryz.prog 144 #[.pointer (some ⟨w.heap.size, 0, none⟩), .string t] W fun e w' => e = .returned (.tuple #[.int .i64 t.size, .nilIface]) ∧ Bld w.heap.size w.heap.size (l ++ t.data.toList) w' ∧ Below w.heap.size W w') :=
    Lib.hid (fun l t W h hn => writeString_any _ _ l t W h hn (Nat.le_of_lt h.lt))
  have HB : Hid (∀ (l : P.B) (c : UInt8) (W : World), Bld w.heap.size w.heap.size l W → l.length + 1 ≤ 140737488355328 → Calls Tryz.prog 149 #[.pointer (some ⟨w.heap.size, 0, none⟩), .int .u8 (c.toNat : Int)] W fun e w' => e = .returned .nilIface ∧ Bld w.heap.size w.heap.size (l ++ [c]) w' ∧ Below w.heap.size W w') :=
    Lib.hid (fun l c W h hn => writeByte_any _ _ l c W h hn (Nat.le_of_lt h.lt))
  have HF := Lib.hid (Bld.fresh w)
  have H0 := Lib.hid (below_alloc w (.cells #[.pointer none, .slice none 0 0] 171))
  go_enter Tryz.func58, Tryz.ntmps58
  go_wp2_with fail
  refine (HB.out [] 34 _ HF.out (by simp)).mono ?_
  rintro e w1 ⟨rfl, hb, hw⟩
  have HF1 := Lib.hid hb
  have H1 := Lib.hid (H0.out.trans hw)
  clear hb hw HF H0
  go_wp2_with fail
  go_loopw [9] (fun i wr => ∃ k : Nat, k ≤ s.size ∧ i = .int .i64 k ∧ Hid (Bld w.heap.size w.heap.size (34 :: P.quoteIn (s.data.toList.take k)) wr) ∧ Hid (Below w.heap.size w wr)) (fun i _ => s.size - (RowKit.intOf i).toNat)
  case atStart => exact ⟨0, Nat.zero_le _, rfl, HF1, H1⟩
  case round =>
    obtain ⟨k, hk, rfl, HQ, HW⟩ := hrel
    have hlen := P.quote_head s.data.toList k
    rw [hl] at hlen
    by_cases hlt : k < s.size
    · have hlt2 : k < s.data.toList.length := by omega
      have hsn := P.quoteIn_snoc s.data.toList k hlt2
      have hg : s.data.toList[k] = s[k] := by rw [ByteArray.getElem_eq_getElem_data, Array.getElem_toList]
      rw [hg] at hsn
      have hx := P.extract_one s k hlt
      have HX := Lib.hid hx
      have hxs : (s.extract k (k + 1)).size = 1 := by rw [← P.size_len, hx]; rfl
      have HN : Hid (∀ t : P.B, t = P.quoteB s[k] → ∀ W, Bld w.heap.size w.heap.size ((34 :: P.quoteIn (s.data.toList.take k)) ++ t) W → Bld w.heap.size w.heap.size (34 :: P.quoteIn (s.data.toList.take (k + 1))) W) := Lib.hid (fun t ht W h => by
        subst ht; rw [hsn]; exact h)
      clear hsn hg hx
      generalize 34 :: P.quoteIn (s.data.toList.take k) = l at *
      have hend : ∀ (t : P.B) (W W' : World), t = P.quoteB s[k] → Bld w.heap.size w.heap.size (l ++ t) W' → W = wr → Below w.heap.size W W' → Hid (Bld w.heap.size w.heap.size (34 :: P.quoteIn (s.data.toList.take (k + 1))) W') ∧ Hid (Below w.heap.size w W') := fun t W W' ht hB e hb => ⟨HN.out t ht _ hB, by subst e; exact HW.out.trans hb⟩
      have HE := Lib.hid hend
      clear hend HN HW
      by_cases h34 : s[k].toNat = 34
      · have e1 : ((s[k].toNat : Int) == 34) = true := by simp [h34]
        have HT := Lib.hid (P.quoteB_esc (c := s[k]) (.inl h34))
        clear h34
        go_wp2_with fail
        refine (HS.out l _ _ HQ.out (by rw [ByteArray.size_append, hxs]; show _ + (1 + 1) ≤ _; omega)).mono ?_
        rintro e W' ⟨rfl, hB, hb⟩
        have HR := Lib.hid (HE.out [92, s[k]] _ _ HT.out.symm (by rw [ByteArray.data_append, Array.toList_append, HX.out] at hB; exact hB) rfl hb)
        clear hB hb
        go_wp2_with fail
        go_roundw
        case rel => exact ⟨k + 1, by omega, by go_num, HR.out.1, HR.out.2⟩
        case measure => simp [RowKit.intOf]; omega
      have e1 : ((s[k].toNat : Int) == 34) = false := by simp; omega
      by_cases h92 : s[k].toNat = 92
      · have e2 : ((s[k].toNat : Int) == 92) = true := by simp [h92]
        have HT := Lib.hid (P.quoteB_esc (c := s[k]) (.inr h92))
        clear h92
        go_wp2_with fail
        refine (HS.out l _ _ HQ.out (by rw [ByteArray.size_append, hxs]; show _ + (1 + 1) ≤ _; omega)).mono ?_
        rintro e W' ⟨rfl, hB, hb⟩
        have HR := Lib.hid (HE.out [92, s[k]] _ _ HT.out.symm (by rw [ByteArray.data_append, Array.toList_append, HX.out] at hB; exact hB) rfl hb)
        clear hB hb
        go_wp2_with fail
        go_roundw
        case rel => exact ⟨k + 1, by omega, by go_num, HR.out.1, HR.out.2⟩
        case measure => simp [RowKit.intOf]; omega
      have e2 : ((s[k].toNat : Int) == 92) = false := by simp; omega
      by_cases h10 : s[k].toNat = 10
      · have e3 : ((s[k].toNat : Int) == 10) = true := by simp [h10]
        have HT := Lib.hid (P.quoteB_nl (c := s[k]) h10)
        clear h10 h92 h34
        go_wp2_with fail
        refine (HS.out l _ _ HQ.out (by show _ + 2 ≤ _; omega)).mono ?_
        rintro e W' ⟨rfl, hB, hb⟩
        have HR := Lib.hid (HE.out [92, 110] _ _ HT.out.symm hB rfl hb)
        clear hB hb
        go_wp2_with fail
        go_roundw
        case rel => exact ⟨k + 1, by omega, by go_num, HR.out.1, HR.out.2⟩
        case measure => simp [RowKit.intOf]; omega
      have e3 : ((s[k].toNat : Int) == 10) = false := by simp; omega
      by_cases h32 : s[k].toNat < 32
      · have i1 : (s[k].toNat : Int) < 32 := by omega
        have HT := Lib.hid (P.quoteB_hex (c := s[k]) (.inl h32) h10)
        clear h10 h92 h34
        have hd : s[k].toNat / 16 < 16 := by have := s[k].toNat_lt; omega
        have hr : s[k].toNat % 16 < 16 := by omega
        have f1 : (s[k].toNat : Int) / 16 = ((s[k].toNat / 16 : Nat) : Int) := by omega
        have f2 := P.and15b s[k]
        have f3 : IntKind.u8.wrap (((s[k].toNat / 16 : Nat) : Int) + 1) = ((s[k].toNat / 16 : Nat) : Int) + 1 := P.wrap_u8 _ (by omega)
        have f4 : IntKind.u8.wrap (((s[k].toNat % 16 : Nat) : Int) + 1) = ((s[k].toNat % 16 : Nat) : Int) + 1 := P.wrap_u8 _ (by omega)
        generalize s[k].toNat / 16 = d at *
        generalize s[k].toNat % 16 = r at *
        have g1 : (0 : Int) ≤ (d : Int) + 1 := by omega
        have g2 : (d : Int) + 1 ≤ 16 := by omega
        have g3 : (d : Int) ≤ (d : Int) + 1 := by omega
        have g4 : (0 : Int) ≤ (r : Int) + 1 := by omega
        have g5 : (r : Int) + 1 ≤ 16 := by omega
        have g6 : (r : Int) ≤ (r : Int) + 1 := by omega
        have g7 : ¬ 9223372036854775807 < 2 + (min (d + 1) 16 - d) := by omega
        have g8 : ¬ 9223372036854775807 < 2 + (min (d + 1) 16 - d) + (min (r + 1) 16 - r) := by omega
        have HC := Lib.hid (P.hex_cut hd hr)
        have hS : Below w.heap.size wr wr.drew := (Below.refl _ _).drew
        go_wp2_with fail
        go_region_held3 (fun W => Below w.heap.size wr W) (first | with_reducible assumption)
          (first | (go_at_call 144; refine (HS.out l _ _ HQ.out.drew (by rw [HC.out.2]; omega)).mono ?_; rintro e W' ⟨rfl, hB, hb⟩; rw [HC.out.1] at hB; have HR := Lib.hid (HE.out [92, 120, P.hexC d, P.hexC r] _ _ HT.out.symm hB rfl (hS.trans hb)); have hS2 := hS.trans hb; clear hB hb))
        clear hS hS2
        go_wp2_with fail
        go_roundw
        case rel => exact ⟨k + 1, by omega, by go_num, HR.out.1, HR.out.2⟩
        case measure => simp [RowKit.intOf]; omega
      have i1 : (32 : Int) ≤ (s[k].toNat : Int) := by omega
      by_cases h126 : 126 < s[k].toNat
      · have i2 : (126 : Int) < (s[k].toNat : Int) := by omega
        have HT := Lib.hid (P.quoteB_hex (c := s[k]) (.inr h126) h10)
        clear h10 h92 h34
        have hd : s[k].toNat / 16 < 16 := by have := s[k].toNat_lt; omega
        have hr : s[k].toNat % 16 < 16 := by omega
        have f1 : (s[k].toNat : Int) / 16 = ((s[k].toNat / 16 : Nat) : Int) := by omega
        have f2 := P.and15b s[k]
        have f3 : IntKind.u8.wrap (((s[k].toNat / 16 : Nat) : Int) + 1) = ((s[k].toNat / 16 : Nat) : Int) + 1 := P.wrap_u8 _ (by omega)
        have f4 : IntKind.u8.wrap (((s[k].toNat % 16 : Nat) : Int) + 1) = ((s[k].toNat % 16 : Nat) : Int) + 1 := P.wrap_u8 _ (by omega)
        generalize s[k].toNat / 16 = d at *
        generalize s[k].toNat % 16 = r at *
        have g1 : (0 : Int) ≤ (d : Int) + 1 := by omega
        have g2 : (d : Int) + 1 ≤ 16 := by omega
        have g3 : (d : Int) ≤ (d : Int) + 1 := by omega
        have g4 : (0 : Int) ≤ (r : Int) + 1 := by omega
        have g5 : (r : Int) + 1 ≤ 16 := by omega
        have g6 : (r : Int) ≤ (r : Int) + 1 := by omega
        have g7 : ¬ 9223372036854775807 < 2 + (min (d + 1) 16 - d) := by omega
        have g8 : ¬ 9223372036854775807 < 2 + (min (d + 1) 16 - d) + (min (r + 1) 16 - r) := by omega
        have HC := Lib.hid (P.hex_cut hd hr)
        have hS : Below w.heap.size wr wr.drew := (Below.refl _ _).drew
        go_wp2_with fail
        go_region_held3 (fun W => Below w.heap.size wr W) (first | with_reducible assumption)
          (first | (go_at_call 144; refine (HS.out l _ _ HQ.out.drew (by rw [HC.out.2]; omega)).mono ?_; rintro e W' ⟨rfl, hB, hb⟩; rw [HC.out.1] at hB; have HR := Lib.hid (HE.out [92, 120, P.hexC d, P.hexC r] _ _ HT.out.symm hB rfl (hS.trans hb)); have hS2 := hS.trans hb; clear hB hb))
        clear hS hS2
        go_wp2_with fail
        go_roundw
        case rel => exact ⟨k + 1, by omega, by go_num, HR.out.1, HR.out.2⟩
        case measure => simp [RowKit.intOf]; omega
      have i2 : (s[k].toNat : Int) ≤ 126 := by omega
      have HT := Lib.hid (P.quoteB_plain (c := s[k]) h34 h92 h32 h126)
      clear h10 h92 h34
      go_wp2_with fail
      refine (HB.out l s[k] _ HQ.out (by omega)).mono ?_
      rintro e W' ⟨rfl, hB, hb⟩
      have HR := Lib.hid (HE.out [s[k]] _ _ HT.out.symm hB rfl hb)
      clear hB hb
      go_wp2_with fail
      go_roundw
      case rel => exact ⟨k + 1, by omega, by go_num, HR.out.1, HR.out.2⟩
      case measure => simp [RowKit.intOf]; omega
    · have hkl : k = s.size := by omega
      subst hkl
      have HQ2 : Hid (Bld w.heap.size w.heap.size (34 :: P.quoteIn s.data.toList) wr) := Lib.hid (by have := HQ.out; rwa [List.take_of_length_le (by omega)] at this)
      have HT : Hid (P.txt (34 :: P.quoteIn s.data.toList) ++ ⟨#[34]⟩ = P.quote s) := Lib.hid (P.txt_eq (by rw [ByteArray.data_append, Array.toList_append, P.txt_list]; rfl))
      have hz : (P.txt (34 :: P.quoteIn s.data.toList)).size ≤ 4 * s.size + 1 := by rw [P.txt_size]; rw [List.take_of_length_le (by omega)] at hlen; exact hlen
      have HY := Lib.hid (string_any w.heap.size w.heap.size _ wr HQ2.out (Nat.le_of_lt HQ2.out.lt))
      clear HQ HQ2 hlen
      change Hid (Calls _ _ _ _ fun e w' => e = .returned (.string (P.txt (34 :: P.quoteIn s.data.toList))) ∧ _) at HY
      generalize P.txt (34 :: P.quoteIn s.data.toList) = T at *
      go_wp2_with fail
      refine HY.out.mono ?_
      rintro e W' ⟨rfl, hb⟩
      have HR := Lib.hid (HW.out.trans hb)
      clear hb
      go_wp2_with fail
      go_ret
      exact ⟨by rw [HT.out]; rfl, HR.out⟩
end Go.Proofs.YtomikcemiacjmaaGreatDoor

namespace Go.Proofs.YtomikcemiacjmaaGreatDoor
open Go.RowKit Go.Lib Go.Shelf

theorem info5 : (Tryz.prog.info? 5).map (fun i => (i.zero, i.size, i.bytes)) = some (some (.int .u8 0), 1, 1) := by kernel_rfl
theorem new_cells (W : World) (vs : List Value) (t : TypeId) : ∀ j u, vs[j]? = some u → (W.alloc (.cells vs.toArray t)).cell? ((⟨W.heap.size, 0, none⟩ : Addr).add j) = some u := fun j u h => by
  have e : (⟨W.heap.size, 0, none⟩ : Addr).add j = ⟨W.heap.size, j, none⟩ := by simp [Addr.add]; exact fun h => h.symm
  rw [e, World.cell?_alloc_at _ _ _ _ rfl]
  simpa using h
theorem bytes_one (l : List UInt8) : ∀ u ∈ Lib.byteCells l, u.oneCell' = true := by
  intro u hu
  obtain ⟨c, _, rfl⟩ := List.mem_map.1 hu
  rfl
theorem byteCells_len (l : List UInt8) : (Lib.byteCells l).length = l.length := by unfold Lib.byteCells; simp
theorem byteCells_append (l m : List UInt8) : Lib.byteCells l ++ Lib.byteCells m = Lib.byteCells (l ++ m) := by unfold Lib.byteCells; simp
/-- the call's own bytes -/
def Own8 (B : Nat) (W : World) (v : Value) (l : List UInt8) : Prop := W.ownsRow B 5 1 v l.length (Lib.byteCells l)
theorem Own8.alloc {B : Nat} {W : World} {v : Value} {l : List UInt8} (h : Own8 B W v l) (o : Obj) : Own8 B (W.alloc o) v l := World.ownsRow.alloc h o
theorem own8_new (W : World) (l : List UInt8) (hl : l.length ≤ maxLen) : Own8 W.heap.size (W.alloc (.cells (Lib.byteCells l).toArray 5)) (.slice (some ⟨W.heap.size, 0, none⟩) l.length l.length) l :=
  ⟨by rw [byteCells_len]; omega, .inr ⟨W.heap.size, l.length, _, rfl, Nat.le_refl _, heap_alloc_new W _, Nat.le_refl _, hl, by simp [byteCells_len], by rw [Nat.mul_one]; exact List.take_of_length_le (by simp [byteCells_len])⟩⟩
theorem Own8.bytes {B : Nat} {W : World} {v : Value} {l : List UInt8} (h : Own8 B W v l) (h0 : l ≠ []) : ∃ g cap, v = .slice (some ⟨g, 0, none⟩) l.length cap ∧ Lib.Bytes W g 0 (P.txt l) := by
  obtain ⟨_, ⟨_, h2⟩ | ⟨g, cap, cur, rfl, _, hg, _, _, _, ht⟩⟩ := h
  · exact absurd (List.length_eq_zero_iff.1 h2) h0
  · refine ⟨g, cap, rfl, fun i hi => ?_⟩
    rw [P.txt_size] at hi
    have e : (P.txt l)[i]'(by rw [P.txt_size]; exact hi) = l[i] := by rw [ByteArray.getElem_eq_getElem_data]; simp [P.txt]
    have h1 : (cur.toList.take (l.length * 1))[i]? = (Lib.byteCells l)[i]? := by rw [ht]
    rw [List.getElem?_take_of_lt (by omega)] at h1
    simp only [World.cell?, hg, Nat.zero_add]
    simp only [Option.isSome_none, Bool.false_eq_true, if_false]
    rw [← Array.getElem?_toList, h1, e]
    unfold Lib.byteCells
    simp [hi]
/-- string(..) of the call's own bytes -/
theorem Own8.text {B : Nat} {W : World} {v : Value} {l : List UInt8} (h : Own8 B W v l) (h0 : l ≠ []) : (convert 111 9 v).run Tryz.prog W = .ok (.string (P.txt l)) W := by
  obtain ⟨g, cap, rfl, hb⟩ := h.bytes h0
  have := Lib.run_convert_whole (P := Tryz.prog) W 111 5 9 Tryz.underlying111 Tryz.underlying5 Tryz.underlying9 g 0 _ hb cap
  rwa [P.txt_size] at this

theorem own8_app {B n : Nat} {W : World} {v : Value} {l m : List UInt8} (h : W.ownsRow B 5 1 v (l.length + n) (Lib.byteCells l ++ Lib.byteCells m)) (hn : m.length = n := by rfl) : Own8 B W v (l ++ m) := by
  subst hn; unfold Own8; rw [List.length_append, ← byteCells_append]; exact h
theorem Own8.drew {B : Nat} {W : World} {v : Value} {l : List UInt8} (h : Own8 B W v l) : Own8 B W.drew v l := own_below h ((Below.refl _ _).drew)
/-- an append of bytes to the call's own, in a region that draws -/
theorem step_append_own8 {w : World} {ops : Array Oper} {o : Oper} {a : Act} {K : Act → World → Prop} {Q : Exit → Act → World → Prop} {E : Prop} (hgd : o.guard = none) (s x : Operand)
    (ho : o.op = .call { callee := .builtin .append, args := #[s, x], argTypes := #[111, 111] })
    (base : Nat) (v : Value) (l : List UInt8) (hs : a.eval s = v) (hown : Own8 base w v l)
    (g m c : Nat) (news : List UInt8) (hx : a.eval x = .slice (some ⟨g, 0, none⟩) m c) (hl : news.length = m) (hnews : ∀ j u, (Lib.byteCells news)[j]? = some u → w.cell? ((⟨g, 0, none⟩ : Addr).add j) = some u)
    (h63 : l.length + m ≤ 140737488355328) (hbase : base ≤ w.heap.size)
    (h : ∀ v' w', Own8 base w' v' (l ++ news) → w.grownBy w' v.ownBlock → K (a.put o.dst v') w') :
    if Region.wanted o (yielded ops a.tmps) = true then Oper.wp Tryz.prog o a w K Q else E := by
  obtain ⟨i0, hi, hz0, hz1, hz2⟩ := info_parts info5
  exact step_append_own hgd s x 111 ho base 5 i0 _ 1 1 Tryz.underlying111 hi hz0 hz1 hz2 rfl (by decide) v l.length _ hs hown ⟨g, 0, none⟩ m c (Lib.byteCells news) hx (by rw [byteCells_len, hl]; omega) hnews (bytes_one _) (by unfold maxLen; omega) (by omega) hbase
    (fun p' c' w' h1 h2 => h _ w' (own8_app h1 hl) h2)

set_option maxRecDepth 100000 in
set_option maxHeartbeats 4000000 in
theorem dquote_any (s : ByteArray) (hs : s.size ≤ 4294967280) (w : World) :
    Calls Tryz.prog 56 #[.string s] w fun e w' => e = .returned (.string (P.quote s)) ∧ Below w.heap.size w w' := by
  have hl := P.size_len s
  obtain ⟨i0, hi, hz0, hz1, hz2⟩ := info_parts info5
  have HF := Lib.hid (own8_new w [34] (by unfold maxLen; decide))
  have H0 := Lib.hid (below_alloc w (.cells (Lib.byteCells [34]).toArray 5))
  go_enter Tryz.func56, Tryz.ntmps56
  go_wp2_with fail
  go_loopw [3, 9] (fun q i wr => ∃ k : Nat, k ≤ s.size ∧ i = .int .i64 k ∧ Hid (Own8 w.heap.size wr q (34 :: P.quoteIn (s.data.toList.take k))) ∧ Hid (Below w.heap.size w wr)) (fun _ i _ => s.size - (RowKit.intOf i).toNat)
  case atStart => exact ⟨0, Nat.zero_le _, rfl, HF, H0⟩
  case round =>
    obtain ⟨k, hk, rfl, HQ, HW⟩ := hrel
    have HO : Hid (∀ k, u3.ownBlock = some k → w.heap.size ≤ k) := Lib.hid (fun k hk => (World.ownsRow.lt HQ.out k hk).1)
    have hlen := P.quote_head s.data.toList k
    rw [hl] at hlen
    by_cases hlt : k < s.size
    · have hlt2 : k < s.data.toList.length := by omega
      have hsn := P.quoteIn_snoc s.data.toList k hlt2
      have hg : s.data.toList[k] = s[k] := by rw [ByteArray.getElem_eq_getElem_data, Array.getElem_toList]
      rw [hg] at hsn
      have HE : Hid (∀ (t : P.B) (v : Value) (W W' : World), t = P.quoteB s[k] → Own8 w.heap.size W' v ((34 :: P.quoteIn (s.data.toList.take k)) ++ t) → Below w.heap.size wr W → W.grownBy W' u3.ownBlock → Hid (Own8 w.heap.size W' v (34 :: P.quoteIn (s.data.toList.take (k + 1)))) ∧ Hid (Below w.heap.size w W')) := Lib.hid (fun t v W W' ht hB hb hg => by
        subst ht
        exact ⟨by rw [hsn]; exact hB, (HW.out.trans hb).grown hg (Nat.le_trans HW.out.size hb.size) HO.out⟩)
      clear hsn hg
      generalize 34 :: P.quoteIn (s.data.toList.take k) = l at *
      by_cases h34 : s[k].toNat = 34
      · have e1 : ((s[k].toNat : Int) == 34) = true := by simp [h34]
        have e2 : ((s[k].toNat : Int) == 92) = false := by simp [h34]
        have HT := Lib.hid (P.quoteB_esc (c := s[k]) (.inl h34))
        clear h34
        go_wp2_with (at_builtin; refine wpList_append_own _ rfl _ _ 111 rfl w.heap.size 5 i0 _ 1 1 Tryz.underlying111 hi hz0 hz1 hz2 rfl (by decide) _ _ _ rfl (HQ.out.alloc _) ⟨wr.heap.size, 0, none⟩ 2 2 (Lib.byteCells [92, s[k]]) rfl rfl (new_cells _ _ _) (bytes_one _) (by unfold maxLen; omega) (by omega) (by have := HW.out.size; simp; omega) ?_; intro v' w1 hown hgrow hnil)
        have HR := Lib.hid (HE.out [92, s[k]] v' _ _ HT.out.symm (own8_app hown) ((below_alloc wr _).mono HW.out.size) hgrow)
        clear hown hgrow hnil
        go_roundw
        case rel => exact ⟨k + 1, by omega, by go_num, HR.out.1, HR.out.2⟩
        case measure => simp [RowKit.intOf]; omega
      have e1 : ((s[k].toNat : Int) == 34) = false := by simp; omega
      by_cases h92 : s[k].toNat = 92
      · have e2 : ((s[k].toNat : Int) == 92) = true := by simp [h92]
        have HT := Lib.hid (P.quoteB_esc (c := s[k]) (.inr h92))
        clear h92
        go_wp2_with (at_builtin; refine wpList_append_own _ rfl _ _ 111 rfl w.heap.size 5 i0 _ 1 1 Tryz.underlying111 hi hz0 hz1 hz2 rfl (by decide) _ _ _ rfl (HQ.out.alloc _) ⟨wr.heap.size, 0, none⟩ 2 2 (Lib.byteCells [92, s[k]]) rfl rfl (new_cells _ _ _) (bytes_one _) (by unfold maxLen; omega) (by omega) (by have := HW.out.size; simp; omega) ?_; intro v' w1 hown hgrow hnil)
        have HR := Lib.hid (HE.out [92, s[k]] v' _ _ HT.out.symm (own8_app hown) ((below_alloc wr _).mono HW.out.size) hgrow)
        clear hown hgrow hnil
        go_roundw
        case rel => exact ⟨k + 1, by omega, by go_num, HR.out.1, HR.out.2⟩
        case measure => simp [RowKit.intOf]; omega
      have e2 : ((s[k].toNat : Int) == 92) = false := by simp; omega
      by_cases h10 : s[k].toNat = 10
      · have e3 : ((s[k].toNat : Int) == 10) = true := by simp [h10]
        have HT := Lib.hid (P.quoteB_nl (c := s[k]) h10)
        clear h10 h92 h34
        go_wp2_with (at_builtin; refine wpList_append_own _ rfl _ _ 111 rfl w.heap.size 5 i0 _ 1 1 Tryz.underlying111 hi hz0 hz1 hz2 rfl (by decide) _ _ _ rfl (HQ.out.alloc _) ⟨wr.heap.size, 0, none⟩ 2 2 (Lib.byteCells [92, 110]) rfl rfl (new_cells _ _ _) (bytes_one _) (by unfold maxLen; omega) (by omega) (by have := HW.out.size; simp; omega) ?_; intro v' w1 hown hgrow hnil)
        have HR := Lib.hid (HE.out [92, 110] v' _ _ HT.out.symm (own8_app hown) ((below_alloc wr _).mono HW.out.size) hgrow)
        clear hown hgrow hnil
        go_roundw
        case rel => exact ⟨k + 1, by omega, by go_num, HR.out.1, HR.out.2⟩
        case measure => simp [RowKit.intOf]; omega
      have e3 : ((s[k].toNat : Int) == 10) = false := by simp; omega
      by_cases h32 : s[k].toNat < 32
      · have i1 : (s[k].toNat : Int) < 32 := by omega
        have HT := Lib.hid (P.quoteB_hex (c := s[k]) (.inl h32) h10)
        clear h10 h92 h34
        have hd : s[k].toNat / 16 < 16 := by have := s[k].toNat_lt; omega
        have hr : s[k].toNat % 16 < 16 := by omega
        have f1 : (s[k].toNat : Int) / 16 = ((s[k].toNat / 16 : Nat) : Int) := by omega
        have f2 := P.and15b s[k]
        generalize s[k].toNat / 16 = d at *
        generalize s[k].toNat % 16 = r at *
        have g1 : (0 : Int) ≤ (d : Int) := by omega
        have g2 : (d : Int) < 16 := by omega
        have g3 : (0 : Int) ≤ (r : Int) := by omega
        have g4 : (r : Int) < 16 := by omega
        have hd16 : d < P.hexS.size := by show d < 16; exact hd
        have hr16 : r < P.hexS.size := by show r < 16; exact hr
        rw [← P.hexS_get hd hd16, ← P.hexS_get hr hr16] at HT
        have HB0 : Hid (Below w.heap.size wr wr.drew) := Lib.hid (Below.refl _ _).drew
        go_wp2_with fail
        go_region_law
          (first
            | (refine step_append_own8 rfl _ _ rfl w.heap.size _ _ rfl (HQ.out.drew.alloc _) wr.heap.size 4 4 [92, 120, P.hexS[d], P.hexS[r]] rfl rfl (new_cells wr.drew _ _) (by omega) (by have := HW.out.size; simp; omega) ?_; intro v' w1 hown hgrow))
        all_goals
          have HR := Lib.hid (HE.out [92, 120, P.hexS[d], P.hexS[r]] v' _ _ HT.out.symm hown (by first | exact ((below_alloc wr _).mono HW.out.size).drew | exact (below_alloc wr _).mono HW.out.size) hgrow)
          clear hown hgrow
          go_wp2_with fail
          go_roundw
          case rel => exact ⟨k + 1, by omega, by go_num, HR.out.1, HR.out.2⟩
          case measure => simp [RowKit.intOf]; omega
      have i1 : (32 : Int) ≤ (s[k].toNat : Int) := by omega
      by_cases h126 : 126 < s[k].toNat
      · have i2 : (126 : Int) < (s[k].toNat : Int) := by omega
        have HT := Lib.hid (P.quoteB_hex (c := s[k]) (.inr h126) h10)
        clear h10 h92 h34
        have hd : s[k].toNat / 16 < 16 := by have := s[k].toNat_lt; omega
        have hr : s[k].toNat % 16 < 16 := by omega
        have f1 : (s[k].toNat : Int) / 16 = ((s[k].toNat / 16 : Nat) : Int) := by omega
        have f2 := P.and15b s[k]
        generalize s[k].toNat / 16 = d at *
        generalize s[k].toNat % 16 = r at *
        have g1 : (0 : Int) ≤ (d : Int) := by omega
        have g2 : (d : Int) < 16 := by omega
        have g3 : (0 : Int) ≤ (r : Int) := by omega
        have g4 : (r : Int) < 16 := by omega
        have hd16 : d < P.hexS.size := by show d < 16; exact hd
        have hr16 : r < P.hexS.size := by show r < 16; exact hr
        rw [← P.hexS_get hd hd16, ← P.hexS_get hr hr16] at HT
        have HB0 : Hid (Below w.heap.size wr wr.drew) := Lib.hid (Below.refl _ _).drew
        go_wp2_with fail
        go_region_law
          (first
            | (refine step_append_own8 rfl _ _ rfl w.heap.size _ _ rfl (HQ.out.drew.alloc _) wr.heap.size 4 4 [92, 120, P.hexS[d], P.hexS[r]] rfl rfl (new_cells wr.drew _ _) (by omega) (by have := HW.out.size; simp; omega) ?_; intro v' w1 hown hgrow))
        all_goals
          have HR := Lib.hid (HE.out [92, 120, P.hexS[d], P.hexS[r]] v' _ _ HT.out.symm hown (by first | exact ((below_alloc wr _).mono HW.out.size).drew | exact (below_alloc wr _).mono HW.out.size) hgrow)
          clear hown hgrow
          go_wp2_with fail
          go_roundw
          case rel => exact ⟨k + 1, by omega, by go_num, HR.out.1, HR.out.2⟩
          case measure => simp [RowKit.intOf]; omega
      have i2 : (s[k].toNat : Int) ≤ 126 := by omega
      have HT := Lib.hid (P.quoteB_plain (c := s[k]) h34 h92 h32 h126)
      clear h10 h92 h34
      go_wp2_with (at_builtin; refine wpList_append_own _ rfl _ _ 111 rfl w.heap.size 5 i0 _ 1 1 Tryz.underlying111 hi hz0 hz1 hz2 rfl (by decide) _ _ _ rfl (HQ.out.alloc _) ⟨wr.heap.size, 0, none⟩ 1 1 (Lib.byteCells [s[k]]) rfl rfl (new_cells _ _ _) (bytes_one _) (by unfold maxLen; omega) (by omega) (by have := HW.out.size; simp; omega) ?_; intro v' w1 hown hgrow hnil)
      have HR := Lib.hid (HE.out [s[k]] v' _ _ HT.out.symm (own8_app hown) ((below_alloc wr _).mono HW.out.size) hgrow)
      clear hown hgrow hnil
      go_roundw
      case rel => exact ⟨k + 1, by omega, by go_num, HR.out.1, HR.out.2⟩
      case measure => simp [RowKit.intOf]; omega
    · have hkl : k = s.size := by omega
      subst hkl
      have HQ2 : Hid (Own8 w.heap.size wr u3 (34 :: P.quoteIn s.data.toList)) := Lib.hid (by have := HQ.out; rwa [List.take_of_length_le (by omega)] at this)
      have hz : (34 :: P.quoteIn s.data.toList).length ≤ 4 * s.size + 1 := by rw [List.take_of_length_le (by omega)] at hlen; exact hlen
      have HT : Hid (P.txt ((34 :: P.quoteIn s.data.toList) ++ [34]) = P.quote s) := Lib.hid rfl
      clear HQ hlen
      generalize 34 :: P.quoteIn s.data.toList = l at *
      go_wp2_with (at_builtin; refine wpList_append_own _ rfl _ _ 111 rfl w.heap.size 5 i0 _ 1 1 Tryz.underlying111 hi hz0 hz1 hz2 rfl (by decide) _ _ _ rfl (HQ2.out.alloc _) ⟨wr.heap.size, 0, none⟩ 1 1 (Lib.byteCells [34]) rfl rfl (new_cells _ _ _) (bytes_one _) (by unfold maxLen; omega) (by omega) (by have := HW.out.size; simp; omega) ?_; intro v' w1 hown hgrow hnil; have hcv := Own8.text (own8_app hown) (by simp))
      have HR := Lib.hid ((HW.out.trans ((below_alloc wr _).mono HW.out.size)).grown hgrow (Nat.le_trans HW.out.size (below_alloc _ _).size) HO.out)
      go_ret
      exact ⟨by rw [← HT.out]; rfl, HR.out⟩
end Go.Proofs.YtomikcemiacjmaaGreatDoor
