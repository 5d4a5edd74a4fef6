/- Walks: package disk: finding a thing of a right machine: slices.BinarySearchFunc, the function that compares. -/
/- Walks: package disk: lookUp of right machines. -/
/- Walks: package disk: Fact, File, Setting, Service of right machines. -/
import Derived.Test.YtpnjlhippngfcaaGreatDoorZMWRow
import Derived.Test.YtpnjlhippngfcaaGreatDoorZMMiss
import Derived.Test.YtpnjlhippngfcaaGreatDoorZMBad
import Derived.Test.YtpnjlhippngfcaaGreatDoorZMWFit

namespace Go.Proofs.YtpnjlhippngfcaaGreatDoor
open Go.RowKit Go.Shelf

/-- what a search by halves says -/
def Found {α : Type} (key : α → ByteArray) (L : List α) (s : ByteArray) (w : World) (e : Ending) (w' : World) : Prop :=
  ∃ (i : Nat) (t : Bool), e = .returned (.tuple #[.int .i64 i, .bool t]) ∧ ((t = false ∧ P.findK key L s = none) ∨ (t = true ∧ ∃ h : i < L.length, P.findK key L s = some L[i])) ∧ Below w.heap.size w w'

set_option maxHeartbeats 4000000 in
theorem searchS_any (L : List P.St) (a : Option Addr) (cap : Nat) (hl : L.length ≤ 4294967280) (hr : P.Rising P.St.k L) (s : ByteArray) (gc : Nat) (eg : ∀ args w, (callFunc gc args).run Tryz.prog w = .ok (.enter gc args) w) (c1 : Value) (w : World) (hm : StsAt w.heap.size w a L cap)
    (hC : ∀ k (hk : k < L.length) W', Below w.heap.size w W' → Calls Tryz.prog gc #[.agg #[.string L[k].k, .string L[k].v], .string s, c1] W' fun e w' => e = .returned (.int .i64 (P.cmpS L[k].k s)) ∧ Below W'.heap.size W' w') :
    Calls Tryz.prog 146 #[.slice a L.length cap, .string s, .func (.func gc) #[] #[c1]] w (Found P.St.k L s w) := by
  have HM := Lib.hid hm
  have HC := Lib.hid hC
  have HR := Lib.hid hr
  clear hm hC hr
  go_enter Tryz.func146, Tryz.ntmps146
  go_wp2_with fail
  go_loopw [9, 10] (fun x y wr => ∃ lo hi : Nat, x = .int .i64 lo ∧ y = .int .i64 hi ∧ lo ≤ hi ∧ hi ≤ L.length ∧ Hid (Below w.heap.size w wr) ∧ Hid (∀ t (_ : t < L.length), t < lo → P.ltB L[t].k s) ∧ Hid (∀ t (_ : t < L.length), hi ≤ t → ¬ P.ltB L[t].k s)) (fun x y _ => (intOf y).toNat - (intOf x).toNat)
  case atStart => exact ⟨0, L.length, rfl, rfl, Nat.zero_le _, Nat.le_refl _, Lib.hid (Below.refl _ _), Lib.hid (fun t _ h => absurd h (by omega)), Lib.hid (fun t h1 h2 => absurd h2 (by omega))⟩
  case round =>
    obtain ⟨lo, hi, rfl, rfl, hle, hhi, HB, H1, H2⟩ := hrel
    by_cases hlt : lo < hi
    · have hmid : (lo + hi) / 2 < L.length := by omega
      obtain ⟨b, off, rfl, hbm, hc⟩ := (HM.out.below HB.out).at_ (ne_nil_of_lt hmid)
      obtain ⟨d0, d1⟩ := hc _ hmid
      have HK := Lib.hid (fun W' hb => HC.out _ hmid W' hb)
      have HLo := Lib.hid (fun h => P.below_all (s := s) HR.out hmid h)
      have HHi := Lib.hid (fun h => P.above_all (s := s) HR.out hmid h)
      have HN := Lib.hid (P.cmpS_neg L[(lo + hi) / 2].k s)
      clear hc
      generalize P.cmpS L[(lo + hi) / 2].k s = r at *
      generalize L[(lo + hi) / 2] = x at *
      by_cases hx : r < 0
      · have HL2 := Lib.hid (HLo.out (HN.out.1 hx))
        clear HLo HHi HN
        go_wp2_with (refine (HK.out _ HB.out).mono ?_; rintro e w2 ⟨rfl, hb2⟩)
        have HB2 := Lib.hid (bstep HB.out hb2)
        clear hb2
        go_roundw
        case rel => exact ⟨(lo + hi) / 2 + 1, hi, by go_num, rfl, by omega, hhi, HB2, HL2, H2⟩
        case measure => simp [intOf]; omega
      · have HL2 := Lib.hid (HHi.out (fun h => hx (HN.out.2 h)))
        clear HLo HHi HN
        go_wp2_with (refine (HK.out _ HB.out).mono ?_; rintro e w2 ⟨rfl, hb2⟩)
        have HB2 := Lib.hid (bstep HB.out hb2)
        clear hb2
        go_roundw
        case rel => exact ⟨lo, (lo + hi) / 2, rfl, by go_num, by omega, by omega, HB2, H1, HL2⟩
        case measure => simp [intOf]; omega
    · obtain rfl : hi = lo := by omega
      by_cases hn : hi < L.length
      · obtain ⟨b, off, rfl, hbm, hc⟩ := (HM.out.below HB.out).at_ (ne_nil_of_lt hn)
        obtain ⟨d0, d1⟩ := hc _ hn
        have HK := Lib.hid (fun W' hb => HC.out _ hn W' hb)
        have HY := Lib.hid (fun h => P.search_hit (s := s) HR.out hn h)
        have HZ := Lib.hid (fun (h : L[hi].k ≠ s) => P.search_miss (s := s) HR.out H1.out H2.out (fun _ => h))
        have HN := Lib.hid (P.cmpS_zero L[hi].k s)
        clear hc
        generalize hrr : P.cmpS L[hi].k s = r at *
        clear hrr
        generalize hxx : L[hi] = x at *
        have HX := Lib.hid hxx
        clear hxx
        by_cases hx : r = 0
        · have HF := Lib.hid (HY.out (HN.out.1 hx))
          clear HY HZ HN
          subst hx
          go_wp2_with (refine (HK.out _ HB.out).mono ?_; rintro e w2 ⟨rfl, hb2⟩)
          go_ret2
          exact ⟨hi, true, rfl, .inr ⟨rfl, hn, by rw [HX.out]; exact HF.out⟩, bstep HB.out hb2⟩
        · have HF := Lib.hid (HZ.out (fun h => hx (HN.out.2 h)))
          clear HY HZ HN
          have hx2 : (r == 0) = false := by simpa using hx
          go_wp2_with (refine (HK.out _ HB.out).mono ?_; rintro e w2 ⟨rfl, hb2⟩)
          go_ret2
          exact ⟨hi, false, rfl, .inl ⟨rfl, HF.out⟩, bstep HB.out hb2⟩
      · have HF := Lib.hid (P.search_miss (s := s) HR.out H1.out H2.out (fun h => absurd h hn))
        go_wp2_with fail
        go_ret2
        exact ⟨hi, false, rfl, .inl ⟨rfl, HF.out⟩, HB.out⟩

set_option maxHeartbeats 1000000 in
theorem lookCS_any (x : P.St) (s : ByteArray) (Bk : Nat) (w : World) (hK : w.cell? ⟨Bk, 0, none⟩ = some (.func (.func 66) #[] #[])) :
    Calls Tryz.prog 147 #[.agg #[.string x.k, .string x.v], .string s, .pointer (some ⟨Bk, 0, none⟩)] w fun e w' => e = .returned (.int .i64 (P.cmpS x.k s)) ∧ Below w.heap.size w w' := by
  have eK := enters_of Tryz.func66 (by kernel_rfl) rfl
  have HY := Lib.hid keyOf_below
  have hcon := fun W' => Tryz.strings_Compare x.k s W'
  rw [show Lib.compareBytes x.k.data.toList s.data.toList = P.cmpS x.k s from rfl] at hcon
  generalize P.cmpS x.k s = r at hcon ⊢
  have HCo := Lib.hid hcon
  clear hcon
  have hK2 := cell_keep (below_alloc w (.cells #[.string x.k, .string x.v] 62)) hK
  clear hK
  go_enter Tryz.func147, Tryz.ntmps147
  go_wp2_with (first
    | (go_at_call 66; refine (HY.out _ _ _).mono ?_; rintro e w2 ⟨rfl, hb2⟩)
    | (go_at_call 97; refine (HCo.out _).mono ?_; rintro e w3 ⟨rfl, rfl⟩))
  go_ret
  exact ⟨rfl, bstep (below_alloc _ _) hb2⟩

set_option maxHeartbeats 4000000 in
theorem searchF_any (L : List P.Fi) (a : Option Addr) (cap : Nat) (hl : L.length ≤ 4294967280) (hr : P.Rising P.Fi.p L) (s : ByteArray) (gc : Nat) (eg : ∀ args w, (callFunc gc args).run Tryz.prog w = .ok (.enter gc args) w) (c1 : Value) (w : World) (hm : FisAt w.heap.size w a L cap)
    (hC : ∀ k (hk : k < L.length) W', Below w.heap.size w W' → Calls Tryz.prog gc #[.agg #[.string L[k].p, .string L[k].d, .bool L[k].r], .string s, c1] W' fun e w' => e = .returned (.int .i64 (P.cmpS L[k].p s)) ∧ Below W'.heap.size W' w') :
    Calls Tryz.prog 148 #[.slice a L.length cap, .string s, .func (.func gc) #[] #[c1]] w (Found P.Fi.p L s w) := by
  have HM := Lib.hid hm
  have HC := Lib.hid hC
  have HR := Lib.hid hr
  clear hm hC hr
  go_enter Tryz.func148, Tryz.ntmps148
  go_wp2_with fail
  go_loopw [9, 10] (fun x y wr => ∃ lo hi : Nat, x = .int .i64 lo ∧ y = .int .i64 hi ∧ lo ≤ hi ∧ hi ≤ L.length ∧ Hid (Below w.heap.size w wr) ∧ Hid (∀ t (_ : t < L.length), t < lo → P.ltB L[t].p s) ∧ Hid (∀ t (_ : t < L.length), hi ≤ t → ¬ P.ltB L[t].p s)) (fun x y _ => (intOf y).toNat - (intOf x).toNat)
  case atStart => exact ⟨0, L.length, rfl, rfl, Nat.zero_le _, Nat.le_refl _, Lib.hid (Below.refl _ _), Lib.hid (fun t _ h => absurd h (by omega)), Lib.hid (fun t h1 h2 => absurd h2 (by omega))⟩
  case round =>
    obtain ⟨lo, hi, rfl, rfl, hle, hhi, HB, H1, H2⟩ := hrel
    by_cases hlt : lo < hi
    · have hmid : (lo + hi) / 2 < L.length := by omega
      obtain ⟨b, off, rfl, hbm, hc⟩ := (HM.out.below HB.out).at_ (ne_nil_of_lt hmid)
      obtain ⟨d0, d1, d2⟩ := hc _ hmid
      have HK := Lib.hid (fun W' hb => HC.out _ hmid W' hb)
      have HLo := Lib.hid (fun h => P.below_all (s := s) HR.out hmid h)
      have HHi := Lib.hid (fun h => P.above_all (s := s) HR.out hmid h)
      have HN := Lib.hid (P.cmpS_neg L[(lo + hi) / 2].p s)
      clear hc
      generalize P.cmpS L[(lo + hi) / 2].p s = r at *
      generalize L[(lo + hi) / 2] = x at *
      by_cases hx : r < 0
      · have HL2 := Lib.hid (HLo.out (HN.out.1 hx))
        clear HLo HHi HN
        go_wp2_with (refine (HK.out _ HB.out).mono ?_; rintro e w2 ⟨rfl, hb2⟩)
        have HB2 := Lib.hid (bstep HB.out hb2)
        clear hb2
        go_roundw
        case rel => exact ⟨(lo + hi) / 2 + 1, hi, by go_num, rfl, by omega, hhi, HB2, HL2, H2⟩
        case measure => simp [intOf]; omega
      · have HL2 := Lib.hid (HHi.out (fun h => hx (HN.out.2 h)))
        clear HLo HHi HN
        go_wp2_with (refine (HK.out _ HB.out).mono ?_; rintro e w2 ⟨rfl, hb2⟩)
        have HB2 := Lib.hid (bstep HB.out hb2)
        clear hb2
        go_roundw
        case rel => exact ⟨lo, (lo + hi) / 2, rfl, by go_num, by omega, by omega, HB2, H1, HL2⟩
        case measure => simp [intOf]; omega
    · obtain rfl : hi = lo := by omega
      by_cases hn : hi < L.length
      · obtain ⟨b, off, rfl, hbm, hc⟩ := (HM.out.below HB.out).at_ (ne_nil_of_lt hn)
        obtain ⟨d0, d1, d2⟩ := hc _ hn
        have HK := Lib.hid (fun W' hb => HC.out _ hn W' hb)
        have HY := Lib.hid (fun h => P.search_hit (s := s) HR.out hn h)
        have HZ := Lib.hid (fun (h : L[hi].p ≠ s) => P.search_miss (s := s) HR.out H1.out H2.out (fun _ => h))
        have HN := Lib.hid (P.cmpS_zero L[hi].p s)
        clear hc
        generalize hrr : P.cmpS L[hi].p s = r at *
        clear hrr
        generalize hxx : L[hi] = x at *
        have HX := Lib.hid hxx
        clear hxx
        by_cases hx : r = 0
        · have HF := Lib.hid (HY.out (HN.out.1 hx))
          clear HY HZ HN
          subst hx
          go_wp2_with (refine (HK.out _ HB.out).mono ?_; rintro e w2 ⟨rfl, hb2⟩)
          go_ret2
          exact ⟨hi, true, rfl, .inr ⟨rfl, hn, by rw [HX.out]; exact HF.out⟩, bstep HB.out hb2⟩
        · have HF := Lib.hid (HZ.out (fun h => hx (HN.out.2 h)))
          clear HY HZ HN
          have hx2 : (r == 0) = false := by simpa using hx
          go_wp2_with (refine (HK.out _ HB.out).mono ?_; rintro e w2 ⟨rfl, hb2⟩)
          go_ret2
          exact ⟨hi, false, rfl, .inl ⟨rfl, HF.out⟩, bstep HB.out hb2⟩
      · have HF := Lib.hid (P.search_miss (s := s) HR.out H1.out H2.out (fun h => absurd h hn))
        go_wp2_with fail
        go_ret2
        exact ⟨hi, false, rfl, .inl ⟨rfl, HF.out⟩, HB.out⟩

set_option maxHeartbeats 1000000 in
theorem lookCF_any (x : P.Fi) (s : ByteArray) (Bk : Nat) (w : World) (hK : w.cell? ⟨Bk, 0, none⟩ = some (.func (.func 69) #[] #[])) :
    Calls Tryz.prog 149 #[.agg #[.string x.p, .string x.d, .bool x.r], .string s, .pointer (some ⟨Bk, 0, none⟩)] w fun e w' => e = .returned (.int .i64 (P.cmpS x.p s)) ∧ Below w.heap.size w w' := by
  have eK := enters_of Tryz.func69 (by kernel_rfl) rfl
  have HY := Lib.hid pathOf_any
  have hcon := fun W' => Tryz.strings_Compare x.p s W'
  rw [show Lib.compareBytes x.p.data.toList s.data.toList = P.cmpS x.p s from rfl] at hcon
  generalize P.cmpS x.p s = r at hcon ⊢
  have HCo := Lib.hid hcon
  clear hcon
  have hK2 := cell_keep (below_alloc w (.cells #[.string x.p, .string x.d, .bool x.r] 42)) hK
  clear hK
  go_enter Tryz.func149, Tryz.ntmps149
  go_wp2_with (first
    | (go_at_call 69; refine (HY.out _ _ _ _).mono ?_; rintro e w2 ⟨rfl, hb2⟩)
    | (go_at_call 97; refine (HCo.out _).mono ?_; rintro e w3 ⟨rfl, rfl⟩))
  go_ret
  exact ⟨rfl, bstep (below_alloc _ _) hb2⟩

set_option maxHeartbeats 4000000 in
theorem searchV_any (L : List P.Sv) (a : Option Addr) (cap : Nat) (hl : L.length ≤ 4294967280) (hr : P.Rising P.Sv.n L) (s : ByteArray) (gc : Nat) (eg : ∀ args w, (callFunc gc args).run Tryz.prog w = .ok (.enter gc args) w) (c1 : Value) (w : World) (hm : SvsAt w.heap.size w a L cap)
    (hC : ∀ k (hk : k < L.length) W', Below w.heap.size w W' → Calls Tryz.prog gc #[.agg #[.string L[k].n, .string L[k].p, .bool L[k].a, .bool L[k].o], .string s, c1] W' fun e w' => e = .returned (.int .i64 (P.cmpS L[k].n s)) ∧ Below W'.heap.size W' w') :
    Calls Tryz.prog 151 #[.slice a L.length cap, .string s, .func (.func gc) #[] #[c1]] w (Found P.Sv.n L s w) := by
  have HM := Lib.hid hm
  have HC := Lib.hid hC
  have HR := Lib.hid hr
  clear hm hC hr
  go_enter Tryz.func151, Tryz.ntmps151
  go_wp2_with fail
  go_loopw [9, 10] (fun x y wr => ∃ lo hi : Nat, x = .int .i64 lo ∧ y = .int .i64 hi ∧ lo ≤ hi ∧ hi ≤ L.length ∧ Hid (Below w.heap.size w wr) ∧ Hid (∀ t (_ : t < L.length), t < lo → P.ltB L[t].n s) ∧ Hid (∀ t (_ : t < L.length), hi ≤ t → ¬ P.ltB L[t].n s)) (fun x y _ => (intOf y).toNat - (intOf x).toNat)
  case atStart => exact ⟨0, L.length, rfl, rfl, Nat.zero_le _, Nat.le_refl _, Lib.hid (Below.refl _ _), Lib.hid (fun t _ h => absurd h (by omega)), Lib.hid (fun t h1 h2 => absurd h2 (by omega))⟩
  case round =>
    obtain ⟨lo, hi, rfl, rfl, hle, hhi, HB, H1, H2⟩ := hrel
    by_cases hlt : lo < hi
    · have hmid : (lo + hi) / 2 < L.length := by omega
      obtain ⟨b, off, rfl, hbm, hc⟩ := (HM.out.below HB.out).at_ (ne_nil_of_lt hmid)
      obtain ⟨d0, d1, d2, d3⟩ := hc _ hmid
      have HK := Lib.hid (fun W' hb => HC.out _ hmid W' hb)
      have HLo := Lib.hid (fun h => P.below_all (s := s) HR.out hmid h)
      have HHi := Lib.hid (fun h => P.above_all (s := s) HR.out hmid h)
      have HN := Lib.hid (P.cmpS_neg L[(lo + hi) / 2].n s)
      clear hc
      generalize P.cmpS L[(lo + hi) / 2].n s = r at *
      generalize L[(lo + hi) / 2] = x at *
      by_cases hx : r < 0
      · have HL2 := Lib.hid (HLo.out (HN.out.1 hx))
        clear HLo HHi HN
        go_wp2_with (refine (HK.out _ HB.out).mono ?_; rintro e w2 ⟨rfl, hb2⟩)
        have HB2 := Lib.hid (bstep HB.out hb2)
        clear hb2
        go_roundw
        case rel => exact ⟨(lo + hi) / 2 + 1, hi, by go_num, rfl, by omega, hhi, HB2, HL2, H2⟩
        case measure => simp [intOf]; omega
      · have HL2 := Lib.hid (HHi.out (fun h => hx (HN.out.2 h)))
        clear HLo HHi HN
        go_wp2_with (refine (HK.out _ HB.out).mono ?_; rintro e w2 ⟨rfl, hb2⟩)
        have HB2 := Lib.hid (bstep HB.out hb2)
        clear hb2
        go_roundw
        case rel => exact ⟨lo, (lo + hi) / 2, rfl, by go_num, by omega, by omega, HB2, H1, HL2⟩
        case measure => simp [intOf]; omega
    · obtain rfl : hi = lo := by omega
      by_cases hn : hi < L.length
      · obtain ⟨b, off, rfl, hbm, hc⟩ := (HM.out.below HB.out).at_ (ne_nil_of_lt hn)
        obtain ⟨d0, d1, d2, d3⟩ := hc _ hn
        have HK := Lib.hid (fun W' hb => HC.out _ hn W' hb)
        have HY := Lib.hid (fun h => P.search_hit (s := s) HR.out hn h)
        have HZ := Lib.hid (fun (h : L[hi].n ≠ s) => P.search_miss (s := s) HR.out H1.out H2.out (fun _ => h))
        have HN := Lib.hid (P.cmpS_zero L[hi].n s)
        clear hc
        generalize hrr : P.cmpS L[hi].n s = r at *
        clear hrr
        generalize hxx : L[hi] = x at *
        have HX := Lib.hid hxx
        clear hxx
        by_cases hx : r = 0
        · have HF := Lib.hid (HY.out (HN.out.1 hx))
          clear HY HZ HN
          subst hx
          go_wp2_with (refine (HK.out _ HB.out).mono ?_; rintro e w2 ⟨rfl, hb2⟩)
          go_ret2
          exact ⟨hi, true, rfl, .inr ⟨rfl, hn, by rw [HX.out]; exact HF.out⟩, bstep HB.out hb2⟩
        · have HF := Lib.hid (HZ.out (fun h => hx (HN.out.2 h)))
          clear HY HZ HN
          have hx2 : (r == 0) = false := by simpa using hx
          go_wp2_with (refine (HK.out _ HB.out).mono ?_; rintro e w2 ⟨rfl, hb2⟩)
          go_ret2
          exact ⟨hi, false, rfl, .inl ⟨rfl, HF.out⟩, bstep HB.out hb2⟩
      · have HF := Lib.hid (P.search_miss (s := s) HR.out H1.out H2.out (fun h => absurd h hn))
        go_wp2_with fail
        go_ret2
        exact ⟨hi, false, rfl, .inl ⟨rfl, HF.out⟩, HB.out⟩

set_option maxHeartbeats 1000000 in
theorem lookCV_any (x : P.Sv) (s : ByteArray) (Bk : Nat) (w : World) (hK : w.cell? ⟨Bk, 0, none⟩ = some (.func (.func 74) #[] #[])) :
    Calls Tryz.prog 152 #[.agg #[.string x.n, .string x.p, .bool x.a, .bool x.o], .string s, .pointer (some ⟨Bk, 0, none⟩)] w fun e w' => e = .returned (.int .i64 (P.cmpS x.n s)) ∧ Below w.heap.size w w' := by
  have eK := enters_of Tryz.func74 (by kernel_rfl) rfl
  have HY := Lib.hid nameOf_below
  have hcon := fun W' => Tryz.strings_Compare x.n s W'
  rw [show Lib.compareBytes x.n.data.toList s.data.toList = P.cmpS x.n s from rfl] at hcon
  generalize P.cmpS x.n s = r at hcon ⊢
  have HCo := Lib.hid hcon
  clear hcon
  have hK2 := cell_keep (below_alloc w (.cells #[.string x.n, .string x.p, .bool x.a, .bool x.o] 46)) hK
  clear hK
  go_enter Tryz.func152, Tryz.ntmps152
  go_wp2_with (first
    | (go_at_call 74; refine (HY.out _ _ _ _ _).mono ?_; rintro e w2 ⟨rfl, hb2⟩)
    | (go_at_call 97; refine (HCo.out _).mono ?_; rintro e w3 ⟨rfl, rfl⟩))
  go_ret
  exact ⟨rfl, bstep (below_alloc _ _) hb2⟩
end Go.Proofs.YtpnjlhippngfcaaGreatDoor

namespace Go.Proofs.YtpnjlhippngfcaaGreatDoor
open Go.RowKit Go.Shelf

/-- the error of a look-up -/
def P.lookE (ok f : Bool) : Int := if ok then (if f then 0 else 10) else 5

/-- what lookUp owes -/
def LookedS (ok : Bool) (L : List P.St) (s : ByteArray) (w : World) (e : Ending) (w' : World) : Prop :=
  ∃ y : P.St, e = .returned (.tuple #[.agg #[.string y.k, .string y.v], .int .i64 (P.lookE ok (P.findK P.St.k L s).isSome)]) ∧ (P.lookE ok (P.findK P.St.k L s).isSome = 0 → P.findK P.St.k L s = some y) ∧ Below w.heap.size w w'

set_option maxRecDepth 100000 in
set_option maxHeartbeats 8000000 in
theorem lookUpS_any (s1 s2 s3 s4 : Value) (L : List P.St) (a : Option Addr) (cap : Nat) (hl : L.length ≤ 4294967280) (hr : P.Rising P.St.k L) (s : ByteArray) (gi : Nat) (ok : Bool) (ei : ∀ args w, (callFunc gi args).run Tryz.prog w = .ok (.enter gi args) w) (w : World) (hm : StsAt w.heap.size w a L cap)
    (hE : ChecksTo (.agg #[s1, s2, s3, s4]) 0 w) (hI : ∀ W, Below w.heap.size w W → Calls Tryz.prog gi #[.string s] W fun e w' => e = .returned (.bool ok) ∧ Below W.heap.size W w') :
    Calls Tryz.prog 87 #[.agg #[s1, s2, s3, s4], .slice a L.length cap, .func (.func 66) #[] #[], .func (.func gi) #[] #[], .string s] w (LookedS ok L s w) := by
  have eg := enters_of Tryz.func147 (by kernel_rfl) rfl
  have HE := Lib.hid hE.2
  have HI := Lib.hid hI
  have HMm := Lib.hid hm
  have HR := Lib.hid hr
  unfold LookedS
  clear hE hI hm hr
  go_enter Tryz.func87, Tryz.ntmps87
  go_wp2_with fail
  refine (HE.out _ (below4 _ _ _ _ _)).mono ?_
  rintro x w1 ⟨rfl, hb⟩
  have HZ1 := Lib.hid (((HasRow.new ((w.alloc (.cells #[s1, s2, s3, s4] 26)).alloc (.cells #[.func (.func 66) #[] #[]] 96)) #[.string ⟨#[]⟩, .string ⟨#[]⟩] 62).alloc (.cells #[.string ⟨#[]⟩, .string ⟨#[]⟩] 62)).below hb)
  have HN1 := Lib.hid ((HasRow.new (((w.alloc (.cells #[s1, s2, s3, s4] 26)).alloc (.cells #[.func (.func 66) #[] #[]] 96)).alloc (.cells #[.string ⟨#[]⟩, .string ⟨#[]⟩] 62)) #[.string ⟨#[]⟩, .string ⟨#[]⟩] 62).below hb)
  have HK1 := Lib.hid ((((HasRow.new (w.alloc (.cells #[s1, s2, s3, s4] 26)) #[.func (.func 66) #[] #[]] 96).alloc (.cells #[.string ⟨#[]⟩, .string ⟨#[]⟩] 62)).alloc (.cells #[.string ⟨#[]⟩, .string ⟨#[]⟩] 62)).below hb)
  have HB1 := Lib.hid (bstep (below4 w (.cells #[s1, s2, s3, s4] 26) (.cells #[.func (.func 66) #[] #[]] 96) (.cells #[.string ⟨#[]⟩, .string ⟨#[]⟩] 62) (.cells #[.string ⟨#[]⟩, .string ⟨#[]⟩] 62)) hb)
  simp only [World.size_alloc] at HZ1 HN1 HK1
  clear hb HE
  go_wp2_with fail
  refine (HI.out _ HB1.out).mono ?_
  rintro x w2 ⟨rfl, hb⟩
  have HZ2 := Lib.hid (HZ1.out.below hb)
  have HN2 := Lib.hid (HN1.out.below hb)
  have HK2 := Lib.hid (HK1.out.below hb)
  have HB2 := Lib.hid (bstep HB1.out hb)
  clear hb HZ1 HN1 HK1 HB1 HI
  cases ok with
  | false =>
    have hR := HZ2.out
    have hN := HN2.out
    have HBn := HB2
    clear HZ2 HN2 HK2 HB2
    have ST := store2 hR HBn.out (by omega) (.string ⟨#[]⟩) (.string ⟨#[]⟩)
    obtain ⟨c0, c1, hlt⟩ := hrow2 hR
    obtain ⟨n0, n1, hltn⟩ := hrow2 hN
    have f0 := hR.free 0
    have f1 := hR.free 1
    have HS := Lib.hid ST
    clear ST
    go_wp2_with fail
    refine bodyPost_ret (v := .tuple #[.agg #[.string ⟨#[]⟩, .string ⟨#[]⟩], .int .i64 5]) ?_ rfl ⟨P.st0, rfl, fun h => absurd h (by simp [P.lookE]), HS.out.2⟩
    clear c0 c1 n0 n1 f0 f1 hR hN
    obtain ⟨y0, y1, _⟩ := hrow2 HS.out.1
    simp [results, Tryz.results87, go_sem, y0, y1]
  | true =>
    have HSe := Lib.hid (searchS_any L a cap hl HR.out s 147 eg (.pointer (some ⟨w.heap.size + 1, 0, none⟩)) w2 ((HMm.out.below HB2.out).up HB2.out.size) (fun k hk W' hb' => lookCS_any L[k] s (w.heap.size + 1) W' (cell_keep hb' (HK2.out.cell 0))))
    unfold Found at HSe
    clear HK2
    go_wp2_with fail
    refine HSe.out.mono ?_
    rintro e w3 ⟨i, t, rfl, ht, hb⟩
    have hR := HZ2.out.below hb
    have hN := HN2.out.below hb
    have HBn := Lib.hid (bstep HB2.out hb)
    clear HZ2 HN2 HB2 hb HSe
    rcases ht with ⟨rfl, hnone⟩ | ⟨rfl, hi, hsome⟩
    · have HNo := Lib.hid hnone
      clear hnone
      have ST := store2 hR HBn.out (by omega) (.string ⟨#[]⟩) (.string ⟨#[]⟩)
      obtain ⟨c0, c1, hlt⟩ := hrow2 hR
      obtain ⟨n0, n1, hltn⟩ := hrow2 hN
      have f0 := hR.free 0
      have f1 := hR.free 1
      have HS := Lib.hid ST
      clear ST
      go_wp2_with fail
      refine bodyPost_ret (v := .tuple #[.agg #[.string ⟨#[]⟩, .string ⟨#[]⟩], .int .i64 10]) ?_ rfl ⟨P.st0, by rw [HNo.out]; rfl, fun h => absurd h (by rw [HNo.out]; simp [P.lookE]), HS.out.2⟩
      clear c0 c1 n0 n1 f0 f1 hR hN
      obtain ⟨y0, y1, _⟩ := hrow2 HS.out.1
      simp [results, Tryz.results87, go_sem, y0, y1]
    · obtain ⟨bb, off, rfl, hbm, hc⟩ := (HMm.out.below HBn.out).at_ (ne_nil_of_lt hi)
      obtain ⟨d0, d1⟩ := hc i hi
      have HSo := Lib.hid hsome
      clear hsome hc
      generalize L[i] = x at *
      have ST := store2 hR HBn.out (by omega) (.string x.k) (.string x.v)
      obtain ⟨c0, c1, hlt⟩ := hrow2 hR
      have f0 := hR.free 0
      have f1 := hR.free 1
      have HS := Lib.hid ST
      clear ST hN
      go_wp2_with fail
      refine bodyPost_ret (v := .tuple #[.agg #[.string x.k, .string x.v], .int .i64 0]) ?_ rfl ⟨x, by rw [HSo.out]; rfl, fun _ => HSo.out, HS.out.2⟩
      clear c0 c1 f0 f1 hR
      obtain ⟨y0, y1, _⟩ := hrow2 HS.out.1
      simp [results, Tryz.results87, go_sem, y0, y1]

/-- what lookUp owes -/
def LookedF (ok : Bool) (L : List P.Fi) (s : ByteArray) (w : World) (e : Ending) (w' : World) : Prop :=
  ∃ y : P.Fi, e = .returned (.tuple #[.agg #[.string y.p, .string y.d, .bool y.r], .int .i64 (P.lookE ok (P.findK P.Fi.p L s).isSome)]) ∧ (P.lookE ok (P.findK P.Fi.p L s).isSome = 0 → P.findK P.Fi.p L s = some y) ∧ Below w.heap.size w w'

set_option maxRecDepth 100000 in
set_option maxHeartbeats 8000000 in
theorem lookUpF_any (s1 s2 s3 s4 : Value) (L : List P.Fi) (a : Option Addr) (cap : Nat) (hl : L.length ≤ 4294967280) (hr : P.Rising P.Fi.p L) (s : ByteArray) (gi : Nat) (ok : Bool) (ei : ∀ args w, (callFunc gi args).run Tryz.prog w = .ok (.enter gi args) w) (w : World) (hm : FisAt w.heap.size w a L cap)
    (hE : ChecksTo (.agg #[s1, s2, s3, s4]) 0 w) (hI : ∀ W, Below w.heap.size w W → Calls Tryz.prog gi #[.string s] W fun e w' => e = .returned (.bool ok) ∧ Below W.heap.size W w') :
    Calls Tryz.prog 88 #[.agg #[s1, s2, s3, s4], .slice a L.length cap, .func (.func 69) #[] #[], .func (.func gi) #[] #[], .string s] w (LookedF ok L s w) := by
  have eg := enters_of Tryz.func149 (by kernel_rfl) rfl
  have HE := Lib.hid hE.2
  have HI := Lib.hid hI
  have HMm := Lib.hid hm
  have HR := Lib.hid hr
  unfold LookedF
  clear hE hI hm hr
  go_enter Tryz.func88, Tryz.ntmps88
  go_wp2_with fail
  refine (HE.out _ (below4 _ _ _ _ _)).mono ?_
  rintro x w1 ⟨rfl, hb⟩
  have HZ1 := Lib.hid (((HasRow.new ((w.alloc (.cells #[s1, s2, s3, s4] 26)).alloc (.cells #[.func (.func 69) #[] #[]] 98)) #[.string ⟨#[]⟩, .string ⟨#[]⟩, .bool false] 42).alloc (.cells #[.string ⟨#[]⟩, .string ⟨#[]⟩, .bool false] 42)).below hb)
  have HN1 := Lib.hid ((HasRow.new (((w.alloc (.cells #[s1, s2, s3, s4] 26)).alloc (.cells #[.func (.func 69) #[] #[]] 98)).alloc (.cells #[.string ⟨#[]⟩, .string ⟨#[]⟩, .bool false] 42)) #[.string ⟨#[]⟩, .string ⟨#[]⟩, .bool false] 42).below hb)
  have HK1 := Lib.hid ((((HasRow.new (w.alloc (.cells #[s1, s2, s3, s4] 26)) #[.func (.func 69) #[] #[]] 98).alloc (.cells #[.string ⟨#[]⟩, .string ⟨#[]⟩, .bool false] 42)).alloc (.cells #[.string ⟨#[]⟩, .string ⟨#[]⟩, .bool false] 42)).below hb)
  have HB1 := Lib.hid (bstep (below4 w (.cells #[s1, s2, s3, s4] 26) (.cells #[.func (.func 69) #[] #[]] 98) (.cells #[.string ⟨#[]⟩, .string ⟨#[]⟩, .bool false] 42) (.cells #[.string ⟨#[]⟩, .string ⟨#[]⟩, .bool false] 42)) hb)
  simp only [World.size_alloc] at HZ1 HN1 HK1
  clear hb HE
  go_wp2_with fail
  refine (HI.out _ HB1.out).mono ?_
  rintro x w2 ⟨rfl, hb⟩
  have HZ2 := Lib.hid (HZ1.out.below hb)
  have HN2 := Lib.hid (HN1.out.below hb)
  have HK2 := Lib.hid (HK1.out.below hb)
  have HB2 := Lib.hid (bstep HB1.out hb)
  clear hb HZ1 HN1 HK1 HB1 HI
  cases ok with
  | false =>
    have hR := HZ2.out
    have hN := HN2.out
    have HBn := HB2
    clear HZ2 HN2 HK2 HB2
    have ST := store3 hR HBn.out (by omega) (.string ⟨#[]⟩) (.string ⟨#[]⟩) (.bool false)
    obtain ⟨c0, c1, c2, hlt⟩ := hrow3 hR
    obtain ⟨n0, n1, n2, hltn⟩ := hrow3 hN
    have f0 := hR.free 0
    have f1 := hR.free 1
    have f2 := hR.free 2
    have HS := Lib.hid ST
    clear ST
    go_wp2_with fail
    refine bodyPost_ret (v := .tuple #[.agg #[.string ⟨#[]⟩, .string ⟨#[]⟩, .bool false], .int .i64 5]) ?_ rfl ⟨P.fi0, rfl, fun h => absurd h (by simp [P.lookE]), HS.out.2⟩
    clear c0 c1 c2 n0 n1 n2 f0 f1 f2 hR hN
    obtain ⟨y0, y1, y2, _⟩ := hrow3 HS.out.1
    simp [results, Tryz.results88, go_sem, y0, y1, y2]
  | true =>
    have HSe := Lib.hid (searchF_any L a cap hl HR.out s 149 eg (.pointer (some ⟨w.heap.size + 1, 0, none⟩)) w2 ((HMm.out.below HB2.out).up HB2.out.size) (fun k hk W' hb' => lookCF_any L[k] s (w.heap.size + 1) W' (cell_keep hb' (HK2.out.cell 0))))
    unfold Found at HSe
    clear HK2
    go_wp2_with fail
    refine HSe.out.mono ?_
    rintro e w3 ⟨i, t, rfl, ht, hb⟩
    have hR := HZ2.out.below hb
    have hN := HN2.out.below hb
    have HBn := Lib.hid (bstep HB2.out hb)
    clear HZ2 HN2 HB2 hb HSe
    rcases ht with ⟨rfl, hnone⟩ | ⟨rfl, hi, hsome⟩
    · have HNo := Lib.hid hnone
      clear hnone
      have ST := store3 hR HBn.out (by omega) (.string ⟨#[]⟩) (.string ⟨#[]⟩) (.bool false)
      obtain ⟨c0, c1, c2, hlt⟩ := hrow3 hR
      obtain ⟨n0, n1, n2, hltn⟩ := hrow3 hN
      have f0 := hR.free 0
      have f1 := hR.free 1
      have f2 := hR.free 2
      have HS := Lib.hid ST
      clear ST
      go_wp2_with fail
      refine bodyPost_ret (v := .tuple #[.agg #[.string ⟨#[]⟩, .string ⟨#[]⟩, .bool false], .int .i64 10]) ?_ rfl ⟨P.fi0, by rw [HNo.out]; rfl, fun h => absurd h (by rw [HNo.out]; simp [P.lookE]), HS.out.2⟩
      clear c0 c1 c2 n0 n1 n2 f0 f1 f2 hR hN
      obtain ⟨y0, y1, y2, _⟩ := hrow3 HS.out.1
      simp [results, Tryz.results88, go_sem, y0, y1, y2]
    · obtain ⟨bb, off, rfl, hbm, hc⟩ := (HMm.out.below HBn.out).at_ (ne_nil_of_lt hi)
      obtain ⟨d0, d1, d2⟩ := hc i hi
      have HSo := Lib.hid hsome
      clear hsome hc
      generalize L[i] = x at *
      have ST := store3 hR HBn.out (by omega) (.string x.p) (.string x.d) (.bool x.r)
      obtain ⟨c0, c1, c2, hlt⟩ := hrow3 hR
      have f0 := hR.free 0
      have f1 := hR.free 1
      have f2 := hR.free 2
      have HS := Lib.hid ST
      clear ST hN
      go_wp2_with fail
      refine bodyPost_ret (v := .tuple #[.agg #[.string x.p, .string x.d, .bool x.r], .int .i64 0]) ?_ rfl ⟨x, by rw [HSo.out]; rfl, fun _ => HSo.out, HS.out.2⟩
      clear c0 c1 c2 f0 f1 f2 hR
      obtain ⟨y0, y1, y2, _⟩ := hrow3 HS.out.1
      simp [results, Tryz.results88, go_sem, y0, y1, y2]

/-- what lookUp owes -/
def LookedV (ok : Bool) (L : List P.Sv) (s : ByteArray) (w : World) (e : Ending) (w' : World) : Prop :=
  ∃ y : P.Sv, e = .returned (.tuple #[.agg #[.string y.n, .string y.p, .bool y.a, .bool y.o], .int .i64 (P.lookE ok (P.findK P.Sv.n L s).isSome)]) ∧ (P.lookE ok (P.findK P.Sv.n L s).isSome = 0 → P.findK P.Sv.n L s = some y) ∧ Below w.heap.size w w'

set_option maxRecDepth 100000 in
set_option maxHeartbeats 8000000 in
theorem lookUpV_any (s1 s2 s3 s4 : Value) (L : List P.Sv) (a : Option Addr) (cap : Nat) (hl : L.length ≤ 4294967280) (hr : P.Rising P.Sv.n L) (s : ByteArray) (gi : Nat) (ok : Bool) (ei : ∀ args w, (callFunc gi args).run Tryz.prog w = .ok (.enter gi args) w) (w : World) (hm : SvsAt w.heap.size w a L cap)
    (hE : ChecksTo (.agg #[s1, s2, s3, s4]) 0 w) (hI : ∀ W, Below w.heap.size w W → Calls Tryz.prog gi #[.string s] W fun e w' => e = .returned (.bool ok) ∧ Below W.heap.size W w') :
    Calls Tryz.prog 90 #[.agg #[s1, s2, s3, s4], .slice a L.length cap, .func (.func 74) #[] #[], .func (.func gi) #[] #[], .string s] w (LookedV ok L s w) := by
  have eg := enters_of Tryz.func152 (by kernel_rfl) rfl
  have HE := Lib.hid hE.2
  have HI := Lib.hid hI
  have HMm := Lib.hid hm
  have HR := Lib.hid hr
  unfold LookedV
  clear hE hI hm hr
  go_enter Tryz.func90, Tryz.ntmps90
  go_wp2_with fail
  refine (HE.out _ (below4 _ _ _ _ _)).mono ?_
  rintro x w1 ⟨rfl, hb⟩
  have HZ1 := Lib.hid (((HasRow.new ((w.alloc (.cells #[s1, s2, s3, s4] 26)).alloc (.cells #[.func (.func 74) #[] #[]] 101)) #[.string ⟨#[]⟩, .string ⟨#[]⟩, .bool false, .bool false] 46).alloc (.cells #[.string ⟨#[]⟩, .string ⟨#[]⟩, .bool false, .bool false] 46)).below hb)
  have HN1 := Lib.hid ((HasRow.new (((w.alloc (.cells #[s1, s2, s3, s4] 26)).alloc (.cells #[.func (.func 74) #[] #[]] 101)).alloc (.cells #[.string ⟨#[]⟩, .string ⟨#[]⟩, .bool false, .bool false] 46)) #[.string ⟨#[]⟩, .string ⟨#[]⟩, .bool false, .bool false] 46).below hb)
  have HK1 := Lib.hid ((((HasRow.new (w.alloc (.cells #[s1, s2, s3, s4] 26)) #[.func (.func 74) #[] #[]] 101).alloc (.cells #[.string ⟨#[]⟩, .string ⟨#[]⟩, .bool false, .bool false] 46)).alloc (.cells #[.string ⟨#[]⟩, .string ⟨#[]⟩, .bool false, .bool false] 46)).below hb)
  have HB1 := Lib.hid (bstep (below4 w (.cells #[s1, s2, s3, s4] 26) (.cells #[.func (.func 74) #[] #[]] 101) (.cells #[.string ⟨#[]⟩, .string ⟨#[]⟩, .bool false, .bool false] 46) (.cells #[.string ⟨#[]⟩, .string ⟨#[]⟩, .bool false, .bool false] 46)) hb)
  simp only [World.size_alloc] at HZ1 HN1 HK1
  clear hb HE
  go_wp2_with fail
  refine (HI.out _ HB1.out).mono ?_
  rintro x w2 ⟨rfl, hb⟩
  have HZ2 := Lib.hid (HZ1.out.below hb)
  have HN2 := Lib.hid (HN1.out.below hb)
  have HK2 := Lib.hid (HK1.out.below hb)
  have HB2 := Lib.hid (bstep HB1.out hb)
  clear hb HZ1 HN1 HK1 HB1 HI
  cases ok with
  | false =>
    have hR := HZ2.out
    have hN := HN2.out
    have HBn := HB2
    clear HZ2 HN2 HK2 HB2
    have ST := store4 hR HBn.out (by omega) (.string ⟨#[]⟩) (.string ⟨#[]⟩) (.bool false) (.bool false)
    obtain ⟨c0, c1, c2, c3, hlt⟩ := hrow4 hR
    obtain ⟨n0, n1, n2, n3, hltn⟩ := hrow4 hN
    have f0 := hR.free 0
    have f1 := hR.free 1
    have f2 := hR.free 2
    have f3 := hR.free 3
    have HS := Lib.hid ST
    clear ST
    go_wp2_with fail
    refine bodyPost_ret (v := .tuple #[.agg #[.string ⟨#[]⟩, .string ⟨#[]⟩, .bool false, .bool false], .int .i64 5]) ?_ rfl ⟨P.sv0, rfl, fun h => absurd h (by simp [P.lookE]), HS.out.2⟩
    clear c0 c1 c2 c3 n0 n1 n2 n3 f0 f1 f2 f3 hR hN
    obtain ⟨y0, y1, y2, y3, _⟩ := hrow4 HS.out.1
    simp [results, Tryz.results90, go_sem, y0, y1, y2, y3]
  | true =>
    have HSe := Lib.hid (searchV_any L a cap hl HR.out s 152 eg (.pointer (some ⟨w.heap.size + 1, 0, none⟩)) w2 ((HMm.out.below HB2.out).up HB2.out.size) (fun k hk W' hb' => lookCV_any L[k] s (w.heap.size + 1) W' (cell_keep hb' (HK2.out.cell 0))))
    unfold Found at HSe
    clear HK2
    go_wp2_with fail
    refine HSe.out.mono ?_
    rintro e w3 ⟨i, t, rfl, ht, hb⟩
    have hR := HZ2.out.below hb
    have hN := HN2.out.below hb
    have HBn := Lib.hid (bstep HB2.out hb)
    clear HZ2 HN2 HB2 hb HSe
    rcases ht with ⟨rfl, hnone⟩ | ⟨rfl, hi, hsome⟩
    · have HNo := Lib.hid hnone
      clear hnone
      have ST := store4 hR HBn.out (by omega) (.string ⟨#[]⟩) (.string ⟨#[]⟩) (.bool false) (.bool false)
      obtain ⟨c0, c1, c2, c3, hlt⟩ := hrow4 hR
      obtain ⟨n0, n1, n2, n3, hltn⟩ := hrow4 hN
      have f0 := hR.free 0
      have f1 := hR.free 1
      have f2 := hR.free 2
      have f3 := hR.free 3
      have HS := Lib.hid ST
      clear ST
      go_wp2_with fail
      refine bodyPost_ret (v := .tuple #[.agg #[.string ⟨#[]⟩, .string ⟨#[]⟩, .bool false, .bool false], .int .i64 10]) ?_ rfl ⟨P.sv0, by rw [HNo.out]; rfl, fun h => absurd h (by rw [HNo.out]; simp [P.lookE]), HS.out.2⟩
      clear c0 c1 c2 c3 n0 n1 n2 n3 f0 f1 f2 f3 hR hN
      obtain ⟨y0, y1, y2, y3, _⟩ := hrow4 HS.out.1
      simp [results, Tryz.results90, go_sem, y0, y1, y2, y3]
    · obtain ⟨bb, off, rfl, hbm, hc⟩ := (HMm.out.below HBn.out).at_ (ne_nil_of_lt hi)
      obtain ⟨d0, d1, d2, d3⟩ := hc i hi
      have HSo := Lib.hid hsome
      clear hsome hc
      generalize L[i] = x at *
      have ST := store4 hR HBn.out (by omega) (.string x.n) (.string x.p) (.bool x.a) (.bool x.o)
      obtain ⟨c0, c1, c2, c3, hlt⟩ := hrow4 hR
      have f0 := hR.free 0
      have f1 := hR.free 1
      have f2 := hR.free 2
      have f3 := hR.free 3
      have HS := Lib.hid ST
      clear ST hN
      go_wp2_with fail
      refine bodyPost_ret (v := .tuple #[.agg #[.string x.n, .string x.p, .bool x.a, .bool x.o], .int .i64 0]) ?_ rfl ⟨x, by rw [HSo.out]; rfl, fun _ => HSo.out, HS.out.2⟩
      clear c0 c1 c2 c3 f0 f1 f2 f3 hR
      obtain ⟨y0, y1, y2, y3, _⟩ := hrow4 HS.out.1
      simp [results, Tryz.results90, go_sem, y0, y1, y2, y3]
end Go.Proofs.YtpnjlhippngfcaaGreatDoor

namespace Go.Proofs.YtpnjlhippngfcaaGreatDoor
open Go.RowKit Go.Shelf

/-- what Fact owes -/
def GivesFact (m : P.Mach) (s : ByteArray) (w : World) (e : Ending) (w' : World) : Prop :=
  ∃ y : P.St, e = .returned (.tuple #[.string y.v, .int .i64 (P.lookE (P.nameS s) (P.findK P.St.k m.facts s).isSome)]) ∧ (P.lookE (P.nameS s) (P.findK P.St.k m.facts s).isSome = 0 → P.findK P.St.k m.facts s = some y) ∧ Below w.heap.size w w'
set_option maxRecDepth 100000 in
set_option maxHeartbeats 4000000 in
theorem fact_any (A : Ad) (m : P.Mach) (hr : P.Right m) (s : ByteArray) (hs : s.size ≤ 4294967280) (w : World) (hw : Good w) (hl : Lies w.heap.size w A m) :
    Calls Tryz.prog 18 #[machV A m, .string s] w (GivesFact m s w) := by
  have ei := enters_of Tryz.func57 (by kernel_rfl) rfl
  have HC := Lib.hid (fun W (hb : Below w.heap.size w W) => show ChecksTo (machV A m) 0 W from by
    have h := ChecksTo.of A m hr.fit W (hw.mono hb) ((hl.below hb).up hb.size)
    rw [(P.right_iff m).2 hr] at h; exact h)
  have HLk := Lib.hid (fun W (hb : Below w.heap.size w W) => lookUpS_any _ _ _ _ m.facts A.a1 A.c1 hr.fit.l1 hr.r1 s 57 (P.nameS s) ei W ((hl.below hb).up hb.size).f (HC.out W hb) (fun W2 _ => (isName_any s hs W2).mono (fun _ _ ⟨h1, h2⟩ => ⟨h1, h2 ▸ Below.refl _ _⟩)))
  unfold GivesFact
  unfold LookedS at HLk
  clear HC hr hs hw hl
  generalize P.lookE (P.nameS s) (P.findK P.St.k m.facts s).isSome = r at *
  generalize P.findK P.St.k m.facts s = fk at *
  unfold machV
  generalize m.facts.length = l1 at *
  generalize m.files.length = l2 at *
  generalize m.sets.length = l3 at *
  generalize m.svcs.length = l4 at *
  obtain ⟨a1, a2, a3, a4, c1, c2, c3, c4⟩ := A
  simp only at HLk ⊢
  go_enter Tryz.func18, Tryz.ntmps18
  go_wp2_with fail
  refine (HLk.out _ (below_alloc _ _)).mono ?_
  rintro x w1 ⟨y, rfl, hy, hb⟩
  have HB := Lib.hid (bstep (bstep (below_alloc _ _) hb) (below_alloc w1 (.cells #[.string y.k, .string y.v] 62)))
  have HY := Lib.hid hy
  clear hb hy HLk
  go_wp2_with fail
  go_ret2
  exact ⟨y, rfl, HY.out, HB.out⟩

/-- what File owes -/
def GivesFile (m : P.Mach) (s : ByteArray) (w : World) (e : Ending) (w' : World) : Prop :=
  ∃ y : P.Fi, e = .returned (.tuple #[.agg #[.string y.p, .string y.d, .bool y.r], .int .i64 (P.lookE (P.pathS s) (P.findK P.Fi.p m.files s).isSome)]) ∧ (P.lookE (P.pathS s) (P.findK P.Fi.p m.files s).isSome = 0 → P.findK P.Fi.p m.files s = some y) ∧ Below w.heap.size w w'
set_option maxRecDepth 100000 in
set_option maxHeartbeats 4000000 in
theorem file_any (A : Ad) (m : P.Mach) (hr : P.Right m) (s : ByteArray) (hs : s.size ≤ 4294967280) (w : World) (hw : Good w) (hl : Lies w.heap.size w A m) :
    Calls Tryz.prog 19 #[machV A m, .string s] w (GivesFile m s w) := by
  have ei := enters_of Tryz.func89 (by kernel_rfl) rfl
  have HC := Lib.hid (fun W (hb : Below w.heap.size w W) => show ChecksTo (machV A m) 0 W from by
    have h := ChecksTo.of A m hr.fit W (hw.mono hb) ((hl.below hb).up hb.size)
    rw [(P.right_iff m).2 hr] at h; exact h)
  have HLk := Lib.hid (fun W (hb : Below w.heap.size w W) => lookUpF_any _ _ _ _ m.files A.a2 A.c2 hr.fit.l2 hr.r2 s 89 (P.pathS s) ei W ((hl.below hb).up hb.size).i (HC.out W hb) (fun W2 hb2 => isPath_any s hs W2 ((hw.mono hb).mono hb2)))
  unfold GivesFile
  unfold LookedF at HLk
  clear HC hr hs hw hl
  generalize P.lookE (P.pathS s) (P.findK P.Fi.p m.files s).isSome = r at *
  generalize P.findK P.Fi.p m.files s = fk at *
  unfold machV
  generalize m.facts.length = l1 at *
  generalize m.files.length = l2 at *
  generalize m.sets.length = l3 at *
  generalize m.svcs.length = l4 at *
  obtain ⟨a1, a2, a3, a4, c1, c2, c3, c4⟩ := A
  simp only at HLk ⊢
  go_enter Tryz.func19, Tryz.ntmps19
  go_wp2_with fail
  refine (HLk.out _ (below2 _ _ _)).mono ?_
  rintro x w1 ⟨y, rfl, hy, hb⟩
  have hR := (HasRow.new (w.alloc (.cells #[.slice a1 l1 c1, .slice a2 l2 c2, .slice a3 l3 c3, .slice a4 l4 c4] 26)) #[.string ⟨#[]⟩, .string ⟨#[]⟩, .bool false] 42).below hb
  rw [World.size_alloc] at hR
  have ST := store3 hR (bstep (below2 _ _ _) hb) (Nat.le_succ _) (.string y.p) (.string y.d) (.bool y.r)
  obtain ⟨c0, c1, c2, hlt⟩ := hrow3 hR
  have f0 := hR.free 0
  have f1 := hR.free 1
  have f2 := hR.free 2
  have HS := Lib.hid ST
  have HY := Lib.hid hy
  clear hb ST HLk hy
  go_wp2_with fail
  refine bodyPost_ret (v := .tuple #[.agg #[.string y.p, .string y.d, .bool y.r], .int .i64 r]) ?_ rfl ⟨y, rfl, HY.out, HS.out.2⟩
  clear c0 c1 c2 f0 f1 f2 hR
  obtain ⟨y0, y1, y2, _⟩ := hrow3 HS.out.1
  simp [results, Tryz.results19, go_sem, y0, y1, y2]

/-- what Setting owes -/
def GivesSetting (m : P.Mach) (s : ByteArray) (w : World) (e : Ending) (w' : World) : Prop :=
  ∃ y : P.St, e = .returned (.tuple #[.string y.v, .int .i64 (P.lookE (P.pathS s) (P.findK P.St.k m.sets s).isSome)]) ∧ (P.lookE (P.pathS s) (P.findK P.St.k m.sets s).isSome = 0 → P.findK P.St.k m.sets s = some y) ∧ Below w.heap.size w w'
set_option maxRecDepth 100000 in
set_option maxHeartbeats 4000000 in
theorem setting_any (A : Ad) (m : P.Mach) (hr : P.Right m) (s : ByteArray) (hs : s.size ≤ 4294967280) (w : World) (hw : Good w) (hl : Lies w.heap.size w A m) :
    Calls Tryz.prog 20 #[machV A m, .string s] w (GivesSetting m s w) := by
  have ei := enters_of Tryz.func89 (by kernel_rfl) rfl
  have HC := Lib.hid (fun W (hb : Below w.heap.size w W) => show ChecksTo (machV A m) 0 W from by
    have h := ChecksTo.of A m hr.fit W (hw.mono hb) ((hl.below hb).up hb.size)
    rw [(P.right_iff m).2 hr] at h; exact h)
  have HLk := Lib.hid (fun W (hb : Below w.heap.size w W) => lookUpS_any _ _ _ _ m.sets A.a3 A.c3 hr.fit.l3 hr.r3 s 89 (P.pathS s) ei W ((hl.below hb).up hb.size).s (HC.out W hb) (fun W2 hb2 => isPath_any s hs W2 ((hw.mono hb).mono hb2)))
  unfold GivesSetting
  unfold LookedS at HLk
  clear HC hr hs hw hl
  generalize P.lookE (P.pathS s) (P.findK P.St.k m.sets s).isSome = r at *
  generalize P.findK P.St.k m.sets s = fk at *
  unfold machV
  generalize m.facts.length = l1 at *
  generalize m.files.length = l2 at *
  generalize m.sets.length = l3 at *
  generalize m.svcs.length = l4 at *
  obtain ⟨a1, a2, a3, a4, c1, c2, c3, c4⟩ := A
  simp only at HLk ⊢
  go_enter Tryz.func20, Tryz.ntmps20
  go_wp2_with fail
  refine (HLk.out _ (below_alloc _ _)).mono ?_
  rintro x w1 ⟨y, rfl, hy, hb⟩
  have HB := Lib.hid (bstep (bstep (below_alloc _ _) hb) (below_alloc w1 (.cells #[.string y.k, .string y.v] 62)))
  have HY := Lib.hid hy
  clear hb hy HLk
  go_wp2_with fail
  go_ret2
  exact ⟨y, rfl, HY.out, HB.out⟩

/-- what Service owes -/
def GivesService (m : P.Mach) (s : ByteArray) (w : World) (e : Ending) (w' : World) : Prop :=
  ∃ y : P.Sv, e = .returned (.tuple #[.agg #[.string y.n, .string y.p, .bool y.a, .bool y.o], .int .i64 (P.lookE (P.nameS s) (P.findK P.Sv.n m.svcs s).isSome)]) ∧ (P.lookE (P.nameS s) (P.findK P.Sv.n m.svcs s).isSome = 0 → P.findK P.Sv.n m.svcs s = some y) ∧ Below w.heap.size w w'
set_option maxRecDepth 100000 in
set_option maxHeartbeats 4000000 in
theorem service_any (A : Ad) (m : P.Mach) (hr : P.Right m) (s : ByteArray) (hs : s.size ≤ 4294967280) (w : World) (hw : Good w) (hl : Lies w.heap.size w A m) :
    Calls Tryz.prog 21 #[machV A m, .string s] w (GivesService m s w) := by
  have ei := enters_of Tryz.func57 (by kernel_rfl) rfl
  have HC := Lib.hid (fun W (hb : Below w.heap.size w W) => show ChecksTo (machV A m) 0 W from by
    have h := ChecksTo.of A m hr.fit W (hw.mono hb) ((hl.below hb).up hb.size)
    rw [(P.right_iff m).2 hr] at h; exact h)
  have HLk := Lib.hid (fun W (hb : Below w.heap.size w W) => lookUpV_any _ _ _ _ m.svcs A.a4 A.c4 hr.fit.l4 hr.r4 s 57 (P.nameS s) ei W ((hl.below hb).up hb.size).v (HC.out W hb) (fun W2 _ => (isName_any s hs W2).mono (fun _ _ ⟨h1, h2⟩ => ⟨h1, h2 ▸ Below.refl _ _⟩)))
  unfold GivesService
  unfold LookedV at HLk
  clear HC hr hs hw hl
  generalize P.lookE (P.nameS s) (P.findK P.Sv.n m.svcs s).isSome = r at *
  generalize P.findK P.Sv.n m.svcs s = fk at *
  unfold machV
  generalize m.facts.length = l1 at *
  generalize m.files.length = l2 at *
  generalize m.sets.length = l3 at *
  generalize m.svcs.length = l4 at *
  obtain ⟨a1, a2, a3, a4, c1, c2, c3, c4⟩ := A
  simp only at HLk ⊢
  go_enter Tryz.func21, Tryz.ntmps21
  go_wp2_with fail
  refine (HLk.out _ (below2 _ _ _)).mono ?_
  rintro x w1 ⟨y, rfl, hy, hb⟩
  have hR := (HasRow.new (w.alloc (.cells #[.slice a1 l1 c1, .slice a2 l2 c2, .slice a3 l3 c3, .slice a4 l4 c4] 26)) #[.string ⟨#[]⟩, .string ⟨#[]⟩, .bool false, .bool false] 46).below hb
  rw [World.size_alloc] at hR
  have ST := store4 hR (bstep (below2 _ _ _) hb) (Nat.le_succ _) (.string y.n) (.string y.p) (.bool y.a) (.bool y.o)
  obtain ⟨c0, c1, c2, c3, hlt⟩ := hrow4 hR
  have f0 := hR.free 0
  have f1 := hR.free 1
  have f2 := hR.free 2
  have f3 := hR.free 3
  have HS := Lib.hid ST
  have HY := Lib.hid hy
  clear hb ST HLk hy
  go_wp2_with fail
  refine bodyPost_ret (v := .tuple #[.agg #[.string y.n, .string y.p, .bool y.a, .bool y.o], .int .i64 r]) ?_ rfl ⟨y, rfl, HY.out, HS.out.2⟩
  clear c0 c1 c2 c3 f0 f1 f2 f3 hR
  obtain ⟨y0, y1, y2, y3, _⟩ := hrow4 HS.out.1
  simp [results, Tryz.results21, go_sem, y0, y1, y2, y3]
end Go.Proofs.YtpnjlhippngfcaaGreatDoor
