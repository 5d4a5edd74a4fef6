/- Walks: package disk: Below at right machines. -/
import Derived.Test.YtpnjlhippngfcaaGreatDoorZMWFit
import Derived.Test.YtpnjlhippngfcaaGreatDoorZMWFitA
import Derived.Test.YtpnjlhippngfcaaGreatDoorZMShelf

namespace Go.Proofs.YtpnjlhippngfcaaGreatDoor
open Go.RowKit Go.Shelf

namespace P
/-- is the file below the directory? -/
def belowP (s : ByteArray) (x : Fi) : Bool := decide (s = ⟨#[]⟩) || underS x.p s
def belowL (I : List Fi) (s : ByteArray) : List ByteArray := (I.filter (belowP s)).map Fi.p
theorem belowL_succ {I : List Fi} (s : ByteArray) {k : Nat} (hk : k < I.length) : belowL (I.take (k + 1)) s = belowL (I.take k) s ++ (if belowP s I[k] = true then [I[k].p] else []) := by
  unfold belowL
  rw [List.take_succ_eq_append_getElem hk, List.filter_append, List.map_append]
  congr 1
  cases h : belowP s I[k] <;> simp [h]
theorem belowP_empty (x : Fi) : belowP ⟨#[]⟩ x = true := by simp [belowP]
theorem belowP_under {s : ByteArray} (x : Fi) (h : s ≠ ⟨#[]⟩) : belowP s x = underS x.p s := by simp [belowP, h]
end P
theorem hasPrefix_under (p d : ByteArray) : Lib.hasPrefix p.data.toList (d ++ ⟨#[47]⟩).data.toList = P.underS p d := by
  unfold Lib.hasPrefix P.underS
  simp
theorem info9' : (Tryz.prog.info? 9).map (fun i => (i.zero, i.size, i.bytes)) = some (some (.string ⟨#[]⟩), 1, 16) := by kernel_rfl
/-- the state of Below's loop: the machine's box, the paths -/
structure BSt (w wr : World) (a1 : Option Addr) (l1 c1 : Nat) (a2 : Option Addr) (l2 c2 : Nat) (a3 : Option Addr) (l3 c3 : Nat) (a4 : Option Addr) (l4 c4 : Nat) (p : Option Addr) (n c : Nat) (L : List ByteArray) : Prop where
  o : wr.ownsRow w.heap.size 9 1 (.slice p n c) n (L.map Value.string)
  ln : n = L.length
  bel : Below w.heap.size w wr
section
variable {w wr w3 : World} {a1 a2 a3 a4 p p' : Option Addr} {l1 c1 l2 c2 l3 c3 l4 c4 n c c' : Nat} {L L' : List ByteArray}
theorem BSt.below {W' : World} (h : BSt w wr a1 l1 c1 a2 l2 c2 a3 l3 c3 a4 l4 c4 p n c L) (hb : Below wr.heap.size wr W') : BSt w W' a1 l1 c1 a2 l2 c2 a3 l3 c3 a4 l4 c4 p n c L := ⟨own_below h.o hb, h.ln, bstep h.bel hb⟩
theorem BSt.skip (h : BSt w wr a1 l1 c1 a2 l2 c2 a3 l3 c3 a4 l4 c4 p n c L) (o : Obj) (e : L' = L ++ []) : BSt w (wr.alloc o) a1 l1 c1 a2 l2 c2 a3 l3 c3 a4 l4 c4 p n c L' := by
  rw [e, List.append_nil]; exact h.below (below_alloc _ _)
theorem BSt.push (h : BSt w wr a1 l1 c1 a2 l2 c2 a3 l3 c3 a4 l4 c4 p n c L) (o1 o2 : Obj) (hg : ((wr.alloc o1).alloc o2).grownBy w3 (Value.slice p n c).ownBlock) {x : ByteArray} (ho : w3.ownsRow w.heap.size 9 1 (.slice p' (n + 1) c') (n + 1) (L.map Value.string ++ [.string x])) (e : L' = L ++ [x]) :
    BSt w w3 a1 l1 c1 a2 l2 c2 a3 l3 c3 a4 l4 c4 p' (n + 1) c' L' := by
  subst e
  refine ⟨by rw [List.map_append]; exact ho, by simp [h.ln], ?_⟩
  exact (bstep h.bel (below2 wr o1 o2)).grown hg (bstep h.bel (below2 wr o1 o2)).size (own_ge h.o)
end
/-- what Below owes -/
def BelowPost (I : List P.Fi) (s : ByteArray) (w : World) (e : Ending) (w' : World) : Prop :=
  (s ≠ ⟨#[]⟩ ∧ P.pathS s = false ∧ e = .returned (.tuple #[.slice none 0 0, .int .i64 5]) ∧ Below w.heap.size w w') ∨
  ((s = ⟨#[]⟩ ∨ P.pathS s = true) ∧ ∃ p n c, e = .returned (.tuple #[.slice p n c, .int .i64 0]) ∧ w'.ownsRow w.heap.size 9 1 (.slice p n c) n ((P.belowL I s).map Value.string) ∧ n = (P.belowL I s).length ∧ Below w.heap.size w w')

set_option maxRecDepth 100000 in
set_option maxHeartbeats 8000000 in
theorem below_core (a1 : Option Addr) (l1 c1 : Nat) (a2 : Option Addr) (I : List P.Fi) (c2 : Nat) (a3 : Option Addr) (l3 c3 : Nat) (a4 : Option Addr) (l4 c4 : Nat) (s : ByteArray) (hs : s.size ≤ 4294967280) (hLL : I.length ≤ 4294967280) (w : World)
    (hE : ChecksTo (.agg #[.slice a1 l1 c1, .slice a2 I.length c2, .slice a3 l3 c3, .slice a4 l4 c4]) 0 w) (hl : FisAt w.heap.size w a2 I c2) :
    Calls Tryz.prog 22 #[.agg #[.slice a1 l1 c1, .slice a2 I.length c2, .slice a3 l3 c3, .slice a4 l4 c4], .string s] w (BelowPost I s w) := by
  obtain ⟨i0, hi, hz0, hz1, hz2⟩ := info_parts info9'
  have HE := Lib.hid hE.2
  have HPa := Lib.hid (fun W hb => isPath_any s hs W (hE.1.mono hb))
  have HL := Lib.hid hl
  clear hE hl
  have hM := HasRow.new w #[.slice a1 l1 c1, .slice a2 I.length c2, .slice a3 l3 c3, .slice a4 l4 c4] 26
  by_cases hs0 : s = ⟨#[]⟩
  · have HP : Hid (∀ p n c w', BSt w w' a1 l1 c1 a2 I.length c2 a3 l3 c3 a4 l4 c4 p n c (P.belowL I s) → BelowPost I s w (.returned (.tuple #[.slice p n c, .int .i64 0])) w') := Lib.hid (fun p n c w' h => .inr ⟨.inl hs0, p, n, c, rfl, h.o, h.ln, h.bel⟩)
    clear HPa
    subst hs0
    go_enter Tryz.func22, Tryz.ntmps22
    go_wp2_with fail
    refine (HE.out _ (below_alloc _ _)).mono ?_
    rintro e w2 ⟨rfl, hb2⟩
    obtain ⟨m0, m1, m2, m3, _⟩ := hrow4 (hM.below hb2)
    have HB0 : Hid (BSt w w2 a1 l1 c1 a2 I.length c2 a3 l3 c3 a4 l4 c4 none 0 0 (P.belowL (I.take 0) ⟨#[]⟩)) := Lib.hid ⟨World.ownsRow_nil _ _ _ _, rfl, bstep (below_alloc _ _) hb2⟩
    clear hb2 hM HE
    go_wp2_with fail
    go_loopw [7, 25] (fun v i wr => ∃ (k n c : Nat) (p : Option Addr), k ≤ I.length ∧ i = .int .i64 k ∧ v = .slice p n c ∧ n ≤ k ∧ Hid (BSt w wr a1 l1 c1 a2 I.length c2 a3 l3 c3 a4 l4 c4 p n c (P.belowL (I.take k) ⟨#[]⟩))) (fun _ i _ => I.length - (intOf i).toNat)
    case atStart => exact ⟨0, 0, 0, none, Nat.zero_le _, rfl, rfl, Nat.le_refl _, HB0⟩
    case round =>
      obtain ⟨k, n, c, p, hk, rfl, rfl, hnk, HQ⟩ := hrel
      clear HB0
      have hLI : I.length ≤ 4294967280 := hLL
      by_cases hlt : k < I.length
      · obtain ⟨bb, off, rfl, hbm, hc⟩ := (HL.out.below HQ.out.bel).at_ (ne_nil_of_lt hlt)
        obtain ⟨d0, d1, d2⟩ := hc k hlt
        have hsn := P.belowL_succ ⟨#[]⟩ hlt
        clear hc
        generalize I[k] = x at *
        rw [P.belowP_empty, if_pos rfl] at hsn
        have hwb : w.heap.size ≤ wr.heap.size := HQ.out.bel.size
        go_wp2_with (first
          | (go_at_call 37; refine (HCn.out _).mono ?_; rintro e w2 ⟨rfl, rfl⟩)
          | (at_builtin; refine wpList_append_sl rfl _ _ 49 rfl w.heap.size 9 i0 _ 1 16 Tryz.underlying49 hi hz0 hz1 hz2 rfl (by decide) (.slice p n c) n ((P.belowL (I.take k) ⟨#[]⟩).map Value.string) rfl (own_below (own_below HQ.out.o (below_alloc wr (.cells #[.string x.p, .string x.d, .bool x.r] 42))) (below_alloc _ (.cells #[.string x.p] 9))) ⟨wr.heap.size + 1, 0, none⟩ 1 1 [.string x.p] rfl rfl (by have h := cells_new (wr.alloc (.cells #[.string x.p, .string x.d, .bool x.r] 42)) [.string x.p] 9; rw [World.size_alloc] at h; exact h) (by intro u hu; simp at hu; subst hu; rfl) (by unfold maxLen; omega) (by omega) (by simp; omega) ?_; intro p' c' w6 hown6 hgrow6; have HQ6 := Lib.hid (HQ.out.push (.cells #[.string x.p, .string x.d, .bool x.r] 42) (.cells #[.string x.p] 9) hgrow6 hown6 hsn); clear hown6 hgrow6))
        go_roundw
        case rel => exact ⟨k + 1, n + 1, c', p', by omega, by go_num, rfl, by omega, HQ6⟩
        case measure => simp [intOf]; omega
      · obtain rfl : k = I.length := by omega
        have HF := Lib.hid (show BSt w wr a1 l1 c1 a2 I.length c2 a3 l3 c3 a4 l4 c4 p n c (P.belowL I ⟨#[]⟩) by have := HQ.out; rwa [List.take_length] at this)
        clear HQ
        go_wp2_with fail
        go_ret2
        exact HP.out _ _ _ _ HF.out
  · have HP : Hid (P.pathS s = true → ∀ p n c w', BSt w w' a1 l1 c1 a2 I.length c2 a3 l3 c3 a4 l4 c4 p n c (P.belowL I s) → BelowPost I s w (.returned (.tuple #[.slice p n c, .int .i64 0])) w') := Lib.hid (fun hp p n c w' h => .inr ⟨.inr hp, p, n, c, rfl, h.o, h.ln, h.bel⟩)
    have HQN : Hid (P.pathS s = false → ∀ w', Below w.heap.size w w' → BelowPost I s w (.returned (.tuple #[.slice none 0 0, .int .i64 5])) w') := Lib.hid (fun hp w' hb => .inl ⟨hs0, hp, rfl, hb⟩)
    have HN : Hid (s ≠ ⟨#[]⟩) := Lib.hid hs0
    have h1 : (s.toList == []) = false := by
      rw [beq_eq_false_iff_ne]; intro h; apply hs0; apply toList_inj; rw [h, Lib.toList_data]
    have h2 : s.toList.isEmpty = false := by
      cases h : s.toList.isEmpty with
      | false => rfl
      | true => exact absurd (toList_inj (a := s) (b := ⟨#[]⟩) (by rw [List.isEmpty_iff.1 h, Lib.toList_data])) hs0
    have h3 := ne_of h2
    go_enter Tryz.func22, Tryz.ntmps22
    go_wp2_with fail
    refine (HE.out _ (below_alloc _ _)).mono ?_
    rintro e w2 ⟨rfl, hb2⟩
    have hM2 := hM.below hb2
    have HB2 := Lib.hid (bstep (below_alloc w (.cells #[.slice a1 l1 c1, .slice a2 I.length c2, .slice a3 l3 c3, .slice a4 l4 c4] 26)) hb2)
    clear hb2 hM HE
    go_wp2_with fail
    refine (HPa.out _ HB2.out).mono ?_
    rintro e w3 ⟨rfl, hb3⟩
    obtain ⟨m0, m1, m2, m3, _⟩ := hrow4 (hM2.below hb3)
    have HB3 := Lib.hid (bstep HB2.out hb3)
    clear hb3 hM2 HB2 HPa
    clear HN
    cases hp : P.pathS s with
    | false =>
      replace HQN := Lib.hid (HQN.out hp)
      clear HP hp
      go_wp2_with fail
      go_ret2
      exact HQN.out _ HB3.out
    | true =>
      replace HP := Lib.hid (HP.out hp)
      clear hp HQN
      have HB0 : Hid (BSt w w3 a1 l1 c1 a2 I.length c2 a3 l3 c3 a4 l4 c4 none 0 0 (P.belowL (I.take 0) s)) := Lib.hid ⟨World.ownsRow_nil _ _ _ _, rfl, HB3.out⟩
      clear HB3
      go_wp2_with fail
      go_loopw [7, 25] (fun v i wr => ∃ (k n c : Nat) (p : Option Addr), k ≤ I.length ∧ i = .int .i64 k ∧ v = .slice p n c ∧ n ≤ k ∧ Hid (BSt w wr a1 l1 c1 a2 I.length c2 a3 l3 c3 a4 l4 c4 p n c (P.belowL (I.take k) s))) (fun _ i _ => I.length - (intOf i).toNat)
      case atStart => exact ⟨0, 0, 0, none, Nat.zero_le _, rfl, rfl, Nat.le_refl _, HB0⟩
      case round =>
        obtain ⟨k, n, c, p, hk, rfl, rfl, hnk, HQ⟩ := hrel
        clear HB0
        have hLI : I.length ≤ 4294967280 := hLL
        by_cases hlt : k < I.length
        · obtain ⟨bb, off, rfl, hbm, hc⟩ := (HL.out.below HQ.out.bel).at_ (ne_nil_of_lt hlt)
          obtain ⟨d0, d1, d2⟩ := hc k hlt
          have hsn := P.belowL_succ s hlt
          clear hc
          generalize I[k] = x at *
          have hcon := fun W' => Tryz.strings_HasPrefix x.p (s ++ ⟨#[47]⟩) W'
          rw [hasPrefix_under] at hcon
          rw [P.belowP_under x hs0] at hsn
          have HCn := Lib.hid hcon
          clear hcon
          generalize P.underS x.p s = u at *
          cases u with
          | false =>
            rw [if_neg (by decide)] at hsn
            go_wp2_with (first
              | (go_at_call 37; refine (HCn.out _).mono ?_; rintro e w2 ⟨rfl, rfl⟩))
            go_roundw
            case rel => exact ⟨k + 1, n, c, p, by omega, by go_num, rfl, by omega, Lib.hid (HQ.out.skip (.cells #[.string x.p, .string x.d, .bool x.r] 42) hsn)⟩
            case measure => simp [intOf]; omega
          | true =>
            rw [if_pos rfl] at hsn
            have hwb : w.heap.size ≤ wr.heap.size := HQ.out.bel.size
            go_wp2_with (first
              | (go_at_call 37; refine (HCn.out _).mono ?_; rintro e w2 ⟨rfl, rfl⟩)
              | (at_builtin; refine wpList_append_sl rfl _ _ 49 rfl w.heap.size 9 i0 _ 1 16 Tryz.underlying49 hi hz0 hz1 hz2 rfl (by decide) (.slice p n c) n ((P.belowL (I.take k) s).map Value.string) rfl (own_below (own_below HQ.out.o (below_alloc wr (.cells #[.string x.p, .string x.d, .bool x.r] 42))) (below_alloc _ (.cells #[.string x.p] 9))) ⟨wr.heap.size + 1, 0, none⟩ 1 1 [.string x.p] rfl rfl (by have h := cells_new (wr.alloc (.cells #[.string x.p, .string x.d, .bool x.r] 42)) [.string x.p] 9; rw [World.size_alloc] at h; exact h) (by intro u hu; simp at hu; subst hu; rfl) (by unfold maxLen; omega) (by omega) (by simp; omega) ?_; intro p' c' w6 hown6 hgrow6; have HQ6 := Lib.hid (HQ.out.push (.cells #[.string x.p, .string x.d, .bool x.r] 42) (.cells #[.string x.p] 9) hgrow6 hown6 hsn); clear hown6 hgrow6))
            go_roundw
            case rel => exact ⟨k + 1, n + 1, c', p', by omega, by go_num, rfl, by omega, HQ6⟩
            case measure => simp [intOf]; omega
        · obtain rfl : k = I.length := by omega
          have HF := Lib.hid (show BSt w wr a1 l1 c1 a2 I.length c2 a3 l3 c3 a4 l4 c4 p n c (P.belowL I s) by have := HQ.out; rwa [List.take_length] at this)
          clear HQ
          go_wp2_with fail
          go_ret2
          exact HP.out _ _ _ _ HF.out
end Go.Proofs.YtpnjlhippngfcaaGreatDoor
