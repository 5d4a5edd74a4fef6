/- Walks: package outref1: IsPath; the errors of single things; the closure that looks at the order. -/
/- Walks: package outref1: the errors of single things. -/
/- Walks: package outref1: the errors of settings and services; the closure that looks at the order. -/
import Derived.Test.YtomikcemiacjmaaGreatDoorZMRefA
import Derived.Test.YtomikcemiacjmaaGreatDoorZMNames
import Derived.Deep.RegionHeld3

namespace Go.Proofs.YtomikcemiacjmaaGreatDoor
open Go.RowKit Go.Shelf

namespace P
theorem path_of_parts {s : ByteArray} (h : (splitS s 47).all partS = true) : pathS s = decide (s.size ≤ 200) := by
  unfold pathS path
  rw [size_len, ← splitS_all]
  show (decide (s.size ≤ 200) && (splitS s 47).all partS) = _
  rw [h, Bool.and_true]
theorem path_of_bad {s : ByteArray} (h : (splitS s 47).all partS = false) : pathS s = false := by
  unfold pathS path
  rw [← splitS_all]
  show (_ && (splitS s 47).all partS) = _
  rw [h, Bool.and_false]
end P

theorem rpath_any (s : ByteArray) (hs : s.size ≤ 4294967280) (w : World) (hw : Good w) :
    Calls Tryz.prog 40 #[.string s] w fun e w' => e = .returned (.bool (P.pathS s)) ∧ Below w.heap.size w w' := by
  have HT := Lib.hid (@P.path_of_parts s)
  have HF := Lib.hid (@P.path_of_bad s)
  have hsz := P.splitS_size s 47
  have Hsplit := Lib.hid (split_any s 47 (by omega) w hw)
  have hb := below_alloc w (.cells ((P.splitS s 47).map Value.string).toArray 9)
  have hcells := fun k h => pieces_cell w (P.splitS s 47) 9 k h
  have hlen : (P.splitS s 47).length ≤ 4294967281 := by rw [P.splitS_length]; have := Lib.countB_le ⟨#[47]⟩ (P.one_le 47) _ s (Nat.le_refl _); omega
  generalize P.splitS s 47 = l at *
  have HB := Lib.hid hb
  have HC := Lib.hid hcells
  have HZ := Lib.hid hsz
  clear hb hcells hsz
  go_enter Tryz.func40, Tryz.ntmps40
  go_wp2_with fail
  refine (Hsplit.out).mono ?_
  rintro e w1 ⟨rfl, hw1⟩
  have hc1 : ∀ k (h : k < l.length), w1.cell? ⟨w.heap.size, k, none⟩ = some (.string l[k]) := fun k h => by rw [hw1]; exact HC.out k h
  have hb1 : Below w.heap.size w w1 := by rw [hw1]; exact HB.out
  have HC1 := Lib.hid hc1
  have HB1 := Lib.hid hb1
  clear hc1 hb1 hw1 HC HB Hsplit
  go_wp2
  go_loop [8] (fun i => ∃ k : Nat, k ≤ l.length ∧ i = .int .i64 k ∧ Aside ((l.take k).all P.partS = true)) (fun i => l.length - (intOf i).toNat)
  case atStart => exact ⟨0, Nat.zero_le _, rfl, aside (by simp)⟩
  case round =>
    obtain ⟨k, hk, rfl, A⟩ := hrel
    by_cases hlt : k < l.length
    · have hcell := HC1.out k hlt
      have hp := rpart_any l[k] (by have := HZ.out k hlt; omega)
      have hstep : (l.take (k + 1)).all P.partS = P.partS l[k] := by
        rw [List.take_succ_eq_append_getElem hlt, List.all_append, A.out]; simp
      have hall : l.all P.partS = true → P.partS l[k] = true := fun h => List.all_eq_true.1 h _ (List.getElem_mem hlt)
      have Hs := Lib.hid hstep
      have Ha := Lib.hid hall
      clear hstep hall A
      generalize l[k] = x at *
      cases hq : P.partS x <;> rw [hq] at hp
      all_goals
        have Hp := Lib.hid hp
        have Hq := Lib.hid hq
        clear hp hq
        go_wp2_with (go_at_call 130; refine (Hp.out _).mono ?_; rintro e w' ⟨rfl, rfl⟩)
      · have HR := Lib.hid (HF.out (by
          cases h : l.all P.partS with
          | true => have := Ha.out h; rw [Hq.out] at this; cases this
          | false => rfl))
        go_ret
        exact ⟨by rw [HR.out]; rfl, HB1.out⟩
      · go_round
        case rel => exact ⟨k + 1, by omega, by go_num, aside (by rw [Hs.out, Hq.out])⟩
        case measure => simp [intOf]; omega
    · have hk' : k = l.length := by omega
      have hA : l.all P.partS = true := by have := A.out; rw [hk', List.take_of_length_le (Nat.le_refl _)] at this; exact this
      have HR := Lib.hid (HT.out hA)
      clear hA hk' A HT HF
      go_wp2
      go_ret
      exact ⟨by rw [HR.out]; exact congrArg (fun b => Ending.returned (Value.bool b)) (decide_eq_decide.2 (by omega)), HB1.out⟩
end Go.Proofs.YtomikcemiacjmaaGreatDoor

namespace Go.Proofs.YtomikcemiacjmaaGreatDoor
open Go.RowKit Go.Shelf

namespace P
theorem orE_right (a : Int) : orE a 0 = a := by unfold orE; split <;> simp_all
end P
theorem rfirst2 (a b : Int) (nb : Nat) (W : World) (hn : nb = W.heap.size) :
    Calls Tryz.prog 88 #[.slice (some ⟨nb, 0, none⟩) 2 2] (W.alloc (.cells #[.int .i64 a, .int .i64 b] 29)) fun e w' => e = .returned (.int .i64 (P.orE a b)) ∧ W.alloc (.cells #[.int .i64 a, .int .i64 b] 29) = w' := by
  subst hn
  have := rfirst_any W.heap.size [a, b] (by simp) (W.alloc (.cells #[.int .i64 a, .int .i64 b] 29)) (fun j hj => by
    rw [World.cell?_alloc_at _ _ _ _ rfl]
    match j, hj with
    | 0, _ => rfl
    | 1, _ => rfl)
  rw [show P.orL [a, b] = P.orE a b by show P.orE a (P.orE b 0) = _; rw [P.orE_right]] at this
  exact this
theorem rwhen_yes (x : Int) (w : World) : Calls Tryz.prog 87 #[.bool true, .int .i64 x] w fun e w' => e = .returned (.int .i64 x) ∧ w = w' := rwhen_any true x w
theorem rwhen_no (x : Int) (w : World) : Calls Tryz.prog 87 #[.bool false, .int .i64 x] w fun e w' => e = .returned (.int .i64 0) ∧ w = w' := rwhen_any false x w

/-- What was there when the call began is there, and the box that it has laid. -/
def Frm (w W : World) : Prop := Below w.heap.size w W ∧ w.heap.size < W.heap.size
theorem Frm.step {w W W' : World} (h : Frm w W) (hb : Below W.heap.size W W') : Frm w W' := ⟨h.1.trans (hb.mono h.1.size), Nat.lt_of_lt_of_le h.2 hb.size⟩
theorem Frm.start (w : World) (o : Obj) : Frm w (w.alloc o).drew := ⟨((Below.refl _ _).alloc (Nat.le_refl _) o).drew, by simp⟩
theorem b3_start (w : World) (a b c : Value) (t : TypeId) :
    ((w.alloc (.cells #[a, b, c] t)).drew).cell? ⟨w.heap.size, 0, none⟩ = some a ∧ ((w.alloc (.cells #[a, b, c] t)).drew).cell? ⟨w.heap.size, 1, none⟩ = some b ∧ ((w.alloc (.cells #[a, b, c] t)).drew).cell? ⟨w.heap.size, 2, none⟩ = some c ∧ Frm w (w.alloc (.cells #[a, b, c] t)).drew :=
  ⟨(HasRow.new w #[a, b, c] t).cell 0, (HasRow.new w #[a, b, c] t).cell 1, (HasRow.new w #[a, b, c] t).cell 2, Frm.start _ _⟩
theorem b3_step {w W W' : World} {a b c : Value} (h : W.cell? ⟨w.heap.size, 0, none⟩ = some a ∧ W.cell? ⟨w.heap.size, 1, none⟩ = some b ∧ W.cell? ⟨w.heap.size, 2, none⟩ = some c ∧ Frm w W) (hb : Below W.heap.size W W') :
    W'.cell? ⟨w.heap.size, 0, none⟩ = some a ∧ W'.cell? ⟨w.heap.size, 1, none⟩ = some b ∧ W'.cell? ⟨w.heap.size, 2, none⟩ = some c ∧ Frm w W' := ⟨cell_keep hb h.1, cell_keep hb h.2.1, cell_keep hb h.2.2.1, h.2.2.2.step hb⟩
theorem b2_start (w : World) (a b : Value) (t : TypeId) :
    ((w.alloc (.cells #[a, b] t)).drew).cell? ⟨w.heap.size, 0, none⟩ = some a ∧ ((w.alloc (.cells #[a, b] t)).drew).cell? ⟨w.heap.size, 1, none⟩ = some b ∧ Frm w (w.alloc (.cells #[a, b] t)).drew :=
  ⟨(HasRow.new w #[a, b] t).cell 0, (HasRow.new w #[a, b] t).cell 1, Frm.start _ _⟩
theorem b2_step {w W W' : World} {a b : Value} (h : W.cell? ⟨w.heap.size, 0, none⟩ = some a ∧ W.cell? ⟨w.heap.size, 1, none⟩ = some b ∧ Frm w W) (hb : Below W.heap.size W W') :
    W'.cell? ⟨w.heap.size, 0, none⟩ = some a ∧ W'.cell? ⟨w.heap.size, 1, none⟩ = some b ∧ Frm w W' := ⟨cell_keep hb h.1, cell_keep hb h.2.1, h.2.2.step hb⟩

set_option maxRecDepth 100000 in
set_option maxHeartbeats 8000000 in
theorem rfileError_any (x : P.Fi) (hk : x.p.size ≤ 4294967280) (hv : x.d.size ≤ 4294967280) (w : World) (hw : Good w) :
    Calls Tryz.prog 90 #[.agg #[.string x.p, .string x.d, .bool x.r]] w fun e w' => e = .returned (.int .i64 (P.fileErr x)) ∧ Below w.heap.size w w' := by
  have H := fun W hW => rpath_any x.p hk W hW
  have HY := Lib.hid rwhen_yes
  have HN := Lib.hid rwhen_no
  unfold P.fileErr
  cases h1 : P.pathS x.p <;> rw [h1] at H <;> by_cases h2 : x.d.size ≤ 65536
  all_goals
    have HO := Lib.hid (fun a b nb W hn => rfirst2 a b nb W hn)
    replace H := Lib.hid H
    have HV := Lib.hid h2
    have Hw := Lib.hid hw
    clear hw h1
    first | (have h3 : decide ((65536 : Int) < (x.d.size : Int)) = false := decide_eq_false (by omega))
          | (have h3 : decide ((65536 : Int) < (x.d.size : Int)) = true := decide_eq_true (by omega))
    clear h2
    go_enter Tryz.func90, Tryz.ntmps90
    go_wp2_with fail
    go_region_held3 (fun W => W.cell? ⟨w.heap.size, 0, none⟩ = some (.string x.p) ∧ W.cell? ⟨w.heap.size, 1, none⟩ = some (.string x.d) ∧ W.cell? ⟨w.heap.size, 2, none⟩ = some (.bool x.r) ∧ Frm w W)
      (first | exact b3_start _ _ _ _ _ | with_reducible assumption | exact b3_step (by with_reducible assumption) (by with_reducible assumption) | exact b3_step (by with_reducible assumption) (below_alloc _ _))
      (first
        | (go_at_call 40; refine (H.out _ (Hw.out.mono (by with_reducible assumption : _ ∧ _ ∧ _ ∧ Frm w _).2.2.2.1)).mono ?_; rintro e w' ⟨rfl, hb1⟩)
        | (go_at_call_of 87 (Value.bool true); refine (HY.out _ _).mono ?_; rintro e w' ⟨rfl, rfl⟩)
        | (go_at_call_of 87 (Value.bool false); refine (HN.out _ _).mono ?_; rintro e w' ⟨rfl, rfl⟩)
        | (go_at_call 88; refine (HO.out _ _ _ _ (by simp)).mono ?_; rintro e w' ⟨rfl, rfl⟩))
    go_wp2
    go_ret
    exact ⟨by simp [P.orE], (by with_reducible assumption : _ ∧ _ ∧ _ ∧ Frm w _).2.2.2.1⟩
end Go.Proofs.YtomikcemiacjmaaGreatDoor

namespace Go.Proofs.YtomikcemiacjmaaGreatDoor
open Go.RowKit Go.Shelf

set_option maxRecDepth 100000 in
set_option maxHeartbeats 8000000 in
theorem rsettingError_any (x : P.St) (hk : x.k.size ≤ 4294967280) (hv : x.v.size ≤ 4294967280) (w : World) (hw : Good w) :
    Calls Tryz.prog 91 #[.agg #[.string x.k, .string x.v]] w fun e w' => e = .returned (.int .i64 (P.setErr x)) ∧ Below w.heap.size w w' := by
  have H := fun W hW => rpath_any x.k hk W hW
  have H2 := fun W => rvalue_any x.v hv W
  have HY := Lib.hid rwhen_yes
  have HN := Lib.hid rwhen_no
  unfold P.setErr
  cases h1 : P.pathS x.k <;> rw [h1] at H <;> cases h2 : P.valueS x.v <;> rw [h2] at H2
  all_goals
    have HO := Lib.hid (fun a b nb W hn => rfirst2 a b nb W hn)
    replace H := Lib.hid H
    replace H2 := Lib.hid H2
    have Hw := Lib.hid hw
    clear hw h1 h2
    go_enter Tryz.func91, Tryz.ntmps91
    go_wp2_with fail
    go_region_held3 (fun W => W.cell? ⟨w.heap.size, 0, none⟩ = some (.string x.k) ∧ W.cell? ⟨w.heap.size, 1, none⟩ = some (.string x.v) ∧ Frm w W)
      (first | exact b2_start _ _ _ _ | with_reducible assumption | exact b2_step (by with_reducible assumption) (by with_reducible assumption) | exact b2_step (by with_reducible assumption) (below_alloc _ _))
      (first
        | (go_at_call 40; refine (H.out _ (Hw.out.mono (by with_reducible assumption : _ ∧ _ ∧ Frm w _).2.2.1)).mono ?_; rintro e w' ⟨rfl, hb1⟩)
        | (go_at_call 89; refine (H2.out _).mono ?_; rintro e w' ⟨rfl, rfl⟩)
        | (go_at_call_of 87 (Value.bool true); refine (HY.out _ _).mono ?_; rintro e w' ⟨rfl, rfl⟩)
        | (go_at_call_of 87 (Value.bool false); refine (HN.out _ _).mono ?_; rintro e w' ⟨rfl, rfl⟩)
        | (go_at_call 88; refine (HO.out _ _ _ _ (by simp)).mono ?_; rintro e w' ⟨rfl, rfl⟩))
    go_wp2
    go_ret
    exact ⟨by simp [P.orE], (by with_reducible assumption : _ ∧ _ ∧ Frm w _).2.2.1⟩

theorem rserviceError_any (x : P.Sv) (hk : x.n.size ≤ 4294967280) (hv : x.p.size ≤ 4294967280) (w : World) (hw : Good w) :
    Calls Tryz.prog 92 #[.agg #[.string x.n, .string x.p, .bool x.a, .bool x.o]] w fun e w' => e = .returned (.int .i64 (P.svcErr x)) ∧ Below w.heap.size w w' := by
  have H := fun W => rname_any x.n hk W
  have H2 := fun W hW => rpath_any x.p hv W hW
  have HY := Lib.hid rwhen_yes
  have HN := Lib.hid rwhen_no
  unfold P.svcErr
  cases h1 : P.nameS x.n <;> rw [h1] at H <;> cases h2 : P.pathS x.p <;> rw [h2] at H2
  all_goals
    replace H := Lib.hid H
    replace H2 := Lib.hid H2
    have Hw := Lib.hid hw
    have HA := Lib.hid (below_alloc w (.cells #[.string x.n, .string x.p, .bool x.a, .bool x.o] 46))
    clear hw h1 h2
    go_enter Tryz.func92, Tryz.ntmps92
    go_wp2_with (first
      | (go_at_call 39; refine (H.out _).mono ?_; rintro e w' ⟨rfl, rfl⟩)
      | (go_at_call 40; refine (H2.out _ (Hw.out.mono HA.out)).mono ?_; rintro e w1 ⟨rfl, hb⟩)
      | (go_at_call_of 87 (Value.bool true); refine (HY.out _ _).mono ?_; rintro e w' ⟨rfl, rfl⟩)
      | (go_at_call_of 87 (Value.bool false); refine (HN.out _ _).mono ?_; rintro e w' ⟨rfl, rfl⟩))
    go_ret
    exact ⟨rfl, by first | exact bstep HA.out hb | exact HA.out⟩

namespace P
end P
/-- only block B has turned, which holds s -/
structure Turn (B : Nat) (s : ByteArray) (W W' : World) : Prop where
  g : W.grownBy W' (some B)
  r : HasRow W' B #[.string s]
theorem Turn.set {B : Nat} {W : World} {t : ByteArray} (s : ByteArray) (h : HasRow W B #[.string t]) : Turn B s W (W.setCell ⟨B, 0, none⟩ (.string s)) := ⟨grown_set W B _, h.set 0 _ (by simp)⟩
theorem rfirst2r (a b r : Int) (hr : P.orE a b = r) (nb : Nat) (W : World) (hn : nb = W.heap.size) :
    Calls Tryz.prog 88 #[.slice (some ⟨nb, 0, none⟩) 2 2] (W.alloc (.cells #[.int .i64 a, .int .i64 b] 29)) fun e w' => e = .returned (.int .i64 r) ∧ W.alloc (.cells #[.int .i64 a, .int .i64 b] 29) = w' := by
  rw [← hr]; exact rfirst2 a b nb W hn
end Go.Proofs.YtomikcemiacjmaaGreatDoor
