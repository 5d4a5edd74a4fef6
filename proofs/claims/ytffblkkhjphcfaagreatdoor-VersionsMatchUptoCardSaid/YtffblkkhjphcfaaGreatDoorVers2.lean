/- Walks: versions of package ver: write, Print. -/
import Derived.Test.YtffblkkhjphcfaaGreatDoorVers
import Derived.Deep.RegionHeld3
import Derived.Shelf.GgClosure.Gives
import Derived.Lib.ItoaLen
namespace Go.Proofs.YtffblkkhjphcfaaGreatDoor
open Go.RowKit Go.Shelf

theorem itoa_any (n : Int) (h0 : -9223372036854775808 ≤ n) (h1 : n ≤ 9223372036854775807) (w : World) (hw : Good w) :
    Calls Tryz.prog 71 #[.int .i64 n] w fun e w' => e = .returned (.string ⟨(Lib.itoa n).toArray⟩) ∧ Below w.heap.size w w' :=
  (Tryz.strconv_Itoa n h0 h1 w hw.pow).mono fun e w' ⟨he, k, os, hg⟩ => ⟨he, by rw [hg]; exact below_grown w k os⟩

/-- What was there when the call began is there, and so is the first block that it has laid. -/
def Frm (w W : World) : Prop := Below w.heap.size w W ∧ w.heap.size < W.heap.size
theorem Frm.step {w W W' : World} (h : Frm w W) (hb : Below W.heap.size W W') : Frm w W' := ⟨h.1.trans (hb.mono h.1.size), Nat.lt_of_lt_of_le h.2 hb.size⟩
theorem Frm.good {w W : World} (h : Frm w W) (hw : Good w) : Good W := hw.mono h.1
theorem Frm.cell {w W W' : World} (h : Frm w W) (hb : Below W.heap.size W W') (i : Nat) : W'.cell? ⟨w.heap.size, i, none⟩ = W.cell? ⟨w.heap.size, i, none⟩ := hb.cell (p := ⟨w.heap.size, i, none⟩) h.2
theorem Frm.start (w : World) (o : Obj) : Frm w (w.alloc o).drew := ⟨((Below.refl _ _).alloc (Nat.le_refl _) o).drew, by simp⟩

theorem box_start (w : World) (v0 v1 v2 v3 : Value) (t : TypeId) :
    ((w.alloc (.cells #[v0, v1, v2, v3] t)).drew).cell? ⟨w.heap.size, 0, none⟩ = some v0 ∧ ((w.alloc (.cells #[v0, v1, v2, v3] t)).drew).cell? ⟨w.heap.size, 1, none⟩ = some v1 ∧
    ((w.alloc (.cells #[v0, v1, v2, v3] t)).drew).cell? ⟨w.heap.size, 2, none⟩ = some v2 ∧ ((w.alloc (.cells #[v0, v1, v2, v3] t)).drew).cell? ⟨w.heap.size, 3, none⟩ = some v3 ∧ Frm w (w.alloc (.cells #[v0, v1, v2, v3] t)).drew := by
  have h : ∀ i, ((w.alloc (.cells #[v0, v1, v2, v3] t)).drew).cell? ⟨w.heap.size, i, none⟩ = (#[v0, v1, v2, v3] : Array Value)[i]? := fun i => by
    show (w.alloc (.cells #[v0, v1, v2, v3] t)).cell? _ = _
    rw [World.cell?_alloc_at _ _ _ _ rfl]
  exact ⟨h 0, h 1, h 2, h 3, Frm.start _ _⟩
theorem box_step {w W W' : World} {v0 v1 v2 v3 : Value} (h : W.cell? ⟨w.heap.size, 0, none⟩ = some v0 ∧ W.cell? ⟨w.heap.size, 1, none⟩ = some v1 ∧ W.cell? ⟨w.heap.size, 2, none⟩ = some v2 ∧ W.cell? ⟨w.heap.size, 3, none⟩ = some v3 ∧ Frm w W)
    (hb : Below W.heap.size W W') :
    W'.cell? ⟨w.heap.size, 0, none⟩ = some v0 ∧ W'.cell? ⟨w.heap.size, 1, none⟩ = some v1 ∧ W'.cell? ⟨w.heap.size, 2, none⟩ = some v2 ∧ W'.cell? ⟨w.heap.size, 3, none⟩ = some v3 ∧ Frm w W' :=
  let ⟨h0, h1, h2, h3, hf⟩ := h
  ⟨(hf.cell hb 0).trans h0, (hf.cell hb 1).trans h1, (hf.cell hb 2).trans h2, (hf.cell hb 3).trans h3, hf.step hb⟩
theorem held_good {w W : World} {A B C D : Prop} (h : A ∧ B ∧ C ∧ D ∧ Frm w W) (hw : Good w) : Good W := h.2.2.2.2.good hw

theorem held_below {w W : World} {A B C D : Prop} (h : A ∧ B ∧ C ∧ D ∧ Frm w W) : Below w.heap.size w W := h.2.2.2.2.1
theorem vtext_eq (n1 n2 n3 : Int) (s x y z : ByteArray) (hx : (⟨(Lib.itoa n1).toArray⟩ : ByteArray) = x) (hy : (⟨(Lib.itoa n2).toArray⟩ : ByteArray) = y) (hz : (⟨(Lib.itoa n3).toArray⟩ : ByteArray) = z) :
    (⟨(P.vtextL n1 n2 n3 s.data.toList).toArray⟩ : ByteArray) = if s.toList.isEmpty then x ++ ⟨#[46]⟩ ++ y ++ ⟨#[46]⟩ ++ z else x ++ ⟨#[46]⟩ ++ y ++ ⟨#[46]⟩ ++ z ++ (⟨#[45]⟩ ++ s) := by
  subst hx hy hz
  rw [Lib.toList_data]
  apply ByteArray.ext
  unfold P.vtextL
  cases h : s.data.toList.isEmpty <;> apply Array.toList_inj.1 <;> simp [ByteArray.data_append]

set_option maxHeartbeats 1000000 in
theorem write_any (n1 n2 n3 : Int) (s : ByteArray) (h : P.numOk n1 = true ∧ P.numOk n2 = true ∧ P.numOk n3 = true) (hs : s.size ≤ 4294967280) (w : World) (hw : Good w) :
    Calls Tryz.prog 62 #[.agg #[.int .i64 n1, .int .i64 n2, .int .i64 n3, .string s]] w fun e w' => e = .returned (.string ⟨(P.vtextL n1 n2 n3 s.data.toList).toArray⟩) ∧ Below w.heap.size w w' := by
  obtain ⟨h1, h2, h3⟩ := h
  obtain ⟨a0, a1⟩ := numOk_true h1
  obtain ⟨b0, b1⟩ := numOk_true h2
  obtain ⟨c0, c1⟩ := numOk_true h3
  clear h1 h2 h3
  have Ha := Lib.hid (fun W hW => itoa_any n1 (by omega) (by omega) W hW)
  have Hb := Lib.hid (fun W hW => itoa_any n2 (by omega) (by omega) W hW)
  have Hc := Lib.hid (fun W hW => itoa_any n3 (by omega) (by omega) W hW)
  have Hw := Lib.hid hw
  clear hw
  obtain ⟨x, Hx, hx⟩ : ∃ x : ByteArray, Hid ((⟨(Lib.itoa n1).toArray⟩ : ByteArray) = x) ∧ x.size ≤ 21 := ⟨_, Lib.hid rfl, by have := Lib.itoa_length_le n1 (by omega) (by omega); simpa [ByteArray.size] using this⟩
  rw [Hx.out] at Ha
  obtain ⟨y, Hy, hy⟩ : ∃ y : ByteArray, Hid ((⟨(Lib.itoa n2).toArray⟩ : ByteArray) = y) ∧ y.size ≤ 21 := ⟨_, Lib.hid rfl, by have := Lib.itoa_length_le n2 (by omega) (by omega); simpa [ByteArray.size] using this⟩
  rw [Hy.out] at Hb
  obtain ⟨z, Hz, hz⟩ : ∃ z : ByteArray, Hid ((⟨(Lib.itoa n3).toArray⟩ : ByteArray) = z) ∧ z.size ≤ 21 := ⟨_, Lib.hid rfl, by have := Lib.itoa_length_le n3 (by omega) (by omega); simpa [ByteArray.size] using this⟩
  rw [Hz.out] at Hc
  have hd : (⟨#[46]⟩ : ByteArray).size = 1 := rfl
  have cat1 := fun W => run_string_add_sum (P := Tryz.prog) W x ⟨#[46]⟩ (by rw [hd]; omega)
  have cat2 := fun W => run_string_add_sum (P := Tryz.prog) W (x ++ ⟨#[46]⟩) y (by rw [ByteArray.size_append, hd]; omega)
  have cat3 := fun W => run_string_add_sum (P := Tryz.prog) W (x ++ ⟨#[46]⟩ ++ y) ⟨#[46]⟩ (by rw [ByteArray.size_append, ByteArray.size_append, hd]; omega)
  have cat4 := fun W => run_string_add_sum (P := Tryz.prog) W (x ++ ⟨#[46]⟩ ++ y ++ ⟨#[46]⟩) z (by rw [ByteArray.size_append, ByteArray.size_append, ByteArray.size_append, hd]; omega)
  clear hd
  go_enter Tryz.func62, Tryz.ntmps62
  go_wp2_with fail
  go_region_held3 (fun w' => w'.cell? ⟨w.heap.size, 0, none⟩ = some (.int .i64 n1) ∧ w'.cell? ⟨w.heap.size, 1, none⟩ = some (.int .i64 n2) ∧ w'.cell? ⟨w.heap.size, 2, none⟩ = some (.int .i64 n3) ∧ w'.cell? ⟨w.heap.size, 3, none⟩ = some (.string s) ∧ Frm w w')
    (first | exact box_start _ _ _ _ _ _ | exact box_step (by assumption) (by assumption))
    (first
      | (go_at_call_of 71 (Value.int IntKind.i64 n1); refine (Ha.out _ (held_good (by assumption) Hw.out)).mono ?_; rintro e w' ⟨rfl, hb1⟩)
      | (go_at_call_of 71 (Value.int IntKind.i64 n2); refine (Hb.out _ (held_good (by assumption) Hw.out)).mono ?_; rintro e w' ⟨rfl, hb1⟩)
      | (go_at_call_of 71 (Value.int IntKind.i64 n3); refine (Hc.out _ (held_good (by assumption) Hw.out)).mono ?_; rintro e w' ⟨rfl, hb1⟩))
  have HV := Lib.hid (vtext_eq n1 n2 n3 s x y z Hx.out Hy.out Hz.out)
  clear cat1 cat2 cat3 cat4 Hx Hy Hz
  cases h4 : s.toList.isEmpty <;> rw [h4] at HV
  · have h4' := ne_of h4
    go_wp2
    go_ret
    exact ⟨by rw [HV.out]; rfl, held_below (by assumption)⟩
  · have h4' := eq_of h4
    go_wp2
    go_ret
    exact ⟨by rw [HV.out]; rfl, held_below (by assumption)⟩

theorem boxed4 {w w1 : World} {v0 v1 v2 v3 : Value} {t : TypeId} (hb : Below (w.alloc (.cells #[v0, v1, v2, v3] t)).heap.size (w.alloc (.cells #[v0, v1, v2, v3] t)) w1) :
    w1.cell? ⟨w.heap.size, 0, none⟩ = some v0 ∧ w1.cell? ⟨w.heap.size, 1, none⟩ = some v1 ∧ w1.cell? ⟨w.heap.size, 2, none⟩ = some v2 ∧ w1.cell? ⟨w.heap.size, 3, none⟩ = some v3 ∧ w.heap.size < w1.heap.size := by
  have h : ∀ i, w1.cell? ⟨w.heap.size, i, none⟩ = (#[v0, v1, v2, v3] : Array Value)[i]? := fun i => by
    rw [hb.cell (p := ⟨w.heap.size, i, none⟩) (by simp), World.cell?_alloc_at _ _ _ _ rfl]
  exact ⟨h 0, h 1, h 2, h 3, by have := hb.size; simp at this; omega⟩

theorem verr_zero {a b c : Int} {s : ByteArray} (h : P.verr a b c s = 0) : P.numOk a = true ∧ P.numOk b = true ∧ P.numOk c = true := by
  unfold P.verr at h
  split at h
  · rename_i h'; simp only [Bool.and_eq_true] at h'; exact ⟨h'.1.1, h'.1.2, h'.2⟩
  · cases h
theorem verr_cases (a b c : Int) (s : ByteArray) : P.verr a b c s = 0 ∨ P.verr a b c s = 2 ∨ P.verr a b c s = 3 := by
  unfold P.verr
  split
  · split <;> simp
  · simp

def printS (a b c : Int) (s : ByteArray) : ByteArray := if P.verr a b c s = 0 then ⟨(P.vtextL a b c s.data.toList).toArray⟩ else ⟨#[]⟩

set_option maxHeartbeats 1000000 in
theorem print_any (n1 n2 n3 : Int) (s : ByteArray) (hs : s.size ≤ 4294967280) (w : World) (hw : Good w) :
    Calls Tryz.prog 11 #[.agg #[.int .i64 n1, .int .i64 n2, .int .i64 n3, .string s]] w fun e w' => e = .returned (.tuple #[.string (printS n1 n2 n3 s), .int .i64 (P.verr n1 n2 n3 s)]) ∧ Below w.heap.size w w' := by
  have Hc := Lib.hid (fun W hW => check_any n1 n2 n3 s hs W hW)
  have Hw := Lib.hid hw
  clear hw
  by_cases h0 : P.verr n1 n2 n3 s = 0
  · have Hwr := Lib.hid (fun W hW => write_any n1 n2 n3 s (verr_zero h0) hs W hW)
    have hp : printS n1 n2 n3 s = ⟨(P.vtextL n1 n2 n3 s.data.toList).toArray⟩ := if_pos h0
    rw [hp]
    rw [h0] at Hc ⊢
    clear hp h0
    generalize (⟨(P.vtextL n1 n2 n3 s.data.toList).toArray⟩ : ByteArray) = t at *
    go_enter Tryz.func11, Tryz.ntmps11
    go_wp2_with fail
    refine (Hc.out _ (Hw.out.mono (by go_grown))).mono ?_
    rintro e w1 ⟨rfl, hb1⟩
    obtain ⟨c0, c1, c2, c3, hlt⟩ := boxed4 hb1
    have HB1 := Lib.hid hb1
    clear hb1
    go_wp2_with fail
    refine (Hwr.out _ ((Hw.out.mono (by go_grown)).mono HB1.out)).mono ?_
    rintro e w2 ⟨rfl, hb2⟩
    have HB2 := Lib.hid hb2
    clear hb2
    go_wp2
    go_ret2
    exact ⟨rfl, below_step (below_step (by go_grown) HB1.out) HB2.out⟩
  · have hp : printS n1 n2 n3 s = ⟨#[]⟩ := if_neg h0
    rw [hp]
    have h0' : (P.verr n1 n2 n3 s != 0) = true := by simpa using h0
    generalize P.verr n1 n2 n3 s = e at *
    clear hp
    go_enter Tryz.func11, Tryz.ntmps11
    go_wp2_with fail
    refine (Hc.out _ (Hw.out.mono (by go_grown))).mono ?_
    rintro e w1 ⟨rfl, hb1⟩
    have HB1 := Lib.hid hb1
    clear hb1
    go_wp2
    go_ret2
    exact ⟨rfl, below_step (by go_grown) HB1.out⟩
end Go.Proofs.YtffblkkhjphcfaaGreatDoor
