/- Walks: texts of versions of package outref2, and versions read. -/
import Derived.Test.YtffblkkhjphcfaaGreatDoorRefE
namespace Go.Proofs.YtffblkkhjphcfaaGreatDoor
open Go.RowKit Go.Shelf

set_option maxHeartbeats 1000000 in
theorem versionText_any (n1 n2 n3 : Int) (s : ByteArray) (h : P.numOk n1 = true ∧ P.numOk n2 = true ∧ P.numOk n3 = true) (hs : s.size ≤ 4294967280) (w : World) (hw : Good w) :
    Calls Tryz.prog 23 #[.agg #[.int .i64 n1, .int .i64 n2, .int .i64 n3, .string s]] w fun e w' => e = .returned (.string ⟨(P.vtextL n1 n2 n3 s.data.toList).toArray⟩) ∧ Below w.heap.size w w' := by
  obtain ⟨h1, h2, h3⟩ := h
  obtain ⟨a0, a1⟩ := numOk_true h1
  obtain ⟨b0, b1⟩ := numOk_true h2
  obtain ⟨c0, c1⟩ := numOk_true h3
  clear h1 h2 h3
  have Ha := Lib.hid (fun W hW => itoa_any n1 (by omega) (by omega) W hW)
  have Hb := Lib.hid (fun W hW => itoa_any n2 (by omega) (by omega) W hW)
  have Hc := Lib.hid (fun W hW => itoa_any n3 (by omega) (by omega) W hW)
  have Hw := Lib.hid hw
  clear hw
  obtain ⟨x, Hx, hx⟩ : ∃ x : ByteArray, Hid ((⟨(Lib.itoa n1).toArray⟩ : ByteArray) = x) ∧ x.size ≤ 21 := ⟨_, Lib.hid rfl, by have := Lib.itoa_length_le n1 (by omega) (by omega); simpa [ByteArray.size] using this⟩
  rw [Hx.out] at Ha
  obtain ⟨y, Hy, hy⟩ : ∃ y : ByteArray, Hid ((⟨(Lib.itoa n2).toArray⟩ : ByteArray) = y) ∧ y.size ≤ 21 := ⟨_, Lib.hid rfl, by have := Lib.itoa_length_le n2 (by omega) (by omega); simpa [ByteArray.size] using this⟩
  rw [Hy.out] at Hb
  obtain ⟨z, Hz, hz⟩ : ∃ z : ByteArray, Hid ((⟨(Lib.itoa n3).toArray⟩ : ByteArray) = z) ∧ z.size ≤ 21 := ⟨_, Lib.hid rfl, by have := Lib.itoa_length_le n3 (by omega) (by omega); simpa [ByteArray.size] using this⟩
  rw [Hz.out] at Hc
  have hd : (⟨#[46]⟩ : ByteArray).size = 1 := rfl
  have cat1 := fun W => run_string_add_sum (P := Tryz.prog) W x ⟨#[46]⟩ (by rw [hd]; omega)
  have cat2 := fun W => run_string_add_sum (P := Tryz.prog) W (x ++ ⟨#[46]⟩) y (by rw [ByteArray.size_append, hd]; omega)
  have cat3 := fun W => run_string_add_sum (P := Tryz.prog) W (x ++ ⟨#[46]⟩ ++ y) ⟨#[46]⟩ (by rw [ByteArray.size_append, ByteArray.size_append, hd]; omega)
  have cat4 := fun W => run_string_add_sum (P := Tryz.prog) W (x ++ ⟨#[46]⟩ ++ y ++ ⟨#[46]⟩) z (by rw [ByteArray.size_append, ByteArray.size_append, ByteArray.size_append, hd]; omega)
  clear hd
  go_enter Tryz.func23, Tryz.ntmps23
  go_wp2_with fail
  go_region_held3 (fun w' => w'.cell? ⟨w.heap.size, 0, none⟩ = some (.int .i64 n1) ∧ w'.cell? ⟨w.heap.size, 1, none⟩ = some (.int .i64 n2) ∧ w'.cell? ⟨w.heap.size, 2, none⟩ = some (.int .i64 n3) ∧ w'.cell? ⟨w.heap.size, 3, none⟩ = some (.string s) ∧ Frm w w')
    (first | exact box_start _ _ _ _ _ _ | exact box_step (by assumption) (by assumption))
    (first
      | (go_at_call_of 71 (Value.int IntKind.i64 n1); refine (Ha.out _ (held_good (by assumption) Hw.out)).mono ?_; rintro e w' ⟨rfl, hb1⟩)
      | (go_at_call_of 71 (Value.int IntKind.i64 n2); refine (Hb.out _ (held_good (by assumption) Hw.out)).mono ?_; rintro e w' ⟨rfl, hb1⟩)
      | (go_at_call_of 71 (Value.int IntKind.i64 n3); refine (Hc.out _ (held_good (by assumption) Hw.out)).mono ?_; rintro e w' ⟨rfl, hb1⟩))
  have HV := Lib.hid (vtext_eq n1 n2 n3 s x y z Hx.out Hy.out Hz.out)
  clear cat1 cat2 cat3 cat4 Hx Hy Hz
  cases h4 : s.toList.isEmpty <;> rw [h4] at HV
  · have h4' := ne_of h4
    go_wp2
    go_ret
    exact ⟨by rw [HV.out]; rfl, held_below (by assumption)⟩
  · have h4' := eq_of h4
    go_wp2
    go_ret
    exact ⟨by rw [HV.out]; rfl, held_below (by assumption)⟩

theorem verr1_any (n1 n2 n3 : Int) (s : ByteArray) (hs : s.size ≤ 4294967280) (W : World) (hW : Good W) :
    Calls Tryz.prog 9 #[.slice (some ⟨W.heap.size, 0, none⟩) 1 1] (W.alloc (.cells #[.int .i64 n1, .int .i64 n2, .int .i64 n3, .string s] 23)) fun e w' =>
      e = .returned (.int .i64 (P.verr n1 n2 n3 s)) ∧ Below (W.alloc (.cells #[.int .i64 n1, .int .i64 n2, .int .i64 n3, .string s] 23)).heap.size (W.alloc (.cells #[.int .i64 n1, .int .i64 n2, .int .i64 n3, .string s] 23)) w' := by
  have hc : ∀ i, (W.alloc (.cells #[.int .i64 n1, .int .i64 n2, .int .i64 n3, .string s] 23)).cell? ⟨W.heap.size, i, none⟩ = (#[.int .i64 n1, .int .i64 n2, .int .i64 n3, .string s] : Array Value)[i]? := fun i => World.cell?_alloc_at _ _ _ _ rfl
  have h := versionError_any [(n1, n2, n3, s)] W.heap.size (by simp) (fun j hj => by
    match j, hj with
    | 0, _ => exact hs) (W.alloc (.cells #[.int .i64 n1, .int .i64 n2, .int .i64 n3, .string s] 23)) (by simp) (hW.mono (below_alloc _ _)) (fun j hj => by
    match j, hj with
    | 0, _ => exact ⟨hc 0, hc 1, hc 2, hc 3⟩)
  refine h.mono fun e w' ⟨he, hb⟩ => ⟨?_, hb⟩
  rw [he]
  show Ending.returned (.int .i64 (P.orI [P.verr n1 n2 n3 s])) = _
  have : P.orI [P.verr n1 n2 n3 s] = P.verr n1 n2 n3 s := by unfold P.orI; split <;> simp_all [P.orI]
  rw [this]
theorem verr1_at (n1 n2 n3 : Int) (s : ByteArray) (hs : s.size ≤ 4294967280) (nb : Nat) (W : World) (hn : nb = W.heap.size) (hW : Good W) :
    Calls Tryz.prog 9 #[.slice (some ⟨nb, 0, none⟩) 1 1] (W.alloc (.cells #[.int .i64 n1, .int .i64 n2, .int .i64 n3, .string s] 23)) fun e w' =>
      e = .returned (.int .i64 (P.verr n1 n2 n3 s)) ∧ Below (W.alloc (.cells #[.int .i64 n1, .int .i64 n2, .int .i64 n3, .string s] 23)).heap.size (W.alloc (.cells #[.int .i64 n1, .int .i64 n2, .int .i64 n3, .string s] 23)) w' := by
  subst hn; exact verr1_any n1 n2 n3 s hs W hW
end Go.Proofs.YtffblkkhjphcfaaGreatDoor
