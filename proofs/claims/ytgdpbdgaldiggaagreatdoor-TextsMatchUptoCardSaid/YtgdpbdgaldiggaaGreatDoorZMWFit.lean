/- Plain functions: a right machine is small; what putting a thing into a right machine gives; a machine of facts alone. No program stands here. -/
import Derived.Test.YtgdpbdgaldiggaaGreatDoorZMWPure
import Derived.Test.YtgdpbdgaldiggaaGreatDoorZMCheck

namespace Go.Proofs.YtgdpbdgaldiggaaGreatDoor
namespace P
theorem name_size {s : ByteArray} (h : nameS s = true) : s.size ≤ 40 := by
  rw [← size_len]
  unfold nameS name at h
  generalize s.data.toList = l at h
  cases l with
  | nil => cases h
  | cons c l => simp only [Bool.and_eq_true, decide_eq_true_eq] at h; exact h.1.1
theorem path_size {s : ByteArray} (h : pathS s = true) : s.size ≤ 200 := by
  rw [← size_len]
  unfold pathS path at h
  simp only [Bool.and_eq_true, decide_eq_true_eq] at h; exact h.1
theorem value_size {s : ByteArray} (h : valueS s = true) : s.size ≤ 1000 := by
  rw [← size_len]
  unfold valueS value at h
  simp only [Bool.and_eq_true, decide_eq_true_eq] at h; exact h.1
theorem factErr_zero {x : St} : factErr x = 0 ↔ nameS x.k = true ∧ valueS x.v = true := by
  unfold factErr
  cases nameS x.k <;> cases valueS x.v <;> simp
theorem setErr_zero {x : St} : setErr x = 0 ↔ pathS x.k = true ∧ valueS x.v = true := by
  unfold setErr
  cases pathS x.k <;> cases valueS x.v <;> simp
theorem fileErr_zero {x : Fi} : fileErr x = 0 ↔ pathS x.p = true ∧ x.d.size ≤ 65536 := by
  unfold fileErr
  by_cases h : x.d.size ≤ 65536 <;> cases pathS x.p <;> simp [h]
theorem svcErr_zero {x : Sv} : svcErr x = 0 ↔ nameS x.n = true ∧ pathS x.p = true := by
  unfold svcErr
  cases nameS x.n <;> cases pathS x.p <;> simp
theorem Right.fit {m : Mach} (h : Right m) : m.fit where
  l1 := Nat.le_trans h.l1 (by decide)
  l2 := Nat.le_trans h.l2 (by decide)
  l3 := Nat.le_trans h.l3 (by decide)
  l4 := Nat.le_trans h.l4 (by decide)
  f := fun k hk => by
    obtain ⟨h1, h2⟩ := factErr_zero.1 (h.a1 _ (List.getElem_mem hk))
    have := name_size h1; have := value_size h2; omega
  i := fun k hk => by
    obtain ⟨h1, h2⟩ := fileErr_zero.1 (h.a2 _ (List.getElem_mem hk))
    have := path_size h1; omega
  s := fun k hk => by
    obtain ⟨h1, h2⟩ := setErr_zero.1 (h.a3 _ (List.getElem_mem hk))
    have := path_size h1; have := value_size h2; omega
  v := fun k hk => by
    obtain ⟨h1, h2⟩ := svcErr_zero.1 (h.a4 _ (List.getElem_mem hk))
    have := name_size h1; have := path_size h2; omega
/-- the error of a change, and the machine behind it -/
def chgErr (m : Mach) (c : Chg) : Int := orE (thingErr c) (placeErr m c)
def putC (x : Fi) : Chg := ⟨1, x, st0, sv0⟩
def setC (x : St) : Chg := ⟨3, fi0, x, sv0⟩
def svcC (x : Sv) : Chg := ⟨5, fi0, st0, x⟩
theorem Right.done {m : Mach} (h : Right m) {c : Chg} (he : chgErr m c = 0) : Right (P.made m c) := by
  obtain ⟨h1, h2⟩ := orE_zero_iff.1 he
  exact h.made h1 h2
/-- a machine of facts alone -/
theorem right_facts {L : List St} (hl : L.length ≤ 100) (ha : ∀ x ∈ L, factErr x = 0) (hr : Rising St.k L) : Right ⟨L, [], [], []⟩ where
  l1 := hl
  l2 := by simp
  l3 := by simp
  l4 := by simp
  a1 := ha
  a2 := by simp
  a3 := by simp
  a4 := by simp
  r1 := hr
  r2 := List.Pairwise.nil
  r3 := List.Pairwise.nil
  r4 := List.Pairwise.nil
  nu := by intro x hx; cases hx
/-- what CompactFunc has kept of M when it has looked at its first i things -/
structure Comp (M A : List St) (i : Nat) : Prop where
  rise : Rising St.k A
  mem : ∀ x ∈ A, x ∈ M
  top : ∀ y ∈ A, ∀ h : i - 1 < M.length, ¬ ltB M[i - 1].k y.k
theorem comp_start {M : List St} (h : 0 < M.length) : Comp M (M.take 1) 1 := by
  obtain ⟨x, r, rfl⟩ := List.exists_cons_of_ne_nil (List.ne_nil_of_length_pos h)
  exact ⟨List.pairwise_singleton _ _, by simp, by intro y hy _; simp at hy; subst hy; exact ltB_irrefl _⟩
theorem comp_skip {M A : List St} {i : Nat} (h : Comp M A i) (h0 : 0 < i) (hi : i < M.length) (e : M[i].k = (M[i - 1]'(by omega)).k) : Comp M A (i + 1) :=
  ⟨h.rise, h.mem, fun y hy _ => by
    have := h.top y hy (by omega)
    show ¬ ltB M[i].k y.k
    rw [e]; exact this⟩
theorem comp_take {M A : List St} {i : Nat} (h : Comp M A i) (h0 : 0 < i) (hs : M.Pairwise (fun x y => ¬ ltB y.k x.k)) (hi : i < M.length) (e : M[i].k ≠ (M[i - 1]'(by omega)).k) : Comp M (A ++ [M[i]]) (i + 1) := by
  have hlt : ltB (M[i - 1]'(by omega)).k M[i].k := ltB_total (List.pairwise_iff_getElem.1 hs (i - 1) i (by omega) hi (by omega)) e
  have hall : ∀ y ∈ A, ltB y.k M[i].k := fun y hy => by
    have h1 := h.top y hy (by omega)
    by_cases e2 : (M[i - 1]'(by omega)).k = y.k
    · rw [← e2]; exact hlt
    · exact ltB_trans (ltB_total h1 e2) hlt
  refine ⟨List.pairwise_append.2 ⟨h.rise, List.pairwise_singleton _ _, fun a ha b hb => by simp at hb; subst hb; exact hall a ha⟩, fun x hx => ?_, fun y hy _ => ?_⟩
  · rcases List.mem_append.1 hx with hx | hx
    · exact h.mem x hx
    · simp at hx; subst hx; exact List.getElem_mem hi
  · show ¬ ltB M[i].k y.k
    rcases List.mem_append.1 hy with hy | hy
    · exact fun hl => ltB_irrefl _ (ltB_trans hl (hall y hy))
    · simp at hy; subst hy; exact ltB_irrefl _
theorem comp_take1 {M : List St} {i : Nat} (h : Comp M (M.take i) i) (h0 : 0 < i) (hs : M.Pairwise (fun x y => ¬ ltB y.k x.k)) (hi : i < M.length) (e : M[i].k ≠ (M[i - 1]'(by omega)).k) : Comp M (M.take (i + 1)) (i + 1) := by
  rw [List.take_succ_eq_append_getElem hi]; exact comp_take h h0 hs hi e
end P
end Go.Proofs.YtgdpbdgaldiggaaGreatDoor
