/- Rows of structs of the call's own: behind a sort; the order of facts. No program stands here. -/
import Derived.Test.YtgdpbdgaldiggaaGreatDoorZMChosen
import Derived.Test.YtgdpbdgaldiggaaGreatDoorZMWPure
import Derived.Shelf.SlSortCmp.InsertionK
import Derived.Sort.LotA

namespace Go.Proofs.YtgdpbdgaldiggaaGreatDoor
open Go.RowKit Go.Shelf Go.Sort

namespace P
instance : Inhabited St := ⟨⟨⟨#[]⟩, ⟨#[]⟩⟩⟩
/-- strings.Compare at the keys -/
def cmpK (x y : St) : Int := Lib.compareBytes x.k.data.toList y.k.data.toList
theorem cmpB_neg : ∀ a b : List UInt8, Lib.compareBytes a b < 0 ↔ a < b
  | [], [] => by simp [Lib.compareBytes]
  | [], _ :: _ => by simp [Lib.compareBytes]
  | _ :: _, [] => by simp [Lib.compareBytes]
  | a :: s, b :: t => by
    rw [Lib.compareBytes, List.cons_lt_cons_iff]
    by_cases h : a < b
    · simp [h]
    · by_cases h2 : b < a
      · have hne : ¬ a = b := fun e => by subst e; exact h h2
        simp [h, h2, hne]
      · have e : a = b := UInt8.toNat_inj.1 (by have h1 : ¬ a.toNat < b.toNat := h; have h3 : ¬ b.toNat < a.toNat := h2; omega)
        subst e
        rw [if_neg h, if_neg h, cmpB_neg s t]
        simp
theorem lt_iff (x y : St) : ltOf cmpK x y = true ↔ ltB x.k y.k := by unfold ltOf cmpK ltB; rw [decide_eq_true_eq, cmpB_neg]
theorem lt_false (x y : St) : ltOf cmpK x y = false ↔ ¬ ltB x.k y.k := by rw [← lt_iff]; cases ltOf cmpK x y <;> simp
theorem swoK : SWO (ltOf cmpK) where
  irrefl x := (lt_false _ _).2 (ltB_irrefl _)
  trans x y z h1 h2 := (lt_iff _ _).2 (ltB_trans ((lt_iff _ _).1 h1) ((lt_iff _ _).1 h2))
  ntrans x y z h1 h2 := (lt_false _ _).2 fun h => by
    have h1 := (lt_false _ _).1 h1
    have h2 := (lt_false _ _).1 h2
    by_cases e : x.k = y.k
    · rw [e] at h; exact h2 h
    · exact h2 (ltB_trans (ltB_total h1 e) h)
end P

theorem flatK_list {α : Type} [Inhabited α] (enc : α → List Value) (k : Nat) (hk : ∀ x, (enc x).length = k) (k0 : 0 < k) (d : Array α) : (flatK enc k d).toList = flat enc d.toList := by
  have hlen : ∀ L : List α, (flat enc L).length = L.length * k := fun L => by
    induction L with
    | nil => simp [flat]
    | cons x L ih => show (enc x ++ flat enc L).length = _; rw [List.length_append, hk, ih, List.length_cons, Nat.succ_mul]; omega
  have hget : ∀ (L : List α) (i : Nat) (hi : i < L.length) (j : Nat), j < k → (flat enc L)[i * k + j]? = (enc L[i])[j]? := fun L => by
    induction L with
    | nil => intro i hi; simp at hi
    | cons x L ih =>
      intro i hi j hj
      show (enc x ++ flat enc L)[i * k + j]? = _
      cases i with
      | zero => rw [Nat.zero_mul, Nat.zero_add, List.getElem?_append_left (by rw [hk]; exact hj)]; rfl
      | succ i =>
        rw [List.getElem?_append_right (by rw [hk, Nat.succ_mul]; omega), hk, show (i + 1) * k + j - k = i * k + j by rw [Nat.succ_mul]; omega]
        exact ih i (by simpa using hi) j hj
  apply List.ext_getElem?
  intro t
  by_cases ht : t < d.size * k
  · have e : t = t / k * k + t % k := by rw [Nat.mul_comm]; exact (Nat.div_add_mod t k).symm
    have hq : t / k < d.size := Nat.div_lt_of_lt_mul (by rw [Nat.mul_comm]; exact ht)
    have hm : t % k < k := Nat.mod_lt _ k0
    have h1 : (flat enc d.toList)[t]? = (enc d.toList[t / k])[t % k]? := by
      conv => lhs; rw [e]
      exact hget d.toList (t / k) (by simpa using hq) (t % k) hm
    rw [h1, Array.getElem?_toList]
    have h2 := get_flatK enc k d t ht
    rw [getElem!_pos _ t (by simpa using ht)] at h2
    rw [Array.getElem?_eq_getElem (by simpa using ht), h2, List.getElem?_eq_getElem (by rw [hk]; exact hm), getElem!_pos d _ hq, getElem!_pos _ _ (by rw [hk]; exact hm)]
    simp
  · rw [List.getElem?_eq_none (by simpa using ht), List.getElem?_eq_none (by rw [hlen]; simpa using ht)]

section
variable {α : Type} [Inhabited α] {enc : α → List Value} {k : Nat} {W : World} {base g cap : Nat} {e : TypeId} {cur : Array Value}
theorem holdsK_of_own (hk : ∀ x, (enc x).length = k) (k0 : 0 < k) (d : Array α) (hb : W.heap[g]? = some (.cells cur e (0, 0))) (ht : cur.toList.take (d.size * k) = flat enc d.toList) : HoldsK enc k W g 0 d := by
  intro j hj
  have hj' : j < d.size * k := by simpa using hj
  refine ⟨?_, by simp [World.frozen?, hb]⟩
  have h1 : (cur.toList.take (d.size * k))[j]? = (flatK enc k d).toList[j]? := by rw [ht, flatK_list enc k hk k0]
  rw [List.getElem?_take_of_lt hj'] at h1
  simp only [World.cell?, hb, Nat.zero_add]
  simp only [Option.isSome_none, Bool.false_eq_true, if_false]
  rw [← Array.getElem?_toList, h1]
  simp [hj']
theorem heap_sortedK {nn : Nat} {os : Array Obj} {fr : Nat × Nat} (d : Array α) (hb : W.heap[g]? = some (.cells cur e fr)) :
    (sortWorldK enc k W g 0 nn d os).heap[g]? = some (.cells (putCells id 0 (flatK enc k d) cur) e fr) := by
  have hg : g < W.heap.size := (Array.getElem?_eq_some_iff.1 hb).1
  unfold sortWorldK putRowK
  rw [heap_grow_old _ _ (by simpa using hg)]
  simp [putRow, mapBlock, Sort.ahead, Array.getElem?_modify, hb, onCells]
theorem grownBy_sortedK {nn : Nat} {os : Array Obj} (d : Array α) : W.grownBy (sortWorldK enc k W g 0 nn d os) (some g) := by
  unfold sortWorldK putRowK
  refine ⟨rfl, rfl, rfl, by simp, fun k' hk hne => ?_⟩
  rw [heap_grow_old _ _ (by simpa using hk)]
  have : g ≠ k' := fun e => hne (by rw [e])
  simp [putRow, mapBlock, Sort.ahead, Array.getElem?_modify, this]
theorem take_putCellsK (cur F : Array Value) (h : F.size ≤ cur.size) : (putCells id 0 F cur).toList.take F.size = F.toList := by
  apply List.ext_getElem?
  intro j
  by_cases hj : j < F.size
  · rw [List.getElem?_take_of_lt hj, Array.getElem?_toList]
    simp [putCells, hj, show j < cur.size by omega]
  · rw [List.getElem?_take_eq_none (by omega), List.getElem?_eq_none (by simp; omega)]
/-- behind a sort the same slice owns what was sorted -/
theorem own_sortedK {nn : Nat} {os : Array Obj} (hk : ∀ x, (enc x).length = k) (k0 : 0 < k) (d : Array α) (hbase : base ≤ g) (hb : W.heap[g]? = some (.cells cur e (0, 0))) (h1 : d.size ≤ cap) (h2 : cap ≤ maxLen) (h3 : cur.size = cap * k) :
    (sortWorldK enc k W g 0 nn d os).ownsRow base e k (.slice (some ⟨g, 0, none⟩) d.size cap) d.size (flat enc d.toList) := by
  have hle : d.size * k ≤ cur.size := by rw [h3]; exact Nat.mul_le_mul_right _ h1
  have hfl := flatK_list enc k hk k0 d
  refine ⟨?_, .inr ⟨g, cap, _, rfl, hbase, heap_sortedK d hb, h1, h2, by simp [putCells, h3], ?_⟩⟩
  · rw [← hfl]; simp
  · have := take_putCellsK cur (flatK enc k d) (by simpa using hle)
    rw [size_flatK] at this
    rw [this, hfl]
end
end Go.Proofs.YtgdpbdgaldiggaaGreatDoor
