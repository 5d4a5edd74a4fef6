/- Plain functions: lists of things that rise by their keys: looking up, putting, taking out; changes of machines; a right machine stays right. No program stands here. -/
import Derived.Test.YtkibmoekadmjnaaGreatDoorZPure

namespace Go.Proofs.YtkibmoekadmjnaaGreatDoor
namespace P

theorem bl_eq : ∀ (x y : List UInt8), Op.bytesLess x y = decide (x < y)
  | _, [] => by simp [Op.bytesLess]
  | [], _ :: _ => by simp [Op.bytesLess]
  | a :: x, b :: y => by
    have ih := bl_eq x y
    rw [Op.bytesLess, ih]
    by_cases h : a < b
    · simp [h, List.cons_lt_cons_iff]
    · by_cases e : a = b
      · subst e; simp
      · simp [h, e, List.cons_lt_cons_iff]

/-- strictly before, byte by byte -/
def ltB (a b : ByteArray) : Prop := a.data.toList < b.data.toList
instance (a b : ByteArray) : Decidable (ltB a b) := inferInstanceAs (Decidable (a.data.toList < b.data.toList))
theorem ba_inj {a b : ByteArray} (h : a.data.toList = b.data.toList) : a = b := ByteArray.ext (Array.toList_inj.1 h)
theorem ltB_irrefl (a : ByteArray) : ¬ ltB a a := List.lt_irrefl _
theorem ltB_trans {a b c : ByteArray} (h1 : ltB a b) (h2 : ltB b c) : ltB a c := List.lt_trans h1 h2
theorem ltB_ne {a b : ByteArray} (h : ltB a b) : a ≠ b := fun e => by subst e; exact ltB_irrefl _ h
theorem ltB_total {a b : ByteArray} (h1 : ¬ ltB a b) (h2 : a ≠ b) : ltB b a := by
  unfold ltB at *
  have h := List.not_lt.1 h1
  rcases List.le_iff_lt_or_eq.1 h with h | h
  · exact h
  · exact absurd (ba_inj h.symm) h2
theorem leS_iff (a b : ByteArray) : leS a b = false ↔ ltB b a := by
  unfold leS ltB
  rw [bl_eq, Lib.toList_data, Lib.toList_data]
  constructor
  · intro h
    simp at h
    exact ltB_total (a := a) (b := b) (by unfold ltB; simpa using h.1) (fun e => h.2 (by rw [e]))
  · intro h
    have h1 : ¬ a.data.toList < b.data.toList := fun h2 => List.lt_irrefl _ (List.lt_trans h h2)
    have h2 : a.data.toList ≠ b.data.toList := fun e => by rw [e] at h; exact List.lt_irrefl _ h
    have h3 : ¬ a.data = b.data := fun e => h2 (by rw [e])
    simp [h1, h3]

section
variable {α : Type} (key : α → ByteArray)
/-- the keys rise -/
def Rising (L : List α) : Prop := L.Pairwise (fun x y => ltB (key x) (key y))
def findK (L : List α) (s : ByteArray) : Option α := L.find? (fun y => decide (key y = s))
def insK (x : α) : List α → List α
  | [] => [x]
  | y :: r => if key x = key y then x :: r else if ltB (key x) (key y) then x :: y :: r else y :: insK x r
def delK (s : ByteArray) (L : List α) : List α := L.filter (fun y => !decide (key y = s))

variable {key}
theorem findK_nil (s : ByteArray) : findK key [] s = none := rfl
theorem findK_some {L : List α} {s : ByteArray} {x : α} (h : findK key L s = some x) : x ∈ L ∧ key x = s := ⟨List.mem_of_find?_eq_some h, by simpa using List.find?_some h⟩
theorem findK_none {L : List α} {s : ByteArray} : findK key L s = none ↔ ∀ x ∈ L, key x ≠ s := by unfold findK; rw [List.find?_eq_none]; simp
theorem findK_isSome {L : List α} {s : ByteArray} : (findK key L s).isSome = true ↔ ∃ x ∈ L, key x = s := by unfold findK; rw [List.find?_isSome]; simp
theorem findK_mem {L : List α} (hr : Rising key L) {x : α} (hx : x ∈ L) : findK key L (key x) = some x := by
  induction L with
  | nil => cases hx
  | cons y r ih =>
    obtain ⟨h1, h2⟩ := List.pairwise_cons.1 hr
    unfold findK
    rcases List.mem_cons.1 hx with e | hx
    · subst e; simp
    · have : key y ≠ key x := ltB_ne (h1 x hx)
      rw [List.find?_cons_of_neg (by simpa using this)]
      exact ih h2 hx
theorem findK_ins (x : α) (L : List α) (s : ByteArray) : findK key (insK key x L) s = if s = key x then some x else findK key L s := by
  induction L with
  | nil => unfold insK findK; by_cases e : s = key x <;> simp [e]; exact fun h => e h.symm
  | cons y r ih =>
    unfold insK
    by_cases e1 : key x = key y
    · rw [if_pos e1]; unfold findK
      by_cases e : s = key x
      · simp [e]
      · have e' : ¬ key x = s := fun h => e h.symm
        rw [if_neg e, List.find?_cons_of_neg (by simpa using e'), List.find?_cons_of_neg (by rw [← e1]; simpa using e')]
    · rw [if_neg e1]
      split
      · unfold findK
        by_cases e : s = key x
        · simp [e]
        · have e' : ¬ key x = s := fun h => e h.symm
          rw [if_neg e, List.find?_cons_of_neg (by simpa using e')]
      · unfold findK at ih ⊢
        by_cases e2 : key y = s
        · have : ¬ s = key x := fun h => e1 (by rw [← h, e2])
          rw [if_neg this, List.find?_cons_of_pos (by simpa using e2), List.find?_cons_of_pos (by simpa using e2)]
        · rw [List.find?_cons_of_neg (by simpa using e2), List.find?_cons_of_neg (by simpa using e2)]
          exact ih
theorem mem_ins {x z : α} {L : List α} (h : z ∈ insK key x L) : z = x ∨ z ∈ L := by
  induction L with
  | nil => unfold insK at h; simp at h; exact .inl h
  | cons y r ih =>
    unfold insK at h
    split at h
    · rcases List.mem_cons.1 h with h | h
      · exact .inl h
      · exact .inr (List.mem_cons_of_mem _ h)
    · split at h
      · rcases List.mem_cons.1 h with h | h
        · exact .inl h
        · exact .inr h
      · rcases List.mem_cons.1 h with h | h
        · exact .inr (by rw [h]; exact List.mem_cons_self)
        · rcases ih h with h | h
          · exact .inl h
          · exact .inr (List.mem_cons_of_mem _ h)
theorem mem_ins_self (x : α) (L : List α) : x ∈ insK key x L := by
  induction L with
  | nil => simp [insK]
  | cons y r ih =>
    unfold insK
    split
    · exact List.mem_cons_self
    · split
      · exact List.mem_cons_self
      · exact List.mem_cons_of_mem _ ih
theorem rising_ins {x : α} {L : List α} (h : Rising key L) : Rising key (insK key x L) := by
  induction L with
  | nil => unfold insK; exact List.pairwise_singleton _ _
  | cons y r ih =>
    obtain ⟨h1, h2⟩ := List.pairwise_cons.1 h
    unfold insK
    split
    · rename_i e; exact List.pairwise_cons.2 ⟨fun z hz => by rw [e]; exact h1 z hz, h2⟩
    · split
      · rename_i e l
        refine List.pairwise_cons.2 ⟨fun z hz => ?_, h⟩
        rcases List.mem_cons.1 hz with hz | hz
        · rw [hz]; exact l
        · exact ltB_trans l (h1 z hz)
      · rename_i e l
        refine List.pairwise_cons.2 ⟨fun z hz => ?_, ih h2⟩
        rcases mem_ins hz with hz | hz
        · rw [hz]; exact ltB_total l e
        · exact h1 z hz
theorem length_ins {x : α} {L : List α} (h : Rising key L) : (insK key x L).length = if (findK key L (key x)).isSome then L.length else L.length + 1 := by
  induction L with
  | nil => rfl
  | cons y r ih =>
    obtain ⟨h1, h2⟩ := List.pairwise_cons.1 h
    unfold insK
    by_cases e : key x = key y
    · rw [if_pos e, show findK key (y :: r) (key x) = some y by unfold findK; rw [List.find?_cons_of_pos (by simpa using e.symm)]]; rfl
    · rw [if_neg e]
      have e' : ¬ key y = key x := fun h => e h.symm
      have hf : findK key (y :: r) (key x) = findK key r (key x) := by unfold findK; rw [List.find?_cons_of_neg (by simpa using e')]
      rw [hf]
      split
      · rename_i l
        have : findK key r (key x) = none := findK_none.2 fun z hz => (ltB_ne (ltB_trans l (h1 z hz))).symm
        rw [this]; rfl
      · rw [List.length_cons, ih h2]; split <;> rfl
theorem insK_snoc {x : α} {L : List α} (h : ∀ y ∈ L, ltB (key y) (key x)) : insK key x L = L ++ [x] := by
  induction L with
  | nil => rfl
  | cons y r ih =>
    have hy := h y List.mem_cons_self
    unfold insK
    rw [if_neg (ltB_ne hy).symm, if_neg (fun h' => ltB_irrefl _ (ltB_trans hy h')), ih (fun z hz => h z (List.mem_cons_of_mem _ hz))]
    rfl
theorem insK_take {L : List α} (hr : Rising key L) {k : Nat} (hk : k < L.length) : insK key L[k] (L.take k) = L.take (k + 1) := by
  rw [List.take_succ_eq_append_getElem hk]
  refine insK_snoc fun y hy => ?_
  obtain ⟨j, hj, rfl⟩ := List.mem_take_iff_getElem.1 hy
  exact List.pairwise_iff_getElem.1 hr j k (by omega) hk (by omega)
theorem rising_take {L : List α} (hr : Rising key L) (k : Nat) : Rising key (L.take k) := List.Pairwise.sublist (List.take_sublist _ _) hr
theorem mem_del {s : ByteArray} {z : α} {L : List α} : z ∈ delK key s L ↔ z ∈ L ∧ key z ≠ s := by unfold delK; simp
theorem rising_del {s : ByteArray} {L : List α} (h : Rising key L) : Rising key (delK key s L) := List.Pairwise.filter _ h
theorem findK_del (s y : ByteArray) (L : List α) : findK key (delK key s L) y = if y = s then none else findK key L y := by
  by_cases e : y = s
  · rw [if_pos e]; exact findK_none.2 fun x hx => by rw [e]; exact (mem_del.1 hx).2
  · rw [if_neg e]; unfold findK delK; rw [List.find?_filter]; congr 1; funext a
    by_cases e2 : key a = y
    · have : ¬ key a = s := fun h => e (by rw [← e2, h])
      simp [e2]; exact fun h => e h
    · simp [e2]
theorem length_del {s : ByteArray} {L : List α} (h : Rising key L) : (delK key s L).length + (if (findK key L s).isSome then 1 else 0) = L.length := by
  induction L with
  | nil => rfl
  | cons y r ih =>
    obtain ⟨h1, h2⟩ := List.pairwise_cons.1 h
    have ih := ih h2
    unfold delK findK at *
    by_cases e : key y = s
    · rw [List.find?_cons_of_pos (by simpa using e)]
      have hn : r.find? (fun y => decide (key y = s)) = none := List.find?_eq_none.2 fun z hz => by simpa using fun (h : key z = s) => ltB_ne (h1 z hz) (by rw [e, h])
      rw [hn] at ih
      simp [e] at ih ⊢
      exact ih
    · rw [List.find?_cons_of_neg (by simpa using e), List.filter_cons_of_pos (by simpa using e), List.length_cons, List.length_cons]
      omega
/-- two lists that rise and have the same things are one -/
theorem rising_ext {L M : List α} (hL : Rising key L) (hM : Rising key M) (h : ∀ x, x ∈ L ↔ x ∈ M) : L = M := by
  have nd : ∀ {N : List α}, Rising key N → N.Nodup := fun h => List.Pairwise.imp (fun {a b} (l : ltB (key a) (key b)) (e : a = b) => ltB_ne l (by rw [e])) h
  refine List.Perm.eq_of_pairwise (le := fun a b => ltB (key a) (key b)) (fun a b _ _ h1 h2 => absurd (ltB_trans h1 h2) (ltB_irrefl _)) hL hM ((List.perm_ext_iff_of_nodup (nd hL) (nd hM)).2 h)
end

/-! ### what it means that a list has no error -/
theorem rising_of_steps {α : Type} {key : α → ByteArray} {L : List α} (h : ∀ k (hk : k + 1 < L.length), ltB (key (L[k]'(by omega))) (key L[k + 1])) : Rising key L := by
  refine List.pairwise_iff_getElem.2 fun i j hi hj hij => ?_
  obtain ⟨d, rfl⟩ : ∃ d, j = i + 1 + d := ⟨j - (i + 1), by omega⟩
  clear hij
  induction d with
  | zero => exact h i hj
  | succ d ih => exact ltB_trans (ih (by omega)) (h (i + 1 + d) hj)
theorem orE_zero_iff {a b : Int} : orE a b = 0 ↔ a = 0 ∧ b = 0 := by
  unfold orE
  by_cases h : a = 0
  · simp [h]
  · simp [h]
theorem listErr_zero {α : Type} (alone : α → Int) (key : α → ByteArray) (more : Nat → Int) (L : List α) :
    listErr alone key more L = 0 ↔ (∀ x ∈ L, alone x = 0) ∧ Rising key L ∧ ∀ k, k < L.length → more k = 0 := by
  constructor
  · intro h
    have hs := fun k (hk : k < L.length) => by have := firstErr_ok h k hk; rwa [stepE_at _ _ _ _ hk, orE_zero_iff, orE_zero_iff] at this
    refine ⟨fun x hx => ?_, rising_of_steps fun k hk => ?_, fun k hk => (hs k hk).2.2⟩
    · obtain ⟨k, hk, rfl⟩ := List.getElem_of_mem hx; exact (hs k hk).1
    · have := (hs (k + 1) hk).2.1
      rw [orderE_succ _ _ hk] at this
      split at this
      · cases this
      · rename_i hh; exact (leS_iff _ _).1 (by simpa using hh)
  · rintro ⟨h1, h2, h3⟩
    refine firstErr_none fun k hk => ?_
    rw [stepE_at _ _ _ _ hk, orE_zero_iff, orE_zero_iff]
    refine ⟨h1 _ (List.getElem_mem hk), ?_, h3 k hk⟩
    cases k with
    | zero => rfl
    | succ k =>
      rw [orderE_succ _ _ hk, (leS_iff _ _).2 (List.pairwise_iff_getElem.1 h2 k (k + 1) (by omega) hk (by omega))]
      rfl

/-- does p lie below d? -/
def underS (p d : ByteArray) : Bool := (d.data.toList ++ [47]).isPrefixOf p.data.toList
theorem mem_dirsTo {p d : ByteArray} : ∀ {k : Nat}, d ∈ dirsTo p k ↔ ∃ j, j < k ∧ p.data.toList[j]? = some 47 ∧ d = p.extract 0 j
  | 0 => by simp [dirsTo]
  | k + 1 => by
    rw [dirsTo, List.mem_append, mem_dirsTo (k := k)]
    constructor
    · rintro (⟨j, h1, h2⟩ | h)
      · exact ⟨j, by omega, h2⟩
      · split at h
        · rename_i h47; simp at h; exact ⟨k, by omega, h47, h⟩
        · cases h
    · rintro ⟨j, h1, h2, h3⟩
      by_cases e : j = k
      · subst e; right; rw [if_pos h2]; simp [h3]
      · exact .inl ⟨j, by omega, h2, h3⟩
theorem extract_list (p : ByteArray) (j : Nat) : (p.extract 0 j).data.toList = p.data.toList.take j := by
  rw [ByteArray.data_extract]; simp
theorem under_iff (p d : ByteArray) : underS p d = true ↔ d ∈ dirs p := by
  unfold underS dirs
  rw [mem_dirsTo, List.isPrefixOf_iff_prefix]
  constructor
  · rintro ⟨t, ht⟩
    refine ⟨d.data.toList.length, ?_, ?_, ?_⟩
    · have := congrArg List.length ht; simp at this; have hl := P.size_len p; simp at hl ⊢; omega
    · rw [← ht]; simp
    · apply ba_inj; rw [extract_list, ← ht, List.append_assoc]; simp
  · rintro ⟨j, h1, h2, rfl⟩
    rw [extract_list]
    refine ⟨p.data.toList.drop (j + 1), ?_⟩
    obtain ⟨hj, h2⟩ := List.getElem?_eq_some_iff.1 h2
    rw [show ([47] : List UInt8) = [p.data.toList[j]] by rw [h2], ← List.take_succ_eq_append_getElem hj]
    exact List.take_append_drop _ _
theorem dirs_lt {p d : ByteArray} (h : d ∈ dirs p) : ltB d p := by
  unfold dirs at h
  obtain ⟨j, h1, h2, rfl⟩ := mem_dirsTo.1 h
  unfold ltB
  rw [extract_list]
  obtain ⟨hj, h2⟩ := List.getElem?_eq_some_iff.1 h2
  conv => rhs; rw [← List.take_append_drop j p.data.toList]
  rw [List.drop_eq_getElem_cons hj]
  generalize p.data.toList.take j = l
  induction l with
  | nil => exact List.nil_lt_cons _ _
  | cons a r ih => exact List.cons_lt_cons_iff.2 (.inr ⟨rfl, ih⟩)
/-- no file lies below another one -/
def NoUnder (L : List Fi) : Prop := ∀ x ∈ L, ∀ y ∈ L, y.p ∉ dirs x.p
theorem clash_zero {L : List Fi} (hr : Rising Fi.p L) : (∀ k, k < L.length → clash L k = 0) ↔ NoUnder L := by
  constructor
  · intro h x hx y hy hd
    obtain ⟨k, hk, rfl⟩ := List.getElem_of_mem hx
    obtain ⟨j, hj, rfl⟩ := List.getElem_of_mem hy
    have hlt := dirs_lt hd
    have hjk : j < k := by
      rcases Nat.lt_trichotomy j k with h | h | h
      · exact h
      · subst h; exact absurd hlt (ltB_irrefl _)
      · exact absurd (ltB_trans hlt (List.pairwise_iff_getElem.1 hr k j hk hj h)) (ltB_irrefl _)
    have := h k hk
    rw [clash_at _ hk] at this
    split at this
    · cases this
    · rename_i hn
      apply hn
      refine List.any_eq_true.2 ⟨L[j].p, hd, ?_⟩
      unfold seen
      refine List.any_eq_true.2 ⟨L[j], ?_, by simp⟩
      exact List.mem_take_iff_getElem.2 ⟨j, by omega, rfl⟩
  · intro h k hk
    rw [clash_at _ hk, if_neg]
    intro hn
    obtain ⟨d, hd, hs⟩ := List.any_eq_true.1 hn
    unfold seen at hs
    obtain ⟨y, hy, e⟩ := List.any_eq_true.1 hs
    have e : y.p = d := by simpa using e
    subst e
    exact h _ (List.getElem_mem hk) _ (List.mem_of_mem_take hy) hd

structure Chg where
  kind : Int
  file : Fi
  set : St
  svc : Sv
def fi0 : Fi := ⟨⟨#[]⟩, ⟨#[]⟩, false⟩
def st0 : St := ⟨⟨#[]⟩, ⟨#[]⟩⟩
def sv0 : Sv := ⟨⟨#[]⟩, ⟨#[]⟩, false, false⟩

/-- a machine is right -/
structure Right (m : Mach) : Prop where
  l1 : m.facts.length ≤ 100
  l2 : m.files.length ≤ 2000
  l3 : m.sets.length ≤ 2000
  l4 : m.svcs.length ≤ 100
  a1 : ∀ x ∈ m.facts, factErr x = 0
  a2 : ∀ x ∈ m.files, fileErr x = 0
  a3 : ∀ x ∈ m.sets, setErr x = 0
  a4 : ∀ x ∈ m.svcs, svcErr x = 0
  r1 : Rising St.k m.facts
  r2 : Rising Fi.p m.files
  r3 : Rising St.k m.sets
  r4 : Rising Sv.n m.svcs
  nu : NoUnder m.files
theorem right_iff (m : Mach) : machErr m = 0 ↔ Right m := by
  unfold machErr
  constructor
  · intro h
    split at h
    · cases h
    · rename_i hl
      rw [orE_zero_iff, orE_zero_iff, orE_zero_iff, listErr_zero, listErr_zero, listErr_zero, listErr_zero] at h
      obtain ⟨⟨f1, f2, _⟩, ⟨i1, i2, i3⟩, ⟨s1, s2, _⟩, v1, v2, _⟩ := h
      exact ⟨by omega, by omega, by omega, by omega, f1, i1, s1, v1, f2, i2, s2, v2, (clash_zero i2).1 i3⟩
  · intro h
    rw [if_neg (by have := h.l1; have := h.l2; have := h.l3; have := h.l4; omega)]
    rw [orE_zero_iff, orE_zero_iff, orE_zero_iff, listErr_zero, listErr_zero, listErr_zero, listErr_zero]
    exact ⟨⟨h.a1, h.r1, fun _ _ => rfl⟩, ⟨h.a2, h.r2, (clash_zero h.r2).2 h.nu⟩, ⟨h.a3, h.r3, fun _ _ => rfl⟩, h.a4, h.r4, fun _ _ => rfl⟩

def fits {α : Type} (L : List α) (full : Bool) (most : Nat) : Int := if full = false ∧ most ≤ L.length then 4 else 0
def gone (b : Bool) : Int := if b then 0 else 10
/-- the error of a change that is right of itself -/
def placeErr (m : Mach) (c : Chg) : Int :=
  if c.kind = 1 then (if m.files.any (fun y => underS y.p c.file.p || underS c.file.p y.p) then 11 else fits m.files (findK Fi.p m.files c.file.p).isSome 2000)
  else if c.kind = 2 then gone (findK Fi.p m.files c.file.p).isSome
  else if c.kind = 3 then fits m.sets (findK St.k m.sets c.set.k).isSome 2000
  else if c.kind = 4 then gone (findK St.k m.sets c.set.k).isSome
  else if c.kind = 5 then fits m.svcs (findK Sv.n m.svcs c.svc.n).isSome 100
  else gone (findK Sv.n m.svcs c.svc.n).isSome
def made (m : Mach) (c : Chg) : Mach :=
  if c.kind = 1 then { m with files := insK Fi.p c.file m.files }
  else if c.kind = 2 then { m with files := delK Fi.p c.file.p m.files }
  else if c.kind = 3 then { m with sets := insK St.k c.set m.sets }
  else if c.kind = 4 then { m with sets := delK St.k c.set.k m.sets }
  else if c.kind = 5 then { m with svcs := insK Sv.n c.svc m.svcs }
  else { m with svcs := delK Sv.n c.svc.n m.svcs }
/-- what is wrong with the thing that a change brings -/
def thingErr (c : Chg) : Int := if c.kind = 1 then fileErr c.file else if c.kind = 3 then setErr c.set else if c.kind = 5 then svcErr c.svc else 0

theorem fits_le {α : Type} {L : List α} {key : α → ByteArray} (hr : Rising key L) {x : α} {most : Nat} (h : fits L (findK key L (key x)).isSome most = 0) (hl : L.length ≤ most) : (insK key x L).length ≤ most := by
  rw [length_ins hr]
  unfold fits at h
  cases e : (findK key L (key x)).isSome with
  | true => simpa using hl
  | false =>
    rw [e] at h
    simp at h ⊢
    omega
theorem del_le {α : Type} {L : List α} {key : α → ByteArray} (s : ByteArray) : (delK key s L).length ≤ L.length := List.length_filter_le _ _

theorem Right.made {m : Mach} (h : Right m) {c : Chg} (ht : thingErr c = 0) (hp : placeErr m c = 0) : Right (made m c) := by
  unfold P.made
  unfold placeErr at hp
  unfold thingErr at ht
  by_cases k1 : c.kind = 1
  · rw [if_pos k1] at hp ht ⊢
    split at hp
    · cases hp
    · rename_i hu
      have hu : ∀ y ∈ m.files, y.p ∉ dirs c.file.p ∧ c.file.p ∉ dirs y.p := fun y hy => by
        have h1 : (underS y.p c.file.p || underS c.file.p y.p) = false := by
          cases e : (underS y.p c.file.p || underS c.file.p y.p) with
          | false => rfl
          | true => exact absurd (List.any_eq_true.2 ⟨y, hy, e⟩) hu
        rw [Bool.or_eq_false_iff] at h1
        exact ⟨fun hd => by rw [(under_iff _ _).2 hd] at h1; exact absurd h1.2 (by simp), fun hd => by rw [(under_iff _ _).2 hd] at h1; exact absurd h1.1 (by simp)⟩
      refine { h with l2 := fits_le h.r2 hp h.l2, a2 := fun x hx => ?_, r2 := rising_ins h.r2, nu := fun x hx y hy => ?_ }
      · rcases mem_ins hx with e | hx
        · rw [e]; exact ht
        · exact h.a2 x hx
      · rcases mem_ins hx with e | hx <;> rcases mem_ins hy with e' | hy
        · rw [e, e']; exact fun hd => ltB_irrefl _ (dirs_lt hd)
        · rw [e]; exact (hu y hy).1
        · rw [e']; exact (hu x hx).2
        · exact h.nu x hx y hy
  rw [if_neg k1] at hp ht ⊢
  by_cases k2 : c.kind = 2
  · rw [if_pos k2] at hp ⊢
    exact { h with l2 := Nat.le_trans (del_le _) h.l2, a2 := fun x hx => h.a2 x (mem_del.1 hx).1, r2 := rising_del h.r2, nu := fun x hx y hy => h.nu x (mem_del.1 hx).1 y (mem_del.1 hy).1 }
  rw [if_neg k2] at hp ⊢
  by_cases k3 : c.kind = 3
  · rw [if_pos k3] at hp ht ⊢
    refine { h with l3 := fits_le h.r3 hp h.l3, a3 := fun x hx => ?_, r3 := rising_ins h.r3 }
    rcases mem_ins hx with e | hx
    · rw [e]; exact ht
    · exact h.a3 x hx
  rw [if_neg k3] at hp ht ⊢
  by_cases k4 : c.kind = 4
  · rw [if_pos k4] at hp ⊢
    exact { h with l3 := Nat.le_trans (del_le _) h.l3, a3 := fun x hx => h.a3 x (mem_del.1 hx).1, r3 := rising_del h.r3 }
  rw [if_neg k4] at hp ⊢
  by_cases k5 : c.kind = 5
  · rw [if_pos k5] at hp ht ⊢
    refine { h with l4 := fits_le h.r4 hp h.l4, a4 := fun x hx => ?_, r4 := rising_ins h.r4 }
    rcases mem_ins hx with e | hx
    · rw [e]; exact ht
    · exact h.a4 x hx
  rw [if_neg k5] at hp ⊢
  exact { h with l4 := Nat.le_trans (del_le _) h.l4, a4 := fun x hx => h.a4 x (mem_del.1 hx).1, r4 := rising_del h.r4 }
end P
end Go.Proofs.YtkibmoekadmjnaaGreatDoor
