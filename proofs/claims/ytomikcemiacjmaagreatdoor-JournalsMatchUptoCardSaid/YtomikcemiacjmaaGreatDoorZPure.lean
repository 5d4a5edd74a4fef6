/- Plain functions on lists of bytes: names, paths, values, words, versions, their order. No program stands here. -/
/- Plain functions: machines, the errors of their things, of lists of things, of a whole machine. No program stands here. -/
/- Plain functions: lists of things that rise by their keys: looking up, putting, taking out; changes of machines; a right machine stays right. No program stands here. -/
import Derived.Lib.SplitLaws
import Derived.Lib.Split
import Derived.Lib.AtoiAll
import Derived.Lib.ItoaNum
import Derived.WalkLawsBesides

namespace Go.Proofs.YtomikcemiacjmaaGreatDoor
namespace P
abbrev B := List UInt8

def sml (c : UInt8) : Bool := decide ((97 : Int) ≤ c.toNat) && decide ((c.toNat : Int) ≤ 122)
def grt (c : UInt8) : Bool := decide ((65 : Int) ≤ c.toNat) && decide ((c.toNat : Int) ≤ 90)
def dig (c : UInt8) : Bool := decide ((48 : Int) ≤ c.toNat) && decide ((c.toNat : Int) ≤ 57)
def nameC (c : UInt8) : Bool := sml c || dig c || (c.toNat : Int) == 45 || (c.toNat : Int) == 46
def partC (c : UInt8) : Bool := sml c || grt c || dig c || (c.toNat : Int) == 45 || (c.toNat : Int) == 46 || (c.toNat : Int) == 95
def valC (c : UInt8) : Bool := decide ((32 : Int) ≤ c.toNat) && decide ((c.toNat : Int) ≤ 126)
def wordC (c : UInt8) : Bool := sml c || dig c

def allS (p : UInt8 → Bool) (s : ByteArray) : Bool := s.data.toList.all p

def name : B → Bool
  | [] => false
  | c :: l => decide ((c :: l).length ≤ 40) && sml c && (c :: l).all nameC
def part (l : B) : Bool := l != [] && decide (l.length ≤ 40) && l != [46] && l != [46, 46] && l.all partC
def path (l : B) : Bool := decide (l.length ≤ 200) && (Lib.split l [47]).all part
def value (l : B) : Bool := decide (l.length ≤ 1000) && l.all valC
/-- digits without a superfluous zero ahead -/
def number : B → Bool
  | [] => false
  | c :: l => (c :: l).all dig && (l.isEmpty || (c.toNat : Int) != 48)
def word (l : B) : Bool := l != [] && decide (l.length ≤ 10) && (if l.all dig then number l else l.all wordC)
/-! the same over byte arrays, as the walk writes its tests -/
def nameS (s : ByteArray) : Bool := name s.data.toList
def partS (s : ByteArray) : Bool := part s.data.toList
def pathS (s : ByteArray) : Bool := path s.data.toList
def valueS (s : ByteArray) : Bool := value s.data.toList
theorem size_len (s : ByteArray) : s.data.toList.length = s.size := (Lib.size_eq s).symm
theorem empty_iff (s : ByteArray) : s.toList.isEmpty = true ↔ s.data.toList = [] := by rw [Lib.toList_data]; simp
theorem nonempty_iff (s : ByteArray) : s.toList.isEmpty = false ↔ s.data.toList ≠ [] := by rw [Lib.toList_data]; cases s.data.toList <;> simp
theorem head_get (s : ByteArray) (h : 0 < s.size) : s.data.toList = s[0] :: s.data.toList.tail := by
  have : s.data.toList ≠ [] := fun e => by rw [← size_len, e] at h; simp at h
  obtain ⟨c, l, e⟩ := List.exists_cons_of_ne_nil this
  have h0 : s[0] = s.data.toList[0]'(by rw [size_len]; exact h) := by rw [ByteArray.getElem_eq_getElem_data]; simp
  rw [h0]
  simp only [e, List.getElem_cons_zero, List.tail_cons]

/-- the pieces of s between bytes c -/
def splitS (s : ByteArray) (c : UInt8) : List ByteArray := Lib.splitB ⟨#[c]⟩ 0 (Lib.countB s ⟨#[c]⟩) s
theorem one_le (c : UInt8) : 1 ≤ (⟨#[c]⟩ : ByteArray).size := by simp [ByteArray.size]
theorem splitS_length (s : ByteArray) (c : UInt8) : (splitS s c).length = Lib.countB s ⟨#[c]⟩ + 1 := Lib.splitB_all ⟨#[c]⟩ (one_le c) 0 _ s rfl
theorem splitS_data (s : ByteArray) (c : UInt8) : (splitS s c).map (·.data.toList) = Lib.split s.data.toList [c] := by
  unfold splitS Lib.split
  rw [Lib.splitB_data]
theorem splitB_size (sep : ByteArray) : ∀ (k : Nat) (s x : ByteArray), x ∈ Lib.splitB sep 0 k s → x.size ≤ s.size
  | 0, s, x, h => by simp [Lib.splitB] at h; subst h; exact Nat.le_refl _
  | k + 1, s, x, h => by
    unfold Lib.splitB at h
    split at h
    · simp at h; subst h; exact Nat.le_refl _
    · rcases List.mem_cons.1 h with h | h
      · subst h; rw [ByteArray.size_extract]; omega
      · have := splitB_size sep k _ x h
        rw [ByteArray.size_extract] at this
        omega
theorem splitS_size (s : ByteArray) (c : UInt8) (k : Nat) (h : k < (splitS s c).length) : (splitS s c)[k].size ≤ s.size := splitB_size _ _ _ _ (List.getElem_mem h)
theorem splitS_all (s : ByteArray) (c : UInt8) (p : B → Bool) : (splitS s c).all (fun x => p x.data.toList) = (Lib.split s.data.toList [c]).all p := by
  rw [← splitS_data, List.all_map]; rfl

end P
end Go.Proofs.YtomikcemiacjmaaGreatDoor

namespace Go.Proofs.YtomikcemiacjmaaGreatDoor
namespace P
structure St where
  k : ByteArray
  v : ByteArray
structure Fi where
  p : ByteArray
  d : ByteArray
  r : Bool
structure Sv where
  n : ByteArray
  p : ByteArray
  a : Bool
  o : Bool
structure Mach where
  facts : List St
  files : List Fi
  sets : List St
  svcs : List Sv

def leS (a b : ByteArray) : Bool := Op.bytesLess a.toList b.toList || a.toList == b.toList
def orE (a b : Int) : Int := if a = 0 then b else a
def factErr (x : St) : Int := if nameS x.k then (if valueS x.v then 0 else 2) else 5
def setErr (x : St) : Int := if pathS x.k then (if valueS x.v then 0 else 2) else 5
def fileErr (x : Fi) : Int := if pathS x.p then (if x.d.size ≤ 65536 then 0 else 4) else 5
def svcErr (x : Sv) : Int := if nameS x.n then (if pathS x.p then 0 else 5) else 5
theorem orE_zero (b : Int) : orE 0 b = b := rfl
theorem orE_ne {a : Int} (h : a ≠ 0) (b : Int) : orE a b = a := if_neg h
/-- the first of the errors of steps -/
def firstErr (f : Nat → Int) : Nat → Int
  | 0 => 0
  | n + 1 => orE (firstErr f n) (f n)
theorem firstErr_none {f : Nat → Int} {n : Nat} (h : ∀ j, j < n → f j = 0) : firstErr f n = 0 := by
  induction n with
  | zero => rfl
  | succ n ih => rw [firstErr, ih (fun j hj => h j (by omega)), h n (by omega)]; rfl
theorem firstErr_at {f : Nat → Int} {n k : Nat} (hk : k < n) (h : ∀ j, j < k → f j = 0) (he : f k ≠ 0) : firstErr f n = f k := by
  induction n with
  | zero => omega
  | succ n ih =>
    rw [firstErr]
    by_cases e : k = n
    · subst e; rw [firstErr_none h]; rfl
    · rw [ih (by omega), orE_ne he]
/-- out of order behind the one before -/
def orderE {α : Type} (key : α → ByteArray) (L : List α) : Nat → Int
  | 0 => 0
  | k + 1 => match L[k]?, L[k + 1]? with
    | some y, some x => if leS (key x) (key y) then 7 else 0
    | _, _ => 0
/-- the error of a list's thing number k -/
def stepE {α : Type} (alone : α → Int) (key : α → ByteArray) (more : Nat → Int) (L : List α) (k : Nat) : Int :=
  match L[k]? with
  | none => 0
  | some x => orE (alone x) (orE (orderE key L k) (more k))
theorem stepE_at {α : Type} (alone : α → Int) (key : α → ByteArray) (more : Nat → Int) (L : List α) {k : Nat} (hk : k < L.length) :
    stepE alone key more L k = orE (alone L[k]) (orE (orderE key L k) (more k)) := by unfold stepE; rw [List.getElem?_eq_getElem hk]
theorem orderE_succ {α : Type} (key : α → ByteArray) (L : List α) {k : Nat} (hk : k + 1 < L.length) : orderE key L (k + 1) = if leS (key L[k + 1]) (key (L[k]'(by omega))) then 7 else 0 := by
  
  show (match L[k]?, L[k + 1]? with | some y, some x => if leS (key x) (key y) then (7 : Int) else 0 | _, _ => 0) = _
  rw [List.getElem?_eq_getElem hk, List.getElem?_eq_getElem (by omega)]
def listErr {α : Type} (alone : α → Int) (key : α → ByteArray) (more : Nat → Int) (L : List α) : Int := firstErr (stepE alone key more L) L.length

/-- the directories above a path, of which fewer than k bytes are looked at -/
def dirsTo (p : ByteArray) : Nat → List ByteArray
  | 0 => []
  | k + 1 => dirsTo p k ++ (if p.data.toList[k]? = some 47 then [p.extract 0 k] else [])
def dirs (p : ByteArray) : List ByteArray := dirsTo p p.size
/-- is s one of the paths of L? -/
def seen (L : List Fi) (s : ByteArray) : Bool := L.any (fun y => decide (y.p = s))
def clash (L : List Fi) (k : Nat) : Int :=
  match L[k]? with
  | none => 0
  | some x => if (dirs x.p).any (seen (L.take k)) then 11 else 0
theorem clash_at (L : List Fi) {k : Nat} (hk : k < L.length) : clash L k = if (dirs L[k].p).any (seen (L.take k)) then 11 else 0 := by unfold clash; rw [List.getElem?_eq_getElem hk]
def noMore (_ : Nat) : Int := 0
def machErr (m : Mach) : Int :=
  if 100 < m.facts.length ∨ 2000 < m.files.length ∨ 2000 < m.sets.length ∨ 100 < m.svcs.length then 4
  else orE (listErr factErr St.k noMore m.facts) (orE (listErr fileErr Fi.p (clash m.files) m.files) (orE (listErr setErr St.k noMore m.sets) (listErr svcErr Sv.n noMore m.svcs)))
end P
end Go.Proofs.YtomikcemiacjmaaGreatDoor

namespace Go.Proofs.YtomikcemiacjmaaGreatDoor
namespace P

/-- strictly before, byte by byte -/
def ltB (a b : ByteArray) : Prop := a.data.toList < b.data.toList
instance (a b : ByteArray) : Decidable (ltB a b) := inferInstanceAs (Decidable (a.data.toList < b.data.toList))
theorem ba_inj {a b : ByteArray} (h : a.data.toList = b.data.toList) : a = b := ByteArray.ext (Array.toList_inj.1 h)
theorem ltB_irrefl (a : ByteArray) : ¬ ltB a a := List.lt_irrefl _
theorem ltB_trans {a b c : ByteArray} (h1 : ltB a b) (h2 : ltB b c) : ltB a c := List.lt_trans h1 h2
theorem ltB_ne {a b : ByteArray} (h : ltB a b) : a ≠ b := fun e => by subst e; exact ltB_irrefl _ h
theorem ltB_total {a b : ByteArray} (h1 : ¬ ltB a b) (h2 : a ≠ b) : ltB b a := by
  unfold ltB at *
  have h := List.not_lt.1 h1
  rcases List.le_iff_lt_or_eq.1 h with h | h
  · exact h
  · exact absurd (ba_inj h.symm) h2
section
variable {α : Type} (key : α → ByteArray)
/-- the keys rise -/
def Rising (L : List α) : Prop := L.Pairwise (fun x y => ltB (key x) (key y))
def findK (L : List α) (s : ByteArray) : Option α := L.find? (fun y => decide (key y = s))
def insK (x : α) : List α → List α
  | [] => [x]
  | y :: r => if key x = key y then x :: r else if ltB (key x) (key y) then x :: y :: r else y :: insK x r
def delK (s : ByteArray) (L : List α) : List α := L.filter (fun y => !decide (key y = s))

variable {key}
theorem findK_none {L : List α} {s : ByteArray} : findK key L s = none ↔ ∀ x ∈ L, key x ≠ s := by unfold findK; rw [List.find?_eq_none]; simp
theorem mem_ins {x z : α} {L : List α} (h : z ∈ insK key x L) : z = x ∨ z ∈ L := by
  induction L with
  | nil => unfold insK at h; simp at h; exact .inl h
  | cons y r ih =>
    unfold insK at h
    split at h
    · rcases List.mem_cons.1 h with h | h
      · exact .inl h
      · exact .inr (List.mem_cons_of_mem _ h)
    · split at h
      · rcases List.mem_cons.1 h with h | h
        · exact .inl h
        · exact .inr h
      · rcases List.mem_cons.1 h with h | h
        · exact .inr (by rw [h]; exact List.mem_cons_self)
        · rcases ih h with h | h
          · exact .inl h
          · exact .inr (List.mem_cons_of_mem _ h)
theorem rising_ins {x : α} {L : List α} (h : Rising key L) : Rising key (insK key x L) := by
  induction L with
  | nil => unfold insK; exact List.pairwise_singleton _ _
  | cons y r ih =>
    obtain ⟨h1, h2⟩ := List.pairwise_cons.1 h
    unfold insK
    split
    · rename_i e; exact List.pairwise_cons.2 ⟨fun z hz => by rw [e]; exact h1 z hz, h2⟩
    · split
      · rename_i e l
        refine List.pairwise_cons.2 ⟨fun z hz => ?_, h⟩
        rcases List.mem_cons.1 hz with hz | hz
        · rw [hz]; exact l
        · exact ltB_trans l (h1 z hz)
      · rename_i e l
        refine List.pairwise_cons.2 ⟨fun z hz => ?_, ih h2⟩
        rcases mem_ins hz with hz | hz
        · rw [hz]; exact ltB_total l e
        · exact h1 z hz
theorem length_ins {x : α} {L : List α} (h : Rising key L) : (insK key x L).length = if (findK key L (key x)).isSome then L.length else L.length + 1 := by
  induction L with
  | nil => rfl
  | cons y r ih =>
    obtain ⟨h1, h2⟩ := List.pairwise_cons.1 h
    unfold insK
    by_cases e : key x = key y
    · rw [if_pos e, show findK key (y :: r) (key x) = some y by unfold findK; rw [List.find?_cons_of_pos (by simpa using e.symm)]]; rfl
    · rw [if_neg e]
      have e' : ¬ key y = key x := fun h => e h.symm
      have hf : findK key (y :: r) (key x) = findK key r (key x) := by unfold findK; rw [List.find?_cons_of_neg (by simpa using e')]
      rw [hf]
      split
      · rename_i l
        have : findK key r (key x) = none := findK_none.2 fun z hz => (ltB_ne (ltB_trans l (h1 z hz))).symm
        rw [this]; rfl
      · rw [List.length_cons, ih h2]; split <;> rfl
theorem mem_del {s : ByteArray} {z : α} {L : List α} : z ∈ delK key s L ↔ z ∈ L ∧ key z ≠ s := by unfold delK; simp
theorem rising_del {s : ByteArray} {L : List α} (h : Rising key L) : Rising key (delK key s L) := List.Pairwise.filter _ h
theorem findK_del (s y : ByteArray) (L : List α) : findK key (delK key s L) y = if y = s then none else findK key L y := by
  by_cases e : y = s
  · rw [if_pos e]; exact findK_none.2 fun x hx => by rw [e]; exact (mem_del.1 hx).2
  · rw [if_neg e]; unfold findK delK; rw [List.find?_filter]; congr 1; funext a
    by_cases e2 : key a = y
    · have : ¬ key a = s := fun h => e (by rw [← e2, h])
      simp [e2]; exact fun h => e h
    · simp [e2]
theorem length_del {s : ByteArray} {L : List α} (h : Rising key L) : (delK key s L).length + (if (findK key L s).isSome then 1 else 0) = L.length := by
  induction L with
  | nil => rfl
  | cons y r ih =>
    obtain ⟨h1, h2⟩ := List.pairwise_cons.1 h
    have ih := ih h2
    unfold delK findK at *
    by_cases e : key y = s
    · rw [List.find?_cons_of_pos (by simpa using e)]
      have hn : r.find? (fun y => decide (key y = s)) = none := List.find?_eq_none.2 fun z hz => by simpa using fun (h : key z = s) => ltB_ne (h1 z hz) (by rw [e, h])
      rw [hn] at ih
      simp [e] at ih ⊢
      exact ih
    · rw [List.find?_cons_of_neg (by simpa using e), List.filter_cons_of_pos (by simpa using e), List.length_cons, List.length_cons]
      omega
end

/-! ### what it means that a list has no error -/
theorem orE_zero_iff {a b : Int} : orE a b = 0 ↔ a = 0 ∧ b = 0 := by
  unfold orE
  by_cases h : a = 0
  · simp [h]
  · simp [h]
/-- does p lie below d? -/
def underS (p d : ByteArray) : Bool := (d.data.toList ++ [47]).isPrefixOf p.data.toList
theorem mem_dirsTo {p d : ByteArray} : ∀ {k : Nat}, d ∈ dirsTo p k ↔ ∃ j, j < k ∧ p.data.toList[j]? = some 47 ∧ d = p.extract 0 j
  | 0 => by simp [dirsTo]
  | k + 1 => by
    rw [dirsTo, List.mem_append, mem_dirsTo (k := k)]
    constructor
    · rintro (⟨j, h1, h2⟩ | h)
      · exact ⟨j, by omega, h2⟩
      · split at h
        · rename_i h47; simp at h; exact ⟨k, by omega, h47, h⟩
        · cases h
    · rintro ⟨j, h1, h2, h3⟩
      by_cases e : j = k
      · subst e; right; rw [if_pos h2]; simp [h3]
      · exact .inl ⟨j, by omega, h2, h3⟩
theorem extract_list (p : ByteArray) (j : Nat) : (p.extract 0 j).data.toList = p.data.toList.take j := by
  rw [ByteArray.data_extract]; simp
theorem under_iff (p d : ByteArray) : underS p d = true ↔ d ∈ dirs p := by
  unfold underS dirs
  rw [mem_dirsTo, List.isPrefixOf_iff_prefix]
  constructor
  · rintro ⟨t, ht⟩
    refine ⟨d.data.toList.length, ?_, ?_, ?_⟩
    · have := congrArg List.length ht; simp at this; have hl := P.size_len p; simp at hl ⊢; omega
    · rw [← ht]; simp
    · apply ba_inj; rw [extract_list, ← ht, List.append_assoc]; simp
  · rintro ⟨j, h1, h2, rfl⟩
    rw [extract_list]
    refine ⟨p.data.toList.drop (j + 1), ?_⟩
    obtain ⟨hj, h2⟩ := List.getElem?_eq_some_iff.1 h2
    rw [show ([47] : List UInt8) = [p.data.toList[j]] by rw [h2], ← List.take_succ_eq_append_getElem hj]
    exact List.take_append_drop _ _
theorem dirs_lt {p d : ByteArray} (h : d ∈ dirs p) : ltB d p := by
  unfold dirs at h
  obtain ⟨j, h1, h2, rfl⟩ := mem_dirsTo.1 h
  unfold ltB
  rw [extract_list]
  obtain ⟨hj, h2⟩ := List.getElem?_eq_some_iff.1 h2
  conv => rhs; rw [← List.take_append_drop j p.data.toList]
  rw [List.drop_eq_getElem_cons hj]
  generalize p.data.toList.take j = l
  induction l with
  | nil => exact List.nil_lt_cons _ _
  | cons a r ih => exact List.cons_lt_cons_iff.2 (.inr ⟨rfl, ih⟩)
/-- no file lies below another one -/
def NoUnder (L : List Fi) : Prop := ∀ x ∈ L, ∀ y ∈ L, y.p ∉ dirs x.p
structure Chg where
  kind : Int
  file : Fi
  set : St
  svc : Sv
def fi0 : Fi := ⟨⟨#[]⟩, ⟨#[]⟩, false⟩
def st0 : St := ⟨⟨#[]⟩, ⟨#[]⟩⟩
def sv0 : Sv := ⟨⟨#[]⟩, ⟨#[]⟩, false, false⟩

/-- a machine is right -/
structure Right (m : Mach) : Prop where
  l1 : m.facts.length ≤ 100
  l2 : m.files.length ≤ 2000
  l3 : m.sets.length ≤ 2000
  l4 : m.svcs.length ≤ 100
  a1 : ∀ x ∈ m.facts, factErr x = 0
  a2 : ∀ x ∈ m.files, fileErr x = 0
  a3 : ∀ x ∈ m.sets, setErr x = 0
  a4 : ∀ x ∈ m.svcs, svcErr x = 0
  r1 : Rising St.k m.facts
  r2 : Rising Fi.p m.files
  r3 : Rising St.k m.sets
  r4 : Rising Sv.n m.svcs
  nu : NoUnder m.files
def fits {α : Type} (L : List α) (full : Bool) (most : Nat) : Int := if full = false ∧ most ≤ L.length then 4 else 0
def gone (b : Bool) : Int := if b then 0 else 10
/-- the error of a change that is right of itself -/
def placeErr (m : Mach) (c : Chg) : Int :=
  if c.kind = 1 then (if m.files.any (fun y => underS y.p c.file.p || underS c.file.p y.p) then 11 else fits m.files (findK Fi.p m.files c.file.p).isSome 2000)
  else if c.kind = 2 then gone (findK Fi.p m.files c.file.p).isSome
  else if c.kind = 3 then fits m.sets (findK St.k m.sets c.set.k).isSome 2000
  else if c.kind = 4 then gone (findK St.k m.sets c.set.k).isSome
  else if c.kind = 5 then fits m.svcs (findK Sv.n m.svcs c.svc.n).isSome 100
  else gone (findK Sv.n m.svcs c.svc.n).isSome
def made (m : Mach) (c : Chg) : Mach :=
  if c.kind = 1 then { m with files := insK Fi.p c.file m.files }
  else if c.kind = 2 then { m with files := delK Fi.p c.file.p m.files }
  else if c.kind = 3 then { m with sets := insK St.k c.set m.sets }
  else if c.kind = 4 then { m with sets := delK St.k c.set.k m.sets }
  else if c.kind = 5 then { m with svcs := insK Sv.n c.svc m.svcs }
  else { m with svcs := delK Sv.n c.svc.n m.svcs }
/-- what is wrong with the thing that a change brings -/
def thingErr (c : Chg) : Int := if c.kind = 1 then fileErr c.file else if c.kind = 3 then setErr c.set else if c.kind = 5 then svcErr c.svc else 0

theorem fits_le {α : Type} {L : List α} {key : α → ByteArray} (hr : Rising key L) {x : α} {most : Nat} (h : fits L (findK key L (key x)).isSome most = 0) (hl : L.length ≤ most) : (insK key x L).length ≤ most := by
  rw [length_ins hr]
  unfold fits at h
  cases e : (findK key L (key x)).isSome with
  | true => simpa using hl
  | false =>
    rw [e] at h
    simp at h ⊢
    omega
theorem del_le {α : Type} {L : List α} {key : α → ByteArray} (s : ByteArray) : (delK key s L).length ≤ L.length := List.length_filter_le _ _

theorem Right.made {m : Mach} (h : Right m) {c : Chg} (ht : thingErr c = 0) (hp : placeErr m c = 0) : Right (made m c) := by
  unfold P.made
  unfold placeErr at hp
  unfold thingErr at ht
  by_cases k1 : c.kind = 1
  · rw [if_pos k1] at hp ht ⊢
    split at hp
    · cases hp
    · rename_i hu
      have hu : ∀ y ∈ m.files, y.p ∉ dirs c.file.p ∧ c.file.p ∉ dirs y.p := fun y hy => by
        have h1 : (underS y.p c.file.p || underS c.file.p y.p) = false := by
          cases e : (underS y.p c.file.p || underS c.file.p y.p) with
          | false => rfl
          | true => exact absurd (List.any_eq_true.2 ⟨y, hy, e⟩) hu
        rw [Bool.or_eq_false_iff] at h1
        exact ⟨fun hd => by rw [(under_iff _ _).2 hd] at h1; exact absurd h1.2 (by simp), fun hd => by rw [(under_iff _ _).2 hd] at h1; exact absurd h1.1 (by simp)⟩
      refine { h with l2 := fits_le h.r2 hp h.l2, a2 := fun x hx => ?_, r2 := rising_ins h.r2, nu := fun x hx y hy => ?_ }
      · rcases mem_ins hx with e | hx
        · rw [e]; exact ht
        · exact h.a2 x hx
      · rcases mem_ins hx with e | hx <;> rcases mem_ins hy with e' | hy
        · rw [e, e']; exact fun hd => ltB_irrefl _ (dirs_lt hd)
        · rw [e]; exact (hu y hy).1
        · rw [e']; exact (hu x hx).2
        · exact h.nu x hx y hy
  rw [if_neg k1] at hp ht ⊢
  by_cases k2 : c.kind = 2
  · rw [if_pos k2] at hp ⊢
    exact { h with l2 := Nat.le_trans (del_le _) h.l2, a2 := fun x hx => h.a2 x (mem_del.1 hx).1, r2 := rising_del h.r2, nu := fun x hx y hy => h.nu x (mem_del.1 hx).1 y (mem_del.1 hy).1 }
  rw [if_neg k2] at hp ⊢
  by_cases k3 : c.kind = 3
  · rw [if_pos k3] at hp ht ⊢
    refine { h with l3 := fits_le h.r3 hp h.l3, a3 := fun x hx => ?_, r3 := rising_ins h.r3 }
    rcases mem_ins hx with e | hx
    · rw [e]; exact ht
    · exact h.a3 x hx
  rw [if_neg k3] at hp ht ⊢
  by_cases k4 : c.kind = 4
  · rw [if_pos k4] at hp ⊢
    exact { h with l3 := Nat.le_trans (del_le _) h.l3, a3 := fun x hx => h.a3 x (mem_del.1 hx).1, r3 := rising_del h.r3 }
  rw [if_neg k4] at hp ⊢
  by_cases k5 : c.kind = 5
  · rw [if_pos k5] at hp ht ⊢
    refine { h with l4 := fits_le h.r4 hp h.l4, a4 := fun x hx => ?_, r4 := rising_ins h.r4 }
    rcases mem_ins hx with e | hx
    · rw [e]; exact ht
    · exact h.a4 x hx
  rw [if_neg k5] at hp ⊢
  exact { h with l4 := Nat.le_trans (del_le _) h.l4, a4 := fun x hx => h.a4 x (mem_del.1 hx).1, r4 := rising_del h.r4 }
end P
end Go.Proofs.YtomikcemiacjmaaGreatDoor
