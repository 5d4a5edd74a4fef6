/- Plain functions on lists of bytes: names, paths, values, words, versions, their order. No program stands here. -/
/- Plain functions: machines, the errors of their things, of lists of things, of a whole machine. No program stands here. -/
import Derived.Lib.SplitLaws
import Derived.Lib.Split
import Derived.Lib.AtoiAll
import Derived.Lib.ItoaNum
import Derived.WalkLawsBesides

namespace Go.Proofs.YtkibmoekadmjnaaGreatDoor
namespace P
abbrev B := List UInt8

def sml (c : UInt8) : Bool := decide ((97 : Int) ≤ c.toNat) && decide ((c.toNat : Int) ≤ 122)
def grt (c : UInt8) : Bool := decide ((65 : Int) ≤ c.toNat) && decide ((c.toNat : Int) ≤ 90)
def dig (c : UInt8) : Bool := decide ((48 : Int) ≤ c.toNat) && decide ((c.toNat : Int) ≤ 57)
def nameC (c : UInt8) : Bool := sml c || dig c || (c.toNat : Int) == 45 || (c.toNat : Int) == 46
def partC (c : UInt8) : Bool := sml c || grt c || dig c || (c.toNat : Int) == 45 || (c.toNat : Int) == 46 || (c.toNat : Int) == 95
def valC (c : UInt8) : Bool := decide ((32 : Int) ≤ c.toNat) && decide ((c.toNat : Int) ≤ 126)
def wordC (c : UInt8) : Bool := sml c || dig c

def allS (p : UInt8 → Bool) (s : ByteArray) : Bool := s.data.toList.all p

def name : B → Bool
  | [] => false
  | c :: l => decide ((c :: l).length ≤ 40) && sml c && (c :: l).all nameC
def part (l : B) : Bool := l != [] && decide (l.length ≤ 40) && l != [46] && l != [46, 46] && l.all partC
def path (l : B) : Bool := decide (l.length ≤ 200) && (Lib.split l [47]).all part
def value (l : B) : Bool := decide (l.length ≤ 1000) && l.all valC
/-- digits without a superfluous zero ahead -/
def number : B → Bool
  | [] => false
  | c :: l => (c :: l).all dig && (l.isEmpty || (c.toNat : Int) != 48)
def word (l : B) : Bool := l != [] && decide (l.length ≤ 10) && (if l.all dig then number l else l.all wordC)
def early (l : B) : Bool := decide (l.length ≤ 40) && (Lib.split l [46]).all word

/-! the same over byte arrays, as the walk writes its tests -/
def nameS (s : ByteArray) : Bool := name s.data.toList
def partS (s : ByteArray) : Bool := part s.data.toList
def pathS (s : ByteArray) : Bool := path s.data.toList
def valueS (s : ByteArray) : Bool := value s.data.toList
def numberS (s : ByteArray) : Bool := number s.data.toList
def wordS (s : ByteArray) : Bool := word s.data.toList
def earlyS (s : ByteArray) : Bool := early s.data.toList
theorem size_len (s : ByteArray) : s.data.toList.length = s.size := (Lib.size_eq s).symm
theorem empty_iff (s : ByteArray) : s.toList.isEmpty = true ↔ s.data.toList = [] := by rw [Lib.toList_data]; simp
theorem nonempty_iff (s : ByteArray) : s.toList.isEmpty = false ↔ s.data.toList ≠ [] := by rw [Lib.toList_data]; cases s.data.toList <;> simp
theorem head_get (s : ByteArray) (h : 0 < s.size) : s.data.toList = s[0] :: s.data.toList.tail := by
  have : s.data.toList ≠ [] := fun e => by rw [← size_len, e] at h; simp at h
  obtain ⟨c, l, e⟩ := List.exists_cons_of_ne_nil this
  have h0 : s[0] = s.data.toList[0]'(by rw [size_len]; exact h) := by rw [ByteArray.getElem_eq_getElem_data]; simp
  rw [h0]
  simp only [e, List.getElem_cons_zero, List.tail_cons]

/-- the pieces of s between bytes c -/
def splitS (s : ByteArray) (c : UInt8) : List ByteArray := Lib.splitB ⟨#[c]⟩ 0 (Lib.countB s ⟨#[c]⟩) s
theorem one_le (c : UInt8) : 1 ≤ (⟨#[c]⟩ : ByteArray).size := by simp [ByteArray.size]
theorem splitS_length (s : ByteArray) (c : UInt8) : (splitS s c).length = Lib.countB s ⟨#[c]⟩ + 1 := Lib.splitB_all ⟨#[c]⟩ (one_le c) 0 _ s rfl
theorem splitS_data (s : ByteArray) (c : UInt8) : (splitS s c).map (·.data.toList) = Lib.split s.data.toList [c] := by
  unfold splitS Lib.split
  rw [Lib.splitB_data]
theorem splitB_size (sep : ByteArray) : ∀ (k : Nat) (s x : ByteArray), x ∈ Lib.splitB sep 0 k s → x.size ≤ s.size
  | 0, s, x, h => by simp [Lib.splitB] at h; subst h; exact Nat.le_refl _
  | k + 1, s, x, h => by
    unfold Lib.splitB at h
    split at h
    · simp at h; subst h; exact Nat.le_refl _
    · rcases List.mem_cons.1 h with h | h
      · subst h; rw [ByteArray.size_extract]; omega
      · have := splitB_size sep k _ x h
        rw [ByteArray.size_extract] at this
        omega
theorem splitS_size (s : ByteArray) (c : UInt8) (k : Nat) (h : k < (splitS s c).length) : (splitS s c)[k].size ≤ s.size := splitB_size _ _ _ _ (List.getElem_mem h)
theorem splitS_all (s : ByteArray) (c : UInt8) (p : B → Bool) : (splitS s c).all (fun x => p x.data.toList) = (Lib.split s.data.toList [c]).all p := by
  rw [← splitS_data, List.all_map]; rfl

def numOk (n : Int) : Bool := decide (0 ≤ n) && decide (n ≤ 999999)
/-- the error of a version -/
def verr (a b c : Int) (s : ByteArray) : Int :=
  if numOk a && numOk b && numOk c then (if s.toList.isEmpty || earlyS s then 0 else 2) else 3
/-- a version's text -/
def vtextL (a b c : Int) (s : B) : B :=
  Lib.itoa a ++ [46] ++ Lib.itoa b ++ [46] ++ Lib.itoa c ++ (if s.isEmpty then [] else 45 :: s)
end P
end Go.Proofs.YtkibmoekadmjnaaGreatDoor

namespace Go.Proofs.YtkibmoekadmjnaaGreatDoor
namespace P
structure St where
  k : ByteArray
  v : ByteArray
structure Fi where
  p : ByteArray
  d : ByteArray
  r : Bool
structure Sv where
  n : ByteArray
  p : ByteArray
  a : Bool
  o : Bool
structure Mach where
  facts : List St
  files : List Fi
  sets : List St
  svcs : List Sv

def leS (a b : ByteArray) : Bool := Op.bytesLess a.toList b.toList || a.toList == b.toList
def orE (a b : Int) : Int := if a = 0 then b else a
def factErr (x : St) : Int := if nameS x.k then (if valueS x.v then 0 else 2) else 5
def setErr (x : St) : Int := if pathS x.k then (if valueS x.v then 0 else 2) else 5
def fileErr (x : Fi) : Int := if pathS x.p then (if x.d.size ≤ 65536 then 0 else 4) else 5
def svcErr (x : Sv) : Int := if nameS x.n then (if pathS x.p then 0 else 5) else 5
theorem orE_zero (b : Int) : orE 0 b = b := rfl
theorem orE_ne {a : Int} (h : a ≠ 0) (b : Int) : orE a b = a := if_neg h
theorem orE_assoc (a b c : Int) : orE (orE a b) c = orE a (orE b c) := by unfold orE; by_cases h : a = 0 <;> simp [h]

/-- the first of the errors of steps -/
def firstErr (f : Nat → Int) : Nat → Int
  | 0 => 0
  | n + 1 => orE (firstErr f n) (f n)
theorem firstErr_none {f : Nat → Int} {n : Nat} (h : ∀ j, j < n → f j = 0) : firstErr f n = 0 := by
  induction n with
  | zero => rfl
  | succ n ih => rw [firstErr, ih (fun j hj => h j (by omega)), h n (by omega)]; rfl
theorem firstErr_at {f : Nat → Int} {n k : Nat} (hk : k < n) (h : ∀ j, j < k → f j = 0) (he : f k ≠ 0) : firstErr f n = f k := by
  induction n with
  | zero => omega
  | succ n ih =>
    rw [firstErr]
    by_cases e : k = n
    · subst e; rw [firstErr_none h]; rfl
    · rw [ih (by omega), orE_ne he]
theorem firstErr_congr {f g : Nat → Int} {n : Nat} (h : ∀ j, j < n → f j = g j) : firstErr f n = firstErr g n := by
  induction n with
  | zero => rfl
  | succ n ih => rw [firstErr, firstErr, ih (fun j hj => h j (by omega)), h n (by omega)]
theorem firstErr_ok {f : Nat → Int} {n : Nat} (h : firstErr f n = 0) : ∀ j, j < n → f j = 0 := by
  induction n with
  | zero => intro j hj; omega
  | succ n ih =>
    rw [firstErr] at h
    unfold orE at h
    intro j hj
    by_cases h0 : firstErr f n = 0
    · rw [if_pos h0] at h
      by_cases e : j = n
      · subst e; exact h
      · exact ih h0 j (by omega)
    · rw [if_neg h0] at h; exact absurd h h0

/-- out of order behind the one before -/
def orderE {α : Type} (key : α → ByteArray) (L : List α) : Nat → Int
  | 0 => 0
  | k + 1 => match L[k]?, L[k + 1]? with
    | some y, some x => if leS (key x) (key y) then 7 else 0
    | _, _ => 0
/-- the error of a list's thing number k -/
def stepE {α : Type} (alone : α → Int) (key : α → ByteArray) (more : Nat → Int) (L : List α) (k : Nat) : Int :=
  match L[k]? with
  | none => 0
  | some x => orE (alone x) (orE (orderE key L k) (more k))
theorem stepE_at {α : Type} (alone : α → Int) (key : α → ByteArray) (more : Nat → Int) (L : List α) {k : Nat} (hk : k < L.length) :
    stepE alone key more L k = orE (alone L[k]) (orE (orderE key L k) (more k)) := by unfold stepE; rw [List.getElem?_eq_getElem hk]
theorem orderE_succ {α : Type} (key : α → ByteArray) (L : List α) {k : Nat} (hk : k + 1 < L.length) : orderE key L (k + 1) = if leS (key L[k + 1]) (key (L[k]'(by omega))) then 7 else 0 := by
  
  show (match L[k]?, L[k + 1]? with | some y, some x => if leS (key x) (key y) then (7 : Int) else 0 | _, _ => 0) = _
  rw [List.getElem?_eq_getElem hk, List.getElem?_eq_getElem (by omega)]
def listErr {α : Type} (alone : α → Int) (key : α → ByteArray) (more : Nat → Int) (L : List α) : Int := firstErr (stepE alone key more L) L.length

/-- the directories above a path, of which fewer than k bytes are looked at -/
def dirsTo (p : ByteArray) : Nat → List ByteArray
  | 0 => []
  | k + 1 => dirsTo p k ++ (if p.data.toList[k]? = some 47 then [p.extract 0 k] else [])
def dirs (p : ByteArray) : List ByteArray := dirsTo p p.size
/-- is s one of the paths of L? -/
def seen (L : List Fi) (s : ByteArray) : Bool := L.any (fun y => decide (y.p = s))
def clash (L : List Fi) (k : Nat) : Int :=
  match L[k]? with
  | none => 0
  | some x => if (dirs x.p).any (seen (L.take k)) then 11 else 0
theorem clash_at (L : List Fi) {k : Nat} (hk : k < L.length) : clash L k = if (dirs L[k].p).any (seen (L.take k)) then 11 else 0 := by unfold clash; rw [List.getElem?_eq_getElem hk]
def noMore (_ : Nat) : Int := 0
def machErr (m : Mach) : Int :=
  if 100 < m.facts.length ∨ 2000 < m.files.length ∨ 2000 < m.sets.length ∨ 100 < m.svcs.length then 4
  else orE (listErr factErr St.k noMore m.facts) (orE (listErr fileErr Fi.p (clash m.files) m.files) (orE (listErr setErr St.k noMore m.sets) (listErr svcErr Sv.n noMore m.svcs)))
end P
end Go.Proofs.YtkibmoekadmjnaaGreatDoor
