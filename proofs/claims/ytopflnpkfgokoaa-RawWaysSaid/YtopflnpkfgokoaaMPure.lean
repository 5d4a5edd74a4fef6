/- Plain functions: machines, the errors of their things, of lists of things, of a whole machine. No program stands here. -/
import Derived.Test.YtopflnpkfgokoaaPure
import Derived.WalkLawsBesides
namespace Go.Proofs.Ytopflnpkfgokoaa
namespace P
structure St where
  k : ByteArray
  v : ByteArray
structure Fi where
  p : ByteArray
  d : ByteArray
  r : Bool
structure Sv where
  n : ByteArray
  p : ByteArray
  a : Bool
  o : Bool
structure Mach where
  facts : List St
  files : List Fi
  sets : List St
  svcs : List Sv

def leS (a b : ByteArray) : Bool := Op.bytesLess a.toList b.toList || a.toList == b.toList
def orE (a b : Int) : Int := if a = 0 then b else a
def factErr (x : St) : Int := if nameS x.k then (if valueS x.v then 0 else 2) else 5
def setErr (x : St) : Int := if pathS x.k then (if valueS x.v then 0 else 2) else 5
def fileErr (x : Fi) : Int := if pathS x.p then (if x.d.size ≤ 65536 then 0 else 4) else 5
def svcErr (x : Sv) : Int := if nameS x.n then (if pathS x.p then 0 else 5) else 5
theorem orE_zero (b : Int) : orE 0 b = b := rfl
theorem orE_ne {a : Int} (h : a ≠ 0) (b : Int) : orE a b = a := if_neg h
theorem orE_assoc (a b c : Int) : orE (orE a b) c = orE a (orE b c) := by unfold orE; by_cases h : a = 0 <;> simp [h]

/-- the first of the errors of steps -/
def firstErr (f : Nat → Int) : Nat → Int
  | 0 => 0
  | n + 1 => orE (firstErr f n) (f n)
theorem firstErr_none {f : Nat → Int} {n : Nat} (h : ∀ j, j < n → f j = 0) : firstErr f n = 0 := by
  induction n with
  | zero => rfl
  | succ n ih => rw [firstErr, ih (fun j hj => h j (by omega)), h n (by omega)]; rfl
theorem firstErr_at {f : Nat → Int} {n k : Nat} (hk : k < n) (h : ∀ j, j < k → f j = 0) (he : f k ≠ 0) : firstErr f n = f k := by
  induction n with
  | zero => omega
  | succ n ih =>
    rw [firstErr]
    by_cases e : k = n
    · subst e; rw [firstErr_none h]; rfl
    · rw [ih (by omega), orE_ne he]
theorem firstErr_congr {f g : Nat → Int} {n : Nat} (h : ∀ j, j < n → f j = g j) : firstErr f n = firstErr g n := by
  induction n with
  | zero => rfl
  | succ n ih => rw [firstErr, firstErr, ih (fun j hj => h j (by omega)), h n (by omega)]
theorem firstErr_ok {f : Nat → Int} {n : Nat} (h : firstErr f n = 0) : ∀ j, j < n → f j = 0 := by
  induction n with
  | zero => intro j hj; omega
  | succ n ih =>
    rw [firstErr] at h
    unfold orE at h
    intro j hj
    by_cases h0 : firstErr f n = 0
    · rw [if_pos h0] at h
      by_cases e : j = n
      · subst e; exact h
      · exact ih h0 j (by omega)
    · rw [if_neg h0] at h; exact absurd h h0

/-- out of order behind the one before -/
def orderE {α : Type} (key : α → ByteArray) (L : List α) : Nat → Int
  | 0 => 0
  | k + 1 => match L[k]?, L[k + 1]? with
    | some y, some x => if leS (key x) (key y) then 7 else 0
    | _, _ => 0
/-- the error of a list's thing number k -/
def stepE {α : Type} (alone : α → Int) (key : α → ByteArray) (more : Nat → Int) (L : List α) (k : Nat) : Int :=
  match L[k]? with
  | none => 0
  | some x => orE (alone x) (orE (orderE key L k) (more k))
theorem stepE_at {α : Type} (alone : α → Int) (key : α → ByteArray) (more : Nat → Int) (L : List α) {k : Nat} (hk : k < L.length) :
    stepE alone key more L k = orE (alone L[k]) (orE (orderE key L k) (more k)) := by unfold stepE; rw [List.getElem?_eq_getElem hk]
theorem orderE_succ {α : Type} (key : α → ByteArray) (L : List α) {k : Nat} (hk : k + 1 < L.length) : orderE key L (k + 1) = if leS (key L[k + 1]) (key (L[k]'(by omega))) then 7 else 0 := by
  
  show (match L[k]?, L[k + 1]? with | some y, some x => if leS (key x) (key y) then (7 : Int) else 0 | _, _ => 0) = _
  rw [List.getElem?_eq_getElem hk, List.getElem?_eq_getElem (by omega)]
def listErr {α : Type} (alone : α → Int) (key : α → ByteArray) (more : Nat → Int) (L : List α) : Int := firstErr (stepE alone key more L) L.length

/-- the directories above a path, of which fewer than k bytes are looked at -/
def dirsTo (p : ByteArray) : Nat → List ByteArray
  | 0 => []
  | k + 1 => dirsTo p k ++ (if p.data.toList[k]? = some 47 then [p.extract 0 k] else [])
def dirs (p : ByteArray) : List ByteArray := dirsTo p p.size
/-- is s one of the paths of L? -/
def seen (L : List Fi) (s : ByteArray) : Bool := L.any (fun y => decide (y.p = s))
def clash (L : List Fi) (k : Nat) : Int :=
  match L[k]? with
  | none => 0
  | some x => if (dirs x.p).any (seen (L.take k)) then 11 else 0
theorem clash_at (L : List Fi) {k : Nat} (hk : k < L.length) : clash L k = if (dirs L[k].p).any (seen (L.take k)) then 11 else 0 := by unfold clash; rw [List.getElem?_eq_getElem hk]
def noMore (_ : Nat) : Int := 0
def machErr (m : Mach) : Int :=
  if 100 < m.facts.length ∨ 2000 < m.files.length ∨ 2000 < m.sets.length ∨ 100 < m.svcs.length then 4
  else orE (listErr factErr St.k noMore m.facts) (orE (listErr fileErr Fi.p (clash m.files) m.files) (orE (listErr setErr St.k noMore m.sets) (listErr svcErr Sv.n noMore m.svcs)))
end P
end Go.Proofs.Ytopflnpkfgokoaa
