/- Plain functions on lists of bytes: names, paths, values, words, versions, their order. No program stands here. -/
import Derived.Lib.SplitLaws
import Derived.Lib.Split
import Derived.Lib.AtoiAll
import Derived.Lib.ItoaNum
namespace Go.Proofs.Ytopflnpkfgokoaa
namespace P
abbrev B := List UInt8

def sml (c : UInt8) : Bool := decide ((97 : Int) ≤ c.toNat) && decide ((c.toNat : Int) ≤ 122)
def grt (c : UInt8) : Bool := decide ((65 : Int) ≤ c.toNat) && decide ((c.toNat : Int) ≤ 90)
def dig (c : UInt8) : Bool := decide ((48 : Int) ≤ c.toNat) && decide ((c.toNat : Int) ≤ 57)
def nameC (c : UInt8) : Bool := sml c || dig c || (c.toNat : Int) == 45 || (c.toNat : Int) == 46
def partC (c : UInt8) : Bool := sml c || grt c || dig c || (c.toNat : Int) == 45 || (c.toNat : Int) == 46 || (c.toNat : Int) == 95
def valC (c : UInt8) : Bool := decide ((32 : Int) ≤ c.toNat) && decide ((c.toNat : Int) ≤ 126)
def wordC (c : UInt8) : Bool := sml c || dig c

def allS (p : UInt8 → Bool) (s : ByteArray) : Bool := s.data.toList.all p

def name : B → Bool
  | [] => false
  | c :: l => decide ((c :: l).length ≤ 40) && sml c && (c :: l).all nameC
def part (l : B) : Bool := l != [] && decide (l.length ≤ 40) && l != [46] && l != [46, 46] && l.all partC
def path (l : B) : Bool := decide (l.length ≤ 200) && (Lib.split l [47]).all part
def value (l : B) : Bool := decide (l.length ≤ 1000) && l.all valC
/-- digits without a superfluous zero ahead -/
def number : B → Bool
  | [] => false
  | c :: l => (c :: l).all dig && (l.isEmpty || (c.toNat : Int) != 48)
def word (l : B) : Bool := l != [] && decide (l.length ≤ 10) && (if l.all dig then number l else l.all wordC)
def early (l : B) : Bool := decide (l.length ≤ 40) && (Lib.split l [46]).all word

/-! the same over byte arrays, as the walk writes its tests -/
def nameS (s : ByteArray) : Bool := name s.data.toList
def partS (s : ByteArray) : Bool := part s.data.toList
def pathS (s : ByteArray) : Bool := path s.data.toList
def valueS (s : ByteArray) : Bool := value s.data.toList
def numberS (s : ByteArray) : Bool := number s.data.toList
def wordS (s : ByteArray) : Bool := word s.data.toList
def earlyS (s : ByteArray) : Bool := early s.data.toList
theorem size_len (s : ByteArray) : s.data.toList.length = s.size := (Lib.size_eq s).symm
theorem empty_iff (s : ByteArray) : s.toList.isEmpty = true ↔ s.data.toList = [] := by rw [Lib.toList_data]; simp
theorem nonempty_iff (s : ByteArray) : s.toList.isEmpty = false ↔ s.data.toList ≠ [] := by rw [Lib.toList_data]; cases s.data.toList <;> simp
theorem head_get (s : ByteArray) (h : 0 < s.size) : s.data.toList = s[0] :: s.data.toList.tail := by
  have : s.data.toList ≠ [] := fun e => by rw [← size_len, e] at h; simp at h
  obtain ⟨c, l, e⟩ := List.exists_cons_of_ne_nil this
  have h0 : s[0] = s.data.toList[0]'(by rw [size_len]; exact h) := by rw [ByteArray.getElem_eq_getElem_data]; simp
  rw [h0]
  simp only [e, List.getElem_cons_zero, List.tail_cons]

/-- the pieces of s between bytes c -/
def splitS (s : ByteArray) (c : UInt8) : List ByteArray := Lib.splitB ⟨#[c]⟩ 0 (Lib.countB s ⟨#[c]⟩) s
theorem one_le (c : UInt8) : 1 ≤ (⟨#[c]⟩ : ByteArray).size := by simp [ByteArray.size]
theorem splitS_length (s : ByteArray) (c : UInt8) : (splitS s c).length = Lib.countB s ⟨#[c]⟩ + 1 := Lib.splitB_all ⟨#[c]⟩ (one_le c) 0 _ s rfl
theorem splitS_data (s : ByteArray) (c : UInt8) : (splitS s c).map (·.data.toList) = Lib.split s.data.toList [c] := by
  unfold splitS Lib.split
  rw [Lib.splitB_data]
theorem splitB_size (sep : ByteArray) : ∀ (k : Nat) (s x : ByteArray), x ∈ Lib.splitB sep 0 k s → x.size ≤ s.size
  | 0, s, x, h => by simp [Lib.splitB] at h; subst h; exact Nat.le_refl _
  | k + 1, s, x, h => by
    unfold Lib.splitB at h
    split at h
    · simp at h; subst h; exact Nat.le_refl _
    · rcases List.mem_cons.1 h with h | h
      · subst h; rw [ByteArray.size_extract]; omega
      · have := splitB_size sep k _ x h
        rw [ByteArray.size_extract] at this
        omega
theorem splitS_size (s : ByteArray) (c : UInt8) (k : Nat) (h : k < (splitS s c).length) : (splitS s c)[k].size ≤ s.size := splitB_size _ _ _ _ (List.getElem_mem h)
theorem splitS_all (s : ByteArray) (c : UInt8) (p : B → Bool) : (splitS s c).all (fun x => p x.data.toList) = (Lib.split s.data.toList [c]).all p := by
  rw [← splitS_data, List.all_map]; rfl

def numOk (n : Int) : Bool := decide (0 ≤ n) && decide (n ≤ 999999)
/-- the error of a version -/
def verr (a b c : Int) (s : ByteArray) : Int :=
  if numOk a && numOk b && numOk c then (if s.toList.isEmpty || earlyS s then 0 else 2) else 3
/-- a version's text -/
def vtextL (a b c : Int) (s : B) : B :=
  Lib.itoa a ++ [46] ++ Lib.itoa b ++ [46] ++ Lib.itoa c ++ (if s.isEmpty then [] else 45 :: s)
end P
end Go.Proofs.Ytopflnpkfgokoaa
