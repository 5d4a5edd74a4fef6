/- A map from strings to things of the call's own, as a partial function: what its look-up with 'ok' and its store do. No program stands here. -/
import Derived.Maps.OwnIn
import Derived.Maps.OwnSet
import Derived.Maps.Views
import Derived.Test.YtkibmoekadmjnaaGreatDoorZPure

namespace Go.Proofs.YtkibmoekadmjnaaGreatDoor
open Go.Maps Go.WideShapes Go.WideMaps

/-- how things lie as values, and read as data -/
structure Coded (α : Type) where
  enc : α → Value
  code : α → DataW Unit
  R : Value → Option (DataW Unit × List MemPlace)
  reads : ∀ x, R (enc x) = some (code x, [])
  inv : ∀ v z, R v = some z → ∃ x, v = enc x ∧ z.1 = code x
  inj : ∀ x y, code x = code y → x = y

theorem bytes_inj {a b : ByteArray} (h : a.data.toList = b.data.toList) : a = b := ByteArray.ext (Array.toList_inj.1 h)

def readSt : Value → Option (DataW Unit × List MemPlace)
  | .agg cs => match cs.toList with
    | [.string a, .string b] => some (.agg [.lit (.string a.data.toList), .lit (.string b.data.toList)], [])
    | _ => none
  | _ => none
def codedSt : Coded P.St where
  enc x := .agg #[.string x.k, .string x.v]
  code x := .agg [.lit (.string x.k.data.toList), .lit (.string x.v.data.toList)]
  R := readSt
  reads x := rfl
  inv v z h := by
    unfold readSt at h
    split at h
    · split at h
      · rename_i cs _ a b hc
        cases h
        refine ⟨⟨a, b⟩, ?_, rfl⟩
        rw [show cs = #[.string a, .string b] from Array.toList_inj.1 hc]
      · cases h
    · cases h
  inj x y h := by
    obtain ⟨a, b⟩ := x
    obtain ⟨c, d⟩ := y
    simp only [DataW.agg.injEq, List.cons.injEq, DataW.lit.injEq, Lit.string.injEq, and_true] at h
    rw [bytes_inj h.1, bytes_inj h.2]
def readFi : Value → Option (DataW Unit × List MemPlace)
  | .agg cs => match cs.toList with
    | [.string a, .string b, .bool c] => some (.agg [.lit (.string a.data.toList), .lit (.string b.data.toList), .lit (.bool c)], [])
    | _ => none
  | _ => none
def codedFi : Coded P.Fi where
  enc x := .agg #[.string x.p, .string x.d, .bool x.r]
  code x := .agg [.lit (.string x.p.data.toList), .lit (.string x.d.data.toList), .lit (.bool x.r)]
  R := readFi
  reads x := rfl
  inv v z h := by
    unfold readFi at h
    split at h
    · split at h
      · rename_i cs _ a b c hc
        cases h
        refine ⟨⟨a, b, c⟩, ?_, rfl⟩
        rw [show cs = #[.string a, .string b, .bool c] from Array.toList_inj.1 hc]
      · cases h
    · cases h
  inj x y h := by
    obtain ⟨a, b, c⟩ := x
    obtain ⟨a', b', c'⟩ := y
    simp only [DataW.agg.injEq, List.cons.injEq, DataW.lit.injEq, Lit.string.injEq, Lit.bool.injEq, and_true] at h
    rw [bytes_inj h.1, bytes_inj h.2.1, h.2.2]
def readSv : Value → Option (DataW Unit × List MemPlace)
  | .agg cs => match cs.toList with
    | [.string a, .string b, .bool c, .bool d] => some (.agg [.lit (.string a.data.toList), .lit (.string b.data.toList), .lit (.bool c), .lit (.bool d)], [])
    | _ => none
  | _ => none
def codedSv : Coded P.Sv where
  enc x := .agg #[.string x.n, .string x.p, .bool x.a, .bool x.o]
  code x := .agg [.lit (.string x.n.data.toList), .lit (.string x.p.data.toList), .lit (.bool x.a), .lit (.bool x.o)]
  R := readSv
  reads x := rfl
  inv v z h := by
    unfold readSv at h
    split at h
    · split at h
      · rename_i cs _ a b c d hc
        cases h
        refine ⟨⟨a, b, c, d⟩, ?_, rfl⟩
        rw [show cs = #[.string a, .string b, .bool c, .bool d] from Array.toList_inj.1 hc]
      · cases h
    · cases h
  inj x y h := by
    obtain ⟨a, b, c, d⟩ := x
    obtain ⟨a', b', c', d'⟩ := y
    simp only [DataW.agg.injEq, List.cons.injEq, DataW.lit.injEq, Lit.string.injEq, Lit.bool.injEq, and_true] at h
    rw [bytes_inj h.1, bytes_inj h.2.1, h.2.2.1, h.2.2.2]

/-- Block B is a map of at most n entries that holds what g says. -/
def FMap {α : Type} (C : Coded α) (z : α) (P : Program) (K : TypeId) (W : World) (B n : Nat) (g : ByteArray → Option α) : Prop :=
  ∃ D : DataW Unit, W.ownsMap P K C.R B n D ∧ ∀ s : ByteArray, s.size ≤ maxLen → D.atKey (.string s.data.toList) (C.code z) = C.code ((g s).getD z) ∧ Maps.has D (.string s.data.toList) = (g s).isSome

variable {α : Type} {C : Coded α} {z : α} {P : Program} {K : TypeId} {W : World} {B n : Nat} {g : ByteArray → Option α}
theorem FMap.made (C : Coded α) (z : α) (P : Program) (K : TypeId) (w : World) : FMap C z P K (w.alloc (.map #[] 0)) w.heap.size 0 (fun _ => none) :=
  ⟨_, World.ownsMap_made w P K _, fun s _ => ⟨atKey_of_not_has (by rfl) _, rfl⟩⟩
theorem FMap.kept {W' : World} {row : Option Nat} (h : FMap C z P K W B n g) (hg : W.grownBy W' row) (hne : some B ≠ row) : FMap C z P K W' B n g :=
  let ⟨D, h1, h2⟩ := h; ⟨D, h1.kept hg hne, h2⟩
theorem FMap.alloc (h : FMap C z P K W B n g) (o : Obj) : FMap C z P K (W.alloc o) B n g := let ⟨D, h1, h2⟩ := h; ⟨D, h1.alloc o, h2⟩
theorem FMap.drew (h : FMap C z P K W B n g) : FMap C z P K W.drew B n g := let ⟨D, h1, h2⟩ := h; ⟨D, h1.drew, h2⟩
theorem FMap.mono (h : FMap C z P K W B n g) {n' : Nat} (hn : n ≤ n') : FMap C z P K W B n' g := let ⟨D, h1, h2⟩ := h; ⟨D, h1.mono hn, h2⟩
theorem FMap.lt (h : FMap C z P K W B n g) : B < W.heap.size := let ⟨_, h1, _⟩ := h; h1.lt
theorem FMap.below {W' : World} (h : FMap C z P K W B n g) {m : Nat} (hb : RowKit.Below m W W') (hm : B < m) : FMap C z P K W' B n g := by
  obtain ⟨D, ⟨es, clock, hB, r⟩, h2⟩ := h
  exact ⟨D, ⟨es, clock, (hb.block _ hm).trans hB, r⟩, h2⟩
theorem FMap.congr {g' : ByteArray → Option α} (h : FMap C z P K W B n g) (e : ∀ s, g s = g' s) : FMap C z P K W B n g' := let ⟨D, h1, h2⟩ := h; ⟨D, h1, fun s hs => by rw [← e]; exact h2 s hs⟩

/-- 'v, ok := m[s]' -/
theorem FMap.look {t e : TypeId} (h : FMap C z P K W B n g) (hk : P.underlying K = some .string) (ht : P.underlying t = some (.map K e)) (hz : (zeroValue e).run P W = .ok (C.enc z) W) {s : ByteArray} (hs : s.size ≤ maxLen) :
    (Instr.lookup t (.map (some B)) (.string s) true).run P W = .ok (.tuple #[C.enc ((g s).getD z), .bool (g s).isSome]) W := by
  obtain ⟨D, h1, h2⟩ := h
  obtain ⟨v, ps, hrun, hv⟩ := h1.look_ok (string_keyed hk) ht hz (C.reads z) (keyOf_string_mk hk hs)
  obtain ⟨x, rfl, hx⟩ := C.inv _ _ hv
  rw [(h2 s hs).2] at hrun
  have := C.inj _ _ ((h2 s hs).1.symm.trans hx)
  rw [this]; exact hrun
/-- 'm[s] = x' -/
theorem FMap.put {t e : TypeId} (h : FMap C z P K W B n g) (hk : P.underlying K = some .string) (ht : P.underlying t = some (.map K e)) (hn : n < maxLen) {s : ByteArray} (hs : s.size ≤ maxLen) (x : α) :
    ∃ W', (Instr.mapUpdate t (.map (some B)) (.string s) (C.enc x)).run P W = .ok () W' ∧ FMap C z P K W' B (n + 1) (fun y => if y = s then some x else g y) ∧ W.grownBy W' (some B) := by
  obtain ⟨D, h1, h2⟩ := h
  obtain ⟨W', hrun, h3, hg⟩ := h1.update (string_keyed hk) ht hn (keyOf_string_mk hk hs) (C.reads x)
  refine ⟨W', hrun, ⟨_, h3, fun y hy => ?_⟩, hg⟩
  dsimp only
  by_cases e : y = s
  · subst e
    rw [if_pos rfl]
    exact ⟨atKey_put_same h1.isMap (by trivial) _ _, has_put_same h1.isMap (by trivial) _⟩
  · rw [if_neg e]
    have hne : Lit.string y.data.toList ≠ Lit.string s.data.toList := fun h => e (bytes_inj (by injection h))
    exact ⟨(atKey_put_other hne _ _).trans (h2 y hy).1, (has_put_other hne _).trans (h2 y hy).2⟩

namespace P
/-- the last thing of the list with this key -/
def getK {α : Type} (key : α → ByteArray) (L : List α) (s : ByteArray) : Option α := (L.filter (fun y => decide (key y = s))).getLast?
theorem getK_nil {α : Type} (key : α → ByteArray) (s : ByteArray) : getK key [] s = none := rfl
theorem getK_succ {α : Type} (key : α → ByteArray) (L : List α) {k : Nat} (hk : k < L.length) (s : ByteArray) : (if s = key L[k] then some L[k] else getK key (L.take k) s) = getK key (L.take (k + 1)) s := by
  unfold getK
  rw [List.take_succ_eq_append_getElem hk, List.filter_append]
  by_cases e : s = key L[k]
  · rw [if_pos e, e]; simp
  · have e' : ¬ key L[k] = s := fun h => e h.symm
    rw [if_neg e]; simp [e']
end P
end Go.Proofs.YtkibmoekadmjnaaGreatDoor
