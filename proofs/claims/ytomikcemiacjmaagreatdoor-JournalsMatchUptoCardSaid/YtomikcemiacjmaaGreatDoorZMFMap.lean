/- A map from strings to things of the call's own, as a partial function: what its look-up with 'ok' and its store do. No program stands here. -/
/- A map from strings of the call's own that holds just the things of a list, by their keys: look-up, store, delete, length, ranging. No program stands here. -/
/- Walks: package disk: the chosen things of a list. -/
/- Walks: package disk: what is missing, what is unlike. -/
import Derived.Maps.OwnIn
import Derived.Maps.OwnSet
import Derived.Maps.Views
import Derived.Test.YtomikcemiacjmaaGreatDoorZPure
import Derived.Sort.KeysCollected
import Derived.Maps.RangeWalk
import Derived.Test.YtomikcemiacjmaaGreatDoorZMCheck

namespace Go.Proofs.YtomikcemiacjmaaGreatDoor
open Go.Maps Go.WideShapes Go.WideMaps

/-- how things lie as values, and read as data -/
structure Coded (α : Type) where
  enc : α → Value
  code : α → DataW Unit
  R : Value → Option (DataW Unit × List MemPlace)
  reads : ∀ x, R (enc x) = some (code x, [])
  inv : ∀ v z, R v = some z → ∃ x, v = enc x ∧ z.1 = code x
  inj : ∀ x y, code x = code y → x = y

theorem bytes_inj {a b : ByteArray} (h : a.data.toList = b.data.toList) : a = b := ByteArray.ext (Array.toList_inj.1 h)

def readSt : Value → Option (DataW Unit × List MemPlace)
  | .agg cs => match cs.toList with
    | [.string a, .string b] => some (.agg [.lit (.string a.data.toList), .lit (.string b.data.toList)], [])
    | _ => none
  | _ => none
def readFi : Value → Option (DataW Unit × List MemPlace)
  | .agg cs => match cs.toList with
    | [.string a, .string b, .bool c] => some (.agg [.lit (.string a.data.toList), .lit (.string b.data.toList), .lit (.bool c)], [])
    | _ => none
  | _ => none
def codedFi : Coded P.Fi where
  enc x := .agg #[.string x.p, .string x.d, .bool x.r]
  code x := .agg [.lit (.string x.p.data.toList), .lit (.string x.d.data.toList), .lit (.bool x.r)]
  R := readFi
  reads x := rfl
  inv v z h := by
    unfold readFi at h
    split at h
    · split at h
      · rename_i cs _ a b c hc
        cases h
        refine ⟨⟨a, b, c⟩, ?_, rfl⟩
        rw [show cs = #[.string a, .string b, .bool c] from Array.toList_inj.1 hc]
      · cases h
    · cases h
  inj x y h := by
    obtain ⟨a, b, c⟩ := x
    obtain ⟨a', b', c'⟩ := y
    simp only [DataW.agg.injEq, List.cons.injEq, DataW.lit.injEq, Lit.string.injEq, Lit.bool.injEq, and_true] at h
    rw [bytes_inj h.1, bytes_inj h.2.1, h.2.2]
def readSv : Value → Option (DataW Unit × List MemPlace)
  | .agg cs => match cs.toList with
    | [.string a, .string b, .bool c, .bool d] => some (.agg [.lit (.string a.data.toList), .lit (.string b.data.toList), .lit (.bool c), .lit (.bool d)], [])
    | _ => none
  | _ => none
def codedSv : Coded P.Sv where
  enc x := .agg #[.string x.n, .string x.p, .bool x.a, .bool x.o]
  code x := .agg [.lit (.string x.n.data.toList), .lit (.string x.p.data.toList), .lit (.bool x.a), .lit (.bool x.o)]
  R := readSv
  reads x := rfl
  inv v z h := by
    unfold readSv at h
    split at h
    · split at h
      · rename_i cs _ a b c d hc
        cases h
        refine ⟨⟨a, b, c, d⟩, ?_, rfl⟩
        rw [show cs = #[.string a, .string b, .bool c, .bool d] from Array.toList_inj.1 hc]
      · cases h
    · cases h
  inj x y h := by
    obtain ⟨a, b, c, d⟩ := x
    obtain ⟨a', b', c', d'⟩ := y
    simp only [DataW.agg.injEq, List.cons.injEq, DataW.lit.injEq, Lit.string.injEq, Lit.bool.injEq, and_true] at h
    rw [bytes_inj h.1, bytes_inj h.2.1, h.2.2.1, h.2.2.2]

/-- Block B is a map of at most n entries that holds what g says. -/
def FMap {α : Type} (C : Coded α) (z : α) (P : Program) (K : TypeId) (W : World) (B n : Nat) (g : ByteArray → Option α) : Prop :=
  ∃ D : DataW Unit, W.ownsMap P K C.R B n D ∧ ∀ s : ByteArray, s.size ≤ maxLen → D.atKey (.string s.data.toList) (C.code z) = C.code ((g s).getD z) ∧ Maps.has D (.string s.data.toList) = (g s).isSome

variable {α : Type} {C : Coded α} {z : α} {P : Program} {K : TypeId} {W : World} {B n : Nat} {g : ByteArray → Option α}
theorem FMap.made (C : Coded α) (z : α) (P : Program) (K : TypeId) (w : World) : FMap C z P K (w.alloc (.map #[] 0)) w.heap.size 0 (fun _ => none) :=
  ⟨_, World.ownsMap_made w P K _, fun s _ => ⟨atKey_of_not_has (by rfl) _, rfl⟩⟩
theorem FMap.kept {W' : World} {row : Option Nat} (h : FMap C z P K W B n g) (hg : W.grownBy W' row) (hne : some B ≠ row) : FMap C z P K W' B n g :=
  let ⟨D, h1, h2⟩ := h; ⟨D, h1.kept hg hne, h2⟩
theorem FMap.alloc (h : FMap C z P K W B n g) (o : Obj) : FMap C z P K (W.alloc o) B n g := let ⟨D, h1, h2⟩ := h; ⟨D, h1.alloc o, h2⟩
theorem FMap.drew (h : FMap C z P K W B n g) : FMap C z P K W.drew B n g := let ⟨D, h1, h2⟩ := h; ⟨D, h1.drew, h2⟩
theorem FMap.mono (h : FMap C z P K W B n g) {n' : Nat} (hn : n ≤ n') : FMap C z P K W B n' g := let ⟨D, h1, h2⟩ := h; ⟨D, h1.mono hn, h2⟩
theorem FMap.lt (h : FMap C z P K W B n g) : B < W.heap.size := let ⟨_, h1, _⟩ := h; h1.lt
theorem FMap.below {W' : World} (h : FMap C z P K W B n g) {m : Nat} (hb : RowKit.Below m W W') (hm : B < m) : FMap C z P K W' B n g := by
  obtain ⟨D, ⟨es, clock, hB, r⟩, h2⟩ := h
  exact ⟨D, ⟨es, clock, (hb.block _ hm).trans hB, r⟩, h2⟩
theorem FMap.congr {g' : ByteArray → Option α} (h : FMap C z P K W B n g) (e : ∀ s, g s = g' s) : FMap C z P K W B n g' := let ⟨D, h1, h2⟩ := h; ⟨D, h1, fun s hs => by rw [← e]; exact h2 s hs⟩

namespace P
end P
end Go.Proofs.YtomikcemiacjmaaGreatDoor

namespace Go.Proofs.YtomikcemiacjmaaGreatDoor
open Go.Maps Go.WideShapes Go.WideMaps

def readStr : Value → Option (DataW Unit × List MemPlace)
  | .string a => some (.lit (.string a.data.toList), [])
  | _ => none
def codedStr : Coded ByteArray where
  enc x := .string x
  code x := .lit (.string x.data.toList)
  R := readStr
  reads x := rfl
  inv v z h := by
    unfold readStr at h
    split at h
    · cases h; exact ⟨_, rfl, rfl⟩
    · cases h
  inj x y h := by
    simp only [DataW.lit.injEq, Lit.string.injEq] at h
    exact bytes_inj h

section
variable {α β : Type}
/-- the datum holds just the things of L -/
def Rep (C : Coded β) (z : β) (key : α → ByteArray) (val : α → β) (D : DataW Unit) (L : List α) : Prop :=
  Maps.size D = L.length ∧ ∀ s : ByteArray, s.size ≤ maxLen → D.atKey (.string s.data.toList) (C.code z) = C.code (((P.findK key L s).map val).getD z) ∧ Maps.has D (.string s.data.toList) = (P.findK key L s).isSome
/-- block B is a map that holds just the things of L -/
def LMap (C : Coded β) (z : β) (key : α → ByteArray) (val : α → β) (Pr : Program) (K : TypeId) (W : World) (B : Nat) (L : List α) : Prop :=
  ∃ D : DataW Unit, W.ownsMap Pr K C.R B L.length D ∧ Rep C z key val D L
/-- .. and the iterator r has given the keys ss -/
def LRange (C : Coded β) (z : β) (key : α → ByteArray) (val : α → β) (Pr : Program) (K : TypeId) (W : World) (B r : Nat) (L : List α) (ss : List (List UInt8)) : Prop :=
  ∃ (D : DataW Unit) (left : Lit → Bool) (cnt : Nat), W.ranges Pr K C.R B r L.length D left cnt ∧ Rep C z key val D L ∧ Collected D left ss ∧ ss.length + cnt ≤ L.length

variable {C : Coded β} {z : β} {key : α → ByteArray} {val : α → β} {Pr : Program} {K : TypeId} {W : World} {B r : Nat} {L : List α} {ss : List (List UInt8)}

theorem ownsMap_tight {n : Nat} {R : Value → Option (DataW Unit × List MemPlace)} {D : DataW Unit} (h : W.ownsMap Pr K R B n D) : W.ownsMap Pr K R B (Maps.size D) D := by
  obtain ⟨es, clock, hb, F, hs, rfl⟩ := h
  exact ⟨es, clock, hb, F, by simp [Maps.size, length_sorted], rfl⟩
theorem Rep.nil : Rep C z key val (.map []) [] := ⟨rfl, fun s _ => ⟨atKey_of_not_has (by rfl) _, rfl⟩⟩
theorem LMap.made (C : Coded β) (z : β) (key : α → ByteArray) (val : α → β) (Pr : Program) (K : TypeId) (w : World) : LMap C z key val Pr K (w.alloc (.map #[] 0)) w.heap.size [] :=
  ⟨_, World.ownsMap_made w Pr K _, Rep.nil⟩
theorem LMap.kept {W' : World} {row : Option Nat} (h : LMap C z key val Pr K W B L) (hg : W.grownBy W' row) (hne : some B ≠ row) : LMap C z key val Pr K W' B L := let ⟨D, h1, h2⟩ := h; ⟨D, h1.kept hg hne, h2⟩
theorem LMap.alloc (h : LMap C z key val Pr K W B L) (o : Obj) : LMap C z key val Pr K (W.alloc o) B L := let ⟨D, h1, h2⟩ := h; ⟨D, h1.alloc o, h2⟩
theorem LMap.drew (h : LMap C z key val Pr K W B L) : LMap C z key val Pr K W.drew B L := let ⟨D, h1, h2⟩ := h; ⟨D, h1.drew, h2⟩
theorem LMap.lt (h : LMap C z key val Pr K W B L) : B < W.heap.size := let ⟨_, h1, _⟩ := h; h1.lt
theorem LMap.below {W' : World} (h : LMap C z key val Pr K W B L) {m : Nat} (hb : RowKit.Below m W W') (hm : B < m) : LMap C z key val Pr K W' B L := by
  obtain ⟨D, ⟨es, clock, hB, r⟩, h2⟩ := h
  exact ⟨D, ⟨es, clock, (hb.block _ hm).trans hB, r⟩, h2⟩
theorem LMap.setCell (h : LMap C z key val Pr K W B L) {a : Addr} (ha : B ≠ a.block) (u : Value) : LMap C z key val Pr K (W.setCell a u) B L := let ⟨D, h1, h2⟩ := h; ⟨D, h1.setCell ha u, h2⟩

/-- 'len(m)' -/
theorem LMap.len {t e : TypeId} (h : LMap C z key val Pr K W B L) (ht : Pr.underlying t = some (.map K e)) (ty : TypeId) : (Builtin.len_ #[t] ty #[.map (some B)]).run Pr W = .ok (.int .i64 L.length) W := by
  obtain ⟨D, h1, h0, _⟩ := h
  rw [← h0]; exact h1.len ht ty
/-- 'delete(m, s)' -/
theorem LMap.drop {t e : TypeId} (h : LMap C z key val Pr K W B L) (hk : Pr.underlying K = some .string) (ht : Pr.underlying t = some (.map K e)) (hr : P.Rising key L) {s : ByteArray} (hs : s.size ≤ maxLen) (ty : TypeId) :
    ∃ W', (Builtin.delete_ #[t, K] ty #[.map (some B), .string s]).run Pr W = .ok (.tuple #[]) W' ∧ LMap C z key val Pr K W' B (P.delK key s L) ∧ W.grownBy W' (some B) := by
  obtain ⟨D, h1, h0, h2⟩ := h
  obtain ⟨W', hrun, h3, hg⟩ := h1.drop (string_keyed hk) ht (keyOf_string_mk hk hs) ty
  have hsz : Maps.size (D.del (.string s.data.toList)) = (P.delK key s L).length := by
    have e1 := size_del (k := .string s.data.toList) (h1.tidy (string_keyed hk))
    have e2 := P.length_del (key := key) (s := s) hr
    rw [(h2 _ hs).2, h0] at e1
    omega
  refine ⟨W', hrun, ⟨_, hsz ▸ ownsMap_tight h3, hsz, fun y hy => ?_⟩, hg.grown⟩
  rw [P.findK_del]
  by_cases e : y = s
  · subst e
    rw [if_pos rfl]
    exact ⟨atKey_del_same _, has_del_same⟩
  · rw [if_neg e]
    have hne : Lit.string y.data.toList ≠ Lit.string s.data.toList := fun h => e (bytes_inj (by injection h))
    exact ⟨(atKey_del_other hne _).trans (h2 y hy).1, (has_del_other hne).trans (h2 y hy).2⟩

theorem LRange.kept {W' : World} {row : Option Nat} (h : LRange C z key val Pr K W B r L ss) (hg : W.grownBy W' row) (hb : some B ≠ row) (hr : some r ≠ row) : LRange C z key val Pr K W' B r L ss :=
  let ⟨D, left, cnt, h1, h2⟩ := h; ⟨D, left, cnt, h1.kept hg hb hr, h2⟩
theorem LRange.alloc (h : LRange C z key val Pr K W B r L ss) (o : Obj) : LRange C z key val Pr K (W.alloc o) B r L ss := let ⟨D, left, cnt, h1, h2⟩ := h; ⟨D, left, cnt, h1.alloc o, h2⟩
theorem LRange.lt (h : LRange C z key val Pr K W B r L ss) : r < W.heap.size := let ⟨_, _, _, h1, _⟩ := h; h1.lt
theorem LRange.length_le (h : LRange C z key val Pr K W B r L ss) : ss.length ≤ L.length := by obtain ⟨_, _, cnt, _, _, _, h4⟩ := h; omega
theorem LRange.below {W' : World} (h : LRange C z key val Pr K W B r L ss) {m : Nat} (hb : RowKit.Below m W W') (hB : B < m) (hr : r < m) : LRange C z key val Pr K W' B r L ss := by
  obtain ⟨D, left, cnt, ⟨es, clock, since, seen, c0, e1, e2, e3, e4, e5, e6⟩, h2⟩ := h
  exact ⟨D, left, cnt, ⟨es, clock, since, seen, c0, (hb.block _ hB).trans e1, e2, e3, e4, (hb.block _ hr).trans e5, e6⟩, h2⟩

end

section
variable {α β : Type} {C : Coded β} {z : β} {key : α → ByteArray} {val : α → β} {K : TypeId} {B r : Nat} {L : List α} {ss : List (List UInt8)}
variable {Pr : Program} (w : World) {ops : Array Oper} {rest : List Oper} {o : Oper} {a : Act} {Q : Exit → Act → World → Prop}

end
end Go.Proofs.YtomikcemiacjmaaGreatDoor

namespace Go.Proofs.YtomikcemiacjmaaGreatDoor
open Go.RowKit Go.Shelf

theorem own_below {W W' : World} {base : Nat} {e : TypeId} {size n : Nat} {v : Value} {xs : List Value} (h : W.ownsRow base e size v n xs) (hb : Below W.heap.size W W') : W'.ownsRow base e size v n xs := by
  obtain ⟨hl, hv⟩ := h
  refine ⟨hl, hv.imp id ?_⟩
  rintro ⟨g, cap, cur, e1, e2, e3, r⟩
  exact ⟨g, cap, cur, e1, e2, (hb.block g (Array.getElem?_eq_some_iff.1 e3).1).trans e3, r⟩
theorem own_ge {W : World} {base : Nat} {e : TypeId} {size n : Nat} {v : Value} {xs : List Value} (h : W.ownsRow base e size v n xs) : ∀ k, v.ownBlock = some k → base ≤ k := by
  obtain ⟨_, ⟨rfl, _⟩ | ⟨g, cap, cur, rfl, hg, _⟩⟩ := h
  · intro k e; cases e
  · intro k e; injection e with e; subst e; exact hg
theorem cells_new (W : World) (vs : List Value) (t : TypeId) : ∀ j u, vs[j]? = some u → (W.alloc (.cells vs.toArray t)).cell? ((⟨W.heap.size, 0, none⟩ : Addr).add j) = some u := by
  intro j u h
  have := (HasRow.new W vs.toArray t).cell j
  have e : (⟨W.heap.size, 0, none⟩ : Addr).add j = ⟨W.heap.size, j, none⟩ := by simp [Addr.add]; exact fun h => h.symm
  rw [e, this]; simpa using h
/-- the cells of a list of things -/
def flat {α : Type} (c : α → List Value) (L : List α) : List Value := L.flatMap c
theorem flat_snoc {α : Type} (c : α → List Value) (L : List α) (x : α) : flat c (L ++ [x]) = flat c L ++ c x := by simp [flat]
def cellsS (x : P.St) : List Value := [.string x.k, .string x.v]
theorem info62 : (Tryz.prog.info? 62).map (fun i => (i.zero, i.size, i.bytes)) = some (some (.agg #[.string ⟨#[]⟩, .string ⟨#[]⟩]), 2, 32) := by kernel_rfl
def cellsF (x : P.Fi) : List Value := [.string x.p, .string x.d, .bool x.r]
theorem info42 : (Tryz.prog.info? 42).map (fun i => (i.zero, i.size, i.bytes)) = some (some (.agg #[.string ⟨#[]⟩, .string ⟨#[]⟩, .bool false]), 3, 40) := by kernel_rfl
def cellsV (x : P.Sv) : List Value := [.string x.n, .string x.p, .bool x.a, .bool x.o]
theorem info46 : (Tryz.prog.info? 46).map (fun i => (i.zero, i.size, i.bytes)) = some (some (.agg #[.string ⟨#[]⟩, .string ⟨#[]⟩, .bool false, .bool false]), 4, 40) := by kernel_rfl
end Go.Proofs.YtomikcemiacjmaaGreatDoor

namespace Go.Proofs.YtomikcemiacjmaaGreatDoor
open Go.RowKit Go.Shelf

theorem own_base {W : World} {base base' : Nat} {e : TypeId} {size n : Nat} {v : Value} {xs : List Value} (h : W.ownsRow base e size v n xs) (hb : base' ≤ base) : W.ownsRow base' e size v n xs := by
  obtain ⟨hl, hv⟩ := h
  refine ⟨hl, hv.imp id ?_⟩
  rintro ⟨g, cap, cur, e1, e2, r⟩
  exact ⟨g, cap, cur, e1, Nat.le_trans hb e2, r⟩

namespace P
end P
namespace P
end P
namespace P
end P
end Go.Proofs.YtomikcemiacjmaaGreatDoor
