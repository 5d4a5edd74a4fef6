/- A map from strings to bools of the call's own, as a set of strings: look-up and store at the operation, in the open and inside a fence. No program stands here. -/
import Derived.Maps.OwnIn
import Derived.Maps.OwnOps
import Derived.Maps.Views

namespace Go.Proofs.YtgdpbdgaldiggaaGreatDoor
open Go.Maps Go.WideShapes Go.WideMaps

/-- Block B is a map of at most n entries in which just the strings of q read true (K, E: the types of its keys and elements). -/
def SetMap (P : Program) (K E : TypeId) (W : World) (B n : Nat) (q : ByteArray → Bool) : Prop :=
  ∃ D : DataW Unit, W.ownsMap P K (plainElem P E) B n D ∧ ∀ s : ByteArray, s.size ≤ maxLen → D.atKey (.string s.data.toList) (.lit (.bool false)) = .lit (.bool (q s))

variable {P : Program} {K E : TypeId} {W : World} {B n : Nat} {q : ByteArray → Bool}

theorem plainElem_bool_inv {e : TypeId} (he : P.underlying e = some .bool) {v : Value} {z : DataW Unit × List MemPlace} (h : plainElem P e v = some z) : ∃ x, v = .bool x ∧ z = (.lit (.bool x), []) := by
  unfold plainElem at h
  rw [he] at h
  cases v <;> simp at h
  subst h
  exact ⟨_, rfl, rfl⟩

theorem SetMap.made (P : Program) (K E : TypeId) (w : World) : SetMap P K E (w.alloc (.map #[] 0)) w.heap.size 0 (fun _ => false) :=
  ⟨_, World.ownsMap_made w P K _, fun s _ => atKey_of_not_has (by rfl) _⟩
theorem SetMap.kept {W' : World} {row : Option Nat} (h : SetMap P K E W B n q) (hg : W.grownBy W' row) (hne : some B ≠ row) : SetMap P K E W' B n q :=
  let ⟨D, h1, h2⟩ := h; ⟨D, h1.kept hg hne, h2⟩
theorem SetMap.alloc (h : SetMap P K E W B n q) (o : Obj) : SetMap P K E (W.alloc o) B n q := let ⟨D, h1, h2⟩ := h; ⟨D, h1.alloc o, h2⟩
theorem SetMap.drew (h : SetMap P K E W B n q) : SetMap P K E W.drew B n q := let ⟨D, h1, h2⟩ := h; ⟨D, h1.drew, h2⟩
theorem SetMap.mono (h : SetMap P K E W B n q) {n' : Nat} (hn : n ≤ n') : SetMap P K E W B n' q := let ⟨D, h1, h2⟩ := h; ⟨D, h1.mono hn, h2⟩
theorem SetMap.lt (h : SetMap P K E W B n q) : B < W.heap.size := let ⟨_, h1, _⟩ := h; h1.lt
theorem SetMap.setCell (h : SetMap P K E W B n q) {a : Addr} (ha : B ≠ a.block) (u : Value) : SetMap P K E (W.setCell a u) B n q := let ⟨D, h1, h2⟩ := h; ⟨D, h1.setCell ha u, h2⟩
/-- it stands wherever all that lay has stayed -/
theorem SetMap.below {W' : World} (h : SetMap P K E W B n q) {m : Nat} (hb : RowKit.Below m W W') (hm : B < m) : SetMap P K E W' B n q := by
  obtain ⟨D, ⟨es, clock, hB, r⟩, h2⟩ := h
  exact ⟨D, ⟨es, clock, (hb.block _ hm).trans hB, r⟩, h2⟩
theorem SetMap.congr {q' : ByteArray → Bool} (h : SetMap P K E W B n q) (e : ∀ s, q s = q' s) : SetMap P K E W B n q' := let ⟨D, h1, h2⟩ := h; ⟨D, h1, fun s hs => by rw [← e]; exact h2 s hs⟩

theorem SetMap.look {t : TypeId} (h : SetMap P K E W B n q) (hk : P.underlying K = some .string) (ht : P.underlying t = some (.map K E)) (he : P.underlying E = some .bool) (hz : (zeroValue E).run P W = .ok (.bool false) W) {s : ByteArray} (hs : s.size ≤ maxLen) :
    (Instr.lookup t (.map (some B)) (.string s) false).run P W = .ok (.bool (q s)) W := by
  obtain ⟨D, h1, h2⟩ := h
  obtain ⟨v, ps, hrun, hv⟩ := h1.lookup (string_keyed hk) ht hz (plainElem_bool he false) (keyOf_string_mk hk hs)
  obtain ⟨x, rfl, e⟩ := plainElem_bool_inv he hv
  simp only [Prod.mk.injEq] at e
  rw [h2 s hs] at e
  have : q s = x := by have := e.1; injection this with this; injection this
  rw [this]; exact hrun
theorem SetMap.put {t : TypeId} (h : SetMap P K E W B n q) (hk : P.underlying K = some .string) (ht : P.underlying t = some (.map K E)) (he : P.underlying E = some .bool) (hn : n < maxLen) {s : ByteArray} (hs : s.size ≤ maxLen) :
    ∃ W', (Instr.mapUpdate t (.map (some B)) (.string s) (.bool true)).run P W = .ok () W' ∧ SetMap P K E W' B (n + 1) (fun x => q x || decide (x = s)) ∧ W.grownBy W' (some B) := by
  obtain ⟨D, h1, h2⟩ := h
  obtain ⟨W', hrun, h3, hg⟩ := h1.update (string_keyed hk) ht hn (keyOf_string_mk hk hs) (plainElem_bool he true)
  refine ⟨W', hrun, ⟨_, h3, fun x hx => ?_⟩, hg⟩
  by_cases e : x = s
  · subst e
    rw [atKey_put_same h1.isMap (by trivial)]; simp
  · rw [atKey_put_other (by intro h; apply e; injection h with h; exact ByteArray.ext (Array.toList_inj.1 h)), h2 x hx]
    simp [e]

theorem wpList_lookup_set (w : World) {ops : Array Oper} {rest : List Oper} {o : Oper} {a : Act} {Q : Exit → Act → World → Prop}
    (hg : o.guard = none) (m x : Operand) (t : TypeId) (hop : o.op = Op.lookup t m x false)
    (hk : P.underlying K = some .string) (ht : P.underlying t = some (.map K E)) (he : P.underlying E = some .bool) (hz : (zeroValue E).run P w = .ok (.bool false) w) (b n : Nat) (q : ByteArray → Bool)
    (hm : a.eval m = .map (some b)) (h : SetMap P K E w b n q) (s : ByteArray) (hx : a.eval x = .string s) (hs : s.size ≤ maxLen)
    (hK : wpList P ops Q rest (a.put o.dst (.bool (q s))) w) : wpList P ops Q (o :: rest) a w := by
  refine wpList_plain hg fun K' hK' => ?_
  have hrun := h.look hk ht he hz hs
  unfold Oper.wp
  simp [execOp, hop, hm, hx, hrun, Result.andThen]
  exact hK' _ _ hK
theorem wpList_mapUpdate_set (w : World) {ops : Array Oper} {rest : List Oper} {o : Oper} {a : Act} {Q : Exit → Act → World → Prop}
    (hg : o.guard = none) (m x v : Operand) (t : TypeId) (hop : o.op = Op.mapUpdate t m x v)
    (hk : P.underlying K = some .string) (ht : P.underlying t = some (.map K E)) (he : P.underlying E = some .bool) (b n : Nat) (q : ByteArray → Bool)
    (hm : a.eval m = .map (some b)) (h : SetMap P K E w b n q) (hn : n < maxLen) (s : ByteArray) (hx : a.eval x = .string s) (hv : a.eval v = .bool true) (hs : s.size ≤ maxLen)
    (hK : ∀ w', SetMap P K E w' b (n + 1) (fun x => q x || decide (x = s)) → w.grownBy w' (some b) → wpList P ops Q rest (a.put o.dst undef) w') : wpList P ops Q (o :: rest) a w := by
  refine wpList_plain hg fun K' hK' => ?_
  obtain ⟨w', hrun, r1, r2⟩ := h.put hk ht he hn hs
  unfold Oper.wp
  simp [execOp, hop, hm, hx, hv, hrun, Result.andThen]
  exact hK' _ _ (hK w' r1 r2)
theorem wpListIn_lookup_set {F : Fence} {nF : Nat} (w : World) {ops : Array Oper} {rest : List Oper} {o : Oper} {a : Act} {Q : Exit → Act → World → Prop}
    (hg : o.guard = none) (m x : Operand) (t : TypeId) (hop : o.op = Op.lookup t m x false)
    (hk : P.underlying K = some .string) (ht : P.underlying t = some (.map K E)) (he : P.underlying E = some .bool) (hz : (zeroValue E).run P w = .ok (.bool false) w) (b n : Nat) (q : ByteArray → Bool)
    (hm : a.eval m = .map (some b)) (h : SetMap P K E w b n q) (s : ByteArray) (hx : a.eval x = .string s) (hs : s.size ≤ maxLen)
    (hK : wpListIn F nF P ops Q rest (a.put o.dst (.bool (q s))) w) : wpListIn F nF P ops Q (o :: rest) a w := by
  refine wpListIn_plain hg fun K' hK' => ?_
  have hrun := h.look hk ht he hz hs
  unfold Oper.wpIn
  refine ⟨by simp [Oper.about, hop], ?_⟩
  rw [Oper.semAt_plain F _ _ (by rw [hop]; intro c hc'; cases hc')]
  simp [execOp, hop, hm, hx, hrun, Result.andThen]
  exact hK' _ _ hK
theorem wpListIn_mapUpdate_set {F : Fence} {nF : Nat} (w : World) {ops : Array Oper} {rest : List Oper} {o : Oper} {a : Act} {Q : Exit → Act → World → Prop}
    (hg : o.guard = none) (m x v : Operand) (t : TypeId) (hop : o.op = Op.mapUpdate t m x v)
    (hk : P.underlying K = some .string) (ht : P.underlying t = some (.map K E)) (he : P.underlying E = some .bool) (b n : Nat) (q : ByteArray → Bool)
    (hm : a.eval m = .map (some b)) (h : SetMap P K E w b n q) (hn : n < maxLen) (s : ByteArray) (hx : a.eval x = .string s) (hv : a.eval v = .bool true) (hs : s.size ≤ maxLen)
    (hK : ∀ w', SetMap P K E w' b (n + 1) (fun x => q x || decide (x = s)) → w.grownBy w' (some b) → wpListIn F nF P ops Q rest (a.put o.dst undef) w') : wpListIn F nF P ops Q (o :: rest) a w := by
  refine wpListIn_plain hg fun K' hK' => ?_
  obtain ⟨w', hrun, r1, r2⟩ := h.put hk ht he hn hs
  unfold Oper.wpIn
  refine ⟨by simp [Oper.about, hop], ?_⟩
  rw [Oper.semAt_plain F _ _ (by rw [hop]; intro c hc'; cases hc')]
  simp [execOp, hop, hm, hx, hv, hrun, Result.andThen]
  exact hK' _ _ (hK w' r1 r2)
end Go.Proofs.YtgdpbdgaldiggaaGreatDoor
