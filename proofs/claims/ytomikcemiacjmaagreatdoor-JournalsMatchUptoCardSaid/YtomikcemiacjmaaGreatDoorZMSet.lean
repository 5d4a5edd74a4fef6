/- A map from strings to bools of the call's own, as a set of strings: look-up and store at the operation, in the open and inside a fence. No program stands here. -/
/- Walks: package disk: the directories above a path (an iterator), and the closure that looks whether one of them is a file. -/
import Derived.Maps.OwnIn
import Derived.Maps.OwnOps
import Derived.Maps.Views
import Derived.Test.YtomikcemiacjmaaGreatDoorZMNames
import Derived.RangeFuncNested
import Derived.RangeFuncBound
import Derived.RangeFuncCalls
import Derived.RangeFuncLeaves
import Derived.Shelf.RegionOpen
import Derived.OwnWalkIn
import Derived.TacticsInMore
import Derived.LoopNIn
import Derived.LoopIn

namespace Go.Proofs.YtomikcemiacjmaaGreatDoor
open Go.Maps Go.WideShapes Go.WideMaps

/-- Block B is a map of at most n entries in which just the strings of q read true (K, E: the types of its keys and elements). -/
def SetMap (P : Program) (K E : TypeId) (W : World) (B n : Nat) (q : ByteArray → Bool) : Prop :=
  ∃ D : DataW Unit, W.ownsMap P K (plainElem P E) B n D ∧ ∀ s : ByteArray, s.size ≤ maxLen → D.atKey (.string s.data.toList) (.lit (.bool false)) = .lit (.bool (q s))

variable {P : Program} {K E : TypeId} {W : World} {B n : Nat} {q : ByteArray → Bool}

theorem plainElem_bool_inv {e : TypeId} (he : P.underlying e = some .bool) {v : Value} {z : DataW Unit × List MemPlace} (h : plainElem P e v = some z) : ∃ x, v = .bool x ∧ z = (.lit (.bool x), []) := by
  unfold plainElem at h
  rw [he] at h
  cases v <;> simp at h
  subst h
  exact ⟨_, rfl, rfl⟩

theorem SetMap.made (P : Program) (K E : TypeId) (w : World) : SetMap P K E (w.alloc (.map #[] 0)) w.heap.size 0 (fun _ => false) :=
  ⟨_, World.ownsMap_made w P K _, fun s _ => atKey_of_not_has (by rfl) _⟩
theorem SetMap.kept {W' : World} {row : Option Nat} (h : SetMap P K E W B n q) (hg : W.grownBy W' row) (hne : some B ≠ row) : SetMap P K E W' B n q :=
  let ⟨D, h1, h2⟩ := h; ⟨D, h1.kept hg hne, h2⟩
theorem SetMap.alloc (h : SetMap P K E W B n q) (o : Obj) : SetMap P K E (W.alloc o) B n q := let ⟨D, h1, h2⟩ := h; ⟨D, h1.alloc o, h2⟩
theorem SetMap.drew (h : SetMap P K E W B n q) : SetMap P K E W.drew B n q := let ⟨D, h1, h2⟩ := h; ⟨D, h1.drew, h2⟩
theorem SetMap.mono (h : SetMap P K E W B n q) {n' : Nat} (hn : n ≤ n') : SetMap P K E W B n' q := let ⟨D, h1, h2⟩ := h; ⟨D, h1.mono hn, h2⟩
theorem SetMap.lt (h : SetMap P K E W B n q) : B < W.heap.size := let ⟨_, h1, _⟩ := h; h1.lt
theorem SetMap.setCell (h : SetMap P K E W B n q) {a : Addr} (ha : B ≠ a.block) (u : Value) : SetMap P K E (W.setCell a u) B n q := let ⟨D, h1, h2⟩ := h; ⟨D, h1.setCell ha u, h2⟩
/-- it stands wherever all that lay has stayed -/
theorem SetMap.below {W' : World} (h : SetMap P K E W B n q) {m : Nat} (hb : RowKit.Below m W W') (hm : B < m) : SetMap P K E W' B n q := by
  obtain ⟨D, ⟨es, clock, hB, r⟩, h2⟩ := h
  exact ⟨D, ⟨es, clock, (hb.block _ hm).trans hB, r⟩, h2⟩
theorem SetMap.congr {q' : ByteArray → Bool} (h : SetMap P K E W B n q) (e : ∀ s, q s = q' s) : SetMap P K E W B n q' := let ⟨D, h1, h2⟩ := h; ⟨D, h1, fun s hs => by rw [← e]; exact h2 s hs⟩

theorem SetMap.look {t : TypeId} (h : SetMap P K E W B n q) (hk : P.underlying K = some .string) (ht : P.underlying t = some (.map K E)) (he : P.underlying E = some .bool) (hz : (zeroValue E).run P W = .ok (.bool false) W) {s : ByteArray} (hs : s.size ≤ maxLen) :
    (Instr.lookup t (.map (some B)) (.string s) false).run P W = .ok (.bool (q s)) W := by
  obtain ⟨D, h1, h2⟩ := h
  obtain ⟨v, ps, hrun, hv⟩ := h1.lookup (string_keyed hk) ht hz (plainElem_bool he false) (keyOf_string_mk hk hs)
  obtain ⟨x, rfl, e⟩ := plainElem_bool_inv he hv
  simp only [Prod.mk.injEq] at e
  rw [h2 s hs] at e
  have : q s = x := by have := e.1; injection this with this; injection this
  rw [this]; exact hrun
theorem SetMap.put {t : TypeId} (h : SetMap P K E W B n q) (hk : P.underlying K = some .string) (ht : P.underlying t = some (.map K E)) (he : P.underlying E = some .bool) (hn : n < maxLen) {s : ByteArray} (hs : s.size ≤ maxLen) :
    ∃ W', (Instr.mapUpdate t (.map (some B)) (.string s) (.bool true)).run P W = .ok () W' ∧ SetMap P K E W' B (n + 1) (fun x => q x || decide (x = s)) ∧ W.grownBy W' (some B) := by
  obtain ⟨D, h1, h2⟩ := h
  obtain ⟨W', hrun, h3, hg⟩ := h1.update (string_keyed hk) ht hn (keyOf_string_mk hk hs) (plainElem_bool he true)
  refine ⟨W', hrun, ⟨_, h3, fun x hx => ?_⟩, hg⟩
  by_cases e : x = s
  · subst e
    rw [atKey_put_same h1.isMap (by trivial)]; simp
  · rw [atKey_put_other (by intro h; apply e; injection h with h; exact ByteArray.ext (Array.toList_inj.1 h)), h2 x hx]
    simp [e]

theorem wpListIn_lookup_set {F : Fence} {nF : Nat} (w : World) {ops : Array Oper} {rest : List Oper} {o : Oper} {a : Act} {Q : Exit → Act → World → Prop}
    (hg : o.guard = none) (m x : Operand) (t : TypeId) (hop : o.op = Op.lookup t m x false)
    (hk : P.underlying K = some .string) (ht : P.underlying t = some (.map K E)) (he : P.underlying E = some .bool) (hz : (zeroValue E).run P w = .ok (.bool false) w) (b n : Nat) (q : ByteArray → Bool)
    (hm : a.eval m = .map (some b)) (h : SetMap P K E w b n q) (s : ByteArray) (hx : a.eval x = .string s) (hs : s.size ≤ maxLen)
    (hK : wpListIn F nF P ops Q rest (a.put o.dst (.bool (q s))) w) : wpListIn F nF P ops Q (o :: rest) a w := by
  refine wpListIn_plain hg fun K' hK' => ?_
  have hrun := h.look hk ht he hz hs
  unfold Oper.wpIn
  refine ⟨by simp [Oper.about, hop], ?_⟩
  rw [Oper.semAt_plain F _ _ (by rw [hop]; intro c hc'; cases hc')]
  simp [execOp, hop, hm, hx, hrun, Result.andThen]
  exact hK' _ _ hK
theorem wpListIn_mapUpdate_set {F : Fence} {nF : Nat} (w : World) {ops : Array Oper} {rest : List Oper} {o : Oper} {a : Act} {Q : Exit → Act → World → Prop}
    (hg : o.guard = none) (m x v : Operand) (t : TypeId) (hop : o.op = Op.mapUpdate t m x v)
    (hk : P.underlying K = some .string) (ht : P.underlying t = some (.map K E)) (he : P.underlying E = some .bool) (b n : Nat) (q : ByteArray → Bool)
    (hm : a.eval m = .map (some b)) (h : SetMap P K E w b n q) (hn : n < maxLen) (s : ByteArray) (hx : a.eval x = .string s) (hv : a.eval v = .bool true) (hs : s.size ≤ maxLen)
    (hK : ∀ w', SetMap P K E w' b (n + 1) (fun x => q x || decide (x = s)) → w.grownBy w' (some b) → wpListIn F nF P ops Q rest (a.put o.dst undef) w') : wpListIn F nF P ops Q (o :: rest) a w := by
  refine wpListIn_plain hg fun K' hK' => ?_
  obtain ⟨w', hrun, r1, r2⟩ := h.put hk ht he hn hs
  unfold Oper.wpIn
  refine ⟨by simp [Oper.about, hop], ?_⟩
  rw [Oper.semAt_plain F _ _ (by rw [hop]; intro c hc'; cases hc')]
  simp [execOp, hop, hm, hx, hv, hrun, Result.andThen]
  exact hK' _ _ (hK w' r1 r2)
end Go.Proofs.YtomikcemiacjmaaGreatDoor

namespace Go.Proofs.YtomikcemiacjmaaGreatDoor
open Go.RowKit Go.Shelf
attribute [local go_sem] Oper.semAt_some

namespace P
theorem dirsTo_yes {p : ByteArray} {k : Nat} (h : p.data.toList[k]? = some 47) : dirsTo p (k + 1) = dirsTo p k ++ [p.extract 0 k] := by rw [dirsTo, if_pos h]
theorem dirsTo_no {p : ByteArray} {k : Nat} (h : p.data.toList[k]? ≠ some 47) : dirsTo p (k + 1) = dirsTo p k := by rw [dirsTo, if_neg h, List.append_nil]
theorem dirsTo_length (p : ByteArray) (k : Nat) : (dirsTo p k).length ≤ k := by
  induction k with
  | zero => exact Nat.le_refl _
  | succ k ih => rw [dirsTo]; split <;> simp <;> omega
theorem dirsTo_pre (p : ByteArray) : ∀ {k m : Nat}, k ≤ m → dirsTo p k <+: dirsTo p m
  | k, 0, h => by obtain rfl : k = 0 := by omega
                  exact List.prefix_rfl
  | k, m + 1, h => by
    by_cases e : k = m + 1
    · subst e; exact List.prefix_rfl
    · exact (dirsTo_pre p (by omega : k ≤ m)).trans (by rw [dirsTo]; exact List.prefix_append _ _)
end P

/-- texts within the reach -/
abbrev Txt := { s : ByteArray // s.size ≤ 4294967280 }

set_option maxRecDepth 100000 in
set_option maxHeartbeats 2000000 in
theorem above1_in (F : Fence) (n : Nat) (h7 : F.fn 248) (hro : F.round = none) (hn : 1 ≤ n) (l Bs n₀ : Nat) (p : ByteArray) (hs : p.size ≤ 4294967280) (hb : Bs < n₀) (J Jx : List ByteArray → World → Prop)
    (hY : ∀ pre (x : Txt) W, J pre W → pre.length < p.size → YieldAt F (n - 1) Tryz.prog l #[.string x.1] W fun e W' =>
      (e = .returned (.bool true) ∧ J (pre ++ [x.1]) W' ∧ Below n₀ W W') ∨ (e = .returned (.bool false) ∧ Jx (pre ++ [x.1]) W'))
    (W : World) (hBs : W.cell? ⟨Bs, 0, none⟩ = some (.string p)) (h0 : J [] W) :
    CallsIn F n Tryz.prog 248 #[.func (.yield l) #[] #[], .pointer (some ⟨Bs, 0, none⟩)] W fun e W' => (∃ v, e = .returned v) ∧
      (J (P.dirs p) W' ∨ (∃ k, k ≤ p.size ∧ Jx (P.dirsTo p k) W')) := by
  refine callsIn_of_wp Tryz.func248 rfl h7 ?_ hro
  simp only [Tryz.ntmps248, List.size_toArray, List.length_cons, List.length_nil, Nat.reduceAdd, Nat.reduceSub, Array.replicate_succ, Array.replicate_zero, List.push_toArray, List.append_toArray, List.nil_append, List.cons_append]
  gi_wp2
  gi_loopw [6] (fun i wr => ∃ k : Nat, k ≤ p.size ∧ i = .int .i64 k ∧ J (P.dirsTo p k) wr ∧ Below n₀ W wr)
    (fun i _ => p.size - (intOf i).toNat)
  case atStart => exact ⟨0, Nat.zero_le _, rfl, h0, Below.refl _ _⟩
  case round =>
    obtain ⟨k, hk, rfl, hJs, hnx⟩ := hrel
    have hcx : wr.cell? ⟨Bs, 0, none⟩ = some (.string p) := (hnx.cell (p := ⟨Bs, 0, none⟩) hb).trans hBs
    by_cases hlt : k < p.size
    · have hkp : p.data.toList[k]? = some p[k] := by rw [List.getElem?_eq_getElem (by rw [P.size_len]; exact hlt), ByteArray.getElem_eq_getElem_data, Array.getElem_toList]
      by_cases h47 : (p[k].toNat : Int) = 47
      · have hdir : P.dirsTo p (k + 1) = P.dirsTo p k ++ [p.extract 0 k] := P.dirsTo_yes (by rw [hkp]; congr 1; exact UInt8.toNat_inj.1 (show p[k].toNat = 47 by omega))
        obtain ⟨fn, tmps, assign, body, hy, hR⟩ := hY _ ⟨p.extract 0 k, by rw [ByteArray.size_extract]; omega⟩ wr hJs (by have := P.dirsTo_length p k; omega)
        dsimp only at hy
        gi_wp2
        refine hR.mono ?_
        rintro e W3 (⟨rfl, hJ3, hk3⟩ | ⟨rfl, hJx3⟩)
        · gi_wp2
          go_roundw
          case rel => exact ⟨k + 1, by omega, by simp, by rw [hdir]; exact hJ3, hnx.trans hk3⟩
          case measure => simp [intOf]; omega
        · gi_wp2
          refine bodyPost_ret (results_none rfl _ _ _) rfl ?_
          exact ⟨⟨_, rfl⟩, .inr ⟨k + 1, by omega, by rw [hdir]; exact hJx3⟩⟩
      · have hdir : P.dirsTo p (k + 1) = P.dirsTo p k := P.dirsTo_no (by rw [hkp]; intro e; injection e with e; apply h47; rw [e]; rfl)
        have h47' : ((p[k].toNat : Int) == 47) = false := by simpa using h47
        gi_wp2
        refine ⟨fun _ h => (by cases h), ?_⟩
        gi_wp2
        go_roundw
        case rel => exact ⟨k + 1, by omega, by simp, by rw [hdir]; exact hJs, hnx⟩
        case measure => simp [intOf]; omega
    · obtain rfl : k = p.size := by omega
      gi_wp2
      go_end0
      exact ⟨⟨_, rfl⟩, .inl hJs⟩

set_option maxHeartbeats 1000000 in
/-- the path is boxed; the function value captures the box -/
theorem above_in (F : Fence) (n : Nat) (h5 : F.fn 184) (hro : F.round = none) (p : ByteArray) (w : World) :
    CallsIn F n Tryz.prog 184 #[.string p] w fun e w' => e = .returned (.func (.func 248) #[] #[.pointer (some ⟨w.heap.size, 0, none⟩)]) ∧ w' = w.alloc (.cells #[.string p] 9) := by
  refine callsIn_of_wp Tryz.func184 rfl h5 ?_ hro
  simp only [Tryz.ntmps184, List.size_toArray, List.length_cons, List.length_nil, Nat.reduceAdd, Nat.reduceSub, Array.replicate_succ, Array.replicate_zero, List.push_toArray, List.append_toArray, List.nil_append, List.cons_append]
  gi_wp2
  go_ret
  exact ⟨rfl, rfl⟩

theorem above_stops (F : Fence) (n : Nat) (h7 : F.fn 248) (hro : F.round = none) (hn : 1 ≤ n) (Bs n₀ : Nat) (p : ByteArray) (hs : p.size ≤ 4294967280) (w : World) (hB : Bs < n₀) (hn₀ : n₀ ≤ w.heap.size) (hc : w.cell? ⟨Bs, 0, none⟩ = some (.string p)) :
    SeqStopsK F n Tryz.prog 248 #[.pointer (some ⟨Bs, 0, none⟩)] (fun x : Txt => #[Value.string x.1]) (Below n₀) (fun ys => ys.map (·.1) = P.dirs p) (fun pre => ∃ k, k ≤ p.size ∧ pre.map (·.1) = P.dirsTo p k) p.size w := fun l J Jx W hW _ _ hY h0 => by
  refine (above1_in F n h7 hro hn l Bs n₀ p hs hB (fun ds W => ∃ xs : List Txt, xs.map (·.1) = ds ∧ J xs W) (fun ds W => ∃ xs : List Txt, xs.map (·.1) = ds ∧ Jx xs W) ?_ W ((hW.cell (p := ⟨Bs, 0, none⟩) (Nat.lt_of_lt_of_le hB hn₀)).trans hc) ⟨[], rfl, h0⟩).mono ?_
  · rintro pre x W1 ⟨xs, rfl, hJ⟩ hlt
    refine (hY xs x W1 hJ (by simpa using hlt)).mono ?_
    rintro e W' (⟨he, hj, hb⟩ | ⟨he, hj⟩)
    · exact .inl ⟨he, ⟨xs ++ [x], by simp, hj⟩, hb⟩
    · exact .inr ⟨he, ⟨xs ++ [x], by simp, hj⟩⟩
  · rintro e W' ⟨hv, ⟨xs, h1, hj⟩ | ⟨k, hk, xs, h1, hj⟩⟩
    · exact ⟨hv, .inl ⟨xs, h1, hj⟩⟩
    · exact ⟨hv, .inr ⟨xs, ⟨k, hk, h1⟩, hj⟩⟩
end Go.Proofs.YtomikcemiacjmaaGreatDoor
