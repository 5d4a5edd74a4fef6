/- A map from strings of the call's own that holds just the things of a list, by their keys: look-up, store, delete, length, ranging. No program stands here. -/
import Derived.Test.YtkibmoekadmjnaaGreatDoorZMFMap
import Derived.Test.YtkibmoekadmjnaaGreatDoorZMWPure
import Derived.Sort.KeysCollected
import Derived.Maps.RangeWalk

namespace Go.Proofs.YtkibmoekadmjnaaGreatDoor
open Go.Maps Go.WideShapes Go.WideMaps

def readStr : Value → Option (DataW Unit × List MemPlace)
  | .string a => some (.lit (.string a.data.toList), [])
  | _ => none
def codedStr : Coded ByteArray where
  enc x := .string x
  code x := .lit (.string x.data.toList)
  R := readStr
  reads x := rfl
  inv v z h := by
    unfold readStr at h
    split at h
    · cases h; exact ⟨_, rfl, rfl⟩
    · cases h
  inj x y h := by
    simp only [DataW.lit.injEq, Lit.string.injEq] at h
    exact bytes_inj h

section
variable {α β : Type}
/-- the datum holds just the things of L -/
def Rep (C : Coded β) (z : β) (key : α → ByteArray) (val : α → β) (D : DataW Unit) (L : List α) : Prop :=
  Maps.size D = L.length ∧ ∀ s : ByteArray, s.size ≤ maxLen → D.atKey (.string s.data.toList) (C.code z) = C.code (((P.findK key L s).map val).getD z) ∧ Maps.has D (.string s.data.toList) = (P.findK key L s).isSome
/-- block B is a map that holds just the things of L -/
def LMap (C : Coded β) (z : β) (key : α → ByteArray) (val : α → β) (Pr : Program) (K : TypeId) (W : World) (B : Nat) (L : List α) : Prop :=
  ∃ D : DataW Unit, W.ownsMap Pr K C.R B L.length D ∧ Rep C z key val D L
/-- .. and the iterator r has given the keys ss -/
def LRange (C : Coded β) (z : β) (key : α → ByteArray) (val : α → β) (Pr : Program) (K : TypeId) (W : World) (B r : Nat) (L : List α) (ss : List (List UInt8)) : Prop :=
  ∃ (D : DataW Unit) (left : Lit → Bool) (cnt : Nat), W.ranges Pr K C.R B r L.length D left cnt ∧ Rep C z key val D L ∧ Collected D left ss ∧ ss.length + cnt ≤ L.length

variable {C : Coded β} {z : β} {key : α → ByteArray} {val : α → β} {Pr : Program} {K : TypeId} {W : World} {B r : Nat} {L : List α} {ss : List (List UInt8)}

theorem ownsMap_tight {n : Nat} {R : Value → Option (DataW Unit × List MemPlace)} {D : DataW Unit} (h : W.ownsMap Pr K R B n D) : W.ownsMap Pr K R B (Maps.size D) D := by
  obtain ⟨es, clock, hb, F, hs, rfl⟩ := h
  exact ⟨es, clock, hb, F, by simp [Maps.size, length_sorted], rfl⟩
theorem Rep.nil : Rep C z key val (.map []) [] := ⟨rfl, fun s _ => ⟨atKey_of_not_has (by rfl) _, rfl⟩⟩
theorem LMap.made (C : Coded β) (z : β) (key : α → ByteArray) (val : α → β) (Pr : Program) (K : TypeId) (w : World) : LMap C z key val Pr K (w.alloc (.map #[] 0)) w.heap.size [] :=
  ⟨_, World.ownsMap_made w Pr K _, Rep.nil⟩
theorem LMap.kept {W' : World} {row : Option Nat} (h : LMap C z key val Pr K W B L) (hg : W.grownBy W' row) (hne : some B ≠ row) : LMap C z key val Pr K W' B L := let ⟨D, h1, h2⟩ := h; ⟨D, h1.kept hg hne, h2⟩
theorem LMap.alloc (h : LMap C z key val Pr K W B L) (o : Obj) : LMap C z key val Pr K (W.alloc o) B L := let ⟨D, h1, h2⟩ := h; ⟨D, h1.alloc o, h2⟩
theorem LMap.drew (h : LMap C z key val Pr K W B L) : LMap C z key val Pr K W.drew B L := let ⟨D, h1, h2⟩ := h; ⟨D, h1.drew, h2⟩
theorem LMap.lt (h : LMap C z key val Pr K W B L) : B < W.heap.size := let ⟨_, h1, _⟩ := h; h1.lt
theorem LMap.below {W' : World} (h : LMap C z key val Pr K W B L) {m : Nat} (hb : RowKit.Below m W W') (hm : B < m) : LMap C z key val Pr K W' B L := by
  obtain ⟨D, ⟨es, clock, hB, r⟩, h2⟩ := h
  exact ⟨D, ⟨es, clock, (hb.block _ hm).trans hB, r⟩, h2⟩
theorem LMap.setCell (h : LMap C z key val Pr K W B L) {a : Addr} (ha : B ≠ a.block) (u : Value) : LMap C z key val Pr K (W.setCell a u) B L := let ⟨D, h1, h2⟩ := h; ⟨D, h1.setCell ha u, h2⟩

/-- 'v, ok := m[s]' -/
theorem LMap.look {t e : TypeId} (h : LMap C z key val Pr K W B L) (hk : Pr.underlying K = some .string) (ht : Pr.underlying t = some (.map K e)) (hz : (zeroValue e).run Pr W = .ok (C.enc z) W) {s : ByteArray} (hs : s.size ≤ maxLen) :
    (Instr.lookup t (.map (some B)) (.string s) true).run Pr W = .ok (.tuple #[C.enc (((P.findK key L s).map val).getD z), .bool (P.findK key L s).isSome]) W := by
  obtain ⟨D, h1, _, h2⟩ := h
  obtain ⟨v, ps, hrun, hv⟩ := h1.look_ok (string_keyed hk) ht hz (C.reads z) (keyOf_string_mk hk hs)
  obtain ⟨x, rfl, hx⟩ := C.inv _ _ hv
  rw [(h2 s hs).2] at hrun
  have := C.inj _ _ ((h2 s hs).1.symm.trans hx)
  rw [this]; exact hrun
/-- 'm[s]' -/
theorem LMap.get {t e : TypeId} (h : LMap C z key val Pr K W B L) (hk : Pr.underlying K = some .string) (ht : Pr.underlying t = some (.map K e)) (hz : (zeroValue e).run Pr W = .ok (C.enc z) W) {s : ByteArray} (hs : s.size ≤ maxLen) :
    (Instr.lookup t (.map (some B)) (.string s) false).run Pr W = .ok (C.enc (((P.findK key L s).map val).getD z)) W := by
  obtain ⟨D, h1, _, h2⟩ := h
  obtain ⟨v, ps, hrun, hv⟩ := h1.lookup (string_keyed hk) ht hz (C.reads z) (keyOf_string_mk hk hs)
  obtain ⟨x, rfl, hx⟩ := C.inv _ _ hv
  have := C.inj _ _ ((h2 s hs).1.symm.trans hx)
  rw [this]; exact hrun
/-- 'm[key x] = val x' -/
theorem LMap.put {t e : TypeId} (h : LMap C z key val Pr K W B L) (hk : Pr.underlying K = some .string) (ht : Pr.underlying t = some (.map K e)) (hr : P.Rising key L) (hn : L.length < maxLen) (x : α) (hs : (key x).size ≤ maxLen) :
    ∃ W', (Instr.mapUpdate t (.map (some B)) (.string (key x)) (C.enc (val x))).run Pr W = .ok () W' ∧ LMap C z key val Pr K W' B (P.insK key x L) ∧ W.grownBy W' (some B) := by
  obtain ⟨D, h1, h0, h2⟩ := h
  obtain ⟨W', hrun, h3, hg⟩ := h1.update (string_keyed hk) ht hn (keyOf_string_mk hk hs) (C.reads (val x))
  have hsz : Maps.size (D.put (.string (key x).data.toList) (C.code (val x))) = (P.insK key x L).length := by
    rw [size_put (h1.tidy (string_keyed hk)), (h2 _ hs).2, h0, P.length_ins hr]
  refine ⟨W', hrun, ⟨_, hsz ▸ ownsMap_tight h3, hsz, fun y hy => ?_⟩, hg⟩
  rw [P.findK_ins]
  by_cases e : y = key x
  · subst e
    rw [if_pos rfl]
    exact ⟨atKey_put_same h1.isMap (by trivial) _ _, has_put_same h1.isMap (by trivial) _⟩
  · rw [if_neg e]
    have hne : Lit.string y.data.toList ≠ Lit.string (key x).data.toList := fun h => e (bytes_inj (by injection h))
    exact ⟨(atKey_put_other hne _ _).trans (h2 y hy).1, (has_put_other hne _).trans (h2 y hy).2⟩
/-- 'len(m)' -/
theorem LMap.len {t e : TypeId} (h : LMap C z key val Pr K W B L) (ht : Pr.underlying t = some (.map K e)) (ty : TypeId) : (Builtin.len_ #[t] ty #[.map (some B)]).run Pr W = .ok (.int .i64 L.length) W := by
  obtain ⟨D, h1, h0, _⟩ := h
  rw [← h0]; exact h1.len ht ty
/-- 'delete(m, s)' -/
theorem LMap.drop {t e : TypeId} (h : LMap C z key val Pr K W B L) (hk : Pr.underlying K = some .string) (ht : Pr.underlying t = some (.map K e)) (hr : P.Rising key L) {s : ByteArray} (hs : s.size ≤ maxLen) (ty : TypeId) :
    ∃ W', (Builtin.delete_ #[t, K] ty #[.map (some B), .string s]).run Pr W = .ok (.tuple #[]) W' ∧ LMap C z key val Pr K W' B (P.delK key s L) ∧ W.grownBy W' (some B) := by
  obtain ⟨D, h1, h0, h2⟩ := h
  obtain ⟨W', hrun, h3, hg⟩ := h1.drop (string_keyed hk) ht (keyOf_string_mk hk hs) ty
  have hsz : Maps.size (D.del (.string s.data.toList)) = (P.delK key s L).length := by
    have e1 := size_del (k := .string s.data.toList) (h1.tidy (string_keyed hk))
    have e2 := P.length_del (key := key) (s := s) hr
    rw [(h2 _ hs).2, h0] at e1
    omega
  refine ⟨W', hrun, ⟨_, hsz ▸ ownsMap_tight h3, hsz, fun y hy => ?_⟩, hg.grown⟩
  rw [P.findK_del]
  by_cases e : y = s
  · subst e
    rw [if_pos rfl]
    exact ⟨atKey_del_same _, has_del_same⟩
  · rw [if_neg e]
    have hne : Lit.string y.data.toList ≠ Lit.string s.data.toList := fun h => e (bytes_inj (by injection h))
    exact ⟨(atKey_del_other hne _).trans (h2 y hy).1, (has_del_other hne).trans (h2 y hy).2⟩

theorem LRange.owns (h : LRange C z key val Pr K W B r L ss) : LMap C z key val Pr K W B L := let ⟨D, _, _, h1, h2, _⟩ := h; ⟨D, h1.owns, h2⟩
theorem LRange.kept {W' : World} {row : Option Nat} (h : LRange C z key val Pr K W B r L ss) (hg : W.grownBy W' row) (hb : some B ≠ row) (hr : some r ≠ row) : LRange C z key val Pr K W' B r L ss :=
  let ⟨D, left, cnt, h1, h2⟩ := h; ⟨D, left, cnt, h1.kept hg hb hr, h2⟩
theorem LRange.alloc (h : LRange C z key val Pr K W B r L ss) (o : Obj) : LRange C z key val Pr K (W.alloc o) B r L ss := let ⟨D, left, cnt, h1, h2⟩ := h; ⟨D, left, cnt, h1.alloc o, h2⟩
theorem LRange.lt (h : LRange C z key val Pr K W B r L ss) : r < W.heap.size := let ⟨_, _, _, h1, _⟩ := h; h1.lt
theorem LRange.ne (h : LRange C z key val Pr K W B r L ss) : r ≠ B := let ⟨_, _, _, h1, _⟩ := h; h1.ne
theorem LRange.length_le (h : LRange C z key val Pr K W B r L ss) : ss.length ≤ L.length := by obtain ⟨_, _, cnt, _, _, _, h4⟩ := h; omega
theorem LRange.left_kept {W' : World} {row : Option Nat} (h : LRange C z key val Pr K W B r L ss) (hg : W.grownBy W' row) (hb : some B ≠ row) (hr : some r ≠ row) : W'.rangeLeft B r = W.rangeLeft B r := by
  unfold World.rangeLeft
  rw [hg.block B h.owns.lt hb, hg.block r h.lt hr]
theorem LRange.below {W' : World} (h : LRange C z key val Pr K W B r L ss) {m : Nat} (hb : RowKit.Below m W W') (hB : B < m) (hr : r < m) : LRange C z key val Pr K W' B r L ss := by
  obtain ⟨D, left, cnt, ⟨es, clock, since, seen, c0, e1, e2, e3, e4, e5, e6⟩, h2⟩ := h
  exact ⟨D, left, cnt, ⟨es, clock, since, seen, c0, (hb.block _ hB).trans e1, e2, e3, e4, (hb.block _ hr).trans e5, e6⟩, h2⟩

/-- when the ranging has ended, the keys of L have come, each once -/
theorem LRange.perm {D : DataW Unit} {left : Lit → Bool} {cnt : Nat} (hk : Pr.underlying K = some .string) (h1 : W.ranges Pr K C.R B r L.length D left cnt) (h2 : Rep C z key val D L) (h3 : Collected D left ss) (hl : ∀ kl, left kl = false)
    (hr : P.Rising key L) (hfit : ∀ x ∈ L, (key x).size ≤ maxLen) : ss.Perm (L.map (fun x => (key x).data.toList)) := by
  have hp := h3.perm h1.owns (string_keyed hk) hk hl
  have hnd : ss.Nodup := h3.1
  refine (List.perm_ext_iff_of_nodup hnd ?_).2 fun x => ?_
  · exact List.pairwise_map.2 (hr.imp (fun {a b} (l : P.ltB (key a) (key b)) e => P.ltB_ne l (P.ba_inj e)))
  · constructor
    · intro hx
      have hlen := strKeys_le h1.owns hk x (hp.mem_iff.1 hx)
      have hh := ((h3.2 x).1 hx).1
      have := (h2.2 ⟨x.toArray⟩ (by rw [P.size_len ⟨x.toArray⟩ |>.symm]; exact hlen)).2
      simp only at this
      rw [hh] at this
      obtain ⟨y, hy, e⟩ := P.findK_isSome.1 this.symm
      exact List.mem_map.2 ⟨y, hy, by rw [e]⟩
    · intro hx
      obtain ⟨y, hy, rfl⟩ := List.mem_map.1 hx
      refine (h3.2 _).2 ⟨?_, hl _⟩
      rw [(h2.2 _ (hfit y hy)).2]
      exact P.findK_isSome.2 ⟨y, hy, rfl⟩
end

section
variable {α β : Type} {C : Coded β} {z : β} {key : α → ByteArray} {val : α → β} {K : TypeId} {B r : Nat} {L : List α} {ss : List (List UInt8)}
variable {Pr : Program} (w : World) {ops : Array Oper} {rest : List Oper} {o : Oper} {a : Act} {Q : Exit → Act → World → Prop}

/-- 'range m' -/
theorem wpList_range_L (hg : o.guard = none) (m : Operand) (t : TypeId) (hop : o.op = Op.range t m) (e : TypeId) (hk : Pr.underlying K = some .string) (ht : Pr.underlying t = some (.map K e))
    (hm : a.eval m = .map (some B)) (h : LMap C z key val Pr K w B L)
    (hK : ∀ w', LRange C z key val Pr K w' B w.heap.size L [] → w.grownBy w' none → w'.heap.size = w.heap.size + 1 → wpList Pr ops Q rest (a.put o.dst (.pointer (some ⟨w.heap.size, 0, none⟩))) w') :
    wpList Pr ops Q (o :: rest) a w := by
  obtain ⟨D, h1, h2⟩ := h
  exact wpList_range_own w hg m t hop K e (string_keyed hk) ht C.R B L.length D hm h1 fun w' hr hgr hs => hK w' ⟨D, _, _, hr, h2, Collected.start D, by simp [h2.1]⟩ hgr hs

/-- the step -/
theorem wpList_next_L (hg : o.guard = none) (it : Operand) (hop : o.op = Op.next it false) (hk : Pr.underlying K = some .string) (hr : P.Rising key L) (hfit : ∀ x ∈ L, (key x).size ≤ maxLen)
    (hit : a.eval it = .pointer (some ⟨r, 0, none⟩)) (h : LRange C z key val Pr K w B r L ss)
    (hDone : ss.Perm (L.map (fun x => (key x).data.toList)) → wpList Pr ops Q rest (a.put o.dst (.tuple #[.bool false])) w)
    (hMore : ∀ (y : α) (w' : World), y ∈ L → LRange C z key val Pr K w' B r L (ss ++ [(key y).data.toList]) → w'.rangeLeft B r < w.rangeLeft B r → ss.length < L.length → w.grownBy w' (some r) → w'.heap.size = w.heap.size →
      (Instr.entry (.pointer (some ⟨r, 0, none⟩))).run Pr w' = .ok (.tuple #[.string (key y), C.enc (val y)]) w' → wpList Pr ops Q rest (a.put o.dst (.tuple #[.bool true, .string (key y), C.enc (val y)])) w') :
    wpList Pr ops Q (o :: rest) a w := by
  obtain ⟨D, left, cnt, h1, h2, h3, h4⟩ := h
  refine wpList_next_ranges w hg it hop K (string_keyed hk) C.R Value.string C.enc (fun k kl hkey => ?_) (fun v y hv => ?_) B r L.length D left cnt hit h1 (fun _ hl => hDone (LRange.perm hk h1 h2 h3 hl hr hfit)) ?_
  · obtain ⟨x, hx, _⟩ := Maps.keyOf_str hk hkey; exact ⟨_, hx⟩
  · obtain ⟨c, hc, _⟩ := C.inv _ _ hv; exact ⟨c, hc⟩
  · rintro x c kl ⟨yd, yp⟩ w2 cnt2 hkey hlk hv hat hrg2 hlt hg2 hs2 hen
    obtain ⟨x', ex, rfl, hlen⟩ := Maps.keyOf_str hk hkey
    have ex' : x.data.toList = x' := by injection ex with ex; rw [ex]
    subst ex'
    have hhas : Maps.has D (.string x.data.toList) = true := has_true_of_atKey hat
    have hsz : x.size ≤ maxLen := by have := P.size_len x; omega
    rw [(h2.2 x hsz).2] at hhas
    obtain ⟨y, hy⟩ := Option.isSome_iff_exists.1 hhas
    obtain ⟨hyL, hyx⟩ := P.findK_some hy
    have hcode := (h2.2 x hsz).1
    rw [hy, hat] at hcode
    obtain ⟨c', hc', hcc⟩ := C.inv _ _ hv
    have hc : C.enc c = C.enc (val y) := by
      have : c' = val y := C.inj _ _ (hcc.symm.trans hcode)
      rw [hc', this]
    subst hyx
    rw [hc] at hen ⊢
    refine hMore y w2 hyL ⟨D, _, cnt2, hrg2, h2, h3.step hlk hat, ?_⟩ ?_ ?_ hg2 hs2 hen
    · simp; omega
    · rw [hrg2.left_eq, h1.left_eq]; exact hlt
    · omega
end
end Go.Proofs.YtkibmoekadmjnaaGreatDoor
