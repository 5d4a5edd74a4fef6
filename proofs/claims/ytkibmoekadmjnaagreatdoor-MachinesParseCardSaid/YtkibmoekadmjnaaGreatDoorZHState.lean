/- The reference's Parse: its state, what an append leaves of it; its lines. -/
import Derived.Test.YtkibmoekadmjnaaGreatDoorZHSvc
import Derived.Test.YtkibmoekadmjnaaGreatDoorZUSvc

namespace Go.Proofs.YtkibmoekadmjnaaGreatDoor
open Go.RowKit Go.Lib Go.Shelf Go.Maps

theorem wpList_append_sl5 {P : Program} {w : World} {ops : Array Oper} {rest : List Oper} {o : Oper} {a : Act} {Q : Exit → Act → World → Prop} (hgd : o.guard = none) (s x : Operand) (t : TypeId)
    (ho : o.op = .call { callee := .builtin .append, args := #[s, x], argTypes := #[t, t] })
    (base : Nat) (e : TypeId) (i : TypeInfo) (z : Value) (size bytes : Nat) (ht : P.underlying t = some (.slice e)) (hi : P.info? e = some i) (hz : i.zero = some z)
    (hsize : i.size = size) (hby : i.bytes = bytes) (hzs : z.cells.size = size) (hsz : 0 < size)
    (v : Value) (n : Nat) (xs : List Value) (hs : a.eval s = v) (hown : w.ownsRow base e size v n xs)
    (ad : Addr) (m c : Nat) (news : List Value) (hx : a.eval x = .slice (some ad) m c) (hl : news.length = m * size) (hnews : ∀ j u, news[j]? = some u → w.cell? (ad.add j) = some u) (h1 : ∀ u ∈ news, u.oneCell' = true)
    (h63 : n + m ≤ maxLen) (hbytes : (n + m) * bytes ≤ 140737488355328) (hbase : base ≤ w.heap.size)
    (h : ∀ p' c' w', w'.ownsRow base e size (.slice p' (n + m) c') (n + m) (xs ++ news) → w.grownBy w' v.ownBlock → ((Value.slice p' (n + m) c').ownBlock = v.ownBlock ∨ (Value.slice p' (n + m) c').ownBlock = some w.heap.size) → wpList P ops Q rest (a.put o.dst (.slice p' (n + m) c')) w') : wpList P ops Q (o :: rest) a w :=
  wpList_plain hgd fun _ hK => by
    obtain ⟨v', w', hr, h2, h3, h4, h5⟩ := run_append_own_at (P := P) w base t o.type e i z size bytes ht hi hz hsize hby hzs hsz v n xs hown ad m c news hl hnews h1 h63 hbytes hbase
    obtain ⟨p', c', rfl⟩ : ∃ p c, v' = .slice p (n + m) c := by
      obtain ⟨_, ⟨rfl, e0⟩ | ⟨g, cap, cur, rfl, _⟩⟩ := h2
      · exact ⟨none, 0, by rw [e0]⟩
      · exact ⟨_, _, rfl⟩
    unfold Oper.wp execOp
    simp only [ho, resolve, invoke, builtin, Sem.run_bind, Sem.run_pure, Result.andThen_ok, List.map_toArray, List.map_cons, List.map_nil, hs, hx, hr]
    exact hK _ _ (h p' c' w' h2 h3 h5)

/-- the boxes of the result and of the machine, the lines -/
structure RS (w W : World) (A : Ad) (m : P.Mach) (L : List ByteArray) : Prop where
  ps : PS (w.heap.size + 3) W (w.heap.size + 1) A m
  res : HasRow W w.heap.size mz
  row : HasRow W (w.heap.size + 2) (L.map Value.string).toArray
  z : Below w.heap.size w W
theorem RS.below {w W W' : World} {A : Ad} {m : P.Mach} {L : List ByteArray} (h : RS w W A m L) (hb : Below W.heap.size W W') : RS w W' A m L := ⟨h.ps.below hb, h.res.below hb, h.row.below hb, bstep h.z hb⟩
theorem RS.drew {w W : World} {A : Ad} {m : P.Mach} {L : List ByteArray} (h : RS w W A m L) : RS w W.drew A m L := h.below (Below.refl _ _).drew
theorem RS.start (w : World) {w1 : World} {L : List ByteArray} (hrow : HasRow w1 (w.heap.size + 2) (L.map Value.string).toArray) (hb : Below ((w.alloc (.cells mz 26)).alloc (.cells mz 26)).heap.size ((w.alloc (.cells mz 26)).alloc (.cells mz 26)) w1) : RS w w1 adz P.m0 L := by
  have h0 := (PS.start w).below hb
  refine ⟨⟨h0.row, ⟨⟨rfl, .inl ⟨rfl, rfl⟩⟩, ⟨rfl, .inl ⟨rfl, rfl⟩⟩, ⟨rfl, .inl ⟨rfl, rfl⟩⟩, ⟨rfl, .inl ⟨rfl, rfl⟩⟩⟩, by omega, hrow.lt, ?_, ?_, ?_, ?_, ?_, ?_⟩, ((HasRow.new w mz 26).alloc (.cells mz 26)).below hb, hrow, bstep (below2 w (.cells mz 26) (.cells mz 26)) hb⟩
  all_goals (intro p q h; cases h)
theorem RS.rowAdd {w W W' W3 : World} {A : Ad} {m : P.Mach} {L : List ByteArray} {row : Option Nat} {j : Nat} {v : Value} (h : RS w W A m L) (hb : Below W.heap.size W W') (hg : W'.grownBy W3 row) (hge : ∀ k, row = some k → w.heap.size + 3 ≤ k) :
    HasRow (W3.setCell ⟨w.heap.size + 1, j, none⟩ v) (w.heap.size + 2) (L.map Value.string).toArray :=
  ((h.row.below hb).grown hg (fun e => by have := hge _ e.symm; omega)).other j v (by omega)
theorem RS.addF {w W W' W3 : World} {A : Ad} {m : P.Mach} {L : List ByteArray} {x : P.St} {p' : Option Addr} {c' : Nat} (h : RS w W A m L) (hb : Below W.heap.size W W')
    (hown : W3.ownsRow (w.heap.size + 3) 62 2 (.slice p' (m.facts.length + 1) c') (m.facts.length + 1) (flat cellsS m.facts ++ cellsS x)) (hg : W'.grownBy W3 (Value.slice A.a1 m.facts.length A.c1).ownBlock)
    (hk : (Value.slice p' (m.facts.length + 1) c').ownBlock = (Value.slice A.a1 m.facts.length A.c1).ownBlock ∨ (Value.slice p' (m.facts.length + 1) c').ownBlock = some W'.heap.size) :
    W3.cell? ⟨w.heap.size + 1, 0, none⟩ = some (.slice A.a1 m.facts.length A.c1) ∧ W3.frozen? ⟨w.heap.size + 1, 0, none⟩ = false ∧
    RS w (W3.setCell ⟨w.heap.size + 1, 0, none⟩ (.slice p' (m.facts.length + 1) c')) { A with a1 := p', c1 := c' } { m with facts := m.facts ++ [x] } L := by
  obtain ⟨q1, q2, q3, q4⟩ := h.ps.addF hb hown hg hk
  exact ⟨q1, q2, q3, h.res.belowN q4 (Nat.lt_succ_self _), h.rowAdd hb hg (own_ge h.ps.own.f), h.z.trans (q4.mono (Nat.le_succ _))⟩
theorem RS.addI {w W W' W3 : World} {A : Ad} {m : P.Mach} {L : List ByteArray} {x : P.Fi} {p' : Option Addr} {c' : Nat} (h : RS w W A m L) (hb : Below W.heap.size W W')
    (hown : W3.ownsRow (w.heap.size + 3) 42 3 (.slice p' (m.files.length + 1) c') (m.files.length + 1) (flat cellsF m.files ++ cellsF x)) (hg : W'.grownBy W3 (Value.slice A.a2 m.files.length A.c2).ownBlock)
    (hk : (Value.slice p' (m.files.length + 1) c').ownBlock = (Value.slice A.a2 m.files.length A.c2).ownBlock ∨ (Value.slice p' (m.files.length + 1) c').ownBlock = some W'.heap.size) :
    W3.cell? ⟨w.heap.size + 1, 1, none⟩ = some (.slice A.a2 m.files.length A.c2) ∧ W3.frozen? ⟨w.heap.size + 1, 1, none⟩ = false ∧
    RS w (W3.setCell ⟨w.heap.size + 1, 1, none⟩ (.slice p' (m.files.length + 1) c')) { A with a2 := p', c2 := c' } { m with files := m.files ++ [x] } L := by
  obtain ⟨q1, q2, q3, q4⟩ := h.ps.addI hb hown hg hk
  exact ⟨q1, q2, q3, h.res.belowN q4 (Nat.lt_succ_self _), h.rowAdd hb hg (own_ge h.ps.own.i), h.z.trans (q4.mono (Nat.le_succ _))⟩
theorem RS.addS {w W W' W3 : World} {A : Ad} {m : P.Mach} {L : List ByteArray} {x : P.St} {p' : Option Addr} {c' : Nat} (h : RS w W A m L) (hb : Below W.heap.size W W')
    (hown : W3.ownsRow (w.heap.size + 3) 62 2 (.slice p' (m.sets.length + 1) c') (m.sets.length + 1) (flat cellsS m.sets ++ cellsS x)) (hg : W'.grownBy W3 (Value.slice A.a3 m.sets.length A.c3).ownBlock)
    (hk : (Value.slice p' (m.sets.length + 1) c').ownBlock = (Value.slice A.a3 m.sets.length A.c3).ownBlock ∨ (Value.slice p' (m.sets.length + 1) c').ownBlock = some W'.heap.size) :
    W3.cell? ⟨w.heap.size + 1, 2, none⟩ = some (.slice A.a3 m.sets.length A.c3) ∧ W3.frozen? ⟨w.heap.size + 1, 2, none⟩ = false ∧
    RS w (W3.setCell ⟨w.heap.size + 1, 2, none⟩ (.slice p' (m.sets.length + 1) c')) { A with a3 := p', c3 := c' } { m with sets := m.sets ++ [x] } L := by
  obtain ⟨q1, q2, q3, q4⟩ := h.ps.addS hb hown hg hk
  exact ⟨q1, q2, q3, h.res.belowN q4 (Nat.lt_succ_self _), h.rowAdd hb hg (own_ge h.ps.own.s), h.z.trans (q4.mono (Nat.le_succ _))⟩
theorem RS.addV {w W W' W3 : World} {A : Ad} {m : P.Mach} {L : List ByteArray} {x : P.Sv} {p' : Option Addr} {c' : Nat} (h : RS w W A m L) (hb : Below W.heap.size W W')
    (hown : W3.ownsRow (w.heap.size + 3) 46 4 (.slice p' (m.svcs.length + 1) c') (m.svcs.length + 1) (flat cellsV m.svcs ++ cellsV x)) (hg : W'.grownBy W3 (Value.slice A.a4 m.svcs.length A.c4).ownBlock)
    (hk : (Value.slice p' (m.svcs.length + 1) c').ownBlock = (Value.slice A.a4 m.svcs.length A.c4).ownBlock ∨ (Value.slice p' (m.svcs.length + 1) c').ownBlock = some W'.heap.size) :
    W3.cell? ⟨w.heap.size + 1, 3, none⟩ = some (.slice A.a4 m.svcs.length A.c4) ∧ W3.frozen? ⟨w.heap.size + 1, 3, none⟩ = false ∧
    RS w (W3.setCell ⟨w.heap.size + 1, 3, none⟩ (.slice p' (m.svcs.length + 1) c')) { A with a4 := p', c4 := c' } { m with svcs := m.svcs ++ [x] } L := by
  obtain ⟨q1, q2, q3, q4⟩ := h.ps.addV hb hown hg hk
  exact ⟨q1, q2, q3, h.res.belowN q4 (Nat.lt_succ_self _), h.rowAdd hb hg (own_ge h.ps.own.v), h.z.trans (q4.mono (Nat.le_succ _))⟩

namespace P
theorem lns_get (t : ByteArray) (k : Nat) (h : k < (lns t).length) : ∃ h2 : k < (parts 10 t).length, (parts 10 t)[k] = (lns t)[k] := by
  revert h
  unfold lns
  split
  · intro h
    have h1 := h
    rw [List.length_dropLast] at h1
    exact ⟨by omega, (List.getElem_dropLast (h := h)).symm⟩
  · intro h; exact ⟨h, rfl⟩
theorem parts_size (c : UInt8) (t : ByteArray) : ∀ x ∈ parts c t, x.size ≤ t.size := fun x hx => splitB_size _ _ _ x hx
theorem lns_size (t : ByteArray) (k : Nat) (h : k < (lns t).length) : (lns t)[k].size ≤ t.size := by
  obtain ⟨h2, e⟩ := lns_get t k h
  rw [← e]; exact parts_size 10 t _ (List.getElem_mem h2)
theorem lns_le (t : ByteArray) : (lns t).length ≤ t.size + 1 := by
  have h := parts_len 10 t
  have hc : Lib.countB t ⟨#[10]⟩ ≤ t.size := Lib.countB_le _ (Nat.le_refl _) _ t (Nat.le_refl _)
  have := lns_len t
  split at this <;> omega
theorem rloop_end {tn : Int} {M : List ByteArray} {k : Nat} {m : Mach} {s : Int} (h : M.length ≤ k) : rloop tn (M.drop k) k m s = (m, 0, 0) := by rw [List.drop_eq_nil_of_le h]; rfl
theorem rloop_step {tn : Int} {M : List ByteArray} {k : Nat} {m : Mach} {s : Int} (h : k < M.length) : rloop tn (M.drop k) k m s =
    if ((decide (s ≤ rat (cutA M[k] 32).toList) && ris M[k]) && !decide ((k : Int) = tn)) = true then rloop tn (M.drop (k + 1)) (k + 1) (radd m M[k]) (rat (cutA M[k] 32).toList) else (m0, k, 8) := by
  rw [List.drop_eq_getElem_cons h]; rfl
/-- where a line is no line, and where it is -/
structure Ln (tn : Int) (M : List ByteArray) (k : Nat) (m : Mach) (s a : Int) (q : Bool) (m' : Mach) : Prop where
  bad : (decide (s ≤ a) && q && ((k : Int) != tn)) = false → rloop tn (M.drop k) k m s = (m0, k, 8)
  good : decide (s ≤ a) = true → q = true → ((k : Int) != tn) = true → rloop tn (M.drop k) k m s = rloop tn (M.drop (k + 1)) (k + 1) m' a
theorem Ln.mk' {tn : Int} {M : List ByteArray} {k : Nat} {m : Mach} {s a : Int} {q : Bool} {m' : Mach} (h : k < M.length) (h1 : rat (cutA M[k] 32).toList = a) (h2 : ris M[k] = q) (h3 : radd m M[k] = m') : Ln tn M k m s a q m' := by
  have e := rloop_step (tn := tn) (m := m) (s := s) h
  rw [h1, h2, h3] at e
  have hb : (!decide ((k : Int) = tn)) = ((k : Int) != tn) := by
    by_cases h : (k : Int) = tn <;> simp [h]
  rw [hb] at e
  exact ⟨fun h => by rw [e, if_neg (by rw [h]; decide)], fun x y z => by rw [e, if_pos (by rw [x, y, z]; rfl)]⟩
theorem ln_fact {tn : Int} {M : List ByteArray} {k : Nat} {m : Mach} {s : Int} (h : k < M.length) (hc : (cutA M[k] 32).toList = wFact) :
    Ln tn M k m s 0 (rq (cutB M[k] 32)) { m with facts := m.facts ++ [⟨pairK (cutB M[k] 32), pairV (cutB M[k] 32)⟩] } := by
  have e : rat wFact = 0 := by decide +kernel
  refine Ln.mk' h (by rw [hc, e]) ?_ ?_
  · unfold ris; rw [hc, e, if_neg (by decide)]
  · unfold radd; rw [hc, e, if_pos rfl]
theorem ln_file {tn : Int} {M : List ByteArray} {k : Nat} {m : Mach} {s : Int} (h : k < M.length) (hc : (cutA M[k] 32).toList = wFile) :
    Ln tn M k m s 1 (rq (cutB M[k] 32)) { m with files := m.files ++ [⟨pairK (cutB M[k] 32), pairV (cutB M[k] 32), false⟩] } := by
  have e : rat wFile = 1 := by decide +kernel
  have e2 : (wFile == wRun) = false := by decide +kernel
  refine Ln.mk' h (by rw [hc, e]) ?_ ?_
  · unfold ris; rw [hc, e, if_neg (by decide)]
  · unfold radd; rw [hc, e, if_neg (by decide), if_pos rfl, e2]
theorem ln_run {tn : Int} {M : List ByteArray} {k : Nat} {m : Mach} {s : Int} (h : k < M.length) (hc : (cutA M[k] 32).toList = wRun) :
    Ln tn M k m s 1 (rq (cutB M[k] 32)) { m with files := m.files ++ [⟨pairK (cutB M[k] 32), pairV (cutB M[k] 32), true⟩] } := by
  have e : rat wRun = 1 := by decide +kernel
  have e2 : (wRun == wRun) = true := by decide +kernel
  refine Ln.mk' h (by rw [hc, e]) ?_ ?_
  · unfold ris; rw [hc, e, if_neg (by decide)]
  · unfold radd; rw [hc, e, if_neg (by decide), if_pos rfl, e2]
theorem ln_set {tn : Int} {M : List ByteArray} {k : Nat} {m : Mach} {s : Int} (h : k < M.length) (hc : (cutA M[k] 32).toList = wSet) :
    Ln tn M k m s 2 (rq (cutB M[k] 32)) { m with sets := m.sets ++ [⟨pairK (cutB M[k] 32), pairV (cutB M[k] 32)⟩] } := by
  have e : rat wSet = 2 := by decide +kernel
  refine Ln.mk' h (by rw [hc, e]) ?_ ?_
  · unfold ris; rw [hc, e, if_neg (by decide)]
  · unfold radd; rw [hc, e, if_neg (by decide), if_neg (by decide), if_pos rfl]
theorem ln_svc {tn : Int} {M : List ByteArray} {k : Nat} {m : Mach} {s : Int} (h : k < M.length) (hc : (cutA M[k] 32).toList = wSvc) :
    Ln tn M k m s 3 (rsvc (parts 32 (cutB M[k] 32))).2 { m with svcs := m.svcs ++ [(rsvc (parts 32 (cutB M[k] 32))).1] } := by
  have e : rat wSvc = 3 := by decide +kernel
  refine Ln.mk' h (by rw [hc, e]) ?_ ?_
  · unfold ris; rw [hc, e, if_pos rfl]
  · unfold radd; rw [hc, e, if_neg (by decide), if_neg (by decide), if_neg (by decide), if_pos rfl]
theorem ln_other {tn : Int} {M : List ByteArray} {k : Nat} {m : Mach} {s : Int} (h : k < M.length) (hs : 0 ≤ s) (h1 : ¬ (cutA M[k] 32).toList = wFact) (h2 : ¬ (cutA M[k] 32).toList = wFile) (h3 : ¬ (cutA M[k] 32).toList = wRun)
    (h4 : ¬ (cutA M[k] 32).toList = wSet) (h5 : ¬ (cutA M[k] 32).toList = wSvc) : rloop tn (M.drop k) k m s = (m0, k, 8) ∧ idx5 (cutA M[k] 32).toList = -1 := by
  have e : rat (cutA M[k] 32).toList = -1 := by unfold rat; rw [if_neg h1, if_neg h2, if_neg h4, if_neg h5, if_neg h3]
  refine ⟨?_, ?_⟩
  · rw [rloop_step h, e, if_neg (by rw [decide_eq_false (by omega)]; simp)]
  · unfold idx5 idxF idxF idxF idxF idxF idxF
    rw [if_neg h1, if_neg h2, if_neg h4, if_neg h5, if_neg h3]
/-- what Parse makes of what the loop leaves -/
theorem parse_loop (t : ByteArray) (ht : t.size ≤ 4194304) : (∀ k, rloop (torn t) (lns t) 0 m0 0 = (m0, k, 8) → parse t = (m0, k, 8)) ∧
    (∀ m, rloop (torn t) (lns t) 0 m0 0 = (m, 0, 0) → m.fit ∧ (machErr m = 0 → parse t = (m, 0, 0)) ∧ (machErr m ≠ 0 → parse t = (m0, 0, machErr m))) := by
  rw [rloop_all]
  have hn : ¬ 4194304 < t.size := by omega
  have hsm := readAll_small t
  constructor
  · intro k h
    unfold fin at h
    by_cases h2 : (readAll m0 t 0).2.2 = 0
    · rw [if_pos h2] at h
      have := congrArg (fun x => x.2.2) h
      cases this
    · rw [if_neg h2] at h
      rw [parse_line hn h2, h]
  · intro m h
    unfold fin at h
    by_cases h2 : (readAll m0 t 0).2.2 = 0
    · rw [if_pos h2] at h
      have hm : (readAll m0 t 0).1 = m := congrArg (fun x => x.1) h
      refine ⟨by rw [← hm]; exact hsm.1.fit (by omega) (by omega), fun h3 => ?_, fun h3 => ?_⟩
      · rw [parse_ok hn h2 (by rw [hm]; exact h3), hm]
      · rw [parse_bad hn h2 (by rw [hm]; exact h3), hm]
    · rw [if_neg h2] at h
      exact absurd (congrArg (fun x => x.2.2) h) h2
end P
end Go.Proofs.YtkibmoekadmjnaaGreatDoor
