/- A machine that came in, opened: its four lists lie in the world, and all is as small as its bulk. -/
/- Changes that came in, opened. -/
/- Walks: slices.Equal of the same changes at two places. -/
import Derived.Test.YtomikcemiacjmaaGreatDoorRows
import Derived.Test.YtomikcemiacjmaaGreatDoorZMCheck
import Derived.OpenShut
import Derived.Carry
import Derived.Deep.Slices
import Derived.Deep.Strs
import Derived.Deep.Fields
import Derived.Lib.SmallJoins
import Derived.ProofKit
import Derived.Test.YtomikcemiacjmaaGreatDoorZTRPrint
import Derived.Test.YtomikcemiacjmaaGreatDoorZGPure
import Derived.Deep.QuietTactic
import Derived.BigQuiet

namespace Go.Proofs.YtomikcemiacjmaaGreatDoor
open Go.ChangeShapes Go.WideShapes Go.RowKit Go.Joins Go.Deep

theorem bulk_mem {H : Type} {x : DataW H} : ∀ {l : List (DataW H)}, x ∈ l → Rows.uptoBulk x ≤ Rows.uptoBulkAll l
  | y :: l, h => by
    rcases List.mem_cons.1 h with rfl | h
    · simp only [Rows.uptoBulkAll]; omega
    · have := bulk_mem h
      simp only [Rows.uptoBulkAll]; omega
theorem bulk_len {H : Type} : ∀ {l : List (DataW H)}, (∀ x ∈ l, 1 ≤ Rows.uptoBulk x) → l.length ≤ Rows.uptoBulkAll l
  | [], _ => Nat.zero_le _
  | y :: l, h => by
    have h1 := h y (List.mem_cons_self ..)
    have h2 := bulk_len (l := l) fun x hx => h x (List.mem_cons_of_mem _ hx)
    simp only [Rows.uptoBulkAll, List.length_cons]; omega

instance : Inhabited P.St := ⟨⟨default, default⟩⟩
instance : Inhabited P.Fi := ⟨⟨default, default, false⟩⟩
instance : Inhabited P.Sv := ⟨⟨default, default, false, false⟩⟩

theorem st_fields : ∃ f0 f1 : Field, Tryz.prog.underlying 62 = some (.struct #[f0, f1]) ∧ f0.type = 9 ∧ f1.type = 9 ∧ oneCellFields Tryz.prog #[f0, f1] = true := by
  refine ⟨_, _, Tryz.underlying62, rfl, rfl, ?_⟩
  kernel_rfl
theorem fi_fields : ∃ f0 f1 f2 : Field, Tryz.prog.underlying 42 = some (.struct #[f0, f1, f2]) ∧ f0.type = 9 ∧ f1.type = 9 ∧ f2.type = 4 ∧ oneCellFields Tryz.prog #[f0, f1, f2] = true := by
  refine ⟨_, _, _, Tryz.underlying42, rfl, rfl, rfl, ?_⟩
  kernel_rfl
theorem sv_fields : ∃ f0 f1 f2 f3 : Field, Tryz.prog.underlying 46 = some (.struct #[f0, f1, f2, f3]) ∧ f0.type = 9 ∧ f1.type = 9 ∧ f2.type = 4 ∧ f3.type = 4 ∧ oneCellFields Tryz.prog #[f0, f1, f2, f3] = true := by
  refine ⟨_, _, _, _, Tryz.underlying46, rfl, rfl, rfl, rfl, ?_⟩
  kernel_rfl
theorem mach_fields : ∃ f0 f1 f2 f3 : Field, Tryz.prog.underlying 26 = some (.struct #[f0, f1, f2, f3]) ∧ f0.type = 22 ∧ f1.type = 23 ∧ f2.type = 22 ∧ f3.type = 24 ∧ oneCellFields Tryz.prog #[f0, f1, f2, f3] = true := by
  refine ⟨_, _, _, _, Tryz.underlying26, rfl, rfl, rfl, rfl, ?_⟩
  kernel_rfl
theorem cells62 : Tryz.prog.cellsOf 62 = 2 := by kernel_rfl
theorem cells42 : Tryz.prog.cellsOf 42 = 3 := by kernel_rfl
theorem cells46 : Tryz.prog.cellsOf 46 = 4 := by kernel_rfl
theorem cells26 : Tryz.prog.cellsOf 26 = 4 := by kernel_rfl

section
variable {H : Type} {enc : TypeId × Value → H} {W : World} {base : Nat} {spare : Nat → Bool} {held : Bool}

set_option maxRecDepth 100000 in
theorem st_cells {n : Nat} {cs : List Value} {y : DataW H × List MemPlace} (h : DataW.trod enc Tryz.prog W base spare held n 62 cs = some y) :
    ∃ x : P.St, cs = [.string x.k, .string x.v] ∧ y.1 = .agg [.lit (.string x.k.data.toList), .lit (.string x.v.data.toList)] := by
  obtain ⟨f0, f1, u, t0, t1, hone⟩ := st_fields
  obtain ⟨y0, y1, k, rfl, hl, h0, h1⟩ := trod_struct2 u h
  rw [cells62] at hl
  obtain ⟨o0, k0⟩ := hone_of hone 0 f0 rfl
  obtain ⟨o1, k1⟩ := hone_of hone 1 f1 rfl
  match cs, hl with
  | [c0, c1], _ =>
    simp [o0, k0] at h0
    simp [o1, k1] at h1
    rw [t0] at h0
    rw [t1] at h1
    obtain ⟨a, e0, rfl, _⟩ := DataW.trod_string Tryz.underlying9 h0
    obtain ⟨b, e1, rfl, _⟩ := DataW.trod_string Tryz.underlying9 h1
    simp only [List.cons.injEq, and_true] at e0 e1
    subst e0 e1
    exact ⟨⟨a, b⟩, rfl, rfl⟩
set_option maxRecDepth 100000 in
theorem fi_cells {n : Nat} {cs : List Value} {y : DataW H × List MemPlace} (h : DataW.trod enc Tryz.prog W base spare held n 42 cs = some y) :
    ∃ x : P.Fi, cs = [.string x.p, .string x.d, .bool x.r] ∧ y.1 = .agg [.lit (.string x.p.data.toList), .lit (.string x.d.data.toList), .lit (.bool x.r)] := by
  obtain ⟨f0, f1, f2, u, t0, t1, t2, hone⟩ := fi_fields
  obtain ⟨y0, y1, y2, k, rfl, hl, h0, h1, h2⟩ := trod_struct3 u h
  rw [cells42] at hl
  obtain ⟨o0, k0⟩ := hone_of hone 0 f0 rfl
  obtain ⟨o1, k1⟩ := hone_of hone 1 f1 rfl
  obtain ⟨o2, k2⟩ := hone_of hone 2 f2 rfl
  match cs, hl with
  | [c0, c1, c2], _ =>
    simp [o0, k0] at h0
    simp [o1, k1] at h1
    simp [o2, k2] at h2
    rw [t0] at h0
    rw [t1] at h1
    rw [t2] at h2
    obtain ⟨a, e0, rfl, _⟩ := DataW.trod_string Tryz.underlying9 h0
    obtain ⟨b, e1, rfl, _⟩ := DataW.trod_string Tryz.underlying9 h1
    obtain ⟨c, e2, rfl⟩ := DataW.trod_bool Tryz.underlying4 h2
    simp only [List.cons.injEq, and_true] at e0 e1 e2
    subst e0 e1 e2
    exact ⟨⟨a, b, c⟩, rfl, rfl⟩
set_option maxRecDepth 100000 in
theorem sv_cells {n : Nat} {cs : List Value} {y : DataW H × List MemPlace} (h : DataW.trod enc Tryz.prog W base spare held n 46 cs = some y) :
    ∃ x : P.Sv, cs = [.string x.n, .string x.p, .bool x.a, .bool x.o] ∧ y.1 = .agg [.lit (.string x.n.data.toList), .lit (.string x.p.data.toList), .lit (.bool x.a), .lit (.bool x.o)] := by
  obtain ⟨f0, f1, f2, f3, u, t0, t1, t2, t3, hone⟩ := sv_fields
  obtain ⟨y0, y1, y2, y3, k, rfl, hl, h0, h1, h2, h3⟩ := trod_struct4 u h
  rw [cells46] at hl
  obtain ⟨o0, k0⟩ := hone_of hone 0 f0 rfl
  obtain ⟨o1, k1⟩ := hone_of hone 1 f1 rfl
  obtain ⟨o2, k2⟩ := hone_of hone 2 f2 rfl
  obtain ⟨o3, k3⟩ := hone_of hone 3 f3 rfl
  match cs, hl with
  | [c0, c1, c2, c3], _ =>
    simp [o0, k0] at h0
    simp [o1, k1] at h1
    simp [o2, k2] at h2
    simp [o3, k3] at h3
    rw [t0] at h0
    rw [t1] at h1
    rw [t2] at h2
    rw [t3] at h3
    obtain ⟨a, e0, rfl, _⟩ := DataW.trod_string Tryz.underlying9 h0
    obtain ⟨b, e1, rfl, _⟩ := DataW.trod_string Tryz.underlying9 h1
    obtain ⟨c, e2, rfl⟩ := DataW.trod_bool Tryz.underlying4 h2
    obtain ⟨d, e3, rfl⟩ := DataW.trod_bool Tryz.underlying4 h3
    simp only [List.cons.injEq, and_true] at e0 e1 e2 e3
    subst e0 e1 e2 e3
    exact ⟨⟨a, b, c, d⟩, rfl, rfl⟩

theorem block_lt {a : Addr} {v : Value} (h : W.cell? a = some v) : a.block < W.heap.size := by
  unfold World.cell? at h
  split at h
  · rename_i hh; exact (Array.getElem?_eq_some_iff.1 hh).1
  · cases h

/-- WHAT A LIST OPENS TO, whatever its elements: α the elements, k their cells, c how they stand in cells, b how they read. -/
theorem open_list {α : Type} [Inhabited α] {t e : TypeId} {k : Nat} (hk : 0 < k) (c : α → List Value) (g : α → DataW H) (ht : Tryz.prog.underlying t = some (.slice e)) (hc : Tryz.prog.cellsOf e = k)
    (hg : ∀ x, 1 ≤ Rows.uptoBulk (g x))
    (one : ∀ (n : Nat) (cs : List Value) (y : DataW H × List MemPlace), DataW.trod enc Tryz.prog W base spare held n e cs = some y → ∃ x : α, cs = c x ∧ y.1 = g x)
    {fuel : Nat} {v : Value} {y : DataW H × List MemPlace} (h : DataW.trod enc Tryz.prog W base spare held fuel t [v] = some y) :
    ∃ (a : Option Addr) (L : List α) (cap : Nat), v = .slice a L.length cap ∧ L.length ≤ cap ∧ L.length ≤ Rows.uptoBulk y.1 ∧ (∀ x ∈ L, Rows.uptoBulk (g x) ≤ Rows.uptoBulk y.1) ∧
      (L ≠ [] → ∃ b off, a = some ⟨b, off, none⟩ ∧ b < W.heap.size ∧ ∀ i (hi : i < L.length) j (_ : j < k), W.cell? ⟨b, off + i * k + j, none⟩ = (c L[i])[j]?) := by
  rcases open_slice ht h with ⟨h1, rfl⟩ | ⟨a, len, cap, m, n, D, Pl, h1, hb, hl, hm, hmm, rfl, hx⟩
  · obtain rfl := (List.cons.inj h1).1
    exact ⟨none, [], 0, rfl, Nat.le_refl _, Nat.zero_le _, by simp, fun h => absurd rfl h⟩
  obtain rfl := (List.cons.inj h1).1
  have hlm : len ≤ m := by rw [hmm]; split <;> omega
  rw [hc] at hx
  obtain ⟨f, hf⟩ := choose_lt (α := α) (n := len) (p := fun i x => W.cells? base (a.add (i * k)) k = some (c x) ∧ D i = g x) (fun i hi => by
    obtain ⟨cs', h1, h2⟩ := hx i (by omega)
    obtain ⟨x, rfl, h3⟩ := one _ _ _ h2
    exact ⟨x, h1, h3⟩)
  have hD : (List.range len).map D = ((List.range len).map f).map g := by
    rw [List.map_map]
    exact List.map_congr_left fun i hi => (hf i (List.mem_range.1 hi)).2
  refine ⟨some a, (List.range len).map f, cap, by simp, by simpa using hl, ?_, ?_, ?_⟩
  · have := bulk_len (l := ((List.range len).map f).map g) (by
      intro x hx
      obtain ⟨z, _, rfl⟩ := List.mem_map.1 hx
      exact hg z)
    simp only [Rows.uptoBulk]
    rw [hD]
    simp only [List.length_map, List.length_range] at this ⊢
    omega
  · intro x hx
    have := bulk_mem (List.mem_map_of_mem (f := g) hx)
    simp only [Rows.uptoBulk]
    rw [hD]
    omega
  · intro hn
    have h0 : 0 < len := by
      rcases Nat.eq_zero_or_pos len with rfl | h
      · exact absurd rfl hn
      · exact h
    obtain ⟨b, off, spot⟩ := a
    have hz := (hf 0 h0).1
    obtain ⟨_, hlen, hcell⟩ := World.cells?_some hz
    have hne : ∃ v, W.cell? (((⟨b, off, spot⟩ : Addr).add (0 * k)).add 0) = some v := by
      rw [hcell 0 hk]
      exact ⟨_, List.getElem?_eq_getElem (by omega)⟩
    obtain ⟨v, hv⟩ := hne
    rw [Nat.zero_mul] at hv
    have hv' : W.cell? ⟨b, off, spot⟩ = some v := by simpa [Addr.add] using hv
    obtain rfl : spot = none := World.cell?_spot hv'
    refine ⟨b, off, rfl, block_lt hv', fun i hi j hj => ?_⟩
    have hi' : i < len := by simpa using hi
    obtain ⟨_, _, hcell⟩ := World.cells?_some (hf i hi').1
    have := hcell j hj
    rw [add_plain, add_plain] at this
    rw [this]
    simp

theorem open_sts {fuel : Nat} {v : Value} {y : DataW H × List MemPlace} (h : DataW.trod enc Tryz.prog W base spare held fuel 22 [v] = some y) :
    ∃ (a : Option Addr) (L : List P.St) (cap : Nat), v = .slice a L.length cap ∧ L.length ≤ Rows.uptoBulk y.1 ∧ StsAt W.heap.size W a L cap ∧ (∀ k (hk : k < L.length), L[k].k.size ≤ Rows.uptoBulk y.1 ∧ L[k].v.size ≤ Rows.uptoBulk y.1) := by
  obtain ⟨a, L, cap, rfl, h1, h2, h3, h4⟩ := open_list (k := 2) (by decide) (fun x : P.St => [.string x.k, .string x.v]) (fun x => .agg [.lit (.string x.k.data.toList), .lit (.string x.v.data.toList)]) Tryz.underlying22 cells62
    (fun x => by simp only [Rows.uptoBulk]; omega) (fun n cs y h => st_cells h) h
  refine ⟨a, L, cap, rfl, h2, ⟨h1, fun hn => ?_⟩, fun k hk => ?_⟩
  · obtain ⟨b, off, e, hb, hc⟩ := h4 hn
    refine ⟨b, off, e, hb, fun k hk => ⟨?_, ?_⟩⟩
    · exact hc k hk 0 (by decide)
    · exact hc k hk 1 (by decide)
  · have := h3 L[k] (List.getElem_mem hk)
    simp only [Rows.uptoBulk, Rows.uptoBulkAll, Array.length_toList] at this
    have e1 : L[k].k.data.size = L[k].k.size := rfl
    have e2 : L[k].v.data.size = L[k].v.size := rfl
    omega
theorem open_fis {fuel : Nat} {v : Value} {y : DataW H × List MemPlace} (h : DataW.trod enc Tryz.prog W base spare held fuel 23 [v] = some y) :
    ∃ (a : Option Addr) (L : List P.Fi) (cap : Nat), v = .slice a L.length cap ∧ L.length ≤ Rows.uptoBulk y.1 ∧ FisAt W.heap.size W a L cap ∧ (∀ k (hk : k < L.length), L[k].p.size ≤ Rows.uptoBulk y.1 ∧ L[k].d.size ≤ Rows.uptoBulk y.1) := by
  obtain ⟨a, L, cap, rfl, h1, h2, h3, h4⟩ := open_list (k := 3) (by decide) (fun x : P.Fi => [.string x.p, .string x.d, .bool x.r]) (fun x => .agg [.lit (.string x.p.data.toList), .lit (.string x.d.data.toList), .lit (.bool x.r)]) Tryz.underlying23 cells42
    (fun x => by simp only [Rows.uptoBulk]; omega) (fun n cs y h => fi_cells h) h
  refine ⟨a, L, cap, rfl, h2, ⟨h1, fun hn => ?_⟩, fun k hk => ?_⟩
  · obtain ⟨b, off, e, hb, hc⟩ := h4 hn
    refine ⟨b, off, e, hb, fun k hk => ⟨?_, ?_, ?_⟩⟩
    · exact hc k hk 0 (by decide)
    · exact hc k hk 1 (by decide)
    · exact hc k hk 2 (by decide)
  · have := h3 L[k] (List.getElem_mem hk)
    simp only [Rows.uptoBulk, Rows.uptoBulkAll, Array.length_toList] at this
    have e1 : L[k].p.data.size = L[k].p.size := rfl
    have e2 : L[k].d.data.size = L[k].d.size := rfl
    omega
theorem open_svs {fuel : Nat} {v : Value} {y : DataW H × List MemPlace} (h : DataW.trod enc Tryz.prog W base spare held fuel 24 [v] = some y) :
    ∃ (a : Option Addr) (L : List P.Sv) (cap : Nat), v = .slice a L.length cap ∧ L.length ≤ Rows.uptoBulk y.1 ∧ SvsAt W.heap.size W a L cap ∧ (∀ k (hk : k < L.length), L[k].n.size ≤ Rows.uptoBulk y.1 ∧ L[k].p.size ≤ Rows.uptoBulk y.1) := by
  obtain ⟨a, L, cap, rfl, h1, h2, h3, h4⟩ := open_list (k := 4) (by decide) (fun x : P.Sv => [.string x.n, .string x.p, .bool x.a, .bool x.o]) (fun x => .agg [.lit (.string x.n.data.toList), .lit (.string x.p.data.toList), .lit (.bool x.a), .lit (.bool x.o)]) Tryz.underlying24 cells46
    (fun x => by simp only [Rows.uptoBulk]; omega) (fun n cs y h => sv_cells h) h
  refine ⟨a, L, cap, rfl, h2, ⟨h1, fun hn => ?_⟩, fun k hk => ?_⟩
  · obtain ⟨b, off, e, hb, hc⟩ := h4 hn
    refine ⟨b, off, e, hb, fun k hk => ⟨?_, ?_, ?_, ?_⟩⟩
    · exact hc k hk 0 (by decide)
    · exact hc k hk 1 (by decide)
    · exact hc k hk 2 (by decide)
    · exact hc k hk 3 (by decide)
  · have := h3 L[k] (List.getElem_mem hk)
    simp only [Rows.uptoBulk, Rows.uptoBulkAll, Array.length_toList] at this
    have e1 : L[k].n.data.size = L[k].n.size := rfl
    have e2 : L[k].p.data.size = L[k].p.size := rfl
    omega

set_option maxRecDepth 100000 in
/-- A MACHINE OPENED. -/
theorem open_mach {b0 : Nat} {r : Reach} {v : Value} {d : DataW H} {p : List MemPlace} (hv : Value.okWide Tryz.prog W r b0 26 v) (h : DataW.Trod enc Tryz.prog W base spare held 26 v d p) (hb : Rows.uptoBulk d ≤ 1048576) :
    ∃ (A : Ad) (m : P.Mach), v = machV A m ∧ m.fit ∧ Lies W.heap.size W A m := by
  obtain ⟨f0, f1, f2, f3, u, t0, t1, t2, t3, hone⟩ := mach_fields
  obtain ⟨v0, v1, v2, v3, y0, y1, y2, y3, n, rfl, rfl, rfl, h0, h1, h2, h3⟩ := open_agg4 u hone cells26 hv h
  rw [t0] at h0
  rw [t1] at h1
  rw [t2] at h2
  rw [t3] at h3
  obtain ⟨a1, l1, c1, rfl, n1, at1, s1⟩ := open_sts h0
  obtain ⟨a2, l2, c2, rfl, n2, at2, s2⟩ := open_fis h1
  obtain ⟨a3, l3, c3, rfl, n3, at3, s3⟩ := open_sts h2
  obtain ⟨a4, l4, c4, rfl, n4, at4, s4⟩ := open_svs h3
  simp only [Rows.uptoBulk, Rows.uptoBulkAll] at hb
  refine ⟨⟨a1, a2, a3, a4, c1, c2, c3, c4⟩, ⟨l1, l2, l3, l4⟩, rfl, ⟨by show l1.length ≤ _; omega, by show l2.length ≤ _; omega, by show l3.length ≤ _; omega, by show l4.length ≤ _; omega, ?_, ?_, ?_, ?_⟩, ⟨at1, at2, at3, at4⟩⟩
  · intro k hk
    have := s1 k hk
    exact ⟨Nat.le_trans this.1 (by omega), Nat.le_trans this.2 (by omega)⟩
  · intro k hk
    have := s2 k hk
    exact ⟨Nat.le_trans this.1 (by omega), Nat.le_trans this.2 (by omega)⟩
  · intro k hk
    have := s3 k hk
    exact ⟨Nat.le_trans this.1 (by omega), Nat.le_trans this.2 (by omega)⟩
  · intro k hk
    have := s4 k hk
    exact ⟨Nat.le_trans this.1 (by omega), Nat.le_trans this.2 (by omega)⟩
end
end Go.Proofs.YtomikcemiacjmaaGreatDoor

namespace Go.Proofs.YtomikcemiacjmaaGreatDoor
open Go.ChangeShapes Go.WideShapes Go.RowKit Go.Joins Go.Deep

instance : Inhabited P.Chg := ⟨⟨0, default, default, default⟩⟩
theorem ch_fields : ∃ f0 f1 f2 f3 : Field, Tryz.prog.underlying 73 = some (.struct #[f0, f1, f2, f3]) ∧ (f0.type = 3 ∧ f1.type = 42 ∧ f2.type = 62 ∧ f3.type = 46) ∧ (f0.offset = 0 ∧ f1.offset = 1 ∧ f2.offset = 4 ∧ f3.offset = 6) :=
  ⟨_, _, _, _, Tryz.underlying73, ⟨rfl, rfl, rfl, rfl⟩, ⟨rfl, rfl, rfl, rfl⟩⟩
theorem cells3 : Tryz.prog.cellsOf 3 = 1 := by kernel_rfl
theorem cells73 : Tryz.prog.cellsOf 73 = 10 := by kernel_rfl
def chLs (c : P.Chg) : List Value := [.int .i64 c.kind, .string c.file.p, .string c.file.d, .bool c.file.r, .string c.set.k, .string c.set.v, .string c.svc.n, .string c.svc.p, .bool c.svc.a, .bool c.svc.o]
def chD {H : Type} (x : P.Chg) : DataW H := .agg [.lit (.int .i64 x.kind), .agg [.lit (.string x.file.p.data.toList), .lit (.string x.file.d.data.toList), .lit (.bool x.file.r)],
  .agg [.lit (.string x.set.k.data.toList), .lit (.string x.set.v.data.toList)], .agg [.lit (.string x.svc.n.data.toList), .lit (.string x.svc.p.data.toList), .lit (.bool x.svc.a), .lit (.bool x.svc.o)]]
section
variable {H : Type} {enc : TypeId × Value → H} {W : World} {base : Nat} {spare : Nat → Bool} {held : Bool}

set_option maxRecDepth 100000 in
theorem ch_cells {n : Nat} {cs : List Value} {y : DataW H × List MemPlace} (h : DataW.trod enc Tryz.prog W base spare held n 73 cs = some y) :
    ∃ x : P.Chg, cs = chLs x ∧ y.1 = chD x := by
  obtain ⟨f0, f1, f2, f3, u, ⟨t0, t1, t2, t3⟩, ⟨o0, o1, o2, o3⟩⟩ := ch_fields
  obtain ⟨y0, y1, y2, y3, k, rfl, hl, h0, h1, h2, h3⟩ := trod_struct4 u h
  rw [cells73] at hl
  rw [t0, o0, cells3] at h0
  rw [t1, o1, cells42] at h1
  rw [t2, o2, cells62] at h2
  rw [t3, o3, cells46] at h3
  match cs, hl with
  | [c0, c1, c2, c3, c4, c5, c6, c7, c8, c9], _ =>
    simp only [List.drop_succ_cons, List.drop_zero, List.take_succ_cons, List.take_zero] at h0 h1 h2 h3
    obtain ⟨kd, e0, rfl, _⟩ := DataW.trod_int Tryz.underlying3 h0
    obtain ⟨f, e1, g1⟩ := fi_cells h1
    obtain ⟨s, e2, g2⟩ := st_cells h2
    obtain ⟨v, e3, g3⟩ := sv_cells h3
    simp only [List.cons.injEq, and_true] at e0 e1 e2 e3
    obtain ⟨rfl, rfl, rfl⟩ := e1
    obtain ⟨rfl, rfl⟩ := e2
    obtain ⟨rfl, rfl, rfl, rfl⟩ := e3
    subst e0
    exact ⟨⟨kd, f, s, v⟩, rfl, by simp only [chD]; rw [g1, g2, g3]⟩
theorem open_chs {fuel : Nat} {v : Value} {y : DataW H × List MemPlace} (h : DataW.trod enc Tryz.prog W base spare held fuel 27 [v] = some y) :
    ∃ (a : Option Addr) (L : List P.Chg) (cap : Nat), v = .slice a L.length cap ∧ L.length ≤ Rows.uptoBulk y.1 ∧ ChsAt W.heap.size W a L cap ∧ (∀ c ∈ L, P.CSm (Rows.uptoBulk y.1) c) := by
  obtain ⟨a, L, cap, rfl, h1, h2, h3, h4⟩ := open_list (k := 10) (by decide) chLs (fun x => chD x) Tryz.underlying27 cells73
    (fun x => by unfold chD; simp only [Rows.uptoBulk]; omega) (fun n cs y h => ch_cells h) h
  refine ⟨a, L, cap, rfl, h2, ⟨h1, fun hn => ?_⟩, fun c hc => ?_⟩
  · obtain ⟨b, off, e, hb, hc⟩ := h4 hn
    exact ⟨b, off, e, hb, fun k hk => ⟨hc k hk 0 (by decide), hc k hk 1 (by decide), hc k hk 2 (by decide), hc k hk 3 (by decide), hc k hk 4 (by decide), hc k hk 5 (by decide), hc k hk 6 (by decide), hc k hk 7 (by decide), hc k hk 8 (by decide), hc k hk 9 (by decide)⟩⟩
  · have := h3 c hc
    unfold chD at this
    simp only [Rows.uptoBulk, Rows.uptoBulkAll, Array.length_toList] at this
    have e1 : c.file.p.data.size = c.file.p.size := rfl
    have e2 : c.file.d.data.size = c.file.d.size := rfl
    have e3 : c.set.k.data.size = c.set.k.size := rfl
    have e4 : c.set.v.data.size = c.set.v.size := rfl
    have e5 : c.svc.n.data.size = c.svc.n.size := rfl
    have e6 : c.svc.p.data.size = c.svc.p.size := rfl
    exact ⟨by omega, by omega, by omega, by omega, by omega, by omega⟩
end
namespace P
theorem chT_len {c : Chg} (h : CSm 65536 c) : (chT c).size ≤ 400000 := by
  obtain ⟨k, ⟨fp, fd, fr⟩, ⟨sk, sv⟩, ⟨vn, vp, va, vo⟩⟩ := c
  obtain ⟨h1, h2, h3, h4, h5, h6⟩ := h
  simp only at h1 h2 h3 h4 h5 h6
  have q1 := quote_size fd
  have q2 := quote_size sv
  unfold chT
  simp only
  split
  · unfold lineT
    simp only [ByteArray.size_append]
    have e1 : (putW fr).size ≤ 6 := by unfold putW; cases fr <;> decide
    have e2 : (⟨#[32]⟩ : ByteArray).size = 1 := rfl
    omega
  · split
    · rw [ByteArray.size_append]
      have e1 : remT.size = 7 := rfl
      omega
    · split
      · unfold lineT
        simp only [ByteArray.size_append]
        have e1 : (⟨#[115, 101, 116]⟩ : ByteArray).size = 3 := rfl
        have e2 : (⟨#[32]⟩ : ByteArray).size = 1 := rfl
        omega
      · split
        · rw [ByteArray.size_append]
          have e1 : unsT.size = 6 := rfl
          omega
        · split
          · unfold svcT; rw [txt_size]; unfold wordsL; simp only [List.length_append, size_len, bitL_len, List.length_cons, List.length_nil]; omega
          · rw [ByteArray.size_append]
            have e1 : droT.size = 5 := rfl
            omega
theorem chsL_len : ∀ {L : List Chg}, (∀ c ∈ L, chE c = 0) → (chsL L).length ≤ L.length * 400001
  | [], _ => Nat.zero_le _
  | x :: L, h => by
    have h1 := chT_len (chE_small (h x List.mem_cons_self))
    have h2 := chsL_len (L := L) (fun c hc => h c (List.mem_cons_of_mem _ hc))
    have e : chsL (x :: L) = (chT x).data.toList ++ [10] ++ chsL L := by unfold chsL linesL; simp
    rw [e]
    simp only [List.length_append, size_len, List.length_cons, List.length_nil]
    omega
end P
end Go.Proofs.YtomikcemiacjmaaGreatDoor

namespace Go.Proofs.YtomikcemiacjmaaGreatDoor
open Go.RowKit Go.Shelf

set_option maxRecDepth 100000 in
set_option maxHeartbeats 16000000 in
theorem equalC_same (L : List P.Chg) (a b : Option Addr) (ca cb : Nat) (hl : L.length ≤ 4000000000) (w : World) (ha : ChsAt w.heap.size w a L ca) (hb : ChsAt w.heap.size w b L cb) :
    Calls Tryz.prog 48 #[.slice a L.length ca, .slice b L.length cb] w fun e w' => e = .returned (.bool true) ∧ Below w.heap.size w w' := by
  have HA := Lib.hid ha
  have HB := Lib.hid hb
  clear ha hb
  go_enter Tryz.func48, Tryz.ntmps48
  go_wp2_with fail
  go_loopw [13] (fun i wr => ∃ k : Nat, k ≤ L.length ∧ i = .int .i64 k ∧ Hid (Below w.heap.size w wr)) (fun i _ => L.length - (intOf i).toNat)
  case atStart => exact ⟨0, Nat.zero_le _, rfl, Lib.hid (Below.refl _ _)⟩
  case round =>
    obtain ⟨k, hk, rfl, HW⟩ := hrel
    by_cases hlt : k < L.length
    · obtain ⟨b1, o1, rfl, _, hc⟩ := (HA.out.below HW.out).at_ (ne_nil_of_lt hlt)
      obtain ⟨b2, o2, rfl, _, hd⟩ := (HB.out.below HW.out).at_ (ne_nil_of_lt hlt)
      obtain ⟨c0, c1, c2, c3, c4, c5, c6, c7, c8, c9⟩ := hc k hlt
      obtain ⟨d0, d1, d2, d3, d4, d5, d6, d7, d8, d9⟩ := hd k hlt
      have i1 : (k : Int) < (L.length : Int) := by omega
      have i0 : (0 : Int) ≤ (k : Int) := by omega
      clear hc hd
      generalize L[k] = x at *
      obtain ⟨kd, ⟨fp, fd, fr⟩, ⟨sk, sv⟩, ⟨vn, vp, va, vo⟩⟩ := x
      simp only at c0 c1 c2 c3 c4 c5 c6 c7 c8 c9 d0 d1 d2 d3 d4 d5 d6 d7 d8 d9
      go_wp2_with fail
      go_region
      have HW' := Lib.hid HW.out.drew
      go_wp2_with fail
      go_roundw
      case rel => exact ⟨k + 1, by omega, by go_num, HW'⟩
      case measure => simp [intOf]; omega
    · go_wp2_with fail
      go_ret
      exact ⟨rfl, HW.out⟩
end Go.Proofs.YtomikcemiacjmaaGreatDoor
