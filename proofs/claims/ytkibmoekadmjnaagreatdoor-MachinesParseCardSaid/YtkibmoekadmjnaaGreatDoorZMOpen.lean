/- A machine that came in, opened: its four lists lie in the world, and all is as small as its bulk. -/
/- Walks: what the law MachinesCheck calls besides: landed, zero; Diff where the second machine is wrong. -/
import Derived.Test.YtkibmoekadmjnaaGreatDoorRows
import Derived.Test.YtkibmoekadmjnaaGreatDoorZMCheck
import Derived.OpenShut
import Derived.Carry
import Derived.Deep.Slices
import Derived.Deep.Strs
import Derived.Deep.Fields
import Derived.Lib.SmallJoins
import Derived.ProofKit
import Derived.Test.YtkibmoekadmjnaaGreatDoorZMDiff
import Derived.Test.YtkibmoekadmjnaaGreatDoorZMRCheck2

namespace Go.Proofs.YtkibmoekadmjnaaGreatDoor
open Go.ChangeShapes Go.WideShapes Go.RowKit Go.Joins Go.Deep

theorem bulk_mem {H : Type} {x : DataW H} : ∀ {l : List (DataW H)}, x ∈ l → Rows.uptoBulk x ≤ Rows.uptoBulkAll l
  | y :: l, h => by
    rcases List.mem_cons.1 h with rfl | h
    · simp only [Rows.uptoBulkAll]; omega
    · have := bulk_mem h
      simp only [Rows.uptoBulkAll]; omega
theorem bulk_len {H : Type} : ∀ {l : List (DataW H)}, (∀ x ∈ l, 1 ≤ Rows.uptoBulk x) → l.length ≤ Rows.uptoBulkAll l
  | [], _ => Nat.zero_le _
  | y :: l, h => by
    have h1 := h y (List.mem_cons_self ..)
    have h2 := bulk_len (l := l) fun x hx => h x (List.mem_cons_of_mem _ hx)
    simp only [Rows.uptoBulkAll, List.length_cons]; omega

instance : Inhabited P.St := ⟨⟨default, default⟩⟩
instance : Inhabited P.Fi := ⟨⟨default, default, false⟩⟩
instance : Inhabited P.Sv := ⟨⟨default, default, false, false⟩⟩

theorem st_fields : ∃ f0 f1 : Field, Tryz.prog.underlying 62 = some (.struct #[f0, f1]) ∧ f0.type = 9 ∧ f1.type = 9 ∧ oneCellFields Tryz.prog #[f0, f1] = true := by
  refine ⟨_, _, Tryz.underlying62, rfl, rfl, ?_⟩
  kernel_rfl
theorem fi_fields : ∃ f0 f1 f2 : Field, Tryz.prog.underlying 42 = some (.struct #[f0, f1, f2]) ∧ f0.type = 9 ∧ f1.type = 9 ∧ f2.type = 4 ∧ oneCellFields Tryz.prog #[f0, f1, f2] = true := by
  refine ⟨_, _, _, Tryz.underlying42, rfl, rfl, rfl, ?_⟩
  kernel_rfl
theorem sv_fields : ∃ f0 f1 f2 f3 : Field, Tryz.prog.underlying 46 = some (.struct #[f0, f1, f2, f3]) ∧ f0.type = 9 ∧ f1.type = 9 ∧ f2.type = 4 ∧ f3.type = 4 ∧ oneCellFields Tryz.prog #[f0, f1, f2, f3] = true := by
  refine ⟨_, _, _, _, Tryz.underlying46, rfl, rfl, rfl, rfl, ?_⟩
  kernel_rfl
theorem mach_fields : ∃ f0 f1 f2 f3 : Field, Tryz.prog.underlying 26 = some (.struct #[f0, f1, f2, f3]) ∧ f0.type = 22 ∧ f1.type = 23 ∧ f2.type = 22 ∧ f3.type = 24 ∧ oneCellFields Tryz.prog #[f0, f1, f2, f3] = true := by
  refine ⟨_, _, _, _, Tryz.underlying26, rfl, rfl, rfl, rfl, ?_⟩
  kernel_rfl
theorem cells62 : Tryz.prog.cellsOf 62 = 2 := by kernel_rfl
theorem cells42 : Tryz.prog.cellsOf 42 = 3 := by kernel_rfl
theorem cells46 : Tryz.prog.cellsOf 46 = 4 := by kernel_rfl
theorem cells26 : Tryz.prog.cellsOf 26 = 4 := by kernel_rfl

section
variable {H : Type} {enc : TypeId × Value → H} {W : World} {base : Nat} {spare : Nat → Bool} {held : Bool}

set_option maxRecDepth 100000 in
theorem st_cells {n : Nat} {cs : List Value} {y : DataW H × List MemPlace} (h : DataW.trod enc Tryz.prog W base spare held n 62 cs = some y) :
    ∃ x : P.St, cs = [.string x.k, .string x.v] ∧ y.1 = .agg [.lit (.string x.k.data.toList), .lit (.string x.v.data.toList)] := by
  obtain ⟨f0, f1, u, t0, t1, hone⟩ := st_fields
  obtain ⟨y0, y1, k, rfl, hl, h0, h1⟩ := trod_struct2 u h
  rw [cells62] at hl
  obtain ⟨o0, k0⟩ := hone_of hone 0 f0 rfl
  obtain ⟨o1, k1⟩ := hone_of hone 1 f1 rfl
  match cs, hl with
  | [c0, c1], _ =>
    simp [o0, k0] at h0
    simp [o1, k1] at h1
    rw [t0] at h0
    rw [t1] at h1
    obtain ⟨a, e0, rfl, _⟩ := DataW.trod_string Tryz.underlying9 h0
    obtain ⟨b, e1, rfl, _⟩ := DataW.trod_string Tryz.underlying9 h1
    simp only [List.cons.injEq, and_true] at e0 e1
    subst e0 e1
    exact ⟨⟨a, b⟩, rfl, rfl⟩
set_option maxRecDepth 100000 in
theorem fi_cells {n : Nat} {cs : List Value} {y : DataW H × List MemPlace} (h : DataW.trod enc Tryz.prog W base spare held n 42 cs = some y) :
    ∃ x : P.Fi, cs = [.string x.p, .string x.d, .bool x.r] ∧ y.1 = .agg [.lit (.string x.p.data.toList), .lit (.string x.d.data.toList), .lit (.bool x.r)] := by
  obtain ⟨f0, f1, f2, u, t0, t1, t2, hone⟩ := fi_fields
  obtain ⟨y0, y1, y2, k, rfl, hl, h0, h1, h2⟩ := trod_struct3 u h
  rw [cells42] at hl
  obtain ⟨o0, k0⟩ := hone_of hone 0 f0 rfl
  obtain ⟨o1, k1⟩ := hone_of hone 1 f1 rfl
  obtain ⟨o2, k2⟩ := hone_of hone 2 f2 rfl
  match cs, hl with
  | [c0, c1, c2], _ =>
    simp [o0, k0] at h0
    simp [o1, k1] at h1
    simp [o2, k2] at h2
    rw [t0] at h0
    rw [t1] at h1
    rw [t2] at h2
    obtain ⟨a, e0, rfl, _⟩ := DataW.trod_string Tryz.underlying9 h0
    obtain ⟨b, e1, rfl, _⟩ := DataW.trod_string Tryz.underlying9 h1
    obtain ⟨c, e2, rfl⟩ := DataW.trod_bool Tryz.underlying4 h2
    simp only [List.cons.injEq, and_true] at e0 e1 e2
    subst e0 e1 e2
    exact ⟨⟨a, b, c⟩, rfl, rfl⟩
set_option maxRecDepth 100000 in
theorem sv_cells {n : Nat} {cs : List Value} {y : DataW H × List MemPlace} (h : DataW.trod enc Tryz.prog W base spare held n 46 cs = some y) :
    ∃ x : P.Sv, cs = [.string x.n, .string x.p, .bool x.a, .bool x.o] ∧ y.1 = .agg [.lit (.string x.n.data.toList), .lit (.string x.p.data.toList), .lit (.bool x.a), .lit (.bool x.o)] := by
  obtain ⟨f0, f1, f2, f3, u, t0, t1, t2, t3, hone⟩ := sv_fields
  obtain ⟨y0, y1, y2, y3, k, rfl, hl, h0, h1, h2, h3⟩ := trod_struct4 u h
  rw [cells46] at hl
  obtain ⟨o0, k0⟩ := hone_of hone 0 f0 rfl
  obtain ⟨o1, k1⟩ := hone_of hone 1 f1 rfl
  obtain ⟨o2, k2⟩ := hone_of hone 2 f2 rfl
  obtain ⟨o3, k3⟩ := hone_of hone 3 f3 rfl
  match cs, hl with
  | [c0, c1, c2, c3], _ =>
    simp [o0, k0] at h0
    simp [o1, k1] at h1
    simp [o2, k2] at h2
    simp [o3, k3] at h3
    rw [t0] at h0
    rw [t1] at h1
    rw [t2] at h2
    rw [t3] at h3
    obtain ⟨a, e0, rfl, _⟩ := DataW.trod_string Tryz.underlying9 h0
    obtain ⟨b, e1, rfl, _⟩ := DataW.trod_string Tryz.underlying9 h1
    obtain ⟨c, e2, rfl⟩ := DataW.trod_bool Tryz.underlying4 h2
    obtain ⟨d, e3, rfl⟩ := DataW.trod_bool Tryz.underlying4 h3
    simp only [List.cons.injEq, and_true] at e0 e1 e2 e3
    subst e0 e1 e2 e3
    exact ⟨⟨a, b, c, d⟩, rfl, rfl⟩

theorem block_lt {a : Addr} {v : Value} (h : W.cell? a = some v) : a.block < W.heap.size := by
  unfold World.cell? at h
  split at h
  · rename_i hh; exact (Array.getElem?_eq_some_iff.1 hh).1
  · cases h

/-- WHAT A LIST OPENS TO, whatever its elements: α the elements, k their cells, c how they stand in cells, b how they read. -/
theorem open_list {α : Type} [Inhabited α] {t e : TypeId} {k : Nat} (hk : 0 < k) (c : α → List Value) (g : α → DataW H) (ht : Tryz.prog.underlying t = some (.slice e)) (hc : Tryz.prog.cellsOf e = k)
    (hg : ∀ x, 1 ≤ Rows.uptoBulk (g x))
    (one : ∀ (n : Nat) (cs : List Value) (y : DataW H × List MemPlace), DataW.trod enc Tryz.prog W base spare held n e cs = some y → ∃ x : α, cs = c x ∧ y.1 = g x)
    {fuel : Nat} {v : Value} {y : DataW H × List MemPlace} (h : DataW.trod enc Tryz.prog W base spare held fuel t [v] = some y) :
    ∃ (a : Option Addr) (L : List α) (cap : Nat), v = .slice a L.length cap ∧ L.length ≤ cap ∧ L.length ≤ Rows.uptoBulk y.1 ∧ (∀ x ∈ L, Rows.uptoBulk (g x) ≤ Rows.uptoBulk y.1) ∧
      (L ≠ [] → ∃ b off, a = some ⟨b, off, none⟩ ∧ b < W.heap.size ∧ ∀ i (hi : i < L.length) j (_ : j < k), W.cell? ⟨b, off + i * k + j, none⟩ = (c L[i])[j]?) := by
  rcases open_slice ht h with ⟨h1, rfl⟩ | ⟨a, len, cap, m, n, D, Pl, h1, hb, hl, hm, hmm, rfl, hx⟩
  · obtain rfl := (List.cons.inj h1).1
    exact ⟨none, [], 0, rfl, Nat.le_refl _, Nat.zero_le _, by simp, fun h => absurd rfl h⟩
  obtain rfl := (List.cons.inj h1).1
  have hlm : len ≤ m := by rw [hmm]; split <;> omega
  rw [hc] at hx
  obtain ⟨f, hf⟩ := choose_lt (α := α) (n := len) (p := fun i x => W.cells? base (a.add (i * k)) k = some (c x) ∧ D i = g x) (fun i hi => by
    obtain ⟨cs', h1, h2⟩ := hx i (by omega)
    obtain ⟨x, rfl, h3⟩ := one _ _ _ h2
    exact ⟨x, h1, h3⟩)
  have hD : (List.range len).map D = ((List.range len).map f).map g := by
    rw [List.map_map]
    exact List.map_congr_left fun i hi => (hf i (List.mem_range.1 hi)).2
  refine ⟨some a, (List.range len).map f, cap, by simp, by simpa using hl, ?_, ?_, ?_⟩
  · have := bulk_len (l := ((List.range len).map f).map g) (by
      intro x hx
      obtain ⟨z, _, rfl⟩ := List.mem_map.1 hx
      exact hg z)
    simp only [Rows.uptoBulk]
    rw [hD]
    simp only [List.length_map, List.length_range] at this ⊢
    omega
  · intro x hx
    have := bulk_mem (List.mem_map_of_mem (f := g) hx)
    simp only [Rows.uptoBulk]
    rw [hD]
    omega
  · intro hn
    have h0 : 0 < len := by
      rcases Nat.eq_zero_or_pos len with rfl | h
      · exact absurd rfl hn
      · exact h
    obtain ⟨b, off, spot⟩ := a
    have hz := (hf 0 h0).1
    obtain ⟨_, hlen, hcell⟩ := World.cells?_some hz
    have hne : ∃ v, W.cell? (((⟨b, off, spot⟩ : Addr).add (0 * k)).add 0) = some v := by
      rw [hcell 0 hk]
      exact ⟨_, List.getElem?_eq_getElem (by omega)⟩
    obtain ⟨v, hv⟩ := hne
    rw [Nat.zero_mul] at hv
    have hv' : W.cell? ⟨b, off, spot⟩ = some v := by simpa [Addr.add] using hv
    obtain rfl : spot = none := World.cell?_spot hv'
    refine ⟨b, off, rfl, block_lt hv', fun i hi j hj => ?_⟩
    have hi' : i < len := by simpa using hi
    obtain ⟨_, _, hcell⟩ := World.cells?_some (hf i hi').1
    have := hcell j hj
    rw [add_plain, add_plain] at this
    rw [this]
    simp

theorem open_sts {fuel : Nat} {v : Value} {y : DataW H × List MemPlace} (h : DataW.trod enc Tryz.prog W base spare held fuel 22 [v] = some y) :
    ∃ (a : Option Addr) (L : List P.St) (cap : Nat), v = .slice a L.length cap ∧ L.length ≤ Rows.uptoBulk y.1 ∧ StsAt W.heap.size W a L cap ∧ (∀ k (hk : k < L.length), L[k].k.size ≤ Rows.uptoBulk y.1 ∧ L[k].v.size ≤ Rows.uptoBulk y.1) := by
  obtain ⟨a, L, cap, rfl, h1, h2, h3, h4⟩ := open_list (k := 2) (by decide) (fun x : P.St => [.string x.k, .string x.v]) (fun x => .agg [.lit (.string x.k.data.toList), .lit (.string x.v.data.toList)]) Tryz.underlying22 cells62
    (fun x => by simp only [Rows.uptoBulk]; omega) (fun n cs y h => st_cells h) h
  refine ⟨a, L, cap, rfl, h2, ⟨h1, fun hn => ?_⟩, fun k hk => ?_⟩
  · obtain ⟨b, off, e, hb, hc⟩ := h4 hn
    refine ⟨b, off, e, hb, fun k hk => ⟨?_, ?_⟩⟩
    · exact hc k hk 0 (by decide)
    · exact hc k hk 1 (by decide)
  · have := h3 L[k] (List.getElem_mem hk)
    simp only [Rows.uptoBulk, Rows.uptoBulkAll, Array.length_toList] at this
    have e1 : L[k].k.data.size = L[k].k.size := rfl
    have e2 : L[k].v.data.size = L[k].v.size := rfl
    omega
theorem open_fis {fuel : Nat} {v : Value} {y : DataW H × List MemPlace} (h : DataW.trod enc Tryz.prog W base spare held fuel 23 [v] = some y) :
    ∃ (a : Option Addr) (L : List P.Fi) (cap : Nat), v = .slice a L.length cap ∧ L.length ≤ Rows.uptoBulk y.1 ∧ FisAt W.heap.size W a L cap ∧ (∀ k (hk : k < L.length), L[k].p.size ≤ Rows.uptoBulk y.1 ∧ L[k].d.size ≤ Rows.uptoBulk y.1) := by
  obtain ⟨a, L, cap, rfl, h1, h2, h3, h4⟩ := open_list (k := 3) (by decide) (fun x : P.Fi => [.string x.p, .string x.d, .bool x.r]) (fun x => .agg [.lit (.string x.p.data.toList), .lit (.string x.d.data.toList), .lit (.bool x.r)]) Tryz.underlying23 cells42
    (fun x => by simp only [Rows.uptoBulk]; omega) (fun n cs y h => fi_cells h) h
  refine ⟨a, L, cap, rfl, h2, ⟨h1, fun hn => ?_⟩, fun k hk => ?_⟩
  · obtain ⟨b, off, e, hb, hc⟩ := h4 hn
    refine ⟨b, off, e, hb, fun k hk => ⟨?_, ?_, ?_⟩⟩
    · exact hc k hk 0 (by decide)
    · exact hc k hk 1 (by decide)
    · exact hc k hk 2 (by decide)
  · have := h3 L[k] (List.getElem_mem hk)
    simp only [Rows.uptoBulk, Rows.uptoBulkAll, Array.length_toList] at this
    have e1 : L[k].p.data.size = L[k].p.size := rfl
    have e2 : L[k].d.data.size = L[k].d.size := rfl
    omega
theorem open_svs {fuel : Nat} {v : Value} {y : DataW H × List MemPlace} (h : DataW.trod enc Tryz.prog W base spare held fuel 24 [v] = some y) :
    ∃ (a : Option Addr) (L : List P.Sv) (cap : Nat), v = .slice a L.length cap ∧ L.length ≤ Rows.uptoBulk y.1 ∧ SvsAt W.heap.size W a L cap ∧ (∀ k (hk : k < L.length), L[k].n.size ≤ Rows.uptoBulk y.1 ∧ L[k].p.size ≤ Rows.uptoBulk y.1) := by
  obtain ⟨a, L, cap, rfl, h1, h2, h3, h4⟩ := open_list (k := 4) (by decide) (fun x : P.Sv => [.string x.n, .string x.p, .bool x.a, .bool x.o]) (fun x => .agg [.lit (.string x.n.data.toList), .lit (.string x.p.data.toList), .lit (.bool x.a), .lit (.bool x.o)]) Tryz.underlying24 cells46
    (fun x => by simp only [Rows.uptoBulk]; omega) (fun n cs y h => sv_cells h) h
  refine ⟨a, L, cap, rfl, h2, ⟨h1, fun hn => ?_⟩, fun k hk => ?_⟩
  · obtain ⟨b, off, e, hb, hc⟩ := h4 hn
    refine ⟨b, off, e, hb, fun k hk => ⟨?_, ?_, ?_, ?_⟩⟩
    · exact hc k hk 0 (by decide)
    · exact hc k hk 1 (by decide)
    · exact hc k hk 2 (by decide)
    · exact hc k hk 3 (by decide)
  · have := h3 L[k] (List.getElem_mem hk)
    simp only [Rows.uptoBulk, Rows.uptoBulkAll, Array.length_toList] at this
    have e1 : L[k].n.data.size = L[k].n.size := rfl
    have e2 : L[k].p.data.size = L[k].p.size := rfl
    omega

set_option maxRecDepth 100000 in
/-- A MACHINE OPENED. -/
theorem open_mach {b0 : Nat} {r : Reach} {v : Value} {d : DataW H} {p : List MemPlace} (hv : Value.okWide Tryz.prog W r b0 26 v) (h : DataW.Trod enc Tryz.prog W base spare held 26 v d p) (hb : Rows.uptoBulk d ≤ 1048576) :
    ∃ (A : Ad) (m : P.Mach), v = machV A m ∧ m.fit ∧ Lies W.heap.size W A m := by
  obtain ⟨f0, f1, f2, f3, u, t0, t1, t2, t3, hone⟩ := mach_fields
  obtain ⟨v0, v1, v2, v3, y0, y1, y2, y3, n, rfl, rfl, rfl, h0, h1, h2, h3⟩ := open_agg4 u hone cells26 hv h
  rw [t0] at h0
  rw [t1] at h1
  rw [t2] at h2
  rw [t3] at h3
  obtain ⟨a1, l1, c1, rfl, n1, at1, s1⟩ := open_sts h0
  obtain ⟨a2, l2, c2, rfl, n2, at2, s2⟩ := open_fis h1
  obtain ⟨a3, l3, c3, rfl, n3, at3, s3⟩ := open_sts h2
  obtain ⟨a4, l4, c4, rfl, n4, at4, s4⟩ := open_svs h3
  simp only [Rows.uptoBulk, Rows.uptoBulkAll] at hb
  refine ⟨⟨a1, a2, a3, a4, c1, c2, c3, c4⟩, ⟨l1, l2, l3, l4⟩, rfl, ⟨by show l1.length ≤ _; omega, by show l2.length ≤ _; omega, by show l3.length ≤ _; omega, by show l4.length ≤ _; omega, ?_, ?_, ?_, ?_⟩, ⟨at1, at2, at3, at4⟩⟩
  · intro k hk
    have := s1 k hk
    exact ⟨Nat.le_trans this.1 (by omega), Nat.le_trans this.2 (by omega)⟩
  · intro k hk
    have := s2 k hk
    exact ⟨Nat.le_trans this.1 (by omega), Nat.le_trans this.2 (by omega)⟩
  · intro k hk
    have := s3 k hk
    exact ⟨Nat.le_trans this.1 (by omega), Nat.le_trans this.2 (by omega)⟩
  · intro k hk
    have := s4 k hk
    exact ⟨Nat.le_trans this.1 (by omega), Nat.le_trans this.2 (by omega)⟩
end
end Go.Proofs.YtkibmoekadmjnaaGreatDoor

namespace Go.Proofs.YtkibmoekadmjnaaGreatDoor
open Go.RowKit Go.Shelf

theorem name_a : P.nameS ⟨#[97]⟩ = true := by decide +kernel
theorem landed_any (w : World) : Calls Tryz.prog 12 #[] w fun e w' => e = .returned (.bool true) ∧ w = w' := by
  have H := fun W => isName_any ⟨#[97]⟩ (by decide) W
  rw [name_a] at H
  replace H := Lib.hid H
  go_enter Tryz.func12, Tryz.ntmps12
  go_wp2_with (go_at_call 79; refine (H.out _).mono ?_; rintro e w' ⟨rfl, rfl⟩)
  go_ret
  exact ⟨rfl, rfl⟩
theorem equalS_nil (w : World) : Calls Tryz.prog 49 #[.slice none 0 0, .slice none 0 0] w fun e w' => e = .returned (.bool true) ∧ w = w' := by
  go_enter Tryz.func49, Tryz.ntmps49
  go_wp2_with fail
  refine wp_loop_rounds 1 ?_
  rw [rounds_succ]
  go_wp2
  go_ret
  exact ⟨rfl, rfl⟩
theorem equalF_nil (w : World) : Calls Tryz.prog 131 #[.slice none 0 0, .slice none 0 0] w fun e w' => e = .returned (.bool true) ∧ w = w' := by
  go_enter Tryz.func131, Tryz.ntmps131
  go_wp2_with fail
  refine wp_loop_rounds 1 ?_
  rw [rounds_succ]
  go_wp2
  go_ret
  exact ⟨rfl, rfl⟩
theorem equalV_nil (w : World) : Calls Tryz.prog 132 #[.slice none 0 0, .slice none 0 0] w fun e w' => e = .returned (.bool true) ∧ w = w' := by
  go_enter Tryz.func132, Tryz.ntmps132
  go_wp2_with fail
  refine wp_loop_rounds 1 ?_
  rw [rounds_succ]
  go_wp2
  go_ret
  exact ⟨rfl, rfl⟩
set_option maxRecDepth 100000 in
theorem same_zero (w : World) : Calls Tryz.prog 46 #[.agg mz, .agg mz] w fun e w' => e = .returned (.bool true) ∧ Below w.heap.size w w' := by
  have H1 := Lib.hid equalS_nil
  have H2 := Lib.hid equalF_nil
  have H3 := Lib.hid equalV_nil
  have HB := Lib.hid (below2 w (.cells mz 26) (.cells mz 26))
  go_enter Tryz.func46, Tryz.ntmps46
  go_wp2_with (first
    | (go_at_call 49; refine (H1.out _).mono ?_; rintro e w' ⟨rfl, rfl⟩)
    | (go_at_call 131; refine (H2.out _).mono ?_; rintro e w' ⟨rfl, rfl⟩)
    | (go_at_call 132; refine (H3.out _).mono ?_; rintro e w' ⟨rfl, rfl⟩))
  go_ret
  exact ⟨rfl, HB.out⟩
theorem zero_any (w : World) : Calls Tryz.prog 20 #[.agg mz] w fun e w' => e = .returned (.bool true) ∧ Below w.heap.size w w' := by
  have H := Lib.hid same_zero
  go_enter Tryz.func20, Tryz.ntmps20
  go_wp2_with fail
  refine (H.out _).mono ?_
  rintro x w1 ⟨rfl, hb⟩
  have HB := Lib.hid (bstep (below_alloc _ _) hb)
  clear hb
  go_wp2_with fail
  go_ret
  exact ⟨rfl, HB.out⟩
set_option maxRecDepth 100000 in
theorem diff_bad2 (s1 s2 s3 s4 t1 t2 t3 t4 : Value) (f : Int) (hf : f ≠ 0) (w : World) (h : ChecksTo (.agg #[s1, s2, s3, s4]) 0 w) (h2 : ChecksTo (.agg #[t1, t2, t3, t4]) f w) :
    Calls Tryz.prog 15 #[.agg #[s1, s2, s3, s4], .agg #[t1, t2, t3, t4]] w fun x w' => x = .returned (.tuple #[.slice none 0 0, .int .i64 f]) ∧ Below w.heap.size w w' := by
  have H := Lib.hid h.2
  have H2 := Lib.hid h2.2
  have g : (f != 0) = true := by simpa using hf
  clear h h2 hf
  go_enter Tryz.func15, Tryz.ntmps15
  go_wp2_with fail
  refine (H.out _ (below2 _ _ _)).mono ?_
  rintro x w1 ⟨rfl, hb⟩
  have hRB := (HasRow.new (w.alloc (.cells #[s1, s2, s3, s4] 26)) #[t1, t2, t3, t4] 26).below hb
  rw [World.size_alloc] at hRB
  obtain ⟨q1, q2, q3, q4, q5⟩ := hrow4 hRB
  have HB := Lib.hid (bstep (below2 _ _ _) hb)
  clear hb hRB
  go_wp2_with fail
  refine (H2.out _ HB.out).mono ?_
  rintro x w2 ⟨rfl, hb⟩
  have HB2 := Lib.hid (bstep HB.out hb)
  clear hb
  go_wp2_with fail
  go_ret2
  exact ⟨rfl, HB2.out⟩
end Go.Proofs.YtkibmoekadmjnaaGreatDoor
