/- Walks: package disk: Check. -/
import Derived.Test.YtemnhihpoabefaaGreatDoorMListV
import Derived.Test.YtemnhihpoabefaaGreatDoorMListF
namespace Go.Proofs.YtemnhihpoabefaaGreatDoor
open Go.RowKit Go.Shelf

/-- where a machine's four lists lie -/
structure Ad where
  a1 : Option Addr
  a2 : Option Addr
  a3 : Option Addr
  a4 : Option Addr
  c1 : Nat
  c2 : Nat
  c3 : Nat
  c4 : Nat
def machV (A : Ad) (m : P.Mach) : Value := .agg #[.slice A.a1 m.facts.length A.c1, .slice A.a2 m.files.length A.c2, .slice A.a3 m.sets.length A.c3, .slice A.a4 m.svcs.length A.c4]
structure Lies (m₀ : Nat) (w : World) (A : Ad) (m : P.Mach) : Prop where
  f : StsAt m₀ w A.a1 m.facts A.c1
  i : FisAt m₀ w A.a2 m.files A.c2
  s : StsAt m₀ w A.a3 m.sets A.c3
  v : SvsAt m₀ w A.a4 m.svcs A.c4
theorem Lies.below {m₀ : Nat} {w w' : World} {A : Ad} {m : P.Mach} (h : Lies m₀ w A m) (hb : Below m₀ w w') : Lies m₀ w' A m := ⟨h.f.below hb, h.i.below hb, h.s.below hb, h.v.below hb⟩
theorem StsAt.up {m m' : Nat} {w : World} {a : Option Addr} {L : List P.St} {cap : Nat} (h : StsAt m w a L cap) (hm : m ≤ m') : StsAt m' w a L cap :=
  ⟨h.le, fun hn => let ⟨b, off, e, hb, hc⟩ := h.at_ hn; ⟨b, off, e, Nat.lt_of_lt_of_le hb hm, hc⟩⟩
theorem FisAt.up {m m' : Nat} {w : World} {a : Option Addr} {L : List P.Fi} {cap : Nat} (h : FisAt m w a L cap) (hm : m ≤ m') : FisAt m' w a L cap :=
  ⟨h.le, fun hn => let ⟨b, off, e, hb, hc⟩ := h.at_ hn; ⟨b, off, e, Nat.lt_of_lt_of_le hb hm, hc⟩⟩
theorem SvsAt.up {m m' : Nat} {w : World} {a : Option Addr} {L : List P.Sv} {cap : Nat} (h : SvsAt m w a L cap) (hm : m ≤ m') : SvsAt m' w a L cap :=
  ⟨h.le, fun hn => let ⟨b, off, e, hb, hc⟩ := h.at_ hn; ⟨b, off, e, Nat.lt_of_lt_of_le hb hm, hc⟩⟩
theorem Lies.up {m m' : Nat} {w : World} {A : Ad} {M : P.Mach} (h : Lies m w A M) (hm : m ≤ m') : Lies m' w A M := ⟨h.f.up hm, h.i.up hm, h.s.up hm, h.v.up hm⟩
structure P.Mach.fit (m : P.Mach) : Prop where
  l1 : m.facts.length ≤ 4294967280
  l2 : m.files.length ≤ 4294967280
  l3 : m.sets.length ≤ 4294967280
  l4 : m.svcs.length ≤ 4294967280
  f : stsFit m.facts
  i : fisFit m.files
  s : stsFit m.sets
  v : svsFit m.svcs

theorem beside0_any (w : World) : Calls Tryz.prog 71 #[] w fun e w' => ∃ BM Bs, e = .returned (.func (.func 131) #[] #[.pointer (some ⟨Bs, 0, none⟩)]) ∧
    HasRow w' Bs #[.map (some BM)] ∧ SetM w' BM 0 (fun _ => false) ∧ w.heap.size ≤ BM ∧ Bs ≠ BM ∧ Below w.heap.size w w' := by
  have hmm := @run_makeMap Tryz.prog
  go_enter Tryz.func71, Tryz.ntmps71
  go_wp2
  go_ret
  refine ⟨w.heap.size, w.heap.size + 1, rfl, ?_, (SetMap.made _ _ _ _).alloc _, Nat.le_refl _, by omega, ((Below.refl _ w).alloc (Nat.le_refl _) _).alloc (by simp) _⟩
  have := HasRow.new (w.alloc (.map #[] 0)) #[.map (some w.heap.size)] 91
  rwa [World.size_alloc] at this

theorem checkListF_at (L : List P.Fi) (a : Option Addr) (cap : Nat) (hl : L.length ≤ 4294967280) (hs : fisFit L) (nb BM Bs m₀ : Nat) (W : World) (hn : nb = W.heap.size) (hw : Good W) (h8 : 8 ≤ m₀) (hmB : m₀ ≤ BM) (hm : FisAt m₀ W a L cap)
    (hBs : HasRow W Bs #[.map (some BM)]) (hM : SetM W BM 0 (fun _ => false)) (n2 : Bs ≠ BM) :
    Calls Tryz.prog 68 #[.slice a L.length cap, .func (.func 69) #[] #[], .func (.func 70) #[] #[], .slice (some ⟨nb, 0, none⟩) 1 1]
      (W.alloc (.cells #[.func (.func 131) #[] #[.pointer (some ⟨Bs, 0, none⟩)]] 92)) fun e w' => e = .returned (.int .i64 (P.listErr P.fileErr P.Fi.p (P.clash L) L)) ∧ Below m₀ (W.alloc (.cells #[.func (.func 131) #[] #[.pointer (some ⟨Bs, 0, none⟩)]] 92)) w' := by
  subst hn
  have hlt := hM.lt
  refine (checkListF_any L a cap W.heap.size Bs BM m₀ hl hs (W.alloc _) (hw.mono (below_alloc _ _)) h8 hmB (hm.below ((below_alloc W _).mono (by omega))) (HasRow.new W _ _) (hBs.alloc _) (hM.alloc _) (by omega) n2).mono ?_
  rintro e w' ⟨rfl, hg⟩
  exact ⟨rfl, below_of_grown hg (by simp; omega) hmB⟩

theorem dcheck_large (A : Ad) (m : P.Mach) (h : 100 < m.facts.length ∨ 2000 < m.files.length ∨ 2000 < m.sets.length ∨ 100 < m.svcs.length) (w : World) :
    Calls Tryz.prog 11 #[machV A m] w fun e w' => e = .returned (.int .i64 4) ∧ Below w.heap.size w w' := by
  obtain ⟨a1, a2, a3, a4, c1, c2, c3, c4⟩ := A
  obtain ⟨F, I, S, V⟩ := m
  simp only at h
  unfold machV
  simp only
  have HB := Lib.hid (below_alloc w (.cells #[.slice a1 F.length c1, .slice a2 I.length c2, .slice a3 S.length c3, .slice a4 V.length c4] 26))
  have hN : ∀ {a b : Nat}, ¬ a < b → decide ((a : Int) < (b : Int)) = false := fun h => decide_eq_false (by omega)
  have hY : ∀ {a b : Nat}, a < b → ((a : Int) < (b : Int)) := fun h => by omega
  by_cases h1 : 100 < F.length
  · have g1 := hY h1
    clear hN hY h
    go_enter Tryz.func11, Tryz.ntmps11
    go_wp2_with fail
    go_ret
    exact ⟨rfl, HB.out⟩
  · have g1 := hN h1
    by_cases h2 : 2000 < I.length
    · have g2 := hY h2
      clear hN hY h
      go_enter Tryz.func11, Tryz.ntmps11
      go_wp2_with fail
      go_ret
      exact ⟨rfl, HB.out⟩
    · have g2 := hN h2
      by_cases h3 : 2000 < S.length
      · have g3 := hY h3
        clear hN hY h
        go_enter Tryz.func11, Tryz.ntmps11
        go_wp2_with fail
        go_ret
        exact ⟨rfl, HB.out⟩
      · have g3 := hN h3
        have g4 := hY (show 100 < V.length by omega)
        clear hN hY h
        go_enter Tryz.func11, Tryz.ntmps11
        go_wp2_with fail
        go_ret
        exact ⟨rfl, HB.out⟩
end Go.Proofs.YtemnhihpoabefaaGreatDoor
