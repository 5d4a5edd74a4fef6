/- Walks: package disk: the checks of single things. -/
import Derived.Test.YtemnhihpoabefaaGreatDoorMPaths
import Derived.Test.YtemnhihpoabefaaGreatDoorMRow
namespace Go.Proofs.YtemnhihpoabefaaGreatDoor
open Go.RowKit Go.Shelf

/-- a function on texts that answers p -/
def KeyFn (g : Nat) (p : ByteArray → Bool) : Prop :=
  (∀ args w, (callFunc g args).run Tryz.prog w = .ok (.enter g args) w) ∧
  ∀ (s : ByteArray), s.size ≤ 4294967280 → ∀ (w : World), Good w → Calls Tryz.prog g #[.string s] w fun e w' => e = .returned (.bool (p s)) ∧ Below w.heap.size w w'
theorem KeyFn.name : KeyFn 57 P.nameS :=
  ⟨enters_of Tryz.func57 (by kernel_rfl) rfl, fun s hs w _ => (isName_any s hs w).mono fun e w' ⟨h1, h2⟩ => ⟨h1, by subst h2; exact Below.refl _ _⟩⟩
theorem KeyFn.path : KeyFn 89 P.pathS := ⟨enters_of Tryz.func89 (by kernel_rfl) rfl, fun s hs w hw => isPath_any s hs w hw⟩

theorem checkPair_any (g : Nat) (p : ByteArray → Bool) (hg : KeyFn g p) (k v : ByteArray) (hk : k.size ≤ 4294967280) (hv : v.size ≤ 4294967280) (w : World) (hw : Good w) :
    Calls Tryz.prog 130 #[.agg #[.string k, .string v], .func (.func g) #[] #[]] w fun e w' =>
      e = .returned (.int .i64 (if p k then (if P.valueS v then 0 else 2) else 5)) ∧ Below w.heap.size w w' := by
  obtain ⟨eg, hp⟩ := hg
  have HK := fun W hW => hp k hk W hW
  have HV := fun W => isValue_any v hv W
  cases h1 : p k <;> cases h2 : P.valueS v <;> rw [h1] at HK <;> rw [h2] at HV
  all_goals
    replace HK := Lib.hid HK
    replace HV := Lib.hid HV
    have Hw := Lib.hid hw
    clear hp hw h1 h2
    go_enter Tryz.func130, Tryz.ntmps130
    go_wp2_with fail
    refine (HK.out _ (Hw.out.mono (below_alloc _ _))).mono ?_
    rintro e w1 ⟨rfl, hb⟩
    obtain ⟨c0, c1, hlt⟩ := hrow2 ((HasRow.new w _ _).below hb)
    have HB := Lib.hid (bstep (below_alloc _ _) hb)
    clear hb
    go_wp2_with (go_at_call 183; refine (HV.out _).mono ?_; rintro e w' ⟨rfl, rfl⟩)
    go_ret
    exact ⟨rfl, HB.out⟩

theorem checkFact_any (x : P.St) (hk : x.k.size ≤ 4294967280) (hv : x.v.size ≤ 4294967280) (w : World) (hw : Good w) :
    Calls Tryz.prog 67 #[.agg #[.string x.k, .string x.v]] w fun e w' => e = .returned (.int .i64 (P.factErr x)) ∧ Below w.heap.size w w' := by
  have H : ∀ W, Good W → Calls Tryz.prog 130 #[.agg #[.string x.k, .string x.v], .func (.func 57) #[] #[]] W fun e w' => e = .returned (.int .i64 (P.factErr x)) ∧ Below W.heap.size W w' :=
    fun W hW => checkPair_any _ _ KeyFn.name x.k x.v hk hv W hW
  generalize P.factErr x = r at *
  replace H := Lib.hid H
  have Hw := Lib.hid hw
  clear hw
  go_enter Tryz.func67, Tryz.ntmps67
  go_wp2_with fail
  refine (H.out _ (Hw.out.mono (below_alloc _ _))).mono ?_
  rintro e w1 ⟨rfl, hb⟩
  have HB := Lib.hid (bstep (below_alloc _ _) hb)
  clear hb
  go_wp2_with fail
  go_ret
  exact ⟨rfl, HB.out⟩
theorem checkSetting_any (x : P.St) (hk : x.k.size ≤ 4294967280) (hv : x.v.size ≤ 4294967280) (w : World) (hw : Good w) :
    Calls Tryz.prog 72 #[.agg #[.string x.k, .string x.v]] w fun e w' => e = .returned (.int .i64 (P.setErr x)) ∧ Below w.heap.size w w' := by
  have H : ∀ W, Good W → Calls Tryz.prog 130 #[.agg #[.string x.k, .string x.v], .func (.func 89) #[] #[]] W fun e w' => e = .returned (.int .i64 (P.setErr x)) ∧ Below W.heap.size W w' :=
    fun W hW => checkPair_any _ _ KeyFn.path x.k x.v hk hv W hW
  generalize P.setErr x = r at *
  replace H := Lib.hid H
  have Hw := Lib.hid hw
  clear hw
  go_enter Tryz.func72, Tryz.ntmps72
  go_wp2_with fail
  refine (H.out _ (Hw.out.mono (below_alloc _ _))).mono ?_
  rintro e w1 ⟨rfl, hb⟩
  have HB := Lib.hid (bstep (below_alloc _ _) hb)
  clear hb
  go_wp2_with fail
  go_ret
  exact ⟨rfl, HB.out⟩
theorem checkFile_any (x : P.Fi) (hk : x.p.size ≤ 4294967280) (hv : x.d.size ≤ 4294967280) (w : World) (hw : Good w) :
    Calls Tryz.prog 70 #[.agg #[.string x.p, .string x.d, .bool x.r]] w fun e w' => e = .returned (.int .i64 (P.fileErr x)) ∧ Below w.heap.size w w' := by
  have H := fun W hW => isPath_any x.p hk W hW
  unfold P.fileErr
  cases h1 : P.pathS x.p <;> rw [h1] at H <;> by_cases h2 : x.d.size ≤ 65536
  all_goals
    replace H := Lib.hid H
    have HV := Lib.hid h2
    have Hw := Lib.hid hw
    clear hw h1
    first | replace h2 : (x.d.size : Int) ≤ 65536 := by omega
          | replace h2 : (65536 : Int) < (x.d.size : Int) := by omega
    go_enter Tryz.func70, Tryz.ntmps70
    go_wp2_with fail
    refine (H.out _ (Hw.out.mono (below_alloc _ _))).mono ?_
    rintro e w1 ⟨rfl, hb⟩
    obtain ⟨c0, c1, c2, hlt⟩ := hrow3 ((HasRow.new w _ _).below hb)
    have HB := Lib.hid (bstep (below_alloc _ _) hb)
    clear hb
    go_wp2_with fail
    go_ret
    exact ⟨by simp [HV.out], HB.out⟩
theorem checkService_any (x : P.Sv) (hk : x.n.size ≤ 4294967280) (hv : x.p.size ≤ 4294967280) (w : World) (hw : Good w) :
    Calls Tryz.prog 75 #[.agg #[.string x.n, .string x.p, .bool x.a, .bool x.o]] w fun e w' => e = .returned (.int .i64 (P.svcErr x)) ∧ Below w.heap.size w w' := by
  have H := fun W => isName_any x.n hk W
  have H2 := fun W hW => isPath_any x.p hv W hW
  unfold P.svcErr
  cases h1 : P.nameS x.n <;> rw [h1] at H <;> cases h2 : P.pathS x.p <;> rw [h2] at H2
  all_goals
    replace H := Lib.hid H
    replace H2 := Lib.hid H2
    have Hw := Lib.hid hw
    have HA := Lib.hid (below_alloc w (.cells #[.string x.n, .string x.p, .bool x.a, .bool x.o] 46))
    clear hw h1 h2
    go_enter Tryz.func75, Tryz.ntmps75
    go_wp2_with (first | (go_at_call 57; refine (H.out _).mono ?_; rintro e w' ⟨rfl, rfl⟩) | (go_at_call 89; refine (H2.out _ (Hw.out.mono HA.out)).mono ?_; rintro e w1 ⟨rfl, hb⟩))
    go_ret
    exact ⟨rfl, by first | exact bstep HA.out hb | exact HA.out⟩
end Go.Proofs.YtemnhihpoabefaaGreatDoor
