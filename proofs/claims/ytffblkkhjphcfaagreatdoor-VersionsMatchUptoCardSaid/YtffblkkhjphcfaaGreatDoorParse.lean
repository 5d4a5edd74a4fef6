/- Walks: Parse of package ver. -/
import Derived.Test.YtffblkkhjphcfaaGreatDoorRead3
namespace Go.Proofs.YtffblkkhjphcfaaGreatDoor
open Go.RowKit Go.Shelf

/-- What Parse returns. -/
def parseR : Option (Int × Int × Int × ByteArray) → Value
  | none => .tuple #[.agg #[.int .i64 0, .int .i64 0, .int .i64 0, .string ⟨#[]⟩], .int .i64 8]
  | some (a, b, c, t) => if P.verr a b c t = 0 then .tuple #[.agg #[.int .i64 a, .int .i64 b, .int .i64 c, .string t], .int .i64 0]
      else .tuple #[.agg #[.int .i64 0, .int .i64 0, .int .i64 0, .string ⟨#[]⟩], .int .i64 (P.verr a b c t)]

theorem readV_size {s : ByteArray} {a b c : Int} {t : ByteArray} (h : P.readV s = some (a, b, c, t)) : t.size ≤ s.size := by
  unfold P.readV at h
  split at h
  · cases h
  · rw [Option.map_eq_some_iff] at h
    obtain ⟨x, _, h⟩ := h
    injection h with _ h; injection h with _ h; injection h with _ h
    subst h; exact P.tailS_size s

set_option maxHeartbeats 2000000 in
theorem parse_any (s : ByteArray) (hs : s.size ≤ 4294967280) (w : World) (hw : Good w) :
    Calls Tryz.prog 25 #[.string s] w fun e w' => e = .returned (parseR (P.readV s)) ∧ Below w.heap.size w w' := by
  have HR := Lib.hid (fun W hW => read_any s hs W hW)
  have Hw := Lib.hid hw
  clear hw
  have hsz := fun a b c t h => @readV_size s a b c t h
  cases hr : P.readV s with
  | none =>
    rw [hr] at HR
    unfold readR at HR
    unfold parseR
    clear hr hsz
    go_enter Tryz.func25, Tryz.ntmps25
    go_wp2_with fail
    refine (HR.out _ (Hw.out.mono (below_alloc _ _))).mono ?_
    rintro e w1 ⟨rfl, hb1⟩
    have R1 := (HasRow.new w _ _).below hb1
    obtain ⟨d0, d1, d2, d3, f0, f1, f2, f3, hlt⟩ := row4 R1
    have HB1 := Lib.hid (below_step (below_alloc _ _) hb1)
    clear hb1 R1
    go_wp2
    refine bodyPost_ret (v := .tuple #[.agg #[.int .i64 0, .int .i64 0, .int .i64 0, .string ⟨#[]⟩], .int .i64 8]) ?_ rfl ⟨rfl, ?_⟩
    · clear HB1 HR Hw
      simp [results, Tryz.results25, go_sem, d0, d1, d2, d3, hlt]
    · exact (below_set4' HB1.out (Nat.le_refl _) _ _ _ _).alloc (by have := HB1.out.size; simpa [World.setCell] using this) _
  | some x =>
    obtain ⟨a, b, c, t⟩ := x
    have ht := hsz a b c t hr
    rw [hr] at HR
    unfold readR at HR
    have HC := Lib.hid (fun W hW => check_any a b c t (by omega) W hW)
    clear hr hsz
    by_cases hz : P.verr a b c t = 0
    · have hp : parseR (some (a, b, c, t)) = .tuple #[.agg #[.int .i64 a, .int .i64 b, .int .i64 c, .string t], .int .i64 0] := if_pos hz
      rw [hp]
      rw [hz] at HC
      clear hp hz
      go_enter Tryz.func25, Tryz.ntmps25
      go_wp2_with fail
      refine (HR.out _ (Hw.out.mono (below_alloc _ _))).mono ?_
      rintro e w1 ⟨rfl, hb1⟩
      have R1 := (HasRow.new w _ _).below hb1
      obtain ⟨d0, d1, d2, d3, f0, f1, f2, f3, hlt⟩ := row4 R1
      have HB1 := Lib.hid (below_step (below_alloc _ _) hb1)
      have HR1 := Lib.hid R1
      clear hb1 R1
      go_wp2_with fail
      refine (HC.out _ ((Hw.out.mono HB1.out).mono (below_alloc _ _))).mono ?_
      rintro e w2 ⟨rfl, hb2⟩
      clear d0 d1 d2 d3 f0 f1 f2 f3
      obtain ⟨d0, d1, d2, d3, f0, f1, f2, f3, hlt1⟩ := row4 ((HR1.out.alloc _).below hb2)
      obtain ⟨c0, c1, c2, c3, _, _, _, _, hlt2⟩ := row4 ((HasRow.new w1 _ _).below hb2)
      have HB2 := Lib.hid (below_step (below_step HB1.out (below_alloc _ _)) hb2)
      clear hb2
      go_wp2
      refine bodyPost_ret (v := .tuple #[.agg #[.int .i64 a, .int .i64 b, .int .i64 c, .string t], .int .i64 0]) ?_ rfl ⟨rfl, ?_⟩
      · clear HB1 HR Hw HC HB2
        simp [results, Tryz.results25, go_sem, d0, d1, d2, d3]
      · exact below_set4' HB2.out (Nat.le_refl _) _ _ _ _
    · have hp : parseR (some (a, b, c, t)) = .tuple #[.agg #[.int .i64 0, .int .i64 0, .int .i64 0, .string ⟨#[]⟩], .int .i64 (P.verr a b c t)] := if_neg hz
      rw [hp]
      have hz' : (P.verr a b c t != 0) = true := by simpa using hz
      generalize P.verr a b c t = ee at *
      clear hp
      go_enter Tryz.func25, Tryz.ntmps25
      go_wp2_with fail
      refine (HR.out _ (Hw.out.mono (below_alloc _ _))).mono ?_
      rintro e w1 ⟨rfl, hb1⟩
      have R1 := (HasRow.new w _ _).below hb1
      obtain ⟨d0, d1, d2, d3, f0, f1, f2, f3, hlt⟩ := row4 R1
      have HB1 := Lib.hid (below_step (below_alloc _ _) hb1)
      have HR1 := Lib.hid R1
      clear hb1 R1
      go_wp2_with fail
      refine (HC.out _ ((Hw.out.mono HB1.out).mono (below_alloc _ _))).mono ?_
      rintro e w2 ⟨rfl, hb2⟩
      clear d0 d1 d2 d3 f0 f1 f2 f3
      obtain ⟨d0, d1, d2, d3, f0, f1, f2, f3, hlt1⟩ := row4 ((HR1.out.alloc _).below hb2)
      have HB2 := Lib.hid (below_step (below_step HB1.out (below_alloc _ _)) hb2)
      clear hb2
      go_wp2
      refine bodyPost_ret (v := .tuple #[.agg #[.int .i64 0, .int .i64 0, .int .i64 0, .string ⟨#[]⟩], .int .i64 ee]) ?_ rfl ⟨rfl, ?_⟩
      · clear HB1 HR Hw HC HB2
        simp [results, Tryz.results25, go_sem, d0, d1, d2, d3]
      · exact below_set4' HB2.out (Nat.le_refl _) _ _ _ _
end Go.Proofs.YtffblkkhjphcfaaGreatDoor
