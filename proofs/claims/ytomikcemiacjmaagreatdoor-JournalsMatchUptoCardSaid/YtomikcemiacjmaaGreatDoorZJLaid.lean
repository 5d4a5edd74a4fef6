/- What the row's list gives the walks of JournalsMatch. -/
import Derived.Test.YtomikcemiacjmaaGreatDoorZULaid
import Derived.Test.YtomikcemiacjmaaGreatDoorZJFrame
import Derived.LaidSub

namespace Go.Proofs.YtomikcemiacjmaaGreatDoor
open Go.Lib Go.RowKit
namespace Txt

theorem gRan : Tryz.prog.globalNamed "strconv.ErrRange" = some 3 := by kernel_rfl
theorem gRanT : (Tryz.prog.globals[3]?).map (·.type) = some 173 := by kernel_rfl
theorem gPow : Tryz.prog.globalNamed "internal/strconv.uint64pow10" = some 1 := by kernel_rfl
theorem gPowT : (Tryz.prog.globals[1]?).map (·.type) = some 317 := by kernel_rfl
theorem cellsPow : Tryz.prog.cellsOf 317 = 20 := by kernel_rfl
theorem cells_u64 : ∃ e, Tryz.prog.underlying 317 = some (.array 20 e) ∧ Tryz.prog.underlying e = some (.int .u64) ∧ Tryz.prog.cellsOf e = 1 := by
  refine ⟨_, Tryz.underlying317, ?_, ?_⟩ <;> kernel_rfl
theorem pow_data : (Rows.laid_internal_strconv_uint64pow10 : DataW Unit) = Lib.tabData .u64 Lib.pow10Tab := by kernel_rfl
theorem tab8 {w : World} (h : Lib.TabIs Tryz.prog w "internal/strconv.uint64pow10" .u64 Lib.pow10Tab) : Lib.TabBelow Tryz.prog 8 w "internal/strconv.uint64pow10" .u64 Lib.pow10Tab := fun w' hb => by
  unfold Lib.TabIs World.var? at *
  rw [gPow] at h ⊢
  simp only [Option.bind_some] at h ⊢
  rw [hb.block 1 (by omega)]; exact h
def tzs : List Int := [0, 1, 56, 2, 57, 49, 28, 3, 61, 58, 42, 50, 38, 29, 17, 4, 62, 47, 59, 36, 45, 43, 51, 22, 53, 39, 33, 30, 24, 18, 12, 5, 63, 55, 48, 27, 60, 41, 37, 16, 46, 35, 44, 21, 52, 32, 23, 11, 54, 26, 40, 15, 34, 20, 31, 10, 25, 14, 19, 9, 13, 8, 7, 6]
theorem tz_of {W : World} (h : laidMet Tryz.prog Rows.journalsMatchUptoRow.laid W) : Tz W := by
  have h1 := h.filter (fun x => x.1 == "math/bits.deBruijn64tab")
  have e : Rows.journalsMatchUptoRow.laid.filter (fun x => x.1 == "math/bits.deBruijn64tab") = [("math/bits.deBruijn64tab", Lib.tabData .u8 tzs)] := by rfl
  rw [e] at h1
  exact (Lib.tabIs_of_head (g := 7) (t := 346) (e := 5) (n := 64) (by kernel_rfl) (by kernel_rfl) (by kernel_rfl) (by kernel_rfl) (by kernel_rfl) (by kernel_rfl) h1).cell (by kernel_rfl) 15 (by decide)
theorem jw_of {W : World} (hL : laidMet Tryz.prog Rows.journalsMatchUptoRow.laid W) (hsh : W.ShapedOpen Tryz.prog) : JW W where
  g := good_of hsh
  t := tz_of hL
  e := es_of hL
  r := let ⟨te, pe, h⟩ := iface_cell gRan gRanT Tryz.underlying173 (Lib.laidMet.reads hL (.tail _ (.tail _ (.tail _ (.tail _ (.head _)))))); ⟨_, h, .inr ⟨te, pe, rfl⟩⟩
  p := by
    have h : VarReads Tryz.prog W "internal/strconv.uint64pow10" (Lib.tabData .u64 Lib.pow10Tab) := by
      rw [← pow_data]; exact Lib.laidMet.reads hL (.tail _ (.tail _ (.head _)))
    obtain ⟨g', t', cs, fuel, p, hg', ht', hvar, hd⟩ := h
    obtain rfl := Option.some.inj (gPow.symm.trans hg')
    obtain rfl := Option.some.inj (gPowT.symm.trans ht')
    obtain ⟨e, u1, u2, u3⟩ := cells_u64
    refine tab8 ?_
    unfold Lib.TabIs
    rw [hvar, ← cells_of_tab u1 u2 u3 cellsPow hd]
end Txt
end Go.Proofs.YtomikcemiacjmaaGreatDoor
