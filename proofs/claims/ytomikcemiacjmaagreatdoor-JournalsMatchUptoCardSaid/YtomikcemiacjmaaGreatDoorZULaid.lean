/- What the row's list gives the walks of TextsMatch, and a world that meets it. -/
import Derived.Test.YtomikcemiacjmaaGreatDoorZMLaid
import Derived.Test.YtomikcemiacjmaaGreatDoorZUPure

namespace Go.Proofs.YtomikcemiacjmaaGreatDoor
open Go.Lib
namespace Txt

theorem gSyn : Tryz.prog.globalNamed "strconv.ErrSyntax" = some 2 := by kernel_rfl
theorem gSynT : (Tryz.prog.globals[2]?).map (·.type) = some 173 := by kernel_rfl
theorem iface_cell {W : World} {n name : String} {g t : Nat} {ms : Array (String × TypeId)} {d : DataW Unit} (hg : Tryz.prog.globalNamed n = some g) (hty : (Tryz.prog.globals[g]?).map (·.type) = some t)
    (hi : Tryz.prog.underlying t = some (.interface ms)) (h : VarReads Tryz.prog W n (.iface name d)) : ∃ te pe, W.cell? ⟨g, 0, none⟩ = some (.iface te pe) := by
  obtain ⟨g', t', cs, fuel, p, h1, h2, h3, h4⟩ := h
  obtain rfl := Option.some.inj (hg.symm.trans h1)
  obtain rfl := Option.some.inj (hty.symm.trans h2)
  obtain ⟨_, u, v, hc, _, _⟩ := iface_of_trod hi h4
  have := World.var?_cell h1 h3 0
  obtain ⟨l⟩ := cs
  simp only at hc
  subst hc
  exact ⟨u, v, by simpa using this⟩
theorem es_of {W : World} (hL : laidMet Tryz.prog Rows.textsMatchUptoRow.laid W) : Es W :=
  let ⟨te, pe, h⟩ := iface_cell gSyn gSynT Tryz.underlying173 (Lib.laidMet.reads hL (.tail _ (.tail _ (.tail _ (.tail _ (.tail _ (.head _)))))))
  ⟨_, h, .inr ⟨te, pe, rfl⟩⟩

abbrev synText : ByteArray := ⟨#[105, 110, 118, 97, 108, 105, 100, 32, 115, 121, 110, 116, 97, 120]⟩
abbrev ranText : ByteArray := ⟨#[118, 97, 108, 117, 101, 32, 111, 117, 116, 32, 111, 102, 32, 114, 97, 110, 103, 101]⟩
noncomputable def low : Nat := (World.holding Tryz.prog default ⟨#[], #[], []⟩).heap.size
noncomputable def laidWorld (os : Os) : World :=
  let w0 := World.holding Tryz.prog os ⟨#[.cells #[.string ranText] 337, .cells #[.string synText] 337], #[], []⟩
  { w0 with heap := put (put (put (put (put (put (put w0.heap 2 #[.iface 335 (.pointer (some ⟨low + 1, 0, none⟩))]) 3 #[.iface 335 (.pointer (some ⟨low, 0, none⟩))])
      1 (cellsIn Rows.laid_internal_strconv_uint64pow10).toArray) 4 (cellsIn Rows.laid_unicode_utf8_first).toArray) 5 (cellsIn Rows.laid_unicode_utf8_acceptRanges).toArray)
      6 (cellsIn Rows.laid_math_bits_deBruijn32tab).toArray) 7 (cellsIn Rows.laid_math_bits_deBruijn64tab).toArray }
theorem piece1 (os : Os) (args : Array Value) : LaidIn Tryz.prog ((laidWorld os).forCall (fun _ _ => 0) ⟨#[], args, []⟩).memory
    [("math/bits.deBruijn32tab", Rows.laid_math_bits_deBruijn32tab), ("math/bits.deBruijn64tab", Rows.laid_math_bits_deBruijn64tab), ("internal/strconv.uint64pow10", Rows.laid_internal_strconv_uint64pow10),
     ("unicode/utf8.acceptRanges", Rows.laid_unicode_utf8_acceptRanges), ("strconv.ErrRange", Rows.laid_strconv_ErrRange), ("strconv.ErrSyntax", Rows.laid_strconv_ErrSyntax)] [6, 7, 1, 5, 3, low, 2, low + 1] :=
  LaidIn.of_run _ 8 (by kernel_rfl) (by kernel_rfl) (by kernel_rfl) (by kernel_rfl)
theorem piece2 (os : Os) (args : Array Value) : LaidIn Tryz.prog ((laidWorld os).forCall (fun _ _ => 0) ⟨#[], args, []⟩).memory [("unicode/utf8.first", Rows.laid_unicode_utf8_first)] [4] :=
  LaidIn.of_run _ 8 (by kernel_rfl) (by kernel_rfl) (by kernel_rfl) (by kernel_rfl)
theorem laid_met (os : Os) (args : Array Value) : laidMet Tryz.prog Rows.textsMatchUptoRow.laid ((laidWorld os).forCall (fun _ _ => 0) ⟨#[], args, []⟩).memory :=
  ((piece1 os args).append (piece2 os args) (by kernel_rfl)).met
end Txt
end Go.Proofs.YtomikcemiacjmaaGreatDoor
