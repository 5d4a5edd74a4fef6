/- The row of JournalsMatch, where what it reads is of bulk at most 1048576: the witness, the wrap. -/
import Derived.Test.YtomikcemiacjmaaGreatDoorZJRowC
import Derived.Test.YtomikcemiacjmaaGreatDoorZULaid
import Derived.Deep.DeepWitnessRowRef

namespace Go.Proofs.YtomikcemiacjmaaGreatDoor
open Go.ChangeShapes Go.WideShapes Go.ChangeAt Go.RowKit Go.Lib
namespace journalsMatch

noncomputable abbrev startArgs : Array Value := #[.agg #[.string ⟨#[]⟩, .slice none 0 0, .slice none 0 0], .int .i64 0, .int .u8 0, .string ⟨#[]⟩]
set_option maxRecDepth 100000 in
theorem reads (os : Os) {H : Type} (enc : TypeId × Value → H) : (DataW.whole enc Tryz.prog ((Txt.laidWorld os).forCall (fun _ _ => 0) ⟨#[], startArgs, []⟩).memory Tryz.f12.params.toList Rows.journalsMatchSpec.vars false startArgs.toList 8).map (fun x => (x.1, x.2.1)) =
    some ([.agg [.lit (.string []), .nil, .nil], .lit (.int .i64 0), .lit (.int .u8 0), .lit (.string [])], []) := by kernel_rfl
set_option maxRecDepth 100000 in
theorem witness_row (os : Os) {H : Type} (enc : TypeId × Value → H) :
    (Rows.OpenSpec.upto Rows.journalsMatchSpec).preRow enc Tryz.prog Tryz.f12 Rows.journalsMatchUptoRow.domain false Rows.journalsMatchUptoRow.laid ((Txt.laidWorld os).forCall (fun _ _ => 0) ⟨#[], startArgs, []⟩).memory startArgs := by
  obtain ⟨⟨x1, x2, x3⟩, hx, hx1⟩ := Option.map_eq_some_iff.1 (reads os enc)
  simp only [Prod.mk.injEq] at hx1
  obtain ⟨rfl, rfl⟩ := hx1
  exact OpenSpec.preRow_of_cond 8 hx (by kernel_rfl) (fun k hk => by cases hk; kernel_rfl) (by kernel_rfl) (Txt.laid_met os _)

set_option maxRecDepth 100000 in
set_option maxHeartbeats 1000000 in
theorem lifted (os : Os) (started : os.Started) (H : Type) (enc : TypeId × Value → H) (F : Stop.Interp) :
    ReturnsInHanded {} Tryz.checked os 12 .any ((Rows.OpenSpec.upto Rows.journalsMatchSpec).preRow enc Tryz.prog Tryz.f12 Rows.journalsMatchUptoRow.domain false Rows.journalsMatchUptoRow.laid) (((Rows.OpenSpec.upto Rows.journalsMatchSpec).at F).post enc Tryz.prog Tryz.f12 false true false false) := by
  refine returnsInHanded_of_row (C := Tryz.checked) (s := Rows.OpenSpec.upto Rows.journalsMatchSpec) own started (by kernel_rfl) Tryz.func12
    (witness_row_atRef (enc := enc) (C := Tryz.checked) false (Txt.laidWorld os) startArgs rfl (by kernel_rfl) (by kernel_rfl) (by kernel_rfl) (witness_row os enc)) ?_
  intro W base args ds gs before hval hW _ hk _ hL hsh _
  exact contract H enc F W base args ds gs before hval hW (hk _ rfl) (Txt.jw_of hL hsh)

end journalsMatch
end Go.Proofs.YtomikcemiacjmaaGreatDoor
