/- The row of TextsMatch, where what it reads is of bulk at most 1048576: the witness, the wrap. -/
import Derived.Test.YtgdpbdgaldiggaaGreatDoorZURowC
import Derived.Test.YtgdpbdgaldiggaaGreatDoorZULaid
import Derived.Deep.DeepWitnessRowRef

namespace Go.Proofs.YtgdpbdgaldiggaaGreatDoor
open Go.ChangeShapes Go.WideShapes Go.ChangeAt Go.RowKit Go.Lib
namespace textsMatch

abbrev noMach : Value := .agg #[.slice none 0 0, .slice none 0 0, .slice none 0 0, .slice none 0 0]
noncomputable abbrev startArgs : Array Value := #[.string ⟨#[]⟩, .string ⟨#[]⟩, noMach]
set_option maxRecDepth 100000 in
theorem reads (os : Os) {H : Type} (enc : TypeId × Value → H) : (DataW.whole enc Tryz.prog ((Txt.laidWorld os).forCall (fun _ _ => 0) ⟨#[], startArgs, []⟩).memory Tryz.f8.params.toList Rows.textsMatchSpec.vars false startArgs.toList 8).map (fun x => (x.1, x.2.1)) =
    some ([.lit (.string []), .lit (.string []), .agg [.nil, .nil, .nil, .nil]], []) := by kernel_rfl
set_option maxRecDepth 100000 in
theorem witness_row (os : Os) {H : Type} (enc : TypeId × Value → H) :
    (Rows.OpenSpec.upto Rows.textsMatchSpec).preRow enc Tryz.prog Tryz.f8 Rows.textsMatchUptoRow.domain false Rows.textsMatchUptoRow.laid ((Txt.laidWorld os).forCall (fun _ _ => 0) ⟨#[], startArgs, []⟩).memory startArgs := by
  obtain ⟨⟨x1, x2, x3⟩, hx, hx1⟩ := Option.map_eq_some_iff.1 (reads os enc)
  simp only [Prod.mk.injEq] at hx1
  obtain ⟨rfl, rfl⟩ := hx1
  exact OpenSpec.preRow_of_cond 8 hx (by kernel_rfl) (fun k hk => by cases hk; kernel_rfl) (by kernel_rfl) (Txt.laid_met os _)

set_option maxRecDepth 100000 in
set_option maxHeartbeats 1000000 in
theorem lifted (os : Os) (started : os.Started) (H : Type) (enc : TypeId × Value → H) (F : Stop.Interp) :
    ReturnsInHanded {} Tryz.checked os 8 .any ((Rows.OpenSpec.upto Rows.textsMatchSpec).preRow enc Tryz.prog Tryz.f8 Rows.textsMatchUptoRow.domain false Rows.textsMatchUptoRow.laid) (((Rows.OpenSpec.upto Rows.textsMatchSpec).at F).post enc Tryz.prog Tryz.f8 false true false false) := by
  refine returnsInHanded_of_row (C := Tryz.checked) (s := Rows.OpenSpec.upto Rows.textsMatchSpec) own started (by kernel_rfl) Tryz.func8
    (witness_row_atRef (enc := enc) (C := Tryz.checked) false (Txt.laidWorld os) startArgs rfl (by kernel_rfl) (by kernel_rfl) (by kernel_rfl) (witness_row os enc)) ?_
  intro W base args ds gs before hval hW _ hk _ hL hsh _
  exact contract H enc F W base args ds gs before hval hW (hk _ rfl) (good_of hsh) (Txt.es_of hL)

end textsMatch
end Go.Proofs.YtgdpbdgaldiggaaGreatDoor
