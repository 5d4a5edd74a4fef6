/- Plain functions: the next version. No program stands here. -/
import Derived.Test.YtffblkkhjphcfaaGreatDoorPure2
namespace Go.Proofs.YtffblkkhjphcfaaGreatDoor
namespace P
def empty : ByteArray := ⟨#[]⟩
/-- the numbers of the next version; e: it has no early tail -/
def nextRaw (a b c : Int) (e : Bool) (p : Int) : Int × Int × Int :=
  if p = 0 then (a + 1, 0, 0) else if p = 1 then (a, b + 1, 0) else (a, b, if e then c + 1 else c)
def nextErr (a b c : Int) (s : ByteArray) (p : Int) : Int :=
  if verr a b c s = 0 then
    if p < 0 ∨ 2 < p then 3 else verr (nextRaw a b c s.toList.isEmpty p).1 (nextRaw a b c s.toList.isEmpty p).2.1 (nextRaw a b c s.toList.isEmpty p).2.2 empty
  else verr a b c s
/-- a version's numbers, or zeros where there is an error -/
def guardN (e n : Int) : Int := if e = 0 then n else 0
def guardS (e : Int) (s : ByteArray) : ByteArray := if e = 0 then s else empty
end P
end Go.Proofs.YtffblkkhjphcfaaGreatDoor
