/- Plain functions: the order of versions. No program stands here. -/
import Derived.Test.YtffblkkhjphcfaaGreatDoorPure
import Derived.Lib.Bytealg
import Derived.Lib.Small
namespace Go.Proofs.YtffblkkhjphcfaaGreatDoor
namespace P
/-- the first number that is not zero -/
def orI : List Int → Int
  | [] => 0
  | x :: l => if x = 0 then orI l else x
def wordCmp (a b : ByteArray) : Int :=
  if allS dig a then
    if allS dig b then orI [Lib.compareInt a.size b.size, Lib.compareBytes a.data.toList b.data.toList] else -1
  else if allS dig b then 1 else Lib.compareBytes a.data.toList b.data.toList
def listCmp : List ByteArray → List ByteArray → Int
  | [], [] => 0
  | [], _ :: _ => -1
  | _ :: _, [] => 1
  | x :: xs, y :: ys => if wordCmp x y = 0 then listCmp xs ys else wordCmp x y
def earlyCmp (a b : ByteArray) : Int :=
  if a.toList == b.toList then 0 else if a.toList.isEmpty then 1 else if b.toList.isEmpty then -1 else listCmp (splitS a 46) (splitS b 46)
def verCmp (a1 a2 a3 : Int) (a4 : ByteArray) (b1 b2 b3 : Int) (b4 : ByteArray) : Int :=
  orI [Lib.compareInt a1 b1, Lib.compareInt a2 b2, Lib.compareInt a3 b3, earlyCmp a4 b4]
end P
end Go.Proofs.YtffblkkhjphcfaaGreatDoor
