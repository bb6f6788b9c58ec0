/-
  Dates written as texts: what the model's functions return. No statement is proved here.
-/
import Derived.Test.YtboopbjdehdhgacDoorFmt
import Derived.Deep.RegionHeld3
namespace Go.Proofs.YtboopbjdehdhgacDoor
open Go.RowKit Go.Sort

end Go.Proofs.YtboopbjdehdhgacDoor
