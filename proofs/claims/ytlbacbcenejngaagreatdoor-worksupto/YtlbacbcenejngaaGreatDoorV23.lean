/-
  Node
-/
import Derived.Test.YtlbacbcenejngaaGreatDoorV21
import Derived.Test.YtlbacbcenejngaaGreatDoorV00
import Derived.Test.YtlbacbcenejngaaGreatDoorV01
import Derived.Test.YtlbacbcenejngaaGreatDoorProg
import Derived.Lib.Strings
import Derived.Lib.Slices
import Derived.Lib.Small
import Derived.Lib.Walk
import Derived.Lib.BitFns
import Derived.WalkKit
import Derived.WalkSpells
import Derived.WalkLawsBesides
namespace Go.Proofs.YtlbacbcenejngaaGreatDoor
open Go.RowKit
theorem rinfo {D:List UInt8} (h:D.length=32):(Tryz.prog.info? 29).map (·.size)=some (brow D).size:=by rw [brow_size,h];exact info29
theorem rzero {D:List UInt8} (h:D.length=32):(brow (List.replicate 32 0)).size=(brow D).size:=by
 have e1:=brow_size D
 have e2:(brow (List.replicate 32 0)).size=32:=rfl
 omega
end Go.Proofs.YtlbacbcenejngaaGreatDoor
