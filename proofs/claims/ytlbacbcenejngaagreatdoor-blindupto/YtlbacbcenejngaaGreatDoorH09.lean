/-
  Own
-/
import Derived.Test.YtlbacbcenejngaaGreatDoorH05
import Derived.Test.YtlbacbcenejngaaGreatDoorProg
import Derived.WalkKit
import Derived.WalkSpells
import Derived.WalkLawsBesides
import Derived.Deep.RegionLaw
namespace Go.Proofs.YtlbacbcenejngaaGreatDoor
open Go.RowKit
open Sha (R)
abbrev u8s (L : List UInt8) : List Value := L.map fun c => Value.int .u8 (c.toNat : Int)
theorem add_addr (g o j : Nat) : (⟨g, o, none⟩ : Addr).add j = ⟨g, o + j, none⟩ := by unfold Addr.add; split <;> simp_all
end Go.Proofs.YtlbacbcenejngaaGreatDoor
