/-
  Turn
-/
import Derived.Test.YtlbacbcenejngaaGreatDoorV01
import Derived.Test.YtlbacbcenejngaaGreatDoorProg
import Derived.WalkKit
import Derived.WalkSpells
import Derived.WalkLawsBesides
namespace Go.Proofs.YtlbacbcenejngaaGreatDoor
open Go.RowKit
open Sha (R)
set_option maxHeartbeats 400000 in
theorem turn_go (x n:Int) (w:World) (h0:0≤x) (h1:x<4294967296) (n0:1≤n) (n1:n≤31) :
  Calls Tryz.prog 132 #[.int .u32 x,.int .i64 n] w fun e w'=>e=.returned (.int .u32 (Sha.rot n.toNat x))∧w'=w:=by
 have hb:=mask31 n0 n1
 go_enter Tryz.func132,Tryz.ntmps132
 go_wp2
 go_ret
 exact ⟨ret_int (rot_u32' h0 h1 n0 n1 _ _ (by omega) (by omega)),rfl⟩
end Go.Proofs.YtlbacbcenejngaaGreatDoor
