/-
  Law
-/
import Derived.Test.YtlbacbcenejngaaGreatDoorH15
import Derived.Stop.BytesEq
namespace Go.Proofs.YtlbacbcenejngaaGreatDoor
open Go.RowKit
theorem size5 : ∀ w, (sizeOf 5).run Tryz.prog w = .ok 1 w := fun _ => by kernel_rfl
theorem same_row (D : List UInt8) (h : D.length = 32) (W : World) : (Op.equalIn 10000 29 (.agg (brow D)) (.agg (brow D))).run Tryz.prog W = .ok true W := by
  have := run_equalIn_bytes (P := Tryz.prog) W 9998 29 5 32 Tryz.underlying29 Tryz.underlying5 size5 D D h h
  rw [beq_self_eq_true] at this
  exact this
theorem tag_length (k l : List UInt8) : (Sha.tag k l).length = 32 := Sha.digest_length _
end Go.Proofs.YtlbacbcenejngaaGreatDoor
