/-
  Climb Prove
-/
import Derived.Test.YtlbacbcenejngaaGreatDoorV23
import Derived.Deep.MidRow
import Derived.Deep.RegionHeld3
namespace Go.Proofs.YtlbacbcenejngaaGreatDoor
open Go.RowKit
abbrev blist (B:List UInt8):List Value:=B.map fun c=>Value.int .u8 (c.toNat:Int)
theorem blist_one (B:List UInt8):∀ v∈blist B,v.oneCell'=true:=fun v hv=>(Array.all_eq_true_iff_forall_mem.1 (brow_one B)) v (by simpa [brow] using hv)
end Go.Proofs.YtlbacbcenejngaaGreatDoor
namespace Go.Proofs.YtlbacbcenejngaaGreatDoor
open Go.RowKit
theorem fold_set (l:List Value):∀ (k:Nat) (a:Array Value),a.size=k+l.length→((l.zipIdx k).foldl (fun cs x=>cs.setIfInBounds x.2 x.1) a)=(a.toList.take k++l).toArray:=by
 induction l with
 | nil =>
  intro k a h
  simp only [List.zipIdx_nil,List.foldl_nil,List.append_nil]
  rw [List.take_of_length_le (by simp at h ⊢;omega)]
 | cons v r ih =>
  intro k a h
  rw [List.zipIdx_cons,List.foldl_cons,ih (k+1) _ (by simp at h ⊢;omega)]
  congr 1
  rw [Array.toList_setIfInBounds,List.take_succ_eq_append_getElem (by simp at h ⊢;omega),List.take_set_of_le (Nat.le_refl _)]
  simp
end Go.Proofs.YtlbacbcenejngaaGreatDoor
