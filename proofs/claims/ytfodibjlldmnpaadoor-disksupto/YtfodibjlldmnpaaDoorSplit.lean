/-
  tree.split: the greatest power of 2 below a number.
-/
import Derived.Test.YtfodibjlldmnpaaDoorLen
import Derived.Test.YtfodibjlldmnpaaDoorBits
import Derived.WalkKit
import Derived.WalkSpells
import Derived.WalkLawsBesides
namespace Go.Proofs.YtfodibjlldmnpaaDoor
open Go.RowKit

set_option maxHeartbeats 1000000 in
set_option maxRecDepth 100000 in
theorem split_go (n : Nat) (w : World) (h0 : 2 ≤ n) (h1 : n ≤ 9223372036854775807) :
    Calls Tryd.prog 92 #[.int .i64 n] w fun e w' => e = .returned (.int .i64 (Tre.split n)) ∧ w' = w := by
  have hb := bits_log _ (n - 1) (Nat.le_refl _) (by omega) (by omega)
  have hl : Nat.log2 (n - 1) < 63 := (Nat.log2_lt (by omega)).2 (by omega)
  obtain ⟨k, hk⟩ : ∃ k, k = Nat.log2 (n - 1) := ⟨_, rfl⟩
  have hs : Tre.split n = 2 ^ k := by rw [Tre.split, hk]
  rw [← hk] at hb hl
  have hp : 2 ^ k ≤ 2 ^ 62 := Nat.pow_le_pow_right (by decide) (by omega)
  rw [hs]
  go_enter Tryd.func92, Tryd.ntmps92
  go_wp2_with (go_at_call 103; refine (len_go _ _ ?_ ?_).mono ?_; omega; omega; rintro e w' ⟨rfl, rfl⟩)
  go_ret
  refine ⟨congrArg Ending.returned (congrArg (Value.int IntKind.i64) ?_), rfl⟩
  have e : (2 : Int) ^ k = ((2 ^ k : Nat) : Int) := by simp
  rw [← hk, e]
  unfold wrap64
  omega
end Go.Proofs.YtfodibjlldmnpaaDoor
