/-
  The law's own pick and num.
-/
import Derived.Test.YtfodibjlldmnpaaDoorRproves
namespace Go.Proofs.YtfodibjlldmnpaaDoor
open Go.RowKit

set_option maxRecDepth 100000 in
set_option maxHeartbeats 1000000 in
theorem lawpick_go (c : Int) (n : Nat) (w : World) (h0 : -9223372036854775808 ≤ c) (h1 : c ≤ 9223372036854775807) (hn : 0 < n) (hm : n ≤ 140737488355328) :
    Calls Tryd.prog 14 #[.int .i64 c, .int .i64 n] w fun e w' => (∃ k : Nat, k < n ∧ e = .returned (.int .i64 k)) ∧ w' = w := by
  have hn0 : (n : Int) ≠ 0 := by omega
  have hmod : ∀ x : Int, 0 ≤ x → ∃ r : Nat, r < n ∧ x.tmod (n : Int) = (r : Int) := fun x hx => by
    refine ⟨(x % n).toNat, ?_, ?_⟩
    · have := Int.emod_lt_of_pos x (show (0 : Int) < n by omega)
      have := Int.emod_nonneg x hn0
      omega
    · rw [Int.tmod_eq_emod_of_nonneg hx, Int.toNat_of_nonneg (Int.emod_nonneg _ hn0)]
  by_cases hc : c < 0
  · obtain ⟨r, hr, ht⟩ := hmod (-(c + 1)) (by omega)
    clear hmod
    go_enter Tryd.func14, Tryd.ntmps14
    go_wp2_with fail
    go_ret
    exact ⟨⟨r, hr, rfl⟩, rfl⟩
  · obtain ⟨r, hr, ht⟩ := hmod c (by omega)
    clear hmod
    go_enter Tryd.func14, Tryd.ntmps14
    go_wp2_with fail
    go_ret
    exact ⟨⟨r, hr, rfl⟩, rfl⟩

theorem num_go (x : Int) (w : World) : Calls Tryd.prog 22 #[.int .i64 x] w fun e w' => e = .returned (.int .i64 x) ∧ w' = w := by
  go_enter Tryd.func22, Tryd.ntmps22
  go_wp2_with fail
  go_ret
  exact ⟨rfl, rfl⟩

end Go.Proofs.YtfodibjlldmnpaaDoor
