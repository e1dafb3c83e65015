/-
  math/bits: how many bits a number has.
-/
import Derived.Test.YtfodibjlldmnpaaDoorProg
import Derived.Test.YtfodibjlldmnpaaDoorTre
import Derived.Lib.Strings
import Derived.Lib.Slices
import Derived.Lib.Small
import Derived.Lib.Walk
import Derived.Lib.BitFns
namespace Go.Proofs.YtfodibjlldmnpaaDoor

theorem bits_log (m : Nat) : ∀ x : Nat, x ≤ m → 0 < x → x < 2 ^ 64 → Lib.bitLen x = Nat.log2 x + 1 := by
  induction m with
  | zero => intro x h1 h2; omega
  | succ m ih =>
    intro x hm h0 h1
    rw [Lib.bitLen_half x (by omega) h1, Nat.log2_def]
    by_cases h2 : 2 ≤ x
    · rw [if_pos h2, ih (x / 2) (by omega) (by omega) (by omega)]; omega
    · rw [if_neg h2, show x / 2 = 0 by omega]; rfl

theorem shift_at (x : Int) (h0 : 0 ≤ x) (h1 : x < 18446744073709551616) (k : Nat) (p : Nat) (hp : p = 2 ^ k) (h : p ≤ x.toNat) (b : Int) (hb0 : 0 ≤ b) (hb1 : b ≤ 255) (hb : b.toNat = x.toNat / p) :
    Lib.len8 b = (Lib.bitLen x.toNat : Int) - k ∧ 0 ≤ Lib.len8 b ∧ Lib.len8 b ≤ 8 := by
  have l := Lib.bitLen_le8' b hb0 hb1
  have s := Lib.bitLen_shift k x.toNat (hp ▸ h) (by omega)
  rw [Lib.len8_of b hb0 hb1]
  rw [← hp, ← hb] at s
  omega

set_option maxHeartbeats 1000000 in
set_option maxRecDepth 100000 in
theorem len64_go (x : Int) (w : World) (h0 : 0 ≤ x) (h1 : x < 9223372036854775808) :
    Calls Tryd.prog 111 #[.int .u64 x] w fun e w' => e = .returned (.int .i64 (Lib.bitLen x.toNat)) ∧ w' = w := by
  go_enter Tryd.func111, Tryd.ntmps111
  go_wp2
  all_goals (go_ret; refine ⟨congrArg Ending.returned (congrArg (Value.int IntKind.i64) ?_), rfl⟩)
  all_goals first
    | omega
    | (have s := shift_at x h0 (by omega) 56 _ rfl (by omega) (x / 4294967296 / 65536 / 256 % 256) (by omega) (by omega) (by omega); omega)
    | (have s := shift_at x h0 (by omega) 48 _ rfl (by omega) (x / 4294967296 / 65536 % 256) (by omega) (by omega) (by omega); omega)
    | (have s := shift_at x h0 (by omega) 40 _ rfl (by omega) (x / 4294967296 / 256 % 256) (by omega) (by omega) (by omega); omega)
    | (have s := shift_at x h0 (by omega) 32 _ rfl (by omega) (x / 4294967296 % 256) (by omega) (by omega) (by omega); omega)
    | (have s := shift_at x h0 (by omega) 24 _ rfl (by omega) (x / 65536 / 256 % 256) (by omega) (by omega) (by omega); omega)
    | (have s := shift_at x h0 (by omega) 16 _ rfl (by omega) (x / 65536 % 256) (by omega) (by omega) (by omega); omega)
    | (have s := shift_at x h0 (by omega) 8 _ rfl (by omega) (x / 256 % 256) (by omega) (by omega) (by omega); omega)
    | (have s := Lib.len8_of (x % 256) (by omega) (by omega); have l := Lib.bitLen_le8' (x % 256) (by omega) (by omega); rw [show (x % 256).toNat = x.toNat by omega] at s l; omega)

set_option maxHeartbeats 1000000 in
set_option maxRecDepth 100000 in
theorem len_go (x : Int) (w : World) (h0 : 0 ≤ x) (h1 : x < 9223372036854775808) :
    Calls Tryd.prog 103 #[.int .u64 x] w fun e w' => e = .returned (.int .i64 (Lib.bitLen x.toNat)) ∧ w' = w := by
  go_enter Tryd.func103, Tryd.ntmps103
  go_wp2_with (go_at_call 111; refine (len64_go x _ h0 h1).mono ?_; rintro e w' ⟨rfl, rfl⟩)
  go_ret
  exact ⟨rfl, rfl⟩

end Go.Proofs.YtfodibjlldmnpaaDoor
