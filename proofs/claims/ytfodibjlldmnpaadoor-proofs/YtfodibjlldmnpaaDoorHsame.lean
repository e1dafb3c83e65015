/-
  sameHashes: two lists of digests that are the same.
-/
import Derived.Test.YtfodibjlldmnpaaDoorSame
import Derived.BigQuiet
namespace Go.Proofs.YtfodibjlldmnpaaDoor
open Go.RowKit

/-- In a quiet region: a load of a row out of a block. -/
theorem quiet_load_mid {P : Program} {C : World → Prop} {a : Act} {o : Oper} {K : Act → Prop} (ty : TypeId) (x : Operand) (ho : o.op = .load ty x) (b off : Nat) (hx : a.eval x = .pointer (some ⟨b, off, none⟩)) (cs : List Value) (d : TypeDesc)
    (hC : ∀ w, C w → w.rangeAt b off cs) (hu : P.underlying ty = some d) (hd : d.isRow = true) (hi : (P.info? ty).map (·.size) = some cs.length) (hk : K (a.put o.dst (.agg cs.toArray))) : o.quiet P a C K :=
  ⟨_, fun w hw => by
    unfold Oper.quietAt execOp
    simp only [ho, hx, Instr.loadAt, Instr.sureAddr, Sem.run_bind, Sem.run_pure, Result.andThen_ok, run_loadVar_mid w b off ty cs d (hC w hw) hu hd hi]
    exact ⟨rfl, rfl⟩, hk⟩
theorem range_drewN {w : World} {b o : Nat} {cs : List Value} (h : w.rangeAt b o cs) : ∀ w', (∃ n, w' = w.drewN n) → w'.rangeAt b o cs := by
  rintro w' ⟨n, rfl⟩
  exact h

set_option maxRecDepth 100000 in
set_option maxHeartbeats 2000000 in
theorem same_go (p : List (List UInt8)) (n c1 c2 : Nat) (a1 a2 : Option Addr) (w : World) (hl : p.length = n) (hn : n ≤ 140737488355328)
    (h1 : 0 < n → ∃ b o, a1 = some ⟨b, o, none⟩ ∧ Hshs w b o p) (h2 : 0 < n → ∃ b o, a2 = some ⟨b, o, none⟩ ∧ Hshs w b o p) :
    Calls Tryd.prog 21 #[.slice a1 n c1, .slice a2 n c2] w fun e w' => e = .returned (.bool true) ∧ Below w.heap.size w w' := by
  have H1 := hide h1
  have H2 := hide h2
  clear h1 h2
  go_enter Tryd.func21, Tryd.ntmps21
  go_wp2_with fail
  go_loopw [5] (fun vi wr => ∃ i : Nat, i ≤ n ∧ vi = .int .i64 i ∧ Below w.heap.size w wr) (fun vi _ => n - (intOf vi).toNat)
  case atStart => exact ⟨0, Nat.zero_le _, rfl, Below.refl _ _⟩
  case round =>
    obtain ⟨i, hi, rfl, hb⟩ := hrel
    by_cases hlt : i < n
    · obtain ⟨b1, o1, rfl, hs1⟩ := unhide H1 (by omega)
      obtain ⟨b2, o2, rfl, hs2⟩ := unhide H2 (by omega)
      obtain ⟨B, hB⟩ : ∃ B, B = p.getD i [] := ⟨_, rfl⟩
      have hBl : B.length = 32 := by rw [hB]; exact hs1.get (by omega)
      have hr1 := (Hshs.two (hs1.kept hb hs1.lt) (i := i) (by omega) hB).2
      have hr2 := (Hshs.two (hs2.kept hb hs2.lt) (i := i) (by omega) hB).2
      have hltI : (i : Int) < (n : Int) := by omega
      have hi24 : (Tryd.prog.info? 24).map (·.size) = some (blist B).length := by have := rinfo hBl; rwa [brow_size, ← List.length_map (f := fun c : UInt8 => Value.int .u8 (c.toNat : Int))] at this
      have heq : ∀ W, (Op.equalIn 10000 24 (.agg (blist B).toArray) (.agg (blist B).toArray)).run Tryd.prog W = .ok true W := fun W => by
        have := eq_row B B hBl hBl W
        rw [beq_self_eq_true] at this
        exact this
      have hg24 := guard_24
      have HB := hide hb
      clear hb hs1 hs2 hB
      go_wp2_with fail
      refine wp_region_quiet_lit (by kernel_rfl) (by kernel_rfl) ?_
      repeat (first
        | go_big_quiet_skip
        | (go_big_quiet_want; (first | (refine quiet_load_mid 24 _ rfl b1 _ rfl (blist B) _ (range_drewN hr1) Tryd.underlying24 rfl hi24 ?_; simp only [Act.put, List.setIfInBounds_toArray, List.set_cons_zero, List.set_cons_succ]) | (refine quiet_load_mid 24 _ rfl b2 _ rfl (blist B) _ (range_drewN hr2) Tryd.underlying24 rfl hi24 ?_; simp only [Act.put, List.setIfInBounds_toArray, List.set_cons_zero, List.set_cons_succ]) | go_big_quiet_op); go_big_quiet_on))
      refine wpQuiet_nil ?_
      rintro _ ⟨nq, rfl⟩
      go_wp2_with fail
      go_roundw
      case rel => exact ⟨i + 1, by omega, by go_num, below_draws (unhide HB) _⟩
      case measure => simp [intOf]; omega
    · obtain rfl : i = n := by omega
      go_wp2_with fail
      go_ret
      exact ⟨rfl, hb⟩

end Go.Proofs.YtfodibjlldmnpaaDoor
