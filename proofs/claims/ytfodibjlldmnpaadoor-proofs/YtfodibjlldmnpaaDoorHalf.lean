/-
  The reference's half and pair.
-/
import Derived.Test.YtfodibjlldmnpaaDoorProves
import Derived.Test.YtfodibjlldmnpaaDoorRtag
namespace Go.Proofs.YtfodibjlldmnpaaDoor
open Go.RowKit

theorem split_of {n j : Nat} (h1 : 2 ^ j < n) (h2 : n ≤ 2 * 2 ^ j) : Tre.split n = 2 ^ j := by
  have : Nat.log2 (n - 1) = j := (Nat.log2_eq_iff (by omega)).2 ⟨by omega, by rw [Nat.pow_succ]; omega⟩
  rw [Tre.split, this]

set_option maxRecDepth 100000 in
set_option maxHeartbeats 1000000 in
theorem half_ref (n : Nat) (w : World) (hn : 2 ≤ n) (hm : n ≤ 9223372036854775807) :
    Calls Tryd.prog 54 #[.int .i64 n] w fun e w' => e = .returned (.int .i64 (Tre.split n)) ∧ w' = w := by
  have hnI : (n : Int) ≤ 9223372036854775807 := by omega
  obtain ⟨S, hS⟩ : ∃ S, S = Tre.split n := ⟨_, rfl⟩
  rw [← hS]
  have HS := hide hS
  clear hS
  go_enter Tryd.func54, Tryd.ntmps54
  go_wp2_with fail
  go_loop [3] (fun v => ∃ k j : Nat, k = 2 ^ j ∧ k < n ∧ 1 ≤ k ∧ v = .int .i64 k) (fun v => n - (intOf v).toNat)
  case atStart => exact ⟨1, 0, rfl, by omega, Nat.le_refl _, rfl⟩
  case round =>
    obtain ⟨k, j, hkj, hk, hk1, rfl⟩ := hrel
    have HKJ := hide hkj
    clear hkj
    by_cases hlt : k < n - k
    · have hltI : (k : Int) < (n : Int) - (k : Int) := by omega
      go_wp2_with fail
      go_round
      case rel => exact ⟨2 * k, j + 1, by rw [unhide HKJ, Nat.pow_succ]; omega, by omega, by omega, by go_num⟩
      case measure => simp [intOf]; omega
    · have hltI : ¬ (k : Int) < (n : Int) - (k : Int) := by omega
      have hkS : k = S := by
        rw [unhide HS, split_of (j := j) (by rw [← unhide HKJ]; exact hk) (by rw [← unhide HKJ]; omega), unhide HKJ]
      subst hkS
      go_wp2_with fail
      go_ret
      exact ⟨rfl, rfl⟩

/-- The three blocks of pair's own. -/
structure Boxk (w : World) (A B : List UInt8) (wx : World) : Prop where
  a : wx.heap[w.heap.size]? = some (.cells (brow A) 24 (0, 0))
  b : wx.heap[w.heap.size + 1]? = some (.cells (brow B) 24 (0, 0))
  r : wx.heap[w.heap.size + 1 + 1]? = some (.cells (brow (List.replicate 32 0)) 24 (0, 0))
  size : w.heap.size + 3 ≤ wx.heap.size
  kept : Kept w.heap.size w wx
theorem Boxk.next {w : World} {A B : List UInt8} {wx wy : World} (h : Boxk w A B wx) (hb : Kept wx.heap.size wx wy) : Boxk w A B wy :=
  ⟨(hb.block _ (by have := h.size; omega)).trans h.a, (hb.block _ (by have := h.size; omega)).trans h.b, (hb.block _ (by have := h.size; omega)).trans h.r, Nat.le_trans h.size hb.size, h.kept.trans (hb.mono (by have := h.size; omega))⟩
theorem boxk_start (w : World) (A B : List UInt8) : Boxk w A B (((w.alloc (.cells (brow A) 24)).alloc (.cells (brow B) 24)).alloc (.cells (brow (List.replicate 32 0)) 24)) := by
  refine ⟨?_, ?_, ?_, ?_, ?_⟩
  · exact (Below.heap_alloc _ _ _ (by simp; omega)).trans ((Below.heap_alloc _ _ _ (by simp)).trans (heap_alloc_new _ _))
  · exact (Below.heap_alloc _ _ _ (by simp)).trans (by have := heap_alloc_new (w.alloc (.cells (brow A) 24)) (.cells (brow B) 24); simpa using this)
  · have h3 := heap_alloc_new ((w.alloc (.cells (brow A) 24)).alloc (.cells (brow B) 24)) (.cells (brow (List.replicate 32 0)) 24)
    rw [World.size_alloc, World.size_alloc] at h3
    exact h3
  · simp
  · exact .of ((((Below.refl w.heap.size w).alloc (Nat.le_refl _) _).alloc (by simp) _).alloc (by simp; omega) _)

set_option maxRecDepth 100000 in
set_option maxHeartbeats 1000000 in
theorem pair_ref (A B : List UInt8) (w : World) (hA : A.length = 32) (hB : B.length = 32) :
    Calls Tryd.prog 55 #[.agg (brow A), .agg (brow B)] w fun e w' => e = .returned (.agg (brow (Tre.node A B))) ∧ Kept w.heap.size w w' := by
  obtain ⟨c1, hc1⟩ : ∃ c : ByteArray, c = ⟨#[1]⟩ ++ ⟨A.toArray⟩ := ⟨_, rfl⟩
  have hc1l : c1.data.toList = 1 :: A := by rw [hc1, ByteArray.data_append, Array.toList_append]; rfl
  have hc1s : c1.size = 33 := by rw [← size_toList, hc1l, List.length_cons, hA]
  have hadd1 : ∀ W : World, (Op.stringOp .add ⟨#[1]⟩ ⟨A.toArray⟩).run Tryd.prog W = .ok (.string c1) W := fun W => by
    rw [hc1]; exact run_string_add_sum _ _ _ (by show 1 + (⟨A.toArray⟩ : ByteArray).size ≤ _; rw [mk_size, hA]; decide)
  obtain ⟨c2, hc2⟩ : ∃ c : ByteArray, c = c1 ++ ⟨B.toArray⟩ := ⟨_, rfl⟩
  have hc2l : c2.data.toList = 1 :: (A ++ B) := by rw [hc2, ByteArray.data_append, Array.toList_append, hc1l]; rfl
  have hc2s : c2.size = 65 := by rw [← size_toList, hc2l, List.length_cons, List.length_append, hA, hB]
  have hadd2 : ∀ W : World, (Op.stringOp .add c1 ⟨B.toArray⟩).run Tryd.prog W = .ok (.string c2) W := fun W => by
    rw [hc2]; exact run_string_add_sum _ _ _ (by show c1.size + (⟨B.toArray⟩ : ByteArray).size ≤ _; rw [hc1s, mk_size, hB]; decide)
  obtain ⟨N, hN⟩ : ∃ N, N = Tre.node A B := ⟨_, rfl⟩
  have hNl : N.length = 32 := by rw [hN]; exact Tre.node_length _ _
  have HN := hide (And.intro hN (show Sha.digest c2.data.toList = N by rw [hN, hc2l]; rfl))
  have HC := hide hc2s
  have HB0 := hide (boxk_start w A B)
  have q0 := (boxk_start w A B).a
  clear hc1 hc1l hc1s hc2 hc2l hc2s hN
  go_enter Tryd.func55, Tryd.ntmps55
  go_wp2_with (refine wpList_load_row rfl 24 _ rfl w.heap.size rfl 24 (brow A) (0, 0) _ q0 Tryd.underlying24 rfl (rinfo hA) ?_)
  refine (text_ref A _ hA).mono ?_
  rintro e w1 ⟨rfl, hb1⟩
  have HB1 := hide ((unhide HB0).next hb1)
  have q1 := (unhide HB1).b
  clear hb1 HB0 q0
  go_wp2_with (refine wpList_load_row rfl 24 _ rfl (w.heap.size + 1) rfl 24 (brow B) (0, 0) _ q1 Tryd.underlying24 rfl (rinfo hB) ?_)
  refine (text_ref B _ hB).mono ?_
  rintro e w2 ⟨rfl, hb2⟩
  have HB2 := hide ((unhide HB1).next hb2)
  clear hb2 HB1 q1
  go_wp2_with fail
  refine (digest_ref c2 _ (by have := unhide HC; omega)).mono ?_
  rintro e w3 ⟨rfl, hb3⟩
  rw [(unhide HN).2]
  have HB3 := hide ((unhide HB2).next hb3)
  have q3 := (unhide HB3).r
  clear hb3 HB2
  go_wp2_with (refine wpList_store_row rfl 24 _ _ rfl (w.heap.size + 1 + 1) (brow N) rfl rfl 24 _ q3 (rinfo hNl) (rzero hNl) (brow_one _) ?_)
  refine bodyPost_ret (v := .agg (brow N)) (results_cell_row Tryd.results55 _ _ (w.heap.size + 1 + 1) 24 _ (0, 0) _ rfl (setRow_heap _ _ _ _ _ _ q3) Tryd.underlying24 rfl (rinfo hNl)) rfl ⟨by rw [(unhide HN).1], ?_⟩
  exact (unhide HB3).kept.setRow (by omega) _
end Go.Proofs.YtfodibjlldmnpaaDoor
