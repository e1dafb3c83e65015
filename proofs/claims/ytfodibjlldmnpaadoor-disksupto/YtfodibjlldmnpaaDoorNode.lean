/-
  tree.leaf, tree.node.
-/
import Derived.Test.YtfodibjlldmnpaaDoorTags
import Derived.Test.YtfodibjlldmnpaaDoorSplit
namespace Go.Proofs.YtfodibjlldmnpaaDoor
open Go.RowKit

theorem rinfo {D : List UInt8} (h : D.length = 32) : (Tryd.prog.info? 24).map (·.size) = some (brow D).size := by rw [brow_size, h]; exact info24
theorem rzero {D : List UInt8} (h : D.length = 32) : (brow (List.replicate 32 0)).size = (brow D).size := by
  have e1 := brow_size D
  have e2 : (brow (List.replicate 32 0)).size = 32 := rfl
  omega

set_option maxRecDepth 100000 in
set_option maxHeartbeats 1000000 in
theorem leaf_go (s : ByteArray) (w : World) (hs : s.size ≤ 140737488354900) (hT : Table w) (hz : 0 < w.heap.size) :
    Calls Tryd.prog 91 #[.string s] w fun e w' => e = .returned (.agg (brow (Tre.leaf s.data.toList))) ∧ Below w.heap.size w w' := by
  have hT2 : Table (w.alloc (.cells (brow (List.replicate 32 0)) 24)) := hT.below (res_start w).below hz
  have HT := hide hT2
  clear hT hT2
  obtain ⟨c, hc⟩ : ∃ c : ByteArray, c = ⟨#[0]⟩ ++ s := ⟨_, rfl⟩
  have hcl : c.data.toList = 0 :: s.data.toList := by rw [hc, ByteArray.data_append, Array.toList_append]; rfl
  have hcs : c.size = 1 + s.size := by rw [← size_toList, hcl, List.length_cons, size_toList]; omega
  have hadd : ∀ W : World, (Op.stringOp .add ⟨#[0]⟩ s).run Tryd.prog W = .ok (.string c) W := fun W => by
    rw [hc]; exact run_string_add_sum _ _ _ (by show 1 + s.size ≤ _; omega)
  have HC := hide (And.intro hcl hcs)
  clear hc hcl hcs
  go_enter Tryd.func91, Tryd.ntmps91
  go_wp2_with fail
  refine (of_go c _ (by have := (unhide HC).2; omega) (unhide HT) (by simp)).mono ?_
  rintro e w1 ⟨rfl, hb⟩
  have hr : Res w w1 := (res_start w).next (hb.mono (by simp))
  have HD := hide (show Tre.leaf s.data.toList = Sha.digest c.data.toList by rw [(unhide HC).1]; rfl)
  clear hb
  go_wp2_with (refine wpList_store_row rfl 24 _ _ rfl w.heap.size (brow (Sha.digest c.data.toList)) rfl rfl 24 _ hr.r (dig_info _) (dig_zero _) (brow_one _) ?_)
  refine bodyPost_ret (v := .agg (brow (Sha.digest c.data.toList))) (results_cell_row Tryd.results91 _ _ w.heap.size 24 _ (0, 0) _ rfl (setRow_heap _ _ _ _ _ _ hr.r) Tryd.underlying24 rfl (dig_info _)) rfl ⟨by rw [unhide HD], ?_⟩
  exact hr.below.trans ⟨rfl, rfl, rfl, by simp, fun k hk => setRow_other _ _ _ _ (by omega)⟩

theorem gen_world {P Q : World → Prop} {w : World} (h : P w) (k : ∀ w', P w' → Q w') : Q w := k _ h

/-- The three blocks of node's own. -/
structure Boxes (w : World) (A B : List UInt8) (wx : World) : Prop where
  a : wx.heap[w.heap.size]? = some (.cells (brow A) 24 (0, 0))
  b : wx.heap[w.heap.size + 1]? = some (.cells (brow B) 24 (0, 0))
  r : wx.heap[w.heap.size + 1 + 1]? = some (.cells (brow (List.replicate 32 0)) 24 (0, 0))
  size : w.heap.size + 3 ≤ wx.heap.size
  below : Below w.heap.size w wx

set_option maxRecDepth 100000 in
set_option maxHeartbeats 1000000 in
theorem node_go (A B : List UInt8) (w : World) (hA : A.length = 32) (hB : B.length = 32) (hT : Table w) (hz : 0 < w.heap.size) :
    Calls Tryd.prog 93 #[.agg (brow A), .agg (brow B)] w fun e w' => e = .returned (.agg (brow (Tre.node A B))) ∧ Below w.heap.size w w' := by
  have HT := hide hT
  clear hT
  obtain ⟨c1, hc1⟩ : ∃ c : ByteArray, c = ⟨#[1]⟩ ++ ⟨A.toArray⟩ := ⟨_, rfl⟩
  have hc1l : c1.data.toList = 1 :: A := by rw [hc1, ByteArray.data_append, Array.toList_append]; rfl
  have hc1s : c1.size = 33 := by rw [← size_toList, hc1l, List.length_cons, hA]
  have hadd1 : ∀ W : World, (Op.stringOp .add ⟨#[1]⟩ ⟨A.toArray⟩).run Tryd.prog W = .ok (.string c1) W := fun W => by
    rw [hc1]; exact run_string_add_sum _ _ _ (by show 1 + (⟨A.toArray⟩ : ByteArray).size ≤ _; rw [mk_size, hA]; decide)
  obtain ⟨c2, hc2⟩ : ∃ c : ByteArray, c = c1 ++ ⟨B.toArray⟩ := ⟨_, rfl⟩
  have hc2l : c2.data.toList = 1 :: (A ++ B) := by rw [hc2, ByteArray.data_append, Array.toList_append, hc1l]; rfl
  have hc2s : c2.size = 65 := by rw [← size_toList, hc2l, List.length_cons, List.length_append, hA, hB]
  have hadd2 : ∀ W : World, (Op.stringOp .add c1 ⟨B.toArray⟩).run Tryd.prog W = .ok (.string c2) W := fun W => by
    rw [hc2]; exact run_string_add_sum _ _ _ (by show c1.size + (⟨B.toArray⟩ : ByteArray).size ≤ _; rw [hc1s, mk_size, hB]; decide)
  have HF := hide (show Tre.node A B = Sha.digest c2.data.toList by rw [hc2l]; rfl)
  have HC := hide hc2s
  clear hc1 hc1l hc1s hc2 hc2l hc2s
  go_enter Tryd.func93, Tryd.ntmps93
  go_wp2_with fail
  refine gen_world (P := Boxes w A B) (Q := fun x => Code.wp _ _ _ _ x) ⟨?_, ?_, ?_, ?_, ?_⟩ ?_
  · exact (Below.heap_alloc _ _ _ (by simp; omega)).trans ((Below.heap_alloc _ _ _ (by simp)).trans (heap_alloc_new _ _))
  · exact (Below.heap_alloc _ _ _ (by simp)).trans (by have := heap_alloc_new (w.alloc (.cells (brow A) 24)) (.cells (brow B) 24); simpa using this)
  · have h3 := heap_alloc_new ((w.alloc (.cells (brow A) 24)).alloc (.cells (brow B) 24)) (.cells (brow (List.replicate 32 0)) 24)
    rw [World.size_alloc, World.size_alloc] at h3
    exact h3
  · simp
  · exact (((Below.refl w.heap.size w).alloc (Nat.le_refl _) _).alloc (by simp) _).alloc (by simp; omega) _
  · intro wc hb
    have hcvA := conv_brow (P := Tryd.prog) (w := wc.drew) hb.a 81 5 9 Tryd.underlying81 Tryd.underlying5 Tryd.underlying9 32 32 hA.symm
    have hcvB := conv_brow (P := Tryd.prog) (w := wc.drew) hb.b 81 5 9 Tryd.underlying81 Tryd.underlying5 Tryd.underlying9 32 32 hB.symm
    have HB := hide hb
    have hTw := hide ((unhide HT).below hb.below hz)
    clear hb
    go_region_with (go_at_call 34; go_must (refine (of_go c2 wc.drew (by have := unhide HC; omega) (unhide hTw) (by have := (unhide HB).size; show 0 < wc.heap.size; omega)).mono ?_; rintro e w5 ⟨rfl, hb5'⟩; have hb5 : Below wc.heap.size wc w5 := undrew hb5'; have hr5 : w5.heap[w.heap.size + 1 + 1]? = some (.cells (brow (List.replicate 32 0)) 24 (0, 0)) := (hb5.block _ (by have := (unhide HB).size; omega)).trans (unhide HB).r; have hst := store_cells (P := Tryd.prog) hr5 (dig_zero c2.data.toList) (brow_one _); have HR5 := hide (And.intro hr5 hb5); clear hb5 hb5' hr5))
    all_goals
      go_wp2_with fail
      refine bodyPost_ret (v := .agg (brow (Sha.digest c2.data.toList))) (results_cell_row Tryd.results93 _ _ (w.heap.size + 1 + 1) 24 _ (0, 0) _ rfl (setRow_heap _ _ _ _ _ _ (unhide HR5).1) Tryd.underlying24 rfl (dig_info _)) rfl ⟨by rw [unhide HF], ?_⟩
      exact (unhide HB).below.trans (((unhide HR5).2.mono (by have := (unhide HB).size; omega)).trans ⟨rfl, rfl, rfl, by simp, fun k hk => setRow_other _ _ _ _ (by omega)⟩)
end Go.Proofs.YtfodibjlldmnpaaDoor
