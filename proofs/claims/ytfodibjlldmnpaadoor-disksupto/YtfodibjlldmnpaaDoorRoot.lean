/-
  tree.Root.
-/
import Derived.Test.YtfodibjlldmnpaaDoorNode
namespace Go.Proofs.YtfodibjlldmnpaaDoor
open Go.RowKit

/-- Strings that lie in memory one behind the other. -/
structure Strs (w : World) (b o : Nat) (L : List ByteArray) : Prop where
  cell : ∀ i, i < L.length → w.cell? ⟨b, o + i, none⟩ = some (.string (L.getD i ByteArray.empty))
  small : ∀ s ∈ L, s.size ≤ 140737488354900
  lt : b < w.heap.size
theorem Strs.take {w : World} {b o : Nat} {L : List ByteArray} (h : Strs w b o L) (k : Nat) : Strs w b o (L.take k) :=
  ⟨fun i hi => by
    simp at hi
    rw [h.cell i (by omega), List.getD_eq_getElem?_getD, List.getD_eq_getElem?_getD, List.getElem?_take, if_pos (by omega)], fun s hs => h.small s (List.mem_of_mem_take hs), h.lt⟩
theorem Strs.drop {w : World} {b o : Nat} {L : List ByteArray} (h : Strs w b o L) (k : Nat) : Strs w b (o + k) (L.drop k) :=
  ⟨fun i hi => by
    simp at hi
    rw [Nat.add_assoc, h.cell (k + i) (by omega), List.getD_eq_getElem?_getD, List.getD_eq_getElem?_getD, List.getElem?_drop], fun s hs => h.small s (List.mem_of_mem_drop hs), h.lt⟩
theorem Strs.below {w w' : World} {b o B : Nat} {L : List ByteArray} (h : Strs w b o L) (hb : Below B w w') (hB : b < B) : Strs w' b o L :=
  ⟨fun i hi => (hb.cell (p := ⟨b, o + i, none⟩) hB).trans (h.cell i hi), h.small, Nat.lt_of_lt_of_le h.lt hb.size⟩

abbrev lsts (L : List ByteArray) : List (List UInt8) := L.map (·.data.toList)

theorem sl_h (b o n cap k : Nat) (h : k ≤ cap) (W : World) : (Instr.slice 30 (.slice (some ⟨b, o, none⟩) n cap) none (some (.int .i64 k)) none).run Tryd.prog W = .ok (.slice (some ⟨b, o, none⟩) k cap) W := by
  go_simp
theorem sl_l (b o n cap k : Nat) (h : k < n) (hn : n ≤ cap) (W : World) : (Instr.slice 30 (.slice (some ⟨b, o, none⟩) n cap) (some (.int .i64 k)) none none).run Tryd.prog W = .ok (.slice (some ⟨b, o + k, none⟩) (n - k) (cap - k)) W := by
  go_simp
  rw [if_pos (by omega), if_neg (by omega)]

set_option maxRecDepth 100000 in
set_option maxHeartbeats 1000000 in
/-- Of no string. -/
theorem root_go0 (a : Option Addr) (cap : Nat) (w : World) (hT : Table w) (hz : 0 < w.heap.size) :
    Calls Tryd.prog 52 #[.slice a 0 cap] w fun e w' => e = .returned (.agg (brow (Tre.root []))) ∧ Below w.heap.size w w' := by
  have hT2 : Table (w.alloc (.cells (brow (List.replicate 32 0)) 24)) := hT.below (res_start w).below hz
  have HT := hide hT2
  clear hT hT2
  go_enter Tryd.func52, Tryd.ntmps52
  go_wp2_with fail
  refine (of_go ⟨#[]⟩ _ (by decide) (unhide HT) (by simp)).mono ?_
  rintro e w1 ⟨rfl, hb⟩
  have hr : Res w w1 := (res_start w).next (hb.mono (by simp))
  clear hb
  have HD := hide Tre.root_nil
  obtain ⟨D, hD⟩ : ∃ D, D = Sha.digest [] := ⟨_, rfl⟩
  have hl : D.length = 32 := by rw [hD]; exact Sha.digest_length _
  have hD2 : Sha.digest (⟨#[]⟩ : ByteArray).data.toList = D := hD.symm
  rw [hD2]
  have HDD := hide hD
  clear hD hD2
  go_wp2_with (refine wpList_store_row rfl 24 _ _ rfl w.heap.size (brow D) rfl rfl 24 _ hr.r (rinfo hl) (rzero hl) (brow_one _) ?_)
  refine bodyPost_ret (v := .agg (brow D)) (results_cell_row Tryd.results52 _ _ w.heap.size 24 _ (0, 0) _ rfl (setRow_heap _ _ _ _ _ _ hr.r) Tryd.underlying24 rfl (rinfo hl)) rfl ⟨by rw [unhide HD, unhide HDD], ?_⟩
  exact hr.below.trans ⟨rfl, rfl, rfl, by simp, fun k hk => setRow_other _ _ _ _ (by omega)⟩

set_option maxRecDepth 100000 in
set_option maxHeartbeats 2000000 in
theorem root_go (m : Nat) : ∀ (L : List ByteArray) (b o n cap : Nat) (w : World), L.length = n → n ≤ m → 1 ≤ n → n ≤ cap → n ≤ 140737488355328 → Strs w b o L → Table w → 0 < w.heap.size →
    Calls Tryd.prog 52 #[.slice (some ⟨b, o, none⟩) n cap] w fun e w' => e = .returned (.agg (brow (Tre.root (lsts L)))) ∧ Below w.heap.size w w' := by
  induction m with
  | zero => intro L b o n cap w hl hm h1; omega
  | succ m ih =>
    intro L b o n cap w hl hm h1 hc hbd hS hT hz
    have HIH := hide ih
    clear ih
    have HS := hide hS
    have HT := hide hT
    have HZ := hide hz
    have HT2 := hide (hT.below (res_start w).below hz : Table (w.alloc (.cells (brow (List.replicate 32 0)) 24)))
    have HS2 := hide (hS.below ((Below.refl w.heap.size w).alloc (Nat.le_refl _) (.cells (brow (List.replicate 32 0)) 24)) hS.lt)
    clear hT hz
    by_cases hn : n = 1
    · subst hn
      have HF := hide (show Tre.root (lsts L) = Tre.leaf (L.getD 0 ByteArray.empty).data.toList by
        match L, hl with
        | [x], _ => exact Tre.root_one _)
      have hsm : (L.getD 0 ByteArray.empty).size ≤ 140737488354900 := by
        match L, hl, hS with
        | [x], _, hS => exact hS.small x (by simp)
      have hcell : ∀ O, (w.alloc O).cell? ⟨b, o, none⟩ = some (.string (L.getD 0 ByteArray.empty)) := fun O => (((Below.refl w.heap.size w).alloc (Nat.le_refl _) O).cell (p := ⟨b, o, none⟩) hS.lt).trans (by simpa using hS.cell 0 (by omega))
      clear hS
      generalize L.getD 0 ByteArray.empty = s at *
      go_enter Tryd.func52, Tryd.ntmps52
      go_wp2_with fail
      refine (leaf_go s _ hsm (unhide HT2) (by simp)).mono ?_
      rintro e w1 ⟨rfl, hb⟩
      have hr : Res w w1 := (res_start w).next (hb.mono (by simp))
      clear hb
      have hdl := Tre.leaf_length s.data.toList
      generalize Tre.leaf s.data.toList = D at *
      go_wp2_with (refine wpList_store_row rfl 24 _ _ rfl w.heap.size (brow D) rfl rfl 24 _ hr.r (rinfo hdl) (rzero hdl) (brow_one _) ?_)
      refine bodyPost_ret (v := .agg (brow D)) (results_cell_row Tryd.results52 _ _ w.heap.size 24 _ (0, 0) _ rfl (setRow_heap _ _ _ _ _ _ hr.r) Tryd.underlying24 rfl (rinfo hdl)) rfl ⟨by rw [unhide HF], ?_⟩
      exact hr.below.trans ⟨rfl, rfl, rfl, by simp, fun k hk => setRow_other _ _ _ _ (by omega)⟩
    · have hn0 : n ≠ 0 := by omega
      obtain ⟨k, hk⟩ : ∃ k, k = Tre.split n := ⟨_, rfl⟩
      have hk1 : 0 < k := by rw [hk]; exact Tre.split_pos n
      have hk2 : k < n := by rw [hk]; exact Tre.split_lt (by omega)
      obtain ⟨A, hA⟩ : ∃ A, A = Tre.root (lsts (L.take k)) := ⟨_, rfl⟩
      obtain ⟨B, hB⟩ : ∃ B, B = Tre.root (lsts (L.drop k)) := ⟨_, rfl⟩
      have hAl : A.length = 32 := by rw [hA]; exact Tre.root_length _
      have hBl : B.length = 32 := by rw [hB]; exact Tre.root_length _
      have HF := hide (show Tre.root (lsts L) = Tre.node A B by
        rw [Tre.root_cut (by simp [lsts]; omega), hA, hB, lsts, lsts, lsts, List.map_take, List.map_drop, List.length_map, hl, hk])
      have HAB := hide (And.intro hA hB)
      have HK := hide hk
      have hs1 := sl_h b o n cap k (by omega)
      have hs2 := sl_l b o n cap k hk2 hc
      clear hA hB hk
      go_enter Tryd.func52, Tryd.ntmps52
      go_wp2_with fail
      refine (split_go n _ (by omega) (by omega)).mono ?_
      rintro e w1 ⟨rfl, rfl⟩
      rw [← unhide HK]
      go_wp2_with fail
      refine gen_world (P := fun x => Res w x) (Q := fun x => Code.wp _ _ _ _ x) (res_start w) ?_
      intro wc hr
      have hlt := hS.lt
      have HR := hide hr
      have hsz := hr.size
      clear hr hS HT2 HS2
      go_region_with (first
        | (go_at_call_of 52 (Value.slice (some ⟨b, o, none⟩) k cap); go_must (refine (unhide HIH (L.take k) b o k cap wc.drew (by simp; omega) (by omega) (by omega) (by omega) (by omega) (((unhide HS).take k).below (below_draws (unhide HR).below 1) hlt) ((unhide HT).below (below_draws (unhide HR).below 1) (unhide HZ)) (by show 0 < wc.heap.size; omega)).mono ?_; rintro e w1 ⟨rfl, hb1'⟩; rw [← (unhide HAB).1]; have hb1 : Below wc.heap.size wc w1 := undrew hb1'; have HR1 := hide ((unhide HR).next (hb1.mono (by omega))); clear hb1 hb1'))
        | (go_at_call_of 52 (Value.slice (some ⟨b, o + k, none⟩) (n - k) (cap - k)); go_must (refine (unhide HIH (L.drop k) b (o + k) (n - k) (cap - k) w1 (by simp; omega) (by omega) (by omega) (by omega) (by omega) (((unhide HS).drop k).below (unhide HR1).below hlt) ((unhide HT).below (unhide HR1).below (unhide HZ)) (by have := (unhide HR1).size; omega)).mono ?_; rintro e w2 ⟨rfl, hb2⟩; rw [← (unhide HAB).2]; have HR2 := hide ((unhide HR1).next (hb2.mono (unhide HR1).size)); clear hb2))
        | (go_at_call 93; go_must (refine (node_go A B w2 hAl hBl ((unhide HT).below (unhide HR2).below (unhide HZ)) (by have := (unhide HR2).size; omega)).mono ?_; rintro e w3 ⟨rfl, hb3⟩; have hr3 : Res w w3 := (unhide HR2).next (hb3.mono (unhide HR2).size); have hst := store_cells (P := Tryd.prog) hr3.r (rzero (Tre.node_length A B)) (brow_one _); have HR3 := hide hr3; clear hb3 hr3)))
      all_goals
        go_wp2_with fail
        refine bodyPost_ret (v := .agg (brow (Tre.node A B))) (results_cell_row Tryd.results52 _ _ w.heap.size 24 _ (0, 0) _ rfl (setRow_heap _ _ _ _ _ _ (unhide HR3).r) Tryd.underlying24 rfl (rinfo (Tre.node_length A B))) rfl ⟨by rw [unhide HF], ?_⟩
        exact (unhide HR3).below.trans ⟨rfl, rfl, rfl, by simp, fun k hk => setRow_other _ _ _ _ (by omega)⟩
end Go.Proofs.YtfodibjlldmnpaaDoor
