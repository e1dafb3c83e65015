/-
  The reference's Root.
-/
import Derived.Test.YtfodibjlldmnpaaDoorHalf
namespace Go.Proofs.YtfodibjlldmnpaaDoor
open Go.RowKit

theorem Strs.kept {w w' : World} {b o B : Nat} {L : List ByteArray} (h : Strs w b o L) (hb : Kept B w w') (hB : b < B) : Strs w' b o L :=
  ⟨fun i hi => (hb.cell (p := ⟨b, o + i, none⟩) hB).trans (h.cell i hi), h.small, Nat.lt_of_lt_of_le h.lt hb.size⟩

set_option maxRecDepth 100000 in
set_option maxHeartbeats 1000000 in
theorem rroot_go0 (a : Option Addr) (cap : Nat) (w : World) :
    Calls Tryd.prog 19 #[.slice a 0 cap] w fun e w' => e = .returned (.agg (brow (Tre.root []))) ∧ Kept w.heap.size w w' := by
  go_enter Tryd.func19, Tryd.ntmps19
  go_wp2_with fail
  refine (digest_ref ⟨#[]⟩ _ (by decide)).mono ?_
  rintro e w1 ⟨rfl, hb⟩
  have hr : Resk w w1 := (resk_start w).next (hb.mono (by simp))
  clear hb
  have HD := hide Tre.root_nil
  obtain ⟨D, hD⟩ : ∃ D, D = Sha.digest [] := ⟨_, rfl⟩
  have hl : D.length = 32 := by rw [hD]; exact Sha.digest_length _
  have hD2 : Sha.digest (⟨#[]⟩ : ByteArray).data.toList = D := hD.symm
  rw [hD2]
  have HDD := hide hD
  clear hD hD2
  go_wp2_with (refine wpList_store_row rfl 24 _ _ rfl w.heap.size (brow D) rfl rfl 24 _ hr.r (rinfo hl) (rzero hl) (brow_one _) ?_)
  refine bodyPost_ret (v := .agg (brow D)) (results_cell_row Tryd.results19 _ _ w.heap.size 24 _ (0, 0) _ rfl (setRow_heap _ _ _ _ _ _ hr.r) Tryd.underlying24 rfl (rinfo hl)) rfl ⟨by rw [unhide HD, unhide HDD], ?_⟩
  exact hr.kept.setRow (Nat.le_refl _) _

set_option maxRecDepth 100000 in
set_option maxHeartbeats 2000000 in
theorem rroot_go (m : Nat) : ∀ (L : List ByteArray) (b o n cap : Nat) (w : World), L.length = n → n ≤ m → 1 ≤ n → n ≤ cap → n ≤ 140737488355328 → Strs w b o L →
    Calls Tryd.prog 19 #[.slice (some ⟨b, o, none⟩) n cap] w fun e w' => e = .returned (.agg (brow (Tre.root (lsts L)))) ∧ Kept w.heap.size w w' := by
  induction m with
  | zero => intro L b o n cap w hl hm h1; omega
  | succ m ih =>
    intro L b o n cap w hl hm h1 hc hbd hS
    have HIH := hide ih
    clear ih
    have HS := hide hS
    by_cases hn : n = 1
    · subst hn
      have hsm : (L.getD 0 ByteArray.empty).size ≤ 140737488354900 := by
        match L, hl, hS with
        | [x], _, hS => exact hS.small x (by simp)
      have hcell : ∀ O, (w.alloc O).cell? ⟨b, o, none⟩ = some (.string (L.getD 0 ByteArray.empty)) := fun O => (((Below.refl w.heap.size w).alloc (Nat.le_refl _) O).cell (p := ⟨b, o, none⟩) hS.lt).trans (by simpa using hS.cell 0 (by omega))
      have hroot : Tre.root (lsts L) = Tre.leaf (L.getD 0 ByteArray.empty).data.toList := by
        match L, hl with
        | [x], _ => exact Tre.root_one _
      clear hS
      generalize L.getD 0 ByteArray.empty = s at *
      obtain ⟨c, hcc⟩ : ∃ c : ByteArray, c = ⟨#[0]⟩ ++ s := ⟨_, rfl⟩
      have hcl : c.data.toList = 0 :: s.data.toList := by rw [hcc, ByteArray.data_append, Array.toList_append]; rfl
      have hcs : c.size = 1 + s.size := by rw [← size_toList, hcl, List.length_cons, size_toList]; omega
      have hadd : ∀ W : World, (Op.stringOp .add ⟨#[0]⟩ s).run Tryd.prog W = .ok (.string c) W := fun W => by
        rw [hcc]; exact run_string_add_sum _ _ _ (by show 1 + s.size ≤ _; omega)
      obtain ⟨D, hD⟩ : ∃ D, D = Sha.digest c.data.toList := ⟨_, rfl⟩
      have hdl : D.length = 32 := by rw [hD]; exact Sha.digest_length _
      have HD := hide (And.intro hD (show Tre.root (lsts L) = D by rw [hroot, hD, hcl]; rfl))
      have HC := hide hcs
      clear hcc hcl hcs hD hroot
      go_enter Tryd.func19, Tryd.ntmps19
      go_wp2_with fail
      refine (digest_ref c _ (by have := unhide HC; omega)).mono ?_
      rintro e w1 ⟨rfl, hb⟩
      rw [← (unhide HD).1]
      have hr : Resk w w1 := (resk_start w).next (hb.mono (by simp))
      clear hb
      go_wp2_with (refine wpList_store_row rfl 24 _ _ rfl w.heap.size (brow D) rfl rfl 24 _ hr.r (rinfo hdl) (rzero hdl) (brow_one _) ?_)
      refine bodyPost_ret (v := .agg (brow D)) (results_cell_row Tryd.results19 _ _ w.heap.size 24 _ (0, 0) _ rfl (setRow_heap _ _ _ _ _ _ hr.r) Tryd.underlying24 rfl (rinfo hdl)) rfl ⟨by rw [(unhide HD).2], ?_⟩
      exact hr.kept.setRow (Nat.le_refl _) _
    · have hn0 : n ≠ 0 := by omega
      obtain ⟨k, hk⟩ : ∃ k, k = Tre.split n := ⟨_, rfl⟩
      have hk1 : 0 < k := by rw [hk]; exact Tre.split_pos n
      have hk2 : k < n := by rw [hk]; exact Tre.split_lt (by omega)
      obtain ⟨A, hA⟩ : ∃ A, A = Tre.root (lsts (L.take k)) := ⟨_, rfl⟩
      obtain ⟨B, hB⟩ : ∃ B, B = Tre.root (lsts (L.drop k)) := ⟨_, rfl⟩
      have hAl : A.length = 32 := by rw [hA]; exact Tre.root_length _
      have hBl : B.length = 32 := by rw [hB]; exact Tre.root_length _
      obtain ⟨N, hN⟩ : ∃ N, N = Tre.node A B := ⟨_, rfl⟩
      have hNl : N.length = 32 := by rw [hN]; exact Tre.node_length _ _
      have HF := hide (show Tre.root (lsts L) = Tre.node A B by
        rw [Tre.root_cut (by simp [lsts]; omega), hA, hB, lsts, lsts, lsts, List.map_take, List.map_drop, List.length_map, hl, hk])
      have HAB := hide (And.intro hA (And.intro hB hN))
      have HK := hide hk
      have hs1 := sl_h b o n cap k (by omega)
      have hs2 := sl_l b o n cap k hk2 hc
      have hlt := hS.lt
      clear hA hB hk hN hS
      go_enter Tryd.func19, Tryd.ntmps19
      go_wp2_with fail
      refine (half_ref n _ (by omega) (by omega)).mono ?_
      rintro e w0 ⟨rfl, rfl⟩
      rw [← unhide HK]
      have HR0 := hide (resk_start w)
      go_wp2_with fail
      refine (unhide HIH (L.take k) b o k cap _ (by simp; omega) (by omega) (by omega) (by omega) (by omega) (((unhide HS).take k).kept (unhide HR0).kept hlt)).mono ?_
      rintro e w1 ⟨rfl, hb1⟩
      rw [← (unhide HAB).1]
      have HR1 := hide ((unhide HR0).next (hb1.mono (by simp)))
      have hz1 := (unhide HR1).size
      clear hb1 HR0
      go_wp2_with (refine wpList_store_put rfl 24 _ _ rfl w1.heap.size (brow A) rfl rfl 24 _ (heap_alloc_new _ _) (rinfo hAl) (rzero hAl) (brow_one _) ?_; intro w2 hp2)
      have HR2 := hide (And.intro ((unhide HR1).next (((Kept.refl _ _).alloc hz1 _).trans (.of (hp2.below hz1)))) (And.intro hp2.row (show w1.heap.size < w2.heap.size by rw [hp2.size]; simp)))
      clear hp2
      refine (unhide HIH (L.drop k) b (o + k) (n - k) (cap - k) _ (by simp; omega) (by omega) (by omega) (by omega) (by omega) (((unhide HS).drop k).kept (unhide HR2).1.kept hlt)).mono ?_
      rintro e w3 ⟨rfl, hb3⟩
      rw [← (unhide HAB).2.1]
      have HR3 := hide (And.intro ((unhide HR2).1.next (hb3.mono (unhide HR2).1.size)) (And.intro ((hb3.block _ (unhide HR2).2.2).trans (unhide HR2).2.1) (Nat.lt_of_lt_of_le (unhide HR2).2.2 hb3.size)))
      clear hb3
      go_wp2_with (first
        | (refine wpList_store_put rfl 24 _ _ rfl w3.heap.size (brow B) rfl rfl 24 _ (heap_alloc_new _ _) (rinfo hBl) (rzero hBl) (brow_one _) ?_; intro w4 hp4; have HR4 := hide ((unhide HR3).1.next (((Kept.refl _ _).alloc (unhide HR3).1.size _).trans (.of (hp4.below (unhide HR3).1.size)))); have q1 := (hp4.other w1.heap.size (Nat.ne_of_lt (unhide HR3).2.2)).trans ((Below.heap_alloc _ _ _ (unhide HR3).2.2).trans (unhide HR3).2.1); have q2 := hp4.row; clear hp4)
        | (refine wpList_load_row rfl 24 _ rfl w1.heap.size rfl 24 (brow A) (0, 0) _ q1 Tryd.underlying24 rfl (rinfo hAl) ?_)
        | (refine wpList_load_row rfl 24 _ rfl w3.heap.size rfl 24 (brow B) (0, 0) _ q2 Tryd.underlying24 rfl (rinfo hBl) ?_))
      refine (pair_ref A B _ hAl hBl).mono ?_
      rintro e w5 ⟨rfl, hb5⟩
      rw [← (unhide HAB).2.2]
      have hr5 := (unhide HR4).next (hb5.mono (unhide HR4).size)
      clear hb5
      go_wp2_with (refine wpList_store_row rfl 24 _ _ rfl w.heap.size (brow N) rfl rfl 24 _ hr5.r (rinfo hNl) (rzero hNl) (brow_one _) ?_)
      refine bodyPost_ret (v := .agg (brow N)) (results_cell_row Tryd.results19 _ _ w.heap.size 24 _ (0, 0) _ rfl (setRow_heap _ _ _ _ _ _ hr5.r) Tryd.underlying24 rfl (rinfo hNl)) rfl ⟨by rw [unhide HF, (unhide HAB).2.2], ?_⟩
      exact hr5.kept.setRow (Nat.le_refl _) _
end Go.Proofs.YtfodibjlldmnpaaDoor
