/-
  Half, Rroot, Rproof, Back, joined.
-/
import Derived.Test.YtfodibjlldmnpaaDoorProves
import Derived.Test.YtfodibjlldmnpaaDoorRtag
import Derived.Laws.ResultCell
/-
  The reference's half and pair.
-/
namespace Go.Proofs.YtfodibjlldmnpaaDoor
open Go.RowKit

theorem split_of {n j : Nat} (h1 : 2 ^ j < n) (h2 : n ≤ 2 * 2 ^ j) : Tre.split n = 2 ^ j := by
  have : Nat.log2 (n - 1) = j := (Nat.log2_eq_iff (by omega)).2 ⟨by omega, by rw [Nat.pow_succ]; omega⟩
  rw [Tre.split, this]

set_option maxRecDepth 100000 in
set_option maxHeartbeats 1000000 in
theorem half_ref (n : Nat) (w : World) (hn : 2 ≤ n) (hm : n ≤ 9223372036854775807) :
    Calls Tryd.prog 54 #[.int .i64 n] w fun e w' => e = .returned (.int .i64 (Tre.split n)) ∧ w' = w := by
  have hnI : (n : Int) ≤ 9223372036854775807 := by omega
  obtain ⟨S, hS⟩ : ∃ S, S = Tre.split n := ⟨_, rfl⟩
  rw [← hS]
  have HS := hide hS
  clear hS
  go_enter Tryd.func54, Tryd.ntmps54
  go_wp2_with fail
  go_loop [3] (fun v => ∃ k j : Nat, k = 2 ^ j ∧ k < n ∧ 1 ≤ k ∧ v = .int .i64 k) (fun v => n - (intOf v).toNat)
  case atStart => exact ⟨1, 0, rfl, by omega, Nat.le_refl _, rfl⟩
  case round =>
    obtain ⟨k, j, hkj, hk, hk1, rfl⟩ := hrel
    have HKJ := hide hkj
    clear hkj
    by_cases hlt : k < n - k
    · have hltI : (k : Int) < (n : Int) - (k : Int) := by omega
      go_wp2_with fail
      go_round
      case rel => exact ⟨2 * k, j + 1, by rw [unhide HKJ, Nat.pow_succ]; omega, by omega, by omega, by go_num⟩
      case measure => simp [intOf]; omega
    · have hltI : ¬ (k : Int) < (n : Int) - (k : Int) := by omega
      have hkS : k = S := by
        rw [unhide HS, split_of (j := j) (by rw [← unhide HKJ]; exact hk) (by rw [← unhide HKJ]; omega), unhide HKJ]
      subst hkS
      go_wp2_with fail
      go_ret
      exact ⟨rfl, rfl⟩

/-- The three blocks of pair's own. -/
structure Boxk (w : World) (A B : List UInt8) (wx : World) : Prop where
  a : wx.heap[w.heap.size]? = some (.cells (brow A) 24 (0, 0))
  b : wx.heap[w.heap.size + 1]? = some (.cells (brow B) 24 (0, 0))
  r : wx.heap[w.heap.size + 1 + 1]? = some (.cells (brow (List.replicate 32 0)) 24 (0, 0))
  size : w.heap.size + 3 ≤ wx.heap.size
  kept : Kept w.heap.size w wx
theorem Boxk.next {w : World} {A B : List UInt8} {wx wy : World} (h : Boxk w A B wx) (hb : Kept wx.heap.size wx wy) : Boxk w A B wy :=
  ⟨(hb.block _ (by have := h.size; omega)).trans h.a, (hb.block _ (by have := h.size; omega)).trans h.b, (hb.block _ (by have := h.size; omega)).trans h.r, Nat.le_trans h.size hb.size, h.kept.trans (hb.mono (by have := h.size; omega))⟩
theorem boxk_start (w : World) (A B : List UInt8) : Boxk w A B (((w.alloc (.cells (brow A) 24)).alloc (.cells (brow B) 24)).alloc (.cells (brow (List.replicate 32 0)) 24)) := by
  refine ⟨?_, ?_, ?_, ?_, ?_⟩
  · exact (Below.heap_alloc _ _ _ (by simp; omega)).trans ((Below.heap_alloc _ _ _ (by simp)).trans (heap_alloc_new _ _))
  · exact (Below.heap_alloc _ _ _ (by simp)).trans (by have := heap_alloc_new (w.alloc (.cells (brow A) 24)) (.cells (brow B) 24); simpa using this)
  · have h3 := heap_alloc_new ((w.alloc (.cells (brow A) 24)).alloc (.cells (brow B) 24)) (.cells (brow (List.replicate 32 0)) 24)
    rw [World.size_alloc, World.size_alloc] at h3
    exact h3
  · simp
  · exact .of ((((Below.refl w.heap.size w).alloc (Nat.le_refl _) _).alloc (by simp) _).alloc (by simp; omega) _)

set_option maxRecDepth 100000 in
set_option maxHeartbeats 1000000 in
theorem pair_ref (A B : List UInt8) (w : World) (hA : A.length = 32) (hB : B.length = 32) :
    Calls Tryd.prog 55 #[.agg (brow A), .agg (brow B)] w fun e w' => e = .returned (.agg (brow (Tre.node A B))) ∧ Kept w.heap.size w w' := by
  obtain ⟨c1, hc1⟩ : ∃ c : ByteArray, c = ⟨#[1]⟩ ++ ⟨A.toArray⟩ := ⟨_, rfl⟩
  have hc1l : c1.data.toList = 1 :: A := by rw [hc1, ByteArray.data_append, Array.toList_append]; rfl
  have hc1s : c1.size = 33 := by rw [← size_toList, hc1l, List.length_cons, hA]
  have hadd1 : ∀ W : World, (Op.stringOp .add ⟨#[1]⟩ ⟨A.toArray⟩).run Tryd.prog W = .ok (.string c1) W := fun W => by
    rw [hc1]; exact run_string_add_sum _ _ _ (by show 1 + (⟨A.toArray⟩ : ByteArray).size ≤ _; rw [mk_size, hA]; decide)
  obtain ⟨c2, hc2⟩ : ∃ c : ByteArray, c = c1 ++ ⟨B.toArray⟩ := ⟨_, rfl⟩
  have hc2l : c2.data.toList = 1 :: (A ++ B) := by rw [hc2, ByteArray.data_append, Array.toList_append, hc1l]; rfl
  have hc2s : c2.size = 65 := by rw [← size_toList, hc2l, List.length_cons, List.length_append, hA, hB]
  have hadd2 : ∀ W : World, (Op.stringOp .add c1 ⟨B.toArray⟩).run Tryd.prog W = .ok (.string c2) W := fun W => by
    rw [hc2]; exact run_string_add_sum _ _ _ (by show c1.size + (⟨B.toArray⟩ : ByteArray).size ≤ _; rw [hc1s, mk_size, hB]; decide)
  obtain ⟨N, hN⟩ : ∃ N, N = Tre.node A B := ⟨_, rfl⟩
  have hNl : N.length = 32 := by rw [hN]; exact Tre.node_length _ _
  have HN := hide (And.intro hN (show Sha.digest c2.data.toList = N by rw [hN, hc2l]; rfl))
  have HC := hide hc2s
  have HB0 := hide (boxk_start w A B)
  have q0 := (boxk_start w A B).a
  clear hc1 hc1l hc1s hc2 hc2l hc2s hN
  go_enter Tryd.func55, Tryd.ntmps55
  go_wp2_with (refine wpList_load_row rfl 24 _ rfl w.heap.size rfl 24 (brow A) (0, 0) _ q0 Tryd.underlying24 rfl (rinfo hA) ?_)
  refine (text_ref A _ hA).mono ?_
  rintro e w1 ⟨rfl, hb1⟩
  have HB1 := hide ((unhide HB0).next hb1)
  have q1 := (unhide HB1).b
  clear hb1 HB0 q0
  go_wp2_with (refine wpList_load_row rfl 24 _ rfl (w.heap.size + 1) rfl 24 (brow B) (0, 0) _ q1 Tryd.underlying24 rfl (rinfo hB) ?_)
  refine (text_ref B _ hB).mono ?_
  rintro e w2 ⟨rfl, hb2⟩
  have HB2 := hide ((unhide HB1).next hb2)
  clear hb2 HB1 q1
  go_wp2_with fail
  refine (digest_ref c2 _ (by have := unhide HC; omega)).mono ?_
  rintro e w3 ⟨rfl, hb3⟩
  rw [(unhide HN).2]
  have HB3 := hide ((unhide HB2).next hb3)
  have q3 := (unhide HB3).r
  clear hb3 HB2
  go_wp2_with (refine wpList_store_row rfl 24 _ _ rfl (w.heap.size + 1 + 1) (brow N) rfl rfl 24 _ q3 (rinfo hNl) (rzero hNl) (brow_one _) ?_)
  refine bodyPost_ret (v := .agg (brow N)) (results_cell_row Tryd.results55 _ _ (w.heap.size + 1 + 1) 24 _ (0, 0) _ rfl (setRow_heap _ _ _ _ _ _ q3) Tryd.underlying24 rfl (rinfo hNl)) rfl ⟨by rw [(unhide HN).1], ?_⟩
  exact (unhide HB3).kept.setRow (by omega) _
end Go.Proofs.YtfodibjlldmnpaaDoor
/-
  The reference's Root.
-/
namespace Go.Proofs.YtfodibjlldmnpaaDoor
open Go.RowKit

theorem Strs.kept {w w' : World} {b o B : Nat} {L : List ByteArray} (h : Strs w b o L) (hb : Kept B w w') (hB : b < B) : Strs w' b o L :=
  ⟨fun i hi => (hb.cell (p := ⟨b, o + i, none⟩) hB).trans (h.cell i hi), h.small, Nat.lt_of_lt_of_le h.lt hb.size⟩

set_option maxRecDepth 100000 in
set_option maxHeartbeats 1000000 in
theorem rroot_go0 (a : Option Addr) (cap : Nat) (w : World) :
    Calls Tryd.prog 19 #[.slice a 0 cap] w fun e w' => e = .returned (.agg (brow (Tre.root []))) ∧ Kept w.heap.size w w' := by
  go_enter Tryd.func19, Tryd.ntmps19
  go_wp2_with fail
  refine (digest_ref ⟨#[]⟩ _ (by decide)).mono ?_
  rintro e w1 ⟨rfl, hb⟩
  have hr : Resk w w1 := (resk_start w).next (hb.mono (by simp))
  clear hb
  have HD := hide Tre.root_nil
  obtain ⟨D, hD⟩ : ∃ D, D = Sha.digest [] := ⟨_, rfl⟩
  have hl : D.length = 32 := by rw [hD]; exact Sha.digest_length _
  have hD2 : Sha.digest (⟨#[]⟩ : ByteArray).data.toList = D := hD.symm
  rw [hD2]
  have HDD := hide hD
  clear hD hD2
  go_wp2_with (refine wpList_store_row rfl 24 _ _ rfl w.heap.size (brow D) rfl rfl 24 _ hr.r (rinfo hl) (rzero hl) (brow_one _) ?_)
  refine bodyPost_ret (v := .agg (brow D)) (results_cell_row Tryd.results19 _ _ w.heap.size 24 _ (0, 0) _ rfl (setRow_heap _ _ _ _ _ _ hr.r) Tryd.underlying24 rfl (rinfo hl)) rfl ⟨by rw [unhide HD, unhide HDD], ?_⟩
  exact hr.kept.setRow (Nat.le_refl _) _

set_option maxRecDepth 100000 in
set_option maxHeartbeats 2000000 in
theorem rroot_go (m : Nat) : ∀ (L : List ByteArray) (b o n cap : Nat) (w : World), L.length = n → n ≤ m → 1 ≤ n → n ≤ cap → n ≤ 140737488355328 → Strs w b o L →
    Calls Tryd.prog 19 #[.slice (some ⟨b, o, none⟩) n cap] w fun e w' => e = .returned (.agg (brow (Tre.root (lsts L)))) ∧ Kept w.heap.size w w' := by
  induction m with
  | zero => intro L b o n cap w hl hm h1; omega
  | succ m ih =>
    intro L b o n cap w hl hm h1 hc hbd hS
    have HIH := hide ih
    clear ih
    have HS := hide hS
    by_cases hn : n = 1
    · subst hn
      have hsm : (L.getD 0 ByteArray.empty).size ≤ 140737488354900 := by
        match L, hl, hS with
        | [x], _, hS => exact hS.small x (by simp)
      have hcell : ∀ O, (w.alloc O).cell? ⟨b, o, none⟩ = some (.string (L.getD 0 ByteArray.empty)) := fun O => (((Below.refl w.heap.size w).alloc (Nat.le_refl _) O).cell (p := ⟨b, o, none⟩) hS.lt).trans (by simpa using hS.cell 0 (by omega))
      have hroot : Tre.root (lsts L) = Tre.leaf (L.getD 0 ByteArray.empty).data.toList := by
        match L, hl with
        | [x], _ => exact Tre.root_one _
      clear hS
      generalize L.getD 0 ByteArray.empty = s at *
      obtain ⟨c, hcc⟩ : ∃ c : ByteArray, c = ⟨#[0]⟩ ++ s := ⟨_, rfl⟩
      have hcl : c.data.toList = 0 :: s.data.toList := by rw [hcc, ByteArray.data_append, Array.toList_append]; rfl
      have hcs : c.size = 1 + s.size := by rw [← size_toList, hcl, List.length_cons, size_toList]; omega
      have hadd : ∀ W : World, (Op.stringOp .add ⟨#[0]⟩ s).run Tryd.prog W = .ok (.string c) W := fun W => by
        rw [hcc]; exact run_string_add_sum _ _ _ (by show 1 + s.size ≤ _; omega)
      obtain ⟨D, hD⟩ : ∃ D, D = Sha.digest c.data.toList := ⟨_, rfl⟩
      have hdl : D.length = 32 := by rw [hD]; exact Sha.digest_length _
      have HD := hide (And.intro hD (show Tre.root (lsts L) = D by rw [hroot, hD, hcl]; rfl))
      have HC := hide hcs
      clear hcc hcl hcs hD hroot
      go_enter Tryd.func19, Tryd.ntmps19
      go_wp2_with fail
      refine (digest_ref c _ (by have := unhide HC; omega)).mono ?_
      rintro e w1 ⟨rfl, hb⟩
      rw [← (unhide HD).1]
      have hr : Resk w w1 := (resk_start w).next (hb.mono (by simp))
      clear hb
      go_wp2_with (refine wpList_store_row rfl 24 _ _ rfl w.heap.size (brow D) rfl rfl 24 _ hr.r (rinfo hdl) (rzero hdl) (brow_one _) ?_)
      refine bodyPost_ret (v := .agg (brow D)) (results_cell_row Tryd.results19 _ _ w.heap.size 24 _ (0, 0) _ rfl (setRow_heap _ _ _ _ _ _ hr.r) Tryd.underlying24 rfl (rinfo hdl)) rfl ⟨by rw [(unhide HD).2], ?_⟩
      exact hr.kept.setRow (Nat.le_refl _) _
    · have hn0 : n ≠ 0 := by omega
      obtain ⟨k, hk⟩ : ∃ k, k = Tre.split n := ⟨_, rfl⟩
      have hk1 : 0 < k := by rw [hk]; exact Tre.split_pos n
      have hk2 : k < n := by rw [hk]; exact Tre.split_lt (by omega)
      obtain ⟨A, hA⟩ : ∃ A, A = Tre.root (lsts (L.take k)) := ⟨_, rfl⟩
      obtain ⟨B, hB⟩ : ∃ B, B = Tre.root (lsts (L.drop k)) := ⟨_, rfl⟩
      have hAl : A.length = 32 := by rw [hA]; exact Tre.root_length _
      have hBl : B.length = 32 := by rw [hB]; exact Tre.root_length _
      obtain ⟨N, hN⟩ : ∃ N, N = Tre.node A B := ⟨_, rfl⟩
      have hNl : N.length = 32 := by rw [hN]; exact Tre.node_length _ _
      have HF := hide (show Tre.root (lsts L) = Tre.node A B by
        rw [Tre.root_cut (by simp [lsts]; omega), hA, hB, lsts, lsts, lsts, List.map_take, List.map_drop, List.length_map, hl, hk])
      have HAB := hide (And.intro hA (And.intro hB hN))
      have HK := hide hk
      have hs1 := sl_h b o n cap k (by omega)
      have hs2 := sl_l b o n cap k hk2 hc
      have hlt := hS.lt
      clear hA hB hk hN hS
      go_enter Tryd.func19, Tryd.ntmps19
      go_wp2_with fail
      refine (half_ref n _ (by omega) (by omega)).mono ?_
      rintro e w0 ⟨rfl, rfl⟩
      rw [← unhide HK]
      have HR0 := hide (resk_start w)
      go_wp2_with fail
      refine (unhide HIH (L.take k) b o k cap _ (by simp; omega) (by omega) (by omega) (by omega) (by omega) (((unhide HS).take k).kept (unhide HR0).kept hlt)).mono ?_
      rintro e w1 ⟨rfl, hb1⟩
      rw [← (unhide HAB).1]
      have HR1 := hide ((unhide HR0).next (hb1.mono (by simp)))
      have hz1 := (unhide HR1).size
      clear hb1 HR0
      go_wp2_with (refine wpList_store_put rfl 24 _ _ rfl w1.heap.size (brow A) rfl rfl 24 _ (heap_alloc_new _ _) (rinfo hAl) (rzero hAl) (brow_one _) ?_; intro w2 hp2)
      have HR2 := hide (And.intro ((unhide HR1).next (((Kept.refl _ _).alloc hz1 _).trans (.of (hp2.below hz1)))) (And.intro hp2.row (show w1.heap.size < w2.heap.size by rw [hp2.size]; simp)))
      clear hp2
      refine (unhide HIH (L.drop k) b (o + k) (n - k) (cap - k) _ (by simp; omega) (by omega) (by omega) (by omega) (by omega) (((unhide HS).drop k).kept (unhide HR2).1.kept hlt)).mono ?_
      rintro e w3 ⟨rfl, hb3⟩
      rw [← (unhide HAB).2.1]
      have HR3 := hide (And.intro ((unhide HR2).1.next (hb3.mono (unhide HR2).1.size)) (And.intro ((hb3.block _ (unhide HR2).2.2).trans (unhide HR2).2.1) (Nat.lt_of_lt_of_le (unhide HR2).2.2 hb3.size)))
      clear hb3
      go_wp2_with (first
        | (refine wpList_store_put rfl 24 _ _ rfl w3.heap.size (brow B) rfl rfl 24 _ (heap_alloc_new _ _) (rinfo hBl) (rzero hBl) (brow_one _) ?_; intro w4 hp4; have HR4 := hide ((unhide HR3).1.next (((Kept.refl _ _).alloc (unhide HR3).1.size _).trans (.of (hp4.below (unhide HR3).1.size)))); have q1 := (hp4.other w1.heap.size (Nat.ne_of_lt (unhide HR3).2.2)).trans ((Below.heap_alloc _ _ _ (unhide HR3).2.2).trans (unhide HR3).2.1); have q2 := hp4.row; clear hp4)
        | (refine wpList_load_row rfl 24 _ rfl w1.heap.size rfl 24 (brow A) (0, 0) _ q1 Tryd.underlying24 rfl (rinfo hAl) ?_)
        | (refine wpList_load_row rfl 24 _ rfl w3.heap.size rfl 24 (brow B) (0, 0) _ q2 Tryd.underlying24 rfl (rinfo hBl) ?_))
      refine (pair_ref A B _ hAl hBl).mono ?_
      rintro e w5 ⟨rfl, hb5⟩
      rw [← (unhide HAB).2.2]
      have hr5 := (unhide HR4).next (hb5.mono (unhide HR4).size)
      clear hb5
      go_wp2_with (refine wpList_store_row rfl 24 _ _ rfl w.heap.size (brow N) rfl rfl 24 _ hr5.r (rinfo hNl) (rzero hNl) (brow_one _) ?_)
      refine bodyPost_ret (v := .agg (brow N)) (results_cell_row Tryd.results19 _ _ w.heap.size 24 _ (0, 0) _ rfl (setRow_heap _ _ _ _ _ _ hr5.r) Tryd.underlying24 rfl (rinfo hNl)) rfl ⟨by rw [unhide HF, (unhide HAB).2.2], ?_⟩
      exact hr5.kept.setRow (Nat.le_refl _) _
end Go.Proofs.YtfodibjlldmnpaaDoor
/-
  The reference's Proof.
-/
namespace Go.Proofs.YtfodibjlldmnpaaDoor
open Go.RowKit

theorem own_kept {w w' : World} {B : Nat} {e : TypeId} {z : Nat} {v : Value} {n : Nat} {xs : List Value} (h : w.ownsRow B e z v n xs) (hb : Kept w.heap.size w w') : w'.ownsRow B e z v n xs := by
  obtain ⟨h1, h2⟩ := h
  refine ⟨h1, ?_⟩
  rcases h2 with h | ⟨g, cap, cur, hv, hg, hh, r⟩
  · exact Or.inl h
  · refine Or.inr ⟨g, cap, cur, hv, hg, ?_, r⟩
    rw [hb.block g (Array.getElem?_eq_some_iff.1 hh).1]; exact hh
theorem own_grownk {B : Nat} {a w w' : World} {e : TypeId} {z : Nat} {v : Value} {n : Nat} {xs : List Value} (h : Kept B a w) (ho : w.ownsRow B e z v n xs) (hg : w.grownBy w' v.ownBlock) (hs : B ≤ w.heap.size) : Kept B a w' := by
  refine h.trans ⟨hg.os, hg.output, hg.size, fun k hk => hg.block k (by omega) fun e => ?_⟩
  rcases ho.2 with ⟨rfl, _⟩ | ⟨g, cap, cur, rfl, hg2, _⟩
  · simp [Value.ownBlock] at e
  · simp [Value.ownBlock] at e; omega

set_option maxRecDepth 100000 in
set_option maxHeartbeats 1000000 in
/-- A place that is none. -/
theorem rproof_none (a : Option Addr) (n cap : Nat) (i : Int) (w : World) (hi : i < 0 ∨ (n : Int) ≤ i) :
    Calls Tryd.prog 20 #[.slice a n cap, .int .i64 i] w fun e w' => e = .returned (.tuple #[.slice none 0 0, .int .i64 8]) ∧ w' = w := by
  by_cases h0 : i < 0
  · clear hi
    go_enter Tryd.func20, Tryd.ntmps20
    go_wp2_with fail
    go_ret2
    exact ⟨rfl, rfl⟩
  · have h1 : (n : Int) ≤ i := by omega
    have h0' : 0 ≤ i := by omega
    clear hi
    go_enter Tryd.func20, Tryd.ntmps20
    go_wp2_with fail
    go_ret2
    exact ⟨rfl, rfl⟩
set_option maxRecDepth 100000 in
set_option maxHeartbeats 1000000 in
theorem proof_none (a : Option Addr) (n cap : Nat) (i : Int) (w : World) (hi : i < 0 ∨ (n : Int) ≤ i) :
    Calls Tryd.prog 53 #[.slice a n cap, .int .i64 i] w fun e w' => e = .returned (.tuple #[.slice none 0 0, .int .i64 8]) ∧ w' = w := by
  by_cases h0 : i < 0
  · clear hi
    go_enter Tryd.func53, Tryd.ntmps53
    go_wp2_with fail
    go_ret2
    exact ⟨rfl, rfl⟩
  · have h1 : (n : Int) ≤ i := by omega
    have h0' : 0 ≤ i := by omega
    clear hi
    go_enter Tryd.func53, Tryd.ntmps53
    go_wp2_with fail
    go_ret2
    exact ⟨rfl, rfl⟩
set_option maxRecDepth 100000 in
set_option maxHeartbeats 1000000 in
theorem bailey_proof_none (a : Option Addr) (n cap : Nat) (i : Int) (w : World) (hi : i < 0 ∨ (n : Int) ≤ i) :
    Calls Tryd.prog 17 #[.slice a n cap, .int .i64 i] w fun e w' => e = .returned (.tuple #[.slice none 0 0, .int .i64 8]) ∧ w' = w := by
  go_enter Tryd.func17, Tryd.ntmps17
  go_wp2_with (go_at_call 53; refine (proof_none a n cap i _ hi).mono ?_; rintro e w' ⟨rfl, rfl⟩)
  go_ret2
  exact ⟨rfl, rfl⟩

set_option maxRecDepth 100000 in
set_option maxHeartbeats 2000000 in
theorem rproof_go (m : Nat) : ∀ (L : List ByteArray) (b o n cap i : Nat) (w : World), L.length = n → n ≤ m → i < n → n ≤ cap → n ≤ 140737488355328 → Strs w b o L →
    Calls Tryd.prog 20 #[.slice (some ⟨b, o, none⟩) n cap, .int .i64 i] w fun e w' => ∃ v, e = .returned (.tuple #[v, .int .i64 0]) ∧ w'.ownsRow w.heap.size 24 32 v (Tre.proofOf (lsts L) i).length (flat (Tre.proofOf (lsts L) i)) ∧ Kept w.heap.size w w' := by
  induction m with
  | zero => intro L b o n cap i w hl hm h1; omega
  | succ m ih =>
    intro L b o n cap i w hl hm hi hc hbd hS
    have HIH := hide ih
    clear ih
    have HS := hide hS
    have hiI : (i : Int) < (n : Int) := by omega
    by_cases hn : n = 1
    · subst hn
      have HF := hide (proof_one (l := lsts L) (i := i) (by simp [lsts]; omega))
      go_enter Tryd.func20, Tryd.ntmps20
      go_wp2_with fail
      go_ret2
      refine ⟨_, rfl, ?_, Kept.refl _ _⟩
      rw [unhide HF]
      exact World.ownsRow_nil _ _ _ _
    · have hn2 : 2 ≤ n := by omega
      obtain ⟨k, hk⟩ : ∃ k, k = Tre.split n := ⟨_, rfl⟩
      have hk1 : 0 < k := by rw [hk]; exact Tre.split_pos n
      have hk2 : k < n := by rw [hk]; exact Tre.split_lt (by omega)
      have hs1 := sl_h b o n cap k (by omega)
      have hs2 := sl_l b o n cap k hk2 hc
      have hlt := hS.lt
      obtain ⟨i0, hi0, hz0, hz1, hz2⟩ := info_parts info24'
      clear hS
      by_cases hik : i < k
      · have hikI : (i : Int) < (k : Int) := by omega
        obtain ⟨R, hR⟩ : ∃ R, R = Tre.root (lsts (L.drop k)) := ⟨_, rfl⟩
        obtain ⟨p, hp⟩ : ∃ p, p = Tre.proofOf (lsts (L.take k)) (i) := ⟨_, rfl⟩
        have hRl : R.length = 32 := by rw [hR]; exact Tre.root_length _
        have hpl : p.length ≤ 47 := by
          rw [hp]
          exact proof_le (by simp [lsts]; omega) (by simp [lsts]; omega)
        have HF := hide (show Tre.proofOf (lsts L) i = p ++ [R] by
          rw [proof_left (by simp [lsts]; omega) (by simp [lsts, hl, ← hk]; omega), hp, hR]; simp [lsts, hl, ← hk, List.map_take, List.map_drop])
        have HP := hide (And.intro hp hR)
        have HK := hide hk
        have hb1 : p.length + 1 ≤ maxLen := by unfold maxLen; omega
        have hb2 : (p.length + 1) * 32 ≤ 140737488355328 := by omega
        have HB := hide (And.intro hb1 hb2)
        have hfill := fill_row hRl
        have hRs : (brow R).size = 32 := by rw [brow_size, hRl]
        clear hp hR hk hb1 hb2
        go_enter Tryd.func20, Tryd.ntmps20
        go_wp2_with fail
        refine (half_ref n _ (by omega) (by omega)).mono ?_
        rintro e w0 ⟨rfl, rfl⟩
        rw [← unhide HK]
        go_wp2_with fail
        refine (unhide HIH (L.take k) b (o) (k) (cap) (i) w0 (by simp; omega) (by omega) (by omega) (by omega) (by omega) ((unhide HS).take k)).mono ?_
        rintro e w1 ⟨v, rfl, hown1, hk1'⟩
        rw [← (unhide HP).1] at hown1
        have HO1 := hide (And.intro hown1 hk1')
        clear hown1 hk1'
        go_wp2_with fail
        refine (rroot_go _ (L.drop k) b (o + k) (n - k) (cap - k) w1 (by simp; omega) (Nat.le_refl _) (by omega) (by omega) (by omega) (((unhide HS).drop k).kept (unhide HO1).2 hlt)).mono ?_
        rintro e w2 ⟨rfl, hb2⟩
        rw [← (unhide HP).2]
        have HO2 := hide (And.intro (own_kept (unhide HO1).1 hb2) ((unhide HO1).2.trans (hb2.mono (unhide HO1).2.size)))
        clear hb2
        go_wp2_with (first
          | (refine wpList_store_put rfl 24 _ _ rfl w2.heap.size (brow R) rfl rfl 24 _ (heap_alloc_new _ _) (rinfo hRl) (rzero hRl) (brow_one _) ?_; intro w3 hp3; have q3 := hp3.row; have hkk : Kept w2.heap.size w2 w3 := ((Kept.refl _ _).alloc (Nat.le_refl _) _).trans (.of (hp3.below (Nat.le_refl _))); have HO3 := hide (And.intro (own_kept (unhide HO2).1 hkk) ((unhide HO2).2.trans (hkk.mono (unhide HO2).2.size))); clear hp3 hkk)
          | (refine wpList_load_row rfl 24 _ rfl w2.heap.size rfl 24 (brow R) (0, 0) _ q3 Tryd.underlying24 rfl (rinfo hRl) ?_)
          | (refine wpList_append_own _ rfl (.tmp 42) (.tmp 44) 41 rfl w0.heap.size 24 i0 (.agg (brow (List.replicate 32 0))) 32 32 Tryd.underlying41 hi0 hz0 hz1 hz2 rfl (by decide) v p.length (flat p) rfl ((unhide HO3).1.alloc _) ⟨w3.heap.size, 0, none⟩ 1 1 (blist R) rfl (by rw [List.length_map, hRl]) (news_row rfl) (blist_one R) (unhide HB).1 (unhide HB).2 (by have := (unhide HO3).2.size; simp; omega) ?_; intro v' w4 hown' hgrow _; have HO4 := hide (And.intro hown' (own_grownk ((unhide HO3).2.alloc (unhide HO3).2.size _) ((unhide HO3).1.alloc _) hgrow (by have := (unhide HO3).2.size; simp; omega))); clear hown' hgrow))
        go_ret2
        refine ⟨_, rfl, ?_, (unhide HO4).2⟩
        rw [unhide HF, List.length_append, flat, List.flatMap_append]
        have := (unhide HO4).1
        simpa using this
      · have hikI : ¬ (i : Int) < (k : Int) := by omega
        have ei : ((i : Int) - (k : Int)) = ((i - k : Nat) : Int) := by omega
        obtain ⟨R, hR⟩ : ∃ R, R = Tre.root (lsts (L.take k)) := ⟨_, rfl⟩
        obtain ⟨p, hp⟩ : ∃ p, p = Tre.proofOf (lsts (L.drop k)) (i - k) := ⟨_, rfl⟩
        have hRl : R.length = 32 := by rw [hR]; exact Tre.root_length _
        have hpl : p.length ≤ 47 := by
          rw [hp]
          exact proof_le (by simp [lsts]; omega) (by simp [lsts]; omega)
        have HF := hide (show Tre.proofOf (lsts L) i = p ++ [R] by
          rw [proof_right (by simp [lsts]; omega) (by simp [lsts, hl, ← hk]; omega), hp, hR]; simp [lsts, hl, ← hk, List.map_take, List.map_drop])
        have HP := hide (And.intro hp hR)
        have HK := hide hk
        have hb1 : p.length + 1 ≤ maxLen := by unfold maxLen; omega
        have hb2 : (p.length + 1) * 32 ≤ 140737488355328 := by omega
        have HB := hide (And.intro hb1 hb2)
        have hfill := fill_row hRl
        have hRs : (brow R).size = 32 := by rw [brow_size, hRl]
        clear hp hR hk hb1 hb2
        go_enter Tryd.func20, Tryd.ntmps20
        go_wp2_with fail
        refine (half_ref n _ (by omega) (by omega)).mono ?_
        rintro e w0 ⟨rfl, rfl⟩
        rw [← unhide HK]
        go_wp2_with fail
        refine (unhide HIH (L.drop k) b (o + k) (n - k) (cap - k) (i - k) w0 (by simp; omega) (by omega) (by omega) (by omega) (by omega) ((unhide HS).drop k)).mono ?_
        rintro e w1 ⟨v, rfl, hown1, hk1'⟩
        rw [← (unhide HP).1] at hown1
        have HO1 := hide (And.intro hown1 hk1')
        clear hown1 hk1'
        go_wp2_with fail
        refine (rroot_go _ (L.take k) b (o) (k) (cap) w1 (by simp; omega) (Nat.le_refl _) (by omega) (by omega) (by omega) (((unhide HS).take k).kept (unhide HO1).2 hlt)).mono ?_
        rintro e w2 ⟨rfl, hb2⟩
        rw [← (unhide HP).2]
        have HO2 := hide (And.intro (own_kept (unhide HO1).1 hb2) ((unhide HO1).2.trans (hb2.mono (unhide HO1).2.size)))
        clear hb2
        go_wp2_with (first
          | (refine wpList_store_put rfl 24 _ _ rfl w2.heap.size (brow R) rfl rfl 24 _ (heap_alloc_new _ _) (rinfo hRl) (rzero hRl) (brow_one _) ?_; intro w3 hp3; have q3 := hp3.row; have hkk : Kept w2.heap.size w2 w3 := ((Kept.refl _ _).alloc (Nat.le_refl _) _).trans (.of (hp3.below (Nat.le_refl _))); have HO3 := hide (And.intro (own_kept (unhide HO2).1 hkk) ((unhide HO2).2.trans (hkk.mono (unhide HO2).2.size))); clear hp3 hkk)
          | (refine wpList_load_row rfl 24 _ rfl w2.heap.size rfl 24 (brow R) (0, 0) _ q3 Tryd.underlying24 rfl (rinfo hRl) ?_)
          | (refine wpList_append_own _ rfl (.tmp 60) (.tmp 62) 41 rfl w0.heap.size 24 i0 (.agg (brow (List.replicate 32 0))) 32 32 Tryd.underlying41 hi0 hz0 hz1 hz2 rfl (by decide) v p.length (flat p) rfl ((unhide HO3).1.alloc _) ⟨w3.heap.size, 0, none⟩ 1 1 (blist R) rfl (by rw [List.length_map, hRl]) (news_row rfl) (blist_one R) (unhide HB).1 (unhide HB).2 (by have := (unhide HO3).2.size; simp; omega) ?_; intro v' w4 hown' hgrow _; have HO4 := hide (And.intro hown' (own_grownk ((unhide HO3).2.alloc (unhide HO3).2.size _) ((unhide HO3).1.alloc _) hgrow (by have := (unhide HO3).2.size; simp; omega))); clear hown' hgrow))
        go_ret2
        refine ⟨_, rfl, ?_, (unhide HO4).2⟩
        rw [unhide HF, List.length_append, flat, List.flatMap_append]
        have := (unhide HO4).1
        simpa using this
end Go.Proofs.YtfodibjlldmnpaaDoor
/-
  The reference's back.
-/
namespace Go.Proofs.YtfodibjlldmnpaaDoor
open Go.RowKit

theorem results_row_tmp {P : Program} {fn : Func} {p u : Tmp} {ty : TypeId} (h : fn.results = #[.cell p ty, .tmp u]) (tmps : Array Value) (w : World) (g : Nat) (t : TypeId) (cs : Array Value) (fr : Nat × Nat) (d : TypeDesc) (x : Value)
    (hp : tmps.getD p undef = .pointer (some ⟨g, 0, none⟩)) (hx : tmps.getD u undef = x) (hg : w.heap[g]? = some (.cells cs t fr))
    (hu : P.underlying ty = some d) (hd : (match d with | .struct _ | .array _ _ => true | _ => false) = true) (hi : (P.info? ty).map (·.size) = some cs.size) :
    (results fn tmps).run P w = .ok (.tuple #[.agg cs, x]) w := by
  rw [results_cell_tmp h, hp, hx]
  simp [asAddr, run_loadVar_row w g t ty cs fr d hg hu hd hi]

/-- The two blocks of back's own. -/
structure Bk (w : World) (D : List UInt8) (wx : World) : Prop where
  leaf : wx.heap[w.heap.size]? = some (.cells (brow D) 24 (0, 0))
  r : wx.heap[w.heap.size + 1]? = some (.cells (brow (List.replicate 32 0)) 24 (0, 0))
  size : w.heap.size + 2 ≤ wx.heap.size
  kept : Kept w.heap.size w wx
theorem Bk.next {w : World} {D : List UInt8} {wx wy : World} (h : Bk w D wx) (hb : Kept (w.heap.size + 2) wx wy) : Bk w D wy :=
  ⟨(hb.block _ (by omega)).trans h.leaf, (hb.block _ (by omega)).trans h.r, Nat.le_trans h.size hb.size, h.kept.trans (hb.mono (by omega))⟩
theorem bk_start (w : World) (D : List UInt8) : Bk w D ((w.alloc (.cells (brow D) 24)).alloc (.cells (brow (List.replicate 32 0)) 24)) :=
  ⟨(Below.heap_alloc _ _ _ (by simp)).trans (heap_alloc_new _ _), by have := heap_alloc_new (w.alloc (.cells (brow D) 24)) (.cells (brow (List.replicate 32 0)) 24); rwa [World.size_alloc] at this, by simp, .of (((Below.refl w.heap.size w).alloc (Nat.le_refl _) _).alloc (by simp) _)⟩
theorem Hshs.kept' {w w' : World} {b o B : Nat} {p : List (List UInt8)} (h : Hshs w b o p) (hb : Kept B w w') (hB : b < B) : Hshs w' b o p :=
  ⟨fun i hi j v hv => (hb.cell (p := ⟨b, o + 32 * i + j, none⟩) hB).trans (h.row i hi j v hv), h.len, Nat.lt_of_lt_of_le h.lt hb.size⟩

set_option maxRecDepth 100000 in
set_option maxHeartbeats 2000000 in
theorem back_ref (m : Nat) : ∀ (s : List UInt8) (D : List UInt8) (i n l cap : Nat) (ao : Option Addr) (p : List (List UInt8)) (w : World), n ≤ m → i < n → n ≤ 9223372036854775807 → D = Tre.leaf s → p.length = l → l ≤ cap → l ≤ 140737488355328 →
    (0 < l → ∃ b o, ao = some ⟨b, o, none⟩ ∧ Hshs w b o p) →
    Calls Tryd.prog 57 #[.agg (brow D), .int .i64 i, .int .i64 n, .slice ao l cap] w fun e w' => ∃ X, X.length = 32 ∧ e = .returned (.tuple #[.agg (brow X), .bool (decide (l = Tre.depth i n))]) ∧ (l = Tre.depth i n → X = Tre.climb s i n p) ∧ Kept w.heap.size w w' := by
  induction m with
  | zero => intro s D i n l cap ao p w hm hi; omega
  | succ m ih =>
    intro s D i n l cap ao p w hm hi hbd hD hl hlc hlb hA
    have HIH := hide ih
    clear ih
    have hDl : D.length = 32 := by rw [hD]; exact Tre.leaf_length _
    have HB0 := hide (bk_start w D)
    have q0 := (bk_start w D).leaf
    have q1 := (bk_start w D).r
    by_cases hn : n = 1
    · subst hn
      have hd1 : Tre.depth i 1 = 0 := depth_one _ _ (Nat.le_refl _)
      have HF := hide (And.intro hd1 (show Tre.climb s i 1 p = D by rw [Tre.climb, if_pos (Nat.le_refl _), hD]))
      clear hD hd1 hA hl
      go_enter Tryd.func57, Tryd.ntmps57
      go_wp2_with (first
        | (refine wpList_load_row rfl 24 _ rfl w.heap.size rfl 24 (brow D) (0, 0) _ q0 Tryd.underlying24 rfl (rinfo hDl) ?_)
        | (refine wpList_store_row rfl 24 _ _ rfl (w.heap.size + 1) (brow D) rfl rfl 24 _ q1 (rinfo hDl) (rzero hDl) (brow_one _) ?_))
      refine bodyPost_ret (v := .tuple #[.agg (brow D), .bool (decide (l = 0))]) (results_row_tmp Tryd.results57 _ _ (w.heap.size + 1) 24 _ (0, 0) _ _ rfl ?_ (setRow_heap _ _ _ _ _ _ q1) Tryd.underlying24 rfl (rinfo hDl)) rfl ?_
      · show Value.bool ((l : Int) == 0) = _
        congr 1
        by_cases h : l = 0 <;> simp [h]
      · refine ⟨D, hDl, by rw [(unhide HF).1], fun _ => (unhide HF).2.symm, (unhide HB0).kept.setRow (by omega) _⟩
    · have hn2 : 2 ≤ n := by omega
      have hdp : 0 < Tre.depth i n := by
        by_cases hik : i < Tre.split n
        · rw [depth_left hn2 hik]; omega
        · rw [depth_right hn2 hik]; omega
      by_cases hl0 : l = 0
      · have HF := hide hdp
        clear hD hdp hA hl
        subst hl0
        go_enter Tryd.func57, Tryd.ntmps57
        go_wp2_with (first
          | (refine wpList_load_row rfl 24 _ rfl w.heap.size rfl 24 (brow D) (0, 0) _ q0 Tryd.underlying24 rfl (rinfo hDl) ?_)
          | (refine wpList_store_row rfl 24 _ _ rfl (w.heap.size + 1) (brow D) rfl rfl 24 _ q1 (rinfo hDl) (rzero hDl) (brow_one _) ?_))
        refine bodyPost_ret (v := .tuple #[.agg (brow D), .bool false]) (results_row_tmp Tryd.results57 _ _ (w.heap.size + 1) 24 _ (0, 0) _ _ rfl rfl (setRow_heap _ _ _ _ _ _ q1) Tryd.underlying24 rfl (rinfo hDl)) rfl ?_
        have := unhide HF
        exact ⟨D, hDl, by rw [decide_eq_false (by omega)], fun h => by omega, (unhide HB0).kept.setRow (by omega) _⟩
      · obtain ⟨b, o, rfl, hH⟩ := hA (by omega)
        obtain ⟨q, rfl⟩ : ∃ q, l = q + 1 := ⟨l - 1, by omega⟩
        obtain ⟨k, hk⟩ : ∃ k, k = Tre.split n := ⟨_, rfl⟩
        have hk1 : 0 < k := by rw [hk]; exact Tre.split_pos n
        have hk2 : k < n := by rw [hk]; exact Tre.split_lt (by omega)
        obtain ⟨B, hB⟩ : ∃ B, B = p.getD q [] := ⟨_, rfl⟩
        have hBl : B.length = 32 := by rw [hB]; exact hH.get (by omega)
        have hlt := hH.lt
        have hqb : (q : Int) ≤ 140737488355328 := by omega
        have hqI : (q : Int) < (q : Int) + 1 := by omega
        have hsl := sl_hash b o (q + 1) cap q (by omega)
        have hi24 : (Tryd.prog.info? 24).map (·.size) = some (blist B).length := by have := rinfo hBl; rwa [brow_size, ← List.length_map (f := fun c : UInt8 => Value.int .u8 (c.toNat : Int))] at this
        have hg0 := (hH.kept' (unhide HB0).kept hlt).two (i := q) (by omega) hB |>.2
        have hptl : (p.take q).length = q := by simp; omega
        have HH := hide hH
        have HK := hide hk
        clear hA hH hdp
        by_cases hik : i < k
        · have hikI : (i : Int) < (k : Int) := by omega
          obtain ⟨ok, hok⟩ : ∃ ok, ok = decide (q = Tre.depth i k) := ⟨_, rfl⟩
          have HF := hide (show decide (q + 1 = Tre.depth i n) = ok ∧ (q + 1 = Tre.depth i n → q = Tre.depth i k) ∧ ∀ X, X = Tre.climb s i k (p.take q) → Tre.climb s i n p = Tre.node X B by
            rw [depth_left hn2 (by omega), ← hk, hok]
            refine ⟨by simp, fun h => by omega, fun X hX => ?_⟩
            rw [Tre.climb, if_neg (by omega), if_pos (by omega), ← hk, hl, hX, hB]; rfl)
          have HQ := hide (And.intro hD (And.intro hok hptl))
          clear hD hok hptl hB hk hl
          go_enter Tryd.func57, Tryd.ntmps57
          go_wp2_with (first
            | (refine wpList_load_mid rfl 24 _ rfl b (o + q * 32) rfl (blist B) _ hg0 Tryd.underlying24 rfl hi24 ?_)
            | (refine wpList_store_put rfl 24 _ _ rfl (w.heap.size + 1 + 1) (brow B) rfl rfl 24 _ (by have := heap_alloc_new ((w.alloc (.cells (brow D) 24)).alloc (.cells (brow (List.replicate 32 0)) 24)) (.cells (brow (List.replicate 32 0)) 24); rwa [World.size_alloc, World.size_alloc] at this) (rinfo hBl) (rzero hBl) (brow_one _) ?_; intro w2 hp2; have HB2 := hide (And.intro ((unhide HB0).next (((Kept.refl _ _).alloc (by simp) _).trans (.of (hp2.below (by omega))))) (And.intro hp2.row (show w.heap.size + 1 + 1 < w2.heap.size by rw [hp2.size]; simp))); have q2 := (unhide HB2).1.leaf; clear hp2)
            | (go_at_call 54; refine (half_ref n _ (by omega) hbd).mono ?_; rintro e w0 ⟨rfl, rfl⟩; rw [← unhide HK])
            | (refine wpList_load_row rfl 24 _ rfl w.heap.size rfl 24 (brow D) (0, 0) _ q2 Tryd.underlying24 rfl (rinfo hDl) ?_))
          refine (unhide HIH s D (i) (k) q cap (some ⟨b, o, none⟩) (p.take q) w0 (by omega) (by omega) (by omega) (unhide HQ).1 (unhide HQ).2.2 (by omega) (by omega) (fun _ => ⟨b, o, rfl, ((unhide HH).take q).kept' (unhide HB2).1.kept hlt⟩)).mono ?_
          rintro e w3 ⟨X, hXl, rfl, hX, hk3⟩
          rw [← (unhide HQ).2.1]
          have HX := hide hX
          have HB3 := hide (And.intro ((unhide HB2).1.next (hk3.mono (unhide HB2).1.size)) (And.intro ((hk3.block _ (unhide HB2).2.2).trans (unhide HB2).2.1) (Nat.lt_of_lt_of_le (unhide HB2).2.2 hk3.size)))
          clear hX hk3 q0 q1 q2 hg0
          go_wp2_with (first
            | (refine wpList_store_put rfl 24 _ _ rfl w3.heap.size (brow X) rfl rfl 24 _ (heap_alloc_new _ _) (rinfo hXl) (rzero hXl) (brow_one _) ?_; intro w4 hp4; have HB4 := hide ((unhide HB3).1.next (((Kept.refl _ _).alloc (unhide HB3).1.size _).trans (.of (hp4.below (unhide HB3).1.size)))); have q4 := hp4.row; have q5 := (hp4.other (w.heap.size + 1 + 1) (Nat.ne_of_lt (unhide HB3).2.2)).trans ((Below.heap_alloc _ _ _ (unhide HB3).2.2).trans (unhide HB3).2.1); clear hp4)
            | (refine wpList_load_row rfl 24 _ rfl w3.heap.size rfl 24 (brow X) (0, 0) _ q4 Tryd.underlying24 rfl (rinfo hXl) ?_)
            | (refine wpList_load_row rfl 24 _ rfl (w.heap.size + 1 + 1) rfl 24 (brow B) (0, 0) _ q5 Tryd.underlying24 rfl (rinfo hBl) ?_))
          refine (pair_ref X B _ hXl hBl).mono ?_
          rintro e w5 ⟨rfl, hk5⟩
          obtain ⟨N, hN⟩ : ∃ N, N = Tre.node X B := ⟨_, rfl⟩
          have hNl : N.length = 32 := by rw [hN]; exact Tre.node_length _ _
          rw [← hN]
          have HN := hide hN
          have HB5 := hide ((unhide HB4).next (hk5.mono (unhide HB4).size))
          have q6 := (unhide HB5).r
          clear hN hk5 q4 q5
          go_wp2_with (refine wpList_store_row rfl 24 _ _ rfl (w.heap.size + 1) (brow N) rfl rfl 24 _ q6 (rinfo hNl) (rzero hNl) (brow_one _) ?_)
          refine bodyPost_ret (v := .tuple #[.agg (brow N), .bool ok]) (results_row_tmp Tryd.results57 _ _ (w.heap.size + 1) 24 _ (0, 0) _ _ rfl rfl (setRow_heap _ _ _ _ _ _ q6) Tryd.underlying24 rfl (rinfo hNl)) rfl ?_
          exact ⟨N, hNl, by rw [(unhide HF).1], fun h => by rw [unhide HN, (unhide HF).2.2 X (unhide HX ((unhide HF).2.1 h))], (unhide HB5).kept.setRow (by omega) _⟩
        · have hikI : ¬ (i : Int) < (k : Int) := by omega
          have ei : (i : Int) - (k : Int) = ((i - k : Nat) : Int) := by omega
          have en : (n : Int) - (k : Int) = ((n - k : Nat) : Int) := by omega
          obtain ⟨ok, hok⟩ : ∃ ok, ok = decide (q = Tre.depth (i - k) (n - k)) := ⟨_, rfl⟩
          have HF := hide (show decide (q + 1 = Tre.depth i n) = ok ∧ (q + 1 = Tre.depth i n → q = Tre.depth (i - k) (n - k)) ∧ ∀ X, X = Tre.climb s (i - k) (n - k) (p.take q) → Tre.climb s i n p = Tre.node B X by
            rw [depth_right hn2 (by omega), ← hk, hok]
            refine ⟨by simp, fun h => by omega, fun X hX => ?_⟩
            rw [Tre.climb, if_neg (by omega), if_neg (by omega), ← hk, hl, hX, hB]; rfl)
          have HQ := hide (And.intro hD (And.intro hok hptl))
          clear hD hok hptl hB hk hl
          go_enter Tryd.func57, Tryd.ntmps57
          go_wp2_with (first
            | (refine wpList_load_mid rfl 24 _ rfl b (o + q * 32) rfl (blist B) _ hg0 Tryd.underlying24 rfl hi24 ?_)
            | (refine wpList_store_put rfl 24 _ _ rfl (w.heap.size + 1 + 1) (brow B) rfl rfl 24 _ (by have := heap_alloc_new ((w.alloc (.cells (brow D) 24)).alloc (.cells (brow (List.replicate 32 0)) 24)) (.cells (brow (List.replicate 32 0)) 24); rwa [World.size_alloc, World.size_alloc] at this) (rinfo hBl) (rzero hBl) (brow_one _) ?_; intro w2 hp2; have HB2 := hide (And.intro ((unhide HB0).next (((Kept.refl _ _).alloc (by simp) _).trans (.of (hp2.below (by omega))))) (And.intro hp2.row (show w.heap.size + 1 + 1 < w2.heap.size by rw [hp2.size]; simp))); have q2 := (unhide HB2).1.leaf; clear hp2)
            | (go_at_call 54; refine (half_ref n _ (by omega) hbd).mono ?_; rintro e w0 ⟨rfl, rfl⟩; rw [← unhide HK])
            | (refine wpList_load_row rfl 24 _ rfl w.heap.size rfl 24 (brow D) (0, 0) _ q2 Tryd.underlying24 rfl (rinfo hDl) ?_))
          refine (unhide HIH s D (i - k) (n - k) q cap (some ⟨b, o, none⟩) (p.take q) w0 (by omega) (by omega) (by omega) (unhide HQ).1 (unhide HQ).2.2 (by omega) (by omega) (fun _ => ⟨b, o, rfl, ((unhide HH).take q).kept' (unhide HB2).1.kept hlt⟩)).mono ?_
          rintro e w3 ⟨X, hXl, rfl, hX, hk3⟩
          rw [← (unhide HQ).2.1]
          have HX := hide hX
          have HB3 := hide (And.intro ((unhide HB2).1.next (hk3.mono (unhide HB2).1.size)) (And.intro ((hk3.block _ (unhide HB2).2.2).trans (unhide HB2).2.1) (Nat.lt_of_lt_of_le (unhide HB2).2.2 hk3.size)))
          clear hX hk3 q0 q1 q2 hg0
          go_wp2_with (first
            | (refine wpList_store_put rfl 24 _ _ rfl w3.heap.size (brow X) rfl rfl 24 _ (heap_alloc_new _ _) (rinfo hXl) (rzero hXl) (brow_one _) ?_; intro w4 hp4; have HB4 := hide ((unhide HB3).1.next (((Kept.refl _ _).alloc (unhide HB3).1.size _).trans (.of (hp4.below (unhide HB3).1.size)))); have q4 := hp4.row; have q5 := (hp4.other (w.heap.size + 1 + 1) (Nat.ne_of_lt (unhide HB3).2.2)).trans ((Below.heap_alloc _ _ _ (unhide HB3).2.2).trans (unhide HB3).2.1); clear hp4)
            | (refine wpList_load_row rfl 24 _ rfl w3.heap.size rfl 24 (brow X) (0, 0) _ q4 Tryd.underlying24 rfl (rinfo hXl) ?_)
            | (refine wpList_load_row rfl 24 _ rfl (w.heap.size + 1 + 1) rfl 24 (brow B) (0, 0) _ q5 Tryd.underlying24 rfl (rinfo hBl) ?_))
          refine (pair_ref B X _ hBl hXl).mono ?_
          rintro e w5 ⟨rfl, hk5⟩
          obtain ⟨N, hN⟩ : ∃ N, N = Tre.node B X := ⟨_, rfl⟩
          have hNl : N.length = 32 := by rw [hN]; exact Tre.node_length _ _
          rw [← hN]
          have HN := hide hN
          have HB5 := hide ((unhide HB4).next (hk5.mono (unhide HB4).size))
          have q6 := (unhide HB5).r
          clear hN hk5 q4 q5
          go_wp2_with (refine wpList_store_row rfl 24 _ _ rfl (w.heap.size + 1) (brow N) rfl rfl 24 _ q6 (rinfo hNl) (rzero hNl) (brow_one _) ?_)
          refine bodyPost_ret (v := .tuple #[.agg (brow N), .bool ok]) (results_row_tmp Tryd.results57 _ _ (w.heap.size + 1) 24 _ (0, 0) _ _ rfl rfl (setRow_heap _ _ _ _ _ _ q6) Tryd.underlying24 rfl (rinfo hNl)) rfl ?_
          exact ⟨N, hNl, by rw [(unhide HF).1], fun h => by rw [unhide HN, (unhide HF).2.2 X (unhide HX ((unhide HF).2.1 h))], (unhide HB5).kept.setRow (by omega) _⟩
end Go.Proofs.YtfodibjlldmnpaaDoor
