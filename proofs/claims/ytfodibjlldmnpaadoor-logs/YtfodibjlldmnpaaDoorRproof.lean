/-
  The reference's Proof.
-/
import Derived.Test.YtfodibjlldmnpaaDoorRroot
namespace Go.Proofs.YtfodibjlldmnpaaDoor
open Go.RowKit

theorem own_kept {w w' : World} {B : Nat} {e : TypeId} {z : Nat} {v : Value} {n : Nat} {xs : List Value} (h : w.ownsRow B e z v n xs) (hb : Kept w.heap.size w w') : w'.ownsRow B e z v n xs := by
  obtain ⟨h1, h2⟩ := h
  refine ⟨h1, ?_⟩
  rcases h2 with h | ⟨g, cap, cur, hv, hg, hh, r⟩
  · exact Or.inl h
  · refine Or.inr ⟨g, cap, cur, hv, hg, ?_, r⟩
    rw [hb.block g (Array.getElem?_eq_some_iff.1 hh).1]; exact hh
theorem own_grownk {B : Nat} {a w w' : World} {e : TypeId} {z : Nat} {v : Value} {n : Nat} {xs : List Value} (h : Kept B a w) (ho : w.ownsRow B e z v n xs) (hg : w.grownBy w' v.ownBlock) (hs : B ≤ w.heap.size) : Kept B a w' := by
  refine h.trans ⟨hg.os, hg.output, hg.size, fun k hk => hg.block k (by omega) fun e => ?_⟩
  rcases ho.2 with ⟨rfl, _⟩ | ⟨g, cap, cur, rfl, hg2, _⟩
  · simp [Value.ownBlock] at e
  · simp [Value.ownBlock] at e; omega

set_option maxRecDepth 100000 in
set_option maxHeartbeats 1000000 in
/-- A place that is none. -/
theorem rproof_none (a : Option Addr) (n cap : Nat) (i : Int) (w : World) (hi : i < 0 ∨ (n : Int) ≤ i) :
    Calls Tryd.prog 20 #[.slice a n cap, .int .i64 i] w fun e w' => e = .returned (.tuple #[.slice none 0 0, .int .i64 8]) ∧ w' = w := by
  by_cases h0 : i < 0
  · clear hi
    go_enter Tryd.func20, Tryd.ntmps20
    go_wp2_with fail
    go_ret2
    exact ⟨rfl, rfl⟩
  · have h1 : (n : Int) ≤ i := by omega
    have h0' : 0 ≤ i := by omega
    clear hi
    go_enter Tryd.func20, Tryd.ntmps20
    go_wp2_with fail
    go_ret2
    exact ⟨rfl, rfl⟩
set_option maxRecDepth 100000 in
set_option maxHeartbeats 1000000 in
theorem proof_none (a : Option Addr) (n cap : Nat) (i : Int) (w : World) (hi : i < 0 ∨ (n : Int) ≤ i) :
    Calls Tryd.prog 53 #[.slice a n cap, .int .i64 i] w fun e w' => e = .returned (.tuple #[.slice none 0 0, .int .i64 8]) ∧ w' = w := by
  by_cases h0 : i < 0
  · clear hi
    go_enter Tryd.func53, Tryd.ntmps53
    go_wp2_with fail
    go_ret2
    exact ⟨rfl, rfl⟩
  · have h1 : (n : Int) ≤ i := by omega
    have h0' : 0 ≤ i := by omega
    clear hi
    go_enter Tryd.func53, Tryd.ntmps53
    go_wp2_with fail
    go_ret2
    exact ⟨rfl, rfl⟩
set_option maxRecDepth 100000 in
set_option maxHeartbeats 1000000 in
theorem bailey_proof_none (a : Option Addr) (n cap : Nat) (i : Int) (w : World) (hi : i < 0 ∨ (n : Int) ≤ i) :
    Calls Tryd.prog 17 #[.slice a n cap, .int .i64 i] w fun e w' => e = .returned (.tuple #[.slice none 0 0, .int .i64 8]) ∧ w' = w := by
  go_enter Tryd.func17, Tryd.ntmps17
  go_wp2_with (go_at_call 53; refine (proof_none a n cap i _ hi).mono ?_; rintro e w' ⟨rfl, rfl⟩)
  go_ret2
  exact ⟨rfl, rfl⟩

set_option maxRecDepth 100000 in
set_option maxHeartbeats 2000000 in
theorem rproof_go (m : Nat) : ∀ (L : List ByteArray) (b o n cap i : Nat) (w : World), L.length = n → n ≤ m → i < n → n ≤ cap → n ≤ 140737488355328 → Strs w b o L →
    Calls Tryd.prog 20 #[.slice (some ⟨b, o, none⟩) n cap, .int .i64 i] w fun e w' => ∃ v, e = .returned (.tuple #[v, .int .i64 0]) ∧ w'.ownsRow w.heap.size 24 32 v (Tre.proofOf (lsts L) i).length (flat (Tre.proofOf (lsts L) i)) ∧ Kept w.heap.size w w' := by
  induction m with
  | zero => intro L b o n cap i w hl hm h1; omega
  | succ m ih =>
    intro L b o n cap i w hl hm hi hc hbd hS
    have HIH := hide ih
    clear ih
    have HS := hide hS
    have hiI : (i : Int) < (n : Int) := by omega
    by_cases hn : n = 1
    · subst hn
      have HF := hide (proof_one (l := lsts L) (i := i) (by simp [lsts]; omega))
      go_enter Tryd.func20, Tryd.ntmps20
      go_wp2_with fail
      go_ret2
      refine ⟨_, rfl, ?_, Kept.refl _ _⟩
      rw [unhide HF]
      exact World.ownsRow_nil _ _ _ _
    · have hn2 : 2 ≤ n := by omega
      obtain ⟨k, hk⟩ : ∃ k, k = Tre.split n := ⟨_, rfl⟩
      have hk1 : 0 < k := by rw [hk]; exact Tre.split_pos n
      have hk2 : k < n := by rw [hk]; exact Tre.split_lt (by omega)
      have hs1 := sl_h b o n cap k (by omega)
      have hs2 := sl_l b o n cap k hk2 hc
      have hlt := hS.lt
      obtain ⟨i0, hi0, hz0, hz1, hz2⟩ := info_parts info24'
      clear hS
      by_cases hik : i < k
      · have hikI : (i : Int) < (k : Int) := by omega
        obtain ⟨R, hR⟩ : ∃ R, R = Tre.root (lsts (L.drop k)) := ⟨_, rfl⟩
        obtain ⟨p, hp⟩ : ∃ p, p = Tre.proofOf (lsts (L.take k)) (i) := ⟨_, rfl⟩
        have hRl : R.length = 32 := by rw [hR]; exact Tre.root_length _
        have hpl : p.length ≤ 47 := by
          rw [hp]
          exact proof_le (by simp [lsts]; omega) (by simp [lsts]; omega)
        have HF := hide (show Tre.proofOf (lsts L) i = p ++ [R] by
          rw [proof_left (by simp [lsts]; omega) (by simp [lsts, hl, ← hk]; omega), hp, hR]; simp [lsts, hl, ← hk, List.map_take, List.map_drop])
        have HP := hide (And.intro hp hR)
        have HK := hide hk
        have hb1 : p.length + 1 ≤ maxLen := by unfold maxLen; omega
        have hb2 : (p.length + 1) * 32 ≤ 140737488355328 := by omega
        have HB := hide (And.intro hb1 hb2)
        have hfill := fill_row hRl
        have hRs : (brow R).size = 32 := by rw [brow_size, hRl]
        clear hp hR hk hb1 hb2
        go_enter Tryd.func20, Tryd.ntmps20
        go_wp2_with fail
        refine (half_ref n _ (by omega) (by omega)).mono ?_
        rintro e w0 ⟨rfl, rfl⟩
        rw [← unhide HK]
        go_wp2_with fail
        refine (unhide HIH (L.take k) b (o) (k) (cap) (i) w0 (by simp; omega) (by omega) (by omega) (by omega) (by omega) ((unhide HS).take k)).mono ?_
        rintro e w1 ⟨v, rfl, hown1, hk1'⟩
        rw [← (unhide HP).1] at hown1
        have HO1 := hide (And.intro hown1 hk1')
        clear hown1 hk1'
        go_wp2_with fail
        refine (rroot_go _ (L.drop k) b (o + k) (n - k) (cap - k) w1 (by simp; omega) (Nat.le_refl _) (by omega) (by omega) (by omega) (((unhide HS).drop k).kept (unhide HO1).2 hlt)).mono ?_
        rintro e w2 ⟨rfl, hb2⟩
        rw [← (unhide HP).2]
        have HO2 := hide (And.intro (own_kept (unhide HO1).1 hb2) ((unhide HO1).2.trans (hb2.mono (unhide HO1).2.size)))
        clear hb2
        go_wp2_with (first
          | (refine wpList_store_put rfl 24 _ _ rfl w2.heap.size (brow R) rfl rfl 24 _ (heap_alloc_new _ _) (rinfo hRl) (rzero hRl) (brow_one _) ?_; intro w3 hp3; have q3 := hp3.row; have hkk : Kept w2.heap.size w2 w3 := ((Kept.refl _ _).alloc (Nat.le_refl _) _).trans (.of (hp3.below (Nat.le_refl _))); have HO3 := hide (And.intro (own_kept (unhide HO2).1 hkk) ((unhide HO2).2.trans (hkk.mono (unhide HO2).2.size))); clear hp3 hkk)
          | (refine wpList_load_row rfl 24 _ rfl w2.heap.size rfl 24 (brow R) (0, 0) _ q3 Tryd.underlying24 rfl (rinfo hRl) ?_)
          | (refine wpList_append_own _ rfl (.tmp 42) (.tmp 44) 41 rfl w0.heap.size 24 i0 (.agg (brow (List.replicate 32 0))) 32 32 Tryd.underlying41 hi0 hz0 hz1 hz2 rfl (by decide) v p.length (flat p) rfl ((unhide HO3).1.alloc _) ⟨w3.heap.size, 0, none⟩ 1 1 (blist R) rfl (by rw [List.length_map, hRl]) (news_row rfl) (blist_one R) (unhide HB).1 (unhide HB).2 (by have := (unhide HO3).2.size; simp; omega) ?_; intro v' w4 hown' hgrow _; have HO4 := hide (And.intro hown' (own_grownk ((unhide HO3).2.alloc (unhide HO3).2.size _) ((unhide HO3).1.alloc _) hgrow (by have := (unhide HO3).2.size; simp; omega))); clear hown' hgrow))
        go_ret2
        refine ⟨_, rfl, ?_, (unhide HO4).2⟩
        rw [unhide HF, List.length_append, flat, List.flatMap_append]
        have := (unhide HO4).1
        simpa using this
      · have hikI : ¬ (i : Int) < (k : Int) := by omega
        have ei : ((i : Int) - (k : Int)) = ((i - k : Nat) : Int) := by omega
        obtain ⟨R, hR⟩ : ∃ R, R = Tre.root (lsts (L.take k)) := ⟨_, rfl⟩
        obtain ⟨p, hp⟩ : ∃ p, p = Tre.proofOf (lsts (L.drop k)) (i - k) := ⟨_, rfl⟩
        have hRl : R.length = 32 := by rw [hR]; exact Tre.root_length _
        have hpl : p.length ≤ 47 := by
          rw [hp]
          exact proof_le (by simp [lsts]; omega) (by simp [lsts]; omega)
        have HF := hide (show Tre.proofOf (lsts L) i = p ++ [R] by
          rw [proof_right (by simp [lsts]; omega) (by simp [lsts, hl, ← hk]; omega), hp, hR]; simp [lsts, hl, ← hk, List.map_take, List.map_drop])
        have HP := hide (And.intro hp hR)
        have HK := hide hk
        have hb1 : p.length + 1 ≤ maxLen := by unfold maxLen; omega
        have hb2 : (p.length + 1) * 32 ≤ 140737488355328 := by omega
        have HB := hide (And.intro hb1 hb2)
        have hfill := fill_row hRl
        have hRs : (brow R).size = 32 := by rw [brow_size, hRl]
        clear hp hR hk hb1 hb2
        go_enter Tryd.func20, Tryd.ntmps20
        go_wp2_with fail
        refine (half_ref n _ (by omega) (by omega)).mono ?_
        rintro e w0 ⟨rfl, rfl⟩
        rw [← unhide HK]
        go_wp2_with fail
        refine (unhide HIH (L.drop k) b (o + k) (n - k) (cap - k) (i - k) w0 (by simp; omega) (by omega) (by omega) (by omega) (by omega) ((unhide HS).drop k)).mono ?_
        rintro e w1 ⟨v, rfl, hown1, hk1'⟩
        rw [← (unhide HP).1] at hown1
        have HO1 := hide (And.intro hown1 hk1')
        clear hown1 hk1'
        go_wp2_with fail
        refine (rroot_go _ (L.take k) b (o) (k) (cap) w1 (by simp; omega) (Nat.le_refl _) (by omega) (by omega) (by omega) (((unhide HS).take k).kept (unhide HO1).2 hlt)).mono ?_
        rintro e w2 ⟨rfl, hb2⟩
        rw [← (unhide HP).2]
        have HO2 := hide (And.intro (own_kept (unhide HO1).1 hb2) ((unhide HO1).2.trans (hb2.mono (unhide HO1).2.size)))
        clear hb2
        go_wp2_with (first
          | (refine wpList_store_put rfl 24 _ _ rfl w2.heap.size (brow R) rfl rfl 24 _ (heap_alloc_new _ _) (rinfo hRl) (rzero hRl) (brow_one _) ?_; intro w3 hp3; have q3 := hp3.row; have hkk : Kept w2.heap.size w2 w3 := ((Kept.refl _ _).alloc (Nat.le_refl _) _).trans (.of (hp3.below (Nat.le_refl _))); have HO3 := hide (And.intro (own_kept (unhide HO2).1 hkk) ((unhide HO2).2.trans (hkk.mono (unhide HO2).2.size))); clear hp3 hkk)
          | (refine wpList_load_row rfl 24 _ rfl w2.heap.size rfl 24 (brow R) (0, 0) _ q3 Tryd.underlying24 rfl (rinfo hRl) ?_)
          | (refine wpList_append_own _ rfl (.tmp 60) (.tmp 62) 41 rfl w0.heap.size 24 i0 (.agg (brow (List.replicate 32 0))) 32 32 Tryd.underlying41 hi0 hz0 hz1 hz2 rfl (by decide) v p.length (flat p) rfl ((unhide HO3).1.alloc _) ⟨w3.heap.size, 0, none⟩ 1 1 (blist R) rfl (by rw [List.length_map, hRl]) (news_row rfl) (blist_one R) (unhide HB).1 (unhide HB).2 (by have := (unhide HO3).2.size; simp; omega) ?_; intro v' w4 hown' hgrow _; have HO4 := hide (And.intro hown' (own_grownk ((unhide HO3).2.alloc (unhide HO3).2.size _) ((unhide HO3).1.alloc _) hgrow (by have := (unhide HO3).2.size; simp; omega))); clear hown' hgrow))
        go_ret2
        refine ⟨_, rfl, ?_, (unhide HO4).2⟩
        rw [unhide HF, List.length_append, flat, List.flatMap_append]
        have := (unhide HO4).1
        simpa using this
end Go.Proofs.YtfodibjlldmnpaaDoor
