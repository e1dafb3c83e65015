/-
  The reference's Proves.
-/
import Derived.Test.YtfodibjlldmnpaaDoorJHalf
import Derived.Test.YtfodibjlldmnpaaDoorLaw
namespace Go.Proofs.YtfodibjlldmnpaaDoor
open Go.RowKit

set_option maxRecDepth 100000 in
set_option maxHeartbeats 1000000 in
theorem rproves_none (s : ByteArray) (i n : Int) (v : Value) (r : List UInt8) (w : World) (hi : i < 0 ∨ n ≤ i) :
    Calls Tryd.prog 27 #[.string s, .int .i64 i, .int .i64 n, v, .agg (brow r)] w fun e w' => e = .returned (.bool false) ∧ Kept w.heap.size w w' := by
  by_cases h0 : i < 0
  · clear hi
    go_enter Tryd.func27, Tryd.ntmps27
    go_wp2_with fail
    go_ret
    exact ⟨rfl, (Kept.refl _ _).alloc (Nat.le_refl _) _⟩
  · have h1 : n ≤ i := by omega
    have h0' : 0 ≤ i := by omega
    clear hi
    go_enter Tryd.func27, Tryd.ntmps27
    go_wp2_with fail
    go_ret
    exact ⟨rfl, (Kept.refl _ _).alloc (Nat.le_refl _) _⟩

set_option maxRecDepth 100000 in
set_option maxHeartbeats 2000000 in
theorem rproves_go (s : ByteArray) (i n l cap : Nat) (ao : Option Addr) (p : List (List UInt8)) (r : List UInt8) (w : World) (hi : i < n) (hn : n ≤ 9223372036854775807) (hs : s.size ≤ 140737488354900) (hr : r.length = 32) (hl : p.length = l) (hlc : l ≤ cap) (hlb : l ≤ 140737488355328)
    (hA : 0 < l → ∃ b o, ao = some ⟨b, o, none⟩ ∧ Hshs w b o p) :
    Calls Tryd.prog 27 #[.string s, .int .i64 i, .int .i64 n, .slice ao l cap, .agg (brow r)] w fun e w' => e = .returned (.bool (decide (l = Tre.depth i n) && (Tre.climb s.data.toList i n p == r))) ∧ Kept w.heap.size w w' := by
  have hiI : (i : Int) < (n : Int) := by omega
  obtain ⟨c, hcc⟩ : ∃ c : ByteArray, c = ⟨#[0]⟩ ++ s := ⟨_, rfl⟩
  have hcl : c.data.toList = 0 :: s.data.toList := by rw [hcc, ByteArray.data_append, Array.toList_append]; rfl
  have hcs : c.size = 1 + s.size := by rw [← size_toList, hcl, List.length_cons, size_toList]; omega
  have hadd : ∀ W : World, (Op.stringOp .add ⟨#[0]⟩ s).run Tryd.prog W = .ok (.string c) W := fun W => by
    rw [hcc]; exact run_string_add_sum _ _ _ (by show 1 + s.size ≤ _; omega)
  obtain ⟨D, hD⟩ : ∃ D, D = Sha.digest c.data.toList := ⟨_, rfl⟩
  have hDl : D.length = 32 := by rw [hD]; exact Sha.digest_length _
  have HD := hide (And.intro hD (show D = Tre.leaf s.data.toList by rw [hD, hcl]; rfl))
  have HC := hide hcs
  have HA := hide (And.intro hl hA)
  have hg := guard_24
  have hk0 : Kept w.heap.size w (w.alloc (.cells (brow r) 24)) := (Kept.refl _ _).alloc (Nat.le_refl _) _
  have HK0 := hide (And.intro hk0 (heap_alloc_new w (.cells (brow r) 24)))
  clear hcc hcl hcs hD hl hA hk0
  go_enter Tryd.func27, Tryd.ntmps27
  go_wp2_with fail
  refine (digest_ref c _ (by have := unhide HC; omega)).mono ?_
  rintro e w1 ⟨rfl, hk1⟩
  rw [← (unhide HD).1]
  have HK1 := hide (And.intro ((unhide HK0).1.trans (hk1.mono (by simp))) (And.intro ((hk1.block w.heap.size (by simp)).trans (unhide HK0).2) (show w.heap.size < w1.heap.size from Nat.lt_of_lt_of_le (by simp) hk1.size)))
  clear hk1 HK0
  go_wp2_with (first
    | (refine wpList_store_put rfl 24 _ _ rfl w1.heap.size (brow D) rfl rfl 24 _ (heap_alloc_new _ _) (rinfo hDl) (rzero hDl) (brow_one _) ?_; intro w2 hp2; have HK2 := hide (And.intro ((unhide HK1).1.trans (((Kept.refl _ _).alloc (unhide HK1).1.size _).trans (.of (hp2.below (unhide HK1).1.size)))) (And.intro ((hp2.other w.heap.size (Nat.ne_of_lt (unhide HK1).2.2)).trans ((Below.heap_alloc _ _ _ (unhide HK1).2.2).trans (unhide HK1).2.1)) (show w.heap.size < w2.heap.size by rw [hp2.size]; have := (unhide HK1).2.2; simp; omega))); have q2 := hp2.row; clear hp2)
    | (refine wpList_load_row rfl 24 _ rfl w1.heap.size rfl 24 (brow D) (0, 0) _ q2 Tryd.underlying24 rfl (rinfo hDl) ?_))
  refine (back_ref _ s.data.toList D i n l cap ao p w2 (Nat.le_refl _) hi hn (unhide HD).2 (unhide HA).1 hlc hlb (fun h => by obtain ⟨b, o, h1, h2⟩ := (unhide HA).2 h; exact ⟨b, o, h1, h2.kept' (unhide HK2).1 h2.lt⟩)).mono ?_
  rintro e w3 ⟨X, hXl, rfl, hX, hk3⟩
  have HK3 := hide (And.intro ((unhide HK2).1.trans (hk3.mono (unhide HK2).1.size)) (And.intro ((hk3.block _ (unhide HK2).2.2).trans (unhide HK2).2.1) (Nat.lt_of_lt_of_le (unhide HK2).2.2 hk3.size)))
  clear hk3 q2
  have heq := eq_row X r hXl hr
  by_cases hd : l = Tre.depth i n
  · have HX := hide (hX hd)
    rw [decide_eq_true hd]
    have HDD := hide hd
    clear hX hd
    go_wp2_with (first
      | (refine wpList_store_put rfl 24 _ _ rfl w3.heap.size (brow X) rfl rfl 24 _ (heap_alloc_new _ _) (rinfo hXl) (rzero hXl) (brow_one _) ?_; intro w4 hp4; have HK4 := hide ((unhide HK3).1.trans (((Kept.refl _ _).alloc (unhide HK3).1.size _).trans (.of (hp4.below (unhide HK3).1.size)))); have q4 := hp4.row; have q5 := (hp4.other w.heap.size (Nat.ne_of_lt (unhide HK3).2.2)).trans ((Below.heap_alloc _ _ _ (unhide HK3).2.2).trans (unhide HK3).2.1); clear hp4)
      | (refine wpList_load_row_g (by rfl) 24 _ rfl w3.heap.size rfl 24 (brow X) (0, 0) _ q4 Tryd.underlying24 rfl (rinfo hXl) ?_)
      | (refine wpList_load_row_g (by rfl) 24 _ rfl w.heap.size rfl 24 (brow r) (0, 0) _ q5 Tryd.underlying24 rfl (rinfo hr) ?_))
    go_ret
    exact ⟨by rw [unhide HX, decide_eq_true (unhide HDD)]; simp, unhide HK4⟩
  · rw [decide_eq_false hd]
    have HDD := hide hd
    clear hX hd
    go_wp2_with (first
      | (refine wpList_store_put rfl 24 _ _ rfl w3.heap.size (brow X) rfl rfl 24 _ (heap_alloc_new _ _) (rinfo hXl) (rzero hXl) (brow_one _) ?_; intro w4 hp4; have HK4 := hide ((unhide HK3).1.trans (((Kept.refl _ _).alloc (unhide HK3).1.size _).trans (.of (hp4.below (unhide HK3).1.size)))); clear hp4))
    go_ret
    exact ⟨by rw [decide_eq_false (unhide HDD)]; simp, unhide HK4⟩
end Go.Proofs.YtfodibjlldmnpaaDoor
