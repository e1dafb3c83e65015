/-
  The reference's back.
-/
import Derived.Test.YtfodibjlldmnpaaDoorRproof
import Derived.Laws.ResultCell
namespace Go.Proofs.YtfodibjlldmnpaaDoor
open Go.RowKit

theorem results_row_tmp {P : Program} {fn : Func} {p u : Tmp} {ty : TypeId} (h : fn.results = #[.cell p ty, .tmp u]) (tmps : Array Value) (w : World) (g : Nat) (t : TypeId) (cs : Array Value) (fr : Nat × Nat) (d : TypeDesc) (x : Value)
    (hp : tmps.getD p undef = .pointer (some ⟨g, 0, none⟩)) (hx : tmps.getD u undef = x) (hg : w.heap[g]? = some (.cells cs t fr))
    (hu : P.underlying ty = some d) (hd : (match d with | .struct _ | .array _ _ => true | _ => false) = true) (hi : (P.info? ty).map (·.size) = some cs.size) :
    (results fn tmps).run P w = .ok (.tuple #[.agg cs, x]) w := by
  rw [results_cell_tmp h, hp, hx]
  simp [asAddr, run_loadVar_row w g t ty cs fr d hg hu hd hi]

/-- The two blocks of back's own. -/
structure Bk (w : World) (D : List UInt8) (wx : World) : Prop where
  leaf : wx.heap[w.heap.size]? = some (.cells (brow D) 24 (0, 0))
  r : wx.heap[w.heap.size + 1]? = some (.cells (brow (List.replicate 32 0)) 24 (0, 0))
  size : w.heap.size + 2 ≤ wx.heap.size
  kept : Kept w.heap.size w wx
theorem Bk.next {w : World} {D : List UInt8} {wx wy : World} (h : Bk w D wx) (hb : Kept (w.heap.size + 2) wx wy) : Bk w D wy :=
  ⟨(hb.block _ (by omega)).trans h.leaf, (hb.block _ (by omega)).trans h.r, Nat.le_trans h.size hb.size, h.kept.trans (hb.mono (by omega))⟩
theorem bk_start (w : World) (D : List UInt8) : Bk w D ((w.alloc (.cells (brow D) 24)).alloc (.cells (brow (List.replicate 32 0)) 24)) :=
  ⟨(Below.heap_alloc _ _ _ (by simp)).trans (heap_alloc_new _ _), by have := heap_alloc_new (w.alloc (.cells (brow D) 24)) (.cells (brow (List.replicate 32 0)) 24); rwa [World.size_alloc] at this, by simp, .of (((Below.refl w.heap.size w).alloc (Nat.le_refl _) _).alloc (by simp) _)⟩
theorem Hshs.kept' {w w' : World} {b o B : Nat} {p : List (List UInt8)} (h : Hshs w b o p) (hb : Kept B w w') (hB : b < B) : Hshs w' b o p :=
  ⟨fun i hi j v hv => (hb.cell (p := ⟨b, o + 32 * i + j, none⟩) hB).trans (h.row i hi j v hv), h.len, Nat.lt_of_lt_of_le h.lt hb.size⟩

set_option maxRecDepth 100000 in
set_option maxHeartbeats 2000000 in
theorem back_ref (m : Nat) : ∀ (s : List UInt8) (D : List UInt8) (i n l cap : Nat) (ao : Option Addr) (p : List (List UInt8)) (w : World), n ≤ m → i < n → n ≤ 9223372036854775807 → D = Tre.leaf s → p.length = l → l ≤ cap → l ≤ 140737488355328 →
    (0 < l → ∃ b o, ao = some ⟨b, o, none⟩ ∧ Hshs w b o p) →
    Calls Tryd.prog 57 #[.agg (brow D), .int .i64 i, .int .i64 n, .slice ao l cap] w fun e w' => ∃ X, X.length = 32 ∧ e = .returned (.tuple #[.agg (brow X), .bool (decide (l = Tre.depth i n))]) ∧ (l = Tre.depth i n → X = Tre.climb s i n p) ∧ Kept w.heap.size w w' := by
  induction m with
  | zero => intro s D i n l cap ao p w hm hi; omega
  | succ m ih =>
    intro s D i n l cap ao p w hm hi hbd hD hl hlc hlb hA
    have HIH := hide ih
    clear ih
    have hDl : D.length = 32 := by rw [hD]; exact Tre.leaf_length _
    have HB0 := hide (bk_start w D)
    have q0 := (bk_start w D).leaf
    have q1 := (bk_start w D).r
    by_cases hn : n = 1
    · subst hn
      have hd1 : Tre.depth i 1 = 0 := depth_one _ _ (Nat.le_refl _)
      have HF := hide (And.intro hd1 (show Tre.climb s i 1 p = D by rw [Tre.climb, if_pos (Nat.le_refl _), hD]))
      clear hD hd1 hA hl
      go_enter Tryd.func57, Tryd.ntmps57
      go_wp2_with (first
        | (refine wpList_load_row rfl 24 _ rfl w.heap.size rfl 24 (brow D) (0, 0) _ q0 Tryd.underlying24 rfl (rinfo hDl) ?_)
        | (refine wpList_store_row rfl 24 _ _ rfl (w.heap.size + 1) (brow D) rfl rfl 24 _ q1 (rinfo hDl) (rzero hDl) (brow_one _) ?_))
      refine bodyPost_ret (v := .tuple #[.agg (brow D), .bool (decide (l = 0))]) (results_row_tmp Tryd.results57 _ _ (w.heap.size + 1) 24 _ (0, 0) _ _ rfl ?_ (setRow_heap _ _ _ _ _ _ q1) Tryd.underlying24 rfl (rinfo hDl)) rfl ?_
      · show Value.bool ((l : Int) == 0) = _
        congr 1
        by_cases h : l = 0 <;> simp [h]
      · refine ⟨D, hDl, by rw [(unhide HF).1], fun _ => (unhide HF).2.symm, (unhide HB0).kept.setRow (by omega) _⟩
    · have hn2 : 2 ≤ n := by omega
      have hdp : 0 < Tre.depth i n := by
        by_cases hik : i < Tre.split n
        · rw [depth_left hn2 hik]; omega
        · rw [depth_right hn2 hik]; omega
      by_cases hl0 : l = 0
      · have HF := hide hdp
        clear hD hdp hA hl
        subst hl0
        go_enter Tryd.func57, Tryd.ntmps57
        go_wp2_with (first
          | (refine wpList_load_row rfl 24 _ rfl w.heap.size rfl 24 (brow D) (0, 0) _ q0 Tryd.underlying24 rfl (rinfo hDl) ?_)
          | (refine wpList_store_row rfl 24 _ _ rfl (w.heap.size + 1) (brow D) rfl rfl 24 _ q1 (rinfo hDl) (rzero hDl) (brow_one _) ?_))
        refine bodyPost_ret (v := .tuple #[.agg (brow D), .bool false]) (results_row_tmp Tryd.results57 _ _ (w.heap.size + 1) 24 _ (0, 0) _ _ rfl rfl (setRow_heap _ _ _ _ _ _ q1) Tryd.underlying24 rfl (rinfo hDl)) rfl ?_
        have := unhide HF
        exact ⟨D, hDl, by rw [decide_eq_false (by omega)], fun h => by omega, (unhide HB0).kept.setRow (by omega) _⟩
      · obtain ⟨b, o, rfl, hH⟩ := hA (by omega)
        obtain ⟨q, rfl⟩ : ∃ q, l = q + 1 := ⟨l - 1, by omega⟩
        obtain ⟨k, hk⟩ : ∃ k, k = Tre.split n := ⟨_, rfl⟩
        have hk1 : 0 < k := by rw [hk]; exact Tre.split_pos n
        have hk2 : k < n := by rw [hk]; exact Tre.split_lt (by omega)
        obtain ⟨B, hB⟩ : ∃ B, B = p.getD q [] := ⟨_, rfl⟩
        have hBl : B.length = 32 := by rw [hB]; exact hH.get (by omega)
        have hlt := hH.lt
        have hqb : (q : Int) ≤ 140737488355328 := by omega
        have hqI : (q : Int) < (q : Int) + 1 := by omega
        have hsl := sl_hash b o (q + 1) cap q (by omega)
        have hi24 : (Tryd.prog.info? 24).map (·.size) = some (blist B).length := by have := rinfo hBl; rwa [brow_size, ← List.length_map (f := fun c : UInt8 => Value.int .u8 (c.toNat : Int))] at this
        have hg0 := (hH.kept' (unhide HB0).kept hlt).two (i := q) (by omega) hB |>.2
        have hptl : (p.take q).length = q := by simp; omega
        have HH := hide hH
        have HK := hide hk
        clear hA hH hdp
        by_cases hik : i < k
        · have hikI : (i : Int) < (k : Int) := by omega
          obtain ⟨ok, hok⟩ : ∃ ok, ok = decide (q = Tre.depth i k) := ⟨_, rfl⟩
          have HF := hide (show decide (q + 1 = Tre.depth i n) = ok ∧ (q + 1 = Tre.depth i n → q = Tre.depth i k) ∧ ∀ X, X = Tre.climb s i k (p.take q) → Tre.climb s i n p = Tre.node X B by
            rw [depth_left hn2 (by omega), ← hk, hok]
            refine ⟨by simp, fun h => by omega, fun X hX => ?_⟩
            rw [Tre.climb, if_neg (by omega), if_pos (by omega), ← hk, hl, hX, hB]; rfl)
          have HQ := hide (And.intro hD (And.intro hok hptl))
          clear hD hok hptl hB hk hl
          go_enter Tryd.func57, Tryd.ntmps57
          go_wp2_with (first
            | (refine wpList_load_mid rfl 24 _ rfl b (o + q * 32) rfl (blist B) _ hg0 Tryd.underlying24 rfl hi24 ?_)
            | (refine wpList_store_put rfl 24 _ _ rfl (w.heap.size + 1 + 1) (brow B) rfl rfl 24 _ (by have := heap_alloc_new ((w.alloc (.cells (brow D) 24)).alloc (.cells (brow (List.replicate 32 0)) 24)) (.cells (brow (List.replicate 32 0)) 24); rwa [World.size_alloc, World.size_alloc] at this) (rinfo hBl) (rzero hBl) (brow_one _) ?_; intro w2 hp2; have HB2 := hide (And.intro ((unhide HB0).next (((Kept.refl _ _).alloc (by simp) _).trans (.of (hp2.below (by omega))))) (And.intro hp2.row (show w.heap.size + 1 + 1 < w2.heap.size by rw [hp2.size]; simp))); have q2 := (unhide HB2).1.leaf; clear hp2)
            | (go_at_call 54; refine (half_ref n _ (by omega) hbd).mono ?_; rintro e w0 ⟨rfl, rfl⟩; rw [← unhide HK])
            | (refine wpList_load_row rfl 24 _ rfl w.heap.size rfl 24 (brow D) (0, 0) _ q2 Tryd.underlying24 rfl (rinfo hDl) ?_))
          refine (unhide HIH s D (i) (k) q cap (some ⟨b, o, none⟩) (p.take q) w0 (by omega) (by omega) (by omega) (unhide HQ).1 (unhide HQ).2.2 (by omega) (by omega) (fun _ => ⟨b, o, rfl, ((unhide HH).take q).kept' (unhide HB2).1.kept hlt⟩)).mono ?_
          rintro e w3 ⟨X, hXl, rfl, hX, hk3⟩
          rw [← (unhide HQ).2.1]
          have HX := hide hX
          have HB3 := hide (And.intro ((unhide HB2).1.next (hk3.mono (unhide HB2).1.size)) (And.intro ((hk3.block _ (unhide HB2).2.2).trans (unhide HB2).2.1) (Nat.lt_of_lt_of_le (unhide HB2).2.2 hk3.size)))
          clear hX hk3 q0 q1 q2 hg0
          go_wp2_with (first
            | (refine wpList_store_put rfl 24 _ _ rfl w3.heap.size (brow X) rfl rfl 24 _ (heap_alloc_new _ _) (rinfo hXl) (rzero hXl) (brow_one _) ?_; intro w4 hp4; have HB4 := hide ((unhide HB3).1.next (((Kept.refl _ _).alloc (unhide HB3).1.size _).trans (.of (hp4.below (unhide HB3).1.size)))); have q4 := hp4.row; have q5 := (hp4.other (w.heap.size + 1 + 1) (Nat.ne_of_lt (unhide HB3).2.2)).trans ((Below.heap_alloc _ _ _ (unhide HB3).2.2).trans (unhide HB3).2.1); clear hp4)
            | (refine wpList_load_row rfl 24 _ rfl w3.heap.size rfl 24 (brow X) (0, 0) _ q4 Tryd.underlying24 rfl (rinfo hXl) ?_)
            | (refine wpList_load_row rfl 24 _ rfl (w.heap.size + 1 + 1) rfl 24 (brow B) (0, 0) _ q5 Tryd.underlying24 rfl (rinfo hBl) ?_))
          refine (pair_ref X B _ hXl hBl).mono ?_
          rintro e w5 ⟨rfl, hk5⟩
          obtain ⟨N, hN⟩ : ∃ N, N = Tre.node X B := ⟨_, rfl⟩
          have hNl : N.length = 32 := by rw [hN]; exact Tre.node_length _ _
          rw [← hN]
          have HN := hide hN
          have HB5 := hide ((unhide HB4).next (hk5.mono (unhide HB4).size))
          have q6 := (unhide HB5).r
          clear hN hk5 q4 q5
          go_wp2_with (refine wpList_store_row rfl 24 _ _ rfl (w.heap.size + 1) (brow N) rfl rfl 24 _ q6 (rinfo hNl) (rzero hNl) (brow_one _) ?_)
          refine bodyPost_ret (v := .tuple #[.agg (brow N), .bool ok]) (results_row_tmp Tryd.results57 _ _ (w.heap.size + 1) 24 _ (0, 0) _ _ rfl rfl (setRow_heap _ _ _ _ _ _ q6) Tryd.underlying24 rfl (rinfo hNl)) rfl ?_
          exact ⟨N, hNl, by rw [(unhide HF).1], fun h => by rw [unhide HN, (unhide HF).2.2 X (unhide HX ((unhide HF).2.1 h))], (unhide HB5).kept.setRow (by omega) _⟩
        · have hikI : ¬ (i : Int) < (k : Int) := by omega
          have ei : (i : Int) - (k : Int) = ((i - k : Nat) : Int) := by omega
          have en : (n : Int) - (k : Int) = ((n - k : Nat) : Int) := by omega
          obtain ⟨ok, hok⟩ : ∃ ok, ok = decide (q = Tre.depth (i - k) (n - k)) := ⟨_, rfl⟩
          have HF := hide (show decide (q + 1 = Tre.depth i n) = ok ∧ (q + 1 = Tre.depth i n → q = Tre.depth (i - k) (n - k)) ∧ ∀ X, X = Tre.climb s (i - k) (n - k) (p.take q) → Tre.climb s i n p = Tre.node B X by
            rw [depth_right hn2 (by omega), ← hk, hok]
            refine ⟨by simp, fun h => by omega, fun X hX => ?_⟩
            rw [Tre.climb, if_neg (by omega), if_neg (by omega), ← hk, hl, hX, hB]; rfl)
          have HQ := hide (And.intro hD (And.intro hok hptl))
          clear hD hok hptl hB hk hl
          go_enter Tryd.func57, Tryd.ntmps57
          go_wp2_with (first
            | (refine wpList_load_mid rfl 24 _ rfl b (o + q * 32) rfl (blist B) _ hg0 Tryd.underlying24 rfl hi24 ?_)
            | (refine wpList_store_put rfl 24 _ _ rfl (w.heap.size + 1 + 1) (brow B) rfl rfl 24 _ (by have := heap_alloc_new ((w.alloc (.cells (brow D) 24)).alloc (.cells (brow (List.replicate 32 0)) 24)) (.cells (brow (List.replicate 32 0)) 24); rwa [World.size_alloc, World.size_alloc] at this) (rinfo hBl) (rzero hBl) (brow_one _) ?_; intro w2 hp2; have HB2 := hide (And.intro ((unhide HB0).next (((Kept.refl _ _).alloc (by simp) _).trans (.of (hp2.below (by omega))))) (And.intro hp2.row (show w.heap.size + 1 + 1 < w2.heap.size by rw [hp2.size]; simp))); have q2 := (unhide HB2).1.leaf; clear hp2)
            | (go_at_call 54; refine (half_ref n _ (by omega) hbd).mono ?_; rintro e w0 ⟨rfl, rfl⟩; rw [← unhide HK])
            | (refine wpList_load_row rfl 24 _ rfl w.heap.size rfl 24 (brow D) (0, 0) _ q2 Tryd.underlying24 rfl (rinfo hDl) ?_))
          refine (unhide HIH s D (i - k) (n - k) q cap (some ⟨b, o, none⟩) (p.take q) w0 (by omega) (by omega) (by omega) (unhide HQ).1 (unhide HQ).2.2 (by omega) (by omega) (fun _ => ⟨b, o, rfl, ((unhide HH).take q).kept' (unhide HB2).1.kept hlt⟩)).mono ?_
          rintro e w3 ⟨X, hXl, rfl, hX, hk3⟩
          rw [← (unhide HQ).2.1]
          have HX := hide hX
          have HB3 := hide (And.intro ((unhide HB2).1.next (hk3.mono (unhide HB2).1.size)) (And.intro ((hk3.block _ (unhide HB2).2.2).trans (unhide HB2).2.1) (Nat.lt_of_lt_of_le (unhide HB2).2.2 hk3.size)))
          clear hX hk3 q0 q1 q2 hg0
          go_wp2_with (first
            | (refine wpList_store_put rfl 24 _ _ rfl w3.heap.size (brow X) rfl rfl 24 _ (heap_alloc_new _ _) (rinfo hXl) (rzero hXl) (brow_one _) ?_; intro w4 hp4; have HB4 := hide ((unhide HB3).1.next (((Kept.refl _ _).alloc (unhide HB3).1.size _).trans (.of (hp4.below (unhide HB3).1.size)))); have q4 := hp4.row; have q5 := (hp4.other (w.heap.size + 1 + 1) (Nat.ne_of_lt (unhide HB3).2.2)).trans ((Below.heap_alloc _ _ _ (unhide HB3).2.2).trans (unhide HB3).2.1); clear hp4)
            | (refine wpList_load_row rfl 24 _ rfl w3.heap.size rfl 24 (brow X) (0, 0) _ q4 Tryd.underlying24 rfl (rinfo hXl) ?_)
            | (refine wpList_load_row rfl 24 _ rfl (w.heap.size + 1 + 1) rfl 24 (brow B) (0, 0) _ q5 Tryd.underlying24 rfl (rinfo hBl) ?_))
          refine (pair_ref B X _ hBl hXl).mono ?_
          rintro e w5 ⟨rfl, hk5⟩
          obtain ⟨N, hN⟩ : ∃ N, N = Tre.node B X := ⟨_, rfl⟩
          have hNl : N.length = 32 := by rw [hN]; exact Tre.node_length _ _
          rw [← hN]
          have HN := hide hN
          have HB5 := hide ((unhide HB4).next (hk5.mono (unhide HB4).size))
          have q6 := (unhide HB5).r
          clear hN hk5 q4 q5
          go_wp2_with (refine wpList_store_row rfl 24 _ _ rfl (w.heap.size + 1) (brow N) rfl rfl 24 _ q6 (rinfo hNl) (rzero hNl) (brow_one _) ?_)
          refine bodyPost_ret (v := .tuple #[.agg (brow N), .bool ok]) (results_row_tmp Tryd.results57 _ _ (w.heap.size + 1) 24 _ (0, 0) _ _ rfl rfl (setRow_heap _ _ _ _ _ _ q6) Tryd.underlying24 rfl (rinfo hNl)) rfl ?_
          exact ⟨N, hNl, by rw [(unhide HF).1], fun h => by rw [unhide HN, (unhide HF).2.2 X (unhide HX ((unhide HF).2.1 h))], (unhide HB5).kept.setRow (by omega) _⟩
end Go.Proofs.YtfodibjlldmnpaaDoor
