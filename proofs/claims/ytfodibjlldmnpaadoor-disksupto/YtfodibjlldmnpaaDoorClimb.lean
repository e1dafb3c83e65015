/-
  tree.depth, tree.climb.
-/
import Derived.Test.YtfodibjlldmnpaaDoorRoot
import Derived.Deep.MidRow
import Derived.Deep.RegionHeld3
namespace Go.Proofs.YtfodibjlldmnpaaDoor
open Go.RowKit

theorem depth_one (i n : Nat) (h : n ≤ 1) : Tre.depth i n = 0 := by rw [Tre.depth, if_pos h]
theorem depth_left {i n : Nat} (h : 2 ≤ n) (hi : i < Tre.split n) : Tre.depth i n = Tre.depth i (Tre.split n) + 1 := by
  rw [Tre.depth, if_neg (by omega), if_pos hi]
theorem depth_right {i n : Nat} (h : 2 ≤ n) (hi : ¬ i < Tre.split n) : Tre.depth i n = Tre.depth (i - Tre.split n) (n - Tre.split n) + 1 := by
  rw [Tre.depth, if_neg (by omega), if_neg hi]
theorem depth_le (m : Nat) : ∀ i n : Nat, n ≤ m → Tre.depth i n ≤ n := by
  induction m with
  | zero => intro i n h; rw [depth_one _ _ (by omega)]; omega
  | succ m ih =>
    intro i n h
    by_cases h1 : n ≤ 1
    · rw [depth_one _ _ h1]; omega
    · have hp := Tre.split_pos n
      have hl := Tre.split_lt (n := n) (by omega)
      by_cases hi : i < Tre.split n
      · rw [depth_left (by omega) hi]; have := ih i (Tre.split n) (by omega); omega
      · rw [depth_right (by omega) hi]; have := ih (i - Tre.split n) (n - Tre.split n) (by omega); omega

theorem depth_log (k : Nat) : ∀ i n : Nat, n ≤ 2 ^ k → Tre.depth i n ≤ k := by
  induction k with
  | zero => intro i n h; rw [depth_one _ _ (by simpa using h)]; omega
  | succ k ih =>
    intro i n h
    by_cases h1 : n ≤ 1
    · rw [depth_one _ _ h1]; omega
    · have hlog : Nat.log2 (n - 1) < k + 1 := (Nat.log2_lt (by omega)).2 (by omega)
      have hs : Tre.split n ≤ 2 ^ k := Nat.pow_le_pow_right (by decide) (by omega)
      have hr : n ≤ 2 * Tre.split n := by
        have := Nat.lt_log2_self (n := n - 1)
        rw [Nat.pow_succ] at this
        unfold Tre.split
        omega
      by_cases hi : i < Tre.split n
      · rw [depth_left (by omega) hi]; have := ih i (Tre.split n) hs; omega
      · rw [depth_right (by omega) hi]; have := ih (i - Tre.split n) (n - Tre.split n) (by omega); omega
theorem depth_63 {i n : Nat} (h : n ≤ 9223372036854775807) : Tre.depth i n ≤ 63 := depth_log 63 i n (by simp; omega)
theorem wrap_i64_f {x : Int} (h0 : -9223372036854775808 ≤ x) (h1 : x ≤ 9223372036854775807) : IntKind.i64.wrap x = x := by
  rw [IntKind.wrap_i64]
  omega

set_option maxRecDepth 100000 in
set_option maxHeartbeats 1000000 in
theorem depth_go (i n : Nat) (w : World) (hi : i < n) (hn : n ≤ 9223372036854775807) :
    Calls Tryd.prog 95 #[.int .i64 i, .int .i64 n] w fun e w' => e = .returned (.int .i64 (Tre.depth i n)) ∧ w' = w := by
  have hdl := depth_63 (i := i) hn
  obtain ⟨D, hD⟩ : ∃ D, D = Tre.depth i n := ⟨_, rfl⟩
  rw [← hD] at hdl ⊢
  have HD := hide hD
  clear hD
  go_enter Tryd.func95, Tryd.ntmps95
  go_wp2_with fail
  go_loop [0, 1, 5] (fun vi vn vc => ∃ a b c : Nat, a < b ∧ b ≤ n ∧ c + Tre.depth a b = D ∧ vi = .int .i64 a ∧ vn = .int .i64 b ∧ vc = .int .i64 c) (fun _ vn _ => (intOf vn).toNat)
  case atStart => exact ⟨i, n, 0, hi, Nat.le_refl _, by rw [unhide HD]; omega, rfl, rfl, rfl⟩
  case round =>
    obtain ⟨a, b, c, hab, hbn, hd, rfl, rfl, rfl⟩ := hrel
    by_cases hb1 : b = 1
    · subst hb1
      have hc : c = D := by rw [depth_one _ _ (Nat.le_refl _)] at hd; omega
      subst hc
      clear hd
      go_wp2_with fail
      go_ret
      exact ⟨rfl, rfl⟩
    · have hb2 : 2 ≤ b := by omega
      have hb2I : (1 : Int) < (b : Int) := by omega
      have hp := Tre.split_pos b
      have hl := Tre.split_lt hb2
      have HL := hide (@depth_left a b hb2)
      have HR := hide (@depth_right a b hb2)
      have Hd := hide hd
      have hcD : c ≤ D := by omega
      clear hd
      go_wp2_with fail
      refine (split_go b _ hb2 (by omega)).mono ?_
      rintro e w' ⟨rfl, rfl⟩
      generalize Tre.split b = k at *
      by_cases hk : a < k
      · have hkI : (a : Int) < (k : Int) := by omega
        go_wp2_with fail
        go_round
        case rel => exact ⟨a, k, c + 1, hk, by omega, by have := unhide HL hk; have := unhide Hd; omega, rfl, rfl, by go_num⟩
        case measure => simp [intOf]; omega
      · have hkI : ¬ (a : Int) < (k : Int) := by omega
        go_wp2_with fail
        go_round
        case rel => exact ⟨a - k, b - k, c + 1, by omega, by omega, by have := unhide HR hk; have := unhide Hd; omega, by go_num, by go_num, by go_num⟩
        case measure => simp [intOf]; omega

/-- Digests that lie in memory one behind the other. -/
structure Hshs (w : World) (b o : Nat) (p : List (List UInt8)) : Prop where
  row : ∀ i, i < p.length → w.rangeAt b (o + 32 * i) (brow (p.getD i [])).toList
  len : ∀ d ∈ p, d.length = 32
  lt : b < w.heap.size
theorem Hshs.take {w : World} {b o : Nat} {p : List (List UInt8)} (h : Hshs w b o p) (k : Nat) : Hshs w b o (p.take k) :=
  ⟨fun i hi => by
    simp at hi
    have := h.row i (by omega)
    rw [List.getD_eq_getElem?_getD] at this ⊢
    rwa [List.getElem?_take, if_pos (by omega)], fun d hd => h.len d (List.mem_of_mem_take hd), h.lt⟩
theorem Hshs.kept {w w' : World} {b o B : Nat} {p : List (List UInt8)} (h : Hshs w b o p) (hb : Below B w w') (hB : b < B) : Hshs w' b o p :=
  ⟨fun i hi j v hv => (hb.cell (p := ⟨b, o + 32 * i + j, none⟩) hB).trans (h.row i hi j v hv), h.len, Nat.lt_of_lt_of_le h.lt hb.size⟩
theorem Hshs.get {w : World} {b o : Nat} {p : List (List UInt8)} (h : Hshs w b o p) {i : Nat} (hi : i < p.length) : (p.getD i []).length = 32 :=
  h.len _ (by rw [List.getD_eq_getElem?_getD, List.getElem?_eq_getElem hi]; exact List.getElem_mem hi)
theorem Hshs.load {w : World} {b o : Nat} {p : List (List UInt8)} (h : Hshs w b o p) {i : Nat} (hi : i < p.length) :
    (Instr.loadAt 24 (.pointer (some ⟨b, o + 32 * i, none⟩))).run Tryd.prog w = .ok (.agg (brow (p.getD i []))) w := by
  have := run_loadAt_mid (P := Tryd.prog) w b (o + 32 * i) 24 (brow (p.getD i [])).toList _ (h.row i hi) Tryd.underlying24 rfl (by rw [Array.length_toList]; exact rinfo (h.get hi))
  simpa using this

abbrev blist (B : List UInt8) : List Value := B.map fun c => Value.int .u8 (c.toNat : Int)
theorem blist_one (B : List UInt8) : ∀ v ∈ blist B, v.oneCell' = true := fun v hv => (Array.all_eq_true_iff_forall_mem.1 (brow_one B)) v (by simpa [brow] using hv)
theorem Hshs.two {w : World} {b o : Nat} {p : List (List UInt8)} (h : Hshs w b o p) {i : Nat} (hi : i < p.length) {B : List UInt8} (hB : B = p.getD i []) : w.rangeAt b (o + 32 * i) (blist B) ∧ w.rangeAt b (o + i * 32) (blist B) := by
  have := h.row i hi
  rw [← hB] at this
  exact ⟨this, by rw [Nat.mul_comm i 32]; exact this⟩
/-- A whole row stored, cell by cell or at once: one world. -/
theorem setCells_row {w : World} {g : Nat} {t : TypeId} {old : Array Value} {D : List UInt8} (hg : w.heap[g]? = some (.cells old t (0, 0))) (ho : old.size = (brow D).size) : w.setCells g 0 (blist D) = w.setRow g (brow D) := by
  have h1 := store_cells (P := Tryd.prog) hg ho (brow_one D)
  have ht : ∀ j, j < (blist D).length → (w.cell? ⟨g, 0 + j, none⟩).isSome = true ∧ w.frozen? ⟨g, 0 + j, none⟩ = false := fun j hj => by
    rw [cell_of_row _ _ _ _ _ _ hg, frozen_of_row _ _ _ _ _ hg]
    refine ⟨?_, rfl⟩
    rw [Array.getElem?_eq_getElem (by rw [ho, brow_size]; simp at hj; omega)]; rfl
  have h2 := run_storeCells_cells (P := Tryd.prog) g 0 (blist D) 0 w (fun j hj => by simpa using (ht j hj).1) (fun j hj => by simpa using (ht j hj).2) (blist_one D)
  have h3 : (storeCells ⟨g, 0, none⟩ (blist D)).run Tryd.prog w = .ok () (w.setRow g (brow D)) := h1
  simp only [Nat.add_zero] at h2
  rw [h3] at h2
  injection h2 with _ h4
  exact h4.symm
theorem there_row {w : World} {g : Nat} {t : TypeId} {old : Array Value} {D : List UInt8} (hg : w.heap[g]? = some (.cells old t (0, 0))) (ho : old.size = (brow D).size) : w.there g 0 (brow D).size := fun j hj => by
  rw [cell_of_row _ _ _ _ _ _ hg, frozen_of_row _ _ _ _ _ hg]
  refine ⟨?_, rfl⟩
  rw [Array.getElem?_eq_getElem (by omega)]; rfl

set_option maxRecDepth 100000 in
set_option maxHeartbeats 1000000 in
theorem climb_one (s : ByteArray) (i : Int) (v : Value) (w : World) (hs : s.size ≤ 140737488354900) (hT : Table w) (hz : 0 < w.heap.size) :
    Calls Tryd.prog 96 #[.string s, .int .i64 i, .int .i64 1, v] w fun e w' => e = .returned (.agg (brow (Tre.leaf s.data.toList))) ∧ Below w.heap.size w w' := by
  have HT := hide (hT.below (res_start w).below hz : Table (w.alloc (.cells (brow (List.replicate 32 0)) 24)))
  clear hT
  go_enter Tryd.func96, Tryd.ntmps96
  go_wp2_with fail
  refine (leaf_go s _ hs (unhide HT) (by simp)).mono ?_
  rintro e w1 ⟨rfl, hb⟩
  have hr : Res w w1 := (res_start w).next (hb.mono (by simp))
  clear hb
  have hdl := Tre.leaf_length s.data.toList
  obtain ⟨D, hD⟩ : ∃ D, D = Tre.leaf s.data.toList := ⟨_, rfl⟩
  rw [← hD] at hdl ⊢
  have HD := hide hD
  clear hD
  go_wp2_with (refine wpList_store_row rfl 24 _ _ rfl w.heap.size (brow D) rfl rfl 24 _ hr.r (rinfo hdl) (rzero hdl) (brow_one _) ?_)
  refine bodyPost_ret (v := .agg (brow D)) (results_cell_row Tryd.results96 _ _ w.heap.size 24 _ (0, 0) _ rfl (setRow_heap _ _ _ _ _ _ hr.r) Tryd.underlying24 rfl (rinfo hdl)) rfl ⟨by rw [unhide HD], ?_⟩
  exact hr.below.trans ⟨rfl, rfl, rfl, by simp, fun k hk => setRow_other _ _ _ _ (by omega)⟩

theorem sl_hash (b o n cap k : Nat) (h : k ≤ cap) (W : World) : (Instr.slice 41 (.slice (some ⟨b, o, none⟩) n cap) none (some (.int .i64 k)) none).run Tryd.prog W = .ok (.slice (some ⟨b, o, none⟩) k cap) W := by
  go_simp

set_option maxRecDepth 100000 in
set_option maxHeartbeats 2000000 in
theorem climb_go (m : Nat) : ∀ (s : ByteArray) (i n : Nat) (v : Value) (p : List (List UInt8)) (b o cap : Nat) (w : World), n ≤ m → i < n → n ≤ 9223372036854775807 → s.size ≤ 140737488354900 → p.length = Tre.depth i n →
    (n = 1 ∨ (v = .slice (some ⟨b, o, none⟩) p.length cap ∧ p.length ≤ cap ∧ Hshs w b o p)) → Table w → 0 < w.heap.size →
    Calls Tryd.prog 96 #[.string s, .int .i64 i, .int .i64 n, v] w fun e w' => e = .returned (.agg (brow (Tre.climb s.data.toList i n p))) ∧ Below w.heap.size w w' := by
  induction m with
  | zero => intro s i n v p b o cap w hm hi; omega
  | succ m ih =>
    intro s i n v p b o cap w hm hi hbd hs hpl hv hT hz
    by_cases hn : n = 1
    · subst hn
      have hc : Tre.climb s.data.toList i 1 p = Tre.leaf s.data.toList := by rw [Tre.climb, if_pos (Nat.le_refl _)]
      rw [hc]
      exact climb_one s i v w hs hT hz
    · rcases hv with hv | ⟨rfl, hpc, hH⟩
      · exact absurd hv hn
      have HIH := hide ih
      have HT := hide hT
      have HZ := hide hz
      have HH := hide hH
      clear ih hT hz
      have hn2 : 2 ≤ n := by omega
      obtain ⟨k, hk⟩ : ∃ k, k = Tre.split n := ⟨_, rfl⟩
      have hk1 : 0 < k := by rw [hk]; exact Tre.split_pos n
      have hk2 : k < n := by rw [hk]; exact Tre.split_lt (by omega)
      obtain ⟨q, hq⟩ : ∃ q, p.length = q + 1 := by
        refine ⟨p.length - 1, ?_⟩
        by_cases hik : i < Tre.split n
        · rw [depth_left hn2 hik] at hpl; omega
        · rw [depth_right hn2 hik] at hpl; omega
      obtain ⟨B, hB⟩ : ∃ B, B = p.getD q [] := ⟨_, rfl⟩
      have hBl : B.length = 32 := by rw [hB]; exact hH.get (by omega)
      have hld := hH.load (i := q) (by omega)
      rw [← hB] at hld
      have hqb : (q : Int) ≤ 63 := by
        have := depth_63 (i := i) hbd
        omega
      have hlt := hH.lt
      have hsl := sl_hash b o (q + 1) cap q (by omega)
      have HK := hide hk
      rw [hq] at hpc ⊢
      by_cases hik : i < k
      · have hikI : (i : Int) < (k : Int) := by omega
        have hpl' : (p.take q).length = Tre.depth i k := by
          rw [depth_left hn2 (by omega), ← hk] at hpl; simp; omega
        obtain ⟨A, hA⟩ : ∃ A, A = Tre.climb s.data.toList i k (p.take q) := ⟨_, rfl⟩
        have hAl : A.length = 32 := by rw [hA]; exact Tre.climb_length _ _ _ _
        have HF := hide (show Tre.climb s.data.toList i n p = Tre.node A B by
          rw [Tre.climb, if_neg (by omega), if_pos (by omega), hA, hB, ← hk, hq]; rfl)
        obtain ⟨N, hN⟩ : ∃ N, N = Tre.node A B := ⟨_, rfl⟩
        have hNl : N.length = 32 := by rw [hN]; exact Tre.node_length _ _
        have HN := hide hN
        clear hN
        have HA := hide hA
        have HB := hide hB
        have HP := hide (And.intro hpl' (And.intro hq (show (p.take q).length = q by simp; omega)))
        clear hA hB hk hpl hpl' hq hld hH
        go_enter Tryd.func96, Tryd.ntmps96
        go_wp2_with fail
        refine (split_go n _ (by omega) hbd).mono ?_
        rintro e w1 ⟨rfl, rfl⟩
        rw [← unhide HK]
        go_wp2_with fail
        refine gen_world (P := fun x => Res w x) (Q := fun x => Code.wp _ _ _ _ x) (res_start w) ?_
        intro wc hr
        have HR := hide hr
        have hsz := hr.size
        have hg1 := ((unhide HH).kept (below_draws hr.below 1) hlt).two (i := q) (by have := (unhide HP).2.1; omega) (unhide HB) |>.2
        have hqI : (q : Int) < (q : Int) + 1 := by omega
        have hu24 := Tryd.underlying24
        have hi24 : (Tryd.prog.info? 24).map (·.size) = some (blist B).length := by have := rinfo hBl; rwa [brow_size, ← List.length_map (f := fun c : UInt8 => Value.int .u8 (c.toNat : Int))] at this
        clear hr
        go_region_held3 (fun w' => w'.rangeAt b (o + q * 32) (blist B)) (first | assumption | exact World.rangeAt_setCells_apart hg2 _ _ _ (Or.inl (by omega))) (first
          | (go_at_call 96; go_must (refine (unhide HIH s (i) (k) (Value.slice (some ⟨b, o, none⟩) q cap) (p.take q) b o cap wc.drew (by omega) (by omega) (by omega) hs (unhide HP).1 (Or.inr ⟨by rw [(unhide HP).2.2], by rw [(unhide HP).2.2]; omega, ((unhide HH).take q).kept (below_draws (unhide HR).below 1) hlt⟩) ((unhide HT).below (below_draws (unhide HR).below 1) (unhide HZ)) (by show 0 < wc.heap.size; omega)).mono ?_; rintro e w1 ⟨rfl, hb1'⟩; rw [← unhide HA]; have hb1 : Below wc.heap.size wc w1 := undrew hb1'; have HR1 := hide ((unhide HR).next (hb1.mono (by omega))); have hg1' := ((unhide HH).kept (unhide HR1).below hlt).two (i := q) (by have := (unhide HP).2.1; omega) (unhide HB) |>.2; clear hb1 hb1'))
          | (go_at_call 93; go_must (refine (node_go A B w1 hAl hBl ((unhide HT).below (unhide HR1).below (unhide HZ)) (by have := (unhide HR1).size; omega)).mono ?_; rintro e w3 ⟨rfl, hb3⟩; rw [← unhide HN]; have hr3 : Res w w3 := (unhide HR1).next (hb3.mono (unhide HR1).size); have hth := there_row hr3.r (rzero hNl); have hi3 := rinfo hNl; have h1c := blist_one N; have hg2 := ((unhide HH).kept hr3.below hlt).two (i := q) (by have := (unhide HP).2.1; omega) (unhide HB) |>.2; have HR3 := hide hr3; clear hb3 hr3)))
        all_goals
          go_wp2_with fail
          have hrow := setCells_row (unhide HR3).r (rzero hNl)
          refine bodyPost_ret (v := .agg (brow N)) (results_cell_row Tryd.results96 _ _ w.heap.size 24 _ (0, 0) _ rfl (by rw [hrow]; exact setRow_heap _ _ _ _ _ _ (unhide HR3).r) Tryd.underlying24 rfl (rinfo hNl)) rfl ⟨by rw [unhide HF, unhide HN], ?_⟩
          rw [hrow]
          exact (unhide HR3).below.trans ⟨rfl, rfl, rfl, by simp, fun k hk => setRow_other _ _ _ _ (by omega)⟩
      · have hikI : ¬ (i : Int) < (k : Int) := by omega
        have hpl' : (p.take q).length = Tre.depth (i - k) (n - k) := by
          rw [depth_right hn2 (by omega), ← hk] at hpl; simp; omega
        obtain ⟨A, hA⟩ : ∃ A, A = Tre.climb s.data.toList (i - k) (n - k) (p.take q) := ⟨_, rfl⟩
        have hAl : A.length = 32 := by rw [hA]; exact Tre.climb_length _ _ _ _
        have HF := hide (show Tre.climb s.data.toList i n p = Tre.node B A by
          rw [Tre.climb, if_neg (by omega), if_neg (by omega), hA, hB, ← hk, hq]; rfl)
        obtain ⟨N, hN⟩ : ∃ N, N = Tre.node B A := ⟨_, rfl⟩
        have hNl : N.length = 32 := by rw [hN]; exact Tre.node_length _ _
        have HN := hide hN
        clear hN
        have HA := hide hA
        have HB := hide hB
        have HP := hide (And.intro hpl' (And.intro hq (show (p.take q).length = q by simp; omega)))
        have e1 : IntKind.i64.wrap ((i : Int) - (k : Int)) = ((i - k : Nat) : Int) := by rw [wrap_i64_f (by omega) (by omega)]; omega
        have e2 : IntKind.i64.wrap ((n : Int) - (k : Int)) = ((n - k : Nat) : Int) := by rw [wrap_i64_f (by omega) (by omega)]; omega
        clear hA hB hk hpl hpl' hq hld hH
        go_enter Tryd.func96, Tryd.ntmps96
        go_wp2_with fail
        refine (split_go n _ (by omega) hbd).mono ?_
        rintro e w1 ⟨rfl, rfl⟩
        rw [← unhide HK]
        go_wp2_with fail
        refine gen_world (P := fun x => Res w x) (Q := fun x => Code.wp _ _ _ _ x) (res_start w) ?_
        intro wc hr
        have HR := hide hr
        have hsz := hr.size
        have hg1 := ((unhide HH).kept (below_draws hr.below 1) hlt).two (i := q) (by have := (unhide HP).2.1; omega) (unhide HB) |>.2
        have hqI : (q : Int) < (q : Int) + 1 := by omega
        have hu24 := Tryd.underlying24
        have hi24 : (Tryd.prog.info? 24).map (·.size) = some (blist B).length := by have := rinfo hBl; rwa [brow_size, ← List.length_map (f := fun c : UInt8 => Value.int .u8 (c.toNat : Int))] at this
        clear hr
        go_region_held3 (fun w' => w'.rangeAt b (o + q * 32) (blist B)) (first | assumption | exact World.rangeAt_setCells_apart hg2 _ _ _ (Or.inl (by omega))) (first
          | (go_at_call 96; go_must (refine (unhide HIH s (i - k) (n - k) (Value.slice (some ⟨b, o, none⟩) q cap) (p.take q) b o cap wc.drew (by omega) (by omega) (by omega) hs (unhide HP).1 (Or.inr ⟨by rw [(unhide HP).2.2], by rw [(unhide HP).2.2]; omega, ((unhide HH).take q).kept (below_draws (unhide HR).below 1) hlt⟩) ((unhide HT).below (below_draws (unhide HR).below 1) (unhide HZ)) (by show 0 < wc.heap.size; omega)).mono ?_; rintro e w1 ⟨rfl, hb1'⟩; rw [← unhide HA]; have hb1 : Below wc.heap.size wc w1 := undrew hb1'; have HR1 := hide ((unhide HR).next (hb1.mono (by omega))); have hg1' := ((unhide HH).kept (unhide HR1).below hlt).two (i := q) (by have := (unhide HP).2.1; omega) (unhide HB) |>.2; clear hb1 hb1'))
          | (go_at_call 93; go_must (refine (node_go B A w1 hBl hAl ((unhide HT).below (unhide HR1).below (unhide HZ)) (by have := (unhide HR1).size; omega)).mono ?_; rintro e w3 ⟨rfl, hb3⟩; rw [← unhide HN]; have hr3 : Res w w3 := (unhide HR1).next (hb3.mono (unhide HR1).size); have hth := there_row hr3.r (rzero hNl); have hi3 := rinfo hNl; have h1c := blist_one N; have hg2 := ((unhide HH).kept hr3.below hlt).two (i := q) (by have := (unhide HP).2.1; omega) (unhide HB) |>.2; have HR3 := hide hr3; clear hb3 hr3)))
        all_goals
          go_wp2_with fail
          have hrow := setCells_row (unhide HR3).r (rzero hNl)
          refine bodyPost_ret (v := .agg (brow N)) (results_cell_row Tryd.results96 _ _ w.heap.size 24 _ (0, 0) _ rfl (by rw [hrow]; exact setRow_heap _ _ _ _ _ _ (unhide HR3).r) Tryd.underlying24 rfl (rinfo hNl)) rfl ⟨by rw [unhide HF, unhide HN], ?_⟩
          rw [hrow]
          exact (unhide HR3).below.trans ⟨rfl, rfl, rfl, by simp, fun k hk => setRow_other _ _ _ _ (by omega)⟩
end Go.Proofs.YtfodibjlldmnpaaDoor
