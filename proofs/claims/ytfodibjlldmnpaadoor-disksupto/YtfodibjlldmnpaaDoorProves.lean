/-
  tree.Proof, tree.Proves, and the calls above them.
-/
import Derived.Test.YtfodibjlldmnpaaDoorProve
import Derived.Stop.BytesEq
namespace Go.Proofs.YtfodibjlldmnpaaDoor
open Go.RowKit

theorem size_5 : ∀ w, (sizeOf 5).run Tryd.prog w = .ok 1 w := fun _ => by kernel_rfl
theorem guard_24 : Tryd.prog.eqGuardType Tryd.prog.depth 24 = false := by kernel_rfl
theorem eq_row (C D : List UInt8) (hC : C.length = 32) (hD : D.length = 32) (W : World) : (Op.equalIn 10000 24 (.agg (brow C)) (.agg (brow D))).run Tryd.prog W = .ok (C == D) W :=
  run_equalIn_bytes (P := Tryd.prog) W 9998 24 5 32 Tryd.underlying24 Tryd.underlying5 size_5 C D hC hD

/-- A proof in memory. -/
structure Prf (w : World) (v : Value) (p : List (List UInt8)) (ao : Option Addr) (cap : Nat) : Prop where
  val : v = .slice ao p.length cap
  le : p.length ≤ cap
  some : 0 < p.length → ∃ b o, ao = some ⟨b, o, none⟩ ∧ Hshs w b o p
theorem Prf.below {w w' : World} {v : Value} {p : List (List UInt8)} {ao : Option Addr} {cap : Nat} (h : Prf w v p ao cap) (hb : Below w.heap.size w w') : Prf w' v p ao cap :=
  ⟨h.val, h.le, fun hp => by obtain ⟨b, o, h1, h2⟩ := h.some hp; exact ⟨b, o, h1, h2.kept hb h2.lt⟩⟩

theorem flat_cell {p : List (List UInt8)} (h : ∀ d ∈ p, d.length = 32) : ∀ i, i < p.length → ∀ j v, (blist (p.getD i []))[j]? = some v → (flat p)[i * 32 + j]? = some v := by
  induction p with
  | nil => intro i hi; simp at hi
  | cons d r ih =>
    intro i hi j v hv
    have hd := h d (by simp)
    rw [flat, List.flatMap_cons]
    cases i with
    | zero =>
      have hv' : (blist d)[j]? = some v := hv
      have hj := (List.getElem?_eq_some_iff.1 hv').1
      rw [Nat.zero_mul, Nat.zero_add, List.getElem?_append_left hj]
      exact hv'
    | succ i =>
      have := ih (fun x hx => h x (by simp [hx])) i (by simpa using hi) j v hv
      rw [List.getElem?_append_right (by rw [List.length_map, hd]; omega), List.length_map, hd, show (i + 1) * 32 + j - 32 = i * 32 + j by omega]
      exact this
/-- What the call built is a proof in memory. -/
theorem prf_own {w : World} {B : Nat} {v : Value} {p : List (List UInt8)} (hl : ∀ d ∈ p, d.length = 32) (h : w.ownsRow B 24 32 v p.length (flat p)) : ∃ ao cap, Prf w v p ao cap := by
  have h0 := h
  obtain ⟨h1, h2⟩ := h
  rcases h2 with ⟨rfl, hn⟩ | ⟨g, cap, cur, rfl, hg, hh, hle, hm, hs, ht⟩
  · exact ⟨none, 0, ⟨by rw [hn], by omega, fun hp => by omega⟩⟩
  · refine ⟨some ⟨g, 0, none⟩, cap, ⟨rfl, hle, fun hp => ⟨g, 0, rfl, ⟨fun i hi j u hu => ?_, hl, (Array.getElem?_eq_some_iff.1 hh).1⟩⟩⟩⟩
    have hj : j < 32 := by
      have := (List.getElem?_eq_some_iff.1 hu).1
      have hd : (p.getD i []).length = 32 := hl _ (by rw [List.getD_eq_getElem?_getD, List.getElem?_eq_getElem hi]; exact List.getElem_mem hi)
      simp only [brow, List.length_map] at this
      omega
    have := h0.cellAt (i * 32 + j) (by have : i + 1 ≤ p.length := hi; have := Nat.mul_le_mul_right 32 this; omega)
    rw [show 0 + 32 * i + j = i * 32 + j by omega, this]
    exact flat_cell hl i hi j u hu

set_option maxRecDepth 100000 in
set_option maxHeartbeats 1000000 in
theorem proof_go (L : List ByteArray) (b o n cap i : Nat) (w : World) (hl : L.length = n) (hi : i < n) (hc : n ≤ cap) (hbd : n ≤ 140737488355328) (hS : Strs w b o L) (hT : Table w) (hz : 0 < w.heap.size) :
    Calls Tryd.prog 53 #[.slice (some ⟨b, o, none⟩) n cap, .int .i64 i] w fun e w' => ∃ v, e = .returned (.tuple #[v, .int .i64 0]) ∧ w'.ownsRow w.heap.size 24 32 v (Tre.proofOf (lsts L) i).length (flat (Tre.proofOf (lsts L) i)) ∧ Below w.heap.size w w' := by
  have H := hide (And.intro hS (And.intro hT hz))
  clear hS hT hz
  have hiI : (i : Int) < (n : Int) := by omega
  go_enter Tryd.func53, Tryd.ntmps53
  go_wp2_with fail
  refine (proofOf_go _ L b o n cap i _ hl (Nat.le_refl _) hi hc hbd (unhide H).1 (unhide H).2.1 (unhide H).2.2).mono ?_
  rintro e w1 ⟨v, rfl, ho, hb⟩
  have H1 := hide (And.intro ho hb)
  clear ho hb
  go_wp2_with fail
  go_ret2
  exact ⟨v, rfl, (unhide H1).1, (unhide H1).2⟩

set_option maxRecDepth 100000 in
set_option maxHeartbeats 1000000 in
theorem bailey_proof (L : List ByteArray) (b o n cap i : Nat) (w : World) (hl : L.length = n) (hi : i < n) (hc : n ≤ cap) (hbd : n ≤ 140737488355328) (hS : Strs w b o L) (hT : Table w) (hz : 0 < w.heap.size) :
    Calls Tryd.prog 17 #[.slice (some ⟨b, o, none⟩) n cap, .int .i64 i] w fun e w' => ∃ v, e = .returned (.tuple #[v, .int .i64 0]) ∧ w'.ownsRow w.heap.size 24 32 v (Tre.proofOf (lsts L) i).length (flat (Tre.proofOf (lsts L) i)) ∧ Below w.heap.size w w' := by
  have H := hide (And.intro hS (And.intro hT hz))
  clear hS hT hz
  go_enter Tryd.func17, Tryd.ntmps17
  go_wp2_with fail
  refine (proof_go L b o n cap i _ hl hi hc hbd (unhide H).1 (unhide H).2.1 (unhide H).2.2).mono ?_
  rintro e w1 ⟨v, rfl, ho, hb⟩
  have H1 := hide (And.intro ho hb)
  clear ho hb
  go_wp2_with fail
  go_ret2
  exact ⟨v, rfl, (unhide H1).1, (unhide H1).2⟩

set_option maxRecDepth 100000 in
set_option maxHeartbeats 1000000 in
theorem bailey_root (L : List (List UInt8)) (a : Option Addr) (n cap : Nat) (w : World) (_hz : 0 < w.heap.size)
    (hc : ∀ w', Below w.heap.size w w' → Calls Tryd.prog 52 #[.slice a n cap] w' fun e w'' => e = .returned (.agg (brow (Tre.root L))) ∧ Below w'.heap.size w' w'') :
    Calls Tryd.prog 16 #[.slice a n cap] w fun e w' => e = .returned (.agg (brow (Tre.root L))) ∧ Below w.heap.size w w' := by
  have HC := hide (hc (w.alloc (.cells (brow (List.replicate 32 0)) 24)) (res_start w).below)
  clear hc
  obtain ⟨D, hD⟩ : ∃ D, D = Tre.root L := ⟨_, rfl⟩
  have hdl : D.length = 32 := by rw [hD]; exact Tre.root_length _
  rw [← hD] at HC ⊢
  clear hD
  go_enter Tryd.func16, Tryd.ntmps16
  go_wp2_with fail
  refine (unhide HC).mono ?_
  rintro e w1 ⟨rfl, hb⟩
  have hr : Res w w1 := (res_start w).next (hb.mono (by simp))
  clear hb
  go_wp2_with (refine wpList_store_row rfl 24 _ _ rfl w.heap.size (brow D) rfl rfl 24 _ hr.r (rinfo hdl) (rzero hdl) (brow_one _) ?_)
  refine bodyPost_ret (v := .agg (brow D)) (results_cell_row Tryd.results16 _ _ w.heap.size 24 _ (0, 0) _ rfl (setRow_heap _ _ _ _ _ _ hr.r) Tryd.underlying24 rfl (rinfo hdl)) rfl ⟨rfl, ?_⟩
  exact hr.below.trans ⟨rfl, rfl, rfl, by simp, fun k hk => setRow_other _ _ _ _ (by omega)⟩

set_option maxRecDepth 100000 in
set_option maxHeartbeats 1000000 in
theorem pick_go (c : Int) (n : Nat) (w : World) (h0 : -9223372036854775808 ≤ c) (h1 : c ≤ 9223372036854775807) (hn : 0 < n) (hm : n ≤ 140737488355328) :
    Calls Tryd.prog 33 #[.int .i64 c, .int .i64 n] w fun e w' => (∃ k : Nat, k < n ∧ e = .returned (.int .i64 k)) ∧ w' = w := by
  have hn0 : (n : Int) ≠ 0 := by omega
  have hmod : ∀ x : Int, 0 ≤ x → ∃ r : Nat, r < n ∧ x.tmod (n : Int) = (r : Int) := fun x hx => by
    refine ⟨(x % n).toNat, ?_, ?_⟩
    · have := Int.emod_lt_of_pos x (show (0 : Int) < n by omega)
      have := Int.emod_nonneg x hn0
      omega
    · rw [Int.tmod_eq_emod_of_nonneg hx, Int.toNat_of_nonneg (Int.emod_nonneg _ hn0)]
  by_cases hc : c < 0
  · obtain ⟨r, hr, ht⟩ := hmod (-(c + 1)) (by omega)
    clear hmod
    go_enter Tryd.func33, Tryd.ntmps33
    go_wp2_with fail
    go_ret
    exact ⟨⟨r, hr, rfl⟩, rfl⟩
  · obtain ⟨r, hr, ht⟩ := hmod c (by omega)
    clear hmod
    go_enter Tryd.func33, Tryd.ntmps33
    go_wp2_with fail
    go_ret
    exact ⟨⟨r, hr, rfl⟩, rfl⟩

set_option maxRecDepth 100000 in
set_option maxHeartbeats 1000000 in
/-- A place that is none. -/
theorem proves_none (s : ByteArray) (i : Int) (n : Nat) (v : Value) (r : List UInt8) (w : World) (hi : i < 0 ∨ (n : Int) ≤ i) :
    Calls Tryd.prog 56 #[.string s, .int .i64 i, .int .i64 n, v, .agg (brow r)] w fun e w' => e = .returned (.bool false) ∧ Below w.heap.size w w' := by
  by_cases h0 : i < 0
  · clear hi
    go_enter Tryd.func56, Tryd.ntmps56
    go_wp2_with fail
    go_ret
    exact ⟨rfl, (Below.refl _ _).alloc (Nat.le_refl _) _⟩
  · have h1 : (n : Int) ≤ i := by omega
    have h0' : 0 ≤ i := by omega
    clear hi
    go_enter Tryd.func56, Tryd.ntmps56
    go_wp2_with fail
    go_ret
    exact ⟨rfl, (Below.refl _ _).alloc (Nat.le_refl _) _⟩

set_option maxRecDepth 100000 in
set_option maxHeartbeats 1000000 in
/-- A proof of another length. -/
theorem proves_len (s : ByteArray) (i n m cap : Nat) (ao : Option Addr) (r : List UInt8) (w : World) (hi : i < n) (hn : n ≤ 9223372036854775807) (hm : m ≠ Tre.depth i n) :
    Calls Tryd.prog 56 #[.string s, .int .i64 i, .int .i64 n, .slice ao m cap, .agg (brow r)] w fun e w' => e = .returned (.bool false) ∧ Below w.heap.size w w' := by
  have hiI : (i : Int) < (n : Int) := by omega
  obtain ⟨d, hd⟩ : ∃ d, d = Tre.depth i n := ⟨_, rfl⟩
  have HD := hide hd
  have hmd : ((m : Int) != (d : Int)) = true := by simp; omega
  clear hm hd
  go_enter Tryd.func56, Tryd.ntmps56
  go_wp2_with (go_at_call 95; refine (depth_go i n _ hi hn).mono ?_; rintro e w' ⟨rfl, rfl⟩; rw [← unhide HD])
  go_ret
  exact ⟨rfl, (Below.refl _ _).alloc (Nat.le_refl _) _⟩

set_option maxRecDepth 100000 in
set_option maxHeartbeats 1000000 in
/-- A proof of the right length. -/
theorem proves_go (s : ByteArray) (i n cap : Nat) (v : Value) (ao : Option Addr) (p : List (List UInt8)) (r : List UInt8) (w : World) (hi : i < n) (hn : n ≤ 9223372036854775807) (hs : s.size ≤ 140737488354900) (hr : r.length = 32) (hP : Prf w v p ao cap) (hp : p.length = Tre.depth i n) (hT : Table w) (hz : 0 < w.heap.size) :
    Calls Tryd.prog 56 #[.string s, .int .i64 i, .int .i64 n, v, .agg (brow r)] w fun e w' => e = .returned (.bool (Tre.climb s.data.toList i n p == r)) ∧ Below w.heap.size w w' := by
  have hiI : (i : Int) < (n : Int) := by omega
  have hb0 : Below w.heap.size w (w.alloc (.cells (brow r) 24)) := (Below.refl _ _).alloc (Nat.le_refl _) _
  have hrow : (w.alloc (.cells (brow r) 24)).heap[w.heap.size]? = some (.cells (brow r) 24 (0, 0)) := heap_alloc_new _ _
  have hsz0 : (w.alloc (.cells (brow r) 24)).heap.size = w.heap.size + 1 := by simp
  have hg0 : (w.alloc (.cells (brow r) 24)).rangeAt w.heap.size 0 (blist r) := fun j u hu => by
    rw [Nat.zero_add, cell_of_row _ _ _ _ _ _ hrow]; simpa [brow] using hu
  obtain ⟨d, hd⟩ : ∃ d, d = Tre.depth i n := ⟨_, rfl⟩
  obtain ⟨C, hC⟩ : ∃ C, C = Tre.climb s.data.toList i n p := ⟨_, rfl⟩
  have hCl : C.length = 32 := by rw [hC]; exact Tre.climb_length _ _ _ _
  have heq := eq_row C r hCl hr
  have hg := guard_24
  obtain ⟨l, hl⟩ : ∃ l, l = p.length := ⟨_, rfl⟩
  have hpd : (l : Int) = (d : Int) := by omega
  have hval : v = .slice ao l cap := by rw [hl]; exact hP.val
  obtain ⟨b, o, hcl⟩ : ∃ b o, n = 1 ∨ (v = .slice (some ⟨b, o, none⟩) p.length cap ∧ p.length ≤ cap ∧ Hshs w b o p) := by
    by_cases h1 : n = 1
    · exact ⟨0, 0, Or.inl h1⟩
    · have : 0 < p.length := by
        rw [hp]
        by_cases hik : i < Tre.split n
        · rw [depth_left (by omega) hik]; omega
        · rw [depth_right (by omega) hik]; omega
      obtain ⟨b, o, rfl, hH⟩ := hP.some this
      exact ⟨b, o, Or.inr ⟨hP.val, hP.le, hH⟩⟩
  have HCL := hide hcl
  have HD := hide (And.intro hd (And.intro hC hp))
  have HT := hide (And.intro hT hz)
  have HR := hide (And.intro hb0 hg0)
  have hu24 := Tryd.underlying24
  have hi24 : (Tryd.prog.info? 24).map (·.size) = some (blist r).length := by have := rinfo hr; rwa [brow_size, ← List.length_map (f := fun c : UInt8 => Value.int .u8 (c.toNat : Int))] at this
  clear hcl hd hC hp hT hz hP hb0 hg0 hrow hl
  subst hval
  go_enter Tryd.func56, Tryd.ntmps56
  go_wp2_with (go_at_call 95; refine (depth_go i n _ hi hn).mono ?_; rintro e w' ⟨rfl, rfl⟩; rw [← (unhide HD).1])
  refine gen_world (P := fun x => Below w.heap.size w x ∧ x.rangeAt w.heap.size 0 (blist r) ∧ w.heap.size < x.heap.size) (Q := fun x => Code.wp _ _ _ _ x) ⟨(unhide HR).1, (unhide HR).2, by simp⟩ ?_
  intro wc ⟨hbc, hgc, hsc⟩
  have hgd : wc.drew.rangeAt w.heap.size 0 (blist r) := hgc
  have heq2 : ∀ W, (Op.equalIn 10000 24 (.agg (brow C)) (.agg (blist r).toArray)).run Tryd.prog W = .ok (C == r) W := heq
  have HBC := hide hbc
  clear HR hbc hsz0
  go_region_held3 (fun w' => w'.rangeAt w.heap.size 0 (blist r)) (assumption) (first
    | (go_at_call 96; go_must (refine (climb_go _ s i n _ p b o cap wc.drew (Nat.le_refl _) hi hn hs (unhide HD).2.2 ((unhide HCL).imp id fun ⟨h1, h2, h3⟩ => ⟨h1, h2, h3.kept (below_draws (unhide HBC) 1) h3.lt⟩) ((unhide HT).1.below (below_draws (unhide HBC) 1) (unhide HT).2) (by show 0 < wc.heap.size; omega)).mono ?_; rintro e w1 ⟨rfl, hb1'⟩; rw [← (unhide HD).2.1]; have hb1 : Below wc.heap.size wc w1 := undrew hb1'; have hg1 : w1.rangeAt w.heap.size 0 (blist r) := fun j u hu => (hb1.cell (p := ⟨w.heap.size, 0 + j, none⟩) hsc).trans (hgc j u hu); have HB1 := hide ((unhide HBC).trans (hb1.mono (Nat.le_of_lt hsc))); clear hb1 hb1')))
  all_goals
    go_wp2_with fail
    go_ret
    exact ⟨by rw [(unhide HD).2.1]; rfl, unhide HB1⟩

set_option maxRecDepth 100000 in
set_option maxHeartbeats 1000000 in
theorem bailey_proves (s : ByteArray) (i : Int) (n : Nat) (v : Value) (r : List UInt8) (x : Bool) (w : World) (hr : r.length = 32)
    (hc : ∀ w', Below w.heap.size w w' → Calls Tryd.prog 56 #[.string s, .int .i64 i, .int .i64 n, v, .agg (brow r)] w' fun e w'' => e = .returned (.bool x) ∧ Below w'.heap.size w' w'') :
    Calls Tryd.prog 25 #[.string s, .int .i64 i, .int .i64 n, v, .agg (brow r)] w fun e w' => e = .returned (.bool x) ∧ Below w.heap.size w w' := by
  have hb0 : Below w.heap.size w (w.alloc (.cells (brow r) 24)) := (Below.refl _ _).alloc (Nat.le_refl _) _
  have hrow : (w.alloc (.cells (brow r) 24)).heap[w.heap.size]? = some (.cells (brow r) 24 (0, 0)) := heap_alloc_new _ _
  have HC := hide (hc _ hb0)
  have HB := hide hb0
  have hi24 := rinfo hr
  clear hc hb0
  go_enter Tryd.func25, Tryd.ntmps25
  go_wp2_with (refine wpList_load_row rfl 24 _ rfl w.heap.size rfl 24 (brow r) (0, 0) _ hrow Tryd.underlying24 rfl hi24 ?_)
  refine (unhide HC).mono ?_
  rintro e w1 ⟨rfl, hb1⟩
  have HB1 := hide ((unhide HB).trans (hb1.mono (by simp)))
  clear hb1
  go_wp2_with fail
  go_ret
  exact ⟨rfl, unhide HB1⟩
end Go.Proofs.YtfodibjlldmnpaaDoor
