/-
  Proved: the walk.
-/
import Derived.Test.YtfodibjlldmnpaaDoorProves
namespace Go.Proofs.YtfodibjlldmnpaaDoor
open Go.RowKit

theorem lsts_get {L : List ByteArray} {k : Nat} (h : k < L.length) : (lsts L).getD k [] = (L.getD k ByteArray.empty).data.toList := by
  rw [List.getD_eq_getElem?_getD, List.getD_eq_getElem?_getD, List.getElem?_map, List.getElem?_eq_getElem h]; rfl

theorem call_yes {L : List ByteArray} {b o n k pc : Nat} {v : Value} {ao : Option Addr} {p : List (List UInt8)} {r : List UInt8} {s : ByteArray} {w : World} (hl : L.length = n) (hk : k < n) (hn : n ≤ 140737488355328) (hS : Strs w b o L) (hT : Table w) (hz : 0 < w.heap.size)
    (hP : Prf w v p ao pc) (hp : p = Tre.proofOf (lsts L) k) (hr : r = Tre.root (lsts L)) (hs : s = L.getD k ByteArray.empty) :
    Calls Tryd.prog 25 #[.string s, .int .i64 k, .int .i64 n, v, .agg (brow r)] w fun e w' => e = .returned (.bool true) ∧ Below w.heap.size w w' := by
  have hrl : r.length = 32 := by rw [hr]; exact Tre.root_length _
  have hll : (lsts L).length = n := by rw [List.length_map, hl]
  have hsz : s.size ≤ 140737488354900 := by
    rw [hs, List.getD_eq_getElem?_getD, List.getElem?_eq_getElem (by omega)]
    exact hS.small _ (List.getElem_mem _)
  have hcl : (Tre.climb s.data.toList k n p == r) = true := by
    have := Tre.climb_proof _ (lsts L) k (Nat.le_refl _) (by omega)
    rw [lsts_get (by omega), hll, ← hs, ← hp, ← hr] at this
    simpa using this
  refine bailey_proves s k n v r true w hrl fun w' hb => ?_
  have := proves_go s k n pc v ao p r w' hk (by omega) hsz hrl (hP.below hb) (by rw [hp, Tre.proof_length _ _ _ (Nat.le_refl _) (by omega), hll]) (hT.below hb hz) (Nat.lt_of_lt_of_le hz hb.size)
  rwa [hcl] at this
theorem call_len (s : ByteArray) (k n m cap : Nat) (ao : Option Addr) (r : List UInt8) (w : World) (hk : k < n) (hn : n ≤ 140737488355328) (hr : r.length = 32) (hm : m ≠ Tre.depth k n) :
    Calls Tryd.prog 25 #[.string s, .int .i64 k, .int .i64 n, .slice ao m cap, .agg (brow r)] w fun e w' => e = .returned (.bool false) ∧ Below w.heap.size w w' :=
  bailey_proves s k n _ r false w hr fun w' _ => proves_len s k n m cap ao r w' hk (by omega) hm
theorem call_none (s : ByteArray) (i : Int) (n : Nat) (v : Value) (r : List UInt8) (w : World) (hr : r.length = 32) (hi : i < 0 ∨ (n : Int) ≤ i) :
    Calls Tryd.prog 25 #[.string s, .int .i64 i, .int .i64 n, v, .agg (brow r)] w fun e w' => e = .returned (.bool false) ∧ Below w.heap.size w w' :=
  bailey_proves s i n v r false w hr fun w' _ => proves_none s i n v r w' hi

/-- The two digests that the law keeps. -/
structure Inv (w : World) (R G : Nat) (r D : List UInt8) (wx : World) : Prop where
  below : Below w.heap.size w wx
  row : wx.heap[R]? = some (.cells (brow r) 24 (0, 0))
  dig : wx.heap[G]? = some (.cells (brow D) 24 (0, 0))
theorem Inv.next {w : World} {R G : Nat} {r D : List UInt8} {wx wy : World} (h : Inv w R G r D wx) (hb : Below wx.heap.size wx wy) : Inv w R G r D wy :=
  ⟨h.below.trans (hb.mono h.below.size), (hb.block _ (Array.getElem?_eq_some_iff.1 h.row).1).trans h.row, (hb.block _ (Array.getElem?_eq_some_iff.1 h.dig).1).trans h.dig⟩
theorem Inv.draws {w : World} {R G : Nat} {r D : List UInt8} {wx : World} (h : Inv w R G r D wx) : Inv w R G r D wx.drew := h.next (below_draws (Below.refl _ _) 1)
theorem Inv.range {w : World} {R G : Nat} {r D : List UInt8} {wx : World} (h : Inv w R G r D wx) : wx.rangeAt R 0 (blist r) := fun j u hu => by
  rw [Nat.zero_add, cell_of_row _ _ _ _ _ _ h.row]; simpa [brow] using hu
/-- What the calls read. -/
abbrev Sees (b o k R : Nat) (s : ByteArray) (r : List UInt8) (wx : World) : Prop := wx.cell? ⟨b, o + k, none⟩ = some (.string s) ∧ wx.rangeAt R 0 (blist r)
theorem Inv.sees {w : World} {R G : Nat} {r D : List UInt8} {wx : World} (h : Inv w R G r D wx) {L : List ByteArray} {b o k : Nat} {s : ByteArray} (hS : Strs w b o L) (hk : k < L.length) (hs : s = L.getD k ByteArray.empty) : Sees b o k R s r wx :=
  ⟨(h.below.cell (p := ⟨b, o + k, none⟩) hS.lt).trans ((hS.cell k hk).trans (by rw [hs])), h.range⟩

theorem own_slice {w : World} {B : Nat} {e : TypeId} {z : Nat} {v : Value} {n : Nat} {xs : List Value} (h : w.ownsRow B e z v n xs) (hn : 0 < n) : ∃ g cap, v = .slice (some ⟨g, 0, none⟩) n cap := by
  rcases h.2 with ⟨_, h0⟩ | ⟨g, cap, _, hv, _⟩
  · omega
  · exact ⟨g, cap, hv⟩
theorem Inv.grown {w : World} {R G : Nat} {r D : List UInt8} {wx wy : World} (h : Inv w R G r D wx) {B : Nat} {e : TypeId} {z : Nat} {v : Value} {n : Nat} {xs : List Value} (ho : wx.ownsRow B e z v n xs) (hB : w.heap.size ≤ B) (hR : R < B) (hG : G < B) (hg : wx.grownBy wy v.ownBlock) : Inv w R G r D wy := by
  have hne : ∀ k, k < B → some k ≠ v.ownBlock := fun k hk e => by
    rcases ho.2 with ⟨rfl, _⟩ | ⟨g, cap, cur, rfl, hg2, _⟩
    · simp [Value.ownBlock] at e
    · simp [Value.ownBlock] at e; omega
  refine ⟨⟨hg.os.trans h.below.os, hg.tape.trans h.below.tape, hg.output.trans h.below.output, Nat.le_trans h.below.size hg.size, fun k hk => ?_⟩, ?_, ?_⟩
  · exact (hg.block k (Nat.lt_of_lt_of_le hk h.below.size) (hne k (by omega))).trans (h.below.block k hk)
  · exact (hg.block R (Array.getElem?_eq_some_iff.1 h.row).1 (hne R hR)).trans h.row
  · exact (hg.block G (Array.getElem?_eq_some_iff.1 h.dig).1 (hne G hG)).trans h.dig

theorem own_heap {w w' : World} {B : Nat} {e : TypeId} {z : Nat} {v : Value} {n : Nat} {xs : List Value} (h : w.ownsRow B e z v n xs) (hh : w'.heap = w.heap) : w'.ownsRow B e z v n xs := by
  unfold World.ownsRow at *; rw [hh]; exact h
theorem Inv.appended {w : World} {R G : Nat} {r D : List UInt8} {wx wb wy : World} {B : Nat} {e : TypeId} {z : Nat} {v : Value} {n : Nat} {xs : List Value} {O : Obj} (hg : wb.grownBy wy v.ownBlock) (h : Inv w R G r D wx) (ho : wx.ownsRow B e z v n xs) (hB : w.heap.size ≤ B) (hR : R < B) (hG : G < B)
    (hh : wb.heap = (wx.alloc O).heap) (h1 : wb.os = wx.os) (h2 : wb.tape = wx.tape) (h3 : wb.output = wx.output) : Inv w R G r D wy := by
  have hb : Below wx.heap.size wx wb := ⟨h1, h2, h3, by rw [hh]; simp, fun k hk => by rw [hh]; exact Below.heap_alloc _ _ _ hk⟩
  exact (h.next hb).grown (own_heap (ho.alloc O) hh) hB hR hG hg

set_option maxRecDepth 100000 in
set_option maxHeartbeats 4000000 in
theorem proved_law (L : List ByteArray) (b o n cap : Nat) (i : Int) (w : World) (hl : L.length = n) (h1 : 1 ≤ n) (hc : n ≤ cap) (hbd : n ≤ 140737488355328) (i0 : -9223372036854775808 ≤ i) (i1 : i ≤ 9223372036854775807)
    (hS : Strs w b o L) (hT : Table w) (hz : 0 < w.heap.size) :
    Calls Tryd.prog 7 #[.slice (some ⟨b, o, none⟩) n cap, .int .i64 i] w fun e w' => e = .returned (.bool true) ∧ Below w.heap.size w w' := by
  have HS := hide hS
  have HT := hide hT
  have HZ := hide hz
  clear hS hT hz
  obtain ⟨r, hr⟩ : ∃ r, r = Tre.root (lsts L) := ⟨_, rfl⟩
  have hrl : r.length = 32 := by rw [hr]; exact Tre.root_length _
  obtain ⟨D, hD⟩ : ∃ D, D = Sha.digest [97, 98, 99] := ⟨_, rfl⟩
  have hDl : D.length = 32 := by rw [hD]; exact Sha.digest_length _
  have HD0 := hide (show (brow D)[0]? = some (.int .u8 186) by rw [hD, Sha.abc]; rfl)
  have HRD := hide (And.intro hr hD)
  clear hr hD
  go_enter Tryd.func7, Tryd.ntmps7
  go_wp2_with fail
  refine (bailey_root (lsts L) (some ⟨b, o, none⟩) n cap w (unhide HZ) (fun w' hb' => root_go _ L b o n cap w' hl (Nat.le_refl _) h1 hc hbd ((unhide HS).below hb' (unhide HS).lt) ((unhide HT).below hb' (unhide HZ)) (Nat.lt_of_lt_of_le (unhide HZ) hb'.size))).mono ?_
  rintro e w1 ⟨rfl, hb1⟩
  rw [← (unhide HRD).1]
  have HB1 := hide hb1
  clear hb1
  go_wp2_with (refine wpList_store_put rfl 24 _ _ rfl w1.heap.size (brow r) rfl rfl 24 _ (heap_alloc_new _ _) (rinfo hrl) (rzero hrl) (brow_one _) ?_; intro w2 hp2)
  have HB2 := hide (And.intro ((unhide HB1).trans (((Below.refl _ _).alloc (unhide HB1).size _).trans (hp2.below (unhide HB1).size))) (And.intro hp2.row (show w1.heap.size < w2.heap.size by rw [hp2.size]; simp)))
  clear hp2
  refine (bailey_digest ⟨#[97, 98, 99]⟩ w2 (by decide) ((unhide HT).below (unhide HB2).1 (unhide HZ)) (Nat.lt_of_lt_of_le (unhide HZ) (unhide HB2).1.size)).mono ?_
  rintro e w3 ⟨rfl, hb3⟩
  rw [show Sha.digest (⟨#[97, 98, 99]⟩ : ByteArray).data.toList = D from (unhide HRD).2.symm]
  have HB3 := hide (And.intro ((unhide HB2).1.trans (hb3.mono (unhide HB2).1.size)) (And.intro ((hb3.block _ (unhide HB2).2.2).trans (unhide HB2).2.1) (Nat.lt_of_lt_of_le (unhide HB2).2.2 hb3.size)))
  clear hb3
  go_wp2_with (refine wpList_store_put rfl 24 _ _ rfl w3.heap.size (brow D) rfl rfl 24 _ (heap_alloc_new _ _) (rinfo hDl) (rzero hDl) (brow_one _) ?_; intro w4 hp4)
  have hI4 : Inv w w1.heap.size w3.heap.size r D w4 := ⟨(unhide HB3).1.trans (((Below.refl _ _).alloc (unhide HB3).1.size _).trans (hp4.below (unhide HB3).1.size)), (hp4.other _ (Nat.ne_of_lt (unhide HB3).2.2)).trans ((Below.heap_alloc _ _ _ (unhide HB3).2.2).trans (unhide HB3).2.1), hp4.row⟩
  have HI4 := hide hI4
  clear hp4 hI4
  generalize w1.heap.size = R at *
  generalize w3.heap.size = G at *
  clear HB1
  refine (pick_go i n w4 i0 i1 (by omega) hbd).mono ?_
  rintro e w5 ⟨⟨k, hk, rfl⟩, rfl⟩
  have hkI : (k : Int) < (n : Int) := by omega
  go_wp2_with fail
  refine (bailey_proof L b o n cap k w5 hl hk hc hbd ((unhide HS).below (unhide HI4).below (unhide HS).lt) ((unhide HT).below (unhide HI4).below (unhide HZ)) (Nat.lt_of_lt_of_le (unhide HZ) (unhide HI4).below.size)).mono ?_
  rintro e w6 ⟨v, rfl, ho, hb6⟩
  obtain ⟨p, hp⟩ : ∃ p, p = Tre.proofOf (lsts L) k := ⟨_, rfl⟩
  rw [← hp] at ho
  have hpl : ∀ d ∈ p, d.length = 32 := by rw [hp]; exact Tre.proof_rows _ _ _ (Nat.le_refl _)
  have hpd : p.length = Tre.depth k n := by rw [hp, Tre.proof_length _ _ _ (Nat.le_refl _) (by rw [List.length_map]; omega), List.length_map, hl]
  have hp47 : p.length ≤ 47 := by rw [hp]; exact proof_le (by rw [List.length_map]; omega) (by rw [List.length_map]; omega)
  obtain ⟨ao, pc, hP⟩ := prf_own hpl ho
  obtain ⟨m, hm⟩ : ∃ m, m = p.length := ⟨_, rfl⟩
  have hm47 : m ≤ 47 := by omega
  have hv := hP.val
  rw [← hm] at hv
  subst hv
  obtain ⟨s, hs⟩ : ∃ s, s = L.getD k ByteArray.empty := ⟨_, rfl⟩
  have HI6 := hide ((unhide HI4).next hb6)
  have HW6 := hide hb6.size
  have HO6 := hide ho
  have HW5 := hide (And.intro (unhide HI4).below.size (And.intro (Array.getElem?_eq_some_iff.1 (unhide HI4).row).1 (Array.getElem?_eq_some_iff.1 (unhide HI4).dig).1))
  have HP := hide hP
  have HA := hide (show m ≤ pc ∧ (0 < m → ∃ bb oo, ao = some ⟨bb, oo, none⟩) from ⟨by have := hP.le; omega, fun h => by obtain ⟨bb, oo, h1, _⟩ := hP.some (by omega); exact ⟨bb, oo, h1⟩⟩)
  have HQ := hide (And.intro hp (And.intro hs (And.intro hm hpd)))
  clear hp hs hm hpd ho hP hb6 hpl hp47 HI4
  have hu24 := Tryd.underlying24
  have hi24 : (Tryd.prog.info? 24).map (·.size) = some (blist r).length := by have := rinfo hrl; rwa [brow_size, ← List.length_map (f := fun c : UInt8 => Value.int .u8 (c.toNat : Int))] at this
  go_wp2_with fail
  have hs6 : Sees b o k R s r w6.drew := (unhide HI6).draws.sees (unhide HS) (by omega) (unhide HQ).2.1
  go_region_held3 (fun w' => w'.cell? ⟨b, o + k, none⟩ = some (.string s) ∧ w'.rangeAt R 0 (blist r)) (assumption) (first
    | (go_at_call 25; go_must (refine (call_yes (L := L) (b := b) (o := o) (pc := pc) (ao := ao) (p := p) (r := r) (s := s) (w := w6.drew) hl hk hbd ((unhide HS).below (unhide HI6).draws.below (unhide HS).lt) ((unhide HT).below (unhide HI6).draws.below (unhide HZ)) (Nat.lt_of_lt_of_le (unhide HZ) (unhide HI6).draws.below.size) ((unhide HP).below (below_draws (Below.refl _ _) 1)) (unhide HQ).1 (unhide HRD).1 (unhide HQ).2.1).mono ?_; rintro e w7 ⟨rfl, hb7'⟩; have hb7 : Below w6.heap.size w6 w7 := undrew hb7'; have HI7 := hide ((unhide HI6).next hb7); have HW7 := hide (Nat.le_trans (unhide HW6) hb7.size); have HO7 := hide (own_below (unhide HO6) hb7); have hs7 : Sees b o k R s r w7 := (unhide HI7).sees (unhide HS) (by omega) (unhide HQ).2.1; clear hb7 hb7')))
  have hG7 : w7.cell? ⟨G, 0, none⟩ = some (.int .u8 186) := (cell_of_row _ _ _ _ _ _ (unhide HI7).dig).trans (unhide HD0)
  go_wp2_with fail
  have hs7d : Sees b o k R s r w7.drew := (unhide HI7).draws.sees (unhide HS) (by omega) (unhide HQ).2.1
  clear hs6 hG7 HP HI6 HO6 HB2 HB3
  obtain ⟨j0, hj0, hz0, hz1, hz2⟩ := info_parts info24'
  have HB := hide (show p.length + 1 ≤ maxLen ∧ (p.length + 1) * 32 ≤ 140737488355328 by have := (unhide HQ).2.2.1; unfold maxLen; omega)
  have hkeep : ∀ O, Sees b o k R s r (w7.drew.alloc O) := fun O => ⟨(((Below.refl w7.heap.size w7).alloc (Nat.le_refl _) O).cell (p := ⟨b, o + k, none⟩) (Nat.lt_of_lt_of_le (unhide HS).lt (unhide HI7).below.size)).trans hs7.1, World.rangeAt_alloc hs7.2 O⟩
  go_region_held3 (fun w' => w'.cell? ⟨b, o + k, none⟩ = some (.string s) ∧ w'.rangeAt R 0 (blist r)) (first | assumption | exact hkeep _) (first
    | (go_at_call 25; go_must (refine (call_len s k n (p.length + 1) c' (some ⟨g', 0, none⟩) r w8 hk hbd hrl (by have := (unhide HQ).2.2.2; omega)).mono ?_; rintro e w9 ⟨rfl, hb9⟩; have HI9 := hide ((unhide HI8).next hb9); have hs9 : Sees b o k R s r w9 := (unhide HI9).sees (unhide HS) (by omega) (unhide HQ).2.1; clear hb9))
    | (refine step_append_own rfl (.tmp 69) (.tmp 71) 41 rfl w5.heap.size 24 j0 (.agg (brow (List.replicate 32 0))) 32 32 Tryd.underlying41 hj0 hz0 hz1 hz2 rfl (by decide) (.slice ao m pc) p.length (flat p) ?_ (own_heap ((unhide HO7).alloc _) rfl) ⟨w7.heap.size, 0, none⟩ 1 1 (blist (List.replicate 32 0)) ?_ rfl (news_row (W0 := w7) rfl) (blist_one _) (unhide HB).1 (unhide HB).2 (by have := unhide HW7; simp; omega) ?_; (simp [Act.eval]); (simp [Act.eval]); (intro v' w8 hown' hgrow _; obtain ⟨g', c', hv'⟩ := own_slice hown' (by omega); subst hv'; have HI8 := hide (Inv.appended hgrow (unhide HI7) (unhide HO7) (unhide HW5).1 (unhide HW5).2.1 (unhide HW5).2.2 rfl rfl rfl rfl); have hs8 : Sees b o k R s r w8 := (unhide HI8).sees (unhide HS) (by omega) (unhide HQ).2.1; clear hown' hgrow)))
  clear hs7 hs7d hkeep HI7 HO7 HI8 hs8 HB hj0 hz0 hz1 hz2
  go_wp2_with fail
  have hs9d : Sees b o k R s r w9.drew := (unhide HI9).draws.sees (unhide HS) (by omega) (unhide HQ).2.1
  go_region_held3 (fun w' => w'.cell? ⟨b, o + k, none⟩ = some (.string s) ∧ w'.rangeAt R 0 (blist r)) (assumption) (first
    | (go_at_call 25; go_must (refine (call_none s (n : Int) n _ r w9.drew hrl (Or.inr (Int.le_refl _))).mono ?_; rintro e w10 ⟨rfl, hb10'⟩; have hb10 : Below w9.heap.size w9 w10 := undrew hb10'; have HI10 := hide ((unhide HI9).next hb10); have hs10 : Sees b o k R s r w10 := (unhide HI10).sees (unhide HS) (by omega) (unhide HQ).2.1; clear hb10 hb10')))
  clear hs9 hs9d HI9
  go_wp2_with fail
  have hs10d : Sees b o k R s r w10.drew := (unhide HI10).draws.sees (unhide HS) (by omega) (unhide HQ).2.1
  go_region_held3 (fun w' => w'.cell? ⟨b, o + k, none⟩ = some (.string s) ∧ w'.rangeAt R 0 (blist r)) (assumption) (first
    | (go_at_call 25; go_must (refine (call_none s (-1) n _ r w10.drew hrl (Or.inl (by decide))).mono ?_; rintro e w11 ⟨rfl, hb11'⟩; have hb11 : Below w10.heap.size w10 w11 := undrew hb11'; have HI11 := hide ((unhide HI10).next hb11); have hs11 : Sees b o k R s r w11 := (unhide HI11).sees (unhide HS) (by omega) (unhide HQ).2.1; clear hb11 hb11')))
  clear hs10 hs10d HI10
  by_cases hm0 : m = 0
  · subst hm0
    go_wp2_with fail
    go_ret
    exact ⟨rfl, (unhide HI11).below⟩
  · obtain ⟨bb, oo, rfl⟩ := (unhide HA).2 (by omega)
    obtain ⟨q, rfl⟩ : ∃ q, m = q + 1 := ⟨m - 1, by omega⟩
    have hpos : (0 : Int) < (q : Int) + 1 := by omega
    have hw1 : IntKind.i64.wrap (q : Int) = q := wrap_i64_f (by omega) (by omega)
    have hw2 : IntKind.i64.wrap ((q : Int) + 1 - 1) = q := by rw [show (q : Int) + 1 - 1 = q by omega]; exact hw1
    have hw3 : IntKind.i64.wrap (((q + 1 : Nat) : Int) - 1) = q := by rw [show ((q + 1 : Nat) : Int) - 1 = q by omega]; exact hw1
    have hsl := sl_hash bb oo (q + 1) pc q (by have := (unhide HA).1; omega)
    go_wp2_with fail
    have hs11d : Sees b o k R s r w11.drew := (unhide HI11).draws.sees (unhide HS) (by omega) (unhide HQ).2.1
    go_region_held3 (fun w' => w'.cell? ⟨b, o + k, none⟩ = some (.string s) ∧ w'.rangeAt R 0 (blist r)) (assumption) (first
      | (go_at_call 25; go_must (refine (call_len s k n q pc (some ⟨bb, oo, none⟩) r w11.drew hk hbd hrl (by have := (unhide HQ).2.2; omega)).mono ?_; rintro e w12 ⟨rfl, hb12'⟩; have hb12 : Below w11.heap.size w11 w12 := undrew hb12'; have HI12 := hide ((unhide HI11).next hb12); have hs12 : Sees b o k R s r w12 := (unhide HI12).sees (unhide HS) (by omega) (unhide HQ).2.1; clear hb12 hb12')))
    go_wp2_with fail
    go_ret
    exact ⟨rfl, (unhide HI12).below⟩

set_option maxRecDepth 100000 in
set_option maxHeartbeats 4000000 in
theorem proved_zero (a : Option Addr) (cap : Nat) (i : Int) (w : World) (hT : Table w) (hz : 0 < w.heap.size) :
    Calls Tryd.prog 7 #[.slice a 0 cap, .int .i64 i] w fun e w' => e = .returned (.bool true) ∧ Below w.heap.size w w' := by
  have HT := hide hT
  have HZ := hide hz
  clear hT hz
  obtain ⟨r, hr⟩ : ∃ r, r = Sha.digest [] := ⟨_, rfl⟩
  have hrl : r.length = 32 := by rw [hr]; exact Sha.digest_length _
  obtain ⟨D, hD⟩ : ∃ D, D = Sha.digest [97, 98, 99] := ⟨_, rfl⟩
  have hDl : D.length = 32 := by rw [hD]; exact Sha.digest_length _
  have HD0 := hide (show (brow D)[0]? = some (.int .u8 186) by rw [hD, Sha.abc]; rfl)
  have HRD := hide (And.intro (show r = Tre.root [] by rw [hr, Tre.root_nil]) (And.intro hr hD))
  clear hr hD
  have heq := eq_row r r hrl hrl
  have hg := guard_24
  go_enter Tryd.func7, Tryd.ntmps7
  go_wp2_with fail
  refine (bailey_root [] a 0 cap w (unhide HZ) (fun w' hb' => root_go0 a cap w' ((unhide HT).below hb' (unhide HZ)) (Nat.lt_of_lt_of_le (unhide HZ) hb'.size))).mono ?_
  rintro e w1 ⟨rfl, hb1⟩
  rw [← (unhide HRD).1]
  have HB1 := hide hb1
  clear hb1
  go_wp2_with (refine wpList_store_put rfl 24 _ _ rfl w1.heap.size (brow r) rfl rfl 24 _ (heap_alloc_new _ _) (rinfo hrl) (rzero hrl) (brow_one _) ?_; intro w2 hp2)
  have HB2 := hide (And.intro ((unhide HB1).trans (((Below.refl _ _).alloc (unhide HB1).size _).trans (hp2.below (unhide HB1).size))) (And.intro hp2.row (show w1.heap.size < w2.heap.size by rw [hp2.size]; simp)))
  clear hp2
  refine (bailey_digest ⟨#[97, 98, 99]⟩ w2 (by decide) ((unhide HT).below (unhide HB2).1 (unhide HZ)) (Nat.lt_of_lt_of_le (unhide HZ) (unhide HB2).1.size)).mono ?_
  rintro e w3 ⟨rfl, hb3⟩
  rw [show Sha.digest (⟨#[97, 98, 99]⟩ : ByteArray).data.toList = D from (unhide HRD).2.2.symm]
  have HB3 := hide (And.intro ((unhide HB2).1.trans (hb3.mono (unhide HB2).1.size)) (And.intro ((hb3.block _ (unhide HB2).2.2).trans (unhide HB2).2.1) (Nat.lt_of_lt_of_le (unhide HB2).2.2 hb3.size)))
  clear hb3
  go_wp2_with (refine wpList_store_put rfl 24 _ _ rfl w3.heap.size (brow D) rfl rfl 24 _ (heap_alloc_new _ _) (rinfo hDl) (rzero hDl) (brow_one _) ?_; intro w4 hp4)
  have hI4 : Inv w w1.heap.size w3.heap.size r D w4 := ⟨(unhide HB3).1.trans (((Below.refl _ _).alloc (unhide HB3).1.size _).trans (hp4.below (unhide HB3).1.size)), (hp4.other _ (Nat.ne_of_lt (unhide HB3).2.2)).trans ((Below.heap_alloc _ _ _ (unhide HB3).2.2).trans (unhide HB3).2.1), hp4.row⟩
  have HI4 := hide hI4
  clear hp4 hI4
  generalize w1.heap.size = R at *
  generalize w3.heap.size = G at *
  clear HB1 HB2 HB3
  refine (bailey_digest ⟨#[]⟩ w4 (by decide) ((unhide HT).below (unhide HI4).below (unhide HZ)) (Nat.lt_of_lt_of_le (unhide HZ) (unhide HI4).below.size)).mono ?_
  rintro e w5 ⟨rfl, hb5⟩
  rw [show Sha.digest (⟨#[]⟩ : ByteArray).data.toList = r from (unhide HRD).2.1.symm]
  have HI5 := hide ((unhide HI4).next hb5)
  clear hb5
  go_wp2_with (first
    | (refine wpList_store_put rfl 24 _ _ rfl w5.heap.size (brow r) rfl rfl 24 _ (heap_alloc_new _ _) (rinfo hrl) (rzero hrl) (brow_one _) ?_; intro w6 hp6; have HI6 := hide ((unhide HI5).next (((Below.refl w5.heap.size w5).alloc (Nat.le_refl _) _).trans (hp6.below (Nat.le_refl _)))); have q1 := (unhide HI6).row; have q2 := hp6.row; have q3 : w6.cell? ⟨G, 0, none⟩ = some (.int .u8 186) := (cell_of_row _ _ _ _ _ _ (unhide HI6).dig).trans (unhide HD0); clear hp6)
    | (refine wpList_load_row rfl 24 _ rfl R rfl 24 (brow r) (0, 0) _ q1 Tryd.underlying24 rfl (rinfo hrl) ?_)
    | (refine wpList_load_row rfl 24 _ rfl w5.heap.size rfl 24 (brow r) (0, 0) _ q2 Tryd.underlying24 rfl (rinfo hrl) ?_))
  go_ret
  exact ⟨rfl, (unhide HI6).below⟩
end Go.Proofs.YtfodibjlldmnpaaDoor
