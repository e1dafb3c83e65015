/-
  tree.proofOf, tree.Proof, tree.Proves.
-/
import Derived.Test.YtfodibjlldmnpaaDoorClimb
namespace Go.Proofs.YtfodibjlldmnpaaDoor
open Go.RowKit

abbrev flat (p : List (List UInt8)) : List Value := p.flatMap blist
theorem info24' : (Tryd.prog.info? 24).map (fun i => (i.zero, i.size, i.bytes)) = some (some (.agg (brow (List.replicate 32 0))), 32, 32) := by kernel_rfl

theorem own_below {w w' : World} {B : Nat} {e : TypeId} {z : Nat} {v : Value} {n : Nat} {xs : List Value} (h : w.ownsRow B e z v n xs) (hb : Below w.heap.size w w') : w'.ownsRow B e z v n xs := by
  obtain ⟨h1, h2⟩ := h
  refine ⟨h1, ?_⟩
  rcases h2 with h | ⟨g, cap, cur, hv, hg, hh, r⟩
  · exact Or.inl h
  · refine Or.inr ⟨g, cap, cur, hv, hg, ?_, r⟩
    have : g < w.heap.size := (Array.getElem?_eq_some_iff.1 hh).1
    rw [hb.block g this]; exact hh
theorem own_grown {B : Nat} {a w w' : World} {e : TypeId} {z : Nat} {v : Value} {n : Nat} {xs : List Value} (h : Below B a w) (ho : w.ownsRow B e z v n xs) (hg : w.grownBy w' v.ownBlock) (hs : B ≤ w.heap.size) : Below B a w' := by
  refine h.grown hg hs fun k hk => ?_
  rcases ho.2 with ⟨rfl, _⟩ | ⟨g, cap, cur, rfl, hg2, _⟩
  · simp [Value.ownBlock] at hk
  · simp [Value.ownBlock] at hk; omega
theorem news_row {W W0 : World} {R : List UInt8} {t : TypeId} (hh : W.heap = (W0.alloc (.cells (brow R) t)).heap) : ∀ j u, (blist R)[j]? = some u → W.cell? ((⟨W0.heap.size, 0, none⟩ : Addr).add j) = some u := by
  intro j u hu
  rw [add_addr, Nat.zero_add]
  have : W.heap[W0.heap.size]? = some (.cells (brow R) t (0, 0)) := by rw [hh]; exact heap_alloc_new _ _
  rw [cell_of_row _ _ _ _ _ _ this]
  simpa [brow] using hu
theorem flat_length {p : List (List UInt8)} (h : ∀ d ∈ p, d.length = 32) : (flat p).length = p.length * 32 := by
  induction p with
  | nil => rfl
  | cons d r ih =>
    rw [flat, List.flatMap_cons, List.length_append, List.length_map, h d (by simp)]
    have := ih (fun x hx => h x (by simp [hx]))
    rw [flat] at this
    rw [this, List.length_cons]; omega

theorem fold_set (l : List Value) : ∀ (k : Nat) (a : Array Value), a.size = k + l.length → ((l.zipIdx k).foldl (fun cs x => cs.setIfInBounds x.2 x.1) a) = (a.toList.take k ++ l).toArray := by
  induction l with
  | nil =>
    intro k a h
    simp only [List.zipIdx_nil, List.foldl_nil, List.append_nil]
    rw [List.take_of_length_le (by simp at h ⊢; omega)]
  | cons v r ih =>
    intro k a h
    rw [List.zipIdx_cons, List.foldl_cons, ih (k + 1) _ (by simp at h ⊢; omega)]
    congr 1
    rw [Array.toList_setIfInBounds, List.take_succ_eq_append_getElem (by simp at h ⊢; omega), List.take_set_of_le (Nat.le_refl _)]
    simp
theorem fill_row {R : List UInt8} (h : R.length = 32) : Array.foldl (fun cs (x : Value × Nat) => cs.setIfInBounds x.snd x.fst) #[Value.int IntKind.u8 0, Value.int IntKind.u8 0, Value.int IntKind.u8 0, Value.int IntKind.u8 0, Value.int IntKind.u8 0, Value.int IntKind.u8 0, Value.int IntKind.u8 0, Value.int IntKind.u8 0, Value.int IntKind.u8 0, Value.int IntKind.u8 0, Value.int IntKind.u8 0, Value.int IntKind.u8 0, Value.int IntKind.u8 0, Value.int IntKind.u8 0, Value.int IntKind.u8 0, Value.int IntKind.u8 0, Value.int IntKind.u8 0, Value.int IntKind.u8 0, Value.int IntKind.u8 0, Value.int IntKind.u8 0, Value.int IntKind.u8 0, Value.int IntKind.u8 0, Value.int IntKind.u8 0, Value.int IntKind.u8 0, Value.int IntKind.u8 0, Value.int IntKind.u8 0, Value.int IntKind.u8 0, Value.int IntKind.u8 0, Value.int IntKind.u8 0, Value.int IntKind.u8 0, Value.int IntKind.u8 0, Value.int IntKind.u8 0] (brow R).zipIdx 0 32 = brow R := by
  have h1 := fold_set (blist R) 0 #[Value.int IntKind.u8 0, Value.int IntKind.u8 0, Value.int IntKind.u8 0, Value.int IntKind.u8 0, Value.int IntKind.u8 0, Value.int IntKind.u8 0, Value.int IntKind.u8 0, Value.int IntKind.u8 0, Value.int IntKind.u8 0, Value.int IntKind.u8 0, Value.int IntKind.u8 0, Value.int IntKind.u8 0, Value.int IntKind.u8 0, Value.int IntKind.u8 0, Value.int IntKind.u8 0, Value.int IntKind.u8 0, Value.int IntKind.u8 0, Value.int IntKind.u8 0, Value.int IntKind.u8 0, Value.int IntKind.u8 0, Value.int IntKind.u8 0, Value.int IntKind.u8 0, Value.int IntKind.u8 0, Value.int IntKind.u8 0, Value.int IntKind.u8 0, Value.int IntKind.u8 0, Value.int IntKind.u8 0, Value.int IntKind.u8 0, Value.int IntKind.u8 0, Value.int IntKind.u8 0, Value.int IntKind.u8 0, Value.int IntKind.u8 0] (by rw [List.length_map, h]; rfl)
  have h2 : (brow R).zipIdx.size = 32 := by rw [Array.size_zipIdx, brow_size, h]
  conv => lhs; rw [← h2]
  rw [← Array.foldl_toList, Array.toList_zipIdx]
  exact h1

theorem proof_le {l : List (List UInt8)} {i : Nat} (hi : i < l.length) (h : l.length ≤ 140737488355328) : (Tre.proofOf l i).length ≤ 47 := by
  rw [Tre.proof_length _ _ _ (Nat.le_refl _) hi]
  exact depth_log 47 _ _ (by simpa using h)
theorem proof_one {l : List (List UInt8)} {i : Nat} (h : l.length ≤ 1) : Tre.proofOf l i = [] := by rw [Tre.proofOf, if_pos h]
theorem proof_left {l : List (List UInt8)} {i : Nat} (h : 2 ≤ l.length) (hi : i < Tre.split l.length) : Tre.proofOf l i = Tre.proofOf (l.take (Tre.split l.length)) i ++ [Tre.root (l.drop (Tre.split l.length))] := by
  rw [Tre.proofOf, if_neg (by omega), if_pos hi]
theorem proof_right {l : List (List UInt8)} {i : Nat} (h : 2 ≤ l.length) (hi : ¬ i < Tre.split l.length) : Tre.proofOf l i = Tre.proofOf (l.drop (Tre.split l.length)) (i - Tre.split l.length) ++ [Tre.root (l.take (Tre.split l.length))] := by
  rw [Tre.proofOf, if_neg (by omega), if_neg hi]

set_option maxRecDepth 100000 in
set_option maxHeartbeats 2000000 in
theorem proofOf_go (m : Nat) : ∀ (L : List ByteArray) (b o n cap i : Nat) (w : World), L.length = n → n ≤ m → i < n → n ≤ cap → n ≤ 140737488355328 → Strs w b o L → Table w → 0 < w.heap.size →
    Calls Tryd.prog 94 #[.slice (some ⟨b, o, none⟩) n cap, .int .i64 i] w fun e w' => ∃ v, e = .returned v ∧ w'.ownsRow w.heap.size 24 32 v (Tre.proofOf (lsts L) i).length (flat (Tre.proofOf (lsts L) i)) ∧ Below w.heap.size w w' := by
  induction m with
  | zero => intro L b o n cap i w hl hm h1; omega
  | succ m ih =>
    intro L b o n cap i w hl hm hi hc hbd hS hT hz
    have HIH := hide ih
    clear ih
    have HS := hide hS
    have HT := hide hT
    have HZ := hide hz
    clear hT hz
    by_cases hn : n = 1
    · subst hn
      have HF := hide (proof_one (l := lsts L) (i := i) (by simp [lsts]; omega))
      go_enter Tryd.func94, Tryd.ntmps94
      go_wp2_with fail
      go_ret
      refine ⟨_, rfl, ?_, Below.refl _ _⟩
      rw [unhide HF]
      exact World.ownsRow_nil _ _ _ _
    · have hn2 : 2 ≤ n := by omega
      obtain ⟨k, hk⟩ : ∃ k, k = Tre.split n := ⟨_, rfl⟩
      have hk1 : 0 < k := by rw [hk]; exact Tre.split_pos n
      have hk2 : k < n := by rw [hk]; exact Tre.split_lt (by omega)
      have hs1 := sl_h b o n cap k (by omega)
      have hs2 := sl_l b o n cap k hk2 hc
      have hlt := hS.lt
      obtain ⟨i0, hi0, hz0, hz1, hz2⟩ := info_parts info24'
      clear hS
      by_cases hik : i < k
      · have hikI : (i : Int) < (k : Int) := by omega
        obtain ⟨R, hR⟩ : ∃ R, R = Tre.root (lsts (L.drop k)) := ⟨_, rfl⟩
        obtain ⟨p, hp⟩ : ∃ p, p = Tre.proofOf (lsts (L.take k)) i := ⟨_, rfl⟩
        have hRl : R.length = 32 := by rw [hR]; exact Tre.root_length _
        have hpl : p.length ≤ 47 := by
          rw [hp]
          exact proof_le (by simp [lsts]; omega) (by simp [lsts]; omega)
        have HF := hide (show Tre.proofOf (lsts L) i = p ++ [R] by
          rw [proof_left (by simp [lsts]; omega) (by simp [lsts, hl, ← hk]; omega), hp, hR]; simp [lsts, hl, ← hk, List.map_take, List.map_drop])
        have HP := hide (And.intro hp hR)
        have HK := hide hk
        have hb1 : p.length + 1 ≤ maxLen := by unfold maxLen; omega
        have hb2 : (p.length + 1) * 32 ≤ 140737488355328 := by omega
        have HB := hide (And.intro hb1 hb2)
        have hfill := fill_row hRl
        have hRs : (brow R).size = 32 := by rw [brow_size, hRl]
        have HRl := hide hRl
        clear hp hR hk hb1 hb2 hRl
        go_enter Tryd.func94, Tryd.ntmps94
        go_wp2_with fail
        refine (split_go n _ (by omega) (by omega)).mono ?_
        rintro e w0 ⟨rfl, rfl⟩
        rw [← unhide HK]
        go_wp2_with fail
        go_region_held3 (fun _ => True) (trivial) (first
          | (go_at_call 94; go_must (refine (unhide HIH (L.take k) b o k cap i w0.drew (by simp; omega) (by omega) (by omega) (by omega) (by omega) (((unhide HS).take k).below (below_draws (Below.refl w0.heap.size w0) 1) hlt) (unhide HT) (unhide HZ)).mono ?_; rintro e w1 ⟨v, rfl, hown1, hb1'⟩; rw [← (unhide HP).1] at hown1; have hb1 : Below w0.heap.size w0 w1 := undrew hb1'; have HO1 := hide (And.intro hown1 hb1); clear hown1 hb1 hb1'))
          | (go_at_call 52; go_must (refine (root_go _ (L.drop k) b (o + k) (n - k) (cap - k) w1 (by simp; omega) (Nat.le_refl _) (by omega) (by omega) (by omega) (((unhide HS).drop k).below (unhide HO1).2 hlt) ((unhide HT).below (unhide HO1).2 (unhide HZ)) (by have := (unhide HO1).2.size; have := unhide HZ; omega)).mono ?_; rintro e w2 ⟨rfl, hb2⟩; rw [← (unhide HP).2]; have HO2 := hide (And.intro (own_below (unhide HO1).1 hb2) ((unhide HO1).2.trans (hb2.mono (unhide HO1).2.size))); clear hb2))
          | (refine step_append_own rfl (.tmp 19) (.tmp 24) 41 rfl w0.heap.size 24 i0 (.agg (brow (List.replicate 32 0))) 32 32 Tryd.underlying41 hi0 hz0 hz1 hz2 rfl (by decide) v p.length (flat p) ?_ ((unhide HO2).1.alloc _) ⟨w2.heap.size, 0, none⟩ 1 1 (blist R) ?_ (by rw [List.length_map, unhide HRl]) (news_row rfl) (blist_one R) (unhide HB).1 (unhide HB).2 (by have := (unhide HO2).2.size; simp; omega) ?_; (simp [Act.eval]); (simp [Act.eval]); (intro v' w3 hown' hgrow _; have HO3 := hide (And.intro hown' (own_grown ((unhide HO2).2.alloc (unhide HO2).2.size _) ((unhide HO2).1.alloc _) hgrow (by have := (unhide HO2).2.size; simp; omega))); clear hown' hgrow)))
        all_goals
          go_wp2_with fail
          go_ret
          refine ⟨_, rfl, ?_, (unhide HO3).2⟩
          rw [unhide HF, List.length_append, flat, List.flatMap_append]
          have := (unhide HO3).1
          simpa using this
      · have hikI : ¬ (i : Int) < (k : Int) := by omega
        obtain ⟨R, hR⟩ : ∃ R, R = Tre.root (lsts (L.take k)) := ⟨_, rfl⟩
        obtain ⟨p, hp⟩ : ∃ p, p = Tre.proofOf (lsts (L.drop k)) (i - k) := ⟨_, rfl⟩
        have hRl : R.length = 32 := by rw [hR]; exact Tre.root_length _
        have hpl : p.length ≤ 47 := by
          rw [hp]
          exact proof_le (by simp [lsts]; omega) (by simp [lsts]; omega)
        have e1 : IntKind.i64.wrap ((i : Int) - (k : Int)) = ((i - k : Nat) : Int) := by rw [wrap_i64_f (by omega) (by omega)]; omega
        have HF := hide (show Tre.proofOf (lsts L) i = p ++ [R] by
          rw [proof_right (by simp [lsts]; omega) (by simp [lsts, hl, ← hk]; omega), hp, hR]; simp [lsts, hl, ← hk, List.map_take, List.map_drop])
        have HP := hide (And.intro hp hR)
        have HK := hide hk
        have hb1 : p.length + 1 ≤ maxLen := by unfold maxLen; omega
        have hb2 : (p.length + 1) * 32 ≤ 140737488355328 := by omega
        have HB := hide (And.intro hb1 hb2)
        have hfill := fill_row hRl
        have hRs : (brow R).size = 32 := by rw [brow_size, hRl]
        have HRl := hide hRl
        clear hp hR hk hb1 hb2 hRl
        go_enter Tryd.func94, Tryd.ntmps94
        go_wp2_with fail
        refine (split_go n _ (by omega) (by omega)).mono ?_
        rintro e w0 ⟨rfl, rfl⟩
        rw [← unhide HK]
        go_wp2_with fail
        go_region_held3 (fun _ => True) (trivial) (first
          | (go_at_call 94; go_must (refine (unhide HIH (L.drop k) b (o + k) (n - k) (cap - k) (i - k) w0.drew (by simp; omega) (by omega) (by omega) (by omega) (by omega) (((unhide HS).drop k).below (below_draws (Below.refl w0.heap.size w0) 1) hlt) (unhide HT) (unhide HZ)).mono ?_; rintro e w1 ⟨v, rfl, hown1, hb1'⟩; rw [← (unhide HP).1] at hown1; have hb1 : Below w0.heap.size w0 w1 := undrew hb1'; have HO1 := hide (And.intro hown1 hb1); clear hown1 hb1 hb1'))
          | (go_at_call 52; go_must (refine (root_go _ (L.take k) b o k cap w1 (by simp; omega) (Nat.le_refl _) (by omega) (by omega) (by omega) (((unhide HS).take k).below (unhide HO1).2 hlt) ((unhide HT).below (unhide HO1).2 (unhide HZ)) (by have := (unhide HO1).2.size; have := unhide HZ; omega)).mono ?_; rintro e w2 ⟨rfl, hb2⟩; rw [← (unhide HP).2]; have HO2 := hide (And.intro (own_below (unhide HO1).1 hb2) ((unhide HO1).2.trans (hb2.mono (unhide HO1).2.size))); clear hb2))
          | (refine step_append_own rfl (.tmp 32) (.tmp 37) 41 rfl w0.heap.size 24 i0 (.agg (brow (List.replicate 32 0))) 32 32 Tryd.underlying41 hi0 hz0 hz1 hz2 rfl (by decide) v p.length (flat p) ?_ ((unhide HO2).1.alloc _) ⟨w2.heap.size, 0, none⟩ 1 1 (blist R) ?_ (by rw [List.length_map, unhide HRl]) (news_row rfl) (blist_one R) (unhide HB).1 (unhide HB).2 (by have := (unhide HO2).2.size; simp; omega) ?_; (simp [Act.eval]); (simp [Act.eval]); (intro v' w3 hown' hgrow _; have HO3 := hide (And.intro hown' (own_grown ((unhide HO2).2.alloc (unhide HO2).2.size _) ((unhide HO2).1.alloc _) hgrow (by have := (unhide HO2).2.size; simp; omega))); clear hown' hgrow)))
        all_goals
          go_wp2_with fail
          go_ret
          refine ⟨_, rfl, ?_, (unhide HO3).2⟩
          rw [unhide HF, List.length_append, flat, List.flatMap_append]
          have := (unhide HO3).1
          simpa using this
end Go.Proofs.YtfodibjlldmnpaaDoor
