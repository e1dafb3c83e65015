/-
  Tags
-/
import Derived.Test.YtlbacbcenejngaaGreatDoorH13
import Derived.Test.YtlbacbcenejngaaGreatDoorH09
import Derived.Test.YtlbacbcenejngaaGreatDoorH03
import Derived.Test.YtlbacbcenejngaaGreatDoorH11
import Derived.Test.YtlbacbcenejngaaGreatDoorH12
import Derived.Test.YtlbacbcenejngaaGreatDoorProg
import Derived.WalkKit
import Derived.WalkSpells
import Derived.WalkLawsBesides
import Derived.Deep.QuietTactic
import Derived.BigQuiet
import Derived.Deep.DeepCutAuto
import Derived.Deep.DeepMust
import Derived.BigRegion
import Derived.Deep.RegionHeld
import Derived.Deep.WholeRow
namespace Go.Proofs.YtlbacbcenejngaaGreatDoor
open Go.RowKit
/-- A digest's row. -/
theorem dig_size (l : List UInt8) : (brow (Sha.digest l)).size = 32 := by rw [brow_size, Sha.digest_length]
theorem dig_info (l : List UInt8) : (Tryz.prog.info? 29).map (·.size) = some (brow (Sha.digest l)).size := by rw [dig_size]; exact info29
theorem dig_zero (l : List UInt8) : (brow (List.replicate 32 0)).size = (brow (Sha.digest l)).size := by rw [dig_size]; rfl
set_option maxRecDepth 100000 in
set_option maxHeartbeats 1000000 in
theorem bailey_digest (s : ByteArray) (w : World) (hs : s.size ≤ 140737488355000) (hT : Table w) (hz : 0 < w.heap.size) :
    Calls Tryz.prog 17 #[.string s] w fun e w' => e = .returned (.agg (brow (Sha.digest s.data.toList))) ∧ Below w.heap.size w w' := by
  have hT2 : Table (w.alloc (.cells (brow (List.replicate 32 0)) 29)) := hT.below ((Below.refl w.heap.size w).alloc (Nat.le_refl _) _) hz
  have HT := hide hT2
  clear hT hT2
  go_enter Tryz.func17, Tryz.ntmps17
  go_wp2_with fail
  refine (of_go s _ hs (unhide HT) (by simp)).mono ?_
  rintro e w1 ⟨rfl, hb⟩
  have hc : w1.heap[w.heap.size]? = some (.cells (brow (List.replicate 32 0)) 29 (0, 0)) := (hb.block _ (by simp)).trans (heap_alloc_new _ _)
  have hb2 : Below w.heap.size w w1 := ((Below.refl w.heap.size w).alloc (Nat.le_refl _) _).trans (hb.mono (by simp))
  have HB := hide hb2
  clear hb hb2
  have hi := dig_info s.data.toList
  have ho := dig_zero s.data.toList
  have h1 := brow_one (Sha.digest s.data.toList)
  generalize hD : brow (Sha.digest s.data.toList) = D at *
  have HD := hide hD
  clear hD
  go_wp2_with (refine wpList_store_row rfl 29 _ _ rfl w.heap.size D rfl rfl 29 _ hc hi ho h1 ?_)
  refine bodyPost_ret (v := .agg D) (results_cell_row Tryz.results17 _ _ w.heap.size 29 D (0, 0) _ rfl (setRow_heap _ _ _ _ _ _ hc) Tryz.underlying29 rfl hi) rfl ⟨?_, ?_⟩
  · rw [unhide HD]
  · exact (unhide HB).trans ⟨rfl, rfl, rfl, by simp, fun k hk => setRow_other _ _ _ _ (by omega)⟩
theorem store_cells {P : Program} {w : World} {g : Nat} {t : TypeId} {old cells : Array Value} (hg : w.heap[g]? = some (.cells old t (0, 0))) (ho : old.size = cells.size) (h1 : cells.all (·.oneCell') = true) :
    (storeCells ⟨g, 0, none⟩ cells.toList).run P w = .ok () (w.setRow g cells) := by
  have := run_storeCells_from (P := P) g t cells.toList 0 old w hg (by simp; omega) (fun v hv => (Array.all_eq_true_iff_forall_mem.1 h1) v (by simpa using hv))
  simpa using this
/-- A row was written, and nothing else. -/
structure Put (g : Nat) (cs : Array Value) (t : TypeId) (w w' : World) : Prop where
  row : w'.heap[g]? = some (.cells cs t (0, 0))
  other : ∀ k, k ≠ g → w'.heap[k]? = w.heap[k]?
  size : w'.heap.size = w.heap.size
  os : w'.os = w.os
  tape : w'.tape = w.tape
  output : w'.output = w.output
theorem Put.below {g B : Nat} {cs : Array Value} {t : TypeId} {w w' : World} (h : Put g cs t w w') (hB : B ≤ g) : Below B w w' := ⟨h.os, h.tape, h.output, by rw [h.size]; exact Nat.le_refl _, fun k hk => h.other k (by omega)⟩
theorem wpList_store_put {P : Program} {w : World} {ops : Array Oper} {rest : List Oper} {o : Oper} {a : Act} {Q : Exit → Act → World → Prop} (hgd : o.guard = none) (ty : TypeId) (x y : Operand) (ho : o.op = .store ty x y)
    (g : Nat) (cells : Array Value) (hx : a.eval x = .pointer (some ⟨g, 0, none⟩)) (hy : a.eval y = .agg cells)
    (t : TypeId) (old : Array Value) (hg : w.heap[g]? = some (.cells old t (0, 0))) (hi : (P.info? ty).map (·.size) = some cells.size)
    (hold : old.size = cells.size) (h1 : cells.all (·.oneCell') = true)
    (h : ∀ w', Put g cells t w w' → wpList P ops Q rest (a.put o.dst undef) w') : wpList P ops Q (o :: rest) a w :=
  wpList_store_row hgd ty x y ho g cells hx hy t old hg hi hold h1 (h _ ⟨setRow_heap _ _ _ _ _ _ hg, fun k hk => setRow_other _ _ _ _ hk, by simp, rfl, rfl, rfl⟩)
/-- The result's row, of a call that began in w. -/
structure Res (w wx : World) : Prop where
  r : wx.heap[w.heap.size]? = some (.cells (brow (List.replicate 32 0)) 29 (0, 0))
  size : w.heap.size < wx.heap.size
  below : Below w.heap.size w wx
theorem res_start (w : World) : Res w (w.alloc (.cells (brow (List.replicate 32 0)) 29)) := ⟨heap_alloc_new _ _, by simp, (Below.refl _ _).alloc (Nat.le_refl _) _⟩
theorem Res.next {w wx wy : World} (h : Res w wx) (hb : Below (w.heap.size + 1) wx wy) : Res w wy := ⟨(hb.block _ (by omega)).trans h.r, Nat.lt_of_lt_of_le h.size hb.size, h.below.trans (hb.mono (by omega))⟩
set_option maxRecDepth 100000 in
set_option maxHeartbeats 1000000 in
theorem tag_go (key s : ByteArray) (w : World) (hk : key.size ≤ 140737488355000) (hs : s.size ≤ 140737488354900) (hT : Table w) (hz : 0 < w.heap.size) :
    Calls Tryz.prog 74 #[.string key, .string s] w fun e w' => e = .returned (.agg (brow (Sha.tag key.data.toList s.data.toList))) ∧ Below w.heap.size w w' := by
  have HT := hide hT
  clear hT
  obtain ⟨K, hK⟩ : ∃ K : ByteArray, K = ⟨(Sha.key64 key.data.toList).toArray⟩ := ⟨_, rfl⟩
  go_enter Tryz.func74, Tryz.ntmps74
  go_upto_if 9 with fail
  go_cut [0] (fun v wx => v = .string K ∧ Res w wx)
  case first =>
    have hT2 : Table (w.alloc (.cells (brow (List.replicate 32 0)) 29)) := (unhide HT).below (res_start w).below hz
    have HT2 := hide hT2
    have HK := hide hK
    clear hT2 hK
    by_cases hlong : 64 < key.size
    · have hlI : (64 : Int) < (key.size : Int) := by omega
      have hK2 := hide (show K = ⟨(Sha.digest key.data.toList).toArray⟩ by rw [unhide HK, Sha.key64, if_pos (by rw [size_toList]; exact hlong)])
      go_wp2_with fail
      refine (of_go key _ hk (unhide HT2) (by simp)).mono ?_
      rintro e w1 ⟨rfl, hb⟩
      have hr : Res w w1 := (res_start w).next (hb.mono (by simp))
      have HR := hide hr
      have hs1 := hr.size
      have hi := dig_info key.data.toList
      have ho := dig_zero key.data.toList
      have h1 := brow_one (Sha.digest key.data.toList)
      have hdl := Sha.digest_length key.data.toList
      generalize Sha.digest key.data.toList = D at *
      clear hb hr
      go_wp2_with (refine wpList_store_put rfl 29 _ _ rfl w1.heap.size (brow D) rfl rfl 29 _ (heap_alloc_new _ _) hi ho h1 ?_; intro w2 hput; have hcv := conv_brow (P := Tryz.prog) hput.row 58 5 9 Tryz.underlying58 Tryz.underlying5 Tryz.underlying9 32 32 hdl.symm; have hP := hide hput; clear hput)
      go_meet
      case rel =>
        refine ⟨by rw [unhide hK2], (unhide HR).next ?_⟩
        exact ((Below.refl _ _).alloc (by omega) _).trans ((unhide hP).below (by omega))
    · have hlI : ¬ (64 : Int) < (key.size : Int) := by omega
      have hK2 := hide (show K = key by rw [unhide HK, Sha.key64, if_neg (by rw [size_toList]; exact hlong)])
      go_wp2_with fail
      go_meet
      case rel => exact ⟨by rw [unhide hK2], res_start w⟩
  case rest =>
    obtain ⟨rfl, hr⟩ := hcut
    have hKs : K.size ≤ 64 := by
      rw [hK, mk_size, Sha.key64]
      split
      · rw [Sha.digest_length]; decide
      · omega
    have hKl : K.data.toList = Sha.key64 key.data.toList := by rw [hK]
    have HKl := hide hKl
    have hTw := hide ((unhide HT).below hr.below hz)
    clear hK hKl
    obtain ⟨c1, hc1⟩ : ∃ c : ByteArray, c = ⟨(Sha.mask K.data.toList 54).toArray⟩ ++ s := ⟨_, rfl⟩
    have hc1l : c1.data.toList = Sha.mask K.data.toList 54 ++ s.data.toList := by rw [hc1, ByteArray.data_append, Array.toList_append]
    have hc1s : c1.size = 64 + s.size := by rw [← size_toList, hc1l, List.length_append, Sha.mask_length, size_toList]
    have hadd1 : ∀ W : World, (Op.stringOp .add ⟨(Sha.mask K.data.toList 54).toArray⟩ s).run Tryz.prog W = .ok (.string c1) W := fun W => by
      rw [hc1]; exact run_string_add_sum _ _ _ (by rw [mk_size, Sha.mask_length]; omega)
    obtain ⟨D1, hD1⟩ : ∃ D1, D1 = Sha.digest c1.data.toList := ⟨_, rfl⟩
    have hD1l : D1.length = 32 := by rw [hD1]; exact Sha.digest_length _
    obtain ⟨c2, hc2⟩ : ∃ c : ByteArray, c = ⟨(Sha.mask K.data.toList 92).toArray⟩ ++ ⟨D1.toArray⟩ := ⟨_, rfl⟩
    have hc2l : c2.data.toList = Sha.mask K.data.toList 92 ++ D1 := by rw [hc2, ByteArray.data_append, Array.toList_append]
    have hc2s : c2.size = 96 := by rw [← size_toList, hc2l, List.length_append, Sha.mask_length, hD1l]
    have hadd2 : ∀ W : World, (Op.stringOp .add ⟨(Sha.mask K.data.toList 92).toArray⟩ ⟨D1.toArray⟩).run Tryz.prog W = .ok (.string c2) W := fun W => by
      rw [hc2]; exact run_string_add_sum _ _ _ (by rw [mk_size, mk_size, Sha.mask_length]; omega)
    have HF := hide (show Sha.tag key.data.toList s.data.toList = Sha.digest c2.data.toList by
      rw [Sha.tag, hc2l, hD1, hc1l, unhide HKl])
    have HC := hide (And.intro hc1s (And.intro hc2s hD1))
    clear hc1 hc1l hc1s hc2 hc2l hc2s hD1
    go_wp2_with fail
    refine (masked_go' K 54 _ rfl _ hKs).mono ?_
    rintro e w1 ⟨rfl, hb1⟩
    have hr1 : Res w w1 := hr.next (hb1.mono hr.size)
    have hT1 := hide ((unhide HT).below hr1.below hz)
    clear hr hb1
    go_wp2_with fail
    refine (of_go c1 _ (by have := (unhide HC).1; omega) (unhide hT1) (by have := hr1.size; omega)).mono ?_
    rintro e w2 ⟨rfl, hb2⟩
    rw [← (unhide HC).2.2]
    have hr2 : Res w w2 := hr1.next (hb2.mono hr1.size)
    have hi1 : (Tryz.prog.info? 29).map (·.size) = some (brow D1).size := by rw [brow_size, hD1l]; exact info29
    have ho1 : (brow (List.replicate 32 0)).size = (brow D1).size := by
      have e1 := brow_size D1
      have e2 : (brow (List.replicate 32 0)).size = 32 := rfl
      omega
    clear hb2 hr1
    go_wp2_with (refine wpList_store_put rfl 29 _ _ rfl w2.heap.size (brow D1) rfl rfl 29 _ (heap_alloc_new _ _) hi1 ho1 (brow_one _) ?_; intro w3 hput)
    have hr3 : Res w w3 := hr2.next (((Below.refl _ _).alloc hr2.size _).trans (hput.below hr2.size))
    have hG : w2.heap.size < w3.heap.size := by rw [hput.size]; simp
    have hrow : w3.heap[w2.heap.size]? = some (.cells (brow D1) 29 (0, 0)) := hput.row
    have hcv3 := conv_brow (P := Tryz.prog) (w := w3.drew) hrow 58 5 9 Tryz.underlying58 Tryz.underlying5 Tryz.underlying9 32 32 hD1l.symm
    have HR3 := hide hr3
    have HROW := hide hrow
    have hBG : w.heap.size < w2.heap.size := hr2.size
    clear hr2 hput hr3 hrow
    go_wp2_with fail
    go_region_with (first
      | (go_at_call 111; go_must (refine (masked_go' K 92 _ rfl _ hKs).mono ?_; rintro e w4 ⟨rfl, hb4'⟩; have hb4 : Below w3.heap.size w3 w4 := undrew hb4'; clear hb4'; have hcv4 := conv_brow (P := Tryz.prog) (w := w4) ((hb4.block _ hG).trans (unhide HROW)) 58 5 9 Tryz.underlying58 Tryz.underlying5 Tryz.underlying9 32 32 hD1l.symm; have HB4 := hide hb4; have HR4 := hide ((unhide HR3).next (hb4.mono (unhide HR3).size)); have HT4 := hide ((unhide HT).below (unhide HR4).below hz); clear hb4))
      | (go_at_call 35; go_must (refine (of_go c2 _ (by have := (unhide HC).2.1; omega) (unhide HT4) (by have := (unhide HR4).size; omega)).mono ?_; rintro e w5 ⟨rfl, hb5⟩; have hr5 : Res w w5 := (unhide HR4).next (hb5.mono (unhide HR4).size); have hst := store_cells (P := Tryz.prog) hr5.r (dig_zero c2.data.toList) (brow_one _); have HR5 := hide hr5; clear hb5 hr5)))
    all_goals
      go_wp2_with fail
      refine bodyPost_ret (v := .agg (brow (Sha.digest c2.data.toList))) (results_cell_row Tryz.results74 _ _ w.heap.size 29 _ (0, 0) _ rfl (setRow_heap _ _ _ _ _ _ (unhide HR5).r) Tryz.underlying29 rfl (dig_info _)) rfl ⟨by rw [unhide HF], ?_⟩
      exact (unhide HR5).below.trans ⟨rfl, rfl, rfl, by simp, fun k hk => setRow_other _ _ _ _ (by omega)⟩
end Go.Proofs.YtlbacbcenejngaaGreatDoor
