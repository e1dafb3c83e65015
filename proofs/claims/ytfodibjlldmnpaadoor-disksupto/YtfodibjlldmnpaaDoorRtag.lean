import Derived.Test.YtfodibjlldmnpaaDoorTags
namespace Go.Proofs.YtfodibjlldmnpaaDoor
open Go.RowKit

/-- The first n bytes of a key, made up with noughts, each turned. -/
def turned (k : List UInt8) (m : UInt8) (n : Nat) : List UInt8 := (List.range n).map fun i => (k.getD i 0) ^^^ m
theorem turned_succ (k : List UInt8) (m : UInt8) (n : Nat) : turned k m (n + 1) = turned k m n ++ [(k.getD n 0) ^^^ m] := by simp [turned, List.range_succ]
theorem turned_end (k : List UInt8) (m : UInt8) : turned k m 64 = Sha.mask k m := rfl
theorem turned_head (k : List UInt8) (m : UInt8) {n : Nat} (h : 0 < n) : (u8s (turned k m n))[0]? = some (.int .u8 (((k.getD 0 0) ^^^ m).toNat : Int)) := by
  obtain ⟨j, rfl⟩ : ∃ j, n = j + 1 := ⟨n - 1, by omega⟩
  simp [turned, List.range_succ_eq_map]
theorem xor_ne (c : UInt8) : (.int .u8 ((c ^^^ 54).toNat : Int) : Value) ≠ .int .u8 ((c ^^^ 92).toNat : Int) := by
  have h : ∀ c : UInt8, (c ^^^ 54).toNat ≠ (c ^^^ 92).toNat := by
    intro c e
    have e2 : c ^^^ 54 = c ^^^ 92 := UInt8.toNat_inj.1 e
    have e3 := congrArg (fun x => c ^^^ x) e2
    simp only [← UInt8.xor_assoc, UInt8.xor_self, UInt8.zero_xor] at e3
    exact absurd e3 (by decide)
  intro e
  have := h c
  simp only [Value.int.injEq, true_and] at e
  omega
/-- Two owned rows that begin otherwise are two. -/
theorem own_apart {w : World} {B : Nat} {e : TypeId} {v1 v2 : Value} {n1 n2 : Nat} {xs ys : List Value} (h1 : w.ownsRow B e 1 v1 n1 xs) (h2 : w.ownsRow B e 1 v2 n2 ys) (p1 : 0 < n1) (p2 : 0 < n2) (hne : xs[0]? ≠ ys[0]?) :
    v1.ownBlock ≠ v2.ownBlock := by
  obtain ⟨g1, c1, rfl, _, _, k1⟩ := own_form h1 p1
  obtain ⟨g2, c2, rfl, _, _, k2⟩ := own_form h2 p2
  intro e
  simp only [Value.ownBlock, Option.some.injEq] at e
  subst e
  exact hne ((k1 0 p1).symm.trans (k2 0 p2))
/-- The result's row, of a call that began in w. -/
structure Resk (w wx : World) : Prop where
  r : wx.heap[w.heap.size]? = some (.cells (brow (List.replicate 32 0)) 24 (0, 0))
  size : w.heap.size < wx.heap.size
  kept : Kept w.heap.size w wx
theorem resk_start (w : World) : Resk w (w.alloc (.cells (brow (List.replicate 32 0)) 24)) := ⟨heap_alloc_new _ _, by simp, (Kept.refl _ _).alloc (Nat.le_refl _) _⟩
theorem Resk.next {w wx wy : World} (h : Resk w wx) (hb : Kept (w.heap.size + 1) wx wy) : Resk w wy := ⟨(hb.block _ (by omega)).trans h.r, Nat.lt_of_lt_of_le h.size hb.size, h.kept.trans (hb.mono (by omega))⟩

theorem grown_kept {B : Nat} {w w' : World} {e : TypeId} {v : Value} {n : Nat} {xs : List Value} (hg : w.grownBy w' v.ownBlock) (ho : w.ownsRow B e 1 v n xs) (hs : B ≤ w.heap.size) : Kept B w w' :=
  .of (grown_below (Below.refl _ _) ho (Nat.le_refl _) hg hs)

set_option maxRecDepth 100000 in
set_option maxHeartbeats 2000000 in
theorem tag_ref (key s : ByteArray) (w : World) (hk : key.size ≤ 140737488355000) (hs : s.size ≤ 140737488354900) :
    Calls Tryd.prog 13 #[.string key, .string s] w fun e w' => e = .returned (.agg (brow (Sha.tag key.data.toList s.data.toList))) ∧ Kept w.heap.size w w' := by
  obtain ⟨i0, hi0, hz0, hz1, hz2⟩ := info_parts info5'
  obtain ⟨K, hK⟩ : ∃ K : ByteArray, K = ⟨(Sha.key64 key.data.toList).toArray⟩ := ⟨_, rfl⟩
  go_enter Tryd.func13, Tryd.ntmps13
  go_upto_if 14 with fail
  go_cut [0] (fun v wx => v = .string K ∧ Resk w wx)
  case first =>
    have HK := hide hK
    clear hK
    by_cases hlong : 64 < key.size
    · have hlI : (64 : Int) < (key.size : Int) := by omega
      have hK2 := hide (show K = ⟨(Sha.digest key.data.toList).toArray⟩ by rw [unhide HK, Sha.key64, if_pos (by rw [size_toList]; exact hlong)])
      go_wp2_with fail
      refine (digest_ref key _ hk).mono ?_
      rintro e w1 ⟨rfl, hb⟩
      have hr : Resk w w1 := (resk_start w).next (hb.mono (by simp))
      have HR := hide hr
      have hs1 := hr.size
      have hi := dig_info key.data.toList
      have ho := dig_zero key.data.toList
      have h1 := brow_one (Sha.digest key.data.toList)
      have hdl := Sha.digest_length key.data.toList
      generalize Sha.digest key.data.toList = D at *
      clear hb hr
      go_wp2_with (first | (refine wpList_store_put rfl 24 _ _ rfl w1.heap.size (brow D) rfl rfl 24 _ (heap_alloc_new _ _) hi ho h1 ?_; intro w2 hput) | (refine wpList_load_row rfl 24 _ rfl w1.heap.size rfl 24 (brow D) (0, 0) _ hput.row Tryd.underlying24 rfl hi ?_))
      refine (text_ref D _ hdl).mono ?_
      rintro e w3 ⟨rfl, hb3⟩
      have HR3 := hide ((unhide HR).next (((Kept.refl _ _).alloc (by omega) _).trans ((Kept.of (hput.below hs1)).trans (hb3.mono (by have := hput.size; simp at this; omega)))))
      clear hput hb3
      go_wp2
      go_meet
      case rel => exact ⟨by rw [unhide hK2], unhide HR3⟩
    · have hlI : ¬ (64 : Int) < (key.size : Int) := by omega
      have hK2 := hide (show K = key by rw [unhide HK, Sha.key64, if_neg (by rw [size_toList]; exact hlong)])
      go_wp2_with fail
      go_meet
      case rel => exact ⟨by rw [unhide hK2], resk_start w⟩
  case rest =>
    obtain ⟨rfl, hr⟩ := hcut
    have hKs : K.size ≤ 64 := by
      rw [hK, mk_size, Sha.key64]
      split
      · rw [Sha.digest_length]; decide
      · omega
    have hKl : K.data.toList = Sha.key64 key.data.toList := by rw [hK]
    have HKl := hide hKl
    clear hK hKl
    have HR := hide hr
    have hrs := hr.size
    clear hr
    obtain ⟨wq, hwq⟩ : ∃ wq : World, wq = wc := ⟨_, rfl⟩
    subst hwq
    go_wp2
    go_loopw [6, 7, 8] (fun vi vo t wr => ∃ k : Nat, k ≤ 64 ∧ t = .int .i64 k ∧ wr.ownsRow wq.heap.size 5 1 vi k (u8s (turned K.data.toList 54 k)) ∧ wr.ownsRow wq.heap.size 5 1 vo k (u8s (turned K.data.toList 92 k)) ∧ (k = 0 → vi = .slice none 0 0 ∧ vo = .slice none 0 0) ∧ Kept wq.heap.size wq wr) (fun _ _ t _ => 64 - (intOf t).toNat)
    case atStart => exact ⟨0, Nat.zero_le _, rfl, World.ownsRow_nil _ _ _ _, World.ownsRow_nil _ _ _ _, fun _ => ⟨rfl, rfl⟩, Kept.refl _ _⟩
    case round =>
      obtain ⟨k, hk64, rfl, hin, hout, hnil, hke⟩ := hrel
      have hsz := hke.size
      by_cases hlt : k < 64
      · obtain ⟨y, hy⟩ : ∃ y, y = K.data.toList.getD k 0 := ⟨_, rfl⟩
        have hc : ∃ c : Int, c = (y.toNat : Int) := ⟨_, rfl⟩
        have hti := hide (turned_succ K.data.toList 54 k)
        have hto := hide (turned_succ K.data.toList 92 k)
        rw [← hy] at hti hto
        have hxi : bits .xor .u8 (y.toNat : Int) 54 = ((y ^^^ 54).toNat : Int) := xor_u8 y 54
        have hxo : bits .xor .u8 (y.toNat : Int) 92 = ((y ^^^ 92).toNat : Int) := xor_u8 y 92
        have hltI : (k : Int) < 64 := by omega
        have HH := hide (And.intro hin (And.intro hout (And.intro hnil hke)))
        have Hy := hide hy
        have Hlt := hide hlt
        clear hy hin hout hnil hke hlt
        go_upto_if 26 with fail
        go_cut [9] (fun v wx => v = .int .u8 (y.toNat : Int) ∧ wx = wr)
        case first =>
          by_cases hik : k < K.size
          · have hikI : (k : Int) < (K.size : Int) := by omega
            have hyk := hide (show (K[k]'hik) = y by rw [unhide Hy, List.getD_eq_getElem?_getD, List.getElem?_eq_getElem (by simpa using hik)]; rfl)
            go_wp2_with fail
            go_meet
            case rel => exact ⟨by rw [unhide hyk], rfl⟩
          · have hikI : ¬ (k : Int) < (K.size : Int) := by omega
            have hyk := hide (show y = 0 by rw [unhide Hy, List.getD_eq_getElem?_getD, List.getElem?_eq_none (by simp; omega)]; rfl)
            go_wp2_with fail
            go_meet
            case rel => exact ⟨by rw [unhide hyk]; rfl, rfl⟩
        case rest =>
          obtain ⟨rfl, hwc⟩ := hcut
          subst hwc
          obtain ⟨hin, hout, hnil, hke⟩ := unhide HH
          have hso : wc.ownsRow wq.heap.size 5 1 u7 k (u8s (turned K.data.toList 92 k)) ∧ (u7.ownBlock = none ∨ u7.ownBlock ≠ u6.ownBlock) := by
            refine ⟨hout, ?_⟩
            rcases Nat.eq_zero_or_pos k with h0 | h0
            · exact Or.inl (by rw [(hnil h0).2]; rfl)
            · exact Or.inr (own_apart hout hin h0 h0 (by rw [turned_head _ _ h0, turned_head _ _ h0]; intro e; exact xor_ne _ (Option.some.inj e).symm))
          have HNE := hide hso.2
          clear hso
          go_wp2_with (first
            | (at_builtin; refine wpList_append_own _ rfl (.tmp 30) (.tmp 33) 81 rfl wq.heap.size 5 i0 (.int .u8 0) 1 1 Tryd.underlying81 hi0 hz0 hz1 hz2 rfl (by decide) _ k (u8s (turned K.data.toList 54 k)) rfl (hin.alloc _) ⟨wc.heap.size, 0, none⟩ 1 1 [.int .u8 ((y ^^^ 54).toNat : Int)] rfl rfl (cell_one_new _ _ _) (mem_one rfl) (by unfold maxLen; omega) (by omega) (by simp; omega) ?_; intro v1 w1 hin1 hgr1 _; have hout1 := (hout.alloc _).kept hgr1 (unhide HNE); have hk1 := (hke.alloc hsz _).trans (grown_kept hgr1 (hin.alloc _) (by simp; omega)); have hs1 := hk1.size; have hgr1' := hide hgr1; clear hgr1)
            | (at_builtin; refine wpList_append_own _ rfl (.tmp 35) (.tmp 38) 81 rfl wq.heap.size 5 i0 (.int .u8 0) 1 1 Tryd.underlying81 hi0 hz0 hz1 hz2 rfl (by decide) _ k (u8s (turned K.data.toList 92 k)) rfl (hout1.alloc _) ⟨w1.heap.size, 0, none⟩ 1 1 [.int .u8 ((y ^^^ 92).toNat : Int)] rfl rfl (cell_one_new _ _ _) (mem_one rfl) (by unfold maxLen; omega) (by omega) (by simp; omega) ?_; intro v2 w2 hout2 hgr2 _))
          have e1 : w1.ownsRow wq.heap.size 5 1 v1 (k + 1) (u8s (turned K.data.toList 54 (k + 1))) := by rw [unhide hti]; simpa [u8s] using hin1
          have e2 : w2.ownsRow wq.heap.size 5 1 v2 (k + 1) (u8s (turned K.data.toList 92 (k + 1))) := by rw [unhide hto]; simpa [u8s] using hout2
          have hne : v1.ownBlock ≠ u7.ownBlock := by
            rcases Nat.eq_zero_or_pos k with h0 | h0
            · obtain ⟨g, c, hv, _⟩ := own_form e1 (by omega)
              rw [hv, (hnil h0).2]
              simp [Value.ownBlock]
            · exact own_apart e1 hout1 (by omega) h0 (by rw [turned_head _ _ (by omega), turned_head _ _ h0]; intro e; exact xor_ne _ (Option.some.inj e))
          refine ⟨⟨k + 1, by have := unhide Hlt; omega, by go_num, (e1.alloc _).kept hgr2 (Or.inr hne), e2, fun h => by omega, (hk1.alloc hs1 _).trans (grown_kept hgr2 (hout1.alloc _) (by simp; omega))⟩, ?_⟩
          have := unhide Hlt
          simp [intOf]; omega
      · obtain rfl : k = 64 := by omega
        obtain ⟨gi, ci, hvi, byi⟩ := own_byts hin (by decide)
        obtain ⟨go', co, hvo, byo⟩ := own_byts hout (by decide)
        subst hvi hvo
        rw [turned_end] at byi byo
        have hr : Resk w wr := (unhide HR).next (hke.mono hrs)
        obtain ⟨c1, hc1⟩ : ∃ c : ByteArray, c = ⟨(Sha.mask K.data.toList 54).toArray⟩ ++ s := ⟨_, rfl⟩
        have hc1l : c1.data.toList = Sha.mask K.data.toList 54 ++ s.data.toList := by rw [hc1, ByteArray.data_append, Array.toList_append]
        have hc1s : c1.size = 64 + s.size := by rw [← size_toList, hc1l, List.length_append, Sha.mask_length, size_toList]
        have hadd1 : ∀ W : World, (Op.stringOp .add ⟨(Sha.mask K.data.toList 54).toArray⟩ s).run Tryd.prog W = .ok (.string c1) W := fun W => by
          rw [hc1]; exact run_string_add_sum _ _ _ (by rw [mk_size, Sha.mask_length]; omega)
        obtain ⟨D1, hD1⟩ : ∃ D1, D1 = Sha.digest c1.data.toList := ⟨_, rfl⟩
        have hD1l : D1.length = 32 := by rw [hD1]; exact Sha.digest_length _
        obtain ⟨c2, hc2⟩ : ∃ c : ByteArray, c = ⟨(Sha.mask K.data.toList 92).toArray⟩ ++ ⟨D1.toArray⟩ := ⟨_, rfl⟩
        have hc2l : c2.data.toList = Sha.mask K.data.toList 92 ++ D1 := by rw [hc2, ByteArray.data_append, Array.toList_append]
        have hc2s : c2.size = 96 := by rw [← size_toList, hc2l, List.length_append, Sha.mask_length, hD1l]
        have hadd2 : ∀ W : World, (Op.stringOp .add ⟨(Sha.mask K.data.toList 92).toArray⟩ ⟨D1.toArray⟩).run Tryd.prog W = .ok (.string c2) W := fun W => by
          rw [hc2]; exact run_string_add_sum _ _ _ (by rw [mk_size, mk_size, Sha.mask_length]; omega)
        have HF := hide (show Sha.tag key.data.toList s.data.toList = Sha.digest c2.data.toList by
          rw [Sha.tag, hc2l, hD1, hc1l, unhide HKl])
        have HC := hide (And.intro hc1s (And.intro hc2s hD1))
        have hi1 : (Tryd.prog.info? 24).map (·.size) = some (brow D1).size := by rw [brow_size, hD1l]; exact info24
        have ho1 : (brow (List.replicate 32 0)).size = (brow D1).size := by
          have e1 := brow_size D1
          have e2 : (brow (List.replicate 32 0)).size = 32 := rfl
          omega
        have hglt : go' < wr.heap.size := byo.lt (by have := byo.came.le; omega)
        have hcv1 := byi.conv (P := Tryd.prog) 81 5 9 Tryd.underlying81 Tryd.underlying5 Tryd.underlying9
        have HBYO := hide byo
        have HRw := hide hr
        clear hin hout byi byo hnil hr hc1 hc1l hc1s hc2 hc2l hc2s hD1
        go_wp2_with fail
        refine (digest_ref c1 _ (by have := (unhide HC).1; omega)).mono ?_
        rintro e w2 ⟨rfl, hb2⟩
        rw [← (unhide HC).2.2]
        have hr2 : Resk w w2 := (unhide HRw).next (hb2.mono (unhide HRw).size)
        have hs2 := hr2.size
        have hb2s := hb2.size
        have by2 : Byts w2 go' 0 64 co (Sha.mask K.data.toList 92) := (unhide HBYO).carry (hb2.block _ hglt) hb2.size
        have HR2 := hide hr2
        have HBY2 := hide by2
        clear hb2 hr2 by2
        go_wp2_with (first | (refine wpList_store_put rfl 24 _ _ rfl w2.heap.size (brow D1) rfl rfl 24 _ (heap_alloc_new _ _) hi1 ho1 (brow_one _) ?_; intro w3 hput) | (refine wpList_load_row rfl 24 _ rfl w2.heap.size rfl 24 (brow D1) (0, 0) _ hput.row Tryd.underlying24 rfl hi1 ?_))
        have hr3 : Resk w w3 := (unhide HR2).next (((Kept.refl _ _).alloc (by omega) _).trans (.of (hput.below (by omega))))
        have by3 : Byts w3 go' 0 64 co (Sha.mask K.data.toList 92) := (unhide HBY2).carry ((hput.other _ (by omega)).trans (Below.heap_alloc _ _ _ (by omega))) (by rw [hput.size]; simp)
        have hs3 : w2.heap.size < w3.heap.size := by rw [hput.size]; simp
        clear hput
        refine (text_ref D1 _ hD1l).mono ?_
        rintro e w4 ⟨rfl, hb4⟩
        have hr4 : Resk w w4 := hr3.next (hb4.mono hr3.size)
        have by4 : Byts w4 go' 0 64 co (Sha.mask K.data.toList 92) := by3.carry (hb4.block _ (by omega)) hb4.size
        have hcv4 := by4.conv (P := Tryd.prog) 81 5 9 Tryd.underlying81 Tryd.underlying5 Tryd.underlying9
        have HR4 := hide hr4
        clear hr3 by3 hb4 hr4 by4
        go_wp2_with fail
        refine (digest_ref c2 _ (by have := (unhide HC).2.1; omega)).mono ?_
        rintro e w5 ⟨rfl, hb5⟩
        have hr5 : Resk w w5 := (unhide HR4).next (hb5.mono (unhide HR4).size)
        clear hb5
        go_wp2_with (refine wpList_store_row rfl 24 _ _ rfl w.heap.size (brow (Sha.digest c2.data.toList)) rfl rfl 24 _ hr5.r (dig_info _) (dig_zero _) (brow_one _) ?_)
        refine bodyPost_ret (v := .agg (brow (Sha.digest c2.data.toList))) (results_cell_row Tryd.results13 _ _ w.heap.size 24 _ (0, 0) _ rfl (setRow_heap _ _ _ _ _ _ hr5.r) Tryd.underlying24 rfl (dig_info _)) rfl ⟨by rw [unhide HF], ?_⟩
        exact hr5.kept.setRow (Nat.le_refl _) _
end Go.Proofs.YtfodibjlldmnpaaDoor
