/-
  Csame, Clog, Lpair, Cpair, joined.
-/
import Derived.Test.YtfodibjlldmnpaaDoorJCclone
import Derived.Test.YtfodibjlldmnpaaDoorJLvfy
/-
  Two logs with the same entries are one; the last two entries that differ have one digest.
-/
namespace Go.Proofs.YtfodibjlldmnpaaDoor
open Go.RowKit

/-- Bound entries, heads that are one: the last two that differ have one digest. -/
theorem loose_bound {E : List ByteArray} : ∀ (m i k : Nat), E.length - i ≤ m → loose E i = none → i ≤ k → k < E.length → bound E k = true := by
  intro m
  induction m with
  | zero => intro i k hm _ h1 h2; omega
  | succ m ih =>
    intro i k hm h h1 h2
    by_cases hb : bound E i = true
    · by_cases hk : i = k
      · rw [← hk]; exact hb
      · rw [loose_next (by omega) hb] at h
        exact ih _ _ (by omega) h (by omega) h2
    · rw [loose_some (by omega) (by simpa using hb)] at h
      cases h
theorem lastDiff_some {X Y : List ByteArray} : ∀ {n i : Nat}, lastDiff X Y n = some i → i < n ∧ X.getD i ByteArray.empty ≠ Y.getD i ByteArray.empty ∧ ∀ j, i < j → j < n → X.getD j ByteArray.empty = Y.getD j ByteArray.empty := by
  intro n
  induction n with
  | zero => intro i h; cases h
  | succ n ih =>
    intro i h
    rw [lastDiff] at h
    split at h
    · rename_i he
      obtain ⟨h1, h2, h3⟩ := ih h
      refine ⟨by omega, h2, fun j hj hjn => ?_⟩
      by_cases hjj : j = n
      · rw [hjj]; exact he
      · exact h3 j hj (by omega)
    · rename_i he
      cases h
      exact ⟨by omega, he, fun j h1 h2 => absurd h1 (by omega)⟩
theorem lastDiff_none {X Y : List ByteArray} : ∀ {n : Nat}, lastDiff X Y n = none → ∀ j, j < n → X.getD j ByteArray.empty = Y.getD j ByteArray.empty := by
  intro n
  induction n with
  | zero => intro _ j hj; omega
  | succ n ih =>
    intro h j hj
    rw [lastDiff] at h
    split at h
    · rename_i he
      by_cases hjj : j = n
      · rw [hjj]; exact he
      · exact ih h j (by omega)
    · cases h
theorem hash_of_bound {X Y : List ByteArray} {i : Nat} (hX : bound X i = true) (hY : bound Y i = true) (h : X.getD i ByteArray.empty = Y.getD i ByteArray.empty) : hashAt X i = hashAt Y i := by
  simp only [bound, Bool.and_eq_true, decide_eq_true_eq] at hX hY
  have h1 := hX.1.symm.trans ((congrArg (fun z => z.extract 0 32) h).trans hY.1)
  have := congrArg (fun z => z.data.toList) h1
  simpa using this
/-- The pair that clash tells has one digest, and differs. -/
theorem clash_pair {X Y : List ByteArray} {i : Nat} (hX : loose X 0 = none) (hY : loose Y 0 = none) (hl : X.length = Y.length) (hh : hashAt X X.length = hashAt Y Y.length) (h : lastDiff X Y X.length = some i) :
    X.getD i ByteArray.empty ≠ Y.getD i ByteArray.empty ∧ Sha.digest (X.getD i ByteArray.empty).data.toList = Sha.digest (Y.getD i ByteArray.empty).data.toList := by
  obtain ⟨h1, h2, h3⟩ := lastDiff_some h
  refine ⟨h2, ?_⟩
  show hashAt X (i + 1) = hashAt Y (i + 1)
  by_cases he : i + 1 = X.length
  · rw [he, hh, hl]
  · exact hash_of_bound (loose_bound X.length 0 _ (by omega) hX (by omega) (by omega)) (loose_bound Y.length 0 _ (by omega) hY (by omega) (by omega)) (h3 _ (by omega) (by omega))
end Go.Proofs.YtfodibjlldmnpaaDoor
/-
  Two logs with the same entries are one.
-/
namespace Go.Proofs.YtfodibjlldmnpaaDoor
open Go.RowKit

theorem numOf_inj : ∀ (a b : List UInt8), a.length = b.length → numOf a = numOf b → a = b
  | [], [], _, _ => rfl
  | x :: r, y :: q, hl, h => by
    rw [numOf, numOf] at h
    have hx := x.toNat_lt
    have hy := y.toNat_lt
    have h1 : x.toNat = y.toNat := by omega
    have h2 : numOf r = numOf q := by omega
    rw [numOf_inj r q (by simpa using hl) h2, UInt8.toNat_inj.1 h1]
/-- The end of the entries: none is left, or there is one ahead. -/
theorem ents_cases {s : ByteArray} {o : Nat} (h : (ents s o).2 = true) : (¬ o < s.size ∧ (ents s o).1 = []) ∨
    (o < s.size ∧ o + 2 + sizeAt s o ≤ s.size ∧ (ents s o).1 = entAt s o :: (ents s (o + 2 + sizeAt s o)).1 ∧ (ents s (o + 2 + sizeAt s o)).2 = true) := by
  by_cases h0 : o < s.size
  · right
    by_cases h2 : s.size < o + 2
    · rw [ents_short h0 h2] at h; cases h
    · by_cases h3 : s.size < o + 2 + sizeAt s o
      · rw [ents_long h0 h2 h3] at h; cases h
      · by_cases h4 : fitsB (entAt s o) = true
        · rw [ents_next h0 h2 h3 h4] at h ⊢
          exact ⟨h0, by omega, rfl, h⟩
        · rw [ents_bad h0 h2 h3 h4] at h; cases h
  · left
    rw [ents_end h0]
    exact ⟨h0, rfl⟩
theorem drop_frame (s : ByteArray) {o : Nat} (_h : o + 2 + sizeAt s o ≤ s.size) : s.data.toList.drop o = (s.extract o (o + 2)).data.toList ++ ((entAt s o).data.toList ++ s.data.toList.drop (o + 2 + sizeAt s o)) := by
  rw [ext_list, entAt, ext_list, show o + 2 - o = 2 by omega, show o + 2 + sizeAt s o - (o + 2) = sizeAt s o by omega]
  rw [show s.data.toList.drop (o + 2 + sizeAt s o) = (s.data.toList.drop (o + 2)).drop (sizeAt s o) by rw [List.drop_drop]]
  rw [List.take_append_drop, show s.data.toList.drop (o + 2) = (s.data.toList.drop o).drop 2 by rw [List.drop_drop], List.take_append_drop]
theorem ents_log (a b : ByteArray) : ∀ (m o o' : Nat), a.size - o ≤ m → (ents a o).2 = true → (ents b o').2 = true → (ents a o).1 = (ents b o').1 → a.data.toList.drop o = b.data.toList.drop o' := by
  intro m
  induction m with
  | zero =>
    intro o o' hm ha hb he
    have hla := size_toList a
    have hlb := size_toList b
    rcases ents_cases ha with ⟨h1, h2⟩ | ⟨h1, _⟩
    · rcases ents_cases hb with ⟨h3, h4⟩ | ⟨h3, _, h4, _⟩
      · rw [List.drop_of_length_le (by omega), List.drop_of_length_le (by omega)]
      · rw [h2, h4] at he; cases he
    · omega
  | succ m ih =>
    intro o o' hm ha hb he
    have hla := size_toList a
    have hlb := size_toList b
    rcases ents_cases ha with ⟨h1, h2⟩ | ⟨h1, h5, h6, h7⟩
    · rcases ents_cases hb with ⟨h3, h4⟩ | ⟨h3, _, h4, _⟩
      · rw [List.drop_of_length_le (by omega), List.drop_of_length_le (by omega)]
      · rw [h2, h4] at he; cases he
    · rcases ents_cases hb with ⟨h3, h4⟩ | ⟨h3, h8, h9, h10⟩
      · rw [h6, h4] at he; cases he
      · rw [h6, h9] at he
        obtain ⟨e1, e2⟩ := List.cons.inj he
        have hs : sizeAt a o = sizeAt b o' := by rw [← entAt_size h5, ← entAt_size h8, e1]
        have h11 := ih _ _ (by omega) h7 h10 e2
        rw [drop_frame a h5, drop_frame b h8, h11, e1]
        congr 1
        refine numOf_inj _ _ ?_ hs
        rw [size_toList, size_toList, ByteArray.size_extract, ByteArray.size_extract]
        omega
/-- Logs that are whole and have the same entries are the same. -/
theorem same_log {a b : ByteArray} (ha : (ents a 0).2 = true) (hb : (ents b 0).2 = true) (h : (ents a 0).1 = (ents b 0).1) : a = b := by
  have := ents_log a b a.size 0 0 (by omega) ha hb h
  exact Go.WideShapes.bytes_inj this
end Go.Proofs.YtfodibjlldmnpaaDoor
/-
  Logs, the reference: Pair.
-/
namespace Go.Proofs.YtfodibjlldmnpaaDoor
open Go.RowKit

/-- What Pair answers. -/
def pairOf (a b : ByteArray) : Bool :=
  (ents a 0).2 && ((ents b 0).2 && (decide ((ents a 0).1.length = (ents b 0).1.length) && (decide (a ≠ b) &&
    (decide ((vfyOf (ents a 0).1 (ents a 0).2 (ents a 0).1.length (hashAt (ents a 0).1 (ents a 0).1.length)).1 = 0) &&
      (decide ((vfyOf (ents b 0).1 (ents b 0).2 (ents b 0).1.length (hashAt (ents b 0).1 (ents b 0).1.length)).1 = 0) &&
        (hashAt (ents a 0).1 (ents a 0).1.length == hashAt (ents b 0).1 (ents b 0).1.length))))))
theorem ents_count (log : ByteArray) : ∀ (m o : Nat), log.size - o ≤ m → (ents log o).1.length ≤ log.size - o := by
  intro m
  induction m with
  | zero => intro o ho; rw [ents_end (by omega)]; simp
  | succ m ih =>
    intro o ho
    rw [ents]
    split
    · split
      · simp
      · split
        · simp
        · split
          · rename_i h1 h2 h3 h4
            have := ih (o + 2 + sizeAt log o) (by omega)
            simp only [List.length_cons]
            omega
          · simp
    · simp

set_option maxRecDepth 100000 in
set_option maxHeartbeats 2000000 in
theorem pair_of_ref (a b : ByteArray) (w : World) (hsa : a.size ≤ 140737488351232) (hsb : b.size ≤ 140737488351232) :
    Calls Tryd.prog 32 #[.string a, .string b] w fun e w' => e = .returned (.bool (pairOf a b)) ∧ Kept w.heap.size w w' := by
  obtain ⟨X, hX⟩ : ∃ X, X = (ents a 0).1 := ⟨_, rfl⟩
  obtain ⟨ax, hax⟩ : ∃ ax, ax = (ents a 0).2 := ⟨_, rfl⟩
  obtain ⟨Y, hY⟩ : ∃ Y, Y = (ents b 0).1 := ⟨_, rfl⟩
  obtain ⟨ay, hay⟩ : ∃ ay, ay = (ents b 0).2 := ⟨_, rfl⟩
  obtain ⟨gx, hgxd⟩ : ∃ gx, gx = hashAt X X.length := ⟨_, rfl⟩
  obtain ⟨gy, hgyd⟩ : ∃ gy, gy = hashAt Y Y.length := ⟨_, rfl⟩
  have hgx : gx.length = 32 := by rw [hgxd]; exact hashAt_len _ _
  have hgy : gy.length = 32 := by rw [hgyd]; exact hashAt_len _ _
  obtain ⟨ex, hex⟩ : ∃ ex, ex = (vfyOf X ax X.length gx).1 := ⟨_, rfl⟩
  obtain ⟨ey, hey⟩ : ∃ ey, ey = (vfyOf Y ay Y.length gy).1 := ⟨_, rfl⟩
  have HPR := hide (show pairOf a b = (ax && (ay && (decide (X.length = Y.length) && (decide (a ≠ b) && (decide (ex = 0) && (decide (ey = 0) && (gx == gy))))))) by
    rw [pairOf, ← hX, ← hax, ← hY, ← hay, ← hgxd, ← hgyd, ← hex, ← hey])
  have hXl : X.length ≤ 140737488351232 := by rw [hX]; have := ents_count a _ 0 (Nat.le_refl _); omega
  have hYl : Y.length ≤ 140737488351232 := by rw [hY]; have := ents_count b _ 0 (Nat.le_refl _); omega
  have HGX := hide (show ∀ i, i < X.length → (X.getD i ByteArray.empty).size ≤ 140737488351232 from fun i hi => by rw [hX] at hi ⊢; have := (ents_get hi).2; omega)
  have HGY := hide (show ∀ i, i < Y.length → (Y.getD i ByteArray.empty).size ≤ 140737488351232 from fun i hi => by rw [hY] at hi ⊢; have := (ents_get hi).2; omega)
  have HVX := hide (show (vfyOf (ents a 0).1 (ents a 0).2 X.length gx).1 = ex by rw [hex, hX, hax])
  have HVY := hide (show (vfyOf (ents b 0).1 (ents b 0).2 Y.length gy).1 = ey by rw [hey, hY, hay])
  have HX := hide (And.intro hX hax)
  have HY := hide (And.intro hY hay)
  have HG := hide (And.intro hgxd hgyd)
  have heqg : ∀ W, (Op.equalIn 10000 24 (.agg (brow gx)) (.agg (brow gy))).run Tryd.prog W = .ok (gx == gy) W := eq_row gx gy hgx hgy
  have hg24 := guard_24
  clear hX hax hY hay hgxd hgyd hex hey
  go_enter Tryd.func32, Tryd.ntmps32
  go_wp2_with fail
  refine (entries_ref a w (by omega)).mono ?_
  rintro _ w1 ⟨v1, rfl, ho1, hb1⟩
  rw [← (unhide HX).1] at ho1
  rw [← (unhide HX).2]
  have HK1 := hide (Kept.of hb1)
  have HO1 := hide ho1
  clear hb1 ho1
  go_wp2_with fail
  refine (entries_ref b w1 (by omega)).mono ?_
  rintro _ w2 ⟨v2, rfl, ho2, hb2⟩
  rw [← (unhide HY).1] at ho2
  rw [← (unhide HY).2]
  have HK2 := hide ((unhide HK1).trans ((Kept.of hb2).mono (unhide HK1).size))
  have HO2 := hide ho2
  have HP2 := hide (own_below (unhide HO1) hb2)
  obtain ⟨c1, cap1, hv1, _, hc1⟩ := own_len (unhide HO1)
  obtain ⟨c2, cap2, hv2, _, hc2⟩ := own_len ho2
  subst hv1
  subst hv2
  clear hb2 ho2
  by_cases hok : ax = true ∧ ay = true ∧ X.length = Y.length ∧ a ≠ b
  · obtain ⟨rfl, rfl, hlen, hab⟩ := hok
    have habL : (a.toList == b.toList) = false := by
      rw [beq_eq_false_iff_ne]
      exact fun h => hab (str_inj h)
    have hlenI : (X.length : Int) = (Y.length : Int) := by omega
    have HPS := hide (show pairOf a b = (decide (ex = 0) && (decide (ey = 0) && (gx == gy))) by rw [unhide HPR]; simp [hlen, hab])
    clear HPR
    have HPR := hide (unhide HPS)
    have HVX2 := hide (show (vfyOf (ents a 0).1 (ents a 0).2 (Y.length : Int) gx).1 = ex by rw [← hlenI]; exact unhide HVX)
    by_cases h0 : 0 < X.length
    · obtain ⟨g1, rfl⟩ := hc1 h0
      obtain ⟨g2, rfl⟩ := hc2 (by omega)
      have hI3 : (0 : Int) ≤ (Y.length : Int) - 1 := by omega
      have hI4 : (Y.length : Int) - 1 < (Y.length : Int) := by omega
      have hT2 : ((Y.length : Int) - 1).toNat = Y.length - 1 := by omega
      obtain ⟨x, hx⟩ : ∃ x, x = X.getD (X.length - 1) ByteArray.empty := ⟨_, rfl⟩
      obtain ⟨y, hy⟩ : ∃ y, y = Y.getD (Y.length - 1) ByteArray.empty := ⟨_, rfl⟩
      have hxs : x.size ≤ 140737488351232 := by rw [hx]; exact unhide HGX _ (by omega)
      have hys : y.size ≤ 140737488351232 := by rw [hy]; exact unhide HGY _ (by omega)
      have HDX := hide (show Sha.digest x.data.toList = gx by
        rw [(unhide HG).1, show X.length = (X.length - 1) + 1 by omega, hashAt, hx])
      have HDY := hide (show Sha.digest y.data.toList = gy by
        rw [(unhide HG).2, show Y.length = (Y.length - 1) + 1 by omega, hashAt, hy])
      have hcx : w2.cell? ⟨g1, Y.length - 1, none⟩ = some (.string x) := by
        rw [← hlen, (unhide HP2).cellAt _ (by omega), List.getElem?_map, List.getElem?_eq_getElem (by omega), hx, List.getD_eq_getElem?_getD, List.getElem?_eq_getElem (by omega)]; rfl
      have hcy : w2.cell? ⟨g2, Y.length - 1, none⟩ = some (.string y) := by
        rw [(unhide HO2).cellAt _ (by omega), List.getElem?_map, List.getElem?_eq_getElem (by omega), hy, List.getD_eq_getElem?_getD, List.getElem?_eq_getElem (by omega)]; rfl
      have hg1l : g1 < w2.heap.size := World.block_lt_of_cell? _ _ hcx
      have hg2l : g2 < w2.heap.size := World.block_lt_of_cell? _ _ hcy
      clear hx hy
      go_wp2_with fail
      refine (digest_ref x _ (by omega)).mono ?_
      rintro _ w3 ⟨rfl, hk3⟩
      rw [unhide HDX]
      have hnew : ((w2.alloc (.cells (brow zeros) 24)).alloc (.cells (brow zeros) 24)).heap[w2.heap.size + 1]? = some (.cells (brow zeros) 24 (0, 0)) := by have := heap_alloc_new (w2.alloc (.cells (brow zeros) 24)) (.cells (brow zeros) 24); simpa using this
      have hr3 : w3.heap[w2.heap.size]? = some (.cells (brow zeros) 24 (0, 0)) := (hk3.block _ (by simp; omega)).trans ((Below.heap_alloc _ _ _ (by simp)).trans (heap_alloc_new _ _))
      have hr3' : w3.heap[w2.heap.size + 1]? = some (.cells (brow zeros) 24 (0, 0)) := (hk3.block _ (by simp)).trans hnew
      have HK3 := hide (show Kept w2.heap.size w2 w3 from (((Kept.refl _ _).alloc (Nat.le_refl _) _).alloc (by simp) _).trans (hk3.mono (by simp; omega)))
      have HR3 := hide (And.intro hr3 hr3')
      clear hk3 hr3 hr3' hcx hnew
      go_wp2_with (refine wpList_store_put rfl 24 (.tmp 9) (.tmp 52) rfl w2.heap.size (brow gx) ?_ ?_ 24 (brow zeros) ?_ (rinfo hgx) ?_ (brow_one _) ?_
                   · rfl
                   · rfl
                   · exact (unhide HR3).1
                   · rw [brow_size, brow_size, hgx]; rfl
                   intro w3b hp3
                   have hcy3 : w3b.cell? ⟨g2, Y.length - 1, none⟩ = some (.string y) := by
                     rw [World.cell?_of_block (w := w3) (hp3.other g2 (by omega)), (unhide HK3).cell (p := ⟨g2, Y.length - 1, none⟩) hg2l]; exact hcy)
      have HR3b := hide (show w3b.heap[w2.heap.size]? = some (.cells (brow gx) 24 (0, 0)) ∧ w3b.heap[w2.heap.size + 1]? = some (.cells (brow zeros) 24 (0, 0)) ∧ Kept w.heap.size w w3b from ⟨hp3.row, (hp3.other _ (by omega)).trans (unhide HR3).2, (unhide HK2).trans (((unhide HK3).mono (unhide HK2).size).trans ⟨hp3.os, hp3.output, by rw [hp3.size]; exact Nat.le_refl _, fun k hk => hp3.other k (by have := (unhide HK2).size; omega)⟩)⟩)
      clear hp3 hcy
      refine (digest_ref y w3b (by omega)).mono ?_
      rintro _ w4a ⟨rfl, hk4⟩
      rw [unhide HDY]
      have HR4a := hide (show w4a.heap[w2.heap.size]? = some (.cells (brow gx) 24 (0, 0)) ∧ w4a.heap[w2.heap.size + 1]? = some (.cells (brow zeros) 24 (0, 0)) ∧ Kept w.heap.size w w4a from ⟨(hk4.block _ (Array.getElem?_eq_some_iff.1 (unhide HR3b).1).1).trans (unhide HR3b).1, (hk4.block _ (Array.getElem?_eq_some_iff.1 (unhide HR3b).2.1).1).trans (unhide HR3b).2.1, (unhide HR3b).2.2.trans (hk4.mono (unhide HR3b).2.2.size)⟩)
      clear hk4 hcy3
      go_wp2_with (first
        | (refine wpList_store_put rfl 24 (.tmp 10) (.tmp 59) rfl (w2.heap.size + 1) (brow gy) ?_ ?_ 24 (brow zeros) ?_ (rinfo hgy) ?_ (brow_one _) ?_
           · rfl
           · rfl
           · exact (unhide HR4a).2.1
           · rw [brow_size, brow_size, hgy]; rfl
           intro w4 hp4
           have HR4 := hide (show w4.heap[w2.heap.size]? = some (.cells (brow gx) 24 (0, 0)) ∧ w4.heap[w2.heap.size + 1]? = some (.cells (brow gy) 24 (0, 0)) ∧ Kept w.heap.size w w4 from ⟨(hp4.other _ (by omega)).trans (unhide HR4a).1, hp4.row, (unhide HR4a).2.2.trans ⟨hp4.os, hp4.output, by rw [hp4.size]; exact Nat.le_refl _, fun k hk => hp4.other k (by have := (unhide HK2).size; omega)⟩⟩)
           clear hp4)
        | (refine wpList_load_row rfl 24 (.tmp 9) rfl w2.heap.size ?_ 24 (brow gx) (0, 0) _ ?_ Tryd.underlying24 rfl (rinfo hgx) ?_; · rfl
           · exact (unhide HR4).1))
      refine (verify_ref a (Y.length : Int) gx w4 hsa hgx).mono ?_
      rintro _ w5 ⟨rfl, hk5⟩
      have HR5 := hide (show w5.heap[w2.heap.size]? = some (.cells (brow gx) 24 (0, 0)) ∧ w5.heap[w2.heap.size + 1]? = some (.cells (brow gy) 24 (0, 0)) ∧ Kept w.heap.size w w5 from ⟨(hk5.block _ (Array.getElem?_eq_some_iff.1 (unhide HR4).1).1).trans (unhide HR4).1, (hk5.block _ (Array.getElem?_eq_some_iff.1 (unhide HR4).2.1).1).trans (unhide HR4).2.1, (unhide HR4).2.2.trans (hk5.mono (unhide HR4).2.2.size)⟩)
      clear hk5
      rw [unhide HVX2]
      go_wp2_with (refine wpList_load_row rfl 24 (.tmp 10) rfl (w2.heap.size + 1) ?_ 24 (brow gy) (0, 0) _ ?_ Tryd.underlying24 rfl (rinfo hgy) ?_; · rfl
                   · exact (unhide HR5).2.1)
      refine (verify_ref b (Y.length : Int) gy w5 hsb hgy).mono ?_
      rintro _ w6 ⟨rfl, hk6⟩
      have HR6 := hide (show w6.heap[w2.heap.size]? = some (.cells (brow gx) 24 (0, 0)) ∧ w6.heap[w2.heap.size + 1]? = some (.cells (brow gy) 24 (0, 0)) ∧ Kept w.heap.size w w6 from ⟨(hk6.block _ (Array.getElem?_eq_some_iff.1 (unhide HR5).1).1).trans (unhide HR5).1, (hk6.block _ (Array.getElem?_eq_some_iff.1 (unhide HR5).2.1).1).trans (unhide HR5).2.1, (unhide HR5).2.2.trans (hk6.mono (unhide HR5).2.2.size)⟩)
      clear hk6
      rw [unhide HVY]
      by_cases h0x : ex = 0
      · by_cases h0y : ey = 0
        · go_wp2_with (first
            | (refine wpList_load_row_g (by rfl) 24 (.tmp 9) rfl w2.heap.size ?_ 24 (brow gx) (0, 0) _ ?_ Tryd.underlying24 rfl (rinfo hgx) ?_; · rfl
               · exact (unhide HR6).1)
            | (refine wpList_load_row_g (by rfl) 24 (.tmp 10) rfl (w2.heap.size + 1) ?_ 24 (brow gy) (0, 0) _ ?_ Tryd.underlying24 rfl (rinfo hgy) ?_; · rfl
               · exact (unhide HR6).2.1))
          go_ret
          refine ⟨?_, (unhide HR6).2.2⟩
          rw [unhide HPR]
          simp [h0x, h0y]
        · go_wp2_with fail
          go_ret
          refine ⟨?_, (unhide HR6).2.2⟩
          rw [unhide HPR]
          simp [h0x, h0y]
      · go_wp2_with fail
        go_ret
        refine ⟨?_, (unhide HR6).2.2⟩
        rw [unhide HPR]
        simp [h0x]
    · have hX0 : X = [] := List.eq_nil_of_length_eq_zero (by omega)
      have hY0 : Y = [] := List.eq_nil_of_length_eq_zero (by omega)
      have hzx : gx = zeros := by rw [(unhide HG).1, hX0]; rfl
      have hzy : gy = zeros := by rw [(unhide HG).2, hY0]; rfl
      have HR4 := hide (show ((w2.alloc (.cells (brow zeros) 24)).alloc (.cells (brow zeros) 24)).heap[w2.heap.size]? = some (.cells (brow gx) 24 (0, 0)) ∧ ((w2.alloc (.cells (brow zeros) 24)).alloc (.cells (brow zeros) 24)).heap[w2.heap.size + 1]? = some (.cells (brow gy) 24 (0, 0)) ∧ Kept w.heap.size w ((w2.alloc (.cells (brow zeros) 24)).alloc (.cells (brow zeros) 24)) from
        ⟨by rw [hzx]; exact (Below.heap_alloc _ _ _ (by simp)).trans (heap_alloc_new _ _), by rw [hzy]; have := heap_alloc_new (w2.alloc (.cells (brow zeros) 24)) (.cells (brow zeros) 24); simpa using this, ((unhide HK2).alloc (unhide HK2).size _).alloc (by have := (unhide HK2).size; simp; omega) _⟩)
      have hng : ¬ (0 : Int) < (Y.length : Int) := by omega
      have hng2 : ¬ 0 < Y.length := by omega
      clear hX0 hY0 hzx hzy h0
      go_wp2_with (refine wpList_load_row rfl 24 (.tmp 9) rfl w2.heap.size ?_ 24 (brow gx) (0, 0) _ ?_ Tryd.underlying24 rfl (rinfo hgx) ?_; · rfl
                   · exact (unhide HR4).1)
      refine (verify_ref a (Y.length : Int) gx _ hsa hgx).mono ?_
      rintro _ w5 ⟨rfl, hk5⟩
      have HR5 := hide (show w5.heap[w2.heap.size]? = some (.cells (brow gx) 24 (0, 0)) ∧ w5.heap[w2.heap.size + 1]? = some (.cells (brow gy) 24 (0, 0)) ∧ Kept w.heap.size w w5 from ⟨(hk5.block _ (Array.getElem?_eq_some_iff.1 (unhide HR4).1).1).trans (unhide HR4).1, (hk5.block _ (Array.getElem?_eq_some_iff.1 (unhide HR4).2.1).1).trans (unhide HR4).2.1, (unhide HR4).2.2.trans (hk5.mono (unhide HR4).2.2.size)⟩)
      clear hk5
      rw [unhide HVX2]
      go_wp2_with (refine wpList_load_row rfl 24 (.tmp 10) rfl (w2.heap.size + 1) ?_ 24 (brow gy) (0, 0) _ ?_ Tryd.underlying24 rfl (rinfo hgy) ?_; · rfl
                   · exact (unhide HR5).2.1)
      refine (verify_ref b (Y.length : Int) gy w5 hsb hgy).mono ?_
      rintro _ w6 ⟨rfl, hk6⟩
      have HR6 := hide (show w6.heap[w2.heap.size]? = some (.cells (brow gx) 24 (0, 0)) ∧ w6.heap[w2.heap.size + 1]? = some (.cells (brow gy) 24 (0, 0)) ∧ Kept w.heap.size w w6 from ⟨(hk6.block _ (Array.getElem?_eq_some_iff.1 (unhide HR5).1).1).trans (unhide HR5).1, (hk6.block _ (Array.getElem?_eq_some_iff.1 (unhide HR5).2.1).1).trans (unhide HR5).2.1, (unhide HR5).2.2.trans (hk6.mono (unhide HR5).2.2.size)⟩)
      clear hk6
      rw [unhide HVY]
      by_cases h0x : ex = 0
      · by_cases h0y : ey = 0
        · go_wp2_with (first
            | (refine wpList_load_row_g (by rfl) 24 (.tmp 9) rfl w2.heap.size ?_ 24 (brow gx) (0, 0) _ ?_ Tryd.underlying24 rfl (rinfo hgx) ?_; · rfl
               · exact (unhide HR6).1)
            | (refine wpList_load_row_g (by rfl) 24 (.tmp 10) rfl (w2.heap.size + 1) ?_ 24 (brow gy) (0, 0) _ ?_ Tryd.underlying24 rfl (rinfo hgy) ?_; · rfl
               · exact (unhide HR6).2.1))
          go_ret
          refine ⟨?_, (unhide HR6).2.2⟩
          rw [unhide HPR]
          simp [h0x, h0y]
        · go_wp2_with fail
          go_ret
          refine ⟨?_, (unhide HR6).2.2⟩
          rw [unhide HPR]
          simp [h0x, h0y]
      · go_wp2_with fail
        go_ret
        refine ⟨?_, (unhide HR6).2.2⟩
        rw [unhide HPR]
        simp [h0x]
  · have HF := hide (show pairOf a b = false by
      rw [unhide HPR]
      cases ax <;> cases ay <;> simp_all)
    cases ax
    · go_wp2_with fail
      go_ret
      exact ⟨by rw [unhide HF]; rfl, unhide HK2⟩
    · cases ay
      · go_wp2_with fail
        go_ret
        exact ⟨by rw [unhide HF]; rfl, unhide HK2⟩
      · by_cases hlen : X.length = Y.length
        · have hab : a = b := Classical.byContradiction fun h => hok ⟨rfl, rfl, hlen, h⟩
          have hlenI : (X.length : Int) = (Y.length : Int) := by omega
          have habL : (a.toList == b.toList) = true := by rw [hab]; simp
          clear hok
          go_wp2_with fail
          go_ret
          exact ⟨by rw [unhide HF]; rfl, unhide HK2⟩
        · have hlenI : ¬ (X.length : Int) = (Y.length : Int) := by omega
          clear hok
          go_wp2_with fail
          go_ret
          exact ⟨by rw [unhide HF]; rfl, unhide HK2⟩

end Go.Proofs.YtfodibjlldmnpaaDoor
/-
  What Clash tells, against the reference's Pair.
-/
namespace Go.Proofs.YtfodibjlldmnpaaDoor
open Go.RowKit

theorem walk_ok (s : ByteArray) : (walkF s []).2 = 0 ↔ loose (ents s 0).1 0 = none ∧ (ents s 0).2 = true := by
  rw [walk_all, walkR]
  cases h : loose (ents s 0).1 0 with
  | some k => simp
  | none => cases h2 : (ents s 0).2 <;> simp
theorem walk_list {s : ByteArray} (h : (walkF s []).2 = 0) : (walkF s []).1 = (ents s 0).1 := by
  have h1 := ((walk_ok s).1 h).1
  rw [walk_all, walkR, h1]
theorem vfy_ok (E : List ByteArray) (all : Bool) : (vfyOf E all E.length (hashAt E E.length)).1 = 0 ↔ loose E 0 = none ∧ all = true := by
  cases h : loose E 0 with
  | some k => rw [vfy_loose h]; simp
  | none => rw [vfy_none h]; cases all <;> simp
theorem pair_iff (a b : ByteArray) : pairOf a b = true ↔ a ≠ b ∧ (walkF a []).2 = 0 ∧ (walkF b []).2 = 0 ∧ (ents a 0).1.length = (ents b 0).1.length ∧ hashAt (ents a 0).1 (ents a 0).1.length = hashAt (ents b 0).1 (ents b 0).1.length := by
  simp only [pairOf, Bool.and_eq_true, decide_eq_true_eq, vfy_ok, walk_ok, beq_iff_eq]
  constructor
  · rintro ⟨h1, h2, h3, h4, h5, h6, h7⟩
    exact ⟨h4, h5, h6, h3, h7⟩
  · rintro ⟨h1, h2, h3, h4, h5⟩
    exact ⟨h2.2, h3.2, h4, h1, h2, h3, h5⟩
theorem clash_yes {a b : ByteArray} (h : pairOf a b = true) : (clOf a b).2.2 = 0 ∧ (clOf a b).1 ≠ (clOf a b).2.1 ∧ Sha.digest (clOf a b).1.data.toList = Sha.digest (clOf a b).2.1.data.toList := by
  obtain ⟨h1, h2, h3, h4, h5⟩ := (pair_iff a b).1 h
  have hla := (walk_ok a).1 h2
  have hlb := (walk_ok b).1 h3
  rw [clOf, walk_list h2, walk_list h3, if_pos ⟨h2, h3, h4, h5⟩, clashF]
  cases hd : lastDiff (ents a 0).1 (ents b 0).1 (ents a 0).1.length with
  | some i =>
    have := clash_pair hla.1 hlb.1 h4 h5 hd
    exact ⟨rfl, this.1, this.2⟩
  | none =>
    refine absurd (same_log hla.2 hlb.2 ?_) h1
    refine List.ext_getElem h4 fun j hj hj' => ?_
    have := lastDiff_none hd j hj
    rwa [List.getD_eq_getElem?_getD, List.getD_eq_getElem?_getD, List.getElem?_eq_getElem hj, List.getElem?_eq_getElem hj'] at this
theorem lastDiff_same (X : List ByteArray) : ∀ n, lastDiff X X n = none
  | 0 => rfl
  | n + 1 => by rw [lastDiff, if_pos rfl]; exact lastDiff_same X n
theorem clash_no {a b : ByteArray} (h : pairOf a b = false) : clOf a b = (ByteArray.empty, ByteArray.empty, 8) := by
  rw [clOf]
  split
  · rename_i hc
    obtain ⟨h2, h3, h4, h5⟩ := hc
    rw [walk_list h2, walk_list h3] at h4 h5 ⊢
    by_cases hab : a = b
    · subst hab
      rw [clashF, lastDiff_same]
    · have := (pair_iff a b).2 ⟨hab, h2, h3, h4, h5⟩
      rw [h] at this
      cases this
  · rfl
end Go.Proofs.YtfodibjlldmnpaaDoor
