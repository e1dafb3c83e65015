/-
  Centry, Lent2, Cframe, Cread, joined.
-/
import Derived.Test.YtfodibjlldmnpaaDoorJCname
import Derived.Test.YtfodibjlldmnpaaDoorJLnum
import Derived.Test.YtfodibjlldmnpaaDoorJPcall
import Derived.Defers
import Derived.Recover
/-
  The code's readEntry.
-/
namespace Go.Proofs.YtfodibjlldmnpaaDoor
open Go.RowKit

/-- What is left of an entry from j on. -/
abbrev lf (e : ByteArray) (j : Nat) : ByteArray := e.extract j e.size
theorem lf_size (e : ByteArray) (j : Nat) : (lf e j).size = e.size - j := by rw [ByteArray.size_extract]; omega
theorem lf_zero (e : ByteArray) : lf e 0 = e := ByteArray.extract_zero_size
theorem lf_next (e : ByteArray) (j k : Nat) : (lf e j).extract k (lf e j).size = lf e (j + k) := by
  apply Go.WideShapes.bytes_inj
  rw [lf_size, ext_list, ext_list, ext_list, List.drop_take, List.drop_drop, List.take_take]
  congr 1
  omega
theorem lf_at (e : ByteArray) {j : Nat} (h : j < e.size) : Sha.at8 (lf e j).data.toList 0 = Sha.at8 e.data.toList j := by
  rw [ext_list, Sha.at8, Sha.at8, List.getD_eq_getElem?_getD, List.getD_eq_getElem?_getD, List.getElem?_take, if_pos (by omega), List.getElem?_drop, Nat.add_zero]
theorem lf_cut (e : ByteArray) {j a b : Nat} (h : j + b ≤ e.size) : (lf e j).extract a b = e.extract (j + a) (j + b) := by
  apply Go.WideShapes.bytes_inj
  rw [ext_list, ext_list, ext_list, List.drop_take, List.drop_drop, List.take_take]
  congr 1
  omega
theorem lf_num (e : ByteArray) {j k : Nat} (h : j + k ≤ e.size) : (lf e j).data.toList.take k = (e.extract j (j + k)).data.toList := by
  rw [ext_list, ext_list, List.take_take]
  congr 1
  omega

/-- What binds an entry, as cells. -/
def linkOf (D : List UInt8) (p : Nat) : Array Value := (blist D ++ [Value.int .u64 (p : Int)]).toArray
abbrev link0 : Array Value := (blist (List.replicate 32 0) ++ [Value.int .u64 0]).toArray
theorem linkOf_size {D : List UInt8} (h : D.length = 32) (p : Nat) : (linkOf D p).size = 33 := by simp [linkOf, h]
theorem info140 : (Tryd.prog.info? 140).map (·.size) = some 33 := by kernel_rfl
theorem linkOf_one (D : List UInt8) (p : Nat) : (linkOf D p).all (·.oneCell') = true := by
  refine all_oneCell_toArray ?_
  intro v hv
  rcases List.mem_append.1 hv with h | h
  · exact blist_one D v h
  · rw [List.mem_singleton.1 h]; rfl

theorem fold33 {D : List UInt8} (h : D.length = 32) (p : Nat) : (Array.foldl (fun cs (x : Value × Nat) => cs.setIfInBounds x.snd x.fst) #[Value.int IntKind.u8 0, Value.int IntKind.u8 0, Value.int IntKind.u8 0, Value.int IntKind.u8 0, Value.int IntKind.u8 0, Value.int IntKind.u8 0, Value.int IntKind.u8 0, Value.int IntKind.u8 0, Value.int IntKind.u8 0, Value.int IntKind.u8 0, Value.int IntKind.u8 0, Value.int IntKind.u8 0, Value.int IntKind.u8 0, Value.int IntKind.u8 0, Value.int IntKind.u8 0, Value.int IntKind.u8 0, Value.int IntKind.u8 0, Value.int IntKind.u8 0, Value.int IntKind.u8 0, Value.int IntKind.u8 0, Value.int IntKind.u8 0, Value.int IntKind.u8 0, Value.int IntKind.u8 0, Value.int IntKind.u8 0, Value.int IntKind.u8 0, Value.int IntKind.u8 0, Value.int IntKind.u8 0, Value.int IntKind.u8 0, Value.int IntKind.u8 0, Value.int IntKind.u8 0, Value.int IntKind.u8 0, Value.int IntKind.u8 0, Value.int IntKind.u64 0] (brow D).zipIdx 0 32).setIfInBounds 32 (Value.int IntKind.u64 (p : Int)) = linkOf D p := by
  have h2 : (brow D).zipIdx.size = 32 := by rw [Array.size_zipIdx, brow_size, h]
  have h3 : (brow D).zipIdx.toList = (blist D).zipIdx 0 := by rw [Array.toList_zipIdx]; rfl
  have hf := fold_off 0 (blist D) 0 #[Value.int IntKind.u8 0, Value.int IntKind.u8 0, Value.int IntKind.u8 0, Value.int IntKind.u8 0, Value.int IntKind.u8 0, Value.int IntKind.u8 0, Value.int IntKind.u8 0, Value.int IntKind.u8 0, Value.int IntKind.u8 0, Value.int IntKind.u8 0, Value.int IntKind.u8 0, Value.int IntKind.u8 0, Value.int IntKind.u8 0, Value.int IntKind.u8 0, Value.int IntKind.u8 0, Value.int IntKind.u8 0, Value.int IntKind.u8 0, Value.int IntKind.u8 0, Value.int IntKind.u8 0, Value.int IntKind.u8 0, Value.int IntKind.u8 0, Value.int IntKind.u8 0, Value.int IntKind.u8 0, Value.int IntKind.u8 0, Value.int IntKind.u8 0, Value.int IntKind.u8 0, Value.int IntKind.u8 0, Value.int IntKind.u8 0, Value.int IntKind.u8 0, Value.int IntKind.u8 0, Value.int IntKind.u8 0, Value.int IntKind.u8 0, Value.int IntKind.u64 0] (by simp [h])
  simp only [Nat.zero_add] at hf
  conv => lhs; rw [← h2]
  rw [← Array.foldl_toList, h3, hf]
  have hl : (blist D).length = 32 := by simp [h]
  rw [hl]
  apply Array.ext'
  simp only [linkOf, Array.toList_setIfInBounds, List.take_zero, List.nil_append, List.drop_succ_cons, List.drop_zero]
  rw [List.set_append_right _ _ (by omega), hl, h2]
  rfl
theorem fold33s {D : List UInt8} (h : D.length = 32) : (Array.foldl (fun cs (x : Value × Nat) => cs.setIfInBounds x.snd x.fst) #[Value.int IntKind.u8 0, Value.int IntKind.u8 0, Value.int IntKind.u8 0, Value.int IntKind.u8 0, Value.int IntKind.u8 0, Value.int IntKind.u8 0, Value.int IntKind.u8 0, Value.int IntKind.u8 0, Value.int IntKind.u8 0, Value.int IntKind.u8 0, Value.int IntKind.u8 0, Value.int IntKind.u8 0, Value.int IntKind.u8 0, Value.int IntKind.u8 0, Value.int IntKind.u8 0, Value.int IntKind.u8 0, Value.int IntKind.u8 0, Value.int IntKind.u8 0, Value.int IntKind.u8 0, Value.int IntKind.u8 0, Value.int IntKind.u8 0, Value.int IntKind.u8 0, Value.int IntKind.u8 0, Value.int IntKind.u8 0, Value.int IntKind.u8 0, Value.int IntKind.u8 0, Value.int IntKind.u8 0, Value.int IntKind.u8 0, Value.int IntKind.u8 0, Value.int IntKind.u8 0, Value.int IntKind.u8 0, Value.int IntKind.u8 0, Value.int IntKind.u64 0] (brow D).zipIdx 0 32).size = 33 := by
  have h2 : (brow D).zipIdx.size = 32 := by rw [Array.size_zipIdx, brow_size, h]
  have h3 : (brow D).zipIdx.toList = (blist D).zipIdx 0 := by rw [Array.toList_zipIdx]; rfl
  have hf := fold_off 0 (blist D) 0 #[Value.int IntKind.u8 0, Value.int IntKind.u8 0, Value.int IntKind.u8 0, Value.int IntKind.u8 0, Value.int IntKind.u8 0, Value.int IntKind.u8 0, Value.int IntKind.u8 0, Value.int IntKind.u8 0, Value.int IntKind.u8 0, Value.int IntKind.u8 0, Value.int IntKind.u8 0, Value.int IntKind.u8 0, Value.int IntKind.u8 0, Value.int IntKind.u8 0, Value.int IntKind.u8 0, Value.int IntKind.u8 0, Value.int IntKind.u8 0, Value.int IntKind.u8 0, Value.int IntKind.u8 0, Value.int IntKind.u8 0, Value.int IntKind.u8 0, Value.int IntKind.u8 0, Value.int IntKind.u8 0, Value.int IntKind.u8 0, Value.int IntKind.u8 0, Value.int IntKind.u8 0, Value.int IntKind.u8 0, Value.int IntKind.u8 0, Value.int IntKind.u8 0, Value.int IntKind.u8 0, Value.int IntKind.u8 0, Value.int IntKind.u8 0, Value.int IntKind.u64 0] (by simp [h])
  simp only [Nat.zero_add] at hf
  conv => lhs; rw [← h2]
  rw [← Array.foldl_toList, h3, hf]
  simp [h]
/-- Where readEntry stands. -/
structure Re (w : World) (e : ByteArray) (j : Nat) (wx : World) : Prop where
  rd : Rd wx (w.heap.size + 1) (lf e j)
  a : wx.heap[w.heap.size]? = some (.cells link0 140 (0, 0))
  kept : Kept w.heap.size w wx
theorem Re.next {w : World} {e : ByteArray} {j j' : Nat} {wx wy : World} (h : Re w e j wx) (hr : Rd wy (w.heap.size + 1) (lf e j')) (ho : Other (w.heap.size + 1) wx wy) : Re w e j' wy :=
  ⟨hr, (ho.block _ (Array.getElem?_eq_some_iff.1 h.a).1 (by omega)).trans h.a, h.kept.trans ⟨ho.os, ho.output, ho.size, fun k hk => ho.block k (Nat.lt_of_lt_of_le hk h.kept.size) (by omega)⟩⟩
theorem Re.out {w : World} {e : ByteArray} {j : Nat} {wx wy : World} (h : Re w e j wx) (ho : Other (w.heap.size + 1) wx wy) : Kept w.heap.size w wy :=
  h.kept.trans ⟨ho.os, ho.output, ho.size, fun k hk => ho.block k (Nat.lt_of_lt_of_le hk h.kept.size) (by omega)⟩
/-- What readEntry's end says. -/
def entEnd (e : ByteArray) (w : World) (x : Ending) (w' : World) : Prop :=
  (fitsB e = true → x = .returned (.agg (linkOf (e.data.toList.take 32) (numOf (e.extract 32 36).data.toList)))) ∧ (fitsB e = false → x = .panicked oops) ∧ Kept w.heap.size w w'
theorem ent_no {e : ByteArray} {w w' : World} (hf : fitsB e = false) (hk : Kept w.heap.size w w') : entEnd e w (.panicked oops) w' := ⟨fun h => absurd (hf.symm.trans h) (by simp), fun _ => rfl, hk⟩
theorem fits_no {e : ByteArray} {k : Nat} (hk : k = (e.data.toList.getD 69 0).toNat) (h : e.size < 70 ∨ e.size ≠ 135 + k) : fitsB e = false := by
  rw [fitsB, ← hk]
  rcases h with h | h
  · rw [decide_eq_false (show ¬ 70 ≤ e.size by omega)]; rfl
  · rw [decide_eq_false h]; simp

set_option maxRecDepth 100000 in
set_option maxHeartbeats 4000000 in
theorem readEntry_go (e : ByteArray) (w : World) (hs : e.size ≤ 140737488355328) : Calls Tryd.prog 116 #[.string e] w (entEnd e w) := by
  obtain ⟨k, hk⟩ : ∃ k, k = (e.data.toList.getD 69 0).toNat := ⟨_, rfl⟩
  have hk2 : k < 256 := by rw [hk]; exact (e.data.toList.getD 69 0).toNat_lt
  have HNO := hide (fun (h : e.size < 70 ∨ e.size ≠ 135 + k) => fits_no hk h)
  have HK := hide hk
  clear hk
  go_enter Tryd.func116, Tryd.ntmps116
  go_wp2_with fail
  refine (new_go e _).mono ?_
  rintro _ w0 ⟨rfl, rfl⟩
  have HE0 := hide (show Re w e 0 ((w.alloc (.cells link0 140)).alloc (.cells #[.string e] 155)) from ⟨by
      have := heap_alloc_new (w.alloc (.cells link0 140)) (.cells #[.string e] 155)
      rw [lf_zero]
      unfold Rd
      simpa using this, (Below.heap_alloc _ _ _ (by simp)).trans (heap_alloc_new _ _), ((Kept.refl _ _).alloc (Nat.le_refl _) _).alloc (by simp) _⟩)
  go_wp2_with fail
  by_cases hc1 : e.size < 32
  · have hf := unhide HNO (Or.inl (by omega))
    refine (hash_no (w.heap.size + 1) (lf e 0) _ (unhide HE0).rd (by have := lf_size e 0; omega)).mono ?_
    rintro _ wz ⟨rfl, hoz⟩
    have HOZ := hide (ent_no hf ((unhide HE0).out hoz))
    clear hoz
    go_wp2_with fail
    exact ⟨rfl, unhide HOZ⟩
  refine (hash_yes (w.heap.size + 1) (lf e 0) _ (unhide HE0).rd (by have := lf_size e 0; omega) (by have := lf_size e 0; omega)).mono ?_
  rintro _ w1 ⟨rfl, hr1, ho1⟩
  rw [lf_next] at hr1
  rw [show (lf e 0).data.toList.take 32 = e.data.toList.take 32 by rw [lf_zero]]
  obtain ⟨D, hD⟩ : ∃ D, D = e.data.toList.take 32 := ⟨_, rfl⟩
  have hDl : D.length = 32 := by have := size_toList e; rw [hD, List.length_take]; omega
  rw [← hD]
  have HD := hide hD
  have HE1 := hide (show Re w e 32 w1 from (unhide HE0).next hr1 ho1)
  clear hr1 ho1 hD
  go_wp2_with (refine wpList_store_put rfl 24 (.tmp 4) (.tmp 10) rfl w1.heap.size (brow D) ?_ ?_ 24 (brow zerosC) ?_ (rinfo hDl) ?_ (brow_one _) ?_
               · rfl
               · rfl
               · exact heap_alloc_new _ _
               · rw [brow_size, brow_size, hDl]; rfl
               intro w2 hp2)
  have hz1 := (Array.getElem?_eq_some_iff.1 (unhide HE1).rd).1
  have HO2 := hide (show Other (w.heap.size + 1) w1 w2 from ⟨hp2.os, hp2.output, by rw [hp2.size]; simp, fun k hk _ => (hp2.other k (by omega)).trans (Below.heap_alloc _ _ _ hk)⟩)
  have HE2 := hide (show Re w e 32 w2 from (unhide HE1).next ((hp2.other _ (by omega)).trans ((Below.heap_alloc _ _ _ hz1).trans (unhide HE1).rd)) (unhide HO2))
  have HT2 := hide (And.intro hp2.row (show w.heap.size + 1 < w1.heap.size from hz1))
  clear hp2 hz1
  by_cases hc3 : e.size < 36
  · have hf := unhide HNO (Or.inl (by omega))
    refine (number_no (w.heap.size + 1) 4 (lf e 32) w2 (unhide HE2).rd (by have := lf_size e 32; omega) (by omega)).mono ?_
    rintro _ wz ⟨rfl, hoz⟩
    have HOZ := hide (ent_no hf ((unhide HE2).out hoz))
    clear hoz
    go_wp2_with fail
    exact ⟨rfl, unhide HOZ⟩
  refine (number_yes (w.heap.size + 1) 4 (lf e 32) w2 (unhide HE2).rd (by have := lf_size e 32; omega) (by omega) (by have := lf_size e 32; omega)).mono ?_
  rintro _ w3 ⟨rfl, hr3, ho3⟩
  rw [lf_next] at hr3
  obtain ⟨pl, hpl⟩ : ∃ pl, pl = numOf (e.extract 32 36).data.toList := ⟨_, rfl⟩
  rw [show numOf ((lf e 32).data.toList.take 4) = pl by rw [lf_num e (by omega), hpl]]
  have HPL := hide hpl
  have HE3 := hide (show Re w e 36 w3 from (unhide HE2).next hr3 ho3)
  clear hpl
  have HT3 := hide (And.intro ((ho3.block _ (Array.getElem?_eq_some_iff.1 (unhide HT2).1).1 (by have := (unhide HT2).2; omega)).trans (unhide HT2).1) (unhide HT2).2)
  clear hr3 ho3
  go_wp2_with fail
  by_cases hc4 : e.size < 37
  · have hf := unhide HNO (Or.inl (by omega))
    refine (byte_no (w.heap.size + 1) (lf e 36) w3 (unhide HE3).rd (by have := lf_size e 36; omega)).mono ?_
    rintro _ wz ⟨rfl, hoz⟩
    have HOZ := hide (ent_no hf ((unhide HE3).out hoz))
    clear hoz
    go_wp2_with fail
    exact ⟨rfl, unhide HOZ⟩
  refine (byte_yes (w.heap.size + 1) (lf e 36) w3 (unhide HE3).rd (by have := lf_size e 36; omega) (by have := lf_size e 36; omega)).mono ?_
  rintro _ w4 ⟨rfl, hr4, ho4⟩
  rw [lf_next] at hr4
  obtain ⟨op, hop⟩ : ∃ op, op = Sha.at8 e.data.toList 36 := ⟨_, rfl⟩
  rw [lf_at e (by omega), ← hop]
  have HOP := hide hop
  have HE4 := hide (show Re w e 37 w4 from (unhide HE3).next hr4 ho4)
  clear hop
  have HT4 := hide (And.intro ((ho4.block _ (Array.getElem?_eq_some_iff.1 (unhide HT3).1).1 (by have := (unhide HT3).2; omega)).trans (unhide HT3).1) (unhide HT3).2)
  clear hr4 ho4
  go_wp2_with fail
  by_cases hc5 : e.size < 69
  · have hf := unhide HNO (Or.inl (by omega))
    refine (hash_no (w.heap.size + 1) (lf e 37) w4 (unhide HE4).rd (by have := lf_size e 37; omega)).mono ?_
    rintro _ wz ⟨rfl, hoz⟩
    have HOZ := hide (ent_no hf ((unhide HE4).out hoz))
    clear hoz
    go_wp2_with fail
    exact ⟨rfl, unhide HOZ⟩
  refine (hash_yes (w.heap.size + 1) (lf e 37) w4 (unhide HE4).rd (by have := lf_size e 37; omega) (by have := lf_size e 37; omega)).mono ?_
  rintro _ w5 ⟨rfl, hr5, ho5⟩
  rw [lf_next] at hr5
  have HE5 := hide (show Re w e 69 w5 from (unhide HE4).next hr5 ho5)
  have HT5 := hide (And.intro ((ho5.block _ (Array.getElem?_eq_some_iff.1 (unhide HT4).1).1 (by have := (unhide HT4).2; omega)).trans (unhide HT4).1) (unhide HT4).2)
  clear hr5 ho5
  go_wp2_with fail
  have hk69 : (lf e 69).size ≠ 0 → ((lf e 69).data.toList.getD 0 0).toNat = k := fun h => by
    have h1 := lf_at e (j := 69) (by have := lf_size e 69; omega)
    unfold Sha.at8 at h1
    have := unhide HK
    omega
  have htn : e.size < 70 + k → (lf e 69).size = 0 ∨ (lf e 69).size < 1 + ((lf e 69).data.toList.getD 0 0).toNat := fun h => by
    by_cases h0 : (lf e 69).size = 0
    · exact Or.inl h0
    · right
      rw [hk69 h0]
      have := lf_size e 69
      omega
  by_cases hc6 : e.size < 70 + k
  · have hf := unhide HNO (by omega)
    refine (text_no (w.heap.size + 1) (lf e 69) w5 (unhide HE5).rd (htn hc6) (by have := lf_size e 69; omega)).mono ?_
    rintro _ wz ⟨rfl, hoz⟩
    have HOZ := hide (ent_no hf ((unhide HE5).out hoz))
    clear hoz
    go_wp2_with fail
    exact ⟨rfl, unhide HOZ⟩
  refine (text_yes (w.heap.size + 1) k (lf e 69) w5 (unhide HE5).rd (by rw [lf_at e (by omega)]; unfold Sha.at8; rw [← unhide HK]) (by have := lf_size e 69; omega) (by have := lf_size e 69; omega)).mono ?_
  rintro _ w6 ⟨rfl, hr6, ho6⟩
  rw [lf_next] at hr6
  rw [lf_cut e (by omega)]
  obtain ⟨pa, hpa⟩ : ∃ pa, pa = e.extract (69 + 1) (69 + (1 + k)) := ⟨_, rfl⟩
  have hps : pa.size = k := by rw [hpa, ByteArray.size_extract]; omega
  rw [← hpa]
  have HPA := hide hpa
  have HE6 := hide (show Re w e (70 + k) w6 from (unhide HE5).next (by rw [show 70 + k = 69 + (1 + k) by omega]; exact hr6) ho6)
  clear hpa hk69 htn
  have HT6 := hide (And.intro ((ho6.block _ (Array.getElem?_eq_some_iff.1 (unhide HT5).1).1 (by have := (unhide HT5).2; omega)).trans (unhide HT5).1) (unhide HT5).2)
  clear hr6 ho6
  go_wp2_with fail
  refine (pathFits_go op pa w6 (by omega)).mono ?_
  rintro _ w7 ⟨rfl, rfl⟩
  obtain ⟨fp, hfp⟩ : ∃ fp, fp = fitP op pa := ⟨_, rfl⟩
  rw [← hfp]
  obtain ⟨b, hb⟩ : ∃ b, b = Sha.at8 e.data.toList (102 + k) := ⟨_, rfl⟩
  have HFIT := hide (show e.size = 135 + k → fitsB e = (fp && decide (b ≤ 7)) from fun h => by
    rw [fitsB, ← unhide HK, ← unhide HOP, show Sha.at8 e.data.toList 69 = (k : Int) by rw [Sha.at8, ← unhide HK], ← hb, decide_eq_true (show 70 ≤ e.size by omega), decide_eq_true h, Bool.true_and, Bool.true_and, hfp, fitP, hps]
    rw [unhide HPA, show 69 + 1 = 70 from rfl, show 69 + (1 + k) = 70 + k by omega])
  have HB := hide hb
  clear hfp hb
  cases fp
  · have hf : fitsB e = false := by
      by_cases h : e.size = 135 + k
      · rw [unhide HFIT h]; rfl
      · exact unhide HNO (Or.inr h)
    have HOZ := hide (ent_no hf (unhide HE6).kept)
    go_wp2_with fail
    refine (want_no w7).mono ?_
    rintro _ wz ⟨rfl, rfl⟩
    go_wp2_with fail
    exact ⟨rfl, unhide HOZ⟩
  go_wp2_with fail
  refine (want_yes w7).mono ?_
  rintro _ w8 ⟨rfl, rfl⟩
  go_wp2_with fail
  by_cases hc9 : e.size < 102 + k
  · have hf := unhide HNO (Or.inr (by omega))
    refine (hash_no (w.heap.size + 1) (lf e (70 + k)) w8 (unhide HE6).rd (by have := lf_size e (70 + k); omega)).mono ?_
    rintro _ wz ⟨rfl, hoz⟩
    have HOZ := hide (ent_no hf ((unhide HE6).out hoz))
    clear hoz
    go_wp2_with fail
    exact ⟨rfl, unhide HOZ⟩
  refine (hash_yes (w.heap.size + 1) (lf e (70 + k)) w8 (unhide HE6).rd (by have := lf_size e (70 + k); omega) (by have := lf_size e (70 + k); omega)).mono ?_
  rintro _ w9 ⟨rfl, hr9, ho9⟩
  rw [lf_next] at hr9
  have HE9 := hide (show Re w e (102 + k) w9 from (unhide HE6).next (by rw [show 102 + k = 70 + k + 32 by omega]; exact hr9) ho9)
  have HT9 := hide (And.intro ((ho9.block _ (Array.getElem?_eq_some_iff.1 (unhide HT6).1).1 (by have := (unhide HT6).2; omega)).trans (unhide HT6).1) (unhide HT6).2)
  clear hr9 ho9
  go_wp2_with fail
  by_cases hc10 : e.size < 103 + k
  · have hf := unhide HNO (Or.inr (by omega))
    refine (byte_no (w.heap.size + 1) (lf e (102 + k)) w9 (unhide HE9).rd (by have := lf_size e (102 + k); omega)).mono ?_
    rintro _ wz ⟨rfl, hoz⟩
    have HOZ := hide (ent_no hf ((unhide HE9).out hoz))
    clear hoz
    go_wp2_with fail
    exact ⟨rfl, unhide HOZ⟩
  refine (byte_yes (w.heap.size + 1) (lf e (102 + k)) w9 (unhide HE9).rd (by have := lf_size e (102 + k); omega) (by have := lf_size e (102 + k); omega)).mono ?_
  rintro _ w10 ⟨rfl, hr10, ho10⟩
  rw [lf_next] at hr10
  rw [lf_at e (by omega), ← unhide HB]
  have HE10 := hide (show Re w e (103 + k) w10 from (unhide HE9).next (by rw [show 103 + k = 102 + k + 1 by omega]; exact hr10) ho10)
  have HT10 := hide (And.intro ((ho10.block _ (Array.getElem?_eq_some_iff.1 (unhide HT9).1).1 (by have := (unhide HT9).2; omega)).trans (unhide HT9).1) (unhide HT9).2)
  clear hr10 ho10
  by_cases hb7 : b ≤ 7
  case neg =>
    have hf : fitsB e = false := by
      by_cases h : e.size = 135 + k
      · rw [unhide HFIT h, decide_eq_false hb7]; rfl
      · exact unhide HNO (Or.inr h)
    have HOZ := hide (ent_no hf (unhide HE10).kept)
    go_wp2_with fail
    rw [show decide (b ≤ 7) = false from decide_eq_false (by omega)]
    refine (want_no w10).mono ?_
    rintro _ wz ⟨rfl, rfl⟩
    go_wp2_with fail
    exact ⟨rfl, unhide HOZ⟩
  go_wp2_with fail
  refine (want_yes w10).mono ?_
  rintro _ w11 ⟨rfl, rfl⟩
  go_wp2_with fail
  by_cases hc12 : e.size < 135 + k
  · have hf := unhide HNO (Or.inr (by omega))
    refine (hash_no (w.heap.size + 1) (lf e (103 + k)) w11 (unhide HE10).rd (by have := lf_size e (103 + k); omega)).mono ?_
    rintro _ wz ⟨rfl, hoz⟩
    have HOZ := hide (ent_no hf ((unhide HE10).out hoz))
    clear hoz
    go_wp2_with fail
    exact ⟨rfl, unhide HOZ⟩
  refine (hash_yes (w.heap.size + 1) (lf e (103 + k)) w11 (unhide HE10).rd (by have := lf_size e (103 + k); omega) (by have := lf_size e (103 + k); omega)).mono ?_
  rintro _ w12 ⟨rfl, hr12, ho12⟩
  rw [lf_next] at hr12
  have HE12 := hide (show Re w e (135 + k) w12 from (unhide HE10).next (by rw [show 135 + k = 103 + k + 32 by omega]; exact hr12) ho12)
  have HT12 := hide (And.intro ((ho12.block _ (Array.getElem?_eq_some_iff.1 (unhide HT10).1).1 (by have := (unhide HT10).2; omega)).trans (unhide HT10).1) (unhide HT10).2)
  clear hr12 ho12
  go_wp2_with fail
  by_cases hsz : e.size = 135 + k
  case neg =>
    have HOZ := hide (ent_no (unhide HNO (Or.inr hsz)) (unhide HE12).kept)
    refine (end_no (w.heap.size + 1) (lf e (135 + k)) w12 (unhide HE12).rd (by have := lf_size e (135 + k); omega)).mono ?_
    rintro _ wz ⟨rfl, rfl⟩
    go_wp2_with fail
    exact ⟨rfl, unhide HOZ⟩
  refine (end_yes (w.heap.size + 1) (lf e (135 + k)) w12 (unhide HE12).rd (by have := lf_size e (135 + k); omega)).mono ?_
  rintro _ w13 ⟨rfl, rfl⟩
  have hft : fitsB e = true := by rw [unhide HFIT hsz, decide_eq_true hb7]; rfl
  have HFT := hide hft
  clear hft
  have hms : (brow D).size = 32 := by rw [brow_size, hDl]
  have hfo := fold33 hDl pl
  have hfs := fold33s hDl
  have hli : (Tryd.prog.info? 140).map (·.size) = some (linkOf D pl).size := by rw [linkOf_size hDl]; exact info140
  have hlz : link0.size = (linkOf D pl).size := by rw [linkOf_size hDl]; rfl
  go_wp2_with (first
    | (refine wpList_load_row rfl 24 (.tmp 4) rfl w1.heap.size ?_ 24 (brow D) (0, 0) _ ?_ Tryd.underlying24 rfl (rinfo hDl) ?_; · rfl
       · exact (unhide HT12).1)
    | (refine wpList_store_put rfl 140 (.tmp 2) (.tmp 34) rfl w.heap.size (linkOf D pl) ?_ ?_ 140 link0 ?_ hli hlz (linkOf_one _ _) ?_
       · rfl
       · rfl
       · exact (unhide HE12).a
       intro w14 hp14))
  have hke := (unhide HE12).kept
  refine bodyPost_ret (v := .agg (linkOf D pl)) (results_cell_row Tryd.results116 _ _ w.heap.size 140 _ (0, 0) _ rfl hp14.row Tryd.underlying140 rfl hli) rfl ⟨fun _ => by rw [← unhide HD, ← unhide HPL], fun h => absurd ((unhide HFT).symm.trans h) (by simp), ?_⟩
  exact ⟨hp14.os.trans hke.os, hp14.output.trans hke.output, by rw [hp14.size]; exact hke.size, fun j hj => (hp14.other j (by omega)).trans (hke.block j hj)⟩

end Go.Proofs.YtfodibjlldmnpaaDoor
/-
  Logs, the reference: entries.
-/
namespace Go.Proofs.YtfodibjlldmnpaaDoor
open Go.RowKit

/-- How many bytes the frame that begins at o tells. -/
def sizeAt (log : ByteArray) (o : Nat) : Nat := numOf (log.extract o (o + 2)).data.toList
theorem sizeAt_lt (log : ByteArray) (o : Nat) : sizeAt log o < 65536 := by
  have h := numOf_lt (log.extract o (o + 2)).data.toList
  have hl : (log.extract o (o + 2)).data.toList.length ≤ 2 := by rw [size_toList, ByteArray.size_extract]; omega
  have : 256 ^ (log.extract o (o + 2)).data.toList.length ≤ 256 ^ 2 := Nat.pow_le_pow_right (by omega) hl
  unfold sizeAt
  omega
/-- The entry of the frame that begins at o. -/
def entAt (log : ByteArray) (o : Nat) : ByteArray := log.extract (o + 2) (o + 2 + sizeAt log o)
/-- The entries from o on, up to the first frame that is none; whether all are. -/
def ents (log : ByteArray) (o : Nat) : List ByteArray × Bool :=
  if _h : o < log.size then
    if log.size < o + 2 then ([], false)
    else if log.size < o + 2 + sizeAt log o then ([], false)
    else if fitsB (entAt log o) then (entAt log o :: (ents log (o + 2 + sizeAt log o)).1, (ents log (o + 2 + sizeAt log o)).2) else ([], false)
  else ([], true)
termination_by log.size - o
decreasing_by all_goals omega

theorem fitsB_size {e : ByteArray} (h : fitsB e = true) : 135 ≤ e.size := by
  simp only [fitsB, Bool.and_eq_true, decide_eq_true_eq] at h
  omega
theorem entAt_size {log : ByteArray} {o : Nat} (h : o + 2 + sizeAt log o ≤ log.size) : (entAt log o).size = sizeAt log o := by
  rw [entAt, ByteArray.size_extract]; omega
theorem ents_end {log : ByteArray} {o : Nat} (h : ¬ o < log.size) : ents log o = ([], true) := by rw [ents, dif_neg h]
theorem ents_short {log : ByteArray} {o : Nat} (h : o < log.size) (h2 : log.size < o + 2) : ents log o = ([], false) := by rw [ents, dif_pos h, if_pos h2]
theorem ents_long {log : ByteArray} {o : Nat} (h : o < log.size) (h2 : ¬ log.size < o + 2) (h3 : log.size < o + 2 + sizeAt log o) : ents log o = ([], false) := by rw [ents, dif_pos h, if_neg h2, if_pos h3]
theorem ents_bad {log : ByteArray} {o : Nat} (h : o < log.size) (h2 : ¬ log.size < o + 2) (h3 : ¬ log.size < o + 2 + sizeAt log o) (h4 : ¬ fitsB (entAt log o) = true) : ents log o = ([], false) := by rw [ents, dif_pos h, if_neg h2, if_neg h3, if_neg h4]
theorem ents_next {log : ByteArray} {o : Nat} (h : o < log.size) (h2 : ¬ log.size < o + 2) (h3 : ¬ log.size < o + 2 + sizeAt log o) (h4 : fitsB (entAt log o) = true) : ents log o = (entAt log o :: (ents log (o + 2 + sizeAt log o)).1, (ents log (o + 2 + sizeAt log o)).2) := by rw [ents, dif_pos h, if_neg h2, if_neg h3, if_pos h4]

set_option maxRecDepth 100000 in
set_option maxHeartbeats 2000000 in
theorem entries_ref (log : ByteArray) (w : World) (hs : log.size ≤ 140737488355328) :
    Calls Tryd.prog 59 #[.string log] w fun e w' => ∃ v, e = .returned (.tuple #[v, .bool (ents log 0).2]) ∧ w'.ownsRow w.heap.size 9 1 v (ents log 0).1.length ((ents log 0).1.map Value.string) ∧ Below w.heap.size w w' := by
  obtain ⟨i0, hi0, hz0, hz1, hz2⟩ := info_parts info9
  go_enter Tryd.func59, Tryd.ntmps59
  go_wp2_with fail
  go_loopw [4, 5] (fun vl vo wr => ∃ (o : Nat) (E : List ByteArray), o ≤ log.size ∧ 137 * E.length ≤ o ∧ vo = .int .i64 o ∧ wr.ownsRow w.heap.size 9 1 vl E.length (E.map Value.string) ∧ ents log 0 = (E ++ (ents log o).1, (ents log o).2) ∧ Below w.heap.size w wr) (fun _ vo _ => log.size - (intOf vo).toNat)
  case atStart => exact ⟨0, [], Nat.zero_le _, by simp, rfl, World.ownsRow_nil _ _ _ _, by simp, Below.refl _ _⟩
  case round =>
    obtain ⟨o, E, ho, hE, rfl, hown, hen, hb⟩ := hrel
    have HO := hide hown
    have HE := hide hen
    have HB := hide hb
    clear hown hen hb
    by_cases h1 : o < log.size
    · by_cases h2 : log.size < o + 2
      · have HX := hide (ents_short h1 h2)
        go_wp2_with fail
        go_ret2
        refine ⟨u4, ?_, ?_, unhide HB⟩
        · rw [unhide HE, unhide HX]; rfl
        · rw [unhide HE, unhide HX, List.append_nil]; exact unhide HO
      · obtain ⟨n, hn⟩ : ∃ n, n = sizeAt log o := ⟨_, rfl⟩
        have hn16 : n < 65536 := by rw [hn]; exact sizeAt_lt log o
        have HN := hide hn
        have hI1 : (o : Int) < (log.size : Int) := by omega
        have hI2 : (o : Int) ≤ (o : Int) + 2 := by omega
        have hI3 : (o : Int) + 2 ≤ (log.size : Int) := by omega
        have hT1 : ((o : Int) + 2).toNat = o + 2 := by omega
        have hex : (log.extract o (o + 2)).size ≤ 4 := by rw [ByteArray.size_extract]; omega
        go_wp2_with fail
        refine (number_ref (log.extract o (o + 2)) wr hex).mono ?_
        rintro _ w1 ⟨rfl, rfl⟩
        rw [show numOf (log.extract o (o + 2)).data.toList = n from (unhide HN).symm]
        by_cases h3 : log.size < o + 2 + n
        · have HX := hide (ents_long h1 h2 (by rw [← hn]; exact h3))
          clear hn
          go_wp2_with fail
          go_ret2
          refine ⟨u4, ?_, ?_, unhide HB⟩
          · rw [unhide HE, unhide HX]; rfl
          · rw [unhide HE, unhide HX, List.append_nil]; exact unhide HO
        · obtain ⟨x, hx⟩ : ∃ x, x = entAt log o := ⟨_, rfl⟩
          have hx2 : log.extract (o + 2) (o + 2 + n) = x := by rw [hx, entAt, hn]
          have hxs : x.size = n := by rw [hx, entAt_size (by omega), hn]
          have hI4 : (o : Int) + 2 ≤ (o : Int) + 2 + (n : Int) := by omega
          have hI5 : (o : Int) + 2 + (n : Int) ≤ (log.size : Int) := by omega
          have hT2 : ((o : Int) + 2 + (n : Int)).toNat = o + 2 + n := by omega
          have hf4 : (log.size < o + 2 + sizeAt log o) = (log.size < o + 2 + n) := by rw [hn]
          have H3 := hide (show ¬ log.size < o + 2 + sizeAt log o by rw [hf4]; exact h3)
          have HXX := hide hx
          clear hn hf4 hx
          go_wp2_with fail
          refine (fits_ref x w1 (by omega)).mono ?_
          rintro _ w2 ⟨rfl, rfl⟩
          by_cases hf : fitsB x = true
          · have HX := hide (ents_next h1 h2 (unhide H3) (by rw [← unhide HXX]; exact hf))
            have hx135 := fitsB_size hf
            rw [hf]
            clear hx2
            go_wp2_with (refine wpList_halt2 (.tmp 46) (.tmp 48) 30 rfl ?_)
            refine Stp.mk ?_
            refine wpList_append_own _ ?_ (.tmp 46) (.tmp 48) 30 ?_ w.heap.size 9 i0 (.string ByteArray.empty) 1 16 Tryd.underlying30 hi0 hz0 hz1 hz2 ?_ (by decide) u4 E.length (E.map Value.string) ?_ ?_ ⟨w2.heap.size, 0, none⟩ 1 1 [.string x] ?_ ?_ ?_ ?_ ?_ ?_ ?_ ?_
            · rfl
            · rfl
            · rfl
            · rfl
            · exact (unhide HO).alloc _
            · rfl
            · rfl
            · exact news_any rfl
            · simp [Value.oneCell']
            · unfold maxLen; omega
            · omega
            · have := (unhide HB).size; simp; omega
            intro v' w3 hown3 hgrow _
            have HO3 := hide hown3
            have HB3 := hide (own_grown ((unhide HB).alloc (unhide HB).size _) ((unhide HO).alloc _) hgrow (by have := (unhide HB).size; simp; omega))
            clear hown3 hgrow
            simp only [Act.put, List.setIfInBounds_toArray, List.set_cons_zero, List.set_cons_succ]
            go_wp2_with fail
            go_roundw
            case rel =>
              refine ⟨o + 2 + n, E ++ [x], by omega, by simp; omega, by go_num, ?_, ?_, unhide HB3⟩
              · have := unhide HO3
                simpa using this
              · rw [unhide HE, unhide HX, ← unhide HN, ← unhide HXX]
                simp
            case measure => simp [intOf]; omega
          · have HX := hide (ents_bad h1 h2 (unhide H3) (by rw [← unhide HXX]; exact hf))
            have hff : fitsB x = false := by simpa using hf
            rw [hff]
            clear hx2
            go_wp2_with fail
            go_ret2
            refine ⟨u4, ?_, ?_, unhide HB⟩
            · rw [unhide HE, unhide HX]; rfl
            · rw [unhide HE, unhide HX, List.append_nil]; exact unhide HO
    · obtain rfl : o = log.size := by omega
      have HX := hide (ents_end h1)
      go_wp2_with fail
      go_ret2
      refine ⟨u4, ?_, ?_, unhide HB⟩
      · rw [unhide HE, unhide HX]; rfl
      · rw [unhide HE, unhide HX, List.append_nil]; exact unhide HO

end Go.Proofs.YtfodibjlldmnpaaDoor
/-
  The code's readFrame: the deferred closure that recovers.
-/
namespace Go.Proofs.YtfodibjlldmnpaaDoor
open Go.RowKit

/-- The three results of readFrame, each in a block of its own. -/
structure Fr (B : Nat) (x : ByteArray) (cs : Array Value) (b : Bool) (w : World) : Prop where
  x : w.heap[B]? = some (.cells #[.string x] 9 (0, 0))
  l : w.heap[B + 1]? = some (.cells cs 140 (0, 0))
  b : w.heap[B + 2]? = some (.cells #[.bool b] 4 (0, 0))
theorem Fr.next {B : Nat} {x : ByteArray} {cs : Array Value} {b : Bool} {w w' : World} (h : Fr B x cs b w) (hk : ∀ k, k < w.heap.size → k < B + 3 → w'.heap[k]? = w.heap[k]?) : Fr B x cs b w' :=
  ⟨(hk _ (Array.getElem?_eq_some_iff.1 h.x).1 (by omega)).trans h.x, (hk _ (Array.getElem?_eq_some_iff.1 h.l).1 (by omega)).trans h.l, (hk _ (Array.getElem?_eq_some_iff.1 h.b).1 (by omega)).trans h.b⟩

theorem catch_idle (B : Nat) (w : World) :
    CallsD Tryd.prog 112 #[.pointer (some ⟨B, 0, none⟩), .pointer (some ⟨B + 1, 0, none⟩), .pointer (some ⟨B + 2, 0, none⟩)] .returning w fun e u' w' => e = .returned (.tuple #[]) ∧ u' = .returning ∧ w' = w := by
  refine callsD_of_wpS Tryd.func112 rfl fun c₀ cs hu => ?_
  apply wpS_seq
  apply wpS_region
  simp [wpOpsS, go_sem, recoverD, hu, Tryd.ntmps112, Exit.thenS]
  refine wpS_cond (t := false) (by simp [Act.eval, Array.replicate]) ?_
  simp only [Bool.false_eq_true, if_false]
  refine wpS_of_wp (wp_skip ?_)
  cases c₀
  simp_all [bodyPostS, results, Tryd.results112]
set_option maxRecDepth 100000 in
set_option maxHeartbeats 1000000 in
theorem catch_panic (B : Nat) (x : ByteArray) (cs0 : Array Value) (b : Bool) (u : TypeId) (pv : Value) (older : List PanicEntry) (w : World) (hf : Fr B x cs0 b w) (hcs : cs0.size = 33) :
    CallsD Tryd.prog 112 #[.pointer (some ⟨B, 0, none⟩), .pointer (some ⟨B + 1, 0, none⟩), .pointer (some ⟨B + 2, 0, none⟩)] (.panicking ({ v := .iface u pv, recovered := false } :: older)) w fun e u' w' =>
      e = .returned (.tuple #[]) ∧ u' = .panicking ({ v := .iface u pv, recovered := true } :: older) ∧ Fr B ByteArray.empty link0 false w' ∧ Kept B w w' := by
  refine callsD_of_wpS Tryd.func112 rfl fun c₀ cs hu => ?_
  apply wpS_seq
  apply wpS_region
  simp [wpOpsS, go_sem, recoverD, hu, Tryd.ntmps112, Exit.thenS]
  refine wpS_cond (t := true) (by simp [Act.eval, Array.replicate]) ?_
  simp only [if_true]
  refine wpS_of_wp ?_
  change Code.wp _ _ _ { tmps := #[.pointer (some ⟨B, 0, none⟩), .pointer (some ⟨B + 1, 0, none⟩), .pointer (some ⟨B + 2, 0, none⟩), .iface u pv, .bool true, undef], defers := [] } w
  have hc0 : w.cell? ⟨B, 0, none⟩ = some (.string x) := by rw [cell_of_row _ _ _ _ _ _ hf.x]; rfl
  have hf0 := frozen_of_row _ _ 0 _ _ hf.x
  have hli : (Tryd.prog.info? 140).map (·.size) = some link0.size := info140
  have hl1 : (w.setCell ⟨B, 0, none⟩ (.string ByteArray.empty)).heap[B + 1]? = some (.cells cs0 140 (0, 0)) := by rw [heap_setCell_other _ _ _ _ (by simp)]; exact hf.l
  have hx1 : (w.setCell ⟨B, 0, none⟩ (.string ByteArray.empty)).heap[B]? = some (.cells #[.string ByteArray.empty] 9 (0, 0)) := by rw [heap_setCell_same _ _ _ _ _ _ hf.x]; rfl
  have hb1 : (w.setCell ⟨B, 0, none⟩ (.string ByteArray.empty)).heap[B + 2]? = some (.cells #[.bool b] 4 (0, 0)) := by rw [heap_setCell_other _ _ _ _ (by simp)]; exact hf.b
  have hk1 : Kept B w (w.setCell ⟨B, 0, none⟩ (.string ByteArray.empty)) := (Kept.refl B w).setCell (p := ⟨B, 0, none⟩) (Nat.le_refl B) _
  have H1 := hide (And.intro hx1 (And.intro hb1 (And.intro hk1 hl1)))
  clear hx1 hb1 hk1 hl1 hf
  go_wp2_with (refine wpList_store_put rfl 140 (.tmp 1) (.tmp 5) rfl (B + 1) link0 ?_ ?_ 140 cs0 ?_ hli (by rw [hcs]; rfl) ?_ ?_
               · rfl
               · rfl
               · exact (unhide H1).2.2.2
               · exact linkOf_one (List.replicate 32 0) 0
               intro w2 hp2
               have hb2 : w2.heap[B + 2]? = some (.cells #[.bool b] 4 (0, 0)) := (hp2.other _ (by omega)).trans (unhide H1).2.1
               have hcb : w2.cell? ⟨B + 2, 0, none⟩ = some (.bool b) := by rw [cell_of_row _ _ _ _ _ _ hb2]; rfl
               have hfb := frozen_of_row _ _ 0 _ _ hb2
               have H2 := hide (And.intro hp2 hb2)
               clear hp2 hb2)
  obtain ⟨hx1, hb1, hk1, hl1⟩ := unhide H1
  obtain ⟨hp2, hb2⟩ := unhide H2
  have hx2 : w2.heap[B]? = some (.cells #[.string ByteArray.empty] 9 (0, 0)) := (hp2.other _ (by omega)).trans hx1
  have F : Fr B ByteArray.empty link0 false (w2.setCell ⟨B + 2, 0, none⟩ (.bool false)) := by
    refine ⟨?_, ?_, ?_⟩
    · rw [heap_setCell_other _ _ _ _ (by simp)]; exact hx2
    · rw [heap_setCell_other _ _ _ _ (by simp)]; exact hp2.row
    · rw [heap_setCell_same _ _ _ _ _ _ hb2]; rfl
  have K : Kept B w (w2.setCell ⟨B + 2, 0, none⟩ (.bool false)) := by
    refine (hk1.trans (.of (hp2.below (by omega)))).setCell (p := ⟨B + 2, 0, none⟩) (by simp) _
  simp_all [bodyPostS, results, Tryd.results112]

end Go.Proofs.YtfodibjlldmnpaaDoor
/-
  The code's readFrame.
-/
namespace Go.Proofs.YtfodibjlldmnpaaDoor
open Go.RowKit

/-- The size that a frame begins with, and its entry. -/
def frSize (s : ByteArray) : Nat := numOf (s.data.toList.take 2)
def frEnt (s : ByteArray) : ByteArray := s.extract 2 (2 + frSize s)
def frOk (s : ByteArray) : Bool := decide (2 ≤ s.size) && decide (2 + frSize s ≤ s.size) && fitsB (frEnt s)
theorem frSize_lt (s : ByteArray) : frSize s < 65536 := by
  have h := numOf_lt (s.data.toList.take 2)
  have hl : (s.data.toList.take 2).length ≤ 2 := by rw [List.length_take]; omega
  have : 256 ^ (s.data.toList.take 2).length ≤ 256 ^ 2 := Nat.pow_le_pow_right (by omega) hl
  unfold frSize
  omega
/-- What readFrame's end says. -/
def frEnd (s : ByteArray) (w : World) (e : Ending) (w' : World) : Prop :=
  (frOk s = true → e = .returned (.tuple #[.string (frEnt s), .agg (linkOf ((frEnt s).data.toList.take 32) (numOf ((frEnt s).extract 32 36).data.toList)), .bool true])) ∧
  (frOk s = false → e = .returned (.tuple #[.string ByteArray.empty, .agg link0, .bool false])) ∧ Kept w.heap.size w w'

set_option maxRecDepth 100000 in
theorem fr_res {B : Nat} {x : ByteArray} {cs : Array Value} {b : Bool} {w : World} {tmps : Array Value} (hf : Fr B x cs b w) (hcs : cs.size = 33)
    (h2 : tmps.getD 2 undef = .pointer (some ⟨B, 0, none⟩)) (h3 : tmps.getD 3 undef = .pointer (some ⟨B + 1, 0, none⟩)) (h4 : tmps.getD 4 undef = .pointer (some ⟨B + 2, 0, none⟩)) :
    (results Tryd.f104 tmps).run Tryd.prog w = .ok (.tuple #[.string x, .agg cs, .bool b]) w := by
  have hc0 : w.cell? ⟨B, 0, none⟩ = some (.string x) := by rw [cell_of_row _ _ _ _ _ _ hf.x]; rfl
  have hc2 : w.cell? ⟨B + 2, 0, none⟩ = some (.bool b) := by rw [cell_of_row _ _ _ _ _ _ hf.b]; rfl
  have l0 : (loadVar 9 ⟨B, 0, none⟩).run Tryd.prog w = .ok (.string x) w := by simp [go_sem, hc0]
  have l2 : (loadVar 4 ⟨B + 2, 0, none⟩).run Tryd.prog w = .ok (.bool b) w := by simp [go_sem, hc2]
  have l1 : (loadVar 140 ⟨B + 1, 0, none⟩).run Tryd.prog w = .ok (.agg cs) w := by
    refine run_loadVar_row w _ 140 140 cs (0, 0) _ hf.l Tryd.underlying140 rfl ?_
    rw [hcs]; exact info140
  have h2' : tmps[2]?.getD undef = .pointer (some ⟨B, 0, none⟩) := by simpa using h2
  have h3' : tmps[3]?.getD undef = .pointer (some ⟨B + 1, 0, none⟩) := by simpa using h3
  have h4' : tmps[4]?.getD undef = .pointer (some ⟨B + 2, 0, none⟩) := by simpa using h4
  simp [results, Tryd.results104, h2', h3', h4', asAddr, l0, l1, l2]
theorem fr_caught {s : ByteArray} {w w1 : World} {tmps : Array Value} (hno : frOk s = false) (hf : ∃ x cs b, Fr w.heap.size x cs b w1 ∧ cs.size = 33) (hk : Kept w.heap.size w w1)
    (h2 : tmps.getD 2 undef = .pointer (some ⟨w.heap.size, 0, none⟩)) (h3 : tmps.getD 3 undef = .pointer (some ⟨w.heap.size + 1, 0, none⟩)) (h4 : tmps.getD 4 undef = .pointer (some ⟨w.heap.size + 2, 0, none⟩)) :
    bodyPostD Tryd.prog Tryd.f104 (frEnd s w) (.panic oops) { tmps := tmps, defers := [{ target := .fn (.func 112) #[.pointer (some ⟨w.heap.size, 0, none⟩), .pointer (some ⟨w.heap.size + 1, 0, none⟩), .pointer (some ⟨w.heap.size + 2, 0, none⟩)], args := #[] }] } w1 := by
  obtain ⟨x, cs, b, hfr, hcs⟩ := hf
  show Leaves Tryd.prog Tryd.f104 tmps (frEnd s w) _ (.panicking oops) w1
  refine leaves_cons (f := 112) (args := #[.pointer (some ⟨w.heap.size, 0, none⟩), .pointer (some ⟨w.heap.size + 1, 0, none⟩), .pointer (some ⟨w.heap.size + 2, 0, none⟩)]) (by simp) (by simp [go_sem]) ?_
  refine (catch_panic w.heap.size x cs b _ _ _ w1 hfr hcs).mono ?_
  rintro e u' w2 ⟨rfl, rfl, hf2, hk2⟩
  show Leaves Tryd.prog Tryd.f104 tmps (frEnd s w) [] .returning w2
  exact ⟨_, fr_res hf2 (linkOf_size (D := List.replicate 32 0) rfl 0) h2 h3 h4, fun h => absurd (hno.symm.trans h) (by simp), fun _ => rfl, hk.trans hk2⟩
theorem fr_back {s : ByteArray} {w w1 : World} {tmps : Array Value} (hok : frOk s = true) (hf : Fr w.heap.size (frEnt s) (linkOf ((frEnt s).data.toList.take 32) (numOf ((frEnt s).extract 32 36).data.toList)) true w1) (hcs : (linkOf ((frEnt s).data.toList.take 32) (numOf ((frEnt s).extract 32 36).data.toList)).size = 33) (hk : Kept w.heap.size w w1)
    (h2 : tmps.getD 2 undef = .pointer (some ⟨w.heap.size, 0, none⟩)) (h3 : tmps.getD 3 undef = .pointer (some ⟨w.heap.size + 1, 0, none⟩)) (h4 : tmps.getD 4 undef = .pointer (some ⟨w.heap.size + 2, 0, none⟩)) :
    bodyPostD Tryd.prog Tryd.f104 (frEnd s w) .ret { tmps := tmps, defers := [{ target := .fn (.func 112) #[.pointer (some ⟨w.heap.size, 0, none⟩), .pointer (some ⟨w.heap.size + 1, 0, none⟩), .pointer (some ⟨w.heap.size + 2, 0, none⟩)], args := #[] }] } w1 := by
  show Leaves Tryd.prog Tryd.f104 tmps (frEnd s w) _ .returning w1
  refine leaves_cons (f := 112) (args := #[.pointer (some ⟨w.heap.size, 0, none⟩), .pointer (some ⟨w.heap.size + 1, 0, none⟩), .pointer (some ⟨w.heap.size + 2, 0, none⟩)]) (by simp) (by simp [go_sem]) ?_
  refine (catch_idle w.heap.size w1).mono ?_
  rintro e u' w2 ⟨rfl, rfl, rfl⟩
  show Leaves Tryd.prog Tryd.f104 tmps (frEnd s w) [] .returning w2
  exact ⟨_, fr_res hf hcs h2 h3 h4, fun _ => rfl, fun h => absurd (hok.symm.trans h) (by simp), hk⟩
theorem Fr.other {B : Nat} {x : ByteArray} {cs : Array Value} {b : Bool} {w w' : World} (h : Fr B x cs b w) (ho : Other (B + 3) w w') : Fr B x cs b w' := h.next fun k hk h3 => ho.block k hk (by omega)
theorem Kept.other {B : Nat} {v w w' : World} (h : Kept B v w) (ho : Other (B + 3) w w') (hB : B ≤ v.heap.size := by exact Nat.le_refl _) : Kept B v w' :=
  h.trans ⟨ho.os, ho.output, ho.size, fun k hk => ho.block k (by have := h.size; omega) (by omega)⟩
theorem wp_store_cell9 {w : World} {o : Oper} {a : Act} {K : Act → World → Prop} {Q : Exit → Act → World → Prop} (x y : Operand) (ho : o.op = .store 9 x y) (p : Addr) (hx : a.eval x = .pointer (some p)) (z : ByteArray) (hy : a.eval y = .string z) (u : Value) (hc : w.cell? p = some u) (hf : w.frozen? p = false) (h : K (a.put o.dst undef) (w.setCell p (.string z))) : o.wp Tryd.prog a w K Q := by
  have hu := Tryd.underlying9
  unfold Oper.wp execOp
  simp only [ho, hx, hy]
  go_simp
  exact h
theorem wp_store_cell4 {w : World} {o : Oper} {a : Act} {K : Act → World → Prop} {Q : Exit → Act → World → Prop} (x y : Operand) (ho : o.op = .store 4 x y) (p : Addr) (hx : a.eval x = .pointer (some p)) (z : Bool) (hy : a.eval y = .bool z) (u : Value) (hc : w.cell? p = some u) (hf : w.frozen? p = false) (h : K (a.put o.dst undef) (w.setCell p (.bool z))) : o.wp Tryd.prog a w K Q := by
  have hu := Tryd.underlying4
  unfold Oper.wp execOp
  simp only [ho, hx, hy]
  go_simp
  exact h
theorem leaves_tmps {P : Program} {fn : Func} {t t' : Array Value} {R : Ending → World → Prop} (h : results fn t = results fn t') : ∀ (ds : List Deferred) (u : FrameMode) (w : World), Leaves P fn t R ds u w → Leaves P fn t' R ds u w
  | [], .returning, _, ⟨v, hv, hr⟩ => ⟨v, by rw [← h]; exact hv, hr⟩
  | [], .panicking _, _, hr => hr
  | [], .run, _, hr => hr
  | _ :: ds, _, _, ⟨hu, fv, cap, f, args, ht, hi, hc⟩ => ⟨hu, fv, cap, f, args, ht, hi, hc.mono (fun e u' w' hh => by
      cases e with
      | returned v => exact leaves_tmps h ds _ _ hh
      | panicked c => exact leaves_tmps h ds _ _ hh
      | outgrown => exact hh)⟩
theorem res_put (t : Array Value) (i : Nat) (hi : 5 ≤ i) (v : Value) : results Tryd.f104 (t.setIfInBounds i v) = results Tryd.f104 t := by
  have h : ∀ j, j < 5 → (t.setIfInBounds i v).getD j undef = t.getD j undef := fun j hj => by
    rw [Array.getD_eq_getD_getElem?, Array.getD_eq_getD_getElem?, Array.getElem?_setIfInBounds_ne (by omega)]
  unfold results
  rw [Tryd.results104]
  simp only [Array.mapM_eq_mapM_toList, List.mapM_cons, List.mapM_nil, h 2 (by omega), h 3 (by omega), h 4 (by omega)]
theorem fr_start (s : ByteArray) (w : World) : Fr w.heap.size ByteArray.empty link0 false ((((w.alloc (.cells #[.string ByteArray.empty] 9)).alloc (.cells link0 140)).alloc (.cells #[.bool false] 4)).alloc (.cells #[.string s] 155)) ∧
    Rd ((((w.alloc (.cells #[.string ByteArray.empty] 9)).alloc (.cells link0 140)).alloc (.cells #[.bool false] 4)).alloc (.cells #[.string s] 155)) (w.heap.size + 3) s ∧
    Kept w.heap.size w ((((w.alloc (.cells #[.string ByteArray.empty] 9)).alloc (.cells link0 140)).alloc (.cells #[.bool false] 4)).alloc (.cells #[.string s] 155)) := by
  refine ⟨⟨?_, ?_, ?_⟩, ?_, ?_⟩
  · rw [Below.heap_alloc _ _ _ (by simp only [World.size_alloc]; omega), Below.heap_alloc _ _ _ (by simp only [World.size_alloc]; omega), Below.heap_alloc _ _ _ (by simp)]
    exact heap_alloc_new _ _
  · rw [Below.heap_alloc _ _ _ (by simp only [World.size_alloc]; omega), Below.heap_alloc _ _ _ (by simp)]
    have := heap_alloc_new (w.alloc (.cells #[.string ByteArray.empty] 9)) (.cells link0 140)
    simpa only [World.size_alloc] using this
  · rw [Below.heap_alloc _ _ _ (by simp)]
    have := heap_alloc_new ((w.alloc (.cells #[.string ByteArray.empty] 9)).alloc (.cells link0 140)) (.cells #[.bool false] 4)
    simpa only [World.size_alloc] using this
  · have := heap_alloc_new (((w.alloc (.cells #[.string ByteArray.empty] 9)).alloc (.cells link0 140)).alloc (.cells #[.bool false] 4)) (.cells #[.string s] 155)
    unfold Rd
    simpa only [World.size_alloc] using this
  · exact ((((Kept.refl _ _).alloc (Nat.le_refl _) _).alloc (by simp) _).alloc (by simp only [World.size_alloc]; omega) _).alloc (by simp only [World.size_alloc]; omega) _
set_option maxRecDepth 100000 in
set_option maxHeartbeats 4000000 in
theorem readFrame_go (s : ByteArray) (w : World) (hs : s.size ≤ 140737488355328) : Calls Tryd.prog 104 #[.string s] w (frEnd s w) := by
  have hmf : ∀ (fn : Fn) (first cap : Array Value) (w : World), (Instr.makeFunc fn first cap).run Tryd.prog w = .ok (.func fn first cap) w := fun _ _ _ _ => rfl
  obtain ⟨N, hN⟩ : ∃ N, N = frSize s := ⟨_, rfl⟩
  have hN2 : N < 65536 := by rw [hN]; exact frSize_lt s
  have hwN : IntKind.i64.wrap (N : Int) = (N : Int) := by simp [IntKind.wrap, IntKind.bits, IntKind.signed]; omega
  have HNO := hide (show s.size < 2 ∨ s.size < 2 + N ∨ fitsB (s.extract 2 (2 + N)) = false → frOk s = false from fun h => by
    unfold frOk frEnt
    rw [← hN]
    rcases h with h | h | h
    · rw [decide_eq_false (show ¬ 2 ≤ s.size by omega)]; rfl
    · rw [decide_eq_false (show ¬ 2 + N ≤ s.size by omega), Bool.and_false]; rfl
    · rw [h, Bool.and_false])
  have HYES := hide (show ¬ s.size < 2 → ¬ s.size < 2 + N → fitsB (s.extract 2 (2 + N)) = true → frOk s = true from fun h1 h2 h => by
    unfold frOk frEnt
    rw [← hN, decide_eq_true (show 2 ≤ s.size by omega), decide_eq_true (show 2 + N ≤ s.size by omega), h]; rfl)
  have HN := hide hN
  clear hN
  go_enter_defers Tryd.func104, Tryd.ntmps104
  go_wp2_with fail
  refine (new_go s _).mono ?_
  rintro _ w0 ⟨rfl, hw0⟩
  have hst := fr_start s w
  have H0 := hide (show Fr w.heap.size ByteArray.empty link0 false w0 ∧ Rd w0 (w.heap.size + 3) s ∧ Kept w.heap.size w w0 from by rw [hw0]; exact hst)
  clear hst hw0
  simp only [World.size_alloc]
  go_wp2_with fail
  by_cases hc1 : s.size < 2
  · have hf := unhide HNO (Or.inl hc1)
    refine (number_no (w.heap.size + 3) 2 s w0 (unhide H0).2.1 hc1 (by omega)).mono ?_
    rintro _ wz ⟨rfl, hoz⟩
    exact fr_caught hf ⟨_, _, _, (unhide H0).1.other hoz, rfl⟩ ((unhide H0).2.2.other hoz) rfl rfl rfl
  refine (number_yes (w.heap.size + 3) 2 s w0 (unhide H0).2.1 (by omega) (by omega) hs).mono ?_
  rintro _ w1 ⟨rfl, hr1, ho1⟩
  rw [show numOf (s.data.toList.take 2) = N from (unhide HN).symm]
  have H1 := hide (And.intro ((unhide H0).1.other ho1) (And.intro hr1 ((unhide H0).2.2.other ho1)))
  clear hr1 ho1
  go_wp2_with fail
  by_cases hc2 : s.size < 2 + N
  · have hf := unhide HNO (Or.inr (Or.inl hc2))
    refine (bytes_no (w.heap.size + 3) N (lf s 2) w1 (unhide H1).2.1 (by have := lf_size s 2; omega) (by omega) (by have := lf_size s 2; omega)).mono ?_
    rintro _ wz ⟨rfl, hoz⟩
    exact fr_caught hf ⟨_, _, _, (unhide H1).1.other hoz, rfl⟩ ((unhide H1).2.2.other hoz) rfl rfl rfl
  refine (bytes_yes (w.heap.size + 3) N (lf s 2) w1 (unhide H1).2.1 (by have := lf_size s 2; omega) (by have := lf_size s 2; omega)).mono ?_
  rintro _ w2 ⟨rfl, hr2, ho2⟩
  rw [lf_cut s (by omega)]
  obtain ⟨E, hE⟩ : ∃ E, E = s.extract (2 + 0) (2 + N) := ⟨_, rfl⟩
  rw [← hE]
  have hEs : E.size = N := by rw [hE, ByteArray.size_extract]; omega
  have HEN := hide (show frEnt s = E from by rw [hE, frEnt, ← unhide HN])
  have HFIT := hide (show fitsB (s.extract 2 (2 + N)) = fitsB E from by rw [hE])
  clear hE
  have hfr2 := (unhide H1).1.other ho2
  have hc0 : w2.cell? ⟨w.heap.size, 0, none⟩ = some (.string ByteArray.empty) := by rw [cell_of_row _ _ _ _ _ _ hfr2.x]; rfl
  have hf0 := frozen_of_row _ _ 0 _ _ hfr2.x
  have H2 := hide (show Fr w.heap.size E link0 false (w2.setCell ⟨w.heap.size, 0, none⟩ (.string E)) ∧ Kept w.heap.size w (w2.setCell ⟨w.heap.size, 0, none⟩ (.string E)) from
    ⟨⟨by rw [heap_setCell_same _ _ _ _ _ _ hfr2.x]; rfl, by rw [heap_setCell_other _ _ _ _ (by simp)]; exact hfr2.l, by rw [heap_setCell_other _ _ _ _ (by simp)]; exact hfr2.b⟩, ((unhide H1).2.2.other ho2).setCell (p := ⟨w.heap.size, 0, none⟩) (Nat.le_refl _) _⟩)
  clear hr2 ho2 hfr2
  go_wp2_with fail
  generalize w2.setCell ⟨w.heap.size, 0, none⟩ (.string E) = w3 at H2 ⊢
  clear hc0 hf0
  have hc3 : w3.cell? ⟨w.heap.size, 0, none⟩ = some (.string E) := by rw [cell_of_row _ _ _ _ _ _ (unhide H2).1.x]; rfl
  refine wp_region_held_drew (S := fun w' => w'.cell? ⟨w.heap.size, 0, none⟩ = some (.string E)) (by kernel_rfl) (by simpa using hc3) (fun hHeld => ?_)
  refine wpAnyH_take (i := 0) (oi := { dst := some 14, op := Op.load 9 (Operand.tmp 2), type := 9, pos := "chain.go:110", after := #[], guard := none }) (v := .string E) rfl (by kernel_rfl) (by kernel_rfl) (by kernel_rfl) (fun c a w h => leaves_tmps (res_put _ 14 (by omega) _) _ _ _ h) (Or.inl ⟨by kernel_rfl, fun W hW => by simp [execOp, go_sem, hW]⟩) hHeld ?_
  simp only [Act.put, List.setIfInBounds_toArray, List.set_cons_zero, List.set_cons_succ]
  refine wpAnyH_take (i := 1) (oi := { dst := some 15, op := Op.load 9 (Operand.tmp 2), type := 9, pos := "chain.go:110", after := #[], guard := none }) (v := .string E) rfl (by kernel_rfl) (by kernel_rfl) (by kernel_rfl) (fun c a w h => leaves_tmps (res_put _ 15 (by omega) _) _ _ _ h) (Or.inl ⟨by kernel_rfl, fun W hW => by simp [execOp, go_sem, hW]⟩) hHeld ?_
  simp only [Act.put, List.setIfInBounds_toArray, List.set_cons_zero, List.set_cons_succ]
  refine wpAnyH_ready (rs := [2]) (by kernel_rfl) (by simp) ?_
  have HK3 := hide (show Fr w.heap.size E link0 false w3.drew ∧ Kept w.heap.size w w3.drew ∧ w.heap.size + 3 ≤ w3.drew.heap.size from
    ⟨⟨(unhide H2).1.x, (unhide H2).1.l, (unhide H2).1.b⟩, ⟨(unhide H2).2.os, (unhide H2).2.output, (unhide H2).2.size, (unhide H2).2.block⟩, (Array.getElem?_eq_some_iff.1 (unhide H2).1.b).1⟩)
  generalize w3.drew = w4 at HK3 hHeld ⊢
  clear H2 hc3 H1 H0
  refine AllReadyH.cons (o := { dst := some 16, op := Op.call { callee := Callee.value (Operand.func 116), args := #[Operand.tmp 15], argTypes := #[9] }, type := 140, pos := "chain.go:110", after := #[{ on := 1, ground := Ground.data }], guard := none }) rfl (fun K hK => ?_) AllReadyH.nil
  refine ite_wanted ?_ ?_
  · kernel_rfl
  by_cases hft' : fitsB E = false
  · have hno := unhide HNO (Or.inr (Or.inr ((unhide HFIT).trans hft')))
    clear hK
    go_simp
    refine (readEntry_go E w4 (by omega)).mono ?_
    rintro e5 w5 ⟨_, h5, hk5⟩
    rw [h5 hft']
    have hfin : Fr w.heap.size E link0 false w5 ∧ Kept w.heap.size w w5 :=
      ⟨(unhide HK3).1.next fun k hk _ => hk5.block k hk, (unhide HK3).2.1.trans (hk5.mono (by have := (unhide HK3).2.2; omega))⟩
    exact fr_caught hno ⟨_, _, _, hfin.1, rfl⟩ hfin.2 rfl rfl rfl
  have hft : fitsB E = true := by simpa using hft'
  clear hft'
  have hok := unhide HYES hc1 hc2 ((unhide HFIT).trans hft)
  obtain ⟨L, hL⟩ : ∃ L, L = linkOf (E.data.toList.take 32) (numOf (E.extract 32 36).data.toList) := ⟨_, rfl⟩
  have hLs : L.size = 33 := by
    rw [hL]
    refine linkOf_size ?_ _
    have : 70 ≤ E.size := Classical.byContradiction fun h => by
      rw [fits_no rfl (Or.inl (by omega))] at hft
      exact absurd hft (by simp)
    rw [List.length_take, size_toList]; omega
  have hL1 : L.all (·.oneCell') = true := by rw [hL]; exact linkOf_one _ _
  have HL := hide hL
  have hcl : Calls Tryd.prog 116 #[.string E] w4 fun e w' => e = .returned (.agg L) ∧ Kept w4.heap.size w4 w' := by
    refine (readEntry_go E w4 (by omega)).mono ?_
    rintro e5 w5 ⟨h5, _, hk5⟩
    exact ⟨by rw [h5 hft, hL], hk5⟩
  clear hL
  go_simp
  refine hcl.mono ?_
  rintro _ w5 ⟨rfl, hk5⟩
  have H5 := hide (show Fr w.heap.size E link0 false w5 ∧ Kept w.heap.size w w5 from
      ⟨(unhide HK3).1.next fun k hk _ => hk5.block k hk, (unhide HK3).2.1.trans (hk5.mono (by have := (unhide HK3).2.2; omega))⟩)
  clear hk5 hcl hHeld
  show K _ w5
  have hc5 : w5.cell? ⟨w.heap.size, 0, none⟩ = some (.string E) := by rw [cell_of_row _ _ _ _ _ _ (unhide H5).1.x]; rfl
  refine hK.out _ _ hc5 (fun _ => ?_)
  clear hK K
  refine wpAnyH_ready (rs := [3]) (by kernel_rfl) (by simp) ?_
  refine AllReadyH.cons (o := { dst := none, op := Op.store 9 (Operand.tmp 2) (Operand.tmp 14), type := 0, pos := "chain.go:110", after := #[{ on := 0, ground := Ground.data }, { on := 2, ground := Ground.chain }, { on := 0, ground := Ground.phase }, { on := 1, ground := Ground.phase }, { on := 2, ground := Ground.textOnly Departure.lateStoresUnsure }], guard := none }) rfl (fun K hK => ?_) AllReadyH.nil
  refine ite_wanted ?_ ?_
  · kernel_rfl
  refine wp_store_cell9 (.tmp 2) (.tmp 14) ?_ ⟨w.heap.size, 0, none⟩ ?_ E ?_ (.string E) hc5 (frozen_of_row _ _ 0 _ _ (unhide H5).1.x) ?_
  · rfl
  · kernel_rfl
  · kernel_rfl
  simp only [Act.put]
  have H6 := hide (show Fr w.heap.size E link0 false (w5.setCell ⟨w.heap.size, 0, none⟩ (.string E)) ∧ Kept w.heap.size w (w5.setCell ⟨w.heap.size, 0, none⟩ (.string E)) from
    ⟨⟨by rw [heap_setCell_same _ _ _ _ _ _ (unhide H5).1.x]; rfl, by rw [heap_setCell_other _ _ _ _ (by simp)]; exact (unhide H5).1.l, by rw [heap_setCell_other _ _ _ _ (by simp)]; exact (unhide H5).1.b⟩, (unhide H5).2.setCell (p := ⟨w.heap.size, 0, none⟩) (Nat.le_refl _) _⟩)
  generalize w5.setCell ⟨w.heap.size, 0, none⟩ (.string E) = w6 at H6 ⊢
  have hc6 : w6.cell? ⟨w.heap.size, 0, none⟩ = some (.string E) := by rw [cell_of_row _ _ _ _ _ _ (unhide H6).1.x]; rfl
  refine hK.out _ _ hc6 (fun _ => ?_)
  clear hK K H5 hc5
  refine wpAnyH_ready (rs := [4]) (by kernel_rfl) (by simp) ?_
  refine AllReadyH.cons (o := { dst := none, op := Op.store 140 (Operand.tmp 3) (Operand.tmp 16), type := 0, pos := "chain.go:110", after := #[{ on := 2, ground := Ground.data }, { on := 3, ground := Ground.chain }, { on := 0, ground := Ground.phase }, { on := 1, ground := Ground.phase }, { on := 2, ground := Ground.phase }, { on := 3, ground := Ground.phase }], guard := none }) rfl (fun K hK => ?_) AllReadyH.nil
  refine ite_wanted ?_ ?_
  · kernel_rfl
  refine wp_store_row 140 (.tmp 3) (.tmp 16) ?_ (w.heap.size + 1) L ?_ ?_ 140 link0 (unhide H6).1.l (by rw [hLs]; exact info140) (by rw [hLs]; rfl) hL1 ?_
  · rfl
  · kernel_rfl
  · kernel_rfl
  simp only [Act.put]
  have H7 := hide (show Fr w.heap.size E L false (w6.setRow (w.heap.size + 1) L) ∧ Kept w.heap.size w (w6.setRow (w.heap.size + 1) L) from
    ⟨⟨by rw [setRow_other _ _ _ _ (by omega)]; exact (unhide H6).1.x, setRow_heap _ _ _ _ _ _ (unhide H6).1.l, by rw [setRow_other _ _ _ _ (by omega)]; exact (unhide H6).1.b⟩, (unhide H6).2.setRow (by omega) _⟩)
  generalize w6.setRow (w.heap.size + 1) L = w7 at H7 ⊢
  have hc7 : w7.cell? ⟨w.heap.size, 0, none⟩ = some (.string E) := by rw [cell_of_row _ _ _ _ _ _ (unhide H7).1.x]; rfl
  refine hK.out _ _ hc7 (fun _ => ?_)
  clear hK K H6 hc6
  refine wpAnyH_ready (rs := [5]) (by kernel_rfl) (by simp) ?_
  refine AllReadyH.cons (o := { dst := none, op := Op.store 4 (Operand.tmp 4) (Operand.const (Value.bool true)), type := 0, pos := "chain.go:110", after := #[{ on := 4, ground := Ground.chain }, { on := 0, ground := Ground.phase }, { on := 1, ground := Ground.phase }, { on := 2, ground := Ground.phase }, { on := 3, ground := Ground.phase }, { on := 4, ground := Ground.phase }], guard := none }) rfl (fun K hK => ?_) AllReadyH.nil
  refine ite_wanted ?_ ?_
  · kernel_rfl
  refine wp_store_cell4 (.tmp 4) (.const (.bool true)) ?_ ⟨w.heap.size + 2, 0, none⟩ ?_ true ?_ (.bool false) (by rw [cell_of_row _ _ _ _ _ _ (unhide H7).1.b]; rfl) (frozen_of_row _ _ 0 _ _ (unhide H7).1.b) ?_
  · rfl
  · kernel_rfl
  · kernel_rfl
  simp only [Act.put]
  have H8 := hide (show Fr w.heap.size E L true (w7.setCell ⟨w.heap.size + 2, 0, none⟩ (.bool true)) ∧ Kept w.heap.size w (w7.setCell ⟨w.heap.size + 2, 0, none⟩ (.bool true)) from
    ⟨⟨by rw [heap_setCell_other _ _ _ _ (by simp)]; exact (unhide H7).1.x, by rw [heap_setCell_other _ _ _ _ (by simp)]; exact (unhide H7).1.l, by rw [heap_setCell_same _ _ _ _ _ _ (unhide H7).1.b]; rfl⟩, (unhide H7).2.setCell (p := ⟨w.heap.size + 2, 0, none⟩) (by simp) _⟩)
  generalize w7.setCell ⟨w.heap.size + 2, 0, none⟩ (.bool true) = w8 at H8 ⊢
  refine hK.out _ _ (by rw [cell_of_row _ _ _ _ _ _ (unhide H8).1.x]; rfl) (fun _ => ?_)
  clear hK K H7 hc7
  refine wpAnyH_done (by kernel_rfl) ?_ _
  go_wp2_with fail
  have hEN := unhide HEN
  have hL := unhide HL
  refine fr_back hok ?_ ?_ (unhide H8).2 rfl rfl rfl
  · rw [hEN, ← hL]; exact (unhide H8).1
  · rw [hEN, ← hL]; exact hLs
end Go.Proofs.YtfodibjlldmnpaaDoor
