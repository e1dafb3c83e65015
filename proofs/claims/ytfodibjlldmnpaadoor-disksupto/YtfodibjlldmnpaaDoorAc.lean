/-
  shelf.act.
-/
import Derived.Test.YtfodibjlldmnpaaDoorTd
namespace Go.Proofs.YtfodibjlldmnpaaDoor
open Go.RowKit

theorem own_at2 {w : World} {B g n cap : Nat} {e : TypeId} {z : Nat} {xs : List Value} (h : w.ownsRow B e z (.slice (some ⟨g, 0, none⟩) n cap) n xs) {j : Nat} {u : Value} (hj : xs[j]? = some u) : w.cell? ⟨g, j, none⟩ = some u := by
  rcases h.2 with ⟨h', _⟩ | ⟨g2, c, cur, h1, h2, h3, h4, h5, h6, h7⟩
  · cases h'
  · simp only [Value.slice.injEq, Option.some.injEq, Addr.mk.injEq, and_true, true_and] at h1
    obtain ⟨rfl, rfl⟩ := h1
    rw [cell_of_row _ _ _ _ _ _ h3, ← Array.getElem?_toList]
    rw [← h7, List.getElem?_take] at hj
    split at hj
    · exact hj
    · cases hj
set_option maxRecDepth 100000 in
set_option maxHeartbeats 1000000 in
theorem lawpick_uni (c : Int) (n : Nat) (h0 : -9223372036854775808 ≤ c) (h1 : c ≤ 9223372036854775807) (hn : 0 < n) (hm : n ≤ 140737488355328) :
    ∃ k : Nat, k < n ∧ ∀ w, Calls Tryd.prog 14 #[.int .i64 c, .int .i64 n] w fun e w' => e = .returned (.int .i64 k) ∧ w' = w := by
  have hn0 : (n : Int) ≠ 0 := by omega
  have hmod : ∀ x : Int, 0 ≤ x → ∃ r : Nat, r < n ∧ x.tmod (n : Int) = (r : Int) := fun x hx => by
    refine ⟨(x % n).toNat, ?_, ?_⟩
    · have := Int.emod_lt_of_pos x (show (0 : Int) < n by omega)
      have := Int.emod_nonneg x hn0
      omega
    · rw [Int.tmod_eq_emod_of_nonneg hx, Int.toNat_of_nonneg (Int.emod_nonneg _ hn0)]
  by_cases hc : c < 0
  · obtain ⟨r, hr, ht⟩ := hmod (-(c + 1)) (by omega)
    refine ⟨r, hr, fun w => ?_⟩
    clear hmod
    go_enter Tryd.func14, Tryd.ntmps14
    go_wp2_with fail
    go_ret
    exact ⟨rfl, rfl⟩
  · obtain ⟨r, hr, ht⟩ := hmod c (by omega)
    refine ⟨r, hr, fun w => ?_⟩
    clear hmod
    go_enter Tryd.func14, Tryd.ntmps14
    go_wp2_with fail
    go_ret
    exact ⟨rfl, rfl⟩
theorem keep_ad {w : World} {a : Addr} {u : Value} {O : Obj} (h : w.drew.cell? a = some u) : (w.alloc O).drew.cell? a = some u := by
  have hl : a.block < w.heap.size := World.block_lt_of_cell? w a h
  exact (World.cell?_alloc_lt w _ _ hl).trans h
section
variable {B g N : Nat} {w w1 w2 w3 : World} {vl vs vn vm : Value} {D R : List (Loc Dsk)} {S T : List (Loc Snk)} {ls : List Value} {ms : List ByteArray}
set_option maxRecDepth 100000 in
set_option maxHeartbeats 4000000 in
theorem act_append (h : Sw B g N w vl vs vn vm D R S T ls ms) (hN : N ≤ 1048576) (kind on a : Int) (n s : ByteArray) (vL : Value) (hk : kind = 2) (hon0 : -9223372036854775808 ≤ on) (hon : on ≤ 9223372036854775807) (hD0 : 0 < D.length) (hs : s.size ≤ 1048576) :
    Calls Tryd.prog 9 #[ptr g, .agg (acells kind on a n s vL)] w (okEnd B g N w) := by
  have hk2 : Kept w.heap.size w (w.alloc (.cells (acells kind on a n s vL) 36)) := (Kept.refl _ _).alloc (Nat.le_refl _) _
  have hnD := h.nD
  have hB := h.size
  obtain ⟨k, hkD, hpick⟩ := lawpick_uni on D.length hon0 hon hD0 (by omega)
  have hkR : k < R.length := by rw [h.lenD]; exact hkD
  obtain ⟨al, cl, hvl, _, hal⟩ := own_len h.sh.co.l
  have hDl : (D.map (·.p)).length = D.length := List.length_map _
  rw [hDl] at hvl hal
  obtain ⟨gl, rfl⟩ := hal hD0
  subst hvl
  have HW := hide (h.kept hk2)
  have HB := hide (hk2.mono h.size)
  have hb0 : (w.alloc (.cells (acells kind on a n s vL) 36)).heap[w.heap.size]? = some (.cells (acells kind on a n s vL) 36 (0, 0)) := heap_alloc_new _ _
  have hWs : (w.alloc (.cells (acells kind on a n s vL) 36)).heap.size = w.heap.size + 1 := by simp
  have hcgA : (w.alloc (.cells (acells kind on a n s vL) 36)).cell? ⟨g, 0, none⟩ = some (.slice (some ⟨gl, 0, none⟩) D.length cl) := by rw [cell_of_row _ _ _ _ _ _ (unhide HW).sh.co.at']; rfl
  generalize hW : w.alloc (.cells (acells kind on a n s vL) 36) = W at HW HB hb0 hWs
  have HEW := hide hW
  have hcg : W.cell? ⟨g, 0, none⟩ = some (.slice (some ⟨gl, 0, none⟩) D.length cl) := by rw [cell_of_row _ _ _ _ _ _ (unhide HW).sh.co.at']; rfl
  have hc1 : W.cell? ⟨w.heap.size, 1, none⟩ = some (.int .i64 on) := by rw [cell_of_row _ _ _ _ _ _ hb0]; rfl
  have hcp : W.cell? ⟨gl, k * 2, none⟩ = some (ptr D[k].p) ∧ W.cell? ⟨gl, k * 2 + 1, none⟩ = some (ptr R[k].p) := by
    have hl := (unhide HW).sh.co.l
    have := pcells_at (D.map (·.p)) (R.map (·.p)) k (unhide HW).sh.co.lp (by simpa using hkD)
    rw [hDl] at hl
    refine ⟨own_at2 hl ?_, own_at2 hl ?_⟩
    · rw [this.1]; simp [hkD]
    · rw [this.2]; simp [hkR]
  have HX := hide (h.xD hkD hkR)
  have HG := hide (h.gD _ (List.getElem_mem hkD))
  have HD0 := hide (h.sh.d.each _ (List.getElem_mem hkD))
  have hk3 : Kept W.heap.size W (W.alloc (.cells #[ptr D[k].p, ptr R[k].p] 74)).drew := ((Kept.refl _ _).alloc (Nat.le_refl _) _).draws 1
  have HW2 := hide ((unhide HW).kept hk3)
  have HB2 := hide ((unhide HB).trans (hk3.mono (unhide HW).size))
  have HT := hide (fun (v1 v2 : Value) (d' : Dsk) (w1 w2 : World) (hg : GoodD (N + 1) d') => (unhide HW2).twoD hkD hkR (w1 := w1) (w2 := w2) (v1 := v1) (v2 := v2) (d' := d') hg)
  have HU := hide (fun (v1 : Value) (d' : Dsk) (w1 : World) (h1 : DAt B 96 111 w1 D[k].p v1 d') (h2 : Upd D[k].p D[k].v v1 _ w1) => ((unhide HW2).sh.updD hkD h1 h2).1.r.each _ (List.getElem_mem hkR))
  have HD := hide ((unhide HW2).sh.d.each _ (List.getElem_mem hkD))
  have HQ := hide (show (W.alloc (.cells #[ptr D[k].p, ptr R[k].p] 74)).drew.heap[W.heap.size]? = some (.cells #[ptr D[k].p, ptr R[k].p] 74 (0, 0)) from heap_alloc_new W _)
  have HB0 := hide (show (W.alloc (.cells #[ptr D[k].p, ptr R[k].p] 74)).drew.heap[w.heap.size]? = some (.cells (acells kind on a n s vL) 36 (0, 0)) from (Below.heap_alloc _ _ _ (by omega)).trans hb0)
  have HTD := hide (fun (ha0 : -9223372036854775808 ≤ a) (ha : a ≤ 9223372036854775807) => shelf_told_go (unhide HW2) hN hkD hkR kind on a n s vL ha0 ha)
  clear h hk2 hW hDl hal hk3 hb0
  generalize D[k] = e at *
  generalize R[k] = f at *
  obtain ⟨p, v, d⟩ := e
  obtain ⟨q, u, d2⟩ := f
  have hx : d = d2 := (unhide HX).symm
  subst hx
  simp only [ptr] at *
  have hcgd : W.drew.cell? ⟨g, 0, none⟩ = some (.slice (some ⟨gl, 0, none⟩) D.length cl) := hcg
  have hc1d : W.drew.cell? ⟨w.heap.size, 1, none⟩ = some (.int .i64 on) := hc1
  have hcc0 : W.drew.cell? ⟨gl, k * 2, none⟩ = some (.pointer (some ⟨p, 0, none⟩)) := hcp.1
  have hcc1 : W.drew.cell? ⟨gl, k * 2 + 1, none⟩ = some (.pointer (some ⟨q, 0, none⟩)) := hcp.2
  have hkI : (k : Int) < (D.length : Int) := by omega
  have hk0 : (0 : Int) ≤ (k : Int) := by omega
  have HPI := hide hpick
  clear hpick hcp
  have hDne : ¬ (D.length : Int) = 0 := by omega
  have hWS := hide hWs
  clear hWs
  subst hk
  go_enter Tryd.func9, Tryd.ntmps9
  go_wp2_with fail
  rw [unhide HEW]
  clear hcgA
  go_region_held3 (fun w' => w'.cell? ⟨g, 0, none⟩ = some (.slice (some ⟨gl, 0, none⟩) D.length cl) ∧ w'.cell? ⟨w.heap.size, 1, none⟩ = some (.int .i64 on) ∧ w'.cell? ⟨gl, k * 2, none⟩ = some (.pointer (some ⟨p, 0, none⟩)) ∧ w'.cell? ⟨gl, k * 2 + 1, none⟩ = some (.pointer (some ⟨q, 0, none⟩))) (first | assumption | exact ⟨hcgd, hc1d, hcc0, hcc1⟩ | exact ⟨keep_ad hcgd, keep_ad hc1d, keep_ad hcc0, keep_ad hcc1⟩ | go_keep) (first | (go_at_call 14; (refine (unhide HPI _).mono ?_; rintro e w' ⟨rfl, rfl⟩)))
  all_goals
    have e1 : (W.alloc (.cells #[.pointer (some ⟨p, 0, none⟩), .pointer (some ⟨q, 0, none⟩)] 74)).heap.size = W.heap.size + 1 := World.size_alloc _ _
    have hz1 := unhide hWS
    generalize hW2 : (W.alloc (.cells #[.pointer (some ⟨p, 0, none⟩), .pointer (some ⟨q, 0, none⟩)] 74)).drew = W2 at *
    have hsz : W2.heap.size = w.heap.size + 1 + 1 := by rw [← hW2, ← hz1]; exact e1
    have hp0 : W2.cell? ⟨W.heap.size, 0, none⟩ = some (.pointer (some ⟨p, 0, none⟩)) := by rw [cell_of_row _ _ _ _ _ _ (unhide HQ)]; rfl
    have hp1 : W2.cell? ⟨W.heap.size, 1, none⟩ = some (.pointer (some ⟨q, 0, none⟩)) := by rw [cell_of_row _ _ _ _ _ _ (unhide HQ)]; rfl
    have ha0' : W2.cell? ⟨w.heap.size, 0, none⟩ = some (.int .i64 2) := by rw [cell_of_row _ _ _ _ _ _ (unhide HB0)]; rfl
    have ha3 : W2.cell? ⟨w.heap.size, 3, none⟩ = some (.string n) := by rw [cell_of_row _ _ _ _ _ _ (unhide HB0)]; rfl
    have ha4 : W2.cell? ⟨w.heap.size, 4, none⟩ = some (.string s) := by rw [cell_of_row _ _ _ _ _ _ (unhide HB0)]; rfl
    have HSZ := hide (And.intro hsz hz1)
    clear hW2 hcgd hc1d hcc0 hcc1 hcg hc1 e1 hsz hz1
    have hfl : d.files.length ≤ 4194303 := by have := (unhide HG).files; omega
    have hfb := (unhide HG).big hN
    have hlf := (unhide HG).left
    have hBW : B ≤ W2.heap.size := by have := unhide HSZ; omega
    have hBW3 : ∀ w3 v1 d', DAt B 96 111 w3 p v1 d' ∧ Upd p v v1 W2 w3 → B ≤ w3.heap.size := fun w3 v1 d' h => Nat.le_trans hBW h.2.size
    go_wp2_with fail
    refine (append_go B W2 p v d n s (unhide HD).1 hBW hlf hfl hfb (by omega)).mono ?_
    rintro _ w3 ⟨rfl, v1, h1⟩
    have HR3 := hide (unhide HU v1 _ w3 h1.1 h1.2)
    have hst : ∀ b, w.heap.size ≤ b → b < W2.heap.size → w3.heap[b]? = W2.heap[b]? := fun b hb hbl => h1.2.block b hbl (by have := (unhide HD0).1.lt; omega) fun e => by have := ((unhide HD0).1.own.lt _ e).2; omega
    have hq1 : w3.cell? ⟨W.heap.size, 1, none⟩ = some (.pointer (some ⟨q, 0, none⟩)) := by
      rw [cell_of_row _ _ _ _ _ _ ((hst _ (by have := (unhide HSZ).2; omega) (by have := unhide HSZ; omega)).trans (unhide HQ))]; rfl
    have hb3 : w3.cell? ⟨w.heap.size, 3, none⟩ = some (.string n) := by
      rw [cell_of_row _ _ _ _ _ _ ((hst _ (Nat.le_refl _) (by have := unhide HSZ; omega)).trans (unhide HB0))]; rfl
    have hb4 : w3.cell? ⟨w.heap.size, 4, none⟩ = some (.string s) := by
      rw [cell_of_row _ _ _ _ _ _ ((hst _ (Nat.le_refl _) (by have := unhide HSZ; omega)).trans (unhide HB0))]; rfl
    have H1 := hide h1
    clear h1 hst
    go_wp2_with fail
    refine (append_ref B w3 q u d n s (unhide HR3).1 (hBW3 w3 _ _ (unhide H1)) hlf hfl hfb (by omega)).mono ?_
    rintro _ w4 ⟨rfl, v2, h2⟩
    have H4 := hide (ste_after (unhide HB2) (unhide HT v1 v2 _ w3 w4 (good_append (unhide HG) hs) (unhide H1) h2))
    clear h2
    generalize (!d.stopped) = bb
    cases bb
    all_goals go_wp2
    all_goals go_ret
    all_goals exact ok_of (by simp) (unhide H4)
set_option maxRecDepth 100000 in
set_option maxHeartbeats 4000000 in
theorem act_sync (h : Sw B g N w vl vs vn vm D R S T ls ms) (hN : N ≤ 1048576) (kind on a : Int) (n s : ByteArray) (vL : Value) (hk : kind = 3) (hon0 : -9223372036854775808 ≤ on) (hon : on ≤ 9223372036854775807) (hD0 : 0 < D.length) :
    Calls Tryd.prog 9 #[ptr g, .agg (acells kind on a n s vL)] w (okEnd B g N w) := by
  have hk2 : Kept w.heap.size w (w.alloc (.cells (acells kind on a n s vL) 36)) := (Kept.refl _ _).alloc (Nat.le_refl _) _
  have hnD := h.nD
  have hB := h.size
  obtain ⟨k, hkD, hpick⟩ := lawpick_uni on D.length hon0 hon hD0 (by omega)
  have hkR : k < R.length := by rw [h.lenD]; exact hkD
  obtain ⟨al, cl, hvl, _, hal⟩ := own_len h.sh.co.l
  have hDl : (D.map (·.p)).length = D.length := List.length_map _
  rw [hDl] at hvl hal
  obtain ⟨gl, rfl⟩ := hal hD0
  subst hvl
  have HW := hide (h.kept hk2)
  have HB := hide (hk2.mono h.size)
  have hb0 : (w.alloc (.cells (acells kind on a n s vL) 36)).heap[w.heap.size]? = some (.cells (acells kind on a n s vL) 36 (0, 0)) := heap_alloc_new _ _
  have hWs : (w.alloc (.cells (acells kind on a n s vL) 36)).heap.size = w.heap.size + 1 := by simp
  have hcgA : (w.alloc (.cells (acells kind on a n s vL) 36)).cell? ⟨g, 0, none⟩ = some (.slice (some ⟨gl, 0, none⟩) D.length cl) := by rw [cell_of_row _ _ _ _ _ _ (unhide HW).sh.co.at']; rfl
  generalize hW : w.alloc (.cells (acells kind on a n s vL) 36) = W at HW HB hb0 hWs
  have HEW := hide hW
  have hcg : W.cell? ⟨g, 0, none⟩ = some (.slice (some ⟨gl, 0, none⟩) D.length cl) := by rw [cell_of_row _ _ _ _ _ _ (unhide HW).sh.co.at']; rfl
  have hc1 : W.cell? ⟨w.heap.size, 1, none⟩ = some (.int .i64 on) := by rw [cell_of_row _ _ _ _ _ _ hb0]; rfl
  have hcp : W.cell? ⟨gl, k * 2, none⟩ = some (ptr D[k].p) ∧ W.cell? ⟨gl, k * 2 + 1, none⟩ = some (ptr R[k].p) := by
    have hl := (unhide HW).sh.co.l
    have := pcells_at (D.map (·.p)) (R.map (·.p)) k (unhide HW).sh.co.lp (by simpa using hkD)
    rw [hDl] at hl
    refine ⟨own_at2 hl ?_, own_at2 hl ?_⟩
    · rw [this.1]; simp [hkD]
    · rw [this.2]; simp [hkR]
  have HX := hide (h.xD hkD hkR)
  have HG := hide (h.gD _ (List.getElem_mem hkD))
  have HD0 := hide (h.sh.d.each _ (List.getElem_mem hkD))
  have hk3 : Kept W.heap.size W (W.alloc (.cells #[ptr D[k].p, ptr R[k].p] 74)).drew := ((Kept.refl _ _).alloc (Nat.le_refl _) _).draws 1
  have HW2 := hide ((unhide HW).kept hk3)
  have HB2 := hide ((unhide HB).trans (hk3.mono (unhide HW).size))
  have HT := hide (fun (v1 v2 : Value) (d' : Dsk) (w1 w2 : World) (hg : GoodD (N + 1) d') => (unhide HW2).twoD hkD hkR (w1 := w1) (w2 := w2) (v1 := v1) (v2 := v2) (d' := d') hg)
  have HU := hide (fun (v1 : Value) (d' : Dsk) (w1 : World) (h1 : DAt B 96 111 w1 D[k].p v1 d') (h2 : Upd D[k].p D[k].v v1 _ w1) => ((unhide HW2).sh.updD hkD h1 h2).1.r.each _ (List.getElem_mem hkR))
  have HD := hide ((unhide HW2).sh.d.each _ (List.getElem_mem hkD))
  have HQ := hide (show (W.alloc (.cells #[ptr D[k].p, ptr R[k].p] 74)).drew.heap[W.heap.size]? = some (.cells #[ptr D[k].p, ptr R[k].p] 74 (0, 0)) from heap_alloc_new W _)
  have HB0 := hide (show (W.alloc (.cells #[ptr D[k].p, ptr R[k].p] 74)).drew.heap[w.heap.size]? = some (.cells (acells kind on a n s vL) 36 (0, 0)) from (Below.heap_alloc _ _ _ (by omega)).trans hb0)
  have HTD := hide (fun (ha0 : -9223372036854775808 ≤ a) (ha : a ≤ 9223372036854775807) => shelf_told_go (unhide HW2) hN hkD hkR kind on a n s vL ha0 ha)
  clear h hk2 hW hDl hal hk3 hb0
  generalize D[k] = e at *
  generalize R[k] = f at *
  obtain ⟨p, v, d⟩ := e
  obtain ⟨q, u, d2⟩ := f
  have hx : d = d2 := (unhide HX).symm
  subst hx
  simp only [ptr] at *
  have hcgd : W.drew.cell? ⟨g, 0, none⟩ = some (.slice (some ⟨gl, 0, none⟩) D.length cl) := hcg
  have hc1d : W.drew.cell? ⟨w.heap.size, 1, none⟩ = some (.int .i64 on) := hc1
  have hcc0 : W.drew.cell? ⟨gl, k * 2, none⟩ = some (.pointer (some ⟨p, 0, none⟩)) := hcp.1
  have hcc1 : W.drew.cell? ⟨gl, k * 2 + 1, none⟩ = some (.pointer (some ⟨q, 0, none⟩)) := hcp.2
  have hkI : (k : Int) < (D.length : Int) := by omega
  have hk0 : (0 : Int) ≤ (k : Int) := by omega
  have HPI := hide hpick
  clear hpick hcp
  have hDne : ¬ (D.length : Int) = 0 := by omega
  have hWS := hide hWs
  clear hWs
  subst hk
  go_enter Tryd.func9, Tryd.ntmps9
  go_wp2_with fail
  rw [unhide HEW]
  clear hcgA
  go_region_held3 (fun w' => w'.cell? ⟨g, 0, none⟩ = some (.slice (some ⟨gl, 0, none⟩) D.length cl) ∧ w'.cell? ⟨w.heap.size, 1, none⟩ = some (.int .i64 on) ∧ w'.cell? ⟨gl, k * 2, none⟩ = some (.pointer (some ⟨p, 0, none⟩)) ∧ w'.cell? ⟨gl, k * 2 + 1, none⟩ = some (.pointer (some ⟨q, 0, none⟩))) (first | assumption | exact ⟨hcgd, hc1d, hcc0, hcc1⟩ | exact ⟨keep_ad hcgd, keep_ad hc1d, keep_ad hcc0, keep_ad hcc1⟩ | go_keep) (first | (go_at_call 14; (refine (unhide HPI _).mono ?_; rintro e w' ⟨rfl, rfl⟩)))
  all_goals
    have e1 : (W.alloc (.cells #[.pointer (some ⟨p, 0, none⟩), .pointer (some ⟨q, 0, none⟩)] 74)).heap.size = W.heap.size + 1 := World.size_alloc _ _
    have hz1 := unhide hWS
    generalize hW2 : (W.alloc (.cells #[.pointer (some ⟨p, 0, none⟩), .pointer (some ⟨q, 0, none⟩)] 74)).drew = W2 at *
    have hsz : W2.heap.size = w.heap.size + 1 + 1 := by rw [← hW2, ← hz1]; exact e1
    have hp0 : W2.cell? ⟨W.heap.size, 0, none⟩ = some (.pointer (some ⟨p, 0, none⟩)) := by rw [cell_of_row _ _ _ _ _ _ (unhide HQ)]; rfl
    have hp1 : W2.cell? ⟨W.heap.size, 1, none⟩ = some (.pointer (some ⟨q, 0, none⟩)) := by rw [cell_of_row _ _ _ _ _ _ (unhide HQ)]; rfl
    have ha0' : W2.cell? ⟨w.heap.size, 0, none⟩ = some (.int .i64 3) := by rw [cell_of_row _ _ _ _ _ _ (unhide HB0)]; rfl
    have ha3 : W2.cell? ⟨w.heap.size, 3, none⟩ = some (.string n) := by rw [cell_of_row _ _ _ _ _ _ (unhide HB0)]; rfl
    have ha4 : W2.cell? ⟨w.heap.size, 4, none⟩ = some (.string s) := by rw [cell_of_row _ _ _ _ _ _ (unhide HB0)]; rfl
    have HSZ := hide (And.intro hsz hz1)
    clear hW2 hcgd hc1d hcc0 hcc1 hcg hc1 e1 hsz hz1
    have hfl : d.files.length ≤ 4194303 := by have := (unhide HG).files; omega
    have hfb := (unhide HG).big hN
    have hlf := (unhide HG).left
    have hBW : B ≤ W2.heap.size := by have := unhide HSZ; omega
    have hBW3 : ∀ w3 v1 d', DAt B 96 111 w3 p v1 d' ∧ Upd p v v1 W2 w3 → B ≤ w3.heap.size := fun w3 v1 d' h => Nat.le_trans hBW h.2.size
    go_wp2_with fail
    refine (sync_go B W2 p v d n (unhide HD).1 hlf hfl hfb).mono ?_
    rintro _ w3 ⟨rfl, v1, h1⟩
    have HR3 := hide (unhide HU v1 _ w3 h1.1 h1.2)
    have hst : ∀ b, w.heap.size ≤ b → b < W2.heap.size → w3.heap[b]? = W2.heap[b]? := fun b hb hbl => h1.2.block b hbl (by have := (unhide HD0).1.lt; omega) fun e => by have := ((unhide HD0).1.own.lt _ e).2; omega
    have hq1 : w3.cell? ⟨W.heap.size, 1, none⟩ = some (.pointer (some ⟨q, 0, none⟩)) := by
      rw [cell_of_row _ _ _ _ _ _ ((hst _ (by have := (unhide HSZ).2; omega) (by have := unhide HSZ; omega)).trans (unhide HQ))]; rfl
    have hb3 : w3.cell? ⟨w.heap.size, 3, none⟩ = some (.string n) := by
      rw [cell_of_row _ _ _ _ _ _ ((hst _ (Nat.le_refl _) (by have := unhide HSZ; omega)).trans (unhide HB0))]; rfl
    have hb4 : w3.cell? ⟨w.heap.size, 4, none⟩ = some (.string s) := by
      rw [cell_of_row _ _ _ _ _ _ ((hst _ (Nat.le_refl _) (by have := unhide HSZ; omega)).trans (unhide HB0))]; rfl
    have H1 := hide h1
    clear h1 hst
    go_wp2_with fail
    refine (sync_ref B w3 q u d n (unhide HR3).1 hlf hfl hfb).mono ?_
    rintro _ w4 ⟨rfl, v2, h2⟩
    have H4 := hide (ste_after (unhide HB2) (unhide HT v1 v2 _ w3 w4 (good_sync (unhide HG)) (unhide H1) h2))
    clear h2
    generalize (!d.stopped) = bb
    cases bb
    all_goals go_wp2
    all_goals go_ret
    all_goals exact ok_of (by simp) (unhide H4)
set_option maxRecDepth 100000 in
set_option maxHeartbeats 4000000 in
theorem act_rename (h : Sw B g N w vl vs vn vm D R S T ls ms) (hN : N ≤ 1048576) (kind on a : Int) (n s : ByteArray) (vL : Value) (hk : kind = 4) (hon0 : -9223372036854775808 ≤ on) (hon : on ≤ 9223372036854775807) (hD0 : 0 < D.length) :
    Calls Tryd.prog 9 #[ptr g, .agg (acells kind on a n s vL)] w (okEnd B g N w) := by
  have hk2 : Kept w.heap.size w (w.alloc (.cells (acells kind on a n s vL) 36)) := (Kept.refl _ _).alloc (Nat.le_refl _) _
  have hnD := h.nD
  have hB := h.size
  obtain ⟨k, hkD, hpick⟩ := lawpick_uni on D.length hon0 hon hD0 (by omega)
  have hkR : k < R.length := by rw [h.lenD]; exact hkD
  obtain ⟨al, cl, hvl, _, hal⟩ := own_len h.sh.co.l
  have hDl : (D.map (·.p)).length = D.length := List.length_map _
  rw [hDl] at hvl hal
  obtain ⟨gl, rfl⟩ := hal hD0
  subst hvl
  have HW := hide (h.kept hk2)
  have HB := hide (hk2.mono h.size)
  have hb0 : (w.alloc (.cells (acells kind on a n s vL) 36)).heap[w.heap.size]? = some (.cells (acells kind on a n s vL) 36 (0, 0)) := heap_alloc_new _ _
  have hWs : (w.alloc (.cells (acells kind on a n s vL) 36)).heap.size = w.heap.size + 1 := by simp
  have hcgA : (w.alloc (.cells (acells kind on a n s vL) 36)).cell? ⟨g, 0, none⟩ = some (.slice (some ⟨gl, 0, none⟩) D.length cl) := by rw [cell_of_row _ _ _ _ _ _ (unhide HW).sh.co.at']; rfl
  generalize hW : w.alloc (.cells (acells kind on a n s vL) 36) = W at HW HB hb0 hWs
  have HEW := hide hW
  have hcg : W.cell? ⟨g, 0, none⟩ = some (.slice (some ⟨gl, 0, none⟩) D.length cl) := by rw [cell_of_row _ _ _ _ _ _ (unhide HW).sh.co.at']; rfl
  have hc1 : W.cell? ⟨w.heap.size, 1, none⟩ = some (.int .i64 on) := by rw [cell_of_row _ _ _ _ _ _ hb0]; rfl
  have hcp : W.cell? ⟨gl, k * 2, none⟩ = some (ptr D[k].p) ∧ W.cell? ⟨gl, k * 2 + 1, none⟩ = some (ptr R[k].p) := by
    have hl := (unhide HW).sh.co.l
    have := pcells_at (D.map (·.p)) (R.map (·.p)) k (unhide HW).sh.co.lp (by simpa using hkD)
    rw [hDl] at hl
    refine ⟨own_at2 hl ?_, own_at2 hl ?_⟩
    · rw [this.1]; simp [hkD]
    · rw [this.2]; simp [hkR]
  have HX := hide (h.xD hkD hkR)
  have HG := hide (h.gD _ (List.getElem_mem hkD))
  have HD0 := hide (h.sh.d.each _ (List.getElem_mem hkD))
  have hk3 : Kept W.heap.size W (W.alloc (.cells #[ptr D[k].p, ptr R[k].p] 74)).drew := ((Kept.refl _ _).alloc (Nat.le_refl _) _).draws 1
  have HW2 := hide ((unhide HW).kept hk3)
  have HB2 := hide ((unhide HB).trans (hk3.mono (unhide HW).size))
  have HT := hide (fun (v1 v2 : Value) (d' : Dsk) (w1 w2 : World) (hg : GoodD (N + 1) d') => (unhide HW2).twoD hkD hkR (w1 := w1) (w2 := w2) (v1 := v1) (v2 := v2) (d' := d') hg)
  have HU := hide (fun (v1 : Value) (d' : Dsk) (w1 : World) (h1 : DAt B 96 111 w1 D[k].p v1 d') (h2 : Upd D[k].p D[k].v v1 _ w1) => ((unhide HW2).sh.updD hkD h1 h2).1.r.each _ (List.getElem_mem hkR))
  have HD := hide ((unhide HW2).sh.d.each _ (List.getElem_mem hkD))
  have HQ := hide (show (W.alloc (.cells #[ptr D[k].p, ptr R[k].p] 74)).drew.heap[W.heap.size]? = some (.cells #[ptr D[k].p, ptr R[k].p] 74 (0, 0)) from heap_alloc_new W _)
  have HB0 := hide (show (W.alloc (.cells #[ptr D[k].p, ptr R[k].p] 74)).drew.heap[w.heap.size]? = some (.cells (acells kind on a n s vL) 36 (0, 0)) from (Below.heap_alloc _ _ _ (by omega)).trans hb0)
  have HTD := hide (fun (ha0 : -9223372036854775808 ≤ a) (ha : a ≤ 9223372036854775807) => shelf_told_go (unhide HW2) hN hkD hkR kind on a n s vL ha0 ha)
  clear h hk2 hW hDl hal hk3 hb0
  generalize D[k] = e at *
  generalize R[k] = f at *
  obtain ⟨p, v, d⟩ := e
  obtain ⟨q, u, d2⟩ := f
  have hx : d = d2 := (unhide HX).symm
  subst hx
  simp only [ptr] at *
  have hcgd : W.drew.cell? ⟨g, 0, none⟩ = some (.slice (some ⟨gl, 0, none⟩) D.length cl) := hcg
  have hc1d : W.drew.cell? ⟨w.heap.size, 1, none⟩ = some (.int .i64 on) := hc1
  have hcc0 : W.drew.cell? ⟨gl, k * 2, none⟩ = some (.pointer (some ⟨p, 0, none⟩)) := hcp.1
  have hcc1 : W.drew.cell? ⟨gl, k * 2 + 1, none⟩ = some (.pointer (some ⟨q, 0, none⟩)) := hcp.2
  have hkI : (k : Int) < (D.length : Int) := by omega
  have hk0 : (0 : Int) ≤ (k : Int) := by omega
  have HPI := hide hpick
  clear hpick hcp
  have hDne : ¬ (D.length : Int) = 0 := by omega
  have hWS := hide hWs
  clear hWs
  subst hk
  go_enter Tryd.func9, Tryd.ntmps9
  go_wp2_with fail
  rw [unhide HEW]
  clear hcgA
  go_region_held3 (fun w' => w'.cell? ⟨g, 0, none⟩ = some (.slice (some ⟨gl, 0, none⟩) D.length cl) ∧ w'.cell? ⟨w.heap.size, 1, none⟩ = some (.int .i64 on) ∧ w'.cell? ⟨gl, k * 2, none⟩ = some (.pointer (some ⟨p, 0, none⟩)) ∧ w'.cell? ⟨gl, k * 2 + 1, none⟩ = some (.pointer (some ⟨q, 0, none⟩))) (first | assumption | exact ⟨hcgd, hc1d, hcc0, hcc1⟩ | exact ⟨keep_ad hcgd, keep_ad hc1d, keep_ad hcc0, keep_ad hcc1⟩ | go_keep) (first | (go_at_call 14; (refine (unhide HPI _).mono ?_; rintro e w' ⟨rfl, rfl⟩)))
  all_goals
    have e1 : (W.alloc (.cells #[.pointer (some ⟨p, 0, none⟩), .pointer (some ⟨q, 0, none⟩)] 74)).heap.size = W.heap.size + 1 := World.size_alloc _ _
    have hz1 := unhide hWS
    generalize hW2 : (W.alloc (.cells #[.pointer (some ⟨p, 0, none⟩), .pointer (some ⟨q, 0, none⟩)] 74)).drew = W2 at *
    have hsz : W2.heap.size = w.heap.size + 1 + 1 := by rw [← hW2, ← hz1]; exact e1
    have hp0 : W2.cell? ⟨W.heap.size, 0, none⟩ = some (.pointer (some ⟨p, 0, none⟩)) := by rw [cell_of_row _ _ _ _ _ _ (unhide HQ)]; rfl
    have hp1 : W2.cell? ⟨W.heap.size, 1, none⟩ = some (.pointer (some ⟨q, 0, none⟩)) := by rw [cell_of_row _ _ _ _ _ _ (unhide HQ)]; rfl
    have ha0' : W2.cell? ⟨w.heap.size, 0, none⟩ = some (.int .i64 4) := by rw [cell_of_row _ _ _ _ _ _ (unhide HB0)]; rfl
    have ha3 : W2.cell? ⟨w.heap.size, 3, none⟩ = some (.string n) := by rw [cell_of_row _ _ _ _ _ _ (unhide HB0)]; rfl
    have ha4 : W2.cell? ⟨w.heap.size, 4, none⟩ = some (.string s) := by rw [cell_of_row _ _ _ _ _ _ (unhide HB0)]; rfl
    have HSZ := hide (And.intro hsz hz1)
    clear hW2 hcgd hc1d hcc0 hcc1 hcg hc1 e1 hsz hz1
    have hfl : d.files.length ≤ 4194303 := by have := (unhide HG).files; omega
    have hfb := (unhide HG).big hN
    have hlf := (unhide HG).left
    have hBW : B ≤ W2.heap.size := by have := unhide HSZ; omega
    have hBW3 : ∀ w3 v1 d', DAt B 96 111 w3 p v1 d' ∧ Upd p v v1 W2 w3 → B ≤ w3.heap.size := fun w3 v1 d' h => Nat.le_trans hBW h.2.size
    go_wp2_with fail
    refine (rename_go B W2 p v d n s (unhide HD).1 hBW hlf hfl).mono ?_
    rintro _ w3 ⟨rfl, v1, h1⟩
    have HR3 := hide (unhide HU v1 _ w3 h1.1 h1.2)
    have hst : ∀ b, w.heap.size ≤ b → b < W2.heap.size → w3.heap[b]? = W2.heap[b]? := fun b hb hbl => h1.2.block b hbl (by have := (unhide HD0).1.lt; omega) fun e => by have := ((unhide HD0).1.own.lt _ e).2; omega
    have hq1 : w3.cell? ⟨W.heap.size, 1, none⟩ = some (.pointer (some ⟨q, 0, none⟩)) := by
      rw [cell_of_row _ _ _ _ _ _ ((hst _ (by have := (unhide HSZ).2; omega) (by have := unhide HSZ; omega)).trans (unhide HQ))]; rfl
    have hb3 : w3.cell? ⟨w.heap.size, 3, none⟩ = some (.string n) := by
      rw [cell_of_row _ _ _ _ _ _ ((hst _ (Nat.le_refl _) (by have := unhide HSZ; omega)).trans (unhide HB0))]; rfl
    have hb4 : w3.cell? ⟨w.heap.size, 4, none⟩ = some (.string s) := by
      rw [cell_of_row _ _ _ _ _ _ ((hst _ (Nat.le_refl _) (by have := unhide HSZ; omega)).trans (unhide HB0))]; rfl
    have H1 := hide h1
    clear h1 hst
    go_wp2_with fail
    refine (rename_ref B w3 q u d n s (unhide HR3).1 (hBW3 w3 _ _ (unhide H1)) hlf hfl).mono ?_
    rintro _ w4 ⟨rfl, v2, h2⟩
    have H4 := hide (ste_after (unhide HB2) (unhide HT v1 v2 _ w3 w4 (good_rename (unhide HG)) (unhide H1) h2))
    clear h2
    generalize (!d.stopped) = bb
    cases bb
    all_goals go_wp2
    all_goals go_ret
    all_goals exact ok_of (by simp) (unhide H4)
set_option maxRecDepth 100000 in
set_option maxHeartbeats 4000000 in
theorem act_remove (h : Sw B g N w vl vs vn vm D R S T ls ms) (hN : N ≤ 1048576) (kind on a : Int) (n s : ByteArray) (vL : Value) (hk : kind = 5) (hon0 : -9223372036854775808 ≤ on) (hon : on ≤ 9223372036854775807) (hD0 : 0 < D.length) :
    Calls Tryd.prog 9 #[ptr g, .agg (acells kind on a n s vL)] w (okEnd B g N w) := by
  have hk2 : Kept w.heap.size w (w.alloc (.cells (acells kind on a n s vL) 36)) := (Kept.refl _ _).alloc (Nat.le_refl _) _
  have hnD := h.nD
  have hB := h.size
  obtain ⟨k, hkD, hpick⟩ := lawpick_uni on D.length hon0 hon hD0 (by omega)
  have hkR : k < R.length := by rw [h.lenD]; exact hkD
  obtain ⟨al, cl, hvl, _, hal⟩ := own_len h.sh.co.l
  have hDl : (D.map (·.p)).length = D.length := List.length_map _
  rw [hDl] at hvl hal
  obtain ⟨gl, rfl⟩ := hal hD0
  subst hvl
  have HW := hide (h.kept hk2)
  have HB := hide (hk2.mono h.size)
  have hb0 : (w.alloc (.cells (acells kind on a n s vL) 36)).heap[w.heap.size]? = some (.cells (acells kind on a n s vL) 36 (0, 0)) := heap_alloc_new _ _
  have hWs : (w.alloc (.cells (acells kind on a n s vL) 36)).heap.size = w.heap.size + 1 := by simp
  have hcgA : (w.alloc (.cells (acells kind on a n s vL) 36)).cell? ⟨g, 0, none⟩ = some (.slice (some ⟨gl, 0, none⟩) D.length cl) := by rw [cell_of_row _ _ _ _ _ _ (unhide HW).sh.co.at']; rfl
  generalize hW : w.alloc (.cells (acells kind on a n s vL) 36) = W at HW HB hb0 hWs
  have HEW := hide hW
  have hcg : W.cell? ⟨g, 0, none⟩ = some (.slice (some ⟨gl, 0, none⟩) D.length cl) := by rw [cell_of_row _ _ _ _ _ _ (unhide HW).sh.co.at']; rfl
  have hc1 : W.cell? ⟨w.heap.size, 1, none⟩ = some (.int .i64 on) := by rw [cell_of_row _ _ _ _ _ _ hb0]; rfl
  have hcp : W.cell? ⟨gl, k * 2, none⟩ = some (ptr D[k].p) ∧ W.cell? ⟨gl, k * 2 + 1, none⟩ = some (ptr R[k].p) := by
    have hl := (unhide HW).sh.co.l
    have := pcells_at (D.map (·.p)) (R.map (·.p)) k (unhide HW).sh.co.lp (by simpa using hkD)
    rw [hDl] at hl
    refine ⟨own_at2 hl ?_, own_at2 hl ?_⟩
    · rw [this.1]; simp [hkD]
    · rw [this.2]; simp [hkR]
  have HX := hide (h.xD hkD hkR)
  have HG := hide (h.gD _ (List.getElem_mem hkD))
  have HD0 := hide (h.sh.d.each _ (List.getElem_mem hkD))
  have hk3 : Kept W.heap.size W (W.alloc (.cells #[ptr D[k].p, ptr R[k].p] 74)).drew := ((Kept.refl _ _).alloc (Nat.le_refl _) _).draws 1
  have HW2 := hide ((unhide HW).kept hk3)
  have HB2 := hide ((unhide HB).trans (hk3.mono (unhide HW).size))
  have HT := hide (fun (v1 v2 : Value) (d' : Dsk) (w1 w2 : World) (hg : GoodD (N + 1) d') => (unhide HW2).twoD hkD hkR (w1 := w1) (w2 := w2) (v1 := v1) (v2 := v2) (d' := d') hg)
  have HU := hide (fun (v1 : Value) (d' : Dsk) (w1 : World) (h1 : DAt B 96 111 w1 D[k].p v1 d') (h2 : Upd D[k].p D[k].v v1 _ w1) => ((unhide HW2).sh.updD hkD h1 h2).1.r.each _ (List.getElem_mem hkR))
  have HD := hide ((unhide HW2).sh.d.each _ (List.getElem_mem hkD))
  have HQ := hide (show (W.alloc (.cells #[ptr D[k].p, ptr R[k].p] 74)).drew.heap[W.heap.size]? = some (.cells #[ptr D[k].p, ptr R[k].p] 74 (0, 0)) from heap_alloc_new W _)
  have HB0 := hide (show (W.alloc (.cells #[ptr D[k].p, ptr R[k].p] 74)).drew.heap[w.heap.size]? = some (.cells (acells kind on a n s vL) 36 (0, 0)) from (Below.heap_alloc _ _ _ (by omega)).trans hb0)
  have HTD := hide (fun (ha0 : -9223372036854775808 ≤ a) (ha : a ≤ 9223372036854775807) => shelf_told_go (unhide HW2) hN hkD hkR kind on a n s vL ha0 ha)
  clear h hk2 hW hDl hal hk3 hb0
  generalize D[k] = e at *
  generalize R[k] = f at *
  obtain ⟨p, v, d⟩ := e
  obtain ⟨q, u, d2⟩ := f
  have hx : d = d2 := (unhide HX).symm
  subst hx
  simp only [ptr] at *
  have hcgd : W.drew.cell? ⟨g, 0, none⟩ = some (.slice (some ⟨gl, 0, none⟩) D.length cl) := hcg
  have hc1d : W.drew.cell? ⟨w.heap.size, 1, none⟩ = some (.int .i64 on) := hc1
  have hcc0 : W.drew.cell? ⟨gl, k * 2, none⟩ = some (.pointer (some ⟨p, 0, none⟩)) := hcp.1
  have hcc1 : W.drew.cell? ⟨gl, k * 2 + 1, none⟩ = some (.pointer (some ⟨q, 0, none⟩)) := hcp.2
  have hkI : (k : Int) < (D.length : Int) := by omega
  have hk0 : (0 : Int) ≤ (k : Int) := by omega
  have HPI := hide hpick
  clear hpick hcp
  have hDne : ¬ (D.length : Int) = 0 := by omega
  have hWS := hide hWs
  clear hWs
  subst hk
  go_enter Tryd.func9, Tryd.ntmps9
  go_wp2_with fail
  rw [unhide HEW]
  clear hcgA
  go_region_held3 (fun w' => w'.cell? ⟨g, 0, none⟩ = some (.slice (some ⟨gl, 0, none⟩) D.length cl) ∧ w'.cell? ⟨w.heap.size, 1, none⟩ = some (.int .i64 on) ∧ w'.cell? ⟨gl, k * 2, none⟩ = some (.pointer (some ⟨p, 0, none⟩)) ∧ w'.cell? ⟨gl, k * 2 + 1, none⟩ = some (.pointer (some ⟨q, 0, none⟩))) (first | assumption | exact ⟨hcgd, hc1d, hcc0, hcc1⟩ | exact ⟨keep_ad hcgd, keep_ad hc1d, keep_ad hcc0, keep_ad hcc1⟩ | go_keep) (first | (go_at_call 14; (refine (unhide HPI _).mono ?_; rintro e w' ⟨rfl, rfl⟩)))
  all_goals
    have e1 : (W.alloc (.cells #[.pointer (some ⟨p, 0, none⟩), .pointer (some ⟨q, 0, none⟩)] 74)).heap.size = W.heap.size + 1 := World.size_alloc _ _
    have hz1 := unhide hWS
    generalize hW2 : (W.alloc (.cells #[.pointer (some ⟨p, 0, none⟩), .pointer (some ⟨q, 0, none⟩)] 74)).drew = W2 at *
    have hsz : W2.heap.size = w.heap.size + 1 + 1 := by rw [← hW2, ← hz1]; exact e1
    have hp0 : W2.cell? ⟨W.heap.size, 0, none⟩ = some (.pointer (some ⟨p, 0, none⟩)) := by rw [cell_of_row _ _ _ _ _ _ (unhide HQ)]; rfl
    have hp1 : W2.cell? ⟨W.heap.size, 1, none⟩ = some (.pointer (some ⟨q, 0, none⟩)) := by rw [cell_of_row _ _ _ _ _ _ (unhide HQ)]; rfl
    have ha0' : W2.cell? ⟨w.heap.size, 0, none⟩ = some (.int .i64 5) := by rw [cell_of_row _ _ _ _ _ _ (unhide HB0)]; rfl
    have ha3 : W2.cell? ⟨w.heap.size, 3, none⟩ = some (.string n) := by rw [cell_of_row _ _ _ _ _ _ (unhide HB0)]; rfl
    have ha4 : W2.cell? ⟨w.heap.size, 4, none⟩ = some (.string s) := by rw [cell_of_row _ _ _ _ _ _ (unhide HB0)]; rfl
    have HSZ := hide (And.intro hsz hz1)
    clear hW2 hcgd hc1d hcc0 hcc1 hcg hc1 e1 hsz hz1
    have hfl : d.files.length ≤ 4194303 := by have := (unhide HG).files; omega
    have hfb := (unhide HG).big hN
    have hlf := (unhide HG).left
    have hBW : B ≤ W2.heap.size := by have := unhide HSZ; omega
    have hBW3 : ∀ w3 v1 d', DAt B 96 111 w3 p v1 d' ∧ Upd p v v1 W2 w3 → B ≤ w3.heap.size := fun w3 v1 d' h => Nat.le_trans hBW h.2.size
    go_wp2_with fail
    refine (remove_go B W2 p v d n (unhide HD).1 hBW hlf hfl).mono ?_
    rintro _ w3 ⟨rfl, v1, h1⟩
    have HR3 := hide (unhide HU v1 _ w3 h1.1 h1.2)
    have hst : ∀ b, w.heap.size ≤ b → b < W2.heap.size → w3.heap[b]? = W2.heap[b]? := fun b hb hbl => h1.2.block b hbl (by have := (unhide HD0).1.lt; omega) fun e => by have := ((unhide HD0).1.own.lt _ e).2; omega
    have hq1 : w3.cell? ⟨W.heap.size, 1, none⟩ = some (.pointer (some ⟨q, 0, none⟩)) := by
      rw [cell_of_row _ _ _ _ _ _ ((hst _ (by have := (unhide HSZ).2; omega) (by have := unhide HSZ; omega)).trans (unhide HQ))]; rfl
    have hb3 : w3.cell? ⟨w.heap.size, 3, none⟩ = some (.string n) := by
      rw [cell_of_row _ _ _ _ _ _ ((hst _ (Nat.le_refl _) (by have := unhide HSZ; omega)).trans (unhide HB0))]; rfl
    have hb4 : w3.cell? ⟨w.heap.size, 4, none⟩ = some (.string s) := by
      rw [cell_of_row _ _ _ _ _ _ ((hst _ (Nat.le_refl _) (by have := unhide HSZ; omega)).trans (unhide HB0))]; rfl
    have H1 := hide h1
    clear h1 hst
    go_wp2_with fail
    refine (remove_ref B w3 q u d n (unhide HR3).1 (hBW3 w3 _ _ (unhide H1)) hlf hfl).mono ?_
    rintro _ w4 ⟨rfl, v2, h2⟩
    have H4 := hide (ste_after (unhide HB2) (unhide HT v1 v2 _ w3 w4 (good_remove (unhide HG)) (unhide H1) h2))
    clear h2
    generalize (!d.stopped) = bb
    cases bb
    all_goals go_wp2
    all_goals go_ret
    all_goals exact ok_of (by simp) (unhide H4)
set_option maxRecDepth 100000 in
set_option maxHeartbeats 4000000 in
theorem act_told (h : Sw B g N w vl vs vn vm D R S T ls ms) (hN : N ≤ 1048576) (kind on a : Int) (n s : ByteArray) (vL : Value) (hk : kind < 1 ∨ 5 < kind ∧ kind < 11) (hon0 : -9223372036854775808 ≤ on) (hon : on ≤ 9223372036854775807) (hD0 : 0 < D.length) (ha0 : -9223372036854775808 ≤ a) (ha : a ≤ 9223372036854775807) :
    Calls Tryd.prog 9 #[ptr g, .agg (acells kind on a n s vL)] w (okEnd B g N w) := by
  have hk2 : Kept w.heap.size w (w.alloc (.cells (acells kind on a n s vL) 36)) := (Kept.refl _ _).alloc (Nat.le_refl _) _
  have hnD := h.nD
  have hB := h.size
  obtain ⟨k, hkD, hpick⟩ := lawpick_uni on D.length hon0 hon hD0 (by omega)
  have hkR : k < R.length := by rw [h.lenD]; exact hkD
  obtain ⟨al, cl, hvl, _, hal⟩ := own_len h.sh.co.l
  have hDl : (D.map (·.p)).length = D.length := List.length_map _
  rw [hDl] at hvl hal
  obtain ⟨gl, rfl⟩ := hal hD0
  subst hvl
  have HW := hide (h.kept hk2)
  have HB := hide (hk2.mono h.size)
  have hb0 : (w.alloc (.cells (acells kind on a n s vL) 36)).heap[w.heap.size]? = some (.cells (acells kind on a n s vL) 36 (0, 0)) := heap_alloc_new _ _
  have hWs : (w.alloc (.cells (acells kind on a n s vL) 36)).heap.size = w.heap.size + 1 := by simp
  have hcgA : (w.alloc (.cells (acells kind on a n s vL) 36)).cell? ⟨g, 0, none⟩ = some (.slice (some ⟨gl, 0, none⟩) D.length cl) := by rw [cell_of_row _ _ _ _ _ _ (unhide HW).sh.co.at']; rfl
  generalize hW : w.alloc (.cells (acells kind on a n s vL) 36) = W at HW HB hb0 hWs
  have HEW := hide hW
  have hcg : W.cell? ⟨g, 0, none⟩ = some (.slice (some ⟨gl, 0, none⟩) D.length cl) := by rw [cell_of_row _ _ _ _ _ _ (unhide HW).sh.co.at']; rfl
  have hc1 : W.cell? ⟨w.heap.size, 1, none⟩ = some (.int .i64 on) := by rw [cell_of_row _ _ _ _ _ _ hb0]; rfl
  have hcp : W.cell? ⟨gl, k * 2, none⟩ = some (ptr D[k].p) ∧ W.cell? ⟨gl, k * 2 + 1, none⟩ = some (ptr R[k].p) := by
    have hl := (unhide HW).sh.co.l
    have := pcells_at (D.map (·.p)) (R.map (·.p)) k (unhide HW).sh.co.lp (by simpa using hkD)
    rw [hDl] at hl
    refine ⟨own_at2 hl ?_, own_at2 hl ?_⟩
    · rw [this.1]; simp [hkD]
    · rw [this.2]; simp [hkR]
  have HX := hide (h.xD hkD hkR)
  have HG := hide (h.gD _ (List.getElem_mem hkD))
  have HD0 := hide (h.sh.d.each _ (List.getElem_mem hkD))
  have hk3 : Kept W.heap.size W (W.alloc (.cells #[ptr D[k].p, ptr R[k].p] 74)).drew := ((Kept.refl _ _).alloc (Nat.le_refl _) _).draws 1
  have HW2 := hide ((unhide HW).kept hk3)
  have HB2 := hide ((unhide HB).trans (hk3.mono (unhide HW).size))
  have HT := hide (fun (v1 v2 : Value) (d' : Dsk) (w1 w2 : World) (hg : GoodD (N + 1) d') => (unhide HW2).twoD hkD hkR (w1 := w1) (w2 := w2) (v1 := v1) (v2 := v2) (d' := d') hg)
  have HU := hide (fun (v1 : Value) (d' : Dsk) (w1 : World) (h1 : DAt B 96 111 w1 D[k].p v1 d') (h2 : Upd D[k].p D[k].v v1 _ w1) => ((unhide HW2).sh.updD hkD h1 h2).1.r.each _ (List.getElem_mem hkR))
  have HD := hide ((unhide HW2).sh.d.each _ (List.getElem_mem hkD))
  have HQ := hide (show (W.alloc (.cells #[ptr D[k].p, ptr R[k].p] 74)).drew.heap[W.heap.size]? = some (.cells #[ptr D[k].p, ptr R[k].p] 74 (0, 0)) from heap_alloc_new W _)
  have HB0 := hide (show (W.alloc (.cells #[ptr D[k].p, ptr R[k].p] 74)).drew.heap[w.heap.size]? = some (.cells (acells kind on a n s vL) 36 (0, 0)) from (Below.heap_alloc _ _ _ (by omega)).trans hb0)
  have HTD := hide (fun (ha0 : -9223372036854775808 ≤ a) (ha : a ≤ 9223372036854775807) => shelf_told_go (unhide HW2) hN hkD hkR kind on a n s vL ha0 ha)
  clear h hk2 hW hDl hal hk3 hb0
  generalize D[k] = e at *
  generalize R[k] = f at *
  obtain ⟨p, v, d⟩ := e
  obtain ⟨q, u, d2⟩ := f
  have hx : d = d2 := (unhide HX).symm
  subst hx
  simp only [ptr] at *
  have hcgd : W.drew.cell? ⟨g, 0, none⟩ = some (.slice (some ⟨gl, 0, none⟩) D.length cl) := hcg
  have hc1d : W.drew.cell? ⟨w.heap.size, 1, none⟩ = some (.int .i64 on) := hc1
  have hcc0 : W.drew.cell? ⟨gl, k * 2, none⟩ = some (.pointer (some ⟨p, 0, none⟩)) := hcp.1
  have hcc1 : W.drew.cell? ⟨gl, k * 2 + 1, none⟩ = some (.pointer (some ⟨q, 0, none⟩)) := hcp.2
  have hkI : (k : Int) < (D.length : Int) := by omega
  have hk0 : (0 : Int) ≤ (k : Int) := by omega
  have HPI := hide hpick
  clear hpick hcp
  have hDne : ¬ (D.length : Int) = 0 := by omega
  have hWS := hide hWs
  clear hWs
  have hn1 : ¬ kind = 1 := by omega
  have hn2 : ¬ kind = 2 := by omega
  have hn3 : ¬ kind = 3 := by omega
  have hn4 : ¬ kind = 4 := by omega
  have hn5 : ¬ kind = 5 := by omega
  have hn11 : ¬ 11 ≤ kind := by omega
  go_enter Tryd.func9, Tryd.ntmps9
  go_wp2_with fail
  rw [unhide HEW]
  clear hcgA
  go_region_held3 (fun w' => w'.cell? ⟨g, 0, none⟩ = some (.slice (some ⟨gl, 0, none⟩) D.length cl) ∧ w'.cell? ⟨w.heap.size, 1, none⟩ = some (.int .i64 on) ∧ w'.cell? ⟨gl, k * 2, none⟩ = some (.pointer (some ⟨p, 0, none⟩)) ∧ w'.cell? ⟨gl, k * 2 + 1, none⟩ = some (.pointer (some ⟨q, 0, none⟩))) (first | assumption | exact ⟨hcgd, hc1d, hcc0, hcc1⟩ | exact ⟨keep_ad hcgd, keep_ad hc1d, keep_ad hcc0, keep_ad hcc1⟩ | go_keep) (first | (go_at_call 14; (refine (unhide HPI _).mono ?_; rintro e w' ⟨rfl, rfl⟩)))
  all_goals
    have e1 : (W.alloc (.cells #[.pointer (some ⟨p, 0, none⟩), .pointer (some ⟨q, 0, none⟩)] 74)).heap.size = W.heap.size + 1 := World.size_alloc _ _
    have hz1 := unhide hWS
    generalize hW2 : (W.alloc (.cells #[.pointer (some ⟨p, 0, none⟩), .pointer (some ⟨q, 0, none⟩)] 74)).drew = W2 at *
    have hsz : W2.heap.size = w.heap.size + 1 + 1 := by rw [← hW2, ← hz1]; exact e1
    have hp0 : W2.cell? ⟨W.heap.size, 0, none⟩ = some (.pointer (some ⟨p, 0, none⟩)) := by rw [cell_of_row _ _ _ _ _ _ (unhide HQ)]; rfl
    have hp1 : W2.cell? ⟨W.heap.size, 1, none⟩ = some (.pointer (some ⟨q, 0, none⟩)) := by rw [cell_of_row _ _ _ _ _ _ (unhide HQ)]; rfl
    have ha0' : W2.cell? ⟨w.heap.size, 0, none⟩ = some (.int .i64 kind) := by rw [cell_of_row _ _ _ _ _ _ (unhide HB0)]; rfl
    have ha3 : W2.cell? ⟨w.heap.size, 3, none⟩ = some (.string n) := by rw [cell_of_row _ _ _ _ _ _ (unhide HB0)]; rfl
    have ha4 : W2.cell? ⟨w.heap.size, 4, none⟩ = some (.string s) := by rw [cell_of_row _ _ _ _ _ _ (unhide HB0)]; rfl
    have HSZ := hide (And.intro hsz hz1)
    clear hW2 hcgd hc1d hcc0 hcc1 hcg hc1 e1 hsz hz1
    have ha1 : W2.cell? ⟨w.heap.size, 1, none⟩ = some (.int .i64 on) := by rw [cell_of_row _ _ _ _ _ _ (unhide HB0)]; rfl
    have ha2 : W2.cell? ⟨w.heap.size, 2, none⟩ = some (.int .i64 a) := by rw [cell_of_row _ _ _ _ _ _ (unhide HB0)]; rfl
    have ha5 : W2.cell? ⟨w.heap.size, 5, none⟩ = some vL := by rw [cell_of_row _ _ _ _ _ _ (unhide HB0)]; rfl
    go_wp2_with fail
    refine (unhide HTD ha0 ha).mono ?_
    rintro _ w3 ⟨rfl, h3⟩
    have H3 := hide (ste_after (unhide HB2) h3)
    clear h3
    go_wp2
    all_goals go_ret
    all_goals exact ok_of rfl (unhide H3)
end
end Go.Proofs.YtfodibjlldmnpaaDoor
