/-
  shelf.sink: Fail.
-/
import Derived.Test.YtfodibjlldmnpaaDoorJSn
namespace Go.Proofs.YtfodibjlldmnpaaDoor
open Go.RowKit

section
variable {B g N : Nat} {w w1 w2 w3 : World} {vl vs vn vm : Value} {D R : List (Loc Dsk)} {S T : List (Loc Snk)} {ls : List Value} {ms : List ByteArray}
/-- Both sinks fail from now on as told; then the lent list is written over. -/
theorem Sw.failS {W2 W3 W4 W5 wz : World} (h : Sw B g N W2 vl vs vn vm D R S T ls ms) {i : Nat} (hi : i < S.length) (hj : i < T.length) {v1 v2 : Value} {d' : Snk} (hg : GoodS (N + 1) d') (k3 : Kept W2.heap.size W2 W3) (hty : TyAt W3 W2.heap.size 3)
    (h1 : SAt B 135 W4 S[i].p v1 d' ∧ Upd S[i].p S[i].v v1 W3 W4) (h2 : SAt B 104 W5 T[i].p v2 d' ∧ Upd T[i].p T[i].v v2 W4 W5) (hO : Other W2.heap.size W5 wz) : StE B g (N + 1) wz ∧ Kept B W2 wz := by
  have hB := h.size
  have h3 := h.kept k3
  have a := h3.sh.updS hi h1.1 h1.2
  have b := a.1.updT hj h2.1 h2.2
  have hlt := hty.lt
  have e3S := h3.sh.k.each _ (List.getElem_mem hi)
  have e3T := h3.sh.t.each _ (List.getElem_mem hj)
  have rS : ∀ e ∈ S, e.v.ownBlock ≠ some W2.heap.size := fun e he hk => by have := ((wk B).row (h.sh.k.each e he) hk).1.lt; omega
  have rT : ∀ e ∈ T, e.v.ownBlock ≠ some W2.heap.size := fun e he hk => by have := ((wt B).row (h.sh.t.each e he) hk).1.lt; omega
  have nS : ∀ e ∈ S.set i ⟨S[i].p, v1, d'⟩, e.v.ownBlock ≠ some W2.heap.size := fun e he hk => by
    rcases mem_set he with rfl | ⟨j, hj, _, rfl⟩
    · rcases h1.2.new _ hk with h4 | h4
      · exact rS _ (List.getElem_mem hi) h4
      · omega
    · exact rS _ (List.getElem_mem hj) hk
  have nT : ∀ e ∈ T.set i ⟨T[i].p, v2, d'⟩, e.v.ownBlock ≠ some W2.heap.size := fun e he hk => by
    rcases mem_set he with rfl | ⟨j, hj, _, rfl⟩
    · rcases h2.2.new _ hk with h4 | h4
      · exact rT _ (List.getElem_mem hj) h4
      · have := h1.2.size; omega
    · exact rT _ (List.getElem_mem hj) hk
  have t4 : TyAt W4 W2.heap.size 3 := by
    obtain ⟨cs, hc⟩ := hty
    exact ⟨cs, (h1.2.block _ hlt (fun e => by have := (h.sh.k.each _ (List.getElem_mem hi)).1.lt; omega) (rS _ (List.getElem_mem hi))).trans hc⟩
  have t5 : TyAt W5 W2.heap.size 3 := by
    have t4l := t4.lt
    obtain ⟨cs, hc⟩ := t4
    exact ⟨cs, (h2.2.block _ t4l (fun e => by have := (h.sh.t.each _ (List.getElem_mem hj)).1.lt; omega) (rT _ (List.getElem_mem hj))).trans hc⟩
  have hne : ∀ k t, TyAt W5 k t → t ≠ 3 → wz.heap[k]? = W5.heap[k]? := fun k t ht h3 => hO.block k ht.lt (ht.ne t5 h3)
  refine ⟨⟨_, _, _, _, _, _, _, _, _, _, ⟨b.1.co.stay fun k t ht hq => hne k t ht (by rintro rfl; simp at hq), b.1.d.frame (wd B) (fun k ht _ => hne k _ ht (by decide)) fun k ht _ => hne k _ ht (by decide), b.1.r.frame (wr B) (fun k ht _ => hne k _ ht (by decide)) fun k ht _ => hne k _ ht (by decide),
    b.1.k.frame (wk B) (fun k ht _ => hne k _ ht (by decide)) fun k ht ⟨e, he, hek⟩ => hO.block k ht.lt fun e' => nS e he (by rw [hek, e']), b.1.t.frame (wt B) (fun k ht _ => hne k _ ht (by decide)) fun k ht ⟨e, he, hek⟩ => hO.block k ht.lt fun e' => nT e he (by rw [hek, e']), b.1.x⟩, h.eqD, ?_, by have := h.nD; omega, by rw [List.length_set]; have := h.nS; omega, by have := h.nL; omega, fun e he => (h.gD e he).mono (by omega), fun e he => ?_⟩,
    ((k3.mono hB).trans (a.2.trans b.2)).trans ⟨hO.os, hO.output, hO.size, fun k hk => hO.block k (by have := t5.lt; omega) (by omega)⟩⟩
  · rw [List.map_set, List.map_set, h.eqS]
  · rcases mem_set he with rfl | ⟨j, hj, _, rfl⟩
    · exact hg
    · exact (h.gS _ (List.getElem_mem hj)).mono (by omega)
/-- The lent list behind i rounds. -/
abbrev ovr (L : List Int) (i : Nat) : List Int := List.replicate i 1 ++ (L ++ [-77]).drop i
theorem ovr_len (L : List Int) {i : Nat} (hi : i ≤ L.length + 1) : (ovr L i).length = L.length + 1 := by simp [ovr]; omega
theorem ovr_get (L : List Int) {i : Nat} (_hi : i ≤ L.length) : (ovr L i).getD i 0 = (L ++ [-77]).getD i 0 := by
  rw [List.getD_eq_getElem?_getD, ovr, List.getElem?_append_right (by simp), List.length_replicate, Nat.sub_self, List.getElem?_drop, List.getD_eq_getElem?_getD]
  rfl
theorem ovr_set (L : List Int) {i : Nat} (hi : i ≤ L.length) : (ovr L i).set i 1 = ovr L (i + 1) := by
  rw [ovr, List.set_append_right _ _ (by simp), List.length_replicate, Nat.sub_self, ovr, List.replicate_succ', List.append_assoc]
  congr 1
  rw [List.drop_eq_getElem_cons (by simp; omega)]
  rfl
theorem irow_at {w : World} {gL : Nat} {l : List Int} (h : w.heap[gL]? = some (.cells (icells l).toArray 3 (0, 0))) {i : Nat} (hi : i < l.length) : w.cell? ⟨gL, i, none⟩ = some (.int .i64 (l.getD i 0)) := by
  rw [cell_of_row _ _ _ _ _ _ h, List.getElem?_toArray, icells, List.getElem?_map, List.getElem?_eq_getElem hi, List.getD_eq_getElem?_getD, List.getElem?_eq_getElem hi]
  rfl
theorem irow_set {w : World} {gL : Nat} {l : List Int} (h : w.heap[gL]? = some (.cells (icells l).toArray 3 (0, 0))) (i : Nat) (x : Int) : (w.setCell ⟨gL, i, none⟩ (.int .i64 x)).heap[gL]? = some (.cells (icells (l.set i x)).toArray 3 (0, 0)) := by
  rw [heap_setCell_same _ _ _ _ _ _ h, List.setIfInBounds_toArray, icells, icells, List.map_set]
set_option maxRecDepth 100000 in
set_option maxHeartbeats 4000000 in
theorem sink_fail (h : Sw B g N w vl vs vn vm D R S T ls ms) (hN : N ≤ 1048576) (kind on a : Int) (n s : ByteArray) (vL : Value) (hk : kind = 13) (hon0 : -9223372036854775808 ≤ on) (hon : on ≤ 9223372036854775807) (hS0 : 0 < S.length) (L : List Int) (hI : ISl w vL L) (hL : L.length ≤ 1048576) (_hLr : ∀ j, j < L.length → -9223372036854775808 ≤ L.getD j 0 ∧ L.getD j 0 ≤ 9223372036854775807) (hvB : 0 < L.length → ∀ b, vL.ownBlock = some b → b < B) :
    Calls Tryd.prog 37 #[ptr g, .agg (acells kind on a n s vL)] w (okEnd B g N w) := by
  have hk2 : Kept w.heap.size w (w.alloc (.cells (acells kind on a n s vL) 36)) := (Kept.refl _ _).alloc (Nat.le_refl _) _
  have hnS := h.nS
  have hB := h.size
  obtain ⟨k, hkD, hpick⟩ := lawpick_uni on S.length hon0 hon hS0 (by omega)
  have hkR : k < T.length := by rw [h.lenS]; exact hkD
  obtain ⟨al, cl, hvl, _, hal⟩ := own_len h.sh.co.s
  have hDl : (S.map (·.p)).length = S.length := List.length_map _
  rw [hDl] at hvl hal
  obtain ⟨gl, rfl⟩ := hal hS0
  subst hvl
  have HW := hide (h.kept hk2)
  have HB := hide (hk2.mono h.size)
  have hb0 : (w.alloc (.cells (acells kind on a n s vL) 36)).heap[w.heap.size]? = some (.cells (acells kind on a n s vL) 36 (0, 0)) := heap_alloc_new _ _
  have hWs : (w.alloc (.cells (acells kind on a n s vL) 36)).heap.size = w.heap.size + 1 := by simp
  have hcgA : (w.alloc (.cells (acells kind on a n s vL) 36)).cell? ⟨g, 1, none⟩ = some (.slice (some ⟨gl, 0, none⟩) S.length cl) := by rw [cell_of_row _ _ _ _ _ _ (unhide HW).sh.co.at']; rfl
  generalize hW : w.alloc (.cells (acells kind on a n s vL) 36) = W at HW HB hb0 hWs
  have HEW := hide hW
  have hcg : W.cell? ⟨g, 1, none⟩ = some (.slice (some ⟨gl, 0, none⟩) S.length cl) := by rw [cell_of_row _ _ _ _ _ _ (unhide HW).sh.co.at']; rfl
  have hc1 : W.cell? ⟨w.heap.size, 1, none⟩ = some (.int .i64 on) := by rw [cell_of_row _ _ _ _ _ _ hb0]; rfl
  have hcp : W.cell? ⟨gl, k * 2, none⟩ = some (ptr S[k].p) ∧ W.cell? ⟨gl, k * 2 + 1, none⟩ = some (ptr T[k].p) := by
    have hl := (unhide HW).sh.co.s
    have := pcells_at (S.map (·.p)) (T.map (·.p)) k (unhide HW).sh.co.lq (by simpa using hkD)
    rw [hDl] at hl
    refine ⟨own_at2 hl ?_, own_at2 hl ?_⟩
    · rw [this.1]; simp [hkD]
    · rw [this.2]; simp [hkR]
  have HX := hide (h.xS hkD hkR)
  have HG := hide (h.gS _ (List.getElem_mem hkD))
  have HD0 := hide (h.sh.k.each _ (List.getElem_mem hkD))
  have HR0 := hide (h.sh.t.each _ (List.getElem_mem hkR))
  have hk3 : Kept W.heap.size W (W.alloc (.cells #[ptr S[k].p, ptr T[k].p] 106)).drew := ((Kept.refl _ _).alloc (Nat.le_refl _) _).draws 1
  have HW2 := hide ((unhide HW).kept hk3)
  have HB2 := hide ((unhide HB).trans (hk3.mono (unhide HW).size))
  have HT := hide (fun (Wx : World) (hx : Kept (W.alloc (.cells #[ptr S[k].p, ptr T[k].p] 106)).drew.heap.size (W.alloc (.cells #[ptr S[k].p, ptr T[k].p] 106)).drew Wx) (v1 v2 : Value) (d' : Snk) (w1 w2 : World) (hg : GoodS (N + 1) d') => ((unhide HW2).kept hx).twoS hkD hkR (w1 := w1) (w2 := w2) (v1 := v1) (v2 := v2) (d' := d') hg)
  have HU := hide (fun (Wx : World) (hx : Kept (W.alloc (.cells #[ptr S[k].p, ptr T[k].p] 106)).drew.heap.size (W.alloc (.cells #[ptr S[k].p, ptr T[k].p] 106)).drew Wx) (v1 : Value) (d' : Snk) (w1 : World) (h1 : SAt B 135 w1 S[k].p v1 d') (h2 : Upd S[k].p S[k].v v1 Wx w1) => ((((unhide HW2).kept hx).sh.updS hkD h1 h2).1.t.each _ (List.getElem_mem hkR)))
  have HFS := hide (fun (W3 : World) (k3 : Kept (W.alloc (.cells #[ptr S[k].p, ptr T[k].p] 106)).drew.heap.size (W.alloc (.cells #[ptr S[k].p, ptr T[k].p] 106)).drew W3) (hty : TyAt W3 (W.alloc (.cells #[ptr S[k].p, ptr T[k].p] 106)).drew.heap.size 3) (v1 v2 : Value) (d3 : Snk) (W4 W5 wz : World) (hg : GoodS (N + 1) d3) (h1 : SAt B 135 W4 S[k].p v1 d3 ∧ Upd S[k].p S[k].v v1 W3 W4) (h2 : SAt B 104 W5 T[k].p v2 d3 ∧ Upd T[k].p T[k].v v2 W4 W5) (hO : Other (W.alloc (.cells #[ptr S[k].p, ptr T[k].p] 106)).drew.heap.size W5 wz) => (unhide HW2).failS hkD hkR hg k3 hty h1 h2 hO)
  have HU2 := hide (fun (v1 v2 : Value) (d' d2 : Snk) (w1 w2 : World) (h1 : SAt B 135 w1 S[k].p v1 d') (h2 : Upd S[k].p S[k].v v1 _ w1) (h3 : SAt B 104 w2 T[k].p v2 d2) (h4 : Upd T[k].p T[k].v v2 w1 w2) => (((unhide HW2).sh.updS hkD h1 h2).1.updT hkR h3 h4).1.k.each _ (List.mem_iff_getElem.2 ⟨k, by rw [List.length_set]; exact hkD, rfl⟩))
  have HD := hide ((unhide HW2).sh.k.each _ (List.getElem_mem hkD))
  have HQ := hide (show (W.alloc (.cells #[ptr S[k].p, ptr T[k].p] 106)).drew.heap[W.heap.size]? = some (.cells #[ptr S[k].p, ptr T[k].p] 106 (0, 0)) from heap_alloc_new W _)
  have HB0 := hide (show (W.alloc (.cells #[ptr S[k].p, ptr T[k].p] 106)).drew.heap[w.heap.size]? = some (.cells (acells kind on a n s vL) 36 (0, 0)) from (Below.heap_alloc _ _ _ (by omega)).trans hb0)
  clear h hk2 hW hDl hal hk3 hb0
  simp only [List.getElem_set_self] at HU2
  generalize S[k] = e at *
  generalize T[k] = f at *
  obtain ⟨p, v, d⟩ := e
  obtain ⟨q, u, d2⟩ := f
  have hx : d = d2 := (unhide HX).symm
  subst hx
  simp only [ptr] at *
  have hcgd : W.drew.cell? ⟨g, 1, none⟩ = some (.slice (some ⟨gl, 0, none⟩) S.length cl) := hcg
  have hc1d : W.drew.cell? ⟨w.heap.size, 1, none⟩ = some (.int .i64 on) := hc1
  have hcc0 : W.drew.cell? ⟨gl, k * 2, none⟩ = some (.pointer (some ⟨p, 0, none⟩)) := hcp.1
  have hcc1 : W.drew.cell? ⟨gl, k * 2 + 1, none⟩ = some (.pointer (some ⟨q, 0, none⟩)) := hcp.2
  have hkI : (k : Int) < (S.length : Int) := by omega
  have hk0 : (0 : Int) ≤ (k : Int) := by omega
  have HPI := hide hpick
  clear hpick hcp
  have hDne : ¬ (S.length : Int) = 0 := by omega
  have hWS := hide hWs
  clear hWs
  subst hk
  go_enter Tryd.func37, Tryd.ntmps37
  go_wp2_with fail
  rw [unhide HEW]
  clear hcgA
  go_region_held3 (fun w' => w'.cell? ⟨g, 1, none⟩ = some (.slice (some ⟨gl, 0, none⟩) S.length cl) ∧ w'.cell? ⟨w.heap.size, 1, none⟩ = some (.int .i64 on) ∧ w'.cell? ⟨gl, k * 2, none⟩ = some (.pointer (some ⟨p, 0, none⟩)) ∧ w'.cell? ⟨gl, k * 2 + 1, none⟩ = some (.pointer (some ⟨q, 0, none⟩))) (first | assumption | exact ⟨hcgd, hc1d, hcc0, hcc1⟩ | exact ⟨keep_ad hcgd, keep_ad hc1d, keep_ad hcc0, keep_ad hcc1⟩ | go_keep) (first | (go_at_call 14; (refine (unhide HPI _).mono ?_; rintro e w' ⟨rfl, rfl⟩)))
  all_goals
    have e1 : (W.alloc (.cells #[.pointer (some ⟨p, 0, none⟩), .pointer (some ⟨q, 0, none⟩)] 106)).heap.size = W.heap.size + 1 := World.size_alloc _ _
    have hz1 := unhide hWS
    generalize hW2 : (W.alloc (.cells #[.pointer (some ⟨p, 0, none⟩), .pointer (some ⟨q, 0, none⟩)] 106)).drew = W2 at *
    have hsz : W2.heap.size = w.heap.size + 1 + 1 := by rw [← hW2, ← hz1]; exact e1
    have hp0 : W2.cell? ⟨W.heap.size, 0, none⟩ = some (.pointer (some ⟨p, 0, none⟩)) := by rw [cell_of_row _ _ _ _ _ _ (unhide HQ)]; rfl
    have hp1 : W2.cell? ⟨W.heap.size, 1, none⟩ = some (.pointer (some ⟨q, 0, none⟩)) := by rw [cell_of_row _ _ _ _ _ _ (unhide HQ)]; rfl
    have ha0' : W2.cell? ⟨w.heap.size, 0, none⟩ = some (.int .i64 13) := by rw [cell_of_row _ _ _ _ _ _ (unhide HB0)]; rfl
    have ha4 : W2.cell? ⟨w.heap.size, 4, none⟩ = some (.string s) := by rw [cell_of_row _ _ _ _ _ _ (unhide HB0)]; rfl
    have ha5 : W2.cell? ⟨w.heap.size, 5, none⟩ = some vL := by rw [cell_of_row _ _ _ _ _ _ (unhide HB0)]; rfl
    have HSZ := hide (And.intro hsz hz1)
    clear hW2 hcgd hc1d hcc0 hcc1 hcg hc1 e1 hsz hz1
    have hIW : ISl W2 vL L := hI.blocks (by have := unhide HSZ; omega) fun hp b hb => (unhide HB2).block b (hvB hp b hb)
    obtain ⟨xa, xc, hvx, hxs'⟩ := hIW.parts
    have hxs : 0 < L.length → ∃ b o, xa = some ⟨b, o, none⟩ ∧ b < B ∧ ∀ j, j < L.length → W2.cell? ⟨b, o + j, none⟩ = some (.int .i64 (L.getD j 0)) := fun hp => by
      obtain ⟨b, o, h1, _, h3⟩ := hxs' hp
      exact ⟨b, o, h1, hvB hp b (by rw [hvx, h1]; rfl), h3⟩
    clear hxs'
    subst hvx
    have HXS := hide hxs
    have HIW := hide hIW
    have hpB := (unhide HD0).2
    have hqB := (unhide HR0).2
    clear hxs hIW hI
    go_wp2_with fail
    refine (lentI_go W2 _ L (by omega) (unhide HIW)).mono ?_
    rintro _ W3 ⟨rfl, hrow3, hk3⟩
    have hq30 : W3.cell? ⟨W.heap.size, 0, none⟩ = some (.pointer (some ⟨p, 0, none⟩)) := by rw [cell_of_row _ _ _ _ _ _ ((hk3.block _ (by have := unhide HSZ; omega)).trans (unhide HQ))]; rfl
    have hb35 : W3.cell? ⟨w.heap.size, 5, none⟩ = some (.slice xa L.length xc) := by rw [cell_of_row _ _ _ _ _ _ ((hk3.block _ (by have := unhide HSZ; omega)).trans (unhide HB0))]; rfl
    have H3 := hide (And.intro hrow3 hk3)
    clear hrow3 hk3
    go_wp2_with fail
    have hq3d : W3.drew.cell? ⟨W.heap.size, 0, none⟩ = some (.pointer (some ⟨p, 0, none⟩)) := hq30
    have hb3d : W3.drew.cell? ⟨w.heap.size, 5, none⟩ = some (.slice xa L.length xc) := hb35
    have hk3d : Kept W2.heap.size W2 W3.drew := (unhide H3).2.draws 1
    have HKD := hide hk3d
    have HI3 := hide (show ISl W3.drew (.slice (some ⟨W2.heap.size, 0, none⟩) L.length (L.length + 1)) L from (Nat.eq_zero_or_pos L.length).elim (fun h0 => .inl ⟨List.length_eq_zero_iff.1 h0, .inr ⟨_, _, by rw [h0]⟩⟩) fun h0 => .inr ⟨_, 0, _, h0, rfl, by omega, (Array.getElem?_eq_some_iff.1 (unhide H3).1).1, fun j hj => by
      rw [Nat.zero_add]
      have := irow_at (w := W3.drew) (unhide H3).1 (i := j) (by simp; omega)
      rw [this, List.getD_eq_getElem?_getD, List.getElem?_append_left hj, List.getD_eq_getElem?_getD]⟩)
    have hnI : (L.length : Int) ≤ (L.length : Int) + 1 := by omega
    have hn0 : (0 : Int) ≤ (L.length : Int) := by omega
    clear hk3d
    have hBW3 : B ≤ W3.drew.heap.size := Nat.le_trans (unhide HW2).size (unhide HKD).size
    have hpW : p < w.heap.size := (unhide HD0).1.lt
    have hqW : q < w.heap.size := (unhide HR0).1.lt
    have HFG := hide (fail_go B W3.drew p v d _ L ((unhide HD).1.kept (unhide HKD)) hBW3 (by omega) (unhide HI3) (fun _ => by have := unhide HSZ; simp [Value.ownBlock]; omega))
    have HST := hide (show ∀ W4 v1, Upd p v v1 W3.drew W4 → ∀ b, w.heap.size ≤ b → b < W3.heap.size → W4.heap[b]? = W3.heap[b]? from fun W4 v1 hu b hb hbl => hu.block b hbl (by omega) fun e => by have := ((unhide HD0).1.own.lt _ e).2; omega)
    go_region_held3 (fun w' => w'.cell? ⟨W.heap.size, 0, none⟩ = some (.pointer (some ⟨p, 0, none⟩)) ∧ w'.cell? ⟨w.heap.size, 5, none⟩ = some (.slice xa L.length xc)) (first | assumption | exact ⟨hq3d, hb3d⟩ | exact ⟨hq4d, hb4d⟩) (first | (go_at_call 69; (refine (unhide HFG).mono ?_; rintro e W4 ⟨rfl, v1, h1⟩; have hst := unhide HST W4 v1 h1.2; have hz3 := (unhide H3).2.size; have hq4d : W4.cell? ⟨W.heap.size, 0, none⟩ = some (.pointer (some ⟨p, 0, none⟩)) := (by rw [World.cell?_of_block (w := W3) (hst W.heap.size (by have := unhide HSZ; omega) (by have := unhide HSZ; omega))]; exact hq30); have hb4d : W4.cell? ⟨w.heap.size, 5, none⟩ = some (.slice xa L.length xc) := (by rw [World.cell?_of_block (w := W3) (hst w.heap.size (Nat.le_refl _) (by have := unhide HSZ; omega))]; exact hb35); have H4 := hide h1; have HST4 := hide hst; clear h1 hst hz3)))
    all_goals
      have hz3 := (unhide H3).2.size
      have hq41 : W4.cell? ⟨W.heap.size, 1, none⟩ = some (.pointer (some ⟨q, 0, none⟩)) := by rw [cell_of_row _ _ _ _ _ _ ((unhide HST4 W.heap.size (by have := unhide HSZ; omega) (by have := unhide HSZ; omega)).trans (((unhide H3).2.block _ (by have := unhide HSZ; omega)).trans (unhide HQ)))]; rfl
      have HR4 := hide (unhide HU W3.drew (unhide HKD) v1 _ W4 (unhide H4).1 (unhide H4).2)
      have hBW4 : B ≤ W4.heap.size := Nat.le_trans hBW3 (unhide H4).2.size
      have hKB4 : Kept B W2 W4 := ((unhide HKD).mono (unhide HW2).size).trans ((unhide H4).2.keptB hBW3 hpB fun k hk => ((unhide HD0).1.own.lt k hk).1)
      have HI4 := hide ((unhide HIW).blocks hKB4.size fun hp b hb => hKB4.block b (hvB hp b hb))
      have HKB4 := hide hKB4
      clear hKB4 hz3
      go_wp2_with fail
      refine (fail_ref B W4 q u d _ L (unhide HR4).1 hBW4 (by omega) (unhide HI4) (fun hp e => by have := hvB hp _ e; omega)).mono ?_
      rintro _ W5 ⟨rfl, v2, h2⟩
      have hz3 := (unhide H3).2.size
      have hst5 : ∀ b, w.heap.size ≤ b → b < W3.heap.size → W5.heap[b]? = W3.heap[b]? := fun b hb hbl => (h2.2.block b (by have := (unhide H4).2.size; exact Nat.lt_of_lt_of_le hbl this) (by omega) fun e => by have := ((unhide HR0).1.own.lt _ e).2; omega).trans (unhide HST4 b hb hbl)
      have hrow5 := (hst5 W2.heap.size (by have := unhide HSZ; omega) (Array.getElem?_eq_some_iff.1 (unhide H3).1).1).trans (unhide H3).1
      have hbox5 := (hst5 w.heap.size (Nat.le_refl _) (by have := unhide HSZ; omega)).trans (((unhide H3).2.block _ (by have := unhide HSZ; omega)).trans (unhide HB0))
      have hKB5 : Kept B W2 W5 := (unhide HKB4).trans (h2.2.keptB hBW4 hqB fun k hk => ((unhide HR0).1.own.lt k hk).1)
      have HO5 := hide (fun wz (hO : Other W2.heap.size W5 wz) => ste_after (unhide HB2) (unhide HFS W3.drew (unhide HKD) ⟨_, (unhide H3).1⟩ v1 v2 _ W4 W5 wz (good_fail (unhide HG) hL) (unhide H4) h2 hO))
      have H5 := hide (And.intro hrow5 (And.intro hbox5 hKB5))
      have hsz5 : w.heap.size < W2.heap.size := by have := unhide HSZ; omega
      clear h2 hst5 hrow5 hbox5 hKB5 hz3
      go_wp2_with fail
      go_loopw [11] (fun vi wr => ∃ i : Nat, i ≤ L.length + 1 ∧ vi = .int .i64 i ∧ wr.heap[W2.heap.size]? = some (.cells (icells (ovr L i)).toArray 3 (0, 0)) ∧ Other W2.heap.size W5 wr) (fun vi _ => L.length + 1 - (intOf vi).toNat)
      case atStart => exact ⟨0, Nat.zero_le _, rfl, (unhide H5).1, ⟨rfl, rfl, Nat.le_refl _, fun _ _ _ => rfl⟩⟩
      case round =>
        obtain ⟨i, hi, rfl, hrow, hoth⟩ := hrel
        have hbw : wr.cell? ⟨w.heap.size, 5, none⟩ = some (.slice xa L.length xc) := by
          rw [cell_of_row _ _ _ _ _ _ ((hoth.block w.heap.size (Array.getElem?_eq_some_iff.1 (unhide H5).2.1).1 (by omega)).trans (unhide H5).2.1)]; rfl
        have HRW := hide (And.intro hrow hoth)
        clear hrow hoth
        by_cases hil : i ≤ L.length
        · have hiI : (i : Int) ≤ (L.length : Int) := by omega
          have hi0 : (0 : Int) ≤ (i : Int) := by omega
          have hi1 : (i : Int) < (L.length : Int) + 1 := by omega
          have hcl : wr.cell? ⟨W2.heap.size, i, none⟩ = some (.int .i64 ((L ++ [-77]).getD i 0)) := by rw [irow_at (unhide HRW).1 (by rw [ovr_len L hi]; omega), ovr_get L hil]
          have hzl : ∀ nq, (wr.drewN nq).frozen? ⟨W2.heap.size, i, none⟩ = false := fun nq => frozen_of_row (wr.drewN nq) _ _ _ _ (unhide HRW).1
          have HNX := hide (show ∀ nq, ((wr.drewN nq).setCell ⟨W2.heap.size, i, none⟩ (.int .i64 1)).heap[W2.heap.size]? = some (.cells (icells (ovr L (i + 1))).toArray 3 (0, 0)) ∧ Other W2.heap.size W5 ((wr.drewN nq).setCell ⟨W2.heap.size, i, none⟩ (.int .i64 1)) from fun nq => ⟨by
            have := irow_set (w := wr.drewN nq) (unhide HRW).1 i 1
            rwa [ovr_set L hil] at this, ⟨(unhide HRW).2.os, (unhide HRW).2.output, by have := (unhide HRW).2.size; simpa using this, fun k hk hne => (heap_setCell_other _ _ _ _ hne).trans ((unhide HRW).2.block k hk hne)⟩⟩)
          by_cases hin : i < L.length
          · have hiN : (i : Int) < (L.length : Int) := by omega
            obtain ⟨b, o, rfl, hbB, hxc⟩ := unhide HXS (by omega)
            have hcx : wr.cell? ⟨b, o + i, none⟩ = some (.int .i64 (L.getD i 0)) := by
              have h5 := (unhide H5).2.2
              have hb2 : b < W5.heap.size := by have := h5.size; have := (unhide HW2).size; omega
              rw [World.cell?_of_block (w := W5) (a := ⟨b, o + i, none⟩) ((unhide HRW).2.block b hb2 (by have := (unhide HW2).size; omega)), World.cell?_of_block (w := W2) (a := ⟨b, o + i, none⟩) (h5.block b hbB)]
              exact hxc i hin
            have hge : (L ++ [-77]).getD i 0 = L.getD i 0 := by rw [List.getD_eq_getElem?_getD, List.getElem?_append_left hin, List.getD_eq_getElem?_getD]
            rw [hge] at hcl
            clear hge
            generalize L.getD i 0 = x at hcl hcx
            have hne : ¬ (i : Int) = (L.length : Int) := by omega
            clear hxc
            go_wp2_with fail
            go_quiet (fail)
            go_wp2_with fail
            go_roundw
            case rel => exact ⟨i + 1, by omega, by go_num, (unhide HNX _).1, (unhide HNX _).2⟩
            case measure => simp [intOf]; omega
          · obtain rfl : i = L.length := by omega
            have hge : (L ++ [-77]).getD L.length 0 = -77 := by simp
            rw [hge] at hcl
            clear hge
            have hiN : ¬ (L.length : Int) < (L.length : Int) := by omega
            go_wp2_with fail
            go_quiet (fail)
            go_wp2_with fail
            go_roundw
            case rel => exact ⟨L.length + 1, by omega, by go_num, (unhide HNX _).1, (unhide HNX _).2⟩
            case measure => simp [intOf]
        · have hiI : ¬ (i : Int) ≤ (L.length : Int) := by omega
          go_wp2
          all_goals go_ret
          all_goals exact ok_of rfl (unhide HO5 _ (unhide HRW).2)
end
end Go.Proofs.YtfodibjlldmnpaaDoor
