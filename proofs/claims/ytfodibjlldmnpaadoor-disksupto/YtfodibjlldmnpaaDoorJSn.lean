/-
  Sn, Sn2, joined.
-/
import Derived.Test.YtfodibjlldmnpaaDoorAc
/-
  shelf.sink.
-/
namespace Go.Proofs.YtfodibjlldmnpaaDoor
open Go.RowKit

section
variable {B g N : Nat} {w w1 w2 w3 : World} {vl vs vn vm : Value} {D R : List (Loc Dsk)} {S T : List (Loc Snk)} {ls : List Value} {ms : List ByteArray}
/-- One sink more. -/
theorem Sw.pushS (h : Sw B g N w vl vs vn vm D R S T ls ms) {p q : Nat} {v u vs' : Value} {d : Snk} (hg : GoodS (N + 1) d) (k1 : Kept w.heap.size w w1) (hd : SAt B 135 w1 p v d) (hp : w.heap.size ≤ p) (hv : ∀ k, v.ownBlock = some k → w.heap.size ≤ k)
    (k2 : Kept w1.heap.size w1 w2) (hr : SAt B 104 w2 q u d) (hq : w1.heap.size ≤ q) (hu : ∀ k, u.ownBlock = some k → w1.heap.size ≤ k)
    (ho : w3.ownsRow B 106 2 vs' ((S.map (·.p)).length + 1) (pcells (S.map (·.p)) (T.map (·.p)) ++ [ptr p, ptr q])) (hU : Upd w2.heap.size vs vs' w2 w3) :
    (StE B g (N + 1) (w3.setCell ⟨g, 1, none⟩ vs') ∧ Kept B w (w3.setCell ⟨g, 1, none⟩ vs')) ∧ w3.cell? ⟨g, 1, none⟩ = some vs ∧ w3.frozen? ⟨g, 1, none⟩ = false := by
  have a := h.sh.pushS k1 hd hp hv k2 hr hq hu ho hU
  refine ⟨⟨⟨_, _, _, _, _, _, _, _, _, _, a.1, h.eqD, by simp [h.eqS], by have := h.nD; omega, by simp; exact h.nS, by have := h.nL; omega, fun e he => (h.gD e he).mono (by omega), fun e he => ?_⟩, a.2.1⟩, a.2.2⟩
  rcases List.mem_append.1 he with he | he
  · exact (h.gS e he).mono (by omega)
  · rw [List.mem_singleton.1 he]; exact hg
set_option maxRecDepth 100000 in
set_option maxHeartbeats 4000000 in
theorem sink_new (h : Sw B g N w vl vs vn vm D R S T ls ms) (hN : N ≤ 1048576) (kind on a : Int) (n s : ByteArray) (vL : Value) (hk : kind = 11) :
    Calls Tryd.prog 37 #[ptr g, .agg (acells kind on a n s vL)] w (okEnd B g N w) := by
  subst hk
  have hk2 : Kept w.heap.size w (w.alloc (.cells (acells 11 on a n s vL) 36)) := (Kept.refl _ _).alloc (Nat.le_refl _) _
  have HB := hide (hk2.mono h.size)
  have HW := hide (h.kept hk2)
  have hnS := h.nS
  have hSl : (S.map (·.p)).length = S.length := List.length_map _
  clear h hk2
  simp only [ptr]
  go_enter Tryd.func37, Tryd.ntmps37
  go_wp2_with fail
  generalize w.alloc (.cells (acells 11 on a n s vL) 36) = W at *
  refine (new_sink_go B W).mono ?_
  rintro _ w3 ⟨rfl, hs3, hk3⟩
  have HS3 := hide (And.intro hs3 hk3)
  have HSW := hide (((unhide HW).kept hk3).kept (w1 := w3.alloc (.cells #[.string .empty, .int .i64 0, .slice none 0 0] 104)) ((Kept.refl _ _).alloc (Nat.le_refl _) _))
  obtain ⟨al, cl, hvl, _, _⟩ := own_len (unhide HSW).sh.co.s
  subst hvl
  have hcg0 : w3.cell? ⟨g, 1, none⟩ = some (.slice al (S.map (·.p)).length cl) := by rw [cell_of_row _ _ _ _ _ _ ((unhide HW).kept hk3).sh.co.at']; rfl
  clear hs3 hk3
  go_wp2_with (refine wpList_halt2 (.tmp 20) (.tmp 25) 28 rfl ?_)
  refine Stp.mk ?_
  refine wpList_append_pair rfl (.tmp 20) (.tmp 25) 28 106 rfl B Tryd.underlying28 info106 (.slice al (S.map (·.p)).length cl) (S.map (·.p)).length (pcells (S.map (·.p)) (T.map (·.p))) W.heap.size w3.heap.size (w3.alloc (.cells #[.string .empty, .int .i64 0, .slice none 0 0] 104)) ?_ (unhide HSW).sh.co.s (by omega) (by rw [World.size_alloc]; rfl) rfl (unhide HSW).size ?_
  · simp [Act.eval]
  intro vs' w5 ho5 hu5
  have hP := (unhide HW).pushS (goods0 _) (unhide HS3).2 (unhide HS3).1 (Nat.le_refl _) (fun k hk => by simp [Value.ownBlock] at hk) ((Kept.refl _ _).alloc (Nat.le_refl _) _) ⟨heap_alloc_new _ _, World.ownsRow_nil _ _ _ _⟩ (Nat.le_refl _) (fun k hk => by simp [Value.ownBlock] at hk) ho5 hu5
  have hc5 := hP.2.1
  have hz5 := hP.2.2
  obtain ⟨al', cl', hvl', _, _⟩ := own_len ho5
  subst hvl'
  have HP := hide (ste_after (unhide HB) hP.1)
  clear hP ho5 hu5
  simp only [Act.put, List.setIfInBounds_toArray, List.set_cons_zero, List.set_cons_succ]
  go_wp2
  all_goals go_ret
  all_goals exact ok_of (by simp) (by have := unhide HP; rwa [hSl] at this)
end
end Go.Proofs.YtfodibjlldmnpaaDoor
/-
  shelf.sink, on sinks that there are.
-/
namespace Go.Proofs.YtfodibjlldmnpaaDoor
open Go.RowKit

section
variable {B g N : Nat} {w w1 w2 w3 : World} {vl vs vn vm : Value} {D R : List (Loc Dsk)} {S T : List (Loc Snk)} {ls : List Value} {ms : List ByteArray}
set_option maxRecDepth 100000 in
set_option maxHeartbeats 4000000 in
theorem sink_give (h : Sw B g N w vl vs vn vm D R S T ls ms) (hN : N ≤ 1048576) (kind on a : Int) (n s : ByteArray) (vL : Value) (hk : kind = 12) (hon0 : -9223372036854775808 ≤ on) (hon : on ≤ 9223372036854775807) (hS0 : 0 < S.length) (hs : s.size ≤ 1048576) :
    Calls Tryd.prog 37 #[ptr g, .agg (acells kind on a n s vL)] w (okEnd B g N w) := by
  have hk2 : Kept w.heap.size w (w.alloc (.cells (acells kind on a n s vL) 36)) := (Kept.refl _ _).alloc (Nat.le_refl _) _
  have hnS := h.nS
  have hB := h.size
  obtain ⟨k, hkD, hpick⟩ := lawpick_uni on S.length hon0 hon hS0 (by omega)
  have hkR : k < T.length := by rw [h.lenS]; exact hkD
  obtain ⟨al, cl, hvl, _, hal⟩ := own_len h.sh.co.s
  have hDl : (S.map (·.p)).length = S.length := List.length_map _
  rw [hDl] at hvl hal
  obtain ⟨gl, rfl⟩ := hal hS0
  subst hvl
  have HW := hide (h.kept hk2)
  have HB := hide (hk2.mono h.size)
  have hb0 : (w.alloc (.cells (acells kind on a n s vL) 36)).heap[w.heap.size]? = some (.cells (acells kind on a n s vL) 36 (0, 0)) := heap_alloc_new _ _
  have hWs : (w.alloc (.cells (acells kind on a n s vL) 36)).heap.size = w.heap.size + 1 := by simp
  have hcgA : (w.alloc (.cells (acells kind on a n s vL) 36)).cell? ⟨g, 1, none⟩ = some (.slice (some ⟨gl, 0, none⟩) S.length cl) := by rw [cell_of_row _ _ _ _ _ _ (unhide HW).sh.co.at']; rfl
  generalize hW : w.alloc (.cells (acells kind on a n s vL) 36) = W at HW HB hb0 hWs
  have HEW := hide hW
  have hcg : W.cell? ⟨g, 1, none⟩ = some (.slice (some ⟨gl, 0, none⟩) S.length cl) := by rw [cell_of_row _ _ _ _ _ _ (unhide HW).sh.co.at']; rfl
  have hc1 : W.cell? ⟨w.heap.size, 1, none⟩ = some (.int .i64 on) := by rw [cell_of_row _ _ _ _ _ _ hb0]; rfl
  have hcp : W.cell? ⟨gl, k * 2, none⟩ = some (ptr S[k].p) ∧ W.cell? ⟨gl, k * 2 + 1, none⟩ = some (ptr T[k].p) := by
    have hl := (unhide HW).sh.co.s
    have := pcells_at (S.map (·.p)) (T.map (·.p)) k (unhide HW).sh.co.lq (by simpa using hkD)
    rw [hDl] at hl
    refine ⟨own_at2 hl ?_, own_at2 hl ?_⟩
    · rw [this.1]; simp [hkD]
    · rw [this.2]; simp [hkR]
  have HX := hide (h.xS hkD hkR)
  have HG := hide (h.gS _ (List.getElem_mem hkD))
  have HD0 := hide (h.sh.k.each _ (List.getElem_mem hkD))
  have HR0 := hide (h.sh.t.each _ (List.getElem_mem hkR))
  have hk3 : Kept W.heap.size W (W.alloc (.cells #[ptr S[k].p, ptr T[k].p] 106)).drew := ((Kept.refl _ _).alloc (Nat.le_refl _) _).draws 1
  have HW2 := hide ((unhide HW).kept hk3)
  have HB2 := hide ((unhide HB).trans (hk3.mono (unhide HW).size))
  have HT := hide (fun (Wx : World) (hx : Kept (W.alloc (.cells #[ptr S[k].p, ptr T[k].p] 106)).drew.heap.size (W.alloc (.cells #[ptr S[k].p, ptr T[k].p] 106)).drew Wx) (v1 v2 : Value) (d' : Snk) (w1 w2 : World) (hg : GoodS (N + 1) d') => ((unhide HW2).kept hx).twoS hkD hkR (w1 := w1) (w2 := w2) (v1 := v1) (v2 := v2) (d' := d') hg)
  have HU := hide (fun (Wx : World) (hx : Kept (W.alloc (.cells #[ptr S[k].p, ptr T[k].p] 106)).drew.heap.size (W.alloc (.cells #[ptr S[k].p, ptr T[k].p] 106)).drew Wx) (v1 : Value) (d' : Snk) (w1 : World) (h1 : SAt B 135 w1 S[k].p v1 d') (h2 : Upd S[k].p S[k].v v1 Wx w1) => ((((unhide HW2).kept hx).sh.updS hkD h1 h2).1.t.each _ (List.getElem_mem hkR)))
  have HU2 := hide (fun (v1 v2 : Value) (d' d2 : Snk) (w1 w2 : World) (h1 : SAt B 135 w1 S[k].p v1 d') (h2 : Upd S[k].p S[k].v v1 _ w1) (h3 : SAt B 104 w2 T[k].p v2 d2) (h4 : Upd T[k].p T[k].v v2 w1 w2) => (((unhide HW2).sh.updS hkD h1 h2).1.updT hkR h3 h4).1.k.each _ (List.mem_iff_getElem.2 ⟨k, by rw [List.length_set]; exact hkD, rfl⟩))
  have HD := hide ((unhide HW2).sh.k.each _ (List.getElem_mem hkD))
  have HQ := hide (show (W.alloc (.cells #[ptr S[k].p, ptr T[k].p] 106)).drew.heap[W.heap.size]? = some (.cells #[ptr S[k].p, ptr T[k].p] 106 (0, 0)) from heap_alloc_new W _)
  have HB0 := hide (show (W.alloc (.cells #[ptr S[k].p, ptr T[k].p] 106)).drew.heap[w.heap.size]? = some (.cells (acells kind on a n s vL) 36 (0, 0)) from (Below.heap_alloc _ _ _ (by omega)).trans hb0)
  clear h hk2 hW hDl hal hk3 hb0
  simp only [List.getElem_set_self] at HU2
  generalize S[k] = e at *
  generalize T[k] = f at *
  obtain ⟨p, v, d⟩ := e
  obtain ⟨q, u, d2⟩ := f
  have hx : d = d2 := (unhide HX).symm
  subst hx
  simp only [ptr] at *
  have hcgd : W.drew.cell? ⟨g, 1, none⟩ = some (.slice (some ⟨gl, 0, none⟩) S.length cl) := hcg
  have hc1d : W.drew.cell? ⟨w.heap.size, 1, none⟩ = some (.int .i64 on) := hc1
  have hcc0 : W.drew.cell? ⟨gl, k * 2, none⟩ = some (.pointer (some ⟨p, 0, none⟩)) := hcp.1
  have hcc1 : W.drew.cell? ⟨gl, k * 2 + 1, none⟩ = some (.pointer (some ⟨q, 0, none⟩)) := hcp.2
  have hkI : (k : Int) < (S.length : Int) := by omega
  have hk0 : (0 : Int) ≤ (k : Int) := by omega
  have HPI := hide hpick
  clear hpick hcp
  have hDne : ¬ (S.length : Int) = 0 := by omega
  have hWS := hide hWs
  clear hWs
  subst hk
  go_enter Tryd.func37, Tryd.ntmps37
  go_wp2_with fail
  rw [unhide HEW]
  clear hcgA
  go_region_held3 (fun w' => w'.cell? ⟨g, 1, none⟩ = some (.slice (some ⟨gl, 0, none⟩) S.length cl) ∧ w'.cell? ⟨w.heap.size, 1, none⟩ = some (.int .i64 on) ∧ w'.cell? ⟨gl, k * 2, none⟩ = some (.pointer (some ⟨p, 0, none⟩)) ∧ w'.cell? ⟨gl, k * 2 + 1, none⟩ = some (.pointer (some ⟨q, 0, none⟩))) (first | assumption | exact ⟨hcgd, hc1d, hcc0, hcc1⟩ | exact ⟨keep_ad hcgd, keep_ad hc1d, keep_ad hcc0, keep_ad hcc1⟩ | go_keep) (first | (go_at_call 14; (refine (unhide HPI _).mono ?_; rintro e w' ⟨rfl, rfl⟩)))
  all_goals
    have e1 : (W.alloc (.cells #[.pointer (some ⟨p, 0, none⟩), .pointer (some ⟨q, 0, none⟩)] 106)).heap.size = W.heap.size + 1 := World.size_alloc _ _
    have hz1 := unhide hWS
    generalize hW2 : (W.alloc (.cells #[.pointer (some ⟨p, 0, none⟩), .pointer (some ⟨q, 0, none⟩)] 106)).drew = W2 at *
    have hsz : W2.heap.size = w.heap.size + 1 + 1 := by rw [← hW2, ← hz1]; exact e1
    have hp0 : W2.cell? ⟨W.heap.size, 0, none⟩ = some (.pointer (some ⟨p, 0, none⟩)) := by rw [cell_of_row _ _ _ _ _ _ (unhide HQ)]; rfl
    have hp1 : W2.cell? ⟨W.heap.size, 1, none⟩ = some (.pointer (some ⟨q, 0, none⟩)) := by rw [cell_of_row _ _ _ _ _ _ (unhide HQ)]; rfl
    have ha0' : W2.cell? ⟨w.heap.size, 0, none⟩ = some (.int .i64 12) := by rw [cell_of_row _ _ _ _ _ _ (unhide HB0)]; rfl
    have ha4 : W2.cell? ⟨w.heap.size, 4, none⟩ = some (.string s) := by rw [cell_of_row _ _ _ _ _ _ (unhide HB0)]; rfl
    have ha5 : W2.cell? ⟨w.heap.size, 5, none⟩ = some vL := by rw [cell_of_row _ _ _ _ _ _ (unhide HB0)]; rfl
    have HSZ := hide (And.intro hsz hz1)
    clear hW2 hcgd hc1d hcc0 hcc1 hcg hc1 e1 hsz hz1
    have hga := (unhide HG).app
    have hgf := (unhide HG).fails
    have hgd := Nat.le_trans (unhide HG).data (lim_le hN)
    go_wp2_with fail
    refine (give_go B W2 p v d s (unhide HD).1 (by omega) (by omega) hgd (by omega)).mono ?_
    rintro _ w3 ⟨rfl, v1, h1⟩
    have HR3 := hide (unhide HU W2 (Kept.refl _ _) v1 _ w3 h1.1 h1.2)
    have hst : ∀ b, w.heap.size ≤ b → b < W2.heap.size → w3.heap[b]? = W2.heap[b]? := fun b hb hbl => h1.2.block b hbl (by have := (unhide HD0).1.lt; omega) fun e => by have := ((unhide HD0).1.own.lt _ e).2; omega
    have hq3 := (hst W.heap.size (by have := (unhide HSZ).2; omega) (by have := unhide HSZ; omega)).trans (unhide HQ)
    have hbx3 := (hst w.heap.size (Nat.le_refl _) (by have := unhide HSZ; omega)).trans (unhide HB0)
    have hq1 : w3.cell? ⟨W.heap.size, 1, none⟩ = some (.pointer (some ⟨q, 0, none⟩)) := by rw [cell_of_row _ _ _ _ _ _ hq3]; rfl
    have hb4 : w3.cell? ⟨w.heap.size, 4, none⟩ = some (.string s) := by rw [cell_of_row _ _ _ _ _ _ hbx3]; rfl
    have H1 := hide h1
    have HQ3 := hide hq3
    clear h1 hst hq3 hbx3
    go_wp2_with fail
    refine (give_ref B w3 q u d s (unhide HR3).1 (by omega) (by omega) hgd (by omega)).mono ?_
    rintro _ w4 ⟨rfl, v2, h2⟩
    have hq4 : w4.heap[W.heap.size]? = _ := (h2.2.block W.heap.size (by have := (unhide H1).2.size; have := unhide HSZ; omega) (by have := (unhide HR0).1.lt; have := unhide HSZ; omega) (fun e => by have := ((unhide HR0).1.own.lt _ e).2; have := unhide HSZ; omega)).trans (unhide HQ3)
    have hq40 : w4.cell? ⟨W.heap.size, 0, none⟩ = some (.pointer (some ⟨p, 0, none⟩)) := by rw [cell_of_row _ _ _ _ _ _ hq4]; rfl
    have hq41 : w4.cell? ⟨W.heap.size, 1, none⟩ = some (.pointer (some ⟨q, 0, none⟩)) := by rw [cell_of_row _ _ _ _ _ _ hq4]; rfl
    have HS4 := hide (unhide HU2 v1 v2 _ _ w3 w4 (unhide H1).1 (unhide H1).2 h2.1 h2.2)
    have hrd := h2.1.c0
    have H4 := hide (ste_after (unhide HB2) (unhide HT W2 (Kept.refl _ _) v1 v2 _ w3 w4 (good_give (unhide HG) hs) (unhide H1) h2))
    clear h2 hq4
    go_wp2_with fail
    refine (sink_read_go B w4 p v1 (d.append s) (unhide HS4).1).mono ?_
    rintro _ _ ⟨rfl, rfl⟩
    generalize (d.append s).data = x at *
    have hqx : (x.toList == x.toList) = true := by simp
    generalize d.took = bb at *
    cases bb
    all_goals go_wp2
    all_goals go_ret
    all_goals exact ok_of (by simp) (unhide H4)
set_option maxRecDepth 100000 in
set_option maxHeartbeats 4000000 in
theorem sink_none (h : Sw B g N w vl vs vn vm D R S T ls ms) (hN : N ≤ 1048576) (kind on a : Int) (n s : ByteArray) (vL : Value) (hk : 13 < kind) (hon0 : -9223372036854775808 ≤ on) (hon : on ≤ 9223372036854775807) (hS0 : 0 < S.length) :
    Calls Tryd.prog 37 #[ptr g, .agg (acells kind on a n s vL)] w (okEnd B g N w) := by
  have hk2 : Kept w.heap.size w (w.alloc (.cells (acells kind on a n s vL) 36)) := (Kept.refl _ _).alloc (Nat.le_refl _) _
  have hnS := h.nS
  have hB := h.size
  obtain ⟨k, hkD, hpick⟩ := lawpick_uni on S.length hon0 hon hS0 (by omega)
  have hkR : k < T.length := by rw [h.lenS]; exact hkD
  obtain ⟨al, cl, hvl, _, hal⟩ := own_len h.sh.co.s
  have hDl : (S.map (·.p)).length = S.length := List.length_map _
  rw [hDl] at hvl hal
  obtain ⟨gl, rfl⟩ := hal hS0
  subst hvl
  have HW := hide (h.kept hk2)
  have HB := hide (hk2.mono h.size)
  have hb0 : (w.alloc (.cells (acells kind on a n s vL) 36)).heap[w.heap.size]? = some (.cells (acells kind on a n s vL) 36 (0, 0)) := heap_alloc_new _ _
  have hWs : (w.alloc (.cells (acells kind on a n s vL) 36)).heap.size = w.heap.size + 1 := by simp
  have hcgA : (w.alloc (.cells (acells kind on a n s vL) 36)).cell? ⟨g, 1, none⟩ = some (.slice (some ⟨gl, 0, none⟩) S.length cl) := by rw [cell_of_row _ _ _ _ _ _ (unhide HW).sh.co.at']; rfl
  generalize hW : w.alloc (.cells (acells kind on a n s vL) 36) = W at HW HB hb0 hWs
  have HEW := hide hW
  have hcg : W.cell? ⟨g, 1, none⟩ = some (.slice (some ⟨gl, 0, none⟩) S.length cl) := by rw [cell_of_row _ _ _ _ _ _ (unhide HW).sh.co.at']; rfl
  have hc1 : W.cell? ⟨w.heap.size, 1, none⟩ = some (.int .i64 on) := by rw [cell_of_row _ _ _ _ _ _ hb0]; rfl
  have hcp : W.cell? ⟨gl, k * 2, none⟩ = some (ptr S[k].p) ∧ W.cell? ⟨gl, k * 2 + 1, none⟩ = some (ptr T[k].p) := by
    have hl := (unhide HW).sh.co.s
    have := pcells_at (S.map (·.p)) (T.map (·.p)) k (unhide HW).sh.co.lq (by simpa using hkD)
    rw [hDl] at hl
    refine ⟨own_at2 hl ?_, own_at2 hl ?_⟩
    · rw [this.1]; simp [hkD]
    · rw [this.2]; simp [hkR]
  have HX := hide (h.xS hkD hkR)
  have HG := hide (h.gS _ (List.getElem_mem hkD))
  have HD0 := hide (h.sh.k.each _ (List.getElem_mem hkD))
  have HR0 := hide (h.sh.t.each _ (List.getElem_mem hkR))
  have hk3 : Kept W.heap.size W (W.alloc (.cells #[ptr S[k].p, ptr T[k].p] 106)).drew := ((Kept.refl _ _).alloc (Nat.le_refl _) _).draws 1
  have HW2 := hide ((unhide HW).kept hk3)
  have HB2 := hide ((unhide HB).trans (hk3.mono (unhide HW).size))
  have HT := hide (fun (Wx : World) (hx : Kept (W.alloc (.cells #[ptr S[k].p, ptr T[k].p] 106)).drew.heap.size (W.alloc (.cells #[ptr S[k].p, ptr T[k].p] 106)).drew Wx) (v1 v2 : Value) (d' : Snk) (w1 w2 : World) (hg : GoodS (N + 1) d') => ((unhide HW2).kept hx).twoS hkD hkR (w1 := w1) (w2 := w2) (v1 := v1) (v2 := v2) (d' := d') hg)
  have HU := hide (fun (Wx : World) (hx : Kept (W.alloc (.cells #[ptr S[k].p, ptr T[k].p] 106)).drew.heap.size (W.alloc (.cells #[ptr S[k].p, ptr T[k].p] 106)).drew Wx) (v1 : Value) (d' : Snk) (w1 : World) (h1 : SAt B 135 w1 S[k].p v1 d') (h2 : Upd S[k].p S[k].v v1 Wx w1) => ((((unhide HW2).kept hx).sh.updS hkD h1 h2).1.t.each _ (List.getElem_mem hkR)))
  have HU2 := hide (fun (v1 v2 : Value) (d' d2 : Snk) (w1 w2 : World) (h1 : SAt B 135 w1 S[k].p v1 d') (h2 : Upd S[k].p S[k].v v1 _ w1) (h3 : SAt B 104 w2 T[k].p v2 d2) (h4 : Upd T[k].p T[k].v v2 w1 w2) => (((unhide HW2).sh.updS hkD h1 h2).1.updT hkR h3 h4).1.k.each _ (List.mem_iff_getElem.2 ⟨k, by rw [List.length_set]; exact hkD, rfl⟩))
  have HD := hide ((unhide HW2).sh.k.each _ (List.getElem_mem hkD))
  have HQ := hide (show (W.alloc (.cells #[ptr S[k].p, ptr T[k].p] 106)).drew.heap[W.heap.size]? = some (.cells #[ptr S[k].p, ptr T[k].p] 106 (0, 0)) from heap_alloc_new W _)
  have HB0 := hide (show (W.alloc (.cells #[ptr S[k].p, ptr T[k].p] 106)).drew.heap[w.heap.size]? = some (.cells (acells kind on a n s vL) 36 (0, 0)) from (Below.heap_alloc _ _ _ (by omega)).trans hb0)
  clear h hk2 hW hDl hal hk3 hb0
  simp only [List.getElem_set_self] at HU2
  generalize S[k] = e at *
  generalize T[k] = f at *
  obtain ⟨p, v, d⟩ := e
  obtain ⟨q, u, d2⟩ := f
  have hx : d = d2 := (unhide HX).symm
  subst hx
  simp only [ptr] at *
  have hcgd : W.drew.cell? ⟨g, 1, none⟩ = some (.slice (some ⟨gl, 0, none⟩) S.length cl) := hcg
  have hc1d : W.drew.cell? ⟨w.heap.size, 1, none⟩ = some (.int .i64 on) := hc1
  have hcc0 : W.drew.cell? ⟨gl, k * 2, none⟩ = some (.pointer (some ⟨p, 0, none⟩)) := hcp.1
  have hcc1 : W.drew.cell? ⟨gl, k * 2 + 1, none⟩ = some (.pointer (some ⟨q, 0, none⟩)) := hcp.2
  have hkI : (k : Int) < (S.length : Int) := by omega
  have hk0 : (0 : Int) ≤ (k : Int) := by omega
  have HPI := hide hpick
  clear hpick hcp
  have hDne : ¬ (S.length : Int) = 0 := by omega
  have hWS := hide hWs
  clear hWs
  have hn11 : ¬ kind = 11 := by omega
  have hn12 : ¬ kind = 12 := by omega
  have hn13 : ¬ kind = 13 := by omega
  go_enter Tryd.func37, Tryd.ntmps37
  go_wp2_with fail
  rw [unhide HEW]
  clear hcgA
  go_region_held3 (fun w' => w'.cell? ⟨g, 1, none⟩ = some (.slice (some ⟨gl, 0, none⟩) S.length cl) ∧ w'.cell? ⟨w.heap.size, 1, none⟩ = some (.int .i64 on) ∧ w'.cell? ⟨gl, k * 2, none⟩ = some (.pointer (some ⟨p, 0, none⟩)) ∧ w'.cell? ⟨gl, k * 2 + 1, none⟩ = some (.pointer (some ⟨q, 0, none⟩))) (first | assumption | exact ⟨hcgd, hc1d, hcc0, hcc1⟩ | exact ⟨keep_ad hcgd, keep_ad hc1d, keep_ad hcc0, keep_ad hcc1⟩ | go_keep) (first | (go_at_call 14; (refine (unhide HPI _).mono ?_; rintro e w' ⟨rfl, rfl⟩)))
  all_goals
    have e1 : (W.alloc (.cells #[.pointer (some ⟨p, 0, none⟩), .pointer (some ⟨q, 0, none⟩)] 106)).heap.size = W.heap.size + 1 := World.size_alloc _ _
    have hz1 := unhide hWS
    generalize hW2 : (W.alloc (.cells #[.pointer (some ⟨p, 0, none⟩), .pointer (some ⟨q, 0, none⟩)] 106)).drew = W2 at *
    have hsz : W2.heap.size = w.heap.size + 1 + 1 := by rw [← hW2, ← hz1]; exact e1
    have hp0 : W2.cell? ⟨W.heap.size, 0, none⟩ = some (.pointer (some ⟨p, 0, none⟩)) := by rw [cell_of_row _ _ _ _ _ _ (unhide HQ)]; rfl
    have hp1 : W2.cell? ⟨W.heap.size, 1, none⟩ = some (.pointer (some ⟨q, 0, none⟩)) := by rw [cell_of_row _ _ _ _ _ _ (unhide HQ)]; rfl
    have ha0' : W2.cell? ⟨w.heap.size, 0, none⟩ = some (.int .i64 kind) := by rw [cell_of_row _ _ _ _ _ _ (unhide HB0)]; rfl
    have ha4 : W2.cell? ⟨w.heap.size, 4, none⟩ = some (.string s) := by rw [cell_of_row _ _ _ _ _ _ (unhide HB0)]; rfl
    have ha5 : W2.cell? ⟨w.heap.size, 5, none⟩ = some vL := by rw [cell_of_row _ _ _ _ _ _ (unhide HB0)]; rfl
    have HSZ := hide (And.intro hsz hz1)
    clear hW2 hcgd hc1d hcc0 hcc1 hcg hc1 e1 hsz hz1
    go_wp2
    all_goals go_ret
    all_goals exact ok_of rfl ((unhide HW2).ste (unhide HB2))
end
end Go.Proofs.YtfodibjlldmnpaaDoor
