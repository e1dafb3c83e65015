/-
  shelf.told.
-/
import Derived.Test.YtfodibjlldmnpaaDoorJFm
namespace Go.Proofs.YtfodibjlldmnpaaDoor
open Go.RowKit

/-- A step of the law is as the document says. -/
def okEnd (B g N : Nat) (w : World) (e : Ending) (w' : World) : Prop := e = .returned (.bool true) ∧ StE B g (N + 1) w' ∧ Kept B w w'
theorem ok_of {B g N : Nat} {w w' : World} {r : Bool} (hr : r = true) (h : StE B g (N + 1) w' ∧ Kept B w w') : okEnd B g N w (.returned (.bool r)) w' := by subst hr; exact ⟨rfl, h⟩
section
variable {B g N : Nat} {w w1 w2 w3 : World} {vl vs vn vm : Value} {D R : List (Loc Dsk)} {S T : List (Loc Snk)} {ls : List Value} {ms : List ByteArray}
theorem Sw.ste (h : Sw B g N w1 vl vs vn vm D R S T ls ms) (hk : Kept B w w1) : StE B g (N + 1) w1 ∧ Kept B w w1 := ⟨⟨_, _, _, _, _, _, _, _, _, _, h.mono (by omega)⟩, hk⟩
theorem Sw.size (h : Sw B g N w vl vs vn vm D R S T ls ms) : B ≤ w.heap.size := by
  have := h.sh.co.gB
  have := (Array.getElem?_eq_some_iff.1 h.sh.co.at').1
  omega
theorem ste_after {w' : World} (hk : Kept B w w1) (h : StE B g (N + 1) w' ∧ Kept B w1 w') : StE B g (N + 1) w' ∧ Kept B w w' := ⟨h.1, hk.trans h.2⟩
/-- One disk more. -/
theorem Sw.pushD (h : Sw B g N w vl vs vn vm D R S T ls ms) {p q : Nat} {v u vl' : Value} {d : Dsk} (hg : GoodD (N + 1) d) (k1 : Kept w.heap.size w w1) (hd : DAt B 96 111 w1 p v d) (hp : w.heap.size ≤ p) (hv : ∀ k, v.ownBlock = some k → w.heap.size ≤ k)
    (k2 : Kept w1.heap.size w1 w2) (hr : DAt B 99 113 w2 q u d) (hq : w1.heap.size ≤ q) (hu : ∀ k, u.ownBlock = some k → w1.heap.size ≤ k)
    (ho : w3.ownsRow B 74 2 vl' ((D.map (·.p)).length + 1) (pcells (D.map (·.p)) (R.map (·.p)) ++ [ptr p, ptr q])) (hU : Upd w2.heap.size vl vl' w2 w3) :
    (StE B g (N + 1) (w3.setCell ⟨g, 0, none⟩ vl') ∧ Kept B w (w3.setCell ⟨g, 0, none⟩ vl')) ∧ w3.cell? ⟨g, 0, none⟩ = some vl ∧ w3.frozen? ⟨g, 0, none⟩ = false := by
  have a := h.sh.pushD k1 hd hp hv k2 hr hq hu ho hU
  refine ⟨⟨⟨_, _, _, _, _, _, _, _, _, _, a.1, by simp [h.eqD], h.eqS, by simp; exact h.nD, by have := h.nS; omega, by have := h.nL; omega, fun e he => ?_, fun e he => (h.gS e he).mono (by omega)⟩, a.2.1⟩, a.2.2⟩
  rcases List.mem_append.1 he with he | he
  · exact (h.gD e he).mono (by omega)
  · rw [List.mem_singleton.1 he]; exact hg
theorem Sw.keeps (h : Sw B g N w vl vs vn vm D R S T ls ms) {e : Ending} {w' : World} (hk : kpEnd B g w vl vs vn vm ls.length e w') : e = .returned (.tuple #[]) ∧ StE B g (N + 1) w' ∧ Kept B w w' := by
  obtain ⟨he, vn', vm', ls', ms', h1, h2, h3⟩ := h.sh.keeps hk
  exact ⟨he, ⟨_, _, _, _, _, _, _, _, _, _, h1, h.eqD, h.eqS, by have := h.nD; omega, by have := h.nS; omega, by have := h.nL; omega, fun e he => (h.gD e he).mono (by omega), fun e he => (h.gS e he).mono (by omega)⟩, h3⟩
theorem DAt.mono {B B' TD TF p : Nat} {w : World} {v : Value} {d : Dsk} (h : DAt B' TD TF w p v d) (hB : B ≤ B') : DAt B TD TF w p v d := ⟨h.at', h.own.mono hB⟩
/-- An act, as cells. -/
abbrev acells (kind on a : Int) (n s : ByteArray) (vL : Value) : Array Value := #[.int .i64 kind, .int .i64 on, .int .i64 a, .string n, .string s, vL]
set_option maxRecDepth 100000 in
set_option maxHeartbeats 4000000 in
theorem told_stopped (h : Sw B g N w vl vs vn vm D R S T ls ms) (_hN : N ≤ 1048576) {i : Nat} (hi : i < D.length) (hj : i < R.length) (kind on a : Int) (n s : ByteArray) (vL : Value) (hk : kind = 9) :
    Calls Tryd.prog 46 #[ptr g, .agg #[ptr D[i].p, ptr R[i].p], .agg (acells kind on a n s vL)] w (okEnd B g N w) := by
  subst hk
  have hk2 : Kept w.heap.size w ((w.alloc (.cells #[ptr D[i].p, ptr R[i].p] 74)).alloc (.cells (acells 9 on a n s vL) 36)) := ((Kept.refl _ _).alloc (Nat.le_refl _) _).alloc (by simp) _
  have HB := hide (And.intro h.size (hk2.mono h.size))
  have HX := hide (h.xD hi hj)
  have HG := hide (h.gD _ (List.getElem_mem hi))
  have HD0 := hide (h.sh.d.each _ (List.getElem_mem hi))
  have HW := hide (h.kept hk2)
  have HD := hide ((unhide HW).sh.d.each _ (List.getElem_mem hi))
  have HR := hide ((unhide HW).sh.r.each _ (List.getElem_mem hj))
  have HT := hide (fun (v1 v2 : Value) (d' : Dsk) (w1 w2 : World) (hg : GoodD (N + 1) d') => (unhide HW).twoD hi hj (w1 := w1) (w2 := w2) (v1 := v1) (v2 := v2) (d' := d') hg)
  have HU := hide (fun (v1 : Value) (d' : Dsk) (w1 : World) (h1 : DAt B 96 111 w1 D[i].p v1 d') (h2 : Upd D[i].p D[i].v v1 _ w1) => ((unhide HW).sh.updD hi h1 h2).1.r.each _ (List.getElem_mem hj))
  have hnL := h.nL
  have hB := h.size
  clear h hk2
  generalize D[i] = e at *
  generalize R[i] = f at *
  obtain ⟨p, v, d⟩ := e
  obtain ⟨q, u, d2⟩ := f
  have hx : d = d2 := (unhide HX).symm
  subst hx
  simp only [ptr] at HW HD HR HB HT HG HU ⊢
  go_enter Tryd.func46, Tryd.ntmps46
  go_wp2_with fail
  refine (stopped_go B _ p v d (unhide HD).1).mono ?_
  rintro _ _ ⟨rfl, rfl⟩
  go_wp2_with fail
  refine (stopped_ref B _ q u d (unhide HR).1).mono ?_
  rintro _ _ ⟨rfl, rfl⟩
  have hbb : (d.stopped == d.stopped) = true := by simp
  go_wp2
  all_goals go_ret
  all_goals exact ok_of (by simp) ((unhide HW).ste (unhide HB).2)
set_option maxRecDepth 100000 in
set_option maxHeartbeats 4000000 in
theorem told_read (h : Sw B g N w vl vs vn vm D R S T ls ms) (hN : N ≤ 1048576) {i : Nat} (hi : i < D.length) (hj : i < R.length) (kind on a : Int) (n s : ByteArray) (vL : Value) (hk : kind = 6) :
    Calls Tryd.prog 46 #[ptr g, .agg #[ptr D[i].p, ptr R[i].p], .agg (acells kind on a n s vL)] w (okEnd B g N w) := by
  subst hk
  have hk2 : Kept w.heap.size w ((w.alloc (.cells #[ptr D[i].p, ptr R[i].p] 74)).alloc (.cells (acells 6 on a n s vL) 36)) := ((Kept.refl _ _).alloc (Nat.le_refl _) _).alloc (by simp) _
  have HB := hide (And.intro h.size (hk2.mono h.size))
  have HX := hide (h.xD hi hj)
  have HG := hide (h.gD _ (List.getElem_mem hi))
  have HD0 := hide (h.sh.d.each _ (List.getElem_mem hi))
  have HW := hide (h.kept hk2)
  have HD := hide ((unhide HW).sh.d.each _ (List.getElem_mem hi))
  have HR := hide ((unhide HW).sh.r.each _ (List.getElem_mem hj))
  have HT := hide (fun (v1 v2 : Value) (d' : Dsk) (w1 w2 : World) (hg : GoodD (N + 1) d') => (unhide HW).twoD hi hj (w1 := w1) (w2 := w2) (v1 := v1) (v2 := v2) (d' := d') hg)
  have HU := hide (fun (v1 : Value) (d' : Dsk) (w1 : World) (h1 : DAt B 96 111 w1 D[i].p v1 d') (h2 : Upd D[i].p D[i].v v1 _ w1) => ((unhide HW).sh.updD hi h1 h2).1.r.each _ (List.getElem_mem hj))
  have hnL := h.nL
  have hB := h.size
  clear h hk2
  generalize D[i] = e at *
  generalize R[i] = f at *
  obtain ⟨p, v, d⟩ := e
  obtain ⟨q, u, d2⟩ := f
  have hx : d = d2 := (unhide HX).symm
  subst hx
  simp only [ptr] at HW HD HR HB HT HG HU ⊢
  have hfl : d.files.length ≤ 4194304 := by have := (unhide HG).files; omega
  go_enter Tryd.func46, Tryd.ntmps46
  go_wp2_with fail
  refine (read_go B _ p v d n (unhide HD).1 hfl).mono ?_
  rintro _ _ ⟨rfl, rfl⟩
  go_wp2_with fail
  refine (has_go B _ p v d n (unhide HD).1 hfl).mono ?_
  rintro _ _ ⟨rfl, rfl⟩
  go_wp2_with fail
  refine (read_ref B _ q u d n (unhide HR).1 hfl).mono ?_
  rintro _ _ ⟨rfl, rfl⟩
  have hq1 : ((d.read n).toList == (d.read n).toList) = true := by simp
  have hq2 : (d.has n == d.has n) = true := by simp
  go_wp2
  all_goals go_ret
  all_goals exact ok_of (by simp) ((unhide HW).ste (unhide HB).2)
set_option maxRecDepth 100000 in
set_option maxHeartbeats 4000000 in
theorem told_stop (h : Sw B g N w vl vs vn vm D R S T ls ms) (_hN : N ≤ 1048576) {i : Nat} (hi : i < D.length) (hj : i < R.length) (kind on a : Int) (n s : ByteArray) (vL : Value) (hk : kind = 8) (ha : a ≤ 9223372036854775807) :
    Calls Tryd.prog 46 #[ptr g, .agg #[ptr D[i].p, ptr R[i].p], .agg (acells kind on a n s vL)] w (okEnd B g N w) := by
  subst hk
  have hk2 : Kept w.heap.size w ((w.alloc (.cells #[ptr D[i].p, ptr R[i].p] 74)).alloc (.cells (acells 8 on a n s vL) 36)) := ((Kept.refl _ _).alloc (Nat.le_refl _) _).alloc (by simp) _
  have HB := hide (And.intro h.size (hk2.mono h.size))
  have HX := hide (h.xD hi hj)
  have HG := hide (h.gD _ (List.getElem_mem hi))
  have HD0 := hide (h.sh.d.each _ (List.getElem_mem hi))
  have HW := hide (h.kept hk2)
  have HD := hide ((unhide HW).sh.d.each _ (List.getElem_mem hi))
  have HR := hide ((unhide HW).sh.r.each _ (List.getElem_mem hj))
  have HT := hide (fun (v1 v2 : Value) (d' : Dsk) (w1 w2 : World) (hg : GoodD (N + 1) d') => (unhide HW).twoD hi hj (w1 := w1) (w2 := w2) (v1 := v1) (v2 := v2) (d' := d') hg)
  have HU := hide (fun (v1 : Value) (d' : Dsk) (w1 : World) (h1 : DAt B 96 111 w1 D[i].p v1 d') (h2 : Upd D[i].p D[i].v v1 _ w1) => ((unhide HW).sh.updD hi h1 h2).1.r.each _ (List.getElem_mem hj))
  have hnL := h.nL
  have hB := h.size
  clear h hk2
  generalize D[i] = e at *
  generalize R[i] = f at *
  obtain ⟨p, v, d⟩ := e
  obtain ⟨q, u, d2⟩ := f
  have hx : d = d2 := (unhide HX).symm
  subst hx
  simp only [ptr] at HW HD HR HB HT HG HU ⊢
  go_enter Tryd.func46, Tryd.ntmps46
  go_wp2_with fail
  refine (stop_go B _ p v d a (unhide HD).1).mono ?_
  rintro _ w3 ⟨rfl, v1, h1⟩
  have HR3 := hide (unhide HU v1 _ w3 h1.1 h1.2)
  have H1 := hide h1
  clear h1
  have hbx : w3.cell? ⟨w.heap.size, 1, none⟩ = some (.pointer (some ⟨q, 0, none⟩)) := by
    refine (World.cell?_of_block (a := ⟨w.heap.size, 1, none⟩) ((unhide H1).2.block w.heap.size (by simp <;> omega) ?_ ?_)).trans ?_
    · have := (unhide HD0).1.lt; omega
    · exact fun e => by have := ((unhide HD0).1.own.lt _ e).2; omega
    · rw [World.cell?_alloc_lt _ _ _ (by simp), cell_of_row _ _ _ _ _ _ (heap_alloc_new _ _)]; rfl
  have hba : w3.cell? ⟨w.heap.size + 1, 2, none⟩ = some (.int .i64 a) := by
    refine (World.cell?_of_block (a := ⟨w.heap.size + 1, 2, none⟩) ((unhide H1).2.block (w.heap.size + 1) (by simp <;> omega) ?_ ?_)).trans ?_
    · have := (unhide HD0).1.lt; omega
    · exact fun e => by have := ((unhide HD0).1.own.lt _ e).2; omega
    · have hbn := heap_alloc_new (w.alloc (.cells #[.pointer (some ⟨p, 0, none⟩), .pointer (some ⟨q, 0, none⟩)] 74)) (.cells (acells 8 on a n s vL) 36)
      rw [World.size_alloc] at hbn
      rw [cell_of_row _ _ _ _ _ _ hbn]; rfl
  go_wp2_with fail
  refine (stop_ref B w3 q u d a (unhide HR3).1).mono ?_
  rintro _ w4 ⟨rfl, v2, h2⟩
  have H4 := hide (ste_after (unhide HB).2 (unhide HT v1 v2 _ w3 w4 (good_stop (unhide HG) ha) (unhide H1) h2))
  clear h2
  go_wp2
  all_goals go_ret
  all_goals exact ok_of rfl (unhide H4)
set_option maxRecDepth 100000 in
set_option maxHeartbeats 4000000 in
theorem told_none (h : Sw B g N w vl vs vn vm D R S T ls ms) (_hN : N ≤ 1048576) {i : Nat} (hi : i < D.length) (hj : i < R.length) (kind on a : Int) (n s : ByteArray) (vL : Value) (hk : kind < 6 ∨ 10 < kind) :
    Calls Tryd.prog 46 #[ptr g, .agg #[ptr D[i].p, ptr R[i].p], .agg (acells kind on a n s vL)] w (okEnd B g N w) := by
  have hk2 : Kept w.heap.size w ((w.alloc (.cells #[ptr D[i].p, ptr R[i].p] 74)).alloc (.cells (acells kind on a n s vL) 36)) := ((Kept.refl _ _).alloc (Nat.le_refl _) _).alloc (by simp) _
  have HB := hide (And.intro h.size (hk2.mono h.size))
  have HX := hide (h.xD hi hj)
  have HG := hide (h.gD _ (List.getElem_mem hi))
  have HD0 := hide (h.sh.d.each _ (List.getElem_mem hi))
  have HW := hide (h.kept hk2)
  have HD := hide ((unhide HW).sh.d.each _ (List.getElem_mem hi))
  have HR := hide ((unhide HW).sh.r.each _ (List.getElem_mem hj))
  have HT := hide (fun (v1 v2 : Value) (d' : Dsk) (w1 w2 : World) (hg : GoodD (N + 1) d') => (unhide HW).twoD hi hj (w1 := w1) (w2 := w2) (v1 := v1) (v2 := v2) (d' := d') hg)
  have HU := hide (fun (v1 : Value) (d' : Dsk) (w1 : World) (h1 : DAt B 96 111 w1 D[i].p v1 d') (h2 : Upd D[i].p D[i].v v1 _ w1) => ((unhide HW).sh.updD hi h1 h2).1.r.each _ (List.getElem_mem hj))
  have hnL := h.nL
  have hB := h.size
  clear h hk2
  generalize D[i] = e at *
  generalize R[i] = f at *
  obtain ⟨p, v, d⟩ := e
  obtain ⟨q, u, d2⟩ := f
  have hx : d = d2 := (unhide HX).symm
  subst hx
  simp only [ptr] at HW HD HR HB HT HG HU ⊢
  have h6 : ¬ kind = 6 := by omega
  have h7 : ¬ kind = 7 := by omega
  have h8 : ¬ kind = 8 := by omega
  have h9 : ¬ kind = 9 := by omega
  have h10 : ¬ kind = 10 := by omega
  go_enter Tryd.func46, Tryd.ntmps46
  go_wp2_with fail
  all_goals go_ret
  all_goals exact ok_of rfl ((unhide HW).ste (unhide HB).2)
set_option maxRecDepth 100000 in
set_option maxHeartbeats 4000000 in
theorem told_crash (h : Sw B g N w vl vs vn vm D R S T ls ms) (hN : N ≤ 1048576) {i : Nat} (hi : i < D.length) (hj : i < R.length) (kind on a : Int) (n s : ByteArray) (vL : Value) (hk : kind = 10) (ha0 : -9223372036854775808 ≤ a) (ha : a ≤ 9223372036854775807) :
    Calls Tryd.prog 46 #[ptr g, .agg #[ptr D[i].p, ptr R[i].p], .agg (acells kind on a n s vL)] w (okEnd B g N w) := by
  subst hk
  have hk2 : Kept w.heap.size w ((w.alloc (.cells #[ptr D[i].p, ptr R[i].p] 74)).alloc (.cells (acells 10 on a n s vL) 36)) := ((Kept.refl _ _).alloc (Nat.le_refl _) _).alloc (by simp) _
  have HB := hide (And.intro h.size (hk2.mono h.size))
  have HX := hide (h.xD hi hj)
  have HG := hide (h.gD _ (List.getElem_mem hi))
  have HD0 := hide (h.sh.d.each _ (List.getElem_mem hi))
  have HW := hide (h.kept hk2)
  have HD := hide ((unhide HW).sh.d.each _ (List.getElem_mem hi))
  have HR := hide ((unhide HW).sh.r.each _ (List.getElem_mem hj))
  have HT := hide (fun (v1 v2 : Value) (d' : Dsk) (w1 w2 : World) (hg : GoodD (N + 1) d') => (unhide HW).twoD hi hj (w1 := w1) (w2 := w2) (v1 := v1) (v2 := v2) (d' := d') hg)
  have HU := hide (fun (v1 : Value) (d' : Dsk) (w1 : World) (h1 : DAt B 96 111 w1 D[i].p v1 d') (h2 : Upd D[i].p D[i].v v1 _ w1) => ((unhide HW).sh.updD hi h1 h2).1.r.each _ (List.getElem_mem hj))
  have hnL := h.nL
  have hB := h.size
  clear h hk2
  generalize D[i] = e at *
  generalize R[i] = f at *
  obtain ⟨p, v, d⟩ := e
  obtain ⟨q, u, d2⟩ := f
  have hx : d = d2 := (unhide HX).symm
  subst hx
  simp only [ptr] at HW HD HR HB HT HG HU ⊢
  have hfl : d.files.length ≤ 4194303 := by have := (unhide HG).files; omega
  have hfb : ∀ f ∈ d.files, f.data.size ≤ 1099511627776 ∧ f.safe ≤ f.data.size := fun f hf => ⟨(unhide HG).big hN f hf, ((unhide HG).each f hf).2⟩
  have HGC := hide (good_crash (unhide HG) (keep := a))
  have hnD := (unhide HW).nD
  have hDl : (D.map (·.p)).length = D.length := List.length_map _
  generalize hW : ((w.alloc (.cells #[.pointer (some ⟨p, 0, none⟩), .pointer (some ⟨q, 0, none⟩)] 74)).alloc (.cells (acells 10 on a n s vL) 36)) = W at HW HB HD HR
  have hWs : W.heap.size = w.heap.size + 1 + 1 := by rw [← hW]; simp
  have hb0 : W.heap[w.heap.size]? = some (.cells #[.pointer (some ⟨p, 0, none⟩), .pointer (some ⟨q, 0, none⟩)] 74 (0, 0)) := by rw [← hW]; exact (Below.heap_alloc _ _ _ (by simp)).trans (heap_alloc_new _ _)
  have hb1 : W.heap[w.heap.size + 1]? = some (.cells (acells 10 on a n s vL) 36 (0, 0)) := by
    have := heap_alloc_new (w.alloc (.cells #[.pointer (some ⟨p, 0, none⟩), .pointer (some ⟨q, 0, none⟩)] 74)) (.cells (acells 10 on a n s vL) 36)
    rw [World.size_alloc] at this
    rw [← hW]; exact this
  have HBX := hide (And.intro hWs (And.intro hb0 hb1))
  have HEW := hide hW
  clear hWs hb0 hb1 hW HT HU
  go_enter Tryd.func46, Tryd.ntmps46
  go_wp2_with fail
  rw [unhide HEW]
  refine (crash_go B W p v d a (unhide HD).1 hfl hfb ha0 ha).mono ?_
  rintro _ w3 ⟨po, vo, rfl, hcr⟩
  have HC := hide hcr
  have hc3 : w3.cell? ⟨w.heap.size, 1, none⟩ = some (.pointer (some ⟨q, 0, none⟩)) := by
    rw [cell_of_row _ _ _ _ _ _ ((hcr.kept.block _ (by have := (unhide HBX).1; omega)).trans (unhide HBX).2.1)]; rfl
  have hc4 : w3.cell? ⟨w.heap.size + 1, 2, none⟩ = some (.int .i64 a) := by
    rw [cell_of_row _ _ _ _ _ _ ((hcr.kept.block _ (by have := (unhide HBX).1; omega)).trans (unhide HBX).2.2)]; rfl
  clear hcr
  go_wp2_with fail
  refine (crash_ref B w3 q u d a ((unhide HR).1.kept (unhide HC).kept) hfl hfb ha0 ha).mono ?_
  rintro _ w4 ⟨qo, uo, rfl, hcr2⟩
  have HC2 := hide hcr2
  have HSW := hide (((unhide HW).kept (unhide HC).kept).kept hcr2.kept)
  have hcg := cell_of_row _ _ 0 _ _ _ (unhide HSW).sh.co.at'
  obtain ⟨al, cl, hvl, _, _⟩ := own_len (unhide HSW).sh.co.l
  subst hvl
  have hcg0 : w4.cell? ⟨g, 0, none⟩ = some (.slice al (D.map (·.p)).length cl) := hcg
  clear hcr2 hcg
  go_wp2_with (refine wpList_halt2 (.tmp 123) (.tmp 127) 27 rfl ?_)
  refine Stp.mk ?_
  refine wpList_append_pair rfl (.tmp 123) (.tmp 127) 27 74 rfl B Tryd.underlying27 info74 (.slice al (D.map (·.p)).length cl) (D.map (·.p)).length (pcells (D.map (·.p)) (R.map (·.p))) po qo w4 ?_ (unhide HSW).sh.co.l (by omega) rfl rfl (unhide HSW).size ?_
  · simp [Act.eval]
  intro vl' w5 ho5 hu5
  have hP := (unhide HW).pushD (unhide HGC) (unhide HC).kept ((unhide HC).dat.mono (unhide HW).size) (unhide HC).new (fun k hk => ((unhide HC).dat.own.lt k hk).1) (unhide HC2).kept ((unhide HC2).dat.mono (Nat.le_trans (unhide HW).size (unhide HC).kept.size)) (unhide HC2).new (fun k hk => ((unhide HC2).dat.own.lt k hk).1) ho5 hu5
  have hc5 := hP.2.1
  have hz5 := hP.2.2
  obtain ⟨al', cl', hvl', _, _⟩ := own_len ho5
  subst hvl'
  have HP := hide (ste_after (unhide HB).2 hP.1)
  clear hP ho5 hu5
  simp only [Act.put, List.setIfInBounds_toArray, List.set_cons_zero, List.set_cons_succ]
  go_wp2
  all_goals go_ret
  all_goals exact ok_of (by simp) (by have := unhide HP; rwa [hDl] at this)
set_option maxRecDepth 100000 in
set_option maxHeartbeats 4000000 in
theorem told_names (h : Sw B g N w vl vs vn vm D R S T ls ms) (hN : N ≤ 1048576) {i : Nat} (hi : i < D.length) (hj : i < R.length) (kind on a : Int) (n s : ByteArray) (vL : Value) (hk : kind = 7) :
    Calls Tryd.prog 46 #[ptr g, .agg #[ptr D[i].p, ptr R[i].p], .agg (acells kind on a n s vL)] w (okEnd B g N w) := by
  subst hk
  have hk2 : Kept w.heap.size w ((w.alloc (.cells #[ptr D[i].p, ptr R[i].p] 74)).alloc (.cells (acells 7 on a n s vL) 36)) := ((Kept.refl _ _).alloc (Nat.le_refl _) _).alloc (by simp) _
  have HB := hide (And.intro h.size (hk2.mono h.size))
  have HX := hide (h.xD hi hj)
  have HG := hide (h.gD _ (List.getElem_mem hi))
  have HD0 := hide (h.sh.d.each _ (List.getElem_mem hi))
  have HW := hide (h.kept hk2)
  have HD := hide ((unhide HW).sh.d.each _ (List.getElem_mem hi))
  have HR := hide ((unhide HW).sh.r.each _ (List.getElem_mem hj))
  have HT := hide (fun (v1 v2 : Value) (d' : Dsk) (w1 w2 : World) (hg : GoodD (N + 1) d') => (unhide HW).twoD hi hj (w1 := w1) (w2 := w2) (v1 := v1) (v2 := v2) (d' := d') hg)
  have HU := hide (fun (v1 : Value) (d' : Dsk) (w1 : World) (h1 : DAt B 96 111 w1 D[i].p v1 d') (h2 : Upd D[i].p D[i].v v1 _ w1) => ((unhide HW).sh.updD hi h1 h2).1.r.each _ (List.getElem_mem hj))
  have hnL := h.nL
  have hB := h.size
  clear h hk2
  generalize D[i] = e at *
  generalize R[i] = f at *
  obtain ⟨p, v, d⟩ := e
  obtain ⟨q, u, d2⟩ := f
  have hx : d = d2 := (unhide HX).symm
  subst hx
  simp only [ptr] at HW HD HR HB HT HG HU ⊢
  have hfl : d.files.length ≤ 4194303 := by have := (unhide HG).files; omega
  have hl2' : (nmF d.files).length ≤ 4194303 := by rw [nmF_len]; exact hfl
  have HL2 := hide hl2'
  clear hl2'
  generalize hW : ((w.alloc (.cells #[.pointer (some ⟨p, 0, none⟩), .pointer (some ⟨q, 0, none⟩)] 74)).alloc (.cells (acells 7 on a n s vL) 36)) = W at HW HB HD HR
  have hWs : W.heap.size = w.heap.size + 1 + 1 := by rw [← hW]; simp
  have hb0 : W.heap[w.heap.size]? = some (.cells #[.pointer (some ⟨p, 0, none⟩), .pointer (some ⟨q, 0, none⟩)] 74 (0, 0)) := by rw [← hW]; exact (Below.heap_alloc _ _ _ (by simp)).trans (heap_alloc_new _ _)
  have HBX := hide (And.intro hWs hb0)
  have HEW := hide hW
  clear hWs hb0 hW HT HU
  go_enter Tryd.func46, Tryd.ntmps46
  go_wp2_with fail
  rw [unhide HEW]
  refine (names_go B W p v d (unhide HD).1 hfl).mono ?_
  rintro _ w3 ⟨va, rfl, hna⟩
  have hc3 : w3.cell? ⟨w.heap.size, 1, none⟩ = some (.pointer (some ⟨q, 0, none⟩)) := by
    rw [cell_of_row _ _ _ _ _ _ ((hna.kept.block _ (by have := (unhide HBX).1; omega)).trans (unhide HBX).2)]; rfl
  have HA := hide hna
  obtain ⟨aa, ca, hva, _, haa⟩ := own_len hna.own
  subst hva
  clear hna
  go_wp2_with fail
  refine (names_ref B w3 q u d ((unhide HR).1.kept (unhide HA).kept) hfl).mono ?_
  rintro _ w4 ⟨vb, rfl, hnb⟩
  have HNB := hide hnb
  obtain ⟨ab, cb, hvb, _, hab⟩ := own_len hnb.own
  subst hvb
  clear hnb
  generalize nmF d.files = l at *
  have hl2 : l.length ≤ 4194303 := unhide HL2
  go_wp2_with fail
  go_loopw [14, 13] (fun vi vb wr => ∃ i : Nat, i ≤ l.length ∧ vi = .int .i64 i ∧ vb = .bool true ∧ Kept w4.heap.size w4 wr) (fun vi _ _ => l.length - (intOf vi).toNat)
  case atStart => exact ⟨0, Nat.zero_le _, rfl, by simp, Kept.refl _ _⟩
  case round =>
    obtain ⟨j, hjl, rfl, rfl, hkr⟩ := hrel
    have HKR := hide hkr
    clear hkr
    by_cases hlt : j < l.length
    · obtain ⟨ga, rfl⟩ := haa (by omega)
      obtain ⟨gb, rfl⟩ := hab (by omega)
      have hjI : (j : Int) < (l.length : Int) := by omega
      have hj0 : (0 : Int) ≤ (j : Int) := by omega
      have hca : wr.cell? ⟨ga, j, none⟩ = some (.string (l.getD j .empty)) := (((unhide HA).next (unhide HNB).kept).next (unhide HKR)).at hlt
      have hcb : wr.cell? ⟨gb, j, none⟩ = some (.string (l.getD j .empty)) := ((unhide HNB).next (unhide HKR)).at hlt
      generalize l.getD j .empty = m at hca hcb
      have hqm : (m.toList == m.toList) = true := by simp
      go_wp2_with fail
      go_quiet (fail)
      go_wp2_with fail
      go_roundw
      case rel => exact ⟨j + 1, by omega, by go_num, rfl, (unhide HKR).draws _⟩
      case measure => simp [intOf]; omega
    · have hjI : ¬ (j : Int) < (l.length : Int) := by omega
      have HNW := hide (((unhide HA).next (unhide HNB).kept).next (unhide HKR))
      go_wp2_with fail
      refine (keeps_go B g W wr vl vs vn vm ls ms (.slice aa l.length ca) l (unhide HW).size (unhide HW).sh.co.at' (unhide HW).sh.co.nm (unhide HNW) (by have := (unhide HW).nL; omega) (by omega)).mono ?_
      intro e5 w5 hk5
      obtain ⟨rfl, h5⟩ := (unhide HW).keeps hk5
      have H5 := hide (ste_after (unhide HB).2 h5)
      clear hk5 h5
      go_wp2
      all_goals go_ret
      all_goals exact ok_of rfl (unhide H5)
theorem shelf_told_go (h : Sw B g N w vl vs vn vm D R S T ls ms) (hN : N ≤ 1048576) {i : Nat} (hi : i < D.length) (hj : i < R.length) (kind on a : Int) (n s : ByteArray) (vL : Value) (ha0 : -9223372036854775808 ≤ a) (ha : a ≤ 9223372036854775807) :
    Calls Tryd.prog 46 #[ptr g, .agg #[ptr D[i].p, ptr R[i].p], .agg (acells kind on a n s vL)] w (okEnd B g N w) := by
  by_cases h6 : kind = 6
  · exact told_read h hN hi hj kind on a n s vL h6
  by_cases h7 : kind = 7
  · exact told_names h hN hi hj kind on a n s vL h7
  by_cases h8 : kind = 8
  · exact told_stop h hN hi hj kind on a n s vL h8 ha
  by_cases h9 : kind = 9
  · exact told_stopped h hN hi hj kind on a n s vL h9
  by_cases h10 : kind = 10
  · exact told_crash h hN hi hj kind on a n s vL h10 ha0 ha
  exact told_none h hN hi hj kind on a n s vL (by omega)
end
end Go.Proofs.YtfodibjlldmnpaaDoor
