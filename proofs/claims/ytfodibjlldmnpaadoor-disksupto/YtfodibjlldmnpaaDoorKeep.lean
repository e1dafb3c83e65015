/-
  Drawer.keep.
-/
import Derived.Test.YtfodibjlldmnpaaDoorJHsame
import Derived.Test.YtfodibjlldmnpaaDoorPlaw
namespace Go.Proofs.YtfodibjlldmnpaaDoor
open Go.RowKit

/-- The drawer: what it has. -/
structure Dr (B T : Nat) (w : World) (g n : Nat) (vl vm : Value) (ls : List Value) (ms : List (List UInt8)) : Prop where
  at' : w.heap[g]? = some (.cells #[vl, vm] 45 (0, 0))
  gB : B ≤ g
  gT : g < T
  tw : T ≤ w.heap.size
  l : w.ownsRow B 41 1 vl n ls
  m : w.ownsRow B 24 32 vm n (flat ms)
  mn : ms.length = n
  all : ∀ d ∈ ms, d.length = 32
  lT : ∀ k, vl.ownBlock = some k → k < T
  mT : ∀ k, vm.ownBlock = some k → k < T
  each : ∀ k, k < n → ∃ len, len ≤ 50 ∧ w.ownsRow B 24 32 (ls.getD k undef) len (reps (ms.getD k []) len) ∧ (∀ b, (ls.getD k undef).ownBlock = some b → b < T ∧ vm.ownBlock ≠ some b)

theorem own_blocks {w w' : World} {B : Nat} {e : TypeId} {z : Nat} {v : Value} {n : Nat} {xs : List Value} (h : w.ownsRow B e z v n xs) (hb : ∀ k, v.ownBlock = some k → w'.heap[k]? = w.heap[k]?) : w'.ownsRow B e z v n xs := by
  refine ⟨h.1, h.2.imp id ?_⟩
  rintro ⟨g, cap, cur, rfl, h2, h3, r⟩
  exact ⟨g, cap, cur, rfl, h2, (hb g rfl).trans h3, r⟩

theorem Dr.kept {B T : Nat} {w w' : World} {g n : Nat} {vl vm : Value} {ls : List Value} {ms : List (List UInt8)} (h : Dr B T w g n vl vm ls ms) (hs : w.heap.size ≤ w'.heap.size) (hb : ∀ k, k < T → w'.heap[k]? = w.heap[k]?) : Dr B T w' g n vl vm ls ms :=
  ⟨(hb g h.gT).trans h.at', h.gB, h.gT, Nat.le_trans h.tw hs, own_blocks h.l fun k hk => hb k (h.lT k hk), own_blocks h.m fun k hk => hb k (h.mT k hk), h.mn, h.all, h.lT, h.mT, fun k hk => by
    obtain ⟨len, h1, h2, h3⟩ := h.each k hk
    exact ⟨len, h1, own_blocks h2 fun b hb' => hb b (h3 b hb').1, h3⟩⟩
theorem Dr.up {B T T' : Nat} {w : World} {g n : Nat} {vl vm : Value} {ls : List Value} {ms : List (List UInt8)} (h : Dr B T w g n vl vm ls ms) (h1 : T ≤ T') (h2 : T' ≤ w.heap.size) : Dr B T' w g n vl vm ls ms :=
  ⟨h.at', h.gB, Nat.lt_of_lt_of_le h.gT h1, h2, h.l, h.m, h.mn, h.all, fun k hk => Nat.lt_of_lt_of_le (h.lT k hk) h1, fun k hk => Nat.lt_of_lt_of_le (h.mT k hk) h1, fun k hk => by
    obtain ⟨len, h3, h4, h5⟩ := h.each k hk
    exact ⟨len, h3, h4, fun b hb => ⟨Nat.lt_of_lt_of_le (h5 b hb).1 h1, (h5 b hb).2⟩⟩⟩

/-- What keep leaves as it was. -/
structure Keeps (B T : Nat) (v : Value) (w w' : World) : Prop where
  os : w'.os = w.os
  output : w'.output = w.output
  size : w.heap.size ≤ w'.heap.size
  block : ∀ k, k < w.heap.size → (k < B ∨ T ≤ k) → some k ≠ v.ownBlock → w'.heap[k]? = w.heap[k]?

/-- The drawer's mark. -/
abbrev markOf (x y z : UInt8) : List UInt8 := [1, x, y, z, 0, 0, 0, 0, 0, 0, 0, 0, 0, 0, 0, 0, 0, 0, 0, 0, 0, 0, 0, 0, 0, 0, 0, 0, 0, 0, 0, 0]

theorem own_len {w : World} {B : Nat} {e : TypeId} {z : Nat} {v : Value} {n : Nat} {xs : List Value} (h : w.ownsRow B e z v n xs) : ∃ ao cap, v = .slice ao n cap ∧ n ≤ cap ∧ (0 < n → ∃ g, ao = some ⟨g, 0, none⟩) := by
  rcases h.2 with ⟨rfl, rfl⟩ | ⟨g, cap, cur, rfl, _, _, hc, _⟩
  · exact ⟨none, 0, rfl, Nat.le_refl _, fun h => absurd h (by omega)⟩
  · exact ⟨_, cap, rfl, hc, fun _ => ⟨g, rfl⟩⟩

theorem take_mid {α : Type} (L b : List α) (a N : Nat) (h1 : a + b.length ≤ N) (h2 : N ≤ L.length) : (L.take a ++ b ++ L.drop (a + b.length)).take N = (L.take N).take a ++ b ++ (L.take N).drop (a + b.length) := by
  have hl : (L.take a ++ b).length = a + b.length := by rw [List.length_append, List.length_take]; omega
  rw [List.take_append, List.take_of_length_le (by omega), hl, List.take_take, Nat.min_eq_left (by omega), List.drop_take]
theorem own_store {w : World} {T gv len cap i : Nat} {q : List (List UInt8)} {d : List UInt8} (h : w.ownsRow T 24 32 (.slice (some ⟨gv, 0, none⟩) len cap) len (flat q)) (hq : ∀ x ∈ q, x.length = 32) (hql : q.length = len) (hi : i < len) (hd : d.length = 32) :
    w.there gv (i * 32) (brow d).size ∧ (w.setCells gv (i * 32) (brow d).toList).ownsRow T 24 32 (.slice (some ⟨gv, 0, none⟩) len cap) len (flat (q.set i d)) ∧ Other gv w (w.setCells gv (i * 32) (brow d).toList) := by
  rcases h.2 with ⟨h', _⟩ | ⟨g, c, cur, h1, h2, h3, h4, h5, h6, h7⟩
  · cases h'
  · simp only [Value.slice.injEq, Option.some.injEq, Addr.mk.injEq, and_true, true_and] at h1
    obtain ⟨rfl, rfl⟩ := h1
    have hqs : ∀ x ∈ q.set i d, x.length = 32 := by
      intro x hx
      rcases List.mem_or_eq_of_mem_set hx with h | h
      · exact hq x h
      · rw [h]; exact hd
    have hbl : (brow d).toList = blist d := by simp [brow]
    have hbs : (brow d).size = 32 := by rw [brow_size, hd]
    have hdl : (blist d).length = 32 := by simp [hd]
    have hfit : i * 32 + 32 ≤ cur.size := by rw [h6]; have : (i + 1) * 32 ≤ cap * 32 := Nat.mul_le_mul_right _ (by omega); omega
    have hst := setCells_at h3 (i * 32) (blist d) (by omega) (blist_one d)
    refine ⟨by rw [hbs]; exact there_at h3 _ _ hfit, ?_, ?_⟩
    · rw [hbl, hst]
      refine ⟨?_, .inr ⟨gv, cap, _, rfl, h2, setRow_heap _ _ _ _ _ _ h3, h4, h5, ?_, ?_⟩⟩
      · rw [flat_length hqs, List.length_set, hql]
      · simp only [List.size_toArray, List.length_append, List.length_take, List.length_drop, Array.length_toList, hdl]
        rw [← h6]; omega
      · simp only []
        rw [take_mid _ _ _ _ (by rw [hdl]; have : (i + 1) * 32 ≤ len * 32 := Nat.mul_le_mul_right _ (by omega); omega) (by rw [Array.length_toList, h6]; exact Nat.mul_le_mul_right _ h4), h7, hdl]
        exact flat_set hd i q hq (by omega)
    · rw [hbl, hst]
      exact ⟨rfl, rfl, by simp, fun k _ hk => setRow_other _ _ k _ hk⟩

/-- Between the drawer's own writes. -/
structure Mid (w : World) (v : Value) (m : List UInt8) (wx : World) : Prop where
  os : wx.os = w.os
  output : wx.output = w.output
  size : w.heap.size < wx.heap.size
  row : wx.heap[w.heap.size]? = some (.cells (brow m) 24 (0, 0))
  oth : ∀ k, k < w.heap.size → some k ≠ v.ownBlock → wx.heap[k]? = w.heap[k]?
theorem Mid.alloc {w : World} {v : Value} {m : List UInt8} {wx : World} (h : Mid w v m wx) (O : Obj) : Mid w v m (wx.alloc O) :=
  ⟨h.os, h.output, by simp; have := h.size; omega, (Below.heap_alloc _ _ _ h.size).trans h.row, fun k hk hv => (Below.heap_alloc _ _ _ (Nat.lt_trans hk h.size)).trans (h.oth k hk hv)⟩
theorem Mid.grown {w : World} {v : Value} {m : List UInt8} {wx wy : World} (h : Mid w v m wx) (hg : wx.grownBy wy v.ownBlock) (hv : ∀ k, v.ownBlock = some k → k < w.heap.size) : Mid w v m wy :=
  ⟨hg.os.trans h.os, hg.output.trans h.output, Nat.lt_of_lt_of_le h.size hg.size, (hg.block _ h.size (fun e => by have := hv _ e.symm; omega)).trans h.row, fun k hk hn => (hg.block k (Nat.lt_trans hk h.size) hn).trans (h.oth k hk hn)⟩
theorem Mid.other {w : World} {gv len cap : Nat} {m : List UInt8} {wx wy : World} (h : Mid w (.slice (some ⟨gv, 0, none⟩) len cap) m wx) (hg : Other gv wx wy) (hv : gv < w.heap.size) : Mid w (.slice (some ⟨gv, 0, none⟩) len cap) m wy :=
  ⟨hg.os.trans h.os, hg.output.trans h.output, Nat.lt_of_lt_of_le h.size hg.size, (hg.block _ h.size (by omega)).trans h.row, fun k hk hn => (hg.block k (Nat.lt_trans hk h.size) (fun e => hn (by rw [e]; rfl))).trans (h.oth k hk hn)⟩
theorem mark_set {p : List (List UInt8)} {m : List UInt8} {i : Nat} (hi : i < p.length) : (List.replicate i m ++ p.drop i).set i m = List.replicate (i + 1) m ++ p.drop (i + 1) := by
  rw [List.set_append_right _ _ (by simp), List.length_replicate, Nat.sub_self, List.replicate_succ', List.append_assoc]
  congr 1
  rw [List.drop_eq_getElem_cons hi]
  rfl
theorem news_reps {W W0 : World} {m : List UInt8} {j : Nat} {R : Array Value} (hR : R = (reps m j).toArray) (hh : W.heap = (W0.alloc (.cells R 24)).heap) : ∀ q u, (reps m j)[q]? = some u → W.cell? ((⟨W0.heap.size, 0, none⟩ : Addr).add q) = some u := by
  intro q u hu
  rw [add_addr, Nat.zero_add]
  have : W.heap[W0.heap.size]? = some (.cells R 24 (0, 0)) := by rw [hh]; exact heap_alloc_new _ _
  rw [cell_of_row _ _ _ _ _ _ this, hR, List.getElem?_toArray]
  exact hu

/-- A place where the walk stands still. -/
structure Stp (p : Prop) : Prop where
  out : p
theorem own_ty {w : World} {B : Nat} {e : TypeId} {z : Nat} {v : Value} {n : Nat} {xs : List Value} (h : w.ownsRow B e z v n xs) {k : Nat} (hk : v.ownBlock = some k) : ∃ cur, w.heap[k]? = some (.cells cur e (0, 0)) := by
  rcases h.2 with ⟨rfl, _⟩ | ⟨g, cap, cur, rfl, _, hg, _⟩
  · simp [Value.ownBlock] at hk
  · simp [Value.ownBlock] at hk
    subst hk
    exact ⟨cur, hg⟩
theorem own_ne {w : World} {B B' : Nat} {e e' : TypeId} {z z' : Nat} {v v' : Value} {n n' : Nat} {xs xs' : List Value} (h : w.ownsRow B e z v n xs) (h' : w.ownsRow B' e' z' v' n' xs') (he : e ≠ e') {k : Nat} (hk : v.ownBlock = some k) : v'.ownBlock ≠ some k := by
  intro hk'
  obtain ⟨c1, h1⟩ := own_ty h hk
  obtain ⟨c2, h2⟩ := own_ty h' hk'
  rw [h1] at h2
  simp only [Option.some.injEq, Obj.cells.injEq] at h2
  exact he h2.2.1
theorem own_ne_at {w : World} {B : Nat} {e e' : TypeId} {z : Nat} {v : Value} {n : Nat} {xs : List Value} {cs : Array Value} {fr : Nat × Nat} {g : Nat} (h : w.ownsRow B e z v n xs) (hg : w.heap[g]? = some (.cells cs e' fr)) (he : e ≠ e') : v.ownBlock ≠ some g := by
  intro hk
  obtain ⟨c1, h1⟩ := own_ty h hk
  rw [h1] at hg
  simp only [Option.some.injEq, Obj.cells.injEq] at hg
  exact he hg.2.1
theorem news_any {W W0 : World} {L : List Value} {t : TypeId} (hh : W.heap = (W0.alloc (.cells L.toArray t)).heap) : ∀ q u, L[q]? = some u → W.cell? ((⟨W0.heap.size, 0, none⟩ : Addr).add q) = some u := by
  intro q u hu
  rw [add_addr, Nat.zero_add]
  have : W.heap[W0.heap.size]? = some (.cells L.toArray t (0, 0)) := by rw [hh]; exact heap_alloc_new _ _
  rw [cell_of_row _ _ _ _ _ _ this, List.getElem?_toArray]
  exact hu
/-- Behind the first of the drawer's own writes. -/
structure Af (B : Nat) (w wc : World) (g n : Nat) (vl vl' vm : Value) (ls' : List Value) (ms : List (List UInt8)) (m : List UInt8) (wx : World) : Prop where
  os : wx.os = wc.os
  output : wx.output = wc.output
  size : wc.heap.size ≤ wx.heap.size
  at' : wx.heap[g]? = some (.cells #[vl', vm] 45 (0, 0))
  l : wx.ownsRow B 41 1 vl' (n + 4) ls'
  mm : wx.ownsRow B 24 32 vm n (flat ms)
  row : wx.heap[w.heap.size]? = some (.cells (brow m) 24 (0, 0))
  oth : ∀ k, k < wc.heap.size → k ≠ g → some k ≠ vl.ownBlock → wx.heap[k]? = wc.heap[k]?
theorem af_of {B T : Nat} {w wc wb wd : World} {g n : Nat} {vl vl' vm : Value} {ls ls' : List Value} {ms : List (List UInt8)} {m : List UInt8} {v : Value} {O : Obj} (hD : Dr B T wc g n vl vm ls ms) (hM : Mid w v m wc) (hgw : g < w.heap.size) (hb : wb.heap = (wc.alloc O).heap) (hbo : wb.os = wc.os) (hbu : wb.output = wc.output) (hl : wd.ownsRow B 41 1 vl' (n + 4) ls') (hg : wb.grownBy wd vl.ownBlock) (hlg : vl'.ownBlock ≠ some g) :
    Af B w wc g n vl vl' vm ls' ms m (wd.setCell ⟨g, 0, none⟩ vl') := by
  have hsz : wc.heap.size < wb.heap.size := by rw [hb]; simp
  have hg0 : vl.ownBlock ≠ some g := own_ne_at hD.l hD.at' (by decide)
  have hbl : ∀ k, k < wc.heap.size → some k ≠ vl.ownBlock → wd.heap[k]? = wc.heap[k]? := fun k hk hv => (hg.block k (by omega) hv).trans (by rw [hb]; exact Below.heap_alloc _ _ _ hk)
  have hgc : g < wc.heap.size := Nat.lt_of_lt_of_le hD.gT hD.tw
  have hat : wd.heap[g]? = some (.cells #[vl, vm] 45 (0, 0)) := (hbl g hgc (fun e => hg0 e.symm)).trans hD.at'
  have hot : ∀ k, k ≠ g → (wd.setCell ⟨g, 0, none⟩ vl').heap[k]? = wd.heap[k]? := fun k hk => heap_setCell_other wd ⟨g, 0, none⟩ k _ hk
  refine ⟨hg.os.trans hbo, hg.output.trans hbu, ?_, ?_, ?_, ?_, ?_, ?_⟩
  · have := hg.size; simp; omega
  · rw [heap_setCell_same _ _ _ _ _ _ hat]; rfl
  · exact own_blocks hl fun k hk => hot k (fun e => hlg (by rw [hk, e]))
  · exact own_blocks hD.m fun k hk => (hot k (fun e => by have := own_ne_at hD.m hD.at' (by decide); exact this (by rw [hk, e]))).trans (hbl k (by have := hD.m.lt k hk; omega) (fun e => own_ne hD.l hD.m (by decide) e.symm hk))
  · rw [hot _ (by omega)]
    refine (hbl _ hM.size (fun e => ?_)).trans hM.row
    exact own_ne_at hD.l hM.row (by decide) e.symm
  · exact fun k hk hkg hkv => (hot k hkg).trans (hbl k hk hkv)
theorem end0 {P : Program} {fn : Func} {R : Ending → World → Prop} {a : Act} {w : World} (hr : fn.results = #[]) (hd : a.defers = []) (hR : R (.returned (.tuple #[])) w) : bodyPost P fn R .normal a w := bodyPost_end (results_none hr _ _ _) hd hR
theorem ite_wanted {c : Bool} {p q : Prop} (h : c = true) (hp : p) : if c = true then p else q := by rw [if_pos h]; exact hp
/-- One cell of type 41, loaded and stored. -/
theorem wp_load_cell41 {w : World} {o : Oper} {a : Act} {K : Act → World → Prop} {Q : Exit → Act → World → Prop} (x : Operand) (ho : o.op = .load 41 x) (p : Addr) (hx : a.eval x = .pointer (some p)) (v : Value) (hc : w.cell? p = some v) (h : K (a.put o.dst v) w) : o.wp Tryd.prog a w K Q := by
  have hu := Tryd.underlying41
  unfold Oper.wp execOp
  simp only [ho, hx]
  go_simp
  exact h
theorem wp_store_cell41 {w : World} {o : Oper} {a : Act} {K : Act → World → Prop} {Q : Exit → Act → World → Prop} (x y : Operand) (ho : o.op = .store 41 x y) (p : Addr) (hx : a.eval x = .pointer (some p)) (ao : Option Addr) (l c : Nat) (hy : a.eval y = .slice ao l c) (u : Value) (hc : w.cell? p = some u) (hf : w.frozen? p = false) (h : K (a.put o.dst undef) (w.setCell p (.slice ao l c))) : o.wp Tryd.prog a w K Q := by
  have hu := Tryd.underlying41
  unfold Oper.wp execOp
  simp only [ho, hx, hy]
  go_simp
  exact h
theorem range_set {w : World} {M g : Nat} {cs : List Value} (h : w.rangeAt M 0 cs) (hne : M ≠ g) (o : Nat) (v : Value) : (w.setCell ⟨g, o, none⟩ v).rangeAt M 0 cs := fun j u hu => by
  rw [World.cell?_of_block (w := w) (heap_setCell_other w ⟨g, o, none⟩ M v hne)]
  exact h j u hu
theorem dr_end {B T : Nat} {w wc we wf : World} {g n len : Nat} {vl vl' vm vm' v va vb vc : Value} {ls : List Value} {ms : List (List UInt8)} {m : List UInt8} (hD : Dr B T wc g n vl vm ls ms) (hM : Mid w v m wc) (hA : Af B w wc g n vl vl' vm (ls ++ [v, va, vb, vc]) ms m we)
    (hom : wf.ownsRow B 24 32 vm' (n + 4) (flat ms ++ reps m 4)) (hgm : we.grownBy wf vm.ownBlock) (hfm : vm'.ownBlock = vm.ownBlock ∨ we.heap.size ≤ vm'.ownBlock.getD 0) (hm : m.length = 32) (hlen : len ≤ 47)
    (hr : wc.ownsRow T 24 32 v len (reps m len) ∧ wc.ownsRow T 24 32 va (len + 1) (reps m (len + 1)) ∧ wc.ownsRow T 24 32 vb (len + 2) (reps m (len + 2)) ∧ wc.ownsRow T 24 32 vc (len + 3) (reps m (len + 3))) :
    Dr B (wf.setCell ⟨g, 1, none⟩ vm').heap.size (wf.setCell ⟨g, 1, none⟩ vm') g (n + 4) vl' vm' (ls ++ [v, va, vb, vc]) (ms ++ List.replicate 4 m) ∧ Keeps B T v w (wf.setCell ⟨g, 1, none⟩ vm') := by
  have hBT : B ≤ T := Nat.le_of_lt (Nat.lt_of_le_of_lt hD.gB hD.gT)
  have hgc : g < wc.heap.size := Nat.lt_of_lt_of_le hD.gT hD.tw
  have hse := hA.size
  have hsf := hgm.size
  have hgm0 : vm.ownBlock ≠ some g := own_ne_at hD.m hD.at' (by decide)
  have hgf : wf.heap[g]? = some (.cells #[vl', vm] 45 (0, 0)) := (hgm.block g (by omega) (fun e => hgm0 e.symm)).trans hA.at'
  have hot : ∀ k, k ≠ g → (wf.setCell ⟨g, 1, none⟩ vm').heap[k]? = wf.heap[k]? := fun k hk => heap_setCell_other wf ⟨g, 1, none⟩ k _ hk
  have hbl : ∀ b, b < wc.heap.size → b ≠ g → some b ≠ vl.ownBlock → some b ≠ vm.ownBlock → (wf.setCell ⟨g, 1, none⟩ vm').heap[b]? = wc.heap[b]? := fun b hb h1 h2 h3 =>
    (hot b h1).trans ((hgm.block b (by omega) h3).trans (hA.oth b hb h1 h2))
  have hsz : (wf.setCell ⟨g, 1, none⟩ vm').heap.size = wf.heap.size := by simp
  have hg1 : vm'.ownBlock ≠ some g := own_ne_at hom hgf (by decide)
  have hl' : (wf.setCell ⟨g, 1, none⟩ vm').ownsRow B 41 1 vl' (n + 4) (ls ++ [v, va, vb, vc]) := own_blocks hA.l fun k hk =>
    (hot k (fun e => own_ne_at hA.l hA.at' (by decide) (by rw [hk, e]))).trans (hgm.block k (by have := hA.l.lt k hk; omega) (fun e => own_ne hA.l hA.mm (by decide) hk e.symm))
  have hm' : (wf.setCell ⟨g, 1, none⟩ vm').ownsRow B 24 32 vm' (n + 4) (flat (ms ++ List.replicate 4 m)) := by
    rw [flat_app]
    exact own_blocks hom fun k hk => hot k (fun e => hg1 (by rw [hk, e]))
  have hlsl : ls.length = n := by have := hD.l.1; omega
  have tr : ∀ (x : Value) (q : Nat) (d : List UInt8), wc.ownsRow B 24 32 x q (reps d q) → (∀ b, x.ownBlock = some b → vm.ownBlock ≠ some b) →
      (wf.setCell ⟨g, 1, none⟩ vm').ownsRow B 24 32 x q (reps d q) ∧ (∀ b, x.ownBlock = some b → b < (wf.setCell ⟨g, 1, none⟩ vm').heap.size ∧ vm'.ownBlock ≠ some b) := by
    intro x q d hx hxm
    refine ⟨own_blocks hx fun k hk => hbl k (hx.lt k hk).2 (fun e => own_ne_at hx hD.at' (by decide) (by rw [hk, e])) (fun e => own_ne hD.l hx (by decide) e.symm hk) (fun e => hxm k hk e.symm), fun b hb => ⟨by rw [hsz]; have := (hx.lt b hb).2; omega, fun e => ?_⟩⟩
    rcases hfm with h | h
    · exact hxm b hb (by rw [← h, e])
    · rw [e] at h
      have := (hx.lt b hb).2
      simp at h
      omega
  have big : ∀ (x : Value) (q : Nat), wc.ownsRow T 24 32 x q (reps m q) → (∀ b, x.ownBlock = some b → vm.ownBlock ≠ some b) := fun x q hx b hb e => by
    have := (hx.lt b hb).1
    have := hD.mT b e
    omega
  refine ⟨⟨?_, hD.gB, by rw [hsz]; omega, Nat.le_refl _, hl', hm', by simp [hD.mn], ?_, fun k hk => (hl'.lt k hk).2, fun k hk => (hm'.lt k hk).2, ?_⟩, ?_⟩
  · rw [heap_setCell_same _ _ _ _ _ _ hgf]; rfl
  · intro d hd
    rcases List.mem_append.1 hd with h | h
    · exact hD.all d h
    · rw [List.eq_of_mem_replicate h]; exact hm
  · intro k hk
    by_cases hkn : k < n
    · obtain ⟨q, hq, h1, h2⟩ := hD.each k hkn
      have e1 : (ls ++ [v, va, vb, vc]).getD k undef = ls.getD k undef := by rw [List.getD_eq_getElem?_getD, List.getD_eq_getElem?_getD, List.getElem?_append_left (by omega)]
      have e2 : (ms ++ List.replicate 4 m).getD k [] = ms.getD k [] := by rw [List.getD_eq_getElem?_getD, List.getD_eq_getElem?_getD, List.getElem?_append_left (by rw [hD.mn]; omega)]
      rw [e1, e2]
      obtain ⟨h3, h4⟩ := tr _ q _ h1 (fun b hb => (h2 b hb).2)
      exact ⟨q, hq, h3, h4⟩
    · have e2 : (ms ++ List.replicate 4 m).getD k [] = m := by
        rw [List.getD_eq_getElem?_getD, List.getElem?_append_right (by rw [hD.mn]; omega), hD.mn, List.getElem?_replicate_of_lt (by omega)]; rfl
      have e1 : (ls ++ [v, va, vb, vc]).getD k undef = [v, va, vb, vc].getD (k - n) undef := by
        rw [List.getD_eq_getElem?_getD, List.getD_eq_getElem?_getD, List.getElem?_append_right (by omega), hlsl]
      rw [e1, e2]
      have h4 : k - n = 0 ∨ k - n = 1 ∨ k - n = 2 ∨ k - n = 3 := by omega
      rcases h4 with h | h | h | h <;> rw [h]
      · obtain ⟨h5, h6⟩ := tr _ len m (hr.1.mono hBT) (big _ _ hr.1)
        exact ⟨len, by omega, h5, h6⟩
      · obtain ⟨h5, h6⟩ := tr _ (len + 1) m (hr.2.1.mono hBT) (big _ _ hr.2.1)
        exact ⟨len + 1, by omega, h5, h6⟩
      · obtain ⟨h5, h6⟩ := tr _ (len + 2) m (hr.2.2.1.mono hBT) (big _ _ hr.2.2.1)
        exact ⟨len + 2, by omega, h5, h6⟩
      · obtain ⟨h5, h6⟩ := tr _ (len + 3) m (hr.2.2.2.mono hBT) (big _ _ hr.2.2.2)
        exact ⟨len + 3, by omega, h5, h6⟩
  · have hms := hM.size
    refine ⟨hgm.os.trans (hA.os.trans hM.os), hgm.output.trans (hA.output.trans hM.output), by rw [hsz]; omega, fun k hk hkB hkv => ?_⟩
    have hgT := hD.gT
    have hgB := hD.gB
    refine (hbl k (by omega) (by omega) (fun e => ?_) (fun e => ?_)).trans (hM.oth k hk hkv)
    · have := (hD.l.lt k e.symm).1; have := hD.lT k e.symm; omega
    · have := (hD.m.lt k e.symm).1; have := hD.mT k e.symm; omega
theorem info41 : (Tryd.prog.info? 41).map (fun i => (i.zero, i.size, i.bytes)) = some (some (.slice none 0 0), 1, 24) := by kernel_rfl
theorem wpList_halt2 {P : Program} {w : World} {ops : Array Oper} {rest : List Oper} {o : Oper} {act : Act} {Q : Exit → Act → World → Prop} (s x : Operand) (t : TypeId) (_ho : o.op = .call { callee := .builtin .append, args := #[s, x], argTypes := #[t, t] }) (h : Stp (wpList P ops Q (o :: rest) act w)) : wpList P ops Q (o :: rest) act w := h.out

/-- Here the walk stands still. -/
theorem wpList_halt {P : Program} {w : World} {ops : Array Oper} {rest : List Oper} {o : Oper} {act : Act} {Q : Exit → Act → World → Prop} (x : Operand) (_ho : o.op = .load 24 x) (h : Stp (wpList P ops Q (o :: rest) act w)) : wpList P ops Q (o :: rest) act w := h.out

set_option maxRecDepth 100000 in
set_option maxHeartbeats 2000000 in
theorem keep_go (B T g n : Nat) (vl vm : Value) (ls : List Value) (ms : List (List UInt8)) (v : Value) (len : Nat) (p : List (List UInt8)) (w : World) (hD : Dr B T w g n vl vm ls ms) (hn : n ≤ 4100) (hlen : len ≤ 47)
    (hp : w.ownsRow T 24 32 v len (flat p)) (hpl : p.length = len) (hpd : ∀ d ∈ p, d.length = 32) :
    Calls Tryd.prog 23 #[.pointer (some ⟨g, 0, none⟩), v] w fun e w' => e = .returned (.tuple #[]) ∧ (∃ vl' vm' ls' ms', Dr B w'.heap.size w' g (n + 4) vl' vm' ls' ms') ∧ Keeps B T v w w' := by
  have hBT : B ≤ T := Nat.le_of_lt (Nat.lt_of_le_of_lt hD.gB hD.gT)
  obtain ⟨al, cl, hvl, hcl, _⟩ := own_len hD.l
  have hc0 : w.cell? ⟨g, 0, none⟩ = some (.slice al n cl) := by rw [cell_of_row _ _ _ _ _ _ hD.at', ← hvl]; rfl
  obtain ⟨av, cv, hv, hcv, hav⟩ := own_len hp
  obtain ⟨x, hx⟩ : ∃ x : UInt8, ((n : Int) / 4 + 1) % 256 = (x.toNat : Int) := ⟨UInt8.ofNat ((n / 4 + 1) % 256), by simp⟩
  obtain ⟨y, hy⟩ : ∃ y : UInt8, ((n : Int) / 4 + 1) / 256 = (y.toNat : Int) := ⟨UInt8.ofNat ((n / 4 + 1) / 256), by simp; omega⟩
  obtain ⟨z, hz⟩ : ∃ z : UInt8, ((n : Int) / 4 + 1) / 65536 = (z.toNat : Int) := ⟨UInt8.ofNat ((n / 4 + 1) / 65536), by simp; omega⟩
  obtain ⟨m, hmd⟩ : ∃ m, m = markOf x y z := ⟨_, rfl⟩
  have hm : m.length = 32 := by rw [hmd]; rfl
  have hm0 : (markOf x y z).length = 32 := rfl
  have HMD := hide hmd
  have HD := hide hD
  have HP := hide hp
  have Hvl := hide hvl
  have hvb : ∀ k, v.ownBlock = some k → T ≤ k ∧ k < w.heap.size := fun k hk => hp.lt k hk
  have HV := hide hvb
  clear hD hp hvl hmd hvb
  subst hv
  go_enter Tryd.func23, Tryd.ntmps23
  go_wp2_with (refine wpList_store_put rfl 24 _ _ rfl w.heap.size (brow (markOf x y z)) rfl rfl 24 _ (heap_alloc_new _ _) (rinfo hm0) (rzero hm0) (brow_one _) ?_; intro w1 hp1)
  rw [← unhide HMD] at hp1
  have HM1 := hide (show Mid w (.slice av len cv) m w1 from ⟨hp1.os, hp1.output, by rw [hp1.size]; simp, hp1.row, fun k hk _ => (hp1.other k (by omega)).trans (Below.heap_alloc _ _ _ hk)⟩)
  have HP1 := hide (show w1.ownsRow T 24 32 (.slice av len cv) len (flat p) from own_blocks (unhide HP) fun k hk => (hp1.other k (by have := (unhide HV k hk).2; omega)).trans (Below.heap_alloc _ _ _ (unhide HV k hk).2))
  clear hp1
  go_loopw [6] (fun vi wr => ∃ i : Nat, i ≤ len ∧ vi = .int .i64 i ∧ wr.ownsRow T 24 32 (.slice av len cv) len (flat (List.replicate i m ++ p.drop i)) ∧ Mid w (.slice av len cv) m wr) (fun vi _ => len - (intOf vi).toNat)
  case atStart => exact ⟨0, Nat.zero_le _, rfl, by simpa using unhide HP1, unhide HM1⟩
  case round =>
    obtain ⟨i, hi, rfl, ho, hmid⟩ := hrel
    clear HP1 HM1
    by_cases hlt : i < len
    · obtain ⟨gv, rfl⟩ := hav (by omega)
      have hst := own_store ho (by intro x hx; rcases List.mem_append.1 hx with h | h; · rw [List.eq_of_mem_replicate h]; exact hm
                                   · exact hpd x (List.mem_of_mem_drop h)) (by simp; omega) hlt hm
      rw [mark_set (by omega)] at hst
      have HST := hide hst.2
      have HTH := hide hst.1
      have HMI := hide hmid
      have hltI : (i : Int) < (len : Int) := by omega
      clear hst hmid ho
      go_wp2_with (first
        | (refine wpList_load_row rfl 24 (.tmp 5) rfl w.heap.size ?_ 24 (brow m) (0, 0) _ ?_ Tryd.underlying24 rfl (rinfo hm) ?_; · rfl
           · exact (unhide HMI).row)
        | (refine wpList_store_mid rfl 24 (.tmp 35) (.tmp 34) rfl gv (i * 32) (brow m) ?_ ?_ ?_ (rinfo hm) (brow_one _) ?_; · rfl
           · rfl
           · exact unhide HTH))
      go_roundw
      case rel => exact ⟨i + 1, by omega, by go_num, (unhide HST).1, (unhide HMI).other (unhide HST).2 (unhide HV gv rfl).2⟩
      case measure => simp [intOf]; omega
    · have hie : i = len := by omega
      have ho' : wr.ownsRow T 24 32 (.slice av len cv) len (reps m len) := by
        have := ho
        rw [hie, List.drop_of_length_le (by omega), List.append_nil] at this
        exact this
      have HO := hide ho'
      have HMI := hide hmid
      have HTW := hide (unhide HD).tw
      obtain ⟨i0, hi0, hz0, hz1, hz2⟩ := info_parts info24'
      obtain ⟨R1, hR1⟩ : ∃ R, R = (reps m 1).toArray := ⟨_, rfl⟩
      obtain ⟨R2, hR2⟩ : ∃ R, R = (reps m 2).toArray := ⟨_, rfl⟩
      obtain ⟨R3, hR3⟩ : ∃ R, R = (reps m 3).toArray := ⟨_, rfl⟩
      have HR1 := hide hR1
      have HR2 := hide hR2
      have HR3 := hide hR3
      clear ho ho' hmid hc0 hR1 hR2 hR3 hx hy hz hm0
      go_wp2_with (refine wpList_halt (.tmp 5) rfl ?_)
      refine Stp.mk ?_
      refine wpList_load_build ?_ (.tmp 5) ?_ ?_ 1 #[(0, .tmp 37)] ?_ w.heap.size ?_ hm ?_ (by decide) (by decide) ?_ R1 ?_ ?_
      · rfl
      · rfl
      · rfl
      · rfl
      · rfl
      · exact (unhide HMI).row
      · simp [List.range', Act.eval, Act.put]
      · exact unhide HR1
      simp only [Act.put, List.setIfInBounds_toArray, List.set_cons_zero, List.set_cons_succ]
      refine wpList_append_mark ?_ (.tmp 36) (.tmp 38) 41 ?_ T 24 i0 (.agg (brow (List.replicate 32 0))) 32 Tryd.underlying41 hi0 hz0 hz1 hz2 ?_ m hm (.slice av len cv) len ?_ ?_ ⟨wr.heap.size, 0, none⟩ 1 1 ?_ ?_ (by decide) ?_ ?_ ?_ ?_
      · rfl
      · rfl
      · rfl
      · rfl
      · exact (unhide HO).alloc _
      · rfl
      · exact news_reps (unhide HR1) rfl
      · unfold maxLen; omega
      · omega
      · have := (unhide HMI).size; have := unhide HTW; simp; omega
      intro va wa hoa hga hka
      obtain ⟨ga, ca, hva⟩ := own_slice hoa (by omega)
      subst hva
      have HOa := hide (And.intro (hka _ _ ((unhide HO).alloc _)) hoa)
      have HMa := hide (((unhide HMI).alloc _).grown hga (fun k hk => (unhide HV k hk).2))
      clear hoa hga hka
      simp only [Act.put, List.setIfInBounds_toArray, List.set_cons_zero, List.set_cons_succ]
      go_wp2_with (refine wpList_halt (.tmp 5) rfl ?_)
      refine Stp.mk ?_
      refine wpList_load_row ?_ 24 (.tmp 5) ?_ w.heap.size ?_ 24 (brow m) (0, 0) _ ?_ Tryd.underlying24 rfl (rinfo hm) ?_
      · rfl
      · rfl
      · rfl
      · exact (unhide HMa).row
      simp only [Act.put, List.setIfInBounds_toArray, List.set_cons_zero, List.set_cons_succ]
      refine wpList_load_build ?_ (.tmp 5) ?_ ?_ 2 #[(0, .tmp 41), (1, .tmp 42)] ?_ w.heap.size ?_ hm ?_ (by decide) (by decide) ?_ R2 ?_ ?_
      · rfl
      · rfl
      · rfl
      · rfl
      · rfl
      · exact (unhide HMa).row
      · simp [List.range', Act.eval, Act.put]
      · exact unhide HR2
      simp only [Act.put, List.setIfInBounds_toArray, List.set_cons_zero, List.set_cons_succ]
      refine wpList_append_mark ?_ (.tmp 40) (.tmp 43) 41 ?_ T 24 i0 (.agg (brow (List.replicate 32 0))) 32 Tryd.underlying41 hi0 hz0 hz1 hz2 ?_ m hm (.slice av len cv) len ?_ ?_ ⟨wa.heap.size, 0, none⟩ 2 2 ?_ ?_ (by decide) ?_ ?_ ?_ ?_
      · rfl
      · rfl
      · rfl
      · rfl
      · exact (unhide HOa).1.alloc _
      · rfl
      · exact news_reps (unhide HR2) rfl
      · unfold maxLen; omega
      · omega
      · have := (unhide HMa).size; have := unhide HTW; simp; omega
      intro vb wb hob hgb hkb
      obtain ⟨gb, cb, hvb⟩ := own_slice hob (by omega)
      subst hvb
      have HOb := hide (And.intro (hkb _ _ ((unhide HOa).1.alloc _)) (And.intro (hkb _ _ ((unhide HOa).2.alloc _)) hob))
      have HMb := hide (((unhide HMa).alloc _).grown hgb (fun k hk => (unhide HV k hk).2))
      clear hob hgb hkb
      simp only [Act.put, List.setIfInBounds_toArray, List.set_cons_zero, List.set_cons_succ]
      go_wp2_with (refine wpList_halt (.tmp 5) rfl ?_)
      refine Stp.mk ?_
      refine wpList_load_row ?_ 24 (.tmp 5) ?_ w.heap.size ?_ 24 (brow m) (0, 0) _ ?_ Tryd.underlying24 rfl (rinfo hm) ?_
      · rfl
      · rfl
      · rfl
      · exact (unhide HMb).row
      simp only [Act.put, List.setIfInBounds_toArray, List.set_cons_zero, List.set_cons_succ]
      refine wpList_load_row ?_ 24 (.tmp 5) ?_ w.heap.size ?_ 24 (brow m) (0, 0) _ ?_ Tryd.underlying24 rfl (rinfo hm) ?_
      · rfl
      · rfl
      · rfl
      · exact (unhide HMb).row
      simp only [Act.put, List.setIfInBounds_toArray, List.set_cons_zero, List.set_cons_succ]
      refine wpList_load_build ?_ (.tmp 5) ?_ ?_ 3 #[(0, .tmp 46), (1, .tmp 47), (2, .tmp 48)] ?_ w.heap.size ?_ hm ?_ (by decide) (by decide) ?_ R3 ?_ ?_
      · rfl
      · rfl
      · rfl
      · rfl
      · rfl
      · exact (unhide HMb).row
      · simp [List.range', Act.eval, Act.put]
      · exact unhide HR3
      simp only [Act.put, List.setIfInBounds_toArray, List.set_cons_zero, List.set_cons_succ]
      refine wpList_append_mark ?_ (.tmp 45) (.tmp 49) 41 ?_ T 24 i0 (.agg (brow (List.replicate 32 0))) 32 Tryd.underlying41 hi0 hz0 hz1 hz2 ?_ m hm (.slice av len cv) len ?_ ?_ ⟨wb.heap.size, 0, none⟩ 3 3 ?_ ?_ (by decide) ?_ ?_ ?_ ?_
      · rfl
      · rfl
      · rfl
      · rfl
      · exact (unhide HOb).1.alloc _
      · rfl
      · exact news_reps (unhide HR3) rfl
      · unfold maxLen; omega
      · omega
      · have := (unhide HMb).size; have := unhide HTW; simp; omega
      intro vc wc hoc hgc hkc
      obtain ⟨gc, cc, hvc⟩ := own_slice hoc (by omega)
      subst hvc
      have HOc := hide (And.intro (hkc _ _ ((unhide HOb).1.alloc _)) (And.intro (hkc _ _ ((unhide HOb).2.1.alloc _)) (And.intro (hkc _ _ ((unhide HOb).2.2.alloc _)) hoc)))
      have HMc := hide (((unhide HMb).alloc _).grown hgc (fun k hk => (unhide HV k hk).2))
      clear hoc hgc hkc
      simp only [Act.put, List.setIfInBounds_toArray, List.set_cons_zero, List.set_cons_succ]
      have hDc : Dr B T wc g n vl vm ls ms := (unhide HD).kept (Nat.le_of_lt (unhide HMc).size) (fun k hk => (unhide HMc).oth k (Nat.lt_of_lt_of_le hk (unhide HTW)) (fun e => by have := (unhide HV k e.symm).1; omega))
      have hcg : wc.cell? ⟨g, 0, none⟩ = some (.slice al n cl) := by rw [cell_of_row _ _ _ _ _ _ hDc.at', ← unhide Hvl]; rfl
      have HDc := hide hDc
      clear hDc
      obtain ⟨j0, hj0, hy0, hy1, hy2⟩ := info_parts info41
      go_wp2_with (refine wpList_halt2 (.tmp 55) (.tmp 60) 43 rfl ?_)
      refine Stp.mk ?_
      refine wpList_plain rfl fun K hK => ?_
      refine wp_append_fresh (.tmp 55) (.tmp 60) 43 rfl B 41 j0 (.slice none 0 0) 1 24 Tryd.underlying43 hj0 hy0 hy1 hy2 rfl (by decide) (.slice al n cl) n ls ?_ ?_ ⟨wc.heap.size, 0, none⟩ 4 4 [.slice av len cv, .slice (some ⟨ga, 0, none⟩) (len + 1) ca, .slice (some ⟨gb, 0, none⟩) (len + 2) cb, .slice (some ⟨gc, 0, none⟩) (len + 3) cc] ?_ ?_ ?_ ?_ (by decide) ?_ ?_ ?_ ?_
      · rfl
      · have := (unhide HDc).l
        rw [unhide Hvl] at this
        exact this.alloc _
      · rfl
      · rfl
      · exact news_any rfl
      · simp [Value.oneCell']
      · unfold maxLen; omega
      · omega
      · have := (unhide HMc).size; have := unhide HTW; simp; omega
      intro vl' wd hol hgl _
      refine hK _ _ ?_
      simp only [Act.put, List.setIfInBounds_toArray, List.set_cons_zero, List.set_cons_succ]
      obtain ⟨gl, cl', hvl'⟩ := own_slice hol (by omega)
      have hgc : g < wc.heap.size := Nat.lt_of_lt_of_le (unhide HDc).gT (unhide HDc).tw
      have hgd : wd.heap[g]? = some (.cells #[vl, vm] 45 (0, 0)) := by
        have hv0 := unhide Hvl
        refine (hgl.block g (by simp; omega) (fun e => own_ne_at (unhide HDc).l (unhide HDc).at' (by decide) (by rw [hv0]; exact e.symm))).trans ?_
        exact (Below.heap_alloc _ _ _ hgc).trans (unhide HDc).at'
      have hc0 : wd.cell? ⟨g, 0, none⟩ = some vl := cell_of_row _ _ _ _ _ _ hgd
      have hf0 := frozen_of_row _ _ 0 _ _ hgd
      have hlg : vl'.ownBlock ≠ some g := own_ne_at hol hgd (by decide)
      have HAf := hide (af_of (vl' := vl') (v := .slice av len cv) (unhide HDc) (unhide HMc) (Nat.lt_of_lt_of_le (unhide HD).gT (unhide HTW)) rfl rfl rfl hol (by rw [unhide Hvl]; exact hgl) hlg)
      clear hgd hgl hol hlg hcg
      subst hvl'
      go_wp2_with fail
      refine gen_world (P := fun x => Af B w wc g n vl (.slice (some ⟨gl, 0, none⟩) (n + 4) cl') vm (ls ++ [.slice av len cv, .slice (some ⟨ga, 0, none⟩) (len + 1) ca, .slice (some ⟨gb, 0, none⟩) (len + 2) cb, .slice (some ⟨gc, 0, none⟩) (len + 3) cc]) ms m x) (Q := fun x => Code.wp _ _ _ _ x) (unhide HAf) ?_
      intro we hwe
      clear hc0 hf0 HAf
      have HAe := hide hwe
      obtain ⟨am, cm, hvm, _, _⟩ := own_len hwe.mm
      have hce : we.cell? ⟨g, 1, none⟩ = some (.slice am n cm) := by rw [cell_of_row _ _ _ _ _ _ hwe.at', ← hvm]; rfl
      have hre : we.rangeAt w.heap.size 0 (blist m) := fun j u hu => by
        rw [Nat.zero_add, cell_of_row _ _ _ _ _ _ hwe.row]; simpa [brow] using hu
      have hi24 : (Tryd.prog.info? 24).map (·.size) = some (blist m).length := by have := rinfo hm; rwa [brow_size, ← List.length_map (f := fun c : UInt8 => Value.int .u8 (c.toNat : Int))] at this
      clear hwe
      refine wp_region_held_drew (S := fun w' => w'.rangeAt w.heap.size 0 (blist m)) (by kernel_rfl) (by simpa using hre) (fun hHeld => ?_)
      refine wpAnyH_take (i := 0) (oi := { dst := some 64, op := Op.move (Operand.tmp 0), type := 42, pos := "hands.go:73", after := #[], guard := none }) (v := .pointer (some ⟨g, 0, none⟩)) rfl (by kernel_rfl) (by kernel_rfl) (by kernel_rfl) (fun _ _ _ h => h) (Or.inl ⟨by kernel_rfl, fun W hW => by kernel_rfl⟩) hHeld ?_
      simp only [Act.put, List.setIfInBounds_toArray, List.set_cons_zero, List.set_cons_succ]
      refine wpAnyH_take (i := 1) (oi := { dst := some 65, op := Op.move (Operand.tmp 0), type := 42, pos := "hands.go:73", after := #[], guard := none }) (v := .pointer (some ⟨g, 0, none⟩)) rfl (by kernel_rfl) (by kernel_rfl) (by kernel_rfl) (fun _ _ _ h => h) (Or.inl ⟨by kernel_rfl, fun W hW => by kernel_rfl⟩) hHeld ?_
      simp only [Act.put, List.setIfInBounds_toArray, List.set_cons_zero, List.set_cons_succ]
      refine wpAnyH_take (i := 2) (oi := { dst := some 66, op := Op.nilCheck (Operand.tmp 65), type := 0, pos := "hands.go:73", after := #[{ on := 1, ground := Ground.data }], guard := none }) (v := .pointer (some ⟨g, 0, none⟩)) rfl (by kernel_rfl) (by kernel_rfl) (by kernel_rfl) (fun _ _ _ h => h) (Or.inl ⟨by kernel_rfl, fun W hW => by kernel_rfl⟩) hHeld ?_
      simp only [Act.put, List.setIfInBounds_toArray, List.set_cons_zero, List.set_cons_succ]
      refine wpAnyH_take (i := 3) (oi := { dst := some 67, op := Op.fieldAddr 45 (Operand.tmp 66) 1, type := 0, pos := "hands.go:73", after := #[{ on := 2, ground := Ground.data }], guard := none }) (v := .pointer (some ⟨g, 1, none⟩)) rfl (by kernel_rfl) (by kernel_rfl) (by kernel_rfl) (fun _ _ _ h => h) (Or.inl ⟨by kernel_rfl, fun W hW => by kernel_rfl⟩) hHeld ?_
      simp only [Act.put, List.setIfInBounds_toArray, List.set_cons_zero, List.set_cons_succ]
      refine wpAnyH_take (i := 5) (oi := { dst := some 69, op := Op.load 24 (Operand.tmp 5), type := 24, pos := "hands.go:73", after := #[], guard := none }) (v := .agg (blist m).toArray) rfl (by kernel_rfl) (by kernel_rfl) (by kernel_rfl) (fun _ _ _ h => h) (yieldsIf_load_mid ?_ 24 (.tmp 5) ?_ w.heap.size 0 ?_ (blist m) _ (fun W hW => hW) Tryd.underlying24 rfl hi24) hHeld ?_
      · kernel_rfl
      · kernel_rfl
      · kernel_rfl
      simp only [Act.put, List.setIfInBounds_toArray, List.set_cons_zero, List.set_cons_succ]
      refine wpAnyH_take (i := 6) (oi := { dst := some 70, op := Op.load 24 (Operand.tmp 5), type := 24, pos := "hands.go:73", after := #[], guard := none }) (v := .agg (blist m).toArray) rfl (by kernel_rfl) (by kernel_rfl) (by kernel_rfl) (fun _ _ _ h => h) (yieldsIf_load_mid ?_ 24 (.tmp 5) ?_ w.heap.size 0 ?_ (blist m) _ (fun W hW => hW) Tryd.underlying24 rfl hi24) hHeld ?_
      · kernel_rfl
      · kernel_rfl
      · kernel_rfl
      simp only [Act.put, List.setIfInBounds_toArray, List.set_cons_zero, List.set_cons_succ]
      refine wpAnyH_take (i := 7) (oi := { dst := some 71, op := Op.load 24 (Operand.tmp 5), type := 24, pos := "hands.go:73", after := #[], guard := none }) (v := .agg (blist m).toArray) rfl (by kernel_rfl) (by kernel_rfl) (by kernel_rfl) (fun _ _ _ h => h) (yieldsIf_load_mid ?_ 24 (.tmp 5) ?_ w.heap.size 0 ?_ (blist m) _ (fun W hW => hW) Tryd.underlying24 rfl hi24) hHeld ?_
      · kernel_rfl
      · kernel_rfl
      · kernel_rfl
      simp only [Act.put, List.setIfInBounds_toArray, List.set_cons_zero, List.set_cons_succ]
      refine wpAnyH_take (i := 8) (oi := { dst := some 72, op := Op.load 24 (Operand.tmp 5), type := 24, pos := "hands.go:73", after := #[], guard := none }) (v := .agg (blist m).toArray) rfl (by kernel_rfl) (by kernel_rfl) (by kernel_rfl) (fun _ _ _ h => h) (yieldsIf_load_mid ?_ 24 (.tmp 5) ?_ w.heap.size 0 ?_ (blist m) _ (fun W hW => hW) Tryd.underlying24 rfl hi24) hHeld ?_
      · kernel_rfl
      · kernel_rfl
      · kernel_rfl
      simp only [Act.put, List.setIfInBounds_toArray, List.set_cons_zero, List.set_cons_succ]
      have hbr : (blist m).toArray = brow m := rfl
      have Hvm := hide hvm
      clear hvm
      obtain ⟨R4, hR4⟩ : ∃ R, R = (reps m 4).toArray := ⟨_, rfl⟩
      have HR4 := hide hR4
      clear hR4
      refine wpAnyH_ready (rs := [4, 9]) (by kernel_rfl) (by simp) ?_
      refine AllReadyH.cons (o := { dst := some 68, op := Op.load 41 (Operand.tmp 67), type := 41, pos := "hands.go:73", after := #[{ on := 3, ground := Ground.data }], guard := none }) rfl (fun K hK => ?_) (AllReadyH.cons (o := { dst := some 73, op := Op.buildSlice 41 4 #[(0, Operand.tmp 69), (1, Operand.tmp 70), (2, Operand.tmp 71), (3, Operand.tmp 72)], type := 41, pos := "hands.go:73", after := #[{ on := 5, ground := Ground.data }, { on := 6, ground := Ground.data }, { on := 7, ground := Ground.data }, { on := 8, ground := Ground.data }], guard := none }) rfl (fun K hK => ?_) AllReadyH.nil)
      · refine ite_wanted ?_ ?_; · kernel_rfl
        refine wp_load_cell41 (.tmp 67) ?_ ⟨g, 1, none⟩ ?_ (.slice am n cm) ?_ ?_
        · rfl
        · kernel_rfl
        · exact hce
        simp only [Act.put, List.setIfInBounds_toArray, List.set_cons_zero, List.set_cons_succ]
        refine hK.out _ _ hHeld (fun hHeld => ?_)
        clear hK K
        refine wpAnyH_ready (rs := [9]) (by kernel_rfl) (by simp) ?_
        refine AllReadyH.cons (o := { dst := some 73, op := Op.buildSlice 41 4 #[(0, Operand.tmp 69), (1, Operand.tmp 70), (2, Operand.tmp 71), (3, Operand.tmp 72)], type := 41, pos := "hands.go:73", after := #[{ on := 5, ground := Ground.data }, { on := 6, ground := Ground.data }, { on := 7, ground := Ground.data }, { on := 8, ground := Ground.data }], guard := none }) rfl (fun K hK => ?_) AllReadyH.nil
        refine ite_wanted ?_ ?_; · kernel_rfl
        refine wp_build_reps 4 #[(0, .tmp 69), (1, .tmp 70), (2, .tmp 71), (3, .tmp 72)] ?_ hm (by decide) (by decide) ?_ R4 (unhide HR4) ?_
        · rfl
        · simp [List.range', Act.eval]; exact hbr
        simp only [Act.put, List.setIfInBounds_toArray, List.set_cons_zero, List.set_cons_succ]
        refine hK.out _ _ (World.rangeAt_alloc hHeld _) (fun hHeld => ?_)
        clear hK K
        refine wpAnyH_ready (rs := [10]) (by kernel_rfl) (by simp) ?_
        refine AllReadyH.cons (o := { dst := some 74, op := Op.call { callee := Callee.builtin Builtin.append, args := #[Operand.tmp 68, Operand.tmp 73], argTypes := #[41, 41] }, type := 41, pos := "hands.go:73", after := #[{ on := 4, ground := Ground.data }, { on := 9, ground := Ground.data }], guard := none }) rfl (fun K hK => ?_) AllReadyH.nil
        refine ite_wanted ?_ ?_; · kernel_rfl
        refine wp_append_fresh (.tmp 68) (.tmp 73) 41 ?_ B 24 i0 (.agg (brow (List.replicate 32 0))) 32 32 Tryd.underlying41 hi0 hz0 hz1 hz2 ?_ (by decide) (.slice am n cm) n (flat ms) ?_ ?_ ⟨we.heap.size, 0, none⟩ 4 4 (reps m 4) ?_ ?_ ?_ ?_ (by decide) ?_ ?_ ?_ ?_
        · rfl
        · rfl
        · kernel_rfl
        · have := (unhide HAe).mm
          rw [unhide Hvm] at this
          exact this.alloc _
        · kernel_rfl
        · exact reps_length hm 4
        · exact news_reps (W0 := we) (unhide HR4) rfl
        · exact reps_one m 4
        · unfold maxLen; omega
        · omega
        · have := (unhide HAe).size; have := (unhide HMc).size; have := unhide HTW; simp; omega
        intro vm' wf hom hgm hfm
        obtain ⟨gm, cm', hvm'⟩ := own_slice hom (by omega)
        subst hvm'
        simp only [Act.put, List.setIfInBounds_toArray, List.set_cons_zero, List.set_cons_succ]
        have hgm' : we.grownBy wf vm.ownBlock := by
          rw [unhide Hvm]
          exact ⟨hgm.os, hgm.tape, hgm.output, Nat.le_trans (by simp) hgm.size, fun k hk hne => (hgm.block k (by simp; omega) hne).trans (Below.heap_alloc _ _ _ hk)⟩
        have hfm' : (Value.slice (some ⟨gm, 0, none⟩) (n + 4) cm').ownBlock = vm.ownBlock ∨ we.heap.size ≤ (Value.slice (some ⟨gm, 0, none⟩) (n + 4) cm').ownBlock.getD 0 := by
          rw [unhide Hvm]
          rcases hfm with h | h
          · exact Or.inl h
          · rw [h]; right; simp
        have hge : g < we.heap.size := Nat.lt_of_lt_of_le hgc (unhide HAe).size
        have hMe : w.heap.size < we.heap.size := Nat.lt_of_lt_of_le (unhide HMc).size (unhide HAe).size
        have hMm : vm.ownBlock ≠ some w.heap.size := fun e => by
          have := (unhide HD).mT _ e
          have := unhide HTW
          omega
        have hgf : wf.heap[g]? = some (.cells #[.slice (some ⟨gl, 0, none⟩) (n + 4) cl', vm] 45 (0, 0)) := (hgm'.block g hge (fun e => own_ne_at (unhide HAe).mm (unhide HAe).at' (by decide) e.symm)).trans (unhide HAe).at'
        have hcf : wf.cell? ⟨g, 1, none⟩ = some vm := cell_of_row _ _ _ _ _ _ hgf
        have hff := frozen_of_row _ _ 1 _ _ hgf
        refine hK.out _ _ ?_ (fun hHeld => ?_)
        · intro j u hu
          rw [World.cell?_of_block (w := we) (hgm'.block w.heap.size hMe (fun e => hMm e.symm))]
          exact hre j u hu
        clear hK K
        refine wpAnyH_take (i := 11) (oi := { dst := some 75, op := Op.nilCheck (Operand.tmp 64), type := 0, pos := "hands.go:73", after := #[{ on := 0, ground := Ground.data }, { on := 0, ground := Ground.phase }, { on := 1, ground := Ground.phase }, { on := 2, ground := Ground.phase }, { on := 3, ground := Ground.phase }, { on := 4, ground := Ground.phase }, { on := 5, ground := Ground.phase }, { on := 6, ground := Ground.phase }, { on := 7, ground := Ground.phase }, { on := 8, ground := Ground.phase }, { on := 9, ground := Ground.phase }, { on := 10, ground := Ground.phase }], guard := none }) (v := .pointer (some ⟨g, 0, none⟩)) rfl (by kernel_rfl) (by kernel_rfl) (by kernel_rfl) (fun _ _ _ h => h) (Or.inl ⟨by kernel_rfl, fun W hW => by kernel_rfl⟩) hHeld ?_
        simp only [Act.put, List.setIfInBounds_toArray, List.set_cons_zero, List.set_cons_succ]
        refine wpAnyH_take (i := 12) (oi := { dst := some 76, op := Op.fieldAddr 45 (Operand.tmp 75) 1, type := 0, pos := "hands.go:73", after := #[{ on := 11, ground := Ground.data }, { on := 0, ground := Ground.phase }, { on := 1, ground := Ground.phase }, { on := 2, ground := Ground.phase }, { on := 3, ground := Ground.phase }, { on := 4, ground := Ground.phase }, { on := 5, ground := Ground.phase }, { on := 6, ground := Ground.phase }, { on := 7, ground := Ground.phase }, { on := 8, ground := Ground.phase }, { on := 9, ground := Ground.phase }, { on := 10, ground := Ground.phase }], guard := none }) (v := .pointer (some ⟨g, 1, none⟩)) rfl (by kernel_rfl) (by kernel_rfl) (by kernel_rfl) (fun _ _ _ h => h) (Or.inl ⟨by kernel_rfl, fun W hW => by kernel_rfl⟩) hHeld ?_
        simp only [Act.put, List.setIfInBounds_toArray, List.set_cons_zero, List.set_cons_succ]
        refine wpAnyH_ready (rs := [13]) (by kernel_rfl) (by simp) ?_
        refine AllReadyH.cons (o := { dst := none, op := Op.store 41 (Operand.tmp 76) (Operand.tmp 74), type := 0, pos := "hands.go:73", after := #[{ on := 12, ground := Ground.data }, { on := 10, ground := Ground.data }, { on := 10, ground := Ground.chain }, { on := 0, ground := Ground.phase }, { on := 1, ground := Ground.phase }, { on := 2, ground := Ground.phase }, { on := 3, ground := Ground.phase }, { on := 4, ground := Ground.phase }, { on := 5, ground := Ground.phase }, { on := 6, ground := Ground.phase }, { on := 7, ground := Ground.phase }, { on := 8, ground := Ground.phase }, { on := 9, ground := Ground.phase }, { on := 10, ground := Ground.phase }], guard := none }) rfl (fun K hK => ?_) AllReadyH.nil
        refine ite_wanted ?_ ?_; · kernel_rfl
        refine wp_store_cell41 (.tmp 76) (.tmp 74) ?_ ⟨g, 1, none⟩ ?_ (some ⟨gm, 0, none⟩) (n + 4) cm' ?_ vm ?_ ?_ ?_
        · rfl
        · kernel_rfl
        · kernel_rfl
        · exact hcf
        · exact hff
        simp only [Act.put]
        refine hK.out _ _ ?_ (fun hHeld => ?_)
        · exact range_set hHeld (by have := (unhide HD).gT; have := unhide HTW; omega) 1 _
        clear hK K
        refine wpAnyH_done (by kernel_rfl) ?_ _
        have hend := dr_end (w := w) (va := .slice (some ⟨ga, 0, none⟩) (len + 1) ca) (vb := .slice (some ⟨gb, 0, none⟩) (len + 2) cb) (vc := .slice (some ⟨gc, 0, none⟩) (len + 3) cc) (unhide HDc) (unhide HMc) (unhide HAe) hom hgm' hfm' hm hlen (unhide HOc)
        have HE := hide hend
        clear hend hom hgm hgm' hfm hfm' hgf hcf hff hMm
        go_wp2_with fail
        refine end0 rfl rfl ?_
        exact ⟨rfl, ⟨_, _, _, _, (unhide HE).1⟩, (unhide HE).2⟩
      · refine ite_wanted ?_ ?_; · kernel_rfl
        refine wp_build_reps 4 #[(0, .tmp 69), (1, .tmp 70), (2, .tmp 71), (3, .tmp 72)] ?_ hm (by decide) (by decide) ?_ R4 (unhide HR4) ?_
        · rfl
        · simp [List.range', Act.eval]; exact hbr
        simp only [Act.put, List.setIfInBounds_toArray, List.set_cons_zero, List.set_cons_succ]
        refine hK.out _ _ (World.rangeAt_alloc hHeld _) (fun hHeld => ?_)
        clear hK K
        refine wpAnyH_ready (rs := [4]) (by kernel_rfl) (by simp) ?_
        refine AllReadyH.cons (o := { dst := some 68, op := Op.load 41 (Operand.tmp 67), type := 41, pos := "hands.go:73", after := #[{ on := 3, ground := Ground.data }], guard := none }) rfl (fun K hK => ?_) AllReadyH.nil
        refine ite_wanted ?_ ?_; · kernel_rfl
        refine wp_load_cell41 (.tmp 67) ?_ ⟨g, 1, none⟩ ?_ (.slice am n cm) ?_ ?_
        · rfl
        · kernel_rfl
        · exact (World.cell?_alloc_lt _ _ _ (Nat.lt_of_lt_of_le hgc (unhide HAe).size)).trans hce
        simp only [Act.put, List.setIfInBounds_toArray, List.set_cons_zero, List.set_cons_succ]
        refine hK.out _ _ hHeld (fun hHeld => ?_)
        clear hK K
        refine wpAnyH_ready (rs := [10]) (by kernel_rfl) (by simp) ?_
        refine AllReadyH.cons (o := { dst := some 74, op := Op.call { callee := Callee.builtin Builtin.append, args := #[Operand.tmp 68, Operand.tmp 73], argTypes := #[41, 41] }, type := 41, pos := "hands.go:73", after := #[{ on := 4, ground := Ground.data }, { on := 9, ground := Ground.data }], guard := none }) rfl (fun K hK => ?_) AllReadyH.nil
        refine ite_wanted ?_ ?_; · kernel_rfl
        refine wp_append_fresh (.tmp 68) (.tmp 73) 41 ?_ B 24 i0 (.agg (brow (List.replicate 32 0))) 32 32 Tryd.underlying41 hi0 hz0 hz1 hz2 ?_ (by decide) (.slice am n cm) n (flat ms) ?_ ?_ ⟨we.heap.size, 0, none⟩ 4 4 (reps m 4) ?_ ?_ ?_ ?_ (by decide) ?_ ?_ ?_ ?_
        · rfl
        · rfl
        · kernel_rfl
        · have := (unhide HAe).mm
          rw [unhide Hvm] at this
          exact this.alloc _
        · kernel_rfl
        · exact reps_length hm 4
        · exact news_reps (W0 := we) (unhide HR4) rfl
        · exact reps_one m 4
        · unfold maxLen; omega
        · omega
        · have := (unhide HAe).size; have := (unhide HMc).size; have := unhide HTW; simp; omega
        intro vm' wf hom hgm hfm
        obtain ⟨gm, cm', hvm'⟩ := own_slice hom (by omega)
        subst hvm'
        simp only [Act.put, List.setIfInBounds_toArray, List.set_cons_zero, List.set_cons_succ]
        have hgm' : we.grownBy wf vm.ownBlock := by
          rw [unhide Hvm]
          exact ⟨hgm.os, hgm.tape, hgm.output, Nat.le_trans (by simp) hgm.size, fun k hk hne => (hgm.block k (by simp; omega) hne).trans (Below.heap_alloc _ _ _ hk)⟩
        have hfm' : (Value.slice (some ⟨gm, 0, none⟩) (n + 4) cm').ownBlock = vm.ownBlock ∨ we.heap.size ≤ (Value.slice (some ⟨gm, 0, none⟩) (n + 4) cm').ownBlock.getD 0 := by
          rw [unhide Hvm]
          rcases hfm with h | h
          · exact Or.inl h
          · rw [h]; right; simp
        have hge : g < we.heap.size := Nat.lt_of_lt_of_le hgc (unhide HAe).size
        have hMe : w.heap.size < we.heap.size := Nat.lt_of_lt_of_le (unhide HMc).size (unhide HAe).size
        have hMm : vm.ownBlock ≠ some w.heap.size := fun e => by
          have := (unhide HD).mT _ e
          have := unhide HTW
          omega
        have hgf : wf.heap[g]? = some (.cells #[.slice (some ⟨gl, 0, none⟩) (n + 4) cl', vm] 45 (0, 0)) := (hgm'.block g hge (fun e => own_ne_at (unhide HAe).mm (unhide HAe).at' (by decide) e.symm)).trans (unhide HAe).at'
        have hcf : wf.cell? ⟨g, 1, none⟩ = some vm := cell_of_row _ _ _ _ _ _ hgf
        have hff := frozen_of_row _ _ 1 _ _ hgf
        refine hK.out _ _ ?_ (fun hHeld => ?_)
        · intro j u hu
          rw [World.cell?_of_block (w := we) (hgm'.block w.heap.size hMe (fun e => hMm e.symm))]
          exact hre j u hu
        clear hK K
        refine wpAnyH_take (i := 11) (oi := { dst := some 75, op := Op.nilCheck (Operand.tmp 64), type := 0, pos := "hands.go:73", after := #[{ on := 0, ground := Ground.data }, { on := 0, ground := Ground.phase }, { on := 1, ground := Ground.phase }, { on := 2, ground := Ground.phase }, { on := 3, ground := Ground.phase }, { on := 4, ground := Ground.phase }, { on := 5, ground := Ground.phase }, { on := 6, ground := Ground.phase }, { on := 7, ground := Ground.phase }, { on := 8, ground := Ground.phase }, { on := 9, ground := Ground.phase }, { on := 10, ground := Ground.phase }], guard := none }) (v := .pointer (some ⟨g, 0, none⟩)) rfl (by kernel_rfl) (by kernel_rfl) (by kernel_rfl) (fun _ _ _ h => h) (Or.inl ⟨by kernel_rfl, fun W hW => by kernel_rfl⟩) hHeld ?_
        simp only [Act.put, List.setIfInBounds_toArray, List.set_cons_zero, List.set_cons_succ]
        refine wpAnyH_take (i := 12) (oi := { dst := some 76, op := Op.fieldAddr 45 (Operand.tmp 75) 1, type := 0, pos := "hands.go:73", after := #[{ on := 11, ground := Ground.data }, { on := 0, ground := Ground.phase }, { on := 1, ground := Ground.phase }, { on := 2, ground := Ground.phase }, { on := 3, ground := Ground.phase }, { on := 4, ground := Ground.phase }, { on := 5, ground := Ground.phase }, { on := 6, ground := Ground.phase }, { on := 7, ground := Ground.phase }, { on := 8, ground := Ground.phase }, { on := 9, ground := Ground.phase }, { on := 10, ground := Ground.phase }], guard := none }) (v := .pointer (some ⟨g, 1, none⟩)) rfl (by kernel_rfl) (by kernel_rfl) (by kernel_rfl) (fun _ _ _ h => h) (Or.inl ⟨by kernel_rfl, fun W hW => by kernel_rfl⟩) hHeld ?_
        simp only [Act.put, List.setIfInBounds_toArray, List.set_cons_zero, List.set_cons_succ]
        refine wpAnyH_ready (rs := [13]) (by kernel_rfl) (by simp) ?_
        refine AllReadyH.cons (o := { dst := none, op := Op.store 41 (Operand.tmp 76) (Operand.tmp 74), type := 0, pos := "hands.go:73", after := #[{ on := 12, ground := Ground.data }, { on := 10, ground := Ground.data }, { on := 10, ground := Ground.chain }, { on := 0, ground := Ground.phase }, { on := 1, ground := Ground.phase }, { on := 2, ground := Ground.phase }, { on := 3, ground := Ground.phase }, { on := 4, ground := Ground.phase }, { on := 5, ground := Ground.phase }, { on := 6, ground := Ground.phase }, { on := 7, ground := Ground.phase }, { on := 8, ground := Ground.phase }, { on := 9, ground := Ground.phase }, { on := 10, ground := Ground.phase }], guard := none }) rfl (fun K hK => ?_) AllReadyH.nil
        refine ite_wanted ?_ ?_; · kernel_rfl
        refine wp_store_cell41 (.tmp 76) (.tmp 74) ?_ ⟨g, 1, none⟩ ?_ (some ⟨gm, 0, none⟩) (n + 4) cm' ?_ vm ?_ ?_ ?_
        · rfl
        · kernel_rfl
        · kernel_rfl
        · exact hcf
        · exact hff
        simp only [Act.put]
        refine hK.out _ _ ?_ (fun hHeld => ?_)
        · exact range_set hHeld (by have := (unhide HD).gT; have := unhide HTW; omega) 1 _
        clear hK K
        refine wpAnyH_done (by kernel_rfl) ?_ _
        have hend := dr_end (w := w) (va := .slice (some ⟨ga, 0, none⟩) (len + 1) ca) (vb := .slice (some ⟨gb, 0, none⟩) (len + 2) cb) (vc := .slice (some ⟨gc, 0, none⟩) (len + 3) cc) (unhide HDc) (unhide HMc) (unhide HAe) hom hgm' hfm' hm hlen (unhide HOc)
        have HE := hide hend
        clear hend hom hgm hgm' hfm hfm' hgf hcf hff hMm
        go_wp2_with fail
        refine end0 rfl rfl ?_
        exact ⟨rfl, ⟨_, _, _, _, (unhide HE).1⟩, (unhide HE).2⟩

end Go.Proofs.YtfodibjlldmnpaaDoor
