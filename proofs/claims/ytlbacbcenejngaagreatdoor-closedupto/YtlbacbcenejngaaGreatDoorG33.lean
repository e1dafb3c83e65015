/-
  Fb Fd
-/
import Derived.Test.YtlbacbcenejngaaGreatDoorG32
namespace Go.Proofs.YtlbacbcenejngaaGreatDoor
open Go.RowKit
/-- A step that came in. -/
structure StqIn (w : World) (o : Stq) : Prop where
  fit : o.Fit
  isl : ISl w o.lv o.l
  len : o.l.length ≤ 1048576
  rng : ∀ j, j < o.l.length → i64 (o.l.getD j 0)
def stq0 : Stq := ⟨0, 0, 0, 0, .empty, .slice none 0 0, []⟩
/-- A script in memory. -/
structure ScrS (w : World) (v : Value) (l : List Stq) : Prop where
  val : ∃ a cap, v = .slice a l.length cap ∧ (0 < l.length → ∃ b o, a = some ⟨b, o, none⟩ ∧ b < w.heap.size ∧ ∀ i, i < l.length → w.rangeAt b (o + i * 6) (l.getD i stq0).cells.toList)
  each : ∀ i, i < l.length → StqIn w (l.getD i stq0)
  len : l.length ≤ 1048576
theorem range_kept {w w' : World} {b o n : Nat} {l : List Value} (h : w.rangeAt b o l) (hk : Kept n w w') (hb : b < n) : w'.rangeAt b o l := fun j u hu => ((hk.cell (p := ⟨b, o + j, none⟩) hb).trans (h j u hu))
/-- A shop whose sinks do not fail, all of it younger than a world. -/
def Shp (w0 : World) (p vp : Nat) (lv : Value) (V : Vlt) (n : Nat) (w : World) : Prop :=
  ∃ g E, ShA w0.heap.size w p vp g lv V ∧ V.Bnd E n ∧ V.Calm ∧ V.sto.Rt ∧ Kept w0.heap.size w0 w
theorem Shp.kept {w0 : World} {p vp : Nat} {lv : Value} {V : Vlt} {n : Nat} {w w' : World} (h : Shp w0 p vp lv V n w) (hk : Kept w.heap.size w w') : Shp w0 p vp lv V n w' := by
  obtain ⟨g, E, h1, h2, h3, h4, h5⟩ := h
  exact ⟨g, E, h1.kept hk, h2, h3, h4, h5.trans (hk.mono h5.size)⟩
theorem Shp.x {w0 : World} {p vp : Nat} {lv : Value} {V : Vlt} {n : Nat} {w : World} (h : Shp w0 p vp lv V n w) : w.cell? ⟨p, 0, none⟩ = some (.pointer (some ⟨vp, 0, none⟩)) := by
  obtain ⟨g, E, h1, _⟩ := h
  rw [cell_of_row _ _ _ _ _ _ h1.at']; rfl
theorem Shp.k0 {w0 : World} {p vp : Nat} {lv : Value} {V : Vlt} {n : Nat} {w : World} (h : Shp w0 p vp lv V n w) : Kept w0.heap.size w0 w := by
  obtain ⟨g, E, _, _, _, _, h5⟩ := h
  exact h5
theorem Shp.end' {w0 : World} {p vp : Nat} {lv : Value} {V : Vlt} {n : Nat} {w w' : World} {g g' : VG} {E : List ByteArray} (h1 : ShA w0.heap.size w p vp g lv V) (h2 : V.Bnd E n) (h3 : V.Calm) (h4 : V.sto.Rt) (h5 : Kept w0.heap.size w0 w) (hn : n + 1 ≤ 4194304) (s : ByteArray) (hs : ShA w0.heap.size w' p vp g' lv (V.next s)) (hc : Chg (Hft p vp g lv) w w') : Shp w0 p vp lv (V.next s) (n + 1) w' :=
  ⟨g', _, hs, h3.bnd h2 hn s, h3.next s, Vlt.rt_next h4 s, h5.trans (hc.keptB h5.size fun k hk hs => by have := (h1.foot hs).2; omega)⟩
theorem Shp.do' {w0 : World} {p vp : Nat} {lv : Value} {V : Vlt} {n : Nat} {w : World} (h : Shp w0 p vp lv V n w) (hn : n + 1 ≤ 4194304) (s : ByteArray) (hs : s.size ≤ 549755813000) (hT : Table w0) (hz : 0 < w0.heap.size) :
    Calls Tryz.prog 22 #[.pointer (some ⟨vp, 0, none⟩), .string s] w fun e w' => e = .returned (.string (V.tell s)) ∧ Shp w0 p vp lv (V.next s) (n + 1) w' := by
  obtain ⟨g, E, h1, h2, h3, h4, h5⟩ := h
  refine (do_go _ w vp g V E n s h1.v h2 hs h5.size (hT.kept h5 hz) (by have := h5.size; omega)).mono fun e w' he => ?_
  obtain ⟨rfl, g', hs, hc, hf⟩ := h1.did he
  exact ⟨rfl, Shp.end' h1 h2 h3 h4 h5 hn s hs hc⟩
theorem Shp.step {w0 : World} {p vp : Nat} {lv : Value} {V : Vlt} {n : Nat} {w : World} (h : Shp w0 p vp lv V n w) (hn : n + 1 ≤ 4194304) (o : Stq) (c : UInt8) (ho : o.Fit) (h7 : o.kind ≠ 7) (hT : Table w0) (hz : 0 < w0.heap.size) :
    Calls Tryz.prog 12 #[.pointer (some ⟨p, 0, none⟩), .agg o.cells, .int .u8 (c.toNat : Int)] w fun e w' => e = .returned (.string (V.tell (reqS o c))) ∧ Shp w0 p vp lv (V.next (reqS o c)) (n + 1) w' := by
  obtain ⟨g, E, h1, h2, h3, h4, h5⟩ := h
  refine (step_req_go _ w p vp g lv V E n o c h1 h2 ho h7 h5.size (hT.kept h5 hz) (by have := h5.size; omega)).mono fun e w' he => ?_
  obtain ⟨rfl, g', hs, hc, hf⟩ := he
  exact ⟨rfl, Shp.end' h1 h2 h3 h4 h5 hn _ hs hc⟩
theorem shop0_bnd (x : Int) : (shop0 x).Bnd [] 0 ∧ (shop0 x).Calm ∧ (shop0 x).sto.Rt := by
  have h4 := pkI_lt x (n := 4) (by decide)
  exact ⟨vlt0_bnd (by rw [List.length_replicate]; omega) (by decide) (fun k hk => List.eq_of_mem_replicate hk), vlt0_calm (by rw [List.length_replicate]; omega) (fun k hk => List.eq_of_mem_replicate hk), vlt0_rt⟩
theorem shp_opened (w : World) (x : Int) (hx : i64 x) (hT : Table w) (hz : 0 < w.heap.size) :
    Calls Tryz.prog 10 #[.int .i64 x] w fun e w' => ∃ p vp lv, e = .returned (.pointer (some ⟨p, 0, none⟩)) ∧ Shp w p vp lv (shop0 x) 0 w' :=
  (opened_go w.heap.size w x hx (Nat.le_refl _) hT hz).mono fun _e _w' ⟨p, vp, g, lv, he, hs, hk, _hf, _⟩ => ⟨p, vp, lv, he, g, [], hs, (shop0_bnd x).1, (shop0_bnd x).2.1, (shop0_bnd x).2.2, hk⟩
end Go.Proofs.YtlbacbcenejngaaGreatDoor
namespace Go.Proofs.YtlbacbcenejngaaGreatDoor
open Go.RowKit
def Vlt.failAt (V : Vlt) (i : Nat) (L : List Int) : Vlt := { V with snks := V.snks.modify i fun k => k.fail L }
theorem mem_modify {α : Type} {f : α → α} {x : α} : ∀ {l : List α} {i : Nat}, x ∈ l.modify i f → x ∈ l ∨ ∃ y ∈ l, x = f y := by
  intro l
  induction l with
  | nil => intro i h; simp at h
  | cons a l ih =>
    intro i h
    cases i with
    | zero =>
      simp only [List.modify_zero_cons, List.mem_cons] at h
      rcases h with rfl | h
      · exact .inr ⟨a, .head _, rfl⟩
      · exact .inl (.tail _ h)
    | succ i =>
      simp only [List.modify_succ_cons, List.mem_cons] at h
      rcases h with rfl | h
      · exact .inl (.head _)
      · rcases ih h with h | ⟨y, hy, e⟩
        · exact .inl (.tail _ h)
        · exact .inr ⟨y, .tail _ hy, e⟩
theorem modify_mem {α : Type} {f : α → α} {x : α} : ∀ {l : List α} (i : Nat), x ∈ l → x ∈ l.modify i f ∨ f x ∈ l.modify i f := by
  intro l
  induction l with
  | nil => intro i h; cases h
  | cons a l ih =>
    intro i h
    cases i with
    | zero =>
      simp only [List.modify_zero_cons, List.mem_cons]
      rcases List.mem_cons.1 h with rfl | h
      · exact .inr (.inl rfl)
      · exact .inl (.inr h)
    | succ i =>
      simp only [List.modify_succ_cons, List.mem_cons]
      rcases List.mem_cons.1 h with rfl | h
      · exact .inl (.inl rfl)
      · rcases ih i h with h | h
        · exact .inl (.inr h)
        · exact .inr (.inr h)
theorem modify_set {α : Type} (f : α → α) : ∀ {l : List α} {i : Nat} (h : i < l.length), l.modify i f = l.set i (f l[i]) := by
  intro l
  induction l with
  | nil => intro i h; simp at h
  | cons a l ih =>
    intro i h
    cases i with
    | zero => rfl
    | succ i => simp only [List.modify_succ_cons, List.set_cons_succ, List.getElem_cons_succ]; rw [ih]
theorem Vlt.Ok.failAt {V : Vlt} {E : List ByteArray} (h : V.Ok E) (i : Nat) (L : List Int) : (V.failAt i L).Ok E := by
  refine ⟨h.chn, h.cnt, h.last, fun k hk => ?_, ?_, h.sto⟩
  · rcases mem_modify hk with hk | ⟨y, hy, rfl⟩
    · exact h.snk k hk
    · exact h.snk y hy
  · obtain ⟨k, hk, e⟩ := h.most
    rcases modify_mem (f := fun k : Snk => k.fail L) i hk with h1 | h1
    · exact ⟨k, h1, e⟩
    · exact ⟨_, h1, e⟩
theorem Vlt.Bnd.failAt {V : Vlt} {E : List ByteArray} {n : Nat} (h : V.Bnd E n) (i : Nat) (L : List Int) (hL : L.length ≤ 4294967296) : (V.failAt i L).Bnd E n := by
  refine ⟨h.ok.failAt i L, h.le, h.dsk, fun k hk => ?_, by show (V.snks.modify i _).length ≤ 4; rw [List.length_modify]; exact h.few, h.key⟩
  rcases mem_modify hk with hk | ⟨y, hy, rfl⟩
  · exact h.snk k hk
  · obtain ⟨⟨m, h1, h2, h3⟩, h4, h5⟩ := h.snk y hy
    exact ⟨⟨m, h1, h2, by show (0 : Int) ≤ (m : Int) + (n : Int); omega⟩, Int.le_refl _, hL⟩
theorem Vlt.Bnd.next' {V : Vlt} {E : List ByteArray} {n : Nat} (h : V.Bnd E n) (hn : n + 1 ≤ 4194304) (s : ByteArray) : ∃ E', (V.next s).Bnd E' (n + 1) := by
  cases hl : (V.lay s).2 with
  | true => exact ⟨_, (h.next hn s).1 hl⟩
  | false => exact ⟨_, (h.next hn s).2 hl⟩
theorem ShA.failed {B : Nat} {w w' : World} {p vp : Nat} {g : VG} {lv : Value} {V : Vlt} (h : ShA B w p vp g lv V) {i : Nat} (hi : i < g.SL.length) {v' : Value} {L : List Int} (hP : SAt B 81 w' g.SL[i].p v' (g.SL[i].x.fail L)) (hu : Upd g.SL[i].p g.SL[i].v v' w w') :
    ∃ g', g'.SL.map (·.p) = g.SL.map (·.p) ∧ ShA B w' p vp g' lv (V.failAt i L) ∧ Chg (Hft p vp g lv) w w' ∧ ∀ k, Hft p vp g' lv k → Hft p vp g lv k ∨ w.heap.size ≤ k := by
  obtain ⟨hl, hc, hf⟩ := h.v.log.upd hi hP hu
  obtain ⟨hv, hcv, hfv, hst⟩ := h.v.setL hl hc hf
  have hsx : (g.SL.set i ⟨g.SL[i].p, v', g.SL[i].x.fail L⟩).map (·.x) = (V.failAt i L).snks := by
    show _ = V.snks.modify i fun k => k.fail L
    rw [← h.v.snk, List.map_set, modify_set _ (by rw [List.length_map]; exact hi), List.getElem_map]
  have hsp : (g.SL.set i ⟨g.SL[i].p, v', g.SL[i].x.fail L⟩).map (·.p) = g.SL.map (·.p) := by
    rw [List.map_set]
    apply List.ext_getElem?
    intro j
    by_cases e : i = j
    · subst e
      rw [List.getElem?_set_self (by simpa using hi), List.getElem?_map, List.getElem?_eq_getElem hi]
      rfl
    · rw [List.getElem?_set_ne e]
  have hlen : (g.SL.set i ⟨g.SL[i].p, v', g.SL[i].x.fail L⟩).length = g.SL.length := List.length_set
  refine ⟨{ g with SL := g.SL.set i ⟨g.SL[i].p, v', g.SL[i].x.fail L⟩ }, hsp, ⟨?_, ?_, ?_, h.ge, fun k hk hk' => ?_⟩, hcv.mono fun k _ e => .inr (.inr e), fun k hk => ?_⟩
  · exact (hcv.block _ (h.foot (.inl rfl)).1 (h.out _ (.inl rfl))).trans h.at'
  · show w'.ownsRow B 41 1 lv (g.SL.set i _).length (pcells ((g.SL.set i _).map (·.p)))
    rw [hsp, hlen]
    exact own_blocks h.row fun k hk => hcv.block k (h.foot (.inr (.inl hk))).1 (h.out k (.inr hk))
  · have e : V.failAt i L = { V with snks := (g.SL.set i ⟨g.SL[i].p, v', g.SL[i].x.fail L⟩).map (·.x), cnt := V.cnt, last := V.last } := by rw [hsx]; rfl
    rw [e]
    exact hv
  · rcases hfv k hk' with h1 | h1
    · exact h.out k hk h1
    · have : k < w.heap.size := (h.foot (by rcases hk with rfl | hk; exact .inl rfl; exact .inr (.inl hk))).1
      omega
  · rcases hk with hk | hk | hk
    · exact .inl (.inl hk)
    · exact .inl (.inr (.inl hk))
    · exact (hfv k hk).imp (fun e => .inr (.inr e)) id
theorem ShA.fail_go {B : Nat} {w : World} {p vp : Nat} {g : VG} {lv : Value} {V : Vlt} (h : ShA B w p vp g lv V) {i : Nat} (hi : i < g.SL.length) (vx : Value) (L : List Int) (hB : B ≤ w.heap.size) (hL : L.length ≤ 4294967296) (hI : ISl w vx L) (hne : 0 < L.length → ∀ b, vx.ownBlock = some b → ¬ Hft p vp g lv b) :
    Calls Tryz.prog 19 #[.pointer (some ⟨g.SL[i].p, 0, none⟩), vx] w fun e w' => e = .returned (.tuple #[]) ∧ ∃ g', g'.SL.map (·.p) = g.SL.map (·.p) ∧ ShA B w' p vp g' lv (V.failAt i L) ∧ Chg (Hft p vp g lv) w w' ∧ ∀ k, Hft p vp g' lv k → Hft p vp g lv k ∨ w.heap.size ≤ k := by
  refine (Go.Proofs.YtlbacbcenejngaaGreatDoor.fail_go B w g.SL[i].p g.SL[i].v g.SL[i].x vx L (h.v.log.snk.each _ (List.getElem_mem hi)).1 hB hL hI fun hp e => hne hp _ e (.inr (.inr (.inr (.inr (.inr (.inl (.inr (.inr ⟨_, List.getElem_mem hi, .inl rfl⟩))))))))).mono fun e w' ⟨he, v', hP, hu⟩ => ?_
  exact ⟨he, h.failed hi hP hu⟩
theorem VAt.knd {B : Nat} {w : World} {vp : Nat} {g : VG} {V : Vlt} (h : VAt B w vp g V) {k : Nat} (hk : Vft vp g k) : ∃ n ∈ [79, 144, 118, 150, 128, 42, 82, 4, 169, 236, 238, 0], knd w k = some n := by
  rcases hk with rfl | rfl | hk | hk | hk
  · exact ⟨79, by decide, (show TyAt w _ 78 from ⟨_, h.at'⟩).knd⟩
  · exact ⟨144, by decide, (show TyAt w _ 143 from ⟨_, h.jat⟩).knd⟩
  · obtain ⟨n, hn, e⟩ := h.dsk.knd hk
    refine ⟨n, ?_, e⟩
    simp at hn ⊢; omega
  · obtain ⟨n, hn, e⟩ := h.log.knd hk
    refine ⟨n, ?_, e⟩
    simp at hn ⊢; omega
  · obtain ⟨n, hn, e⟩ := h.sto.knd hk
    refine ⟨n, ?_, e⟩
    simp at hn ⊢; omega
theorem ShA.no30 {B : Nat} {w : World} {p vp : Nat} {g : VG} {lv : Value} {V : Vlt} (h : ShA B w p vp g lv V) {k : Nat} (hk : knd w k = some 30) : ¬ Hft p vp g lv k := by
  intro hf
  rcases hf with rfl | hf | hf
  · have := (show TyAt w k 35 from ⟨_, h.at'⟩).knd
    rw [hk] at this; cases this
  · have := (show TyAt w k 41 from own_ty h.row hf).knd
    rw [hk] at this; cases this
  · obtain ⟨n, hn, e⟩ := h.v.knd hf
    rw [hk] at e; cases e; simp at hn
theorem keep30 {B : Nat} {w w' : World} {p vp : Nat} {g : VG} {lv : Value} {V : Vlt} (h : ShA B w p vp g lv V) (hc : Chg (Hft p vp g lv) w w') (k : Nat) (hk : knd w k = some 30) : w'.heap[k]? = w.heap[k]? := hc.block k (knd_lt hk) (h.no30 hk)
/-- Two shops. -/
def Duo (w0 : World) (p vp : Nat) (lv : Value) (A : Vlt) (n : Nat) (p2 vp2 : Nat) (lv2 : Value) (C : Vlt) (m : Nat) (w : World) : Prop :=
  ∃ g g2 E E2, ShA w0.heap.size w p vp g lv A ∧ ShA w0.heap.size w p2 vp2 g2 lv2 C ∧ (∀ k, Hft p vp g lv k → ¬ Hft p2 vp2 g2 lv2 k) ∧ A.Bnd E n ∧ C.Bnd E2 m ∧ Kept w0.heap.size w0 w
section
variable {w0 : World} {p vp : Nat} {lv : Value} {A : Vlt} {n : Nat} {p2 vp2 : Nat} {lv2 : Value} {C : Vlt} {m : Nat} {w w' : World}
theorem Duo.symm (h : Duo w0 p vp lv A n p2 vp2 lv2 C m w) : Duo w0 p2 vp2 lv2 C m p vp lv A n w := by
  obtain ⟨g, g2, E, E2, h1, h2, h3, h4, h5, h6⟩ := h
  exact ⟨g2, g, E2, E, h2, h1, fun k a b => h3 k b a, h5, h4, h6⟩
theorem Duo.kept (h : Duo w0 p vp lv A n p2 vp2 lv2 C m w) (hk : Kept w.heap.size w w') : Duo w0 p vp lv A n p2 vp2 lv2 C m w' := by
  obtain ⟨g, g2, E, E2, h1, h2, h3, h4, h5, h6⟩ := h
  exact ⟨g, g2, E, E2, h1.kept hk, h2.kept hk, h3, h4, h5, h6.trans (hk.mono h6.size)⟩
theorem Duo.x (h : Duo w0 p vp lv A n p2 vp2 lv2 C m w) : w.cell? ⟨p, 0, none⟩ = some (.pointer (some ⟨vp, 0, none⟩)) := by
  obtain ⟨g, g2, E, E2, h1, _⟩ := h
  rw [cell_of_row _ _ _ _ _ _ h1.at']; rfl
theorem Duo.l (h : Duo w0 p vp lv A n p2 vp2 lv2 C m w) : w.cell? ⟨p, 2, none⟩ = some lv := by
  obtain ⟨g, g2, E, E2, h1, _⟩ := h
  rw [cell_of_row _ _ _ _ _ _ h1.at']; rfl
theorem Duo.k0 (h : Duo w0 p vp lv A n p2 vp2 lv2 C m w) : Kept w0.heap.size w0 w := by
  obtain ⟨g, g2, E, E2, _, _, _, _, _, h6⟩ := h
  exact h6
/-- The first has changed. -/
theorem Duo.turn {A' : Vlt} {n' : Nat} {g g2 g' : VG} {E E2 : List ByteArray} (h1 : ShA w0.heap.size w p vp g lv A) (h2 : ShA w0.heap.size w p2 vp2 g2 lv2 C) (h3 : ∀ k, Hft p vp g lv k → ¬ Hft p2 vp2 g2 lv2 k) (h5 : C.Bnd E2 m) (h6 : Kept w0.heap.size w0 w) (hb : A'.Bnd E n') (hs : ShA w0.heap.size w' p vp g' lv A') (hc : Chg (Hft p vp g lv) w w') (hf : ∀ k, Hft p vp g' lv k → Hft p vp g lv k ∨ w.heap.size ≤ k) : Duo w0 p vp lv A' n' p2 vp2 lv2 C m w' :=
  ⟨g', g2, E, E2, hs, h2.chg hc fun k hk e => h3 k e hk, fun k a b => by
    rcases hf k a with h | h
    · exact h3 k h b
    · have := (h2.foot b).1; omega, hb, h5, h6.trans (hc.keptB h6.size fun k hk hs => by have := (h1.foot hs).2; omega)⟩
theorem Duo.do' (h : Duo w0 p vp lv A n p2 vp2 lv2 C m w) (hn : n + 1 ≤ 4194304) (s : ByteArray) (hs : s.size ≤ 549755813000) (hT : Table w0) (hz : 0 < w0.heap.size) :
    Calls Tryz.prog 22 #[.pointer (some ⟨vp, 0, none⟩), .string s] w fun e w' => e = .returned (.string (A.tell s)) ∧ Duo w0 p vp lv (A.next s) (n + 1) p2 vp2 lv2 C m w' ∧ ∀ k, knd w k = some 30 → w'.heap[k]? = w.heap[k]? := by
  obtain ⟨g, g2, E, E2, h1, h2, h3, h4, h5, h6⟩ := h
  refine (do_go _ w vp g A E n s h1.v h4 hs h6.size (hT.kept h6 hz) (by have := h6.size; omega)).mono fun e w' he => ?_
  obtain ⟨rfl, g', hs, hc, hf⟩ := h1.did he
  obtain ⟨E', hb⟩ := h4.next' hn s
  exact ⟨rfl, Duo.turn h1 h2 h3 h5 h6 hb hs hc hf, keep30 h1 hc⟩
theorem Duo.step (h : Duo w0 p vp lv A n p2 vp2 lv2 C m w) (hn : n + 1 ≤ 4194304) (o : Stq) (c : UInt8) (ho : o.Fit) (h7 : o.kind ≠ 7) (hT : Table w0) (hz : 0 < w0.heap.size) :
    Calls Tryz.prog 12 #[.pointer (some ⟨p, 0, none⟩), .agg o.cells, .int .u8 (c.toNat : Int)] w fun e w' => e = .returned (.string (A.tell (reqS o c))) ∧ Duo w0 p vp lv (A.next (reqS o c)) (n + 1) p2 vp2 lv2 C m w' ∧ ∀ k, knd w k = some 30 → w'.heap[k]? = w.heap[k]? := by
  obtain ⟨g, g2, E, E2, h1, h2, h3, h4, h5, h6⟩ := h
  refine (step_req_go _ w p vp g lv A E n o c h1 h4 ho h7 h6.size (hT.kept h6 hz) (by have := h6.size; omega)).mono fun e w' he => ?_
  obtain ⟨rfl, g', hs, hc, hf⟩ := he
  obtain ⟨E', hb⟩ := h4.next' hn (reqS o c)
  exact ⟨rfl, Duo.turn h1 h2 h3 h5 h6 hb hs hc hf, keep30 h1 hc⟩
theorem Duo.head (h : Duo w0 p vp lv A n p2 vp2 lv2 C m w) :
    Calls Tryz.prog 11 #[.pointer (some ⟨vp, 0, none⟩)] w fun e w' => e = .returned (.tuple #[.int .i64 (A.cnt : Int), .agg (brow A.last)]) ∧ Kept w.heap.size w w' := by
  obtain ⟨g, g2, E, E2, h1, h2, h3, h4, h5, h6⟩ := h
  exact head_go _ w vp g A h1.v
/-- The slice of a shop's sinks. -/
theorem Duo.sinks (h : Duo w0 p vp lv A n p2 vp2 lv2 C m w) (h0 : 0 < A.snks.length) : ∃ b cap, lv = .slice (some ⟨b, 0, none⟩) A.snks.length cap ∧ ∀ i, i < A.snks.length → ∃ q, w.cell? ⟨b, i, none⟩ = some (.pointer (some ⟨q, 0, none⟩)) ∧ ∀ (w' : World) (vx : Value) (L : List Int), Kept w.heap.size w w' → L.length ≤ 4294967296 → ISl w' vx L → (∀ k, vx.ownBlock = some k → w.heap.size ≤ k) →
    Calls Tryz.prog 19 #[.pointer (some ⟨q, 0, none⟩), vx] w' fun e w'' => e = .returned (.tuple #[]) ∧ Duo w0 p vp lv (A.failAt i L) n p2 vp2 lv2 C m w'' := by
  obtain ⟨g, g2, E, E2, h1, h2, h3, h4, h5, h6⟩ := h
  have hl : g.SL.length = A.snks.length := by rw [← h1.v.snk, List.length_map]
  obtain ⟨la, lc, hlv, hlc, hla⟩ := own_len h1.row
  subst hlv
  obtain ⟨lb, hlb⟩ := hla (by omega)
  subst hlb
  refine ⟨lb, lc, by rw [hl], fun i hi => ?_⟩
  obtain ⟨g', c', e1, e2⟩ := own_cell h1.row (show i < g.SL.length by omega)
  cases e1
  refine ⟨g.SL[i].p, ?_, fun w' vx L hk hL hI hx => ?_⟩
  · rw [e2, List.getD_eq_getElem?_getD, pcells, List.getElem?_map, List.getElem?_map, List.getElem?_eq_getElem (by omega)]; rfl
  · have h1' := h1.kept hk
    have h6' := h6.trans (hk.mono h6.size)
    refine (h1'.fail_go (i := i) (by omega) vx L h6'.size hL hI fun _ k hk' hf => by have := hx k hk'; have := (h1.foot hf).1; omega).mono fun e w'' ⟨he, g', hp, hs, hc, hf⟩ => ?_
    exact ⟨he, Duo.turn h1' (h2.kept hk) h3 h5 h6' (h4.failAt i L hL) hs hc hf⟩
end
end Go.Proofs.YtlbacbcenejngaaGreatDoor
