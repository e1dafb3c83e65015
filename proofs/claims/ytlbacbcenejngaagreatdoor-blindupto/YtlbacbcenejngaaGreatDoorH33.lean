/-
  Kg Fa Fb Fd Ua Vu Ub Ba Bb Bc
-/
import Derived.Test.YtlbacbcenejngaaGreatDoorH32
import Derived.BigQuiet
namespace Go.Proofs.YtlbacbcenejngaaGreatDoor
open Go.RowKit
theorem filled_size (x : Int) (c : UInt8) : (filled x c).size ≤ 40 := by
  unfold filled
  rw [bs_size, List.length_replicate]
  have := pkI_lt x (n := 41) (by decide)
  omega
theorem reqB_size (o : Stq) (v : ByteArray) (ho : o.s.size ≤ 4194304) (hv : v.size ≤ 1000) : (reqB o v).size ≤ 4194304 := by
  have h1 := tokOf_size o.tok
  have h2 := tokOf_size o.a
  have h3 := pathOf_size o.a
  have h4 := pathOf_size o.b
  have hb : ∀ l, (bs l).size = l.length := bs_size
  unfold reqB
  split
  · simp only [ByteArray.size_append, txt_size, hb, List.length_singleton]; omega
  · split
    · simp only [ByteArray.size_append, txt_size, hb, List.length_singleton]; omega
    · split
      · simp only [ByteArray.size_append, txt_size, hb, List.length_singleton]; omega
      · split
        · simp only [ByteArray.size_append, txt_size, hb, List.length_singleton, ByteArray.size_extract]; omega
        · split
          · simp only [ByteArray.size_append, txt_size, hb, List.length_singleton, ByteArray.size_extract]; omega
          · split
            · simp only [ByteArray.size_append, txt_size, hb, List.length_singleton]; omega
            · exact ho
theorem info40 : (Tryz.prog.info? 40).map (·.size) = some 6 := by kernel_rfl
/-- Behind a request of a shop. -/
def shEnd (B : Nat) (w : World) (p vp : Nat) (g : VG) (lv : Value) (_V V' : Vlt) (a : ByteArray) (e : Ending) (w' : World) : Prop :=
  e = .returned (.string a) ∧ ∃ g', ShA B w' p vp g' lv V' ∧ Chg (Hft p vp g lv) w w' ∧ ∀ k, Hft p vp g' lv k → Hft p vp g lv k ∨ w.heap.size ≤ k
/-- A request of a step. -/
def reqS (o : Stq) (c : UInt8) : ByteArray := reqB o (filled o.b c)
set_option maxRecDepth 100000 in
set_option maxHeartbeats 2000000 in
theorem step_req_go (B : Nat) (w : World) (p vp : Nat) (g : VG) (lv : Value) (V : Vlt) (E : List ByteArray) (n : Nat) (o : Stq) (c : UInt8) (h : ShA B w p vp g lv V) (hN : V.Bnd E n) (ho : o.Fit) (h7 : o.kind ≠ 7) (hB : B ≤ w.heap.size) (hT : Table w) (hz : 0 < w.heap.size) :
    Calls Tryz.prog 12 #[.pointer (some ⟨p, 0, none⟩), .agg o.cells, .int .u8 (c.toNat : Int)] w (shEnd B w p vp g lv V (V.next (reqS o c)) (V.tell (reqS o c))) := by
  obtain ⟨w1, hw1⟩ : ∃ w1, w1 = w.alloc (.cells o.cells 40) := ⟨_, rfl⟩
  have hbx : w1.heap[w.heap.size]? = some (.cells o.cells 40 (0, 0)) := by rw [hw1]; exact heap_alloc_new _ _
  have HK1 := hide (show Kept w.heap.size w w1 by rw [hw1]; exact (Kept.refl _ _).alloc (Nat.le_refl _) _)
  have hz1 : w1.heap.size = w.heap.size + 1 := by rw [hw1]; simp
  have hck : w1.cell? ⟨w.heap.size, 0, none⟩ = some (.int .i64 o.kind) := by rw [cell_of_row _ _ _ _ _ _ hbx]; rfl
  have HS := hide h
  have HN := hide hN
  have HO := hide ho
  have HTB := hide (show ∀ W, Kept w.heap.size w W → Table W from fun W hW => hT.kept hW hz)
  have HSS := hide (show ∀ W : World, W.heap[p]? = w.heap[p]? → W.heap[w.heap.size]? = some (.cells o.cells 40 (0, 0)) → W.cell? ⟨p, 0, none⟩ = some (.pointer (some ⟨vp, 0, none⟩)) ∧ W.heap[w.heap.size]? = some (.cells o.cells 40 (0, 0)) ∧ W.cell? ⟨w.heap.size, 3, none⟩ = some (.int .i64 o.b) from fun W h1 h2 => ⟨by rw [cell_of_row _ _ _ _ _ _ (h1.trans h.at')]; rfl, h2, by rw [cell_of_row _ _ _ _ _ _ h2]; rfl⟩)
  have hpl := (h.foot (.inl rfl)).1
  have hfs := filled_size o.b c
  have hrs := reqB_size o (filled o.b c) ho.s (by omega)
  have HF := hide (fun W => filled_go o.b c W ho.b)
  have HR := hide (fun W => request_go o (filled o.b c) W ho (by omega))
  have HRS := hide (show reqS o c = reqB o (filled o.b c) from rfl)
  obtain ⟨fl, hfl⟩ : ∃ f, f = filled o.b c := ⟨_, rfl⟩
  rw [← hfl] at HF HR HRS hrs
  obtain ⟨rq, hrq⟩ : ∃ r, r = reqB o fl := ⟨_, rfl⟩
  rw [← hrq] at HR HRS hrs
  have HDO := hide (fun W (hW : VAt B W vp g V) hB' hT' hz' => do_go B W vp g V E n rq hW hN (by omega) hB' hT' hz')
  rw [unhide HRS]
  clear h hN ho hT hfl hrq HRS hfs
  go_enter Tryz.func12, Tryz.ntmps12
  go_upto_region 1 with fail
  rw [← hw1]
  clear hw1
  go_wp2_with fail
  clear hck
  refine wp_region_held_drew (S := fun W => W.cell? ⟨p, 0, none⟩ = some (.pointer (some ⟨vp, 0, none⟩)) ∧ W.heap[w.heap.size]? = some (.cells o.cells 40 (0, 0)) ∧ W.cell? ⟨w.heap.size, 3, none⟩ = some (.int .i64 o.b)) (by kernel_rfl) (unhide HSS w1.drew ((unhide HK1).block p hpl) hbx) (fun hHeld => ?_)
  refine wpAnyH_take (i := 0) (oi := { dst := some 35, op := Op.move (Operand.tmp 0), type := 26, pos := "keeps.go:117", after := #[], guard := none }) (v := .pointer (some ⟨p, 0, none⟩)) rfl (by kernel_rfl) (by kernel_rfl) (by kernel_rfl) (fun _ _ _ h => h) (Or.inl ⟨by kernel_rfl, fun W hW => by kernel_rfl⟩) hHeld ?_
  simp only [Act.put, List.setIfInBounds_toArray, List.set_cons_zero, List.set_cons_succ]
  refine wpAnyH_take (i := 1) (oi := { dst := some 36, op := Op.nilCheck (Operand.tmp 35), type := 0, pos := "keeps.go:117", after := #[{ on := 0, ground := Ground.data }], guard := none }) (v := .pointer (some ⟨p, 0, none⟩)) rfl (by kernel_rfl) (by kernel_rfl) (by kernel_rfl) (fun _ _ _ h => h) (Or.inl ⟨by kernel_rfl, fun W hW => by kernel_rfl⟩) hHeld ?_
  simp only [Act.put, List.setIfInBounds_toArray, List.set_cons_zero, List.set_cons_succ]
  refine wpAnyH_take (i := 2) (oi := { dst := some 37, op := Op.fieldAddr 35 (Operand.tmp 36) 0, type := 0, pos := "keeps.go:117", after := #[{ on := 1, ground := Ground.data }], guard := none }) (v := .pointer (some ⟨p, 0, none⟩)) rfl (by kernel_rfl) (by kernel_rfl) (by kernel_rfl) (fun _ _ _ h => h) (Or.inl ⟨by kernel_rfl, fun W hW => by kernel_rfl⟩) hHeld ?_
  simp only [Act.put, List.setIfInBounds_toArray, List.set_cons_zero, List.set_cons_succ]
  refine wpAnyH_take (i := 3) (oi := { dst := some 38, op := Op.load 31 (Operand.tmp 37), type := 31, pos := "keeps.go:117", after := #[{ on := 2, ground := Ground.data }], guard := none }) (v := .pointer (some ⟨vp, 0, none⟩)) rfl (by kernel_rfl) (by kernel_rfl) (by kernel_rfl) (fun _ _ _ h => h) (Or.inl ⟨by kernel_rfl, fun W hW => by simp [execOp, go_sem, hW.1]⟩) hHeld ?_
  simp only [Act.put, List.setIfInBounds_toArray, List.set_cons_zero, List.set_cons_succ]
  refine wpAnyH_take (i := 4) (oi := { dst := some 39, op := Op.load 40 (Operand.tmp 4), type := 40, pos := "keeps.go:117", after := #[], guard := none }) (v := .agg o.cells) rfl (by kernel_rfl) (by kernel_rfl) (by kernel_rfl) (fun _ _ _ h => h) (yieldsIf_load_mid (by kernel_rfl) 40 (.tmp 4) rfl w.heap.size 0 (by kernel_rfl) o.cells.toList _ (fun W hW => row_range hW.2.1) Tryz.underlying40 rfl (by rw [Array.length_toList]; exact info40)) hHeld ?_
  simp only [Act.put, List.setIfInBounds_toArray, List.set_cons_zero, List.set_cons_succ]
  refine wpAnyH_take (i := 5) (oi := { dst := some 40, op := Op.fieldAddr 40 (Operand.tmp 4) 3, type := 0, pos := "keeps.go:117", after := #[], guard := none }) (v := .pointer (some ⟨w.heap.size, 3, none⟩)) rfl (by kernel_rfl) (by kernel_rfl) (by kernel_rfl) (fun _ _ _ h => h) (Or.inl ⟨by kernel_rfl, fun W hW => by kernel_rfl⟩) hHeld ?_
  simp only [Act.put, List.setIfInBounds_toArray, List.set_cons_zero, List.set_cons_succ]
  refine wpAnyH_take (i := 6) (oi := { dst := some 41, op := Op.load 3 (Operand.tmp 40), type := 3, pos := "keeps.go:117", after := #[{ on := 5, ground := Ground.data }], guard := none }) (v := .int .i64 o.b) rfl (by kernel_rfl) (by kernel_rfl) (by kernel_rfl) (fun _ _ _ h => h) (Or.inl ⟨by kernel_rfl, fun W hW => by simp [execOp, go_sem, hW.2.2]⟩) hHeld ?_
  simp only [Act.put, List.setIfInBounds_toArray, List.set_cons_zero, List.set_cons_succ]
  refine wpAnyH_take (i := 7) (oi := { dst := some 42, op := Op.move (Operand.tmp 2), type := 5, pos := "keeps.go:117", after := #[], guard := none }) (v := .int .u8 (c.toNat : Int)) rfl (by kernel_rfl) (by kernel_rfl) (by kernel_rfl) (fun _ _ _ h => h) (Or.inl ⟨by kernel_rfl, fun W hW => by kernel_rfl⟩) hHeld ?_
  simp only [Act.put, List.setIfInBounds_toArray, List.set_cons_zero, List.set_cons_succ]
  refine wpAnyH_ready (rs := [8]) (by kernel_rfl) (by simp) ?_
  refine AllReadyH.cons (o := { dst := some 43, op := Op.call { callee := Callee.value (Operand.func 32), args := #[Operand.tmp 41, Operand.tmp 42], argTypes := #[3, 5] }, type := 9, pos := "keeps.go:117", after := #[{ on := 6, ground := Ground.data }, { on := 7, ground := Ground.data }], guard := none }) rfl (fun K hK => ?_) AllReadyH.nil
  refine ite_wanted ?_ ?_
  · kernel_rfl
  go_simp
  refine (unhide HF w1.drew).mono ?_
  rintro _ w2 ⟨rfl, hk⟩
  have HK2 := hide (show Kept w1.heap.size w1 w2 from ⟨hk.os, hk.output, hk.size, hk.block⟩)
  clear hk
  have hb2 := ((unhide HK2).block _ (show w.heap.size < w1.heap.size by omega)).trans hbx
  have hp2 := ((unhide HK2).block p (by omega)).trans ((unhide HK1).block p hpl)
  show K _ w2
  refine hK.out _ _ (unhide HSS w2 hp2 hb2) (fun hHeld8 => ?_)
  clear hK K
  try simp only [Act.put, List.setIfInBounds_toArray, List.set_cons_zero, List.set_cons_succ]
  refine wpAnyH_ready (rs := [9]) (by kernel_rfl) (by simp) ?_
  refine AllReadyH.cons (o := { dst := some 44, op := Op.call { callee := Callee.value (Operand.func 23), args := #[Operand.tmp 39, Operand.tmp 43], argTypes := #[40, 9] }, type := 9, pos := "keeps.go:117", after := #[{ on := 4, ground := Ground.data }, { on := 8, ground := Ground.data }, { on := 8, ground := Ground.chain }], guard := none }) rfl (fun K hK => ?_) AllReadyH.nil
  refine ite_wanted ?_ ?_
  · kernel_rfl
  go_simp
  refine (unhide HR w2).mono ?_
  rintro _ w3 ⟨rfl, hk⟩
  have HK3 := hide ((unhide HK2).trans (hk.mono (unhide HK2).size))
  clear hk
  have hb3 := ((unhide HK3).block _ (show w.heap.size < w1.heap.size by omega)).trans hbx
  have hp3 := ((unhide HK3).block p (by omega)).trans ((unhide HK1).block p hpl)
  have HKW := hide ((unhide HK1).trans ((unhide HK3).mono (by omega)))
  have HS3 := hide ((unhide HS).kept (unhide HKW))
  have hz3 := (unhide HKW).size
  show K _ w3
  refine hK.out _ _ (unhide HSS w3 hp3 hb3) (fun hHeld9 => ?_)
  clear hK K
  try simp only [Act.put, List.setIfInBounds_toArray, List.set_cons_zero, List.set_cons_succ]
  refine wpAnyH_ready (rs := [10]) (by kernel_rfl) (by simp) ?_
  refine AllReadyH.cons (o := { dst := some 45, op := Op.call { callee := Callee.value (Operand.func 22), args := #[Operand.tmp 38, Operand.tmp 44], argTypes := #[31, 9] }, type := 9, pos := "keeps.go:117", after := #[{ on := 3, ground := Ground.data }, { on := 9, ground := Ground.data }, { on := 9, ground := Ground.chain }], guard := none }) rfl (fun K hK => ?_) AllReadyH.nil
  refine ite_wanted ?_ ?_
  · kernel_rfl
  go_simp
  refine (unhide HDO w3 (unhide HS3).v (by omega) (unhide HTB w3 (unhide HKW)) (by omega)).mono ?_
  rintro _ w4 hde
  have hdid := (unhide HS3).did hde
  obtain ⟨rfl, g4, hs4, hc4, hf4⟩ := hdid
  have hch := hde.2
  have hb4 : w4.heap[w.heap.size]? = some (.cells o.cells 40 (0, 0)) := (hc4.block _ (Array.getElem?_eq_some_iff.1 hb3).1 (fun e => by have := ((unhide HS).foot e).1; omega)).trans hb3
  have hp4 : w4.heap[p]? = w.heap[p]? := by
    obtain ⟨g', _, hcv, _⟩ := hch
    exact (hcv.block p ((unhide HS3).foot (.inl rfl)).1 ((unhide HS3).out p (.inl rfl))).trans hp3
  have HE := hide (show shEnd B w p vp g lv V (V.next rq) (V.tell rq) (.returned (.string (V.tell rq))) w4 from ⟨rfl, g4, hs4, ((unhide HKW).chg.mono (S' := Hft p vp g lv) fun _ _ e => e.elim).trans hc4, fun k hk => (hf4 k hk).imp id fun e => by omega⟩)
  clear hde hs4 hc4 hf4 hch
  show K _ w4
  refine hK.out _ _ (unhide HSS w4 hp4 hb4) (fun hHeld10 => ?_)
  clear hK K
  try simp only [Act.put, List.setIfInBounds_toArray, List.set_cons_zero, List.set_cons_succ]
  refine wpAnyH_take (i := 11) (oi := { dst := some 6, op := Op.assign (Operand.tmp 45), type := 9, pos := "keeps.go:117", after := #[{ on := 10, ground := Ground.data }, { on := 10, ground := Ground.chain }, { on := 0, ground := Ground.phase }, { on := 1, ground := Ground.phase }, { on := 2, ground := Ground.phase }, { on := 3, ground := Ground.phase }, { on := 4, ground := Ground.phase }, { on := 5, ground := Ground.phase }, { on := 6, ground := Ground.phase }, { on := 7, ground := Ground.phase }, { on := 8, ground := Ground.phase }, { on := 9, ground := Ground.phase }, { on := 10, ground := Ground.phase }], guard := none }) (v := .string (V.tell rq)) rfl (by kernel_rfl) (by kernel_rfl) (by kernel_rfl) (fun _ _ _ h => h) (Or.inl ⟨by kernel_rfl, fun W hW => by kernel_rfl⟩) hHeld10 ?_
  simp only [Act.put, List.setIfInBounds_toArray, List.set_cons_zero, List.set_cons_succ]
  refine wpAnyH_done (by kernel_rfl) ?_ _
  go_wp2_with fail
  go_ret
  exact unhide HE
end Go.Proofs.YtlbacbcenejngaaGreatDoor
namespace Go.Proofs.YtlbacbcenejngaaGreatDoor
open Go.RowKit
theorem pathL_ok : ∀ k, k < 7 → isPa (pathL.getD k .empty) = true ∧ isPr (pathL.getD k .empty) = true ∧ ∀ j, j < 2 → isPr ((pathL.getD k .empty).extract 0 j) = true := by decide
theorem tokL_ok : ∀ k, k < 4 → isNm (tokL.getD k .empty) = true := by decide
theorem pathOf_ok (c : Int) : isPa (pathOf c) = true ∧ isPr (pathOf c) = true ∧ ∀ j, j < 2 → isPr ((pathOf c).extract 0 j) = true := pathL_ok _ (pkI_lt c (by decide))
theorem tokOf_ok (c : Int) : isNm (tokOf c) = true := tokL_ok _ (pkI_lt c (by decide))
end Go.Proofs.YtlbacbcenejngaaGreatDoor
namespace Go.Proofs.YtlbacbcenejngaaGreatDoor
open Go.RowKit
/-- A step that came in. -/
structure StqIn (w : World) (o : Stq) : Prop where
  fit : o.Fit
  isl : ISl w o.lv o.l
  len : o.l.length ≤ 1048576
  rng : ∀ j, j < o.l.length → i64 (o.l.getD j 0)
def stq0 : Stq := ⟨0, 0, 0, 0, .empty, .slice none 0 0, []⟩
/-- A script in memory. -/
structure ScrS (w : World) (v : Value) (l : List Stq) : Prop where
  val : ∃ a cap, v = .slice a l.length cap ∧ (0 < l.length → ∃ b o, a = some ⟨b, o, none⟩ ∧ b < w.heap.size ∧ ∀ i, i < l.length → w.rangeAt b (o + i * 6) (l.getD i stq0).cells.toList)
  each : ∀ i, i < l.length → StqIn w (l.getD i stq0)
  len : l.length ≤ 1048576
theorem range_kept {w w' : World} {b o n : Nat} {l : List Value} (h : w.rangeAt b o l) (hk : Kept n w w') (hb : b < n) : w'.rangeAt b o l := fun j u hu => ((hk.cell (p := ⟨b, o + j, none⟩) hb).trans (h j u hu))
theorem shop0_bnd (x : Int) : (shop0 x).Bnd [] 0 ∧ (shop0 x).Calm ∧ (shop0 x).sto.Rt := by
  have h4 := pkI_lt x (n := 4) (by decide)
  exact ⟨vlt0_bnd (by rw [List.length_replicate]; omega) (by decide) (fun k hk => List.eq_of_mem_replicate hk), vlt0_calm (by rw [List.length_replicate]; omega) (fun k hk => List.eq_of_mem_replicate hk), vlt0_rt⟩
end Go.Proofs.YtlbacbcenejngaaGreatDoor
namespace Go.Proofs.YtlbacbcenejngaaGreatDoor
open Go.RowKit
def Vlt.failAt (V : Vlt) (i : Nat) (L : List Int) : Vlt := { V with snks := V.snks.modify i fun k => k.fail L }
theorem mem_modify {α : Type} {f : α → α} {x : α} : ∀ {l : List α} {i : Nat}, x ∈ l.modify i f → x ∈ l ∨ ∃ y ∈ l, x = f y := by
  intro l
  induction l with
  | nil => intro i h; simp at h
  | cons a l ih =>
    intro i h
    cases i with
    | zero =>
      simp only [List.modify_zero_cons, List.mem_cons] at h
      rcases h with rfl | h
      · exact .inr ⟨a, .head _, rfl⟩
      · exact .inl (.tail _ h)
    | succ i =>
      simp only [List.modify_succ_cons, List.mem_cons] at h
      rcases h with rfl | h
      · exact .inl (.head _)
      · rcases ih h with h | ⟨y, hy, e⟩
        · exact .inl (.tail _ h)
        · exact .inr ⟨y, .tail _ hy, e⟩
theorem modify_mem {α : Type} {f : α → α} {x : α} : ∀ {l : List α} (i : Nat), x ∈ l → x ∈ l.modify i f ∨ f x ∈ l.modify i f := by
  intro l
  induction l with
  | nil => intro i h; cases h
  | cons a l ih =>
    intro i h
    cases i with
    | zero =>
      simp only [List.modify_zero_cons, List.mem_cons]
      rcases List.mem_cons.1 h with rfl | h
      · exact .inr (.inl rfl)
      · exact .inl (.inr h)
    | succ i =>
      simp only [List.modify_succ_cons, List.mem_cons]
      rcases List.mem_cons.1 h with rfl | h
      · exact .inl (.inl rfl)
      · rcases ih i h with h | h
        · exact .inl (.inr h)
        · exact .inr (.inr h)
theorem modify_set {α : Type} (f : α → α) : ∀ {l : List α} {i : Nat} (h : i < l.length), l.modify i f = l.set i (f l[i]) := by
  intro l
  induction l with
  | nil => intro i h; simp at h
  | cons a l ih =>
    intro i h
    cases i with
    | zero => rfl
    | succ i => simp only [List.modify_succ_cons, List.set_cons_succ, List.getElem_cons_succ]; rw [ih]
theorem Vlt.Ok.failAt {V : Vlt} {E : List ByteArray} (h : V.Ok E) (i : Nat) (L : List Int) : (V.failAt i L).Ok E := by
  refine ⟨h.chn, h.cnt, h.last, fun k hk => ?_, ?_, h.sto⟩
  · rcases mem_modify hk with hk | ⟨y, hy, rfl⟩
    · exact h.snk k hk
    · exact h.snk y hy
  · obtain ⟨k, hk, e⟩ := h.most
    rcases modify_mem (f := fun k : Snk => k.fail L) i hk with h1 | h1
    · exact ⟨k, h1, e⟩
    · exact ⟨_, h1, e⟩
theorem Vlt.Bnd.failAt {V : Vlt} {E : List ByteArray} {n : Nat} (h : V.Bnd E n) (i : Nat) (L : List Int) (hL : L.length ≤ 4294967296) : (V.failAt i L).Bnd E n := by
  refine ⟨h.ok.failAt i L, h.le, h.dsk, fun k hk => ?_, by show (V.snks.modify i _).length ≤ 4; rw [List.length_modify]; exact h.few, h.key⟩
  rcases mem_modify hk with hk | ⟨y, hy, rfl⟩
  · exact h.snk k hk
  · obtain ⟨⟨m, h1, h2, h3⟩, h4, h5⟩ := h.snk y hy
    exact ⟨⟨m, h1, h2, by show (0 : Int) ≤ (m : Int) + (n : Int); omega⟩, Int.le_refl _, hL⟩
theorem Vlt.Bnd.next' {V : Vlt} {E : List ByteArray} {n : Nat} (h : V.Bnd E n) (hn : n + 1 ≤ 4194304) (s : ByteArray) : ∃ E', (V.next s).Bnd E' (n + 1) := by
  cases hl : (V.lay s).2 with
  | true => exact ⟨_, (h.next hn s).1 hl⟩
  | false => exact ⟨_, (h.next hn s).2 hl⟩
theorem ShA.failed {B : Nat} {w w' : World} {p vp : Nat} {g : VG} {lv : Value} {V : Vlt} (h : ShA B w p vp g lv V) {i : Nat} (hi : i < g.SL.length) {v' : Value} {L : List Int} (hP : SAt B 81 w' g.SL[i].p v' (g.SL[i].x.fail L)) (hu : Upd g.SL[i].p g.SL[i].v v' w w') :
    ∃ g', g'.SL.map (·.p) = g.SL.map (·.p) ∧ ShA B w' p vp g' lv (V.failAt i L) ∧ Chg (Hft p vp g lv) w w' ∧ ∀ k, Hft p vp g' lv k → Hft p vp g lv k ∨ w.heap.size ≤ k := by
  obtain ⟨hl, hc, hf⟩ := h.v.log.upd hi hP hu
  obtain ⟨hv, hcv, hfv, hst⟩ := h.v.setL hl hc hf
  have hsx : (g.SL.set i ⟨g.SL[i].p, v', g.SL[i].x.fail L⟩).map (·.x) = (V.failAt i L).snks := by
    show _ = V.snks.modify i fun k => k.fail L
    rw [← h.v.snk, List.map_set, modify_set _ (by rw [List.length_map]; exact hi), List.getElem_map]
  have hsp : (g.SL.set i ⟨g.SL[i].p, v', g.SL[i].x.fail L⟩).map (·.p) = g.SL.map (·.p) := by
    rw [List.map_set]
    apply List.ext_getElem?
    intro j
    by_cases e : i = j
    · subst e
      rw [List.getElem?_set_self (by simpa using hi), List.getElem?_map, List.getElem?_eq_getElem hi]
      rfl
    · rw [List.getElem?_set_ne e]
  have hlen : (g.SL.set i ⟨g.SL[i].p, v', g.SL[i].x.fail L⟩).length = g.SL.length := List.length_set
  refine ⟨{ g with SL := g.SL.set i ⟨g.SL[i].p, v', g.SL[i].x.fail L⟩ }, hsp, ⟨?_, ?_, ?_, h.ge, fun k hk hk' => ?_⟩, hcv.mono fun k _ e => .inr (.inr e), fun k hk => ?_⟩
  · exact (hcv.block _ (h.foot (.inl rfl)).1 (h.out _ (.inl rfl))).trans h.at'
  · show w'.ownsRow B 41 1 lv (g.SL.set i _).length (pcells ((g.SL.set i _).map (·.p)))
    rw [hsp, hlen]
    exact own_blocks h.row fun k hk => hcv.block k (h.foot (.inr (.inl hk))).1 (h.out k (.inr hk))
  · have e : V.failAt i L = { V with snks := (g.SL.set i ⟨g.SL[i].p, v', g.SL[i].x.fail L⟩).map (·.x), cnt := V.cnt, last := V.last } := by rw [hsx]; rfl
    rw [e]
    exact hv
  · rcases hfv k hk' with h1 | h1
    · exact h.out k hk h1
    · have : k < w.heap.size := (h.foot (by rcases hk with rfl | hk; exact .inl rfl; exact .inr (.inl hk))).1
      omega
  · rcases hk with hk | hk | hk
    · exact .inl (.inl hk)
    · exact .inl (.inr (.inl hk))
    · exact (hfv k hk).imp (fun e => .inr (.inr e)) id
theorem ShA.fail_go {B : Nat} {w : World} {p vp : Nat} {g : VG} {lv : Value} {V : Vlt} (h : ShA B w p vp g lv V) {i : Nat} (hi : i < g.SL.length) (vx : Value) (L : List Int) (hB : B ≤ w.heap.size) (hL : L.length ≤ 4294967296) (hI : ISl w vx L) (hne : 0 < L.length → ∀ b, vx.ownBlock = some b → ¬ Hft p vp g lv b) :
    Calls Tryz.prog 19 #[.pointer (some ⟨g.SL[i].p, 0, none⟩), vx] w fun e w' => e = .returned (.tuple #[]) ∧ ∃ g', g'.SL.map (·.p) = g.SL.map (·.p) ∧ ShA B w' p vp g' lv (V.failAt i L) ∧ Chg (Hft p vp g lv) w w' ∧ ∀ k, Hft p vp g' lv k → Hft p vp g lv k ∨ w.heap.size ≤ k := by
  refine (Go.Proofs.YtlbacbcenejngaaGreatDoor.fail_go B w g.SL[i].p g.SL[i].v g.SL[i].x vx L (h.v.log.snk.each _ (List.getElem_mem hi)).1 hB hL hI fun hp e => hne hp _ e (.inr (.inr (.inr (.inr (.inr (.inl (.inr (.inr ⟨_, List.getElem_mem hi, .inl rfl⟩))))))))).mono fun e w' ⟨he, v', hP, hu⟩ => ?_
  exact ⟨he, h.failed hi hP hu⟩
theorem VAt.knd {B : Nat} {w : World} {vp : Nat} {g : VG} {V : Vlt} (h : VAt B w vp g V) {k : Nat} (hk : Vft vp g k) : ∃ n ∈ [79, 144, 118, 150, 128, 42, 82, 4, 169, 236, 238, 0], knd w k = some n := by
  rcases hk with rfl | rfl | hk | hk | hk
  · exact ⟨79, by decide, (show TyAt w _ 78 from ⟨_, h.at'⟩).knd⟩
  · exact ⟨144, by decide, (show TyAt w _ 143 from ⟨_, h.jat⟩).knd⟩
  · obtain ⟨n, hn, e⟩ := h.dsk.knd hk
    refine ⟨n, ?_, e⟩
    simp at hn ⊢; omega
  · obtain ⟨n, hn, e⟩ := h.log.knd hk
    refine ⟨n, ?_, e⟩
    simp at hn ⊢; omega
  · obtain ⟨n, hn, e⟩ := h.sto.knd hk
    refine ⟨n, ?_, e⟩
    simp at hn ⊢; omega
theorem ShA.no30 {B : Nat} {w : World} {p vp : Nat} {g : VG} {lv : Value} {V : Vlt} (h : ShA B w p vp g lv V) {k : Nat} (hk : knd w k = some 30) : ¬ Hft p vp g lv k := by
  intro hf
  rcases hf with rfl | hf | hf
  · have := (show TyAt w k 35 from ⟨_, h.at'⟩).knd
    rw [hk] at this; cases this
  · have := (show TyAt w k 41 from own_ty h.row hf).knd
    rw [hk] at this; cases this
  · obtain ⟨n, hn, e⟩ := h.v.knd hf
    rw [hk] at e; cases e; simp at hn
theorem keep30 {B : Nat} {w w' : World} {p vp : Nat} {g : VG} {lv : Value} {V : Vlt} (h : ShA B w p vp g lv V) (hc : Chg (Hft p vp g lv) w w') (k : Nat) (hk : knd w k = some 30) : w'.heap[k]? = w.heap[k]? := hc.block k (knd_lt hk) (h.no30 hk)
/-- Two shops. -/
def Duo (w0 : World) (p vp : Nat) (lv : Value) (A : Vlt) (n : Nat) (p2 vp2 : Nat) (lv2 : Value) (C : Vlt) (m : Nat) (w : World) : Prop :=
  ∃ g g2 E E2, ShA w0.heap.size w p vp g lv A ∧ ShA w0.heap.size w p2 vp2 g2 lv2 C ∧ (∀ k, Hft p vp g lv k → ¬ Hft p2 vp2 g2 lv2 k) ∧ A.Bnd E n ∧ C.Bnd E2 m ∧ Kept w0.heap.size w0 w
section
variable {w0 : World} {p vp : Nat} {lv : Value} {A : Vlt} {n : Nat} {p2 vp2 : Nat} {lv2 : Value} {C : Vlt} {m : Nat} {w w' : World}
theorem Duo.symm (h : Duo w0 p vp lv A n p2 vp2 lv2 C m w) : Duo w0 p2 vp2 lv2 C m p vp lv A n w := by
  obtain ⟨g, g2, E, E2, h1, h2, h3, h4, h5, h6⟩ := h
  exact ⟨g2, g, E2, E, h2, h1, fun k a b => h3 k b a, h5, h4, h6⟩
theorem Duo.kept (h : Duo w0 p vp lv A n p2 vp2 lv2 C m w) (hk : Kept w.heap.size w w') : Duo w0 p vp lv A n p2 vp2 lv2 C m w' := by
  obtain ⟨g, g2, E, E2, h1, h2, h3, h4, h5, h6⟩ := h
  exact ⟨g, g2, E, E2, h1.kept hk, h2.kept hk, h3, h4, h5, h6.trans (hk.mono h6.size)⟩
theorem Duo.l (h : Duo w0 p vp lv A n p2 vp2 lv2 C m w) : w.cell? ⟨p, 2, none⟩ = some lv := by
  obtain ⟨g, g2, E, E2, h1, _⟩ := h
  rw [cell_of_row _ _ _ _ _ _ h1.at']; rfl
theorem Duo.k0 (h : Duo w0 p vp lv A n p2 vp2 lv2 C m w) : Kept w0.heap.size w0 w := by
  obtain ⟨g, g2, E, E2, _, _, _, _, _, h6⟩ := h
  exact h6
/-- The first has changed. -/
theorem Duo.turn {A' : Vlt} {n' : Nat} {g g2 g' : VG} {E E2 : List ByteArray} (h1 : ShA w0.heap.size w p vp g lv A) (h2 : ShA w0.heap.size w p2 vp2 g2 lv2 C) (h3 : ∀ k, Hft p vp g lv k → ¬ Hft p2 vp2 g2 lv2 k) (h5 : C.Bnd E2 m) (h6 : Kept w0.heap.size w0 w) (hb : A'.Bnd E n') (hs : ShA w0.heap.size w' p vp g' lv A') (hc : Chg (Hft p vp g lv) w w') (hf : ∀ k, Hft p vp g' lv k → Hft p vp g lv k ∨ w.heap.size ≤ k) : Duo w0 p vp lv A' n' p2 vp2 lv2 C m w' :=
  ⟨g', g2, E, E2, hs, h2.chg hc fun k hk e => h3 k e hk, fun k a b => by
    rcases hf k a with h | h
    · exact h3 k h b
    · have := (h2.foot b).1; omega, hb, h5, h6.trans (hc.keptB h6.size fun k hk hs => by have := (h1.foot hs).2; omega)⟩
end
end Go.Proofs.YtlbacbcenejngaaGreatDoor
namespace Go.Proofs.YtlbacbcenejngaaGreatDoor
open Go.RowKit
theorem splice_all (L : List Int) : splice (List.replicate L.length (Value.int .i64 0)) 0 (icells L) = icells L := by
  simp [splice, icells]
theorem isl_row {w : World} {b : Nat} {L : List Int} (h : w.heap[b]? = some (.cells (icells L).toArray 3 (0, 0))) : ISl w (.slice (some ⟨b, 0, none⟩) L.length L.length) L := by
  rcases Nat.eq_zero_or_pos L.length with h0 | h0
  · obtain rfl := List.eq_nil_of_length_eq_zero h0
    exact .inl ⟨rfl, .inr ⟨_, _, rfl⟩⟩
  · refine .inr ⟨b, 0, L.length, h0, rfl, Nat.le_refl _, (Array.getElem?_eq_some_iff.1 h).1, fun j hj => ?_⟩
    rw [Nat.zero_add, cell_of_row _ _ _ _ _ _ h, List.getElem?_toArray, icells, List.getElem?_map, List.getElem?_eq_getElem hj, List.getD_eq_getElem?_getD, List.getElem?_eq_getElem hj]
    rfl
theorem index33 (b i n cap : Nat) (h : i < n) (W : World) : (Instr.indexAt 33 (.slice (some ⟨b, 0, none⟩) n cap) (.int .i64 (i : Int))).run Tryz.prog W = .ok (.pointer (some ⟨b, i, none⟩)) W := by
  have hu := Tryz.underlying33
  have h1 : (i : Int) < (n : Int) := by omega
  have h2 : (0 : Int) ≤ (i : Int) := by omega
  simp [Instr.indexAt, go_sem, h2]
  omega
theorem yieldsIf_index {ops : Array Oper} {S : World → Prop} {op : Oper} {a : Act} (hw : Region.wanted op (yielded ops a.tmps) = true) (t : TypeId) (x y : Operand) (ho : op.op = .indexAddr t x y) {vx vy v : Value}
    (hr : ∀ W, (Instr.indexAt t vx vy).run Tryz.prog W = .ok v W) (hx : a.eval x = vx) (hy : a.eval y = vy) : YieldsIf Tryz.prog ops S op v a :=
  .inl ⟨hw, fun W _ => by
    unfold execOp
    simp only [ho, hx, hy, Sem.run_bind, hr W, Result.andThen_ok, Sem.run_pure]⟩
set_option maxRecDepth 100000 in
set_option maxHeartbeats 2000000 in
theorem step_fail_go (B : Nat) (w : World) (p vp : Nat) (g : VG) (lv : Value) (V : Vlt) (E : List ByteArray) (n : Nat) (o : Stq) (c : UInt8) (h : ShA B w p vp g lv V) (hN : V.Bnd E n) (ho : o.Fit) (hI : ISl w o.lv o.l) (hL : o.l.length ≤ 1048576) (h7 : o.kind = 7) (hB : B ≤ w.heap.size) :
    Calls Tryz.prog 12 #[.pointer (some ⟨p, 0, none⟩), .agg o.cells, .int .u8 (c.toNat : Int)] w (shEnd B w p vp g lv V (V.failAt (pkI o.a V.snks.length) o.l) (bs [0])) := by
  obtain ⟨w1, hw1⟩ : ∃ w1, w1 = w.alloc (.cells o.cells 40) := ⟨_, rfl⟩
  have hbx : w1.heap[w.heap.size]? = some (.cells o.cells 40 (0, 0)) := by rw [hw1]; exact heap_alloc_new _ _
  have HK1 := hide (show Kept w.heap.size w w1 by rw [hw1]; exact (Kept.refl _ _).alloc (Nat.le_refl _) _)
  have hz1 : w1.heap.size = w.heap.size + 1 := by rw [hw1]; simp
  have hck : w1.cell? ⟨w.heap.size, 0, none⟩ = some (.int .i64 o.kind) := by rw [cell_of_row _ _ _ _ _ _ hbx]; rfl
  have hcl : w1.cell? ⟨w.heap.size, 5, none⟩ = some o.lv := by rw [cell_of_row _ _ _ _ _ _ hbx]; rfl
  have hs0 : 0 < V.snks.length := by
    obtain ⟨k, hk, _⟩ := hN.ok.most
    exact List.length_pos_iff.2 fun e => by rw [e] at hk; cases hk
  have hs4 := hN.few
  have hl : g.SL.length = V.snks.length := by rw [← h.v.snk, List.length_map]
  have hrow := h.row
  obtain ⟨la, lc, hlv, hlc, hla⟩ := own_len h.row
  subst hlv
  obtain ⟨lb, hlb⟩ := hla (by omega)
  subst hlb
  have hi := pkI_lt o.a hs0
  obtain ⟨i, hi0⟩ : ∃ i, i = pkI o.a V.snks.length := ⟨_, rfl⟩
  have HPK := hide (fun W => pickE_go o.a V.snks.length W ho.a hs0 (by omega))
  rw [← hi0] at hi HPK ⊢
  clear hi0
  have hiL : i < g.SL.length := by omega
  obtain ⟨g', c', e1, e2⟩ := own_cell h.row hiL
  cases e1
  have hq : w.cell? ⟨lb, i, none⟩ = some (.pointer (some ⟨g.SL[i].p, 0, none⟩)) := by
    rw [e2, List.getD_eq_getElem?_getD, pcells, List.getElem?_map, List.getElem?_map, List.getElem?_eq_getElem hiL]; rfl
  have hlbw : lb < w.heap.size := (h.foot (.inr (.inl rfl))).1
  have hpl := (h.foot (.inl rfl)).1
  have HS := hide h
  have HQ := hide (show (pcells (g.SL.map (·.p))).getD i undef = .pointer (some ⟨g.SL[i].p, 0, none⟩) by rw [List.getD_eq_getElem?_getD, pcells, List.getElem?_map, List.getElem?_map, List.getElem?_eq_getElem hiL]; rfl)
  obtain ⟨q, hq0⟩ : ∃ q, q = g.SL[i].p := ⟨_, rfl⟩
  have HFL := hide (fun W vx (hW : ShA B W p vp g (.slice (some ⟨lb, 0, none⟩) g.SL.length lc) V) hB' hI' hne => hW.fail_go hiL vx o.l hB' (by omega) hI' hne)
  rw [← hq0] at hq HFL HQ
  clear hq0
  have HSS := hide (show ∀ W : World, W.heap[p]? = w.heap[p]? → W.heap[lb]? = w.heap[lb]? → W.heap[w.heap.size]? = some (.cells o.cells 40 (0, 0)) → W.cell? ⟨p, 2, none⟩ = some (.slice (some ⟨lb, 0, none⟩) g.SL.length lc) ∧ W.cell? ⟨w.heap.size, 2, none⟩ = some (.int .i64 o.a) ∧ W.cell? ⟨lb, i, none⟩ = some (.pointer (some ⟨q, 0, none⟩)) from fun W h1 h2 h3 => ⟨by rw [cell_of_row _ _ _ _ _ _ (h1.trans h.at')]; rfl, by rw [cell_of_row _ _ _ _ _ _ h3]; rfl, (World.cell?_of_block h2).trans hq⟩)
  obtain ⟨a, cap, hov, hS⟩ := hI.parts
  rw [hov] at hcl
  have hmk := make_ints o.l.length (o.l.length : Int) rfl (by omega)
  have hpos : ∀ O, 0 < (icells o.l).length → (some ⟨w1.heap.size, 0, none⟩ : Option Addr) = some ⟨w1.heap.size, 0, none⟩ ∧ ∃ ad, a = some ad ∧ ∀ j v, (icells o.l)[j]? = some v → (w1.alloc O).cell? (ad.add j) = some v := by
    intro O hp
    obtain ⟨b, of, ha, hb, hs⟩ := hS (by simpa [icells] using hp)
    refine ⟨rfl, _, ha, fun j v hv => ?_⟩
    rw [add_addr]
    rw [icells, List.getElem?_map] at hv
    obtain ⟨s, hs1, rfl⟩ := Option.map_eq_some_iff.1 hv
    have hj := (List.getElem?_eq_some_iff.1 hs1).1
    have := hs j hj
    rw [List.getD_eq_getElem?_getD, hs1] at this
    rw [World.cell?_alloc_lt _ _ _ (by show b < w1.heap.size; omega), (unhide HK1).cell (p := ⟨b, of + j, none⟩) hb]
    exact this
  have HP := hide hpos
  have HL := hide (splice_all o.l)
  have HI1 := hide (icells_one o.l)
  have hln : (icells o.l).length = o.l.length := by simp [icells]
  rw [← hl] at HPK
  clear h hN ho hI hS hpos hrow e2 hov hl hla hs0 hs4 hi hlc
  generalize hn : o.l.length = m at *
  have hlt1 : w.heap.size < w1.heap.size := by omega
  have HZ1 := hide hz1
  clear hz1
  go_enter Tryz.func12, Tryz.ntmps12
  go_upto_region 1 with fail
  rw [← hw1]
  clear hw1
  have h7I : (o.kind == 7) = true := by simpa using h7
  go_upto_region 4 with (refine wpList_copy_splice rfl (.tmp 15) (.tmp 17) 38 38 rfl 3 Tryz.underlying38 info3s (some ⟨w1.heap.size, 0, none⟩) a m m m cap rfl rfl w1.heap.size 0 (List.replicate m (Value.int .i64 0)) 3 (heap_alloc_new _ _) (icells o.l) (by rw [hln]; exact (Nat.min_self _).symm) (fun h => unhide HP _ h) (by simp [icells]; omega) (unhide HI1) w1.heap.size w1 ((Below.refl _ _).alloc (Nat.le_refl _) _) (Nat.le_refl _) ?_; intro wy hw2 hb2)
  have HK2 := hide (show Kept w1.heap.size w1 wy from .of hb2)
  have HIS := hide (isl_row (L := o.l) (show wy.heap[w1.heap.size]? = some (.cells (icells o.l).toArray 3 (0, 0)) by rw [← unhide HL]; exact hw2))
  clear hw2 hb2 hmk hcl hck HP HL HI1 hln
  have HKW := hide ((unhide HK1).trans ((unhide HK2).mono (Nat.le_of_lt hlt1)))
  have hby := ((unhide HK2).block _ hlt1).trans hbx
  have hpy := (unhide HKW).block p hpl
  have hly := (unhide HKW).block lb hlbw
  have hlyz : w1.heap.size ≤ wy.heap.size := (unhide HK2).size
  have HSY := hide ((unhide HS).kept (unhide HKW))
  rw [hn] at HIS
  simp only [Act.put, List.setIfInBounds_toArray, List.set_cons_zero, List.set_cons_succ]
  refine wp_region_held_drew (S := fun W => W.cell? ⟨p, 2, none⟩ = some (.slice (some ⟨lb, 0, none⟩) g.SL.length lc) ∧ W.cell? ⟨w.heap.size, 2, none⟩ = some (.int .i64 o.a) ∧ W.cell? ⟨lb, i, none⟩ = some (.pointer (some ⟨q, 0, none⟩))) (by kernel_rfl) (unhide HSS wy.drew hpy hly hby) (fun hHeld => ?_)
  refine wpAnyH_take (i := 0) (oi := { dst := some 19, op := Op.move (Operand.tmp 0), type := 26, pos := "keeps.go:114", after := #[], guard := none }) (v := .pointer (some ⟨p, 0, none⟩)) rfl (by kernel_rfl) (by kernel_rfl) (by kernel_rfl) (fun _ _ _ h => h) (Or.inl ⟨by kernel_rfl, fun W hW => by kernel_rfl⟩) hHeld ?_
  simp only [Act.put, List.setIfInBounds_toArray, List.set_cons_zero, List.set_cons_succ]
  refine wpAnyH_take (i := 1) (oi := { dst := some 20, op := Op.nilCheck (Operand.tmp 19), type := 0, pos := "keeps.go:114", after := #[{ on := 0, ground := Ground.data }], guard := none }) (v := .pointer (some ⟨p, 0, none⟩)) rfl (by kernel_rfl) (by kernel_rfl) (by kernel_rfl) (fun _ _ _ h => h) (Or.inl ⟨by kernel_rfl, fun W hW => by kernel_rfl⟩) hHeld ?_
  simp only [Act.put, List.setIfInBounds_toArray, List.set_cons_zero, List.set_cons_succ]
  refine wpAnyH_take (i := 2) (oi := { dst := some 21, op := Op.fieldAddr 35 (Operand.tmp 20) 2, type := 0, pos := "keeps.go:114", after := #[{ on := 1, ground := Ground.data }], guard := none }) (v := .pointer (some ⟨p, 2, none⟩)) rfl (by kernel_rfl) (by kernel_rfl) (by kernel_rfl) (fun _ _ _ h => h) (Or.inl ⟨by kernel_rfl, fun W hW => by kernel_rfl⟩) hHeld ?_
  simp only [Act.put, List.setIfInBounds_toArray, List.set_cons_zero, List.set_cons_succ]
  refine wpAnyH_take (i := 3) (oi := { dst := some 22, op := Op.load 33 (Operand.tmp 21), type := 33, pos := "keeps.go:114", after := #[{ on := 2, ground := Ground.data }], guard := none }) (v := .slice (some ⟨lb, 0, none⟩) g.SL.length lc) rfl (by kernel_rfl) (by kernel_rfl) (by kernel_rfl) (fun _ _ _ h => h) (Or.inl ⟨by kernel_rfl, fun W hW => by simp [execOp, go_sem, hW.1]⟩) hHeld ?_
  simp only [Act.put, List.setIfInBounds_toArray, List.set_cons_zero, List.set_cons_succ]
  refine wpAnyH_take (i := 4) (oi := { dst := some 23, op := Op.fieldAddr 40 (Operand.tmp 4) 2, type := 0, pos := "keeps.go:114", after := #[], guard := none }) (v := .pointer (some ⟨w.heap.size, 2, none⟩)) rfl (by kernel_rfl) (by kernel_rfl) (by kernel_rfl) (fun _ _ _ h => h) (Or.inl ⟨by kernel_rfl, fun W hW => by kernel_rfl⟩) hHeld ?_
  simp only [Act.put, List.setIfInBounds_toArray, List.set_cons_zero, List.set_cons_succ]
  refine wpAnyH_take (i := 5) (oi := { dst := some 24, op := Op.load 3 (Operand.tmp 23), type := 3, pos := "keeps.go:114", after := #[{ on := 4, ground := Ground.data }], guard := none }) (v := .int .i64 o.a) rfl (by kernel_rfl) (by kernel_rfl) (by kernel_rfl) (fun _ _ _ h => h) (Or.inl ⟨by kernel_rfl, fun W hW => by simp [execOp, go_sem, hW.2.1]⟩) hHeld ?_
  simp only [Act.put, List.setIfInBounds_toArray, List.set_cons_zero, List.set_cons_succ]
  refine wpAnyH_take (i := 6) (oi := { dst := some 25, op := Op.move (Operand.tmp 0), type := 26, pos := "keeps.go:114", after := #[], guard := none }) (v := .pointer (some ⟨p, 0, none⟩)) rfl (by kernel_rfl) (by kernel_rfl) (by kernel_rfl) (fun _ _ _ h => h) (Or.inl ⟨by kernel_rfl, fun W hW => by kernel_rfl⟩) hHeld ?_
  simp only [Act.put, List.setIfInBounds_toArray, List.set_cons_zero, List.set_cons_succ]
  refine wpAnyH_take (i := 7) (oi := { dst := some 26, op := Op.nilCheck (Operand.tmp 25), type := 0, pos := "keeps.go:114", after := #[{ on := 6, ground := Ground.data }], guard := none }) (v := .pointer (some ⟨p, 0, none⟩)) rfl (by kernel_rfl) (by kernel_rfl) (by kernel_rfl) (fun _ _ _ h => h) (Or.inl ⟨by kernel_rfl, fun W hW => by kernel_rfl⟩) hHeld ?_
  simp only [Act.put, List.setIfInBounds_toArray, List.set_cons_zero, List.set_cons_succ]
  refine wpAnyH_take (i := 8) (oi := { dst := some 27, op := Op.fieldAddr 35 (Operand.tmp 26) 2, type := 0, pos := "keeps.go:114", after := #[{ on := 7, ground := Ground.data }], guard := none }) (v := .pointer (some ⟨p, 2, none⟩)) rfl (by kernel_rfl) (by kernel_rfl) (by kernel_rfl) (fun _ _ _ h => h) (Or.inl ⟨by kernel_rfl, fun W hW => by kernel_rfl⟩) hHeld ?_
  simp only [Act.put, List.setIfInBounds_toArray, List.set_cons_zero, List.set_cons_succ]
  refine wpAnyH_take (i := 9) (oi := { dst := some 28, op := Op.load 33 (Operand.tmp 27), type := 33, pos := "keeps.go:114", after := #[{ on := 8, ground := Ground.data }], guard := none }) (v := .slice (some ⟨lb, 0, none⟩) g.SL.length lc) rfl (by kernel_rfl) (by kernel_rfl) (by kernel_rfl) (fun _ _ _ h => h) (Or.inl ⟨by kernel_rfl, fun W hW => by simp [execOp, go_sem, hW.1]⟩) hHeld ?_
  simp only [Act.put, List.setIfInBounds_toArray, List.set_cons_zero, List.set_cons_succ]
  refine wpAnyH_take (i := 10) (oi := { dst := some 29, op := Op.call { callee := Callee.builtin Builtin.len, args := #[Operand.tmp 28], argTypes := #[33] }, type := 3, pos := "keeps.go:114", after := #[{ on := 9, ground := Ground.data }], guard := none }) (v := .int .i64 (g.SL.length : Int)) rfl (by kernel_rfl) (by kernel_rfl) (by kernel_rfl) (fun _ _ _ h => h) (Or.inl ⟨by kernel_rfl, fun W hW => by go_simp⟩) hHeld ?_
  simp only [Act.put, List.setIfInBounds_toArray, List.set_cons_zero, List.set_cons_succ]
  refine wpAnyH_take (i := 14) (oi := { dst := some 33, op := Op.move (Operand.tmp 7), type := 38, pos := "keeps.go:114", after := #[], guard := none }) (v := .slice (some ⟨w1.heap.size, 0, none⟩) m m) rfl (by kernel_rfl) (by kernel_rfl) (by kernel_rfl) (fun _ _ _ h => h) (Or.inl ⟨by kernel_rfl, fun W hW => by kernel_rfl⟩) hHeld ?_
  simp only [Act.put, List.setIfInBounds_toArray, List.set_cons_zero, List.set_cons_succ]
  refine wpAnyH_ready (rs := [11]) (by kernel_rfl) (by simp) ?_
  refine AllReadyH.cons (o := { dst := some 30, op := Op.call { callee := Callee.value (Operand.func 15), args := #[Operand.tmp 24, Operand.tmp 29], argTypes := #[3, 3] }, type := 3, pos := "keeps.go:114", after := #[{ on := 5, ground := Ground.data }, { on := 10, ground := Ground.data }], guard := none }) rfl (fun K hK => ?_) AllReadyH.nil
  refine ite_wanted ?_ ?_
  · kernel_rfl
  go_simp
  refine (unhide HPK wy.drew).mono ?_
  rintro _ _ ⟨rfl, rfl⟩
  show K _ wy.drew
  refine hK.out _ _ (unhide HSS wy.drew hpy hly hby) (fun hHeld11 => ?_)
  clear hK K
  try simp only [Act.put, List.setIfInBounds_toArray, List.set_cons_zero, List.set_cons_succ]
  refine wpAnyH_take (i := 12) (oi := { dst := some 31, op := Op.indexAddr 33 (Operand.tmp 22) (Operand.tmp 30), type := 0, pos := "keeps.go:114", after := #[{ on := 3, ground := Ground.data }, { on := 11, ground := Ground.data }], guard := none }) (v := .pointer (some ⟨lb, i, none⟩)) rfl (by kernel_rfl) (by kernel_rfl) (by kernel_rfl) (fun _ _ _ h => h) (yieldsIf_index (by kernel_rfl) 33 (.tmp 22) (.tmp 30) rfl (index33 lb i g.SL.length lc hiL) (by kernel_rfl) (by kernel_rfl)) hHeld11 ?_
  simp only [Act.put, List.setIfInBounds_toArray, List.set_cons_zero, List.set_cons_succ]
  refine wpAnyH_take (i := 13) (oi := { dst := some 32, op := Op.load 41 (Operand.tmp 31), type := 41, pos := "keeps.go:114", after := #[{ on := 12, ground := Ground.data }], guard := none }) (v := .pointer (some ⟨q, 0, none⟩)) rfl (by kernel_rfl) (by kernel_rfl) (by kernel_rfl) (fun _ _ _ h => h) (Or.inl ⟨by kernel_rfl, fun W hW => by simp [execOp, go_sem, hW.2.2]⟩) hHeld11 ?_
  simp only [Act.put, List.setIfInBounds_toArray, List.set_cons_zero, List.set_cons_succ]
  refine wpAnyH_ready (rs := [15]) (by kernel_rfl) (by simp) ?_
  refine AllReadyH.cons (o := { dst := some 34, op := Op.call { callee := Callee.value (Operand.func 19), args := #[Operand.tmp 32, Operand.tmp 33], argTypes := #[41, 38] }, type := 0, pos := "keeps.go:114", after := #[{ on := 13, ground := Ground.data }, { on := 14, ground := Ground.data }, { on := 11, ground := Ground.chain }], guard := none }) rfl (fun K hK => ?_) AllReadyH.nil
  refine ite_wanted ?_ ?_
  · kernel_rfl
  go_simp
  refine (unhide HFL wy.drew _ ((unhide HSY).kept ((Kept.refl _ _).draws 1)) (by show B ≤ wy.heap.size; omega) ((unhide HIS).kept ((Kept.refl _ _).draws 1)) (fun _ b hb hf => by have hb' : w1.heap.size = b := (by simpa [Value.ownBlock] using hb); have h9 := ((unhide HS).foot hf).1; omega)).mono ?_
  rintro _ w4 ⟨rfl, g4, hp4, hs4', hc4, hf4⟩
  have hb4 : w4.heap[w.heap.size]? = some (.cells o.cells 40 (0, 0)) := (hc4.block _ (show w.heap.size < wy.heap.size by omega) (fun e => by have := ((unhide HS).foot e).1; omega)).trans hby
  have hS4 : w4.cell? ⟨p, 2, none⟩ = some (.slice (some ⟨lb, 0, none⟩) g.SL.length lc) ∧ w4.cell? ⟨w.heap.size, 2, none⟩ = some (.int .i64 o.a) ∧ w4.cell? ⟨lb, i, none⟩ = some (.pointer (some ⟨q, 0, none⟩)) := by
    refine ⟨by rw [cell_of_row _ _ _ _ _ _ hs4'.at']; rfl, by rw [cell_of_row _ _ _ _ _ _ hb4]; rfl, ?_⟩
    have hl4 : g4.SL.length = g.SL.length := by have := congrArg List.length hp4; simpa using this
    obtain ⟨g', c', e1, e2⟩ := own_cell hs4'.row (show i < g4.SL.length by omega)
    obtain rfl : lb = g' := by injection e1 with a1; injection a1 with a2; injection a2
    rw [e2, hp4, unhide HQ]
  have HE := hide (show shEnd B w p vp g (.slice (some ⟨lb, 0, none⟩) g.SL.length lc) V (V.failAt i o.l) (bs [0]) (.returned (.string (bs [0]))) w4 from ⟨rfl, g4, hs4', (((unhide HKW).trans ((Kept.refl _ _).draws 1)).chg.mono (S' := Hft p vp g (.slice (some ⟨lb, 0, none⟩) g.SL.length lc)) fun _ _ e => e.elim).trans hc4, fun k hk => (hf4 k hk).imp id fun e => by have e' : wy.heap.size ≤ k := e; omega⟩)
  clear hs4' hc4 hf4 hp4
  show K _ w4
  refine hK.out _ _ (hS4) (fun hHeld15 => ?_)
  clear hK K
  try simp only [Act.put, List.setIfInBounds_toArray, List.set_cons_zero, List.set_cons_succ]
  refine wpAnyH_done (by kernel_rfl) ?_ _
  go_wp2_with fail
  go_ret
  exact unhide HE
end Go.Proofs.YtlbacbcenejngaaGreatDoor
namespace Go.Proofs.YtlbacbcenejngaaGreatDoor
open Go.RowKit
theorem deed_err6 (S : Sto) (q : Rq) : (S.deed q).err ≠ 6 := by
  unfold Sto.deed
  split
  · unfold Sto.put; split <;> split <;> simp
  · unfold Sto.get; split <;> simp
  · unfold Sto.drop; split <;> simp
  · simp [Sto.list]
  · unfold Sto.grant; split
    · simp
    · split <;> simp
  · unfold Sto.revoke; split
    · simp
    · split <;> simp
theorem ask_err6 (V : Vlt) (s : ByteArray) : (V.ask s).2.err ≠ 6 := by
  unfold Vlt.ask
  split
  · rename_i q hq
    show (V.sto.ask q).err ≠ 6
    unfold Sto.ask
    split
    · simp
    · split
      · simp
      · exact deed_err6 _ _
  · simp
def Vlt.stepS (V : Vlt) (o : Stq) (c : UInt8) : Vlt := if o.kind = 7 then V.failAt (pkI o.a V.snks.length) o.l else V.next (reqS o c)
def Vlt.saysS (V : Vlt) (o : Stq) (c : UInt8) : ByteArray := if o.kind = 7 then bs [0] else V.tell (reqS o c)
theorem Vlt.Bnd.up {V : Vlt} {E : List ByteArray} {n : Nat} (h : V.Bnd E n) (hn : n + 1 ≤ 4194304) : V.Bnd E (n + 1) := by
  refine ⟨h.ok, ⟨hn, by have := h.le; omega⟩, h.dsk.up (by omega), fun k hk => ?_, h.few, h.key⟩
  obtain ⟨⟨m, h1, h2, h3⟩, h4, h5⟩ := h.snk k hk
  exact ⟨⟨m, h1, h2, by omega⟩, h4, h5⟩
theorem Vlt.Bnd.stepS {V : Vlt} {E : List ByteArray} {n : Nat} (h : V.Bnd E n) (hn : n + 1 ≤ 4194304) (o : Stq) (c : UInt8) (hl : o.l.length ≤ 1048576) : ∃ E', (V.stepS o c).Bnd E' (n + 1) := by
  unfold Vlt.stepS
  split
  · exact ⟨E, (h.failAt _ _ (by omega)).up hn⟩
  · exact h.next' hn _
/-- What is told, and how far the log goes. -/
theorem says_head (V : Vlt) (o : Stq) (c : UInt8) : ∃ b r, V.saysS o c = bs (b :: r) ∧ ((b = 6 ∨ o.kind = 7) → (V.stepS o c).cnt = V.cnt ∧ (V.stepS o c).last = V.last) ∧ (¬ (b = 6 ∨ o.kind = 7) → (V.stepS o c).cnt = V.cnt + 1) := by
  unfold Vlt.saysS Vlt.stepS
  by_cases h7 : o.kind = 7
  · rw [if_pos h7, if_pos h7]
    exact ⟨0, [], rfl, fun _ => ⟨rfl, rfl⟩, fun e => absurd (.inr h7) e⟩
  · rw [if_neg h7, if_neg h7]
    generalize reqS o c = s
    unfold Vlt.tell Vlt.next
    by_cases hl : (V.lay s).2 = true
    · rw [if_pos hl, if_pos hl]
      refine ⟨_, _, rfl, fun e => ?_, fun _ => rfl⟩
      rcases e with e | e
      · have h1 := ask_err6 V s
        have h2 := (ask_fit V s).2
        have := congrArg UInt8.toNat e
        simp only [UInt8.toNat_ofNat'] at this
        have h3 : (6 : UInt8).toNat = 6 := rfl
        omega
      · exact absurd e h7
    · rw [if_neg hl, if_neg hl]
      exact ⟨6, [], rfl, fun _ => ⟨rfl, rfl⟩, fun e => absurd (.inl rfl) e⟩
theorem mostOf_app : ∀ (l r : List Snk) (m : ByteArray), mostOf (l ++ r) m = mostOf r (mostOf l m)
  | [], r, m => rfl
  | k :: l, r, m => by rw [List.cons_append, mostOf, mostOf, mostOf_app l r]
theorem mostOf_next {l : List Snk} {k : Nat} (h : k < l.length) : mostOf (l.take (k + 1)) .empty = if (mostOf (l.take k) .empty).size < (l.getD k snk0).data.size then (l.getD k snk0).data else mostOf (l.take k) .empty := by
  rw [List.take_succ_eq_append_getElem h, mostOf_app, mostOf, mostOf, List.getD_eq_getElem?_getD, List.getElem?_eq_getElem h]
  rfl
theorem some1_pre {E : List ByteArray} {s : ByteArray} (h : Some1 E s) : s.size ≤ (logOf E).size ∧ (logOf E).extract 0 s.size = s := by
  obtain ⟨m, hm, rfl⟩ := h
  have := logOf_app (E.take m) (E.drop m)
  rw [List.take_append_drop] at this
  refine ⟨logOf_size_le E m, ?_⟩
  apply Go.WideShapes.bytes_inj
  rw [ext_list, this, show (logOf (E.take m) ++ logOf (E.drop m)).data.toList = (logOf (E.take m)).data.toList ++ (logOf (E.drop m)).data.toList by simp, List.drop_zero, List.take_left' (by rw [size_toList]; omega)]
end Go.Proofs.YtlbacbcenejngaaGreatDoor
namespace Go.Proofs.YtlbacbcenejngaaGreatDoor
open Go.RowKit
theorem step_any_go (B : Nat) (w : World) (p vp : Nat) (g : VG) (lv : Value) (V : Vlt) (E : List ByteArray) (n : Nat) (o : Stq) (c : UInt8) (h : ShA B w p vp g lv V) (hN : V.Bnd E n) (ho : StqIn w o) (hB : B ≤ w.heap.size) (hT : Table w) (hz : 0 < w.heap.size) :
    Calls Tryz.prog 12 #[.pointer (some ⟨p, 0, none⟩), .agg o.cells, .int .u8 (c.toNat : Int)] w (shEnd B w p vp g lv V (V.stepS o c) (V.saysS o c)) := by
  unfold Vlt.stepS Vlt.saysS
  by_cases h7 : o.kind = 7
  · rw [if_pos h7, if_pos h7]
    exact step_fail_go B w p vp g lv V E n o c h hN ho.fit ho.isl ho.len h7 hB
  · rw [if_neg h7, if_neg h7]
    exact step_req_go B w p vp g lv V E n o c h hN ho.fit h7 hB hT hz
theorem StqIn.kept {w w' : World} {o : Stq} (h : StqIn w o) (hk : Kept w.heap.size w w') : StqIn w' o := ⟨h.fit, h.isl.kept hk, h.len, h.rng⟩
/-- One shop. -/
def Uno (w0 : World) (p vp : Nat) (lv : Value) (A : Vlt) (n : Nat) (w : World) : Prop :=
  ∃ g E, ShA w0.heap.size w p vp g lv A ∧ A.Bnd E n ∧ Kept w0.heap.size w0 w
section
variable {w0 : World} {p vp : Nat} {lv : Value} {A : Vlt} {n : Nat} {w w' : World}
theorem Uno.kept (h : Uno w0 p vp lv A n w) (hk : Kept w.heap.size w w') : Uno w0 p vp lv A n w' := by
  obtain ⟨g, E, h1, h2, h3⟩ := h
  exact ⟨g, E, h1.kept hk, h2, h3.trans (hk.mono h3.size)⟩
theorem Uno.x (h : Uno w0 p vp lv A n w) : w.cell? ⟨p, 0, none⟩ = some (.pointer (some ⟨vp, 0, none⟩)) := by
  obtain ⟨g, E, h1, _⟩ := h
  rw [cell_of_row _ _ _ _ _ _ h1.at']; rfl
theorem Uno.l (h : Uno w0 p vp lv A n w) : w.cell? ⟨p, 2, none⟩ = some lv := by
  obtain ⟨g, E, h1, _⟩ := h
  rw [cell_of_row _ _ _ _ _ _ h1.at']; rfl
theorem Uno.k0 (h : Uno w0 p vp lv A n w) : Kept w0.heap.size w0 w := by
  obtain ⟨g, E, _, _, h3⟩ := h
  exact h3
theorem Uno.bnd (h : Uno w0 p vp lv A n w) : ∃ E, A.Bnd E n := by
  obtain ⟨g, E, _, h2, _⟩ := h
  exact ⟨E, h2⟩
theorem Uno.step (h : Uno w0 p vp lv A n w) (hn : n + 1 ≤ 4194304) (o : Stq) (c : UInt8) (ho : StqIn w0 o) (hT : Table w0) (hz : 0 < w0.heap.size) :
    Calls Tryz.prog 12 #[.pointer (some ⟨p, 0, none⟩), .agg o.cells, .int .u8 (c.toNat : Int)] w fun e w' => e = .returned (.string (A.saysS o c)) ∧ Uno w0 p vp lv (A.stepS o c) (n + 1) w' ∧ ∀ k, knd w k = some 30 → w'.heap[k]? = w.heap[k]? := by
  obtain ⟨g, E, h1, h2, h3⟩ := h
  refine (step_any_go _ w p vp g lv A E n o c h1 h2 (ho.kept h3) h3.size (hT.kept h3 hz) (by have := h3.size; omega)).mono fun e w' he => ?_
  obtain ⟨rfl, g', hs, hc, hf⟩ := he
  obtain ⟨E', hb⟩ := h2.stepS hn o c ho.len
  exact ⟨rfl, ⟨g', E', hs, hb, h3.trans (hc.keptB h3.size fun k hk hs => by have := (h1.foot hs).2; omega)⟩, keep30 h1 hc⟩
theorem Uno.head (h : Uno w0 p vp lv A n w) :
    Calls Tryz.prog 11 #[.pointer (some ⟨vp, 0, none⟩)] w fun e w' => e = .returned (.tuple #[.int .i64 (A.cnt : Int), .agg (brow A.last)]) ∧ Kept w.heap.size w w' := by
  obtain ⟨g, E, h1, h2, h3⟩ := h
  exact head_go _ w vp g A h1.v
theorem ShA.sinks {B : Nat} {g : VG} (h : ShA B w p vp g lv A) (h0 : 0 < A.snks.length) : ∃ b cap, lv = .slice (some ⟨b, 0, none⟩) A.snks.length cap ∧ ∀ i, i < A.snks.length → ∃ q, w.cell? ⟨b, i, none⟩ = some (.pointer (some ⟨q, 0, none⟩)) ∧
    Calls Tryz.prog 13 #[.pointer (some ⟨q, 0, none⟩)] w fun e w' => e = .returned (.string (A.snks.getD i snk0).data) ∧ w' = w := by
  have hl : g.SL.length = A.snks.length := by rw [← h.v.snk, List.length_map]
  obtain ⟨la, lc, hlv, hlc, hla⟩ := own_len h.row
  subst hlv
  obtain ⟨lb, hlb⟩ := hla (by omega)
  subst hlb
  refine ⟨lb, lc, by rw [hl], fun i hi => ?_⟩
  obtain ⟨g', c', e1, e2⟩ := own_cell h.row (show i < g.SL.length by omega)
  cases e1
  refine ⟨g.SL[i].p, ?_, ?_⟩
  · rw [e2, List.getD_eq_getElem?_getD, pcells, List.getElem?_map, List.getElem?_map, List.getElem?_eq_getElem (by omega)]; rfl
  · have := sink_read_go B w g.SL[i].p g.SL[i].v g.SL[i].x (h.v.log.snk.each _ (List.getElem_mem (by omega))).1
    rw [← h.v.snk, List.getD_eq_getElem?_getD, List.getElem?_map, List.getElem?_eq_getElem (by omega)]
    exact this
theorem Uno.sinks (h : Uno w0 p vp lv A n w) (h0 : 0 < A.snks.length) : ∃ b cap, lv = .slice (some ⟨b, 0, none⟩) A.snks.length cap ∧ ∀ i, i < A.snks.length → ∃ q, w.cell? ⟨b, i, none⟩ = some (.pointer (some ⟨q, 0, none⟩)) ∧
    Calls Tryz.prog 13 #[.pointer (some ⟨q, 0, none⟩)] w fun e w' => e = .returned (.string (A.snks.getD i snk0).data) ∧ w' = w := by
  obtain ⟨g, E, h1, h2, h3⟩ := h
  exact h1.sinks h0
end
theorem uno_opened (w : World) (x : Int) (hx : i64 x) (hT : Table w) (hz : 0 < w.heap.size) :
    Calls Tryz.prog 10 #[.int .i64 x] w fun e w' => ∃ p vp lv, e = .returned (.pointer (some ⟨p, 0, none⟩)) ∧ Uno w p vp lv (shop0 x) 0 w' :=
  (opened_go w.heap.size w x hx (Nat.le_refl _) hT hz).mono fun _e _w' ⟨p, vp, g, lv, he, hs, hk, _hf, _⟩ => ⟨p, vp, lv, he, g, [], hs, (shop0_bnd x).1, hk⟩
end Go.Proofs.YtlbacbcenejngaaGreatDoor
namespace Go.Proofs.YtlbacbcenejngaaGreatDoor
open Go.RowKit
inductive All2 {α β : Type} (R : α → β → Prop) : List α → List β → Prop where
  | nil : All2 R [] []
  | cons {a : α} {b : β} {l : List α} {m : List β} : R a b → All2 R l m → All2 R (a :: l) (b :: m)
section
variable {α β γ δ : Type} {R : α → β → Prop}
theorem All2.length {l : List α} {m : List β} (h : All2 R l m) : l.length = m.length := by
  induction h with
  | nil => rfl
  | cons _ _ ih => simp [ih]
theorem All2.map {Q : γ → δ → Prop} {f : α → γ} {g : β → δ} {l : List α} {m : List β} (h : All2 R l m) (hf : ∀ a b, R a b → Q (f a) (g b)) : All2 Q (l.map f) (m.map g) := by
  induction h with
  | nil => exact .nil
  | cons h1 _ ih => exact .cons (hf _ _ h1) ih
theorem All2.any {f : α → Bool} {g : β → Bool} {l : List α} {m : List β} (h : All2 R l m) (hf : ∀ a b, R a b → f a = g b) : l.any f = m.any g := by
  induction h with
  | nil => rfl
  | cons h1 _ ih => rw [List.any_cons, List.any_cons, hf _ _ h1, ih]
theorem All2.app {l l' : List α} {m m' : List β} (h : All2 R l m) (h' : All2 R l' m') : All2 R (l ++ l') (m ++ m') := by
  induction h with
  | nil => exact h'
  | cons h1 _ ih => exact .cons h1 ih
theorem All2.take {l : List α} {m : List β} (h : All2 R l m) : ∀ n, All2 R (l.take n) (m.take n) := by
  induction h with
  | nil => intro n; simp; exact .nil
  | cons h1 _ ih =>
    intro n
    cases n with
    | zero => exact .nil
    | succ n => exact .cons h1 (ih n)
theorem All2.modify {f : α → α} {g : β → β} {l : List α} {m : List β} (h : All2 R l m) (hf : ∀ a b, R a b → R (f a) (g b)) : ∀ i, All2 R (l.modify i f) (m.modify i g) := by
  induction h with
  | nil => intro i; simp; exact .nil
  | cons h1 h2 ih =>
    intro i
    cases i with
    | zero => simp only [List.modify_zero_cons]; exact .cons (hf _ _ h1) h2
    | succ i => simp only [List.modify_succ_cons]; exact .cons h1 (ih i)
theorem All2.get {l : List α} {m : List β} (h : All2 R l m) : ∀ i (h1 : i < l.length) (h2 : i < m.length), R l[i] m[i] := by
  induction h with
  | nil => intro i h1; simp at h1
  | cons h1 _ ih =>
    intro i
    cases i with
    | zero => intro _ _; exact h1
    | succ i => intro a b; exact ih i (by simpa using a) (by simpa using b)
theorem All2.mono {Q : α → β → Prop} {l : List α} {m : List β} (h : All2 R l m) (hf : ∀ a b, a ∈ l → b ∈ m → R a b → Q a b) : All2 Q l m := by
  induction h with
  | nil => exact .nil
  | cons h1 _ ih => exact .cons (hf _ _ (.head _) (.head _) h1) (ih fun a b ha hb => hf a b (.tail _ ha) (.tail _ hb))
end
/-- Bytes of which the length alone is left. -/
def dimB (s : ByteArray) : ByteArray := bs (List.replicate s.size 0)
theorem dimB_size (s : ByteArray) : (dimB s).size = s.size := by rw [dimB, bs_size, List.length_replicate]
theorem dimB_eq {s t : ByteArray} (h : s.size = t.size) : dimB s = dimB t := by rw [dimB, dimB, h]
def dimV (v : Nat × ByteArray) : Nat × ByteArray := (v.1, dimB v.2)
def Pth.dim (p : Pth) : Pth := ⟨p.next, p.vers.map dimV⟩
def Sto.dim (S : Sto) : Sto := { S with paths := S.paths.map fun p => (p.1, p.2.dim) }
def Rq.dim (q : Rq) : Rq := { q with value := dimB q.value, rest := dimB q.rest }
theorem lk_dim (S : Sto) (n : ByteArray) : lk n S.dim.paths = (lk n S.paths).map Pth.dim := lk_map Pth.dim n S.paths
theorem versOf_dim (S : Sto) (n : ByteArray) : S.dim.versOf n = (S.versOf n).map dimV := by
  unfold Sto.versOf
  rw [lk_dim]
  cases lk n S.paths <;> rfl
theorem names_dim (S : Sto) : S.dim.names = S.names := by
  unfold Sto.names
  rw [show S.dim.paths.map (fun p => p.1.data.toList) = S.paths.map (fun p => p.1.data.toList) by
    show (S.paths.map _).map _ = _
    rw [List.map_map]; rfl]
theorem found_dim (S : Sto) (p : ByteArray) : S.dim.found p = S.found p := by
  unfold Sto.found
  rw [names_dim]
  refine List.filter_congr fun n _ => ?_
  rw [versOf_dim, List.length_map]
theorem put_map {K α β : Type} [DecidableEq K] (f : α → β) (k : K) (v : α) : ∀ l : List (K × α), (putM k v l).map (fun p => (p.1, f p.2)) = putM k (f v) (l.map fun p => (p.1, f p.2))
  | [] => rfl
  | p :: l => by
    rw [putM, List.map_cons, putM]
    split
    · rfl
    · rw [List.map_cons, put_map f k v l]
theorem pickV_dim (n : Nat) : ∀ l : List (Nat × ByteArray), pickV n (l.map dimV) = (pickV n l).map dimB
  | [] => rfl
  | [v] => by
    rw [List.map_cons, List.map_nil, pickV, pickV]
    show (if v.1 = n ∨ n = 0 then some (dimB v.2) else none) = _
    split <;> rfl
  | v :: u :: l => by
    have := pickV_dim n (u :: l)
    rw [List.map_cons] at this
    rw [List.map_cons, List.map_cons, pickV, pickV, this]
    show (if v.1 = n then some (dimB v.2) else _) = _
    split <;> rfl
/-- What an outcome shows. -/
def Oc.shape (o : Oc) : Nat × Nat × Option Cg := (o.err, o.more.size, o.ch)
theorem deed_dim (S : Sto) (q : Rq) : (S.dim.deed q.dim).shape = (S.deed q).shape := by
  unfold Sto.deed
  rw [show q.dim.op = q.op from rfl]
  split
  · unfold Sto.put
    rw [show q.dim.path = q.path from rfl, lk_dim, show S.dim.paths.length = S.paths.length by show (S.paths.map _).length = _; rw [List.length_map]]
    cases lk q.path S.paths <;> rfl
  · unfold Sto.get
    rw [show q.dim.path = q.path from rfl, show q.dim.version = q.version from rfl, versOf_dim, pickV_dim]
    cases pickV q.version.toNat (S.versOf q.path) with
    | none => rfl
    | some v => show (0, (txt (dimB v)).size, none) = (0, (txt v).size, none); rw [txt_size, txt_size, dimB_size]
  · unfold Sto.drop
    rw [show q.dim.path = q.path from rfl, versOf_dim, List.length_map]
  · unfold Sto.list
    rw [show q.dim.path = q.path from rfl, found_dim]
  · rfl
  · rfl
theorem ask_dim (S : Sto) (q : Rq) : (S.dim.ask q.dim).shape = (S.ask q).shape := by
  unfold Sto.ask
  rw [show q.dim.token = q.token from rfl, show q.dim.op = q.op from rfl, show q.dim.path = q.path from rfl, show S.dim.toks = S.toks from rfl]
  split
  · rfl
  · split
    · rfl
    · exact deed_dim S q
theorem carry_dim (S : Sto) (q : Rq) (c : Cg) : (S.carry q c).dim = S.dim.carry q.dim c := by
  cases c with
  | grant => rfl
  | revoke => rfl
  | drop =>
    show Sto.dim (match lk q.path S.paths with | some p => _ | none => S) = (match lk q.path S.dim.paths with | some p => _ | none => S.dim)
    rw [lk_dim]
    cases lk q.path S.paths with
    | none => rfl
    | some p =>
      show Sto.mk _ _ ((putM _ _ _).map _) = _
      rw [put_map Pth.dim]
      rfl
  | put =>
    show Sto.mk _ _ ((putM _ _ _).map _) = Sto.mk _ _ (putM _ _ _)
    rw [put_map Pth.dim, show q.dim.path = q.path from rfl, lk_dim]
    cases lk q.path S.paths with
    | none => rfl
    | some p =>
      show Sto.mk _ _ (putM _ ⟨_, (p.vers ++ [(p.next, q.value)]).map dimV⟩ _) = _
      rw [List.map_append]
      rfl
theorem then_dim (S : Sto) (q : Rq) (o : Oc) : (S.then q o).dim = S.dim.then q.dim o := by
  unfold Sto.then
  cases o.ch with
  | none => rfl
  | some c => exact carry_dim S q c
theorem then_ch {S : Sto} {q : Rq} {o o' : Oc} (h : o.ch = o'.ch) : S.then q o = S.then q o' := by unfold Sto.then; rw [h]
/-- Stores that differ in values alone, requests too: what is done, and told. -/
theorem like_ask {S T : Sto} (h : S.dim = T.dim) {q r : Rq} (hq : q.dim = r.dim) : (S.ask q).shape = (T.ask r).shape := by rw [← ask_dim, h, hq, ask_dim]
theorem like_then {S T : Sto} (h : S.dim = T.dim) {q r : Rq} (hq : q.dim = r.dim) : (S.then q (S.ask q)).dim = (T.then r (T.ask r)).dim := by
  have hc : (S.ask q).ch = (T.ask r).ch := congrArg (fun x => x.2.2) (like_ask h hq)
  rw [then_dim, then_dim, h, hq, then_ch hc]
/-- Two sinks are given frames in step. -/
theorem giveGo_sync : ∀ (l l' : List ByteArray) (k k' : Snk), l.length = l'.length → (∀ e ∈ l, fitsB e = true) → (∀ e ∈ l', fitsB e = true) → k.app = k'.app → k.fails = k'.fails →
    ∃ m, m ≤ l.length ∧ (giveGo k (logOf l)).1.data = k.data ++ logOf (l.take m) ∧ (giveGo k' (logOf l')).1.data = k'.data ++ logOf (l'.take m) ∧ ((giveGo k (logOf l)).2 = true ↔ m = l.length) ∧ (giveGo k' (logOf l')).2 = (giveGo k (logOf l)).2 ∧
      (giveGo k (logOf l)).1.app = (giveGo k' (logOf l')).1.app ∧ (giveGo k (logOf l)).1.fails = (giveGo k' (logOf l')).1.fails
  | [], [], k, k', _, _, _, ha, hf => by
    refine ⟨0, Nat.le_refl _, ?_, ?_, ?_, ?_, ?_, ?_⟩ <;> rw [logOf, giveGo, dif_pos (by rfl)]
    · simp [logOf]
    · simp [logOf]
    · simp
    · rw [giveGo, dif_pos (by rfl)]
    · rw [giveGo, dif_pos (by rfl)]; exact ha
    · rw [giveGo, dif_pos (by rfl)]; exact hf
  | e :: l, e' :: l', k, k', hl, h, h', ha, hf => by
    have he := h e (.head _)
    have he' := h' e' (.head _)
    have hs := fits_small he
    have hs' := fits_small he'
    obtain ⟨h1, h2, h3, h4, h5⟩ := fr_more (r := logOf l) he
    obtain ⟨h1', h2', h3', h4', h5'⟩ := fr_more (r := logOf l') he'
    have hz : (logOf (e :: l)).size ≠ 0 := by rw [logOf, h5]; omega
    have hz' : (logOf (e' :: l')).size ≠ 0 := by rw [logOf, h5']; omega
    have hff := firstFr_log (l := l) he
    have hff' := firstFr_log (l := l') he'
    have hlf : lf (logOf (e :: l)) (frOf e).size = logOf l := by rw [frOf_size, logOf]; exact h4
    have hlf' : lf (logOf (e' :: l')) (frOf e').size = logOf l' := by rw [frOf_size, logOf]; exact h4'
    have htt : k'.took = k.took := by unfold Snk.took; rw [ha, hf]
    by_cases ht : k.took = true
    · have ht' : k'.took = true := htt.trans ht
      have hk : k.append (frOf e) = { k with app := k.app + 1, data := k.data ++ frOf e } := if_pos ht
      have hk' : k'.append (frOf e') = { k' with app := k'.app + 1, data := k'.data ++ frOf e' } := if_pos ht'
      obtain ⟨m, m1, m2, m3, m4, m5, m6, m7⟩ := giveGo_sync l l' (k.append (frOf e)) (k'.append (frOf e')) (by simpa using hl) (fun x hx => h x (.tail _ hx)) (fun x hx => h' x (.tail _ hx)) (by rw [hk, hk']; show k.app + 1 = k'.app + 1; rw [ha]) (by rw [hk, hk']; exact hf)
      have hg : giveGo k (logOf (e :: l)) = giveGo (k.append (frOf e)) (logOf l) := by rw [giveGo, dif_neg hz, if_pos ht, hff, hlf]
      have hg' : giveGo k' (logOf (e' :: l')) = giveGo (k'.append (frOf e')) (logOf l') := by rw [giveGo, dif_neg hz', if_pos ht', hff', hlf']
      rw [hg, hg']
      refine ⟨m + 1, by simp; omega, ?_, ?_, ?_, m5, m6, m7⟩
      · rw [m2, hk, List.take_succ_cons, logOf, ba_assoc]
      · rw [m3, hk', List.take_succ_cons, logOf, ba_assoc]
      · rw [m4]; simp
    · have ht' : ¬ k'.took = true := by rw [htt]; exact ht
      have hk : k.append (frOf e) = { k with app := k.app + 1 } := if_neg ht
      have hk' : k'.append (frOf e') = { k' with app := k'.app + 1 } := if_neg ht'
      have hg : giveGo k (logOf (e :: l)) = ({ k with app := k.app + 1 }, false) := by rw [giveGo, dif_neg hz, if_neg ht, hff, hk]
      have hg' : giveGo k' (logOf (e' :: l')) = ({ k' with app := k'.app + 1 }, false) := by rw [giveGo, dif_neg hz', if_neg ht', hff', hk']
      rw [hg, hg']
      refine ⟨0, by omega, ?_, ?_, by simp, rfl, ?_, hf⟩
      · simp [logOf]
      · simp [logOf]
      · show k.app + 1 = k'.app + 1; rw [ha]
  | [], _ :: _, _, _, hl, _, _, _, _ => by simp at hl
  | _ :: _, [], _, _, hl, _, _, _, _ => by simp at hl
/-- Two sinks that have as many frames, and fail alike. -/
def KLike (E F : List ByteArray) (k k' : Snk) : Prop := k.app = k'.app ∧ k.fails = k'.fails ∧ ∃ m, m ≤ E.length ∧ k.data = logOf (E.take m) ∧ k'.data = logOf (F.take m)
theorem give_sync {E F : List ByteArray} {e f : ByteArray} (hl : E.length = F.length) (hE : ∀ x ∈ E ++ [e], fitsB x = true) (hF : ∀ x ∈ F ++ [f], fitsB x = true) {k k' : Snk} (hk : KLike E F k k') :
    KLike (E ++ [e]) (F ++ [f]) (giveF k (logOf E ++ frOf e)).1 (giveF k' (logOf F ++ frOf f)).1 ∧ (giveF k (logOf E ++ frOf e)).2 = (giveF k' (logOf F ++ frOf f)).2 ∧ ((giveF k (logOf E ++ frOf e)).2 = false → KLike E F (giveF k (logOf E ++ frOf e)).1 (giveF k' (logOf F ++ frOf f)).1) := by
  obtain ⟨ha, hf, m, hm, hd, hd'⟩ := hk
  have gE : giveF k (logOf E ++ frOf e) = giveGo k (logOf ((E ++ [e]).drop m)) := by
    rw [giveF, show logOf E ++ frOf e = logOf (E ++ [e]) by rw [logOf_app, logOf, logOf, ba_empty], hd, ← (List.take_append_of_le_length hm : (E ++ [e]).take m = E.take m), lf_take]
  have gF : giveF k' (logOf F ++ frOf f) = giveGo k' (logOf ((F ++ [f]).drop m)) := by
    rw [giveF, show logOf F ++ frOf f = logOf (F ++ [f]) by rw [logOf_app, logOf, logOf, ba_empty], hd', ← (List.take_append_of_le_length (by omega) : (F ++ [f]).take m = F.take m), lf_take]
  obtain ⟨n, n1, n2, n3, n4, n5, n6, n7⟩ := giveGo_sync ((E ++ [e]).drop m) ((F ++ [f]).drop m) k k' (by simp [hl]) (fun x hx => hE x (List.drop_subset _ _ hx)) (fun x hx => hF x (List.drop_subset _ _ hx)) ha hf
  have hlen : ((E ++ [e]).drop m).length = E.length + 1 - m := by simp
  have dE : (giveGo k (logOf ((E ++ [e]).drop m))).1.data = logOf ((E ++ [e]).take (m + n)) := by
    rw [n2, hd, ← (List.take_append_of_le_length hm : (E ++ [e]).take m = E.take m), List.take_add, logOf_app]
  have dF : (giveGo k' (logOf ((F ++ [f]).drop m))).1.data = logOf ((F ++ [f]).take (m + n)) := by
    rw [n3, hd', ← (List.take_append_of_le_length (by omega) : (F ++ [f]).take m = F.take m), List.take_add, logOf_app]
  rw [gE, gF]
  refine ⟨⟨n6, n7, m + n, by simp; omega, dE, dF⟩, n5.symm, fun hfl => ⟨n6, n7, m + n, ?_, ?_, ?_⟩⟩
  · have hne : n ≠ ((E ++ [e]).drop m).length := fun h => by rw [n4.2 h] at hfl; cases hfl
    omega
  · have hne : n ≠ ((E ++ [e]).drop m).length := fun h => by rw [n4.2 h] at hfl; cases hfl
    rw [dE, List.take_append_of_le_length (by omega)]
  · have hne : n ≠ ((E ++ [e]).drop m).length := fun h => by rw [n4.2 h] at hfl; cases hfl
    rw [dF, List.take_append_of_le_length (by omega)]
end Go.Proofs.YtlbacbcenejngaaGreatDoor
namespace Go.Proofs.YtlbacbcenejngaaGreatDoor
open Go.RowKit
/-- Entries that differ in digests and tags alone. -/
def ELike (e f : ByteArray) : Prop := ∃ l1 w1 r1 m1 l2 w2 r2 m2 cnt op path err, Lens l1 w1 r1 m1 ∧ Lens l2 w2 r2 m2 ∧ path.size ≤ 16 ∧ e = bs (entL l1 cnt op w1 path r1 err m1) ∧ f = bs (entL l2 cnt op w2 path r2 err m2)
structure Lks (A C : Vlt) (E F : List ByteArray) : Prop where
  okA : A.Ok E
  okC : C.Ok F
  ents : All2 ELike E F
  sto : A.sto.dim = C.sto.dim
  snk : All2 (KLike E F) A.snks C.snks
theorem like_vask {A C : Vlt} (h : A.sto.dim = C.sto.dim) {s s' : ByteArray} (hq : (readQ s).map Rq.dim = (readQ s').map Rq.dim) :
    (A.ask s).1.dim = (C.ask s').1.dim ∧ (A.ask s).2.shape = (C.ask s').2.shape ∧ (A.sto.then (A.ask s).1 (A.ask s).2).dim = (C.sto.then (C.ask s').1 (C.ask s').2).dim := by
  unfold Vlt.ask
  cases h1 : readQ s with
  | none =>
    cases h2 : readQ s' with
    | none => exact ⟨rfl, rfl, h⟩
    | some r => rw [h1, h2] at hq; cases hq
  | some q =>
    cases h2 : readQ s' with
    | none => rw [h1, h2] at hq; cases hq
    | some r =>
      rw [h1, h2] at hq
      have hqr : q.dim = r.dim := Option.some.inj hq
      exact ⟨hqr, like_ask h hqr, like_then h hqr⟩
theorem Lks.entry {A C : Vlt} {E F : List ByteArray} (h : Lks A C E F) {s s' : ByteArray} (hq : (readQ s).map Rq.dim = (readQ s').map Rq.dim) : ELike (A.entry s) (C.entry s') := by
  obtain ⟨h1, h2, _⟩ := like_vask h.sto hq
  have hop : (C.ask s').1.op = (A.ask s).1.op := (congrArg Rq.op h1).symm
  have hpa : (C.ask s').1.path = (A.ask s).1.path := (congrArg Rq.path h1).symm
  have her : (C.ask s').2.err = (A.ask s).2.err := (congrArg (fun x => x.1) h2).symm
  have hcn : C.cnt = A.cnt := by rw [h.okA.cnt, h.okC.cnt, h.ents.length]
  refine ⟨A.last, _, _, _, C.last, Sha.tag C.key.data.toList (if (A.ask s).1.op = 0 then s' else (C.ask s').1.token).data.toList, Sha.tag C.key.data.toList (C.ask s').1.rest.data.toList, Sha.tag C.key.data.toList (C.ask s').2.more.data.toList, A.cnt, (A.ask s).1.op, (A.ask s).1.path, (A.ask s).2.err, h.okA.lens _ _ _, h.okC.lens _ _ _, (ask_fit A s).1.1, rfl, ?_⟩
  unfold Vlt.entry
  rw [hop, hpa, her, hcn]
theorem Lks.next {A C : Vlt} {E F : List ByteArray} (h : Lks A C E F) (hE : E.length < 4294967296) {s s' : ByteArray} (hq : (readQ s).map Rq.dim = (readQ s').map Rq.dim) :
    (∃ E' F', Lks (A.next s) (C.next s') E' F') ∧ ∃ b r r', A.tell s = bs (b :: r) ∧ C.tell s' = bs (b :: r') ∧ r.length = r'.length := by
  obtain ⟨_, h2, h3⟩ := like_vask h.sto hq
  have hel := h.entry hq
  have hl := h.ents.length
  have hcA := h.okA.chn' hE s
  have hcC := h.okC.chn' (by omega) s'
  have hfA := chn_fits hcA
  have hfC := chn_fits hcC
  have hgs : ∀ a b, KLike E F a b → _ := fun a b r => give_sync (e := A.entry s) (f := C.entry s') hl hfA hfC r
  have hfl : (A.lay s).2 = (C.lay s').2 := by
    unfold Vlt.lay layF
    rw [h.okA.most', h.okC.most']
    exact h.snk.any fun a b r => (hgs a b r).2.1
  have lA : (A.lay s).1 = A.snks.map fun k => (giveF k (logOf E ++ frOf (A.entry s))).1 := by unfold Vlt.lay; rw [h.okA.most']; rfl
  have lC : (C.lay s').1 = C.snks.map fun k => (giveF k (logOf F ++ frOf (C.entry s'))).1 := by unfold Vlt.lay; rw [h.okC.most']; rfl
  have nA := h.okA.next hE s
  have nC := h.okC.next (by omega) s'
  cases hy : (A.lay s).2 with
  | true =>
    have hy' : (C.lay s').2 = true := hfl.symm.trans hy
    constructor
    · refine ⟨E ++ [A.entry s], F ++ [C.entry s'], nA.1 hy, nC.1 hy', h.ents.app (.cons hel .nil), ?_, ?_⟩
      · rw [Vlt.next, if_pos hy, Vlt.next, if_pos hy']; exact h3
      · rw [Vlt.next, if_pos hy, Vlt.next, if_pos hy']
        show All2 _ (A.lay s).1 (C.lay s').1
        rw [lA, lC]
        exact h.snk.map fun a b r => (hgs a b r).1
    · have her : (A.ask s).2.err = (C.ask s').2.err := congrArg (fun x => x.1) h2
      have hmr : (A.ask s).2.more.size = (C.ask s').2.more.size := congrArg (fun x => x.2.1) h2
      refine ⟨_, _, _, by rw [Vlt.tell, if_pos hy], by rw [Vlt.tell, if_pos hy', her], ?_⟩
      rw [size_toList, size_toList, hmr]
  | false =>
    have hy' : (C.lay s').2 = false := hfl.symm.trans hy
    have hny : ¬ (A.lay s).2 = true := by rw [hy]; simp
    have hny' : ¬ (C.lay s').2 = true := by rw [hy']; simp
    constructor
    · refine ⟨E, F, nA.2 hy, nC.2 hy', h.ents, ?_, ?_⟩
      · rw [Vlt.next, if_neg hny, Vlt.next, if_neg hny']; exact h.sto
      · rw [Vlt.next, if_neg hny, Vlt.next, if_neg hny']
        show All2 _ (A.lay s).1 (C.lay s').1
        rw [lA, lC]
        have hno : ∀ k ∈ A.snks, (giveF k (logOf E ++ frOf (A.entry s))).2 = false := by
          intro k hk
          unfold Vlt.lay layF at hy
          rw [h.okA.most'] at hy
          have := List.any_eq_false.1 hy k hk
          simpa using this
        exact (h.snk.mono (Q := fun a b => KLike E F a b ∧ (giveF a (logOf E ++ frOf (A.entry s))).2 = false) fun a b ha _ r => ⟨r, hno a ha⟩).map fun a b r => (hgs a b r.1).2.2 r.2
    · exact ⟨6, [], [], by rw [Vlt.tell, if_neg hny], by rw [Vlt.tell, if_neg hny'], rfl⟩
theorem Lks.failAt {A C : Vlt} {E F : List ByteArray} (h : Lks A C E F) (i : Nat) (L : List Int) : Lks (A.failAt i L) (C.failAt i L) E F :=
  ⟨h.okA.failAt i L, h.okC.failAt i L, h.ents, h.sto, by
    show All2 (KLike E F) (A.snks.modify i fun k => k.fail L) (C.snks.modify i fun k => k.fail L)
    exact All2.modify (f := fun k : Snk => k.fail L) (g := fun k : Snk => k.fail L) h.snk (fun a b r => ⟨rfl, rfl, r.2.2⟩) i⟩
theorem filled_len (x : Int) (c d : UInt8) : (filled x c).size = (filled x d).size := by unfold filled; rw [bs_size, bs_size, List.length_replicate, List.length_replicate]
theorem req_dim (o : Stq) (c d : UInt8) : (readQ (reqS o c)).map Rq.dim = (readQ (reqS o d)).map Rq.dim := by
  unfold reqS reqB
  by_cases h0 : o.kind = 0
  · rw [if_pos h0, if_pos h0, readQ_put (tokOf_ok _) (pathOf_ok _).1 (filled_size _ _), readQ_put (tokOf_ok _) (pathOf_ok _).1 (filled_size _ _)]
    refine congrArg some ?_
    show Rq.mk _ _ _ _ _ _ _ _ _ = Rq.mk _ _ _ _ _ _ _ _ _
    rw [dimB_eq (filled_len o.b c d), dimB_eq (s := txt (filled o.b c)) (t := txt (filled o.b d)) (by rw [txt_size, txt_size, filled_len o.b c d])]
  · rw [if_neg h0, if_neg h0]
theorem Lks.stepS {A C : Vlt} {E F : List ByteArray} (h : Lks A C E F) (hE : E.length < 4294967296) (o : Stq) (c d : UInt8) :
    (∃ E' F', Lks (A.stepS o c) (C.stepS o d) E' F') ∧ ∃ b r r', A.saysS o c = bs (b :: r) ∧ C.saysS o d = bs (b :: r') ∧ r.length = r'.length := by
  unfold Vlt.stepS Vlt.saysS
  by_cases h7 : o.kind = 7
  · rw [if_pos h7, if_pos h7, if_pos h7, if_pos h7, h.snk.length]
    exact ⟨⟨E, F, h.failAt _ _⟩, 0, [], [], rfl, rfl, rfl⟩
  · rw [if_neg h7, if_neg h7, if_neg h7, if_neg h7]
    exact h.next hE (req_dim o c d)
/-- A new vault, beside itself. -/
theorem like_self {V : Vlt} (h : V.Ok []) : Lks V V [] [] := by
  refine ⟨h, h, .nil, rfl, ?_⟩
  have : ∀ l : List Snk, (∀ k ∈ l, Some1 [] k.data) → All2 (KLike [] []) l l := by
    intro l
    induction l with
    | nil => intro _; exact .nil
    | cons k l ih =>
      intro hk
      refine .cons ⟨rfl, rfl, 0, Nat.le_refl _, ?_, ?_⟩ (ih fun x hx => hk x (.tail _ hx))
      · obtain ⟨m, _, e⟩ := hk k (.head _); rw [e]; simp
      · obtain ⟨m, _, e⟩ := hk k (.head _); rw [e]; simp
  exact this _ h.snk
end Go.Proofs.YtlbacbcenejngaaGreatDoor
namespace Go.Proofs.YtlbacbcenejngaaGreatDoor
open Go.RowKit
theorem entL_more {last who rest more : List UInt8} (h : Lens last who rest more) (cnt : Nat) (op : UInt8) (path : ByteArray) (err : Nat) :
    ((entL last cnt op who path rest err more).drop 32).take 5 = leN cnt 4 ++ [op] ∧ ((entL last cnt op who path rest err more).drop 69).take (1 + path.size) = UInt8.ofNat path.size :: path.data.toList := by
  constructor
  · rw [entL, List.drop_left' h.l, List.append_cons, List.take_left' (by rw [List.length_append, leN_length]; rfl)]
  · rw [entL, ← List.append_assoc, List.append_cons, ← List.append_assoc, List.drop_left' (by simp only [List.length_append, leN_length, h.l, h.w, List.length_singleton]), Nat.add_comm, List.take_succ_cons, List.take_left' (size_toList path)]
theorem elike_facts {e f : ByteArray} (h : ELike e f) : ∃ p, p ≤ 16 ∧ e.size = 135 + p ∧ f.size = 135 + p ∧ (e.data.toList.getD 69 0).toNat = p ∧ e.extract 32 37 = f.extract 32 37 ∧ e.extract 69 (70 + p) = f.extract 69 (70 + p) ∧ e.data.toList.getD (102 + p) 0 = f.data.toList.getD (102 + p) 0 := by
  obtain ⟨l1, w1, r1, m1, l2, w2, r2, m2, cnt, op, path, err, h1, h2, hp, rfl, rfl⟩ := h
  obtain ⟨a1, _, a3, _, a5, _, _⟩ := entL_facts h1 cnt op (path := path) (by omega) err
  obtain ⟨b1, _, b3, _, b5, _, _⟩ := entL_facts h2 cnt op (path := path) (by omega) err
  obtain ⟨c1, c2⟩ := entL_more h1 cnt op path err
  obtain ⟨d1, d2⟩ := entL_more h2 cnt op path err
  have hu : (UInt8.ofNat path.size).toNat = path.size := by simp; omega
  refine ⟨path.size, hp, by rw [bs_size, a1], by rw [bs_size, b1], by rw [bs_list, a3, hu], ?_, ?_, by rw [bs_list, bs_list, a5, b5]⟩
  · apply Go.WideShapes.bytes_inj
    rw [ext_list, ext_list, bs_list, bs_list, show 37 - 32 = 5 from rfl, c1, d1]
  · apply Go.WideShapes.bytes_inj
    rw [ext_list, ext_list, bs_list, bs_list, show 70 + path.size - 69 = 1 + path.size by omega, c2, d2]
/-- A log at its j-th frame. -/
theorem log_at {E : List ByteArray} {j : Nat} (h : j < E.length) (hs : E[j].size < 65536) :
    (logOf (E.take j)).size + 2 + E[j].size ≤ (logOf E).size ∧ (logOf (E.take (j + 1))).size = (logOf (E.take j)).size + 2 + E[j].size ∧
    ((logOf E).data.toList.getD (logOf (E.take j)).size 0).toNat + 256 * ((logOf E).data.toList.getD ((logOf (E.take j)).size + 1) 0).toNat = E[j].size ∧
    (logOf E).extract (logOf (E.take j)).size ((logOf (E.take j)).size + 2) = bs (leN E[j].size 2) ∧ (logOf E).extract ((logOf (E.take j)).size + 2) ((logOf (E.take j)).size + 2 + E[j].size) = E[j] := by
  have e1 : logOf E = logOf (E.take j) ++ (frOf E[j] ++ logOf (E.drop (j + 1))) := by
    have := logOf_app (E.take j) (E.drop j)
    rw [List.take_append_drop, List.drop_eq_getElem_cons h, logOf] at this
    exact this
  have e2 : (logOf E).data.toList = (logOf (E.take j)).data.toList ++ (leN E[j].size 2 ++ (E[j].data.toList ++ (logOf (E.drop (j + 1))).data.toList)) := by
    rw [e1]; simp [frOf, bs]
  have e3 : (logOf E).size = (logOf (E.take j)).size + (2 + E[j].size + (logOf (E.drop (j + 1))).size) := by
    rw [e1, ByteArray.size_append, ByteArray.size_append, frOf_size]
  have hl := size_toList (logOf (E.take j))
  have hl2 : leN E[j].size 2 = [UInt8.ofNat E[j].size, UInt8.ofNat (E[j].size / 256)] := by
    unfold leN; simp [List.range_succ]
  refine ⟨by omega, ?_, ?_, ?_, ?_⟩
  · rw [List.take_succ_eq_append_getElem h, logOf_app, ByteArray.size_append, logOf, logOf, ba_empty, frOf_size]; omega
  · have g0 : (logOf E).data.toList.getD (logOf (E.take j)).size 0 = UInt8.ofNat E[j].size := by rw [e2, hl2]; exact getD_at hl
    have g1 : (logOf E).data.toList.getD ((logOf (E.take j)).size + 1) 0 = UInt8.ofNat (E[j].size / 256) := by
      rw [e2, hl2, show ((logOf (E.take j)).data.toList ++ ([UInt8.ofNat E[j].size, UInt8.ofNat (E[j].size / 256)] ++ (E[j].data.toList ++ (logOf (E.drop (j + 1))).data.toList))) = ((logOf (E.take j)).data.toList ++ [UInt8.ofNat E[j].size]) ++ (UInt8.ofNat (E[j].size / 256) :: (E[j].data.toList ++ (logOf (E.drop (j + 1))).data.toList)) by simp]
      exact getD_at (by rw [List.length_append, hl]; rfl)
    rw [g0, g1]
    simp
    omega
  · apply Go.WideShapes.bytes_inj
    rw [ext_list, e2, List.drop_left' hl, bs_list, show (logOf (E.take j)).size + 2 - (logOf (E.take j)).size = 2 by omega, List.take_left' (leN_length _ _)]
  · apply Go.WideShapes.bytes_inj
    rw [ext_list, e2, ← List.append_assoc, List.drop_left' (by rw [List.length_append, hl, leN_length]), show (logOf (E.take j)).size + 2 + E[j].size - ((logOf (E.take j)).size + 2) = E[j].size by omega, List.take_left' (size_toList _)]
theorem like_sizes {E F : List ByteArray} (h : All2 ELike E F) : (logOf E).size = (logOf F).size := by
  induction h with
  | nil => rfl
  | cons h1 _ ih =>
    obtain ⟨p, _, a, b, _⟩ := elike_facts h1
    rw [logOf, logOf, ByteArray.size_append, ByteArray.size_append, frOf_size, frOf_size, ih, a, b]
theorem wrap_small (n p : Nat) (hn : n ≤ 1000) (hp : p ≤ 1000) : IntKind.i64.wrap ((n : Int) + (p : Int)) = (n : Int) + (p : Int) := by
  simp [IntKind.wrap, IntKind.bits, IntKind.signed]
  omega
set_option maxRecDepth 100000 in
set_option maxHeartbeats 4000000 in
theorem shapes_go (E F : List ByteArray) (w : World) (h : All2 ELike E F) (hE : (logOf E).size ≤ 140737488355000) :
    Calls Tryz.prog 18 #[.string (logOf E), .string (logOf F)] w fun e w' => e = .returned (.bool true) ∧ Kept w.heap.size w w' := by
  have hls := like_sizes h
  have HAT := hide (show ∀ j, j < E.length → ∃ (N p : Nat) (e f : ByteArray), p ≤ 16 ∧ N = 135 + p ∧ e.size = N ∧ f.size = N ∧ (logOf (E.take j)).size + 2 + N ≤ (logOf E).size ∧ (logOf (E.take (j + 1))).size = (logOf (E.take j)).size + 2 + N ∧
      ((logOf E).data.toList.getD (logOf (E.take j)).size 0).toNat + 256 * ((logOf E).data.toList.getD ((logOf (E.take j)).size + 1) 0).toNat = N ∧
      (logOf F).extract (logOf (E.take j)).size ((logOf (E.take j)).size + 2) = (logOf E).extract (logOf (E.take j)).size ((logOf (E.take j)).size + 2) ∧
      (logOf E).extract ((logOf (E.take j)).size + 2) ((logOf (E.take j)).size + 2 + N) = e ∧ (logOf F).extract ((logOf (E.take j)).size + 2) ((logOf (E.take j)).size + 2 + N) = f ∧
      (e.data.toList.getD 69 0).toNat = p ∧ f.extract 32 37 = e.extract 32 37 ∧ f.extract 69 (70 + p) = e.extract 69 (70 + p) ∧ f.data.toList.getD (102 + p) 0 = e.data.toList.getD (102 + p) 0 from fun j hj => by
    have hj' : j < F.length := by rw [← h.length]; exact hj
    obtain ⟨p, hp, a1, a2, a3, a4, a5, a6⟩ := elike_facts (h.get j hj hj')
    obtain ⟨b1, b2, b3, b4, b5⟩ := log_at hj (by omega)
    obtain ⟨c1, c2, c3, c4, c5⟩ := log_at hj' (by omega)
    have ht := like_sizes (h.take j)
    refine ⟨135 + p, p, E[j], F[j], hp, rfl, a1, a2, by omega, by omega, by omega, ?_, ?_, ?_, a3, a4.symm, a5.symm, a6.symm⟩
    · rw [b4, ht, c4, a1, a2]
    · rw [← a1]; exact b5
    · rw [← a2, ht]; exact c5)
  have HL0 := hide (show (logOf (E.take E.length)).size = (logOf E).size by rw [List.take_length])
  have HLt := hide (show ∀ j, (logOf (E.take j)).size ≤ (logOf E).size from fun j => logOf_size_le E j)
  have hls' := hls.symm
  clear h hls
  generalize logOf E = X at *
  generalize logOf F = Y at *
  go_enter Tryz.func18, Tryz.ntmps18
  go_wp2_with fail
  go_loopw [5] (fun vt wr => ∃ j : Nat, j ≤ E.length ∧ vt = .int .i64 ((logOf (E.take j)).size : Int) ∧ Kept w.heap.size w wr) (fun vt _ => X.size - (intOf vt).toNat)
  case atStart => exact ⟨0, Nat.zero_le _, rfl, Kept.refl _ _⟩
  case round =>
    obtain ⟨j, hj, rfl, hk⟩ := hrel
    have HK := hide hk
    clear hk
    by_cases hlt : j < E.length
    · obtain ⟨N, p, e, f, hp, hN, he, hf, h1, h2, h3, h4, h5, h6, h7, h8, h9, h10⟩ := unhide HAT j hlt
      subst hN
      have H2 := hide h2
      clear h2
      generalize (logOf (E.take j)).size = t at *
      have ht0 : t < X.size := by omega
      have ht1 : t + 1 < X.size := by omega
      have hg0 := byte_get X t ht0
      have hg1 := byte_get X (t + 1) ht1
      have hb0 := Sha.at8_bd X.data.toList t
      have hb1 := Sha.at8_bd X.data.toList (t + 1)
      have h3' : Sha.at8 X.data.toList t + 256 * Sha.at8 X.data.toList (t + 1) = 135 + (p : Int) := by unfold Sha.at8; omega
      clear h3
      generalize Sha.at8 X.data.toList t = b0 at *
      generalize Sha.at8 X.data.toList (t + 1) = b1 at *
      have i0 : (0 : Int) ≤ (t : Int) := by omega
      have i1 : (t : Int) + 2 ≤ (X.size : Int) := by omega
      have i2 : (t : Int) < (X.size : Int) := by omega
      have i3 : (t : Int) + 1 < (X.size : Int) := by omega
      go_upto_region 5 with fail
      go_quiet (fail)
      have i4 : ¬ (135 : Int) + (p : Int) < 135 := by omega
      have i5 : ¬ (X.size : Int) < (t : Int) + 2 + (135 + (p : Int)) := by omega
      have i6 : (t : Int) ≤ (t : Int) + 2 := by omega
      have i7 : (t : Int) + 2 + (135 + (p : Int)) ≤ (X.size : Int) := by omega
      have heqx : ((X.extract t (t + 2)).toList == (X.extract t (t + 2)).toList) = true := by simp
      go_upto_region 6 with fail
      go_quiet (fail)
      have q69 : 69 < e.size := by rw [he]; omega
      have qE : 102 + p < e.size := by rw [he]; omega
      have qF : 102 + p < f.size := by rw [hf]; omega
      have hg69 : ((e[69]'q69).toNat : Int) = (p : Int) := by rw [byte_get e 69 q69]; unfold Sha.at8; omega
      have hgE : ((e[102 + p]'qE).toNat : Int) = Sha.at8 e.data.toList (102 + p) := byte_get e (102 + p) qE
      have hgF : ((f[102 + p]'qF).toNat : Int) = Sha.at8 e.data.toList (102 + p) := by rw [byte_get f (102 + p) qF]; unfold Sha.at8; rw [h10]
      have hxb := Sha.at8_bd e.data.toList (102 + p)
      generalize Sha.at8 e.data.toList (102 + p) = x at *
      clear h7 h10
      have k1 : (t : Int) + 2 ≤ (t : Int) + 2 + (135 + (p : Int)) := by omega
      have k2 : (69 : Int) < 135 + (p : Int) := by omega
      have k3 : (37 : Int) ≤ 135 + (p : Int) := by omega
      have k4 : (70 : Int) + (p : Int) ≤ 135 + (p : Int) := by omega
      have k5 : (102 : Int) + (p : Int) < 135 + (p : Int) := by omega
      have k6 : (69 : Int) ≤ 70 + (p : Int) := by omega
      have heq1 : ((e.extract 32 37).toList == (e.extract 32 37).toList) = true := by simp
      have heq2 : ((e.extract 69 (70 + p)).toList == (e.extract 69 (70 + p)).toList) = true := by simp
      have hwa := wrap_small 135 p (by decide) (by omega)
      have hwb := wrap_small 70 p (by decide) (by omega)
      have hwc := wrap_small 102 p (by decide) (by omega)
      simp only [Int.cast_ofNat_Int] at hwa hwb hwc
      have hnb : ((70 : Int) + (p : Int)).toNat = 70 + p := by omega
      have hnc : ((102 : Int) + (p : Int)).toNat = 102 + p := by omega
      have heq3 : ((135 : Int) + (p : Int) == 135 + (p : Int)) = true := by simp
      have heq4 : ((135 : Int) + (p : Int) != 135 + (p : Int)) = false := by simp
      go_upto_region 11 with fail
      go_quiet (fail)
      go_wp2_with fail
      go_roundw
      case rel => exact ⟨j + 1, by omega, by rw [unhide H2]; refine congrArg (Value.int .i64) ?_; omega, (unhide HK).trans ⟨rfl, rfl, Nat.le_refl _, fun _ _ => rfl⟩⟩
      case measure => simp [intOf]; omega
    · obtain rfl : j = E.length := by omega
      rw [unhide HL0]
      have i1 : ¬ (X.size : Int) + 2 ≤ (X.size : Int) := by omega
      go_wp2_with fail
      go_ret
      exact ⟨rfl, unhide HK⟩
end Go.Proofs.YtlbacbcenejngaaGreatDoor
