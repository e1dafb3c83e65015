/-
  Aq
-/
import Derived.Test.YtlbacbcenejngaaGreatDoorH33
import Derived.Test.YtlbacbcenejngaaGreatDoorRows
import Derived.Test.YtlbacbcenejngaaGreatDoorCards
import Derived.Test.YtlbacbcenejngaaGreatDoorTie
import Derived.ChangeSlices
import Derived.ProofKit
import Derived.LaidMore
import Derived.OpenShut
import Derived.Stop.Joined
import Derived.SizedLaws
import Derived.SevenTiedAt
import Derived.Lib.LaidTab
import Derived.Deep.DeepHandedRow
import Derived.Deep.DeepWitnessRowRef
import Derived.JoinedCond
import Derived.SliceStrings
import Derived.Carry
import Derived.WideKeyArgs
namespace Go.Proofs.YtlbacbcenejngaaGreatDoor
open Go.ChangeShapes Go.WideShapes Go.ChangeAt Go.WideMaps Go.WideElems Go.RowKit
theorem bulk_one {H : Type} (d : DataW H) : 1 ≤ Rows.uptoBulk d := by
  cases d with
  | lit l => cases l <;> simp [Rows.uptoBulk]
  | nil => simp [Rows.uptoBulk]
  | ptr d => simp [Rows.uptoBulk]
  | slice elems spare => simp [Rows.uptoBulk]
  | agg parts => simp [Rows.uptoBulk]
  | iface t d => simp [Rows.uptoBulk]
  | map entries => simp [Rows.uptoBulk]
  | held h => simp [Rows.uptoBulk]
theorem bulk_part {H : Type} {d : DataW H} : ∀ {l : List (DataW H)}, d ∈ l → Rows.uptoBulk d ≤ Rows.uptoBulkAll l
  | x :: r, h => by
    simp only [Rows.uptoBulkAll]
    rcases List.mem_cons.1 h with rfl | h
    · omega
    · have := bulk_part h; omega
theorem bulk_len {H : Type} : ∀ l : List (DataW H), l.length ≤ Rows.uptoBulkAll l
  | [] => by simp [Rows.uptoBulkAll]
  | x :: r => by have := bulk_one x; have := bulk_len r; simp only [Rows.uptoBulkAll, List.length_cons]; omega
theorem list_of6 {α : Type} {d : α} {Φ : Nat → α → Prop} {n : Nat} (h : ∀ i, i < n → ∃ x, Φ i x) : ∃ l : List α, l.length = n ∧ ∀ i, i < n → Φ i (l.getD i d) := by
  refine ⟨(List.range n).map fun i => if hi : i < n then Classical.choose (h i hi) else d, by simp, fun i hi => ?_⟩
  rw [List.getD_eq_getElem?_getD, List.getElem?_map, List.getElem?_range hi]
  simp only [Option.map_some, dif_pos hi, Option.getD_some]
  exact Classical.choose_spec (h i hi)
theorem acell3 : Tryz.prog.cellsOf 3 = 1 := by kernel_rfl
theorem acell9 : Tryz.prog.cellsOf 9 = 1 := by kernel_rfl
theorem acell38 : Tryz.prog.cellsOf 38 = 1 := by kernel_rfl
theorem acell40 : Tryz.prog.cellsOf 40 = 6 := by kernel_rfl
theorem wf_i64 {n : Int} (h : (Lit.int .i64 n).wf = true) : i64 n := by
  have : -9223372036854775808 ≤ n ∧ n ≤ 9223372036854775807 := by simpa [Lit.wf, IntKind.min, IntKind.max, IntKind.signed, IntKind.bits] using h
  exact this
set_option maxRecDepth 100000 in
theorem stq_in {H : Type} {enc : TypeId × Value → H} {W : World} {n : Nat} {cs : List Value} {x : DataW H × List MemPlace} (h : DataW.trod enc Tryz.prog W 0 (fun _ => true) true n 40 cs = some x) (hb : Rows.uptoBulk x.1 ≤ 1048576) :
    ∃ c : Stq, cs = c.cells.toList ∧ StqIn W c := by
  obtain ⟨xs, m, _, rfl, hl, hlen, hf⟩ := DataW.trod_struct Tryz.underlying40 h
  rw [acell40] at hl
  obtain ⟨c0, c1, c2, c3, c4, c5, rfl⟩ : ∃ c0 c1 c2 c3 c4 c5, cs = [c0, c1, c2, c3, c4, c5] := by
    match cs, hl with
    | [c0, c1, c2, c3, c4, c5], _ => exact ⟨c0, c1, c2, c3, c4, c5, rfl⟩
  obtain ⟨x0, x1, x2, x3, x4, x5, rfl⟩ : ∃ x0 x1 x2 x3 x4 x5, xs = [x0, x1, x2, x3, x4, x5] := by
    match xs, hlen with
    | [x0, x1, x2, x3, x4, x5], _ => exact ⟨x0, x1, x2, x3, x4, x5, rfl⟩
  have f0 : DataW.trod enc Tryz.prog W 0 (fun _ => true) true m 3 (([c0, c1, c2, c3, c4, c5].drop 0).take (Tryz.prog.cellsOf 3)) = some x0 := hf 0 _ rfl
  have f1 : DataW.trod enc Tryz.prog W 0 (fun _ => true) true m 3 (([c0, c1, c2, c3, c4, c5].drop 1).take (Tryz.prog.cellsOf 3)) = some x1 := hf 1 _ rfl
  have f2 : DataW.trod enc Tryz.prog W 0 (fun _ => true) true m 3 (([c0, c1, c2, c3, c4, c5].drop 2).take (Tryz.prog.cellsOf 3)) = some x2 := hf 2 _ rfl
  have f3 : DataW.trod enc Tryz.prog W 0 (fun _ => true) true m 3 (([c0, c1, c2, c3, c4, c5].drop 3).take (Tryz.prog.cellsOf 3)) = some x3 := hf 3 _ rfl
  have f4 : DataW.trod enc Tryz.prog W 0 (fun _ => true) true m 9 (([c0, c1, c2, c3, c4, c5].drop 4).take (Tryz.prog.cellsOf 9)) = some x4 := hf 4 _ rfl
  have f5 : DataW.trod enc Tryz.prog W 0 (fun _ => true) true m 38 (([c0, c1, c2, c3, c4, c5].drop 5).take (Tryz.prog.cellsOf 38)) = some x5 := hf 5 _ rfl
  rw [acell3] at f0 f1 f2 f3
  rw [acell9] at f4
  rw [acell38] at f5
  obtain ⟨kind, e0, _, w0⟩ := DataW.trod_int Tryz.underlying3 f0
  obtain ⟨tok, e1, _, w1⟩ := DataW.trod_int Tryz.underlying3 f1
  obtain ⟨a, e2, _, w2⟩ := DataW.trod_int Tryz.underlying3 f2
  obtain ⟨b, e3, _, w3⟩ := DataW.trod_int Tryz.underlying3 f3
  obtain ⟨s, e4, g4, _⟩ := DataW.trod_string Tryz.underlying9 f4
  simp at e0 e1 e2 e3 e4
  subst e0 e1 e2 e3 e4
  have hb' : Rows.uptoBulkAll [x0.1, x1.1, x2.1, x3.1, x4.1, x5.1] + 1 ≤ 1048576 := hb
  have hs : s.size ≤ 4194304 := by
    have this : Rows.uptoBulk x4.1 ≤ 1048576 := by have := bulk_part (l := [x0.1, x1.1, x2.1, x3.1, x4.1, x5.1]) (d := x4.1) (by simp); omega
    rw [g4] at this
    simp only [Rows.uptoBulk] at this
    rw [Array.length_toList] at this
    have e : s.data.size = s.size := rfl
    omega
  have h5 : Rows.uptoBulk x5.1 ≤ 1048576 := by have := bulk_part (l := [x0.1, x1.1, x2.1, x3.1, x4.1, x5.1]) (d := x5.1) (by simp); omega
  rcases open_ints Tryz.underlying38 Tryz.underlying3 acell3 f5 with ⟨e5, _⟩ | ⟨ad, len, cap, zs, e5, hbb, hlc, hcm, hzl, hx5, hcell, hwf⟩
  · simp at e5
    subst e5
    exact ⟨⟨kind, tok, a, b, s, .slice none 0 0, []⟩, rfl, ⟨⟨wf_i64 w0, wf_i64 w1, wf_i64 w2, wf_i64 w3, hs⟩, .inl ⟨rfl, .inl rfl⟩, by simp, by simp⟩⟩
  · simp at e5
    subst e5
    simp only [if_true] at hzl
    have hlz : (zs.take len).length = len := by rw [List.length_take]; omega
    have hlb : len ≤ 1048576 := by
      rw [hx5] at h5
      simp only [Rows.uptoBulk] at h5
      have := bulk_len (lits (H := H) .i64 (zs.take len))
      rw [lits, List.length_map, hlz] at this
      rw [lits] at h5
      omega
    refine ⟨⟨kind, tok, a, b, s, .slice (some ad) len cap, zs.take len⟩, rfl, ⟨⟨wf_i64 w0, wf_i64 w1, wf_i64 w2, wf_i64 w3, hs⟩, ?_, by rw [hlz]; exact hlb, ?_⟩⟩
    · rcases Nat.eq_zero_or_pos len with h0 | h0
      · subst h0
        exact .inl ⟨by simp, .inr ⟨ad, cap, rfl⟩⟩
      · obtain ⟨b, o, spot⟩ := ad
        have hc0 := hcell 0 (by omega)
        have hspot : spot = none := by simpa [Addr.add] using World.cell?_spot hc0
        subst hspot
        refine .inr ⟨b, o, cap, by rw [hlz]; exact h0, by rw [hlz], by rw [hlz]; exact hlc, World.block_lt_of_cell? _ _ hc0, fun j hj => ?_⟩
        rw [hlz] at hj
        have := hcell j (by omega)
        rw [add_addr] at this
        rw [this, List.getD_eq_getElem?_getD, List.getD_eq_getElem?_getD, List.getElem?_take, if_pos hj]
    · intro j hj
      rw [hlz] at hj
      have hm : (zs.take len).getD j 0 ∈ zs := by
        rw [List.getD_eq_getElem?_getD, List.getElem?_take, if_pos hj, List.getElem?_eq_getElem (by omega)]
        exact List.getElem_mem _
      exact wf_i64 (hwf _ hm)
set_option maxRecDepth 100000 in
theorem scr_in {H : Type} {enc : TypeId × Value → H} {W : World} {a0 : Option Addr} {n0 c0 : Nat} {d : DataW H} {ps : List MemPlace} (h : DataW.Trod enc Tryz.prog W 0 (fun _ => true) true 25 (.slice a0 n0 c0) d ps) (hb : Rows.uptoBulk d ≤ 1048576) : ∃ l, ScrS W (.slice a0 n0 c0) l := by
  obtain ⟨fuel, hf⟩ := h
  rcases DataW.trod_slice Tryz.underlying25 hf with ⟨hcs, _⟩ | ⟨a, len, cap, elems, rest, n, _, hcs, hx, _, hl, hm, hlen, hel, _, _⟩
  · simp [Value.cells] at hcs
    obtain ⟨rfl, rfl, rfl⟩ := hcs
    exact ⟨[], ⟨none, 0, rfl, fun h => absurd h (by simp)⟩, fun i hi => absurd hi (by simp), by simp⟩
  · simp [Value.cells] at hcs
    obtain ⟨rfl, rfl, rfl⟩ := hcs
    simp only [Prod.mk.injEq] at hx
    obtain ⟨rfl, _⟩ := hx
    have hb2 : Rows.uptoBulkAll (elems.map (·.1)) + 1 ≤ 1048576 := by simp only [Rows.uptoBulk] at hb; omega
    have hlb : n0 ≤ 1048576 := by have := bulk_len (elems.map (·.1)); rw [List.length_map, hlen] at this; omega
    rw [acell40] at hel
    have each : ∀ i, i < n0 → ∃ c : Stq, (∀ j u, c.cells.toList[j]? = some u → W.cell? ((a.add (i * 6)).add j) = some u) ∧ StqIn W c := by
      intro i hi
      have h1 := hel i hi
      rw [List.getElem?_eq_getElem (by omega), Option.bind_eq_some_iff] at h1
      obtain ⟨cs, hcs, ht2⟩ := h1
      obtain ⟨c, hc, hA⟩ := stq_in ht2 (by have := bulk_part (l := elems.map (·.1)) (d := (elems[i]'(by omega)).1) (List.mem_map.2 ⟨_, List.getElem_mem _, rfl⟩); omega)
      refine ⟨c, fun j u hu => ?_, hA⟩
      have h6 : j < 6 := by have := (List.getElem?_eq_some_iff.1 hu).1; exact this
      have := (World.cells?_some hcs).2.2 j h6
      rw [this, hc]; exact hu
    obtain ⟨l, hll, hl2⟩ := list_of6 (d := stq0) each
    refine ⟨l, ⟨some a, c0, by rw [hll], fun h0 => ?_⟩, fun i hi => (hl2 i (by omega)).2, by omega⟩
    obtain ⟨b, o, spot⟩ := a
    have hc0 := (hl2 0 (by omega)).1 0 _ rfl
    have hspot : spot = none := by simpa [Addr.add] using World.cell?_spot hc0
    subst hspot
    refine ⟨b, o, rfl, World.block_lt_of_cell? _ _ hc0, fun i hi j u hu => ?_⟩
    have := (hl2 i (by omega)).1 j u hu
    rwa [add_addr, add_addr] at this
theorem ownKnobs : ownKnob Tryz.prog.godebug = none := by kernel_rfl
def laidOne : List (String × DataW Unit) := [("bailey/digest.rounds", Rows.laid_bailey_digest_rounds)]
theorem gRounds : Tryz.prog.globalNamed "bailey/digest.rounds" = some 0 := by kernel_rfl
theorem tRounds : (Tryz.prog.globals[0]?).map (·.type) = some 185 := by kernel_rfl
theorem cells133 : Tryz.prog.cellsOf 133 = 1 := by kernel_rfl
theorem cells185 : Tryz.prog.cellsOf 185 = 64 := by kernel_rfl
/-- What the condition gives: the table. -/
theorem table_of {W : World} (h : laidMetH Tryz.prog laidOne W) : Table W ∧ 0 < W.heap.size := by
  rw [MakeChecks.laidMetH_plain _ _ _ (by kernel_rfl)] at h
  have h2 : laidMet Tryz.prog [("bailey/digest.rounds", Lib.tabData .u32 Sha.K)] W := h
  have hT := Lib.tabIs_of_head gRounds tRounds Tryz.underlying185 Tryz.underlying133 cells133 cells185 h2
  have hc : Table W := fun k hk => hT.cell gRounds k hk
  exact ⟨hc, World.block_lt_of_cell? _ _ (hc 0 (by decide))⟩
theorem tryz_laid : laidOutB Tryz.prog = true := by kernel_rfl
theorem Kept.same {W w' : World} (h : Kept W.heap.size W w') {p : MemPlace} (hp : p.block < W.heap.size) : W.sameAt w' p := by
  cases p with
  | cell b o => exact World.cell?_of_block (w := W) (h.block b hp)
  | map b => exact h.block b hp
theorem Kept.trodAll {H : Type} {enc : TypeId × Value → H} {W W' : World} (hk : Kept W.heap.size W W') : ∀ {ts : List TypeId} {vs : List Value} {ds : List (DataW H)} {ps : List MemPlace}, (∀ t ∈ ts, Tryz.prog.readableRec t = true ∧ t < Tryz.prog.types.size) →
    DataW.TrodAll enc Tryz.prog W 0 (fun _ => true) true ts vs ds ps → (∀ x ∈ ps, x.block < W.heap.size) → DataW.TrodAll enc Tryz.prog W' 0 (fun b => decide (b < W.heap.size)) true ts vs ds ps
  | [], [], [], _, _, h, _ => h
  | t :: ts, v :: vs, d :: ds, ps, hr, h, hlt => by
    obtain ⟨p, q, h1, h2, rfl⟩ := h
    have hp := hr t (by simp)
    exact ⟨p, q, Trod_stays tryz_laid hp.1 hp.2 h1 (fun x hx => hk.same (hlt x (by simp [hx]))) (fun x hx => by simpa using hlt x (by simp [hx])), Kept.trodAll hk (fun t ht => hr t (by simp [ht])) h2 (fun x hx => hlt x (by simp [hx])), rfl⟩
  | [], _ :: _, _, _, _, h, _ => by simp [DataW.TrodAll] at h
  | [], [], _ :: _, _, _, h, _ => by simp [DataW.TrodAll] at h
  | _ :: _, [], _, _, _, h, _ => by simp [DataW.TrodAll] at h
  | _ :: _, _ :: _, [], _, _, h, _ => by simp [DataW.TrodAll] at h
set_option maxRecDepth 100000 in
theorem int_in {H : Type} {enc : TypeId × Value → H} {W : World} {base : Nat} {v : Value} {d : DataW H} {ps : List MemPlace} (h : DataW.Trod enc Tryz.prog W 0 (fun _ => true) true 3 v d ps) (hv : Value.okWide Tryz.prog W .any base 3 v) : ∃ n, v = .int .i64 n ∧ i64 n := by
  obtain ⟨n, e, _, _, hw⟩ := open_int Tryz.underlying3 hv h
  exact ⟨n, e, wf_i64 hw⟩
end Go.Proofs.YtlbacbcenejngaaGreatDoor
