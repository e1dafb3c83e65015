/-
  Ao, Dl, Darg, joined.
-/
import Derived.Test.YtfodibjlldmnpaaDoorSn3
import Derived.Test.YtfodibjlldmnpaaDoorRows
import Derived.ChangeSlices
/-
  shelf.act, every step.
-/
namespace Go.Proofs.YtfodibjlldmnpaaDoor
open Go.RowKit

section
variable {B g N : Nat} {w w1 w2 w3 : World} {vl vs vn vm : Value} {D R : List (Loc Dsk)} {S T : List (Loc Snk)} {ls : List Value} {ms : List ByteArray}
set_option maxRecDepth 100000 in
set_option maxHeartbeats 4000000 in
theorem sink_empty (h : Sw B g N w vl vs vn vm D R S T ls ms) (kind on a : Int) (n s : ByteArray) (vL : Value) (hk : ¬ kind = 11) (hS0 : S.length = 0) :
    Calls Tryd.prog 37 #[ptr g, .agg (acells kind on a n s vL)] w (okEnd B g N w) := by
  have hk2 : Kept w.heap.size w (w.alloc (.cells (acells kind on a n s vL) 36)) := (Kept.refl _ _).alloc (Nat.le_refl _) _
  have HE := hide ((h.kept hk2).ste (hk2.mono h.size))
  obtain ⟨al, cl, hvl, _, _⟩ := own_len h.sh.co.s
  rw [List.length_map, hS0] at hvl
  subst hvl
  have hcg : (w.alloc (.cells (acells kind on a n s vL) 36)).cell? ⟨g, 1, none⟩ = some (.slice al 0 cl) := by rw [cell_of_row _ _ _ _ _ _ (h.kept hk2).sh.co.at']; rfl
  clear h hk2
  simp only [ptr]
  go_enter Tryd.func37, Tryd.ntmps37
  go_wp2
  all_goals go_ret
  all_goals exact ok_of rfl (unhide HE)
theorem sink_go (h : Sw B g N w vl vs vn vm D R S T ls ms) (hN : N ≤ 1048576) (kind on a : Int) (n s : ByteArray) (vL : Value) (hk : 11 ≤ kind) (hon0 : -9223372036854775808 ≤ on) (hon : on ≤ 9223372036854775807) (hs : s.size ≤ 1048576)
    (L : List Int) (hI : ISl w vL L) (hL : L.length ≤ 1048576) (hLr : ∀ j, j < L.length → -9223372036854775808 ≤ L.getD j 0 ∧ L.getD j 0 ≤ 9223372036854775807) (hvB : 0 < L.length → ∀ b, vL.ownBlock = some b → b < B) :
    Calls Tryd.prog 37 #[ptr g, .agg (acells kind on a n s vL)] w (okEnd B g N w) := by
  by_cases h11 : kind = 11
  · exact sink_new h hN kind on a n s vL h11
  by_cases hS : S.length = 0
  · exact sink_empty h kind on a n s vL h11 hS
  by_cases h12 : kind = 12
  · exact sink_give h hN kind on a n s vL h12 hon0 hon (by omega) hs
  by_cases h13 : kind = 13
  · exact sink_fail h hN kind on a n s vL h13 hon0 hon (by omega) L hI hL hLr hvB
  exact sink_none h hN kind on a n s vL (by omega) hon0 hon (by omega)
set_option maxRecDepth 100000 in
set_option maxHeartbeats 4000000 in
theorem act_empty (h : Sw B g N w vl vs vn vm D R S T ls ms) (kind on a : Int) (n s : ByteArray) (vL : Value) (hk : ¬ kind = 1) (hk2 : ¬ 11 ≤ kind) (hD0 : D.length = 0) :
    Calls Tryd.prog 9 #[ptr g, .agg (acells kind on a n s vL)] w (okEnd B g N w) := by
  have hk3 : Kept w.heap.size w (w.alloc (.cells (acells kind on a n s vL) 36)) := (Kept.refl _ _).alloc (Nat.le_refl _) _
  have HE := hide ((h.kept hk3).ste (hk3.mono h.size))
  obtain ⟨al, cl, hvl, _, _⟩ := own_len h.sh.co.l
  rw [List.length_map, hD0] at hvl
  subst hvl
  have hcg : (w.alloc (.cells (acells kind on a n s vL) 36)).cell? ⟨g, 0, none⟩ = some (.slice al 0 cl) := by rw [cell_of_row _ _ _ _ _ _ (h.kept hk3).sh.co.at']; rfl
  clear h hk3
  simp only [ptr]
  go_enter Tryd.func9, Tryd.ntmps9
  go_wp2
  all_goals go_ret
  all_goals exact ok_of rfl (unhide HE)
set_option maxRecDepth 100000 in
set_option maxHeartbeats 4000000 in
theorem act_sink (h : Sw B g N w vl vs vn vm D R S T ls ms) (hN : N ≤ 1048576) (kind on a : Int) (n s : ByteArray) (vL : Value) (hk : 11 ≤ kind) (hon0 : -9223372036854775808 ≤ on) (hon : on ≤ 9223372036854775807) (hs : s.size ≤ 1048576)
    (L : List Int) (hI : ISl w vL L) (hL : L.length ≤ 1048576) (hLr : ∀ j, j < L.length → -9223372036854775808 ≤ L.getD j 0 ∧ L.getD j 0 ≤ 9223372036854775807) (hvB : 0 < L.length → ∀ b, vL.ownBlock = some b → b < B) :
    Calls Tryd.prog 9 #[ptr g, .agg (acells kind on a n s vL)] w (okEnd B g N w) := by
  have hk3 : Kept w.heap.size w (w.alloc (.cells (acells kind on a n s vL) 36)) := (Kept.refl _ _).alloc (Nat.le_refl _) _
  have HC := hide (sink_go (h.kept hk3) hN kind on a n s vL hk hon0 hon hs L (hI.kept hk3) hL hLr hvB)
  have HB := hide (hk3.mono h.size)
  have hn1 : ¬ kind = 1 := by omega
  clear h hk3 hI
  simp only [ptr] at HC ⊢
  go_enter Tryd.func9, Tryd.ntmps9
  go_wp2_with fail
  refine (unhide HC).mono ?_
  rintro _ w3 ⟨rfl, h3⟩
  have H3 := hide (ste_after (unhide HB) h3)
  clear h3
  go_wp2
  all_goals go_ret
  all_goals exact ok_of rfl (unhide H3)
set_option maxRecDepth 100000 in
set_option maxHeartbeats 4000000 in
theorem act_new (h : Sw B g N w vl vs vn vm D R S T ls ms) (hN : N ≤ 1048576) (kind on a : Int) (n s : ByteArray) (vL : Value) (hk : kind = 1) :
    Calls Tryd.prog 9 #[ptr g, .agg (acells kind on a n s vL)] w (okEnd B g N w) := by
  subst hk
  have hk2 : Kept w.heap.size w (w.alloc (.cells (acells 1 on a n s vL) 36)) := (Kept.refl _ _).alloc (Nat.le_refl _) _
  have HB := hide (hk2.mono h.size)
  have HW := hide (h.kept hk2)
  have hnD := h.nD
  have hDl : (D.map (·.p)).length = D.length := List.length_map _
  clear h hk2
  simp only [ptr]
  go_enter Tryd.func9, Tryd.ntmps9
  go_wp2_with fail
  generalize w.alloc (.cells (acells 1 on a n s vL) 36) = W at *
  refine (new_disk_go B W).mono ?_
  rintro _ w3 ⟨po, vo, rfl, hd3, hp3, hv3, hk3⟩
  have H3 := hide (And.intro hd3 (And.intro hp3 (And.intro hv3 hk3)))
  clear hd3 hp3 hv3 hk3
  go_wp2_with fail
  refine (new_disk_ref B w3).mono ?_
  rintro _ w4 ⟨qo, uo, rfl, hd4, hp4, hv4, hk4⟩
  have H4 := hide (And.intro hd4 (And.intro hp4 (And.intro hv4 hk4)))
  have HSW := hide (((unhide HW).kept (unhide H3).2.2.2).kept hk4)
  obtain ⟨al, cl, hvl, _, _⟩ := own_len (unhide HSW).sh.co.l
  subst hvl
  have hcg0 : w4.cell? ⟨g, 0, none⟩ = some (.slice al (D.map (·.p)).length cl) := by rw [cell_of_row _ _ _ _ _ _ (unhide HSW).sh.co.at']; rfl
  clear hd4 hp4 hv4 hk4
  go_wp2_with (refine wpList_halt2 (.tmp 19) (.tmp 23) 27 rfl ?_)
  refine Stp.mk ?_
  refine wpList_append_pair rfl (.tmp 19) (.tmp 23) 27 74 rfl B Tryd.underlying27 info74 (.slice al (D.map (·.p)).length cl) (D.map (·.p)).length (pcells (D.map (·.p)) (R.map (·.p))) po qo w4 ?_ (unhide HSW).sh.co.l (by omega) rfl rfl (unhide HSW).size ?_
  · simp [Act.eval]
  intro vl' w5 ho5 hu5
  have hP := (unhide HW).pushD (good0 _) (unhide H3).2.2.2 (unhide H3).1 (unhide H3).2.1 (unhide H3).2.2.1 (unhide H4).2.2.2 (unhide H4).1 (unhide H4).2.1 (unhide H4).2.2.1 ho5 hu5
  have hc5 := hP.2.1
  have hz5 := hP.2.2
  obtain ⟨al', cl', hvl', _, _⟩ := own_len ho5
  subst hvl'
  have HP := hide (ste_after (unhide HB) hP.1)
  clear hP ho5 hu5
  simp only [Act.put, List.setIfInBounds_toArray, List.set_cons_zero, List.set_cons_succ]
  go_wp2
  all_goals go_ret
  all_goals exact ok_of (by simp) (by have := unhide HP; rwa [hDl] at this)
theorem act_go (h : Sw B g N w vl vs vn vm D R S T ls ms) (hN : N ≤ 1048576) (kind on a : Int) (n s : ByteArray) (vL : Value) (hon0 : -9223372036854775808 ≤ on) (hon : on ≤ 9223372036854775807) (ha0 : -9223372036854775808 ≤ a) (ha : a ≤ 9223372036854775807) (hs : s.size ≤ 1048576)
    (L : List Int) (hI : ISl w vL L) (hL : L.length ≤ 1048576) (hLr : ∀ j, j < L.length → -9223372036854775808 ≤ L.getD j 0 ∧ L.getD j 0 ≤ 9223372036854775807) (hvB : 0 < L.length → ∀ b, vL.ownBlock = some b → b < B) :
    Calls Tryd.prog 9 #[ptr g, .agg (acells kind on a n s vL)] w (okEnd B g N w) := by
  by_cases h1 : kind = 1
  · exact act_new h hN kind on a n s vL h1
  by_cases h11 : 11 ≤ kind
  · exact act_sink h hN kind on a n s vL h11 hon0 hon hs L hI hL hLr hvB
  by_cases hD : D.length = 0
  · exact act_empty h kind on a n s vL h1 h11 hD
  by_cases h2 : kind = 2
  · exact act_append h hN kind on a n s vL h2 hon0 hon (by omega) hs
  by_cases h3 : kind = 3
  · exact act_sync h hN kind on a n s vL h3 hon0 hon (by omega)
  by_cases h4 : kind = 4
  · exact act_rename h hN kind on a n s vL h4 hon0 hon (by omega)
  by_cases h5 : kind = 5
  · exact act_remove h hN kind on a n s vL h5 hon0 hon (by omega)
  exact act_told h hN kind on a n s vL (by omega) hon0 hon (by omega) ha0 ha
end
end Go.Proofs.YtfodibjlldmnpaaDoor
/-
  The law Disks.
-/
namespace Go.Proofs.YtfodibjlldmnpaaDoor
open Go.RowKit

/-- An act that came in. -/
structure Ac6 where
  kind : Int
  on : Int
  a : Int
  n : ByteArray
  s : ByteArray
  vL : Value
  L : List Int
structure Act6 (w : World) (c : Ac6) : Prop where
  on : -9223372036854775808 ≤ c.on ∧ c.on ≤ 9223372036854775807
  a : -9223372036854775808 ≤ c.a ∧ c.a ≤ 9223372036854775807
  s : c.s.size ≤ 1048576
  isl : ISl w c.vL c.L
  len : c.L.length ≤ 1048576
  rng : ∀ j, j < c.L.length → -9223372036854775808 ≤ c.L.getD j 0 ∧ c.L.getD j 0 ≤ 9223372036854775807
def ac0 : Ac6 := ⟨0, 0, 0, .empty, .empty, .slice none 0 0, []⟩
/-- The script in memory. -/
structure Scr (w : World) (v : Value) (l : List Ac6) : Prop where
  val : ∃ a cap, v = .slice a l.length cap ∧ (0 < l.length → ∃ b o, a = some ⟨b, o, none⟩ ∧ b < w.heap.size ∧ ∀ i, i < l.length → w.rangeAt b (o + i * 6) (acells (l.getD i ac0).kind (l.getD i ac0).on (l.getD i ac0).a (l.getD i ac0).n (l.getD i ac0).s (l.getD i ac0).vL).toList)
  each : ∀ i, i < l.length → Act6 w (l.getD i ac0)
  len : l.length ≤ 1048576
theorem isl_lt {w : World} {v : Value} {L : List Int} (h : ISl w v L) : 0 < L.length → ∀ b, v.ownBlock = some b → b < w.heap.size := fun hp b hb => by
  rcases h with ⟨rfl, _⟩ | ⟨b', o, c, _, rfl, _, h2, _⟩
  · simp at hp
  · simp [Value.ownBlock] at hb; omega
theorem ste_zero {B g : Nat} {w : World} (hg : w.heap[g]? = some (.cells #[.slice none 0 0, .slice none 0 0, .slice none 0 0, .slice none 0 0] 32 (0, 0))) (hB : B ≤ g) : StE B g 0 w :=
  ⟨_, _, _, _, [], [], [], [], [], [], ⟨⟨hg, hB, rfl, rfl, World.ownsRow_nil _ _ _ _, World.ownsRow_nil _ _ _ _, ⟨World.ownsRow_nil _ _ _ _, World.ownsRow_nil _ _ _ _, rfl, fun k hk => absurd hk (by simp)⟩⟩, .nil, .nil, .nil, .nil, by simp⟩, rfl, rfl, Nat.le_refl _, Nat.le_refl _, Nat.le_refl _, by simp, by simp⟩
theorem abc_ends : Sha.at8 (Sha.digest [97, 98, 99]) 0 = 186 ∧ Sha.at8 (Sha.digest [97, 98, 99]) 31 = 173 := by rw [Sha.abc]; decide
set_option maxRecDepth 100000 in
set_option maxHeartbeats 4000000 in
theorem disks_law (v : Value) (l : List Ac6) (w : World) (h : Scr w v l) (hT : Table w) (hz : 0 < w.heap.size) :
    Calls Tryd.prog 3 #[v] w fun e w' => e = .returned (.bool true) ∧ Kept w.heap.size w w' := by
  obtain ⟨av, cv, rfl, hav⟩ := h.val
  have hln := h.len
  have HE := hide h.each
  have HV := hide hav
  obtain ⟨G, hG⟩ : ∃ G, G = Sha.digest [97, 98, 99] := ⟨_, rfl⟩
  have hGl : G.length = 32 := by rw [hG]; exact Sha.digest_length _
  have HG := hide hG
  have HT := hide hT
  clear h hav hT hG
  go_enter Tryd.func3, Tryd.ntmps3
  go_wp2_with fail
  refine (bailey_digest ⟨#[97, 98, 99]⟩ w (by decide) (unhide HT) hz).mono ?_
  rintro _ w1 ⟨rfl, hb1⟩
  have hG2 : Sha.digest (ByteArray.mk #[97, 98, 99]).data.toList = G := (unhide HG).symm
  rw [hG2]
  have HK1 := hide (Kept.of hb1)
  clear hb1 hG2
  go_wp2_with (refine wpList_store_put rfl 24 (.tmp 3) (.tmp 8) rfl w1.heap.size (brow G) ?_ ?_ 24 (brow (List.replicate 32 0)) ?_ (rinfo hGl) (rzero hGl) (brow_one _) ?_
               · rfl
               · rfl
               · exact heap_alloc_new _ _
               intro w2 hp2
               have HP2 := hide hp2
               have hc0 : w2.cell? ⟨w1.heap.size, 0, none⟩ = some (.int .u8 186) := (by rw [cell_of_row _ _ _ _ _ _ (unhide HP2).row, unhide HG, Sha.abc]; rfl)
               have hc31 : w2.cell? ⟨w1.heap.size, 31, none⟩ = some (.int .u8 173) := (by rw [cell_of_row _ _ _ _ _ _ (unhide HP2).row, unhide HG, Sha.abc]; rfl)
               clear hp2)
  have HK2 := hide (show Kept w.heap.size w w2 from (unhide HK1).trans ((((Kept.refl _ w1).alloc (Nat.le_refl _) _).trans (.of ((unhide HP2).below (Nat.le_refl _)))).mono (unhide HK1).size))
  have HS0 := hide (ste_zero (B := w.heap.size) (g := w2.heap.size) (w := w2.alloc (.cells #[.slice none 0 0, .slice none 0 0, .slice none 0 0, .slice none 0 0] 32)) (heap_alloc_new _ _) (unhide HK2).size)
  go_loopw [6, 4] (fun vi vb wr => ∃ i : Nat, i ≤ l.length ∧ vi = .int .i64 i ∧ vb = .bool true ∧ StE w.heap.size w2.heap.size i wr ∧ Kept w.heap.size w wr) (fun vi _ _ => l.length - (intOf vi).toNat)
  case atStart => exact ⟨0, Nat.zero_le _, rfl, rfl, unhide HS0, (unhide HK2).trans ((Kept.refl _ _).alloc (unhide HK2).size _)⟩
  case round =>
    obtain ⟨i, hi, rfl, rfl, hst, hkr⟩ := hrel
    have HK := hide hkr
    have HST := hide hst
    clear hst hkr
    by_cases hlt : i < l.length
    · obtain ⟨b, o, rfl, hbw, hrg⟩ := unhide HV (by omega)
      have hiI : (i : Int) < (l.length : Int) := by omega
      have hi0 : (0 : Int) ≤ (i : Int) := by omega
      have hA := unhide HE i hlt
      have hr := hrg i hlt
      generalize l.getD i ac0 = c at hA hr
      obtain ⟨kind, on, a, n, s, vL, L⟩ := c
      have hcell : ∀ j u, (acells kind on a n s vL).toList[j]? = some u → wr.cell? ⟨b, o + i * 6 + j, none⟩ = some u := fun j u hu => ((unhide HK).cell (p := ⟨b, o + i * 6 + j, none⟩) hbw).trans (hr j u hu)
      have c0 := hcell 0 _ rfl
      have c1 := hcell 1 _ rfl
      have c2 := hcell 2 _ rfl
      have c3 := hcell 3 _ rfl
      have c4 := hcell 4 _ rfl
      have c5 := hcell 5 _ rfl
      rw [Nat.add_zero] at c0
      have HA := hide hA
      clear hrg hA hr hcell
      obtain ⟨vl, vs, vn, vm, D, R, S, T, ls, ms, hsw⟩ := unhide HST
      have HC := hide (act_go hsw (by omega) kind on a n s vL (unhide HA).on.1 (unhide HA).on.2 (unhide HA).a.1 (unhide HA).a.2 (unhide HA).s L ((unhide HA).isl.blocks (unhide HK).size fun hp k hk => (unhide HK).block k (isl_lt (unhide HA).isl hp k hk)) (unhide HA).len (unhide HA).rng (isl_lt (unhide HA).isl))
      clear hsw HST
      simp only [ptr] at HC
      go_wp2_with fail
      refine (unhide HC).mono ?_
      rintro _ w3 ⟨rfl, hs3, hk3⟩
      obtain ⟨vl, vs, vn, vm, D, R, S, T, ls, ms, hsw⟩ := hs3
      have HS3 := hide hsw
      have HK3 := hide ((unhide HK).trans hk3)
      clear hsw hk3
      go_wp2_with fail
      refine (shelf_looks_go w.heap.size w2.heap.size w3 vl vs vn vm ls ms (unhide HS3).sh.co.at' (unhide HS3).sh.co.nm (by have := (unhide HS3).nL; omega)).mono ?_
      rintro _ w4 ⟨rfl, hk4⟩
      have HS4 := hide ((unhide HS3).kept hk4)
      have HK4 := hide ((unhide HK3).trans (hk4.mono (unhide HS3).size))
      clear hk4
      go_wp2_with fail
      go_roundw
      case rel => exact ⟨i + 1, by omega, by go_num, rfl, ⟨_, _, _, _, _, _, _, _, _, _, unhide HS4⟩, unhide HK4⟩
      case measure => simp [intOf]; omega
    · have hiI : ¬ (i : Int) < (l.length : Int) := by omega
      go_wp2
      all_goals go_ret
      all_goals exact ⟨rfl, unhide HK⟩
end Go.Proofs.YtfodibjlldmnpaaDoor
/-
  The script that came in.
-/
namespace Go.Proofs.YtfodibjlldmnpaaDoor
open Go.ChangeShapes Go.WideShapes Go.RowKit

theorem bulk_one {H : Type} (d : DataW H) : 1 ≤ Rows.uptoBulk d := by
  cases d with
  | lit l => cases l <;> simp [Rows.uptoBulk]
  | nil => simp [Rows.uptoBulk]
  | ptr d => simp [Rows.uptoBulk]
  | slice elems spare => simp [Rows.uptoBulk]
  | agg parts => simp [Rows.uptoBulk]
  | iface t d => simp [Rows.uptoBulk]
  | map entries => simp [Rows.uptoBulk]
  | held h => simp [Rows.uptoBulk]
theorem bulk_part {H : Type} {d : DataW H} : ∀ {l : List (DataW H)}, d ∈ l → Rows.uptoBulk d ≤ Rows.uptoBulkAll l
  | x :: r, h => by
    simp only [Rows.uptoBulkAll]
    rcases List.mem_cons.1 h with rfl | h
    · omega
    · have := bulk_part h; omega
theorem bulk_len {H : Type} : ∀ l : List (DataW H), l.length ≤ Rows.uptoBulkAll l
  | [] => by simp [Rows.uptoBulkAll]
  | x :: r => by have := bulk_one x; have := bulk_len r; simp only [Rows.uptoBulkAll, List.length_cons]; omega
theorem list_of6 {α : Type} {d : α} {Φ : Nat → α → Prop} {n : Nat} (h : ∀ i, i < n → ∃ x, Φ i x) : ∃ l : List α, l.length = n ∧ ∀ i, i < n → Φ i (l.getD i d) := by
  refine ⟨(List.range n).map fun i => if hi : i < n then Classical.choose (h i hi) else d, by simp, fun i hi => ?_⟩
  rw [List.getD_eq_getElem?_getD, List.getElem?_map, List.getElem?_range hi]
  simp only [Option.map_some, dif_pos hi, Option.getD_some]
  exact Classical.choose_spec (h i hi)
theorem acell3 : Tryd.prog.cellsOf 3 = 1 := by kernel_rfl
theorem acell9 : Tryd.prog.cellsOf 9 = 1 := by kernel_rfl
theorem acell34 : Tryd.prog.cellsOf 34 = 1 := by kernel_rfl
theorem acell36 : Tryd.prog.cellsOf 36 = 6 := by kernel_rfl
theorem wf_i64 {n : Int} (h : (Lit.int .i64 n).wf = true) : -9223372036854775808 ≤ n ∧ n ≤ 9223372036854775807 := by
  simpa [Lit.wf, IntKind.min, IntKind.max, IntKind.signed, IntKind.bits] using h
set_option maxRecDepth 100000 in
theorem act_in {H : Type} {enc : TypeId × Value → H} {W : World} {n : Nat} {cs : List Value} {x : DataW H × List MemPlace} (h : DataW.trod enc Tryd.prog W 0 (fun _ => true) true n 36 cs = some x) (hb : Rows.uptoBulk x.1 ≤ 1048576) :
    ∃ c : Ac6, cs = (acells c.kind c.on c.a c.n c.s c.vL).toList ∧ Act6 W c := by
  obtain ⟨xs, m, _, rfl, hl, hlen, hf⟩ := DataW.trod_struct Tryd.underlying36 h
  rw [acell36] at hl
  obtain ⟨c0, c1, c2, c3, c4, c5, rfl⟩ : ∃ c0 c1 c2 c3 c4 c5, cs = [c0, c1, c2, c3, c4, c5] := by
    match cs, hl with
    | [c0, c1, c2, c3, c4, c5], _ => exact ⟨c0, c1, c2, c3, c4, c5, rfl⟩
  obtain ⟨x0, x1, x2, x3, x4, x5, rfl⟩ : ∃ x0 x1 x2 x3 x4 x5, xs = [x0, x1, x2, x3, x4, x5] := by
    match xs, hlen with
    | [x0, x1, x2, x3, x4, x5], _ => exact ⟨x0, x1, x2, x3, x4, x5, rfl⟩
  have f0 : DataW.trod enc Tryd.prog W 0 (fun _ => true) true m 3 (([c0, c1, c2, c3, c4, c5].drop 0).take (Tryd.prog.cellsOf 3)) = some x0 := hf 0 _ rfl
  have f1 : DataW.trod enc Tryd.prog W 0 (fun _ => true) true m 3 (([c0, c1, c2, c3, c4, c5].drop 1).take (Tryd.prog.cellsOf 3)) = some x1 := hf 1 _ rfl
  have f2 : DataW.trod enc Tryd.prog W 0 (fun _ => true) true m 3 (([c0, c1, c2, c3, c4, c5].drop 2).take (Tryd.prog.cellsOf 3)) = some x2 := hf 2 _ rfl
  have f3 : DataW.trod enc Tryd.prog W 0 (fun _ => true) true m 9 (([c0, c1, c2, c3, c4, c5].drop 3).take (Tryd.prog.cellsOf 9)) = some x3 := hf 3 _ rfl
  have f4 : DataW.trod enc Tryd.prog W 0 (fun _ => true) true m 9 (([c0, c1, c2, c3, c4, c5].drop 4).take (Tryd.prog.cellsOf 9)) = some x4 := hf 4 _ rfl
  have f5 : DataW.trod enc Tryd.prog W 0 (fun _ => true) true m 34 (([c0, c1, c2, c3, c4, c5].drop 5).take (Tryd.prog.cellsOf 34)) = some x5 := hf 5 _ rfl
  rw [acell3] at f0 f1 f2
  rw [acell9] at f3 f4
  rw [acell34] at f5
  obtain ⟨kind, e0, _, w0⟩ := DataW.trod_int Tryd.underlying3 f0
  obtain ⟨on, e1, _, w1⟩ := DataW.trod_int Tryd.underlying3 f1
  obtain ⟨a, e2, _, w2⟩ := DataW.trod_int Tryd.underlying3 f2
  obtain ⟨nn, e3, _, _⟩ := DataW.trod_string Tryd.underlying9 f3
  obtain ⟨s, e4, g4, _⟩ := DataW.trod_string Tryd.underlying9 f4
  simp at e0 e1 e2 e3 e4
  subst e0 e1 e2 e3 e4
  have hb' : Rows.uptoBulkAll [x0.1, x1.1, x2.1, x3.1, x4.1, x5.1] + 1 ≤ 1048576 := hb
  have hs : s.size ≤ 1048576 := by
    have this : Rows.uptoBulk x4.1 ≤ 1048576 := by have := bulk_part (l := [x0.1, x1.1, x2.1, x3.1, x4.1, x5.1]) (d := x4.1) (by simp); omega
    rw [g4] at this
    simp only [Rows.uptoBulk] at this
    rw [Array.length_toList] at this
    have e : s.data.size = s.size := rfl
    omega
  have h5 : Rows.uptoBulk x5.1 ≤ 1048576 := by have := bulk_part (l := [x0.1, x1.1, x2.1, x3.1, x4.1, x5.1]) (d := x5.1) (by simp); omega
  rcases open_ints Tryd.underlying34 Tryd.underlying3 acell3 f5 with ⟨e5, _⟩ | ⟨ad, len, cap, zs, e5, hbb, hlc, hcm, hzl, hx5, hcell, hwf⟩
  · simp at e5
    subst e5
    exact ⟨⟨kind, on, a, nn, s, .slice none 0 0, []⟩, rfl, ⟨wf_i64 w1, wf_i64 w2, hs, .inl ⟨rfl, .inl rfl⟩, by simp, by simp⟩⟩
  · simp at e5
    subst e5
    simp only [if_true] at hzl
    have hlz : (zs.take len).length = len := by rw [List.length_take]; omega
    have hlb : len ≤ 1048576 := by
      rw [hx5] at h5
      simp only [Rows.uptoBulk] at h5
      have := bulk_len (lits (H := H) .i64 (zs.take len))
      rw [lits, List.length_map, hlz] at this
      rw [lits] at h5
      omega
    refine ⟨⟨kind, on, a, nn, s, .slice (some ad) len cap, zs.take len⟩, rfl, ⟨wf_i64 w1, wf_i64 w2, hs, ?_, by rw [hlz]; exact hlb, ?_⟩⟩
    · rcases Nat.eq_zero_or_pos len with h0 | h0
      · subst h0
        exact .inl ⟨by simp, .inr ⟨ad, cap, rfl⟩⟩
      · obtain ⟨b, o, spot⟩ := ad
        have hc0 := hcell 0 (by omega)
        have hspot : spot = none := by simpa [Addr.add] using World.cell?_spot hc0
        subst hspot
        refine .inr ⟨b, o, cap, by rw [hlz]; exact h0, by rw [hlz], by rw [hlz]; exact hlc, World.block_lt_of_cell? _ _ hc0, fun j hj => ?_⟩
        rw [hlz] at hj
        have := hcell j (by omega)
        rw [add_addr] at this
        rw [this, List.getD_eq_getElem?_getD, List.getD_eq_getElem?_getD, List.getElem?_take, if_pos hj]
    · intro j hj
      rw [hlz] at hj
      have hm : (zs.take len).getD j 0 ∈ zs := by
        rw [List.getD_eq_getElem?_getD, List.getElem?_take, if_pos hj, List.getElem?_eq_getElem (by omega)]
        exact List.getElem_mem _
      exact wf_i64 (hwf _ hm)
set_option maxRecDepth 100000 in
theorem acts_in {H : Type} {enc : TypeId × Value → H} {W : World} {a0 : Option Addr} {n0 c0 : Nat} {d : DataW H} {ps : List MemPlace} (h : DataW.Trod enc Tryd.prog W 0 (fun _ => true) true 22 (.slice a0 n0 c0) d ps) (hb : Rows.uptoBulk d ≤ 1048576) : ∃ l, Scr W (.slice a0 n0 c0) l := by
  obtain ⟨fuel, hf⟩ := h
  rcases DataW.trod_slice Tryd.underlying22 hf with ⟨hcs, _⟩ | ⟨a, len, cap, elems, rest, n, _, hcs, hx, _, hl, hm, hlen, hel, _, _⟩
  · simp [Value.cells] at hcs
    obtain ⟨rfl, rfl, rfl⟩ := hcs
    exact ⟨[], ⟨none, 0, rfl, fun h => absurd h (by simp)⟩, fun i hi => absurd hi (by simp), by simp⟩
  · simp [Value.cells] at hcs
    obtain ⟨rfl, rfl, rfl⟩ := hcs
    simp only [Prod.mk.injEq] at hx
    obtain ⟨rfl, _⟩ := hx
    have hb2 : Rows.uptoBulkAll (elems.map (·.1)) + 1 ≤ 1048576 := by simp only [Rows.uptoBulk] at hb; omega
    have hlb : n0 ≤ 1048576 := by have := bulk_len (elems.map (·.1)); rw [List.length_map, hlen] at this; omega
    rw [acell36] at hel
    have each : ∀ i, i < n0 → ∃ c : Ac6, (∀ j u, (acells c.kind c.on c.a c.n c.s c.vL).toList[j]? = some u → W.cell? ((a.add (i * 6)).add j) = some u) ∧ Act6 W c := by
      intro i hi
      have h1 := hel i hi
      rw [List.getElem?_eq_getElem (by omega), Option.bind_eq_some_iff] at h1
      obtain ⟨cs, hcs, ht2⟩ := h1
      obtain ⟨c, hc, hA⟩ := act_in ht2 (by have := bulk_part (l := elems.map (·.1)) (d := (elems[i]'(by omega)).1) (List.mem_map.2 ⟨_, List.getElem_mem _, rfl⟩); omega)
      refine ⟨c, fun j u hu => ?_, hA⟩
      have h6 : j < 6 := by have := (List.getElem?_eq_some_iff.1 hu).1; simpa using this
      have := (World.cells?_some hcs).2.2 j h6
      rw [this, hc]; exact hu
    obtain ⟨l, hll, hl2⟩ := list_of6 (d := ac0) each
    refine ⟨l, ⟨some a, c0, by rw [hll], fun h0 => ?_⟩, fun i hi => (hl2 i (by omega)).2, by omega⟩
    obtain ⟨b, o, spot⟩ := a
    have hc0 := (hl2 0 (by omega)).1 0 _ rfl
    have hspot : spot = none := by simpa [Addr.add] using World.cell?_spot hc0
    subst hspot
    refine ⟨b, o, rfl, World.block_lt_of_cell? _ _ hc0, fun i hi j u hu => ?_⟩
    have := (hl2 i (by omega)).1 j u hu
    rwa [add_addr, add_addr] at this
end Go.Proofs.YtfodibjlldmnpaaDoor
