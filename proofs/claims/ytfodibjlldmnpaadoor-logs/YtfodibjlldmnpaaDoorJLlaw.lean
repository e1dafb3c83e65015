/-
  Llaw, Lrow, joined.
-/
import Derived.Test.YtfodibjlldmnpaaDoorJCsame
import Derived.Test.YtfodibjlldmnpaaDoorJPcall
/-
  The law Logs.
-/
namespace Go.Proofs.YtfodibjlldmnpaaDoor
open Go.RowKit

theorem getD_le (X : List ByteArray) (k m : Nat) (h : ∀ x ∈ X, x.size ≤ m) : (X.getD k ByteArray.empty).size ≤ m := by
  by_cases hk : k < X.length
  · exact getD_size hk h
  · rw [List.getD_eq_getElem?_getD, List.getElem?_eq_none (by omega)]
    exact Nat.zero_le _
theorem clOf_size (a b : ByteArray) : (clOf a b).1.size ≤ a.size ∧ (clOf a b).2.1.size ≤ b.size := by
  rw [clOf]
  split
  · rw [clashF]
    split
    · exact ⟨getD_le _ _ _ (walk_size a), getD_le _ _ _ (walk_size b)⟩
    · exact ⟨Nat.zero_le _, Nat.zero_le _⟩
  · exact ⟨Nat.zero_le _, Nat.zero_le _⟩
set_option maxRecDepth 100000 in
set_option maxHeartbeats 4000000 in
theorem logs_law (a b : ByteArray) (n : Int) (H : List UInt8) (w : World) (ha : a.size ≤ 140737488351232) (hb : b.size ≤ 140737488351232) (hH : H.length = 32) (hT : Table w) (hz : 0 < w.heap.size) :
    Calls Tryd.prog 6 #[.string a, .int .i64 n, .agg (brow H), .string b] w fun e w' => e = .returned (.bool true) ∧ Kept w.heap.size w w' := by
  have HT := hide hT
  clear hT
  obtain ⟨e1, he1⟩ : ∃ e, e = (vfyOf (ents a 0).1 (ents a 0).2 n H).1 := ⟨_, rfl⟩
  obtain ⟨k1, hk1⟩ : ∃ e, e = (vfyOf (ents a 0).1 (ents a 0).2 n H).2 := ⟨_, rfl⟩
  have HE := hide (And.intro he1 hk1)
  clear he1 hk1
  go_enter Tryd.func6, Tryd.ntmps6
  go_wp2_with (refine wpList_load_row rfl 24 _ rfl w.heap.size ?_ 24 (brow H) (0, 0) _ ?_ Tryd.underlying24 rfl (rinfo hH) ?_
               · rfl
               · exact heap_alloc_new _ _)
  have hk0 : Kept w.heap.size w (w.alloc (.cells (brow H) 24)) := (Kept.refl _ _).alloc (Nat.le_refl _) _
  refine (bailey_verify a n H _ (by omega) hH ((unhide HT).kept hk0 hz) (by simp)).mono ?_
  rintro _ w1 ⟨rfl, hk1⟩
  rw [← (unhide HE).1, ← (unhide HE).2]
  have H1 := hide (show Kept w.heap.size w w1 ∧ w1.heap[w.heap.size]? = some (.cells (brow H) 24 (0, 0)) from ⟨hk0.trans (hk1.mono (by simp)), (hk1.block _ (by simp)).trans (heap_alloc_new _ _)⟩)
  clear hk0 hk1
  go_wp2_with (refine wpList_load_row rfl 24 _ rfl w.heap.size ?_ 24 (brow H) (0, 0) _ ?_ Tryd.underlying24 rfl (rinfo hH) ?_
               · rfl
               · exact (unhide H1).2)
  refine (verify_ref a n H w1 ha hH).mono ?_
  rintro _ w2 ⟨rfl, hk2⟩
  rw [← (unhide HE).1, ← (unhide HE).2]
  have H2 := hide (show Kept w.heap.size w w2 from (unhide H1).1.trans (hk2.mono (unhide H1).1.size))
  clear hk2
  go_wp2_with fail
  refine (num_go e1 w2).mono ?_
  rintro _ w2' ⟨rfl, rfl⟩
  obtain ⟨x, hx⟩ : ∃ x, x = (clOf a b).1 := ⟨_, rfl⟩
  obtain ⟨y, hy⟩ : ∃ y, y = (clOf a b).2.1 := ⟨_, rfl⟩
  obtain ⟨g, hg⟩ : ∃ g, g = (clOf a b).2.2 := ⟨_, rfl⟩
  have HC := hide (And.intro hx (And.intro hy hg))
  have HS := hide (And.intro (show x.size ≤ 140737488355000 from by rw [hx]; have := (clOf_size a b).1; omega) (show y.size ≤ 140737488355000 from by rw [hy]; have := (clOf_size a b).2; omega))
  clear hx hy hg
  go_wp2_with fail
  refine (bailey_clash a b w2' (by omega) (by omega) ((unhide HT).kept (unhide H2) hz) (Nat.lt_of_lt_of_le hz (unhide H2).size)).mono ?_
  rintro _ w3 ⟨rfl, hk3⟩
  rw [← (unhide HC).1, ← (unhide HC).2.1, ← (unhide HC).2.2]
  have H3 := hide (show Kept w.heap.size w w3 from (unhide H2).trans (hk3.mono (unhide H2).size))
  clear hk3
  go_wp2_with fail
  refine (pair_of_ref a b w3 ha hb).mono ?_
  rintro _ w4 ⟨rfl, hk4⟩
  have H4 := hide (show Kept w.heap.size w w4 from (unhide H3).trans (hk4.mono (unhide H3).size))
  clear hk4
  by_cases hp : pairOf a b = true
  · have hcl := clash_yes hp
    rw [← (unhide HC).1, ← (unhide HC).2.1, ← (unhide HC).2.2] at hcl
    rw [hp]
    obtain ⟨hg0, hxy, hdg⟩ := hcl
    have hxyL : (x.toList == y.toList) = false := by
      rw [beq_eq_false_iff_ne]
      exact fun h => hxy (str_inj h)
    obtain ⟨G, hG⟩ : ∃ G, G = Sha.digest x.data.toList := ⟨_, rfl⟩
    have hGl : G.length = 32 := by rw [hG]; exact Sha.digest_length _
    have heq : ∀ W, (Op.equalIn 10000 24 (.agg (brow G)) (.agg (brow G))).run Tryd.prog W = .ok true W := fun W => same_row G hGl W
    have hg24 := guard_24
    have HG := hide (And.intro hG (hG.trans hdg))
    clear hdg hG hxy
    go_wp2_with fail
    refine (digest_ref x w4 (unhide HS).1).mono ?_
    rintro _ w5 ⟨rfl, hk5⟩
    rw [← (unhide HG).1]
    have H5 := hide (show Kept w.heap.size w w5 from (unhide H4).trans (hk5.mono (unhide H4).size))
    clear hk5
    go_wp2_with (refine wpList_store_put rfl 24 _ _ rfl w5.heap.size (brow G) ?_ ?_ 24 (brow zerosC) ?_ (rinfo hGl) (rzero hGl) (brow_one _) ?_
                 · rfl
                 · rfl
                 · exact heap_alloc_new _ _
                 intro w6 hp6
                 have H6 := hide (show Kept w.heap.size w w6 ∧ w6.heap[w5.heap.size]? = some (.cells (brow G) 24 (0, 0)) from ⟨(unhide H5).trans ((put_new hp6).mono (unhide H5).size), hp6.row⟩)
                 clear hp6)
    refine (digest_ref y w6 (unhide HS).2).mono ?_
    rintro _ w7 ⟨rfl, hk7⟩
    rw [← (unhide HG).2]
    have H7 := hide (show Kept w.heap.size w w7 ∧ w7.heap[w5.heap.size]? = some (.cells (brow G) 24 (0, 0)) from ⟨(unhide H6).1.trans (hk7.mono (unhide H6).1.size), (hk7.block _ (Array.getElem?_eq_some_iff.1 (unhide H6).2).1).trans (unhide H6).2⟩)
    clear hk7
    go_wp2_with (refine wpList_store_put rfl 24 _ _ rfl w7.heap.size (brow G) ?_ ?_ 24 (brow zerosC) ?_ (rinfo hGl) (rzero hGl) (brow_one _) ?_
                 · rfl
                 · rfl
                 · exact heap_alloc_new _ _
                 intro w8 hp8
                 have H8 := hide (show Kept w.heap.size w w8 ∧ w8.heap[w5.heap.size]? = some (.cells (brow G) 24 (0, 0)) ∧ w8.heap[w7.heap.size]? = some (.cells (brow G) 24 (0, 0)) from ⟨(unhide H7).1.trans ((put_new hp8).mono (unhide H7).1.size), ((put_new hp8).block _ (Array.getElem?_eq_some_iff.1 (unhide H7).2).1).trans (unhide H7).2, hp8.row⟩)
                 clear hp8)
    refine (num_go _ w8).mono ?_
    rintro _ w9 ⟨rfl, rfl⟩
    go_wp2_with (first
      | (refine wpList_load_row_g (by rfl) 24 _ rfl w5.heap.size ?_ 24 (brow G) (0, 0) _ ?_ Tryd.underlying24 rfl (rinfo hGl) ?_
         · rfl
         · exact (unhide H8).2.1)
      | (refine wpList_load_row_g (by rfl) 24 _ rfl w7.heap.size ?_ 24 (brow G) (0, 0) _ ?_ Tryd.underlying24 rfl (rinfo hGl) ?_
         · rfl
         · exact (unhide H8).2.2))
    go_ret
    exact ⟨rfl, (unhide H8).1⟩
  · have hp' : pairOf a b = false := by simpa using hp
    have hcl := clash_no hp'
    obtain rfl : x = ByteArray.empty := by rw [(unhide HC).1, hcl]
    obtain rfl : y = ByteArray.empty := by rw [(unhide HC).2.1, hcl]
    obtain rfl : g = 8 := by rw [(unhide HC).2.2, hcl]
    rw [hp']
    clear hcl
    go_wp2_with fail
    refine (num_go 8 w4).mono ?_
    rintro _ w5 ⟨rfl, rfl⟩
    go_wp2_with fail
    go_ret
    exact ⟨rfl, unhide H4⟩
end Go.Proofs.YtfodibjlldmnpaaDoor
/-
  Logs: the row proved, and its tied card.
-/
namespace Go.Proofs.YtfodibjlldmnpaaDoor
open Go.ChangeShapes Go.WideShapes Go.ChangeAt Go.WideMaps Go.WideElems Go.RowKit
open Go.ChangeMaps (open_string shut_string)

set_option maxRecDepth 100000 in
theorem logs_lifted (os : Os) (started : os.Started) (H : Type) (enc : TypeId × Value → H) :
    ReturnsInHanded {} Tryd.checked os 6 .any (fun w args => (Rows.logsSpec.pre enc Tryd.prog Tryd.f6 [] false w args ∧ laidMetH Tryd.prog laidOne w) ∧ sizedMet enc Tryd.prog Tryd.f6 (OpenSpec.ofChange Rows.logsSpec) false w args)
      (Rows.logsSpec.post enc Tryd.prog Tryd.f6 false true false false) := by
  refine returnsInHanded_of_change_and (C := Tryd.checked) (X := fun w _ => laidMetH Tryd.prog laidOne w) (fun _ _ _ hh h => h.of_heap hh) ownKnobs started (by kernel_rfl) Tryd.func6
    (ChangeSpec.witness_shaped (enc := enc) (C := Tryd.checked) (os := os) (X := fun w _ => laidMetH Tryd.prog laidOne w) false (World.doorLaid Tryd.prog 14 os) #[.string ByteArray.empty, .int .i64 0, .agg (brow (List.replicate 32 0)), .string ByteArray.empty] 8 rfl (World.shaped_of_RefB (by kernel_rfl) (by kernel_rfl)) (by kernel_rfl) (by kernel_rfl) (by kernel_rfl) (door_met os _)) ?_
  intro W base args ds gs before hval0 hW _ hsz0 hL _
  have hval : ∀ (j : Nat) t v, Tryd.f6.params[j]? = some t → args[j]? = some v → Value.okWide Tryd.prog W .any base t v := hval0
  have hsz : (DataW.weightsEach Tryd.prog (Tryd.f6.params.toList ++ Rows.logsSpec.plain.varTypes Tryd.prog) (ds ++ gs)).all (· ≤ reachBytes) = true := hsz0
  have hW' := hW
  obtain ⟨p, q, hA0, hV, rfl, hfz, hnd⟩ := hW
  have hA : DataW.TrodAll enc Tryd.prog W 0 (fun _ => true) true Tryd.f6.params.toList args.toList ds p := hA0
  rw [Tryd.params6] at hA hval hsz
  obtain ⟨rfl, rfl⟩ := trodVars_none hV
  have hAk := hA
  obtain ⟨v0, a1, d0, e1, p0, q0, h1, rfl, rfl, t0, hA⟩ := trodAll_cons hA
  obtain ⟨v1, a2, d1, e2, p1, q1, rfl, rfl, rfl, t1, hA⟩ := trodAll_cons hA
  obtain ⟨v2, a3, d2, e3, p2, q2, rfl, rfl, rfl, t2, hA⟩ := trodAll_cons hA
  obtain ⟨v3, a4, d3, e4, p3, q3, rfl, rfl, rfl, t3, hA⟩ := trodAll_cons hA
  obtain ⟨rfl, rfl, rfl⟩ := trodAll_nil hA
  obtain rfl : args = #[v0, v1, v2, v3] := by
    apply Array.ext'
    exact h1
  obtain ⟨a, rfl, rfl, rfl, _⟩ := open_string Tryd.underlying9 (hval 0 9 v0 rfl rfl) t0
  obtain ⟨n, rfl, rfl, rfl, hnw⟩ := open_int Tryd.underlying3 (hval 1 3 v1 rfl rfl) t1
  obtain ⟨b, rfl, rfl, rfl, _⟩ := open_string Tryd.underlying9 (hval 3 9 v3 rfl rfl) t3
  obtain ⟨cs, rfl, hcs⟩ : ∃ cs, v2 = .agg cs ∧ cs.size = Tryd.prog.cellsOf 24 := by
    have h := hval 2 24 v2 rfl rfl
    simp only [Value.okWide, Tryd.underlying24] at h
    obtain ⟨cs, h1, h2, _⟩ := h
    exact ⟨cs, h1, h2⟩
  obtain ⟨f2, hf2⟩ := t2
  obtain ⟨r, hrl, hr⟩ := open_hash hf2
  obtain rfl : cs = brow r := Array.ext' (by simpa [brow, Value.cells] using hr)
  have hs1 := sized_string hsz (j := 0) (t := 9) rfl rfl
  have hs2 : a.size ≤ 140737488351232 := by rw [size_toList] at hs1; have : reachBytes = 140737488351232 := rfl; omega
  have hs3 := sized_string hsz (j := 3) (t := 9) rfl rfl
  have hs4 : b.size ≤ 140737488351232 := by rw [size_toList] at hs3; have : reachBytes = 140737488351232 := rfl; omega
  obtain ⟨hT, hz⟩ := table_of hL
  have hC := logs_law a b n r W hs2 hs4 hrl hT hz
  have hlt : ∀ x ∈ [] ++ ([] ++ (p2 ++ ([] ++ []))), x.block < W.heap.size := fun x hx => by simpa using hW'.lt x (by simpa using hx)
  clear hA0 hval0 hsz0 hsz
  refine hC.mono fun e W' ⟨he, hke⟩ => ?_
  subst he
  refine ⟨_, rfl, _, _, _, [], [] ++ ([] ++ (p2 ++ ([] ++ []))), [], hW', ?_, ?_, rfl, hke.frame _, fun h => by cases h⟩
  · exact trodAll_mk1 (shut_bool Tryd.underlying4 _)
  · exact hke.trodAll (by
      have hall : ([9, 3, 24, 9].all fun u => Tryd.prog.readableRec u && decide (u < Tryd.prog.types.size)) = true := by kernel_rfl
      intro t ht
      have := List.all_eq_true.1 hall t ht
      simpa using this) hAk hlt

theorem logs_row : Rows.LogsSaid :=
  OpenClaim.holds_of_wide 6 Tryd.f6 rfl rfl rfl rfl rfl rfl rfl ⟨rfl, rfl, rfl, rfl, rfl⟩ rfl rfl rfl rfl rfl (by kernel_rfl) Tryd.func6 (by kernel_rfl)
    (of_decide_eq_true (by kernel_rfl)) (by unfold Func.isWrapper; first | (rw [if_pos (by decide +kernel)]; kernel_rfl) | (rw [if_neg (by decide +kernel)]; exact ⟨rfl, rfl⟩))
    (fun os started H enc _ => logs_lifted os started H enc)

theorem logs_holds : Rows.LogsCardSaid :=
  Claim7.holds_tied_plain_at .later [] [.data] true (true, "bf9403f0a60a408586b64f445051796487f8ea1f030b8d697ed0650ec99e990e") false
    logs_row (fun _ h => by cases h) (by kernel_rfl) (fun _ h => by cases h) logs_row_tie rfl ⟨rfl, rfl⟩ (by kernel_rfl) rfl
    (fun f fn hf hfn => by
      obtain rfl : f = 6 := Option.some.inj ((show Tryd.prog.funcNamed "bailey/baileylaw.Logs" = some 6 by kernel_rfl).symm.trans hf) |>.symm
      obtain rfl : fn = Tryd.f6 := (Option.some.inj (Tryd.func6.symm.trans hfn)).symm
      exact ⟨by kernel_rfl, fun j t ht => by
        rw [Tryd.params6] at ht
        have hm : t ∈ [9, 3, 24, 9] := by simpa using Array.mem_of_getElem? ht
        have hall : ([9, 3, 24, 9].all fun u => !Tryd.prog.wantsStandIn u) = true := by kernel_rfl
        exact (show Tryd.prog.wantsStandIn t = false by simpa using List.all_eq_true.1 hall t hm)⟩)
    (by kernel_rfl)
#print axioms logs_holds
end Go.Proofs.YtfodibjlldmnpaaDoor
