/-
  Proofs: the row proved, and its tied card.
-/
import Derived.Test.YtfodibjlldmnpaaDoorProved
import Derived.Test.YtfodibjlldmnpaaDoorPlaws
namespace Go.Proofs.YtfodibjlldmnpaaDoor
open Go.ChangeShapes Go.WideShapes Go.ChangeAt Go.WideMaps Go.WideElems Go.RowKit
open Go.ChangeMaps (open_string shut_string)

theorem cells5 : Tryd.prog.cellsOf 5 = 1 := by kernel_rfl
theorem cells24 : Tryd.prog.cellsOf 24 = 32 := by kernel_rfl
theorem bytes24 : Tryd.prog.bytesOf 24 = 32 := by kernel_rfl

theorem mapM_get {α β : Type} {f : α → Option β} : ∀ {l : List α} {ys : List β}, l.mapM f = some ys → ∀ (i : Nat) (x : α), l[i]? = some x → ∃ y, f x = some y
  | [], _, _, i, x, h => by simp at h
  | a :: l, ys, h, i, x, hx => by
    rw [List.mapM_cons] at h
    simp only [bind, Option.bind_eq_some_iff, pure, Option.some.injEq] at h
    obtain ⟨y, hy, zs, hz, rfl⟩ := h
    cases i with
    | zero => simp at hx; subst hx; exact ⟨y, hy⟩
    | succ i => exact mapM_get hz i x (by simpa using hx)
/-- The bytes of a digest that came in. -/
theorem open_hash {H : Type} {enc : TypeId × Value → H} {W : World} {base : Nat} {sp : Nat → Bool} {held : Bool} {fuel : Nat} {cs : List Value} {x : DataW H × List MemPlace} (h : DataW.trod enc Tryd.prog W base sp held fuel 24 cs = some x) : ∃ r : List UInt8, r.length = 32 ∧ cs = blist r := by
  cases fuel with
  | zero => simp [DataW.trod] at h
  | succ m =>
    rw [DataW.trod_step] at h
    unfold DataW.trodStep at h
    simp only [Tryd.underlying24] at h
    by_cases hl : cs.length = Tryd.prog.cellsOf 24
    · rw [if_pos hl] at h
      simp only [Option.map_eq_some_iff] at h
      obtain ⟨ys, hy, _⟩ := h
      rw [cells24] at hl
      have each : ∀ i, i < 32 → ∃ c : UInt8, cs[i]? = some (.int .u8 (c.toNat : Int)) := by
        intro i hi
        obtain ⟨y, hy⟩ := mapM_get hy i i (List.getElem?_range hi)
        obtain ⟨a, ha, _, hw⟩ := DataW.trod_int Tryd.underlying5 hy
        rw [cells5, Nat.mul_one] at ha
        have h2 : cs[i]? = some (.int .u8 a) := by
          have := congrArg (fun l => l[0]?) ha
          simpa [List.getElem?_take, List.getElem?_drop] using this
        have hb : IntKind.u8.min ≤ a ∧ a ≤ IntKind.u8.max := by simpa [Lit.wf] using hw
        have hx : IntKind.u8.max = 255 := rfl
        have hm : IntKind.u8.min = 0 := rfl
        refine ⟨UInt8.ofNat a.toNat, ?_⟩
        rw [h2]
        simp
        omega
      refine ⟨(List.range 32).map fun i => if hi : i < 32 then Classical.choose (each i hi) else 0, by simp, ?_⟩
      apply List.ext_getElem?
      intro i
      by_cases hi : i < 32
      · rw [List.getElem?_map, List.getElem?_map, List.getElem?_range hi]
        simp only [Option.map_some, dif_pos hi]
        exact Classical.choose_spec (each i hi)
      · rw [List.getElem?_eq_none (by omega), List.getElem?_eq_none (by simp; omega)]
    · rw [if_neg hl] at h
      cases h
theorem list_of {α : Type} {d : α} {Φ : Nat → α → Prop} {n : Nat} (h : ∀ i, i < n → ∃ x, Φ i x) : ∃ l : List α, l.length = n ∧ ∀ i, i < n → Φ i (l.getD i d) := by
  refine ⟨(List.range n).map fun i => if hi : i < n then Classical.choose (h i hi) else d, by simp, fun i hi => ?_⟩
  rw [List.getD_eq_getElem?_getD, List.getElem?_map, List.getElem?_range hi]
  simp only [Option.map_some, dif_pos hi, Option.getD_some]
  exact Classical.choose_spec (h i hi)

/-- The digests that came in. -/
theorem hashes_in {H : Type} {enc : TypeId × Value → H} {W : World} {a0 : Option Addr} {len cap : Nat} {d : DataW H} {ps : List MemPlace} {ts : List TypeId} {ds : List (DataW H)} {j : Nat} (h : DataW.Trod enc Tryd.prog W 0 (fun _ => true) true 41 (.slice a0 len cap) d ps)
    (hsz : (DataW.weightsEach Tryd.prog ts ds).all (· ≤ reachBytes) = true) (ht : ts[j]? = some 41) (hd : ds[j]? = some d) :
    ∃ p : List (List UInt8), Hst W a0 len cap p ∧ 32 * (len + 1) ≤ 140737488355328 := by
  obtain ⟨fuel, hf⟩ := h
  rcases DataW.trod_slice Tryd.underlying41 hf with ⟨hcs, _⟩ | ⟨a, len', cap', elems, rest, n, _, hcs, hx, hb, hl, hm, hlen, hel, _, _⟩
  · simp [Value.cells] at hcs
    obtain ⟨rfl, rfl, rfl⟩ := hcs
    exact ⟨[], ⟨rfl, Nat.le_refl _, by simp, fun h => by omega⟩, by omega⟩
  · simp [Value.cells] at hcs
    obtain ⟨rfl, rfl, rfl⟩ := hcs
    simp only [Prod.mk.injEq] at hx
    obtain ⟨rfl, _⟩ := hx
    have hsl := sized_slice hsz ht hd Tryd.underlying41
    rw [bytes24] at hsl
    simp only [List.length_map] at hsl
    have hr : reachBytes = 140737488351232 := rfl
    have hbd : 32 * (len + 1) ≤ 140737488355328 := by
      have : len * 32 ≤ (elems.length + rest.length) * 32 := Nat.mul_le_mul_right _ (by omega)
      omega
    rw [cells24] at hel
    have each : ∀ i, i < len → ∃ r : List UInt8, r.length = 32 ∧ ∀ j, j < 32 → W.cell? ((a.add (i * 32)).add j) = (blist r)[j]? := by
      intro i hi
      have h1 := hel i hi
      rw [List.getElem?_eq_getElem (by omega), Option.bind_eq_some_iff] at h1
      obtain ⟨cs, hcs, ht2⟩ := h1
      obtain ⟨r, hrl, rfl⟩ := open_hash ht2
      refine ⟨r, hrl, fun j hj => ?_⟩
      exact (World.cells?_some hcs).2.2 j hj
    obtain ⟨p, hpl, hp⟩ := list_of (d := []) each
    have hp32 : ∀ d ∈ p, d.length = 32 := by
      intro d hd
      obtain ⟨i, hi⟩ := List.getElem?_of_mem hd
      have hi' := (List.getElem?_eq_some_iff.1 hi).1
      have := (hp i (by omega)).1
      rwa [List.getD_eq_getElem?_getD, hi] at this
    refine ⟨p, ⟨hpl, hl, hp32, fun h0 => ?_⟩, hbd⟩
    obtain ⟨b, o, spot⟩ := a
    have hc0 := (hp 0 h0).2 0 (by omega)
    have hspot : spot = none := by
      have h1 : (blist (p.getD 0 []))[0]? ≠ none := by
        rw [List.getElem?_eq_getElem (by rw [List.length_map, (hp 0 h0).1]; omega)]
        simp
      obtain ⟨u, hu⟩ := Option.ne_none_iff_exists'.1 h1
      rw [hu] at hc0
      simpa [Addr.add] using World.cell?_spot hc0
    subst hspot
    refine ⟨b, o, rfl, fun i hi j u hu => ?_, hp32, ?_⟩
    · have hj : j < 32 := by
        have := (List.getElem?_eq_some_iff.1 hu).1
        rw [show (brow (p.getD i [])).toList.length = (p.getD i []).length by simp [brow], (hp i (by omega)).1] at this
        exact this
      have h2 := (hp i (by omega)).2 j hj
      rw [add_addr, add_addr] at h2
      rw [show o + 32 * i + j = o + i * 32 + j by omega, h2]
      simpa [brow] using hu
    · obtain ⟨u, hu⟩ : ∃ u, (blist (p.getD 0 []))[0]? = some u := ⟨_, List.getElem?_eq_getElem (by rw [List.length_map, (hp 0 h0).1]; omega)⟩
      rw [hu] at hc0
      rw [add_addr, add_addr] at hc0
      exact World.block_lt_of_cell? _ _ hc0

/-- The strings that came in, whether some or none. -/
theorem lst_in {H : Type} {enc : TypeId × Value → H} {W : World} {a0 : Option Addr} {len cap : Nat} {d : DataW H} {ps : List MemPlace} {ts : List TypeId} {ds : List (DataW H)} (h : DataW.Trod enc Tryd.prog W 0 (fun _ => true) true 30 (.slice a0 len cap) d ps)
    (hsz : (DataW.weightsEach Tryd.prog ts ds).all (· ≤ reachBytes) = true) (ht : ts[0]? = some 30) (hd : ds[0]? = some d) :
    ∃ L : List ByteArray, Lst W a0 len cap L ∧ (∀ s ∈ L, s.size ≤ 140737488354900) ∧ 16 * (len + 1) ≤ 140737488355328 := by
  have hbd : 16 * (len + 1) ≤ 140737488355328 ∧ len ≤ cap := by
    obtain ⟨fuel, hf⟩ := h
    rcases DataW.trod_slice Tryd.underlying30 hf with ⟨hcs, _⟩ | ⟨a, len', cap', elems, rest, n, _, hcs, hx, hb, hl, hm, hlen, _, _, _⟩
    · simp [Value.cells] at hcs
      obtain ⟨_, rfl, rfl⟩ := hcs
      omega
    · simp [Value.cells] at hcs
      obtain ⟨rfl, rfl, rfl⟩ := hcs
      simp only [Prod.mk.injEq] at hx
      obtain ⟨rfl, _⟩ := hx
      have hsl := sized_slice hsz ht hd Tryd.underlying30
      rw [bytes9] at hsl
      simp only [List.length_map] at hsl
      have hr : reachBytes = 140737488351232 := rfl
      have : len * 16 ≤ (elems.length + rest.length) * 16 := Nat.mul_le_mul_right _ (by omega)
      omega
  rcases strs_in h hsz ht hd with rfl | ⟨b, o, L, rfl, hl, h1, hc, _, hS⟩
  · exact ⟨[], ⟨rfl, hbd.2, fun h => by omega⟩, by simp, hbd.1⟩
  · exact ⟨L, ⟨hl, hc, fun _ => ⟨b, o, rfl, hS⟩⟩, hS.small, hbd.1⟩

theorem Kept.same {W w' : World} (h : Kept W.heap.size W w') {p : MemPlace} (hp : p.block < W.heap.size) : W.sameAt w' p := by
  cases p with
  | cell b o => exact World.cell?_of_block (w := W) (h.block b hp)
  | map b => exact h.block b hp
theorem Kept.trodAll {H : Type} {enc : TypeId × Value → H} {W W' : World} (hk : Kept W.heap.size W W') : ∀ {ts : List TypeId} {vs : List Value} {ds : List (DataW H)} {ps : List MemPlace}, (∀ t ∈ ts, Tryd.prog.readableRec t = true ∧ t < Tryd.prog.types.size) →
    DataW.TrodAll enc Tryd.prog W 0 (fun _ => true) true ts vs ds ps → (∀ x ∈ ps, x.block < W.heap.size) → DataW.TrodAll enc Tryd.prog W' 0 (fun b => decide (b < W.heap.size)) true ts vs ds ps
  | [], [], [], _, _, h, _ => h
  | t :: ts, v :: vs, d :: ds, ps, hr, h, hlt => by
    obtain ⟨p, q, h1, h2, rfl⟩ := h
    have hp := hr t (by simp)
    exact ⟨p, q, Trod_stays tryd_laid hp.1 hp.2 h1 (fun x hx => hk.same (hlt x (by simp [hx]))) (fun x hx => by simpa using hlt x (by simp [hx])), Kept.trodAll hk (fun t ht => hr t (by simp [ht])) h2 (fun x hx => hlt x (by simp [hx])), rfl⟩
  | [], _ :: _, _, _, _, h, _ => by simp [DataW.TrodAll] at h
  | [], [], _ :: _, _, _, h, _ => by simp [DataW.TrodAll] at h
  | _ :: _, [], _, _, _, h, _ => by simp [DataW.TrodAll] at h
  | _ :: _, _ :: _, [], _, _, h, _ => by simp [DataW.TrodAll] at h

set_option maxRecDepth 100000 in
theorem proofs_lifted (os : Os) (started : os.Started) (H : Type) (enc : TypeId × Value → H) :
    ReturnsInHanded {} Tryd.checked os 5 .any (fun w args => (Rows.proofsSpec.pre enc Tryd.prog Tryd.f5 [] false w args ∧ laidMetH Tryd.prog laidOne w) ∧ sizedMet enc Tryd.prog Tryd.f5 (OpenSpec.ofChange Rows.proofsSpec) false w args)
      (Rows.proofsSpec.post enc Tryd.prog Tryd.f5 false true false false) := by
  refine returnsInHanded_of_change_and (C := Tryd.checked) (X := fun w _ => laidMetH Tryd.prog laidOne w) (fun _ _ _ hh h => h.of_heap hh) ownKnobs started (by kernel_rfl) Tryd.func5
    (ChangeSpec.witness_shaped (enc := enc) (C := Tryd.checked) (os := os) (X := fun w _ => laidMetH Tryd.prog laidOne w) false (World.doorLaid Tryd.prog 14 os) #[.slice none 0 0, .int .i64 0, .string ByteArray.empty, .int .i64 0, .slice none 0 0, .agg (brow (List.replicate 32 0)), .int .i64 0] 8 rfl (World.shaped_of_RefB (by kernel_rfl) (by kernel_rfl)) (by kernel_rfl) (by kernel_rfl) (by kernel_rfl) (door_met os _)) ?_
  intro W base args ds gs before hval0 hW _ hsz0 hL _
  have hval : ∀ (j : Nat) t v, Tryd.f5.params[j]? = some t → args[j]? = some v → Value.okWide Tryd.prog W .any base t v := hval0
  have hsz : (DataW.weightsEach Tryd.prog (Tryd.f5.params.toList ++ Rows.proofsSpec.plain.varTypes Tryd.prog) (ds ++ gs)).all (· ≤ reachBytes) = true := hsz0
  have hW' := hW
  obtain ⟨p, q, hA0, hV, rfl, hfz, hnd⟩ := hW
  have hA : DataW.TrodAll enc Tryd.prog W 0 (fun _ => true) true Tryd.f5.params.toList args.toList ds p := hA0
  rw [Tryd.params5] at hA hval hsz
  obtain ⟨rfl, rfl⟩ := trodVars_none hV
  have hAk := hA
  obtain ⟨v0, a1, d0, e1, p0, q0, h1, rfl, rfl, t0, hA⟩ := trodAll_cons hA
  obtain ⟨v1, a2, d1, e2, p1, q1, rfl, rfl, rfl, t1, hA⟩ := trodAll_cons hA
  obtain ⟨v2, a3, d2, e3, p2, q2, rfl, rfl, rfl, t2, hA⟩ := trodAll_cons hA
  obtain ⟨v3, a4, d3, e4, p3, q3, rfl, rfl, rfl, t3, hA⟩ := trodAll_cons hA
  obtain ⟨v4, a5, d4, e5, p4, q4, rfl, rfl, rfl, t4, hA⟩ := trodAll_cons hA
  obtain ⟨v5, a6, d5, e6, p5, q5, rfl, rfl, rfl, t5, hA⟩ := trodAll_cons hA
  obtain ⟨v6, a7, d6, e7, p6, q6, rfl, rfl, rfl, t6, hA⟩ := trodAll_cons hA
  obtain ⟨rfl, rfl, rfl⟩ := trodAll_nil hA
  obtain rfl : args = #[v0, v1, v2, v3, v4, v5, v6] := by
    apply Array.ext'
    exact h1
  obtain ⟨al, nl, cl, rfl⟩ := okWide_slice Tryd.underlying30 (hval 0 30 v0 rfl rfl)
  obtain ⟨i, rfl, rfl, rfl, hiw⟩ := open_int Tryd.underlying3 (hval 1 3 v1 rfl rfl) t1
  obtain ⟨s, rfl, rfl, rfl, _⟩ := open_string Tryd.underlying9 (hval 2 9 v2 rfl rfl) t2
  obtain ⟨n, rfl, rfl, rfl, hnw⟩ := open_int Tryd.underlying3 (hval 3 3 v3 rfl rfl) t3
  obtain ⟨ap, np, cp, rfl⟩ := okWide_slice Tryd.underlying41 (hval 4 41 v4 rfl rfl)
  obtain ⟨tn, rfl, rfl, rfl, htw⟩ := open_int Tryd.underlying3 (hval 6 3 v6 rfl rfl) t6
  obtain ⟨cs, rfl, hcs⟩ : ∃ cs, v5 = .agg cs ∧ cs.size = Tryd.prog.cellsOf 24 := by
    have h := hval 5 24 v5 rfl rfl
    simp only [Value.okWide, Tryd.underlying24] at h
    obtain ⟨cs, h1, h2, _⟩ := h
    exact ⟨cs, h1, h2⟩
  obtain ⟨f5, hf5⟩ := t5
  obtain ⟨r, hrl, hr⟩ := open_hash hf5
  obtain rfl : cs = brow r := Array.ext' (by simpa [brow, Value.cells] using hr)
  obtain ⟨L, hLst, hsm, hnl⟩ := lst_in t0 hsz rfl rfl
  obtain ⟨ph, hHst, hnp⟩ := hashes_in (j := 4) t4 hsz rfl rfl
  have hs1 := sized_string hsz (j := 2) (t := 9) rfl rfl
  have hs2 : s.size ≤ 140737488354900 := by rw [size_toList] at hs1; have : reachBytes = 140737488351232 := rfl; omega
  have hmin : IntKind.i64.min = -9223372036854775808 := rfl
  have hib : IntKind.i64.min ≤ i ∧ i ≤ 9223372036854775807 := by simpa [Lit.wf] using hiw
  have hnb : IntKind.i64.min ≤ n ∧ n ≤ 9223372036854775807 := by simpa [Lit.wf] using hnw
  have htb : IntKind.i64.min ≤ tn ∧ tn ≤ 9223372036854775807 := by simpa [Lit.wf] using htw
  obtain ⟨hT, hz⟩ := table_of hL
  have hC := proofs_law L al nl cl i s n ph ap np cp r tn W hLst hsm hnl (by omega) hib.2 hs2 (by omega) hnb.2 hHst hnp hrl (by omega) htb.2 hT hz
  have hlt : ∀ x ∈ p0 ++ ([] ++ ([] ++ ([] ++ (p4 ++ (p5 ++ ([] ++ [])))))), x.block < W.heap.size := fun x hx => by simpa using hW'.lt x (by simpa using hx)
  clear hA0 hval0 hsz0 hsz
  refine hC.mono fun e W' ⟨he, hke⟩ => ?_
  subst he
  refine ⟨_, rfl, _, _, _, [], p0 ++ ([] ++ ([] ++ ([] ++ (p4 ++ (p5 ++ ([] ++ [])))))), [], hW', ?_, ?_, rfl, hke.frame _, fun h => by cases h⟩
  · exact trodAll_mk1 (shut_bool Tryd.underlying4 _)
  · exact hke.trodAll (by
      have hall : ([30, 3, 9, 3, 41, 24, 3].all fun u => Tryd.prog.readableRec u && decide (u < Tryd.prog.types.size)) = true := by kernel_rfl
      intro t ht
      have := List.all_eq_true.1 hall t ht
      simpa using this) hAk hlt

theorem proofs_row : Rows.ProofsSaid :=
  OpenClaim.holds_of_wide 5 Tryd.f5 rfl rfl rfl rfl rfl rfl rfl ⟨rfl, rfl, rfl, rfl, rfl⟩ rfl rfl rfl rfl rfl (by kernel_rfl) Tryd.func5 (by kernel_rfl)
    (of_decide_eq_true (by kernel_rfl)) (by unfold Func.isWrapper; first | (rw [if_pos (by decide +kernel)]; kernel_rfl) | (rw [if_neg (by decide +kernel)]; exact ⟨rfl, rfl⟩))
    (fun os started H enc _ => proofs_lifted os started H enc)

theorem proofs_holds : Rows.ProofsCardSaid :=
  Claim7.holds_tied_plain_at .later [] [.data] true (true, "bf9403f0a60a408586b64f445051796487f8ea1f030b8d697ed0650ec99e990e") false
    proofs_row (fun _ h => by cases h) (by kernel_rfl) (fun _ h => by cases h) proofs_row_tie rfl ⟨rfl, rfl⟩ (by kernel_rfl) rfl
    (fun f fn hf hfn => by
      obtain rfl : f = 5 := Option.some.inj ((show Tryd.prog.funcNamed "bailey/baileylaw.Proofs" = some 5 by kernel_rfl).symm.trans hf) |>.symm
      obtain rfl : fn = Tryd.f5 := (Option.some.inj (Tryd.func5.symm.trans hfn)).symm
      exact ⟨by kernel_rfl, fun j t ht => by
        rw [Tryd.params5] at ht
        have hm : t ∈ [30, 3, 9, 3, 41, 24, 3] := by simpa using Array.mem_of_getElem? ht
        have hall : ([30, 3, 9, 3, 41, 24, 3].all fun u => !Tryd.prog.wantsStandIn u) = true := by kernel_rfl
        exact (show Tryd.prog.wantsStandIn t = false by simpa using List.all_eq_true.1 hall t hm)⟩)
    (by kernel_rfl)
#print axioms proofs_holds
end Go.Proofs.YtfodibjlldmnpaaDoor
