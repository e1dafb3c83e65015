/-
  Si Vp Vq Vr Vs Vt Vf
-/
import Derived.Test.YtlbacbcenejngaaGreatDoorH29
namespace Go.Proofs.YtlbacbcenejngaaGreatDoor
open Go.RowKit Go.MapKept
theorem info237 : (Tryz.prog.info? 237).map (fun i => (i.zero, i.size, i.bytes)) = some (some (.agg #[.int .u8 0, .string .empty]), 2, 24) := by kernel_rfl
theorem lk_no {K α : Type} [DecidableEq K] {k : K} : ∀ {l : List (K × α)}, lk k l = none → ∀ p ∈ l, p.1 ≠ k
  | [], _, p, hp => by cases hp
  | q :: l, h, p, hp => by
    rw [lk] at h
    split at h
    · cases h
    · rename_i hq
      rcases List.mem_cons.1 hp with rfl | hp
      · exact hq
      · exact lk_no h p hp
/-- A version more. -/
theorem wp_append_ver {w : World} {o : Oper} {act : Act} {K : Act → World → Prop} {Q : Exit → Act → World → Prop} (s x : Operand)
    (ho : o.op = .call { callee := .builtin .append, args := #[s, x], argTypes := #[233, 233] }) (B : Nat)
    (v : Value) (l : List (Nat × ByteArray)) (f : Nat × ByteArray) (w0 : World) (hs : act.eval s = v) (hown : w0.ownsRow B 237 2 v l.length (vcells l)) (hl : l.length ≤ 4194304)
    (hx : act.eval x = .slice (some ⟨w0.heap.size, 0, none⟩) 1 1) (hw : w = w0.alloc (.cells (vcell f).toArray 237)) (hB : B ≤ w0.heap.size)
    (h : ∀ v' w', w'.ownsRow B 237 2 v' (l ++ [f]).length (vcells (l ++ [f])) → Upd w0.heap.size v v' w0 w' → K (act.put o.dst v') w') : Oper.wp Tryz.prog o act w K Q := by
  obtain ⟨i0, hi0, hz0, hz1, hz2⟩ := info_parts info237
  subst hw
  have hlt : ∀ k, v.ownBlock = some k → k < w0.heap.size := fun k hk => (hown.lt k hk).2
  refine wp_append_fresh s x 233 ho B 237 i0 _ 2 24 Tryz.underlying233 hi0 hz0 hz1 hz2 rfl (by decide) v l.length (vcells l) hs (hown.alloc _) ⟨w0.heap.size, 0, none⟩ 1 1 (vcell f) hx rfl (news_any rfl) ?_ (by decide) ?_ ?_ ?_ fun v' w' h1 h2 h3 => h v' w' ?_ ?_
  · intro u hu
    simp only [vcell, List.mem_cons, List.not_mem_nil, or_false] at hu
    rcases hu with rfl | rfl <;> rfl
  · unfold maxLen; omega
  · omega
  · simp; omega
  · rw [vcells_app, List.length_append, List.length_singleton]
    simpa [vcells] using h1
  · have hs2 := h2.size
    simp only [World.size_alloc] at hs2
    refine ⟨h2.os, h2.output, by omega, fun k hk _ hv => (h2.block k (by simp; omega) fun e => hv e.symm).trans (Below.heap_alloc _ _ _ hk), fun k hk => ?_⟩
    rcases h3 with h3 | h3
    · exact .inl (h3 ▸ hk)
    · rw [h3] at hk
      simp only [World.size_alloc, Option.some.injEq] at hk
      exact .inr (by omega)
/-- A path more. -/
theorem StoAt.push {B : Nat} {w w' : World} {sp tb pb pp : Nat} {L : PL} {S : Sto} {n : ByteArray} {x : Pth} (h : StoAt B w sp tb pb L S) (hP : PP B x w pp (.slice none 0 0)) (hf : ∀ k, Sft sp tb pb L k → k ≠ pp)
    (hm : MapAt .string skey w' pb (L.ptrs ++ [(n, .pointer (some ⟨pp, 0, none⟩))])) (hc : Chg (fun k => k = pb) w w') :
    StoAt B w' sp tb pb (L ++ [(n, ⟨pp, .slice none 0 0, x⟩)]) { S with paths := S.paths ++ [(n, x)] } := by
  have hty : TyAt w pp 235 := ⟨_, hP.1⟩
  have hP' : PP B x w' pp (.slice none 0 0) := ⟨(hc.block _ hty.lt (map_ne h.paths hty)).trans hP.1, own_blocks hP.2.1 (fun k hk => by cases hk), hP.2.2⟩
  have hfam : Fam (PP B) w' L.locs := h.fam.frame (wayP B) (fun k hk _ => hc.block k hk.lt (map_ne h.paths hk)) (fun k hk _ => hc.block k hk.lt (map_ne h.paths hk))
  refine ⟨(hc.block _ h.ty0.lt (map_ne h.paths h.ty0)).trans h.at', h.toks.stay (hc.block _ h.toks.lt fun e => h.ne e), ?_, ?_, ?_, h.ge, h.ne⟩
  · simpa [PL.ptrs] using hm
  · show S.paths ++ _ = _
    rw [h.vals]; simp [PL.vals]
  · refine ⟨fun e he => ?_, ?_⟩
    · simp only [PL.locs, List.map_append, List.mem_append, List.map_cons, List.map_nil, List.mem_singleton] at he
      rcases he with he | rfl
      · exact hfam.each e he
      · exact hP'
    · simp only [PL.locs, List.map_append, List.map_cons, List.map_nil]
      refine List.pairwise_append.2 ⟨hfam.ne, by simp, fun a ha b hb => ?_⟩
      rw [List.mem_singleton.1 hb]
      exact ⟨hf _ (.inr (.inr (.inr ⟨a, ha, .inl rfl⟩))), fun k _ e => by cases e⟩
def SU (sp pb b2 b3 b5 pp : Nat) (q : Rq) (W : World) : Prop := W.cell? ⟨b2, 0, none⟩ = some (.pointer (some ⟨sp, 0, none⟩)) ∧ W.cell? ⟨sp, 2, none⟩ = some (.map (some pb)) ∧ W.cell? ⟨b3, 2, none⟩ = some (.string q.path) ∧ W.cell? ⟨b5, 0, none⟩ = some (.pointer (some ⟨pp, 0, none⟩))
def SV (b3 b5 pp n : Nat) (q : Rq) (W : World) : Prop := W.cell? ⟨b5, 0, none⟩ = some (.pointer (some ⟨pp, 0, none⟩)) ∧ W.cell? ⟨pp, 0, none⟩ = some (.int .u8 (n : Int)) ∧ W.cell? ⟨b3, 4, none⟩ = some (.string q.value)
theorem su_all {B n0 : Nat} {w : World} {sp tb pb b2 b3 b5 pp : Nat} {L : PL} {S : Sto} {q : Rq} (h : StoAt B w sp tb pb L S) (hb : Bx n0 w sp b2 b3 q) (h5 : w.heap[b5]? = some (.cells #[.pointer (some ⟨pp, 0, none⟩)] 231 (0, 0))) (W : World) (hk : ∀ k, k < w.heap.size → (∃ t, TyAt w k t) → W.heap[k]? = w.heap[k]?) : SU sp pb b2 b3 b5 pp q W := by
  have h2 := (hk _ (Array.getElem?_eq_some_iff.1 hb.s).1 ⟨_, _, hb.s⟩).trans hb.s
  have h3 : RqAt W b3 q := (hk _ hb.q.lt ⟨_, _, hb.q⟩).trans hb.q
  have hs := (hk _ h.ty0.lt ⟨_, h.ty0⟩).trans h.at'
  have h6 := (hk _ (Array.getElem?_eq_some_iff.1 h5).1 ⟨_, _, h5⟩).trans h5
  exact ⟨by rw [cell_of_row _ _ _ _ _ _ h2]; rfl, by rw [cell_of_row _ _ _ _ _ _ hs]; rfl, by rw [h3.c 2]; rfl, by rw [cell_of_row _ _ _ _ _ _ h6]; rfl⟩
/-- The path that is put to, once the map has it. -/
structure Pu (B n0 : Nat) (w : World) (sp tb pb pp : Nat) (L : PL) (S : Sto) (q : Rq) (w1 : World) (L' : PL) (S' : Sto) (e : Loc Pth) : Prop where
  sto : StoAt B w1 sp tb pb L' S'
  at' : ∃ i, ∃ hi : i < L'.length, L'[i] = (q.path, e) ∧ (∀ j (hj : j < i), L'[j].1 ≠ q.path)
  p : e.p = pp
  val : { S' with paths := putM q.path ⟨e.x.next + 1, e.x.vers ++ [(e.x.next, q.value)]⟩ S'.paths } = S.carry q .put
  foot : ∀ k, Sft sp tb pb L' k → Sft sp tb pb L k ∨ n0 ≤ k
  small : e.x.next ≤ 254 ∧ e.x.vers.length ≤ 1000
theorem pu_of {B n0 : Nat} {w wk : World} {sp tb pb pp : Nat} {L : PL} {S : Sto} {q : Rq} (h : StoAt B w sp tb pb L S) (hk : Kept w.heap.size w wk) (hf : ∀ k, Sft sp tb pb L k → k < n0) (hn : ∀ p, lk q.path S.paths = some p → p.next ≤ 254 ∧ p.vers.length ≤ 1000)
    (hp : (∃ i, ∃ hi : i < L.length, L[i].1 = q.path ∧ (∀ j (hj : j < i), L[j].1 ≠ q.path) ∧ pp = L[i].2.p) ∨ (lk q.path L.vals = none ∧ lk q.path L.ptrs = none ∧ PP B ⟨1, []⟩ w pp (.slice none 0 0) ∧ n0 ≤ pp)) :
    ∃ L' S' e, ∀ w1, MapAt .string skey w1 pb (putM q.path (.pointer (some ⟨pp, 0, none⟩)) L.ptrs) → Chg (fun k => k = pb) wk w1 → Pu B n0 w sp tb pb pp L S q w1 L' S' e := by
  have h' := h.kept hk
  rcases hp with ⟨i, hi, h1, h2, rfl⟩ | ⟨h1, h2, h3, h4⟩
  · have hlk : lk q.path S.paths = some L[i].2.x := by
      rw [h.vals, PL.vals]
      exact lk_at (j := i) (p := (L[i].1, L[i].2.x)) (by rw [List.getElem?_map, List.getElem?_eq_getElem hi]; rfl) h1 fun j hj p hp => by
        rw [List.getElem?_map, List.getElem?_eq_getElem (by omega)] at hp
        cases hp
        exact h2 j hj
    have hpt : putM q.path (.pointer (some ⟨L[i].2.p, 0, none⟩)) L.ptrs = L.ptrs := by
      rw [PL.ptrs, putM_at (j := i) (p := (L[i].1, .pointer (some ⟨L[i].2.p, 0, none⟩))) (by rw [List.getElem?_map, List.getElem?_eq_getElem hi]; rfl) h1 fun j hj p hp => by
        rw [List.getElem?_map, List.getElem?_eq_getElem (by omega)] at hp
        cases hp
        exact h2 j hj]
      apply List.ext_getElem?
      intro j
      rw [List.getElem?_set]
      by_cases hj : i = j
      · subst hj; simp [hi, h1]
      · simp [hj]
    refine ⟨L, S, L[i].2, fun w1 hm hc => ⟨?_, ⟨i, hi, Prod.ext h1 rfl, h2⟩, rfl, ?_, fun k hk => .inl hk, hn _ hlk⟩⟩
    · rw [hpt] at hm
      exact ⟨(hc.block _ h'.ty0.lt (map_ne h'.paths h'.ty0)).trans h'.at', h'.toks.stay (hc.block _ h'.toks.lt fun e => h'.ne e), hm, h'.vals,
        h'.fam.frame (wayP B) (fun k hk _ => hc.block k hk.lt (map_ne h'.paths hk)) (fun k hk _ => hc.block k hk.lt (map_ne h'.paths hk)), h'.ge, h'.ne⟩
    · unfold Sto.carry
      rw [hlk]
      rfl
  · have hpv : lk q.path S.paths = none := by rw [h.vals]; exact h1
    have hpt : putM q.path (.pointer (some ⟨pp, 0, none⟩)) L.ptrs = L.ptrs ++ [(q.path, .pointer (some ⟨pp, 0, none⟩))] := putM_none (lk_no h2)
    refine ⟨_, _, ⟨pp, .slice none 0 0, ⟨1, []⟩⟩, fun w1 hm hc => ⟨h'.push (n := q.path) (pp := pp) (x := ⟨1, []⟩) ⟨(hk.block _ (Array.getElem?_eq_some_iff.1 h3.1).1).trans h3.1, World.ownsRow_nil _ _ _ _, h3.2.2⟩ (fun k hk' e => by have := hf k hk'; omega) (by rw [← hpt]; exact hm) hc, ⟨L.length, by simp, by simp, fun j hj => ?_⟩, rfl, ?_, fun k hk' => ?_, ⟨by show 1 ≤ 254; decide, by show 0 ≤ 1000; decide⟩⟩⟩
    · have := lk_no h1 (L[j].1, L[j].2.x) (by rw [PL.vals]; exact List.mem_map.2 ⟨L[j], List.getElem_mem hj, rfl⟩)
      rw [List.getElem_append_left hj]
      exact this
    · unfold Sto.carry
      rw [hpv]
      show ({ S with paths := putM q.path _ (S.paths ++ [(q.path, _)]) } : Sto) = _
      have e1 : ∀ y z : Pth, putM q.path y (S.paths ++ [(q.path, z)]) = putM q.path y S.paths := fun y z => by
        rw [putM_none (lk_no hpv), putM_at (j := S.paths.length) (p := (q.path, z)) (by simp) rfl fun j hj p hp => ?_]
        · simp
        · rw [List.getElem?_append_left hj] at hp
          exact lk_no hpv p (List.mem_of_getElem? hp)
      rw [e1]
      rfl
    · rcases hk' with hk' | hk' | hk' | ⟨e, he, hk'⟩
      · exact .inl (.inl hk')
      · exact .inl (.inr (.inl hk'))
      · exact .inl (.inr (.inr (.inl hk')))
      · simp only [PL.locs, List.map_append, List.mem_append, List.map_cons, List.map_nil, List.mem_singleton] at he
        rcases he with he | rfl
        · exact .inl (.inr (.inr (.inr ⟨e, he, hk'⟩)))
        · rcases hk' with hk' | hk'
          · exact .inr (by rw [← hk']; exact h4)
          · cases hk'
/-- Behind the append: the path's row, the store. -/
theorem pu_end {B n0 : Nat} {w wk w1 w2 w3 w4 w5 : World} {sp tb pb pp : Nat} {L L' : PL} {S S' : Sto} {q : Rq} {e : Loc Pth} {v' : Value} (hk : Kept w.heap.size w wk) (hc : Chg (fun k => k = pb) wk w1) (h : Pu B n0 w sp tb pb pp L S q w1 L' S' e) (h2 : Kept w1.heap.size w1 w2) (hu : Upd w2.heap.size e.v v' w2 w3) (ho : w3.ownsRow B 237 2 v' (e.x.vers ++ [(e.x.next, q.value)]).length (vcells (e.x.vers ++ [(e.x.next, q.value)])))
    (h4 : w4 = w3.setCell ⟨pp, 1, none⟩ v') (h5 : w5 = w4.setCell ⟨pp, 0, none⟩ (.int .u8 ((e.x.next + 1 : Nat) : Int))) (_hB : B ≤ w1.heap.size) (hn0 : n0 ≤ w.heap.size) {Mp : List (ByteArray × Value)} (hmap : MapAt .string skey wk pb Mp) : cyEnd B n0 w sp tb pb L (S.carry q .put) (.returned (.tuple #[])) w5 := by
  obtain ⟨i, hi, he, hb⟩ := h.at'
  have hp := h.p
  subst hp
  have hmem : e ∈ L'.locs := List.mem_map.2 ⟨L'[i], List.getElem_mem hi, by rw [he]⟩
  have hs2 := h.sto.kept h2
  have hP2 := hs2.fam.each e hmem
  have hplt : e.p < w2.heap.size := ((wayP B).ty hP2).lt
  have hpne : e.v.ownBlock ≠ some e.p := fun hk => ((wayP B).row hP2 hk).1.ne ((wayP B).ty hP2) (by decide) rfl
  have h3 : w3.heap[e.p]? = some (.cells #[.int .u8 (e.x.next : Int), e.v] 235 (0, 0)) := (hu.block _ hplt (by omega) hpne).trans hP2.1
  have h4a : w4.heap[e.p]? = some (.cells #[.int .u8 (e.x.next : Int), v'] 235 (0, 0)) := by rw [h4, heap_setCell_same _ _ _ _ _ _ h3]; rfl
  have h5a : w5.heap[e.p]? = some (.cells #[.int .u8 ((e.x.next + 1 : Nat) : Int), v'] 235 (0, 0)) := by rw [h5, heap_setCell_same _ _ _ _ _ _ h4a]; rfl
  have hpv : ∀ k, v'.ownBlock = some k → k ≠ e.p := fun k hk e' => by
    have := own_ty ho hk
    rw [e'] at this
    exact (show TyAt w3 e.p 237 from this).ne ⟨_, h3⟩ (by decide) rfl
  have hoth : ∀ k, k ≠ e.p → w5.heap[k]? = w3.heap[k]? := fun k hk => by rw [h5, heap_setCell_other _ _ _ _ hk, h4, heap_setCell_other _ _ _ _ hk]
  have ho5 : w5.ownsRow B 237 2 v' (e.x.vers ++ [(e.x.next, q.value)]).length (vcells (e.x.vers ++ [(e.x.next, q.value)])) := own_blocks ho fun k hk => hoth k (hpv k hk)
  have hz5 : w5.heap.size = w3.heap.size := by rw [h5, h4]; simp
  have hu5 : Upd e.p e.v v' w2 w5 := ⟨by rw [h5, h4]; exact hu.os, by rw [h5, h4]; exact hu.output, by rw [hz5]; exact hu.size, fun k hk h1 h2 => (hoth k h1).trans (hu.block k hk (by omega) h2), hu.new⟩
  have hS5 := hs2.upd hi (fun j hj => by rw [he]; exact hb j hj) (v' := v') (x' := ⟨e.x.next + 1, e.x.vers ++ [(e.x.next, q.value)]⟩) (by rw [he]; exact ⟨h5a, ho5, hP2.2.2⟩) (by rw [he]; exact hu5)
  rw [he] at hS5
  have hST : Stay [169, 236, 238, 0] w w5 := by
    have s1 : Stay [0] wk w1 := stay_one (map_knd hmap) (fun k hne hlt => hc.block k hlt hne) (by decide)
    have s3 : Stay [236, 238] w2 w5 := fun k n hk hn => hu5.block k (knd_lt hk) (fun e' => by subst e'; rw [((wayP B).ty hP2).knd] at hk; cases hk; exact hn (by decide)) (fun e' => by rw [((wayP B).row hP2 e').1.knd] at hk; cases hk; exact hn (by decide))
    exact (((hk.stay.trans s1).trans h2.stay).trans s3).mono (by decide)
  refine ⟨rfl, L'.set i (q.path, ⟨e.p, v', ⟨e.x.next + 1, e.x.vers ++ [(e.x.next, q.value)]⟩⟩), ?_, ?_, fun k hk' => ?_, hST⟩
  · rw [← h.val]; exact hS5
  · have c1 : Chg (fun k => Sft sp tb pb L k ∨ n0 ≤ k) w wk := ⟨hk.os, hk.output, hk.size, fun k hk' _ => hk.block k hk'⟩
    have c2 : Chg (fun k => Sft sp tb pb L k ∨ n0 ≤ k) w w1 := c1.trans' hc fun i _ e => .inl (.inr (.inr (.inl e)))
    have c3 : Chg (fun k => Sft sp tb pb L k ∨ n0 ≤ k) w w2 := c2.trans' h2.chg fun i _ e => e.elim
    refine c3.trans' (S' := fun k => k = e.p ∨ e.v.ownBlock = some k) ⟨hu5.os, hu5.output, hu5.size, fun k hk hn => hu5.block k hk (fun e => hn (.inl e)) (fun e => hn (.inr e))⟩ fun k _ hk => ?_
    exact h.foot k (.inr (.inr (.inr ⟨e, hmem, hk.imp (fun e => e.symm) id⟩)))
  · have := Sft.set (n0 := w2.heap.size) (L := L') hi (v' := v') (x' := ⟨e.x.next + 1, e.x.vers ++ [(e.x.next, q.value)]⟩) (m := q.path) (fun k hk => by rw [he]; exact hu.new k hk) (k := k) (by rw [he]; exact hk')
    rcases this with h1 | h1
    · exact h.foot k h1
    · exact .inr (by have := hk.size; have := hc.size; have := h2.size; omega)
set_option maxRecDepth 100000 in
set_option maxHeartbeats 2000000 in
theorem putC_go (B n0 : Nat) (w : World) (sp tb pb b2 b3 b5 pp : Nat) (L : PL) (S : Sto) (q : Rq) (h : StoAt B w sp tb pb L S) (hb : Bx n0 w sp b2 b3 q) (h5 : w.heap[b5]? = some (.cells #[.pointer (some ⟨pp, 0, none⟩)] 231 (0, 0))) (hn0 : n0 ≤ w.heap.size) (hB : B ≤ w.heap.size)
    (hf : ∀ k, Sft sp tb pb L k → k < n0) (hn : ∀ p, lk q.path S.paths = some p → p.next ≤ 254 ∧ p.vers.length ≤ 1000) (hp1 : q.path.size ≤ 1000) (hp2 : q.value.size ≤ 1000)
    (hp : (∃ i, ∃ hi : i < L.length, L[i].1 = q.path ∧ (∀ j (hj : j < i), L[j].1 ≠ q.path) ∧ pp = L[i].2.p) ∨ (lk q.path L.vals = none ∧ lk q.path L.ptrs = none ∧ PP B ⟨1, []⟩ w pp (.slice none 0 0) ∧ n0 ≤ pp)) :
    Calls Tryz.prog 168 #[.pointer (some ⟨b5, 0, none⟩), .pointer (some ⟨b2, 0, none⟩), .pointer (some ⟨b3, 0, none⟩)] w (cyEnd B n0 w sp tb pb L (S.carry q .put)) := by
  have HSU := hide (su_all h hb h5)
  have HPU := hide (fun wk (hk : Kept w.heap.size w wk) => pu_of h hk hf hn hp)
  have HMP := hide h
  have HBX := hide hb
  have H5 := hide h5
  have HB := hide hB
  have HN0 := hide hn0
  clear h hb h5 hf hn hp hB hn0
  go_enter Tryz.func168, Tryz.ntmps168
  go_wp2_with fail
  refine wp_region_held_drew (S := SU sp pb b2 b3 b5 pp q) (by kernel_rfl) (unhide HSU w.drew (fun k hk _ => rfl)) (fun hHeld => ?_)
  refine wpAnyH_take (i := 0) (oi := { dst := some 3, op := Op.load 76 (Operand.tmp 1), type := 76, pos := "store.go:117", after := #[], guard := none }) (v := .pointer (some ⟨sp, 0, none⟩)) rfl (by kernel_rfl) (by kernel_rfl) (by kernel_rfl) (fun _ _ _ h => h) (Or.inl ⟨by kernel_rfl, fun W hW => by simp [execOp, go_sem, hW.1]⟩) hHeld ?_
  simp only [Act.put, List.setIfInBounds_toArray, List.set_cons_zero, List.set_cons_succ]
  refine wpAnyH_take (i := 1) (oi := { dst := some 4, op := Op.nilCheck (Operand.tmp 3), type := 0, pos := "store.go:117", after := #[{ on := 0, ground := Ground.data }], guard := none }) (v := .pointer (some ⟨sp, 0, none⟩)) rfl (by kernel_rfl) (by kernel_rfl) (by kernel_rfl) (fun _ _ _ h => h) (Or.inl ⟨by kernel_rfl, fun W hW => by kernel_rfl⟩) hHeld ?_
  simp only [Act.put, List.setIfInBounds_toArray, List.set_cons_zero, List.set_cons_succ]
  refine wpAnyH_take (i := 2) (oi := { dst := some 5, op := Op.fieldAddr 168 (Operand.tmp 4) 2, type := 0, pos := "store.go:117", after := #[{ on := 1, ground := Ground.data }], guard := none }) (v := .pointer (some ⟨sp, 2, none⟩)) rfl (by kernel_rfl) (by kernel_rfl) (by kernel_rfl) (fun _ _ _ h => h) (Or.inl ⟨by kernel_rfl, fun W hW => by kernel_rfl⟩) hHeld ?_
  simp only [Act.put, List.setIfInBounds_toArray, List.set_cons_zero, List.set_cons_succ]
  refine wpAnyH_take (i := 3) (oi := { dst := some 6, op := Op.load 166 (Operand.tmp 5), type := 166, pos := "store.go:117", after := #[{ on := 2, ground := Ground.data }], guard := none }) (v := .map (some pb)) rfl (by kernel_rfl) (by kernel_rfl) (by kernel_rfl) (fun _ _ _ h => h) (Or.inl ⟨by kernel_rfl, fun W hW => by simp [execOp, go_sem, hW.2.1]⟩) hHeld ?_
  simp only [Act.put, List.setIfInBounds_toArray, List.set_cons_zero, List.set_cons_succ]
  refine wpAnyH_take (i := 4) (oi := { dst := some 7, op := Op.fieldAddr 84 (Operand.tmp 2) 2, type := 0, pos := "store.go:117", after := #[], guard := none }) (v := .pointer (some ⟨b3, 2, none⟩)) rfl (by kernel_rfl) (by kernel_rfl) (by kernel_rfl) (fun _ _ _ h => h) (Or.inl ⟨by kernel_rfl, fun W hW => by kernel_rfl⟩) hHeld ?_
  simp only [Act.put, List.setIfInBounds_toArray, List.set_cons_zero, List.set_cons_succ]
  refine wpAnyH_take (i := 5) (oi := { dst := some 8, op := Op.load 9 (Operand.tmp 7), type := 9, pos := "store.go:117", after := #[{ on := 4, ground := Ground.data }], guard := none }) (v := .string q.path) rfl (by kernel_rfl) (by kernel_rfl) (by kernel_rfl) (fun _ _ _ h => h) (Or.inl ⟨by kernel_rfl, fun W hW => by simp [execOp, go_sem, hW.2.2.1]⟩) hHeld ?_
  simp only [Act.put, List.setIfInBounds_toArray, List.set_cons_zero, List.set_cons_succ]
  refine wpAnyH_take (i := 7) (oi := { dst := some 10, op := Op.load 231 (Operand.tmp 0), type := 231, pos := "store.go:117", after := #[], guard := none }) (v := .pointer (some ⟨pp, 0, none⟩)) rfl (by kernel_rfl) (by kernel_rfl) (by kernel_rfl) (fun _ _ _ h => h) (Or.inl ⟨by kernel_rfl, fun W hW => by simp [execOp, go_sem, hW.2.2.2]⟩) hHeld ?_
  simp only [Act.put, List.setIfInBounds_toArray, List.set_cons_zero, List.set_cons_succ]
  refine wpAnyH_ready (rs := [6]) (by kernel_rfl) (by simp) ?_
  refine AllReadyH.cons (o := { dst := some 9, op := Op.call { callee := Callee.value (Operand.func 63), args := #[Operand.tmp 8], argTypes := #[9] }, type := 9, pos := "store.go:117", after := #[{ on := 5, ground := Ground.data }], guard := none }) rfl (fun K hK => ?_) AllReadyH.nil
  refine ite_wanted ?_ ?_
  · kernel_rfl
  go_simp
  refine (clone_go q.path _ (by omega)).mono ?_
  rintro _ wk ⟨rfl, hk1⟩
  have HK := hide (show Kept w.heap.size w wk from ⟨hk1.os, hk1.output, hk1.size, hk1.block⟩)
  clear hk1
  show K _ wk
  refine hK.out _ _ (unhide HSU wk (fun k hk _ => (unhide HK).block k hk)) (fun hHeld6 => ?_)
  clear hK K
  try simp only [Act.put, List.setIfInBounds_toArray, List.set_cons_zero, List.set_cons_succ]
  obtain ⟨L1, S1, e, hpu⟩ := unhide HPU wk (unhide HK)
  have HP1 := hide hpu
  clear hpu
  refine wpAnyH_ready (rs := [8]) (by kernel_rfl) (by simp) ?_
  refine AllReadyH.cons (o := { dst := none, op := Op.mapUpdate 166 (Operand.tmp 6) (Operand.tmp 9) (Operand.tmp 10), type := 0, pos := "store.go:117", after := #[{ on := 3, ground := Ground.data }, { on := 6, ground := Ground.data }, { on := 7, ground := Ground.data }, { on := 6, ground := Ground.chain }, { on := 0, ground := Ground.phase }, { on := 1, ground := Ground.phase }, { on := 2, ground := Ground.phase }, { on := 3, ground := Ground.phase }, { on := 4, ground := Ground.phase }, { on := 5, ground := Ground.phase }, { on := 6, ground := Ground.phase }, { on := 7, ground := Ground.phase }], guard := none }) rfl (fun K hK => ?_) AllReadyH.nil
  refine ite_wanted ?_ ?_
  · kernel_rfl
  refine wp_upd kkStr und166 (.tmp 6) (.tmp 9) (.tmp 10) (Or.inl rfl) ((unhide HMP).kept (unhide HK)).paths q.path (.pointer (some ⟨pp, 0, none⟩)) ?_ ?_ ?_ ?_
  · kernel_rfl
  · kernel_rfl
  · kernel_rfl
  intro w1 hm1 hc1 hz1
  have HC1 := hide hc1
  have HU1 := hide (unhide HP1 w1 hm1 hc1)
  have hsu1 : SU sp pb b2 b3 b5 pp q w1 := unhide HSU w1 (fun k hk ht => by obtain ⟨t, ht⟩ := ht; exact (hc1.block k (Nat.lt_of_lt_of_le hk (unhide HK).size) (fun e => map_ne (unhide HMP).paths ht e)).trans ((unhide HK).block k hk))
  clear hm1 hc1
  show K _ w1
  refine hK.out _ _ (hsu1) (fun hHeld8 => ?_)
  clear hK K
  try simp only [Act.put]
  refine wpAnyH_done (by kernel_rfl) ?_ _
  clear hHeld hHeld6 hHeld8 HP1 HPU
  have hB1 : B ≤ w1.heap.size := by have := unhide HB; have := (unhide HK).size; omega
  have hkw : ∀ W, Kept w1.heap.size w1 W → ∀ k, k < w.heap.size → (∃ t, TyAt w k t) → W.heap[k]? = w.heap[k]? := fun W hW k hk ht => by
    obtain ⟨t, ht⟩ := ht
    have hs := (unhide HK).size
    exact (hW.block k (by rw [hz1]; omega)).trans (((unhide HC1).block k (by omega) (fun e => map_ne (unhide HMP).paths ht e)).trans ((unhide HK).block k hk))
  have HKW := hide hkw
  clear hkw hz1
  obtain ⟨i, hi, he, hbf⟩ := (unhide HU1).at'
  have hmem : e ∈ L1.locs := List.mem_map.2 ⟨L1[i], List.getElem_mem hi, by rw [he]⟩
  have hP := (unhide HU1).sto.fam.each e hmem
  have hep := (unhide HU1).p
  subst hep
  have hsm := (unhide HU1).small
  clear hi he hbf
  have HSV := hide (show ∀ W, (∀ k, k < w1.heap.size → (TyAt w1 k 231 ∨ TyAt w1 k 84 ∨ TyAt w1 k 235) → W.heap[k]? = w1.heap[k]?) → SV b3 b5 e.p e.x.next q W ∧ W.cell? ⟨e.p, 1, none⟩ = some e.v ∧ W.frozen? ⟨e.p, 1, none⟩ = false from fun W hW => by
    have t5 := (unhide HKW w1 (Kept.refl _ _) b5 (Array.getElem?_eq_some_iff.1 (unhide H5)).1 ⟨_, _, unhide H5⟩).trans (unhide H5)
    have t3 : RqAt w1 b3 q := (unhide HKW w1 (Kept.refl _ _) b3 (unhide HBX).q.lt ⟨_, _, (unhide HBX).q⟩).trans (unhide HBX).q
    have a5 := (hW b5 (Array.getElem?_eq_some_iff.1 t5).1 (.inl ⟨_, t5⟩)).trans t5
    have a3 : RqAt W b3 q := (hW b3 t3.lt (.inr (.inl ⟨_, t3⟩))).trans t3
    have ap := (hW e.p ((wayP B).ty hP).lt (.inr (.inr ((wayP B).ty hP)))).trans hP.1
    exact ⟨⟨by rw [cell_of_row _ _ _ _ _ _ a5]; rfl, by rw [cell_of_row _ _ _ _ _ _ ap]; rfl, by rw [a3.c 4]; rfl⟩, by rw [cell_of_row _ _ _ _ _ _ ap]; rfl, frozen_of_row _ _ _ _ _ ap⟩)
  have HV := hide (show ∀ k, e.v.ownBlock = some k → TyAt w1 k 237 from fun k hk => ((wayP B).row hP hk).1)
  obtain ⟨ea, ec, hev, _, _⟩ := own_len hP.2.1
  have HOWN := hide hP
  clear hP hmem
  have hn1 : (e.x.next : Int) + 1 < 256 := by omega
  go_wp2_with fail
  refine wp_region_held_drew (S := SV b3 b5 e.p e.x.next q) (by kernel_rfl) ((unhide HSV w1.drew (fun k hk _ => rfl)).1) (fun hHeld => ?_)
  refine wpAnyH_take (i := 0) (oi := { dst := some 11, op := Op.load 231 (Operand.tmp 0), type := 231, pos := "store.go:118", after := #[], guard := none }) (v := .pointer (some ⟨e.p, 0, none⟩)) rfl (by kernel_rfl) (by kernel_rfl) (by kernel_rfl) (fun _ _ _ h => h) (Or.inl ⟨by kernel_rfl, fun W hW => by simp [execOp, go_sem, hW.1]⟩) hHeld ?_
  simp only [Act.put, List.setIfInBounds_toArray, List.set_cons_zero, List.set_cons_succ]
  refine wpAnyH_take (i := 1) (oi := { dst := some 12, op := Op.load 231 (Operand.tmp 0), type := 231, pos := "store.go:118", after := #[], guard := none }) (v := .pointer (some ⟨e.p, 0, none⟩)) rfl (by kernel_rfl) (by kernel_rfl) (by kernel_rfl) (fun _ _ _ h => h) (Or.inl ⟨by kernel_rfl, fun W hW => by simp [execOp, go_sem, hW.1]⟩) hHeld ?_
  simp only [Act.put, List.setIfInBounds_toArray, List.set_cons_zero, List.set_cons_succ]
  refine wpAnyH_take (i := 2) (oi := { dst := some 13, op := Op.nilCheck (Operand.tmp 12), type := 0, pos := "store.go:118", after := #[{ on := 1, ground := Ground.data }], guard := none }) (v := .pointer (some ⟨e.p, 0, none⟩)) rfl (by kernel_rfl) (by kernel_rfl) (by kernel_rfl) (fun _ _ _ h => h) (Or.inl ⟨by kernel_rfl, fun W hW => by kernel_rfl⟩) hHeld ?_
  simp only [Act.put, List.setIfInBounds_toArray, List.set_cons_zero, List.set_cons_succ]
  refine wpAnyH_take (i := 3) (oi := { dst := some 14, op := Op.fieldAddr 235 (Operand.tmp 13) 1, type := 0, pos := "store.go:118", after := #[{ on := 2, ground := Ground.data }], guard := none }) (v := .pointer (some ⟨e.p, 1, none⟩)) rfl (by kernel_rfl) (by kernel_rfl) (by kernel_rfl) (fun _ _ _ h => h) (Or.inl ⟨by kernel_rfl, fun W hW => by kernel_rfl⟩) hHeld ?_
  simp only [Act.put, List.setIfInBounds_toArray, List.set_cons_zero, List.set_cons_succ]
  refine wpAnyH_take (i := 5) (oi := { dst := some 16, op := Op.load 231 (Operand.tmp 0), type := 231, pos := "store.go:118", after := #[], guard := none }) (v := .pointer (some ⟨e.p, 0, none⟩)) rfl (by kernel_rfl) (by kernel_rfl) (by kernel_rfl) (fun _ _ _ h => h) (Or.inl ⟨by kernel_rfl, fun W hW => by simp [execOp, go_sem, hW.1]⟩) hHeld ?_
  simp only [Act.put, List.setIfInBounds_toArray, List.set_cons_zero, List.set_cons_succ]
  refine wpAnyH_take (i := 6) (oi := { dst := some 17, op := Op.nilCheck (Operand.tmp 16), type := 0, pos := "store.go:118", after := #[{ on := 5, ground := Ground.data }], guard := none }) (v := .pointer (some ⟨e.p, 0, none⟩)) rfl (by kernel_rfl) (by kernel_rfl) (by kernel_rfl) (fun _ _ _ h => h) (Or.inl ⟨by kernel_rfl, fun W hW => by kernel_rfl⟩) hHeld ?_
  simp only [Act.put, List.setIfInBounds_toArray, List.set_cons_zero, List.set_cons_succ]
  refine wpAnyH_take (i := 7) (oi := { dst := some 18, op := Op.fieldAddr 235 (Operand.tmp 17) 0, type := 0, pos := "store.go:118", after := #[{ on := 6, ground := Ground.data }], guard := none }) (v := .pointer (some ⟨e.p, 0, none⟩)) rfl (by kernel_rfl) (by kernel_rfl) (by kernel_rfl) (fun _ _ _ h => h) (Or.inl ⟨by kernel_rfl, fun W hW => by kernel_rfl⟩) hHeld ?_
  simp only [Act.put, List.setIfInBounds_toArray, List.set_cons_zero, List.set_cons_succ]
  refine wpAnyH_take (i := 8) (oi := { dst := some 19, op := Op.load 5 (Operand.tmp 18), type := 5, pos := "store.go:118", after := #[{ on := 7, ground := Ground.data }], guard := none }) (v := .int .u8 (e.x.next : Int)) rfl (by kernel_rfl) (by kernel_rfl) (by kernel_rfl) (fun _ _ _ h => h) (Or.inl ⟨by kernel_rfl, fun W hW => by simp [execOp, go_sem, hW.2.1]⟩) hHeld ?_
  simp only [Act.put, List.setIfInBounds_toArray, List.set_cons_zero, List.set_cons_succ]
  refine wpAnyH_take (i := 9) (oi := { dst := some 20, op := Op.fieldAddr 84 (Operand.tmp 2) 4, type := 0, pos := "store.go:118", after := #[], guard := none }) (v := .pointer (some ⟨b3, 4, none⟩)) rfl (by kernel_rfl) (by kernel_rfl) (by kernel_rfl) (fun _ _ _ h => h) (Or.inl ⟨by kernel_rfl, fun W hW => by kernel_rfl⟩) hHeld ?_
  simp only [Act.put, List.setIfInBounds_toArray, List.set_cons_zero, List.set_cons_succ]
  refine wpAnyH_take (i := 10) (oi := { dst := some 21, op := Op.load 9 (Operand.tmp 20), type := 9, pos := "store.go:118", after := #[{ on := 9, ground := Ground.data }], guard := none }) (v := .string q.value) rfl (by kernel_rfl) (by kernel_rfl) (by kernel_rfl) (fun _ _ _ h => h) (Or.inl ⟨by kernel_rfl, fun W hW => by simp [execOp, go_sem, hW.2.2]⟩) hHeld ?_
  simp only [Act.put, List.setIfInBounds_toArray, List.set_cons_zero, List.set_cons_succ]
  refine wpAnyH_ready (rs := [4, 11]) (by kernel_rfl) (by simp) ?_
  refine AllReadyH.cons (o := { dst := some 15, op := Op.load 233 (Operand.tmp 14), type := 233, pos := "store.go:118", after := #[{ on := 3, ground := Ground.data }], guard := none }) rfl (fun K hK => ?_) ?_
  · refine ite_wanted ?_ ?_
    · kernel_rfl
    have hc4 := (unhide HSV w1.drew (fun k hk _ => rfl)).2.1
    go_simp
    clear hc4
    refine hK.out _ _ ((unhide HSV w1.drew (fun k hk _ => rfl)).1) (fun hHeld4 => ?_)
    clear hK K
    try simp only [Act.put, List.setIfInBounds_toArray, List.set_cons_zero, List.set_cons_succ]
    refine wpAnyH_ready (rs := [11]) (by kernel_rfl) (by simp) ?_
    refine AllReadyH.cons (o := { dst := some 22, op := Op.call { callee := Callee.value (Operand.func 63), args := #[Operand.tmp 21], argTypes := #[9] }, type := 9, pos := "store.go:118", after := #[{ on := 10, ground := Ground.data }], guard := none }) rfl (fun K hK => ?_) AllReadyH.nil
    refine ite_wanted ?_ ?_
    · kernel_rfl
    go_simp
    refine (clone_go q.value _ (by omega)).mono ?_
    rintro _ w2 ⟨rfl, hk2⟩
    have HK2 := hide (show Kept w1.heap.size w1 w2 from ⟨hk2.os, hk2.output, hk2.size, hk2.block⟩)
    clear hk2
    show K _ w2
    refine hK.out _ _ ((unhide HSV w2 (fun k hk _ => (unhide HK2).block k hk)).1) (fun hHeld11 => ?_)
    clear hK K
    try simp only [Act.put, List.setIfInBounds_toArray, List.set_cons_zero, List.set_cons_succ]
    refine wpAnyH_take (i := 12) (oi := { dst := some 23, op := Op.build 237 #[(0, Operand.tmp 19), (1, Operand.tmp 22)], type := 237, pos := "store.go:118", after := #[{ on := 8, ground := Ground.data }, { on := 11, ground := Ground.data }], guard := none }) (v := .agg #[.int .u8 (e.x.next : Int), .string q.value]) rfl (by kernel_rfl) (by kernel_rfl) (by kernel_rfl) (fun _ _ _ h => h) (Or.inl ⟨by kernel_rfl, fun W hW => by kernel_rfl⟩) hHeld11 ?_
    simp only [Act.put, List.setIfInBounds_toArray, List.set_cons_zero, List.set_cons_succ]
    refine wpAnyH_ready (rs := [13]) (by kernel_rfl) (by simp) ?_
    refine AllReadyH.cons (o := { dst := some 24, op := Op.buildSlice 233 1 #[(0, Operand.tmp 23)], type := 233, pos := "store.go:118", after := #[{ on := 12, ground := Ground.data }], guard := none }) rfl (fun K hK => ?_) AllReadyH.nil
    refine ite_wanted ?_ ?_
    · kernel_rfl
    go_simp
    show K _ (w2.alloc (.cells (vcell (e.x.next, q.value)).toArray 237))
    refine hK.out _ _ ((unhide HSV (w2.alloc (.cells (vcell (e.x.next, q.value)).toArray 237)) (fun k hk _ => (Below.heap_alloc w2 (.cells (vcell (e.x.next, q.value)).toArray 237) k (Nat.lt_of_lt_of_le hk (unhide HK2).size)).trans ((unhide HK2).block k hk))).1) (fun hHeld13 => ?_)
    clear hK K
    try simp only [Act.put, List.setIfInBounds_toArray, List.set_cons_zero, List.set_cons_succ]
    refine wpAnyH_ready (rs := [14]) (by kernel_rfl) (by simp) ?_
    refine AllReadyH.cons (o := { dst := some 25, op := Op.call { callee := Callee.builtin Builtin.append, args := #[Operand.tmp 15, Operand.tmp 24], argTypes := #[233, 233] }, type := 233, pos := "store.go:118", after := #[{ on := 4, ground := Ground.data }, { on := 13, ground := Ground.data }, { on := 11, ground := Ground.chain }], guard := none }) rfl (fun K hK => ?_) AllReadyH.nil
    refine ite_wanted ?_ ?_
    · kernel_rfl
    refine wp_append_ver (.tmp 15) (.tmp 24) rfl B (.slice ea e.x.vers.length ec) e.x.vers (e.x.next, q.value) w2 ?_ (hev ▸ own_kept (unhide HOWN).2.1 (unhide HK2)) (by omega) ?_ rfl (by have := (unhide HK2).size; omega) ?_
    · kernel_rfl
    · kernel_rfl
    intro v3 w3 ho3 hu3
    rw [← hev] at hu3
    have h3b : ∀ k, k < w1.heap.size → (TyAt w1 k 231 ∨ TyAt w1 k 84 ∨ TyAt w1 k 235) → w3.heap[k]? = w1.heap[k]? := fun k hk ht => by
      have hs := (unhide HK2).size
      refine (hu3.block k (by omega) (by omega) (fun hv => ?_)).trans ((unhide HK2).block k hk)
      have hy := unhide HV k hv
      rcases ht with ht | ht | ht <;> exact hy.ne ht (by decide) rfl
    have hsv3 := unhide HSV w3 h3b
    have hc3 := hsv3.2.1
    have hf3 := hsv3.2.2
    obtain ⟨a3, c3, hv3, _, _⟩ := own_len ho3
    have HSV4 := hide (show SV b3 b5 e.p e.x.next q (w3.setCell ⟨e.p, 1, none⟩ v3) from by
      have t5 := (unhide HKW w1 (Kept.refl _ _) b5 (Array.getElem?_eq_some_iff.1 (unhide H5)).1 ⟨_, _, unhide H5⟩).trans (unhide H5)
      have t3 : RqAt w1 b3 q := (unhide HKW w1 (Kept.refl _ _) b3 (unhide HBX).q.lt ⟨_, _, (unhide HBX).q⟩).trans (unhide HBX).q
      have tp := (wayP B).ty (unhide HOWN)
      have n5 : b5 ≠ e.p := fun e' => by rw [e'] at t5; exact tp.ne ⟨_, t5⟩ (by decide) rfl
      have n3 : b3 ≠ e.p := fun e' => by rw [e'] at t3; exact tp.ne ⟨_, t3⟩ (by decide) rfl
      have ap : w3.heap[e.p]? = some (.cells #[.int .u8 (e.x.next : Int), e.v] 235 (0, 0)) := (h3b e.p tp.lt (.inr (.inr tp))).trans (unhide HOWN).1
      have ap4 : (w3.setCell ⟨e.p, 1, none⟩ v3).heap[e.p]? = some (.cells #[.int .u8 (e.x.next : Int), v3] 235 (0, 0)) := by rw [heap_setCell_same _ _ _ _ _ _ ap]; rfl
      refine ⟨?_, by rw [cell_of_row _ _ _ _ _ _ ap4]; rfl, ?_⟩
      · rw [World.cell?_of_block (w := w3) (a := ⟨b5, 0, none⟩) (heap_setCell_other _ _ _ _ n5)]; exact hsv3.1.1
      · rw [World.cell?_of_block (w := w3) (a := ⟨b3, 4, none⟩) (heap_setCell_other _ _ _ _ n3)]; exact hsv3.1.2.2)
    have hfr4 : (w3.setCell ⟨e.p, 1, none⟩ v3).frozen? ⟨e.p, 0, none⟩ = false := by
      have tp := (wayP B).ty (unhide HOWN)
      have ap : w3.heap[e.p]? = some (.cells #[.int .u8 (e.x.next : Int), e.v] 235 (0, 0)) := (h3b e.p tp.lt (.inr (.inr tp))).trans (unhide HOWN).1
      have ap4 : (w3.setCell ⟨e.p, 1, none⟩ v3).heap[e.p]? = some (.cells #[.int .u8 (e.x.next : Int), v3] 235 (0, 0)) := by rw [heap_setCell_same _ _ _ _ _ _ ap]; rfl
      exact frozen_of_row _ _ _ _ _ ap4
    have HEND := hide (pu_end (w5 := (w3.setCell ⟨e.p, 1, none⟩ v3).setCell ⟨e.p, 0, none⟩ (.int .u8 ((e.x.next + 1 : Nat) : Int))) (unhide HK) (unhide HC1) (unhide HU1) (unhide HK2) hu3 ho3 rfl rfl hB1 (unhide HN0) ((unhide HMP).kept (unhide HK)).paths)
    have HS3 := hide hsv3.1
    clear hsv3 ho3 hu3 h3b
    show K _ w3
    refine hK.out _ _ (unhide HS3) (fun hHeld14 => ?_)
    clear hK K
    try simp only [Act.put, List.setIfInBounds_toArray, List.set_cons_zero, List.set_cons_succ]
    refine wpAnyH_take (i := 15) (oi := { dst := some 26, op := Op.nilCheck (Operand.tmp 11), type := 0, pos := "store.go:118", after := #[{ on := 0, ground := Ground.data }, { on := 0, ground := Ground.phase }, { on := 1, ground := Ground.phase }, { on := 2, ground := Ground.phase }, { on := 3, ground := Ground.phase }, { on := 4, ground := Ground.phase }, { on := 5, ground := Ground.phase }, { on := 6, ground := Ground.phase }, { on := 7, ground := Ground.phase }, { on := 8, ground := Ground.phase }, { on := 9, ground := Ground.phase }, { on := 10, ground := Ground.phase }, { on := 11, ground := Ground.phase }, { on := 12, ground := Ground.phase }, { on := 13, ground := Ground.phase }, { on := 14, ground := Ground.phase }], guard := none }) (v := .pointer (some ⟨e.p, 0, none⟩)) rfl (by kernel_rfl) (by kernel_rfl) (by kernel_rfl) (fun _ _ _ h => h) (Or.inl ⟨by kernel_rfl, fun W hW => by kernel_rfl⟩) hHeld14 ?_
    simp only [Act.put, List.setIfInBounds_toArray, List.set_cons_zero, List.set_cons_succ]
    refine wpAnyH_take (i := 16) (oi := { dst := some 27, op := Op.fieldAddr 235 (Operand.tmp 26) 1, type := 0, pos := "store.go:118", after := #[{ on := 15, ground := Ground.data }, { on := 0, ground := Ground.phase }, { on := 1, ground := Ground.phase }, { on := 2, ground := Ground.phase }, { on := 3, ground := Ground.phase }, { on := 4, ground := Ground.phase }, { on := 5, ground := Ground.phase }, { on := 6, ground := Ground.phase }, { on := 7, ground := Ground.phase }, { on := 8, ground := Ground.phase }, { on := 9, ground := Ground.phase }, { on := 10, ground := Ground.phase }, { on := 11, ground := Ground.phase }, { on := 12, ground := Ground.phase }, { on := 13, ground := Ground.phase }, { on := 14, ground := Ground.phase }], guard := none }) (v := .pointer (some ⟨e.p, 1, none⟩)) rfl (by kernel_rfl) (by kernel_rfl) (by kernel_rfl) (fun _ _ _ h => h) (Or.inl ⟨by kernel_rfl, fun W hW => by kernel_rfl⟩) hHeld14 ?_
    simp only [Act.put, List.setIfInBounds_toArray, List.set_cons_zero, List.set_cons_succ]
    refine wpAnyH_ready (rs := [17]) (by kernel_rfl) (by simp) ?_
    refine AllReadyH.cons (o := { dst := none, op := Op.store 233 (Operand.tmp 27) (Operand.tmp 25), type := 0, pos := "store.go:118", after := #[{ on := 16, ground := Ground.data }, { on := 14, ground := Ground.data }, { on := 14, ground := Ground.chain }, { on := 0, ground := Ground.phase }, { on := 1, ground := Ground.phase }, { on := 2, ground := Ground.phase }, { on := 3, ground := Ground.phase }, { on := 4, ground := Ground.phase }, { on := 5, ground := Ground.phase }, { on := 6, ground := Ground.phase }, { on := 7, ground := Ground.phase }, { on := 8, ground := Ground.phase }, { on := 9, ground := Ground.phase }, { on := 10, ground := Ground.phase }, { on := 11, ground := Ground.phase }, { on := 12, ground := Ground.phase }, { on := 13, ground := Ground.phase }, { on := 14, ground := Ground.phase }], guard := none }) rfl (fun K hK => ?_) AllReadyH.nil
    refine ite_wanted ?_ ?_
    · kernel_rfl
    refine wp_store_cell233 (.tmp 27) (.tmp 25) rfl ⟨e.p, 1, none⟩ ?_ a3 (e.x.vers ++ [(e.x.next, q.value)]).length c3 ?_ _ hc3 hf3 ?_
    · kernel_rfl
    · rw [hv3]; kernel_rfl
    rw [← hv3]
    simp only [Act.put]
    refine hK.out _ _ (unhide HSV4) (fun hHeld17 => ?_)
    clear hK K
    try simp only [Act.put, List.setIfInBounds_toArray, List.set_cons_zero, List.set_cons_succ]
    refine wpAnyH_done (by kernel_rfl) ?_ _
    have c0 := (unhide HSV4).1
    have c1 := (unhide HSV4).2.1
    have hwr : IntKind.u8.wrap ((e.x.next : Int) + 1) = ((e.x.next + 1 : Nat) : Int) := by simp [IntKind.wrap, IntKind.bits, IntKind.signed]; omega
    generalize w3.setCell ⟨e.p, 1, none⟩ v3 = w4 at *
    go_wp2_with fail
    refine end0 rfl rfl ?_
    exact unhide HEND
  · refine AllReadyH.cons (o := { dst := some 22, op := Op.call { callee := Callee.value (Operand.func 63), args := #[Operand.tmp 21], argTypes := #[9] }, type := 9, pos := "store.go:118", after := #[{ on := 10, ground := Ground.data }], guard := none }) rfl (fun K hK => ?_) AllReadyH.nil
    refine ite_wanted ?_ ?_
    · kernel_rfl
    go_simp
    refine (clone_go q.value _ (by omega)).mono ?_
    rintro _ w2 ⟨rfl, hk2⟩
    have HK2 := hide (show Kept w1.heap.size w1 w2 from ⟨hk2.os, hk2.output, hk2.size, hk2.block⟩)
    clear hk2
    show K _ w2
    refine hK.out _ _ ((unhide HSV w2 (fun k hk _ => (unhide HK2).block k hk)).1) (fun hHeld11 => ?_)
    clear hK K
    try simp only [Act.put, List.setIfInBounds_toArray, List.set_cons_zero, List.set_cons_succ]
    refine wpAnyH_take (i := 12) (oi := { dst := some 23, op := Op.build 237 #[(0, Operand.tmp 19), (1, Operand.tmp 22)], type := 237, pos := "store.go:118", after := #[{ on := 8, ground := Ground.data }, { on := 11, ground := Ground.data }], guard := none }) (v := .agg #[.int .u8 (e.x.next : Int), .string q.value]) rfl (by kernel_rfl) (by kernel_rfl) (by kernel_rfl) (fun _ _ _ h => h) (Or.inl ⟨by kernel_rfl, fun W hW => by kernel_rfl⟩) hHeld11 ?_
    simp only [Act.put, List.setIfInBounds_toArray, List.set_cons_zero, List.set_cons_succ]
    refine wpAnyH_ready (rs := [4, 13]) (by kernel_rfl) (by simp) ?_
    refine AllReadyH.cons (o := { dst := some 15, op := Op.load 233 (Operand.tmp 14), type := 233, pos := "store.go:118", after := #[{ on := 3, ground := Ground.data }], guard := none }) rfl (fun K hK => ?_) ?_
    · refine ite_wanted ?_ ?_
      · kernel_rfl
      have hc4 := (unhide HSV w2 (fun k hk _ => (unhide HK2).block k hk)).2.1
      go_simp
      clear hc4
      refine hK.out _ _ ((unhide HSV w2 (fun k hk _ => (unhide HK2).block k hk)).1) (fun hHeld4 => ?_)
      clear hK K
      try simp only [Act.put, List.setIfInBounds_toArray, List.set_cons_zero, List.set_cons_succ]
      refine wpAnyH_ready (rs := [13]) (by kernel_rfl) (by simp) ?_
      refine AllReadyH.cons (o := { dst := some 24, op := Op.buildSlice 233 1 #[(0, Operand.tmp 23)], type := 233, pos := "store.go:118", after := #[{ on := 12, ground := Ground.data }], guard := none }) rfl (fun K hK => ?_) AllReadyH.nil
      refine ite_wanted ?_ ?_
      · kernel_rfl
      go_simp
      show K _ (w2.alloc (.cells (vcell (e.x.next, q.value)).toArray 237))
      refine hK.out _ _ ((unhide HSV (w2.alloc (.cells (vcell (e.x.next, q.value)).toArray 237)) (fun k hk _ => (Below.heap_alloc w2 (.cells (vcell (e.x.next, q.value)).toArray 237) k (Nat.lt_of_lt_of_le hk (unhide HK2).size)).trans ((unhide HK2).block k hk))).1) (fun hHeld13 => ?_)
      clear hK K
      try simp only [Act.put, List.setIfInBounds_toArray, List.set_cons_zero, List.set_cons_succ]
      refine wpAnyH_ready (rs := [14]) (by kernel_rfl) (by simp) ?_
      refine AllReadyH.cons (o := { dst := some 25, op := Op.call { callee := Callee.builtin Builtin.append, args := #[Operand.tmp 15, Operand.tmp 24], argTypes := #[233, 233] }, type := 233, pos := "store.go:118", after := #[{ on := 4, ground := Ground.data }, { on := 13, ground := Ground.data }, { on := 11, ground := Ground.chain }], guard := none }) rfl (fun K hK => ?_) AllReadyH.nil
      refine ite_wanted ?_ ?_
      · kernel_rfl
      refine wp_append_ver (.tmp 15) (.tmp 24) rfl B (.slice ea e.x.vers.length ec) e.x.vers (e.x.next, q.value) w2 ?_ (hev ▸ own_kept (unhide HOWN).2.1 (unhide HK2)) (by omega) ?_ rfl (by have := (unhide HK2).size; omega) ?_
      · kernel_rfl
      · kernel_rfl
      intro v3 w3 ho3 hu3
      rw [← hev] at hu3
      have h3b : ∀ k, k < w1.heap.size → (TyAt w1 k 231 ∨ TyAt w1 k 84 ∨ TyAt w1 k 235) → w3.heap[k]? = w1.heap[k]? := fun k hk ht => by
        have hs := (unhide HK2).size
        refine (hu3.block k (by omega) (by omega) (fun hv => ?_)).trans ((unhide HK2).block k hk)
        have hy := unhide HV k hv
        rcases ht with ht | ht | ht <;> exact hy.ne ht (by decide) rfl
      have hsv3 := unhide HSV w3 h3b
      have hc3 := hsv3.2.1
      have hf3 := hsv3.2.2
      obtain ⟨a3, c3, hv3, _, _⟩ := own_len ho3
      have HSV4 := hide (show SV b3 b5 e.p e.x.next q (w3.setCell ⟨e.p, 1, none⟩ v3) from by
        have t5 := (unhide HKW w1 (Kept.refl _ _) b5 (Array.getElem?_eq_some_iff.1 (unhide H5)).1 ⟨_, _, unhide H5⟩).trans (unhide H5)
        have t3 : RqAt w1 b3 q := (unhide HKW w1 (Kept.refl _ _) b3 (unhide HBX).q.lt ⟨_, _, (unhide HBX).q⟩).trans (unhide HBX).q
        have tp := (wayP B).ty (unhide HOWN)
        have n5 : b5 ≠ e.p := fun e' => by rw [e'] at t5; exact tp.ne ⟨_, t5⟩ (by decide) rfl
        have n3 : b3 ≠ e.p := fun e' => by rw [e'] at t3; exact tp.ne ⟨_, t3⟩ (by decide) rfl
        have ap : w3.heap[e.p]? = some (.cells #[.int .u8 (e.x.next : Int), e.v] 235 (0, 0)) := (h3b e.p tp.lt (.inr (.inr tp))).trans (unhide HOWN).1
        have ap4 : (w3.setCell ⟨e.p, 1, none⟩ v3).heap[e.p]? = some (.cells #[.int .u8 (e.x.next : Int), v3] 235 (0, 0)) := by rw [heap_setCell_same _ _ _ _ _ _ ap]; rfl
        refine ⟨?_, by rw [cell_of_row _ _ _ _ _ _ ap4]; rfl, ?_⟩
        · rw [World.cell?_of_block (w := w3) (a := ⟨b5, 0, none⟩) (heap_setCell_other _ _ _ _ n5)]; exact hsv3.1.1
        · rw [World.cell?_of_block (w := w3) (a := ⟨b3, 4, none⟩) (heap_setCell_other _ _ _ _ n3)]; exact hsv3.1.2.2)
      have hfr4 : (w3.setCell ⟨e.p, 1, none⟩ v3).frozen? ⟨e.p, 0, none⟩ = false := by
        have tp := (wayP B).ty (unhide HOWN)
        have ap : w3.heap[e.p]? = some (.cells #[.int .u8 (e.x.next : Int), e.v] 235 (0, 0)) := (h3b e.p tp.lt (.inr (.inr tp))).trans (unhide HOWN).1
        have ap4 : (w3.setCell ⟨e.p, 1, none⟩ v3).heap[e.p]? = some (.cells #[.int .u8 (e.x.next : Int), v3] 235 (0, 0)) := by rw [heap_setCell_same _ _ _ _ _ _ ap]; rfl
        exact frozen_of_row _ _ _ _ _ ap4
      have HEND := hide (pu_end (w5 := (w3.setCell ⟨e.p, 1, none⟩ v3).setCell ⟨e.p, 0, none⟩ (.int .u8 ((e.x.next + 1 : Nat) : Int))) (unhide HK) (unhide HC1) (unhide HU1) (unhide HK2) hu3 ho3 rfl rfl hB1 (unhide HN0) ((unhide HMP).kept (unhide HK)).paths)
      have HS3 := hide hsv3.1
      clear hsv3 ho3 hu3 h3b
      show K _ w3
      refine hK.out _ _ (unhide HS3) (fun hHeld14 => ?_)
      clear hK K
      try simp only [Act.put, List.setIfInBounds_toArray, List.set_cons_zero, List.set_cons_succ]
      refine wpAnyH_take (i := 15) (oi := { dst := some 26, op := Op.nilCheck (Operand.tmp 11), type := 0, pos := "store.go:118", after := #[{ on := 0, ground := Ground.data }, { on := 0, ground := Ground.phase }, { on := 1, ground := Ground.phase }, { on := 2, ground := Ground.phase }, { on := 3, ground := Ground.phase }, { on := 4, ground := Ground.phase }, { on := 5, ground := Ground.phase }, { on := 6, ground := Ground.phase }, { on := 7, ground := Ground.phase }, { on := 8, ground := Ground.phase }, { on := 9, ground := Ground.phase }, { on := 10, ground := Ground.phase }, { on := 11, ground := Ground.phase }, { on := 12, ground := Ground.phase }, { on := 13, ground := Ground.phase }, { on := 14, ground := Ground.phase }], guard := none }) (v := .pointer (some ⟨e.p, 0, none⟩)) rfl (by kernel_rfl) (by kernel_rfl) (by kernel_rfl) (fun _ _ _ h => h) (Or.inl ⟨by kernel_rfl, fun W hW => by kernel_rfl⟩) hHeld14 ?_
      simp only [Act.put, List.setIfInBounds_toArray, List.set_cons_zero, List.set_cons_succ]
      refine wpAnyH_take (i := 16) (oi := { dst := some 27, op := Op.fieldAddr 235 (Operand.tmp 26) 1, type := 0, pos := "store.go:118", after := #[{ on := 15, ground := Ground.data }, { on := 0, ground := Ground.phase }, { on := 1, ground := Ground.phase }, { on := 2, ground := Ground.phase }, { on := 3, ground := Ground.phase }, { on := 4, ground := Ground.phase }, { on := 5, ground := Ground.phase }, { on := 6, ground := Ground.phase }, { on := 7, ground := Ground.phase }, { on := 8, ground := Ground.phase }, { on := 9, ground := Ground.phase }, { on := 10, ground := Ground.phase }, { on := 11, ground := Ground.phase }, { on := 12, ground := Ground.phase }, { on := 13, ground := Ground.phase }, { on := 14, ground := Ground.phase }], guard := none }) (v := .pointer (some ⟨e.p, 1, none⟩)) rfl (by kernel_rfl) (by kernel_rfl) (by kernel_rfl) (fun _ _ _ h => h) (Or.inl ⟨by kernel_rfl, fun W hW => by kernel_rfl⟩) hHeld14 ?_
      simp only [Act.put, List.setIfInBounds_toArray, List.set_cons_zero, List.set_cons_succ]
      refine wpAnyH_ready (rs := [17]) (by kernel_rfl) (by simp) ?_
      refine AllReadyH.cons (o := { dst := none, op := Op.store 233 (Operand.tmp 27) (Operand.tmp 25), type := 0, pos := "store.go:118", after := #[{ on := 16, ground := Ground.data }, { on := 14, ground := Ground.data }, { on := 14, ground := Ground.chain }, { on := 0, ground := Ground.phase }, { on := 1, ground := Ground.phase }, { on := 2, ground := Ground.phase }, { on := 3, ground := Ground.phase }, { on := 4, ground := Ground.phase }, { on := 5, ground := Ground.phase }, { on := 6, ground := Ground.phase }, { on := 7, ground := Ground.phase }, { on := 8, ground := Ground.phase }, { on := 9, ground := Ground.phase }, { on := 10, ground := Ground.phase }, { on := 11, ground := Ground.phase }, { on := 12, ground := Ground.phase }, { on := 13, ground := Ground.phase }, { on := 14, ground := Ground.phase }], guard := none }) rfl (fun K hK => ?_) AllReadyH.nil
      refine ite_wanted ?_ ?_
      · kernel_rfl
      refine wp_store_cell233 (.tmp 27) (.tmp 25) rfl ⟨e.p, 1, none⟩ ?_ a3 (e.x.vers ++ [(e.x.next, q.value)]).length c3 ?_ _ hc3 hf3 ?_
      · kernel_rfl
      · rw [hv3]; kernel_rfl
      rw [← hv3]
      simp only [Act.put]
      refine hK.out _ _ (unhide HSV4) (fun hHeld17 => ?_)
      clear hK K
      try simp only [Act.put, List.setIfInBounds_toArray, List.set_cons_zero, List.set_cons_succ]
      refine wpAnyH_done (by kernel_rfl) ?_ _
      have c0 := (unhide HSV4).1
      have c1 := (unhide HSV4).2.1
      have hwr : IntKind.u8.wrap ((e.x.next : Int) + 1) = ((e.x.next + 1 : Nat) : Int) := by simp [IntKind.wrap, IntKind.bits, IntKind.signed]; omega
      generalize w3.setCell ⟨e.p, 1, none⟩ v3 = w4 at *
      go_wp2_with fail
      refine end0 rfl rfl ?_
      exact unhide HEND
    · refine AllReadyH.cons (o := { dst := some 24, op := Op.buildSlice 233 1 #[(0, Operand.tmp 23)], type := 233, pos := "store.go:118", after := #[{ on := 12, ground := Ground.data }], guard := none }) rfl (fun K hK => ?_) AllReadyH.nil
      refine ite_wanted ?_ ?_
      · kernel_rfl
      go_simp
      show K _ (w2.alloc (.cells (vcell (e.x.next, q.value)).toArray 237))
      refine hK.out _ _ ((unhide HSV (w2.alloc (.cells (vcell (e.x.next, q.value)).toArray 237)) (fun k hk _ => (Below.heap_alloc w2 (.cells (vcell (e.x.next, q.value)).toArray 237) k (Nat.lt_of_lt_of_le hk (unhide HK2).size)).trans ((unhide HK2).block k hk))).1) (fun hHeld13 => ?_)
      clear hK K
      try simp only [Act.put, List.setIfInBounds_toArray, List.set_cons_zero, List.set_cons_succ]
      refine wpAnyH_ready (rs := [4]) (by kernel_rfl) (by simp) ?_
      refine AllReadyH.cons (o := { dst := some 15, op := Op.load 233 (Operand.tmp 14), type := 233, pos := "store.go:118", after := #[{ on := 3, ground := Ground.data }], guard := none }) rfl (fun K hK => ?_) AllReadyH.nil
      refine ite_wanted ?_ ?_
      · kernel_rfl
      have hc4 := (unhide HSV (w2.alloc (.cells (vcell (e.x.next, q.value)).toArray 237)) (fun k hk _ => (Below.heap_alloc w2 (.cells (vcell (e.x.next, q.value)).toArray 237) k (Nat.lt_of_lt_of_le hk (unhide HK2).size)).trans ((unhide HK2).block k hk))).2.1
      go_simp
      clear hc4
      refine hK.out _ _ ((unhide HSV (w2.alloc (.cells (vcell (e.x.next, q.value)).toArray 237)) (fun k hk _ => (Below.heap_alloc w2 (.cells (vcell (e.x.next, q.value)).toArray 237) k (Nat.lt_of_lt_of_le hk (unhide HK2).size)).trans ((unhide HK2).block k hk))).1) (fun hHeld4 => ?_)
      clear hK K
      try simp only [Act.put, List.setIfInBounds_toArray, List.set_cons_zero, List.set_cons_succ]
      refine wpAnyH_ready (rs := [14]) (by kernel_rfl) (by simp) ?_
      refine AllReadyH.cons (o := { dst := some 25, op := Op.call { callee := Callee.builtin Builtin.append, args := #[Operand.tmp 15, Operand.tmp 24], argTypes := #[233, 233] }, type := 233, pos := "store.go:118", after := #[{ on := 4, ground := Ground.data }, { on := 13, ground := Ground.data }, { on := 11, ground := Ground.chain }], guard := none }) rfl (fun K hK => ?_) AllReadyH.nil
      refine ite_wanted ?_ ?_
      · kernel_rfl
      refine wp_append_ver (.tmp 15) (.tmp 24) rfl B (.slice ea e.x.vers.length ec) e.x.vers (e.x.next, q.value) w2 ?_ (hev ▸ own_kept (unhide HOWN).2.1 (unhide HK2)) (by omega) ?_ rfl (by have := (unhide HK2).size; omega) ?_
      · kernel_rfl
      · kernel_rfl
      intro v3 w3 ho3 hu3
      rw [← hev] at hu3
      have h3b : ∀ k, k < w1.heap.size → (TyAt w1 k 231 ∨ TyAt w1 k 84 ∨ TyAt w1 k 235) → w3.heap[k]? = w1.heap[k]? := fun k hk ht => by
        have hs := (unhide HK2).size
        refine (hu3.block k (by omega) (by omega) (fun hv => ?_)).trans ((unhide HK2).block k hk)
        have hy := unhide HV k hv
        rcases ht with ht | ht | ht <;> exact hy.ne ht (by decide) rfl
      have hsv3 := unhide HSV w3 h3b
      have hc3 := hsv3.2.1
      have hf3 := hsv3.2.2
      obtain ⟨a3, c3, hv3, _, _⟩ := own_len ho3
      have HSV4 := hide (show SV b3 b5 e.p e.x.next q (w3.setCell ⟨e.p, 1, none⟩ v3) from by
        have t5 := (unhide HKW w1 (Kept.refl _ _) b5 (Array.getElem?_eq_some_iff.1 (unhide H5)).1 ⟨_, _, unhide H5⟩).trans (unhide H5)
        have t3 : RqAt w1 b3 q := (unhide HKW w1 (Kept.refl _ _) b3 (unhide HBX).q.lt ⟨_, _, (unhide HBX).q⟩).trans (unhide HBX).q
        have tp := (wayP B).ty (unhide HOWN)
        have n5 : b5 ≠ e.p := fun e' => by rw [e'] at t5; exact tp.ne ⟨_, t5⟩ (by decide) rfl
        have n3 : b3 ≠ e.p := fun e' => by rw [e'] at t3; exact tp.ne ⟨_, t3⟩ (by decide) rfl
        have ap : w3.heap[e.p]? = some (.cells #[.int .u8 (e.x.next : Int), e.v] 235 (0, 0)) := (h3b e.p tp.lt (.inr (.inr tp))).trans (unhide HOWN).1
        have ap4 : (w3.setCell ⟨e.p, 1, none⟩ v3).heap[e.p]? = some (.cells #[.int .u8 (e.x.next : Int), v3] 235 (0, 0)) := by rw [heap_setCell_same _ _ _ _ _ _ ap]; rfl
        refine ⟨?_, by rw [cell_of_row _ _ _ _ _ _ ap4]; rfl, ?_⟩
        · rw [World.cell?_of_block (w := w3) (a := ⟨b5, 0, none⟩) (heap_setCell_other _ _ _ _ n5)]; exact hsv3.1.1
        · rw [World.cell?_of_block (w := w3) (a := ⟨b3, 4, none⟩) (heap_setCell_other _ _ _ _ n3)]; exact hsv3.1.2.2)
      have hfr4 : (w3.setCell ⟨e.p, 1, none⟩ v3).frozen? ⟨e.p, 0, none⟩ = false := by
        have tp := (wayP B).ty (unhide HOWN)
        have ap : w3.heap[e.p]? = some (.cells #[.int .u8 (e.x.next : Int), e.v] 235 (0, 0)) := (h3b e.p tp.lt (.inr (.inr tp))).trans (unhide HOWN).1
        have ap4 : (w3.setCell ⟨e.p, 1, none⟩ v3).heap[e.p]? = some (.cells #[.int .u8 (e.x.next : Int), v3] 235 (0, 0)) := by rw [heap_setCell_same _ _ _ _ _ _ ap]; rfl
        exact frozen_of_row _ _ _ _ _ ap4
      have HEND := hide (pu_end (w5 := (w3.setCell ⟨e.p, 1, none⟩ v3).setCell ⟨e.p, 0, none⟩ (.int .u8 ((e.x.next + 1 : Nat) : Int))) (unhide HK) (unhide HC1) (unhide HU1) (unhide HK2) hu3 ho3 rfl rfl hB1 (unhide HN0) ((unhide HMP).kept (unhide HK)).paths)
      have HS3 := hide hsv3.1
      clear hsv3 ho3 hu3 h3b
      show K _ w3
      refine hK.out _ _ (unhide HS3) (fun hHeld14 => ?_)
      clear hK K
      try simp only [Act.put, List.setIfInBounds_toArray, List.set_cons_zero, List.set_cons_succ]
      refine wpAnyH_take (i := 15) (oi := { dst := some 26, op := Op.nilCheck (Operand.tmp 11), type := 0, pos := "store.go:118", after := #[{ on := 0, ground := Ground.data }, { on := 0, ground := Ground.phase }, { on := 1, ground := Ground.phase }, { on := 2, ground := Ground.phase }, { on := 3, ground := Ground.phase }, { on := 4, ground := Ground.phase }, { on := 5, ground := Ground.phase }, { on := 6, ground := Ground.phase }, { on := 7, ground := Ground.phase }, { on := 8, ground := Ground.phase }, { on := 9, ground := Ground.phase }, { on := 10, ground := Ground.phase }, { on := 11, ground := Ground.phase }, { on := 12, ground := Ground.phase }, { on := 13, ground := Ground.phase }, { on := 14, ground := Ground.phase }], guard := none }) (v := .pointer (some ⟨e.p, 0, none⟩)) rfl (by kernel_rfl) (by kernel_rfl) (by kernel_rfl) (fun _ _ _ h => h) (Or.inl ⟨by kernel_rfl, fun W hW => by kernel_rfl⟩) hHeld14 ?_
      simp only [Act.put, List.setIfInBounds_toArray, List.set_cons_zero, List.set_cons_succ]
      refine wpAnyH_take (i := 16) (oi := { dst := some 27, op := Op.fieldAddr 235 (Operand.tmp 26) 1, type := 0, pos := "store.go:118", after := #[{ on := 15, ground := Ground.data }, { on := 0, ground := Ground.phase }, { on := 1, ground := Ground.phase }, { on := 2, ground := Ground.phase }, { on := 3, ground := Ground.phase }, { on := 4, ground := Ground.phase }, { on := 5, ground := Ground.phase }, { on := 6, ground := Ground.phase }, { on := 7, ground := Ground.phase }, { on := 8, ground := Ground.phase }, { on := 9, ground := Ground.phase }, { on := 10, ground := Ground.phase }, { on := 11, ground := Ground.phase }, { on := 12, ground := Ground.phase }, { on := 13, ground := Ground.phase }, { on := 14, ground := Ground.phase }], guard := none }) (v := .pointer (some ⟨e.p, 1, none⟩)) rfl (by kernel_rfl) (by kernel_rfl) (by kernel_rfl) (fun _ _ _ h => h) (Or.inl ⟨by kernel_rfl, fun W hW => by kernel_rfl⟩) hHeld14 ?_
      simp only [Act.put, List.setIfInBounds_toArray, List.set_cons_zero, List.set_cons_succ]
      refine wpAnyH_ready (rs := [17]) (by kernel_rfl) (by simp) ?_
      refine AllReadyH.cons (o := { dst := none, op := Op.store 233 (Operand.tmp 27) (Operand.tmp 25), type := 0, pos := "store.go:118", after := #[{ on := 16, ground := Ground.data }, { on := 14, ground := Ground.data }, { on := 14, ground := Ground.chain }, { on := 0, ground := Ground.phase }, { on := 1, ground := Ground.phase }, { on := 2, ground := Ground.phase }, { on := 3, ground := Ground.phase }, { on := 4, ground := Ground.phase }, { on := 5, ground := Ground.phase }, { on := 6, ground := Ground.phase }, { on := 7, ground := Ground.phase }, { on := 8, ground := Ground.phase }, { on := 9, ground := Ground.phase }, { on := 10, ground := Ground.phase }, { on := 11, ground := Ground.phase }, { on := 12, ground := Ground.phase }, { on := 13, ground := Ground.phase }, { on := 14, ground := Ground.phase }], guard := none }) rfl (fun K hK => ?_) AllReadyH.nil
      refine ite_wanted ?_ ?_
      · kernel_rfl
      refine wp_store_cell233 (.tmp 27) (.tmp 25) rfl ⟨e.p, 1, none⟩ ?_ a3 (e.x.vers ++ [(e.x.next, q.value)]).length c3 ?_ _ hc3 hf3 ?_
      · kernel_rfl
      · rw [hv3]; kernel_rfl
      rw [← hv3]
      simp only [Act.put]
      refine hK.out _ _ (unhide HSV4) (fun hHeld17 => ?_)
      clear hK K
      try simp only [Act.put, List.setIfInBounds_toArray, List.set_cons_zero, List.set_cons_succ]
      refine wpAnyH_done (by kernel_rfl) ?_ _
      have c0 := (unhide HSV4).1
      have c1 := (unhide HSV4).2.1
      have hwr : IntKind.u8.wrap ((e.x.next : Int) + 1) = ((e.x.next + 1 : Nat) : Int) := by simp [IntKind.wrap, IntKind.bits, IntKind.signed]; omega
      generalize w3.setCell ⟨e.p, 1, none⟩ v3 = w4 at *
      go_wp2_with fail
      refine end0 rfl rfl ?_
      exact unhide HEND
end Go.Proofs.YtlbacbcenejngaaGreatDoor
namespace Go.Proofs.YtlbacbcenejngaaGreatDoor
open Go.RowKit
theorem put_len {K α : Type} [DecidableEq K] (k : K) (v : α) : ∀ l : List (K × α), (lk k l = none → (putM k v l).length = l.length + 1) ∧ (lk k l ≠ none → (putM k v l).length = l.length)
  | [] => by simp [lk, putM]
  | p :: l => by
    have ih := put_len k v l
    by_cases h : p.1 = k
    · simp [lk, putM, h]
    · simp only [lk, putM, h, if_false]
      exact ⟨fun e => by simp [ih.1 e], fun e => by simp [ih.2 e]⟩
theorem put_mem {K α : Type} [DecidableEq K] {k : K} {v : α} : ∀ {l : List (K × α)} {p : K × α}, p ∈ putM k v l → p = (k, v) ∨ p ∈ l
  | [], p, h => by simp [putM] at h; exact .inl h
  | q :: l, p, h => by
    rw [putM] at h
    split at h
    · rcases List.mem_cons.1 h with h | h
      · exact .inl h
      · exact .inr (.tail _ h)
    · rcases List.mem_cons.1 h with h | h
      · exact .inr (h ▸ .head _)
      · rcases put_mem h with h | h
        · exact .inl h
        · exact .inr (.tail _ h)
theorem del_mem {K α : Type} [DecidableEq K] {k : K} : ∀ {l : List (K × α)} {p : K × α}, p ∈ delM k l → p ∈ l
  | [], p, h => by simp [delM] at h
  | q :: l, p, h => by
    rw [delM] at h
    split at h
    · exact .tail _ h
    · rcases List.mem_cons.1 h with h | h
      · exact h ▸ .head _
      · exact .tail _ (del_mem h)
theorem del_len {K α : Type} [DecidableEq K] (k : K) : ∀ l : List (K × α), (delM k l).length ≤ l.length
  | [] => by simp [delM]
  | q :: l => by
    rw [delM]
    split
    · simp
    · simp [del_len k l]
theorem lk_mem {K α : Type} [DecidableEq K] {k : K} {v : α} : ∀ {l : List (K × α)}, lk k l = some v → (k, v) ∈ l
  | [], h => by simp [lk] at h
  | q :: l, h => by
    rw [lk] at h
    split at h
    · rename_i e; cases h; subst e; exact .head _
    · exact .tail _ (lk_mem h)
theorem lk_put_ne {K α : Type} [DecidableEq K] {k j : K} (v : α) (h : j ≠ k) : ∀ l : List (K × α), lk j (putM k v l) = lk j l
  | [] => by simp [lk, putM, Ne.symm h]
  | q :: l => by
    rw [putM]
    split
    · rename_i e; subst e; simp [lk, Ne.symm h]
    · rw [lk, lk, lk_put_ne v h l]
theorem lk_del_ne {K α : Type} [DecidableEq K] {k j : K} (h : j ≠ k) : ∀ l : List (K × α), lk j (delM k l) = lk j l
  | [] => by simp [lk, delM]
  | q :: l => by
    rw [delM]
    split
    · rename_i e; subst e; simp [lk, Ne.symm h]
    · rw [lk, lk, lk_del_ne h l]
theorem put_keys {K α : Type} [DecidableEq K] (k : K) (v : α) : ∀ l : List (K × α), (lk k l = none → (putM k v l).map (·.1) = l.map (·.1) ++ [k]) ∧ (lk k l ≠ none → (putM k v l).map (·.1) = l.map (·.1))
  | [] => by simp [lk, putM]
  | p :: l => by
    have ih := put_keys k v l
    by_cases h : p.1 = k
    · simp [lk, putM, h]
    · simp only [lk, putM, h, if_false]
      exact ⟨fun e => by simp [ih.1 e], fun e => by simp [ih.2 e]⟩
theorem lk_none_mem {K α : Type} [DecidableEq K] {k : K} : ∀ {l : List (K × α)}, lk k l = none → k ∉ l.map (·.1)
  | [], _ => by simp
  | p :: l, h => by
    rw [lk] at h
    split at h
    · cases h
    · rename_i hp
      simp only [List.map_cons, List.mem_cons, not_or]
      exact ⟨fun e => hp e.symm, lk_none_mem h⟩
theorem put_nodup {K α : Type} [DecidableEq K] {k : K} {v : α} {l : List (K × α)} (h : (l.map (·.1)).Nodup) : ((putM k v l).map (·.1)).Nodup := by
  cases hl : lk k l with
  | none =>
    rw [(put_keys k v l).1 hl]
    refine List.nodup_append.2 ⟨h, by simp, fun a ha b hb e => ?_⟩
    rw [List.mem_singleton.1 hb] at e
    exact lk_none_mem hl (e ▸ ha)
  | some x => rw [(put_keys k v l).2 (by rw [hl]; simp)]; exact h
theorem del_sub {K α : Type} [DecidableEq K] (k : K) : ∀ l : List (K × α), (delM k l).Sublist l
  | [] => by simp [delM]
  | p :: l => by
    rw [delM]
    split
    · exact List.sublist_cons_self _ _
    · exact (del_sub k l).cons_cons _
theorem del_nodup {K α : Type} [DecidableEq K] {k : K} {l : List (K × α)} (h : (l.map (·.1)).Nodup) : ((delM k l).map (·.1)).Nodup := ((del_sub k l).map _).nodup h
/-- A change that was asked for. -/
theorem ask_ch {S : Sto} {q : Rq} {c : Cg} (h : (S.ask q).ch = some c) : (S.deed q).ch = some c := by
  unfold Sto.ask at h
  split at h
  · cases h
  · split at h
    · cases h
    · exact h
theorem put_ch {S : Sto} {q : Rq} {c : Cg} (h : (S.put q).ch = some c) : c = .put ∧ ((∃ p, lk q.path S.paths = some p ∧ p.next ≤ 20) ∨ (lk q.path S.paths = none ∧ S.paths.length < 16)) := by
  unfold Sto.put at h
  split at h
  · rename_i p hp
    split at h
    · cases h
    · cases h; exact ⟨rfl, .inl ⟨p, hp, by omega⟩⟩
  · rename_i hp
    split at h
    · cases h
    · cases h; exact ⟨rfl, .inr ⟨hp, by omega⟩⟩
theorem get_ch (S : Sto) (q : Rq) : (S.get q).ch = none := by unfold Sto.get; split <;> rfl
theorem drop_ch {S : Sto} {q : Rq} {c : Cg} (h : (S.drop q).ch = some c) : c = .drop ∧ (S.versOf q.path).length ≠ 0 := by
  unfold Sto.drop at h
  split at h
  · cases h
  · cases h; exact ⟨rfl, by assumption⟩
theorem grant_ch {S : Sto} {q : Rq} {c : Cg} (h : (S.grant q).ch = some c) : c = .grant ∧ lk q.name S.toks = none ∧ S.toks.length < 8 := by
  unfold Sto.grant at h
  split at h
  · cases h
  · rename_i hp
    split at h
    · cases h
    · cases h; exact ⟨rfl, hp, by omega⟩
theorem revoke_ch {S : Sto} {q : Rq} {c : Cg} (h : (S.revoke q).ch = some c) : c = .revoke ∧ q.name ≠ S.root := by
  unfold Sto.revoke at h
  split at h
  · cases h
  · split at h
    · cases h
    · cases h; exact ⟨rfl, by assumption⟩
theorem deed_ch {S : Sto} {q : Rq} {c : Cg} (h : (S.deed q).ch = some c) : (c = .put ∧ ((∃ p, lk q.path S.paths = some p ∧ p.next ≤ 20) ∨ (lk q.path S.paths = none ∧ S.paths.length < 16))) ∨ (c = .drop ∧ (S.versOf q.path).length ≠ 0) ∨ (c = .grant ∧ lk q.name S.toks = none ∧ S.toks.length < 8) ∨ (c = .revoke ∧ q.name ≠ S.root) := by
  unfold Sto.deed at h
  split at h
  · exact .inl (put_ch h)
  · rw [get_ch] at h; cases h
  · exact .inr (.inl (drop_ch h))
  · cases h
  · exact .inr (.inr (.inl (grant_ch h)))
  · exact .inr (.inr (.inr (revoke_ch h)))
theorem Sto.Ok.lk {S : Sto} (h : S.Ok) {n : ByteArray} {p : Pth} (hp : lk n S.paths = some p) : p.next ≤ 21 ∧ p.vers.length < p.next ∧ ∀ v ∈ p.vers, v.2.size ≤ 40 := (h.pth _ (lk_mem hp)).2
theorem Sto.Ok.carry {S : Sto} (h : S.Ok) {q : Rq} (hq : q.Ok) {c : Cg} (hc : (S.ask q).ch = some c) : (S.carry q c).Ok := by
  rcases deed_ch (ask_ch hc) with ⟨rfl, hp⟩ | ⟨rfl, hp⟩ | ⟨rfl, hp, hl⟩ | ⟨rfl, hp⟩
  · unfold Sto.carry
    refine ⟨h.toks, h.tok, ?_, fun p hm => ?_, h.one, put_nodup h.onp⟩
    · rcases hp with ⟨p, hp, _⟩ | ⟨hp, hl⟩
      · show (putM _ _ _).length ≤ 16
        rw [(put_len _ _ S.paths).2 (by rw [hp]; simp)]; exact h.paths
      · show (putM _ _ _).length ≤ 16
        rw [(put_len _ _ S.paths).1 hp]; omega
    · rcases put_mem hm with rfl | hm
      · refine ⟨hq.fit.1, ?_⟩
        rcases hp with ⟨p, hp, hn⟩ | ⟨hp, _⟩
        · rw [hp]
          have := h.lk hp
          refine ⟨?_, ?_, fun v hv => ?_⟩
          · show p.next + 1 ≤ 21; omega
          · show (p.vers ++ [_]).length < p.next + 1; rw [List.length_append]; simp; omega
          · rcases List.mem_append.1 hv with hv | hv
            · exact this.2.2 v hv
            · rw [List.mem_singleton.1 hv]; exact hq.value
        · rw [hp]
          refine ⟨by show 2 ≤ 21; decide, by show 1 < 2; decide, fun v hv => ?_⟩
          rw [show v = (1, q.value) by simpa using hv]
          exact hq.value
      · exact h.pth p hm
  · unfold Sto.carry
    show Sto.Ok (match _root_.Go.Proofs.YtlbacbcenejngaaGreatDoor.lk q.path S.paths with | some p => _ | none => S)
    split
    · rename_i p hp
      have := h.lk hp
      refine ⟨h.toks, h.tok, ?_, fun x hm => ?_, h.one, put_nodup h.onp⟩
      · show (putM _ _ _).length ≤ 16
        rw [(put_len _ _ S.paths).2 (by rw [hp]; simp)]; exact h.paths
      · rcases put_mem hm with rfl | hm
        · exact ⟨hq.fit.1, this.1, by show 0 < p.next; omega, by simp⟩
        · exact h.pth x hm
    · exact h
  · unfold Sto.carry
    refine ⟨?_, fun t ht => ?_, h.paths, h.pth, put_nodup h.one, h.onp⟩
    · show (putM _ _ _).length ≤ 8
      rw [(put_len _ _ S.toks).1 hp]; omega
    · rcases put_mem ht with rfl | ht
      · exact hq.pre
      · exact h.tok t ht
  · unfold Sto.carry
    refine ⟨?_, fun t ht => h.tok t (del_mem ht), h.paths, h.pth, del_nodup h.one, h.onp⟩
    have := del_len q.name S.toks
    have := h.toks
    show (delM _ _).length ≤ 8
    omega
theorem Sto.Ok.then {S : Sto} (h : S.Ok) {q : Rq} (hq : q.Ok) : (S.then q (S.ask q)).Ok := by
  unfold Sto.then
  split
  · rename_i c hc; exact h.carry hq hc
  · exact h
theorem deed_err (S : Sto) (q : Rq) : (S.deed q).err ≤ 7 := by
  unfold Sto.deed
  split
  · unfold Sto.put; split <;> split <;> simp
  · unfold Sto.get; split <;> simp
  · unfold Sto.drop; split <;> simp
  · simp [Sto.list]
  · unfold Sto.grant; split
    · simp
    · split <;> simp
  · unfold Sto.revoke; split
    · simp
    · split <;> simp
theorem ask_err (S : Sto) (q : Rq) : (S.ask q).err ≤ 7 := by
  unfold Sto.ask
  split
  · simp
  · split
    · simp
    · exact deed_err S q
end Go.Proofs.YtlbacbcenejngaaGreatDoor
namespace Go.Proofs.YtlbacbcenejngaaGreatDoor
open Go.RowKit
theorem logOf_size_le (E : List ByteArray) (m : Nat) : (logOf (E.take m)).size ≤ (logOf E).size := by
  have := logOf_app (E.take m) (E.drop m)
  rw [List.take_append_drop] at this
  rw [this, ByteArray.size_append]
  omega
theorem logOf_size_lt {E : List ByteArray} {m : Nat} (h : m < E.length) : (logOf (E.take m)).size < (logOf E).size := by
  have := logOf_app (E.take m) (E.drop m)
  rw [List.take_append_drop, List.drop_eq_getElem_cons h, logOf] at this
  rw [this, ByteArray.size_append, ByteArray.size_append, frOf_size]
  omega
/-- A sink has some first frames. -/
def Some1 (E : List ByteArray) (s : ByteArray) : Prop := ∃ m, m ≤ E.length ∧ s = logOf (E.take m)
theorem some1_full {E : List ByteArray} {s : ByteArray} (h : Some1 E s) (hs : (logOf E).size ≤ s.size) : s = logOf E := by
  obtain ⟨m, hm, rfl⟩ := h
  rcases Nat.lt_or_ge m E.length with h | h
  · have := logOf_size_lt h; omega
  · rw [List.take_of_length_le h]
theorem most_some {E : List ByteArray} : ∀ (l : List Snk) (m : ByteArray), (∀ k ∈ l, Some1 E k.data) → Some1 E m → (m = logOf E ∨ ∃ k ∈ l, k.data = logOf E) → mostOf l m = logOf E
  | [], m, _, _, h => by
    rcases h with h | ⟨k, hk, _⟩
    · exact h
    · cases hk
  | k :: l, m, hl, hm, h => by
    rw [mostOf]
    have hk := hl k (.head _)
    refine most_some l _ (fun x hx => hl x (.tail _ hx)) ?_ ?_
    · split
      · exact hk
      · exact hm
    · rcases h with h | ⟨x, hx, he⟩
      · refine .inl ?_
        split
        · rename_i hlt
          subst h
          exact some1_full hk (by omega)
        · exact h
      · rcases List.mem_cons.1 hx with rfl | hx
        · refine .inl ?_
          split
          · exact he
          · rename_i hge
            exact some1_full hm (by rw [← he]; omega)
        · exact .inr ⟨x, hx, he⟩
/-- What is so of every vault: E are its entries. -/
structure Vlt.Ok (V : Vlt) (E : List ByteArray) : Prop where
  chn : chn [] E
  cnt : V.cnt = E.length
  last : V.last = hashAt E E.length
  snk : ∀ k ∈ V.snks, Some1 E k.data
  most : ∃ k ∈ V.snks, k.data = logOf E
  sto : V.sto.Ok
theorem chn_fits {E F : List ByteArray} (h : chn F E) : ∀ e ∈ E, fitsB e = true := by
  induction E generalizing F with
  | nil => simp
  | cons a l ih =>
    intro e he
    rcases List.mem_cons.1 he with rfl | he
    · exact h.1.2
    · exact ih h.2 e he
theorem ask_fit (V : Vlt) (s : ByteArray) : opFit (V.ask s).1.op (V.ask s).1.path ∧ (V.ask s).2.err ≤ 7 := by
  unfold Vlt.ask
  split
  · rename_i q hq
    exact ⟨(readQ_ok hq).fit, ask_err _ _⟩
  · exact ⟨fit_none (.inr (.inr rfl)), by simp⟩
theorem Vlt.Ok.lens {V : Vlt} {E : List ByteArray} (h : V.Ok E) (a b c : List UInt8) : Lens V.last (Sha.tag V.key.data.toList a) (Sha.tag V.key.data.toList b) (Sha.tag V.key.data.toList c) := ⟨by rw [h.last]; exact hashAt_len _ _, tag_length _ _, tag_length _ _, tag_length _ _⟩
theorem Vlt.Ok.entry {V : Vlt} {E : List ByteArray} (h : V.Ok E) (hE : E.length < 4294967296) (s : ByteArray) : fitsB (V.entry s) = true ∧ bnd (V.entry s) E = true := by
  have hf := ask_fit V s
  refine ⟨ent_fits (h.lens _ _ _) _ hf.1 hf.2, ?_⟩
  unfold Vlt.entry
  rw [h.cnt]
  exact ent_bnd (h.lens _ _ _) hE h.last hf.1 _
theorem Vlt.Ok.most' {V : Vlt} {E : List ByteArray} (h : V.Ok E) : mostOf V.snks .empty = logOf E := most_some _ _ h.snk ⟨0, Nat.zero_le _, rfl⟩ (.inr h.most)
theorem Vlt.Ok.chn' {V : Vlt} {E : List ByteArray} (h : V.Ok E) (hE : E.length < 4294967296) (s : ByteArray) : Go.Proofs.YtlbacbcenejngaaGreatDoor.chn [] (E ++ [V.entry s]) := by
  rw [chn_app]
  have := h.entry hE s
  exact ⟨h.chn, ⟨by rw [List.nil_append]; exact this.2, this.1⟩, trivial⟩
theorem lf_take (E : List ByteArray) (m : Nat) : lf (logOf E) (logOf (E.take m)).size = logOf (E.drop m) := by
  have := logOf_app (E.take m) (E.drop m)
  rw [List.take_append_drop] at this
  apply Go.WideShapes.bytes_inj
  rw [this, lf, ext_list, show (logOf (E.take m) ++ logOf (E.drop m)).data.toList = (logOf (E.take m)).data.toList ++ (logOf (E.drop m)).data.toList by simp, List.drop_left' (size_toList _), List.take_of_length_le (by rw [ByteArray.size_append, size_toList]; omega)]
/-- What a sink has behind a request. -/
theorem give_some {E : List ByteArray} {e : ByteArray} (hf : ∀ x ∈ E ++ [e], fitsB x = true) {k : Snk} (hk : Some1 E k.data) :
    Some1 (E ++ [e]) (giveF k (logOf E ++ frOf e)).1.data ∧ ((giveF k (logOf E ++ frOf e)).2 = true ↔ (giveF k (logOf E ++ frOf e)).1.data = logOf (E ++ [e])) ∧ ((giveF k (logOf E ++ frOf e)).2 = false → Some1 E (giveF k (logOf E ++ frOf e)).1.data) ∧
    (giveF k (logOf E ++ frOf e)).1.fails = k.fails ∧ k.app ≤ (giveF k (logOf E ++ frOf e)).1.app ∧ (giveF k (logOf E ++ frOf e)).1.app ≤ k.app + E.length + 1 ∧ k.data.size ≤ (giveF k (logOf E ++ frOf e)).1.data.size := by
  obtain ⟨m, hm, hd⟩ := hk
  have he : logOf E ++ frOf e = logOf (E ++ [e]) := by rw [logOf_app, logOf, logOf, ba_empty]
  have htk : (E ++ [e]).take m = E.take m := List.take_append_of_le_length hm
  have hg : giveF k (logOf E ++ frOf e) = giveGo k (logOf ((E ++ [e]).drop m)) := by rw [giveF, he, hd, ← htk, lf_take]
  obtain ⟨n, n1, n2, n3, n4, n5, n6⟩ := giveGo_log ((E ++ [e]).drop m) k fun x hx => hf x (List.drop_subset _ _ hx)
  rw [hg]
  have hlen : ((E ++ [e]).drop m).length = E.length + 1 - m := by simp
  have hdat : (giveGo k (logOf ((E ++ [e]).drop m))).1.data = logOf ((E ++ [e]).take (m + n)) := by
    rw [n2, hd, ← htk, List.take_add, logOf_app]
  refine ⟨⟨m + n, by simp; omega, hdat⟩, ?_, fun hfl => ?_, n4, n5, by omega, by rw [n2, ByteArray.size_append]; omega⟩
  · rw [n3, hdat]
    constructor
    · intro h; rw [List.take_of_length_le (by simp; omega)]
    · intro h
      rcases Nat.lt_or_ge (m + n) (E ++ [e]).length with hl | hl
      · have := logOf_size_lt hl; rw [h] at this; omega
      · simp at hl; omega
  · have hne : n ≠ ((E ++ [e]).drop m).length := fun h => by rw [n3.2 h] at hfl; cases hfl
    refine ⟨m + n, by omega, ?_⟩
    rw [hdat, List.take_append_of_le_length (by omega)]
theorem Vlt.Ok.next {V : Vlt} {E : List ByteArray} (h : V.Ok E) (hE : E.length < 4294967296) (s : ByteArray) :
    ((V.lay s).2 = true → (V.next s).Ok (E ++ [V.entry s])) ∧ ((V.lay s).2 = false → (V.next s).Ok E) := by
  have hc := h.chn' hE s
  have hf := chn_fits hc
  have hm := h.most'
  have hg := fun k hk => give_some hf (h.snk k hk)
  have hst : (V.sto.then (V.ask s).1 (V.ask s).2).Ok := by
    unfold Vlt.ask
    split
    · rename_i q hq; exact h.sto.then (readQ_ok hq)
    · exact h.sto
  constructor
  · intro hl
    rw [Vlt.next, if_pos hl]
    unfold Vlt.lay at hl ⊢
    rw [hm] at hl ⊢
    unfold layF at hl ⊢
    refine ⟨hc, ?_, ?_, ?_, ?_, hst⟩
    · show V.cnt + 1 = _; rw [h.cnt]; simp
    · show Sha.digest _ = _
      rw [List.length_append, List.length_singleton, hashAt]
      simp
    · intro x hx
      obtain ⟨k, hk, rfl⟩ := List.mem_map.1 hx
      exact (hg k hk).1
    · obtain ⟨k, hk, hk2⟩ := List.any_eq_true.1 hl
      exact ⟨_, List.mem_map.2 ⟨k, hk, rfl⟩, (hg k hk).2.1.1 hk2⟩
  · intro hl
    rw [Vlt.next, if_neg (by rw [hl]; simp)]
    unfold Vlt.lay at hl ⊢
    rw [hm] at hl ⊢
    unfold layF at hl ⊢
    have hno : ∀ k ∈ V.snks, (giveF k (logOf E ++ frOf (V.entry s))).2 = false := by
      intro k hk
      have := List.any_eq_false.1 hl k hk
      simpa using this
    refine ⟨h.chn, h.cnt, h.last, ?_, ?_, h.sto⟩
    · intro x hx
      obtain ⟨k, hk, rfl⟩ := List.mem_map.1 hx
      exact (hg k hk).2.2.1 (hno k hk)
    · obtain ⟨k, hk, hk2⟩ := h.most
      refine ⟨_, List.mem_map.2 ⟨k, hk, rfl⟩, some1_full ((hg k hk).2.2.1 (hno k hk)) ?_⟩
      have := (hg k hk).2.2.2.2.2.2
      rw [hk2] at this
      exact this
end Go.Proofs.YtlbacbcenejngaaGreatDoor
namespace Go.Proofs.YtlbacbcenejngaaGreatDoor
open Go.RowKit
theorem takeB_cons (c : UInt8) (r : ByteArray) : takeB (bs [c] ++ r) = some (c, r) := by
  have hs : (bs [c] ++ r).size = 1 + r.size := by rw [ByteArray.size_append, bs_size]; rfl
  have hl : (bs [c] ++ r).data.toList = c :: r.data.toList := by simp [bs]
  unfold takeB
  rw [if_neg (by omega), hl]
  refine congrArg some (Prod.ext rfl ?_)
  apply Go.WideShapes.bytes_inj
  rw [ext_list, hl, hs]
  simp only [List.drop_succ_cons, List.drop_zero]
  rw [List.take_of_length_le (by rw [size_toList]; omega)]
theorem takeB_one (c : UInt8) : takeB (bs [c]) = some (c, .empty) := by
  have := takeB_cons c .empty
  rwa [ba_empty] at this
theorem takeT_txt {x : ByteArray} (hx : x.size ≤ 255) (r : ByteArray) : takeT (txt x ++ r) = some (x, r) := by
  have hs : (txt x ++ r).size = 1 + x.size + r.size := by rw [ByteArray.size_append, txt_size]; omega
  have hl : (txt x ++ r).data.toList = UInt8.ofNat x.size :: (x.data.toList ++ r.data.toList) := by simp [txt, bs]
  have hu : (UInt8.ofNat x.size).toNat = x.size := by simp; omega
  have h0 : ((txt x ++ r).data.toList.getD 0 0).toNat = x.size := by rw [hl]; exact hu
  unfold takeT
  simp only [h0]
  rw [if_neg (by omega)]
  refine congrArg some (Prod.ext ?_ ?_)
  · apply Go.WideShapes.bytes_inj
    rw [ext_list, hl]
    simp only [List.drop_succ_cons, List.drop_zero]
    rw [List.take_left' (by rw [size_toList]; omega)]
  · apply Go.WideShapes.bytes_inj
    rw [ext_list, hl, hs, show 1 + x.size = x.size + 1 by omega]
    simp only [List.drop_succ_cons]
    rw [List.drop_left' (size_toList x), List.take_of_length_le (by rw [size_toList]; omega)]
theorem isNm_8 {x : ByteArray} (h : isNm x = true) : x.size ≤ 255 := by
  simp only [isNm, nameB, Bool.and_eq_true, decide_eq_true_eq, size_toList] at h
  omega
theorem takeN_txt {x : ByteArray} (hx : isNm x = true) (r : ByteArray) : takeN (txt x ++ r) = some (x, r) := by rw [takeN, takeT_txt (isNm_8 hx)]; exact if_pos hx
theorem takeP_txt {x : ByteArray} (hx : isPr x = true) (r : ByteArray) : takeP (txt x ++ r) = some (x, r) := by rw [takeP, takeT_txt (by have := isPr_16 hx; omega)]; exact if_pos hx
theorem rdPath_txt {x : ByteArray} (hx : isPa x = true) (q : Rq) (r : ByteArray) : rdPath q (txt x ++ r) = some ({ q with path := x, rest := r }, r) := by rw [rdPath, takeT_txt (by have := isPa_16 hx; omega)]; exact if_pos hx
theorem readQ_of {op : UInt8} {tk r : ByteArray} {q : Rq} (ht : isNm tk = true) (h : rdOf op (rqOT op tk) r = some (q, .empty)) : readQ (bs [op] ++ (txt tk ++ r)) = some q := by
  rw [readQ, takeB_cons]
  simp only [takeN_txt ht, h]
  rfl
theorem readQ_put {tk p v : ByteArray} (ht : isNm tk = true) (hp : isPa p = true) (hv : v.size ≤ 40) : readQ (bs [80] ++ (txt tk ++ (txt p ++ txt v))) = some { rqOT 80 tk with path := p, rest := txt v, value := v } := by
  refine readQ_of ht ?_
  have := takeT_txt (x := v) (by omega) .empty
  rw [ba_empty] at this
  rw [show rdOf 80 (rqOT 80 tk) (txt p ++ txt v) = rdPut (rqOT 80 tk) (txt p ++ txt v) from rfl, rdPut, rdPath_txt hp]
  simp only [this, if_pos hv]
theorem readQ_get {tk p : ByteArray} {c : UInt8} (ht : isNm tk = true) (hp : isPa p = true) : readQ (bs [71] ++ (txt tk ++ (txt p ++ bs [c]))) = some { rqOT 71 tk with path := p, rest := bs [c], version := c } := by
  refine readQ_of ht ?_
  rw [show rdOf 71 (rqOT 71 tk) (txt p ++ bs [c]) = rdGet (rqOT 71 tk) (txt p ++ bs [c]) from rfl, rdGet, rdPath_txt hp]
  simp only [takeB_one]
end Go.Proofs.YtlbacbcenejngaaGreatDoor
namespace Go.Proofs.YtlbacbcenejngaaGreatDoor
open Go.RowKit
/-- A sink that does not fail from now on. -/
def Snk.quiet (k : Snk) : Prop := ∀ f ∈ k.fails, f ≤ k.app
theorem Snk.quiet.took {k : Snk} (h : k.quiet) : k.took = true := by
  cases ht : k.fails.contains (k.app + 1) with
  | false => rw [Snk.took, ht]; rfl
  | true => have := h _ (List.contains_iff_mem.1 ht); omega
theorem giveGo_calm : ∀ (n : Nat) (k : Snk) (s : ByteArray), s.size ≤ n → k.quiet → (giveGo k s).2 = true ∧ (giveGo k s).1.quiet := by
  intro n
  induction n with
  | zero => intro k s hs hk; rw [giveGo, dif_pos (by omega)]; exact ⟨rfl, hk⟩
  | succ n ih =>
    intro k s hs hk
    rw [giveGo]
    split
    · exact ⟨rfl, hk⟩
    · rename_i h0
      rw [if_pos hk.took]
      have := firstFr_size h0
      refine ih _ _ (by rw [lf_size]; omega) ?_
      rw [Snk.append, if_pos hk.took]
      intro f hf
      have := hk f hf
      show f ≤ k.app + 1
      omega
/-- No sink fails. -/
def Vlt.Calm (V : Vlt) : Prop := V.snks ≠ [] ∧ ∀ k ∈ V.snks, k.quiet
theorem Vlt.Calm.lay {V : Vlt} (h : V.Calm) (s : ByteArray) : (V.lay s).2 = true ∧ (V.lay s).1 ≠ [] ∧ ∀ k ∈ (V.lay s).1, k.quiet := by
  unfold Vlt.lay layF
  refine ⟨?_, by simpa using h.1, fun x hx => ?_⟩
  · obtain ⟨k, l, hl⟩ := List.exists_cons_of_ne_nil h.1
    show List.any _ _ = true
    rw [hl, List.any_cons, Bool.or_eq_true]
    exact .inl (giveGo_calm _ _ _ (Nat.le_refl _) (h.2 k (by rw [hl]; exact .head _))).1
  · obtain ⟨k, hk, rfl⟩ := List.mem_map.1 hx
    exact (giveGo_calm _ _ _ (Nat.le_refl _) (h.2 k hk)).2
theorem Vlt.Calm.next {V : Vlt} (h : V.Calm) (s : ByteArray) : (V.next s).Calm := by
  have := h.lay s
  rw [Vlt.next, if_pos this.1]
  exact this.2
theorem Vlt.Calm.sto {V : Vlt} (h : V.Calm) (s : ByteArray) : (V.next s).sto = V.sto.then (V.ask s).1 (V.ask s).2 := by rw [Vlt.next, if_pos (h.lay s).1]
theorem Vlt.Calm.tell {V : Vlt} (h : V.Calm) (s : ByteArray) : V.tell s = bs (UInt8.ofNat (V.ask s).2.err :: (V.ask s).2.more.data.toList) := by rw [Vlt.tell, if_pos (h.lay s).1]
def adm : ByteArray := bs [97, 100, 109]
/-- The root is there, and may all. -/
def Sto.Rt (S : Sto) : Prop := S.root = adm ∧ lk adm S.toks = some ⟨.empty, 7⟩
theorem Sto.Rt.carry {S : Sto} (h : S.Rt) {q : Rq} {c : Cg} (hc : (S.ask q).ch = some c) : (S.carry q c).Rt := by
  rcases deed_ch (ask_ch hc) with ⟨rfl, _⟩ | ⟨rfl, _⟩ | ⟨rfl, hp, _⟩ | ⟨rfl, hp⟩
  · exact h
  · unfold Sto.carry
    dsimp only
    split <;> exact h
  · refine ⟨h.1, ?_⟩
    show lk adm (putM _ _ _) = _
    rw [lk_put_ne _ (fun e => by rw [← e, h.2] at hp; cases hp)]
    exact h.2
  · refine ⟨h.1, ?_⟩
    show lk adm (delM _ _) = _
    rw [lk_del_ne (fun e => hp (by rw [← e]; exact h.1.symm))]
    exact h.2
theorem Sto.Rt.then {S : Sto} (h : S.Rt) (q : Rq) : (S.then q (S.ask q)).Rt := by
  unfold Sto.then
  split
  · rename_i c hc; exact h.carry hc
  · exact h
theorem Vlt.rt_next {V : Vlt} (h : V.sto.Rt) (s : ByteArray) : (V.next s).sto.Rt := by
  unfold Vlt.next
  split
  · show (V.sto.then _ _).Rt
    unfold Vlt.ask
    split
    · exact h.then _
    · exact h
  · exact h
theorem ask_tok {S : Sto} {q : Rq} {t : Tok} (h : lk q.token S.toks = some t) : S.ask q = if t.rights &&& rightOf q.op = 0 ∨ (inPath q.op = true ∧ hasPre q.path t.pre = false) then ⟨3, .empty, none⟩ else S.deed q := by
  unfold Sto.ask
  rw [h]
end Go.Proofs.YtlbacbcenejngaaGreatDoor
namespace Go.Proofs.YtlbacbcenejngaaGreatDoor
open Go.RowKit
theorem giveGo_app : ∀ (l : List ByteArray) (k : Snk), (∀ e ∈ l, fitsB e = true) → ∃ m, m ≤ l.length ∧ (giveGo k (logOf l)).1.data = k.data ++ logOf (l.take m) ∧ k.app ≤ (giveGo k (logOf l)).1.app ∧ (giveGo k (logOf l)).1.app ≤ k.app + m + 1 ∧ (giveGo k (logOf l)).1.fails = k.fails
  | [], k, _ => by
    refine ⟨0, Nat.le_refl _, ?_, ?_, ?_, ?_⟩ <;> rw [logOf, giveGo, dif_pos (by rfl)]
    · simp [logOf]
    · exact Int.le_refl _
    · show k.app ≤ k.app + 0 + 1; omega
  | e :: l, k, h => by
    have he := h e (.head _)
    have hs := fits_small he
    obtain ⟨h1, h2, h3, h4, h5⟩ := fr_more (r := logOf l) he
    have hz : (logOf (e :: l)).size ≠ 0 := by rw [logOf, h5]; omega
    have hff := firstFr_log (l := l) he
    have hlf : lf (logOf (e :: l)) (frOf e).size = logOf l := by rw [frOf_size, logOf]; exact h4
    by_cases ht : k.took = true
    · obtain ⟨m, m1, m2, m3, m4, m5⟩ := giveGo_app l (k.append (frOf e)) fun x hx => h x (.tail _ hx)
      have hk : k.append (frOf e) = { k with app := k.app + 1, data := k.data ++ frOf e } := if_pos ht
      have hg : giveGo k (logOf (e :: l)) = giveGo (k.append (frOf e)) (logOf l) := by rw [giveGo, dif_neg hz, if_pos ht, hff, hlf]
      rw [hg]
      rw [hk] at m2 m3 m4 m5 ⊢
      refine ⟨m + 1, by simp; omega, ?_, ?_, ?_, m5⟩
      · rw [m2, List.take_succ_cons, logOf, ba_assoc]
      · have : k.app + 1 ≤ _ := m3; omega
      · have : _ ≤ k.app + 1 + m + 1 := m4
        simp only [Int.natCast_add, Int.natCast_one]
        omega
    · have hk : k.append (frOf e) = { k with app := k.app + 1 } := if_neg ht
      have hg : giveGo k (logOf (e :: l)) = ({ k with app := k.app + 1 }, false) := by rw [giveGo, dif_neg hz, if_neg ht, hff, hk]
      rw [hg]
      refine ⟨0, by omega, ?_, ?_, ?_, rfl⟩
      · simp [logOf]
      · show k.app ≤ k.app + 1; omega
      · show k.app + 1 ≤ k.app + 0 + 1; omega
/-- A sink: its frames, its Appends. -/
def Snk.Bnd (E : List ByteArray) (n : Nat) (k : Snk) : Prop := (∃ m, m ≤ E.length ∧ k.data = logOf (E.take m) ∧ k.app ≤ m + n) ∧ 0 ≤ k.app ∧ k.fails.length ≤ 4294967296
theorem Snk.Bnd.give {E : List ByteArray} {n : Nat} {k : Snk} (h : k.Bnd E n) {e : ByteArray} (hf : ∀ x ∈ E ++ [e], fitsB x = true) : ((giveF k (logOf E ++ frOf e)).1).Bnd (E ++ [e]) (n + 1) := by
  obtain ⟨⟨m, hm, hd, ha⟩, h0, hl⟩ := h
  have he : logOf E ++ frOf e = logOf (E ++ [e]) := by rw [logOf_app, logOf, logOf, ba_empty]
  have htk : (E ++ [e]).take m = E.take m := List.take_append_of_le_length hm
  have hg : giveF k (logOf E ++ frOf e) = giveGo k (logOf ((E ++ [e]).drop m)) := by rw [giveF, he, hd, ← htk, lf_take]
  obtain ⟨j, n1, n2, n3, n4, n5⟩ := giveGo_app ((E ++ [e]).drop m) k fun x hx => hf x (List.drop_subset _ _ hx)
  rw [hg]
  have hlen : ((E ++ [e]).drop m).length = E.length + 1 - m := by simp
  refine ⟨⟨m + j, by simp; omega, ?_, ?_⟩, by omega, by rw [n5]; exact hl⟩
  · rw [n2, hd, ← htk, List.take_add, logOf_app]
  · simp only [Int.natCast_add, Int.natCast_one]; omega
theorem Snk.Bnd.less {E : List ByteArray} {n : Nat} {k : Snk} {e : ByteArray} (h : k.Bnd (E ++ [e]) n) (hs : Some1 E k.data) : k.Bnd E n := by
  obtain ⟨⟨m, hm, hd, ha⟩, h0, hl⟩ := h
  obtain ⟨j, hj, hd2⟩ := hs
  refine ⟨⟨m, ?_, ?_, ha⟩, h0, hl⟩
  · rcases Nat.lt_or_ge E.length m with h1 | h1
    · have hmf : m = (E ++ [e]).length := by simp at hm ⊢; omega
      rw [hmf, List.take_length, hd2] at hd
      have := logOf_size_le E j
      have h3 := logOf_app E [e]
      rw [← hd, logOf, logOf, ba_empty] at h3
      have h4 := congrArg ByteArray.size h3
      rw [ByteArray.size_append, frOf_size] at h4
      omega
    · exact h1
  · rcases Nat.lt_or_ge E.length m with h1 | h1
    · have hmf : m = (E ++ [e]).length := by simp at hm ⊢; omega
      rw [hmf, List.take_length, hd2] at hd
      have := logOf_size_le E j
      have h3 := logOf_app E [e]
      rw [← hd, logOf, logOf, ba_empty] at h3
      have h4 := congrArg ByteArray.size h3
      rw [ByteArray.size_append, frOf_size] at h4
      omega
    · rw [hd, List.take_append_of_le_length h1]
/-- The journal on the disk. -/
def Dsk.Bnd (n : Nat) (d : Dsk) : Prop := d.left = -1 ∧ d.down = false ∧ (d.files = [] ∨ ∃ f, d.files = [f] ∧ f.name = jour ∧ f.data.size ≤ 2000 * n)
theorem Dsk.Bnd.up {n m : Nat} {d : Dsk} (h : d.Bnd n) (hm : n ≤ m) : d.Bnd m := ⟨h.1, h.2.1, h.2.2.imp id fun ⟨f, h1, h2, h3⟩ => ⟨f, h1, h2, by omega⟩⟩
theorem Dsk.Bnd.stopped {n : Nat} {d : Dsk} (h : d.Bnd n) : d.stopped = false := by unfold Dsk.stopped; rw [h.1, h.2.1]; rfl
theorem Dsk.Bnd.small {n : Nat} {d : Dsk} (h : d.Bnd n) (hn : n ≤ 4194304) : d.files.length ≤ 1000 ∧ ∀ f ∈ d.files, f.data.size ≤ 549755813888 := by
  rcases h.2.2 with e | ⟨f, e, _, hs⟩
  · rw [e]; exact ⟨by simp, by simp⟩
  · rw [e]; exact ⟨by simp, fun x hx => by rw [List.mem_singleton.1 hx]; omega⟩
theorem stepd_bnd {n : Nat} {d : Dsk} (h : d.Bnd n) : d.stepd = d := by
  unfold Dsk.stepd
  rw [if_neg (by rw [h.stopped]; simp), if_neg (by rw [h.1]; decide)]
theorem find_one (f : Fl) (h : f.name = jour) : findF jour [f] 0 = 0 := by
  unfold findF
  simp [h]
theorem Dsk.Bnd.write {n : Nat} {d : Dsk} (h : d.Bnd n) {X : ByteArray} (hX : X.size ≤ 2000) : ((d.append jour X).sync jour).Bnd (n + 1) := by
  have h1 : (d.append jour X).Bnd (n + 1) := by
    have e : d.append jour X = { d with files := appF jour X d.files } := by unfold Dsk.append; rw [if_neg (by rw [h.stopped]; simp), stepd_bnd h]
    rw [e]
    refine ⟨h.1, h.2.1, .inr ?_⟩
    rcases h.2.2 with e | ⟨f, e, hn, hs⟩
    · rw [e]
      exact ⟨⟨jour, X, 0⟩, by unfold appF; rw [if_pos (by decide)]; rfl, rfl, by show X.size ≤ _; omega⟩
    · rw [e]
      refine ⟨{ f with data := f.data ++ X }, ?_, hn, ?_⟩
      · unfold appF
        rw [find_one f hn, if_neg (by decide)]
        rfl
      · show (f.data ++ X).size ≤ _
        rw [ByteArray.size_append]; omega
  have e : (d.append jour X).sync jour = { d.append jour X with files := syncF jour (d.append jour X).files } := by unfold Dsk.sync; rw [if_neg (by rw [h1.stopped]; simp), stepd_bnd h1]
  rw [e]
  refine ⟨h1.1, h1.2.1, ?_⟩
  rcases h1.2.2 with e | ⟨f, e, hn, hs⟩
  · left; show syncF jour _ = []; rw [e]; rfl
  · right
    show ∃ g, syncF jour _ = [g] ∧ _
    rw [e]
    unfold syncF
    rw [find_one f hn]
    exact ⟨_, rfl, hn, hs⟩
/-- How great a request is that is read. -/
theorem rdOf_size {op : UInt8} {q q' : Rq} {s s' : ByteArray} (h : rdOf op q s = some (q', s')) : s.size ≤ s'.size + 800 := by
  have hP : ∀ {q q' : Rq} {s s' : ByteArray}, rdPath q s = some (q', s') → s.size ≤ s'.size + 256 := fun {q q' s s'} h => by
    unfold rdPath at h
    split at h
    · rename_i x y hx
      have := takeT_small hx
      split at h
      · cases h; omega
      · cases h
    · cases h
  have hN : ∀ {q q' : Rq} {s s' : ByteArray}, rdNamed q s = some (q', s') → s.size ≤ s'.size + 256 := fun {q q' s s'} h => by
    unfold rdNamed at h
    split at h
    · rename_i x y hx
      have := takeN_small hx
      cases h; omega
    · cases h
  unfold rdOf at h
  split at h
  · unfold rdPut at h
    split at h
    · rename_i q1 s1 h1
      have := hP h1
      split at h
      · rename_i x y hx
        have := takeT_small hx
        split at h
        · cases h; omega
        · cases h
      · cases h
    · cases h
  · unfold rdGet at h
    split at h
    · rename_i q1 s1 h1
      have := hP h1
      split at h
      · rename_i x y hx
        have := takeB_small hx
        cases h; omega
      · cases h
    · cases h
  · have := hP h; omega
  · unfold rdList at h
    split at h
    · rename_i x y hx
      have := takeP_small hx
      cases h; omega
    · cases h
  · unfold rdGrant at h
    split at h
    · rename_i q1 s1 h1
      have := hN h1
      split at h
      · rename_i p s2 h2
        have := takeP_small h2
        split at h
        · rename_i x y hx
          have := takeB_small hx
          split at h
          · cases h; omega
          · cases h
        · cases h
      · cases h
    · cases h
  · have := hN h; omega
  · cases h
theorem readQ_size {s : ByteArray} {q : Rq} (h : readQ s = some q) : s.size ≤ 1100 := by
  unfold readQ at h
  split at h
  · rename_i x y hx
    have h0 := takeB_small hx
    split at h
    · rename_i tk s2 h2
      have h1 := takeN_small h2
      split at h
      · rename_i q' s3 h3
        have h4 := rdOf_size h3
        split at h
        · omega
        · cases h
      · cases h
    · cases h
  · cases h
/-- What is so of every vault, behind so many requests. -/
structure Vlt.Bnd (V : Vlt) (E : List ByteArray) (n : Nat) : Prop where
  ok : V.Ok E
  le : n ≤ 4194304 ∧ E.length ≤ n
  dsk : V.dsk.Bnd n
  snk : ∀ k ∈ V.snks, k.Bnd E n
  few : V.snks.length ≤ 4
  key : V.key.size ≤ 1000
theorem logOf_small {E : List ByteArray} (h : ∀ e ∈ E, fitsB e = true) : (logOf E).size ≤ 400 * E.length := by
  induction E with
  | nil => simp [logOf]
  | cons a l ih =>
    have h1 := fits_small (h a (.head _))
    have h2 := ih fun e he => h e (.tail _ he)
    rw [logOf, ByteArray.size_append, frOf_size, List.length_cons]
    omega
theorem Vlt.Bnd.wrote {V : Vlt} {E : List ByteArray} {n : Nat} (h : V.Bnd E n) (s : ByteArray) : (V.wrote s).Bnd (n + 1) := by
  unfold Vlt.wrote
  split
  · rename_i hc
    refine h.dsk.write ?_
    have hs : s.size ≤ 1100 := by
      unfold Vlt.ask at hc
      split at hc
      · rename_i q hq; exact readQ_size hq
      · cases hc
    rw [ByteArray.size_append, bs_size, Sha.digest_length, txt_size]
    omega
  · exact h.dsk.up (by omega)
theorem Vlt.Bnd.next {V : Vlt} {E : List ByteArray} {n : Nat} (h : V.Bnd E n) (hn : n + 1 ≤ 4194304) (s : ByteArray) :
    ((V.lay s).2 = true → (V.next s).Bnd (E ++ [V.entry s]) (n + 1)) ∧ ((V.lay s).2 = false → (V.next s).Bnd E (n + 1)) := by
  have hE : E.length < 4294967296 := by have := h.le; omega
  have hN := h.ok.next hE s
  have hf := chn_fits (h.ok.chn' hE s)
  have hm := h.ok.most'
  have hl : (V.lay s).1 = V.snks.map fun k => (giveF k (logOf E ++ frOf (V.entry s))).1 := by unfold Vlt.lay; rw [hm]; rfl
  constructor
  · intro hy
    have hV : V.next s = ⟨V.key, V.wrote s, (V.lay s).1, V.cnt + 1, Sha.digest (V.entry s).data.toList, V.sto.then (V.ask s).1 (V.ask s).2⟩ := by rw [Vlt.next, if_pos hy]
    refine ⟨hN.1 hy, ⟨hn, by simp; have := h.le; omega⟩, ?_, ?_, ?_, ?_⟩
    · rw [hV]; exact h.wrote s
    · rw [hV]
      intro x hx
      rw [show (Vlt.mk _ _ _ _ _ _).snks = (V.lay s).1 from rfl, hl] at hx
      obtain ⟨k, hk, rfl⟩ := List.mem_map.1 hx
      exact (h.snk k hk).give hf
    · rw [hV]; show (V.lay s).1.length ≤ 4; rw [hl, List.length_map]; exact h.few
    · rw [hV]; exact h.key
  · intro hy
    have hV : V.next s = ⟨V.key, V.wrote s, (V.lay s).1, V.cnt, V.last, V.sto⟩ := by rw [Vlt.next, if_neg (by rw [hy]; simp)]
    refine ⟨hN.2 hy, ⟨hn, by have := h.le; omega⟩, ?_, ?_, ?_, ?_⟩
    · rw [hV]; exact h.wrote s
    · intro x hx
      have hs1 := (hN.2 hy).snk x hx
      rw [hV, show (Vlt.mk _ _ _ _ _ _).snks = (V.lay s).1 from rfl, hl] at hx
      obtain ⟨k, hk, rfl⟩ := List.mem_map.1 hx
      exact ((h.snk k hk).give hf).less hs1
    · rw [hV]; show (V.lay s).1.length ≤ 4; rw [hl, List.length_map]; exact h.few
    · rw [hV]; exact h.key
end Go.Proofs.YtlbacbcenejngaaGreatDoor
namespace Go.Proofs.YtlbacbcenejngaaGreatDoor
open Go.RowKit
/-- Bound entries, heads that are one: the last two that differ have one digest. -/
theorem loose_bound {E : List ByteArray} : ∀ (m i k : Nat), E.length - i ≤ m → loose E i = none → i ≤ k → k < E.length → bound E k = true := by
  intro m
  induction m with
  | zero => intro i k hm _ h1 h2; omega
  | succ m ih =>
    intro i k hm h h1 h2
    by_cases hb : bound E i = true
    · by_cases hk : i = k
      · rw [← hk]; exact hb
      · rw [loose_next (by omega) hb] at h
        exact ih _ _ (by omega) h (by omega) h2
    · rw [loose_some (by omega) (by simpa using hb)] at h
      cases h
theorem lastDiff_some {X Y : List ByteArray} : ∀ {n i : Nat}, lastDiff X Y n = some i → i < n ∧ X.getD i ByteArray.empty ≠ Y.getD i ByteArray.empty ∧ ∀ j, i < j → j < n → X.getD j ByteArray.empty = Y.getD j ByteArray.empty := by
  intro n
  induction n with
  | zero => intro i h; cases h
  | succ n ih =>
    intro i h
    rw [lastDiff] at h
    split at h
    · rename_i he
      obtain ⟨h1, h2, h3⟩ := ih h
      refine ⟨by omega, h2, fun j hj hjn => ?_⟩
      by_cases hjj : j = n
      · rw [hjj]; exact he
      · exact h3 j hj (by omega)
    · rename_i he
      cases h
      exact ⟨by omega, he, fun j h1 h2 => absurd h1 (by omega)⟩
theorem lastDiff_none {X Y : List ByteArray} : ∀ {n : Nat}, lastDiff X Y n = none → ∀ j, j < n → X.getD j ByteArray.empty = Y.getD j ByteArray.empty := by
  intro n
  induction n with
  | zero => intro _ j hj; omega
  | succ n ih =>
    intro h j hj
    rw [lastDiff] at h
    split at h
    · rename_i he
      by_cases hjj : j = n
      · rw [hjj]; exact he
      · exact ih h j (by omega)
    · cases h
theorem hash_of_bound {X Y : List ByteArray} {i : Nat} (hX : bound X i = true) (hY : bound Y i = true) (h : X.getD i ByteArray.empty = Y.getD i ByteArray.empty) : hashAt X i = hashAt Y i := by
  simp only [bound, Bool.and_eq_true, decide_eq_true_eq] at hX hY
  have h1 := hX.1.symm.trans ((congrArg (fun z => z.extract 0 32) h).trans hY.1)
  have := congrArg (fun z => z.data.toList) h1
  simpa using this
/-- The pair that clash tells has one digest, and differs. -/
theorem clash_pair {X Y : List ByteArray} {i : Nat} (hX : loose X 0 = none) (hY : loose Y 0 = none) (hl : X.length = Y.length) (hh : hashAt X X.length = hashAt Y Y.length) (h : lastDiff X Y X.length = some i) :
    X.getD i ByteArray.empty ≠ Y.getD i ByteArray.empty ∧ Sha.digest (X.getD i ByteArray.empty).data.toList = Sha.digest (Y.getD i ByteArray.empty).data.toList := by
  obtain ⟨h1, h2, h3⟩ := lastDiff_some h
  refine ⟨h2, ?_⟩
  show hashAt X (i + 1) = hashAt Y (i + 1)
  by_cases he : i + 1 = X.length
  · rw [he, hh, hl]
  · exact hash_of_bound (loose_bound X.length 0 _ (by omega) hX (by omega) (by omega)) (loose_bound Y.length 0 _ (by omega) hY (by omega) (by omega)) (h3 _ (by omega) (by omega))
theorem numOf_inj : ∀ (a b : List UInt8), a.length = b.length → numOf a = numOf b → a = b
  | [], [], _, _ => rfl
  | x :: r, y :: q, hl, h => by
    rw [numOf, numOf] at h
    have hx := x.toNat_lt
    have hy := y.toNat_lt
    have h1 : x.toNat = y.toNat := by omega
    have h2 : numOf r = numOf q := by omega
    rw [numOf_inj r q (by simpa using hl) h2, UInt8.toNat_inj.1 h1]
/-- The end of the entries: none is left, or there is one ahead. -/
theorem ents_cases {s : ByteArray} {o : Nat} (h : (ents s o).2 = true) : (¬ o < s.size ∧ (ents s o).1 = []) ∨
    (o < s.size ∧ o + 2 + sizeAt s o ≤ s.size ∧ (ents s o).1 = entAt s o :: (ents s (o + 2 + sizeAt s o)).1 ∧ (ents s (o + 2 + sizeAt s o)).2 = true) := by
  by_cases h0 : o < s.size
  · right
    by_cases h2 : s.size < o + 2
    · rw [ents_short h0 h2] at h; cases h
    · by_cases h3 : s.size < o + 2 + sizeAt s o
      · rw [ents_long h0 h2 h3] at h; cases h
      · by_cases h4 : fitsB (entAt s o) = true
        · rw [ents_next h0 h2 h3 h4] at h ⊢
          exact ⟨h0, by omega, rfl, h⟩
        · rw [ents_bad h0 h2 h3 h4] at h; cases h
  · left
    rw [ents_end h0]
    exact ⟨h0, rfl⟩
theorem drop_frame (s : ByteArray) {o : Nat} (_h : o + 2 + sizeAt s o ≤ s.size) : s.data.toList.drop o = (s.extract o (o + 2)).data.toList ++ ((entAt s o).data.toList ++ s.data.toList.drop (o + 2 + sizeAt s o)) := by
  rw [ext_list, entAt, ext_list, show o + 2 - o = 2 by omega, show o + 2 + sizeAt s o - (o + 2) = sizeAt s o by omega]
  rw [show s.data.toList.drop (o + 2 + sizeAt s o) = (s.data.toList.drop (o + 2)).drop (sizeAt s o) by rw [List.drop_drop]]
  rw [List.take_append_drop, show s.data.toList.drop (o + 2) = (s.data.toList.drop o).drop 2 by rw [List.drop_drop], List.take_append_drop]
theorem ents_log (a b : ByteArray) : ∀ (m o o' : Nat), a.size - o ≤ m → (ents a o).2 = true → (ents b o').2 = true → (ents a o).1 = (ents b o').1 → a.data.toList.drop o = b.data.toList.drop o' := by
  intro m
  induction m with
  | zero =>
    intro o o' hm ha hb he
    have hla := size_toList a
    have hlb := size_toList b
    rcases ents_cases ha with ⟨h1, h2⟩ | ⟨h1, _⟩
    · rcases ents_cases hb with ⟨h3, h4⟩ | ⟨h3, _, h4, _⟩
      · rw [List.drop_of_length_le (by omega), List.drop_of_length_le (by omega)]
      · rw [h2, h4] at he; cases he
    · omega
  | succ m ih =>
    intro o o' hm ha hb he
    have hla := size_toList a
    have hlb := size_toList b
    rcases ents_cases ha with ⟨h1, h2⟩ | ⟨h1, h5, h6, h7⟩
    · rcases ents_cases hb with ⟨h3, h4⟩ | ⟨h3, _, h4, _⟩
      · rw [List.drop_of_length_le (by omega), List.drop_of_length_le (by omega)]
      · rw [h2, h4] at he; cases he
    · rcases ents_cases hb with ⟨h3, h4⟩ | ⟨h3, h8, h9, h10⟩
      · rw [h6, h4] at he; cases he
      · rw [h6, h9] at he
        obtain ⟨e1, e2⟩ := List.cons.inj he
        have hs : sizeAt a o = sizeAt b o' := by rw [← entAt_size h5, ← entAt_size h8, e1]
        have h11 := ih _ _ (by omega) h7 h10 e2
        rw [drop_frame a h5, drop_frame b h8, h11, e1]
        congr 1
        refine numOf_inj _ _ ?_ hs
        rw [size_toList, size_toList, ByteArray.size_extract, ByteArray.size_extract]
        omega
/-- Logs that are whole and have the same entries are the same. -/
theorem same_log {a b : ByteArray} (ha : (ents a 0).2 = true) (hb : (ents b 0).2 = true) (h : (ents a 0).1 = (ents b 0).1) : a = b := by
  have := ents_log a b a.size 0 0 (by omega) ha hb h
  exact Go.WideShapes.bytes_inj this
def pairOf (a b : ByteArray) : Bool :=
  (ents a 0).2 && ((ents b 0).2 && (decide ((ents a 0).1.length = (ents b 0).1.length) && (decide (a ≠ b) &&
    (decide ((vfyOf (ents a 0).1 (ents a 0).2 (ents a 0).1.length (hashAt (ents a 0).1 (ents a 0).1.length)).1 = 0) &&
      (decide ((vfyOf (ents b 0).1 (ents b 0).2 (ents b 0).1.length (hashAt (ents b 0).1 (ents b 0).1.length)).1 = 0) &&
        (hashAt (ents a 0).1 (ents a 0).1.length == hashAt (ents b 0).1 (ents b 0).1.length))))))
theorem walk_ok (s : ByteArray) : (walkF s []).2 = 0 ↔ loose (ents s 0).1 0 = none ∧ (ents s 0).2 = true := by
  rw [walk_all, walkR]
  cases h : loose (ents s 0).1 0 with
  | some k => simp
  | none => cases h2 : (ents s 0).2 <;> simp
theorem walk_list {s : ByteArray} (h : (walkF s []).2 = 0) : (walkF s []).1 = (ents s 0).1 := by
  have h1 := ((walk_ok s).1 h).1
  rw [walk_all, walkR, h1]
theorem vfy_ok (E : List ByteArray) (all : Bool) : (vfyOf E all E.length (hashAt E E.length)).1 = 0 ↔ loose E 0 = none ∧ all = true := by
  cases h : loose E 0 with
  | some k => rw [vfy_loose h]; simp
  | none => rw [vfy_none h]; cases all <;> simp
theorem pair_iff (a b : ByteArray) : pairOf a b = true ↔ a ≠ b ∧ (walkF a []).2 = 0 ∧ (walkF b []).2 = 0 ∧ (ents a 0).1.length = (ents b 0).1.length ∧ hashAt (ents a 0).1 (ents a 0).1.length = hashAt (ents b 0).1 (ents b 0).1.length := by
  simp only [pairOf, Bool.and_eq_true, decide_eq_true_eq, vfy_ok, walk_ok, beq_iff_eq]
  constructor
  · rintro ⟨h1, h2, h3, h4, h5, h6, h7⟩
    exact ⟨h4, h5, h6, h3, h7⟩
  · rintro ⟨h1, h2, h3, h4, h5⟩
    exact ⟨h2.2, h3.2, h4, h1, h2, h3, h5⟩
theorem clash_yes {a b : ByteArray} (h : pairOf a b = true) : (clOf a b).2.2 = 0 ∧ (clOf a b).1 ≠ (clOf a b).2.1 ∧ Sha.digest (clOf a b).1.data.toList = Sha.digest (clOf a b).2.1.data.toList := by
  obtain ⟨h1, h2, h3, h4, h5⟩ := (pair_iff a b).1 h
  have hla := (walk_ok a).1 h2
  have hlb := (walk_ok b).1 h3
  rw [clOf, walk_list h2, walk_list h3, if_pos ⟨h2, h3, h4, h5⟩, clashF]
  cases hd : lastDiff (ents a 0).1 (ents b 0).1 (ents a 0).1.length with
  | some i =>
    have := clash_pair hla.1 hlb.1 h4 h5 hd
    exact ⟨rfl, this.1, this.2⟩
  | none =>
    refine absurd (same_log hla.2 hlb.2 ?_) h1
    refine List.ext_getElem h4 fun j hj hj' => ?_
    have := lastDiff_none hd j hj
    rwa [List.getD_eq_getElem?_getD, List.getD_eq_getElem?_getD, List.getElem?_eq_getElem hj, List.getElem?_eq_getElem hj'] at this
theorem lastDiff_same (X : List ByteArray) : ∀ n, lastDiff X X n = none
  | 0 => rfl
  | n + 1 => by rw [lastDiff, if_pos rfl]; exact lastDiff_same X n
theorem clash_no {a b : ByteArray} (h : pairOf a b = false) : clOf a b = (ByteArray.empty, ByteArray.empty, 8) := by
  rw [clOf]
  split
  · rename_i hc
    obtain ⟨h2, h3, h4, h5⟩ := hc
    rw [walk_list h2, walk_list h3] at h4 h5 ⊢
    by_cases hab : a = b
    · subst hab
      rw [clashF, lastDiff_same]
    · have := (pair_iff a b).2 ⟨hab, h2, h3, h4, h5⟩
      rw [h] at this
      cases this
  · rfl
theorem ver_ok {s : ByteArray} {n : Int} {H : List UInt8} (h : verF s n H = 0) : (walkF s []).2 = 0 ∧ ((walkF s []).1.length : Int) = n ∧ hashAt (walkF s []).1 (walkF s []).1.length = H := by
  unfold verF at h
  split at h
  · cases h
  · rename_i hc
    exact ⟨h, by simpa [h] using hc⟩
/-- What Forged asks. -/
theorem forged_clash {a b : ByteArray} {n : Int} {H : List UInt8} (ha : verF a n H = 0) :
    (b = a ∨ verF b n H ≠ 0 → (clOf a b).2.2 = 8 ∨ (b ≠ a ∧ (clOf a b).2.2 = 0 ∧ (clOf a b).1 ≠ (clOf a b).2.1 ∧ Sha.digest (clOf a b).1.data.toList = Sha.digest (clOf a b).2.1.data.toList)) ∧
    (¬ (b = a ∨ verF b n H ≠ 0) → (clOf a b).2.2 = 0 ∧ (clOf a b).1 ≠ (clOf a b).2.1 ∧ Sha.digest (clOf a b).1.data.toList = Sha.digest (clOf a b).2.1.data.toList) := by
  refine ⟨fun _ => ?_, fun h => ?_⟩
  · cases hp : pairOf a b
    · exact .inl (by rw [clash_no hp])
    · exact .inr ⟨fun e => ((pair_iff a b).1 hp).1 e.symm, clash_yes hp⟩
  · have h1 : b ≠ a := fun e => h (.inl e)
    have h2 : verF b n H = 0 := Decidable.byContradiction fun e => h (.inr e)
    have wa := ver_ok ha
    have wb := ver_ok h2
    refine clash_yes ((pair_iff a b).2 ⟨fun e => h1 e.symm, wa.1, wb.1, ?_, ?_⟩)
    · have := wa.2.1.trans wb.2.1.symm
      rw [walk_list wa.1, walk_list wb.1] at this
      exact Int.ofNat.inj this
    · have := wa.2.2.trans wb.2.2.symm
      rw [walk_list wa.1, walk_list wb.1] at this
      exact this
end Go.Proofs.YtlbacbcenejngaaGreatDoor
