/-
  Fm, St, St2, Gd, joined.
-/
import Derived.Test.YtfodibjlldmnpaaDoorJSk
/-
  Things that lie in memory beside one another.
-/
namespace Go.Proofs.YtfodibjlldmnpaaDoor
open Go.RowKit

def TyAt (w : World) (k : Nat) (t : TypeId) : Prop := ∃ cs, w.heap[k]? = some (.cells cs t (0, 0))
theorem TyAt.ne {w : World} {k k' : Nat} {t t' : TypeId} (h : TyAt w k t) (h' : TyAt w k' t') (ht : t ≠ t') : k ≠ k' := by
  rintro rfl
  obtain ⟨c, hc⟩ := h
  obtain ⟨c', hc'⟩ := h'
  rw [hc] at hc'
  simp only [Option.some.injEq, Obj.cells.injEq] at hc'
  exact ht hc'.2.1
theorem TyAt.lt {w : World} {k : Nat} {t : TypeId} (h : TyAt w k t) : k < w.heap.size := by obtain ⟨c, hc⟩ := h; exact (Array.getElem?_eq_some_iff.1 hc).1
/-- A thing: its block, its row, what it is. -/
structure Loc (X : Type) where
  p : Nat
  v : Value
  x : X
/-- What is asked of the way a thing lies in memory. -/
structure Way {X : Type} (B TP TR : Nat) (P : X → World → Nat → Value → Prop) : Prop where
  ty : ∀ {x w p v}, P x w p v → TyAt w p TP
  row : ∀ {x w p v k}, P x w p v → v.ownBlock = some k → TyAt w k TR ∧ B ≤ k
  big : ∀ {x w p v}, P x w p v → B ≤ p
  stay : ∀ {x w w' p v}, P x w p v → w'.heap[p]? = w.heap[p]? → (∀ k, v.ownBlock = some k → w'.heap[k]? = w.heap[k]?) → P x w' p v
  ne : TP ≠ TR
structure Fam {X : Type} (P : X → World → Nat → Value → Prop) (w : World) (l : List (Loc X)) : Prop where
  each : ∀ e ∈ l, P e.x w e.p e.v
  ne : l.Pairwise fun a b => a.p ≠ b.p ∧ ∀ k, a.v.ownBlock = some k → b.v.ownBlock ≠ some k
variable {X : Type} {P : X → World → Nat → Value → Prop} {B TP TR : Nat}
/-- Blocks of other types change, or none. -/
theorem Fam.frame {w w' : World} {l : List (Loc X)} (hW : Way B TP TR P) (h : Fam P w l) (hp : ∀ k, TyAt w k TP → (∃ e ∈ l, e.p = k) → w'.heap[k]? = w.heap[k]?) (hr : ∀ k, TyAt w k TR → (∃ e ∈ l, e.v.ownBlock = some k) → w'.heap[k]? = w.heap[k]?) : Fam P w' l :=
  ⟨fun e he => hW.stay (h.each e he) (hp _ (hW.ty (h.each e he)) ⟨e, he, rfl⟩) fun k hk => hr k (hW.row (h.each e he) hk).1 ⟨e, he, hk⟩, h.ne⟩
theorem Fam.kept {w w' : World} {l : List (Loc X)} (hW : Way B TP TR P) (h : Fam P w l) (hk : Kept w.heap.size w w') : Fam P w' l :=
  h.frame hW (fun k ht _ => hk.block k ht.lt) fun k ht _ => hk.block k ht.lt
/-- A change of a thing of another kind. -/
theorem Fam.other {w w' : World} {l : List (Loc X)} {p : Nat} {v v' : Value} (hW : Way B TP TR P) (h : Fam P w l) (hu : Upd p v v' w w') {tp : TypeId} (hp : TyAt w p tp) (hp1 : tp ≠ TP) (hp2 : tp ≠ TR) (hv : ∀ k, v.ownBlock = some k → TyAt w k TP ∨ TyAt w k TR → ¬ ((∃ e ∈ l, e.p = k) ∨ (∃ e ∈ l, e.v.ownBlock = some k))) : Fam P w' l :=
  h.frame hW (fun k ht he => hu.block k ht.lt (fun e => ht.ne hp (fun e => hp1 e.symm) e) fun e => hv k e (.inl ht) (.inl he)) fun k ht he => hu.block k ht.lt (fun e => ht.ne hp (fun e => hp2 e.symm) e) fun e => hv k e (.inr ht) (.inr he)
theorem Fam.otherTy {w w' : World} {l : List (Loc X)} {p : Nat} {v v' : Value} (hW : Way B TP TR P) (h : Fam P w l) (hu : Upd p v v' w w') {tp tr : TypeId} (hp : TyAt w p tp) (hv : ∀ k, v.ownBlock = some k → TyAt w k tr) (h1 : tp ≠ TP) (h2 : tp ≠ TR) (h3 : tr ≠ TP) (h4 : tr ≠ TR) : Fam P w' l :=
  h.other hW hu hp h1 h2 fun k hk ht => by
    rcases ht with ht | ht
    · exact absurd rfl ((hv k hk).ne ht h3)
    · exact absurd rfl ((hv k hk).ne ht h4)
theorem mem_set {l : List (Loc X)} {i : Nat} {a e : Loc X} (h : e ∈ l.set i a) : e = a ∨ ∃ j, ∃ hj : j < l.length, j ≠ i ∧ e = l[j] := by
  obtain ⟨j, hj, rfl⟩ := List.getElem_of_mem h
  rw [List.length_set] at hj
  by_cases hji : i = j
  · subst hji
    exact .inl (by simp)
  · exact .inr ⟨j, hj, fun e => hji e.symm, by rw [List.getElem_set_ne hji]⟩
theorem Fam.get_ne {w : World} {l : List (Loc X)} (h : Fam P w l) {i j : Nat} (hi : i < l.length) (hj : j < l.length) (hne : i ≠ j) : l[i].p ≠ l[j].p ∧ ∀ k, l[i].v.ownBlock = some k → l[j].v.ownBlock ≠ some k := by
  have hp := List.pairwise_iff_getElem.1 h.ne
  rcases Nat.lt_or_gt_of_ne hne with hlt | hlt
  · exact hp i j hi hj hlt
  · have := hp j i hj hi hlt
    exact ⟨fun e => this.1 e.symm, fun k h1 h2 => this.2 k h2 h1⟩
/-- One of them changes. -/
theorem Fam.upd {w w' : World} {l : List (Loc X)} (hW : Way B TP TR P) (h : Fam P w l) {i : Nat} (hi : i < l.length) {v' : Value} {x' : X} (hP : P x' w' l[i].p v') (hu : Upd l[i].p l[i].v v' w w') : Fam P w' (l.set i ⟨l[i].p, v', x'⟩) := by
  have hei := h.each _ (List.getElem_mem hi)
  have hnew : ∀ j (hj : j < l.length), j ≠ i → ∀ k, v'.ownBlock = some k → l[j].v.ownBlock ≠ some k := fun j hj hji k hk e => by
    rcases hu.new k hk with h1 | h1
    · exact (h.get_ne hi hj (fun e => hji e.symm)).2 k h1 e
    · have := (hW.row (h.each _ (List.getElem_mem hj)) e).1.lt; omega
  constructor
  · intro e he
    rcases mem_set he with rfl | ⟨j, hj, hji, rfl⟩
    · exact hP
    · have hej := h.each _ (List.getElem_mem hj)
      have hne := h.get_ne hj hi hji
      exact hW.stay hej (hu.block _ (hW.ty hej).lt hne.1 fun e => (hW.ty hej).ne (hW.row hei e).1 hW.ne rfl)
        fun k hk => hu.block k (hW.row hej hk).1.lt (fun e => by subst e; exact (hW.ty hei).ne (hW.row hej hk).1 hW.ne rfl) fun e => hne.2 k hk e
  · rw [List.pairwise_iff_getElem]
    intro a b ha hb hab
    rw [List.length_set] at ha hb
    by_cases hai : i = a
    · subst hai
      have hne := h.get_ne ha hb (by omega)
      rw [List.getElem_set_self, List.getElem_set_ne (by omega)]
      exact ⟨hne.1, fun k hk => hnew b hb (by omega) k hk⟩
    · by_cases hbi : i = b
      · subst hbi
        have hne := h.get_ne ha hb (by omega)
        rw [List.getElem_set_self, List.getElem_set_ne hai]
        exact ⟨hne.1, fun k h1 h2 => hnew a ha (by omega) k h2 h1⟩
      · rw [List.getElem_set_ne hai, List.getElem_set_ne hbi]
        exact h.get_ne ha hb (by omega)
/-- One more. -/
theorem Fam.push {w w' : World} {l : List (Loc X)} (hW : Way B TP TR P) (h : Fam P w l) (hk : Kept w.heap.size w w') {a : Loc X} (hP : P a.x w' a.p a.v) (hp : w.heap.size ≤ a.p) (hv : ∀ k, a.v.ownBlock = some k → w.heap.size ≤ k) : Fam P w' (l ++ [a]) := by
  have h' := h.kept hW hk
  refine ⟨fun e he => ?_, List.pairwise_append.2 ⟨h.ne, List.pairwise_singleton _ _, fun e he f hf => ?_⟩⟩
  · rcases List.mem_append.1 he with he | he
    · exact h'.each e he
    · rw [List.mem_singleton.1 he]; exact hP
  · rw [List.mem_singleton.1 hf]
    have := (hW.ty (h.each e he)).lt
    refine ⟨by omega, fun k h1 h2 => ?_⟩
    have h3 := (hW.row (h.each e he) h1).1.lt
    have h4 := hv k h2
    omega
theorem Fam.nil {w : World} : Fam P w ([] : List (Loc X)) := ⟨by simp, List.Pairwise.nil⟩
/-- Disks and sinks. -/
def PD (B TD TF : Nat) (d : Dsk) (w : World) (p : Nat) (v : Value) : Prop := DAt B TD TF w p v d ∧ B ≤ p
def PS (B TD : Nat) (k : Snk) (w : World) (p : Nat) (v : Value) : Prop := SAt B TD w p v k ∧ B ≤ p
theorem wayD (B TD TF : Nat) (ht : TD ≠ TF) : Way B TD TF (PD B TD TF) :=
  ⟨fun h => ⟨_, h.1.at'⟩, fun h hk => ⟨own_ty h.1.own hk, (h.1.own.lt _ hk).1⟩, fun h => h.2, fun h h1 h2 => ⟨⟨h1.trans h.1.at', own_blocks h.1.own h2⟩, h.2⟩, ht⟩
theorem wayS (B TD : Nat) (ht : TD ≠ 3) : Way B TD 3 (PS B TD) :=
  ⟨fun h => ⟨_, h.1.at'⟩, fun h hk => ⟨own_ty h.1.own hk, (h.1.own.lt _ hk).1⟩, fun h => h.2, fun h h1 h2 => ⟨⟨h1.trans h.1.at', own_blocks h.1.own h2⟩, h.2⟩, ht⟩
theorem Upd.keptB {p : Nat} {v v' : Value} {w w' : World} (h : Upd p v v' w w') (hs : B ≤ w.heap.size) (hp : B ≤ p) (hv : ∀ k, v.ownBlock = some k → B ≤ k) : Kept B w w' :=
  ⟨h.os, h.output, h.size, fun k hk => h.block k (by omega) (by omega) fun e => by have := hv k e; omega⟩
end Go.Proofs.YtfodibjlldmnpaaDoor
/-
  The shelf in memory.
-/
namespace Go.Proofs.YtfodibjlldmnpaaDoor
open Go.RowKit

def ptr (p : Nat) : Value := .pointer (some ⟨p, 0, none⟩)
def pcells : List Nat → List Nat → List Value
  | p :: ps, r :: rs => ptr p :: ptr r :: pcells ps rs
  | _, _ => []
theorem pcells_len : ∀ (ps rs : List Nat), ps.length = rs.length → (pcells ps rs).length = ps.length * 2
  | [], [], _ => rfl
  | p :: ps, r :: rs, h => by simp only [pcells, List.length_cons, pcells_len ps rs (by simpa using h)]; omega
  | [], _ :: _, h => by simp at h
  | _ :: _, [], h => by simp at h
theorem pcells_app : ∀ (ps rs : List Nat) (p r : Nat), ps.length = rs.length → pcells (ps ++ [p]) (rs ++ [r]) = pcells ps rs ++ [ptr p, ptr r]
  | [], [], _, _, _ => rfl
  | a :: ps, b :: rs, p, r, h => by simp only [List.cons_append, pcells, pcells_app ps rs p r (by simpa using h)]
  | [], _ :: _, _, _, h => by simp at h
  | _ :: _, [], _, _, h => by simp at h
theorem pcells_at : ∀ (ps rs : List Nat) (k : Nat), ps.length = rs.length → k < ps.length → (pcells ps rs)[k * 2]? = some (ptr (ps.getD k 0)) ∧ (pcells ps rs)[k * 2 + 1]? = some (ptr (rs.getD k 0))
  | a :: ps, b :: rs, 0, _, _ => by simp [pcells]
  | a :: ps, b :: rs, k + 1, h, hk => by
    have := pcells_at ps rs k (by simpa using h) (by simpa using hk)
    rw [show (k + 1) * 2 = k * 2 + 1 + 1 by omega, show k * 2 + 1 + 1 + 1 = k * 2 + 1 + 1 + 1 from rfl]
    simpa [pcells] using this
  | [], _ :: _, _, h, _ => by simp at h
  | _ :: _, [], _, h, _ => by simp at h
  | [], [], _, _, h => by simp at h
/-- What the shelf itself has. -/
structure Co (B g : Nat) (w : World) (vl vs vn vm : Value) (ps rs ss ts : List Nat) (ls : List Value) (ms : List ByteArray) : Prop where
  at' : w.heap[g]? = some (.cells #[vl, vs, vn, vm] 32 (0, 0))
  gB : B ≤ g
  lp : ps.length = rs.length
  lq : ss.length = ts.length
  l : w.ownsRow B 74 2 vl ps.length (pcells ps rs)
  s : w.ownsRow B 106 2 vs ss.length (pcells ss ts)
  nm : Ng B w vn vm ls ms
theorem Co.stay {B g : Nat} {w w' : World} {vl vs vn vm : Value} {ps rs ss ts : List Nat} {ls : List Value} {ms : List ByteArray} (h : Co B g w vl vs vn vm ps rs ss ts ls ms) (hq : ∀ k t, TyAt w k t → (t = 32 ∨ t = 74 ∨ t = 106 ∨ t = 30 ∨ t = 9) → w'.heap[k]? = w.heap[k]?) : Co B g w' vl vs vn vm ps rs ss ts ls ms :=
  ⟨(hq g 32 ⟨_, h.at'⟩ (by simp)).trans h.at', h.gB, h.lp, h.lq, own_blocks h.l fun k hk => hq k 74 (own_ty h.l hk) (by simp), own_blocks h.s fun k hk => hq k 106 (own_ty h.s hk) (by simp),
   ⟨own_blocks h.nm.n fun k hk => hq k 30 (own_ty h.nm.n hk) (by simp), own_blocks h.nm.m fun k hk => hq k 9 (own_ty h.nm.m hk) (by simp), h.nm.len, fun k hk => by
    obtain ⟨len, h1, h2, h3⟩ := h.nm.each k hk
    exact ⟨len, h1, own_blocks h2 fun b hb => hq b 9 (own_ty h2 hb) (by simp), h3⟩⟩⟩
theorem Upd.ty {p : Nat} {v v' : Value} {w w' : World} {tp tr : TypeId} (hu : Upd p v v' w w') (hp : TyAt w p tp) (hv : ∀ k, v.ownBlock = some k → TyAt w k tr) {k : Nat} {t : TypeId} (h : TyAt w k t) (h1 : t ≠ tp) (h2 : t ≠ tr) : w'.heap[k]? = w.heap[k]? :=
  hu.block k h.lt (h.ne hp h1) fun e => h.ne (hv k e) h2 rfl
/-- All that the law has made. -/
structure Sh (B g : Nat) (w : World) (vl vs vn vm : Value) (D R : List (Loc Dsk)) (S T : List (Loc Snk)) (ls : List Value) (ms : List ByteArray) : Prop where
  co : Co B g w vl vs vn vm (D.map (·.p)) (R.map (·.p)) (S.map (·.p)) (T.map (·.p)) ls ms
  d : Fam (PD B 96 111) w D
  r : Fam (PD B 99 113) w R
  k : Fam (PS B 135) w S
  t : Fam (PS B 104) w T
  x : ∀ e ∈ S, ∀ f ∈ T, ∀ q, e.v.ownBlock = some q → f.v.ownBlock ≠ some q
theorem wd (B : Nat) : Way B 96 111 (PD B 96 111) := wayD B 96 111 (by decide)
theorem wr (B : Nat) : Way B 99 113 (PD B 99 113) := wayD B 99 113 (by decide)
theorem wk (B : Nat) : Way B 135 3 (PS B 135) := wayS B 135 (by decide)
theorem wt (B : Nat) : Way B 104 3 (PS B 104) := wayS B 104 (by decide)
section
variable {B g : Nat} {w w' : World} {vl vs vn vm : Value} {D R : List (Loc Dsk)} {S T : List (Loc Snk)} {ls : List Value} {ms : List ByteArray}
theorem Sh.kept (h : Sh B g w vl vs vn vm D R S T ls ms) (hk : Kept w.heap.size w w') : Sh B g w' vl vs vn vm D R S T ls ms :=
  ⟨h.co.stay fun k _ ht _ => hk.block k ht.lt, h.d.kept (wd B) hk, h.r.kept (wr B) hk, h.k.kept (wk B) hk, h.t.kept (wt B) hk, h.x⟩
theorem map_set_p {X : Type} {l : List (Loc X)} {i : Nat} (hi : i < l.length) {v : Value} {x : X} : (l.set i ⟨l[i].p, v, x⟩).map (·.p) = l.map (·.p) := by
  rw [List.map_set]
  apply List.ext_getElem?
  intro j
  rw [List.getElem?_set]
  split
  · rename_i h; subst h; simp [hi]
  · rfl
theorem Sh.updD (h : Sh B g w vl vs vn vm D R S T ls ms) {i : Nat} (hi : i < D.length) {v' : Value} {d' : Dsk} (hP : DAt B 96 111 w' D[i].p v' d') (hu : Upd D[i].p D[i].v v' w w') : Sh B g w' vl vs vn vm (D.set i ⟨D[i].p, v', d'⟩) R S T ls ms ∧ Kept B w w' := by
  have he := h.d.each _ (List.getElem_mem hi)
  have tp := (wd B).ty he
  have tv : ∀ k, D[i].v.ownBlock = some k → TyAt w k 111 := fun k hk => ((wd B).row he hk).1
  refine ⟨⟨?_, h.d.upd (wd B) hi ⟨hP, he.2⟩ hu, h.r.otherTy (wr B) hu tp tv (by decide) (by decide) (by decide) (by decide), h.k.otherTy (wk B) hu tp tv (by decide) (by decide) (by decide) (by decide), h.t.otherTy (wt B) hu tp tv (by decide) (by decide) (by decide) (by decide), h.x⟩, hu.keptB (by have := tp.lt; have := he.2; omega) he.2 fun k hk => ((wd B).row he hk).2⟩
  rw [map_set_p hi]
  exact h.co.stay fun k t ht hq => hu.ty tp tv ht (by rintro rfl; simp at hq) (by rintro rfl; simp at hq)
theorem Sh.updR (h : Sh B g w vl vs vn vm D R S T ls ms) {i : Nat} (hi : i < R.length) {v' : Value} {d' : Dsk} (hP : DAt B 99 113 w' R[i].p v' d') (hu : Upd R[i].p R[i].v v' w w') : Sh B g w' vl vs vn vm D (R.set i ⟨R[i].p, v', d'⟩) S T ls ms ∧ Kept B w w' := by
  have he := h.r.each _ (List.getElem_mem hi)
  have tp := (wr B).ty he
  have tv : ∀ k, R[i].v.ownBlock = some k → TyAt w k 113 := fun k hk => ((wr B).row he hk).1
  refine ⟨⟨?_, h.d.otherTy (wd B) hu tp tv (by decide) (by decide) (by decide) (by decide), h.r.upd (wr B) hi ⟨hP, he.2⟩ hu, h.k.otherTy (wk B) hu tp tv (by decide) (by decide) (by decide) (by decide), h.t.otherTy (wt B) hu tp tv (by decide) (by decide) (by decide) (by decide), h.x⟩, hu.keptB (by have := tp.lt; have := he.2; omega) he.2 fun k hk => ((wr B).row he hk).2⟩
  rw [map_set_p hi]
  exact h.co.stay fun k t ht hq => hu.ty tp tv ht (by rintro rfl; simp at hq) (by rintro rfl; simp at hq)
theorem Sh.updS (h : Sh B g w vl vs vn vm D R S T ls ms) {i : Nat} (hi : i < S.length) {v' : Value} {d' : Snk} (hP : SAt B 135 w' S[i].p v' d') (hu : Upd S[i].p S[i].v v' w w') : Sh B g w' vl vs vn vm D R (S.set i ⟨S[i].p, v', d'⟩) T ls ms ∧ Kept B w w' := by
  have he := h.k.each _ (List.getElem_mem hi)
  have tp := (wk B).ty he
  have tv : ∀ k, S[i].v.ownBlock = some k → TyAt w k 3 := fun k hk => ((wk B).row he hk).1
  refine ⟨⟨?_, h.d.otherTy (wd B) hu tp tv (by decide) (by decide) (by decide) (by decide), h.r.otherTy (wr B) hu tp tv (by decide) (by decide) (by decide) (by decide), h.k.upd (wk B) hi ⟨hP, he.2⟩ hu, h.t.other (wt B) hu tp (by decide) (by decide) fun k hk _ hx => ?_, fun e he' f hf q h1 h2 => ?_⟩, hu.keptB (by have := tp.lt; have := he.2; omega) he.2 fun k hk => ((wk B).row he hk).2⟩
  · rw [map_set_p hi]
    exact h.co.stay fun k t ht hq => hu.ty tp tv ht (by rintro rfl; simp at hq) (by rintro rfl; simp at hq)
  · rcases hx with ⟨f, hf, rfl⟩ | ⟨f, hf, hfk⟩
    · exact ((wt B).ty (h.t.each f hf)).ne (tv _ hk) (by decide) rfl
    · exact h.x _ (List.getElem_mem hi) f hf k hk hfk
  · rcases mem_set he' with rfl | ⟨j, hj, _, rfl⟩
    · rcases hu.new q h1 with h3 | h3
      · exact h.x _ (List.getElem_mem hi) f hf q h3 h2
      · have := ((wt B).row (h.t.each f hf) h2).1.lt; omega
    · exact h.x _ (List.getElem_mem hj) f hf q h1 h2
theorem Sh.updT (h : Sh B g w vl vs vn vm D R S T ls ms) {i : Nat} (hi : i < T.length) {v' : Value} {d' : Snk} (hP : SAt B 104 w' T[i].p v' d') (hu : Upd T[i].p T[i].v v' w w') : Sh B g w' vl vs vn vm D R S (T.set i ⟨T[i].p, v', d'⟩) ls ms ∧ Kept B w w' := by
  have he := h.t.each _ (List.getElem_mem hi)
  have tp := (wt B).ty he
  have tv : ∀ k, T[i].v.ownBlock = some k → TyAt w k 3 := fun k hk => ((wt B).row he hk).1
  refine ⟨⟨?_, h.d.otherTy (wd B) hu tp tv (by decide) (by decide) (by decide) (by decide), h.r.otherTy (wr B) hu tp tv (by decide) (by decide) (by decide) (by decide), h.k.other (wk B) hu tp (by decide) (by decide) fun k hk _ hx => ?_, h.t.upd (wt B) hi ⟨hP, he.2⟩ hu, fun e he' f hf q h1 h2 => ?_⟩, hu.keptB (by have := tp.lt; have := he.2; omega) he.2 fun k hk => ((wt B).row he hk).2⟩
  · rw [map_set_p hi]
    exact h.co.stay fun k t ht hq => hu.ty tp tv ht (by rintro rfl; simp at hq) (by rintro rfl; simp at hq)
  · rcases hx with ⟨f, hf, rfl⟩ | ⟨f, hf, hfk⟩
    · exact ((wk B).ty (h.k.each f hf)).ne (tv _ hk) (by decide) rfl
    · exact h.x f hf _ (List.getElem_mem hi) k hfk hk
  · rcases mem_set hf with rfl | ⟨j, hj, _, rfl⟩
    · rcases hu.new q h2 with h3 | h3
      · exact h.x e he' _ (List.getElem_mem hi) q h1 h3
      · have := ((wk B).row (h.k.each e he') h1).1.lt; omega
    · exact h.x e he' _ (List.getElem_mem hj) q h1 h2
end
end Go.Proofs.YtfodibjlldmnpaaDoor
/-
  The shelf in memory: one disk more, one sink more, names that came out.
-/
namespace Go.Proofs.YtfodibjlldmnpaaDoor
open Go.RowKit

theorem info74 : (Tryd.prog.info? 74).map (fun i => (i.zero, i.size, i.bytes)) = some (some (.agg #[.pointer none, .pointer none]), 2, 16) := by kernel_rfl
theorem info106 : (Tryd.prog.info? 106).map (fun i => (i.zero, i.size, i.bytes)) = some (some (.agg #[.pointer none, .pointer none]), 2, 16) := by kernel_rfl
theorem wpList_append_pair {w : World} {ops : Array Oper} {rest : List Oper} {o : Oper} {act : Act} {Q : Exit → Act → World → Prop} (hgd : o.guard = none) (s x : Operand) (t TF : TypeId)
    (ho : o.op = .call { callee := .builtin .append, args := #[s, x], argTypes := #[t, t] }) (B : Nat) (ht : Tryd.prog.underlying t = some (.slice TF)) (hi : (Tryd.prog.info? TF).map (fun i => (i.zero, i.size, i.bytes)) = some (some (.agg #[.pointer none, .pointer none]), 2, 16))
    (v : Value) (n : Nat) (xs : List Value) (p q : Nat) (w0 : World) (hs : act.eval s = v) (hown : w0.ownsRow B TF 2 v n xs) (hl : n ≤ 4194304)
    (hx : act.eval x = .slice (some ⟨w0.heap.size, 0, none⟩) 1 1) (hw : w = w0.alloc (.cells #[ptr p, ptr q] TF)) (hB : B ≤ w0.heap.size)
    (h : ∀ v' w', w'.ownsRow B TF 2 v' (n + 1) (xs ++ [ptr p, ptr q]) → Upd w0.heap.size v v' w0 w' → wpList Tryd.prog ops Q rest (act.put o.dst v') w') : wpList Tryd.prog ops Q (o :: rest) act w := by
  obtain ⟨i0, hi0, hz0, hz1, hz2⟩ := info_parts hi
  subst hw
  refine wpList_plain hgd fun _ hK => wp_append_fresh s x t ho B TF i0 _ 2 16 ht hi0 hz0 hz1 hz2 rfl (by decide) v n xs hs (hown.alloc _) ⟨w0.heap.size, 0, none⟩ 1 1 [ptr p, ptr q] hx rfl (news_any rfl) ?_ (by decide) ?_ ?_ ?_ fun v' w' h1 h2 h3 => hK _ _ (h v' w' h1 ?_)
  · intro u hu
    simp only [List.mem_cons, List.not_mem_nil, or_false] at hu
    rcases hu with rfl | rfl <;> rfl
  · unfold maxLen; omega
  · omega
  · simp; omega
  · have hs2 := h2.size
    simp only [World.size_alloc] at hs2
    refine ⟨h2.os, h2.output, by omega, fun k hk _ hv => (h2.block k (by simp; omega) fun e => hv e.symm).trans (Below.heap_alloc _ _ _ hk), fun k hk => ?_⟩
    rcases h3 with h3 | h3
    · exact .inl (h3 ▸ hk)
    · rw [h3] at hk
      simp only [World.size_alloc, Option.some.injEq] at hk
      exact .inr (by omega)
theorem Upd.store {g j : Nat} {v v' u : Value} {w w' : World} (h : Upd w.heap.size v v' w w') : Upd g v v' w (w'.setCell ⟨g, j, none⟩ u) :=
  ⟨h.os, h.output, by simpa using h.size, fun k hk hp hv => (heap_setCell_other _ _ _ _ hp).trans (h.block k hk (by omega) hv), h.new⟩
section
variable {B g : Nat} {w : World} {vl vs vn vm : Value} {D R : List (Loc Dsk)} {S T : List (Loc Snk)} {ls : List Value} {ms : List ByteArray}
theorem Sh.pushD (h : Sh B g w vl vs vn vm D R S T ls ms) {w1 w2 w3 : World} {p q : Nat} {v u vl' : Value} {d d2 : Dsk} (k1 : Kept w.heap.size w w1) (hd : DAt B 96 111 w1 p v d) (hp : w.heap.size ≤ p) (hv : ∀ k, v.ownBlock = some k → w.heap.size ≤ k)
    (k2 : Kept w1.heap.size w1 w2) (hr : DAt B 99 113 w2 q u d2) (hq : w1.heap.size ≤ q) (hu : ∀ k, u.ownBlock = some k → w1.heap.size ≤ k)
    (ho : w3.ownsRow B 74 2 vl' ((D.map (·.p)).length + 1) (pcells (D.map (·.p)) (R.map (·.p)) ++ [ptr p, ptr q])) (hU : Upd w2.heap.size vl vl' w2 w3) :
    Sh B g (w3.setCell ⟨g, 0, none⟩ vl') vl' vs vn vm (D ++ [⟨p, v, d⟩]) (R ++ [⟨q, u, d2⟩]) S T ls ms ∧ Kept B w (w3.setCell ⟨g, 0, none⟩ vl') ∧ w3.cell? ⟨g, 0, none⟩ = some vl ∧ w3.frozen? ⟨g, 0, none⟩ = false := by
  have hg := h.co.gB
  have hgl : g < w.heap.size := (Array.getElem?_eq_some_iff.1 h.co.at').1
  have h2 := (h.kept k1).kept k2
  have hD2 : Fam (PD B 96 111) w2 (D ++ [⟨p, v, d⟩]) := (h.d.push (wd B) k1 (a := ⟨p, v, d⟩) ⟨hd, by show B ≤ p; omega⟩ hp hv).kept (wd B) k2
  have hR2 : Fam (PD B 99 113) w2 (R ++ [⟨q, u, d2⟩]) := (h.r.kept (wr B) k1).push (wr B) k2 (a := ⟨q, u, d2⟩) ⟨hr, by have := k1.size; show B ≤ q; omega⟩ hq hu
  have tp : TyAt w2 g 32 := ⟨_, h2.co.at'⟩
  have tv : ∀ k, vl.ownBlock = some k → TyAt w2 k 74 := fun k hk => own_ty h2.co.l hk
  have hS := hU.store (g := g) (j := 0) (u := vl')
  have hat : w3.heap[g]? = w2.heap[g]? := hU.block g tp.lt (by have := tp.lt; omega) fun e => (tv g e).ne tp (by decide) rfl
  have hat3 := hat.trans h2.co.at'
  refine ⟨⟨⟨by rw [heap_setCell_same _ _ _ _ _ _ hat3]; rfl, hg, by simpa using h.co.lp, h.co.lq, ?_, own_blocks h2.co.s fun k hk => hS.ty tp tv (own_ty h2.co.s hk) (by decide) (by decide), ?_⟩,
    hD2.otherTy (wd B) hS tp tv (by decide) (by decide) (by decide) (by decide), hR2.otherTy (wr B) hS tp tv (by decide) (by decide) (by decide) (by decide), h2.k.otherTy (wk B) hS tp tv (by decide) (by decide) (by decide) (by decide), h2.t.otherTy (wt B) hS tp tv (by decide) (by decide) (by decide) (by decide), h.x⟩,
    (k1.mono (by omega)).trans ((k2.mono (by have := k1.size; omega)).trans (hS.keptB (by have := k1.size; have := k2.size; omega) hg fun k hk => (h2.co.l.lt k hk).1)), by rw [cell_of_row _ _ _ _ _ _ hat3]; rfl, frozen_of_row _ _ _ _ _ hat3⟩
  · rw [List.map_append, List.map_append, List.map_singleton, List.map_singleton, pcells_app _ _ _ _ h.co.lp, List.length_append, List.length_singleton]
    exact own_blocks ho fun k hk => heap_setCell_other _ _ _ _ fun e => own_ne_at ho hat3 (by decide) (by rw [hk, e])
  · exact ⟨own_blocks h2.co.nm.n fun k hk => hS.ty tp tv (own_ty h2.co.nm.n hk) (by decide) (by decide), own_blocks h2.co.nm.m fun k hk => hS.ty tp tv (own_ty h2.co.nm.m hk) (by decide) (by decide), h2.co.nm.len, fun k hk => by
      obtain ⟨len, a1, a2, a3⟩ := h2.co.nm.each k hk
      exact ⟨len, a1, own_blocks a2 fun b hb => hS.ty tp tv (own_ty a2 hb) (by decide) (by decide), a3⟩⟩
theorem Sh.pushS (h : Sh B g w vl vs vn vm D R S T ls ms) {w1 w2 w3 : World} {p q : Nat} {v u vs' : Value} {d d2 : Snk} (k1 : Kept w.heap.size w w1) (hd : SAt B 135 w1 p v d) (hp : w.heap.size ≤ p) (hv : ∀ k, v.ownBlock = some k → w.heap.size ≤ k)
    (k2 : Kept w1.heap.size w1 w2) (hr : SAt B 104 w2 q u d2) (hq : w1.heap.size ≤ q) (hu : ∀ k, u.ownBlock = some k → w1.heap.size ≤ k)
    (ho : w3.ownsRow B 106 2 vs' ((S.map (·.p)).length + 1) (pcells (S.map (·.p)) (T.map (·.p)) ++ [ptr p, ptr q])) (hU : Upd w2.heap.size vs vs' w2 w3) :
    Sh B g (w3.setCell ⟨g, 1, none⟩ vs') vl vs' vn vm D R (S ++ [⟨p, v, d⟩]) (T ++ [⟨q, u, d2⟩]) ls ms ∧ Kept B w (w3.setCell ⟨g, 1, none⟩ vs') ∧ w3.cell? ⟨g, 1, none⟩ = some vs ∧ w3.frozen? ⟨g, 1, none⟩ = false := by
  have hg := h.co.gB
  have hgl : g < w.heap.size := (Array.getElem?_eq_some_iff.1 h.co.at').1
  have h2 := (h.kept k1).kept k2
  have hD2 : Fam (PS B 135) w2 (S ++ [⟨p, v, d⟩]) := (h.k.push (wk B) k1 (a := ⟨p, v, d⟩) ⟨hd, by show B ≤ p; omega⟩ hp hv).kept (wk B) k2
  have hR2 : Fam (PS B 104) w2 (T ++ [⟨q, u, d2⟩]) := (h.t.kept (wt B) k1).push (wt B) k2 (a := ⟨q, u, d2⟩) ⟨hr, by have := k1.size; show B ≤ q; omega⟩ hq hu
  have tp : TyAt w2 g 32 := ⟨_, h2.co.at'⟩
  have tv : ∀ k, vs.ownBlock = some k → TyAt w2 k 106 := fun k hk => own_ty h2.co.s hk
  have hS := hU.store (g := g) (j := 1) (u := vs')
  have hat : w3.heap[g]? = w2.heap[g]? := hU.block g tp.lt (by have := tp.lt; omega) fun e => (tv g e).ne tp (by decide) rfl
  have hat3 := hat.trans h2.co.at'
  refine ⟨⟨⟨by rw [heap_setCell_same _ _ _ _ _ _ hat3]; rfl, hg, h.co.lp, by simpa using h.co.lq, own_blocks h2.co.l fun k hk => hS.ty tp tv (own_ty h2.co.l hk) (by decide) (by decide), ?_, ?_⟩,
    h2.d.otherTy (wd B) hS tp tv (by decide) (by decide) (by decide) (by decide), h2.r.otherTy (wr B) hS tp tv (by decide) (by decide) (by decide) (by decide), hD2.otherTy (wk B) hS tp tv (by decide) (by decide) (by decide) (by decide), hR2.otherTy (wt B) hS tp tv (by decide) (by decide) (by decide) (by decide), fun e he f hf k a1 a2 => ?_⟩,
    (k1.mono (by omega)).trans ((k2.mono (by have := k1.size; omega)).trans (hS.keptB (by have := k1.size; have := k2.size; omega) hg fun k hk => (h2.co.s.lt k hk).1)), by rw [cell_of_row _ _ _ _ _ _ hat3]; rfl, frozen_of_row _ _ _ _ _ hat3⟩
  · rw [List.map_append, List.map_append, List.map_singleton, List.map_singleton, pcells_app _ _ _ _ h.co.lq, List.length_append, List.length_singleton]
    exact own_blocks ho fun k hk => heap_setCell_other _ _ _ _ fun e => own_ne_at ho hat3 (by decide) (by rw [hk, e])
  · exact ⟨own_blocks h2.co.nm.n fun k hk => hS.ty tp tv (own_ty h2.co.nm.n hk) (by decide) (by decide), own_blocks h2.co.nm.m fun k hk => hS.ty tp tv (own_ty h2.co.nm.m hk) (by decide) (by decide), h2.co.nm.len, fun k hk => by
      obtain ⟨len, a1, a2, a3⟩ := h2.co.nm.each k hk
      exact ⟨len, a1, own_blocks a2 fun b hb => hS.ty tp tv (own_ty a2 hb) (by decide) (by decide), a3⟩⟩
  · rcases List.mem_append.1 he with he | he <;> rcases List.mem_append.1 hf with hf | hf
    · exact h.x e he f hf k a1 a2
    · rw [List.mem_singleton.1 hf] at a2
      have := hu k a2
      have := ((wk B).row (h.k.each e he) a1).1.lt
      have := k1.size
      omega
    · rw [List.mem_singleton.1 he] at a1
      have := hv k a1
      have := ((wt B).row (h.t.each f hf) a2).1.lt
      omega
    · rw [List.mem_singleton.1 he] at a1
      rw [List.mem_singleton.1 hf] at a2
      have h3 := hu k a2
      have h4 := (hd.own.lt k a1).2
      omega
theorem Sh.keeps (h : Sh B g w vl vs vn vm D R S T ls ms) {e : Ending} {w' : World} (hk : kpEnd B g w vl vs vn vm ls.length e w') : e = .returned (.tuple #[]) ∧ ∃ vn' vm' ls' ms', Sh B g w' vl vs vn' vm' D R S T ls' ms' ∧ ls'.length = ls.length + 4 ∧ Kept B w w' := by
  obtain ⟨he, vn', vm', ls', ms', h1, h2, h3, h4, h5, h6, h7⟩ := hk
  have hgl : g < w.heap.size := (Array.getElem?_eq_some_iff.1 h.co.at').1
  have tg : TyAt w g 32 := ⟨_, h.co.at'⟩
  have hty : ∀ k t, TyAt w k t → t ≠ 32 → t ≠ 30 → t ≠ 9 → w'.heap[k]? = w.heap[k]? := fun k t ht a b c =>
    h7 k ht.lt (ht.ne tg a) (fun e => ht.ne (own_ty h.co.nm.n e : TyAt w k 30) b rfl) fun e => ht.ne (own_ty h.co.nm.m e : TyAt w k 9) c rfl
  refine ⟨he, vn', vm', ls', ms', ⟨⟨h1, h.co.gB, h.co.lp, h.co.lq, own_blocks h.co.l fun k hk => hty k 74 (own_ty h.co.l hk) (by decide) (by decide) (by decide), own_blocks h.co.s fun k hk => hty k 106 (own_ty h.co.s hk) (by decide) (by decide) (by decide), h2⟩, ?_, ?_, ?_, ?_, h.x⟩, h3, ⟨h4, h5, h6, fun k hk => ?_⟩⟩
  · exact h.d.frame (wd B) (fun k ht _ => hty k _ ht (by decide) (by decide) (by decide)) fun k ht _ => hty k _ ht (by decide) (by decide) (by decide)
  · exact h.r.frame (wr B) (fun k ht _ => hty k _ ht (by decide) (by decide) (by decide)) fun k ht _ => hty k _ ht (by decide) (by decide) (by decide)
  · exact h.k.frame (wk B) (fun k ht _ => hty k _ ht (by decide) (by decide) (by decide)) fun k ht _ => hty k _ ht (by decide) (by decide) (by decide)
  · exact h.t.frame (wt B) (fun k ht _ => hty k _ ht (by decide) (by decide) (by decide)) fun k ht _ => hty k _ ht (by decide) (by decide) (by decide)
  · have := h.co.gB
    exact h7 k (by omega) (by omega) (fun e => by have := (h.co.nm.n.lt k e).1; omega) fun e => by have := (h.co.nm.m.lt k e).1; omega
end
end Go.Proofs.YtfodibjlldmnpaaDoor
/-
  How great disks and sinks can become; the law's state.
-/
namespace Go.Proofs.YtfodibjlldmnpaaDoor
open Go.RowKit

def lim (N : Nat) : Nat := N * 1048576
theorem lim_succ (N : Nat) : lim (N + 1) = lim N + 1048576 := Nat.succ_mul _ _
theorem lim_mono {N M : Nat} (h : N ≤ M) : lim N ≤ lim M := Nat.mul_le_mul_right _ h
theorem lim_le {N : Nat} (h : N ≤ 1048576) : lim N ≤ 1099511627776 := Nat.le_trans (lim_mono h) (by decide)
structure GoodD (N : Nat) (d : Dsk) : Prop where
  files : d.files.length ≤ N
  each : ∀ f ∈ d.files, f.data.size ≤ lim N ∧ f.safe ≤ f.data.size
  left : -1 ≤ d.left ∧ d.left ≤ 9223372036854775807
structure GoodS (N : Nat) (k : Snk) : Prop where
  app : 0 ≤ k.app ∧ k.app ≤ N
  data : k.data.size ≤ lim N
  fails : k.fails.length ≤ 1048576
theorem GoodD.mono {N M : Nat} {d : Dsk} (h : GoodD N d) (hm : N ≤ M) : GoodD M d :=
  ⟨Nat.le_trans h.files hm, fun f hf => ⟨Nat.le_trans (h.each f hf).1 (lim_mono hm), (h.each f hf).2⟩, h.left⟩
theorem GoodS.mono {N M : Nat} {k : Snk} (h : GoodS N k) (hm : N ≤ M) : GoodS M k := ⟨⟨h.app.1, by have := h.app.2; omega⟩, Nat.le_trans h.data (lim_mono hm), h.fails⟩
theorem good0 (N : Nat) : GoodD N dsk0 := ⟨Nat.zero_le _, by simp [dsk0], by decide⟩
theorem goods0 (N : Nat) : GoodS N snk0 := ⟨⟨by decide, by simp [snk0]⟩, Nat.zero_le _, by simp [snk0]⟩
theorem GoodD.big {N : Nat} {d : Dsk} (h : GoodD N d) (hN : N ≤ 1048576) : ∀ f ∈ d.files, f.data.size ≤ 1099511627776 := fun f hf => Nat.le_trans (h.each f hf).1 (lim_le hN)
theorem GoodD.stepd {N : Nat} {d : Dsk} (h : GoodD N d) : GoodD N d.stepd := by
  refine ⟨by rw [stepd_files]; exact h.files, by rw [stepd_files]; exact h.each, ?_⟩
  have := h.left
  unfold Dsk.stepd
  split
  · exact this
  · simp only; split <;> omega
theorem GoodD.withFiles {N : Nat} {d : Dsk} {l : List Fl} (h : GoodD N d) (h1 : l.length ≤ N) (h2 : ∀ f ∈ l, f.data.size ≤ lim N ∧ f.safe ≤ f.data.size) : GoodD N { d with files := l } := ⟨h1, h2, h.left⟩
theorem getD_mem {l : List Fl} {i : Nat} (h : i < l.length) : l.getD i fl0 ∈ l := by rw [List.getD_eq_getElem?_getD, List.getElem?_eq_getElem h]; exact List.getElem_mem h
theorem good_append {N : Nat} {d : Dsk} (h : GoodD N d) {n s : ByteArray} (hs : s.size ≤ 1048576) : GoodD (N + 1) (d.append n s) := by
  unfold Dsk.append
  split
  · exact h.stepd.mono (by omega)
  · refine (h.stepd.mono (M := N + 1) (by omega)).withFiles ?_ ?_
    · unfold appF
      split
      · simp; exact h.files
      · rw [List.length_set]; have := h.files; omega
    · intro f hf
      unfold appF at hf
      rcases findF_cases n d.files 0 with ⟨hn, _⟩ | ⟨i, hi, hn, _⟩
      · rw [if_pos (by rw [hn]; decide)] at hf
        rcases List.mem_append.1 hf with hf | hf
        · have := h.each f hf; rw [lim_succ]; omega
        · rw [List.mem_singleton.1 hf, lim_succ]; simp only; omega
      · rw [if_neg (by omega)] at hf
        rcases List.mem_or_eq_of_mem_set hf with hf | hf
        · have := h.each f hf; rw [lim_succ]; omega
        · rw [hf, hn, Nat.zero_add, Int.toNat_natCast, lim_succ]
          have := h.each _ (getD_mem hi)
          simp only [ByteArray.size_append]
          omega
theorem good_sync {N : Nat} {d : Dsk} (h : GoodD N d) {n : ByteArray} : GoodD (N + 1) (d.sync n) := by
  unfold Dsk.sync
  split
  · exact h.stepd.mono (by omega)
  · refine (h.stepd.withFiles (l := syncF n d.files) ?_ ?_).mono (by omega)
    · unfold syncF
      split
      · exact h.files
      · rw [List.length_set]; exact h.files
    · intro f hf
      unfold syncF at hf
      split at hf
      · exact h.each f hf
      · rcases findF_cases n d.files 0 with ⟨hn, _⟩ | ⟨i, hi, hn, _⟩
        · exfalso; rename_i hx _; rw [hn] at hx; exact hx (by decide)
        · rcases List.mem_or_eq_of_mem_set hf with hf | hf
          · exact h.each f hf
          · rw [hf, hn, Nat.zero_add, Int.toNat_natCast]
            have := h.each _ (getD_mem hi)
            simp only
            omega
theorem mem_woF {n : ByteArray} {l : List Fl} {f : Fl} (h : f ∈ woF n l) : f ∈ l := (List.mem_filter.1 h).1
theorem good_remove {N : Nat} {d : Dsk} (h : GoodD N d) {n : ByteArray} : GoodD (N + 1) (d.remove n) := by
  unfold Dsk.remove
  split
  · exact h.stepd.mono (by omega)
  · exact (h.stepd.withFiles (Nat.le_trans (woF_len n d.files) h.files) fun f hf => h.each f (mem_woF hf)).mono (by omega)
theorem good_rename {N : Nat} {d : Dsk} (h : GoodD N d) {a b : ByteArray} : GoodD (N + 1) (d.rename a b) := by
  unfold Dsk.rename
  split
  · exact h.stepd.mono (by omega)
  · refine (h.stepd.mono (M := N + 1) (by omega)).withFiles ?_ ?_
    · unfold renF
      split
      · have := h.files; omega
      · rw [List.length_append, List.length_singleton]
        have := woF_len b (woF a d.files)
        have := woF_len a d.files
        have := h.files
        omega
    · intro f hf
      unfold renF at hf
      split at hf
      · have := h.each f hf; rw [lim_succ]; omega
      · rename_i hx
        rcases List.mem_append.1 hf with hf | hf
        · have := h.each f (mem_woF (mem_woF hf)); rw [lim_succ]; omega
        · rcases findF_cases a d.files 0 with ⟨hn, _⟩ | ⟨i, hi, hn, _⟩
          · exact absurd (.inl (by rw [hn]; decide)) hx
          · rw [List.mem_singleton.1 hf, hn, Nat.zero_add, Int.toNat_natCast, lim_succ]
            have := h.each _ (getD_mem hi)
            simp only
            omega
theorem good_stop {N : Nat} {d : Dsk} (h : GoodD N d) {n : Int} (hn : n ≤ 9223372036854775807) : GoodD (N + 1) (d.stop n) := by
  unfold Dsk.stop
  split
  · exact h.mono (by omega)
  · exact (GoodD.mk (d := { d with left := max n (-1) }) h.files h.each (by show -1 ≤ max n (-1) ∧ max n (-1) ≤ 9223372036854775807; omega)).mono (M := N + 1) (by omega)
theorem good_crash {N : Nat} {d : Dsk} (h : GoodD N d) {keep : Int} : GoodD (N + 1) (d.crash keep) := by
  refine (GoodD.mk (by rw [Dsk.crash, List.length_map]; exact h.files) (fun f hf => ?_) (by show (-1 : Int) ≤ -1 ∧ (-1 : Int) ≤ 9223372036854775807; decide)).mono (by omega)
  obtain ⟨e, he, rfl⟩ := List.mem_map.1 hf
  have := h.each e he
  simp only [crF]
  rw [ByteArray.size_extract]
  omega
theorem good_give {N : Nat} {k : Snk} (h : GoodS N k) {s : ByteArray} (hs : s.size ≤ 1048576) : GoodS (N + 1) (k.append s) := by
  unfold Snk.append
  split
  · exact ⟨by have := h.app; show 0 ≤ k.app + 1 ∧ k.app + 1 ≤ _; omega, by show (k.data ++ s).size ≤ _; rw [ByteArray.size_append, lim_succ]; have := h.data; omega, h.fails⟩
  · exact ⟨by have := h.app; show 0 ≤ k.app + 1 ∧ k.app + 1 ≤ _; omega, by show k.data.size ≤ _; have := h.data; rw [lim_succ]; omega, h.fails⟩
theorem good_fail {N : Nat} {k : Snk} (h : GoodS N k) {L : List Int} (hL : L.length ≤ 1048576) : GoodS (N + 1) (k.fail L) :=
  ⟨by show (0 : Int) ≤ 0 ∧ (0 : Int) ≤ _; omega, by show k.data.size ≤ _; have := h.data; rw [lim_succ]; omega, hL⟩
/-- The law's state behind N steps. -/
structure Sw (B g N : Nat) (w : World) (vl vs vn vm : Value) (D R : List (Loc Dsk)) (S T : List (Loc Snk)) (ls : List Value) (ms : List ByteArray) : Prop where
  sh : Sh B g w vl vs vn vm D R S T ls ms
  eqD : D.map (·.x) = R.map (·.x)
  eqS : S.map (·.x) = T.map (·.x)
  nD : D.length ≤ N
  nS : S.length ≤ N
  nL : ls.length ≤ 4 * N
  gD : ∀ e ∈ D, GoodD N e.x
  gS : ∀ e ∈ S, GoodS N e.x
def StE (B g N : Nat) (w : World) : Prop := ∃ vl vs vn vm D R S T ls ms, Sw B g N w vl vs vn vm D R S T ls ms
section
variable {B g N : Nat} {w w1 w2 : World} {vl vs vn vm : Value} {D R : List (Loc Dsk)} {S T : List (Loc Snk)} {ls : List Value} {ms : List ByteArray}
theorem Sw.lenD (h : Sw B g N w vl vs vn vm D R S T ls ms) : R.length = D.length := by have := congrArg List.length h.eqD; simpa using this.symm
theorem Sw.lenS (h : Sw B g N w vl vs vn vm D R S T ls ms) : T.length = S.length := by have := congrArg List.length h.eqS; simpa using this.symm
theorem Sw.xD (h : Sw B g N w vl vs vn vm D R S T ls ms) {i : Nat} (hi : i < D.length) (hj : i < R.length) : R[i].x = D[i].x := by
  have := congrArg (fun l => l[i]?) h.eqD
  simp only [List.getElem?_map, List.getElem?_eq_getElem hi, List.getElem?_eq_getElem hj, Option.map_some, Option.some.injEq] at this
  exact this.symm
theorem Sw.xS (h : Sw B g N w vl vs vn vm D R S T ls ms) {i : Nat} (hi : i < S.length) (hj : i < T.length) : T[i].x = S[i].x := by
  have := congrArg (fun l => l[i]?) h.eqS
  simp only [List.getElem?_map, List.getElem?_eq_getElem hi, List.getElem?_eq_getElem hj, Option.map_some, Option.some.injEq] at this
  exact this.symm
theorem Sw.kept (h : Sw B g N w vl vs vn vm D R S T ls ms) (hk : Kept w.heap.size w w1) : Sw B g N w1 vl vs vn vm D R S T ls ms := ⟨h.sh.kept hk, h.eqD, h.eqS, h.nD, h.nS, h.nL, h.gD, h.gS⟩
theorem Sw.mono {M : Nat} (h : Sw B g N w vl vs vn vm D R S T ls ms) (hm : N ≤ M) : Sw B g M w vl vs vn vm D R S T ls ms := ⟨h.sh, h.eqD, h.eqS, Nat.le_trans h.nD hm, Nat.le_trans h.nS hm, by have := h.nL; omega, fun e he => (h.gD e he).mono hm, fun e he => (h.gS e he).mono hm⟩
/-- The code's disk and the reference's go on alike. -/
theorem Sw.twoD (h : Sw B g N w vl vs vn vm D R S T ls ms) {i : Nat} (hi : i < D.length) (hj : i < R.length) {v1 v2 : Value} {d' : Dsk} (hg : GoodD (N + 1) d') (h1 : DAt B 96 111 w1 D[i].p v1 d' ∧ Upd D[i].p D[i].v v1 w w1) (h2 : DAt B 99 113 w2 R[i].p v2 d' ∧ Upd R[i].p R[i].v v2 w1 w2) : StE B g (N + 1) w2 ∧ Kept B w w2 := by
  have a := h.sh.updD hi h1.1 h1.2
  have b := a.1.updR hj h2.1 h2.2
  refine ⟨⟨_, _, _, _, _, _, _, _, _, _, b.1, ?_, h.eqS, by rw [List.length_set]; have := h.nD; omega, by have := h.nS; omega, by have := h.nL; omega, fun e he => ?_, fun e he => (h.gS e he).mono (by omega)⟩, a.2.trans b.2⟩
  · rw [List.map_set, List.map_set, h.eqD]
  · rcases mem_set he with rfl | ⟨j, hj, _, rfl⟩
    · exact hg
    · exact (h.gD _ (List.getElem_mem hj)).mono (by omega)
theorem Sw.twoS (h : Sw B g N w vl vs vn vm D R S T ls ms) {i : Nat} (hi : i < S.length) (hj : i < T.length) {v1 v2 : Value} {d' : Snk} (hg : GoodS (N + 1) d') (h1 : SAt B 135 w1 S[i].p v1 d' ∧ Upd S[i].p S[i].v v1 w w1) (h2 : SAt B 104 w2 T[i].p v2 d' ∧ Upd T[i].p T[i].v v2 w1 w2) : StE B g (N + 1) w2 ∧ Kept B w w2 := by
  have a := h.sh.updS hi h1.1 h1.2
  have b := a.1.updT hj h2.1 h2.2
  refine ⟨⟨_, _, _, _, _, _, _, _, _, _, b.1, h.eqD, ?_, by have := h.nD; omega, by rw [List.length_set]; have := h.nS; omega, by have := h.nL; omega, fun e he => (h.gD e he).mono (by omega), fun e he => ?_⟩, a.2.trans b.2⟩
  · rw [List.map_set, List.map_set, h.eqS]
  · rcases mem_set he with rfl | ⟨j, hj, _, rfl⟩
    · exact hg
    · exact (h.gS _ (List.getElem_mem hj)).mono (by omega)
end
end Go.Proofs.YtfodibjlldmnpaaDoor
