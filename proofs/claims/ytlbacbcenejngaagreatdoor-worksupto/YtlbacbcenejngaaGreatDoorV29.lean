/-
  Mp
-/
import Derived.Test.YtlbacbcenejngaaGreatDoorV27
import Derived.MapKept
namespace Go.Proofs.YtlbacbcenejngaaGreatDoor
open Go.RowKit Go.MapKept
variable {K : Type} {α : Type}
section
variable [DecidableEq K]
def lk (k : K) : List (K × α) → Option α
  | [] => none
  | p :: l => if p.1 = k then some p.2 else lk k l
def putM (k : K) (v : α) : List (K × α) → List (K × α)
  | [] => [(k, v)]
  | p :: l => if p.1 = k then (k, v) :: l else p :: putM k v l
def delM (k : K) : List (K × α) → List (K × α)
  | [] => []
  | p :: l => if p.1 = k then l else p :: delM k l
theorem lk_map {β : Type} (f : α → β) (k : K) : ∀ l : List (K × α), lk k (l.map fun p => (p.1, f p.2)) = (lk k l).map f
  | [] => rfl
  | p :: l => by
    rw [List.map_cons, lk, lk]
    split
    · rfl
    · exact lk_map f k l
theorem putM_map {β : Type} (f : α → β) (k : K) (v : α) : ∀ l : List (K × α), (putM k v l).map (fun p => (p.1, f p.2)) = putM k (f v) (l.map fun p => (p.1, f p.2))
  | [] => rfl
  | p :: l => by
    rw [List.map_cons, putM, putM]
    split
    · rfl
    · rw [List.map_cons, putM_map f k v l]
theorem delM_map {β : Type} (f : α → β) (k : K) : ∀ l : List (K × α), (delM k l).map (fun p => (p.1, f p.2)) = delM k (l.map fun p => (p.1, f p.2))
  | [] => rfl
  | p :: l => by
    rw [List.map_cons, delM, delM]
    split
    · rfl
    · rw [List.map_cons, delM_map f k l]
theorem lk_none {k : K} : ∀ {l : List (K × α)}, (∀ p ∈ l, p.1 ≠ k) → lk k l = none
  | [], _ => rfl
  | p :: l, h => by rw [lk, if_neg (h p (.head _)), lk_none fun q hq => h q (.tail _ hq)]
theorem lk_at {k : K} : ∀ {l : List (K × α)} {j : Nat} {p : K × α}, l[j]? = some p → p.1 = k → (∀ i, i < j → ∀ q, l[i]? = some q → q.1 ≠ k) → lk k l = some p.2
  | [], j, p, h, _, _ => by simp at h
  | a :: l, 0, p, h, hk, _ => by simp at h; subst h; rw [lk, if_pos hk]
  | a :: l, j + 1, p, h, hk, hb => by
    rw [lk, if_neg (hb 0 (by omega) a rfl)]
    exact lk_at (by simpa using h) hk fun i hi q hq => hb (i + 1) (by omega) q (by simpa using hq)
theorem putM_none {k : K} {v : α} : ∀ {l : List (K × α)}, (∀ p ∈ l, p.1 ≠ k) → putM k v l = l ++ [(k, v)]
  | [], _ => rfl
  | p :: l, h => by rw [putM, if_neg (h p (.head _)), putM_none fun q hq => h q (.tail _ hq)]; rfl
theorem putM_at {k : K} {v : α} : ∀ {l : List (K × α)} {j : Nat} {p : K × α}, l[j]? = some p → p.1 = k → (∀ i, i < j → ∀ q, l[i]? = some q → q.1 ≠ k) → putM k v l = l.set j (k, v)
  | [], j, p, h, _, _ => by simp at h
  | a :: l, 0, p, h, hk, _ => by simp at h; subst h; rw [putM, if_pos hk]; rfl
  | a :: l, j + 1, p, h, hk, hb => by
    rw [putM, if_neg (hb 0 (by omega) a rfl), List.set_cons_succ]
    rw [putM_at (by simpa using h) hk fun i hi q hq => hb (i + 1) (by omega) q (by simpa using hq)]
theorem delM_none {k : K} : ∀ {l : List (K × α)}, (∀ p ∈ l, p.1 ≠ k) → delM k l = l
  | [], _ => rfl
  | p :: l, h => by rw [delM, if_neg (h p (.head _)), delM_none fun q hq => h q (.tail _ hq)]
theorem delM_at {k : K} : ∀ {l : List (K × α)} {j : Nat} {p : K × α}, l[j]? = some p → p.1 = k → (∀ i, i < j → ∀ q, l[i]? = some q → q.1 ≠ k) → delM k l = l.eraseIdx j
  | [], j, p, h, _, _ => by simp at h
  | a :: l, 0, p, h, hk, _ => by simp at h; subst h; rw [delM, if_pos hk]; rfl
  | a :: l, j + 1, p, h, hk, hb => by
    rw [delM, if_neg (hb 0 (by omega) a rfl), List.eraseIdx_cons_succ]
    rw [delM_at (by simpa using h) hk fun i hi q hq => hb (i + 1) (by omega) q (by simpa using hq)]
end
/-- What is asked of a kind of keys. -/
structure Kk (P : Program) (kt : TypeId) (d : TypeDesc) (key : K → Value) : Prop where
  und : P.underlying kt = some d
  is : ∀ k, IsKey d (key k)
  inj : ∀ a b, key a = key b → a = b
section
variable [DecidableEq K]
/-- A map in memory. -/
def MapAt (d : TypeDesc) (key : K → Value) (w : World) (b : Nat) (M : List (K × Value)) : Prop :=
  ∃ es clock, w.heap[b]? = some (.map es clock) ∧ Stamped es clock ∧ (∀ x ∈ es.toList, IsKey d x.key) ∧ es.toList.map (fun x => (x.key, x.val)) = M.map (fun p => (key p.1, p.2))
end
theorem MapAt.lt {d : TypeDesc} {key : K → Value} {w : World} {b : Nat} {M : List (K × Value)} (h : MapAt d key w b M) : b < w.heap.size := by obtain ⟨_, _, h, _⟩ := h; exact (Array.getElem?_eq_some_iff.1 h).1
theorem MapAt.stay {d : TypeDesc} {key : K → Value} {w w' : World} {b : Nat} {M : List (K × Value)} (h : MapAt d key w b M) (hb : w'.heap[b]? = w.heap[b]?) : MapAt d key w' b M := by obtain ⟨es, c, h, r⟩ := h; exact ⟨es, c, hb.trans h, r⟩
theorem MapAt.new (d : TypeDesc) (key : K → Value) (w : World) : MapAt d key (w.alloc (.map #[] 0)) w.heap.size [] := ⟨#[], 0, heap_alloc_new _ _, stamped_empty 0, by simp, rfl⟩
theorem entry_at {key : K → Value} {es : Array MapEntry} {M : List (K × Value)} (h : es.toList.map (fun x => (x.key, x.val)) = M.map (fun p => (key p.1, p.2))) {j : Nat} {e : MapEntry} (he : es.toList[j]? = some e) : ∃ p, M[j]? = some p ∧ e.key = key p.1 ∧ e.val = p.2 := by
  have h1 : (es.toList.map (fun x => (x.key, x.val)))[j]? = some (e.key, e.val) := by rw [List.getElem?_map, he]; rfl
  rw [h, List.getElem?_map] at h1
  cases hm : M[j]? with
  | none => rw [hm] at h1; cases h1
  | some p =>
    rw [hm] at h1
    simp only [Option.map_some, Option.some.injEq, Prod.mk.injEq] at h1
    exact ⟨p, rfl, h1.1.symm, h1.2.symm⟩
theorem at_entry {key : K → Value} {es : Array MapEntry} {M : List (K × Value)} (h : es.toList.map (fun x => (x.key, x.val)) = M.map (fun p => (key p.1, p.2))) {j : Nat} {p : K × Value} (he : M[j]? = some p) : ∃ e, es.toList[j]? = some e ∧ e.key = key p.1 ∧ e.val = p.2 := by
  have h1 : (M.map (fun p => (key p.1, p.2)))[j]? = some (key p.1, p.2) := by rw [List.getElem?_map, he]; rfl
  rw [← h, List.getElem?_map] at h1
  cases hm : es.toList[j]? with
  | none => rw [hm] at h1; cases h1
  | some p =>
    rw [hm] at h1
    simp only [Option.map_some, Option.some.injEq, Prod.mk.injEq] at h1
    exact ⟨p, rfl, h1.1, h1.2⟩
/-- What finding a key comes to. -/
theorem find_spec {P : Program} {kt : TypeId} {d : TypeDesc} {key : K → Value} (hk : Kk P kt d key) {es : Array MapEntry} {clock : Nat} {M : List (K × Value)} (hs : Stamped es clock) (hi : ∀ x ∈ es.toList, IsKey d x.key) (h : es.toList.map (fun x => (x.key, x.val)) = M.map (fun p => (key p.1, p.2))) (k : K) (w : World) :
    ((Instr.findKey kt (key k) es.toList).run P w = .ok none w ∧ (∀ x ∈ es.toList, x.key ≠ key k) ∧ ∀ p ∈ M, p.1 ≠ k) ∨
    ∃ j e p, (Instr.findKey kt (key k) es.toList).run P w = .ok (some (j, p.2)) w ∧ es.toList[j]? = some e ∧ e.key = key k ∧ M[j]? = some p ∧ p.1 = k ∧ ∀ i, i < j → ∀ q, M[i]? = some q → q.1 ≠ k := by
  rcases findNow_spec (hk.is k) es.toList 0 hi with ⟨h1, h2⟩ | ⟨j, e, h1, h2, h3⟩
  · refine .inl ⟨run_findKey hk.und h1, h2, fun p hp e => ?_⟩
    obtain ⟨j, hj⟩ := List.getElem?_of_mem hp
    obtain ⟨e', he1, he2, _⟩ := at_entry h hj
    exact h2 e' (List.mem_of_getElem? he1) (by rw [he2, e])
  · obtain ⟨p, hp1, hp2, hp3⟩ := entry_at h h2
    have hpk : p.1 = k := hk.inj _ _ (hp2.symm.trans h3)
    refine .inr ⟨j, e, p, ?_, h2, h3, hp1, hpk, fun i hij q hq eq => ?_⟩
    · rw [← hp3]
      have := run_findKey (w := w) hk.und h1
      simpa using this
    · obtain ⟨e', he1, he2, _⟩ := at_entry h hq
      have hnd := hs.2.2
      have hlt : j < es.toList.length := (List.getElem?_eq_some_iff.1 h2).1
      have hil : i < es.toList.length := (List.getElem?_eq_some_iff.1 he1).1
      have h5 : (es.toList.map (·.key))[i]? = (es.toList.map (·.key))[j]? := by rw [List.getElem?_map, List.getElem?_map, he1, h2, Option.map_some, Option.map_some, he2, eq, h3]
      have := (List.getElem?_inj (l := es.toList.map (·.key)) (i := i) (j := j) (by simpa using hil) hnd).1 h5
      omega
section
variable [DecidableEq K]
theorem run_look {P : Program} {t kt et : TypeId} {d : TypeDesc} {key : K → Value} (hk : Kk P kt d key) (ht : P.underlying t = some (.map kt et)) {w : World} {b : Nat} {M : List (K × Value)} (h : MapAt d key w b M) (k : K) {v : Value} (hv : lk k M = some v) (c : Bool) :
    (Instr.lookup t (.map (some b)) (key k) c).run P w = .ok (if c then .tuple #[v, .bool true] else v) w := by
  obtain ⟨es, clock, hb, hs, hi, he⟩ := h
  rcases find_spec hk hs hi he k w with ⟨_, _, h3⟩ | ⟨j, e, p, h1, _, _, h4, h5, h6⟩
  · rw [lk_none h3] at hv; cases hv
  · rw [lk_at h4 h5 h6] at hv
    cases hv
    cases c <;> simp [Instr.lookup, run_underlying ht, MapKept.run_getObj_map hb, run_checkKey hk.und (hk.is k), h1, Result.andThen]
theorem run_look0 {P : Program} {t kt et : TypeId} {d : TypeDesc} {key : K → Value} (hk : Kk P kt d key) (ht : P.underlying t = some (.map kt et)) {w : World} {b : Nat} {M : List (K × Value)} (h : MapAt d key w b M) (k : K) {z : Value} (hz : (zeroValue et).run P w = .ok z w) (hv : lk k M = none) (c : Bool) :
    (Instr.lookup t (.map (some b)) (key k) c).run P w = .ok (if c then .tuple #[z, .bool false] else z) w := by
  obtain ⟨es, clock, hb, hs, hi, he⟩ := h
  rcases find_spec hk hs hi he k w with ⟨h1, _, _⟩ | ⟨j, e, p, _, _, _, h4, h5, h6⟩
  · cases c <;> simp [Instr.lookup, run_underlying ht, MapKept.run_getObj_map hb, run_checkKey hk.und (hk.is k), h1, hz, Result.andThen]
  · rw [lk_at h4 h5 h6] at hv; cases hv
theorem run_upd {P : Program} {t kt et : TypeId} {d : TypeDesc} {key : K → Value} (hk : Kk P kt d key) (ht : P.underlying t = some (.map kt et)) {w : World} {b : Nat} {M : List (K × Value)} (h : MapAt d key w b M) (k : K) (v : Value) :
    ∃ w', (Instr.mapUpdate t (.map (some b)) (key k) v).run P w = .ok () w' ∧ MapAt d key w' b (putM k v M) ∧ Chg (fun i => i = b) w w' ∧ w'.heap.size = w.heap.size := by
  obtain ⟨es, clock, hb, hs, hi, he⟩ := h
  have hfr : ∀ o, Chg (fun i => i = b) w { w with heap := w.heap.setIfInBounds b o } := fun o => ⟨rfl, rfl, by simp, fun i _ hn => (heap_set hb).2 i hn⟩
  rcases find_spec hk hs hi he k w with ⟨h1, h2, h3⟩ | ⟨j, e, p, h1, h2, h3, h4, h5, h6⟩
  · refine ⟨{ w with heap := w.heap.setIfInBounds b (.map (es.push { key := key k, val := v, born := clock }) (clock + 1)) }, ?_, ⟨_, _, (heap_set hb).1, stamped_push hs h2, ?_, ?_⟩, hfr _, by simp⟩
    · simp [Instr.mapUpdate, run_underlying ht, MapKept.run_getObj_map hb, run_checkKey hk.und (hk.is k), h1, MapKept.run_setObj_map _ hb, Result.andThen]
    · intro x hx
      simp only [Array.toList_push, List.mem_append, List.mem_singleton] at hx
      rcases hx with hx | rfl
      · exact hi x hx
      · exact hk.is k
    · rw [putM_none h3, Array.toList_push, List.map_append, List.map_append, he]; rfl
  · have hj : es[j]? = some e := by simpa using h2
    have hkey : ∀ e', es[j]? = some e' → ({ e' with key := key k, val := v } : MapEntry).key = e'.key := fun e' he' => by rw [hj] at he'; cases he'; exact h3.symm
    refine ⟨{ w with heap := w.heap.setIfInBounds b (.map (es.modify j fun e => { e with key := key k, val := v }) clock) }, ?_, ⟨_, _, (heap_set hb).1, stamped_modify hs _ _ (fun _ _ => rfl) (fun e' _ he' => hkey e' he'), isKey_modify hi _ _ hkey, ?_⟩, hfr _, by simp⟩
    · simp [Instr.mapUpdate, run_underlying ht, MapKept.run_getObj_map hb, run_checkKey hk.und (hk.is k), h1, hj, h3, run_keyThatStays (hk.is k), MapKept.run_setObj_map _ hb, Result.andThen]
    · rw [putM_at h4 h5 h6, List.map_set, ← he]
      apply List.ext_getElem?
      intro i
      rw [List.getElem?_map, Array.getElem?_toList, Array.getElem?_modify, List.getElem?_set]
      by_cases hij : j = i
      · subst hij
        have hlt : j < es.size := (Array.getElem?_eq_some_iff.1 hj).1
        simp [hlt]
      · simp [hij]
theorem run_del {P : Program} {t kt et ty : TypeId} {d : TypeDesc} {key : K → Value} (hk : Kk P kt d key) (ht : P.underlying t = some (.map kt et)) {w : World} {b : Nat} {M : List (K × Value)} (h : MapAt d key w b M) (k : K) :
    ∃ w', (Builtin.delete_ #[t, kt] ty #[.map (some b), key k]).run P w = .ok (.tuple #[]) w' ∧ MapAt d key w' b (delM k M) ∧ Chg (fun i => i = b) w w' ∧ w'.heap.size = w.heap.size := by
  obtain ⟨es, clock, hb, hs, hi, he⟩ := h
  have hfr : ∀ o, Chg (fun i => i = b) w { w with heap := w.heap.setIfInBounds b o } := fun o => ⟨rfl, rfl, by simp, fun i _ hn => (heap_set hb).2 i hn⟩
  rcases find_spec hk hs hi he k w with ⟨h1, h2, h3⟩ | ⟨j, e, p, h1, h2, h3, h4, h5, h6⟩
  · refine ⟨{ w with heap := w.heap.setIfInBounds b (.map es clock) }, ?_, ⟨_, _, (heap_set hb).1, hs, hi, ?_⟩, hfr _, by simp⟩
    · simp [Builtin.delete_, run_underlying ht, MapKept.run_getObj_map hb, run_checkKey hk.und (hk.is k), h1, MapKept.run_setObj_map _ hb, Result.andThen]
    · rw [delM_none h3, he]
  · have hlt : j < es.size := by have := (List.getElem?_eq_some_iff.1 h2).1; simpa using this
    have htl : (es.eraseIdxIfInBounds j).toList = es.toList.eraseIdx j := by simp [Array.eraseIdxIfInBounds, hlt]
    refine ⟨{ w with heap := w.heap.setIfInBounds b (.map (es.eraseIdxIfInBounds j) clock) }, ?_, ⟨_, _, (heap_set hb).1, stamped_erase hs _, ?_, ?_⟩, hfr _, by simp⟩
    · simp [Builtin.delete_, run_underlying ht, MapKept.run_getObj_map hb, run_checkKey hk.und (hk.is k), h1, MapKept.run_setObj_map _ hb, Result.andThen]
    · intro x hx
      rw [htl] at hx
      exact hi x ((List.eraseIdx_sublist _ _).subset hx)
    · rw [htl, delM_at h4 h5 h6]
      apply List.ext_getElem?
      intro i
      have hg := fun i : Nat => congrArg (fun l => l[i]?) he
      simp only [List.getElem?_map] at hg
      rw [List.getElem?_map, List.getElem?_map, List.getElem?_eraseIdx, List.getElem?_eraseIdx]
      split
      · exact hg i
      · exact hg (i + 1)
end
theorem run_mlen {P : Program} {t kt et ty : TypeId} {d : TypeDesc} {key : K → Value} (ht : P.underlying t = some (.map kt et)) {w : World} {b : Nat} {M : List (K × Value)} (h : MapAt d key w b M) : (Builtin.len_ #[t] ty #[.map (some b)]).run P w = .ok (.int .i64 (M.length : Int)) w := by
  obtain ⟨es, clock, hb, hs, hi, he⟩ := h
  have hl : es.size = M.length := by have := congrArg List.length he; simpa using this
  simp [Builtin.len_, run_underlying ht, MapKept.run_getObj_map hb, Result.andThen, hl, goInt]
section
variable [DecidableEq K]
/-- A store into a map, as an operation. -/
theorem wp_upd {P : Program} {o : Oper} {a : Act} {w : World} {Kn : Act → World → Prop} {Q : Exit → Act → World → Prop} {t kt et : TypeId} {d : TypeDesc} {key : K → Value} (hk : Kk P kt d key) (ht : P.underlying t = some (.map kt et)) (m x y : Operand)
    (ho : o.op = .mapUpdate t m x y ∨ o.op = .insert t m x y) {b : Nat} {M : List (K × Value)} (h : MapAt d key w b M) (k : K) (v : Value) (hm : a.eval m = .map (some b)) (hx : a.eval x = key k) (hy : a.eval y = v)
    (hn : ∀ w', MapAt d key w' b (putM k v M) → Chg (fun i => i = b) w w' → w'.heap.size = w.heap.size → Kn (a.put o.dst undef) w') : o.wp P a w Kn Q := by
  obtain ⟨w', hr, h1, h2, h3⟩ := run_upd hk ht h k v
  have := hn w' h1 h2 h3
  unfold Oper.wp
  rcases ho with ho | ho <;> simp [execOp, ho, hm, hx, hy, hr, Result.andThen, Oper.upon] <;> exact this
theorem wpList_upd {P : Program} {ops : Array Oper} {rest : List Oper} {o : Oper} {a : Act} {w : World} {Q : Exit → Act → World → Prop} (hgd : o.guard = none) {t kt et : TypeId} {d : TypeDesc} {key : K → Value} (hk : Kk P kt d key) (ht : P.underlying t = some (.map kt et)) (m x y : Operand)
    (ho : o.op = .mapUpdate t m x y ∨ o.op = .insert t m x y) {b : Nat} {M : List (K × Value)} (h : MapAt d key w b M) (k : K) (v : Value) (hm : a.eval m = .map (some b)) (hx : a.eval x = key k) (hy : a.eval y = v)
    (hn : ∀ w', MapAt d key w' b (putM k v M) → Chg (fun i => i = b) w w' → w'.heap.size = w.heap.size → wpList P ops Q rest (a.put o.dst undef) w') : wpList P ops Q (o :: rest) a w :=
  wpList_plain hgd fun _ hK => wp_upd hk ht m x y ho h k v hm hx hy fun w' h1 h2 h3 => hK _ _ (hn w' h1 h2 h3)
theorem kkStr : Kk Tryz.prog 9 .string (fun s : ByteArray => .string s) := ⟨Tryz.underlying9, fun k => by simp [IsKey], fun a b h => by cases h; rfl⟩
theorem kkByte : Kk Tryz.prog 5 (.int .u8) (fun n : Nat => .int .u8 (n : Int)) := ⟨Tryz.underlying5, fun k => by simp [IsKey], fun a b h => by cases h; rfl⟩
end
end Go.Proofs.YtlbacbcenejngaaGreatDoor
