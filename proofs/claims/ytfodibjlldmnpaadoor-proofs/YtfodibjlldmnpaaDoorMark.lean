/-
  Rows of one digest over and over; an append to such a row leaves every other such row as it was.
-/
import Derived.Test.YtfodibjlldmnpaaDoorSame
namespace Go.Proofs.YtfodibjlldmnpaaDoor
open Go.RowKit

/-- The cells of so many times one digest. -/
abbrev reps (m : List UInt8) (k : Nat) : List Value := flat (List.replicate k m)
theorem reps_add (m : List UInt8) (a b : Nat) : reps m a ++ reps m b = reps m (a + b) := by
  rw [reps, reps, reps, ← List.replicate_append_replicate, flat, flat, flat, List.flatMap_append]
theorem reps_length {m : List UInt8} (h : m.length = 32) (k : Nat) : (reps m k).length = k * 32 := by
  rw [flat_length (by intro d hd; rw [List.eq_of_mem_replicate hd]; exact h), List.length_replicate]
theorem reps_get {m : List UInt8} (h : m.length = 32) : ∀ k j, j < k * 32 → (reps m k)[j]? = (blist m)[j % 32]? := by
  intro k
  induction k with
  | zero => intro j hj; omega
  | succ k ih =>
    intro j hj
    rw [reps, List.replicate_succ, flat, List.flatMap_cons]
    by_cases hj' : j < 32
    · rw [List.getElem?_append_left (by simpa [h] using hj'), Nat.mod_eq_of_lt hj']
    · rw [List.getElem?_append_right (by simp [h]; omega)]
      have := ih (j - 32) (by omega)
      rw [reps, flat] at this
      simp only [List.length_map, h]
      rw [this]
      congr 1
      omega
theorem reps_one (m : List UInt8) (k : Nat) : ∀ u ∈ reps m k, u.oneCell' = true := by
  intro u hu
  obtain ⟨d, hd, hu⟩ := List.mem_flatMap.1 hu
  exact blist_one d u hu

theorem run_append_mark {P : Program} (w : World) (base : Nat) (t ty e : TypeId) (i : TypeInfo) (z : Value) (bytes : Nat) (ht : P.underlying t = some (.slice e)) (hi : P.info? e = some i) (hz : i.zero = some z)
    (hsize : i.size = 32) (hby : i.bytes = bytes) (hzs : z.cells.size = 32)
    (m : List UInt8) (hm : m.length = 32) (v : Value) (n : Nat) (hown : w.ownsRow base e 32 v n (reps m n))
    (a : Addr) (j c : Nat) (hnews : ∀ q u, (reps m j)[q]? = some u → w.cell? (a.add q) = some u) (hj : 0 < j)
    (h63 : n + j ≤ maxLen) (hbytes : (n + j) * bytes ≤ 140737488355328) (hbase : base ≤ w.heap.size) :
    ∃ v' w', (Builtin.append_ #[t, t] ty #[v, .slice (some a) j c]).run P w = .ok v' w' ∧ w'.ownsRow base e 32 v' (n + j) (reps m (n + j)) ∧ w.grownBy w' v.ownBlock ∧
      (∀ x k, w.ownsRow base e 32 x k (reps m k) → w'.ownsRow base e 32 x k (reps m k)) := by
  obtain ⟨v', w', hr, ho, hg, _⟩ := run_append_own (P := P) w base t ty e i z 32 bytes ht hi hz hsize hby hzs (by decide) v n (reps m n) hown a j c (reps m j) (by rw [reps_length hm]) hnews (reps_one m j) h63 hbytes hbase
  refine ⟨v', w', hr, by rw [← reps_add]; exact ho, hg, fun x k hx => ?_⟩
  rcases hx.2 with ⟨rfl, rfl⟩ | ⟨g, cap, cur, rfl, hb, hgg, hkc, hcm, hcs, htake⟩
  · exact ⟨hx.1, .inl ⟨rfl, rfl⟩⟩
  · by_cases hne : some g = v.ownBlock
    · rcases hown.2 with ⟨rfl, _⟩ | ⟨g2, cap2, cur2, rfl, hb2, hg2, hnc2, hcm2, hcs2, htake2⟩
      · simp [Value.ownBlock] at hne
      · simp only [Value.ownBlock, Option.some.injEq] at hne
        subst hne
        rw [hgg] at hg2
        simp only [Option.some.injEq, Obj.cells.injEq, and_true] at hg2
        subst hg2
        have hrl := reps_length hm
        by_cases hroom : n + j ≤ cap2
        · have hr2 := run_append_room (P := P) w t ty e i ht hi g n cap2 cur hgg a j c (reps m j) (by rw [hrl, hsize]) hnews (reps_one m j) hroom (by rw [hrl, hsize, hcs2, ← Nat.add_mul]; exact Nat.mul_le_mul_right _ hroom)
          rw [hr2] at hr
          injection hr with _ hw
          subst hw
          refine ⟨hx.1, .inr ⟨g, cap, _, rfl, hb, setRow_heap w g cur _ e _ hgg, hkc, hcm, ?_, ?_⟩⟩
          · have hfit : (n + j) * 32 ≤ cur.size := by rw [hcs2]; exact Nat.mul_le_mul_right _ hroom
            simp only [List.size_toArray, List.length_append, List.length_take, List.length_drop, Array.length_toList, hrl, hsize]
            rw [← hcs]
            omega
          · rw [hsize]
            apply List.ext_getElem?
            intro q
            have hq0 : ∀ q, q < k * 32 → cur.toList[q]? = (blist m)[q % 32]? := fun q hq => by
              rw [← reps_get hm k q hq, ← htake, List.getElem?_take, if_pos hq]
            have hq1 : ∀ q, q < n * 32 → cur.toList[q]? = (blist m)[q % 32]? := fun q hq => by
              rw [← reps_get hm n q hq, ← htake2, List.getElem?_take, if_pos hq]
            have hfit : (n + j) * 32 ≤ cur.size := by rw [hcs2]; exact Nat.mul_le_mul_right _ hroom
            rw [List.getElem?_take]
            by_cases hq : q < k * 32
            · rw [if_pos hq, reps_get hm k q hq]
              simp only []
              by_cases h1 : q < n * 32
              · rw [List.append_assoc, List.getElem?_append_left (by rw [List.length_take, Array.length_toList]; omega), List.getElem?_take, if_pos h1, hq1 q h1]
              · by_cases h2 : q < (n + j) * 32
                · rw [List.append_assoc, List.getElem?_append_right (by rw [List.length_take, Array.length_toList]; omega), List.getElem?_append_left (by rw [hrl, List.length_take, Array.length_toList]; omega), List.length_take, Array.length_toList, reps_get hm j _ (by omega)]
                  congr 1
                  omega
                · rw [List.getElem?_append_right (by rw [List.length_append, hrl, List.length_take, Array.length_toList]; omega), List.getElem?_drop, List.length_append, hrl, List.length_take, Array.length_toList, ← hq0 q hq]
                  congr 1
                  omega
            · rw [if_neg hq, List.getElem?_eq_none (by rw [hrl]; omega)]
        · have hr2 := run_append_grow (P := P) w t ty e i z ht hi hz ⟨g, 0, none⟩ n cap2 (reps m n) (by rw [hrl, hsize]) (hown.cells (g := g) rfl) a j c (reps m j) (by rw [hrl, hsize]) hnews (by omega) (by simp only [maxLen] at h63; omega) (growslice_fits (by simp only [maxLen] at h63; omega) (by rw [hby]; exact hbytes))
          rw [hr2] at hr
          injection hr with _ hw
          subst hw
          exact ⟨hx.1, .inr ⟨g, cap, cur, rfl, hb, (Below.heap_alloc w.drew _ g (Array.getElem?_eq_some_iff.1 hgg).1).trans hgg, hkc, hcm, hcs, htake⟩⟩
    · exact hx.kept hg (Or.inr (fun e => hne (by rw [← e]; rfl)))

theorem wpList_append_mark {P : Program} {w : World} {ops : Array Oper} {rest : List Oper} {o : Oper} {act : Act} {Q : Exit → Act → World → Prop} (hgd : o.guard = none) (s x : Operand) (t : TypeId)
    (ho : o.op = .call { callee := .builtin .append, args := #[s, x], argTypes := #[t, t] }) (base : Nat) (e : TypeId) (i : TypeInfo) (z : Value) (bytes : Nat) (ht : P.underlying t = some (.slice e)) (hi : P.info? e = some i) (hz : i.zero = some z)
    (hsize : i.size = 32) (hby : i.bytes = bytes) (hzs : z.cells.size = 32)
    (m : List UInt8) (hm : m.length = 32) (v : Value) (n : Nat) (hs : act.eval s = v) (hown : w.ownsRow base e 32 v n (reps m n))
    (a : Addr) (j c : Nat) (hx : act.eval x = .slice (some a) j c) (hnews : ∀ q u, (reps m j)[q]? = some u → w.cell? (a.add q) = some u) (hj : 0 < j)
    (h63 : n + j ≤ maxLen) (hbytes : (n + j) * bytes ≤ 140737488355328) (hbase : base ≤ w.heap.size)
    (h : ∀ v' w', w'.ownsRow base e 32 v' (n + j) (reps m (n + j)) → w.grownBy w' v.ownBlock → (∀ y k, w.ownsRow base e 32 y k (reps m k) → w'.ownsRow base e 32 y k (reps m k)) → wpList P ops Q rest (act.put o.dst v') w') : wpList P ops Q (o :: rest) act w := by
  refine wpList_plain hgd fun K hK => ?_
  obtain ⟨v', w', hr, h2, h3, h4⟩ := run_append_mark (P := P) w base t o.type e i z bytes ht hi hz hsize hby hzs m hm v n hown a j c hnews hj h63 hbytes hbase
  unfold Oper.wp
  simp [execOp, ho, resolve, invoke, builtin, hs, hx, hr, Result.andThen]
  exact hK _ _ (h v' w' h2 h3 h4)

theorem fold_off (off : Nat) (l : List Value) : ∀ (k : Nat) (a : Array Value), off + k + l.length ≤ a.size → ((l.zipIdx k).foldl (fun cs x => cs.setIfInBounds (off + x.2) x.1) a) = (a.toList.take (off + k) ++ l ++ a.toList.drop (off + k + l.length)).toArray := by
  induction l with
  | nil =>
    intro k a h
    simp
  | cons v r ih =>
    intro k a h
    simp only [List.length_cons] at h
    rw [List.zipIdx_cons, List.foldl_cons, ih (k + 1) _ (by simp; omega)]
    congr 1
    simp only [Array.toList_setIfInBounds, List.length_cons]
    rw [show off + (k + 1) = (off + k) + 1 by omega, List.take_succ_eq_append_getElem (by simp; omega), List.take_set_of_le (Nat.le_refl _), List.getElem_set_self, List.drop_set_of_lt (by omega)]
    simp only [List.append_assoc, List.singleton_append]
    congr 3
    omega
theorem fill_reps {m : List UInt8} (hm : m.length = 32) : ∀ (k j : Nat) (cells : Array Value), cells.size = (j + k) * 32 → cells.toList.take (j * 32) = reps m j →
    Instr.fill (fun i => some (i * 32, 32)) cells ((List.range' j k).map fun i => (i, Value.agg (brow m))) = some (reps m (j + k)).toArray := by
  intro k
  induction k with
  | zero =>
    intro j cells hs ht
    rw [List.range'_zero, List.map_nil, Instr.fill, Nat.add_zero, ← ht, List.take_of_length_le (by rw [Array.length_toList, hs]; simp)]
  | succ k ih =>
    intro j cells hs ht
    rw [List.range'_succ, List.map_cons, Instr.fill]
    have hms : (Value.agg (brow m)).cells = brow m := rfl
    have hbs : (brow m).size = 32 := by rw [brow_size, hm]
    simp only [hms, hbs]
    rw [if_neg (by simp; omega)]
    have hf := fold_off (j * 32) (blist m) 0 cells (by simp [hm]; omega)
    have hf2 : (brow m).zipIdx.foldl (fun cs (x : Value × Nat) => cs.setIfInBounds (j * 32 + x.2) x.1) cells = (cells.toList.take (j * 32) ++ blist m ++ cells.toList.drop (j * 32 + 32)).toArray := by
      have h2 : (brow m).zipIdx.toList = (blist m).zipIdx 0 := by rw [Array.toList_zipIdx]; rfl
      rw [← Array.foldl_toList, h2, hf]
      simp [hm]
    have hf3 := ih (j + 1) ((cells.toList.take (j * 32) ++ blist m ++ cells.toList.drop (j * 32 + 32)).toArray) (by simp [hm]; omega) (by
      simp only [ht]
      rw [List.take_append_of_le_length (by rw [List.length_append, reps_length hm, List.length_map, hm]; omega), List.take_of_length_le (by rw [List.length_append, reps_length hm, List.length_map, hm]; omega), ← reps_add]
      congr 1
      simp [reps, flat])
    rw [show j + (k + 1) = j + 1 + k by omega, ← hf3, ← hf2]

theorem zero24 : ∀ w, (zeroValue 24).run Tryd.prog w = .ok (.agg (brow (List.replicate 32 0))) w := fun _ => by kernel_rfl
theorem size24 : ∀ w, (sizeOf 24).run Tryd.prog w = .ok 32 w := fun _ => by kernel_rfl
theorem run_build_reps {m : List UInt8} (hm : m.length = 32) (k : Nat) (h0 : 0 < k) (hk : k ≤ 4) (w : World) :
    (Instr.buildSlice 41 k ((List.range' 0 k).map fun i => (i, Value.agg (brow m))).toArray).run Tryd.prog w = .ok (.slice (some ⟨w.heap.size, 0, none⟩) k k) (w.alloc (.cells (reps m k).toArray 24)) := by
  have hf := fill_reps hm k 0
  have hne : ¬ k * 32 > 2 ^ 24 := by omega
  have hz : k * 32 ≠ 0 := by omega
  have hsz : ((Array.range (k * 32)).map ((brow (List.replicate 32 0))[· % (brow (List.replicate 32 0)).size]!)).size = (0 + k) * 32 := by simp
  have := hf _ hsz (by simp [reps, flat])
  rw [Nat.zero_add] at this
  have hc : (Value.agg (brow (List.replicate 32 0))).cells = brow (List.replicate 32 0) := rfl
  unfold Instr.buildSlice
  simp only [Sem.run_bind, run_underlying Tryd.underlying41, Result.andThen_ok, size24, if_neg hne, if_neg hz, zero24, Sem.run_pure, hc]
  rw [this]
  rfl

theorem wp_build_reps {w : World} {o : Oper} {a : Act} {K : Act → World → Prop} {Q : Exit → Act → World → Prop} (k : Nat) (ps : Array (Nat × Operand)) (ho : o.op = .buildSlice 41 k ps)
    {m : List UInt8} (hm : m.length = 32) (h0 : 0 < k) (hk : k ≤ 4) (hps : (ps.map fun (i, x) => (i, a.eval x)) = ((List.range' 0 k).map fun i => (i, Value.agg (brow m))).toArray)
    (R : Array Value) (hR : R = (reps m k).toArray) (h : K (a.put o.dst (.slice (some ⟨w.heap.size, 0, none⟩) k k)) (w.alloc (.cells R 24))) : o.wp Tryd.prog a w K Q := by
  subst hR
  unfold Oper.wp
  simp only [execOp, ho, hps, Sem.run_bind, run_build_reps hm k h0 hk, Result.andThen_ok, Sem.run_pure]
  exact h
theorem wpList_build_reps {w : World} {ops : Array Oper} {rest : List Oper} {o : Oper} {a : Act} {Q : Exit → Act → World → Prop} (hgd : o.guard = none) (k : Nat) (ps : Array (Nat × Operand)) (ho : o.op = .buildSlice 41 k ps)
    {m : List UInt8} (hm : m.length = 32) (h0 : 0 < k) (hk : k ≤ 4) (hps : (ps.map fun (i, x) => (i, a.eval x)) = ((List.range' 0 k).map fun i => (i, Value.agg (brow m))).toArray)
    (R : Array Value) (hR : R = (reps m k).toArray) (h : wpList Tryd.prog ops Q rest (a.put o.dst (.slice (some ⟨w.heap.size, 0, none⟩) k k)) (w.alloc (.cells R 24))) : wpList Tryd.prog ops Q (o :: rest) a w :=
  wpList_plain hgd fun _ hK => wp_build_reps k ps ho hm h0 hk hps R hR (hK _ _ h)
/-- An append on an owned row: the row that comes out is the old one's block, or a new one. -/
theorem run_append_fresh {P : Program} (w : World) (base : Nat) (t ty e : TypeId) (i : TypeInfo) (z : Value) (size bytes : Nat) (ht : P.underlying t = some (.slice e)) (hi : P.info? e = some i) (hz : i.zero = some z)
    (hsize : i.size = size) (hby : i.bytes = bytes) (hzs : z.cells.size = size) (hsz : 0 < size)
    (v : Value) (n : Nat) (xs : List Value) (hown : w.ownsRow base e size v n xs)
    (a : Addr) (m c : Nat) (news : List Value) (hl : news.length = m * size) (hnews : ∀ j u, news[j]? = some u → w.cell? (a.add j) = some u) (h1 : ∀ u ∈ news, u.oneCell' = true) (hm : 0 < m)
    (h63 : n + m ≤ maxLen) (hbytes : (n + m) * bytes ≤ 140737488355328) (hbase : base ≤ w.heap.size) :
    ∃ v' w', (Builtin.append_ #[t, t] ty #[v, .slice (some a) m c]).run P w = .ok v' w' ∧ w'.ownsRow base e size v' (n + m) (xs ++ news) ∧ w.grownBy w' v.ownBlock ∧
      (v'.ownBlock = v.ownBlock ∨ v'.ownBlock = some w.heap.size) := by
  obtain ⟨v', w', hr, ho, hg, _⟩ := run_append_own (P := P) w base t ty e i z size bytes ht hi hz hsize hby hzs hsz v n xs hown a m c news hl hnews h1 h63 hbytes hbase
  refine ⟨v', w', hr, ho, hg, ?_⟩
  have hmx : n + m ≤ 9223372036854775807 := by simp only [maxLen] at h63; omega
  rcases hown.2 with ⟨rfl, rfl⟩ | ⟨g, cap, cur, rfl, hb, hgg, hkc, hcm, hcs, htake⟩
  · have hr2 := run_append_nil (P := P) w t ty e i z ht hi hz a m c news (by rw [hl, hsize]) hnews hm (by omega) (by rw [hby]; rw [Nat.zero_add] at hbytes; omega)
    rw [hr2] at hr
    injection hr with hv _
    subst hv
    exact Or.inr rfl
  · by_cases hroom : n + m ≤ cap
    · have hr2 := run_append_room (P := P) w t ty e i ht hi g n cap cur hgg a m c news (by rw [hl, hsize]) hnews h1 hroom (by rw [hl, hsize, hcs, ← Nat.add_mul]; exact Nat.mul_le_mul_right _ hroom)
      rw [hr2] at hr
      injection hr with hv _
      subst hv
      exact Or.inl rfl
    · have hr2 := run_append_grow (P := P) w t ty e i z ht hi hz ⟨g, 0, none⟩ n cap xs (by rw [hown.1, hsize]) (hown.cells (g := g) rfl) a m c news (by rw [hl, hsize]) hnews (by omega) (by omega) (growslice_fits (by omega) (by rw [hby]; exact hbytes))
      rw [hr2] at hr
      injection hr with hv _
      subst hv
      exact Or.inr rfl
theorem wp_append_fresh {P : Program} {w : World} {o : Oper} {act : Act} {K : Act → World → Prop} {Q : Exit → Act → World → Prop} (s x : Operand) (t : TypeId)
    (ho : o.op = .call { callee := .builtin .append, args := #[s, x], argTypes := #[t, t] }) (base : Nat) (e : TypeId) (i : TypeInfo) (z : Value) (size bytes : Nat) (ht : P.underlying t = some (.slice e)) (hi : P.info? e = some i) (hz : i.zero = some z)
    (hsize : i.size = size) (hby : i.bytes = bytes) (hzs : z.cells.size = size) (hsz : 0 < size)
    (v : Value) (n : Nat) (xs : List Value) (hs : act.eval s = v) (hown : w.ownsRow base e size v n xs)
    (a : Addr) (m c : Nat) (news : List Value) (hx : act.eval x = .slice (some a) m c) (hl : news.length = m * size) (hnews : ∀ j u, news[j]? = some u → w.cell? (a.add j) = some u) (h1 : ∀ u ∈ news, u.oneCell' = true) (hm : 0 < m)
    (h63 : n + m ≤ maxLen) (hbytes : (n + m) * bytes ≤ 140737488355328) (hbase : base ≤ w.heap.size)
    (h : ∀ v' w', w'.ownsRow base e size v' (n + m) (xs ++ news) → w.grownBy w' v.ownBlock → (v'.ownBlock = v.ownBlock ∨ v'.ownBlock = some w.heap.size) → K (act.put o.dst v') w') : o.wp P act w K Q := by
  obtain ⟨v', w', hr, h2, h3, h4⟩ := run_append_fresh (P := P) w base t o.type e i z size bytes ht hi hz hsize hby hzs hsz v n xs hown a m c news hl hnews h1 hm h63 hbytes hbase
  unfold Oper.wp
  simp [execOp, ho, resolve, invoke, builtin, hs, hx, hr, Result.andThen]
  exact h v' w' h2 h3 h4

/-- A load of the digest, and the row that is built of it. -/
theorem wpList_load_build {w : World} {ops : Array Oper} {rest : List Oper} {o o2 : Oper} {a : Act} {Q : Exit → Act → World → Prop} (hgd : o.guard = none) (x : Operand) (ho : o.op = .load 24 x) (hgd2 : o2.guard = none) (k : Nat) (ps : Array (Nat × Operand)) (ho2 : o2.op = .buildSlice 41 k ps)
    (g : Nat) (hx : a.eval x = .pointer (some ⟨g, 0, none⟩)) {m : List UInt8} (hm : m.length = 32) (hg : w.heap[g]? = some (.cells (brow m) 24 (0, 0))) (h0 : 0 < k) (hk : k ≤ 4)
    (hps : (ps.map fun (i, x) => (i, (a.put o.dst (.agg (brow m))).eval x)) = ((List.range' 0 k).map fun i => (i, Value.agg (brow m))).toArray)
    (R : Array Value) (hR : R = (reps m k).toArray) (h : wpList Tryd.prog ops Q rest ((a.put o.dst (.agg (brow m))).put o2.dst (.slice (some ⟨w.heap.size, 0, none⟩) k k)) (w.alloc (.cells R 24))) : wpList Tryd.prog ops Q (o :: o2 :: rest) a w :=
  wpList_load_row hgd 24 x ho g hx 24 (brow m) (0, 0) _ hg Tryd.underlying24 rfl (rinfo hm) (wpList_build_reps hgd2 k ps ho2 hm h0 hk hps R hR h)

end Go.Proofs.YtfodibjlldmnpaaDoor
