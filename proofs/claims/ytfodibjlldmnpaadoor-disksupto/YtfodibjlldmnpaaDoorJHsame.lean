/-
  Hsame, Mark, Lenth, Backh, joined.
-/
import Derived.Test.YtfodibjlldmnpaaDoorSame
import Derived.BigQuiet
/-
  sameHashes: two lists of digests that are the same.
-/
namespace Go.Proofs.YtfodibjlldmnpaaDoor
open Go.RowKit

/-- In a quiet region: a load of a row out of a block. -/
theorem quiet_load_mid {P : Program} {C : World → Prop} {a : Act} {o : Oper} {K : Act → Prop} (ty : TypeId) (x : Operand) (ho : o.op = .load ty x) (b off : Nat) (hx : a.eval x = .pointer (some ⟨b, off, none⟩)) (cs : List Value) (d : TypeDesc)
    (hC : ∀ w, C w → w.rangeAt b off cs) (hu : P.underlying ty = some d) (hd : d.isRow = true) (hi : (P.info? ty).map (·.size) = some cs.length) (hk : K (a.put o.dst (.agg cs.toArray))) : o.quiet P a C K :=
  ⟨_, fun w hw => by
    unfold Oper.quietAt execOp
    simp only [ho, hx, Instr.loadAt, Instr.sureAddr, Sem.run_bind, Sem.run_pure, Result.andThen_ok, run_loadVar_mid w b off ty cs d (hC w hw) hu hd hi]
    exact ⟨rfl, rfl⟩, hk⟩
theorem range_drewN {w : World} {b o : Nat} {cs : List Value} (h : w.rangeAt b o cs) : ∀ w', (∃ n, w' = w.drewN n) → w'.rangeAt b o cs := by
  rintro w' ⟨n, rfl⟩
  exact h

set_option maxRecDepth 100000 in
set_option maxHeartbeats 2000000 in
theorem same_go (p : List (List UInt8)) (n c1 c2 : Nat) (a1 a2 : Option Addr) (w : World) (hl : p.length = n) (hn : n ≤ 140737488355328)
    (h1 : 0 < n → ∃ b o, a1 = some ⟨b, o, none⟩ ∧ Hshs w b o p) (h2 : 0 < n → ∃ b o, a2 = some ⟨b, o, none⟩ ∧ Hshs w b o p) :
    Calls Tryd.prog 21 #[.slice a1 n c1, .slice a2 n c2] w fun e w' => e = .returned (.bool true) ∧ Below w.heap.size w w' := by
  have H1 := hide h1
  have H2 := hide h2
  clear h1 h2
  go_enter Tryd.func21, Tryd.ntmps21
  go_wp2_with fail
  go_loopw [5] (fun vi wr => ∃ i : Nat, i ≤ n ∧ vi = .int .i64 i ∧ Below w.heap.size w wr) (fun vi _ => n - (intOf vi).toNat)
  case atStart => exact ⟨0, Nat.zero_le _, rfl, Below.refl _ _⟩
  case round =>
    obtain ⟨i, hi, rfl, hb⟩ := hrel
    by_cases hlt : i < n
    · obtain ⟨b1, o1, rfl, hs1⟩ := unhide H1 (by omega)
      obtain ⟨b2, o2, rfl, hs2⟩ := unhide H2 (by omega)
      obtain ⟨B, hB⟩ : ∃ B, B = p.getD i [] := ⟨_, rfl⟩
      have hBl : B.length = 32 := by rw [hB]; exact hs1.get (by omega)
      have hr1 := (Hshs.two (hs1.kept hb hs1.lt) (i := i) (by omega) hB).2
      have hr2 := (Hshs.two (hs2.kept hb hs2.lt) (i := i) (by omega) hB).2
      have hltI : (i : Int) < (n : Int) := by omega
      have hi24 : (Tryd.prog.info? 24).map (·.size) = some (blist B).length := by have := rinfo hBl; rwa [brow_size, ← List.length_map (f := fun c : UInt8 => Value.int .u8 (c.toNat : Int))] at this
      have heq : ∀ W, (Op.equalIn 10000 24 (.agg (blist B).toArray) (.agg (blist B).toArray)).run Tryd.prog W = .ok true W := fun W => by
        have := eq_row B B hBl hBl W
        rw [beq_self_eq_true] at this
        exact this
      have hg24 := guard_24
      have HB := hide hb
      clear hb hs1 hs2 hB
      go_wp2_with fail
      refine wp_region_quiet_lit (by kernel_rfl) (by kernel_rfl) ?_
      repeat (first
        | go_big_quiet_skip
        | (go_big_quiet_want; (first | (refine quiet_load_mid 24 _ rfl b1 _ rfl (blist B) _ (range_drewN hr1) Tryd.underlying24 rfl hi24 ?_; simp only [Act.put, List.setIfInBounds_toArray, List.set_cons_zero, List.set_cons_succ]) | (refine quiet_load_mid 24 _ rfl b2 _ rfl (blist B) _ (range_drewN hr2) Tryd.underlying24 rfl hi24 ?_; simp only [Act.put, List.setIfInBounds_toArray, List.set_cons_zero, List.set_cons_succ]) | go_big_quiet_op); go_big_quiet_on))
      refine wpQuiet_nil ?_
      rintro _ ⟨nq, rfl⟩
      go_wp2_with fail
      go_roundw
      case rel => exact ⟨i + 1, by omega, by go_num, below_draws (unhide HB) _⟩
      case measure => simp [intOf]; omega
    · obtain rfl : i = n := by omega
      go_wp2_with fail
      go_ret
      exact ⟨rfl, hb⟩

end Go.Proofs.YtfodibjlldmnpaaDoor
/-
  Rows of one digest over and over; an append to such a row leaves every other such row as it was.
-/
namespace Go.Proofs.YtfodibjlldmnpaaDoor
open Go.RowKit

/-- The cells of so many times one digest. -/
abbrev reps (m : List UInt8) (k : Nat) : List Value := flat (List.replicate k m)
theorem reps_add (m : List UInt8) (a b : Nat) : reps m a ++ reps m b = reps m (a + b) := by
  rw [reps, reps, reps, ← List.replicate_append_replicate, flat, flat, flat, List.flatMap_append]
theorem reps_length {m : List UInt8} (h : m.length = 32) (k : Nat) : (reps m k).length = k * 32 := by
  rw [flat_length (by intro d hd; rw [List.eq_of_mem_replicate hd]; exact h), List.length_replicate]
theorem reps_get {m : List UInt8} (h : m.length = 32) : ∀ k j, j < k * 32 → (reps m k)[j]? = (blist m)[j % 32]? := by
  intro k
  induction k with
  | zero => intro j hj; omega
  | succ k ih =>
    intro j hj
    rw [reps, List.replicate_succ, flat, List.flatMap_cons]
    by_cases hj' : j < 32
    · rw [List.getElem?_append_left (by simpa [h] using hj'), Nat.mod_eq_of_lt hj']
    · rw [List.getElem?_append_right (by simp [h]; omega)]
      have := ih (j - 32) (by omega)
      rw [reps, flat] at this
      simp only [List.length_map, h]
      rw [this]
      congr 1
      omega
theorem reps_one (m : List UInt8) (k : Nat) : ∀ u ∈ reps m k, u.oneCell' = true := by
  intro u hu
  obtain ⟨d, hd, hu⟩ := List.mem_flatMap.1 hu
  exact blist_one d u hu

theorem run_append_mark {P : Program} (w : World) (base : Nat) (t ty e : TypeId) (i : TypeInfo) (z : Value) (bytes : Nat) (ht : P.underlying t = some (.slice e)) (hi : P.info? e = some i) (hz : i.zero = some z)
    (hsize : i.size = 32) (hby : i.bytes = bytes) (hzs : z.cells.size = 32)
    (m : List UInt8) (hm : m.length = 32) (v : Value) (n : Nat) (hown : w.ownsRow base e 32 v n (reps m n))
    (a : Addr) (j c : Nat) (hnews : ∀ q u, (reps m j)[q]? = some u → w.cell? (a.add q) = some u) (hj : 0 < j)
    (h63 : n + j ≤ maxLen) (hbytes : (n + j) * bytes ≤ 140737488355328) (hbase : base ≤ w.heap.size) :
    ∃ v' w', (Builtin.append_ #[t, t] ty #[v, .slice (some a) j c]).run P w = .ok v' w' ∧ w'.ownsRow base e 32 v' (n + j) (reps m (n + j)) ∧ w.grownBy w' v.ownBlock ∧
      (∀ x k, w.ownsRow base e 32 x k (reps m k) → w'.ownsRow base e 32 x k (reps m k)) := by
  obtain ⟨v', w', hr, ho, hg, _⟩ := run_append_own (P := P) w base t ty e i z 32 bytes ht hi hz hsize hby hzs (by decide) v n (reps m n) hown a j c (reps m j) (by rw [reps_length hm]) hnews (reps_one m j) h63 hbytes hbase
  refine ⟨v', w', hr, by rw [← reps_add]; exact ho, hg, fun x k hx => ?_⟩
  rcases hx.2 with ⟨rfl, rfl⟩ | ⟨g, cap, cur, rfl, hb, hgg, hkc, hcm, hcs, htake⟩
  · exact ⟨hx.1, .inl ⟨rfl, rfl⟩⟩
  · by_cases hne : some g = v.ownBlock
    · rcases hown.2 with ⟨rfl, _⟩ | ⟨g2, cap2, cur2, rfl, hb2, hg2, hnc2, hcm2, hcs2, htake2⟩
      · simp [Value.ownBlock] at hne
      · simp only [Value.ownBlock, Option.some.injEq] at hne
        subst hne
        rw [hgg] at hg2
        simp only [Option.some.injEq, Obj.cells.injEq, and_true] at hg2
        subst hg2
        have hrl := reps_length hm
        by_cases hroom : n + j ≤ cap2
        · have hr2 := run_append_room (P := P) w t ty e i ht hi g n cap2 cur hgg a j c (reps m j) (by rw [hrl, hsize]) hnews (reps_one m j) hroom (by rw [hrl, hsize, hcs2, ← Nat.add_mul]; exact Nat.mul_le_mul_right _ hroom)
          rw [hr2] at hr
          injection hr with _ hw
          subst hw
          refine ⟨hx.1, .inr ⟨g, cap, _, rfl, hb, setRow_heap w g cur _ e _ hgg, hkc, hcm, ?_, ?_⟩⟩
          · have hfit : (n + j) * 32 ≤ cur.size := by rw [hcs2]; exact Nat.mul_le_mul_right _ hroom
            simp only [List.size_toArray, List.length_append, List.length_take, List.length_drop, Array.length_toList, hrl, hsize]
            rw [← hcs]
            omega
          · rw [hsize]
            apply List.ext_getElem?
            intro q
            have hq0 : ∀ q, q < k * 32 → cur.toList[q]? = (blist m)[q % 32]? := fun q hq => by
              rw [← reps_get hm k q hq, ← htake, List.getElem?_take, if_pos hq]
            have hq1 : ∀ q, q < n * 32 → cur.toList[q]? = (blist m)[q % 32]? := fun q hq => by
              rw [← reps_get hm n q hq, ← htake2, List.getElem?_take, if_pos hq]
            have hfit : (n + j) * 32 ≤ cur.size := by rw [hcs2]; exact Nat.mul_le_mul_right _ hroom
            rw [List.getElem?_take]
            by_cases hq : q < k * 32
            · rw [if_pos hq, reps_get hm k q hq]
              simp only []
              by_cases h1 : q < n * 32
              · rw [List.append_assoc, List.getElem?_append_left (by rw [List.length_take, Array.length_toList]; omega), List.getElem?_take, if_pos h1, hq1 q h1]
              · by_cases h2 : q < (n + j) * 32
                · rw [List.append_assoc, List.getElem?_append_right (by rw [List.length_take, Array.length_toList]; omega), List.getElem?_append_left (by rw [hrl, List.length_take, Array.length_toList]; omega), List.length_take, Array.length_toList, reps_get hm j _ (by omega)]
                  congr 1
                  omega
                · rw [List.getElem?_append_right (by rw [List.length_append, hrl, List.length_take, Array.length_toList]; omega), List.getElem?_drop, List.length_append, hrl, List.length_take, Array.length_toList, ← hq0 q hq]
                  congr 1
                  omega
            · rw [if_neg hq, List.getElem?_eq_none (by rw [hrl]; omega)]
        · have hr2 := run_append_grow (P := P) w t ty e i z ht hi hz ⟨g, 0, none⟩ n cap2 (reps m n) (by rw [hrl, hsize]) (hown.cells (g := g) rfl) a j c (reps m j) (by rw [hrl, hsize]) hnews (by omega) (by simp only [maxLen] at h63; omega) (growslice_fits (by simp only [maxLen] at h63; omega) (by rw [hby]; exact hbytes))
          rw [hr2] at hr
          injection hr with _ hw
          subst hw
          exact ⟨hx.1, .inr ⟨g, cap, cur, rfl, hb, (Below.heap_alloc w.drew _ g (Array.getElem?_eq_some_iff.1 hgg).1).trans hgg, hkc, hcm, hcs, htake⟩⟩
    · exact hx.kept hg (Or.inr (fun e => hne (by rw [← e]; rfl)))

theorem wpList_append_mark {P : Program} {w : World} {ops : Array Oper} {rest : List Oper} {o : Oper} {act : Act} {Q : Exit → Act → World → Prop} (hgd : o.guard = none) (s x : Operand) (t : TypeId)
    (ho : o.op = .call { callee := .builtin .append, args := #[s, x], argTypes := #[t, t] }) (base : Nat) (e : TypeId) (i : TypeInfo) (z : Value) (bytes : Nat) (ht : P.underlying t = some (.slice e)) (hi : P.info? e = some i) (hz : i.zero = some z)
    (hsize : i.size = 32) (hby : i.bytes = bytes) (hzs : z.cells.size = 32)
    (m : List UInt8) (hm : m.length = 32) (v : Value) (n : Nat) (hs : act.eval s = v) (hown : w.ownsRow base e 32 v n (reps m n))
    (a : Addr) (j c : Nat) (hx : act.eval x = .slice (some a) j c) (hnews : ∀ q u, (reps m j)[q]? = some u → w.cell? (a.add q) = some u) (hj : 0 < j)
    (h63 : n + j ≤ maxLen) (hbytes : (n + j) * bytes ≤ 140737488355328) (hbase : base ≤ w.heap.size)
    (h : ∀ v' w', w'.ownsRow base e 32 v' (n + j) (reps m (n + j)) → w.grownBy w' v.ownBlock → (∀ y k, w.ownsRow base e 32 y k (reps m k) → w'.ownsRow base e 32 y k (reps m k)) → wpList P ops Q rest (act.put o.dst v') w') : wpList P ops Q (o :: rest) act w := by
  refine wpList_plain hgd fun K hK => ?_
  obtain ⟨v', w', hr, h2, h3, h4⟩ := run_append_mark (P := P) w base t o.type e i z bytes ht hi hz hsize hby hzs m hm v n hown a j c hnews hj h63 hbytes hbase
  unfold Oper.wp
  simp [execOp, ho, resolve, invoke, builtin, hs, hx, hr, Result.andThen]
  exact hK _ _ (h v' w' h2 h3 h4)

theorem fold_off (off : Nat) (l : List Value) : ∀ (k : Nat) (a : Array Value), off + k + l.length ≤ a.size → ((l.zipIdx k).foldl (fun cs x => cs.setIfInBounds (off + x.2) x.1) a) = (a.toList.take (off + k) ++ l ++ a.toList.drop (off + k + l.length)).toArray := by
  induction l with
  | nil =>
    intro k a h
    simp
  | cons v r ih =>
    intro k a h
    simp only [List.length_cons] at h
    rw [List.zipIdx_cons, List.foldl_cons, ih (k + 1) _ (by simp; omega)]
    congr 1
    simp only [Array.toList_setIfInBounds, List.length_cons]
    rw [show off + (k + 1) = (off + k) + 1 by omega, List.take_succ_eq_append_getElem (by simp; omega), List.take_set_of_le (Nat.le_refl _), List.getElem_set_self, List.drop_set_of_lt (by omega)]
    simp only [List.append_assoc, List.singleton_append]
    congr 3
    omega
theorem fill_reps {m : List UInt8} (hm : m.length = 32) : ∀ (k j : Nat) (cells : Array Value), cells.size = (j + k) * 32 → cells.toList.take (j * 32) = reps m j →
    Instr.fill (fun i => some (i * 32, 32)) cells ((List.range' j k).map fun i => (i, Value.agg (brow m))) = some (reps m (j + k)).toArray := by
  intro k
  induction k with
  | zero =>
    intro j cells hs ht
    rw [List.range'_zero, List.map_nil, Instr.fill, Nat.add_zero, ← ht, List.take_of_length_le (by rw [Array.length_toList, hs]; simp)]
  | succ k ih =>
    intro j cells hs ht
    rw [List.range'_succ, List.map_cons, Instr.fill]
    have hms : (Value.agg (brow m)).cells = brow m := rfl
    have hbs : (brow m).size = 32 := by rw [brow_size, hm]
    simp only [hms, hbs]
    rw [if_neg (by simp; omega)]
    have hf := fold_off (j * 32) (blist m) 0 cells (by simp [hm]; omega)
    have hf2 : (brow m).zipIdx.foldl (fun cs (x : Value × Nat) => cs.setIfInBounds (j * 32 + x.2) x.1) cells = (cells.toList.take (j * 32) ++ blist m ++ cells.toList.drop (j * 32 + 32)).toArray := by
      have h2 : (brow m).zipIdx.toList = (blist m).zipIdx 0 := by rw [Array.toList_zipIdx]; rfl
      rw [← Array.foldl_toList, h2, hf]
      simp [hm]
    have hf3 := ih (j + 1) ((cells.toList.take (j * 32) ++ blist m ++ cells.toList.drop (j * 32 + 32)).toArray) (by simp [hm]; omega) (by
      simp only [ht]
      rw [List.take_append_of_le_length (by rw [List.length_append, reps_length hm, List.length_map, hm]; omega), List.take_of_length_le (by rw [List.length_append, reps_length hm, List.length_map, hm]; omega), ← reps_add]
      congr 1
      simp [reps, flat])
    rw [show j + (k + 1) = j + 1 + k by omega, ← hf3, ← hf2]

theorem zero24 : ∀ w, (zeroValue 24).run Tryd.prog w = .ok (.agg (brow (List.replicate 32 0))) w := fun _ => by kernel_rfl
theorem size24 : ∀ w, (sizeOf 24).run Tryd.prog w = .ok 32 w := fun _ => by kernel_rfl
theorem run_build_reps {m : List UInt8} (hm : m.length = 32) (k : Nat) (h0 : 0 < k) (hk : k ≤ 4) (w : World) :
    (Instr.buildSlice 41 k ((List.range' 0 k).map fun i => (i, Value.agg (brow m))).toArray).run Tryd.prog w = .ok (.slice (some ⟨w.heap.size, 0, none⟩) k k) (w.alloc (.cells (reps m k).toArray 24)) := by
  have hf := fill_reps hm k 0
  have hne : ¬ k * 32 > 2 ^ 24 := by omega
  have hz : k * 32 ≠ 0 := by omega
  have hsz : ((Array.range (k * 32)).map ((brow (List.replicate 32 0))[· % (brow (List.replicate 32 0)).size]!)).size = (0 + k) * 32 := by simp
  have := hf _ hsz (by simp [reps, flat])
  rw [Nat.zero_add] at this
  have hc : (Value.agg (brow (List.replicate 32 0))).cells = brow (List.replicate 32 0) := rfl
  unfold Instr.buildSlice
  simp only [Sem.run_bind, run_underlying Tryd.underlying41, Result.andThen_ok, size24, if_neg hne, if_neg hz, zero24, Sem.run_pure, hc]
  rw [this]
  rfl

theorem wp_build_reps {w : World} {o : Oper} {a : Act} {K : Act → World → Prop} {Q : Exit → Act → World → Prop} (k : Nat) (ps : Array (Nat × Operand)) (ho : o.op = .buildSlice 41 k ps)
    {m : List UInt8} (hm : m.length = 32) (h0 : 0 < k) (hk : k ≤ 4) (hps : (ps.map fun (i, x) => (i, a.eval x)) = ((List.range' 0 k).map fun i => (i, Value.agg (brow m))).toArray)
    (R : Array Value) (hR : R = (reps m k).toArray) (h : K (a.put o.dst (.slice (some ⟨w.heap.size, 0, none⟩) k k)) (w.alloc (.cells R 24))) : o.wp Tryd.prog a w K Q := by
  subst hR
  unfold Oper.wp
  simp only [execOp, ho, hps, Sem.run_bind, run_build_reps hm k h0 hk, Result.andThen_ok, Sem.run_pure]
  exact h
theorem wpList_build_reps {w : World} {ops : Array Oper} {rest : List Oper} {o : Oper} {a : Act} {Q : Exit → Act → World → Prop} (hgd : o.guard = none) (k : Nat) (ps : Array (Nat × Operand)) (ho : o.op = .buildSlice 41 k ps)
    {m : List UInt8} (hm : m.length = 32) (h0 : 0 < k) (hk : k ≤ 4) (hps : (ps.map fun (i, x) => (i, a.eval x)) = ((List.range' 0 k).map fun i => (i, Value.agg (brow m))).toArray)
    (R : Array Value) (hR : R = (reps m k).toArray) (h : wpList Tryd.prog ops Q rest (a.put o.dst (.slice (some ⟨w.heap.size, 0, none⟩) k k)) (w.alloc (.cells R 24))) : wpList Tryd.prog ops Q (o :: rest) a w :=
  wpList_plain hgd fun _ hK => wp_build_reps k ps ho hm h0 hk hps R hR (hK _ _ h)
/-- An append on an owned row: the row that comes out is the old one's block, or a new one. -/
theorem run_append_fresh {P : Program} (w : World) (base : Nat) (t ty e : TypeId) (i : TypeInfo) (z : Value) (size bytes : Nat) (ht : P.underlying t = some (.slice e)) (hi : P.info? e = some i) (hz : i.zero = some z)
    (hsize : i.size = size) (hby : i.bytes = bytes) (hzs : z.cells.size = size) (hsz : 0 < size)
    (v : Value) (n : Nat) (xs : List Value) (hown : w.ownsRow base e size v n xs)
    (a : Addr) (m c : Nat) (news : List Value) (hl : news.length = m * size) (hnews : ∀ j u, news[j]? = some u → w.cell? (a.add j) = some u) (h1 : ∀ u ∈ news, u.oneCell' = true) (hm : 0 < m)
    (h63 : n + m ≤ maxLen) (hbytes : (n + m) * bytes ≤ 140737488355328) (hbase : base ≤ w.heap.size) :
    ∃ v' w', (Builtin.append_ #[t, t] ty #[v, .slice (some a) m c]).run P w = .ok v' w' ∧ w'.ownsRow base e size v' (n + m) (xs ++ news) ∧ w.grownBy w' v.ownBlock ∧
      (v'.ownBlock = v.ownBlock ∨ v'.ownBlock = some w.heap.size) := by
  obtain ⟨v', w', hr, ho, hg, _⟩ := run_append_own (P := P) w base t ty e i z size bytes ht hi hz hsize hby hzs hsz v n xs hown a m c news hl hnews h1 h63 hbytes hbase
  refine ⟨v', w', hr, ho, hg, ?_⟩
  have hmx : n + m ≤ 9223372036854775807 := by simp only [maxLen] at h63; omega
  rcases hown.2 with ⟨rfl, rfl⟩ | ⟨g, cap, cur, rfl, hb, hgg, hkc, hcm, hcs, htake⟩
  · have hr2 := run_append_nil (P := P) w t ty e i z ht hi hz a m c news (by rw [hl, hsize]) hnews hm (by omega) (by rw [hby]; rw [Nat.zero_add] at hbytes; omega)
    rw [hr2] at hr
    injection hr with hv _
    subst hv
    exact Or.inr rfl
  · by_cases hroom : n + m ≤ cap
    · have hr2 := run_append_room (P := P) w t ty e i ht hi g n cap cur hgg a m c news (by rw [hl, hsize]) hnews h1 hroom (by rw [hl, hsize, hcs, ← Nat.add_mul]; exact Nat.mul_le_mul_right _ hroom)
      rw [hr2] at hr
      injection hr with hv _
      subst hv
      exact Or.inl rfl
    · have hr2 := run_append_grow (P := P) w t ty e i z ht hi hz ⟨g, 0, none⟩ n cap xs (by rw [hown.1, hsize]) (hown.cells (g := g) rfl) a m c news (by rw [hl, hsize]) hnews (by omega) (by omega) (growslice_fits (by omega) (by rw [hby]; exact hbytes))
      rw [hr2] at hr
      injection hr with hv _
      subst hv
      exact Or.inr rfl
theorem wp_append_fresh {P : Program} {w : World} {o : Oper} {act : Act} {K : Act → World → Prop} {Q : Exit → Act → World → Prop} (s x : Operand) (t : TypeId)
    (ho : o.op = .call { callee := .builtin .append, args := #[s, x], argTypes := #[t, t] }) (base : Nat) (e : TypeId) (i : TypeInfo) (z : Value) (size bytes : Nat) (ht : P.underlying t = some (.slice e)) (hi : P.info? e = some i) (hz : i.zero = some z)
    (hsize : i.size = size) (hby : i.bytes = bytes) (hzs : z.cells.size = size) (hsz : 0 < size)
    (v : Value) (n : Nat) (xs : List Value) (hs : act.eval s = v) (hown : w.ownsRow base e size v n xs)
    (a : Addr) (m c : Nat) (news : List Value) (hx : act.eval x = .slice (some a) m c) (hl : news.length = m * size) (hnews : ∀ j u, news[j]? = some u → w.cell? (a.add j) = some u) (h1 : ∀ u ∈ news, u.oneCell' = true) (hm : 0 < m)
    (h63 : n + m ≤ maxLen) (hbytes : (n + m) * bytes ≤ 140737488355328) (hbase : base ≤ w.heap.size)
    (h : ∀ v' w', w'.ownsRow base e size v' (n + m) (xs ++ news) → w.grownBy w' v.ownBlock → (v'.ownBlock = v.ownBlock ∨ v'.ownBlock = some w.heap.size) → K (act.put o.dst v') w') : o.wp P act w K Q := by
  obtain ⟨v', w', hr, h2, h3, h4⟩ := run_append_fresh (P := P) w base t o.type e i z size bytes ht hi hz hsize hby hzs hsz v n xs hown a m c news hl hnews h1 hm h63 hbytes hbase
  unfold Oper.wp
  simp [execOp, ho, resolve, invoke, builtin, hs, hx, hr, Result.andThen]
  exact h v' w' h2 h3 h4

/-- A load of the digest, and the row that is built of it. -/
theorem wpList_load_build {w : World} {ops : Array Oper} {rest : List Oper} {o o2 : Oper} {a : Act} {Q : Exit → Act → World → Prop} (hgd : o.guard = none) (x : Operand) (ho : o.op = .load 24 x) (hgd2 : o2.guard = none) (k : Nat) (ps : Array (Nat × Operand)) (ho2 : o2.op = .buildSlice 41 k ps)
    (g : Nat) (hx : a.eval x = .pointer (some ⟨g, 0, none⟩)) {m : List UInt8} (hm : m.length = 32) (hg : w.heap[g]? = some (.cells (brow m) 24 (0, 0))) (h0 : 0 < k) (hk : k ≤ 4)
    (hps : (ps.map fun (i, x) => (i, (a.put o.dst (.agg (brow m))).eval x)) = ((List.range' 0 k).map fun i => (i, Value.agg (brow m))).toArray)
    (R : Array Value) (hR : R = (reps m k).toArray) (h : wpList Tryd.prog ops Q rest ((a.put o.dst (.agg (brow m))).put o2.dst (.slice (some ⟨w.heap.size, 0, none⟩) k k)) (w.alloc (.cells R 24))) : wpList Tryd.prog ops Q (o :: o2 :: rest) a w :=
  wpList_load_row hgd 24 x ho g hx 24 (brow m) (0, 0) _ hg Tryd.underlying24 rfl (rinfo hm) (wpList_build_reps hgd2 k ps ho2 hm h0 hk hps R hR h)

end Go.Proofs.YtfodibjlldmnpaaDoor
/-
  The law's lent lists of digests: lentHashes, backHashes.
-/
namespace Go.Proofs.YtfodibjlldmnpaaDoor
open Go.RowKit

theorem run_copy_wide {P : Program} (w : World) (dT sT ty elem : TypeId) (z : Nat) (hu : P.underlying dT = some (.slice elem)) (hz : (P.info? elem).map (·.size) = some z)
    (g dLen dCap : Nat) (sp : Option Addr) (sLen sCap : Nat) (cur : Array Value) (t : TypeId) (cs : List Value) (hg : w.heap[g]? = some (.cells cur t (0, 0))) (hn : cs.length = sLen * z) (hle : sLen ≤ dLen)
    (hno : sp = none → cs = []) (hsrc : ∀ a, sp = some a → ∀ j v, cs[j]? = some v → w.cell? (a.add j) = some v) (hfit : cs.length ≤ cur.size) (h1 : ∀ v ∈ cs, v.oneCell' = true) :
    (Builtin.copy_ #[dT, sT] ty #[.slice (some ⟨g, 0, none⟩) dLen dCap, .slice sp sLen sCap]).run P w = .ok (goInt sLen) (w.setRow g (cs ++ cur.toList.drop cs.length).toArray) := by
  have hst := run_storeCells_at P g 0 t cs 0 cur w hg (by simpa using hfit) h1
  have hmin : Nat.min sLen dLen = sLen := Nat.min_eq_left hle
  simp only [Nat.add_zero, List.take_zero, List.nil_append, Nat.zero_add] at hst
  cases hq : P.info? elem with
  | none => simp [hq] at hz
  | some i =>
    have hi : i.size = z := by simpa [hq] using hz
    cases sp with
    | none =>
      obtain rfl := hno rfl
      have hst' : (storeCells ⟨g, 0, none⟩ []).run P w = .ok () (w.setRow g cur) := by simpa using hst
      simp [Builtin.copy_, run_underlying hu, Builtin.lenOf, Builtin.firstCells, sizeOf, typeInfo, hq, hmin]
      rw [hst']
      rfl
    | some a =>
      have hl := run_loadCells_list (P := P) w a cs (hsrc a rfl)
      rw [hn] at hl
      simp [Builtin.copy_, run_underlying hu, Builtin.lenOf, Builtin.firstCells, sizeOf, typeInfo, hq, hi, hmin, hl, hst]
theorem wpList_copy_wide {P : Program} {w : World} {ops : Array Oper} {rest : List Oper} {o : Oper} {act : Act} {Q : Exit → Act → World → Prop} (hgd : o.guard = none) (d s : Operand) (dT sT : TypeId)
    (ho : o.op = .call { callee := .builtin .copy, args := #[d, s], argTypes := #[dT, sT] }) (elem : TypeId) (z : Nat) (hu : P.underlying dT = some (.slice elem)) (hz : (P.info? elem).map (·.size) = some z)
    (g dLen dCap : Nat) (sp : Option Addr) (sLen sCap : Nat) (hd : act.eval d = .slice (some ⟨g, 0, none⟩) dLen dCap) (hs : act.eval s = .slice sp sLen sCap)
    (cur : Array Value) (t : TypeId) (cs : List Value) (hg : w.heap[g]? = some (.cells cur t (0, 0))) (hn : cs.length = sLen * z) (hle : sLen ≤ dLen)
    (hno : sp = none → cs = []) (hsrc : ∀ a, sp = some a → ∀ j v, cs[j]? = some v → w.cell? (a.add j) = some v) (hfit : cs.length ≤ cur.size) (h1 : ∀ v ∈ cs, v.oneCell' = true)
    (h : ∀ w', w'.heap[g]? = some (.cells (cs ++ cur.toList.drop cs.length).toArray t (0, 0)) → w.grownBy w' (some g) → wpList P ops Q rest (act.put o.dst (goInt sLen)) w') : wpList P ops Q (o :: rest) act w := by
  refine wpList_plain hgd fun K hK => ?_
  have hrun := run_copy_wide (P := P) w dT sT o.type elem z hu hz g dLen dCap sp sLen sCap cur t cs hg hn hle hno hsrc hfit h1
  unfold Oper.wp
  simp [execOp, ho, resolve, invoke, builtin, hd, hs, hrun, Result.andThen]
  exact hK _ _ (h _ (setRow_heap w g cur _ t _ hg) ⟨rfl, rfl, rfl, by simp, fun k _ hk => setRow_other w g k _ (fun e => hk (by rw [e]))⟩)

theorem setCells_at {w : World} {g : Nat} {t : TypeId} {cur : Array Value} (hg : w.heap[g]? = some (.cells cur t (0, 0))) (o : Nat) (vs : List Value) (hfit : o + vs.length ≤ cur.size) (h1 : ∀ v ∈ vs, v.oneCell' = true) :
    w.setCells g o vs = w.setRow g (cur.toList.take o ++ vs ++ cur.toList.drop (o + vs.length)).toArray := by
  have hst := run_storeCells_at Tryd.prog g o t vs 0 cur w hg (by simpa using hfit) h1
  have h2 := run_storeCells_cells (P := Tryd.prog) g o vs 0 w (fun j hj => by
    rw [Nat.add_zero, cell_of_row _ _ _ _ _ _ hg, Array.getElem?_eq_getElem (by omega)]; rfl) (fun j hj => by rw [frozen_of_row _ _ _ _ _ hg]) h1
  rw [h2] at hst
  injection hst
theorem there_at {w : World} {g : Nat} {t : TypeId} {cur : Array Value} (hg : w.heap[g]? = some (.cells cur t (0, 0))) (o n : Nat) (hfit : o + n ≤ cur.size) : w.there g o n := fun j hj => by
  rw [cell_of_row _ _ _ _ _ _ hg, frozen_of_row _ _ _ _ _ hg]
  refine ⟨?_, rfl⟩
  rw [Array.getElem?_eq_getElem (by omega)]; rfl

theorem flat_cons (d : List UInt8) (p : List (List UInt8)) : flat (d :: p) = blist d ++ flat p := by rw [flat, List.flatMap_cons]
theorem flat_app (p q : List (List UInt8)) : flat (p ++ q) = flat p ++ flat q := by rw [flat, List.flatMap_append]
theorem flat_set {d : List UInt8} (_hd : d.length = 32) : ∀ (i : Nat) (p : List (List UInt8)), (∀ x ∈ p, x.length = 32) → i < p.length → (flat p).take (i * 32) ++ blist d ++ (flat p).drop (i * 32 + 32) = flat (p.set i d) := by
  intro i
  induction i with
  | zero =>
    intro p hp hi
    cases p with
    | nil => simp at hi
    | cons x r =>
      rw [List.set_cons_zero, flat_cons, flat_cons, Nat.zero_mul, List.take_zero, List.nil_append, Nat.zero_add, List.drop_append_of_le_length (by simp [hp x (by simp)]), List.drop_of_length_le (by simp [hp x (by simp)]), List.nil_append]
  | succ i ih =>
    intro p hp hi
    cases p with
    | nil => simp at hi
    | cons x r =>
      have hx : (blist x).length = 32 := by simp [hp x (by simp)]
      rw [List.set_cons_succ, flat_cons, flat_cons, ← ih r (fun y hy => hp y (by simp [hy])) (by simpa using hi)]
      rw [show (i + 1) * 32 = (blist x).length + i * 32 by omega, List.take_length_add_append, Nat.add_assoc, List.drop_length_add_append]
      simp only [List.append_assoc]
theorem flat_range {w : World} {g : Nat} {p : List (List UInt8)} {t : TypeId} {fr : Nat × Nat} (hg : w.heap[g]? = some (.cells (flat p).toArray t fr)) (h : ∀ d ∈ p, d.length = 32) {i : Nat} (hi : i < p.length) {d : List UInt8} (hd : d = p.getD i []) : w.rangeAt g (i * 32) (blist d) := fun j v hv => by
  rw [cell_of_row _ _ _ _ _ _ hg, List.getElem?_toArray]
  exact flat_cell h i hi j v (by rw [← hd]; exact hv)

def seven : List UInt8 := [7, 7, 0, 0, 0, 0, 0, 0, 0, 0, 0, 0, 0, 0, 0, 0, 0, 0, 0, 0, 0, 0, 0, 0, 0, 0, 0, 0, 0, 0, 0, 0]
def nine : List UInt8 := [9, 0, 0, 0, 0, 0, 0, 0, 0, 0, 0, 0, 0, 0, 0, 0, 0, 0, 0, 0, 0, 0, 0, 0, 0, 0, 0, 0, 0, 0, 0, 0]
theorem info24s : (Tryd.prog.info? 24).map (·.size) = some 32 := by kernel_rfl

set_option maxRecDepth 100000 in
set_option maxHeartbeats 1000000 in
theorem lentHashes_go (p : List (List UInt8)) (ao : Option Addr) (n cap : Nat) (w : World) (hl : p.length = n) (hp : ∀ d ∈ p, d.length = 32) (hn : 32 * (n + 1) ≤ 140737488355328) (hS : 0 < n → ∃ b o, ao = some ⟨b, o, none⟩ ∧ Hshs w b o p) :
    Calls Tryd.prog 24 #[.slice ao n cap] w fun e w' => e = .returned (.slice (some ⟨w.heap.size, 0, none⟩) ((n + 1 : Nat) : Nat) (n + 1)) ∧ w'.heap[w.heap.size]? = some (.cells (flat (p ++ [seven])).toArray 24 (0, 0)) ∧ Below w.heap.size w w' := by
  obtain ⟨i0, hi0, hz0, hz1, hz2⟩ := info_parts info24'
  obtain ⟨w1, hmk, hown, hg1⟩ := run_make_full (P := Tryd.prog) w w.heap.size 41 24 i0 _ 32 Tryd.underlying41 hi0 hz0 hz1 .i64 .i64 (n + 1) (by rw [hz2]; omega) (by unfold maxLen; omega) (Nat.le_refl _)
  have hmk' : (Instr.makeSlice 41 (.int .i64 ((n : Int) + 1)) (.int .i64 ((n : Int) + 1))).run Tryd.prog w = .ok (.slice (some ⟨w.heap.size, 0, none⟩) (n + 1) (n + 1)) w1 := hmk
  have HG := hide (And.intro hown hg1)
  have HS := hide hS
  clear hmk hown hg1 hS hi0 hz0 hz1 hz2
  obtain ⟨cur, hcur, hcs⟩ : ∃ cur, w1.heap[w.heap.size]? = some (.cells cur 24 (0, 0)) ∧ cur.size = (n + 1) * 32 := by
    rcases (unhide HG).1.2 with ⟨h, _⟩ | ⟨g, c, cur, h1, _, h3, _, _, h6, _⟩
    · cases h
    · simp only [Value.slice.injEq, Option.some.injEq, Addr.mk.injEq, and_true, true_and] at h1
      obtain ⟨rfl, rfl⟩ := h1
      exact ⟨cur, h3, h6⟩
  have HC := hide hcur
  clear hcur
  have hfl := flat_length hp
  go_enter Tryd.func24, Tryd.ntmps24
  go_wp2_with (refine wpList_copy_wide rfl (.tmp 8) (.tmp 9) 41 41 rfl 24 32 Tryd.underlying41 info24s w.heap.size (n + 1) (n + 1) ao n cap rfl rfl cur 24 (flat p) (unhide HC) (by rw [hfl, hl]) (by omega) ?_ ?_ (by rw [hfl, hcs, hl]; omega) ?_ ?_)
  · intro hno
    by_cases h0 : 0 < n
    · obtain ⟨b, o, ha, _⟩ := unhide HS h0
      rw [hno] at ha; cases ha
    · obtain rfl : p = [] := List.eq_nil_of_length_eq_zero (by omega)
      rfl
  · intro a ha j v hv
    have hj := (List.getElem?_eq_some_iff.1 hv).1
    obtain ⟨b, o, hb, hs⟩ := unhide HS (by rw [hfl] at hj; omega)
    rw [ha] at hb
    cases hb
    have hpl : j / 32 < p.length := by rw [hfl] at hj; omega
    have hr := hs.row (j / 32) hpl
    rw [add_addr]
    have hk : (flat p)[j / 32 * 32 + j % 32]? = (brow (p.getD (j / 32) [])).toList[j % 32]? := by
      have hd := hs.get hpl
      obtain ⟨x, h5⟩ : ∃ x, (blist (p.getD (j / 32) []))[j % 32]? = some x := ⟨_, List.getElem?_eq_getElem (by simp only [List.length_map]; rw [hd]; omega)⟩
      rw [flat_cell hp (j / 32) hpl (j % 32) _ h5]
      exact h5.symm
    have h6 := hr (j % 32) v (by rw [← hk, show j / 32 * 32 + j % 32 = j by omega]; exact hv)
    rw [show o + 32 * (j / 32) + j % 32 = o + j by omega] at h6
    rw [World.cell?_of_block (w := w) ((unhide HG).2.block b hs.lt (by simp))]
    exact h6
  · intro v hv
    obtain ⟨d, hd, hv⟩ := List.mem_flatMap.1 hv
    exact blist_one d v hv
  · intro w2 hw2 hg2
    have hsz : (flat p ++ cur.toList.drop (n * 32)).toArray.size = (n + 1) * 32 := by simp only [List.size_toArray, List.length_append, List.length_drop, Array.length_toList, hfl, hl, hcs]; omega
    have HB := hide (show Below w.heap.size w w2 from (grown_same (unhide HG).2 (Nat.le_refl _)).trans ⟨hg2.os, hg2.tape, hg2.output, hg2.size, fun k hk => hg2.block k (Nat.lt_of_lt_of_le hk (unhide HG).2.size) (by simp; omega)⟩)
    have HW := hide hw2
    clear hw2 hg2
    have hth : w2.there w.heap.size (n * 32) (brow seven).size := there_at (unhide HW) (n * 32) _ (by rw [hsz]; show n * 32 + 32 ≤ _; omega)
    have hi7 : (Tryd.prog.info? 24).map (·.size) = some (brow seven).size := info24s
    have hnI : (n : Int) < (n : Int) + 1 := by omega
    go_wp2_with (refine wpList_store_mid rfl 24 _ _ rfl w.heap.size (n * 32) (brow seven) rfl rfl hth hi7 (brow_one _) ?_)
    go_ret
    have hst := setCells_at (unhide HW) (n * 32) (brow seven).toList (by simp only [brow]; rw [hsz]; simp [seven]; omega) (fun v hv => blist_one seven v (by simpa [brow] using hv))
    refine ⟨rfl, ?_, ?_⟩
    · rw [hst, setRow_heap _ _ _ _ _ _ (unhide HW)]
      congr 3
      have h32 : (flat p).length = n * 32 := by rw [hfl, hl]
      simp only []
      have hs7 : (brow seven).toList = blist seven := rfl
      have hs8 : (blist seven).length = 32 := rfl
      rw [hs7, hs8, flat_app, ← h32, List.take_left, List.append_assoc, List.drop_length_add_append]
      rw [List.drop_drop, List.drop_of_length_le (by rw [Array.length_toList, hcs, h32]; omega), List.append_nil, flat_cons]
      simp [flat]
    · rw [hst]
      exact (unhide HB).trans ⟨rfl, rfl, rfl, by simp, fun k hk => setRow_other _ _ k _ (by omega)⟩

end Go.Proofs.YtfodibjlldmnpaaDoor
/-
  backHashes.
-/
namespace Go.Proofs.YtfodibjlldmnpaaDoor
open Go.RowKit

/-- The list after i rounds. -/
abbrev hbackTo (p : List (List UInt8)) (i : Nat) : List (List UInt8) := List.replicate i nine ++ (p.drop i ++ [seven])
theorem hbackTo_len {p : List (List UInt8)} {i : Nat} (hi : i ≤ p.length) : (hbackTo p i).length = p.length + 1 := by simp [hbackTo]; omega
theorem hbackTo_get {p : List (List UInt8)} {i : Nat} (hi : i < p.length) : (hbackTo p i).getD i [] = p.getD i [] := by
  rw [List.getD_eq_getElem?_getD, List.getD_eq_getElem?_getD, hbackTo, List.getElem?_append_right (by simp), List.getElem?_append_left (by simp; omega)]
  simp
theorem hbackTo_set {p : List (List UInt8)} {i : Nat} (hi : i < p.length) : (hbackTo p i).set i nine = hbackTo p (i + 1) := by
  rw [hbackTo, List.set_append_right _ _ (by simp), List.length_replicate, Nat.sub_self, hbackTo, List.replicate_succ', List.append_assoc]
  congr 1
  rw [List.drop_eq_getElem_cons hi]
  rfl
theorem hbackTo_all {p : List (List UInt8)} (hp : ∀ d ∈ p, d.length = 32) (i : Nat) : ∀ d ∈ hbackTo p i, d.length = 32 := by
  intro d hd
  rcases List.mem_append.1 hd with h | h
  · rw [List.eq_of_mem_replicate h]; rfl
  · rcases List.mem_append.1 h with h | h
    · exact hp d (List.mem_of_mem_drop h)
    · rw [List.mem_singleton.1 h]; rfl
/-- A digest stored into such a row. -/
theorem flat_store {w : World} {g i : Nat} {q : List (List UInt8)} {d : List UInt8} {t : TypeId} (hg : w.heap[g]? = some (.cells (flat q).toArray t (0, 0))) (hq : ∀ x ∈ q, x.length = 32) (hi : i < q.length) (hd : d.length = 32) :
    (w.setCells g (i * 32) (brow d).toList).heap[g]? = some (.cells (flat (q.set i d)).toArray t (0, 0)) ∧ Other g w (w.setCells g (i * 32) (brow d).toList) := by
  have hfl := flat_length hq
  have hbl : (brow d).toList = blist d := by simp [brow]
  have hst := setCells_at hg (i * 32) (blist d) (by simp only [List.size_toArray, hfl, List.length_map, hd]; omega) (blist_one d)
  rw [hbl, hst]
  refine ⟨?_, ⟨rfl, rfl, by simp, fun k _ hk => setRow_other _ _ k _ (fun e => hk e)⟩⟩
  rw [setRow_heap _ _ _ _ _ _ hg]
  congr 3
  rw [← flat_set hd i q hq hi]
  simp [hd]

theorem build9 : ∀ W, (Instr.build 24 #[(0, Value.int .u8 9)]).run Tryd.prog W = .ok (.agg (brow nine)) W := fun _ => by kernel_rfl

set_option maxRecDepth 100000 in
set_option maxHeartbeats 2000000 in
theorem backHashes_go (p : List (List UInt8)) (a : Option Addr) (n cap g : Nat) (w : World) (hl : p.length = n) (hp : ∀ d ∈ p, d.length = 32) (hn : n ≤ 140737488355328) (hg : w.heap[g]? = some (.cells (flat (p ++ [seven])).toArray 24 (0, 0)))
    (hS : 0 < n → ∃ b o, a = some ⟨b, o, none⟩ ∧ Hshs w b o p ∧ b ≠ g) :
    Calls Tryd.prog 26 #[.slice (some ⟨g, 0, none⟩) (n + 1) (n + 1), .slice a n cap] w fun e w' => e = .returned (.bool true) ∧ Other g w w' := by
  have hg0 : w.heap[g]? = some (.cells (flat (hbackTo p 0)).toArray 24 (0, 0)) := by simpa [hbackTo] using hg
  have hr0 := flat_range hg0 (hbackTo_all hp 0) (i := n) (d := seven) (by rw [hbackTo_len (by omega)]; omega) (by simp [hbackTo, List.getD_eq_getElem?_getD, hl])
  have hnI : (n : Int) < (n : Int) + 1 := by omega
  have hi7 : (Tryd.prog.info? 24).map (·.size) = some (blist seven).length := info24s
  have heq7 : ∀ W, (Op.equalIn 10000 24 (.agg (blist seven).toArray) (.agg #[.int .u8 7, .int .u8 7, .int .u8 0, .int .u8 0, .int .u8 0, .int .u8 0, .int .u8 0, .int .u8 0, .int .u8 0, .int .u8 0, .int .u8 0, .int .u8 0, .int .u8 0, .int .u8 0, .int .u8 0, .int .u8 0, .int .u8 0, .int .u8 0, .int .u8 0, .int .u8 0, .int .u8 0, .int .u8 0, .int .u8 0, .int .u8 0, .int .u8 0, .int .u8 0, .int .u8 0, .int .u8 0, .int .u8 0, .int .u8 0, .int .u8 0, .int .u8 0])).run Tryd.prog W = .ok true W := fun W => by
    have := eq_row seven seven rfl rfl W
    rw [beq_self_eq_true] at this
    exact this
  have hg24 := guard_24
  have HS := hide hS
  have HG := hide hg0
  clear hS hg hg0
  go_enter Tryd.func26, Tryd.ntmps26
  go_wp2_with (refine wpList_load_mid rfl 24 _ rfl g (n * 32) rfl (blist seven) _ hr0 Tryd.underlying24 rfl hi7 ?_)
  clear heq7 hr0 hi7
  go_loopw [5, 6] (fun vo vi wr => ∃ i : Nat, i ≤ n ∧ vo = .bool true ∧ vi = .int .i64 i ∧ wr.heap[g]? = some (.cells (flat (hbackTo p i)).toArray 24 (0, 0)) ∧ Other g w wr) (fun _ vi _ => n - (intOf vi).toNat)
  case atStart =>
    exact ⟨0, Nat.zero_le _, rfl, rfl, unhide HG, ⟨rfl, rfl, Nat.le_refl _, fun _ _ _ => rfl⟩⟩
  case round =>
    obtain ⟨i, hi, rfl, rfl, hc, ho⟩ := hrel
    have hth : wr.there g (i * 32) (brow nine).size := there_at hc (i * 32) _ (by show i * 32 + 32 ≤ _; rw [List.size_toArray, flat_length (hbackTo_all hp i), hbackTo_len (by omega)]; omega)
    have hb9 := build9
    have hi9 : (Tryd.prog.info? 24).map (·.size) = some (brow nine).size := info24s
    have HF := hide (flat_store hc (hbackTo_all hp i) (i := i) (d := nine) (by rw [hbackTo_len (by omega)]; omega) rfl)
    by_cases hlt : i < n
    · obtain ⟨b, o, rfl, hs, hne⟩ := unhide HS (by omega)
      obtain ⟨B, hB⟩ : ∃ B, B = p.getD i [] := ⟨_, rfl⟩
      have hBl : B.length = 32 := by rw [hB]; exact hs.get (by omega)
      have hr1 := flat_range hc (hbackTo_all hp i) (i := i) (d := B) (by rw [hbackTo_len (by omega)]; omega) (by rw [hbackTo_get (by omega), hB])
      have hr2 : wr.rangeAt b (o + i * 32) (blist B) := by
        have := (Hshs.two hs (i := i) (by omega) hB).2
        intro j v hv
        rw [World.cell?_of_block (w := w) (ho.block b hs.lt hne)]
        exact this j v hv
      have hltI : (i : Int) < (n : Int) := by omega
      have hltJ : (i : Int) < (n : Int) + 1 := by omega
      have hi24 : (Tryd.prog.info? 24).map (·.size) = some (blist B).length := by have := rinfo hBl; rwa [brow_size, ← List.length_map (f := fun c : UInt8 => Value.int .u8 (c.toNat : Int))] at this
      have heq : ∀ W, (Op.equalIn 10000 24 (.agg (blist B).toArray) (.agg (blist B).toArray)).run Tryd.prog W = .ok true W := fun W => by
        have := eq_row B B hBl hBl W
        rw [beq_self_eq_true] at this
        exact this
      have HO := hide ho
      have HC := hide hc
      have HL := hide (hbackTo_set (p := p) (i := i) (by omega))
      clear hc ho hs hB
      go_wp2_with fail
      refine wp_region_quiet_lit (by kernel_rfl) (by kernel_rfl) ?_
      repeat (first
        | go_big_quiet_skip
        | (go_big_quiet_want; (first | (refine quiet_load_mid 24 _ rfl g _ rfl (blist B) _ (range_drewN hr1) Tryd.underlying24 rfl hi24 ?_; simp only [Act.put, List.setIfInBounds_toArray, List.set_cons_zero, List.set_cons_succ]) | (refine quiet_load_mid 24 _ rfl b _ rfl (blist B) _ (range_drewN hr2) Tryd.underlying24 rfl hi24 ?_; simp only [Act.put, List.setIfInBounds_toArray, List.set_cons_zero, List.set_cons_succ]) | go_big_quiet_op); go_big_quiet_on))
      refine wpQuiet_nil ?_
      rintro _ ⟨nq, rfl⟩
      have hth2 : (wr.drewN nq).there g (i * 32) (brow nine).size := hth
      go_wp2_with (refine wpList_store_mid rfl 24 (.tmp 35) (.tmp 34) rfl g (i * 32) (brow nine) ?h1 ?h2 ?h3 hi9 (brow_one _) ?h6)
      case h1 => rfl
      case h2 => rfl
      case h3 => exact hth2
      go_roundw
      case rel =>
        have h2 := flat_store (w := wr.drewN nq) (unhide HC) (hbackTo_all hp i) (i := i) (d := nine) (by rw [hbackTo_len (by omega)]; omega) rfl
        rw [unhide HL] at h2
        have h1 := unhide HO
        refine ⟨i + 1, by omega, rfl, by go_num, h2.1, ?_⟩
        exact ⟨h2.2.os.trans h1.os, h2.2.output.trans h1.output, Nat.le_trans h1.size h2.2.size, fun k hk hkg => (h2.2.block k (Nat.lt_of_lt_of_le hk h1.size) hkg).trans (h1.block k hk hkg)⟩
      case measure => simp [intOf]; omega
    · obtain rfl : i = n := by omega
      have HO := hide ho
      clear hc ho
      go_wp2_with (refine wpList_store_mid rfl 24 (.tmp 40) (.tmp 39) rfl g (i * 32) (brow nine) ?k1 ?k2 ?k3 hi9 (brow_one _) ?k6)
      case k1 => rfl
      case k2 => rfl
      case k3 => exact hth
      go_ret
      have h2 := (unhide HF).2
      have h1 := unhide HO
      exact ⟨rfl, ⟨h2.os.trans h1.os, h2.output.trans h1.output, Nat.le_trans h1.size h2.size, fun k hk hkg => (h2.block k (Nat.lt_of_lt_of_le hk h1.size) hkg).trans (h1.block k hk hkg)⟩⟩

end Go.Proofs.YtfodibjlldmnpaaDoor
