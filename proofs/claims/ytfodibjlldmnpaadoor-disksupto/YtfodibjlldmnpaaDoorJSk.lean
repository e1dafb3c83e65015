/-
  Sk, Sk2, Kp, Kp2, Lk, joined.
-/
import Derived.Test.YtfodibjlldmnpaaDoorJDnm
import Derived.Laws.AppendOwnNone
import Derived.Laws.CopyOwn
/-
  Sinks.
-/
namespace Go.Proofs.YtfodibjlldmnpaaDoor
open Go.RowKit

structure Snk where
  data : ByteArray
  app : Int
  fails : List Int
def icells (l : List Int) : List Value := l.map fun x => .int .i64 x
/-- A sink in memory. -/
structure SAt (B TD : Nat) (w : World) (p : Nat) (v : Value) (k : Snk) : Prop where
  at' : w.heap[p]? = some (.cells #[.string k.data, .int .i64 k.app, v] TD (0, 0))
  own : w.ownsRow B 3 1 v k.fails.length (icells k.fails)
theorem SAt.kept {B TD : Nat} {w w' : World} {p : Nat} {v : Value} {k : Snk} (h : SAt B TD w p v k) (hk : Kept w.heap.size w w') : SAt B TD w' p v k :=
  ⟨(hk.block _ (Array.getElem?_eq_some_iff.1 h.at').1).trans h.at', own_kept h.own hk⟩
theorem SAt.lt {B TD : Nat} {w : World} {p : Nat} {v : Value} {k : Snk} (h : SAt B TD w p v k) : p < w.heap.size := (Array.getElem?_eq_some_iff.1 h.at').1
theorem SAt.apart {B TD : Nat} {w : World} {p : Nat} {v : Value} {k : Snk} (h : SAt B TD w p v k) (ht : 3 ≠ TD) : v.ownBlock ≠ some p := own_ne_at h.own h.at' ht
theorem SAt.c0 {B TD : Nat} {w : World} {p : Nat} {v : Value} {k : Snk} (h : SAt B TD w p v k) : w.cell? ⟨p, 0, none⟩ = some (.string k.data) := by rw [cell_of_row _ _ _ _ _ _ h.at']; rfl
theorem SAt.c1 {B TD : Nat} {w : World} {p : Nat} {v : Value} {k : Snk} (h : SAt B TD w p v k) : w.cell? ⟨p, 1, none⟩ = some (.int .i64 k.app) := by rw [cell_of_row _ _ _ _ _ _ h.at']; rfl
theorem SAt.c2 {B TD : Nat} {w : World} {p : Nat} {v : Value} {k : Snk} (h : SAt B TD w p v k) : w.cell? ⟨p, 2, none⟩ = some v := by rw [cell_of_row _ _ _ _ _ _ h.at']; rfl
theorem SAt.fz {B TD : Nat} {w : World} {p : Nat} {v : Value} {k : Snk} (h : SAt B TD w p v k) (j : Nat) : w.frozen? ⟨p, j, none⟩ = false := frozen_of_row _ _ _ _ _ h.at'
theorem SAt.set0 {B TD : Nat} {w : World} {p : Nat} {v : Value} {k : Snk} (h : SAt B TD w p v k) (ht : 3 ≠ TD) (s : ByteArray) : SAt B TD (w.setCell ⟨p, 0, none⟩ (.string s)) p v { k with data := s } ∧ Upd p v v w (w.setCell ⟨p, 0, none⟩ (.string s)) :=
  ⟨⟨by rw [heap_setCell_same _ _ _ _ _ _ h.at']; rfl, own_blocks h.own fun k hk => heap_setCell_other _ _ _ _ fun e => h.apart ht (by rw [hk, e])⟩,
   ⟨rfl, rfl, by simp, fun k _ hp _ => heap_setCell_other _ _ _ _ hp, fun _ h => .inl h⟩⟩
theorem SAt.set1 {B TD : Nat} {w : World} {p : Nat} {v : Value} {k : Snk} (h : SAt B TD w p v k) (ht : 3 ≠ TD) (n : Int) : SAt B TD (w.setCell ⟨p, 1, none⟩ (.int .i64 n)) p v { k with app := n } ∧ Upd p v v w (w.setCell ⟨p, 1, none⟩ (.int .i64 n)) :=
  ⟨⟨by rw [heap_setCell_same _ _ _ _ _ _ h.at']; rfl, own_blocks h.own fun k hk => heap_setCell_other _ _ _ _ fun e => h.apart ht (by rw [hk, e])⟩,
   ⟨rfl, rfl, by simp, fun k _ hp _ => heap_setCell_other _ _ _ _ hp, fun _ h => .inl h⟩⟩
theorem SAt.set2 {B TD : Nat} {w w' : World} {p : Nat} {v v' : Value} {k : Snk} {l : List Int} (h : SAt B TD w p v k) (ht : 3 ≠ TD) (hat : w'.heap[p]? = w.heap[p]?) (ho : w'.ownsRow B 3 1 v' l.length (icells l)) (hu : Upd p v v' w w') :
    SAt B TD (w'.setCell ⟨p, 2, none⟩ v') p v' { k with fails := l } ∧ Upd p v v' w (w'.setCell ⟨p, 2, none⟩ v') := by
  have hat' := hat.trans h.at'
  refine ⟨⟨by rw [heap_setCell_same _ _ _ _ _ _ hat']; rfl, own_blocks ho fun k hk => heap_setCell_other _ _ _ _ fun e => own_ne_at ho hat' ht (by rw [hk, e])⟩, ?_⟩
  exact ⟨hu.os, hu.output, by simpa using hu.size, fun k hk hp hv => (heap_setCell_other _ _ _ _ hp).trans (hu.block k hk hp hv), hu.new⟩
theorem own_int1 {w : World} {B g n cap k : Nat} {l : List Int} (h : w.ownsRow B 3 1 (.slice (some ⟨g, 0, none⟩) n cap) n (icells l)) (hk : k < n) (hl : n = l.length) : w.cell? ⟨g, k, none⟩ = some (.int .i64 (l.getD k 0)) := by
  obtain ⟨g2, cap2, hv, hc⟩ := own_cell h hk
  cases hv
  rw [hc, icells, List.getD_eq_getElem?_getD, List.getD_eq_getElem?_getD, List.getElem?_map, List.getElem?_eq_getElem (by omega)]
  rfl
/-- What an Append on a sink answers and leaves. -/
def Snk.took (k : Snk) : Bool := !k.fails.contains (k.app + 1)
def Snk.append (k : Snk) (s : ByteArray) : Snk := if k.took then { k with app := k.app + 1, data := k.data ++ s } else { k with app := k.app + 1 }
theorem not_took {k : Snk} {i : Nat} (hi : i < k.fails.length) (h : k.fails.getD i 0 = k.app + 1) : k.took = false := by
  rw [Snk.took, List.contains_iff_mem.2]
  · rfl
  · rw [← h, List.getD_eq_getElem?_getD, List.getElem?_eq_getElem hi]; exact List.getElem_mem hi
theorem yes_took {k : Snk} (h : ∀ j, j < k.fails.length → k.fails.getD j 0 ≠ k.app + 1) : k.took = true := by
  rw [Snk.took]
  cases hq : k.fails.contains (k.app + 1)
  · rfl
  · obtain ⟨j, hj, he⟩ := List.getElem_of_mem (List.contains_iff_mem.1 hq)
    have := h j hj
    rw [List.getD_eq_getElem?_getD, List.getElem?_eq_getElem hj] at this
    exact absurd he this
/-- What a call on a sink leaves. -/
def skEnd (B TD : Nat) (w : World) (p : Nat) (v : Value) (r : Value) (k' : Snk) (e : Ending) (w' : World) : Prop := e = .returned r ∧ ∃ v', SAt B TD w' p v' k' ∧ Upd p v v' w w'
theorem skEnd_of {B TD : Nat} {w w' : World} {p : Nat} {v v' : Value} {r r' : Value} {k' k'' : Snk} (hr : r' = r) (hd : k'' = k') (h : SAt B TD w' p v' k'' ∧ Upd p v v' w w') : skEnd B TD w p v r k' (.returned r') w' := by
  subst hr; subst hd
  exact ⟨rfl, v', h⟩
set_option maxRecDepth 100000 in
set_option maxHeartbeats 1000000 in
theorem give_go (B : Nat) (w : World) (p : Nat) (v : Value) (k : Snk) (s : ByteArray) (h : SAt B 135 w p v k) (ha : 0 ≤ k.app ∧ k.app ≤ 4294967296) (hf : k.fails.length ≤ 4294967296) (hd : k.data.size ≤ 1099511627776) (hs : s.size ≤ 1099511627776) :
    Calls Tryd.prog 65 #[.pointer (some ⟨p, 0, none⟩), .string s] w (skEnd B 135 w p v (.bool k.took) (k.append s)) := by
  have h1 := h.c1
  have f1 := h.fz 1
  obtain ⟨ao, cap, rfl, hcap, hao⟩ := own_len h.own
  have H1 := hide (h.set1 (by decide) (k.app + 1))
  have h2 := (unhide H1).1.c2
  clear h
  go_enter Tryd.func65, Tryd.ntmps65
  go_wp2_with fail
  generalize w.setCell ⟨p, 1, none⟩ (.int .i64 (k.app + 1)) = w1 at H1 h2 ⊢
  have h1' := (unhide H1).1.c1
  simp only at h1'
  go_loopw [19] (fun vi wr => ∃ i : Nat, i ≤ k.fails.length ∧ vi = .int .i64 i ∧ (∀ j, j < i → k.fails.getD j 0 ≠ k.app + 1) ∧ wr = w1) (fun vi _ => k.fails.length - (intOf vi).toNat)
  case atStart => exact ⟨0, Nat.zero_le _, rfl, fun j hj => absurd hj (by omega), rfl⟩
  case round =>
    obtain ⟨i, hi, rfl, hb, rfl⟩ := hrel
    have HB := hide hb
    clear hb
    by_cases hlt : i < k.fails.length
    · obtain ⟨g, rfl⟩ := hao (by omega)
      have hiI : (i : Int) < (k.fails.length : Int) := by omega
      have hi0 : (0 : Int) ≤ (i : Int) := by omega
      have hc : wr.cell? ⟨g, i, none⟩ = some (.int .i64 (k.fails.getD i 0)) := own_int1 (unhide H1).1.own hlt rfl
      generalize hm : k.fails.getD i 0 = m at hc
      have HM := hide hm
      clear hm
      by_cases hmn : m = k.app + 1
      · have HT := hide (not_took hlt (by rw [unhide HM]; exact hmn))
        go_wp2
        all_goals go_ret
        all_goals exact skEnd_of (by rw [unhide HT]; rfl) (by rw [Snk.append, unhide HT]; rfl) (unhide H1)
      · go_wp2
        go_roundw
        case rel =>
          refine ⟨i + 1, by omega, by go_num, fun j hj => ?_, by trivial⟩
          rcases Nat.lt_or_ge j i with h3 | h3
          · exact unhide HB j h3
          · rw [show j = i by omega, unhide HM]; exact hmn
        case measure => simp [intOf]; omega
    · have hiI : ¬ (i : Int) < (k.fails.length : Int) := by omega
      have HT := hide (yes_took (k := k) fun j hj => unhide HB j (by omega))
      have c0 := (unhide H1).1.c0
      have f0 := (unhide H1).1.fz 0
      simp only at c0
      have h3 := (unhide H1).1.set0 (by decide) (k.data ++ s)
      have H3 := hide (And.intro h3.1 ((unhide H1).2.trans h3.2))
      clear h3
      go_wp2
      all_goals go_ret
      all_goals exact skEnd_of (by rw [unhide HT]; rfl) (by rw [Snk.append, unhide HT]; rfl) (unhide H3)
set_option maxRecDepth 100000 in
theorem sink_read_go (B : Nat) (w : World) (p : Nat) (v : Value) (k : Snk) (h : SAt B 135 w p v k) :
    Calls Tryd.prog 67 #[.pointer (some ⟨p, 0, none⟩)] w fun e w' => e = .returned (.string k.data) ∧ w' = w := by
  have h0 := h.c0
  clear h
  go_enter Tryd.func67, Tryd.ntmps67
  go_wp2
  all_goals go_ret
  all_goals exact ⟨rfl, rfl⟩
end Go.Proofs.YtfodibjlldmnpaaDoor
/-
  Sinks: the reference's Append; Fail; the law's lent numbers.
-/
namespace Go.Proofs.YtfodibjlldmnpaaDoor
open Go.RowKit

set_option maxRecDepth 100000 in
set_option maxHeartbeats 1000000 in
theorem give_ref (B : Nat) (w : World) (p : Nat) (v : Value) (k : Snk) (s : ByteArray) (h : SAt B 104 w p v k) (ha : 0 ≤ k.app ∧ k.app ≤ 4294967296) (hf : k.fails.length ≤ 4294967296) (hd : k.data.size ≤ 1099511627776) (hs : s.size ≤ 1099511627776) :
    Calls Tryd.prog 66 #[.pointer (some ⟨p, 0, none⟩), .string s] w (skEnd B 104 w p v (.bool k.took) (k.append s)) := by
  have h1 := h.c1
  have f1 := h.fz 1
  obtain ⟨ao, cap, rfl, hcap, hao⟩ := own_len h.own
  have H1 := hide (h.set1 (by decide) (k.app + 1))
  clear h
  go_enter Tryd.func66, Tryd.ntmps66
  go_wp2_with fail
  generalize w.setCell ⟨p, 1, none⟩ (.int .i64 (k.app + 1)) = w1 at H1 ⊢
  go_loopw [5] (fun vi wr => ∃ i : Nat, i ≤ k.fails.length ∧ vi = .int .i64 i ∧ (∀ j, j < i → k.fails.getD j 0 ≠ k.app + 1) ∧ Kept w1.heap.size w1 wr) (fun vi _ => k.fails.length - (intOf vi).toNat)
  case atStart => exact ⟨0, Nat.zero_le _, rfl, fun j hj => absurd hj (by omega), Kept.refl _ _⟩
  case round =>
    obtain ⟨i, hi, rfl, hb, hkk⟩ := hrel
    have HB := hide hb
    have H2 := hide (And.intro ((unhide H1).1.kept hkk) ((unhide H1).2.trans (.of_kept hkk)))
    have HK := hide hkk
    clear hb hkk
    have h2 := (unhide H2).1.c2
    have h1' := (unhide H2).1.c1
    simp only at h1' h2
    by_cases hlt : i < k.fails.length
    · obtain ⟨g, rfl⟩ := hao (by omega)
      have hiI : (i : Int) < (k.fails.length : Int) := by omega
      have hi0 : (0 : Int) ≤ (i : Int) := by omega
      have hc : wr.cell? ⟨g, i, none⟩ = some (.int .i64 (k.fails.getD i 0)) := own_int1 (unhide H2).1.own hlt rfl
      generalize hm : k.fails.getD i 0 = m at hc
      have HM := hide hm
      clear hm
      by_cases hmn : m = k.app + 1
      · have HT := hide (not_took hlt (by rw [unhide HM]; exact hmn))
        go_wp2_with fail
        go_quiet (fail)
        go_wp2_with fail
        all_goals go_ret
        all_goals exact skEnd_of (by rw [unhide HT]; rfl) (by rw [Snk.append, unhide HT]; rfl) ⟨(unhide H2).1.kept ((Kept.refl _ _).draws _), (unhide H2).2.trans (.of_kept ((Kept.refl _ _).draws _))⟩
      · go_wp2_with fail
        go_quiet (fail)
        go_wp2_with fail
        go_roundw
        case rel =>
          refine ⟨i + 1, by omega, by go_num, fun j hj => ?_, (unhide HK).trans ⟨rfl, rfl, Nat.le_refl _, fun _ _ => rfl⟩⟩
          rcases Nat.lt_or_ge j i with h3 | h3
          · exact unhide HB j h3
          · rw [show j = i by omega, unhide HM]; exact hmn
        case measure => simp [intOf]; omega
    · have hiI : ¬ (i : Int) < (k.fails.length : Int) := by omega
      have HT := hide (yes_took (k := k) fun j hj => unhide HB j (by omega))
      have c0 := (unhide H2).1.c0
      have f0 := (unhide H2).1.fz 0
      simp only at c0
      have h3 := (unhide H2).1.set0 (by decide) (k.data ++ s)
      have H3 := hide (And.intro h3.1 ((unhide H2).2.trans h3.2))
      clear h3
      go_wp2
      all_goals go_ret
      all_goals exact skEnd_of (by rw [unhide HT]; rfl) (by rw [Snk.append, unhide HT]; rfl) (unhide H3)
/-- An append on an owned row, of any number of things. -/
theorem run_append_fresh2 {P : Program} (w : World) (base : Nat) (t ty e : TypeId) (i : TypeInfo) (z : Value) (size bytes : Nat) (ht : P.underlying t = some (.slice e)) (hi : P.info? e = some i) (hz : i.zero = some z)
    (hsize : i.size = size) (hby : i.bytes = bytes) (hzs : z.cells.size = size) (hsz : 0 < size)
    (v : Value) (n : Nat) (xs : List Value) (hown : w.ownsRow base e size v n xs)
    (a : Addr) (m c : Nat) (news : List Value) (hl : news.length = m * size) (hnews : ∀ j u, news[j]? = some u → w.cell? (a.add j) = some u) (h1 : ∀ u ∈ news, u.oneCell' = true)
    (h63 : n + m ≤ maxLen) (hbytes : (n + m) * bytes ≤ 140737488355328) (hbase : base ≤ w.heap.size) :
    ∃ v' w', (Builtin.append_ #[t, t] ty #[v, .slice (some a) m c]).run P w = .ok v' w' ∧ w'.ownsRow base e size v' (n + m) (xs ++ news) ∧ w.grownBy w' v.ownBlock ∧
      (v'.ownBlock = v.ownBlock ∨ v'.ownBlock = some w.heap.size) := by
  by_cases hm : 0 < m
  · exact run_append_fresh w base t ty e i z size bytes ht hi hz hsize hby hzs hsz v n xs hown a m c news hl hnews h1 hm h63 hbytes hbase
  · obtain ⟨v', w', hr, ho, hg, hiff⟩ := run_append_own (P := P) w base t ty e i z size bytes ht hi hz hsize hby hzs hsz v n xs hown a m c news hl hnews h1 h63 hbytes hbase
    refine ⟨v', w', hr, ho, hg, ?_⟩
    rcases hown.2 with ⟨rfl, rfl⟩ | ⟨g, cap, cur, rfl, hb, hgg, hkc, hcm, hcs, htake⟩
    · rw [hiff.2 ⟨rfl, by omega⟩]; exact .inl rfl
    · have hr2 := run_append_room (P := P) w t ty e i ht hi g n cap cur hgg a m c news (by rw [hl, hsize]) hnews h1 (by omega) (by rw [hl, hsize, hcs, ← Nat.add_mul]; exact Nat.mul_le_mul_right _ (by omega))
      rw [hr2] at hr
      injection hr with hv _
      subst hv
      exact Or.inl rfl
/-- Numbers that a slice has. -/
def ISl (w : World) (v : Value) (L : List Int) : Prop :=
  (L = [] ∧ (v = .slice none 0 0 ∨ ∃ a cap, v = .slice (some a) 0 cap)) ∨ ∃ b o cap, 0 < L.length ∧ v = .slice (some ⟨b, o, none⟩) L.length cap ∧ L.length ≤ cap ∧ b < w.heap.size ∧ ∀ j, j < L.length → w.cell? ⟨b, o + j, none⟩ = some (.int .i64 (L.getD j 0))
theorem info3n : (Tryd.prog.info? 3).map (fun i => (i.zero, i.size, i.bytes)) = some (some (.int .i64 0), 1, 8) := by kernel_rfl
theorem info3s : (Tryd.prog.info? 3).map (·.size) = some 1 := by kernel_rfl
theorem ISl.kept {w w' : World} {v : Value} {L : List Int} (h : ISl w v L) (hk : Kept w.heap.size w w') : ISl w' v L := by
  rcases h with h | ⟨b, o, cap, hp, h1, h0, h2, h3⟩
  · exact .inl h
  · exact .inr ⟨b, o, cap, hp, h1, h0, Nat.lt_of_lt_of_le h2 hk.size, fun j hj => (hk.cell (p := ⟨b, o + j, none⟩) h2).trans (h3 j hj)⟩
theorem ISl.blocks {w w' : World} {v : Value} {L : List Int} (h : ISl w v L) (hs : w.heap.size ≤ w'.heap.size) (hk : 0 < L.length → ∀ k, v.ownBlock = some k → w'.heap[k]? = w.heap[k]?) : ISl w' v L := by
  rcases h with h | ⟨b, o, cap, hp, h1, h0, h2, h3⟩
  · exact .inl h
  · refine .inr ⟨b, o, cap, hp, h1, h0, Nat.lt_of_lt_of_le h2 hs, fun j hj => ?_⟩
    rw [World.cell?_of_block (w := w) (a := ⟨b, o + j, none⟩) (hk hp b (by rw [h1]; rfl))]
    exact h3 j hj
theorem ISl.slice {w : World} {v : Value} {L : List Int} (h : ISl w v L) : ∃ a n c, v = .slice a n c := by
  rcases h with ⟨_, rfl | ⟨a, c, rfl⟩⟩ | ⟨b, o, c, _, rfl, _⟩
  · exact ⟨_, _, _, rfl⟩
  · exact ⟨_, _, _, rfl⟩
  · exact ⟨_, _, _, rfl⟩
/-- As a slice and, if it has some, where they are. -/
theorem ISl.parts {w : World} {v : Value} {L : List Int} (h : ISl w v L) : ∃ a cap, v = .slice a L.length cap ∧ (0 < L.length → ∃ b o, a = some ⟨b, o, none⟩ ∧ b < w.heap.size ∧ ∀ j, j < L.length → w.cell? ⟨b, o + j, none⟩ = some (.int .i64 (L.getD j 0))) := by
  rcases h with ⟨rfl, rfl | ⟨a, c, rfl⟩⟩ | ⟨b, o, c, hp, rfl, h0, h2, h3⟩
  · exact ⟨none, 0, rfl, fun h => absurd h (by simp)⟩
  · exact ⟨_, c, rfl, fun h => absurd h (by simp)⟩
  · exact ⟨_, c, rfl, fun _ => ⟨b, o, rfl, h2, h3⟩⟩
theorem wpList_append_ints {w : World} {ops : Array Oper} {rest : List Oper} {o : Oper} {act : Act} {Q : Exit → Act → World → Prop} (hgd : o.guard = none) (s x : Operand)
    (ho : o.op = .call { callee := .builtin .append, args := #[s, x], argTypes := #[34, 34] }) (B : Nat)
    (v : Value) (hs : act.eval s = v) (hown : w.ownsRow B 3 1 v 0 []) (vx : Value) (L : List Int) (hL : L.length ≤ 4294967296)
    (hx : act.eval x = vx) (hI : ISl w vx L) (hB : B ≤ w.heap.size)
    (h : ∀ v' w', w'.ownsRow B 3 1 v' L.length (icells L) → w.grownBy w' v.ownBlock → (v'.ownBlock = v.ownBlock ∨ v'.ownBlock = some w.heap.size) → wpList Tryd.prog ops Q rest (act.put o.dst v') w') : wpList Tryd.prog ops Q (o :: rest) act w := by
  obtain ⟨i0, hi0, hz0, hz1, hz2⟩ := info_parts info3n
  by_cases hnone : vx = .slice none 0 0
  · subst hnone
    obtain rfl : L = [] := by
      rcases hI with ⟨rfl, _⟩ | ⟨b, off, cap, _, h, _⟩
      · rfl
      · cases h
    exact wpList_append_own_none hgd s x 34 ho B 3 i0 1 Tryd.underlying34 hi0 v 0 [] hs hown hx (h v w hown ⟨rfl, rfl, rfl, Nat.le_refl _, fun _ _ _ => rfl⟩ (.inl rfl))
  · obtain ⟨ad, cap, rfl, h3⟩ : ∃ ad cap, vx = .slice (some ad) L.length cap ∧ ∀ j, j < L.length → w.cell? (ad.add j) = some (.int .i64 (L.getD j 0)) := by
      rcases hI with ⟨rfl, rfl | ⟨a, c, rfl⟩⟩ | ⟨b, off, cap, _, rfl, _, _, h3⟩
      · exact absurd rfl hnone
      · exact ⟨a, c, rfl, fun j hj => absurd hj (by simp)⟩
      · exact ⟨_, cap, rfl, fun j hj => by rw [add_addr]; exact h3 j hj⟩
    refine wpList_plain hgd fun K hK => ?_
    obtain ⟨v', w', hr, h4, h5, h6⟩ := run_append_fresh2 (P := Tryd.prog) w B 34 o.type 3 i0 _ 1 8 Tryd.underlying34 hi0 hz0 hz1 hz2 rfl (by decide) v 0 [] hown ad L.length cap (icells L) (by simp [icells]) (fun j u hu => by
      rw [icells, List.getElem?_map] at hu
      obtain ⟨y, hy, rfl⟩ := Option.map_eq_some_iff.1 hu
      have hj := (List.getElem?_eq_some_iff.1 hy).1
      rw [h3 j hj, List.getD_eq_getElem?_getD, hy]; rfl) (by
      intro u hu
      obtain ⟨y, _, rfl⟩ := List.mem_map.1 hu
      rfl) (by unfold maxLen; omega) (by omega) hB
    rw [Nat.zero_add, List.nil_append] at h4
    unfold Oper.wp
    simp [execOp, ho, resolve, invoke, builtin, hs, hx, hr, Result.andThen]
    exact hK _ _ (h v' w' h4 h5 h6)
theorem fail_upd {w1 w2 : World} {p g : Nat} {v v2 : Value} (hg : g = w1.heap.size) (hw : (w1.alloc (.cells #[] 3)).grownBy w2 (some g)) (hf : v2.ownBlock = some g ∨ v2.ownBlock = some (w1.alloc (.cells #[] 3)).heap.size) : Upd p v v2 w1 w2 := by
  have hs := hw.size
  simp only [World.size_alloc] at hs
  refine ⟨hw.os, hw.output, by omega, fun k hk _ _ => (hw.block k (by simp; omega) (by simp; omega)).trans (Below.heap_alloc _ _ _ hk), fun k hk => .inr ?_⟩
  rcases hf with hf | hf <;> rw [hf] at hk <;> simp only [World.size_alloc, Option.some.injEq] at hk <;> omega
def Snk.fail (k : Snk) (L : List Int) : Snk := { k with app := 0, fails := L }
set_option maxRecDepth 100000 in
set_option maxHeartbeats 1000000 in
theorem fail_go (B : Nat) (w : World) (p : Nat) (v : Value) (k : Snk) (vx : Value) (L : List Int) (h : SAt B 135 w p v k) (hB : B ≤ w.heap.size) (hL : L.length ≤ 4294967296) (hI : ISl w vx L) (hne : 0 < L.length → vx.ownBlock ≠ some p) :
    Calls Tryd.prog 69 #[.pointer (some ⟨p, 0, none⟩), vx] w (skEnd B 135 w p v (.tuple #[]) (k.fail L)) := by
  have h1 := h.c1
  have f1 := h.fz 1
  have H1 := hide (h.set1 (by decide) 0)
  have HI := hide (hI.blocks (w' := w.setCell ⟨p, 1, none⟩ (.int .i64 0)) (by simp) fun hp j hj => heap_setCell_other _ _ _ _ fun e => hne hp (by rw [hj, e]))
  have hB1 : B ≤ (w.setCell ⟨p, 1, none⟩ (.int .i64 0)).heap.size := by simpa using hB
  have hvx := hI.slice
  obtain ⟨xa, xn, xc, rfl⟩ := hvx
  clear h hI
  go_enter Tryd.func69, Tryd.ntmps69
  go_wp2_with (refine wpList_halt2 (.tmp 8) (.tmp 9) 34 rfl ?_)
  refine Stp.mk ?_
  have HWS := hide (show (w.setCell ⟨p, 1, none⟩ (.int .i64 0)).heap.size = w.heap.size from by simp)
  generalize w.setCell ⟨p, 1, none⟩ (.int .i64 0) = w1 at H1 HI hB1 HWS ⊢
  have hw1 : w1.heap.size = w.heap.size := unhide HWS
  have ho0 : (w1.alloc (.cells #[] 3)).ownsRow B 3 1 (.slice (some ⟨w.heap.size, 0, none⟩) 0 0) 0 [] :=
    ⟨rfl, .inr ⟨w.heap.size, 0, #[], rfl, by omega, by rw [← hw1]; exact heap_alloc_new _ _, Nat.le_refl _, by decide, rfl, rfl⟩⟩
  refine wpList_append_ints rfl (.tmp 8) (.tmp 9) rfl B (.slice (some ⟨w.heap.size, 0, none⟩) 0 0) rfl ho0 _ L hL rfl ((unhide HI).kept ((Kept.refl _ _).alloc (Nat.le_refl _) _)) (by simp; omega) ?_
  intro v2 w2 ho2 hg2 hf2
  have hu := fail_upd (p := p) (v := v) hw1.symm hg2 hf2
  have hat : w2.heap[p]? = w1.heap[p]? := (hg2.block p (by have := (unhide H1).1.lt; simp; omega) (by have := (unhide H1).1.lt; simp [Value.ownBlock]; omega)).trans (Below.heap_alloc _ _ _ (unhide H1).1.lt)
  have h3 := (unhide H1).1.set2 (by decide) hat ho2 hu
  have hc2 : w2.cell? ⟨p, 2, none⟩ = some v := by rw [cell_of_row _ _ _ _ _ _ (hat.trans (unhide H1).1.at')]; rfl
  have hz2 : w2.frozen? ⟨p, 2, none⟩ = false := frozen_of_row _ _ _ _ _ (hat.trans (unhide H1).1.at')
  obtain ⟨a2, c2, rfl, _, _⟩ := own_len ho2
  have H3 := hide (And.intro h3.1 ((unhide H1).2.trans h3.2))
  clear h3 ho2 hg2 hf2 hu hat ho0
  simp only [Act.put, List.setIfInBounds_toArray, List.set_cons_zero, List.set_cons_succ]
  go_wp2
  all_goals exact end0 Tryd.results69 rfl (skEnd_of rfl rfl (unhide H3))
set_option maxRecDepth 100000 in
set_option maxHeartbeats 1000000 in
theorem fail_ref (B : Nat) (w : World) (p : Nat) (v : Value) (k : Snk) (vx : Value) (L : List Int) (h : SAt B 104 w p v k) (hB : B ≤ w.heap.size) (hL : L.length ≤ 4294967296) (hI : ISl w vx L) (hne : 0 < L.length → vx.ownBlock ≠ some p) :
    Calls Tryd.prog 70 #[.pointer (some ⟨p, 0, none⟩), vx] w (skEnd B 104 w p v (.tuple #[]) (k.fail L)) := by
  have h1 := h.c1
  have f1 := h.fz 1
  have hs1 := h.set1 (by decide) 0
  have c2 := hs1.1.c2
  have f2 := hs1.1.fz 2
  have hs2 := hs1.1.set2 (v' := .slice none 0 0) (l := []) (by decide) rfl (World.ownsRow_nil _ _ _ _) ⟨rfl, rfl, Nat.le_refl _, fun _ _ _ _ => rfl, fun k hk => by simp [Value.ownBlock] at hk⟩
  have H2 := hide (And.intro hs2.1 (hs1.2.trans hs2.2))
  have c3 := hs2.1.c2
  have f3 := hs2.1.fz 2
  have HI := hide (hI.blocks (w' := (w.setCell ⟨p, 1, none⟩ (.int .i64 0)).setCell ⟨p, 2, none⟩ (.slice none 0 0)) (by simp) fun hp j hj => (heap_setCell_other _ _ _ _ fun e => hne hp (by rw [hj, e])).trans (heap_setCell_other _ _ _ _ fun e => hne hp (by rw [hj, e])))
  have hB1 : B ≤ ((w.setCell ⟨p, 1, none⟩ (.int .i64 0)).setCell ⟨p, 2, none⟩ (.slice none 0 0)).heap.size := by simpa using hB
  have hvx := hI.slice
  obtain ⟨xa, xn, xc, rfl⟩ := hvx
  clear h hI hs1 hs2
  go_enter Tryd.func70, Tryd.ntmps70
  go_wp2_with (refine wpList_halt2 (.tmp 14) (.tmp 15) 34 rfl ?_)
  refine Stp.mk ?_
  generalize (w.setCell ⟨p, 1, none⟩ (.int .i64 0)).setCell ⟨p, 2, none⟩ (.slice none 0 0) = w1 at H2 HI hB1 c3 f3 ⊢
  refine wpList_append_ints rfl (.tmp 14) (.tmp 15) rfl B (.slice none 0 0) rfl (World.ownsRow_nil _ _ _ _) _ L hL rfl (unhide HI) hB1 ?_
  intro v2 w2 ho2 hg2 hf2
  have hu : Upd p (.slice none 0 0) v2 w1 w2 := ⟨hg2.os, hg2.output, hg2.size, fun k hk _ hv => hg2.block k hk fun e => hv e.symm, fun k hk => by
    rcases hf2 with e | e
    · rw [e] at hk; exact .inl hk
    · rw [e] at hk; simp only [Option.some.injEq] at hk; exact .inr (by omega)⟩
  have hat : w2.heap[p]? = w1.heap[p]? := hg2.block p (unhide H2).1.lt (by simp [Value.ownBlock])
  have h3 := (unhide H2).1.set2 (by decide) hat ho2 hu
  have hc2 : w2.cell? ⟨p, 2, none⟩ = some (.slice none 0 0) := by rw [cell_of_row _ _ _ _ _ _ (hat.trans (unhide H2).1.at')]; rfl
  have hz2 : w2.frozen? ⟨p, 2, none⟩ = false := frozen_of_row _ _ _ _ _ (hat.trans (unhide H2).1.at')
  obtain ⟨a2, c2', rfl, _, _⟩ := own_len ho2
  have H3 := hide (And.intro h3.1 ((unhide H2).2.trans h3.2))
  clear h3 ho2 hg2 hf2 hu hat
  simp only [Act.put, List.setIfInBounds_toArray, List.set_cons_zero, List.set_cons_succ]
  go_wp2
  all_goals exact end0 Tryd.results70 rfl (skEnd_of rfl rfl (unhide H3))
theorem make_ints (r : Nat) (E : Int) (hE : E = (r : Int)) (hr : 8 * r ≤ 281474976710656) (w : World) :
    (Instr.makeSlice 34 (.int .i64 E) (.int .i64 E)).run Tryd.prog w = .ok (.slice (some ⟨w.heap.size, 0, none⟩) r r) (w.alloc (.cells (List.replicate r (Value.int .i64 0)).toArray 3)) := by
  subst hE
  have : (List.replicate r (Value.int .i64 0)).toArray = madeCells #[.int .i64 0] r := by
    apply Array.ext'
    rw [toList_madeCells_one]
  rw [this]
  exact run_make_row' 34 3 (.int .i64 0) 8 Tryd.underlying34 info3n rfl .i64 .i64 r (by omega) (by omega) w
theorem lent_irow (L : List Int) (n : Nat) (hl : L.length = n) : ((splice (List.replicate (n + 1) (Value.int .i64 0)) 0 (icells L)).toArray).setIfInBounds n (.int .i64 (-77)) = (icells (L ++ [-77])).toArray := by
  subst hl
  have : splice (List.replicate (L.length + 1) (Value.int .i64 0)) 0 (icells L) = icells (L ++ [0]) := by
    simp [splice, List.replicate_succ', icells]
  rw [this]
  apply Array.ext'
  simp [icells]
theorem icells_one (L : List Int) : ∀ v ∈ icells L, v.oneCell' = true := by
  intro v hv
  obtain ⟨s, _, rfl⟩ := List.mem_map.1 hv
  rfl
set_option maxRecDepth 100000 in
set_option maxHeartbeats 1000000 in
theorem lentI_go (w : World) (vx : Value) (L : List Int) (hL : L.length ≤ 4294967296) (hI : ISl w vx L) :
    Calls Tryd.prog 68 #[vx] w fun e w' => e = .returned (.slice (some ⟨w.heap.size, 0, none⟩) (L.length + 1) (L.length + 1)) ∧ w'.heap[w.heap.size]? = some (.cells (icells (L ++ [-77])).toArray 3 (0, 0)) ∧ Kept w.heap.size w w' := by
  obtain ⟨a, cap, rfl, hS⟩ := hI.parts
  have hmk := make_ints (L.length + 1) ((L.length : Int) + 1) (by omega) (by omega)
  have hpos : ∀ O, 0 < (icells L).length → (some ⟨w.heap.size, 0, none⟩ : Option Addr) = some ⟨w.heap.size, 0, none⟩ ∧ ∃ ad, a = some ad ∧ ∀ j v, (icells L)[j]? = some v → (w.alloc O).cell? (ad.add j) = some v := by
    intro O hp
    obtain ⟨b, o, ha, hb, hs⟩ := hS (by simpa [icells] using hp)
    refine ⟨rfl, _, ha, fun j v hv => ?_⟩
    rw [add_addr]
    rw [icells, List.getElem?_map] at hv
    obtain ⟨s, hs1, rfl⟩ := Option.map_eq_some_iff.1 hv
    have hj := (List.getElem?_eq_some_iff.1 hs1).1
    have := hs j hj
    rw [List.getD_eq_getElem?_getD, hs1] at this
    rw [World.cell?_alloc_lt _ _ _ hb]
    exact this
  have HS := hide hpos
  clear hS hpos hI
  generalize hn : L.length = n at *
  go_enter Tryd.func68, Tryd.ntmps68
  go_wp2_with (refine wpList_copy_splice rfl (.tmp 8) (.tmp 9) 34 34 rfl 3 Tryd.underlying34 info3s (some ⟨w.heap.size, 0, none⟩) a (n + 1) (n + 1) n cap rfl rfl w.heap.size 0 (List.replicate (n + 1) (Value.int .i64 0)) 3 (heap_alloc_new _ _) (icells L) (by rw [icells, List.length_map, hn]; exact (Nat.min_eq_left (by omega)).symm) (fun h => unhide HS _ h) (by simp [icells]; omega) (icells_one L) w.heap.size w ((Below.refl _ _).alloc (Nat.le_refl _) _) (Nat.le_refl _) ?_)
  all_goals
    intro w1 hw1 hb1
    have hsz : (splice (List.replicate (n + 1) (Value.int .i64 0)) 0 (icells L)).length = n + 1 := by
      rw [length_splice _ _ _ (by simp [icells]; omega)]; simp
    obtain ⟨u, hu⟩ : ∃ u, (splice (List.replicate (n + 1) (Value.int .i64 0)) 0 (icells L))[n]? = some u := ⟨_, List.getElem?_eq_getElem (by omega)⟩
    have hc : w1.cell? ⟨w.heap.size, n, none⟩ = some u := (cell_of_row _ _ _ _ _ _ hw1.out).trans (by rw [List.getElem?_toArray]; exact hu)
    clear hu
    have hf := frozen_of_row _ _ n _ _ hw1.out
    have HB := hide hb1
    clear hb1 hsz
    have hnI : (n : Int) < (n : Int) + 1 := by omega
    go_wp2_with fail
    go_ret
    refine ⟨rfl, ?_, .of ((unhide HB).setCell (Nat.le_refl _) _)⟩
    rw [heap_setCell_same _ _ _ _ _ _ hw1.out, lent_irow L n hn]
def snk0 : Snk := ⟨.empty, 0, []⟩
set_option maxRecDepth 100000 in
theorem new_sink_go (B : Nat) (w : World) : Calls Tryd.prog 64 #[] w fun e w' => e = .returned (.pointer (some ⟨w.heap.size, 0, none⟩)) ∧ SAt B 135 w' w.heap.size (.slice none 0 0) snk0 ∧ Kept w.heap.size w w' := by
  go_enter Tryd.func64, Tryd.ntmps64
  go_wp2
  all_goals go_ret
  all_goals exact ⟨rfl, ⟨heap_alloc_new _ _, World.ownsRow_nil _ _ _ _⟩, (Kept.refl _ _).alloc (Nat.le_refl _) _⟩
end Go.Proofs.YtfodibjlldmnpaaDoor
/-
  Lists of strings that all hold one mark; an append of the mark keeps them so.
-/
namespace Go.Proofs.YtfodibjlldmnpaaDoor
open Go.RowKit

abbrev rep (m : ByteArray) (n : Nat) : List Value := List.replicate n (.string m)
theorem rep_get {m : ByteArray} {n q : Nat} (h : q < n) : (rep m n)[q]? = some (.string m) := by rw [List.getElem?_replicate, if_pos h]
set_option maxRecDepth 100000 in
theorem run_append_rep (w : World) (base : Nat) (ty : TypeId) (m : ByteArray) (v : Value) (n : Nat) (hown : w.ownsRow base 9 1 v n (rep m n))
    (a : Addr) (j c : Nat) (hnews : ∀ q u, (rep m j)[q]? = some u → w.cell? (a.add q) = some u) (hj : 0 < j) (h63 : n + j ≤ 4294967296) (hbase : base ≤ w.heap.size) :
    ∃ v' w', (Builtin.append_ #[30, 30] ty #[v, .slice (some a) j c]).run Tryd.prog w = .ok v' w' ∧ w'.ownsRow base 9 1 v' (n + j) (rep m (n + j)) ∧ w.grownBy w' v.ownBlock ∧ (v'.ownBlock = v.ownBlock ∨ v'.ownBlock = some w.heap.size) ∧
      (∀ x k, w.ownsRow base 9 1 x k (rep m k) → w'.ownsRow base 9 1 x k (rep m k)) := by
  obtain ⟨i, hi, hz, hsize, hby⟩ := info_parts info9n
  have ht := Tryd.underlying30
  have h1 : ∀ u ∈ rep m j, u.oneCell' = true := fun u hu => by rw [List.eq_of_mem_replicate hu]; rfl
  obtain ⟨v', w', hr, ho, hg, hf⟩ := run_append_fresh (P := Tryd.prog) w base 30 ty 9 i _ 1 16 ht hi hz hsize hby rfl (by decide) v n (rep m n) hown a j c (rep m j) (by simp) hnews h1 hj (by unfold maxLen; omega) (by omega) hbase
  refine ⟨v', w', hr, by rw [rep, ← List.replicate_append_replicate]; exact ho, hg, hf, fun x k hx => ?_⟩
  rcases hx.2 with ⟨rfl, rfl⟩ | ⟨g, cap, cur, rfl, hb, hgg, hkc, hcm, hcs, htake⟩
  · exact ⟨hx.1, .inl ⟨rfl, rfl⟩⟩
  · by_cases hne : some g = v.ownBlock
    · rcases hown.2 with ⟨rfl, _⟩ | ⟨g2, cap2, cur2, rfl, hb2, hg2, hnc2, hcm2, hcs2, htake2⟩
      · simp [Value.ownBlock] at hne
      · simp only [Value.ownBlock, Option.some.injEq] at hne
        subst hne
        rw [hgg] at hg2
        simp only [Option.some.injEq, Obj.cells.injEq, and_true] at hg2
        subst hg2
        have hrl : (rep m j).length = j := by simp
        by_cases hroom : n + j ≤ cap2
        · have hr2 := run_append_room (P := Tryd.prog) w 30 ty 9 i ht hi g n cap2 cur hgg a j c (rep m j) (by rw [hrl, hsize, Nat.mul_one]) hnews h1 hroom (by rw [hrl, hsize, hcs2]; omega)
          rw [hr2] at hr
          injection hr with _ hw
          subst hw
          refine ⟨hx.1, .inr ⟨g, cap, _, rfl, hb, setRow_heap w g cur _ 9 _ hgg, hkc, hcm, ?_, ?_⟩⟩
          · simp only [List.size_toArray, List.length_append, List.length_take, List.length_drop, Array.length_toList, hrl, hsize]
            rw [← hcs]
            omega
          · rw [hsize]
            apply List.ext_getElem?
            intro q
            have hq0 : ∀ q, q < k → cur.toList[q]? = some (.string m) := fun q hq => by
              rw [← rep_get (m := m) hq, ← htake, List.getElem?_take, if_pos (by omega)]
            have hq1 : ∀ q, q < n → cur.toList[q]? = some (.string m) := fun q hq => by
              rw [← rep_get (m := m) hq, ← htake2, List.getElem?_take, if_pos (by omega)]
            rw [List.getElem?_take]
            by_cases hq : q < k
            · rw [if_pos (by omega), rep_get hq]
              simp only []
              by_cases h1 : q < n
              · rw [List.append_assoc, List.getElem?_append_left (by rw [List.length_take, Array.length_toList]; omega), List.getElem?_take, if_pos (by omega), hq1 q h1]
              · by_cases h2 : q < n + j
                · rw [List.append_assoc, List.getElem?_append_right (by rw [List.length_take, Array.length_toList]; omega), List.getElem?_append_left (by rw [hrl, List.length_take, Array.length_toList]; omega), List.length_take, Array.length_toList, rep_get (by omega)]
                · rw [List.getElem?_append_right (by rw [List.length_append, hrl, List.length_take, Array.length_toList]; omega), List.getElem?_drop, List.length_append, hrl, List.length_take, Array.length_toList, ← hq0 q hq]
                  congr 1
                  omega
            · rw [if_neg (by omega), List.getElem?_eq_none (by simp; omega)]
        · have hr2 := run_append_grow (P := Tryd.prog) w 30 ty 9 i _ ht hi hz ⟨g, 0, none⟩ n cap2 (rep m n) (by rw [hsize]; simp) (hown.cells (g := g) rfl) a j c (rep m j) (by rw [hrl, hsize, Nat.mul_one]) hnews (by omega) (by omega) (growslice_fits (by omega) (by rw [hby]; omega))
          rw [hr2] at hr
          injection hr with _ hw
          subst hw
          exact ⟨hx.1, .inr ⟨g, cap, cur, rfl, hb, (Below.heap_alloc w.drew _ g (Array.getElem?_eq_some_iff.1 hgg).1).trans hgg, hkc, hcm, hcs, htake⟩⟩
    · exact hx.kept hg (Or.inr (fun e => hne (by rw [← e]; rfl)))
theorem wpList_append_rep {w : World} {ops : Array Oper} {rest : List Oper} {o : Oper} {act : Act} {Q : Exit → Act → World → Prop} (hgd : o.guard = none) (s x : Operand)
    (ho : o.op = .call { callee := .builtin .append, args := #[s, x], argTypes := #[30, 30] }) (base : Nat)
    (m : ByteArray) (v : Value) (n : Nat) (hs : act.eval s = v) (hown : w.ownsRow base 9 1 v n (rep m n))
    (a : Addr) (j c : Nat) (hx : act.eval x = .slice (some a) j c) (hnews : ∀ q u, (rep m j)[q]? = some u → w.cell? (a.add q) = some u) (hj : 0 < j) (h63 : n + j ≤ 4294967296) (hbase : base ≤ w.heap.size)
    (h : ∀ v' w', w'.ownsRow base 9 1 v' (n + j) (rep m (n + j)) → w.grownBy w' v.ownBlock → (v'.ownBlock = v.ownBlock ∨ v'.ownBlock = some w.heap.size) → (∀ y k, w.ownsRow base 9 1 y k (rep m k) → w'.ownsRow base 9 1 y k (rep m k)) → wpList Tryd.prog ops Q rest (act.put o.dst v') w') : wpList Tryd.prog ops Q (o :: rest) act w := by
  refine wpList_plain hgd fun K hK => ?_
  obtain ⟨v', w', hr, h2, h3, h4, h5⟩ := run_append_rep w base o.type m v n hown a j c hnews hj h63 hbase
  unfold Oper.wp
  simp [execOp, ho, resolve, invoke, builtin, hs, hx, hr, Result.andThen]
  exact hK _ _ (h v' w' h2 h3 h4 h5)
end Go.Proofs.YtfodibjlldmnpaaDoor
/-
  shelf.keeps.
-/
namespace Go.Proofs.YtfodibjlldmnpaaDoor
open Go.RowKit

/-- The lists of names that came out, each with its mark. -/
structure Ng (B : Nat) (w : World) (vn vm : Value) (ls : List Value) (ms : List ByteArray) : Prop where
  n : w.ownsRow B 30 1 vn ls.length ls
  m : w.ownsRow B 9 1 vm ms.length (scells ms)
  len : ls.length = ms.length
  each : ∀ k, k < ls.length → ∃ len, len ≤ 4294967000 ∧ w.ownsRow B 9 1 (ls.getD k undef) len (rep (ms.getD k .empty) len) ∧ ∀ b, (ls.getD k undef).ownBlock = some b → vm.ownBlock ≠ some b
theorem Ng.kept {B : Nat} {w w' : World} {vn vm : Value} {ls : List Value} {ms : List ByteArray} (h : Ng B w vn vm ls ms) (hk : Kept w.heap.size w w') : Ng B w' vn vm ls ms :=
  ⟨own_kept h.n hk, own_kept h.m hk, h.len, fun k hl => by
    obtain ⟨len, h1, h2, h3⟩ := h.each k hl
    exact ⟨len, h1, own_kept h2 hk, h3⟩⟩
/-- Rows of marks. -/
structure Kw (w0 : World) (m : ByteArray) (rows : List (Value × Nat)) (wx : World) : Prop where
  kept : Kept w0.heap.size w0 wx
  own : ∀ r ∈ rows, wx.ownsRow w0.heap.size 9 1 r.1 r.2 (rep m r.2)
theorem Kw.next {w0 : World} {m : ByteArray} {rows : List (Value × Nat)} {wx wy : World} (h : Kw w0 m rows wx) (hk : Kept wx.heap.size wx wy) : Kw w0 m rows wy :=
  ⟨h.kept.trans (hk.mono h.kept.size), fun r hr => own_kept (h.own r hr) hk⟩
theorem Kw.app {w0 : World} {m : ByteArray} {rows : List (Value × Nat)} {wx wy : World} (h : Kw w0 m rows wx) {v v' : Value} {n n' : Nat} {O : Obj} (hv : (v, n) ∈ rows) (ho : wy.ownsRow w0.heap.size 9 1 v' n' (rep m n')) (hg : (wx.alloc O).grownBy wy v.ownBlock)
    (hall : ∀ y k, (wx.alloc O).ownsRow w0.heap.size 9 1 y k (rep m k) → wy.ownsRow w0.heap.size 9 1 y k (rep m k)) : Kw w0 m ((v', n') :: rows) wy := by
  refine ⟨h.kept.trans ⟨hg.os, hg.output, ?_, fun k hk => (hg.block k (by have := h.kept.size; simp; omega) fun e => ?_).trans (Below.heap_alloc _ _ _ (Nat.lt_of_lt_of_le hk h.kept.size))⟩, fun r hr => ?_⟩
  · have := hg.size; simp at this; omega
  · have := ((h.own _ hv).lt k e.symm).1; omega
  · rcases List.mem_cons.1 hr with rfl | hr
    · exact ho
    · exact hall _ _ ((h.own r hr).alloc _)
theorem Kw.sub {w0 : World} {m : ByteArray} {rows rows' : List (Value × Nat)} {wx : World} (h : Kw w0 m rows wx) (hs : ∀ r ∈ rows', r ∈ rows) : Kw w0 m rows' wx := ⟨h.kept, fun r hr => h.own r (hs r hr)⟩
theorem rep_mid {m : ByteArray} {l : List ByteArray} {i : Nat} (hi : i < l.length) : (List.replicate i m ++ l.drop i).set i m = List.replicate (i + 1) m ++ l.drop (i + 1) := by
  rw [List.set_append_right _ _ (by simp), List.length_replicate, Nat.sub_self, List.replicate_succ', List.append_assoc]
  congr 1
  rw [List.drop_eq_getElem_cons hi]
  rfl
theorem scells_rep (m : ByteArray) (n : Nat) : scells (List.replicate n m) = rep m n := by simp [scells]
theorem info30n : (Tryd.prog.info? 30).map (fun i => (i.zero, i.size, i.bytes)) = some (some (.slice none 0 0), 1, 24) := by kernel_rfl
theorem ng_end {B g : Nat} {w0 wc wd wf : World} {vl vs vn vm vn' vm' : Value} {ls : List Value} {ms : List ByteArray} {m : ByteArray} {rows : List (Value × Nat)} {O1 O2 : Obj} (hB : B ≤ w0.heap.size) (hat : w0.heap[g]? = some (.cells #[vl, vs, vn, vm] 32 (0, 0))) (hN : Ng B w0 vn vm ls ms) (hK : Kw w0 m rows wc) (hr4 : rows.length = 4) (hr : ∀ r ∈ rows, r.2 ≤ 4294967000)
    (hd : wd.ownsRow B 30 1 vn' (ls.length + 4) (ls ++ rows.map (·.1))) (hgd : (wc.alloc O1).grownBy wd vn.ownBlock)
    (he : wf.ownsRow B 9 1 vm' (ms.length + 4) (scells ms ++ rep m 4)) (hge : ((wd.setCell ⟨g, 2, none⟩ vn').alloc O2).grownBy wf vm.ownBlock) (hfe : vm'.ownBlock = vm.ownBlock ∨ vm'.ownBlock = some ((wd.setCell ⟨g, 2, none⟩ vn').alloc O2).heap.size) :
    (wf.setCell ⟨g, 3, none⟩ vm').heap[g]? = some (.cells #[vl, vs, vn', vm'] 32 (0, 0)) ∧ Ng B (wf.setCell ⟨g, 3, none⟩ vm') vn' vm' (ls ++ rows.map (·.1)) (ms ++ List.replicate 4 m) ∧ (ls ++ rows.map (·.1)).length = ls.length + 4 ∧
      (wf.setCell ⟨g, 3, none⟩ vm').os = w0.os ∧ (wf.setCell ⟨g, 3, none⟩ vm').output = w0.output ∧ w0.heap.size ≤ (wf.setCell ⟨g, 3, none⟩ vm').heap.size ∧ (∀ k, k < w0.heap.size → k ≠ g → vn.ownBlock ≠ some k → vm.ownBlock ≠ some k → (wf.setCell ⟨g, 3, none⟩ vm').heap[k]? = w0.heap[k]?) ∧
      wd.heap[g]? = some (.cells #[vl, vs, vn, vm] 32 (0, 0)) ∧ wf.heap[g]? = some (.cells #[vl, vs, vn', vm] 32 (0, 0)) := by
  have hgl : g < w0.heap.size := (Array.getElem?_eq_some_iff.1 hat).1
  have hs0 := hK.kept.size
  have hs1 := hgd.size
  have hs2 := hge.size
  simp only [World.size_alloc, World.size_setCell] at hs1 hs2
  have hvn : vn.ownBlock ≠ some g := own_ne_at hN.n hat (by decide)
  have hvm : vm.ownBlock ≠ some g := own_ne_at hN.m hat (by decide)
  have gd : wd.heap[g]? = some (.cells #[vl, vs, vn, vm] 32 (0, 0)) := (hgd.block g (by simp; omega) fun e => hvn e.symm).trans ((Below.heap_alloc _ _ _ (by omega)).trans ((hK.kept.block g hgl).trans hat))
  have ge : (wd.setCell ⟨g, 2, none⟩ vn').heap[g]? = some (.cells #[vl, vs, vn', vm] 32 (0, 0)) := by rw [heap_setCell_same _ _ _ _ _ _ gd]; rfl
  have gf : wf.heap[g]? = some (.cells #[vl, vs, vn', vm] 32 (0, 0)) := (hge.block g (by simp; omega) fun e => hvm e.symm).trans ((Below.heap_alloc _ _ _ (by simp; omega)).trans ge)
  have star : ∀ k, k < wc.heap.size → k ≠ g → vn.ownBlock ≠ some k → vm.ownBlock ≠ some k → (wf.setCell ⟨g, 3, none⟩ vm').heap[k]? = wc.heap[k]? := fun k hk h1 h2 h3 =>
    (heap_setCell_other _ _ _ _ h1).trans ((hge.block k (by simp; omega) fun e => h3 e.symm).trans ((Below.heap_alloc _ _ _ (by simp; omega)).trans ((heap_setCell_other _ _ _ _ h1).trans ((hgd.block k (by simp; omega) fun e => h2 e.symm).trans (Below.heap_alloc _ _ _ hk)))))
  have hvmT : ∀ k, vm.ownBlock = some k → k < w0.heap.size := fun k hk => (hN.m.lt k hk).2
  have hvnT : ∀ k, vn.ownBlock = some k → k < w0.heap.size := fun k hk => (hN.n.lt k hk).2
  have hvm' : ∀ b, b < wc.heap.size → vm.ownBlock ≠ some b → vm'.ownBlock ≠ some b := fun b hb h1 => by
    rcases hfe with h | h
    · rw [h]; exact h1
    · rw [h]; simp; omega
  have hde : (wd.setCell ⟨g, 2, none⟩ vn').ownsRow B 30 1 vn' (ls.length + 4) (ls ++ rows.map (·.1)) := own_blocks hd fun k hk => heap_setCell_other _ _ _ _ fun e => own_ne_at hd gd (by decide) (by rw [hk, e])
  have hmd : (wd.setCell ⟨g, 2, none⟩ vn').ownsRow B 9 1 vm ms.length (scells ms) := by
    refine own_blocks hN.m fun k hk => ?_
    have hkT := hvmT k hk
    have hkg : k ≠ g := fun e => hvm (by rw [hk, e])
    exact (heap_setCell_other _ _ _ _ hkg).trans ((hgd.block k (by simp; omega) fun e => own_ne hN.n hN.m (by decide) e.symm hk).trans ((Below.heap_alloc _ _ _ (by omega)).trans (hK.kept.block k hkT)))
  refine ⟨by rw [heap_setCell_same _ _ _ _ _ _ gf]; rfl, ⟨?_, ?_, ?_, ?_⟩, by rw [List.length_append, List.length_map, hr4], hge.os.trans (hgd.os.trans hK.kept.os), hge.output.trans (hgd.output.trans hK.kept.output), by simp; omega, fun k hk h1 h2 h3 => (star k (by omega) h1 h2 h3).trans (hK.kept.block k hk), gd, gf⟩
  · rw [List.length_append, List.length_map, hr4]
    refine own_blocks hde fun k hk => ?_
    have hkl := (hde.lt k hk).2
    simp only [World.size_setCell] at hkl
    exact (heap_setCell_other _ _ _ _ fun e => own_ne_at hde ge (by decide) (by rw [hk, e])).trans ((hge.block k (by simp; omega) fun e => own_ne hmd hde (by decide) e.symm hk).trans (Below.heap_alloc _ _ _ (by simp; omega)))
  · rw [List.length_append, List.length_replicate, show scells (ms ++ List.replicate 4 m) = scells ms ++ rep m 4 from by simp [scells]; rfl]
    exact own_blocks he fun k hk => heap_setCell_other _ _ _ _ fun e => own_ne_at he gf (by decide) (by rw [hk, e])
  · rw [List.length_append, List.length_append, List.length_map, List.length_replicate, hr4, hN.len]
  · intro k hk
    rw [List.length_append, List.length_map, hr4] at hk
    by_cases hkl : k < ls.length
    · obtain ⟨len, h1, h2, h3⟩ := hN.each k hkl
      have e1 : (ls ++ rows.map (·.1)).getD k undef = ls.getD k undef := by rw [List.getD_eq_getElem?_getD, List.getElem?_append_left hkl, List.getD_eq_getElem?_getD]
      have e2 : (ms ++ List.replicate 4 m).getD k .empty = ms.getD k .empty := by rw [List.getD_eq_getElem?_getD, List.getElem?_append_left (by have := hN.len; omega), List.getD_eq_getElem?_getD]
      rw [e1, e2]
      refine ⟨len, h1, own_blocks h2 fun b hb => ?_, fun b hb => hvm' b (by have := (h2.lt b hb).2; omega) (h3 b hb)⟩
      have hbT := (h2.lt b hb).2
      exact (star b (by omega) (fun e => own_ne_at h2 hat (by decide) (by rw [hb, e])) (fun e => own_ne hN.n h2 (by decide) e hb) (h3 b hb)).trans (hK.kept.block b hbT)
    · have hj : k - ls.length < rows.length := by omega
      have e1 : (ls ++ rows.map (·.1)).getD k undef = (rows[k - ls.length]'hj).1 := by rw [List.getD_eq_getElem?_getD, List.getElem?_append_right (by omega), List.getElem?_map, List.getElem?_eq_getElem hj]; rfl
      have e2 : (ms ++ List.replicate 4 m).getD k .empty = m := by rw [List.getD_eq_getElem?_getD, List.getElem?_append_right (by have := hN.len; omega), List.getElem?_replicate, if_pos (by have := hN.len; omega)]; rfl
      rw [e1, e2]
      have ho := hK.own _ (List.getElem_mem hj)
      refine ⟨_, hr _ (List.getElem_mem hj), (own_blocks ho fun b hb => ?_).mono hB, fun b hb => ?_⟩
      · have hbb := ho.lt b hb
        exact star b hbb.2 (by omega) (fun e => by have := hvnT b e; omega) (fun e => by have := hvmT b e; omega)
      · have hbb := ho.lt b hb
        exact hvm' b hbb.2 (fun e => by have := hvmT b e; omega)
/-- What keeps leaves. -/
def kpEnd (B g : Nat) (w0 : World) (vl vs vn vm : Value) (n : Nat) (e : Ending) (w' : World) : Prop :=
  e = .returned (.tuple #[]) ∧ ∃ vn' vm' ls' ms', w'.heap[g]? = some (.cells #[vl, vs, vn', vm'] 32 (0, 0)) ∧ Ng B w' vn' vm' ls' ms' ∧ ls'.length = n + 4 ∧
      w'.os = w0.os ∧ w'.output = w0.output ∧ w0.heap.size ≤ w'.heap.size ∧ ∀ k, k < w0.heap.size → k ≠ g → vn.ownBlock ≠ some k → vm.ownBlock ≠ some k → w'.heap[k]? = w0.heap[k]?
set_option maxRecDepth 100000 in
set_option maxHeartbeats 4000000 in
theorem keeps_go (B g : Nat) (w0 w : World) (vl vs vn vm : Value) (ls : List Value) (ms : List ByteArray) (v : Value) (names : List ByteArray) (hB : B ≤ w0.heap.size) (hat : w0.heap[g]? = some (.cells #[vl, vs, vn, vm] 32 (0, 0))) (hN : Ng B w0 vn vm ls ms) (hnm : Nm w0 v names w)
    (hl : ls.length ≤ 4194304) (hnl : names.length ≤ 4194304) :
    Calls Tryd.prog 81 #[.pointer (some ⟨g, 0, none⟩), v] w (kpEnd B g w0 vl vs vn vm ls.length) := by
  obtain ⟨an, cn, rfl, hcn, _⟩ := own_len hN.n
  obtain ⟨am, cm, rfl, hcm, _⟩ := own_len hN.m
  obtain ⟨av, cv, rfl, hcv, hav⟩ := own_len hnm.own
  have hgl : g < w0.heap.size := (Array.getElem?_eq_some_iff.1 hat).1
  have hgw : w.heap[g]? = some (.cells #[vl, vs, .slice an ls.length cn, .slice am ms.length cm] 32 (0, 0)) := (hnm.kept.block _ hgl).trans hat
  have hc2 : w.cell? ⟨g, 2, none⟩ = some (.slice an ls.length cn) := by rw [cell_of_row _ _ _ _ _ _ hgw]; rfl
  have HN := hide hN
  have HM := hide hnm
  have HAT := hide hat
  clear hN hnm hat hgw
  go_enter Tryd.func81, Tryd.ntmps81
  go_wp2_with fail
  go_loopw [5, 4] (fun vi vs wr => ∃ (i : Nat) (s : ByteArray), i ≤ ls.length ∧ vi = .int .i64 i ∧ vs = .string s ∧ s.size ≤ 4 + i ∧ wr = w) (fun vi _ _ => ls.length - (intOf vi).toNat)
  case atStart => exact ⟨0, _, Nat.zero_le _, rfl, rfl, by decide, rfl⟩
  case round =>
    obtain ⟨i, s, hi, rfl, rfl, hs, rfl⟩ := hrel
    by_cases hlt : i < ls.length
    · have hiI : (i : Int) < (ls.length : Int) := by omega
      go_wp2
      go_roundw
      case rel => exact ⟨i + 1, _, by omega, by go_num, rfl, by rw [ByteArray.size_append]; have : (ByteArray.mk #[43]).size = 1 := rfl; omega, by trivial⟩
      case measure => simp [intOf]; omega
    · have hiI : ¬ (i : Int) < (ls.length : Int) := by omega
      go_wp2_with fail
      generalize s = m
      go_loopw [6] (fun vk wr => ∃ k : Nat, k ≤ names.length ∧ vk = .int .i64 k ∧ Nm w0 (.slice av names.length cv) (List.replicate k m ++ names.drop k) wr) (fun vk _ => names.length - (intOf vk).toNat)
      case atStart => exact ⟨0, Nat.zero_le _, rfl, unhide HM⟩
      case round =>
        obtain ⟨k, hk, rfl, hnm⟩ := hrel
        have HK := hide hnm
        clear hnm
        by_cases hkl : k < names.length
        · obtain ⟨gv, rfl⟩ := hav (by omega)
          have hkI : (k : Int) < (names.length : Int) := by omega
          have hk0 : (0 : Int) ≤ (k : Int) := by omega
          have hll : (List.replicate k m ++ names.drop k).length = names.length := by simp; omega
          obtain ⟨u, hcu⟩ : ∃ u, wr.cell? ⟨gv, k, none⟩ = some u := ⟨_, (unhide HK).at (by omega)⟩
          have hzu := (unhide HK).fz k
          have HK2 := hide (show Nm w0 (.slice (some ⟨gv, 0, none⟩) names.length cv) (List.replicate (k + 1) m ++ names.drop (k + 1)) (wr.setCell ⟨gv, k, none⟩ (.string m)) from by
            have := (unhide HK).set (k := k) (by omega) m
            rwa [rep_mid hkl] at this)
          clear hll
          go_wp2
          go_roundw
          case rel => exact ⟨k + 1, by omega, by go_num, unhide HK2⟩
          case measure => simp [intOf]; omega
        · have hkI : ¬ (k : Int) < (names.length : Int) := by omega
          obtain rfl : k = names.length := by omega
          have K0 := hide (show Kw w0 m [(.slice av names.length cv, names.length)] wr from ⟨(unhide HK).kept, fun r hr => by
            rw [List.mem_singleton.1 hr]
            have := (unhide HK).own
            rwa [List.drop_length, List.append_nil, List.length_replicate, scells_rep] at this⟩)
          clear HK
          go_wp2_with (refine wpList_halt2 (.tmp 31) (.tmp 33) 30 rfl ?_)
          refine Stp.mk ?_
          refine wpList_append_rep rfl (.tmp 31) (.tmp 33) rfl w0.heap.size m (.slice av names.length cv) names.length rfl (((unhide K0).own (.slice av names.length cv, names.length) (by simp)).alloc _) ⟨wr.heap.size, 0, none⟩ 1 1 rfl (news_any rfl) (by decide) (by omega) (by have := (unhide K0).kept.size; simp; omega) ?_
          intro va wa hoa hga hfa hla
          have Ka := hide ((unhide K0).app (v := .slice av names.length cv) (n := names.length) (by simp) hoa hga hla)
          obtain ⟨aa, ca, rfl, _, _⟩ := own_len hoa
          clear hoa hga hfa hla
          simp only [Act.put, List.setIfInBounds_toArray, List.set_cons_zero, List.set_cons_succ]
          go_wp2_with (refine wpList_halt2 (.tmp 35) (.tmp 38) 30 rfl ?_)
          refine Stp.mk ?_
          refine wpList_append_rep rfl (.tmp 35) (.tmp 38) rfl w0.heap.size m (.slice av names.length cv) names.length rfl (((unhide Ka).own (.slice av names.length cv, names.length) (by simp)).alloc _) ⟨wa.heap.size, 0, none⟩ 2 2 rfl (news_any rfl) (by decide) (by omega) (by have := (unhide Ka).kept.size; simp; omega) ?_
          intro vb wb hob hgb hfb hlb
          have Kb := hide ((unhide Ka).app (v := .slice av names.length cv) (n := names.length) (by simp) hob hgb hlb)
          obtain ⟨ab, cb, rfl, _, _⟩ := own_len hob
          clear hob hgb hfb hlb
          simp only [Act.put, List.setIfInBounds_toArray, List.set_cons_zero, List.set_cons_succ]
          go_wp2_with (refine wpList_halt2 (.tmp 40) (.tmp 44) 30 rfl ?_)
          refine Stp.mk ?_
          refine wpList_append_rep rfl (.tmp 40) (.tmp 44) rfl w0.heap.size m (.slice av names.length cv) names.length rfl (((unhide Kb).own (.slice av names.length cv, names.length) (by simp)).alloc _) ⟨wb.heap.size, 0, none⟩ 3 3 rfl (news_any rfl) (by decide) (by omega) (by have := (unhide Kb).kept.size; simp; omega) ?_
          intro vc wc hoc hgc hfc hlc
          have Kc := hide ((unhide Kb).app (v := .slice av names.length cv) (n := names.length) (by simp) hoc hgc hlc)
          obtain ⟨ac, cc, rfl, _, _⟩ := own_len hoc
          clear hoc hgc hfc hlc
          simp only [Act.put, List.setIfInBounds_toArray, List.set_cons_zero, List.set_cons_succ]
          have KF := hide ((unhide Kc).sub (rows' := [(.slice av names.length cv, names.length), (.slice aa (names.length + 1) ca, names.length + 1), (.slice ab (names.length + 2) cb, names.length + 2), (.slice ac (names.length + 3) cc, names.length + 3)]) (by intro r hr; simp only [List.mem_cons, List.not_mem_nil, or_false] at hr ⊢; rcases hr with rfl | rfl | rfl | rfl <;> simp))
          clear K0 Ka Kb Kc
          have hgc := ((unhide KF).kept.block _ hgl).trans (unhide HAT)
          have hcc2 : wc.cell? ⟨g, 2, none⟩ = some (.slice an ls.length cn) := by rw [cell_of_row _ _ _ _ _ _ hgc]; rfl
          go_wp2_with (refine wpList_halt2 (.tmp 50) (.tmp 55) 29 rfl ?_)
          refine Stp.mk ?_
          obtain ⟨i1, hi1, hy0, hy1, hy2⟩ := info_parts info30n
          refine wpList_plain rfl fun _ hK => wp_append_fresh (.tmp 50) (.tmp 55) 29 rfl B 30 i1 _ 1 24 Tryd.underlying29 hi1 hy0 hy1 hy2 rfl (by decide) (.slice an ls.length cn) ls.length ls rfl ((own_kept (unhide HN).n (unhide KF).kept).alloc _) ⟨wc.heap.size, 0, none⟩ 4 4 [.slice av names.length cv, .slice aa (names.length + 1) ca, .slice ab (names.length + 2) cb, .slice ac (names.length + 3) cc] rfl rfl (news_any rfl) ?_ (by decide) (by unfold maxLen; omega) (by omega) (by have := (unhide KF).kept.size; simp; omega) fun vn' wd hd hgd hfd => hK _ _ ?_
          · intro u hu
            simp only [List.mem_cons, List.not_mem_nil, or_false] at hu
            rcases hu with rfl | rfl | rfl | rfl <;> rfl
          clear hK
          have hgd2 : wd.heap[g]? = some (.cells #[vl, vs, .slice an ls.length cn, .slice am ms.length cm] 32 (0, 0)) := (hgd.block g (by have := (unhide KF).kept.size; simp; omega) fun e => own_ne_at (unhide HN).n (unhide HAT) (by decide) e.symm).trans ((Below.heap_alloc _ _ _ (by have := (unhide KF).kept.size; omega)).trans hgc)
          have hcd2 : wd.cell? ⟨g, 2, none⟩ = some (.slice an ls.length cn) := by rw [cell_of_row _ _ _ _ _ _ hgd2]; rfl
          have hzd2 : wd.frozen? ⟨g, 2, none⟩ = false := frozen_of_row _ _ _ _ _ hgd2
          obtain ⟨an', cn', rfl, _, _⟩ := own_len hd
          have HD := hide (And.intro hd hgd)
          have hge2 : (wd.setCell ⟨g, 2, none⟩ (.slice an' (ls.length + 4) cn')).heap[g]? = some (.cells #[vl, vs, .slice an' (ls.length + 4) cn', .slice am ms.length cm] 32 (0, 0)) := by rw [heap_setCell_same _ _ _ _ _ _ hgd2]; rfl
          have hce3 : (wd.setCell ⟨g, 2, none⟩ (.slice an' (ls.length + 4) cn')).cell? ⟨g, 3, none⟩ = some (.slice am ms.length cm) := by rw [cell_of_row _ _ _ _ _ _ hge2]; rfl
          clear hd hgd hfd hgd2 hgc
          simp only [Act.put, List.setIfInBounds_toArray, List.set_cons_zero, List.set_cons_succ]
          go_wp2_with (refine wpList_halt2 (.tmp 63) (.tmp 68) 30 rfl ?_)
          refine Stp.mk ?_
          have hs1 := (unhide HD).2.size
          simp only [World.size_alloc] at hs1
          have hmd : (wd.setCell ⟨g, 2, none⟩ (.slice an' (ls.length + 4) cn')).ownsRow B 9 1 (.slice am ms.length cm) ms.length (scells ms) := by
            refine own_blocks (unhide HN).m fun k hk => ?_
            have hkT := ((unhide HN).m.lt k hk).2
            have hs0 := (unhide KF).kept.size
            exact (heap_setCell_other _ _ _ _ fun e => own_ne_at (unhide HN).m (unhide HAT) (by decide) (by rw [hk, e])).trans (((unhide HD).2.block k (by simp; omega) fun e => own_ne (unhide HN).n (unhide HN).m (by decide) e.symm hk).trans ((Below.heap_alloc _ _ _ (by omega)).trans ((unhide KF).kept.block k hkT)))
          obtain ⟨i2, hi2, hx0, hx1, hx2⟩ := info_parts info9n
          have hlm := (unhide HN).len
          refine wpList_plain rfl fun _ hK => wp_append_fresh (.tmp 63) (.tmp 68) 30 rfl B 9 i2 _ 1 16 Tryd.underlying30 hi2 hx0 hx1 hx2 rfl (by decide) (.slice am ms.length cm) ms.length (scells ms) rfl (hmd.alloc _) ⟨(wd.setCell ⟨g, 2, none⟩ (.slice an' (ls.length + 4) cn')).heap.size, 0, none⟩ 4 4 (rep m 4) (by rw [World.size_setCell]; rfl) rfl (news_any rfl) ?_ (by decide) (by unfold maxLen; omega) (by omega) (by have := (unhide KF).kept.size; simp; omega) fun vm' wf he hge hfe => hK _ _ ?_
          · intro u hu
            rw [List.eq_of_mem_replicate hu]; rfl
          clear hK
          have hend := ng_end hB (unhide HAT) (unhide HN) (unhide KF) rfl (by intro r hr; simp only [List.mem_cons, List.not_mem_nil, or_false] at hr; rcases hr with rfl | rfl | rfl | rfl <;> (show _ ≤ 4294967000; omega)) (unhide HD).1 (unhide HD).2 he hge hfe
          have hgf := hend.2.2.2.2.2.2.2.2
          have hcf3 : wf.cell? ⟨g, 3, none⟩ = some (.slice am ms.length cm) := by rw [cell_of_row _ _ _ _ _ _ hgf]; rfl
          have hzf3 : wf.frozen? ⟨g, 3, none⟩ = false := frozen_of_row _ _ _ _ _ hgf
          obtain ⟨am', cm', rfl, _, _⟩ := own_len he
          have HE := hide hend
          clear hend he hge hfe hgf hmd hlm
          simp only [Act.put, List.setIfInBounds_toArray, List.set_cons_zero, List.set_cons_succ]
          go_wp2
          all_goals exact end0 Tryd.results81 rfl ⟨rfl, _, _, _, _, (unhide HE).1, (unhide HE).2.1, (unhide HE).2.2.1, (unhide HE).2.2.2.1, (unhide HE).2.2.2.2.1, (unhide HE).2.2.2.2.2.1, (unhide HE).2.2.2.2.2.2.1⟩
end Go.Proofs.YtfodibjlldmnpaaDoor
/-
  shelf.looks.
-/
namespace Go.Proofs.YtfodibjlldmnpaaDoor
open Go.RowKit

set_option maxRecDepth 100000 in
set_option maxHeartbeats 4000000 in
theorem shelf_looks_go (B g : Nat) (w : World) (vl vs vn vm : Value) (ls : List Value) (ms : List ByteArray) (hat : w.heap[g]? = some (.cells #[vl, vs, vn, vm] 32 (0, 0))) (hN : Ng B w vn vm ls ms) (hl : ls.length ≤ 8388608) :
    Calls Tryd.prog 10 #[.pointer (some ⟨g, 0, none⟩)] w fun e w' => e = .returned (.bool true) ∧ Kept w.heap.size w w' := by
  obtain ⟨an, cn, rfl, hcn, han⟩ := own_len hN.n
  obtain ⟨am, cm, rfl, hcm, ham⟩ := own_len hN.m
  have hlm := hN.len
  rw [← hlm] at ham hcm
  have HN := hide hN
  have HAT := hide hat
  have HLM := hide hlm
  clear hN hat
  rw [← hlm] at HN HAT
  clear hlm
  go_enter Tryd.func10, Tryd.ntmps10
  go_wp2_with fail
  go_loopw [3] (fun vk wr => ∃ k : Nat, k ≤ ls.length ∧ vk = .int .i64 k ∧ Kept w.heap.size w wr) (fun vk _ => ls.length - (intOf vk).toNat)
  case atStart => exact ⟨0, Nat.zero_le _, rfl, Kept.refl _ _⟩
  case round =>
    obtain ⟨k, hk, rfl, hkp⟩ := hrel
    have HK := hide hkp
    have hgw := (hkp.block _ (Array.getElem?_eq_some_iff.1 (unhide HAT)).1).trans (unhide HAT)
    have hc2 : wr.cell? ⟨g, 2, none⟩ = some (.slice an ls.length cn) := by rw [cell_of_row _ _ _ _ _ _ hgw]; rfl
    clear hkp hgw
    by_cases hkl : k < ls.length
    · obtain ⟨gn, rfl⟩ := han (by omega)
      obtain ⟨gm, rfl⟩ := ham (by omega)
      have hkI : (k : Int) < (ls.length : Int) := by omega
      have hk0 : (0 : Int) ≤ (k : Int) := by omega
      obtain ⟨len, hlen, hrow, _⟩ := (unhide HN).each k hkl
      generalize hr : ls.getD k undef = r at hrow
      generalize hmm : ms.getD k .empty = m at hrow
      obtain ⟨ar, cr, rfl, hcr, har⟩ := own_len hrow
      have HR := hide (And.intro hr hmm)
      have HO := hide hrow
      clear hr hmm hrow
      have hcN : wr.cell? ⟨gn, k, none⟩ = some (.slice ar len cr) := by
        obtain ⟨g2, c2, hv, hc⟩ := own_cell (own_kept (unhide HN).n (unhide HK)) hkl
        cases hv
        rw [hc, (unhide HR).1]
      go_wp2_with fail
      go_loopw [4] (fun vi wr => ∃ i : Nat, i ≤ len ∧ vi = .int .i64 i ∧ Kept w.heap.size w wr) (fun vi _ => len - (intOf vi).toNat)
      case atStart => exact ⟨0, Nat.zero_le _, rfl, unhide HK⟩
      case round =>
        rename_i wo _ _
        obtain ⟨i, hi, rfl, hkp⟩ := hrel
        have HK2 := hide hkp
        have hgw := (hkp.block _ (Array.getElem?_eq_some_iff.1 (unhide HAT)).1).trans (unhide HAT)
        have hd2 : wr.cell? ⟨g, 2, none⟩ = some (.slice (some ⟨gn, 0, none⟩) ls.length cn) := by rw [cell_of_row _ _ _ _ _ _ hgw]; rfl
        have hd3 : wr.cell? ⟨g, 3, none⟩ = some (.slice (some ⟨gm, 0, none⟩) ls.length cm) := by rw [cell_of_row _ _ _ _ _ _ hgw]; rfl
        have hdN : wr.cell? ⟨gn, k, none⟩ = some (.slice ar len cr) := by
          obtain ⟨g2, c2, hv, hc⟩ := own_cell (own_kept (unhide HN).n hkp) hkl
          cases hv
          rw [hc, (unhide HR).1]
        clear hkp hgw
        by_cases hil : i < len
        · obtain ⟨gr, rfl⟩ := har (by omega)
          have hiI : (i : Int) < (len : Int) := by omega
          have hi0 : (0 : Int) ≤ (i : Int) := by omega
          have hdR : wr.cell? ⟨gr, i, none⟩ = some (.string m) := by
            obtain ⟨g2, c2, hv, hc⟩ := own_cell (own_kept (unhide HO) (unhide HK2)) hil
            cases hv
            rw [hc, List.getD_eq_getElem?_getD, rep_get hil]; rfl
          have hdM : wr.cell? ⟨gm, k, none⟩ = some (.string m) := by
            have hm2 := own_kept (unhide HN).m (unhide HK2)
            rw [← unhide HLM] at hm2
            obtain ⟨g2, c2, hv, hc⟩ := own_cell hm2 hkl
            cases hv
            rw [hc, ← (unhide HR).2, scells, List.getD_eq_getElem?_getD, List.getD_eq_getElem?_getD, List.getElem?_map, List.getElem?_eq_getElem (by have := unhide HLM; omega)]
            rfl
          have hqm : (m.toList == m.toList) = true := by simp
          go_wp2_with fail
          go_quiet (fail)
          go_wp2_with fail
          go_roundw
          case rel => exact ⟨i + 1, by omega, by go_num, (unhide HK2).draws _⟩
          case measure => simp [intOf]; omega
        · have hiI : ¬ (i : Int) < (len : Int) := by omega
          go_wp2
          go_roundw
          case rel => exact ⟨k + 1, by omega, by go_num, unhide HK2⟩
          case measure => simp [intOf]; omega
    · have hkI : ¬ (k : Int) < (ls.length : Int) := by omega
      go_wp2
      all_goals go_ret
      all_goals exact ⟨rfl, unhide HK⟩
end Go.Proofs.YtfodibjlldmnpaaDoor
