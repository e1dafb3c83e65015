/-
  The law's lent lists of digests: lentHashes, backHashes.
-/
import Derived.Test.YtfodibjlldmnpaaDoorHsame
import Derived.Test.YtfodibjlldmnpaaDoorMark
namespace Go.Proofs.YtfodibjlldmnpaaDoor
open Go.RowKit

theorem run_copy_wide {P : Program} (w : World) (dT sT ty elem : TypeId) (z : Nat) (hu : P.underlying dT = some (.slice elem)) (hz : (P.info? elem).map (·.size) = some z)
    (g dLen dCap : Nat) (sp : Option Addr) (sLen sCap : Nat) (cur : Array Value) (t : TypeId) (cs : List Value) (hg : w.heap[g]? = some (.cells cur t (0, 0))) (hn : cs.length = sLen * z) (hle : sLen ≤ dLen)
    (hno : sp = none → cs = []) (hsrc : ∀ a, sp = some a → ∀ j v, cs[j]? = some v → w.cell? (a.add j) = some v) (hfit : cs.length ≤ cur.size) (h1 : ∀ v ∈ cs, v.oneCell' = true) :
    (Builtin.copy_ #[dT, sT] ty #[.slice (some ⟨g, 0, none⟩) dLen dCap, .slice sp sLen sCap]).run P w = .ok (goInt sLen) (w.setRow g (cs ++ cur.toList.drop cs.length).toArray) := by
  have hst := run_storeCells_at P g 0 t cs 0 cur w hg (by simpa using hfit) h1
  have hmin : Nat.min sLen dLen = sLen := Nat.min_eq_left hle
  simp only [Nat.add_zero, List.take_zero, List.nil_append, Nat.zero_add] at hst
  cases hq : P.info? elem with
  | none => simp [hq] at hz
  | some i =>
    have hi : i.size = z := by simpa [hq] using hz
    cases sp with
    | none =>
      obtain rfl := hno rfl
      have hst' : (storeCells ⟨g, 0, none⟩ []).run P w = .ok () (w.setRow g cur) := by simpa using hst
      simp [Builtin.copy_, run_underlying hu, Builtin.lenOf, Builtin.firstCells, sizeOf, typeInfo, hq, hmin]
      rw [hst']
      rfl
    | some a =>
      have hl := run_loadCells_list (P := P) w a cs (hsrc a rfl)
      rw [hn] at hl
      simp [Builtin.copy_, run_underlying hu, Builtin.lenOf, Builtin.firstCells, sizeOf, typeInfo, hq, hi, hmin, hl, hst]
theorem wpList_copy_wide {P : Program} {w : World} {ops : Array Oper} {rest : List Oper} {o : Oper} {act : Act} {Q : Exit → Act → World → Prop} (hgd : o.guard = none) (d s : Operand) (dT sT : TypeId)
    (ho : o.op = .call { callee := .builtin .copy, args := #[d, s], argTypes := #[dT, sT] }) (elem : TypeId) (z : Nat) (hu : P.underlying dT = some (.slice elem)) (hz : (P.info? elem).map (·.size) = some z)
    (g dLen dCap : Nat) (sp : Option Addr) (sLen sCap : Nat) (hd : act.eval d = .slice (some ⟨g, 0, none⟩) dLen dCap) (hs : act.eval s = .slice sp sLen sCap)
    (cur : Array Value) (t : TypeId) (cs : List Value) (hg : w.heap[g]? = some (.cells cur t (0, 0))) (hn : cs.length = sLen * z) (hle : sLen ≤ dLen)
    (hno : sp = none → cs = []) (hsrc : ∀ a, sp = some a → ∀ j v, cs[j]? = some v → w.cell? (a.add j) = some v) (hfit : cs.length ≤ cur.size) (h1 : ∀ v ∈ cs, v.oneCell' = true)
    (h : ∀ w', w'.heap[g]? = some (.cells (cs ++ cur.toList.drop cs.length).toArray t (0, 0)) → w.grownBy w' (some g) → wpList P ops Q rest (act.put o.dst (goInt sLen)) w') : wpList P ops Q (o :: rest) act w := by
  refine wpList_plain hgd fun K hK => ?_
  have hrun := run_copy_wide (P := P) w dT sT o.type elem z hu hz g dLen dCap sp sLen sCap cur t cs hg hn hle hno hsrc hfit h1
  unfold Oper.wp
  simp [execOp, ho, resolve, invoke, builtin, hd, hs, hrun, Result.andThen]
  exact hK _ _ (h _ (setRow_heap w g cur _ t _ hg) ⟨rfl, rfl, rfl, by simp, fun k _ hk => setRow_other w g k _ (fun e => hk (by rw [e]))⟩)

theorem setCells_at {w : World} {g : Nat} {t : TypeId} {cur : Array Value} (hg : w.heap[g]? = some (.cells cur t (0, 0))) (o : Nat) (vs : List Value) (hfit : o + vs.length ≤ cur.size) (h1 : ∀ v ∈ vs, v.oneCell' = true) :
    w.setCells g o vs = w.setRow g (cur.toList.take o ++ vs ++ cur.toList.drop (o + vs.length)).toArray := by
  have hst := run_storeCells_at Tryd.prog g o t vs 0 cur w hg (by simpa using hfit) h1
  have h2 := run_storeCells_cells (P := Tryd.prog) g o vs 0 w (fun j hj => by
    rw [Nat.add_zero, cell_of_row _ _ _ _ _ _ hg, Array.getElem?_eq_getElem (by omega)]; rfl) (fun j hj => by rw [frozen_of_row _ _ _ _ _ hg]) h1
  rw [h2] at hst
  injection hst
theorem there_at {w : World} {g : Nat} {t : TypeId} {cur : Array Value} (hg : w.heap[g]? = some (.cells cur t (0, 0))) (o n : Nat) (hfit : o + n ≤ cur.size) : w.there g o n := fun j hj => by
  rw [cell_of_row _ _ _ _ _ _ hg, frozen_of_row _ _ _ _ _ hg]
  refine ⟨?_, rfl⟩
  rw [Array.getElem?_eq_getElem (by omega)]; rfl

theorem flat_cons (d : List UInt8) (p : List (List UInt8)) : flat (d :: p) = blist d ++ flat p := by rw [flat, List.flatMap_cons]
theorem flat_app (p q : List (List UInt8)) : flat (p ++ q) = flat p ++ flat q := by rw [flat, List.flatMap_append]
theorem flat_set {d : List UInt8} (_hd : d.length = 32) : ∀ (i : Nat) (p : List (List UInt8)), (∀ x ∈ p, x.length = 32) → i < p.length → (flat p).take (i * 32) ++ blist d ++ (flat p).drop (i * 32 + 32) = flat (p.set i d) := by
  intro i
  induction i with
  | zero =>
    intro p hp hi
    cases p with
    | nil => simp at hi
    | cons x r =>
      rw [List.set_cons_zero, flat_cons, flat_cons, Nat.zero_mul, List.take_zero, List.nil_append, Nat.zero_add, List.drop_append_of_le_length (by simp [hp x (by simp)]), List.drop_of_length_le (by simp [hp x (by simp)]), List.nil_append]
  | succ i ih =>
    intro p hp hi
    cases p with
    | nil => simp at hi
    | cons x r =>
      have hx : (blist x).length = 32 := by simp [hp x (by simp)]
      rw [List.set_cons_succ, flat_cons, flat_cons, ← ih r (fun y hy => hp y (by simp [hy])) (by simpa using hi)]
      rw [show (i + 1) * 32 = (blist x).length + i * 32 by omega, List.take_length_add_append, Nat.add_assoc, List.drop_length_add_append]
      simp only [List.append_assoc]
theorem flat_range {w : World} {g : Nat} {p : List (List UInt8)} {t : TypeId} {fr : Nat × Nat} (hg : w.heap[g]? = some (.cells (flat p).toArray t fr)) (h : ∀ d ∈ p, d.length = 32) {i : Nat} (hi : i < p.length) {d : List UInt8} (hd : d = p.getD i []) : w.rangeAt g (i * 32) (blist d) := fun j v hv => by
  rw [cell_of_row _ _ _ _ _ _ hg, List.getElem?_toArray]
  exact flat_cell h i hi j v (by rw [← hd]; exact hv)

def seven : List UInt8 := [7, 7, 0, 0, 0, 0, 0, 0, 0, 0, 0, 0, 0, 0, 0, 0, 0, 0, 0, 0, 0, 0, 0, 0, 0, 0, 0, 0, 0, 0, 0, 0]
def nine : List UInt8 := [9, 0, 0, 0, 0, 0, 0, 0, 0, 0, 0, 0, 0, 0, 0, 0, 0, 0, 0, 0, 0, 0, 0, 0, 0, 0, 0, 0, 0, 0, 0, 0]
theorem info24s : (Tryd.prog.info? 24).map (·.size) = some 32 := by kernel_rfl

set_option maxRecDepth 100000 in
set_option maxHeartbeats 1000000 in
theorem lentHashes_go (p : List (List UInt8)) (ao : Option Addr) (n cap : Nat) (w : World) (hl : p.length = n) (hp : ∀ d ∈ p, d.length = 32) (hn : 32 * (n + 1) ≤ 140737488355328) (hS : 0 < n → ∃ b o, ao = some ⟨b, o, none⟩ ∧ Hshs w b o p) :
    Calls Tryd.prog 24 #[.slice ao n cap] w fun e w' => e = .returned (.slice (some ⟨w.heap.size, 0, none⟩) ((n + 1 : Nat) : Nat) (n + 1)) ∧ w'.heap[w.heap.size]? = some (.cells (flat (p ++ [seven])).toArray 24 (0, 0)) ∧ Below w.heap.size w w' := by
  obtain ⟨i0, hi0, hz0, hz1, hz2⟩ := info_parts info24'
  obtain ⟨w1, hmk, hown, hg1⟩ := run_make_full (P := Tryd.prog) w w.heap.size 41 24 i0 _ 32 Tryd.underlying41 hi0 hz0 hz1 .i64 .i64 (n + 1) (by rw [hz2]; omega) (by unfold maxLen; omega) (Nat.le_refl _)
  have hmk' : (Instr.makeSlice 41 (.int .i64 ((n : Int) + 1)) (.int .i64 ((n : Int) + 1))).run Tryd.prog w = .ok (.slice (some ⟨w.heap.size, 0, none⟩) (n + 1) (n + 1)) w1 := hmk
  have HG := hide (And.intro hown hg1)
  have HS := hide hS
  clear hmk hown hg1 hS hi0 hz0 hz1 hz2
  obtain ⟨cur, hcur, hcs⟩ : ∃ cur, w1.heap[w.heap.size]? = some (.cells cur 24 (0, 0)) ∧ cur.size = (n + 1) * 32 := by
    rcases (unhide HG).1.2 with ⟨h, _⟩ | ⟨g, c, cur, h1, _, h3, _, _, h6, _⟩
    · cases h
    · simp only [Value.slice.injEq, Option.some.injEq, Addr.mk.injEq, and_true, true_and] at h1
      obtain ⟨rfl, rfl⟩ := h1
      exact ⟨cur, h3, h6⟩
  have HC := hide hcur
  clear hcur
  have hfl := flat_length hp
  go_enter Tryd.func24, Tryd.ntmps24
  go_wp2_with (refine wpList_copy_wide rfl (.tmp 8) (.tmp 9) 41 41 rfl 24 32 Tryd.underlying41 info24s w.heap.size (n + 1) (n + 1) ao n cap rfl rfl cur 24 (flat p) (unhide HC) (by rw [hfl, hl]) (by omega) ?_ ?_ (by rw [hfl, hcs, hl]; omega) ?_ ?_)
  · intro hno
    by_cases h0 : 0 < n
    · obtain ⟨b, o, ha, _⟩ := unhide HS h0
      rw [hno] at ha; cases ha
    · obtain rfl : p = [] := List.eq_nil_of_length_eq_zero (by omega)
      rfl
  · intro a ha j v hv
    have hj := (List.getElem?_eq_some_iff.1 hv).1
    obtain ⟨b, o, hb, hs⟩ := unhide HS (by rw [hfl] at hj; omega)
    rw [ha] at hb
    cases hb
    have hpl : j / 32 < p.length := by rw [hfl] at hj; omega
    have hr := hs.row (j / 32) hpl
    rw [add_addr]
    have hk : (flat p)[j / 32 * 32 + j % 32]? = (brow (p.getD (j / 32) [])).toList[j % 32]? := by
      have hd := hs.get hpl
      obtain ⟨x, h5⟩ : ∃ x, (blist (p.getD (j / 32) []))[j % 32]? = some x := ⟨_, List.getElem?_eq_getElem (by simp only [List.length_map]; rw [hd]; omega)⟩
      rw [flat_cell hp (j / 32) hpl (j % 32) _ h5]
      exact h5.symm
    have h6 := hr (j % 32) v (by rw [← hk, show j / 32 * 32 + j % 32 = j by omega]; exact hv)
    rw [show o + 32 * (j / 32) + j % 32 = o + j by omega] at h6
    rw [World.cell?_of_block (w := w) ((unhide HG).2.block b hs.lt (by simp))]
    exact h6
  · intro v hv
    obtain ⟨d, hd, hv⟩ := List.mem_flatMap.1 hv
    exact blist_one d v hv
  · intro w2 hw2 hg2
    have hsz : (flat p ++ cur.toList.drop (n * 32)).toArray.size = (n + 1) * 32 := by simp only [List.size_toArray, List.length_append, List.length_drop, Array.length_toList, hfl, hl, hcs]; omega
    have HB := hide (show Below w.heap.size w w2 from (grown_same (unhide HG).2 (Nat.le_refl _)).trans ⟨hg2.os, hg2.tape, hg2.output, hg2.size, fun k hk => hg2.block k (Nat.lt_of_lt_of_le hk (unhide HG).2.size) (by simp; omega)⟩)
    have HW := hide hw2
    clear hw2 hg2
    have hth : w2.there w.heap.size (n * 32) (brow seven).size := there_at (unhide HW) (n * 32) _ (by rw [hsz]; show n * 32 + 32 ≤ _; omega)
    have hi7 : (Tryd.prog.info? 24).map (·.size) = some (brow seven).size := info24s
    have hnI : (n : Int) < (n : Int) + 1 := by omega
    go_wp2_with (refine wpList_store_mid rfl 24 _ _ rfl w.heap.size (n * 32) (brow seven) rfl rfl hth hi7 (brow_one _) ?_)
    go_ret
    have hst := setCells_at (unhide HW) (n * 32) (brow seven).toList (by simp only [brow]; rw [hsz]; simp [seven]; omega) (fun v hv => blist_one seven v (by simpa [brow] using hv))
    refine ⟨rfl, ?_, ?_⟩
    · rw [hst, setRow_heap _ _ _ _ _ _ (unhide HW)]
      congr 3
      have h32 : (flat p).length = n * 32 := by rw [hfl, hl]
      simp only []
      have hs7 : (brow seven).toList = blist seven := rfl
      have hs8 : (blist seven).length = 32 := rfl
      rw [hs7, hs8, flat_app, ← h32, List.take_left, List.append_assoc, List.drop_length_add_append]
      rw [List.drop_drop, List.drop_of_length_le (by rw [Array.length_toList, hcs, h32]; omega), List.append_nil, flat_cons]
      simp [flat]
    · rw [hst]
      exact (unhide HB).trans ⟨rfl, rfl, rfl, by simp, fun k hk => setRow_other _ _ k _ (by omega)⟩

end Go.Proofs.YtfodibjlldmnpaaDoor
