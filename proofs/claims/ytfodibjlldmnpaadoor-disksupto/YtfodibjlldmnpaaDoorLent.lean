/-
  The law's lent lists of strings: lentWords, backWords.
-/
import Derived.Test.YtfodibjlldmnpaaDoorSame
import Derived.Laws.CopyOwn
import Derived.BigQuiet
namespace Go.Proofs.YtfodibjlldmnpaaDoor
open Go.RowKit

/-- A row of strings. -/
def srow (L : List ByteArray) : Array Value := (L.map Value.string).toArray
theorem srow_size (L : List ByteArray) : (srow L).size = L.length := by simp [srow]
theorem srow_get {L : List ByteArray} {i : Nat} (h : i < L.length) : (srow L)[i]? = some (.string (L.getD i ByteArray.empty)) := by
  simp only [srow, List.getElem?_toArray, List.getElem?_map, List.getD_eq_getElem?_getD, List.getElem?_eq_getElem h]; rfl
theorem srow_set {L : List ByteArray} {i : Nat} {x : ByteArray} : (srow L).setIfInBounds i (.string x) = srow (L.set i x) := by
  simp [srow, List.map_set]
theorem srow_zero (n : Nat) : madeCells #[.string ByteArray.empty] n = (List.replicate n (Value.string ByteArray.empty)).toArray := by
  apply Array.ext'
  rw [toList_madeCells_one]
theorem info9 : (Tryd.prog.info? 9).map (fun i => (i.zero, i.size, i.bytes)) = some (some (.string ByteArray.empty), 1, 16) := by kernel_rfl
theorem info9s : (Tryd.prog.info? 9).map (·.size) = some 1 := by kernel_rfl
theorem make_strs (r : Nat) (E : Int) (hE : E = (r : Int)) (hr : 16 * r ≤ 281474976710656) (w : World) :
    (Instr.makeSlice 30 (.int .i64 E) (.int .i64 E)).run Tryd.prog w = .ok (.slice (some ⟨w.heap.size, 0, none⟩) r r) (w.alloc (.cells (List.replicate r (Value.string ByteArray.empty)).toArray 9)) := by
  subst hE
  rw [← srow_zero]
  exact run_make_row' 30 9 (.string ByteArray.empty) 16 Tryd.underlying30 info9 rfl .i64 .i64 r (by omega) (by omega) w

abbrev behind : ByteArray := ⟨#[98, 101, 104, 105, 110, 100]⟩
abbrev over : ByteArray := ⟨#[119, 114, 105, 116, 116, 101, 110, 32, 111, 118, 101, 114]⟩

theorem srow_one (L : List ByteArray) : ∀ v ∈ L.map Value.string, v.oneCell' = true := by
  intro v hv
  obtain ⟨s, _, rfl⟩ := List.mem_map.1 hv
  rfl

theorem lent_row (L : List ByteArray) (n : Nat) (hl : L.length = n) : ((splice (List.replicate (n + 1) (Value.string ByteArray.empty)) 0 (L.map Value.string)).toArray).setIfInBounds n (.string behind) = srow (L ++ [behind]) := by
  subst hl
  have : splice (List.replicate (L.length + 1) (Value.string ByteArray.empty)) 0 (L.map Value.string) = (L ++ [ByteArray.empty]).map Value.string := by
    simp [splice, List.replicate_succ']
  rw [this]
  show (srow (L ++ [ByteArray.empty])).setIfInBounds L.length (.string behind) = _
  rw [srow_set]
  congr 1
  simp

set_option maxRecDepth 100000 in
set_option maxHeartbeats 1000000 in
theorem lentWords_go (L : List ByteArray) (a : Option Addr) (n cap : Nat) (w : World) (hl : L.length = n) (hn : 16 * (n + 1) ≤ 140737488355328) (hS : 0 < n → ∃ b o, a = some ⟨b, o, none⟩ ∧ Strs w b o L) :
    Calls Tryd.prog 15 #[.slice a n cap] w fun e w' => e = .returned (.slice (some ⟨w.heap.size, 0, none⟩) ((n + 1 : Nat) : Nat) (n + 1)) ∧ w'.heap[w.heap.size]? = some (.cells (srow (L ++ [behind])) 9 (0, 0)) ∧ Below w.heap.size w w' := by
  have hmk := make_strs (n + 1) ((n : Int) + 1) (by omega) (by omega)
  have hpos : ∀ O, 0 < (L.map Value.string).length → (some ⟨w.heap.size, 0, none⟩ : Option Addr) = some ⟨w.heap.size, 0, none⟩ ∧ ∃ ad, a = some ad ∧ ∀ j v, (L.map Value.string)[j]? = some v → (w.alloc O).cell? (ad.add j) = some v := by
    intro O hp
    obtain ⟨b, o, ha, hs⟩ := hS (by simpa [hl] using hp)
    refine ⟨rfl, _, ha, fun j v hv => ?_⟩
    rw [add_addr]
    rw [List.getElem?_map] at hv
    obtain ⟨s, hs1, rfl⟩ := Option.map_eq_some_iff.1 hv
    have hj := (List.getElem?_eq_some_iff.1 hs1).1
    have := hs.cell j hj
    rw [List.getD_eq_getElem?_getD, hs1] at this
    rw [World.cell?_alloc_lt _ _ _ hs.lt]
    exact this
  have HS := hide hpos
  clear hS hpos
  go_enter Tryd.func15, Tryd.ntmps15
  go_wp2_with (refine wpList_copy_splice rfl (.tmp 8) (.tmp 9) 30 30 rfl 9 Tryd.underlying30 info9s (some ⟨w.heap.size, 0, none⟩) a (n + 1) (n + 1) n cap rfl rfl w.heap.size 0 (List.replicate (n + 1) (Value.string ByteArray.empty)) 9 (heap_alloc_new _ _) (L.map Value.string) (by rw [List.length_map, hl]; exact (Nat.min_eq_left (by omega)).symm) (fun h => unhide HS _ h) (by simp; omega) (srow_one L) w.heap.size w ((Below.refl _ _).alloc (Nat.le_refl _) _) (Nat.le_refl _) ?_)
  all_goals
    intro w1 hw1 hb1
    have hsz : (splice (List.replicate (n + 1) (Value.string ByteArray.empty)) 0 (L.map Value.string)).length = n + 1 := by
      rw [length_splice _ _ _ (by simp; omega)]; simp
    obtain ⟨u, hu⟩ : ∃ u, (splice (List.replicate (n + 1) (Value.string ByteArray.empty)) 0 (L.map Value.string))[n]? = some u := ⟨_, List.getElem?_eq_getElem (by omega)⟩
    have hc : w1.cell? ⟨w.heap.size, n, none⟩ = some u := (cell_of_row _ _ _ _ _ _ hw1.out).trans (by rw [List.getElem?_toArray]; exact hu)
    clear hu
    have hf := frozen_of_row _ _ n _ _ hw1.out
    have HB := hide hb1
    clear hb1 hsz
    have hnI : (n : Int) < (n : Int) + 1 := by omega
    go_wp2_with fail
    go_ret
    refine ⟨rfl, ?_, (unhide HB).setCell (Nat.le_refl _) _⟩
    rw [heap_setCell_same _ _ _ _ _ _ hw1.out, lent_row L n hl]

/-- The list after i rounds of backWords. -/
abbrev backTo (L : List ByteArray) (i : Nat) : List ByteArray := List.replicate i over ++ (L.drop i ++ [behind])
theorem backTo_len {L : List ByteArray} {i : Nat} (hi : i ≤ L.length) : (backTo L i).length = L.length + 1 := by simp [backTo]; omega
theorem backTo_get {L : List ByteArray} {i : Nat} (hi : i < L.length) : (backTo L i).getD i ByteArray.empty = L.getD i ByteArray.empty := by
  rw [List.getD_eq_getElem?_getD, List.getD_eq_getElem?_getD, backTo, List.getElem?_append_right (by simp), List.getElem?_append_left (by simp; omega)]
  simp
theorem backTo_set {L : List ByteArray} {i : Nat} (hi : i < L.length) : (backTo L i).set i over = backTo L (i + 1) := by
  rw [backTo, List.set_append_right _ _ (by simp), List.length_replicate, Nat.sub_self, backTo, List.replicate_succ', List.append_assoc]
  congr 1
  rw [List.drop_eq_getElem_cons hi]
  rfl

set_option maxRecDepth 100000 in
set_option maxHeartbeats 1000000 in
theorem backWords_go (L : List ByteArray) (a : Option Addr) (n cap g : Nat) (w : World) (hl : L.length = n) (hn : n ≤ 140737488355328) (hg : w.heap[g]? = some (.cells (srow (L ++ [behind])) 9 (0, 0)))
    (hS : 0 < n → ∃ b o, a = some ⟨b, o, none⟩ ∧ Strs w b o L ∧ b ≠ g) :
    Calls Tryd.prog 18 #[.slice (some ⟨g, 0, none⟩) (n + 1) (n + 1), .slice a n cap] w fun e w' => e = .returned (.bool true) ∧ Other g w w' := by
  have hc0 : w.cell? ⟨g, n, none⟩ = some (.string behind) := by
    rw [cell_of_row _ _ _ _ _ _ hg, srow_get (by simp; omega), List.getD_eq_getElem?_getD, List.getElem?_append_right (by omega)]
    simp [hl]
  have hnI : (n : Int) < (n : Int) + 1 := by omega
  have HS := hide hS
  have HG := hide hg
  clear hS hg
  go_enter Tryd.func18, Tryd.ntmps18
  go_wp2_with fail
  go_loopw [5, 6] (fun vo vi wr => ∃ i : Nat, i ≤ n ∧ vo = .bool true ∧ vi = .int .i64 i ∧ wr.heap[g]? = some (.cells (srow (backTo L i)) 9 (0, 0)) ∧ Other g w wr) (fun _ vi _ => n - (intOf vi).toNat)
  case atStart =>
    exact ⟨0, Nat.zero_le _, rfl, rfl, by simpa [backTo] using unhide HG, ⟨rfl, rfl, Nat.le_refl _, fun _ _ _ => rfl⟩⟩
  case round =>
    obtain ⟨i, hi, rfl, rfl, hc, ho⟩ := hrel
    clear hc0
    by_cases hlt : i < n
    · obtain ⟨b, o, rfl, hs, hne⟩ := unhide HS (by omega)
      obtain ⟨s, hsd⟩ : ∃ s, s = L.getD i ByteArray.empty := ⟨_, rfl⟩
      have h1 : wr.cell? ⟨g, i, none⟩ = some (.string s) := by
        rw [cell_of_row _ _ _ _ _ _ hc, srow_get (by rw [backTo_len (by omega)]; omega), backTo_get (by omega), hsd]
      have h2 : wr.cell? ⟨b, o + i, none⟩ = some (.string s) := by
        rw [World.cell?_of_block (ho.block b hs.lt hne), hs.cell i (by omega), hsd]
      have hf := frozen_of_row _ _ i _ _ hc
      have hltI : (i : Int) < (n : Int) := by omega
      have hltJ : (i : Int) < (n : Int) + 1 := by omega
      have HC := hide hc
      have HO := hide ho
      have HL := hide (backTo_set (L := L) (i := i) (by omega))
      clear hc ho hs hsd
      go_wp2_with fail
      go_quiet (fail)
      go_wp2_with fail
      go_roundw
      case rel =>
        refine ⟨i + 1, by omega, rfl, by go_num, ?_, ?_⟩
        · have := heap_setCell_same (wr.drewN nq) g i _ _ (.string over) (unhide HC)
          rw [srow_set, unhide HL] at this
          exact this
        · exact ⟨(unhide HO).os, (unhide HO).output, by simpa using (unhide HO).size, fun k hk hkg => (heap_setCell_other (wr.drewN nq) ⟨g, i, none⟩ k _ (by simpa using hkg)).trans ((unhide HO).block k hk hkg)⟩
      case measure => simp [intOf]; omega
    · obtain rfl : i = n := by omega
      have hcn : ∃ u, wr.cell? ⟨g, i, none⟩ = some u := by
        refine ⟨_, (cell_of_row _ _ _ _ _ _ hc).trans (srow_get (by rw [backTo_len (by omega)]; omega))⟩
      obtain ⟨u, hcn⟩ := hcn
      have hf := frozen_of_row _ _ i _ _ hc
      have HO := hide ho
      clear hc ho
      go_wp2_with fail
      go_ret
      exact ⟨rfl, ⟨(unhide HO).os, (unhide HO).output, by simpa using (unhide HO).size, fun k hk hkg => (heap_setCell_other wr ⟨g, i, none⟩ k _ (by simpa using hkg)).trans ((unhide HO).block k hk hkg)⟩⟩

end Go.Proofs.YtfodibjlldmnpaaDoor
