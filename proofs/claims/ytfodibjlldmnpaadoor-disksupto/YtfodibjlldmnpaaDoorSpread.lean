import Derived.Test.YtfodibjlldmnpaaDoorProg
import Derived.Test.YtfodibjlldmnpaaDoorTurn
import Derived.Test.YtfodibjlldmnpaaDoorRow
import Derived.WalkKit
import Derived.WalkSpells
import Derived.WalkLawsBesides
import Derived.Deep.QuietTactic
import Derived.BigQuiet
import Derived.BigRegion
namespace Go.Proofs.YtfodibjlldmnpaaDoor
open Go.RowKit
open Sha (R)

theorem info131 : (Tryd.prog.info? 131).map (·.size) = some 64 := by kernel_rfl

set_option maxRecDepth 100000 in
set_option maxHeartbeats 1000000 in
theorem spread_go (s : ByteArray) (w : World) (hs : s.size = 64) :
    Calls Tryd.prog 102 #[.string s] w fun e w' => e = .returned (.agg (row (Sha.sched s.data.toList 48))) ∧ Below w.heap.size w w' := by
  go_enter Tryd.func102, Tryd.ntmps102
  go_wp2
  go_loopw [8] (fun i wr => ∃ k : Nat, k ≤ 16 ∧ i = .int .i64 k ∧ wr.heap[w.heap.size]? = some (.cells (row []) 131 (0, 0)) ∧ wr.heap[w.heap.size + 1]? = some (.cells (row (Sha.words s.data.toList k)) 131 (0, 0)) ∧ Below w.heap.size w wr) (fun i _ => 16 - (intOf i).toNat)
  case atStart => 
    refine ⟨0, Nat.zero_le _, rfl, ?_, ?_, ?_⟩
    · exact heap_alloc2_old _ _ _
    · exact heap_alloc2_new _ _ _
    · exact ((Below.refl _ _).alloc (Nat.le_refl _) _).alloc (by simp) _
  case round =>
    obtain ⟨k, hk, rfl, hb, hc, hbl⟩ := hrel
    by_cases hlt : k < 16
    · have l0 := Sha.words_length s.data.toList k
      have hx : ∃ v, wr.cell? ⟨w.heap.size + 1, k, none⟩ = some v := by
        obtain ⟨x, hx⟩ := row_has (L := Sha.words s.data.toList k) (i := k) (by omega) (by omega)
        exact ⟨_, (cell_of_row _ _ _ _ _ _ hc).trans hx⟩
      obtain ⟨v, hv⟩ := hx
      have hf := frozen_of_row _ _ k _ _ hc
      have i0 : (0 : Int) ≤ 4 * (k : Int) ∧ 4 * (k : Int) < 64 := by omega
      have i1 : (0 : Int) ≤ 4 * (k : Int) + 1 ∧ 4 * (k : Int) + 1 < 64 := by omega
      have i2 : (0 : Int) ≤ 4 * (k : Int) + 2 ∧ 4 * (k : Int) + 2 < 64 := by omega
      have i3 : (0 : Int) ≤ 4 * (k : Int) + 3 ∧ 4 * (k : Int) + 3 < 64 := by omega
      have Hb := hide hb
      have Hc := hide hc
      have Hl := hide hbl
      clear hb hc hbl
      go_wp2
      go_region
      go_wp2
      go_roundw
      case rel => 
        refine ⟨k + 1, by omega, by go_num, ?_, ?_, ?_⟩
        · exact (heap_setCell_other _ _ _ _ (by simp)).trans (unhide Hb)
        · rw [Sha.words_succ]
          exact put_row (unhide Hc) l0 (by omega) (word_bits s k _ _ _ _)
        · exact ((unhide Hl).setCell (by simp) _).drew
      case measure => simp [intOf]; omega
    · obtain rfl : k = 16 := by omega
      obtain ⟨wo, rfl⟩ : ∃ wo : World, wo = wr := ⟨_, rfl⟩
      go_wp2
      go_loopw [5] (fun i wr => ∃ k : Nat, k ≤ 48 ∧ i = .int .i64 ((k : Int) + 16) ∧ wr.heap[w.heap.size]? = some (.cells (row []) 131 (0, 0)) ∧ wr.heap[w.heap.size + 1]? = some (.cells (row (Sha.sched s.data.toList k)) 131 (0, 0)) ∧ Below w.heap.size w wr) (fun i _ => 64 - (intOf i).toNat)
      case atStart => exact ⟨0, by omega, rfl, hb, hc, hbl⟩
      case round =>
        obtain ⟨k, hk, rfl, hb, hc, hbl⟩ := hrel
        by_cases hlt : k < 48
        · have l0 := Sha.sched_length s.data.toList k
          have hall := Sha.sched_all s.data.toList k
          obtain ⟨v, hv⟩ : ∃ v, wr.cell? ⟨w.heap.size + 1, k + 16, none⟩ = some v := by
            obtain ⟨x, hx⟩ := row_has (L := Sha.sched s.data.toList k) (i := k + 16) (by omega) (by omega)
            exact ⟨_, (cell_of_row _ _ _ _ _ _ hc).trans hx⟩
          have hf := frozen_of_row _ _ (k + 16) _ _ hc
          obtain ⟨x15, h15, e15⟩ : ∃ x, wr.cell? ⟨w.heap.size + 1, k + 1, none⟩ = some (.int .u32 x) ∧ x = (Sha.sched s.data.toList k).getD (k + 1) 0 := ⟨_, (cell_of_row _ _ _ _ _ _ hc).trans (row_get (by omega)), rfl⟩
          obtain ⟨x2, h2, e2⟩ : ∃ x, wr.cell? ⟨w.heap.size + 1, k + 14, none⟩ = some (.int .u32 x) ∧ x = (Sha.sched s.data.toList k).getD (k + 14) 0 := ⟨_, (cell_of_row _ _ _ _ _ _ hc).trans (row_get (by omega)), rfl⟩
          obtain ⟨x7, h7, e7⟩ : ∃ x, wr.cell? ⟨w.heap.size + 1, k + 9, none⟩ = some (.int .u32 x) ∧ x = (Sha.sched s.data.toList k).getD (k + 9) 0 := ⟨_, (cell_of_row _ _ _ _ _ _ hc).trans (row_get (by omega)), rfl⟩
          obtain ⟨x16, h16, e16⟩ : ∃ x, wr.cell? ⟨w.heap.size + 1, k, none⟩ = some (.int .u32 x) ∧ x = (Sha.sched s.data.toList k).getD k 0 := ⟨_, (cell_of_row _ _ _ _ _ _ hc).trans (row_get (by omega)), rfl⟩
          have r15 : R x15 := e15 ▸ Sha.getD_R hall _
          have r2 : R x2 := e2 ▸ Sha.getD_R hall _
          have r7 : R x7 := e7 ▸ Sha.getD_R hall _
          have r16 : R x16 := e16 ▸ Sha.getD_R hall _
          have HE := hide (show Sha.next (Sha.sched s.data.toList k) = (Sha.s1 x2 + x7 + Sha.s0 x15 + x16) % 4294967296 by
            unfold Sha.next; rw [l0, e2, e7, e15, e16, show 16 + k - 2 = k + 14 by omega, show 16 + k - 7 = k + 9 by omega, show 16 + k - 15 = k + 1 by omega, show 16 + k - 16 = k by omega])
          have Hr := hide (And.intro r15 (And.intro r2 (And.intro r7 r16)))
          obtain ⟨r15a, r15b⟩ := r15
          obtain ⟨r2a, r2b⟩ := r2
          obtain ⟨r7a, r7b⟩ := r7
          obtain ⟨r16a, r16b⟩ := r16
          have Hb := hide hb
          have Hc := hide hc
          have Hl := hide hbl
          have L0 := hide l0
          clear hb hc hbl e15 e2 e7 e16 hall l0
          have i14 : (0 : Int) ≤ (k : Int) + 14 ∧ (k : Int) + 14 < 64 := by omega
          have j14 : IntKind.i64.wrap ((k : Int) + 16 - 2) = (k : Int) + 14 := by rw [wrap_i64_R ⟨by omega, by omega⟩]; omega
          have n14 : ((k : Int) + 14).toNat = k + 14 := by omega
          have n9 : ((k : Int) + 9).toNat = k + 9 := by omega
          have n16 : ((k : Int) + 16).toNat = k + 16 := by omega
          have i9 : (0 : Int) ≤ (k : Int) + 9 ∧ (k : Int) + 9 < 64 := by omega
          have j9 : IntKind.i64.wrap ((k : Int) + 16 - 7) = (k : Int) + 9 := by rw [wrap_i64_R ⟨by omega, by omega⟩]; omega
          have j0 : IntKind.i64.wrap ((k : Int) + 16 - 16) = (k : Int) := by rw [wrap_i64_R ⟨by omega, by omega⟩]; omega
          have i0 : (0 : Int) ≤ (k : Int) ∧ (k : Int) < 64 := by omega
          go_wp2
          go_quiet ((go_at_call 109; refine (turn_go _ _ _ ?_ ?_ ?_ ?_).mono ?_ <;> first | omega | (rintro e w' ⟨rfl, rfl⟩; exact ⟨rfl, _, rfl⟩)))
          go_wp2
          go_quiet ((go_at_call 109; refine (turn_go _ _ _ ?_ ?_ ?_ ?_).mono ?_ <;> first | omega | (rintro e w' ⟨rfl, rfl⟩; exact ⟨rfl, _, rfl⟩)))
          go_wp2
          go_region
          go_wp2
          go_roundw
          case rel => 
            obtain ⟨q15, q2, q7, q16⟩ := unhide Hr
            refine ⟨k + 1, by omega, by go_num, ?_, ?_, ?_⟩
            · exact (heap_setCell_other _ _ _ _ (by simp)).trans (unhide Hb)
            · exact put_row (wr := wr.drewN _) (L := Sha.sched s.data.toList k) (unhide Hc) (by rw [unhide L0]; omega) (by omega) (by rw [s0_u32 q15, s1_u32 q2, unhide HE])
            · exact (below_draws (unhide Hl) _).setCell (by simp) _
          case measure => simp [intOf]; omega
        · obtain rfl : k = 48 := by omega
          have l0 := Sha.sched_length s.data.toList 48
          generalize hL : Sha.sched s.data.toList 48 = L at *
          have HL := hide hL
          have sz := row_size (L := L) (by omega)
          have sz0 := row_size (L := []) (by decide)
          have hi : (Tryd.prog.info? 131).map (·.size) = some (row L).size := by rw [sz]; exact info131
          have ho : (row []).size = (row L).size := by rw [sz, sz0]
          clear hL
          go_wp2_with (refine wpList_load_row rfl 131 _ rfl (w.heap.size + 1) rfl 131 (row L) (0, 0) _ hc Tryd.underlying131 rfl hi ?_; refine wpList_store_row rfl 131 _ _ rfl w.heap.size (row L) rfl rfl 131 (row []) hb hi ho (row_one L) ?_)
          refine bodyPost_ret (v := .agg (row L)) (results_cell_row Tryd.results102 _ _ w.heap.size 131 (row L) (0, 0) _ rfl (setRow_heap _ _ _ _ _ _ hb) Tryd.underlying131 rfl hi) rfl ⟨by rw [unhide HL], ?_⟩
          exact hbl.trans ⟨rfl, rfl, rfl, by simp, fun k hk => setRow_other _ _ _ _ (by omega)⟩
end Go.Proofs.YtfodibjlldmnpaaDoor
