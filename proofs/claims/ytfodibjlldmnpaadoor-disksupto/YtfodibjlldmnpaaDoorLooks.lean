/-
  Drawer.looks.
-/
import Derived.Test.YtfodibjlldmnpaaDoorKeep
namespace Go.Proofs.YtfodibjlldmnpaaDoor
open Go.RowKit

theorem own_cell {w : World} {B : Nat} {e : TypeId} {v : Value} {n : Nat} {xs : List Value} {k : Nat} (h : w.ownsRow B e 1 v n xs) (hk : k < n) : ∃ g cap, v = .slice (some ⟨g, 0, none⟩) n cap ∧ w.cell? ⟨g, k, none⟩ = some (xs.getD k undef) := by
  obtain ⟨g, cap, rfl⟩ := own_slice h (by omega)
  refine ⟨g, cap, rfl, ?_⟩
  rw [h.cellAt k (by omega), List.getD_eq_getElem?_getD, List.getElem?_eq_getElem (by have := h.1; omega)]
  rfl
theorem own_range {w : World} {B : Nat} {v : Value} {n : Nat} {p : List (List UInt8)} {k : Nat} {d : List UInt8} (h : w.ownsRow B 24 32 v n (flat p)) (hp : ∀ x ∈ p, x.length = 32) (hl : p.length = n) (hk : k < n) (hd : d = p.getD k []) : ∃ g cap, v = .slice (some ⟨g, 0, none⟩) n cap ∧ w.rangeAt g (k * 32) (blist d) := by
  obtain ⟨g, cap, rfl⟩ := own_slice h (by omega)
  refine ⟨g, cap, rfl, fun j u hu => ?_⟩
  have hj : j < 32 := by
    have h1 := (List.getElem?_eq_some_iff.1 hu).1
    rw [List.length_map, hd, List.getD_eq_getElem?_getD, List.getElem?_eq_getElem (by omega)] at h1
    have := hp _ (List.getElem_mem (by omega : k < p.length))
    simp at h1
    omega
  have : k * 32 + j < n * 32 := by have : (k + 1) * 32 ≤ n * 32 := Nat.mul_le_mul_right _ (by omega); omega
  rw [h.cellAt _ this]
  exact flat_cell hp k (by omega) j u (by rw [← hd]; exact hu)

set_option maxRecDepth 100000 in
set_option maxHeartbeats 2000000 in
theorem looks_go (B T g n : Nat) (vl vm : Value) (ls : List Value) (ms : List (List UInt8)) (w : World) (hD : Dr B T w g n vl vm ls ms) (hn : n ≤ 5000) :
    Calls Tryd.prog 28 #[.pointer (some ⟨g, 0, none⟩)] w fun e w' => e = .returned (.bool true) ∧ Below w.heap.size w w' := by
  have hgw : g < w.heap.size := Nat.lt_of_lt_of_le hD.gT hD.tw
  obtain ⟨al, cl, hvl, _, _⟩ := own_len hD.l
  obtain ⟨am, cm, hvm, _, _⟩ := own_len hD.m
  have h0 : w.cell? ⟨g, 0, none⟩ = some (.slice al n cl) := by rw [cell_of_row _ _ _ _ _ _ hD.at', ← hvl]; rfl
  have h1 : w.cell? ⟨g, 1, none⟩ = some (.slice am n cm) := by rw [cell_of_row _ _ _ _ _ _ hD.at', ← hvm]; rfl
  have HC0 := hide h0
  have HC1 := hide h1
  have HD := hide hD
  have HVL := hide hvl
  have HVM := hide hvm
  clear hD hvl hvm h0 h1
  go_enter Tryd.func28, Tryd.ntmps28
  go_wp2_with fail
  go_loopw [3] (fun vk wr => ∃ k : Nat, k ≤ n ∧ vk = .int .i64 k ∧ Below w.heap.size w wr) (fun vk _ => n - (intOf vk).toNat)
  case atStart => exact ⟨0, Nat.zero_le _, rfl, Below.refl _ _⟩
  case round =>
    obtain ⟨k, hk, rfl, hb⟩ := hrel
    have hc0 : wr.cell? ⟨g, 0, none⟩ = some (.slice al n cl) := (hb.cell (p := ⟨g, 0, none⟩) hgw).trans (unhide HC0)
    by_cases hlt : k < n
    · obtain ⟨len, hlen, hrow, _⟩ := (unhide HD).each k hlt
      obtain ⟨gl, cl2, hv2, hck⟩ := own_cell (unhide HD).l hlt
      rw [unhide HVL] at hv2
      obtain ⟨ak, ck, hvk, _, hak⟩ := own_len hrow
      obtain ⟨mk, hmk⟩ : ∃ mk, mk = ms.getD k [] := ⟨_, rfl⟩
      obtain ⟨gm, cm2, hv3, hrm⟩ := own_range (unhide HD).m (unhide HD).all (unhide HD).mn hlt hmk
      rw [unhide HVM] at hv3
      have hmkl : mk.length = 32 := by
        rw [hmk, List.getD_eq_getElem?_getD, List.getElem?_eq_getElem (by rw [(unhide HD).mn]; exact hlt)]
        exact (unhide HD).all _ (List.getElem_mem _)
      simp only [Value.slice.injEq] at hv2 hv3
      obtain ⟨rfl, _, _⟩ := hv2
      obtain ⟨rfl, _, _⟩ := hv3
      rw [hvk] at hck hrow
      rw [← hmk] at hrow
      have hgl : gl < w.heap.size := World.block_lt_of_cell? _ _ hck
      have hck' : wr.cell? ⟨gl, k, none⟩ = some (.slice ak len ck) := (hb.cell (p := ⟨gl, k, none⟩) hgl).trans hck
      have hkI : (k : Int) < (n : Int) := by omega
      have HROW := hide hrow
      have HRM := hide hrm
      have HCK := hide hck
      have HB := hide hb
      clear hrow hrm hck hb hmk hvk
      go_wp2_with fail
      clear hc0 hck'
      go_loopw [4] (fun vi wx => ∃ i : Nat, i ≤ len ∧ vi = .int .i64 i ∧ Below w.heap.size w wx) (fun vi _ => len - (intOf vi).toNat)
      case atStart => exact ⟨0, Nat.zero_le _, rfl, unhide HB⟩
      case round =>
        obtain ⟨i, hi, rfl, hb⟩ := hrel
        have hc0 : wr.cell? ⟨g, 0, none⟩ = some (.slice (some ⟨gl, 0, none⟩) n cl) := (hb.cell (p := ⟨g, 0, none⟩) hgw).trans (unhide HC0)
        have hc1 : wr.cell? ⟨g, 1, none⟩ = some (.slice (some ⟨gm, 0, none⟩) n cm) := (hb.cell (p := ⟨g, 1, none⟩) hgw).trans (unhide HC1)
        have hck : wr.cell? ⟨gl, k, none⟩ = some (.slice ak len ck) := (hb.cell (p := ⟨gl, k, none⟩) hgl).trans (unhide HCK)
        by_cases hilt : i < len
        · obtain ⟨gk, ck2, hvk, hrk⟩ := own_range (unhide HROW) (by intro x hx; rw [List.eq_of_mem_replicate hx]; exact hmkl) (by simp) hilt (d := mk) (by rw [List.getD_eq_getElem?_getD, List.getElem?_replicate_of_lt hilt]; rfl)
          simp only [Value.slice.injEq] at hvk
          obtain ⟨rfl, _, _⟩ := hvk
          have hgk : gk < w.heap.size := ((unhide HROW).lt gk rfl).2
          have hgm : gm < w.heap.size := by
            have := (unhide HD).m
            rw [unhide HVM] at this
            exact (this.lt gm rfl).2
          have hr1 : wr.rangeAt gk (i * 32) (blist mk) := fun j u hu => (hb.cell (p := ⟨gk, i * 32 + j, none⟩) hgk).trans (hrk j u hu)
          have hr2 : wr.rangeAt gm (k * 32) (blist mk) := fun j u hu => (hb.cell (p := ⟨gm, k * 32 + j, none⟩) hgm).trans (unhide HRM j u hu)
          have hiI : (i : Int) < (len : Int) := by omega
          have hi24 : (Tryd.prog.info? 24).map (·.size) = some (blist mk).length := by have := rinfo hmkl; rwa [brow_size, ← List.length_map (f := fun c : UInt8 => Value.int .u8 (c.toNat : Int))] at this
          have heq : ∀ W, (Op.equalIn 10000 24 (.agg (blist mk).toArray) (.agg (blist mk).toArray)).run Tryd.prog W = .ok true W := fun W => by
            have := eq_row mk mk hmkl hmkl W
            rw [beq_self_eq_true] at this
            exact this
          have hg24 := guard_24
          have HB2 := hide hb
          clear hb hrk
          go_wp2_with fail
          refine wp_region_quiet_lit (by kernel_rfl) (by kernel_rfl) ?_
          repeat (first
            | go_big_quiet_skip
            | (go_big_quiet_want; (first | (refine quiet_load_mid 24 (.tmp 34) rfl gk (i * 32) rfl (blist mk) _ (range_drewN hr1) Tryd.underlying24 rfl hi24 ?_; simp only [Act.put, List.setIfInBounds_toArray, List.set_cons_zero, List.set_cons_succ]) | (refine quiet_load_mid 24 (.tmp 41) rfl gm (k * 32) rfl (blist mk) _ (range_drewN hr2) Tryd.underlying24 rfl hi24 ?_; simp only [Act.put, List.setIfInBounds_toArray, List.set_cons_zero, List.set_cons_succ]) | go_big_quiet_op); go_big_quiet_on))
          refine wpQuiet_nil ?_
          rintro _ ⟨nq, rfl⟩
          go_wp2_with fail
          go_roundw
          case rel => exact ⟨i + 1, by omega, by go_num, below_draws (unhide HB2) _⟩
          case measure => simp [intOf]; omega
        · obtain rfl : i = len := by omega
          go_wp2_with fail
          go_roundw
          case rel => exact ⟨k + 1, by omega, by go_num, hb⟩
          case measure => simp [intOf]; omega
    · obtain rfl : k = n := by omega
      go_wp2_with fail
      go_ret
      exact ⟨rfl, hb⟩

end Go.Proofs.YtfodibjlldmnpaaDoor
