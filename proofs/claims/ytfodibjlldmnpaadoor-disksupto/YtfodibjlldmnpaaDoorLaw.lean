import Derived.Test.YtfodibjlldmnpaaDoorRtag
import Derived.Stop.BytesEq
namespace Go.Proofs.YtfodibjlldmnpaaDoor
open Go.RowKit

theorem wpList_load_row_g {P : Program} {ops : Array Oper} {rest : List Oper} {o : Oper} {a : Act} {w : World} {Q : Exit → Act → World → Prop} (hw : Region.wanted o (yielded ops a.tmps) = true) (ty : TypeId) (x : Operand) (ho : o.op = .load ty x)
    (g : Nat) (hx : a.eval x = .pointer (some ⟨g, 0, none⟩)) (t : TypeId) (cs : Array Value) (fr : Nat × Nat) (d : TypeDesc) (hg : w.heap[g]? = some (.cells cs t fr))
    (hu : P.underlying ty = some d) (hd : (match d with | .struct _ | .array _ _ => true | _ => false) = true) (hi : (P.info? ty).map (·.size) = some cs.size)
    (h : wpList P ops Q rest (a.put o.dst (.agg cs)) w) : wpList P ops Q (o :: rest) a w :=
  wpList_step fun K hK => by
    rw [if_pos hw]
    exact wp_load_row ty x ho g hx t cs fr d hg hu hd hi (hK _ _ h)
theorem size5 : ∀ w, (sizeOf 5).run Tryd.prog w = .ok 1 w := fun _ => by kernel_rfl
theorem guard24 : Tryd.prog.eqGuardType Tryd.prog.depth 24 = false := by kernel_rfl
theorem same_row (D : List UInt8) (h : D.length = 32) (W : World) : (Op.equalIn 10000 24 (.agg (brow D)) (.agg (brow D))).run Tryd.prog W = .ok true W := by
  have := run_equalIn_bytes (P := Tryd.prog) W 9998 24 5 32 Tryd.underlying24 Tryd.underlying5 size5 D D h h
  rw [beq_self_eq_true] at this
  exact this
theorem tag_length (k l : List UInt8) : (Sha.tag k l).length = 32 := Sha.digest_length _

theorem row_info {D : List UInt8} (h : D.length = 32) : (Tryd.prog.info? 24).map (·.size) = some (brow D).size := by rw [brow_size, h]; exact info24
theorem row_zero {D : List UInt8} (h : D.length = 32) : (brow (List.replicate 32 0)).size = (brow D).size := by
  have e1 := brow_size D
  have e2 : (brow (List.replicate 32 0)).size = 32 := rfl
  omega

set_option maxRecDepth 100000 in
set_option maxHeartbeats 2000000 in
theorem digests_law (key s : ByteArray) (w : World) (hk : key.size ≤ 140737488351232) (hs : s.size ≤ 140737488351232) (hT : Table w) (hz : 0 < w.heap.size) :
    Calls Tryd.prog 4 #[.string key, .string s] w fun e w' => e = .returned (.bool true) ∧ Kept w.heap.size w w' := by
  have HT := hide hT
  clear hT
  have hg := guard24
  go_enter Tryd.func4, Tryd.ntmps4
  go_wp2_with fail
  refine (bailey_digest s _ (by omega) (unhide HT) hz).mono ?_
  rintro e w1 ⟨rfl, hb1⟩
  obtain ⟨D, hD⟩ : ∃ D, D = Sha.digest s.data.toList := ⟨_, rfl⟩
  have hDl : D.length = 32 := by rw [hD]; exact Sha.digest_length _
  rw [← hD]
  have HD := hide hD
  clear hD
  have k1 : Kept w.heap.size w w1 := .of hb1
  have s1 := k1.size
  have K1 := hide k1
  clear hb1 k1
  go_wp2_with (refine wpList_store_put rfl 24 _ _ rfl w1.heap.size (brow D) rfl rfl 24 _ (heap_alloc_new _ _) (row_info hDl) (row_zero hDl) (brow_one _) ?_; intro w2 hp2)
  have r1 : w2.heap[w1.heap.size]? = some (.cells (brow D) 24 (0, 0)) := hp2.row
  have k2 : Kept w.heap.size w w2 := ((unhide K1).alloc s1 _).trans (.of (hp2.below s1))
  have s2 : w1.heap.size < w2.heap.size := by rw [hp2.size]; simp
  clear hp2
  have R1 := hide r1
  have K2 := hide k2
  clear r1 k2
  refine (digest_ref s _ (by omega)).mono ?_
  rintro e w3 ⟨rfl, hb3⟩
  rw [← unhide HD]
  have r1 : w3.heap[w1.heap.size]? = some (.cells (brow D) 24 (0, 0)) := (hb3.block _ s2).trans (unhide R1)
  have k3 : Kept w.heap.size w w3 := (unhide K2).trans (hb3.mono (by omega))
  have s3 := hb3.size
  clear hb3 R1 K2
  have R1 := hide r1
  have K3 := hide k3
  clear r1 k3
  go_wp2_with (refine wpList_store_put rfl 24 _ _ rfl w3.heap.size (brow D) rfl rfl 24 _ (heap_alloc_new _ _) (row_info hDl) (row_zero hDl) (brow_one _) ?_; intro w4 hp4)
  have r2 : w4.heap[w3.heap.size]? = some (.cells (brow D) 24 (0, 0)) := hp4.row
  have r1 : w4.heap[w1.heap.size]? = some (.cells (brow D) 24 (0, 0)) := (hp4.other _ (by omega)).trans ((Below.heap_alloc _ _ _ (by omega)).trans (unhide R1))
  have k4 : Kept w.heap.size w w4 := ((unhide K3).alloc (by omega) _).trans (.of (hp4.below (by omega)))
  have s4 : w3.heap.size < w4.heap.size := by rw [hp4.size]; simp
  clear hp4 R1 K3
  have hT4 : Table w4 := fun i hi => (k4.cell (p := ⟨0, i, none⟩) hz).trans (unhide HT i hi)
  have R12 := hide (And.intro r1 r2)
  have K4 := hide k4
  have HT4 := hide hT4
  clear r1 r2 k4 hT4
  refine (bailey_tag key s _ (by omega) (by omega) (unhide HT4) (by omega)).mono ?_
  rintro e w5 ⟨rfl, hb5⟩
  obtain ⟨T, hTg⟩ : ∃ T, T = Sha.tag key.data.toList s.data.toList := ⟨_, rfl⟩
  have hTl : T.length = 32 := by rw [hTg]; exact tag_length _ _
  rw [← hTg]
  have HTg := hide hTg
  clear hTg
  have s5 := hb5.size
  have R12' := hide (And.intro ((hb5.block _ (by omega)).trans (unhide R12).1) ((hb5.block _ (by omega)).trans (unhide R12).2))
  have K5 := hide ((unhide K4).trans (.of (hb5.mono (by omega))))
  clear hb5 R12 K4
  go_wp2_with (refine wpList_store_put rfl 24 _ _ rfl w5.heap.size (brow T) rfl rfl 24 _ (heap_alloc_new _ _) (row_info hTl) (row_zero hTl) (brow_one _) ?_; intro w6 hp6)
  have s6 : w5.heap.size < w6.heap.size := by rw [hp6.size]; simp
  have R123 := hide (And.intro ((hp6.other _ (by omega)).trans ((Below.heap_alloc _ _ _ (by omega)).trans (unhide R12').1)) (And.intro ((hp6.other _ (by omega)).trans ((Below.heap_alloc _ _ _ (by omega)).trans (unhide R12').2)) hp6.row))
  have K6 := hide (((unhide K5).alloc (by omega) _).trans (.of (hp6.below (by omega))))
  clear hp6 R12' K5
  refine (tag_ref key s _ (by omega) (by omega)).mono ?_
  rintro e w7 ⟨rfl, hb7⟩
  rw [← unhide HTg]
  have s7 := hb7.size
  have R123' := hide (And.intro ((hb7.block _ (by omega)).trans (unhide R123).1) (And.intro ((hb7.block _ (by omega)).trans (unhide R123).2.1) ((hb7.block _ (by omega)).trans (unhide R123).2.2)))
  have K7 := hide ((unhide K6).trans (hb7.mono (by omega)))
  clear hb7 R123 K6
  have hD2 := same_row D hDl
  have hT2 := same_row T hTl
  go_wp2_with (first
    | (refine wpList_store_put rfl 24 _ _ rfl w7.heap.size (brow T) rfl rfl 24 _ (heap_alloc_new _ _) (row_info hTl) (row_zero hTl) (brow_one _) ?_; intro w8 hp8; have q1 := (hp8.other w1.heap.size (by omega)).trans ((Below.heap_alloc _ _ _ (by omega)).trans (unhide R123').1); have q2 := (hp8.other w3.heap.size (by omega)).trans ((Below.heap_alloc _ _ _ (by omega)).trans (unhide R123').2.1); have q3 := (hp8.other w5.heap.size (by omega)).trans ((Below.heap_alloc _ _ _ (by omega)).trans (unhide R123').2.2); have q4 := hp8.row; have K8 := hide (((unhide K7).alloc (by omega) _).trans (.of (hp8.below (by omega)))); clear hp8)
    | (refine wpList_load_row rfl 24 _ rfl w1.heap.size rfl 24 (brow D) (0, 0) _ q1 Tryd.underlying24 rfl (row_info hDl) ?_)
    | (refine wpList_load_row rfl 24 _ rfl w3.heap.size rfl 24 (brow D) (0, 0) _ q2 Tryd.underlying24 rfl (row_info hDl) ?_)
    | (refine wpList_load_row_g (by rfl) 24 _ rfl w5.heap.size rfl 24 (brow T) (0, 0) _ q3 Tryd.underlying24 rfl (row_info hTl) ?_)
    | (refine wpList_load_row_g (by rfl) 24 _ rfl w7.heap.size rfl 24 (brow T) (0, 0) _ q4 Tryd.underlying24 rfl (row_info hTl) ?_))
  go_ret
  exact ⟨rfl, unhide K8⟩
end Go.Proofs.YtfodibjlldmnpaaDoor
