/-
  Lvfy, Chead, joined.
-/
import Derived.Test.YtfodibjlldmnpaaDoorJCentry
import Derived.Test.YtfodibjlldmnpaaDoorJHsame
import Derived.Test.YtfodibjlldmnpaaDoorKeep
/-
  Logs, the reference: Verify.
-/
namespace Go.Proofs.YtfodibjlldmnpaaDoor
open Go.RowKit

theorem str_inj {a b : ByteArray} (h : a.toList = b.toList) : a = b := by
  rw [Lib.toList_data, Lib.toList_data] at h
  exact Go.WideShapes.bytes_inj h
abbrev zeros : List UInt8 := List.replicate 32 0
/-- The digest of the entry ahead of the i-th. -/
def hashAt (E : List ByteArray) : Nat → List UInt8
  | 0 => zeros
  | i + 1 => Sha.digest (E.getD i ByteArray.empty).data.toList
theorem hashAt_len (E : List ByteArray) : ∀ i, (hashAt E i).length = 32
  | 0 => rfl
  | _ + 1 => Sha.digest_length _
/-- Whether the i-th entry is bound to the one ahead of it. -/
def bound (E : List ByteArray) (i : Nat) : Bool :=
  decide ((E.getD i ByteArray.empty).extract 0 32 = ⟨(hashAt E i).toArray⟩) && decide (numOf ((E.getD i ByteArray.empty).extract 32 36).data.toList = i)
/-- The first entry from i on that is not bound. -/
def loose (E : List ByteArray) (i : Nat) : Option Nat := if _h : i < E.length then (if bound E i then loose E (i + 1) else some i) else none
termination_by E.length - i
theorem loose_end {E : List ByteArray} {i : Nat} (h : ¬ i < E.length) : loose E i = none := by rw [loose, dif_neg h]
theorem loose_some {E : List ByteArray} {i : Nat} (h : i < E.length) (hb : bound E i = false) : loose E i = some i := by rw [loose, dif_pos h, if_neg (by rw [hb]; simp)]
theorem loose_next {E : List ByteArray} {i : Nat} (h : i < E.length) (hb : bound E i = true) : loose E i = loose E (i + 1) := by rw [loose, dif_pos h, if_pos hb]

/-- What Verify answers. -/
def vfyOf (E : List ByteArray) (all : Bool) (n : Int) (head : List UInt8) : Int × Int :=
  match loose E 0 with
  | some i => (9, i)
  | none => if all then (if (E.length : Int) = n ∧ hashAt E E.length = head then (0, n) else (9, E.length)) else (1, E.length)

theorem ents_fit (log : ByteArray) : ∀ (m o : Nat), log.size - o ≤ m → ∀ e ∈ (ents log o).1, fitsB e = true ∧ e.size ≤ log.size := by
  intro m
  induction m with
  | zero =>
    intro o ho e he
    rw [ents_end (by omega)] at he
    cases he
  | succ m ih =>
    intro o ho e he
    rw [ents] at he
    split at he
    · split at he
      · cases he
      · split at he
        · cases he
        · split at he
          · rename_i h1 h2 h3 h4
            rcases List.mem_cons.1 he with rfl | h
            · refine ⟨h4, ?_⟩
              rw [entAt_size (by omega)]
              omega
            · exact ih _ (by omega) e h
          · cases he
    · cases he
theorem vfy_loose {E : List ByteArray} {all : Bool} {n : Int} {head : List UInt8} {i : Nat} (h : loose E 0 = some i) : vfyOf E all n head = (9, (i : Int)) := by rw [vfyOf, h]
theorem vfy_none {E : List ByteArray} {all : Bool} {n : Int} {head : List UInt8} (h : loose E 0 = none) : vfyOf E all n head = if all then (if (E.length : Int) = n ∧ hashAt E E.length = head then (0, n) else (9, E.length)) else (1, E.length) := by rw [vfyOf, h]
theorem ents_get {log : ByteArray} {i : Nat} (h : i < (ents log 0).1.length) : 135 ≤ ((ents log 0).1.getD i ByteArray.empty).size ∧ ((ents log 0).1.getD i ByteArray.empty).size ≤ log.size := by
  rw [List.getD_eq_getElem?_getD, List.getElem?_eq_getElem h]
  have := ents_fit log _ 0 (Nat.le_refl _) _ (List.getElem_mem h)
  exact ⟨fitsB_size this.1, this.2⟩

/-- What the loop keeps. -/
structure Vf (w : World) (head : List UInt8) (B : Nat) (v : Value) (E : List ByteArray) (H : Nat) (h : List UInt8) (wx : World) : Prop where
  kept : Kept w.heap.size w wx
  box : wx.heap[w.heap.size]? = some (.cells (brow head) 24 (0, 0))
  own : wx.ownsRow (w.heap.size + 1) 9 1 v E.length (E.map Value.string)
  ownB : ∀ k, v.ownBlock = some k → k < B
  HB : B ≤ H
  row : wx.heap[H]? = some (.cells (brow h) 24 (0, 0))

theorem Vf.next {w : World} {head : List UInt8} {B : Nat} {v : Value} {E : List ByteArray} {H : Nat} {h : List UInt8} {wx wy : World} (k : Vf w head B v E H h wx) (hk : Kept wx.heap.size wx wy) : Vf w head B v E H h wy :=
  ⟨k.kept.trans (hk.mono k.kept.size), (hk.block _ (Array.getElem?_eq_some_iff.1 k.box).1).trans k.box, own_blocks k.own fun j hj => hk.block j (k.own.lt j hj).2, k.ownB, k.HB, (hk.block _ (Array.getElem?_eq_some_iff.1 k.row).1).trans k.row⟩
theorem Vf.put {w : World} {head : List UInt8} {B : Nat} {v : Value} {E : List ByteArray} {H : Nat} {h h' : List UInt8} {wx wy : World} (k : Vf w head B v E H h wx) (hp : Put H (brow h') 24 wx wy) (hB : w.heap.size < B) : Vf w head B v E H h' wy := by
  have hHB := k.HB
  refine ⟨⟨hp.os.trans k.kept.os, hp.output.trans k.kept.output, by rw [hp.size]; exact k.kept.size, fun j hj => (hp.other j (by omega)).trans (k.kept.block j hj)⟩, (hp.other _ (by omega)).trans k.box, own_blocks k.own fun j hj => hp.other j (by have := k.ownB j hj; omega), k.ownB, hHB, hp.row⟩

set_option maxRecDepth 100000 in
set_option maxHeartbeats 1000000 in
theorem verify_ref (log : ByteArray) (n : Int) (head : List UInt8) (w : World) (hs : log.size ≤ 140737488351232) (hh : head.length = 32) :
    Calls Tryd.prog 30 #[.string log, .int .i64 n, .agg (brow head)] w fun e w' => e = .returned (.tuple #[.int .i64 (vfyOf (ents log 0).1 (ents log 0).2 n head).1, .int .i64 (vfyOf (ents log 0).1 (ents log 0).2 n head).2]) ∧ Kept w.heap.size w w' := by
  obtain ⟨E, hE⟩ : ∃ E, E = (ents log 0).1 := ⟨_, rfl⟩
  obtain ⟨all, hall⟩ : ∃ all, all = (ents log 0).2 := ⟨_, rfl⟩
  rw [← hE, ← hall]
  have hget : ∀ i, i < E.length → 135 ≤ (E.getD i ByteArray.empty).size ∧ (E.getD i ByteArray.empty).size ≤ log.size := fun i hi => by rw [hE] at hi ⊢; exact ents_get hi
  have HGET := hide hget
  have HEE := hide (And.intro hE hall)
  clear hE hall hget
  go_enter Tryd.func30, Tryd.ntmps30
  go_wp2_with fail
  refine (entries_ref log _ (by omega)).mono ?_
  rintro _ w1 ⟨v, rfl, hown, hb1⟩
  rw [← (unhide HEE).1] at hown
  rw [← (unhide HEE).2]
  have hv0 : Vf w head w1.heap.size v E w1.heap.size (hashAt E 0) (w1.alloc (.cells (brow zeros) 24)) := by
    have hbx : w1.heap[w.heap.size]? = some (.cells (brow head) 24 (0, 0)) := (hb1.block _ (by simp)).trans (heap_alloc_new _ _)
    have hlt := (Array.getElem?_eq_some_iff.1 hbx).1
    have hk : Kept w.heap.size w w1 := ⟨hb1.os, hb1.output, Nat.le_trans (by simp) hb1.size, fun k hk => (hb1.block k (by simp; omega)).trans (Below.heap_alloc _ _ _ hk)⟩
    refine ⟨hk.alloc hk.size _, (Below.heap_alloc _ _ _ hlt).trans hbx, ?_, fun k hk' => (hown.lt k hk').2, Nat.le_refl _, heap_alloc_new _ _⟩
    have := hown.alloc (.cells (brow zeros) 24)
    simpa using this
  have hw1 : w.heap.size < w1.heap.size := by
    have := hb1.size
    simp at this
    omega
  obtain ⟨ao, cap, hv, hcap, hao⟩ := own_len hown
  subst hv
  have HV0 := hide hv0
  clear hown hb1 hv0
  go_wp2_with fail
  go_loopw [11] (fun vi wr => ∃ i : Nat, i ≤ E.length ∧ vi = .int .i64 i ∧ loose E 0 = loose E i ∧ Vf w head w1.heap.size (.slice ao E.length cap) E w1.heap.size (hashAt E i) wr) (fun vi _ => E.length - (intOf vi).toNat)
  case atStart => exact ⟨0, Nat.zero_le _, rfl, rfl, unhide HV0⟩
  case round =>
    obtain ⟨i, hi, rfl, hlo, hvf⟩ := hrel
    clear HV0
    by_cases hlt : i < E.length
    · obtain ⟨g, rfl⟩ := hao (by omega)
      obtain ⟨x, hx⟩ : ∃ x, x = E.getD i ByteArray.empty := ⟨_, rfl⟩
      have hcell : wr.cell? ⟨g, i, none⟩ = some (.string x) := by
        rw [hvf.own.cellAt i (by omega), List.getElem?_map, List.getElem?_eq_getElem hlt, hx, List.getD_eq_getElem?_getD, List.getElem?_eq_getElem hlt]; rfl
      have hxs := unhide HGET i hlt
      rw [← hx] at hxs
      obtain ⟨h, hhd⟩ : ∃ h, h = hashAt E i := ⟨_, rfl⟩
      have hhl : h.length = 32 := by rw [hhd]; exact hashAt_len E i
      rw [← hhd] at hvf
      have HVF := hide hvf
      have HLO := hide hlo
      have HBD := hide (show bound E i = (decide (x.extract 0 32 = ⟨h.toArray⟩) && decide (numOf (x.extract 32 36).data.toList = i)) by rw [bound, ← hx, ← hhd])
      have HX := hide hx
      have hgl : g < wr.heap.size := World.block_lt_of_cell? _ _ hcell
      have hltI : (i : Int) < (E.length : Int) := by omega
      clear hvf hlo hx hhd
      go_wp2_with (refine wpList_load_row rfl 24 (.tmp 10) rfl w1.heap.size ?_ 24 (brow h) (0, 0) _ ?_ Tryd.underlying24 rfl (rinfo hhl) ?_; · rfl
                   · exact (unhide HVF).row)
      refine (text_ref h wr hhl).mono ?_
      rintro _ w2 ⟨rfl, hk2⟩
      have HV2 := hide ((unhide HVF).next hk2)
      have hcell2 : w2.cell? ⟨g, i, none⟩ = some (.string x) := (hk2.cell (p := ⟨g, i, none⟩) hgl).trans hcell
      clear hcell hk2
      have hx32 : (32 : Int) ≤ (x.size : Int) := by omega
      have hx36 : (36 : Int) ≤ (x.size : Int) := by omega
      obtain ⟨T, hTd⟩ : ∃ T : ByteArray, T = ⟨h.toArray⟩ := ⟨_, rfl⟩
      rw [← hTd] at HBD ⊢
      clear hTd
      by_cases heq : x.extract 0 32 = T
      · have hex : (x.extract 32 36).size ≤ 4 := by rw [ByteArray.size_extract]; omega
        obtain ⟨m, hm⟩ : ∃ m, m = numOf (x.extract 32 36).data.toList := ⟨_, rfl⟩
        have hm32 : m < 4294967296 := by
          have h1 := numOf_lt (x.extract 32 36).data.toList
          have h2 : (x.extract 32 36).data.toList.length ≤ 4 := by rw [size_toList]; exact hex
          have h3 : 256 ^ (x.extract 32 36).data.toList.length ≤ 256 ^ 4 := Nat.pow_le_pow_right (by omega) h2
          omega
        have HM := hide hm
        rw [← hm, heq] at HBD
        clear hm
        go_wp2_with fail
        refine (number_ref (x.extract 32 36) w2 hex).mono ?_
        rintro _ w3 ⟨rfl, rfl⟩
        rw [← unhide HM]
        by_cases hmi : m = i
        · have HL2 := hide ((unhide HLO).trans (loose_next hlt (by rw [unhide HBD]; simp [hmi])))
          subst hmi
          go_wp2_with fail
          refine (digest_ref x w3 (by omega)).mono ?_
          rintro _ w4 ⟨rfl, hk4⟩
          obtain ⟨D, hD⟩ : ∃ D, D = Sha.digest x.data.toList := ⟨_, rfl⟩
          have hDl : D.length = 32 := by rw [hD]; exact Sha.digest_length _
          rw [← hD]
          have HD := hide (show hashAt E (m + 1) = D by rw [hashAt, ← unhide HX, hD])
          have HV4 := hide ((unhide HV2).next hk4)
          clear hk4 hD hcell2
          go_wp2_with (refine wpList_store_put rfl 24 (.tmp 10) (.tmp 48) rfl w1.heap.size (brow D) ?_ ?_ 24 (brow h) ?_ (rinfo hDl) ?_ (brow_one _) ?_
                       · rfl
                       · rfl
                       · exact (unhide HV4).row
                       · rw [brow_size, brow_size, hhl, hDl]
                       intro w5 hp5)
          have HV5 := hide ((unhide HV4).put hp5 hw1)
          clear hp5
          go_roundw
          case rel => exact ⟨m + 1, by omega, by go_num, unhide HL2, by rw [unhide HD]; exact unhide HV5⟩
          case measure => simp [intOf]; omega
        · have HL2 := hide (vfy_loose (all := all) (n := n) (head := head) ((unhide HLO).trans (loose_some hlt (by rw [unhide HBD]; simp [hmi]))))
          have hmI : ¬ (m : Int) = (i : Int) := by omega
          go_wp2_with fail
          go_ret2
          exact ⟨by rw [unhide HL2]; rfl, (unhide HV2).kept⟩
      · have HL2 := hide (vfy_loose (all := all) (n := n) (head := head) ((unhide HLO).trans (loose_some hlt (by rw [unhide HBD]; simp [heq]))))
        have hne : ¬ (x.extract 0 32).toList = T.toList := fun h => heq (str_inj h)
        go_wp2_with fail
        go_ret2
        exact ⟨by rw [unhide HL2]; rfl, (unhide HV2).kept⟩
    · obtain rfl : i = E.length := by omega
      have HVF := hide hvf
      have HN := hide (vfy_none (all := all) (n := n) (head := head) (hlo.trans (loose_end hlt)))
      obtain ⟨h, hhd⟩ : ∃ h, h = hashAt E E.length := ⟨_, rfl⟩
      have hhl : h.length = 32 := by rw [hhd]; exact hashAt_len E _
      rw [← hhd] at HN HVF
      clear hvf hlo hhd
      cases all
      · go_wp2_with fail
        go_ret2
        exact ⟨by rw [unhide HN]; rfl, (unhide HVF).kept⟩
      · have heqh : ∀ W, (Op.equalIn 10000 24 (.agg (brow h)) (.agg (brow head))).run Tryd.prog W = .ok (h == head) W := eq_row h head hhl hh
        have hg24 := guard_24
        by_cases hn : (E.length : Int) = n
        · subst hn
          by_cases hhe : h = head
          · subst hhe
            rw [beq_self_eq_true] at heqh
            go_wp2_with (first
              | (refine wpList_load_row_g (by rfl) 24 (.tmp 10) rfl w1.heap.size ?_ 24 (brow h) (0, 0) _ ?_ Tryd.underlying24 rfl (rinfo hhl) ?_; · rfl
                 · exact (unhide HVF).row)
              | (refine wpList_load_row_g (by rfl) 24 (.tmp 5) rfl w.heap.size ?_ 24 (brow h) (0, 0) _ ?_ Tryd.underlying24 rfl (rinfo hhl) ?_; · rfl
                 · exact (unhide HVF).box))
            go_ret2
            refine ⟨?_, (unhide HVF).kept⟩
            rw [unhide HN]
            simp
          · have hbf : (h == head) = false := by simpa using hhe
            rw [hbf] at heqh
            go_wp2_with (first
              | (refine wpList_load_row_g (by rfl) 24 (.tmp 10) rfl w1.heap.size ?_ 24 (brow h) (0, 0) _ ?_ Tryd.underlying24 rfl (rinfo hhl) ?_; · rfl
                 · exact (unhide HVF).row)
              | (refine wpList_load_row_g (by rfl) 24 (.tmp 5) rfl w.heap.size ?_ 24 (brow head) (0, 0) _ ?_ Tryd.underlying24 rfl (rinfo hh) ?_; · rfl
                 · exact (unhide HVF).box))
            go_ret2
            refine ⟨?_, (unhide HVF).kept⟩
            rw [unhide HN]
            simp [hhe]
        · go_wp2_with fail
          go_ret2
          refine ⟨?_, (unhide HVF).kept⟩
          rw [unhide HN]
          simp [hn]

end Go.Proofs.YtfodibjlldmnpaaDoor
/-
  The entries of a log with their digests, in memory; the digest of the last one.
-/
namespace Go.Proofs.YtfodibjlldmnpaaDoor
open Go.RowKit

/-- An entry and its digest, as cells. -/
def sealC (x : ByteArray) : List Value := .string x :: blist (Sha.digest x.data.toList)
def seals : List ByteArray → List Value
  | [] => []
  | x :: E => sealC x ++ seals E
theorem sealC_len (x : ByteArray) : (sealC x).length = 33 := by simp [sealC, Sha.digest_length]
theorem seals_len : ∀ E : List ByteArray, (seals E).length = E.length * 33
  | [] => rfl
  | x :: E => by rw [seals, List.length_append, sealC_len, seals_len E, List.length_cons]; omega
theorem seals_app : ∀ E F : List ByteArray, seals (E ++ F) = seals E ++ seals F
  | [], F => rfl
  | x :: E, F => by rw [List.cons_append, seals, seals, seals_app E F, List.append_assoc]
theorem seals_at : ∀ (E : List ByteArray) (k j : Nat), k < E.length → j < 33 → (seals E)[k * 33 + j]? = (sealC (E.getD k ByteArray.empty))[j]?
  | [], k, j, h, _ => by simp at h
  | x :: E, 0, j, _, hj => by
    rw [seals, Nat.zero_mul, Nat.zero_add, List.getElem?_append_left (by rw [sealC_len]; exact hj)]
    rfl
  | x :: E, k + 1, j, h, hj => by
    rw [seals, List.getElem?_append_right (by rw [sealC_len]; omega), sealC_len, show (k + 1) * 33 + j - 33 = k * 33 + j by omega, seals_at E k j (by simpa using h) hj]
    simp
theorem own_at {w : World} {B g n cap : Nat} {e : TypeId} {z : Nat} {xs : List Value} (h : w.ownsRow B e z (.slice (some ⟨g, 0, none⟩) n cap) n xs) {j : Nat} {u : Value} (hj : xs[j]? = some u) : w.cell? ⟨g, j, none⟩ = some u := by
  rcases h.2 with ⟨h', _⟩ | ⟨g2, c, cur, h1, h2, h3, h4, h5, h6, h7⟩
  · cases h'
  · simp only [Value.slice.injEq, Option.some.injEq, Addr.mk.injEq, and_true, true_and] at h1
    obtain ⟨rfl, rfl⟩ := h1
    rw [cell_of_row _ _ _ _ _ _ h3, ← Array.getElem?_toList]
    rw [← h7, List.getElem?_take] at hj
    split at hj
    · exact hj
    · cases hj
theorem own_seal_str {w : World} {B g n cap k : Nat} {E : List ByteArray} (h : w.ownsRow B 144 33 (.slice (some ⟨g, 0, none⟩) n cap) n (seals E)) (hk : k < E.length) : w.cell? ⟨g, k * 33, none⟩ = some (.string (E.getD k ByteArray.empty)) :=
  own_at h (by have := seals_at E k 0 hk (by omega); rw [Nat.add_zero] at this; rw [this]; rfl)
theorem own_seal_dig {w : World} {B g n cap k : Nat} {E : List ByteArray} (h : w.ownsRow B 144 33 (.slice (some ⟨g, 0, none⟩) n cap) n (seals E)) (hk : k < E.length) : w.rangeAt g (k * 33 + 1) (blist (hashAt E (k + 1))) := by
  intro j u hu
  have hj : j < 32 := by have := (List.getElem?_eq_some_iff.1 hu).1; simpa [hashAt, Sha.digest_length] using this
  refine own_at h ?_
  rw [Nat.add_assoc, seals_at E k (1 + j) hk (by omega), Nat.add_comm 1 j]
  exact hu
theorem put_new2 {w1 w2 : World} {cs c0 : Array Value} {t : TypeId} (h : Put w1.heap.size cs t (w1.alloc (.cells c0 t)) w2) : Kept w1.heap.size w1 w2 :=
  (((Kept.refl _ w1).alloc (Nat.le_refl _) _).trans (.of (h.below (Nat.le_refl _))))
theorem range_alloc {w : World} {g o : Nat} {cs : List Value} (h : w.rangeAt g o cs) (O : Obj) : (w.alloc O).rangeAt g o cs := fun j u hu => by
  have hc := h j u hu
  have hl : g < w.heap.size := by
    rcases Nat.lt_or_ge g w.heap.size with h1 | h1
    · exact h1
    · simp [World.cell?, Array.getElem?_eq_none h1] at hc
  rw [World.cell?_of_block (w := w) (Below.heap_alloc _ _ _ hl)]
  exact hc
/-- An entry and a digest as one value. -/
def sealA (X : ByteArray) (G : List UInt8) : Array Value := (Value.string X :: blist G).toArray
theorem sealA_size {X : ByteArray} {G : List UInt8} (h : G.length = 32) : (sealA X G).size = 33 := by simp [sealA, h]
theorem fold_seal1 (X : ByteArray) {G : List UInt8} (h : G.length = 32) : Array.foldl (fun cs (x : Value × Nat) => cs.setIfInBounds (1 + x.snd) x.fst) #[Value.string X, Value.int IntKind.u8 0, Value.int IntKind.u8 0, Value.int IntKind.u8 0, Value.int IntKind.u8 0, Value.int IntKind.u8 0, Value.int IntKind.u8 0, Value.int IntKind.u8 0, Value.int IntKind.u8 0, Value.int IntKind.u8 0, Value.int IntKind.u8 0, Value.int IntKind.u8 0, Value.int IntKind.u8 0, Value.int IntKind.u8 0, Value.int IntKind.u8 0, Value.int IntKind.u8 0, Value.int IntKind.u8 0, Value.int IntKind.u8 0, Value.int IntKind.u8 0, Value.int IntKind.u8 0, Value.int IntKind.u8 0, Value.int IntKind.u8 0, Value.int IntKind.u8 0, Value.int IntKind.u8 0, Value.int IntKind.u8 0, Value.int IntKind.u8 0, Value.int IntKind.u8 0, Value.int IntKind.u8 0, Value.int IntKind.u8 0, Value.int IntKind.u8 0, Value.int IntKind.u8 0, Value.int IntKind.u8 0, Value.int IntKind.u8 0] (brow G).zipIdx 0 32 = sealA X G := by
  have h2 : (brow G).zipIdx.size = 32 := by rw [Array.size_zipIdx, brow_size, h]
  have h3 : (brow G).zipIdx.toList = (blist G).zipIdx 0 := by rw [Array.toList_zipIdx]; rfl
  have hf := fold_off 1 (blist G) 0 #[Value.string X, Value.int IntKind.u8 0, Value.int IntKind.u8 0, Value.int IntKind.u8 0, Value.int IntKind.u8 0, Value.int IntKind.u8 0, Value.int IntKind.u8 0, Value.int IntKind.u8 0, Value.int IntKind.u8 0, Value.int IntKind.u8 0, Value.int IntKind.u8 0, Value.int IntKind.u8 0, Value.int IntKind.u8 0, Value.int IntKind.u8 0, Value.int IntKind.u8 0, Value.int IntKind.u8 0, Value.int IntKind.u8 0, Value.int IntKind.u8 0, Value.int IntKind.u8 0, Value.int IntKind.u8 0, Value.int IntKind.u8 0, Value.int IntKind.u8 0, Value.int IntKind.u8 0, Value.int IntKind.u8 0, Value.int IntKind.u8 0, Value.int IntKind.u8 0, Value.int IntKind.u8 0, Value.int IntKind.u8 0, Value.int IntKind.u8 0, Value.int IntKind.u8 0, Value.int IntKind.u8 0, Value.int IntKind.u8 0, Value.int IntKind.u8 0] (by simp [h])
  conv => lhs; rw [← h2]
  rw [← Array.foldl_toList, h3, hf]
  have hl : (blist G).length = 32 := by simp [h]
  rw [hl]
  apply Array.ext'
  simp [sealA]
theorem fold_seal2 {Y : Array Value} (h : Y.size = 33) : Array.foldl (fun cs (x : Value × Nat) => cs.setIfInBounds x.snd x.fst) #[Value.string { data := #[] }, Value.int IntKind.u8 0, Value.int IntKind.u8 0, Value.int IntKind.u8 0, Value.int IntKind.u8 0, Value.int IntKind.u8 0, Value.int IntKind.u8 0, Value.int IntKind.u8 0, Value.int IntKind.u8 0, Value.int IntKind.u8 0, Value.int IntKind.u8 0, Value.int IntKind.u8 0, Value.int IntKind.u8 0, Value.int IntKind.u8 0, Value.int IntKind.u8 0, Value.int IntKind.u8 0, Value.int IntKind.u8 0, Value.int IntKind.u8 0, Value.int IntKind.u8 0, Value.int IntKind.u8 0, Value.int IntKind.u8 0, Value.int IntKind.u8 0, Value.int IntKind.u8 0, Value.int IntKind.u8 0, Value.int IntKind.u8 0, Value.int IntKind.u8 0, Value.int IntKind.u8 0, Value.int IntKind.u8 0, Value.int IntKind.u8 0, Value.int IntKind.u8 0, Value.int IntKind.u8 0, Value.int IntKind.u8 0, Value.int IntKind.u8 0] Y.zipIdx 0 33 = Y := by
  have h1 := fold_set Y.toList 0 #[Value.string { data := #[] }, Value.int IntKind.u8 0, Value.int IntKind.u8 0, Value.int IntKind.u8 0, Value.int IntKind.u8 0, Value.int IntKind.u8 0, Value.int IntKind.u8 0, Value.int IntKind.u8 0, Value.int IntKind.u8 0, Value.int IntKind.u8 0, Value.int IntKind.u8 0, Value.int IntKind.u8 0, Value.int IntKind.u8 0, Value.int IntKind.u8 0, Value.int IntKind.u8 0, Value.int IntKind.u8 0, Value.int IntKind.u8 0, Value.int IntKind.u8 0, Value.int IntKind.u8 0, Value.int IntKind.u8 0, Value.int IntKind.u8 0, Value.int IntKind.u8 0, Value.int IntKind.u8 0, Value.int IntKind.u8 0, Value.int IntKind.u8 0, Value.int IntKind.u8 0, Value.int IntKind.u8 0, Value.int IntKind.u8 0, Value.int IntKind.u8 0, Value.int IntKind.u8 0, Value.int IntKind.u8 0, Value.int IntKind.u8 0, Value.int IntKind.u8 0] (by rw [Array.length_toList, h]; rfl)
  have h2 : Y.zipIdx.size = 33 := by rw [Array.size_zipIdx, h]
  conv => lhs; rw [← h2]
  rw [← Array.foldl_toList, Array.toList_zipIdx]
  exact h1
theorem info144 : (Tryd.prog.info? 144).map (fun i => (i.zero, i.size, i.bytes)) = some (some (.agg #[Value.string { data := #[] }, Value.int IntKind.u8 0, Value.int IntKind.u8 0, Value.int IntKind.u8 0, Value.int IntKind.u8 0, Value.int IntKind.u8 0, Value.int IntKind.u8 0, Value.int IntKind.u8 0, Value.int IntKind.u8 0, Value.int IntKind.u8 0, Value.int IntKind.u8 0, Value.int IntKind.u8 0, Value.int IntKind.u8 0, Value.int IntKind.u8 0, Value.int IntKind.u8 0, Value.int IntKind.u8 0, Value.int IntKind.u8 0, Value.int IntKind.u8 0, Value.int IntKind.u8 0, Value.int IntKind.u8 0, Value.int IntKind.u8 0, Value.int IntKind.u8 0, Value.int IntKind.u8 0, Value.int IntKind.u8 0, Value.int IntKind.u8 0, Value.int IntKind.u8 0, Value.int IntKind.u8 0, Value.int IntKind.u8 0, Value.int IntKind.u8 0, Value.int IntKind.u8 0, Value.int IntKind.u8 0, Value.int IntKind.u8 0, Value.int IntKind.u8 0]), 33, 48) := by kernel_rfl

set_option maxRecDepth 100000 in
set_option maxHeartbeats 2000000 in
theorem headOf_go (v : Value) (B : Nat) (E : List ByteArray) (w : World) (h : w.ownsRow B 144 33 v E.length (seals E)) (hE : E.length < 9223372036854775808) :
    Calls Tryd.prog 98 #[v] w fun e w' => e = .returned (.agg (brow (hashAt E E.length))) ∧ Kept w.heap.size w w' := by
  obtain ⟨ao, cap, rfl, hcap, hao⟩ := own_len h
  have HO := hide h
  clear h
  obtain ⟨D, hD⟩ : ∃ D, D = hashAt E E.length := ⟨_, rfl⟩
  have hDl : D.length = 32 := by rw [hD]; exact hashAt_len _ _
  have hi24 : (Tryd.prog.info? 24).map (·.size) = some (blist D).length := by have := rinfo hDl; rwa [brow_size, ← List.length_map (f := fun c : UInt8 => Value.int .u8 (c.toNat : Int))] at this
  rw [← hD]
  cases hn : E.length with
  | zero =>
    have HD : Hid (D = zeros) := hide (by rw [hD, hn]; rfl)
    clear hD hi24
    go_enter Tryd.func98, Tryd.ntmps98
    go_wp2_with (refine wpList_store_put rfl 24 (.tmp 2) (.tmp 6) rfl w.heap.size (brow zeros) ?_ ?_ 24 (brow zerosC) ?_ (rinfo rfl) (rzero rfl) (brow_one _) ?_
                 · rfl
                 · rfl
                 · exact heap_alloc_new _ _
                 intro w2 hp2)
    exact bodyPost_ret (v := .agg (brow zeros)) (results_cell_row Tryd.results98 _ _ w.heap.size 24 _ (0, 0) _ rfl hp2.row Tryd.underlying24 rfl (rinfo rfl)) rfl ⟨by rw [unhide HD], put_new2 hp2⟩
  | succ k =>
    obtain ⟨g, rfl⟩ := hao (by omega)
    have hr : w.rangeAt g (k * 33 + 1) (blist D) := by
      have := own_seal_dig (unhide HO) (k := k) (by omega)
      rwa [← hn, ← hD] at this
    have HD := hide hD
    have hkl : (k : Int) < (k : Int) + 1 := by omega
    clear hD HO hao
    go_enter Tryd.func98, Tryd.ntmps98
    go_wp2_with (first
      | (refine wpList_load_mid rfl 24 (.tmp 12) rfl g (k * 33 + 1) ?_ (blist D) _ ?_ Tryd.underlying24 rfl hi24 ?_
         · rfl
         · exact range_alloc hr _)
      | (refine wpList_store_put rfl 24 (.tmp 2) (.tmp 13) rfl w.heap.size (brow D) ?_ ?_ 24 (brow zerosC) ?_ (rinfo hDl) (rzero hDl) (brow_one _) ?_
         · rfl
         · rfl
         · exact heap_alloc_new _ _
         intro w2 hp2))
    exact bodyPost_ret (v := .agg (brow D)) (results_cell_row Tryd.results98 _ _ w.heap.size 24 _ (0, 0) _ rfl hp2.row Tryd.underlying24 rfl (rinfo hDl)) rfl ⟨rfl, put_new2 hp2⟩
end Go.Proofs.YtfodibjlldmnpaaDoor
