/-
  The calls of the law Proofs, each in one form for every input.
-/
import Derived.Test.YtfodibjlldmnpaaDoorLooks
import Derived.Test.YtfodibjlldmnpaaDoorLent
namespace Go.Proofs.YtfodibjlldmnpaaDoor
open Go.RowKit

/-- Strings of a slice, which may be empty. -/
def Lst (w : World) (a : Option Addr) (n cap : Nat) (L : List ByteArray) : Prop := L.length = n ∧ n ≤ cap ∧ (0 < n → ∃ b o, a = some ⟨b, o, none⟩ ∧ Strs w b o L)
/-- Digests of a slice, which may be empty. -/
def Hst (w : World) (a : Option Addr) (n cap : Nat) (p : List (List UInt8)) : Prop := p.length = n ∧ n ≤ cap ∧ (∀ d ∈ p, d.length = 32) ∧ (0 < n → ∃ b o, a = some ⟨b, o, none⟩ ∧ Hshs w b o p)

theorem call_root {w : World} {a : Option Addr} {n cap : Nat} {L : List ByteArray} (h : Lst w a n cap L) (hn : n ≤ 140737488355328) (hT : Table w) (hz : 0 < w.heap.size) :
    Calls Tryd.prog 16 #[.slice a n cap] w fun e w' => e = .returned (.agg (brow (Tre.root (lsts L)))) ∧ Below w.heap.size w w' := by
  obtain ⟨hl, hc, hs⟩ := h
  refine bailey_root (lsts L) a n cap w hz fun w' hb => ?_
  by_cases h0 : 0 < n
  · obtain ⟨b, o, rfl, hS⟩ := hs h0
    exact root_go _ L b o n cap w' hl (Nat.le_refl _) h0 hc hn (hS.below hb hS.lt) (hT.below hb hz) (Nat.lt_of_lt_of_le hz hb.size)
  · obtain rfl : n = 0 := by omega
    obtain rfl : L = [] := List.eq_nil_of_length_eq_zero hl
    exact root_go0 a cap w' (hT.below hb hz) (Nat.lt_of_lt_of_le hz hb.size)
theorem call_rroot {w : World} {a : Option Addr} {n cap : Nat} {L : List ByteArray} (h : Lst w a n cap L) (hn : n ≤ 140737488355328) :
    Calls Tryd.prog 19 #[.slice a n cap] w fun e w' => e = .returned (.agg (brow (Tre.root (lsts L)))) ∧ Kept w.heap.size w w' := by
  obtain ⟨hl, hc, hs⟩ := h
  by_cases h0 : 0 < n
  · obtain ⟨b, o, rfl, hS⟩ := hs h0
    exact rroot_go _ L b o n cap w hl (Nat.le_refl _) h0 hc hn hS
  · obtain rfl : n = 0 := by omega
    obtain rfl : L = [] := List.eq_nil_of_length_eq_zero hl
    exact rroot_go0 a cap w

/-- The proof of a place, or none. -/
def prfOf (L : List ByteArray) (i : Int) : List (List UInt8) := if 0 ≤ i ∧ i < (L.length : Int) then Tre.proofOf (lsts L) i.toNat else []
def errOf (L : List ByteArray) (i : Int) : Int := if 0 ≤ i ∧ i < (L.length : Int) then 0 else 8
theorem prfOf_rows (L : List ByteArray) (i : Int) : ∀ d ∈ prfOf L i, d.length = 32 := by
  unfold prfOf
  split
  · exact Tre.proof_rows _ _ _ (Nat.le_refl _)
  · intro d hd; cases hd
theorem prfOf_len (L : List ByteArray) (i : Int) (hn : L.length ≤ 140737488355328) : (prfOf L i).length ≤ 47 := by
  unfold prfOf
  split
  · exact proof_le (by rw [List.length_map]; omega) (by rw [List.length_map]; exact hn)
  · simp
theorem call_proof {w : World} {a : Option Addr} {n cap : Nat} {L : List ByteArray} (i : Int) (h : Lst w a n cap L) (hn : n ≤ 140737488355328) (hT : Table w) (hz : 0 < w.heap.size) :
    Calls Tryd.prog 17 #[.slice a n cap, .int .i64 i] w fun e w' => ∃ v, e = .returned (.tuple #[v, .int .i64 (errOf L i)]) ∧ w'.ownsRow w.heap.size 24 32 v (prfOf L i).length (flat (prfOf L i)) ∧ Below w.heap.size w w' := by
  obtain ⟨hl, hc, hs⟩ := h
  by_cases hi : 0 ≤ i ∧ i < (L.length : Int)
  · rw [prfOf, errOf, if_pos hi, if_pos hi]
    obtain ⟨b, o, rfl, hS⟩ := hs (by omega)
    obtain ⟨k, rfl⟩ : ∃ k : Nat, i = (k : Int) := ⟨i.toNat, by omega⟩
    exact bailey_proof L b o n cap k w hl (by omega) hc hn hS hT hz
  · rw [prfOf, errOf, if_neg hi, if_neg hi]
    refine (bailey_proof_none a n cap i w (by omega)).mono ?_
    rintro e w' ⟨rfl, rfl⟩
    exact ⟨_, rfl, World.ownsRow_nil _ _ _ _, Below.refl _ _⟩
theorem call_rproof {w : World} {a : Option Addr} {n cap : Nat} {L : List ByteArray} (i : Int) (h : Lst w a n cap L) (hn : n ≤ 140737488355328) :
    Calls Tryd.prog 20 #[.slice a n cap, .int .i64 i] w fun e w' => ∃ v, e = .returned (.tuple #[v, .int .i64 (errOf L i)]) ∧ w'.ownsRow w.heap.size 24 32 v (prfOf L i).length (flat (prfOf L i)) ∧ Kept w.heap.size w w' := by
  obtain ⟨hl, hc, hs⟩ := h
  by_cases hi : 0 ≤ i ∧ i < (L.length : Int)
  · rw [prfOf, errOf, if_pos hi, if_pos hi]
    obtain ⟨b, o, rfl, hS⟩ := hs (by omega)
    obtain ⟨k, rfl⟩ : ∃ k : Nat, i = (k : Int) := ⟨i.toNat, by omega⟩
    exact rproof_go _ L b o n cap k w hl (Nat.le_refl _) (by omega) hc hn hS
  · rw [prfOf, errOf, if_neg hi, if_neg hi]
    refine (rproof_none a n cap i w (by omega)).mono ?_
    rintro e w' ⟨rfl, rfl⟩
    exact ⟨_, rfl, World.ownsRow_nil _ _ _ _, Kept.refl _ _⟩

/-- Whether a proof proves. -/
def provesOf (s : ByteArray) (i n : Int) (p : List (List UInt8)) (r : List UInt8) : Bool := decide (0 ≤ i ∧ i < n) && (decide (p.length = Tre.depth i.toNat n.toNat) && (Tre.climb s.data.toList i.toNat n.toNat p == r))
theorem proves_none' (s : ByteArray) (i n : Int) (v : Value) (r : List UInt8) (w : World) (hi : i < 0 ∨ n ≤ i) :
    Calls Tryd.prog 56 #[.string s, .int .i64 i, .int .i64 n, v, .agg (brow r)] w fun e w' => e = .returned (.bool false) ∧ Below w.heap.size w w' := by
  by_cases h0 : i < 0
  · clear hi
    go_enter Tryd.func56, Tryd.ntmps56
    go_wp2_with fail
    go_ret
    exact ⟨rfl, (Below.refl _ _).alloc (Nat.le_refl _) _⟩
  · have h1 : n ≤ i := by omega
    have h0' : 0 ≤ i := by omega
    clear hi
    go_enter Tryd.func56, Tryd.ntmps56
    go_wp2_with fail
    go_ret
    exact ⟨rfl, (Below.refl _ _).alloc (Nat.le_refl _) _⟩
set_option maxRecDepth 100000 in
theorem bailey_proves' (s : ByteArray) (i n : Int) (v : Value) (r : List UInt8) (x : Bool) (w : World) (hr : r.length = 32)
    (hc : ∀ w', Below w.heap.size w w' → Calls Tryd.prog 56 #[.string s, .int .i64 i, .int .i64 n, v, .agg (brow r)] w' fun e w'' => e = .returned (.bool x) ∧ Below w'.heap.size w' w'') :
    Calls Tryd.prog 25 #[.string s, .int .i64 i, .int .i64 n, v, .agg (brow r)] w fun e w' => e = .returned (.bool x) ∧ Below w.heap.size w w' := by
  have hb0 : Below w.heap.size w (w.alloc (.cells (brow r) 24)) := (Below.refl _ _).alloc (Nat.le_refl _) _
  have hrow : (w.alloc (.cells (brow r) 24)).heap[w.heap.size]? = some (.cells (brow r) 24 (0, 0)) := heap_alloc_new _ _
  have HC := hide (hc _ hb0)
  have HB := hide hb0
  have hi24 := rinfo hr
  clear hc hb0
  go_enter Tryd.func25, Tryd.ntmps25
  go_wp2_with (refine wpList_load_row rfl 24 _ rfl w.heap.size rfl 24 (brow r) (0, 0) _ hrow Tryd.underlying24 rfl hi24 ?_)
  refine (unhide HC).mono ?_
  rintro e w1 ⟨rfl, hb1⟩
  have HB1 := hide ((unhide HB).trans (hb1.mono (by simp)))
  clear hb1
  go_wp2_with fail
  go_ret
  exact ⟨rfl, unhide HB1⟩
theorem Hst.below {w w' : World} {a : Option Addr} {n cap : Nat} {p : List (List UInt8)} (h : Hst w a n cap p) (hb : Below w.heap.size w w') : Hst w' a n cap p :=
  ⟨h.1, h.2.1, h.2.2.1, fun h0 => by obtain ⟨b, o, ha, hh⟩ := h.2.2.2 h0; exact ⟨b, o, ha, hh.kept hb hh.lt⟩⟩
theorem call_proves {w : World} (s : ByteArray) (i n : Int) {a : Option Addr} {l cap : Nat} {p : List (List UInt8)} {r : List UInt8} (h : Hst w a l cap p) (hn : n ≤ 9223372036854775807) (hs : s.size ≤ 140737488354900) (hr : r.length = 32) (hT : Table w) (hz : 0 < w.heap.size) :
    Calls Tryd.prog 25 #[.string s, .int .i64 i, .int .i64 n, .slice a l cap, .agg (brow r)] w fun e w' => e = .returned (.bool (provesOf s i n p r)) ∧ Below w.heap.size w w' := by
  refine bailey_proves' s i n _ r _ w hr fun w' hb => ?_
  have h' := h.below hb
  by_cases hi : 0 ≤ i ∧ i < n
  · obtain ⟨k, rfl⟩ : ∃ k : Nat, i = (k : Int) := ⟨i.toNat, by omega⟩
    obtain ⟨m, rfl⟩ : ∃ m : Nat, n = (m : Int) := ⟨n.toNat, by omega⟩
    have hkm : k < m := by omega
    by_cases hd : p.length = Tre.depth k m
    · have e : provesOf s k m p r = (Tre.climb s.data.toList k m p == r) := by simp [provesOf, hkm, hd]
      rw [e]
      exact proves_go s k m cap _ a p r w' hkm (by omega) hs hr ⟨by rw [h.1], by rw [h.1]; exact h.2.1, fun h0 => h'.2.2.2 (by rw [← h.1]; exact h0)⟩ hd (hT.below hb hz) (Nat.lt_of_lt_of_le hz hb.size)
    · have e : provesOf s k m p r = false := by simp [provesOf, hd]
      rw [e]
      exact proves_len s k m l cap a r w' hkm (by omega) (by rw [← h.1]; exact hd)
  · have e : provesOf s i n p r = false := by simp only [provesOf, hi, decide_false, Bool.false_and]
    rw [e]
    exact proves_none' s i n _ r w' (by omega)
theorem call_rproves {w : World} (s : ByteArray) (i n : Int) {a : Option Addr} {l cap : Nat} {p : List (List UInt8)} {r : List UInt8} (h : Hst w a l cap p) (hl : l ≤ 140737488355328) (hn : n ≤ 9223372036854775807) (hs : s.size ≤ 140737488354900) (hr : r.length = 32) :
    Calls Tryd.prog 27 #[.string s, .int .i64 i, .int .i64 n, .slice a l cap, .agg (brow r)] w fun e w' => e = .returned (.bool (provesOf s i n p r)) ∧ Kept w.heap.size w w' := by
  by_cases hi : 0 ≤ i ∧ i < n
  · obtain ⟨k, rfl⟩ : ∃ k : Nat, i = (k : Int) := ⟨i.toNat, by omega⟩
    obtain ⟨m, rfl⟩ : ∃ m : Nat, n = (m : Int) := ⟨n.toNat, by omega⟩
    have hkm : k < m := by omega
    have e : provesOf s k m p r = (decide (l = Tre.depth k m) && (Tre.climb s.data.toList k m p == r)) := by simp [provesOf, hkm, h.1]
    rw [e]
    exact rproves_go s k m l cap a p r w hkm (by omega) hs hr h.1 h.2.1 hl h.2.2.2
  · have e : provesOf s i n p r = false := by simp only [provesOf, hi, decide_false, Bool.false_and]
    rw [e]
    exact rproves_none s i n _ r w (by omega)

/-- Blocks that S speaks of are as they were. -/
structure Sm (S : Nat → Prop) (w w' : World) : Prop where
  os : w'.os = w.os
  output : w'.output = w.output
  size : w.heap.size ≤ w'.heap.size
  block : ∀ k, k < w.heap.size → S k → w'.heap[k]? = w.heap[k]?
theorem Sm.of_kept {B : Nat} {w w' : World} (h : Kept B w w') : Sm (· < B) w w' := ⟨h.os, h.output, h.size, fun k _ hk => h.block k hk⟩
theorem Sm.all {w w' : World} (h : Kept w.heap.size w w') (S : Nat → Prop) : Sm S w w' := ⟨h.os, h.output, h.size, fun k hk _ => h.block k hk⟩
theorem Sm.other {g : Nat} {w w' : World} {S : Nat → Prop} (h : Other g w w') (hS : ¬ S g) : Sm S w w' := ⟨h.os, h.output, h.size, fun k hk hs => h.block k hk (fun e => hS (e ▸ hs))⟩
theorem Sm.trans {S : Nat → Prop} {a b c : World} (h : Sm S a b) (k : Sm S b c) : Sm S a c := ⟨k.os.trans h.os, k.output.trans h.output, Nat.le_trans h.size k.size, fun j hj hs => (k.block j (Nat.lt_of_lt_of_le hj h.size) hs).trans (h.block j hj hs)⟩
theorem Sm.mono {S S' : Nat → Prop} {a b : World} (h : Sm S a b) (hs : ∀ k, S' k → S k) : Sm S' a b := ⟨h.os, h.output, h.size, fun k hk hk' => h.block k hk (hs k hk')⟩
theorem Sm.alloc {S : Nat → Prop} {a b : World} (h : Sm S a b) (O : Obj) : Sm S a (b.alloc O) := ⟨h.os, h.output, by have := h.size; simp; omega, fun k hk hs => (Below.heap_alloc _ _ _ (Nat.lt_of_lt_of_le hk h.size)).trans (h.block k hk hs)⟩
theorem Sm.own {S : Nat → Prop} {w w' : World} (h : Sm S w w') {B : Nat} {e : TypeId} {z : Nat} {v : Value} {n : Nat} {xs : List Value} (ho : w.ownsRow B e z v n xs) (hs : ∀ k, v.ownBlock = some k → S k) : w'.ownsRow B e z v n xs :=
  own_blocks ho fun k hk => h.block k (ho.lt k hk).2 (hs k hk)
theorem Lst.sm {S : Nat → Prop} {w w' : World} (hm : Sm S w w') {a : Option Addr} {n cap : Nat} {L : List ByteArray} (h : Lst w a n cap L) {B : Nat} (hB : ∀ b o, a = some ⟨b, o, none⟩ → 0 < n → b < B) (hS : ∀ k, k < B → S k) : Lst w' a n cap L :=
  ⟨h.1, h.2.1, fun h0 => by
    obtain ⟨b, o, ha, hs⟩ := h.2.2 h0
    refine ⟨b, o, ha, fun i hi => ?_, hs.small, Nat.lt_of_lt_of_le hs.lt hm.size⟩
    rw [World.cell?_of_block (w := w) (hm.block b hs.lt (hS b (hB b o ha h0)))]
    exact hs.cell i hi⟩
theorem Hst.sm {S : Nat → Prop} {w w' : World} (hm : Sm S w w') {a : Option Addr} {n cap : Nat} {p : List (List UInt8)} (h : Hst w a n cap p) {B : Nat} (hB : ∀ b o, a = some ⟨b, o, none⟩ → 0 < n → b < B) (hS : ∀ k, k < B → S k) : Hst w' a n cap p :=
  ⟨h.1, h.2.1, h.2.2.1, fun h0 => by
    obtain ⟨b, o, ha, hs⟩ := h.2.2.2 h0
    refine ⟨b, o, ha, fun i hi j u hu => ?_, hs.len, Nat.lt_of_lt_of_le hs.lt hm.size⟩
    rw [World.cell?_of_block (w := w) (hm.block b hs.lt (hS b (hB b o ha h0)))]
    exact hs.row i hi j u hu⟩
theorem Table.sm {S : Nat → Prop} {w w' : World} (hm : Sm S w w') (h : Table w) (hz : 0 < w.heap.size) (hS : S 0) : Table w' := fun k hk => by
  rw [World.cell?_of_block (w := w) (hm.block 0 hz hS)]
  exact h k hk
/-- An owned row of digests, as a slice. -/
theorem hst_own {w : World} {B : Nat} {v : Value} {p : List (List UInt8)} (h : w.ownsRow B 24 32 v p.length (flat p)) (hp : ∀ d ∈ p, d.length = 32) : ∃ a cap, v = .slice a p.length cap ∧ Hst w a p.length cap p := by
  obtain ⟨ao, cap, hP⟩ := prf_own hp h
  exact ⟨ao, cap, hP.val, rfl, hP.le, hp, hP.some⟩

end Go.Proofs.YtfodibjlldmnpaaDoor
