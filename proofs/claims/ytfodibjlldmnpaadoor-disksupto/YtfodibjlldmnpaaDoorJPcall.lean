/-
  Pcall, Plaws, Prow, joined.
-/
import Derived.Test.YtfodibjlldmnpaaDoorLooks
import Derived.Test.YtfodibjlldmnpaaDoorLent
import Derived.Test.YtfodibjlldmnpaaDoorProved
/-
  The calls of the law Proofs, each in one form for every input.
-/
namespace Go.Proofs.YtfodibjlldmnpaaDoor
open Go.RowKit

/-- Strings of a slice, which may be empty. -/
def Lst (w : World) (a : Option Addr) (n cap : Nat) (L : List ByteArray) : Prop := L.length = n ∧ n ≤ cap ∧ (0 < n → ∃ b o, a = some ⟨b, o, none⟩ ∧ Strs w b o L)
/-- Digests of a slice, which may be empty. -/
def Hst (w : World) (a : Option Addr) (n cap : Nat) (p : List (List UInt8)) : Prop := p.length = n ∧ n ≤ cap ∧ (∀ d ∈ p, d.length = 32) ∧ (0 < n → ∃ b o, a = some ⟨b, o, none⟩ ∧ Hshs w b o p)

theorem call_root {w : World} {a : Option Addr} {n cap : Nat} {L : List ByteArray} (h : Lst w a n cap L) (hn : n ≤ 140737488355328) (hT : Table w) (hz : 0 < w.heap.size) :
    Calls Tryd.prog 16 #[.slice a n cap] w fun e w' => e = .returned (.agg (brow (Tre.root (lsts L)))) ∧ Below w.heap.size w w' := by
  obtain ⟨hl, hc, hs⟩ := h
  refine bailey_root (lsts L) a n cap w hz fun w' hb => ?_
  by_cases h0 : 0 < n
  · obtain ⟨b, o, rfl, hS⟩ := hs h0
    exact root_go _ L b o n cap w' hl (Nat.le_refl _) h0 hc hn (hS.below hb hS.lt) (hT.below hb hz) (Nat.lt_of_lt_of_le hz hb.size)
  · obtain rfl : n = 0 := by omega
    obtain rfl : L = [] := List.eq_nil_of_length_eq_zero hl
    exact root_go0 a cap w' (hT.below hb hz) (Nat.lt_of_lt_of_le hz hb.size)
theorem call_rroot {w : World} {a : Option Addr} {n cap : Nat} {L : List ByteArray} (h : Lst w a n cap L) (hn : n ≤ 140737488355328) :
    Calls Tryd.prog 19 #[.slice a n cap] w fun e w' => e = .returned (.agg (brow (Tre.root (lsts L)))) ∧ Kept w.heap.size w w' := by
  obtain ⟨hl, hc, hs⟩ := h
  by_cases h0 : 0 < n
  · obtain ⟨b, o, rfl, hS⟩ := hs h0
    exact rroot_go _ L b o n cap w hl (Nat.le_refl _) h0 hc hn hS
  · obtain rfl : n = 0 := by omega
    obtain rfl : L = [] := List.eq_nil_of_length_eq_zero hl
    exact rroot_go0 a cap w

/-- The proof of a place, or none. -/
def prfOf (L : List ByteArray) (i : Int) : List (List UInt8) := if 0 ≤ i ∧ i < (L.length : Int) then Tre.proofOf (lsts L) i.toNat else []
def errOf (L : List ByteArray) (i : Int) : Int := if 0 ≤ i ∧ i < (L.length : Int) then 0 else 8
theorem prfOf_rows (L : List ByteArray) (i : Int) : ∀ d ∈ prfOf L i, d.length = 32 := by
  unfold prfOf
  split
  · exact Tre.proof_rows _ _ _ (Nat.le_refl _)
  · intro d hd; cases hd
theorem prfOf_len (L : List ByteArray) (i : Int) (hn : L.length ≤ 140737488355328) : (prfOf L i).length ≤ 47 := by
  unfold prfOf
  split
  · exact proof_le (by rw [List.length_map]; omega) (by rw [List.length_map]; exact hn)
  · simp
theorem call_proof {w : World} {a : Option Addr} {n cap : Nat} {L : List ByteArray} (i : Int) (h : Lst w a n cap L) (hn : n ≤ 140737488355328) (hT : Table w) (hz : 0 < w.heap.size) :
    Calls Tryd.prog 17 #[.slice a n cap, .int .i64 i] w fun e w' => ∃ v, e = .returned (.tuple #[v, .int .i64 (errOf L i)]) ∧ w'.ownsRow w.heap.size 24 32 v (prfOf L i).length (flat (prfOf L i)) ∧ Below w.heap.size w w' := by
  obtain ⟨hl, hc, hs⟩ := h
  by_cases hi : 0 ≤ i ∧ i < (L.length : Int)
  · rw [prfOf, errOf, if_pos hi, if_pos hi]
    obtain ⟨b, o, rfl, hS⟩ := hs (by omega)
    obtain ⟨k, rfl⟩ : ∃ k : Nat, i = (k : Int) := ⟨i.toNat, by omega⟩
    exact bailey_proof L b o n cap k w hl (by omega) hc hn hS hT hz
  · rw [prfOf, errOf, if_neg hi, if_neg hi]
    refine (bailey_proof_none a n cap i w (by omega)).mono ?_
    rintro e w' ⟨rfl, rfl⟩
    exact ⟨_, rfl, World.ownsRow_nil _ _ _ _, Below.refl _ _⟩
theorem call_rproof {w : World} {a : Option Addr} {n cap : Nat} {L : List ByteArray} (i : Int) (h : Lst w a n cap L) (hn : n ≤ 140737488355328) :
    Calls Tryd.prog 20 #[.slice a n cap, .int .i64 i] w fun e w' => ∃ v, e = .returned (.tuple #[v, .int .i64 (errOf L i)]) ∧ w'.ownsRow w.heap.size 24 32 v (prfOf L i).length (flat (prfOf L i)) ∧ Kept w.heap.size w w' := by
  obtain ⟨hl, hc, hs⟩ := h
  by_cases hi : 0 ≤ i ∧ i < (L.length : Int)
  · rw [prfOf, errOf, if_pos hi, if_pos hi]
    obtain ⟨b, o, rfl, hS⟩ := hs (by omega)
    obtain ⟨k, rfl⟩ : ∃ k : Nat, i = (k : Int) := ⟨i.toNat, by omega⟩
    exact rproof_go _ L b o n cap k w hl (Nat.le_refl _) (by omega) hc hn hS
  · rw [prfOf, errOf, if_neg hi, if_neg hi]
    refine (rproof_none a n cap i w (by omega)).mono ?_
    rintro e w' ⟨rfl, rfl⟩
    exact ⟨_, rfl, World.ownsRow_nil _ _ _ _, Kept.refl _ _⟩

/-- Whether a proof proves. -/
def provesOf (s : ByteArray) (i n : Int) (p : List (List UInt8)) (r : List UInt8) : Bool := decide (0 ≤ i ∧ i < n) && (decide (p.length = Tre.depth i.toNat n.toNat) && (Tre.climb s.data.toList i.toNat n.toNat p == r))
theorem proves_none' (s : ByteArray) (i n : Int) (v : Value) (r : List UInt8) (w : World) (hi : i < 0 ∨ n ≤ i) :
    Calls Tryd.prog 56 #[.string s, .int .i64 i, .int .i64 n, v, .agg (brow r)] w fun e w' => e = .returned (.bool false) ∧ Below w.heap.size w w' := by
  by_cases h0 : i < 0
  · clear hi
    go_enter Tryd.func56, Tryd.ntmps56
    go_wp2_with fail
    go_ret
    exact ⟨rfl, (Below.refl _ _).alloc (Nat.le_refl _) _⟩
  · have h1 : n ≤ i := by omega
    have h0' : 0 ≤ i := by omega
    clear hi
    go_enter Tryd.func56, Tryd.ntmps56
    go_wp2_with fail
    go_ret
    exact ⟨rfl, (Below.refl _ _).alloc (Nat.le_refl _) _⟩
set_option maxRecDepth 100000 in
theorem bailey_proves' (s : ByteArray) (i n : Int) (v : Value) (r : List UInt8) (x : Bool) (w : World) (hr : r.length = 32)
    (hc : ∀ w', Below w.heap.size w w' → Calls Tryd.prog 56 #[.string s, .int .i64 i, .int .i64 n, v, .agg (brow r)] w' fun e w'' => e = .returned (.bool x) ∧ Below w'.heap.size w' w'') :
    Calls Tryd.prog 25 #[.string s, .int .i64 i, .int .i64 n, v, .agg (brow r)] w fun e w' => e = .returned (.bool x) ∧ Below w.heap.size w w' := by
  have hb0 : Below w.heap.size w (w.alloc (.cells (brow r) 24)) := (Below.refl _ _).alloc (Nat.le_refl _) _
  have hrow : (w.alloc (.cells (brow r) 24)).heap[w.heap.size]? = some (.cells (brow r) 24 (0, 0)) := heap_alloc_new _ _
  have HC := hide (hc _ hb0)
  have HB := hide hb0
  have hi24 := rinfo hr
  clear hc hb0
  go_enter Tryd.func25, Tryd.ntmps25
  go_wp2_with (refine wpList_load_row rfl 24 _ rfl w.heap.size rfl 24 (brow r) (0, 0) _ hrow Tryd.underlying24 rfl hi24 ?_)
  refine (unhide HC).mono ?_
  rintro e w1 ⟨rfl, hb1⟩
  have HB1 := hide ((unhide HB).trans (hb1.mono (by simp)))
  clear hb1
  go_wp2_with fail
  go_ret
  exact ⟨rfl, unhide HB1⟩
theorem Hst.below {w w' : World} {a : Option Addr} {n cap : Nat} {p : List (List UInt8)} (h : Hst w a n cap p) (hb : Below w.heap.size w w') : Hst w' a n cap p :=
  ⟨h.1, h.2.1, h.2.2.1, fun h0 => by obtain ⟨b, o, ha, hh⟩ := h.2.2.2 h0; exact ⟨b, o, ha, hh.kept hb hh.lt⟩⟩
theorem call_proves {w : World} (s : ByteArray) (i n : Int) {a : Option Addr} {l cap : Nat} {p : List (List UInt8)} {r : List UInt8} (h : Hst w a l cap p) (hn : n ≤ 9223372036854775807) (hs : s.size ≤ 140737488354900) (hr : r.length = 32) (hT : Table w) (hz : 0 < w.heap.size) :
    Calls Tryd.prog 25 #[.string s, .int .i64 i, .int .i64 n, .slice a l cap, .agg (brow r)] w fun e w' => e = .returned (.bool (provesOf s i n p r)) ∧ Below w.heap.size w w' := by
  refine bailey_proves' s i n _ r _ w hr fun w' hb => ?_
  have h' := h.below hb
  by_cases hi : 0 ≤ i ∧ i < n
  · obtain ⟨k, rfl⟩ : ∃ k : Nat, i = (k : Int) := ⟨i.toNat, by omega⟩
    obtain ⟨m, rfl⟩ : ∃ m : Nat, n = (m : Int) := ⟨n.toNat, by omega⟩
    have hkm : k < m := by omega
    by_cases hd : p.length = Tre.depth k m
    · have e : provesOf s k m p r = (Tre.climb s.data.toList k m p == r) := by simp [provesOf, hkm, hd]
      rw [e]
      exact proves_go s k m cap _ a p r w' hkm (by omega) hs hr ⟨by rw [h.1], by rw [h.1]; exact h.2.1, fun h0 => h'.2.2.2 (by rw [← h.1]; exact h0)⟩ hd (hT.below hb hz) (Nat.lt_of_lt_of_le hz hb.size)
    · have e : provesOf s k m p r = false := by simp [provesOf, hd]
      rw [e]
      exact proves_len s k m l cap a r w' hkm (by omega) (by rw [← h.1]; exact hd)
  · have e : provesOf s i n p r = false := by simp only [provesOf, hi, decide_false, Bool.false_and]
    rw [e]
    exact proves_none' s i n _ r w' (by omega)
theorem call_rproves {w : World} (s : ByteArray) (i n : Int) {a : Option Addr} {l cap : Nat} {p : List (List UInt8)} {r : List UInt8} (h : Hst w a l cap p) (hl : l ≤ 140737488355328) (hn : n ≤ 9223372036854775807) (hs : s.size ≤ 140737488354900) (hr : r.length = 32) :
    Calls Tryd.prog 27 #[.string s, .int .i64 i, .int .i64 n, .slice a l cap, .agg (brow r)] w fun e w' => e = .returned (.bool (provesOf s i n p r)) ∧ Kept w.heap.size w w' := by
  by_cases hi : 0 ≤ i ∧ i < n
  · obtain ⟨k, rfl⟩ : ∃ k : Nat, i = (k : Int) := ⟨i.toNat, by omega⟩
    obtain ⟨m, rfl⟩ : ∃ m : Nat, n = (m : Int) := ⟨n.toNat, by omega⟩
    have hkm : k < m := by omega
    have e : provesOf s k m p r = (decide (l = Tre.depth k m) && (Tre.climb s.data.toList k m p == r)) := by simp [provesOf, hkm, h.1]
    rw [e]
    exact rproves_go s k m l cap a p r w hkm (by omega) hs hr h.1 h.2.1 hl h.2.2.2
  · have e : provesOf s i n p r = false := by simp only [provesOf, hi, decide_false, Bool.false_and]
    rw [e]
    exact rproves_none s i n _ r w (by omega)

/-- Blocks that S speaks of are as they were. -/
structure Sm (S : Nat → Prop) (w w' : World) : Prop where
  os : w'.os = w.os
  output : w'.output = w.output
  size : w.heap.size ≤ w'.heap.size
  block : ∀ k, k < w.heap.size → S k → w'.heap[k]? = w.heap[k]?
theorem Sm.of_kept {B : Nat} {w w' : World} (h : Kept B w w') : Sm (· < B) w w' := ⟨h.os, h.output, h.size, fun k _ hk => h.block k hk⟩
theorem Sm.all {w w' : World} (h : Kept w.heap.size w w') (S : Nat → Prop) : Sm S w w' := ⟨h.os, h.output, h.size, fun k hk _ => h.block k hk⟩
theorem Sm.other {g : Nat} {w w' : World} {S : Nat → Prop} (h : Other g w w') (hS : ¬ S g) : Sm S w w' := ⟨h.os, h.output, h.size, fun k hk hs => h.block k hk (fun e => hS (e ▸ hs))⟩
theorem Sm.trans {S : Nat → Prop} {a b c : World} (h : Sm S a b) (k : Sm S b c) : Sm S a c := ⟨k.os.trans h.os, k.output.trans h.output, Nat.le_trans h.size k.size, fun j hj hs => (k.block j (Nat.lt_of_lt_of_le hj h.size) hs).trans (h.block j hj hs)⟩
theorem Sm.mono {S S' : Nat → Prop} {a b : World} (h : Sm S a b) (hs : ∀ k, S' k → S k) : Sm S' a b := ⟨h.os, h.output, h.size, fun k hk hk' => h.block k hk (hs k hk')⟩
theorem Sm.alloc {S : Nat → Prop} {a b : World} (h : Sm S a b) (O : Obj) : Sm S a (b.alloc O) := ⟨h.os, h.output, by have := h.size; simp; omega, fun k hk hs => (Below.heap_alloc _ _ _ (Nat.lt_of_lt_of_le hk h.size)).trans (h.block k hk hs)⟩
theorem Sm.own {S : Nat → Prop} {w w' : World} (h : Sm S w w') {B : Nat} {e : TypeId} {z : Nat} {v : Value} {n : Nat} {xs : List Value} (ho : w.ownsRow B e z v n xs) (hs : ∀ k, v.ownBlock = some k → S k) : w'.ownsRow B e z v n xs :=
  own_blocks ho fun k hk => h.block k (ho.lt k hk).2 (hs k hk)
theorem Lst.sm {S : Nat → Prop} {w w' : World} (hm : Sm S w w') {a : Option Addr} {n cap : Nat} {L : List ByteArray} (h : Lst w a n cap L) {B : Nat} (hB : ∀ b o, a = some ⟨b, o, none⟩ → 0 < n → b < B) (hS : ∀ k, k < B → S k) : Lst w' a n cap L :=
  ⟨h.1, h.2.1, fun h0 => by
    obtain ⟨b, o, ha, hs⟩ := h.2.2 h0
    refine ⟨b, o, ha, fun i hi => ?_, hs.small, Nat.lt_of_lt_of_le hs.lt hm.size⟩
    rw [World.cell?_of_block (w := w) (hm.block b hs.lt (hS b (hB b o ha h0)))]
    exact hs.cell i hi⟩
theorem Hst.sm {S : Nat → Prop} {w w' : World} (hm : Sm S w w') {a : Option Addr} {n cap : Nat} {p : List (List UInt8)} (h : Hst w a n cap p) {B : Nat} (hB : ∀ b o, a = some ⟨b, o, none⟩ → 0 < n → b < B) (hS : ∀ k, k < B → S k) : Hst w' a n cap p :=
  ⟨h.1, h.2.1, h.2.2.1, fun h0 => by
    obtain ⟨b, o, ha, hs⟩ := h.2.2.2 h0
    refine ⟨b, o, ha, fun i hi j u hu => ?_, hs.len, Nat.lt_of_lt_of_le hs.lt hm.size⟩
    rw [World.cell?_of_block (w := w) (hm.block b hs.lt (hS b (hB b o ha h0)))]
    exact hs.row i hi j u hu⟩
theorem Table.sm {S : Nat → Prop} {w w' : World} (hm : Sm S w w') (h : Table w) (hz : 0 < w.heap.size) (hS : S 0) : Table w' := fun k hk => by
  rw [World.cell?_of_block (w := w) (hm.block 0 hz hS)]
  exact h k hk
/-- An owned row of digests, as a slice. -/
theorem hst_own {w : World} {B : Nat} {v : Value} {p : List (List UInt8)} (h : w.ownsRow B 24 32 v p.length (flat p)) (hp : ∀ d ∈ p, d.length = 32) : ∃ a cap, v = .slice a p.length cap ∧ Hst w a p.length cap p := by
  obtain ⟨ao, cap, hP⟩ := prf_own hp h
  exact ⟨ao, cap, hP.val, rfl, hP.le, hp, hP.some⟩

end Go.Proofs.YtfodibjlldmnpaaDoor
/-
  Proofs: the walk.
-/
namespace Go.Proofs.YtfodibjlldmnpaaDoor
open Go.RowKit

theorem lst_srow {w : World} {T n : Nat} {L : List ByteArray} (hl : L.length = n) (hg : w.heap[T]? = some (.cells (srow (L ++ [behind])) 9 (0, 0))) (hsm : ∀ s ∈ L, s.size ≤ 140737488354900) : Lst w (some ⟨T, 0, none⟩) n (n + 1) L :=
  ⟨hl, by omega, fun _ => ⟨T, 0, rfl, fun i hi => by
    rw [cell_of_row _ _ _ _ _ _ hg, srow_get (by simp; omega), Nat.zero_add, List.getD_eq_getElem?_getD, List.getD_eq_getElem?_getD, List.getElem?_append_left hi], hsm, (Array.getElem?_eq_some_iff.1 hg).1⟩⟩
theorem hst_flat {w : World} {T n : Nat} {p : List (List UInt8)} (hl : p.length = n) (hp : ∀ d ∈ p, d.length = 32) (hg : w.heap[T]? = some (.cells (flat (p ++ [seven])).toArray 24 (0, 0))) : Hst w (some ⟨T, 0, none⟩) n (n + 1) p :=
  ⟨hl, by omega, hp, fun _ => ⟨T, 0, rfl, fun i hi j u hu => by
    have hall : ∀ d ∈ p ++ [seven], d.length = 32 := by
      intro d hd
      rcases List.mem_append.1 hd with h | h
      · exact hp d h
      · rw [List.mem_singleton.1 h]; rfl
    have := flat_range hg hall (i := i) (d := p.getD i []) (by simp; omega) (by rw [List.getD_eq_getElem?_getD, List.getD_eq_getElem?_getD, List.getElem?_append_left hi])
    rw [Nat.zero_add, Nat.mul_comm]
    exact this j u (by simpa [brow] using hu), hp, (Array.getElem?_eq_some_iff.1 hg).1⟩⟩
theorem errOf_cases (L : List ByteArray) (i : Int) : (errOf L i = 0 ∧ 0 ≤ i ∧ i < (L.length : Int)) ∨ (errOf L i = 8 ∧ prfOf L i = []) := by
  unfold errOf prfOf
  by_cases h : 0 ≤ i ∧ i < (L.length : Int)
  · rw [if_pos h]; exact Or.inl ⟨rfl, h.1, h.2⟩
  · rw [if_neg h, if_neg h]; exact Or.inr ⟨rfl, rfl⟩
theorem info45 : (Tryd.prog.info? 45).map (fun i => (i.zero, i.size)) = some (some (.agg #[.slice none 0 0, .slice none 0 0]), 2) := by kernel_rfl

/-- What every world of the walk has of the beginning. -/
structure Bs (w : World) (al : Option Addr) (nl cl : Nat) (L : List ByteArray) (ap : Option Addr) (np cp : Nat) (p : List (List UInt8)) (r : List UInt8) (wx : World) : Prop where
  l : Lst wx al nl cl L
  lb : ∀ b o, al = some ⟨b, o, none⟩ → 0 < nl → b < w.heap.size
  h : Hst wx ap np cp p
  hb : ∀ b o, ap = some ⟨b, o, none⟩ → 0 < np → b < w.heap.size
  t : Table wx
  z : 0 < w.heap.size
  row : wx.heap[w.heap.size]? = some (.cells (brow r) 24 (0, 0))
  kept : Sm (· < w.heap.size) w wx
theorem Bs.sm {w : World} {al : Option Addr} {nl cl : Nat} {L : List ByteArray} {ap : Option Addr} {np cp : Nat} {p : List (List UInt8)} {r : List UInt8} {wx wy : World} (h : Bs w al nl cl L ap np cp p r wx) {S : Nat → Prop} (hm : Sm S wx wy) (hS : ∀ k, k < w.heap.size + 1 → S k) : Bs w al nl cl L ap np cp p r wy :=
  ⟨h.l.sm hm h.lb (fun k hk => hS k (by omega)), h.lb, h.h.sm hm h.hb (fun k hk => hS k (by omega)), h.hb, Table.sm hm h.t (Nat.lt_of_lt_of_le h.z h.kept.size) (hS 0 (by omega)), h.z,
    (hm.block _ (Array.getElem?_eq_some_iff.1 h.row).1 (hS _ (by omega))).trans h.row, h.kept.trans (hm.mono (fun k hk => hS k (by omega)))⟩
theorem Bs.lt {w : World} {al : Option Addr} {nl cl : Nat} {L : List ByteArray} {ap : Option Addr} {np cp : Nat} {p : List (List UInt8)} {r : List UInt8} {wx : World} (h : Bs w al nl cl L ap np cp p r wx) : 0 < wx.heap.size := Nat.lt_of_lt_of_le h.z h.kept.size
theorem Put.sm {g : Nat} {cells : Array Value} {t : TypeId} {w w' w0 : World} {S : Nat → Prop} (h : Put g cells t w0 w') {O : Obj} (h0 : w0.heap = (w.alloc O).heap) (hos : w0.os = w.os) (hou : w0.output = w.output) (hg : g = w.heap.size) : Sm S w w' :=
  ⟨h.os.trans hos, h.output.trans hou, by rw [h.size, h0]; simp, fun k hk _ => (h.other k (by omega)).trans (by rw [h0]; exact Below.heap_alloc _ _ _ hk)⟩

set_option maxRecDepth 100000 in
set_option maxHeartbeats 4000000 in
theorem proofs_law (L : List ByteArray) (al : Option Addr) (nl cl : Nat) (i : Int) (s : ByteArray) (n : Int) (p : List (List UInt8)) (ap : Option Addr) (np cp : Nat) (r : List UInt8) (turns : Int) (w : World)
    (hl : Lst w al nl cl L) (hsm : ∀ x ∈ L, x.size ≤ 140737488354900) (hnl : 16 * (nl + 1) ≤ 140737488355328) (i0 : -9223372036854775808 ≤ i) (i1 : i ≤ 9223372036854775807) (hs : s.size ≤ 140737488354900) (_n0 : -9223372036854775808 ≤ n) (n1 : n ≤ 9223372036854775807)
    (hp : Hst w ap np cp p) (hnp : 32 * (np + 1) ≤ 140737488355328) (hr : r.length = 32) (t0 : -9223372036854775808 ≤ turns) (t1 : turns ≤ 9223372036854775807) (hT : Table w) (hz : 0 < w.heap.size) :
    Calls Tryd.prog 5 #[.slice al nl cl, .int .i64 i, .string s, .int .i64 n, .slice ap np cp, .agg (brow r), .int .i64 turns] w fun e w' => e = .returned (.bool true) ∧ Kept w.heap.size w w' := by
  have hlb : ∀ b o, al = some ⟨b, o, none⟩ → 0 < nl → b < w.heap.size := fun b o ha h0 => by
    obtain ⟨b', o', ha', hs'⟩ := hl.2.2 h0
    rw [ha] at ha'; cases ha'; exact hs'.lt
  have hpb : ∀ b o, ap = some ⟨b, o, none⟩ → 0 < np → b < w.heap.size := fun b o ha h0 => by
    obtain ⟨b', o', ha', hs'⟩ := hp.2.2.2 h0
    rw [ha] at ha'; cases ha'; exact hs'.lt
  have hB0 : ∀ O, Bs w al nl cl L ap np cp p r ((w.alloc (.cells (brow r) 24)).alloc O) := fun O => by
    have hsm0 : Sm (fun _ => True) w ((w.alloc (.cells (brow r) 24)).alloc O) := ((Sm.all (Kept.refl _ _) _).alloc _).alloc _
    exact ⟨hl.sm hsm0 hlb (fun _ _ => trivial), hlb, hp.sm hsm0 hpb (fun _ _ => trivial), hpb, Table.sm hsm0 hT hz trivial, hz, (Below.heap_alloc _ _ _ (by simp)).trans (heap_alloc_new _ _), hsm0.mono (fun _ _ => trivial)⟩
  have HB0 := hide (hB0 (.cells #[.slice none 0 0, .slice none 0 0] 45))
  have HD0 := hide (show Dr (w.heap.size + 1) (w.heap.size + 2) ((w.alloc (.cells (brow r) 24)).alloc (.cells #[.slice none 0 0, .slice none 0 0] 45)) (w.heap.size + 1) 0 (.slice none 0 0) (.slice none 0 0) [] [] from
    ⟨by have := heap_alloc_new (w.alloc (.cells (brow r) 24)) (.cells #[.slice none 0 0, .slice none 0 0] 45); simpa using this, Nat.le_refl _, by omega, by simp, World.ownsRow_nil _ _ _ _, World.ownsRow_nil _ _ _ _, rfl, by simp, by simp [Value.ownBlock], by simp [Value.ownBlock], by intro k hk; omega⟩)
  have hpd := hp.2.2.1
  have hpl := hp.1
  have hll := hl.1
  clear hB0 hlb hpb hl hp hT
  go_enter Tryd.func5, Tryd.ntmps5
  go_wp2_with fail
  go_loopw [16] (fun vk wr => ∃ t : Nat, t ≤ 1002 ∧ vk = .int .i64 t ∧ Bs w al nl cl L ap np cp p r wr ∧ ∃ vl vm ls ms, Dr (w.heap.size + 1) wr.heap.size wr (w.heap.size + 1) (4 * t) vl vm ls ms) (fun vk _ => 1003 - (intOf vk).toNat)
  case atStart => exact ⟨0, by omega, rfl, unhide HB0, _, _, _, _, by simpa using unhide HD0⟩
  case round =>
    obtain ⟨t, ht, rfl, hbs, vl, vm, ls, ms, hdr⟩ := hrel
    clear HB0 HD0
    have HBS := hide hbs
    have HDR := hide hdr
    clear hbs hdr
    go_wp2_with fail
    refine (lawpick_go turns 1000 wr t0 t1 (by omega) (by omega)).mono ?_
    rintro e wr ⟨⟨kk, hkk, rfl⟩, rfl⟩
    by_cases hlt : t < 2 + kk
    · have hltI : (t : Int) < 2 + (kk : Int) := by omega
      obtain ⟨R, hR⟩ : ∃ R, R = Tre.root (lsts L) := ⟨_, rfl⟩
      have hRl : R.length = 32 := by rw [hR]; exact Tre.root_length _
      obtain ⟨P, hP⟩ : ∃ P, P = prfOf L i := ⟨_, rfl⟩
      obtain ⟨ec, hec⟩ : ∃ ec, ec = errOf L i := ⟨_, rfl⟩
      have hPd : ∀ d ∈ P, d.length = 32 := by rw [hP]; exact prfOf_rows L i
      have hP47 : P.length ≤ 47 := by rw [hP]; exact prfOf_len L i (by omega)
      have HE := hide (errOf_cases L i)
      rw [← hec, ← hP] at HE
      have HR := hide hR
      have HP := hide hP
      have HEC := hide hec
      clear hR hP hec
      go_wp2_with fail
      refine (lentWords_go L al nl cl wr hll (by omega) (unhide HBS).l.2.2).mono ?_
      rintro e w1 ⟨rfl, hrow1, hb1⟩
      have HB1 := hide ((unhide HBS).sm (Sm.all (Kept.of hb1) (fun _ => True)) (fun _ _ => trivial))
      have HK1 := hide (Sm.of_kept (Kept.of hb1))
      have HR1 := hide hrow1
      clear hb1 hrow1
      have hsl1 := sl_h wr.heap.size 0 (nl + 1) (nl + 1) nl (by omega)
      go_wp2_with fail
      refine (call_root (lst_srow hll (unhide HR1) hsm) (by omega) (unhide HB1).t (unhide HB1).lt).mono ?_
      rintro e w2 ⟨rfl, hb2⟩
      rw [← unhide HR]
      have HB2 := hide ((unhide HB1).sm (Sm.all (Kept.of hb2) (fun _ => True)) (fun _ _ => trivial))
      have HK2 := hide ((unhide HK1).trans (Sm.all (Kept.of hb2) _))
      have HR2 := hide ((hb2.block _ (Array.getElem?_eq_some_iff.1 (unhide HR1)).1).trans (unhide HR1))
      clear hb2
      go_wp2_with (refine wpList_store_put rfl 24 (.tmp 18) (.tmp 48) rfl w2.heap.size (brow R) rfl rfl 24 _ (heap_alloc_new _ _) (rinfo hRl) (rzero hRl) (brow_one _) ?_; intro w3 hp3)
      have HS3 := hide (show Sm (fun _ => True) w2 w3 from Put.sm hp3 rfl rfl rfl rfl)
      have HB3 := hide ((unhide HB2).sm (unhide HS3) (fun _ _ => trivial))
      have HK3 := hide ((unhide HK2).trans ((unhide HS3).mono (fun _ _ => trivial)))
      have HR3 := hide (((unhide HS3).block _ (Array.getElem?_eq_some_iff.1 (unhide HR2)).1 trivial).trans (unhide HR2))
      have HA3 := hide hp3.row
      have HZ3 := hide (show wr.heap.size < w2.heap.size ∧ w2.heap.size < w3.heap.size from ⟨(Array.getElem?_eq_some_iff.1 (unhide HR2)).1, (Array.getElem?_eq_some_iff.1 hp3.row).1⟩)
      clear hp3
      refine (call_proof i (lst_srow hll (unhide HR3) hsm) (by omega) (unhide HB3).t (unhide HB3).lt).mono ?_
      rintro e w4 ⟨v, rfl, ho4, hb4⟩
      rw [← unhide HEC]
      rw [← unhide HP] at ho4
      have HS4 := hide (Sm.all (Kept.of hb4) (fun _ => True))
      have HB4 := hide ((unhide HB3).sm (unhide HS4) (fun _ _ => trivial))
      have HK4 := hide ((unhide HK3).trans ((unhide HS4).mono (fun _ _ => trivial)))
      have HR4 := hide (((unhide HS4).block _ (Array.getElem?_eq_some_iff.1 (unhide HR3)).1 trivial).trans (unhide HR3))
      have HA4 := hide (((unhide HS4).block _ (Array.getElem?_eq_some_iff.1 (unhide HA3)).1 trivial).trans (unhide HA3))
      have HO4 := hide ho4
      have HZ4 := hide hb4.size
      clear hb4 ho4
      go_wp2_with fail
      refine (backWords_go L al nl cl wr.heap.size w4 hll (by omega) (unhide HR4) (fun h0 => by obtain ⟨b, o, ha, hS⟩ := (unhide HB4).l.2.2 h0; exact ⟨b, o, ha, hS, by have := (unhide HB4).lb b o ha h0; have := (unhide HBS).kept.size; omega⟩)).mono ?_
      rintro e w5 ⟨rfl, hb5⟩
      have HS5 := hide (show Sm (fun k => k ≠ wr.heap.size) w4 w5 from Sm.other hb5 (fun h => h rfl))
      have HB5 := hide ((unhide HB4).sm (unhide HS5) (fun k hk => by have := (Array.getElem?_eq_some_iff.1 (unhide HBS).row).1; omega))
      have HK5 := hide ((unhide HK4).trans ((unhide HS5).mono (fun k hk => by omega)))
      have HA5 := hide (((unhide HS5).block _ (Array.getElem?_eq_some_iff.1 (unhide HA4)).1 (by have := (unhide HZ3).1; omega)).trans (unhide HA4))
      have HO5 := hide ((unhide HS5).own (unhide HO4) (fun k hk => by have := ((unhide HO4).lt k hk).1; have := unhide HZ3; omega))
      have HZ5 := hide hb5.size
      clear hb5
      go_wp2_with fail
      refine (call_rroot (unhide HB5).l (by omega)).mono ?_
      rintro e w6 ⟨rfl, hb6⟩
      rw [← unhide HR]
      have HS6 := hide (Sm.all hb6 (fun _ => True))
      clear hb6
      go_wp2_with (refine wpList_store_put rfl 24 (.tmp 22) (.tmp 62) rfl w6.heap.size (brow R) rfl rfl 24 _ (heap_alloc_new _ _) (rinfo hRl) (rzero hRl) (brow_one _) ?_; intro w7 hp7)
      have HS7 := hide ((unhide HS6).trans (show Sm (fun _ => True) w6 w7 from Put.sm hp7 rfl rfl rfl rfl))
      have HB7 := hide ((unhide HB5).sm (unhide HS7) (fun _ _ => trivial))
      have HK7 := hide ((unhide HK5).trans ((unhide HS7).mono (fun _ _ => trivial)))
      have HA7 := hide (((unhide HS7).block _ (Array.getElem?_eq_some_iff.1 (unhide HA5)).1 trivial).trans (unhide HA5))
      have HO7 := hide ((unhide HS7).own (unhide HO5) (fun _ _ => trivial))
      have HC7 := hide hp7.row
      have HZ7 := hide (show w5.heap.size ≤ w6.heap.size ∧ w6.heap.size < w7.heap.size from ⟨(unhide HS6).size, (Array.getElem?_eq_some_iff.1 hp7.row).1⟩)
      clear hp7
      refine (call_rproof i (unhide HB7).l (by omega)).mono ?_
      rintro e w8 ⟨vq, rfl, ho8, hb8⟩
      rw [← unhide HEC]
      rw [← unhide HP] at ho8
      have HS8 := hide (Sm.all hb8 (fun _ => True))
      have HB8 := hide ((unhide HB7).sm (unhide HS8) (fun _ _ => trivial))
      have HK8 := hide ((unhide HK7).trans ((unhide HS8).mono (fun _ _ => trivial)))
      have HA8 := hide (((unhide HS8).block _ (Array.getElem?_eq_some_iff.1 (unhide HA7)).1 trivial).trans (unhide HA7))
      have HC8 := hide (((unhide HS8).block _ (Array.getElem?_eq_some_iff.1 (unhide HC7)).1 trivial).trans (unhide HC7))
      have HO8 := hide ((unhide HS8).own (unhide HO7) (fun _ _ => trivial))
      have HQ8 := hide ho8
      obtain ⟨av, cv, hv, hstv⟩ := hst_own (unhide HO8) hPd
      obtain ⟨aq, cq, hq, hstq⟩ := hst_own ho8 hPd
      subst hv
      subst hq
      have HTV := hide hstv
      have HTQ := hide hstq
      clear hb8 ho8 hstv hstq
      go_wp2_with fail
      refine (same_go P P.length cv cq av aq w8 rfl (by omega) (unhide HTV).2.2.2 (unhide HTQ).2.2.2).mono ?_
      rintro e w9 ⟨rfl, hb9⟩
      have HS9 := hide (Sm.all (Kept.of hb9) (fun _ => True))
      have HB9 := hide ((unhide HB8).sm (unhide HS9) (fun _ _ => trivial))
      have HK9 := hide ((unhide HK8).trans ((unhide HS9).mono (fun _ _ => trivial)))
      have HA9 := hide (((unhide HS9).block _ (Array.getElem?_eq_some_iff.1 (unhide HA8)).1 trivial).trans (unhide HA8))
      have HC9 := hide (((unhide HS9).block _ (Array.getElem?_eq_some_iff.1 (unhide HC8)).1 trivial).trans (unhide HC8))
      have HO9 := hide ((unhide HS9).own (unhide HO8) (fun _ _ => trivial))
      have HQ9 := hide ((unhide HS9).own (unhide HQ8) (fun _ _ => trivial))
      clear hb9
      have heqR : ∀ W, (Op.equalIn 10000 24 (.agg (brow R)) (.agg (brow R))).run Tryd.prog W = .ok true W := fun W => by
        have := eq_row R R hRl hRl W
        rw [beq_self_eq_true] at this
        exact this
      have hg24 := guard_24
      go_wp2_with (first
        | (refine wpList_load_row rfl 24 (.tmp 18) rfl w2.heap.size ?_ 24 (brow R) (0, 0) _ ?_ Tryd.underlying24 rfl (rinfo hRl) ?_; · rfl
           · exact unhide HA9)
        | (refine wpList_load_row rfl 24 (.tmp 22) rfl w6.heap.size ?_ 24 (brow R) (0, 0) _ ?_ Tryd.underlying24 rfl (rinfo hRl) ?_; · rfl
           · exact unhide HC9))
      refine (num_go ec w9).mono ?_
      rintro e w9 ⟨rfl, rfl⟩
      clear heqR
      have HD9 := hide ((unhide HDR).kept (unhide HK9).size (fun k hk => (unhide HK9).block k hk hk))
      go_wp2_with fail
      refine (keep_go (w.heap.size + 1) wr.heap.size (w.heap.size + 1) (4 * t) vl vm ls ms (.slice av P.length cv) P.length P w9 (unhide HD9) (by omega) hP47 ((unhide HO9).mono (by have := unhide HZ3; omega)) rfl hPd).mono ?_
      rintro e w10 ⟨rfl, ⟨vl', vm', ls', ms', hdr⟩, hk10⟩
      have HD10 := hide hdr
      have HS10 := hide (show Sm (fun k => k < w.heap.size + 1 ∨ (wr.heap.size ≤ k ∧ some k ≠ (Value.slice av P.length cv).ownBlock)) w9 w10 from ⟨hk10.os, hk10.output, hk10.size, fun k hk hs => by
        rcases hs with h | h
        · refine hk10.block k hk (Or.inl h) (fun e => ?_)
          have h1 := ((unhide HO9).lt k e.symm).1
          have h2 := unhide HZ3
          have h3 := (Array.getElem?_eq_some_iff.1 (unhide HBS).row).1
          omega
        · exact hk10.block k hk (Or.inr h.1) h.2⟩)
      have HB10 := hide ((unhide HB9).sm (unhide HS10) (fun k hk => Or.inl hk))
      have HVK := hide (show ∀ k, (Value.slice av P.length cv).ownBlock = some k → k < w4.heap.size from fun k hk => ((unhide HO4).lt k hk).2)
      have HC10 := hide (((unhide HS10).block _ (Array.getElem?_eq_some_iff.1 (unhide HC9)).1 (Or.inr ⟨by have := unhide HZ3; have := unhide HZ4; have := unhide HZ5; have := unhide HZ7; omega, fun e => by have := unhide HVK _ e.symm; have := unhide HZ5; have := unhide HZ7; omega⟩)).trans (unhide HC9))
      have HQ10 := hide ((unhide HS10).own (unhide HQ9) (fun k hk => Or.inr ⟨by have := ((unhide HQ9).lt k hk).1; have := unhide HZ3; have := unhide HZ4; have := unhide HZ5; have := unhide HZ7; omega, fun e => by have := ((unhide HQ9).lt k hk).1; have := unhide HVK _ e.symm; have := unhide HZ5; have := unhide HZ7; omega⟩))
      have hrt9 := hk10.size
      clear hdr hk10 HA9 HO9 HA8 HO8 HA7 HO7 HA5 HO5 HA4 HA3 HR4 HR3 HR2 HR1 HB1 HB2 HB3 HB4 HB5 HB7 HB8 HB9 HK1 HK2 HK3 HK4 HK5 HK7 HK8 HS3 HS4 HS5 HS6 HS7 HS8 HS9 HC9 HC8 HC7 HQ9 HQ8 HTV HTQ HD9
      go_wp2_with fail
      refine (lentHashes_go p ap np cp w10 hpl hpd (by omega) (unhide HB10).h.2.2.2).mono ?_
      rintro e w11 ⟨rfl, hrow11, hb11⟩
      have HS11 := hide (Sm.all (Kept.of hb11) (fun _ => True))
      have HB11 := hide ((unhide HB10).sm (unhide HS11) (fun _ _ => trivial))
      have HR11 := hide hrow11
      clear hb11 hrow11
      have hsl2 := sl_hash w10.heap.size 0 (np + 1) (np + 1) np (by omega)
      obtain ⟨X, hX⟩ : ∃ X, X = provesOf s i n p r := ⟨_, rfl⟩
      have HX := hide hX
      clear hX
      have hu24 := Tryd.underlying24
      have hi24 : (Tryd.prog.info? 24).map (·.size) = some (blist r).length := by have := rinfo hr; rwa [brow_size, ← List.length_map (f := fun c : UInt8 => Value.int .u8 (c.toNat : Int))] at this
      have hr11 : w11.drew.rangeAt w.heap.size 0 (blist r) := fun j u hu => by
        show w11.cell? _ = _
        rw [Nat.zero_add, cell_of_row _ _ _ _ _ _ (unhide HB11).row]; simpa [brow] using hu
      have hnp0 : (0 : Int) ≤ (np : Int) := by omega
      have hnp1 : (np : Int) ≤ (np : Int) + 1 := by omega
      go_wp2_with fail
      go_region_held3 (fun w' => w'.rangeAt w.heap.size 0 (blist r)) (assumption) (first
        | (go_at_call 25; go_must (refine (call_proves (w := w11.drew) s i n (hst_flat hpl hpd (unhide HR11)) n1 hs hr (unhide HB11).t (unhide HB11).lt).mono ?_; rintro e w12 ⟨rfl, hb12'⟩; rw [← unhide HX]; have hb12 : Below w11.heap.size w11 w12 := undrew hb12'; have HS12 := hide (Sm.all (Kept.of hb12) (fun _ => True)); have HB12 := hide ((unhide HB11).sm (unhide HS12) (fun _ _ => trivial)); have HR12 := hide (((unhide HS12).block _ (Array.getElem?_eq_some_iff.1 (unhide HR11)).1 trivial).trans (unhide HR11)); have hr12 : w12.rangeAt w.heap.size 0 (blist r) := (fun j u hu => by rw [Nat.zero_add, cell_of_row _ _ _ _ _ _ (unhide HB12).row]; simpa [brow] using hu); clear hb12 hb12')))
      clear hr11 hr12 HR11
      have hrow12 := (unhide HB12).row
      go_wp2_with fail
      refine (backHashes_go p ap np cp w10.heap.size w12 hpl hpd (by omega) (unhide HR12) (fun h0 => by obtain ⟨b, o, ha, hS⟩ := (unhide HB12).h.2.2.2 h0; exact ⟨b, o, ha, hS, by have := (unhide HB12).hb b o ha h0; have := (unhide HB10).kept.size; omega⟩)).mono ?_
      rintro e w13 ⟨rfl, hb13⟩
      clear hrow12
      have HS13 := hide (show Sm (fun k => k < w10.heap.size) w10 w13 from (((unhide HS11).trans (unhide HS12)).mono (fun _ _ => trivial)).trans (Sm.other hb13 (by simp)))
      have HB13 := hide ((unhide HB10).sm (unhide HS13) (fun k hk => by have := (Array.getElem?_eq_some_iff.1 (unhide HB10).row).1; omega))
      clear hb13 HR12 HB11 HB12 HS11 HS12 hsl2
      go_wp2_with (refine wpList_load_row rfl 24 (.tmp 12) rfl w.heap.size ?_ 24 (brow r) (0, 0) _ ?_ Tryd.underlying24 rfl (rinfo hr) ?_; · rfl
                   · exact (unhide HB13).row)
      refine (call_rproves s i n (unhide HB13).h (by omega) n1 hs hr).mono ?_
      rintro e w14 ⟨rfl, hb14⟩
      rw [← unhide HX]
      have HS14 := hide ((unhide HS13).trans (Sm.all hb14 _))
      have HB14 := hide ((unhide HB13).sm (Sm.all hb14 (fun _ => True)) (fun _ _ => trivial))
      clear hb14 HS13 HB13
      rcases unhide HE with ⟨rfl, hi0, hi1⟩ | ⟨rfl, hP0⟩
      · obtain ⟨ki, rfl⟩ : ∃ ki : Nat, i = (ki : Int) := ⟨i.toNat, by omega⟩
        have hkn : ki < nl := by omega
        obtain ⟨b, o, rfl, hS14⟩ := (unhide HB14).l.2.2 (by omega)
        obtain ⟨si, hsi⟩ : ∃ si, si = L.getD ki ByteArray.empty := ⟨_, rfl⟩
        have HSI := hide hsi
        have hPk : P = Tre.proofOf (lsts L) ki := by rw [unhide HP, prfOf, if_pos ⟨hi0, hi1⟩]; rfl
        have HPK := hide hPk
        have hC14 : w14.heap[w6.heap.size]? = some (.cells (brow R) 24 (0, 0)) := ((unhide HS14).block _ (Array.getElem?_eq_some_iff.1 (unhide HC10)).1 (Array.getElem?_eq_some_iff.1 (unhide HC10)).1).trans (unhide HC10)
        have hQ14 := (unhide HS14).own (unhide HQ10) (fun k hk => ((unhide HQ10).lt k hk).2)
        obtain ⟨aq', cq', hqe, hstq⟩ := hst_own hQ14 hPd
        simp only [Value.slice.injEq] at hqe
        obtain ⟨rfl, _, rfl⟩ := hqe
        have hs14 : w14.drew.cell? ⟨b, o + ki, none⟩ = some (.string si) ∧ w14.drew.rangeAt w6.heap.size 0 (blist R) := by
          refine ⟨?_, fun j u hu => ?_⟩
          · show w14.cell? _ = _
            rw [hS14.cell ki (by omega), hsi]
          · show w14.cell? _ = _
            rw [Nat.zero_add, cell_of_row _ _ _ _ _ _ hC14]; simpa [brow] using hu
        have HS := hide hS14
        have HC14 := hide hC14
        have HTQ := hide hstq
        have hkI : (ki : Int) < (nl : Int) := by omega
        have hiR : (Tryd.prog.info? 24).map (·.size) = some (blist R).length := by have := rinfo hRl; rwa [brow_size, ← List.length_map (f := fun c : UInt8 => Value.int .u8 (c.toNat : Int))] at this
        clear hPk hsi hS14 hC14 hQ14 hstq hi24
        go_wp2_with fail
        go_region_held3 (fun w' => w'.cell? ⟨b, o + ki, none⟩ = some (.string si) ∧ w'.rangeAt w6.heap.size 0 (blist R)) (assumption) (first
          | (go_at_call 25; go_must (refine (call_yes (L := L) (b := b) (o := o) (pc := cq) (ao := aq) (p := P) (r := R) (s := si) (w := w14.drew) hll hkn (by omega) ((unhide HS).below (below_draws (Below.refl _ _) 1) (unhide HS).lt) (unhide HB14).t (unhide HB14).lt ⟨rfl, (unhide HTQ).2.1, ((unhide HTQ).below (w' := w14.drew) (below_draws (Below.refl _ _) 1)).2.2.2⟩ (unhide HPK) (unhide HR) (unhide HSI)).mono ?_; rintro e w15 ⟨rfl, hb15'⟩; have hb15 : Below w14.heap.size w14 w15 := undrew hb15'; have HK15 := hide (Kept.of hb15); have hs15 : w15.cell? ⟨b, o + ki, none⟩ = some (.string si) ∧ w15.rangeAt w6.heap.size 0 (blist R) := ⟨(hb15.cell (p := ⟨b, o + ki, none⟩) (unhide HS).lt).trans hs14.1, (fun j u hu => (hb15.cell (p := ⟨w6.heap.size, 0 + j, none⟩) (Array.getElem?_eq_some_iff.1 (unhide HC14)).1).trans (hs14.2 j u hu))⟩; clear hb15 hb15')))
        clear hs14 hs15
        obtain ⟨Y, hY⟩ : ∃ Y, Y = provesOf s ki nl P R := ⟨_, rfl⟩
        have HY := hide hY
        clear hY
        have HC15 := hide (((unhide HK15).block _ (Array.getElem?_eq_some_iff.1 (unhide HC14)).1).trans (unhide HC14))
        have HB15 := hide ((unhide HB14).sm (Sm.all (unhide HK15) (fun _ => True)) (fun _ _ => trivial))
        have HS15 := hide ((unhide HS14).trans (Sm.all (unhide HK15) _))
        have HT15 := hide ((unhide HTQ).sm (Sm.all (unhide HK15) (fun _ => True)) (B := w14.heap.size) (fun b' o' ha h0 => by obtain ⟨b2, o2, h1, h2⟩ := (unhide HTQ).2.2.2 h0; rw [ha] at h1; cases h1; exact h2.lt) (fun _ _ => trivial))
        go_wp2_with (refine wpList_load_row rfl 24 (.tmp 22) rfl w6.heap.size ?_ 24 (brow R) (0, 0) _ ?_ Tryd.underlying24 rfl (rinfo hRl) ?_; · rfl
                     · exact unhide HC15)
        refine (call_proves s ki nl (unhide HT15) (by omega) hs hRl (unhide HB15).t (unhide HB15).lt).mono ?_
        rintro e w16 ⟨rfl, hb16⟩
        rw [← unhide HY]
        have HC16 := hide ((hb16.block _ (Array.getElem?_eq_some_iff.1 (unhide HC15)).1).trans (unhide HC15))
        have HB16 := hide ((unhide HB15).sm (Sm.all (Kept.of hb16) (fun _ => True)) (fun _ _ => trivial))
        have HS16 := hide ((unhide HS15).trans (Sm.all (Kept.of hb16) _))
        have HT16 := hide ((unhide HT15).below hb16)
        clear hb16
        go_wp2_with (refine wpList_load_row rfl 24 (.tmp 22) rfl w6.heap.size ?_ 24 (brow R) (0, 0) _ ?_ Tryd.underlying24 rfl (rinfo hRl) ?_; · rfl
                     · exact unhide HC16)
        refine (call_rproves s ki nl (unhide HT16) (by omega) (by omega) hs hRl).mono ?_
        rintro e w17 ⟨rfl, hb17⟩
        rw [← unhide HY]
        have HB17 := hide ((unhide HB16).sm (Sm.all hb17 (fun _ => True)) (fun _ _ => trivial))
        have HS17 := hide ((unhide HS16).trans (Sm.all hb17 _))
        clear hb17
        go_wp2_with fail
        go_roundw
        case rel => exact ⟨t + 1, by omega, by go_num, unhide HB17, _, _, _, _, by have := ((unhide HD10).kept (unhide HS17).size (fun k hk => (unhide HS17).block k hk hk)).up (unhide HS17).size (Nat.le_refl _); exact this⟩
        case measure => simp [intOf]; omega
      · go_wp2_with fail
        go_roundw
        case rel => exact ⟨t + 1, by omega, by go_num, unhide HB14, _, _, _, _, by have := ((unhide HD10).kept (unhide HS14).size (fun k hk => (unhide HS14).block k hk hk)).up (unhide HS14).size (Nat.le_refl _); exact this⟩
        case measure => simp [intOf]; omega
    · go_wp2_with fail
      refine (looks_go (w.heap.size + 1) wr.heap.size (w.heap.size + 1) (4 * t) vl vm ls ms wr (unhide HDR) (by omega)).mono ?_
      rintro e w1 ⟨rfl, hb1⟩
      have HE1 := hide (show Kept w.heap.size w w1 from ⟨hb1.os.trans (unhide HBS).kept.os, hb1.output.trans (unhide HBS).kept.output, Nat.le_trans (unhide HBS).kept.size hb1.size, fun k hk => (hb1.block k (Nat.lt_of_lt_of_le hk (unhide HBS).kept.size)).trans ((unhide HBS).kept.block k hk hk)⟩)
      clear hb1
      go_wp2_with fail
      go_ret
      exact ⟨rfl, unhide HE1⟩

end Go.Proofs.YtfodibjlldmnpaaDoor
/-
  Proofs: the row proved, and its tied card.
-/
namespace Go.Proofs.YtfodibjlldmnpaaDoor
open Go.ChangeShapes Go.WideShapes Go.ChangeAt Go.WideMaps Go.WideElems Go.RowKit
open Go.ChangeMaps (open_string shut_string)

theorem cells5 : Tryd.prog.cellsOf 5 = 1 := by kernel_rfl
theorem cells24 : Tryd.prog.cellsOf 24 = 32 := by kernel_rfl
theorem bytes24 : Tryd.prog.bytesOf 24 = 32 := by kernel_rfl

theorem mapM_get {α β : Type} {f : α → Option β} : ∀ {l : List α} {ys : List β}, l.mapM f = some ys → ∀ (i : Nat) (x : α), l[i]? = some x → ∃ y, f x = some y
  | [], _, _, i, x, h => by simp at h
  | a :: l, ys, h, i, x, hx => by
    rw [List.mapM_cons] at h
    simp only [bind, Option.bind_eq_some_iff, pure, Option.some.injEq] at h
    obtain ⟨y, hy, zs, hz, rfl⟩ := h
    cases i with
    | zero => simp at hx; subst hx; exact ⟨y, hy⟩
    | succ i => exact mapM_get hz i x (by simpa using hx)
/-- The bytes of a digest that came in. -/
theorem open_hash {H : Type} {enc : TypeId × Value → H} {W : World} {base : Nat} {sp : Nat → Bool} {held : Bool} {fuel : Nat} {cs : List Value} {x : DataW H × List MemPlace} (h : DataW.trod enc Tryd.prog W base sp held fuel 24 cs = some x) : ∃ r : List UInt8, r.length = 32 ∧ cs = blist r := by
  cases fuel with
  | zero => simp [DataW.trod] at h
  | succ m =>
    rw [DataW.trod_step] at h
    unfold DataW.trodStep at h
    simp only [Tryd.underlying24] at h
    by_cases hl : cs.length = Tryd.prog.cellsOf 24
    · rw [if_pos hl] at h
      simp only [Option.map_eq_some_iff] at h
      obtain ⟨ys, hy, _⟩ := h
      rw [cells24] at hl
      have each : ∀ i, i < 32 → ∃ c : UInt8, cs[i]? = some (.int .u8 (c.toNat : Int)) := by
        intro i hi
        obtain ⟨y, hy⟩ := mapM_get hy i i (List.getElem?_range hi)
        obtain ⟨a, ha, _, hw⟩ := DataW.trod_int Tryd.underlying5 hy
        rw [cells5, Nat.mul_one] at ha
        have h2 : cs[i]? = some (.int .u8 a) := by
          have := congrArg (fun l => l[0]?) ha
          simpa [List.getElem?_take, List.getElem?_drop] using this
        have hb : IntKind.u8.min ≤ a ∧ a ≤ IntKind.u8.max := by simpa [Lit.wf] using hw
        have hx : IntKind.u8.max = 255 := rfl
        have hm : IntKind.u8.min = 0 := rfl
        refine ⟨UInt8.ofNat a.toNat, ?_⟩
        rw [h2]
        simp
        omega
      refine ⟨(List.range 32).map fun i => if hi : i < 32 then Classical.choose (each i hi) else 0, by simp, ?_⟩
      apply List.ext_getElem?
      intro i
      by_cases hi : i < 32
      · rw [List.getElem?_map, List.getElem?_map, List.getElem?_range hi]
        simp only [Option.map_some, dif_pos hi]
        exact Classical.choose_spec (each i hi)
      · rw [List.getElem?_eq_none (by omega), List.getElem?_eq_none (by simp; omega)]
    · rw [if_neg hl] at h
      cases h
theorem list_of {α : Type} {d : α} {Φ : Nat → α → Prop} {n : Nat} (h : ∀ i, i < n → ∃ x, Φ i x) : ∃ l : List α, l.length = n ∧ ∀ i, i < n → Φ i (l.getD i d) := by
  refine ⟨(List.range n).map fun i => if hi : i < n then Classical.choose (h i hi) else d, by simp, fun i hi => ?_⟩
  rw [List.getD_eq_getElem?_getD, List.getElem?_map, List.getElem?_range hi]
  simp only [Option.map_some, dif_pos hi, Option.getD_some]
  exact Classical.choose_spec (h i hi)

/-- The digests that came in. -/
theorem hashes_in {H : Type} {enc : TypeId × Value → H} {W : World} {a0 : Option Addr} {len cap : Nat} {d : DataW H} {ps : List MemPlace} {ts : List TypeId} {ds : List (DataW H)} {j : Nat} (h : DataW.Trod enc Tryd.prog W 0 (fun _ => true) true 41 (.slice a0 len cap) d ps)
    (hsz : (DataW.weightsEach Tryd.prog ts ds).all (· ≤ reachBytes) = true) (ht : ts[j]? = some 41) (hd : ds[j]? = some d) :
    ∃ p : List (List UInt8), Hst W a0 len cap p ∧ 32 * (len + 1) ≤ 140737488355328 := by
  obtain ⟨fuel, hf⟩ := h
  rcases DataW.trod_slice Tryd.underlying41 hf with ⟨hcs, _⟩ | ⟨a, len', cap', elems, rest, n, _, hcs, hx, hb, hl, hm, hlen, hel, _, _⟩
  · simp [Value.cells] at hcs
    obtain ⟨rfl, rfl, rfl⟩ := hcs
    exact ⟨[], ⟨rfl, Nat.le_refl _, by simp, fun h => by omega⟩, by omega⟩
  · simp [Value.cells] at hcs
    obtain ⟨rfl, rfl, rfl⟩ := hcs
    simp only [Prod.mk.injEq] at hx
    obtain ⟨rfl, _⟩ := hx
    have hsl := sized_slice hsz ht hd Tryd.underlying41
    rw [bytes24] at hsl
    simp only [List.length_map] at hsl
    have hr : reachBytes = 140737488351232 := rfl
    have hbd : 32 * (len + 1) ≤ 140737488355328 := by
      have : len * 32 ≤ (elems.length + rest.length) * 32 := Nat.mul_le_mul_right _ (by omega)
      omega
    rw [cells24] at hel
    have each : ∀ i, i < len → ∃ r : List UInt8, r.length = 32 ∧ ∀ j, j < 32 → W.cell? ((a.add (i * 32)).add j) = (blist r)[j]? := by
      intro i hi
      have h1 := hel i hi
      rw [List.getElem?_eq_getElem (by omega), Option.bind_eq_some_iff] at h1
      obtain ⟨cs, hcs, ht2⟩ := h1
      obtain ⟨r, hrl, rfl⟩ := open_hash ht2
      refine ⟨r, hrl, fun j hj => ?_⟩
      exact (World.cells?_some hcs).2.2 j hj
    obtain ⟨p, hpl, hp⟩ := list_of (d := []) each
    have hp32 : ∀ d ∈ p, d.length = 32 := by
      intro d hd
      obtain ⟨i, hi⟩ := List.getElem?_of_mem hd
      have hi' := (List.getElem?_eq_some_iff.1 hi).1
      have := (hp i (by omega)).1
      rwa [List.getD_eq_getElem?_getD, hi] at this
    refine ⟨p, ⟨hpl, hl, hp32, fun h0 => ?_⟩, hbd⟩
    obtain ⟨b, o, spot⟩ := a
    have hc0 := (hp 0 h0).2 0 (by omega)
    have hspot : spot = none := by
      have h1 : (blist (p.getD 0 []))[0]? ≠ none := by
        rw [List.getElem?_eq_getElem (by rw [List.length_map, (hp 0 h0).1]; omega)]
        simp
      obtain ⟨u, hu⟩ := Option.ne_none_iff_exists'.1 h1
      rw [hu] at hc0
      simpa [Addr.add] using World.cell?_spot hc0
    subst hspot
    refine ⟨b, o, rfl, fun i hi j u hu => ?_, hp32, ?_⟩
    · have hj : j < 32 := by
        have := (List.getElem?_eq_some_iff.1 hu).1
        rw [show (brow (p.getD i [])).toList.length = (p.getD i []).length by simp [brow], (hp i (by omega)).1] at this
        exact this
      have h2 := (hp i (by omega)).2 j hj
      rw [add_addr, add_addr] at h2
      rw [show o + 32 * i + j = o + i * 32 + j by omega, h2]
      simpa [brow] using hu
    · obtain ⟨u, hu⟩ : ∃ u, (blist (p.getD 0 []))[0]? = some u := ⟨_, List.getElem?_eq_getElem (by rw [List.length_map, (hp 0 h0).1]; omega)⟩
      rw [hu] at hc0
      rw [add_addr, add_addr] at hc0
      exact World.block_lt_of_cell? _ _ hc0

/-- The strings that came in, whether some or none. -/
theorem lst_in {H : Type} {enc : TypeId × Value → H} {W : World} {a0 : Option Addr} {len cap : Nat} {d : DataW H} {ps : List MemPlace} {ts : List TypeId} {ds : List (DataW H)} (h : DataW.Trod enc Tryd.prog W 0 (fun _ => true) true 30 (.slice a0 len cap) d ps)
    (hsz : (DataW.weightsEach Tryd.prog ts ds).all (· ≤ reachBytes) = true) (ht : ts[0]? = some 30) (hd : ds[0]? = some d) :
    ∃ L : List ByteArray, Lst W a0 len cap L ∧ (∀ s ∈ L, s.size ≤ 140737488354900) ∧ 16 * (len + 1) ≤ 140737488355328 := by
  have hbd : 16 * (len + 1) ≤ 140737488355328 ∧ len ≤ cap := by
    obtain ⟨fuel, hf⟩ := h
    rcases DataW.trod_slice Tryd.underlying30 hf with ⟨hcs, _⟩ | ⟨a, len', cap', elems, rest, n, _, hcs, hx, hb, hl, hm, hlen, _, _, _⟩
    · simp [Value.cells] at hcs
      obtain ⟨_, rfl, rfl⟩ := hcs
      omega
    · simp [Value.cells] at hcs
      obtain ⟨rfl, rfl, rfl⟩ := hcs
      simp only [Prod.mk.injEq] at hx
      obtain ⟨rfl, _⟩ := hx
      have hsl := sized_slice hsz ht hd Tryd.underlying30
      rw [bytes9] at hsl
      simp only [List.length_map] at hsl
      have hr : reachBytes = 140737488351232 := rfl
      have : len * 16 ≤ (elems.length + rest.length) * 16 := Nat.mul_le_mul_right _ (by omega)
      omega
  rcases strs_in h hsz ht hd with rfl | ⟨b, o, L, rfl, hl, h1, hc, _, hS⟩
  · exact ⟨[], ⟨rfl, hbd.2, fun h => by omega⟩, by simp, hbd.1⟩
  · exact ⟨L, ⟨hl, hc, fun _ => ⟨b, o, rfl, hS⟩⟩, hS.small, hbd.1⟩

theorem Kept.same {W w' : World} (h : Kept W.heap.size W w') {p : MemPlace} (hp : p.block < W.heap.size) : W.sameAt w' p := by
  cases p with
  | cell b o => exact World.cell?_of_block (w := W) (h.block b hp)
  | map b => exact h.block b hp
theorem Kept.trodAll {H : Type} {enc : TypeId × Value → H} {W W' : World} (hk : Kept W.heap.size W W') : ∀ {ts : List TypeId} {vs : List Value} {ds : List (DataW H)} {ps : List MemPlace}, (∀ t ∈ ts, Tryd.prog.readableRec t = true ∧ t < Tryd.prog.types.size) →
    DataW.TrodAll enc Tryd.prog W 0 (fun _ => true) true ts vs ds ps → (∀ x ∈ ps, x.block < W.heap.size) → DataW.TrodAll enc Tryd.prog W' 0 (fun b => decide (b < W.heap.size)) true ts vs ds ps
  | [], [], [], _, _, h, _ => h
  | t :: ts, v :: vs, d :: ds, ps, hr, h, hlt => by
    obtain ⟨p, q, h1, h2, rfl⟩ := h
    have hp := hr t (by simp)
    exact ⟨p, q, Trod_stays tryd_laid hp.1 hp.2 h1 (fun x hx => hk.same (hlt x (by simp [hx]))) (fun x hx => by simpa using hlt x (by simp [hx])), Kept.trodAll hk (fun t ht => hr t (by simp [ht])) h2 (fun x hx => hlt x (by simp [hx])), rfl⟩
  | [], _ :: _, _, _, _, h, _ => by simp [DataW.TrodAll] at h
  | [], [], _ :: _, _, _, h, _ => by simp [DataW.TrodAll] at h
  | _ :: _, [], _, _, _, h, _ => by simp [DataW.TrodAll] at h
  | _ :: _, _ :: _, [], _, _, h, _ => by simp [DataW.TrodAll] at h

set_option maxRecDepth 100000 in
theorem proofs_lifted (os : Os) (started : os.Started) (H : Type) (enc : TypeId × Value → H) :
    ReturnsInHanded {} Tryd.checked os 5 .any (fun w args => (Rows.proofsSpec.pre enc Tryd.prog Tryd.f5 [] false w args ∧ laidMetH Tryd.prog laidOne w) ∧ sizedMet enc Tryd.prog Tryd.f5 (OpenSpec.ofChange Rows.proofsSpec) false w args)
      (Rows.proofsSpec.post enc Tryd.prog Tryd.f5 false true false false) := by
  refine returnsInHanded_of_change_and (C := Tryd.checked) (X := fun w _ => laidMetH Tryd.prog laidOne w) (fun _ _ _ hh h => h.of_heap hh) ownKnobs started (by kernel_rfl) Tryd.func5
    (ChangeSpec.witness_shaped (enc := enc) (C := Tryd.checked) (os := os) (X := fun w _ => laidMetH Tryd.prog laidOne w) false (World.doorLaid Tryd.prog 14 os) #[.slice none 0 0, .int .i64 0, .string ByteArray.empty, .int .i64 0, .slice none 0 0, .agg (brow (List.replicate 32 0)), .int .i64 0] 8 rfl (World.shaped_of_RefB (by kernel_rfl) (by kernel_rfl)) (by kernel_rfl) (by kernel_rfl) (by kernel_rfl) (door_met os _)) ?_
  intro W base args ds gs before hval0 hW _ hsz0 hL _
  have hval : ∀ (j : Nat) t v, Tryd.f5.params[j]? = some t → args[j]? = some v → Value.okWide Tryd.prog W .any base t v := hval0
  have hsz : (DataW.weightsEach Tryd.prog (Tryd.f5.params.toList ++ Rows.proofsSpec.plain.varTypes Tryd.prog) (ds ++ gs)).all (· ≤ reachBytes) = true := hsz0
  have hW' := hW
  obtain ⟨p, q, hA0, hV, rfl, hfz, hnd⟩ := hW
  have hA : DataW.TrodAll enc Tryd.prog W 0 (fun _ => true) true Tryd.f5.params.toList args.toList ds p := hA0
  rw [Tryd.params5] at hA hval hsz
  obtain ⟨rfl, rfl⟩ := trodVars_none hV
  have hAk := hA
  obtain ⟨v0, a1, d0, e1, p0, q0, h1, rfl, rfl, t0, hA⟩ := trodAll_cons hA
  obtain ⟨v1, a2, d1, e2, p1, q1, rfl, rfl, rfl, t1, hA⟩ := trodAll_cons hA
  obtain ⟨v2, a3, d2, e3, p2, q2, rfl, rfl, rfl, t2, hA⟩ := trodAll_cons hA
  obtain ⟨v3, a4, d3, e4, p3, q3, rfl, rfl, rfl, t3, hA⟩ := trodAll_cons hA
  obtain ⟨v4, a5, d4, e5, p4, q4, rfl, rfl, rfl, t4, hA⟩ := trodAll_cons hA
  obtain ⟨v5, a6, d5, e6, p5, q5, rfl, rfl, rfl, t5, hA⟩ := trodAll_cons hA
  obtain ⟨v6, a7, d6, e7, p6, q6, rfl, rfl, rfl, t6, hA⟩ := trodAll_cons hA
  obtain ⟨rfl, rfl, rfl⟩ := trodAll_nil hA
  obtain rfl : args = #[v0, v1, v2, v3, v4, v5, v6] := by
    apply Array.ext'
    exact h1
  obtain ⟨al, nl, cl, rfl⟩ := okWide_slice Tryd.underlying30 (hval 0 30 v0 rfl rfl)
  obtain ⟨i, rfl, rfl, rfl, hiw⟩ := open_int Tryd.underlying3 (hval 1 3 v1 rfl rfl) t1
  obtain ⟨s, rfl, rfl, rfl, _⟩ := open_string Tryd.underlying9 (hval 2 9 v2 rfl rfl) t2
  obtain ⟨n, rfl, rfl, rfl, hnw⟩ := open_int Tryd.underlying3 (hval 3 3 v3 rfl rfl) t3
  obtain ⟨ap, np, cp, rfl⟩ := okWide_slice Tryd.underlying41 (hval 4 41 v4 rfl rfl)
  obtain ⟨tn, rfl, rfl, rfl, htw⟩ := open_int Tryd.underlying3 (hval 6 3 v6 rfl rfl) t6
  obtain ⟨cs, rfl, hcs⟩ : ∃ cs, v5 = .agg cs ∧ cs.size = Tryd.prog.cellsOf 24 := by
    have h := hval 5 24 v5 rfl rfl
    simp only [Value.okWide, Tryd.underlying24] at h
    obtain ⟨cs, h1, h2, _⟩ := h
    exact ⟨cs, h1, h2⟩
  obtain ⟨f5, hf5⟩ := t5
  obtain ⟨r, hrl, hr⟩ := open_hash hf5
  obtain rfl : cs = brow r := Array.ext' (by simpa [brow, Value.cells] using hr)
  obtain ⟨L, hLst, hsm, hnl⟩ := lst_in t0 hsz rfl rfl
  obtain ⟨ph, hHst, hnp⟩ := hashes_in (j := 4) t4 hsz rfl rfl
  have hs1 := sized_string hsz (j := 2) (t := 9) rfl rfl
  have hs2 : s.size ≤ 140737488354900 := by rw [size_toList] at hs1; have : reachBytes = 140737488351232 := rfl; omega
  have hmin : IntKind.i64.min = -9223372036854775808 := rfl
  have hib : IntKind.i64.min ≤ i ∧ i ≤ 9223372036854775807 := by simpa [Lit.wf] using hiw
  have hnb : IntKind.i64.min ≤ n ∧ n ≤ 9223372036854775807 := by simpa [Lit.wf] using hnw
  have htb : IntKind.i64.min ≤ tn ∧ tn ≤ 9223372036854775807 := by simpa [Lit.wf] using htw
  obtain ⟨hT, hz⟩ := table_of hL
  have hC := proofs_law L al nl cl i s n ph ap np cp r tn W hLst hsm hnl (by omega) hib.2 hs2 (by omega) hnb.2 hHst hnp hrl (by omega) htb.2 hT hz
  have hlt : ∀ x ∈ p0 ++ ([] ++ ([] ++ ([] ++ (p4 ++ (p5 ++ ([] ++ [])))))), x.block < W.heap.size := fun x hx => by simpa using hW'.lt x (by simpa using hx)
  clear hA0 hval0 hsz0 hsz
  refine hC.mono fun e W' ⟨he, hke⟩ => ?_
  subst he
  refine ⟨_, rfl, _, _, _, [], p0 ++ ([] ++ ([] ++ ([] ++ (p4 ++ (p5 ++ ([] ++ [])))))), [], hW', ?_, ?_, rfl, hke.frame _, fun h => by cases h⟩
  · exact trodAll_mk1 (shut_bool Tryd.underlying4 _)
  · exact hke.trodAll (by
      have hall : ([30, 3, 9, 3, 41, 24, 3].all fun u => Tryd.prog.readableRec u && decide (u < Tryd.prog.types.size)) = true := by kernel_rfl
      intro t ht
      have := List.all_eq_true.1 hall t ht
      simpa using this) hAk hlt

theorem proofs_row : Rows.ProofsSaid :=
  OpenClaim.holds_of_wide 5 Tryd.f5 rfl rfl rfl rfl rfl rfl rfl ⟨rfl, rfl, rfl, rfl, rfl⟩ rfl rfl rfl rfl rfl (by kernel_rfl) Tryd.func5 (by kernel_rfl)
    (of_decide_eq_true (by kernel_rfl)) (by unfold Func.isWrapper; first | (rw [if_pos (by decide +kernel)]; kernel_rfl) | (rw [if_neg (by decide +kernel)]; exact ⟨rfl, rfl⟩))
    (fun os started H enc _ => proofs_lifted os started H enc)

theorem proofs_holds : Rows.ProofsCardSaid :=
  Claim7.holds_tied_plain_at .later [] [.data] true (true, "bf9403f0a60a408586b64f445051796487f8ea1f030b8d697ed0650ec99e990e") false
    proofs_row (fun _ h => by cases h) (by kernel_rfl) (fun _ h => by cases h) proofs_row_tie rfl ⟨rfl, rfl⟩ (by kernel_rfl) rfl
    (fun f fn hf hfn => by
      obtain rfl : f = 5 := Option.some.inj ((show Tryd.prog.funcNamed "bailey/baileylaw.Proofs" = some 5 by kernel_rfl).symm.trans hf) |>.symm
      obtain rfl : fn = Tryd.f5 := (Option.some.inj (Tryd.func5.symm.trans hfn)).symm
      exact ⟨by kernel_rfl, fun j t ht => by
        rw [Tryd.params5] at ht
        have hm : t ∈ [30, 3, 9, 3, 41, 24, 3] := by simpa using Array.mem_of_getElem? ht
        have hall : ([30, 3, 9, 3, 41, 24, 3].all fun u => !Tryd.prog.wantsStandIn u) = true := by kernel_rfl
        exact (show Tryd.prog.wantsStandIn t = false by simpa using List.all_eq_true.1 hall t hm)⟩)
    (by kernel_rfl)
#print axioms proofs_holds
end Go.Proofs.YtfodibjlldmnpaaDoor
