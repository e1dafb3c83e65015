/-
  Cwalk, Cents, Cver, Cvfy, joined.
-/
import Derived.Test.YtfodibjlldmnpaaDoorJCentry
import Derived.Test.YtfodibjlldmnpaaDoorJLvfy
import Derived.Test.YtfodibjlldmnpaaDoorJHsame
/-
  The code's walk over a log.
-/
namespace Go.Proofs.YtfodibjlldmnpaaDoor
open Go.RowKit

/-- Whether an entry is bound to those ahead of it. -/
def bnd (x : ByteArray) (E : List ByteArray) : Bool := decide (x.data.toList.take 32 = hashAt E E.length) && decide (numOf (x.extract 32 36).data.toList = E.length)
theorem frOk_two {s : ByteArray} (h : frOk s = true) : 2 ≤ s.size ∧ 2 + frSize s ≤ s.size ∧ fitsB (frEnt s) = true := by
  simpa only [frOk, Bool.and_eq_true, decide_eq_true_eq, and_assoc] using h
/-- What walk finds of the log that is left, behind the entries E. -/
def walkF (s : ByteArray) (E : List ByteArray) : List ByteArray × Int :=
  if _h0 : s.size = 0 then (E, 0)
  else if _h1 : frOk s = true then (if bnd (frEnt s) E then walkF (lf s (2 + frSize s)) (E ++ [frEnt s]) else (E, 9))
  else (E, 1)
termination_by s.size
decreasing_by rw [lf_size]; omega
theorem walkF_end {s : ByteArray} {E : List ByteArray} (h : s.size = 0) : walkF s E = (E, 0) := by rw [walkF, dif_pos h]
theorem walkF_form {s : ByteArray} {E : List ByteArray} (h : s.size ≠ 0) (h1 : frOk s = false) : walkF s E = (E, 1) := by rw [walkF, dif_neg h, dif_neg (by rw [h1]; simp)]
theorem walkF_chain {s : ByteArray} {E : List ByteArray} (h : s.size ≠ 0) (h1 : frOk s = true) (h2 : bnd (frEnt s) E = false) : walkF s E = (E, 9) := by rw [walkF, dif_neg h, dif_pos h1, if_neg (by rw [h2]; simp)]
theorem walkF_next {s : ByteArray} {E : List ByteArray} (h : s.size ≠ 0) (h1 : frOk s = true) (h2 : bnd (frEnt s) E = true) : walkF s E = walkF (lf s (2 + frSize s)) (E ++ [frEnt s]) := by rw [walkF, dif_neg h, dif_pos h1, if_pos h2]

theorem Table.kept {w wr : World} {B : Nat} (h : Table w) (hb : Kept B w wr) (hz : 0 < B) : Table wr := fun k hk => (hb.cell (p := ⟨0, k, none⟩) hz).trans (h k hk)
structure Wk (w : World) (E : List ByteArray) (v : Value) (wr : World) : Prop where
  own : wr.ownsRow w.heap.size 144 33 v E.length (seals E)
  kept : Kept w.heap.size w wr
  t : Table wr
  z : 0 < w.heap.size
theorem Wk.next {w : World} {E : List ByteArray} {v : Value} {wr wx : World} (h : Wk w E v wr) (hk : Kept wr.heap.size wr wx) : Wk w E v wx :=
  ⟨own_kept h.own hk, h.kept.trans (hk.mono h.kept.size), h.t.kept hk (Nat.lt_of_lt_of_le h.z h.kept.size), h.z⟩
/-- What walk's end says. -/
def wkEnd (s : ByteArray) (w : World) (e : Ending) (w' : World) : Prop :=
  ∃ v, e = .returned (.tuple #[v, .int .i64 (walkF s []).2]) ∧ w'.ownsRow w.heap.size 144 33 v (walkF s []).1.length (seals (walkF s []).1) ∧ Kept w.heap.size w w'
theorem wk_ret {s : ByteArray} {w : World} {E : List ByteArray} {v : Value} {wr : World} {tmps : Array Value} {err : Int} (h : Wk w E v wr) (hwf : walkF s [] = (E, err)) (h4 : tmps.getD 4 undef = v) (h5 : tmps.getD 5 undef = .int .i64 err) :
    bodyPost Tryd.prog Tryd.f97 (wkEnd s w) .ret { tmps := tmps, defers := [] } wr := by
  have h4' : tmps[4]?.getD undef = v := by simpa using h4
  have h5' : tmps[5]?.getD undef = .int .i64 err := by simpa using h5
  refine bodyPost_ret (v := .tuple #[v, .int .i64 err]) ?_ rfl ⟨v, ?_, ?_, h.kept⟩
  · simp [results, Tryd.results97, h4', h5']
  · rw [hwf]
  · rw [hwf]; exact h.own
theorem put_new {w1 w2 : World} {cs c0 : Array Value} {t : TypeId} (h : Put w1.heap.size cs t (w1.alloc (.cells c0 t)) w2) : Kept w1.heap.size w1 w2 := put_new2 h
theorem wk_link {w1 w2 : World} {L c0 : Array Value} {A : List UInt8} {pl : Nat} (h : Put w1.heap.size L 140 (w1.alloc (.cells c0 140)) w2) (hL : L = linkOf A pl) (hAl : A.length = 32) :
    w2.rangeAt w1.heap.size 0 (blist A) ∧ w2.cell? ⟨w1.heap.size, 32, none⟩ = some (.int .u64 (pl : Int)) := by
  constructor
  · intro j u hu
    have hj : j < (blist A).length := (List.getElem?_eq_some_iff.1 hu).1
    rw [Nat.zero_add, cell_of_row _ _ _ _ _ _ h.row, hL, linkOf, List.getElem?_toArray, List.getElem?_append_left hj]
    exact hu
  · have hl : (blist A).length = 32 := by simp [hAl]
    rw [cell_of_row _ _ _ _ _ _ h.row, hL, linkOf, List.getElem?_toArray, List.getElem?_append_right (by omega), hl]
    rfl
theorem link_kept {w w' : World} {g : Nat} {A : List UInt8} {pl : Nat} (h : w.rangeAt g 0 (blist A) ∧ w.cell? ⟨g, 32, none⟩ = some (.int .u64 (pl : Int))) (hk : Kept w.heap.size w w') : w'.rangeAt g 0 (blist A) ∧ w'.cell? ⟨g, 32, none⟩ = some (.int .u64 (pl : Int)) := by
  have hg : g < w.heap.size := by
    rcases Nat.lt_or_ge g w.heap.size with h1 | h1
    · exact h1
    · have := h.2; simp [World.cell?, Array.getElem?_eq_none h1] at this
  exact ⟨fun j u hu => (hk.cell (p := ⟨g, 0 + j, none⟩) hg).trans (h.1 j u hu), (hk.cell (p := ⟨g, 32, none⟩) hg).trans h.2⟩
theorem hash_snoc (E : List ByteArray) (X : ByteArray) : hashAt (E ++ [X]) (E ++ [X]).length = Sha.digest X.data.toList := by
  rw [List.length_append, List.length_singleton, hashAt, List.getD_eq_getElem?_getD, List.getElem?_append_right (Nat.le_refl _), Nat.sub_self]
  rfl
theorem sealC_one (X : ByteArray) : ∀ u ∈ sealC X, u.oneCell' = true := by
  intro u hu
  rcases List.mem_cons.1 hu with rfl | h
  · rfl
  · obtain ⟨c, _, rfl⟩ := List.mem_map.1 h
    rfl
theorem wk_step {w : World} {E : List ByteArray} {v v' : Value} {X : ByteArray} {O : Obj} {w4 w5 : World} (h : Wk w E v w4) (ho : w5.ownsRow w.heap.size 144 33 v' (E.length + 1) (seals E ++ sealC X)) (hg : (w4.alloc O).grownBy w5 v.ownBlock) : Wk w (E ++ [X]) v' w5 := by
  have hs := h.kept.size
  have hk : Kept w.heap.size w4 w5 := own_grownk ((Kept.refl _ w4).alloc hs _) (h.own.alloc _) hg (by simp; omega)
  refine ⟨?_, h.kept.trans hk, h.t.kept hk h.z, h.z⟩
  rw [seals_app, List.length_append, List.length_singleton]
  simpa [seals] using ho
def szOf : Value → Nat
  | .string x => x.size
  | _ => 0

set_option maxRecDepth 100000 in
set_option maxHeartbeats 4000000 in
theorem walk_go (s : ByteArray) (w : World) (hs : s.size ≤ 140737488355000) (hT : Table w) (hz : 0 < w.heap.size) : Calls Tryd.prog 97 #[.string s, .func (.func 34) #[] #[]] w (wkEnd s w) := by
  obtain ⟨i0, hi0, hz0, hz1, hz2⟩ := info_parts info144
  have HT := hide hT
  clear hT
  go_enter Tryd.func97, Tryd.ntmps97
  go_wp2_with fail
  go_loopw [0, 6] (fun vs vl wr => ∃ (o : Nat) (E : List ByteArray), o ≤ s.size ∧ 137 * E.length ≤ o ∧ vs = .string (lf s o) ∧ Wk w E vl wr ∧ walkF s [] = walkF (lf s o) E) (fun vs _ _ => szOf vs)
  case atStart => exact ⟨0, [], Nat.zero_le _, by simp, by rw [lf_zero], ⟨World.ownsRow_nil _ _ _ _, Kept.refl _ _, unhide HT, hz⟩, by rw [lf_zero]⟩
  case round =>
    obtain ⟨o, E, ho, hE, rfl, hwk, hwf⟩ := hrel
    have HW := hide hwk
    have HF := hide hwf
    clear hwk hwf
    obtain ⟨x, hx⟩ : ∃ x, x = lf s o := ⟨_, rfl⟩
    have hxs : x.size = s.size - o := by rw [hx, lf_size]
    rw [← hx]
    have HX := hide hx
    rw [← hx] at HF
    clear hx
    obtain ⟨D, hD⟩ : ∃ D, D = hashAt E E.length := ⟨_, rfl⟩
    have hDl : D.length = 32 := by rw [hD]; exact hashAt_len _ _
    have HD := hide hD
    clear hD
    have hxt := size_toList x
    by_cases h0 : x.size = 0
    · have hemp : x.toList.isEmpty = true := by
        rw [Lib.toList_data, List.length_eq_zero_iff.1 (show x.data.toList.length = 0 by omega)]; rfl
      have HWF := hide ((unhide HF).trans (walkF_end h0))
      go_wp2_with fail
      exact wk_ret (unhide HW) (unhide HWF) rfl rfl
    have hemp : x.toList.isEmpty = false := by
      rw [Lib.toList_data]
      cases hh : x.data.toList with
      | nil => rw [hh] at hxt; simp at hxt; omega
      | cons a t => rfl
    go_wp2_with fail
    refine (readFrame_go x wr (by omega)).mono ?_
    rintro e1 w1 ⟨hy, hn, hk1⟩
    have HW1 := hide ((unhide HW).next hk1)
    clear hk1 HW
    by_cases hok' : frOk x = false
    · rw [hn hok']
      have HWF := hide ((unhide HF).trans (walkF_form h0 hok'))
      clear hy hn
      go_wp2_with (refine wpList_store_put rfl 140 (.tmp 8) (.tmp 16) rfl w1.heap.size link0 ?_ ?_ 140 link0 ?_ info140 rfl (linkOf_one (List.replicate 32 0) 0) ?_
                   · rfl
                   · rfl
                   · exact heap_alloc_new _ _
                   intro w2 hp2
                   have HW2 := hide ((unhide HW1).next (put_new hp2))
                   clear hp2)
      exact wk_ret (unhide HW2) (unhide HWF) rfl rfl
    have hok : frOk x = true := by simpa using hok'
    rw [hy hok]
    obtain ⟨h2x, h2n, hfit⟩ := frOk_two hok
    clear hy hn hok'
    obtain ⟨X, hX⟩ : ∃ X, X = frEnt x := ⟨_, rfl⟩
    obtain ⟨N, hN⟩ : ∃ N, N = frSize x := ⟨_, rfl⟩
    have hN6 : N < 65536 := by rw [hN]; exact frSize_lt x
    rw [← hN] at h2n
    rw [← hX] at hfit
    have hXs : X.size = N := by rw [hX, frEnt, ← hN, ByteArray.size_extract]; omega
    have hX135 := fitsB_size hfit
    obtain ⟨A, hA⟩ : ∃ A, A = X.data.toList.take 32 := ⟨_, rfl⟩
    obtain ⟨pl, hpl⟩ : ∃ pl, pl = numOf (X.extract 32 36).data.toList := ⟨_, rfl⟩
    have HBN := hide (show bnd (frEnt x) E = (decide (A = D) && decide (pl = E.length)) from by rw [bnd, ← hX, ← hA, ← hpl, unhide HD])
    rw [← hX, ← hA, ← hpl]
    have hAl : A.length = 32 := by rw [hA, List.length_take, size_toList]; omega
    have hpl4 : pl < 4294967296 := by
      have h := numOf_lt (X.extract 32 36).data.toList
      have hl : (X.extract 32 36).data.toList.length ≤ 4 := by rw [size_toList, ByteArray.size_extract]; omega
      have : 256 ^ (X.extract 32 36).data.toList.length ≤ 256 ^ 4 := Nat.pow_le_pow_right (by omega) hl
      rw [hpl]
      omega
    obtain ⟨L, hL⟩ : ∃ L, L = linkOf A pl := ⟨_, rfl⟩
    rw [← hL]
    have hLs : L.size = 33 := by rw [hL]; exact linkOf_size hAl _
    have hL1 : L.all (·.oneCell') = true := by rw [hL]; exact linkOf_one _ _
    have hLi : (Tryd.prog.info? 140).map (·.size) = some L.size := by rw [hLs]; exact info140
    have hLz : link0.size = L.size := by rw [hLs]; rfl
    have HL := hide hL
    have HXN := hide (And.intro hX (And.intro hN (And.intro hfit hok)))
    have HA := hide (And.intro hA hpl)
    clear hL hA hpl hX hN hfit hok
    have hg24 := guard_24
    have hiA : (Tryd.prog.info? 24).map (·.size) = some (blist A).length := by have := rinfo hAl; rwa [brow_size, ← List.length_map (f := fun c : UInt8 => Value.int .u8 (c.toNat : Int))] at this
    have hu24 := Tryd.underlying24
    have heq : ∀ W, (Op.equalIn 10000 24 (.agg (blist A).toArray) (.agg (brow D))).run Tryd.prog W = .ok (A == D) W := fun W => eq_row A D hAl hDl W
    obtain ⟨ao, cap, rfl, hcap, hao⟩ := own_len (unhide HW1).own
    have hwl : IntKind.u64.wrap (E.length : Int) = (E.length : Int) := by simp [IntKind.wrap, IntKind.bits, IntKind.signed]; omega
    go_wp2_with (refine wpList_store_put rfl 140 (.tmp 8) (.tmp 16) rfl w1.heap.size L ?_ ?_ 140 link0 ?_ hLi hLz hL1 ?_
                 · rfl
                 · rfl
                 · exact heap_alloc_new _ _
                 intro w2 hp2
                 have HW2 := hide ((unhide HW1).next (put_new hp2))
                 have HP2 := hide (wk_link hp2 (unhide HL) hAl)
                 clear hp2)
    have HW2d := hide (show Wk w E (.slice ao E.length cap) w2.drew from (unhide HW2).next ((Kept.refl _ _).draws 1))
    have hS : w2.drew.rangeAt w1.heap.size 0 (blist A) ∧ w2.drew.cell? ⟨w1.heap.size, 32, none⟩ = some (.int .u64 (pl : Int)) := unhide HP2
    have hEb : E.length < 9223372036854775808 := by omega
    by_cases hAD : A = D
    · have hbq : (A == D) = true := by rw [hAD]; simp
      rw [hbq] at heq
      have HBN2 := hide (show bnd (frEnt x) E = decide (pl = E.length) from by rw [unhide HBN, decide_eq_true hAD, Bool.true_and])
      clear hbq hAD
      by_cases hpE : pl = E.length
      · have hpI : (pl : Int) = (E.length : Int) := by omega
        have HWF := hide ((unhide HF).trans (walkF_next h0 (unhide HXN).2.2.2 (by rw [unhide HBN2, decide_eq_true hpE])))
        clear hpE
        go_region_held3 (fun w' => w'.rangeAt w1.heap.size 0 (blist A) ∧ w'.cell? ⟨w1.heap.size, 32, none⟩ = some (.int .u64 (pl : Int))) (first | assumption | exact hS3) (first
          | (go_at_call 98; (refine (headOf_go (.slice ao E.length cap) w.heap.size E w2.drew (unhide HW2d).own hEb).mono ?_; rintro e w3 ⟨rfl, hk3⟩; rw [← (unhide HD)]; have HW3 := hide ((unhide HW2d).next hk3); have hS3 := link_kept hS hk3; clear hk3)))
        all_goals
          go_wp2_with fail
          refine (of_go X w3 (by omega) (unhide HW3).t (Nat.lt_of_lt_of_le hz (unhide HW3).kept.size)).mono ?_
          rintro _ w4 ⟨rfl, hb4⟩
          have HW4 := hide ((unhide HW3).next (.of hb4))
          clear hb4
          obtain ⟨G, hG⟩ : ∃ G, G = Sha.digest X.data.toList := ⟨_, rfl⟩
          have hGl : G.length = 32 := by rw [hG]; exact Sha.digest_length _
          rw [← hG]
          have hGs : (brow G).size = 32 := by rw [brow_size, hGl]
          obtain ⟨Y, hY⟩ : ∃ Y, Y = sealA X G := ⟨_, rfl⟩
          have hYs : Y.size = 33 := by rw [hY]; exact sealA_size hGl
          have hf1 := fold_seal1 X hGl
          rw [← hY] at hf1
          have hf2 := fold_seal2 hYs
          have HY := hide (show Y = (sealC X).toArray from by rw [hY, hG]; rfl)
          have HG := hide hG
          clear hG hY
          go_wp2_with (refine wpList_halt2 (.tmp 35) (.tmp 41) 125 rfl ?_)
          refine Stp.mk ?_
          refine wpList_append_own _ ?_ (.tmp 35) (.tmp 41) 125 ?_ w.heap.size 144 i0 _ 33 48 Tryd.underlying125 hi0 hz0 hz1 hz2 ?_ (by decide) (.slice ao E.length cap) E.length (seals E) ?_ ?_ ⟨w4.heap.size, 0, none⟩ 1 1 (sealC X) ?_ ?_ ?_ ?_ ?_ ?_ ?_ ?_
          · rfl
          · rfl
          · rfl
          · rfl
          · exact (unhide HW4).own.alloc _
          · rfl
          · rw [sealC_len]
          · exact news_any (by rw [unhide HY])
          · exact sealC_one X
          · unfold maxLen; omega
          · omega
          · have := (unhide HW4).kept.size; simp; omega
          intro v' w5 hown5 hgrow _
          have HW5 := hide (wk_step (unhide HW4) hown5 hgrow)
          clear hown5 hgrow
          simp only [Act.put, List.setIfInBounds_toArray, List.set_cons_zero, List.set_cons_succ]
          have hI1 : (2 : Int) + (X.size : Int) ≤ (x.size : Int) := by omega
          have hI2 : ((2 : Int) + (X.size : Int)).toNat = 2 + X.size := by omega
          go_wp2_with fail
          go_roundw
          case rel =>
            have hnx : x.extract (2 + N) (s.size - o) = lf s (o + 2 + N) := by
              rw [← hxs, unhide HX, lf_next, Nat.add_assoc]
            refine ⟨o + 2 + N, E ++ [X], by omega, by simp; omega, by rw [hnx], unhide HW5, ?_⟩
            rw [unhide HWF, ← (unhide HXN).1, ← (unhide HXN).2.1, ← hnx, ← hxs]
          case measure =>
            show (x.extract (2 + N) (s.size - o)).size < x.size
            rw [ByteArray.size_extract]
            omega
      · have hpI : ¬ (pl : Int) = (E.length : Int) := by omega
        have HWF := hide ((unhide HF).trans (walkF_chain h0 (unhide HXN).2.2.2 (by rw [unhide HBN2, decide_eq_false hpE])))
        go_region_held3 (fun w' => w'.rangeAt w1.heap.size 0 (blist A) ∧ w'.cell? ⟨w1.heap.size, 32, none⟩ = some (.int .u64 (pl : Int))) (first | assumption | exact hS3) (first
          | (go_at_call 98; (refine (headOf_go (.slice ao E.length cap) w.heap.size E w2.drew (unhide HW2d).own hEb).mono ?_; rintro e w3 ⟨rfl, hk3⟩; rw [← (unhide HD)]; have HW3 := hide ((unhide HW2d).next hk3); have hS3 := link_kept hS hk3; clear hk3)))
        all_goals
          go_wp2_with fail
          exact wk_ret (unhide HW3) (unhide HWF) rfl rfl
    · have hbq : (A == D) = false := by simpa using hAD
      rw [hbq] at heq
      have HWF := hide ((unhide HF).trans (walkF_chain h0 (unhide HXN).2.2.2 (by rw [unhide HBN, decide_eq_false hAD]; rfl)))
      refine wp_region_held_drew (S := fun w' => w'.rangeAt w1.heap.size 0 (blist A)) (by kernel_rfl) (hS.1) (fun hHeld => ?_)
      refine wpAnyH_take (i := 0) (oi := { dst := some 21, op := Op.fieldAddr 140 (Operand.tmp 8) 0, type := 0, pos := "chain.go:84", after := #[], guard := none }) (v := .pointer (some ⟨w1.heap.size, 0, none⟩)) rfl (by kernel_rfl) (by kernel_rfl) (by kernel_rfl) (fun _ _ _ h => h) (Or.inl ⟨by kernel_rfl, fun W hW => by go_simp⟩) hHeld ?_
      simp only [Act.put, List.setIfInBounds_toArray, List.set_cons_zero, List.set_cons_succ]
      refine wpAnyH_take (i := 1) (oi := { dst := some 22, op := Op.load 24 (Operand.tmp 21), type := 24, pos := "chain.go:84", after := #[{ on := 0, ground := Ground.data }], guard := none }) (v := .agg (blist A).toArray) rfl (by kernel_rfl) (by kernel_rfl) (by kernel_rfl) (fun _ _ _ h => h) (yieldsIf_load_mid (by kernel_rfl) 24 (.tmp 21) rfl w1.heap.size 0 rfl (blist A) _ (fun _ hw => hw) Tryd.underlying24 rfl hiA) hHeld ?_
      simp only [Act.put, List.setIfInBounds_toArray, List.set_cons_zero, List.set_cons_succ]
      refine wpAnyH_take (i := 2) (oi := { dst := some 23, op := Op.move (Operand.tmp 6), type := 125, pos := "chain.go:84", after := #[], guard := none }) (v := .slice ao E.length cap) rfl (by kernel_rfl) (by kernel_rfl) (by kernel_rfl) (fun _ _ _ h => h) (Or.inl ⟨by kernel_rfl, fun W hW => by go_simp⟩) hHeld ?_
      simp only [Act.put, List.setIfInBounds_toArray, List.set_cons_zero, List.set_cons_succ]
      refine wpAnyH_ready (rs := [3]) (by kernel_rfl) (by simp) ?_
      refine AllReadyH.cons (o := { dst := some 24, op := Op.call { callee := Callee.value (Operand.func 98), args := #[Operand.tmp 23], argTypes := #[125] }, type := 24, pos := "chain.go:84", after := #[{ on := 2, ground := Ground.data }], guard := none }) rfl (fun K hK => ?_) AllReadyH.nil
      refine ite_wanted ?_ ?_
      · kernel_rfl
      go_simp
      refine (headOf_go (.slice ao E.length cap) w.heap.size E w2.drew (unhide HW2d).own hEb).mono ?_
      rintro e w3 ⟨rfl, hk3⟩
      rw [← (unhide HD)]
      have HW3 := hide ((unhide HW2d).next hk3)
      have hS3 := link_kept hS hk3
      clear hk3
      show K _ w3
      refine hK.out _ _ (hS3.1) (fun hHeld3 => ?_)
      clear hK K
      try simp only [Act.put, List.setIfInBounds_toArray, List.set_cons_zero, List.set_cons_succ]
      refine wpAnyH_take (i := 4) (oi := { dst := some 25, op := Op.binOp BinOp.neq 24 (Operand.tmp 22) (Operand.tmp 24) 24, type := 4, pos := "chain.go:84", after := #[{ on := 1, ground := Ground.data }, { on := 3, ground := Ground.data }], guard := none }) (v := .bool true) rfl (by kernel_rfl) (by kernel_rfl) (by kernel_rfl) (fun _ _ _ h => h) (Or.inl ⟨by kernel_rfl, fun W hW => by go_simp⟩) hHeld3 ?_
      simp only [Act.put, List.setIfInBounds_toArray, List.set_cons_zero, List.set_cons_succ]
      refine wpAnyH_take (i := 5) (oi := { dst := some 26, op := Op.move (Operand.tmp 25), type := 4, pos := "chain.go:84", after := #[{ on := 4, ground := Ground.data }, { on := 3, ground := Ground.chain }], guard := none }) (v := .bool true) rfl (by kernel_rfl) (by kernel_rfl) (by kernel_rfl) (fun _ _ _ h => h) (Or.inl ⟨by kernel_rfl, fun W hW => by go_simp⟩) hHeld3 ?_
      simp only [Act.put, List.setIfInBounds_toArray, List.set_cons_zero, List.set_cons_succ]
      refine wpAnyH_take (i := 6) (oi := { dst := some 27, op := Op.fieldAddr 140 (Operand.tmp 8) 1, type := 0, pos := "chain.go:84", after := #[{ on := 5, ground := Ground.guard }], guard := some (5, false) }) (v := undef) rfl (by kernel_rfl) (by kernel_rfl) (by kernel_rfl) (fun _ _ _ h => h) (Or.inr ⟨by kernel_rfl, rfl⟩) hHeld3 ?_
      simp only [Act.put, List.setIfInBounds_toArray, List.set_cons_zero, List.set_cons_succ]
      refine wpAnyH_take (i := 7) (oi := { dst := some 28, op := Op.load 133 (Operand.tmp 27), type := 133, pos := "chain.go:84", after := #[{ on := 6, ground := Ground.data }, { on := 5, ground := Ground.guard }], guard := some (5, false) }) (v := undef) rfl (by kernel_rfl) (by kernel_rfl) (by kernel_rfl) (fun _ _ _ h => h) (Or.inr ⟨by kernel_rfl, rfl⟩) hHeld3 ?_
      simp only [Act.put, List.setIfInBounds_toArray, List.set_cons_zero, List.set_cons_succ]
      refine wpAnyH_take (i := 8) (oi := { dst := some 29, op := Op.move (Operand.tmp 6), type := 125, pos := "chain.go:84", after := #[{ on := 5, ground := Ground.guard }], guard := some (5, false) }) (v := undef) rfl (by kernel_rfl) (by kernel_rfl) (by kernel_rfl) (fun _ _ _ h => h) (Or.inr ⟨by kernel_rfl, rfl⟩) hHeld3 ?_
      simp only [Act.put, List.setIfInBounds_toArray, List.set_cons_zero, List.set_cons_succ]
      refine wpAnyH_take (i := 9) (oi := { dst := some 30, op := Op.call { callee := Callee.builtin Builtin.len, args := #[Operand.tmp 29], argTypes := #[125] }, type := 3, pos := "chain.go:84", after := #[{ on := 8, ground := Ground.data }, { on := 5, ground := Ground.guard }], guard := some (5, false) }) (v := undef) rfl (by kernel_rfl) (by kernel_rfl) (by kernel_rfl) (fun _ _ _ h => h) (Or.inr ⟨by kernel_rfl, rfl⟩) hHeld3 ?_
      simp only [Act.put, List.setIfInBounds_toArray, List.set_cons_zero, List.set_cons_succ]
      refine wpAnyH_take (i := 10) (oi := { dst := some 31, op := Op.convert 3 133 (Operand.tmp 30), type := 133, pos := "chain.go:84", after := #[{ on := 9, ground := Ground.data }, { on := 5, ground := Ground.guard }], guard := some (5, false) }) (v := undef) rfl (by kernel_rfl) (by kernel_rfl) (by kernel_rfl) (fun _ _ _ h => h) (Or.inr ⟨by kernel_rfl, rfl⟩) hHeld3 ?_
      simp only [Act.put, List.setIfInBounds_toArray, List.set_cons_zero, List.set_cons_succ]
      refine wpAnyH_take (i := 11) (oi := { dst := some 32, op := Op.binOp BinOp.neq 133 (Operand.tmp 28) (Operand.tmp 31) 133, type := 4, pos := "chain.go:84", after := #[{ on := 7, ground := Ground.data }, { on := 10, ground := Ground.data }, { on := 5, ground := Ground.guard }], guard := some (5, false) }) (v := undef) rfl (by kernel_rfl) (by kernel_rfl) (by kernel_rfl) (fun _ _ _ h => h) (Or.inr ⟨by kernel_rfl, rfl⟩) hHeld3 ?_
      simp only [Act.put, List.setIfInBounds_toArray, List.set_cons_zero, List.set_cons_succ]
      refine wpAnyH_take (i := 12) (oi := { dst := some 33, op := Op.pick (Operand.tmp 26) (Operand.const (Value.bool true)) (Operand.tmp 32), type := 4, pos := "chain.go:84", after := #[{ on := 5, ground := Ground.data }, { on := 11, ground := Ground.data }], guard := none }) (v := .bool true) rfl (by kernel_rfl) (by kernel_rfl) (by kernel_rfl) (fun _ _ _ h => h) (Or.inl ⟨by kernel_rfl, fun W hW => by go_simp⟩) hHeld3 ?_
      simp only [Act.put, List.setIfInBounds_toArray, List.set_cons_zero, List.set_cons_succ]
      refine wpAnyH_done (by kernel_rfl) ?_ _
      go_wp2_with fail
      exact wk_ret (unhide HW3) (unhide HWF) rfl rfl
end Go.Proofs.YtfodibjlldmnpaaDoor
/-
  What walk finds, against the reference's entries.
-/
namespace Go.Proofs.YtfodibjlldmnpaaDoor
open Go.RowKit

theorem fr_size_at {s : ByteArray} {o : Nat} (h : o + 2 ≤ s.size) : frSize (lf s o) = sizeAt s o := by rw [frSize, lf_num s h, sizeAt]
theorem fr_ent_at {s : ByteArray} {o : Nat} (h : o + 2 ≤ s.size) (h2 : o + 2 + sizeAt s o ≤ s.size) : frEnt (lf s o) = entAt s o := by
  rw [frEnt, fr_size_at h, lf_cut s (by omega), entAt, Nat.add_assoc]
theorem hash_ahead (E F : List ByteArray) : hashAt (E ++ F) E.length = hashAt E E.length := by
  cases hl : E.length with
  | zero => rfl
  | succ k =>
    rw [hashAt, hashAt, List.getD_eq_getElem?_getD, List.getD_eq_getElem?_getD, List.getElem?_append_left (by omega)]
theorem bound_at (E F : List ByteArray) (X : ByteArray) : bound (E ++ X :: F) E.length = bnd X E := by
  have hX : (E ++ X :: F).getD E.length ByteArray.empty = X := by
    rw [List.getD_eq_getElem?_getD, List.getElem?_append_right (Nat.le_refl _), Nat.sub_self]; rfl
  rw [bound, bnd, hX, hash_ahead]
  congr 1
  have : (X.extract 0 32 = ⟨(hashAt E E.length).toArray⟩) ↔ (X.data.toList.take 32 = hashAt E E.length) := by
    constructor
    · intro h
      have := congrArg (fun z => z.data.toList) h
      simpa [ext_list] using this
    · intro h
      apply Go.WideShapes.bytes_inj
      simpa [ext_list] using h
  exact decide_eq_decide.2 this
/-- What walk finds, as the reference tells it. -/
def walkR (F : List ByteArray) (all : Bool) (i : Nat) : List ByteArray × Int :=
  match loose F i with
  | some k => (F.take k, 9)
  | none => (F, if all then 0 else 1)
theorem walk_ents (s : ByteArray) : ∀ (m o : Nat) (E : List ByteArray), s.size - o ≤ m → walkF (lf s o) E = walkR (E ++ (ents s o).1) (ents s o).2 E.length := by
  intro m
  induction m with
  | zero =>
    intro o E hm
    rw [walkF_end (by rw [lf_size]; omega), ents_end (by omega), walkR, List.append_nil, loose_end (by omega)]
    rfl
  | succ m ih =>
    intro o E hm
    by_cases h0 : o < s.size
    · have hz : (lf s o).size ≠ 0 := by rw [lf_size]; omega
      have hbad : frOk (lf s o) = false → ents s o = ([], false) → walkF (lf s o) E = walkR (E ++ (ents s o).1) (ents s o).2 E.length := fun h1 h2 => by
        rw [walkF_form hz h1, h2, walkR, List.append_nil, loose_end (by omega)]
        rfl
      by_cases h2 : s.size < o + 2
      · refine hbad ?_ (ents_short h0 h2)
        rw [frOk, decide_eq_false (show ¬ 2 ≤ (lf s o).size by rw [lf_size]; omega)]; rfl
      · have hsz := fr_size_at (s := s) (o := o) (by omega)
        by_cases h3 : s.size < o + 2 + sizeAt s o
        · refine hbad ?_ (ents_long h0 h2 h3)
          rw [frOk, hsz, decide_eq_false (show ¬ 2 + sizeAt s o ≤ (lf s o).size by rw [lf_size]; omega), Bool.and_false]; rfl
        · have hen := fr_ent_at (s := s) (o := o) (by omega) (by omega)
          by_cases h4 : fitsB (entAt s o) = true
          · have hok : frOk (lf s o) = true := by
              rw [frOk, hsz, hen, h4, decide_eq_true (show 2 ≤ (lf s o).size by rw [lf_size]; omega), decide_eq_true (show 2 + sizeAt s o ≤ (lf s o).size by rw [lf_size]; omega)]; rfl
            rw [ents_next h0 h2 h3 h4]
            have hb := bound_at E (ents s (o + 2 + sizeAt s o)).1 (entAt s o)
            have hl : E.length < (E ++ entAt s o :: (ents s (o + 2 + sizeAt s o)).1).length := by simp
            by_cases h5 : bnd (entAt s o) E = true
            · rw [walkF_next hz hok (by rw [hen]; exact h5), hsz, hen, show lf (lf s o) (2 + sizeAt s o) = lf s (o + 2 + sizeAt s o) from by rw [show o + 2 + sizeAt s o = o + (2 + sizeAt s o) by omega]; exact lf_next s o (2 + sizeAt s o), ih _ _ (by omega), walkR, walkR]
              rw [loose_next hl (hb.trans h5)]
              simp
            · have h5' : bnd (entAt s o) E = false := by simpa using h5
              rw [walkF_chain hz hok (by rw [hen]; exact h5'), walkR, loose_some hl (hb.trans h5')]
              simp
          · refine hbad ?_ (ents_bad h0 h2 h3 h4)
            rw [frOk, hen, show fitsB (entAt s o) = false by simpa using h4, Bool.and_false]
    · rw [walkF_end (by rw [lf_size]; omega), ents_end h0, walkR, List.append_nil, loose_end (by omega)]
      rfl
theorem walk_all (s : ByteArray) : walkF s [] = walkR (ents s 0).1 (ents s 0).2 0 := by
  have := walk_ents s s.size 0 [] (by omega)
  rwa [lf_zero] at this
end Go.Proofs.YtfodibjlldmnpaaDoor
/-
  The code's Verify.
-/
namespace Go.Proofs.YtfodibjlldmnpaaDoor
open Go.RowKit

/-- What chain.Verify answers. -/
def verF (s : ByteArray) (n : Int) (H : List UInt8) : Int :=
  if (walkF s []).2 = 0 ∧ ¬ (((walkF s []).1.length : Int) = n ∧ hashAt (walkF s []).1 (walkF s []).1.length = H) then 9 else (walkF s []).2
theorem ver_kept {w w1 w2 : World} {H : List UInt8} (h : Kept w.heap.size w w1 ∧ w1.heap[w.heap.size]? = some (.cells (brow H) 24 (0, 0))) (hk : Kept w1.heap.size w1 w2) : Kept w.heap.size w w2 ∧ w2.heap[w.heap.size]? = some (.cells (brow H) 24 (0, 0)) :=
  ⟨h.1.trans (hk.mono h.1.size), (hk.block _ (Array.getElem?_eq_some_iff.1 h.2).1).trans h.2⟩
theorem ver_range {w w1 : World} {H : List UInt8} (h : Kept w.heap.size w w1 ∧ w1.heap[w.heap.size]? = some (.cells (brow H) 24 (0, 0))) : w1.rangeAt w.heap.size 0 (blist H) := fun j u hu => by
  rw [Nat.zero_add, cell_of_row _ _ _ _ _ _ h.2]; simpa [brow] using hu
theorem own_max {w : World} {B : Nat} {e : TypeId} {z : Nat} {v : Value} {n : Nat} {xs : List Value} (h : w.ownsRow B e z v n xs) : n ≤ maxLen := by
  rcases h.2 with ⟨_, h0⟩ | ⟨g, cap, cur, rfl, h1, h2, h3, h4, _⟩
  · omega
  · omega
set_option maxRecDepth 100000 in
set_option maxHeartbeats 4000000 in
theorem cverify_go (s : ByteArray) (n : Int) (H : List UInt8) (w : World) (hs : s.size ≤ 140737488355000) (hH : H.length = 32) (hT : Table w) (hz : 0 < w.heap.size) :
    Calls Tryd.prog 58 #[.string s, .int .i64 n, .agg (brow H)] w fun e w' => e = .returned (.tuple #[.int .i64 (verF s n H), .int .i64 (walkF s []).1.length]) ∧ Kept w.heap.size w w' := by
  obtain ⟨F, hF⟩ : ∃ F, F = (walkF s []).1 := ⟨_, rfl⟩
  obtain ⟨err, herr⟩ : ∃ err, err = (walkF s []).2 := ⟨_, rfl⟩
  obtain ⟨D, hD⟩ : ∃ D, D = hashAt F F.length := ⟨_, rfl⟩
  have hDl : D.length = 32 := by rw [hD]; exact hashAt_len _ _
  have HV := hide (show verF s n H = if err = 0 ∧ ¬ ((F.length : Int) = n ∧ D = H) then 9 else err from by rw [verF, ← hF, ← herr, hD])
  have HF := hide (And.intro hF herr)
  have HT := hide hT
  have HD := hide hD
  have hg24 := guard_24
  have hiH : (Tryd.prog.info? 24).map (·.size) = some (blist H).length := by have := rinfo hH; rwa [brow_size, ← List.length_map (f := fun c : UInt8 => Value.int .u8 (c.toNat : Int))] at this
  have heq : ∀ W, (Op.equalIn 10000 24 (.agg (brow D)) (.agg (blist H).toArray)).run Tryd.prog W = .ok (D == H) W := fun W => eq_row D H hDl hH W
  clear hF herr hT hD
  go_enter Tryd.func58, Tryd.ntmps58
  go_wp2_with fail
  have hk0 : Kept w.heap.size w (w.alloc (.cells (brow H) 24)) := (Kept.refl _ _).alloc (Nat.le_refl _) _
  refine (walk_go s _ hs ((unhide HT).kept hk0 hz) (by simp)).mono ?_
  rintro _ w1 ⟨v, rfl, hown, hk1⟩
  rw [← (unhide HF).2]
  rw [← (unhide HF).1] at hown
  have H1 : Hid (Kept w.heap.size w w1.drew ∧ w1.drew.heap[w.heap.size]? = some (.cells (brow H) 24 (0, 0))) := hide ⟨(hk0.trans (hk1.mono (by simp))).draws 1, (hk1.block _ (by simp)).trans (heap_alloc_new _ _)⟩
  obtain ⟨ao, cap, rfl, hcap, hao⟩ := own_len hown
  have HO : Hid (w1.drew.ownsRow (w.alloc (.cells (brow H) 24)).heap.size 144 33 (.slice ao F.length cap) F.length (seals F)) := hide (own_kept hown ((Kept.refl _ _).draws 1))
  have hFl : F.length < 9223372036854775808 := Nat.lt_of_le_of_lt (own_max hown) (by decide)
  clear hown hk1 hk0 hcap hao
  go_wp2_with fail
  by_cases he : err = 0
  · subst he
    by_cases hl : (F.length : Int) = n
    · subst hl
      by_cases hDH : D = H
      · have hbq : (D == H) = true := by rw [hDH]; simp
        rw [hbq] at heq
        have HDH := hide hDH
        clear hbq hDH
        refine wp_region_held_drew (S := fun w' => w'.rangeAt w.heap.size 0 (blist H)) (by kernel_rfl) (ver_range (unhide H1)) (fun hHeld => ?_)
        refine wpAnyH_take (i := 0) (oi := { dst := some 15, op := Op.move (Operand.tmp 9), type := 49, pos := "chain.go:38", after := #[], guard := none }) (v := .int .i64 0) rfl (by kernel_rfl) (by kernel_rfl) (by kernel_rfl) (fun _ _ _ h => h) (Or.inl ⟨by kernel_rfl, fun W hW => by go_simp⟩) hHeld ?_
        simp only [Act.put, List.setIfInBounds_toArray, List.set_cons_zero, List.set_cons_succ]
        refine wpAnyH_take (i := 1) (oi := { dst := some 16, op := Op.binOp BinOp.eql 49 (Operand.tmp 15) (Operand.const (Value.int IntKind.i64 0)) 49, type := 4, pos := "chain.go:38", after := #[{ on := 0, ground := Ground.data }], guard := none }) (v := .bool true) rfl (by kernel_rfl) (by kernel_rfl) (by kernel_rfl) (fun _ _ _ h => h) (Or.inl ⟨by kernel_rfl, fun W hW => by go_simp⟩) hHeld ?_
        simp only [Act.put, List.setIfInBounds_toArray, List.set_cons_zero, List.set_cons_succ]
        refine wpAnyH_take (i := 2) (oi := { dst := some 17, op := Op.move (Operand.tmp 16), type := 4, pos := "chain.go:38", after := #[{ on := 1, ground := Ground.data }], guard := none }) (v := .bool true) rfl (by kernel_rfl) (by kernel_rfl) (by kernel_rfl) (fun _ _ _ h => h) (Or.inl ⟨by kernel_rfl, fun W hW => by go_simp⟩) hHeld ?_
        simp only [Act.put, List.setIfInBounds_toArray, List.set_cons_zero, List.set_cons_succ]
        refine wpAnyH_take (i := 3) (oi := { dst := some 18, op := Op.move (Operand.tmp 8), type := 125, pos := "chain.go:38", after := #[{ on := 2, ground := Ground.guard }], guard := some (2, true) }) (v := .slice ao F.length cap) rfl (by kernel_rfl) (by kernel_rfl) (by kernel_rfl) (fun _ _ _ h => h) (Or.inl ⟨by kernel_rfl, fun W hW => by go_simp⟩) hHeld ?_
        simp only [Act.put, List.setIfInBounds_toArray, List.set_cons_zero, List.set_cons_succ]
        refine wpAnyH_take (i := 4) (oi := { dst := some 19, op := Op.call { callee := Callee.builtin Builtin.len, args := #[Operand.tmp 18], argTypes := #[125] }, type := 3, pos := "chain.go:38", after := #[{ on := 3, ground := Ground.data }, { on := 2, ground := Ground.guard }], guard := some (2, true) }) (v := .int .i64 F.length) rfl (by kernel_rfl) (by kernel_rfl) (by kernel_rfl) (fun _ _ _ h => h) (Or.inl ⟨by kernel_rfl, fun W hW => by go_simp⟩) hHeld ?_
        simp only [Act.put, List.setIfInBounds_toArray, List.set_cons_zero, List.set_cons_succ]
        refine wpAnyH_take (i := 5) (oi := { dst := some 20, op := Op.move (Operand.tmp 1), type := 3, pos := "chain.go:38", after := #[{ on := 2, ground := Ground.guard }], guard := some (2, true) }) (v := .int .i64 F.length) rfl (by kernel_rfl) (by kernel_rfl) (by kernel_rfl) (fun _ _ _ h => h) (Or.inl ⟨by kernel_rfl, fun W hW => by go_simp⟩) hHeld ?_
        simp only [Act.put, List.setIfInBounds_toArray, List.set_cons_zero, List.set_cons_succ]
        refine wpAnyH_take (i := 6) (oi := { dst := some 21, op := Op.binOp BinOp.neq 3 (Operand.tmp 19) (Operand.tmp 20) 3, type := 4, pos := "chain.go:38", after := #[{ on := 4, ground := Ground.data }, { on := 5, ground := Ground.data }, { on := 2, ground := Ground.guard }], guard := some (2, true) }) (v := .bool false) rfl (by kernel_rfl) (by kernel_rfl) (by kernel_rfl) (fun _ _ _ h => h) (Or.inl ⟨by kernel_rfl, fun W hW => by go_simp⟩) hHeld ?_
        simp only [Act.put, List.setIfInBounds_toArray, List.set_cons_zero, List.set_cons_succ]
        refine wpAnyH_take (i := 7) (oi := { dst := some 22, op := Op.move (Operand.tmp 21), type := 4, pos := "chain.go:38", after := #[{ on := 6, ground := Ground.data }, { on := 2, ground := Ground.chain }, { on := 2, ground := Ground.guard }], guard := some (2, true) }) (v := .bool false) rfl (by kernel_rfl) (by kernel_rfl) (by kernel_rfl) (fun _ _ _ h => h) (Or.inl ⟨by kernel_rfl, fun W hW => by go_simp⟩) hHeld ?_
        simp only [Act.put, List.setIfInBounds_toArray, List.set_cons_zero, List.set_cons_succ]
        refine wpAnyH_take (i := 8) (oi := { dst := some 23, op := Op.move (Operand.tmp 8), type := 125, pos := "chain.go:38", after := #[{ on := 7, ground := Ground.guard }], guard := some (7, false) }) (v := .slice ao F.length cap) rfl (by kernel_rfl) (by kernel_rfl) (by kernel_rfl) (fun _ _ _ h => h) (Or.inl ⟨by kernel_rfl, fun W hW => by go_simp⟩) hHeld ?_
        simp only [Act.put, List.setIfInBounds_toArray, List.set_cons_zero, List.set_cons_succ]
        refine wpAnyH_take (i := 10) (oi := { dst := some 25, op := Op.load 24 (Operand.tmp 5), type := 24, pos := "chain.go:38", after := #[{ on := 7, ground := Ground.guard }], guard := some (7, false) }) (v := .agg (blist H).toArray) rfl (by kernel_rfl) (by kernel_rfl) (by kernel_rfl) (fun _ _ _ h => h) (yieldsIf_load_mid (by kernel_rfl) 24 (.tmp 5) rfl w.heap.size 0 rfl (blist H) _ (fun _ hw => hw) Tryd.underlying24 rfl hiH) hHeld ?_
        simp only [Act.put, List.setIfInBounds_toArray, List.set_cons_zero, List.set_cons_succ]
        refine wpAnyH_ready (rs := [9]) (by kernel_rfl) (by simp) ?_
        refine AllReadyH.cons (o := { dst := some 24, op := Op.call { callee := Callee.value (Operand.func 98), args := #[Operand.tmp 23], argTypes := #[125] }, type := 24, pos := "chain.go:38", after := #[{ on := 8, ground := Ground.data }, { on := 7, ground := Ground.chain }, { on := 7, ground := Ground.guard }], guard := some (7, false) }) rfl (fun K hK => ?_) AllReadyH.nil
        refine ite_wanted ?_ ?_
        · kernel_rfl
        go_simp
        refine (headOf_go (.slice ao F.length cap) _ F w1.drew (unhide HO) hFl).mono ?_
        rintro e w3 ⟨rfl, hk3⟩
        rw [← unhide HD]
        have H3 := hide (ver_kept (unhide H1) hk3)
        clear hk3
        show K _ w3
        refine hK.out _ _ (ver_range (unhide H3)) (fun hHeld9 => ?_)
        clear hK K
        try simp only [Act.put, List.setIfInBounds_toArray, List.set_cons_zero, List.set_cons_succ]
        refine wpAnyH_take (i := 11) (oi := { dst := some 26, op := Op.binOp BinOp.neq 24 (Operand.tmp 24) (Operand.tmp 25) 24, type := 4, pos := "chain.go:38", after := #[{ on := 9, ground := Ground.data }, { on := 10, ground := Ground.data }, { on := 7, ground := Ground.guard }], guard := some (7, false) }) (v := .bool false) rfl (by kernel_rfl) (by kernel_rfl) (by kernel_rfl) (fun _ _ _ h => h) (Or.inl ⟨by kernel_rfl, fun W hW => by go_simp⟩) hHeld9 ?_
        simp only [Act.put, List.setIfInBounds_toArray, List.set_cons_zero, List.set_cons_succ]
        refine wpAnyH_take (i := 12) (oi := { dst := some 27, op := Op.pick (Operand.tmp 22) (Operand.const (Value.bool true)) (Operand.tmp 26), type := 4, pos := "chain.go:38", after := #[{ on := 7, ground := Ground.data }, { on := 11, ground := Ground.data }, { on := 2, ground := Ground.guard }], guard := some (2, true) }) (v := .bool false) rfl (by kernel_rfl) (by kernel_rfl) (by kernel_rfl) (fun _ _ _ h => h) (Or.inl ⟨by kernel_rfl, fun W hW => by go_simp⟩) hHeld9 ?_
        simp only [Act.put, List.setIfInBounds_toArray, List.set_cons_zero, List.set_cons_succ]
        refine wpAnyH_take (i := 13) (oi := { dst := some 28, op := Op.pick (Operand.tmp 17) (Operand.tmp 27) (Operand.const (Value.bool false)), type := 4, pos := "chain.go:38", after := #[{ on := 2, ground := Ground.data }, { on := 12, ground := Ground.data }], guard := none }) (v := .bool false) rfl (by kernel_rfl) (by kernel_rfl) (by kernel_rfl) (fun _ _ _ h => h) (Or.inl ⟨by kernel_rfl, fun W hW => by go_simp⟩) hHeld9 ?_
        simp only [Act.put, List.setIfInBounds_toArray, List.set_cons_zero, List.set_cons_succ]
        refine wpAnyH_done (by kernel_rfl) ?_ _
        go_wp2_with fail
        go_ret2
        exact ⟨by rw [unhide HV, ← (unhide HF).1]; simp [unhide HDH], (unhide H3).1⟩
      · have hbq : (D == H) = false := by simpa using hDH
        rw [hbq] at heq
        clear hbq
        refine wp_region_held_drew (S := fun w' => w'.rangeAt w.heap.size 0 (blist H)) (by kernel_rfl) (ver_range (unhide H1)) (fun hHeld => ?_)
        refine wpAnyH_take (i := 0) (oi := { dst := some 15, op := Op.move (Operand.tmp 9), type := 49, pos := "chain.go:38", after := #[], guard := none }) (v := .int .i64 0) rfl (by kernel_rfl) (by kernel_rfl) (by kernel_rfl) (fun _ _ _ h => h) (Or.inl ⟨by kernel_rfl, fun W hW => by go_simp⟩) hHeld ?_
        simp only [Act.put, List.setIfInBounds_toArray, List.set_cons_zero, List.set_cons_succ]
        refine wpAnyH_take (i := 1) (oi := { dst := some 16, op := Op.binOp BinOp.eql 49 (Operand.tmp 15) (Operand.const (Value.int IntKind.i64 0)) 49, type := 4, pos := "chain.go:38", after := #[{ on := 0, ground := Ground.data }], guard := none }) (v := .bool true) rfl (by kernel_rfl) (by kernel_rfl) (by kernel_rfl) (fun _ _ _ h => h) (Or.inl ⟨by kernel_rfl, fun W hW => by go_simp⟩) hHeld ?_
        simp only [Act.put, List.setIfInBounds_toArray, List.set_cons_zero, List.set_cons_succ]
        refine wpAnyH_take (i := 2) (oi := { dst := some 17, op := Op.move (Operand.tmp 16), type := 4, pos := "chain.go:38", after := #[{ on := 1, ground := Ground.data }], guard := none }) (v := .bool true) rfl (by kernel_rfl) (by kernel_rfl) (by kernel_rfl) (fun _ _ _ h => h) (Or.inl ⟨by kernel_rfl, fun W hW => by go_simp⟩) hHeld ?_
        simp only [Act.put, List.setIfInBounds_toArray, List.set_cons_zero, List.set_cons_succ]
        refine wpAnyH_take (i := 3) (oi := { dst := some 18, op := Op.move (Operand.tmp 8), type := 125, pos := "chain.go:38", after := #[{ on := 2, ground := Ground.guard }], guard := some (2, true) }) (v := .slice ao F.length cap) rfl (by kernel_rfl) (by kernel_rfl) (by kernel_rfl) (fun _ _ _ h => h) (Or.inl ⟨by kernel_rfl, fun W hW => by go_simp⟩) hHeld ?_
        simp only [Act.put, List.setIfInBounds_toArray, List.set_cons_zero, List.set_cons_succ]
        refine wpAnyH_take (i := 4) (oi := { dst := some 19, op := Op.call { callee := Callee.builtin Builtin.len, args := #[Operand.tmp 18], argTypes := #[125] }, type := 3, pos := "chain.go:38", after := #[{ on := 3, ground := Ground.data }, { on := 2, ground := Ground.guard }], guard := some (2, true) }) (v := .int .i64 F.length) rfl (by kernel_rfl) (by kernel_rfl) (by kernel_rfl) (fun _ _ _ h => h) (Or.inl ⟨by kernel_rfl, fun W hW => by go_simp⟩) hHeld ?_
        simp only [Act.put, List.setIfInBounds_toArray, List.set_cons_zero, List.set_cons_succ]
        refine wpAnyH_take (i := 5) (oi := { dst := some 20, op := Op.move (Operand.tmp 1), type := 3, pos := "chain.go:38", after := #[{ on := 2, ground := Ground.guard }], guard := some (2, true) }) (v := .int .i64 F.length) rfl (by kernel_rfl) (by kernel_rfl) (by kernel_rfl) (fun _ _ _ h => h) (Or.inl ⟨by kernel_rfl, fun W hW => by go_simp⟩) hHeld ?_
        simp only [Act.put, List.setIfInBounds_toArray, List.set_cons_zero, List.set_cons_succ]
        refine wpAnyH_take (i := 6) (oi := { dst := some 21, op := Op.binOp BinOp.neq 3 (Operand.tmp 19) (Operand.tmp 20) 3, type := 4, pos := "chain.go:38", after := #[{ on := 4, ground := Ground.data }, { on := 5, ground := Ground.data }, { on := 2, ground := Ground.guard }], guard := some (2, true) }) (v := .bool false) rfl (by kernel_rfl) (by kernel_rfl) (by kernel_rfl) (fun _ _ _ h => h) (Or.inl ⟨by kernel_rfl, fun W hW => by go_simp⟩) hHeld ?_
        simp only [Act.put, List.setIfInBounds_toArray, List.set_cons_zero, List.set_cons_succ]
        refine wpAnyH_take (i := 7) (oi := { dst := some 22, op := Op.move (Operand.tmp 21), type := 4, pos := "chain.go:38", after := #[{ on := 6, ground := Ground.data }, { on := 2, ground := Ground.chain }, { on := 2, ground := Ground.guard }], guard := some (2, true) }) (v := .bool false) rfl (by kernel_rfl) (by kernel_rfl) (by kernel_rfl) (fun _ _ _ h => h) (Or.inl ⟨by kernel_rfl, fun W hW => by go_simp⟩) hHeld ?_
        simp only [Act.put, List.setIfInBounds_toArray, List.set_cons_zero, List.set_cons_succ]
        refine wpAnyH_take (i := 8) (oi := { dst := some 23, op := Op.move (Operand.tmp 8), type := 125, pos := "chain.go:38", after := #[{ on := 7, ground := Ground.guard }], guard := some (7, false) }) (v := .slice ao F.length cap) rfl (by kernel_rfl) (by kernel_rfl) (by kernel_rfl) (fun _ _ _ h => h) (Or.inl ⟨by kernel_rfl, fun W hW => by go_simp⟩) hHeld ?_
        simp only [Act.put, List.setIfInBounds_toArray, List.set_cons_zero, List.set_cons_succ]
        refine wpAnyH_take (i := 10) (oi := { dst := some 25, op := Op.load 24 (Operand.tmp 5), type := 24, pos := "chain.go:38", after := #[{ on := 7, ground := Ground.guard }], guard := some (7, false) }) (v := .agg (blist H).toArray) rfl (by kernel_rfl) (by kernel_rfl) (by kernel_rfl) (fun _ _ _ h => h) (yieldsIf_load_mid (by kernel_rfl) 24 (.tmp 5) rfl w.heap.size 0 rfl (blist H) _ (fun _ hw => hw) Tryd.underlying24 rfl hiH) hHeld ?_
        simp only [Act.put, List.setIfInBounds_toArray, List.set_cons_zero, List.set_cons_succ]
        refine wpAnyH_ready (rs := [9]) (by kernel_rfl) (by simp) ?_
        refine AllReadyH.cons (o := { dst := some 24, op := Op.call { callee := Callee.value (Operand.func 98), args := #[Operand.tmp 23], argTypes := #[125] }, type := 24, pos := "chain.go:38", after := #[{ on := 8, ground := Ground.data }, { on := 7, ground := Ground.chain }, { on := 7, ground := Ground.guard }], guard := some (7, false) }) rfl (fun K hK => ?_) AllReadyH.nil
        refine ite_wanted ?_ ?_
        · kernel_rfl
        go_simp
        refine (headOf_go (.slice ao F.length cap) _ F w1.drew (unhide HO) hFl).mono ?_
        rintro e w3 ⟨rfl, hk3⟩
        rw [← unhide HD]
        have H3 := hide (ver_kept (unhide H1) hk3)
        clear hk3
        show K _ w3
        refine hK.out _ _ (ver_range (unhide H3)) (fun hHeld9 => ?_)
        clear hK K
        try simp only [Act.put, List.setIfInBounds_toArray, List.set_cons_zero, List.set_cons_succ]
        refine wpAnyH_take (i := 11) (oi := { dst := some 26, op := Op.binOp BinOp.neq 24 (Operand.tmp 24) (Operand.tmp 25) 24, type := 4, pos := "chain.go:38", after := #[{ on := 9, ground := Ground.data }, { on := 10, ground := Ground.data }, { on := 7, ground := Ground.guard }], guard := some (7, false) }) (v := .bool true) rfl (by kernel_rfl) (by kernel_rfl) (by kernel_rfl) (fun _ _ _ h => h) (Or.inl ⟨by kernel_rfl, fun W hW => by go_simp⟩) hHeld9 ?_
        simp only [Act.put, List.setIfInBounds_toArray, List.set_cons_zero, List.set_cons_succ]
        refine wpAnyH_take (i := 12) (oi := { dst := some 27, op := Op.pick (Operand.tmp 22) (Operand.const (Value.bool true)) (Operand.tmp 26), type := 4, pos := "chain.go:38", after := #[{ on := 7, ground := Ground.data }, { on := 11, ground := Ground.data }, { on := 2, ground := Ground.guard }], guard := some (2, true) }) (v := .bool true) rfl (by kernel_rfl) (by kernel_rfl) (by kernel_rfl) (fun _ _ _ h => h) (Or.inl ⟨by kernel_rfl, fun W hW => by go_simp⟩) hHeld9 ?_
        simp only [Act.put, List.setIfInBounds_toArray, List.set_cons_zero, List.set_cons_succ]
        refine wpAnyH_take (i := 13) (oi := { dst := some 28, op := Op.pick (Operand.tmp 17) (Operand.tmp 27) (Operand.const (Value.bool false)), type := 4, pos := "chain.go:38", after := #[{ on := 2, ground := Ground.data }, { on := 12, ground := Ground.data }], guard := none }) (v := .bool true) rfl (by kernel_rfl) (by kernel_rfl) (by kernel_rfl) (fun _ _ _ h => h) (Or.inl ⟨by kernel_rfl, fun W hW => by go_simp⟩) hHeld9 ?_
        simp only [Act.put, List.setIfInBounds_toArray, List.set_cons_zero, List.set_cons_succ]
        refine wpAnyH_done (by kernel_rfl) ?_ _
        go_wp2_with fail
        go_ret2
        exact ⟨by rw [unhide HV, ← (unhide HF).1]; simp [hDH], (unhide H3).1⟩
    · skip
      refine wp_region_held_drew (S := fun w' => w'.rangeAt w.heap.size 0 (blist H)) (by kernel_rfl) (ver_range (unhide H1)) (fun hHeld => ?_)
      refine wpAnyH_take (i := 0) (oi := { dst := some 15, op := Op.move (Operand.tmp 9), type := 49, pos := "chain.go:38", after := #[], guard := none }) (v := .int .i64 0) rfl (by kernel_rfl) (by kernel_rfl) (by kernel_rfl) (fun _ _ _ h => h) (Or.inl ⟨by kernel_rfl, fun W hW => by go_simp⟩) hHeld ?_
      simp only [Act.put, List.setIfInBounds_toArray, List.set_cons_zero, List.set_cons_succ]
      refine wpAnyH_take (i := 1) (oi := { dst := some 16, op := Op.binOp BinOp.eql 49 (Operand.tmp 15) (Operand.const (Value.int IntKind.i64 0)) 49, type := 4, pos := "chain.go:38", after := #[{ on := 0, ground := Ground.data }], guard := none }) (v := .bool true) rfl (by kernel_rfl) (by kernel_rfl) (by kernel_rfl) (fun _ _ _ h => h) (Or.inl ⟨by kernel_rfl, fun W hW => by go_simp⟩) hHeld ?_
      simp only [Act.put, List.setIfInBounds_toArray, List.set_cons_zero, List.set_cons_succ]
      refine wpAnyH_take (i := 2) (oi := { dst := some 17, op := Op.move (Operand.tmp 16), type := 4, pos := "chain.go:38", after := #[{ on := 1, ground := Ground.data }], guard := none }) (v := .bool true) rfl (by kernel_rfl) (by kernel_rfl) (by kernel_rfl) (fun _ _ _ h => h) (Or.inl ⟨by kernel_rfl, fun W hW => by go_simp⟩) hHeld ?_
      simp only [Act.put, List.setIfInBounds_toArray, List.set_cons_zero, List.set_cons_succ]
      refine wpAnyH_take (i := 3) (oi := { dst := some 18, op := Op.move (Operand.tmp 8), type := 125, pos := "chain.go:38", after := #[{ on := 2, ground := Ground.guard }], guard := some (2, true) }) (v := .slice ao F.length cap) rfl (by kernel_rfl) (by kernel_rfl) (by kernel_rfl) (fun _ _ _ h => h) (Or.inl ⟨by kernel_rfl, fun W hW => by go_simp⟩) hHeld ?_
      simp only [Act.put, List.setIfInBounds_toArray, List.set_cons_zero, List.set_cons_succ]
      refine wpAnyH_take (i := 4) (oi := { dst := some 19, op := Op.call { callee := Callee.builtin Builtin.len, args := #[Operand.tmp 18], argTypes := #[125] }, type := 3, pos := "chain.go:38", after := #[{ on := 3, ground := Ground.data }, { on := 2, ground := Ground.guard }], guard := some (2, true) }) (v := .int .i64 F.length) rfl (by kernel_rfl) (by kernel_rfl) (by kernel_rfl) (fun _ _ _ h => h) (Or.inl ⟨by kernel_rfl, fun W hW => by go_simp⟩) hHeld ?_
      simp only [Act.put, List.setIfInBounds_toArray, List.set_cons_zero, List.set_cons_succ]
      refine wpAnyH_take (i := 5) (oi := { dst := some 20, op := Op.move (Operand.tmp 1), type := 3, pos := "chain.go:38", after := #[{ on := 2, ground := Ground.guard }], guard := some (2, true) }) (v := .int .i64 n) rfl (by kernel_rfl) (by kernel_rfl) (by kernel_rfl) (fun _ _ _ h => h) (Or.inl ⟨by kernel_rfl, fun W hW => by go_simp⟩) hHeld ?_
      simp only [Act.put, List.setIfInBounds_toArray, List.set_cons_zero, List.set_cons_succ]
      refine wpAnyH_take (i := 6) (oi := { dst := some 21, op := Op.binOp BinOp.neq 3 (Operand.tmp 19) (Operand.tmp 20) 3, type := 4, pos := "chain.go:38", after := #[{ on := 4, ground := Ground.data }, { on := 5, ground := Ground.data }, { on := 2, ground := Ground.guard }], guard := some (2, true) }) (v := .bool true) rfl (by kernel_rfl) (by kernel_rfl) (by kernel_rfl) (fun _ _ _ h => h) (Or.inl ⟨by kernel_rfl, fun W hW => by go_simp⟩) hHeld ?_
      simp only [Act.put, List.setIfInBounds_toArray, List.set_cons_zero, List.set_cons_succ]
      refine wpAnyH_take (i := 7) (oi := { dst := some 22, op := Op.move (Operand.tmp 21), type := 4, pos := "chain.go:38", after := #[{ on := 6, ground := Ground.data }, { on := 2, ground := Ground.chain }, { on := 2, ground := Ground.guard }], guard := some (2, true) }) (v := .bool true) rfl (by kernel_rfl) (by kernel_rfl) (by kernel_rfl) (fun _ _ _ h => h) (Or.inl ⟨by kernel_rfl, fun W hW => by go_simp⟩) hHeld ?_
      simp only [Act.put, List.setIfInBounds_toArray, List.set_cons_zero, List.set_cons_succ]
      refine wpAnyH_take (i := 8) (oi := { dst := some 23, op := Op.move (Operand.tmp 8), type := 125, pos := "chain.go:38", after := #[{ on := 7, ground := Ground.guard }], guard := some (7, false) }) (v := undef) rfl (by kernel_rfl) (by kernel_rfl) (by kernel_rfl) (fun _ _ _ h => h) (Or.inr ⟨by kernel_rfl, rfl⟩) hHeld ?_
      simp only [Act.put, List.setIfInBounds_toArray, List.set_cons_zero, List.set_cons_succ]
      refine wpAnyH_take (i := 9) (oi := { dst := some 24, op := Op.call { callee := Callee.value (Operand.func 98), args := #[Operand.tmp 23], argTypes := #[125] }, type := 24, pos := "chain.go:38", after := #[{ on := 8, ground := Ground.data }, { on := 7, ground := Ground.chain }, { on := 7, ground := Ground.guard }], guard := some (7, false) }) (v := undef) rfl (by kernel_rfl) (by kernel_rfl) (by kernel_rfl) (fun _ _ _ h => h) (Or.inr ⟨by kernel_rfl, rfl⟩) hHeld ?_
      simp only [Act.put, List.setIfInBounds_toArray, List.set_cons_zero, List.set_cons_succ]
      refine wpAnyH_take (i := 10) (oi := { dst := some 25, op := Op.load 24 (Operand.tmp 5), type := 24, pos := "chain.go:38", after := #[{ on := 7, ground := Ground.guard }], guard := some (7, false) }) (v := undef) rfl (by kernel_rfl) (by kernel_rfl) (by kernel_rfl) (fun _ _ _ h => h) (Or.inr ⟨by kernel_rfl, rfl⟩) hHeld ?_
      simp only [Act.put, List.setIfInBounds_toArray, List.set_cons_zero, List.set_cons_succ]
      refine wpAnyH_take (i := 11) (oi := { dst := some 26, op := Op.binOp BinOp.neq 24 (Operand.tmp 24) (Operand.tmp 25) 24, type := 4, pos := "chain.go:38", after := #[{ on := 9, ground := Ground.data }, { on := 10, ground := Ground.data }, { on := 7, ground := Ground.guard }], guard := some (7, false) }) (v := undef) rfl (by kernel_rfl) (by kernel_rfl) (by kernel_rfl) (fun _ _ _ h => h) (Or.inr ⟨by kernel_rfl, rfl⟩) hHeld ?_
      simp only [Act.put, List.setIfInBounds_toArray, List.set_cons_zero, List.set_cons_succ]
      refine wpAnyH_take (i := 12) (oi := { dst := some 27, op := Op.pick (Operand.tmp 22) (Operand.const (Value.bool true)) (Operand.tmp 26), type := 4, pos := "chain.go:38", after := #[{ on := 7, ground := Ground.data }, { on := 11, ground := Ground.data }, { on := 2, ground := Ground.guard }], guard := some (2, true) }) (v := .bool true) rfl (by kernel_rfl) (by kernel_rfl) (by kernel_rfl) (fun _ _ _ h => h) (Or.inl ⟨by kernel_rfl, fun W hW => by go_simp⟩) hHeld ?_
      simp only [Act.put, List.setIfInBounds_toArray, List.set_cons_zero, List.set_cons_succ]
      refine wpAnyH_take (i := 13) (oi := { dst := some 28, op := Op.pick (Operand.tmp 17) (Operand.tmp 27) (Operand.const (Value.bool false)), type := 4, pos := "chain.go:38", after := #[{ on := 2, ground := Ground.data }, { on := 12, ground := Ground.data }], guard := none }) (v := .bool true) rfl (by kernel_rfl) (by kernel_rfl) (by kernel_rfl) (fun _ _ _ h => h) (Or.inl ⟨by kernel_rfl, fun W hW => by go_simp⟩) hHeld ?_
      simp only [Act.put, List.setIfInBounds_toArray, List.set_cons_zero, List.set_cons_succ]
      refine wpAnyH_done (by kernel_rfl) ?_ _
      go_wp2_with fail
      go_ret2
      exact ⟨by rw [unhide HV, ← (unhide HF).1]; simp [hl], (unhide H1).1⟩
  · skip
    refine wp_region_held_drew (S := fun w' => w'.rangeAt w.heap.size 0 (blist H)) (by kernel_rfl) (ver_range (unhide H1)) (fun hHeld => ?_)
    refine wpAnyH_take (i := 0) (oi := { dst := some 15, op := Op.move (Operand.tmp 9), type := 49, pos := "chain.go:38", after := #[], guard := none }) (v := .int .i64 err) rfl (by kernel_rfl) (by kernel_rfl) (by kernel_rfl) (fun _ _ _ h => h) (Or.inl ⟨by kernel_rfl, fun W hW => by go_simp⟩) hHeld ?_
    simp only [Act.put, List.setIfInBounds_toArray, List.set_cons_zero, List.set_cons_succ]
    refine wpAnyH_take (i := 1) (oi := { dst := some 16, op := Op.binOp BinOp.eql 49 (Operand.tmp 15) (Operand.const (Value.int IntKind.i64 0)) 49, type := 4, pos := "chain.go:38", after := #[{ on := 0, ground := Ground.data }], guard := none }) (v := .bool false) rfl (by kernel_rfl) (by kernel_rfl) (by kernel_rfl) (fun _ _ _ h => h) (Or.inl ⟨by kernel_rfl, fun W hW => by go_simp⟩) hHeld ?_
    simp only [Act.put, List.setIfInBounds_toArray, List.set_cons_zero, List.set_cons_succ]
    refine wpAnyH_take (i := 2) (oi := { dst := some 17, op := Op.move (Operand.tmp 16), type := 4, pos := "chain.go:38", after := #[{ on := 1, ground := Ground.data }], guard := none }) (v := .bool false) rfl (by kernel_rfl) (by kernel_rfl) (by kernel_rfl) (fun _ _ _ h => h) (Or.inl ⟨by kernel_rfl, fun W hW => by go_simp⟩) hHeld ?_
    simp only [Act.put, List.setIfInBounds_toArray, List.set_cons_zero, List.set_cons_succ]
    refine wpAnyH_take (i := 3) (oi := { dst := some 18, op := Op.move (Operand.tmp 8), type := 125, pos := "chain.go:38", after := #[{ on := 2, ground := Ground.guard }], guard := some (2, true) }) (v := undef) rfl (by kernel_rfl) (by kernel_rfl) (by kernel_rfl) (fun _ _ _ h => h) (Or.inr ⟨by kernel_rfl, rfl⟩) hHeld ?_
    simp only [Act.put, List.setIfInBounds_toArray, List.set_cons_zero, List.set_cons_succ]
    refine wpAnyH_take (i := 4) (oi := { dst := some 19, op := Op.call { callee := Callee.builtin Builtin.len, args := #[Operand.tmp 18], argTypes := #[125] }, type := 3, pos := "chain.go:38", after := #[{ on := 3, ground := Ground.data }, { on := 2, ground := Ground.guard }], guard := some (2, true) }) (v := undef) rfl (by kernel_rfl) (by kernel_rfl) (by kernel_rfl) (fun _ _ _ h => h) (Or.inr ⟨by kernel_rfl, rfl⟩) hHeld ?_
    simp only [Act.put, List.setIfInBounds_toArray, List.set_cons_zero, List.set_cons_succ]
    refine wpAnyH_take (i := 5) (oi := { dst := some 20, op := Op.move (Operand.tmp 1), type := 3, pos := "chain.go:38", after := #[{ on := 2, ground := Ground.guard }], guard := some (2, true) }) (v := undef) rfl (by kernel_rfl) (by kernel_rfl) (by kernel_rfl) (fun _ _ _ h => h) (Or.inr ⟨by kernel_rfl, rfl⟩) hHeld ?_
    simp only [Act.put, List.setIfInBounds_toArray, List.set_cons_zero, List.set_cons_succ]
    refine wpAnyH_take (i := 6) (oi := { dst := some 21, op := Op.binOp BinOp.neq 3 (Operand.tmp 19) (Operand.tmp 20) 3, type := 4, pos := "chain.go:38", after := #[{ on := 4, ground := Ground.data }, { on := 5, ground := Ground.data }, { on := 2, ground := Ground.guard }], guard := some (2, true) }) (v := undef) rfl (by kernel_rfl) (by kernel_rfl) (by kernel_rfl) (fun _ _ _ h => h) (Or.inr ⟨by kernel_rfl, rfl⟩) hHeld ?_
    simp only [Act.put, List.setIfInBounds_toArray, List.set_cons_zero, List.set_cons_succ]
    refine wpAnyH_take (i := 7) (oi := { dst := some 22, op := Op.move (Operand.tmp 21), type := 4, pos := "chain.go:38", after := #[{ on := 6, ground := Ground.data }, { on := 2, ground := Ground.chain }, { on := 2, ground := Ground.guard }], guard := some (2, true) }) (v := undef) rfl (by kernel_rfl) (by kernel_rfl) (by kernel_rfl) (fun _ _ _ h => h) (Or.inr ⟨by kernel_rfl, rfl⟩) hHeld ?_
    simp only [Act.put, List.setIfInBounds_toArray, List.set_cons_zero, List.set_cons_succ]
    refine wpAnyH_take (i := 8) (oi := { dst := some 23, op := Op.move (Operand.tmp 8), type := 125, pos := "chain.go:38", after := #[{ on := 7, ground := Ground.guard }], guard := some (7, false) }) (v := undef) rfl (by kernel_rfl) (by kernel_rfl) (by kernel_rfl) (fun _ _ _ h => h) (Or.inr ⟨by kernel_rfl, rfl⟩) hHeld ?_
    simp only [Act.put, List.setIfInBounds_toArray, List.set_cons_zero, List.set_cons_succ]
    refine wpAnyH_take (i := 9) (oi := { dst := some 24, op := Op.call { callee := Callee.value (Operand.func 98), args := #[Operand.tmp 23], argTypes := #[125] }, type := 24, pos := "chain.go:38", after := #[{ on := 8, ground := Ground.data }, { on := 7, ground := Ground.chain }, { on := 7, ground := Ground.guard }], guard := some (7, false) }) (v := undef) rfl (by kernel_rfl) (by kernel_rfl) (by kernel_rfl) (fun _ _ _ h => h) (Or.inr ⟨by kernel_rfl, rfl⟩) hHeld ?_
    simp only [Act.put, List.setIfInBounds_toArray, List.set_cons_zero, List.set_cons_succ]
    refine wpAnyH_take (i := 10) (oi := { dst := some 25, op := Op.load 24 (Operand.tmp 5), type := 24, pos := "chain.go:38", after := #[{ on := 7, ground := Ground.guard }], guard := some (7, false) }) (v := undef) rfl (by kernel_rfl) (by kernel_rfl) (by kernel_rfl) (fun _ _ _ h => h) (Or.inr ⟨by kernel_rfl, rfl⟩) hHeld ?_
    simp only [Act.put, List.setIfInBounds_toArray, List.set_cons_zero, List.set_cons_succ]
    refine wpAnyH_take (i := 11) (oi := { dst := some 26, op := Op.binOp BinOp.neq 24 (Operand.tmp 24) (Operand.tmp 25) 24, type := 4, pos := "chain.go:38", after := #[{ on := 9, ground := Ground.data }, { on := 10, ground := Ground.data }, { on := 7, ground := Ground.guard }], guard := some (7, false) }) (v := undef) rfl (by kernel_rfl) (by kernel_rfl) (by kernel_rfl) (fun _ _ _ h => h) (Or.inr ⟨by kernel_rfl, rfl⟩) hHeld ?_
    simp only [Act.put, List.setIfInBounds_toArray, List.set_cons_zero, List.set_cons_succ]
    refine wpAnyH_take (i := 12) (oi := { dst := some 27, op := Op.pick (Operand.tmp 22) (Operand.const (Value.bool true)) (Operand.tmp 26), type := 4, pos := "chain.go:38", after := #[{ on := 7, ground := Ground.data }, { on := 11, ground := Ground.data }, { on := 2, ground := Ground.guard }], guard := some (2, true) }) (v := undef) rfl (by kernel_rfl) (by kernel_rfl) (by kernel_rfl) (fun _ _ _ h => h) (Or.inr ⟨by kernel_rfl, rfl⟩) hHeld ?_
    simp only [Act.put, List.setIfInBounds_toArray, List.set_cons_zero, List.set_cons_succ]
    refine wpAnyH_take (i := 13) (oi := { dst := some 28, op := Op.pick (Operand.tmp 17) (Operand.tmp 27) (Operand.const (Value.bool false)), type := 4, pos := "chain.go:38", after := #[{ on := 2, ground := Ground.data }, { on := 12, ground := Ground.data }], guard := none }) (v := .bool false) rfl (by kernel_rfl) (by kernel_rfl) (by kernel_rfl) (fun _ _ _ h => h) (Or.inl ⟨by kernel_rfl, fun W hW => by go_simp⟩) hHeld ?_
    simp only [Act.put, List.setIfInBounds_toArray, List.set_cons_zero, List.set_cons_succ]
    refine wpAnyH_done (by kernel_rfl) ?_ _
    go_wp2_with fail
    go_ret2
    exact ⟨by rw [unhide HV, ← (unhide HF).1]; simp [he], (unhide H1).1⟩
end Go.Proofs.YtfodibjlldmnpaaDoor
/-
  Verify, the code against the reference.
-/
namespace Go.Proofs.YtfodibjlldmnpaaDoor
open Go.RowKit

theorem loose_lt {E : List ByteArray} : ∀ (m i k : Nat), E.length - i ≤ m → loose E i = some k → k < E.length := by
  intro m
  induction m with
  | zero =>
    intro i k hm h
    rw [loose_end (by omega)] at h
    cases h
  | succ m ih =>
    intro i k hm h
    by_cases hi : i < E.length
    · by_cases hb : bound E i = true
      · rw [loose_next hi hb] at h
        exact ih _ _ (by omega) h
      · rw [loose_some hi (by simpa using hb)] at h
        cases h
        exact hi
    · rw [loose_end hi] at h
      cases h
theorem ver_vfy (s : ByteArray) (n : Int) (H : List UInt8) : vfyOf (ents s 0).1 (ents s 0).2 n H = (verF s n H, ((walkF s []).1.length : Int)) := by
  rw [verF, walk_all]
  generalize (ents s 0).1 = E
  generalize (ents s 0).2 = all
  rw [vfyOf, walkR]
  cases hl : loose E 0 with
  | some k =>
    have := loose_lt E.length 0 k (by omega) hl
    have hm : min k E.length = k := by omega
    simp [hm]
  | none =>
    cases all with
    | false => simp
    | true =>
      by_cases h : (E.length : Int) = n ∧ hashAt E E.length = H
      · simp [h]
      · simp [h]

set_option maxRecDepth 100000 in
set_option maxHeartbeats 4000000 in
theorem bailey_verify (s : ByteArray) (n : Int) (H : List UInt8) (w : World) (hs : s.size ≤ 140737488355000) (hH : H.length = 32) (hT : Table w) (hz : 0 < w.heap.size) :
    Calls Tryd.prog 29 #[.string s, .int .i64 n, .agg (brow H)] w fun e w' => e = .returned (.tuple #[.int .i64 (vfyOf (ents s 0).1 (ents s 0).2 n H).1, .int .i64 (vfyOf (ents s 0).1 (ents s 0).2 n H).2]) ∧ Kept w.heap.size w w' := by
  have HV := hide (ver_vfy s n H)
  have HT := hide hT
  clear hT
  go_enter Tryd.func29, Tryd.ntmps29
  go_wp2_with (refine wpList_load_row rfl 24 (.tmp 5) rfl w.heap.size ?_ 24 (brow H) (0, 0) _ ?_ Tryd.underlying24 rfl (rinfo hH) ?_
               · rfl
               · exact heap_alloc_new _ _)
  have hk0 : Kept w.heap.size w (w.alloc (.cells (brow H) 24)) := (Kept.refl _ _).alloc (Nat.le_refl _) _
  refine (cverify_go s n H _ hs hH ((unhide HT).kept hk0 hz) (by simp)).mono ?_
  rintro _ w1 ⟨rfl, hk1⟩
  have HK := hide (show Kept w.heap.size w w1 from hk0.trans (hk1.mono (by simp)))
  clear hk0 hk1
  go_wp2_with fail
  go_ret2
  exact ⟨by rw [unhide HV]; rfl, unhide HK⟩
end Go.Proofs.YtfodibjlldmnpaaDoor
