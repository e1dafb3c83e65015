/-
  Cclone Cclash Cclw
-/
import Derived.Test.YtlbacbcenejngaaGreatDoorH25
import Derived.Lib.UnsafeStr
import Derived.Deep.OwnRows
import Derived.Test.YtlbacbcenejngaaGreatDoorH20
namespace Go.Proofs.YtlbacbcenejngaaGreatDoor
open Go.RowKit
set_option maxRecDepth 100000 in
set_option maxHeartbeats 2000000 in
theorem clone_lite (s : ByteArray) (w : World) (hs : s.size ≤ 140737488355328) : Calls Tryz.prog 95 #[.string s] w fun e w' => e = .returned (.string s) ∧ Kept w.heap.size w w' := by
  have hl := size_toList s
  by_cases h0 : s.size = 0
  · have he : s = ⟨#[]⟩ := by
      apply Go.WideShapes.bytes_inj
      rw [List.length_eq_zero_iff.1 (show s.data.toList.length = 0 by omega)]
    subst he
    go_enter Tryz.func95, Tryz.ntmps95
    go_wp2_with fail
    go_ret
    exact ⟨rfl, Kept.refl _ _⟩
  · obtain ⟨i0, hi0, hz0, hz1, hz2⟩ := info_parts info5
    obtain ⟨M, hM⟩ : ∃ M, M = madeCells #[Value.int .u8 0] s.size := ⟨_, rfl⟩
    have hMs : M.size = s.size := by rw [hM, size_madeCells]; try simp
    obtain ⟨Y, hY⟩ : ∃ Y, Y = (u8s s.data.toList ++ M.toList.drop s.size).toArray := ⟨_, rfl⟩
    have hYl : Y.toList = u8s s.data.toList := by
      rw [hY, List.toList_toArray, List.drop_of_length_le (by rw [Array.length_toList]; omega), List.append_nil]
    have hgY : ((w.alloc (.cells M 5)).setRow w.heap.size Y).heap[w.heap.size]? = some (.cells Y 5 (0, 0)) := setRow_heap _ _ M _ 5 (0, 0) (heap_alloc_new w _)
    have hYs : Y.size = s.size := by rw [← Array.length_toList, hYl]; simp [u8s, hl]
    have hUS := Lib.run_unsafeString_row (P := Tryz.prog) ((w.alloc (.cells M 5)).setRow w.heap.size Y) 211 3 9 5 Tryz.underlying211 (by kernel_rfl) w.heap.size Y.size (by unfold World.shape?; rw [hgY]) s.data.toList (fun e => by rw [e] at hl; simp at hl; omega) (by omega) (by omega)
      (fun j x hx => by
        rw [show (⟨w.heap.size, 0, none⟩ : Addr).add j = ⟨w.heap.size, j, none⟩ from by unfold Addr.add; split <;> simp_all, cell_of_row _ _ _ _ _ _ hgY]
        rw [← Array.getElem?_toList, hYl]
        simp [u8s, hx])
    rw [hl] at hUS
    have HM := hide hM
    have HY := hide hY
    clear hM hY hYl hgY
    have hne : ¬ (s.size : Int) = 0 := by omega
    go_enter Tryz.func95, Tryz.ntmps95
    go_wp2_with (first
      | (refine wpList_make_row _ rfl (.tmp 8) (.tmp 8) 58 rfl 5 i0 (.int .u8 0) Tryz.underlying58 hi0 hz0 hz1 rfl .i64 .i64 s.size ?_ ?_ (by rw [hz2]; omega) (by omega) ?_
         · rfl
         · rfl
         rw [← unhide HM])
      | (refine wpList_copy_str rfl (.tmp 10) (.tmp 11) 58 9 rfl 5 Tryz.underlying58 (by rw [hi0]; simp [hz1]) w.heap.size s.size s.size s ?_ ?_ (Nat.le_refl _) M 5 ?_ (by omega) ?_
         · rfl
         · rfl
         · exact heap_alloc_new _ _
         rw [← unhide HY]))
    go_ret
    refine ⟨rfl, .of (Lib.below_freeze (p := ⟨w.heap.size, 0, none⟩) ?_ (Nat.le_refl _) _)⟩
    exact ((Below.refl _ w).alloc (Nat.le_refl _) _).trans ⟨rfl, rfl, rfl, by simp, fun k hk => setRow_other _ _ _ _ (by omega)⟩
set_option maxRecDepth 100000 in
theorem clone_go (s : ByteArray) (w : World) (hs : s.size ≤ 140737488355328) : Calls Tryz.prog 63 #[.string s] w fun e w' => e = .returned (.string s) ∧ Kept w.heap.size w w' := by
  go_enter Tryz.func63, Tryz.ntmps63
  go_wp2_with fail
  refine (clone_lite s w hs).mono ?_
  rintro _ w1 ⟨rfl, hk⟩
  go_wp2_with fail
  go_ret
  exact ⟨rfl, hk⟩
end Go.Proofs.YtlbacbcenejngaaGreatDoor
namespace Go.Proofs.YtlbacbcenejngaaGreatDoor
open Go.RowKit
/-- The last place below n where two lists differ. -/
def lastDiff (X Y : List ByteArray) : Nat → Option Nat
  | 0 => none
  | i + 1 => if X.getD i ByteArray.empty = Y.getD i ByteArray.empty then lastDiff X Y i else some i
/-- What clash answers of two lists of entries. -/
def clashF (X Y : List ByteArray) : ByteArray × ByteArray × Int :=
  match lastDiff X Y X.length with
  | some i => (X.getD i ByteArray.empty, Y.getD i ByteArray.empty, 0)
  | none => (ByteArray.empty, ByteArray.empty, 8)
def clOf (a b : ByteArray) : ByteArray × ByteArray × Int :=
  if (walkF a []).2 = 0 ∧ (walkF b []).2 = 0 ∧ (walkF a []).1.length = (walkF b []).1.length ∧ hashAt (walkF a []).1 (walkF a []).1.length = hashAt (walkF b []).1 (walkF b []).1.length then clashF (walkF a []).1 (walkF b []).1
  else (ByteArray.empty, ByteArray.empty, 8)
/-- Two lists of entries with their digests in memory. -/
structure Cl (w : World) (X Y : List ByteArray) (v v' : Value) (wr : World) : Prop where
  kept : Kept w.heap.size w wr
  x : wr.ownsRow w.heap.size 183 33 v X.length (seals X)
  y : wr.ownsRow w.heap.size 183 33 v' Y.length (seals Y)
theorem Cl.next {w : World} {X Y : List ByteArray} {v v' : Value} {wr wx : World} (h : Cl w X Y v v' wr) (hk : Kept wr.heap.size wr wx) : Cl w X Y v v' wx :=
  ⟨h.kept.trans (hk.mono h.kept.size), own_kept h.x hk, own_kept h.y hk⟩
theorem walk_size (s : ByteArray) : ∀ x ∈ (walkF s []).1, x.size ≤ s.size := by
  rw [walk_all, walkR]
  split
  · intro x hx
    exact (ents_fit s s.size 0 (by omega) x (List.mem_of_mem_take hx)).2
  · intro x hx
    exact (ents_fit s s.size 0 (by omega) x hx).2
theorem getD_size {X : List ByteArray} {k m : Nat} (hk : k < X.length) (h : ∀ x ∈ X, x.size ≤ m) : (X.getD k ByteArray.empty).size ≤ m := by
  rw [List.getD_eq_getElem?_getD, List.getElem?_eq_getElem hk]
  exact h _ (List.getElem_mem hk)
theorem cl_ret {R : Ending → World → Prop} {tmps : Array Value} {w' : World} {p q : ByteArray} {e : Int} (h6 : tmps.getD 6 undef = .string p) (h7 : tmps.getD 7 undef = .string q) (h8 : tmps.getD 8 undef = .int .i64 e)
    (hR : R (.returned (.tuple #[.string p, .string q, .int .i64 e])) w') : bodyPost Tryz.prog Tryz.f68 R .ret { tmps := tmps, defers := [] } w' := by
  have h6' : tmps[6]?.getD undef = .string p := by simpa using h6
  have h7' : tmps[7]?.getD undef = .string q := by simpa using h7
  have h8' : tmps[8]?.getD undef = .int .i64 e := by simpa using h8
  refine bodyPost_ret (v := .tuple #[.string p, .string q, .int .i64 e]) ?_ rfl hR
  simp [results, Tryz.results68, h6', h7', h8']
set_option maxRecDepth 100000 in
set_option maxHeartbeats 4000000 in
theorem clash_go (a b : ByteArray) (w : World) (ha : a.size ≤ 140737488355000) (hb : b.size ≤ 140737488355000) (hT : Table w) (hz : 0 < w.heap.size) :
    Calls Tryz.prog 68 #[.string a, .string b, .func (.func 35) #[] #[]] w fun e w' => e = .returned (.tuple #[.string (clOf a b).1, .string (clOf a b).2.1, .int .i64 (clOf a b).2.2]) ∧ Kept w.heap.size w w' := by
  obtain ⟨X, hX⟩ : ∃ X, X = (walkF a []).1 := ⟨_, rfl⟩
  obtain ⟨Y, hY⟩ : ∃ Y, Y = (walkF b []).1 := ⟨_, rfl⟩
  obtain ⟨ex, hex⟩ : ∃ ex, ex = (walkF a []).2 := ⟨_, rfl⟩
  obtain ⟨ey, hey⟩ : ∃ ey, ey = (walkF b []).2 := ⟨_, rfl⟩
  obtain ⟨D, hD⟩ : ∃ D, D = hashAt X X.length := ⟨_, rfl⟩
  obtain ⟨D', hD'⟩ : ∃ D, D = hashAt Y Y.length := ⟨_, rfl⟩
  have hDl : D.length = 32 := by rw [hD]; exact hashAt_len _ _
  have hDl' : D'.length = 32 := by rw [hD']; exact hashAt_len _ _
  have HC := hide (show clOf a b = if ex = 0 ∧ ey = 0 ∧ X.length = Y.length ∧ D = D' then clashF X Y else (ByteArray.empty, ByteArray.empty, 8) from by rw [clOf, ← hX, ← hY, ← hex, ← hey, ← hD, ← hD'])
  have HX := hide (And.intro hX (And.intro hex hD))
  have HY := hide (And.intro hY (And.intro hey hD'))
  have HT := hide hT
  have hg24 := guard_29
  have heq : ∀ W, (Op.equalIn 10000 29 (.agg (brow D)) (.agg (brow D'))).run Tryz.prog W = .ok (D == D') W := fun W => eq_row D D' hDl hDl' W
  clear hX hY hex hey hD hD' hT
  go_enter Tryz.func68, Tryz.ntmps68
  go_wp2_with fail
  refine (walk_go a w ha (unhide HT) hz).mono ?_
  rintro _ w1 ⟨v, rfl, hown, hk1⟩
  rw [← (unhide HX).2.1]
  rw [← (unhide HX).1] at hown
  have H1 := hide (And.intro hown hk1)
  clear hown hk1
  go_wp2_with fail
  refine (walk_go b w1 hb ((unhide HT).kept (unhide H1).2 hz) (Nat.lt_of_lt_of_le hz (unhide H1).2.size)).mono ?_
  rintro _ w3 ⟨v', rfl, hown', hk3⟩
  rw [← (unhide HY).2.1]
  rw [← (unhide HY).1] at hown'
  obtain ⟨ao, cap, rfl, hcap, hao⟩ := own_len (unhide H1).1
  obtain ⟨ao', cap', rfl, hcap', hao'⟩ := own_len hown'
  have H3 := hide (show Cl w X Y (.slice ao X.length cap) (.slice ao' Y.length cap') w3 from ⟨(unhide H1).2.trans (hk3.mono (unhide H1).2.size), own_kept (unhide H1).1 hk3, hown'.mono (unhide H1).2.size⟩)
  have hYm : Y.length < 9223372036854775808 := Nat.lt_of_le_of_lt (own_max hown') (by decide)
  have hXm : X.length < 9223372036854775808 := Nat.lt_of_le_of_lt (own_max (unhide H1).1) (by decide)
  clear hk3 hown' H1
  by_cases hex : ex = 0
  · by_cases hey : ey = 0
    · by_cases hl : (X.length : Int) = (Y.length : Int)
      · have hhead : ∀ (W : World), Cl w X Y (.slice ao X.length cap) (.slice ao' Y.length cap') W → Calls Tryz.prog 67 #[.slice ao X.length cap] W (fun e w' => e = .returned (.agg (brow D)) ∧ Cl w X Y (.slice ao X.length cap) (.slice ao' Y.length cap') w') := fun W hW =>
          (headOf_go _ _ X W hW.x hXm).mono (by rintro e w4 ⟨rfl, hk⟩; exact ⟨by rw [(unhide HX).2.2], hW.next hk⟩)
        have hhead' : ∀ (W : World), Cl w X Y (.slice ao X.length cap) (.slice ao' Y.length cap') W → Calls Tryz.prog 67 #[.slice ao' Y.length cap'] W (fun e w' => e = .returned (.agg (brow D')) ∧ Cl w X Y (.slice ao X.length cap) (.slice ao' Y.length cap') w') := fun W hW =>
          (headOf_go _ _ Y W hW.y hYm).mono (by rintro e w4 ⟨rfl, hk⟩; exact ⟨by rw [(unhide HY).2.2], hW.next hk⟩)
        have HH := hide hhead
        have HH' := hide hhead'
        clear hhead hhead'
        by_cases hDD : D = D'
        · have hbq : (D == D') = true := by rw [hDD]; simp
          rw [hbq] at heq
          have HDD := hide hDD
          clear hbq hDD
          go_wp2_with fail
          refine (unhide HH w3 (unhide H3)).mono ?_
          rintro _ w4 ⟨rfl, hc4⟩
          have H4 := hide hc4
          clear hc4
          go_wp2_with fail
          refine (unhide HH' w4 (unhide H4)).mono ?_
          rintro _ w5 ⟨rfl, hc5⟩
          have H5 := hide hc5
          clear hc5
          go_wp2_with fail
          have HC2 := hide (show clOf a b = clashF X Y from by rw [unhide HC, if_pos ⟨hex, hey, by omega, unhide HDD⟩])
          go_loopw [13] (fun vi wr => ∃ i : Nat, i ≤ X.length ∧ vi = .int .i64 ((i : Int) - 1) ∧ lastDiff X Y X.length = lastDiff X Y i ∧ Cl w X Y (.slice ao X.length cap) (.slice ao' Y.length cap') wr) (fun vi _ => (intOf vi + 1).toNat)
          case atStart => exact ⟨X.length, Nat.le_refl _, by first | rfl | rw [hl], rfl, unhide H5⟩
          case round =>
            obtain ⟨i, hi, rfl, hld, hcl⟩ := hrel
            have HL := hide hld
            have HK := hide hcl
            clear hld hcl
            cases i with
            | zero =>
              go_wp2_with fail
              exact cl_ret rfl rfl rfl ⟨by rw [unhide HC2, clashF, unhide HL]; rfl, (unhide HK).kept⟩
            | succ k =>
              obtain ⟨g, rfl⟩ := hao (by omega)
              obtain ⟨g', rfl⟩ := hao' (by omega)
              obtain ⟨p, hp⟩ : ∃ p, p = X.getD k ByteArray.empty := ⟨_, rfl⟩
              obtain ⟨q, hq⟩ : ∃ q, q = Y.getD k ByteArray.empty := ⟨_, rfl⟩
              have hkX : k < X.length := by omega
              have hkY : k < Y.length := by omega
              have hcx : wr.drew.cell? ⟨g, k * 33, none⟩ = some (.string p) := by rw [hp]; exact own_seal_str (unhide HK).x hkX
              have hcy : wr.drew.cell? ⟨g', k * 33, none⟩ = some (.string q) := by rw [hq]; exact own_seal_str (unhide HK).y hkY
              have HPQ := hide (And.intro hp hq)
              clear hp hq
              rw [show (((k + 1 : Nat) : Int) - 1) = (k : Int) by omega]
              have hkI : (k : Int) < (X.length : Int) := by omega
              have hkJ : (k : Int) < (Y.length : Int) := by omega
              have hk0 : (0 : Int) ≤ (k : Int) := by omega
              have HKD := hide (show Cl w X Y (.slice (some ⟨g, 0, none⟩) X.length cap) (.slice (some ⟨g', 0, none⟩) Y.length cap') wr.drew from (unhide HK).next ((Kept.refl _ _).draws 1))
              clear HK
              by_cases hpq : p = q
              · have HLD := hide (show lastDiff X Y X.length = lastDiff X Y k from by rw [unhide HL, lastDiff, if_pos (by rw [← (unhide HPQ).1, ← (unhide HPQ).2]; exact hpq)])
                have hpl : (p.toList == q.toList) = true := by rw [hpq]; simp
                clear hpq
                go_wp2_with fail
                go_region_held3 (fun w' => w'.cell? ⟨g, k * 33, none⟩ = some (.string p) ∧ w'.cell? ⟨g', k * 33, none⟩ = some (.string q)) (first | assumption | exact ⟨hcx, hcy⟩) (fail)
                go_wp2_with fail
                go_roundw
                case rel => exact ⟨k, by omega, by go_num, unhide HLD, unhide HKD⟩
                case measure => simp [intOf]
              · have HCF := hide (show clashF X Y = (p, q, 0) from by rw [clashF, unhide HL, lastDiff, if_neg (by rw [← (unhide HPQ).1, ← (unhide HPQ).2]; exact hpq), (unhide HPQ).1, (unhide HPQ).2])
                have hpl : (p.toList == q.toList) = false := by
                  rw [beq_eq_false_iff_ne]
                  exact fun h => hpq (str_inj h)
                go_wp2_with fail
                go_region_held3 (fun w' => w'.cell? ⟨g, k * 33, none⟩ = some (.string p) ∧ w'.cell? ⟨g', k * 33, none⟩ = some (.string q)) (first | assumption | exact ⟨hcx, hcy⟩) (fail)
                go_wp2_with fail
                have hps : p.size ≤ 140737488355328 := by
                  have := getD_size (k := k) hkX (by rw [(unhide HX).1]; exact walk_size a) (X := X) (m := a.size)
                  rw [(unhide HPQ).1]; omega
                have hqs : q.size ≤ 140737488355328 := by
                  have := getD_size (k := k) hkY (by rw [(unhide HY).1]; exact walk_size b) (X := Y) (m := b.size)
                  rw [(unhide HPQ).2]; omega
                have hdx : wr.drew.drew.cell? ⟨g, k * 33, none⟩ = some (.string p) := hcx
                have hdy : wr.drew.drew.cell? ⟨g', k * 33, none⟩ = some (.string q) := hcy
                have HKE := hide (show Cl w X Y (.slice (some ⟨g, 0, none⟩) X.length cap) (.slice (some ⟨g', 0, none⟩) Y.length cap') wr.drew.drew from (unhide HKD).next ((Kept.refl _ _).draws 1))
                go_region_held3 (fun w' => w'.cell? ⟨g, k * 33, none⟩ = some (.string p) ∧ w'.cell? ⟨g', k * 33, none⟩ = some (.string q)) (first | assumption | exact ⟨hdx, hdy⟩ | exact ⟨h5x, h5y⟩ | exact ⟨h6x, h6y⟩) (first
                  | (go_at_call 63; (refine (clone_go p wr.drew.drew hps).mono ?_; rintro e w7 ⟨rfl, hk5⟩; have HK5 := hide ((unhide HKE).next hk5); have h5x : w7.cell? ⟨g, k * 33, none⟩ = some (.string p) := (by rw [(unhide HPQ).1]; exact own_seal_str (unhide HK5).x hkX); have h5y : w7.cell? ⟨g', k * 33, none⟩ = some (.string q) := (by rw [(unhide HPQ).2]; exact own_seal_str (unhide HK5).y hkY); clear hk5))
                  | (go_at_call 63; (refine (clone_go q w7 hqs).mono ?_; rintro e w8 ⟨rfl, hk6⟩; have HK6 := hide ((unhide HK5).next hk6); have h6x : w8.cell? ⟨g, k * 33, none⟩ = some (.string p) := (by rw [(unhide HPQ).1]; exact own_seal_str (unhide HK6).x hkX); have h6y : w8.cell? ⟨g', k * 33, none⟩ = some (.string q) := (by rw [(unhide HPQ).2]; exact own_seal_str (unhide HK6).y hkY); clear hk6)))
                all_goals
                  go_wp2_with fail
                  exact cl_ret rfl rfl rfl ⟨by rw [unhide HC2, unhide HCF], (unhide HK6).kept⟩
        · have hbq : (D == D') = false := by simpa using hDD
          rw [hbq] at heq
          clear hbq
          go_wp2_with fail
          refine (unhide HH w3 (unhide H3)).mono ?_
          rintro _ w4 ⟨rfl, hc4⟩
          have H4 := hide hc4
          clear hc4
          go_wp2_with fail
          refine (unhide HH' w4 (unhide H4)).mono ?_
          rintro _ w5 ⟨rfl, hc5⟩
          have H5 := hide hc5
          clear hc5
          go_wp2_with fail
          exact cl_ret rfl rfl rfl ⟨by rw [unhide HC, if_neg (by simp [hDD])]; rfl, (unhide H5).kept⟩
      · have hl2 : ¬ X.length = Y.length := by omega
        go_wp2_with fail
        exact cl_ret rfl rfl rfl ⟨by rw [unhide HC, if_neg (by simp [hl2])]; rfl, (unhide H3).kept⟩
    · skip
      go_wp2_with fail
      exact cl_ret rfl rfl rfl ⟨by rw [unhide HC, if_neg (by simp [hey])]; rfl, (unhide H3).kept⟩
  · skip
    go_wp2_with fail
    exact cl_ret rfl rfl rfl ⟨by rw [unhide HC, if_neg (by simp [hex])]; rfl, (unhide H3).kept⟩
end Go.Proofs.YtlbacbcenejngaaGreatDoor
namespace Go.Proofs.YtlbacbcenejngaaGreatDoor
open Go.RowKit
theorem cl_ret61 {R : Ending → World → Prop} {tmps : Array Value} {w' : World} {p q : ByteArray} {e : Int} {i j k : Nat} {fn : Func} (hf : fn.results = #[.tmp i, .tmp j, .tmp k]) (h6 : tmps.getD i undef = .string p) (h7 : tmps.getD j undef = .string q) (h8 : tmps.getD k undef = .int .i64 e)
    (hR : R (.returned (.tuple #[.string p, .string q, .int .i64 e])) w') : bodyPost Tryz.prog fn R .ret { tmps := tmps, defers := [] } w' := by
  have h6' : tmps[i]?.getD undef = .string p := by simpa using h6
  have h7' : tmps[j]?.getD undef = .string q := by simpa using h7
  have h8' : tmps[k]?.getD undef = .int .i64 e := by simpa using h8
  refine bodyPost_ret (v := .tuple #[.string p, .string q, .int .i64 e]) ?_ rfl hR
  simp [results, hf, h6', h7', h8']
set_option maxRecDepth 100000 in
theorem chain_clash (a b : ByteArray) (w : World) (ha : a.size ≤ 140737488355000) (hb : b.size ≤ 140737488355000) (hT : Table w) (hz : 0 < w.heap.size) :
    Calls Tryz.prog 34 #[.string a, .string b] w fun e w' => e = .returned (.tuple #[.string (clOf a b).1, .string (clOf a b).2.1, .int .i64 (clOf a b).2.2]) ∧ Kept w.heap.size w w' := by
  go_enter Tryz.func34, Tryz.ntmps34
  go_wp2_with fail
  refine (clash_go a b w ha hb hT hz).mono ?_
  rintro _ w1 ⟨rfl, hk⟩
  go_wp2_with fail
  exact cl_ret61 Tryz.results34 rfl rfl rfl ⟨rfl, hk⟩
set_option maxRecDepth 100000 in
theorem bailey_clash (a b : ByteArray) (w : World) (ha : a.size ≤ 140737488355000) (hb : b.size ≤ 140737488355000) (hT : Table w) (hz : 0 < w.heap.size) :
    Calls Tryz.prog 16 #[.string a, .string b] w fun e w' => e = .returned (.tuple #[.string (clOf a b).1, .string (clOf a b).2.1, .int .i64 (clOf a b).2.2]) ∧ Kept w.heap.size w w' := by
  go_enter Tryz.func16, Tryz.ntmps16
  go_wp2_with fail
  refine (chain_clash a b w ha hb hT hz).mono ?_
  rintro _ w1 ⟨rfl, hk⟩
  go_wp2_with fail
  exact cl_ret61 Tryz.results16 rfl rfl rfl ⟨rfl, hk⟩
end Go.Proofs.YtlbacbcenejngaaGreatDoor
