/-
  Cname, Cfit, Cscan, Cnum, Chash, joined.
-/
import Derived.Test.YtfodibjlldmnpaaDoorJLnum
import Derived.Test.YtfodibjlldmnpaaDoorJPcall
/-
  The code's names: letters, paths, prefixes; pathFits.
-/
namespace Go.Proofs.YtfodibjlldmnpaaDoor
open Go.RowKit

set_option maxRecDepth 100000 in
theorem letter_go (x : Int) (w : World) : Calls Tryd.prog 130 #[.int .u8 x] w fun e w' => e = .returned (.bool (lowI x)) ∧ w' = w := by
  go_enter Tryd.func130, Tryd.ntmps130
  go_wp2_with fail
  all_goals
    go_ret
    refine ⟨?_, rfl⟩
    simp [lowI, *] <;> omega
set_option maxRecDepth 100000 in
theorem ofPath_go (x : Int) (w : World) : Calls Tryd.prog 129 #[.int .u8 x] w fun e w' => e = .returned (.bool (okI true x)) ∧ w' = w := by
  by_cases hx : x = 47
  · subst hx
    go_enter Tryd.func129, Tryd.ntmps129
    go_wp2_with fail
    go_ret
    exact ⟨rfl, rfl⟩
  · have he : okI true x = lowI x := by simp [okI, hx]
    rw [he]
    go_enter Tryd.func129, Tryd.ntmps129
    go_wp2_with fail
    refine (letter_go x w).mono ?_
    rintro _ w1 ⟨rfl, rfl⟩
    go_wp2_with fail
    go_ret
    refine ⟨?_, rfl⟩
    simp [hx]
set_option maxRecDepth 100000 in
theorem hasLength_go (s : ByteArray) (most : Nat) (w : World) (_hm : most ≤ 100) (hs : s.size ≤ 140737488355328) : Calls Tryd.prog 127 #[.string s, .int .i64 most] w fun e w' => e = .returned (.bool (decide (1 ≤ s.size) && decide (s.size ≤ most))) ∧ w' = w := by
  by_cases h1 : 1 ≤ s.size
  · go_enter Tryd.func127, Tryd.ntmps127
    go_wp2_with fail
    go_ret
    refine ⟨?_, rfl⟩
    simp [h1]
  · go_enter Tryd.func127, Tryd.ntmps127
    go_wp2_with fail
    go_ret
    refine ⟨?_, rfl⟩
    simp
/-- Made of what a path is made of. -/
def madeB (l : List UInt8) : Bool := l.all (fun c => okI true (c.toNat : Int))
set_option maxRecDepth 100000 in
set_option maxHeartbeats 1000000 in
theorem madeOf_go (s : ByteArray) (w : World) (hs : s.size ≤ 140737488355328) : Calls Tryd.prog 128 #[.string s, .func (.func 129) #[] #[]] w fun e w' => e = .returned (.bool (madeB s.data.toList)) ∧ w' = w := by
  have hl : s.data.toList.length = s.size := size_toList s
  go_enter Tryd.func128, Tryd.ntmps128
  go_wp2_with fail
  go_loop [8] (fun vi => ∃ j : Nat, j ≤ s.size ∧ vi = .int .i64 j ∧ madeB (s.data.toList.take j) = true) (fun vi => s.size - (intOf vi).toNat)
  case atStart => exact ⟨0, Nat.zero_le _, rfl, rfl⟩
  case round =>
    obtain ⟨j, hj, rfl, hall⟩ := hrel
    by_cases hlt : j < s.size
    · have hg := byte_get s j hlt
      unfold Sha.at8 at hg
      have hst := hide (show madeB (s.data.toList.take (j + 1)) = (madeB (s.data.toList.take j) && okI true ((s.data.toList.getD j 0).toNat : Int)) by
        unfold madeB
        rw [List.take_succ_eq_append_getElem (by omega), List.all_append, List.getD_eq_getElem?_getD, List.getElem?_eq_getElem (by omega)]
        simp)
      have hmem := hide (show s.data.toList.getD j 0 ∈ s.data.toList by rw [List.getD_eq_getElem?_getD, List.getElem?_eq_getElem (by omega)]; exact List.getElem_mem _)
      generalize hcd : s.data.toList.getD j 0 = c at *
      clear hcd
      obtain ⟨x, hx⟩ : ∃ x : Int, x = (c.toNat : Int) := ⟨_, rfl⟩
      rw [← hx] at hg hst
      have HX := hide hx
      have HA := hide hall
      have hltI : (j : Int) < (s.size : Int) := by omega
      clear hx hall
      go_wp2_with fail
      refine (ofPath_go x w).mono ?_
      rintro _ w1 ⟨rfl, rfl⟩
      cases hok : okI true x
      · have HF := hide (show madeB s.data.toList = false by
          unfold madeB
          rw [List.all_eq_false]
          exact ⟨c, unhide hmem, by rw [← unhide HX, hok]; simp⟩)
        clear hok
        go_wp2_with fail
        go_ret
        exact ⟨by rw [unhide HF]; rfl, rfl⟩
      · have HG := hide (show madeB (s.data.toList.take (j + 1)) = true by rw [unhide hst, unhide HA, hok]; rfl)
        clear hok
        go_wp2_with fail
        go_round
        case rel => exact ⟨j + 1, by omega, by go_num, unhide HG⟩
        case measure => simp [intOf]; omega
    · obtain rfl : j = s.size := by omega
      rw [List.take_of_length_le (by omega)] at hall
      have HA := hide hall
      clear hall
      go_wp2_with fail
      go_ret
      exact ⟨by rw [unhide HA]; rfl, rfl⟩
set_option maxRecDepth 100000 in
theorem isPath_go (s : ByteArray) (w : World) (hs : s.size ≤ 140737488355328) : Calls Tryd.prog 125 #[.string s] w fun e w' => e = .returned (.bool (nameB s.data.toList 16 true false)) ∧ w' = w := by
  have hsl : s.data.toList.length = s.size := size_toList s
  by_cases hl : 1 ≤ s.size ∧ s.size ≤ 16
  · obtain ⟨h1, h2⟩ := hl
    have HN := hide (show nameB s.data.toList 16 true false = madeB s.data.toList by
      rw [nameB, madeB, hsl, decide_eq_true h2, decide_eq_true (show 0 < s.size by omega)]; simp)
    go_enter Tryd.func125, Tryd.ntmps125
    go_wp2_with fail
    refine (hasLength_go s 16 w (by omega) hs).mono ?_
    rintro _ w1 ⟨rfl, rfl⟩
    rw [decide_eq_true h1, decide_eq_true h2, Bool.true_and]
    go_wp2_with fail
    refine (madeOf_go s w1 hs).mono ?_
    rintro _ w2 ⟨rfl, rfl⟩
    go_wp2_with fail
    go_ret
    exact ⟨by rw [unhide HN]; rfl, rfl⟩
  · have HN := hide (show nameB s.data.toList 16 true false = false by
      rw [nameB, hsl]
      have : (decide (s.size ≤ 16) && (false || decide (0 < s.size))) = false := by
        rw [Bool.false_or, ← Bool.decide_and]
        exact decide_eq_false (by omega)
      rw [this, Bool.and_false])
    have hf : (decide (1 ≤ s.size) && decide (s.size ≤ 16)) = false := by
      rw [← Bool.decide_and]
      exact decide_eq_false hl
    go_enter Tryd.func125, Tryd.ntmps125
    go_wp2_with fail
    refine (hasLength_go s 16 w (by omega) hs).mono ?_
    rintro _ w1 ⟨rfl, rfl⟩
    rw [hf]
    go_wp2_with fail
    go_ret
    exact ⟨by rw [unhide HN]; rfl, rfl⟩
set_option maxRecDepth 100000 in
theorem isPrefix_go (s : ByteArray) (w : World) (hs : s.size ≤ 140737488355328) : Calls Tryd.prog 126 #[.string s] w fun e w' => e = .returned (.bool (nameB s.data.toList 16 true true)) ∧ w' = w := by
  have hsl : s.data.toList.length = s.size := size_toList s
  by_cases h0 : s = ByteArray.empty
  · subst h0
    go_enter Tryd.func126, Tryd.ntmps126
    go_wp2_with fail
    go_ret
    exact ⟨rfl, rfl⟩
  · have hp : 0 < s.size := by
      rcases Nat.eq_zero_or_pos s.size with h | h
      · exact absurd (Go.WideShapes.bytes_inj (a := s) (b := ByteArray.empty) (List.eq_nil_of_length_eq_zero (by omega))) h0
      · exact h
    have HN := hide (show nameB s.data.toList 16 true true = nameB s.data.toList 16 true false by rw [nameB, nameB, hsl, decide_eq_true hp]; rfl)
    have hne : ¬ s.toList = [] := fun h => by
      rw [Lib.toList_data] at h
      exact h0 (Go.WideShapes.bytes_inj h)
    have hne2 : (s.toList == []) = false := by simpa using hne
    have hne3 : s.toList.isEmpty = false := by simpa using hne
    go_enter Tryd.func126, Tryd.ntmps126
    go_wp2_with fail
    refine (isPath_go s w hs).mono ?_
    rintro _ w1 ⟨rfl, rfl⟩
    go_wp2_with fail
    go_ret
    exact ⟨by rw [unhide HN]; rfl, rfl⟩

end Go.Proofs.YtfodibjlldmnpaaDoor
/-
  The code's pathFits; the scanner: Want, New, Bytes, Byte, Text, End, Number.
-/
namespace Go.Proofs.YtfodibjlldmnpaaDoor
open Go.RowKit

/-- Whether an op and a path fit, as fitOp says it. -/
abbrev fitP (op : Int) (s : ByteArray) : Bool := fitOp op s.size (nameB s.data.toList 16 true (op == 76))
theorem empty_iff (s : ByteArray) : s.toList.isEmpty = decide (s.size = 0) := by
  rw [show s.toList.isEmpty = (s.toList == []) by cases s.toList <;> rfl, Lib.toList_data]
  have := size_toList s
  by_cases h : s.size = 0
  · rw [List.eq_nil_of_length_eq_zero (l := s.data.toList) (by omega), decide_eq_true h]; rfl
  · rw [decide_eq_false h, beq_eq_false_iff_ne]
    intro e
    rw [e] at this
    simp at this
    omega
set_option maxRecDepth 100000 in
set_option maxHeartbeats 1000000 in
theorem pathFits_go (op : Int) (s : ByteArray) (w : World) (hs : s.size ≤ 140737488355328) : Calls Tryd.prog 122 #[.int .u8 op, .string s] w fun e w' => e = .returned (.bool (fitP op s)) ∧ w' = w := by
  have HEM := hide (empty_iff s)
  have hfe : ∀ op, pathI op = false → (opI op = true ∨ op = 0) → fitP op s = decide (s.size = 0) := fun op h1 h2 => by
    have h3 : (!opI op && op != 0) = false := by
      rcases h2 with h | h
      · rw [h]; rfl
      · rw [h]; rfl
    rw [fitP, fitOp, h1, h3]
    by_cases h : s.size = 0
    · simp [h]
    · simp [h]
  rcases (show op = 80 ∨ op = 71 ∨ op = 68 ∨ op = 76 ∨ op = 84 ∨ op = 82 ∨ op = 0 ∨ (op ≠ 80 ∧ op ≠ 71 ∧ op ≠ 68 ∧ op ≠ 76 ∧ op ≠ 84 ∧ op ≠ 82 ∧ op ≠ 0) by omega) with rfl | rfl | rfl | rfl | rfl | rfl | rfl | ⟨a1, a2, a3, a4, a5, a6, a7⟩
  · go_enter Tryd.func122, Tryd.ntmps122
    go_wp2_with fail
    refine (isPath_go s w hs).mono ?_
    rintro _ w1 ⟨rfl, rfl⟩
    go_wp2_with fail
    go_ret
    exact ⟨by simp [fitP, fitOp, pathI, opI], rfl⟩
  · go_enter Tryd.func122, Tryd.ntmps122
    go_wp2_with fail
    refine (isPath_go s w hs).mono ?_
    rintro _ w1 ⟨rfl, rfl⟩
    go_wp2_with fail
    go_ret
    exact ⟨by simp [fitP, fitOp, pathI, opI], rfl⟩
  · go_enter Tryd.func122, Tryd.ntmps122
    go_wp2_with fail
    refine (isPath_go s w hs).mono ?_
    rintro _ w1 ⟨rfl, rfl⟩
    go_wp2_with fail
    go_ret
    exact ⟨by simp [fitP, fitOp, pathI, opI], rfl⟩
  · go_enter Tryd.func122, Tryd.ntmps122
    go_wp2_with fail
    refine (isPrefix_go s w hs).mono ?_
    rintro _ w1 ⟨rfl, rfl⟩
    go_wp2_with fail
    go_ret
    exact ⟨by simp [fitP, fitOp, pathI, opI], rfl⟩
  · have HF := hide ((hfe 84 rfl (Or.inl rfl)).trans (unhide HEM).symm)
    clear hfe
    go_enter Tryd.func122, Tryd.ntmps122
    go_wp2_with fail
    go_ret
    exact ⟨by rw [unhide HF]; rfl, rfl⟩
  · have HF := hide ((hfe 82 rfl (Or.inl rfl)).trans (unhide HEM).symm)
    clear hfe
    go_enter Tryd.func122, Tryd.ntmps122
    go_wp2_with fail
    go_ret
    exact ⟨by rw [unhide HF]; rfl, rfl⟩
  · have HF := hide ((hfe 0 rfl (Or.inr rfl)).trans (unhide HEM).symm)
    clear hfe
    go_enter Tryd.func122, Tryd.ntmps122
    go_wp2_with fail
    go_ret
    exact ⟨by rw [unhide HF]; rfl, rfl⟩
  · have HF := hide (show fitP op s = false by simp [fitP, fitOp, pathI, opI, a1, a2, a3, a4, a5, a6, a7])
    clear hfe
    go_enter Tryd.func122, Tryd.ntmps122
    go_wp2_with fail
    go_ret
    exact ⟨by rw [unhide HF]; rfl, rfl⟩

/-- What the scanner gives up with. -/
def oops : List PanicEntry := [{ v := .iface 9 (.string ⟨#[115, 99, 97, 110, 58, 32, 116, 104, 101, 32, 98, 121, 116, 101, 115, 32, 97, 114, 101, 32, 110, 111, 116, 32, 119, 104, 97, 116, 32, 116, 104, 101, 121, 32, 115, 104, 111, 117, 108, 100, 32, 98, 101]⟩), recovered := false }]
theorem want_yes (w : World) : Calls Tryd.prog 119 #[.bool true] w fun e w' => e = .returned (.tuple #[]) ∧ w' = w := by
  go_enter Tryd.func119, Tryd.ntmps119
  go_wp2_with fail
  refine end0 rfl rfl ?_
  exact ⟨rfl, rfl⟩
set_option maxRecDepth 100000 in
theorem want_no (w : World) : Calls Tryd.prog 119 #[.bool false] w fun e w' => e = .panicked oops ∧ w' = w := by
  go_enter Tryd.func119, Tryd.ntmps119
  go_wp2_with fail
  exact ⟨rfl, rfl, rfl⟩

/-- A reader: what is left. -/
def Rd (w : World) (g : Nat) (s : ByteArray) : Prop := w.heap[g]? = some (.cells #[.string s] 155 (0, 0))
theorem rd_set {w : World} {g : Nat} {s s' : ByteArray} (h : Rd w g s) : Rd (w.setCell ⟨g, 0, none⟩ (.string s')) g s' := by
  unfold Rd at *
  rw [heap_setCell_same _ _ _ _ _ _ h]; rfl
theorem other_set (w : World) (g o : Nat) (v : Value) : Other g w (w.setCell ⟨g, o, none⟩ v) := ⟨rfl, rfl, by simp, fun k _ hk => heap_setCell_other w ⟨g, o, none⟩ k v hk⟩
theorem Other.refl (g : Nat) (w : World) : Other g w w := ⟨rfl, rfl, Nat.le_refl _, fun _ _ _ => rfl⟩
theorem Other.trans {g : Nat} {a b c : World} (h : Other g a b) (k : Other g b c) : Other g a c := ⟨k.os.trans h.os, k.output.trans h.output, Nat.le_trans h.size k.size, fun j hj hn => (k.block j (Nat.lt_of_lt_of_le hj h.size) hn).trans (h.block j hj hn)⟩
theorem new_go (s : ByteArray) (w : World) : Calls Tryd.prog 113 #[.string s] w fun e w' => e = .returned (.pointer (some ⟨w.heap.size, 0, none⟩)) ∧ w' = w.alloc (.cells #[.string s] 155) := by
  go_enter Tryd.func113, Tryd.ntmps113
  go_wp2_with fail
  go_ret
  exact ⟨rfl, rfl⟩
set_option maxRecDepth 100000 in
theorem bytes_yes (g n : Nat) (s : ByteArray) (w : World) (hr : Rd w g s) (hn : n ≤ s.size) (_hs : s.size ≤ 140737488355328) :
    Calls Tryd.prog 114 #[.pointer (some ⟨g, 0, none⟩), .int .i64 n] w fun e w' => e = .returned (.string (s.extract 0 n)) ∧ Rd w' g (s.extract n s.size) ∧ Other g w w' := by
  have hc : w.cell? ⟨g, 0, none⟩ = some (.string s) := by rw [cell_of_row _ _ _ _ _ _ hr]; rfl
  have hf := frozen_of_row _ _ 0 _ _ hr
  have hnI : (n : Int) ≤ (s.size : Int) := by omega
  have HR := hide hr
  clear hr
  go_enter Tryd.func114, Tryd.ntmps114
  go_wp2_with fail
  refine (want_yes w).mono ?_
  rintro _ w1 ⟨rfl, rfl⟩
  go_wp2_with fail
  go_ret
  exact ⟨rfl, rd_set (unhide HR), other_set _ _ _ _⟩
set_option maxRecDepth 100000 in
theorem bytes_no (g n : Nat) (s : ByteArray) (w : World) (hr : Rd w g s) (hn : s.size < n) (_hn2 : n ≤ 70000) (_hs : s.size ≤ 140737488355328) :
    Calls Tryd.prog 114 #[.pointer (some ⟨g, 0, none⟩), .int .i64 n] w fun e w' => e = .panicked oops ∧ Other g w w' := by
  have hc : w.cell? ⟨g, 0, none⟩ = some (.string s) := by rw [cell_of_row _ _ _ _ _ _ hr]; rfl
  have hnI : ¬ (n : Int) ≤ (s.size : Int) := by omega
  clear hr
  go_enter Tryd.func114, Tryd.ntmps114
  go_wp2_with fail
  refine (want_no w).mono ?_
  rintro _ w1 ⟨rfl, rfl⟩
  go_wp2_with fail
  exact ⟨rfl, rfl, Other.refl _ _⟩

end Go.Proofs.YtfodibjlldmnpaaDoor
/-
  The scanner: Byte, Text, End, Number.
-/
namespace Go.Proofs.YtfodibjlldmnpaaDoor
open Go.RowKit

theorem ext_list (s : ByteArray) (a b : Nat) : (s.extract a b).data.toList = (s.data.toList.drop a).take (b - a) := by
  rw [ByteArray.data_extract]
  simp
theorem first_byte {s : ByteArray} (h : 0 < s.size) : (s.extract 0 1).size = 1 ∧ Sha.at8 (s.extract 0 1).data.toList 0 = Sha.at8 s.data.toList 0 := by
  refine ⟨by rw [ByteArray.size_extract]; omega, ?_⟩
  rw [ext_list, Sha.at8, Sha.at8, List.drop_zero, List.getD_eq_getElem?_getD, List.getD_eq_getElem?_getD, List.getElem?_take, if_pos (by omega)]
set_option maxRecDepth 100000 in
theorem byte_yes (g : Nat) (s : ByteArray) (w : World) (hr : Rd w g s) (hn : 0 < s.size) (hs : s.size ≤ 140737488355328) :
    Calls Tryd.prog 120 #[.pointer (some ⟨g, 0, none⟩)] w fun e w' => e = .returned (.int .u8 (Sha.at8 s.data.toList 0)) ∧ Rd w' g (s.extract 1 s.size) ∧ Other g w w' := by
  obtain ⟨x, hx⟩ : ∃ x, x = s.extract 0 1 := ⟨_, rfl⟩
  have hf := first_byte hn
  rw [← hx] at hf
  have b0 : 0 < x.size := by omega
  have hg := byte_get x 0 b0
  rw [hf.2] at hg
  have hx1 : x.size = 1 := hf.1
  have HX := hide hx
  clear hf hx
  go_enter Tryd.func120, Tryd.ntmps120
  go_wp2_with fail
  refine (bytes_yes g 1 s w hr (by omega) hs).mono ?_
  rintro _ w1 ⟨rfl, hr1, ho1⟩
  rw [← unhide HX]
  have HR1 := hide (And.intro hr1 ho1)
  clear hr1 ho1 hr
  go_wp2_with fail
  go_ret
  exact ⟨rfl, unhide HR1⟩
theorem byte_no (g : Nat) (s : ByteArray) (w : World) (hr : Rd w g s) (hn : s.size = 0) :
    Calls Tryd.prog 120 #[.pointer (some ⟨g, 0, none⟩)] w fun e w' => e = .panicked oops ∧ Other g w w' := by
  go_enter Tryd.func120, Tryd.ntmps120
  go_wp2_with fail
  refine (bytes_no g 1 s w hr (by omega) (by omega) (by omega)).mono ?_
  rintro _ w1 ⟨rfl, ho1⟩
  go_wp2_with fail
  exact ⟨rfl, rfl, ho1⟩
theorem end_yes (g : Nat) (s : ByteArray) (w : World) (hr : Rd w g s) (hn : s.size = 0) :
    Calls Tryd.prog 124 #[.pointer (some ⟨g, 0, none⟩)] w fun e w' => e = .returned (.tuple #[]) ∧ w' = w := by
  have hc : w.cell? ⟨g, 0, none⟩ = some (.string s) := by rw [cell_of_row _ _ _ _ _ _ hr]; rfl
  have he : s.toList.isEmpty = true := by rw [empty_iff, hn]; rfl
  clear hr
  go_enter Tryd.func124, Tryd.ntmps124
  go_wp2_with fail
  refine (want_yes w).mono ?_
  rintro _ w1 ⟨rfl, rfl⟩
  go_wp2_with fail
  refine end0 rfl rfl ?_
  exact ⟨rfl, rfl⟩
theorem end_no (g : Nat) (s : ByteArray) (w : World) (hr : Rd w g s) (hn : s.size ≠ 0) :
    Calls Tryd.prog 124 #[.pointer (some ⟨g, 0, none⟩)] w fun e w' => e = .panicked oops ∧ w' = w := by
  have hc : w.cell? ⟨g, 0, none⟩ = some (.string s) := by rw [cell_of_row _ _ _ _ _ _ hr]; rfl
  have he : s.toList.isEmpty = false := by rw [empty_iff]; simpa using hn
  clear hr
  go_enter Tryd.func124, Tryd.ntmps124
  go_wp2_with fail
  refine (want_no w).mono ?_
  rintro _ w1 ⟨rfl, rfl⟩
  go_wp2_with fail
  exact ⟨rfl, rfl, rfl⟩
/-- A text off the front. -/
theorem text_yes (g k : Nat) (s : ByteArray) (w : World) (hr : Rd w g s) (hk : (k : Int) = Sha.at8 s.data.toList 0) (hn : 1 + k ≤ s.size) (hs : s.size ≤ 140737488355328) :
    Calls Tryd.prog 123 #[.pointer (some ⟨g, 0, none⟩)] w fun e w' => e = .returned (.string (s.extract 1 (1 + k))) ∧ Rd w' g (s.extract (1 + k) s.size) ∧ Other g w w' := by
  have hk2 : k < 256 := by
    unfold Sha.at8 at hk
    have := (s.data.toList.getD 0 0).toNat_lt
    omega
  go_enter Tryd.func123, Tryd.ntmps123
  go_wp2_with fail
  refine (byte_yes g s w hr (by omega) hs).mono ?_
  rintro _ w1 ⟨rfl, hr1, ho1⟩
  rw [← hk]
  have HR1 := hide hr1
  have HO1 := hide ho1
  clear hr1 ho1 hr hk
  go_wp2_with fail
  have hz : (s.extract 1 s.size).size = s.size - 1 := by rw [ByteArray.size_extract]; omega
  refine (bytes_yes g k (s.extract 1 s.size) w1 (unhide HR1) (by omega) (by omega)).mono ?_
  rintro _ w2 ⟨rfl, hr2, ho2⟩
  have e1 : (s.extract 1 s.size).extract 0 k = s.extract 1 (1 + k) := by
    apply Go.WideShapes.bytes_inj
    rw [ext_list, ext_list, ext_list]
    simp
    rw [List.take_take]
    congr 1
    omega
  have e2 : (s.extract 1 s.size).extract k (s.extract 1 s.size).size = s.extract (1 + k) s.size := by
    apply Go.WideShapes.bytes_inj
    rw [hz, ext_list, ext_list, ext_list, List.drop_take, List.drop_drop, List.take_take]
    congr 1
    omega
  rw [e1]
  rw [e2] at hr2
  have HR2 := hide (And.intro hr2 ((unhide HO1).trans ho2))
  clear hr2 ho2 e1 e2
  go_wp2_with fail
  go_ret
  exact ⟨rfl, unhide HR2⟩
theorem text_no (g : Nat) (s : ByteArray) (w : World) (hr : Rd w g s) (hn : s.size = 0 ∨ s.size < 1 + (s.data.toList.getD 0 0).toNat) (hs : s.size ≤ 140737488355328) :
    Calls Tryd.prog 123 #[.pointer (some ⟨g, 0, none⟩)] w fun e w' => e = .panicked oops ∧ Other g w w' := by
  by_cases h0 : s.size = 0
  · go_enter Tryd.func123, Tryd.ntmps123
    go_wp2_with fail
    refine (byte_no g s w hr h0).mono ?_
    rintro _ w1 ⟨rfl, ho1⟩
    go_wp2_with fail
    exact ⟨rfl, rfl, ho1⟩
  · obtain ⟨k, hk⟩ : ∃ k, k = (s.data.toList.getD 0 0).toNat := ⟨_, rfl⟩
    have hk2 : k < 256 := by rw [hk]; exact (s.data.toList.getD 0 0).toNat_lt
    have hk3 : Sha.at8 s.data.toList 0 = (k : Int) := by rw [hk]; rfl
    have hlt : s.size < 1 + k := by
      rcases hn with h | h
      · exact absurd h h0
      · omega
    clear hn hk
    go_enter Tryd.func123, Tryd.ntmps123
    go_wp2_with fail
    refine (byte_yes g s w hr (by omega) hs).mono ?_
    rintro _ w1 ⟨rfl, hr1, ho1⟩
    rw [hk3]
    have HR1 := hide hr1
    have HO1 := hide ho1
    clear hr1 ho1 hr hk3
    go_wp2_with fail
    have hz : (s.extract 1 s.size).size = s.size - 1 := by rw [ByteArray.size_extract]; omega
    refine (bytes_no g k (s.extract 1 s.size) w1 (unhide HR1) (by omega) (by omega) (by omega)).mono ?_
    rintro _ w2 ⟨rfl, ho2⟩
    go_wp2_with fail
    exact ⟨rfl, rfl, (unhide HO1).trans ho2⟩

end Go.Proofs.YtfodibjlldmnpaaDoor
/-
  The scanner: Number.
-/
namespace Go.Proofs.YtfodibjlldmnpaaDoor
open Go.RowKit

theorem numOf_take {l : List UInt8} {j : Nat} (h : j < l.length) : numOf (l.take (j + 1)) = numOf (l.take j) + (l.getD j 0).toNat * 256 ^ j := by
  induction j generalizing l with
  | zero =>
    cases l with
    | nil => simp at h
    | cons c r => simp [numOf]
  | succ j ih =>
    cases l with
    | nil => simp at h
    | cons c r =>
      have := ih (l := r) (by simpa using h)
      simp only [List.take_succ_cons, numOf, List.getD_cons_succ]
      rw [this, Nat.pow_succ, Nat.mul_add]
      rw [Nat.add_assoc, Nat.add_left_cancel_iff, Nat.add_left_cancel_iff, ← Nat.mul_assoc, Nat.mul_comm 256]
      rw [Nat.mul_assoc, Nat.mul_comm 256, ← Nat.mul_assoc]
theorem numOf_take_lt (l : List UInt8) (j : Nat) : numOf (l.take j) < 256 ^ j := by
  have h1 := numOf_lt (l.take j)
  have h2 : 256 ^ (l.take j).length ≤ 256 ^ j := Nat.pow_le_pow_right (by omega) (by simp; omega)
  omega
theorem ext_next {s : ByteArray} {j : Nat} (h : j < s.size) : (s.extract j s.size).extract 1 (s.extract j s.size).size = s.extract (j + 1) s.size ∧ 0 < (s.extract j s.size).size ∧ Sha.at8 (s.extract j s.size).data.toList 0 = Sha.at8 s.data.toList j := by
  have hz : (s.extract j s.size).size = s.size - j := by rw [ByteArray.size_extract]; omega
  refine ⟨?_, by omega, ?_⟩
  · apply Go.WideShapes.bytes_inj
    rw [hz, ext_list, ext_list, ext_list, List.drop_take, List.drop_drop, List.take_take]
    congr 1
    omega
  · rw [ext_list, Sha.at8, Sha.at8, List.getD_eq_getElem?_getD, List.getD_eq_getElem?_getD, List.getElem?_take, if_pos (by omega), List.getElem?_drop, Nat.add_zero]
theorem or64 {N c k : Nat} (hN : N < 2 ^ k) (hc : c < 256) (hk : k ≤ 24) {y : Int} (hy : y = ((c * 2 ^ k : Nat) : Int)) : bits .or .u64 (N : Int) y = ((N + c * 2 ^ k : Nat) : Int) := by
  subst hy
  have hp : 2 ^ k ≤ 2 ^ 24 := Nat.pow_le_pow_right (by omega) hk
  have hm : c * 2 ^ k ≤ 255 * 2 ^ 24 := Nat.mul_le_mul (by omega) hp
  have h1 : (BitVec.ofInt 64 (N : Int)).toNat = N := by rw [BitVec.toNat_ofInt]; omega
  have h2 : (BitVec.ofInt 64 ((c * 2 ^ k : Nat) : Int)).toNat = c * 2 ^ k := by rw [BitVec.toNat_ofInt]; omega
  show IntKind.u64.wrap ((BitVec.ofInt 64 (N : Int) ||| BitVec.ofInt 64 ((c * 2 ^ k : Nat) : Int)).toNat : Int) = _
  rw [BitVec.toNat_or, h1, h2]
  have h3 := Nat.shiftLeft_add_eq_or_of_lt hN c
  rw [Nat.shiftLeft_eq] at h3
  rw [Nat.or_comm, ← h3]
  have h4 : IntKind.u64.wrap ((c * 2 ^ k + N : Nat) : Int) = ((c * 2 ^ k + N : Nat) : Int) % 18446744073709551616 := by simp only [IntKind.wrap, IntKind.bits, IntKind.signed]; rfl
  rw [h4]
  omega
set_option maxRecDepth 100000 in
set_option maxHeartbeats 1000000 in
theorem number_yes (g n : Nat) (s : ByteArray) (w : World) (hr : Rd w g s) (hn : n ≤ s.size) (hn4 : n ≤ 4) (hs : s.size ≤ 140737488355328) :
    Calls Tryd.prog 115 #[.pointer (some ⟨g, 0, none⟩), .int .i64 n] w fun e w' => e = .returned (.int .u64 (numOf (s.data.toList.take n))) ∧ Rd w' g (s.extract n s.size) ∧ Other g w w' := by
  have hl : s.data.toList.length = s.size := size_toList s
  go_enter Tryd.func115, Tryd.ntmps115
  go_wp2_with fail
  go_loopw [5, 8] (fun vx vi wr => ∃ j : Nat, j ≤ n ∧ vi = .int .i64 j ∧ vx = .int .u64 (numOf (s.data.toList.take j)) ∧ Rd wr g (s.extract j s.size) ∧ Other g w wr) (fun _ vi _ => n - (intOf vi).toNat)
  case atStart => exact ⟨0, Nat.zero_le _, rfl, rfl, by rw [ByteArray.extract_zero_size]; exact hr, Other.refl _ _⟩
  case round =>
    obtain ⟨j, hj, rfl, rfl, hrd, ho⟩ := hrel
    by_cases hlt : j < n
    · obtain ⟨e1, e2, e3⟩ := ext_next (s := s) (j := j) (by omega)
      have hltI : (j : Int) < (n : Int) := by omega
      have HN := hide (numOf_take (l := s.data.toList) (j := j) (by omega))
      have hb := numOf_take_lt s.data.toList j
      obtain ⟨c, hc⟩ : ∃ c, c = (s.data.toList.getD j 0).toNat := ⟨_, rfl⟩
      have hc2 : c < 256 := by rw [hc]; exact (s.data.toList.getD j 0).toNat_lt
      have hc3 : Sha.at8 (s.extract j s.size).data.toList 0 = (c : Int) := by rw [e3, hc]; rfl
      rw [← hc] at HN
      obtain ⟨N, hN⟩ : ∃ N, N = numOf (s.data.toList.take j) := ⟨_, rfl⟩
      rw [← hN] at HN hb ⊢
      have HRD := hide hrd
      have HO := hide ho
      clear hrd ho hc hN
      go_wp2_with fail
      refine (byte_yes g (s.extract j s.size) wr (unhide HRD) e2 (by rw [ByteArray.size_extract]; omega)).mono ?_
      rintro _ w1 ⟨rfl, hr1, ho1⟩
      rw [hc3]
      rw [e1] at hr1
      have HR1 := hide (And.intro hr1 ((unhide HO).trans ho1))
      clear hr1 ho1 e1 e2 e3 hc3
      rcases (show j = 0 ∨ j = 1 ∨ j = 2 ∨ j = 3 by omega) with rfl | rfl | rfl | rfl
      · go_wp2_with fail
        go_roundw
        case rel =>
          refine ⟨1, by omega, by go_num, ?_, (unhide HR1).1, (unhide HR1).2⟩
          rw [unhide HN, or64 (k := 0) (by simpa using hb) hc2 (by omega) (by simp)]
        case measure => simp [intOf]; omega
      · go_wp2_with fail
        go_roundw
        case rel =>
          refine ⟨2, by omega, by go_num, ?_, (unhide HR1).1, (unhide HR1).2⟩
          rw [unhide HN, or64 (k := 8) (by simpa using hb) hc2 (by omega) (by simp)]
        case measure => simp [intOf]; omega
      · go_wp2_with fail
        go_roundw
        case rel =>
          refine ⟨3, by omega, by go_num, ?_, (unhide HR1).1, (unhide HR1).2⟩
          rw [unhide HN, or64 (k := 16) (by simpa using hb) hc2 (by omega) (by simp)]
        case measure => simp [intOf]; omega
      · go_wp2_with fail
        go_roundw
        case rel =>
          refine ⟨4, by omega, by go_num, ?_, (unhide HR1).1, (unhide HR1).2⟩
          rw [unhide HN, or64 (k := 24) (by simpa using hb) hc2 (by omega) (by simp)]
        case measure => simp [intOf]; omega
    · obtain rfl : j = n := by omega
      have HR := hide (And.intro hrd ho)
      clear hrd ho
      go_wp2_with fail
      go_ret
      exact ⟨rfl, unhide HR⟩

set_option maxRecDepth 100000 in
set_option maxHeartbeats 1000000 in
theorem number_no (g n : Nat) (s : ByteArray) (w : World) (hr : Rd w g s) (hn : s.size < n) (hn4 : n ≤ 4) :
    Calls Tryd.prog 115 #[.pointer (some ⟨g, 0, none⟩), .int .i64 n] w fun e w' => e = .panicked oops ∧ Other g w w' := by
  go_enter Tryd.func115, Tryd.ntmps115
  go_wp2_with fail
  go_loopw [5, 8] (fun vx vi wr => ∃ (j : Nat) (X : Int), j ≤ s.size ∧ vi = .int .i64 j ∧ vx = .int .u64 X ∧ Rd wr g (s.extract j s.size) ∧ Other g w wr) (fun _ vi _ => n - (intOf vi).toNat)
  case atStart => exact ⟨0, 0, Nat.zero_le _, rfl, rfl, by rw [ByteArray.extract_zero_size]; exact hr, Other.refl _ _⟩
  case round =>
    obtain ⟨j, X, hj, rfl, rfl, hrd, ho⟩ := hrel
    have hltI : (j : Int) < (n : Int) := by omega
    have HRD := hide hrd
    have HO := hide ho
    clear hrd ho
    by_cases hlt : j < s.size
    · obtain ⟨e1, e2, e3⟩ := ext_next (s := s) (j := j) (by omega)
      obtain ⟨c, hc⟩ : ∃ c, c = (s.data.toList.getD j 0).toNat := ⟨_, rfl⟩
      have hc2 : c < 256 := by rw [hc]; exact (s.data.toList.getD j 0).toNat_lt
      have hc3 : Sha.at8 (s.extract j s.size).data.toList 0 = (c : Int) := by rw [e3, hc]; rfl
      clear hc
      go_wp2_with fail
      refine (byte_yes g (s.extract j s.size) wr (unhide HRD) e2 (by rw [ByteArray.size_extract]; omega)).mono ?_
      rintro _ w1 ⟨rfl, hr1, ho1⟩
      rw [hc3]
      rw [e1] at hr1
      have HR1 := hide (And.intro hr1 ((unhide HO).trans ho1))
      clear hr1 ho1 e1 e2 e3 hc3
      rcases (show j = 0 ∨ j = 1 ∨ j = 2 ∨ j = 3 by omega) with rfl | rfl | rfl | rfl
      · go_wp2_with fail
        go_roundw
        case rel => exact ⟨1, _, by omega, by go_num, rfl, (unhide HR1).1, (unhide HR1).2⟩
        case measure => simp [intOf]; omega
      · go_wp2_with fail
        go_roundw
        case rel => exact ⟨2, _, by omega, by go_num, rfl, (unhide HR1).1, (unhide HR1).2⟩
        case measure => simp [intOf]; omega
      · go_wp2_with fail
        go_roundw
        case rel => exact ⟨3, _, by omega, by go_num, rfl, (unhide HR1).1, (unhide HR1).2⟩
        case measure => simp [intOf]; omega
      · go_wp2_with fail
        go_roundw
        case rel => exact ⟨4, _, by omega, by go_num, rfl, (unhide HR1).1, (unhide HR1).2⟩
        case measure => simp [intOf]; omega
    · obtain rfl : j = s.size := by omega
      go_wp2_with fail
      refine (byte_no g (s.extract s.size s.size) wr (unhide HRD) (by rw [ByteArray.size_extract]; omega)).mono ?_
      rintro _ w1 ⟨rfl, ho1⟩
      have HO1 := hide ((unhide HO).trans ho1)
      clear ho1
      go_wp2_with fail
      exact ⟨rfl, rfl, unhide HO1⟩

end Go.Proofs.YtfodibjlldmnpaaDoor
/-
  The scanner: Hash.
-/
namespace Go.Proofs.YtfodibjlldmnpaaDoor
open Go.RowKit

abbrev zerosC : List UInt8 := List.replicate 32 0
theorem step_copy_str {P : Program} {ops : Array Oper} {o : Oper} {a : Act} {w : World} {K : Act → World → Prop} {Q : Exit → Act → World → Prop} {E : Prop} (hgd : o.guard = none) (d s : Operand) (dT sT : TypeId)
    (ho : o.op = .call { callee := .builtin .copy, args := #[d, s], argTypes := #[dT, sT] }) (elem : TypeId) (hu : P.underlying dT = some (.slice elem)) (hsz : (P.info? elem).map (·.size) = some 1)
    (g dLen dCap : Nat) (key : ByteArray) (hd : a.eval d = .slice (some ⟨g, 0, none⟩) dLen dCap) (hs : a.eval s = .string key) (hle : key.size ≤ dLen)
    (cur : Array Value) (t : TypeId) (hg : w.heap[g]? = some (.cells cur t (0, 0))) (hfit : key.size ≤ cur.size)
    (h : ∀ w', w'.heap[g]? = some (.cells (u8s key.data.toList ++ cur.toList.drop key.size).toArray t (0, 0)) → Other g w w' → K (a.put o.dst (goInt key.size)) w') :
    if Region.wanted o (yielded ops a.tmps) = true then Oper.wp P o a w K Q else E := by
  have hw : Region.wanted o (yielded ops a.tmps) = true := by simp [Region.wanted, hgd]
  rw [if_pos hw]
  have hrun : (Builtin.copy_ #[dT, sT] o.type #[.slice (some ⟨g, 0, none⟩) dLen dCap, .string key]).run P w = .ok (goInt key.size) (w.setRow g (u8s key.data.toList ++ cur.toList.drop key.size).toArray) := by
    have := Lib.run_copy_row_string (P := P) w dT sT o.type elem g 0 dLen dCap key cur t hu hsz hg hle (by omega)
    simp only [List.take_zero, List.nil_append, Nat.zero_add] at this
    exact this
  unfold Oper.wp
  simp [execOp, ho, resolve, invoke, builtin, hd, hs, hrun, Result.andThen]
  exact h _ (setRow_heap _ _ _ _ _ _ hg) ⟨rfl, rfl, by simp, fun k _ hk => setRow_other _ _ k _ hk⟩

set_option maxRecDepth 100000 in
set_option maxHeartbeats 1000000 in
theorem hash_yes (g : Nat) (s : ByteArray) (w : World) (hr : Rd w g s) (hn : 32 ≤ s.size) (hs : s.size ≤ 140737488355328) :
    Calls Tryd.prog 121 #[.pointer (some ⟨g, 0, none⟩)] w fun e w' => e = .returned (.agg (brow (s.data.toList.take 32))) ∧ Rd w' g (s.extract 32 s.size) ∧ Other g w w' := by
  have hgl : g < w.heap.size := (Array.getElem?_eq_some_iff.1 hr).1
  obtain ⟨x, hx⟩ : ∃ x, x = s.extract 0 32 := ⟨_, rfl⟩
  have hx32 : x.size = 32 := by rw [hx, ByteArray.size_extract]; omega
  have hxl : x.data.toList = s.data.toList.take 32 := by rw [hx, ext_list, List.drop_zero]
  obtain ⟨D, hD⟩ : ∃ D, D = s.data.toList.take 32 := ⟨_, rfl⟩
  have hDl : D.length = 32 := by rw [hD, ← hxl, size_toList, hx32]
  have HX := hide (And.intro hx (hxl.trans hD.symm))
  have hr2 : Rd ((w.alloc (.cells (brow zerosC) 24)).alloc (.cells (brow zerosC) 24)).drew g s := by
    show ((w.alloc (.cells (brow zerosC) 24)).alloc (.cells (brow zerosC) 24)).heap[g]? = _
    rw [Below.heap_alloc _ _ _ (by simp; omega), Below.heap_alloc _ _ _ hgl]; exact hr
  have HR := hide hr2
  rw [← hD]
  clear hr hr2 hx hxl hD
  go_enter Tryd.func121, Tryd.ntmps121
  go_wp2_with fail
  go_region_held3 (fun _ => True) (trivial) (first
    | (go_at_call 114; go_must (refine (bytes_yes g 32 s _ (unhide HR) hn hs).mono ?_; rintro e w1 ⟨rfl, hr1, ho1⟩; rw [← (unhide HX).1]; have HR1 := hide (And.intro hr1 ho1); clear hr1 ho1))
    | (refine step_copy_str rfl (.tmp 4) (.tmp 6) 81 9 rfl 5 Tryd.underlying81 info5s (w.heap.size + 1) 32 32 x ?_ ?_ (by omega) (brow zerosC) 24 ?_ ?_ ?_
       · rfl
       · rfl
       · have := (unhide HR1).2.block (w.heap.size + 1) (by simp) (by omega)
         rw [this]
         have h2 := heap_alloc_new (w.alloc (.cells (brow zerosC) 24)) (.cells (brow zerosC) 24)
         have h3 : ((w.alloc (.cells (brow zerosC) 24)).alloc (.cells (brow zerosC) 24)).heap[w.heap.size + 1]? = some (.cells (brow zerosC) 24 (0, 0)) := by simpa using h2
         exact h3
       · rw [brow_size, hx32]; decide
       intro w2 hw2 ho2
       have HW2 := hide (And.intro hw2 ho2)
       clear hw2 ho2))
  have hrow : (u8s x.data.toList ++ (brow zerosC).toList.drop x.size).toArray = brow D := by
    rw [hx32, (unhide HX).2]
    simp [brow, zerosC]
  have hB : w2.heap[w.heap.size + 1]? = some (.cells (brow D) 24 (0, 0)) := by rw [← hrow]; exact (unhide HW2).1
  have hA : w2.heap[w.heap.size]? = some (.cells (brow zerosC) 24 (0, 0)) := by
    rw [(unhide HW2).2.block _ (by have := (unhide HR1).2.size; simp at this; omega) (by omega), (unhide HR1).2.block _ (by simp; omega) (by omega)]
    show ((w.alloc (.cells (brow zerosC) 24)).alloc (.cells (brow zerosC) 24)).heap[w.heap.size]? = _
    rw [Below.heap_alloc _ _ _ (by simp)]
    exact heap_alloc_new _ _
  have hrd : Rd w2 g (s.extract 32 s.size) := ((unhide HW2).2.block _ (Array.getElem?_eq_some_iff.1 (unhide HR1).1).1 (by omega)).trans (unhide HR1).1
  have hot : Other g w w2 := by
    have h1 := (unhide HR1).2
    have h2 := (unhide HW2).2
    have hs1 := h1.size
    simp at hs1
    refine ⟨h2.os.trans h1.os, h2.output.trans h1.output, by have := h2.size; omega, fun k hk hkg => (h2.block k (by omega) (by omega)).trans ((h1.block k (by simp; omega) hkg).trans ?_)⟩
    show ((w.alloc (.cells (brow zerosC) 24)).alloc (.cells (brow zerosC) 24)).heap[k]? = _
    rw [Below.heap_alloc _ _ _ (by simp; omega), Below.heap_alloc _ _ _ hk]
  have HBA := hide (And.intro hB (And.intro hA (And.intro hrd hot)))
  clear hB hA hrd hot hrow HR HR1 HW2
  go_wp2_with (first
    | (refine wpList_load_row rfl 24 (.tmp 3) rfl (w.heap.size + 1) ?_ 24 (brow D) (0, 0) _ ?_ Tryd.underlying24 rfl (rinfo hDl) ?_; · rfl
       · exact (unhide HBA).1)
    | (refine wpList_store_put rfl 24 (.tmp 2) (.tmp 8) rfl w.heap.size (brow D) ?_ ?_ 24 (brow zerosC) ?_ (rinfo hDl) ?_ (brow_one _) ?_
       · rfl
       · rfl
       · exact (unhide HBA).2.1
       · rw [brow_size, brow_size, hDl]; rfl
       intro w3 hp3))
  have HP3 := hide hp3
  clear hp3
  have h3 := unhide HP3
  have hot := (unhide HBA).2.2.2
  refine bodyPost_ret (v := .agg (brow D)) (results_cell_row Tryd.results121 _ _ w.heap.size 24 _ (0, 0) _ rfl h3.row Tryd.underlying24 rfl (rinfo hDl)) rfl ⟨rfl, (h3.other g (by omega)).trans (unhide HBA).2.2.1, ?_⟩
  exact ⟨h3.os.trans hot.os, h3.output.trans hot.output, by rw [h3.size]; exact hot.size, fun k hk hkg => (h3.other k (by omega)).trans (hot.block k hk hkg)⟩
set_option maxRecDepth 100000 in
set_option maxHeartbeats 1000000 in
theorem hash_no (g : Nat) (s : ByteArray) (w : World) (hr : Rd w g s) (hn : s.size < 32) :
    Calls Tryd.prog 121 #[.pointer (some ⟨g, 0, none⟩)] w fun e w' => e = .panicked oops ∧ Other g w w' := by
  have hgl : g < w.heap.size := (Array.getElem?_eq_some_iff.1 hr).1
  have hr2 : Rd ((w.alloc (.cells (brow zerosC) 24)).alloc (.cells (brow zerosC) 24)).drew g s := by
    show ((w.alloc (.cells (brow zerosC) 24)).alloc (.cells (brow zerosC) 24)).heap[g]? = _
    rw [Below.heap_alloc _ _ _ (by simp; omega), Below.heap_alloc _ _ _ hgl]; exact hr
  have HR := hide hr2
  clear hr hr2
  go_enter Tryd.func121, Tryd.ntmps121
  go_wp2_with fail
  have hout : ∀ w1, Other g ((w.alloc (.cells (brow zerosC) 24)).alloc (.cells (brow zerosC) 24)).drew w1 → Other g w w1 := fun w1 h1 => by
    have hs1 := h1.size
    simp at hs1
    refine ⟨h1.os, h1.output, by omega, fun k hk hkg => (h1.block k (by simp; omega) hkg).trans ?_⟩
    show ((w.alloc (.cells (brow zerosC) 24)).alloc (.cells (brow zerosC) 24)).heap[k]? = _
    rw [Below.heap_alloc _ _ _ (by simp; omega), Below.heap_alloc _ _ _ hk]
  have HOUT := hide hout
  clear hout
  refine wp_region_held_drew (S := fun _ => True) (by kernel_rfl) trivial (fun hHeld => ?_)
  refine wpAnyH_take (i := 0) (oi := { dst := some 4, op := Op.slice 24 (Operand.tmp 3) none none none, type := 81, pos := "scan.go:46", after := #[], guard := none }) (v := .slice (some ⟨w.heap.size + 1, 0, none⟩) 32 32) rfl (by kernel_rfl) (by kernel_rfl) (by kernel_rfl) (fun _ _ _ h => h) (Or.inl ⟨by kernel_rfl, fun W _ => by kernel_rfl⟩) hHeld ?_
  simp only [Act.put, List.setIfInBounds_toArray, List.set_cons_zero, List.set_cons_succ]
  refine wpAnyH_take (i := 1) (oi := { dst := some 5, op := Op.move (Operand.tmp 0), type := 150, pos := "scan.go:46", after := #[], guard := none }) (v := .pointer (some ⟨g, 0, none⟩)) rfl (by kernel_rfl) (by kernel_rfl) (by kernel_rfl) (fun _ _ _ h => h) (Or.inl ⟨by kernel_rfl, fun W _ => by kernel_rfl⟩) hHeld ?_
  simp only [Act.put, List.setIfInBounds_toArray, List.set_cons_zero, List.set_cons_succ]
  refine wpAnyH_ready (rs := [2]) (by kernel_rfl) (by simp) ?_
  refine AllReadyH.cons (o := { dst := some 6, op := Op.call { callee := Callee.value (Operand.func 114), args := #[Operand.tmp 5, Operand.const (Value.int IntKind.i64 32)], argTypes := #[150, 3] }, type := 9, pos := "scan.go:46", after := #[{ on := 1, ground := Ground.data }], guard := none }) rfl (fun K hK => ?_) AllReadyH.nil
  refine ite_wanted ?_ ?_
  · kernel_rfl
  clear hK
  go_simp
  refine (bytes_no g 32 s _ (unhide HR) hn (by omega) (by omega)).mono ?_
  rintro e w1 ⟨rfl, ho1⟩
  have ho2 := unhide HOUT w1 ho1
  go_wp2_with fail
  exact ⟨rfl, rfl, ho2⟩

end Go.Proofs.YtfodibjlldmnpaaDoor
