/-
  Lnum, Lfit, joined.
-/
import Derived.Test.YtfodibjlldmnpaaDoorLent
/-
  Logs, the reference: number, isOp, hasPath, isName.
-/
namespace Go.Proofs.YtfodibjlldmnpaaDoor
open Go.RowKit

/-- A number of some bytes, the low one first. -/
def numOf : List UInt8 → Nat
  | [] => 0
  | c :: r => c.toNat + 256 * numOf r
theorem numOf_lt : ∀ l : List UInt8, numOf l < 256 ^ l.length
  | [] => by simp [numOf]
  | c :: r => by
    have := numOf_lt r
    have := c.toNat_lt
    simp only [numOf, List.length_cons, Nat.pow_succ]
    omega
theorem numOf_drop {l : List UInt8} {j : Nat} (h : j < l.length) : numOf (l.drop j) = (l.getD j 0).toNat + 256 * numOf (l.drop (j + 1)) := by
  rw [List.drop_eq_getElem_cons h, numOf, List.getD_eq_getElem?_getD, List.getElem?_eq_getElem h]; rfl

set_option maxRecDepth 100000 in
theorem number_ref (s : ByteArray) (w : World) (hs : s.size ≤ 4) :
    Calls Tryd.prog 60 #[.string s] w fun e w' => e = .returned (.int .i64 (numOf s.data.toList)) ∧ w' = w := by
  have hl : s.data.toList.length = s.size := size_toList s
  go_enter Tryd.func60, Tryd.ntmps60
  go_wp2_with fail
  go_loop [3, 4] (fun vn vi => ∃ j : Nat, j ≤ s.size ∧ vi = .int .i64 ((j : Int) - 1) ∧ vn = .int .i64 (numOf (s.data.toList.drop j))) (fun _ vi => (intOf vi + 1).toNat)
  case atStart => exact ⟨s.size, Nat.le_refl _, rfl, by rw [List.drop_of_length_le (by omega)]; rfl⟩
  case round =>
    obtain ⟨j, hj, rfl, rfl⟩ := hrel
    by_cases h0 : 0 < j
    · obtain ⟨k, rfl⟩ : ∃ k, j = k + 1 := ⟨j - 1, by omega⟩
      have hd := hide (numOf_drop (l := s.data.toList) (j := k) (by omega))
      have hb := numOf_lt (s.data.toList.drop (k + 1))
      have hb2 : numOf (s.data.toList.drop (k + 1)) < 4294967296 := by
        have h1 : (s.data.toList.drop (k + 1)).length ≤ 3 := by simp; omega
        have h2 : 256 ^ (s.data.toList.drop (k + 1)).length ≤ 256 ^ 3 := Nat.pow_le_pow_right (by omega) h1
        omega
      have hk : k < s.size := by omega
      have hg := byte_get s k hk
      have hc := (s.data.toList.getD k 0).toNat_lt
      unfold Sha.at8 at hg
      generalize (s.data.toList.getD k 0).toNat = c at *
      generalize numOf (s.data.toList.drop (k + 1)) = N at *
      have e0 : ((k + 1 : Nat) : Int) - 1 = (k : Int) := by omega
      rw [e0]
      have hkI : (k : Int) < (s.size : Int) := by omega
      clear hb hl
      go_wp2_with fail
      go_round
      case rel => exact ⟨k, by omega, by go_num, by rw [unhide hd]; congr 1; omega⟩
      case measure => simp [intOf]
    · obtain rfl : j = 0 := by omega
      go_wp2_with fail
      go_ret
      exact ⟨rfl, rfl⟩

def opI (x : Int) : Bool := x == 80 || x == 71 || x == 68 || x == 76 || x == 84 || x == 82
def pathI (x : Int) : Bool := x == 80 || x == 71 || x == 68 || x == 76
set_option maxRecDepth 100000 in
theorem isOp_ref (x : Int) (w : World) : Calls Tryd.prog 105 #[.int .u8 x] w fun e w' => e = .returned (.bool (opI x)) ∧ w' = w := by
  go_enter Tryd.func105, Tryd.ntmps105
  go_wp2_with fail
  all_goals
    go_ret
    refine ⟨?_, rfl⟩
    simp [opI, *]
set_option maxRecDepth 100000 in
theorem hasPath_ref (x : Int) (w : World) : Calls Tryd.prog 107 #[.int .u8 x] w fun e w' => e = .returned (.bool (pathI x)) ∧ w' = w := by
  go_enter Tryd.func107, Tryd.ntmps107
  go_wp2_with fail
  all_goals
    go_ret
    refine ⟨?_, rfl⟩
    simp [pathI, *]

/-- A letter or a digit; of a path also a stroke. -/
def lowI (x : Int) : Bool := (decide (97 ≤ x) && decide (x ≤ 122)) || (decide (48 ≤ x) && decide (x ≤ 57))
def okI (slash : Bool) (x : Int) : Bool := lowI x || (slash && x == 47)
/-- A name, a path or a prefix. -/
def nameB (s : List UInt8) (most : Nat) (slash none : Bool) : Bool := s.all (fun c => okI slash (c.toNat : Int)) && (decide (s.length ≤ most) && (none || decide (0 < s.length)))

set_option maxRecDepth 100000 in
set_option maxHeartbeats 1000000 in
theorem isName_ref (s : ByteArray) (most : Nat) (slash none : Bool) (w : World) (hs : s.size ≤ 140737488355328) (_hm : most ≤ 100) :
    Calls Tryd.prog 106 #[.string s, .int .i64 most, .bool slash, .bool none] w fun e w' => e = .returned (.bool (nameB s.data.toList most slash none)) ∧ w' = w := by
  have hl : s.data.toList.length = s.size := size_toList s
  go_enter Tryd.func106, Tryd.ntmps106
  go_wp2_with fail
  go_loop [9] (fun vi => ∃ j : Nat, j ≤ s.size ∧ vi = .int .i64 j ∧ (s.data.toList.take j).all (fun c => okI slash (c.toNat : Int)) = true) (fun vi => s.size - (intOf vi).toNat)
  case atStart => exact ⟨0, Nat.zero_le _, rfl, rfl⟩
  case round =>
    obtain ⟨j, hj, rfl, hall⟩ := hrel
    by_cases hlt : j < s.size
    · have hg := byte_get s j hlt
      unfold Sha.at8 at hg
      have hst := hide (show (s.data.toList.take (j + 1)).all (fun c => okI slash (c.toNat : Int)) = ((s.data.toList.take j).all (fun c => okI slash (c.toNat : Int)) && okI slash ((s.data.toList.getD j 0).toNat : Int)) by
        rw [List.take_succ_eq_append_getElem (by omega), List.all_append, List.getD_eq_getElem?_getD, List.getElem?_eq_getElem (by omega)]
        simp)
      have hmem := hide (show s.data.toList.getD j 0 ∈ s.data.toList by rw [List.getD_eq_getElem?_getD, List.getElem?_eq_getElem (by omega)]; exact List.getElem_mem _)
      generalize hcd : s.data.toList.getD j 0 = c at *
      clear hcd
      obtain ⟨x, hx⟩ : ∃ x : Int, x = (c.toNat : Int) := ⟨_, rfl⟩
      rw [← hx] at hg hst
      have HX := hide hx
      have HA := hide hall
      have hltI : (j : Int) < (s.size : Int) := by omega
      clear hx hall
      have good := hide (show okI slash x = true → (s.data.toList.take (j + 1)).all (fun c => okI slash (c.toNat : Int)) = true from fun h => by rw [unhide hst, unhide HA, h]; rfl)
      have bad := hide (show okI slash x = false → nameB s.data.toList most slash none = false from fun h => by
        have : s.data.toList.all (fun c => okI slash (c.toNat : Int)) = false := by
          rw [List.all_eq_false]
          exact ⟨c, unhide hmem, by rw [← unhide HX, h]; simp⟩
        rw [nameB, this]; rfl)
      clear hst hmem HA HX
      rcases (show (97 ≤ x ∧ x ≤ 122) ∨ (48 ≤ x ∧ x ≤ 57) ∨ x < 47 ∨ x = 47 ∨ (57 < x ∧ x < 97) ∨ 122 < x by omega) with ⟨a1, a2⟩ | ⟨a1, a2⟩ | a1 | a1 | ⟨a1, a2⟩ | a1
      · go_wp2_with fail
        go_round
        case rel => exact ⟨j + 1, by omega, by go_num, unhide good (by simp [okI, lowI, a1, a2])⟩
        case measure => simp [intOf]; omega
      · go_wp2_with fail
        go_round
        case rel => exact ⟨j + 1, by omega, by go_num, unhide good (by simp [okI, lowI, a1, a2])⟩
        case measure => simp [intOf]; omega
      · cases slash
        · go_wp2_with fail
          go_ret
          exact ⟨by rw [unhide bad (by simp [okI, lowI]; omega)]; rfl, rfl⟩
        · go_wp2_with fail
          go_ret
          exact ⟨by rw [unhide bad (by simp [okI, lowI]; omega)]; rfl, rfl⟩
      · subst a1
        cases slash
        · go_wp2_with fail
          go_ret
          exact ⟨by rw [unhide bad (by simp [okI, lowI])]; rfl, rfl⟩
        · go_wp2_with fail
          go_round
          case rel => exact ⟨j + 1, by omega, by go_num, unhide good (by simp [okI])⟩
          case measure => simp [intOf]; omega
      · have b1 : ¬ x ≤ 57 := by omega
        have b2 : ¬ 97 ≤ x := by omega
        have b3 : ¬ x = 47 := by omega
        cases slash
        · go_wp2_with fail
          go_ret
          exact ⟨by rw [unhide bad (by simp [okI, lowI]; omega)]; rfl, rfl⟩
        · go_wp2_with fail
          go_ret
          exact ⟨by rw [unhide bad (by simp [okI, lowI]; omega)]; rfl, rfl⟩
      · have b1 : ¬ x ≤ 122 := by omega
        have b2 : ¬ x ≤ 57 := by omega
        have b3 : ¬ x = 47 := by omega
        cases slash
        · go_wp2_with fail
          go_ret
          exact ⟨by rw [unhide bad (by simp [okI, lowI]; omega)]; rfl, rfl⟩
        · go_wp2_with fail
          go_ret
          exact ⟨by rw [unhide bad (by simp [okI, lowI]; omega)]; rfl, rfl⟩
    · obtain rfl : j = s.size := by omega
      rw [List.take_of_length_le (by omega)] at hall
      have HN := hide (show nameB s.data.toList most slash none = (decide (s.size ≤ most) && (none || decide (0 < s.size))) by rw [nameB, hall, hl]; rfl)
      clear hall
      by_cases hsz : s.size ≤ most
      · cases none
        · go_wp2_with fail
          go_ret
          refine ⟨?_, rfl⟩
          rw [unhide HN]
          simp [hsz]
        · go_wp2_with fail
          go_ret
          refine ⟨?_, rfl⟩
          rw [unhide HN]
          simp [hsz]
      · go_wp2_with fail
        go_ret
        refine ⟨?_, rfl⟩
        rw [unhide HN]
        simp [hsz]

end Go.Proofs.YtfodibjlldmnpaaDoor
/-
  Logs, the reference: fits.
-/
namespace Go.Proofs.YtfodibjlldmnpaaDoor
open Go.RowKit

/-- Whether the op, the length of the path and the path fit. -/
def fitOp (op n : Int) (p : Bool) : Bool := !((pathI op && !p) || (!pathI op && n != 0) || (!opI op && op != 0))
/-- Whether the bytes are an entry's. -/
def fitsB (e : ByteArray) : Bool :=
  decide (70 ≤ e.size) && (decide (e.size = 135 + (e.data.toList.getD 69 0).toNat) &&
    (fitOp (Sha.at8 e.data.toList 36) (Sha.at8 e.data.toList 69) (nameB (e.extract 70 (70 + (e.data.toList.getD 69 0).toNat)).data.toList 16 true (Sha.at8 e.data.toList 36 == 76)) &&
      decide (Sha.at8 e.data.toList (102 + (e.data.toList.getD 69 0).toNat) ≤ 7)))

set_option maxRecDepth 100000 in
set_option maxHeartbeats 1000000 in
theorem fits_ref (e : ByteArray) (w : World) (he : e.size ≤ 140737488355328) :
    Calls Tryd.prog 99 #[.string e] w fun x w' => x = .returned (.bool (fitsB e)) ∧ w' = w := by
  by_cases h70 : 70 ≤ e.size
  · obtain ⟨k, hk⟩ : ∃ k, k = (e.data.toList.getD 69 0).toNat := ⟨_, rfl⟩
    have hk2 : k < 256 := by rw [hk]; exact (e.data.toList.getD 69 0).toNat_lt
    have b36 : 36 < e.size := by omega
    have b69 : 69 < e.size := by omega
    have hg36 := byte_get e 36 b36
    have hg69 := byte_get e 69 b69
    have h69 : Sha.at8 e.data.toList 69 = (k : Int) := by rw [hk]; rfl
    rw [h69] at hg69
    obtain ⟨op, hop⟩ : ∃ op, op = Sha.at8 e.data.toList 36 := ⟨_, rfl⟩
    rw [← hop] at hg36
    by_cases hsz : e.size = 135 + k
    · have b102 : 102 + k < e.size := by omega
      have hgk := byte_get e (102 + k) b102
      obtain ⟨x, hx⟩ : ∃ x, x = Sha.at8 e.data.toList (102 + k) := ⟨_, rfl⟩
      rw [← hx] at hgk
      obtain ⟨p, hp⟩ : ∃ p, p = nameB (e.extract 70 (70 + k)).data.toList 16 true (op == 76) := ⟨_, rfl⟩
      have HF := hide (show fitsB e = (fitOp op k p && decide (x ≤ 7)) by
        rw [fitsB, ← hk, ← hop, h69, ← hx, ← hp, decide_eq_true h70, decide_eq_true hsz, Bool.true_and, Bool.true_and])
      have HP := hide hp
      have hex : (e.extract 70 (70 + k)).size ≤ 140737488355328 := by rw [ByteArray.size_extract]; omega
      clear hk hop hx hp h69
      go_enter Tryd.func99, Tryd.ntmps99
      go_wp2_with fail
      refine (isOp_ref op w).mono ?_
      rintro _ w1 ⟨rfl, rfl⟩
      have hI1 : (70 : Int) ≤ 70 + (k : Int) := by omega
      have hI2 : 70 + (k : Int) ≤ (e.size : Int) := by omega
      have hT1 : (70 + (k : Int)).toNat = 70 + k := by omega
      have hT2 : (70 + (k : Int) + 32).toNat = 102 + k := by omega
      have hI3 : 70 + (k : Int) + 32 < (e.size : Int) := by omega
      go_wp2_with fail
      refine (isName_ref (e.extract 70 (70 + k)) 16 true (op == 76) w1 hex (by omega)).mono ?_
      rintro _ w2 ⟨rfl, rfl⟩
      rw [← unhide HP]
      go_wp2_with fail
      refine (hasPath_ref op w2).mono ?_
      rintro _ w3 ⟨rfl, rfl⟩
      obtain ⟨o, ho⟩ : ∃ o, o = opI op := ⟨_, rfl⟩
      obtain ⟨h, hh⟩ : ∃ h, h = pathI op := ⟨_, rfl⟩
      have HG := hide (show fitsB e = (!((h && !p) || (!h && (k : Int) != 0) || (!o && op != 0)) && decide (x ≤ 7)) by rw [unhide HF, fitOp, ← ho, ← hh])
      rw [← ho, ← hh]
      clear ho hh
      clear hex hg36 hg69 HF HP
      go_wp2_with fail
      all_goals
        go_ret
        refine ⟨?_, rfl⟩
        rw [unhide HG]
        simp_all
    · have HF := hide (show fitsB e = false by rw [fitsB, ← hk]; simp [hsz])
      clear hk hop h69
      go_enter Tryd.func99, Tryd.ntmps99
      go_wp2_with fail
      go_ret
      exact ⟨by rw [unhide HF]; rfl, rfl⟩
  · have HF := hide (show fitsB e = false by rw [fitsB]; simp [h70])
    go_enter Tryd.func99, Tryd.ntmps99
    go_wp2_with fail
    go_ret
    exact ⟨by rw [unhide HF]; rfl, rfl⟩

end Go.Proofs.YtfodibjlldmnpaaDoor
