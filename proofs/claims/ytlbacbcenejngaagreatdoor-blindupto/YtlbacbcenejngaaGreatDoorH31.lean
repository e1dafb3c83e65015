/-
  Sl Sm So Sp Ee Ef Eg Oa
-/
import Derived.Test.YtlbacbcenejngaaGreatDoorH30
import Derived.Test.YtlbacbcenejngaaGreatDoorH06
import Derived.Test.YtlbacbcenejngaaGreatDoorH02
import Derived.Test.YtlbacbcenejngaaGreatDoorH21
import Derived.Deep.DeepCutAuto
import Derived.Test.YtlbacbcenejngaaGreatDoorH29
import Derived.Test.YtlbacbcenejngaaGreatDoorH20
namespace Go.Proofs.YtlbacbcenejngaaGreatDoor
open Go.RowKit Go.MapKept
/-- How an element of a map reads: not at all. -/
def noRd (_ : Value) : Option (DataW Unit × List MemPlace) := some (.nil, [])
theorem key_str {s : ByteArray} (hs : s.size ≤ maxLen) : keyOf Tryz.prog 9 (.string s) = some (.string s.data.toList) := by
  simp [keyOf, mapKey, Tryz.underlying9, hs]
/-- The keys of a map in memory, as the shelf reads them. -/
theorem map_own {w : World} {b : Nat} {M : List (ByteArray × Value)} (h : MapAt .string skey w b M) (hs : ∀ p ∈ M, p.1.size ≤ maxLen) (hl : M.length ≤ maxLen) :
    ∃ D : DataW Unit, w.ownsMap Tryz.prog 9 noRd b M.length D ∧ (strKeys D).Perm (M.map fun p => p.1.data.toList) ∧ Maps.size D = M.length := by
  obtain ⟨es, clock, hb, hst, hk, he⟩ := h
  have hlen : es.size = M.length := by have := congrArg List.length he; simpa using this
  have hrd : ∀ x ∈ es.toList, ∃ s : ByteArray, x.key = .string s ∧ s.size ≤ maxLen := fun x hx => by
    obtain ⟨j, hj⟩ := List.getElem?_of_mem hx
    obtain ⟨p, hp, h1, _⟩ := entry_at he hj
    exact ⟨p.1, h1, hs p (List.mem_of_getElem? hp)⟩
  have hrg : ∀ x ∈ es.toList, ∀ s : ByteArray, x.key = .string s → s.size ≤ maxLen → WideElems.rd Tryz.prog 9 noRd x = some (.string s.data.toList, .nil) := fun x _ s h1 h2 => by
    simp [WideElems.rd, h1, key_str h2, noRd]
  refine ⟨_, ⟨es, clock, hb, ⟨by omega, hst, fun x hx => ?_⟩, by omega, rfl⟩, ?_, ?_⟩
  · obtain ⟨s, h1, h2⟩ := hrd x hx
    exact ⟨_, hrg x hx s h1 h2⟩
  · refine ((WideShapes.sorted_perm _).map _).trans ?_
    rw [List.map_map]
    have : (M.map fun p => p.1.data.toList) = es.toList.map ((fun p => _root_.Go.strOf p.1) ∘ WideElems.rg Tryz.prog 9 noRd) := by
      apply List.ext_getElem?
      intro j
      rw [List.getElem?_map, List.getElem?_map]
      cases hm : M[j]? with
      | none =>
        have : es.toList[j]? = none := by
          rw [List.getElem?_eq_none_iff] at hm ⊢
          simpa [hlen] using hm
        rw [this]; rfl
      | some p =>
        obtain ⟨e, h1, h2, _⟩ := at_entry he hm
        rw [h1]
        have hz := hs p (List.mem_of_getElem? hm)
        simp only [Option.map_some, Function.comp, Option.some.injEq, WideElems.rg, hrg e (List.mem_of_getElem? h1) p.1 h2 hz]
        rfl
    rw [this]
  · show List.length _ = _
    rw [(WideShapes.sorted_perm _).length_eq]
    simp [hlen]
theorem flat_join : ∀ xs : List (List UInt8), Lib.join xs [] = xs.flatten
  | [] => rfl
  | [x] => by simp [Lib.join, List.intercalate]
  | x :: y :: l => by
    have := flat_join (y :: l)
    simp only [Lib.join, List.intercalate, List.intersperse] at this ⊢
    simp only [List.flatten_cons, List.nil_append]
    rw [this]
    simp
theorem names_len (S : Sto) : S.names.length = S.paths.length := by simp [Sto.names]
theorem names_mem {S : Sto} {n : ByteArray} (h : n ∈ S.names) : ∃ p ∈ S.paths, p.1 = n := by
  simp only [Sto.names, List.mem_map, List.mem_mergeSort] at h
  obtain ⟨a, ⟨p, hp, rfl⟩, rfl⟩ := h
  exact ⟨p, hp, (bs_of p.1).symm⟩
def isFnd (S : Sto) (p n : ByteArray) : Bool := hasPre n p && decide (0 < (S.versOf n).length)
theorem fnd_snoc {S : Sto} {p : ByteArray} {i : Nat} (hi : i < S.names.length) : (S.names.take (i + 1)).filter (isFnd S p) = (S.names.take i).filter (isFnd S p) ++ (if isFnd S p (S.names.getD i .empty) then [S.names.getD i .empty] else []) := by
  rw [List.take_add_one, List.filter_append, List.getElem?_eq_getElem hi, List.getD_eq_getElem?_getD, List.getElem?_eq_getElem hi]
  simp only [Option.toList_some, Option.getD_some, List.filter_cons, List.filter_nil]
theorem fnd_sum (l : List ByteArray) (h : ∀ n ∈ l, n.size ≤ 16) : ((l.map txt).map (·.data.toList)).flatten.length ≤ l.length * 17 := by
  induction l with
  | nil => simp
  | cons a l ih =>
    have h1 := h a (.head _)
    have h2 := ih fun n hn => h n (.tail _ hn)
    have h3 := txt_size a
    simp only [List.map_cons, List.flatten_cons, List.length_append, List.length_cons, size_toList]
    omega
set_option maxRecDepth 100000 in
set_option maxHeartbeats 2000000 in
theorem list_go (B : Nat) (w : World) (sp tb pb : Nat) (L : PL) (S : Sto) (q : Rq) (h : StoAt B w sp tb pb L S) (hO : S.Ok) (hp : q.path.size ≤ 1000) :
    Calls Tryz.prog 143 #[.pointer (some ⟨sp, 0, none⟩), .agg q.cells] w (ocEnd B w sp L q (S.list q)) := by
  obtain ⟨i0, hi0, hz0, hz1, hz2⟩ := info_parts info9
  have H0 := hide (w2_start w q)
  have HS := hide (h.kept (unhide H0).kept)
  have hLl : L.ptrs.length = S.paths.length := by rw [h.vals]; simp [PL.ptrs, PL.vals]
  have hkey : (L.ptrs.map fun p => p.1.data.toList) = S.paths.map fun p => p.1.data.toList := by rw [h.vals]; simp [PL.ptrs, PL.vals]
  have hsm : ∀ p ∈ L.ptrs, p.1.size ≤ maxLen := fun p hp => by
    obtain ⟨e, he, rfl⟩ := List.mem_map.1 hp
    have := (hO.pth (e.1, e.2.x) (by rw [h.vals]; exact List.mem_map.2 ⟨e, he, rfl⟩)).1
    simp only at this ⊢
    unfold maxLen
    omega
  obtain ⟨D, hD1, hD2, hD3⟩ := map_own (unhide HS).paths hsm (by rw [hLl]; have := hO.paths; unfold maxLen; omega)
  have h16 := hO.paths
  have hsp : ((w.alloc (.cells q.cells 84)).alloc (.cells #[.int .i64 0, .string ⟨#[]⟩, .nilFunc] 86)).cell? ⟨sp, 2, none⟩ = some (.map (some pb)) := by show (w2 w q).cell? _ = _; rw [cell_of_row _ _ _ _ _ _ (unhide HS).at']; rfl
  have HD := hide (And.intro hD1 hD2)
  have hD4 : Maps.size D ≤ 16 := by omega
  have HKEY := hide hkey
  have HOK := hide hO
  clear h hD1 hD2 hD3 hLl hkey hsm hO
  go_enter Tryz.func143, Tryz.ntmps143
  go_wp2_with fail
  refine (callsIn_wide.1 (Tryz.maps_Keys_172 (some pb) (w2 w q))).mono ?_
  rintro _ _ ⟨rfl, rfl⟩
  go_wp2_with fail
  refine (callsIn_wide.1 (Tryz.slices_Sorted_keys_171_172 pb _ D noRd (w2 w q) (unhide HD).1 (by unfold maxLen; omega) (by omega))).mono ?_
  rintro _ w3 ⟨v, ss, rfl, hperm, hrow, _, hb3⟩
  have hnm : ss.mergeSort (fun x y => decide (x ≤ y)) = (S.paths.map fun p => p.1.data.toList).mergeSort (fun x y => decide (x ≤ y)) := mergeSort_of_perm (hperm.trans ((unhide HD).2.trans (by rw [unhide HKEY])))
  have hN : (ss.mergeSort (fun x y => decide (x ≤ y))).map encStr = S.names.map Value.string := by rw [hnm, Sto.names, List.map_map]; rfl
  have hNl : ss.length = S.names.length := by have := congrArg List.length hN; simpa using this
  rw [hN, hNl] at hrow
  have hn16 : S.names.length ≤ 16 := by rw [names_len]; omega
  have HNM := hide (show ∀ n ∈ S.names, n.size ≤ 16 from fun n hn => by obtain ⟨p, hp, rfl⟩ := names_mem hn; exact ((unhide HOK).pth p hp).1)
  have HW3 := hide ((unhide H0).next (((Kept.refl _ (w2 w q)).alloc (unhide H0).size (.cells #[.map (some pb)] 166)).trans ((Kept.of hb3).mono (by have := (unhide H0).size; simp; omega))))
  have HS3 := hide ((unhide HS).kept ((((Kept.refl _ (w2 w q)).alloc (Nat.le_refl _) (.cells #[.map (some pb)] 166)).trans ((Kept.of hb3).mono (by simp)))))
  have HN3 := hide hrow
  have HF := hide (show S.list q = ⟨0, bs (UInt8.ofNat (S.names.filter (isFnd S q.path)).length :: (S.names.filter (isFnd S q.path)).flatMap fun n => (txt n).data.toList), none⟩ from rfl)
  obtain ⟨ao, cap, rfl, hcap, hao⟩ := own_len hrow
  clear hb3 hperm hnm hN hNl hrow hsp HD HKEY H0 HS hD4 h16
  generalize w2 w q = wz
  have hsz3 := (unhide HW3).size
  obtain ⟨N, hNN⟩ : ∃ N, N = S.names := ⟨_, rfl⟩
  have HNN := hide hNN
  rw [← hNN] at hn16 hcap hao ⊢
  clear hNN
  go_wp2_with fail
  go_loopw [5, 15] (fun vf vi wr => ∃ i : Nat, i ≤ N.length ∧ vi = .int .i64 i ∧ wr.ownsRow w3.heap.size 9 1 vf ((N.take i).filter (isFnd S q.path)).length (((N.take i).filter (isFnd S q.path)).map fun n => .string (txt n)) ∧ Kept w3.heap.size w3 wr) (fun _ vi _ => N.length - (intOf vi).toNat)
  case atStart => exact ⟨0, Nat.zero_le _, rfl, World.ownsRow_nil _ _ _ _, Kept.refl _ _⟩
  case round =>
    obtain ⟨i, hi, rfl, hown, hk⟩ := hrel
    have HOWN := hide hown
    have HK := hide hk
    have hsz : w3.heap.size ≤ wr.heap.size := hk.size
    clear hown hk
    have HWR := hide ((unhide HW3).next ((unhide HK).mono hsz3))
    have HSR := hide ((unhide HS3).kept (unhide HK))
    have hfl : ((N.take i).filter (isFnd S q.path)).length ≤ 16 := by have := List.length_filter_le (isFnd S q.path) (N.take i); simp at this; omega
    by_cases hlt : i < N.length
    · obtain ⟨g, rfl⟩ := hao (by omega)
      have hiI : (i : Int) < (N.length : Int) := by omega
      have hiz : (0 : Int) ≤ (i : Int) := by omega
      have hc : wr.cell? ⟨g, i, none⟩ = some (.string (N.getD i .empty)) := by
        have h1 := own_kept (unhide HN3) (unhide HK)
        rw [← unhide HNN] at h1
        obtain ⟨g', c', e1, e2⟩ := own_cell h1 hlt
        cases e1
        rw [e2, List.getD_eq_getElem?_getD, List.getD_eq_getElem?_getD, List.getElem?_map, List.getElem?_eq_getElem hlt]; rfl
      have hq2 : wr.cell? ⟨w.heap.size, 2, none⟩ = some (.string q.path) := by rw [(unhide HWR).q.c 2]; rfl
      have hnz : (N.getD i .empty).size ≤ 16 := unhide HNM _ (by rw [← unhide HNN, List.getD_eq_getElem?_getD, List.getElem?_eq_getElem hlt]; exact List.getElem_mem hlt)
      have HSN := hide (show (N.take (i + 1)).filter (isFnd S q.path) = (N.take i).filter (isFnd S q.path) ++ (if isFnd S q.path (N.getD i .empty) then [N.getD i .empty] else []) by
        have := fnd_snoc (S := S) (p := q.path) (i := i) (by rw [← unhide HNN]; exact hlt)
        rw [← unhide HNN] at this; exact this)
      generalize N.getD i .empty = n at *
      have HP := hide (show isFnd S q.path n = (hasPre n q.path && decide (0 < (S.versOf n).length)) from rfl)
      go_wp2_with fail
      refine (hasPrefix_go n q.path wr (by omega) (by omega)).mono ?_
      rintro _ _ ⟨rfl, rfl⟩
      rename_i wr
      by_cases hpre : hasPre n q.path = true
      · rw [hpre]
        go_wp2_with fail
        refine (versionsOf_go B wr sp tb pb L S n (unhide HSR)).mono ?_
        rintro _ _ ⟨⟨vv, rfl, hvv⟩, rfl⟩
        rename_i wr
        obtain ⟨va, vc, rfl, _, _⟩ := own_len hvv
        clear hvv
        by_cases hvl : 0 < (S.versOf n).length
        · have hvI : (0 : Int) < ((S.versOf n).length : Int) := by omega
          have HT := hide (show isFnd S q.path n = true by rw [unhide HP, hpre]; simpa using hvl)
          generalize (S.versOf n).length = vl at *
          go_wp2_with fail
          refine (packText_go n wr (by omega)).mono ?_
          rintro _ w5 ⟨rfl, hb5⟩
          have HO5 := hide (own_kept (unhide HOWN) (Kept.of hb5))
          have HK5 := hide ((unhide HK).trans ((Kept.of hb5).mono hsz))
          have hsz5 : w3.heap.size ≤ w5.heap.size := (unhide HK5).size
          clear hb5
          go_wp2_with (refine wpList_halt2 (.tmp 30) (.tmp 33) 82 rfl ?_)
          refine Stp.mk ?_
          refine wpList_append_own _ ?_ (.tmp 30) (.tmp 33) 82 ?_ w3.heap.size 9 i0 (.string ByteArray.empty) 1 16 Tryz.underlying82 hi0 hz0 hz1 hz2 ?_ (by decide) u5 ((N.take i).filter (isFnd S q.path)).length (((N.take i).filter (isFnd S q.path)).map fun n => .string (txt n)) ?_ ?_ ⟨w5.heap.size, 0, none⟩ 1 1 [.string (txt n)] ?_ ?_ ?_ ?_ ?_ ?_ ?_ ?_
          · rfl
          · rfl
          · rfl
          · rfl
          · exact (unhide HO5).alloc _
          · rfl
          · rfl
          · exact news_any rfl
          · simp [Value.oneCell']
          · unfold maxLen; omega
          · omega
          · simp; omega
          intro v' w6 hown6 hgrow _
          have HO6 := hide hown6
          have HK6 := hide (own_grownk ((unhide HK5).alloc (unhide HK5).size _) ((unhide HO5).alloc _) hgrow (by simp; omega))
          clear hown6 hgrow
          simp only [Act.put, List.setIfInBounds_toArray, List.set_cons_zero, List.set_cons_succ]
          go_wp2_with fail
          go_roundw
          case rel =>
            refine ⟨i + 1, by omega, by go_num, ?_, unhide HK6⟩
            rw [unhide HSN, unhide HT]
            have := unhide HO6
            simpa using this
          case measure => simp [intOf]; omega
        · have hvI : ¬ (0 : Int) < ((S.versOf n).length : Int) := by omega
          have HT := hide (show isFnd S q.path n = false by rw [unhide HP, hpre]; simpa using hvl)
          generalize (S.versOf n).length = vl at *
          go_wp2_with fail
          go_roundw
          case rel =>
            refine ⟨i + 1, by omega, by go_num, ?_, unhide HK⟩
            rw [unhide HSN, unhide HT]
            have := unhide HOWN
            simpa using this
          case measure => simp [intOf]; omega
      · have hpf : hasPre n q.path = false := by simpa using hpre
        have HT := hide (show isFnd S q.path n = false by rw [unhide HP, hpf]; rfl)
        rw [hpf]
        go_wp2_with fail
        go_roundw
        case rel =>
          refine ⟨i + 1, by omega, by go_num, ?_, unhide HK⟩
          rw [unhide HSN, unhide HT]
          have := unhide HOWN
          simpa using this
        case measure => simp [intOf]; omega
    · obtain rfl : i = N.length := by omega
      have hiI : ¬ (N.length : Int) < (N.length : Int) := by omega
      have htk : N.take N.length = N := List.take_length
      rw [htk] at HOWN hfl
      have hFm : ∀ n ∈ N.filter (isFnd S q.path), n.size ≤ 16 := fun n hn => unhide HNM n (by rw [← unhide HNN]; exact (List.mem_filter.1 hn).1)
      have hsum := fnd_sum _ hFm
      rw [← unhide HNN] at HF
      clear hFm htk
      generalize N.filter (isFnd S q.path) = F at *
      obtain ⟨fo, fc, hfv, hfc, hfo⟩ := own_len (unhide HOWN)
      subst hfv
      have hu8 : ((F.length : Int) % 256) = ((UInt8.ofNat F.length).toNat : Int) := byte_nat F.length
      go_wp2_with fail
      refine (packByte_go' (UInt8.ofNat F.length) _ (by first | exact hu8 | (simp; omega)) wr).mono ?_
      rintro _ w5 ⟨rfl, hb5⟩
      have HW5 := hide ((unhide HWR).next ((Kept.of hb5).mono (unhide HWR).size))
      have HO5 := hide (own_kept (unhide HOWN) (Kept.of hb5))
      clear hb5
      by_cases hF0 : F.length = 0
      · have hFn : F = [] := List.length_eq_zero_iff.1 hF0
        subst hFn
        go_wp2_with fail
        refine (Tryz.strings_Join_none fo fc ⟨#[]⟩ w5).mono ?_
        rintro _ _ ⟨rfl, rfl⟩
        rename_i w5
        go_wp2_with (refine wpList_store_put rfl 86 (.tmp 4) (.tmp 43) rfl (w.heap.size + 1) (ocells 0 (bs [0]) .nilFunc) ?_ ?_ 86 (ocells 0 .empty .nilFunc) ?_ info86 rfl (oc_one _ _ rfl) ?_
                     · rfl
                     · rfl
                     · exact (unhide HW5).o
                     intro w6 hp6)
        exact oc_ret Tryz.results143 hp6.row (by rw [unhide HF]; exact ⟨⟨_, rfl, rfl⟩, (unhide HW5).put hp6⟩)
      · obtain ⟨fg, rfl⟩ := hfo (by omega)
        have hlen0 : (Lib.join ((F.map txt).map (·.data.toList)) (⟨#[]⟩ : ByteArray).data.toList).length ≤ 272 := by
          show (Lib.join ((F.map txt).map (·.data.toList)) []).length ≤ 272
          rw [flat_join]; omega
        have HJ := hide (show bs [UInt8.ofNat F.length] ++ (⟨(Lib.join ((F.map txt).map (·.data.toList)) (⟨#[]⟩ : ByteArray).data.toList).toArray⟩ : ByteArray) = bs (UInt8.ofNat F.length :: F.flatMap fun n => (txt n).data.toList) by
          show bs [UInt8.ofNat F.length] ++ bs (Lib.join ((F.map txt).map (·.data.toList)) []) = _
          rw [flat_join, ← bs_app, List.map_map]
          rfl)
        have hjs : (⟨(Lib.join ((F.map txt).map (·.data.toList)) (⟨#[]⟩ : ByteArray).data.toList).toArray⟩ : ByteArray).size ≤ 272 := by
          show (bs _).size ≤ 272
          rw [bs_size]; exact hlen0
        have HL := hide hlen0
        have hb1 : (bs [UInt8.ofNat F.length]).size = 1 := bs_size _
        clear hlen0 hsum
        go_wp2_with fail
        refine (show Calls Tryz.prog 173 #[.slice (some ⟨fg, 0, none⟩) F.length fc, .string ⟨#[]⟩] w5 _ from by
          have := Tryz.strings_Join fg 0 fc (F.map txt) ⟨#[]⟩ w5 (fun j x hx => by
            have hj : j < F.length := by have := (List.getElem?_eq_some_iff.1 hx).1; simpa using this
            obtain ⟨g', c', e1, e2⟩ := own_cell (unhide HO5) hj
            cases e1
            rw [Nat.zero_add, e2, List.getD_eq_getElem?_getD, List.getElem?_map]
            rw [List.getElem?_map] at hx
            cases hf : F[j]? with
            | none => rw [hf] at hx; cases hx
            | some y => rw [hf] at hx; cases hx; rfl) ((unhide HO5).lt fg rfl).2 (by simp; omega) (by simp; omega) (Nat.le_trans (unhide HL) (by decide))
          rw [List.length_map] at this
          exact this).mono ?_
        rintro _ w6 ⟨rfl, hb6⟩
        have HW6 := hide ((unhide HW5).next ((Kept.of hb6).mono (unhide HW5).size))
        clear hb6
        generalize (⟨(Lib.join ((F.map txt).map (·.data.toList)) (⟨#[]⟩ : ByteArray).data.toList).toArray⟩ : ByteArray) = J at *
        go_wp2_with (refine wpList_store_put rfl 86 (.tmp 4) (.tmp 43) rfl (w.heap.size + 1) (ocells 0 (bs [UInt8.ofNat F.length] ++ J) .nilFunc) ?_ ?_ 86 (ocells 0 .empty .nilFunc) ?_ info86 rfl (oc_one _ _ rfl) ?_
                     · rfl
                     · rfl
                     · exact (unhide HW6).o
                     intro w7 hp7)
        exact oc_ret Tryz.results143 hp7.row (by rw [unhide HF, ← unhide HJ]; exact ⟨⟨_, rfl, rfl⟩, (unhide HW6).put hp7⟩)
end Go.Proofs.YtlbacbcenejngaaGreatDoor
namespace Go.Proofs.YtlbacbcenejngaaGreatDoor
open Go.RowKit Go.MapKept
def deedV (r : Int) (p : Bool) (n : Nat) : Value := .agg #[.int .u8 r, .bool p, .func (.func n) #[] #[]]
/-- The table of deeds. -/
def deTab : List (Nat × Value) := [(80, deedV 2 true 140), (71, deedV 1 true 141), (68, deedV 2 true 142), (76, deedV 1 true 143), (84, deedV 4 false 144), (82, deedV 4 false 145)]
theorem und200 : Tryz.prog.underlying 200 = some (.map 5 199) := by kernel_rfl
set_option maxRecDepth 100000 in
set_option maxHeartbeats 1000000 in
theorem deeds_go (w : World) : Calls Tryz.prog 108 #[] w fun e w' => e = .returned (.map (some w.heap.size)) ∧ MapAt (.int .u8) bkey w' w.heap.size deTab ∧ Chg (fun _ => False) w w' := by
  have h0 := MapAt.new (.int .u8) bkey w
  have HC := hide (show Chg (fun i => i = w.heap.size) w (w.alloc (.map #[] 0)) from chg_alloc _ _ _)
  have hmm := @run_makeMap Tryz.prog
  go_enter Tryz.func108, Tryz.ntmps108
  go_wp2_with (first
    | (refine wpList_upd (M := []) rfl kkByte und200 _ _ _ (Or.inr rfl) h0 80 (deedV 2 true 140) rfl rfl rfl ?_
       intro w1 h1 c1 _
       have C1 := hide c1
       clear c1)
    | (refine wpList_upd rfl kkByte und200 _ _ _ (Or.inr rfl) h1 71 (deedV 1 true 141) rfl rfl rfl ?_
       intro w2 h2 c2 _
       have C2 := hide c2
       clear c2)
    | (refine wpList_upd rfl kkByte und200 _ _ _ (Or.inr rfl) h2 68 (deedV 2 true 142) rfl rfl rfl ?_
       intro w3 h3 c3 _
       have C3 := hide c3
       clear c3)
    | (refine wpList_upd rfl kkByte und200 _ _ _ (Or.inr rfl) h3 76 (deedV 1 true 143) rfl rfl rfl ?_
       intro w4 h4 c4 _
       have C4 := hide c4
       clear c4)
    | (refine wpList_upd rfl kkByte und200 _ _ _ (Or.inr rfl) h4 84 (deedV 4 false 144) rfl rfl rfl ?_
       intro w5 h5 c5 _
       have C5 := hide c5
       clear c5)
    | (refine wpList_upd rfl kkByte und200 _ _ _ (Or.inr rfl) h5 82 (deedV 4 false 145) rfl rfl rfl ?_
       intro w6 h6 c6 _
       have C6 := hide (And.intro h6 c6)
       clear c6 h0 h1 h2 h3 h4 h5 h6))
  go_ret
  refine ⟨rfl, (unhide C6).1, ?_⟩
  have := (((((unhide HC).trans (unhide C1)).trans (unhide C2)).trans (unhide C3)).trans (unhide C4)).trans ((unhide C5).trans (unhide C6).2)
  exact this.mono fun i hi e => absurd e (by omega)
theorem neq_fnil (w : World) : (binOp .neq 1 .nilFunc .nilFunc).run Tryz.prog w = .ok (.bool false) w := by kernel_rfl
theorem neq_fsome (n : Nat) (b : Array Value) (w : World) : (binOp .neq 1 (.func (.func n) #[] b) .nilFunc).run Tryz.prog w = .ok (.bool true) w := by kernel_rfl
set_option maxRecDepth 100000 in
theorem changes_no (e : Nat) (more : ByteArray) (w : World) : Calls Tryz.prog 39 #[.agg (ocells e more .nilFunc)] w fun r w' => r = .returned (.bool false) ∧ Kept w.heap.size w w' := by
  have hc : (w.alloc (.cells (ocells e more .nilFunc) 86)).cell? ⟨w.heap.size, 2, none⟩ = some .nilFunc := by rw [cell_of_row _ _ _ _ _ _ (heap_alloc_new _ _)]; rfl
  have HK := hide ((Kept.refl w.heap.size w).alloc (Nat.le_refl _) (.cells (ocells e more .nilFunc) 86))
  have hn := neq_fnil
  generalize ocells e more .nilFunc = cs at *
  go_enter Tryz.func39, Tryz.ntmps39
  go_wp2_with fail
  go_ret
  exact ⟨rfl, unhide HK⟩
set_option maxRecDepth 100000 in
theorem changes_yes (e : Nat) (more : ByteArray) (n : Nat) (b : Array Value) (w : World) : Calls Tryz.prog 39 #[.agg (ocells e more (.func (.func n) #[] b))] w fun r w' => r = .returned (.bool true) ∧ Kept w.heap.size w w' := by
  have hc : (w.alloc (.cells (ocells e more (.func (.func n) #[] b)) 86)).cell? ⟨w.heap.size, 2, none⟩ = some (.func (.func n) #[] b) := by rw [cell_of_row _ _ _ _ _ _ (heap_alloc_new _ _)]; rfl
  have HK := hide ((Kept.refl w.heap.size w).alloc (Nat.le_refl _) (.cells (ocells e more (.func (.func n) #[] b)) 86))
  have hn := neq_fsome n b
  generalize ocells e more (.func (.func n) #[] b) = cs at *
  go_enter Tryz.func39, Tryz.ntmps39
  go_wp2_with fail
  go_ret
  exact ⟨rfl, unhide HK⟩
/-- A new store. -/
def sto0 (root : ByteArray) : Sto := ⟨root, [(root, ⟨.empty, 7⟩)], []⟩
set_option maxRecDepth 100000 in
set_option maxHeartbeats 1000000 in
theorem newSto_go (B : Nat) (w : World) (root : ByteArray) (hr : root.size ≤ 1000) (hB : B ≤ w.heap.size) :
    Calls Tryz.prog 64 #[.string root] w fun e w' => ∃ sp tb pb, e = .returned (.pointer (some ⟨sp, 0, none⟩)) ∧ StoAt B w' sp tb pb [] (sto0 root) ∧ (∀ k, Sft sp tb pb [] k → w.heap.size ≤ k) ∧ Kept w.heap.size w w' := by
  have hmm := @run_makeMap Tryz.prog
  go_enter Tryz.func64, Tryz.ntmps64
  go_wp2_with fail
  refine (clone_go root w (by omega)).mono ?_
  rintro _ w1 ⟨rfl, hk1⟩
  have hs1 := hk1.size
  have HK1 := hide hk1
  have h0 := MapAt.new .string skey w1
  clear hk1
  go_wp2_with (first
    | (refine wpList_upd (M := []) rfl kkStr und165 _ _ _ (Or.inr rfl) h0 root (Tok.enc ⟨.empty, 7⟩) rfl rfl rfl ?_
       intro w2 h2 c2 hz2
       have H2 := hide h2
       have C2 := hide c2
       clear h0 h2 c2))
  go_ret
  have hz : w2.heap.size = w1.heap.size + 1 := by simpa using hz2
  obtain ⟨w3, hw3⟩ : ∃ w3, w3 = w2.alloc (.map #[] 0) := ⟨_, rfl⟩
  rw [← hw3]
  have hz3 : w3.heap.size = w1.heap.size + 2 := by rw [hw3]; simp [hz]
  have hp3 : MapAt .string skey w3 (w1.heap.size + 1) [] := by have := MapAt.new .string skey w2; rw [hz, ← hw3] at this; exact this
  have ht3 : MapAt .string skey w3 w1.heap.size (putM root (Tok.enc ⟨.empty, 7⟩) []) := (unhide H2).stay (by rw [hw3]; exact Below.heap_alloc _ _ _ (by omega))
  have hal : ∀ k, k < w1.heap.size + 2 → ∀ o, (w3.alloc o).heap[k]? = w3.heap[k]? := fun k hk o => Below.heap_alloc _ _ _ (by omega)
  have hnew := heap_alloc_new w3 (.cells #[.string root, .map (some w1.heap.size), .map (some (w1.heap.size + 1))] 168)
  rw [hz3] at hnew
  refine ⟨w1.heap.size + 2, w1.heap.size, w1.heap.size + 1, rfl, ⟨hnew, ?_, ?_, rfl, Fam.nil, ⟨by omega, by omega, by omega⟩, by omega⟩, fun k hk => ?_, ?_⟩
  · exact ht3.stay (hal _ (by omega) _)
  · exact hp3.stay (hal _ (by omega) _)
  · rcases hk with rfl | rfl | rfl | ⟨e, he, _⟩
    · omega
    · omega
    · omega
    · cases he
  · have k1 := (unhide HK1)
    have c2 : Chg (fun _ => False) w w3 := by
      refine (k1.chg).trans' (S' := fun k => k = w1.heap.size) ?_ fun i hi e => by omega
      refine ((chg_alloc _ w1 _).trans (unhide C2)).trans ?_
      rw [hw3]
      exact chg_alloc _ _ _
    exact (c2.trans (chg_alloc _ _ _)).kept
end Go.Proofs.YtlbacbcenejngaaGreatDoor
namespace Go.Proofs.YtlbacbcenejngaaGreatDoor
open Go.RowKit Go.MapKept
theorem Bx.kept {n0 : Nat} {w w' : World} {sp b2 b3 : Nat} {q : Rq} (h : Bx n0 w sp b2 b3 q) (hk : Kept w.heap.size w w') : Bx n0 w' sp b2 b3 q :=
  ⟨(hk.block _ (Array.getElem?_eq_some_iff.1 h.s).1).trans h.s, (hk.block _ h.q.lt).trans h.q, h.ge⟩
theorem Clo.kept {B n0 : Nat} {w w' : World} {sp : Nat} {L : PL} {q : Rq} {F : Value} {c : Option Cg} (h : Clo B n0 w sp L q F c) (hk : Kept w.heap.size w w') : Clo B n0 w' sp L q F c := by
  cases c with
  | none => exact h
  | some c =>
    cases c with
    | grant => obtain ⟨b2, b3, hF, hb⟩ := h; exact ⟨b2, b3, hF, hb.kept hk⟩
    | revoke => obtain ⟨b2, b3, hF, hb⟩ := h; exact ⟨b2, b3, hF, hb.kept hk⟩
    | drop => obtain ⟨b2, b3, hF, hb⟩ := h; exact ⟨b2, b3, hF, hb.kept hk⟩
    | put =>
      obtain ⟨b2, b3, b5, pp, hF, hb, h5, hn5, hp⟩ := h
      refine ⟨b2, b3, b5, pp, hF, hb.kept hk, (hk.block _ (Array.getElem?_eq_some_iff.1 h5).1).trans h5, hn5, hp.imp id fun ⟨h1, h2, h3, h4⟩ => ⟨h1, h2, ⟨(hk.block _ (Array.getElem?_eq_some_iff.1 h3.1).1).trans h3.1, own_kept h3.2.1 hk, h3.2.2⟩, h4⟩⟩
theorem Clo.fn {B n0 : Nat} {w : World} {sp : Nat} {L : PL} {q : Rq} {F : Value} {c : Cg} (h : Clo B n0 w sp L q F (some c)) : ∃ n b, F = .func (.func n) #[] b := by
  cases c with
  | grant => obtain ⟨b2, b3, hF, _⟩ := h; exact ⟨_, _, hF⟩
  | revoke => obtain ⟨b2, b3, hF, _⟩ := h; exact ⟨_, _, hF⟩
  | drop => obtain ⟨b2, b3, hF, _⟩ := h; exact ⟨_, _, hF⟩
  | put => obtain ⟨b2, b3, b5, pp, hF, _⟩ := h; exact ⟨_, _, hF⟩
theorem Clo.one {B n0 : Nat} {w : World} {sp : Nat} {L : PL} {q : Rq} {F : Value} {c : Option Cg} (h : Clo B n0 w sp L q F c) : F.oneCell' = true := by
  cases c with
  | none => rw [show F = .nilFunc from h]; rfl
  | some c => obtain ⟨n, b, rfl⟩ := h.fn; rfl
theorem cyEnd.from {B n0 : Nat} {w w1 w' : World} {sp tb pb : Nat} {L : PL} {S : Sto} {e : Ending} (hk : Kept w.heap.size w w1) (h : cyEnd B n0 w1 sp tb pb L S e w') : cyEnd B n0 w sp tb pb L S e w' := by
  obtain ⟨h1, L', h2, h3, h4, h5⟩ := h
  exact ⟨h1, L', h2, (hk.chg.mono (S' := fun k => Sft sp tb pb L k ∨ n0 ≤ k) fun _ _ e => e.elim).trans h3, h4, hk.stay.trans h5⟩
set_option maxRecDepth 100000 in
set_option maxHeartbeats 1000000 in
theorem carry_no (e : Nat) (more : ByteArray) (w : World) : Calls Tryz.prog 44 #[.agg (ocells e more .nilFunc)] w fun r w' => r = .returned (.tuple #[]) ∧ Kept w.heap.size w w' := by
  have HK := hide ((Kept.refl w.heap.size w).alloc (Nat.le_refl _) (.cells (ocells e more .nilFunc) 86))
  have hr := heap_alloc_new w (.cells (ocells e more .nilFunc) 86)
  go_enter Tryz.func44, Tryz.ntmps44
  go_wp2_with (refine wpList_load_row rfl 86 (.tmp 1) rfl w.heap.size ?_ 86 (ocells e more .nilFunc) (0, 0) _ ?_ Tryz.underlying86 rfl info86 ?_; · rfl
               · exact hr)
  refine (changes_no e more _).mono ?_
  rintro _ w1 ⟨rfl, hk1⟩
  have HK1 := hide ((unhide HK).trans (hk1.mono (by simp)))
  clear hk1 hr
  go_wp2_with fail
  refine end0 rfl rfl ?_
  exact ⟨rfl, unhide HK1⟩
set_option maxRecDepth 100000 in
set_option maxHeartbeats 2000000 in
theorem carry_go (B n0 : Nat) (w : World) (sp tb pb : Nat) (L : PL) (S : Sto) (q : Rq) (F : Value) (h : StoAt B w sp tb pb L S) (hF : Clo B n0 w sp L q F (S.ask q).ch) (hO : S.Ok) (hq : q.Ok) (hB : B ≤ w.heap.size) (hn0 : n0 ≤ w.heap.size) (hf : ∀ k, Sft sp tb pb L k → k < n0) :
    Calls Tryz.prog 44 #[.agg (ocells (S.ask q).err (S.ask q).more F)] w (cyEnd B n0 w sp tb pb L (S.then q (S.ask q))) := by
  cases hc : (S.ask q).ch with
  | none =>
    rw [hc] at hF
    obtain rfl : F = .nilFunc := hF
    refine (carry_no _ _ w).mono ?_
    rintro _ w1 ⟨rfl, hk⟩
    rw [Sto.then, hc]
    exact ⟨rfl, L, h.kept hk, hk.chg.mono fun _ _ e => e.elim, fun k hk => .inl hk, hk.stay.mono (by simp)⟩
  | some c =>
    rw [hc] at hF
    have HT := hide (show S.then q (S.ask q) = S.carry q c by rw [Sto.then, hc])
    have hd := deed_ch (ask_ch hc)
    generalize (S.ask q).err = e at *
    generalize (S.ask q).more = more at *
    have HKB := hide ((Kept.refl w.heap.size w).alloc (Nat.le_refl _) (.cells (ocells e more F) 86))
    have hr := heap_alloc_new w (.cells (ocells e more F) 86)
    obtain ⟨n, b, hFn⟩ := hF.fn
    have HF := hide hF
    have HS := hide h
    have HD := hide hd
    have HO := hide hO
    have HQ := hide hq
    have HC := hide hf
    clear hF h hd hO hq hc hf
    subst hFn
    go_enter Tryz.func44, Tryz.ntmps44
    go_wp2_with (refine wpList_load_row rfl 86 (.tmp 1) rfl w.heap.size ?_ 86 (ocells e more (.func (.func n) #[] b)) (0, 0) _ ?_ Tryz.underlying86 rfl info86 ?_; · rfl
                 · exact hr)
    refine (changes_yes e more n b _).mono ?_
    rintro _ w1 ⟨rfl, hk1⟩
    have hc2 : w1.cell? ⟨w.heap.size, 2, none⟩ = some (.func (.func n) #[] b) := by rw [cell_of_row _ _ _ _ _ _ ((hk1.block _ (by simp)).trans hr)]; rfl
    have HK1 := hide ((unhide HKB).trans (hk1.mono (by simp)))
    have HS1 := hide ((unhide HS).kept (unhide HK1))
    have HF1 := hide ((unhide HF).kept (unhide HK1))
    have hs1 := (unhide HK1).size
    clear hk1 hr HKB HF HS
    cases c with
    | grant =>
      obtain ⟨b2, b3, hFe, hb⟩ := unhide HF1
      cases hFe
      have HBX := hide hb
      clear hb HF1
      go_wp2_with fail
      refine (grantC_go B n0 w1 sp tb pb b2 b3 L S q (unhide HS1) (unhide HBX) (by have := (unhide HQ).name; omega) (by have := (unhide HQ).pre; omega)).mono ?_
      rintro e' w2 hcy
      obtain ⟨rfl, _⟩ := hcy.1
      go_wp2_with fail
      refine end0 rfl rfl ?_
      rw [unhide HT]
      exact hcy.from (unhide HK1)
    | revoke =>
      obtain ⟨b2, b3, hFe, hb⟩ := unhide HF1
      cases hFe
      have HBX := hide hb
      clear hb HF1
      go_wp2_with fail
      refine (revokeC_go B n0 w1 sp tb pb b2 b3 L S q (unhide HS1) (unhide HBX)).mono ?_
      rintro e' w2 hcy
      obtain ⟨rfl, _⟩ := hcy.1
      go_wp2_with fail
      refine end0 rfl rfl ?_
      rw [unhide HT]
      exact hcy.from (unhide HK1)
    | drop =>
      obtain ⟨b2, b3, hFe, hb⟩ := unhide HF1
      cases hFe
      have HBX := hide hb
      have hv : (S.versOf q.path).length ≠ 0 := by
        rcases unhide HD with ⟨e, _⟩ | ⟨_, hv⟩ | ⟨e, _⟩ | ⟨e, _⟩
        · cases e
        · exact hv
        · cases e
        · cases e
      clear hb HF1
      go_wp2_with fail
      refine (dropC_go B n0 w1 sp tb pb b2 b3 L S q (unhide HS1) (unhide HBX) hv).mono ?_
      rintro e' w2 hcy
      obtain ⟨rfl, _⟩ := hcy.1
      go_wp2_with fail
      refine end0 rfl rfl ?_
      rw [unhide HT]
      exact hcy.from (unhide HK1)
    | put =>
      obtain ⟨b2, b3, b5, pp, hFe, hb, h5, hn5, hp⟩ := unhide HF1
      cases hFe
      have HBX := hide (And.intro hb (And.intro h5 hp))
      clear hb HF1 h5 hp hn5
      go_wp2_with fail
      refine (putC_go B n0 w1 sp tb pb b2 b3 b5 pp L S q (unhide HS1) (unhide HBX).1 (unhide HBX).2.1 (by omega) (by omega) (unhide HC) (fun p hp => by have := (unhide HO).lk hp; omega) (by have := (unhide HQ).fit.1; omega) (by have := (unhide HQ).value; omega) (unhide HBX).2.2).mono ?_
      rintro e' w2 hcy
      obtain ⟨rfl, _⟩ := hcy.1
      go_wp2_with fail
      refine end0 rfl rfl ?_
      rw [unhide HT]
      exact hcy.from (unhide HK1)
end Go.Proofs.YtlbacbcenejngaaGreatDoor
namespace Go.Proofs.YtlbacbcenejngaaGreatDoor
open Go.RowKit Go.MapKept
theorem and_u8 (a b : UInt8) : bits .and .u8 (a.toNat : Int) (b.toNat : Int) = ((a &&& b).toNat : Int) := by
  show IntKind.u8.wrap ((BitVec.ofInt 8 (a.toNat : Int) &&& BitVec.ofInt 8 (b.toNat : Int)).toNat : Int) = _
  have ha : (BitVec.ofInt 8 (a.toNat : Int)).toNat = a.toNat := by rw [BitVec.toNat_ofInt]; have := a.toNat_lt; omega
  have hb : (BitVec.ofInt 8 (b.toNat : Int)).toNat = b.toNat := by rw [BitVec.toNat_ofInt]; have := b.toNat_lt; omega
  rw [BitVec.toNat_and, ha, hb, UInt8.toNat_and]
  have h1 : a.toNat &&& b.toNat ≤ a.toNat := Nat.and_le_left
  have := a.toNat_lt
  simp [IntKind.wrap, IntKind.bits, IntKind.signed]
  omega
theorem ent140 (args : Array Value) (w : World) : (callFunc 140 args).run Tryz.prog w = .ok (.enter 140 args) w := call_enter Tryz.func140 (by kernel_rfl) rfl args w
theorem ent141 (args : Array Value) (w : World) : (callFunc 141 args).run Tryz.prog w = .ok (.enter 141 args) w := call_enter Tryz.func141 (by kernel_rfl) rfl args w
theorem ent142 (args : Array Value) (w : World) : (callFunc 142 args).run Tryz.prog w = .ok (.enter 142 args) w := call_enter Tryz.func142 (by kernel_rfl) rfl args w
theorem ent143 (args : Array Value) (w : World) : (callFunc 143 args).run Tryz.prog w = .ok (.enter 143 args) w := call_enter Tryz.func143 (by kernel_rfl) rfl args w
theorem ent144 (args : Array Value) (w : World) : (callFunc 144 args).run Tryz.prog w = .ok (.enter 144 args) w := call_enter Tryz.func144 (by kernel_rfl) rfl args w
theorem ent145 (args : Array Value) (w : World) : (callFunc 145 args).run Tryz.prog w = .ok (.enter 145 args) w := call_enter Tryz.func145 (by kernel_rfl) rfl args w
theorem Sto.Ok.vers {S : Sto} (h : S.Ok) (n : ByteArray) : (∀ v ∈ S.versOf n, v.2.size ≤ 40) ∧ (S.versOf n).length ≤ 1000 := by
  unfold Sto.versOf
  split
  · rename_i p hp
    have := h.lk hp
    exact ⟨this.2.2, by omega⟩
  · exact ⟨by simp, by simp⟩
def isAnOp (op : UInt8) : Prop := op.toNat = 80 ∨ op.toNat = 71 ∨ op.toNat = 68 ∨ op.toNat = 76 ∨ op.toNat = 84 ∨ op.toNat = 82
theorem Rq.Ok.isOp {q : Rq} (h : q.Ok) : isAnOp q.op := by
  have h1 := h.fit.2
  have h0 : q.op.toNat ≠ 0 := fun e => h.op (UInt8.toNat_inj.1 e)
  unfold isAnOp
  simp only [fitOp, opI, Bool.not_eq_true', Bool.or_eq_false_iff, Bool.and_eq_false_iff, Bool.not_eq_false', Bool.or_eq_true, beq_iff_eq, bne_eq_false_iff_eq] at h1
  omega
theorem de_cases {op : UInt8} (h : isAnOp op) : ∃ n, lk op.toNat deTab = some (deedV ((rightOf op).toNat : Int) (inPath op) n) ∧ (∀ args w, (callFunc n args).run Tryz.prog w = .ok (.enter n args) w) ∧
    ∀ (B : Nat) (w : World) (sp tb pb : Nat) (L : PL) (S : Sto) (q : Rq), q.op = op → StoAt B w sp tb pb L S → S.Ok → q.Ok → B ≤ w.heap.size → Calls Tryz.prog n #[.pointer (some ⟨sp, 0, none⟩), .agg q.cells] w (ocEnd B w sp L q (S.deed q)) := by
  rcases h with h | h | h | h | h | h
  · refine ⟨140, by unfold rightOf inPath; rw [h]; rfl, ent140, fun B w sp tb pb L S q hq hS hO hQ hB => ?_⟩
    have : S.deed q = S.put q := by unfold Sto.deed; rw [hq, h]; rfl
    rw [this]
    exact put_go B w sp tb pb L S q hS hB fun p hp => (hO.lk hp).1
  · refine ⟨141, by unfold rightOf inPath; rw [h]; rfl, ent141, fun B w sp tb pb L S q hq hS hO hQ hB => ?_⟩
    have : S.deed q = S.get q := by unfold Sto.deed; rw [hq, h]; rfl
    rw [this]
    exact get_go B w sp tb pb L S q hS (hO.vers _).1 (hO.vers _).2
  · refine ⟨142, by unfold rightOf inPath; rw [h]; rfl, ent142, fun B w sp tb pb L S q hq hS hO hQ hB => ?_⟩
    have : S.deed q = S.drop q := by unfold Sto.deed; rw [hq, h]; rfl
    rw [this]
    exact drop_go B w sp tb pb L S q hS
  · refine ⟨143, by unfold rightOf inPath; rw [h]; rfl, ent143, fun B w sp tb pb L S q hq hS hO hQ hB => ?_⟩
    have : S.deed q = S.list q := by unfold Sto.deed; rw [hq, h]; rfl
    rw [this]
    exact list_go B w sp tb pb L S q hS hO (by have := hQ.fit.1; omega)
  · refine ⟨144, by unfold rightOf inPath; rw [h]; rfl, ent144, fun B w sp tb pb L S q hq hS hO hQ hB => ?_⟩
    have : S.deed q = S.grant q := by unfold Sto.deed; rw [hq, h]; rfl
    rw [this]
    exact grant_go B w sp tb pb L S q hS
  · refine ⟨145, by unfold rightOf inPath; rw [h]; rfl, ent145, fun B w sp tb pb L S q hq hS hO hQ hB => ?_⟩
    have : S.deed q = S.revoke q := by unfold Sto.deed; rw [hq, h]; rfl
    rw [this]
    exact revoke_go B w sp tb pb L S q hS
/-- A closure stays, when the result's block is written: it is older than all that the closure has. -/
theorem Clo.put {B n0 : Nat} {w5 w6 w7 : World} {sp : Nat} {L : PL} {q : Rq} {F : Value} {c : Option Cg} {b : Nat} {cs : Array Value} (h : Clo B w5.heap.size w6 sp L q F c) (hw : n0 ≤ w5.heap.size) (hb : b + 1 ≤ w5.heap.size) (hp : Put b cs 86 w6 w7) : Clo B n0 w7 sp L q F c := by
  have bx : ∀ {b2 b3}, Bx w5.heap.size w6 sp b2 b3 q → Bx n0 w7 sp b2 b3 q := fun {b2 b3} hx => ⟨(hp.other _ (by have := hx.ge.1; omega)).trans hx.s, (hp.other _ (by have := hx.ge.2; omega)).trans hx.q, by have := hx.ge; omega⟩
  cases c with
  | none => exact h
  | some c =>
    cases c with
    | grant => obtain ⟨b2, b3, hF, hb⟩ := h; exact ⟨b2, b3, hF, bx hb⟩
    | revoke => obtain ⟨b2, b3, hF, hb⟩ := h; exact ⟨b2, b3, hF, bx hb⟩
    | drop => obtain ⟨b2, b3, hF, hb⟩ := h; exact ⟨b2, b3, hF, bx hb⟩
    | put =>
      obtain ⟨b2, b3, b5, pp, hF, hx, h5, hn5, hpp⟩ := h
      refine ⟨b2, b3, b5, pp, hF, bx hx, (hp.other _ (by omega)).trans h5, by omega, hpp.imp id fun ⟨h1, h2, h3, h4⟩ => ⟨h1, h2, ⟨(hp.other _ (by omega)).trans h3.1, World.ownsRow_nil _ _ _ _, h3.2.2⟩, by omega⟩⟩
/-- The deed of a request lies in block d. -/
structure AkD (w : World) (q : Rq) (r : Int) (ip : Bool) (n d : Nat) (wi : World) : Prop where
  w2 : W2 w q wi
  row : wi.heap[d]? = some (.cells #[.int .u8 r, .bool ip, .func (.func n) #[] #[]] 199 (0, 0))
  ge : w.heap.size + 2 ≤ d
theorem AkD.next {w wi w' : World} {q : Rq} {r : Int} {ip : Bool} {n d : Nat} (h : AkD w q r ip n d wi) (hk : Kept (d + 1) wi w') : AkD w q r ip n d w' := ⟨h.w2.next (hk.mono (by have := h.ge; omega)), (hk.block _ (by omega)).trans h.row, h.ge⟩
theorem AkD.lt {w wi : World} {q : Rq} {r : Int} {ip : Bool} {n d : Nat} (h : AkD w q r ip n d wi) : d < wi.heap.size := (Array.getElem?_eq_some_iff.1 h.row).1
theorem info199 : (Tryz.prog.info? 199).map (·.size) = some 3 := by kernel_rfl
theorem wp_look200 {w : World} {o : Oper} {a : Act} {K : Act → World → Prop} {Q : Exit → Act → World → Prop} {x y : Operand} (ho : o.op = .lookup 200 x y false) (m : Value) (k : Int) (v : Value) (hx : a.eval x = m) (hy : a.eval y = .int .u8 k) (hr : (Instr.lookup 200 m (.int .u8 k) false).run Tryz.prog w = .ok v w) (h : K (a.put o.dst v) w) : o.wp Tryz.prog a w K Q := by
  unfold Oper.wp
  simp [execOp, ho, hx, hy, hr, Result.andThen, Oper.upon]
  exact h
def SK (w : World) (sp tb : Nat) (tk p0 : ByteArray) (r0 : Int) (b0 : Bool) (W : World) : Prop := W.cell? ⟨sp, 1, none⟩ = some (.map (some tb)) ∧ W.cell? ⟨w.heap.size, 1, none⟩ = some (.string tk) ∧ (Instr.lookup 165 (.map (some tb)) (.string tk) true).run Tryz.prog W = .ok (.tuple #[.agg #[.string p0, .int .u8 r0], .bool b0]) W
theorem sk_all (B : Nat) (w : World) (sp tb pb : Nat) (L : PL) (S : Sto) (q : Rq) (h : StoAt B w sp tb pb L S) :
    (∃ t, lk q.token S.toks = some t ∧ ∀ W, W2 w q W → SK w sp tb q.token t.pre (t.rights.toNat : Int) true W) ∨ (lk q.token S.toks = none ∧ ∀ W, W2 w q W → SK w sp tb q.token .empty 0 false W) := by
  have hc : ∀ W, W2 w q W → W.cell? ⟨sp, 1, none⟩ = some (.map (some tb)) ∧ W.cell? ⟨w.heap.size, 1, none⟩ = some (.string q.token) := fun W hW => by
    refine ⟨?_, by rw [hW.q.c 1]; rfl⟩
    have hs := h.kept hW.kept
    rw [cell_of_row _ _ _ _ _ _ hs.at']; rfl
  rcases tok_look w tb S q.token h.toks with ⟨t, ht, _⟩ | ⟨ht, _⟩
  · refine .inl ⟨t, ht, fun W hW => ⟨(hc W hW).1, (hc W hW).2, ?_⟩⟩
    rcases tok_look W tb S q.token (h.kept hW.kept).toks with ⟨t', ht', hr⟩ | ⟨ht', _⟩
    · rw [ht] at ht'; cases ht'; exact hr
    · rw [ht] at ht'; cases ht'
  · refine .inr ⟨ht, fun W hW => ⟨(hc W hW).1, (hc W hW).2, ?_⟩⟩
    rcases tok_look W tb S q.token (h.kept hW.kept).toks with ⟨t', ht', _⟩ | ⟨ht', hr⟩
    · rw [ht] at ht'; cases ht'
    · exact hr
set_option maxRecDepth 100000 in
set_option maxHeartbeats 2000000 in
theorem ask_go (B : Nat) (w : World) (sp tb pb : Nat) (L : PL) (S : Sto) (q : Rq) (h : StoAt B w sp tb pb L S) (hO : S.Ok) (hQ : q.Ok) (hB : B ≤ w.heap.size) :
    Calls Tryz.prog 72 #[.pointer (some ⟨sp, 0, none⟩), .agg q.cells] w (ocEnd B w sp L q (S.ask q)) := by
  obtain ⟨n, hlk, hent, hdeed⟩ := de_cases hQ.isOp
  have H0 := hide (w2_start w q)
  have HD := hide (hdeed B · sp tb pb L S q rfl · hO hQ ·)
  have HS := hide h
  have HSK := hide (sk_all B w sp tb pb L S q h)
  have HASK := hide (show ∀ t, lk q.token S.toks = some t → S.ask q = if t.rights &&& rightOf q.op = 0 ∨ (inPath q.op = true ∧ hasPre q.path t.pre = false) then ⟨3, .empty, none⟩ else S.deed q from fun t ht => ask_tok ht)
  have HNONE := hide (show lk q.token S.toks = none → S.ask q = ⟨2, .empty, none⟩ from fun e => by unfold Sto.ask; rw [e])
  have hps : q.path.size ≤ 16 := hQ.fit.1
  have HTOK := hide (show ∀ t, lk q.token S.toks = some t → t.pre.size ≤ 255 from fun t ht => hO.tok _ (lk_mem ht))
  obtain ⟨R, hR⟩ : ∃ R, R = rightOf q.op := ⟨_, rfl⟩
  obtain ⟨ip, hip⟩ : ∃ ip, ip = inPath q.op := ⟨_, rfl⟩
  rw [← hR, ← hip] at hlk
  have HRI := hide (And.intro hR hip)
  have HLK := hide hlk
  clear hdeed h hO hQ hlk hR hip
  go_enter Tryz.func72, Tryz.ntmps72
  go_upto_region 1 with fail
  go_cut [5] (fun v wx => ∃ d, v = .pointer (some ⟨d, 0, none⟩) ∧ AkD w q (R.toNat : Int) ip n d wx)
  case first =>
    change Code.wp _ _ _ _ (w2 w q)
    generalize w2 w q = w1 at H0 ⊢
    have hsz := (unhide H0).size
    have HSC := hide (show ∀ W, W2 w q W → W.cell? ⟨w.heap.size, 0, none⟩ = some (.int .u8 (q.op.toNat : Int)) from fun W hW => by rw [hW.q.c 0]; rfl)
    refine wp_region_held_drew (S := fun W => W.cell? ⟨w.heap.size, 0, none⟩ = some (.int .u8 (q.op.toNat : Int))) (by kernel_rfl) (unhide HSC w1.drew ⟨(unhide H0).q, (unhide H0).o, ⟨(unhide H0).kept.os, (unhide H0).kept.output, (unhide H0).kept.size, (unhide H0).kept.block⟩⟩) (fun hHeld => ?_)
    refine wpAnyH_take (i := 1) (oi := { dst := some 9, op := Op.fieldAddr 84 (Operand.tmp 3) 0, type := 0, pos := "store.go:94", after := #[], guard := none }) (v := .pointer (some ⟨w.heap.size, 0, none⟩)) rfl (by kernel_rfl) (by kernel_rfl) (by kernel_rfl) (fun _ _ _ h => h) (Or.inl ⟨by kernel_rfl, fun W hW => by kernel_rfl⟩) hHeld ?_
    simp only [Act.put, List.setIfInBounds_toArray, List.set_cons_zero, List.set_cons_succ]
    refine wpAnyH_take (i := 2) (oi := { dst := some 10, op := Op.load 5 (Operand.tmp 9), type := 5, pos := "store.go:94", after := #[{ on := 1, ground := Ground.data }], guard := none }) (v := .int .u8 (q.op.toNat : Int)) rfl (by kernel_rfl) (by kernel_rfl) (by kernel_rfl) (fun _ _ _ h => h) (Or.inl ⟨by kernel_rfl, fun W hW => by simp [execOp, go_sem, hW]⟩) hHeld ?_
    simp only [Act.put, List.setIfInBounds_toArray, List.set_cons_zero, List.set_cons_succ]
    refine wpAnyH_ready (rs := [0, 4]) (by kernel_rfl) (by simp) ?_
    refine AllReadyH.cons (o := { dst := some 8, op := Op.call { callee := Callee.value (Operand.func 108), args := #[], argTypes := #[] }, type := 200, pos := "store.go:94", after := #[], guard := none }) rfl (fun K hK => ?_) ?_
    · refine ite_wanted ?_ ?_
      · kernel_rfl
      go_simp
      refine (deeds_go _).mono ?_
      rintro _ w3 ⟨rfl, hm3, hc3⟩
      have HM3 := hide hm3
      have HC3 := hide (show Kept w1.heap.size w1 w3 from ⟨hc3.os, hc3.output, hc3.size, fun k hk => hc3.block k hk id⟩)
      have H3 := hide ((unhide H0).next ((unhide HC3).mono (unhide H0).size))
      clear hm3 hc3
      show K _ w3
      refine hK.out _ _ (unhide HSC w3 (unhide H3)) (fun hHeld0 => ?_)
      clear hK K
      try simp only [Act.put, List.setIfInBounds_toArray, List.set_cons_zero, List.set_cons_succ]
      refine wpAnyH_ready (rs := [3, 4]) (by kernel_rfl) (by simp) ?_
      refine AllReadyH.cons (o := { dst := some 11, op := Op.lookup 200 (Operand.tmp 8) (Operand.tmp 10) false, type := 199, pos := "store.go:94", after := #[{ on := 0, ground := Ground.data }, { on := 2, ground := Ground.data }], guard := none }) rfl (fun K hK => ?_) ?_
      · refine ite_wanted ?_ ?_
        · kernel_rfl
        have hlook : (Instr.lookup 200 (.map (some w1.heap.size)) (.int .u8 (q.op.toNat : Int)) false).run Tryz.prog w3 = .ok (deedV (R.toNat : Int) ip n) w3 := run_look kkByte und200 (unhide HM3) q.op.toNat (unhide HLK) false
        refine wp_look200 (x := .tmp 8) (y := .tmp 10) ?_ _ (q.op.toNat : Int) _ ?_ ?_ hlook ?_
        · rfl
        · kernel_rfl
        · kernel_rfl
        simp only [Act.put]
        refine hK.out _ _ (unhide HSC w3 (unhide H3)) (fun hHeld3 => ?_)
        clear hK K
        try simp only [List.setIfInBounds_toArray, List.set_cons_zero, List.set_cons_succ]
        refine wpAnyH_ready (rs := [4]) (by kernel_rfl) (by simp) ?_
        refine AllReadyH.cons (o := { dst := some 5, op := Op.alloc 199, type := 0, pos := "store.go:94", after := #[], guard := none }) rfl (fun K hK => ?_) AllReadyH.nil
        refine ite_wanted ?_ ?_
        · kernel_rfl
        go_simp
        have Hw4 := hide ((unhide H3).next (w' := w3.alloc (.cells #[.int .u8 0, .bool false, .nilFunc] 199)) ((Kept.refl _ _).alloc (unhide H3).size _))
        have hrw4 : (w3.alloc (.cells #[.int .u8 0, .bool false, .nilFunc] 199)).heap[w3.heap.size]? = some (.cells #[.int .u8 0, .bool false, .nilFunc] 199 (0, 0)) := heap_alloc_new _ _
        have hkw4 : Kept w3.heap.size w3 (w3.alloc (.cells #[.int .u8 0, .bool false, .nilFunc] 199)) := (Kept.refl _ _).alloc (Nat.le_refl _) _
        have hzw4 : w3.heap.size < (w3.alloc (.cells #[.int .u8 0, .bool false, .nilFunc] 199)).heap.size := by simp
        generalize w3.alloc (.cells #[.int .u8 0, .bool false, .nilFunc] 199) = w4 at *
        show K _ w4
        refine hK.out _ _ (unhide HSC w4 (unhide Hw4)) (fun hHeld4 => ?_)
        clear hK K
        try simp only [Act.put, List.setIfInBounds_toArray, List.set_cons_zero, List.set_cons_succ]
        refine wpAnyH_ready (rs := [5]) (by kernel_rfl) (by simp) ?_
        refine AllReadyH.cons (o := { dst := none, op := Op.store 199 (Operand.tmp 5) (Operand.tmp 11), type := 0, pos := "store.go:94", after := #[{ on := 4, ground := Ground.data }, { on := 3, ground := Ground.data }, { on := 0, ground := Ground.chain }, { on := 0, ground := Ground.phase }, { on := 1, ground := Ground.phase }, { on := 2, ground := Ground.phase }, { on := 3, ground := Ground.phase }, { on := 4, ground := Ground.phase }], guard := none }) rfl (fun K hK => ?_) AllReadyH.nil
        refine ite_wanted ?_ ?_
        · kernel_rfl
        refine wp_store_row 199 (.tmp 5) (.tmp 11) ?_ w3.heap.size #[.int .u8 (R.toNat : Int), .bool ip, .func (.func n) #[] #[]] ?_ ?_ 199 _ (hrw4) info199 rfl (by simp [Value.oneCell']) ?_
        · rfl
        · kernel_rfl
        · kernel_rfl
        simp only [Act.put]
        have HE := hide (show AkD w q (R.toNat : Int) ip n w3.heap.size (w4.setRow w3.heap.size #[.int .u8 (R.toNat : Int), .bool ip, .func (.func n) #[] #[]]) from
          ⟨(unhide Hw4).next ((Kept.refl _ _).setRow (by have := (unhide HC3).size; omega) _), setRow_heap _ _ _ _ _ _ (hrw4), by have := (unhide HC3).size; omega⟩)
        refine hK.out _ _ (unhide HSC _ (unhide HE).w2) (fun hHeld5 => ?_)
        clear hK K
        try simp only [Act.put, List.setIfInBounds_toArray, List.set_cons_zero, List.set_cons_succ]
        refine wpAnyH_done (by kernel_rfl) ?_ _
        go_wp2_with fail
        go_meet
        case rel => exact ⟨_, rfl, unhide HE⟩
      · refine AllReadyH.cons (o := { dst := some 5, op := Op.alloc 199, type := 0, pos := "store.go:94", after := #[], guard := none }) rfl (fun K hK => ?_) AllReadyH.nil
        refine ite_wanted ?_ ?_
        · kernel_rfl
        go_simp
        have Hw4 := hide ((unhide H3).next (w' := w3.alloc (.cells #[.int .u8 0, .bool false, .nilFunc] 199)) ((Kept.refl _ _).alloc (unhide H3).size _))
        have hrw4 : (w3.alloc (.cells #[.int .u8 0, .bool false, .nilFunc] 199)).heap[w3.heap.size]? = some (.cells #[.int .u8 0, .bool false, .nilFunc] 199 (0, 0)) := heap_alloc_new _ _
        have hkw4 : Kept w3.heap.size w3 (w3.alloc (.cells #[.int .u8 0, .bool false, .nilFunc] 199)) := (Kept.refl _ _).alloc (Nat.le_refl _) _
        have hzw4 : w3.heap.size < (w3.alloc (.cells #[.int .u8 0, .bool false, .nilFunc] 199)).heap.size := by simp
        generalize w3.alloc (.cells #[.int .u8 0, .bool false, .nilFunc] 199) = w4 at *
        show K _ w4
        refine hK.out _ _ (unhide HSC w4 (unhide Hw4)) (fun hHeld4 => ?_)
        clear hK K
        try simp only [Act.put, List.setIfInBounds_toArray, List.set_cons_zero, List.set_cons_succ]
        refine wpAnyH_ready (rs := [3]) (by kernel_rfl) (by simp) ?_
        refine AllReadyH.cons (o := { dst := some 11, op := Op.lookup 200 (Operand.tmp 8) (Operand.tmp 10) false, type := 199, pos := "store.go:94", after := #[{ on := 0, ground := Ground.data }, { on := 2, ground := Ground.data }], guard := none }) rfl (fun K hK => ?_) AllReadyH.nil
        refine ite_wanted ?_ ?_
        · kernel_rfl
        have hlook : (Instr.lookup 200 (.map (some w1.heap.size)) (.int .u8 (q.op.toNat : Int)) false).run Tryz.prog w4 = .ok (deedV (R.toNat : Int) ip n) w4 := run_look kkByte und200 ((unhide HM3).stay (hkw4.block _ (unhide HM3).lt)) q.op.toNat (unhide HLK) false
        refine wp_look200 (x := .tmp 8) (y := .tmp 10) ?_ _ (q.op.toNat : Int) _ ?_ ?_ hlook ?_
        · rfl
        · kernel_rfl
        · kernel_rfl
        simp only [Act.put]
        refine hK.out _ _ (unhide HSC w4 (unhide Hw4)) (fun hHeld3 => ?_)
        clear hK K
        try simp only [List.setIfInBounds_toArray, List.set_cons_zero, List.set_cons_succ]
        refine wpAnyH_ready (rs := [5]) (by kernel_rfl) (by simp) ?_
        refine AllReadyH.cons (o := { dst := none, op := Op.store 199 (Operand.tmp 5) (Operand.tmp 11), type := 0, pos := "store.go:94", after := #[{ on := 4, ground := Ground.data }, { on := 3, ground := Ground.data }, { on := 0, ground := Ground.chain }, { on := 0, ground := Ground.phase }, { on := 1, ground := Ground.phase }, { on := 2, ground := Ground.phase }, { on := 3, ground := Ground.phase }, { on := 4, ground := Ground.phase }], guard := none }) rfl (fun K hK => ?_) AllReadyH.nil
        refine ite_wanted ?_ ?_
        · kernel_rfl
        refine wp_store_row 199 (.tmp 5) (.tmp 11) ?_ w3.heap.size #[.int .u8 (R.toNat : Int), .bool ip, .func (.func n) #[] #[]] ?_ ?_ 199 _ (hrw4) info199 rfl (by simp [Value.oneCell']) ?_
        · rfl
        · kernel_rfl
        · kernel_rfl
        simp only [Act.put]
        have HE := hide (show AkD w q (R.toNat : Int) ip n w3.heap.size (w4.setRow w3.heap.size #[.int .u8 (R.toNat : Int), .bool ip, .func (.func n) #[] #[]]) from
          ⟨(unhide Hw4).next ((Kept.refl _ _).setRow (by have := (unhide HC3).size; omega) _), setRow_heap _ _ _ _ _ _ (hrw4), by have := (unhide HC3).size; omega⟩)
        refine hK.out _ _ (unhide HSC _ (unhide HE).w2) (fun hHeld5 => ?_)
        clear hK K
        try simp only [Act.put, List.setIfInBounds_toArray, List.set_cons_zero, List.set_cons_succ]
        refine wpAnyH_done (by kernel_rfl) ?_ _
        go_wp2_with fail
        go_meet
        case rel => exact ⟨_, rfl, unhide HE⟩
    · refine AllReadyH.cons (o := { dst := some 5, op := Op.alloc 199, type := 0, pos := "store.go:94", after := #[], guard := none }) rfl (fun K hK => ?_) AllReadyH.nil
      refine ite_wanted ?_ ?_
      · kernel_rfl
      go_simp
      have Hw4 := hide ((unhide H0).next (w' := (w1.alloc (.cells #[.int .u8 0, .bool false, .nilFunc] 199)).drew) (((Kept.refl _ _).alloc (unhide H0).size _).draws 1))
      have hrw4 : (w1.alloc (.cells #[.int .u8 0, .bool false, .nilFunc] 199)).drew.heap[w1.heap.size]? = some (.cells #[.int .u8 0, .bool false, .nilFunc] 199 (0, 0)) := heap_alloc_new w1 _
      have hzw4 : w1.heap.size < (w1.alloc (.cells #[.int .u8 0, .bool false, .nilFunc] 199)).drew.heap.size := by show w1.heap.size < (w1.alloc (.cells #[.int .u8 0, .bool false, .nilFunc] 199)).heap.size; simp
      generalize (w1.alloc (.cells #[.int .u8 0, .bool false, .nilFunc] 199)).drew = w4 at *
      show K _ w4
      refine hK.out _ _ (unhide HSC w4 (unhide Hw4)) (fun hHeld4 => ?_)
      clear hK K
      try simp only [Act.put, List.setIfInBounds_toArray, List.set_cons_zero, List.set_cons_succ]
      refine wpAnyH_ready (rs := [0]) (by kernel_rfl) (by simp) ?_
      refine AllReadyH.cons (o := { dst := some 8, op := Op.call { callee := Callee.value (Operand.func 108), args := #[], argTypes := #[] }, type := 200, pos := "store.go:94", after := #[], guard := none }) rfl (fun K hK => ?_) AllReadyH.nil
      refine ite_wanted ?_ ?_
      · kernel_rfl
      go_simp
      refine (deeds_go _).mono ?_
      rintro _ w3 ⟨rfl, hm3, hc3⟩
      have HM3 := hide hm3
      have HC3 := hide (show Kept w4.heap.size w4 w3 from ⟨hc3.os, hc3.output, hc3.size, fun k hk => hc3.block k hk id⟩)
      have H3 := hide ((unhide Hw4).next ((unhide HC3).mono (unhide Hw4).size))
      clear hm3 hc3
      show K _ w3
      refine hK.out _ _ (unhide HSC w3 (unhide H3)) (fun hHeld0 => ?_)
      clear hK K
      try simp only [Act.put, List.setIfInBounds_toArray, List.set_cons_zero, List.set_cons_succ]
      refine wpAnyH_ready (rs := [3]) (by kernel_rfl) (by simp) ?_
      refine AllReadyH.cons (o := { dst := some 11, op := Op.lookup 200 (Operand.tmp 8) (Operand.tmp 10) false, type := 199, pos := "store.go:94", after := #[{ on := 0, ground := Ground.data }, { on := 2, ground := Ground.data }], guard := none }) rfl (fun K hK => ?_) AllReadyH.nil
      refine ite_wanted ?_ ?_
      · kernel_rfl
      have hlook : (Instr.lookup 200 (.map (some w4.heap.size)) (.int .u8 (q.op.toNat : Int)) false).run Tryz.prog w3 = .ok (deedV (R.toNat : Int) ip n) w3 := run_look kkByte und200 (unhide HM3) q.op.toNat (unhide HLK) false
      refine wp_look200 (x := .tmp 8) (y := .tmp 10) ?_ _ (q.op.toNat : Int) _ ?_ ?_ hlook ?_
      · rfl
      · kernel_rfl
      · kernel_rfl
      simp only [Act.put]
      refine hK.out _ _ (unhide HSC w3 (unhide H3)) (fun hHeld3 => ?_)
      clear hK K
      try simp only [List.setIfInBounds_toArray, List.set_cons_zero, List.set_cons_succ]
      refine wpAnyH_ready (rs := [5]) (by kernel_rfl) (by simp) ?_
      refine AllReadyH.cons (o := { dst := none, op := Op.store 199 (Operand.tmp 5) (Operand.tmp 11), type := 0, pos := "store.go:94", after := #[{ on := 4, ground := Ground.data }, { on := 3, ground := Ground.data }, { on := 0, ground := Ground.chain }, { on := 0, ground := Ground.phase }, { on := 1, ground := Ground.phase }, { on := 2, ground := Ground.phase }, { on := 3, ground := Ground.phase }, { on := 4, ground := Ground.phase }], guard := none }) rfl (fun K hK => ?_) AllReadyH.nil
      refine ite_wanted ?_ ?_
      · kernel_rfl
      refine wp_store_row 199 (.tmp 5) (.tmp 11) ?_ w1.heap.size #[.int .u8 (R.toNat : Int), .bool ip, .func (.func n) #[] #[]] ?_ ?_ 199 _ (((unhide HC3).block _ hzw4).trans hrw4) info199 rfl (by simp [Value.oneCell']) ?_
      · rfl
      · kernel_rfl
      · kernel_rfl
      simp only [Act.put]
      have HE := hide (show AkD w q (R.toNat : Int) ip n w1.heap.size (w3.setRow w1.heap.size #[.int .u8 (R.toNat : Int), .bool ip, .func (.func n) #[] #[]]) from
        ⟨(unhide H3).next ((Kept.refl _ _).setRow (by omega) _), setRow_heap _ _ _ _ _ _ (((unhide HC3).block _ hzw4).trans hrw4), by omega⟩)
      refine hK.out _ _ (unhide HSC _ (unhide HE).w2) (fun hHeld5 => ?_)
      clear hK K
      try simp only [Act.put, List.setIfInBounds_toArray, List.set_cons_zero, List.set_cons_succ]
      refine wpAnyH_done (by kernel_rfl) ?_ _
      go_wp2_with fail
      go_meet
      case rel => exact ⟨_, rfl, unhide HE⟩
  case rest =>
    obtain ⟨d, rfl, hd⟩ := hcut
    have HA := hide hd
    clear hd
    rcases unhide HSK with ⟨t, ht, hsk⟩ | ⟨ht, hsk⟩
    · have HSL := hide hsk
      clear hsk HSK
      go_wp2_with fail
      refine wp_region_held_drew (S := SK w sp tb q.token (t.pre) ((t.rights.toNat : Int)) true) (by kernel_rfl) (unhide HSL wc.drew ((unhide HA).next (w' := wc.drew) ((Kept.refl _ _).draws 1)).w2) (fun hHeld => ?_)
      refine wpAnyH_take (i := 0) (oi := { dst := some 13, op := Op.move (Operand.tmp 0), type := 76, pos := "store.go:95", after := #[], guard := none }) (v := .pointer (some ⟨sp, 0, none⟩)) rfl (by kernel_rfl) (by kernel_rfl) (by kernel_rfl) (fun _ _ _ h => h) (Or.inl ⟨by kernel_rfl, fun W hW => by kernel_rfl⟩) hHeld ?_
      simp only [Act.put, List.setIfInBounds_toArray, List.set_cons_zero, List.set_cons_succ]
      refine wpAnyH_take (i := 1) (oi := { dst := some 14, op := Op.nilCheck (Operand.tmp 13), type := 0, pos := "store.go:95", after := #[{ on := 0, ground := Ground.data }], guard := none }) (v := .pointer (some ⟨sp, 0, none⟩)) rfl (by kernel_rfl) (by kernel_rfl) (by kernel_rfl) (fun _ _ _ h => h) (Or.inl ⟨by kernel_rfl, fun W hW => by kernel_rfl⟩) hHeld ?_
      simp only [Act.put, List.setIfInBounds_toArray, List.set_cons_zero, List.set_cons_succ]
      refine wpAnyH_take (i := 2) (oi := { dst := some 15, op := Op.fieldAddr 168 (Operand.tmp 14) 1, type := 0, pos := "store.go:95", after := #[{ on := 1, ground := Ground.data }], guard := none }) (v := .pointer (some ⟨sp, 1, none⟩)) rfl (by kernel_rfl) (by kernel_rfl) (by kernel_rfl) (fun _ _ _ h => h) (Or.inl ⟨by kernel_rfl, fun W hW => by kernel_rfl⟩) hHeld ?_
      simp only [Act.put, List.setIfInBounds_toArray, List.set_cons_zero, List.set_cons_succ]
      refine wpAnyH_take (i := 3) (oi := { dst := some 16, op := Op.load 165 (Operand.tmp 15), type := 165, pos := "store.go:95", after := #[{ on := 2, ground := Ground.data }], guard := none }) (v := .map (some tb)) rfl (by kernel_rfl) (by kernel_rfl) (by kernel_rfl) (fun _ _ _ h => h) (Or.inl ⟨by kernel_rfl, fun W hW => by simp [execOp, go_sem, hW.1]⟩) hHeld ?_
      simp only [Act.put, List.setIfInBounds_toArray, List.set_cons_zero, List.set_cons_succ]
      refine wpAnyH_take (i := 4) (oi := { dst := some 17, op := Op.fieldAddr 84 (Operand.tmp 3) 1, type := 0, pos := "store.go:95", after := #[], guard := none }) (v := .pointer (some ⟨w.heap.size, 1, none⟩)) rfl (by kernel_rfl) (by kernel_rfl) (by kernel_rfl) (fun _ _ _ h => h) (Or.inl ⟨by kernel_rfl, fun W hW => by kernel_rfl⟩) hHeld ?_
      simp only [Act.put, List.setIfInBounds_toArray, List.set_cons_zero, List.set_cons_succ]
      refine wpAnyH_take (i := 5) (oi := { dst := some 18, op := Op.load 9 (Operand.tmp 17), type := 9, pos := "store.go:95", after := #[{ on := 4, ground := Ground.data }], guard := none }) (v := .string q.token) rfl (by kernel_rfl) (by kernel_rfl) (by kernel_rfl) (fun _ _ _ h => h) (Or.inl ⟨by kernel_rfl, fun W hW => by simp [execOp, go_sem, hW.2.1]⟩) hHeld ?_
      simp only [Act.put, List.setIfInBounds_toArray, List.set_cons_zero, List.set_cons_succ]
      refine wpAnyH_take (i := 6) (oi := { dst := some 19, op := Op.lookup 165 (Operand.tmp 16) (Operand.tmp 18) true, type := 202, pos := "store.go:95", after := #[{ on := 3, ground := Ground.data }, { on := 5, ground := Ground.data }], guard := none }) (v := .tuple #[.agg #[.string (t.pre), .int .u8 ((t.rights.toNat : Int))], .bool true]) rfl (by kernel_rfl) (by kernel_rfl) (by kernel_rfl) (fun _ _ _ h => h) (Or.inl ⟨by kernel_rfl, fun W hW => by simp [execOp, go_sem, hW.2.2]⟩) hHeld ?_
      simp only [Act.put, List.setIfInBounds_toArray, List.set_cons_zero, List.set_cons_succ]
      refine wpAnyH_take (i := 7) (oi := { dst := some 12, op := Op.move (Operand.tmp 19), type := 202, pos := "store.go:95", after := #[{ on := 6, ground := Ground.data }], guard := none }) (v := .tuple #[.agg #[.string (t.pre), .int .u8 ((t.rights.toNat : Int))], .bool true]) rfl (by kernel_rfl) (by kernel_rfl) (by kernel_rfl) (fun _ _ _ h => h) (Or.inl ⟨by kernel_rfl, fun W hW => by kernel_rfl⟩) hHeld ?_
      simp only [Act.put, List.setIfInBounds_toArray, List.set_cons_zero, List.set_cons_succ]
      refine wpAnyH_take (i := 8) (oi := { dst := some 20, op := Op.extract (Operand.tmp 12) 0, type := 164, pos := "store.go:95", after := #[{ on := 7, ground := Ground.data }], guard := none }) (v := .agg #[.string (t.pre), .int .u8 ((t.rights.toNat : Int))]) rfl (by kernel_rfl) (by kernel_rfl) (by kernel_rfl) (fun _ _ _ h => h) (Or.inl ⟨by kernel_rfl, fun W hW => by kernel_rfl⟩) hHeld ?_
      simp only [Act.put, List.setIfInBounds_toArray, List.set_cons_zero, List.set_cons_succ]
      refine wpAnyH_take (i := 9) (oi := { dst := some 21, op := Op.extract (Operand.tmp 12) 1, type := 4, pos := "store.go:95", after := #[{ on := 7, ground := Ground.data }, { on := 11, ground := Ground.gcOnly Departure.lateStores }], guard := none }) (v := .bool true) rfl (by kernel_rfl) (by kernel_rfl) (by kernel_rfl) (fun _ _ _ h => h) (Or.inl ⟨by kernel_rfl, fun W hW => by kernel_rfl⟩) hHeld ?_
      simp only [Act.put, List.setIfInBounds_toArray, List.set_cons_zero, List.set_cons_succ]
      refine wpAnyH_ready (rs := [10]) (by kernel_rfl) (by simp) ?_
      refine AllReadyH.cons (o := { dst := some 6, op := Op.alloc 164, type := 0, pos := "store.go:95", after := #[], guard := none }) rfl (fun K hK => ?_) AllReadyH.nil
      refine ite_wanted ?_ ?_
      · kernel_rfl
      go_simp
      have HA2 := hide ((unhide HA).next (w' := (wc.alloc (.cells #[.string ⟨#[]⟩, .int .u8 0] 164)).drew) ((((Kept.refl _ _).alloc (unhide HA).lt _)).draws 1))
      have hr2 : (wc.alloc (.cells #[.string ⟨#[]⟩, .int .u8 0] 164)).drew.heap[wc.heap.size]? = some (.cells #[.string ⟨#[]⟩, .int .u8 0] 164 (0, 0)) := heap_alloc_new wc _
      generalize (wc.alloc (.cells #[.string ⟨#[]⟩, .int .u8 0] 164)).drew = w4 at HA2 hr2 hK ⊢
      show K _ w4
      refine hK.out _ _ (unhide HSL w4 (unhide HA2).w2) (fun hHeld10 => ?_)
      clear hK K
      try simp only [Act.put, List.setIfInBounds_toArray, List.set_cons_zero, List.set_cons_succ]
      refine wpAnyH_ready (rs := [11]) (by kernel_rfl) (by simp) ?_
      refine AllReadyH.cons (o := { dst := none, op := Op.store 164 (Operand.tmp 6) (Operand.tmp 20), type := 0, pos := "store.go:95", after := #[{ on := 10, ground := Ground.data }, { on := 8, ground := Ground.data }, { on := 0, ground := Ground.phase }, { on := 1, ground := Ground.phase }, { on := 2, ground := Ground.phase }, { on := 3, ground := Ground.phase }, { on := 4, ground := Ground.phase }, { on := 5, ground := Ground.phase }, { on := 6, ground := Ground.phase }, { on := 7, ground := Ground.phase }, { on := 8, ground := Ground.phase }, { on := 9, ground := Ground.textOnly Departure.lateStores }, { on := 10, ground := Ground.phase }], guard := none }) rfl (fun K hK => ?_) AllReadyH.nil
      refine ite_wanted ?_ ?_
      · kernel_rfl
      refine wp_store_row 164 (.tmp 6) (.tmp 20) ?_ wc.heap.size #[.string (t.pre), .int .u8 ((t.rights.toNat : Int))] ?_ ?_ 164 _ hr2 info164 rfl (by simp [Value.oneCell']) ?_
      · rfl
      · kernel_rfl
      · kernel_rfl
      simp only [Act.put]
      have HA5 := hide ((unhide HA2).next (w' := w4.setRow wc.heap.size #[.string (t.pre), .int .u8 ((t.rights.toNat : Int))]) ((Kept.refl _ _).setRow (unhide HA).lt _))
      have hr5 : (w4.setRow wc.heap.size #[.string (t.pre), .int .u8 ((t.rights.toNat : Int))]).heap[wc.heap.size]? = some (.cells #[.string (t.pre), .int .u8 ((t.rights.toNat : Int))] 164 (0, 0)) := setRow_heap _ _ _ _ _ _ hr2
      generalize w4.setRow wc.heap.size #[.string (t.pre), .int .u8 ((t.rights.toNat : Int))] = w5 at HA5 hr5 hK ⊢
      show K _ w5
      refine hK.out _ _ (unhide HSL w5 (unhide HA5).w2) (fun hHeld11 => ?_)
      clear hK K
      try simp only [Act.put, List.setIfInBounds_toArray, List.set_cons_zero, List.set_cons_succ]
      refine wpAnyH_take (i := 12) (oi := { dst := some 7, op := Op.assign (Operand.tmp 21), type := 4, pos := "store.go:95", after := #[{ on := 9, ground := Ground.data }, { on := 11, ground := Ground.chain }, { on := 0, ground := Ground.phase }, { on := 1, ground := Ground.phase }, { on := 2, ground := Ground.phase }, { on := 3, ground := Ground.phase }, { on := 4, ground := Ground.phase }, { on := 5, ground := Ground.phase }, { on := 6, ground := Ground.phase }, { on := 7, ground := Ground.phase }, { on := 8, ground := Ground.phase }, { on := 9, ground := Ground.phase }, { on := 10, ground := Ground.phase }, { on := 11, ground := Ground.phase }], guard := none }) (v := .bool true) rfl (by kernel_rfl) (by kernel_rfl) (by kernel_rfl) (fun _ _ _ h => h) (Or.inl ⟨by kernel_rfl, fun W hW => by kernel_rfl⟩) hHeld11 ?_
      simp only [Act.put, List.setIfInBounds_toArray, List.set_cons_zero, List.set_cons_succ]
      refine wpAnyH_done (by kernel_rfl) ?_ _
      clear hHeld hHeld10 hHeld11 HSL hr2 HA2 HA
      have HAS := hide (unhide HASK t ht)
      have hpre := unhide HTOK t ht
      have hc6 : w5.cell? ⟨wc.heap.size, 1, none⟩ = some (.int .u8 (t.rights.toNat : Int)) := by rw [cell_of_row _ _ _ _ _ _ hr5]; rfl
      have hc6b : w5.cell? ⟨wc.heap.size, 0, none⟩ = some (.string t.pre) := by rw [cell_of_row _ _ _ _ _ _ hr5]; rfl
      have hc5 : w5.cell? ⟨d, 0, none⟩ = some (.int .u8 (R.toNat : Int)) := by rw [cell_of_row _ _ _ _ _ _ (unhide HA5).row]; rfl
      have hc5b : w5.cell? ⟨d, 1, none⟩ = some (.bool ip) := by rw [cell_of_row _ _ _ _ _ _ (unhide HA5).row]; rfl
      have hc5c : w5.cell? ⟨d, 2, none⟩ = some (.func (.func n) #[] #[]) := by rw [cell_of_row _ _ _ _ _ _ (unhide HA5).row]; rfl
      have hcq : w5.cell? ⟨w.heap.size, 2, none⟩ = some (.string q.path) := by rw [(unhide HA5).w2.q.c 2]; rfl
      have hand := and_u8 t.rights R
      obtain ⟨rr, hrr⟩ : ∃ rr, rr = t.rights &&& R := ⟨_, rfl⟩
      rw [← hrr] at hand
      have HRR := hide hrr
      have HLT := hide (unhide HA5).lt
      clear hr5 hrr HASK HTOK HNONE
      by_cases h0 : rr = 0
      · have h0I : ((rr.toNat : Int) == 0) = true := by rw [h0]; rfl
        have h0J : (rr.toNat : Int) = 0 := by rw [h0]; rfl
        have HO := hide (show S.ask q = ⟨3, .empty, none⟩ by rw [unhide HAS, if_pos (.inl (by rw [← (unhide HRI).1, ← unhide HRR]; exact h0))])
        go_wp2_with fail
        refine (refused_go 3 w5).mono ?_
        rintro _ w6 ⟨rfl, hk6⟩
        have HW6 := hide ((unhide HA5).w2.next (hk6.mono (unhide HA5).w2.size))
        clear hk6
        go_wp2_with (refine wpList_store_put rfl 86 (.tmp 4) (.tmp 43) rfl (w.heap.size + 1) (ocells 3 .empty .nilFunc) ?_ ?_ 86 (ocells 0 .empty .nilFunc) ?_ info86 rfl (oc_one _ _ rfl) ?_
                     · rfl
                     · rfl
                     · exact (unhide HW6).o
                     intro w7 hp7)
        exact oc_ret Tryz.results72 hp7.row (by rw [unhide HO]; exact ⟨⟨_, rfl, rfl⟩, (unhide HW6).put hp7⟩)
      · have hz : rr.toNat ≠ 0 := fun e => h0 (UInt8.toNat_inj.1 e)
        have h0I : ((rr.toNat : Int) == 0) = false := by simp; omega
        have h0J : ¬ (rr.toNat : Int) = 0 := by omega
        have HYES := hide (show ¬ (inPath q.op = true ∧ hasPre q.path t.pre = false) → S.ask q = S.deed q from fun e => by rw [unhide HAS, if_neg (fun e' => by rcases e' with e' | e'; exact h0 (by rw [unhide HRR, (unhide HRI).1]; exact e'); exact e e')])
        have HNO := hide (show inPath q.op = true ∧ hasPre q.path t.pre = false → S.ask q = ⟨3, .empty, none⟩ from fun e => by rw [unhide HAS, if_pos (.inr e)])
        by_cases hip : ip = true
        · subst hip
          go_wp2_with fail
          refine (hasPrefix_go q.path t.pre w5 (by omega) (by omega)).mono ?_
          rintro _ _ ⟨rfl, rfl⟩
          rename_i w5
          by_cases hpp : hasPre q.path t.pre = true
          · have HO := hide (unhide HYES fun e => by rw [e.2] at hpp; cases hpp)
            rw [hpp]
            clear HYES HNO
            have hbq := (unhide HA5).w2.q
            go_wp2_with (refine wpList_load_row rfl 84 (.tmp 3) rfl w.heap.size ?_ 84 q.cells (0, 0) _ ?_ Tryz.underlying84 rfl info84 ?_; · rfl
                         · exact hbq)
            refine (unhide HD w5 ((unhide HS).kept (unhide HA5).w2.kept) (by have := (unhide HA5).w2.kept.size; omega)).mono ?_
            rintro _ w6 ⟨⟨F, rfl, hF⟩, hk6⟩
            have HF := hide hF
            have h1F := hF.one
            have HW6 := hide ((unhide HA5).w2.next (hk6.mono (unhide HA5).w2.size))
            have HK6 := hide hk6
            clear hk6 hF
            go_wp2_with (refine wpList_store_put rfl 86 (.tmp 4) (.tmp 48) rfl (w.heap.size + 1) (ocells (S.deed q).err (S.deed q).more F) ?_ ?_ 86 (ocells 0 .empty .nilFunc) ?_ info86 rfl (oc_one _ _ h1F) ?_
                         · rfl
                         · rfl
                         · exact (unhide HW6).o
                         intro w7 hp7)
            have hfin : Clo B w.heap.size w7 sp L q F (S.deed q).ch := (unhide HF).put (unhide HA5).w2.kept.size (unhide HA5).w2.size hp7
            exact oc_ret Tryz.results72 hp7.row (by rw [unhide HO]; exact ⟨⟨_, rfl, hfin⟩, (unhide HW6).put hp7⟩)
          · have hpf : hasPre q.path t.pre = false := by simpa using hpp
            have HO := hide (unhide HNO ⟨(unhide HRI).2.symm, hpf⟩)
            rw [hpf]
            clear HYES HNO
            go_wp2_with fail
            refine (refused_go 3 w5).mono ?_
            rintro _ w6 ⟨rfl, hk6⟩
            have HW6 := hide ((unhide HA5).w2.next (hk6.mono (unhide HA5).w2.size))
            clear hk6
            go_wp2_with (refine wpList_store_put rfl 86 (.tmp 4) (.tmp 43) rfl (w.heap.size + 1) (ocells 3 .empty .nilFunc) ?_ ?_ 86 (ocells 0 .empty .nilFunc) ?_ info86 rfl (oc_one _ _ rfl) ?_
                         · rfl
                         · rfl
                         · exact (unhide HW6).o
                         intro w7 hp7)
            exact oc_ret Tryz.results72 hp7.row (by rw [unhide HO]; exact ⟨⟨_, rfl, rfl⟩, (unhide HW6).put hp7⟩)
        · have hif : ip = false := by simpa using hip
          subst hif
          have HO := hide (unhide HYES fun e => by rw [← (unhide HRI).2] at e; cases e.1)
          clear HYES HNO hip
          have hbq := (unhide HA5).w2.q
          go_wp2_with (refine wpList_load_row rfl 84 (.tmp 3) rfl w.heap.size ?_ 84 q.cells (0, 0) _ ?_ Tryz.underlying84 rfl info84 ?_; · rfl
                       · exact hbq)
          refine (unhide HD w5 ((unhide HS).kept (unhide HA5).w2.kept) (by have := (unhide HA5).w2.kept.size; omega)).mono ?_
          rintro _ w6 ⟨⟨F, rfl, hF⟩, hk6⟩
          have HF := hide hF
          have h1F := hF.one
          have HW6 := hide ((unhide HA5).w2.next (hk6.mono (unhide HA5).w2.size))
          have HK6 := hide hk6
          clear hk6 hF
          go_wp2_with (refine wpList_store_put rfl 86 (.tmp 4) (.tmp 48) rfl (w.heap.size + 1) (ocells (S.deed q).err (S.deed q).more F) ?_ ?_ 86 (ocells 0 .empty .nilFunc) ?_ info86 rfl (oc_one _ _ h1F) ?_
                       · rfl
                       · rfl
                       · exact (unhide HW6).o
                       intro w7 hp7)
          have hfin : Clo B w.heap.size w7 sp L q F (S.deed q).ch := (unhide HF).put (unhide HA5).w2.kept.size (unhide HA5).w2.size hp7
          exact oc_ret Tryz.results72 hp7.row (by rw [unhide HO]; exact ⟨⟨_, rfl, hfin⟩, (unhide HW6).put hp7⟩)
    · have HSL := hide hsk
      clear hsk HSK
      go_wp2_with fail
      refine wp_region_held_drew (S := SK w sp tb q.token (ByteArray.empty) (0) false) (by kernel_rfl) (unhide HSL wc.drew ((unhide HA).next (w' := wc.drew) ((Kept.refl _ _).draws 1)).w2) (fun hHeld => ?_)
      refine wpAnyH_take (i := 0) (oi := { dst := some 13, op := Op.move (Operand.tmp 0), type := 76, pos := "store.go:95", after := #[], guard := none }) (v := .pointer (some ⟨sp, 0, none⟩)) rfl (by kernel_rfl) (by kernel_rfl) (by kernel_rfl) (fun _ _ _ h => h) (Or.inl ⟨by kernel_rfl, fun W hW => by kernel_rfl⟩) hHeld ?_
      simp only [Act.put, List.setIfInBounds_toArray, List.set_cons_zero, List.set_cons_succ]
      refine wpAnyH_take (i := 1) (oi := { dst := some 14, op := Op.nilCheck (Operand.tmp 13), type := 0, pos := "store.go:95", after := #[{ on := 0, ground := Ground.data }], guard := none }) (v := .pointer (some ⟨sp, 0, none⟩)) rfl (by kernel_rfl) (by kernel_rfl) (by kernel_rfl) (fun _ _ _ h => h) (Or.inl ⟨by kernel_rfl, fun W hW => by kernel_rfl⟩) hHeld ?_
      simp only [Act.put, List.setIfInBounds_toArray, List.set_cons_zero, List.set_cons_succ]
      refine wpAnyH_take (i := 2) (oi := { dst := some 15, op := Op.fieldAddr 168 (Operand.tmp 14) 1, type := 0, pos := "store.go:95", after := #[{ on := 1, ground := Ground.data }], guard := none }) (v := .pointer (some ⟨sp, 1, none⟩)) rfl (by kernel_rfl) (by kernel_rfl) (by kernel_rfl) (fun _ _ _ h => h) (Or.inl ⟨by kernel_rfl, fun W hW => by kernel_rfl⟩) hHeld ?_
      simp only [Act.put, List.setIfInBounds_toArray, List.set_cons_zero, List.set_cons_succ]
      refine wpAnyH_take (i := 3) (oi := { dst := some 16, op := Op.load 165 (Operand.tmp 15), type := 165, pos := "store.go:95", after := #[{ on := 2, ground := Ground.data }], guard := none }) (v := .map (some tb)) rfl (by kernel_rfl) (by kernel_rfl) (by kernel_rfl) (fun _ _ _ h => h) (Or.inl ⟨by kernel_rfl, fun W hW => by simp [execOp, go_sem, hW.1]⟩) hHeld ?_
      simp only [Act.put, List.setIfInBounds_toArray, List.set_cons_zero, List.set_cons_succ]
      refine wpAnyH_take (i := 4) (oi := { dst := some 17, op := Op.fieldAddr 84 (Operand.tmp 3) 1, type := 0, pos := "store.go:95", after := #[], guard := none }) (v := .pointer (some ⟨w.heap.size, 1, none⟩)) rfl (by kernel_rfl) (by kernel_rfl) (by kernel_rfl) (fun _ _ _ h => h) (Or.inl ⟨by kernel_rfl, fun W hW => by kernel_rfl⟩) hHeld ?_
      simp only [Act.put, List.setIfInBounds_toArray, List.set_cons_zero, List.set_cons_succ]
      refine wpAnyH_take (i := 5) (oi := { dst := some 18, op := Op.load 9 (Operand.tmp 17), type := 9, pos := "store.go:95", after := #[{ on := 4, ground := Ground.data }], guard := none }) (v := .string q.token) rfl (by kernel_rfl) (by kernel_rfl) (by kernel_rfl) (fun _ _ _ h => h) (Or.inl ⟨by kernel_rfl, fun W hW => by simp [execOp, go_sem, hW.2.1]⟩) hHeld ?_
      simp only [Act.put, List.setIfInBounds_toArray, List.set_cons_zero, List.set_cons_succ]
      refine wpAnyH_take (i := 6) (oi := { dst := some 19, op := Op.lookup 165 (Operand.tmp 16) (Operand.tmp 18) true, type := 202, pos := "store.go:95", after := #[{ on := 3, ground := Ground.data }, { on := 5, ground := Ground.data }], guard := none }) (v := .tuple #[.agg #[.string (ByteArray.empty), .int .u8 (0)], .bool false]) rfl (by kernel_rfl) (by kernel_rfl) (by kernel_rfl) (fun _ _ _ h => h) (Or.inl ⟨by kernel_rfl, fun W hW => by simp [execOp, go_sem, hW.2.2]⟩) hHeld ?_
      simp only [Act.put, List.setIfInBounds_toArray, List.set_cons_zero, List.set_cons_succ]
      refine wpAnyH_take (i := 7) (oi := { dst := some 12, op := Op.move (Operand.tmp 19), type := 202, pos := "store.go:95", after := #[{ on := 6, ground := Ground.data }], guard := none }) (v := .tuple #[.agg #[.string (ByteArray.empty), .int .u8 (0)], .bool false]) rfl (by kernel_rfl) (by kernel_rfl) (by kernel_rfl) (fun _ _ _ h => h) (Or.inl ⟨by kernel_rfl, fun W hW => by kernel_rfl⟩) hHeld ?_
      simp only [Act.put, List.setIfInBounds_toArray, List.set_cons_zero, List.set_cons_succ]
      refine wpAnyH_take (i := 8) (oi := { dst := some 20, op := Op.extract (Operand.tmp 12) 0, type := 164, pos := "store.go:95", after := #[{ on := 7, ground := Ground.data }], guard := none }) (v := .agg #[.string (ByteArray.empty), .int .u8 (0)]) rfl (by kernel_rfl) (by kernel_rfl) (by kernel_rfl) (fun _ _ _ h => h) (Or.inl ⟨by kernel_rfl, fun W hW => by kernel_rfl⟩) hHeld ?_
      simp only [Act.put, List.setIfInBounds_toArray, List.set_cons_zero, List.set_cons_succ]
      refine wpAnyH_take (i := 9) (oi := { dst := some 21, op := Op.extract (Operand.tmp 12) 1, type := 4, pos := "store.go:95", after := #[{ on := 7, ground := Ground.data }, { on := 11, ground := Ground.gcOnly Departure.lateStores }], guard := none }) (v := .bool false) rfl (by kernel_rfl) (by kernel_rfl) (by kernel_rfl) (fun _ _ _ h => h) (Or.inl ⟨by kernel_rfl, fun W hW => by kernel_rfl⟩) hHeld ?_
      simp only [Act.put, List.setIfInBounds_toArray, List.set_cons_zero, List.set_cons_succ]
      refine wpAnyH_ready (rs := [10]) (by kernel_rfl) (by simp) ?_
      refine AllReadyH.cons (o := { dst := some 6, op := Op.alloc 164, type := 0, pos := "store.go:95", after := #[], guard := none }) rfl (fun K hK => ?_) AllReadyH.nil
      refine ite_wanted ?_ ?_
      · kernel_rfl
      go_simp
      have HA2 := hide ((unhide HA).next (w' := (wc.alloc (.cells #[.string ⟨#[]⟩, .int .u8 0] 164)).drew) ((((Kept.refl _ _).alloc (unhide HA).lt _)).draws 1))
      have hr2 : (wc.alloc (.cells #[.string ⟨#[]⟩, .int .u8 0] 164)).drew.heap[wc.heap.size]? = some (.cells #[.string ⟨#[]⟩, .int .u8 0] 164 (0, 0)) := heap_alloc_new wc _
      generalize (wc.alloc (.cells #[.string ⟨#[]⟩, .int .u8 0] 164)).drew = w4 at HA2 hr2 hK ⊢
      show K _ w4
      refine hK.out _ _ (unhide HSL w4 (unhide HA2).w2) (fun hHeld10 => ?_)
      clear hK K
      try simp only [Act.put, List.setIfInBounds_toArray, List.set_cons_zero, List.set_cons_succ]
      refine wpAnyH_ready (rs := [11]) (by kernel_rfl) (by simp) ?_
      refine AllReadyH.cons (o := { dst := none, op := Op.store 164 (Operand.tmp 6) (Operand.tmp 20), type := 0, pos := "store.go:95", after := #[{ on := 10, ground := Ground.data }, { on := 8, ground := Ground.data }, { on := 0, ground := Ground.phase }, { on := 1, ground := Ground.phase }, { on := 2, ground := Ground.phase }, { on := 3, ground := Ground.phase }, { on := 4, ground := Ground.phase }, { on := 5, ground := Ground.phase }, { on := 6, ground := Ground.phase }, { on := 7, ground := Ground.phase }, { on := 8, ground := Ground.phase }, { on := 9, ground := Ground.textOnly Departure.lateStores }, { on := 10, ground := Ground.phase }], guard := none }) rfl (fun K hK => ?_) AllReadyH.nil
      refine ite_wanted ?_ ?_
      · kernel_rfl
      refine wp_store_row 164 (.tmp 6) (.tmp 20) ?_ wc.heap.size #[.string (ByteArray.empty), .int .u8 (0)] ?_ ?_ 164 _ hr2 info164 rfl (by simp [Value.oneCell']) ?_
      · rfl
      · kernel_rfl
      · kernel_rfl
      simp only [Act.put]
      have HA5 := hide ((unhide HA2).next (w' := w4.setRow wc.heap.size #[.string (ByteArray.empty), .int .u8 (0)]) ((Kept.refl _ _).setRow (unhide HA).lt _))
      have hr5 : (w4.setRow wc.heap.size #[.string (ByteArray.empty), .int .u8 (0)]).heap[wc.heap.size]? = some (.cells #[.string (ByteArray.empty), .int .u8 (0)] 164 (0, 0)) := setRow_heap _ _ _ _ _ _ hr2
      generalize w4.setRow wc.heap.size #[.string (ByteArray.empty), .int .u8 (0)] = w5 at HA5 hr5 hK ⊢
      show K _ w5
      refine hK.out _ _ (unhide HSL w5 (unhide HA5).w2) (fun hHeld11 => ?_)
      clear hK K
      try simp only [Act.put, List.setIfInBounds_toArray, List.set_cons_zero, List.set_cons_succ]
      refine wpAnyH_take (i := 12) (oi := { dst := some 7, op := Op.assign (Operand.tmp 21), type := 4, pos := "store.go:95", after := #[{ on := 9, ground := Ground.data }, { on := 11, ground := Ground.chain }, { on := 0, ground := Ground.phase }, { on := 1, ground := Ground.phase }, { on := 2, ground := Ground.phase }, { on := 3, ground := Ground.phase }, { on := 4, ground := Ground.phase }, { on := 5, ground := Ground.phase }, { on := 6, ground := Ground.phase }, { on := 7, ground := Ground.phase }, { on := 8, ground := Ground.phase }, { on := 9, ground := Ground.phase }, { on := 10, ground := Ground.phase }, { on := 11, ground := Ground.phase }], guard := none }) (v := .bool false) rfl (by kernel_rfl) (by kernel_rfl) (by kernel_rfl) (fun _ _ _ h => h) (Or.inl ⟨by kernel_rfl, fun W hW => by kernel_rfl⟩) hHeld11 ?_
      simp only [Act.put, List.setIfInBounds_toArray, List.set_cons_zero, List.set_cons_succ]
      refine wpAnyH_done (by kernel_rfl) ?_ _
      clear hHeld hHeld10 hHeld11 HSL hr2 HA2 HA
      have HO := hide (unhide HNONE ht)
      go_wp2_with fail
      refine (refused_go 2 w5).mono ?_
      rintro _ w6 ⟨rfl, hk6⟩
      have HW6 := hide ((unhide HA5).w2.next (hk6.mono (unhide HA5).w2.size))
      clear hk6
      go_wp2_with (refine wpList_store_put rfl 86 (.tmp 4) (.tmp 24) rfl (w.heap.size + 1) (ocells 2 .empty .nilFunc) ?_ ?_ 86 (ocells 0 .empty .nilFunc) ?_ info86 rfl (oc_one _ _ rfl) ?_
                   · rfl
                   · rfl
                   · exact (unhide HW6).o
                   intro w7 hp7)
      exact oc_ret Tryz.results72 hp7.row (by rw [unhide HO]; exact ⟨⟨_, rfl, rfl⟩, (unhide HW6).put hp7⟩)
end Go.Proofs.YtlbacbcenejngaaGreatDoor
namespace Go.Proofs.YtlbacbcenejngaaGreatDoor
open Go.RowKit
theorem yieldsIf_build {ops : Array Oper} {S : World → Prop} {op : Oper} {a : Act} (hw : Region.wanted op (yielded ops a.tmps) = true) (x0 x1 x2 x3 x4 x5 : Operand) (ho : op.op = .build 93 #[(0, x0), (1, x1), (2, x2), (3, x3), (4, x4), (5, x5)]) {v0 v1 v2 v3 v4 v5 v : Value}
    (hr : ∀ W, (Instr.build 93 #[(0, v0), (1, v1), (2, v2), (3, v3), (4, v4), (5, v5)]).run Tryz.prog W = .ok v W) (h0 : a.eval x0 = v0) (h1 : a.eval x1 = v1) (h2 : a.eval x2 = v2) (h3 : a.eval x3 = v3) (h4 : a.eval x4 = v4) (h5 : a.eval x5 = v5) : YieldsIf Tryz.prog ops S op v a :=
  .inl ⟨hw, fun W _ => by
    unfold execOp
    simp only [ho]
    have e : ((#[(0, x0), (1, x1), (2, x2), (3, x3), (4, x4), (5, x5)] : Array (Nat × Operand)).map fun x => match x with | (i, x) => (i, a.eval x)) = #[(0, v0), (1, v1), (2, v2), (3, v3), (4, v4), (5, v5)] := by simp [h0, h1, h2, h3, h4, h5]
    rw [e]
    simp only [Sem.run_bind, hr W, Result.andThen_ok, Sem.run_pure]⟩
def SEn (w : World) (vp : Nat) (key more : ByteArray) (err : Nat) (q : Rq) (W : World) : Prop := W.cell? ⟨w.heap.size, 0, none⟩ = some (.int .u8 (q.op.toNat : Int)) ∧ W.cell? ⟨vp, 0, none⟩ = some (.string key) ∧ W.cell? ⟨w.heap.size, 2, none⟩ = some (.string q.path) ∧ W.cell? ⟨w.heap.size, 3, none⟩ = some (.string q.rest) ∧ W.cell? ⟨w.heap.size + 1, 0, none⟩ = some (.int .i64 (err : Int)) ∧ W.cell? ⟨w.heap.size + 1, 1, none⟩ = some (.string more)
structure En (w : World) (q : Rq) (err : Nat) (more : ByteArray) (F : Value) (wi : World) : Prop where
  q : RqAt wi w.heap.size q
  o : wi.heap[w.heap.size + 1]? = some (.cells (ocells err more F) 86 (0, 0))
  z : wi.heap[w.heap.size + 2]? = some (.cells (ecells 0 (List.replicate 32 0) .empty (List.replicate 32 0) 0 (List.replicate 32 0)) 93 (0, 0))
  kept : Kept w.heap.size w wi
theorem En.size {w wi : World} {q : Rq} {err : Nat} {more : ByteArray} {F : Value} (h : En w q err more F wi) : w.heap.size + 3 ≤ wi.heap.size := (Array.getElem?_eq_some_iff.1 h.z).1
theorem En.next {w wi w' : World} {q : Rq} {err : Nat} {more : ByteArray} {F : Value} (h : En w q err more F wi) (hk : Kept (w.heap.size + 3) wi w') : En w q err more F w' :=
  ⟨(hk.block _ (by omega)).trans h.q, (hk.block _ (by omega)).trans h.o, (hk.block _ (by omega)).trans h.z, h.kept.trans (hk.mono (by omega))⟩
theorem en_start (w : World) (q : Rq) (err : Nat) (more : ByteArray) (F : Value) : En w q err more F (((w.alloc (.cells q.cells 84)).alloc (.cells (ocells err more F) 86)).alloc (.cells (ecells 0 (List.replicate 32 0) .empty (List.replicate 32 0) 0 (List.replicate 32 0)) 93)) := by
  refine ⟨?_, ?_, ?_, ?_⟩
  · unfold RqAt
    rw [Below.heap_alloc _ _ _ (by simp only [World.size_alloc]; omega), Below.heap_alloc _ _ _ (by simp)]
    exact heap_alloc_new _ _
  · rw [Below.heap_alloc _ _ _ (by simp)]
    have := heap_alloc_new (w.alloc (.cells q.cells 84)) (.cells (ocells err more F) 86)
    simpa only [World.size_alloc] using this
  · have := heap_alloc_new ((w.alloc (.cells q.cells 84)).alloc (.cells (ocells err more F) 86)) (.cells (ecells 0 (List.replicate 32 0) .empty (List.replicate 32 0) 0 (List.replicate 32 0)) 93)
    simpa only [World.size_alloc] using this
  · exact (((Kept.refl _ _).alloc (Nat.le_refl _) _).alloc (by simp) _).alloc (by simp only [World.size_alloc]; omega) _
/-- The token, or the whole request. -/
def whoOf (q : Rq) (req : ByteArray) : ByteArray := if q.op = 0 then req else q.token
set_option maxRecDepth 100000 in
set_option maxHeartbeats 4000000 in
theorem entry_go (w : World) (vp : Nat) (key req more : ByteArray) (q : Rq) (err : Nat) (F J Lg St : Value) (dn : Bool) (hv : w.heap[vp]? = some (.cells #[.string key, J, Lg, St, .bool dn] 78 (0, 0))) (hk : key.size ≤ 1000000) (hr : req.size ≤ 140737488354000) (hq1 : q.token.size ≤ 140737488354000) (hq2 : q.rest.size ≤ 140737488354000) (hm : more.size ≤ 100000) (hT : Table w) (hz : 0 < w.heap.size) :
    Calls Tryz.prog 38 #[.pointer (some ⟨vp, 0, none⟩), .string req, .agg q.cells, .agg (ocells err more F)] w fun e w' => e = .returned (.agg (ecells q.op (Sha.tag key.data.toList (whoOf q req).data.toList) q.path (Sha.tag key.data.toList q.rest.data.toList) err (Sha.tag key.data.toList more.data.toList))) ∧ Kept w.heap.size w w' := by
  have H0 := hide (en_start w q err more F)
  have HS := hide (show ∀ W, En w q err more F W → SEn w vp key more err q W from fun W hW => ⟨by rw [hW.q.c 0]; rfl, by rw [cell_of_row _ _ _ _ _ _ ((hW.kept.block _ (Array.getElem?_eq_some_iff.1 hv).1).trans hv)]; rfl, by rw [hW.q.c 2]; rfl, by rw [hW.q.c 3]; rfl, by rw [cell_of_row _ _ _ _ _ _ hW.o]; rfl, by rw [cell_of_row _ _ _ _ _ _ hW.o]; rfl⟩)
  have HTB := hide (show ∀ W, En w q err more F W → Table W from fun W hW => hT.kept hW.kept hz)
  obtain ⟨w1, hw1⟩ : ∃ w1, w1 = ((w.alloc (.cells q.cells 84)).alloc (.cells (ocells err more F) 86)).alloc (.cells (ecells 0 (List.replicate 32 0) .empty (List.replicate 32 0) 0 (List.replicate 32 0)) 93) := ⟨_, rfl⟩
  rw [← hw1] at H0
  have hct : w1.cell? ⟨w.heap.size, 1, none⟩ = some (.string q.token) := by rw [(unhide H0).q.c 1]; rfl
  have hco : w1.cell? ⟨w.heap.size, 0, none⟩ = some (.int .u8 (q.op.toNat : Int)) := by rw [(unhide H0).q.c 0]; rfl
  have hws : (whoOf q req).size ≤ 140737488354000 := by unfold whoOf; split <;> assumption
  have l1 := tag_length key.data.toList (whoOf q req).data.toList
  have l2 := tag_length key.data.toList q.rest.data.toList
  have l3 := tag_length key.data.toList more.data.toList
  obtain ⟨T1, hT1⟩ : ∃ T, T = Sha.tag key.data.toList (whoOf q req).data.toList := ⟨_, rfl⟩
  obtain ⟨T2, hT2⟩ : ∃ T, T = Sha.tag key.data.toList q.rest.data.toList := ⟨_, rfl⟩
  obtain ⟨T3, hT3⟩ : ∃ T, T = Sha.tag key.data.toList more.data.toList := ⟨_, rfl⟩
  have G1 := hide (fun W hT hz => tag_go key (whoOf q req) W (by omega) (by omega) hT hz)
  have G2 := hide (fun W hT hz => tag_go key q.rest W (by omega) (by omega) hT hz)
  have G3 := hide (fun W hT hz => tag_go key more W (by omega) (by omega) hT hz)
  rw [← hT1] at l1 G1 ⊢
  rw [← hT2] at l2 G2 ⊢
  rw [← hT3] at l3 G3 ⊢
  have hbu := build93 q.op l1 l2 l3 q.path err
  have hei : (ecells q.op T1 q.path T2 err T3).size = 99 := (ec_facts ⟨(List.length_replicate : (List.replicate 32 (0 : UInt8)).length = 32), l1, l2, l3⟩ q.op q.path err).1
  have heo := ec_one q.op T1 T2 T3 q.path err
  have hi93 : (Tryz.prog.info? 93).map (·.size) = some (ecells q.op T1 q.path T2 err T3).size := by rw [hei]; exact info93
  have hvp : vp < w.heap.size + 2 := by have := (Array.getElem?_eq_some_iff.1 hv).1; omega
  clear hT1 hT2 hT3 hv hT
  have hwo : (q.op = 0 ∧ whoOf q req = req) ∨ (q.op ≠ 0 ∧ whoOf q req = q.token) := by
    unfold whoOf
    by_cases h : q.op = 0
    · exact .inl ⟨h, if_pos h⟩
    · exact .inr ⟨h, if_neg h⟩
  generalize whoOf q req = who at *
  rcases hwo with ⟨ho, rfl⟩ | ⟨ho, rfl⟩
  · have hoI : (q.op.toNat : Int) = 0 := by rw [ho]; rfl
    go_enter Tryz.func38, Tryz.ntmps38
    go_upto_region 1 with fail
    change Code.wp _ _ _ _ (((w.alloc (.cells q.cells 84)).alloc (.cells (ocells err more F) 86)).alloc (.cells (ecells 0 (List.replicate 32 0) .empty (List.replicate 32 0) 0 (List.replicate 32 0)) 93))
    rw [← hw1]
    clear hw1
    go_wp2_with fail
    clear hoI ho
    generalize hEC : ecells q.op T1 q.path T2 err T3 = EC at *
    refine wp_region_held_drew (S := SEn w vp key more err q) (by kernel_rfl) (unhide HS w1.drew ((unhide H0).next ((Kept.refl _ _).draws 1))) (fun hHeld => ?_)
    refine wpAnyH_take (i := 0) (oi := { dst := some 16, op := Op.fieldAddr 84 (Operand.tmp 6) 0, type := 0, pos := "bailey.go:104", after := #[], guard := none }) (v := .pointer (some ⟨w.heap.size, 0, none⟩)) rfl (by kernel_rfl) (by kernel_rfl) (by kernel_rfl) (fun _ _ _ h => h) (Or.inl ⟨by kernel_rfl, fun W hW => by kernel_rfl⟩) hHeld ?_
    simp only [Act.put, List.setIfInBounds_toArray, List.set_cons_zero, List.set_cons_succ]
    refine wpAnyH_take (i := 1) (oi := { dst := some 17, op := Op.load 5 (Operand.tmp 16), type := 5, pos := "bailey.go:104", after := #[{ on := 0, ground := Ground.data }], guard := none }) (v := .int .u8 (q.op.toNat : Int)) rfl (by kernel_rfl) (by kernel_rfl) (by kernel_rfl) (fun _ _ _ h => h) (Or.inl ⟨by kernel_rfl, fun W hW => by simp [execOp, go_sem, hW.1]⟩) hHeld ?_
    simp only [Act.put, List.setIfInBounds_toArray, List.set_cons_zero, List.set_cons_succ]
    refine wpAnyH_take (i := 2) (oi := { dst := some 18, op := Op.move (Operand.tmp 0), type := 31, pos := "bailey.go:104", after := #[], guard := none }) (v := .pointer (some ⟨vp, 0, none⟩)) rfl (by kernel_rfl) (by kernel_rfl) (by kernel_rfl) (fun _ _ _ h => h) (Or.inl ⟨by kernel_rfl, fun W hW => by kernel_rfl⟩) hHeld ?_
    simp only [Act.put, List.setIfInBounds_toArray, List.set_cons_zero, List.set_cons_succ]
    refine wpAnyH_take (i := 3) (oi := { dst := some 19, op := Op.nilCheck (Operand.tmp 18), type := 0, pos := "bailey.go:104", after := #[{ on := 2, ground := Ground.data }], guard := none }) (v := .pointer (some ⟨vp, 0, none⟩)) rfl (by kernel_rfl) (by kernel_rfl) (by kernel_rfl) (fun _ _ _ h => h) (Or.inl ⟨by kernel_rfl, fun W hW => by kernel_rfl⟩) hHeld ?_
    simp only [Act.put, List.setIfInBounds_toArray, List.set_cons_zero, List.set_cons_succ]
    refine wpAnyH_take (i := 4) (oi := { dst := some 20, op := Op.fieldAddr 78 (Operand.tmp 19) 0, type := 0, pos := "bailey.go:104", after := #[{ on := 3, ground := Ground.data }], guard := none }) (v := .pointer (some ⟨vp, 0, none⟩)) rfl (by kernel_rfl) (by kernel_rfl) (by kernel_rfl) (fun _ _ _ h => h) (Or.inl ⟨by kernel_rfl, fun W hW => by kernel_rfl⟩) hHeld ?_
    simp only [Act.put, List.setIfInBounds_toArray, List.set_cons_zero, List.set_cons_succ]
    refine wpAnyH_take (i := 5) (oi := { dst := some 21, op := Op.load 9 (Operand.tmp 20), type := 9, pos := "bailey.go:104", after := #[{ on := 4, ground := Ground.data }], guard := none }) (v := .string key) rfl (by kernel_rfl) (by kernel_rfl) (by kernel_rfl) (fun _ _ _ h => h) (Or.inl ⟨by kernel_rfl, fun W hW => by simp [execOp, go_sem, hW.2.1]⟩) hHeld ?_
    simp only [Act.put, List.setIfInBounds_toArray, List.set_cons_zero, List.set_cons_succ]
    refine wpAnyH_take (i := 6) (oi := { dst := some 22, op := Op.move (Operand.tmp 9), type := 9, pos := "bailey.go:104", after := #[], guard := none }) (v := .string who) rfl (by kernel_rfl) (by kernel_rfl) (by kernel_rfl) (fun _ _ _ h => h) (Or.inl ⟨by kernel_rfl, fun W hW => by kernel_rfl⟩) hHeld ?_
    simp only [Act.put, List.setIfInBounds_toArray, List.set_cons_zero, List.set_cons_succ]
    refine wpAnyH_take (i := 8) (oi := { dst := some 24, op := Op.fieldAddr 84 (Operand.tmp 6) 2, type := 0, pos := "bailey.go:104", after := #[], guard := none }) (v := .pointer (some ⟨w.heap.size, 2, none⟩)) rfl (by kernel_rfl) (by kernel_rfl) (by kernel_rfl) (fun _ _ _ h => h) (Or.inl ⟨by kernel_rfl, fun W hW => by kernel_rfl⟩) hHeld ?_
    simp only [Act.put, List.setIfInBounds_toArray, List.set_cons_zero, List.set_cons_succ]
    refine wpAnyH_take (i := 9) (oi := { dst := some 25, op := Op.load 9 (Operand.tmp 24), type := 9, pos := "bailey.go:104", after := #[{ on := 8, ground := Ground.data }], guard := none }) (v := .string q.path) rfl (by kernel_rfl) (by kernel_rfl) (by kernel_rfl) (fun _ _ _ h => h) (Or.inl ⟨by kernel_rfl, fun W hW => by simp [execOp, go_sem, hW.2.2.1]⟩) hHeld ?_
    simp only [Act.put, List.setIfInBounds_toArray, List.set_cons_zero, List.set_cons_succ]
    refine wpAnyH_take (i := 10) (oi := { dst := some 26, op := Op.move (Operand.tmp 0), type := 31, pos := "bailey.go:104", after := #[], guard := none }) (v := .pointer (some ⟨vp, 0, none⟩)) rfl (by kernel_rfl) (by kernel_rfl) (by kernel_rfl) (fun _ _ _ h => h) (Or.inl ⟨by kernel_rfl, fun W hW => by kernel_rfl⟩) hHeld ?_
    simp only [Act.put, List.setIfInBounds_toArray, List.set_cons_zero, List.set_cons_succ]
    refine wpAnyH_take (i := 11) (oi := { dst := some 27, op := Op.nilCheck (Operand.tmp 26), type := 0, pos := "bailey.go:104", after := #[{ on := 10, ground := Ground.data }], guard := none }) (v := .pointer (some ⟨vp, 0, none⟩)) rfl (by kernel_rfl) (by kernel_rfl) (by kernel_rfl) (fun _ _ _ h => h) (Or.inl ⟨by kernel_rfl, fun W hW => by kernel_rfl⟩) hHeld ?_
    simp only [Act.put, List.setIfInBounds_toArray, List.set_cons_zero, List.set_cons_succ]
    refine wpAnyH_take (i := 12) (oi := { dst := some 28, op := Op.fieldAddr 78 (Operand.tmp 27) 0, type := 0, pos := "bailey.go:104", after := #[{ on := 11, ground := Ground.data }], guard := none }) (v := .pointer (some ⟨vp, 0, none⟩)) rfl (by kernel_rfl) (by kernel_rfl) (by kernel_rfl) (fun _ _ _ h => h) (Or.inl ⟨by kernel_rfl, fun W hW => by kernel_rfl⟩) hHeld ?_
    simp only [Act.put, List.setIfInBounds_toArray, List.set_cons_zero, List.set_cons_succ]
    refine wpAnyH_take (i := 13) (oi := { dst := some 29, op := Op.load 9 (Operand.tmp 28), type := 9, pos := "bailey.go:104", after := #[{ on := 12, ground := Ground.data }], guard := none }) (v := .string key) rfl (by kernel_rfl) (by kernel_rfl) (by kernel_rfl) (fun _ _ _ h => h) (Or.inl ⟨by kernel_rfl, fun W hW => by simp [execOp, go_sem, hW.2.1]⟩) hHeld ?_
    simp only [Act.put, List.setIfInBounds_toArray, List.set_cons_zero, List.set_cons_succ]
    refine wpAnyH_take (i := 14) (oi := { dst := some 30, op := Op.fieldAddr 84 (Operand.tmp 6) 3, type := 0, pos := "bailey.go:104", after := #[], guard := none }) (v := .pointer (some ⟨w.heap.size, 3, none⟩)) rfl (by kernel_rfl) (by kernel_rfl) (by kernel_rfl) (fun _ _ _ h => h) (Or.inl ⟨by kernel_rfl, fun W hW => by kernel_rfl⟩) hHeld ?_
    simp only [Act.put, List.setIfInBounds_toArray, List.set_cons_zero, List.set_cons_succ]
    refine wpAnyH_take (i := 15) (oi := { dst := some 31, op := Op.load 9 (Operand.tmp 30), type := 9, pos := "bailey.go:104", after := #[{ on := 14, ground := Ground.data }], guard := none }) (v := .string q.rest) rfl (by kernel_rfl) (by kernel_rfl) (by kernel_rfl) (fun _ _ _ h => h) (Or.inl ⟨by kernel_rfl, fun W hW => by simp [execOp, go_sem, hW.2.2.2.1]⟩) hHeld ?_
    simp only [Act.put, List.setIfInBounds_toArray, List.set_cons_zero, List.set_cons_succ]
    refine wpAnyH_take (i := 17) (oi := { dst := some 33, op := Op.fieldAddr 86 (Operand.tmp 7) 0, type := 0, pos := "bailey.go:104", after := #[], guard := none }) (v := .pointer (some ⟨w.heap.size + 1, 0, none⟩)) rfl (by kernel_rfl) (by kernel_rfl) (by kernel_rfl) (fun _ _ _ h => h) (Or.inl ⟨by kernel_rfl, fun W hW => by kernel_rfl⟩) hHeld ?_
    simp only [Act.put, List.setIfInBounds_toArray, List.set_cons_zero, List.set_cons_succ]
    refine wpAnyH_take (i := 18) (oi := { dst := some 34, op := Op.load 43 (Operand.tmp 33), type := 43, pos := "bailey.go:104", after := #[{ on := 17, ground := Ground.data }], guard := none }) (v := .int .i64 (err : Int)) rfl (by kernel_rfl) (by kernel_rfl) (by kernel_rfl) (fun _ _ _ h => h) (Or.inl ⟨by kernel_rfl, fun W hW => by simp [execOp, go_sem, hW.2.2.2.2.1]⟩) hHeld ?_
    simp only [Act.put, List.setIfInBounds_toArray, List.set_cons_zero, List.set_cons_succ]
    refine wpAnyH_take (i := 19) (oi := { dst := some 35, op := Op.move (Operand.tmp 0), type := 31, pos := "bailey.go:104", after := #[], guard := none }) (v := .pointer (some ⟨vp, 0, none⟩)) rfl (by kernel_rfl) (by kernel_rfl) (by kernel_rfl) (fun _ _ _ h => h) (Or.inl ⟨by kernel_rfl, fun W hW => by kernel_rfl⟩) hHeld ?_
    simp only [Act.put, List.setIfInBounds_toArray, List.set_cons_zero, List.set_cons_succ]
    refine wpAnyH_take (i := 20) (oi := { dst := some 36, op := Op.nilCheck (Operand.tmp 35), type := 0, pos := "bailey.go:104", after := #[{ on := 19, ground := Ground.data }], guard := none }) (v := .pointer (some ⟨vp, 0, none⟩)) rfl (by kernel_rfl) (by kernel_rfl) (by kernel_rfl) (fun _ _ _ h => h) (Or.inl ⟨by kernel_rfl, fun W hW => by kernel_rfl⟩) hHeld ?_
    simp only [Act.put, List.setIfInBounds_toArray, List.set_cons_zero, List.set_cons_succ]
    refine wpAnyH_take (i := 21) (oi := { dst := some 37, op := Op.fieldAddr 78 (Operand.tmp 36) 0, type := 0, pos := "bailey.go:104", after := #[{ on := 20, ground := Ground.data }], guard := none }) (v := .pointer (some ⟨vp, 0, none⟩)) rfl (by kernel_rfl) (by kernel_rfl) (by kernel_rfl) (fun _ _ _ h => h) (Or.inl ⟨by kernel_rfl, fun W hW => by kernel_rfl⟩) hHeld ?_
    simp only [Act.put, List.setIfInBounds_toArray, List.set_cons_zero, List.set_cons_succ]
    refine wpAnyH_take (i := 22) (oi := { dst := some 38, op := Op.load 9 (Operand.tmp 37), type := 9, pos := "bailey.go:104", after := #[{ on := 21, ground := Ground.data }], guard := none }) (v := .string key) rfl (by kernel_rfl) (by kernel_rfl) (by kernel_rfl) (fun _ _ _ h => h) (Or.inl ⟨by kernel_rfl, fun W hW => by simp [execOp, go_sem, hW.2.1]⟩) hHeld ?_
    simp only [Act.put, List.setIfInBounds_toArray, List.set_cons_zero, List.set_cons_succ]
    refine wpAnyH_take (i := 23) (oi := { dst := some 39, op := Op.fieldAddr 86 (Operand.tmp 7) 1, type := 0, pos := "bailey.go:104", after := #[], guard := none }) (v := .pointer (some ⟨w.heap.size + 1, 1, none⟩)) rfl (by kernel_rfl) (by kernel_rfl) (by kernel_rfl) (fun _ _ _ h => h) (Or.inl ⟨by kernel_rfl, fun W hW => by kernel_rfl⟩) hHeld ?_
    simp only [Act.put, List.setIfInBounds_toArray, List.set_cons_zero, List.set_cons_succ]
    refine wpAnyH_take (i := 24) (oi := { dst := some 40, op := Op.load 9 (Operand.tmp 39), type := 9, pos := "bailey.go:104", after := #[{ on := 23, ground := Ground.data }], guard := none }) (v := .string more) rfl (by kernel_rfl) (by kernel_rfl) (by kernel_rfl) (fun _ _ _ h => h) (Or.inl ⟨by kernel_rfl, fun W hW => by simp [execOp, go_sem, hW.2.2.2.2.2]⟩) hHeld ?_
    simp only [Act.put, List.setIfInBounds_toArray, List.set_cons_zero, List.set_cons_succ]
    refine wpAnyH_ready (rs := [7]) (by kernel_rfl) (by simp) ?_
    refine AllReadyH.cons (o := { dst := some 23, op := Op.call { callee := Callee.value (Operand.func 74), args := #[Operand.tmp 21, Operand.tmp 22], argTypes := #[9, 9] }, type := 29, pos := "bailey.go:106", after := #[{ on := 5, ground := Ground.data }, { on := 6, ground := Ground.data }], guard := none }) rfl (fun K hK => ?_) AllReadyH.nil
    refine ite_wanted ?_ ?_
    · kernel_rfl
    go_simp
    refine (unhide G1 w1.drew (unhide HTB _ ((unhide H0).next (w' := w1.drew) ((Kept.refl _ _).draws 1))) (by have := ((unhide H0).next (w' := w1.drew) ((Kept.refl _ _).draws 1)).size; omega)).mono ?_
    rintro _ w2 ⟨rfl, hb⟩
    have E2 := hide (((unhide H0).next (w' := w1.drew) ((Kept.refl _ _).draws 1)).next (w' := w2) ((Kept.of hb).mono ((unhide H0).next (w' := w1.drew) ((Kept.refl _ _).draws 1)).size))
    clear hb
    show K _ w2
    refine hK.out _ _ (unhide HS w2 (unhide E2)) (fun hHeld7 => ?_)
    clear hK K
    try simp only [Act.put, List.setIfInBounds_toArray, List.set_cons_zero, List.set_cons_succ]
    refine wpAnyH_ready (rs := [16]) (by kernel_rfl) (by simp) ?_
    refine AllReadyH.cons (o := { dst := some 32, op := Op.call { callee := Callee.value (Operand.func 74), args := #[Operand.tmp 29, Operand.tmp 31], argTypes := #[9, 9] }, type := 29, pos := "bailey.go:108", after := #[{ on := 13, ground := Ground.data }, { on := 15, ground := Ground.data }, { on := 7, ground := Ground.chain }], guard := none }) rfl (fun K hK => ?_) AllReadyH.nil
    refine ite_wanted ?_ ?_
    · kernel_rfl
    go_simp
    refine (unhide G2 w2 (unhide HTB _ (unhide E2)) (by have := (unhide E2).size; omega)).mono ?_
    rintro _ w3 ⟨rfl, hb⟩
    have E3 := hide ((unhide E2).next (w' := w3) ((Kept.of hb).mono (unhide E2).size))
    clear hb
    show K _ w3
    refine hK.out _ _ (unhide HS w3 (unhide E3)) (fun hHeld16 => ?_)
    clear hK K
    try simp only [Act.put, List.setIfInBounds_toArray, List.set_cons_zero, List.set_cons_succ]
    refine wpAnyH_ready (rs := [25]) (by kernel_rfl) (by simp) ?_
    refine AllReadyH.cons (o := { dst := some 41, op := Op.call { callee := Callee.value (Operand.func 74), args := #[Operand.tmp 38, Operand.tmp 40], argTypes := #[9, 9] }, type := 29, pos := "bailey.go:110", after := #[{ on := 22, ground := Ground.data }, { on := 24, ground := Ground.data }, { on := 16, ground := Ground.chain }], guard := none }) rfl (fun K hK => ?_) AllReadyH.nil
    refine ite_wanted ?_ ?_
    · kernel_rfl
    go_simp
    refine (unhide G3 w3 (unhide HTB _ (unhide E3)) (by have := (unhide E3).size; omega)).mono ?_
    rintro _ w4 ⟨rfl, hb⟩
    have E4 := hide ((unhide E3).next (w' := w4) ((Kept.of hb).mono (unhide E3).size))
    clear hb
    show K _ w4
    refine hK.out _ _ (unhide HS w4 (unhide E4)) (fun hHeld25 => ?_)
    clear hK K
    try simp only [Act.put, List.setIfInBounds_toArray, List.set_cons_zero, List.set_cons_succ]
    refine wpAnyH_take (i := 26) (oi := { dst := some 42, op := Op.build 93 #[(0, Operand.tmp 17), (1, Operand.tmp 23), (2, Operand.tmp 25), (3, Operand.tmp 32), (4, Operand.tmp 34), (5, Operand.tmp 41)], type := 93, pos := "bailey.go:104", after := #[{ on := 1, ground := Ground.data }, { on := 7, ground := Ground.data }, { on := 9, ground := Ground.data }, { on := 16, ground := Ground.data }, { on := 18, ground := Ground.data }, { on := 25, ground := Ground.data }], guard := none }) (v := .agg EC) rfl (by kernel_rfl) (by kernel_rfl) (by kernel_rfl) (fun _ _ _ h => h) (yieldsIf_build (by kernel_rfl) (.tmp 17) (.tmp 23) (.tmp 25) (.tmp 32) (.tmp 34) (.tmp 41) rfl hbu (by kernel_rfl) (by kernel_rfl) (by kernel_rfl) (by kernel_rfl) (by kernel_rfl) (by kernel_rfl)) hHeld25 ?_
    simp only [Act.put, List.setIfInBounds_toArray, List.set_cons_zero, List.set_cons_succ]
    refine wpAnyH_ready (rs := [27]) (by kernel_rfl) (by simp) ?_
    refine AllReadyH.cons (o := { dst := none, op := Op.store 93 (Operand.tmp 8) (Operand.tmp 42), type := 0, pos := "bailey.go:104", after := #[{ on := 26, ground := Ground.data }, { on := 25, ground := Ground.chain }, { on := 0, ground := Ground.phase }, { on := 1, ground := Ground.phase }, { on := 2, ground := Ground.phase }, { on := 3, ground := Ground.phase }, { on := 4, ground := Ground.phase }, { on := 5, ground := Ground.phase }, { on := 6, ground := Ground.phase }, { on := 7, ground := Ground.phase }, { on := 8, ground := Ground.phase }, { on := 9, ground := Ground.phase }, { on := 10, ground := Ground.phase }, { on := 11, ground := Ground.phase }, { on := 12, ground := Ground.phase }, { on := 13, ground := Ground.phase }, { on := 14, ground := Ground.phase }, { on := 15, ground := Ground.phase }, { on := 16, ground := Ground.phase }, { on := 17, ground := Ground.phase }, { on := 18, ground := Ground.phase }, { on := 19, ground := Ground.phase }, { on := 20, ground := Ground.phase }, { on := 21, ground := Ground.phase }, { on := 22, ground := Ground.phase }, { on := 23, ground := Ground.phase }, { on := 24, ground := Ground.phase }, { on := 25, ground := Ground.phase }, { on := 26, ground := Ground.phase }], guard := none }) rfl (fun K hK => ?_) AllReadyH.nil
    refine ite_wanted ?_ ?_
    · kernel_rfl
    refine wp_store_row 93 (.tmp 8) (.tmp 42) ?_ (w.heap.size + 2) EC ?_ ?_ 93 _ (unhide E4).z hi93 (by rw [hei]; rfl) heo ?_
    · rfl
    · kernel_rfl
    · kernel_rfl
    simp only [Act.put]
    have hr5 : (w4.setRow (w.heap.size + 2) EC).heap[w.heap.size + 2]? = some (.cells EC 93 (0, 0)) := setRow_heap _ _ _ _ _ _ (unhide E4).z
    have hk5 : Kept (w.heap.size + 2) w4 (w4.setRow (w.heap.size + 2) EC) := (Kept.refl _ _).setRow (Nat.le_refl _) _
    have HS5 := hide (show SEn w vp key more err q (w4.setRow (w.heap.size + 2) EC) from by
      have h4 := unhide HS w4 (unhide E4)
      have hvl : vp < w.heap.size + 2 := hvp
      exact ⟨(hk5.cell (p := ⟨w.heap.size, 0, none⟩) (by simp)).trans h4.1, (hk5.cell (p := ⟨vp, 0, none⟩) hvl).trans h4.2.1, (hk5.cell (p := ⟨w.heap.size, 2, none⟩) (by simp)).trans h4.2.2.1, (hk5.cell (p := ⟨w.heap.size, 3, none⟩) (by simp)).trans h4.2.2.2.1, (hk5.cell (p := ⟨w.heap.size + 1, 0, none⟩) (by simp)).trans h4.2.2.2.2.1, (hk5.cell (p := ⟨w.heap.size + 1, 1, none⟩) (by simp)).trans h4.2.2.2.2.2⟩)
    have HK5 := hide ((unhide E4).kept.trans (hk5.mono (by omega)))
    clear hk5
    generalize w4.setRow (w.heap.size + 2) EC = w5 at hr5 HK5 HS5 hK ⊢
    show K _ w5
    refine hK.out _ _ (unhide HS5) (fun hHeld27 => ?_)
    clear hK K
    try simp only [Act.put, List.setIfInBounds_toArray, List.set_cons_zero, List.set_cons_succ]
    refine wpAnyH_done (by kernel_rfl) ?_ _
    go_wp2_with fail
    exact bodyPost_ret (v := .agg EC) (results_cell_row Tryz.results38 _ _ (w.heap.size + 2) 93 _ (0, 0) _ rfl hr5 Tryz.underlying93 rfl hi93) rfl ⟨by rw [hEC], unhide HK5⟩
  · have hoI : ¬ (q.op.toNat : Int) = 0 := fun e => ho (UInt8.toNat_inj.1 (show q.op.toNat = 0 from by omega))
    go_enter Tryz.func38, Tryz.ntmps38
    go_upto_region 1 with fail
    change Code.wp _ _ _ _ (((w.alloc (.cells q.cells 84)).alloc (.cells (ocells err more F) 86)).alloc (.cells (ecells 0 (List.replicate 32 0) .empty (List.replicate 32 0) 0 (List.replicate 32 0)) 93))
    rw [← hw1]
    clear hw1
    go_wp2_with fail
    clear hoI ho
    generalize hEC : ecells q.op T1 q.path T2 err T3 = EC at *
    refine wp_region_held_drew (S := SEn w vp key more err q) (by kernel_rfl) (unhide HS w1.drew ((unhide H0).next ((Kept.refl _ _).draws 1))) (fun hHeld => ?_)
    refine wpAnyH_take (i := 0) (oi := { dst := some 16, op := Op.fieldAddr 84 (Operand.tmp 6) 0, type := 0, pos := "bailey.go:104", after := #[], guard := none }) (v := .pointer (some ⟨w.heap.size, 0, none⟩)) rfl (by kernel_rfl) (by kernel_rfl) (by kernel_rfl) (fun _ _ _ h => h) (Or.inl ⟨by kernel_rfl, fun W hW => by kernel_rfl⟩) hHeld ?_
    simp only [Act.put, List.setIfInBounds_toArray, List.set_cons_zero, List.set_cons_succ]
    refine wpAnyH_take (i := 1) (oi := { dst := some 17, op := Op.load 5 (Operand.tmp 16), type := 5, pos := "bailey.go:104", after := #[{ on := 0, ground := Ground.data }], guard := none }) (v := .int .u8 (q.op.toNat : Int)) rfl (by kernel_rfl) (by kernel_rfl) (by kernel_rfl) (fun _ _ _ h => h) (Or.inl ⟨by kernel_rfl, fun W hW => by simp [execOp, go_sem, hW.1]⟩) hHeld ?_
    simp only [Act.put, List.setIfInBounds_toArray, List.set_cons_zero, List.set_cons_succ]
    refine wpAnyH_take (i := 2) (oi := { dst := some 18, op := Op.move (Operand.tmp 0), type := 31, pos := "bailey.go:104", after := #[], guard := none }) (v := .pointer (some ⟨vp, 0, none⟩)) rfl (by kernel_rfl) (by kernel_rfl) (by kernel_rfl) (fun _ _ _ h => h) (Or.inl ⟨by kernel_rfl, fun W hW => by kernel_rfl⟩) hHeld ?_
    simp only [Act.put, List.setIfInBounds_toArray, List.set_cons_zero, List.set_cons_succ]
    refine wpAnyH_take (i := 3) (oi := { dst := some 19, op := Op.nilCheck (Operand.tmp 18), type := 0, pos := "bailey.go:104", after := #[{ on := 2, ground := Ground.data }], guard := none }) (v := .pointer (some ⟨vp, 0, none⟩)) rfl (by kernel_rfl) (by kernel_rfl) (by kernel_rfl) (fun _ _ _ h => h) (Or.inl ⟨by kernel_rfl, fun W hW => by kernel_rfl⟩) hHeld ?_
    simp only [Act.put, List.setIfInBounds_toArray, List.set_cons_zero, List.set_cons_succ]
    refine wpAnyH_take (i := 4) (oi := { dst := some 20, op := Op.fieldAddr 78 (Operand.tmp 19) 0, type := 0, pos := "bailey.go:104", after := #[{ on := 3, ground := Ground.data }], guard := none }) (v := .pointer (some ⟨vp, 0, none⟩)) rfl (by kernel_rfl) (by kernel_rfl) (by kernel_rfl) (fun _ _ _ h => h) (Or.inl ⟨by kernel_rfl, fun W hW => by kernel_rfl⟩) hHeld ?_
    simp only [Act.put, List.setIfInBounds_toArray, List.set_cons_zero, List.set_cons_succ]
    refine wpAnyH_take (i := 5) (oi := { dst := some 21, op := Op.load 9 (Operand.tmp 20), type := 9, pos := "bailey.go:104", after := #[{ on := 4, ground := Ground.data }], guard := none }) (v := .string key) rfl (by kernel_rfl) (by kernel_rfl) (by kernel_rfl) (fun _ _ _ h => h) (Or.inl ⟨by kernel_rfl, fun W hW => by simp [execOp, go_sem, hW.2.1]⟩) hHeld ?_
    simp only [Act.put, List.setIfInBounds_toArray, List.set_cons_zero, List.set_cons_succ]
    refine wpAnyH_take (i := 6) (oi := { dst := some 22, op := Op.move (Operand.tmp 9), type := 9, pos := "bailey.go:104", after := #[], guard := none }) (v := .string q.token) rfl (by kernel_rfl) (by kernel_rfl) (by kernel_rfl) (fun _ _ _ h => h) (Or.inl ⟨by kernel_rfl, fun W hW => by kernel_rfl⟩) hHeld ?_
    simp only [Act.put, List.setIfInBounds_toArray, List.set_cons_zero, List.set_cons_succ]
    refine wpAnyH_take (i := 8) (oi := { dst := some 24, op := Op.fieldAddr 84 (Operand.tmp 6) 2, type := 0, pos := "bailey.go:104", after := #[], guard := none }) (v := .pointer (some ⟨w.heap.size, 2, none⟩)) rfl (by kernel_rfl) (by kernel_rfl) (by kernel_rfl) (fun _ _ _ h => h) (Or.inl ⟨by kernel_rfl, fun W hW => by kernel_rfl⟩) hHeld ?_
    simp only [Act.put, List.setIfInBounds_toArray, List.set_cons_zero, List.set_cons_succ]
    refine wpAnyH_take (i := 9) (oi := { dst := some 25, op := Op.load 9 (Operand.tmp 24), type := 9, pos := "bailey.go:104", after := #[{ on := 8, ground := Ground.data }], guard := none }) (v := .string q.path) rfl (by kernel_rfl) (by kernel_rfl) (by kernel_rfl) (fun _ _ _ h => h) (Or.inl ⟨by kernel_rfl, fun W hW => by simp [execOp, go_sem, hW.2.2.1]⟩) hHeld ?_
    simp only [Act.put, List.setIfInBounds_toArray, List.set_cons_zero, List.set_cons_succ]
    refine wpAnyH_take (i := 10) (oi := { dst := some 26, op := Op.move (Operand.tmp 0), type := 31, pos := "bailey.go:104", after := #[], guard := none }) (v := .pointer (some ⟨vp, 0, none⟩)) rfl (by kernel_rfl) (by kernel_rfl) (by kernel_rfl) (fun _ _ _ h => h) (Or.inl ⟨by kernel_rfl, fun W hW => by kernel_rfl⟩) hHeld ?_
    simp only [Act.put, List.setIfInBounds_toArray, List.set_cons_zero, List.set_cons_succ]
    refine wpAnyH_take (i := 11) (oi := { dst := some 27, op := Op.nilCheck (Operand.tmp 26), type := 0, pos := "bailey.go:104", after := #[{ on := 10, ground := Ground.data }], guard := none }) (v := .pointer (some ⟨vp, 0, none⟩)) rfl (by kernel_rfl) (by kernel_rfl) (by kernel_rfl) (fun _ _ _ h => h) (Or.inl ⟨by kernel_rfl, fun W hW => by kernel_rfl⟩) hHeld ?_
    simp only [Act.put, List.setIfInBounds_toArray, List.set_cons_zero, List.set_cons_succ]
    refine wpAnyH_take (i := 12) (oi := { dst := some 28, op := Op.fieldAddr 78 (Operand.tmp 27) 0, type := 0, pos := "bailey.go:104", after := #[{ on := 11, ground := Ground.data }], guard := none }) (v := .pointer (some ⟨vp, 0, none⟩)) rfl (by kernel_rfl) (by kernel_rfl) (by kernel_rfl) (fun _ _ _ h => h) (Or.inl ⟨by kernel_rfl, fun W hW => by kernel_rfl⟩) hHeld ?_
    simp only [Act.put, List.setIfInBounds_toArray, List.set_cons_zero, List.set_cons_succ]
    refine wpAnyH_take (i := 13) (oi := { dst := some 29, op := Op.load 9 (Operand.tmp 28), type := 9, pos := "bailey.go:104", after := #[{ on := 12, ground := Ground.data }], guard := none }) (v := .string key) rfl (by kernel_rfl) (by kernel_rfl) (by kernel_rfl) (fun _ _ _ h => h) (Or.inl ⟨by kernel_rfl, fun W hW => by simp [execOp, go_sem, hW.2.1]⟩) hHeld ?_
    simp only [Act.put, List.setIfInBounds_toArray, List.set_cons_zero, List.set_cons_succ]
    refine wpAnyH_take (i := 14) (oi := { dst := some 30, op := Op.fieldAddr 84 (Operand.tmp 6) 3, type := 0, pos := "bailey.go:104", after := #[], guard := none }) (v := .pointer (some ⟨w.heap.size, 3, none⟩)) rfl (by kernel_rfl) (by kernel_rfl) (by kernel_rfl) (fun _ _ _ h => h) (Or.inl ⟨by kernel_rfl, fun W hW => by kernel_rfl⟩) hHeld ?_
    simp only [Act.put, List.setIfInBounds_toArray, List.set_cons_zero, List.set_cons_succ]
    refine wpAnyH_take (i := 15) (oi := { dst := some 31, op := Op.load 9 (Operand.tmp 30), type := 9, pos := "bailey.go:104", after := #[{ on := 14, ground := Ground.data }], guard := none }) (v := .string q.rest) rfl (by kernel_rfl) (by kernel_rfl) (by kernel_rfl) (fun _ _ _ h => h) (Or.inl ⟨by kernel_rfl, fun W hW => by simp [execOp, go_sem, hW.2.2.2.1]⟩) hHeld ?_
    simp only [Act.put, List.setIfInBounds_toArray, List.set_cons_zero, List.set_cons_succ]
    refine wpAnyH_take (i := 17) (oi := { dst := some 33, op := Op.fieldAddr 86 (Operand.tmp 7) 0, type := 0, pos := "bailey.go:104", after := #[], guard := none }) (v := .pointer (some ⟨w.heap.size + 1, 0, none⟩)) rfl (by kernel_rfl) (by kernel_rfl) (by kernel_rfl) (fun _ _ _ h => h) (Or.inl ⟨by kernel_rfl, fun W hW => by kernel_rfl⟩) hHeld ?_
    simp only [Act.put, List.setIfInBounds_toArray, List.set_cons_zero, List.set_cons_succ]
    refine wpAnyH_take (i := 18) (oi := { dst := some 34, op := Op.load 43 (Operand.tmp 33), type := 43, pos := "bailey.go:104", after := #[{ on := 17, ground := Ground.data }], guard := none }) (v := .int .i64 (err : Int)) rfl (by kernel_rfl) (by kernel_rfl) (by kernel_rfl) (fun _ _ _ h => h) (Or.inl ⟨by kernel_rfl, fun W hW => by simp [execOp, go_sem, hW.2.2.2.2.1]⟩) hHeld ?_
    simp only [Act.put, List.setIfInBounds_toArray, List.set_cons_zero, List.set_cons_succ]
    refine wpAnyH_take (i := 19) (oi := { dst := some 35, op := Op.move (Operand.tmp 0), type := 31, pos := "bailey.go:104", after := #[], guard := none }) (v := .pointer (some ⟨vp, 0, none⟩)) rfl (by kernel_rfl) (by kernel_rfl) (by kernel_rfl) (fun _ _ _ h => h) (Or.inl ⟨by kernel_rfl, fun W hW => by kernel_rfl⟩) hHeld ?_
    simp only [Act.put, List.setIfInBounds_toArray, List.set_cons_zero, List.set_cons_succ]
    refine wpAnyH_take (i := 20) (oi := { dst := some 36, op := Op.nilCheck (Operand.tmp 35), type := 0, pos := "bailey.go:104", after := #[{ on := 19, ground := Ground.data }], guard := none }) (v := .pointer (some ⟨vp, 0, none⟩)) rfl (by kernel_rfl) (by kernel_rfl) (by kernel_rfl) (fun _ _ _ h => h) (Or.inl ⟨by kernel_rfl, fun W hW => by kernel_rfl⟩) hHeld ?_
    simp only [Act.put, List.setIfInBounds_toArray, List.set_cons_zero, List.set_cons_succ]
    refine wpAnyH_take (i := 21) (oi := { dst := some 37, op := Op.fieldAddr 78 (Operand.tmp 36) 0, type := 0, pos := "bailey.go:104", after := #[{ on := 20, ground := Ground.data }], guard := none }) (v := .pointer (some ⟨vp, 0, none⟩)) rfl (by kernel_rfl) (by kernel_rfl) (by kernel_rfl) (fun _ _ _ h => h) (Or.inl ⟨by kernel_rfl, fun W hW => by kernel_rfl⟩) hHeld ?_
    simp only [Act.put, List.setIfInBounds_toArray, List.set_cons_zero, List.set_cons_succ]
    refine wpAnyH_take (i := 22) (oi := { dst := some 38, op := Op.load 9 (Operand.tmp 37), type := 9, pos := "bailey.go:104", after := #[{ on := 21, ground := Ground.data }], guard := none }) (v := .string key) rfl (by kernel_rfl) (by kernel_rfl) (by kernel_rfl) (fun _ _ _ h => h) (Or.inl ⟨by kernel_rfl, fun W hW => by simp [execOp, go_sem, hW.2.1]⟩) hHeld ?_
    simp only [Act.put, List.setIfInBounds_toArray, List.set_cons_zero, List.set_cons_succ]
    refine wpAnyH_take (i := 23) (oi := { dst := some 39, op := Op.fieldAddr 86 (Operand.tmp 7) 1, type := 0, pos := "bailey.go:104", after := #[], guard := none }) (v := .pointer (some ⟨w.heap.size + 1, 1, none⟩)) rfl (by kernel_rfl) (by kernel_rfl) (by kernel_rfl) (fun _ _ _ h => h) (Or.inl ⟨by kernel_rfl, fun W hW => by kernel_rfl⟩) hHeld ?_
    simp only [Act.put, List.setIfInBounds_toArray, List.set_cons_zero, List.set_cons_succ]
    refine wpAnyH_take (i := 24) (oi := { dst := some 40, op := Op.load 9 (Operand.tmp 39), type := 9, pos := "bailey.go:104", after := #[{ on := 23, ground := Ground.data }], guard := none }) (v := .string more) rfl (by kernel_rfl) (by kernel_rfl) (by kernel_rfl) (fun _ _ _ h => h) (Or.inl ⟨by kernel_rfl, fun W hW => by simp [execOp, go_sem, hW.2.2.2.2.2]⟩) hHeld ?_
    simp only [Act.put, List.setIfInBounds_toArray, List.set_cons_zero, List.set_cons_succ]
    refine wpAnyH_ready (rs := [7]) (by kernel_rfl) (by simp) ?_
    refine AllReadyH.cons (o := { dst := some 23, op := Op.call { callee := Callee.value (Operand.func 74), args := #[Operand.tmp 21, Operand.tmp 22], argTypes := #[9, 9] }, type := 29, pos := "bailey.go:106", after := #[{ on := 5, ground := Ground.data }, { on := 6, ground := Ground.data }], guard := none }) rfl (fun K hK => ?_) AllReadyH.nil
    refine ite_wanted ?_ ?_
    · kernel_rfl
    go_simp
    refine (unhide G1 w1.drew (unhide HTB _ ((unhide H0).next (w' := w1.drew) ((Kept.refl _ _).draws 1))) (by have := ((unhide H0).next (w' := w1.drew) ((Kept.refl _ _).draws 1)).size; omega)).mono ?_
    rintro _ w2 ⟨rfl, hb⟩
    have E2 := hide (((unhide H0).next (w' := w1.drew) ((Kept.refl _ _).draws 1)).next (w' := w2) ((Kept.of hb).mono ((unhide H0).next (w' := w1.drew) ((Kept.refl _ _).draws 1)).size))
    clear hb
    show K _ w2
    refine hK.out _ _ (unhide HS w2 (unhide E2)) (fun hHeld7 => ?_)
    clear hK K
    try simp only [Act.put, List.setIfInBounds_toArray, List.set_cons_zero, List.set_cons_succ]
    refine wpAnyH_ready (rs := [16]) (by kernel_rfl) (by simp) ?_
    refine AllReadyH.cons (o := { dst := some 32, op := Op.call { callee := Callee.value (Operand.func 74), args := #[Operand.tmp 29, Operand.tmp 31], argTypes := #[9, 9] }, type := 29, pos := "bailey.go:108", after := #[{ on := 13, ground := Ground.data }, { on := 15, ground := Ground.data }, { on := 7, ground := Ground.chain }], guard := none }) rfl (fun K hK => ?_) AllReadyH.nil
    refine ite_wanted ?_ ?_
    · kernel_rfl
    go_simp
    refine (unhide G2 w2 (unhide HTB _ (unhide E2)) (by have := (unhide E2).size; omega)).mono ?_
    rintro _ w3 ⟨rfl, hb⟩
    have E3 := hide ((unhide E2).next (w' := w3) ((Kept.of hb).mono (unhide E2).size))
    clear hb
    show K _ w3
    refine hK.out _ _ (unhide HS w3 (unhide E3)) (fun hHeld16 => ?_)
    clear hK K
    try simp only [Act.put, List.setIfInBounds_toArray, List.set_cons_zero, List.set_cons_succ]
    refine wpAnyH_ready (rs := [25]) (by kernel_rfl) (by simp) ?_
    refine AllReadyH.cons (o := { dst := some 41, op := Op.call { callee := Callee.value (Operand.func 74), args := #[Operand.tmp 38, Operand.tmp 40], argTypes := #[9, 9] }, type := 29, pos := "bailey.go:110", after := #[{ on := 22, ground := Ground.data }, { on := 24, ground := Ground.data }, { on := 16, ground := Ground.chain }], guard := none }) rfl (fun K hK => ?_) AllReadyH.nil
    refine ite_wanted ?_ ?_
    · kernel_rfl
    go_simp
    refine (unhide G3 w3 (unhide HTB _ (unhide E3)) (by have := (unhide E3).size; omega)).mono ?_
    rintro _ w4 ⟨rfl, hb⟩
    have E4 := hide ((unhide E3).next (w' := w4) ((Kept.of hb).mono (unhide E3).size))
    clear hb
    show K _ w4
    refine hK.out _ _ (unhide HS w4 (unhide E4)) (fun hHeld25 => ?_)
    clear hK K
    try simp only [Act.put, List.setIfInBounds_toArray, List.set_cons_zero, List.set_cons_succ]
    refine wpAnyH_take (i := 26) (oi := { dst := some 42, op := Op.build 93 #[(0, Operand.tmp 17), (1, Operand.tmp 23), (2, Operand.tmp 25), (3, Operand.tmp 32), (4, Operand.tmp 34), (5, Operand.tmp 41)], type := 93, pos := "bailey.go:104", after := #[{ on := 1, ground := Ground.data }, { on := 7, ground := Ground.data }, { on := 9, ground := Ground.data }, { on := 16, ground := Ground.data }, { on := 18, ground := Ground.data }, { on := 25, ground := Ground.data }], guard := none }) (v := .agg EC) rfl (by kernel_rfl) (by kernel_rfl) (by kernel_rfl) (fun _ _ _ h => h) (yieldsIf_build (by kernel_rfl) (.tmp 17) (.tmp 23) (.tmp 25) (.tmp 32) (.tmp 34) (.tmp 41) rfl hbu (by kernel_rfl) (by kernel_rfl) (by kernel_rfl) (by kernel_rfl) (by kernel_rfl) (by kernel_rfl)) hHeld25 ?_
    simp only [Act.put, List.setIfInBounds_toArray, List.set_cons_zero, List.set_cons_succ]
    refine wpAnyH_ready (rs := [27]) (by kernel_rfl) (by simp) ?_
    refine AllReadyH.cons (o := { dst := none, op := Op.store 93 (Operand.tmp 8) (Operand.tmp 42), type := 0, pos := "bailey.go:104", after := #[{ on := 26, ground := Ground.data }, { on := 25, ground := Ground.chain }, { on := 0, ground := Ground.phase }, { on := 1, ground := Ground.phase }, { on := 2, ground := Ground.phase }, { on := 3, ground := Ground.phase }, { on := 4, ground := Ground.phase }, { on := 5, ground := Ground.phase }, { on := 6, ground := Ground.phase }, { on := 7, ground := Ground.phase }, { on := 8, ground := Ground.phase }, { on := 9, ground := Ground.phase }, { on := 10, ground := Ground.phase }, { on := 11, ground := Ground.phase }, { on := 12, ground := Ground.phase }, { on := 13, ground := Ground.phase }, { on := 14, ground := Ground.phase }, { on := 15, ground := Ground.phase }, { on := 16, ground := Ground.phase }, { on := 17, ground := Ground.phase }, { on := 18, ground := Ground.phase }, { on := 19, ground := Ground.phase }, { on := 20, ground := Ground.phase }, { on := 21, ground := Ground.phase }, { on := 22, ground := Ground.phase }, { on := 23, ground := Ground.phase }, { on := 24, ground := Ground.phase }, { on := 25, ground := Ground.phase }, { on := 26, ground := Ground.phase }], guard := none }) rfl (fun K hK => ?_) AllReadyH.nil
    refine ite_wanted ?_ ?_
    · kernel_rfl
    refine wp_store_row 93 (.tmp 8) (.tmp 42) ?_ (w.heap.size + 2) EC ?_ ?_ 93 _ (unhide E4).z hi93 (by rw [hei]; rfl) heo ?_
    · rfl
    · kernel_rfl
    · kernel_rfl
    simp only [Act.put]
    have hr5 : (w4.setRow (w.heap.size + 2) EC).heap[w.heap.size + 2]? = some (.cells EC 93 (0, 0)) := setRow_heap _ _ _ _ _ _ (unhide E4).z
    have hk5 : Kept (w.heap.size + 2) w4 (w4.setRow (w.heap.size + 2) EC) := (Kept.refl _ _).setRow (Nat.le_refl _) _
    have HS5 := hide (show SEn w vp key more err q (w4.setRow (w.heap.size + 2) EC) from by
      have h4 := unhide HS w4 (unhide E4)
      have hvl : vp < w.heap.size + 2 := hvp
      exact ⟨(hk5.cell (p := ⟨w.heap.size, 0, none⟩) (by simp)).trans h4.1, (hk5.cell (p := ⟨vp, 0, none⟩) hvl).trans h4.2.1, (hk5.cell (p := ⟨w.heap.size, 2, none⟩) (by simp)).trans h4.2.2.1, (hk5.cell (p := ⟨w.heap.size, 3, none⟩) (by simp)).trans h4.2.2.2.1, (hk5.cell (p := ⟨w.heap.size + 1, 0, none⟩) (by simp)).trans h4.2.2.2.2.1, (hk5.cell (p := ⟨w.heap.size + 1, 1, none⟩) (by simp)).trans h4.2.2.2.2.2⟩)
    have HK5 := hide ((unhide E4).kept.trans (hk5.mono (by omega)))
    clear hk5
    generalize w4.setRow (w.heap.size + 2) EC = w5 at hr5 HK5 HS5 hK ⊢
    show K _ w5
    refine hK.out _ _ (unhide HS5) (fun hHeld27 => ?_)
    clear hK K
    try simp only [Act.put, List.setIfInBounds_toArray, List.set_cons_zero, List.set_cons_succ]
    refine wpAnyH_done (by kernel_rfl) ?_ _
    go_wp2_with fail
    exact bodyPost_ret (v := .agg EC) (results_cell_row Tryz.results38 _ _ (w.heap.size + 2) 93 _ (0, 0) _ rfl hr5 Tryz.underlying93 rfl hi93) rfl ⟨by rw [hEC], unhide HK5⟩
end Go.Proofs.YtlbacbcenejngaaGreatDoor
namespace Go.Proofs.YtlbacbcenejngaaGreatDoor
open Go.RowKit
theorem setRow_other (w : World) (g k : Nat) (cs : Array Value) (h : k ≠ g) : (w.setRow g cs).heap[k]? = w.heap[k]? := by
  unfold World.setRow
  simp [Array.getElem?_modify, Ne.symm h]
theorem app_small {d : Dsk} {n X : ByteArray} (hs : d.stopped = false) (hf : d.files.length ≤ 1000) (hb : ∀ f ∈ d.files, f.data.size ≤ 549755813888) (hX : X.size ≤ 549755813888) : (d.append n X).files.length ≤ 1001 ∧ ∀ f ∈ (d.append n X).files, f.data.size ≤ 1099511627776 := by
  have e : (d.append n X).files = appF n X d.files := by unfold Dsk.append; rw [if_neg (by rw [hs]; simp)]
  rw [e]
  unfold appF
  split
  · refine ⟨by simp; omega, fun f hm => ?_⟩
    rcases List.mem_append.1 hm with hm | hm
    · have := hb f hm; omega
    · rw [List.mem_singleton.1 hm]; show X.size ≤ _; omega
  · refine ⟨by simp; omega, fun f hm => ?_⟩
    rcases List.mem_or_eq_of_mem_set hm with hm | rfl
    · have := hb f hm; omega
    · show (_ ++ X).size ≤ _
      rw [ByteArray.size_append]
      have : (d.files.getD (findF n d.files 0).toNat fl0).data.size ≤ 549755813888 := by
        rw [List.getD_eq_getElem?_getD]
        cases hq : d.files[(findF n d.files 0).toNat]? with
        | none => show (ByteArray.empty).size ≤ _; decide
        | some f => exact hb f (List.mem_of_getElem? hq)
      omega
/-- A request and an outcome are returned. -/
theorem ask_ret {fn : Func} {R : Ending → World → Prop} {tmps : Array Value} {w : World} {i j b c e : Nat} {q : Rq} {more : ByteArray} {F : Value} (hf : fn.results = #[.cell i 84, .cell j 86]) (h1 : tmps.getD i undef = .pointer (some ⟨b, 0, none⟩)) (h2 : tmps.getD j undef = .pointer (some ⟨c, 0, none⟩)) (hq : RqAt w b q) (ho : w.heap[c]? = some (.cells (ocells e more F) 86 (0, 0)))
    (hR : R (.returned (.tuple #[.agg q.cells, .agg (ocells e more F)])) w) : bodyPost Tryz.prog fn R .ret { tmps := tmps, defers := [] } w := by
  have h1' : tmps[i]?.getD undef = .pointer (some ⟨b, 0, none⟩) := by simpa using h1
  have h2' : tmps[j]?.getD undef = .pointer (some ⟨c, 0, none⟩) := by simpa using h2
  have l1 : (loadVar 84 ⟨b, 0, none⟩).run Tryz.prog w = .ok (.agg q.cells) w := run_loadVar_row w _ 84 84 q.cells (0, 0) _ hq Tryz.underlying84 rfl info84
  have l2 : (loadVar 86 ⟨c, 0, none⟩).run Tryz.prog w = .ok (.agg (ocells e more F)) w := run_loadVar_row w _ 86 86 _ (0, 0) _ ho Tryz.underlying86 rfl info86
  refine bodyPost_ret (v := .tuple #[.agg q.cells, .agg (ocells e more F)]) ?_ rfl hR
  simp [results, hf, h1', h2', asAddr, l1, l2]
def akEnd (B : Nat) (w : World) (sp : Nat) (L : PL) (q : Rq) (o : Oc) (e : Ending) (w' : World) : Prop :=
  (∃ F, e = .returned (.tuple #[.agg q.cells, .agg (ocells o.err o.more F)]) ∧ Clo B w.heap.size w' sp L q F o.ch) ∧ Kept w.heap.size w w'
theorem clo_rows {B n0 : Nat} {w6 w7 : World} {sp : Nat} {L : PL} {q : Rq} {F : Value} {c : Option Cg} (h : Clo B n0 w6 sp L q F c) (hk : ∀ k, n0 ≤ k → w7.heap[k]? = w6.heap[k]?) {n1 : Nat} (hn : n1 ≤ n0) : Clo B n1 w7 sp L q F c := by
  have bx : ∀ {b2 b3}, Bx n0 w6 sp b2 b3 q → Bx n1 w7 sp b2 b3 q := fun {b2 b3} hx => ⟨(hk _ hx.ge.1).trans hx.s, (hk _ hx.ge.2).trans hx.q, by have := hx.ge; omega⟩
  cases c with
  | none => exact h
  | some c =>
    cases c with
    | grant => obtain ⟨b2, b3, hF, hb⟩ := h; exact ⟨b2, b3, hF, bx hb⟩
    | revoke => obtain ⟨b2, b3, hF, hb⟩ := h; exact ⟨b2, b3, hF, bx hb⟩
    | drop => obtain ⟨b2, b3, hF, hb⟩ := h; exact ⟨b2, b3, hF, bx hb⟩
    | put =>
      obtain ⟨b2, b3, b5, pp, hF, hx, h5, hn5, hpp⟩ := h
      refine ⟨b2, b3, b5, pp, hF, bx hx, (hk _ hn5).trans h5, by omega, hpp.imp id fun ⟨h1, h2, h3, h4⟩ => ⟨h1, h2, ⟨(hk _ h4).trans h3.1, World.ownsRow_nil _ _ _ _, h3.2.2⟩, by omega⟩⟩
set_option maxRecDepth 100000 in
set_option maxHeartbeats 2000000 in
theorem vask_go (B : Nat) (w : World) (vp sp tb pb : Nat) (L : PL) (V : Vlt) (s : ByteArray) (J Lg : Value) (K dn : Value) (hv : w.heap[vp]? = some (.cells #[K, J, Lg, .pointer (some ⟨sp, 0, none⟩), dn] 78 (0, 0))) (h : StoAt B w sp tb pb L V.sto) (hO : V.sto.Ok) (hB : B ≤ w.heap.size) (hs : s.size ≤ 140737488354000) :
    Calls Tryz.prog 36 #[.pointer (some ⟨vp, 0, none⟩), .string s] w (akEnd B w sp L (V.ask s).1 (V.ask s).2) := by
  obtain ⟨w1, hw1⟩ : ∃ w1, w1 = (w.alloc (.cells rq0.cells 84)).alloc (.cells (ocells 0 .empty .nilFunc) 86) := ⟨_, rfl⟩
  have hb0 : RqAt w1 w.heap.size rq0 := by unfold RqAt; rw [hw1, Below.heap_alloc _ _ _ (by simp)]; exact heap_alloc_new _ _
  have hb1 : w1.heap[w.heap.size + 1]? = some (.cells (ocells 0 .empty .nilFunc) 86 (0, 0)) := by rw [hw1]; have := heap_alloc_new (w.alloc (.cells rq0.cells 84)) (.cells (ocells 0 .empty .nilFunc) 86); simpa only [World.size_alloc] using this
  have HK1 := hide (show Kept w.heap.size w w1 by rw [hw1]; exact ((Kept.refl _ _).alloc (Nat.le_refl _) _).alloc (by simp) _)
  have hz1 : w1.heap.size = w.heap.size + 2 := by rw [hw1]; simp
  have HASK := hide (show (∀ q, readQ s = some q → V.ask s = (q, V.sto.ask q)) ∧ (readQ s = none → V.ask s = (rq0, ⟨1, .empty, none⟩)) from ⟨fun q hq => by unfold Vlt.ask; rw [hq], fun hq => by unfold Vlt.ask; rw [hq]⟩)
  have HS := hide h
  have HV := hide hv
  clear h hv
  go_enter Tryz.func36, Tryz.ntmps36
  go_upto_region 1 with fail
  change Code.wp _ _ _ _ ((w.alloc (.cells rq0.cells 84)).alloc (.cells (ocells 0 .empty .nilFunc) 86))
  rw [← hw1]
  clear hw1
  go_wp2_with fail
  refine (readReq_go s w1 (by omega)).mono ?_
  rintro e2 w2 ⟨hy, hn, hk2⟩
  have HK2 := hide hk2
  have hz2 := hk2.size
  clear hk2
  cases hrq : readQ s with
  | none =>
    obtain rfl := hn hrq
    have HA := hide ((unhide HASK).2 hrq)
    clear hy hn hrq HASK
    go_upto_region 3 with (refine wpList_store_put rfl 84 (.tmp 6) (.tmp 11) rfl w2.heap.size rq0.cells rfl rfl 84 rq0.cells (heap_alloc_new _ _) info84 rfl (rq_one _) ?_; intro w3 hp3; have HP3 := hide hp3; clear hp3)
    have hq3 : RqAt w3 w2.heap.size rq0 := (unhide HP3).row
    have HK3 := hide (show Kept w1.heap.size w1 w3 from (((unhide HK2).alloc (unhide HK2).size _)).trans (Kept.of ((unhide HP3).below (unhide HK2).size)))
    have hb0' := ((unhide HK3).block _ (show w.heap.size < w1.heap.size by omega)).trans hb0
    have hb1' := ((unhide HK3).block _ (show w.heap.size + 1 < w1.heap.size by omega)).trans hb1
    have hz3 := (unhide HK3).size
    have hl3 : w2.heap.size < w3.heap.size := hq3.lt
    clear HP3 hb0 hb1
    refine wp_region_held_drew (S := fun W => RqAt W w2.heap.size rq0) (by kernel_rfl) (show RqAt w3.drew w2.heap.size rq0 from hq3) (fun hHeld => ?_)
    refine wpAnyH_take (i := 0) (oi := { dst := some 15, op := Op.load 84 (Operand.tmp 6), type := 84, pos := "bailey.go:93", after := #[], guard := none }) (v := .agg rq0.cells) rfl (by kernel_rfl) (by kernel_rfl) (by kernel_rfl) (fun _ _ _ h => h) (yieldsIf_load_mid (by kernel_rfl) 84 (.tmp 6) rfl w2.heap.size 0 (by kernel_rfl) rq0.cells.toList _ (fun W hW => row_range hW) Tryz.underlying84 rfl (by rw [Array.length_toList]; exact info84)) hHeld ?_
    simp only [Act.put, List.setIfInBounds_toArray, List.set_cons_zero, List.set_cons_succ]
    refine wpAnyH_ready (rs := [1]) (by kernel_rfl) (by simp) ?_
    refine AllReadyH.cons (o := { dst := some 16, op := Op.call { callee := Callee.value (Operand.func 42), args := #[Operand.const (Value.int IntKind.i64 1)], argTypes := #[43] }, type := 86, pos := "bailey.go:93", after := #[], guard := none }) rfl (fun K hK => ?_) AllReadyH.nil
    refine ite_wanted ?_ ?_
    · kernel_rfl
    go_simp
    refine (refused_go 1 w3.drew).mono ?_
    rintro _ w4 ⟨rfl, hk4⟩
    have HK4 := hide (show Kept w3.heap.size w3 w4 from ⟨hk4.os, hk4.output, hk4.size, hk4.block⟩)
    have hq4 := (hk4.block _ hl3).trans hq3
    have hb04 := (hk4.block _ (show w.heap.size < w3.heap.size by omega)).trans hb0'
    have hb14 := (hk4.block _ (show w.heap.size + 1 < w3.heap.size by omega)).trans hb1'
    clear hk4
    show K _ w4
    refine hK.out _ _ (hq4) (fun hHeld1 => ?_)
    clear hK K
    try simp only [Act.put, List.setIfInBounds_toArray, List.set_cons_zero, List.set_cons_succ]
    refine wpAnyH_ready (rs := [2]) (by kernel_rfl) (by simp) ?_
    refine AllReadyH.cons (o := { dst := none, op := Op.store 84 (Operand.tmp 4) (Operand.tmp 15), type := 0, pos := "bailey.go:93", after := #[{ on := 0, ground := Ground.data }, { on := 1, ground := Ground.chain }, { on := 0, ground := Ground.phase }, { on := 1, ground := Ground.textOnly Departure.lateStoresUnsure }], guard := none }) rfl (fun K hK => ?_) AllReadyH.nil
    refine ite_wanted ?_ ?_
    · kernel_rfl
    refine wp_store_row 84 (.tmp 4) (.tmp 15) ?_ w.heap.size rq0.cells ?_ ?_ 84 _ hb04 info84 rfl (rq_one _) ?_
    · rfl
    · kernel_rfl
    · kernel_rfl
    simp only [Act.put]
    have hr5 : (w4.setRow w.heap.size rq0.cells).heap[w.heap.size]? = some (.cells rq0.cells 84 (0, 0)) := setRow_heap _ _ _ _ _ _ hb04
    have ho5 : ∀ k, k ≠ w.heap.size → (w4.setRow w.heap.size rq0.cells).heap[k]? = w4.heap[k]? := fun k hk => setRow_other _ _ _ _ hk
    have hk5 : Kept w.heap.size w4 (w4.setRow w.heap.size rq0.cells) := (Kept.refl _ _).setRow (Nat.le_refl _) _
    generalize w4.setRow w.heap.size rq0.cells = w5 at hr5 ho5 hk5 hK ⊢
    show K _ w5
    refine hK.out _ _ ((ho5 _ (by omega)).trans hq4) (fun hHeld2 => ?_)
    clear hK K
    try simp only [Act.put, List.setIfInBounds_toArray, List.set_cons_zero, List.set_cons_succ]
    refine wpAnyH_ready (rs := [3]) (by kernel_rfl) (by simp) ?_
    refine AllReadyH.cons (o := { dst := none, op := Op.store 86 (Operand.tmp 5) (Operand.tmp 16), type := 0, pos := "bailey.go:93", after := #[{ on := 1, ground := Ground.data }, { on := 2, ground := Ground.chain }, { on := 0, ground := Ground.phase }, { on := 1, ground := Ground.phase }, { on := 2, ground := Ground.phase }], guard := none }) rfl (fun K hK => ?_) AllReadyH.nil
    refine ite_wanted ?_ ?_
    · kernel_rfl
    refine wp_store_row 86 (.tmp 5) (.tmp 16) ?_ (w.heap.size + 1) (ocells 1 .empty .nilFunc) ?_ ?_ 86 _ ((ho5 _ (by omega)).trans hb14) info86 rfl (oc_one _ _ rfl) ?_
    · rfl
    · kernel_rfl
    · kernel_rfl
    simp only [Act.put]
    have hr6 : (w5.setRow (w.heap.size + 1) (ocells 1 .empty .nilFunc)).heap[w.heap.size + 1]? = some (.cells (ocells 1 .empty .nilFunc) 86 (0, 0)) := setRow_heap _ _ _ _ _ _ ((ho5 _ (by omega)).trans hb14)
    have ho6 : ∀ k, k ≠ w.heap.size + 1 → (w5.setRow (w.heap.size + 1) (ocells 1 .empty .nilFunc)).heap[k]? = w5.heap[k]? := fun k hk => setRow_other _ _ _ _ hk
    have hk6 : Kept w.heap.size w5 (w5.setRow (w.heap.size + 1) (ocells 1 .empty .nilFunc)) := (Kept.refl _ _).setRow (by omega) _
    generalize w5.setRow (w.heap.size + 1) (ocells 1 .empty .nilFunc) = w6 at hr6 ho6 hk6 hK ⊢
    show K _ w6
    refine hK.out _ _ ((ho6 _ (by omega)).trans ((ho5 _ (by omega)).trans hq4)) (fun hHeld3 => ?_)
    clear hK K
    try simp only [Act.put, List.setIfInBounds_toArray, List.set_cons_zero, List.set_cons_succ]
    refine wpAnyH_done (by kernel_rfl) ?_ _
    go_wp2_with fail
    refine ask_ret Tryz.results36 rfl rfl (q := rq0) ((ho6 _ (by omega)).trans hr5) hr6 ?_
    rw [unhide HA]
    exact ⟨⟨_, rfl, rfl⟩, ((((unhide HK1).trans ((unhide HK3).mono (by omega))).trans ((unhide HK4).mono (by omega))).trans hk5).trans hk6⟩
  | some q =>
    obtain rfl := hy q hrq
    have HA := hide ((unhide HASK).1 q hrq)
    have hqo := readQ_ok hrq
    clear hy hn hrq HASK
    go_upto_region 4 with (refine wpList_store_put rfl 84 (.tmp 6) (.tmp 11) rfl w2.heap.size q.cells rfl rfl 84 rq0.cells (heap_alloc_new _ _) info84 rfl (rq_one _) ?_; intro w3 hp3; have HP3 := hide hp3; clear hp3)
    have hq3 : RqAt w3 w2.heap.size q := (unhide HP3).row
    have HK3 := hide (show Kept w1.heap.size w1 w3 from (((unhide HK2).alloc (unhide HK2).size _)).trans (Kept.of ((unhide HP3).below (unhide HK2).size)))
    have hb0' := ((unhide HK3).block _ (show w.heap.size < w1.heap.size by omega)).trans hb0
    have hb1' := ((unhide HK3).block _ (show w.heap.size + 1 < w1.heap.size by omega)).trans hb1
    have hz3 := (unhide HK3).size
    have hl3 : w2.heap.size < w3.heap.size := hq3.lt
    have HQO := hide hqo
    clear HP3 hb0 hb1 hqo
    have HKW := hide (show Kept w.heap.size w w3 from (unhide HK1).trans ((unhide HK3).mono (by omega)))
    have HCV := hide (show ∀ W, Kept w.heap.size w W → W.cell? ⟨vp, 3, none⟩ = some (.pointer (some ⟨sp, 0, none⟩)) from fun W hW => by rw [cell_of_row _ _ _ _ _ _ ((hW.block _ (Array.getElem?_eq_some_iff.1 (unhide HV)).1).trans (unhide HV))]; rfl)
    have hcv3 : w3.drew.cell? ⟨vp, 3, none⟩ = some (.pointer (some ⟨sp, 0, none⟩)) := unhide HCV w3.drew ((unhide HKW).draws 1)
    refine wp_region_held_drew (S := fun W => RqAt W w2.heap.size q ∧ W.cell? ⟨vp, 3, none⟩ = some (.pointer (some ⟨sp, 0, none⟩))) (by kernel_rfl) (show RqAt w3.drew w2.heap.size q ∧ _ from ⟨hq3, hcv3⟩) (fun hHeld => ?_)
    refine wpAnyH_take (i := 0) (oi := { dst := some 17, op := Op.load 84 (Operand.tmp 6), type := 84, pos := "bailey.go:95", after := #[], guard := none }) (v := .agg q.cells) rfl (by kernel_rfl) (by kernel_rfl) (by kernel_rfl) (fun _ _ _ h => h) (yieldsIf_load_mid (by kernel_rfl) 84 (.tmp 6) rfl w2.heap.size 0 (by kernel_rfl) q.cells.toList _ (fun W hW => row_range hW.1) Tryz.underlying84 rfl (by rw [Array.length_toList]; exact info84)) hHeld ?_
    simp only [Act.put, List.setIfInBounds_toArray, List.set_cons_zero, List.set_cons_succ]
    refine wpAnyH_take (i := 1) (oi := { dst := some 18, op := Op.move (Operand.tmp 0), type := 31, pos := "bailey.go:95", after := #[], guard := none }) (v := .pointer (some ⟨vp, 0, none⟩)) rfl (by kernel_rfl) (by kernel_rfl) (by kernel_rfl) (fun _ _ _ h => h) (Or.inl ⟨by kernel_rfl, fun W hW => by kernel_rfl⟩) hHeld ?_
    simp only [Act.put, List.setIfInBounds_toArray, List.set_cons_zero, List.set_cons_succ]
    refine wpAnyH_take (i := 2) (oi := { dst := some 19, op := Op.nilCheck (Operand.tmp 18), type := 0, pos := "bailey.go:95", after := #[{ on := 1, ground := Ground.data }], guard := none }) (v := .pointer (some ⟨vp, 0, none⟩)) rfl (by kernel_rfl) (by kernel_rfl) (by kernel_rfl) (fun _ _ _ h => h) (Or.inl ⟨by kernel_rfl, fun W hW => by kernel_rfl⟩) hHeld ?_
    simp only [Act.put, List.setIfInBounds_toArray, List.set_cons_zero, List.set_cons_succ]
    refine wpAnyH_take (i := 3) (oi := { dst := some 20, op := Op.fieldAddr 78 (Operand.tmp 19) 3, type := 0, pos := "bailey.go:95", after := #[{ on := 2, ground := Ground.data }], guard := none }) (v := .pointer (some ⟨vp, 3, none⟩)) rfl (by kernel_rfl) (by kernel_rfl) (by kernel_rfl) (fun _ _ _ h => h) (Or.inl ⟨by kernel_rfl, fun W hW => by kernel_rfl⟩) hHeld ?_
    simp only [Act.put, List.setIfInBounds_toArray, List.set_cons_zero, List.set_cons_succ]
    refine wpAnyH_take (i := 4) (oi := { dst := some 21, op := Op.load 76 (Operand.tmp 20), type := 76, pos := "bailey.go:95", after := #[{ on := 3, ground := Ground.data }], guard := none }) (v := .pointer (some ⟨sp, 0, none⟩)) rfl (by kernel_rfl) (by kernel_rfl) (by kernel_rfl) (fun _ _ _ h => h) (Or.inl ⟨by kernel_rfl, fun W hW => by simp [execOp, go_sem, hW.2]⟩) hHeld ?_
    simp only [Act.put, List.setIfInBounds_toArray, List.set_cons_zero, List.set_cons_succ]
    refine wpAnyH_take (i := 5) (oi := { dst := some 22, op := Op.load 84 (Operand.tmp 6), type := 84, pos := "bailey.go:95", after := #[], guard := none }) (v := .agg q.cells) rfl (by kernel_rfl) (by kernel_rfl) (by kernel_rfl) (fun _ _ _ h => h) (yieldsIf_load_mid (by kernel_rfl) 84 (.tmp 6) rfl w2.heap.size 0 (by kernel_rfl) q.cells.toList _ (fun W hW => row_range hW.1) Tryz.underlying84 rfl (by rw [Array.length_toList]; exact info84)) hHeld ?_
    simp only [Act.put, List.setIfInBounds_toArray, List.set_cons_zero, List.set_cons_succ]
    refine wpAnyH_ready (rs := [6]) (by kernel_rfl) (by simp) ?_
    refine AllReadyH.cons (o := { dst := some 23, op := Op.call { callee := Callee.value (Operand.func 72), args := #[Operand.tmp 21, Operand.tmp 22], argTypes := #[76, 84] }, type := 86, pos := "bailey.go:95", after := #[{ on := 4, ground := Ground.data }, { on := 5, ground := Ground.data }], guard := none }) rfl (fun K hK => ?_) AllReadyH.nil
    refine ite_wanted ?_ ?_
    · kernel_rfl
    go_simp
    refine (ask_go B w3.drew sp tb pb L V.sto q ((unhide HS).kept (show Kept w.heap.size w w3.drew from (unhide HKW).draws 1)) hO (unhide HQO) (show B ≤ w3.heap.size by omega)).mono ?_
    rintro _ w4 ⟨⟨F, rfl, hF⟩, hk4⟩
    have HF := hide hF
    have h1F := hF.one
    have HK4 := hide (show Kept w3.heap.size w3 w4 from ⟨hk4.os, hk4.output, hk4.size, hk4.block⟩)
    have hq4 := (hk4.block _ hl3).trans hq3
    have hb04 := (hk4.block _ (show w.heap.size < w3.heap.size by omega)).trans hb0'
    have hb14 := (hk4.block _ (show w.heap.size + 1 < w3.heap.size by omega)).trans hb1'
    have hcv4 : w4.cell? ⟨vp, 3, none⟩ = some (.pointer (some ⟨sp, 0, none⟩)) := unhide HCV w4 ((unhide HKW).trans ((unhide HK4).mono (by omega)))
    clear hk4 hF
    show K _ w4
    refine hK.out _ _ (⟨hq4, hcv4⟩) (fun hHeld6 => ?_)
    clear hK K
    try simp only [Act.put, List.setIfInBounds_toArray, List.set_cons_zero, List.set_cons_succ]
    refine wpAnyH_ready (rs := [7]) (by kernel_rfl) (by simp) ?_
    refine AllReadyH.cons (o := { dst := none, op := Op.store 84 (Operand.tmp 4) (Operand.tmp 17), type := 0, pos := "bailey.go:95", after := #[{ on := 0, ground := Ground.data }, { on := 6, ground := Ground.chain }, { on := 0, ground := Ground.phase }, { on := 1, ground := Ground.textOnly Departure.lateStores }, { on := 2, ground := Ground.textOnly Departure.lateStores }, { on := 3, ground := Ground.textOnly Departure.lateStores }, { on := 4, ground := Ground.textOnly Departure.lateStores }, { on := 5, ground := Ground.textOnly Departure.lateStores }, { on := 6, ground := Ground.textOnly Departure.lateStoresUnsure }], guard := none }) rfl (fun K hK => ?_) AllReadyH.nil
    refine ite_wanted ?_ ?_
    · kernel_rfl
    refine wp_store_row 84 (.tmp 4) (.tmp 17) ?_ w.heap.size q.cells ?_ ?_ 84 _ hb04 info84 rfl (rq_one _) ?_
    · rfl
    · kernel_rfl
    · kernel_rfl
    simp only [Act.put]
    have hr5 : (w4.setRow w.heap.size q.cells).heap[w.heap.size]? = some (.cells q.cells 84 (0, 0)) := setRow_heap _ _ _ _ _ _ hb04
    have ho5 : ∀ k, k ≠ w.heap.size → (w4.setRow w.heap.size q.cells).heap[k]? = w4.heap[k]? := fun k hk => setRow_other _ _ _ _ hk
    have hk5 : Kept w.heap.size w4 (w4.setRow w.heap.size q.cells) := (Kept.refl _ _).setRow (Nat.le_refl _) _
    generalize w4.setRow w.heap.size q.cells = w5 at hr5 ho5 hk5 hK ⊢
    show K _ w5
    refine hK.out _ _ (⟨(ho5 _ (by omega)).trans hq4, unhide HCV w5 (((unhide HKW).trans ((unhide HK4).mono (by omega))).trans hk5)⟩) (fun hHeld7 => ?_)
    clear hK K
    try simp only [Act.put, List.setIfInBounds_toArray, List.set_cons_zero, List.set_cons_succ]
    refine wpAnyH_ready (rs := [8]) (by kernel_rfl) (by simp) ?_
    refine AllReadyH.cons (o := { dst := none, op := Op.store 86 (Operand.tmp 5) (Operand.tmp 23), type := 0, pos := "bailey.go:95", after := #[{ on := 6, ground := Ground.data }, { on := 7, ground := Ground.chain }, { on := 0, ground := Ground.phase }, { on := 1, ground := Ground.phase }, { on := 2, ground := Ground.phase }, { on := 3, ground := Ground.phase }, { on := 4, ground := Ground.phase }, { on := 5, ground := Ground.phase }, { on := 6, ground := Ground.phase }, { on := 7, ground := Ground.phase }], guard := none }) rfl (fun K hK => ?_) AllReadyH.nil
    refine ite_wanted ?_ ?_
    · kernel_rfl
    refine wp_store_row 86 (.tmp 5) (.tmp 23) ?_ (w.heap.size + 1) (ocells (V.sto.ask q).err (V.sto.ask q).more F) ?_ ?_ 86 _ ((ho5 _ (by omega)).trans hb14) info86 rfl (oc_one _ _ h1F) ?_
    · rfl
    · kernel_rfl
    · kernel_rfl
    simp only [Act.put]
    have hr6 : (w5.setRow (w.heap.size + 1) (ocells (V.sto.ask q).err (V.sto.ask q).more F)).heap[w.heap.size + 1]? = some (.cells (ocells (V.sto.ask q).err (V.sto.ask q).more F) 86 (0, 0)) := setRow_heap _ _ _ _ _ _ ((ho5 _ (by omega)).trans hb14)
    have ho6 : ∀ k, k ≠ w.heap.size + 1 → (w5.setRow (w.heap.size + 1) (ocells (V.sto.ask q).err (V.sto.ask q).more F)).heap[k]? = w5.heap[k]? := fun k hk => setRow_other _ _ _ _ hk
    have hk6 : Kept w.heap.size w5 (w5.setRow (w.heap.size + 1) (ocells (V.sto.ask q).err (V.sto.ask q).more F)) := (Kept.refl _ _).setRow (by omega) _
    generalize w5.setRow (w.heap.size + 1) (ocells (V.sto.ask q).err (V.sto.ask q).more F) = w6 at hr6 ho6 hk6 hK ⊢
    show K _ w6
    refine hK.out _ _ (⟨(ho6 _ (by omega)).trans ((ho5 _ (by omega)).trans hq4), unhide HCV w6 ((((unhide HKW).trans ((unhide HK4).mono (by omega))).trans hk5).trans hk6)⟩) (fun hHeld8 => ?_)
    clear hK K
    try simp only [Act.put, List.setIfInBounds_toArray, List.set_cons_zero, List.set_cons_succ]
    refine wpAnyH_done (by kernel_rfl) ?_ _
    go_wp2_with fail
    refine ask_ret Tryz.results36 rfl rfl (q := q) ((ho6 _ (by omega)).trans hr5) hr6 ?_
    rw [unhide HA]
    refine ⟨⟨F, rfl, clo_rows (unhide HF) (fun k hk => ?_) (n1 := w.heap.size) (show w.heap.size ≤ w3.heap.size by omega)⟩, (((unhide HKW).trans ((unhide HK4).mono (by omega))).trans hk5).trans hk6⟩
    have hk' : w3.heap.size ≤ k := hk
    exact (ho6 k (by omega)).trans (ho5 k (by omega))
/-- A request is written. -/
def SWr (jp dp b : Nat) (dg : List UInt8) (W : World) : Prop := W.cell? ⟨jp, 0, none⟩ = some (.pointer (some ⟨dp, 0, none⟩)) ∧ (convert 58 9 (.slice (some ⟨b, 0, none⟩) 32 32)).run Tryz.prog W = .ok (.string (bs dg)) W
set_option maxRecDepth 100000 in
set_option maxHeartbeats 2000000 in
theorem write_go (B : Nat) (w : World) (jp dp : Nat) (dv : Value) (d : Dsk) (dg : List UInt8) (req : ByteArray) (hj : w.heap[jp]? = some (.cells #[.pointer (some ⟨dp, 0, none⟩)] 143 (0, 0))) (h : DAt B 117 149 w dp dv d) (hB : B ≤ w.heap.size) (hdg : dg.length = 32) (hd : d.left = -1 ∧ d.down = false) (hf : d.files.length ≤ 1000) (hb : ∀ f ∈ d.files, f.data.size ≤ 549755813888) (hr : req.size ≤ 549755813000) :
    Calls Tryz.prog 40 #[.pointer (some ⟨jp, 0, none⟩), .agg (brow dg), .string req] w (stEnd B 117 149 w dp dv d true ((d.append jour (bs dg ++ txt req)).sync jour)) := by
  have hst : d.stopped = false := by unfold Dsk.stopped; rw [hd.1, hd.2]; rfl
  obtain ⟨w1, hw1⟩ : ∃ w1, w1 = w.alloc (.cells (brow dg) 29) := ⟨_, rfl⟩
  have hbx : w1.heap[w.heap.size]? = some (.cells (brow dg) 29 (0, 0)) := by rw [hw1]; exact heap_alloc_new _ _
  have HK1 := hide (show Kept w.heap.size w w1 by rw [hw1]; exact (Kept.refl _ _).alloc (Nat.le_refl _) _)
  have hz1 : w1.heap.size = w.heap.size + 1 := by rw [hw1]; simp
  have hj1 := ((unhide HK1).block _ (Array.getElem?_eq_some_iff.1 hj).1).trans hj
  have HSW := hide (show ∀ W : World, W.heap[jp]? = some (.cells #[.pointer (some ⟨dp, 0, none⟩)] 143 (0, 0)) → W.heap[w.heap.size]? = some (.cells (brow dg) 29 (0, 0)) → SWr jp dp w.heap.size dg W from fun W h1 h2 => ⟨by rw [cell_of_row _ _ _ _ _ _ h1]; rfl, conv_range (fun j v hv => by rw [Nat.zero_add, cell_of_row _ _ _ _ _ _ h2]; simpa [brow] using hv) hdg⟩)
  have HD1 := hide (h.kept (unhide HK1))
  have s1 : (bs dg).size = 32 := by rw [bs_size, hdg]
  have s2 := txt_size req
  have hnz : (9223372036854775807 < (bs dg).size + (txt req).size) = False := eq_false (by omega)
  obtain ⟨X, hX⟩ : ∃ X, X = bs dg ++ txt req := ⟨_, rfl⟩
  have hXs : X.size ≤ 549755813888 := by rw [hX, ByteArray.size_append]; omega
  rw [← hX]
  have hadd := hX.symm
  have HA1 := hide (fun W (hD : DAt B 117 149 W dp dv d) (hW : B ≤ W.heap.size) => append_go B W dp dv d jour X hD hW (by omega) (by omega) (fun f hf' => by have := hb f hf'; omega) (by omega))
  rw [hst] at HA1
  have hapl : (d.append jour X).left = -1 ∧ (d.append jour X).down = false := by
    unfold Dsk.append
    rw [if_neg (by rw [hst]; simp)]
    unfold Dsk.stepd
    rw [if_neg (by rw [hst]; simp)]
    exact ⟨by show (if d.left > 0 then _ else _) = _; rw [if_neg (by omega)]; exact hd.1, hd.2⟩
  have hapf := app_small (n := jour) hst hf hb hXs
  have hst2 : (d.append jour X).stopped = false := by unfold Dsk.stopped; rw [hapl.1, hapl.2]; rfl
  have HA2 := hide (fun W v (hD : DAt B 117 149 W dp v (d.append jour X)) => sync_go B W dp v (d.append jour X) jour hD (by omega) (by omega) (fun f hf' => by have := hapf.2 f hf'; omega))
  rw [hst2] at HA2
  generalize d.append jour X = d2 at *
  have hjo : (⟨#[106, 111, 117, 114, 110, 97, 108]⟩ : ByteArray) = jour := rfl
  clear hX h hj hapl hapf hst hst2 hd hf hb
  go_enter Tryz.func40, Tryz.ntmps40
  go_upto_region 1 with fail
  rw [← hw1]
  clear hw1
  refine wp_region_held_drew (S := SWr jp dp w.heap.size dg) (by kernel_rfl) (unhide HSW w1.drew hj1 hbx) (fun hHeld => ?_)
  refine wpAnyH_take (i := 0) (oi := { dst := some 7, op := Op.move (Operand.tmp 0), type := 74, pos := "journal.go:53", after := #[], guard := none }) (v := .pointer (some ⟨jp, 0, none⟩)) rfl (by kernel_rfl) (by kernel_rfl) (by kernel_rfl) (fun _ _ _ h => h) (Or.inl ⟨by kernel_rfl, fun W hW => by kernel_rfl⟩) hHeld ?_
  simp only [Act.put, List.setIfInBounds_toArray, List.set_cons_zero, List.set_cons_succ]
  refine wpAnyH_take (i := 1) (oi := { dst := some 8, op := Op.nilCheck (Operand.tmp 7), type := 0, pos := "journal.go:53", after := #[{ on := 0, ground := Ground.data }], guard := none }) (v := .pointer (some ⟨jp, 0, none⟩)) rfl (by kernel_rfl) (by kernel_rfl) (by kernel_rfl) (fun _ _ _ h => h) (Or.inl ⟨by kernel_rfl, fun W hW => by kernel_rfl⟩) hHeld ?_
  simp only [Act.put, List.setIfInBounds_toArray, List.set_cons_zero, List.set_cons_succ]
  refine wpAnyH_take (i := 2) (oi := { dst := some 9, op := Op.fieldAddr 143 (Operand.tmp 8) 0, type := 0, pos := "journal.go:53", after := #[{ on := 1, ground := Ground.data }], guard := none }) (v := .pointer (some ⟨jp, 0, none⟩)) rfl (by kernel_rfl) (by kernel_rfl) (by kernel_rfl) (fun _ _ _ h => h) (Or.inl ⟨by kernel_rfl, fun W hW => by kernel_rfl⟩) hHeld ?_
  simp only [Act.put, List.setIfInBounds_toArray, List.set_cons_zero, List.set_cons_succ]
  refine wpAnyH_take (i := 3) (oi := { dst := some 10, op := Op.load 32 (Operand.tmp 9), type := 32, pos := "journal.go:53", after := #[{ on := 2, ground := Ground.data }], guard := none }) (v := .pointer (some ⟨dp, 0, none⟩)) rfl (by kernel_rfl) (by kernel_rfl) (by kernel_rfl) (fun _ _ _ h => h) (Or.inl ⟨by kernel_rfl, fun W hW => by simp [execOp, go_sem, hW.1]⟩) hHeld ?_
  simp only [Act.put, List.setIfInBounds_toArray, List.set_cons_zero, List.set_cons_succ]
  refine wpAnyH_take (i := 4) (oi := { dst := some 11, op := Op.slice 29 (Operand.tmp 4) none none none, type := 58, pos := "journal.go:53", after := #[], guard := none }) (v := .slice (some ⟨w.heap.size, 0, none⟩) 32 32) rfl (by kernel_rfl) (by kernel_rfl) (by kernel_rfl) (fun _ _ _ h => h) (Or.inl ⟨by kernel_rfl, fun W hW => by kernel_rfl⟩) hHeld ?_
  simp only [Act.put, List.setIfInBounds_toArray, List.set_cons_zero, List.set_cons_succ]
  refine wpAnyH_take (i := 5) (oi := { dst := some 12, op := Op.convert 58 9 (Operand.tmp 11), type := 9, pos := "journal.go:53", after := #[{ on := 4, ground := Ground.data }], guard := none }) (v := .string (bs dg)) rfl (by kernel_rfl) (by kernel_rfl) (by kernel_rfl) (fun _ _ _ h => h) (Or.inl ⟨by kernel_rfl, fun W hW => by simp [execOp, go_sem, hW.2]⟩) hHeld ?_
  simp only [Act.put, List.setIfInBounds_toArray, List.set_cons_zero, List.set_cons_succ]
  refine wpAnyH_take (i := 6) (oi := { dst := some 13, op := Op.move (Operand.tmp 2), type := 9, pos := "journal.go:53", after := #[], guard := none }) (v := .string req) rfl (by kernel_rfl) (by kernel_rfl) (by kernel_rfl) (fun _ _ _ h => h) (Or.inl ⟨by kernel_rfl, fun W hW => by kernel_rfl⟩) hHeld ?_
  simp only [Act.put, List.setIfInBounds_toArray, List.set_cons_zero, List.set_cons_succ]
  refine wpAnyH_ready (rs := [7]) (by kernel_rfl) (by simp) ?_
  refine AllReadyH.cons (o := { dst := some 14, op := Op.call { callee := Callee.value (Operand.func 76), args := #[Operand.tmp 13], argTypes := #[9] }, type := 9, pos := "journal.go:53", after := #[{ on := 6, ground := Ground.data }], guard := none }) rfl (fun K hK => ?_) AllReadyH.nil
  refine ite_wanted ?_ ?_
  · kernel_rfl
  go_simp
  refine (packText_go req w1.drew (by omega)).mono ?_
  rintro _ w2 ⟨rfl, hb2⟩
  have HK2 := hide (show Kept w1.heap.size w1 w2 from ⟨(Kept.of hb2).os, (Kept.of hb2).output, (Kept.of hb2).size, (Kept.of hb2).block⟩)
  clear hb2
  have hj2 := ((unhide HK2).block _ (Array.getElem?_eq_some_iff.1 hj1).1).trans hj1
  have hbx2 := ((unhide HK2).block _ (show w.heap.size < w1.heap.size by omega)).trans hbx
  show K _ w2
  refine hK.out _ _ (unhide HSW w2 hj2 hbx2) (fun hHeld7 => ?_)
  clear hK K
  try simp only [Act.put, List.setIfInBounds_toArray, List.set_cons_zero, List.set_cons_succ]
  refine wpAnyH_take (i := 8) (oi := { dst := some 15, op := Op.binOp BinOp.add 9 (Operand.tmp 12) (Operand.tmp 14) 9, type := 9, pos := "journal.go:53", after := #[{ on := 5, ground := Ground.data }, { on := 7, ground := Ground.data }], guard := none }) (v := .string X) rfl (by kernel_rfl) (by kernel_rfl) (by kernel_rfl) (fun _ _ _ h => h) (Or.inl ⟨by kernel_rfl, fun W hW => by simp [execOp, go_sem, hnz, hadd]⟩) hHeld7 ?_
  simp only [Act.put, List.setIfInBounds_toArray, List.set_cons_zero, List.set_cons_succ]
  refine wpAnyH_ready (rs := [9]) (by kernel_rfl) (by simp) ?_
  refine AllReadyH.cons (o := { dst := some 16, op := Op.call { callee := Callee.value (Operand.func 75), args := #[Operand.tmp 10, Operand.const (Value.string { data := #[106, 111, 117, 114, 110, 97, 108] }), Operand.tmp 15], argTypes := #[32, 9, 9] }, type := 4, pos := "journal.go:53", after := #[{ on := 3, ground := Ground.data }, { on := 8, ground := Ground.data }, { on := 7, ground := Ground.chain }], guard := none }) rfl (fun K hK => ?_) AllReadyH.nil
  refine ite_wanted ?_ ?_
  · kernel_rfl
  go_simp
  refine (unhide HA1 w2 ((unhide HD1).kept (unhide HK2)) (by have := (unhide HK2).size; omega)).mono ?_
  rintro _ w3 ⟨rfl, v3, hd3, hu3⟩
  have HD3 := hide (And.intro hd3 hu3)
  have hd2 := (unhide HD1).kept (unhide HK2)
  have hj3 := (hu3.block jp (Array.getElem?_eq_some_iff.1 hj2).1 (fun e => by subst e; exact (show TyAt w2 _ 117 from ⟨_, hd2.at'⟩).ne ⟨_, hj2⟩ (by decide) rfl) (fun e => (show TyAt w2 _ 149 from own_ty hd2.own e).ne ⟨_, hj2⟩ (by decide) rfl)).trans hj2
  have hbx3 := (hu3.block w.heap.size (Array.getElem?_eq_some_iff.1 hbx2).1 (fun e => (show TyAt w2 dp 117 from ⟨_, hd2.at'⟩).ne ⟨_, hbx2⟩ (by decide) e.symm) (fun e => (show TyAt w2 _ 149 from own_ty hd2.own e).ne ⟨_, hbx2⟩ (by decide) rfl)).trans hbx2
  clear hd3 hu3 hd2
  show K _ w3
  refine hK.out _ _ (unhide HSW w3 hj3 hbx3) (fun hHeld9 => ?_)
  clear hK K
  try simp only [Act.put, List.setIfInBounds_toArray, List.set_cons_zero, List.set_cons_succ]
  refine wpAnyH_take (i := 10) (oi := { dst := some 17, op := Op.move (Operand.tmp 16), type := 4, pos := "journal.go:53", after := #[{ on := 9, ground := Ground.data }, { on := 9, ground := Ground.chain }], guard := none }) (v := .bool true) rfl (by kernel_rfl) (by kernel_rfl) (by kernel_rfl) (fun _ _ _ h => h) (Or.inl ⟨by kernel_rfl, fun W hW => by kernel_rfl⟩) hHeld9 ?_
  simp only [Act.put, List.setIfInBounds_toArray, List.set_cons_zero, List.set_cons_succ]
  refine wpAnyH_take (i := 11) (oi := { dst := some 18, op := Op.move (Operand.tmp 0), type := 74, pos := "journal.go:53", after := #[{ on := 10, ground := Ground.guard }], guard := some (10, true) }) (v := .pointer (some ⟨jp, 0, none⟩)) rfl (by kernel_rfl) (by kernel_rfl) (by kernel_rfl) (fun _ _ _ h => h) (Or.inl ⟨by kernel_rfl, fun W hW => by kernel_rfl⟩) hHeld9 ?_
  simp only [Act.put, List.setIfInBounds_toArray, List.set_cons_zero, List.set_cons_succ]
  refine wpAnyH_take (i := 12) (oi := { dst := some 19, op := Op.nilCheck (Operand.tmp 18), type := 0, pos := "journal.go:53", after := #[{ on := 11, ground := Ground.data }, { on := 10, ground := Ground.guard }], guard := some (10, true) }) (v := .pointer (some ⟨jp, 0, none⟩)) rfl (by kernel_rfl) (by kernel_rfl) (by kernel_rfl) (fun _ _ _ h => h) (Or.inl ⟨by kernel_rfl, fun W hW => by kernel_rfl⟩) hHeld9 ?_
  simp only [Act.put, List.setIfInBounds_toArray, List.set_cons_zero, List.set_cons_succ]
  refine wpAnyH_take (i := 13) (oi := { dst := some 20, op := Op.fieldAddr 143 (Operand.tmp 19) 0, type := 0, pos := "journal.go:53", after := #[{ on := 12, ground := Ground.data }, { on := 10, ground := Ground.guard }], guard := some (10, true) }) (v := .pointer (some ⟨jp, 0, none⟩)) rfl (by kernel_rfl) (by kernel_rfl) (by kernel_rfl) (fun _ _ _ h => h) (Or.inl ⟨by kernel_rfl, fun W hW => by kernel_rfl⟩) hHeld9 ?_
  simp only [Act.put, List.setIfInBounds_toArray, List.set_cons_zero, List.set_cons_succ]
  refine wpAnyH_take (i := 14) (oi := { dst := some 21, op := Op.load 32 (Operand.tmp 20), type := 32, pos := "journal.go:53", after := #[{ on := 13, ground := Ground.data }, { on := 10, ground := Ground.guard }], guard := some (10, true) }) (v := .pointer (some ⟨dp, 0, none⟩)) rfl (by kernel_rfl) (by kernel_rfl) (by kernel_rfl) (fun _ _ _ h => h) (Or.inl ⟨by kernel_rfl, fun W hW => by simp [execOp, go_sem, hW.1]⟩) hHeld9 ?_
  simp only [Act.put, List.setIfInBounds_toArray, List.set_cons_zero, List.set_cons_succ]
  refine wpAnyH_ready (rs := [15]) (by kernel_rfl) (by simp) ?_
  refine AllReadyH.cons (o := { dst := some 22, op := Op.call { callee := Callee.value (Operand.func 77), args := #[Operand.tmp 21, Operand.const (Value.string { data := #[106, 111, 117, 114, 110, 97, 108] })], argTypes := #[32, 9] }, type := 4, pos := "journal.go:53", after := #[{ on := 14, ground := Ground.data }, { on := 10, ground := Ground.chain }, { on := 10, ground := Ground.guard }], guard := some (10, true) }) rfl (fun K hK => ?_) AllReadyH.nil
  refine ite_wanted ?_ ?_
  · kernel_rfl
  go_simp
  refine (unhide HA2 w3 v3 (unhide HD3).1).mono ?_
  rintro _ w4 ⟨rfl, v4, hd4, hu4⟩
  have HD4 := hide (And.intro hd4 hu4)
  have hd3 := (unhide HD3).1
  have hj4 := (hu4.block jp (Array.getElem?_eq_some_iff.1 hj3).1 (fun e => by subst e; exact (show TyAt w3 _ 117 from ⟨_, hd3.at'⟩).ne ⟨_, hj3⟩ (by decide) rfl) (fun e => (show TyAt w3 _ 149 from own_ty hd3.own e).ne ⟨_, hj3⟩ (by decide) rfl)).trans hj3
  have hbx4 := (hu4.block w.heap.size (Array.getElem?_eq_some_iff.1 hbx3).1 (fun e => (show TyAt w3 dp 117 from ⟨_, hd3.at'⟩).ne ⟨_, hbx3⟩ (by decide) e.symm) (fun e => (show TyAt w3 _ 149 from own_ty hd3.own e).ne ⟨_, hbx3⟩ (by decide) rfl)).trans hbx3
  clear hd4 hu4 hd3
  show K _ w4
  refine hK.out _ _ (unhide HSW w4 hj4 hbx4) (fun hHeld15 => ?_)
  clear hK K
  try simp only [Act.put, List.setIfInBounds_toArray, List.set_cons_zero, List.set_cons_succ]
  refine wpAnyH_take (i := 16) (oi := { dst := some 23, op := Op.pick (Operand.tmp 17) (Operand.tmp 22) (Operand.const (Value.bool false)), type := 4, pos := "journal.go:53", after := #[{ on := 10, ground := Ground.data }, { on := 15, ground := Ground.data }], guard := none }) (v := .bool true) rfl (by kernel_rfl) (by kernel_rfl) (by kernel_rfl) (fun _ _ _ h => h) (Or.inl ⟨by kernel_rfl, fun W hW => by kernel_rfl⟩) hHeld15 ?_
  simp only [Act.put, List.setIfInBounds_toArray, List.set_cons_zero, List.set_cons_succ]
  refine wpAnyH_take (i := 17) (oi := { dst := some 6, op := Op.assign (Operand.tmp 23), type := 4, pos := "journal.go:53", after := #[{ on := 16, ground := Ground.data }, { on := 15, ground := Ground.chain }, { on := 0, ground := Ground.phase }, { on := 1, ground := Ground.phase }, { on := 2, ground := Ground.phase }, { on := 3, ground := Ground.phase }, { on := 4, ground := Ground.phase }, { on := 5, ground := Ground.phase }, { on := 6, ground := Ground.phase }, { on := 7, ground := Ground.phase }, { on := 8, ground := Ground.phase }, { on := 9, ground := Ground.phase }, { on := 10, ground := Ground.phase }, { on := 11, ground := Ground.phase }, { on := 12, ground := Ground.phase }, { on := 13, ground := Ground.phase }, { on := 14, ground := Ground.phase }, { on := 15, ground := Ground.phase }, { on := 16, ground := Ground.phase }], guard := none }) (v := .bool true) rfl (by kernel_rfl) (by kernel_rfl) (by kernel_rfl) (fun _ _ _ h => h) (Or.inl ⟨by kernel_rfl, fun W hW => by kernel_rfl⟩) hHeld15 ?_
  simp only [Act.put, List.setIfInBounds_toArray, List.set_cons_zero, List.set_cons_succ]
  refine wpAnyH_done (by kernel_rfl) ?_ _
  go_wp2_with fail
  go_ret
  exact ⟨rfl, v4, (unhide HD4).1, (((Upd.of_kept (unhide HK1)).trans (.of_kept (unhide HK2))).trans (unhide HD3).2).trans (unhide HD4).2⟩
end Go.Proofs.YtlbacbcenejngaaGreatDoor
namespace Go.Proofs.YtlbacbcenejngaaGreatDoor
open Go.RowKit
theorem StoAt.knd {B : Nat} {w : World} {sp tb pb : Nat} {L : PL} {S : Sto} (h : StoAt B w sp tb pb L S) {k : Nat} (hk : Sft sp tb pb L k) : ∃ n ∈ [169, 236, 238, 0], knd w k = some n := by
  rcases h.kind hk with h | h | h | ⟨es, c, h⟩
  · exact ⟨_, by simp, h.knd⟩
  · exact ⟨_, by simp, h.knd⟩
  · exact ⟨_, by simp, h.knd⟩
  · exact ⟨0, by simp, by unfold Go.Proofs.YtlbacbcenejngaaGreatDoor.knd; rw [h]⟩
theorem LAt.knd {B : Nat} {w : World} {lp : Nat} {rv : Value} {SL : List (Loc Snk)} {cnt : Nat} {last : List UInt8} (h : LAt B w lp rv SL cnt last) {k : Nat} (hk : Lft lp rv SL k) : ∃ n ∈ [128, 42, 82, 4], knd w k = some n := by
  rcases (h.foot hk).2 with h | h | h | h
  · exact ⟨_, by simp, h.knd⟩
  · exact ⟨_, by simp, h.knd⟩
  · exact ⟨_, by simp, h.knd⟩
  · exact ⟨_, by simp, h.knd⟩
theorem DAt.knd {B : Nat} {w : World} {p : Nat} {v : Value} {d : Dsk} (h : DAt B 117 149 w p v d) {k : Nat} (hk : k = p ∨ v.ownBlock = some k) : ∃ n ∈ [118, 150], knd w k = some n := by
  rcases hk with rfl | hk
  · exact ⟨118, by simp, (show TyAt w k 117 from ⟨_, h.at'⟩).knd⟩
  · exact ⟨150, by simp, (show TyAt w k 149 from own_ty h.own hk).knd⟩
theorem Upd.stayD {B : Nat} {w w' : World} {p : Nat} {v v' : Value} {d : Dsk} (h : DAt B 117 149 w p v d) (hu : Upd p v v' w w') : Stay [118, 150] w w' := fun k n hk hn => hu.block k (knd_lt hk) (fun e => by obtain ⟨m, hm, e2⟩ := h.knd (.inl e); rw [hk] at e2; cases e2; exact hn hm) (fun e => by obtain ⟨m, hm, e2⟩ := h.knd (.inr e); rw [hk] at e2; cases e2; exact hn hm)
theorem StoAt.over {B : Nat} {w w' : World} {sp tb pb : Nat} {L : PL} {S : Sto} (h : StoAt B w sp tb pb L S) {l : List Nat} (hs : Stay l w w') (hl : ∀ n ∈ [169, 236, 238, 0], n ∉ l) : StoAt B w' sp tb pb L S := h.stay fun k hk => by obtain ⟨n, hn, e⟩ := h.knd hk; exact hs k n e (hl n hn)
theorem LAt.over {B : Nat} {w w' : World} {lp : Nat} {rv : Value} {SL : List (Loc Snk)} {cnt : Nat} {last : List UInt8} (h : LAt B w lp rv SL cnt last) {l : List Nat} (hs : Stay l w w') (hl : ∀ n ∈ [128, 42, 82, 4], n ∉ l) : LAt B w' lp rv SL cnt last := h.stay fun k hk => by obtain ⟨n, hn, e⟩ := h.knd hk; exact hs k n e (hl n hn)
theorem DAt.over {B : Nat} {w w' : World} {p : Nat} {v : Value} {d : Dsk} (h : DAt B 117 149 w p v d) {l : List Nat} (hs : Stay l w w') (hl : ∀ n ∈ [118, 150], n ∉ l) : DAt B 117 149 w' p v d :=
  ⟨by obtain ⟨n, hn, e⟩ := h.knd (.inl rfl); exact (hs _ n e (hl n hn)).trans h.at', own_blocks h.own fun k hk => by obtain ⟨n, hn, e⟩ := h.knd (.inr hk); exact hs k n e (hl n hn)⟩
theorem row_over {w w' : World} {b t : Nat} {cs : Array Value} (h : w.heap[b]? = some (.cells cs t (0, 0))) {l : List Nat} (hs : Stay l w w') (hl : t + 1 ∉ l) : w'.heap[b]? = some (.cells cs t (0, 0)) := (hs b _ (show TyAt w b t from ⟨_, h⟩).knd hl).trans h
theorem Clo.over {B n0 : Nat} {w w' : World} {sp : Nat} {L : PL} {q : Rq} {F : Value} {c : Option Cg} (h : Clo B n0 w sp L q F c) {l : List Nat} (hs : Stay l w w') (hl : ∀ n ∈ [77, 85, 232, 236], n ∉ l) : Clo B n0 w' sp L q F c := by
  have bx : ∀ {b2 b3}, Bx n0 w sp b2 b3 q → Bx n0 w' sp b2 b3 q := fun {b2 b3} hx => ⟨row_over hx.s hs (hl _ (by simp)), row_over hx.q hs (hl _ (by simp)), hx.ge⟩
  cases c with
  | none => exact h
  | some c =>
    cases c with
    | grant => obtain ⟨b2, b3, hF, hb⟩ := h; exact ⟨b2, b3, hF, bx hb⟩
    | revoke => obtain ⟨b2, b3, hF, hb⟩ := h; exact ⟨b2, b3, hF, bx hb⟩
    | drop => obtain ⟨b2, b3, hF, hb⟩ := h; exact ⟨b2, b3, hF, bx hb⟩
    | put =>
      obtain ⟨b2, b3, b5, pp, hF, hx, h5, hn5, hpp⟩ := h
      exact ⟨b2, b3, b5, pp, hF, bx hx, row_over h5 hs (hl _ (by simp)), hn5, hpp.imp id fun ⟨h1, h2, h3, h4⟩ => ⟨h1, h2, ⟨row_over h3.1 hs (hl _ (by simp)), World.ownsRow_nil _ _ _ _, h3.2.2⟩, h4⟩⟩
/-- Where the parts of a vault lie. -/
structure VG where
  jp : Nat
  dp : Nat
  dv : Value
  lp : Nat
  rv : Value
  SL : List (Loc Snk)
  sp : Nat
  tb : Nat
  pb : Nat
  L : PL
def vcellsV (key : ByteArray) (g : VG) : Array Value := #[.string key, .pointer (some ⟨g.jp, 0, none⟩), .pointer (some ⟨g.lp, 0, none⟩), .pointer (some ⟨g.sp, 0, none⟩), .bool false]
structure VAt (B : Nat) (w : World) (vp : Nat) (g : VG) (V : Vlt) : Prop where
  at' : w.heap[vp]? = some (.cells (vcellsV V.key g) 78 (0, 0))
  jat : w.heap[g.jp]? = some (.cells #[.pointer (some ⟨g.dp, 0, none⟩)] 143 (0, 0))
  dsk : DAt B 117 149 w g.dp g.dv V.dsk
  log : LAt B w g.lp g.rv g.SL V.cnt V.last
  snk : g.SL.map (·.x) = V.snks
  sto : StoAt B w g.sp g.tb g.pb g.L V.sto
  ge : B ≤ vp ∧ B ≤ g.jp ∧ B ≤ g.dp
def Vft (vp : Nat) (g : VG) (k : Nat) : Prop := k = vp ∨ k = g.jp ∨ (k = g.dp ∨ g.dv.ownBlock = some k) ∨ Lft g.lp g.rv g.SL k ∨ Sft g.sp g.tb g.pb g.L k
theorem VAt.foot {B : Nat} {w : World} {vp : Nat} {g : VG} {V : Vlt} (h : VAt B w vp g V) {k : Nat} (hk : Vft vp g k) : k < w.heap.size ∧ B ≤ k := by
  rcases hk with rfl | rfl | hk | hk | hk
  · exact ⟨(Array.getElem?_eq_some_iff.1 h.at').1, h.ge.1⟩
  · exact ⟨(Array.getElem?_eq_some_iff.1 h.jat).1, h.ge.2.1⟩
  · rcases hk with rfl | hk
    · exact ⟨(Array.getElem?_eq_some_iff.1 h.dsk.at').1, h.ge.2.2⟩
    · have := h.dsk.own.lt k hk; exact ⟨this.2, this.1⟩
  · exact (h.log.foot hk).1
  · exact h.sto.foot_lt hk
theorem VAt.stay {B : Nat} {w w' : World} {vp : Nat} {g : VG} {V : Vlt} (h : VAt B w vp g V) (hk : ∀ k, Vft vp g k → w'.heap[k]? = w.heap[k]?) : VAt B w' vp g V :=
  ⟨(hk _ (.inl rfl)).trans h.at', (hk _ (.inr (.inl rfl))).trans h.jat, ⟨(hk _ (.inr (.inr (.inl (.inl rfl))))).trans h.dsk.at', own_blocks h.dsk.own fun k hk' => hk k (.inr (.inr (.inl (.inr hk'))))⟩, h.log.stay fun k hk' => hk k (.inr (.inr (.inr (.inl hk')))), h.snk, h.sto.stay fun k hk' => hk k (.inr (.inr (.inr (.inr hk')))), h.ge⟩
theorem VAt.kept {B : Nat} {w w' : World} {vp : Nat} {g : VG} {V : Vlt} (h : VAt B w vp g V) (hk : Kept w.heap.size w w') : VAt B w' vp g V := h.stay fun k hk' => hk.block k (h.foot hk').1
/-- The disk is another. -/
theorem VAt.setD {B : Nat} {w w' : World} {vp : Nat} {g : VG} {V : Vlt} (h : VAt B w vp g V) {v' : Value} {d' : Dsk} (hd : DAt B 117 149 w' g.dp v' d') (hu : Upd g.dp g.dv v' w w') : VAt B w' vp { g with dv := v' } { V with dsk := d' } ∧ Chg (Vft vp g) w w' ∧ ∀ k, Vft vp { g with dv := v' } k → Vft vp g k ∨ w.heap.size ≤ k := by
  have hs := hu.stayD h.dsk
  refine ⟨⟨row_over h.at' hs (by decide), row_over h.jat hs (by decide), hd, h.log.over hs (by decide), h.snk, h.sto.over hs (by decide), h.ge⟩, ⟨hu.os, hu.output, hu.size, fun k hk hn => hu.block k hk (fun e => hn (.inr (.inr (.inl (.inl e))))) (fun e => hn (.inr (.inr (.inl (.inr e)))))⟩, fun k hk => ?_⟩
  rcases hk with hk | hk | hk | hk | hk
  · exact .inl (.inl hk)
  · exact .inl (.inr (.inl hk))
  · rcases hk with hk | hk
    · exact .inl (.inr (.inr (.inl (.inl hk))))
    · rcases hu.new k hk with hk | hk
      · exact .inl (.inr (.inr (.inl (.inr hk))))
      · exact .inr hk
  · exact .inl (.inr (.inr (.inr (.inl hk))))
  · exact .inl (.inr (.inr (.inr (.inr hk))))
/-- The log is another. -/
theorem VAt.setL {B : Nat} {w w' : World} {vp : Nat} {g : VG} {V : Vlt} (h : VAt B w vp g V) {SL' : List (Loc Snk)} {cnt : Nat} {last : List UInt8} (hl : LAt B w' g.lp g.rv SL' cnt last) (hc : Chg (Lft g.lp g.rv g.SL) w w') (hf : ∀ k, Lft g.lp g.rv SL' k → Lft g.lp g.rv g.SL k ∨ w.heap.size ≤ k) :
    VAt B w' vp { g with SL := SL' } { V with snks := SL'.map (·.x), cnt := cnt, last := last } ∧ Chg (Vft vp g) w w' ∧ (∀ k, Vft vp { g with SL := SL' } k → Vft vp g k ∨ w.heap.size ≤ k) ∧ Stay [128, 42, 82, 4] w w' := by
  have hs : Stay [128, 42, 82, 4] w w' := hc.stay fun k n hk e => by obtain ⟨m, hm, e2⟩ := h.log.knd hk; rw [e] at e2; cases e2; exact hm
  refine ⟨⟨row_over h.at' hs (by decide), row_over h.jat hs (by decide), h.dsk.over hs (by decide), hl, rfl, h.sto.over hs (by decide), h.ge⟩, hc.mono fun k _ e => .inr (.inr (.inr (.inl e))), fun k hk => ?_, hs⟩
  rcases hk with hk | hk | hk | hk | hk
  · exact .inl (.inl hk)
  · exact .inl (.inr (.inl hk))
  · exact .inl (.inr (.inr (.inl hk)))
  · exact (hf k hk).imp (fun e => .inr (.inr (.inr (.inl e)))) id
  · exact .inl (.inr (.inr (.inr (.inr hk))))
/-- The store is another. -/
theorem VAt.setS {B n0 : Nat} {w w' : World} {vp : Nat} {g : VG} {V : Vlt} (h : VAt B w vp g V) {L' : PL} {S' : Sto} (hs : StoAt B w' g.sp g.tb g.pb L' S') (hst : Stay [169, 236, 238, 0] w w') (hc : Chg (fun k => Sft g.sp g.tb g.pb g.L k ∨ n0 ≤ k) w w') (hf : ∀ k, Sft g.sp g.tb g.pb L' k → Sft g.sp g.tb g.pb g.L k ∨ n0 ≤ k) :
    VAt B w' vp { g with L := L' } { V with sto := S' } ∧ Chg (fun k => Vft vp g k ∨ n0 ≤ k) w w' ∧ ∀ k, Vft vp { g with L := L' } k → Vft vp g k ∨ n0 ≤ k := by
  refine ⟨⟨row_over h.at' hst (by decide), row_over h.jat hst (by decide), h.dsk.over hst (by decide), h.log.over hst (by decide), h.snk, hs, h.ge⟩, hc.mono fun k _ e => e.imp (fun e => .inr (.inr (.inr (.inr e)))) id, fun k hk => ?_⟩
  rcases hk with hk | hk | hk | hk | hk
  · exact .inl (.inl hk)
  · exact .inl (.inr (.inl hk))
  · exact .inl (.inr (.inr (.inl hk)))
  · exact .inl (.inr (.inr (.inr (.inl hk))))
  · exact (hf k hk).imp (fun e => .inr (.inr (.inr (.inr e)))) id
set_option maxRecDepth 100000 in
set_option maxHeartbeats 1000000 in
theorem head_go (B : Nat) (w : World) (vp : Nat) (g : VG) (V : Vlt) (h : VAt B w vp g V) :
    Calls Tryz.prog 11 #[.pointer (some ⟨vp, 0, none⟩)] w fun e w' => e = .returned (.tuple #[.int .i64 (V.cnt : Int), .agg (brow V.last)]) ∧ Kept w.heap.size w w' := by
  obtain ⟨w1, hw1⟩ : ∃ w1, w1 = w.alloc (.cells (brow (List.replicate 32 0)) 29) := ⟨_, rfl⟩
  have hbx : w1.heap[w.heap.size]? = some (.cells (brow (List.replicate 32 0)) 29 (0, 0)) := by rw [hw1]; exact heap_alloc_new _ _
  have HK1 := hide (show Kept w.heap.size w w1 by rw [hw1]; exact (Kept.refl _ _).alloc (Nat.le_refl _) _)
  have hz1 : w1.heap.size = w.heap.size + 1 := by rw [hw1]; simp
  have H1 := hide (h.kept (unhide HK1))
  have hc2 : w1.cell? ⟨vp, 2, none⟩ = some (.pointer (some ⟨g.lp, 0, none⟩)) := by rw [cell_of_row _ _ _ _ _ _ (unhide H1).at']; rfl
  have hlen := h.log.len
  have hi : (Tryz.prog.info? 29).map (·.size) = some (brow V.last).size := by rw [brow_size, hlen]; exact info29
  have hz : (brow (List.replicate 32 0)).size = (brow V.last).size := by rw [brow_size, brow_size, hlen]; rfl
  have h1 := brow_one V.last
  clear h
  go_enter Tryz.func11, Tryz.ntmps11
  go_upto_region 1 with fail
  change Code.wp _ _ _ _ (w.alloc (.cells (brow (List.replicate 32 0)) 29))
  rw [← hw1]
  clear hw1
  go_wp2_with fail
  refine (headA_go B w1 g.lp g.rv g.SL V.cnt V.last (unhide H1).log).mono ?_
  rintro _ w2 ⟨rfl, hk2⟩
  have hbx2 := (hk2.block _ (show w.heap.size < w1.heap.size by omega)).trans hbx
  have HK2 := hide ((unhide HK1).trans (hk2.mono (by omega)))
  clear hk2
  go_wp2_with (first | (refine wpList_store_put rfl 29 (.tmp 3) (.tmp 10) rfl w.heap.size (brow V.last) rfl rfl 29 _ hbx2 hi hz h1 ?_; intro w3 hp3))
  exact hd_ret Tryz.results11 hlen rfl rfl hp3.row ⟨rfl, (unhide HK2).trans (Kept.of (hp3.below (Nat.le_refl _)))⟩
end Go.Proofs.YtlbacbcenejngaaGreatDoor
namespace Go.Proofs.YtlbacbcenejngaaGreatDoor
open Go.RowKit
theorem alloc_snd' (w : World) (a b : Obj) : ((w.alloc a).alloc b).heap[w.heap.size + 1]? = some b := by have := heap_alloc_new (w.alloc a) b; simpa only [World.size_alloc] using this
abbrev rec0 : Array Value := (blist (List.replicate 32 0) ++ [Value.string .empty]).toArray
theorem info174 : (Tryz.prog.info? 174).map (·.size) = some 33 := by kernel_rfl
theorem rec0_one : rec0.all (·.oneCell') = true := by
  refine all_oneCell_toArray fun v hv => ?_
  rcases List.mem_append.1 hv with h | h
  · exact blist_one _ v h
  · rw [List.mem_singleton.1 h]; rfl
/-- The three results of readRecord. -/
structure Jr (B : Nat) (w : World) : Prop where
  r : w.heap[B]? = some (.cells rec0 174 (0, 0))
  l : w.heap[B + 1]? = some (.cells #[.string .empty] 9 (0, 0))
  b : w.heap[B + 2]? = some (.cells #[.bool false] 4 (0, 0))
set_option maxRecDepth 100000 in
set_option maxHeartbeats 1000000 in
theorem catchJ_panic (B : Nat) (u : TypeId) (pv : Value) (older : List PanicEntry) (w : World) (hf : Jr B w) :
    CallsD Tryz.prog 161 #[.pointer (some ⟨B, 0, none⟩), .pointer (some ⟨B + 1, 0, none⟩), .pointer (some ⟨B + 2, 0, none⟩)] (.panicking ({ v := .iface u pv, recovered := false } :: older)) w fun e u' w' =>
      e = .returned (.tuple #[]) ∧ u' = .panicking ({ v := .iface u pv, recovered := true } :: older) ∧ Jr B w' ∧ Kept B w w' := by
  refine callsD_of_wpS Tryz.func161 rfl fun c₀ cs hu => ?_
  apply wpS_seq
  apply wpS_region
  simp [wpOpsS, go_sem, recoverD, hu, Tryz.ntmps161, Exit.thenS]
  refine wpS_cond (t := true) (by simp [Act.eval, Array.replicate]) ?_
  simp only [if_true]
  refine wpS_of_wp ?_
  change Code.wp _ _ _ { tmps := #[.pointer (some ⟨B, 0, none⟩), .pointer (some ⟨B + 1, 0, none⟩), .pointer (some ⟨B + 2, 0, none⟩), .iface u pv, .bool true, undef], defers := [] } w
  have HF := hide hf
  clear hf
  go_wp2_with (refine wpList_store_put rfl 174 (.tmp 0) (.tmp 5) rfl B rec0 ?_ ?_ 174 rec0 ?_ info174 rfl rec0_one ?_
               · rfl
               · rfl
               · exact (unhide HF).r
               intro w2 hp2
               have hl2 : w2.heap[B + 1]? = some (.cells #[.string .empty] 9 (0, 0)) := (hp2.other _ (by omega)).trans (unhide HF).l
               have hb2 : w2.heap[B + 2]? = some (.cells #[.bool false] 4 (0, 0)) := (hp2.other _ (by omega)).trans (unhide HF).b
               have hcl : w2.cell? ⟨B + 1, 0, none⟩ = some (.string .empty) := by rw [cell_of_row _ _ _ _ _ _ hl2]; rfl
               have hfl := frozen_of_row _ _ 0 _ _ hl2
               have hb3 : (w2.setCell ⟨B + 1, 0, none⟩ (.string ⟨#[]⟩)).heap[B + 2]? = some (.cells #[.bool false] 4 (0, 0)) := by rw [heap_setCell_other _ _ _ _ (by simp)]; exact hb2
               have hcb : (w2.setCell ⟨B + 1, 0, none⟩ (.string ⟨#[]⟩)).cell? ⟨B + 2, 0, none⟩ = some (.bool false) := by rw [cell_of_row _ _ _ _ _ _ hb3]; rfl
               have hfb : (w2.setCell ⟨B + 1, 0, none⟩ (.string ⟨#[]⟩)).frozen? ⟨B + 2, 0, none⟩ = false := frozen_of_row _ _ 0 _ _ hb3
               have H2 := hide (And.intro hp2 (And.intro hl2 hb3))
               clear hp2 hb2 hl2 hb3)
  obtain ⟨hp2, hl2, hb3⟩ := unhide H2
  have F : Jr B ((w2.setCell ⟨B + 1, 0, none⟩ (.string ⟨#[]⟩)).setCell ⟨B + 2, 0, none⟩ (.bool false)) := by
    refine ⟨?_, ?_, ?_⟩
    · rw [heap_setCell_other _ _ _ _ (by simp), heap_setCell_other _ _ _ _ (by simp)]; exact hp2.row
    · rw [heap_setCell_other _ _ _ _ (by simp), heap_setCell_same _ _ _ _ _ _ hl2]; rfl
    · rw [heap_setCell_same _ _ _ _ _ _ hb3]; rfl
  have K : Kept B w ((w2.setCell ⟨B + 1, 0, none⟩ (.string ⟨#[]⟩)).setCell ⟨B + 2, 0, none⟩ (.bool false)) :=
    ((Kept.of (hp2.below (Nat.le_refl _))).setCell (p := ⟨B + 1, 0, none⟩) (by simp) _).setCell (p := ⟨B + 2, 0, none⟩) (by simp) _
  simp_all [bodyPostS, results, Tryz.results161]
set_option maxRecDepth 100000 in
theorem jr_res {B : Nat} {w : World} {tmps : Array Value} (hf : Jr B w) (h2 : tmps.getD 2 undef = .pointer (some ⟨B, 0, none⟩)) (h3 : tmps.getD 3 undef = .pointer (some ⟨B + 1, 0, none⟩)) (h4 : tmps.getD 4 undef = .pointer (some ⟨B + 2, 0, none⟩)) :
    (results Tryz.f127 tmps).run Tryz.prog w = .ok (.tuple #[.agg rec0, .string .empty, .bool false]) w := by
  have hc0 : w.cell? ⟨B + 1, 0, none⟩ = some (.string .empty) := by rw [cell_of_row _ _ _ _ _ _ hf.l]; rfl
  have hc2 : w.cell? ⟨B + 2, 0, none⟩ = some (.bool false) := by rw [cell_of_row _ _ _ _ _ _ hf.b]; rfl
  have l0 : (loadVar 9 ⟨B + 1, 0, none⟩).run Tryz.prog w = .ok (.string .empty) w := by simp [go_sem, hc0]
  have l2 : (loadVar 4 ⟨B + 2, 0, none⟩).run Tryz.prog w = .ok (.bool false) w := by simp [go_sem, hc2]
  have l1 : (loadVar 174 ⟨B, 0, none⟩).run Tryz.prog w = .ok (.agg rec0) w := run_loadVar_row w _ 174 174 rec0 (0, 0) _ hf.r Tryz.underlying174 rfl info174
  have h2' : tmps[2]?.getD undef = .pointer (some ⟨B, 0, none⟩) := by simpa using h2
  have h3' : tmps[3]?.getD undef = .pointer (some ⟨B + 1, 0, none⟩) := by simpa using h3
  have h4' : tmps[4]?.getD undef = .pointer (some ⟨B + 2, 0, none⟩) := by simpa using h4
  simp [results, Tryz.results127, h2', h3', h4', asAddr, l0, l1, l2]
def rcEnd (w : World) (e : Ending) (w' : World) : Prop := e = .returned (.tuple #[.agg rec0, .string .empty, .bool false]) ∧ Kept w.heap.size w w'
theorem jr_caught {w w1 : World} {tmps : Array Value} (hf : Jr w.heap.size w1) (hk : Kept w.heap.size w w1)
    (h2 : tmps.getD 2 undef = .pointer (some ⟨w.heap.size, 0, none⟩)) (h3 : tmps.getD 3 undef = .pointer (some ⟨w.heap.size + 1, 0, none⟩)) (h4 : tmps.getD 4 undef = .pointer (some ⟨w.heap.size + 2, 0, none⟩)) :
    bodyPostD Tryz.prog Tryz.f127 (rcEnd w) (.panic oops) { tmps := tmps, defers := [{ target := .fn (.func 161) #[.pointer (some ⟨w.heap.size, 0, none⟩), .pointer (some ⟨w.heap.size + 1, 0, none⟩), .pointer (some ⟨w.heap.size + 2, 0, none⟩)], args := #[] }] } w1 := by
  show Leaves Tryz.prog Tryz.f127 tmps (rcEnd w) _ (.panicking oops) w1
  refine leaves_cons (f := 161) (args := #[.pointer (some ⟨w.heap.size, 0, none⟩), .pointer (some ⟨w.heap.size + 1, 0, none⟩), .pointer (some ⟨w.heap.size + 2, 0, none⟩)]) (by simp) (by simp [go_sem]) ?_
  refine (catchJ_panic w.heap.size _ _ _ w1 hf).mono ?_
  rintro e u' w2 ⟨rfl, rfl, hf2, hk2⟩
  show Leaves Tryz.prog Tryz.f127 tmps (rcEnd w) [] .returning w2
  exact ⟨_, jr_res hf2 h2 h3 h4, rfl, hk.trans hk2⟩
set_option maxRecDepth 100000 in
set_option maxHeartbeats 1000000 in
theorem readRec_go (w : World) : Calls Tryz.prog 127 #[.string .empty] w (rcEnd w) := by
  have hmf : ∀ (fn : Fn) (first cap : Array Value) (w : World), (Instr.makeFunc fn first cap).run Tryz.prog w = .ok (.func fn first cap) w := fun _ _ _ _ => rfl
  have HW := hide (show ∃ w1, w1 = ((w.alloc (.cells rec0 174)).alloc (.cells #[.string .empty] 9)).alloc (.cells #[.bool false] 4) ∧ Jr w.heap.size w1 ∧ Kept w.heap.size w w1 ∧ w1.heap.size = w.heap.size + 3 from by
    refine ⟨_, rfl, ⟨?_, ?_, ?_⟩, (((Kept.refl _ _).alloc (Nat.le_refl _) _).alloc (by simp) _).alloc (by simp only [World.size_alloc]; omega) _, by simp⟩
    · rw [Below.heap_alloc _ _ _ (by simp only [World.size_alloc]; omega), Below.heap_alloc _ _ _ (by simp)]; exact heap_alloc_new _ _
    · rw [Below.heap_alloc _ _ _ (by simp)]; exact alloc_snd' _ _ _
    · have := heap_alloc_new ((w.alloc (.cells rec0 174)).alloc (.cells #[.string .empty] 9)) (.cells #[.bool false] 4)
      simpa only [World.size_alloc] using this)
  obtain ⟨w1, hw1, hj1, hk1, hz1⟩ := unhide HW
  clear HW
  go_enter_defers Tryz.func127, Tryz.ntmps127
  go_wp2_with fail
  refine (new_go .empty _).mono ?_
  rintro _ w2 ⟨rfl, hw2⟩
  have hw2' : w2 = w1.alloc (.cells #[.string .empty] 218) := by rw [hw2, hw1]; rfl
  have hr2 : Rd w2 (w.heap.size + 3) .empty := by
    have := heap_alloc_new w1 (.cells #[.string .empty] 218)
    rw [← hw2', hz1] at this
    exact this
  have H2 := hide (show Jr w.heap.size w2 ∧ Kept w.heap.size w w2 from by
    rw [hw2']
    exact ⟨⟨(Below.heap_alloc _ _ _ (by omega)).trans hj1.r, (Below.heap_alloc _ _ _ (by omega)).trans hj1.l, (Below.heap_alloc _ _ _ (by omega)).trans hj1.b⟩, hk1.alloc (by omega) _⟩)
  clear hw2 hw2' hw1 hj1 hk1
  simp only [World.size_alloc]
  go_wp2_with fail
  refine (hash_no (w.heap.size + 3) .empty w2 hr2 (by decide)).mono ?_
  rintro _ w3 ⟨rfl, ho3⟩
  have h2 := unhide H2
  have hj2 := h2.1
  refine jr_caught ⟨(ho3.block _ (Array.getElem?_eq_some_iff.1 hj2.r).1 (by omega)).trans hj2.r, (ho3.block _ (Array.getElem?_eq_some_iff.1 hj2.l).1 (by omega)).trans hj2.l, (ho3.block _ (Array.getElem?_eq_some_iff.1 hj2.b).1 (by omega)).trans hj2.b⟩ (h2.2.trans ⟨ho3.os, ho3.output, ho3.size, fun k hk => ho3.block k (by have := h2.2.size; omega) (by omega)⟩) rfl rfl rfl
set_option maxRecDepth 100000 in
set_option maxHeartbeats 1000000 in
theorem readJ_go (w : World) : Calls Tryz.prog 96 #[.string .empty] w fun e w' => e = .returned (.tuple #[.slice none 0 0, .string .empty]) ∧ Kept w.heap.size w w' := by
  go_enter Tryz.func96, Tryz.ntmps96
  go_wp2_with fail
  go_loopw [0, 4] (fun vd vr wr => vd = .string .empty ∧ vr = .slice none 0 0 ∧ wr = w) (fun _ _ _ => 0)
  case atStart => exact ⟨rfl, rfl, rfl⟩
  case round =>
    obtain ⟨rfl, rfl, hwr⟩ := hrel
    obtain rfl : w = wr := hwr.symm
    clear hwr
    go_wp2_with fail
    refine (readRec_go w).mono ?_
    rintro _ w1 ⟨rfl, hk1⟩
    have HK := hide hk1
    clear hk1
    go_wp2_with (first | (refine wpList_store_put rfl 174 (.tmp 5) (.tmp 11) rfl w1.heap.size rec0 rfl rfl 174 rec0 (heap_alloc_new _ _) info174 rfl rec0_one ?_; intro w2 hp2; have HP := hide hp2; clear hp2))
    go_ret2
    exact ⟨rfl, ((unhide HK).alloc (unhide HK).size _).trans (Kept.of ((unhide HP).below (unhide HK).size))⟩
end Go.Proofs.YtlbacbcenejngaaGreatDoor
