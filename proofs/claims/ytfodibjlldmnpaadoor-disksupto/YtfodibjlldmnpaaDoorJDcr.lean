/-
  Dcr, Dcr2, joined.
-/
import Derived.Test.YtfodibjlldmnpaaDoorJDrem
/-
  Disks: Crash.
-/
namespace Go.Proofs.YtfodibjlldmnpaaDoor
open Go.RowKit

/-- How many bytes of a file are left behind a crash. -/
def cutN (keep : Int) (f : Fl) : Nat := ((f.safe : Int) + (if keep < (f.data.size : Int) - f.safe then max keep 0 else (f.data.size : Int) - f.safe)).toNat
def crF (keep : Int) (f : Fl) : Fl := ⟨f.name, f.data.extract 0 (cutN keep f), (f.data.extract 0 (cutN keep f)).size⟩
def Dsk.crash (d : Dsk) (keep : Int) : Dsk := ⟨d.files.map (crF keep), -1, false⟩
/-- Where the loop stands. -/
structure Cr (TD TF : Nat) (w : World) (po : Nat) (fs : List Fl) (vo : Value) (wr : World) : Prop where
  dat : DAt w.heap.size TD TF wr po vo ⟨fs, -1, false⟩
  kept : Kept w.heap.size w wr
  new : w.heap.size ≤ po
theorem Cr.next {TD TF : Nat} {w : World} {po : Nat} {fs : List Fl} {vo : Value} {wr wx : World} (h : Cr TD TF w po fs vo wr) (hk : Kept wr.heap.size wr wx) : Cr TD TF w po fs vo wx :=
  ⟨h.dat.kept hk, h.kept.trans (hk.mono h.kept.size), h.new⟩
theorem Cr.app {TD TF : Nat} {w : World} {po : Nat} {fs : List Fl} {vo : Value} {wr : World} (h : Cr TD TF w po fs vo wr) (ht : TF ≠ TD) {f : Fl} {v2 : Value} {w2 : World}
    (ho : w2.ownsRow w.heap.size TF 3 v2 (fs ++ [f]).length (fcells (fs ++ [f]))) (hu : Upd wr.heap.size vo v2 wr w2) :
    Cr TD TF w po (fs ++ [f]) v2 (w2.setCell ⟨po, 0, none⟩ v2) ∧ w2.cell? ⟨po, 0, none⟩ = some vo ∧ w2.frozen? ⟨po, 0, none⟩ = false := by
  have hat := hu.at (Nat.le_refl _) h.dat.lt (h.dat.apart ht)
  have h3 := h.dat.set0 ht hat ho (hu.any (Nat.le_refl _))
  have hat' := hat.trans h.dat.at'
  refine ⟨⟨h3.1, h.kept.trans ⟨h3.2.os, h3.2.output, h3.2.size, fun k hk => h3.2.block k (Nat.lt_of_lt_of_le hk h.kept.size) (by have := h.new; omega) fun e => by have := (h.dat.own.lt k e).1; omega⟩, h.new⟩, by rw [cell_of_row _ _ _ _ _ _ hat']; rfl, frozen_of_row _ _ _ _ _ hat'⟩
theorem map_take_succ {f : Fl → Fl} {l : List Fl} {i : Nat} (hi : i < l.length) : (l.take (i + 1)).map f = (l.take i).map f ++ [f (l.getD i fl0)] := by
  rw [List.take_add_one, List.map_append, List.getElem?_eq_getElem hi, List.getD_eq_getElem?_getD, List.getElem?_eq_getElem hi]
  rfl
theorem cut_le {keep : Int} {f : Fl} (h : f.safe ≤ f.data.size) : cutN keep f ≤ f.data.size := by
  unfold cutN
  split <;> omega
theorem ext_all (s : ByteArray) : s.extract 0 s.size = s := ByteArray.extract_zero_size
/-- What Crash leaves. -/
def crEnd (TD TF : Nat) (w : World) (d : Dsk) (keep : Int) (e : Ending) (w' : World) : Prop :=
  ∃ po vo, e = .returned (.pointer (some ⟨po, 0, none⟩)) ∧ Cr TD TF w po (d.files.map (crF keep)) vo w'
set_option maxRecDepth 100000 in
set_option maxHeartbeats 4000000 in
theorem crash_go (B : Nat) (w : World) (p : Nat) (v : Value) (d : Dsk) (keep : Int) (h : DAt B 96 111 w p v d) (hf : d.files.length ≤ 4194303) (hb : ∀ f ∈ d.files, f.data.size ≤ 1099511627776 ∧ f.safe ≤ f.data.size) (hk1 : -9223372036854775808 ≤ keep) (hk2 : keep ≤ 9223372036854775807) :
    Calls Tryd.prog 86 #[.pointer (some ⟨p, 0, none⟩), .int .i64 keep] w (crEnd 96 111 w d keep) := by
  obtain ⟨ao, cap, rfl, hcap, hao⟩ := own_len h.own
  have H := hide h
  clear h
  go_enter Tryd.func86, Tryd.ntmps86
  go_wp2_with fail
  refine (new_disk_go w.heap.size w).mono ?_
  rintro _ w1 ⟨po, vo, rfl, hdat, hpo, hvo, hk0⟩
  have C0 := hide (show Cr 96 111 w po [] vo w1 from ⟨hdat, hk0, hpo⟩)
  have h0 := ((unhide H).kept hk0).c0
  clear hdat hvo hk0
  go_wp2_with fail
  go_loopw [15] (fun vi wr => ∃ (i : Nat) (vo : Value), i ≤ d.files.length ∧ vi = .int .i64 i ∧ Cr 96 111 w po ((d.files.take i).map (crF keep)) vo wr) (fun vi _ => d.files.length - (intOf vi).toNat)
  case atStart => exact ⟨0, vo, Nat.zero_le _, rfl, unhide C0⟩
  case round =>
    obtain ⟨i, vo, hi, rfl, hcr⟩ := hrel
    have hd := (unhide H).kept hcr.kept
    have HC := hide hcr
    have HD := hide hd
    clear hcr hd C0
    by_cases hlt : i < d.files.length
    · obtain ⟨g, rfl⟩ := hao (by omega)
      have hiI : (i : Int) < (d.files.length : Int) := by omega
      have hi0 : (0 : Int) ≤ (i : Int) := by omega
      have HS := hide (map_take_succ (f := crF keep) hlt)
      have hc : wr.cell? ⟨g, i * 3, none⟩ = some (.string (d.files.getD i fl0).name) := by have := own_file (unhide HD).own hlt (j := 0) (by omega); simpa [Fl.cells] using this
      have hc1 : wr.cell? ⟨g, i * 3 + 1, none⟩ = some (.string (d.files.getD i fl0).data) := by have := own_file (unhide HD).own hlt (j := 1) (by omega); simpa [Fl.cells] using this
      have hc2 : wr.cell? ⟨g, i * 3 + 2, none⟩ = some (.int .i64 ((d.files.getD i fl0).safe : Int)) := by have := own_file (unhide HD).own hlt (j := 2) (by omega); simpa [Fl.cells] using this
      have hds := hb (d.files.getD i fl0) (by rw [List.getD_eq_getElem?_getD, List.getElem?_eq_getElem hlt]; exact List.getElem_mem hlt)
      generalize d.files.getD i fl0 = f at hc hc1 hc2 HS hds
      obtain ⟨m, dt, sf⟩ := f
      simp only at hc hc1 hc2 hds
      obtain ⟨N, hN⟩ : ∃ N, N = cutN keep ⟨m, dt, sf⟩ := ⟨_, rfl⟩
      have hNle : N ≤ dt.size := by rw [hN]; exact cut_le hds.2
      obtain ⟨hds1, hds2⟩ := hds
      have HF := hide (show crF keep ⟨m, dt, sf⟩ = ⟨m, dt.extract 0 N, N⟩ from by rw [crF, ← hN]; simp only [Fl.mk.injEq, true_and]; rw [ByteArray.size_extract]; omega)
      by_cases hkn : keep < (dt.size : Int) - (sf : Int)
      · have hNI : (N : Int) = (sf : Int) + max keep 0 := by rw [hN, cutN]; simp only [if_pos hkn]; omega
        have HN := hide hN
        clear hN
        go_wp2_with fail
        rw [show ((sf : Int) + max keep 0).toNat = N from by omega, show min N dt.size = N from by omega]
        have HNI := hide hNI
        clear hNI
        generalize dt.extract 0 N = y at HF ⊢
        have HCQ := hide ((unhide HC).next ((Kept.refl _ _).alloc (Nat.le_refl _) (.cells #[.string m, .string y, .int .i64 (N : Int)] 111)))
        have hq0 : (wr.alloc (.cells #[.string m, .string y, .int .i64 (N : Int)] 111)).heap[wr.heap.size]? = some (.cells #[.string m, .string y, .int .i64 (N : Int)] 111 (0, 0)) := heap_alloc_new _ _
        have HQN := hide (show wr.heap.size < (wr.alloc (.cells #[.string m, .string y, .int .i64 (N : Int)] 111)).heap.size from by simp)
        clear hc hc1 hc2
        generalize wr.alloc (.cells #[.string m, .string y, .int .i64 (N : Int)] 111) = wq at HCQ hq0 HQN ⊢
        have HCD := hide ((unhide HCQ).next (wx := wq.drew) ((Kept.refl _ _).draws 1))
        have hd0 : wq.drew.cell? ⟨wr.heap.size, 0, none⟩ = some (.string m) := by rw [cell_of_row wq.drew _ _ _ _ _ hq0]; rfl
        have hd1 : wq.drew.cell? ⟨wr.heap.size, 1, none⟩ = some (.string y) := by rw [cell_of_row wq.drew _ _ _ _ _ hq0]; rfl
        have hd2 : wq.drew.cell? ⟨wr.heap.size, 2, none⟩ = some (.int .i64 (N : Int)) := by rw [cell_of_row wq.drew _ _ _ _ _ hq0]; rfl
        have hlen : ((d.files.take i).map (crF keep)).length = i := by rw [List.length_map, List.length_take]; omega
        obtain ⟨a3, c3, hv3, _, _⟩ := own_len (unhide HC).dat.own
        rw [show (Dsk.mk ((d.files.take i).map (crF keep)) (-1) false).files.length = i from hlen] at hv3
        subst hv3
        have hdp := (unhide HCD).dat.c0
        have hdpa := ((unhide HCD).next ((Kept.refl _ _).alloc (Nat.le_refl _) (.cells #[.string m, .string y, .int .i64 (N : Int)] 111))).dat.c0
        have hdpb : (wq.alloc (.cells #[.string m, .string y, .int .i64 (N : Int)] 111)).cell? ⟨po, 0, none⟩ = some (.slice a3 i c3) := hdpa
        have hdpc : (wq.alloc (.cells #[.string m, .string y, .int .i64 (N : Int)] 111)).drew.cell? ⟨po, 0, none⟩ = some (.slice a3 i c3) := hdpa
        have hll : ((d.files.take i).map (crF keep)).length ≤ 4194303 := by rw [hlen]; omega
        have HLN := hide hlen
        clear hlen
        go_region_law (refine step_append_file rfl (.tmp 46) (.tmp 48) 94 111 rfl w.heap.size Tryd.underlying94 info111 (.slice a3 i c3) ((d.files.take i).map (crF keep)) ⟨m, y, N⟩ wq.drew (by simp [Act.eval]) (unhide HCD).dat.own (by omega) (by simp [Act.eval]) rfl (unhide HCD).kept.size ?_; intro v7 w7 ho7 u7; obtain ⟨g7, c7, hv7⟩ := own_one ho7; rw [unhide HLN] at hv7; subst hv7; have r5 := (unhide HCD).app (by decide) ho7 u7; have hp7 := r5.2.1; have hz7 := r5.2.2; have R5 := hide r5.1; clear r5 ho7 u7)
        all_goals go_wp2_with fail
        all_goals go_roundw
        all_goals first | exact ⟨i + 1, _, by omega, by go_num, by rw [unhide HS, unhide HF]; exact unhide R5⟩ | (simp [intOf]; omega)
      · have hNI : (N : Int) = (dt.size : Int) := by rw [hN, cutN]; simp only [if_neg hkn]; omega
        have HN := hide hN
        clear hN
        go_wp2_with fail
        rw [← hNI]
        rw [show dt.extract 0 N = dt from by rw [show N = dt.size by omega]; exact ext_all dt] at HF
        have HNI := hide hNI
        clear hNI
        have HCQ := hide ((unhide HC).next ((Kept.refl _ _).alloc (Nat.le_refl _) (.cells #[.string m, .string dt, .int .i64 (N : Int)] 111)))
        have hq0 : (wr.alloc (.cells #[.string m, .string dt, .int .i64 (N : Int)] 111)).heap[wr.heap.size]? = some (.cells #[.string m, .string dt, .int .i64 (N : Int)] 111 (0, 0)) := heap_alloc_new _ _
        have HQN := hide (show wr.heap.size < (wr.alloc (.cells #[.string m, .string dt, .int .i64 (N : Int)] 111)).heap.size from by simp)
        clear hc hc1 hc2
        generalize wr.alloc (.cells #[.string m, .string dt, .int .i64 (N : Int)] 111) = wq at HCQ hq0 HQN ⊢
        have HCD := hide ((unhide HCQ).next (wx := wq.drew) ((Kept.refl _ _).draws 1))
        have hd0 : wq.drew.cell? ⟨wr.heap.size, 0, none⟩ = some (.string m) := by rw [cell_of_row wq.drew _ _ _ _ _ hq0]; rfl
        have hd1 : wq.drew.cell? ⟨wr.heap.size, 1, none⟩ = some (.string dt) := by rw [cell_of_row wq.drew _ _ _ _ _ hq0]; rfl
        have hd2 : wq.drew.cell? ⟨wr.heap.size, 2, none⟩ = some (.int .i64 (N : Int)) := by rw [cell_of_row wq.drew _ _ _ _ _ hq0]; rfl
        have hlen : ((d.files.take i).map (crF keep)).length = i := by rw [List.length_map, List.length_take]; omega
        obtain ⟨a3, c3, hv3, _, _⟩ := own_len (unhide HC).dat.own
        rw [show (Dsk.mk ((d.files.take i).map (crF keep)) (-1) false).files.length = i from hlen] at hv3
        subst hv3
        have hdp := (unhide HCD).dat.c0
        have hdpa := ((unhide HCD).next ((Kept.refl _ _).alloc (Nat.le_refl _) (.cells #[.string m, .string dt, .int .i64 (N : Int)] 111))).dat.c0
        have hdpb : (wq.alloc (.cells #[.string m, .string dt, .int .i64 (N : Int)] 111)).cell? ⟨po, 0, none⟩ = some (.slice a3 i c3) := hdpa
        have hdpc : (wq.alloc (.cells #[.string m, .string dt, .int .i64 (N : Int)] 111)).drew.cell? ⟨po, 0, none⟩ = some (.slice a3 i c3) := hdpa
        have hll : ((d.files.take i).map (crF keep)).length ≤ 4194303 := by rw [hlen]; omega
        have HLN := hide hlen
        clear hlen
        go_region_law (refine step_append_file rfl (.tmp 46) (.tmp 48) 94 111 rfl w.heap.size Tryd.underlying94 info111 (.slice a3 i c3) ((d.files.take i).map (crF keep)) ⟨m, dt, N⟩ wq.drew (by simp [Act.eval]) (unhide HCD).dat.own (by omega) (by simp [Act.eval]) rfl (unhide HCD).kept.size ?_; intro v7 w7 ho7 u7; obtain ⟨g7, c7, hv7⟩ := own_one ho7; rw [unhide HLN] at hv7; subst hv7; have r5 := (unhide HCD).app (by decide) ho7 u7; have hp7 := r5.2.1; have hz7 := r5.2.2; have R5 := hide r5.1; clear r5 ho7 u7)
        all_goals go_wp2_with fail
        all_goals go_roundw
        all_goals first | exact ⟨i + 1, _, by omega, by go_num, by rw [unhide HS, unhide HF]; exact unhide R5⟩ | (simp [intOf]; omega)
    · have hiI : ¬ (i : Int) < (d.files.length : Int) := by omega
      go_wp2
      all_goals go_ret
      all_goals exact ⟨po, vo, rfl, by have := unhide HC; rwa [List.take_of_length_le (by omega)] at this⟩
end Go.Proofs.YtfodibjlldmnpaaDoor
/-
  Disks: Crash, the reference's.
-/
namespace Go.Proofs.YtfodibjlldmnpaaDoor
open Go.RowKit

set_option maxRecDepth 100000 in
set_option maxHeartbeats 4000000 in
theorem crash_ref (B : Nat) (w : World) (p : Nat) (v : Value) (d : Dsk) (keep : Int) (h : DAt B 99 113 w p v d) (hf : d.files.length ≤ 4194303) (hb : ∀ f ∈ d.files, f.data.size ≤ 1099511627776 ∧ f.safe ≤ f.data.size) (hk1 : -9223372036854775808 ≤ keep) (hk2 : keep ≤ 9223372036854775807) :
    Calls Tryd.prog 87 #[.pointer (some ⟨p, 0, none⟩), .int .i64 keep] w (crEnd 99 113 w d keep) := by
  obtain ⟨ao, cap, rfl, hcap, hao⟩ := own_len h.own
  have H := hide h
  clear h
  go_enter Tryd.func87, Tryd.ntmps87
  go_wp2_with fail
  refine (new_disk_ref w.heap.size w).mono ?_
  rintro _ w1 ⟨po, vo, rfl, hdat, hpo, hvo, hk0⟩
  have C0 := hide (show Cr 99 113 w po [] vo w1 from ⟨hdat, hk0, hpo⟩)
  have h0 := ((unhide H).kept hk0).c0
  clear hdat hvo hk0
  go_wp2_with fail
  go_loopw [6] (fun vi wr => ∃ (i : Nat) (vo : Value), i ≤ d.files.length ∧ vi = .int .i64 i ∧ Cr 99 113 w po ((d.files.take i).map (crF keep)) vo wr) (fun vi _ => d.files.length - (intOf vi).toNat)
  case atStart => exact ⟨0, vo, Nat.zero_le _, rfl, unhide C0⟩
  case round =>
    obtain ⟨i, vo, hi, rfl, hcr⟩ := hrel
    have hd := (unhide H).kept hcr.kept
    have HC := hide hcr
    have HD := hide hd
    clear hcr hd C0
    by_cases hlt : i < d.files.length
    · obtain ⟨g, rfl⟩ := hao (by omega)
      have hiI : (i : Int) < (d.files.length : Int) := by omega
      have hi0 : (0 : Int) ≤ (i : Int) := by omega
      have HS := hide (map_take_succ (f := crF keep) hlt)
      have hc : wr.cell? ⟨g, i * 3, none⟩ = some (.string (d.files.getD i fl0).name) := by have := own_file (unhide HD).own hlt (j := 0) (by omega); simpa [Fl.cells] using this
      have hc1 : wr.cell? ⟨g, i * 3 + 1, none⟩ = some (.string (d.files.getD i fl0).data) := by have := own_file (unhide HD).own hlt (j := 1) (by omega); simpa [Fl.cells] using this
      have hc2 : wr.cell? ⟨g, i * 3 + 2, none⟩ = some (.int .i64 ((d.files.getD i fl0).safe : Int)) := by have := own_file (unhide HD).own hlt (j := 2) (by omega); simpa [Fl.cells] using this
      have hds := hb (d.files.getD i fl0) (by rw [List.getD_eq_getElem?_getD, List.getElem?_eq_getElem hlt]; exact List.getElem_mem hlt)
      generalize d.files.getD i fl0 = f at hc hc1 hc2 HS hds
      obtain ⟨m, dt, sf⟩ := f
      simp only at hc hc1 hc2 hds
      obtain ⟨N, hN⟩ : ∃ N, N = cutN keep ⟨m, dt, sf⟩ := ⟨_, rfl⟩
      have hNle : N ≤ dt.size := by rw [hN]; exact cut_le hds.2
      obtain ⟨hds1, hds2⟩ := hds
      have HF := hide (show crF keep ⟨m, dt, sf⟩ = ⟨m, dt.extract 0 N, N⟩ from by rw [crF, ← hN]; simp only [Fl.mk.injEq, true_and]; rw [ByteArray.size_extract]; omega)
      have hpa := (unhide HD).c0
      by_cases hkn : keep < (dt.size : Int) - (sf : Int)
      · by_cases hk0 : keep < 0
        · have hNI : (N : Int) = (sf : Int) := by rw [hN, cutN]; simp only [if_pos hkn]; omega
          have HN := hide hN
          clear hN
          go_wp2_with fail
          obtain rfl : N = sf := by omega
          clear hNI
          have hNI : True := trivial
          have HNI := hide hNI
          clear hNI
          generalize dt.extract 0 N = y at HF ⊢
          have HCQ := hide ((unhide HC).next ((Kept.refl _ _).alloc (Nat.le_refl _) (.cells #[.string m, .string y, .int .i64 (N : Int)] 113)))
          have hq0 : (wr.alloc (.cells #[.string m, .string y, .int .i64 (N : Int)] 113)).heap[wr.heap.size]? = some (.cells #[.string m, .string y, .int .i64 (N : Int)] 113 (0, 0)) := heap_alloc_new _ _
          have HQN := hide (show wr.heap.size < (wr.alloc (.cells #[.string m, .string y, .int .i64 (N : Int)] 113)).heap.size from by simp)
          clear hc hc1 hc2
          generalize wr.alloc (.cells #[.string m, .string y, .int .i64 (N : Int)] 113) = wq at HCQ hq0 HQN ⊢
          have HCD := hide ((unhide HCQ).next (wx := wq.drew) ((Kept.refl _ _).draws 1))
          have hd0 : wq.drew.cell? ⟨wr.heap.size, 0, none⟩ = some (.string m) := by rw [cell_of_row wq.drew _ _ _ _ _ hq0]; rfl
          have hd1 : wq.drew.cell? ⟨wr.heap.size, 1, none⟩ = some (.string y) := by rw [cell_of_row wq.drew _ _ _ _ _ hq0]; rfl
          have hd2 : wq.drew.cell? ⟨wr.heap.size, 2, none⟩ = some (.int .i64 (N : Int)) := by rw [cell_of_row wq.drew _ _ _ _ _ hq0]; rfl
          have hlen : ((d.files.take i).map (crF keep)).length = i := by rw [List.length_map, List.length_take]; omega
          obtain ⟨a3, c3, hv3, _, _⟩ := own_len (unhide HC).dat.own
          rw [show (Dsk.mk ((d.files.take i).map (crF keep)) (-1) false).files.length = i from hlen] at hv3
          subst hv3
          have hdp := (unhide HCD).dat.c0
          have hdpa := ((unhide HCD).next ((Kept.refl _ _).alloc (Nat.le_refl _) (.cells #[.string m, .string y, .int .i64 (N : Int)] 113))).dat.c0
          have hdpb : (wq.alloc (.cells #[.string m, .string y, .int .i64 (N : Int)] 113)).cell? ⟨po, 0, none⟩ = some (.slice a3 i c3) := hdpa
          have hdpc : (wq.alloc (.cells #[.string m, .string y, .int .i64 (N : Int)] 113)).drew.cell? ⟨po, 0, none⟩ = some (.slice a3 i c3) := hdpa
          have hll : ((d.files.take i).map (crF keep)).length ≤ 4194303 := by rw [hlen]; omega
          have HLN := hide hlen
          clear hlen
          go_region_law (refine step_append_file rfl (.tmp 54) (.tmp 56) 97 113 rfl w.heap.size Tryd.underlying97 info113 (.slice a3 i c3) ((d.files.take i).map (crF keep)) ⟨m, y, N⟩ wq.drew (by simp [Act.eval]) (unhide HCD).dat.own (by omega) (by simp [Act.eval]) rfl (unhide HCD).kept.size ?_; intro v7 w7 ho7 u7; obtain ⟨g7, c7, hv7⟩ := own_one ho7; rw [unhide HLN] at hv7; subst hv7; have r5 := (unhide HCD).app (by decide) ho7 u7; have hp7 := r5.2.1; have hz7 := r5.2.2; have R5 := hide r5.1; clear r5 ho7 u7)
          all_goals go_wp2_with fail
          all_goals go_roundw
          all_goals first | exact ⟨i + 1, _, by omega, by go_num, by rw [unhide HS, unhide HF]; exact unhide R5⟩ | (simp [intOf]; omega)
        · have hNI : (N : Int) = (sf : Int) + keep := by rw [hN, cutN]; simp only [if_pos hkn]; omega
          have HN := hide hN
          clear hN
          go_wp2_with fail
          rw [show ((sf : Int) + keep).toNat = N from by omega, show min N dt.size = N from by omega]
          have HNI := hide hNI
          clear hNI
          generalize dt.extract 0 N = y at HF ⊢
          have HCQ := hide ((unhide HC).next ((Kept.refl _ _).alloc (Nat.le_refl _) (.cells #[.string m, .string y, .int .i64 (N : Int)] 113)))
          have hq0 : (wr.alloc (.cells #[.string m, .string y, .int .i64 (N : Int)] 113)).heap[wr.heap.size]? = some (.cells #[.string m, .string y, .int .i64 (N : Int)] 113 (0, 0)) := heap_alloc_new _ _
          have HQN := hide (show wr.heap.size < (wr.alloc (.cells #[.string m, .string y, .int .i64 (N : Int)] 113)).heap.size from by simp)
          clear hc hc1 hc2
          generalize wr.alloc (.cells #[.string m, .string y, .int .i64 (N : Int)] 113) = wq at HCQ hq0 HQN ⊢
          have HCD := hide ((unhide HCQ).next (wx := wq.drew) ((Kept.refl _ _).draws 1))
          have hd0 : wq.drew.cell? ⟨wr.heap.size, 0, none⟩ = some (.string m) := by rw [cell_of_row wq.drew _ _ _ _ _ hq0]; rfl
          have hd1 : wq.drew.cell? ⟨wr.heap.size, 1, none⟩ = some (.string y) := by rw [cell_of_row wq.drew _ _ _ _ _ hq0]; rfl
          have hd2 : wq.drew.cell? ⟨wr.heap.size, 2, none⟩ = some (.int .i64 (N : Int)) := by rw [cell_of_row wq.drew _ _ _ _ _ hq0]; rfl
          have hlen : ((d.files.take i).map (crF keep)).length = i := by rw [List.length_map, List.length_take]; omega
          obtain ⟨a3, c3, hv3, _, _⟩ := own_len (unhide HC).dat.own
          rw [show (Dsk.mk ((d.files.take i).map (crF keep)) (-1) false).files.length = i from hlen] at hv3
          subst hv3
          have hdp := (unhide HCD).dat.c0
          have hdpa := ((unhide HCD).next ((Kept.refl _ _).alloc (Nat.le_refl _) (.cells #[.string m, .string y, .int .i64 (N : Int)] 113))).dat.c0
          have hdpb : (wq.alloc (.cells #[.string m, .string y, .int .i64 (N : Int)] 113)).cell? ⟨po, 0, none⟩ = some (.slice a3 i c3) := hdpa
          have hdpc : (wq.alloc (.cells #[.string m, .string y, .int .i64 (N : Int)] 113)).drew.cell? ⟨po, 0, none⟩ = some (.slice a3 i c3) := hdpa
          have hll : ((d.files.take i).map (crF keep)).length ≤ 4194303 := by rw [hlen]; omega
          have HLN := hide hlen
          clear hlen
          go_region_law (refine step_append_file rfl (.tmp 54) (.tmp 56) 97 113 rfl w.heap.size Tryd.underlying97 info113 (.slice a3 i c3) ((d.files.take i).map (crF keep)) ⟨m, y, N⟩ wq.drew (by simp [Act.eval]) (unhide HCD).dat.own (by omega) (by simp [Act.eval]) rfl (unhide HCD).kept.size ?_; intro v7 w7 ho7 u7; obtain ⟨g7, c7, hv7⟩ := own_one ho7; rw [unhide HLN] at hv7; subst hv7; have r5 := (unhide HCD).app (by decide) ho7 u7; have hp7 := r5.2.1; have hz7 := r5.2.2; have R5 := hide r5.1; clear r5 ho7 u7)
          all_goals go_wp2_with fail
          all_goals go_roundw
          all_goals first | exact ⟨i + 1, _, by omega, by go_num, by rw [unhide HS, unhide HF]; exact unhide R5⟩ | (simp [intOf]; omega)
      · have hNI : (N : Int) = (dt.size : Int) := by rw [hN, cutN]; simp only [if_neg hkn]; omega
        have HN := hide hN
        clear hN
        go_wp2_with fail
        rw [← hNI]
        rw [show dt.extract 0 N = dt from by rw [show N = dt.size by omega]; exact ext_all dt] at HF
        have HNI := hide hNI
        clear hNI
        have HCQ := hide ((unhide HC).next ((Kept.refl _ _).alloc (Nat.le_refl _) (.cells #[.string m, .string dt, .int .i64 (N : Int)] 113)))
        have hq0 : (wr.alloc (.cells #[.string m, .string dt, .int .i64 (N : Int)] 113)).heap[wr.heap.size]? = some (.cells #[.string m, .string dt, .int .i64 (N : Int)] 113 (0, 0)) := heap_alloc_new _ _
        have HQN := hide (show wr.heap.size < (wr.alloc (.cells #[.string m, .string dt, .int .i64 (N : Int)] 113)).heap.size from by simp)
        clear hc hc1 hc2
        generalize wr.alloc (.cells #[.string m, .string dt, .int .i64 (N : Int)] 113) = wq at HCQ hq0 HQN ⊢
        have HCD := hide ((unhide HCQ).next (wx := wq.drew) ((Kept.refl _ _).draws 1))
        have hd0 : wq.drew.cell? ⟨wr.heap.size, 0, none⟩ = some (.string m) := by rw [cell_of_row wq.drew _ _ _ _ _ hq0]; rfl
        have hd1 : wq.drew.cell? ⟨wr.heap.size, 1, none⟩ = some (.string dt) := by rw [cell_of_row wq.drew _ _ _ _ _ hq0]; rfl
        have hd2 : wq.drew.cell? ⟨wr.heap.size, 2, none⟩ = some (.int .i64 (N : Int)) := by rw [cell_of_row wq.drew _ _ _ _ _ hq0]; rfl
        have hlen : ((d.files.take i).map (crF keep)).length = i := by rw [List.length_map, List.length_take]; omega
        obtain ⟨a3, c3, hv3, _, _⟩ := own_len (unhide HC).dat.own
        rw [show (Dsk.mk ((d.files.take i).map (crF keep)) (-1) false).files.length = i from hlen] at hv3
        subst hv3
        have hdp := (unhide HCD).dat.c0
        have hdpa := ((unhide HCD).next ((Kept.refl _ _).alloc (Nat.le_refl _) (.cells #[.string m, .string dt, .int .i64 (N : Int)] 113))).dat.c0
        have hdpb : (wq.alloc (.cells #[.string m, .string dt, .int .i64 (N : Int)] 113)).cell? ⟨po, 0, none⟩ = some (.slice a3 i c3) := hdpa
        have hdpc : (wq.alloc (.cells #[.string m, .string dt, .int .i64 (N : Int)] 113)).drew.cell? ⟨po, 0, none⟩ = some (.slice a3 i c3) := hdpa
        have hll : ((d.files.take i).map (crF keep)).length ≤ 4194303 := by rw [hlen]; omega
        have HLN := hide hlen
        clear hlen
        go_region_law (refine step_append_file rfl (.tmp 54) (.tmp 56) 97 113 rfl w.heap.size Tryd.underlying97 info113 (.slice a3 i c3) ((d.files.take i).map (crF keep)) ⟨m, dt, N⟩ wq.drew (by simp [Act.eval]) (unhide HCD).dat.own (by omega) (by simp [Act.eval]) rfl (unhide HCD).kept.size ?_; intro v7 w7 ho7 u7; obtain ⟨g7, c7, hv7⟩ := own_one ho7; rw [unhide HLN] at hv7; subst hv7; have r5 := (unhide HCD).app (by decide) ho7 u7; have hp7 := r5.2.1; have hz7 := r5.2.2; have R5 := hide r5.1; clear r5 ho7 u7)
        all_goals go_wp2_with fail
        all_goals go_roundw
        all_goals first | exact ⟨i + 1, _, by omega, by go_num, by rw [unhide HS, unhide HF]; exact unhide R5⟩ | (simp [intOf]; omega)
    · have hiI : ¬ (i : Int) < (d.files.length : Int) := by omega
      have hpa := (unhide HD).c0
      go_wp2
      all_goals go_ret
      all_goals exact ⟨po, vo, rfl, by have := unhide HC; rwa [List.take_of_length_le (by omega)] at this⟩
end Go.Proofs.YtfodibjlldmnpaaDoor
