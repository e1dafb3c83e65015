/-
  Drem, Drem2, Dren, Dren2, joined.
-/
import Derived.Test.YtfodibjlldmnpaaDoorJDk
import Derived.Deep.RegionLaw
/-
  Disks: Remove.
-/
namespace Go.Proofs.YtfodibjlldmnpaaDoor
open Go.RowKit

/-- The files but those of a name. -/
def woF (n : ByteArray) (l : List Fl) : List Fl := l.filter fun f => !decide (f.name = n)
theorem woF_snoc (n : ByteArray) (l : List Fl) {i : Nat} (hi : i < l.length) : woF n (l.take (i + 1)) = woF n (l.take i) ++ (if (l.getD i fl0).name = n then [] else [l.getD i fl0]) := by
  rw [List.take_add_one, woF, List.filter_append, List.getElem?_eq_getElem hi]
  simp only [Option.toList_some, List.filter_cons, List.filter_nil, List.getD_eq_getElem?_getD, List.getElem?_eq_getElem hi, Option.getD_some]
  by_cases h : l[i].name = n <;> simp [h, woF]
theorem woF_len (n : ByteArray) (l : List Fl) : (woF n l).length ≤ l.length := List.length_filter_le _ _
theorem own_frange {w : World} {B TF g n cap k : Nat} {l : List Fl} (h : w.ownsRow B TF 3 (.slice (some ⟨g, 0, none⟩) n cap) n (fcells l)) (hk : k < l.length) : w.rangeAt g (k * 3) (l.getD k fl0).cells := fun j u hu => by
  have hj : j < 3 := by have := (List.getElem?_eq_some_iff.1 hu).1; simpa [Fl.cells] using this
  rw [own_file h hk hj]
  exact hu
theorem infof (TF : Nat) (hi : (Tryd.prog.info? TF).map (fun i => (i.zero, i.size, i.bytes)) = some (some (.agg #[.string .empty, .string .empty, .int .i64 0]), 3, 40)) (f : Fl) : (Tryd.prog.info? TF).map (·.size) = some f.cells.length := by
  cases hq : Tryd.prog.info? TF with
  | none => rw [hq] at hi; cases hi
  | some i =>
    rw [hq] at hi
    simp only [Option.map_some, Option.some.injEq, Prod.mk.injEq] at hi
    simp [hi.2.1, Fl.cells]
theorem cells_one (f : Fl) : (f.cells.toArray).all (·.oneCell') = true := by simp [Fl.cells, Value.oneCell']
/-- Where the loop stands. -/
structure Wo (TF : Nat) (w : World) (vl : Value) (fs : List Fl) (wr : World) : Prop where
  own : wr.ownsRow w.heap.size TF 3 vl fs.length (fcells fs)
  kept : Kept w.heap.size w wr
theorem Wo.app {TF : Nat} {w : World} {vl v' : Value} {fs : List Fl} {f : Fl} {wr w0 w' : World} (h : Wo TF w vl fs wr) (hk : Kept w.heap.size w w0) (ho : w'.ownsRow w.heap.size TF 3 v' (fs ++ [f]).length (fcells (fs ++ [f]))) (hu : Upd w0.heap.size vl v' w0 w') : Wo TF w v' (fs ++ [f]) w' :=
  ⟨ho, hk.trans ⟨hu.os, hu.output, hu.size, fun k hk' => hu.block k (Nat.lt_of_lt_of_le hk' hk.size) (by have := hk.size; omega) fun e => by have := (h.own.lt k e).1; omega⟩⟩
theorem Wo.next {TF : Nat} {w : World} {vl : Value} {fs : List Fl} {wr wx : World} (h : Wo TF w vl fs wr) (hk : Kept wr.heap.size wr wx) : Wo TF w vl fs wx :=
  ⟨own_kept h.own hk, h.kept.trans (hk.mono h.kept.size)⟩
set_option maxRecDepth 100000 in
set_option maxHeartbeats 1000000 in
theorem without_ref (B : Nat) (w : World) (p : Nat) (v : Value) (d : Dsk) (n : ByteArray) (h : DAt B 99 113 w p v d) (hl : d.files.length ≤ 4194304) :
    Calls Tryd.prog 75 #[.pointer (some ⟨p, 0, none⟩), .string n] w fun e w' => ∃ v', e = .returned v' ∧ Wo 113 w v' (woF n d.files) w' := by
  have h0 := h.c0
  obtain ⟨ao, cap, rfl, hcap, hao⟩ := own_len h.own
  have H := hide h
  clear h
  go_enter Tryd.func75, Tryd.ntmps75
  go_wp2_with fail
  go_loopw [6, 5] (fun vi vl wr => ∃ i : Nat, i ≤ d.files.length ∧ vi = .int .i64 i ∧ Wo 113 w vl (woF n (d.files.take i)) wr) (fun vi _ _ => d.files.length - (intOf vi).toNat)
  case atStart => exact ⟨0, Nat.zero_le _, rfl, ⟨World.ownsRow_nil _ _ _ _, Kept.refl _ _⟩⟩
  case round =>
    obtain ⟨i, hi, rfl, hwo⟩ := hrel
    have hd := (unhide H).kept hwo.kept
    have h0 := hd.c0
    have HW := hide hwo
    have HD := hide hd
    clear hwo hd
    by_cases hlt : i < d.files.length
    · obtain ⟨g, rfl⟩ := hao (by omega)
      have hiI : (i : Int) < (d.files.length : Int) := by omega
      have hi0 : (0 : Int) ≤ (i : Int) := by omega
      have HS := hide (woF_snoc n d.files hlt)
      have hc : wr.cell? ⟨g, i * 3, none⟩ = some (.string (d.files.getD i fl0).name) := by have := own_file (unhide HD).own hlt (j := 0) (by omega); simpa [Fl.cells] using this
      have hc1 : wr.cell? ⟨g, i * 3 + 1, none⟩ = some (.string (d.files.getD i fl0).data) := by have := own_file (unhide HD).own hlt (j := 1) (by omega); simpa [Fl.cells] using this
      have hc2 : wr.cell? ⟨g, i * 3 + 2, none⟩ = some (.int .i64 ((d.files.getD i fl0).safe : Int)) := by have := own_file (unhide HD).own hlt (j := 2) (by omega); simpa [Fl.cells] using this
      generalize d.files.getD i fl0 = f at hc hc1 hc2 HS
      obtain ⟨m, dt, sf⟩ := f
      simp only at hc hc1 hc2
      by_cases hmn : m = n
      · have hq : (m.toList == n.toList) = true := by rw [hmn]; simp
        go_wp2
        go_roundw
        case rel => exact ⟨i + 1, by omega, by go_num, by rw [unhide HS, if_pos hmn, List.append_nil]; exact unhide HW⟩
        case measure => simp [intOf]; omega
      · have hq : (m.toList == n.toList) = false := by rw [str_eq]; simpa using hmn
        obtain ⟨al, capl, rfl, hcapl, hal⟩ := own_len (unhide HW).own
        go_wp2_with (refine wpList_halt2 (.tmp 26) (.tmp 34) 97 rfl ?_)
        refine Stp.mk ?_
        refine wpList_append_file rfl (.tmp 26) (.tmp 34) 97 113 rfl w.heap.size Tryd.underlying97 info113 _ (woF n (d.files.take i)) ⟨m, dt, sf⟩ wr rfl (unhide HW).own (by have := woF_len n (d.files.take i); rw [List.length_take] at this; omega) rfl rfl (unhide HW).kept.size ?_
        intro v2 w2 ho2 u2
        have HW2 := hide ((unhide HW).app (unhide HW).kept ho2 u2)
        clear ho2 u2
        simp only [Act.put, List.setIfInBounds_toArray, List.set_cons_zero, List.set_cons_succ]
        go_wp2
        go_roundw
        case rel => exact ⟨i + 1, by omega, by go_num, by rw [unhide HS, if_neg hmn]; exact unhide HW2⟩
        case measure => simp [intOf]; omega
    · have hiI : ¬ (i : Int) < (d.files.length : Int) := by omega
      go_wp2
      all_goals go_ret
      all_goals exact ⟨_, rfl, by have := unhide HW; rwa [List.take_of_length_le (by omega)] at this⟩
end Go.Proofs.YtfodibjlldmnpaaDoor
/-
  Disks: Remove, the calls.
-/
namespace Go.Proofs.YtfodibjlldmnpaaDoor
open Go.RowKit

def Dsk.remove (d : Dsk) (n : ByteArray) : Dsk := if d.stopped then d.stepd else { d.stepd with files := woF n d.files }
theorem Wo.upd {TF p : Nat} {w w' : World} {v v' : Value} {fs : List Fl} (h : Wo TF w v' fs w') : Upd p v v' w w' :=
  ⟨h.kept.os, h.kept.output, h.kept.size, fun k hk _ _ => h.kept.block k hk, fun k hk => .inr (h.own.lt k hk).1⟩
theorem Wo.set {B TD TF p : Nat} {w w' : World} {v v' : Value} {d : Dsk} {fs : List Fl} (h : Wo TF w v' fs w') (hd : DAt B TD TF w p v d) (ht : TF ≠ TD) (hB : B ≤ w.heap.size) :
    DAt B TD TF (w'.setCell ⟨p, 0, none⟩ v') p v' { d with files := fs } ∧ Upd p v v' w (w'.setCell ⟨p, 0, none⟩ v') :=
  hd.set0 ht (h.kept.block _ hd.lt) (h.own.mono hB) h.upd
set_option maxRecDepth 100000 in
set_option maxHeartbeats 1000000 in
theorem remove_ref (B : Nat) (w : World) (p : Nat) (v : Value) (d : Dsk) (n : ByteArray) (h : DAt B 99 113 w p v d) (hB : B ≤ w.heap.size) (hl : -1 ≤ d.left ∧ d.left ≤ 9223372036854775807) (hf : d.files.length ≤ 4194303) :
    Calls Tryd.prog 45 #[.pointer (some ⟨p, 0, none⟩), .string n] w (stEnd B 99 113 w p v d (!d.stopped) (d.remove n)) := by
  have hst := step_ref B w p v d h hl
  by_cases hS : d.stopped = true
  · rw [hS] at hst
    have HA := hide (show d.remove n = d.stepd from by rw [Dsk.remove, if_pos hS])
    clear h
    go_enter Tryd.func45, Tryd.ntmps45
    go_wp2_with fail
    refine hst.mono ?_
    rintro _ w1 ⟨rfl, v1, h1⟩
    go_wp2
    all_goals go_ret
    all_goals exact stEnd_of (by rw [hS]; rfl) (unhide HA).symm h1
  · have hSf : d.stopped = false := by simpa using hS
    rw [hSf] at hst
    have HA := hide (show d.remove n = { d.stepd with files := woF n d.files } from by rw [Dsk.remove, if_neg hS])
    clear h hS
    go_enter Tryd.func45, Tryd.ntmps45
    go_wp2_with fail
    refine hst.mono ?_
    rintro _ w1 ⟨rfl, v1, h1, u1⟩
    have hfs := stepd_files d
    generalize d.stepd = d1 at HA h1 hfs
    rw [← hfs] at hf HA
    have hB1 : B ≤ w1.heap.size := Nat.le_trans hB u1.size
    have H1 := hide (And.intro h1 u1)
    clear hst u1 h1 hfs
    go_wp2_with fail
    refine (without_ref B w1 p v1 d1 n (unhide H1).1 (by omega)).mono ?_
    rintro _ w2 ⟨v2, rfl, hw2⟩
    have h3 := hw2.set (unhide H1).1 (by decide) hB1
    have hat := (hw2.kept.block _ (unhide H1).1.lt).trans (unhide H1).1.at'
    have hc2 : w2.cell? ⟨p, 0, none⟩ = some v1 := by rw [cell_of_row _ _ _ _ _ _ hat]; rfl
    have hz2 : w2.frozen? ⟨p, 0, none⟩ = false := frozen_of_row _ _ _ _ _ hat
    obtain ⟨a2, c2, rfl, _, _⟩ := own_len hw2.own
    have H3 := hide (And.intro h3.1 ((unhide H1).2.trans h3.2))
    clear h3 hw2 hat
    go_wp2
    all_goals go_ret
    all_goals exact stEnd_of (by simp [hSf]) (by rw [unhide HA]) (unhide H3)
set_option maxRecDepth 100000 in
set_option maxHeartbeats 2000000 in
theorem remove_go (B : Nat) (w : World) (p : Nat) (v : Value) (d : Dsk) (n : ByteArray) (h : DAt B 96 111 w p v d) (hB : B ≤ w.heap.size) (hl : -1 ≤ d.left ∧ d.left ≤ 9223372036854775807) (hf : d.files.length ≤ 4194303) :
    Calls Tryd.prog 44 #[.pointer (some ⟨p, 0, none⟩), .string n] w (stEnd B 96 111 w p v d (!d.stopped) (d.remove n)) := by
  have hst := step_go B w p v d h hl
  by_cases hS : d.stopped = true
  · rw [hS] at hst
    have HA := hide (show d.remove n = d.stepd from by rw [Dsk.remove, if_pos hS])
    clear h
    go_enter Tryd.func44, Tryd.ntmps44
    go_wp2_with fail
    refine hst.mono ?_
    rintro _ w1 ⟨rfl, v1, h1⟩
    go_wp2
    all_goals go_ret
    all_goals exact stEnd_of (by rw [hS]; rfl) (unhide HA).symm h1
  · have hSf : d.stopped = false := by simpa using hS
    rw [hSf] at hst
    have HA := hide (show d.remove n = { d.stepd with files := woF n d.files } from by rw [Dsk.remove, if_neg hS])
    clear h hS
    go_enter Tryd.func44, Tryd.ntmps44
    go_wp2_with fail
    refine hst.mono ?_
    rintro _ w1 ⟨rfl, v1, h1, u1⟩
    have hfs := stepd_files d
    generalize d.stepd = d1 at HA h1 hfs
    rw [← hfs] at hf HA
    have hB1 : B ≤ w1.heap.size := Nat.le_trans hB u1.size
    obtain ⟨ao, cap, rfl, hcap, hao⟩ := own_len h1.own
    have h0 := h1.c0
    have H1 := hide (And.intro h1 u1)
    clear hst u1 h1 hfs
    go_wp2_with fail
    go_loopw [16, 5] (fun vi vl wr => ∃ i : Nat, i ≤ d1.files.length ∧ vi = .int .i64 i ∧ Wo 111 w1 vl (woF n (d1.files.take i)) wr) (fun vi _ _ => d1.files.length - (intOf vi).toNat)
    case atStart => exact ⟨0, Nat.zero_le _, rfl, ⟨World.ownsRow_nil _ _ _ _, Kept.refl _ _⟩⟩
    case round =>
      obtain ⟨i, hi, rfl, hwo⟩ := hrel
      have hd := (unhide H1).1.kept hwo.kept
      have HW := hide hwo
      have HD := hide hd
      clear hwo hd
      by_cases hlt : i < d1.files.length
      · obtain ⟨g, rfl⟩ := hao (by omega)
        have hiI : (i : Int) < (d1.files.length : Int) := by omega
        have hi0 : (0 : Int) ≤ (i : Int) := by omega
        have HS := hide (woF_snoc n d1.files hlt)
        have hc : wr.cell? ⟨g, i * 3, none⟩ = some (.string (d1.files.getD i fl0).name) := by have := own_file (unhide HD).own hlt (j := 0) (by omega); simpa [Fl.cells] using this
        have hc1 : wr.cell? ⟨g, i * 3 + 1, none⟩ = some (.string (d1.files.getD i fl0).data) := by have := own_file (unhide HD).own hlt (j := 1) (by omega); simpa [Fl.cells] using this
        have hc2 : wr.cell? ⟨g, i * 3 + 2, none⟩ = some (.int .i64 ((d1.files.getD i fl0).safe : Int)) := by have := own_file (unhide HD).own hlt (j := 2) (by omega); simpa [Fl.cells] using this
        have hgl : g < wr.heap.size := ((unhide HD).own.lt g rfl).2
        generalize d1.files.getD i fl0 = f at hc hc1 hc2 HS
        obtain ⟨m, dt, sf⟩ := f
        simp only at hc hc1 hc2
        by_cases hmn : m = n
        · have hq : (m.toList == n.toList) = true := by rw [hmn]; simp
          go_wp2
          go_roundw
          case rel => exact ⟨i + 1, by omega, by go_num, by rw [unhide HS, if_pos hmn, List.append_nil]; exact (unhide HW).next ((Kept.refl _ _).alloc (Nat.le_refl _) _)⟩
          case measure => simp [intOf]; omega
        · have hq : (m.toList == n.toList) = false := by rw [str_eq]; simpa using hmn
          obtain ⟨al, capl, rfl, hcapl, hal⟩ := own_len (unhide HW).own
          have HWA := hide ((unhide HW).next ((Kept.refl _ _).alloc (Nat.le_refl _) (.cells #[.string m, .string dt, .int .i64 (sf : Int)] 111)))
          go_wp2_with (refine wpList_halt2 (.tmp 24) (.tmp 26) 94 rfl ?_)
          refine Stp.mk ?_
          refine wpList_append_file rfl (.tmp 24) (.tmp 26) 94 111 rfl w1.heap.size Tryd.underlying94 info111 _ (woF n (d1.files.take i)) ⟨m, dt, sf⟩ (wr.alloc (.cells #[.string m, .string dt, .int .i64 (sf : Int)] 111)) rfl (unhide HWA).own (by have := woF_len n (d1.files.take i); rw [List.length_take] at this; omega) (by rw [World.size_alloc]; rfl) rfl (unhide HWA).kept.size ?_
          intro v2 w2 ho2 u2
          have HW2 := hide ((unhide HWA).app (unhide HWA).kept ho2 u2)
          clear ho2 u2
          simp only [Act.put, List.setIfInBounds_toArray, List.set_cons_zero, List.set_cons_succ]
          go_wp2
          go_roundw
          case rel => exact ⟨i + 1, by omega, by go_num, by rw [unhide HS, if_neg hmn]; exact unhide HW2⟩
          case measure => simp [intOf]; omega
      · have hiI : ¬ (i : Int) < (d1.files.length : Int) := by omega
        have h3 := (unhide HW).set (unhide H1).1 (by decide) hB1
        rw [List.take_of_length_le (by omega)] at h3
        have hat := ((unhide HW).kept.block _ (unhide H1).1.lt).trans (unhide H1).1.at'
        have hc2 : wr.cell? ⟨p, 0, none⟩ = some (.slice ao d1.files.length cap) := by rw [cell_of_row _ _ _ _ _ _ hat]; rfl
        have hz2 : wr.frozen? ⟨p, 0, none⟩ = false := frozen_of_row _ _ _ _ _ hat
        obtain ⟨a2, c2, rfl, _, _⟩ := own_len (unhide HW).own
        have H3 := hide (And.intro h3.1 ((unhide H1).2.trans h3.2))
        clear h3 hat
        go_wp2
        all_goals go_ret
        all_goals exact stEnd_of (by simp) (by rw [unhide HA]) (unhide H3)
end Go.Proofs.YtfodibjlldmnpaaDoor
/-
  Disks: Rename, the reference's.
-/
namespace Go.Proofs.YtfodibjlldmnpaaDoor
open Go.RowKit

/-- A file more, as one step of a region that draws its order. -/
theorem step_append_file {w : World} {ops : Array Oper} {o : Oper} {act : Act} {K : Act → World → Prop} {Q : Exit → Act → World → Prop} {E : Prop} (hgd : o.guard = none) (s x : Operand) (t TF : TypeId)
    (ho : o.op = .call { callee := .builtin .append, args := #[s, x], argTypes := #[t, t] }) (B : Nat) (ht : Tryd.prog.underlying t = some (.slice TF)) (hi : (Tryd.prog.info? TF).map (fun i => (i.zero, i.size, i.bytes)) = some (some (.agg #[.string .empty, .string .empty, .int .i64 0]), 3, 40))
    (v : Value) (l : List Fl) (f : Fl) (w0 : World) (hs : act.eval s = v) (hown : w0.ownsRow B TF 3 v l.length (fcells l)) (hl : l.length ≤ 4194304)
    (hx : act.eval x = .slice (some ⟨w0.heap.size, 0, none⟩) 1 1) (hw : w = w0.alloc (.cells f.cells.toArray TF)) (hB : B ≤ w0.heap.size)
    (h : ∀ v' w', w'.ownsRow B TF 3 v' (l ++ [f]).length (fcells (l ++ [f])) → Upd w0.heap.size v v' w0 w' → K (act.put o.dst v') w') : if Region.wanted o (yielded ops act.tmps) = true then Oper.wp Tryd.prog o act w K Q else E := by
  have hwt : Region.wanted o (yielded ops act.tmps) = true := by simp [Region.wanted, hgd]
  rw [if_pos hwt]
  obtain ⟨i0, hi0, hz0, hz1, hz2⟩ := info_parts hi
  subst hw
  have hlt : ∀ k, v.ownBlock = some k → k < w0.heap.size := fun k hk => (hown.lt k hk).2
  refine wp_append_fresh s x t ho B TF i0 _ 3 40 ht hi0 hz0 hz1 hz2 rfl (by decide) v l.length (fcells l) hs (hown.alloc _) ⟨w0.heap.size, 0, none⟩ 1 1 f.cells hx rfl (news_any rfl) ?_ (by decide) ?_ ?_ ?_ fun v' w' h1 h2 h3 => h v' w' ?_ ?_
  · intro u hu
    simp only [Fl.cells, List.mem_cons, List.not_mem_nil, or_false] at hu
    rcases hu with rfl | rfl | rfl <;> rfl
  · unfold maxLen; omega
  · omega
  · simp; omega
  · rw [fcells_app, List.length_append, List.length_singleton]
    simpa [fcells] using h1
  · have hs2 := h2.size
    simp only [World.size_alloc] at hs2
    refine ⟨h2.os, h2.output, by omega, fun k hk _ hv => (h2.block k (by simp; omega) fun e => hv e.symm).trans (Below.heap_alloc _ _ _ hk), fun k hk => ?_⟩
    rcases h3 with h3 | h3
    · exact .inl (h3 ▸ hk)
    · rw [h3] at hk
      simp only [World.size_alloc, Option.some.injEq] at hk
      exact .inr (by omega)
/-- The files behind a Rename. -/
def renF (a b : ByteArray) (l : List Fl) : List Fl :=
  if findF a l 0 < 0 ∨ a = b then l else woF b (woF a l) ++ [{ l.getD (findF a l 0).toNat fl0 with name := b }]
def Dsk.rename (d : Dsk) (a b : ByteArray) : Dsk := if d.stopped then d.stepd else { d.stepd with files := renF a b d.files }
/-- A disk, and a variable with a file. -/
structure Rn (B TD TF : Nat) (w : World) (p : Nat) (v : Value) (q : Nat) (f : Fl) (d : Dsk) (v' : Value) (w' : World) : Prop where
  dat : DAt B TD TF w' p v' d
  upd : Upd p v v' w w'
  row : w'.heap[q]? = some (.cells f.cells.toArray TF (0, 0))
  ne : v'.ownBlock ≠ some q
theorem Rn.cells {B TD TF : Nat} {w : World} {p : Nat} {v : Value} {q : Nat} {f : Fl} {d : Dsk} {v' : Value} {w' : World} (h : Rn B TD TF w p v q f d v' w') : w'.cell? ⟨q, 0, none⟩ = some (.string f.name) ∧ w'.cell? ⟨q, 1, none⟩ = some (.string f.data) ∧ w'.cell? ⟨q, 2, none⟩ = some (.int .i64 (f.safe : Int)) ∧ w'.frozen? ⟨q, 0, none⟩ = false :=
  ⟨by rw [cell_of_row _ _ _ _ _ _ h.row]; rfl, by rw [cell_of_row _ _ _ _ _ _ h.row]; rfl, by rw [cell_of_row _ _ _ _ _ _ h.row]; rfl, frozen_of_row _ _ _ _ _ h.row⟩
/-- A new row is stored into the disk. -/
theorem Rn.wo {B TD TF : Nat} {w : World} {p : Nat} {v : Value} {q : Nat} {f : Fl} {d : Dsk} {v' : Value} {w' : World} (h : Rn B TD TF w p v q f d v' w') (ht : TF ≠ TD) (hB : B ≤ w'.heap.size) {v2 : Value} {w2 : World} {fs : List Fl} (hw : Wo TF w' v2 fs w2) :
    Rn B TD TF w p v q f { d with files := fs } v2 (w2.setCell ⟨p, 0, none⟩ v2) ∧ w2.cell? ⟨p, 0, none⟩ = some v' ∧ w2.frozen? ⟨p, 0, none⟩ = false := by
  have hql : q < w'.heap.size := (Array.getElem?_eq_some_iff.1 h.row).1
  have hqp : q ≠ p := fun e => by
    have h1 := h.row
    rw [e, h.dat.at'] at h1
    simp only [Option.some.injEq, Obj.cells.injEq] at h1
    exact ht h1.2.1.symm
  have h3 := hw.set h.dat ht hB
  have hat := (hw.kept.block _ h.dat.lt).trans h.dat.at'
  refine ⟨⟨h3.1, h.upd.trans h3.2, ?_, fun e => ?_⟩, by rw [cell_of_row _ _ _ _ _ _ hat]; rfl, frozen_of_row _ _ _ _ _ hat⟩
  · rw [heap_setCell_other _ _ _ _ hqp, hw.kept.block _ hql]; exact h.row
  · have := (hw.own.lt q e).1; omega
/-- The variable's name is another. -/
theorem Rn.name {B TD TF : Nat} {w : World} {p : Nat} {v : Value} {q : Nat} {f : Fl} {d : Dsk} {v' : Value} {w' : World} (h : Rn B TD TF w p v q f d v' w') (ht : TF ≠ TD) (hq : w.heap.size ≤ q) (b : ByteArray) :
    Rn B TD TF w p v q { f with name := b } d v' (w'.setCell ⟨q, 0, none⟩ (.string b)) := by
  have hqp : p ≠ q := fun e => by
    have h1 := h.row
    rw [← e, h.dat.at'] at h1
    simp only [Option.some.injEq, Obj.cells.injEq] at h1
    exact ht h1.2.1.symm
  refine ⟨⟨by rw [heap_setCell_other _ _ _ _ hqp]; exact h.dat.at', own_blocks h.dat.own fun k hk => heap_setCell_other _ _ _ _ fun e => h.ne (by rw [hk, e])⟩, ?_, by rw [heap_setCell_same _ _ _ _ _ _ h.row]; rfl, h.ne⟩
  exact ⟨h.upd.os, h.upd.output, by simpa using h.upd.size, fun k hk h1 h2 => (heap_setCell_other _ _ _ _ (by show k ≠ q; omega)).trans (h.upd.block k hk h1 h2), h.upd.new⟩
/-- The variable's file is put behind the others. -/
theorem Rn.app {B TD TF : Nat} {w : World} {p : Nat} {v : Value} {q : Nat} {f : Fl} {d : Dsk} {v' : Value} {w' : World} (h : Rn B TD TF w p v q f d v' w') (ht : TF ≠ TD) {v2 : Value} {w2 : World}
    (ho : w2.ownsRow B TF 3 v2 (d.files ++ [f]).length (fcells (d.files ++ [f]))) (hu : Upd w'.heap.size v' v2 w' w2) :
    (DAt B TD TF (w2.setCell ⟨p, 0, none⟩ v2) p v2 { d with files := d.files ++ [f] } ∧ Upd p v v2 w (w2.setCell ⟨p, 0, none⟩ v2)) ∧ w2.cell? ⟨p, 0, none⟩ = some v' ∧ w2.frozen? ⟨p, 0, none⟩ = false := by
  have hat := hu.at (Nat.le_refl _) h.dat.lt (h.dat.apart ht)
  have h3 := h.dat.set0 ht hat ho (hu.any (Nat.le_refl _))
  have hat' := hat.trans h.dat.at'
  exact ⟨⟨h3.1, h.upd.trans h3.2⟩, by rw [cell_of_row _ _ _ _ _ _ hat']; rfl, frozen_of_row _ _ _ _ _ hat'⟩
theorem Rn.kept {B TD TF : Nat} {w : World} {p : Nat} {v : Value} {q : Nat} {f : Fl} {d : Dsk} {v' : Value} {w' wx : World} (h : Rn B TD TF w p v q f d v' w') (hk : Kept w'.heap.size w' wx) : Rn B TD TF w p v q f d v' wx :=
  ⟨h.dat.kept hk, h.upd.trans (.of_kept hk), (hk.block _ (Array.getElem?_eq_some_iff.1 h.row).1).trans h.row, h.ne⟩
theorem Rn.start {B TD TF : Nat} {w : World} {p : Nat} {v v1 : Value} {f : Fl} {d : Dsk} {w1 : World} (h : DAt B TD TF w1 p v1 d) (hu : Upd p v v1 w w1) : Rn B TD TF w p v w1.heap.size f d v1 (w1.alloc (.cells f.cells.toArray TF)) :=
  ⟨h.kept ((Kept.refl _ _).alloc (Nat.le_refl _) _), hu.trans (.of_kept ((Kept.refl _ _).alloc (Nat.le_refl _) _)), heap_alloc_new _ _, fun e => by have := (h.own.lt _ e).2; omega⟩
set_option maxRecDepth 100000 in
set_option maxHeartbeats 2000000 in
theorem rename_ref (B : Nat) (w : World) (p : Nat) (v : Value) (d : Dsk) (a b : ByteArray) (h : DAt B 99 113 w p v d) (hB : B ≤ w.heap.size) (hl : -1 ≤ d.left ∧ d.left ≤ 9223372036854775807) (hf : d.files.length ≤ 4194303) :
    Calls Tryd.prog 43 #[.pointer (some ⟨p, 0, none⟩), .string a, .string b] w (stEnd B 99 113 w p v d (!d.stopped) (d.rename a b)) := by
  have hst := step_ref B w p v d h hl
  by_cases hS : d.stopped = true
  · rw [hS] at hst
    have HA := hide (show d.rename a b = d.stepd from by rw [Dsk.rename, if_pos hS])
    have hfs := stepd_files d
    generalize d.stepd = d1 at HA hst hfs
    rw [← hfs] at hf
    clear h hfs
    go_enter Tryd.func43, Tryd.ntmps43
    go_wp2_with fail
    refine hst.mono ?_
    rintro _ w1 ⟨rfl, v1, h1⟩
    have H1 := hide h1
    clear h1
    go_wp2_with fail
    refine (file_ref B w1 p v1 d1 a (unhide H1).1 (by omega)).mono ?_
    rintro _ _ ⟨rfl, rfl⟩
    go_wp2
    all_goals go_ret
    all_goals exact stEnd_of (by rw [hS]; rfl) (unhide HA).symm (unhide H1)
  · have hSf : d.stopped = false := by simpa using hS
    rw [hSf] at hst
    have HA := hide (show d.rename a b = { d.stepd with files := renF a b d.files } from by rw [Dsk.rename, if_neg hS])
    clear h hS
    go_enter Tryd.func43, Tryd.ntmps43
    go_wp2_with fail
    refine hst.mono ?_
    rintro _ w1 ⟨rfl, v1, h1, u1⟩
    have hfs := stepd_files d
    generalize d.stepd = d1 at HA h1 hfs
    rw [← hfs] at hf HA
    have hB1 : B ≤ w1.heap.size := Nat.le_trans hB u1.size
    have H1 := hide (And.intro h1 u1)
    clear hst u1 h1 hfs
    go_wp2_with fail
    refine (file_ref B w1 p v1 d1 a (unhide H1).1 (by omega)).mono ?_
    rintro _ _ ⟨rfl, rfl⟩
    rename_i w1
    obtain ⟨ao, cap, rfl, hcap, hao⟩ := own_len (unhide H1).1.own
    have h0 := (unhide H1).1.c0
    rcases findF_cases a d1.files 0 with ⟨hn, _⟩ | ⟨i, hi, hn, _⟩
    · have HAP := hide (show renF a b d1.files = d1.files from by rw [renF, if_pos (.inl (by rw [hn]; decide))])
      rw [hn]
      clear hn
      go_wp2
      all_goals go_ret
      all_goals exact stEnd_of (by simp [hSf]) (by rw [unhide HA, unhide HAP]) (unhide H1)
    · by_cases hab : a = b
      · have HAP := hide (show renF a b d1.files = d1.files from by rw [renF, if_pos (.inr hab)])
        rw [hn, Nat.zero_add]
        have hq : (a.toList == b.toList) = true := by rw [hab]; simp
        clear hn
        go_wp2
        all_goals go_ret
        all_goals exact stEnd_of (by simp [hSf]) (by rw [unhide HA, unhide HAP]) (unhide H1)
      · have HAP := hide (show renF a b d1.files = woF b (woF a d1.files) ++ [{ d1.files.getD i fl0 with name := b }] from by rw [renF, if_neg (by rw [hn]; simp [hab]), hn, Nat.zero_add, Int.toNat_natCast])
        rw [hn, Nat.zero_add]
        have hq : (a.toList == b.toList) = false := by rw [str_eq]; simpa using hab
        clear hn
        obtain ⟨g, rfl⟩ := hao (by omega)
        have hiI : (i : Int) < (d1.files.length : Int) := by omega
        have hi0 : (0 : Int) ≤ (i : Int) := by omega
        have hc : w1.cell? ⟨g, i * 3, none⟩ = some (.string (d1.files.getD i fl0).name) := by have := own_file (unhide H1).1.own hi (j := 0) (by omega); simpa [Fl.cells] using this
        have hc1 : w1.cell? ⟨g, i * 3 + 1, none⟩ = some (.string (d1.files.getD i fl0).data) := by have := own_file (unhide H1).1.own hi (j := 1) (by omega); simpa [Fl.cells] using this
        have hc2 : w1.cell? ⟨g, i * 3 + 2, none⟩ = some (.int .i64 ((d1.files.getD i fl0).safe : Int)) := by have := own_file (unhide H1).1.own hi (j := 2) (by omega); simpa [Fl.cells] using this
        generalize d1.files.getD i fl0 = f at hc hc1 hc2 HAP
        obtain ⟨m, dt, sf⟩ := f
        simp only at hc hc1 hc2
        have R0 := hide (show Rn B 99 113 w p v w1.heap.size ⟨m, dt, sf⟩ d1 (.slice (some ⟨g, 0, none⟩) d1.files.length cap) (w1.alloc (.cells #[.string m, .string dt, .int .i64 (sf : Int)] 113)) from Rn.start (unhide H1).1 (unhide H1).2)
        have hwq : w.heap.size ≤ w1.heap.size := (unhide H1).2.size
        go_wp2_with fail
        refine (without_ref B _ p _ d1 a (unhide R0).dat (by omega)).mono ?_
        rintro _ w2 ⟨v2, rfl, hw2⟩
        have r1 := (unhide R0).wo (by decide) (by simp; omega) hw2
        obtain ⟨a2, c2, rfl, _, _⟩ := own_len hw2.own
        have hp2 := r1.2.1
        have hz2 := r1.2.2
        have R1 := hide r1.1
        have hB2 : B ≤ (w2.setCell ⟨p, 0, none⟩ (.slice a2 (woF a d1.files).length c2)).heap.size := by
          have := hw2.kept.size
          simp at this ⊢; omega
        clear r1 hw2 R0 hc hc1 hc2 h0
        go_wp2_with fail
        generalize w2.setCell ⟨p, 0, none⟩ (.slice a2 (woF a d1.files).length c2) = w3 at R1 hB2 ⊢
        refine (without_ref B w3 p _ _ b (unhide R1).dat (by have := woF_len a d1.files; show (woF a d1.files).length ≤ _; omega)).mono ?_
        rintro _ w4 ⟨v4, rfl, hw4⟩
        have r2 := (unhide R1).wo (by decide) hB2 hw4
        obtain ⟨a4, c4, rfl, _, _⟩ := own_len hw4.own
        have hp4 := r2.2.1
        have hz4 := r2.2.2
        have R2 := hide r2.1
        have hw3q : w1.heap.size < w3.heap.size := (Array.getElem?_eq_some_iff.1 (unhide R1).row).1
        clear r2 hw4 hp2 hz2
        have R3 := hide ((unhide R2).name (by decide) hwq b)
        have hq4 := (unhide R2).cells
        obtain ⟨hq40, hq41, hq42, hq4z⟩ := hq4
        go_wp2_with fail
        have hB6 : B ≤ ((w4.setCell ⟨p, 0, none⟩ (.slice a4 (woF b (woF a d1.files)).length c4)).setCell ⟨w1.heap.size, 0, none⟩ (.string b)).drew.heap.size := Nat.le_trans hB (unhide R3).upd.size
        generalize (w4.setCell ⟨p, 0, none⟩ (.slice a4 (woF b (woF a d1.files)).length c4)).setCell ⟨w1.heap.size, 0, none⟩ (.string b) = w6 at R3 hB6 ⊢
        clear hq40 hq41 hq42 hq4z R2 hp4 hz4
        have R4 := hide ((unhide R3).kept (wx := w6.drew) ((Kept.refl _ _).draws 1))
        obtain ⟨hd0, hd1, hd2, _⟩ := (unhide R4).cells
        have hdp := (unhide R4).dat.c0
        have hdpa := ((unhide R4).dat.kept ((Kept.refl _ _).alloc (Nat.le_refl _) (.cells #[.string b, .string dt, .int .i64 (sf : Int)] 113))).c0
        have hdpb : (w6.alloc (.cells #[.string b, .string dt, .int .i64 (sf : Int)] 113)).cell? ⟨p, 0, none⟩ = some (.slice a4 (woF b (woF a d1.files)).length c4) := hdpa
        have hdpc : (w6.alloc (.cells #[.string b, .string dt, .int .i64 (sf : Int)] 113)).drew.cell? ⟨p, 0, none⟩ = some (.slice a4 (woF b (woF a d1.files)).length c4) := hdpa
        have hll : (woF b (woF a d1.files)).length ≤ 4194303 := Nat.le_trans (Nat.le_trans (woF_len _ _) (woF_len _ _)) hf
        go_region_law (refine step_append_file rfl (.tmp 52) (.tmp 54) 97 113 rfl B Tryd.underlying97 info113 (.slice a4 (woF b (woF a d1.files)).length c4) (woF b (woF a d1.files)) ⟨b, dt, sf⟩ w6.drew (by simp [Act.eval]) (unhide R4).dat.own (by omega) (by simp [Act.eval]) rfl hB6 ?_; intro v7 w7 ho7 u7; obtain ⟨g7, c7, rfl⟩ := own_one ho7; have r5 := (unhide R4).app (by decide) ho7 u7; have hp7 := r5.2.1; have hz7 := r5.2.2; have R5 := hide r5.1; clear r5 ho7 u7)
        all_goals go_wp2_with fail
        all_goals go_ret
        all_goals exact stEnd_of (by simp) (by rw [unhide HA, unhide HAP]) (unhide R5)
end Go.Proofs.YtfodibjlldmnpaaDoor
/-
  Disks: Rename, the code's.
-/
namespace Go.Proofs.YtfodibjlldmnpaaDoor
open Go.RowKit

theorem wo2_snoc (a b : ByteArray) (l : List Fl) {i : Nat} (hi : i < l.length) : woF b (woF a (l.take (i + 1))) = woF b (woF a (l.take i)) ++ (if (l.getD i fl0).name = a ∨ (l.getD i fl0).name = b then [] else [l.getD i fl0]) := by
  rw [woF_snoc a l hi]
  by_cases ha : (l.getD i fl0).name = a
  · rw [if_pos ha, if_pos (.inl ha), List.append_nil, List.append_nil]
  · rw [if_neg ha, woF, List.filter_append]
    by_cases hb : (l.getD i fl0).name = b
    · rw [if_pos (.inr hb), List.filter_cons, if_neg (by rw [hb]; simp), List.filter_nil]; rfl
    · rw [if_neg (fun h => h.elim ha hb), List.filter_cons, if_pos (by rw [decide_eq_false hb]; rfl), List.filter_nil]; rfl
set_option maxRecDepth 100000 in
set_option maxHeartbeats 4000000 in
theorem rename_go (B : Nat) (w : World) (p : Nat) (v : Value) (d : Dsk) (a b : ByteArray) (h : DAt B 96 111 w p v d) (hB : B ≤ w.heap.size) (hl : -1 ≤ d.left ∧ d.left ≤ 9223372036854775807) (hf : d.files.length ≤ 4194303) :
    Calls Tryd.prog 42 #[.pointer (some ⟨p, 0, none⟩), .string a, .string b] w (stEnd B 96 111 w p v d (!d.stopped) (d.rename a b)) := by
  have hst := step_go B w p v d h hl
  by_cases hS : d.stopped = true
  · rw [hS] at hst
    have HA := hide (show d.rename a b = d.stepd from by rw [Dsk.rename, if_pos hS])
    clear h
    go_enter Tryd.func42, Tryd.ntmps42
    go_wp2_with fail
    refine hst.mono ?_
    rintro _ w1 ⟨rfl, v1, h1⟩
    go_wp2
    all_goals go_ret
    all_goals exact stEnd_of (by rw [hS]; rfl) (unhide HA).symm h1
  · have hSf : d.stopped = false := by simpa using hS
    rw [hSf] at hst
    have HA := hide (show d.rename a b = { d.stepd with files := renF a b d.files } from by rw [Dsk.rename, if_neg hS])
    clear h hS
    go_enter Tryd.func42, Tryd.ntmps42
    go_wp2_with fail
    refine hst.mono ?_
    rintro _ w1 ⟨rfl, v1, h1, u1⟩
    have hfs := stepd_files d
    generalize d.stepd = d1 at HA h1 hfs
    rw [← hfs] at hf HA
    have hB1 : B ≤ w1.heap.size := Nat.le_trans hB u1.size
    have H1 := hide (And.intro h1 u1)
    clear hst u1 h1 hfs
    go_wp2_with fail
    refine (find_go B w1 p v1 d1 a (unhide H1).1 (by omega)).mono ?_
    rintro _ _ ⟨rfl, rfl⟩
    rename_i w1
    obtain ⟨ao, cap, rfl, hcap, hao⟩ := own_len (unhide H1).1.own
    have h0 := (unhide H1).1.c0
    rcases findF_cases a d1.files 0 with ⟨hn, _⟩ | ⟨i, hi, hn, _⟩
    · have HAP := hide (show renF a b d1.files = d1.files from by rw [renF, if_pos (.inl (by rw [hn]; decide))])
      rw [hn]
      clear hn
      go_wp2
      all_goals go_ret
      all_goals exact stEnd_of (by simp [hSf]) (by rw [unhide HA, unhide HAP]) (unhide H1)
    · by_cases hab : a = b
      · have HAP := hide (show renF a b d1.files = d1.files from by rw [renF, if_pos (.inr hab)])
        rw [hn, Nat.zero_add]
        have hq : (a.toList == b.toList) = true := by rw [hab]; simp
        clear hn
        go_wp2
        all_goals go_ret
        all_goals exact stEnd_of (by simp [hSf]) (by rw [unhide HA, unhide HAP]) (unhide H1)
      · have HAP := hide (show renF a b d1.files = woF b (woF a d1.files) ++ [{ d1.files.getD i fl0 with name := b }] from by rw [renF, if_neg (by rw [hn]; simp [hab]), hn, Nat.zero_add, Int.toNat_natCast])
        rw [hn, Nat.zero_add]
        have hq : (a.toList == b.toList) = false := by rw [str_eq]; simpa using hab
        clear hn
        obtain ⟨g, rfl⟩ := hao (by omega)
        have hiI : (i : Int) < (d1.files.length : Int) := by omega
        have hi0 : (0 : Int) ≤ (i : Int) := by omega
        have hc : w1.cell? ⟨g, i * 3, none⟩ = some (.string (d1.files.getD i fl0).name) := by have := own_file (unhide H1).1.own hi (j := 0) (by omega); simpa [Fl.cells] using this
        have hc1 : w1.cell? ⟨g, i * 3 + 1, none⟩ = some (.string (d1.files.getD i fl0).data) := by have := own_file (unhide H1).1.own hi (j := 1) (by omega); simpa [Fl.cells] using this
        have hc2 : w1.cell? ⟨g, i * 3 + 2, none⟩ = some (.int .i64 ((d1.files.getD i fl0).safe : Int)) := by have := own_file (unhide H1).1.own hi (j := 2) (by omega); simpa [Fl.cells] using this
        generalize d1.files.getD i fl0 = f at hc hc1 hc2 HAP
        obtain ⟨m, dt, sf⟩ := f
        simp only at hc hc1 hc2
        have R0 := hide (show Rn B 96 111 w p v w1.heap.size ⟨b, dt, sf⟩ d1 (.slice (some ⟨g, 0, none⟩) d1.files.length cap) (w1.alloc (.cells #[.string b, .string dt, .int .i64 (sf : Int)] 111)) from Rn.start (unhide H1).1 (unhide H1).2)
        have hp0 := (unhide R0).dat.c0
        go_wp2_with fail
        clear hc hc1 hc2
        clear h0
        have hB2 : B ≤ (w1.alloc (.cells #[.string b, .string dt, .int .i64 (sf : Int)] 111)).heap.size := by simp; omega
        generalize w1.alloc (.cells #[.string b, .string dt, .int .i64 (sf : Int)] 111) = w2 at R0 hp0 hB2 ⊢
        go_loopw [39, 9] (fun vi vl wr => ∃ k : Nat, k ≤ d1.files.length ∧ vi = .int .i64 k ∧ Wo 111 w2 vl (woF b (woF a (d1.files.take k))) wr) (fun vi _ _ => d1.files.length - (intOf vi).toNat)
        case atStart => exact ⟨0, Nat.zero_le _, rfl, ⟨World.ownsRow_nil _ _ _ _, Kept.refl _ _⟩⟩
        case round =>
          obtain ⟨k, hk, rfl, hwo⟩ := hrel
          have hr := (unhide R0).kept hwo.kept
          have HW := hide hwo
          have HR := hide hr
          clear hwo hr
          have hwl : (woF b (woF a (d1.files.take k))).length ≤ 4194303 := Nat.le_trans (Nat.le_trans (woF_len _ _) (woF_len _ _)) (by rw [List.length_take]; omega)
          by_cases hlt : k < d1.files.length
          · have hkI : (k : Int) < (d1.files.length : Int) := by omega
            have hk0 : (0 : Int) ≤ (k : Int) := by omega
            have HS := hide (wo2_snoc a b d1.files hlt)
            have hc : wr.cell? ⟨g, k * 3, none⟩ = some (.string (d1.files.getD k fl0).name) := by have := own_file (unhide HR).dat.own hlt (j := 0) (by omega); simpa [Fl.cells] using this
            have hc1 : wr.cell? ⟨g, k * 3 + 1, none⟩ = some (.string (d1.files.getD k fl0).data) := by have := own_file (unhide HR).dat.own hlt (j := 1) (by omega); simpa [Fl.cells] using this
            have hc2 : wr.cell? ⟨g, k * 3 + 2, none⟩ = some (.int .i64 ((d1.files.getD k fl0).safe : Int)) := by have := own_file (unhide HR).dat.own hlt (j := 2) (by omega); simpa [Fl.cells] using this
            generalize d1.files.getD k fl0 = f at hc hc1 hc2 HS
            obtain ⟨m', dt', sf'⟩ := f
            simp only at hc hc1 hc2
            have HWA := hide ((unhide HW).next ((Kept.refl _ _).alloc (Nat.le_refl _) (.cells #[.string m', .string dt', .int .i64 (sf' : Int)] 111)))
            by_cases hma : m' = a
            · have hqa : (m'.toList == a.toList) = true := by rw [hma]; simp
              have HE := hide (show m' = a ∨ m' = b from .inl hma)
              clear hma
              go_wp2
              go_roundw
              case rel => exact ⟨k + 1, by omega, by go_num, by rw [unhide HS, if_pos (unhide HE), List.append_nil]; exact unhide HWA⟩
              case measure => simp [intOf]; omega
            · have hqa : (m'.toList == a.toList) = false := by rw [str_eq]; simpa using hma
              by_cases hmb : m' = b
              · have hqb : (m'.toList == b.toList) = true := by rw [hmb]; simp
                have HE := hide (show m' = a ∨ m' = b from .inr hmb)
                clear hmb hma
                go_wp2
                go_roundw
                case rel => exact ⟨k + 1, by omega, by go_num, by rw [unhide HS, if_pos (unhide HE), List.append_nil]; exact unhide HWA⟩
                case measure => simp [intOf]; omega
              · have hqb : (m'.toList == b.toList) = false := by rw [str_eq]; simpa using hmb
                obtain ⟨al, capl, rfl, hcapl, hal⟩ := own_len (unhide HW).own
                go_wp2_with (refine wpList_halt2 (.tmp 53) (.tmp 55) 94 rfl ?_)
                refine Stp.mk ?_
                refine wpList_append_file rfl (.tmp 53) (.tmp 55) 94 111 rfl w2.heap.size Tryd.underlying94 info111 _ (woF b (woF a (d1.files.take k))) ⟨m', dt', sf'⟩ (wr.alloc (.cells #[.string m', .string dt', .int .i64 (sf' : Int)] 111)) rfl (unhide HWA).own (by omega) (by rw [World.size_alloc]; rfl) rfl (unhide HWA).kept.size ?_
                intro v3 w3 ho3 u3
                have HW3 := hide ((unhide HWA).app (unhide HWA).kept ho3 u3)
                clear ho3 u3
                simp only [Act.put, List.setIfInBounds_toArray, List.set_cons_zero, List.set_cons_succ]
                go_wp2
                go_roundw
                case rel => exact ⟨k + 1, by omega, by go_num, by rw [unhide HS, if_neg (fun h => h.elim hma hmb)]; exact unhide HW3⟩
                case measure => simp [intOf]; omega
          · have hkI : ¬ (k : Int) < (d1.files.length : Int) := by omega
            have HT := hide (List.take_of_length_le (l := d1.files) (i := k) (by omega))
            rw [unhide HT] at HW hwl
            obtain ⟨hd0, hd1, hd2, _⟩ := (unhide HR).cells
            have hdp := (unhide HR).dat.c0
            obtain ⟨al, capl, rfl, hcapl, hal⟩ := own_len (unhide HW).own
            go_wp2_with (refine wpList_halt2 (.tmp 59) (.tmp 61) 94 rfl ?_)
            refine Stp.mk ?_
            refine wpList_append_file rfl (.tmp 59) (.tmp 61) 94 111 rfl w2.heap.size Tryd.underlying94 info111 _ (woF b (woF a d1.files)) ⟨b, dt, sf⟩ wr rfl (unhide HW).own (by omega) rfl rfl (unhide HW).kept.size ?_
            intro v3 w3 ho3 u3
            have hw3 := (unhide HW).app (unhide HW).kept ho3 u3
            have h3 := hw3.set (unhide R0).dat (by decide) hB2
            have hat := (hw3.kept.block _ (unhide R0).dat.lt).trans (unhide R0).dat.at'
            have hp3 : w3.cell? ⟨p, 0, none⟩ = some (.slice (some ⟨g, 0, none⟩) d1.files.length cap) := by rw [cell_of_row _ _ _ _ _ _ hat]; rfl
            have hz3 : w3.frozen? ⟨p, 0, none⟩ = false := frozen_of_row _ _ _ _ _ hat
            obtain ⟨g3, c3, rfl⟩ := own_one ho3
            have H3 := hide (And.intro h3.1 ((unhide R0).upd.trans h3.2))
            clear h3 hw3 hat ho3 u3
            simp only [Act.put, List.setIfInBounds_toArray, List.set_cons_zero, List.set_cons_succ]
            go_wp2
            all_goals go_ret
            all_goals exact stEnd_of (by simp [hSf]) (by rw [unhide HA, unhide HAP]) (unhide H3)
end Go.Proofs.YtfodibjlldmnpaaDoor
