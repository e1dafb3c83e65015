/-
  Ob Eh Oc Ka Kb Kc Ke Kf
-/
import Derived.Test.YtlbacbcenejngaaGreatDoorH31
import Derived.Test.YtlbacbcenejngaaGreatDoorH19
import Derived.Test.YtlbacbcenejngaaGreatDoorH25
namespace Go.Proofs.YtlbacbcenejngaaGreatDoor
open Go.RowKit
theorem read0 : dsk0.read ⟨#[106, 111, 117, 114, 110, 97, 108]⟩ = .empty := rfl
set_option maxRecDepth 100000 in
set_option maxHeartbeats 1000000 in
theorem mend_go (B : Nat) (w : World) (jp dp : Nat) (dv : Value) (hj : w.heap[jp]? = some (.cells #[.pointer (some ⟨dp, 0, none⟩)] 143 (0, 0))) (h : DAt B 117 149 w dp dv dsk0) :
    Calls Tryz.prog 92 #[.pointer (some ⟨jp, 0, none⟩)] w fun e w' => e = .returned (.bool true) ∧ Kept w.heap.size w w' := by
  have hc : w.cell? ⟨jp, 0, none⟩ = some (.pointer (some ⟨dp, 0, none⟩)) := by rw [cell_of_row _ _ _ _ _ _ hj]; rfl
  have he : (ByteArray.empty).toList.isEmpty = true := emp_yes rfl
  go_enter Tryz.func92, Tryz.ntmps92
  go_wp2_with fail
  refine (read_go B w dp dv dsk0 _ h (by decide)).mono ?_
  rintro _ wq ⟨rfl, hwq⟩
  obtain rfl : w = wq := hwq.symm
  rw [read0]
  go_wp2_with fail
  refine (readJ_go w).mono ?_
  rintro _ w1 ⟨rfl, hk1⟩
  have HK := hide hk1
  clear hk1
  go_wp2_with fail
  go_ret
  exact ⟨rfl, unhide HK⟩
set_option maxRecDepth 100000 in
set_option maxHeartbeats 1000000 in
theorem jopen_go (B : Nat) (w : World) (dp : Nat) (dv : Value) (h : DAt B 117 149 w dp dv dsk0) :
    Calls Tryz.prog 61 #[.pointer (some ⟨dp, 0, none⟩)] w fun e w' => e = .returned (.tuple #[.pointer (some ⟨w.heap.size, 0, none⟩), .bool true]) ∧ w'.heap[w.heap.size]? = some (.cells #[.pointer (some ⟨dp, 0, none⟩)] 143 (0, 0)) ∧ Kept w.heap.size w w' := by
  obtain ⟨w1, hw1⟩ : ∃ w1, w1 = w.alloc (.cells #[.pointer (some ⟨dp, 0, none⟩)] 143) := ⟨_, rfl⟩
  have hj1 : w1.heap[w.heap.size]? = some (.cells #[.pointer (some ⟨dp, 0, none⟩)] 143 (0, 0)) := by rw [hw1]; exact heap_alloc_new _ _
  have HK1 := hide (show Kept w.heap.size w w1 by rw [hw1]; exact (Kept.refl _ _).alloc (Nat.le_refl _) _)
  have H1 := hide (h.kept (unhide HK1))
  have hz1 : w.heap.size < w1.heap.size := by rw [hw1]; simp
  clear h
  go_enter Tryz.func61, Tryz.ntmps61
  go_upto_region 2 with fail
  rw [← hw1]
  clear hw1
  go_wp2_with fail
  refine (stopped_go B w1 dp dv dsk0 (unhide H1)).mono ?_
  rintro _ wq ⟨rfl, hwq⟩
  obtain rfl : w1 = wq := hwq.symm
  rw [show dsk0.stopped = false from rfl]
  go_wp2_with fail
  refine (mend_go B w1 w.heap.size dp dv hj1 (unhide H1)).mono ?_
  rintro _ w2 ⟨rfl, hk2⟩
  have HJ := hide ((hk2.block _ hz1).trans hj1)
  have HK2 := hide ((unhide HK1).trans (hk2.mono (by omega)))
  clear hk2
  go_wp2_with fail
  go_ret2
  exact ⟨rfl, unhide HJ, unhide HK2⟩
set_option maxRecDepth 100000 in
set_option maxHeartbeats 1000000 in
theorem requests_go (B : Nat) (w : World) (jp dp : Nat) (dv : Value) (hj : w.heap[jp]? = some (.cells #[.pointer (some ⟨dp, 0, none⟩)] 143 (0, 0))) (h : DAt B 117 149 w dp dv dsk0) :
    Calls Tryz.prog 65 #[.pointer (some ⟨jp, 0, none⟩), .slice none 0 0] w fun e w' => e = .returned (.slice none 0 0) ∧ Kept w.heap.size w w' := by
  have hc : w.cell? ⟨jp, 0, none⟩ = some (.pointer (some ⟨dp, 0, none⟩)) := by rw [cell_of_row _ _ _ _ _ _ hj]; rfl
  have hmm := @run_makeMap Tryz.prog
  go_enter Tryz.func65, Tryz.ntmps65
  go_wp2_with fail
  refine (read_go B w dp dv dsk0 _ h (by decide)).mono ?_
  rintro _ wq ⟨rfl, hwq⟩
  obtain rfl : w = wq := hwq.symm
  rw [read0]
  go_wp2_with fail
  refine (readJ_go w).mono ?_
  rintro _ w1 ⟨rfl, hk1⟩
  have HK := hide (hk1.alloc hk1.size (.map #[] 0))
  clear hk1
  go_wp2_with fail
  generalize w1.alloc (.map #[] 0) = w2 at *
  go_loopw [27] (fun vi wr => vi = .int .i64 0 ∧ wr = w2) (fun _ _ => 0)
  case atStart => exact ⟨rfl, rfl⟩
  case round =>
    obtain ⟨rfl, hwr⟩ := hrel
    obtain rfl : w2 = wr := hwr.symm
    clear hwr
    go_wp2_with fail
    go_loopw [10, 38] (fun vr vi wr => vr = .slice none 0 0 ∧ vi = .int .i64 0 ∧ wr = w2) (fun _ _ _ => 0)
    case atStart => exact ⟨rfl, rfl, rfl⟩
    case round =>
      obtain ⟨rfl, rfl, hwr⟩ := hrel
      obtain rfl : w2 = wr := hwr.symm
      clear hwr
      go_wp2_with fail
      go_ret
      exact ⟨rfl, unhide HK⟩
set_option maxRecDepth 100000 in
set_option maxHeartbeats 1000000 in
theorem digests0_go (w : World) (hT : Table w) (hz : 0 < w.heap.size) : Calls Tryz.prog 94 #[.string .empty] w fun e w' => e = .returned (.slice none 0 0) ∧ Kept w.heap.size w w' := by
  have hw0 : walkF .empty [] = ([], 0) := walkF_end rfl
  have HWK := hide (walk_go .empty w (by decide) hT hz)
  clear hT
  go_enter Tryz.func94, Tryz.ntmps94
  go_wp2_with fail
  refine (unhide HWK).mono ?_
  rintro _ w1 ⟨v, rfl, ho, hk1⟩
  rw [hw0] at ho ⊢
  obtain ⟨ao, cap, rfl, _, _⟩ := own_len ho
  have HK := hide hk1
  clear ho hk1
  simp only [List.length_nil]
  go_wp2_with fail
  go_loopw [5, 15] (fun vr vi wr => vr = .slice none 0 0 ∧ vi = .int .i64 0 ∧ wr = w1) (fun _ _ _ => 0)
  case atStart => exact ⟨rfl, rfl, rfl⟩
  case round =>
    obtain ⟨rfl, rfl, hwr⟩ := hrel
    obtain rfl : w1 = wr := hwr.symm
    clear hwr
    go_wp2_with fail
    go_ret
    exact ⟨rfl, unhide HK⟩
/-- A slice of pointers that is not empty. -/
def pcells (ps : List Nat) : List Value := ps.map fun p => .pointer (some ⟨p, 0, none⟩)
structure PSl (w : World) (v : Value) (ps : List Nat) (b o cap : Nat) : Prop where
  v : v = .slice (some ⟨b, o, none⟩) ps.length cap
  le : ps.length ≤ cap
  lt : b < w.heap.size
  c : ∀ j, j < ps.length → w.cell? ⟨b, o + j, none⟩ = some (.pointer (some ⟨ps.getD j 0, 0, none⟩))
theorem PSl.kept {w w' : World} {v : Value} {ps : List Nat} {b o cap : Nat} (h : PSl w v ps b o cap) (hk : Kept w.heap.size w w') : PSl w' v ps b o cap := ⟨h.v, h.le, Nat.lt_of_lt_of_le h.lt hk.size, fun j hj => (hk.cell (p := ⟨b, o + j, none⟩) h.lt).trans (h.c j hj)⟩
theorem info41n : (Tryz.prog.info? 41).map (fun i => (i.zero, i.size, i.bytes)) = some (some (.pointer none), 1, 8) := by kernel_rfl
theorem wpList_append_ptrs {w : World} {ops : Array Oper} {rest : List Oper} {o : Oper} {act : Act} {Q : Exit → Act → World → Prop} (hgd : o.guard = none) (s x : Operand)
    (ho : o.op = .call { callee := .builtin .append, args := #[s, x], argTypes := #[33, 33] }) (B : Nat)
    (v : Value) (hs : act.eval s = v) (n : Nat) (xs : List Value) (hown : w.ownsRow B 41 1 v n xs) (vx : Value) (ps : List Nat) (b of cap : Nat) (hL : n + ps.length ≤ 1000)
    (hx : act.eval x = vx) (hI : PSl w vx ps b of cap) (hB : B ≤ w.heap.size)
    (h : ∀ v' w', w'.ownsRow B 41 1 v' (n + ps.length) (xs ++ pcells ps) → w.grownBy w' v.ownBlock → (v'.ownBlock = v.ownBlock ∨ v'.ownBlock = some w.heap.size) → wpList Tryz.prog ops Q rest (act.put o.dst v') w') : wpList Tryz.prog ops Q (o :: rest) act w := by
  obtain ⟨i0, hi0, hz0, hz1, hz2⟩ := info_parts info41n
  obtain ⟨rfl, h1, h2, h3⟩ := hI
  refine wpList_plain hgd fun K hK => ?_
  obtain ⟨v', w', hr, h4, h5, h6⟩ := run_append_fresh2 (P := Tryz.prog) w B 33 o.type 41 i0 _ 1 8 Tryz.underlying33 hi0 hz0 hz1 hz2 rfl (by decide) v n xs hown ⟨b, of, none⟩ ps.length cap (pcells ps) (by simp [pcells]) (fun j u hu => by
    rw [pcells, List.getElem?_map] at hu
    obtain ⟨y, hy, rfl⟩ := Option.map_eq_some_iff.1 hu
    have hj := (List.getElem?_eq_some_iff.1 hy).1
    rw [add_addr, h3 j hj, List.getD_eq_getElem?_getD, hy]; rfl) (by
    intro u hu
    obtain ⟨y, _, rfl⟩ := List.mem_map.1 hu
    rfl) (by unfold maxLen; omega) (by omega) hB
  unfold Oper.wp
  simp [execOp, ho, resolve, invoke, builtin, hs, hx, hr, Result.andThen]
  exact hK _ _ (h v' w' h4 h5 h6)
set_option maxRecDepth 100000 in
set_option maxHeartbeats 1000000 in
theorem cloneS_go (w : World) (v : Value) (ps : List Nat) (b o cap : Nat) (h : PSl w v ps b o cap) (hp : ps.length ≤ 100) :
    Calls Tryz.prog 93 #[v] w fun e w' => ∃ v', e = .returned v' ∧ w'.ownsRow w.heap.size 41 1 v' ps.length (pcells ps) ∧ Kept w.heap.size w w' := by
  have HP := hide h
  have hv := h.v
  clear h
  subst hv
  have heq : (binOp .eql 33 (.slice (some ⟨b, o, none⟩) ps.length cap) (.slice none 0 0)).run Tryz.prog w = .ok (.bool false) w := by kernel_rfl
  go_enter Tryz.func93, Tryz.ntmps93
  go_wp2_with (refine wpList_halt2 (.tmp 5) (.tmp 6) 33 rfl ?_)
  refine Stp.mk ?_
  have ho0 : (w.alloc (.cells #[] 41)).ownsRow w.heap.size 41 1 (.slice (some ⟨w.heap.size, 0, none⟩) 0 0) 0 [] :=
    ⟨rfl, .inr ⟨w.heap.size, 0, #[], rfl, Nat.le_refl _, heap_alloc_new _ _, Nat.le_refl _, by decide, rfl, rfl⟩⟩
  refine wpList_append_ptrs rfl (.tmp 5) (.tmp 6) rfl w.heap.size (.slice (some ⟨w.heap.size, 0, none⟩) 0 0) rfl 0 [] ho0 _ ps b o cap (by omega) rfl ((unhide HP).kept ((Kept.refl _ _).alloc (Nat.le_refl _) _)) (by simp) ?_
  intro v2 w2 ho2 hg2 hf2
  rw [Nat.zero_add, List.nil_append] at ho2
  have HE := hide (show w2.ownsRow w.heap.size 41 1 v2 ps.length (pcells ps) ∧ Kept w.heap.size w w2 from ⟨ho2, own_grownk ((Kept.refl _ _).alloc (Nat.le_refl _) _) ho0 hg2 (by simp)⟩)
  clear ho2 hg2 hf2 ho0
  simp only [Act.put, List.setIfInBounds_toArray, List.set_cons_zero, List.set_cons_succ]
  go_wp2_with fail
  go_ret
  exact ⟨_, rfl, (unhide HE).1, (unhide HE).2⟩
set_option maxRecDepth 100000 in
set_option maxHeartbeats 1000000 in
theorem contains_go (w : World) (v : Value) (ps : List Nat) (b o cap : Nat) (h : PSl w v ps b o cap) (hp : ps.length ≤ 100) :
    Calls Tryz.prog 59 #[v, .pointer none] w fun e w' => e = .returned (.bool false) ∧ w' = w := by
  have hidx : Calls Tryz.prog 88 #[v, .pointer none] w fun e w' => e = .returned (.int .i64 (-1)) ∧ w' = w := by
    have HP := hide h
    have hv := h.v
    subst hv
    clear h
    go_enter Tryz.func88, Tryz.ntmps88
    go_wp2_with fail
    go_loopw [8] (fun vi wr => ∃ i : Nat, i ≤ ps.length ∧ vi = .int .i64 i ∧ wr = w) (fun vi _ => ps.length - (intOf vi).toNat)
    case atStart => exact ⟨0, Nat.zero_le _, rfl, rfl⟩
    case round =>
      obtain ⟨i, hi, rfl, hwr⟩ := hrel
      obtain rfl : w = wr := hwr.symm
      clear hwr
      by_cases hlt : i < ps.length
      · have hiI : (i : Int) < (ps.length : Int) := by omega
        have hi0 : (0 : Int) ≤ (i : Int) := by omega
        have hc := (unhide HP).c i hlt
        have heq : (binOp .eql 41 (.pointer none) (.pointer (some ⟨ps.getD i 0, 0, none⟩))).run Tryz.prog w = .ok (.bool false) w := by kernel_rfl
        generalize ps.getD i 0 = p at *
        go_wp2_with fail
        go_roundw
        case rel => exact ⟨i + 1, by omega, by go_num, by first | rfl | trivial⟩
        case measure => simp [intOf]; omega
      · have hiI : ¬ (i : Int) < (ps.length : Int) := by omega
        go_wp2_with fail
        go_ret
        exact ⟨rfl, rfl⟩
  go_enter Tryz.func59, Tryz.ntmps59
  go_wp2_with fail
  refine hidx.mono ?_
  rintro _ wq ⟨rfl, hwq⟩
  obtain rfl : w = wq := hwq.symm
  go_wp2_with fail
  go_ret
  exact ⟨rfl, rfl⟩
end Go.Proofs.YtlbacbcenejngaaGreatDoor
namespace Go.Proofs.YtlbacbcenejngaaGreatDoor
open Go.RowKit
/-- A vault, a request and its outcome: ahead of the entry. -/
structure DoA (B : Nat) (w : World) (vp : Nat) (g : VG) (V : Vlt) (q : Rq) (o : Oc) (F : Value) (b5 b6 : Nat) (wi : World) : Prop where
  kept : Kept w.heap.size w wi
  v : VAt B wi vp g V
  rq : RqAt wi b5 q
  ro : wi.heap[b6]? = some (.cells (ocells o.err o.more F) 86 (0, 0))
  clo : Clo B w.heap.size wi g.sp g.L q F o.ch
theorem DoA.next {B : Nat} {w wi w' : World} {vp : Nat} {g : VG} {V : Vlt} {q : Rq} {o : Oc} {F : Value} {b5 b6 : Nat} (h : DoA B w vp g V q o F b5 b6 wi) (hk : Kept wi.heap.size wi w') : DoA B w vp g V q o F b5 b6 w' :=
  ⟨h.kept.trans (hk.mono h.kept.size), h.v.kept hk, (hk.block _ h.rq.lt).trans h.rq, (hk.block _ (Array.getElem?_eq_some_iff.1 h.ro).1).trans h.ro, h.clo.kept hk⟩
theorem DoA.nx {B : Nat} {w wi : World} {vp : Nat} {g : VG} {V : Vlt} {q : Rq} {o : Oc} {F : Value} {b5 b6 d : Nat} {cs NC : Array Value} (h : DoA B w vp g V q o F b5 b6 wi) (hd : wi.heap[d]? = some (.cells cs 90 (0, 0))) (hge : w.heap.size ≤ d) : DoA B w vp g V q o F b5 b6 (wi.setRow d NC) := by
  have hst : Stay [91] wi (wi.setRow d NC) := stay_one (show TyAt wi d 90 from ⟨_, hd⟩).knd (fun k hne _ => setRow_other _ _ _ _ hne) (by decide)
  exact ⟨h.kept.trans ((Kept.refl _ _).setRow hge _), ⟨row_over h.v.at' hst (by decide), row_over h.v.jat hst (by decide), h.v.dsk.over hst (by decide), h.v.log.over hst (by decide), h.v.snk, h.v.sto.over hst (by decide), h.v.ge⟩, row_over h.rq hst (by decide), row_over h.ro hst (by decide), h.clo.over hst (by decide)⟩
def SLpre (SL : List (Loc Snk)) (m : ByteArray) : Prop := SL.length ≤ 4 ∧ (∀ e ∈ SL, e.x.data.size ≤ m.size ∧ 0 ≤ e.x.app ∧ e.x.app ≤ 2000000000 ∧ e.x.fails.length ≤ 4294967296) ∧ m.size ≤ 2147483648
theorem pickV_mem {ver : Nat} {m : Nat} : ∀ {l : List (Nat × ByteArray)} {v : ByteArray}, (∀ x ∈ l, x.2.size ≤ m) → pickV ver l = some v → v.size ≤ m
  | [], v, _, h => by cases h
  | [x], v, hl, h => by
    rw [pickV] at h
    split at h
    · cases h; exact hl x (.head _)
    · cases h
  | x :: y :: l, v, hl, h => by
    rw [pickV] at h
    split at h
    · cases h; exact hl x (.head _)
    · exact pickV_mem (fun z hz => hl z (.tail _ hz)) h
theorem readQ_rest {s : ByteArray} {q : Rq} (h : readQ s = some q) : q.rest.size ≤ s.size := by
  have hP : ∀ {q q' : Rq} {s s' : ByteArray}, rdPath q s = some (q', s') → q'.rest.size ≤ s.size := fun {q q' s s'} h => by
    unfold rdPath at h
    split at h
    · rename_i x y hx
      have := takeT_small hx
      split at h
      · cases h; exact (by omega : s'.size ≤ s.size)
      · cases h
    · cases h
  have hN : ∀ {q q' : Rq} {s s' : ByteArray}, rdNamed q s = some (q', s') → q'.rest.size ≤ s.size := fun {q q' s s'} h => by
    unfold rdNamed at h
    split at h
    · cases h; exact Nat.le_refl _
    · cases h
  have hR : ∀ {op : UInt8} {tk : ByteArray} {q' : Rq} {s s' : ByteArray}, rdOf op (rqOT op tk) s = some (q', s') → q'.rest.size ≤ s.size := fun {op tk q' s s'} h => by
    unfold rdOf at h
    split at h
    · unfold rdPut at h
      split at h
      · rename_i q1 s1 h1
        have := hP h1
        split at h
        · split at h
          · cases h; exact this
          · cases h
        · cases h
      · cases h
    · unfold rdGet at h
      split at h
      · rename_i q1 s1 h1
        have := hP h1
        split at h
        · cases h; exact this
        · cases h
      · cases h
    · exact hP h
    · unfold rdList at h
      split at h
      · cases h; show (ByteArray.empty).size ≤ _; exact Nat.zero_le _
      · cases h
    · unfold rdGrant at h
      split at h
      · rename_i q1 s1 h1
        have := hN h1
        split at h
        · split at h
          · split at h
            · cases h; exact this
            · cases h
          · cases h
        · cases h
      · cases h
    · exact hN h
    · cases h
  unfold readQ at h
  split at h
  · rename_i x y hx
    have h0 := takeB_small hx
    split at h
    · rename_i tk s2 h2
      have h1 := takeN_small h2
      split at h
      · rename_i q' s3 h3
        have h4 := hR h3
        split at h
        · cases h; omega
        · cases h
      · cases h
    · cases h
  · cases h
/-- Behind the entry: the outcome, the entry that is next; the vault may have changed. -/
structure DoC (B : Nat) (w : World) (vp : Nat) (g0 : VG) (q : Rq) (o : Oc) (F : Value) (b6 b7 : Nat) (bytes : ByteArray) (dg : List UInt8) (g : VG) (V : Vlt) (wi : World) : Prop where
  v : VAt B wi vp g V
  ro : wi.heap[b6]? = some (.cells (ocells o.err o.more F) 86 (0, 0))
  nx : wi.heap[b7]? = some (.cells (ncells bytes dg) 90 (0, 0))
  clo : Clo B w.heap.size wi g.sp g.L q F o.ch
  chg : Chg (Vft vp g0) w wi
  foot : ∀ k, Vft vp g k → Vft vp g0 k ∨ w.heap.size ≤ k
  sto : g.sp = g0.sp ∧ g.tb = g0.tb ∧ g.pb = g0.pb ∧ g.L = g0.L
  sl : g.SL.map (·.p) = g0.SL.map (·.p)
  dp : g.dp = g0.dp
theorem DoC.next {B : Nat} {w wi w' : World} {vp : Nat} {g0 g : VG} {V : Vlt} {q : Rq} {o : Oc} {F : Value} {b6 b7 : Nat} {bytes : ByteArray} {dg : List UInt8} (h : DoC B w vp g0 q o F b6 b7 bytes dg g V wi) (hk : Kept wi.heap.size wi w') : DoC B w vp g0 q o F b6 b7 bytes dg g V w' :=
  ⟨h.v.kept hk, (hk.block _ (Array.getElem?_eq_some_iff.1 h.ro).1).trans h.ro, (hk.block _ (Array.getElem?_eq_some_iff.1 h.nx).1).trans h.nx, h.clo.kept hk, h.chg.trans' hk.chg fun _ _ e => e.elim, h.foot, h.sto, h.sl, h.dp⟩
theorem alloc_snd (w : World) (a b : Obj) : ((w.alloc a).alloc b).heap[w.heap.size + 1]? = some b := by have := heap_alloc_new (w.alloc a) b; simpa only [World.size_alloc] using this
/-- What Do comes to. -/
def doEnd (B : Nat) (w : World) (vp : Nat) (g : VG) (V : Vlt) (s : ByteArray) (e : Ending) (w' : World) : Prop :=
  e = .returned (.string (V.tell s)) ∧ ∃ g', VAt B w' vp g' (V.next s) ∧ Chg (Vft vp g) w w' ∧ (∀ k, Vft vp g' k → Vft vp g k ∨ w.heap.size ≤ k) ∧ g'.SL.map (·.p) = g.SL.map (·.p) ∧ g'.dp = g.dp
theorem more_small (V : Vlt) (s : ByteArray) (h : V.sto.Ok) : (V.ask s).2.more.size ≤ 1000 := by
  have hd : ∀ q : Rq, q.Ok → (V.sto.deed q).more.size ≤ 1000 := fun q hq => by
    unfold Sto.deed
    split
    · unfold Sto.put
      split <;> split <;> simp [bs_size]
    · unfold Sto.get
      split
      · rename_i v hv
        show (txt v).size ≤ 1000
        rw [txt_size]
        have := (h.vers q.path).1
        have hm : v.size ≤ 40 := pickV_mem (h.vers q.path).1 hv
        omega
      · simp
    · unfold Sto.drop; split <;> simp
    · show (bs _).size ≤ 1000
      rw [bs_size, List.length_cons]
      have hl : (V.sto.found q.path).length ≤ 16 := by
        have := List.length_filter_le (fun n => hasPre n q.path && decide (0 < (V.sto.versOf n).length)) V.sto.names
        rw [names_len] at this
        have := h.paths
        unfold Sto.found
        omega
      have hn : ∀ n ∈ V.sto.found q.path, n.size ≤ 16 := fun n hn => by
        obtain ⟨p, hp, rfl⟩ := names_mem (List.mem_filter.1 hn).1
        exact (h.pth p hp).1
      have := fnd_sum _ hn
      rw [List.map_map] at this
      rw [List.flatMap]
      have e : (List.map (fun n => (txt n).data.toList) (V.sto.found q.path)) = (List.map ((fun x => x.data.toList) ∘ txt) (V.sto.found q.path)) := rfl
      rw [e]
      omega
    · unfold Sto.grant
      split
      · simp
      · split <;> simp
    · unfold Sto.revoke
      split
      · simp
      · split <;> simp
  unfold Vlt.ask
  split
  · rename_i q hq
    show (V.sto.ask q).more.size ≤ 1000
    unfold Sto.ask
    split
    · simp
    · split
      · simp
      · exact hd q (readQ_ok hq)
  · simp
set_option maxRecDepth 100000 in
set_option maxHeartbeats 4000000 in
theorem do_go (B : Nat) (w : World) (vp : Nat) (g : VG) (V : Vlt) (E : List ByteArray) (n : Nat) (s : ByteArray) (h : VAt B w vp g V) (hN : V.Bnd E n) (hs : s.size ≤ 549755813000) (hB : B ≤ w.heap.size) (hT : Table w) (hz : 0 < w.heap.size) :
    Calls Tryz.prog 22 #[.pointer (some ⟨vp, 0, none⟩), .string s] w (doEnd B w vp g V s) := by
  have c4 : w.cell? ⟨vp, 4, none⟩ = some (.bool false) := by rw [cell_of_row _ _ _ _ _ _ h.at']; rfl
  have HB := hide hN
  have HV := hide h
  have hms := more_small V s hN.ok.sto
  have hfit := ask_fit V s
  have HLEN := hide (fun a b c => hN.ok.lens a b c)
  have hE32 : E.length < 4294967296 := by have := hN.le; omega
  have HENT := hide (show V.entry s = bs (entL V.last V.cnt (V.ask s).1.op (Sha.tag V.key.data.toList (whoOf (V.ask s).1 s).data.toList) (V.ask s).1.path (Sha.tag V.key.data.toList (V.ask s).1.rest.data.toList) (V.ask s).2.err (Sha.tag V.key.data.toList (V.ask s).2.more.data.toList)) from rfl)
  have HTELL := hide (show ((V.lay s).2 = true → V.tell s = bs (UInt8.ofNat (V.ask s).2.err :: (V.ask s).2.more.data.toList)) ∧ ((V.lay s).2 = false → V.tell s = bs [6]) from ⟨fun e => by rw [Vlt.tell, if_pos e], fun e => by rw [Vlt.tell, if_neg (by rw [e]; simp)]⟩)
  have HNEXT := hide (show ((V.lay s).2 = true → V.next s = ⟨V.key, V.wrote s, (V.lay s).1, V.cnt + 1, Sha.digest (V.entry s).data.toList, V.sto.then (V.ask s).1 (V.ask s).2⟩) ∧ ((V.lay s).2 = false → V.next s = ⟨V.key, V.wrote s, (V.lay s).1, V.cnt, V.last, V.sto⟩) from ⟨fun e => by rw [Vlt.next, if_pos e], fun e => by rw [Vlt.next, if_neg (by rw [e]; simp)]⟩)
  have HWRO := hide (show ((V.ask s).2.ch.isSome = true → V.wrote s = (V.dsk.append jour (bs (Sha.digest (V.entry s).data.toList) ++ txt s)).sync jour) ∧ ((V.ask s).2.ch = none → V.wrote s = V.dsk) from ⟨fun e => by rw [Vlt.wrote, if_pos e], fun e => by rw [Vlt.wrote, e]; rfl⟩)
  have HTHEN := hide (show (∃ q, readQ s = some q ∧ V.ask s = (q, V.sto.ask q)) ∨ (readQ s = none ∧ V.ask s = (rq0, ⟨1, .empty, none⟩)) from by
    unfold Vlt.ask
    cases hq : readQ s with
    | none => exact .inr ⟨rfl, rfl⟩
    | some q => exact .inl ⟨q, rfl, rfl⟩)
  have hq1 : (V.ask s).1.token.size ≤ 255 ∧ (V.ask s).1.rest.size ≤ 549755813000 := by
    rcases unhide HTHEN with ⟨q, hq, e⟩ | ⟨_, e⟩
    · rw [e]
      exact ⟨(readQ_ok hq).token, by have := readQ_rest hq; show q.rest.size ≤ _; omega⟩
    · rw [e]; exact ⟨by decide, by show (ByteArray.empty).size ≤ _; decide⟩
  have HASK := hide (vask_go B w vp g.sp g.tb g.pb g.L V s _ _ _ _ h.at' h.sto hN.ok.sto hB (by omega))
  have HTB := hide (show ∀ W, Kept w.heap.size w W → Table W from fun W hW => hT.kept hW hz)
  obtain ⟨q, o, hqo⟩ : ∃ q o, V.ask s = (q, o) := ⟨_, _, rfl⟩
  rw [hqo] at HASK hms hfit HENT HTELL HNEXT HWRO HTHEN hq1
  dsimp only at hms hfit hq1
  have hkey := hN.key
  have hcnt : V.cnt < 4294967296 := by rw [hN.ok.cnt]; exact hE32
  clear h hN hT hqo
  go_enter Tryz.func22, Tryz.ntmps22
  go_wp2_with fail
  refine (unhide HASK).mono ?_
  rintro _ w1 ⟨⟨F, rfl, hF⟩, hk1⟩
  have h1F := hF.one
  have HA1 := hide (show Kept w.heap.size w w1 ∧ Clo B w.heap.size w1 g.sp g.L q F o.ch from ⟨hk1, hF⟩)
  clear hk1 hF HASK
  have HLQ := hide ((unhide HLEN) (whoOf q s).data.toList q.rest.data.toList o.more.data.toList)
  have HBY := hide (show V.entry s = bs (entL V.last V.cnt q.op (Sha.tag V.key.data.toList (whoOf q s).data.toList) q.path (Sha.tag V.key.data.toList q.rest.data.toList) o.err (Sha.tag V.key.data.toList o.more.data.toList)) from unhide HENT)
  obtain ⟨T1, hT1⟩ : ∃ T, T = Sha.tag V.key.data.toList (whoOf q s).data.toList := ⟨_, rfl⟩
  obtain ⟨T2, hT2⟩ : ∃ T, T = Sha.tag V.key.data.toList q.rest.data.toList := ⟨_, rfl⟩
  obtain ⟨T3, hT3⟩ : ∃ T, T = Sha.tag V.key.data.toList o.more.data.toList := ⟨_, rfl⟩
  have HENTRY := hide (show ∀ W, DoA B w vp g V q o F w1.heap.size (w1.heap.size + 1) W → Calls Tryz.prog 38 #[.pointer (some ⟨vp, 0, none⟩), .string s, .agg q.cells, .agg (ocells o.err o.more F)] W fun e w' => e = .returned (.agg (ecells q.op T1 q.path T2 o.err T3)) ∧ Kept W.heap.size W w' from fun W hW => by
    rw [hT1, hT2, hT3]
    exact entry_go W vp V.key s o.more q o.err F _ _ _ _ hW.v.at' (by omega) (by omega) (by omega) (by omega) (by omega) (unhide HTB W hW.kept) (by have := hW.kept.size; omega))
  rw [← hT1, ← hT2, ← hT3] at HLQ HBY
  obtain ⟨EL, hEL⟩ : ∃ L, L = entL V.last V.cnt q.op T1 q.path T2 o.err T3 := ⟨_, rfl⟩
  have HBIND := hide (show ∀ W, DoA B w vp g V q o F w1.heap.size (w1.heap.size + 1) W → Calls Tryz.prog 37 #[.pointer (some ⟨g.lp, 0, none⟩), .agg (ecells q.op T1 q.path T2 o.err T3)] W fun e w' => e = .returned (.agg (ncells (bs EL) (Sha.digest EL))) ∧ Kept W.heap.size W w' from fun W hW => by
    rw [hEL]
    exact bind_go B W g.lp g.rv g.SL V.cnt V.last hW.v.log q.op (unhide HLQ) q.path (by have := hfit.1.1; omega) o.err (by omega) (by omega) (unhide HTB W hW.kept) (by have := hW.kept.size; omega))
  rw [← hEL] at HBY
  have hELs : (bs EL).size ≤ 1000 := by
    rw [bs_size, hEL, (entL_facts (unhide HLQ) V.cnt q.op (path := q.path) (by have := hfit.1.1; omega) o.err).1]
    have := hfit.1.1; omega
  have HDG := hide (show Sha.digest (V.entry s).data.toList = Sha.digest EL by rw [unhide HBY, bs_list])
  obtain ⟨DG, hDG⟩ : ∃ D, D = Sha.digest EL := ⟨_, rfl⟩
  have hdl : DG.length = 32 := by rw [hDG]; exact Sha.digest_length _
  rw [← hDG] at HBIND HDG
  generalize ecells q.op T1 q.path T2 o.err T3 = EC at *
  clear hT1 hT2 hT3 hEL hDG HLEN HENT HLQ
  obtain ⟨NC, hNC⟩ : ∃ N, N = ncells (bs EL) DG := ⟨_, rfl⟩
  rw [← hNC] at HBIND
  have hns : NC.size = 33 := by rw [hNC]; exact sealA_size hdl
  have hno : NC.all (·.oneCell') = true := by rw [hNC]; exact nc_one _ _
  have hi90 : (Tryz.prog.info? 90).map (·.size) = some NC.size := by rw [hns]; exact info90
  have HNC := hide hNC
  clear hNC
  go_upto_region 4 with (first
    | (refine wpList_store_put rfl 84 (.tmp 5) (.tmp 16) rfl w1.heap.size q.cells rfl rfl 84 rq0.cells (by rw [Below.heap_alloc _ _ _ (by simp)]; exact heap_alloc_new _ _) info84 rfl (rq_one _) ?_; intro w2 hp2; have HP2 := hide hp2; clear hp2)
    | (refine wpList_store_put rfl 86 (.tmp 6) (.tmp 17) rfl (w1.heap.size + 1) (ocells o.err o.more F) rfl rfl 86 (ocells 0 .empty .nilFunc) (((unhide HP2).other _ (by omega)).trans (alloc_snd _ _ _)) info86 rfl (oc_one _ _ h1F) ?_; intro w3 hp3; have HP3 := hide hp3; clear hp3))
  have HA := hide (show DoA B w vp g V q o F w1.heap.size (w1.heap.size + 1) w3 from by
    have e2 := unhide HP2
    have e3 := unhide HP3
    have kA : Kept w1.heap.size w1 ((w1.alloc (.cells rq0.cells 84)).alloc (.cells (ocells 0 .empty .nilFunc) 86)) := ((Kept.refl _ _).alloc (Nat.le_refl _) _).alloc (by simp) _
    have kB : Kept w1.heap.size w1 w3 := (kA.trans (Kept.of (e2.below (Nat.le_refl _)))).trans (Kept.of (e3.below (by omega)))
    exact ⟨(unhide HA1).1.trans (kB.mono (unhide HA1).1.size), (unhide HV).kept ((unhide HA1).1.trans (kB.mono (unhide HA1).1.size)), (e3.other _ (by omega)).trans e2.row, e3.row, (unhide HA1).2.kept kB⟩)
  have hz1 : w1.heap.size + 2 ≤ w3.heap.size := (Array.getElem?_eq_some_iff.1 (unhide HA).ro).1
  have hzw := (unhide HA1).1.size
  clear HP2 HP3 HA1 h1F
  simp only [Act.put]
  go_cut [7] (fun v wx => ∃ d, v = .pointer (some ⟨d, 0, none⟩) ∧ DoA B w vp g V q o F w1.heap.size (w1.heap.size + 1) wx ∧ wx.heap[d]? = some (.cells NC 90 (0, 0)))
  case first =>
    have HSD := hide (show ∀ W, DoA B w vp g V q o F w1.heap.size (w1.heap.size + 1) W → (W.cell? ⟨vp, 2, none⟩ = some (.pointer (some ⟨g.lp, 0, none⟩)) ∧ RqAt W w1.heap.size q ∧ W.heap[w1.heap.size + 1]? = some (.cells (ocells o.err o.more F) 86 (0, 0))) from fun W hW => ⟨by rw [cell_of_row _ _ _ _ _ _ hW.v.at']; rfl, hW.rq, hW.ro⟩)
    refine wp_region_held_drew (S := fun W => (W.cell? ⟨vp, 2, none⟩ = some (.pointer (some ⟨g.lp, 0, none⟩)) ∧ RqAt W w1.heap.size q ∧ W.heap[w1.heap.size + 1]? = some (.cells (ocells o.err o.more F) 86 (0, 0)))) (by kernel_rfl) (unhide HSD w3.drew ((unhide HA).next ((Kept.refl _ _).draws 1))) (fun hHeld => ?_)
    refine wpAnyH_take (i := 0) (oi := { dst := some 18, op := Op.move (Operand.tmp 0), type := 31, pos := "bailey.go:77", after := #[], guard := none }) (v := .pointer (some ⟨vp, 0, none⟩)) rfl (by kernel_rfl) (by kernel_rfl) (by kernel_rfl) (fun _ _ _ h => h) (Or.inl ⟨by kernel_rfl, fun W hW => by kernel_rfl⟩) hHeld ?_
    simp only [Act.put, List.setIfInBounds_toArray, List.set_cons_zero, List.set_cons_succ]
    refine wpAnyH_take (i := 1) (oi := { dst := some 19, op := Op.nilCheck (Operand.tmp 18), type := 0, pos := "bailey.go:77", after := #[{ on := 0, ground := Ground.data }], guard := none }) (v := .pointer (some ⟨vp, 0, none⟩)) rfl (by kernel_rfl) (by kernel_rfl) (by kernel_rfl) (fun _ _ _ h => h) (Or.inl ⟨by kernel_rfl, fun W hW => by kernel_rfl⟩) hHeld ?_
    simp only [Act.put, List.setIfInBounds_toArray, List.set_cons_zero, List.set_cons_succ]
    refine wpAnyH_take (i := 2) (oi := { dst := some 20, op := Op.fieldAddr 78 (Operand.tmp 19) 2, type := 0, pos := "bailey.go:77", after := #[{ on := 1, ground := Ground.data }], guard := none }) (v := .pointer (some ⟨vp, 2, none⟩)) rfl (by kernel_rfl) (by kernel_rfl) (by kernel_rfl) (fun _ _ _ h => h) (Or.inl ⟨by kernel_rfl, fun W hW => by kernel_rfl⟩) hHeld ?_
    simp only [Act.put, List.setIfInBounds_toArray, List.set_cons_zero, List.set_cons_succ]
    refine wpAnyH_take (i := 3) (oi := { dst := some 21, op := Op.load 75 (Operand.tmp 20), type := 75, pos := "bailey.go:77", after := #[{ on := 2, ground := Ground.data }], guard := none }) (v := .pointer (some ⟨g.lp, 0, none⟩)) rfl (by kernel_rfl) (by kernel_rfl) (by kernel_rfl) (fun _ _ _ h => h) (Or.inl ⟨by kernel_rfl, fun W hW => by simp [execOp, go_sem, hW.1]⟩) hHeld ?_
    simp only [Act.put, List.setIfInBounds_toArray, List.set_cons_zero, List.set_cons_succ]
    refine wpAnyH_take (i := 4) (oi := { dst := some 22, op := Op.move (Operand.tmp 0), type := 31, pos := "bailey.go:77", after := #[], guard := none }) (v := .pointer (some ⟨vp, 0, none⟩)) rfl (by kernel_rfl) (by kernel_rfl) (by kernel_rfl) (fun _ _ _ h => h) (Or.inl ⟨by kernel_rfl, fun W hW => by kernel_rfl⟩) hHeld ?_
    simp only [Act.put, List.setIfInBounds_toArray, List.set_cons_zero, List.set_cons_succ]
    refine wpAnyH_take (i := 5) (oi := { dst := some 23, op := Op.move (Operand.tmp 1), type := 9, pos := "bailey.go:77", after := #[], guard := none }) (v := .string s) rfl (by kernel_rfl) (by kernel_rfl) (by kernel_rfl) (fun _ _ _ h => h) (Or.inl ⟨by kernel_rfl, fun W hW => by kernel_rfl⟩) hHeld ?_
    simp only [Act.put, List.setIfInBounds_toArray, List.set_cons_zero, List.set_cons_succ]
    refine wpAnyH_take (i := 6) (oi := { dst := some 24, op := Op.load 84 (Operand.tmp 5), type := 84, pos := "bailey.go:77", after := #[], guard := none }) (v := .agg q.cells) rfl (by kernel_rfl) (by kernel_rfl) (by kernel_rfl) (fun _ _ _ h => h) (yieldsIf_load_mid (by kernel_rfl) 84 (.tmp 5) rfl w1.heap.size 0 (by kernel_rfl) q.cells.toList _ (fun W hW => row_range hW.2.1) Tryz.underlying84 rfl (by rw [Array.length_toList]; exact info84)) hHeld ?_
    simp only [Act.put, List.setIfInBounds_toArray, List.set_cons_zero, List.set_cons_succ]
    refine wpAnyH_take (i := 7) (oi := { dst := some 25, op := Op.load 86 (Operand.tmp 6), type := 86, pos := "bailey.go:77", after := #[], guard := none }) (v := .agg (ocells o.err o.more F)) rfl (by kernel_rfl) (by kernel_rfl) (by kernel_rfl) (fun _ _ _ h => h) (yieldsIf_load_mid (by kernel_rfl) 86 (.tmp 6) rfl (w1.heap.size + 1) 0 (by kernel_rfl) (ocells o.err o.more F).toList _ (fun W hW => row_range hW.2.2) Tryz.underlying86 rfl (by rw [Array.length_toList]; exact info86)) hHeld ?_
    simp only [Act.put, List.setIfInBounds_toArray, List.set_cons_zero, List.set_cons_succ]
    refine wpAnyH_ready (rs := [8, 10]) (by kernel_rfl) (by simp) ?_
    refine AllReadyH.cons (o := { dst := some 26, op := Op.call { callee := Callee.value (Operand.func 38), args := #[Operand.tmp 22, Operand.tmp 23, Operand.tmp 24, Operand.tmp 25], argTypes := #[31, 9, 84, 86] }, type := 93, pos := "bailey.go:77", after := #[{ on := 4, ground := Ground.data }, { on := 5, ground := Ground.data }, { on := 6, ground := Ground.data }, { on := 7, ground := Ground.data }], guard := none }) rfl (fun K hK => ?_) ?_
    · refine ite_wanted ?_ ?_
      · kernel_rfl
      go_simp
      refine (unhide HENTRY w3.drew ((unhide HA).next (w' := w3.drew) ((Kept.refl _ _).draws 1))).mono ?_
      rintro _ w4 ⟨rfl, hkw4⟩
      have Hw4 := hide (((unhide HA).next (w' := w3.drew) ((Kept.refl _ _).draws 1)).next (w' := w4) hkw4)
      clear hkw4
      show K _ w4
      refine hK.out _ _ (unhide HSD w4 (unhide Hw4)) (fun hHeld8 => ?_)
      clear hK K
      try simp only [Act.put, List.setIfInBounds_toArray, List.set_cons_zero, List.set_cons_succ]
      refine wpAnyH_ready (rs := [9, 10]) (by kernel_rfl) (by simp) ?_
      refine AllReadyH.cons (o := { dst := some 27, op := Op.call { callee := Callee.value (Operand.func 37), args := #[Operand.tmp 21, Operand.tmp 26], argTypes := #[75, 93] }, type := 90, pos := "bailey.go:77", after := #[{ on := 3, ground := Ground.data }, { on := 8, ground := Ground.data }, { on := 8, ground := Ground.chain }], guard := none }) rfl (fun K hK => ?_) ?_
      · refine ite_wanted ?_ ?_
        · kernel_rfl
        go_simp
        refine (unhide HBIND w4 (unhide Hw4)).mono ?_
        rintro _ w5 ⟨rfl, hkw5⟩
        have Hw5 := hide ((unhide Hw4).next (w' := w5) hkw5)
        clear hkw5
        show K _ w5
        refine hK.out _ _ (unhide HSD w5 (unhide Hw5)) (fun hHeld9 => ?_)
        clear hK K
        try simp only [Act.put, List.setIfInBounds_toArray, List.set_cons_zero, List.set_cons_succ]
        refine wpAnyH_ready (rs := [10]) (by kernel_rfl) (by simp) ?_
        refine AllReadyH.cons (o := { dst := some 7, op := Op.alloc 90, type := 0, pos := "bailey.go:77", after := #[], guard := none }) rfl (fun K hK => ?_) AllReadyH.nil
        refine ite_wanted ?_ ?_
        · kernel_rfl
        go_simp
        change K _ (w5.alloc (.cells (ncells .empty (List.replicate 32 0)) 90))
        have Hw6 := hide ((unhide Hw5).next (w' := (w5.alloc (.cells (ncells .empty (List.replicate 32 0)) 90))) ((Kept.refl _ _).alloc (Nat.le_refl _) _))
        have hbw6 : (w5.alloc (.cells (ncells .empty (List.replicate 32 0)) 90)).heap[w5.heap.size]? = some (.cells (ncells .empty (List.replicate 32 0)) 90 (0, 0)) := heap_alloc_new w5 _
        generalize (w5.alloc (.cells (ncells .empty (List.replicate 32 0)) 90)) = w6 at Hw6 hbw6 hK ⊢
        refine hK.out _ _ (unhide HSD w6 (unhide Hw6)) (fun hHeld10 => ?_)
        clear hK K
        try simp only [Act.put, List.setIfInBounds_toArray, List.set_cons_zero, List.set_cons_succ]
        refine wpAnyH_ready (rs := [11]) (by kernel_rfl) (by simp) ?_
        refine AllReadyH.cons (o := { dst := none, op := Op.store 90 (Operand.tmp 7) (Operand.tmp 27), type := 0, pos := "bailey.go:77", after := #[{ on := 10, ground := Ground.data }, { on := 9, ground := Ground.data }, { on := 9, ground := Ground.chain }, { on := 0, ground := Ground.phase }, { on := 1, ground := Ground.phase }, { on := 2, ground := Ground.phase }, { on := 3, ground := Ground.phase }, { on := 4, ground := Ground.phase }, { on := 5, ground := Ground.phase }, { on := 6, ground := Ground.phase }, { on := 7, ground := Ground.phase }, { on := 8, ground := Ground.phase }, { on := 9, ground := Ground.phase }, { on := 10, ground := Ground.phase }], guard := none }) rfl (fun K hK => ?_) AllReadyH.nil
        refine ite_wanted ?_ ?_
        · kernel_rfl
        refine wp_store_row 90 (.tmp 7) (.tmp 27) ?_ w5.heap.size NC ?_ ?_ 90 _ (hbw6) hi90 (by rw [hns]; rfl) hno ?_
        · rfl
        · kernel_rfl
        · kernel_rfl
        simp only [Act.put]
        have HE := hide (show DoA B w vp g V q o F w1.heap.size (w1.heap.size + 1) (w6.setRow w5.heap.size NC) ∧ (w6.setRow w5.heap.size NC).heap[w5.heap.size]? = some (.cells NC 90 (0, 0)) from ⟨DoA.nx (unhide Hw6) (hbw6) (by have := (unhide Hw5).kept.size; omega), setRow_heap _ _ _ _ _ _ (hbw6)⟩)
        refine hK.out _ _ (unhide HSD _ (unhide HE).1) (fun hHeld11 => ?_)
        clear hK K
        try simp only [Act.put, List.setIfInBounds_toArray, List.set_cons_zero, List.set_cons_succ]
        refine wpAnyH_done (by kernel_rfl) ?_ _
        go_wp2_with fail
        go_meet
        case rel => exact ⟨_, rfl, unhide HE⟩
      · refine AllReadyH.cons (o := { dst := some 7, op := Op.alloc 90, type := 0, pos := "bailey.go:77", after := #[], guard := none }) rfl (fun K hK => ?_) AllReadyH.nil
        refine ite_wanted ?_ ?_
        · kernel_rfl
        go_simp
        change K _ (w4.alloc (.cells (ncells .empty (List.replicate 32 0)) 90))
        have Hw5 := hide ((unhide Hw4).next (w' := (w4.alloc (.cells (ncells .empty (List.replicate 32 0)) 90))) ((Kept.refl _ _).alloc (Nat.le_refl _) _))
        have hbw5 : (w4.alloc (.cells (ncells .empty (List.replicate 32 0)) 90)).heap[w4.heap.size]? = some (.cells (ncells .empty (List.replicate 32 0)) 90 (0, 0)) := heap_alloc_new w4 _
        generalize (w4.alloc (.cells (ncells .empty (List.replicate 32 0)) 90)) = w5 at Hw5 hbw5 hK ⊢
        refine hK.out _ _ (unhide HSD w5 (unhide Hw5)) (fun hHeld10 => ?_)
        clear hK K
        try simp only [Act.put, List.setIfInBounds_toArray, List.set_cons_zero, List.set_cons_succ]
        refine wpAnyH_ready (rs := [9]) (by kernel_rfl) (by simp) ?_
        refine AllReadyH.cons (o := { dst := some 27, op := Op.call { callee := Callee.value (Operand.func 37), args := #[Operand.tmp 21, Operand.tmp 26], argTypes := #[75, 93] }, type := 90, pos := "bailey.go:77", after := #[{ on := 3, ground := Ground.data }, { on := 8, ground := Ground.data }, { on := 8, ground := Ground.chain }], guard := none }) rfl (fun K hK => ?_) AllReadyH.nil
        refine ite_wanted ?_ ?_
        · kernel_rfl
        go_simp
        refine (unhide HBIND w5 (unhide Hw5)).mono ?_
        rintro _ w6 ⟨rfl, hkw6⟩
        have Hw6 := hide ((unhide Hw5).next (w' := w6) hkw6)
        have hbw6 := (hkw6.block _ (Array.getElem?_eq_some_iff.1 hbw5).1).trans hbw5
        clear hkw6
        show K _ w6
        refine hK.out _ _ (unhide HSD w6 (unhide Hw6)) (fun hHeld9 => ?_)
        clear hK K
        try simp only [Act.put, List.setIfInBounds_toArray, List.set_cons_zero, List.set_cons_succ]
        refine wpAnyH_ready (rs := [11]) (by kernel_rfl) (by simp) ?_
        refine AllReadyH.cons (o := { dst := none, op := Op.store 90 (Operand.tmp 7) (Operand.tmp 27), type := 0, pos := "bailey.go:77", after := #[{ on := 10, ground := Ground.data }, { on := 9, ground := Ground.data }, { on := 9, ground := Ground.chain }, { on := 0, ground := Ground.phase }, { on := 1, ground := Ground.phase }, { on := 2, ground := Ground.phase }, { on := 3, ground := Ground.phase }, { on := 4, ground := Ground.phase }, { on := 5, ground := Ground.phase }, { on := 6, ground := Ground.phase }, { on := 7, ground := Ground.phase }, { on := 8, ground := Ground.phase }, { on := 9, ground := Ground.phase }, { on := 10, ground := Ground.phase }], guard := none }) rfl (fun K hK => ?_) AllReadyH.nil
        refine ite_wanted ?_ ?_
        · kernel_rfl
        refine wp_store_row 90 (.tmp 7) (.tmp 27) ?_ w4.heap.size NC ?_ ?_ 90 _ (hbw6) hi90 (by rw [hns]; rfl) hno ?_
        · rfl
        · kernel_rfl
        · kernel_rfl
        simp only [Act.put]
        have HE := hide (show DoA B w vp g V q o F w1.heap.size (w1.heap.size + 1) (w6.setRow w4.heap.size NC) ∧ (w6.setRow w4.heap.size NC).heap[w4.heap.size]? = some (.cells NC 90 (0, 0)) from ⟨DoA.nx (unhide Hw6) (hbw6) (by have := (unhide Hw4).kept.size; omega), setRow_heap _ _ _ _ _ _ (hbw6)⟩)
        refine hK.out _ _ (unhide HSD _ (unhide HE).1) (fun hHeld11 => ?_)
        clear hK K
        try simp only [Act.put, List.setIfInBounds_toArray, List.set_cons_zero, List.set_cons_succ]
        refine wpAnyH_done (by kernel_rfl) ?_ _
        go_wp2_with fail
        go_meet
        case rel => exact ⟨_, rfl, unhide HE⟩
    · refine AllReadyH.cons (o := { dst := some 7, op := Op.alloc 90, type := 0, pos := "bailey.go:77", after := #[], guard := none }) rfl (fun K hK => ?_) AllReadyH.nil
      refine ite_wanted ?_ ?_
      · kernel_rfl
      go_simp
      change K _ (w3.alloc (.cells (ncells .empty (List.replicate 32 0)) 90)).drew
      have Hw4 := hide ((unhide HA).next (w' := (w3.alloc (.cells (ncells .empty (List.replicate 32 0)) 90)).drew) (((Kept.refl _ _).alloc (Nat.le_refl _) _).draws 1))
      have hbw4 : (w3.alloc (.cells (ncells .empty (List.replicate 32 0)) 90)).drew.heap[w3.heap.size]? = some (.cells (ncells .empty (List.replicate 32 0)) 90 (0, 0)) := heap_alloc_new w3 _
      generalize (w3.alloc (.cells (ncells .empty (List.replicate 32 0)) 90)).drew = w4 at Hw4 hbw4 hK ⊢
      refine hK.out _ _ (unhide HSD w4 (unhide Hw4)) (fun hHeld10 => ?_)
      clear hK K
      try simp only [Act.put, List.setIfInBounds_toArray, List.set_cons_zero, List.set_cons_succ]
      refine wpAnyH_ready (rs := [8]) (by kernel_rfl) (by simp) ?_
      refine AllReadyH.cons (o := { dst := some 26, op := Op.call { callee := Callee.value (Operand.func 38), args := #[Operand.tmp 22, Operand.tmp 23, Operand.tmp 24, Operand.tmp 25], argTypes := #[31, 9, 84, 86] }, type := 93, pos := "bailey.go:77", after := #[{ on := 4, ground := Ground.data }, { on := 5, ground := Ground.data }, { on := 6, ground := Ground.data }, { on := 7, ground := Ground.data }], guard := none }) rfl (fun K hK => ?_) AllReadyH.nil
      refine ite_wanted ?_ ?_
      · kernel_rfl
      go_simp
      refine (unhide HENTRY w4 (unhide Hw4)).mono ?_
      rintro _ w5 ⟨rfl, hkw5⟩
      have Hw5 := hide ((unhide Hw4).next (w' := w5) hkw5)
      have hbw5 := (hkw5.block _ (Array.getElem?_eq_some_iff.1 hbw4).1).trans hbw4
      clear hkw5
      show K _ w5
      refine hK.out _ _ (unhide HSD w5 (unhide Hw5)) (fun hHeld8 => ?_)
      clear hK K
      try simp only [Act.put, List.setIfInBounds_toArray, List.set_cons_zero, List.set_cons_succ]
      refine wpAnyH_ready (rs := [9]) (by kernel_rfl) (by simp) ?_
      refine AllReadyH.cons (o := { dst := some 27, op := Op.call { callee := Callee.value (Operand.func 37), args := #[Operand.tmp 21, Operand.tmp 26], argTypes := #[75, 93] }, type := 90, pos := "bailey.go:77", after := #[{ on := 3, ground := Ground.data }, { on := 8, ground := Ground.data }, { on := 8, ground := Ground.chain }], guard := none }) rfl (fun K hK => ?_) AllReadyH.nil
      refine ite_wanted ?_ ?_
      · kernel_rfl
      go_simp
      refine (unhide HBIND w5 (unhide Hw5)).mono ?_
      rintro _ w6 ⟨rfl, hkw6⟩
      have Hw6 := hide ((unhide Hw5).next (w' := w6) hkw6)
      have hbw6 := (hkw6.block _ (Array.getElem?_eq_some_iff.1 hbw5).1).trans hbw5
      clear hkw6
      show K _ w6
      refine hK.out _ _ (unhide HSD w6 (unhide Hw6)) (fun hHeld9 => ?_)
      clear hK K
      try simp only [Act.put, List.setIfInBounds_toArray, List.set_cons_zero, List.set_cons_succ]
      refine wpAnyH_ready (rs := [11]) (by kernel_rfl) (by simp) ?_
      refine AllReadyH.cons (o := { dst := none, op := Op.store 90 (Operand.tmp 7) (Operand.tmp 27), type := 0, pos := "bailey.go:77", after := #[{ on := 10, ground := Ground.data }, { on := 9, ground := Ground.data }, { on := 9, ground := Ground.chain }, { on := 0, ground := Ground.phase }, { on := 1, ground := Ground.phase }, { on := 2, ground := Ground.phase }, { on := 3, ground := Ground.phase }, { on := 4, ground := Ground.phase }, { on := 5, ground := Ground.phase }, { on := 6, ground := Ground.phase }, { on := 7, ground := Ground.phase }, { on := 8, ground := Ground.phase }, { on := 9, ground := Ground.phase }, { on := 10, ground := Ground.phase }], guard := none }) rfl (fun K hK => ?_) AllReadyH.nil
      refine ite_wanted ?_ ?_
      · kernel_rfl
      refine wp_store_row 90 (.tmp 7) (.tmp 27) ?_ w3.heap.size NC ?_ ?_ 90 _ (hbw6) hi90 (by rw [hns]; rfl) hno ?_
      · rfl
      · kernel_rfl
      · kernel_rfl
      simp only [Act.put]
      have HE := hide (show DoA B w vp g V q o F w1.heap.size (w1.heap.size + 1) (w6.setRow w3.heap.size NC) ∧ (w6.setRow w3.heap.size NC).heap[w3.heap.size]? = some (.cells NC 90 (0, 0)) from ⟨DoA.nx (unhide Hw6) (hbw6) (by have := (unhide HA).kept.size; omega), setRow_heap _ _ _ _ _ _ (hbw6)⟩)
      refine hK.out _ _ (unhide HSD _ (unhide HE).1) (fun hHeld11 => ?_)
      clear hK K
      try simp only [Act.put, List.setIfInBounds_toArray, List.set_cons_zero, List.set_cons_succ]
      refine wpAnyH_done (by kernel_rfl) ?_ _
      go_wp2_with fail
      go_meet
      case rel => exact ⟨_, rfl, unhide HE⟩
  case rest =>
    obtain ⟨d, rfl, hdo, hdn⟩ := hcut
    rw [unhide HNC] at hdn
    have HC := hide (show DoC B w vp g q o F (w1.heap.size + 1) d (bs EL) DG g V wc from ⟨hdo.v, hdo.ro, hdn, hdo.clo, hdo.kept.chg.mono fun _ _ e => e.elim, fun k hk => .inl hk, ⟨rfl, rfl, rfl, rfl⟩, rfl, rfl⟩)
    clear hdo hdn HA HENTRY HBIND HNC hns hno hi90
    go_upto_region 5 with fail
    go_cut [40] (fun v wx => v = .bool false ∧ ∃ g1, DoC B w vp g q o F (w1.heap.size + 1) d (bs EL) DG g1 { V with dsk := V.wrote s } wx ∧ g1.lp = g.lp ∧ g1.rv = g.rv ∧ g1.SL = g.SL)
    case first =>
      have HSE := hide (show ∀ g1 V1 W, DoC B w vp g q o F (w1.heap.size + 1) d (bs EL) DG g1 V1 W → g1.jp = g.jp → (W.heap[w1.heap.size + 1]? = some (.cells (ocells o.err o.more F) 86 (0, 0)) ∧ W.cell? ⟨vp, 1, none⟩ = some (.pointer (some ⟨g.jp, 0, none⟩)) ∧ W.rangeAt d 1 (blist DG)) from fun g1 V1 W hW hj => ⟨hW.ro, by rw [cell_of_row _ _ _ _ _ _ hW.v.at', ← hj]; rfl, fun j v hv => by rw [cell_of_row _ _ _ _ _ _ hW.nx, ← Array.getElem?_toList, Nat.add_comm]; exact hv⟩)
      have hi29 := info29s DG hdl
      cases hch : o.ch with
      | none =>
        obtain rfl : F = .nilFunc := by have := (unhide HC).clo; rw [hch] at this; exact this
        have HW := hide (show { V with dsk := V.wrote s } = V by rw [(unhide HWRO).2 hch])
        refine wp_region_held_drew (S := fun W => (W.heap[w1.heap.size + 1]? = some (.cells (ocells o.err o.more .nilFunc) 86 (0, 0)) ∧ W.cell? ⟨vp, 1, none⟩ = some (.pointer (some ⟨g.jp, 0, none⟩)) ∧ W.rangeAt d 1 (blist DG))) (by kernel_rfl) (unhide HSE g V wc.drew ((unhide HC).next ((Kept.refl _ _).draws 1)) rfl) (fun hHeld => ?_)
        refine wpAnyH_take (i := 0) (oi := { dst := some 28, op := Op.load 86 (Operand.tmp 6), type := 86, pos := "bailey.go:78", after := #[], guard := none }) (v := .agg (ocells o.err o.more .nilFunc)) rfl (by kernel_rfl) (by kernel_rfl) (by kernel_rfl) (fun _ _ _ h => h) (yieldsIf_load_mid (by kernel_rfl) 86 (.tmp 6) rfl (w1.heap.size + 1) 0 (by kernel_rfl) (ocells o.err o.more .nilFunc).toList _ (fun W hW => row_range hW.1) Tryz.underlying86 rfl (by rw [Array.length_toList]; exact info86)) hHeld ?_
        simp only [Act.put, List.setIfInBounds_toArray, List.set_cons_zero, List.set_cons_succ]
        refine wpAnyH_ready (rs := [1]) (by kernel_rfl) (by simp) ?_
        refine AllReadyH.cons (o := { dst := some 29, op := Op.call { callee := Callee.value (Operand.func 39), args := #[Operand.tmp 28], argTypes := #[86] }, type := 4, pos := "bailey.go:78", after := #[{ on := 0, ground := Ground.data }], guard := none }) rfl (fun K hK => ?_) AllReadyH.nil
        refine ite_wanted ?_ ?_
        · kernel_rfl
        go_simp
        refine (changes_no o.err o.more wc.drew).mono ?_
        rintro _ w4 ⟨rfl, hk4⟩
        have HC4 := hide ((unhide HC).next (w' := w4) (show Kept wc.heap.size wc w4 from ⟨hk4.os, hk4.output, hk4.size, hk4.block⟩))
        clear hk4
        show K _ w4
        refine hK.out _ _ (unhide HSE g V w4 (unhide HC4) rfl) (fun hHeld1 => ?_)
        clear hK K
        try simp only [Act.put, List.setIfInBounds_toArray, List.set_cons_zero, List.set_cons_succ]
        refine wpAnyH_take (i := 2) (oi := { dst := some 30, op := Op.move (Operand.tmp 29), type := 4, pos := "bailey.go:78", after := #[{ on := 1, ground := Ground.data }, { on := 1, ground := Ground.chain }], guard := none }) (v := .bool false) rfl (by kernel_rfl) (by kernel_rfl) (by kernel_rfl) (fun _ _ _ h => h) (Or.inl ⟨by kernel_rfl, fun W hW => by kernel_rfl⟩) hHeld1 ?_
        simp only [Act.put, List.setIfInBounds_toArray, List.set_cons_zero, List.set_cons_succ]
        refine wpAnyH_take (i := 3) (oi := { dst := some 31, op := Op.move (Operand.tmp 0), type := 31, pos := "bailey.go:78", after := #[{ on := 2, ground := Ground.guard }], guard := some (2, true) }) (v := undef) rfl (by kernel_rfl) (by kernel_rfl) (by kernel_rfl) (fun _ _ _ h => h) (Or.inr ⟨by kernel_rfl, rfl⟩) hHeld1 ?_
        simp only [Act.put, List.setIfInBounds_toArray, List.set_cons_zero, List.set_cons_succ]
        refine wpAnyH_take (i := 4) (oi := { dst := some 32, op := Op.nilCheck (Operand.tmp 31), type := 0, pos := "bailey.go:78", after := #[{ on := 3, ground := Ground.data }, { on := 2, ground := Ground.guard }], guard := some (2, true) }) (v := undef) rfl (by kernel_rfl) (by kernel_rfl) (by kernel_rfl) (fun _ _ _ h => h) (Or.inr ⟨by kernel_rfl, rfl⟩) hHeld1 ?_
        simp only [Act.put, List.setIfInBounds_toArray, List.set_cons_zero, List.set_cons_succ]
        refine wpAnyH_take (i := 5) (oi := { dst := some 33, op := Op.fieldAddr 78 (Operand.tmp 32) 1, type := 0, pos := "bailey.go:78", after := #[{ on := 4, ground := Ground.data }, { on := 2, ground := Ground.guard }], guard := some (2, true) }) (v := undef) rfl (by kernel_rfl) (by kernel_rfl) (by kernel_rfl) (fun _ _ _ h => h) (Or.inr ⟨by kernel_rfl, rfl⟩) hHeld1 ?_
        simp only [Act.put, List.setIfInBounds_toArray, List.set_cons_zero, List.set_cons_succ]
        refine wpAnyH_take (i := 6) (oi := { dst := some 34, op := Op.load 74 (Operand.tmp 33), type := 74, pos := "bailey.go:78", after := #[{ on := 5, ground := Ground.data }, { on := 2, ground := Ground.guard }], guard := some (2, true) }) (v := undef) rfl (by kernel_rfl) (by kernel_rfl) (by kernel_rfl) (fun _ _ _ h => h) (Or.inr ⟨by kernel_rfl, rfl⟩) hHeld1 ?_
        simp only [Act.put, List.setIfInBounds_toArray, List.set_cons_zero, List.set_cons_succ]
        refine wpAnyH_take (i := 7) (oi := { dst := some 35, op := Op.fieldAddr 90 (Operand.tmp 7) 1, type := 0, pos := "bailey.go:78", after := #[{ on := 2, ground := Ground.guard }], guard := some (2, true) }) (v := undef) rfl (by kernel_rfl) (by kernel_rfl) (by kernel_rfl) (fun _ _ _ h => h) (Or.inr ⟨by kernel_rfl, rfl⟩) hHeld1 ?_
        simp only [Act.put, List.setIfInBounds_toArray, List.set_cons_zero, List.set_cons_succ]
        refine wpAnyH_take (i := 8) (oi := { dst := some 36, op := Op.load 29 (Operand.tmp 35), type := 29, pos := "bailey.go:78", after := #[{ on := 7, ground := Ground.data }, { on := 2, ground := Ground.guard }], guard := some (2, true) }) (v := undef) rfl (by kernel_rfl) (by kernel_rfl) (by kernel_rfl) (fun _ _ _ h => h) (Or.inr ⟨by kernel_rfl, rfl⟩) hHeld1 ?_
        simp only [Act.put, List.setIfInBounds_toArray, List.set_cons_zero, List.set_cons_succ]
        refine wpAnyH_take (i := 9) (oi := { dst := some 37, op := Op.move (Operand.tmp 1), type := 9, pos := "bailey.go:78", after := #[{ on := 2, ground := Ground.guard }], guard := some (2, true) }) (v := undef) rfl (by kernel_rfl) (by kernel_rfl) (by kernel_rfl) (fun _ _ _ h => h) (Or.inr ⟨by kernel_rfl, rfl⟩) hHeld1 ?_
        simp only [Act.put, List.setIfInBounds_toArray, List.set_cons_zero, List.set_cons_succ]
        refine wpAnyH_take (i := 10) (oi := { dst := some 38, op := Op.call { callee := Callee.value (Operand.func 40), args := #[Operand.tmp 34, Operand.tmp 36, Operand.tmp 37], argTypes := #[74, 29, 9] }, type := 4, pos := "bailey.go:78", after := #[{ on := 6, ground := Ground.data }, { on := 8, ground := Ground.data }, { on := 9, ground := Ground.data }, { on := 2, ground := Ground.chain }, { on := 2, ground := Ground.guard }], guard := some (2, true) }) (v := undef) rfl (by kernel_rfl) (by kernel_rfl) (by kernel_rfl) (fun _ _ _ h => h) (Or.inr ⟨by kernel_rfl, rfl⟩) hHeld1 ?_
        simp only [Act.put, List.setIfInBounds_toArray, List.set_cons_zero, List.set_cons_succ]
        refine wpAnyH_take (i := 11) (oi := { dst := some 39, op := Op.unOp UnOp.not 4 (Operand.tmp 38), type := 4, pos := "bailey.go:78", after := #[{ on := 10, ground := Ground.data }, { on := 2, ground := Ground.guard }], guard := some (2, true) }) (v := undef) rfl (by kernel_rfl) (by kernel_rfl) (by kernel_rfl) (fun _ _ _ h => h) (Or.inr ⟨by kernel_rfl, rfl⟩) hHeld1 ?_
        simp only [Act.put, List.setIfInBounds_toArray, List.set_cons_zero, List.set_cons_succ]
        refine wpAnyH_take (i := 12) (oi := { dst := some 40, op := Op.pick (Operand.tmp 30) (Operand.tmp 39) (Operand.const (Value.bool false)), type := 4, pos := "bailey.go:78", after := #[{ on := 2, ground := Ground.data }, { on := 11, ground := Ground.data }], guard := none }) (v := .bool false) rfl (by kernel_rfl) (by kernel_rfl) (by kernel_rfl) (fun _ _ _ h => h) (Or.inl ⟨by kernel_rfl, fun W hW => by kernel_rfl⟩) hHeld1 ?_
        simp only [Act.put, List.setIfInBounds_toArray, List.set_cons_zero, List.set_cons_succ]
        refine wpAnyH_done (by kernel_rfl) ?_ _
        go_wp2_with fail
        go_meet
        case rel => exact ⟨rfl, g, by rw [unhide HW]; exact unhide HC4, rfl, rfl, rfl⟩
      | some c =>
        obtain ⟨fn, fb, hFe⟩ : ∃ n b, F = .func (.func n) #[] b := by have := (unhide HC).clo; rw [hch] at this; exact this.fn
        subst hFe
        have HW := hide ((unhide HWRO).1 (by rw [hch]; rfl))
        have hdb := (unhide HB).dsk
        have hsm := hdb.small (unhide HB).le.1
        refine wp_region_held_drew (S := fun W => (W.heap[w1.heap.size + 1]? = some (.cells (ocells o.err o.more (.func (.func fn) #[] fb)) 86 (0, 0)) ∧ W.cell? ⟨vp, 1, none⟩ = some (.pointer (some ⟨g.jp, 0, none⟩)) ∧ W.rangeAt d 1 (blist DG))) (by kernel_rfl) (unhide HSE g V wc.drew ((unhide HC).next ((Kept.refl _ _).draws 1)) rfl) (fun hHeld => ?_)
        refine wpAnyH_take (i := 0) (oi := { dst := some 28, op := Op.load 86 (Operand.tmp 6), type := 86, pos := "bailey.go:78", after := #[], guard := none }) (v := .agg (ocells o.err o.more (.func (.func fn) #[] fb))) rfl (by kernel_rfl) (by kernel_rfl) (by kernel_rfl) (fun _ _ _ h => h) (yieldsIf_load_mid (by kernel_rfl) 86 (.tmp 6) rfl (w1.heap.size + 1) 0 (by kernel_rfl) (ocells o.err o.more (.func (.func fn) #[] fb)).toList _ (fun W hW => row_range hW.1) Tryz.underlying86 rfl (by rw [Array.length_toList]; exact info86)) hHeld ?_
        simp only [Act.put, List.setIfInBounds_toArray, List.set_cons_zero, List.set_cons_succ]
        refine wpAnyH_ready (rs := [1]) (by kernel_rfl) (by simp) ?_
        refine AllReadyH.cons (o := { dst := some 29, op := Op.call { callee := Callee.value (Operand.func 39), args := #[Operand.tmp 28], argTypes := #[86] }, type := 4, pos := "bailey.go:78", after := #[{ on := 0, ground := Ground.data }], guard := none }) rfl (fun K hK => ?_) AllReadyH.nil
        refine ite_wanted ?_ ?_
        · kernel_rfl
        go_simp
        refine (changes_yes o.err o.more fn fb wc.drew).mono ?_
        rintro _ w4 ⟨rfl, hk4⟩
        have HC4 := hide ((unhide HC).next (w' := w4) (show Kept wc.heap.size wc w4 from ⟨hk4.os, hk4.output, hk4.size, hk4.block⟩))
        clear hk4
        show K _ w4
        refine hK.out _ _ (unhide HSE g V w4 (unhide HC4) rfl) (fun hHeld1 => ?_)
        clear hK K
        try simp only [Act.put, List.setIfInBounds_toArray, List.set_cons_zero, List.set_cons_succ]
        refine wpAnyH_take (i := 2) (oi := { dst := some 30, op := Op.move (Operand.tmp 29), type := 4, pos := "bailey.go:78", after := #[{ on := 1, ground := Ground.data }, { on := 1, ground := Ground.chain }], guard := none }) (v := .bool true) rfl (by kernel_rfl) (by kernel_rfl) (by kernel_rfl) (fun _ _ _ h => h) (Or.inl ⟨by kernel_rfl, fun W hW => by kernel_rfl⟩) hHeld1 ?_
        simp only [Act.put, List.setIfInBounds_toArray, List.set_cons_zero, List.set_cons_succ]
        refine wpAnyH_take (i := 3) (oi := { dst := some 31, op := Op.move (Operand.tmp 0), type := 31, pos := "bailey.go:78", after := #[{ on := 2, ground := Ground.guard }], guard := some (2, true) }) (v := .pointer (some ⟨vp, 0, none⟩)) rfl (by kernel_rfl) (by kernel_rfl) (by kernel_rfl) (fun _ _ _ h => h) (Or.inl ⟨by kernel_rfl, fun W hW => by kernel_rfl⟩) hHeld1 ?_
        simp only [Act.put, List.setIfInBounds_toArray, List.set_cons_zero, List.set_cons_succ]
        refine wpAnyH_take (i := 4) (oi := { dst := some 32, op := Op.nilCheck (Operand.tmp 31), type := 0, pos := "bailey.go:78", after := #[{ on := 3, ground := Ground.data }, { on := 2, ground := Ground.guard }], guard := some (2, true) }) (v := .pointer (some ⟨vp, 0, none⟩)) rfl (by kernel_rfl) (by kernel_rfl) (by kernel_rfl) (fun _ _ _ h => h) (Or.inl ⟨by kernel_rfl, fun W hW => by kernel_rfl⟩) hHeld1 ?_
        simp only [Act.put, List.setIfInBounds_toArray, List.set_cons_zero, List.set_cons_succ]
        refine wpAnyH_take (i := 5) (oi := { dst := some 33, op := Op.fieldAddr 78 (Operand.tmp 32) 1, type := 0, pos := "bailey.go:78", after := #[{ on := 4, ground := Ground.data }, { on := 2, ground := Ground.guard }], guard := some (2, true) }) (v := .pointer (some ⟨vp, 1, none⟩)) rfl (by kernel_rfl) (by kernel_rfl) (by kernel_rfl) (fun _ _ _ h => h) (Or.inl ⟨by kernel_rfl, fun W hW => by kernel_rfl⟩) hHeld1 ?_
        simp only [Act.put, List.setIfInBounds_toArray, List.set_cons_zero, List.set_cons_succ]
        refine wpAnyH_take (i := 6) (oi := { dst := some 34, op := Op.load 74 (Operand.tmp 33), type := 74, pos := "bailey.go:78", after := #[{ on := 5, ground := Ground.data }, { on := 2, ground := Ground.guard }], guard := some (2, true) }) (v := .pointer (some ⟨g.jp, 0, none⟩)) rfl (by kernel_rfl) (by kernel_rfl) (by kernel_rfl) (fun _ _ _ h => h) (Or.inl ⟨by kernel_rfl, fun W hW => by simp [execOp, go_sem, hW.2.1]⟩) hHeld1 ?_
        simp only [Act.put, List.setIfInBounds_toArray, List.set_cons_zero, List.set_cons_succ]
        refine wpAnyH_take (i := 7) (oi := { dst := some 35, op := Op.fieldAddr 90 (Operand.tmp 7) 1, type := 0, pos := "bailey.go:78", after := #[{ on := 2, ground := Ground.guard }], guard := some (2, true) }) (v := .pointer (some ⟨d, 1, none⟩)) rfl (by kernel_rfl) (by kernel_rfl) (by kernel_rfl) (fun _ _ _ h => h) (Or.inl ⟨by kernel_rfl, fun W hW => by kernel_rfl⟩) hHeld1 ?_
        simp only [Act.put, List.setIfInBounds_toArray, List.set_cons_zero, List.set_cons_succ]
        refine wpAnyH_take (i := 8) (oi := { dst := some 36, op := Op.load 29 (Operand.tmp 35), type := 29, pos := "bailey.go:78", after := #[{ on := 7, ground := Ground.data }, { on := 2, ground := Ground.guard }], guard := some (2, true) }) (v := .agg (blist DG).toArray) rfl (by kernel_rfl) (by kernel_rfl) (by kernel_rfl) (fun _ _ _ h => h) (yieldsIf_load_mid (by kernel_rfl) 29 (.tmp 35) rfl d 1 (by kernel_rfl) (blist DG) _ (fun W hW => hW.2.2) Tryz.underlying29 rfl hi29) hHeld1 ?_
        simp only [Act.put, List.setIfInBounds_toArray, List.set_cons_zero, List.set_cons_succ]
        refine wpAnyH_take (i := 9) (oi := { dst := some 37, op := Op.move (Operand.tmp 1), type := 9, pos := "bailey.go:78", after := #[{ on := 2, ground := Ground.guard }], guard := some (2, true) }) (v := .string s) rfl (by kernel_rfl) (by kernel_rfl) (by kernel_rfl) (fun _ _ _ h => h) (Or.inl ⟨by kernel_rfl, fun W hW => by kernel_rfl⟩) hHeld1 ?_
        simp only [Act.put, List.setIfInBounds_toArray, List.set_cons_zero, List.set_cons_succ]
        refine wpAnyH_ready (rs := [10]) (by kernel_rfl) (by simp) ?_
        refine AllReadyH.cons (o := { dst := some 38, op := Op.call { callee := Callee.value (Operand.func 40), args := #[Operand.tmp 34, Operand.tmp 36, Operand.tmp 37], argTypes := #[74, 29, 9] }, type := 4, pos := "bailey.go:78", after := #[{ on := 6, ground := Ground.data }, { on := 8, ground := Ground.data }, { on := 9, ground := Ground.data }, { on := 2, ground := Ground.chain }, { on := 2, ground := Ground.guard }], guard := some (2, true) }) rfl (fun K hK => ?_) AllReadyH.nil
        refine ite_wanted ?_ ?_
        · kernel_rfl
        go_simp
        refine (write_go B w4 g.jp g.dp g.dv V.dsk DG s (unhide HC4).v.jat (unhide HC4).v.dsk (by have := (unhide HC4).chg.size; omega) hdl ⟨hdb.1, hdb.2.1⟩ (by omega) (fun f hf => by have := hsm.2 f hf; omega) (by omega)).mono ?_
        rintro _ w5 ⟨rfl, v5, hd5, hu5⟩
        have HC5 := hide (show DoC B w vp g q o (.func (.func fn) #[] fb) (w1.heap.size + 1) d (bs EL) DG { g with dv := v5 } { V with dsk := V.wrote s } w5 from by
          rw [unhide HW, unhide HDG]
          have h4 := unhide HC4
          have hst := hu5.stayD h4.v.dsk
          obtain ⟨a1, a2, a3⟩ := h4.v.setD hd5 hu5
          refine ⟨a1, row_over h4.ro hst (by decide), row_over h4.nx hst (by decide), h4.clo.over hst (by decide), h4.chg.trans' a2 fun k hk e => (h4.foot k e).elim id fun e => absurd hk (by omega), fun k hk => ?_, ⟨rfl, rfl, rfl, rfl⟩, rfl, rfl⟩
          rcases a3 k hk with e | e
          · exact h4.foot k e
          · exact .inr (by have := h4.chg.size; omega))
        clear hd5 hu5
        show K _ w5
        refine hK.out _ _ (unhide HSE _ _ w5 (unhide HC5) rfl) (fun hHeld10 => ?_)
        clear hK K
        try simp only [Act.put, List.setIfInBounds_toArray, List.set_cons_zero, List.set_cons_succ]
        refine wpAnyH_take (i := 11) (oi := { dst := some 39, op := Op.unOp UnOp.not 4 (Operand.tmp 38), type := 4, pos := "bailey.go:78", after := #[{ on := 10, ground := Ground.data }, { on := 2, ground := Ground.guard }], guard := some (2, true) }) (v := .bool false) rfl (by kernel_rfl) (by kernel_rfl) (by kernel_rfl) (fun _ _ _ h => h) (Or.inl ⟨by kernel_rfl, fun W hW => by kernel_rfl⟩) hHeld10 ?_
        simp only [Act.put, List.setIfInBounds_toArray, List.set_cons_zero, List.set_cons_succ]
        refine wpAnyH_take (i := 12) (oi := { dst := some 40, op := Op.pick (Operand.tmp 30) (Operand.tmp 39) (Operand.const (Value.bool false)), type := 4, pos := "bailey.go:78", after := #[{ on := 2, ground := Ground.data }, { on := 11, ground := Ground.data }], guard := none }) (v := .bool false) rfl (by kernel_rfl) (by kernel_rfl) (by kernel_rfl) (fun _ _ _ h => h) (Or.inl ⟨by kernel_rfl, fun W hW => by kernel_rfl⟩) hHeld10 ?_
        simp only [Act.put, List.setIfInBounds_toArray, List.set_cons_zero, List.set_cons_succ]
        refine wpAnyH_done (by kernel_rfl) ?_ _
        go_wp2_with fail
        go_meet
        case rel => exact ⟨rfl, _, unhide HC5, rfl, rfl, rfl⟩
    case rest =>
      obtain ⟨rfl, g1, hc1, hg1, hg2, hg3⟩ := hcut
      have HC1 := hide hc1
      clear hc1 HC
      have HSF := hide (show ∀ g1 V1 W, DoC B w vp g q o F (w1.heap.size + 1) d (bs EL) DG g1 V1 W → g1.lp = g.lp → (W.cell? ⟨vp, 2, none⟩ = some (.pointer (some ⟨g.lp, 0, none⟩)) ∧ W.heap[d]? = some (.cells (ncells (bs EL) DG) 90 (0, 0))) from fun g1 V1 W hW hl => ⟨by rw [cell_of_row _ _ _ _ _ _ hW.v.at', ← hl]; rfl, hW.nx⟩)
      have hns : (ncells (bs EL) DG).size = 33 := sealA_size hdl
      have hLAT := (unhide HC1).v.log
      have hSNK := (unhide HC1).v.snk
      rw [hg1, hg2, hg3] at hLAT
      rw [hg3] at hSNK
      have HLAT := hide hLAT
      dsimp only at hSNK
      have HLAY := hide (show V.lay s = layF (g.SL.map (·.x)) (mostOf (g.SL.map (·.x)) .empty ++ frOf (bs EL)) by unfold Vlt.lay; rw [unhide HBY, hSNK])
      have hmo : mostOf (g.SL.map (·.x)) .empty = logOf E := by rw [hSNK]; exact (unhide HB).ok.most'
      have hmz : (logOf E).size ≤ 400 * E.length := logOf_small (chn_fits (unhide HB).ok.chn)
      have hle := (unhide HB).le
      have hpre : SLpre g.SL (mostOf (g.SL.map (·.x)) .empty) := ⟨by have := congrArg List.length hSNK; simp at this; have := (unhide HB).few; omega, fun e he => by
        obtain ⟨⟨m, hm, hd, ha⟩, h0, hl⟩ := (unhide HB).snk e.x (by rw [← hSNK]; exact List.mem_map.2 ⟨e, he, rfl⟩)
        have := logOf_size_le E m
        exact ⟨by rw [hmo, hd]; omega, h0, by omega, hl⟩, by rw [hmo]; omega⟩
      clear hLAT hSNK hmo hmz
      go_wp2_with fail
      refine wp_region_held_drew (S := fun W => (W.cell? ⟨vp, 2, none⟩ = some (.pointer (some ⟨g.lp, 0, none⟩)) ∧ W.heap[d]? = some (.cells (ncells (bs EL) DG) 90 (0, 0)))) (by kernel_rfl) (unhide HSF g1 _ wc.drew ((unhide HC1).next ((Kept.refl _ _).draws 1)) hg1) (fun hHeld => ?_)
      refine wpAnyH_take (i := 0) (oi := { dst := some 44, op := Op.move (Operand.tmp 0), type := 31, pos := "bailey.go:82", after := #[], guard := none }) (v := .pointer (some ⟨vp, 0, none⟩)) rfl (by kernel_rfl) (by kernel_rfl) (by kernel_rfl) (fun _ _ _ h => h) (Or.inl ⟨by kernel_rfl, fun W hW => by kernel_rfl⟩) hHeld ?_
      simp only [Act.put, List.setIfInBounds_toArray, List.set_cons_zero, List.set_cons_succ]
      refine wpAnyH_take (i := 1) (oi := { dst := some 45, op := Op.nilCheck (Operand.tmp 44), type := 0, pos := "bailey.go:82", after := #[{ on := 0, ground := Ground.data }], guard := none }) (v := .pointer (some ⟨vp, 0, none⟩)) rfl (by kernel_rfl) (by kernel_rfl) (by kernel_rfl) (fun _ _ _ h => h) (Or.inl ⟨by kernel_rfl, fun W hW => by kernel_rfl⟩) hHeld ?_
      simp only [Act.put, List.setIfInBounds_toArray, List.set_cons_zero, List.set_cons_succ]
      refine wpAnyH_take (i := 2) (oi := { dst := some 46, op := Op.fieldAddr 78 (Operand.tmp 45) 2, type := 0, pos := "bailey.go:82", after := #[{ on := 1, ground := Ground.data }], guard := none }) (v := .pointer (some ⟨vp, 2, none⟩)) rfl (by kernel_rfl) (by kernel_rfl) (by kernel_rfl) (fun _ _ _ h => h) (Or.inl ⟨by kernel_rfl, fun W hW => by kernel_rfl⟩) hHeld ?_
      simp only [Act.put, List.setIfInBounds_toArray, List.set_cons_zero, List.set_cons_succ]
      refine wpAnyH_take (i := 3) (oi := { dst := some 47, op := Op.load 75 (Operand.tmp 46), type := 75, pos := "bailey.go:82", after := #[{ on := 2, ground := Ground.data }], guard := none }) (v := .pointer (some ⟨g.lp, 0, none⟩)) rfl (by kernel_rfl) (by kernel_rfl) (by kernel_rfl) (fun _ _ _ h => h) (Or.inl ⟨by kernel_rfl, fun W hW => by simp [execOp, go_sem, hW.1]⟩) hHeld ?_
      simp only [Act.put, List.setIfInBounds_toArray, List.set_cons_zero, List.set_cons_succ]
      refine wpAnyH_take (i := 4) (oi := { dst := some 48, op := Op.load 90 (Operand.tmp 7), type := 90, pos := "bailey.go:82", after := #[], guard := none }) (v := .agg (ncells (bs EL) DG)) rfl (by kernel_rfl) (by kernel_rfl) (by kernel_rfl) (fun _ _ _ h => h) (yieldsIf_load_mid (by kernel_rfl) 90 (.tmp 7) rfl d 0 (by kernel_rfl) (ncells (bs EL) DG).toList _ (fun W hW => row_range hW.2) Tryz.underlying90 rfl (by rw [Array.length_toList, hns]; exact info90)) hHeld ?_
      simp only [Act.put, List.setIfInBounds_toArray, List.set_cons_zero, List.set_cons_succ]
      refine wpAnyH_ready (rs := [5]) (by kernel_rfl) (by simp) ?_
      refine AllReadyH.cons (o := { dst := some 49, op := Op.call { callee := Callee.value (Operand.func 41), args := #[Operand.tmp 47, Operand.tmp 48], argTypes := #[75, 90] }, type := 4, pos := "bailey.go:82", after := #[{ on := 3, ground := Ground.data }, { on := 4, ground := Ground.data }], guard := none }) rfl (fun K hK => ?_) AllReadyH.nil
      refine ite_wanted ?_ ?_
      · kernel_rfl
      go_simp
      refine (lay_go B wc.drew g.lp g.rv g.SL V.cnt V.last (bs EL) DG ((unhide HLAT).kept ((Kept.refl _ _).draws 1)) hdl (by have := hpre.1; omega) hcnt hELs (fun e he => (hpre.2.1 e he).1) (by have := hpre.2.2; omega) (fun e he => by have := (hpre.2.1 e he).2; omega) (fun e he => (hpre.2.1 e he).2.2.2)).mono ?_
      rw [← unhide HLAY]
      rintro _ w5 ⟨rfl, SL5, hl5, hx5, hp5, hc5, hf5⟩
      have HD5 := hide (show ∃ g5, DoC B w vp g q o F (w1.heap.size + 1) d (bs EL) DG g5 ⟨V.key, V.wrote s, (V.lay s).1, (laid V.cnt V.last DG (V.lay s).2).1, (laid V.cnt V.last DG (V.lay s).2).2, V.sto⟩ w5 ∧ g5.lp = g.lp from by
        have h4 := (unhide HC1).next (w' := wc.drew) ((Kept.refl _ _).draws 1)
        rw [← hg1, ← hg2] at hl5
        rw [← hg1, ← hg2, ← hg3] at hc5
        obtain ⟨a1, a2, a3, a4⟩ := h4.v.setL hl5 hc5 (fun k hk => by rw [hg3, hg1, hg2]; rw [hg1, hg2] at hk; exact hf5 k hk)
        rw [hx5] at a1
        refine ⟨{ g1 with SL := SL5 }, ⟨a1, row_over h4.ro a4 (by decide), row_over h4.nx a4 (by decide), h4.clo.over a4 (by decide), h4.chg.trans' a2 fun k hk e => (h4.foot k e).elim id fun e => absurd hk (by omega), fun k hk => ?_, h4.sto, ?_, h4.dp⟩, hg1⟩
        · rcases a3 k hk with e | e
          · exact h4.foot k e
          · exact .inr (by have := h4.chg.size; omega)
        · exact hp5)
      clear hl5 hx5 hp5 hc5 hf5
      obtain ⟨g5, hd5, hg5⟩ := unhide HD5
      have HC5 := hide hd5
      clear hd5 HD5
      show K _ w5
      refine hK.out _ _ (unhide HSF g5 _ w5 (unhide HC5) hg5) (fun hHeld5 => ?_)
      clear hK K
      try simp only [Act.put, List.setIfInBounds_toArray, List.set_cons_zero, List.set_cons_succ]
      clear HLAT hpre HSF
      cases hlay : (V.lay s).2 with
      | false =>
        refine wpAnyH_take (i := 6) (oi := { dst := some 50, op := Op.unOp UnOp.not 4 (Operand.tmp 49), type := 4, pos := "bailey.go:82", after := #[{ on := 5, ground := Ground.data }], guard := none }) (v := .bool true) rfl (by kernel_rfl) (by kernel_rfl) (by kernel_rfl) (fun _ _ _ h => h) (Or.inl ⟨by kernel_rfl, fun W hW => by kernel_rfl⟩) hHeld5 ?_
        simp only [Act.put, List.setIfInBounds_toArray, List.set_cons_zero, List.set_cons_succ]
        refine wpAnyH_done (by kernel_rfl) ?_ _
        have HN := hide ((unhide HNEXT).2 hlay)
        have HTE := hide ((unhide HTELL).2 hlay)
        rw [hlay] at HC5
        go_wp2_with fail
        refine (refused_go 6 w5).mono ?_
        rintro _ w6 ⟨rfl, hk6⟩
        have HC6 := hide ((unhide HC5).next hk6)
        clear hk6
        go_wp2_with fail
        refine (answer_go 6 .empty .nilFunc w6 (by decide) (by decide)).mono ?_
        rintro _ w7 ⟨rfl, hk7⟩
        have HC7 := hide ((unhide HC6).next hk7)
        clear hk7
        go_wp2_with fail
        go_ret
        have h7 := unhide HC7
        exact ⟨by rw [unhide HTE]; rfl, g5, by rw [unhide HN]; exact h7.v, h7.chg, h7.foot, h7.sl, h7.dp⟩
      | true =>
        refine wpAnyH_take (i := 6) (oi := { dst := some 50, op := Op.unOp UnOp.not 4 (Operand.tmp 49), type := 4, pos := "bailey.go:82", after := #[{ on := 5, ground := Ground.data }], guard := none }) (v := .bool false) rfl (by kernel_rfl) (by kernel_rfl) (by kernel_rfl) (fun _ _ _ h => h) (Or.inl ⟨by kernel_rfl, fun W hW => by kernel_rfl⟩) hHeld5 ?_
        simp only [Act.put, List.setIfInBounds_toArray, List.set_cons_zero, List.set_cons_succ]
        refine wpAnyH_done (by kernel_rfl) ?_ _
        have HN := hide ((unhide HNEXT).1 hlay)
        have HTE := hide ((unhide HTELL).1 hlay)
        rw [hlay] at HC5
        have hro := (unhide HC5).ro
        clear hHeld hHeld5
        go_wp2_with (first | (refine wpList_load_row rfl 86 (.tmp 6) rfl (w1.heap.size + 1) rfl 86 (ocells o.err o.more F) (0, 0) _ hro Tryz.underlying86 rfl info86 ?_))
        refine (show Calls Tryz.prog 44 #[.agg (ocells o.err o.more F)] w5 (fun e w6 => e = .returned (.tuple #[]) ∧ w6.heap[w1.heap.size + 1]? = some (.cells (ocells o.err o.more F) 86 (0, 0)) ∧ ∃ g6, VAt B w6 vp g6 (V.next s) ∧ Chg (Vft vp g) w w6 ∧ (∀ k, Vft vp g6 k → Vft vp g k ∨ w.heap.size ≤ k) ∧ g6.SL.map (·.p) = g.SL.map (·.p) ∧ g6.dp = g.dp) from ?_).mono ?_
        · have h5 := unhide HC5
          rcases unhide HTHEN with ⟨q', hq', e'⟩ | ⟨_, e'⟩
          · cases e'
            have hsto := h5.v.sto
            refine (carry_go B w.heap.size w5 g5.sp g5.tb g5.pb g5.L V.sto q F hsto h5.clo (unhide HB).ok.sto (readQ_ok hq') (by have := h5.chg.size; omega) h5.chg.size (fun k hk => ?_)).mono ?_
            · rw [h5.sto.1, h5.sto.2.1, h5.sto.2.2.1, h5.sto.2.2.2] at hk
              exact ((unhide HV).foot (.inr (.inr (.inr (.inr hk))))).1
            · rintro e6 w6 ⟨rfl, L6, hs6, hc6, hf6, hst6⟩
              obtain ⟨a1, a2, a3⟩ := h5.v.setS hs6 hst6 hc6 hf6
              refine ⟨rfl, row_over h5.ro hst6 (by decide), { g5 with L := L6 }, ?_, h5.chg.trans' a2 (fun k hk e => ?_), fun k hk => ?_, h5.sl, h5.dp⟩
              · rw [unhide HN, unhide HDG]; exact a1
              · rcases e with e | e
                · exact (h5.foot k e).elim id fun e => absurd hk (by omega)
                · exact absurd hk (by omega)
              · rcases a3 k hk with e | e
                · exact h5.foot k e
                · exact .inr e
          · cases e'
            obtain rfl : F = .nilFunc := h5.clo
            refine (carry_no 1 .empty w5).mono ?_
            rintro e6 w6 ⟨rfl, hk6⟩
            have h6 := h5.next hk6
            exact ⟨rfl, h6.ro, g5, by rw [unhide HN, unhide HDG]; exact h6.v, h6.chg, h6.foot, h6.sl, h6.dp⟩
        · rintro _ w6 ⟨rfl, hr6, hg6⟩
          have HG6 := hide hg6
          clear hg6 hro
          go_wp2_with (first | (refine wpList_load_row rfl 86 (.tmp 6) rfl (w1.heap.size + 1) rfl 86 (ocells o.err o.more F) (0, 0) _ hr6 Tryz.underlying86 rfl info86 ?_))
          refine (answer_go o.err o.more F w6 (by omega) (by omega)).mono ?_
          rintro _ w7 ⟨rfl, hk7⟩
          obtain ⟨g6, a1, a2, a3, a4, a5⟩ := unhide HG6
          have HG7 := hide (show VAt B w7 vp g6 (V.next s) ∧ Chg (Vft vp g) w w7 from ⟨a1.kept hk7, a2.trans' hk7.chg fun _ _ e => e.elim⟩)
          have HG8 := hide (And.intro a3 (And.intro a4 a5))
          clear hk7 a1 a2 a3 a4 a5 hr6
          go_wp2_with fail
          go_ret
          exact ⟨by rw [unhide HTE]; rfl, g6, (unhide HG7).1, (unhide HG7).2, (unhide HG8).1, (unhide HG8).2.1, (unhide HG8).2.2⟩
end Go.Proofs.YtlbacbcenejngaaGreatDoor
namespace Go.Proofs.YtlbacbcenejngaaGreatDoor
open Go.RowKit
theorem own_less {B B' : Nat} {w : World} {e : TypeId} {z : Nat} {v : Value} {n : Nat} {xs : List Value} (h : w.ownsRow B' e z v n xs) (hB : B ≤ B') : w.ownsRow B e z v n xs := by
  refine ⟨h.1, ?_⟩
  rcases h.2 with h' | ⟨g, c, cur, h1, h2, h3⟩
  · exact .inl h'
  · exact .inr ⟨g, c, cur, h1, Nat.le_trans hB h2, h3⟩
theorem setCell_self {w : World} {b j t : Nat} {cs : Array Value} {v : Value} (h : w.heap[b]? = some (.cells cs t (0, 0))) (hv : cs[j]? = some v) : w.setCell ⟨b, j, none⟩ v = w := by
  have hs : (w.setCell ⟨b, j, none⟩ v).heap = w.heap := by
    apply Array.ext_getElem?
    intro k
    by_cases hk : k = b
    · subst hk
      rw [heap_setCell_same _ _ _ _ _ _ h, h]
      have : cs.setIfInBounds j v = cs := by
        apply Array.ext_getElem?
        intro i
        rw [Array.getElem?_setIfInBounds]
        split
        · rename_i e; subst e
          have := (Array.getElem?_eq_some_iff.1 hv).1
          rw [if_pos this, hv]
        · rfl
      rw [this]
    · exact heap_setCell_other _ _ _ _ hk
  have : w.setCell ⟨b, j, none⟩ v = { w with heap := (w.setCell ⟨b, j, none⟩ v).heap } := rfl
  rw [this, hs]
set_option maxRecDepth 100000 in
set_option maxHeartbeats 2000000 in
theorem auditOpen_go (B : Nat) (w : World) (v : Value) (ps : List Nat) (b o cap : Nat) (SL : List (Loc Snk)) (h : PSl w v ps b o cap) (hs : Fam (PS B 81) w SL) (hsl : SL.map (·.p) = ps) (hx : ∀ e ∈ SL, e.x.data = .empty) (hp : ps.length ≤ 100) (hB : B ≤ w.heap.size) (hT : Table w) (hz : 0 < w.heap.size) :
    Calls Tryz.prog 62 #[v] w fun e w' => ∃ lp rv, e = .returned (.tuple #[.pointer (some ⟨lp, 0, none⟩), .slice none 0 0]) ∧ LAt B w' lp rv SL 0 zeros ∧ w.heap.size ≤ lp ∧ (∀ k, rv.ownBlock = some k → w.heap.size ≤ k) ∧ Kept w.heap.size w w' := by
  have HCL := hide (cloneS_go w v ps b o cap h hp)
  obtain ⟨a0, n0, c0, hv⟩ : ∃ a n c, v = .slice a n c := ⟨_, _, _, h.v⟩
  subst hv
  have HS := hide hs
  have HT := hide hT
  have hpl : SL.length = ps.length := by rw [← hsl]; simp
  have HX := hide hx
  have hmo : mostOf (SL.map (·.x)) .empty = .empty := by
    have : ∀ (l : List Snk), (∀ k ∈ l, k.data = .empty) → mostOf l .empty = .empty := fun l => by
      induction l with
      | nil => intro _; rfl
      | cons k l ih => intro hk; rw [mostOf, hk k (.head _), if_neg (by decide)]; exact ih fun x hx => hk x (.tail _ hx)
    exact this _ fun k hk => by obtain ⟨e, he, rfl⟩ := List.mem_map.1 hk; exact hx e he
  have HPT := hide (show pcells ps = SL.map fun e => Value.pointer (some ⟨e.p, 0, none⟩) by rw [← hsl, pcells, List.map_map]; rfl)
  have HPL := hide hpl
  clear h hs hT hx hsl hpl
  go_enter Tryz.func62, Tryz.ntmps62
  go_wp2_with fail
  refine (unhide HCL).mono ?_
  rintro _ w1 ⟨rv, rfl, ho, hk1⟩
  obtain ⟨ra, rc, hrv, _, _⟩ := own_len ho
  have HO := hide ho
  have HK1 := hide hk1
  have hz1 := hk1.size
  clear ho hk1 HCL
  subst hrv
  obtain ⟨w2, hw2⟩ : ∃ w2, w2 = w1.alloc (.cells (lcells (.slice ra ps.length rc) 0 zeros) 127) := ⟨_, rfl⟩
  have hk12 : Kept w1.heap.size w1 w2 := by rw [hw2]; exact (Kept.refl _ _).alloc (Nat.le_refl _) _
  have HL2 := hide (show LAt B w2 w1.heap.size (.slice ra ps.length rc) SL 0 zeros from
    ⟨by rw [hw2]; exact heap_alloc_new _ _, (by rw [unhide HPL, ← unhide HPT]; exact own_kept (own_less (unhide HO) hB) hk12), (unhide HS).kept (wayS B 81 (by decide)) ((unhide HK1).trans (hk12.mono hz1)), by omega, rfl⟩)
  have HK2 := hide ((unhide HK1).trans (hk12.mono hz1))
  have HRB := hide (show ∀ k, (Value.slice ra ps.length rc).ownBlock = some k → w.heap.size ≤ k from fun k hk => ((unhide HO).lt k hk).1)
  clear hk12
  go_upto_region 2 with fail
  change Code.wp _ _ _ _ (w1.alloc (.cells (lcells (.slice ra ps.length rc) 0 zeros) 127))
  rw [← hw2]
  clear hw2
  go_wp2_with fail
  refine (frames_go B w2 w1.heap.size (.slice ra ps.length rc) SL 0 zeros (unhide HL2) (by rw [unhide HPL]; omega) (fun e he => by rw [unhide HX e he]; decide)).mono ?_
  rintro _ wq ⟨rfl, hwq⟩
  obtain rfl : w2 = wq := hwq.symm
  rw [hmo]
  go_wp2_with fail
  refine (digests0_go w2 ((unhide HT).kept (unhide HK2) hz) (by have := (unhide HK2).size; omega)).mono ?_
  rintro _ w3 ⟨rfl, hk3⟩
  have HL3 := hide ((unhide HL2).kept hk3)
  have HK3 := hide ((unhide HK2).trans (hk3.mono (unhide HK2).size))
  clear hk3
  have at3 := (unhide HL3).at'
  have c1 := (unhide HL3).c.2.1
  have f1 := frozen_of_row _ _ 1 _ _ at3
  have hst : w3.setCell ⟨w1.heap.size, 1, none⟩ (.int .i64 0) = w3 := by
    have := setCell_self at3 (j := 1) (v := .int .i64 0) rfl
    exact this
  have HST := hide hst
  have c1' : (w3.setCell ⟨w1.heap.size, 1, none⟩ (.int .i64 0)).cell? ⟨w1.heap.size, 1, none⟩ = some (.int .i64 0) := by rw [hst]; exact c1
  clear hst at3
  go_wp2_with fail
  rw [unhide HST]
  go_ret2
  exact ⟨_, _, rfl, unhide HL3, by omega, unhide HRB, unhide HK3⟩
/-- What is so where a new vault lies. -/
def vlt0 (key root : ByteArray) (l : List Snk) : Vlt := ⟨key, dsk0, l, 0, zeros, sto0 root⟩
def opEnd (B : Nat) (w : World) (dp : Nat) (dv : Value) (SL : List (Loc Snk)) (key root : ByteArray) (e : Ending) (w' : World) : Prop :=
  ∃ vp g, e = .returned (.tuple #[.pointer (some ⟨vp, 0, none⟩), .int .i64 0]) ∧ VAt B w' vp g (vlt0 key root (SL.map (·.x))) ∧ g.SL = SL ∧ g.dp = dp ∧ Kept w.heap.size w w' ∧
    ∀ k, Vft vp g k → (k = dp ∨ dv.ownBlock = some k ∨ ∃ e ∈ SL, e.p = k ∨ e.v.ownBlock = some k) ∨ w.heap.size ≤ k
set_option maxRecDepth 100000 in
set_option maxHeartbeats 2000000 in
theorem open_go (B : Nat) (w : World) (dp : Nat) (dv : Value) (v : Value) (ps : List Nat) (b o cap : Nat) (SL : List (Loc Snk)) (key root : ByteArray) (hd : DAt B 117 149 w dp dv dsk0) (hdB : B ≤ dp) (h : PSl w v ps b o cap) (hs : Fam (PS B 81) w SL) (hsl : SL.map (·.p) = ps) (hx : ∀ e ∈ SL, e.x.data = .empty) (hp : 1 ≤ ps.length ∧ ps.length ≤ 4) (hr : isNm root = true) (hk : key.size ≤ 1000) (hB : B ≤ w.heap.size) (hT : Table w) (hz : 0 < w.heap.size) :
    Calls Tryz.prog 30 #[.pointer (some ⟨dp, 0, none⟩), v, .string key, .string root] w (opEnd B w dp dv SL key root) := by
  have HP := hide h
  have hv := h.v
  have HD := hide hd
  have HS := hide hs
  have HT := hide hT
  have hrs := isNm_8 hr
  clear h hd hs hT
  subst hv
  obtain ⟨n, hn⟩ : ∃ n, n = ps.length := ⟨_, rfl⟩
  rw [← hn] at hp
  have h1I : ¬ (n : Int) < 1 := by omega
  have h4I : ¬ (4 : Int) < (n : Int) := by omega
  have HN := hide hn
  rw [← hn]
  clear hn
  go_enter Tryz.func30, Tryz.ntmps30
  go_wp2_with fail
  refine (show Calls Tryz.prog 59 #[.slice (some ⟨b, o, none⟩) n cap, .pointer none] w _ from by rw [unhide HN]; exact contains_go w _ ps b o cap (unhide HP) (by rw [← unhide HN]; omega)).mono ?_
  rintro _ wq ⟨rfl, hwq⟩
  obtain rfl : w = wq := hwq.symm
  clear hwq
  go_wp2_with fail
  refine (isName_go root w (by omega)).mono ?_
  rintro _ wq ⟨rfl, hwq⟩
  obtain rfl : w = wq := hwq.symm
  clear hwq
  rw [hr]
  go_wp2_with fail
  refine (jopen_go B w dp dv (unhide HD)).mono ?_
  rintro _ w1 ⟨rfl, hj1, hk1⟩
  have HK1 := hide hk1
  have hz1 := hk1.size
  have hlj : w.heap.size < w1.heap.size := (Array.getElem?_eq_some_iff.1 hj1).1
  clear hk1
  go_wp2_with fail
  refine (show Calls Tryz.prog 62 #[.slice (some ⟨b, o, none⟩) n cap] w1 _ from by rw [unhide HN]; exact auditOpen_go B w1 _ ps b o cap SL ((unhide HP).kept (unhide HK1)) ((unhide HS).kept (wayS B 81 (by decide)) (unhide HK1)) hsl hx (by rw [← unhide HN]; omega) (by omega) ((unhide HT).kept (unhide HK1) hz) (by omega)).mono ?_
  rintro _ w2 ⟨lp, rv, rfl, hl2, hlp, hrv, hk2⟩
  have HL2 := hide hl2
  have HRV := hide hrv
  have HK2 := hide hk2
  have hz2 := hk2.size
  clear hl2 hrv hk2
  go_wp2_with fail
  refine (clone_go key w2 (by omega)).mono ?_
  rintro _ w3 ⟨rfl, hk3⟩
  have HK3 := hide hk3
  have hz3 := hk3.size
  clear hk3
  go_wp2_with fail
  refine (newSto_go B w3 root (by omega) (by omega)).mono ?_
  rintro _ w4 ⟨sp, tb, pb, rfl, hs4, hf4, hk4⟩
  have HS4 := hide hs4
  have HF4 := hide hf4
  have HK4 := hide hk4
  have hz4 := hk4.size
  clear hs4 hf4 hk4
  have HKW := hide (show Kept w.heap.size w w4 from (((unhide HK1).trans ((unhide HK2).mono hz1)).trans ((unhide HK3).mono (by omega))).trans ((unhide HK4).mono (by omega)))
  obtain ⟨w5, hw5⟩ : ∃ w5, w5 = w4.alloc (.cells #[.string key, .pointer (some ⟨w.heap.size, 0, none⟩), .pointer (some ⟨lp, 0, none⟩), .pointer (some ⟨sp, 0, none⟩), .bool false] 78) := ⟨_, rfl⟩
  have hk45 : Kept w4.heap.size w4 w5 := by rw [hw5]; exact (Kept.refl _ _).alloc (Nat.le_refl _) _
  have HV := hide (show VAt B w5 w4.heap.size ⟨w.heap.size, dp, dv, lp, rv, SL, sp, tb, pb, []⟩ (vlt0 key root (SL.map (·.x))) from
    ⟨by rw [hw5]; exact heap_alloc_new _ _, (hk45.block w.heap.size (by omega)).trans (((unhide HK4).block w.heap.size (by omega)).trans (((unhide HK3).block w.heap.size (by omega)).trans (((unhide HK2).block w.heap.size (by omega)).trans hj1))), ((unhide HD).kept (unhide HKW)).kept hk45, (((unhide HL2).kept (unhide HK3)).kept (unhide HK4)).kept hk45, rfl, (unhide HS4).kept hk45, ⟨by show B ≤ w4.heap.size; omega, by show B ≤ w.heap.size; omega, hdB⟩⟩)
  have HK5 := hide ((unhide HKW).trans (hk45.mono (by omega)))
  have HFT := hide (show ∀ k, Vft w4.heap.size ⟨w.heap.size, dp, dv, lp, rv, SL, sp, tb, pb, []⟩ k → (k = dp ∨ dv.ownBlock = some k ∨ ∃ e ∈ SL, e.p = k ∨ e.v.ownBlock = some k) ∨ w.heap.size ≤ k from fun k hk => by
    rcases hk with rfl | rfl | hk | hk | hk
    · exact .inr (by omega)
    · exact .inr (Nat.le_refl _)
    · rcases hk with hk | hk
      · exact .inl (.inl hk)
      · exact .inl (.inr (.inl hk))
    · rcases hk with hk | hk | hk
      · exact .inr (by have hk' : k = lp := hk; omega)
      · exact .inr (by have := unhide HRV k hk; omega)
      · exact .inl (.inr (.inr hk))
    · exact .inr (by have := unhide HF4 k hk; omega))
  clear hk45
  go_upto_region 8 with fail
  rw [← hw5]
  clear hw5
  go_wp2_with fail
  refine (requests_go B w5 w.heap.size dp dv (unhide HV).jat (unhide HV).dsk).mono ?_
  rintro _ w6 ⟨rfl, hk6⟩
  have HV6 := hide ((unhide HV).kept hk6)
  have HK6 := hide ((unhide HK5).trans (hk6.mono (unhide HK5).size))
  clear hk6
  go_wp2_with fail
  go_loopw [60] (fun vi wr => vi = .int .i64 0 ∧ wr = w6) (fun _ _ => 0)
  case atStart => exact ⟨rfl, rfl⟩
  case round =>
    obtain ⟨rfl, hwr⟩ := hrel
    obtain rfl : w6 = wr := hwr.symm
    clear hwr
    go_wp2_with fail
    go_ret2
    exact ⟨_, _, rfl, unhide HV6, rfl, rfl, unhide HK6, unhide HFT⟩
end Go.Proofs.YtlbacbcenejngaaGreatDoor
namespace Go.Proofs.YtlbacbcenejngaaGreatDoor
open Go.RowKit
def i64 (c : Int) : Prop := -9223372036854775808 ≤ c ∧ c ≤ 9223372036854775807
def pkI (c : Int) (n : Nat) : Nat := ((if c < 0 then -(c + 1) else c) % (n : Int)).toNat
theorem pkI_lt (c : Int) {n : Nat} (hn : 0 < n) : pkI c n < n := by
  unfold pkI
  have h1 := Int.emod_lt_of_pos (if c < 0 then -(c + 1) else c) (show (0 : Int) < n by omega)
  have h2 := Int.emod_nonneg (if c < 0 then -(c + 1) else c) (show (n : Int) ≠ 0 by omega)
  omega
set_option maxRecDepth 100000 in
set_option maxHeartbeats 1000000 in
theorem pickE_go (c : Int) (n : Nat) (w : World) (hc : i64 c) (hn : 0 < n) (hm : n ≤ 140737488355328) :
    Calls Tryz.prog 15 #[.int .i64 c, .int .i64 n] w fun e w' => e = .returned (.int .i64 (pkI c n : Int)) ∧ w' = w := by
  have hn0 : (n : Int) ≠ 0 := by omega
  have hmod : ∀ x : Int, 0 ≤ x → x.tmod (n : Int) = ((x % (n : Int)).toNat : Int) := fun x hx => by
    rw [Int.tmod_eq_emod_of_nonneg hx, Int.toNat_of_nonneg (Int.emod_nonneg _ hn0)]
  have h0 := hc.1
  have h1 := hc.2
  by_cases hneg : c < 0
  · have ht := hmod (-(c + 1)) (by omega)
    have HP := hide (show pkI c n = ((-(c + 1)) % (n : Int)).toNat by unfold pkI; rw [if_pos hneg])
    obtain ⟨r, hr⟩ : ∃ r, r = ((-(c + 1)) % (n : Int)).toNat := ⟨_, rfl⟩
    rw [← hr] at ht HP
    clear hmod hr
    go_enter Tryz.func15, Tryz.ntmps15
    go_wp2_with fail
    go_ret
    exact ⟨by rw [unhide HP]; rfl, rfl⟩
  · have ht := hmod c (by omega)
    have HP := hide (show pkI c n = (c % (n : Int)).toNat by unfold pkI; rw [if_neg hneg])
    obtain ⟨r, hr⟩ : ∃ r, r = (c % (n : Int)).toNat := ⟨_, rfl⟩
    rw [← hr] at ht HP
    clear hmod hr
    go_enter Tryz.func15, Tryz.ntmps15
    go_wp2_with fail
    go_ret
    exact ⟨by rw [unhide HP]; rfl, rfl⟩
set_option maxRecDepth 100000 in
set_option maxHeartbeats 1000000 in
theorem text_go (s : ByteArray) (w : World) (hs : s.size ≤ 140737488355328) : Calls Tryz.prog 20 #[.string s] w fun e w' => e = .returned (.string (txt s)) ∧ Kept w.heap.size w w' := by
  have h1 : (bs [UInt8.ofNat s.size]).size = 1 := by rw [bs_size]; rfl
  have HT := hide (txt_eq s)
  have hcv : (convert 58 9 (.slice (some ⟨w.heap.size, 0, none⟩) 1 1)).run Tryz.prog (w.alloc (.cells #[.int .u8 ((s.size : Int) % 256)] 5)) = .ok (.string (bs [UInt8.ofNat s.size])) (w.alloc (.cells #[.int .u8 ((s.size : Int) % 256)] 5)) := by rw [byte_nat]; exact conv_one _ _
  have HK := hide ((Kept.refl w.heap.size w).alloc (Nat.le_refl _) (.cells #[.int .u8 ((s.size : Int) % 256)] 5))
  have hnz : (9223372036854775807 < (bs [UInt8.ofNat s.size]).size + s.size) = False := eq_false (by omega)
  generalize bs [UInt8.ofNat s.size] = b1 at *
  go_enter Tryz.func20, Tryz.ntmps20
  go_wp2_with fail
  go_ret
  exact ⟨by rw [← unhide HT]; rfl, unhide HK⟩
def pathL : List ByteArray := [⟨#[97]⟩, ⟨#[97, 47, 98]⟩, ⟨#[97, 47, 99]⟩, ⟨#[98]⟩, ⟨#[98, 47]⟩, ⟨#[97, 98]⟩, ⟨#[99, 47, 100, 47, 101]⟩]
def tokL : List ByteArray := [⟨#[97, 100, 109]⟩, ⟨#[106, 111, 101]⟩, ⟨#[101, 118, 101]⟩, ⟨#[115, 97, 109]⟩]
def pathOf (c : Int) : ByteArray := pathL.getD (pkI c 7) .empty
def tokOf (c : Int) : ByteArray := tokL.getD (pkI c 4) .empty
set_option maxRecDepth 100000 in
set_option maxHeartbeats 1000000 in
theorem path_go (c : Int) (w : World) (hc : i64 c) : Calls Tryz.prog 21 #[.int .i64 c] w fun e w' => e = .returned (.string (pathOf c)) ∧ Kept w.heap.size w w' := by
  have hk := pkI_lt c (n := 7) (by decide)
  have HP := hide (fun W => pickE_go c 7 W hc (by decide) (by decide))
  have hcell : (w.alloc (.cells (pathL.map Value.string).toArray 9)).cell? ⟨w.heap.size, pkI c 7, none⟩ = some (.string (pathOf c)) := by
    rw [cell_of_row _ _ _ _ _ _ (heap_alloc_new _ _), pathOf, ← Array.getElem?_toList]
    show (pathL.map Value.string)[pkI c 7]? = _
    rw [List.getElem?_map, List.getD_eq_getElem?_getD, List.getElem?_eq_getElem (show pkI c 7 < pathL.length from hk)]; rfl
  have HK := hide ((Kept.refl w.heap.size w).alloc (Nat.le_refl _) (.cells (pathL.map Value.string).toArray 9))
  obtain ⟨w1, hw1⟩ : ∃ w1, w1 = w.alloc (.cells (pathL.map Value.string).toArray 9) := ⟨_, rfl⟩
  rw [← hw1] at hcell HK
  have HR := hide (show pathOf c = pathOf c from rfl)
  generalize pathOf c = r at *
  generalize pkI c 7 = k at *
  have hkI : (k : Int) < 7 := by omega
  have hk0 : (0 : Int) ≤ (k : Int) := by omega
  go_enter Tryz.func21, Tryz.ntmps21
  go_upto_region 2 with fail
  change Code.wp _ _ _ _ (w.alloc (.cells (pathL.map Value.string).toArray 9))
  rw [← hw1]
  clear hw1
  go_wp2_with fail
  refine (unhide HP w1).mono ?_
  rintro _ wq ⟨rfl, hwq⟩
  obtain rfl : w1 = wq := hwq.symm
  go_wp2_with fail
  go_ret
  exact ⟨rfl, unhide HK⟩
set_option maxRecDepth 100000 in
set_option maxHeartbeats 1000000 in
theorem token_go (c : Int) (w : World) (hc : i64 c) : Calls Tryz.prog 24 #[.int .i64 c] w fun e w' => e = .returned (.string (tokOf c)) ∧ Kept w.heap.size w w' := by
  have hk := pkI_lt c (n := 4) (by decide)
  have HP := hide (fun W => pickE_go c 4 W hc (by decide) (by decide))
  have hcell : (w.alloc (.cells (tokL.map Value.string).toArray 9)).cell? ⟨w.heap.size, pkI c 4, none⟩ = some (.string (tokOf c)) := by
    rw [cell_of_row _ _ _ _ _ _ (heap_alloc_new _ _), tokOf, ← Array.getElem?_toList]
    show (tokL.map Value.string)[pkI c 4]? = _
    rw [List.getElem?_map, List.getD_eq_getElem?_getD, List.getElem?_eq_getElem (show pkI c 4 < tokL.length from hk)]; rfl
  have HK := hide ((Kept.refl w.heap.size w).alloc (Nat.le_refl _) (.cells (tokL.map Value.string).toArray 9))
  obtain ⟨w1, hw1⟩ : ∃ w1, w1 = w.alloc (.cells (tokL.map Value.string).toArray 9) := ⟨_, rfl⟩
  rw [← hw1] at hcell HK
  generalize tokOf c = r at *
  generalize pkI c 4 = k at *
  have hkI : (k : Int) < 4 := by omega
  have hk0 : (0 : Int) ≤ (k : Int) := by omega
  go_enter Tryz.func24, Tryz.ntmps24
  go_upto_region 2 with fail
  change Code.wp _ _ _ _ (w.alloc (.cells (tokL.map Value.string).toArray 9))
  rw [← hw1]
  clear hw1
  go_wp2_with fail
  refine (unhide HP w1).mono ?_
  rintro _ wq ⟨rfl, hwq⟩
  obtain rfl : w1 = wq := hwq.symm
  go_wp2_with fail
  go_ret
  exact ⟨rfl, unhide HK⟩
def filTo (n : Nat) (c : UInt8) (i : Nat) : List UInt8 := List.replicate i c ++ List.replicate (n - i) 0
theorem filTo_len {n i : Nat} (c : UInt8) (h : i ≤ n) : (filTo n c i).length = n := by simp [filTo]; omega
theorem filTo_set {n i : Nat} (c : UInt8) (h : i < n) : (filTo n c i).set i c = filTo n c (i + 1) := by
  unfold filTo
  rw [List.set_append_right _ _ (by simp), List.length_replicate, Nat.sub_self, show n - i = (n - (i + 1)) + 1 by omega, List.replicate_succ, List.set_cons_zero, List.replicate_succ', List.append_assoc]
  rfl
def filled (n : Int) (c : UInt8) : ByteArray := bs (List.replicate (pkI n 41) c)
set_option maxRecDepth 100000 in
set_option maxHeartbeats 1000000 in
theorem filled_go (x : Int) (c : UInt8) (w : World) (hx : i64 x) : Calls Tryz.prog 32 #[.int .i64 x, .int .u8 (c.toNat : Int)] w fun e w' => e = .returned (.string (filled x c)) ∧ Kept w.heap.size w w' := by
  have hn := pkI_lt x (n := 41) (by decide)
  have HP := hide (fun W => pickE_go x 41 W hx (by decide) (by decide))
  have HF := hide (show filled x c = bs (List.replicate (pkI x 41) c) from rfl)
  generalize pkI x 41 = n at *
  have hmk := make_bytes n _ rfl (by omega)
  go_enter Tryz.func32, Tryz.ntmps32
  go_wp2_with fail
  refine (unhide HP w).mono ?_
  rintro _ wq ⟨rfl, hwq⟩
  obtain rfl : w = wq := hwq.symm
  go_wp2_with fail
  go_loopw [6] (fun v wr => ∃ i : Nat, i ≤ n ∧ v = .int .i64 i ∧ wr.heap[w.heap.size]? = some (.cells (brow (filTo n c i)) 5 (0, 0)) ∧ Kept w.heap.size w wr) (fun v _ => n - (intOf v).toNat)
  case atStart =>
    refine ⟨0, Nat.zero_le _, rfl, ?_, (Kept.refl _ _).alloc (Nat.le_refl _) _⟩
    rw [heap_alloc_new]
    simp [filTo, brow]
  case round =>
    obtain ⟨i, hi, rfl, hb, hl⟩ := hrel
    have hlen := filTo_len c hi
    by_cases hlt : i < n
    · have hcl : wr.cell? ⟨w.heap.size, i, none⟩ = some (.int .u8 (((filTo n c i).getD i 0).toNat : Int)) := (cell_of_row _ _ _ _ _ _ hb).trans (brow_get (by omega))
      have hfz := frozen_of_row _ _ i _ _ hb
      have hiI : (i : Int) < (n : Int) := by omega
      have hi0 : (0 : Int) ≤ (i : Int) := by omega
      have Hb := hide hb
      have Hl := hide hl
      clear hb hl hlen
      go_wp2_with fail
      go_roundw
      case rel =>
        refine ⟨i + 1, by omega, by go_num, ?_, (unhide Hl).setCell (p := ⟨w.heap.size, i, none⟩) (Nat.le_refl _) _⟩
        rw [← filTo_set c hlt]
        rw [heap_setCell_same _ _ _ _ _ _ (unhide Hb), brow_set]
        rfl
      case measure => simp [intOf]; omega
    · obtain rfl : i = n := by omega
      have hiI : ¬ (i : Int) < (i : Int) := by omega
      have hcv := conv_brow (P := Tryz.prog) hb 58 5 9 Tryz.underlying58 Tryz.underlying5 Tryz.underlying9 i i hlen.symm
      have HE := hide (show filTo i c i = List.replicate i c by simp [filTo])
      have Hl := hide hl
      clear hb hlen hl
      go_wp2_with fail
      go_ret
      exact ⟨by rw [unhide HF, ← unhide HE]; rfl, unhide Hl⟩
end Go.Proofs.YtlbacbcenejngaaGreatDoor
namespace Go.Proofs.YtlbacbcenejngaaGreatDoor
open Go.RowKit
/-- A step of a script. -/
structure Stq where
  kind : Int
  tok : Int
  a : Int
  b : Int
  s : ByteArray
  lv : Value
  l : List Int
def Stq.cells (o : Stq) : Array Value := #[.int .i64 o.kind, .int .i64 o.tok, .int .i64 o.a, .int .i64 o.b, .string o.s, o.lv]
structure Stq.Fit (o : Stq) : Prop where
  kind : i64 o.kind
  tok : i64 o.tok
  a : i64 o.a
  b : i64 o.b
  s : o.s.size ≤ 4194304
def reqB (o : Stq) (v : ByteArray) : ByteArray :=
  if o.kind = 0 then bs [80] ++ (txt (tokOf o.tok) ++ (txt (pathOf o.a) ++ txt v))
  else if o.kind = 1 then bs [71] ++ (txt (tokOf o.tok) ++ (txt (pathOf o.a) ++ bs [UInt8.ofNat (pkI o.b 4)]))
  else if o.kind = 2 then bs [68] ++ (txt (tokOf o.tok) ++ txt (pathOf o.a))
  else if o.kind = 3 then bs [76] ++ (txt (tokOf o.tok) ++ txt ((pathOf o.a).extract 0 (pkI o.b 2)))
  else if o.kind = 4 then bs [84] ++ (txt (tokOf o.tok) ++ (txt (tokOf o.a) ++ (txt ((pathOf o.b).extract 0 (pkI o.b 2)) ++ bs [UInt8.ofNat (1 + pkI o.b 7)])))
  else if o.kind = 5 then bs [82] ++ (txt (tokOf o.tok) ++ txt (tokOf o.a))
  else o.s
theorem pathOf_size (c : Int) : 1 ≤ (pathOf c).size ∧ (pathOf c).size ≤ 5 := by
  unfold pathOf
  have := pkI_lt c (n := 7) (by decide)
  exact (show ∀ k, k < 7 → 1 ≤ (pathL.getD k .empty).size ∧ (pathL.getD k .empty).size ≤ 5 by decide) _ this
theorem tokOf_size (c : Int) : (tokOf c).size = 3 := by
  unfold tokOf
  have := pkI_lt c (n := 4) (by decide)
  exact (show ∀ k, k < 4 → (tokL.getD k .empty).size = 3 by decide) _ this
theorem conv_byte (n : Nat) (_h : n < 256) (w : World) : (convert 3 5 (.int .i64 (n : Int))).run Tryz.prog w = .ok (.int .u8 ((UInt8.ofNat n).toNat : Int)) w := by
  have h3 := Tryz.underlying3
  have h7 := Tryz.underlying5
  have hw : IntKind.u8.wrap (n : Int) = ((UInt8.ofNat n).toNat : Int) := by simp [IntKind.wrap, IntKind.bits, IntKind.signed]
  simp [convert, go_sem, hw]
theorem wp_conv_one {w : World} {o : Oper} {a : Act} {K : Act → World → Prop} {Q : Exit → Act → World → Prop} {x : Operand} (ho : o.op = .convert 58 9 x) (c : UInt8) (w0 : World) (hw : w = w0.alloc (.cells #[.int .u8 (c.toNat : Int)] 5)) (hx : a.eval x = .slice (some ⟨w0.heap.size, 0, none⟩) 1 1) (h : K (a.put o.dst (.string (bs [c]))) w) : o.wp Tryz.prog a w K Q := by
  have := conv_one c w0
  rw [← hw] at this
  unfold Oper.wp
  simp [execOp, ho, hx, this, Result.andThen, Oper.upon]
  exact h
theorem cut_str (P : ByteArray) (k : Nat) (h : k ≤ P.size) (w : World) : (Instr.sliceAt 9 (.string P) none (some (.int .i64 (k : Int))) none).run Tryz.prog w = .ok (.string (P.extract 0 k)) w := by
  have hu := Tryz.underlying9
  have h1 : (k : Int) ≤ (P.size : Int) := by omega
  have h2 : ¬ (P.size : Int) < (k : Int) := by omega
  simp [Instr.sliceAt, Instr.slice, go_sem, h1]
theorem yieldsIf_cut {ops : Array Oper} {S : World → Prop} {op : Oper} {a : Act} (hw : Region.wanted op (yielded ops a.tmps) = true) (x y : Operand) (ho : op.op = .slice 9 x none (some y) none) {vx vy v : Value}
    (hr : ∀ W, (Instr.sliceAt 9 vx none (some vy) none).run Tryz.prog W = .ok v W) (hx : a.eval x = vx) (hy : a.eval y = vy) : YieldsIf Tryz.prog ops S op v a :=
  .inl ⟨hw, fun W _ => by
    unfold execOp
    simp only [ho, Option.map_none, Option.map_some, hx, hy, Sem.run_bind, hr W, Result.andThen_ok, Sem.run_pure]⟩
def SRq (w : World) (o : Stq) (W : World) : Prop := W.cell? ⟨w.heap.size, 2, none⟩ = some (.int .i64 o.a) ∧ W.cell? ⟨w.heap.size, 3, none⟩ = some (.int .i64 o.b)
set_option maxRecDepth 100000 in
set_option maxHeartbeats 4000000 in
theorem request_go (o : Stq) (v : ByteArray) (w : World) (h : o.Fit) (hv : v.size ≤ 1000) : Calls Tryz.prog 23 #[.agg o.cells, .string v] w fun e w' => e = .returned (.string (reqB o v)) ∧ Kept w.heap.size w w' := by
  obtain ⟨w1, hw1⟩ : ∃ w1, w1 = w.alloc (.cells o.cells 40) := ⟨_, rfl⟩
  have hbx : w1.heap[w.heap.size]? = some (.cells o.cells 40 (0, 0)) := by rw [hw1]; exact heap_alloc_new _ _
  have HK1 := hide (show Kept w.heap.size w w1 by rw [hw1]; exact (Kept.refl _ _).alloc (Nat.le_refl _) _)
  have hz1 : w1.heap.size = w.heap.size + 1 := by rw [hw1]; simp
  have hc1 : w1.cell? ⟨w.heap.size, 1, none⟩ = some (.int .i64 o.tok) := by rw [cell_of_row _ _ _ _ _ _ hbx]; rfl
  have HC := hide (show ∀ W, Kept w1.heap.size w1 W → SRq w o W ∧ W.cell? ⟨w.heap.size, 0, none⟩ = some (.int .i64 o.kind) ∧ W.cell? ⟨w.heap.size, 4, none⟩ = some (.string o.s) from fun W hW => by
    have hb := (hW.block _ (by omega)).trans hbx
    exact ⟨⟨by rw [cell_of_row _ _ _ _ _ _ hb]; rfl, by rw [cell_of_row _ _ _ _ _ _ hb]; rfl⟩, by rw [cell_of_row _ _ _ _ _ _ hb]; rfl, by rw [cell_of_row _ _ _ _ _ _ hb]; rfl⟩)
  have HF := hide h
  have ht3 := tokOf_size o.tok
  go_enter Tryz.func23, Tryz.ntmps23
  go_upto_region 1 with fail
  rw [← hw1]
  clear hw1 h hbx
  go_wp2_with fail
  refine (token_go o.tok w1 (unhide HF).tok).mono ?_
  rintro _ w2 ⟨rfl, hk2⟩
  have HK2 := hide hk2
  clear hk2
  go_wp2_with fail
  refine (text_go (tokOf o.tok) w2 (by omega)).mono ?_
  rintro _ w3 ⟨rfl, hk3⟩
  have HK3 := hide ((unhide HK2).trans (hk3.mono (unhide HK2).size))
  clear hk3 HK2 hc1
  have hcs := unhide HC w3 (unhide HK3)
  have hk0 := hcs.2.1
  have HC3 := hide hcs
  clear hcs
  have hTs := txt_size (tokOf o.tok)
  obtain ⟨T, hT⟩ : ∃ T, T = txt (tokOf o.tok) := ⟨_, rfl⟩
  rw [← hT] at hTs ⊢
  have HT := hide hT
  clear hT
  have hTz : T.size = 4 := by omega
  have hp5 := pathOf_size o.a
  have hPs := txt_size (pathOf o.a)
  have q80 : (⟨#[80]⟩ : ByteArray).size = 1 := rfl
  have q71 : (⟨#[71]⟩ : ByteArray).size = 1 := rfl
  have q68 : (⟨#[68]⟩ : ByteArray).size = 1 := rfl
  have q76 : (⟨#[76]⟩ : ByteArray).size = 1 := rfl
  have q84 : (⟨#[84]⟩ : ByteArray).size = 1 := rfl
  have q82 : (⟨#[82]⟩ : ByteArray).size = 1 := rfl
  have HKW := hide (show ∀ W, Kept w3.heap.size w3 W → Kept w.heap.size w W from fun W hW => ((unhide HK1).trans ((unhide HK3).mono (by omega))).trans (hW.mono (by have := (unhide HK3).size; omega)))
  have HCW := hide (show ∀ W, Kept w3.heap.size w3 W → SRq w o W from fun W hW => (unhide HC W ((unhide HK3).trans (hW.mono (unhide HK3).size))).1)
  clear HC hTs ht3
  by_cases k0 : o.kind = 0
  · have HR := hide (show reqB o v = bs [80] ++ (txt (tokOf o.tok) ++ (txt (pathOf o.a) ++ txt v)) by unfold reqB; rw [if_pos k0])
    have kI : ((o.kind : Int) == 0) = true := by simpa using k0
    have ca := (unhide HC3).1.1
    have n1 : (9223372036854775807 < (⟨#[80]⟩ : ByteArray).size + T.size) = False := eq_false (by omega)
    obtain ⟨X1, hX1⟩ : ∃ X, X = (⟨#[80]⟩ : ByteArray) ++ T := ⟨_, rfl⟩
    have z1 : X1.size = 5 := by rw [hX1, ByteArray.size_append]; omega
    have e1 := hX1.symm
    have HX1 := hide hX1
    clear hX1
    go_wp2_with fail
    refine (path_go o.a w3 (unhide HF).a).mono ?_
    rintro _ w4 ⟨rfl, hk4⟩
    have HK4 := hide hk4
    clear hk4
    go_wp2_with fail
    refine (text_go (pathOf o.a) w4 (by omega)).mono ?_
    rintro _ w5 ⟨rfl, hk5⟩
    have HK5 := hide ((unhide HK4).trans (hk5.mono (unhide HK4).size))
    clear hk5
    obtain ⟨P, hP⟩ : ∃ P, P = txt (pathOf o.a) := ⟨_, rfl⟩
    rw [← hP] at hPs ⊢
    have HP := hide hP
    clear hP
    have n2 : (9223372036854775807 < X1.size + P.size) = False := eq_false (by omega)
    obtain ⟨X2, hX2⟩ : ∃ X, X = X1 ++ P := ⟨_, rfl⟩
    have z2 : X2.size ≤ 20 := by rw [hX2, ByteArray.size_append]; omega
    have e2 := hX2.symm
    have HX2 := hide hX2
    clear hX2
    go_wp2_with fail
    refine (text_go v w5 (by omega)).mono ?_
    rintro _ w6 ⟨rfl, hk6⟩
    have HK6 := hide ((unhide HK5).trans (hk6.mono (unhide HK5).size))
    clear hk6
    have hVs := txt_size v
    obtain ⟨Y, hY⟩ : ∃ Y, Y = txt v := ⟨_, rfl⟩
    rw [← hY] at hVs ⊢
    have HY := hide hY
    clear hY
    have n3 : (9223372036854775807 < X2.size + Y.size) = False := eq_false (by omega)
    go_wp2_with fail
    go_ret
    exact ⟨by rw [unhide HR, ← unhide HT, ← unhide HP, ← unhide HY, ← ba_assoc, ← ba_assoc, show bs [80] ++ T = X1 from e1, e2]; rfl, unhide HKW _ (unhide HK6)⟩
  by_cases k1 : o.kind = 1
  · have HR := hide (show reqB o v = bs [71] ++ (txt (tokOf o.tok) ++ (txt (pathOf o.a) ++ bs [UInt8.ofNat (pkI o.b 4)])) by unfold reqB; rw [if_neg k0, if_pos k1])
    have hkb := pkI_lt o.b (n := 4) (by decide)
    obtain ⟨kb, hkb2⟩ : ∃ k, k = pkI o.b 4 := ⟨_, rfl⟩
    have HPK := hide (fun W => pickE_go o.b 4 W (unhide HF).b (by decide) (by decide))
    rw [← hkb2] at hkb HPK
    have HKB := hide hkb2
    clear hkb2
    have hcb := conv_byte kb (by omega)
    obtain ⟨P, hP⟩ : ∃ P, P = txt (pathOf o.a) := ⟨_, rfl⟩
    have HTX := hide (fun W => text_go (pathOf o.a) W (by omega))
    rw [← hP] at hPs HTX
    have HP := hide hP
    clear hP
    have sb : (bs [UInt8.ofNat kb]).size = 1 := bs_size _
    have n1 : (9223372036854775807 < (⟨#[71]⟩ : ByteArray).size + T.size) = False := eq_false (by omega)
    obtain ⟨X1, hX1⟩ : ∃ X, X = (⟨#[71]⟩ : ByteArray) ++ T := ⟨_, rfl⟩
    have z1 : X1.size = 5 := by rw [hX1, ByteArray.size_append]; omega
    have e1 := hX1.symm
    clear hX1
    have n2 : (9223372036854775807 < X1.size + P.size) = False := eq_false (by omega)
    obtain ⟨X2, hX2⟩ : ∃ X, X = X1 ++ P := ⟨_, rfl⟩
    have z2 : X2.size ≤ 20 := by rw [hX2, ByteArray.size_append]; omega
    have e2 := hX2.symm
    clear hX2
    have n3 : (9223372036854775807 < X2.size + (bs [UInt8.ofNat kb]).size) = False := eq_false (by omega)
    obtain ⟨X3, hX3⟩ : ∃ X, X = X2 ++ bs [UInt8.ofNat kb] := ⟨_, rfl⟩
    have e3 := hX3.symm
    clear hX3
    go_wp2_with fail
    refine wp_region_held_drew (S := SRq w o) (by kernel_rfl) (unhide HCW w3.drew ((Kept.refl _ _).draws 1)) (fun hHeld => ?_)
    refine wpAnyH_take (i := 0) (oi := { dst := some 26, op := Op.move (Operand.tmp 5), type := 9, pos := "keeps.go:87", after := #[], guard := none }) (v := .string T) rfl (by kernel_rfl) (by kernel_rfl) (by kernel_rfl) (fun _ _ _ h => h) (Or.inl ⟨by kernel_rfl, fun W hW => by kernel_rfl⟩) hHeld ?_
    simp only [Act.put, List.setIfInBounds_toArray, List.set_cons_zero, List.set_cons_succ]
    refine wpAnyH_take (i := 1) (oi := { dst := some 27, op := Op.binOp BinOp.add 9 (Operand.const (Value.string { data := #[71] })) (Operand.tmp 26) 9, type := 9, pos := "keeps.go:87", after := #[{ on := 0, ground := Ground.data }], guard := none }) (v := .string X1) rfl (by kernel_rfl) (by kernel_rfl) (by kernel_rfl) (fun _ _ _ h => h) (Or.inl ⟨by kernel_rfl, fun W hW => by simp [execOp, go_sem, e1, hTz]⟩) hHeld ?_
    simp only [Act.put, List.setIfInBounds_toArray, List.set_cons_zero, List.set_cons_succ]
    refine wpAnyH_take (i := 2) (oi := { dst := some 28, op := Op.fieldAddr 40 (Operand.tmp 2) 2, type := 0, pos := "keeps.go:87", after := #[], guard := none }) (v := .pointer (some ⟨w.heap.size, 2, none⟩)) rfl (by kernel_rfl) (by kernel_rfl) (by kernel_rfl) (fun _ _ _ h => h) (Or.inl ⟨by kernel_rfl, fun W hW => by kernel_rfl⟩) hHeld ?_
    simp only [Act.put, List.setIfInBounds_toArray, List.set_cons_zero, List.set_cons_succ]
    refine wpAnyH_take (i := 3) (oi := { dst := some 29, op := Op.load 3 (Operand.tmp 28), type := 3, pos := "keeps.go:87", after := #[{ on := 2, ground := Ground.data }], guard := none }) (v := .int .i64 o.a) rfl (by kernel_rfl) (by kernel_rfl) (by kernel_rfl) (fun _ _ _ h => h) (Or.inl ⟨by kernel_rfl, fun W hW => by simp [execOp, go_sem, hW.1]⟩) hHeld ?_
    simp only [Act.put, List.setIfInBounds_toArray, List.set_cons_zero, List.set_cons_succ]
    refine wpAnyH_take (i := 7) (oi := { dst := some 33, op := Op.fieldAddr 40 (Operand.tmp 2) 3, type := 0, pos := "keeps.go:87", after := #[], guard := none }) (v := .pointer (some ⟨w.heap.size, 3, none⟩)) rfl (by kernel_rfl) (by kernel_rfl) (by kernel_rfl) (fun _ _ _ h => h) (Or.inl ⟨by kernel_rfl, fun W hW => by kernel_rfl⟩) hHeld ?_
    simp only [Act.put, List.setIfInBounds_toArray, List.set_cons_zero, List.set_cons_succ]
    refine wpAnyH_take (i := 8) (oi := { dst := some 34, op := Op.load 3 (Operand.tmp 33), type := 3, pos := "keeps.go:87", after := #[{ on := 7, ground := Ground.data }], guard := none }) (v := .int .i64 o.b) rfl (by kernel_rfl) (by kernel_rfl) (by kernel_rfl) (fun _ _ _ h => h) (Or.inl ⟨by kernel_rfl, fun W hW => by simp [execOp, go_sem, hW.2]⟩) hHeld ?_
    simp only [Act.put, List.setIfInBounds_toArray, List.set_cons_zero, List.set_cons_succ]
    refine wpAnyH_ready (rs := [4]) (by kernel_rfl) (by simp) ?_
    refine AllReadyH.cons (o := { dst := some 30, op := Op.call { callee := Callee.value (Operand.func 21), args := #[Operand.tmp 29], argTypes := #[3] }, type := 9, pos := "keeps.go:87", after := #[{ on := 3, ground := Ground.data }], guard := none }) rfl (fun K hK => ?_) AllReadyH.nil
    refine ite_wanted ?_ ?_
    · kernel_rfl
    go_simp
    refine (path_go o.a w3.drew (unhide HF).a).mono ?_
    rintro _ w4 ⟨rfl, hk⟩
    have Kw4 := hide (show Kept w3.heap.size w3 w4 from ⟨hk.os, hk.output, hk.size, hk.block⟩)
    clear hk
    show K _ w4
    refine hK.out _ _ (unhide HCW w4 (unhide Kw4)) (fun hHeld4 => ?_)
    clear hK K
    try simp only [Act.put, List.setIfInBounds_toArray, List.set_cons_zero, List.set_cons_succ]
    refine wpAnyH_ready (rs := [5]) (by kernel_rfl) (by simp) ?_
    refine AllReadyH.cons (o := { dst := some 31, op := Op.call { callee := Callee.value (Operand.func 20), args := #[Operand.tmp 30], argTypes := #[9] }, type := 9, pos := "keeps.go:87", after := #[{ on := 4, ground := Ground.data }, { on := 4, ground := Ground.chain }], guard := none }) rfl (fun K hK => ?_) AllReadyH.nil
    refine ite_wanted ?_ ?_
    · kernel_rfl
    go_simp
    refine (unhide HTX w4).mono ?_
    rintro _ w5 ⟨rfl, hk⟩
    have Kw5 := hide ((unhide Kw4).trans (hk.mono (unhide Kw4).size))
    clear hk
    show K _ w5
    refine hK.out _ _ (unhide HCW w5 (unhide Kw5)) (fun hHeld5 => ?_)
    clear hK K
    try simp only [Act.put, List.setIfInBounds_toArray, List.set_cons_zero, List.set_cons_succ]
    refine wpAnyH_take (i := 6) (oi := { dst := some 32, op := Op.binOp BinOp.add 9 (Operand.tmp 27) (Operand.tmp 31) 9, type := 9, pos := "keeps.go:87", after := #[{ on := 1, ground := Ground.data }, { on := 5, ground := Ground.data }], guard := none }) (v := .string X2) rfl (by kernel_rfl) (by kernel_rfl) (by kernel_rfl) (fun _ _ _ h => h) (Or.inl ⟨by kernel_rfl, fun W hW => by simp [execOp, go_sem, n2, e2]⟩) hHeld5 ?_
    simp only [Act.put, List.setIfInBounds_toArray, List.set_cons_zero, List.set_cons_succ]
    refine wpAnyH_ready (rs := [9]) (by kernel_rfl) (by simp) ?_
    refine AllReadyH.cons (o := { dst := some 35, op := Op.call { callee := Callee.value (Operand.func 15), args := #[Operand.tmp 34, Operand.const (Value.int IntKind.i64 4)], argTypes := #[3, 3] }, type := 3, pos := "keeps.go:87", after := #[{ on := 8, ground := Ground.data }, { on := 5, ground := Ground.chain }], guard := none }) rfl (fun K hK => ?_) AllReadyH.nil
    refine ite_wanted ?_ ?_
    · kernel_rfl
    go_simp
    refine (unhide HPK w5).mono ?_
    rintro _ wq ⟨rfl, hwq⟩
    obtain rfl : w5 = wq := hwq.symm
    clear hwq
    show K _ w5
    refine hK.out _ _ (unhide HCW w5 (unhide Kw5)) (fun hHeld9 => ?_)
    clear hK K
    try simp only [Act.put, List.setIfInBounds_toArray, List.set_cons_zero, List.set_cons_succ]
    refine wpAnyH_take (i := 10) (oi := { dst := some 36, op := Op.convert 3 5 (Operand.tmp 35), type := 5, pos := "keeps.go:87", after := #[{ on := 9, ground := Ground.data }], guard := none }) (v := .int .u8 ((UInt8.ofNat kb).toNat : Int)) rfl (by kernel_rfl) (by kernel_rfl) (by kernel_rfl) (fun _ _ _ h => h) (Or.inl ⟨by kernel_rfl, fun W hW => by simp [execOp, go_sem, hcb]⟩) hHeld9 ?_
    simp only [Act.put, List.setIfInBounds_toArray, List.set_cons_zero, List.set_cons_succ]
    refine wpAnyH_ready (rs := [11]) (by kernel_rfl) (by simp) ?_
    refine AllReadyH.cons (o := { dst := some 37, op := Op.buildSlice 58 1 #[(0, Operand.tmp 36)], type := 58, pos := "keeps.go:87", after := #[{ on := 10, ground := Ground.data }], guard := none }) rfl (fun K hK => ?_) AllReadyH.nil
    refine ite_wanted ?_ ?_
    · kernel_rfl
    go_simp
    have KA := hide (show Kept w3.heap.size w3 (w5.alloc (.cells #[.int .u8 ((UInt8.ofNat kb).toNat : Int)] 5)) from (unhide Kw5).alloc (unhide Kw5).size _)
    show K _ (w5.alloc (.cells #[.int .u8 ((UInt8.ofNat kb).toNat : Int)] 5))
    refine hK.out _ _ (unhide HCW _ (unhide KA)) (fun hHeld11 => ?_)
    clear hK K
    try simp only [Act.put, List.setIfInBounds_toArray, List.set_cons_zero, List.set_cons_succ]
    refine wpAnyH_ready (rs := [12]) (by kernel_rfl) (by simp) ?_
    refine AllReadyH.cons (o := { dst := some 38, op := Op.convert 58 9 (Operand.tmp 37), type := 9, pos := "keeps.go:87", after := #[{ on := 11, ground := Ground.data }], guard := none }) rfl (fun K hK => ?_) AllReadyH.nil
    refine ite_wanted ?_ ?_
    · kernel_rfl
    refine wp_conv_one (x := .tmp 37) rfl (UInt8.ofNat kb) w5 rfl ?_ ?_
    · kernel_rfl
    simp only [Act.put]
    refine hK.out _ _ (unhide HCW _ (unhide KA)) (fun hHeld12 => ?_)
    clear hK K
    try simp only [List.setIfInBounds_toArray, List.set_cons_zero, List.set_cons_succ]
    refine wpAnyH_take (i := 13) (oi := { dst := some 39, op := Op.binOp BinOp.add 9 (Operand.tmp 32) (Operand.tmp 38) 9, type := 9, pos := "keeps.go:87", after := #[{ on := 6, ground := Ground.data }, { on := 12, ground := Ground.data }], guard := none }) (v := .string X3) rfl (by kernel_rfl) (by kernel_rfl) (by kernel_rfl) (fun _ _ _ h => h) (Or.inl ⟨by kernel_rfl, fun W hW => by simp [execOp, go_sem, n3, e3]⟩) hHeld12 ?_
    simp only [Act.put, List.setIfInBounds_toArray, List.set_cons_zero, List.set_cons_succ]
    refine wpAnyH_take (i := 14) (oi := { dst := some 4, op := Op.assign (Operand.tmp 39), type := 9, pos := "keeps.go:87", after := #[{ on := 13, ground := Ground.data }, { on := 9, ground := Ground.chain }, { on := 0, ground := Ground.phase }, { on := 1, ground := Ground.phase }, { on := 2, ground := Ground.phase }, { on := 3, ground := Ground.phase }, { on := 4, ground := Ground.phase }, { on := 5, ground := Ground.phase }, { on := 6, ground := Ground.phase }, { on := 7, ground := Ground.phase }, { on := 8, ground := Ground.phase }, { on := 9, ground := Ground.phase }, { on := 10, ground := Ground.phase }, { on := 11, ground := Ground.phase }, { on := 12, ground := Ground.phase }, { on := 13, ground := Ground.phase }], guard := none }) (v := .string X3) rfl (by kernel_rfl) (by kernel_rfl) (by kernel_rfl) (fun _ _ _ h => h) (Or.inl ⟨by kernel_rfl, fun W hW => by kernel_rfl⟩) hHeld12 ?_
    simp only [Act.put, List.setIfInBounds_toArray, List.set_cons_zero, List.set_cons_succ]
    refine wpAnyH_done (by kernel_rfl) ?_ _
    go_wp2_with fail
    go_ret
    exact ⟨by rw [unhide HR, ← unhide HT, ← unhide HP, ← unhide HKB, ← ba_assoc, ← ba_assoc, show bs [71] ++ T = X1 from e1, e2, e3]; rfl, unhide HKW _ (unhide KA)⟩
  by_cases k2 : o.kind = 2
  · have HR := hide (show reqB o v = bs [68] ++ (txt (tokOf o.tok) ++ txt (pathOf o.a)) by unfold reqB; rw [if_neg k0, if_neg k1, if_pos k2])
    have ca := (unhide HC3).1.1
    have n1 : (9223372036854775807 < (⟨#[68]⟩ : ByteArray).size + T.size) = False := eq_false (by omega)
    obtain ⟨X1, hX1⟩ : ∃ X, X = (⟨#[68]⟩ : ByteArray) ++ T := ⟨_, rfl⟩
    have z1 : X1.size = 5 := by rw [hX1, ByteArray.size_append]; omega
    have e1 := hX1.symm
    clear hX1
    go_wp2_with fail
    refine (path_go o.a w3 (unhide HF).a).mono ?_
    rintro _ w4 ⟨rfl, hk4⟩
    have HK4 := hide hk4
    clear hk4
    go_wp2_with fail
    refine (text_go (pathOf o.a) w4 (by omega)).mono ?_
    rintro _ w5 ⟨rfl, hk5⟩
    have HK5 := hide ((unhide HK4).trans (hk5.mono (unhide HK4).size))
    clear hk5
    obtain ⟨P, hP⟩ : ∃ P, P = txt (pathOf o.a) := ⟨_, rfl⟩
    rw [← hP] at hPs ⊢
    have HP := hide hP
    clear hP
    have n2 : (9223372036854775807 < X1.size + P.size) = False := eq_false (by omega)
    go_wp2_with fail
    go_ret
    exact ⟨by rw [unhide HR, ← unhide HT, ← unhide HP, ← ba_assoc, show bs [68] ++ T = X1 from e1]; rfl, unhide HKW _ (unhide HK5)⟩
  by_cases k3 : o.kind = 3
  · have HR := hide (show reqB o v = bs [76] ++ (txt (tokOf o.tok) ++ txt ((pathOf o.a).extract 0 (pkI o.b 2))) by unfold reqB; rw [if_neg k0, if_neg k1, if_neg k2, if_pos k3])
    have hkb := pkI_lt o.b (n := 2) (by decide)
    obtain ⟨kb, hkb2⟩ : ∃ k, k = pkI o.b 2 := ⟨_, rfl⟩
    have HPK := hide (fun W => pickE_go o.b 2 W (unhide HF).b (by decide) (by decide))
    rw [← hkb2] at hkb HPK
    have HKB := hide hkb2
    clear hkb2
    have hcut := cut_str (pathOf o.a) kb (by omega)
    obtain ⟨C, hC⟩ : ∃ C, C = (pathOf o.a).extract 0 kb := ⟨_, rfl⟩
    have hCs : C.size ≤ 5 := by rw [hC, ByteArray.size_extract]; omega
    rw [← hC] at hcut
    have HCC := hide hC
    clear hC
    have hYs := txt_size C
    obtain ⟨Y, hY⟩ : ∃ Y, Y = txt C := ⟨_, rfl⟩
    have HTX := hide (fun W => text_go C W (by omega))
    rw [← hY] at hYs HTX
    have HY := hide hY
    clear hY
    generalize hPA : pathOf o.a = PA at *
    have n1 : (9223372036854775807 < (⟨#[76]⟩ : ByteArray).size + T.size) = False := eq_false (by omega)
    obtain ⟨X1, hX1⟩ : ∃ X, X = (⟨#[76]⟩ : ByteArray) ++ T := ⟨_, rfl⟩
    have z1 : X1.size = 5 := by rw [hX1, ByteArray.size_append]; omega
    have e1 := hX1.symm
    clear hX1
    have n2 : (9223372036854775807 < X1.size + Y.size) = False := eq_false (by omega)
    obtain ⟨X2, hX2⟩ : ∃ X, X = X1 ++ Y := ⟨_, rfl⟩
    have e2 := hX2.symm
    clear hX2
    go_wp2_with fail
    refine wp_region_held_drew (S := SRq w o) (by kernel_rfl) (unhide HCW w3.drew ((Kept.refl _ _).draws 1)) (fun hHeld => ?_)
    refine wpAnyH_take (i := 0) (oi := { dst := some 51, op := Op.move (Operand.tmp 5), type := 9, pos := "keeps.go:91", after := #[], guard := none }) (v := .string T) rfl (by kernel_rfl) (by kernel_rfl) (by kernel_rfl) (fun _ _ _ h => h) (Or.inl ⟨by kernel_rfl, fun W hW => by kernel_rfl⟩) hHeld ?_
    simp only [Act.put, List.setIfInBounds_toArray, List.set_cons_zero, List.set_cons_succ]
    refine wpAnyH_take (i := 1) (oi := { dst := some 52, op := Op.binOp BinOp.add 9 (Operand.const (Value.string { data := #[76] })) (Operand.tmp 51) 9, type := 9, pos := "keeps.go:91", after := #[{ on := 0, ground := Ground.data }], guard := none }) (v := .string X1) rfl (by kernel_rfl) (by kernel_rfl) (by kernel_rfl) (fun _ _ _ h => h) (Or.inl ⟨by kernel_rfl, fun W hW => by simp [execOp, go_sem, e1, hTz]⟩) hHeld ?_
    simp only [Act.put, List.setIfInBounds_toArray, List.set_cons_zero, List.set_cons_succ]
    refine wpAnyH_take (i := 2) (oi := { dst := some 53, op := Op.fieldAddr 40 (Operand.tmp 2) 2, type := 0, pos := "keeps.go:91", after := #[], guard := none }) (v := .pointer (some ⟨w.heap.size, 2, none⟩)) rfl (by kernel_rfl) (by kernel_rfl) (by kernel_rfl) (fun _ _ _ h => h) (Or.inl ⟨by kernel_rfl, fun W hW => by kernel_rfl⟩) hHeld ?_
    simp only [Act.put, List.setIfInBounds_toArray, List.set_cons_zero, List.set_cons_succ]
    refine wpAnyH_take (i := 3) (oi := { dst := some 54, op := Op.load 3 (Operand.tmp 53), type := 3, pos := "keeps.go:91", after := #[{ on := 2, ground := Ground.data }], guard := none }) (v := .int .i64 o.a) rfl (by kernel_rfl) (by kernel_rfl) (by kernel_rfl) (fun _ _ _ h => h) (Or.inl ⟨by kernel_rfl, fun W hW => by simp [execOp, go_sem, hW.1]⟩) hHeld ?_
    simp only [Act.put, List.setIfInBounds_toArray, List.set_cons_zero, List.set_cons_succ]
    refine wpAnyH_take (i := 5) (oi := { dst := some 56, op := Op.fieldAddr 40 (Operand.tmp 2) 3, type := 0, pos := "keeps.go:91", after := #[], guard := none }) (v := .pointer (some ⟨w.heap.size, 3, none⟩)) rfl (by kernel_rfl) (by kernel_rfl) (by kernel_rfl) (fun _ _ _ h => h) (Or.inl ⟨by kernel_rfl, fun W hW => by kernel_rfl⟩) hHeld ?_
    simp only [Act.put, List.setIfInBounds_toArray, List.set_cons_zero, List.set_cons_succ]
    refine wpAnyH_take (i := 6) (oi := { dst := some 57, op := Op.load 3 (Operand.tmp 56), type := 3, pos := "keeps.go:91", after := #[{ on := 5, ground := Ground.data }], guard := none }) (v := .int .i64 o.b) rfl (by kernel_rfl) (by kernel_rfl) (by kernel_rfl) (fun _ _ _ h => h) (Or.inl ⟨by kernel_rfl, fun W hW => by simp [execOp, go_sem, hW.2]⟩) hHeld ?_
    simp only [Act.put, List.setIfInBounds_toArray, List.set_cons_zero, List.set_cons_succ]
    refine wpAnyH_ready (rs := [4]) (by kernel_rfl) (by simp) ?_
    refine AllReadyH.cons (o := { dst := some 55, op := Op.call { callee := Callee.value (Operand.func 21), args := #[Operand.tmp 54], argTypes := #[3] }, type := 9, pos := "keeps.go:91", after := #[{ on := 3, ground := Ground.data }], guard := none }) rfl (fun K hK => ?_) AllReadyH.nil
    refine ite_wanted ?_ ?_
    · kernel_rfl
    go_simp
    refine (path_go o.a w3.drew (unhide HF).a).mono ?_
    rintro _ w4 ⟨rfl, hk⟩
    rw [hPA]
    have Kw4 := hide (show Kept w3.heap.size w3 w4 from ⟨hk.os, hk.output, hk.size, hk.block⟩)
    clear hk
    show K _ w4
    refine hK.out _ _ (unhide HCW w4 (unhide Kw4)) (fun hHeld4 => ?_)
    clear hK K
    try simp only [Act.put, List.setIfInBounds_toArray, List.set_cons_zero, List.set_cons_succ]
    refine wpAnyH_ready (rs := [7]) (by kernel_rfl) (by simp) ?_
    refine AllReadyH.cons (o := { dst := some 58, op := Op.call { callee := Callee.value (Operand.func 15), args := #[Operand.tmp 57, Operand.const (Value.int IntKind.i64 2)], argTypes := #[3, 3] }, type := 3, pos := "keeps.go:91", after := #[{ on := 6, ground := Ground.data }, { on := 4, ground := Ground.chain }], guard := none }) rfl (fun K hK => ?_) AllReadyH.nil
    refine ite_wanted ?_ ?_
    · kernel_rfl
    go_simp
    refine (unhide HPK w4).mono ?_
    rintro _ wq ⟨rfl, hwq⟩
    obtain rfl : w4 = wq := hwq.symm
    clear hwq
    show K _ w4
    refine hK.out _ _ (unhide HCW w4 (unhide Kw4)) (fun hHeld7 => ?_)
    clear hK K
    try simp only [Act.put, List.setIfInBounds_toArray, List.set_cons_zero, List.set_cons_succ]
    refine wpAnyH_take (i := 8) (oi := { dst := some 59, op := Op.slice 9 (Operand.tmp 55) none (some (Operand.tmp 58)) none, type := 9, pos := "keeps.go:91", after := #[{ on := 4, ground := Ground.data }, { on := 7, ground := Ground.data }], guard := none }) (v := .string C) rfl (by kernel_rfl) (by kernel_rfl) (by kernel_rfl) (fun _ _ _ h => h) (yieldsIf_cut (by kernel_rfl) (.tmp 55) (.tmp 58) rfl hcut (by kernel_rfl) (by kernel_rfl)) hHeld7 ?_
    simp only [Act.put, List.setIfInBounds_toArray, List.set_cons_zero, List.set_cons_succ]
    refine wpAnyH_ready (rs := [9]) (by kernel_rfl) (by simp) ?_
    refine AllReadyH.cons (o := { dst := some 60, op := Op.call { callee := Callee.value (Operand.func 20), args := #[Operand.tmp 59], argTypes := #[9] }, type := 9, pos := "keeps.go:91", after := #[{ on := 8, ground := Ground.data }, { on := 7, ground := Ground.chain }], guard := none }) rfl (fun K hK => ?_) AllReadyH.nil
    refine ite_wanted ?_ ?_
    · kernel_rfl
    go_simp
    refine (unhide HTX w4).mono ?_
    rintro _ w5 ⟨rfl, hk⟩
    have Kw5 := hide ((unhide Kw4).trans (hk.mono (unhide Kw4).size))
    clear hk
    show K _ w5
    refine hK.out _ _ (unhide HCW w5 (unhide Kw5)) (fun hHeld9 => ?_)
    clear hK K
    try simp only [Act.put, List.setIfInBounds_toArray, List.set_cons_zero, List.set_cons_succ]
    refine wpAnyH_take (i := 10) (oi := { dst := some 61, op := Op.binOp BinOp.add 9 (Operand.tmp 52) (Operand.tmp 60) 9, type := 9, pos := "keeps.go:91", after := #[{ on := 1, ground := Ground.data }, { on := 9, ground := Ground.data }], guard := none }) (v := .string X2) rfl (by kernel_rfl) (by kernel_rfl) (by kernel_rfl) (fun _ _ _ h => h) (Or.inl ⟨by kernel_rfl, fun W hW => by simp [execOp, go_sem, n2, e2]⟩) hHeld9 ?_
    simp only [Act.put, List.setIfInBounds_toArray, List.set_cons_zero, List.set_cons_succ]
    refine wpAnyH_take (i := 11) (oi := { dst := some 4, op := Op.assign (Operand.tmp 61), type := 9, pos := "keeps.go:91", after := #[{ on := 10, ground := Ground.data }, { on := 9, ground := Ground.chain }, { on := 0, ground := Ground.phase }, { on := 1, ground := Ground.phase }, { on := 2, ground := Ground.phase }, { on := 3, ground := Ground.phase }, { on := 4, ground := Ground.phase }, { on := 5, ground := Ground.phase }, { on := 6, ground := Ground.phase }, { on := 7, ground := Ground.phase }, { on := 8, ground := Ground.phase }, { on := 9, ground := Ground.phase }, { on := 10, ground := Ground.phase }], guard := none }) (v := .string X2) rfl (by kernel_rfl) (by kernel_rfl) (by kernel_rfl) (fun _ _ _ h => h) (Or.inl ⟨by kernel_rfl, fun W hW => by kernel_rfl⟩) hHeld9 ?_
    simp only [Act.put, List.setIfInBounds_toArray, List.set_cons_zero, List.set_cons_succ]
    refine wpAnyH_done (by kernel_rfl) ?_ _
    go_wp2_with fail
    go_ret
    exact ⟨by rw [unhide HR, ← unhide HT, ← unhide HKB, ← unhide HCC, ← unhide HY, ← ba_assoc, show bs [76] ++ T = X1 from e1, e2]; rfl, unhide HKW _ (unhide Kw5)⟩
  by_cases k4 : o.kind = 4
  · have HR := hide (show reqB o v = bs [84] ++ (txt (tokOf o.tok) ++ (txt (tokOf o.a) ++ (txt ((pathOf o.b).extract 0 (pkI o.b 2)) ++ bs [UInt8.ofNat (1 + pkI o.b 7)]))) by unfold reqB; rw [if_neg k0, if_neg k1, if_neg k2, if_neg k3, if_pos k4])
    have hkb := pkI_lt o.b (n := 2) (by decide)
    obtain ⟨kb, hkb2⟩ : ∃ k, k = pkI o.b 2 := ⟨_, rfl⟩
    have HPK := hide (fun W => pickE_go o.b 2 W (unhide HF).b (by decide) (by decide))
    rw [← hkb2] at hkb HPK
    have HKB := hide hkb2
    clear hkb2
    have hk7 := pkI_lt o.b (n := 7) (by decide)
    obtain ⟨k7, hk72⟩ : ∃ k, k = pkI o.b 7 := ⟨_, rfl⟩
    have HP7 := hide (fun W => pickE_go o.b 7 W (unhide HF).b (by decide) (by decide))
    rw [← hk72] at hk7 HP7
    have HK7 := hide hk72
    clear hk72
    have hpb := pathOf_size o.b
    have hcut := cut_str (pathOf o.b) kb (by omega)
    obtain ⟨C, hC⟩ : ∃ C, C = (pathOf o.b).extract 0 kb := ⟨_, rfl⟩
    have hCs : C.size ≤ 5 := by rw [hC, ByteArray.size_extract]; omega
    rw [← hC] at hcut
    have HCC := hide hC
    clear hC
    have hYs := txt_size C
    obtain ⟨Y, hY⟩ : ∃ Y, Y = txt C := ⟨_, rfl⟩
    have HTX := hide (fun W => text_go C W (by omega))
    rw [← hY] at hYs HTX
    have HY := hide hY
    clear hY
    have hta := tokOf_size o.a
    have hUs := txt_size (tokOf o.a)
    obtain ⟨U, hU⟩ : ∃ U, U = txt (tokOf o.a) := ⟨_, rfl⟩
    have HTU := hide (fun W => text_go (tokOf o.a) W (by omega))
    rw [← hU] at hUs HTU
    have HU := hide hU
    clear hU
    generalize hPA : pathOf o.b = PA at *
    obtain ⟨m7, hm7⟩ : ∃ m, m = 1 + k7 := ⟨_, rfl⟩
    have hm7l : m7 < 256 := by omega
    have hw7 : IntKind.i64.wrap (1 + (k7 : Int)) = (m7 : Int) := by rw [hm7]; simp [IntKind.wrap, IntKind.bits, IntKind.signed]; omega
    have HM7 := hide hm7
    clear hm7
    have hcb := conv_byte m7 hm7l
    have sb : (bs [UInt8.ofNat m7]).size = 1 := bs_size _
    have n1 : (9223372036854775807 < (⟨#[84]⟩ : ByteArray).size + T.size) = False := eq_false (by omega)
    obtain ⟨X1, hX1⟩ : ∃ X, X = (⟨#[84]⟩ : ByteArray) ++ T := ⟨_, rfl⟩
    have z1 : X1.size = 5 := by rw [hX1, ByteArray.size_append]; omega
    have e1 := hX1.symm
    clear hX1
    have n2 : (9223372036854775807 < X1.size + U.size) = False := eq_false (by omega)
    obtain ⟨X2, hX2⟩ : ∃ X, X = X1 ++ U := ⟨_, rfl⟩
    have z2 : X2.size ≤ 20 := by rw [hX2, ByteArray.size_append]; omega
    have e2 := hX2.symm
    clear hX2
    have n3 : (9223372036854775807 < X2.size + Y.size) = False := eq_false (by omega)
    obtain ⟨X3, hX3⟩ : ∃ X, X = X2 ++ Y := ⟨_, rfl⟩
    have z3 : X3.size ≤ 40 := by rw [hX3, ByteArray.size_append]; omega
    have e3 := hX3.symm
    clear hX3
    have n4 : (9223372036854775807 < X3.size + (bs [UInt8.ofNat m7]).size) = False := eq_false (by omega)
    obtain ⟨X4, hX4⟩ : ∃ X, X = X3 ++ bs [UInt8.ofNat m7] := ⟨_, rfl⟩
    have e4 := hX4.symm
    clear hX4
    go_wp2_with fail
    refine wp_region_held_drew (S := SRq w o) (by kernel_rfl) (unhide HCW w3.drew ((Kept.refl _ _).draws 1)) (fun hHeld => ?_)
    refine wpAnyH_take (i := 0) (oi := { dst := some 64, op := Op.move (Operand.tmp 5), type := 9, pos := "keeps.go:93", after := #[], guard := none }) (v := .string T) rfl (by kernel_rfl) (by kernel_rfl) (by kernel_rfl) (fun _ _ _ h => h) (Or.inl ⟨by kernel_rfl, fun W hW => by kernel_rfl⟩) hHeld ?_
    simp only [Act.put, List.setIfInBounds_toArray, List.set_cons_zero, List.set_cons_succ]
    refine wpAnyH_take (i := 1) (oi := { dst := some 65, op := Op.binOp BinOp.add 9 (Operand.const (Value.string { data := #[84] })) (Operand.tmp 64) 9, type := 9, pos := "keeps.go:93", after := #[{ on := 0, ground := Ground.data }], guard := none }) (v := .string X1) rfl (by kernel_rfl) (by kernel_rfl) (by kernel_rfl) (fun _ _ _ h => h) (Or.inl ⟨by kernel_rfl, fun W hW => by simp [execOp, go_sem, e1, hTz]⟩) hHeld ?_
    simp only [Act.put, List.setIfInBounds_toArray, List.set_cons_zero, List.set_cons_succ]
    refine wpAnyH_take (i := 2) (oi := { dst := some 66, op := Op.fieldAddr 40 (Operand.tmp 2) 2, type := 0, pos := "keeps.go:93", after := #[], guard := none }) (v := .pointer (some ⟨w.heap.size, 2, none⟩)) rfl (by kernel_rfl) (by kernel_rfl) (by kernel_rfl) (fun _ _ _ h => h) (Or.inl ⟨by kernel_rfl, fun W hW => by kernel_rfl⟩) hHeld ?_
    simp only [Act.put, List.setIfInBounds_toArray, List.set_cons_zero, List.set_cons_succ]
    refine wpAnyH_take (i := 3) (oi := { dst := some 67, op := Op.load 3 (Operand.tmp 66), type := 3, pos := "keeps.go:93", after := #[{ on := 2, ground := Ground.data }], guard := none }) (v := .int .i64 o.a) rfl (by kernel_rfl) (by kernel_rfl) (by kernel_rfl) (fun _ _ _ h => h) (Or.inl ⟨by kernel_rfl, fun W hW => by simp [execOp, go_sem, hW.1]⟩) hHeld ?_
    simp only [Act.put, List.setIfInBounds_toArray, List.set_cons_zero, List.set_cons_succ]
    refine wpAnyH_take (i := 7) (oi := { dst := some 71, op := Op.fieldAddr 40 (Operand.tmp 2) 3, type := 0, pos := "keeps.go:93", after := #[], guard := none }) (v := .pointer (some ⟨w.heap.size, 3, none⟩)) rfl (by kernel_rfl) (by kernel_rfl) (by kernel_rfl) (fun _ _ _ h => h) (Or.inl ⟨by kernel_rfl, fun W hW => by kernel_rfl⟩) hHeld ?_
    simp only [Act.put, List.setIfInBounds_toArray, List.set_cons_zero, List.set_cons_succ]
    refine wpAnyH_take (i := 8) (oi := { dst := some 72, op := Op.load 3 (Operand.tmp 71), type := 3, pos := "keeps.go:93", after := #[{ on := 7, ground := Ground.data }], guard := none }) (v := .int .i64 o.b) rfl (by kernel_rfl) (by kernel_rfl) (by kernel_rfl) (fun _ _ _ h => h) (Or.inl ⟨by kernel_rfl, fun W hW => by simp [execOp, go_sem, hW.2]⟩) hHeld ?_
    simp only [Act.put, List.setIfInBounds_toArray, List.set_cons_zero, List.set_cons_succ]
    refine wpAnyH_take (i := 10) (oi := { dst := some 74, op := Op.fieldAddr 40 (Operand.tmp 2) 3, type := 0, pos := "keeps.go:93", after := #[], guard := none }) (v := .pointer (some ⟨w.heap.size, 3, none⟩)) rfl (by kernel_rfl) (by kernel_rfl) (by kernel_rfl) (fun _ _ _ h => h) (Or.inl ⟨by kernel_rfl, fun W hW => by kernel_rfl⟩) hHeld ?_
    simp only [Act.put, List.setIfInBounds_toArray, List.set_cons_zero, List.set_cons_succ]
    refine wpAnyH_take (i := 11) (oi := { dst := some 75, op := Op.load 3 (Operand.tmp 74), type := 3, pos := "keeps.go:93", after := #[{ on := 10, ground := Ground.data }], guard := none }) (v := .int .i64 o.b) rfl (by kernel_rfl) (by kernel_rfl) (by kernel_rfl) (fun _ _ _ h => h) (Or.inl ⟨by kernel_rfl, fun W hW => by simp [execOp, go_sem, hW.2]⟩) hHeld ?_
    simp only [Act.put, List.setIfInBounds_toArray, List.set_cons_zero, List.set_cons_succ]
    refine wpAnyH_take (i := 16) (oi := { dst := some 80, op := Op.fieldAddr 40 (Operand.tmp 2) 3, type := 0, pos := "keeps.go:93", after := #[], guard := none }) (v := .pointer (some ⟨w.heap.size, 3, none⟩)) rfl (by kernel_rfl) (by kernel_rfl) (by kernel_rfl) (fun _ _ _ h => h) (Or.inl ⟨by kernel_rfl, fun W hW => by kernel_rfl⟩) hHeld ?_
    simp only [Act.put, List.setIfInBounds_toArray, List.set_cons_zero, List.set_cons_succ]
    refine wpAnyH_take (i := 17) (oi := { dst := some 81, op := Op.load 3 (Operand.tmp 80), type := 3, pos := "keeps.go:93", after := #[{ on := 16, ground := Ground.data }], guard := none }) (v := .int .i64 o.b) rfl (by kernel_rfl) (by kernel_rfl) (by kernel_rfl) (fun _ _ _ h => h) (Or.inl ⟨by kernel_rfl, fun W hW => by simp [execOp, go_sem, hW.2]⟩) hHeld ?_
    simp only [Act.put, List.setIfInBounds_toArray, List.set_cons_zero, List.set_cons_succ]
    refine wpAnyH_ready (rs := [4]) (by kernel_rfl) (by simp) ?_
    refine AllReadyH.cons (o := { dst := some 68, op := Op.call { callee := Callee.value (Operand.func 24), args := #[Operand.tmp 67], argTypes := #[3] }, type := 9, pos := "keeps.go:93", after := #[{ on := 3, ground := Ground.data }], guard := none }) rfl (fun K hK => ?_) AllReadyH.nil
    refine ite_wanted ?_ ?_
    · kernel_rfl
    go_simp
    refine (token_go o.a w3.drew (unhide HF).a).mono ?_
    rintro _ w4 ⟨rfl, hk⟩
    have Kw4 := hide (show Kept w3.heap.size w3 w4 from ⟨hk.os, hk.output, hk.size, hk.block⟩)
    clear hk
    show K _ w4
    refine hK.out _ _ (unhide HCW w4 (unhide Kw4)) (fun hHeld4 => ?_)
    clear hK K
    try simp only [Act.put, List.setIfInBounds_toArray, List.set_cons_zero, List.set_cons_succ]
    refine wpAnyH_ready (rs := [5]) (by kernel_rfl) (by simp) ?_
    refine AllReadyH.cons (o := { dst := some 69, op := Op.call { callee := Callee.value (Operand.func 20), args := #[Operand.tmp 68], argTypes := #[9] }, type := 9, pos := "keeps.go:93", after := #[{ on := 4, ground := Ground.data }, { on := 4, ground := Ground.chain }], guard := none }) rfl (fun K hK => ?_) AllReadyH.nil
    refine ite_wanted ?_ ?_
    · kernel_rfl
    go_simp
    refine (unhide HTU w4).mono ?_
    rintro _ w5 ⟨rfl, hk⟩
    have Kw5 := hide ((unhide Kw4).trans (hk.mono (unhide Kw4).size))
    clear hk
    show K _ w5
    refine hK.out _ _ (unhide HCW w5 (unhide Kw5)) (fun hHeld5 => ?_)
    clear hK K
    try simp only [Act.put, List.setIfInBounds_toArray, List.set_cons_zero, List.set_cons_succ]
    refine wpAnyH_take (i := 6) (oi := { dst := some 70, op := Op.binOp BinOp.add 9 (Operand.tmp 65) (Operand.tmp 69) 9, type := 9, pos := "keeps.go:93", after := #[{ on := 1, ground := Ground.data }, { on := 5, ground := Ground.data }], guard := none }) (v := .string X2) rfl (by kernel_rfl) (by kernel_rfl) (by kernel_rfl) (fun _ _ _ h => h) (Or.inl ⟨by kernel_rfl, fun W hW => by simp [execOp, go_sem, n2, e2]⟩) hHeld5 ?_
    simp only [Act.put, List.setIfInBounds_toArray, List.set_cons_zero, List.set_cons_succ]
    refine wpAnyH_ready (rs := [9]) (by kernel_rfl) (by simp) ?_
    refine AllReadyH.cons (o := { dst := some 73, op := Op.call { callee := Callee.value (Operand.func 21), args := #[Operand.tmp 72], argTypes := #[3] }, type := 9, pos := "keeps.go:93", after := #[{ on := 8, ground := Ground.data }, { on := 5, ground := Ground.chain }], guard := none }) rfl (fun K hK => ?_) AllReadyH.nil
    refine ite_wanted ?_ ?_
    · kernel_rfl
    go_simp
    refine (path_go o.b w5 (unhide HF).b).mono ?_
    rintro _ w6 ⟨rfl, hk⟩
    rw [hPA]
    have Kw6 := hide ((unhide Kw5).trans (hk.mono (unhide Kw5).size))
    clear hk
    show K _ w6
    refine hK.out _ _ (unhide HCW w6 (unhide Kw6)) (fun hHeld9 => ?_)
    clear hK K
    try simp only [Act.put, List.setIfInBounds_toArray, List.set_cons_zero, List.set_cons_succ]
    refine wpAnyH_ready (rs := [12]) (by kernel_rfl) (by simp) ?_
    refine AllReadyH.cons (o := { dst := some 76, op := Op.call { callee := Callee.value (Operand.func 15), args := #[Operand.tmp 75, Operand.const (Value.int IntKind.i64 2)], argTypes := #[3, 3] }, type := 3, pos := "keeps.go:93", after := #[{ on := 11, ground := Ground.data }, { on := 9, ground := Ground.chain }], guard := none }) rfl (fun K hK => ?_) AllReadyH.nil
    refine ite_wanted ?_ ?_
    · kernel_rfl
    go_simp
    refine (unhide HPK w6).mono ?_
    rintro _ wq ⟨rfl, hwq⟩
    obtain rfl : w6 = wq := hwq.symm
    clear hwq
    show K _ w6
    refine hK.out _ _ (unhide HCW w6 (unhide Kw6)) (fun hHeld12 => ?_)
    clear hK K
    try simp only [Act.put, List.setIfInBounds_toArray, List.set_cons_zero, List.set_cons_succ]
    refine wpAnyH_take (i := 13) (oi := { dst := some 77, op := Op.slice 9 (Operand.tmp 73) none (some (Operand.tmp 76)) none, type := 9, pos := "keeps.go:93", after := #[{ on := 9, ground := Ground.data }, { on := 12, ground := Ground.data }], guard := none }) (v := .string C) rfl (by kernel_rfl) (by kernel_rfl) (by kernel_rfl) (fun _ _ _ h => h) (yieldsIf_cut (by kernel_rfl) (.tmp 73) (.tmp 76) rfl hcut (by kernel_rfl) (by kernel_rfl)) hHeld12 ?_
    simp only [Act.put, List.setIfInBounds_toArray, List.set_cons_zero, List.set_cons_succ]
    refine wpAnyH_ready (rs := [14]) (by kernel_rfl) (by simp) ?_
    refine AllReadyH.cons (o := { dst := some 78, op := Op.call { callee := Callee.value (Operand.func 20), args := #[Operand.tmp 77], argTypes := #[9] }, type := 9, pos := "keeps.go:93", after := #[{ on := 13, ground := Ground.data }, { on := 12, ground := Ground.chain }], guard := none }) rfl (fun K hK => ?_) AllReadyH.nil
    refine ite_wanted ?_ ?_
    · kernel_rfl
    go_simp
    refine (unhide HTX w6).mono ?_
    rintro _ w7 ⟨rfl, hk⟩
    have Kw7 := hide ((unhide Kw6).trans (hk.mono (unhide Kw6).size))
    clear hk
    show K _ w7
    refine hK.out _ _ (unhide HCW w7 (unhide Kw7)) (fun hHeld14 => ?_)
    clear hK K
    try simp only [Act.put, List.setIfInBounds_toArray, List.set_cons_zero, List.set_cons_succ]
    refine wpAnyH_take (i := 15) (oi := { dst := some 79, op := Op.binOp BinOp.add 9 (Operand.tmp 70) (Operand.tmp 78) 9, type := 9, pos := "keeps.go:93", after := #[{ on := 6, ground := Ground.data }, { on := 14, ground := Ground.data }], guard := none }) (v := .string X3) rfl (by kernel_rfl) (by kernel_rfl) (by kernel_rfl) (fun _ _ _ h => h) (Or.inl ⟨by kernel_rfl, fun W hW => by simp [execOp, go_sem, n3, e3]⟩) hHeld14 ?_
    simp only [Act.put, List.setIfInBounds_toArray, List.set_cons_zero, List.set_cons_succ]
    refine wpAnyH_ready (rs := [18]) (by kernel_rfl) (by simp) ?_
    refine AllReadyH.cons (o := { dst := some 82, op := Op.call { callee := Callee.value (Operand.func 15), args := #[Operand.tmp 81, Operand.const (Value.int IntKind.i64 7)], argTypes := #[3, 3] }, type := 3, pos := "keeps.go:93", after := #[{ on := 17, ground := Ground.data }, { on := 14, ground := Ground.chain }], guard := none }) rfl (fun K hK => ?_) AllReadyH.nil
    refine ite_wanted ?_ ?_
    · kernel_rfl
    go_simp
    refine (unhide HP7 w7).mono ?_
    rintro _ wq ⟨rfl, hwq⟩
    obtain rfl : w7 = wq := hwq.symm
    clear hwq
    show K _ w7
    refine hK.out _ _ (unhide HCW w7 (unhide Kw7)) (fun hHeld18 => ?_)
    clear hK K
    try simp only [Act.put, List.setIfInBounds_toArray, List.set_cons_zero, List.set_cons_succ]
    refine wpAnyH_take (i := 19) (oi := { dst := some 83, op := Op.binOp BinOp.add 3 (Operand.const (Value.int IntKind.i64 1)) (Operand.tmp 82) 3, type := 3, pos := "keeps.go:93", after := #[{ on := 18, ground := Ground.data }], guard := none }) (v := .int .i64 (m7 : Int)) rfl (by kernel_rfl) (by kernel_rfl) (by kernel_rfl) (fun _ _ _ h => h) (Or.inl ⟨by kernel_rfl, fun W hW => by simp [execOp, go_sem, hw7]⟩) hHeld18 ?_
    simp only [Act.put, List.setIfInBounds_toArray, List.set_cons_zero, List.set_cons_succ]
    refine wpAnyH_take (i := 20) (oi := { dst := some 84, op := Op.convert 3 5 (Operand.tmp 83), type := 5, pos := "keeps.go:93", after := #[{ on := 19, ground := Ground.data }], guard := none }) (v := .int .u8 ((UInt8.ofNat m7).toNat : Int)) rfl (by kernel_rfl) (by kernel_rfl) (by kernel_rfl) (fun _ _ _ h => h) (Or.inl ⟨by kernel_rfl, fun W hW => by simp [execOp, go_sem, hcb]⟩) hHeld18 ?_
    simp only [Act.put, List.setIfInBounds_toArray, List.set_cons_zero, List.set_cons_succ]
    refine wpAnyH_ready (rs := [21]) (by kernel_rfl) (by simp) ?_
    refine AllReadyH.cons (o := { dst := some 85, op := Op.buildSlice 58 1 #[(0, Operand.tmp 84)], type := 58, pos := "keeps.go:93", after := #[{ on := 20, ground := Ground.data }], guard := none }) rfl (fun K hK => ?_) AllReadyH.nil
    refine ite_wanted ?_ ?_
    · kernel_rfl
    go_simp
    have KA := hide (show Kept w3.heap.size w3 (w7.alloc (.cells #[.int .u8 ((UInt8.ofNat m7).toNat : Int)] 5)) from (unhide Kw7).alloc (unhide Kw7).size _)
    show K _ (w7.alloc (.cells #[.int .u8 ((UInt8.ofNat m7).toNat : Int)] 5))
    refine hK.out _ _ (unhide HCW _ (unhide KA)) (fun hHeld21 => ?_)
    clear hK K
    try simp only [Act.put, List.setIfInBounds_toArray, List.set_cons_zero, List.set_cons_succ]
    refine wpAnyH_ready (rs := [22]) (by kernel_rfl) (by simp) ?_
    refine AllReadyH.cons (o := { dst := some 86, op := Op.convert 58 9 (Operand.tmp 85), type := 9, pos := "keeps.go:93", after := #[{ on := 21, ground := Ground.data }], guard := none }) rfl (fun K hK => ?_) AllReadyH.nil
    refine ite_wanted ?_ ?_
    · kernel_rfl
    refine wp_conv_one (x := .tmp 85) rfl (UInt8.ofNat m7) w7 rfl ?_ ?_
    · kernel_rfl
    simp only [Act.put]
    refine hK.out _ _ (unhide HCW _ (unhide KA)) (fun hHeld22 => ?_)
    clear hK K
    try simp only [List.setIfInBounds_toArray, List.set_cons_zero, List.set_cons_succ]
    refine wpAnyH_take (i := 23) (oi := { dst := some 87, op := Op.binOp BinOp.add 9 (Operand.tmp 79) (Operand.tmp 86) 9, type := 9, pos := "keeps.go:93", after := #[{ on := 15, ground := Ground.data }, { on := 22, ground := Ground.data }], guard := none }) (v := .string X4) rfl (by kernel_rfl) (by kernel_rfl) (by kernel_rfl) (fun _ _ _ h => h) (Or.inl ⟨by kernel_rfl, fun W hW => by simp [execOp, go_sem, n4, e4]⟩) hHeld22 ?_
    simp only [Act.put, List.setIfInBounds_toArray, List.set_cons_zero, List.set_cons_succ]
    refine wpAnyH_take (i := 24) (oi := { dst := some 4, op := Op.assign (Operand.tmp 87), type := 9, pos := "keeps.go:93", after := #[{ on := 23, ground := Ground.data }, { on := 18, ground := Ground.chain }, { on := 0, ground := Ground.phase }, { on := 1, ground := Ground.phase }, { on := 2, ground := Ground.phase }, { on := 3, ground := Ground.phase }, { on := 4, ground := Ground.phase }, { on := 5, ground := Ground.phase }, { on := 6, ground := Ground.phase }, { on := 7, ground := Ground.phase }, { on := 8, ground := Ground.phase }, { on := 9, ground := Ground.phase }, { on := 10, ground := Ground.phase }, { on := 11, ground := Ground.phase }, { on := 12, ground := Ground.phase }, { on := 13, ground := Ground.phase }, { on := 14, ground := Ground.phase }, { on := 15, ground := Ground.phase }, { on := 16, ground := Ground.phase }, { on := 17, ground := Ground.phase }, { on := 18, ground := Ground.phase }, { on := 19, ground := Ground.phase }, { on := 20, ground := Ground.phase }, { on := 21, ground := Ground.phase }, { on := 22, ground := Ground.phase }, { on := 23, ground := Ground.phase }], guard := none }) (v := .string X4) rfl (by kernel_rfl) (by kernel_rfl) (by kernel_rfl) (fun _ _ _ h => h) (Or.inl ⟨by kernel_rfl, fun W hW => by kernel_rfl⟩) hHeld22 ?_
    simp only [Act.put, List.setIfInBounds_toArray, List.set_cons_zero, List.set_cons_succ]
    refine wpAnyH_done (by kernel_rfl) ?_ _
    go_wp2_with fail
    go_ret
    exact ⟨by rw [unhide HR, ← unhide HT, ← unhide HU, ← unhide HKB, ← unhide HK7, ← unhide HM7, ← unhide HCC, ← unhide HY, ← ba_assoc, ← ba_assoc, ← ba_assoc, show bs [84] ++ T = X1 from e1, e2, e3, e4]; rfl, unhide HKW _ (unhide KA)⟩
  by_cases k5 : o.kind = 5
  · have HR := hide (show reqB o v = bs [82] ++ (txt (tokOf o.tok) ++ txt (tokOf o.a)) by unfold reqB; rw [if_neg k0, if_neg k1, if_neg k2, if_neg k3, if_neg k4, if_pos k5])
    have ca := (unhide HC3).1.1
    have hta := tokOf_size o.a
    have hPs2 := txt_size (tokOf o.a)
    have n1 : (9223372036854775807 < (⟨#[82]⟩ : ByteArray).size + T.size) = False := eq_false (by omega)
    obtain ⟨X1, hX1⟩ : ∃ X, X = (⟨#[82]⟩ : ByteArray) ++ T := ⟨_, rfl⟩
    have z1 : X1.size = 5 := by rw [hX1, ByteArray.size_append]; omega
    have e1 := hX1.symm
    clear hX1
    go_wp2_with fail
    refine (token_go o.a w3 (unhide HF).a).mono ?_
    rintro _ w4 ⟨rfl, hk4⟩
    have HK4 := hide hk4
    clear hk4
    go_wp2_with fail
    refine (text_go (tokOf o.a) w4 (by omega)).mono ?_
    rintro _ w5 ⟨rfl, hk5⟩
    have HK5 := hide ((unhide HK4).trans (hk5.mono (unhide HK4).size))
    clear hk5
    obtain ⟨P, hP⟩ : ∃ P, P = txt (tokOf o.a) := ⟨_, rfl⟩
    rw [← hP] at hPs2 ⊢
    have HP := hide hP
    clear hP
    have n2 : (9223372036854775807 < X1.size + P.size) = False := eq_false (by omega)
    go_wp2_with fail
    go_ret
    exact ⟨by rw [unhide HR, ← unhide HT, ← unhide HP, ← ba_assoc, show bs [82] ++ T = X1 from e1]; rfl, unhide HKW _ (unhide HK5)⟩
  · have HR := hide (show reqB o v = o.s by unfold reqB; rw [if_neg k0, if_neg k1, if_neg k2, if_neg k3, if_neg k4, if_neg k5])
    have cs := (unhide HC3).2.2
    go_wp2_with fail
    go_ret
    exact ⟨by rw [unhide HR]; rfl, unhide HKW _ (Kept.refl _ _)⟩
end Go.Proofs.YtlbacbcenejngaaGreatDoor
namespace Go.Proofs.YtlbacbcenejngaaGreatDoor
open Go.RowKit
/-- A new vault's bounds. -/
theorem vlt0_bnd {key root : ByteArray} {l : List Snk} (hl : 1 ≤ l.length ∧ l.length ≤ 4) (hk : key.size ≤ 1000) (h0 : ∀ k ∈ l, k = snk0) : (vlt0 key root l).Bnd [] 0 := by
  have hne : ∃ k, k ∈ l := by
    cases l with
    | nil => simp at hl
    | cons a l => exact ⟨a, .head _⟩
  refine ⟨⟨trivial, rfl, rfl, fun k hk => ⟨0, Nat.le_refl _, by rw [h0 k hk]; rfl⟩, ?_, ⟨by simp [vlt0, sto0], ?_, by simp [vlt0, sto0], by simp [vlt0, sto0], by simp [vlt0, sto0], by simp [vlt0, sto0]⟩⟩, ⟨by decide, by decide⟩, ⟨rfl, rfl, .inl rfl⟩, fun k hk => ?_, hl.2, hk⟩
  · obtain ⟨k, hk⟩ := hne
    exact ⟨k, hk, by rw [h0 k hk]; rfl⟩
  · intro t ht
    simp only [vlt0, sto0, List.mem_singleton] at ht
    rw [ht]
    exact Nat.zero_le _
  · rw [h0 k hk]
    exact ⟨⟨0, Nat.le_refl _, rfl, by decide⟩, by decide, by decide⟩
theorem vlt0_calm {key root : ByteArray} {l : List Snk} (hl : 1 ≤ l.length) (h0 : ∀ k ∈ l, k = snk0) : (vlt0 key root l).Calm := by
  refine ⟨fun e => ?_, fun k hk => ?_⟩
  · have : l = [] := e
    rw [this] at hl
    simp at hl
  · rw [h0 k hk]
    intro f hf
    cases hf
theorem vlt0_rt {key : ByteArray} {l : List Snk} : (vlt0 key adm l).sto.Rt := ⟨rfl, by simp [vlt0, sto0, lk]⟩
theorem Vlt.Calm.bnd {V : Vlt} {E : List ByteArray} {n : Nat} (h : V.Calm) (hb : V.Bnd E n) (hn : n + 1 ≤ 4194304) (s : ByteArray) : (V.next s).Bnd (E ++ [V.entry s]) (n + 1) := (hb.next hn s).1 (h.lay s).1
def aw1 : ByteArray := bs [80] ++ (txt adm ++ (txt (bs [97]) ++ txt (bs [111, 110, 101])))
def aw2 : ByteArray := bs [71] ++ (txt adm ++ (txt (bs [97]) ++ bs [0]))
def awq1 : Rq := { rqOT 80 adm with path := bs [97], rest := txt (bs [111, 110, 101]), value := bs [111, 110, 101] }
def awq2 : Rq := { rqOT 71 adm with path := bs [97], rest := bs [0], version := 0 }
theorem aw_read1 : readQ aw1 = some awq1 := readQ_put (by decide) (by decide) (by decide)
theorem aw_read2 : readQ aw2 = some awq2 := readQ_get (by decide) (by decide)
abbrev awV : Vlt := vlt0 (bs [107]) adm [snk0]
theorem aw_ask1 : awV.ask aw1 = (awq1, ⟨0, bs [1], some .put⟩) := by
  unfold Vlt.ask
  rw [aw_read1]
  show (awq1, (vlt0 (bs [107]) adm [snk0]).sto.ask awq1) = _
  rw [ask_tok (t := ⟨.empty, 7⟩) vlt0_rt.2, if_neg (fun e => by rcases e with e | e; exact absurd e (by show ¬ ((7 : UInt8) &&& 2 = 0); decide); exact absurd e.2 (by decide))]
  rfl
theorem aw_sto : (awV.next aw1).sto.paths = [(bs [97], ⟨2, [(1, bs [111, 110, 101])]⟩)] ∧ (awV.next aw1).sto.Rt := by
  have hc : awV.Calm := vlt0_calm (by decide) (by simp)
  refine ⟨?_, Vlt.rt_next vlt0_rt aw1⟩
  rw [hc.sto, aw_ask1]
  rfl
theorem aw_ask2 : ((awV.next aw1).ask aw2) = (awq2, ⟨0, txt (bs [111, 110, 101]), none⟩) := by
  unfold Vlt.ask
  rw [aw_read2]
  show (awq2, (awV.next aw1).sto.ask awq2) = _
  rw [ask_tok (t := ⟨.empty, 7⟩) aw_sto.2.2, if_neg (fun e => by rcases e with e | e; exact absurd e (by show ¬ ((7 : UInt8) &&& 1 = 0); decide); exact absurd e.2 (by decide))]
  show (awq2, (awV.next aw1).sto.get awq2) = _
  have hv : (awV.next aw1).sto.versOf awq2.path = [(1, bs [111, 110, 101])] := by
    unfold Sto.versOf
    rw [aw_sto.1]
    show (match lk (bs [97]) [(bs [97], (⟨2, [(1, bs [111, 110, 101])]⟩ : Pth))] with | some p => p.vers | none => []) = _
    rw [lk, if_pos rfl]
  unfold Sto.get
  rw [hv]
  rfl
theorem aw_tells : awV.tell aw1 = ⟨#[0, 1]⟩ ∧ (awV.next aw1).tell aw2 = ⟨#[0, 3, 111, 110, 101]⟩ := by
  have hc : awV.Calm := vlt0_calm (by decide) (by simp)
  refine ⟨?_, ?_⟩
  · rw [hc.tell, aw_ask1]; rfl
  · rw [(hc.next aw1).tell, aw_ask2]; rfl
end Go.Proofs.YtlbacbcenejngaaGreatDoor
namespace Go.Proofs.YtlbacbcenejngaaGreatDoor
open Go.RowKit
theorem digest_abc : Sha.digest (⟨#[97, 98, 99]⟩ : ByteArray).data.toList = Sha.digest [97, 98, 99] := rfl
theorem doEnd.kept {B : Nat} {w w' : World} {vp : Nat} {g : VG} {V : Vlt} {s : ByteArray} {e : Ending} (hv : VAt B w vp g V) (hB : B ≤ w.heap.size) (h : doEnd B w vp g V s e w') : Kept B w w' := by
  obtain ⟨_, g', _, hc, _⟩ := h
  exact hc.keptB hB fun k hk hs => by have := (hv.foot hs).2; omega
set_option maxRecDepth 100000 in
set_option maxHeartbeats 4000000 in
theorem awake_go (w : World) (hT : Table w) (hz : 0 < w.heap.size) : Calls Tryz.prog 27 #[] w fun e w' => e = .returned (.bool true) ∧ Kept w.heap.size w w' := by
  have HT := hide (show ∀ W, Kept w.heap.size w W → Table W from fun W hW => hT.kept hW hz)
  clear hT
  have hcalm : awV.Calm := vlt0_calm (by decide) (by simp)
  have hb0 : awV.Bnd [] 0 := vlt0_bnd (by decide) (by decide) (by simp)
  have hb1 := hcalm.bnd hb0 (by decide) aw1
  have hc1 := hcalm.next aw1
  have hb2 := hc1.bnd hb1 (by decide) aw2
  obtain ⟨E2, hE2⟩ : ∃ E, E = [] ++ [awV.entry aw1] ++ [(awV.next aw1).entry aw2] := ⟨_, rfl⟩
  rw [← hE2] at hb2
  have hE2l : E2.length = 2 := by rw [hE2]; rfl
  clear hE2
  have ht := aw_tells
  obtain ⟨V1, hV1⟩ : ∃ V, V = awV.next aw1 := ⟨_, rfl⟩
  rw [← hV1] at hb1 hc1 hb2 ht
  obtain ⟨V2, hV2⟩ : ∃ V, V = V1.next aw2 := ⟨_, rfl⟩
  rw [← hV2] at hb2
  have hcnt : V2.cnt = 2 := by rw [hb2.ok.cnt, hE2l]
  have HV1 := hide hV1
  have HV2 := hide hV2
  have HB := hide (And.intro hb0 (And.intro hb1 hb2))
  have HTL := hide ht
  have hver := ver_log hb2.ok.chn (n := 2) (H := V2.last) (by rw [hE2l]; rfl) hb2.ok.last.symm
  have HVER := hide (show vfyOf (ents (logOf E2) 0).1 (ents (logOf E2) 0).2 2 V2.last = (0, 2) by rw [ver_vfy, hver.1, hver.2, hE2l]; rfl)
  have hlgs : (logOf E2).size ≤ 800 := by have := logOf_small (chn_fits hb2.ok.chn); rw [hE2l] at this; exact this
  have hlast : V2.last.length = 32 := by rw [hb2.ok.last]; exact hashAt_len _ _
  clear hV1 hV2 hb0 hb1 hb2 hc1 hcalm ht hver
  have heqp : ∀ (a : Addr) (W : World), (binOp .eql 31 (.pointer (some a)) (.pointer none)).run Tryz.prog W = .ok (.bool false) W := fun a W => by kernel_rfl
  go_enter Tryz.func27, Tryz.ntmps27
  go_wp2_with fail
  refine (new_sink_go w.heap.size w).mono ?_
  rintro _ w1 ⟨rfl, hs1, hk1⟩
  have HS1 := hide hs1
  have HK1 := hide hk1
  have hz1 : w.heap.size < w1.heap.size := hs1.lt
  clear hs1 hk1
  obtain ⟨w2, hw2⟩ : ∃ w2, w2 = w1.alloc (.cells #[.pointer (some ⟨w.heap.size, 0, none⟩)] 41) := ⟨_, rfl⟩
  have hrow2 : w2.heap[w1.heap.size]? = some (.cells #[.pointer (some ⟨w.heap.size, 0, none⟩)] 41 (0, 0)) := by rw [hw2]; exact heap_alloc_new _ _
  have hk12 : Kept w1.heap.size w1 w2 := by rw [hw2]; exact (Kept.refl _ _).alloc (Nat.le_refl _) _
  have hz2 : w2.heap.size = w1.heap.size + 1 := by rw [hw2]; simp
  have HS2 := hide ((unhide HS1).kept hk12)
  have HK2 := hide ((unhide HK1).trans (hk12.mono (by omega)))
  clear hk12
  go_upto_region 2 with fail
  rw [← hw2]
  clear hw2
  go_wp2_with fail
  refine (new_disk_go w.heap.size w2).mono ?_
  rintro _ w3 ⟨dp, dv, rfl, hd3, hdp, hdv, hk3⟩
  have HD3 := hide (And.intro hd3 (And.intro hdp hdv))
  have HK3 := hide ((unhide HK2).trans (hk3.mono (by omega)))
  have hz3 := hk3.size
  have HPS := hide (show PSl w3 (.slice (some ⟨w1.heap.size, 0, none⟩) 1 1) [w.heap.size] w1.heap.size 0 1 from ⟨rfl, Nat.le_refl _, by omega, fun j hj => by
    obtain rfl : j = 0 := by simpa using hj
    rw [cell_of_row _ _ _ _ _ _ ((hk3.block _ (by omega)).trans hrow2)]; rfl⟩)
  have HFM := hide (show Fam (PS w.heap.size 81) w3 [⟨w.heap.size, .slice none 0 0, snk0⟩] from ⟨fun e he => by rw [List.mem_singleton.1 he]; exact ⟨(unhide HS2).kept hk3, Nat.le_refl _⟩, by simp⟩)
  clear hd3 hdp hdv hk3 hrow2
  go_wp2_with fail
  refine (open_go w.heap.size w3 dp dv (.slice (some ⟨w1.heap.size, 0, none⟩) 1 1) [w.heap.size] w1.heap.size 0 1 [⟨w.heap.size, .slice none 0 0, snk0⟩] ⟨#[107]⟩ ⟨#[97, 100, 109]⟩ (unhide HD3).1 (by have := (unhide HD3).2.1; omega) (unhide HPS) (unhide HFM) rfl (fun e he => by rw [List.mem_singleton.1 he]; rfl) ⟨by simp, by simp⟩ (by decide) (by decide) (by omega) (unhide HT w3 (unhide HK3)) (by omega)).mono ?_
  rintro _ w4 ⟨vp, g, rfl, hv4, hgs, hgd, hk4, hft⟩
  have HV4 := hide (show VAt w.heap.size w4 vp g awV from hv4)
  have HGS := hide hgs
  have HK4 := hide ((unhide HK3).trans (hk4.mono (by omega)))
  have hz4 := hk4.size
  have hc4 : w4.cell? ⟨w1.heap.size, 0, none⟩ = some (.pointer (some ⟨w.heap.size, 0, none⟩)) := by
    have := ((unhide HPS).kept hk4).c 0 (by simp)
    exact this
  have HFT := hide (show ∀ k, Vft vp g k → k = w1.heap.size → False from fun k hk e => by
    rcases hft k hk with (rfl | h | ⟨x, hx, h⟩) | h
    · have := (unhide HD3).2.1; omega
    · have := (unhide HD3).2.2 k h; omega
    · rw [List.mem_singleton.1 hx] at h
      rcases h with h | h
      · have h' : w.heap.size = k := h
        omega
      · cases h
    · omega)
  clear hv4 hgs hgd hk4 hft
  go_wp2_with fail
  refine (text_go ⟨#[97, 100, 109]⟩ w4 (by decide)).mono ?_
  rintro _ w5 ⟨rfl, hk5⟩
  have HV5 := hide ((unhide HV4).kept hk5)
  have HK5 := hide ((unhide HK4).trans (hk5.mono (by omega)))
  have hz5 := hk5.size
  have hc5 : w5.cell? ⟨w1.heap.size, 0, none⟩ = some (.pointer (some ⟨w.heap.size, 0, none⟩)) := (hk5.cell (p := ⟨w1.heap.size, 0, none⟩) (by show w1.heap.size < w4.heap.size; omega)).trans hc4
  clear hk5 hc4 HV4 HK4
  have n80 : (⟨#[80]⟩ : ByteArray).size = 1 := rfl
  have n71 : (⟨#[71]⟩ : ByteArray).size = 1 := rfl
  have n00 : (⟨#[0]⟩ : ByteArray).size = 1 := rfl
  have hTs : (txt ⟨#[97, 100, 109]⟩).size = 4 := rfl
  have hAs : (txt ⟨#[97]⟩).size = 2 := rfl
  have hOs : (txt ⟨#[111, 110, 101]⟩).size = 4 := rfl
  have HA1 := hide (show (⟨#[80]⟩ : ByteArray) ++ txt ⟨#[97, 100, 109]⟩ ++ txt ⟨#[97]⟩ ++ txt ⟨#[111, 110, 101]⟩ = aw1 by rw [ba_assoc, ba_assoc]; rfl)
  have HA2 := hide (show (⟨#[71]⟩ : ByteArray) ++ txt ⟨#[97, 100, 109]⟩ ++ txt ⟨#[97]⟩ ++ ⟨#[0]⟩ = aw2 by rw [ba_assoc, ba_assoc]; rfl)
  have HTA := hide (fun W => text_go ⟨#[97]⟩ W (by decide))
  have HTO := hide (fun W => text_go ⟨#[111, 110, 101]⟩ W (by decide))
  have HTM := hide (fun W => text_go ⟨#[97, 100, 109]⟩ W (by decide))
  generalize txt ⟨#[97, 100, 109]⟩ = T at *
  generalize txt ⟨#[97]⟩ = A at *
  generalize txt ⟨#[111, 110, 101]⟩ = O at *
  have m1 : (9223372036854775807 < (⟨#[80]⟩ : ByteArray).size + T.size) = False := eq_false (by omega)
  obtain ⟨X1, hX1⟩ : ∃ X, X = (⟨#[80]⟩ : ByteArray) ++ T := ⟨_, rfl⟩
  have z1 : X1.size = 5 := by rw [hX1, ByteArray.size_append]; omega
  rw [← hX1] at HA1
  have e1 := hX1.symm
  clear hX1
  have m2 : (9223372036854775807 < X1.size + A.size) = False := eq_false (by omega)
  obtain ⟨X2, hX2⟩ : ∃ X, X = X1 ++ A := ⟨_, rfl⟩
  have z2 : X2.size = 7 := by rw [hX2, ByteArray.size_append]; omega
  rw [← hX2] at HA1
  have e2 := hX2.symm
  clear hX2
  have m3 : (9223372036854775807 < X2.size + O.size) = False := eq_false (by omega)
  go_wp2_with fail
  refine (unhide HTA w5).mono ?_
  rintro _ w6 ⟨rfl, hk6⟩
  have HV6 := hide ((unhide HV5).kept hk6)
  have HK6 := hide ((unhide HK5).trans (hk6.mono (by omega)))
  have hz6 := hk6.size
  have hc6 : w6.cell? ⟨w1.heap.size, 0, none⟩ = some (.pointer (some ⟨w.heap.size, 0, none⟩)) := (hk6.cell (p := ⟨w1.heap.size, 0, none⟩) (by show w1.heap.size < w5.heap.size; omega)).trans hc5
  clear hk6 hc5 HV5 HK5
  go_wp2_with fail
  refine (unhide HTO w6).mono ?_
  rintro _ w7 ⟨rfl, hk7⟩
  have HV7 := hide ((unhide HV6).kept hk7)
  have HK7 := hide ((unhide HK6).trans (hk7.mono (by omega)))
  have hz7 := hk7.size
  have hc7 : w7.cell? ⟨w1.heap.size, 0, none⟩ = some (.pointer (some ⟨w.heap.size, 0, none⟩)) := (hk7.cell (p := ⟨w1.heap.size, 0, none⟩) (by show w1.heap.size < w6.heap.size; omega)).trans hc6
  clear hk7 hc6 HV6 HK6
  have ea1 := unhide HA1
  go_wp2_with fail
  refine (do_go w.heap.size w7 vp g awV [] 0 aw1 (unhide HV7) (unhide HB).1 (by decide) (by omega) (unhide HT w7 (unhide HK7)) (by omega)).mono ?_
  rintro _ w8 hde
  have hkd := doEnd.kept (unhide HV7) (by omega) hde
  obtain ⟨rfl, g8, hv8, hch8, hft8, hsp8, hdp8⟩ := hde
  have hc8 : w8.cell? ⟨w1.heap.size, 0, none⟩ = some (.pointer (some ⟨w.heap.size, 0, none⟩)) := by
    rw [World.cell?_of_block (w := w7) (a := ⟨w1.heap.size, 0, none⟩) (hch8.block w1.heap.size (by omega) (fun h => unhide HFT _ h rfl))]; exact hc7
  have HFT8 := hide (show ∀ k, Vft vp g8 k → k = w1.heap.size → False from fun k hk e => by
    rcases hft8 k hk with h | h
    · exact unhide HFT k h e
    · omega)
  have HV8 := hide (show VAt w.heap.size w8 vp g8 V1 by rw [unhide HV1]; exact hv8)
  have HSP8 := hide (show g8.SL.map (·.p) = [w.heap.size] by rw [hsp8, unhide HGS]; rfl)
  have HK8 := hide ((unhide HK7).trans hkd)
  have hz8 := hch8.size
  rw [(unhide HTL).1]
  clear hkd hv8 hch8 hft8 hsp8 hdp8 hc7 HV7 HK7 HFT HGS
  clear m1 m2 m3 e1 e2 ea1 z1 z2
  clear HA1
  go_wp2_with fail
  refine (unhide HTM w8).mono ?_
  rintro _ w9 ⟨rfl, hk9⟩
  have HV9 := hide ((unhide HV8).kept hk9)
  have HK9 := hide ((unhide HK8).trans (hk9.mono (by omega)))
  have hz9 := hk9.size
  have hc9 : w9.cell? ⟨w1.heap.size, 0, none⟩ = some (.pointer (some ⟨w.heap.size, 0, none⟩)) := (hk9.cell (p := ⟨w1.heap.size, 0, none⟩) (by show w1.heap.size < w8.heap.size; omega)).trans hc8
  clear hk9 hc8 HV8 HK8
  have m1 : (9223372036854775807 < (⟨#[71]⟩ : ByteArray).size + T.size) = False := eq_false (by omega)
  obtain ⟨X3, hX3⟩ : ∃ X, X = (⟨#[71]⟩ : ByteArray) ++ T := ⟨_, rfl⟩
  have z1 : X3.size = 5 := by rw [hX3, ByteArray.size_append]; omega
  rw [← hX3] at HA2
  have e1 := hX3.symm
  clear hX3
  have m2 : (9223372036854775807 < X3.size + A.size) = False := eq_false (by omega)
  obtain ⟨X4, hX4⟩ : ∃ X, X = X3 ++ A := ⟨_, rfl⟩
  have z2 : X4.size = 7 := by rw [hX4, ByteArray.size_append]; omega
  rw [← hX4] at HA2
  have e2 := hX4.symm
  clear hX4
  have m3 : (9223372036854775807 < X4.size + (⟨#[0]⟩ : ByteArray).size) = False := eq_false (by omega)
  have ea2 := unhide HA2
  go_wp2_with fail
  refine (unhide HTA w9).mono ?_
  rintro _ wa ⟨rfl, hka⟩
  have HVa := hide ((unhide HV9).kept hka)
  have HKa := hide ((unhide HK9).trans (hka.mono (by omega)))
  have hza := hka.size
  have hca : wa.cell? ⟨w1.heap.size, 0, none⟩ = some (.pointer (some ⟨w.heap.size, 0, none⟩)) := (hka.cell (p := ⟨w1.heap.size, 0, none⟩) (by show w1.heap.size < w9.heap.size; omega)).trans hc9
  clear hka hc9 HV9 HK9
  go_wp2_with fail
  refine (do_go w.heap.size wa vp g8 V1 _ 1 aw2 (unhide HVa) (unhide HB).2.1 (by decide) (by omega) (unhide HT wa (unhide HKa)) (by omega)).mono ?_
  rintro _ wb hde
  have hkd := doEnd.kept (unhide HVa) (by omega) hde
  obtain ⟨rfl, gb, hvb, hchb, hftb, hspb, hdpb⟩ := hde
  have hcb : wb.cell? ⟨w1.heap.size, 0, none⟩ = some (.pointer (some ⟨w.heap.size, 0, none⟩)) := by
    rw [World.cell?_of_block (w := wa) (a := ⟨w1.heap.size, 0, none⟩) (hchb.block w1.heap.size (by omega) (fun h => unhide HFT8 _ h rfl))]; exact hca
  have HVb := hide (show VAt w.heap.size wb vp gb V2 by rw [unhide HV2]; exact hvb)
  have HSPb := hide (show gb.SL.map (·.p) = [w.heap.size] by rw [hspb]; exact unhide HSP8)
  have HKb := hide ((unhide HKa).trans hkd)
  have hzb := hchb.size
  rw [(unhide HTL).2]
  clear hkd hvb hchb hftb hspb hdpb hca HVa HKa HFT8 HSP8 m1 m2 m3 e1 e2 ea2 z1 z2
  clear HA2
  go_wp2_with fail
  refine (head_go w.heap.size wb vp gb V2 (unhide HVb)).mono ?_
  rintro _ wc ⟨rfl, hkc⟩
  have HVc := hide ((unhide HVb).kept hkc)
  have HKc := hide ((unhide HKb).trans (hkc.mono (by omega)))
  have hzc := hkc.size
  have hcc : wc.cell? ⟨w1.heap.size, 0, none⟩ = some (.pointer (some ⟨w.heap.size, 0, none⟩)) := (hkc.cell (p := ⟨w1.heap.size, 0, none⟩) (by show w1.heap.size < wb.heap.size; omega)).trans hcb
  rw [hcnt]
  clear hkc hcb HVb HKb
  have hi29 : (Tryz.prog.info? 29).map (·.size) = some (brow V2.last).size := by rw [brow_size, hlast]; exact info29
  have hz29 : (brow (List.replicate 32 0)).size = (brow V2.last).size := by rw [brow_size, brow_size, hlast]; rfl
  have ho29 := brow_one V2.last
  obtain ⟨e0, he0⟩ : ∃ e0, gb.SL = [e0] := by
    have h1 := congrArg List.length (unhide HSPb)
    rw [List.length_map] at h1
    exact List.length_eq_one_iff.1 h1
  have hep : e0.p = w.heap.size := by have := unhide HSPb; rw [he0] at this; simpa using this
  have hed : e0.x.data = logOf E2 := by
    obtain ⟨k, hk, he⟩ := (unhide HB).2.2.ok.most
    rw [← (unhide HVc).snk, he0] at hk
    rw [List.map_cons, List.map_nil, List.mem_singleton] at hk
    rw [← hk]; exact he
  go_wp2_with (first | (refine wpList_store_put rfl 29 (.tmp 7) (.tmp 45) rfl wc.heap.size (brow V2.last) rfl rfl 29 (brow (List.replicate 32 0)) (heap_alloc_new _ _) hi29 hz29 ho29 ?_; intro wd hpd
                        have hkd : Kept wc.heap.size wc wd := ((Kept.refl _ _).alloc (Nat.le_refl _) _).trans (Kept.of (hpd.below (Nat.le_refl _)))
                        have HVd := hide ((unhide HVc).kept hkd)
                        have HKd := hide ((unhide HKc).trans (hkd.mono (by omega)))
                        have hzd : wc.heap.size < wd.heap.size := (Array.getElem?_eq_some_iff.1 hpd.row).1
                        have hcd : wd.cell? ⟨w1.heap.size, 0, none⟩ = some (.pointer (some ⟨w.heap.size, 0, none⟩)) := (hkd.cell (p := ⟨w1.heap.size, 0, none⟩) (by show w1.heap.size < wc.heap.size; omega)).trans hcc
                        have hrd := hpd.row
                        clear hkd hpd))
  refine (show Calls Tryz.prog 13 #[.pointer (some ⟨w.heap.size, 0, none⟩)] wd (fun e w' => e = .returned (.string (logOf E2)) ∧ w' = wd) from by
    have h1 := (unhide HVd).log.snk.each e0 (by rw [he0]; exact .head _)
    have := sink_read_go w.heap.size wd e0.p e0.v e0.x h1.1
    rw [hep, hed] at this
    exact this).mono ?_
  rintro _ wq ⟨rfl, hwq⟩
  obtain rfl : wd = wq := hwq.symm
  clear hwq
  go_wp2_with (first | (refine wpList_load_row rfl 29 (.tmp 7) rfl wc.heap.size rfl 29 (brow V2.last) (0, 0) _ hrd Tryz.underlying29 rfl hi29 ?_))
  refine (bailey_verify (logOf E2) 2 V2.last wd (by omega) hlast (unhide HT wd (unhide HKd)) (by omega)).mono ?_
  rw [unhide HVER]
  rintro _ we ⟨rfl, hke⟩
  have HKe := hide ((unhide HKd).trans (hke.mono (by omega)))
  have hze := hke.size
  clear hke hrd
  go_wp2_with fail
  refine (bailey_digest ⟨#[97, 98, 99]⟩ we (by decide) (unhide HT we (unhide HKe)) (by omega)).mono ?_
  rw [digest_abc, Sha.abc]
  rintro _ wf ⟨rfl, hbf⟩
  have HKf := hide ((unhide HKe).trans ((Kept.of hbf).mono (by omega)))
  have hzf := hbf.size
  clear hbf
  go_wp2_with (first | (refine wpList_store_put rfl 29 (.tmp 11) (.tmp 57) rfl wf.heap.size (brow _) rfl rfl 29 (brow (List.replicate 32 0)) (heap_alloc_new _ _) info29 rfl (brow_one _) ?_; intro wg hpg
                        have hg0 : wg.cell? ⟨wf.heap.size, 0, none⟩ = some (.int .u8 186) := by rw [cell_of_row _ _ _ _ _ _ hpg.row]; rfl
                        have hg1 : wg.cell? ⟨wf.heap.size, 31, none⟩ = some (.int .u8 173) := by rw [cell_of_row _ _ _ _ _ _ hpg.row]; rfl
                        have HKg := hide ((unhide HKf).trans ((((Kept.refl wf.heap.size wf).alloc (Nat.le_refl _) (.cells (brow (List.replicate 32 0)) 29)).trans (Kept.of (hpg.below (Nat.le_refl _)))).mono (by omega)))
                        clear hpg))
  go_ret
  exact ⟨rfl, unhide HKg⟩
end Go.Proofs.YtlbacbcenejngaaGreatDoor
namespace Go.Proofs.YtlbacbcenejngaaGreatDoor
open Go.RowKit
/-- A shop in memory. -/
structure ShA (B : Nat) (w : World) (p vp : Nat) (g : VG) (lv : Value) (V : Vlt) : Prop where
  at' : w.heap[p]? = some (.cells #[.pointer (some ⟨vp, 0, none⟩), .pointer (some ⟨g.dp, 0, none⟩), lv] 35 (0, 0))
  row : w.ownsRow B 41 1 lv g.SL.length (pcells (g.SL.map (·.p)))
  v : VAt B w vp g V
  ge : B ≤ p
  out : ∀ k, (k = p ∨ lv.ownBlock = some k) → ¬ Vft vp g k
def Hft (p vp : Nat) (g : VG) (lv : Value) (k : Nat) : Prop := k = p ∨ lv.ownBlock = some k ∨ Vft vp g k
theorem ShA.foot {B : Nat} {w : World} {p vp : Nat} {g : VG} {lv : Value} {V : Vlt} (h : ShA B w p vp g lv V) {k : Nat} (hk : Hft p vp g lv k) : k < w.heap.size ∧ B ≤ k := by
  rcases hk with rfl | hk | hk
  · exact ⟨(Array.getElem?_eq_some_iff.1 h.at').1, h.ge⟩
  · have := h.row.lt k hk; exact ⟨this.2, this.1⟩
  · exact h.v.foot hk
theorem ShA.stay {B : Nat} {w w' : World} {p vp : Nat} {g : VG} {lv : Value} {V : Vlt} (h : ShA B w p vp g lv V) (hk : ∀ k, Hft p vp g lv k → w'.heap[k]? = w.heap[k]?) : ShA B w' p vp g lv V :=
  ⟨(hk _ (.inl rfl)).trans h.at', own_blocks h.row fun k hk' => hk k (.inr (.inl hk')), h.v.stay fun k hk' => hk k (.inr (.inr hk')), h.ge, h.out⟩
theorem ShA.kept {B : Nat} {w w' : World} {p vp : Nat} {g : VG} {lv : Value} {V : Vlt} (h : ShA B w p vp g lv V) (hk : Kept w.heap.size w w') : ShA B w' p vp g lv V := h.stay fun k hk' => hk.block k (h.foot hk').1
theorem ShA.chg {B : Nat} {w w' : World} {p vp : Nat} {g : VG} {lv : Value} {V : Vlt} {S : Nat → Prop} (h : ShA B w p vp g lv V) (hc : Chg S w w') (hn : ∀ k, Hft p vp g lv k → ¬ S k) : ShA B w' p vp g lv V := h.stay fun k hk' => hc.block k (h.foot hk').1 (hn k hk')
/-- Behind a request. -/
theorem ShA.did {B : Nat} {w w' : World} {p vp : Nat} {g : VG} {lv : Value} {V : Vlt} {s : ByteArray} {e : Ending} (h : ShA B w p vp g lv V) (hd : doEnd B w vp g V s e w') :
    e = .returned (.string (V.tell s)) ∧ ∃ g', ShA B w' p vp g' lv (V.next s) ∧ Chg (Hft p vp g lv) w w' ∧ ∀ k, Hft p vp g' lv k → Hft p vp g lv k ∨ w.heap.size ≤ k := by
  obtain ⟨rfl, g', hv, hc, hf, hsp, hdp⟩ := hd
  have hl : g'.SL.length = g.SL.length := by have := congrArg List.length hsp; simpa using this
  refine ⟨rfl, g', ⟨?_, ?_, hv, h.ge, fun k hk hk' => ?_⟩, hc.mono fun k _ e => .inr (.inr e), fun k hk => ?_⟩
  · rw [hdp]; exact (hc.block _ (h.foot (.inl rfl)).1 (h.out _ (.inl rfl))).trans h.at'
  · rw [hsp, hl]; exact own_blocks h.row fun k hk => hc.block k (h.foot (.inr (.inl hk))).1 (h.out k (.inr hk))
  · rcases hf k hk' with h1 | h1
    · exact h.out k hk h1
    · have : k < w.heap.size := (h.foot (by rcases hk with rfl | hk; exact .inl rfl; exact .inr (.inl hk))).1
      omega
  · rcases hk with hk | hk | hk
    · exact .inl (.inl hk)
    · exact .inl (.inr (.inl hk))
    · exact (hf k hk).imp (fun e => .inr (.inr e)) id
/-- The vault of a new shop. -/
def shop0 (x : Int) : Vlt := vlt0 (bs [107]) adm (List.replicate (pkI x 4 + 1) snk0)
structure Op (B : Nat) (w : World) (sp dp : Nat) (dv : Value) (i : Nat) (SL : List (Loc Snk)) (lv : Value) (wr : World) : Prop where
  at' : wr.heap[sp]? = some (.cells #[.pointer none, .pointer (some ⟨dp, 0, none⟩), lv] 35 (0, 0))
  row : wr.ownsRow w.heap.size 41 1 lv i (pcells (SL.map (·.p)))
  snk : Fam (PS B 81) wr SL
  len : SL.length = i
  new : ∀ e ∈ SL, e.x = snk0 ∧ w.heap.size ≤ e.p ∧ e.v = .slice none 0 0
  dsk : DAt B 117 149 wr dp dv dsk0
  kept : Kept w.heap.size w wr
theorem Op.next {B : Nat} {w wr wx : World} {sp dp : Nat} {dv : Value} {i : Nat} {SL : List (Loc Snk)} {lv : Value} (h : Op B w sp dp dv i SL lv wr) (hk : Kept wr.heap.size wr wx) : Op B w sp dp dv i SL lv wx :=
  ⟨(hk.block _ (Array.getElem?_eq_some_iff.1 h.at').1).trans h.at', own_kept h.row hk, h.snk.kept (wayS B 81 (by decide)) hk, h.len, h.new, h.dsk.kept hk, h.kept.trans (hk.mono h.kept.size)⟩
theorem grown_stay {w w' : World} {v : Value} {B n : Nat} {xs : List Value} (h : w.ownsRow B 41 1 v n xs) (hg : w.grownBy w' v.ownBlock) : Stay [42] w w' := fun k m hk hn => hg.block k (knd_lt hk) fun e => by
  have := (show TyAt w k 41 from own_ty h e.symm).knd
  rw [hk] at this; cases this; exact hn (by decide)
set_option maxRecDepth 100000 in
set_option maxHeartbeats 4000000 in
theorem opened_go (B : Nat) (w : World) (x : Int) (hx : i64 x) (hB : B ≤ w.heap.size) (hT : Table w) (hz : 0 < w.heap.size) :
    Calls Tryz.prog 10 #[.int .i64 x] w fun e w' => ∃ p vp g lv, e = .returned (.pointer (some ⟨p, 0, none⟩)) ∧ ShA B w' p vp g lv (shop0 x) ∧ Kept w.heap.size w w' ∧ (∀ k, Hft p vp g lv k → w.heap.size ≤ k) ∧ 0 < g.SL.length := by
  have HT := hide (show ∀ W, Kept w.heap.size w W → Table W from fun W hW => hT.kept hW hz)
  have HAW := hide (awake_go w hT hz)
  clear hT
  have hn := pkI_lt x (n := 4) (by decide)
  have HPK := hide (fun W => pickE_go x 4 W hx (by decide) (by decide))
  have HS0 := hide (show shop0 x = vlt0 (bs [107]) adm (List.replicate (pkI x 4 + 1) snk0) from rfl)
  obtain ⟨n, hnn⟩ : ∃ n, n = pkI x 4 := ⟨_, rfl⟩
  rw [← hnn] at hn HPK HS0
  clear hnn
  have heqp : ∀ (a : Addr) (W : World), (binOp .eql 31 (.pointer (some a)) (.pointer none)).run Tryz.prog W = .ok (.bool false) W := fun a W => by kernel_rfl
  go_enter Tryz.func10, Tryz.ntmps10
  go_wp2_with fail
  refine (unhide HAW).mono ?_
  rintro _ w1 ⟨rfl, hk1⟩
  have HK1 := hide hk1
  have hz1 := hk1.size
  clear hk1 HAW
  go_wp2_with fail
  refine (new_disk_go B w1).mono ?_
  rintro _ w2 ⟨dp, dv, rfl, hd2, hdp, hdv, hk2⟩
  have HD := hide (And.intro hdp hdv)
  have hz2 := hk2.size
  obtain ⟨w3, hw3⟩ : ∃ w3, w3 = w2.alloc (.cells #[.pointer none, .pointer (some ⟨dp, 0, none⟩), .slice none 0 0] 35) := ⟨_, rfl⟩
  have hk23 : Kept w2.heap.size w2 w3 := by rw [hw3]; exact (Kept.refl _ _).alloc (Nat.le_refl _) _
  have HO := hide (show Op B w w2.heap.size dp dv 0 [] (.slice none 0 0) w3 from ⟨by rw [hw3]; exact heap_alloc_new _ _, World.ownsRow_nil _ _ _ _, Fam.nil, rfl, by simp, hd2.kept hk23, ((unhide HK1).trans (hk2.mono hz1)).trans (hk23.mono (by omega))⟩)
  clear hd2 hdp hdv hk2 hk23 HK1
  go_upto_region 3 with fail
  rw [← hw3]
  clear hw3
  go_wp2_with fail
  go_loopw [5] (fun vi wr => ∃ (i : Nat) (SL : List (Loc Snk)) (lv : Value), vi = .int .i64 i ∧ i ≤ n + 1 ∧ Op B w w2.heap.size dp dv i SL lv wr) (fun vi _ => n + 1 - (intOf vi).toNat)
  case atStart => exact ⟨0, [], _, rfl, Nat.zero_le _, unhide HO⟩
  case round =>
    obtain ⟨i, SL, lv, rfl, hi, hop⟩ := hrel
    have HOP := hide hop
    clear hop
    go_wp2_with fail
    refine (unhide HPK wr).mono ?_
    rintro _ wq ⟨rfl, hwq⟩
    obtain rfl : wr = wq := hwq.symm
    clear hwq
    by_cases hlt : i ≤ n
    · have hiI : (i : Int) ≤ (n : Int) := by omega
      obtain ⟨la, lc, hlv, _, _⟩ := own_len (unhide HOP).row
      subst hlv
      go_wp2_with fail
      refine (new_sink_go B wr).mono ?_
      rintro _ w4 ⟨rfl, hs4, hk4⟩
      have HS4 := hide hs4
      have HO4 := hide ((unhide HOP).next hk4)
      have hz4 : wr.heap.size < w4.heap.size := hs4.lt
      have hc2 : w4.cell? ⟨w2.heap.size, 2, none⟩ = some (.slice la i lc) := by rw [cell_of_row _ _ _ _ _ _ (unhide HO4).at']; rfl
      have hkr := (unhide HOP).kept.size
      clear hs4
      have HK4 := hide hk4
      clear hk4
      go_wp2_with (refine wpList_halt2 (.tmp 24) (.tmp 26) 33 rfl ?_)
      refine Stp.mk ?_
      have hka : Kept w4.heap.size w4 (w4.alloc (.cells #[.pointer (some ⟨wr.heap.size, 0, none⟩)] 41)) := (Kept.refl _ _).alloc (Nat.le_refl _) _
      have hO5 := (unhide HO4).next hka
      have hPS : PSl (w4.alloc (.cells #[.pointer (some ⟨wr.heap.size, 0, none⟩)] 41)) (.slice (some ⟨w4.heap.size, 0, none⟩) 1 1) [wr.heap.size] w4.heap.size 0 1 := ⟨rfl, Nat.le_refl _, by simp, fun j hj => by
        obtain rfl : j = 0 := by simpa using hj
        rw [cell_of_row _ _ _ _ _ _ (heap_alloc_new _ _)]; rfl⟩
      refine wpList_append_ptrs rfl (.tmp 24) (.tmp 26) rfl w.heap.size (.slice la i lc) rfl i (pcells (SL.map (·.p))) hO5.row _ [wr.heap.size] w4.heap.size 0 1 (by simp; omega) rfl hPS (by simp; omega) ?_
      intro v6 w6 ho6 hg6 hf6
      have hst := grown_stay hO5.row hg6
      have hat6 := row_over hO5.at' hst (by decide)
      have hc6 : w6.cell? ⟨w2.heap.size, 2, none⟩ = some (.slice la i lc) := by rw [cell_of_row _ _ _ _ _ _ hat6]; rfl
      have hz6 : w6.frozen? ⟨w2.heap.size, 2, none⟩ = false := frozen_of_row _ _ _ _ _ hat6
      obtain ⟨a6, c6, hv6, _, _⟩ := own_len ho6
      have HO7 := hide (show Op B w w2.heap.size dp dv (i + 1) (SL ++ [⟨wr.heap.size, .slice none 0 0, snk0⟩]) v6 (w6.setCell ⟨w2.heap.size, 2, none⟩ v6) from by
        have hT35 : TyAt w6 w2.heap.size 35 := ⟨_, hat6⟩
        have hs67 : Stay [36] w6 (w6.setCell ⟨w2.heap.size, 2, none⟩ v6) := stay_one hT35.knd (fun k hne _ => heap_setCell_other _ _ _ _ hne) (by decide)
        have hst2 := hst.trans hs67
        have hnw : SAt B 81 (w6.setCell ⟨w2.heap.size, 2, none⟩ v6) wr.heap.size (.slice none 0 0) snk0 := ⟨row_over ((unhide HS4).kept hka).at' hst2 (by decide), World.ownsRow_nil _ _ _ _⟩
        have hfam : Fam (PS B 81) (w6.setCell ⟨w2.heap.size, 2, none⟩ v6) SL := hO5.snk.frame (wayS B 81 (by decide)) (fun k hk _ => hst2 k _ hk.knd (by decide)) (fun k hk _ => hst2 k _ hk.knd (by decide))
        refine ⟨by rw [heap_setCell_same _ _ _ _ _ _ hat6]; rfl, ?_, ⟨fun e he => ?_, ?_⟩, by simp [(unhide HOP).len], fun e he => ?_, hO5.dsk.over hst2 (by decide), ?_⟩
        · have h1 : (w6.setCell ⟨w2.heap.size, 2, none⟩ v6).ownsRow w.heap.size 41 1 v6 (i + 1) (pcells (SL.map (·.p)) ++ pcells [wr.heap.size]) := own_blocks ho6 fun k hk => heap_setCell_other _ _ _ _ fun e => (show TyAt w6 k 41 from own_ty ho6 hk).ne hT35 (by decide) e
          have e1 : pcells ((SL ++ [(⟨wr.heap.size, .slice none 0 0, snk0⟩ : Loc Snk)]).map (fun e => e.p)) = pcells (SL.map (fun e => e.p)) ++ pcells [wr.heap.size] := by simp [pcells]
          rw [e1]
          exact h1
        · rcases List.mem_append.1 he with he | he
          · exact hfam.each e he
          · rw [List.mem_singleton.1 he]; exact ⟨hnw, by show B ≤ wr.heap.size; omega⟩
        · refine List.pairwise_append.2 ⟨hfam.ne, by simp, fun a ha b hb => ?_⟩
          rw [List.mem_singleton.1 hb]
          refine ⟨fun e => ?_, fun k _ e => by cases e⟩
          have h1 := ((unhide HOP).snk.each a ha).1.lt
          have e' : a.p = wr.heap.size := e
          omega
        · rcases List.mem_append.1 he with he | he
          · exact (unhide HOP).new e he
          · rw [List.mem_singleton.1 he]; exact ⟨rfl, hkr, rfl⟩
        · have hsp : w.heap.size ≤ w2.heap.size := by omega
          exact (own_grownk hO5.kept hO5.row hg6 hO5.kept.size).setCell (p := ⟨w2.heap.size, 2, none⟩) hsp _)
      clear hO5 hPS ho6 hg6 hf6 hst hat6 hka
      subst hv6
      simp only [Act.put, List.setIfInBounds_toArray, List.set_cons_zero, List.set_cons_succ]
      go_wp2_with fail
      go_roundw
      case rel => exact ⟨i + 1, _, _, by go_num, by omega, unhide HO7⟩
      case measure => simp [intOf]; omega
    · obtain rfl : i = n + 1 := by omega
      have hiI : ¬ ((n + 1 : Nat) : Int) ≤ (n : Int) := by omega
      have hlen := (unhide HOP).len
      obtain ⟨la, lc, hlv, hlc, hla⟩ := own_len (unhide HOP).row
      subst hlv
      obtain ⟨lb, hlb⟩ := hla (by omega)
      subst hlb
      have HSC := hide (show ∀ W, Kept wr.heap.size wr W → W.cell? ⟨w2.heap.size, 1, none⟩ = some (.pointer (some ⟨dp, 0, none⟩)) ∧ W.cell? ⟨w2.heap.size, 2, none⟩ = some (.slice (some ⟨lb, 0, none⟩) (n + 1) lc) from fun W hW => by
        have := ((unhide HOP).next hW).at'
        exact ⟨by rw [cell_of_row _ _ _ _ _ _ this]; rfl, by rw [cell_of_row _ _ _ _ _ _ this]; rfl⟩)
      have HPS := hide (show ∀ W, Kept wr.heap.size wr W → PSl W (.slice (some ⟨lb, 0, none⟩) (n + 1) lc) (SL.map (·.p)) lb 0 lc from fun W hW => by
        have hr := ((unhide HOP).next hW).row
        have hl2 : (SL.map (·.p)).length = n + 1 := by rw [List.length_map]; exact hlen
        refine ⟨by rw [hl2], by rw [hl2]; exact hlc, (hr.lt lb rfl).2, fun j hj => ?_⟩
        obtain ⟨g', c', e1, e2⟩ := own_cell hr (show j < n + 1 by omega)
        cases e1
        rw [Nat.zero_add, e2, List.getD_eq_getElem?_getD, List.getD_eq_getElem?_getD, pcells, List.getElem?_map, List.getElem?_eq_getElem hj]; rfl)
      go_wp2_with fail
      refine wp_region_held_drew (S := fun W => W.cell? ⟨w2.heap.size, 1, none⟩ = some (.pointer (some ⟨dp, 0, none⟩)) ∧ W.cell? ⟨w2.heap.size, 2, none⟩ = some (.slice (some ⟨lb, 0, none⟩) (n + 1) lc)) (by kernel_rfl) (unhide HSC wr.drew ((Kept.refl _ _).draws 1)) (fun hHeld => ?_)
      refine wpAnyH_take (i := 0) (oi := { dst := some 31, op := Op.move (Operand.tmp 4), type := 26, pos := "keeps.go:53", after := #[], guard := none }) (v := .pointer (some ⟨w2.heap.size, 0, none⟩)) rfl (by kernel_rfl) (by kernel_rfl) (by kernel_rfl) (fun _ _ _ h => h) (Or.inl ⟨by kernel_rfl, fun W hW => by kernel_rfl⟩) hHeld ?_
      simp only [Act.put, List.setIfInBounds_toArray, List.set_cons_zero, List.set_cons_succ]
      refine wpAnyH_take (i := 1) (oi := { dst := some 32, op := Op.nilCheck (Operand.tmp 31), type := 0, pos := "keeps.go:53", after := #[{ on := 0, ground := Ground.data }], guard := none }) (v := .pointer (some ⟨w2.heap.size, 0, none⟩)) rfl (by kernel_rfl) (by kernel_rfl) (by kernel_rfl) (fun _ _ _ h => h) (Or.inl ⟨by kernel_rfl, fun W hW => by kernel_rfl⟩) hHeld ?_
      simp only [Act.put, List.setIfInBounds_toArray, List.set_cons_zero, List.set_cons_succ]
      refine wpAnyH_take (i := 2) (oi := { dst := some 33, op := Op.fieldAddr 35 (Operand.tmp 32) 1, type := 0, pos := "keeps.go:53", after := #[{ on := 1, ground := Ground.data }], guard := none }) (v := .pointer (some ⟨w2.heap.size, 1, none⟩)) rfl (by kernel_rfl) (by kernel_rfl) (by kernel_rfl) (fun _ _ _ h => h) (Or.inl ⟨by kernel_rfl, fun W hW => by kernel_rfl⟩) hHeld ?_
      simp only [Act.put, List.setIfInBounds_toArray, List.set_cons_zero, List.set_cons_succ]
      refine wpAnyH_take (i := 3) (oi := { dst := some 34, op := Op.load 32 (Operand.tmp 33), type := 32, pos := "keeps.go:53", after := #[{ on := 2, ground := Ground.data }], guard := none }) (v := .pointer (some ⟨dp, 0, none⟩)) rfl (by kernel_rfl) (by kernel_rfl) (by kernel_rfl) (fun _ _ _ h => h) (Or.inl ⟨by kernel_rfl, fun W hW => by simp [execOp, go_sem, hW.1]⟩) hHeld ?_
      simp only [Act.put, List.setIfInBounds_toArray, List.set_cons_zero, List.set_cons_succ]
      refine wpAnyH_take (i := 4) (oi := { dst := some 35, op := Op.move (Operand.tmp 4), type := 26, pos := "keeps.go:53", after := #[], guard := none }) (v := .pointer (some ⟨w2.heap.size, 0, none⟩)) rfl (by kernel_rfl) (by kernel_rfl) (by kernel_rfl) (fun _ _ _ h => h) (Or.inl ⟨by kernel_rfl, fun W hW => by kernel_rfl⟩) hHeld ?_
      simp only [Act.put, List.setIfInBounds_toArray, List.set_cons_zero, List.set_cons_succ]
      refine wpAnyH_take (i := 5) (oi := { dst := some 36, op := Op.nilCheck (Operand.tmp 35), type := 0, pos := "keeps.go:53", after := #[{ on := 4, ground := Ground.data }], guard := none }) (v := .pointer (some ⟨w2.heap.size, 0, none⟩)) rfl (by kernel_rfl) (by kernel_rfl) (by kernel_rfl) (fun _ _ _ h => h) (Or.inl ⟨by kernel_rfl, fun W hW => by kernel_rfl⟩) hHeld ?_
      simp only [Act.put, List.setIfInBounds_toArray, List.set_cons_zero, List.set_cons_succ]
      refine wpAnyH_take (i := 6) (oi := { dst := some 37, op := Op.fieldAddr 35 (Operand.tmp 36) 2, type := 0, pos := "keeps.go:53", after := #[{ on := 5, ground := Ground.data }], guard := none }) (v := .pointer (some ⟨w2.heap.size, 2, none⟩)) rfl (by kernel_rfl) (by kernel_rfl) (by kernel_rfl) (fun _ _ _ h => h) (Or.inl ⟨by kernel_rfl, fun W hW => by kernel_rfl⟩) hHeld ?_
      simp only [Act.put, List.setIfInBounds_toArray, List.set_cons_zero, List.set_cons_succ]
      refine wpAnyH_take (i := 7) (oi := { dst := some 38, op := Op.load 33 (Operand.tmp 37), type := 33, pos := "keeps.go:53", after := #[{ on := 6, ground := Ground.data }], guard := none }) (v := .slice (some ⟨lb, 0, none⟩) (n + 1) lc) rfl (by kernel_rfl) (by kernel_rfl) (by kernel_rfl) (fun _ _ _ h => h) (Or.inl ⟨by kernel_rfl, fun W hW => by simp [execOp, go_sem, hW.2]⟩) hHeld ?_
      simp only [Act.put, List.setIfInBounds_toArray, List.set_cons_zero, List.set_cons_succ]
      refine wpAnyH_ready (rs := [8]) (by kernel_rfl) (by simp) ?_
      refine AllReadyH.cons (o := { dst := some 39, op := Op.call { callee := Callee.value (Operand.func 30), args := #[Operand.tmp 34, Operand.tmp 38, Operand.const (Value.string { data := #[107] }), Operand.const (Value.string { data := #[97, 100, 109] })], argTypes := #[32, 33, 9, 9] }, type := 72, pos := "keeps.go:53", after := #[{ on := 3, ground := Ground.data }, { on := 7, ground := Ground.data }], guard := none }) rfl (fun K hK => ?_) AllReadyH.nil
      refine ite_wanted ?_ ?_
      · kernel_rfl
      go_simp
      have hOd := (unhide HOP).next (wx := wr.drew) ((Kept.refl _ _).draws 1)
      refine (open_go B wr.drew dp dv (.slice (some ⟨lb, 0, none⟩) (n + 1) lc) (SL.map (·.p)) lb 0 lc SL ⟨#[107]⟩ ⟨#[97, 100, 109]⟩ hOd.dsk (by have := (unhide HD).1; omega) (unhide HPS wr.drew ((Kept.refl _ _).draws 1)) hOd.snk rfl (fun e he => by rw [((unhide HOP).new e he).1]; rfl) (by rw [List.length_map, hlen]; omega) (by decide) (by decide) (by have := hOd.kept.size; omega) (unhide HT wr.drew hOd.kept) (by have := hOd.kept.size; omega)).mono ?_
      rintro _ w5 ⟨vp, g, rfl, hv5, hgs, hgd, hk5, hft⟩
      have HK5 := hide (show Kept wr.heap.size wr w5 from ⟨hk5.os, hk5.output, hk5.size, hk5.block⟩)
      have HV5 := hide hv5
      have HG := hide (And.intro hgs (And.intro hgd hft))
      clear hv5 hgs hgd hft hk5 hOd
      show K _ w5
      refine hK.out _ _ (unhide HSC w5 (unhide HK5)) (fun hHeld8 => ?_)
      clear hK K
      try simp only [Act.put, List.setIfInBounds_toArray, List.set_cons_zero, List.set_cons_succ]
      refine wpAnyH_take (i := 9) (oi := { dst := some 30, op := Op.move (Operand.tmp 39), type := 72, pos := "keeps.go:53", after := #[{ on := 8, ground := Ground.data }], guard := none }) (v := .tuple #[.pointer (some ⟨vp, 0, none⟩), .int .i64 0]) rfl (by kernel_rfl) (by kernel_rfl) (by kernel_rfl) (fun _ _ _ h => h) (Or.inl ⟨by kernel_rfl, fun W hW => by kernel_rfl⟩) hHeld8 ?_
      simp only [Act.put, List.setIfInBounds_toArray, List.set_cons_zero, List.set_cons_succ]
      refine wpAnyH_take (i := 10) (oi := { dst := some 40, op := Op.extract (Operand.tmp 30) 0, type := 31, pos := "keeps.go:53", after := #[{ on := 9, ground := Ground.data }], guard := none }) (v := .pointer (some ⟨vp, 0, none⟩)) rfl (by kernel_rfl) (by kernel_rfl) (by kernel_rfl) (fun _ _ _ h => h) (Or.inl ⟨by kernel_rfl, fun W hW => by kernel_rfl⟩) hHeld8 ?_
      simp only [Act.put, List.setIfInBounds_toArray, List.set_cons_zero, List.set_cons_succ]
      refine wpAnyH_take (i := 11) (oi := { dst := some 41, op := Op.extract (Operand.tmp 30) 1, type := 43, pos := "keeps.go:53", after := #[{ on := 9, ground := Ground.data }, { on := 12, ground := Ground.gcOnly Departure.lateStores }], guard := none }) (v := .int .i64 0) rfl (by kernel_rfl) (by kernel_rfl) (by kernel_rfl) (fun _ _ _ h => h) (Or.inl ⟨by kernel_rfl, fun W hW => by kernel_rfl⟩) hHeld8 ?_
      simp only [Act.put, List.setIfInBounds_toArray, List.set_cons_zero, List.set_cons_succ]
      refine wpAnyH_take (i := 12) (oi := { dst := some 7, op := Op.assign (Operand.tmp 40), type := 31, pos := "keeps.go:53", after := #[{ on := 10, ground := Ground.data }, { on := 8, ground := Ground.chain }, { on := 0, ground := Ground.phase }, { on := 1, ground := Ground.phase }, { on := 2, ground := Ground.phase }, { on := 3, ground := Ground.phase }, { on := 4, ground := Ground.phase }, { on := 5, ground := Ground.phase }, { on := 6, ground := Ground.phase }, { on := 7, ground := Ground.phase }, { on := 8, ground := Ground.phase }, { on := 9, ground := Ground.phase }, { on := 10, ground := Ground.phase }, { on := 11, ground := Ground.textOnly Departure.lateStores }], guard := none }) (v := .pointer (some ⟨vp, 0, none⟩)) rfl (by kernel_rfl) (by kernel_rfl) (by kernel_rfl) (fun _ _ _ h => h) (Or.inl ⟨by kernel_rfl, fun W hW => by kernel_rfl⟩) hHeld8 ?_
      simp only [Act.put, List.setIfInBounds_toArray, List.set_cons_zero, List.set_cons_succ]
      refine wpAnyH_take (i := 13) (oi := { dst := some 8, op := Op.assign (Operand.tmp 41), type := 43, pos := "keeps.go:53", after := #[{ on := 11, ground := Ground.data }, { on := 12, ground := Ground.chain }, { on := 0, ground := Ground.phase }, { on := 1, ground := Ground.phase }, { on := 2, ground := Ground.phase }, { on := 3, ground := Ground.phase }, { on := 4, ground := Ground.phase }, { on := 5, ground := Ground.phase }, { on := 6, ground := Ground.phase }, { on := 7, ground := Ground.phase }, { on := 8, ground := Ground.phase }, { on := 9, ground := Ground.phase }, { on := 10, ground := Ground.phase }, { on := 11, ground := Ground.phase }, { on := 12, ground := Ground.phase }], guard := none }) (v := .int .i64 0) rfl (by kernel_rfl) (by kernel_rfl) (by kernel_rfl) (fun _ _ _ h => h) (Or.inl ⟨by kernel_rfl, fun W hW => by kernel_rfl⟩) hHeld8 ?_
      simp only [Act.put, List.setIfInBounds_toArray, List.set_cons_zero, List.set_cons_succ]
      refine wpAnyH_done (by kernel_rfl) ?_ _
      clear hHeld hHeld8
      have hO6 := (unhide HOP).next (unhide HK5)
      have hat6 := hO6.at'
      have hc0 : w5.cell? ⟨w2.heap.size, 0, none⟩ = some (.pointer none) := by rw [cell_of_row _ _ _ _ _ _ hat6]; rfl
      have hf0 : w5.frozen? ⟨w2.heap.size, 0, none⟩ = false := frozen_of_row _ _ _ _ _ hat6
      have HEND := hide (show ShA B (w5.setCell ⟨w2.heap.size, 0, none⟩ (.pointer (some ⟨vp, 0, none⟩))) w2.heap.size vp g (.slice (some ⟨lb, 0, none⟩) (n + 1) lc) (shop0 x) ∧ Kept w.heap.size w (w5.setCell ⟨w2.heap.size, 0, none⟩ (.pointer (some ⟨vp, 0, none⟩))) ∧ (∀ k, Hft w2.heap.size vp g (.slice (some ⟨lb, 0, none⟩) (n + 1) lc) k → w.heap.size ≤ k) ∧ 0 < g.SL.length from by
        obtain ⟨hgs, hgd, hft⟩ := unhide HG
        have hkw := (unhide HOP).kept.size
        have hT35 : TyAt w5 w2.heap.size 35 := ⟨_, hat6⟩
        have hst : Stay [36] w5 (w5.setCell ⟨w2.heap.size, 0, none⟩ (.pointer (some ⟨vp, 0, none⟩))) := stay_one hT35.knd (fun k hne _ => heap_setCell_other _ _ _ _ hne) (by decide)
        have hv := unhide HV5
        have hlt0 : w2.heap.size < wr.heap.size := (Array.getElem?_eq_some_iff.1 (unhide HOP).at').1
        have hrl := ((unhide HOP).row.lt lb rfl)
        have hnV : ∀ k, (k = w2.heap.size ∨ (Value.slice (some ⟨lb, 0, none⟩) (n + 1) lc).ownBlock = some k) → ¬ Vft vp g k := fun k hk hV => by
          have hkd : knd wr k = some 36 ∨ knd wr k = some 42 := by
            rcases hk with rfl | hk
            · exact .inl (show TyAt wr _ 35 from ⟨_, (unhide HOP).at'⟩).knd
            · exact .inr (show TyAt wr _ 41 from own_ty (unhide HOP).row hk).knd
          have hkl : k < wr.heap.size := by rcases hkd with h | h <;> exact knd_lt h
          rcases hft k hV with (rfl | h | ⟨e, he, h⟩) | h
          · have := (show TyAt wr k 117 from ⟨_, (unhide HOP).dsk.at'⟩).knd
            rw [this] at hkd
            rcases hkd with h | h <;> cases h
          · have := (show TyAt wr k 149 from own_ty (unhide HOP).dsk.own h).knd
            rw [this] at hkd
            rcases hkd with h | h <;> cases h
          · rcases h with rfl | h
            · have := ((wayS B 81 (by decide)).ty ((unhide HOP).snk.each e he)).knd
              rw [this] at hkd
              rcases hkd with h | h <;> cases h
            · rw [((unhide HOP).new e he).2.2] at h; cases h
          · have : wr.heap.size ≤ k := h
            omega
        have hvk : VAt B (w5.setCell ⟨w2.heap.size, 0, none⟩ (.pointer (some ⟨vp, 0, none⟩))) vp g (shop0 x) := by
          have e0 : shop0 x = vlt0 ⟨#[107]⟩ ⟨#[97, 100, 109]⟩ (SL.map (·.x)) := by
            rw [unhide HS0]
            have : SL.map (·.x) = List.replicate (n + 1) snk0 := by
              have h2 := List.eq_replicate_of_mem (a := snk0) (l := SL.map (·.x)) (fun b hb => by
                obtain ⟨e, he, rfl⟩ := List.mem_map.1 hb
                exact ((unhide HOP).new e he).1)
              rw [List.length_map, hlen] at h2
              exact h2
            rw [this]; rfl
          rw [e0]
          exact hv.stay fun k hk => heap_setCell_other _ _ _ _ fun e => hnV k (.inl e) hk
        refine ⟨⟨?_, ?_, hvk, by omega, hnV⟩, ?_, fun k hk => ?_, by rw [hgs, hlen]; omega⟩
        · rw [heap_setCell_same _ _ _ _ _ _ hat6, hgd]; rfl
        · rw [hgs, hlen]
          exact own_less (own_blocks hO6.row fun k hk => hst k _ (show TyAt w5 k 41 from own_ty hO6.row hk).knd (by decide)) hB
        · exact hO6.kept.setCell (p := ⟨w2.heap.size, 0, none⟩) (by show w.heap.size ≤ w2.heap.size; omega) _
        · rcases hk with rfl | hk | hk
          · omega
          · have := (unhide HOP).row.lt k hk; exact this.1
          · rcases hft k hk with (rfl | h | ⟨e, he, h⟩) | h
            · have := (unhide HD).1; omega
            · have := (unhide HD).2 k h; omega
            · rcases h with rfl | h
              · exact ((unhide HOP).new e he).2.1
              · rw [((unhide HOP).new e he).2.2] at h; cases h
            · have : wr.heap.size ≤ k := h
              omega)
      clear hO6 hat6
      go_wp2_with fail
      go_ret
      exact ⟨_, _, _, _, rfl, (unhide HEND).1, (unhide HEND).2.1, (unhide HEND).2.2.1, (unhide HEND).2.2.2⟩
end Go.Proofs.YtlbacbcenejngaaGreatDoor
