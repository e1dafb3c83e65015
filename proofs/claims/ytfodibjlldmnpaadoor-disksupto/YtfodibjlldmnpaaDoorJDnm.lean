/-
  Dnm, Dnm2, Dnm3, joined.
-/
import Derived.Test.YtfodibjlldmnpaaDoorJDcr
import Derived.BigQuiet
/-
  Disks: names in order, as plain lists.
-/
namespace Go.Proofs.YtfodibjlldmnpaaDoor
open Go.RowKit

theorem less_irr : ∀ x : List UInt8, Op.bytesLess x x = false
  | [] => rfl
  | a :: x => by simp [Op.bytesLess, less_irr x]
theorem less_tri : ∀ x y : List UInt8, (!(Op.bytesLess y x || (y == x))) = Op.bytesLess x y
  | [], [] => rfl
  | [], _ :: _ => by simp [Op.bytesLess]
  | _ :: _, [] => by simp [Op.bytesLess]
  | a :: x, b :: y => by
    have ih := less_tri x y
    simp only [Op.bytesLess]
    rcases Nat.lt_trichotomy a.toNat b.toNat with h | h | h
    · have h1 : a < b := UInt8.lt_iff_toNat_lt.2 h
      have h2 : ¬ b < a := fun e => by have := UInt8.lt_iff_toNat_lt.1 e; omega
      have h3 : (b == a) = false := by rw [beq_eq_false_iff_ne]; intro e; subst e; omega
      simp [h1, h2, h3]
    · obtain rfl : a = b := UInt8.toNat_inj.1 h
      have h2 : ¬ a < a := fun e => by have := UInt8.lt_iff_toNat_lt.1 e; omega
      simp only [h2, decide_false, Bool.false_or, beq_self_eq_true, Bool.true_and, List.cons_beq_cons]
      exact ih
    · have h1 : b < a := UInt8.lt_iff_toNat_lt.2 h
      have h2 : ¬ a < b := fun e => by have := UInt8.lt_iff_toNat_lt.1 e; omega
      have h3 : (a == b) = false := by rw [beq_eq_false_iff_ne]; intro e; subst e; omega
      simp [h1, h2, h3]
theorem less_trans : ∀ x y z : List UInt8, Op.bytesLess x y = true → Op.bytesLess y z = true → Op.bytesLess x z = true
  | _, [], _, h, _ => by simp [Op.bytesLess] at h
  | _, _ :: _, [], _, h => by simp [Op.bytesLess] at h
  | [], _ :: _, _ :: _, _, _ => by simp [Op.bytesLess]
  | a :: x, b :: y, c :: z, h1, h2 => by
    simp only [Op.bytesLess, Bool.or_eq_true, Bool.and_eq_true, decide_eq_true_eq, beq_iff_eq] at h1 h2 ⊢
    rcases h1 with h1 | ⟨rfl, h1⟩
    · rcases h2 with h2 | ⟨rfl, h2⟩
      · have := UInt8.lt_iff_toNat_lt.1 h1
        have := UInt8.lt_iff_toNat_lt.1 h2
        exact .inl (UInt8.lt_iff_toNat_lt.2 (by omega))
      · exact .inl h1
    · rcases h2 with h2 | ⟨rfl, h2⟩
      · exact .inl h2
      · exact .inr ⟨rfl, less_trans x y z h1 h2⟩
/-- Whether a name stands ahead of another. -/
def lt (x y : ByteArray) : Bool := Op.bytesLess x.toList y.toList
theorem lt_of_not {x y z : ByteArray} (h1 : lt x y = true) (h2 : lt z y = false) : lt x z = true := by
  unfold lt at *
  by_cases h : Op.bytesLess y.toList z.toList = true
  · exact less_trans _ _ _ h1 h
  · have ht := less_tri y.toList z.toList
    rw [h2] at ht
    simp only [Bool.false_or] at ht
    have h3 : (z.toList == y.toList) = true := by
      cases hq : (z.toList == y.toList)
      · rw [hq] at ht; simp at ht; exact absurd ht h
      · rfl
    rw [beq_iff_eq.1 h3]
    exact h1
def ins (x : ByteArray) : List ByteArray → List ByteArray
  | [] => [x]
  | y :: l => if lt x y then x :: y :: l else y :: ins x l
theorem ins_len (x : ByteArray) : ∀ l, (ins x l).length = l.length + 1
  | [] => rfl
  | y :: l => by rw [ins]; split <;> simp [ins_len x l]
/-- The names, in order. -/
def nmF (l : List Fl) : List ByteArray := l.foldl (fun acc f => ins f.name acc) []
theorem nm_len : ∀ (l : List Fl) (a : List ByteArray), (l.foldl (fun acc f => ins f.name acc) a).length = a.length + l.length
  | [], a => by simp
  | f :: l, a => by rw [List.foldl_cons, nm_len l, ins_len, List.length_cons]; omega
theorem nmF_len (l : List Fl) : (nmF l).length = l.length := by rw [nmF, nm_len]; simp
theorem nmF_snoc {l : List Fl} {i : Nat} (hi : i < l.length) : nmF (l.take (i + 1)) = ins (l.getD i fl0).name (nmF (l.take i)) := by
  rw [nmF, List.take_add_one, List.foldl_append, List.getElem?_eq_getElem hi, List.getD_eq_getElem?_getD, List.getElem?_eq_getElem hi]
  rfl
/-- Rising. -/
def Ris (l : List ByteArray) : Prop := ∀ i j, i < j → j < l.length → lt (l.getD j .empty) (l.getD i .empty) = false
theorem ris_pair (l : List ByteArray) : Ris l ↔ l.Pairwise fun a b => lt b a = false := by
  rw [List.pairwise_iff_getElem]
  constructor
  · intro h i j hi hj hij
    have := h i j hij hj
    rwa [List.getD_eq_getElem?_getD, List.getD_eq_getElem?_getD, List.getElem?_eq_getElem hj, List.getElem?_eq_getElem hi] at this
  · intro h i j hij hj
    have := h i j (by omega) hj hij
    rwa [List.getD_eq_getElem?_getD, List.getD_eq_getElem?_getD, List.getElem?_eq_getElem hj, List.getElem?_eq_getElem (by omega)]
theorem mem_ins {x z : ByteArray} : ∀ {l : List ByteArray}, z ∈ ins x l → z = x ∨ z ∈ l
  | [], h => by simpa [ins] using h
  | y :: l, h => by
    rw [ins] at h
    split at h
    · rcases List.mem_cons.1 h with h | h
      · exact .inl h
      · exact .inr h
    · rcases List.mem_cons.1 h with h | h
      · exact .inr (by rw [h]; exact List.mem_cons_self ..)
      · exact (mem_ins h).imp id (List.mem_cons_of_mem _)
theorem lt_asymm {x y : ByteArray} (h : lt x y = true) : lt y x = false := by
  cases hq : lt y x
  · rfl
  · have := less_trans _ _ _ h hq
    rw [less_irr] at this
    cases this
theorem ins_ris (x : ByteArray) : ∀ {l : List ByteArray}, (l.Pairwise fun a b => lt b a = false) → (ins x l).Pairwise fun a b => lt b a = false
  | [], _ => by simp [ins]
  | y :: l, h => by
    obtain ⟨h1, h2⟩ := List.pairwise_cons.1 h
    rw [ins]
    split
    · rename_i hx
      refine List.pairwise_cons.2 ⟨fun z hz => ?_, h⟩
      rcases List.mem_cons.1 hz with rfl | hz
      · exact lt_asymm hx
      · exact lt_asymm (lt_of_not hx (h1 z hz))
    · rename_i hx
      refine List.pairwise_cons.2 ⟨fun z hz => ?_, ins_ris x h2⟩
      rcases mem_ins hz with rfl | hz
      · simpa using hx
      · exact h1 z hz
theorem nm_ris : ∀ (l : List Fl) (a : List ByteArray), (a.Pairwise fun a b => lt b a = false) → (l.foldl (fun acc f => ins f.name acc) a).Pairwise fun a b => lt b a = false
  | [], _, h => h
  | f :: l, _a, h => nm_ris l _ (ins_ris f.name h)
theorem nmF_ris (l : List Fl) : (nmF l).Pairwise fun a b => lt b a = false := nm_ris l [] List.Pairwise.nil
/-- Where the code comes to stand still, the name is in its place. -/
theorem ins_at (x : ByteArray) : ∀ {l : List ByteArray} (k : Nat), (l.Pairwise fun a b => lt b a = false) → k ≤ l.length → (∀ j, k ≤ j → j < l.length → lt x (l.getD j .empty) = true) → (k = 0 ∨ lt x (l.getD (k - 1) .empty) = false) → l.take k ++ x :: l.drop k = ins x l
  | [], k, _, hk, _, _ => by simp at hk; subst hk; rfl
  | y :: l, 0, _, _, h1, _ => by
    have := h1 0 (Nat.le_refl _) (by simp)
    rw [ins, if_pos (by simpa using this)]
    rfl
  | y :: l, k + 1, hp, hk, h1, h2 => by
    obtain ⟨hp1, hp2⟩ := List.pairwise_cons.1 hp
    have h3 : lt x ((y :: l).getD k .empty) = false := by rcases h2 with h2 | h2; · omega
                                                          · simpa using h2
    have h4 : lt x y = false := by
      cases hq : lt x y
      · rfl
      · cases k with
        | zero => simp at h3; rw [hq] at h3; cases h3
        | succ k =>
          have hkl : k < l.length := by simp at hk; omega
          have := lt_of_not hq (hp1 (l.getD k .empty) (by rw [List.getD_eq_getElem?_getD, List.getElem?_eq_getElem hkl]; exact List.getElem_mem hkl))
          simp only [List.getD_cons_succ] at h3
          rw [this] at h3; cases h3
    rw [ins, if_neg (by rw [h4]; simp), List.take_succ_cons, List.drop_succ_cons, List.cons_append]
    congr 1
    refine ins_at x k hp2 (by simpa using hk) (fun j hj hjl => by have := h1 (j + 1) (by omega) (by simpa using hjl); simpa using this) ?_
    cases k with
    | zero => exact .inl rfl
    | succ k => exact .inr (by simpa using h3)
end Go.Proofs.YtfodibjlldmnpaaDoor
/-
  Disks: Names.
-/
namespace Go.Proofs.YtfodibjlldmnpaaDoor
open Go.RowKit

theorem info9n : (Tryd.prog.info? 9).map (fun i => (i.zero, i.size, i.bytes)) = some (some (.string ByteArray.empty), 1, 16) := by kernel_rfl
def scells (l : List ByteArray) : List Value := l.map Value.string
/-- A string more, as the walk takes it. -/
theorem wpList_append_str {w : World} {ops : Array Oper} {rest : List Oper} {o : Oper} {act : Act} {Q : Exit → Act → World → Prop} (hgd : o.guard = none) (s x : Operand)
    (ho : o.op = .call { callee := .builtin .append, args := #[s, x], argTypes := #[30, 30] }) (B : Nat)
    (v : Value) (l : List ByteArray) (f : ByteArray) (w0 : World) (hs : act.eval s = v) (hown : w0.ownsRow B 9 1 v l.length (scells l)) (hl : l.length ≤ 4194304)
    (hx : act.eval x = .slice (some ⟨w0.heap.size, 0, none⟩) 1 1) (hw : w = w0.alloc (.cells #[.string f] 9)) (hB : B ≤ w0.heap.size)
    (h : ∀ v' w', w'.ownsRow B 9 1 v' (l ++ [f]).length (scells (l ++ [f])) → Upd w0.heap.size v v' w0 w' → wpList Tryd.prog ops Q rest (act.put o.dst v') w') : wpList Tryd.prog ops Q (o :: rest) act w := by
  obtain ⟨i0, hi0, hz0, hz1, hz2⟩ := info_parts info9n
  subst hw
  refine wpList_plain hgd fun _ hK => wp_append_fresh s x 30 ho B 9 i0 _ 1 16 Tryd.underlying30 hi0 hz0 hz1 hz2 rfl (by decide) v l.length (scells l) hs (hown.alloc _) ⟨w0.heap.size, 0, none⟩ 1 1 [.string f] hx rfl (news_any rfl) ?_ (by decide) ?_ ?_ ?_ fun v' w' h1 h2 h3 => hK _ _ (h v' w' ?_ ?_)
  · intro u hu
    rw [List.mem_singleton.1 hu]; rfl
  · unfold maxLen; omega
  · omega
  · simp; omega
  · rw [List.length_append, List.length_singleton]
    simpa [scells] using h1
  · have hs2 := h2.size
    simp only [World.size_alloc] at hs2
    refine ⟨h2.os, h2.output, by omega, fun k hk _ hv => (h2.block k (by simp; omega) fun e => hv e.symm).trans (Below.heap_alloc _ _ _ hk), fun k hk => ?_⟩
    rcases h3 with h3 | h3
    · exact .inl (h3 ▸ hk)
    · rw [h3] at hk
      simp only [World.size_alloc, Option.some.injEq] at hk
      exact .inr (by omega)
/-- A list of names that is being made. -/
structure Nm (w : World) (v : Value) (l : List ByteArray) (wr : World) : Prop where
  own : wr.ownsRow w.heap.size 9 1 v l.length (scells l)
  kept : Kept w.heap.size w wr
theorem Nm.next {w : World} {v : Value} {l : List ByteArray} {wr wx : World} (h : Nm w v l wr) (hk : Kept wr.heap.size wr wx) : Nm w v l wx := ⟨own_kept h.own hk, h.kept.trans (hk.mono h.kept.size)⟩
theorem Nm.app {w : World} {v v' : Value} {l : List ByteArray} {f : ByteArray} {wr w' : World} (h : Nm w v l wr) (ho : w'.ownsRow w.heap.size 9 1 v' (l ++ [f]).length (scells (l ++ [f]))) (hu : Upd wr.heap.size v v' wr w') : Nm w v' (l ++ [f]) w' :=
  ⟨ho, h.kept.trans ⟨hu.os, hu.output, hu.size, fun k hk' => hu.block k (Nat.lt_of_lt_of_le hk' h.kept.size) (by have := h.kept.size; omega) fun e => by have := (h.own.lt k e).1; omega⟩⟩
theorem Nm.nil (w : World) : Nm w (.slice none 0 0) [] w := ⟨World.ownsRow_nil _ _ _ _, Kept.refl _ _⟩
theorem Nm.at {w : World} {g n cap : Nat} {l : List ByteArray} {wr : World} (h : Nm w (.slice (some ⟨g, 0, none⟩) n cap) l wr) {k : Nat} (hk : k < l.length) : wr.cell? ⟨g, k, none⟩ = some (.string (l.getD k .empty)) := by
  obtain ⟨_, _, hn, _, _⟩ := own_len h.own
  simp only [Value.slice.injEq] at hn
  obtain ⟨_, rfl, _⟩ := hn
  obtain ⟨g2, cap2, hv, hc⟩ := own_cell h.own hk
  cases hv
  rw [hc, scells, List.getD_eq_getElem?_getD, List.getD_eq_getElem?_getD, List.getElem?_map, List.getElem?_eq_getElem hk]
  rfl
theorem Nm.fz {w : World} {g n cap : Nat} {l : List ByteArray} {wr : World} (h : Nm w (.slice (some ⟨g, 0, none⟩) n cap) l wr) (k : Nat) : wr.frozen? ⟨g, k, none⟩ = false := by
  obtain ⟨cur, hc⟩ := own_ty h.own (k := g) rfl
  exact frozen_of_row _ _ _ _ _ hc
theorem Nm.set {w : World} {g n cap : Nat} {l : List ByteArray} {wr : World} (h : Nm w (.slice (some ⟨g, 0, none⟩) n cap) l wr) {k : Nat} (_hk : k < l.length) (s : ByteArray) : Nm w (.slice (some ⟨g, 0, none⟩) n cap) (l.set k s) (wr.setCell ⟨g, k, none⟩ (.string s)) := by
  refine ⟨?_, h.kept.setCell (p := ⟨g, k, none⟩) (h.own.lt g rfl).1 _⟩
  rcases h.own.2 with ⟨h', _⟩ | ⟨g2, c, cur, h1, h2, h3, h4, h5, h6, h7⟩
  · cases h'
  · simp only [Value.slice.injEq, Option.some.injEq, Addr.mk.injEq, and_true] at h1
    obtain ⟨rfl, rfl, rfl⟩ := h1
    refine ⟨by simp [scells], .inr ⟨g, cap, _, by rw [List.length_set], h2, heap_setCell_same _ _ _ _ _ _ h3, by rw [List.length_set]; exact h4, h5, by simpa using h6, ?_⟩⟩
    rw [Array.toList_setIfInBounds, List.length_set, List.take_set, h7, scells, scells, List.map_set]
theorem mid_at {l : List ByteArray} {m : ByteArray} {k : Nat} (hk : k ≤ l.length) : (l.take k ++ m :: l.drop k).getD k .empty = m := by
  rw [List.getD_eq_getElem?_getD, List.getElem?_append_right (by rw [List.length_take]; omega), List.length_take, Nat.min_eq_left hk, Nat.sub_self]
  rfl
theorem mid_ahead {l : List ByteArray} {m : ByteArray} {k j : Nat} (hk : k ≤ l.length) (hj : j < k) : (l.take k ++ m :: l.drop k).getD j .empty = l.getD j .empty := by
  rw [List.getD_eq_getElem?_getD, List.getElem?_append_left (by rw [List.length_take]; omega), List.getElem?_take, if_pos hj, List.getD_eq_getElem?_getD]
theorem mid_len (l : List ByteArray) (m : ByteArray) (k : Nat) : (l.take k ++ m :: l.drop k).length = l.length + 1 := by
  rw [List.length_append, List.length_cons, List.length_take, List.length_drop]; omega
theorem mid_swap {l : List ByteArray} {m : ByteArray} {k : Nat} (hk : k + 1 ≤ l.length) : ((l.take (k + 1) ++ m :: l.drop (k + 1)).set (k + 1) (l.getD k .empty)).set k m = l.take k ++ m :: l.drop k := by
  have h1 : l.drop k = l.getD k .empty :: l.drop (k + 1) := by rw [List.drop_eq_getElem_cons (by omega), List.getD_eq_getElem?_getD, List.getElem?_eq_getElem (by omega)]; rfl
  have h2 : l.take (k + 1) = l.take k ++ [l.getD k .empty] := by rw [List.take_add_one, List.getElem?_eq_getElem (by omega), List.getD_eq_getElem?_getD, List.getElem?_eq_getElem (by omega)]; rfl
  have h3 : (l.take k).length = k := by rw [List.length_take]; omega
  rw [h1, h2, List.set_append_right _ _ (by simp; omega), List.append_assoc, List.set_append_right _ _ (by omega), h3, List.length_append, h3]
  simp
/-- What Names answers. -/
def nmEnd (w : World) (d : Dsk) (e : Ending) (w' : World) : Prop := ∃ v, e = .returned v ∧ Nm w v (nmF d.files) w'
set_option maxRecDepth 100000 in
set_option maxHeartbeats 4000000 in
theorem names_go (B : Nat) (w : World) (p : Nat) (v : Value) (d : Dsk) (h : DAt B 96 111 w p v d) (hf : d.files.length ≤ 4194303) :
    Calls Tryd.prog 79 #[.pointer (some ⟨p, 0, none⟩)] w (nmEnd w d) := by
  obtain ⟨ao, cap, rfl, hcap, hao⟩ := own_len h.own
  have h0 := h.c0
  have H := hide h
  clear h
  go_enter Tryd.func79, Tryd.ntmps79
  go_wp2_with fail
  go_loopw [13, 3] (fun vi vl wr => ∃ i : Nat, i ≤ d.files.length ∧ vi = .int .i64 i ∧ Nm w vl (nmF (d.files.take i)) wr) (fun vi _ _ => d.files.length - (intOf vi).toNat)
  case atStart => exact ⟨0, Nat.zero_le _, rfl, Nm.nil w⟩
  case round =>
    obtain ⟨i, hi, rfl, hnm⟩ := hrel
    have hd := (unhide H).kept hnm.kept
    have HN := hide hnm
    have HD := hide hd
    clear hnm hd
    by_cases hlt : i < d.files.length
    · obtain ⟨g, rfl⟩ := hao (by omega)
      have hiI : (i : Int) < (d.files.length : Int) := by omega
      have hi0 : (0 : Int) ≤ (i : Int) := by omega
      have HS := hide (nmF_snoc hlt)
      have HR := hide (nmF_ris (d.files.take i))
      have hc : wr.cell? ⟨g, i * 3, none⟩ = some (.string (d.files.getD i fl0).name) := by have := own_file (unhide HD).own hlt (j := 0) (by omega); simpa [Fl.cells] using this
      have hc1 : wr.cell? ⟨g, i * 3 + 1, none⟩ = some (.string (d.files.getD i fl0).data) := by have := own_file (unhide HD).own hlt (j := 1) (by omega); simpa [Fl.cells] using this
      have hc2 : wr.cell? ⟨g, i * 3 + 2, none⟩ = some (.int .i64 ((d.files.getD i fl0).safe : Int)) := by have := own_file (unhide HD).own hlt (j := 2) (by omega); simpa [Fl.cells] using this
      generalize d.files.getD i fl0 = f at hc hc1 hc2 HS
      obtain ⟨m, dt, sf⟩ := f
      simp only at hc hc1 hc2
      have hln : (nmF (d.files.take i)).length = i := by rw [nmF_len, List.length_take]; omega
      generalize nmF (d.files.take i) = l at HN HS HR hln
      have HNA := hide ((unhide HN).next ((Kept.refl _ _).alloc (Nat.le_refl _) (.cells #[.string m, .string dt, .int .i64 (sf : Int)] 111)))
      obtain ⟨al, capl, hvl, _, _⟩ := own_len (unhide HN).own
      rw [hln] at hvl
      subst hvl
      go_wp2_with (refine wpList_halt2 (.tmp 17) (.tmp 20) 30 rfl ?_)
      refine Stp.mk ?_
      refine wpList_append_str rfl (.tmp 17) (.tmp 20) rfl w.heap.size _ l m (wr.alloc (.cells #[.string m, .string dt, .int .i64 (sf : Int)] 111)) rfl (unhide HNA).own (by omega) (by rw [World.size_alloc]; rfl) rfl (unhide HNA).kept.size ?_
      intro v2 w2 ho2 u2
      have HN2 := hide ((unhide HNA).app ho2 u2)
      obtain ⟨a2, c2, hv2, _, hg2⟩ := own_len ho2
      rw [List.length_append, List.length_singleton, hln] at hv2 hg2
      obtain ⟨g2, rfl⟩ := hg2 (by omega)
      subst hv2
      clear ho2 u2 HNA HN hc hc1 hc2 hg2
      simp only [Act.put, List.setIfInBounds_toArray, List.set_cons_zero, List.set_cons_succ]
      go_wp2_with fail
      go_loopw [6] (fun vk wr => ∃ k : Nat, k ≤ i ∧ vk = .int .i64 k ∧ (∀ j, k ≤ j → j < i → lt m (l.getD j .empty) = true) ∧ Nm w (.slice (some ⟨g2, 0, none⟩) (i + 1) c2) (l.take k ++ m :: l.drop k) wr) (fun vk _ => (intOf vk).toNat)
      case atStart => exact ⟨i, Nat.le_refl _, rfl, fun j h1 h2 => absurd h1 (by omega), by have := unhide HN2; rwa [List.take_of_length_le (by omega), List.drop_of_length_le (by omega)]⟩
      case round =>
        rename_i wo _ _
        obtain ⟨k, hk, rfl, hall, hnm⟩ := hrel
        have HN3 := hide hnm
        have HA := hide hall
        clear hnm hall
        cases k with
        | zero =>
          have HF := hide (show nmF (d.files.take (i + 1)) = l.take 0 ++ m :: l.drop 0 from by rw [unhide HS]; exact (ins_at m 0 (unhide HR) (by omega) (fun j h1 h2 => unhide HA j h1 (by omega)) (.inl rfl)).symm)
          go_wp2_with fail
          go_quiet (fail)
          go_wp2_with fail
          go_roundw
          case rel => exact ⟨i + 1, by omega, by go_num, by rw [unhide HF]; exact (unhide HN3).next ((Kept.refl _ _).draws _)⟩
          case measure => simp [intOf]; omega
        | succ k =>
          have hkI : (k : Int) < (i : Int) := by omega
          have hk1 : (k : Int) + 1 < (i : Int) + 1 := by omega
          have hk0 : (0 : Int) ≤ (k : Int) := by omega
          have hka : (0 : Int) < (k : Int) + 1 := by omega
          have hml := mid_len l m (k + 1)
          have hcA : wr.cell? ⟨g2, k + 1, none⟩ = some (.string m) := by have := (unhide HN3).at (k := k + 1) (by omega); rwa [mid_at (by omega)] at this
          have hcB : wr.cell? ⟨g2, k, none⟩ = some (.string (l.getD k .empty)) := by have := (unhide HN3).at (k := k) (by omega); rwa [mid_ahead (by omega) (by omega)] at this
          have hzA := (unhide HN3).fz (k + 1)
          have hzB := (unhide HN3).fz k
          have HSW := hide (show ∀ nq, Nm w (.slice (some ⟨g2, 0, none⟩) (i + 1) c2) (l.take k ++ m :: l.drop k) (((wr.drewN nq).setCell ⟨g2, k + 1, none⟩ (.string (l.getD k .empty))).setCell ⟨g2, k, none⟩ (.string m)) from fun nq => by
            have := (((unhide HN3).next (wx := wr.drewN nq) ((Kept.refl _ _).draws _)).set (k := k + 1) (by omega) (l.getD k .empty)).set (k := k) (by rw [List.length_set]; omega) m
            rwa [mid_swap (by omega)] at this)
          generalize hy : l.getD k .empty = y at hcB HSW
          have HY := hide hy
          by_cases hlt2 : lt m y = true
          · have hq : Op.bytesLess m.toList y.toList = true := hlt2
            clear hy hml
            go_wp2_with fail
            go_quiet (fail)
            go_wp2_with fail
            go_roundw
            case rel =>
              refine ⟨k, by omega, by go_num, fun j h1 h2 => ?_, unhide HSW _⟩
              rcases Nat.lt_or_ge k j with h3 | h3
              · exact unhide HA j h3 h2
              · rw [show j = k by omega, unhide HY]; exact hlt2
            case measure => simp [intOf]
          · have hf2 : lt m y = false := by simpa using hlt2
            have hq : Op.bytesLess m.toList y.toList = false := hf2
            have HF := hide (show nmF (d.files.take (i + 1)) = l.take (k + 1) ++ m :: l.drop (k + 1) from by rw [unhide HS]; exact (ins_at m (k + 1) (unhide HR) (by omega) (fun j h1 h2 => unhide HA j h1 (by omega)) (.inr (by rw [Nat.add_sub_cancel, hy]; exact hf2))).symm)
            clear hy hml
            go_wp2_with fail
            go_quiet (fail)
            go_wp2_with fail
            go_roundw
            case rel => exact ⟨i + 1, by omega, by go_num, by rw [unhide HF]; exact (unhide HN3).next ((Kept.refl _ _).draws _)⟩
            case measure => simp [intOf]; omega
    · have hiI : ¬ (i : Int) < (d.files.length : Int) := by omega
      go_wp2
      all_goals go_ret
      all_goals exact ⟨_, rfl, by have := unhide HN; rwa [List.take_of_length_le (by omega)] at this⟩
end Go.Proofs.YtfodibjlldmnpaaDoor
/-
  Disks: Names, the reference's.
-/
namespace Go.Proofs.YtfodibjlldmnpaaDoor
open Go.RowKit

theorem ins_first (m : ByteArray) : ∀ (l : List ByteArray) (k : Nat), k ≤ l.length → (∀ j, j < k → lt m (l.getD j .empty) = false) → (k < l.length → lt m (l.getD k .empty) = true) → l.take k ++ m :: l.drop k = ins m l
  | [], k, hk, _, _ => by simp at hk; subst hk; rfl
  | y :: l, 0, _, _, h => by
    have := h (by simp)
    rw [ins, if_pos (by simpa using this)]
    rfl
  | y :: l, k + 1, hk, h1, h2 => by
    have h3 := h1 0 (by omega)
    rw [ins, if_neg (by simp at h3; rw [h3]; simp), List.take_succ_cons, List.drop_succ_cons, List.cons_append, ins_first m l k (by simpa using hk) (fun j hj => by have := h1 (j + 1) (by omega); simpa using this) (fun hj => by have := h2 (by simpa using hj); simpa using this)]
/-- Where the inner loop stands. -/
def Mids (m : ByteArray) (l : List ByteArray) (k : Nat) (b : Bool) (part : List ByteArray) : Prop :=
  (b = false ∧ part = l.take k ∧ ∀ j, j < k → lt m (l.getD j .empty) = false) ∨ (b = true ∧ part ++ l.drop k = ins m l)
theorem drop_one {l : List ByteArray} {k : Nat} (hk : k < l.length) : l.drop k = l.getD k .empty :: l.drop (k + 1) := by
  rw [List.drop_eq_getElem_cons hk, List.getD_eq_getElem?_getD, List.getElem?_eq_getElem hk]; rfl
theorem take_one {l : List ByteArray} {k : Nat} (hk : k < l.length) : l.take (k + 1) = l.take k ++ [l.getD k .empty] := by
  rw [List.take_add_one, List.getElem?_eq_getElem hk, List.getD_eq_getElem?_getD, List.getElem?_eq_getElem hk]; rfl
theorem mids_in {m : ByteArray} {l part : List ByteArray} {k : Nat} (h : Mids m l k true part) (hk : k < l.length) : Mids m l (k + 1) true (part ++ [l.getD k .empty]) := by
  rcases h with ⟨h, _⟩ | ⟨_, h⟩
  · cases h
  · exact .inr ⟨rfl, by rw [← h, drop_one hk, List.append_assoc]; rfl⟩
theorem mids_skip {m : ByteArray} {l part : List ByteArray} {k : Nat} (h : Mids m l k false part) (hk : k < l.length) (hm : lt m (l.getD k .empty) = false) : Mids m l (k + 1) false (part ++ [l.getD k .empty]) := by
  rcases h with ⟨_, h1, h2⟩ | ⟨h, _⟩
  · refine .inl ⟨rfl, by rw [h1, take_one hk], fun j hj => ?_⟩
    rcases Nat.lt_or_ge j k with h3 | h3
    · exact h2 j h3
    · rw [show j = k by omega]; exact hm
  · cases h
theorem mids_put {m : ByteArray} {l part : List ByteArray} {k : Nat} (h : Mids m l k false part) (hk : k < l.length) (hm : lt m (l.getD k .empty) = true) : Mids m l (k + 1) true ((part ++ [m]) ++ [l.getD k .empty]) := by
  rcases h with ⟨_, h1, h2⟩ | ⟨h, _⟩
  · refine .inr ⟨rfl, ?_⟩
    rw [← ins_first m l k (by omega) h2 (fun _ => hm), h1, drop_one hk]
    simp
  · cases h
theorem mids_end {m : ByteArray} {l part : List ByteArray} {b : Bool} (h : Mids m l l.length b part) : (if b then part else part ++ [m]) = ins m l := by
  rcases h with ⟨rfl, h1, h2⟩ | ⟨rfl, h⟩
  · rw [h1, ← ins_first m l l.length (Nat.le_refl _) h2 (fun h => absurd h (by omega))]
    simp
  · simpa using h
theorem mids_len {m : ByteArray} {l part : List ByteArray} {k : Nat} {b : Bool} (h : Mids m l k b part) (hk : k ≤ l.length) : part.length ≤ l.length + 1 := by
  rcases h with ⟨_, h1, _⟩ | ⟨_, h⟩
  · rw [h1, List.length_take]; omega
  · have := congrArg List.length h
    rw [List.length_append, ins_len] at this
    omega
theorem Nm.up {w w2 : World} {v : Value} {l l2 : List ByteArray} {v2 : Value} {wr : World} (h : Nm w v l w2) (h2 : Nm w2 v2 l2 wr) : Nm w v2 l2 wr := ⟨h2.own.mono h.kept.size, h.kept.trans (h2.kept.mono h.kept.size)⟩
theorem gtr_eq {m y : ByteArray} : (Op.bytesLess y.toList m.toList || (y.toList == m.toList)) = !lt m y := by
  have := less_tri m.toList y.toList
  rw [lt, ← this, Bool.not_not]
set_option maxRecDepth 100000 in
set_option maxHeartbeats 8000000 in
theorem names_ref (B : Nat) (w : World) (p : Nat) (v : Value) (d : Dsk) (h : DAt B 99 113 w p v d) (hf : d.files.length ≤ 4194303) :
    Calls Tryd.prog 80 #[.pointer (some ⟨p, 0, none⟩)] w (nmEnd w d) := by
  obtain ⟨ao, cap, rfl, hcap, hao⟩ := own_len h.own
  have h0 := h.c0
  have H := hide h
  clear h
  go_enter Tryd.func80, Tryd.ntmps80
  go_wp2_with fail
  go_loopw [4, 3] (fun vi vl wr => ∃ i : Nat, i ≤ d.files.length ∧ vi = .int .i64 i ∧ Nm w vl (nmF (d.files.take i)) wr) (fun vi _ _ => d.files.length - (intOf vi).toNat)
  case atStart => exact ⟨0, Nat.zero_le _, rfl, Nm.nil w⟩
  case round =>
    obtain ⟨i, hi, rfl, hnm⟩ := hrel
    have hd := (unhide H).kept hnm.kept
    have HN := hide hnm
    have HD := hide hd
    have hp0 := hd.c0
    clear hnm hd h0
    by_cases hlt : i < d.files.length
    · obtain ⟨g, rfl⟩ := hao (by omega)
      have hiI : (i : Int) < (d.files.length : Int) := by omega
      have hi0 : (0 : Int) ≤ (i : Int) := by omega
      have HS := hide (nmF_snoc hlt)
      have hln : (nmF (d.files.take i)).length = i := by rw [nmF_len, List.length_take]; omega
      generalize hm' : (d.files.getD i fl0).name = m at HS
      have HM := hide hm'
      clear hm'
      generalize nmF (d.files.take i) = l at HN HS hln
      obtain ⟨al, capl, hvl, _, hgl⟩ := own_len (unhide HN).own
      rw [hln] at hvl hgl
      subst hvl
      go_wp2_with fail
      generalize hwo : wr = wo at HN HD hp0 ⊢
      clear hwo
      go_loopw [7, 5, 6] (fun vk vl vb wr => ∃ (k : Nat) (b : Bool) (part : List ByteArray), k ≤ i ∧ vk = .int .i64 k ∧ vb = .bool b ∧ Nm wo vl part wr ∧ Mids m l k b part) (fun vk _ _ _ => i - (intOf vk).toNat)
      case atStart => exact ⟨0, false, [], Nat.zero_le _, rfl, rfl, Nm.nil _, .inl ⟨rfl, rfl, fun j hj => absurd hj (by omega)⟩⟩
      case round =>
        obtain ⟨k, b, part, hk, rfl, rfl, hnm, hmd⟩ := hrel
        have HN3 := hide hnm
        have HMD := hide hmd
        have hpl : part.length ≤ 4194304 := by have := mids_len hmd (by omega); omega
        have hp1 := ((unhide HD).kept hnm.kept).c0
        have hcN : wr.cell? ⟨g, i * 3, none⟩ = some (.string m) := by have := own_file ((unhide HD).kept hnm.kept).own hlt (j := 0) (by omega); simp [Fl.cells] at this; rw [this]; have h := unhide HM; simp at h; rw [h]
        have HNO := hide ((unhide HN).next hnm.kept)
        obtain ⟨ap, capp, hvp, _, _⟩ := own_len hnm.own
        subst hvp
        clear hnm hmd
        by_cases hkl : k < i
        · obtain ⟨gl, rfl⟩ := hgl (by omega)
          have hkI : (k : Int) < (i : Int) := by omega
          have hk0 : (0 : Int) ≤ (k : Int) := by omega
          have hcK : wr.cell? ⟨gl, k, none⟩ = some (.string (l.getD k .empty)) := (unhide HNO).at (by omega)
          generalize hy : l.getD k .empty = y at hcK
          have HY := hide hy
          clear hy
          cases b with
          | true =>
            go_wp2_with fail
            go_quiet (fail)
            go_wp2_with (refine wpList_halt2 (.tmp 51) (.tmp 56) 30 rfl ?_)
            refine Stp.mk ?_
            have HND := hide ((unhide HN3).next (wx := wr.drewN nq) ((Kept.refl _ _).draws _))
            refine wpList_append_str rfl (.tmp 51) (.tmp 56) rfl wo.heap.size _ part y (wr.drewN nq) rfl (unhide HND).own hpl rfl rfl (unhide HND).kept.size ?_
            intro v2 w2 ho2 u2
            have HN4 := hide ((unhide HND).app ho2 u2)
            obtain ⟨a2, c2, hv2, _, _⟩ := own_len ho2
            subst hv2
            clear ho2 u2
            simp only [Act.put, List.setIfInBounds_toArray, List.set_cons_zero, List.set_cons_succ]
            go_wp2
            go_roundw
            case rel => exact ⟨k + 1, true, part ++ [y], by omega, by go_num, rfl, unhide HN4, by have := mids_in (unhide HMD) (by omega); rwa [unhide HY] at this⟩
            case measure => simp [intOf]; omega
          | false =>
            by_cases hlt2 : lt m y = true
            · have hq : (Op.bytesLess y.toList m.toList || (y.toList == m.toList)) = false := by rw [gtr_eq, hlt2]; rfl
              go_wp2_with fail
              go_quiet (fail)
              go_wp2_with (refine wpList_halt2 (.tmp 40) (.tmp 49) 30 rfl ?_)
              refine Stp.mk ?_
              have HND := hide ((unhide HN3).next (wx := wr.drewN nq) ((Kept.refl _ _).draws _))
              refine wpList_append_str rfl (.tmp 40) (.tmp 49) rfl wo.heap.size _ part m (wr.drewN nq) rfl (unhide HND).own hpl rfl rfl (unhide HND).kept.size ?_
              intro v2 w2 ho2 u2
              have HN4 := hide ((unhide HND).app ho2 u2)
              obtain ⟨a2, c2, hv2, _, _⟩ := own_len ho2
              subst hv2
              clear ho2 u2
              simp only [Act.put, List.setIfInBounds_toArray, List.set_cons_zero, List.set_cons_succ]
              have hcK2 : w2.cell? ⟨gl, k, none⟩ = some (.string y) := by
                have := ((unhide HN).next (unhide HN4).kept).at (k := k) (by omega)
                rwa [unhide HY] at this
              go_wp2_with (refine wpList_halt2 (.tmp 51) (.tmp 56) 30 rfl ?_)
              refine Stp.mk ?_
              refine wpList_append_str rfl (.tmp 51) (.tmp 56) rfl wo.heap.size _ (part ++ [m]) y w2 rfl (unhide HN4).own (by have := mids_len (unhide HMD) (by omega); rw [List.length_append, List.length_singleton]; omega) rfl rfl (unhide HN4).kept.size ?_
              intro v3 w3 ho2 u2
              have HN5 := hide ((unhide HN4).app ho2 u2)
              obtain ⟨a3, c3, hv3, _, _⟩ := own_len ho2
              subst hv3
              clear ho2 u2
              simp only [Act.put, List.setIfInBounds_toArray, List.set_cons_zero, List.set_cons_succ]
              go_wp2
              go_roundw
              case rel => exact ⟨k + 1, true, (part ++ [m]) ++ [y], by omega, by go_num, rfl, unhide HN5, by have := mids_put (unhide HMD) (by omega) (by rw [unhide HY]; exact hlt2); rwa [unhide HY] at this⟩
              case measure => simp [intOf]; omega
            · have hf2 : lt m y = false := by simpa using hlt2
              have hq : (Op.bytesLess y.toList m.toList || (y.toList == m.toList)) = true := by rw [gtr_eq, hf2]; rfl
              go_wp2_with fail
              go_quiet (fail)
              go_wp2_with (refine wpList_halt2 (.tmp 51) (.tmp 56) 30 rfl ?_)
              refine Stp.mk ?_
              have HND := hide ((unhide HN3).next (wx := wr.drewN nq) ((Kept.refl _ _).draws _))
              refine wpList_append_str rfl (.tmp 51) (.tmp 56) rfl wo.heap.size _ part y (wr.drewN nq) rfl (unhide HND).own hpl rfl rfl (unhide HND).kept.size ?_
              intro v2 w2 ho2 u2
              have HN4 := hide ((unhide HND).app ho2 u2)
              obtain ⟨a2, c2, hv2, _, _⟩ := own_len ho2
              subst hv2
              clear ho2 u2
              simp only [Act.put, List.setIfInBounds_toArray, List.set_cons_zero, List.set_cons_succ]
              go_wp2
              go_roundw
              case rel => exact ⟨k + 1, false, part ++ [y], by omega, by go_num, rfl, unhide HN4, by have := mids_skip (unhide HMD) (by omega) (by rw [unhide HY]; exact hf2); rwa [unhide HY] at this⟩
              case measure => simp [intOf]; omega
        · have hkI : ¬ (k : Int) < (i : Int) := by omega
          obtain rfl : k = i := by omega
          have HE := hide (show (if b then part else part ++ [m]) = nmF (d.files.take (k + 1)) from by rw [unhide HS]; exact mids_end (by rw [hln]; exact unhide HMD))
          cases b with
          | true =>
            go_wp2
            go_roundw
            case rel => exact ⟨k + 1, by omega, by go_num, by rw [← unhide HE]; exact (unhide HN).up (unhide HN3)⟩
            case measure => simp [intOf]; omega
          | false =>
            go_wp2_with (refine wpList_halt2 (.tmp 60) (.tmp 69) 30 rfl ?_)
            refine Stp.mk ?_
            refine wpList_append_str rfl (.tmp 60) (.tmp 69) rfl wo.heap.size _ part m wr rfl (unhide HN3).own hpl rfl rfl (unhide HN3).kept.size ?_
            intro v2 w2 ho2 u2
            have HN4 := hide ((unhide HN3).app ho2 u2)
            obtain ⟨a2, c2, hv2, _, _⟩ := own_len ho2
            subst hv2
            clear ho2 u2
            simp only [Act.put, List.setIfInBounds_toArray, List.set_cons_zero, List.set_cons_succ]
            go_wp2
            go_roundw
            case rel => exact ⟨k + 1, by omega, by go_num, by rw [← unhide HE]; exact (unhide HN).up (unhide HN4)⟩
            case measure => simp [intOf]; omega
    · have hiI : ¬ (i : Int) < (d.files.length : Int) := by omega
      go_wp2
      all_goals go_ret
      all_goals exact ⟨_, rfl, by have := unhide HN; rwa [List.take_of_length_le (by omega)] at this⟩
end Go.Proofs.YtfodibjlldmnpaaDoor
