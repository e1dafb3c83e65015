/-
  Mark Keep Looks Dk Dstep Dread Dapp Dsync Dnm
-/
import Derived.Test.YtlbacbcenejngaaGreatDoorH19
import Derived.Test.YtlbacbcenejngaaGreatDoorH16
import Derived.Laws.ResultCell
import Derived.BigQuiet
import Derived.Deep.RegionLaw
namespace Go.Proofs.YtlbacbcenejngaaGreatDoor
open Go.RowKit
theorem fold_off (off : Nat) (l : List Value) : ∀ (k : Nat) (a : Array Value), off + k + l.length ≤ a.size → ((l.zipIdx k).foldl (fun cs x => cs.setIfInBounds (off + x.2) x.1) a) = (a.toList.take (off + k) ++ l ++ a.toList.drop (off + k + l.length)).toArray := by
  induction l with
  | nil =>
    intro k a h
    simp
  | cons v r ih =>
    intro k a h
    simp only [List.length_cons] at h
    rw [List.zipIdx_cons, List.foldl_cons, ih (k + 1) _ (by simp; omega)]
    congr 1
    simp only [Array.toList_setIfInBounds, List.length_cons]
    rw [show off + (k + 1) = (off + k) + 1 by omega, List.take_succ_eq_append_getElem (by simp; omega), List.take_set_of_le (Nat.le_refl _), List.getElem_set_self, List.drop_set_of_lt (by omega)]
    simp only [List.append_assoc, List.singleton_append]
    congr 3
    omega
/-- An append on an owned row: the row that comes out is the old one's block, or a new one. -/
theorem run_append_fresh {P : Program} (w : World) (base : Nat) (t ty e : TypeId) (i : TypeInfo) (z : Value) (size bytes : Nat) (ht : P.underlying t = some (.slice e)) (hi : P.info? e = some i) (hz : i.zero = some z)
    (hsize : i.size = size) (hby : i.bytes = bytes) (hzs : z.cells.size = size) (hsz : 0 < size)
    (v : Value) (n : Nat) (xs : List Value) (hown : w.ownsRow base e size v n xs)
    (a : Addr) (m c : Nat) (news : List Value) (hl : news.length = m * size) (hnews : ∀ j u, news[j]? = some u → w.cell? (a.add j) = some u) (h1 : ∀ u ∈ news, u.oneCell' = true) (hm : 0 < m)
    (h63 : n + m ≤ maxLen) (hbytes : (n + m) * bytes ≤ 140737488355328) (hbase : base ≤ w.heap.size) :
    ∃ v' w', (Builtin.append_ #[t, t] ty #[v, .slice (some a) m c]).run P w = .ok v' w' ∧ w'.ownsRow base e size v' (n + m) (xs ++ news) ∧ w.grownBy w' v.ownBlock ∧
      (v'.ownBlock = v.ownBlock ∨ v'.ownBlock = some w.heap.size) := by
  obtain ⟨v', w', hr, ho, hg, _⟩ := run_append_own (P := P) w base t ty e i z size bytes ht hi hz hsize hby hzs hsz v n xs hown a m c news hl hnews h1 h63 hbytes hbase
  refine ⟨v', w', hr, ho, hg, ?_⟩
  have hmx : n + m ≤ 9223372036854775807 := by simp only [maxLen] at h63; omega
  rcases hown.2 with ⟨rfl, rfl⟩ | ⟨g, cap, cur, rfl, hb, hgg, hkc, hcm, hcs, htake⟩
  · have hr2 := run_append_nil (P := P) w t ty e i z ht hi hz a m c news (by rw [hl, hsize]) hnews hm (by omega) (by rw [hby]; rw [Nat.zero_add] at hbytes; omega)
    rw [hr2] at hr
    injection hr with hv _
    subst hv
    exact Or.inr rfl
  · by_cases hroom : n + m ≤ cap
    · have hr2 := run_append_room (P := P) w t ty e i ht hi g n cap cur hgg a m c news (by rw [hl, hsize]) hnews h1 hroom (by rw [hl, hsize, hcs, ← Nat.add_mul]; exact Nat.mul_le_mul_right _ hroom)
      rw [hr2] at hr
      injection hr with hv _
      subst hv
      exact Or.inl rfl
    · have hr2 := run_append_grow (P := P) w t ty e i z ht hi hz ⟨g, 0, none⟩ n cap xs (by rw [hown.1, hsize]) (hown.cells (g := g) rfl) a m c news (by rw [hl, hsize]) hnews (by omega) (by omega) (growslice_fits (by omega) (by rw [hby]; exact hbytes))
      rw [hr2] at hr
      injection hr with hv _
      subst hv
      exact Or.inr rfl
theorem wp_append_fresh {P : Program} {w : World} {o : Oper} {act : Act} {K : Act → World → Prop} {Q : Exit → Act → World → Prop} (s x : Operand) (t : TypeId)
    (ho : o.op = .call { callee := .builtin .append, args := #[s, x], argTypes := #[t, t] }) (base : Nat) (e : TypeId) (i : TypeInfo) (z : Value) (size bytes : Nat) (ht : P.underlying t = some (.slice e)) (hi : P.info? e = some i) (hz : i.zero = some z)
    (hsize : i.size = size) (hby : i.bytes = bytes) (hzs : z.cells.size = size) (hsz : 0 < size)
    (v : Value) (n : Nat) (xs : List Value) (hs : act.eval s = v) (hown : w.ownsRow base e size v n xs)
    (a : Addr) (m c : Nat) (news : List Value) (hx : act.eval x = .slice (some a) m c) (hl : news.length = m * size) (hnews : ∀ j u, news[j]? = some u → w.cell? (a.add j) = some u) (h1 : ∀ u ∈ news, u.oneCell' = true) (hm : 0 < m)
    (h63 : n + m ≤ maxLen) (hbytes : (n + m) * bytes ≤ 140737488355328) (hbase : base ≤ w.heap.size)
    (h : ∀ v' w', w'.ownsRow base e size v' (n + m) (xs ++ news) → w.grownBy w' v.ownBlock → (v'.ownBlock = v.ownBlock ∨ v'.ownBlock = some w.heap.size) → K (act.put o.dst v') w') : o.wp P act w K Q := by
  obtain ⟨v', w', hr, h2, h3, h4⟩ := run_append_fresh (P := P) w base t o.type e i z size bytes ht hi hz hsize hby hzs hsz v n xs hown a m c news hl hnews h1 hm h63 hbytes hbase
  unfold Oper.wp
  simp [execOp, ho, resolve, invoke, builtin, hs, hx, hr, Result.andThen]
  exact h v' w' h2 h3 h4
end Go.Proofs.YtlbacbcenejngaaGreatDoor
namespace Go.Proofs.YtlbacbcenejngaaGreatDoor
open Go.RowKit
theorem own_blocks {w w' : World} {B : Nat} {e : TypeId} {z : Nat} {v : Value} {n : Nat} {xs : List Value} (h : w.ownsRow B e z v n xs) (hb : ∀ k, v.ownBlock = some k → w'.heap[k]? = w.heap[k]?) : w'.ownsRow B e z v n xs := by
  refine ⟨h.1, h.2.imp id ?_⟩
  rintro ⟨g, cap, cur, rfl, h2, h3, r⟩
  exact ⟨g, cap, cur, rfl, h2, (hb g rfl).trans h3, r⟩
theorem own_len {w : World} {B : Nat} {e : TypeId} {z : Nat} {v : Value} {n : Nat} {xs : List Value} (h : w.ownsRow B e z v n xs) : ∃ ao cap, v = .slice ao n cap ∧ n ≤ cap ∧ (0 < n → ∃ g, ao = some ⟨g, 0, none⟩) := by
  rcases h.2 with ⟨rfl, rfl⟩ | ⟨g, cap, cur, rfl, _, _, hc, _⟩
  · exact ⟨none, 0, rfl, Nat.le_refl _, fun h => absurd h (by omega)⟩
  · exact ⟨_, cap, rfl, hc, fun _ => ⟨g, rfl⟩⟩
/-- A place where the walk stands still. -/
structure Stp (p : Prop) : Prop where
  out : p
theorem own_ty {w : World} {B : Nat} {e : TypeId} {z : Nat} {v : Value} {n : Nat} {xs : List Value} (h : w.ownsRow B e z v n xs) {k : Nat} (hk : v.ownBlock = some k) : ∃ cur, w.heap[k]? = some (.cells cur e (0, 0)) := by
  rcases h.2 with ⟨rfl, _⟩ | ⟨g, cap, cur, rfl, _, hg, _⟩
  · simp [Value.ownBlock] at hk
  · simp [Value.ownBlock] at hk
    subst hk
    exact ⟨cur, hg⟩
theorem own_ne_at {w : World} {B : Nat} {e e' : TypeId} {z : Nat} {v : Value} {n : Nat} {xs : List Value} {cs : Array Value} {fr : Nat × Nat} {g : Nat} (h : w.ownsRow B e z v n xs) (hg : w.heap[g]? = some (.cells cs e' fr)) (he : e ≠ e') : v.ownBlock ≠ some g := by
  intro hk
  obtain ⟨c1, h1⟩ := own_ty h hk
  rw [h1] at hg
  simp only [Option.some.injEq, Obj.cells.injEq] at hg
  exact he hg.2.1
theorem news_any {W W0 : World} {L : List Value} {t : TypeId} (hh : W.heap = (W0.alloc (.cells L.toArray t)).heap) : ∀ q u, L[q]? = some u → W.cell? ((⟨W0.heap.size, 0, none⟩ : Addr).add q) = some u := by
  intro q u hu
  rw [add_addr, Nat.zero_add]
  have : W.heap[W0.heap.size]? = some (.cells L.toArray t (0, 0)) := by rw [hh]; exact heap_alloc_new _ _
  rw [cell_of_row _ _ _ _ _ _ this, List.getElem?_toArray]
  exact hu
theorem end0 {P : Program} {fn : Func} {R : Ending → World → Prop} {a : Act} {w : World} (hr : fn.results = #[]) (hd : a.defers = []) (hR : R (.returned (.tuple #[])) w) : bodyPost P fn R .normal a w := bodyPost_end (results_none hr _ _ _) hd hR
theorem ite_wanted {c : Bool} {p q : Prop} (h : c = true) (hp : p) : if c = true then p else q := by rw [if_pos h]; exact hp
theorem wpList_halt2 {P : Program} {w : World} {ops : Array Oper} {rest : List Oper} {o : Oper} {act : Act} {Q : Exit → Act → World → Prop} (s x : Operand) (t : TypeId) (_ho : o.op = .call { callee := .builtin .append, args := #[s, x], argTypes := #[t, t] }) (h : Stp (wpList P ops Q (o :: rest) act w)) : wpList P ops Q (o :: rest) act w := h.out
end Go.Proofs.YtlbacbcenejngaaGreatDoor
namespace Go.Proofs.YtlbacbcenejngaaGreatDoor
open Go.RowKit
theorem own_cell {w : World} {B : Nat} {e : TypeId} {v : Value} {n : Nat} {xs : List Value} {k : Nat} (h : w.ownsRow B e 1 v n xs) (hk : k < n) : ∃ g cap, v = .slice (some ⟨g, 0, none⟩) n cap ∧ w.cell? ⟨g, k, none⟩ = some (xs.getD k undef) := by
  obtain ⟨g, cap, rfl⟩ := own_slice h (by omega)
  refine ⟨g, cap, rfl, ?_⟩
  rw [h.cellAt k (by omega), List.getD_eq_getElem?_getD, List.getElem?_eq_getElem (by have := h.1; omega)]
  rfl
end Go.Proofs.YtlbacbcenejngaaGreatDoor
namespace Go.Proofs.YtlbacbcenejngaaGreatDoor
open Go.RowKit
/-- A file: its name, its bytes, how many of them are safe. -/
structure Fl where
  name : ByteArray
  data : ByteArray
  safe : Nat
/-- A disk. -/
structure Dsk where
  files : List Fl
  left : Int
  down : Bool
def Fl.cells (f : Fl) : List Value := [.string f.name, .string f.data, .int .i64 (f.safe : Int)]
def fcells : List Fl → List Value
  | [] => []
  | f :: l => f.cells ++ fcells l
theorem fcells_len : ∀ l : List Fl, (fcells l).length = l.length * 3
  | [] => rfl
  | f :: l => by rw [fcells, List.length_append, fcells_len l, List.length_cons]; simp [Fl.cells]; omega
theorem fcells_app : ∀ l m : List Fl, fcells (l ++ m) = fcells l ++ fcells m
  | [], _ => rfl
  | f :: l, m => by rw [List.cons_append, fcells, fcells, fcells_app l m, List.append_assoc]
def fl0 : Fl := ⟨.empty, .empty, 0⟩
theorem fcells_at : ∀ (l : List Fl) (k j : Nat), k < l.length → j < 3 → (fcells l)[k * 3 + j]? = (l.getD k fl0).cells[j]?
  | [], k, j, h, _ => by simp at h
  | f :: l, 0, j, _, hj => by
    rw [fcells, Nat.zero_mul, Nat.zero_add, List.getElem?_append_left (by simpa [Fl.cells] using hj)]
    rfl
  | f :: l, k + 1, j, h, hj => by
    rw [fcells, List.getElem?_append_right (by simp [Fl.cells]; omega), show (k + 1) * 3 + j - f.cells.length = k * 3 + j by simp [Fl.cells]; omega, fcells_at l k j (by simpa using h) hj]
    simp
theorem fcells_set : ∀ (l : List Fl) (k j : Nat) (u : Value), k < l.length → j < 3 → ∀ f' : Fl, f'.cells = (l.getD k fl0).cells.set j u → (fcells l).set (k * 3 + j) u = fcells (l.set k f')
  | [], k, j, u, h, _, _, _ => by simp at h
  | f :: l, 0, j, u, _, hj, f', hf => by
    rw [fcells, Nat.zero_mul, Nat.zero_add, List.set_append_left _ _ (by simpa [Fl.cells] using hj), List.set_cons_zero, fcells, hf]
    rfl
  | f :: l, k + 1, j, u, h, hj, f', hf => by
    rw [fcells, List.set_append_right _ _ (by simp [Fl.cells]; omega), show (k + 1) * 3 + j - f.cells.length = k * 3 + j by simp [Fl.cells]; omega, List.set_cons_succ, fcells, fcells_set l k j u (by simpa using h) hj f' (by simpa using hf)]
/-- The place of a name, from k on; -1: there is none. -/
def findF (n : ByteArray) : List Fl → Nat → Int
  | [], _ => -1
  | f :: l, k => if f.name = n then k else findF n l (k + 1)
theorem findF_none (n : ByteArray) : ∀ (l : List Fl) (k : Nat), (∀ f ∈ l, f.name ≠ n) → findF n l k = -1
  | [], _, _ => rfl
  | f :: l, k, h => by rw [findF, if_neg (h f (List.mem_cons_self ..)), findF_none n l (k + 1) fun g hg => h g (List.mem_cons_of_mem _ hg)]
theorem findF_at (n : ByteArray) : ∀ (l : List Fl) (k i : Nat), i < l.length → (l.getD i fl0).name = n → (∀ j, j < i → (l.getD j fl0).name ≠ n) → findF n l k = ((k + i : Nat) : Int)
  | [], _, i, h, _, _ => by simp at h
  | f :: l, k, 0, _, hn, _ => by rw [findF, if_pos (by simpa using hn)]; simp
  | f :: l, k, i + 1, h, hn, hb => by
    rw [findF, if_neg (by have := hb 0 (by omega); simpa using this), findF_at n l (k + 1) i (by simpa using h) (by simpa using hn) fun j hj => by have := hb (j + 1) (by omega); simpa using this]
    omega
theorem findF_cases (n : ByteArray) : ∀ (l : List Fl) (k : Nat), (findF n l k = -1 ∧ ∀ f ∈ l, f.name ≠ n) ∨ ∃ i, i < l.length ∧ findF n l k = ((k + i : Nat) : Int) ∧ (l.getD i fl0).name = n
  | [], _ => .inl ⟨rfl, by simp⟩
  | f :: l, k => by
    by_cases h : f.name = n
    · exact .inr ⟨0, by simp, by rw [findF, if_pos h]; simp, by simpa using h⟩
    · rcases findF_cases n l (k + 1) with ⟨h1, h2⟩ | ⟨i, h1, h2, h3⟩
      · refine .inl ⟨by rw [findF, if_neg h, h1], fun g hg => ?_⟩
        rcases List.mem_cons.1 hg with rfl | hg
        · exact h
        · exact h2 g hg
      · exact .inr ⟨i + 1, by simpa using h1, by rw [findF, if_neg h, h2]; omega, by simpa using h3⟩
def Dsk.stopped (d : Dsk) : Bool := d.down || decide (d.left = 0)
def Dsk.stepd (d : Dsk) : Dsk := if d.stopped then { d with down := true } else { d with left := if d.left > 0 then d.left - 1 else d.left }
/-- A disk in memory: its block p, its row of files v. -/
structure DAt (B TD TF : Nat) (w : World) (p : Nat) (v : Value) (d : Dsk) : Prop where
  at' : w.heap[p]? = some (.cells #[v, .int .i64 d.left, .bool d.down] TD (0, 0))
  own : w.ownsRow B TF 3 v d.files.length (fcells d.files)
/-- Nothing but the block p, the row v and new blocks; the row is the old one or a new one behind it. -/
structure Upd (p : Nat) (v v' : Value) (w w' : World) : Prop where
  os : w'.os = w.os
  output : w'.output = w.output
  size : w.heap.size ≤ w'.heap.size
  block : ∀ k, k < w.heap.size → k ≠ p → v.ownBlock ≠ some k → w'.heap[k]? = w.heap[k]?
  new : ∀ k, v'.ownBlock = some k → v.ownBlock = some k ∨ w.heap.size ≤ k
theorem Upd.refl (p : Nat) (v : Value) (w : World) : Upd p v v w w := ⟨rfl, rfl, Nat.le_refl _, fun _ _ _ _ => rfl, fun _ h => .inl h⟩
theorem Upd.trans {p : Nat} {v v' v'' : Value} {w w' w'' : World} (h : Upd p v v' w w') (h' : Upd p v' v'' w' w'') : Upd p v v'' w w'' :=
  ⟨h'.os.trans h.os, h'.output.trans h.output, Nat.le_trans h.size h'.size,
   fun k hk hp hv => (h'.block k (Nat.lt_of_lt_of_le hk h.size) hp fun e => (h.new k e).elim hv (by omega)).trans (h.block k hk hp hv),
   fun k hk => (h'.new k hk).elim (fun e => h.new k e) fun e => .inr (Nat.le_trans h.size e)⟩
theorem Upd.of_kept {p : Nat} {v : Value} {w w' : World} (h : Kept w.heap.size w w') : Upd p v v w w' :=
  ⟨h.os, h.output, h.size, fun k hk _ _ => h.block k hk, fun _ h => .inl h⟩
theorem DAt.kept {B TD TF : Nat} {w w' : World} {p : Nat} {v : Value} {d : Dsk} (h : DAt B TD TF w p v d) (hk : Kept w.heap.size w w') : DAt B TD TF w' p v d :=
  ⟨(hk.block _ (Array.getElem?_eq_some_iff.1 h.at').1).trans h.at', own_kept h.own hk⟩
theorem DAt.lt {B TD TF : Nat} {w : World} {p : Nat} {v : Value} {d : Dsk} (h : DAt B TD TF w p v d) : p < w.heap.size := (Array.getElem?_eq_some_iff.1 h.at').1
theorem DAt.apart {B TD TF : Nat} {w : World} {p : Nat} {v : Value} {d : Dsk} (h : DAt B TD TF w p v d) (ht : TF ≠ TD) : v.ownBlock ≠ some p := own_ne_at h.own h.at' ht
theorem DAt.c0 {B TD TF : Nat} {w : World} {p : Nat} {v : Value} {d : Dsk} (h : DAt B TD TF w p v d) : w.cell? ⟨p, 0, none⟩ = some v := by rw [cell_of_row _ _ _ _ _ _ h.at']; rfl
theorem DAt.c1 {B TD TF : Nat} {w : World} {p : Nat} {v : Value} {d : Dsk} (h : DAt B TD TF w p v d) : w.cell? ⟨p, 1, none⟩ = some (.int .i64 d.left) := by rw [cell_of_row _ _ _ _ _ _ h.at']; rfl
theorem DAt.c2 {B TD TF : Nat} {w : World} {p : Nat} {v : Value} {d : Dsk} (h : DAt B TD TF w p v d) : w.cell? ⟨p, 2, none⟩ = some (.bool d.down) := by rw [cell_of_row _ _ _ _ _ _ h.at']; rfl
theorem DAt.fz {B TD TF : Nat} {w : World} {p : Nat} {v : Value} {d : Dsk} (h : DAt B TD TF w p v d) (j : Nat) : w.frozen? ⟨p, j, none⟩ = false := frozen_of_row _ _ _ _ _ h.at'
/-- A store into the disk's own block. -/
theorem DAt.set1 {B TD TF : Nat} {w : World} {p : Nat} {v : Value} {d : Dsk} (h : DAt B TD TF w p v d) (ht : TF ≠ TD) (n : Int) : DAt B TD TF (w.setCell ⟨p, 1, none⟩ (.int .i64 n)) p v { d with left := n } ∧ Upd p v v w (w.setCell ⟨p, 1, none⟩ (.int .i64 n)) :=
  ⟨⟨by rw [heap_setCell_same _ _ _ _ _ _ h.at']; rfl, own_blocks h.own fun k hk => heap_setCell_other _ _ _ _ fun e => h.apart ht (by rw [hk, e])⟩,
   ⟨rfl, rfl, by simp, fun k _ hp _ => heap_setCell_other _ _ _ _ hp, fun _ h => .inl h⟩⟩
theorem DAt.set2 {B TD TF : Nat} {w : World} {p : Nat} {v : Value} {d : Dsk} (h : DAt B TD TF w p v d) (ht : TF ≠ TD) (b : Bool) : DAt B TD TF (w.setCell ⟨p, 2, none⟩ (.bool b)) p v { d with down := b } ∧ Upd p v v w (w.setCell ⟨p, 2, none⟩ (.bool b)) :=
  ⟨⟨by rw [heap_setCell_same _ _ _ _ _ _ h.at']; rfl, own_blocks h.own fun k hk => heap_setCell_other _ _ _ _ fun e => h.apart ht (by rw [hk, e])⟩,
   ⟨rfl, rfl, by simp, fun k _ hp _ => heap_setCell_other _ _ _ _ hp, fun _ h => .inl h⟩⟩
/-- Another row of files is stored into the disk's block. -/
theorem DAt.set0 {B TD TF : Nat} {w w' : World} {p : Nat} {v v' : Value} {d : Dsk} {fs : List Fl} (h : DAt B TD TF w p v d) (ht : TF ≠ TD) (hat : w'.heap[p]? = w.heap[p]?) (ho : w'.ownsRow B TF 3 v' fs.length (fcells fs)) (hu : Upd p v v' w w') :
    DAt B TD TF (w'.setCell ⟨p, 0, none⟩ v') p v' { d with files := fs } ∧ Upd p v v' w (w'.setCell ⟨p, 0, none⟩ v') := by
  have hat' := hat.trans h.at'
  refine ⟨⟨by rw [heap_setCell_same _ _ _ _ _ _ hat']; rfl, own_blocks ho fun k hk => heap_setCell_other _ _ _ _ fun e => own_ne_at ho hat' ht (by rw [hk, e])⟩, ?_⟩
  exact ⟨hu.os, hu.output, by simpa using hu.size, fun k hk hp hv => (heap_setCell_other _ _ _ _ hp).trans (hu.block k hk hp hv), hu.new⟩
/-- A cell of a file. -/
theorem own_file {w : World} {B TF g n cap k j : Nat} {l : List Fl} (h : w.ownsRow B TF 3 (.slice (some ⟨g, 0, none⟩) n cap) n (fcells l)) (hk : k < l.length) (hj : j < 3) : w.cell? ⟨g, k * 3 + j, none⟩ = (l.getD k fl0).cells[j]? := by
  rcases h.2 with ⟨h', _⟩ | ⟨g2, c, cur, h1, h2, h3, h4, h5, h6, h7⟩
  · cases h'
  · simp only [Value.slice.injEq, Option.some.injEq, Addr.mk.injEq, and_true, true_and] at h1
    obtain ⟨rfl, rfl⟩ := h1
    have hl : l.length * 3 = n * 3 := by rw [← fcells_len, h.1]
    rw [cell_of_row _ _ _ _ _ _ h3, ← Array.getElem?_toList, ← fcells_at l k j hk hj, ← h7, List.getElem?_take, if_pos (by omega)]
theorem own_file_fz {w : World} {B TF g n cap j : Nat} {l : List Fl} (h : w.ownsRow B TF 3 (.slice (some ⟨g, 0, none⟩) n cap) n (fcells l)) : w.frozen? ⟨g, j, none⟩ = false := by
  rcases h.2 with ⟨h', _⟩ | ⟨g2, c, cur, h1, h2, h3, h4, h5, h6, h7⟩
  · cases h'
  · simp only [Value.slice.injEq, Option.some.injEq, Addr.mk.injEq, and_true, true_and] at h1
    obtain ⟨rfl, rfl⟩ := h1
    exact frozen_of_row _ _ _ _ _ h3
/-- A cell of a file is stored. -/
theorem own_file_set {w : World} {B TF g n cap k j : Nat} {l : List Fl} {u : Value} {f' : Fl} (h : w.ownsRow B TF 3 (.slice (some ⟨g, 0, none⟩) n cap) n (fcells l)) (hk : k < l.length) (hj : j < 3) (hf : f'.cells = (l.getD k fl0).cells.set j u) :
    (w.setCell ⟨g, k * 3 + j, none⟩ u).ownsRow B TF 3 (.slice (some ⟨g, 0, none⟩) n cap) n (fcells (l.set k f')) := by
  rcases h.2 with ⟨h', _⟩ | ⟨g2, c, cur, h1, h2, h3, h4, h5, h6, h7⟩
  · cases h'
  · simp only [Value.slice.injEq, Option.some.injEq, Addr.mk.injEq, and_true, true_and] at h1
    obtain ⟨rfl, rfl⟩ := h1
    have hl : l.length * 3 = n * 3 := by rw [← fcells_len, h.1]
    refine ⟨by rw [fcells_len, List.length_set]; exact hl, .inr ⟨g, cap, _, rfl, h2, heap_setCell_same _ _ _ _ _ _ h3, h4, h5, by simpa using h6, ?_⟩⟩
    rw [Array.toList_setIfInBounds, List.take_set, h7, fcells_set l k j u hk hj f' hf]
theorem DAt.setf {B TD TF : Nat} {w : World} {p g n cap k j : Nat} {d : Dsk} {u : Value} {f' : Fl} (h : DAt B TD TF w p (.slice (some ⟨g, 0, none⟩) n cap) d) (ht : TF ≠ TD) (hn : n = d.files.length) (hk : k < d.files.length) (hj : j < 3) (hf : f'.cells = (d.files.getD k fl0).cells.set j u) :
    DAt B TD TF (w.setCell ⟨g, k * 3 + j, none⟩ u) p (.slice (some ⟨g, 0, none⟩) n cap) { d with files := d.files.set k f' } ∧ Upd p (.slice (some ⟨g, 0, none⟩) n cap) (.slice (some ⟨g, 0, none⟩) n cap) w (w.setCell ⟨g, k * 3 + j, none⟩ u) := by
  subst hn
  have hgp : p ≠ g := fun e => h.apart ht (by rw [e]; rfl)
  refine ⟨⟨by rw [heap_setCell_other _ _ _ _ hgp]; exact h.at', by have := own_file_set h.own hk hj hf; simpa using this⟩, ?_⟩
  exact ⟨rfl, rfl, by simp, fun q _ _ hv => heap_setCell_other _ _ _ _ fun e => hv (by rw [e]; rfl), fun _ h => .inl h⟩
theorem str_inj0 {a b : ByteArray} (h : a.toList = b.toList) : a = b := by
  rw [Lib.toList_data, Lib.toList_data] at h
  exact Go.WideShapes.bytes_inj h
theorem str_eq {a b : ByteArray} : (a.toList == b.toList) = decide (a = b) := by
  by_cases h : a = b
  · rw [h]; simp
  · rw [decide_eq_false h, beq_eq_false_iff_ne]
    exact fun e => h (str_inj0 e)
end Go.Proofs.YtlbacbcenejngaaGreatDoor
namespace Go.Proofs.YtlbacbcenejngaaGreatDoor
open Go.RowKit
set_option maxRecDepth 100000 in
theorem stopped_go (B : Nat) (w : World) (p : Nat) (v : Value) (d : Dsk) (h : DAt B 117 149 w p v d) :
    Calls Tryz.prog 46 #[.pointer (some ⟨p, 0, none⟩)] w fun e w' => e = .returned (.bool d.stopped) ∧ w' = w := by
  have h1 := h.c1
  have h2 := h.c2
  unfold Dsk.stopped
  clear h
  cases hd : d.down
  · rw [hd] at h2
    by_cases hl : d.left = 0
    · rw [hl] at h1 ⊢
      go_enter Tryz.func46, Tryz.ntmps46
      go_wp2
      all_goals go_ret
      all_goals exact ⟨rfl, rfl⟩
    · go_enter Tryz.func46, Tryz.ntmps46
      go_wp2
      all_goals go_ret
      all_goals exact ⟨by simp [hl], rfl⟩
  · rw [hd] at h2
    go_enter Tryz.func46, Tryz.ntmps46
    go_wp2
    all_goals go_ret
    all_goals exact ⟨rfl, rfl⟩
/-- What a step leaves. -/
def stEnd (B TD TF : Nat) (w : World) (p : Nat) (v : Value) (_d : Dsk) (r : Bool) (d' : Dsk) (e : Ending) (w' : World) : Prop :=
  e = .returned (.bool r) ∧ ∃ v', DAt B TD TF w' p v' d' ∧ Upd p v v' w w'
theorem stepd_stay {d : Dsk} (hd : d.down = false) (h0 : ¬ d.left = 0) (hp : ¬ 0 < d.left) : d = d.stepd := by
  cases d
  simp_all [Dsk.stepd, Dsk.stopped]
  omega
theorem stEnd_of {B TD TF : Nat} {w w' : World} {p : Nat} {v v' : Value} {d : Dsk} {r r' : Bool} {d' d'' : Dsk} (hr : r' = r) (hd : d'' = d') (h : DAt B TD TF w' p v' d'' ∧ Upd p v v' w w') : stEnd B TD TF w p v d r d' (.returned (.bool r')) w' := by
  subst hr; subst hd
  exact ⟨rfl, v', h⟩
set_option maxRecDepth 100000 in
theorem step_go (B : Nat) (w : World) (p : Nat) (v : Value) (d : Dsk) (h : DAt B 117 149 w p v d) (hl : -1 ≤ d.left ∧ d.left ≤ 9223372036854775807) :
    Calls Tryz.prog 112 #[.pointer (some ⟨p, 0, none⟩)] w (stEnd B 117 149 w p v d (!d.stopped) d.stepd) := by
  have h1 := h.c1
  have h2 := h.c2
  have f1 := h.fz 1
  have f2 := h.fz 2
  have H := hide h
  clear h
  cases hd : d.down
  · rw [hd] at h2
    by_cases h0 : d.left = 0
    · rw [h0] at h1
      go_enter Tryz.func112, Tryz.ntmps112
      go_wp2
      all_goals go_ret
      all_goals exact stEnd_of (by simp [Dsk.stopped, hd, h0]) (by simp [Dsk.stepd, Dsk.stopped, hd, h0]) ((unhide H).set2 (by decide) true)
    · by_cases hp : 0 < d.left
      · go_enter Tryz.func112, Tryz.ntmps112
        go_wp2
        all_goals go_ret
        all_goals exact stEnd_of (by simp [Dsk.stopped, hd, h0]) (by simp [Dsk.stepd, Dsk.stopped, hd, h0, hp]) ((unhide H).set1 (by decide) (d.left - 1))
      · go_enter Tryz.func112, Tryz.ntmps112
        go_wp2
        all_goals go_ret
        all_goals exact stEnd_of (by simp [Dsk.stopped, hd, h0]) (stepd_stay hd h0 (by omega)) ⟨unhide H, Upd.refl _ _ _⟩
  · rw [hd] at h2
    go_enter Tryz.func112, Tryz.ntmps112
    go_wp2
    all_goals go_ret
    all_goals exact stEnd_of (by simp [Dsk.stopped, hd]) (by simp [Dsk.stepd, Dsk.stopped, hd]) ((unhide H).set2 (by decide) true)
set_option maxRecDepth 100000 in
theorem find_go (B : Nat) (w : World) (p : Nat) (v : Value) (d : Dsk) (n : ByteArray) (h : DAt B 117 149 w p v d) (hl : d.files.length ≤ 4194304) :
    Calls Tryz.prog 113 #[.pointer (some ⟨p, 0, none⟩), .string n] w fun e w' => e = .returned (.int .i64 (findF n d.files 0)) ∧ w' = w := by
  have h0 := h.c0
  obtain ⟨ao, cap, rfl, hcap, hao⟩ := own_len h.own
  have H := hide h
  clear h
  go_enter Tryz.func113, Tryz.ntmps113
  go_wp2_with fail
  go_loopw [11] (fun vi wr => ∃ i : Nat, i ≤ d.files.length ∧ vi = .int .i64 i ∧ (∀ j, j < i → (d.files.getD j fl0).name ≠ n) ∧ wr = w) (fun vi _ => d.files.length - (intOf vi).toNat)
  case atStart => exact ⟨0, Nat.zero_le _, rfl, fun j hj => absurd hj (by omega), rfl⟩
  case round =>
    obtain ⟨i, hi, rfl, hb, rfl⟩ := hrel
    have HB := hide hb
    clear hb
    by_cases hlt : i < d.files.length
    · obtain ⟨g, rfl⟩ := hao (by omega)
      have hiI : (i : Int) < (d.files.length : Int) := by omega
      have hi0 : (0 : Int) ≤ (i : Int) := by omega
      have hc : wr.cell? ⟨g, i * 3, none⟩ = some (.string (d.files.getD i fl0).name) := by have := own_file (unhide H).own hlt (j := 0) (by omega); simpa [Fl.cells] using this
      obtain ⟨m, hm⟩ : ∃ m, m = (d.files.getD i fl0).name := ⟨_, rfl⟩
      rw [← hm] at hc
      have HM := hide hm
      clear hm
      by_cases hmn : m = n
      · have hq : (m.toList == n.toList) = true := by rw [hmn]; simp
        go_wp2
        all_goals go_ret
        all_goals exact ⟨by rw [findF_at n d.files 0 i hlt (by rw [← unhide HM]; exact hmn) (unhide HB), Nat.zero_add]; rfl, rfl⟩
      · have hq : (m.toList == n.toList) = false := by rw [str_eq]; simpa using hmn
        go_wp2
        go_roundw
        case rel =>
          refine ⟨i + 1, by omega, by go_num, fun j hj => ?_, by trivial⟩
          rcases Nat.lt_or_ge j i with h1 | h1
          · exact unhide HB j h1
          · rw [show j = i by omega, ← unhide HM]; exact hmn
        case measure => simp [intOf]; omega
    · have hiI : ¬ (i : Int) < (d.files.length : Int) := by omega
      go_wp2
      all_goals go_ret
      all_goals exact ⟨by rw [findF_none n d.files 0 fun f hf => by
        obtain ⟨j, hj, rfl⟩ := List.getElem_of_mem hf
        have := unhide HB j (by omega)
        rwa [List.getD_eq_getElem?_getD, List.getElem?_eq_getElem hj] at this]; rfl, rfl⟩
end Go.Proofs.YtlbacbcenejngaaGreatDoor
namespace Go.Proofs.YtlbacbcenejngaaGreatDoor
open Go.RowKit
def dsk0 : Dsk := ⟨[], -1, false⟩
/-- A new disk. -/
def nwEnd (B TD TF : Nat) (w : World) (d : Dsk) (e : Ending) (w' : World) : Prop :=
  ∃ p v, e = .returned (.pointer (some ⟨p, 0, none⟩)) ∧ DAt B TD TF w' p v d ∧ w.heap.size ≤ p ∧ (∀ k, v.ownBlock = some k → w.heap.size ≤ k) ∧ Kept w.heap.size w w'
set_option maxRecDepth 100000 in
theorem new_disk_go (B : Nat) (w : World) : Calls Tryz.prog 28 #[] w (nwEnd B 117 149 w dsk0) := by
  go_enter Tryz.func28, Tryz.ntmps28
  go_wp2
  all_goals go_ret
  all_goals exact ⟨w.heap.size, .slice none 0 0, rfl, ⟨heap_alloc_new _ _, World.ownsRow_nil _ _ _ _⟩, Nat.le_refl _, fun k hk => by simp [Value.ownBlock] at hk, (Kept.refl _ _).alloc (Nat.le_refl _) _⟩
def Dsk.read (d : Dsk) (n : ByteArray) : ByteArray := if findF n d.files 0 < 0 then .empty else (d.files.getD (findF n d.files 0).toNat fl0).data
set_option maxRecDepth 100000 in
theorem read_go (B : Nat) (w : World) (p : Nat) (v : Value) (d : Dsk) (n : ByteArray) (h : DAt B 117 149 w p v d) (hl : d.files.length ≤ 4194304) :
    Calls Tryz.prog 97 #[.pointer (some ⟨p, 0, none⟩), .string n] w fun e w' => e = .returned (.string (d.read n)) ∧ w' = w := by
  have hf := find_go B w p v d n h hl
  have h0 := h.c0
  obtain ⟨ao, cap, rfl, hcap, hao⟩ := own_len h.own
  rcases findF_cases n d.files 0 with ⟨h1, _⟩ | ⟨i, hi, h1, _⟩
  · unfold Dsk.read
    rw [h1] at hf ⊢
    go_enter Tryz.func97, Tryz.ntmps97
    go_wp2_with fail
    refine hf.mono ?_
    rintro _ _ ⟨rfl, rfl⟩
    go_wp2
    all_goals go_ret
    all_goals exact ⟨rfl, rfl⟩
  · rw [Nat.zero_add] at h1
    obtain ⟨g, rfl⟩ := hao (by omega)
    have hc : w.cell? ⟨g, i * 3 + 1, none⟩ = some (.string (d.files.getD i fl0).data) := by have := own_file h.own hi (j := 1) (by omega); simpa [Fl.cells] using this
    have HR := hide (show d.read n = (d.files.getD i fl0).data from by rw [Dsk.read, h1, if_neg (by omega), Int.toNat_natCast])
    have hiI : (i : Int) < (d.files.length : Int) := by omega
    have hi0 : (0 : Int) ≤ (i : Int) := by omega
    generalize (d.files.getD i fl0).data = x at hc HR
    rw [h1] at hf
    clear h
    go_enter Tryz.func97, Tryz.ntmps97
    go_wp2_with fail
    refine hf.mono ?_
    rintro _ _ ⟨rfl, rfl⟩
    go_wp2
    all_goals go_ret
    all_goals exact ⟨by rw [unhide HR]; rfl, rfl⟩
end Go.Proofs.YtlbacbcenejngaaGreatDoor
namespace Go.Proofs.YtlbacbcenejngaaGreatDoor
open Go.RowKit
theorem info149 : (Tryz.prog.info? 149).map (fun i => (i.zero, i.size, i.bytes)) = some (some (.agg #[.string .empty, .string .empty, .int .i64 0]), 3, 40) := by kernel_rfl
/-- A file more, as the walk takes it. -/
theorem wpList_append_file {w : World} {ops : Array Oper} {rest : List Oper} {o : Oper} {act : Act} {Q : Exit → Act → World → Prop} (hgd : o.guard = none) (s x : Operand) (t TF : TypeId)
    (ho : o.op = .call { callee := .builtin .append, args := #[s, x], argTypes := #[t, t] }) (B : Nat) (ht : Tryz.prog.underlying t = some (.slice TF)) (hi : (Tryz.prog.info? TF).map (fun i => (i.zero, i.size, i.bytes)) = some (some (.agg #[.string .empty, .string .empty, .int .i64 0]), 3, 40))
    (v : Value) (l : List Fl) (f : Fl) (w0 : World) (hs : act.eval s = v) (hown : w0.ownsRow B TF 3 v l.length (fcells l)) (hl : l.length ≤ 4194304)
    (hx : act.eval x = .slice (some ⟨w0.heap.size, 0, none⟩) 1 1) (hw : w = w0.alloc (.cells f.cells.toArray TF)) (hB : B ≤ w0.heap.size)
    (h : ∀ v' w', w'.ownsRow B TF 3 v' (l ++ [f]).length (fcells (l ++ [f])) → Upd w0.heap.size v v' w0 w' → wpList Tryz.prog ops Q rest (act.put o.dst v') w') : wpList Tryz.prog ops Q (o :: rest) act w := by
  obtain ⟨i0, hi0, hz0, hz1, hz2⟩ := info_parts hi
  subst hw
  have hlt : ∀ k, v.ownBlock = some k → k < w0.heap.size := fun k hk => (hown.lt k hk).2
  refine wpList_plain hgd fun _ hK => wp_append_fresh s x t ho B TF i0 _ 3 40 ht hi0 hz0 hz1 hz2 rfl (by decide) v l.length (fcells l) hs (hown.alloc _) ⟨w0.heap.size, 0, none⟩ 1 1 f.cells hx rfl (news_any rfl) ?_ (by decide) ?_ ?_ ?_ fun v' w' h1 h2 h3 => hK _ _ (h v' w' ?_ ?_)
  · intro u hu
    simp only [Fl.cells, List.mem_cons, List.not_mem_nil, or_false] at hu
    rcases hu with rfl | rfl | rfl <;> rfl
  · unfold maxLen; omega
  · omega
  · simp; omega
  · rw [fcells_app, List.length_append, List.length_singleton]
    simpa [fcells] using h1
  · have hs2 := h2.size
    simp only [World.size_alloc] at hs2
    refine ⟨h2.os, h2.output, by omega, fun k hk _ hv => (h2.block k (by simp; omega) fun e => hv e.symm).trans (Below.heap_alloc _ _ _ hk), fun k hk => ?_⟩
    rcases h3 with h3 | h3
    · exact .inl (h3 ▸ hk)
    · rw [h3] at hk
      simp only [World.size_alloc, Option.some.injEq] at hk
      exact .inr (by omega)
theorem Upd.any {p q : Nat} {v v' : Value} {w w' : World} (h : Upd p v v' w w') (hp : w.heap.size ≤ p) : Upd q v v' w w' :=
  ⟨h.os, h.output, h.size, fun k hk _ hv => h.block k hk (by omega) hv, h.new⟩
theorem Upd.at {p : Nat} {v v' : Value} {w w' : World} (h : Upd p v v' w w') (hp : w.heap.size ≤ p) {k : Nat} (hk : k < w.heap.size) (hv : v.ownBlock ≠ some k) : w'.heap[k]? = w.heap[k]? := h.block k hk (by omega) hv
theorem both_drew {B TD TF : Nat} {w w' : World} {p : Nat} {v v' : Value} {d : Dsk} (h : DAt B TD TF w' p v' d ∧ Upd p v v' w w') : DAt B TD TF w'.drew p v' d ∧ Upd p v v' w w'.drew :=
  ⟨h.1.kept ((Kept.refl _ _).draws 1), h.2.trans (.of_kept ((Kept.refl _ _).draws 1))⟩
theorem own_one {w : World} {B TF : Nat} {v : Value} {l : List Fl} {f : Fl} (h : w.ownsRow B TF 3 v (l ++ [f]).length (fcells (l ++ [f]))) : ∃ g cap2, v = .slice (some ⟨g, 0, none⟩) (l.length + 1) cap2 := by
  obtain ⟨a2, c2, rfl, _, hg⟩ := own_len h
  obtain ⟨g, rfl⟩ := hg (by simp)
  exact ⟨g, c2, by simp⟩
/-- The files behind an Append. -/
def appF (n s : ByteArray) (l : List Fl) : List Fl :=
  if findF n l 0 < 0 then l ++ [⟨n, s, 0⟩] else l.set (findF n l 0).toNat { l.getD (findF n l 0).toNat fl0 with data := (l.getD (findF n l 0).toNat fl0).data ++ s }
def Dsk.append (d : Dsk) (n s : ByteArray) : Dsk := if d.stopped then d.stepd else { d.stepd with files := appF n s d.files }
theorem stepd_files (d : Dsk) : d.stepd.files = d.files := by unfold Dsk.stepd; split <;> rfl
theorem empty_app (s : ByteArray) : ByteArray.empty ++ s = s := by
  apply Go.WideShapes.bytes_inj
  simp
set_option maxRecDepth 100000 in
set_option maxHeartbeats 1000000 in
theorem append_go (B : Nat) (w : World) (p : Nat) (v : Value) (d : Dsk) (n s : ByteArray) (h : DAt B 117 149 w p v d) (hB : B ≤ w.heap.size) (hl : -1 ≤ d.left ∧ d.left ≤ 9223372036854775807) (hf : d.files.length ≤ 4194303) (hb : ∀ f ∈ d.files, f.data.size ≤ 1099511627776) (hs : s.size ≤ 1099511627776) :
    Calls Tryz.prog 75 #[.pointer (some ⟨p, 0, none⟩), .string n, .string s] w (stEnd B 117 149 w p v d (!d.stopped) (d.append n s)) := by
  have hst := step_go B w p v d h hl
  by_cases hS : d.stopped = true
  · rw [hS] at hst
    have HA := hide (show d.append n s = d.stepd from by rw [Dsk.append, if_pos hS])
    clear h
    go_enter Tryz.func75, Tryz.ntmps75
    go_wp2_with fail
    refine hst.mono ?_
    rintro _ w1 ⟨rfl, v1, h1⟩
    go_wp2
    all_goals go_ret
    all_goals exact stEnd_of (by rw [hS]; rfl) (unhide HA).symm h1
  · have hSf : d.stopped = false := by simpa using hS
    rw [hSf] at hst
    have HA := hide (show d.append n s = { d.stepd with files := appF n s d.files } from by rw [Dsk.append, if_neg hS])
    clear h hS
    go_enter Tryz.func75, Tryz.ntmps75
    go_wp2_with fail
    refine hst.mono ?_
    rintro _ w1 ⟨rfl, v1, h1, u1⟩
    have hfs := stepd_files d
    generalize d.stepd = d1 at HA h1 hfs
    rw [← hfs] at hf hb HA
    have hB1 : B ≤ w1.heap.size := Nat.le_trans hB u1.size
    have H1 := hide (And.intro h1 u1)
    clear hst u1 h1 hfs
    go_wp2_with fail
    refine (find_go B w1 p v1 d1 n (unhide H1).1 (by omega)).mono ?_
    rintro _ _ ⟨rfl, rfl⟩
    rename_i w1
    obtain ⟨ao, cap, rfl, hcap, hao⟩ := own_len (unhide H1).1.own
    have h0 := (unhide H1).1.c0
    rcases findF_cases n d1.files 0 with ⟨hn, _⟩ | ⟨i, hi, hn, _⟩
    · have HAP := hide (show appF n s d1.files = d1.files ++ [⟨n, s, 0⟩] from by rw [appF, if_pos (by rw [hn]; decide)])
      rw [hn]
      clear hn
      go_wp2_with (refine wpList_halt2 (.tmp 20) (.tmp 23) 115 rfl ?_)
      refine Stp.mk ?_
      refine wpList_append_file rfl (.tmp 20) (.tmp 23) 115 149 rfl B Tryz.underlying115 info149 (.slice ao d1.files.length cap) d1.files ⟨n, .empty, 0⟩ w1 rfl (unhide H1).1.own (by omega) rfl rfl hB1 ?_
      intro v2 w2 ho2 u2
      have hat := u2.at (Nat.le_refl _) (unhide H1).1.lt ((unhide H1).1.apart (by decide))
      have h3 := (unhide H1).1.set0 (by decide) hat ho2 (u2.any (Nat.le_refl _))
      have hc2 : w2.cell? ⟨p, 0, none⟩ = some (.slice ao d1.files.length cap) := by rw [cell_of_row _ _ _ _ _ _ (hat.trans (unhide H1).1.at')]; rfl
      have hz2 : w2.frozen? ⟨p, 0, none⟩ = false := frozen_of_row _ _ _ _ _ (hat.trans (unhide H1).1.at')
      obtain ⟨g, cap2, rfl⟩ := own_one ho2
      have hc3 : (w2.setCell ⟨p, 0, none⟩ (.slice (some ⟨g, 0, none⟩) (d1.files.length + 1) cap2)).cell? ⟨g, d1.files.length * 3 + 1, none⟩ = some (.string .empty) := by
        have := own_file (k := d1.files.length) (j := 1) (by simpa using h3.1.own) (by simp) (by omega)
        rw [this]; simp [Fl.cells]
      have hz3 : (w2.setCell ⟨p, 0, none⟩ (.slice (some ⟨g, 0, none⟩) (d1.files.length + 1) cap2)).frozen? ⟨g, d1.files.length * 3 + 1, none⟩ = false := own_file_fz (by simpa using h3.1.own)
      have h4 := h3.1.setf (by decide) (by simp) (k := d1.files.length) (by simp) (j := 1) (by omega) (u := .string (.empty ++ s)) (f' := ⟨n, s, 0⟩) (by simp [Fl.cells])
      have H4 := hide (And.intro h4.1 (((unhide H1).2.trans h3.2).trans h4.2))
      clear h3 h4 ho2 u2 hat H1 h0
      have hlI : (d1.files.length : Int) < (d1.files.length : Int) + 1 := by omega
      simp only [Act.put, List.setIfInBounds_toArray, List.set_cons_zero, List.set_cons_succ]
      go_wp2
      all_goals go_ret
      all_goals exact stEnd_of (by simp) (by rw [unhide HA, unhide HAP]; simp) (unhide H4)
    · have HAP := hide (show appF n s d1.files = d1.files.set i { d1.files.getD i fl0 with data := (d1.files.getD i fl0).data ++ s } from by rw [appF, if_neg (by omega), hn, Nat.zero_add, Int.toNat_natCast])
      rw [hn, Nat.zero_add]
      clear hn
      obtain ⟨g, rfl⟩ := hao (by omega)
      have hc : w1.cell? ⟨g, i * 3 + 1, none⟩ = some (.string (d1.files.getD i fl0).data) := by have := own_file (unhide H1).1.own hi (j := 1) (by omega); simpa [Fl.cells] using this
      have hz : w1.frozen? ⟨g, i * 3 + 1, none⟩ = false := own_file_fz (unhide H1).1.own
      have hds : (d1.files.getD i fl0).data.size ≤ 1099511627776 := hb _ (by rw [List.getD_eq_getElem?_getD, List.getElem?_eq_getElem hi]; exact List.getElem_mem hi)
      have h3 := (unhide H1).1.setf (by decide) rfl hi (j := 1) (by omega) (u := .string ((d1.files.getD i fl0).data ++ s)) (f' := { d1.files.getD i fl0 with data := (d1.files.getD i fl0).data ++ s }) rfl
      have H3 := hide (And.intro h3.1 ((unhide H1).2.trans h3.2))
      clear h3 H1
      generalize hx : (d1.files.getD i fl0).data = x at hc hds H3 HAP
      have hiI : (i : Int) < (d1.files.length : Int) := by omega
      have hi0 : (0 : Int) ≤ (i : Int) := by omega
      clear hx
      go_wp2
      all_goals go_ret
      all_goals exact stEnd_of (by simp [hSf]) (by rw [unhide HA, unhide HAP]) (unhide H3)
end Go.Proofs.YtlbacbcenejngaaGreatDoor
namespace Go.Proofs.YtlbacbcenejngaaGreatDoor
open Go.RowKit
/-- The files behind a Sync. -/
def syncF (n : ByteArray) (l : List Fl) : List Fl :=
  if findF n l 0 < 0 then l else l.set (findF n l 0).toNat { l.getD (findF n l 0).toNat fl0 with safe := (l.getD (findF n l 0).toNat fl0).data.size }
def Dsk.sync (d : Dsk) (n : ByteArray) : Dsk := if d.stopped then d.stepd else { d.stepd with files := syncF n d.files }
set_option maxRecDepth 100000 in
set_option maxHeartbeats 1000000 in
theorem sync_go (B : Nat) (w : World) (p : Nat) (v : Value) (d : Dsk) (n : ByteArray) (h : DAt B 117 149 w p v d) (hl : -1 ≤ d.left ∧ d.left ≤ 9223372036854775807) (hf : d.files.length ≤ 4194303) (hb : ∀ f ∈ d.files, f.data.size ≤ 1099511627776) :
    Calls Tryz.prog 77 #[.pointer (some ⟨p, 0, none⟩), .string n] w (stEnd B 117 149 w p v d (!d.stopped) (d.sync n)) := by
  have hst := step_go B w p v d h hl
  by_cases hS : d.stopped = true
  · rw [hS] at hst
    have HA := hide (show d.sync n = d.stepd from by rw [Dsk.sync, if_pos hS])
    have hfs := stepd_files d
    generalize d.stepd = d1 at HA hst hfs
    rw [← hfs] at hf hb
    clear h hfs
    go_enter Tryz.func77, Tryz.ntmps77
    go_wp2_with fail
    refine hst.mono ?_
    rintro _ w1 ⟨rfl, v1, h1⟩
    go_wp2
    all_goals go_ret
    all_goals exact stEnd_of (by rw [hS]; rfl) (unhide HA).symm h1
  · have hSf : d.stopped = false := by simpa using hS
    rw [hSf] at hst
    have HA := hide (show d.sync n = { d.stepd with files := syncF n d.files } from by rw [Dsk.sync, if_neg hS])
    clear h hS
    go_enter Tryz.func77, Tryz.ntmps77
    go_wp2_with fail
    refine hst.mono ?_
    rintro _ w1 ⟨rfl, v1, h1, u1⟩
    have hfs := stepd_files d
    generalize d.stepd = d1 at HA h1 hfs
    rw [← hfs] at hf hb HA
    have H1 := hide (And.intro h1 u1)
    clear hst u1 h1 hfs
    go_wp2_with fail
    refine (find_go B w1 p v1 d1 n (unhide H1).1 (by omega)).mono ?_
    rintro _ _ ⟨rfl, rfl⟩
    rename_i w1
    obtain ⟨ao, cap, rfl, hcap, hao⟩ := own_len (unhide H1).1.own
    have h0 := (unhide H1).1.c0
    rcases findF_cases n d1.files 0 with ⟨hn, _⟩ | ⟨i, hi, hn, _⟩
    · have HAP := hide (show syncF n d1.files = d1.files from by rw [syncF, if_pos (by rw [hn]; decide)])
      rw [hn]
      clear hn
      go_wp2
      all_goals go_ret
      all_goals exact stEnd_of (by simp [hSf]) (by rw [unhide HA, unhide HAP]) (unhide H1)
    · have HAP := hide (show syncF n d1.files = d1.files.set i { d1.files.getD i fl0 with safe := (d1.files.getD i fl0).data.size } from by rw [syncF, if_neg (by omega), hn, Nat.zero_add, Int.toNat_natCast])
      rw [hn, Nat.zero_add]
      clear hn
      obtain ⟨g, rfl⟩ := hao (by omega)
      have hc : w1.cell? ⟨g, i * 3 + 1, none⟩ = some (.string (d1.files.getD i fl0).data) := by have := own_file (unhide H1).1.own hi (j := 1) (by omega); simpa [Fl.cells] using this
      have hc2 : w1.cell? ⟨g, i * 3 + 2, none⟩ = some (.int .i64 ((d1.files.getD i fl0).safe : Int)) := by have := own_file (unhide H1).1.own hi (j := 2) (by omega); simpa [Fl.cells] using this
      have hz : w1.frozen? ⟨g, i * 3 + 2, none⟩ = false := own_file_fz (unhide H1).1.own
      have hds : (d1.files.getD i fl0).data.size ≤ 1099511627776 := hb _ (by rw [List.getD_eq_getElem?_getD, List.getElem?_eq_getElem hi]; exact List.getElem_mem hi)
      have h3 := (unhide H1).1.setf (by decide) rfl hi (j := 2) (by omega) (u := .int .i64 ((d1.files.getD i fl0).data.size : Int)) (f' := { d1.files.getD i fl0 with safe := (d1.files.getD i fl0).data.size }) rfl
      have H3 := hide (And.intro h3.1 ((unhide H1).2.trans h3.2))
      clear h3 H1
      generalize hx : (d1.files.getD i fl0).data = x at hc hds H3 HAP
      have hiI : (i : Int) < (d1.files.length : Int) := by omega
      have hi0 : (0 : Int) ≤ (i : Int) := by omega
      clear hx
      go_wp2_with fail
      have h0d : w1.drew.cell? ⟨p, 0, none⟩ = some (.slice (some ⟨g, 0, none⟩) d1.files.length cap) := h0
      have hcd : w1.drew.cell? ⟨g, i * 3 + 1, none⟩ = some (.string x) := hc
      have hcd2 : w1.drew.cell? ⟨g, i * 3 + 2, none⟩ = some (.int .i64 ((d1.files.getD i fl0).safe : Int)) := hc2
      have hzd : w1.drew.frozen? ⟨g, i * 3 + 2, none⟩ = false := hz
      go_region
      all_goals go_wp2_with fail
      all_goals go_ret
      all_goals exact stEnd_of (by simp [hSf]) (by rw [unhide HA, unhide HAP]) (both_drew (unhide H3))
end Go.Proofs.YtlbacbcenejngaaGreatDoor
namespace Go.Proofs.YtlbacbcenejngaaGreatDoor
open Go.RowKit
/-- Whether a name stands ahead of another. -/
def lt (x y : ByteArray) : Bool := Op.bytesLess x.toList y.toList
end Go.Proofs.YtlbacbcenejngaaGreatDoor
