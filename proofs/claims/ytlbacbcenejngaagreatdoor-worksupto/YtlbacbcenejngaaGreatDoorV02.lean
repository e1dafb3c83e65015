/-
  Tk
-/
import Derived.Deep.RegionHeld
import Derived.OrdersHeld
namespace Go.Proofs.YtlbacbcenejngaaGreatDoor
theorem zz0 (l : List Value) (ds : List Deferred) (n : Nat) (v : Value) : Act.put ⟨l.toArray, ds⟩ (some n) v = ⟨(l.set n v).toArray, ds⟩ := by
  simp [Act.put]
theorem zz3 (a : Act) (v : Value) : Act.put a none v = a := rfl
theorem zz1 {α : Type} (a b : α) (l : List α) : (a :: l).set 0 b = b :: l := rfl
theorem zz2 {α : Type} (a b : α) (l : List α) (n : Nat) : (a :: l).set (n + 1) b = a :: l.set n b := rfl
def oz : Oper := ⟨none, .move (.tmp 0), 0, "", #[], none⟩
section
variable {P : Program} {ops : Array Oper} {Q : Exit → Act → World → Prop} {md : Region.Mode} {S : World → Prop} {fuel : Nat} {listed : Array Bool} {a : Act} {w : World}
theorem at_oz {i : Nat} (h : i < ops.size) : ops[i]? = some (ops.getD i oz) := by
  simp [Array.getD, h]
theorem tkP (i : Nat) (d : Option Tmp) (v : Value) (hc : (decide (i < ops.size) && ((ops.getD i oz).dst == d && (Region.noSelect ops && (Region.free md ops listed i && ((Region.ready md ops listed).contains i && Region.wanted (ops.getD i oz) (yielded ops a.tmps)))))) = true)
    (hQ : ∀ c a w, Q (.panic c) (a.put d v) w → Q (.panic c) a w) (hy : ∀ W, S W → (execOp a.eval (ops.getD i oz)).run P W = .ok (.value v) W) (hS : S w)
    (h : wpAnyH P md ops Q S fuel (listed.setIfInBounds i true) (a.put d v) w) : wpAnyH P md ops Q S (fuel + 1) listed a w := by
  simp only [Bool.and_eq_true, decide_eq_true_eq, beq_iff_eq] at hc
  obtain ⟨h1, h2, h3, h4, h5, h6⟩ := hc
  subst h2
  exact wpAnyH_take (at_oz h1) h3 h4 h5 hQ (.inl ⟨h6, hy⟩) hS h
/-- Takes one behind the other. -/
def puts : List (Nat × Option Tmp × Value) → Act → Act
  | [], a => a
  | e :: r, a => puts r (a.put e.2.1 e.2.2)
def mark : List (Nat × Option Tmp × Value) → Array Bool → Array Bool
  | [], l => l
  | e :: r, l => mark r (l.setIfInBounds e.1 true)
def chk (md : Region.Mode) (ops : Array Oper) : List (Nat × Option Tmp × Value) → Array Bool → Bool
  | [], _ => true
  | e :: r, l => decide (e.1 < ops.size) && ((ops.getD e.1 oz).dst == e.2.1 && (Region.free md ops l e.1 && ((Region.ready md ops l).contains e.1 && chk md ops r (l.setIfInBounds e.1 true))))
def exs (P : Program) (ops : Array Oper) (W : World) : List (Nat × Option Tmp × Value) → Act → List (Result Next)
  | [], _ => []
  | e :: r, a => (if Region.wanted (ops.getD e.1 oz) (yielded ops a.tmps) = true then (execOp a.eval (ops.getD e.1 oz)).run P W else .ok (.value undef) W) :: exs P ops W r (a.put e.2.1 e.2.2)
def vls (W : World) : List (Nat × Option Tmp × Value) → List (Result Next)
  | [] => []
  | e :: r => .ok (.value e.2.2) W :: vls W r
theorem zz4 (e : Nat × Option Tmp × Value) (r : List (Nat × Option Tmp × Value)) (a : Act) : puts (e :: r) a = puts r (a.put e.2.1 e.2.2) := rfl
theorem zz5 (a : Act) : puts [] a = a := rfl
theorem tkl (hs : Region.noSelect ops = true) (hQ : ∀ c a w n v, Q (.panic c) (Act.put a (some n) v) w → Q (.panic c) a w) (hS : S w) : ∀ (l : List (Nat × Option Tmp × Value)) (listed : Array Bool) (a : Act), chk md ops l listed = true → (∀ W, S W → exs P ops W l a = vls W l) → wpAnyH P md ops Q S fuel (mark l listed) (puts l a) w → wpAnyH P md ops Q S (fuel + l.length) listed a w
  | [], _, _, _, _, h => h
  | e :: r, listed, a, hc, hy, h => by
    simp only [chk, Bool.and_eq_true, decide_eq_true_eq, beq_iff_eq] at hc
    obtain ⟨h1, h2, h3, h4, h5⟩ := hc
    have hyr : ∀ W, S W → exs P ops W r (a.put e.2.1 e.2.2) = vls W r := fun W hW => (List.cons.inj (hy W hW)).2
    have hye : ∀ W, S W → (if Region.wanted (ops.getD e.1 oz) (yielded ops a.tmps) = true then (execOp a.eval (ops.getD e.1 oz)).run P W else .ok (.value undef) W) = .ok (.value e.2.2) W := fun W hW => (List.cons.inj (hy W hW)).1
    refine wpAnyH_take (i := e.1) (v := e.2.2) (at_oz h1) hs h3 h4 (by rw [h2]; intro c a w; cases e.2.1 with | none => exact id | some n => exact hQ c a w n _) ?_ hS (by rw [h2]; exact tkl hs hQ hS r _ _ h5 hyr h)
    by_cases hw : Region.wanted (ops.getD e.1 oz) (yielded ops a.tmps) = true
    · refine .inl ⟨hw, fun W hW => ?_⟩
      have := hye W hW
      rwa [if_pos hw] at this
    · refine .inr ⟨by simpa using hw, ?_⟩
      have := hye w hS
      rw [if_neg hw] at this
      injection this with h6
      injection h6 with h6
      exact h6.symm
theorem tkL (n : Nat) (l : List (Nat × Option Tmp × Value)) (hc : (Region.noSelect ops && (chk md ops l listed && l.length == n)) = true) (hQ : ∀ c a w n v, Q (.panic c) (Act.put a (some n) v) w → Q (.panic c) a w) (hy : ∀ W, S W → exs P ops W l a = vls W l) (hS : S w)
    (h : wpAnyH P md ops Q S fuel (mark l listed) (puts l a) w) : wpAnyH P md ops Q S (fuel + n) listed a w := by
  simp only [Bool.and_eq_true, beq_iff_eq] at hc
  obtain ⟨h1, h2, h3⟩ := hc
  subst h3
  exact tkl h1 hQ hS l listed a h2 hy h
theorem op_at {i : Nat} {d : Option Tmp} {op : Op} {ty : TypeId} {g : Option (Nat × Bool)} (hi : (ops[i]?).map (fun o => (o.dst, o.op, o.type, o.guard)) = some (d, op, ty, g)) : ∃ p e, ops[i]? = some ⟨d, op, ty, p, e, g⟩ := by
  obtain ⟨o, ho, he⟩ := Option.map_eq_some_iff.1 hi
  obtain ⟨d', op', ty', p, e, g'⟩ := o
  cases he
  exact ⟨p, e, ho⟩
theorem tkG (i : Nat) (d : Option Tmp) (op : Op) (ty : TypeId) (g : Option (Nat × Bool)) (v : Value) (hi : ((ops[i]?).map (fun o => (o.dst, o.op, o.type, o.guard)), (Region.noSelect ops && (Region.free md ops listed i && (Region.ready md ops listed).contains i))) = (some (d, op, ty, g), true))
    (hQ : ∀ c a w, Q (.panic c) (a.put d v) w → Q (.panic c) a w) (hy : YieldsIf P ops S ⟨d, op, ty, "", #[], g⟩ v a) (hS : S w)
    (h : wpAnyH P md ops Q S fuel (listed.setIfInBounds i true) (a.put d v) w) : wpAnyH P md ops Q S (fuel + 1) listed a w := by
  obtain ⟨hi, hc⟩ := Prod.mk.inj hi
  obtain ⟨p, e, hi⟩ := op_at hi
  simp only [Bool.and_eq_true] at hc
  exact wpAnyH_take hi hc.1 hc.2.1 hc.2.2 hQ hy hS h
theorem rdX (d : Option Tmp) (op : Op) (ty : TypeId) (g : Option (Nat × Bool)) {i : Nat} {rs : List Nat} (hi : (ops[i]?).map (fun o => (o.dst, o.op, o.type, o.guard)) = some (d, op, ty, g))
    (h : ∀ K' : Act → World → Prop, Shut (∀ a w, S w → (S w → wpAnyH P md ops Q S fuel (listed.setIfInBounds i true) a w) → K' a w) → if Region.wanted ⟨d, op, ty, "", #[], g⟩ (yielded ops a.tmps) = true then Oper.wp P ⟨d, op, ty, "", #[], g⟩ a w K' Q else K' (a.put d undef) w)
    (hs : AllReadyH P md ops Q S fuel listed a w rs) : AllReadyH P md ops Q S fuel listed a w (i :: rs) := by
  obtain ⟨p, e, hi⟩ := op_at hi
  exact AllReadyH.cons hi h hs
theorem rd1 (i : Nat) (d : Option Tmp) (op : Op) (ty : TypeId) (hi : (Region.ready md ops listed, (ops[i]?).map (fun o => (o.dst, o.op, o.type, o.guard))) = ([i], some (d, op, ty, none)))
    (h : ∀ K' : Act → World → Prop, Shut (∀ a w, S w → (S w → wpAnyH P md ops Q S fuel (listed.setIfInBounds i true) a w) → K' a w) → Oper.wp P ⟨d, op, ty, "", #[], none⟩ a w K' Q) : wpAnyH P md ops Q S (fuel + 1) listed a w :=
  wpAnyH_ready (Prod.mk.inj hi).1 (by simp) (rdX d op ty none (Prod.mk.inj hi).2 (fun K hK => by
    exact h K hK) AllReadyH.nil)
end
end Go.Proofs.YtlbacbcenejngaaGreatDoor
