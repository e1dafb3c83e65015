/-
  Sf Sg Sh Vm Vn Vo Ea Eb Ec Ed
-/
import Derived.Test.YtlbacbcenejngaaGreatDoorH28
import Derived.Test.YtlbacbcenejngaaGreatDoorH27
import Derived.Test.YtlbacbcenejngaaGreatDoorH24
import Derived.Test.YtlbacbcenejngaaGreatDoorH20
import Derived.Test.YtlbacbcenejngaaGreatDoorH15
import Derived.Test.YtlbacbcenejngaaGreatDoorH16
namespace Go.Proofs.YtlbacbcenejngaaGreatDoor
open Go.RowKit Go.MapKept
/-- What a store is behind a change. -/
def Sto.carry (S : Sto) (q : Rq) : Cg → Sto
  | .grant => { S with toks := putM q.name ⟨q.pre, q.rights⟩ S.toks }
  | .revoke => { S with toks := delM q.name S.toks }
  | .drop => match lk q.path S.paths with | some p => { S with paths := putM q.path { p with vers := [] } S.paths } | none => S
  | .put => { S with paths := putM q.path ⟨((lk q.path S.paths).getD ⟨1, []⟩).next + 1, ((lk q.path S.paths).getD ⟨1, []⟩).vers ++ [(((lk q.path S.paths).getD ⟨1, []⟩).next, q.value)]⟩ S.paths }
def cyEnd (B n0 : Nat) (w : World) (sp tb pb : Nat) (L : PL) (S' : Sto) (e : Ending) (w' : World) : Prop :=
  e = .returned (.tuple #[]) ∧ ∃ L', StoAt B w' sp tb pb L' S' ∧ Chg (fun k => Sft sp tb pb L k ∨ n0 ≤ k) w w' ∧ (∀ k, Sft sp tb pb L' k → Sft sp tb pb L k ∨ n0 ≤ k) ∧ Stay [169, 236, 238, 0] w w'
theorem map_ne {w : World} {b k : Nat} {t : TypeId} {d : TypeDesc} {key : ByteArray → Value} {M : List (ByteArray × Value)} (h : MapAt d key w b M) (hk : TyAt w k t) : k ≠ b := by
  rintro rfl
  obtain ⟨cs, hc⟩ := hk
  obtain ⟨es, c, hh, _⟩ := h
  rw [hc] at hh
  cases hh
theorem StoAt.ty0 {B : Nat} {w : World} {sp tb pb : Nat} {L : PL} {S : Sto} (h : StoAt B w sp tb pb L S) : TyAt w sp 168 := ⟨_, h.at'⟩
theorem StoAt.toks' {B : Nat} {w w' : World} {sp tb pb : Nat} {L : PL} {S : Sto} {T : List (ByteArray × Tok)} (h : StoAt B w sp tb pb L S) (hm : MapAt .string skey w' tb (T.map fun e => (e.1, e.2.enc))) (hc : Chg (fun k => k = tb) w w') : StoAt B w' sp tb pb L { S with toks := T } :=
  ⟨(hc.block _ h.ty0.lt (map_ne h.toks h.ty0)).trans h.at', hm, h.paths.stay (hc.block _ h.paths.lt fun e => h.ne e.symm), h.vals,
   h.fam.frame (wayP B) (fun k hk _ => hc.block k hk.lt (map_ne h.toks hk)) (fun k hk _ => hc.block k hk.lt (map_ne h.toks hk)), h.ge, h.ne⟩
theorem cy_toks {B n0 : Nat} {w w1 w' : World} {sp tb pb : Nat} {L : PL} {S : Sto} {T : List (ByteArray × Tok)} (h : StoAt B w sp tb pb L S) (hk : Kept w.heap.size w w1) (hm : MapAt .string skey w' tb (T.map fun e => (e.1, e.2.enc))) (hc : Chg (fun k => k = tb) w1 w') : cyEnd B n0 w sp tb pb L { S with toks := T } (.returned (.tuple #[])) w' :=
  ⟨rfl, L, (h.kept hk).toks' hm hc, (Chg.trans' (S := fun k => Sft sp tb pb L k ∨ n0 ≤ k) ⟨hk.os, hk.output, hk.size, fun k hk' _ => hk.block k hk'⟩ hc fun i _ e => .inl (.inr (.inl e))), fun k hk => .inl hk, (hk.stay.trans (stay_one (l := [0]) (map_knd (h.kept hk).toks) (fun k hne hlt => hc.block k hlt hne) (by decide))).mono (by decide)⟩
def SG (sp tb b2 b3 : Nat) (q : Rq) (W : World) : Prop := W.cell? ⟨b2, 0, none⟩ = some (.pointer (some ⟨sp, 0, none⟩)) ∧ W.cell? ⟨sp, 1, none⟩ = some (.map (some tb)) ∧ W.cell? ⟨b3, 6, none⟩ = some (.string q.name) ∧ W.cell? ⟨b3, 7, none⟩ = some (.string q.pre) ∧ W.cell? ⟨b3, 8, none⟩ = some (.int .u8 (q.rights.toNat : Int))
theorem sg_all {B n0 : Nat} {w : World} {sp tb pb b2 b3 : Nat} {L : PL} {S : Sto} {q : Rq} (h : StoAt B w sp tb pb L S) (hb : Bx n0 w sp b2 b3 q) (W : World) (hk : Kept w.heap.size w W) : SG sp tb b2 b3 q W := by
  have h2 := (hk.block _ (Array.getElem?_eq_some_iff.1 hb.s).1).trans hb.s
  have h3 : RqAt W b3 q := (hk.block _ hb.q.lt).trans hb.q
  exact ⟨by rw [cell_of_row _ _ _ _ _ _ h2]; rfl, by rw [cell_of_row _ _ _ _ _ _ (h.kept hk).at']; rfl, by rw [h3.c 6]; rfl, by rw [h3.c 7]; rfl, by rw [h3.c 8]; rfl⟩
theorem sg_set {B : Nat} {w w' : World} {sp tb pb b2 b3 : Nat} {L : PL} {S : Sto} {q : Rq} (h : StoAt B w sp tb pb L S) (hs : SG sp tb b2 b3 q w) (hc : Chg (fun k => k = tb) w w') (h2 : TyAt w b2 76) (h3 : TyAt w b3 84) : SG sp tb b2 b3 q w' := by
  have e : ∀ k j, (∃ t, TyAt w k t) → w'.cell? ⟨k, j, none⟩ = w.cell? ⟨k, j, none⟩ := fun k j ht => by
    obtain ⟨t, ht⟩ := ht
    exact World.cell?_of_block (w := w) (a := ⟨k, j, none⟩) (hc.block k ht.lt (map_ne h.toks ht))
  unfold SG
  rw [e b2 0 ⟨_, h2⟩, e sp 1 ⟨_, h.ty0⟩, e b3 6 ⟨_, h3⟩, e b3 7 ⟨_, h3⟩, e b3 8 ⟨_, h3⟩]
  exact hs
set_option maxRecDepth 100000 in
set_option maxHeartbeats 1000000 in
theorem grantC_go (B n0 : Nat) (w : World) (sp tb pb b2 b3 : Nat) (L : PL) (S : Sto) (q : Rq) (h : StoAt B w sp tb pb L S) (hb : Bx n0 w sp b2 b3 q) (hn : q.name.size ≤ 1000) (hp : q.pre.size ≤ 1000) :
    Calls Tryz.prog 174 #[.pointer (some ⟨b3, 0, none⟩), .pointer (some ⟨b2, 0, none⟩)] w (cyEnd B n0 w sp tb pb L (S.carry q .grant)) := by
  have HSG := hide (sg_all h hb)
  have HB23 := hide hb
  have HS := hide h
  clear h hb
  go_enter Tryz.func174, Tryz.ntmps174
  go_wp2_with fail
  refine wp_region_held_drew (S := SG sp tb b2 b3 q) (by kernel_rfl) (unhide HSG w.drew ((Kept.refl _ _).draws 1)) (fun hHeld => ?_)
  refine wpAnyH_take (i := 0) (oi := { dst := some 2, op := Op.load 76 (Operand.tmp 1), type := 76, pos := "store.go:168", after := #[], guard := none }) (v := .pointer (some ⟨sp, 0, none⟩)) rfl (by kernel_rfl) (by kernel_rfl) (by kernel_rfl) (fun _ _ _ h => h) (Or.inl ⟨by kernel_rfl, fun W hW => by simp [execOp, go_sem, hW.1]⟩) hHeld ?_
  simp only [Act.put, List.setIfInBounds_toArray, List.set_cons_zero, List.set_cons_succ]
  refine wpAnyH_take (i := 1) (oi := { dst := some 3, op := Op.nilCheck (Operand.tmp 2), type := 0, pos := "store.go:168", after := #[{ on := 0, ground := Ground.data }], guard := none }) (v := .pointer (some ⟨sp, 0, none⟩)) rfl (by kernel_rfl) (by kernel_rfl) (by kernel_rfl) (fun _ _ _ h => h) (Or.inl ⟨by kernel_rfl, fun W hW => by kernel_rfl⟩) hHeld ?_
  simp only [Act.put, List.setIfInBounds_toArray, List.set_cons_zero, List.set_cons_succ]
  refine wpAnyH_take (i := 2) (oi := { dst := some 4, op := Op.fieldAddr 168 (Operand.tmp 3) 1, type := 0, pos := "store.go:168", after := #[{ on := 1, ground := Ground.data }], guard := none }) (v := .pointer (some ⟨sp, 1, none⟩)) rfl (by kernel_rfl) (by kernel_rfl) (by kernel_rfl) (fun _ _ _ h => h) (Or.inl ⟨by kernel_rfl, fun W hW => by kernel_rfl⟩) hHeld ?_
  simp only [Act.put, List.setIfInBounds_toArray, List.set_cons_zero, List.set_cons_succ]
  refine wpAnyH_take (i := 3) (oi := { dst := some 5, op := Op.load 165 (Operand.tmp 4), type := 165, pos := "store.go:168", after := #[{ on := 2, ground := Ground.data }], guard := none }) (v := .map (some tb)) rfl (by kernel_rfl) (by kernel_rfl) (by kernel_rfl) (fun _ _ _ h => h) (Or.inl ⟨by kernel_rfl, fun W hW => by simp [execOp, go_sem, hW.2.1]⟩) hHeld ?_
  simp only [Act.put, List.setIfInBounds_toArray, List.set_cons_zero, List.set_cons_succ]
  refine wpAnyH_take (i := 4) (oi := { dst := some 6, op := Op.fieldAddr 84 (Operand.tmp 0) 6, type := 0, pos := "store.go:168", after := #[], guard := none }) (v := .pointer (some ⟨b3, 6, none⟩)) rfl (by kernel_rfl) (by kernel_rfl) (by kernel_rfl) (fun _ _ _ h => h) (Or.inl ⟨by kernel_rfl, fun W hW => by kernel_rfl⟩) hHeld ?_
  simp only [Act.put, List.setIfInBounds_toArray, List.set_cons_zero, List.set_cons_succ]
  refine wpAnyH_take (i := 5) (oi := { dst := some 7, op := Op.load 9 (Operand.tmp 6), type := 9, pos := "store.go:168", after := #[{ on := 4, ground := Ground.data }], guard := none }) (v := .string q.name) rfl (by kernel_rfl) (by kernel_rfl) (by kernel_rfl) (fun _ _ _ h => h) (Or.inl ⟨by kernel_rfl, fun W hW => by simp [execOp, go_sem, hW.2.2.1]⟩) hHeld ?_
  simp only [Act.put, List.setIfInBounds_toArray, List.set_cons_zero, List.set_cons_succ]
  refine wpAnyH_take (i := 7) (oi := { dst := some 9, op := Op.fieldAddr 84 (Operand.tmp 0) 7, type := 0, pos := "store.go:168", after := #[], guard := none }) (v := .pointer (some ⟨b3, 7, none⟩)) rfl (by kernel_rfl) (by kernel_rfl) (by kernel_rfl) (fun _ _ _ h => h) (Or.inl ⟨by kernel_rfl, fun W hW => by kernel_rfl⟩) hHeld ?_
  simp only [Act.put, List.setIfInBounds_toArray, List.set_cons_zero, List.set_cons_succ]
  refine wpAnyH_take (i := 8) (oi := { dst := some 10, op := Op.load 9 (Operand.tmp 9), type := 9, pos := "store.go:168", after := #[{ on := 7, ground := Ground.data }], guard := none }) (v := .string q.pre) rfl (by kernel_rfl) (by kernel_rfl) (by kernel_rfl) (fun _ _ _ h => h) (Or.inl ⟨by kernel_rfl, fun W hW => by simp [execOp, go_sem, hW.2.2.2.1]⟩) hHeld ?_
  simp only [Act.put, List.setIfInBounds_toArray, List.set_cons_zero, List.set_cons_succ]
  refine wpAnyH_take (i := 10) (oi := { dst := some 12, op := Op.fieldAddr 84 (Operand.tmp 0) 8, type := 0, pos := "store.go:168", after := #[], guard := none }) (v := .pointer (some ⟨b3, 8, none⟩)) rfl (by kernel_rfl) (by kernel_rfl) (by kernel_rfl) (fun _ _ _ h => h) (Or.inl ⟨by kernel_rfl, fun W hW => by kernel_rfl⟩) hHeld ?_
  simp only [Act.put, List.setIfInBounds_toArray, List.set_cons_zero, List.set_cons_succ]
  refine wpAnyH_take (i := 11) (oi := { dst := some 13, op := Op.load 5 (Operand.tmp 12), type := 5, pos := "store.go:168", after := #[{ on := 10, ground := Ground.data }], guard := none }) (v := .int .u8 (q.rights.toNat : Int)) rfl (by kernel_rfl) (by kernel_rfl) (by kernel_rfl) (fun _ _ _ h => h) (Or.inl ⟨by kernel_rfl, fun W hW => by simp [execOp, go_sem, hW.2.2.2.2]⟩) hHeld ?_
  simp only [Act.put, List.setIfInBounds_toArray, List.set_cons_zero, List.set_cons_succ]
  refine wpAnyH_ready (rs := [6]) (by kernel_rfl) (by simp) ?_
  refine AllReadyH.cons (o := { dst := some 8, op := Op.call { callee := Callee.value (Operand.func 63), args := #[Operand.tmp 7], argTypes := #[9] }, type := 9, pos := "store.go:168", after := #[{ on := 5, ground := Ground.data }], guard := none }) rfl (fun K hK => ?_) AllReadyH.nil
  refine ite_wanted ?_ ?_
  · kernel_rfl
  go_simp
  refine (clone_go q.name _ (by omega)).mono ?_
  rintro _ w1 ⟨rfl, hk1⟩
  have HK1 := hide (show Kept w.heap.size w w1 from ⟨hk1.os, hk1.output, hk1.size, hk1.block⟩)
  clear hk1
  show K _ w1
  refine hK.out _ _ (unhide HSG w1 (unhide HK1)) (fun hHeld6 => ?_)
  clear hK K
  try simp only [Act.put, List.setIfInBounds_toArray, List.set_cons_zero, List.set_cons_succ]
  refine wpAnyH_ready (rs := [9]) (by kernel_rfl) (by simp) ?_
  refine AllReadyH.cons (o := { dst := some 11, op := Op.call { callee := Callee.value (Operand.func 63), args := #[Operand.tmp 10], argTypes := #[9] }, type := 9, pos := "store.go:168", after := #[{ on := 8, ground := Ground.data }, { on := 6, ground := Ground.chain }], guard := none }) rfl (fun K hK => ?_) AllReadyH.nil
  refine ite_wanted ?_ ?_
  · kernel_rfl
  go_simp
  refine (clone_go q.pre w1 (by omega)).mono ?_
  rintro _ w2 ⟨rfl, hk2⟩
  have HK2 := hide (show Kept w.heap.size w w2 from (unhide HK1).trans (hk2.mono (unhide HK1).size))
  clear hk2
  show K _ w2
  refine hK.out _ _ (unhide HSG w2 (unhide HK2)) (fun hHeld9 => ?_)
  clear hK K
  try simp only [Act.put, List.setIfInBounds_toArray, List.set_cons_zero, List.set_cons_succ]
  refine wpAnyH_take (i := 12) (oi := { dst := some 14, op := Op.build 164 #[(0, Operand.tmp 11), (1, Operand.tmp 13)], type := 164, pos := "store.go:168", after := #[{ on := 9, ground := Ground.data }, { on := 11, ground := Ground.data }], guard := none }) (v := .agg #[.string q.pre, .int .u8 (q.rights.toNat : Int)]) rfl (by kernel_rfl) (by kernel_rfl) (by kernel_rfl) (fun _ _ _ h => h) (Or.inl ⟨by kernel_rfl, fun W hW => by kernel_rfl⟩) hHeld9 ?_
  simp only [Act.put, List.setIfInBounds_toArray, List.set_cons_zero, List.set_cons_succ]
  have HSG3 := hide (fun w3 (hc3 : Chg (fun k => k = tb) w2 w3) => sg_set ((unhide HS).kept (unhide HK2)) (unhide HSG w2 (unhide HK2)) hc3 ⟨_, (unhide HK2).block _ (Array.getElem?_eq_some_iff.1 (unhide HB23).s).1 |>.trans (unhide HB23).s⟩ ⟨_, (unhide HK2).block _ (unhide HB23).q.lt |>.trans (unhide HB23).q⟩)
  refine wpAnyH_ready (rs := [13]) (by kernel_rfl) (by simp) ?_
  refine AllReadyH.cons (o := { dst := none, op := Op.mapUpdate 165 (Operand.tmp 5) (Operand.tmp 8) (Operand.tmp 14), type := 0, pos := "store.go:168", after := #[{ on := 3, ground := Ground.data }, { on := 6, ground := Ground.data }, { on := 12, ground := Ground.data }, { on := 9, ground := Ground.chain }, { on := 0, ground := Ground.phase }, { on := 1, ground := Ground.phase }, { on := 2, ground := Ground.phase }, { on := 3, ground := Ground.phase }, { on := 4, ground := Ground.phase }, { on := 5, ground := Ground.phase }, { on := 6, ground := Ground.phase }, { on := 7, ground := Ground.phase }, { on := 8, ground := Ground.phase }, { on := 9, ground := Ground.phase }, { on := 10, ground := Ground.phase }, { on := 11, ground := Ground.phase }, { on := 12, ground := Ground.phase }], guard := none }) rfl (fun K hK => ?_) AllReadyH.nil
  refine ite_wanted ?_ ?_
  · kernel_rfl
  refine wp_upd kkStr und165 (.tmp 5) (.tmp 8) (.tmp 14) (Or.inl rfl) ((unhide HS).kept (unhide HK2)).toks q.name (.agg #[.string q.pre, .int .u8 (q.rights.toNat : Int)]) ?_ ?_ ?_ ?_
  · kernel_rfl
  · kernel_rfl
  · kernel_rfl
  intro w3 hm3 hc3 hz3
  have HF := hide (And.intro hm3 hc3)
  have hsg3 : SG sp tb b2 b3 q w3 := unhide HSG3 w3 hc3
  clear hm3 hc3
  show K _ w3
  refine hK.out _ _ (hsg3) (fun hHeld13 => ?_)
  clear hK K
  try simp only [Act.put]
  refine wpAnyH_done (by kernel_rfl) ?_ _
  go_wp2_with fail
  refine end0 rfl rfl ?_
  have hf := unhide HF
  refine cy_toks (T := putM q.name ⟨q.pre, q.rights⟩ S.toks) (unhide HS) (unhide HK2) ?_ hf.2
  rw [putM_map Tok.enc]
  exact hf.1
/-- A deletion from a map, as an operation. -/
theorem wp_del {P : Program} {o : Oper} {a : Act} {w : World} {Kn : Act → World → Prop} {Q : Exit → Act → World → Prop} {t kt et : TypeId} {d : TypeDesc} {key : ByteArray → Value} (hk : Kk P kt d key) (ht : P.underlying t = some (.map kt et)) (m x : Operand)
    (ho : o.op = .call { callee := .builtin .delete, args := #[m, x], argTypes := #[t, kt] }) {b : Nat} {M : List (ByteArray × Value)} (h : MapAt d key w b M) (k : ByteArray) (hm : a.eval m = .map (some b)) (hx : a.eval x = key k)
    (hn : ∀ w', MapAt d key w' b (delM k M) → Chg (fun i => i = b) w w' → w'.heap.size = w.heap.size → Kn (a.put o.dst (.tuple #[])) w') : o.wp P a w Kn Q := by
  obtain ⟨w', hr, h1, h2, h3⟩ := run_del (ty := o.type) hk ht h k
  have := hn w' h1 h2 h3
  unfold Oper.wp
  simp [execOp, ho, resolve, invoke, builtin, hm, hx, hr, Result.andThen, Oper.upon]
  exact this
set_option maxRecDepth 100000 in
set_option maxHeartbeats 1000000 in
theorem revokeC_go (B n0 : Nat) (w : World) (sp tb pb b2 b3 : Nat) (L : PL) (S : Sto) (q : Rq) (h : StoAt B w sp tb pb L S) (hb : Bx n0 w sp b2 b3 q) :
    Calls Tryz.prog 175 #[.pointer (some ⟨b2, 0, none⟩), .pointer (some ⟨b3, 0, none⟩)] w (cyEnd B n0 w sp tb pb L (S.carry q .revoke)) := by
  have HSG := hide (sg_all h hb)
  have HB23 := hide hb
  have HS := hide h
  clear h hb
  go_enter Tryz.func175, Tryz.ntmps175
  go_wp2_with fail
  have HK2 := hide (show Kept w.heap.size w w.drew from (Kept.refl _ _).draws 1)
  have HSG3 := hide (fun w3 (hc3 : Chg (fun k => k = tb) w.drew w3) => sg_set ((unhide HS).kept (unhide HK2)) (unhide HSG w.drew (unhide HK2)) hc3 ⟨_, (unhide HK2).block _ (Array.getElem?_eq_some_iff.1 (unhide HB23).s).1 |>.trans (unhide HB23).s⟩ ⟨_, (unhide HK2).block _ (unhide HB23).q.lt |>.trans (unhide HB23).q⟩)
  refine wp_region_held_drew (S := SG sp tb b2 b3 q) (by kernel_rfl) (unhide HSG w.drew (unhide HK2)) (fun hHeld => ?_)
  refine wpAnyH_take (i := 0) (oi := { dst := some 2, op := Op.load 76 (Operand.tmp 0), type := 76, pos := "store.go:179", after := #[], guard := none }) (v := .pointer (some ⟨sp, 0, none⟩)) rfl (by kernel_rfl) (by kernel_rfl) (by kernel_rfl) (fun _ _ _ h => h) (Or.inl ⟨by kernel_rfl, fun W hW => by simp [execOp, go_sem, hW.1]⟩) hHeld ?_
  simp only [Act.put, List.setIfInBounds_toArray, List.set_cons_zero, List.set_cons_succ]
  refine wpAnyH_take (i := 1) (oi := { dst := some 3, op := Op.nilCheck (Operand.tmp 2), type := 0, pos := "store.go:179", after := #[{ on := 0, ground := Ground.data }], guard := none }) (v := .pointer (some ⟨sp, 0, none⟩)) rfl (by kernel_rfl) (by kernel_rfl) (by kernel_rfl) (fun _ _ _ h => h) (Or.inl ⟨by kernel_rfl, fun W hW => by kernel_rfl⟩) hHeld ?_
  simp only [Act.put, List.setIfInBounds_toArray, List.set_cons_zero, List.set_cons_succ]
  refine wpAnyH_take (i := 2) (oi := { dst := some 4, op := Op.fieldAddr 168 (Operand.tmp 3) 1, type := 0, pos := "store.go:179", after := #[{ on := 1, ground := Ground.data }], guard := none }) (v := .pointer (some ⟨sp, 1, none⟩)) rfl (by kernel_rfl) (by kernel_rfl) (by kernel_rfl) (fun _ _ _ h => h) (Or.inl ⟨by kernel_rfl, fun W hW => by kernel_rfl⟩) hHeld ?_
  simp only [Act.put, List.setIfInBounds_toArray, List.set_cons_zero, List.set_cons_succ]
  refine wpAnyH_take (i := 3) (oi := { dst := some 5, op := Op.load 165 (Operand.tmp 4), type := 165, pos := "store.go:179", after := #[{ on := 2, ground := Ground.data }], guard := none }) (v := .map (some tb)) rfl (by kernel_rfl) (by kernel_rfl) (by kernel_rfl) (fun _ _ _ h => h) (Or.inl ⟨by kernel_rfl, fun W hW => by simp [execOp, go_sem, hW.2.1]⟩) hHeld ?_
  simp only [Act.put, List.setIfInBounds_toArray, List.set_cons_zero, List.set_cons_succ]
  refine wpAnyH_take (i := 4) (oi := { dst := some 6, op := Op.fieldAddr 84 (Operand.tmp 1) 6, type := 0, pos := "store.go:179", after := #[], guard := none }) (v := .pointer (some ⟨b3, 6, none⟩)) rfl (by kernel_rfl) (by kernel_rfl) (by kernel_rfl) (fun _ _ _ h => h) (Or.inl ⟨by kernel_rfl, fun W hW => by kernel_rfl⟩) hHeld ?_
  simp only [Act.put, List.setIfInBounds_toArray, List.set_cons_zero, List.set_cons_succ]
  refine wpAnyH_take (i := 5) (oi := { dst := some 7, op := Op.load 9 (Operand.tmp 6), type := 9, pos := "store.go:179", after := #[{ on := 4, ground := Ground.data }], guard := none }) (v := .string q.name) rfl (by kernel_rfl) (by kernel_rfl) (by kernel_rfl) (fun _ _ _ h => h) (Or.inl ⟨by kernel_rfl, fun W hW => by simp [execOp, go_sem, hW.2.2.1]⟩) hHeld ?_
  simp only [Act.put, List.setIfInBounds_toArray, List.set_cons_zero, List.set_cons_succ]
  refine wpAnyH_ready (rs := [6]) (by kernel_rfl) (by simp) ?_
  refine AllReadyH.cons (o := { dst := none, op := Op.call { callee := Callee.builtin Builtin.delete, args := #[Operand.tmp 5, Operand.tmp 7], argTypes := #[165, 9] }, type := 0, pos := "store.go:179", after := #[{ on := 3, ground := Ground.data }, { on := 5, ground := Ground.data }], guard := none }) rfl (fun K hK => ?_) AllReadyH.nil
  refine ite_wanted ?_ ?_
  · kernel_rfl
  refine wp_del kkStr und165 (.tmp 5) (.tmp 7) rfl ((unhide HS).kept (unhide HK2)).toks q.name ?_ ?_ ?_
  · kernel_rfl
  · kernel_rfl
  intro w3 hm3 hc3 hz3
  have HF := hide (And.intro hm3 hc3)
  have hsg3 : SG sp tb b2 b3 q w3 := unhide HSG3 w3 hc3
  clear hm3 hc3
  show K _ w3
  refine hK.out _ _ (hsg3) (fun hHeld6 => ?_)
  clear hK K
  try simp only [Act.put]
  refine wpAnyH_done (by kernel_rfl) ?_ _
  go_wp2_with fail
  refine end0 rfl rfl ?_
  have hf := unhide HF
  refine cy_toks (T := delM q.name S.toks) (unhide HS) (unhide HK2) ?_ hf.2
  rw [delM_map Tok.enc]
  exact hf.1
end Go.Proofs.YtlbacbcenejngaaGreatDoor
namespace Go.Proofs.YtlbacbcenejngaaGreatDoor
open Go.RowKit Go.MapKept
theorem PL.set_locs (L : PL) (i : Nat) (e : Loc Pth) (n : ByteArray) : PL.locs (L.set i (n, e)) = L.locs.set i e := by simp [PL.locs, List.map_set]
theorem PL.set_ptrs {L : PL} {i : Nat} (hi : i < L.length) {e : Loc Pth} (he : e.p = L[i].2.p) : PL.ptrs (L.set i (L[i].1, e)) = L.ptrs := by
  unfold PL.ptrs
  rw [List.map_set, he]
  apply List.ext_getElem?
  intro j
  rw [List.getElem?_set]
  by_cases h : i = j
  · subst h; simp [hi]
  · simp [h]
theorem PL.set_vals {L : PL} {i : Nat} (hi : i < L.length) {e : Loc Pth} (hb : ∀ j (hj : j < i), L[j].1 ≠ L[i].1) : PL.vals (L.set i (L[i].1, e)) = putM L[i].1 e.x L.vals := by
  unfold PL.vals
  rw [List.map_set]
  refine (putM_at (j := i) (p := (L[i].1, L[i].2.x)) ?_ rfl fun j hj q hq => ?_).symm
  · rw [List.getElem?_map, List.getElem?_eq_getElem hi]; rfl
  · rw [List.getElem?_map, List.getElem?_eq_getElem (by omega)] at hq
    cases hq
    exact hb j hj
/-- One path of a store changes. -/
theorem StoAt.upd {B : Nat} {w w' : World} {sp tb pb : Nat} {L : PL} {S : Sto} (h : StoAt B w sp tb pb L S) {i : Nat} (hi : i < L.length) (hb : ∀ j (hj : j < i), L[j].1 ≠ L[i].1) {v' : Value} {x' : Pth} (hP : PP B x' w' L[i].2.p v') (hu : Upd L[i].2.p L[i].2.v v' w w') :
    StoAt B w' sp tb pb (L.set i (L[i].1, ⟨L[i].2.p, v', x'⟩)) { S with paths := putM L[i].1 x' S.paths } := by
  have hl : i < L.locs.length := by simpa [PL.locs] using hi
  have hli : L.locs[i] = L[i].2 := by simp [PL.locs]
  have hpi := h.fam.each _ (List.getElem_mem hl)
  have hP0 : PP B L[i].2.x w L[i].2.p L[i].2.v := by rw [hli] at hpi; exact hpi
  have hty := (wayP B).ty hP0
  have hne : ∀ k, (∃ es c, w.heap[k]? = some (.map es c)) ∨ TyAt w k 168 → k < w.heap.size → w'.heap[k]? = w.heap[k]? := fun k hk hlt => by
    refine hu.block k hlt (fun e => ?_) fun e => ?_
    · subst e
      rcases hk with ⟨es, c, hh⟩ | hk
      · obtain ⟨cs, hc⟩ := hty; rw [hc] at hh; cases hh
      · exact hty.ne hk (by decide) rfl
    · have hr := ((wayP B).row hP0 e).1
      rcases hk with ⟨es, c, hh⟩ | hk
      · obtain ⟨cs, hc⟩ := hr; rw [hc] at hh; cases hh
      · exact hr.ne hk (by decide) rfl
  refine ⟨(hne sp (.inr h.ty0) h.ty0.lt).trans h.at', h.toks.stay (hne tb (.inl (by obtain ⟨es, c, hh, _⟩ := h.toks; exact ⟨es, c, hh⟩)) h.toks.lt), ?_, ?_, ?_, h.ge, h.ne⟩
  · rw [PL.set_ptrs hi (e := ⟨L[i].2.p, v', x'⟩) rfl]
    exact h.paths.stay (hne pb (.inl (by obtain ⟨es, c, hh, _⟩ := h.paths; exact ⟨es, c, hh⟩)) h.paths.lt)
  · rw [PL.set_vals hi hb, ← h.vals]
  · rw [PL.set_locs]
    have := h.fam.upd (wayP B) hl (v' := v') (x' := x') (by rw [hli]; exact hP) (by rw [hli]; exact hu)
    rw [hli] at this
    exact this
/-- The blocks behind it. -/
theorem Sft.set {sp tb pb n0 : Nat} {L : PL} {i : Nat} (hi : i < L.length) {v' : Value} {x' : Pth} {m : ByteArray} (hv : ∀ k, v'.ownBlock = some k → L[i].2.v.ownBlock = some k ∨ n0 ≤ k) {k : Nat} (h : Sft sp tb pb (L.set i (m, ⟨L[i].2.p, v', x'⟩)) k) : Sft sp tb pb L k ∨ n0 ≤ k := by
  rcases h with h | h | h | ⟨e, he, hk⟩
  · exact .inl (.inl h)
  · exact .inl (.inr (.inl h))
  · exact .inl (.inr (.inr (.inl h)))
  · rw [PL.set_locs] at he
    have hm : L[i].2 ∈ L.locs := List.mem_map.2 ⟨L[i], List.getElem_mem hi, rfl⟩
    rcases List.mem_or_eq_of_mem_set he with he | rfl
    · exact .inl (.inr (.inr (.inr ⟨e, he, hk⟩)))
    · rcases hk with hk | hk
      · exact .inl (.inr (.inr (.inr ⟨L[i].2, hm, .inl hk⟩)))
      · rcases hv k hk with hk | hk
        · exact .inl (.inr (.inr (.inr ⟨L[i].2, hm, .inr hk⟩)))
        · exact .inr hk
def SD (sp pb b2 b3 pp : Nat) (q : Rq) (W : World) : Prop := W.cell? ⟨b2, 0, none⟩ = some (.pointer (some ⟨sp, 0, none⟩)) ∧ W.cell? ⟨sp, 2, none⟩ = some (.map (some pb)) ∧ W.cell? ⟨b3, 2, none⟩ = some (.string q.path) ∧ (Instr.lookup 166 (.map (some pb)) (.string q.path) false).run Tryz.prog W = .ok (.pointer (some ⟨pp, 0, none⟩)) W
theorem sd_all {B n0 : Nat} {w : World} {sp tb pb b2 b3 pp : Nat} {L : PL} {S : Sto} {q : Rq} (h : StoAt B w sp tb pb L S) (hb : Bx n0 w sp b2 b3 q) (hl : lk q.path L.ptrs = some (.pointer (some ⟨pp, 0, none⟩))) (W : World) (hk : ∀ k, k < w.heap.size → (TyAt w k 76 ∨ TyAt w k 84 ∨ TyAt w k 168 ∨ ∃ es c, w.heap[k]? = some (.map es c)) → W.heap[k]? = w.heap[k]?) : SD sp pb b2 b3 pp q W := by
  have h2 := (hk _ (Array.getElem?_eq_some_iff.1 hb.s).1 (.inl ⟨_, hb.s⟩)).trans hb.s
  have h3 : RqAt W b3 q := (hk _ hb.q.lt (.inr (.inl ⟨_, hb.q⟩))).trans hb.q
  have hs := (hk _ h.ty0.lt (.inr (.inr (.inl h.ty0)))).trans h.at'
  have hm : MapAt .string skey W pb L.ptrs := h.paths.stay (hk _ h.paths.lt (.inr (.inr (.inr (by obtain ⟨es, c, hh, _⟩ := h.paths; exact ⟨es, c, hh⟩)))))
  exact ⟨by rw [cell_of_row _ _ _ _ _ _ h2]; rfl, by rw [cell_of_row _ _ _ _ _ _ hs]; rfl, by rw [h3.c 2]; rfl, run_look kkStr und166 hm q.path hl false⟩
theorem wp_store_cell233 {w : World} {o : Oper} {a : Act} {K : Act → World → Prop} {Q : Exit → Act → World → Prop} (x y : Operand) (ho : o.op = .store 233 x y) (p : Addr) (hx : a.eval x = .pointer (some p)) (z : Option Addr) (n c : Nat) (hy : a.eval y = .slice z n c) (u : Value) (hc : w.cell? p = some u) (hf : w.frozen? p = false) (h : K (a.put o.dst undef) (w.setCell p (.slice z n c))) : o.wp Tryz.prog a w K Q := by
  have hu := Tryz.underlying233
  unfold Oper.wp execOp
  simp only [ho, hx, hy]
  go_simp
  exact h
theorem upd_cell {w : World} {p j : Nat} {v : Value} (u : Value) {v' : Value} (hv : v' = v ∨ v' = .slice none 0 0) : Upd p v v' w (w.setCell ⟨p, j, none⟩ u) :=
  ⟨rfl, rfl, by simp, fun k _ hp _ => heap_setCell_other _ _ _ _ hp, fun k hk => by
    rcases hv with h | h
    · subst h; exact .inl hk
    · subst h; cases hk⟩
set_option maxRecDepth 100000 in
set_option maxHeartbeats 1000000 in
theorem dropC_go (B n0 : Nat) (w : World) (sp tb pb b2 b3 : Nat) (L : PL) (S : Sto) (q : Rq) (h : StoAt B w sp tb pb L S) (hb : Bx n0 w sp b2 b3 q) (hp : (S.versOf q.path).length ≠ 0) :
    Calls Tryz.prog 170 #[.pointer (some ⟨b2, 0, none⟩), .pointer (some ⟨b3, 0, none⟩)] w (cyEnd B n0 w sp tb pb L (S.carry q .drop)) := by
  rcases PL.find (L := L) (n := q.path) with ⟨h1, h2⟩ | ⟨i, hi, hn, hbf, h1, h2⟩
  · exact absurd (by rw [Sto.versOf, h.vals, h2]; rfl) hp
  have hmem : L[i].2 ∈ L.locs := List.mem_map.2 ⟨L[i], List.getElem_mem hi, rfl⟩
  have hP := h.fam.each _ hmem
  have HSD := hide (sd_all h hb h1)
  have hp1 : w.drew.cell? ⟨L[i].2.p, 1, none⟩ = some L[i].2.v := by show w.cell? _ = _; rw [cell_of_row _ _ _ _ _ _ hP.1]; rfl
  have hpf : w.drew.frozen? ⟨L[i].2.p, 1, none⟩ = false := frozen_of_row w _ _ _ _ hP.1
  have HNEW := hide (show PP B { L[i].2.x with vers := [] } (w.drew.setCell ⟨L[i].2.p, 1, none⟩ (.slice none 0 0)) L[i].2.p (.slice none 0 0) from
    ⟨by rw [heap_setCell_same w.drew _ _ _ _ _ hP.1]; rfl, World.ownsRow_nil _ _ _ _, hP.2.2⟩)
  have HEND := hide (show cyEnd B n0 w sp tb pb L (S.carry q .drop) (.returned (.tuple #[])) (w.drew.setCell ⟨L[i].2.p, 1, none⟩ (.slice none 0 0)) from by
    have hd : StoAt B w.drew sp tb pb L S := h.kept ((Kept.refl _ _).draws 1)
    have hup : Upd L[i].2.p L[i].2.v (.slice none 0 0) w.drew (w.drew.setCell ⟨L[i].2.p, 1, none⟩ (.slice none 0 0)) := upd_cell _ (.inr rfl)
    have hs := hd.upd hi (fun j hj => by rw [hn]; exact hbf j hj) (unhide HNEW) hup
    refine ⟨rfl, L.set i (L[i].1, ⟨L[i].2.p, .slice none 0 0, { L[i].2.x with vers := [] }⟩), ?_, ?_, fun k hk => Sft.set hi (fun k hk => by cases hk) hk, (stay_one (w := w) (l := [236]) ((wayP B).ty hP).knd (fun k hne _ => heap_setCell_other _ _ _ _ hne) (by decide)).mono (by decide)⟩
    · rw [Sto.carry, h.vals, h2, hn]
      rw [h.vals, hn] at hs
      exact hs
    · exact ⟨rfl, rfl, by simp, fun k hk hnk => (heap_setCell_other _ _ _ _ fun e => hnk (.inl (.inr (.inr (.inr ⟨_, hmem, .inl e.symm⟩)))))⟩)
  have HD2 := hide (show SD sp pb b2 b3 L[i].2.p q (w.drew.setCell ⟨L[i].2.p, 1, none⟩ (.slice none 0 0)) from
    unhide HSD _ fun k hk ht => heap_setCell_other _ _ _ _ fun e => by
      have hty := (wayP B).ty hP
      subst e
      rcases ht with ht | ht | ht | ⟨es, c, hh⟩
      · exact hty.ne ht (by decide) rfl
      · exact hty.ne ht (by decide) rfl
      · exact hty.ne ht (by decide) rfl
      · obtain ⟨cs, hc⟩ := hty; rw [hc] at hh; cases hh)
  have HS := hide h
  clear h hb h1 h2 hn hbf hP hp
  generalize L[i].2 = e at *
  go_enter Tryz.func170, Tryz.ntmps170
  go_wp2_with fail
  refine wp_region_held_drew (S := SD sp pb b2 b3 e.p q) (by kernel_rfl) (unhide HSD w.drew (fun k hk _ => rfl)) (fun hHeld => ?_)
  refine wpAnyH_take (i := 0) (oi := { dst := some 2, op := Op.load 76 (Operand.tmp 0), type := 76, pos := "store.go:138", after := #[], guard := none }) (v := .pointer (some ⟨sp, 0, none⟩)) rfl (by kernel_rfl) (by kernel_rfl) (by kernel_rfl) (fun _ _ _ h => h) (Or.inl ⟨by kernel_rfl, fun W hW => by simp [execOp, go_sem, hW.1]⟩) hHeld ?_
  simp only [Act.put, List.setIfInBounds_toArray, List.set_cons_zero, List.set_cons_succ]
  refine wpAnyH_take (i := 1) (oi := { dst := some 3, op := Op.nilCheck (Operand.tmp 2), type := 0, pos := "store.go:138", after := #[{ on := 0, ground := Ground.data }], guard := none }) (v := .pointer (some ⟨sp, 0, none⟩)) rfl (by kernel_rfl) (by kernel_rfl) (by kernel_rfl) (fun _ _ _ h => h) (Or.inl ⟨by kernel_rfl, fun W hW => by kernel_rfl⟩) hHeld ?_
  simp only [Act.put, List.setIfInBounds_toArray, List.set_cons_zero, List.set_cons_succ]
  refine wpAnyH_take (i := 2) (oi := { dst := some 4, op := Op.fieldAddr 168 (Operand.tmp 3) 2, type := 0, pos := "store.go:138", after := #[{ on := 1, ground := Ground.data }], guard := none }) (v := .pointer (some ⟨sp, 2, none⟩)) rfl (by kernel_rfl) (by kernel_rfl) (by kernel_rfl) (fun _ _ _ h => h) (Or.inl ⟨by kernel_rfl, fun W hW => by kernel_rfl⟩) hHeld ?_
  simp only [Act.put, List.setIfInBounds_toArray, List.set_cons_zero, List.set_cons_succ]
  refine wpAnyH_take (i := 3) (oi := { dst := some 5, op := Op.load 166 (Operand.tmp 4), type := 166, pos := "store.go:138", after := #[{ on := 2, ground := Ground.data }], guard := none }) (v := .map (some pb)) rfl (by kernel_rfl) (by kernel_rfl) (by kernel_rfl) (fun _ _ _ h => h) (Or.inl ⟨by kernel_rfl, fun W hW => by simp [execOp, go_sem, hW.2.1]⟩) hHeld ?_
  simp only [Act.put, List.setIfInBounds_toArray, List.set_cons_zero, List.set_cons_succ]
  refine wpAnyH_take (i := 4) (oi := { dst := some 6, op := Op.fieldAddr 84 (Operand.tmp 1) 2, type := 0, pos := "store.go:138", after := #[], guard := none }) (v := .pointer (some ⟨b3, 2, none⟩)) rfl (by kernel_rfl) (by kernel_rfl) (by kernel_rfl) (fun _ _ _ h => h) (Or.inl ⟨by kernel_rfl, fun W hW => by kernel_rfl⟩) hHeld ?_
  simp only [Act.put, List.setIfInBounds_toArray, List.set_cons_zero, List.set_cons_succ]
  refine wpAnyH_take (i := 5) (oi := { dst := some 7, op := Op.load 9 (Operand.tmp 6), type := 9, pos := "store.go:138", after := #[{ on := 4, ground := Ground.data }], guard := none }) (v := .string q.path) rfl (by kernel_rfl) (by kernel_rfl) (by kernel_rfl) (fun _ _ _ h => h) (Or.inl ⟨by kernel_rfl, fun W hW => by simp [execOp, go_sem, hW.2.2.1]⟩) hHeld ?_
  simp only [Act.put, List.setIfInBounds_toArray, List.set_cons_zero, List.set_cons_succ]
  refine wpAnyH_take (i := 6) (oi := { dst := some 8, op := Op.lookup 166 (Operand.tmp 5) (Operand.tmp 7) false, type := 231, pos := "store.go:138", after := #[{ on := 3, ground := Ground.data }, { on := 5, ground := Ground.data }], guard := none }) (v := .pointer (some ⟨e.p, 0, none⟩)) rfl (by kernel_rfl) (by kernel_rfl) (by kernel_rfl) (fun _ _ _ h => h) (Or.inl ⟨by kernel_rfl, fun W hW => by simp [execOp, go_sem, hW.2.2.2]⟩) hHeld ?_
  simp only [Act.put, List.setIfInBounds_toArray, List.set_cons_zero, List.set_cons_succ]
  refine wpAnyH_take (i := 7) (oi := { dst := some 9, op := Op.nilCheck (Operand.tmp 8), type := 0, pos := "store.go:138", after := #[{ on := 6, ground := Ground.data }, { on := 0, ground := Ground.phase }, { on := 1, ground := Ground.phase }, { on := 2, ground := Ground.phase }, { on := 3, ground := Ground.phase }, { on := 4, ground := Ground.phase }, { on := 5, ground := Ground.phase }, { on := 6, ground := Ground.phase }], guard := none }) (v := .pointer (some ⟨e.p, 0, none⟩)) rfl (by kernel_rfl) (by kernel_rfl) (by kernel_rfl) (fun _ _ _ h => h) (Or.inl ⟨by kernel_rfl, fun W hW => by kernel_rfl⟩) hHeld ?_
  simp only [Act.put, List.setIfInBounds_toArray, List.set_cons_zero, List.set_cons_succ]
  refine wpAnyH_take (i := 8) (oi := { dst := some 10, op := Op.fieldAddr 235 (Operand.tmp 9) 1, type := 0, pos := "store.go:138", after := #[{ on := 7, ground := Ground.data }, { on := 0, ground := Ground.phase }, { on := 1, ground := Ground.phase }, { on := 2, ground := Ground.phase }, { on := 3, ground := Ground.phase }, { on := 4, ground := Ground.phase }, { on := 5, ground := Ground.phase }, { on := 6, ground := Ground.phase }], guard := none }) (v := .pointer (some ⟨e.p, 1, none⟩)) rfl (by kernel_rfl) (by kernel_rfl) (by kernel_rfl) (fun _ _ _ h => h) (Or.inl ⟨by kernel_rfl, fun W hW => by kernel_rfl⟩) hHeld ?_
  simp only [Act.put, List.setIfInBounds_toArray, List.set_cons_zero, List.set_cons_succ]
  refine wpAnyH_ready (rs := [9]) (by kernel_rfl) (by simp) ?_
  refine AllReadyH.cons (o := { dst := none, op := Op.store 233 (Operand.tmp 10) (Operand.const (Value.slice none 0 0)), type := 0, pos := "store.go:138", after := #[{ on := 8, ground := Ground.data }, { on := 0, ground := Ground.phase }, { on := 1, ground := Ground.phase }, { on := 2, ground := Ground.phase }, { on := 3, ground := Ground.phase }, { on := 4, ground := Ground.phase }, { on := 5, ground := Ground.phase }, { on := 6, ground := Ground.phase }], guard := none }) rfl (fun K hK => ?_) AllReadyH.nil
  refine ite_wanted ?_ ?_
  · kernel_rfl
  refine wp_store_cell233 (.tmp 10) (.const (.slice none 0 0)) rfl ⟨e.p, 1, none⟩ ?_ none 0 0 ?_ _ hp1 hpf ?_
  · kernel_rfl
  · kernel_rfl
  simp only [Act.put]
  refine hK.out _ _ (unhide HD2) (fun hHeld9 => ?_)
  clear hK K
  try simp only [Act.put, List.setIfInBounds_toArray, List.set_cons_zero, List.set_cons_succ]
  refine wpAnyH_done (by kernel_rfl) ?_ _
  go_wp2_with fail
  refine end0 rfl rfl ?_
  exact unhide HEND
end Go.Proofs.YtlbacbcenejngaaGreatDoor
namespace Go.Proofs.YtlbacbcenejngaaGreatDoor
open Go.RowKit Go.MapKept
def Sto.put (S : Sto) (q : Rq) : Oc := match lk q.path S.paths with
  | some p => if 20 < p.next then ⟨5, .empty, none⟩ else ⟨0, bs [UInt8.ofNat p.next], some .put⟩
  | none => if 16 ≤ S.paths.length then ⟨5, .empty, none⟩ else ⟨0, bs [1], some .put⟩
def SQ (w : World) (sp pb : Nat) (n : ByteArray) (P : Option Addr) (b0 : Bool) (W : World) : Prop := W.cell? ⟨w.heap.size, 0, none⟩ = some (.pointer (some ⟨sp, 0, none⟩)) ∧ W.cell? ⟨sp, 2, none⟩ = some (.map (some pb)) ∧ W.cell? ⟨w.heap.size + 1, 2, none⟩ = some (.string n) ∧ (Instr.lookup 166 (.map (some pb)) (.string n) true).run Tryz.prog W = .ok (.tuple #[.pointer P, .bool b0]) W
theorem sq_cells (B : Nat) (w : World) (sp tb pb : Nat) (L : PL) (S : Sto) (q : Rq) (h : StoAt B w sp tb pb L S) (W : World) (hW : W3 w sp q W) : W.cell? ⟨w.heap.size, 0, none⟩ = some (.pointer (some ⟨sp, 0, none⟩)) ∧ W.cell? ⟨sp, 2, none⟩ = some (.map (some pb)) ∧ W.cell? ⟨w.heap.size + 1, 2, none⟩ = some (.string q.path) := by
  refine ⟨by rw [cell_of_row _ _ _ _ _ _ hW.s]; rfl, ?_, by rw [hW.q.c 2]; rfl⟩
  have hs := h.kept hW.kept
  rw [cell_of_row _ _ _ _ _ _ hs.at']; rfl
theorem sq_yes (B : Nat) (w : World) (sp tb pb : Nat) (L : PL) (S : Sto) (q : Rq) (h : StoAt B w sp tb pb L S) {P : Option Addr} (hl : lk q.path L.ptrs = some (.pointer P)) (W : World) (hW : W3 w sp q W) : SQ w sp pb q.path P true W := by
  have hc := sq_cells B w sp tb pb L S q h W hW
  exact ⟨hc.1, hc.2.1, hc.2.2, run_look kkStr und166 (h.kept hW.kept).paths q.path hl true⟩
theorem sq_no (B : Nat) (w : World) (sp tb pb : Nat) (L : PL) (S : Sto) (q : Rq) (h : StoAt B w sp tb pb L S) (hl : lk q.path L.ptrs = none) (W : World) (hW : W3 w sp q W) : SQ w sp pb q.path none false W := by
  have hc := sq_cells B w sp tb pb L S q h W hW
  exact ⟨hc.1, hc.2.1, hc.2.2, run_look0 kkStr und166 (h.kept hW.kept).paths q.path (zero231 W) hl true⟩
/-- With the variable p. -/
structure W4 (w : World) (sp : Nat) (q : Rq) (P : Option Addr) (wi : World) : Prop where
  w3 : W3 w sp q wi
  p : wi.heap[w.heap.size + 3]? = some (.cells #[.pointer P] 231 (0, 0))
theorem W4.size {w wi : World} {sp : Nat} {q : Rq} {P : Option Addr} (h : W4 w sp q P wi) : w.heap.size + 4 ≤ wi.heap.size := (Array.getElem?_eq_some_iff.1 h.p).1
theorem W4.next {w wi w' : World} {sp : Nat} {q : Rq} {P : Option Addr} (h : W4 w sp q P wi) (hk : Kept (w.heap.size + 4) wi w') : W4 w sp q P w' :=
  ⟨h.w3.next (hk.mono (by omega)), (hk.block _ (by omega)).trans h.p⟩
theorem wp_store_cell231 {w : World} {o : Oper} {a : Act} {K : Act → World → Prop} {Q : Exit → Act → World → Prop} (x y : Operand) (ho : o.op = .store 231 x y) (p : Addr) (hx : a.eval x = .pointer (some p)) (z : Option Addr) (hy : a.eval y = .pointer z) (u : Value) (hc : w.cell? p = some u) (hf : w.frozen? p = false) (h : K (a.put o.dst undef) (w.setCell p (.pointer z))) : o.wp Tryz.prog a w K Q := by
  have hu := Tryz.underlying231
  unfold Oper.wp execOp
  simp only [ho, hx, hy]
  go_simp
  exact h
/-- The end of a put that is let. -/
theorem put_end {B : Nat} {w wi w6 : World} {sp pp : Nat} {L : PL} {S : Sto} {q : Rq} {more : ByteArray} (h : W4 w sp q (some ⟨pp, 0, none⟩) wi) (ho : S.put q = ⟨0, more, some .put⟩)
    (hp : Put (w.heap.size + 2) (ocells 0 more (.func (.func 168) #[] #[.pointer (some ⟨w.heap.size + 3, 0, none⟩), .pointer (some ⟨w.heap.size, 0, none⟩), .pointer (some ⟨w.heap.size + 1, 0, none⟩)])) 86 wi w6)
    (hc : (∃ i, ∃ hi : i < L.length, L[i].1 = q.path ∧ (∀ j (hj : j < i), L[j].1 ≠ q.path) ∧ pp = L[i].2.p) ∨ (lk q.path L.vals = none ∧ lk q.path L.ptrs = none ∧ PP B ⟨1, []⟩ wi pp (.slice none 0 0) ∧ w.heap.size ≤ pp ∧ pp ≠ w.heap.size + 2)) :
    ocEnd B w sp L q (S.put q) (.returned (.agg (ocells 0 more (.func (.func 168) #[] #[.pointer (some ⟨w.heap.size + 3, 0, none⟩), .pointer (some ⟨w.heap.size, 0, none⟩), .pointer (some ⟨w.heap.size + 1, 0, none⟩)])))) w6 := by
  have hfin := h.w3.put hp
  rw [ho]
  refine ⟨⟨_, rfl, w.heap.size, w.heap.size + 1, w.heap.size + 3, pp, rfl, hfin.1, (hp.other _ (by omega)).trans h.p, by omega, ?_⟩, hfin.2⟩
  rcases hc with hc | ⟨h1, h2, h3, h4, h5⟩
  · exact .inl hc
  · refine .inr ⟨h1, h2, ⟨(hp.other _ h5).trans h3.1, World.ownsRow_nil _ _ _ _, h3.2.2⟩, h4⟩
set_option maxRecDepth 100000 in
set_option maxHeartbeats 2000000 in
theorem put_go (B : Nat) (w : World) (sp tb pb : Nat) (L : PL) (S : Sto) (q : Rq) (h : StoAt B w sp tb pb L S) (hB : B ≤ w.heap.size) (hx : ∀ p, lk q.path S.paths = some p → p.next ≤ 21) :
    Calls Tryz.prog 140 #[.pointer (some ⟨sp, 0, none⟩), .agg q.cells] w (ocEnd B w sp L q (S.put q)) := by
  have hmf : ∀ (fn : Fn) (first cap : Array Value) (w : World), (Instr.makeFunc fn first cap).run Tryz.prog w = .ok (.func fn first cap) w := fun _ _ _ _ => rfl
  have H0 := hide (w3_start w sp q)
  have hz1 : (w3 w sp q).heap.size = w.heap.size + 3 := by simp [w3]
  rcases PL.find (L := L) (n := q.path) with ⟨h1, h2⟩ | ⟨i, hi, hn, hbf, h1, h2⟩
  · have HSQ := hide (sq_no B w sp tb pb L S q h h1)
    have HS := hide h
    have HH := hide (And.intro h1 h2)
    have HL2 := hide (show lk q.path S.paths = none by rw [h.vals]; exact h2)
    have hplen : S.paths.length = L.ptrs.length := by rw [h.vals]; simp [PL.vals, PL.ptrs]
    clear h h1 h2
    go_enter Tryz.func140, Tryz.ntmps140
    go_wp2_with fail
    change Code.wp _ _ _ _ (w3 w sp q)
    generalize w3 w sp q = w1 at H0 hz1 ⊢
    refine wp_region_held_drew (S := SQ w sp pb q.path none false) (by kernel_rfl) (unhide HSQ w1.drew ⟨(unhide H0).s, (unhide H0).q, (unhide H0).o, ⟨(unhide H0).kept.os, (unhide H0).kept.output, (unhide H0).kept.size, (unhide H0).kept.block⟩⟩) (fun hHeld => ?_)
    refine wpAnyH_take (i := 0) (oi := { dst := some 8, op := Op.load 76 (Operand.tmp 2), type := 76, pos := "store.go:106", after := #[], guard := none }) (v := .pointer (some ⟨sp, 0, none⟩)) rfl (by kernel_rfl) (by kernel_rfl) (by kernel_rfl) (fun _ _ _ h => h) (Or.inl ⟨by kernel_rfl, fun W hW => by simp [execOp, go_sem, hW.1]⟩) hHeld ?_
    simp only [Act.put, List.setIfInBounds_toArray, List.set_cons_zero, List.set_cons_succ]
    refine wpAnyH_take (i := 1) (oi := { dst := some 9, op := Op.nilCheck (Operand.tmp 8), type := 0, pos := "store.go:106", after := #[{ on := 0, ground := Ground.data }], guard := none }) (v := .pointer (some ⟨sp, 0, none⟩)) rfl (by kernel_rfl) (by kernel_rfl) (by kernel_rfl) (fun _ _ _ h => h) (Or.inl ⟨by kernel_rfl, fun W hW => by kernel_rfl⟩) hHeld ?_
    simp only [Act.put, List.setIfInBounds_toArray, List.set_cons_zero, List.set_cons_succ]
    refine wpAnyH_take (i := 2) (oi := { dst := some 10, op := Op.fieldAddr 168 (Operand.tmp 9) 2, type := 0, pos := "store.go:106", after := #[{ on := 1, ground := Ground.data }], guard := none }) (v := .pointer (some ⟨sp, 2, none⟩)) rfl (by kernel_rfl) (by kernel_rfl) (by kernel_rfl) (fun _ _ _ h => h) (Or.inl ⟨by kernel_rfl, fun W hW => by kernel_rfl⟩) hHeld ?_
    simp only [Act.put, List.setIfInBounds_toArray, List.set_cons_zero, List.set_cons_succ]
    refine wpAnyH_take (i := 3) (oi := { dst := some 11, op := Op.load 166 (Operand.tmp 10), type := 166, pos := "store.go:106", after := #[{ on := 2, ground := Ground.data }], guard := none }) (v := .map (some pb)) rfl (by kernel_rfl) (by kernel_rfl) (by kernel_rfl) (fun _ _ _ h => h) (Or.inl ⟨by kernel_rfl, fun W hW => by simp [execOp, go_sem, hW.2.1]⟩) hHeld ?_
    simp only [Act.put, List.setIfInBounds_toArray, List.set_cons_zero, List.set_cons_succ]
    refine wpAnyH_take (i := 4) (oi := { dst := some 12, op := Op.fieldAddr 84 (Operand.tmp 3) 2, type := 0, pos := "store.go:106", after := #[], guard := none }) (v := .pointer (some ⟨w.heap.size + 1, 2, none⟩)) rfl (by kernel_rfl) (by kernel_rfl) (by kernel_rfl) (fun _ _ _ h => h) (Or.inl ⟨by kernel_rfl, fun W hW => by kernel_rfl⟩) hHeld ?_
    simp only [Act.put, List.setIfInBounds_toArray, List.set_cons_zero, List.set_cons_succ]
    refine wpAnyH_take (i := 5) (oi := { dst := some 13, op := Op.load 9 (Operand.tmp 12), type := 9, pos := "store.go:106", after := #[{ on := 4, ground := Ground.data }], guard := none }) (v := .string q.path) rfl (by kernel_rfl) (by kernel_rfl) (by kernel_rfl) (fun _ _ _ h => h) (Or.inl ⟨by kernel_rfl, fun W hW => by simp [execOp, go_sem, hW.2.2.1]⟩) hHeld ?_
    simp only [Act.put, List.setIfInBounds_toArray, List.set_cons_zero, List.set_cons_succ]
    refine wpAnyH_take (i := 6) (oi := { dst := some 14, op := Op.lookup 166 (Operand.tmp 11) (Operand.tmp 13) true, type := 232, pos := "store.go:106", after := #[{ on := 3, ground := Ground.data }, { on := 5, ground := Ground.data }], guard := none }) (v := .tuple #[.pointer none, .bool false]) rfl (by kernel_rfl) (by kernel_rfl) (by kernel_rfl) (fun _ _ _ h => h) (Or.inl ⟨by kernel_rfl, fun W hW => by simp [execOp, go_sem, hW.2.2.2]⟩) hHeld ?_
    simp only [Act.put, List.setIfInBounds_toArray, List.set_cons_zero, List.set_cons_succ]
    refine wpAnyH_take (i := 7) (oi := { dst := some 7, op := Op.move (Operand.tmp 14), type := 232, pos := "store.go:106", after := #[{ on := 6, ground := Ground.data }], guard := none }) (v := .tuple #[.pointer none, .bool false]) rfl (by kernel_rfl) (by kernel_rfl) (by kernel_rfl) (fun _ _ _ h => h) (Or.inl ⟨by kernel_rfl, fun W hW => by kernel_rfl⟩) hHeld ?_
    simp only [Act.put, List.setIfInBounds_toArray, List.set_cons_zero, List.set_cons_succ]
    refine wpAnyH_take (i := 8) (oi := { dst := some 15, op := Op.extract (Operand.tmp 7) 0, type := 231, pos := "store.go:106", after := #[{ on := 7, ground := Ground.data }], guard := none }) (v := .pointer none) rfl (by kernel_rfl) (by kernel_rfl) (by kernel_rfl) (fun _ _ _ h => h) (Or.inl ⟨by kernel_rfl, fun W hW => by kernel_rfl⟩) hHeld ?_
    simp only [Act.put, List.setIfInBounds_toArray, List.set_cons_zero, List.set_cons_succ]
    refine wpAnyH_take (i := 9) (oi := { dst := some 16, op := Op.extract (Operand.tmp 7) 1, type := 4, pos := "store.go:106", after := #[{ on := 7, ground := Ground.data }, { on := 11, ground := Ground.gcOnly Departure.lateStores }], guard := none }) (v := .bool false) rfl (by kernel_rfl) (by kernel_rfl) (by kernel_rfl) (fun _ _ _ h => h) (Or.inl ⟨by kernel_rfl, fun W hW => by kernel_rfl⟩) hHeld ?_
    simp only [Act.put, List.setIfInBounds_toArray, List.set_cons_zero, List.set_cons_succ]
    refine wpAnyH_ready (rs := [10]) (by kernel_rfl) (by simp) ?_
    refine AllReadyH.cons (o := { dst := some 5, op := Op.alloc 231, type := 0, pos := "store.go:106", after := #[], guard := none }) rfl (fun K hK => ?_) AllReadyH.nil
    refine ite_wanted ?_ ?_
    · kernel_rfl
    go_simp
    have HW2 := hide ((unhide H0).drewAlloc (.cells #[.pointer none] 231))
    have hr2 : (w1.alloc (.cells #[.pointer none] 231)).drew.heap[w.heap.size + 3]? = some (.cells #[.pointer none] 231 (0, 0)) := by rw [← hz1]; exact heap_alloc_new w1 _
    try rw [hz1]
    generalize (w1.alloc (.cells #[.pointer none] 231)).drew = w2 at HW2 hr2 hK ⊢
    show K _ w2
    refine hK.out _ _ (unhide HSQ w2 (unhide HW2)) (fun hHeld10 => ?_)
    clear hK K
    try simp only [Act.put, List.setIfInBounds_toArray, List.set_cons_zero, List.set_cons_succ]
    refine wpAnyH_ready (rs := [11]) (by kernel_rfl) (by simp) ?_
    refine AllReadyH.cons (o := { dst := none, op := Op.store 231 (Operand.tmp 5) (Operand.tmp 15), type := 0, pos := "store.go:106", after := #[{ on := 10, ground := Ground.data }, { on := 8, ground := Ground.data }, { on := 0, ground := Ground.phase }, { on := 1, ground := Ground.phase }, { on := 2, ground := Ground.phase }, { on := 3, ground := Ground.phase }, { on := 4, ground := Ground.phase }, { on := 5, ground := Ground.phase }, { on := 6, ground := Ground.phase }, { on := 7, ground := Ground.phase }, { on := 8, ground := Ground.phase }, { on := 9, ground := Ground.textOnly Departure.lateStores }, { on := 10, ground := Ground.phase }], guard := none }) rfl (fun K hK => ?_) AllReadyH.nil
    refine ite_wanted ?_ ?_
    · kernel_rfl
    refine wp_store_cell231 (.tmp 5) (.tmp 15) rfl ⟨w.heap.size + 3, 0, none⟩ ?_ (none) ?_ (.pointer none) (by rw [cell_of_row _ _ _ _ _ _ hr2]; rfl) (frozen_of_row _ _ 0 _ _ hr2) ?_
    · kernel_rfl
    · kernel_rfl
    simp only [Act.put]
    have HW4 := hide (show W4 w sp q (none) (w2.setCell ⟨w.heap.size + 3, 0, none⟩ (.pointer none)) from ⟨(unhide HW2).next ((Kept.refl _ _).setCell (p := ⟨w.heap.size + 3, 0, none⟩) (Nat.le_refl _) _), by rw [heap_setCell_same _ _ _ _ _ _ hr2]; rfl⟩)
    generalize w2.setCell ⟨w.heap.size + 3, 0, none⟩ (.pointer none) = w4 at HW4 hK ⊢
    show K _ w4
    refine hK.out _ _ (unhide HSQ w4 (unhide HW4).w3) (fun hHeld11 => ?_)
    clear hK K
    try simp only [Act.put, List.setIfInBounds_toArray, List.set_cons_zero, List.set_cons_succ]
    refine wpAnyH_take (i := 12) (oi := { dst := some 6, op := Op.assign (Operand.tmp 16), type := 4, pos := "store.go:106", after := #[{ on := 9, ground := Ground.data }, { on := 11, ground := Ground.chain }, { on := 0, ground := Ground.phase }, { on := 1, ground := Ground.phase }, { on := 2, ground := Ground.phase }, { on := 3, ground := Ground.phase }, { on := 4, ground := Ground.phase }, { on := 5, ground := Ground.phase }, { on := 6, ground := Ground.phase }, { on := 7, ground := Ground.phase }, { on := 8, ground := Ground.phase }, { on := 9, ground := Ground.phase }, { on := 10, ground := Ground.phase }, { on := 11, ground := Ground.phase }], guard := none }) (v := .bool false) rfl (by kernel_rfl) (by kernel_rfl) (by kernel_rfl) (fun _ _ _ h => h) (Or.inl ⟨by kernel_rfl, fun W hW => by kernel_rfl⟩) hHeld11 ?_
    simp only [Act.put, List.setIfInBounds_toArray, List.set_cons_zero, List.set_cons_succ]
    refine wpAnyH_done (by kernel_rfl) ?_ _
    clear hHeld hHeld10 hHeld11
    have hst := (unhide HS).kept (unhide HW4).w3.kept
    have hc1 : w4.cell? ⟨w.heap.size, 0, none⟩ = some (.pointer (some ⟨sp, 0, none⟩)) := by rw [cell_of_row _ _ _ _ _ _ (unhide HW4).w3.s]; rfl
    have hc2 : w4.cell? ⟨sp, 2, none⟩ = some (.map (some pb)) := by rw [cell_of_row _ _ _ _ _ _ hst.at']; rfl
    have hlen : (Builtin.len_ #[166] 3 #[.map (some pb)]).run Tryz.prog w4 = .ok (.int .i64 (S.paths.length : Int)) w4 := by rw [hplen]; exact run_mlen (ty := 3) und166 hst.paths
    clear hst hplen
    by_cases h16 : 16 ≤ S.paths.length
    · have h16I : (16 : Int) ≤ (S.paths.length : Int) := by omega
      have HO := hide (show S.put q = ⟨5, .empty, none⟩ by rw [Sto.put, unhide HL2]; exact if_pos h16)
      have HWL := HW4
      go_wp2_with fail
      refine (refused_go 5 w4).mono ?_
      rintro _ w5 ⟨rfl, hk5⟩
      have HW5 := hide ((unhide HWL).next (hk5.mono (unhide HWL).size))
      clear hk5
      go_wp2_with (refine wpList_store_put rfl 86 (.tmp 4) (.tmp 27) rfl (w.heap.size + 2) (ocells 5 .empty .nilFunc) ?_ ?_ 86 (ocells 0 .empty .nilFunc) ?_ info86 rfl (oc_one _ _ rfl) ?_
                   · rfl
                   · rfl
                   · exact (unhide HW5).w3.o
                   intro w6 hp6)
      have hfin := (unhide HW5).w3.put hp6
      exact oc_ret Tryz.results140 hp6.row (by rw [unhide HO]; exact ⟨⟨_, rfl, rfl⟩, hfin.2⟩)
    · have h16I : ¬ (16 : Int) ≤ (S.paths.length : Int) := by omega
      have HO := hide (show S.put q = ⟨0, bs [1], some .put⟩ by rw [Sto.put, unhide HL2]; exact if_neg h16)
      have hc4 : w4.cell? ⟨w.heap.size + 3, 0, none⟩ = some (.pointer none) := by rw [cell_of_row _ _ _ _ _ _ (unhide HW4).p]; rfl
      have hf4 := frozen_of_row _ _ 0 _ _ (unhide HW4).p
      have hlt4 := (unhide HW4).size
      have HW5 := hide (show W4 w sp q (some ⟨w4.heap.size, 0, none⟩) ((w4.alloc (.cells #[.int .u8 1, .slice none 0 0] 235)).setCell ⟨w.heap.size + 3, 0, none⟩ (.pointer (some ⟨w4.heap.size, 0, none⟩))) ∧ PP B ⟨1, []⟩ ((w4.alloc (.cells #[.int .u8 1, .slice none 0 0] 235)).setCell ⟨w.heap.size + 3, 0, none⟩ (.pointer (some ⟨w4.heap.size, 0, none⟩))) w4.heap.size (.slice none 0 0) from by
        have ha := (unhide HW4).next ((Kept.refl _ w4).alloc hlt4 (.cells #[.int .u8 1, .slice none 0 0] 235))
        refine ⟨⟨ha.w3.next ((Kept.refl _ _).setCell (p := ⟨w.heap.size + 3, 0, none⟩) (Nat.le_refl _) _), by rw [heap_setCell_same _ _ _ _ _ _ ha.p]; rfl⟩, ?_, World.ownsRow_nil _ _ _ _, by have := (unhide HW4).w3.kept.size; omega⟩
        rw [heap_setCell_other _ _ _ _ (by simp; omega)]
        exact heap_alloc_new _ _)
      have hA := (unhide HW4).next ((Kept.refl _ w4).alloc hlt4 (.cells #[.int .u8 1, .slice none 0 0] 235))
      have hcA : (w4.alloc (.cells #[.int .u8 1, .slice none 0 0] 235)).cell? ⟨w.heap.size + 3, 0, none⟩ = some (.pointer none) := by rw [cell_of_row _ _ _ _ _ _ hA.p]; rfl
      have hfA := frozen_of_row _ _ 0 _ _ hA.p
      clear hA
      have hc5 : ((w4.alloc (.cells #[.int .u8 1, .slice none 0 0] 235)).setCell ⟨w.heap.size + 3, 0, none⟩ (.pointer (some ⟨w4.heap.size, 0, none⟩))).cell? ⟨w.heap.size + 3, 0, none⟩ = some (.pointer (some ⟨w4.heap.size, 0, none⟩)) := by rw [cell_of_row _ _ _ _ _ _ (unhide HW5).1.p]; rfl
      have hc6 : ((w4.alloc (.cells #[.int .u8 1, .slice none 0 0] 235)).setCell ⟨w.heap.size + 3, 0, none⟩ (.pointer (some ⟨w4.heap.size, 0, none⟩))).cell? ⟨w4.heap.size, 0, none⟩ = some (.int .u8 1) := by rw [cell_of_row _ _ _ _ _ _ (unhide HW5).2.1]; rfl
      go_wp2_with fail
      refine (packByte_go' 1 1 rfl _).mono ?_
      rintro _ w7 ⟨rfl, hb7⟩
      have HW7 := hide (show W4 w sp q (some ⟨w4.heap.size, 0, none⟩) w7 ∧ PP B ⟨1, []⟩ w7 w4.heap.size (.slice none 0 0) from ⟨(unhide HW5).1.next ((Kept.of hb7).mono (unhide HW5).1.size), (hb7.block _ ((wayP B).ty (unhide HW5).2).lt).trans (unhide HW5).2.1, World.ownsRow_nil _ _ _ _, (unhide HW5).2.2.2⟩)
      clear hb7 hc5 hc6
      go_wp2_with (refine wpList_store_put rfl 86 (.tmp 4) (.tmp 44) rfl (w.heap.size + 2) (ocells 0 (bs [1]) (.func (.func 168) #[] #[.pointer (some ⟨w.heap.size + 3, 0, none⟩), .pointer (some ⟨w.heap.size, 0, none⟩), .pointer (some ⟨w.heap.size + 1, 0, none⟩)])) ?_ ?_ 86 (ocells 0 .empty .nilFunc) ?_ info86 rfl (oc_one _ _ rfl) ?_
                   · rfl
                   · rfl
                   · exact (unhide HW7).1.w3.o
                   intro w6 hp6)
      exact oc_ret Tryz.results140 hp6.row (put_end (unhide HW7).1 (unhide HO) hp6 (.inr ⟨(unhide HH).2, (unhide HH).1, (unhide HW7).2, by have := (unhide HW4).w3.kept.size; omega, by omega⟩))
  · have HSQ := hide (sq_yes B w sp tb pb L S q h h1)
    have hmem : L[i].2 ∈ L.locs := List.mem_map.2 ⟨L[i], List.getElem_mem hi, rfl⟩
    have HP := hide (h.fam.each _ hmem)
    have hnx := hx L[i].2.x (by rw [h.vals]; exact h2)
    have HL2 := hide (show lk q.path S.paths = some L[i].2.x by rw [h.vals]; exact h2)
    have HC := hide (show ∃ i', ∃ hi' : i' < L.length, L[i'].1 = q.path ∧ (∀ j (hj : j < i'), L[j].1 ≠ q.path) ∧ L[i].2.p = L[i'].2.p from ⟨i, hi, hn, hbf, rfl⟩)
    clear h h1 h2 hn hbf hx hmem
    generalize L[i].2 = e at *
    go_enter Tryz.func140, Tryz.ntmps140
    go_wp2_with fail
    change Code.wp _ _ _ _ (w3 w sp q)
    generalize w3 w sp q = w1 at H0 hz1 ⊢
    refine wp_region_held_drew (S := SQ w sp pb q.path (some ⟨e.p, 0, none⟩) true) (by kernel_rfl) (unhide HSQ w1.drew ⟨(unhide H0).s, (unhide H0).q, (unhide H0).o, ⟨(unhide H0).kept.os, (unhide H0).kept.output, (unhide H0).kept.size, (unhide H0).kept.block⟩⟩) (fun hHeld => ?_)
    refine wpAnyH_take (i := 0) (oi := { dst := some 8, op := Op.load 76 (Operand.tmp 2), type := 76, pos := "store.go:106", after := #[], guard := none }) (v := .pointer (some ⟨sp, 0, none⟩)) rfl (by kernel_rfl) (by kernel_rfl) (by kernel_rfl) (fun _ _ _ h => h) (Or.inl ⟨by kernel_rfl, fun W hW => by simp [execOp, go_sem, hW.1]⟩) hHeld ?_
    simp only [Act.put, List.setIfInBounds_toArray, List.set_cons_zero, List.set_cons_succ]
    refine wpAnyH_take (i := 1) (oi := { dst := some 9, op := Op.nilCheck (Operand.tmp 8), type := 0, pos := "store.go:106", after := #[{ on := 0, ground := Ground.data }], guard := none }) (v := .pointer (some ⟨sp, 0, none⟩)) rfl (by kernel_rfl) (by kernel_rfl) (by kernel_rfl) (fun _ _ _ h => h) (Or.inl ⟨by kernel_rfl, fun W hW => by kernel_rfl⟩) hHeld ?_
    simp only [Act.put, List.setIfInBounds_toArray, List.set_cons_zero, List.set_cons_succ]
    refine wpAnyH_take (i := 2) (oi := { dst := some 10, op := Op.fieldAddr 168 (Operand.tmp 9) 2, type := 0, pos := "store.go:106", after := #[{ on := 1, ground := Ground.data }], guard := none }) (v := .pointer (some ⟨sp, 2, none⟩)) rfl (by kernel_rfl) (by kernel_rfl) (by kernel_rfl) (fun _ _ _ h => h) (Or.inl ⟨by kernel_rfl, fun W hW => by kernel_rfl⟩) hHeld ?_
    simp only [Act.put, List.setIfInBounds_toArray, List.set_cons_zero, List.set_cons_succ]
    refine wpAnyH_take (i := 3) (oi := { dst := some 11, op := Op.load 166 (Operand.tmp 10), type := 166, pos := "store.go:106", after := #[{ on := 2, ground := Ground.data }], guard := none }) (v := .map (some pb)) rfl (by kernel_rfl) (by kernel_rfl) (by kernel_rfl) (fun _ _ _ h => h) (Or.inl ⟨by kernel_rfl, fun W hW => by simp [execOp, go_sem, hW.2.1]⟩) hHeld ?_
    simp only [Act.put, List.setIfInBounds_toArray, List.set_cons_zero, List.set_cons_succ]
    refine wpAnyH_take (i := 4) (oi := { dst := some 12, op := Op.fieldAddr 84 (Operand.tmp 3) 2, type := 0, pos := "store.go:106", after := #[], guard := none }) (v := .pointer (some ⟨w.heap.size + 1, 2, none⟩)) rfl (by kernel_rfl) (by kernel_rfl) (by kernel_rfl) (fun _ _ _ h => h) (Or.inl ⟨by kernel_rfl, fun W hW => by kernel_rfl⟩) hHeld ?_
    simp only [Act.put, List.setIfInBounds_toArray, List.set_cons_zero, List.set_cons_succ]
    refine wpAnyH_take (i := 5) (oi := { dst := some 13, op := Op.load 9 (Operand.tmp 12), type := 9, pos := "store.go:106", after := #[{ on := 4, ground := Ground.data }], guard := none }) (v := .string q.path) rfl (by kernel_rfl) (by kernel_rfl) (by kernel_rfl) (fun _ _ _ h => h) (Or.inl ⟨by kernel_rfl, fun W hW => by simp [execOp, go_sem, hW.2.2.1]⟩) hHeld ?_
    simp only [Act.put, List.setIfInBounds_toArray, List.set_cons_zero, List.set_cons_succ]
    refine wpAnyH_take (i := 6) (oi := { dst := some 14, op := Op.lookup 166 (Operand.tmp 11) (Operand.tmp 13) true, type := 232, pos := "store.go:106", after := #[{ on := 3, ground := Ground.data }, { on := 5, ground := Ground.data }], guard := none }) (v := .tuple #[.pointer (some ⟨e.p, 0, none⟩), .bool true]) rfl (by kernel_rfl) (by kernel_rfl) (by kernel_rfl) (fun _ _ _ h => h) (Or.inl ⟨by kernel_rfl, fun W hW => by simp [execOp, go_sem, hW.2.2.2]⟩) hHeld ?_
    simp only [Act.put, List.setIfInBounds_toArray, List.set_cons_zero, List.set_cons_succ]
    refine wpAnyH_take (i := 7) (oi := { dst := some 7, op := Op.move (Operand.tmp 14), type := 232, pos := "store.go:106", after := #[{ on := 6, ground := Ground.data }], guard := none }) (v := .tuple #[.pointer (some ⟨e.p, 0, none⟩), .bool true]) rfl (by kernel_rfl) (by kernel_rfl) (by kernel_rfl) (fun _ _ _ h => h) (Or.inl ⟨by kernel_rfl, fun W hW => by kernel_rfl⟩) hHeld ?_
    simp only [Act.put, List.setIfInBounds_toArray, List.set_cons_zero, List.set_cons_succ]
    refine wpAnyH_take (i := 8) (oi := { dst := some 15, op := Op.extract (Operand.tmp 7) 0, type := 231, pos := "store.go:106", after := #[{ on := 7, ground := Ground.data }], guard := none }) (v := .pointer (some ⟨e.p, 0, none⟩)) rfl (by kernel_rfl) (by kernel_rfl) (by kernel_rfl) (fun _ _ _ h => h) (Or.inl ⟨by kernel_rfl, fun W hW => by kernel_rfl⟩) hHeld ?_
    simp only [Act.put, List.setIfInBounds_toArray, List.set_cons_zero, List.set_cons_succ]
    refine wpAnyH_take (i := 9) (oi := { dst := some 16, op := Op.extract (Operand.tmp 7) 1, type := 4, pos := "store.go:106", after := #[{ on := 7, ground := Ground.data }, { on := 11, ground := Ground.gcOnly Departure.lateStores }], guard := none }) (v := .bool true) rfl (by kernel_rfl) (by kernel_rfl) (by kernel_rfl) (fun _ _ _ h => h) (Or.inl ⟨by kernel_rfl, fun W hW => by kernel_rfl⟩) hHeld ?_
    simp only [Act.put, List.setIfInBounds_toArray, List.set_cons_zero, List.set_cons_succ]
    refine wpAnyH_ready (rs := [10]) (by kernel_rfl) (by simp) ?_
    refine AllReadyH.cons (o := { dst := some 5, op := Op.alloc 231, type := 0, pos := "store.go:106", after := #[], guard := none }) rfl (fun K hK => ?_) AllReadyH.nil
    refine ite_wanted ?_ ?_
    · kernel_rfl
    go_simp
    have HW2 := hide ((unhide H0).drewAlloc (.cells #[.pointer none] 231))
    have hr2 : (w1.alloc (.cells #[.pointer none] 231)).drew.heap[w.heap.size + 3]? = some (.cells #[.pointer none] 231 (0, 0)) := by rw [← hz1]; exact heap_alloc_new w1 _
    try rw [hz1]
    generalize (w1.alloc (.cells #[.pointer none] 231)).drew = w2 at HW2 hr2 hK ⊢
    show K _ w2
    refine hK.out _ _ (unhide HSQ w2 (unhide HW2)) (fun hHeld10 => ?_)
    clear hK K
    try simp only [Act.put, List.setIfInBounds_toArray, List.set_cons_zero, List.set_cons_succ]
    refine wpAnyH_ready (rs := [11]) (by kernel_rfl) (by simp) ?_
    refine AllReadyH.cons (o := { dst := none, op := Op.store 231 (Operand.tmp 5) (Operand.tmp 15), type := 0, pos := "store.go:106", after := #[{ on := 10, ground := Ground.data }, { on := 8, ground := Ground.data }, { on := 0, ground := Ground.phase }, { on := 1, ground := Ground.phase }, { on := 2, ground := Ground.phase }, { on := 3, ground := Ground.phase }, { on := 4, ground := Ground.phase }, { on := 5, ground := Ground.phase }, { on := 6, ground := Ground.phase }, { on := 7, ground := Ground.phase }, { on := 8, ground := Ground.phase }, { on := 9, ground := Ground.textOnly Departure.lateStores }, { on := 10, ground := Ground.phase }], guard := none }) rfl (fun K hK => ?_) AllReadyH.nil
    refine ite_wanted ?_ ?_
    · kernel_rfl
    refine wp_store_cell231 (.tmp 5) (.tmp 15) rfl ⟨w.heap.size + 3, 0, none⟩ ?_ ((some ⟨e.p, 0, none⟩)) ?_ (.pointer none) (by rw [cell_of_row _ _ _ _ _ _ hr2]; rfl) (frozen_of_row _ _ 0 _ _ hr2) ?_
    · kernel_rfl
    · kernel_rfl
    simp only [Act.put]
    have HW4 := hide (show W4 w sp q ((some ⟨e.p, 0, none⟩)) (w2.setCell ⟨w.heap.size + 3, 0, none⟩ (.pointer (some ⟨e.p, 0, none⟩))) from ⟨(unhide HW2).next ((Kept.refl _ _).setCell (p := ⟨w.heap.size + 3, 0, none⟩) (Nat.le_refl _) _), by rw [heap_setCell_same _ _ _ _ _ _ hr2]; rfl⟩)
    generalize w2.setCell ⟨w.heap.size + 3, 0, none⟩ (.pointer (some ⟨e.p, 0, none⟩)) = w4 at HW4 hK ⊢
    show K _ w4
    refine hK.out _ _ (unhide HSQ w4 (unhide HW4).w3) (fun hHeld11 => ?_)
    clear hK K
    try simp only [Act.put, List.setIfInBounds_toArray, List.set_cons_zero, List.set_cons_succ]
    refine wpAnyH_take (i := 12) (oi := { dst := some 6, op := Op.assign (Operand.tmp 16), type := 4, pos := "store.go:106", after := #[{ on := 9, ground := Ground.data }, { on := 11, ground := Ground.chain }, { on := 0, ground := Ground.phase }, { on := 1, ground := Ground.phase }, { on := 2, ground := Ground.phase }, { on := 3, ground := Ground.phase }, { on := 4, ground := Ground.phase }, { on := 5, ground := Ground.phase }, { on := 6, ground := Ground.phase }, { on := 7, ground := Ground.phase }, { on := 8, ground := Ground.phase }, { on := 9, ground := Ground.phase }, { on := 10, ground := Ground.phase }, { on := 11, ground := Ground.phase }], guard := none }) (v := .bool true) rfl (by kernel_rfl) (by kernel_rfl) (by kernel_rfl) (fun _ _ _ h => h) (Or.inl ⟨by kernel_rfl, fun W hW => by kernel_rfl⟩) hHeld11 ?_
    simp only [Act.put, List.setIfInBounds_toArray, List.set_cons_zero, List.set_cons_succ]
    refine wpAnyH_done (by kernel_rfl) ?_ _
    clear hHeld hHeld10 hHeld11
    have hP4 : PP B e.x w4 e.p e.v := (wayP B).stay (unhide HP) ((unhide HW4).w3.kept.block _ ((wayP B).ty (unhide HP)).lt) fun k hk => (unhide HW4).w3.kept.block _ ((wayP B).row (unhide HP) hk).1.lt
    have hc4 : w4.cell? ⟨w.heap.size + 3, 0, none⟩ = some (.pointer (some ⟨e.p, 0, none⟩)) := by rw [cell_of_row _ _ _ _ _ _ (unhide HW4).p]; rfl
    have hc5 : w4.cell? ⟨e.p, 0, none⟩ = some (.int .u8 (e.x.next : Int)) := by rw [cell_of_row _ _ _ _ _ _ hP4.1]; rfl
    clear hP4
    by_cases h20 : 20 < e.x.next
    · have h20I : (20 : Int) < (e.x.next : Int) := by omega
      have HO := hide (show S.put q = ⟨5, .empty, none⟩ by rw [Sto.put, unhide HL2]; exact if_pos h20)
      have HWL := HW4
      go_wp2_with fail
      refine (refused_go 5 w4).mono ?_
      rintro _ w5 ⟨rfl, hk5⟩
      have HW5 := hide ((unhide HWL).next (hk5.mono (unhide HWL).size))
      clear hk5
      go_wp2_with (refine wpList_store_put rfl 86 (.tmp 4) (.tmp 37) rfl (w.heap.size + 2) (ocells 5 .empty .nilFunc) ?_ ?_ 86 (ocells 0 .empty .nilFunc) ?_ info86 rfl (oc_one _ _ rfl) ?_
                   · rfl
                   · rfl
                   · exact (unhide HW5).w3.o
                   intro w6 hp6)
      have hfin := (unhide HW5).w3.put hp6
      exact oc_ret Tryz.results140 hp6.row (by rw [unhide HO]; exact ⟨⟨_, rfl, rfl⟩, hfin.2⟩)
    · have h20I : ¬ (20 : Int) < (e.x.next : Int) := by omega
      have HO := hide (show S.put q = ⟨0, bs [UInt8.ofNat e.x.next], some .put⟩ by rw [Sto.put, unhide HL2]; exact if_neg h20)
      have HPB := hide (packByte_go' (UInt8.ofNat e.x.next) (e.x.next : Int) (by rw [← byte_nat]; omega))
      go_wp2_with fail
      refine (unhide HPB w4).mono ?_
      rintro _ w7 ⟨rfl, hb7⟩
      have HW7 := hide ((unhide HW4).next ((Kept.of hb7).mono (unhide HW4).size))
      clear hb7 hc4 hc5
      go_wp2_with (refine wpList_store_put rfl 86 (.tmp 4) (.tmp 44) rfl (w.heap.size + 2) (ocells 0 (bs [UInt8.ofNat e.x.next]) (.func (.func 168) #[] #[.pointer (some ⟨w.heap.size + 3, 0, none⟩), .pointer (some ⟨w.heap.size, 0, none⟩), .pointer (some ⟨w.heap.size + 1, 0, none⟩)])) ?_ ?_ 86 (ocells 0 .empty .nilFunc) ?_ info86 rfl (oc_one _ _ rfl) ?_
                   · rfl
                   · rfl
                   · exact (unhide HW7).w3.o
                   intro w6 hp6)
      exact oc_ret Tryz.results140 hp6.row (put_end (unhide HW7) (unhide HO) hp6 (.inl (unhide HC)))
end Go.Proofs.YtlbacbcenejngaaGreatDoor
namespace Go.Proofs.YtlbacbcenejngaaGreatDoor
open Go.RowKit
theorem leN_succ (x n : Nat) : leN x (n + 1) = UInt8.ofNat x :: leN (x / 256) n := by
  unfold leN
  rw [List.range_succ_eq_map, List.map_cons, List.map_map]
  simp only [Nat.pow_zero, Nat.div_one, List.cons.injEq, true_and]
  refine List.map_congr_left fun i _ => ?_
  simp only [Function.comp]
  rw [Nat.pow_succ', Nat.div_div_eq_div_mul]
theorem numOf_leN : ∀ (n x : Nat), x < 256 ^ n → numOf (leN x n) = x
  | 0, x, h => by simp at h; subst h; rfl
  | n + 1, x, h => by
    rw [leN_succ, numOf, numOf_leN n (x / 256) (by rw [Nat.pow_succ] at h; omega)]
    have : (UInt8.ofNat x).toNat = x % 256 := by simp
    omega
/-- A frame of an entry. -/
def frOf (e : ByteArray) : ByteArray := bs (leN e.size 2) ++ e
def logOf : List ByteArray → ByteArray
  | [] => .empty
  | e :: l => frOf e ++ logOf l
theorem ba_assoc (a b c : ByteArray) : a ++ b ++ c = a ++ (b ++ c) := by
  apply Go.WideShapes.bytes_inj
  simp
theorem ba_empty (a : ByteArray) : a ++ .empty = a := by
  apply Go.WideShapes.bytes_inj
  simp
theorem logOf_app : ∀ l m : List ByteArray, logOf (l ++ m) = logOf l ++ logOf m
  | [], m => by rw [List.nil_append, logOf, empty_app]
  | e :: l, m => by rw [List.cons_append, logOf, logOf, logOf_app l m, ba_assoc]
theorem frOf_list (e : ByteArray) : (frOf e).data.toList = leN e.size 2 ++ e.data.toList := by simp [frOf, bs]
theorem frOf_size (e : ByteArray) : (frOf e).size = 2 + e.size := by rw [← size_toList, frOf_list, List.length_append, leN_length, size_toList]
theorem fits_small {e : ByteArray} (h : fitsB e = true) : 135 ≤ e.size ∧ e.size ≤ 390 := by
  simp only [fitsB, Bool.and_eq_true, decide_eq_true_eq] at h
  have := (e.data.toList.getD 69 0).toNat_lt
  omega
theorem fr_more {e r : ByteArray} (h : fitsB e = true) : frSize (frOf e ++ r) = e.size ∧ frEnt (frOf e ++ r) = e ∧ frOk (frOf e ++ r) = true ∧ lf (frOf e ++ r) (2 + e.size) = r ∧ (frOf e ++ r).size = 2 + e.size + r.size := by
  have hs := fits_small h
  have hl : (frOf e ++ r).data.toList = leN e.size 2 ++ (e.data.toList ++ r.data.toList) := by simp [frOf, bs]
  have h1 : frSize (frOf e ++ r) = e.size := by
    rw [frSize, hl, List.take_left' (leN_length _ _), numOf_leN 2 _ (by omega)]
  have hz : (frOf e ++ r).size = 2 + e.size + r.size := by rw [ByteArray.size_append, frOf_size]
  have h2 : frEnt (frOf e ++ r) = e := by
    rw [frEnt, h1]
    apply Go.WideShapes.bytes_inj
    rw [ext_list, hl, List.drop_left' (leN_length _ _), List.take_left' (by rw [size_toList]; omega)]
  refine ⟨h1, h2, ?_, ?_, hz⟩
  · rw [frOk, h1, h2, h, hz]
    simp
    omega
  · apply Go.WideShapes.bytes_inj
    rw [lf, ext_list, hl, hz, ← List.append_assoc, List.drop_left' (by rw [List.length_append, leN_length, size_toList]), List.take_of_length_le (by rw [size_toList]; omega)]
/-- Entries that follow E. -/
def chn : List ByteArray → List ByteArray → Prop
  | _, [] => True
  | E, e :: l => (bnd e E = true ∧ fitsB e = true) ∧ chn (E ++ [e]) l
theorem walk_logOf : ∀ (l E : List ByteArray), chn E l → walkF (logOf l) E = (E ++ l, 0)
  | [], E, _ => by rw [logOf, walkF_end rfl, List.append_nil]
  | e :: l, E, h => by
    obtain ⟨h1, h2, h3, h4, h5⟩ := fr_more (r := logOf l) h.1.2
    have := fits_small h.1.2
    rw [logOf, walkF, dif_neg (by omega), dif_pos h3, h2, if_pos h.1.1, h1, h4, walk_logOf l _ h.2, List.append_assoc]
    rfl
theorem chn_app : ∀ (l m E : List ByteArray), chn E (l ++ m) ↔ chn E l ∧ chn (E ++ l) m
  | [], m, E => by simp [chn]
  | e :: l, m, E => by simp only [List.cons_append, chn, chn_app l m, and_assoc, List.append_assoc, List.nil_append]
/-- What Verify tells of a log. -/
theorem ver_log {E : List ByteArray} (h : chn [] E) {n : Int} {H : List UInt8} (hn : (E.length : Int) = n) (hH : hashAt E E.length = H) : verF (logOf E) n H = 0 ∧ (walkF (logOf E) []).1 = E := by
  have := walk_logOf E [] h
  rw [List.nil_append] at this
  rw [verF, this]
  exact ⟨if_neg (by simp [hn, hH]), rfl⟩
end Go.Proofs.YtlbacbcenejngaaGreatDoor
namespace Go.Proofs.YtlbacbcenejngaaGreatDoor
open Go.RowKit
/-- The bytes of an entry. -/
def entL (last : List UInt8) (cnt : Nat) (op : UInt8) (who : List UInt8) (path : ByteArray) (rest : List UInt8) (err : Nat) (more : List UInt8) : List UInt8 :=
  last ++ (leN cnt 4 ++ (op :: (who ++ (UInt8.ofNat path.size :: (path.data.toList ++ (rest ++ (UInt8.ofNat err :: more)))))))
structure Lens (last who rest more : List UInt8) : Prop where
  l : last.length = 32
  w : who.length = 32
  r : rest.length = 32
  m : more.length = 32
theorem getD_at {a b : List UInt8} {c : UInt8} {n : Nat} (h : a.length = n) : (a ++ c :: b).getD n 0 = c := by subst h; simp
theorem entL_facts {last who rest more : List UInt8} (h : Lens last who rest more) (cnt : Nat) (op : UInt8) {path : ByteArray} (_hp : path.size ≤ 255) (err : Nat) :
    (entL last cnt op who path rest err more).length = 135 + path.size ∧ (entL last cnt op who path rest err more).getD 36 0 = op ∧ (entL last cnt op who path rest err more).getD 69 0 = UInt8.ofNat path.size ∧
    ((entL last cnt op who path rest err more).drop 70).take path.size = path.data.toList ∧ (entL last cnt op who path rest err more).getD (102 + path.size) 0 = UInt8.ofNat err ∧
    (entL last cnt op who path rest err more).take 32 = last ∧ ((entL last cnt op who path rest err more).drop 32).take 4 = leN cnt 4 := by
  have hpl := size_toList path
  refine ⟨?_, ?_, ?_, ?_, ?_, ?_, ?_⟩
  · simp only [entL, List.length_append, List.length_cons, leN_length, h.l, h.w, h.r, h.m, hpl]; omega
  · rw [entL, ← List.append_assoc]
    exact getD_at (by rw [List.length_append, leN_length, h.l])
  · rw [entL, ← List.append_assoc, List.append_cons, ← List.append_assoc]
    exact getD_at (by simp only [List.length_append, leN_length, h.l, h.w, List.length_singleton])
  · rw [entL, ← List.append_assoc, List.append_cons, ← List.append_assoc, List.append_cons, List.drop_left' (by simp only [List.length_append, leN_length, h.l, h.w, List.length_singleton]), List.take_left' hpl]
  · rw [entL, ← List.append_assoc, List.append_cons, ← List.append_assoc, List.append_cons, ← List.append_assoc, ← List.append_assoc]
    exact getD_at (by simp only [List.length_append, leN_length, h.l, h.w, h.r, List.length_singleton, hpl]; omega)
  · rw [entL, List.take_left' h.l]
  · rw [entL, List.drop_left' h.l, List.take_left' (leN_length _ _)]
/-- An op, and the path or prefix that goes with it. -/
def opFit (op : UInt8) (path : ByteArray) : Prop := path.size ≤ 16 ∧ fitOp (op.toNat : Int) path.size (nameB path.data.toList 16 true ((op.toNat : Int) == 76)) = true
theorem ent_fits {last who rest more : List UInt8} (h : Lens last who rest more) (cnt : Nat) {op : UInt8} {path : ByteArray} (hp : opFit op path) {err : Nat} (he : err ≤ 7) : fitsB (bs (entL last cnt op who path rest err more)) = true := by
  obtain ⟨h1, h2, h3, h4, h5, _, _⟩ := entL_facts h cnt op (path := path) (by have := hp.1; omega) err
  have hu : (UInt8.ofNat path.size).toNat = path.size := by have := hp.1; simp; omega
  have hx : (bs (entL last cnt op who path rest err more)).extract 70 (70 + path.size) = path := by
    apply Go.WideShapes.bytes_inj
    rw [ext_list, bs_list, show 70 + path.size - 70 = path.size by omega, h4]
  have hue : (UInt8.ofNat err).toNat = err := by simp; omega
  unfold fitsB Sha.at8
  rw [bs_list, bs_size, h1, h2, h3, hu, hx, h5, hue, hp.2]
  simp
  omega
theorem ent_bnd {last who rest more : List UInt8} (h : Lens last who rest more) {E : List ByteArray} (hE : E.length < 4294967296) (hl : last = hashAt E E.length) {op : UInt8} {path : ByteArray} (hp : opFit op path) (err : Nat) : bnd (bs (entL last E.length op who path rest err more)) E = true := by
  obtain ⟨_, _, _, _, _, h6, h7⟩ := entL_facts h E.length op (path := path) (by have := hp.1; omega) err
  unfold bnd
  rw [bs_list, h6, ← hl, ext_list, bs_list, h7, numOf_leN 4 _ (by omega)]
  simp
/-- The frame that a log begins with; all of it, if there is none. -/
def firstFr (s : ByteArray) : ByteArray := if frOk s then s.extract 0 (2 + frSize s) else s
theorem firstFr_size {s : ByteArray} (h : s.size ≠ 0) : 0 < (firstFr s).size ∧ (firstFr s).size ≤ s.size := by
  unfold firstFr
  split
  · rw [ByteArray.size_extract]
    rename_i hf
    have := frOk_two hf
    omega
  · omega
/-- A sink is given frames, till an Append fails. -/
def giveGo (k : Snk) (s : ByteArray) : Snk × Bool :=
  if _h : s.size = 0 then (k, true)
  else if k.took then giveGo (k.append (firstFr s)) (lf s (firstFr s).size) else (k.append (firstFr s), false)
termination_by s.size
decreasing_by rw [lf_size]; have := firstFr_size _h; omega
def giveF (k : Snk) (log : ByteArray) : Snk × Bool := giveGo k (lf log k.data.size)
def mostOf : List Snk → ByteArray → ByteArray
  | [], m => m
  | k :: l, m => mostOf l (if m.size < k.data.size then k.data else m)
def layF (l : List Snk) (log : ByteArray) : List Snk × Bool := (l.map fun k => (giveF k log).1, l.any fun k => (giveF k log).2)
def rightOf (op : UInt8) : UInt8 := match op.toNat with | 80 => 2 | 71 => 1 | 68 => 2 | 76 => 1 | 84 => 4 | 82 => 4 | _ => 0
def inPath (op : UInt8) : Bool := match op.toNat with | 80 => true | 71 => true | 68 => true | 76 => true | _ => false
theorem firstFr_log {e : ByteArray} {l : List ByteArray} (h : fitsB e = true) : firstFr (logOf (e :: l)) = frOf e := by
  obtain ⟨h1, h2, h3, h4, h5⟩ := fr_more (r := logOf l) h
  rw [firstFr, logOf, if_pos h3, h1]
  apply Go.WideShapes.bytes_inj
  rw [ext_list, show (frOf e ++ logOf l).data.toList = (frOf e).data.toList ++ (logOf l).data.toList by simp, List.drop_zero, List.take_left' (by rw [size_toList, frOf_size]; omega)]
/-- What a sink has behind it: some more of the frames; all, if it is told so. -/
theorem giveGo_log : ∀ (l : List ByteArray) (k : Snk), (∀ e ∈ l, fitsB e = true) → ∃ m, m ≤ l.length ∧ (giveGo k (logOf l)).1.data = k.data ++ logOf (l.take m) ∧ ((giveGo k (logOf l)).2 = true ↔ m = l.length) ∧ (giveGo k (logOf l)).1.fails = k.fails ∧ k.app ≤ (giveGo k (logOf l)).1.app ∧ (giveGo k (logOf l)).1.app ≤ k.app + l.length
  | [], k, _ => by
    refine ⟨0, Nat.le_refl _, ?_, ?_, ?_, ?_, ?_⟩ <;> rw [logOf, giveGo, dif_pos (by rfl)] <;> simp [logOf]
  | e :: l, k, h => by
    have he := h e (.head _)
    have hs := fits_small he
    obtain ⟨h1, h2, h3, h4, h5⟩ := fr_more (r := logOf l) he
    have hz : (logOf (e :: l)).size ≠ 0 := by rw [logOf, h5]; omega
    have hff := firstFr_log (l := l) he
    have hlf : lf (logOf (e :: l)) (frOf e).size = logOf l := by rw [frOf_size, logOf]; exact h4
    by_cases ht : k.took = true
    · obtain ⟨m, m1, m2, m3, m4, m5, m6⟩ := giveGo_log l (k.append (frOf e)) fun x hx => h x (.tail _ hx)
      have hk : k.append (frOf e) = { k with app := k.app + 1, data := k.data ++ frOf e } := if_pos ht
      have hg : giveGo k (logOf (e :: l)) = giveGo (k.append (frOf e)) (logOf l) := by rw [giveGo, dif_neg hz, if_pos ht, hff, hlf]
      rw [hg]
      rw [hk] at m2 m3 m4 m5 m6 ⊢
      refine ⟨m + 1, by simp; omega, ?_, ?_, m4, ?_, ?_⟩
      · rw [m2, List.take_succ_cons, logOf, ba_assoc]
      · rw [m3]; simp
      · have : k.app + 1 ≤ _ := m5; omega
      · rw [List.length_cons]; have : _ ≤ k.app + 1 + l.length := m6; omega
    · have hk : k.append (frOf e) = { k with app := k.app + 1 } := if_neg ht
      have hg : giveGo k (logOf (e :: l)) = ({ k with app := k.app + 1 }, false) := by rw [giveGo, dif_neg hz, if_neg ht, hff, hk]
      rw [hg]
      refine ⟨0, by omega, ?_, by simp, rfl, ?_, ?_⟩
      · simp [logOf]
      · show k.app ≤ k.app + 1; omega
      · show k.app + 1 ≤ _; simp; omega
end Go.Proofs.YtlbacbcenejngaaGreatDoor
namespace Go.Proofs.YtlbacbcenejngaaGreatDoor
open Go.RowKit
/-- The names of the paths, in order. -/
def Sto.names (S : Sto) : List ByteArray := ((S.paths.map fun p => p.1.data.toList).mergeSort fun x y => decide (x ≤ y)).map bs
def Sto.found (S : Sto) (p : ByteArray) : List ByteArray := S.names.filter fun n => hasPre n p && decide (0 < (S.versOf n).length)
def Sto.list (S : Sto) (q : Rq) : Oc := ⟨0, bs (UInt8.ofNat (S.found q.path).length :: (S.found q.path).flatMap fun n => (txt n).data.toList), none⟩
def Sto.deed (S : Sto) (q : Rq) : Oc := match q.op.toNat with | 80 => S.put q | 71 => S.get q | 68 => S.drop q | 76 => S.list q | 84 => S.grant q | _ => S.revoke q
/-- What a request will come to. -/
def Sto.ask (S : Sto) (q : Rq) : Oc := match lk q.token S.toks with
  | none => ⟨2, .empty, none⟩
  | some t => if t.rights &&& rightOf q.op = 0 ∨ (inPath q.op = true ∧ hasPre q.path t.pre = false) then ⟨3, .empty, none⟩ else S.deed q
def Sto.then (S : Sto) (q : Rq) (o : Oc) : Sto := match o.ch with | some c => S.carry q c | none => S
structure Vlt where
  key : ByteArray
  dsk : Dsk
  snks : List Snk
  cnt : Nat
  last : List UInt8
  sto : Sto
def Vlt.ask (V : Vlt) (s : ByteArray) : Rq × Oc := match readQ s with | some q => (q, V.sto.ask q) | none => (rq0, ⟨1, .empty, none⟩)
def Vlt.entry (V : Vlt) (s : ByteArray) : ByteArray :=
  bs (entL V.last V.cnt (V.ask s).1.op (Sha.tag V.key.data.toList (if (V.ask s).1.op = 0 then s else (V.ask s).1.token).data.toList) (V.ask s).1.path (Sha.tag V.key.data.toList (V.ask s).1.rest.data.toList) (V.ask s).2.err (Sha.tag V.key.data.toList (V.ask s).2.more.data.toList))
/-- The journal's name. -/
def jour : ByteArray := bs [106, 111, 117, 114, 110, 97, 108]
def Vlt.wrote (V : Vlt) (s : ByteArray) : Dsk := if (V.ask s).2.ch.isSome then (V.dsk.append jour (bs (Sha.digest (V.entry s).data.toList) ++ txt s)).sync jour else V.dsk
def Vlt.lay (V : Vlt) (s : ByteArray) : List Snk × Bool := layF V.snks (mostOf V.snks .empty ++ frOf (V.entry s))
def Vlt.next (V : Vlt) (s : ByteArray) : Vlt :=
  if (V.lay s).2 then ⟨V.key, V.wrote s, (V.lay s).1, V.cnt + 1, Sha.digest (V.entry s).data.toList, V.sto.then (V.ask s).1 (V.ask s).2⟩ else ⟨V.key, V.wrote s, (V.lay s).1, V.cnt, V.last, V.sto⟩
def Vlt.tell (V : Vlt) (s : ByteArray) : ByteArray := if (V.lay s).2 then bs (UInt8.ofNat (V.ask s).2.err :: (V.ask s).2.more.data.toList) else bs [6]
/-- What is so of every store. -/
structure Sto.Ok (S : Sto) : Prop where
  toks : S.toks.length ≤ 8
  tok : ∀ t ∈ S.toks, t.2.pre.size ≤ 255
  paths : S.paths.length ≤ 16
  pth : ∀ p ∈ S.paths, p.1.size ≤ 16 ∧ p.2.next ≤ 21 ∧ p.2.vers.length < p.2.next ∧ ∀ v ∈ p.2.vers, v.2.size ≤ 40
  one : (S.toks.map (·.1)).Nodup
  onp : (S.paths.map (·.1)).Nodup
/-- What is so of every request that is read. -/
structure Rq.Ok (q : Rq) : Prop where
  fit : opFit q.op q.path
  op : q.op ≠ 0
  value : q.value.size ≤ 40
  pre : q.pre.size ≤ 255
  name : q.name.size ≤ 255
  token : q.token.size ≤ 255
theorem isPa_16 {x : ByteArray} (h : isPa x = true) : x.size ≤ 16 := by
  simp only [isPa, nameB, Bool.and_eq_true, decide_eq_true_eq, size_toList] at h
  omega
theorem isPr_16 {x : ByteArray} (h : isPr x = true) : x.size ≤ 16 := by
  simp only [isPr, nameB, Bool.and_eq_true, decide_eq_true_eq, size_toList] at h
  omega
theorem fit_path {op : UInt8} {x : ByteArray} (h : isPa x = true) (ho : op.toNat = 80 ∨ op.toNat = 71 ∨ op.toNat = 68) : opFit op x := by
  refine ⟨isPa_16 h, ?_⟩
  rcases ho with ho | ho | ho <;> rw [ho] <;> simp [fitOp, pathI, opI] <;> exact h
theorem fit_pre {op : UInt8} {x : ByteArray} (h : isPr x = true) (ho : op.toNat = 76) : opFit op x := by
  refine ⟨isPr_16 h, ?_⟩
  rw [ho]
  simp [fitOp, pathI, opI]
  exact h
theorem fit_none {op : UInt8} (ho : op.toNat = 84 ∨ op.toNat = 82 ∨ op.toNat = 0) : opFit op .empty := by
  refine ⟨by decide, ?_⟩
  rcases ho with ho | ho | ho <;> rw [ho] <;> simp [fitOp, pathI, opI]
theorem rdPath_ok {q q' : Rq} {s s' : ByteArray} (h : rdPath q s = some (q', s')) : ∃ x y, q' = { q with path := x, rest := y } ∧ isPa x = true := by
  unfold rdPath at h
  split at h
  · split at h
    · rename_i hx; cases h; exact ⟨_, _, rfl, hx⟩
    · cases h
  · cases h
theorem rdNamed_ok {q q' : Rq} {s s' : ByteArray} (h : rdNamed q s = some (q', s')) : ∃ x y, q' = { q with rest := y, name := x } ∧ x.size ≤ 255 := by
  unfold rdNamed at h
  split at h
  · rename_i hx; cases h; exact ⟨_, _, rfl, (takeN_small hx).1⟩
  · cases h
theorem takeP_pr {s x y : ByteArray} (h : takeP s = some (x, y)) : isPr x = true := by
  unfold takeP at h
  split at h
  · split at h
    · rename_i hx; cases h; exact hx
    · cases h
  · cases h
theorem rdOf_ok {op : UInt8} {tk s s' : ByteArray} {q : Rq} (ht : tk.size ≤ 255) (h : rdOf op (rqOT op tk) s = some (q, s')) : q.Ok := by
  have hz : ∀ n, n ≠ 0 → op.toNat = n → op ≠ 0 := fun n hn ho e => hn (by rw [← ho, e]; rfl)
  have e0 : (ByteArray.empty).size ≤ 255 := by decide
  have e4 : (ByteArray.empty).size ≤ 40 := by decide
  unfold rdOf at h
  split at h
  · rename_i ho
    unfold rdPut at h
    split at h
    · rename_i q1 s1 h1
      obtain ⟨x, y, rfl, hx⟩ := rdPath_ok h1
      split at h
      · split at h
        · rename_i hv
          cases h
          exact ⟨fit_path hx (.inl ho), hz _ (by decide) ho, hv, e0, e0, ht⟩
        · cases h
      · cases h
    · cases h
  · rename_i ho
    unfold rdGet at h
    split at h
    · rename_i q1 s1 h1
      obtain ⟨x, y, rfl, hx⟩ := rdPath_ok h1
      split at h
      · cases h
        exact ⟨fit_path hx (.inr (.inl ho)), hz _ (by decide) ho, e4, e0, e0, ht⟩
      · cases h
    · cases h
  · rename_i ho
    obtain ⟨x, y, rfl, hx⟩ := rdPath_ok h
    exact ⟨fit_path hx (.inr (.inr ho)), hz _ (by decide) ho, e4, e0, e0, ht⟩
  · rename_i ho
    unfold rdList at h
    split at h
    · rename_i x y hx
      cases h
      exact ⟨fit_pre (takeP_pr hx) ho, hz _ (by decide) ho, e4, e0, e0, ht⟩
    · cases h
  · rename_i ho
    unfold rdGrant at h
    split at h
    · rename_i q1 s1 h1
      obtain ⟨x, y, rfl, hx⟩ := rdNamed_ok h1
      split at h
      · rename_i p s2 h2
        split at h
        · split at h
          · cases h
            exact ⟨fit_none (.inl ho), hz _ (by decide) ho, e4, (takeP_small h2).1, hx, ht⟩
          · cases h
        · cases h
      · cases h
    · cases h
  · rename_i ho
    obtain ⟨x, y, rfl, hx⟩ := rdNamed_ok h
    exact ⟨fit_none (.inr (.inl ho)), hz _ (by decide) ho, e4, e0, hx, ht⟩
  · cases h
theorem readQ_ok {s : ByteArray} {q : Rq} (h : readQ s = some q) : q.Ok := by
  unfold readQ at h
  split at h
  · split at h
    · rename_i h2
      split at h
      · rename_i h3
        split at h
        · cases h
          exact rdOf_ok (takeN_small h2).1 h3
        · cases h
      · cases h
    · cases h
  · cases h
end Go.Proofs.YtlbacbcenejngaaGreatDoor
namespace Go.Proofs.YtlbacbcenejngaaGreatDoor
open Go.RowKit
/-- Bytes that lie in memory, as a string. -/
theorem conv_range {w : World} {g o : Nat} {L : List UInt8} (h : w.rangeAt g o (blist L)) (hl : L.length = 32) : (convert 58 9 (.slice (some ⟨g, o, none⟩) 32 32)).run Tryz.prog w = .ok (.string (bs L)) w := by
  rw [run_convert_bytes_arg w 58 5 Tryz.underlying58 Tryz.underlying5 g o 32 32 (L.map fun c => (c.toNat : Int)) (by simpa using hl) (fun i hi => ?_) 9 Tryz.underlying9, strOf]
  · rfl
  · have := h i (.int .u8 ((L.getD i 0).toNat : Int)) (by rw [List.getElem?_map, List.getD_eq_getElem?_getD, List.getElem?_eq_getElem (by omega)]; rfl)
    rw [this]
    simp [List.getD_eq_getElem?_getD, List.getElem?_eq_getElem (show i < L.length by omega)]
theorem conv_u64 (n : Nat) (h : n < 18446744073709551616) (w : World) : (convert 3 177 (.int .i64 (n : Int))).run Tryz.prog w = .ok (.int .u64 (n : Int)) w := by
  have h3 := Tryz.underlying3
  have h7 := Tryz.underlying177
  have hw : IntKind.u64.wrap (n : Int) = (n : Int) := by simp [IntKind.wrap, IntKind.bits, IntKind.signed]; omega
  simp [convert, go_sem, hw]
theorem conv_err (n : Nat) (_h : n < 256) (w : World) : (convert 43 5 (.int .i64 (n : Int))).run Tryz.prog w = .ok (.int .u8 ((UInt8.ofNat n).toNat : Int)) w := by
  have h3 := Tryz.underlying43
  have h7 := Tryz.underlying5
  have hw : IntKind.u8.wrap (n : Int) = ((UInt8.ofNat n).toNat : Int) := by simp [IntKind.wrap, IntKind.bits, IntKind.signed]
  simp [convert, go_sem, hw]
def ecells (op : UInt8) (who : List UInt8) (path : ByteArray) (rest : List UInt8) (err : Nat) (more : List UInt8) : Array Value := (Value.int .u8 (op.toNat : Int) :: (blist who ++ (Value.string path :: (blist rest ++ (Value.int .i64 (err : Int) :: blist more))))).toArray
theorem app_get {α : Type} {a b : List α} {n j : Nat} (h : a.length = n) : (a ++ b)[n + j]? = b[j]? := by subst h; rw [List.getElem?_append_right (by omega)]; congr 1; omega
theorem ec_facts {last who rest more : List UInt8} (h : Lens last who rest more) (op : UInt8) (path : ByteArray) (err : Nat) :
    (ecells op who path rest err more).size = 99 ∧ (ecells op who path rest err more)[0]? = some (.int .u8 (op.toNat : Int)) ∧ (∀ j v, (blist who)[j]? = some v → (ecells op who path rest err more)[1 + j]? = some v) ∧ (ecells op who path rest err more)[33]? = some (.string path) ∧
    (∀ j v, (blist rest)[j]? = some v → (ecells op who path rest err more)[34 + j]? = some v) ∧ (ecells op who path rest err more)[66]? = some (.int .i64 (err : Int)) ∧ (∀ j v, (blist more)[j]? = some v → (ecells op who path rest err more)[67 + j]? = some v) := by
  have l1 : (Value.int .u8 (op.toNat : Int) :: blist who).length = 33 := by simp [h.w]
  have l2 : (Value.int .u8 (op.toNat : Int) :: blist who ++ [Value.string path]).length = 34 := by simp [h.w]
  have l3 : (Value.int .u8 (op.toNat : Int) :: blist who ++ [Value.string path] ++ blist rest).length = 66 := by simp [h.w, h.r]
  have l4 : (Value.int .u8 (op.toNat : Int) :: blist who ++ [Value.string path] ++ blist rest ++ [Value.int .i64 (err : Int)]).length = 67 := by simp [h.w, h.r]
  have e1 : (ecells op who path rest err more).toList = (Value.int .u8 (op.toNat : Int) :: blist who) ++ (Value.string path :: (blist rest ++ (Value.int .i64 (err : Int) :: blist more))) := rfl
  have e2 : (ecells op who path rest err more).toList = (Value.int .u8 (op.toNat : Int) :: blist who ++ [Value.string path]) ++ (blist rest ++ (Value.int .i64 (err : Int) :: blist more)) := by rw [e1]; simp
  have e3 : (ecells op who path rest err more).toList = (Value.int .u8 (op.toNat : Int) :: blist who ++ [Value.string path] ++ blist rest) ++ (Value.int .i64 (err : Int) :: blist more) := by rw [e1]; simp
  have e4 : (ecells op who path rest err more).toList = (Value.int .u8 (op.toNat : Int) :: blist who ++ [Value.string path] ++ blist rest ++ [Value.int .i64 (err : Int)]) ++ blist more := by rw [e1]; simp
  refine ⟨?_, rfl, fun j v hv => ?_, ?_, fun j v hv => ?_, ?_, fun j v hv => ?_⟩
  · rw [← Array.length_toList, e4, List.length_append, l4]; simp [h.m]
  · rw [← Array.getElem?_toList, show (ecells op who path rest err more).toList = Value.int .u8 (op.toNat : Int) :: (blist who ++ (Value.string path :: (blist rest ++ (Value.int .i64 (err : Int) :: blist more)))) from rfl, Nat.add_comm, List.getElem?_cons_succ, List.getElem?_append_left (List.getElem?_eq_some_iff.1 hv).1]; exact hv
  · rw [← Array.getElem?_toList, e1]; have := app_get (b := Value.string path :: (blist rest ++ (Value.int .i64 (err : Int) :: blist more))) (j := 0) l1; exact this
  · rw [← Array.getElem?_toList, e2, app_get l2, List.getElem?_append_left (List.getElem?_eq_some_iff.1 hv).1]; exact hv
  · rw [← Array.getElem?_toList, e3]; have := app_get (b := Value.int .i64 (err : Int) :: blist more) (j := 0) l3; exact this
  · rw [← Array.getElem?_toList, e4, app_get l4]; exact hv
/-- What is read of an entry in block b, and of the digest ahead behind it. -/
structure SE (b : Nat) (last who rest more : List UInt8) (op : UInt8) (path : ByteArray) (err : Nat) (W : World) : Prop where
  l : (convert 58 9 (.slice (some ⟨b + 1, 0, none⟩) 32 32)).run Tryz.prog W = .ok (.string (bs last)) W
  o : W.cell? ⟨b, 0, none⟩ = some (.int .u8 (op.toNat : Int))
  w : (convert 58 9 (.slice (some ⟨b, 1, none⟩) 32 32)).run Tryz.prog W = .ok (.string (bs who)) W
  p : W.cell? ⟨b, 33, none⟩ = some (.string path)
  r : (convert 58 9 (.slice (some ⟨b, 34, none⟩) 32 32)).run Tryz.prog W = .ok (.string (bs rest)) W
  e : W.cell? ⟨b, 66, none⟩ = some (.int .i64 (err : Int))
  m : (convert 58 9 (.slice (some ⟨b, 67, none⟩) 32 32)).run Tryz.prog W = .ok (.string (bs more)) W
theorem se_of {b : Nat} {last who rest more : List UInt8} (h : Lens last who rest more) {op : UInt8} {path : ByteArray} {err : Nat} {W : World} (h1 : W.heap[b]? = some (.cells (ecells op who path rest err more) 93 (0, 0))) (h2 : W.heap[b + 1]? = some (.cells (brow last) 29 (0, 0))) : SE b last who rest more op path err W := by
  obtain ⟨_, f1, f2, f3, f4, f5, f6⟩ := ec_facts h op path err
  refine ⟨conv_range (fun j v hv => ?_) h.l, by rw [cell_of_row _ _ _ _ _ _ h1]; exact f1, conv_range (fun j v hv => ?_) h.w, by rw [cell_of_row _ _ _ _ _ _ h1]; exact f3, conv_range (fun j v hv => ?_) h.r, by rw [cell_of_row _ _ _ _ _ _ h1]; exact f5, conv_range (fun j v hv => ?_) h.m⟩
  · rw [Nat.zero_add, cell_of_row _ _ _ _ _ _ h2]; simpa [brow] using hv
  · rw [cell_of_row _ _ _ _ _ _ h1]; exact f2 j v hv
  · rw [cell_of_row _ _ _ _ _ _ h1]; exact f4 j v hv
  · rw [cell_of_row _ _ _ _ _ _ h1]; exact f6 j v hv
set_option maxRecDepth 100000 in
set_option maxHeartbeats 2000000 in
theorem entBytes_go (last who rest more : List UInt8) (h : Lens last who rest more) (op : UInt8) (path : ByteArray) (hp : path.size ≤ 1000) (err : Nat) (he : err < 256) (cnt : Nat) (hc : cnt < 9223372036854775808) (w : World) :
    Calls Tryz.prog 73 #[.agg (ecells op who path rest err more), .agg (brow last), .int .i64 (cnt : Int)] w fun e w' => e = .returned (.string (bs (entL last cnt op who path rest err more))) ∧ Kept w.heap.size w w' := by
  obtain ⟨w1, hw1⟩ : ∃ w1, w1 = (w.alloc (.cells (ecells op who path rest err more) 93)).alloc (.cells (brow last) 29) := ⟨_, rfl⟩
  have hb1 : w1.heap[w.heap.size]? = some (.cells (ecells op who path rest err more) 93 (0, 0)) := by rw [hw1, Below.heap_alloc _ _ _ (by simp)]; exact heap_alloc_new _ _
  have hb2 : w1.heap[w.heap.size + 1]? = some (.cells (brow last) 29 (0, 0)) := by rw [hw1]; have := heap_alloc_new (w.alloc (.cells (ecells op who path rest err more) 93)) (.cells (brow last) 29); simpa only [World.size_alloc] using this
  have hz1 : w1.heap.size = w.heap.size + 2 := by rw [hw1]; simp
  have HK1 := hide (show Kept w.heap.size w w1 by rw [hw1]; exact ((Kept.refl _ _).alloc (Nat.le_refl _) _).alloc (by simp) _)
  have HSE := hide (show ∀ W, Kept w1.heap.size w1 W → SE w.heap.size last who rest more op path err W from fun W hW => se_of h ((hW.block _ (by omega)).trans hb1) ((hW.block _ (by omega)).trans hb2))
  have s1 : (bs last).size = 32 := by rw [bs_size, h.l]
  have s2 : (bs (leN cnt 4)).size = 4 := by rw [bs_size, leN_length]
  have s3 : (bs [op]).size = 1 := bs_size _
  have s4 : (bs who).size = 32 := by rw [bs_size, h.w]
  have s5 := txt_size path
  have s6 : (bs rest).size = 32 := by rw [bs_size, h.r]
  have s7 : (bs [UInt8.ofNat err]).size = 1 := bs_size _
  have s8 : (bs more).size = 32 := by rw [bs_size, h.m]
  have sap : ∀ a b : ByteArray, (a ++ b).size = a.size + b.size := fun a b => ByteArray.size_append
  have HX := hide (show bs last ++ bs (leN cnt 4) ++ bs [op] ++ bs who ++ txt path ++ bs rest ++ bs [UInt8.ofNat err] ++ bs more = bs (entL last cnt op who path rest err more) by
    rw [txt, ← bs_app, ← bs_app, ← bs_app, ← bs_app, ← bs_app, ← bs_app, ← bs_app]
    simp [entL])
  obtain ⟨X1, hX1⟩ : ∃ X, X = bs last ++ bs (leN cnt 4) := ⟨_, rfl⟩
  obtain ⟨X2, hX2⟩ : ∃ X, X = X1 ++ bs [op] := ⟨_, rfl⟩
  obtain ⟨X3, hX3⟩ : ∃ X, X = X2 ++ bs who := ⟨_, rfl⟩
  obtain ⟨X4, hX4⟩ : ∃ X, X = X3 ++ txt path := ⟨_, rfl⟩
  obtain ⟨X5, hX5⟩ : ∃ X, X = X4 ++ bs rest := ⟨_, rfl⟩
  obtain ⟨X6, hX6⟩ : ∃ X, X = X5 ++ bs [UInt8.ofNat err] := ⟨_, rfl⟩
  obtain ⟨X7, hX7⟩ : ∃ X, X = X6 ++ bs more := ⟨_, rfl⟩
  rw [← hX1, ← hX2, ← hX3, ← hX4, ← hX5, ← hX6, ← hX7] at HX
  have z1 : X1.size = 36 := by rw [hX1, sap]; omega
  have z2 : X2.size = 37 := by rw [hX2, sap]; omega
  have z3 : X3.size = 69 := by rw [hX3, sap]; omega
  have z4 : X4.size ≤ 2000 := by rw [hX4, sap]; omega
  have z5 : X5.size ≤ 2040 := by rw [hX5, sap]; omega
  have z6 : X6.size ≤ 2050 := by rw [hX6, sap]; omega
  have n1 : (9223372036854775807 < (bs last).size + (bs (leN cnt 4)).size) = False := eq_false (by omega)
  have n2 : (9223372036854775807 < X1.size + (bs [op]).size) = False := eq_false (by omega)
  have n3 : (9223372036854775807 < X2.size + (bs who).size) = False := eq_false (by omega)
  have n4 : (9223372036854775807 < X3.size + (txt path).size) = False := eq_false (by omega)
  have n5 : (9223372036854775807 < X4.size + (bs rest).size) = False := eq_false (by omega)
  have n6 : (9223372036854775807 < X5.size + (bs [UInt8.ofNat err]).size) = False := eq_false (by omega)
  have n7 : (9223372036854775807 < X6.size + (bs more).size) = False := eq_false (by omega)
  have hcv : ∀ W : World, (convert 3 177 (.int .i64 (cnt : Int))).run Tryz.prog W = .ok (.int .u64 (cnt : Int)) W := fun W => conv_u64 cnt (by omega) W
  have hce : ∀ W : World, (convert 43 5 (.int .i64 (err : Int))).run Tryz.prog W = .ok (.int .u8 ((UInt8.ofNat err).toNat : Int)) W := fun W => conv_err err he W
  have A1 := hX1.symm
  have A2 := hX2.symm
  have A3 := hX3.symm
  have A4 := hX4.symm
  have A5 := hX5.symm
  have A6 := hX6.symm
  have A7 := hX7.symm
  clear hX1 hX2 hX3 hX4 hX5 hX6 hX7 sap s1 s2 s3 s4 s5 s6 s7 s8 z1 z2 z3 z4 z5 z6 hb1 hb2 h
  go_enter Tryz.func73, Tryz.ntmps73
  go_wp2_with fail
  rw [← hw1]
  clear hw1
  refine wp_region_held_drew (S := SE w.heap.size last who rest more op path err) (by kernel_rfl) (unhide HSE w1.drew ((Kept.refl _ _).draws 1)) (fun hHeld => ?_)
  refine wpAnyH_take (i := 0) (oi := { dst := some 7, op := Op.slice 29 (Operand.tmp 4) none none none, type := 58, pos := "entry.go:20", after := #[], guard := none }) (v := .slice (some ⟨w.heap.size + 1, 0, none⟩) 32 32) rfl (by kernel_rfl) (by kernel_rfl) (by kernel_rfl) (fun _ _ _ h => h) (Or.inl ⟨by kernel_rfl, fun W hW => by kernel_rfl⟩) hHeld ?_
  simp only [Act.put, List.setIfInBounds_toArray, List.set_cons_zero, List.set_cons_succ]
  refine wpAnyH_take (i := 1) (oi := { dst := some 8, op := Op.convert 58 9 (Operand.tmp 7), type := 9, pos := "entry.go:20", after := #[{ on := 0, ground := Ground.data }], guard := none }) (v := .string (bs last)) rfl (by kernel_rfl) (by kernel_rfl) (by kernel_rfl) (fun _ _ _ h => h) (Or.inl ⟨by kernel_rfl, fun W hW => by simp [execOp, go_sem, hW.l]⟩) hHeld ?_
  simp only [Act.put, List.setIfInBounds_toArray, List.set_cons_zero, List.set_cons_succ]
  refine wpAnyH_take (i := 2) (oi := { dst := some 9, op := Op.move (Operand.tmp 2), type := 3, pos := "entry.go:20", after := #[], guard := none }) (v := .int .i64 (cnt : Int)) rfl (by kernel_rfl) (by kernel_rfl) (by kernel_rfl) (fun _ _ _ h => h) (Or.inl ⟨by kernel_rfl, fun W hW => by kernel_rfl⟩) hHeld ?_
  simp only [Act.put, List.setIfInBounds_toArray, List.set_cons_zero, List.set_cons_succ]
  refine wpAnyH_take (i := 3) (oi := { dst := some 10, op := Op.convert 3 177 (Operand.tmp 9), type := 177, pos := "entry.go:20", after := #[{ on := 2, ground := Ground.data }], guard := none }) (v := .int .u64 (cnt : Int)) rfl (by kernel_rfl) (by kernel_rfl) (by kernel_rfl) (fun _ _ _ h => h) (Or.inl ⟨by kernel_rfl, fun W hW => by simp [execOp, go_sem, hcv]⟩) hHeld ?_
  simp only [Act.put, List.setIfInBounds_toArray, List.set_cons_zero, List.set_cons_succ]
  refine wpAnyH_take (i := 6) (oi := { dst := some 13, op := Op.fieldAddr 93 (Operand.tmp 3) 0, type := 0, pos := "entry.go:20", after := #[], guard := none }) (v := .pointer (some ⟨w.heap.size, 0, none⟩)) rfl (by kernel_rfl) (by kernel_rfl) (by kernel_rfl) (fun _ _ _ h => h) (Or.inl ⟨by kernel_rfl, fun W hW => by kernel_rfl⟩) hHeld ?_
  simp only [Act.put, List.setIfInBounds_toArray, List.set_cons_zero, List.set_cons_succ]
  refine wpAnyH_take (i := 7) (oi := { dst := some 14, op := Op.load 5 (Operand.tmp 13), type := 5, pos := "entry.go:20", after := #[{ on := 6, ground := Ground.data }], guard := none }) (v := .int .u8 (op.toNat : Int)) rfl (by kernel_rfl) (by kernel_rfl) (by kernel_rfl) (fun _ _ _ h => h) (Or.inl ⟨by kernel_rfl, fun W hW => by simp [execOp, go_sem, hW.o]⟩) hHeld ?_
  simp only [Act.put, List.setIfInBounds_toArray, List.set_cons_zero, List.set_cons_succ]
  refine wpAnyH_take (i := 10) (oi := { dst := some 17, op := Op.fieldAddr 93 (Operand.tmp 3) 1, type := 0, pos := "entry.go:20", after := #[], guard := none }) (v := .pointer (some ⟨w.heap.size, 1, none⟩)) rfl (by kernel_rfl) (by kernel_rfl) (by kernel_rfl) (fun _ _ _ h => h) (Or.inl ⟨by kernel_rfl, fun W hW => by kernel_rfl⟩) hHeld ?_
  simp only [Act.put, List.setIfInBounds_toArray, List.set_cons_zero, List.set_cons_succ]
  refine wpAnyH_take (i := 11) (oi := { dst := some 18, op := Op.slice 29 (Operand.tmp 17) none none none, type := 58, pos := "entry.go:20", after := #[{ on := 10, ground := Ground.data }], guard := none }) (v := .slice (some ⟨w.heap.size, 1, none⟩) 32 32) rfl (by kernel_rfl) (by kernel_rfl) (by kernel_rfl) (fun _ _ _ h => h) (Or.inl ⟨by kernel_rfl, fun W hW => by kernel_rfl⟩) hHeld ?_
  simp only [Act.put, List.setIfInBounds_toArray, List.set_cons_zero, List.set_cons_succ]
  refine wpAnyH_take (i := 12) (oi := { dst := some 19, op := Op.convert 58 9 (Operand.tmp 18), type := 9, pos := "entry.go:20", after := #[{ on := 11, ground := Ground.data }], guard := none }) (v := .string (bs who)) rfl (by kernel_rfl) (by kernel_rfl) (by kernel_rfl) (fun _ _ _ h => h) (Or.inl ⟨by kernel_rfl, fun W hW => by simp [execOp, go_sem, hW.w]⟩) hHeld ?_
  simp only [Act.put, List.setIfInBounds_toArray, List.set_cons_zero, List.set_cons_succ]
  refine wpAnyH_take (i := 14) (oi := { dst := some 21, op := Op.fieldAddr 93 (Operand.tmp 3) 2, type := 0, pos := "entry.go:20", after := #[], guard := none }) (v := .pointer (some ⟨w.heap.size, 33, none⟩)) rfl (by kernel_rfl) (by kernel_rfl) (by kernel_rfl) (fun _ _ _ h => h) (Or.inl ⟨by kernel_rfl, fun W hW => by kernel_rfl⟩) hHeld ?_
  simp only [Act.put, List.setIfInBounds_toArray, List.set_cons_zero, List.set_cons_succ]
  refine wpAnyH_take (i := 15) (oi := { dst := some 22, op := Op.load 9 (Operand.tmp 21), type := 9, pos := "entry.go:20", after := #[{ on := 14, ground := Ground.data }], guard := none }) (v := .string path) rfl (by kernel_rfl) (by kernel_rfl) (by kernel_rfl) (fun _ _ _ h => h) (Or.inl ⟨by kernel_rfl, fun W hW => by simp [execOp, go_sem, hW.p]⟩) hHeld ?_
  simp only [Act.put, List.setIfInBounds_toArray, List.set_cons_zero, List.set_cons_succ]
  refine wpAnyH_take (i := 18) (oi := { dst := some 25, op := Op.fieldAddr 93 (Operand.tmp 3) 3, type := 0, pos := "entry.go:20", after := #[], guard := none }) (v := .pointer (some ⟨w.heap.size, 34, none⟩)) rfl (by kernel_rfl) (by kernel_rfl) (by kernel_rfl) (fun _ _ _ h => h) (Or.inl ⟨by kernel_rfl, fun W hW => by kernel_rfl⟩) hHeld ?_
  simp only [Act.put, List.setIfInBounds_toArray, List.set_cons_zero, List.set_cons_succ]
  refine wpAnyH_take (i := 19) (oi := { dst := some 26, op := Op.slice 29 (Operand.tmp 25) none none none, type := 58, pos := "entry.go:20", after := #[{ on := 18, ground := Ground.data }], guard := none }) (v := .slice (some ⟨w.heap.size, 34, none⟩) 32 32) rfl (by kernel_rfl) (by kernel_rfl) (by kernel_rfl) (fun _ _ _ h => h) (Or.inl ⟨by kernel_rfl, fun W hW => by kernel_rfl⟩) hHeld ?_
  simp only [Act.put, List.setIfInBounds_toArray, List.set_cons_zero, List.set_cons_succ]
  refine wpAnyH_take (i := 20) (oi := { dst := some 27, op := Op.convert 58 9 (Operand.tmp 26), type := 9, pos := "entry.go:20", after := #[{ on := 19, ground := Ground.data }], guard := none }) (v := .string (bs rest)) rfl (by kernel_rfl) (by kernel_rfl) (by kernel_rfl) (fun _ _ _ h => h) (Or.inl ⟨by kernel_rfl, fun W hW => by simp [execOp, go_sem, hW.r]⟩) hHeld ?_
  simp only [Act.put, List.setIfInBounds_toArray, List.set_cons_zero, List.set_cons_succ]
  refine wpAnyH_take (i := 22) (oi := { dst := some 29, op := Op.fieldAddr 93 (Operand.tmp 3) 4, type := 0, pos := "entry.go:20", after := #[], guard := none }) (v := .pointer (some ⟨w.heap.size, 66, none⟩)) rfl (by kernel_rfl) (by kernel_rfl) (by kernel_rfl) (fun _ _ _ h => h) (Or.inl ⟨by kernel_rfl, fun W hW => by kernel_rfl⟩) hHeld ?_
  simp only [Act.put, List.setIfInBounds_toArray, List.set_cons_zero, List.set_cons_succ]
  refine wpAnyH_take (i := 23) (oi := { dst := some 30, op := Op.load 43 (Operand.tmp 29), type := 43, pos := "entry.go:20", after := #[{ on := 22, ground := Ground.data }], guard := none }) (v := .int .i64 (err : Int)) rfl (by kernel_rfl) (by kernel_rfl) (by kernel_rfl) (fun _ _ _ h => h) (Or.inl ⟨by kernel_rfl, fun W hW => by simp [execOp, go_sem, hW.e]⟩) hHeld ?_
  simp only [Act.put, List.setIfInBounds_toArray, List.set_cons_zero, List.set_cons_succ]
  refine wpAnyH_take (i := 24) (oi := { dst := some 31, op := Op.convert 43 5 (Operand.tmp 30), type := 5, pos := "entry.go:20", after := #[{ on := 23, ground := Ground.data }], guard := none }) (v := .int .u8 ((UInt8.ofNat err).toNat : Int)) rfl (by kernel_rfl) (by kernel_rfl) (by kernel_rfl) (fun _ _ _ h => h) (Or.inl ⟨by kernel_rfl, fun W hW => by simp [execOp, go_sem, hce]⟩) hHeld ?_
  simp only [Act.put, List.setIfInBounds_toArray, List.set_cons_zero, List.set_cons_succ]
  refine wpAnyH_take (i := 27) (oi := { dst := some 34, op := Op.fieldAddr 93 (Operand.tmp 3) 5, type := 0, pos := "entry.go:20", after := #[], guard := none }) (v := .pointer (some ⟨w.heap.size, 67, none⟩)) rfl (by kernel_rfl) (by kernel_rfl) (by kernel_rfl) (fun _ _ _ h => h) (Or.inl ⟨by kernel_rfl, fun W hW => by kernel_rfl⟩) hHeld ?_
  simp only [Act.put, List.setIfInBounds_toArray, List.set_cons_zero, List.set_cons_succ]
  refine wpAnyH_take (i := 28) (oi := { dst := some 35, op := Op.slice 29 (Operand.tmp 34) none none none, type := 58, pos := "entry.go:20", after := #[{ on := 27, ground := Ground.data }], guard := none }) (v := .slice (some ⟨w.heap.size, 67, none⟩) 32 32) rfl (by kernel_rfl) (by kernel_rfl) (by kernel_rfl) (fun _ _ _ h => h) (Or.inl ⟨by kernel_rfl, fun W hW => by kernel_rfl⟩) hHeld ?_
  simp only [Act.put, List.setIfInBounds_toArray, List.set_cons_zero, List.set_cons_succ]
  refine wpAnyH_take (i := 29) (oi := { dst := some 36, op := Op.convert 58 9 (Operand.tmp 35), type := 9, pos := "entry.go:20", after := #[{ on := 28, ground := Ground.data }], guard := none }) (v := .string (bs more)) rfl (by kernel_rfl) (by kernel_rfl) (by kernel_rfl) (fun _ _ _ h => h) (Or.inl ⟨by kernel_rfl, fun W hW => by simp [execOp, go_sem, hW.m]⟩) hHeld ?_
  simp only [Act.put, List.setIfInBounds_toArray, List.set_cons_zero, List.set_cons_succ]
  refine wpAnyH_ready (rs := [4]) (by kernel_rfl) (by simp) ?_
  refine AllReadyH.cons (o := { dst := some 11, op := Op.call { callee := Callee.value (Operand.func 110), args := #[Operand.tmp 10, Operand.const (Value.int IntKind.i64 4)], argTypes := #[177, 3] }, type := 9, pos := "entry.go:20", after := #[{ on := 3, ground := Ground.data }], guard := none }) rfl (fun K hK => ?_) AllReadyH.nil
  refine ite_wanted ?_ ?_
  · kernel_rfl
  go_simp
  refine (packNumber_go cnt 4 _ (by decide) (by omega)).mono ?_
  rintro _ w2 ⟨rfl, hb2⟩
  have HK2 := hide (show Kept w1.heap.size w1 w2 from (show Kept w1.heap.size w1 w2 from ⟨(Kept.of hb2).os, (Kept.of hb2).output, (Kept.of hb2).size, (Kept.of hb2).block⟩))
  clear hb2
  show K _ w2
  refine hK.out _ _ (unhide HSE w2 (unhide HK2)) (fun hHeld4 => ?_)
  clear hK K
  try simp only [Act.put, List.setIfInBounds_toArray, List.set_cons_zero, List.set_cons_succ]
  refine wpAnyH_take (i := 5) (oi := { dst := some 12, op := Op.binOp BinOp.add 9 (Operand.tmp 8) (Operand.tmp 11) 9, type := 9, pos := "entry.go:20", after := #[{ on := 1, ground := Ground.data }, { on := 4, ground := Ground.data }], guard := none }) (v := .string X1) rfl (by kernel_rfl) (by kernel_rfl) (by kernel_rfl) (fun _ _ _ h => h) (Or.inl ⟨by kernel_rfl, fun W hW => by simp [execOp, go_sem, n1, A1]⟩) hHeld4 ?_
  simp only [Act.put, List.setIfInBounds_toArray, List.set_cons_zero, List.set_cons_succ]
  refine wpAnyH_ready (rs := [8]) (by kernel_rfl) (by simp) ?_
  refine AllReadyH.cons (o := { dst := some 15, op := Op.call { callee := Callee.value (Operand.func 81), args := #[Operand.tmp 14], argTypes := #[5] }, type := 9, pos := "entry.go:21", after := #[{ on := 7, ground := Ground.data }, { on := 4, ground := Ground.chain }], guard := none }) rfl (fun K hK => ?_) AllReadyH.nil
  refine ite_wanted ?_ ?_
  · kernel_rfl
  go_simp
  refine (packByte_go op w2).mono ?_
  rintro _ w3 ⟨rfl, hb3⟩
  have HK3 := hide (show Kept w1.heap.size w1 w3 from (unhide HK2).trans ((Kept.of hb3).mono (unhide HK2).size))
  clear hb3
  show K _ w3
  refine hK.out _ _ (unhide HSE w3 (unhide HK3)) (fun hHeld8 => ?_)
  clear hK K
  try simp only [Act.put, List.setIfInBounds_toArray, List.set_cons_zero, List.set_cons_succ]
  refine wpAnyH_take (i := 9) (oi := { dst := some 16, op := Op.binOp BinOp.add 9 (Operand.tmp 12) (Operand.tmp 15) 9, type := 9, pos := "entry.go:20", after := #[{ on := 5, ground := Ground.data }, { on := 8, ground := Ground.data }], guard := none }) (v := .string X2) rfl (by kernel_rfl) (by kernel_rfl) (by kernel_rfl) (fun _ _ _ h => h) (Or.inl ⟨by kernel_rfl, fun W hW => by simp [execOp, go_sem, n2, A2]⟩) hHeld8 ?_
  simp only [Act.put, List.setIfInBounds_toArray, List.set_cons_zero, List.set_cons_succ]
  refine wpAnyH_take (i := 13) (oi := { dst := some 20, op := Op.binOp BinOp.add 9 (Operand.tmp 16) (Operand.tmp 19) 9, type := 9, pos := "entry.go:20", after := #[{ on := 9, ground := Ground.data }, { on := 12, ground := Ground.data }], guard := none }) (v := .string X3) rfl (by kernel_rfl) (by kernel_rfl) (by kernel_rfl) (fun _ _ _ h => h) (Or.inl ⟨by kernel_rfl, fun W hW => by simp [execOp, go_sem, n3, A3]⟩) hHeld8 ?_
  simp only [Act.put, List.setIfInBounds_toArray, List.set_cons_zero, List.set_cons_succ]
  refine wpAnyH_ready (rs := [16]) (by kernel_rfl) (by simp) ?_
  refine AllReadyH.cons (o := { dst := some 23, op := Op.call { callee := Callee.value (Operand.func 76), args := #[Operand.tmp 22], argTypes := #[9] }, type := 9, pos := "entry.go:21", after := #[{ on := 15, ground := Ground.data }, { on := 8, ground := Ground.chain }], guard := none }) rfl (fun K hK => ?_) AllReadyH.nil
  refine ite_wanted ?_ ?_
  · kernel_rfl
  go_simp
  refine (packText_go path w3 (by omega)).mono ?_
  rintro _ w4 ⟨rfl, hb4⟩
  have HK4 := hide (show Kept w1.heap.size w1 w4 from (unhide HK3).trans ((Kept.of hb4).mono (unhide HK3).size))
  clear hb4
  show K _ w4
  refine hK.out _ _ (unhide HSE w4 (unhide HK4)) (fun hHeld16 => ?_)
  clear hK K
  try simp only [Act.put, List.setIfInBounds_toArray, List.set_cons_zero, List.set_cons_succ]
  refine wpAnyH_take (i := 17) (oi := { dst := some 24, op := Op.binOp BinOp.add 9 (Operand.tmp 20) (Operand.tmp 23) 9, type := 9, pos := "entry.go:20", after := #[{ on := 13, ground := Ground.data }, { on := 16, ground := Ground.data }], guard := none }) (v := .string X4) rfl (by kernel_rfl) (by kernel_rfl) (by kernel_rfl) (fun _ _ _ h => h) (Or.inl ⟨by kernel_rfl, fun W hW => by simp [execOp, go_sem, n4, A4]⟩) hHeld16 ?_
  simp only [Act.put, List.setIfInBounds_toArray, List.set_cons_zero, List.set_cons_succ]
  refine wpAnyH_take (i := 21) (oi := { dst := some 28, op := Op.binOp BinOp.add 9 (Operand.tmp 24) (Operand.tmp 27) 9, type := 9, pos := "entry.go:20", after := #[{ on := 17, ground := Ground.data }, { on := 20, ground := Ground.data }], guard := none }) (v := .string X5) rfl (by kernel_rfl) (by kernel_rfl) (by kernel_rfl) (fun _ _ _ h => h) (Or.inl ⟨by kernel_rfl, fun W hW => by simp [execOp, go_sem, n5, A5]⟩) hHeld16 ?_
  simp only [Act.put, List.setIfInBounds_toArray, List.set_cons_zero, List.set_cons_succ]
  refine wpAnyH_ready (rs := [25]) (by kernel_rfl) (by simp) ?_
  refine AllReadyH.cons (o := { dst := some 32, op := Op.call { callee := Callee.value (Operand.func 81), args := #[Operand.tmp 31], argTypes := #[5] }, type := 9, pos := "entry.go:22", after := #[{ on := 24, ground := Ground.data }, { on := 16, ground := Ground.chain }], guard := none }) rfl (fun K hK => ?_) AllReadyH.nil
  refine ite_wanted ?_ ?_
  · kernel_rfl
  go_simp
  refine (packByte_go (UInt8.ofNat err) w4).mono ?_
  rintro _ w5 ⟨rfl, hb5⟩
  have HK5 := hide (show Kept w1.heap.size w1 w5 from (unhide HK4).trans ((Kept.of hb5).mono (unhide HK4).size))
  clear hb5
  show K _ w5
  refine hK.out _ _ (unhide HSE w5 (unhide HK5)) (fun hHeld25 => ?_)
  clear hK K
  try simp only [Act.put, List.setIfInBounds_toArray, List.set_cons_zero, List.set_cons_succ]
  refine wpAnyH_take (i := 26) (oi := { dst := some 33, op := Op.binOp BinOp.add 9 (Operand.tmp 28) (Operand.tmp 32) 9, type := 9, pos := "entry.go:20", after := #[{ on := 21, ground := Ground.data }, { on := 25, ground := Ground.data }], guard := none }) (v := .string X6) rfl (by kernel_rfl) (by kernel_rfl) (by kernel_rfl) (fun _ _ _ h => h) (Or.inl ⟨by kernel_rfl, fun W hW => by simp [execOp, go_sem, n6, A6]⟩) hHeld25 ?_
  simp only [Act.put, List.setIfInBounds_toArray, List.set_cons_zero, List.set_cons_succ]
  refine wpAnyH_take (i := 30) (oi := { dst := some 37, op := Op.binOp BinOp.add 9 (Operand.tmp 33) (Operand.tmp 36) 9, type := 9, pos := "entry.go:20", after := #[{ on := 26, ground := Ground.data }, { on := 29, ground := Ground.data }], guard := none }) (v := .string X7) rfl (by kernel_rfl) (by kernel_rfl) (by kernel_rfl) (fun _ _ _ h => h) (Or.inl ⟨by kernel_rfl, fun W hW => by simp [execOp, go_sem, n7, A7]⟩) hHeld25 ?_
  simp only [Act.put, List.setIfInBounds_toArray, List.set_cons_zero, List.set_cons_succ]
  refine wpAnyH_take (i := 31) (oi := { dst := some 6, op := Op.assign (Operand.tmp 37), type := 9, pos := "entry.go:20", after := #[{ on := 30, ground := Ground.data }, { on := 25, ground := Ground.chain }, { on := 0, ground := Ground.phase }, { on := 1, ground := Ground.phase }, { on := 2, ground := Ground.phase }, { on := 3, ground := Ground.phase }, { on := 4, ground := Ground.phase }, { on := 5, ground := Ground.phase }, { on := 6, ground := Ground.phase }, { on := 7, ground := Ground.phase }, { on := 8, ground := Ground.phase }, { on := 9, ground := Ground.phase }, { on := 10, ground := Ground.phase }, { on := 11, ground := Ground.phase }, { on := 12, ground := Ground.phase }, { on := 13, ground := Ground.phase }, { on := 14, ground := Ground.phase }, { on := 15, ground := Ground.phase }, { on := 16, ground := Ground.phase }, { on := 17, ground := Ground.phase }, { on := 18, ground := Ground.phase }, { on := 19, ground := Ground.phase }, { on := 20, ground := Ground.phase }, { on := 21, ground := Ground.phase }, { on := 22, ground := Ground.phase }, { on := 23, ground := Ground.phase }, { on := 24, ground := Ground.phase }, { on := 25, ground := Ground.phase }, { on := 26, ground := Ground.phase }, { on := 27, ground := Ground.phase }, { on := 28, ground := Ground.phase }, { on := 29, ground := Ground.phase }, { on := 30, ground := Ground.phase }], guard := none }) (v := .string X7) rfl (by kernel_rfl) (by kernel_rfl) (by kernel_rfl) (fun _ _ _ h => h) (Or.inl ⟨by kernel_rfl, fun W hW => by kernel_rfl⟩) hHeld25 ?_
  simp only [Act.put, List.setIfInBounds_toArray, List.set_cons_zero, List.set_cons_succ]
  refine wpAnyH_done (by kernel_rfl) ?_ _
  go_wp2_with fail
  go_ret
  exact ⟨by rw [← unhide HX]; rfl, (unhide HK1).trans ((unhide HK5).mono (unhide HK1).size)⟩
set_option maxRecDepth 100000 in
theorem frame_go (e : ByteArray) (he : e.size ≤ 140737488355000) (w : World) : Calls Tryz.prog 79 #[.string e] w fun r w' => r = .returned (.string (frOf e)) ∧ Kept w.heap.size w w' := by
  have hcv : ∀ W : World, (convert 3 177 (.int .i64 (e.size : Int))).run Tryz.prog W = .ok (.int .u64 (e.size : Int)) W := fun W => conv_u64 e.size (by omega) W
  have s2 : (bs (leN e.size 2)).size = 2 := by rw [bs_size, leN_length]
  have hnz : (9223372036854775807 < (bs (leN e.size 2)).size + e.size) = False := eq_false (by omega)
  have HF := hide (show bs (leN e.size 2) ++ e = frOf e from rfl)
  go_enter Tryz.func79, Tryz.ntmps79
  go_wp2_with fail
  refine (packNumber_go e.size 2 _ (by decide) (by omega)).mono ?_
  rintro _ w2 ⟨rfl, hb⟩
  have HB := hide (Kept.of hb)
  clear hb
  generalize bs (leN e.size 2) = P at *
  go_wp2_with fail
  go_ret
  exact ⟨by rw [← unhide HF]; rfl, unhide HB⟩
set_option maxRecDepth 100000 in
set_option maxHeartbeats 1000000 in
theorem firstFr_go (s : ByteArray) (hs : s.size ≤ 140737488355000) (w : World) : Calls Tryz.prog 114 #[.string s] w fun r w' => r = .returned (.string (firstFr s)) ∧ Kept w.heap.size w w' := by
  by_cases hf : frOk s = true
  · have h2 := frOk_two hf
    have HR := hide (show firstFr s = s.extract 0 (2 + frSize s) from if_pos hf)
    have hes : (frEnt s).size = frSize s := by rw [frEnt, ByteArray.size_extract]; omega
    have hk := linkOf_size (D := (frEnt s).data.toList.take 32) (by rw [List.length_take, size_toList, hes]; have := fitsB_size h2.2.2; omega) (numOf ((frEnt s).extract 32 36).data.toList)
    have h1 := linkOf_one ((frEnt s).data.toList.take 32) (numOf ((frEnt s).extract 32 36).data.toList)
    have hlt := frSize_lt s
    go_enter Tryz.func114, Tryz.ntmps114
    go_wp2_with fail
    refine (readFrame_go s w (by omega)).mono ?_
    rintro _ w1 ⟨hy, _, hk1⟩
    obtain rfl := hy hf
    have HK := hide hk1
    clear hy hk1
    generalize linkOf ((frEnt s).data.toList.take 32) (numOf ((frEnt s).extract 32 36).data.toList) = lk1 at *
    generalize frEnt s = e at *
    generalize frSize s = n at *
    have hI1 : (0 : Int) ≤ 2 + (e.size : Int) := by omega
    have hI2 : 2 + (e.size : Int) ≤ (s.size : Int) := by omega
    have hT : (2 + (e.size : Int)).toNat = 2 + n := by omega
    have hi : (Tryz.prog.info? 179).map (·.size) = some lk1.size := by rw [hk]; exact info179
    go_wp2_with (first | (refine wpList_store_put rfl 179 _ _ rfl w1.heap.size lk1 rfl rfl 179 link0 (heap_alloc_new _ _) hi (by rw [hk]; rfl) h1 ?_; intro w2 hp2))
    go_ret
    refine ⟨?_, ?_⟩
    · rw [unhide HR]; rfl
    · exact ((unhide HK).alloc (unhide HK).size _).trans (Kept.of (hp2.below (unhide HK).size))
  · have hff : frOk s = false := by simpa using hf
    have HR := hide (show firstFr s = s from if_neg hf)
    go_enter Tryz.func114, Tryz.ntmps114
    go_wp2_with fail
    refine (readFrame_go s w (by omega)).mono ?_
    rintro _ w1 ⟨_, hn, hk1⟩
    obtain rfl := hn hff
    have HK := hide hk1
    clear hn hk1
    go_wp2_with (first | (refine wpList_store_put rfl 179 _ _ rfl w1.heap.size link0 rfl rfl 179 link0 (heap_alloc_new _ _) info179 rfl (linkOf_one (List.replicate 32 0) 0) ?_; intro w2 hp2))
    go_ret
    refine ⟨by rw [unhide HR]; rfl, ?_⟩
    exact ((unhide HK).alloc (unhide HK).size _).trans (Kept.of (hp2.below (unhide HK).size))
end Go.Proofs.YtlbacbcenejngaaGreatDoor
namespace Go.Proofs.YtlbacbcenejngaaGreatDoor
open Go.RowKit
theorem emp_yes {x : ByteArray} (h : x.size = 0) : x.toList.isEmpty = true := by rw [empty_iff, h]; rfl
theorem emp_no {x : ByteArray} (h : x.size ≠ 0) : x.toList.isEmpty = false := by rw [empty_iff]; simpa using h
set_option maxRecDepth 100000 in
set_option maxHeartbeats 1000000 in
theorem giveA_go (B : Nat) (w : World) (p : Nat) (v : Value) (k : Snk) (log : ByteArray) (h : SAt B 81 w p v k) (hle : k.data.size ≤ log.size) (ha : 0 ≤ k.app ∧ k.app + log.size ≤ 4294967296) (hf : k.fails.length ≤ 4294967296) :
    Calls Tryz.prog 80 #[.pointer (some ⟨p, 0, none⟩), .string log] w (skEnd B 81 w p v (.bool (giveF k log).2) (giveF k log).1) := by
  have hlI : (k.data.size : Int) ≤ (log.size : Int) := by omega
  have HG := hide (show giveF k log = giveGo k (lf log k.data.size) from rfl)
  have hls : (lf log k.data.size).size = log.size - k.data.size := lf_size _ _
  have HS := hide h
  clear h
  go_enter Tryz.func80, Tryz.ntmps80
  go_wp2_with fail
  refine (sink_read_go B w p v k (unhide HS)).mono ?_
  rintro _ wq ⟨rfl, hwq⟩
  obtain rfl : w = wq := hwq.symm
  go_wp2_with fail
  go_loopw [5] (fun vm wr => ∃ (m : ByteArray) (k1 : Snk) (v1 : Value), vm = .string m ∧ giveGo k1 m = giveGo k (lf log k.data.size) ∧ (SAt B 81 wr p v1 k1 ∧ Upd p v v1 w wr) ∧ m.size ≤ log.size ∧ k1.data.size + m.size ≤ log.size ∧ 0 ≤ k1.app ∧ k1.app + m.size ≤ k.app + log.size ∧ k1.fails = k.fails) (fun vm _ => szOf vm)
  case atStart =>
    refine ⟨lf log k.data.size, k, v, rfl, rfl, ⟨unhide HS, Upd.of_kept (Kept.refl _ _)⟩, by omega, by omega, by omega, by omega, rfl⟩
  case round =>
    obtain ⟨m, k1, v1, rfl, hgo, hsu, hm1, hm2, hm3, hm4, hm5⟩ := hrel
    have HGO := hide hgo
    have HSU := hide hsu
    have hfl : k1.fails.length ≤ 4294967296 := by rw [hm5]; exact hf
    have HFE := hide hm5
    clear hgo hsu hm5
    by_cases h0 : m.size = 0
    · have hemp := emp_yes h0
      have HE := hide (show giveF k log = (k1, true) by rw [unhide HG, ← unhide HGO, giveGo, dif_pos h0])
      go_wp2_with fail
      go_ret
      exact ⟨by rw [unhide HE]; rfl, v1, by rw [unhide HE]; exact (unhide HSU).1, (unhide HSU).2⟩
    · have hemp := emp_no h0
      have hff := firstFr_size h0
      have HX := hide (show giveF k log = if k1.took then giveGo (k1.append (firstFr m)) (lf m (firstFr m).size) else (k1.append (firstFr m), false) by rw [unhide HG, ← unhide HGO]; conv => lhs; rw [giveGo]; rw [dif_neg h0])
      go_wp2_with fail
      refine (firstFr_go m (by omega) wr).mono ?_
      rintro _ w1 ⟨rfl, hk1⟩
      have HSU1 := hide (And.intro ((unhide HSU).1.kept hk1) ((unhide HSU).2.trans (.of_kept hk1)))
      clear hk1 HSU
      generalize hF : firstFr m = F at *
      clear hF
      go_wp2_with fail
      refine (give_go B w1 p v1 k1 F (unhide HSU1).1 (by omega) hfl (by omega) (by omega)).mono ?_
      rintro _ w2 ⟨rfl, v2, hs2, hu2⟩
      have HSU2 := hide (And.intro hs2 ((unhide HSU1).2.trans hu2))
      clear hs2 hu2 HSU1
      by_cases ht : k1.took = true
      · have HA := hide (show k1.append F = { k1 with app := k1.app + 1, data := k1.data ++ F } from if_pos ht)
        have HX2 := hide (show giveF k log = giveGo (k1.append F) (lf m F.size) by rw [unhide HX, if_pos ht])
        have hFI : (F.size : Int) ≤ (m.size : Int) := by omega
        have hda : (k1.data ++ F).size = k1.data.size + F.size := ByteArray.size_append
        have hl2 : (lf m F.size).size = m.size - F.size := lf_size _ _
        rw [ht]
        go_wp2_with fail
        go_roundw
        case rel =>
          refine ⟨lf m F.size, k1.append F, v2, rfl, by rw [← unhide HX2, unhide HG], unhide HSU2, by omega, ?_, ?_, ?_, ?_⟩
          · rw [unhide HA]; show (k1.data ++ F).size + _ ≤ _; omega
          · rw [unhide HA]; show 0 ≤ k1.app + 1; omega
          · rw [unhide HA]; show k1.app + 1 + ((lf m F.size).size : Int) ≤ _; rw [lf_size]; omega
          · rw [unhide HA]; exact unhide HFE
        case measure => show (lf m F.size).size < m.size; rw [lf_size]; omega
      · have htf : k1.took = false := by simpa using ht
        have HX2 := hide (show giveF k log = (k1.append F, false) by rw [unhide HX, if_neg ht])
        rw [htf]
        go_wp2_with fail
        go_ret
        exact ⟨by rw [unhide HX2]; rfl, v2, by rw [unhide HX2]; exact (unhide HSU2).1, (unhide HSU2).2⟩
/-- A log in memory: its block, its row of sinks, the sinks. -/
def lcells (rv : Value) (cnt : Nat) (last : List UInt8) : Array Value := (rv :: Value.int .i64 (cnt : Int) :: blist last).toArray
structure LAt (B : Nat) (w : World) (lp : Nat) (rv : Value) (SL : List (Loc Snk)) (cnt : Nat) (last : List UInt8) : Prop where
  at' : w.heap[lp]? = some (.cells (lcells rv cnt last) 127 (0, 0))
  row : w.ownsRow B 41 1 rv SL.length (SL.map fun e => .pointer (some ⟨e.p, 0, none⟩))
  snk : Fam (PS B 81) w SL
  ge : B ≤ lp
  len : last.length = 32
/-- Its blocks. -/
def Lft (lp : Nat) (rv : Value) (SL : List (Loc Snk)) (k : Nat) : Prop := k = lp ∨ rv.ownBlock = some k ∨ ∃ e ∈ SL, e.p = k ∨ e.v.ownBlock = some k
theorem LAt.stay {B : Nat} {w w' : World} {lp : Nat} {rv : Value} {SL : List (Loc Snk)} {cnt : Nat} {last : List UInt8} (h : LAt B w lp rv SL cnt last) (hk : ∀ k, Lft lp rv SL k → w'.heap[k]? = w.heap[k]?) : LAt B w' lp rv SL cnt last :=
  ⟨(hk _ (.inl rfl)).trans h.at', own_blocks h.row fun k hk' => hk k (.inr (.inl hk')), h.snk.frame (wayS B 81 (by decide)) (fun k _ ⟨e, he, hp⟩ => hk k (.inr (.inr ⟨e, he, .inl hp⟩))) (fun k _ ⟨e, he, hp⟩ => hk k (.inr (.inr ⟨e, he, .inr hp⟩))), h.ge, h.len⟩
theorem LAt.foot {B : Nat} {w : World} {lp : Nat} {rv : Value} {SL : List (Loc Snk)} {cnt : Nat} {last : List UInt8} (h : LAt B w lp rv SL cnt last) {k : Nat} (hk : Lft lp rv SL k) : (k < w.heap.size ∧ B ≤ k) ∧ (TyAt w k 127 ∨ TyAt w k 41 ∨ TyAt w k 81 ∨ TyAt w k 3) := by
  rcases hk with rfl | hk | ⟨e, he, hk⟩
  · have : TyAt w k 127 := ⟨_, h.at'⟩
    exact ⟨⟨this.lt, h.ge⟩, .inl this⟩
  · have : TyAt w k 41 := own_ty h.row hk
    exact ⟨⟨this.lt, (h.row.lt k hk).1⟩, .inr (.inl this)⟩
  · have hP := h.snk.each e he
    rcases hk with rfl | hk
    · have := (wayS B 81 (by decide)).ty hP
      exact ⟨⟨this.lt, (wayS B 81 (by decide)).big hP⟩, .inr (.inr (.inl this))⟩
    · have := (wayS B 81 (by decide)).row hP hk
      exact ⟨⟨this.1.lt, this.2⟩, .inr (.inr (.inr this.1))⟩
theorem LAt.kept {B : Nat} {w w' : World} {lp : Nat} {rv : Value} {SL : List (Loc Snk)} {cnt : Nat} {last : List UInt8} (h : LAt B w lp rv SL cnt last) (hk : Kept w.heap.size w w') : LAt B w' lp rv SL cnt last := h.stay fun k hk' => hk.block k (h.foot hk').1.1
theorem LAt.c {B : Nat} {w : World} {lp : Nat} {rv : Value} {SL : List (Loc Snk)} {cnt : Nat} {last : List UInt8} (h : LAt B w lp rv SL cnt last) : w.cell? ⟨lp, 0, none⟩ = some rv ∧ w.cell? ⟨lp, 1, none⟩ = some (.int .i64 (cnt : Int)) ∧ w.rangeAt lp 2 (blist last) :=
  ⟨by rw [cell_of_row _ _ _ _ _ _ h.at']; rfl, by rw [cell_of_row _ _ _ _ _ _ h.at']; rfl, fun j v hv => by rw [cell_of_row _ _ _ _ _ _ h.at', ← Array.getElem?_toList, Nat.add_comm]; exact hv⟩
theorem most_drop {l : List Snk} {i : Nat} (hi : i < l.length) (m : ByteArray) : mostOf (l.drop i) m = mostOf (l.drop (i + 1)) (if m.size < l[i].data.size then l[i].data else m) := by rw [List.drop_eq_getElem_cons hi, mostOf]
set_option maxRecDepth 100000 in
set_option maxHeartbeats 1000000 in
theorem frames_go (B : Nat) (w : World) (lp : Nat) (rv : Value) (SL : List (Loc Snk)) (cnt : Nat) (last : List UInt8) (h : LAt B w lp rv SL cnt last) (hl : SL.length ≤ 1000) (hd : ∀ e ∈ SL, e.x.data.size ≤ 1099511627776) :
    Calls Tryz.prog 78 #[.pointer (some ⟨lp, 0, none⟩)] w fun e w' => e = .returned (.string (mostOf (SL.map (·.x)) .empty)) ∧ w' = w := by
  obtain ⟨ao, cap, rfl, hcap, hao⟩ := own_len h.row
  have hc0 := h.c.1
  have HR := hide h.row
  have HS := hide h.snk
  clear h
  go_enter Tryz.func78, Tryz.ntmps78
  go_wp2_with fail
  go_loopw [3, 12] (fun vm vi wr => ∃ (i : Nat) (m : ByteArray), i ≤ SL.length ∧ vi = .int .i64 i ∧ vm = .string m ∧ mostOf (SL.map (·.x)) .empty = mostOf ((SL.map (·.x)).drop i) m ∧ m.size ≤ 1099511627776 ∧ wr = w) (fun _ vi _ => SL.length - (intOf vi).toNat)
  case atStart => exact ⟨0, .empty, Nat.zero_le _, rfl, rfl, rfl, by decide, rfl⟩
  case round =>
    obtain ⟨i, m, hi, rfl, rfl, hmo, hms, hwr⟩ := hrel
    obtain rfl : w = wr := hwr.symm
    clear hwr
    have HM := hide hmo
    clear hmo
    by_cases hlt : i < SL.length
    · obtain ⟨g, rfl⟩ := hao (by omega)
      have hiI : (i : Int) < (SL.length : Int) := by omega
      have hi0 : (0 : Int) ≤ (i : Int) := by omega
      have hc : w.cell? ⟨g, i, none⟩ = some (.pointer (some ⟨SL[i].p, 0, none⟩)) := by
        obtain ⟨g', c', e1, e2⟩ := own_cell (unhide HR) hlt
        cases e1
        rw [e2, List.getD_eq_getElem?_getD, List.getElem?_map, List.getElem?_eq_getElem hlt]; rfl
      have hsk := (unhide HS).each SL[i] (List.getElem_mem hlt)
      have hds := hd SL[i] (List.getElem_mem hlt)
      have HN := hide (show mostOf (SL.map (·.x)) .empty = mostOf ((SL.map (·.x)).drop (i + 1)) (if m.size < SL[i].x.data.size then SL[i].x.data else m) by
        rw [unhide HM, most_drop (by simpa using hlt)]; simp)
      generalize SL[i] = e at *
      have HSK := hide hsk.1
      clear hsk
      go_wp2_with fail
      refine (sink_read_go B w e.p e.v e.x (unhide HSK)).mono ?_
      rintro _ wq ⟨rfl, hwq⟩
      obtain rfl : w = wq := hwq.symm
      generalize e.x.data = dt at *
      by_cases hb : m.size < dt.size
      · have hbI : (m.size : Int) < (dt.size : Int) := by omega
        rw [if_pos hb] at HN
        go_wp2_with fail
        go_roundw
        case rel => exact ⟨i + 1, dt, by omega, by go_num, rfl, unhide HN, hds, by first | rfl | trivial⟩
        case measure => simp [intOf]; omega
      · have hbI : ¬ (m.size : Int) < (dt.size : Int) := by omega
        rw [if_neg hb] at HN
        go_wp2_with fail
        go_roundw
        case rel => exact ⟨i + 1, m, by omega, by go_num, rfl, unhide HN, hms, by first | rfl | trivial⟩
        case measure => simp [intOf]; omega
    · have hiI : ¬ (i : Int) < (SL.length : Int) := by omega
      have HE := hide (show mostOf (SL.map (·.x)) .empty = m by rw [unhide HM, List.drop_eq_nil_of_le (by simp; omega)]; rfl)
      go_wp2_with fail
      go_ret
      exact ⟨by rw [unhide HE]; rfl, rfl⟩
end Go.Proofs.YtlbacbcenejngaaGreatDoor
namespace Go.Proofs.YtlbacbcenejngaaGreatDoor
open Go.RowKit
/-- Cells written one behind the other. -/
def setFrom (cs : Array Value) (o : Nat) : List Value → Array Value
  | [] => cs
  | v :: r => setFrom (cs.setIfInBounds o v) (o + 1) r
theorem setFrom_list : ∀ (vs pre old post : List Value), old.length = vs.length → setFrom (pre ++ old ++ post).toArray pre.length vs = (pre ++ vs ++ post).toArray
  | [], pre, old, post, h => by rw [List.length_eq_zero_iff.1 h, setFrom]
  | v :: r, pre, [], post, h => by simp at h
  | v :: r, pre, a :: old, post, h => by
    rw [setFrom]
    have := setFrom_list r (pre ++ [v]) old post (by simpa using h)
    simp only [List.length_append, List.length_singleton] at this
    rw [show (pre ++ a :: old ++ post).toArray.setIfInBounds pre.length v = (pre ++ [v] ++ old ++ post).toArray by simp, this]
    simp
theorem setCells_same : ∀ (vs : List Value) (w : World) (b o : Nat) (cs : Array Value) (t : TypeId), w.heap[b]? = some (.cells cs t (0, 0)) → (w.setCells b o vs).heap[b]? = some (.cells (setFrom cs o vs) t (0, 0))
  | [], w, b, o, cs, t, h => h
  | v :: r, w, b, o, cs, t, h => by
    rw [World.setCells, setFrom]
    exact setCells_same r _ b (o + 1) _ t (by rw [heap_setCell_same _ _ _ _ _ _ h])
theorem setCells_other : ∀ (vs : List Value) (w : World) (b o k : Nat), k ≠ b → (w.setCells b o vs).heap[k]? = w.heap[k]? ∧ (w.setCells b o vs).heap.size = w.heap.size ∧ (w.setCells b o vs).os = w.os ∧ (w.setCells b o vs).output = w.output
  | [], w, b, o, k, h => ⟨rfl, rfl, rfl, rfl⟩
  | v :: r, w, b, o, k, h => by
    rw [World.setCells]
    obtain ⟨h1, h2, h3, h4⟩ := setCells_other r (w.setCell ⟨b, o, none⟩ v) b (o + 1) k h
    exact ⟨h1.trans (heap_setCell_other _ _ _ _ h), h2.trans (by simp), h3, h4⟩
theorem setFrom_last {rv : Value} {cnt : Nat} {last new : List UInt8} (h : last.length = new.length) : setFrom (lcells rv cnt last) 2 (blist new) = lcells rv cnt new := by
  have := setFrom_list (blist new) [rv, .int .i64 (cnt : Int)] (blist last) [] (by simpa using h)
  simpa [lcells] using this
/-- One sink of a log changes. -/
theorem LAt.upd {B : Nat} {w w' : World} {lp : Nat} {rv : Value} {SL : List (Loc Snk)} {cnt : Nat} {last : List UInt8} (h : LAt B w lp rv SL cnt last) {i : Nat} (hi : i < SL.length) {v' : Value} {x' : Snk} (hP : SAt B 81 w' SL[i].p v' x') (hu : Upd SL[i].p SL[i].v v' w w') :
    LAt B w' lp rv (SL.set i ⟨SL[i].p, v', x'⟩) cnt last ∧ Chg (Lft lp rv SL) w w' ∧ ∀ k, Lft lp rv (SL.set i ⟨SL[i].p, v', x'⟩) k → Lft lp rv SL k ∨ w.heap.size ≤ k := by
  have hm := List.getElem_mem hi
  have hP0 := h.snk.each _ hm
  have hty := (wayS B 81 (by decide)).ty hP0
  have hne : ∀ k t, TyAt w k t → t = 127 ∨ t = 41 → w'.heap[k]? = w.heap[k]? := fun k t hk ht => by
    refine hu.block k hk.lt (fun e => ?_) fun e => ?_
    · subst e; exact hty.ne hk (by rcases ht with rfl | rfl <;> decide) rfl
    · exact ((wayS B 81 (by decide)).row hP0 e).1.ne hk (by rcases ht with rfl | rfl <;> decide) rfl
  refine ⟨⟨(hne lp 127 ⟨_, h.at'⟩ (.inl rfl)).trans h.at', ?_, h.snk.upd (wayS B 81 (by decide)) hi ⟨hP, hP0.2⟩ hu, h.ge, h.len⟩, ⟨hu.os, hu.output, hu.size, fun k hk hn => hu.block k hk (fun e => hn (.inr (.inr ⟨_, hm, .inl e.symm⟩))) (fun e => hn (.inr (.inr ⟨_, hm, .inr e⟩)))⟩, fun k hk => ?_⟩
  · have : (SL.set i ⟨SL[i].p, v', x'⟩).map (fun e => Value.pointer (some ⟨e.p, 0, none⟩)) = SL.map fun e => Value.pointer (some ⟨e.p, 0, none⟩) := by
      rw [List.map_set]
      apply List.ext_getElem?
      intro j
      rw [List.getElem?_set]
      by_cases hj : i = j
      · subst hj; simp [hi]
      · simp [hj]
    rw [List.length_set, this]
    exact own_blocks h.row fun k hk => hne k 41 (own_ty h.row hk) (.inr rfl)
  · rcases hk with hk | hk | ⟨e, he, hk⟩
    · exact .inl (.inl hk)
    · exact .inl (.inr (.inl hk))
    · rcases List.mem_or_eq_of_mem_set he with he | rfl
      · exact .inl (.inr (.inr ⟨e, he, hk⟩))
      · rcases hk with hk | hk
        · exact .inl (.inr (.inr ⟨_, hm, .inl hk⟩))
        · rcases hu.new k hk with hk | hk
          · exact .inl (.inr (.inr ⟨_, hm, .inr hk⟩))
          · exact .inr hk
abbrev ncells (bytes : ByteArray) (dg : List UInt8) : Array Value := sealA bytes dg
/-- Sinks behind the first i have been given the log. -/
def toS (SL : List (Loc Snk)) (log : ByteArray) (i : Nat) : List Snk := ((SL.take i).map fun e => (giveF e.x log).1) ++ (SL.drop i).map (·.x)
theorem toS_next {L SLi : List (Loc Snk)} {log : ByteArray} {i : Nat} (_hl : SLi.length = L.length) (hi : i < L.length) (h : SLi.map (·.x) = toS L log i) {p : Nat} {v : Value} : (∀ hi' : i < SLi.length, SLi[i].x = L[i].x) ∧ (SLi.set i ⟨p, v, (giveF L[i].x log).1⟩).map (·.x) = toS L log (i + 1) := by
  have hlen : ((L.take i).map fun e => (giveF e.x log).1).length = i := by simp; omega
  refine ⟨fun hi' => ?_, ?_⟩
  · have h1 : (SLi.map (·.x))[i]? = some SLi[i].x := by rw [List.getElem?_map, List.getElem?_eq_getElem hi']; rfl
    rw [h, toS, List.getElem?_append_right (by omega), hlen, Nat.sub_self, List.getElem?_map, List.getElem?_drop, Nat.add_zero, List.getElem?_eq_getElem hi] at h1
    simpa using h1.symm
  · rw [List.map_set, h, toS, toS, List.take_add_one, List.getElem?_eq_getElem hi, List.drop_eq_getElem_cons hi, List.map_cons, List.set_append_right _ _ (by omega), hlen, Nat.sub_self]
    simp only [Option.toList_some, List.map_append, List.map_cons, List.map_nil, List.append_assoc, List.cons_append, List.nil_append, List.set_cons_zero]
/-- Behind Lay. -/
def laid (cnt : Nat) (last dg : List UInt8) (ok : Bool) : Nat × List UInt8 := if ok then (cnt + 1, dg) else (cnt, last)
def lyEnd (B : Nat) (w : World) (lp : Nat) (rv : Value) (SL : List (Loc Snk)) (l2 : List Snk) (ok : Bool) (cnt : Nat) (last : List UInt8) (e : Ending) (w' : World) : Prop :=
  e = .returned (.bool ok) ∧ ∃ SL', LAt B w' lp rv SL' cnt last ∧ SL'.map (·.x) = l2 ∧ SL'.map (·.p) = SL.map (·.p) ∧ Chg (Lft lp rv SL) w w' ∧ ∀ k, Lft lp rv SL' k → Lft lp rv SL k ∨ w.heap.size ≤ k
theorem any_take {L : List (Loc Snk)} {log : ByteArray} {i : Nat} (hi : i < L.length) : ((L.take (i + 1)).any fun e => (giveF e.x log).2) = (((L.take i).any fun e => (giveF e.x log).2) || (giveF L[i].x log).2) := by
  rw [List.take_add_one, List.any_append, List.getElem?_eq_getElem hi]; simp
theorem info29s (D : List UInt8) (h : D.length = 32) : (Tryz.prog.info? 29).map (·.size) = some (blist D).length := by rw [info29]; simp [h]
set_option maxRecDepth 100000 in
set_option maxHeartbeats 2000000 in
theorem lay_go (B : Nat) (w : World) (lp : Nat) (rv : Value) (SL : List (Loc Snk)) (cnt : Nat) (last : List UInt8) (bytes : ByteArray) (dg : List UInt8) (h : LAt B w lp rv SL cnt last) (hdg : dg.length = 32) (hl : SL.length ≤ 1000) (hc : cnt < 4294967296) (hb : bytes.size ≤ 1000) (hd : ∀ e ∈ SL, e.x.data.size ≤ (mostOf (SL.map (·.x)) .empty).size) (hm : (mostOf (SL.map (·.x)) .empty).size ≤ 2147483648) (ha : ∀ e ∈ SL, 0 ≤ e.x.app ∧ e.x.app ≤ 2000000000) (hf : ∀ e ∈ SL, e.x.fails.length ≤ 4294967296) :
    Calls Tryz.prog 41 #[.pointer (some ⟨lp, 0, none⟩), .agg (ncells bytes dg)] w (lyEnd B w lp rv SL (layF (SL.map (·.x)) (mostOf (SL.map (·.x)) .empty ++ frOf bytes)).1 (layF (SL.map (·.x)) (mostOf (SL.map (·.x)) .empty ++ frOf bytes)).2 (laid cnt last dg (layF (SL.map (·.x)) (mostOf (SL.map (·.x)) .empty ++ frOf bytes)).2).1 (laid cnt last dg (layF (SL.map (·.x)) (mostOf (SL.map (·.x)) .empty ++ frOf bytes)).2).2) := by
  obtain ⟨w1, hw1⟩ : ∃ w1, w1 = w.alloc (.cells (ncells bytes dg) 90) := ⟨_, rfl⟩
  have hbx : w1.heap[w.heap.size]? = some (.cells (ncells bytes dg) 90 (0, 0)) := by rw [hw1]; exact heap_alloc_new _ _
  have HK1 := hide (show Kept w.heap.size w w1 by rw [hw1]; exact (Kept.refl _ _).alloc (Nat.le_refl _) _)
  have hz1 : w.heap.size < w1.heap.size := by rw [hw1]; simp
  have HL := hide (h.kept (unhide HK1))
  have HSN := hide (show ∀ W : World, W.heap[w.heap.size]? = some (.cells (ncells bytes dg) 90 (0, 0)) → W.cell? ⟨w.heap.size, 0, none⟩ = some (.string bytes) from fun W hW => by rw [cell_of_row _ _ _ _ _ _ hW]; rfl)
  obtain ⟨M, hM⟩ : ∃ M, M = mostOf (SL.map (·.x)) .empty := ⟨_, rfl⟩
  rw [← hM] at hd hm ⊢
  have hfr := frOf_size bytes
  have HFR := hide (And.intro hM rfl : M = mostOf (SL.map (·.x)) .empty ∧ frOf bytes = frOf bytes)
  obtain ⟨FR, hFR⟩ : ∃ F, F = frOf bytes := ⟨_, rfl⟩
  rw [← hFR] at hfr ⊢
  have HFB := hide hFR
  have hls : (M ++ FR).size = M.size + FR.size := ByteArray.size_append
  have hnz : (9223372036854775807 < M.size + FR.size) = False := eq_false (by omega)
  obtain ⟨log, hlog⟩ : ∃ log, log = M ++ FR := ⟨_, rfl⟩
  rw [← hlog] at hls ⊢
  have hadd := hlog.symm
  clear h hM hFR hlog
  go_enter Tryz.func41, Tryz.ntmps41
  go_wp2_with fail
  rw [← hw1]
  clear hw1
  refine wp_region_held_drew (S := fun W => W.heap[w.heap.size]? = some (.cells (ncells bytes dg) 90 (0, 0))) (by kernel_rfl) (show w1.heap[w.heap.size]? = _ from hbx) (fun hHeld => ?_)
  refine wpAnyH_take (i := 0) (oi := { dst := some 9, op := Op.move (Operand.tmp 0), type := 75, pos := "audit.go:49", after := #[], guard := none }) (v := .pointer (some ⟨lp, 0, none⟩)) rfl (by kernel_rfl) (by kernel_rfl) (by kernel_rfl) (fun _ _ _ h => h) (Or.inl ⟨by kernel_rfl, fun W hW => by kernel_rfl⟩) hHeld ?_
  simp only [Act.put, List.setIfInBounds_toArray, List.set_cons_zero, List.set_cons_succ]
  refine wpAnyH_take (i := 2) (oi := { dst := some 11, op := Op.fieldAddr 90 (Operand.tmp 3) 0, type := 0, pos := "audit.go:49", after := #[], guard := none }) (v := .pointer (some ⟨w.heap.size, 0, none⟩)) rfl (by kernel_rfl) (by kernel_rfl) (by kernel_rfl) (fun _ _ _ h => h) (Or.inl ⟨by kernel_rfl, fun W hW => by kernel_rfl⟩) hHeld ?_
  simp only [Act.put, List.setIfInBounds_toArray, List.set_cons_zero, List.set_cons_succ]
  refine wpAnyH_take (i := 3) (oi := { dst := some 12, op := Op.load 9 (Operand.tmp 11), type := 9, pos := "audit.go:49", after := #[{ on := 2, ground := Ground.data }], guard := none }) (v := .string bytes) rfl (by kernel_rfl) (by kernel_rfl) (by kernel_rfl) (fun _ _ _ h => h) (Or.inl ⟨by kernel_rfl, fun W hW => by simp [execOp, go_sem, unhide HSN W hW]⟩) hHeld ?_
  simp only [Act.put, List.setIfInBounds_toArray, List.set_cons_zero, List.set_cons_succ]
  refine wpAnyH_ready (rs := [1]) (by kernel_rfl) (by simp) ?_
  refine AllReadyH.cons (o := { dst := some 10, op := Op.call { callee := Callee.value (Operand.func 78), args := #[Operand.tmp 9], argTypes := #[75] }, type := 9, pos := "audit.go:49", after := #[{ on := 0, ground := Ground.data }], guard := none }) rfl (fun K hK => ?_) AllReadyH.nil
  refine ite_wanted ?_ ?_
  · kernel_rfl
  go_simp
  refine (frames_go B w1.drew lp rv SL cnt last ((unhide HL).kept ((Kept.refl _ _).draws 1)) hl (fun e he => by have := hd e he; omega)).mono ?_
  rintro _ w2 ⟨rfl, hw2⟩
  rw [← (unhide HFR).1]
  have HL2 := hide (show LAt B w2 lp rv SL cnt last by rw [hw2]; exact (unhide HL).kept ((Kept.refl _ _).draws 1))
  have hb2 : w2.heap[w.heap.size]? = some (.cells (ncells bytes dg) 90 (0, 0)) := by rw [hw2]; exact hbx
  have HK2 := hide (show Kept w.heap.size w w2 by rw [hw2]; exact (unhide HK1).draws 1)
  have hz2 : w.heap.size < w2.heap.size := by rw [hw2]; exact hz1
  clear hw2 hbx
  show K _ w2
  refine hK.out _ _ (hb2) (fun hHeld1 => ?_)
  clear hK K
  try simp only [Act.put, List.setIfInBounds_toArray, List.set_cons_zero, List.set_cons_succ]
  refine wpAnyH_ready (rs := [4]) (by kernel_rfl) (by simp) ?_
  refine AllReadyH.cons (o := { dst := some 13, op := Op.call { callee := Callee.value (Operand.func 79), args := #[Operand.tmp 12], argTypes := #[9] }, type := 9, pos := "audit.go:49", after := #[{ on := 3, ground := Ground.data }, { on := 1, ground := Ground.chain }], guard := none }) rfl (fun K hK => ?_) AllReadyH.nil
  refine ite_wanted ?_ ?_
  · kernel_rfl
  go_simp
  refine (frame_go bytes (by omega) w2).mono ?_
  rintro _ w3 ⟨rfl, hk3⟩
  rw [← unhide HFB]
  have HL3 := hide ((unhide HL2).kept hk3)
  have hb3 := (hk3.block _ hz2).trans hb2
  have HK3 := hide ((unhide HK2).trans (hk3.mono (by omega)))
  have hz3 : w.heap.size < w3.heap.size := Nat.lt_of_lt_of_le hz2 hk3.size
  clear hk3 hb2
  show K _ w3
  refine hK.out _ _ (hb3) (fun hHeld4 => ?_)
  clear hK K
  try simp only [Act.put, List.setIfInBounds_toArray, List.set_cons_zero, List.set_cons_succ]
  refine wpAnyH_take (i := 5) (oi := { dst := some 14, op := Op.binOp BinOp.add 9 (Operand.tmp 10) (Operand.tmp 13) 9, type := 9, pos := "audit.go:49", after := #[{ on := 1, ground := Ground.data }, { on := 4, ground := Ground.data }], guard := none }) (v := .string log) rfl (by kernel_rfl) (by kernel_rfl) (by kernel_rfl) (fun _ _ _ h => h) (Or.inl ⟨by kernel_rfl, fun W hW => by simp [execOp, go_sem, hnz, hadd]⟩) hHeld4 ?_
  simp only [Act.put, List.setIfInBounds_toArray, List.set_cons_zero, List.set_cons_succ]
  refine wpAnyH_take (i := 6) (oi := { dst := some 5, op := Op.assign (Operand.tmp 14), type := 9, pos := "audit.go:49", after := #[{ on := 5, ground := Ground.data }, { on := 4, ground := Ground.chain }, { on := 0, ground := Ground.phase }, { on := 1, ground := Ground.phase }, { on := 2, ground := Ground.phase }, { on := 3, ground := Ground.phase }, { on := 4, ground := Ground.phase }, { on := 5, ground := Ground.phase }], guard := none }) (v := .string log) rfl (by kernel_rfl) (by kernel_rfl) (by kernel_rfl) (fun _ _ _ h => h) (Or.inl ⟨by kernel_rfl, fun W hW => by kernel_rfl⟩) hHeld4 ?_
  simp only [Act.put, List.setIfInBounds_toArray, List.set_cons_zero, List.set_cons_succ]
  refine wpAnyH_done (by kernel_rfl) ?_ _
  clear hHeld hHeld1 hHeld4 HL HL2 HK1 HK2 hnz hadd
  obtain ⟨ao, cap, rfl, hcap, hao⟩ := own_len (unhide HL3).row
  have hc0 := (unhide HL3).c.1
  have HB3 := hide hb3
  clear hb3
  go_wp2_with fail
  go_loopw [6, 20] (fun vf vi wr => ∃ (i : Nat) (SLi : List (Loc Snk)), i ≤ SL.length ∧ vi = .int .i64 i ∧ vf = .bool ((SL.take i).any fun e => (giveF e.x log).2) ∧ SLi.length = SL.length ∧ SLi.map (·.x) = toS SL log i ∧ SLi.map (·.p) = SL.map (·.p) ∧ LAt B wr lp (.slice ao SL.length cap) SLi cnt last ∧ wr.heap[w.heap.size]? = some (.cells (ncells bytes dg) 90 (0, 0)) ∧ Chg (Lft lp (.slice ao SL.length cap) SL) w wr ∧ ∀ k, Lft lp (.slice ao SL.length cap) SLi k → Lft lp (.slice ao SL.length cap) SL k ∨ w.heap.size ≤ k) (fun _ vi _ => SL.length - (intOf vi).toNat)
  case atStart => exact ⟨0, SL, Nat.zero_le _, rfl, rfl, rfl, by simp [toS], rfl, unhide HL3, unhide HB3, (unhide HK3).chg.mono fun _ _ e => e.elim, fun k hk => .inl hk⟩
  case round =>
    obtain ⟨i, SLi, hi, rfl, rfl, hlen, hx, hpp, hlat, hbx, hch, hft⟩ := hrel
    have HLR := hide hlat
    have HRS := hide (And.intro hx (And.intro hpp (And.intro hbx (And.intro hch hft))))
    clear hlat hx hpp hbx hch hft
    by_cases hlt : i < SL.length
    · obtain ⟨g, rfl⟩ := hao (by omega)
      have hiI : (i : Int) < (SL.length : Int) := by omega
      have hi0 : (0 : Int) ≤ (i : Int) := by omega
      have hlt' : i < SLi.length := by omega
      have hxi := (toS_next (p := 0) (v := undef) hlen hlt (unhide HRS).1).1 hlt'
      have hcl : wr.cell? ⟨g, i, none⟩ = some (.pointer (some ⟨SLi[i].p, 0, none⟩)) := by
        have hrow := (unhide HLR).row
        rw [hlen] at hrow
        obtain ⟨g', c', e1, e2⟩ := own_cell hrow hlt
        cases e1
        rw [e2, List.getD_eq_getElem?_getD, List.getElem?_map, List.getElem?_eq_getElem hlt']; rfl
      have hsk := ((unhide HLR).snk.each SLi[i] (List.getElem_mem hlt')).1
      have hds := hd SL[i] (List.getElem_mem hlt)
      have has := ha SL[i] (List.getElem_mem hlt)
      have hfs := hf SL[i] (List.getElem_mem hlt)
      rw [hxi] at hsk
      have HNX := hide (fun (w2 : World) (v2 : Value) (h2 : SAt B 81 w2 SLi[i].p v2 (giveF SL[i].x log).1) (u2 : Upd SLi[i].p SLi[i].v v2 wr w2) => (unhide HLR).upd hlt' h2 u2)
      have HTO := hide (fun (v2 : Value) => (toS_next (p := SLi[i].p) (v := v2) hlen hlt (unhide HRS).1).2)
      have HPP := hide (show ∀ v2 x2, (SLi.set i ⟨SLi[i].p, v2, x2⟩).map (·.p) = SL.map (·.p) from fun v2 x2 => by
        rw [← (unhide HRS).2.1, List.map_set]
        apply List.ext_getElem?
        intro j
        rw [List.getElem?_set]
        by_cases hj : i = j
        · subst hj; simp [hlt']
        · simp [hj])
      have HPT := hide ((wayS B 81 (by decide)).ty ((unhide HLR).snk.each SLi[i] (List.getElem_mem hlt')))
      have HPR := hide (show ∀ k, SLi[i].v.ownBlock = some k → TyAt wr k 3 from fun k hk => ((wayS B 81 (by decide)).row ((unhide HLR).snk.each SLi[i] (List.getElem_mem hlt')) hk).1)
      have HMEM := hide (List.getElem_mem hlt')
      have HANY := hide (any_take (log := log) hlt)
      have HSK := hide hsk
      clear hsk hxi
      generalize SLi[i] = e at *
      generalize SL[i].x = k0 at *
      go_wp2_with fail
      refine (giveA_go B wr e.p e.v k0 log (unhide HSK) (by omega) (by omega) hfs).mono ?_
      rintro _ w2 ⟨rfl, v2, hs2, hu2⟩
      have hn2 := unhide HNX w2 v2 hs2 hu2
      have hb2 : w2.heap[w.heap.size]? = some (.cells (ncells bytes dg) 90 (0, 0)) := by
        have hb := (unhide HRS).2.2.1
        refine (hu2.block _ (Array.getElem?_eq_some_iff.1 hb).1 (fun e' => ?_) (fun e' => ?_)).trans hb
        · exact (unhide HPT).ne ⟨_, hb⟩ (by decide) e'.symm
        · exact (unhide HPR _ e').ne ⟨_, hb⟩ (by decide) rfl
      have HEND := hide (And.intro hn2.1 (And.intro hb2 (And.intro ((unhide HRS).2.2.2.1.trans' hn2.2.1 (fun k hk e => by rcases (unhide HRS).2.2.2.2 k e with e | e; exact e; exact absurd hk (by omega))) (show ∀ k, Lft lp _ (SLi.set i ⟨e.p, v2, (giveF k0 log).1⟩) k → Lft lp _ SL k ∨ w.heap.size ≤ k from fun k hk => by
        rcases hn2.2.2 k hk with hk | hk
        · exact (unhide HRS).2.2.2.2 k hk
        · exact .inr (by have := (unhide HRS).2.2.2.1.size; omega)))))
      clear hs2 hu2 hn2 hb2
      cases hg : (giveF k0 log).2
      · rw [hg] at HANY
        go_wp2_with fail
        go_roundw
        case rel =>
          refine ⟨i + 1, SLi.set i ⟨e.p, v2, (giveF k0 log).1⟩, by omega, by go_num, by rw [unhide HANY, Bool.or_false], by rw [List.length_set]; exact hlen, unhide HTO v2, unhide HPP v2 _, (unhide HEND).1, (unhide HEND).2.1, (unhide HEND).2.2.1, (unhide HEND).2.2.2⟩
        case measure => simp [intOf]; omega
      · rw [hg] at HANY
        go_wp2_with fail
        go_roundw
        case rel =>
          refine ⟨i + 1, SLi.set i ⟨e.p, v2, (giveF k0 log).1⟩, by omega, by go_num, by rw [unhide HANY, Bool.or_true], by rw [List.length_set]; exact hlen, unhide HTO v2, unhide HPP v2 _, (unhide HEND).1, (unhide HEND).2.1, (unhide HEND).2.2.1, (unhide HEND).2.2.2⟩
        case measure => simp [intOf]; omega
    · obtain rfl : i = SL.length := by omega
      have hiI : ¬ (SL.length : Int) < (SL.length : Int) := by omega
      have hto : toS SL log SL.length = (layF (SL.map (·.x)) log).1 := by simp [toS, layF, Function.comp]
      have hany : ((SL.take SL.length).any fun e => (giveF e.x log).2) = (layF (SL.map (·.x)) log).2 := by rw [List.take_length, layF, List.any_map]; rfl
      rw [hany]
      have HX := hide (show SLi.map (·.x) = (layF (SL.map (·.x)) log).1 by rw [(unhide HRS).1, hto])
      clear hto hany
      obtain ⟨l2, ok, hlo⟩ : ∃ l2 ok, layF (SL.map (·.x)) log = (l2, ok) := ⟨_, _, rfl⟩
      rw [hlo] at HX ⊢
      have HLO := hide hlo
      clear hlo
      have c1 := (unhide HLR).c.2.1
      have at0 := (unhide HLR).at'
      have fz1 := frozen_of_row _ _ 1 _ _ at0
      have hcn : (cnt : Int) + 1 ≤ 9223372036854775807 := by omega
      cases ok
      · go_wp2_with fail
        go_ret
        refine ⟨by rw [unhide HLO]; rfl, SLi, ?_, ?_, (unhide HRS).2.1, (unhide HRS).2.2.2.1, (unhide HRS).2.2.2.2⟩
        · rw [unhide HLO]; exact unhide HLR
        · rw [unhide HLO]; exact unhide HX
      · have hnl : w.heap.size ≠ lp := fun e' => by
          have hb := (unhide HRS).2.2.1
          rw [e', at0] at hb
          cases hb
        obtain ⟨w5, hw5⟩ : ∃ w5, w5 = wr.setCell ⟨lp, 1, none⟩ (.int .i64 ((cnt : Int) + 1)) := ⟨_, rfl⟩
        have at5 : w5.heap[lp]? = some (.cells (lcells (.slice ao SL.length cap) (cnt + 1) last) 127 (0, 0)) := by rw [hw5, heap_setCell_same _ _ _ _ _ _ at0]; rfl
        have bx5 : w5.heap[w.heap.size]? = some (.cells (ncells bytes dg) 90 (0, 0)) := by rw [hw5, heap_setCell_other _ _ _ _ hnl]; exact (unhide HRS).2.2.1
        have hrg : w5.rangeAt w.heap.size 1 (blist dg) := fun j v hv => by rw [cell_of_row _ _ _ _ _ _ bx5, ← Array.getElem?_toList, Nat.add_comm]; exact hv
        have hth : w5.there lp 2 (brow dg).size := fun j hj => by
          rw [brow_size, hdg] at hj
          refine ⟨?_, frozen_of_row _ _ _ _ _ at5⟩
          rw [cell_of_row _ _ _ _ _ _ at5, ← Array.getElem?_toList, Nat.add_comm 2 j]
          show ((blist last)[j]?).isSome = true
          rw [List.getElem?_map, List.getElem?_eq_getElem (by rw [(unhide HLR).len]; exact hj)]; rfl
        have HEND := hide (show LAt B (w5.setCells lp 2 (blist dg)) lp (.slice ao SL.length cap) SLi (cnt + 1) dg ∧ Chg (fun k => k = lp) wr (w5.setCells lp 2 (blist dg)) from by
          have hat := setCells_same (blist dg) w5 lp 2 _ _ at5
          rw [setFrom_last (by rw [(unhide HLR).len, hdg])] at hat
          have hot : ∀ k, k ≠ lp → (w5.setCells lp 2 (blist dg)).heap[k]? = wr.heap[k]? := fun k hk => (setCells_other (blist dg) w5 lp 2 k hk).1.trans (by rw [hw5]; exact heap_setCell_other _ _ _ _ hk)
          have hsz := (setCells_other (blist dg) w5 lp 2 (lp + 1) (by omega)).2
          have hw5s : w5.heap.size = wr.heap.size ∧ w5.os = wr.os ∧ w5.output = wr.output := by rw [hw5]; exact ⟨by simp, rfl, rfl⟩
          have hT0 : TyAt wr lp 127 := ⟨_, at0⟩
          refine ⟨⟨hat, own_blocks (unhide HLR).row fun k hk => hot k (fun e' => (show TyAt wr k 41 from own_ty (unhide HLR).row hk).ne hT0 (by decide) e'), (unhide HLR).snk.frame (wayS B 81 (by decide)) (fun k hk _ => hot k (fun e' => hk.ne hT0 (by decide) e')) (fun k hk _ => hot k (fun e' => hk.ne hT0 (by decide) e')), (unhide HLR).ge, hdg⟩, ⟨hsz.2.1.trans hw5s.2.1, hsz.2.2.trans hw5s.2.2, by rw [hsz.1, hw5s.1]; exact Nat.le_refl _, fun k _ hk => hot k hk⟩⟩)
        have hi29 := info29s dg hdg
        have hi29b : (Tryz.prog.info? 29).map (·.size) = some (brow dg).size := by rw [brow_size, hdg]; exact info29
        have h1b := brow_one dg
        clear at5 bx5 at0
        go_wp2_with (first
          | (rw [← hw5]; refine wpList_load_mid rfl 29 (.tmp 37) rfl w.heap.size 1 ?_ (blist dg) _ hrg Tryz.underlying29 rfl hi29 ?_
             · rfl)
          | (rw [← hw5]; refine wpList_store_mid rfl 29 (.tmp 40) (.tmp 38) rfl lp 2 (brow dg) ?_ ?_ hth hi29b h1b ?_
             · rfl
             · rfl))
        go_ret
        subst hw5
        refine ⟨by rw [unhide HLO]; rfl, SLi, ?_, ?_, (unhide HRS).2.1, ?_, (unhide HRS).2.2.2.2⟩
        · rw [unhide HLO]; exact (unhide HEND).1
        · rw [unhide HLO]; exact unhide HX
        · exact (unhide HRS).2.2.2.1.trans' (unhide HEND).2 fun k _ e => .inl e
end Go.Proofs.YtlbacbcenejngaaGreatDoor
namespace Go.Proofs.YtlbacbcenejngaaGreatDoor
open Go.RowKit
theorem list32 {l : List UInt8} (h : l.length = 32) : ∃ a0 a1 a2 a3 a4 a5 a6 a7 a8 a9 a10 a11 a12 a13 a14 a15 a16 a17 a18 a19 a20 a21 a22 a23 a24 a25 a26 a27 a28 a29 a30 a31 : UInt8, l = [a0, a1, a2, a3, a4, a5, a6, a7, a8, a9, a10, a11, a12, a13, a14, a15, a16, a17, a18, a19, a20, a21, a22, a23, a24, a25, a26, a27, a28, a29, a30, a31] := by
  rcases l with _ | ⟨a0, l⟩
  · simp at h
  rcases l with _ | ⟨a1, l⟩
  · simp at h
  rcases l with _ | ⟨a2, l⟩
  · simp at h
  rcases l with _ | ⟨a3, l⟩
  · simp at h
  rcases l with _ | ⟨a4, l⟩
  · simp at h
  rcases l with _ | ⟨a5, l⟩
  · simp at h
  rcases l with _ | ⟨a6, l⟩
  · simp at h
  rcases l with _ | ⟨a7, l⟩
  · simp at h
  rcases l with _ | ⟨a8, l⟩
  · simp at h
  rcases l with _ | ⟨a9, l⟩
  · simp at h
  rcases l with _ | ⟨a10, l⟩
  · simp at h
  rcases l with _ | ⟨a11, l⟩
  · simp at h
  rcases l with _ | ⟨a12, l⟩
  · simp at h
  rcases l with _ | ⟨a13, l⟩
  · simp at h
  rcases l with _ | ⟨a14, l⟩
  · simp at h
  rcases l with _ | ⟨a15, l⟩
  · simp at h
  rcases l with _ | ⟨a16, l⟩
  · simp at h
  rcases l with _ | ⟨a17, l⟩
  · simp at h
  rcases l with _ | ⟨a18, l⟩
  · simp at h
  rcases l with _ | ⟨a19, l⟩
  · simp at h
  rcases l with _ | ⟨a20, l⟩
  · simp at h
  rcases l with _ | ⟨a21, l⟩
  · simp at h
  rcases l with _ | ⟨a22, l⟩
  · simp at h
  rcases l with _ | ⟨a23, l⟩
  · simp at h
  rcases l with _ | ⟨a24, l⟩
  · simp at h
  rcases l with _ | ⟨a25, l⟩
  · simp at h
  rcases l with _ | ⟨a26, l⟩
  · simp at h
  rcases l with _ | ⟨a27, l⟩
  · simp at h
  rcases l with _ | ⟨a28, l⟩
  · simp at h
  rcases l with _ | ⟨a29, l⟩
  · simp at h
  rcases l with _ | ⟨a30, l⟩
  · simp at h
  rcases l with _ | ⟨a31, l⟩
  · simp at h
  obtain rfl : l = [] := by simpa using h
  exact ⟨a0, a1, a2, a3, a4, a5, a6, a7, a8, a9, a10, a11, a12, a13, a14, a15, a16, a17, a18, a19, a20, a21, a22, a23, a24, a25, a26, a27, a28, a29, a30, a31, rfl⟩
set_option maxRecDepth 100000 in
theorem build93 (op : UInt8) {who rest more : List UInt8} (hw : who.length = 32) (hr : rest.length = 32) (hm : more.length = 32) (path : ByteArray) (err : Nat) (W : World) :
    (Instr.build 93 #[(0, .int .u8 (op.toNat : Int)), (1, .agg (brow who)), (2, .string path), (3, .agg (brow rest)), (4, .int .i64 (err : Int)), (5, .agg (brow more))]).run Tryz.prog W = .ok (.agg (ecells op who path rest err more)) W := by
  obtain ⟨a0, a1, a2, a3, a4, a5, a6, a7, a8, a9, a10, a11, a12, a13, a14, a15, a16, a17, a18, a19, a20, a21, a22, a23, a24, a25, a26, a27, a28, a29, a30, a31, rfl⟩ := list32 hw
  obtain ⟨b0, b1, b2, b3, b4, b5, b6, b7, b8, b9, b10, b11, b12, b13, b14, b15, b16, b17, b18, b19, b20, b21, b22, b23, b24, b25, b26, b27, b28, b29, b30, b31, rfl⟩ := list32 hr
  obtain ⟨c0, c1, c2, c3, c4, c5, c6, c7, c8, c9, c10, c11, c12, c13, c14, c15, c16, c17, c18, c19, c20, c21, c22, c23, c24, c25, c26, c27, c28, c29, c30, c31, rfl⟩ := list32 hm
  kernel_rfl
theorem info90 : (Tryz.prog.info? 90).map (·.size) = some 33 := by kernel_rfl
theorem info93 : (Tryz.prog.info? 93).map (·.size) = some 99 := by kernel_rfl
theorem row_range {W : World} {b : Nat} {E : Array Value} {ty : TypeId} (h : W.heap[b]? = some (.cells E ty (0, 0))) : W.rangeAt b 0 E.toList := fun j v hv => by rw [Nat.zero_add, cell_of_row _ _ _ _ _ _ h, ← Array.getElem?_toList]; exact hv
theorem nc_one (bytes : ByteArray) (dg : List UInt8) : (ncells bytes dg).all (·.oneCell') = true := by
  refine all_oneCell_toArray fun v hv => ?_
  rcases List.mem_cons.1 hv with rfl | h
  · rfl
  · exact blist_one dg v h
theorem ec_one (op : UInt8) (who rest more : List UInt8) (path : ByteArray) (err : Nat) : (ecells op who path rest err more).all (·.oneCell') = true := by
  refine all_oneCell_toArray fun v hv => ?_
  simp only [List.mem_cons, List.mem_append] at hv
  rcases hv with rfl | h | rfl | h | rfl | h
  · rfl
  · exact blist_one _ v h
  · rfl
  · exact blist_one _ v h
  · rfl
  · exact blist_one _ v h
/-- A number and a row are returned. -/
theorem hd_ret {fn : Func} {R : Ending → World → Prop} {tmps : Array Value} {w : World} {i j b : Nat} {n : Int} {D : List UInt8} (hf : fn.results = #[.tmp i, .cell j 29]) (hD : D.length = 32) (h1 : tmps.getD i undef = .int .i64 n) (h2 : tmps.getD j undef = .pointer (some ⟨b, 0, none⟩)) (hrow : w.heap[b]? = some (.cells (brow D) 29 (0, 0)))
    (hR : R (.returned (.tuple #[.int .i64 n, .agg (brow D)])) w) : bodyPost Tryz.prog fn R .ret { tmps := tmps, defers := [] } w := by
  have h1' : tmps[i]?.getD undef = .int .i64 n := by simpa using h1
  have h2' : tmps[j]?.getD undef = .pointer (some ⟨b, 0, none⟩) := by simpa using h2
  have l1 : (loadVar 29 ⟨b, 0, none⟩).run Tryz.prog w = .ok (.agg (brow D)) w := run_loadVar_row w _ 29 29 (brow D) (0, 0) _ hrow Tryz.underlying29 rfl (by rw [brow_size, hD]; exact info29)
  refine bodyPost_ret (v := .tuple #[.int .i64 n, .agg (brow D)]) ?_ rfl hR
  simp [results, hf, h1', h2', asAddr, l1]
set_option maxRecDepth 100000 in
set_option maxHeartbeats 1000000 in
theorem headA_go (B : Nat) (w : World) (lp : Nat) (rv : Value) (SL : List (Loc Snk)) (cnt : Nat) (last : List UInt8) (h : LAt B w lp rv SL cnt last) :
    Calls Tryz.prog 31 #[.pointer (some ⟨lp, 0, none⟩)] w fun e w' => e = .returned (.tuple #[.int .i64 (cnt : Int), .agg (brow last)]) ∧ Kept w.heap.size w w' := by
  have hlen := h.len
  obtain ⟨w1, hw1⟩ : ∃ w1, w1 = w.alloc (.cells (brow (List.replicate 32 0)) 29) := ⟨_, rfl⟩
  have hbx : w1.heap[w.heap.size]? = some (.cells (brow (List.replicate 32 0)) 29 (0, 0)) := by rw [hw1]; exact heap_alloc_new _ _
  have HK1 := hide (show Kept w.heap.size w w1 by rw [hw1]; exact (Kept.refl _ _).alloc (Nat.le_refl _) _)
  have HS := hide (show ∀ W, Kept w.heap.size w W → W.cell? ⟨lp, 1, none⟩ = some (.int .i64 (cnt : Int)) ∧ W.rangeAt lp 2 (blist last) from fun W hW => (h.kept hW).c.2)
  have hi29 := info29s last hlen
  clear h
  go_enter Tryz.func31, Tryz.ntmps31
  go_wp2_with fail
  change Code.wp _ _ _ _ (w.alloc (.cells (brow (List.replicate 32 0)) 29))
  rw [← hw1]
  clear hw1
  refine wp_region_held_drew (S := fun W => W.cell? ⟨lp, 1, none⟩ = some (.int .i64 (cnt : Int)) ∧ W.rangeAt lp 2 (blist last)) (by kernel_rfl) (unhide HS w1.drew ((unhide HK1).draws 1)) (fun hHeld => ?_)
  refine wpAnyH_take (i := 0) (oi := { dst := some 4, op := Op.move (Operand.tmp 0), type := 75, pos := "audit.go:39", after := #[], guard := none }) (v := .pointer (some ⟨lp, 0, none⟩)) rfl (by kernel_rfl) (by kernel_rfl) (by kernel_rfl) (fun _ _ _ h => h) (Or.inl ⟨by kernel_rfl, fun W hW => by kernel_rfl⟩) hHeld ?_
  simp only [Act.put, List.setIfInBounds_toArray, List.set_cons_zero, List.set_cons_succ]
  refine wpAnyH_take (i := 1) (oi := { dst := some 5, op := Op.nilCheck (Operand.tmp 4), type := 0, pos := "audit.go:39", after := #[{ on := 0, ground := Ground.data }], guard := none }) (v := .pointer (some ⟨lp, 0, none⟩)) rfl (by kernel_rfl) (by kernel_rfl) (by kernel_rfl) (fun _ _ _ h => h) (Or.inl ⟨by kernel_rfl, fun W hW => by kernel_rfl⟩) hHeld ?_
  simp only [Act.put, List.setIfInBounds_toArray, List.set_cons_zero, List.set_cons_succ]
  refine wpAnyH_take (i := 2) (oi := { dst := some 6, op := Op.fieldAddr 127 (Operand.tmp 5) 1, type := 0, pos := "audit.go:39", after := #[{ on := 1, ground := Ground.data }], guard := none }) (v := .pointer (some ⟨lp, 1, none⟩)) rfl (by kernel_rfl) (by kernel_rfl) (by kernel_rfl) (fun _ _ _ h => h) (Or.inl ⟨by kernel_rfl, fun W hW => by kernel_rfl⟩) hHeld ?_
  simp only [Act.put, List.setIfInBounds_toArray, List.set_cons_zero, List.set_cons_succ]
  refine wpAnyH_take (i := 3) (oi := { dst := some 7, op := Op.load 3 (Operand.tmp 6), type := 3, pos := "audit.go:39", after := #[{ on := 2, ground := Ground.data }], guard := none }) (v := .int .i64 (cnt : Int)) rfl (by kernel_rfl) (by kernel_rfl) (by kernel_rfl) (fun _ _ _ h => h) (Or.inl ⟨by kernel_rfl, fun W hW => by simp [execOp, go_sem, hW.1]⟩) hHeld ?_
  simp only [Act.put, List.setIfInBounds_toArray, List.set_cons_zero, List.set_cons_succ]
  refine wpAnyH_take (i := 4) (oi := { dst := some 8, op := Op.move (Operand.tmp 0), type := 75, pos := "audit.go:39", after := #[{ on := 8, ground := Ground.gcOnly Departure.lateStores }], guard := none }) (v := .pointer (some ⟨lp, 0, none⟩)) rfl (by kernel_rfl) (by kernel_rfl) (by kernel_rfl) (fun _ _ _ h => h) (Or.inl ⟨by kernel_rfl, fun W hW => by kernel_rfl⟩) hHeld ?_
  simp only [Act.put, List.setIfInBounds_toArray, List.set_cons_zero, List.set_cons_succ]
  refine wpAnyH_take (i := 5) (oi := { dst := some 9, op := Op.nilCheck (Operand.tmp 8), type := 0, pos := "audit.go:39", after := #[{ on := 4, ground := Ground.data }, { on := 8, ground := Ground.gcOnly Departure.lateStores }], guard := none }) (v := .pointer (some ⟨lp, 0, none⟩)) rfl (by kernel_rfl) (by kernel_rfl) (by kernel_rfl) (fun _ _ _ h => h) (Or.inl ⟨by kernel_rfl, fun W hW => by kernel_rfl⟩) hHeld ?_
  simp only [Act.put, List.setIfInBounds_toArray, List.set_cons_zero, List.set_cons_succ]
  refine wpAnyH_take (i := 6) (oi := { dst := some 10, op := Op.fieldAddr 127 (Operand.tmp 9) 2, type := 0, pos := "audit.go:39", after := #[{ on := 5, ground := Ground.data }, { on := 8, ground := Ground.gcOnly Departure.lateStores }], guard := none }) (v := .pointer (some ⟨lp, 2, none⟩)) rfl (by kernel_rfl) (by kernel_rfl) (by kernel_rfl) (fun _ _ _ h => h) (Or.inl ⟨by kernel_rfl, fun W hW => by kernel_rfl⟩) hHeld ?_
  simp only [Act.put, List.setIfInBounds_toArray, List.set_cons_zero, List.set_cons_succ]
  refine wpAnyH_take (i := 7) (oi := { dst := some 11, op := Op.load 29 (Operand.tmp 10), type := 29, pos := "audit.go:39", after := #[{ on := 6, ground := Ground.data }, { on := 8, ground := Ground.gcOnly Departure.lateStores }], guard := none }) (v := .agg (blist last).toArray) rfl (by kernel_rfl) (by kernel_rfl) (by kernel_rfl) (fun _ _ _ h => h) (yieldsIf_load_mid (by kernel_rfl) 29 (.tmp 10) rfl lp 2 (by kernel_rfl) (blist last) _ (fun W hW => hW.2) Tryz.underlying29 rfl hi29) hHeld ?_
  simp only [Act.put, List.setIfInBounds_toArray, List.set_cons_zero, List.set_cons_succ]
  refine wpAnyH_take (i := 8) (oi := { dst := some 2, op := Op.assign (Operand.tmp 7), type := 3, pos := "audit.go:39", after := #[{ on := 3, ground := Ground.data }, { on := 0, ground := Ground.phase }, { on := 1, ground := Ground.phase }, { on := 2, ground := Ground.phase }, { on := 3, ground := Ground.phase }, { on := 4, ground := Ground.textOnly Departure.lateStores }, { on := 5, ground := Ground.textOnly Departure.lateStores }, { on := 6, ground := Ground.textOnly Departure.lateStores }, { on := 7, ground := Ground.textOnly Departure.lateStores }], guard := none }) (v := .int .i64 (cnt : Int)) rfl (by kernel_rfl) (by kernel_rfl) (by kernel_rfl) (fun _ _ _ h => h) (Or.inl ⟨by kernel_rfl, fun W hW => by kernel_rfl⟩) hHeld ?_
  simp only [Act.put, List.setIfInBounds_toArray, List.set_cons_zero, List.set_cons_succ]
  refine wpAnyH_ready (rs := [9]) (by kernel_rfl) (by simp) ?_
  refine AllReadyH.cons (o := { dst := none, op := Op.store 29 (Operand.tmp 3) (Operand.tmp 11), type := 0, pos := "audit.go:39", after := #[{ on := 7, ground := Ground.data }, { on := 8, ground := Ground.chain }, { on := 0, ground := Ground.phase }, { on := 1, ground := Ground.phase }, { on := 2, ground := Ground.phase }, { on := 3, ground := Ground.phase }, { on := 4, ground := Ground.phase }, { on := 5, ground := Ground.phase }, { on := 6, ground := Ground.phase }, { on := 7, ground := Ground.phase }, { on := 8, ground := Ground.phase }], guard := none }) rfl (fun K hK => ?_) AllReadyH.nil
  refine ite_wanted ?_ ?_
  · kernel_rfl
  refine wp_store_row 29 (.tmp 3) (.tmp 11) ?_ w.heap.size (brow last) ?_ ?_ 29 _ (show w1.drew.heap[w.heap.size]? = _ from hbx) (by rw [brow_size, hlen]; exact info29) (by rw [brow_size, brow_size, hlen]; rfl) (brow_one _) ?_
  · rfl
  · kernel_rfl
  · kernel_rfl
  simp only [Act.put]
  have hr5 : (w1.drew.setRow w.heap.size (brow last)).heap[w.heap.size]? = some (.cells (brow last) 29 (0, 0)) := setRow_heap _ _ _ _ _ _ (show w1.drew.heap[w.heap.size]? = _ from hbx)
  have HK5 := hide (show Kept w.heap.size w (w1.drew.setRow w.heap.size (brow last)) from ((unhide HK1).draws 1).setRow (Nat.le_refl _) (brow last))
  generalize w1.drew.setRow w.heap.size (brow last) = w5 at hr5 HK5 hK ⊢
  show K _ w5
  refine hK.out _ _ (unhide HS w5 (unhide HK5)) (fun hHeld9 => ?_)
  clear hK K
  try simp only [Act.put, List.setIfInBounds_toArray, List.set_cons_zero, List.set_cons_succ]
  refine wpAnyH_done (by kernel_rfl) ?_ _
  go_wp2_with fail
  exact hd_ret Tryz.results31 hlen rfl rfl hr5 ⟨rfl, unhide HK5⟩
set_option maxRecDepth 100000 in
set_option maxHeartbeats 2000000 in
theorem bind_go (B : Nat) (w : World) (lp : Nat) (rv : Value) (SL : List (Loc Snk)) (cnt : Nat) (last : List UInt8) (h : LAt B w lp rv SL cnt last) (op : UInt8) {who rest more : List UInt8} (hL : Lens last who rest more) (path : ByteArray) (hp : path.size ≤ 1000) (err : Nat) (he : err < 256) (hc : cnt < 9223372036854775808) (hT : Table w) (hz : 0 < w.heap.size) :
    Calls Tryz.prog 37 #[.pointer (some ⟨lp, 0, none⟩), .agg (ecells op who path rest err more)] w fun e w' => e = .returned (.agg (ncells (bs (entL last cnt op who path rest err more)) (Sha.digest (entL last cnt op who path rest err more)))) ∧ Kept w.heap.size w w' := by
  have hlen := h.len
  obtain ⟨E, hE⟩ : ∃ E, E = ecells op who path rest err more := ⟨_, rfl⟩
  have hE99 : E.size = 99 := by rw [hE]; exact (ec_facts hL op path err).1
  have HBY := hide (entBytes_go last who rest more hL op path hp err he cnt hc)
  rw [← hE] at HBY ⊢
  have hEL : (entL last cnt op who path rest err more).length ≤ 1135 := by
    have hpl := size_toList path
    simp only [entL, List.length_append, List.length_cons, leN_length, hL.l, hL.w, hL.r, hL.m, hpl]; omega
  generalize entL last cnt op who path rest err more = EL at *
  have HDG := hide (show Sha.digest (bs EL).data.toList = Sha.digest EL by rw [bs_list])
  have hEs : (bs EL).size ≤ 1135 := by rw [bs_size]; exact hEL
  clear hE hEL
  obtain ⟨w1, hw1⟩ : ∃ w1, w1 = (w.alloc (.cells E 93)).alloc (.cells (ncells .empty (List.replicate 32 0)) 90) := ⟨_, rfl⟩
  have hb1 : w1.heap[w.heap.size]? = some (.cells E 93 (0, 0)) := by rw [hw1, Below.heap_alloc _ _ _ (by simp)]; exact heap_alloc_new _ _
  have hb2 : w1.heap[w.heap.size + 1]? = some (.cells (ncells .empty (List.replicate 32 0)) 90 (0, 0)) := by rw [hw1]; have := heap_alloc_new (w.alloc (.cells E 93)) (.cells (ncells .empty (List.replicate 32 0)) 90); simpa only [World.size_alloc] using this
  have HK1 := hide (show Kept w.heap.size w w1 by rw [hw1]; exact ((Kept.refl _ _).alloc (Nat.le_refl _) _).alloc (by simp) _)
  have hz1 : w1.heap.size = w.heap.size + 2 := by rw [hw1]; simp
  have HS := hide (show ∀ W, Kept w1.heap.size w1 W → (W.cell? ⟨lp, 1, none⟩ = some (.int .i64 (cnt : Int)) ∧ W.rangeAt lp 2 (blist last)) ∧ W.heap[w.heap.size]? = some (.cells E 93 (0, 0)) from fun W hW => ⟨((h.kept (unhide HK1)).kept hW).c.2, (hW.block _ (by omega)).trans hb1⟩)
  have hi29 := info29s last hlen
  have HT := hide hT
  clear h hT hb1
  go_enter Tryz.func37, Tryz.ntmps37
  go_wp2_with fail
  change Code.wp _ _ _ _ ((w.alloc (.cells E 93)).alloc (.cells (ncells .empty (List.replicate 32 0)) 90))
  rw [← hw1]
  clear hw1
  refine wp_region_held_drew (S := fun W => (W.cell? ⟨lp, 1, none⟩ = some (.int .i64 (cnt : Int)) ∧ W.rangeAt lp 2 (blist last)) ∧ W.heap[w.heap.size]? = some (.cells E 93 (0, 0))) (by kernel_rfl) (unhide HS w1.drew ((Kept.refl _ _).draws 1)) (fun hHeld => ?_)
  refine wpAnyH_take (i := 0) (oi := { dst := some 6, op := Op.load 93 (Operand.tmp 3), type := 93, pos := "audit.go:43", after := #[], guard := none }) (v := .agg E) rfl (by kernel_rfl) (by kernel_rfl) (by kernel_rfl) (fun _ _ _ h => h) (yieldsIf_load_mid (by kernel_rfl) 93 (.tmp 3) rfl w.heap.size 0 (by kernel_rfl) E.toList _ (fun W hW => row_range hW.2) Tryz.underlying93 rfl (by rw [Array.length_toList, hE99]; exact info93)) hHeld ?_
  simp only [Act.put, List.setIfInBounds_toArray, List.set_cons_zero, List.set_cons_succ]
  refine wpAnyH_take (i := 1) (oi := { dst := some 7, op := Op.move (Operand.tmp 0), type := 75, pos := "audit.go:43", after := #[], guard := none }) (v := .pointer (some ⟨lp, 0, none⟩)) rfl (by kernel_rfl) (by kernel_rfl) (by kernel_rfl) (fun _ _ _ h => h) (Or.inl ⟨by kernel_rfl, fun W hW => by kernel_rfl⟩) hHeld ?_
  simp only [Act.put, List.setIfInBounds_toArray, List.set_cons_zero, List.set_cons_succ]
  refine wpAnyH_take (i := 2) (oi := { dst := some 8, op := Op.nilCheck (Operand.tmp 7), type := 0, pos := "audit.go:43", after := #[{ on := 1, ground := Ground.data }], guard := none }) (v := .pointer (some ⟨lp, 0, none⟩)) rfl (by kernel_rfl) (by kernel_rfl) (by kernel_rfl) (fun _ _ _ h => h) (Or.inl ⟨by kernel_rfl, fun W hW => by kernel_rfl⟩) hHeld ?_
  simp only [Act.put, List.setIfInBounds_toArray, List.set_cons_zero, List.set_cons_succ]
  refine wpAnyH_take (i := 3) (oi := { dst := some 9, op := Op.fieldAddr 127 (Operand.tmp 8) 2, type := 0, pos := "audit.go:43", after := #[{ on := 2, ground := Ground.data }], guard := none }) (v := .pointer (some ⟨lp, 2, none⟩)) rfl (by kernel_rfl) (by kernel_rfl) (by kernel_rfl) (fun _ _ _ h => h) (Or.inl ⟨by kernel_rfl, fun W hW => by kernel_rfl⟩) hHeld ?_
  simp only [Act.put, List.setIfInBounds_toArray, List.set_cons_zero, List.set_cons_succ]
  refine wpAnyH_take (i := 4) (oi := { dst := some 10, op := Op.load 29 (Operand.tmp 9), type := 29, pos := "audit.go:43", after := #[{ on := 3, ground := Ground.data }], guard := none }) (v := .agg (blist last).toArray) rfl (by kernel_rfl) (by kernel_rfl) (by kernel_rfl) (fun _ _ _ h => h) (yieldsIf_load_mid (by kernel_rfl) 29 (.tmp 9) rfl lp 2 (by kernel_rfl) (blist last) _ (fun W hW => hW.1.2) Tryz.underlying29 rfl hi29) hHeld ?_
  simp only [Act.put, List.setIfInBounds_toArray, List.set_cons_zero, List.set_cons_succ]
  refine wpAnyH_take (i := 5) (oi := { dst := some 11, op := Op.move (Operand.tmp 0), type := 75, pos := "audit.go:43", after := #[], guard := none }) (v := .pointer (some ⟨lp, 0, none⟩)) rfl (by kernel_rfl) (by kernel_rfl) (by kernel_rfl) (fun _ _ _ h => h) (Or.inl ⟨by kernel_rfl, fun W hW => by kernel_rfl⟩) hHeld ?_
  simp only [Act.put, List.setIfInBounds_toArray, List.set_cons_zero, List.set_cons_succ]
  refine wpAnyH_take (i := 6) (oi := { dst := some 12, op := Op.nilCheck (Operand.tmp 11), type := 0, pos := "audit.go:43", after := #[{ on := 5, ground := Ground.data }], guard := none }) (v := .pointer (some ⟨lp, 0, none⟩)) rfl (by kernel_rfl) (by kernel_rfl) (by kernel_rfl) (fun _ _ _ h => h) (Or.inl ⟨by kernel_rfl, fun W hW => by kernel_rfl⟩) hHeld ?_
  simp only [Act.put, List.setIfInBounds_toArray, List.set_cons_zero, List.set_cons_succ]
  refine wpAnyH_take (i := 7) (oi := { dst := some 13, op := Op.fieldAddr 127 (Operand.tmp 12) 1, type := 0, pos := "audit.go:43", after := #[{ on := 6, ground := Ground.data }], guard := none }) (v := .pointer (some ⟨lp, 1, none⟩)) rfl (by kernel_rfl) (by kernel_rfl) (by kernel_rfl) (fun _ _ _ h => h) (Or.inl ⟨by kernel_rfl, fun W hW => by kernel_rfl⟩) hHeld ?_
  simp only [Act.put, List.setIfInBounds_toArray, List.set_cons_zero, List.set_cons_succ]
  refine wpAnyH_take (i := 8) (oi := { dst := some 14, op := Op.load 3 (Operand.tmp 13), type := 3, pos := "audit.go:43", after := #[{ on := 7, ground := Ground.data }], guard := none }) (v := .int .i64 (cnt : Int)) rfl (by kernel_rfl) (by kernel_rfl) (by kernel_rfl) (fun _ _ _ h => h) (Or.inl ⟨by kernel_rfl, fun W hW => by simp [execOp, go_sem, hW.1.1]⟩) hHeld ?_
  simp only [Act.put, List.setIfInBounds_toArray, List.set_cons_zero, List.set_cons_succ]
  refine wpAnyH_ready (rs := [9]) (by kernel_rfl) (by simp) ?_
  refine AllReadyH.cons (o := { dst := some 15, op := Op.call { callee := Callee.value (Operand.func 73), args := #[Operand.tmp 6, Operand.tmp 10, Operand.tmp 14], argTypes := #[93, 29, 3] }, type := 9, pos := "audit.go:43", after := #[{ on := 0, ground := Ground.data }, { on := 4, ground := Ground.data }, { on := 8, ground := Ground.data }], guard := none }) rfl (fun K hK => ?_) AllReadyH.nil
  refine ite_wanted ?_ ?_
  · kernel_rfl
  go_simp
  refine (unhide HBY w1.drew).mono ?_
  rintro _ w2 ⟨rfl, hk2⟩
  have HK2 := hide (show Kept w1.heap.size w1 w2 from ⟨hk2.os, hk2.output, hk2.size, hk2.block⟩)
  clear hk2
  show K _ w2
  refine hK.out _ _ (unhide HS w2 (unhide HK2)) (fun hHeld9 => ?_)
  clear hK K
  try simp only [Act.put, List.setIfInBounds_toArray, List.set_cons_zero, List.set_cons_succ]
  refine wpAnyH_take (i := 10) (oi := { dst := some 5, op := Op.assign (Operand.tmp 15), type := 9, pos := "audit.go:43", after := #[{ on := 9, ground := Ground.data }, { on := 9, ground := Ground.chain }, { on := 0, ground := Ground.phase }, { on := 1, ground := Ground.phase }, { on := 2, ground := Ground.phase }, { on := 3, ground := Ground.phase }, { on := 4, ground := Ground.phase }, { on := 5, ground := Ground.phase }, { on := 6, ground := Ground.phase }, { on := 7, ground := Ground.phase }, { on := 8, ground := Ground.phase }, { on := 9, ground := Ground.phase }], guard := none }) (v := .string (bs EL)) rfl (by kernel_rfl) (by kernel_rfl) (by kernel_rfl) (fun _ _ _ h => h) (Or.inl ⟨by kernel_rfl, fun W hW => by kernel_rfl⟩) hHeld9 ?_
  simp only [Act.put, List.setIfInBounds_toArray, List.set_cons_zero, List.set_cons_succ]
  refine wpAnyH_done (by kernel_rfl) ?_ _
  clear hHeld hHeld9
  have hb2' := ((unhide HK2).block _ (show w.heap.size + 1 < w1.heap.size by omega)).trans hb2
  have hz2 := (unhide HK2).size
  have hT2 : Table w2 := (unhide HT).kept ((unhide HK1).trans ((unhide HK2).mono (by omega))) hz
  have hdl := Sha.digest_length EL
  go_wp2_with fail
  refine (of_go (bs EL) w2 (by omega) hT2 (by omega)).mono ?_
  rintro _ w3 ⟨rfl, hb3⟩
  rw [unhide HDG]
  obtain ⟨DG, hDG⟩ : ∃ DG, DG = Sha.digest EL := ⟨_, rfl⟩
  rw [← hDG] at hdl ⊢
  have HDD := hide hDG
  clear hDG
  have hb3' := (hb3.block _ (show w.heap.size + 1 < w2.heap.size by omega)).trans hb2'
  have HK3 := hide ((unhide HK2).trans ((Kept.of hb3).mono hz2))
  have hbs : (brow DG).size = 32 := by rw [brow_size, hdl]
  have hfs := fold_seal1 (bs EL) hdl
  have hns : (sealA (bs EL) DG).size = 33 := sealA_size hdl
  have hno : (sealA (bs EL) DG).all (·.oneCell') = true := nc_one (bs EL) DG
  have hi90 : (Tryz.prog.info? 90).map (·.size) = some (sealA (bs EL) DG).size := by rw [hns]; exact info90
  clear hb3 hb2'
  obtain ⟨NC, hNC⟩ : ∃ NC, NC = sealA (bs EL) DG := ⟨_, rfl⟩
  rw [← hNC] at hns hno hi90 hfs
  have HNC := hide hNC
  clear hNC
  go_wp2_with (refine wpList_store_put rfl 90 (.tmp 4) (.tmp 19) rfl (w.heap.size + 1) NC ?_ ?_ 90 (ncells .empty (List.replicate 32 0)) ?_ hi90 (by rw [hns]; rfl) hno ?_
               · rfl
               · rfl
               · exact hb3'
               intro w5 hp5)
  exact bodyPost_ret (v := .agg NC) (results_cell_row Tryz.results37 _ _ (w.heap.size + 1) 90 _ (0, 0) _ rfl hp5.row Tryz.underlying90 rfl hi90) rfl ⟨by rw [unhide HNC, unhide HDD], (unhide HK1).trans (((unhide HK3).mono (by omega)).trans (Kept.of (hp5.below (by omega))))⟩
end Go.Proofs.YtlbacbcenejngaaGreatDoor
