/-
  Fc Gc
-/
import Derived.Test.YtlbacbcenejngaaGreatDoorG33
import Derived.Deep.CutBlock
namespace Go.Proofs.YtlbacbcenejngaaGreatDoor
open Go.RowKit
theorem Shp.setBox {w0 w : World} {p vp : Nat} {lv : Value} {V : Vlt} {n : Nat} (h : Shp w0 p vp lv V n w) {b t : Nat} {cs : Array Value} (hb : w0.heap[b]? = some (.cells cs t (0, 0))) (i : Nat) (x : Value) : Shp (w0.setCell ⟨b, i, none⟩ x) p vp lv V n (w.setCell ⟨b, i, none⟩ x) := by
  obtain ⟨g, E, h1, h2, h3, h4, h5⟩ := h
  have hl := (Array.getElem?_eq_some_iff.1 hb).1
  have hbw := (h5.block b hl).trans hb
  have k1 := (Kept.refl b w0).setCell (p := ⟨b, i, none⟩) (Nat.le_refl _) x
  have k2 := (Kept.refl b w).setCell (p := ⟨b, i, none⟩) (Nat.le_refl _) x
  refine ⟨g, E, ?_, h2, h3, h4, ?_⟩
  · rw [World.size_setCell]
    exact h1.stay fun k hk => heap_setCell_other _ _ _ _ fun e => by have e' : k = b := e; have := (h1.foot hk).2; omega
  · refine ⟨k2.os.trans (h5.os.trans k1.os.symm), k2.output.trans (h5.output.trans k1.output.symm), by rw [World.size_setCell, World.size_setCell]; exact h5.size, fun k hk => ?_⟩
    rw [World.size_setCell] at hk
    by_cases e : k = b
    · subst e
      rw [heap_setCell_same _ _ _ _ _ _ hbw, heap_setCell_same _ _ _ _ _ _ hb]
    · rw [heap_setCell_other _ _ _ _ e, heap_setCell_other _ _ _ _ e]
      exact h5.block k hk
theorem wp_conv_row {w : World} {o : Oper} {a : Act} {K : Act → World → Prop} {Q : Exit → Act → World → Prop} {x : Operand} (ho : o.op = .convert 58 9 x) (c : UInt8) (b : Nat) (hb : w.heap[b]? = some (.cells #[.int .u8 (c.toNat : Int)] 5 (0, 0))) (hx : a.eval x = .slice (some ⟨b, 0, none⟩) 1 1) (h : K (a.put o.dst (.string (bs [c]))) w) : o.wp Tryz.prog a w K Q := by
  have := conv_brow (P := Tryz.prog) (L := [c]) hb 58 5 9 Tryz.underlying58 Tryz.underlying5 Tryz.underlying9 1 1 rfl
  unfold Oper.wp
  simp [execOp, ho, hx, this, Result.andThen, Oper.upon]
  exact h
theorem heqp26 (a : Addr) (W : World) : (binOp .eql 26 (.pointer (some a)) (.pointer none)).run Tryz.prog W = .ok (.bool false) W := by kernel_rfl
set_option maxRecDepth 100000 in
set_option maxHeartbeats 8000000 in
theorem fenced_law (v : Value) (l : List Stq) (pr rt : Int) (o : Stq) (w : World) (h : ScrS w v l) (hpr : i64 pr) (hrt : i64 rt) (ho : o.Fit) (hT : Table w) (hz : 0 < w.heap.size) :
    Calls Tryz.prog 8 #[v, .int .i64 pr, .int .i64 rt, .agg o.cells] w fun e w' => e = .returned (.bool true) ∧ Kept w.heap.size w w' := by
  obtain ⟨av, cv, rfl, hav⟩ := h.val
  have hln := h.len
  have HE := hide h.each
  have HV := hide hav
  obtain ⟨w1, hw1⟩ : ∃ w1, w1 = w.alloc (.cells o.cells 40) := ⟨_, rfl⟩
  have hbx : w1.heap[w.heap.size]? = some (.cells o.cells 40 (0, 0)) := by rw [hw1]; exact heap_alloc_new _ _
  have HK1 := hide (show Kept w.heap.size w w1 by rw [hw1]; exact (Kept.refl _ _).alloc (Nat.le_refl _) _)
  have hz1 : w1.heap.size = w.heap.size + 1 := by rw [hw1]; simp
  have HBX := hide hbx
  have HO := hide ho
  have HT0 := hide hT
  have HT1 := hide (show Table w1 from hT.kept (unhide HK1) hz)
  have h01 : 0 < w1.heap.size := by omega
  have hq := heqp26
  clear h hav hT hbx ho
  go_enter Tryz.func8, Tryz.ntmps8
  go_upto_region 1 with fail
  rw [← hw1]
  clear hw1
  go_wp2_with fail
  refine (shp_opened w1 0 ⟨by decide, by decide⟩ (unhide HT1) h01).mono ?_
  rintro _ w2 ⟨p, vp, lv, rfl, hsh⟩
  have HS := hide hsh
  clear hsh
  go_wp2_with fail
  go_loopw [10] (fun vi wr => ∃ (i n : Nat) (V : Vlt), i ≤ l.length ∧ vi = .int .i64 i ∧ n ≤ i ∧ Shp w1 p vp lv V n wr) (fun vi _ => l.length - (intOf vi).toNat)
  case atStart => exact ⟨0, 0, _, Nat.zero_le _, rfl, Nat.le_refl _, unhide HS⟩
  case round =>
    clear HS
    obtain ⟨i, n, V, hi, rfl, hni, hsh⟩ := hrel
    have HS := hide hsh
    clear hsh
    by_cases hlt : i < l.length
    · obtain ⟨b, o', rfl, hbw, hrg⟩ := unhide HV (by omega)
      have hiI : (i : Int) < (l.length : Int) := by omega
      have hi0 : (0 : Int) ≤ (i : Int) := by omega
      have HA := hide (unhide HE i hlt)
      have hr : wr.rangeAt b (o' + i * 6) (l.getD i stq0).cells.toList := range_kept (range_kept (hrg i hlt) (unhide HK1) hbw) (unhide HS).k0 (by omega)
      clear hrg
      generalize l.getD i stq0 = c at HA hr
      have hc0 : wr.cell? ⟨b, o' + i * 6, none⟩ = some (.int .i64 c.kind) := hr 0 _ rfl
      have hi40 : (Tryz.prog.info? 40).map (·.size) = some c.cells.toList.length := by rw [Array.length_toList]; exact info40
      by_cases h7 : c.kind = 7
      · rw [h7] at hc0
        go_wp2_with fail
        go_roundw
        case rel => exact ⟨i + 1, n, V, by omega, by go_num, by omega, unhide HS⟩
        case measure => simp [intOf]; omega
      · have h7I : (c.kind == 7) = false := by simpa using h7
        go_wp2_with (refine wpList_load_mid rfl 40 (.tmp 39) rfl b (o' + i * 6) ?_ c.cells.toList _ hr Tryz.underlying40 rfl hi40 ?_
                     · rfl)
        refine ((unhide HS).step (by omega) c 120 (unhide HA).fit h7 (unhide HT1) h01).mono ?_
        rintro _ w3 ⟨rfl, hs3⟩
        have HS3 := hide hs3
        clear hs3
        go_wp2_with fail
        go_roundw
        case rel => exact ⟨i + 1, n + 1, _, by omega, by go_num, by omega, unhide HS3⟩
        case measure => simp [intOf]; omega
    · have hiI : ¬ (i : Int) < (l.length : Int) := by omega
      obtain ⟨hcalm, hrt0, hok⟩ : V.Calm ∧ V.sto.Rt ∧ V.sto.Ok := by obtain ⟨g, E, _, hb, h1, h2, _⟩ := unhide HS; exact ⟨h1, h2, hb.ok.sto⟩
      have HM1 := hide (And.intro (hcalm.next fR) (And.intro (Vlt.rt_next hrt0 fR) (fenced_1 hcalm hrt0 hok)))
      clear hcalm hrt0 hok
      obtain ⟨TA, hTA⟩ : ∃ T, T = txt ⟨#[97, 100, 109]⟩ := ⟨_, rfl⟩
      obtain ⟨TJ, hTJ⟩ : ∃ T, T = txt ⟨#[106, 111, 101]⟩ := ⟨_, rfl⟩
      have zA : TA.size = 4 := by rw [hTA]; exact txt_size _
      have zJ : TJ.size = 4 := by rw [hTJ]; exact txt_size _
      have HXA := hide (fun W => text_go ⟨#[97, 100, 109]⟩ W (by decide))
      have HXJ := hide (fun W => text_go ⟨#[106, 111, 101]⟩ W (by decide))
      rw [← hTA] at HXA
      rw [← hTJ] at HXJ
      have HTA := hide (show TA = txt adm from hTA)
      have HTJ := hide (show TJ = txt joe from hTJ)
      clear hTA hTJ
      have q82 : (⟨#[82]⟩ : ByteArray).size = 1 := rfl
      have q84 : (⟨#[84]⟩ : ByteArray).size = 1 := rfl
      have n1 : (9223372036854775807 < (⟨#[82]⟩ : ByteArray).size + TA.size) = False := eq_false (by omega)
      obtain ⟨X1, hX1⟩ : ∃ X, X = (⟨#[82]⟩ : ByteArray) ++ TA := ⟨_, rfl⟩
      have z1 : X1.size = 5 := by rw [hX1, ByteArray.size_append]; omega
      have e1 := hX1.symm
      clear hX1
      have n2 : (9223372036854775807 < X1.size + TJ.size) = False := eq_false (by omega)
      obtain ⟨X2, hX2⟩ : ∃ X, X = X1 ++ TJ := ⟨_, rfl⟩
      have z2 : X2.size = 9 := by rw [hX2, ByteArray.size_append]; omega
      have e2 := hX2.symm
      clear hX2
      have HXR := hide (show X2 = fR by rw [← e2, ← e1, fR, ← unhide HTA, ← unhide HTJ, ba_assoc]; rfl)
      have hX := (unhide HS).x
      go_wp2_with fail
      refine wp_region_held_drew (S := fun W => W.cell? ⟨p, 0, none⟩ = some (.pointer (some ⟨vp, 0, none⟩))) (by kernel_rfl) (hX) (fun hHeld => ?_)
      refine wpAnyH_take (i := 0) (oi := { dst := some 42, op := Op.move (Operand.tmp 9), type := 26, pos := "keeps.go:308", after := #[], guard := none }) (v := .pointer (some ⟨p, 0, none⟩)) rfl (by kernel_rfl) (by kernel_rfl) (by kernel_rfl) (fun _ _ _ h => h) (Or.inl ⟨by kernel_rfl, fun W hW => by kernel_rfl⟩) hHeld ?_
      simp only [Act.put, List.setIfInBounds_toArray, List.set_cons_zero, List.set_cons_succ]
      refine wpAnyH_take (i := 1) (oi := { dst := some 43, op := Op.nilCheck (Operand.tmp 42), type := 0, pos := "keeps.go:308", after := #[{ on := 0, ground := Ground.data }], guard := none }) (v := .pointer (some ⟨p, 0, none⟩)) rfl (by kernel_rfl) (by kernel_rfl) (by kernel_rfl) (fun _ _ _ h => h) (Or.inl ⟨by kernel_rfl, fun W hW => by kernel_rfl⟩) hHeld ?_
      simp only [Act.put, List.setIfInBounds_toArray, List.set_cons_zero, List.set_cons_succ]
      refine wpAnyH_take (i := 2) (oi := { dst := some 44, op := Op.fieldAddr 35 (Operand.tmp 43) 0, type := 0, pos := "keeps.go:308", after := #[{ on := 1, ground := Ground.data }], guard := none }) (v := .pointer (some ⟨p, 0, none⟩)) rfl (by kernel_rfl) (by kernel_rfl) (by kernel_rfl) (fun _ _ _ h => h) (Or.inl ⟨by kernel_rfl, fun W hW => by kernel_rfl⟩) hHeld ?_
      simp only [Act.put, List.setIfInBounds_toArray, List.set_cons_zero, List.set_cons_succ]
      refine wpAnyH_take (i := 3) (oi := { dst := some 45, op := Op.load 31 (Operand.tmp 44), type := 31, pos := "keeps.go:308", after := #[{ on := 2, ground := Ground.data }], guard := none }) (v := .pointer (some ⟨vp, 0, none⟩)) rfl (by kernel_rfl) (by kernel_rfl) (by kernel_rfl) (fun _ _ _ h => h) (Or.inl ⟨by kernel_rfl, fun W hW => by simp [execOp, go_sem, hW]⟩) hHeld ?_
      simp only [Act.put, List.setIfInBounds_toArray, List.set_cons_zero, List.set_cons_succ]
      refine wpAnyH_ready (rs := [4]) (by kernel_rfl) (by simp) ?_
      refine AllReadyH.cons (o := { dst := some 46, op := Op.call { callee := Callee.value (Operand.func 20), args := #[Operand.const (Value.string { data := #[97, 100, 109] })], argTypes := #[9] }, type := 9, pos := "keeps.go:308", after := #[], guard := none }) rfl (fun K hK => ?_) AllReadyH.nil
      refine ite_wanted ?_ ?_
      · kernel_rfl
      go_simp
      refine (unhide HXA wr.drew).mono ?_
      rintro _ w3 ⟨rfl, hk⟩
      have HS3 := hide ((unhide HS).kept (show Kept wr.heap.size wr w3 from ⟨hk.os, hk.output, hk.size, hk.block⟩))
      clear hk
      show K _ w3
      refine hK.out _ _ ((unhide HS3).x) (fun hHeld4 => ?_)
      clear hK K
      try simp only [Act.put, List.setIfInBounds_toArray, List.set_cons_zero, List.set_cons_succ]
      refine wpAnyH_take (i := 5) (oi := { dst := some 47, op := Op.binOp BinOp.add 9 (Operand.const (Value.string { data := #[82] })) (Operand.tmp 46) 9, type := 9, pos := "keeps.go:308", after := #[{ on := 4, ground := Ground.data }], guard := none }) (v := .string X1) rfl (by kernel_rfl) (by kernel_rfl) (by kernel_rfl) (fun _ _ _ h => h) (Or.inl ⟨by kernel_rfl, fun W hW => by simp [execOp, go_sem, e1, zA]⟩) hHeld4 ?_
      simp only [Act.put, List.setIfInBounds_toArray, List.set_cons_zero, List.set_cons_succ]
      refine wpAnyH_ready (rs := [6]) (by kernel_rfl) (by simp) ?_
      refine AllReadyH.cons (o := { dst := some 48, op := Op.call { callee := Callee.value (Operand.func 20), args := #[Operand.const (Value.string { data := #[106, 111, 101] })], argTypes := #[9] }, type := 9, pos := "keeps.go:308", after := #[{ on := 4, ground := Ground.chain }], guard := none }) rfl (fun K hK => ?_) AllReadyH.nil
      refine ite_wanted ?_ ?_
      · kernel_rfl
      go_simp
      refine (unhide HXJ w3).mono ?_
      rintro _ w4 ⟨rfl, hk⟩
      have HS4 := hide ((unhide HS3).kept (hk))
      clear hk
      show K _ w4
      refine hK.out _ _ ((unhide HS4).x) (fun hHeld6 => ?_)
      clear hK K
      try simp only [Act.put, List.setIfInBounds_toArray, List.set_cons_zero, List.set_cons_succ]
      refine wpAnyH_take (i := 7) (oi := { dst := some 49, op := Op.binOp BinOp.add 9 (Operand.tmp 47) (Operand.tmp 48) 9, type := 9, pos := "keeps.go:308", after := #[{ on := 5, ground := Ground.data }, { on := 6, ground := Ground.data }], guard := none }) (v := .string X2) rfl (by kernel_rfl) (by kernel_rfl) (by kernel_rfl) (fun _ _ _ h => h) (Or.inl ⟨by kernel_rfl, fun W hW => by simp [execOp, go_sem, n2, e2]⟩) hHeld6 ?_
      simp only [Act.put, List.setIfInBounds_toArray, List.set_cons_zero, List.set_cons_succ]
      refine wpAnyH_ready (rs := [8]) (by kernel_rfl) (by simp) ?_
      refine AllReadyH.cons (o := { dst := some 50, op := Op.call { callee := Callee.value (Operand.func 22), args := #[Operand.tmp 45, Operand.tmp 49], argTypes := #[31, 9] }, type := 9, pos := "keeps.go:308", after := #[{ on := 3, ground := Ground.data }, { on := 7, ground := Ground.data }, { on := 6, ground := Ground.chain }], guard := none }) rfl (fun K hK => ?_) AllReadyH.nil
      refine ite_wanted ?_ ?_
      · kernel_rfl
      go_simp
      refine ((unhide HS4).do' (by omega) X2 (by omega) (unhide HT1) h01).mono ?_
      rintro _ w5 ⟨rfl, hs5⟩
      have HS5 := hide hs5
      clear hs5
      show K _ w5
      refine hK.out _ _ ((unhide HS5).x) (fun hHeld8 => ?_)
      clear hK K
      try simp only [Act.put, List.setIfInBounds_toArray, List.set_cons_zero, List.set_cons_succ]
      refine wpAnyH_done (by kernel_rfl) ?_ _
      rw [unhide HXR] at *
      obtain ⟨V1, hV1⟩ : ∃ V1, V1 = V.next fR := ⟨_, rfl⟩
      have HSa := HS5
      clear HS5
      rw [← hV1] at HSa HM1
      clear hV1
      have hk7 := pkI_lt rt (n := 7) (by decide)
      obtain ⟨m7, hm7⟩ : ∃ m, m = 1 + pkI rt 7 := ⟨_, rfl⟩
      have hm7l : 1 ≤ m7 ∧ m7 < 8 := by omega
      have HP7 := hide (fun W => pickE_go rt 7 W hrt (by decide) (by decide))
      obtain ⟨P, hP⟩ : ∃ P, P = pathOf pr := ⟨_, rfl⟩
      have HPA := hide (fun W => path_go pr W hpr)
      have hPs := pathOf_size pr
      have HPR := hide (pathOf_ok pr).2.1
      rw [← hP] at HPA hPs HPR
      clear hP
      go_wp2_with fail
      refine (unhide HPA w5).mono ?_
      rintro _ w6 ⟨rfl, hk6⟩
      have HS6 := hide ((unhide HSa).kept hk6)
      clear hk6 HSa HPA
      go_wp2_with fail
      refine (unhide HP7 w6).mono ?_
      rintro _ wq ⟨rfl, hwq⟩
      obtain rfl : w6 = wq := hwq.symm
      clear hwq HP7
      go_upto_region 12 with fail
      have e7 : (1 + (pkI rt 7 : Int)) = (m7 : Int) := by omega
      rw [e7]
      clear e7 hm7 hk7
      have HF2 := hide (fenced_2 (unhide HM1).1 (unhide HM1).2.1 (unhide HM1).2.2 (unhide HPR) (r := UInt8.ofNat m7) (by rw [UInt8.toNat_ofNat']; omega))
      have HC1 := hide (And.intro (unhide HM1).1 (unhide HM1).2.1)
      have hPt := txt_size P
      have HXP := hide (fun W => text_go P W (by omega))
      obtain ⟨TP, hTP⟩ : ∃ T, T = txt P := ⟨_, rfl⟩
      rw [← hTP] at HXP hPt
      have HTP := hide hTP
      clear hTP
      have m1 : (9223372036854775807 < (⟨#[84]⟩ : ByteArray).size + TA.size) = False := eq_false (by omega)
      obtain ⟨Y1, hY1⟩ : ∃ X, X = (⟨#[84]⟩ : ByteArray) ++ TA := ⟨_, rfl⟩
      have y1 : Y1.size = 5 := by rw [hY1, ByteArray.size_append]; omega
      have f1 := hY1.symm
      clear hY1
      have m2 : (9223372036854775807 < Y1.size + TJ.size) = False := eq_false (by omega)
      obtain ⟨Y2, hY2⟩ : ∃ X, X = Y1 ++ TJ := ⟨_, rfl⟩
      have y2 : Y2.size = 9 := by rw [hY2, ByteArray.size_append]; omega
      have f2 := hY2.symm
      clear hY2
      have m3 : (9223372036854775807 < Y2.size + TP.size) = False := eq_false (by omega)
      obtain ⟨Y3, hY3⟩ : ∃ X, X = Y2 ++ TP := ⟨_, rfl⟩
      have y3 : Y3.size ≤ 20 := by rw [hY3, ByteArray.size_append]; omega
      have f3 := hY3.symm
      clear hY3
      have sb : (bs [UInt8.ofNat m7]).size = 1 := bs_size _
      have m4 : (9223372036854775807 < Y3.size + (bs [UInt8.ofNat m7]).size) = False := eq_false (by omega)
      obtain ⟨Y4, hY4⟩ : ∃ X, X = Y3 ++ bs [UInt8.ofNat m7] := ⟨_, rfl⟩
      have y4 : Y4.size ≤ 30 := by rw [hY4, ByteArray.size_append]; omega
      have f4 := hY4.symm
      clear hY4
      have HYT := hide (show fT P (UInt8.ofNat m7) = Y4 by rw [← f4, ← f3, ← f2, ← f1, fT, ← unhide HTA, ← unhide HTJ, ← unhide HTP, ba_assoc, ba_assoc, ba_assoc]; rfl)
      rw [unhide HYT] at HF2
      have hcb := conv_byte m7 (by omega)
      have hX6 := (unhide HS6).x
      clear HM1 HPR HTA HTJ HTP HXR n1 n2 e1 e2 z1
      try simp only [Act.put]
      go_cut [13] (fun v wx => v = .string (V1.tell Y4) ∧ Shp w1 p vp lv (V1.next Y4) (n + 2) wx)
      case first => as_aux_lemma =>
        refine wp_region_held_drew (S := fun W => W.cell? ⟨p, 0, none⟩ = some (.pointer (some ⟨vp, 0, none⟩))) (by kernel_rfl) (hX6) (fun hHeld => ?_)
        refine wpAnyH_take (i := 0) (oi := { dst := some 56, op := Op.move (Operand.tmp 9), type := 26, pos := "keeps.go:311", after := #[], guard := none }) (v := .pointer (some ⟨p, 0, none⟩)) rfl (by kernel_rfl) (by kernel_rfl) (by kernel_rfl) (fun _ _ _ h => h) (Or.inl ⟨by kernel_rfl, fun W hW => by kernel_rfl⟩) hHeld ?_
        simp only [Act.put, List.setIfInBounds_toArray, List.set_cons_zero, List.set_cons_succ]
        refine wpAnyH_take (i := 1) (oi := { dst := some 57, op := Op.nilCheck (Operand.tmp 56), type := 0, pos := "keeps.go:311", after := #[{ on := 0, ground := Ground.data }], guard := none }) (v := .pointer (some ⟨p, 0, none⟩)) rfl (by kernel_rfl) (by kernel_rfl) (by kernel_rfl) (fun _ _ _ h => h) (Or.inl ⟨by kernel_rfl, fun W hW => by kernel_rfl⟩) hHeld ?_
        simp only [Act.put, List.setIfInBounds_toArray, List.set_cons_zero, List.set_cons_succ]
        refine wpAnyH_take (i := 2) (oi := { dst := some 58, op := Op.fieldAddr 35 (Operand.tmp 57) 0, type := 0, pos := "keeps.go:311", after := #[{ on := 1, ground := Ground.data }], guard := none }) (v := .pointer (some ⟨p, 0, none⟩)) rfl (by kernel_rfl) (by kernel_rfl) (by kernel_rfl) (fun _ _ _ h => h) (Or.inl ⟨by kernel_rfl, fun W hW => by kernel_rfl⟩) hHeld ?_
        simp only [Act.put, List.setIfInBounds_toArray, List.set_cons_zero, List.set_cons_succ]
        refine wpAnyH_take (i := 3) (oi := { dst := some 59, op := Op.load 31 (Operand.tmp 58), type := 31, pos := "keeps.go:311", after := #[{ on := 2, ground := Ground.data }], guard := none }) (v := .pointer (some ⟨vp, 0, none⟩)) rfl (by kernel_rfl) (by kernel_rfl) (by kernel_rfl) (fun _ _ _ h => h) (Or.inl ⟨by kernel_rfl, fun W hW => by simp [execOp, go_sem, hW]⟩) hHeld ?_
        simp only [Act.put, List.setIfInBounds_toArray, List.set_cons_zero, List.set_cons_succ]
        refine wpAnyH_take (i := 8) (oi := { dst := some 64, op := Op.move (Operand.tmp 11), type := 9, pos := "keeps.go:311", after := #[], guard := none }) (v := .string P) rfl (by kernel_rfl) (by kernel_rfl) (by kernel_rfl) (fun _ _ _ h => h) (Or.inl ⟨by kernel_rfl, fun W hW => by kernel_rfl⟩) hHeld ?_
        simp only [Act.put, List.setIfInBounds_toArray, List.set_cons_zero, List.set_cons_succ]
        refine wpAnyH_take (i := 11) (oi := { dst := some 67, op := Op.move (Operand.tmp 12), type := 3, pos := "keeps.go:311", after := #[], guard := none }) (v := .int .i64 (m7 : Int)) rfl (by kernel_rfl) (by kernel_rfl) (by kernel_rfl) (fun _ _ _ h => h) (Or.inl ⟨by kernel_rfl, fun W hW => by kernel_rfl⟩) hHeld ?_
        simp only [Act.put, List.setIfInBounds_toArray, List.set_cons_zero, List.set_cons_succ]
        refine wpAnyH_take (i := 12) (oi := { dst := some 68, op := Op.convert 3 5 (Operand.tmp 67), type := 5, pos := "keeps.go:311", after := #[{ on := 11, ground := Ground.data }], guard := none }) (v := .int .u8 ((UInt8.ofNat m7).toNat : Int)) rfl (by kernel_rfl) (by kernel_rfl) (by kernel_rfl) (fun _ _ _ h => h) (Or.inl ⟨by kernel_rfl, fun W hW => by simp [execOp, go_sem, hcb]⟩) hHeld ?_
        simp only [Act.put, List.setIfInBounds_toArray, List.set_cons_zero, List.set_cons_succ]
        refine wpAnyH_ready (rs := [4, 13]) (by kernel_rfl) (by simp) ?_
        refine (AllReadyH.cons (o := { dst := some 60, op := Op.call { callee := Callee.value (Operand.func 20), args := #[Operand.const (Value.string { data := #[97, 100, 109] })], argTypes := #[9] }, type := 9, pos := "keeps.go:311", after := #[], guard := none }) rfl (fun K hK => ?_) (AllReadyH.cons (o := { dst := some 69, op := Op.buildSlice 58 1 #[(0, Operand.tmp 68)], type := 58, pos := "keeps.go:311", after := #[{ on := 12, ground := Ground.data }], guard := none }) rfl (fun K hK => ?_) AllReadyH.nil))
        · refine ite_wanted ?_ ?_
          · kernel_rfl
          go_simp
          refine (unhide HXA w6.drew).mono ?_
          rintro _ x1 ⟨rfl, hk⟩
          have Hx1 := hide ((unhide HS6).kept (show Kept w6.heap.size w6 x1 from ⟨hk.os, hk.output, hk.size, hk.block⟩))
          clear hk
          show K _ x1
          refine hK.out _ _ ((unhide Hx1).x) (fun hHeld4 => ?_)
          clear hK K
          try simp only [Act.put, List.setIfInBounds_toArray, List.set_cons_zero, List.set_cons_succ]
          refine wpAnyH_take (i := 5) (oi := { dst := some 61, op := Op.binOp BinOp.add 9 (Operand.const (Value.string { data := #[84] })) (Operand.tmp 60) 9, type := 9, pos := "keeps.go:311", after := #[{ on := 4, ground := Ground.data }], guard := none }) (v := .string Y1) rfl (by kernel_rfl) (by kernel_rfl) (by kernel_rfl) (fun _ _ _ h => h) (Or.inl ⟨by kernel_rfl, fun W hW => by simp [execOp, go_sem, f1, zA]⟩) hHeld4 ?_
          simp only [Act.put, List.setIfInBounds_toArray, List.set_cons_zero, List.set_cons_succ]
          refine wpAnyH_ready (rs := [6, 13]) (by kernel_rfl) (by simp) ?_
          refine (AllReadyH.cons (o := { dst := some 62, op := Op.call { callee := Callee.value (Operand.func 20), args := #[Operand.const (Value.string { data := #[106, 111, 101] })], argTypes := #[9] }, type := 9, pos := "keeps.go:311", after := #[{ on := 4, ground := Ground.chain }], guard := none }) rfl (fun K hK => ?_) (AllReadyH.cons (o := { dst := some 69, op := Op.buildSlice 58 1 #[(0, Operand.tmp 68)], type := 58, pos := "keeps.go:311", after := #[{ on := 12, ground := Ground.data }], guard := none }) rfl (fun K hK => ?_) AllReadyH.nil))
          · refine ite_wanted ?_ ?_
            · kernel_rfl
            go_simp
            refine (unhide HXJ x1).mono ?_
            rintro _ x2 ⟨rfl, hk⟩
            have Hx2 := hide ((unhide Hx1).kept (hk))
            clear hk
            show K _ x2
            refine hK.out _ _ ((unhide Hx2).x) (fun hHeld6 => ?_)
            clear hK K
            try simp only [Act.put, List.setIfInBounds_toArray, List.set_cons_zero, List.set_cons_succ]
            refine wpAnyH_take (i := 7) (oi := { dst := some 63, op := Op.binOp BinOp.add 9 (Operand.tmp 61) (Operand.tmp 62) 9, type := 9, pos := "keeps.go:311", after := #[{ on := 5, ground := Ground.data }, { on := 6, ground := Ground.data }], guard := none }) (v := .string Y2) rfl (by kernel_rfl) (by kernel_rfl) (by kernel_rfl) (fun _ _ _ h => h) (Or.inl ⟨by kernel_rfl, fun W hW => by simp [execOp, go_sem, m2, f2]⟩) hHeld6 ?_
            simp only [Act.put, List.setIfInBounds_toArray, List.set_cons_zero, List.set_cons_succ]
            refine wpAnyH_ready (rs := [9, 13]) (by kernel_rfl) (by simp) ?_
            refine (AllReadyH.cons (o := { dst := some 65, op := Op.call { callee := Callee.value (Operand.func 20), args := #[Operand.tmp 64], argTypes := #[9] }, type := 9, pos := "keeps.go:311", after := #[{ on := 8, ground := Ground.data }, { on := 6, ground := Ground.chain }], guard := none }) rfl (fun K hK => ?_) (AllReadyH.cons (o := { dst := some 69, op := Op.buildSlice 58 1 #[(0, Operand.tmp 68)], type := 58, pos := "keeps.go:311", after := #[{ on := 12, ground := Ground.data }], guard := none }) rfl (fun K hK => ?_) AllReadyH.nil))
            · refine ite_wanted ?_ ?_
              · kernel_rfl
              go_simp
              refine (unhide HXP x2).mono ?_
              rintro _ x3 ⟨rfl, hk⟩
              have Hx3 := hide ((unhide Hx2).kept (hk))
              clear hk
              show K _ x3
              refine hK.out _ _ ((unhide Hx3).x) (fun hHeld9 => ?_)
              clear hK K
              try simp only [Act.put, List.setIfInBounds_toArray, List.set_cons_zero, List.set_cons_succ]
              refine wpAnyH_take (i := 10) (oi := { dst := some 66, op := Op.binOp BinOp.add 9 (Operand.tmp 63) (Operand.tmp 65) 9, type := 9, pos := "keeps.go:311", after := #[{ on := 7, ground := Ground.data }, { on := 9, ground := Ground.data }], guard := none }) (v := .string Y3) rfl (by kernel_rfl) (by kernel_rfl) (by kernel_rfl) (fun _ _ _ h => h) (Or.inl ⟨by kernel_rfl, fun W hW => by simp [execOp, go_sem, m3, f3]⟩) hHeld9 ?_
              simp only [Act.put, List.setIfInBounds_toArray, List.set_cons_zero, List.set_cons_succ]
              refine wpAnyH_ready (rs := [13]) (by kernel_rfl) (by simp) ?_
              refine (AllReadyH.cons (o := { dst := some 69, op := Op.buildSlice 58 1 #[(0, Operand.tmp 68)], type := 58, pos := "keeps.go:311", after := #[{ on := 12, ground := Ground.data }], guard := none }) rfl (fun K hK => ?_) AllReadyH.nil)
              refine ite_wanted ?_ ?_
              · kernel_rfl
              go_simp
              obtain ⟨x4, hx4⟩ : ∃ W, W = x3.alloc (.cells #[.int .u8 ((UInt8.ofNat m7).toNat : Int)] 5) := ⟨_, rfl⟩
              have hbx4 : x4.heap[x3.heap.size]? = some (.cells #[.int .u8 ((UInt8.ofNat m7).toNat : Int)] 5 (0, 0)) := by rw [hx4]; exact heap_alloc_new _ _
              have Hx4 := hide ((unhide Hx3).kept (show Kept x3.heap.size x3 x4 by rw [hx4]; exact (Kept.refl _ _).alloc (Nat.le_refl _) _))
              change K _ (x3.alloc (.cells #[.int .u8 ((UInt8.ofNat m7).toNat : Int)] 5))
              rw [← hx4]
              clear hx4
              refine hK.out _ _ ((unhide Hx4).x) (fun hHeld13 => ?_)
              clear hK K
              try simp only [Act.put, List.setIfInBounds_toArray, List.set_cons_zero, List.set_cons_succ]
              refine wpAnyH_ready (rs := [14]) (by kernel_rfl) (by simp) ?_
              refine (AllReadyH.cons (o := { dst := some 70, op := Op.convert 58 9 (Operand.tmp 69), type := 9, pos := "keeps.go:311", after := #[{ on := 13, ground := Ground.data }], guard := none }) rfl (fun K hK => ?_) AllReadyH.nil)
              refine ite_wanted ?_ ?_
              · kernel_rfl
              refine wp_conv_row (x := .tmp 69) rfl (UInt8.ofNat m7) _ hbx4 ?_ ?_
              · kernel_rfl
              simp only [Act.put]
              refine hK.out _ _ ((unhide Hx4).x) (fun hHeld14 => ?_)
              clear hK K
              try simp only [List.setIfInBounds_toArray, List.set_cons_zero, List.set_cons_succ]
              refine wpAnyH_take (i := 15) (oi := { dst := some 71, op := Op.binOp BinOp.add 9 (Operand.tmp 66) (Operand.tmp 70) 9, type := 9, pos := "keeps.go:311", after := #[{ on := 10, ground := Ground.data }, { on := 14, ground := Ground.data }], guard := none }) (v := .string Y4) rfl (by kernel_rfl) (by kernel_rfl) (by kernel_rfl) (fun _ _ _ h => h) (Or.inl ⟨by kernel_rfl, fun W hW => by simp [execOp, go_sem, m4, f4]⟩) hHeld14 ?_
              simp only [Act.put, List.setIfInBounds_toArray, List.set_cons_zero, List.set_cons_succ]
              refine wpAnyH_ready (rs := [16]) (by kernel_rfl) (by simp) ?_
              refine AllReadyH.cons (o := { dst := some 72, op := Op.call { callee := Callee.value (Operand.func 22), args := #[Operand.tmp 59, Operand.tmp 71], argTypes := #[31, 9] }, type := 9, pos := "keeps.go:311", after := #[{ on := 3, ground := Ground.data }, { on := 15, ground := Ground.data }, { on := 9, ground := Ground.chain }], guard := none }) rfl (fun K hK => ?_) AllReadyH.nil
              refine ite_wanted ?_ ?_
              · kernel_rfl
              go_simp
              refine ((unhide Hx4).do' (by omega) Y4 (by omega) (unhide HT1) h01).mono ?_
              rintro _ w9 ⟨rfl, hs9⟩
              have HS9 := hide hs9
              clear hs9
              show K _ w9
              refine hK.out _ _ ((unhide HS9).x) (fun hHeld16 => ?_)
              clear hK K
              try simp only [Act.put, List.setIfInBounds_toArray, List.set_cons_zero, List.set_cons_succ]
              refine wpAnyH_take (i := 17) (oi := { dst := some 13, op := Op.assign (Operand.tmp 72), type := 9, pos := "keeps.go:311", after := #[{ on := 16, ground := Ground.data }, { on := 16, ground := Ground.chain }, { on := 0, ground := Ground.phase }, { on := 1, ground := Ground.phase }, { on := 2, ground := Ground.phase }, { on := 3, ground := Ground.phase }, { on := 4, ground := Ground.phase }, { on := 5, ground := Ground.phase }, { on := 6, ground := Ground.phase }, { on := 7, ground := Ground.phase }, { on := 8, ground := Ground.phase }, { on := 9, ground := Ground.phase }, { on := 10, ground := Ground.phase }, { on := 11, ground := Ground.phase }, { on := 12, ground := Ground.phase }, { on := 13, ground := Ground.phase }, { on := 14, ground := Ground.phase }, { on := 15, ground := Ground.phase }, { on := 16, ground := Ground.phase }], guard := none }) (v := .string (V1.tell Y4)) rfl (by kernel_rfl) (by kernel_rfl) (by kernel_rfl) (fun _ _ _ h => h) (Or.inl ⟨by kernel_rfl, fun W hW => by kernel_rfl⟩) hHeld16 ?_
              simp only [Act.put, List.setIfInBounds_toArray, List.set_cons_zero, List.set_cons_succ]
              refine wpAnyH_done (by kernel_rfl) ?_ _
              go_wp2_with fail
              go_meet
              case rel => exact ⟨rfl, unhide HS9⟩
            · refine ite_wanted ?_ ?_
              · kernel_rfl
              go_simp
              obtain ⟨x6, hx6⟩ : ∃ W, W = x2.alloc (.cells #[.int .u8 ((UInt8.ofNat m7).toNat : Int)] 5) := ⟨_, rfl⟩
              have hbx6 : x6.heap[x2.heap.size]? = some (.cells #[.int .u8 ((UInt8.ofNat m7).toNat : Int)] 5 (0, 0)) := by rw [hx6]; exact heap_alloc_new _ _
              have Hx6 := hide ((unhide Hx2).kept (show Kept x2.heap.size x2 x6 by rw [hx6]; exact (Kept.refl _ _).alloc (Nat.le_refl _) _))
              change K _ (x2.alloc (.cells #[.int .u8 ((UInt8.ofNat m7).toNat : Int)] 5))
              rw [← hx6]
              clear hx6
              refine hK.out _ _ ((unhide Hx6).x) (fun hHeld13 => ?_)
              clear hK K
              try simp only [Act.put, List.setIfInBounds_toArray, List.set_cons_zero, List.set_cons_succ]
              refine wpAnyH_ready (rs := [9, 14]) (by kernel_rfl) (by simp) ?_
              refine (AllReadyH.cons (o := { dst := some 65, op := Op.call { callee := Callee.value (Operand.func 20), args := #[Operand.tmp 64], argTypes := #[9] }, type := 9, pos := "keeps.go:311", after := #[{ on := 8, ground := Ground.data }, { on := 6, ground := Ground.chain }], guard := none }) rfl (fun K hK => ?_) (AllReadyH.cons (o := { dst := some 70, op := Op.convert 58 9 (Operand.tmp 69), type := 9, pos := "keeps.go:311", after := #[{ on := 13, ground := Ground.data }], guard := none }) rfl (fun K hK => ?_) AllReadyH.nil))
              · refine ite_wanted ?_ ?_
                · kernel_rfl
                go_simp
                refine (unhide HXP x6).mono ?_
                rintro _ x7 ⟨rfl, hk⟩
                have Hx7 := hide ((unhide Hx6).kept (hk))
                have hbx7 := (hk.block _ (Array.getElem?_eq_some_iff.1 hbx6).1).trans hbx6
                clear hk
                show K _ x7
                refine hK.out _ _ ((unhide Hx7).x) (fun hHeld9 => ?_)
                clear hK K
                try simp only [Act.put, List.setIfInBounds_toArray, List.set_cons_zero, List.set_cons_succ]
                refine wpAnyH_take (i := 10) (oi := { dst := some 66, op := Op.binOp BinOp.add 9 (Operand.tmp 63) (Operand.tmp 65) 9, type := 9, pos := "keeps.go:311", after := #[{ on := 7, ground := Ground.data }, { on := 9, ground := Ground.data }], guard := none }) (v := .string Y3) rfl (by kernel_rfl) (by kernel_rfl) (by kernel_rfl) (fun _ _ _ h => h) (Or.inl ⟨by kernel_rfl, fun W hW => by simp [execOp, go_sem, m3, f3]⟩) hHeld9 ?_
                simp only [Act.put, List.setIfInBounds_toArray, List.set_cons_zero, List.set_cons_succ]
                refine wpAnyH_ready (rs := [14]) (by kernel_rfl) (by simp) ?_
                refine (AllReadyH.cons (o := { dst := some 70, op := Op.convert 58 9 (Operand.tmp 69), type := 9, pos := "keeps.go:311", after := #[{ on := 13, ground := Ground.data }], guard := none }) rfl (fun K hK => ?_) AllReadyH.nil)
                refine ite_wanted ?_ ?_
                · kernel_rfl
                refine wp_conv_row (x := .tmp 69) rfl (UInt8.ofNat m7) _ hbx7 ?_ ?_
                · kernel_rfl
                simp only [Act.put]
                refine hK.out _ _ ((unhide Hx7).x) (fun hHeld14 => ?_)
                clear hK K
                try simp only [List.setIfInBounds_toArray, List.set_cons_zero, List.set_cons_succ]
                refine wpAnyH_take (i := 15) (oi := { dst := some 71, op := Op.binOp BinOp.add 9 (Operand.tmp 66) (Operand.tmp 70) 9, type := 9, pos := "keeps.go:311", after := #[{ on := 10, ground := Ground.data }, { on := 14, ground := Ground.data }], guard := none }) (v := .string Y4) rfl (by kernel_rfl) (by kernel_rfl) (by kernel_rfl) (fun _ _ _ h => h) (Or.inl ⟨by kernel_rfl, fun W hW => by simp [execOp, go_sem, m4, f4]⟩) hHeld14 ?_
                simp only [Act.put, List.setIfInBounds_toArray, List.set_cons_zero, List.set_cons_succ]
                refine wpAnyH_ready (rs := [16]) (by kernel_rfl) (by simp) ?_
                refine AllReadyH.cons (o := { dst := some 72, op := Op.call { callee := Callee.value (Operand.func 22), args := #[Operand.tmp 59, Operand.tmp 71], argTypes := #[31, 9] }, type := 9, pos := "keeps.go:311", after := #[{ on := 3, ground := Ground.data }, { on := 15, ground := Ground.data }, { on := 9, ground := Ground.chain }], guard := none }) rfl (fun K hK => ?_) AllReadyH.nil
                refine ite_wanted ?_ ?_
                · kernel_rfl
                go_simp
                refine ((unhide Hx7).do' (by omega) Y4 (by omega) (unhide HT1) h01).mono ?_
                rintro _ w9 ⟨rfl, hs9⟩
                have HS9 := hide hs9
                clear hs9
                show K _ w9
                refine hK.out _ _ ((unhide HS9).x) (fun hHeld16 => ?_)
                clear hK K
                try simp only [Act.put, List.setIfInBounds_toArray, List.set_cons_zero, List.set_cons_succ]
                refine wpAnyH_take (i := 17) (oi := { dst := some 13, op := Op.assign (Operand.tmp 72), type := 9, pos := "keeps.go:311", after := #[{ on := 16, ground := Ground.data }, { on := 16, ground := Ground.chain }, { on := 0, ground := Ground.phase }, { on := 1, ground := Ground.phase }, { on := 2, ground := Ground.phase }, { on := 3, ground := Ground.phase }, { on := 4, ground := Ground.phase }, { on := 5, ground := Ground.phase }, { on := 6, ground := Ground.phase }, { on := 7, ground := Ground.phase }, { on := 8, ground := Ground.phase }, { on := 9, ground := Ground.phase }, { on := 10, ground := Ground.phase }, { on := 11, ground := Ground.phase }, { on := 12, ground := Ground.phase }, { on := 13, ground := Ground.phase }, { on := 14, ground := Ground.phase }, { on := 15, ground := Ground.phase }, { on := 16, ground := Ground.phase }], guard := none }) (v := .string (V1.tell Y4)) rfl (by kernel_rfl) (by kernel_rfl) (by kernel_rfl) (fun _ _ _ h => h) (Or.inl ⟨by kernel_rfl, fun W hW => by kernel_rfl⟩) hHeld16 ?_
                simp only [Act.put, List.setIfInBounds_toArray, List.set_cons_zero, List.set_cons_succ]
                refine wpAnyH_done (by kernel_rfl) ?_ _
                go_wp2_with fail
                go_meet
                case rel => exact ⟨rfl, unhide HS9⟩
              · refine ite_wanted ?_ ?_
                · kernel_rfl
                refine wp_conv_row (x := .tmp 69) rfl (UInt8.ofNat m7) _ hbx6 ?_ ?_
                · kernel_rfl
                simp only [Act.put]
                refine hK.out _ _ ((unhide Hx6).x) (fun hHeld14 => ?_)
                clear hK K
                try simp only [List.setIfInBounds_toArray, List.set_cons_zero, List.set_cons_succ]
                refine wpAnyH_ready (rs := [9]) (by kernel_rfl) (by simp) ?_
                refine (AllReadyH.cons (o := { dst := some 65, op := Op.call { callee := Callee.value (Operand.func 20), args := #[Operand.tmp 64], argTypes := #[9] }, type := 9, pos := "keeps.go:311", after := #[{ on := 8, ground := Ground.data }, { on := 6, ground := Ground.chain }], guard := none }) rfl (fun K hK => ?_) AllReadyH.nil)
                refine ite_wanted ?_ ?_
                · kernel_rfl
                go_simp
                refine (unhide HXP x6).mono ?_
                rintro _ x10 ⟨rfl, hk⟩
                have Hx10 := hide ((unhide Hx6).kept (hk))
                have hbx10 := (hk.block _ (Array.getElem?_eq_some_iff.1 hbx6).1).trans hbx6
                clear hk
                show K _ x10
                refine hK.out _ _ ((unhide Hx10).x) (fun hHeld9 => ?_)
                clear hK K
                try simp only [Act.put, List.setIfInBounds_toArray, List.set_cons_zero, List.set_cons_succ]
                refine wpAnyH_take (i := 10) (oi := { dst := some 66, op := Op.binOp BinOp.add 9 (Operand.tmp 63) (Operand.tmp 65) 9, type := 9, pos := "keeps.go:311", after := #[{ on := 7, ground := Ground.data }, { on := 9, ground := Ground.data }], guard := none }) (v := .string Y3) rfl (by kernel_rfl) (by kernel_rfl) (by kernel_rfl) (fun _ _ _ h => h) (Or.inl ⟨by kernel_rfl, fun W hW => by simp [execOp, go_sem, m3, f3]⟩) hHeld9 ?_
                simp only [Act.put, List.setIfInBounds_toArray, List.set_cons_zero, List.set_cons_succ]
                refine wpAnyH_take (i := 15) (oi := { dst := some 71, op := Op.binOp BinOp.add 9 (Operand.tmp 66) (Operand.tmp 70) 9, type := 9, pos := "keeps.go:311", after := #[{ on := 10, ground := Ground.data }, { on := 14, ground := Ground.data }], guard := none }) (v := .string Y4) rfl (by kernel_rfl) (by kernel_rfl) (by kernel_rfl) (fun _ _ _ h => h) (Or.inl ⟨by kernel_rfl, fun W hW => by simp [execOp, go_sem, m4, f4]⟩) hHeld9 ?_
                simp only [Act.put, List.setIfInBounds_toArray, List.set_cons_zero, List.set_cons_succ]
                refine wpAnyH_ready (rs := [16]) (by kernel_rfl) (by simp) ?_
                refine AllReadyH.cons (o := { dst := some 72, op := Op.call { callee := Callee.value (Operand.func 22), args := #[Operand.tmp 59, Operand.tmp 71], argTypes := #[31, 9] }, type := 9, pos := "keeps.go:311", after := #[{ on := 3, ground := Ground.data }, { on := 15, ground := Ground.data }, { on := 9, ground := Ground.chain }], guard := none }) rfl (fun K hK => ?_) AllReadyH.nil
                refine ite_wanted ?_ ?_
                · kernel_rfl
                go_simp
                refine ((unhide Hx10).do' (by omega) Y4 (by omega) (unhide HT1) h01).mono ?_
                rintro _ w9 ⟨rfl, hs9⟩
                have HS9 := hide hs9
                clear hs9
                show K _ w9
                refine hK.out _ _ ((unhide HS9).x) (fun hHeld16 => ?_)
                clear hK K
                try simp only [Act.put, List.setIfInBounds_toArray, List.set_cons_zero, List.set_cons_succ]
                refine wpAnyH_take (i := 17) (oi := { dst := some 13, op := Op.assign (Operand.tmp 72), type := 9, pos := "keeps.go:311", after := #[{ on := 16, ground := Ground.data }, { on := 16, ground := Ground.chain }, { on := 0, ground := Ground.phase }, { on := 1, ground := Ground.phase }, { on := 2, ground := Ground.phase }, { on := 3, ground := Ground.phase }, { on := 4, ground := Ground.phase }, { on := 5, ground := Ground.phase }, { on := 6, ground := Ground.phase }, { on := 7, ground := Ground.phase }, { on := 8, ground := Ground.phase }, { on := 9, ground := Ground.phase }, { on := 10, ground := Ground.phase }, { on := 11, ground := Ground.phase }, { on := 12, ground := Ground.phase }, { on := 13, ground := Ground.phase }, { on := 14, ground := Ground.phase }, { on := 15, ground := Ground.phase }, { on := 16, ground := Ground.phase }], guard := none }) (v := .string (V1.tell Y4)) rfl (by kernel_rfl) (by kernel_rfl) (by kernel_rfl) (fun _ _ _ h => h) (Or.inl ⟨by kernel_rfl, fun W hW => by kernel_rfl⟩) hHeld16 ?_
                simp only [Act.put, List.setIfInBounds_toArray, List.set_cons_zero, List.set_cons_succ]
                refine wpAnyH_done (by kernel_rfl) ?_ _
                go_wp2_with fail
                go_meet
                case rel => exact ⟨rfl, unhide HS9⟩
          · refine ite_wanted ?_ ?_
            · kernel_rfl
            go_simp
            obtain ⟨x11, hx11⟩ : ∃ W, W = x1.alloc (.cells #[.int .u8 ((UInt8.ofNat m7).toNat : Int)] 5) := ⟨_, rfl⟩
            have hbx11 : x11.heap[x1.heap.size]? = some (.cells #[.int .u8 ((UInt8.ofNat m7).toNat : Int)] 5 (0, 0)) := by rw [hx11]; exact heap_alloc_new _ _
            have Hx11 := hide ((unhide Hx1).kept (show Kept x1.heap.size x1 x11 by rw [hx11]; exact (Kept.refl _ _).alloc (Nat.le_refl _) _))
            change K _ (x1.alloc (.cells #[.int .u8 ((UInt8.ofNat m7).toNat : Int)] 5))
            rw [← hx11]
            clear hx11
            refine hK.out _ _ ((unhide Hx11).x) (fun hHeld13 => ?_)
            clear hK K
            try simp only [Act.put, List.setIfInBounds_toArray, List.set_cons_zero, List.set_cons_succ]
            refine wpAnyH_ready (rs := [6, 14]) (by kernel_rfl) (by simp) ?_
            refine (AllReadyH.cons (o := { dst := some 62, op := Op.call { callee := Callee.value (Operand.func 20), args := #[Operand.const (Value.string { data := #[106, 111, 101] })], argTypes := #[9] }, type := 9, pos := "keeps.go:311", after := #[{ on := 4, ground := Ground.chain }], guard := none }) rfl (fun K hK => ?_) (AllReadyH.cons (o := { dst := some 70, op := Op.convert 58 9 (Operand.tmp 69), type := 9, pos := "keeps.go:311", after := #[{ on := 13, ground := Ground.data }], guard := none }) rfl (fun K hK => ?_) AllReadyH.nil))
            · refine ite_wanted ?_ ?_
              · kernel_rfl
              go_simp
              refine (unhide HXJ x11).mono ?_
              rintro _ x12 ⟨rfl, hk⟩
              have Hx12 := hide ((unhide Hx11).kept (hk))
              have hbx12 := (hk.block _ (Array.getElem?_eq_some_iff.1 hbx11).1).trans hbx11
              clear hk
              show K _ x12
              refine hK.out _ _ ((unhide Hx12).x) (fun hHeld6 => ?_)
              clear hK K
              try simp only [Act.put, List.setIfInBounds_toArray, List.set_cons_zero, List.set_cons_succ]
              refine wpAnyH_take (i := 7) (oi := { dst := some 63, op := Op.binOp BinOp.add 9 (Operand.tmp 61) (Operand.tmp 62) 9, type := 9, pos := "keeps.go:311", after := #[{ on := 5, ground := Ground.data }, { on := 6, ground := Ground.data }], guard := none }) (v := .string Y2) rfl (by kernel_rfl) (by kernel_rfl) (by kernel_rfl) (fun _ _ _ h => h) (Or.inl ⟨by kernel_rfl, fun W hW => by simp [execOp, go_sem, m2, f2]⟩) hHeld6 ?_
              simp only [Act.put, List.setIfInBounds_toArray, List.set_cons_zero, List.set_cons_succ]
              refine wpAnyH_ready (rs := [9, 14]) (by kernel_rfl) (by simp) ?_
              refine (AllReadyH.cons (o := { dst := some 65, op := Op.call { callee := Callee.value (Operand.func 20), args := #[Operand.tmp 64], argTypes := #[9] }, type := 9, pos := "keeps.go:311", after := #[{ on := 8, ground := Ground.data }, { on := 6, ground := Ground.chain }], guard := none }) rfl (fun K hK => ?_) (AllReadyH.cons (o := { dst := some 70, op := Op.convert 58 9 (Operand.tmp 69), type := 9, pos := "keeps.go:311", after := #[{ on := 13, ground := Ground.data }], guard := none }) rfl (fun K hK => ?_) AllReadyH.nil))
              · refine ite_wanted ?_ ?_
                · kernel_rfl
                go_simp
                refine (unhide HXP x12).mono ?_
                rintro _ x13 ⟨rfl, hk⟩
                have Hx13 := hide ((unhide Hx12).kept (hk))
                have hbx13 := (hk.block _ (Array.getElem?_eq_some_iff.1 hbx12).1).trans hbx12
                clear hk
                show K _ x13
                refine hK.out _ _ ((unhide Hx13).x) (fun hHeld9 => ?_)
                clear hK K
                try simp only [Act.put, List.setIfInBounds_toArray, List.set_cons_zero, List.set_cons_succ]
                refine wpAnyH_take (i := 10) (oi := { dst := some 66, op := Op.binOp BinOp.add 9 (Operand.tmp 63) (Operand.tmp 65) 9, type := 9, pos := "keeps.go:311", after := #[{ on := 7, ground := Ground.data }, { on := 9, ground := Ground.data }], guard := none }) (v := .string Y3) rfl (by kernel_rfl) (by kernel_rfl) (by kernel_rfl) (fun _ _ _ h => h) (Or.inl ⟨by kernel_rfl, fun W hW => by simp [execOp, go_sem, m3, f3]⟩) hHeld9 ?_
                simp only [Act.put, List.setIfInBounds_toArray, List.set_cons_zero, List.set_cons_succ]
                refine wpAnyH_ready (rs := [14]) (by kernel_rfl) (by simp) ?_
                refine (AllReadyH.cons (o := { dst := some 70, op := Op.convert 58 9 (Operand.tmp 69), type := 9, pos := "keeps.go:311", after := #[{ on := 13, ground := Ground.data }], guard := none }) rfl (fun K hK => ?_) AllReadyH.nil)
                refine ite_wanted ?_ ?_
                · kernel_rfl
                refine wp_conv_row (x := .tmp 69) rfl (UInt8.ofNat m7) _ hbx13 ?_ ?_
                · kernel_rfl
                simp only [Act.put]
                refine hK.out _ _ ((unhide Hx13).x) (fun hHeld14 => ?_)
                clear hK K
                try simp only [List.setIfInBounds_toArray, List.set_cons_zero, List.set_cons_succ]
                refine wpAnyH_take (i := 15) (oi := { dst := some 71, op := Op.binOp BinOp.add 9 (Operand.tmp 66) (Operand.tmp 70) 9, type := 9, pos := "keeps.go:311", after := #[{ on := 10, ground := Ground.data }, { on := 14, ground := Ground.data }], guard := none }) (v := .string Y4) rfl (by kernel_rfl) (by kernel_rfl) (by kernel_rfl) (fun _ _ _ h => h) (Or.inl ⟨by kernel_rfl, fun W hW => by simp [execOp, go_sem, m4, f4]⟩) hHeld14 ?_
                simp only [Act.put, List.setIfInBounds_toArray, List.set_cons_zero, List.set_cons_succ]
                refine wpAnyH_ready (rs := [16]) (by kernel_rfl) (by simp) ?_
                refine AllReadyH.cons (o := { dst := some 72, op := Op.call { callee := Callee.value (Operand.func 22), args := #[Operand.tmp 59, Operand.tmp 71], argTypes := #[31, 9] }, type := 9, pos := "keeps.go:311", after := #[{ on := 3, ground := Ground.data }, { on := 15, ground := Ground.data }, { on := 9, ground := Ground.chain }], guard := none }) rfl (fun K hK => ?_) AllReadyH.nil
                refine ite_wanted ?_ ?_
                · kernel_rfl
                go_simp
                refine ((unhide Hx13).do' (by omega) Y4 (by omega) (unhide HT1) h01).mono ?_
                rintro _ w9 ⟨rfl, hs9⟩
                have HS9 := hide hs9
                clear hs9
                show K _ w9
                refine hK.out _ _ ((unhide HS9).x) (fun hHeld16 => ?_)
                clear hK K
                try simp only [Act.put, List.setIfInBounds_toArray, List.set_cons_zero, List.set_cons_succ]
                refine wpAnyH_take (i := 17) (oi := { dst := some 13, op := Op.assign (Operand.tmp 72), type := 9, pos := "keeps.go:311", after := #[{ on := 16, ground := Ground.data }, { on := 16, ground := Ground.chain }, { on := 0, ground := Ground.phase }, { on := 1, ground := Ground.phase }, { on := 2, ground := Ground.phase }, { on := 3, ground := Ground.phase }, { on := 4, ground := Ground.phase }, { on := 5, ground := Ground.phase }, { on := 6, ground := Ground.phase }, { on := 7, ground := Ground.phase }, { on := 8, ground := Ground.phase }, { on := 9, ground := Ground.phase }, { on := 10, ground := Ground.phase }, { on := 11, ground := Ground.phase }, { on := 12, ground := Ground.phase }, { on := 13, ground := Ground.phase }, { on := 14, ground := Ground.phase }, { on := 15, ground := Ground.phase }, { on := 16, ground := Ground.phase }], guard := none }) (v := .string (V1.tell Y4)) rfl (by kernel_rfl) (by kernel_rfl) (by kernel_rfl) (fun _ _ _ h => h) (Or.inl ⟨by kernel_rfl, fun W hW => by kernel_rfl⟩) hHeld16 ?_
                simp only [Act.put, List.setIfInBounds_toArray, List.set_cons_zero, List.set_cons_succ]
                refine wpAnyH_done (by kernel_rfl) ?_ _
                go_wp2_with fail
                go_meet
                case rel => exact ⟨rfl, unhide HS9⟩
              · refine ite_wanted ?_ ?_
                · kernel_rfl
                refine wp_conv_row (x := .tmp 69) rfl (UInt8.ofNat m7) _ hbx12 ?_ ?_
                · kernel_rfl
                simp only [Act.put]
                refine hK.out _ _ ((unhide Hx12).x) (fun hHeld14 => ?_)
                clear hK K
                try simp only [List.setIfInBounds_toArray, List.set_cons_zero, List.set_cons_succ]
                refine wpAnyH_ready (rs := [9]) (by kernel_rfl) (by simp) ?_
                refine (AllReadyH.cons (o := { dst := some 65, op := Op.call { callee := Callee.value (Operand.func 20), args := #[Operand.tmp 64], argTypes := #[9] }, type := 9, pos := "keeps.go:311", after := #[{ on := 8, ground := Ground.data }, { on := 6, ground := Ground.chain }], guard := none }) rfl (fun K hK => ?_) AllReadyH.nil)
                refine ite_wanted ?_ ?_
                · kernel_rfl
                go_simp
                refine (unhide HXP x12).mono ?_
                rintro _ x16 ⟨rfl, hk⟩
                have Hx16 := hide ((unhide Hx12).kept (hk))
                have hbx16 := (hk.block _ (Array.getElem?_eq_some_iff.1 hbx12).1).trans hbx12
                clear hk
                show K _ x16
                refine hK.out _ _ ((unhide Hx16).x) (fun hHeld9 => ?_)
                clear hK K
                try simp only [Act.put, List.setIfInBounds_toArray, List.set_cons_zero, List.set_cons_succ]
                refine wpAnyH_take (i := 10) (oi := { dst := some 66, op := Op.binOp BinOp.add 9 (Operand.tmp 63) (Operand.tmp 65) 9, type := 9, pos := "keeps.go:311", after := #[{ on := 7, ground := Ground.data }, { on := 9, ground := Ground.data }], guard := none }) (v := .string Y3) rfl (by kernel_rfl) (by kernel_rfl) (by kernel_rfl) (fun _ _ _ h => h) (Or.inl ⟨by kernel_rfl, fun W hW => by simp [execOp, go_sem, m3, f3]⟩) hHeld9 ?_
                simp only [Act.put, List.setIfInBounds_toArray, List.set_cons_zero, List.set_cons_succ]
                refine wpAnyH_take (i := 15) (oi := { dst := some 71, op := Op.binOp BinOp.add 9 (Operand.tmp 66) (Operand.tmp 70) 9, type := 9, pos := "keeps.go:311", after := #[{ on := 10, ground := Ground.data }, { on := 14, ground := Ground.data }], guard := none }) (v := .string Y4) rfl (by kernel_rfl) (by kernel_rfl) (by kernel_rfl) (fun _ _ _ h => h) (Or.inl ⟨by kernel_rfl, fun W hW => by simp [execOp, go_sem, m4, f4]⟩) hHeld9 ?_
                simp only [Act.put, List.setIfInBounds_toArray, List.set_cons_zero, List.set_cons_succ]
                refine wpAnyH_ready (rs := [16]) (by kernel_rfl) (by simp) ?_
                refine AllReadyH.cons (o := { dst := some 72, op := Op.call { callee := Callee.value (Operand.func 22), args := #[Operand.tmp 59, Operand.tmp 71], argTypes := #[31, 9] }, type := 9, pos := "keeps.go:311", after := #[{ on := 3, ground := Ground.data }, { on := 15, ground := Ground.data }, { on := 9, ground := Ground.chain }], guard := none }) rfl (fun K hK => ?_) AllReadyH.nil
                refine ite_wanted ?_ ?_
                · kernel_rfl
                go_simp
                refine ((unhide Hx16).do' (by omega) Y4 (by omega) (unhide HT1) h01).mono ?_
                rintro _ w9 ⟨rfl, hs9⟩
                have HS9 := hide hs9
                clear hs9
                show K _ w9
                refine hK.out _ _ ((unhide HS9).x) (fun hHeld16 => ?_)
                clear hK K
                try simp only [Act.put, List.setIfInBounds_toArray, List.set_cons_zero, List.set_cons_succ]
                refine wpAnyH_take (i := 17) (oi := { dst := some 13, op := Op.assign (Operand.tmp 72), type := 9, pos := "keeps.go:311", after := #[{ on := 16, ground := Ground.data }, { on := 16, ground := Ground.chain }, { on := 0, ground := Ground.phase }, { on := 1, ground := Ground.phase }, { on := 2, ground := Ground.phase }, { on := 3, ground := Ground.phase }, { on := 4, ground := Ground.phase }, { on := 5, ground := Ground.phase }, { on := 6, ground := Ground.phase }, { on := 7, ground := Ground.phase }, { on := 8, ground := Ground.phase }, { on := 9, ground := Ground.phase }, { on := 10, ground := Ground.phase }, { on := 11, ground := Ground.phase }, { on := 12, ground := Ground.phase }, { on := 13, ground := Ground.phase }, { on := 14, ground := Ground.phase }, { on := 15, ground := Ground.phase }, { on := 16, ground := Ground.phase }], guard := none }) (v := .string (V1.tell Y4)) rfl (by kernel_rfl) (by kernel_rfl) (by kernel_rfl) (fun _ _ _ h => h) (Or.inl ⟨by kernel_rfl, fun W hW => by kernel_rfl⟩) hHeld16 ?_
                simp only [Act.put, List.setIfInBounds_toArray, List.set_cons_zero, List.set_cons_succ]
                refine wpAnyH_done (by kernel_rfl) ?_ _
                go_wp2_with fail
                go_meet
                case rel => exact ⟨rfl, unhide HS9⟩
            · refine ite_wanted ?_ ?_
              · kernel_rfl
              refine wp_conv_row (x := .tmp 69) rfl (UInt8.ofNat m7) _ hbx11 ?_ ?_
              · kernel_rfl
              simp only [Act.put]
              refine hK.out _ _ ((unhide Hx11).x) (fun hHeld14 => ?_)
              clear hK K
              try simp only [List.setIfInBounds_toArray, List.set_cons_zero, List.set_cons_succ]
              refine wpAnyH_ready (rs := [6]) (by kernel_rfl) (by simp) ?_
              refine (AllReadyH.cons (o := { dst := some 62, op := Op.call { callee := Callee.value (Operand.func 20), args := #[Operand.const (Value.string { data := #[106, 111, 101] })], argTypes := #[9] }, type := 9, pos := "keeps.go:311", after := #[{ on := 4, ground := Ground.chain }], guard := none }) rfl (fun K hK => ?_) AllReadyH.nil)
              refine ite_wanted ?_ ?_
              · kernel_rfl
              go_simp
              refine (unhide HXJ x11).mono ?_
              rintro _ x18 ⟨rfl, hk⟩
              have Hx18 := hide ((unhide Hx11).kept (hk))
              have hbx18 := (hk.block _ (Array.getElem?_eq_some_iff.1 hbx11).1).trans hbx11
              clear hk
              show K _ x18
              refine hK.out _ _ ((unhide Hx18).x) (fun hHeld6 => ?_)
              clear hK K
              try simp only [Act.put, List.setIfInBounds_toArray, List.set_cons_zero, List.set_cons_succ]
              refine wpAnyH_take (i := 7) (oi := { dst := some 63, op := Op.binOp BinOp.add 9 (Operand.tmp 61) (Operand.tmp 62) 9, type := 9, pos := "keeps.go:311", after := #[{ on := 5, ground := Ground.data }, { on := 6, ground := Ground.data }], guard := none }) (v := .string Y2) rfl (by kernel_rfl) (by kernel_rfl) (by kernel_rfl) (fun _ _ _ h => h) (Or.inl ⟨by kernel_rfl, fun W hW => by simp [execOp, go_sem, m2, f2]⟩) hHeld6 ?_
              simp only [Act.put, List.setIfInBounds_toArray, List.set_cons_zero, List.set_cons_succ]
              refine wpAnyH_ready (rs := [9]) (by kernel_rfl) (by simp) ?_
              refine (AllReadyH.cons (o := { dst := some 65, op := Op.call { callee := Callee.value (Operand.func 20), args := #[Operand.tmp 64], argTypes := #[9] }, type := 9, pos := "keeps.go:311", after := #[{ on := 8, ground := Ground.data }, { on := 6, ground := Ground.chain }], guard := none }) rfl (fun K hK => ?_) AllReadyH.nil)
              refine ite_wanted ?_ ?_
              · kernel_rfl
              go_simp
              refine (unhide HXP x18).mono ?_
              rintro _ x19 ⟨rfl, hk⟩
              have Hx19 := hide ((unhide Hx18).kept (hk))
              have hbx19 := (hk.block _ (Array.getElem?_eq_some_iff.1 hbx18).1).trans hbx18
              clear hk
              show K _ x19
              refine hK.out _ _ ((unhide Hx19).x) (fun hHeld9 => ?_)
              clear hK K
              try simp only [Act.put, List.setIfInBounds_toArray, List.set_cons_zero, List.set_cons_succ]
              refine wpAnyH_take (i := 10) (oi := { dst := some 66, op := Op.binOp BinOp.add 9 (Operand.tmp 63) (Operand.tmp 65) 9, type := 9, pos := "keeps.go:311", after := #[{ on := 7, ground := Ground.data }, { on := 9, ground := Ground.data }], guard := none }) (v := .string Y3) rfl (by kernel_rfl) (by kernel_rfl) (by kernel_rfl) (fun _ _ _ h => h) (Or.inl ⟨by kernel_rfl, fun W hW => by simp [execOp, go_sem, m3, f3]⟩) hHeld9 ?_
              simp only [Act.put, List.setIfInBounds_toArray, List.set_cons_zero, List.set_cons_succ]
              refine wpAnyH_take (i := 15) (oi := { dst := some 71, op := Op.binOp BinOp.add 9 (Operand.tmp 66) (Operand.tmp 70) 9, type := 9, pos := "keeps.go:311", after := #[{ on := 10, ground := Ground.data }, { on := 14, ground := Ground.data }], guard := none }) (v := .string Y4) rfl (by kernel_rfl) (by kernel_rfl) (by kernel_rfl) (fun _ _ _ h => h) (Or.inl ⟨by kernel_rfl, fun W hW => by simp [execOp, go_sem, m4, f4]⟩) hHeld9 ?_
              simp only [Act.put, List.setIfInBounds_toArray, List.set_cons_zero, List.set_cons_succ]
              refine wpAnyH_ready (rs := [16]) (by kernel_rfl) (by simp) ?_
              refine AllReadyH.cons (o := { dst := some 72, op := Op.call { callee := Callee.value (Operand.func 22), args := #[Operand.tmp 59, Operand.tmp 71], argTypes := #[31, 9] }, type := 9, pos := "keeps.go:311", after := #[{ on := 3, ground := Ground.data }, { on := 15, ground := Ground.data }, { on := 9, ground := Ground.chain }], guard := none }) rfl (fun K hK => ?_) AllReadyH.nil
              refine ite_wanted ?_ ?_
              · kernel_rfl
              go_simp
              refine ((unhide Hx19).do' (by omega) Y4 (by omega) (unhide HT1) h01).mono ?_
              rintro _ w9 ⟨rfl, hs9⟩
              have HS9 := hide hs9
              clear hs9
              show K _ w9
              refine hK.out _ _ ((unhide HS9).x) (fun hHeld16 => ?_)
              clear hK K
              try simp only [Act.put, List.setIfInBounds_toArray, List.set_cons_zero, List.set_cons_succ]
              refine wpAnyH_take (i := 17) (oi := { dst := some 13, op := Op.assign (Operand.tmp 72), type := 9, pos := "keeps.go:311", after := #[{ on := 16, ground := Ground.data }, { on := 16, ground := Ground.chain }, { on := 0, ground := Ground.phase }, { on := 1, ground := Ground.phase }, { on := 2, ground := Ground.phase }, { on := 3, ground := Ground.phase }, { on := 4, ground := Ground.phase }, { on := 5, ground := Ground.phase }, { on := 6, ground := Ground.phase }, { on := 7, ground := Ground.phase }, { on := 8, ground := Ground.phase }, { on := 9, ground := Ground.phase }, { on := 10, ground := Ground.phase }, { on := 11, ground := Ground.phase }, { on := 12, ground := Ground.phase }, { on := 13, ground := Ground.phase }, { on := 14, ground := Ground.phase }, { on := 15, ground := Ground.phase }, { on := 16, ground := Ground.phase }], guard := none }) (v := .string (V1.tell Y4)) rfl (by kernel_rfl) (by kernel_rfl) (by kernel_rfl) (fun _ _ _ h => h) (Or.inl ⟨by kernel_rfl, fun W hW => by kernel_rfl⟩) hHeld16 ?_
              simp only [Act.put, List.setIfInBounds_toArray, List.set_cons_zero, List.set_cons_succ]
              refine wpAnyH_done (by kernel_rfl) ?_ _
              go_wp2_with fail
              go_meet
              case rel => exact ⟨rfl, unhide HS9⟩
        · refine ite_wanted ?_ ?_
          · kernel_rfl
          go_simp
          obtain ⟨x20, hx20⟩ : ∃ W, W = w6.drew.alloc (.cells #[.int .u8 ((UInt8.ofNat m7).toNat : Int)] 5) := ⟨_, rfl⟩
          have hbx20 : x20.heap[w6.drew.heap.size]? = some (.cells #[.int .u8 ((UInt8.ofNat m7).toNat : Int)] 5 (0, 0)) := by rw [hx20]; exact heap_alloc_new _ _
          have Hx20 := hide ((unhide HS6).kept (show Kept w6.heap.size w6 x20 by rw [hx20]; exact ((Kept.refl _ _).draws 1).alloc (Nat.le_refl _) _))
          change K _ (w6.drew.alloc (.cells #[.int .u8 ((UInt8.ofNat m7).toNat : Int)] 5))
          rw [← hx20]
          clear hx20
          refine hK.out _ _ ((unhide Hx20).x) (fun hHeld13 => ?_)
          clear hK K
          try simp only [Act.put, List.setIfInBounds_toArray, List.set_cons_zero, List.set_cons_succ]
          refine wpAnyH_ready (rs := [4, 14]) (by kernel_rfl) (by simp) ?_
          refine (AllReadyH.cons (o := { dst := some 60, op := Op.call { callee := Callee.value (Operand.func 20), args := #[Operand.const (Value.string { data := #[97, 100, 109] })], argTypes := #[9] }, type := 9, pos := "keeps.go:311", after := #[], guard := none }) rfl (fun K hK => ?_) (AllReadyH.cons (o := { dst := some 70, op := Op.convert 58 9 (Operand.tmp 69), type := 9, pos := "keeps.go:311", after := #[{ on := 13, ground := Ground.data }], guard := none }) rfl (fun K hK => ?_) AllReadyH.nil))
          · refine ite_wanted ?_ ?_
            · kernel_rfl
            go_simp
            refine (unhide HXA x20).mono ?_
            rintro _ x21 ⟨rfl, hk⟩
            have Hx21 := hide ((unhide Hx20).kept (hk))
            have hbx21 := (hk.block _ (Array.getElem?_eq_some_iff.1 hbx20).1).trans hbx20
            clear hk
            show K _ x21
            refine hK.out _ _ ((unhide Hx21).x) (fun hHeld4 => ?_)
            clear hK K
            try simp only [Act.put, List.setIfInBounds_toArray, List.set_cons_zero, List.set_cons_succ]
            refine wpAnyH_take (i := 5) (oi := { dst := some 61, op := Op.binOp BinOp.add 9 (Operand.const (Value.string { data := #[84] })) (Operand.tmp 60) 9, type := 9, pos := "keeps.go:311", after := #[{ on := 4, ground := Ground.data }], guard := none }) (v := .string Y1) rfl (by kernel_rfl) (by kernel_rfl) (by kernel_rfl) (fun _ _ _ h => h) (Or.inl ⟨by kernel_rfl, fun W hW => by simp [execOp, go_sem, f1, zA]⟩) hHeld4 ?_
            simp only [Act.put, List.setIfInBounds_toArray, List.set_cons_zero, List.set_cons_succ]
            refine wpAnyH_ready (rs := [6, 14]) (by kernel_rfl) (by simp) ?_
            refine (AllReadyH.cons (o := { dst := some 62, op := Op.call { callee := Callee.value (Operand.func 20), args := #[Operand.const (Value.string { data := #[106, 111, 101] })], argTypes := #[9] }, type := 9, pos := "keeps.go:311", after := #[{ on := 4, ground := Ground.chain }], guard := none }) rfl (fun K hK => ?_) (AllReadyH.cons (o := { dst := some 70, op := Op.convert 58 9 (Operand.tmp 69), type := 9, pos := "keeps.go:311", after := #[{ on := 13, ground := Ground.data }], guard := none }) rfl (fun K hK => ?_) AllReadyH.nil))
            · refine ite_wanted ?_ ?_
              · kernel_rfl
              go_simp
              refine (unhide HXJ x21).mono ?_
              rintro _ x22 ⟨rfl, hk⟩
              have Hx22 := hide ((unhide Hx21).kept (hk))
              have hbx22 := (hk.block _ (Array.getElem?_eq_some_iff.1 hbx21).1).trans hbx21
              clear hk
              show K _ x22
              refine hK.out _ _ ((unhide Hx22).x) (fun hHeld6 => ?_)
              clear hK K
              try simp only [Act.put, List.setIfInBounds_toArray, List.set_cons_zero, List.set_cons_succ]
              refine wpAnyH_take (i := 7) (oi := { dst := some 63, op := Op.binOp BinOp.add 9 (Operand.tmp 61) (Operand.tmp 62) 9, type := 9, pos := "keeps.go:311", after := #[{ on := 5, ground := Ground.data }, { on := 6, ground := Ground.data }], guard := none }) (v := .string Y2) rfl (by kernel_rfl) (by kernel_rfl) (by kernel_rfl) (fun _ _ _ h => h) (Or.inl ⟨by kernel_rfl, fun W hW => by simp [execOp, go_sem, m2, f2]⟩) hHeld6 ?_
              simp only [Act.put, List.setIfInBounds_toArray, List.set_cons_zero, List.set_cons_succ]
              refine wpAnyH_ready (rs := [9, 14]) (by kernel_rfl) (by simp) ?_
              refine (AllReadyH.cons (o := { dst := some 65, op := Op.call { callee := Callee.value (Operand.func 20), args := #[Operand.tmp 64], argTypes := #[9] }, type := 9, pos := "keeps.go:311", after := #[{ on := 8, ground := Ground.data }, { on := 6, ground := Ground.chain }], guard := none }) rfl (fun K hK => ?_) (AllReadyH.cons (o := { dst := some 70, op := Op.convert 58 9 (Operand.tmp 69), type := 9, pos := "keeps.go:311", after := #[{ on := 13, ground := Ground.data }], guard := none }) rfl (fun K hK => ?_) AllReadyH.nil))
              · refine ite_wanted ?_ ?_
                · kernel_rfl
                go_simp
                refine (unhide HXP x22).mono ?_
                rintro _ x23 ⟨rfl, hk⟩
                have Hx23 := hide ((unhide Hx22).kept (hk))
                have hbx23 := (hk.block _ (Array.getElem?_eq_some_iff.1 hbx22).1).trans hbx22
                clear hk
                show K _ x23
                refine hK.out _ _ ((unhide Hx23).x) (fun hHeld9 => ?_)
                clear hK K
                try simp only [Act.put, List.setIfInBounds_toArray, List.set_cons_zero, List.set_cons_succ]
                refine wpAnyH_take (i := 10) (oi := { dst := some 66, op := Op.binOp BinOp.add 9 (Operand.tmp 63) (Operand.tmp 65) 9, type := 9, pos := "keeps.go:311", after := #[{ on := 7, ground := Ground.data }, { on := 9, ground := Ground.data }], guard := none }) (v := .string Y3) rfl (by kernel_rfl) (by kernel_rfl) (by kernel_rfl) (fun _ _ _ h => h) (Or.inl ⟨by kernel_rfl, fun W hW => by simp [execOp, go_sem, m3, f3]⟩) hHeld9 ?_
                simp only [Act.put, List.setIfInBounds_toArray, List.set_cons_zero, List.set_cons_succ]
                refine wpAnyH_ready (rs := [14]) (by kernel_rfl) (by simp) ?_
                refine (AllReadyH.cons (o := { dst := some 70, op := Op.convert 58 9 (Operand.tmp 69), type := 9, pos := "keeps.go:311", after := #[{ on := 13, ground := Ground.data }], guard := none }) rfl (fun K hK => ?_) AllReadyH.nil)
                refine ite_wanted ?_ ?_
                · kernel_rfl
                refine wp_conv_row (x := .tmp 69) rfl (UInt8.ofNat m7) _ hbx23 ?_ ?_
                · kernel_rfl
                simp only [Act.put]
                refine hK.out _ _ ((unhide Hx23).x) (fun hHeld14 => ?_)
                clear hK K
                try simp only [List.setIfInBounds_toArray, List.set_cons_zero, List.set_cons_succ]
                refine wpAnyH_take (i := 15) (oi := { dst := some 71, op := Op.binOp BinOp.add 9 (Operand.tmp 66) (Operand.tmp 70) 9, type := 9, pos := "keeps.go:311", after := #[{ on := 10, ground := Ground.data }, { on := 14, ground := Ground.data }], guard := none }) (v := .string Y4) rfl (by kernel_rfl) (by kernel_rfl) (by kernel_rfl) (fun _ _ _ h => h) (Or.inl ⟨by kernel_rfl, fun W hW => by simp [execOp, go_sem, m4, f4]⟩) hHeld14 ?_
                simp only [Act.put, List.setIfInBounds_toArray, List.set_cons_zero, List.set_cons_succ]
                refine wpAnyH_ready (rs := [16]) (by kernel_rfl) (by simp) ?_
                refine AllReadyH.cons (o := { dst := some 72, op := Op.call { callee := Callee.value (Operand.func 22), args := #[Operand.tmp 59, Operand.tmp 71], argTypes := #[31, 9] }, type := 9, pos := "keeps.go:311", after := #[{ on := 3, ground := Ground.data }, { on := 15, ground := Ground.data }, { on := 9, ground := Ground.chain }], guard := none }) rfl (fun K hK => ?_) AllReadyH.nil
                refine ite_wanted ?_ ?_
                · kernel_rfl
                go_simp
                refine ((unhide Hx23).do' (by omega) Y4 (by omega) (unhide HT1) h01).mono ?_
                rintro _ w9 ⟨rfl, hs9⟩
                have HS9 := hide hs9
                clear hs9
                show K _ w9
                refine hK.out _ _ ((unhide HS9).x) (fun hHeld16 => ?_)
                clear hK K
                try simp only [Act.put, List.setIfInBounds_toArray, List.set_cons_zero, List.set_cons_succ]
                refine wpAnyH_take (i := 17) (oi := { dst := some 13, op := Op.assign (Operand.tmp 72), type := 9, pos := "keeps.go:311", after := #[{ on := 16, ground := Ground.data }, { on := 16, ground := Ground.chain }, { on := 0, ground := Ground.phase }, { on := 1, ground := Ground.phase }, { on := 2, ground := Ground.phase }, { on := 3, ground := Ground.phase }, { on := 4, ground := Ground.phase }, { on := 5, ground := Ground.phase }, { on := 6, ground := Ground.phase }, { on := 7, ground := Ground.phase }, { on := 8, ground := Ground.phase }, { on := 9, ground := Ground.phase }, { on := 10, ground := Ground.phase }, { on := 11, ground := Ground.phase }, { on := 12, ground := Ground.phase }, { on := 13, ground := Ground.phase }, { on := 14, ground := Ground.phase }, { on := 15, ground := Ground.phase }, { on := 16, ground := Ground.phase }], guard := none }) (v := .string (V1.tell Y4)) rfl (by kernel_rfl) (by kernel_rfl) (by kernel_rfl) (fun _ _ _ h => h) (Or.inl ⟨by kernel_rfl, fun W hW => by kernel_rfl⟩) hHeld16 ?_
                simp only [Act.put, List.setIfInBounds_toArray, List.set_cons_zero, List.set_cons_succ]
                refine wpAnyH_done (by kernel_rfl) ?_ _
                go_wp2_with fail
                go_meet
                case rel => exact ⟨rfl, unhide HS9⟩
              · refine ite_wanted ?_ ?_
                · kernel_rfl
                refine wp_conv_row (x := .tmp 69) rfl (UInt8.ofNat m7) _ hbx22 ?_ ?_
                · kernel_rfl
                simp only [Act.put]
                refine hK.out _ _ ((unhide Hx22).x) (fun hHeld14 => ?_)
                clear hK K
                try simp only [List.setIfInBounds_toArray, List.set_cons_zero, List.set_cons_succ]
                refine wpAnyH_ready (rs := [9]) (by kernel_rfl) (by simp) ?_
                refine (AllReadyH.cons (o := { dst := some 65, op := Op.call { callee := Callee.value (Operand.func 20), args := #[Operand.tmp 64], argTypes := #[9] }, type := 9, pos := "keeps.go:311", after := #[{ on := 8, ground := Ground.data }, { on := 6, ground := Ground.chain }], guard := none }) rfl (fun K hK => ?_) AllReadyH.nil)
                refine ite_wanted ?_ ?_
                · kernel_rfl
                go_simp
                refine (unhide HXP x22).mono ?_
                rintro _ x26 ⟨rfl, hk⟩
                have Hx26 := hide ((unhide Hx22).kept (hk))
                have hbx26 := (hk.block _ (Array.getElem?_eq_some_iff.1 hbx22).1).trans hbx22
                clear hk
                show K _ x26
                refine hK.out _ _ ((unhide Hx26).x) (fun hHeld9 => ?_)
                clear hK K
                try simp only [Act.put, List.setIfInBounds_toArray, List.set_cons_zero, List.set_cons_succ]
                refine wpAnyH_take (i := 10) (oi := { dst := some 66, op := Op.binOp BinOp.add 9 (Operand.tmp 63) (Operand.tmp 65) 9, type := 9, pos := "keeps.go:311", after := #[{ on := 7, ground := Ground.data }, { on := 9, ground := Ground.data }], guard := none }) (v := .string Y3) rfl (by kernel_rfl) (by kernel_rfl) (by kernel_rfl) (fun _ _ _ h => h) (Or.inl ⟨by kernel_rfl, fun W hW => by simp [execOp, go_sem, m3, f3]⟩) hHeld9 ?_
                simp only [Act.put, List.setIfInBounds_toArray, List.set_cons_zero, List.set_cons_succ]
                refine wpAnyH_take (i := 15) (oi := { dst := some 71, op := Op.binOp BinOp.add 9 (Operand.tmp 66) (Operand.tmp 70) 9, type := 9, pos := "keeps.go:311", after := #[{ on := 10, ground := Ground.data }, { on := 14, ground := Ground.data }], guard := none }) (v := .string Y4) rfl (by kernel_rfl) (by kernel_rfl) (by kernel_rfl) (fun _ _ _ h => h) (Or.inl ⟨by kernel_rfl, fun W hW => by simp [execOp, go_sem, m4, f4]⟩) hHeld9 ?_
                simp only [Act.put, List.setIfInBounds_toArray, List.set_cons_zero, List.set_cons_succ]
                refine wpAnyH_ready (rs := [16]) (by kernel_rfl) (by simp) ?_
                refine AllReadyH.cons (o := { dst := some 72, op := Op.call { callee := Callee.value (Operand.func 22), args := #[Operand.tmp 59, Operand.tmp 71], argTypes := #[31, 9] }, type := 9, pos := "keeps.go:311", after := #[{ on := 3, ground := Ground.data }, { on := 15, ground := Ground.data }, { on := 9, ground := Ground.chain }], guard := none }) rfl (fun K hK => ?_) AllReadyH.nil
                refine ite_wanted ?_ ?_
                · kernel_rfl
                go_simp
                refine ((unhide Hx26).do' (by omega) Y4 (by omega) (unhide HT1) h01).mono ?_
                rintro _ w9 ⟨rfl, hs9⟩
                have HS9 := hide hs9
                clear hs9
                show K _ w9
                refine hK.out _ _ ((unhide HS9).x) (fun hHeld16 => ?_)
                clear hK K
                try simp only [Act.put, List.setIfInBounds_toArray, List.set_cons_zero, List.set_cons_succ]
                refine wpAnyH_take (i := 17) (oi := { dst := some 13, op := Op.assign (Operand.tmp 72), type := 9, pos := "keeps.go:311", after := #[{ on := 16, ground := Ground.data }, { on := 16, ground := Ground.chain }, { on := 0, ground := Ground.phase }, { on := 1, ground := Ground.phase }, { on := 2, ground := Ground.phase }, { on := 3, ground := Ground.phase }, { on := 4, ground := Ground.phase }, { on := 5, ground := Ground.phase }, { on := 6, ground := Ground.phase }, { on := 7, ground := Ground.phase }, { on := 8, ground := Ground.phase }, { on := 9, ground := Ground.phase }, { on := 10, ground := Ground.phase }, { on := 11, ground := Ground.phase }, { on := 12, ground := Ground.phase }, { on := 13, ground := Ground.phase }, { on := 14, ground := Ground.phase }, { on := 15, ground := Ground.phase }, { on := 16, ground := Ground.phase }], guard := none }) (v := .string (V1.tell Y4)) rfl (by kernel_rfl) (by kernel_rfl) (by kernel_rfl) (fun _ _ _ h => h) (Or.inl ⟨by kernel_rfl, fun W hW => by kernel_rfl⟩) hHeld16 ?_
                simp only [Act.put, List.setIfInBounds_toArray, List.set_cons_zero, List.set_cons_succ]
                refine wpAnyH_done (by kernel_rfl) ?_ _
                go_wp2_with fail
                go_meet
                case rel => exact ⟨rfl, unhide HS9⟩
            · refine ite_wanted ?_ ?_
              · kernel_rfl
              refine wp_conv_row (x := .tmp 69) rfl (UInt8.ofNat m7) _ hbx21 ?_ ?_
              · kernel_rfl
              simp only [Act.put]
              refine hK.out _ _ ((unhide Hx21).x) (fun hHeld14 => ?_)
              clear hK K
              try simp only [List.setIfInBounds_toArray, List.set_cons_zero, List.set_cons_succ]
              refine wpAnyH_ready (rs := [6]) (by kernel_rfl) (by simp) ?_
              refine (AllReadyH.cons (o := { dst := some 62, op := Op.call { callee := Callee.value (Operand.func 20), args := #[Operand.const (Value.string { data := #[106, 111, 101] })], argTypes := #[9] }, type := 9, pos := "keeps.go:311", after := #[{ on := 4, ground := Ground.chain }], guard := none }) rfl (fun K hK => ?_) AllReadyH.nil)
              refine ite_wanted ?_ ?_
              · kernel_rfl
              go_simp
              refine (unhide HXJ x21).mono ?_
              rintro _ x28 ⟨rfl, hk⟩
              have Hx28 := hide ((unhide Hx21).kept (hk))
              have hbx28 := (hk.block _ (Array.getElem?_eq_some_iff.1 hbx21).1).trans hbx21
              clear hk
              show K _ x28
              refine hK.out _ _ ((unhide Hx28).x) (fun hHeld6 => ?_)
              clear hK K
              try simp only [Act.put, List.setIfInBounds_toArray, List.set_cons_zero, List.set_cons_succ]
              refine wpAnyH_take (i := 7) (oi := { dst := some 63, op := Op.binOp BinOp.add 9 (Operand.tmp 61) (Operand.tmp 62) 9, type := 9, pos := "keeps.go:311", after := #[{ on := 5, ground := Ground.data }, { on := 6, ground := Ground.data }], guard := none }) (v := .string Y2) rfl (by kernel_rfl) (by kernel_rfl) (by kernel_rfl) (fun _ _ _ h => h) (Or.inl ⟨by kernel_rfl, fun W hW => by simp [execOp, go_sem, m2, f2]⟩) hHeld6 ?_
              simp only [Act.put, List.setIfInBounds_toArray, List.set_cons_zero, List.set_cons_succ]
              refine wpAnyH_ready (rs := [9]) (by kernel_rfl) (by simp) ?_
              refine (AllReadyH.cons (o := { dst := some 65, op := Op.call { callee := Callee.value (Operand.func 20), args := #[Operand.tmp 64], argTypes := #[9] }, type := 9, pos := "keeps.go:311", after := #[{ on := 8, ground := Ground.data }, { on := 6, ground := Ground.chain }], guard := none }) rfl (fun K hK => ?_) AllReadyH.nil)
              refine ite_wanted ?_ ?_
              · kernel_rfl
              go_simp
              refine (unhide HXP x28).mono ?_
              rintro _ x29 ⟨rfl, hk⟩
              have Hx29 := hide ((unhide Hx28).kept (hk))
              have hbx29 := (hk.block _ (Array.getElem?_eq_some_iff.1 hbx28).1).trans hbx28
              clear hk
              show K _ x29
              refine hK.out _ _ ((unhide Hx29).x) (fun hHeld9 => ?_)
              clear hK K
              try simp only [Act.put, List.setIfInBounds_toArray, List.set_cons_zero, List.set_cons_succ]
              refine wpAnyH_take (i := 10) (oi := { dst := some 66, op := Op.binOp BinOp.add 9 (Operand.tmp 63) (Operand.tmp 65) 9, type := 9, pos := "keeps.go:311", after := #[{ on := 7, ground := Ground.data }, { on := 9, ground := Ground.data }], guard := none }) (v := .string Y3) rfl (by kernel_rfl) (by kernel_rfl) (by kernel_rfl) (fun _ _ _ h => h) (Or.inl ⟨by kernel_rfl, fun W hW => by simp [execOp, go_sem, m3, f3]⟩) hHeld9 ?_
              simp only [Act.put, List.setIfInBounds_toArray, List.set_cons_zero, List.set_cons_succ]
              refine wpAnyH_take (i := 15) (oi := { dst := some 71, op := Op.binOp BinOp.add 9 (Operand.tmp 66) (Operand.tmp 70) 9, type := 9, pos := "keeps.go:311", after := #[{ on := 10, ground := Ground.data }, { on := 14, ground := Ground.data }], guard := none }) (v := .string Y4) rfl (by kernel_rfl) (by kernel_rfl) (by kernel_rfl) (fun _ _ _ h => h) (Or.inl ⟨by kernel_rfl, fun W hW => by simp [execOp, go_sem, m4, f4]⟩) hHeld9 ?_
              simp only [Act.put, List.setIfInBounds_toArray, List.set_cons_zero, List.set_cons_succ]
              refine wpAnyH_ready (rs := [16]) (by kernel_rfl) (by simp) ?_
              refine AllReadyH.cons (o := { dst := some 72, op := Op.call { callee := Callee.value (Operand.func 22), args := #[Operand.tmp 59, Operand.tmp 71], argTypes := #[31, 9] }, type := 9, pos := "keeps.go:311", after := #[{ on := 3, ground := Ground.data }, { on := 15, ground := Ground.data }, { on := 9, ground := Ground.chain }], guard := none }) rfl (fun K hK => ?_) AllReadyH.nil
              refine ite_wanted ?_ ?_
              · kernel_rfl
              go_simp
              refine ((unhide Hx29).do' (by omega) Y4 (by omega) (unhide HT1) h01).mono ?_
              rintro _ w9 ⟨rfl, hs9⟩
              have HS9 := hide hs9
              clear hs9
              show K _ w9
              refine hK.out _ _ ((unhide HS9).x) (fun hHeld16 => ?_)
              clear hK K
              try simp only [Act.put, List.setIfInBounds_toArray, List.set_cons_zero, List.set_cons_succ]
              refine wpAnyH_take (i := 17) (oi := { dst := some 13, op := Op.assign (Operand.tmp 72), type := 9, pos := "keeps.go:311", after := #[{ on := 16, ground := Ground.data }, { on := 16, ground := Ground.chain }, { on := 0, ground := Ground.phase }, { on := 1, ground := Ground.phase }, { on := 2, ground := Ground.phase }, { on := 3, ground := Ground.phase }, { on := 4, ground := Ground.phase }, { on := 5, ground := Ground.phase }, { on := 6, ground := Ground.phase }, { on := 7, ground := Ground.phase }, { on := 8, ground := Ground.phase }, { on := 9, ground := Ground.phase }, { on := 10, ground := Ground.phase }, { on := 11, ground := Ground.phase }, { on := 12, ground := Ground.phase }, { on := 13, ground := Ground.phase }, { on := 14, ground := Ground.phase }, { on := 15, ground := Ground.phase }, { on := 16, ground := Ground.phase }], guard := none }) (v := .string (V1.tell Y4)) rfl (by kernel_rfl) (by kernel_rfl) (by kernel_rfl) (fun _ _ _ h => h) (Or.inl ⟨by kernel_rfl, fun W hW => by kernel_rfl⟩) hHeld16 ?_
              simp only [Act.put, List.setIfInBounds_toArray, List.set_cons_zero, List.set_cons_succ]
              refine wpAnyH_done (by kernel_rfl) ?_ _
              go_wp2_with fail
              go_meet
              case rel => exact ⟨rfl, unhide HS9⟩
          · refine ite_wanted ?_ ?_
            · kernel_rfl
            refine wp_conv_row (x := .tmp 69) rfl (UInt8.ofNat m7) _ hbx20 ?_ ?_
            · kernel_rfl
            simp only [Act.put]
            refine hK.out _ _ ((unhide Hx20).x) (fun hHeld14 => ?_)
            clear hK K
            try simp only [List.setIfInBounds_toArray, List.set_cons_zero, List.set_cons_succ]
            refine wpAnyH_ready (rs := [4]) (by kernel_rfl) (by simp) ?_
            refine (AllReadyH.cons (o := { dst := some 60, op := Op.call { callee := Callee.value (Operand.func 20), args := #[Operand.const (Value.string { data := #[97, 100, 109] })], argTypes := #[9] }, type := 9, pos := "keeps.go:311", after := #[], guard := none }) rfl (fun K hK => ?_) AllReadyH.nil)
            refine ite_wanted ?_ ?_
            · kernel_rfl
            go_simp
            refine (unhide HXA x20).mono ?_
            rintro _ x31 ⟨rfl, hk⟩
            have Hx31 := hide ((unhide Hx20).kept (hk))
            have hbx31 := (hk.block _ (Array.getElem?_eq_some_iff.1 hbx20).1).trans hbx20
            clear hk
            show K _ x31
            refine hK.out _ _ ((unhide Hx31).x) (fun hHeld4 => ?_)
            clear hK K
            try simp only [Act.put, List.setIfInBounds_toArray, List.set_cons_zero, List.set_cons_succ]
            refine wpAnyH_take (i := 5) (oi := { dst := some 61, op := Op.binOp BinOp.add 9 (Operand.const (Value.string { data := #[84] })) (Operand.tmp 60) 9, type := 9, pos := "keeps.go:311", after := #[{ on := 4, ground := Ground.data }], guard := none }) (v := .string Y1) rfl (by kernel_rfl) (by kernel_rfl) (by kernel_rfl) (fun _ _ _ h => h) (Or.inl ⟨by kernel_rfl, fun W hW => by simp [execOp, go_sem, f1, zA]⟩) hHeld4 ?_
            simp only [Act.put, List.setIfInBounds_toArray, List.set_cons_zero, List.set_cons_succ]
            refine wpAnyH_ready (rs := [6]) (by kernel_rfl) (by simp) ?_
            refine (AllReadyH.cons (o := { dst := some 62, op := Op.call { callee := Callee.value (Operand.func 20), args := #[Operand.const (Value.string { data := #[106, 111, 101] })], argTypes := #[9] }, type := 9, pos := "keeps.go:311", after := #[{ on := 4, ground := Ground.chain }], guard := none }) rfl (fun K hK => ?_) AllReadyH.nil)
            refine ite_wanted ?_ ?_
            · kernel_rfl
            go_simp
            refine (unhide HXJ x31).mono ?_
            rintro _ x32 ⟨rfl, hk⟩
            have Hx32 := hide ((unhide Hx31).kept (hk))
            have hbx32 := (hk.block _ (Array.getElem?_eq_some_iff.1 hbx31).1).trans hbx31
            clear hk
            show K _ x32
            refine hK.out _ _ ((unhide Hx32).x) (fun hHeld6 => ?_)
            clear hK K
            try simp only [Act.put, List.setIfInBounds_toArray, List.set_cons_zero, List.set_cons_succ]
            refine wpAnyH_take (i := 7) (oi := { dst := some 63, op := Op.binOp BinOp.add 9 (Operand.tmp 61) (Operand.tmp 62) 9, type := 9, pos := "keeps.go:311", after := #[{ on := 5, ground := Ground.data }, { on := 6, ground := Ground.data }], guard := none }) (v := .string Y2) rfl (by kernel_rfl) (by kernel_rfl) (by kernel_rfl) (fun _ _ _ h => h) (Or.inl ⟨by kernel_rfl, fun W hW => by simp [execOp, go_sem, m2, f2]⟩) hHeld6 ?_
            simp only [Act.put, List.setIfInBounds_toArray, List.set_cons_zero, List.set_cons_succ]
            refine wpAnyH_ready (rs := [9]) (by kernel_rfl) (by simp) ?_
            refine (AllReadyH.cons (o := { dst := some 65, op := Op.call { callee := Callee.value (Operand.func 20), args := #[Operand.tmp 64], argTypes := #[9] }, type := 9, pos := "keeps.go:311", after := #[{ on := 8, ground := Ground.data }, { on := 6, ground := Ground.chain }], guard := none }) rfl (fun K hK => ?_) AllReadyH.nil)
            refine ite_wanted ?_ ?_
            · kernel_rfl
            go_simp
            refine (unhide HXP x32).mono ?_
            rintro _ x33 ⟨rfl, hk⟩
            have Hx33 := hide ((unhide Hx32).kept (hk))
            have hbx33 := (hk.block _ (Array.getElem?_eq_some_iff.1 hbx32).1).trans hbx32
            clear hk
            show K _ x33
            refine hK.out _ _ ((unhide Hx33).x) (fun hHeld9 => ?_)
            clear hK K
            try simp only [Act.put, List.setIfInBounds_toArray, List.set_cons_zero, List.set_cons_succ]
            refine wpAnyH_take (i := 10) (oi := { dst := some 66, op := Op.binOp BinOp.add 9 (Operand.tmp 63) (Operand.tmp 65) 9, type := 9, pos := "keeps.go:311", after := #[{ on := 7, ground := Ground.data }, { on := 9, ground := Ground.data }], guard := none }) (v := .string Y3) rfl (by kernel_rfl) (by kernel_rfl) (by kernel_rfl) (fun _ _ _ h => h) (Or.inl ⟨by kernel_rfl, fun W hW => by simp [execOp, go_sem, m3, f3]⟩) hHeld9 ?_
            simp only [Act.put, List.setIfInBounds_toArray, List.set_cons_zero, List.set_cons_succ]
            refine wpAnyH_take (i := 15) (oi := { dst := some 71, op := Op.binOp BinOp.add 9 (Operand.tmp 66) (Operand.tmp 70) 9, type := 9, pos := "keeps.go:311", after := #[{ on := 10, ground := Ground.data }, { on := 14, ground := Ground.data }], guard := none }) (v := .string Y4) rfl (by kernel_rfl) (by kernel_rfl) (by kernel_rfl) (fun _ _ _ h => h) (Or.inl ⟨by kernel_rfl, fun W hW => by simp [execOp, go_sem, m4, f4]⟩) hHeld9 ?_
            simp only [Act.put, List.setIfInBounds_toArray, List.set_cons_zero, List.set_cons_succ]
            refine wpAnyH_ready (rs := [16]) (by kernel_rfl) (by simp) ?_
            refine AllReadyH.cons (o := { dst := some 72, op := Op.call { callee := Callee.value (Operand.func 22), args := #[Operand.tmp 59, Operand.tmp 71], argTypes := #[31, 9] }, type := 9, pos := "keeps.go:311", after := #[{ on := 3, ground := Ground.data }, { on := 15, ground := Ground.data }, { on := 9, ground := Ground.chain }], guard := none }) rfl (fun K hK => ?_) AllReadyH.nil
            refine ite_wanted ?_ ?_
            · kernel_rfl
            go_simp
            refine ((unhide Hx33).do' (by omega) Y4 (by omega) (unhide HT1) h01).mono ?_
            rintro _ w9 ⟨rfl, hs9⟩
            have HS9 := hide hs9
            clear hs9
            show K _ w9
            refine hK.out _ _ ((unhide HS9).x) (fun hHeld16 => ?_)
            clear hK K
            try simp only [Act.put, List.setIfInBounds_toArray, List.set_cons_zero, List.set_cons_succ]
            refine wpAnyH_take (i := 17) (oi := { dst := some 13, op := Op.assign (Operand.tmp 72), type := 9, pos := "keeps.go:311", after := #[{ on := 16, ground := Ground.data }, { on := 16, ground := Ground.chain }, { on := 0, ground := Ground.phase }, { on := 1, ground := Ground.phase }, { on := 2, ground := Ground.phase }, { on := 3, ground := Ground.phase }, { on := 4, ground := Ground.phase }, { on := 5, ground := Ground.phase }, { on := 6, ground := Ground.phase }, { on := 7, ground := Ground.phase }, { on := 8, ground := Ground.phase }, { on := 9, ground := Ground.phase }, { on := 10, ground := Ground.phase }, { on := 11, ground := Ground.phase }, { on := 12, ground := Ground.phase }, { on := 13, ground := Ground.phase }, { on := 14, ground := Ground.phase }, { on := 15, ground := Ground.phase }, { on := 16, ground := Ground.phase }], guard := none }) (v := .string (V1.tell Y4)) rfl (by kernel_rfl) (by kernel_rfl) (by kernel_rfl) (fun _ _ _ h => h) (Or.inl ⟨by kernel_rfl, fun W hW => by kernel_rfl⟩) hHeld16 ?_
            simp only [Act.put, List.setIfInBounds_toArray, List.set_cons_zero, List.set_cons_succ]
            refine wpAnyH_done (by kernel_rfl) ?_ _
            go_wp2_with fail
            go_meet
            case rel => exact ⟨rfl, unhide HS9⟩
      case rest => as_aux_lemma =>
        obtain ⟨rfl, hSb⟩ := hcut
        have HSb := hide hSb
        clear hSb HS6 HS HYT
        obtain ⟨V2, hV2⟩ : ∃ V2, V2 = V1.next Y4 := ⟨_, rfl⟩
        rw [← hV2] at HSb HF2
        have HC2 := hide (show V2.Calm ∧ V2.sto.Rt by rw [hV2]; exact ⟨(unhide HC1).1.next _, Vlt.rt_next (unhide HC1).2 _⟩)
        clear hV2 HXA HXJ HXP m1 m2 m3 m4 f1 f2 f3 f4 hcb
        have HKF := hide (show ∀ W, Kept w1.heap.size w1 W → Kept w.heap.size w W from fun W hW => (unhide HK1).trans (hW.mono (by omega)))
        rcases unhide HF2 with ht5 | ⟨ht0, hlk⟩
        · have ht : V1.tell Y4 = ⟨#[5]⟩ := ht5
          rw [ht]
          clear ht ht5
          go_wp2_with fail
          go_ret
          exact ⟨rfl, unhide HKF _ (unhide HSb).k0⟩
        have ht : V1.tell Y4 = ⟨#[0]⟩ := ht0
        rw [ht]
        have HLK := hide hlk
        clear ht ht0 hlk HF2
        have hbw := (((unhide HSb).k0).block _ (show w.heap.size < w1.heap.size by omega)).trans (unhide HBX)
        have hck : wc.cell? ⟨w.heap.size, 0, none⟩ = some (.int .i64 o.kind) := by rw [cell_of_row _ _ _ _ _ _ hbw]; rfl
        have HPK := hide (fun W => pickE_go o.kind 6 W (unhide HO).kind (by decide) (by decide))
        have hk6 := pkI_lt o.kind (n := 6) (by decide)
        generalize pkI o.kind 6 = k at HPK hk6
        have HBW := hide hbw
        clear hbw
        go_wp2_with fail
        refine (unhide HPK wc).mono ?_
        rintro _ wq ⟨rfl, hwq⟩
        obtain rfl : wc = wq := hwq.symm
        clear hwq HPK
        have hf0 := frozen_of_row _ _ 0 _ _ (unhide HBW)
        go_upto_region 17 with fail
        obtain ⟨w10, hw10⟩ : ∃ W, W = wc.setCell ⟨w.heap.size, 0, none⟩ (.int .i64 (k : Int)) := ⟨_, rfl⟩
        change Code.wp _ _ _ _ (wc.setCell ⟨w.heap.size, 0, none⟩ (.int .i64 (k : Int)))
        rw [← hw10]
        obtain ⟨wa, hwa⟩ : ∃ W, W = w1.setCell ⟨w.heap.size, 0, none⟩ (.int .i64 (k : Int)) := ⟨_, rfl⟩
        have ha1 : wa.heap[w.heap.size]? = some (.cells #[.int .i64 (k : Int), .int .i64 o.tok, .int .i64 o.a, .int .i64 o.b, .string o.s, o.lv] 40 (0, 0)) := by rw [hwa, heap_setCell_same _ _ _ _ _ _ (unhide HBX)]; rfl
        have HSd := hide (show Shp wa p vp lv V2 (n + 2) w10 by rw [hw10, hwa]; exact (unhide HSb).setBox (unhide HBX) 0 _)
        have hza : wa.heap.size = w1.heap.size := by rw [hwa, World.size_setCell]
        have HKa := hide (show Kept w.heap.size w wa by rw [hwa]; exact (unhide HK1).setCell (p := ⟨w.heap.size, 0, none⟩) (Nat.le_refl _) _)
        have hr10 := ((unhide HSd).k0.block _ (show w.heap.size < wa.heap.size by omega)).trans ha1
        have hf1 := frozen_of_row _ _ 1 _ _ hr10
        have hc1 : w10.cell? ⟨w.heap.size, 1, none⟩ = some (.int .i64 o.tok) := by rw [cell_of_row _ _ _ _ _ _ hr10]; rfl
        have HA1 := hide ha1
        clear hw10 hwa HSb HBW HBX hck hf0 hr10 ha1
        go_upto_region 18 with fail
        obtain ⟨w11, hw11⟩ : ∃ W, W = w10.setCell ⟨w.heap.size, 1, none⟩ (.int .i64 1) := ⟨_, rfl⟩
        change Code.wp _ _ _ _ (w10.setCell ⟨w.heap.size, 1, none⟩ (.int .i64 1))
        rw [← hw11]
        obtain ⟨wb, hwb⟩ : ∃ W, W = wa.setCell ⟨w.heap.size, 1, none⟩ (.int .i64 1) := ⟨_, rfl⟩
        obtain ⟨o2, ho2⟩ : ∃ x : Stq, x = { o with kind := (k : Int), tok := 1 } := ⟨_, rfl⟩
        have hb1 : wb.heap[w.heap.size]? = some (.cells o2.cells 40 (0, 0)) := by rw [hwb, ho2, heap_setCell_same _ _ _ _ _ _ (unhide HA1)]; rfl
        have HSe := hide (show Shp wb p vp lv V2 (n + 2) w11 by rw [hw11, hwb]; exact (unhide HSd).setBox (unhide HA1) 1 _)
        have hzb : wb.heap.size = w1.heap.size := by rw [hwb, World.size_setCell, hza]
        have HKb := hide (show Kept w.heap.size w wb by rw [hwb]; exact (unhide HKa).setCell (p := ⟨w.heap.size, 1, none⟩) (Nat.le_refl _) _)
        have HTb := hide (show Table wb from (unhide HT0).kept (unhide HKb) hz)
        have hr11 : w11.rangeAt w.heap.size 0 o2.cells.toList := row_range (((unhide HSe).k0.block _ (show w.heap.size < wb.heap.size by omega)).trans hb1)
        have HFT := hide (show o2.Fit by rw [ho2]; exact ⟨⟨by show (-9223372036854775808 : Int) ≤ (k : Int); omega, by show (k : Int) ≤ 9223372036854775807; omega⟩, (show i64 1 from ⟨by decide, by decide⟩), (unhide HO).a, (unhide HO).b, (unhide HO).s⟩)
        have HF3 := hide (fenced_3 (unhide HC2).1 (unhide HC2).2 hm7l.2 (unhide HLK) hk6 (o := o2) (by rw [ho2]) (by rw [ho2]))
        have HB1 := hide hb1
        have hi40 : (Tryz.prog.info? 40).map (·.size) = some o2.cells.toList.length := by rw [Array.length_toList]; exact info40
        have h0b : 0 < wb.heap.size := by omega
        clear hw11 hwb HSd HA1 hc1 hf1 ho2 HKa hb1 HC2 HLK
        have HRQ := hide (fun W => request_go o2 ⟨#[120]⟩ W (unhide HFT) (by decide))
        have hrs := reqB_size o2 ⟨#[120]⟩ (unhide HFT).s (by decide)
        obtain ⟨RQ, hRQ⟩ : ∃ r, r = reqB o2 ⟨#[120]⟩ := ⟨_, rfl⟩
        rw [← hRQ] at HRQ hrs HF3
        clear hRQ
        go_wp2_with (refine wpList_load_mid rfl 40 (.tmp 7) rfl w.heap.size 0 ?_ o2.cells.toList _ hr11 Tryz.underlying40 rfl hi40 ?_
                     · rfl)
        refine (unhide HRQ w11).mono ?_
        rintro _ w12 ⟨rfl, hk12⟩
        have HSf := hide ((unhide HSe).kept hk12)
        clear hk12 HSe hr11 HRQ
        have hX12 := (unhide HSf).x
        go_wp2_with fail
        refine ((unhide HSf).do' (by omega) RQ (by omega) (unhide HTb) h0b).mono ?_
        rintro _ w13 ⟨rfl, hs13⟩
        have HSg := hide hs13
        clear hs13 HSf hX12
        have hr13 := ((unhide HSg).k0.block _ (show w.heap.size < wb.heap.size by omega)).trans (unhide HB1)
        have hca : w13.cell? ⟨w.heap.size, 2, none⟩ = some (.int .i64 o2.a) := by rw [cell_of_row _ _ _ _ _ _ hr13]; rfl
        generalize V2.tell RQ = RB at HF3 ⊢
        clear hr13
        go_wp2_with fail
        refine (path_go o2.a w13 (unhide HFT).a).mono ?_
        rintro _ w14 ⟨rfl, hk14⟩
        have HSh := hide ((unhide HSg).kept hk14)
        clear hk14 HSg hca
        have HRW := hide (show ∀ W, Shp wb p vp lv (V2.next RQ) (n + 3) W → W.cell? ⟨w.heap.size, 2, none⟩ = some (.int .i64 o2.a) ∧ W.cell? ⟨w.heap.size, 3, none⟩ = some (.int .i64 o2.b) from fun W hW => by
          have hr := (hW.k0.block _ (show w.heap.size < wb.heap.size by omega)).trans (unhide HB1)
          exact ⟨by rw [cell_of_row _ _ _ _ _ _ hr]; rfl, by rw [cell_of_row _ _ _ _ _ _ hr]; rfl⟩)
        go_upto_if 93 with fail
        go_cut [17] (fun v wx => v = .string (ofP k o2) ∧ Shp wb p vp lv (V2.next RQ) (n + 3) wx)
        case first =>
          by_cases hk3 : k = 3
          · subst hk3
            have HOF := hide (show ofP 3 o2 = (pathOf o2.a).extract 0 (pkI o2.b 2) from rfl)
            have hp5 := pathOf_size o2.a
            have hkb := pkI_lt o2.b (n := 2) (by decide)
            have HPB := hide (fun W => pickE_go o2.b 2 W (unhide HFT).b (by decide) (by decide))
            generalize pkI o2.b 2 = kb at HOF hkb HPB
            have hcut := cut_str (pathOf o2.a) kb (by omega)
            rw [← unhide HOF] at hcut
            have HP2 := hide (fun W => path_go o2.a W (unhide HFT).a)
            generalize hofp : ofP 3 o2 = OF at hcut ⊢
            have HOFP := hide hofp
            clear hofp
            generalize pathOf o2.a = PA at hcut HP2 ⊢
            have hS14 := unhide HRW _ (unhide HSh)
            clear HOF hp5
            go_wp2_with fail
            refine wp_region_held_drew (S := SRq w o2) (by kernel_rfl) (hS14) (fun hHeld => ?_)
            refine wpAnyH_take (i := 0) (oi := { dst := some 94, op := Op.fieldAddr 40 (Operand.tmp 7) 2, type := 0, pos := "keeps.go:322", after := #[], guard := none }) (v := .pointer (some ⟨w.heap.size, 2, none⟩)) rfl (by kernel_rfl) (by kernel_rfl) (by kernel_rfl) (fun _ _ _ h => h) (Or.inl ⟨by kernel_rfl, fun W hW => by kernel_rfl⟩) hHeld ?_
            simp only [Act.put, List.setIfInBounds_toArray, List.set_cons_zero, List.set_cons_succ]
            refine wpAnyH_take (i := 1) (oi := { dst := some 95, op := Op.load 3 (Operand.tmp 94), type := 3, pos := "keeps.go:322", after := #[{ on := 0, ground := Ground.data }], guard := none }) (v := .int .i64 o2.a) rfl (by kernel_rfl) (by kernel_rfl) (by kernel_rfl) (fun _ _ _ h => h) (Or.inl ⟨by kernel_rfl, fun W hW => by simp [execOp, go_sem, hW.1]⟩) hHeld ?_
            simp only [Act.put, List.setIfInBounds_toArray, List.set_cons_zero, List.set_cons_succ]
            refine wpAnyH_take (i := 3) (oi := { dst := some 97, op := Op.fieldAddr 40 (Operand.tmp 7) 3, type := 0, pos := "keeps.go:322", after := #[], guard := none }) (v := .pointer (some ⟨w.heap.size, 3, none⟩)) rfl (by kernel_rfl) (by kernel_rfl) (by kernel_rfl) (fun _ _ _ h => h) (Or.inl ⟨by kernel_rfl, fun W hW => by kernel_rfl⟩) hHeld ?_
            simp only [Act.put, List.setIfInBounds_toArray, List.set_cons_zero, List.set_cons_succ]
            refine wpAnyH_take (i := 4) (oi := { dst := some 98, op := Op.load 3 (Operand.tmp 97), type := 3, pos := "keeps.go:322", after := #[{ on := 3, ground := Ground.data }], guard := none }) (v := .int .i64 o2.b) rfl (by kernel_rfl) (by kernel_rfl) (by kernel_rfl) (fun _ _ _ h => h) (Or.inl ⟨by kernel_rfl, fun W hW => by simp [execOp, go_sem, hW.2]⟩) hHeld ?_
            simp only [Act.put, List.setIfInBounds_toArray, List.set_cons_zero, List.set_cons_succ]
            refine wpAnyH_ready (rs := [2]) (by kernel_rfl) (by simp) ?_
            refine AllReadyH.cons (o := { dst := some 96, op := Op.call { callee := Callee.value (Operand.func 21), args := #[Operand.tmp 95], argTypes := #[3] }, type := 9, pos := "keeps.go:322", after := #[{ on := 1, ground := Ground.data }], guard := none }) rfl (fun K hK => ?_) AllReadyH.nil
            refine ite_wanted ?_ ?_
            · kernel_rfl
            go_simp
            refine (unhide HP2 w14.drew).mono ?_
            rintro _ w15 ⟨rfl, hk⟩
            have HSj := hide ((unhide HSh).kept (show Kept w14.heap.size w14 w15 from ⟨hk.os, hk.output, hk.size, hk.block⟩))
            clear hk
            show K _ w15
            refine hK.out _ _ (unhide HRW w15 (unhide HSj)) (fun hHeld2 => ?_)
            clear hK K
            try simp only [Act.put, List.setIfInBounds_toArray, List.set_cons_zero, List.set_cons_succ]
            refine wpAnyH_ready (rs := [5]) (by kernel_rfl) (by simp) ?_
            refine AllReadyH.cons (o := { dst := some 99, op := Op.call { callee := Callee.value (Operand.func 15), args := #[Operand.tmp 98, Operand.const (Value.int IntKind.i64 2)], argTypes := #[3, 3] }, type := 3, pos := "keeps.go:322", after := #[{ on := 4, ground := Ground.data }, { on := 2, ground := Ground.chain }], guard := none }) rfl (fun K hK => ?_) AllReadyH.nil
            refine ite_wanted ?_ ?_
            · kernel_rfl
            go_simp
            refine (unhide HPB w15).mono ?_
            rintro _ wq ⟨rfl, hwq⟩
            obtain rfl : w15 = wq := hwq.symm
            clear hwq
            show K _ w15
            refine hK.out _ _ (unhide HRW w15 (unhide HSj)) (fun hHeld5 => ?_)
            clear hK K
            try simp only [Act.put, List.setIfInBounds_toArray, List.set_cons_zero, List.set_cons_succ]
            refine wpAnyH_take (i := 6) (oi := { dst := some 100, op := Op.slice 9 (Operand.tmp 96) none (some (Operand.tmp 99)) none, type := 9, pos := "keeps.go:322", after := #[{ on := 2, ground := Ground.data }, { on := 5, ground := Ground.data }], guard := none }) (v := .string OF) rfl (by kernel_rfl) (by kernel_rfl) (by kernel_rfl) (fun _ _ _ h => h) (yieldsIf_cut (by kernel_rfl) (.tmp 96) (.tmp 99) rfl hcut (by kernel_rfl) (by kernel_rfl)) hHeld5 ?_
            simp only [Act.put, List.setIfInBounds_toArray, List.set_cons_zero, List.set_cons_succ]
            refine wpAnyH_take (i := 7) (oi := { dst := some 17, op := Op.assign (Operand.tmp 100), type := 9, pos := "keeps.go:322", after := #[{ on := 6, ground := Ground.data }, { on := 5, ground := Ground.chain }, { on := 0, ground := Ground.phase }, { on := 1, ground := Ground.phase }, { on := 2, ground := Ground.phase }, { on := 3, ground := Ground.phase }, { on := 4, ground := Ground.phase }, { on := 5, ground := Ground.phase }, { on := 6, ground := Ground.phase }], guard := none }) (v := .string OF) rfl (by kernel_rfl) (by kernel_rfl) (by kernel_rfl) (fun _ _ _ h => h) (Or.inl ⟨by kernel_rfl, fun W hW => by kernel_rfl⟩) hHeld5 ?_
            simp only [Act.put, List.setIfInBounds_toArray, List.set_cons_zero, List.set_cons_succ]
            refine wpAnyH_done (by kernel_rfl) ?_ _
            go_wp2_with fail
            go_meet
            case rel => exact ⟨by rw [unhide HOFP], unhide HSj⟩
          · have HOF := hide (show ofP k o2 = pathOf o2.a by unfold ofP; rw [if_neg hk3])
            have hkI : ((k : Int) == 3) = false := by simp; omega
            go_wp2_with fail
            go_meet
            case rel => exact ⟨by rw [unhide HOF], unhide HSh⟩
        case rest => as_aux_lemma =>
          obtain ⟨rfl, hSi⟩ := hcut
          have HSi := hide hSi
          clear hSi HSh
          have hofs : (ofP k o2).size ≤ 5 := by
            have := pathOf_size o2.a
            unfold ofP
            split
            · rw [ByteArray.size_extract]; omega
            · exact this.2
          have HPRE := hide (show hasPre (ofP k o2) P = (decide (P.size ≤ (ofP k o2).size) && decide ((ofP k o2).extract 0 P.size = P)) from rfl)
          generalize hasPre (ofP k o2) P = inn at HPRE HF3
          generalize ofP k o2 = OF at HPRE hofs ⊢
          go_upto_region 23 with fail
          go_cut [18] (fun v wx => v = .bool inn ∧ Shp wb p vp lv (V2.next RQ) (n + 3) wx)
          case first =>
            by_cases hs : P.size ≤ OF.size
            · have hcut := cut_str OF P.size hs
              have hsI : (P.size : Int) ≤ (OF.size : Int) := by omega
              by_cases he : OF.extract 0 P.size = P
              · have heb : ((OF.extract 0 P.size).toList == P.toList) = true := by rw [str_eq]; simpa using he
                have HIN := hide (show inn = true by rw [unhide HPRE, decide_eq_true hs, decide_eq_true he]; rfl)
                generalize OF.extract 0 P.size = OX at heb hcut
                clear he
                go_wp2_with fail
                go_meet
                case rel => exact ⟨by rw [unhide HIN], unhide HSi⟩
              · have heb : ((OF.extract 0 P.size).toList == P.toList) = false := by rw [str_eq]; simpa using he
                have HIN := hide (show inn = false by rw [unhide HPRE, decide_eq_true hs, decide_eq_false he]; rfl)
                generalize OF.extract 0 P.size = OX at heb hcut
                clear he
                go_wp2_with fail
                go_meet
                case rel => exact ⟨by rw [unhide HIN], unhide HSi⟩
            · have hsI : ¬ (P.size : Int) ≤ (OF.size : Int) := by omega
              have HIN := hide (show inn = false by rw [unhide HPRE, decide_eq_false hs]; rfl)
              go_wp2_with fail
              go_meet
              case rel => exact ⟨by rw [unhide HIN], unhide HSi⟩
          case rest =>
            clear HSi
            obtain ⟨rfl, hSk⟩ := hcut
            have HSk := hide hSk
            clear hSk HPRE
            go_upto_block 2 with fail
            go_cut [19] (fun v wx => v = .bool (mayB k m7 inn) ∧ Shp wb p vp lv (V2.next RQ) (n + 3) wx)
            case first => as_aux_lemma =>
              clear HF3
              obtain rfl | rfl | rfl | rfl | rfl | rfl : k = 0 ∨ k = 1 ∨ k = 2 ∨ k = 3 ∨ k = 4 ∨ k = 5 := by omega
              · have h1 : (m7 : Int).tdiv 2 = ((m7 / 2 : Nat) : Int) := (Int.ofNat_tdiv m7 2).symm
                have h2 : ((m7 / 2 : Nat) : Int).tmod 2 = ((m7 / 2 % 2 : Nat) : Int) := (Int.ofNat_tmod (m7 / 2) 2).symm
                have HM := hide (show mayB 0 m7 inn = (decide (m7 / 2 % 2 = 1) && inn) from rfl)
                have h3 : m7 / 2 % 2 < 2 := Nat.mod_lt _ (by decide)
                generalize m7 / 2 % 2 = e at h2 h3 HM
                have hd : m7 / 2 < 4 := by omega
                generalize m7 / 2 = d at h1 h2 hd
                obtain rfl | rfl : e = 0 ∨ e = 1 := by omega
                all_goals
                  clear h3
                  go_wp2_with fail
                  go_meet
                  exact ⟨by rw [unhide HM]; rfl, unhide HSk⟩
              · have h2 : (m7 : Int).tmod 2 = ((m7 % 2 : Nat) : Int) := (Int.ofNat_tmod m7 2).symm
                have HM := hide (show mayB 1 m7 inn = (decide (m7 % 2 = 1) && inn) from rfl)
                have h3 : m7 % 2 < 2 := Nat.mod_lt _ (by decide)
                generalize m7 % 2 = e at h2 h3 HM
                obtain rfl | rfl : e = 0 ∨ e = 1 := by omega
                all_goals
                  clear h3
                  go_wp2_with fail
                  go_meet
                  exact ⟨by rw [unhide HM]; rfl, unhide HSk⟩
              · have h1 : (m7 : Int).tdiv 2 = ((m7 / 2 : Nat) : Int) := (Int.ofNat_tdiv m7 2).symm
                have h2 : ((m7 / 2 : Nat) : Int).tmod 2 = ((m7 / 2 % 2 : Nat) : Int) := (Int.ofNat_tmod (m7 / 2) 2).symm
                have HM := hide (show mayB 2 m7 inn = (decide (m7 / 2 % 2 = 1) && inn) from rfl)
                have h3 : m7 / 2 % 2 < 2 := Nat.mod_lt _ (by decide)
                generalize m7 / 2 % 2 = e at h2 h3 HM
                have hd : m7 / 2 < 4 := by omega
                generalize m7 / 2 = d at h1 h2 hd
                obtain rfl | rfl : e = 0 ∨ e = 1 := by omega
                all_goals
                  clear h3
                  go_wp2_with fail
                  go_meet
                  exact ⟨by rw [unhide HM]; rfl, unhide HSk⟩
              · have h2 : (m7 : Int).tmod 2 = ((m7 % 2 : Nat) : Int) := (Int.ofNat_tmod m7 2).symm
                have HM := hide (show mayB 3 m7 inn = (decide (m7 % 2 = 1) && inn) from rfl)
                have h3 : m7 % 2 < 2 := Nat.mod_lt _ (by decide)
                generalize m7 % 2 = e at h2 h3 HM
                obtain rfl | rfl : e = 0 ∨ e = 1 := by omega
                all_goals
                  clear h3
                  go_wp2_with fail
                  go_meet
                  exact ⟨by rw [unhide HM]; rfl, unhide HSk⟩
              · have h2 : (m7 : Int).tdiv 4 = ((m7 / 4 : Nat) : Int) := (Int.ofNat_tdiv m7 4).symm
                have HM := hide (show mayB 4 m7 inn = decide (m7 / 4 = 1) from rfl)
                have h3 : m7 / 4 < 2 := by omega
                generalize m7 / 4 = e at h2 h3 HM
                obtain rfl | rfl : e = 0 ∨ e = 1 := by omega
                all_goals
                  clear h3
                  go_wp2_with fail
                  go_meet
                  exact ⟨by rw [unhide HM]; rfl, unhide HSk⟩
              · have h2 : (m7 : Int).tdiv 4 = ((m7 / 4 : Nat) : Int) := (Int.ofNat_tdiv m7 4).symm
                have HM := hide (show mayB 5 m7 inn = decide (m7 / 4 = 1) from rfl)
                have h3 : m7 / 4 < 2 := by omega
                generalize m7 / 4 = e at h2 h3 HM
                obtain rfl | rfl : e = 0 ∨ e = 1 := by omega
                all_goals
                  clear h3
                  go_wp2_with fail
                  go_meet
                  exact ⟨by rw [unhide HM]; rfl, unhide HSk⟩
            case rest => as_aux_lemma =>
              clear HSk
              obtain ⟨rfl, hSl⟩ := hcut
              have HKL := hide (show Kept w.heap.size w _ from (unhide HKb).trans (hSl.k0.mono (by omega)))
              have HRW2 := hide (unhide HRW _ hSl)
              clear hSl
              have HF4 := HF3
              clear HF3
              generalize mayB k m7 inn = my at HF4 ⊢
              cases my with
              | false =>
                have e : RB = ⟨#[3]⟩ := by have := unhide HF4; rw [if_neg (by simp)] at this; exact this
                subst e
                go_wp2_with fail
                go_ret
                exact ⟨rfl, unhide HKL⟩
              | true =>
                obtain ⟨c, r, rfl, hcc⟩ : ∃ c r, RB = bs (c :: r) ∧ (c ≠ 3 ∨ (k = 5 ∧ tokOf o2.a = adm)) := by have := unhide HF4; rw [if_pos rfl] at this; exact this
                have hsz : 0 < (bs (c :: r)).size := by rw [bs_size]; exact Nat.succ_pos _
                have hgt : (0 : Int) < ((bs (c :: r)).size : Int) := by omega
                have hget : (bs (c :: r))[0]'hsz = c := rfl
                clear HF4
                generalize bs (c :: r) = RB at *
                by_cases hk5 : k = 5
                · subst hk5
                  have hca := (unhide HRW2).1
                  have HTK := hide (fun W => token_go o2.a W (unhide HFT).a)
                  generalize tokOf o2.a = TK at HTK hcc
                  have hteq : (TK.toList == [97, 100, 109]) = decide (TK = adm) := by have := str_eq (a := TK) (b := adm); rwa [show adm.toList = [97, 100, 109] by rw [Lib.toList_data]; rfl] at this
                  go_wp2_with fail
                  refine (unhide HTK _).mono ?_
                  rintro _ wz ⟨rfl, hkz⟩
                  have HKZ := hide ((unhide HKL).trans (hkz.mono (unhide HKL).size))
                  clear hkz
                  by_cases hta : TK = adm
                  · rw [decide_eq_true hta] at hteq
                    clear hta hcc
                    by_cases hc3 : c = 3
                    · have hn3 : ((RB[0]'hsz).toNat : Int) = 3 := by rw [hget, hc3]; rfl
                      clear hc3 hget
                      go_wp2_with fail
                      go_ret
                      exact ⟨rfl, unhide HKZ⟩
                    · have hn3 : ¬ ((RB[0]'hsz).toNat : Int) = 3 := by rw [hget]; intro e; exact hc3 (UInt8.toNat_inj.1 (by have h3 : (3 : UInt8).toNat = 3 := rfl; omega))
                      clear hc3 hget
                      go_wp2_with fail
                      go_ret
                      exact ⟨rfl, unhide HKZ⟩
                  · rw [decide_eq_false hta] at hteq
                    have hc3 : c ≠ 3 := by rcases hcc with h | h; exact h; exact absurd h.2 hta
                    have hn3 : ¬ ((RB[0]'hsz).toNat : Int) = 3 := by rw [hget]; intro e; exact hc3 (UInt8.toNat_inj.1 (by have h3 : (3 : UInt8).toNat = 3 := rfl; omega))
                    clear hta hcc hc3 hget
                    go_wp2_with fail
                    go_ret
                    exact ⟨rfl, unhide HKZ⟩
                · have hkI : ((k : Int) == 5) = false := by simp; omega
                  have hc3 : c ≠ 3 := by rcases hcc with h | h; exact h; exact absurd h.1 hk5
                  have hn3 : ¬ ((RB[0]'hsz).toNat : Int) = 3 := by rw [hget]; intro e; exact hc3 (UInt8.toNat_inj.1 (by have h3 : (3 : UInt8).toNat = 3 := rfl; omega))
                  clear hcc hc3 hget
                  go_wp2_with fail
                  go_ret
                  exact ⟨rfl, unhide HKL⟩
end Go.Proofs.YtlbacbcenejngaaGreatDoor
namespace Go.Proofs.YtlbacbcenejngaaGreatDoor
open Go.RowKit
theorem Duo.setBox {w0 w : World} {p vp : Nat} {lv : Value} {A : Vlt} {n : Nat} {p2 vp2 : Nat} {lv2 : Value} {C : Vlt} {m : Nat} (h : Duo w0 p vp lv A n p2 vp2 lv2 C m w) {b t : Nat} {cs : Array Value} (hb : w0.heap[b]? = some (.cells cs t (0, 0))) (i : Nat) (x : Value) : Duo (w0.setCell ⟨b, i, none⟩ x) p vp lv A n p2 vp2 lv2 C m (w.setCell ⟨b, i, none⟩ x) := by
  obtain ⟨g, g2, E, E2, h1, h2, h3, h4, h5, h6⟩ := h
  have hl := (Array.getElem?_eq_some_iff.1 hb).1
  have hbw := (h6.block b hl).trans hb
  have k1 := (Kept.refl b w0).setCell (p := ⟨b, i, none⟩) (Nat.le_refl _) x
  have k2 := (Kept.refl b w).setCell (p := ⟨b, i, none⟩) (Nat.le_refl _) x
  refine ⟨g, g2, E, E2, ?_, ?_, h3, h4, h5, ?_⟩
  · rw [World.size_setCell]
    exact h1.stay fun k hk => heap_setCell_other _ _ _ _ fun e => by have e' : k = b := e; have := (h1.foot hk).2; omega
  · rw [World.size_setCell]
    exact h2.stay fun k hk => heap_setCell_other _ _ _ _ fun e => by have e' : k = b := e; have := (h2.foot hk).2; omega
  · refine ⟨k2.os.trans (h6.os.trans k1.os.symm), k2.output.trans (h6.output.trans k1.output.symm), by rw [World.size_setCell, World.size_setCell]; exact h6.size, fun k hk => ?_⟩
    rw [World.size_setCell] at hk
    by_cases e : k = b
    · subst e
      rw [heap_setCell_same _ _ _ _ _ _ hbw, heap_setCell_same _ _ _ _ _ _ hb]
    · rw [heap_setCell_other _ _ _ _ e, heap_setCell_other _ _ _ _ e]
      exact h6.block k hk
theorem ptr_neq26 (a : Addr) (W : World) : (binOp .eql 26 (.pointer (some a)) (.pointer none)).run Tryz.prog W = .ok (.bool false) W := by kernel_rfl
theorem wpList_load_guard {ops : Array Oper} {rest : List Oper} {op : Oper} {a : Act} {w : World} {Q : Exit → Act → World → Prop} (hw : Region.wanted op (yielded ops a.tmps) = true) (ty : TypeId) (x : Operand) (ho : op.op = .load ty x)
    (b : Nat) (hx : a.eval x = .pointer (some ⟨b, 0, none⟩)) (cs : Array Value) (d : TypeDesc) (t : TypeId) (hc : w.heap[b]? = some (.cells cs t (0, 0)))
    (hu : Tryz.prog.underlying ty = some d) (hd : d.isRow = true) (hi : (Tryz.prog.info? ty).map (·.size) = some cs.size)
    (h : wpList Tryz.prog ops Q rest (a.put op.dst (.agg cs)) w) : wpList Tryz.prog ops Q (op :: rest) a w :=
  wpList_step fun _ hK => by
    rw [if_pos hw]
    exact wp_load_mid ty x ho b 0 hx cs.toList d (row_range hc) hu hd (by rw [Array.length_toList]; exact hi) (hK _ _ h)
/-- Two shops opened alike. -/
theorem duo_opened {w0 w w2 : World} {x : Int} {p vp p2 vp2 : Nat} {g g2 : VG} {lv lv2 : Value} (h1 : ShA w0.heap.size w p vp g lv (shop0 x)) (hk : Kept w0.heap.size w0 w) (h2 : ShA w0.heap.size w2 p2 vp2 g2 lv2 (shop0 x)) (hk2 : Kept w.heap.size w w2) (hf : ∀ k, Hft p2 vp2 g2 lv2 k → w.heap.size ≤ k) : Duo w0 p vp lv (shop0 x) 0 p2 vp2 lv2 (shop0 x) 0 w2 :=
  ⟨g, g2, [], [], h1.kept hk2, h2, fun k a b => by have := (h1.foot a).1; have := hf k b; omega, (shop0_bnd x).1, (shop0_bnd x).1, hk.trans (hk2.mono hk.size)⟩
def Vlt.failTo (V : Vlt) (k : Nat) : Vlt := { V with snks := (V.snks.take k).map (fun s => s.fail [1]) ++ V.snks.drop k }
theorem modify_app {α : Type} (f : α → α) (a : α) (r : List α) : ∀ l : List α, (l ++ a :: r).modify l.length f = l ++ f a :: r
  | [] => rfl
  | x :: l => by simp only [List.cons_append, List.length_cons, List.modify_succ_cons]; rw [modify_app f a r l]
theorem failTo_succ {V : Vlt} {k : Nat} (h : k < V.snks.length) : (V.failTo k).failAt k [1] = V.failTo (k + 1) := by
  unfold Vlt.failTo Vlt.failAt
  have hl : ((V.snks.take k).map (fun s : Snk => s.fail [1])).length = k := by rw [List.length_map, List.length_take]; omega
  have e : ((V.snks.take k).map (fun s : Snk => s.fail [1]) ++ V.snks.drop k).modify k (fun s => s.fail [1]) = (V.snks.take (k + 1)).map (fun s : Snk => s.fail [1]) ++ V.snks.drop (k + 1) := by
    rw [List.drop_eq_getElem_cons h]
    have := modify_app (fun s : Snk => s.fail [1]) V.snks[k] (V.snks.drop (k + 1)) ((V.snks.take k).map (fun s : Snk => s.fail [1]))
    rw [hl] at this
    rw [this, List.take_succ_eq_append_getElem h, List.map_append, List.append_assoc]
    rfl
  exact congrArg (fun l => { V with snks := l }) e
theorem failTo_all (V : Vlt) : V.failTo V.snks.length = V.fails1 := by
  unfold Vlt.failTo Vlt.fails1
  rw [List.take_length, List.drop_length, List.append_nil]
theorem failTo_len {V : Vlt} {k : Nat} (h : k ≤ V.snks.length) : (V.failTo k).snks.length = V.snks.length := by
  unfold Vlt.failTo
  show (_ ++ _ : List Snk).length = _
  rw [List.length_append, List.length_map, List.length_take, List.length_drop]
  omega
theorem one_isl (w : World) : ISl (w.alloc (.cells #[.int .i64 1] 3)) (.slice (some ⟨w.heap.size, 0, none⟩) 1 1) [1] := by
  refine .inr ⟨w.heap.size, 0, 1, by decide, rfl, by decide, by simp, fun j hj => ?_⟩
  obtain rfl : j = 0 := by simp at hj; omega
  rw [cell_of_row _ _ _ _ _ _ (heap_alloc_new _ _)]; rfl
theorem ask_sto {A C : Vlt} (h : A.sto = C.sto) (s : ByteArray) : A.ask s = C.ask s := by unfold Vlt.ask; rw [h]
def gAll (i : Nat) : ByteArray := bs [71] ++ (txt adm ++ (txt (pathOf (i : Int)) ++ bs [0]))
set_option maxRecDepth 100000 in
set_option maxHeartbeats 8000000 in
theorem closed_law (x : Int) (v : Value) (l : List Stq) (o : Stq) (w : World) (hx : i64 x) (h : ScrS w v l) (ho : o.Fit) (hT : Table w) (hz : 0 < w.heap.size) :
    Calls Tryz.prog 7 #[.int .i64 x, v, .agg o.cells] w fun e w' => e = .returned (.bool true) ∧ Kept w.heap.size w w' := by
  obtain ⟨av, cv, rfl, hav⟩ := h.val
  have hln := h.len
  have HE := hide h.each
  have HV := hide hav
  obtain ⟨w1, hw1⟩ : ∃ w1, w1 = w.alloc (.cells o.cells 40) := ⟨_, rfl⟩
  have hbx : w1.heap[w.heap.size]? = some (.cells o.cells 40 (0, 0)) := by rw [hw1]; exact heap_alloc_new _ _
  have HK1 := hide (show Kept w.heap.size w w1 by rw [hw1]; exact (Kept.refl _ _).alloc (Nat.le_refl _) _)
  have hz1 : w1.heap.size = w.heap.size + 1 := by rw [hw1]; simp
  have HBX := hide hbx
  have HO := hide ho
  have HT0 := hide hT
  have HT1 := hide (show Table w1 from hT.kept (unhide HK1) hz)
  have h01 : 0 < w1.heap.size := by omega
  have hq := ptr_neq26
  clear h hav hT hbx ho
  go_enter Tryz.func7, Tryz.ntmps7
  go_upto_region 1 with fail
  rw [← hw1]
  clear hw1
  go_wp2_with fail
  refine (opened_go w1.heap.size w1 x hx (Nat.le_refl _) (unhide HT1) h01).mono ?_
  rintro _ w2 ⟨p, vp, g, lv, rfl, hs1, hk1, hf1, hg1⟩
  have HA1 := hide (And.intro hs1 hk1)
  have hz2 := hk1.size
  clear hs1 hk1 hf1 hg1
  go_wp2_with fail
  refine (opened_go w1.heap.size w2 x hx hz2 ((unhide HT1).kept (unhide HA1).2 h01) (by omega)).mono ?_
  rintro _ w3 ⟨p2, vp2, g2, lv2, rfl, hs2, hk2, hf2, hg2⟩
  have HD := hide (duo_opened (unhide HA1).1 (unhide HA1).2 hs2 hk2 hf2)
  have HC0 := hide (shop0_bnd x).2.1
  clear hs2 hk2 hf2 hg2 HA1
  go_wp2_with fail
  go_loopw [9] (fun vi wr => ∃ (i n : Nat) (V : Vlt), i ≤ l.length ∧ vi = .int .i64 i ∧ n ≤ i ∧ V.Calm ∧ Duo w1 p vp lv V n p2 vp2 lv2 V n wr) (fun vi _ => l.length - (intOf vi).toNat)
  case atStart => exact ⟨0, 0, _, Nat.zero_le _, rfl, Nat.le_refl _, unhide HC0, unhide HD⟩
  case round =>
    clear HD HC0
    obtain ⟨i, n, V, hi, rfl, hni, hcalm, hd⟩ := hrel
    have HD := hide hd
    have HC := hide hcalm
    clear hd hcalm
    by_cases hlt : i < l.length
    · obtain ⟨b, o', rfl, hbw, hrg⟩ := unhide HV (by omega)
      have hiI : (i : Int) < (l.length : Int) := by omega
      have hi0 : (0 : Int) ≤ (i : Int) := by omega
      have HA := hide (unhide HE i hlt)
      have hr1 : w1.rangeAt b (o' + i * 6) (l.getD i stq0).cells.toList := range_kept (hrg i hlt) (unhide HK1) hbw
      clear hrg
      generalize l.getD i stq0 = c at HA hr1
      have hr : wr.rangeAt b (o' + i * 6) c.cells.toList := range_kept hr1 (unhide HD).k0 (by omega)
      have hc0 : wr.cell? ⟨b, o' + i * 6, none⟩ = some (.int .i64 c.kind) := hr 0 _ rfl
      have hi40 : (Tryz.prog.info? 40).map (·.size) = some c.cells.toList.length := by rw [Array.length_toList]; exact info40
      by_cases h7 : c.kind = 7
      · rw [h7] at hc0
        go_wp2_with fail
        go_roundw
        case rel => exact ⟨i + 1, n, V, by omega, by go_num, by omega, unhide HC, unhide HD⟩
        case measure => simp [intOf]; omega
      · have h7I : (c.kind == 7) = false := by simpa using h7
        go_wp2_with (refine wpList_load_mid rfl 40 (.tmp 45) rfl b (o' + i * 6) ?_ c.cells.toList _ hr Tryz.underlying40 rfl hi40 ?_
                     · rfl)
        refine ((unhide HD).step (by omega) c 120 (unhide HA).fit h7 (unhide HT1) h01).mono ?_
        rintro _ w4 ⟨rfl, hd4, _⟩
        have HD4 := hide hd4.symm
        clear hd4
        have hr4 : w4.rangeAt b (o' + i * 6) c.cells.toList := range_kept hr1 (unhide HD4).k0 (by omega)
        clear hr hc0
        go_wp2_with (refine wpList_load_mid rfl 40 (.tmp 51) rfl b (o' + i * 6) ?_ c.cells.toList _ hr4 Tryz.underlying40 rfl hi40 ?_
                     · rfl)
        refine ((unhide HD4).step (by omega) c 120 (unhide HA).fit h7 (unhide HT1) h01).mono ?_
        rintro _ w5 ⟨rfl, hd5, _⟩
        have HD5 := hide hd5.symm
        clear hd5 hr4
        go_wp2_with fail
        go_roundw
        case rel => exact ⟨i + 1, n + 1, _, by omega, by go_num, by omega, (unhide HC).next _, unhide HD5⟩
        case measure => simp [intOf]; omega
    · have hiI : ¬ (i : Int) < (l.length : Int) := by omega
      have hs0 : 0 < V.snks.length := List.length_pos_iff.2 (unhide HC).1
      have hs4 : V.snks.length ≤ 4 := by obtain ⟨_, _, _, _, _, _, _, hb, _⟩ := unhide HD; exact hb.few
      obtain ⟨sb, sc, rfl, _⟩ := (unhide HD).sinks hs0
      go_wp2_with fail
      go_loopw [10] (fun vi wx => ∃ k : Nat, k ≤ V.snks.length ∧ vi = .int .i64 k ∧ Duo w1 p vp (.slice (some ⟨sb, 0, none⟩) V.snks.length sc) (V.failTo k) n p2 vp2 lv2 V n wx) (fun vi _ => V.snks.length - (intOf vi).toNat)
      case atStart => exact ⟨0, Nat.zero_le _, rfl, unhide HD⟩
      case round =>
        obtain ⟨k, hk, rfl, hd⟩ := hrel
        have HF := hide hd
        clear hd
        have hl2 := (unhide HF).l
        by_cases hkl : k < V.snks.length
        · have hkI : (k : Int) < (V.snks.length : Int) := by omega
          have hk0 : (0 : Int) ≤ (k : Int) := by omega
          obtain ⟨sb', sc', e1, hq'⟩ := (unhide HF).sinks (by rw [failTo_len hk]; exact hs0)
          obtain ⟨q, hcq, hfail⟩ := hq' k (by rw [failTo_len hk]; exact hkl)
          obtain rfl : sb = sb' := by injection e1 with e2; injection e2 with e3; injection e3
          have HFL := hide hfail
          clear hq' hfail e1
          go_wp2_with fail
          refine (unhide HFL _ _ [1] ((Kept.refl _ _).alloc (Nat.le_refl _) _) (by decide) (one_isl _) (fun k hk => by cases hk; exact Nat.le_refl _)).mono ?_
          rintro _ w6 ⟨rfl, hd6⟩
          rw [failTo_succ hkl] at hd6
          have HF6 := hide hd6
          clear hd6
          go_wp2_with fail
          go_roundw
          case rel => exact ⟨k + 1, by omega, by go_num, unhide HF6⟩
          case measure => simp [intOf]; omega
        · obtain rfl : k = V.snks.length := by omega
          have hkI : ¬ (V.snks.length : Int) < (V.snks.length : Int) := by omega
          have HG := hide (show Duo w1 p vp (.slice (some ⟨sb, 0, none⟩) V.snks.length sc) V.fails1 n p2 vp2 lv2 V n _ by rw [← failTo_all]; exact unhide HF)
          have hbw := ((unhide HG).k0.block _ (show w.heap.size < w1.heap.size by omega)).trans (unhide HBX)
          have hck : wr.cell? ⟨w.heap.size, 0, none⟩ = some (.int .i64 o.kind) := by rw [cell_of_row _ _ _ _ _ _ hbw]; rfl
          have hfz := frozen_of_row _ _ 0 _ _ hbw
          clear HF HD hbw
          go_upto_if 74 with fail
          go_cut [6] (fun v wy => v = .bool false ∧ ∃ (wb : World) (o2 : Stq), wb.heap.size = w1.heap.size ∧ wb.heap[w.heap.size]? = some (.cells o2.cells 40 (0, 0)) ∧ Kept w.heap.size w wb ∧ o2.Fit ∧ o2.kind ≠ 7 ∧ Duo wb p vp (.slice (some ⟨sb, 0, none⟩) V.snks.length sc) V.fails1 n p2 vp2 lv2 V n wy)
          case first =>
            by_cases h7 : o.kind = 7
            · have h7I : (o.kind == 7) = true := by simpa using h7
              go_wp2_with fail
              go_meet
              case rel =>
                refine ⟨rfl, w1.setCell ⟨w.heap.size, 0, none⟩ (.int .i64 0), { o with kind := 0 }, by rw [World.size_setCell], ?_, (unhide HK1).setCell (p := ⟨w.heap.size, 0, none⟩) (Nat.le_refl _) _, ⟨⟨by show (-9223372036854775808 : Int) ≤ 0; decide, by show (0 : Int) ≤ 9223372036854775807; decide⟩, (unhide HO).tok, (unhide HO).a, (unhide HO).b, (unhide HO).s⟩, by show (0 : Int) ≠ 7; decide, (unhide HG).setBox (unhide HBX) 0 _⟩
                rw [heap_setCell_same _ _ _ _ _ _ (unhide HBX)]; rfl
            · have h7I : (o.kind == 7) = false := by simpa using h7
              go_wp2_with fail
              go_meet
              case rel => exact ⟨rfl, w1, o, rfl, unhide HBX, unhide HK1, unhide HO, h7, unhide HG⟩
          case rest =>
            obtain ⟨rfl, wb, o2, hzb, hrb, hkb, hfo, h7, hd⟩ := hcut
            have HH := hide hd
            have HRB := hide hrb
            have HKB := hide hkb
            have HFO := hide hfo
            have HTb := hide (show Table wb from (unhide HT0).kept hkb hz)
            have h0b : 0 < wb.heap.size := by omega
            have hi40 : (Tryz.prog.info? 40).map (·.size) = some o2.cells.toList.length := by rw [Array.length_toList]; exact info40
            clear hd hrb hkb hfo HG
            obtain ⟨E, hok⟩ : ∃ E, V.Ok E := by obtain ⟨_, _, _, E2, _, _, _, _, hb, _⟩ := unhide HH; exact ⟨E2, hb.ok⟩
            have HCN := hide (closed_next hok (reqS o2 120))
            have hlast : V.last.length = 32 := by rw [hok.last]; exact hashAt_len _ _
            clear hok
            have hx2 := (unhide HH).symm.x
            go_wp2_with fail
            refine (unhide HH).symm.head.mono ?_
            rintro _ wc1 ⟨rfl, hkc⟩
            have HH1 := hide ((unhide HH).kept hkc)
            clear hkc hx2 HH
            have hi29 : (Tryz.prog.info? 29).map (·.size) = some (brow V.last).size := by rw [brow_size, hlast]; exact info29
            have hz29 : (brow (List.replicate 32 0)).size = (brow V.last).size := by rw [brow_size, brow_size, hlast]; rfl
            have ho29 := brow_one V.last
            have heq := same_row V.last hlast
            go_upto_region 18 with (refine wpList_store_put rfl 29 (.tmp 12) (.tmp 83) rfl wc1.heap.size (brow V.last) rfl rfl 29 (brow (List.replicate 32 0)) (heap_alloc_new _ _) hi29 hz29 ho29 ?_; intro wd hpd
                                    have hkd : Kept wc1.heap.size wc1 wd := ((Kept.refl _ _).alloc (Nat.le_refl _) _).trans (Kept.of (hpd.below (Nat.le_refl _)))
                                    have HH2 := hide ((unhide HH1).kept hkd)
                                    have HRD := hide hpd.row
                                    have hr11 : wd.rangeAt w.heap.size 0 o2.cells.toList := row_range (((unhide HH2).k0.block _ (show w.heap.size < wb.heap.size by omega)).trans (unhide HRB))
                                    have hzd : wc1.heap.size < wd.heap.size := (Array.getElem?_eq_some_iff.1 hpd.row).1
                                    clear hkd hpd)
            go_wp2_with (refine wpList_load_mid rfl 40 (.tmp 5) rfl w.heap.size 0 ?_ o2.cells.toList _ hr11 Tryz.underlying40 rfl hi40 ?_
                         · rfl)
            refine ((unhide HH2).step (by omega) o2 120 (unhide HFO) h7 (unhide HTb) h0b).mono ?_
            rintro _ we ⟨rfl, hde, hk30⟩
            have htell : V.fails1.tell (reqS o2 120) = ⟨#[6]⟩ := (unhide HCN).2.1
            rw [htell]
            clear htell
            have HH3 := hide hde
            have HRE := hide (show we.heap[wc1.heap.size]? = some (.cells (brow V.last) 29 (0, 0)) from (hk30 _ (show TyAt wd _ 29 from ⟨_, unhide HRD⟩).knd).trans (unhide HRD))
            clear hk30 HRD hde hr11 HH1
            obtain ⟨V6, hV6⟩ : ∃ V6, V6 = V.fails1.next (reqS o2 120) := ⟨_, rfl⟩
            rw [← hV6] at HH3 HCN
            clear hV6
            have hx3 := (unhide HH3).x
            go_wp2_with fail
            refine (unhide HH3).head.mono ?_
            rintro _ wf ⟨rfl, hkf⟩
            rw [(unhide HCN).2.2.2.1, (unhide HCN).2.2.2.2]
            have HH4 := hide ((unhide HH3).kept hkf)
            have HRF := hide ((hkf.block _ (Array.getElem?_eq_some_iff.1 (unhide HRE)).1).trans (unhide HRE))
            clear hkf HH3 HRE hx3
            go_upto_region 20 with (refine wpList_store_put rfl 29 (.tmp 15) (.tmp 94) rfl wf.heap.size (brow V.last) rfl rfl 29 (brow (List.replicate 32 0)) (heap_alloc_new _ _) hi29 hz29 ho29 ?_; intro wg hpg
                                    have hkg : Kept wf.heap.size wf wg := ((Kept.refl _ _).alloc (Nat.le_refl _) _).trans (Kept.of (hpg.below (Nat.le_refl _)))
                                    have HH5 := hide ((unhide HH4).kept hkg)
                                    have hrg1 : wg.heap[wc1.heap.size]? = some (.cells (brow V.last) 29 (0, 0)) := (hkg.block _ (Array.getElem?_eq_some_iff.1 (unhide HRF)).1).trans (unhide HRF)
                                    have hrg2 := hpg.row
                                    clear hkg hpg)
            have HQ := hide (show ∃ A, Duo wb p vp (.slice (some ⟨sb, 0, none⟩) V.snks.length sc) A (n + 1) p2 vp2 lv2 V n wg ∧ A.Calm ∧ A.sto = V.sto from ⟨V6, unhide HH5, (unhide HCN).1, (unhide HCN).2.2.1⟩)
            clear HH4 HH5 HRF HCN
            go_wp2_with (first | (refine wpList_load_guard (by kernel_rfl) 29 (.tmp 12) rfl wc1.heap.size rfl (brow V.last) _ 29 hrg1 Tryz.underlying29 rfl hi29 ?_) | (refine wpList_load_guard (by kernel_rfl) 29 (.tmp 15) rfl wf.heap.size rfl (brow V.last) _ 29 hrg2 Tryz.underlying29 rfl hi29 ?_))
            have hnl : n ≤ 1048576 := by omega
            clear hrg1 hrg2 hzd
            go_loopw [16] (fun vi wy => ∃ (i A C : _) (n1 m1 : Nat), i ≤ 7 ∧ vi = .int .i64 (i : Nat) ∧ Duo wb p vp (.slice (some ⟨sb, 0, none⟩) V.snks.length sc) A n1 p2 vp2 lv2 C m1 wy ∧ A.Calm ∧ C.Calm ∧ A.sto = C.sto ∧ n1 ≤ n + 1 + i ∧ m1 ≤ n + i) (fun vi _ => 7 - (intOf vi).toNat)
            case atStart => exact ⟨0, (unhide HQ).choose, V, n + 1, n, by decide, rfl, (unhide HQ).choose_spec.1, (unhide HQ).choose_spec.2.1, unhide HC, (unhide HQ).choose_spec.2.2, Nat.le_refl _, Nat.le_refl _⟩
            case round =>
              clear HQ
              obtain ⟨j, A, C, n1, m1, hj, rfl, hd, hA, hC, hst, hn1, hm1⟩ := hrel
              have HD := hide hd
              have HT2 := hide (show A.tell (gAll j) = C.tell (gAll j) by rw [hA.tell, hC.tell, ask_sto hst])
              have HN := hide (And.intro (hA.next (gAll j)) (And.intro (hC.next (gAll j)) (show (A.next (gAll j)).sto = (C.next (gAll j)).sto by rw [hA.sto, hC.sto, ask_sto hst, hst])))
              clear hd hA hC hst
              by_cases hj7 : j < 7
              · have hjI : (j : Int) < 7 := by omega
                obtain ⟨TA, hTA⟩ : ∃ T, T = txt ⟨#[97, 100, 109]⟩ := ⟨_, rfl⟩
                have zA : TA.size = 4 := by rw [hTA]; exact txt_size _
                have HXA := hide (fun W => text_go ⟨#[97, 100, 109]⟩ W (by decide))
                rw [← hTA] at HXA
                have HTA := hide (show TA = txt adm from hTA)
                clear hTA
                have q71 : (⟨#[71]⟩ : ByteArray).size = 1 := rfl
                have q0 : (⟨#[0]⟩ : ByteArray).size = 1 := rfl
                have k1 : (9223372036854775807 < (⟨#[71]⟩ : ByteArray).size + TA.size) = False := eq_false (by omega)
                obtain ⟨X1, hX1⟩ : ∃ X, X = (⟨#[71]⟩ : ByteArray) ++ TA := ⟨_, rfl⟩
                have z1 : X1.size = 5 := by rw [hX1, ByteArray.size_append]; omega
                have e1 := hX1.symm
                clear hX1
                have HPA := hide (fun W => path_go (j : Int) W ⟨by omega, by omega⟩)
                have hps := pathOf_size (j : Int)
                have HG := hide (show gAll j = bs [71] ++ (txt adm ++ (txt (pathOf (j : Int)) ++ bs [0])) from rfl)
                generalize pathOf (j : Int) = PJ at HPA hps HG
                have hTs := txt_size PJ
                have HXP := hide (fun W => text_go PJ W (by omega))
                generalize txt PJ = TP at hTs HXP HG
                have k2 : (9223372036854775807 < X1.size + TP.size) = False := eq_false (by omega)
                obtain ⟨X2, hX2⟩ : ∃ X, X = X1 ++ TP := ⟨_, rfl⟩
                have z2 : X2.size ≤ 20 := by rw [hX2, ByteArray.size_append]; omega
                have e2 := hX2.symm
                clear hX2
                have k3 : (9223372036854775807 < X2.size + (⟨#[0]⟩ : ByteArray).size) = False := eq_false (by omega)
                obtain ⟨X3, hX3⟩ : ∃ X, X = X2 ++ (⟨#[0]⟩ : ByteArray) := ⟨_, rfl⟩
                have z3 : X3.size ≤ 30 := by rw [hX3, ByteArray.size_append]; omega
                have e3 := hX3.symm
                clear hX3
                have hgx : gAll j = X3 := by rw [unhide HG, ← e3, ← e2, ← e1, ← unhide HTA, ba_assoc, ba_assoc]; rfl
                rw [hgx] at HT2 HN
                clear hgx HG HTA
                go_wp2_with fail
                refine (unhide HXA _).mono ?_
                rintro _ x1 ⟨rfl, hk⟩
                have HD1 := hide ((unhide HD).kept hk)
                clear hk HD
                go_wp2_with fail
                refine (unhide HPA _).mono ?_
                rintro _ x2 ⟨rfl, hk⟩
                have HD2 := hide ((unhide HD1).kept hk)
                clear hk HD1
                go_wp2_with fail
                refine (unhide HXP _).mono ?_
                rintro _ x3 ⟨rfl, hk⟩
                have HD3 := hide ((unhide HD2).kept hk)
                clear hk HD2 HXA HPA HXP
                have hx3 := (unhide HD3).x
                go_wp2_with fail
                refine ((unhide HD3).do' (by omega) X3 (by omega) (unhide HTb) h0b).mono ?_
                rintro _ x4 ⟨rfl, hd4, _⟩
                have HD4 := hide hd4.symm
                clear hd4 HD3 hx3
                have hx4 := (unhide HD4).x
                rw [unhide HT2]
                go_wp2_with fail
                refine ((unhide HD4).do' (by omega) X3 (by omega) (unhide HTb) h0b).mono ?_
                rintro _ x5 ⟨rfl, hd5, _⟩
                have HD5 := hide hd5.symm
                clear hd5 HD4 hx4
                have heqs : ((C.tell X3).toList == (C.tell X3).toList) = true := by simp
                go_wp2_with fail
                go_roundw
                case rel => exact ⟨j + 1, _, _, _, _, by omega, by go_num, unhide HD5, (unhide HN).1, (unhide HN).2.1, (unhide HN).2.2, by omega, by omega⟩
                case measure => simp [intOf]; omega
              · have hjI : ¬ (j : Int) < 7 := by omega
                have HKE := hide (show Kept w.heap.size w _ from (unhide HKB).trans ((unhide HD).k0.mono (by omega)))
                go_wp2_with fail
                go_ret
                exact ⟨rfl, unhide HKE⟩
end Go.Proofs.YtlbacbcenejngaaGreatDoor
