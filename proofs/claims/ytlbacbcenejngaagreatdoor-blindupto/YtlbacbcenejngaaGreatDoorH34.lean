/-
  Gc Uc Ud Bd
-/
import Derived.Test.YtlbacbcenejngaaGreatDoorH33
import Derived.Deep.CutBlock
import Derived.Deep.DeepCutAuto
import Derived.Test.YtlbacbcenejngaaGreatDoorH30
namespace Go.Proofs.YtlbacbcenejngaaGreatDoor
open Go.RowKit
theorem ptr_neq26 (a : Addr) (W : World) : (binOp .eql 26 (.pointer (some a)) (.pointer none)).run Tryz.prog W = .ok (.bool false) W := by kernel_rfl
theorem wpList_load_guard {ops : Array Oper} {rest : List Oper} {op : Oper} {a : Act} {w : World} {Q : Exit → Act → World → Prop} (hw : Region.wanted op (yielded ops a.tmps) = true) (ty : TypeId) (x : Operand) (ho : op.op = .load ty x)
    (b : Nat) (hx : a.eval x = .pointer (some ⟨b, 0, none⟩)) (cs : Array Value) (d : TypeDesc) (t : TypeId) (hc : w.heap[b]? = some (.cells cs t (0, 0)))
    (hu : Tryz.prog.underlying ty = some d) (hd : d.isRow = true) (hi : (Tryz.prog.info? ty).map (·.size) = some cs.size)
    (h : wpList Tryz.prog ops Q rest (a.put op.dst (.agg cs)) w) : wpList Tryz.prog ops Q (op :: rest) a w :=
  wpList_step fun _ hK => by
    rw [if_pos hw]
    exact wp_load_mid ty x ho b 0 hx cs.toList d (row_range hc) hu hd (by rw [Array.length_toList]; exact hi) (hK _ _ h)
/-- Two shops opened alike. -/
theorem duo_opened {w0 w w2 : World} {x : Int} {p vp p2 vp2 : Nat} {g g2 : VG} {lv lv2 : Value} (h1 : ShA w0.heap.size w p vp g lv (shop0 x)) (hk : Kept w0.heap.size w0 w) (h2 : ShA w0.heap.size w2 p2 vp2 g2 lv2 (shop0 x)) (hk2 : Kept w.heap.size w w2) (hf : ∀ k, Hft p2 vp2 g2 lv2 k → w.heap.size ≤ k) : Duo w0 p vp lv (shop0 x) 0 p2 vp2 lv2 (shop0 x) 0 w2 :=
  ⟨g, g2, [], [], h1.kept hk2, h2, fun k a b => by have := (h1.foot a).1; have := hf k b; omega, (shop0_bnd x).1, (shop0_bnd x).1, hk.trans (hk2.mono hk.size)⟩
end Go.Proofs.YtlbacbcenejngaaGreatDoor
namespace Go.Proofs.YtlbacbcenejngaaGreatDoor
open Go.RowKit
/-- Two heads that were asked lie beside a shop. -/
def Chx (w : World) (p vp : Nat) (lv : Value) (V V2 : Vlt) (n a b : Nat) (wx : World) : Prop :=
  Uno w p vp lv V2 n wx ∧ wx.heap[a]? = some (.cells (brow V.last) 29 (0, 0)) ∧ wx.heap[b]? = some (.cells (brow V2.last) 29 (0, 0))
theorem Chx.kept {w : World} {p vp : Nat} {lv : Value} {V V2 : Vlt} {n a b : Nat} {wx wy : World} (h : Chx w p vp lv V V2 n a b wx) (hk : Kept wx.heap.size wx wy) : Chx w p vp lv V V2 n a b wy :=
  ⟨h.1.kept hk, (hk.block _ (Array.getElem?_eq_some_iff.1 h.2.1).1).trans h.2.1, (hk.block _ (Array.getElem?_eq_some_iff.1 h.2.2).1).trans h.2.2⟩
set_option maxRecDepth 100000 in
set_option maxHeartbeats 8000000 in
theorem chained_law (x : Int) (v : Value) (l : List Stq) (w : World) (hx : i64 x) (h : ScrS w v l) (hT : Table w) (hz : 0 < w.heap.size) :
    Calls Tryz.prog 4 #[.int .i64 x, v] w fun e w' => e = .returned (.bool true) ∧ Kept w.heap.size w w' := by
  obtain ⟨av, cv, rfl, hav⟩ := h.val
  have hln := h.len
  have HE := hide h.each
  have HV := hide hav
  have HT := hide hT
  have hq := ptr_neq26
  have HO := hide (uno_opened w x hx hT hz)
  clear h hav hT
  go_enter Tryz.func4, Tryz.ntmps4
  go_wp2_with fail
  refine (unhide HO).mono ?_
  rintro _ w1 ⟨p, vp, lv, rfl, hu⟩
  have HU := hide hu
  clear hu HO
  go_wp2_with fail
  go_loopw [6] (fun vi wr => ∃ (i : Nat) (V : Vlt), i ≤ l.length ∧ vi = .int .i64 i ∧ Uno w p vp lv V i wr) (fun vi _ => l.length - (intOf vi).toNat)
  case atStart => exact ⟨0, _, Nat.zero_le _, rfl, unhide HU⟩
  case round =>
    clear HU
    obtain ⟨i, V, hi, rfl, hu⟩ := hrel
    have HU := hide hu
    clear hu
    by_cases hlt : i < l.length
    · obtain ⟨b, o', rfl, hbw, hrg⟩ := unhide HV (by omega)
      have hiI : (i : Int) < (l.length : Int) := by omega
      have hi0 : (0 : Int) ≤ (i : Int) := by omega
      have HA := hide (unhide HE i hlt)
      have hr0 : w.rangeAt b (o' + i * 6) (l.getD i stq0).cells.toList := hrg i hlt
      clear hrg
      generalize l.getD i stq0 = c at HA hr0
      have hi40 : (Tryz.prog.info? 40).map (·.size) = some c.cells.toList.length := by rw [Array.length_toList]; exact info40
      obtain ⟨E, hbE⟩ := (unhide HU).bnd
      have hlast : V.last.length = 32 := by rw [hbE.ok.last]; exact hashAt_len _ _
      have hcn : (V.cnt : Int) < 4194304 := by have h1 := hbE.ok.cnt; have h2 := hbE.le; omega
      obtain ⟨sb, sr, hsay, hs6, hs7⟩ := says_head V c 120
      obtain ⟨V2, hV2⟩ : ∃ V2, V2 = V.stepS c 120 := ⟨_, rfl⟩
      have HST := hide (fun W (hW : Uno w p vp lv V i W) => hW.step (by omega) c 120 (unhide HA) (unhide HT) hz)
      rw [← hV2] at hs6 hs7 HST
      rw [hsay] at HST
      have HS6 := hide hs6
      have HS7 := hide hs7
      clear hV2 hs6 hs7 hsay hbE
      have hx1 := (unhide HU).x
      have hi29 : (Tryz.prog.info? 29).map (·.size) = some (brow V.last).size := by rw [brow_size, hlast]; exact info29
      have hz29 : (brow (List.replicate 32 0)).size = (brow V.last).size := by rw [brow_size, brow_size, hlast]; rfl
      have ho29 := brow_one V.last
      go_wp2_with fail
      refine (unhide HU).head.mono ?_
      rintro _ wa ⟨rfl, hka⟩
      have HU1 := hide ((unhide HU).kept hka)
      clear hka hx1 HU
      go_upto_region 8 with (refine wpList_store_put rfl 29 (.tmp 8) (.tmp 37) rfl wa.heap.size (brow V.last) rfl rfl 29 (brow (List.replicate 32 0)) (heap_alloc_new _ _) hi29 hz29 ho29 ?_; intro wb hpb
                             have hkb : Kept wa.heap.size wa wb := ((Kept.refl _ _).alloc (Nat.le_refl _) _).trans (Kept.of (hpb.below (Nat.le_refl _)))
                             have HU2 := hide ((unhide HU1).kept hkb)
                             have HRB := hide hpb.row
                             have hrb : wb.rangeAt b (o' + i * 6) c.cells.toList := range_kept hr0 (unhide HU2).k0 hbw
                             clear hkb hpb)
      go_wp2_with (refine wpList_load_mid rfl 40 (.tmp 41) rfl b (o' + i * 6) ?_ c.cells.toList _ hrb Tryz.underlying40 rfl hi40 ?_
                   · rfl)
      refine (unhide HST wb (unhide HU2)).mono ?_
      rintro _ wc ⟨rfl, hu3, hk30⟩
      have HU3 := hide hu3
      have HRC := hide (show wc.heap[wa.heap.size]? = some (.cells (brow V.last) 29 (0, 0)) from (hk30 _ (show TyAt wb _ 29 from ⟨_, unhide HRB⟩).knd).trans (unhide HRB))
      clear hk30 hu3 HRB hrb HU1 HU2 HST hi29 hz29 ho29
      obtain ⟨E2, hb2⟩ := (unhide HU3).bnd
      have hlast2 : V2.last.length = 32 := by rw [hb2.ok.last]; exact hashAt_len _ _
      have hi29 : (Tryz.prog.info? 29).map (·.size) = some (brow V2.last).size := by rw [brow_size, hlast2]; exact info29
      have hz29 : (brow (List.replicate 32 0)).size = (brow V2.last).size := by rw [brow_size, brow_size, hlast2]; rfl
      have ho29 := brow_one V2.last
      have HB2 := hide hb2
      have hx2 := (unhide HU3).x
      clear hb2
      go_wp2_with fail
      refine (unhide HU3).head.mono ?_
      rintro _ wd ⟨rfl, hkd⟩
      have HU4 := hide ((unhide HU3).kept hkd)
      have HRD := hide ((hkd.block _ (Array.getElem?_eq_some_iff.1 (unhide HRC)).1).trans (unhide HRC))
      clear hkd hx2 HU3 HRC
      go_upto_region 10 with (refine wpList_store_put rfl 29 (.tmp 11) (.tmp 51) rfl wd.heap.size (brow V2.last) rfl rfl 29 (brow (List.replicate 32 0)) (heap_alloc_new _ _) hi29 hz29 ho29 ?_; intro we hpe
                              have hke : Kept wd.heap.size wd we := ((Kept.refl _ _).alloc (Nat.le_refl _) _).trans (Kept.of (hpe.below (Nat.le_refl _)))
                              have HX := hide (show Chx w p vp lv V V2 (i + 1) wa.heap.size wd.heap.size we from ⟨(unhide HU4).kept hke, (hke.block _ (Array.getElem?_eq_some_iff.1 (unhide HRD)).1).trans (unhide HRD), hpe.row⟩)
                              clear hke hpe)
      clear HU4 HRD
      have hsz : 0 < (bs (sb :: sr)).size := by rw [bs_size]; exact Nat.succ_pos _
      have hgt : (0 : Int) < ((bs (sb :: sr)).size : Int) := by omega
      have hget : (bs (sb :: sr))[0]'hsz = sb := rfl
      have hemp : (bs (sb :: sr)).toList.isEmpty = false := emp_no (by omega)
      generalize bs (sb :: sr) = RA at *
      have hck : we.cell? ⟨b, o' + i * 6, none⟩ = some (.int .i64 c.kind) := (range_kept hr0 (unhide HX).1.k0 hbw) 0 _ rfl
      go_upto_region 13 with fail
      go_cut [66] (fun cv wx => cv = .bool (decide (sb = 6 ∨ c.kind = 7)) ∧ Chx w p vp lv V V2 (i + 1) wa.heap.size wd.heap.size wx)
      case first =>
        by_cases h6 : sb = 6
        · have hn6 : ((RA[0]'hsz).toNat : Int) = 6 := by rw [hget, h6]; rfl
          clear hget
          go_wp2_with fail
          go_meet
          case rel => exact ⟨by rw [decide_eq_true (.inl h6)], unhide HX⟩
        · have hn6 : ¬ ((RA[0]'hsz).toNat : Int) = 6 := by rw [hget]; intro e; exact h6 (UInt8.toNat_inj.1 (by have h3 : (6 : UInt8).toNat = 6 := rfl; omega))
          clear hget
          by_cases h7 : c.kind = 7
          · have h7I : (c.kind == 7) = true := by simpa using h7
            go_wp2_with fail
            go_meet
            case rel => exact ⟨by rw [decide_eq_true (.inr h7)], unhide HX⟩
          · have h7I : (c.kind == 7) = false := by simpa using h7
            go_wp2_with fail
            go_meet
            case rel => exact ⟨by rw [decide_eq_false (by rintro (h | h); exact h6 h; exact h7 h)]; exact congrArg Value.bool (by simpa using hn6), unhide HX⟩
      case rest =>
        obtain ⟨rfl, hx3⟩ := hcut
        have HX3 := hide hx3
        clear hx3 HX hck hemp hget hgt
        have HSB := hide (show (decide (sb = 6 ∨ c.kind = 7) = true → V2.cnt = V.cnt ∧ V2.last = V.last) ∧ (decide (sb = 6 ∨ c.kind = 7) = false → V2.cnt = V.cnt + 1) from ⟨fun e => unhide HS6 (of_decide_eq_true e), fun e => unhide HS7 (of_decide_eq_false e)⟩)
        generalize decide (sb = 6 ∨ c.kind = 7) = B at HSB ⊢
        go_upto_if 66 with fail
        go_cut [12] (fun cv wx => cv = .int .i64 (V2.cnt : Int) ∧ Chx w p vp lv V V2 (i + 1) wa.heap.size wd.heap.size wx)
        case first =>
          cases B with
          | true =>
            go_wp2_with fail
            go_meet
            case rel => exact ⟨by rw [((unhide HSB).1 trivial).1], unhide HX3⟩
          | false =>
            go_wp2_with fail
            go_meet
            case rel => exact ⟨by rw [(unhide HSB).2 trivial]; rfl, unhide HX3⟩
        case rest =>
          obtain ⟨rfl, hx4⟩ := hcut
          have HX4 := hide hx4
          clear hx4 HX3
          have HLS := hide (show V2.cnt = V.cnt → V2.last = V.last from fun e => by
            cases B with
            | true => exact ((unhide HSB).1 rfl).2
            | false => have := (unhide HSB).2 rfl; omega)
          clear HSB
          have hs0 : 0 < V2.snks.length := by
            obtain ⟨k, hk, _⟩ := (unhide HB2).ok.most
            exact List.length_pos_iff.2 fun e => by rw [e] at hk; cases hk
          have hs4 := (unhide HB2).few
          obtain ⟨lb, lc, rfl, _⟩ := (unhide HX4).1.sinks hs0
          have hl3 := (unhide HX4).1.l
          go_wp2_with fail
          clear hl3
          go_loopw [14, 13] (fun vk vm wx => ∃ k : Nat, k ≤ V2.snks.length ∧ vk = .int .i64 k ∧ vm = .string (mostOf (V2.snks.take k) .empty) ∧ Chx w p vp (.slice (some ⟨lb, 0, none⟩) V2.snks.length lc) V V2 (i + 1) wa.heap.size wd.heap.size wx) (fun vk _ _ => V2.snks.length - (intOf vk).toNat)
          case atStart => exact ⟨0, Nat.zero_le _, rfl, rfl, unhide HX4⟩
          case round =>
            clear HX4
            obtain ⟨k, hk, rfl, rfl, hx5⟩ := hrel
            have HX5 := hide hx5
            clear hx5
            have hl5 := (unhide HX5).1.l
            by_cases hkl : k < V2.snks.length
            · have hkI : (k : Int) < (V2.snks.length : Int) := by omega
              have hk0 : (0 : Int) ≤ (k : Int) := by omega
              obtain ⟨lb', lc', e1, hrd⟩ := (unhide HX5).1.sinks hs0
              obtain ⟨q, hcq, hread⟩ := hrd k hkl
              obtain rfl : lb = lb' := by injection e1 with e2; injection e2 with e3; injection e3
              have HRD := hide hread
              have HMN := hide (mostOf_next hkl)
              clear hrd hread e1
              generalize mostOf (V2.snks.take k) .empty = M at HMN ⊢
              generalize (V2.snks.getD k snk0).data = T at HMN HRD
              go_wp2_with fail
              refine (unhide HRD).mono ?_
              rintro _ wq ⟨rfl, hwq⟩
              subst hwq
              by_cases hmt : M.size < T.size
              · have hmI : (M.size : Int) < (T.size : Int) := by omega
                go_wp2_with fail
                go_roundw
                case rel => exact ⟨k + 1, by omega, by go_num, by rw [unhide HMN, if_pos hmt], unhide HX5⟩
                case measure => simp [intOf]; omega
              · have hmI : ¬ (M.size : Int) < (T.size : Int) := by omega
                go_wp2_with fail
                go_roundw
                case rel => exact ⟨k + 1, by omega, by go_num, by rw [unhide HMN, if_neg hmt], unhide HX5⟩
                case measure => simp [intOf]; omega
            · obtain rfl : k = V2.snks.length := by omega
              have hkI : ¬ (V2.snks.length : Int) < (V2.snks.length : Int) := by omega
              have hmost : mostOf (V2.snks.take V2.snks.length) .empty = logOf E2 := by rw [List.take_length]; exact (unhide HB2).ok.most'
              rw [hmost]
              clear hmost
              have hver := ver_log (unhide HB2).ok.chn (n := (V2.cnt : Int)) (H := V2.last) (by rw [(unhide HB2).ok.cnt]) (unhide HB2).ok.last.symm
              have HVER := hide (show vfyOf (ents (logOf E2) 0).1 (ents (logOf E2) 0).2 (V2.cnt : Int) V2.last = (0, (V2.cnt : Int)) by rw [ver_vfy, hver.1, hver.2, (unhide HB2).ok.cnt])
              clear hver
              have hlgs : (logOf E2).size ≤ 140737488355000 := by have h1 := logOf_small (chn_fits (unhide HB2).ok.chn); have h2 := (unhide HB2).le; omega
              have HSM := hide (show ∀ k, k < V2.snks.length → (V2.snks.getD k snk0).data.size ≤ (logOf E2).size ∧ (logOf E2).extract 0 (V2.snks.getD k snk0).data.size = (V2.snks.getD k snk0).data from fun k hk => some1_pre ((unhide HB2).ok.snk _ (by rw [List.getD_eq_getElem?_getD, List.getElem?_eq_getElem hk]; exact List.getElem_mem hk)))
              generalize logOf E2 = M at HVER HSM hlgs ⊢
              have hr11 := (unhide HX5).2.2
              have h0x : 0 < wr.heap.size := by have := (unhide HX5).1.k0.size; omega
              go_wp2_with (first | (refine wpList_load_row rfl 29 (.tmp 11) rfl wd.heap.size rfl 29 (brow V2.last) (0, 0) _ hr11 Tryz.underlying29 rfl hi29 ?_))
              refine (bailey_verify M (V2.cnt : Int) V2.last wr hlgs hlast2 ((unhide HT).kept (unhide HX5).1.k0 hz) h0x).mono ?_
              rw [unhide HVER]
              rintro _ wf ⟨rfl, hkf⟩
              have HX6 := hide ((unhide HX5).kept hkf)
              clear hkf hr11 HX5 hl5 h0x
              have hr8 := (unhide HX6).2.1
              have hr11 := (unhide HX6).2.2
              go_upto_region 23 with fail
              go_cut [119] (fun cv wx => cv = .bool false ∧ Chx w p vp (.slice (some ⟨lb, 0, none⟩) V2.snks.length lc) V V2 (i + 1) wa.heap.size wd.heap.size wx)
              case first =>
                by_cases hcc : V2.cnt = V.cnt
                · have hll := unhide HLS hcc
                  rw [← hll] at hr8
                  have heq := same_row V2.last hlast2
                  have hccI : ((V2.cnt : Int) == (V.cnt : Int)) = true := by rw [beq_iff_eq]; omega
                  clear hcc hll
                  go_wp2_with (first | (refine wpList_load_guard (by kernel_rfl) 29 (.tmp 8) rfl wa.heap.size rfl (brow V2.last) _ 29 hr8 Tryz.underlying29 rfl hi29 ?_) | (refine wpList_load_guard (by kernel_rfl) 29 (.tmp 11) rfl wd.heap.size rfl (brow V2.last) _ 29 hr11 Tryz.underlying29 rfl hi29 ?_))
                  go_meet
                  case rel => exact ⟨rfl, unhide HX6⟩
                · have hccI : ((V2.cnt : Int) == (V.cnt : Int)) = false := beq_eq_false_iff_ne.2 (by omega)
                  go_wp2_with fail
                  go_meet
                  case rel => exact ⟨rfl, unhide HX6⟩
              case rest =>
                obtain ⟨rfl, hx7⟩ := hcut
                have HX7 := hide hx7
                clear hx7 HX6 hr8 hr11
                go_wp2_with fail
                go_loopw [18] (fun vk wx => ∃ k : Nat, k ≤ V2.snks.length ∧ vk = .int .i64 k ∧ Chx w p vp (.slice (some ⟨lb, 0, none⟩) V2.snks.length lc) V V2 (i + 1) wa.heap.size wd.heap.size wx) (fun vk _ => V2.snks.length - (intOf vk).toNat)
                case atStart => exact ⟨0, Nat.zero_le _, rfl, unhide HX7⟩
                case round =>
                  clear HX7
                  obtain ⟨k, hk, rfl, hx8⟩ := hrel
                  have HX8 := hide hx8
                  clear hx8
                  have hl8 := (unhide HX8).1.l
                  by_cases hkl : k < V2.snks.length
                  · have hkI : (k : Int) < (V2.snks.length : Int) := by omega
                    have hk0 : (0 : Int) ≤ (k : Int) := by omega
                    obtain ⟨lb', lc', e1, hrd⟩ := (unhide HX8).1.sinks hs0
                    obtain ⟨q, hcq, hread⟩ := hrd k hkl
                    obtain rfl : lb = lb' := by injection e1 with e2; injection e2 with e3; injection e3
                    have HRD := hide hread
                    have HPR := hide (unhide HSM k hkl)
                    clear hrd hread e1
                    generalize (V2.snks.getD k snk0).data = T at HPR HRD
                    obtain ⟨hts, htx⟩ := unhide HPR
                    have htI : (T.size : Int) ≤ (M.size : Int) := by omega
                    have htJ : ¬ (M.size : Int) < (T.size : Int) := by omega
                    have heqs : (T.toList == T.toList) = true := by simp
                    go_wp2_with fail
                    refine (unhide HRD).mono ?_
                    rintro _ wq ⟨rfl, hwq⟩
                    subst hwq
                    go_wp2_with fail
                    go_roundw
                    case rel => exact ⟨k + 1, by omega, by go_num, unhide HX8⟩
                    case measure => simp [intOf]; omega
                  · obtain rfl : k = V2.snks.length := by omega
                    have hkI : ¬ (V2.snks.length : Int) < (V2.snks.length : Int) := by omega
                    go_wp2_with fail
                    go_roundw
                    case rel => exact ⟨i + 1, V2, by omega, by go_num, (unhide HX8).1⟩
                    case measure => simp [intOf]; omega
    · have hiI : ¬ (i : Int) < (l.length : Int) := by omega
      have HK := hide (unhide HU).k0
      go_wp2_with fail
      go_ret
      exact ⟨rfl, unhide HK⟩
end Go.Proofs.YtlbacbcenejngaaGreatDoor
namespace Go.Proofs.YtlbacbcenejngaaGreatDoor
open Go.RowKit
theorem stepS_len (V : Vlt) (o : Stq) (c : UInt8) : (V.stepS o c).snks.length = V.snks.length := by
  unfold Vlt.stepS
  split
  · show (V.snks.modify _ _).length = _; rw [List.length_modify]
  · unfold Vlt.next
    split
    · show (V.lay _).1.length = _; unfold Vlt.lay layF; rw [List.length_map]
    · show (V.lay _).1.length = _; unfold Vlt.lay layF; rw [List.length_map]
theorem cut_from (P : ByteArray) (k : Nat) (h : k ≤ P.size) (w : World) : (Instr.sliceAt 9 (.string P) (some (.int .i64 (k : Int))) none none).run Tryz.prog w = .ok (.string (P.extract k P.size)) w := by
  have hu := Tryz.underlying9
  have h1 : (k : Int) ≤ (P.size : Int) := by omega
  have h2 : ¬ (P.size : Int) < (k : Int) := by omega
  simp [Instr.sliceAt, Instr.slice, go_sem, h1]
theorem yieldsIf_from {ops : Array Oper} {S : World → Prop} {op : Oper} {a : Act} (hw : Region.wanted op (yielded ops a.tmps) = true) (x y : Operand) (ho : op.op = .slice 9 x (some y) none none) {vx vy v : Value}
    (hr : ∀ W, (Instr.sliceAt 9 vx (some vy) none none).run Tryz.prog W = .ok v W) (hx : a.eval x = vx) (hy : a.eval y = vy) : YieldsIf Tryz.prog ops S op v a :=
  .inl ⟨hw, fun W _ => by
    unfold execOp
    simp only [ho, Option.map_none, Option.map_some, hx, hy, Sem.run_bind, hr W, Result.andThen_ok, Sem.run_pure]⟩
theorem getD_le (X : List ByteArray) (k m : Nat) (h : ∀ x ∈ X, x.size ≤ m) : (X.getD k ByteArray.empty).size ≤ m := by
  by_cases hk : k < X.length
  · exact getD_size hk h
  · rw [List.getD_eq_getElem?_getD, List.getElem?_eq_none (by omega)]
    exact Nat.zero_le _
theorem clOf_size (a b : ByteArray) : (clOf a b).1.size ≤ a.size ∧ (clOf a b).2.1.size ≤ b.size := by
  rw [clOf]
  split
  · rw [clashF]
    split
    · exact ⟨getD_le _ _ _ (walk_size a), getD_le _ _ _ (walk_size b)⟩
    · exact ⟨Nat.zero_le _, Nat.zero_le _⟩
  · exact ⟨Nat.zero_le _, Nat.zero_le _⟩
theorem wrap_i64 {x : Int} (h : i64 x) : IntKind.i64.wrap x = x := by
  obtain ⟨h1, h2⟩ := h
  simp [IntKind.wrap, IntKind.bits, IntKind.signed]
  omega
theorem pick_plus (c : Int) (n : Nat) (w : World) (hc : i64 c) (hm : n + 1 ≤ 140737488355328) :
    Calls Tryz.prog 15 #[.int .i64 c, .int .i64 ((n : Int) + 1)] w fun e w' => e = .returned (.int .i64 (pkI c (n + 1) : Int)) ∧ w' = w := by
  have := pickE_go c (n + 1) w hc (by omega) hm
  rwa [show ((n + 1 : Nat) : Int) = (n : Int) + 1 by omega] at this
set_option maxRecDepth 100000 in
set_option maxHeartbeats 8000000 in
theorem forged_law (v : Value) (l : List Stq) (pa : Int) (s : ByteArray) (pc : Int) (w : World) (h : ScrS w v l) (hpa : i64 pa) (hs : s.size ≤ 1048576) (hpc : i64 pc) (hT : Table w) (hz : 0 < w.heap.size) :
    Calls Tryz.prog 5 #[v, .int .i64 pa, .string s, .int .i64 pc] w fun e w' => e = .returned (.bool true) ∧ Kept w.heap.size w w' := by
  obtain ⟨av, cv, rfl, hav⟩ := h.val
  have hln := h.len
  have HE := hide h.each
  have HV := hide hav
  have HT := hide hT
  have hq := ptr_neq26
  have HO := hide (uno_opened w 0 ⟨by decide, by decide⟩ hT hz)
  clear h hav hT
  go_enter Tryz.func5, Tryz.ntmps5
  go_wp2_with fail
  refine (unhide HO).mono ?_
  rintro _ w1 ⟨p, vp, lv, rfl, hu⟩
  have HU := hide hu
  clear hu HO
  go_wp2_with fail
  go_loopw [10] (fun vi wr => ∃ (i : Nat) (V : Vlt), i ≤ l.length ∧ vi = .int .i64 i ∧ Uno w p vp lv V i wr ∧ V.snks.length = 1) (fun vi _ => l.length - (intOf vi).toNat)
  case atStart => exact ⟨0, _, Nat.zero_le _, rfl, unhide HU, rfl⟩
  case round =>
    clear HU
    obtain ⟨i, V, hi, rfl, hu, hv1⟩ := hrel
    have HU := hide hu
    have HV1 := hide hv1
    clear hu hv1
    by_cases hlt : i < l.length
    · obtain ⟨b, o', rfl, hbw, hrg⟩ := unhide HV (by omega)
      have hiI : (i : Int) < (l.length : Int) := by omega
      have hi0 : (0 : Int) ≤ (i : Int) := by omega
      have HA := hide (unhide HE i hlt)
      have hr0 : wr.rangeAt b (o' + i * 6) (l.getD i stq0).cells.toList := range_kept (hrg i hlt) (unhide HU).k0 hbw
      clear hrg
      generalize l.getD i stq0 = c at HA hr0
      have hi40 : (Tryz.prog.info? 40).map (·.size) = some c.cells.toList.length := by rw [Array.length_toList]; exact info40
      go_wp2_with (refine wpList_load_mid rfl 40 (.tmp 35) rfl b (o' + i * 6) ?_ c.cells.toList _ hr0 Tryz.underlying40 rfl hi40 ?_
                   · rfl)
      refine ((unhide HU).step (by omega) c 120 (unhide HA) (unhide HT) hz).mono ?_
      rintro _ w2 ⟨rfl, hu2, _⟩
      have HU2 := hide hu2
      clear hu2
      go_wp2_with fail
      go_roundw
      case rel => exact ⟨i + 1, _, by omega, by go_num, unhide HU2, by rw [stepS_len]; exact unhide HV1⟩
      case measure => simp [intOf]; omega
    · have hiI : ¬ (i : Int) < (l.length : Int) := by omega
      obtain ⟨E, hbE⟩ := (unhide HU).bnd
      have hlast : V.last.length = 32 := by rw [hbE.ok.last]; exact hashAt_len _ _
      have hi29 : (Tryz.prog.info? 29).map (·.size) = some (brow V.last).size := by rw [brow_size, hlast]; exact info29
      have hz29 : (brow (List.replicate 32 0)).size = (brow V.last).size := by rw [brow_size, brow_size, hlast]; rfl
      have ho29 := brow_one V.last
      have hd0 : (V.snks.getD 0 snk0).data = logOf E := by
        obtain ⟨k, hk, he⟩ := hbE.ok.most
        obtain ⟨k0, hk0⟩ := List.length_eq_one_iff.1 (unhide HV1)
        rw [hk0] at hk ⊢
        rw [List.mem_singleton.1 hk] at he
        exact he
      have hver := ver_log hbE.ok.chn (n := (V.cnt : Int)) (H := V.last) (by rw [hbE.ok.cnt]) hbE.ok.last.symm
      have HVL := hide hver.1
      have hLs : (logOf E).size ≤ 1717986918400 := by have h1 := logOf_small (chn_fits hbE.ok.chn); have h2 := hbE.le; omega
      obtain ⟨sb, sc, rfl, hsk⟩ := (unhide HU).sinks (by rw [unhide HV1]; decide)
      have HSL := hide (show ∀ W, Kept wr.heap.size wr W → ∃ q, W.cell? ⟨sb, 0, none⟩ = some (.pointer (some ⟨q, 0, none⟩)) ∧ Calls Tryz.prog 13 #[.pointer (some ⟨q, 0, none⟩)] W fun e w' => e = .returned (.string (logOf E)) ∧ w' = W from fun W hW => by
        have hUW := (unhide HU).kept hW
        obtain ⟨sb', sc', e1, hr⟩ := hUW.sinks (by rw [unhide HV1]; decide)
        obtain ⟨q, hq1, hq2⟩ := hr 0 (by rw [unhide HV1]; decide)
        obtain rfl : sb = sb' := by injection e1 with e2; injection e2 with e3; injection e3
        exact ⟨q, hq1, by rw [← hd0]; exact hq2⟩)
      have hl1 : (V.snks.length : Int) = 1 := by rw [unhide HV1]; rfl
      clear hbE hd0 hver hsk
      generalize logOf E = L at HVL hLs HSL
      have hx1 := (unhide HU).x
      go_wp2_with fail
      refine (unhide HU).head.mono ?_
      rintro _ wa ⟨rfl, hka⟩
      have HU1 := hide ((unhide HU).kept hka)
      have HKA := hide hka
      clear hka hx1
      go_upto_region 9 with (refine wpList_store_put rfl 29 (.tmp 12) (.tmp 45) rfl wa.heap.size (brow V.last) rfl rfl 29 (brow (List.replicate 32 0)) (heap_alloc_new _ _) hi29 hz29 ho29 ?_; intro wb hpb
                             have hkb : Kept wa.heap.size wa wb := ((Kept.refl _ _).alloc (Nat.le_refl _) _).trans (Kept.of (hpb.below (Nat.le_refl _)))
                             have HU2 := hide ((unhide HU1).kept hkb)
                             have HKB := hide ((unhide HKA).trans (hkb.mono (unhide HKA).size))
                             have hrb := hpb.row
                             clear hkb hpb)
      have hl2 := (unhide HU2).l
      rw [show (Value.slice (some ⟨sb, 0, none⟩) V.snks.length sc) = .slice (some ⟨sb, 0, none⟩) 1 sc by rw [unhide HV1]] at hl2
      obtain ⟨q, hcq, hread⟩ := unhide HSL wb (unhide HKB)
      have HRD := hide hread
      clear hread HU1 HKA
      go_wp2_with fail
      refine (unhide HRD).mono ?_
      rintro _ wq ⟨rfl, hwq⟩
      obtain rfl : wb = wq := hwq.symm
      clear hwq
      have hk := pkI_lt pa (n := L.size + 1) (by omega)
      have HPK := hide (fun W => pick_plus pa L.size W hpa (by omega))
      generalize pkI pa (L.size + 1) = k at hk HPK
      go_wp2_with fail
      refine (unhide HPK _).mono ?_
      rintro _ wp ⟨rfl, hwp⟩
      obtain rfl : wb = wp := hwp.symm
      clear hwp
      have hc0 := pkI_lt pc (n := L.size - k + 1) (by omega)
      have HPC := hide (show ∀ W, Calls Tryz.prog 15 #[.int .i64 pc, .int .i64 ((L.size : Int) - (k : Int) + 1)] W fun e w' => e = .returned (.int .i64 (pkI pc (L.size - k + 1) : Int)) ∧ w' = W from fun W => by
        have := pick_plus pc (L.size - k) W hpc (by omega)
        rwa [show ((L.size - k : Nat) : Int) = (L.size : Int) - (k : Int) by omega] at this)
      generalize pkI pc (L.size - k + 1) = c at hc0 HPC
      obtain ⟨X0, hX0⟩ : ∃ X, X = L.extract 0 k := ⟨_, rfl⟩
      have z0 : X0.size ≤ L.size := by rw [hX0, ByteArray.size_extract]; omega
      have HC0 := hide (show ∀ W, (Instr.sliceAt 9 (.string L) none (some (.int .i64 (k : Int))) none).run Tryz.prog W = .ok (.string X0) W from fun W => by rw [hX0]; exact cut_str L k (by omega) W)
      obtain ⟨X1, hX1⟩ : ∃ X, X = X0 ++ s := ⟨_, rfl⟩
      have z1 : X1.size ≤ L.size + s.size := by rw [hX1, ByteArray.size_append]; omega
      have n1 : (9223372036854775807 < X0.size + s.size) = False := eq_false (by omega)
      have e1 := hX1.symm
      obtain ⟨X2, hX2⟩ : ∃ X, X = L.extract (k + c) L.size := ⟨_, rfl⟩
      have z2 : X2.size ≤ L.size := by rw [hX2, ByteArray.size_extract]; omega
      have HC2 := hide (show ∀ W, (Instr.sliceAt 9 (.string L) (some (.int .i64 ((k : Int) + (c : Int)))) none none).run Tryz.prog W = .ok (.string X2) W from fun W => by
        have := cut_from L (k + c) (by omega) W
        rw [hX2]
        rwa [show ((k + c : Nat) : Int) = (k : Int) + (c : Int) by omega] at this)
      obtain ⟨X3, hX3⟩ : ∃ X, X = X1 ++ X2 := ⟨_, rfl⟩
      have z3 : X3.size ≤ 140737488355000 := by rw [hX3, ByteArray.size_append]; omega
      have n3 : (9223372036854775807 < X1.size + X2.size) = False := eq_false (by omega)
      have e3 := hX3.symm
      clear hX0 hX1 hX2 hX3 hl2 hcq
      have hw1 := wrap_i64 (x := (L.size : Int) - (k : Int)) ⟨by omega, by omega⟩
      have hw2 := wrap_i64 (x := (L.size : Int) - (k : Int) + 1) ⟨by omega, by omega⟩
      have hw3 := wrap_i64 (x := (k : Int) + (c : Int)) ⟨by omega, by omega⟩
      go_upto_region 11 with fail
      refine wp_region_held_drew (S := fun _ => True) (by kernel_rfl) (trivial) (fun hHeld => ?_)
      refine wpAnyH_take (i := 0) (oi := { dst := some 58, op := Op.move (Operand.tmp 13), type := 9, pos := "keeps.go:170", after := #[], guard := none }) (v := .string L) rfl (by kernel_rfl) (by kernel_rfl) (by kernel_rfl) (fun _ _ _ h => h) (Or.inl ⟨by kernel_rfl, fun W hW => by kernel_rfl⟩) hHeld ?_
      simp only [Act.put, List.setIfInBounds_toArray, List.set_cons_zero, List.set_cons_succ]
      refine wpAnyH_take (i := 1) (oi := { dst := some 59, op := Op.move (Operand.tmp 14), type := 3, pos := "keeps.go:170", after := #[], guard := none }) (v := .int .i64 (k : Int)) rfl (by kernel_rfl) (by kernel_rfl) (by kernel_rfl) (fun _ _ _ h => h) (Or.inl ⟨by kernel_rfl, fun W hW => by kernel_rfl⟩) hHeld ?_
      simp only [Act.put, List.setIfInBounds_toArray, List.set_cons_zero, List.set_cons_succ]
      refine wpAnyH_take (i := 2) (oi := { dst := some 60, op := Op.slice 9 (Operand.tmp 58) none (some (Operand.tmp 59)) none, type := 9, pos := "keeps.go:170", after := #[{ on := 0, ground := Ground.data }, { on := 1, ground := Ground.data }], guard := none }) (v := .string X0) rfl (by kernel_rfl) (by kernel_rfl) (by kernel_rfl) (fun _ _ _ h => h) (yieldsIf_cut (by kernel_rfl) (.tmp 58) (.tmp 59) rfl (unhide HC0) (by kernel_rfl) (by kernel_rfl)) hHeld ?_
      simp only [Act.put, List.setIfInBounds_toArray, List.set_cons_zero, List.set_cons_succ]
      refine wpAnyH_take (i := 3) (oi := { dst := some 61, op := Op.move (Operand.tmp 2), type := 9, pos := "keeps.go:170", after := #[], guard := none }) (v := .string s) rfl (by kernel_rfl) (by kernel_rfl) (by kernel_rfl) (fun _ _ _ h => h) (Or.inl ⟨by kernel_rfl, fun W hW => by kernel_rfl⟩) hHeld ?_
      simp only [Act.put, List.setIfInBounds_toArray, List.set_cons_zero, List.set_cons_succ]
      refine wpAnyH_take (i := 4) (oi := { dst := some 62, op := Op.binOp BinOp.add 9 (Operand.tmp 60) (Operand.tmp 61) 9, type := 9, pos := "keeps.go:170", after := #[{ on := 2, ground := Ground.data }, { on := 3, ground := Ground.data }], guard := none }) (v := .string X1) rfl (by kernel_rfl) (by kernel_rfl) (by kernel_rfl) (fun _ _ _ h => h) (Or.inl ⟨by kernel_rfl, fun W hW => by simp [execOp, go_sem, n1, e1]⟩) hHeld ?_
      simp only [Act.put, List.setIfInBounds_toArray, List.set_cons_zero, List.set_cons_succ]
      refine wpAnyH_take (i := 5) (oi := { dst := some 63, op := Op.move (Operand.tmp 13), type := 9, pos := "keeps.go:170", after := #[], guard := none }) (v := .string L) rfl (by kernel_rfl) (by kernel_rfl) (by kernel_rfl) (fun _ _ _ h => h) (Or.inl ⟨by kernel_rfl, fun W hW => by kernel_rfl⟩) hHeld ?_
      simp only [Act.put, List.setIfInBounds_toArray, List.set_cons_zero, List.set_cons_succ]
      refine wpAnyH_take (i := 6) (oi := { dst := some 64, op := Op.move (Operand.tmp 14), type := 3, pos := "keeps.go:170", after := #[], guard := none }) (v := .int .i64 (k : Int)) rfl (by kernel_rfl) (by kernel_rfl) (by kernel_rfl) (fun _ _ _ h => h) (Or.inl ⟨by kernel_rfl, fun W hW => by kernel_rfl⟩) hHeld ?_
      simp only [Act.put, List.setIfInBounds_toArray, List.set_cons_zero, List.set_cons_succ]
      refine wpAnyH_take (i := 7) (oi := { dst := some 65, op := Op.move (Operand.tmp 3), type := 3, pos := "keeps.go:170", after := #[], guard := none }) (v := .int .i64 pc) rfl (by kernel_rfl) (by kernel_rfl) (by kernel_rfl) (fun _ _ _ h => h) (Or.inl ⟨by kernel_rfl, fun W hW => by kernel_rfl⟩) hHeld ?_
      simp only [Act.put, List.setIfInBounds_toArray, List.set_cons_zero, List.set_cons_succ]
      refine wpAnyH_take (i := 8) (oi := { dst := some 66, op := Op.move (Operand.tmp 13), type := 9, pos := "keeps.go:170", after := #[], guard := none }) (v := .string L) rfl (by kernel_rfl) (by kernel_rfl) (by kernel_rfl) (fun _ _ _ h => h) (Or.inl ⟨by kernel_rfl, fun W hW => by kernel_rfl⟩) hHeld ?_
      simp only [Act.put, List.setIfInBounds_toArray, List.set_cons_zero, List.set_cons_succ]
      refine wpAnyH_take (i := 9) (oi := { dst := some 67, op := Op.call { callee := Callee.builtin Builtin.len, args := #[Operand.tmp 66], argTypes := #[9] }, type := 3, pos := "keeps.go:170", after := #[{ on := 8, ground := Ground.data }], guard := none }) (v := .int .i64 (L.size : Int)) rfl (by kernel_rfl) (by kernel_rfl) (by kernel_rfl) (fun _ _ _ h => h) (Or.inl ⟨by kernel_rfl, fun W hW => by go_simp⟩) hHeld ?_
      simp only [Act.put, List.setIfInBounds_toArray, List.set_cons_zero, List.set_cons_succ]
      refine wpAnyH_take (i := 10) (oi := { dst := some 68, op := Op.move (Operand.tmp 14), type := 3, pos := "keeps.go:170", after := #[], guard := none }) (v := .int .i64 (k : Int)) rfl (by kernel_rfl) (by kernel_rfl) (by kernel_rfl) (fun _ _ _ h => h) (Or.inl ⟨by kernel_rfl, fun W hW => by kernel_rfl⟩) hHeld ?_
      simp only [Act.put, List.setIfInBounds_toArray, List.set_cons_zero, List.set_cons_succ]
      refine wpAnyH_take (i := 11) (oi := { dst := some 69, op := Op.binOp BinOp.sub 3 (Operand.tmp 67) (Operand.tmp 68) 3, type := 3, pos := "keeps.go:170", after := #[{ on := 9, ground := Ground.data }, { on := 10, ground := Ground.data }], guard := none }) (v := .int .i64 ((L.size : Int) - (k : Int))) rfl (by kernel_rfl) (by kernel_rfl) (by kernel_rfl) (fun _ _ _ h => h) (Or.inl ⟨by kernel_rfl, fun W hW => by simp [execOp, go_sem, hw1]⟩) hHeld ?_
      simp only [Act.put, List.setIfInBounds_toArray, List.set_cons_zero, List.set_cons_succ]
      refine wpAnyH_take (i := 12) (oi := { dst := some 70, op := Op.binOp BinOp.add 3 (Operand.tmp 69) (Operand.const (Value.int IntKind.i64 1)) 3, type := 3, pos := "keeps.go:170", after := #[{ on := 11, ground := Ground.data }], guard := none }) (v := .int .i64 ((L.size : Int) - (k : Int) + 1)) rfl (by kernel_rfl) (by kernel_rfl) (by kernel_rfl) (fun _ _ _ h => h) (Or.inl ⟨by kernel_rfl, fun W hW => by simp [execOp, go_sem, hw2]⟩) hHeld ?_
      simp only [Act.put, List.setIfInBounds_toArray, List.set_cons_zero, List.set_cons_succ]
      refine wpAnyH_ready (rs := [13]) (by kernel_rfl) (by simp) ?_
      refine AllReadyH.cons (o := { dst := some 71, op := Op.call { callee := Callee.value (Operand.func 15), args := #[Operand.tmp 65, Operand.tmp 70], argTypes := #[3, 3] }, type := 3, pos := "keeps.go:170", after := #[{ on := 7, ground := Ground.data }, { on := 12, ground := Ground.data }], guard := none }) rfl (fun K hK => ?_) AllReadyH.nil
      refine ite_wanted ?_ ?_
      · kernel_rfl
      go_simp
      refine (unhide HPC _).mono ?_
      rintro _ _ ⟨rfl, rfl⟩
      show K _ wb.drew
      refine hK.out _ _ (trivial) (fun hHeld13 => ?_)
      clear hK K
      try simp only [Act.put, List.setIfInBounds_toArray, List.set_cons_zero, List.set_cons_succ]
      refine wpAnyH_take (i := 14) (oi := { dst := some 72, op := Op.binOp BinOp.add 3 (Operand.tmp 64) (Operand.tmp 71) 3, type := 3, pos := "keeps.go:170", after := #[{ on := 6, ground := Ground.data }, { on := 13, ground := Ground.data }], guard := none }) (v := .int .i64 ((k : Int) + (c : Int))) rfl (by kernel_rfl) (by kernel_rfl) (by kernel_rfl) (fun _ _ _ h => h) (Or.inl ⟨by kernel_rfl, fun W hW => by simp [execOp, go_sem, hw3]⟩) hHeld13 ?_
      simp only [Act.put, List.setIfInBounds_toArray, List.set_cons_zero, List.set_cons_succ]
      refine wpAnyH_take (i := 15) (oi := { dst := some 73, op := Op.slice 9 (Operand.tmp 63) (some (Operand.tmp 72)) none none, type := 9, pos := "keeps.go:170", after := #[{ on := 5, ground := Ground.data }, { on := 14, ground := Ground.data }], guard := none }) (v := .string X2) rfl (by kernel_rfl) (by kernel_rfl) (by kernel_rfl) (fun _ _ _ h => h) (yieldsIf_from (by kernel_rfl) (.tmp 63) (.tmp 72) rfl (unhide HC2) (by kernel_rfl) (by kernel_rfl)) hHeld13 ?_
      simp only [Act.put, List.setIfInBounds_toArray, List.set_cons_zero, List.set_cons_succ]
      refine wpAnyH_take (i := 16) (oi := { dst := some 74, op := Op.binOp BinOp.add 9 (Operand.tmp 62) (Operand.tmp 73) 9, type := 9, pos := "keeps.go:170", after := #[{ on := 4, ground := Ground.data }, { on := 15, ground := Ground.data }], guard := none }) (v := .string X3) rfl (by kernel_rfl) (by kernel_rfl) (by kernel_rfl) (fun _ _ _ h => h) (Or.inl ⟨by kernel_rfl, fun W hW => by simp [execOp, go_sem, n3, e3]⟩) hHeld13 ?_
      simp only [Act.put, List.setIfInBounds_toArray, List.set_cons_zero, List.set_cons_succ]
      refine wpAnyH_take (i := 17) (oi := { dst := some 15, op := Op.assign (Operand.tmp 74), type := 9, pos := "keeps.go:170", after := #[{ on := 16, ground := Ground.data }, { on := 13, ground := Ground.chain }, { on := 0, ground := Ground.phase }, { on := 1, ground := Ground.phase }, { on := 2, ground := Ground.phase }, { on := 3, ground := Ground.phase }, { on := 4, ground := Ground.phase }, { on := 5, ground := Ground.phase }, { on := 6, ground := Ground.phase }, { on := 7, ground := Ground.phase }, { on := 8, ground := Ground.phase }, { on := 9, ground := Ground.phase }, { on := 10, ground := Ground.phase }, { on := 11, ground := Ground.phase }, { on := 12, ground := Ground.phase }, { on := 13, ground := Ground.phase }, { on := 14, ground := Ground.phase }, { on := 15, ground := Ground.phase }, { on := 16, ground := Ground.phase }], guard := none }) (v := .string X3) rfl (by kernel_rfl) (by kernel_rfl) (by kernel_rfl) (fun _ _ _ h => h) (Or.inl ⟨by kernel_rfl, fun W hW => by kernel_rfl⟩) hHeld13 ?_
      simp only [Act.put, List.setIfInBounds_toArray, List.set_cons_zero, List.set_cons_succ]
      refine wpAnyH_done (by kernel_rfl) ?_ _
      clear n1 n3 e1 e3 HC0 HC2 HPC HPK
      have hTb := (unhide HT).kept (unhide HU2).k0 hz
      have h0b : 0 < wb.heap.size := by have := (unhide HU2).k0.size; omega
      have HTB := hide hTb
      clear hTb
      have HKW := hide (unhide HU2).k0
      have HV9 := hide (show ∀ X : ByteArray, vfyOf (ents X 0).1 (ents X 0).2 (V.cnt : Int) V.last = (verF X (V.cnt : Int) V.last, ((walkF X []).1.length : Int)) from fun X => ver_vfy X _ _)
      have HFC := hide (forged_clash (b := X3) (unhide HVL))
      have hrD : wb.drew.heap[wa.heap.size]? = some (.cells (brow V.last) 29 (0, 0)) := hrb
      have HTD := hide (show Table wb.drew from unhide HTB)
      have HKD := hide (show Kept w.heap.size w wb.drew from (unhide HKW).trans ((Kept.refl _ _).draws 1))
      have h0d : 0 < wb.drew.heap.size := h0b
      clear hrb HTB HKW h0b HRD hw1 hw2 hw3 HU HSL HU2 HKB
      generalize wb.drew = we at *
      go_wp2_with (first | (refine wpList_load_row rfl 29 (.tmp 12) rfl wa.heap.size rfl 29 (brow V.last) (0, 0) _ hrD Tryz.underlying29 rfl hi29 ?_))
      refine (bailey_verify L (V.cnt : Int) V.last we (by omega) hlast (unhide HTD) h0d).mono ?_
      rw [unhide HV9, unhide HVL]
      rintro _ wf ⟨rfl, hkf⟩
      have hrF := (hkf.block _ (Array.getElem?_eq_some_iff.1 hrD).1).trans hrD
      have HTF := hide ((unhide HTD).kept hkf h0d)
      have h0f : 0 < wf.heap.size := by have := hkf.size; omega
      have HKF := hide ((unhide HKD).trans (hkf.mono (unhide HKD).size))
      clear hkf hrD HTD HKD
      generalize ((walkF L []).1.length : Int) = c1
      go_wp2_with (first | (refine wpList_load_row rfl 29 (.tmp 12) rfl wa.heap.size rfl 29 (brow V.last) (0, 0) _ hrF Tryz.underlying29 rfl hi29 ?_))
      refine (bailey_verify X3 (V.cnt : Int) V.last wf z3 hlast (unhide HTF) h0f).mono ?_
      rw [unhide HV9]
      rintro _ wg ⟨rfl, hkg⟩
      have HTG := hide ((unhide HTF).kept hkg h0f)
      have h0g : 0 < wg.heap.size := by have := hkg.size; omega
      have HKG := hide ((unhide HKF).trans (hkg.mono (unhide HKF).size))
      clear hkg hrF HTF HKF
      generalize ((walkF X3 []).1.length : Int) = c2
      generalize verF X3 (V.cnt : Int) V.last = f at HFC ⊢
      go_wp2_with fail
      refine (bailey_clash L X3 wg (by omega) z3 (unhide HTG) h0g).mono ?_
      rintro _ wh ⟨rfl, hkh⟩
      have HTH := hide ((unhide HTG).kept hkh h0g)
      have h0h : 0 < wh.heap.size := by have := hkh.size; omega
      have HKH := hide ((unhide HKG).trans (hkh.mono (unhide HKG).size))
      clear hkh HTG HKG
      have HCS := hide (show (clOf L X3).1.size ≤ 140737488355000 ∧ (clOf L X3).2.1.size ≤ 140737488355000 from by have := clOf_size L X3; omega)
      generalize (clOf L X3).1 = x1 at HFC HCS ⊢
      generalize (clOf L X3).2.1 = x2 at HFC HCS ⊢
      generalize (clOf L X3).2.2 = g at HFC ⊢
      by_cases hbl : X3 = L
      · have hg8 : g = 8 := by
          rcases (unhide HFC).1 (.inl hbl) with h | h
          · exact h
          · exact absurd hbl h.1
        subst hg8
        have hblL : (X3.toList == L.toList) = true := by rw [hbl]; simp
        clear hbl HFC
        go_wp2_with fail
        go_ret
        exact ⟨rfl, unhide HKH⟩
      · have hblL : (X3.toList == L.toList) = false := by
          rw [beq_eq_false_iff_ne]
          exact fun h => hbl (str_inj h)
        by_cases hf0 : f = 0
        · obtain ⟨hg0, hxy, hdg⟩ := (unhide HFC).2 (by rintro (h | h); exact hbl h; exact h hf0)
          subst hf0 hg0
          clear hbl
          have hxyL : (x1.toList == x2.toList) = false := by
            rw [beq_eq_false_iff_ne]
            exact fun h => hxy (str_inj h)
          obtain ⟨G, hG⟩ : ∃ G, G = Sha.digest x1.data.toList := ⟨_, rfl⟩
          have hGl : G.length = 32 := by rw [hG]; exact Sha.digest_length _
          have heq : ∀ W, (Op.equalIn 10000 29 (.agg (brow G)) (.agg (brow G))).run Tryz.prog W = .ok true W := fun W => same_row G hGl W
          have HG := hide (And.intro hG (hG.trans hdg))
          clear hdg hG hxy HFC
          go_wp2_with fail
          refine (bailey_digest x1 wh (unhide HCS).1 (unhide HTH) h0h).mono ?_
          rw [← (unhide HG).1]
          rintro _ wi ⟨rfl, hki⟩
          have HTI := hide ((unhide HTH).kept (.of hki) h0h)
          have h0i : 0 < wi.heap.size := by have := hki.size; omega
          have HKI := hide ((unhide HKH).trans ((Kept.of hki).mono (unhide HKH).size))
          clear hki
          go_wp2_with fail
          refine (bailey_digest x2 wi (unhide HCS).2 (unhide HTI) h0i).mono ?_
          rw [← (unhide HG).2]
          rintro _ wj ⟨rfl, hkj⟩
          have HKJ := hide ((unhide HKI).trans ((Kept.of hkj).mono (unhide HKI).size))
          clear hkj
          go_wp2_with fail
          go_ret
          exact ⟨rfl, unhide HKJ⟩
        · have hfF : (f == 0) = false := beq_eq_false_iff_ne.2 hf0
          rcases (unhide HFC).1 (.inr hf0) with h | ⟨_, hg0, hxy, hdg⟩
          · subst h
            clear hbl HFC hf0
            go_wp2_with fail
            go_ret
            exact ⟨rfl, unhide HKH⟩
          · subst hg0
            clear hbl hf0
            have hxyL : (x1.toList == x2.toList) = false := by
              rw [beq_eq_false_iff_ne]
              exact fun h => hxy (str_inj h)
            obtain ⟨G, hG⟩ : ∃ G, G = Sha.digest x1.data.toList := ⟨_, rfl⟩
            have hGl : G.length = 32 := by rw [hG]; exact Sha.digest_length _
            have heq : ∀ W, (Op.equalIn 10000 29 (.agg (brow G)) (.agg (brow G))).run Tryz.prog W = .ok true W := fun W => same_row G hGl W
            have HG := hide (And.intro hG (hG.trans hdg))
            clear hdg hG hxy HFC
            go_wp2_with fail
            refine (bailey_digest x1 wh (unhide HCS).1 (unhide HTH) h0h).mono ?_
            rw [← (unhide HG).1]
            rintro _ wi ⟨rfl, hki⟩
            have HTI := hide ((unhide HTH).kept (.of hki) h0h)
            have h0i : 0 < wi.heap.size := by have := hki.size; omega
            have HKI := hide ((unhide HKH).trans ((Kept.of hki).mono (unhide HKH).size))
            clear hki
            go_wp2_with fail
            refine (bailey_digest x2 wi (unhide HCS).2 (unhide HTI) h0i).mono ?_
            rw [← (unhide HG).2]
            rintro _ wj ⟨rfl, hkj⟩
            have HKJ := hide ((unhide HKI).trans ((Kept.of hkj).mono (unhide HKI).size))
            clear hkj
            go_wp2_with fail
            go_ret
            exact ⟨rfl, unhide HKJ⟩
end Go.Proofs.YtlbacbcenejngaaGreatDoor
namespace Go.Proofs.YtlbacbcenejngaaGreatDoor
open Go.RowKit
section
variable {w0 : World} {p vp : Nat} {lv : Value} {A : Vlt} {n : Nat} {p2 vp2 : Nat} {lv2 : Value} {C : Vlt} {m : Nat} {w : World}
theorem Duo.stepA (h : Duo w0 p vp lv A n p2 vp2 lv2 C m w) (hn : n + 1 ≤ 4194304) (o : Stq) (c : UInt8) (ho : StqIn w0 o) (hT : Table w0) (hz : 0 < w0.heap.size) :
    Calls Tryz.prog 12 #[.pointer (some ⟨p, 0, none⟩), .agg o.cells, .int .u8 (c.toNat : Int)] w fun e w' => e = .returned (.string (A.saysS o c)) ∧ Duo w0 p vp lv (A.stepS o c) (n + 1) p2 vp2 lv2 C m w' := by
  obtain ⟨g, g2, E, E2, h1, h2, h3, h4, h5, h6⟩ := h
  refine (step_any_go _ w p vp g lv A E n o c h1 h4 (ho.kept h6) h6.size (hT.kept h6 hz) (by have := h6.size; omega)).mono fun e w' he => ?_
  obtain ⟨rfl, g', hs, hc, hf⟩ := he
  obtain ⟨E', hb⟩ := h4.stepS hn o c ho.len
  exact ⟨rfl, Duo.turn h1 h2 h3 h5 h6 hb hs hc hf⟩
theorem Duo.sinkR (h : Duo w0 p vp lv A n p2 vp2 lv2 C m w) (h0 : 0 < A.snks.length) : ∃ b cap, lv = .slice (some ⟨b, 0, none⟩) A.snks.length cap ∧ ∀ i, i < A.snks.length → ∃ q, w.cell? ⟨b, i, none⟩ = some (.pointer (some ⟨q, 0, none⟩)) ∧
    Calls Tryz.prog 13 #[.pointer (some ⟨q, 0, none⟩)] w fun e w' => e = .returned (.string (A.snks.getD i snk0).data) ∧ w' = w := by
  obtain ⟨g, g2, E, E2, h1, _⟩ := h
  exact h1.sinks h0
theorem Duo.bnd (h : Duo w0 p vp lv A n p2 vp2 lv2 C m w) : ∃ E, A.Bnd E n := by
  obtain ⟨g, g2, E, E2, _, _, _, h4, _⟩ := h
  exact ⟨E, h4⟩
end
theorem Lks.small {A C : Vlt} {E F : List ByteArray} (h : Lks A C E F) {E' : List ByteArray} {n : Nat} (hb : A.Bnd E' n) : E.length ≤ 4194304 := by
  have h1 := h.okA.cnt
  have h2 := hb.ok.cnt
  have h3 := hb.le
  omega
/-- What two sinks have. -/
theorem Lks.sinks {A C : Vlt} {E F : List ByteArray} (h : Lks A C E F) {k : Nat} (hk : k < A.snks.length) : ∃ E' F', All2 ELike E' F' ∧ (logOf E').size ≤ (logOf E).size ∧ (A.snks.getD k snk0).data = logOf E' ∧ (C.snks.getD k snk0).data = logOf F' := by
  have hk' : k < C.snks.length := by rw [← h.snk.length]; exact hk
  obtain ⟨_, _, m, _, h1, h2⟩ := h.snk.get k hk hk'
  refine ⟨E.take m, F.take m, h.ents.take m, logOf_size_le E m, ?_, ?_⟩
  · rw [List.getD_eq_getElem?_getD, List.getElem?_eq_getElem hk]; exact h1
  · rw [List.getD_eq_getElem?_getD, List.getElem?_eq_getElem hk']; exact h2
set_option maxRecDepth 100000 in
set_option maxHeartbeats 8000000 in
theorem blind_law (x : Int) (v : Value) (l : List Stq) (cb : UInt8) (w : World) (hx : i64 x) (h : ScrS w v l) (hT : Table w) (hz : 0 < w.heap.size) :
    Calls Tryz.prog 6 #[.int .i64 x, v, .int .u8 (cb.toNat : Int)] w fun e w' => e = .returned (.bool true) ∧ Kept w.heap.size w w' := by
  obtain ⟨av, cv, rfl, hav⟩ := h.val
  have hln := h.len
  have HE := hide h.each
  have HV := hide hav
  have HT := hide hT
  have hq := ptr_neq26
  clear h hav hT
  go_enter Tryz.func6, Tryz.ntmps6
  go_wp2_with fail
  refine (opened_go w.heap.size w x hx (Nat.le_refl _) (unhide HT) hz).mono ?_
  rintro _ w2 ⟨p, vp, g, lv, rfl, hs1, hk1, hf1, hg1⟩
  have HA1 := hide (And.intro hs1 hk1)
  have hz2 := hk1.size
  clear hs1 hk1 hf1 hg1
  go_wp2_with fail
  refine (opened_go w.heap.size w2 x hx hz2 ((unhide HT).kept (unhide HA1).2 hz) (by omega)).mono ?_
  rintro _ w3 ⟨p2, vp2, g2, lv2, rfl, hs2, hk2, hf2, hg2⟩
  have HD := hide (duo_opened (unhide HA1).1 (unhide HA1).2 hs2 hk2 hf2)
  have HLK := hide (like_self (shop0_bnd x).1.ok)
  clear hs2 hk2 hf2 hg2 HA1
  go_wp2_with fail
  go_loopw [9] (fun vi wr => ∃ (i n : Nat) (A C : Vlt) (E F : List ByteArray), i ≤ l.length ∧ vi = .int .i64 i ∧ n ≤ i ∧ Duo w p vp lv A n p2 vp2 lv2 C n wr ∧ Lks A C E F) (fun vi _ => l.length - (intOf vi).toNat)
  case atStart => exact ⟨0, 0, _, _, _, _, Nat.zero_le _, rfl, Nat.le_refl _, unhide HD, unhide HLK⟩
  case round =>
    clear HD HLK
    obtain ⟨i, n, A, C, E, F, hi, rfl, hni, hd, hlk⟩ := hrel
    have HD := hide hd
    have HLK := hide hlk
    clear hd hlk
    obtain ⟨E0, hb0⟩ := (unhide HD).bnd
    have hEl := (unhide HLK).small hb0
    have hs4 := hb0.few
    clear hb0
    by_cases hlt : i < l.length
    · obtain ⟨b, o', rfl, hbw, hrg⟩ := unhide HV (by omega)
      have hiI : (i : Int) < (l.length : Int) := by omega
      have hi0 : (0 : Int) ≤ (i : Int) := by omega
      have HA := hide (unhide HE i hlt)
      have hr0 : w.rangeAt b (o' + i * 6) (l.getD i stq0).cells.toList := hrg i hlt
      clear hrg
      generalize l.getD i stq0 = c at HA hr0
      have hr : wr.rangeAt b (o' + i * 6) c.cells.toList := range_kept hr0 (unhide HD).k0 hbw
      have hc0 : wr.cell? ⟨b, o' + i * 6, none⟩ = some (.int .i64 c.kind) := hr 0 _ rfl
      have hi40 : (Tryz.prog.info? 40).map (·.size) = some c.cells.toList.length := by rw [Array.length_toList]; exact info40
      by_cases h6 : c.kind = 6
      · rw [h6] at hc0
        go_wp2_with fail
        go_roundw
        case rel => exact ⟨i + 1, n, A, C, E, F, by omega, by go_num, by omega, unhide HD, unhide HLK⟩
        case measure => simp [intOf]; omega
      · have h6I : (c.kind == 6) = false := by simpa using h6
        obtain ⟨⟨E2, F2, hlk2⟩, sb, sr, sr', hsa, hsc, hsl⟩ := (unhide HLK).stepS (by omega) c 120 cb
        have HLK2 := hide hlk2
        clear hlk2
        go_wp2_with (refine wpList_load_mid rfl 40 (.tmp 41) rfl b (o' + i * 6) ?_ c.cells.toList _ hr Tryz.underlying40 rfl hi40 ?_
                     · rfl)
        refine ((unhide HD).stepA (by omega) c 120 (unhide HA) (unhide HT) hz).mono ?_
        rintro _ w4 ⟨rfl, hd4⟩
        have HD4 := hide hd4.symm
        clear hd4
        have hr4 : w4.rangeAt b (o' + i * 6) c.cells.toList := range_kept hr0 (unhide HD4).k0 hbw
        clear hr hc0
        go_wp2_with (refine wpList_load_mid rfl 40 (.tmp 47) rfl b (o' + i * 6) ?_ c.cells.toList _ hr4 Tryz.underlying40 rfl hi40 ?_
                     · rfl)
        refine ((unhide HD4).stepA (by omega) c cb (unhide HA) (unhide HT) hz).mono ?_
        rintro _ w5 ⟨rfl, hd5⟩
        have HD5 := hide hd5.symm
        clear hd5 hr4
        rw [hsc]
        have zA : (bs (sb :: sr)).size = sr.length + 1 := bs_size _
        have zC : (bs (sb :: sr')).size = sr.length + 1 := by rw [bs_size, List.length_cons, hsl]
        have pA : 0 < (bs (sb :: sr)).size := by omega
        have pC : 0 < (bs (sb :: sr')).size := by omega
        have gA : (((bs (sb :: sr))[0]'pA).toNat : Int) = (sb.toNat : Int) := rfl
        have gC : (((bs (sb :: sr'))[0]'pC).toNat : Int) = (sb.toNat : Int) := rfl
        generalize bs (sb :: sr) = RA at *
        generalize bs (sb :: sr') = RC at *
        generalize (sb.toNat : Int) = y at gA gC
        have qA : (0 : Int) < (RA.size : Int) := by omega
        have qC : (0 : Int) < (RC.size : Int) := by omega
        have hAC : RC.size = RA.size := by omega
        have hne0 : ((RA.size : Int) == 0) = false := beq_eq_false_iff_ne.2 (by omega)
        have hyy : (y == y) = true := by simp
        clear zA zC
        go_upto_region 11 with fail
        go_quiet (fail)
        go_wp2_with fail
        go_roundw
        case rel => exact ⟨i + 1, n + 1, _, _, E2, F2, by omega, by go_num, by omega, (unhide HD5).kept ⟨rfl, rfl, Nat.le_refl _, fun _ _ => rfl⟩, unhide HLK2⟩
        case measure => simp [intOf]; omega
    · have hiI : ¬ (i : Int) < (l.length : Int) := by omega
      have hs0 : 0 < A.snks.length := by
        obtain ⟨k, hk, _⟩ := (unhide HLK).okA.most
        exact List.length_pos_iff.2 fun e => by rw [e] at hk; cases hk
      have hsl := (unhide HLK).snk.length
      have hlg : (logOf E).size ≤ 140737488355000 := by have h1 := logOf_small (chn_fits (unhide HLK).okA.chn); omega
      obtain ⟨sb, sc, rfl, _⟩ := (unhide HD).sinkR hs0
      obtain ⟨tb, tc, rfl, _⟩ := (unhide HD).symm.sinkR (by omega)
      rw [← hsl] at HD
      have HSL := hide hsl
      clear hsl
      go_wp2_with fail
      go_loopw [12] (fun vk wx => ∃ k : Nat, k ≤ A.snks.length ∧ vk = .int .i64 k ∧ Duo w p vp (.slice (some ⟨sb, 0, none⟩) A.snks.length sc) A n p2 vp2 (.slice (some ⟨tb, 0, none⟩) A.snks.length tc) C n wx) (fun vk _ => A.snks.length - (intOf vk).toNat)
      case atStart => exact ⟨0, Nat.zero_le _, rfl, unhide HD⟩
      case round =>
        clear HD
        obtain ⟨k, hk, rfl, hd⟩ := hrel
        have HF := hide hd
        clear hd
        have hl1 := (unhide HF).l
        have hl2 := (unhide HF).symm.l
        by_cases hkl : k < A.snks.length
        · have hkI : (k : Int) < (A.snks.length : Int) := by omega
          have hk0 : (0 : Int) ≤ (k : Int) := by omega
          obtain ⟨sb', sc', e1, hrd⟩ := (unhide HF).sinkR hs0
          obtain ⟨q, hcq, hread⟩ := hrd k hkl
          obtain rfl : sb = sb' := by injection e1 with e2; injection e2 with e3; injection e3
          obtain ⟨tb', tc', e1', hrd'⟩ := (unhide HF).symm.sinkR (by have := unhide HSL; omega)
          obtain ⟨q', hcq', hread'⟩ := hrd' k (by have := unhide HSL; omega)
          obtain rfl : tb = tb' := by injection e1' with e2; injection e2 with e3; injection e3
          obtain ⟨E', F', hla, hlz, hda, hdc⟩ := (unhide HLK).sinks hkl
          rw [hda] at hread
          rw [hdc] at hread'
          have HRD := hide hread
          have HRD' := hide hread'
          have HSH := hide (fun W => shapes_go E' F' W hla (by omega))
          clear hrd hrd' hread hread' e1 e1' hla hlz hda hdc
          generalize logOf E' = X at *
          generalize logOf F' = Y at *
          go_wp2_with fail
          refine (unhide HRD).mono ?_
          rintro _ wq ⟨rfl, hwq⟩
          obtain rfl : wr = wq := hwq.symm
          clear hwq
          go_wp2_with fail
          refine (unhide HRD').mono ?_
          rintro _ wq ⟨rfl, hwq⟩
          obtain rfl : wr = wq := hwq.symm
          clear hwq
          go_wp2_with fail
          refine (unhide HSH wr).mono ?_
          rintro _ w6 ⟨rfl, hk6⟩
          have HF6 := hide ((unhide HF).kept hk6)
          clear hk6
          go_wp2_with fail
          go_roundw
          case rel => exact ⟨k + 1, by omega, by go_num, unhide HF6⟩
          case measure => simp [intOf]; omega
        · obtain rfl : k = A.snks.length := by omega
          have hkI : ¬ (A.snks.length : Int) < (A.snks.length : Int) := by omega
          have HKE := hide (unhide HF).k0
          go_wp2_with fail
          go_ret
          exact ⟨rfl, unhide HKE⟩
end Go.Proofs.YtlbacbcenejngaaGreatDoor
