/-
  backHashes.
-/
import Derived.Test.YtfodibjlldmnpaaDoorLenth
namespace Go.Proofs.YtfodibjlldmnpaaDoor
open Go.RowKit

/-- The list after i rounds. -/
abbrev hbackTo (p : List (List UInt8)) (i : Nat) : List (List UInt8) := List.replicate i nine ++ (p.drop i ++ [seven])
theorem hbackTo_len {p : List (List UInt8)} {i : Nat} (hi : i ≤ p.length) : (hbackTo p i).length = p.length + 1 := by simp [hbackTo]; omega
theorem hbackTo_get {p : List (List UInt8)} {i : Nat} (hi : i < p.length) : (hbackTo p i).getD i [] = p.getD i [] := by
  rw [List.getD_eq_getElem?_getD, List.getD_eq_getElem?_getD, hbackTo, List.getElem?_append_right (by simp), List.getElem?_append_left (by simp; omega)]
  simp
theorem hbackTo_set {p : List (List UInt8)} {i : Nat} (hi : i < p.length) : (hbackTo p i).set i nine = hbackTo p (i + 1) := by
  rw [hbackTo, List.set_append_right _ _ (by simp), List.length_replicate, Nat.sub_self, hbackTo, List.replicate_succ', List.append_assoc]
  congr 1
  rw [List.drop_eq_getElem_cons hi]
  rfl
theorem hbackTo_all {p : List (List UInt8)} (hp : ∀ d ∈ p, d.length = 32) (i : Nat) : ∀ d ∈ hbackTo p i, d.length = 32 := by
  intro d hd
  rcases List.mem_append.1 hd with h | h
  · rw [List.eq_of_mem_replicate h]; rfl
  · rcases List.mem_append.1 h with h | h
    · exact hp d (List.mem_of_mem_drop h)
    · rw [List.mem_singleton.1 h]; rfl
/-- A digest stored into such a row. -/
theorem flat_store {w : World} {g i : Nat} {q : List (List UInt8)} {d : List UInt8} {t : TypeId} (hg : w.heap[g]? = some (.cells (flat q).toArray t (0, 0))) (hq : ∀ x ∈ q, x.length = 32) (hi : i < q.length) (hd : d.length = 32) :
    (w.setCells g (i * 32) (brow d).toList).heap[g]? = some (.cells (flat (q.set i d)).toArray t (0, 0)) ∧ Other g w (w.setCells g (i * 32) (brow d).toList) := by
  have hfl := flat_length hq
  have hbl : (brow d).toList = blist d := by simp [brow]
  have hst := setCells_at hg (i * 32) (blist d) (by simp only [List.size_toArray, hfl, List.length_map, hd]; omega) (blist_one d)
  rw [hbl, hst]
  refine ⟨?_, ⟨rfl, rfl, by simp, fun k _ hk => setRow_other _ _ k _ (fun e => hk e)⟩⟩
  rw [setRow_heap _ _ _ _ _ _ hg]
  congr 3
  rw [← flat_set hd i q hq hi]
  simp [hd]

theorem build9 : ∀ W, (Instr.build 24 #[(0, Value.int .u8 9)]).run Tryd.prog W = .ok (.agg (brow nine)) W := fun _ => by kernel_rfl

set_option maxRecDepth 100000 in
set_option maxHeartbeats 2000000 in
theorem backHashes_go (p : List (List UInt8)) (a : Option Addr) (n cap g : Nat) (w : World) (hl : p.length = n) (hp : ∀ d ∈ p, d.length = 32) (hn : n ≤ 140737488355328) (hg : w.heap[g]? = some (.cells (flat (p ++ [seven])).toArray 24 (0, 0)))
    (hS : 0 < n → ∃ b o, a = some ⟨b, o, none⟩ ∧ Hshs w b o p ∧ b ≠ g) :
    Calls Tryd.prog 26 #[.slice (some ⟨g, 0, none⟩) (n + 1) (n + 1), .slice a n cap] w fun e w' => e = .returned (.bool true) ∧ Other g w w' := by
  have hg0 : w.heap[g]? = some (.cells (flat (hbackTo p 0)).toArray 24 (0, 0)) := by simpa [hbackTo] using hg
  have hr0 := flat_range hg0 (hbackTo_all hp 0) (i := n) (d := seven) (by rw [hbackTo_len (by omega)]; omega) (by simp [hbackTo, List.getD_eq_getElem?_getD, hl])
  have hnI : (n : Int) < (n : Int) + 1 := by omega
  have hi7 : (Tryd.prog.info? 24).map (·.size) = some (blist seven).length := info24s
  have heq7 : ∀ W, (Op.equalIn 10000 24 (.agg (blist seven).toArray) (.agg #[.int .u8 7, .int .u8 7, .int .u8 0, .int .u8 0, .int .u8 0, .int .u8 0, .int .u8 0, .int .u8 0, .int .u8 0, .int .u8 0, .int .u8 0, .int .u8 0, .int .u8 0, .int .u8 0, .int .u8 0, .int .u8 0, .int .u8 0, .int .u8 0, .int .u8 0, .int .u8 0, .int .u8 0, .int .u8 0, .int .u8 0, .int .u8 0, .int .u8 0, .int .u8 0, .int .u8 0, .int .u8 0, .int .u8 0, .int .u8 0, .int .u8 0, .int .u8 0])).run Tryd.prog W = .ok true W := fun W => by
    have := eq_row seven seven rfl rfl W
    rw [beq_self_eq_true] at this
    exact this
  have hg24 := guard_24
  have HS := hide hS
  have HG := hide hg0
  clear hS hg hg0
  go_enter Tryd.func26, Tryd.ntmps26
  go_wp2_with (refine wpList_load_mid rfl 24 _ rfl g (n * 32) rfl (blist seven) _ hr0 Tryd.underlying24 rfl hi7 ?_)
  clear heq7 hr0 hi7
  go_loopw [5, 6] (fun vo vi wr => ∃ i : Nat, i ≤ n ∧ vo = .bool true ∧ vi = .int .i64 i ∧ wr.heap[g]? = some (.cells (flat (hbackTo p i)).toArray 24 (0, 0)) ∧ Other g w wr) (fun _ vi _ => n - (intOf vi).toNat)
  case atStart =>
    exact ⟨0, Nat.zero_le _, rfl, rfl, unhide HG, ⟨rfl, rfl, Nat.le_refl _, fun _ _ _ => rfl⟩⟩
  case round =>
    obtain ⟨i, hi, rfl, rfl, hc, ho⟩ := hrel
    have hth : wr.there g (i * 32) (brow nine).size := there_at hc (i * 32) _ (by show i * 32 + 32 ≤ _; rw [List.size_toArray, flat_length (hbackTo_all hp i), hbackTo_len (by omega)]; omega)
    have hb9 := build9
    have hi9 : (Tryd.prog.info? 24).map (·.size) = some (brow nine).size := info24s
    have HF := hide (flat_store hc (hbackTo_all hp i) (i := i) (d := nine) (by rw [hbackTo_len (by omega)]; omega) rfl)
    by_cases hlt : i < n
    · obtain ⟨b, o, rfl, hs, hne⟩ := unhide HS (by omega)
      obtain ⟨B, hB⟩ : ∃ B, B = p.getD i [] := ⟨_, rfl⟩
      have hBl : B.length = 32 := by rw [hB]; exact hs.get (by omega)
      have hr1 := flat_range hc (hbackTo_all hp i) (i := i) (d := B) (by rw [hbackTo_len (by omega)]; omega) (by rw [hbackTo_get (by omega), hB])
      have hr2 : wr.rangeAt b (o + i * 32) (blist B) := by
        have := (Hshs.two hs (i := i) (by omega) hB).2
        intro j v hv
        rw [World.cell?_of_block (w := w) (ho.block b hs.lt hne)]
        exact this j v hv
      have hltI : (i : Int) < (n : Int) := by omega
      have hltJ : (i : Int) < (n : Int) + 1 := by omega
      have hi24 : (Tryd.prog.info? 24).map (·.size) = some (blist B).length := by have := rinfo hBl; rwa [brow_size, ← List.length_map (f := fun c : UInt8 => Value.int .u8 (c.toNat : Int))] at this
      have heq : ∀ W, (Op.equalIn 10000 24 (.agg (blist B).toArray) (.agg (blist B).toArray)).run Tryd.prog W = .ok true W := fun W => by
        have := eq_row B B hBl hBl W
        rw [beq_self_eq_true] at this
        exact this
      have HO := hide ho
      have HC := hide hc
      have HL := hide (hbackTo_set (p := p) (i := i) (by omega))
      clear hc ho hs hB
      go_wp2_with fail
      refine wp_region_quiet_lit (by kernel_rfl) (by kernel_rfl) ?_
      repeat (first
        | go_big_quiet_skip
        | (go_big_quiet_want; (first | (refine quiet_load_mid 24 _ rfl g _ rfl (blist B) _ (range_drewN hr1) Tryd.underlying24 rfl hi24 ?_; simp only [Act.put, List.setIfInBounds_toArray, List.set_cons_zero, List.set_cons_succ]) | (refine quiet_load_mid 24 _ rfl b _ rfl (blist B) _ (range_drewN hr2) Tryd.underlying24 rfl hi24 ?_; simp only [Act.put, List.setIfInBounds_toArray, List.set_cons_zero, List.set_cons_succ]) | go_big_quiet_op); go_big_quiet_on))
      refine wpQuiet_nil ?_
      rintro _ ⟨nq, rfl⟩
      have hth2 : (wr.drewN nq).there g (i * 32) (brow nine).size := hth
      go_wp2_with (refine wpList_store_mid rfl 24 (.tmp 35) (.tmp 34) rfl g (i * 32) (brow nine) ?h1 ?h2 ?h3 hi9 (brow_one _) ?h6)
      case h1 => rfl
      case h2 => rfl
      case h3 => exact hth2
      go_roundw
      case rel =>
        have h2 := flat_store (w := wr.drewN nq) (unhide HC) (hbackTo_all hp i) (i := i) (d := nine) (by rw [hbackTo_len (by omega)]; omega) rfl
        rw [unhide HL] at h2
        have h1 := unhide HO
        refine ⟨i + 1, by omega, rfl, by go_num, h2.1, ?_⟩
        exact ⟨h2.2.os.trans h1.os, h2.2.output.trans h1.output, Nat.le_trans h1.size h2.2.size, fun k hk hkg => (h2.2.block k (Nat.lt_of_lt_of_le hk h1.size) hkg).trans (h1.block k hk hkg)⟩
      case measure => simp [intOf]; omega
    · obtain rfl : i = n := by omega
      have HO := hide ho
      clear hc ho
      go_wp2_with (refine wpList_store_mid rfl 24 (.tmp 40) (.tmp 39) rfl g (i * 32) (brow nine) ?k1 ?k2 ?k3 hi9 (brow_one _) ?k6)
      case k1 => rfl
      case k2 => rfl
      case k3 => exact hth
      go_ret
      have h2 := (unhide HF).2
      have h1 := unhide HO
      exact ⟨rfl, ⟨h2.os.trans h1.os, h2.output.trans h1.output, Nat.le_trans h1.size h2.size, fun k hk hkg => (h2.block k (Nat.lt_of_lt_of_le hk h1.size) hkg).trans (h1.block k hk hkg)⟩⟩

end Go.Proofs.YtfodibjlldmnpaaDoor
