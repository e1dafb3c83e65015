/-
  Ar
-/
import Derived.Test.YtlbacbcenejngaaGreatDoorH35
import Derived.ChangeMaps5
namespace Go.Proofs.YtlbacbcenejngaaGreatDoor
open Go.ChangeShapes Go.WideShapes Go.ChangeAt Go.WideMaps Go.WideElems Go.RowKit
set_option maxRecDepth 100000 in
theorem str_in {H : Type} {enc : TypeId × Value → H} {W : World} {base : Nat} {v : Value} {d : DataW H} {ps : List MemPlace} (h : DataW.Trod enc Tryz.prog W 0 (fun _ => true) true 9 v d ps) (hv : Value.okWide Tryz.prog W .any base 9 v) (hb : Rows.uptoBulk d ≤ 1048576) : ∃ s, v = .string s ∧ s.size ≤ 1048576 := by
  obtain ⟨s, rfl, rfl, _, _⟩ := Go.ChangeMaps.open_string Tryz.underlying9 hv h
  refine ⟨s, rfl, ?_⟩
  simp only [Rows.uptoBulk] at hb
  rw [Array.length_toList] at hb
  have e : s.data.size = s.size := rfl
  omega
theorem wf_u8 {n : Int} (h : (Lit.int .u8 n).wf = true) : 0 ≤ n ∧ n ≤ 255 := by
  have : 0 ≤ n ∧ n ≤ 255 := by simpa [Lit.wf, IntKind.min, IntKind.max, IntKind.signed, IntKind.bits] using h
  exact this
set_option maxRecDepth 100000 in
theorem byte_in {H : Type} {enc : TypeId × Value → H} {W : World} {base : Nat} {v : Value} {d : DataW H} {ps : List MemPlace} (h : DataW.Trod enc Tryz.prog W 0 (fun _ => true) true 5 v d ps) (hv : Value.okWide Tryz.prog W .any base 5 v) : ∃ c : UInt8, v = .int .u8 (c.toNat : Int) := by
  obtain ⟨n, e, _, _, hw⟩ := open_int Tryz.underlying5 hv h
  obtain ⟨h1, h2⟩ := wf_u8 hw
  refine ⟨UInt8.ofNat n.toNat, ?_⟩
  rw [e]
  refine congrArg (Value.int .u8) ?_
  simp
  omega
end Go.Proofs.YtlbacbcenejngaaGreatDoor
