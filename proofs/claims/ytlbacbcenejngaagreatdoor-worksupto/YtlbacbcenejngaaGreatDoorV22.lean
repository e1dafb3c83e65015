/-
  Law
-/
import Derived.Test.YtlbacbcenejngaaGreatDoorV21
import Derived.Stop.BytesEq
namespace Go.Proofs.YtlbacbcenejngaaGreatDoor
open Go.RowKit
theorem wpList_load_row_g {P:Program} {ops:Array Oper} {rest:List Oper} {o:Oper} {a:Act} {w:World} {Q:Exit→Act→World→Prop} (hw:Region.wanted o (yielded ops a.tmps)=true) (ty:TypeId) (x:Operand) (ho:o.op=.load ty x)
  (g:Nat) (hx:a.eval x=.pointer (some ⟨g,0,none⟩)) (t:TypeId) (cs:Array Value) (fr:Nat × Nat) (d:TypeDesc) (hg:w.heap[g]?=some (.cells cs t fr))
  (hu:P.underlying ty=some d) (hd:(match d with | .struct _ | .array _ _=>true | _=>false)=true) (hi:(P.info? ty).map (·.size)=some cs.size)
  (h:wpList P ops Q rest (a.put o.dst (.agg cs)) w):wpList P ops Q (o::rest) a w :=
 wpList_step fun K hK=>by
  rw [if_pos hw]
  exact wp_load_row ty x ho g hx t cs fr d hg hu hd hi (hK _ _ h)
theorem size5:∀ w,(sizeOf 5).run Tryz.prog w=.ok 1 w:=fun _=>by kernel_rfl
theorem guard24:Tryz.prog.eqGuardType Tryz.prog.depth 29=false:=by kernel_rfl
theorem same_row (D:List UInt8) (h:D.length=32) (W:World):(Op.equalIn 10000 29 (.agg (brow D)) (.agg (brow D))).run Tryz.prog W=.ok true W:=by
 have:=run_equalIn_bytes (P:=Tryz.prog) W 9998 29 5 32 Tryz.underlying29 Tryz.underlying5 size5 D D h h
 rw [beq_self_eq_true] at this
 exact this
theorem tag_length (k l:List UInt8):(Sha.tag k l).length=32:=Sha.digest_length _
theorem row_info {D:List UInt8} (h:D.length=32):(Tryz.prog.info? 29).map (·.size)=some (brow D).size:=by rw [brow_size,h];exact info29
theorem row_zero {D:List UInt8} (h:D.length=32):(brow (List.replicate 32 0)).size=(brow D).size:=by
 have e1:=brow_size D
 have e2:(brow (List.replicate 32 0)).size=32:=rfl
 omega
end Go.Proofs.YtlbacbcenejngaaGreatDoor
