/-
  Proves Rproof Plaw
-/
import Derived.Test.YtlbacbcenejngaaGreatDoorV24
import Derived.Stop.BytesEq
import Derived.Test.YtlbacbcenejngaaGreatDoorV21
namespace Go.Proofs.YtlbacbcenejngaaGreatDoor
open Go.RowKit
theorem size_5:∀ w,(sizeOf 5).run Tryz.prog w=.ok 1 w:=fun _=>by kernel_rfl
theorem guard_29:Tryz.prog.eqGuardType Tryz.prog.depth 29=false:=by kernel_rfl
theorem eq_row (C D:List UInt8) (hC:C.length=32) (hD:D.length=32) (W:World):(Op.equalIn 10000 29 (.agg (brow C)) (.agg (brow D))).run Tryz.prog W=.ok (C==D) W :=
 run_equalIn_bytes (P:=Tryz.prog) W 9998 29 5 32 Tryz.underlying29 Tryz.underlying5 size_5 C D hC hD
end Go.Proofs.YtlbacbcenejngaaGreatDoor
namespace Go.Proofs.YtlbacbcenejngaaGreatDoor
open Go.RowKit
theorem own_kept {w w':World} {B:Nat} {e:TypeId} {z:Nat} {v:Value} {n:Nat} {xs:List Value} (h:w.ownsRow B e z v n xs) (hb:Kept w.heap.size w w'):w'.ownsRow B e z v n xs:=by
 obtain ⟨h1,h2⟩:=h
 refine ⟨h1,?_⟩
 rcases h2 with h | ⟨g,cap,cur,hv,hg,hh,r⟩
 ·exact Or.inl h
 ·refine Or.inr ⟨g,cap,cur,hv,hg,?_,r⟩
  rw [hb.block g (Array.getElem?_eq_some_iff.1 hh).1];exact hh
theorem own_grownk {B:Nat} {a w w':World} {e:TypeId} {z:Nat} {v:Value} {n:Nat} {xs:List Value} (h:Kept B a w) (ho:w.ownsRow B e z v n xs) (hg:w.grownBy w' v.ownBlock) (hs:B≤w.heap.size):Kept B a w':=by
 refine h.trans ⟨hg.os,hg.output,hg.size,fun k hk=>hg.block k (by omega) fun e=>?_⟩
 rcases ho.2 with ⟨rfl,_⟩ | ⟨g,cap,cur,rfl,hg2,_⟩
 ·simp [Value.ownBlock] at e
 ·simp [Value.ownBlock] at e;omega
end Go.Proofs.YtlbacbcenejngaaGreatDoor
namespace Go.Proofs.YtlbacbcenejngaaGreatDoor
open Go.RowKit
theorem own_slice {w:World} {B:Nat} {e:TypeId} {z:Nat} {v:Value} {n:Nat} {xs:List Value} (h:w.ownsRow B e z v n xs) (hn:0<n):∃ g cap,v=.slice (some ⟨g,0,none⟩) n cap:=by
 rcases h.2 with ⟨_,h0⟩ | ⟨g,cap,_,hv,_⟩
 ·omega
 ·exact ⟨g,cap,hv⟩
end Go.Proofs.YtlbacbcenejngaaGreatDoor
