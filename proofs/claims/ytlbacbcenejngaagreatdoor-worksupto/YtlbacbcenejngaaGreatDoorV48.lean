/-
  Aq
-/
import Derived.Test.YtlbacbcenejngaaGreatDoorV43
import Derived.Test.YtlbacbcenejngaaGreatDoorRows
import Derived.Test.YtlbacbcenejngaaGreatDoorCards
import Derived.Test.YtlbacbcenejngaaGreatDoorTie
import Derived.ChangeSlices
import Derived.ProofKit
import Derived.LaidMore
import Derived.OpenShut
import Derived.Stop.Joined
import Derived.SizedLaws
import Derived.SevenTiedAt
import Derived.Lib.LaidTab
import Derived.Deep.DeepHandedRow
import Derived.Deep.DeepWitnessRowRef
import Derived.JoinedCond
import Derived.SliceStrings
import Derived.Carry
import Derived.WideKeyArgs
namespace Go.Proofs.YtlbacbcenejngaaGreatDoor
open Go.ChangeShapes Go.WideShapes Go.ChangeAt Go.WideMaps Go.WideElems Go.RowKit
theorem bulk_one {H:Type} (d:DataW H):1≤Rows.uptoBulk d:=by
 cases d with
 | lit l=>cases l <;> simp [Rows.uptoBulk]
 | nil=>simp [Rows.uptoBulk]
 | ptr d=>simp [Rows.uptoBulk]
 | slice elems spare=>simp [Rows.uptoBulk]
 | agg parts=>simp [Rows.uptoBulk]
 | iface t d=>simp [Rows.uptoBulk]
 | map entries=>simp [Rows.uptoBulk]
 | held h=>simp [Rows.uptoBulk]
theorem bulk_part {H:Type} {d:DataW H}:∀ {l:List (DataW H)},d∈l→Rows.uptoBulk d≤Rows.uptoBulkAll l
 | x::r,h=>by
  simp only [Rows.uptoBulkAll]
  rcases List.mem_cons.1 h with rfl | h
  ·omega
  ·have:=bulk_part h;omega
theorem bulk_len {H:Type}:∀ l:List (DataW H),l.length≤Rows.uptoBulkAll l
 | []=>by simp [Rows.uptoBulkAll]
 | x::r=>by have:=bulk_one x;have:=bulk_len r;simp only [Rows.uptoBulkAll,List.length_cons];omega
theorem list_of6 {α:Type} {d:α} {Φ:Nat→α→Prop} {n:Nat} (h:∀ i,i<n→∃ x,Φ i x):∃ l:List α,l.length=n∧∀ i,i<n→Φ i (l.getD i d):=by
 refine ⟨(List.range n).map fun i=>if hi:i<n then Classical.choose (h i hi) else d,by simp,fun i hi=>?_⟩
 rw [List.getD_eq_getElem?_getD,List.getElem?_map,List.getElem?_range hi]
 simp only [Option.map_some,dif_pos hi,Option.getD_some]
 exact Classical.choose_spec (h i hi)
theorem acell3:Tryz.prog.cellsOf 3=1:=by kernel_rfl
theorem acell9:Tryz.prog.cellsOf 9=1:=by kernel_rfl
theorem acell38:Tryz.prog.cellsOf 38=1:=by kernel_rfl
theorem wf_i64 {n:Int} (h:(Lit.int .i64 n).wf=true):i64 n:=by
 have:-9223372036854775808≤n∧n≤9223372036854775807:=by simpa [Lit.wf,IntKind.min,IntKind.max,IntKind.signed,IntKind.bits] using h
 exact this
theorem ownKnobs:ownKnob Tryz.prog.godebug=none:=by kernel_rfl
def laidOne:List (String × DataW Unit):=[("bailey/digest.rounds", Rows.laid_bailey_digest_rounds)]
theorem gRounds:Tryz.prog.globalNamed "bailey/digest.rounds" = some 0:=by kernel_rfl
theorem tRounds:(Tryz.prog.globals[0]?).map (·.type)=some 185:=by kernel_rfl
theorem cells133:Tryz.prog.cellsOf 133=1:=by kernel_rfl
theorem cells185:Tryz.prog.cellsOf 185=64:=by kernel_rfl
theorem table_of {W:World} (h:laidMetH Tryz.prog laidOne W):Table W∧0<W.heap.size:=by
 rw [MakeChecks.laidMetH_plain _ _ _ (by kernel_rfl)] at h
 have h2:laidMet Tryz.prog [("bailey/digest.rounds", Lib.tabData .u32 Sha.K)] W:=h
 have hT:=Lib.tabIs_of_head gRounds tRounds Tryz.underlying185 Tryz.underlying133 cells133 cells185 h2
 have hc:Table W:=fun k hk=>hT.cell gRounds k hk
 exact ⟨hc,World.block_lt_of_cell? _ _ (hc 0 (by decide))⟩
theorem tryz_laid:laidOutB Tryz.prog=true:=by kernel_rfl
theorem Kept.same {W w':World} (h:Kept W.heap.size W w') {p:MemPlace} (hp:p.block<W.heap.size):W.sameAt w' p:=by
 cases p with
 | cell b o=>exact World.cell?_of_block (w:=W) (h.block b hp)
 | map b=>exact h.block b hp
theorem Kept.trodAll {H:Type} {enc:TypeId × Value→H} {W W':World} (hk:Kept W.heap.size W W'):∀ {ts:List TypeId} {vs:List Value} {ds:List (DataW H)} {ps:List MemPlace},(∀ t∈ts,Tryz.prog.readableRec t=true∧t<Tryz.prog.types.size) →
  DataW.TrodAll enc Tryz.prog W 0 (fun _=>true) true ts vs ds ps→(∀ x∈ps,x.block<W.heap.size)→DataW.TrodAll enc Tryz.prog W' 0 (fun b=>decide (b<W.heap.size)) true ts vs ds ps
 | [],[],[],_,_,h,_=>h
 | t::ts,v::vs,d::ds,ps,hr,h,hlt=>by
  obtain ⟨p,q,h1,h2,rfl⟩:=h
  have hp:=hr t (by simp)
  exact ⟨p,q,Trod_stays tryz_laid hp.1 hp.2 h1 (fun x hx=>hk.same (hlt x (by simp [hx]))) (fun x hx=>by simpa using hlt x (by simp [hx])),Kept.trodAll hk (fun t ht=>hr t (by simp [ht])) h2 (fun x hx=>hlt x (by simp [hx])),rfl⟩
 | [],_::_,_,_,_,h,_=>by simp [DataW.TrodAll] at h
 | [],[],_::_,_,_,h,_=>by simp [DataW.TrodAll] at h
 | _::_,[],_,_,_,h,_=>by simp [DataW.TrodAll] at h
 | _::_,_::_,[],_,_,h,_=>by simp [DataW.TrodAll] at h
end Go.Proofs.YtlbacbcenejngaaGreatDoor
