/-
  Text
-/
import Derived.Test.YtlbacbcenejngaaGreatDoorV13
import Derived.Deep.WholeRow
namespace Go.Proofs.YtlbacbcenejngaaGreatDoor
open Go.RowKit
theorem take_nextB {L:List UInt8} {k:Nat} (h:k<L.length):L.take (k+1)=L.take k++[L.getD k 0]:=by
 rw [List.take_succ_eq_append_getElem h,List.getD_eq_getElem?_getD,List.getElem?_eq_getElem h];rfl
theorem own_byts {w:World} {B:Nat} {v:Value} {n:Nat} {L:List UInt8} (h:w.ownsRow B 5 1 v n (u8s L)) (hn:0<n):∃ g cap,v=.slice (some ⟨g,0,none⟩) n cap∧Byts w g 0 n cap L:=by
 have hl:L.length=n:=by have:=h.1;simpa using this
 rcases h.2 with ⟨_,h0⟩ | ⟨g,cap,cur,hv,hg,hh,hnc,hcm,hcs,ht⟩
 ·omega
 ·refine ⟨g,cap,hv,⟨hnc,fun _=>rfl,fun _=>?_,by simp;omega,fun j u hu=>?_,fun j hj=>?_⟩,hcm⟩
  ·rcases Nat.lt_or_ge g w.heap.size with h | h
   ·exact h
   ·rw [Array.getElem?_eq_none h] at hh;cases hh
  ·have hj:j<n:=by
    have:=(List.getElem?_eq_some_iff.1 hu).1
    simp at this;omega
   have h2:=h
   rw [hv] at h2
   rw [Nat.zero_add,h2.cellAt j (by omega),← hu]
  ·rw [cell_of_row _ _ _ _ _ _ hh,frozen_of_row _ _ _ _ _ hh]
   refine ⟨?_,rfl⟩
   rw [Array.getElem?_eq_getElem (by omega)];rfl
set_option maxRecDepth 100000 in
set_option maxHeartbeats 1000000 in
theorem text_ref (L:List UInt8) (w:World) (hL:L.length=32) :
  Calls Tryz.prog 156 #[.agg (brow L)] w fun e w'=>e=.returned (.string ⟨L.toArray⟩)∧Kept w.heap.size w w':=by
 obtain ⟨i0,hi0,hz0,hz1,hz2⟩:=info_parts info5'
 have HL:=hide hL
 clear hL
 go_enter Tryz.func156,Tryz.ntmps156
 go_wp2
 go_loopw [3,4] (fun v t wr=>∃ k:Nat,k≤32∧t=.int .i64 k∧wr.ownsRow (w.heap.size+1) 5 1 v k (u8s (L.take k))∧wr.heap[w.heap.size]?=some (.cells (brow L) 29 (0,0))∧Below w.heap.size w wr∧w.heap.size+1≤wr.heap.size) (fun _ t _=>32-(intOf t).toNat)
 case atStart=>exact ⟨0,Nat.zero_le _,rfl,World.ownsRow_nil _ _ _ _,heap_alloc_new _ _,(Below.refl _ _).alloc (Nat.le_refl _) _,by simp⟩
 case round =>
  obtain ⟨k,hk,rfl,hown,hc,hbl,hsz⟩:=hrel
  by_cases hlt:k<32
  ·have hcell:wr.cell? ⟨w.heap.size,k,none⟩=some (.int .u8 ((L.getD k 0).toNat:Int)):=(cell_of_row _ _ _ _ _ _ hc).trans (brow_get (by rw [uh HL];exact hlt))
   have HT:=hide (take_nextB (L:=L) (k:=k) (by rw [uh HL];exact hlt))
   generalize L.getD k 0=y at *
   have HC:=hide hc
   clear hc
   go_wp2_with (at_builtin;refine wpList_append_own _ rfl (.tmp 9) (.tmp 13) 58 rfl (w.heap.size+1) 5 i0 (.int .u8 0) 1 1 Tryz.underlying58 hi0 hz0 hz1 hz2 rfl (by decide) _ k (u8s (L.take k)) rfl (hown.alloc _) ⟨wr.heap.size,0,none⟩ 1 1 [.int .u8 (y.toNat:Int)] rfl rfl (cell_one_new _ _ _) ?c2 ?c3 ?c4 ?c5 ?_)
   case c2=>first | rfl | exact mem_one rfl
   case c3=>unfold maxLen;omega
   case c4=>omega
   case c5=>first | omega | (simp;omega)
   intro v' w2 hown' hgrow _
   have hbA:Below (w.heap.size+1) (wr.alloc (.cells #[.int .u8 (y.toNat:Int)] 5)) w2:=grown_below (Below.refl _ _) (hown.alloc _) (Nat.le_refl _) hgrow (by simp;omega)
   have hb2:=hide ((hbl.alloc (by omega) (.cells #[.int .u8 (y.toNat:Int)] 5)).trans (hbA.mono (by omega)))
   have hc2:=hide ((hbA.block w.heap.size (by omega)).trans ((Below.heap_alloc _ _ _ (by omega)).trans (uh HC)))
   have hs2:w.heap.size+1≤w2.heap.size:=by have:=hbA.size;simp at this;omega
   have HO:=hide hown'
   clear hown hown' hgrow hbl hbA
   go_wp2
   go_roundw
   case rel =>
    refine ⟨k+1,by omega,by go_num,?_,uh hc2,uh hb2,hs2⟩
    rw [uh HT]
    simpa [u8s] using uh HO
   case measure=>simp [intOf];omega
  ·obtain rfl:k=32:=by omega
   rw [List.take_of_length_le (by rw [uh HL];exact Nat.le_refl _)] at hown
   obtain ⟨g,cap,hv,hby⟩:=own_byts hown (by decide)
   subst hv
   have hcv:=hby.conv (P:=Tryz.prog) 58 5 9 Tryz.underlying58 Tryz.underlying5 Tryz.underlying9
   clear hown hby hc
   go_wp2
   go_ret
   exact ⟨rfl,.of hbl⟩
end Go.Proofs.YtlbacbcenejngaaGreatDoor
