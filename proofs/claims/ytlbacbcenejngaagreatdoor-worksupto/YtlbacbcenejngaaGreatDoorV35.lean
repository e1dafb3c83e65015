/-
  Cclone
-/
import Derived.Test.YtlbacbcenejngaaGreatDoorV33
import Derived.Lib.UnsafeStr
import Derived.Deep.OwnRows
namespace Go.Proofs.YtlbacbcenejngaaGreatDoor
open Go.RowKit
set_option maxRecDepth 100000 in
set_option maxHeartbeats 2000000 in
theorem clone_lite (s:ByteArray) (w:World) (hs:s.size≤140737488355328):Calls Tryz.prog 95 #[.string s] w fun e w'=>e=.returned (.string s)∧Kept w.heap.size w w':=by
  have hl:=size_toList s
  by_cases h0:s.size=0
  · have he:s=⟨#[]⟩:=by
      apply Go.WideShapes.bytes_inj
      rw [List.length_eq_zero_iff.1 (show s.data.toList.length=0 by omega)]
    subst he
    go_enter Tryz.func95,Tryz.ntmps95
    go_wp2_with fail
    go_ret
    exact ⟨rfl,Kept.refl _ _⟩
  · obtain ⟨i0,hi0,hz0,hz1,hz2⟩:=info_parts info5
    obtain ⟨M,hM⟩:∃ M,M=madeCells #[Value.int .u8 0] s.size:=⟨_,rfl⟩
    have hMs:M.size=s.size:=by rw [hM,size_madeCells];try simp
    obtain ⟨Y,hY⟩:∃ Y,Y=(u8s s.data.toList++M.toList.drop s.size).toArray:=⟨_,rfl⟩
    have hYl:Y.toList=u8s s.data.toList:=by
      rw [hY,List.toList_toArray,List.drop_of_length_le (by rw [Array.length_toList];omega),List.append_nil]
    have hgY:((w.alloc (.cells M 5)).setRow w.heap.size Y).heap[w.heap.size]?=some (.cells Y 5 (0,0)):=setRow_heap _ _ M _ 5 (0,0) (heap_alloc_new w _)
    have hYs:Y.size=s.size:=by rw [← Array.length_toList,hYl];simp [u8s,hl]
    have hUS:=Lib.run_unsafeString_row (P:=Tryz.prog) ((w.alloc (.cells M 5)).setRow w.heap.size Y) 211 3 9 5 Tryz.underlying211 (by kernel_rfl) w.heap.size Y.size (by unfold World.shape?;rw [hgY]) s.data.toList (fun e=>by rw [e] at hl;simp at hl;omega) (by omega) (by omega)
      (fun j x hx=>by
        rw [show (⟨w.heap.size,0,none⟩:Addr).add j=⟨w.heap.size,j,none⟩ from by unfold Addr.add;split <;> simp_all,cell_of_row _ _ _ _ _ _ hgY]
        rw [← Array.getElem?_toList,hYl]
        simp [u8s,hx])
    rw [hl] at hUS
    have HM:=hide hM
    have HY:=hide hY
    clear hM hY hYl hgY
    have hne:¬ (s.size:Int)=0:=by omega
    go_enter Tryz.func95,Tryz.ntmps95
    go_wp2_with (first
      | (refine wpList_make_row _ rfl (.tmp 8) (.tmp 8) 58 rfl 5 i0 (.int .u8 0) Tryz.underlying58 hi0 hz0 hz1 rfl .i64 .i64 s.size ?_ ?_ (by rw [hz2];omega) (by omega) ?_
         · rfl
         · rfl
         rw [← uh HM])
      | (refine wpList_copy_str rfl (.tmp 10) (.tmp 11) 58 9 rfl 5 Tryz.underlying58 (by rw [hi0];simp [hz1]) w.heap.size s.size s.size s ?_ ?_ (Nat.le_refl _) M 5 ?_ (by omega) ?_
         · rfl
         · rfl
         · exact heap_alloc_new _ _
         rw [← uh HY]))
    go_ret
    refine ⟨rfl,.of (Lib.below_freeze (p:=⟨w.heap.size,0,none⟩) ?_ (Nat.le_refl _) _)⟩
    exact ((Below.refl _ w).alloc (Nat.le_refl _) _).trans ⟨rfl,rfl,rfl,by simp,fun k hk=>setRow_other _ _ _ _ (by omega)⟩
set_option maxRecDepth 100000 in
theorem clone_go (s:ByteArray) (w:World) (hs:s.size≤140737488355328):Calls Tryz.prog 63 #[.string s] w fun e w'=>e=.returned (.string s)∧Kept w.heap.size w w':=by
  go_enter Tryz.func63,Tryz.ntmps63
  go_wp2_with fail
  refine (clone_lite s w hs).mono ?_
  rintro _ w1 ⟨rfl,hk⟩
  go_wp2_with fail
  go_ret
  exact ⟨rfl,hk⟩
end Go.Proofs.YtlbacbcenejngaaGreatDoor
