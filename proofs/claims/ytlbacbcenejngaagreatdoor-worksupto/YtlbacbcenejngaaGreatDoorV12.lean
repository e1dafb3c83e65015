/-
  In
-/
import Derived.Test.YtlbacbcenejngaaGreatDoorV09
import Derived.Deep.RegionWith
import Derived.Deep.DeepMust
import Derived.Lib.Strings
namespace Go.Proofs.YtlbacbcenejngaaGreatDoor
open Go.RowKit
open Sha (R)
theorem Table.below {w wr:World} {B:Nat} (h:Table w) (hb:Below B w wr) (hz:0<B):Table wr:=fun k hk=>(hb.cell (p:=⟨0,k,none⟩) hz).trans (h k hk)
theorem undrew {B:Nat} {w w':World} (h:Below B w.drew w'):Below B w w':=⟨h.os,h.tape,h.output,h.size,h.block⟩
theorem st_eq (s:Sha.St):st s=#[.int .u32 s.a,.int .u32 s.b,.int .u32 s.c,.int .u32 s.d,.int .u32 s.e,.int .u32 s.f,.int .u32 s.g,.int .u32 s.h]:=rfl
def strLen:Value→Nat | .string x=>x.size | _=>0
theorem set8 {w2:World} {g:Nat} {t:TypeId} (v0 v1 v2 v3 v4 v5 v6 v7 u0 u1 u2 u3 u4 u5 u6 u7:Value) (h:w2.heap[g]?=some (.cells #[u0,u1,u2,u3,u4,u5,u6,u7] t (0,0))) :
  ((((((((w2.setCell ⟨g,0,none⟩ v0).setCell ⟨g,1,none⟩ v1).setCell ⟨g,2,none⟩ v2).setCell ⟨g,3,none⟩ v3).setCell ⟨g,4,none⟩ v4).setCell ⟨g,5,none⟩ v5).setCell ⟨g,6,none⟩ v6).setCell ⟨g,7,none⟩ v7).heap[g]?=some (.cells #[v0,v1,v2,v3,v4,v5,v6,v7] t (0,0)) :=
 by
 have h0:=heap_setCell_same _ g 0 _ _ v0 h
 have h1:=heap_setCell_same _ g 1 _ _ v1 h0
 have h2:=heap_setCell_same _ g 2 _ _ v2 h1
 have h3:=heap_setCell_same _ g 3 _ _ v3 h2
 have h4:=heap_setCell_same _ g 4 _ _ v4 h3
 have h5:=heap_setCell_same _ g 5 _ _ v5 h4
 have h6:=heap_setCell_same _ g 6 _ _ v6 h5
 have h7:=heap_setCell_same _ g 7 _ _ v7 h6
 rw [h7]
 simp
theorem set8_other {w2:World} {g k:Nat} (v0 v1 v2 v3 v4 v5 v6 v7:Value) (h:k≠g) :
  ((((((((w2.setCell ⟨g,0,none⟩ v0).setCell ⟨g,1,none⟩ v1).setCell ⟨g,2,none⟩ v2).setCell ⟨g,3,none⟩ v3).setCell ⟨g,4,none⟩ v4).setCell ⟨g,5,none⟩ v5).setCell ⟨g,6,none⟩ v6).setCell ⟨g,7,none⟩ v7).heap[k]?=w2.heap[k]?:=by
 rw [heap_setCell_other _ _ _ _ h,heap_setCell_other _ _ _ _ h,heap_setCell_other _ _ _ _ h,heap_setCell_other _ _ _ _ h,heap_setCell_other _ _ _ _ h,heap_setCell_other _ _ _ _ h,heap_setCell_other _ _ _ _ h,heap_setCell_other _ _ _ _ h]
theorem set8_below {a w2:World} {B g:Nat} (v0 v1 v2 v3 v4 v5 v6 v7:Value) (h:Below B a w2) (hg:B≤g) :
  Below B a ((((((((w2.setCell ⟨g,0,none⟩ v0).setCell ⟨g,1,none⟩ v1).setCell ⟨g,2,none⟩ v2).setCell ⟨g,3,none⟩ v3).setCell ⟨g,4,none⟩ v4).setCell ⟨g,5,none⟩ v5).setCell ⟨g,6,none⟩ v6).setCell ⟨g,7,none⟩ v7) :=
 (((((((h.setCell hg _).setCell hg _).setCell hg _).setCell hg _).setCell hg _).setCell hg _).setCell hg _).setCell hg _
theorem next_block {b c:ByteArray} {k:Nat} (h:c.data.toList=b.data.toList.drop (64*k)):(c.extract 64 c.size).data.toList=b.data.toList.drop (64*(k+1)):=by
 rw [Lib.extract_data,List.take_of_length_le (by rw [List.length_drop,Array.length_toList];exact Nat.le_refl _),h,List.drop_drop]
 congr 1
theorem size_toList (b:ByteArray):b.data.toList.length=b.size:=by simp
set_option maxRecDepth 100000 in
set_option maxHeartbeats 1000000 in
theorem in_go (s:Sha.St) (b:ByteArray) (n:Nat) (w:World) (hok:s.Ok) (hb:b.size=64*n) (hn:b.size≤140737488355328) (hT:Table w) (hz:0<w.heap.size) :
  Calls Tryz.prog 69 #[.agg (st s),.string b] w fun e w'=>e=.returned (.agg (st (Sha.fold b.data.toList s n)))∧Below w.heap.size w w':=by
 have HT:=hide hT
 have Hok:=hide hok
 have Hb:=hide hb
 clear hT hok hb
 go_enter Tryz.func69,Tryz.ntmps69
 go_wp2
 go_loopw [1] (fun v wr=>∃ (k:Nat) (c:ByteArray),k≤n∧v=.string c∧c.data.toList=b.data.toList.drop (64*k)∧wr.heap[w.heap.size]?=some (.cells (st (Sha.fold b.data.toList s k)) 134 (0,0))∧wr.heap[w.heap.size+1]?=some (.cells (st ⟨0,0,0,0,0,0,0,0⟩) 134 (0,0)) ∧
   w.heap.size+2≤wr.heap.size∧Below w.heap.size w wr) (fun v _=>strLen v)
 case atStart =>
  exact ⟨0,b,Nat.zero_le _,rfl,rfl,heap_alloc2_old _ _ _,heap_alloc2_new _ _ _,by simp,((Below.refl _ _).alloc (Nat.le_refl _) _).alloc (by simp) _⟩
 case round =>
  obtain ⟨k,c,hk,rfl,hc,c0,c1,hsz,hbl⟩:=hrel
  have hcs:c.size=64*(n-k):=by rw [← size_toList,hc,List.length_drop,size_toList,uh Hb];omega
  have Hc:=hide hc
  clear hc
  have Hcs:=hide hcs
  by_cases hlt:k<n
  ·have h64:(64:Int)≤(c.size:Int):=by omega
   have hcn:(c.size:Int)≤140737488355328:=by have:=uh Hb;omega
   have h0:(c.size:Int)>0:=by omega
   clear hcs
   have hSok:=hide (Sha.fold_ok b.data.toList (uh Hok) k)
   have hSn:=hide (show Sha.fold b.data.toList s (k+1)=Sha.compress (Sha.fold b.data.toList s k) (Sha.block b.data.toList k) from rfl)
   have hex:(c.extract 0 64).size=64:=by rw [← size_toList,Lib.extract_data];simp;omega
   have hblk:=hide (show (c.extract 0 64).data.toList=Sha.block b.data.toList k by rw [Lib.extract_data,uh Hc];rfl)
   have hTr:=hide ((uh HT).below hbl hz)
   generalize Sha.fold b.data.toList s k=S at *
   obtain ⟨sa,sb,sc,sd,se,sf,sg,sh⟩:=S
   have z0:wr.cell? ⟨w.heap.size,0,none⟩=some (.int .u32 sa):=cell_of_row _ _ _ _ _ _ c0
   have z1:wr.cell? ⟨w.heap.size,1,none⟩=some (.int .u32 sb):=cell_of_row _ _ _ _ _ _ c0
   have z2:wr.cell? ⟨w.heap.size,2,none⟩=some (.int .u32 sc):=cell_of_row _ _ _ _ _ _ c0
   have z3:wr.cell? ⟨w.heap.size,3,none⟩=some (.int .u32 sd):=cell_of_row _ _ _ _ _ _ c0
   have z4:wr.cell? ⟨w.heap.size,4,none⟩=some (.int .u32 se):=cell_of_row _ _ _ _ _ _ c0
   have z5:wr.cell? ⟨w.heap.size,5,none⟩=some (.int .u32 sf):=cell_of_row _ _ _ _ _ _ c0
   have z6:wr.cell? ⟨w.heap.size,6,none⟩=some (.int .u32 sg):=cell_of_row _ _ _ _ _ _ c0
   have z7:wr.cell? ⟨w.heap.size,7,none⟩=some (.int .u32 sh):=cell_of_row _ _ _ _ _ _ c0
   have zf:∀ i,wr.frozen? ⟨w.heap.size,i,none⟩=false:=fun i=>frozen_of_row _ _ i _ _ c0
   have C0:=hide c0
   have C1:=hide c1
   have Hl:=hide hbl
   clear c0 c1 hbl
   have hB:w.heap.size<wr.heap.size:=by omega
   go_wp2
   go_region_with (first
    | (go_at_call 100;refine (spread_go _ _ hex).mono ?_;rintro e w1 ⟨rfl,hb1'⟩;have hb1:Below wr.heap.size wr w1:=undrew hb1';clear hb1';have hc1:∀ o,w1.cell? ⟨w.heap.size,o,none⟩=wr.cell? ⟨w.heap.size,o,none⟩:=fun o=>hb1.cell (p:=⟨w.heap.size,o,none⟩) hB;have hs1:=hb1.size;have hT1:=hide ((uh hTr).below hb1 (show 0<wr.heap.size from by omega)))
    | (go_at_call 99;go_must (refine (one_go ⟨sa,sb,sc,sd,se,sf,sg,sh⟩ _ _ (uh hSok) (Sha.sched_length _ _) (Sha.sched_all _ _) ?_ ?_).mono ?_;exact uh hT1;omega;rintro e w2 ⟨rfl,hb2⟩;have hc2:∀ o,w2.cell? ⟨w.heap.size,o,none⟩=wr.cell? ⟨w.heap.size,o,none⟩:=fun o=>(hb2.cell (p:=⟨w.heap.size,o,none⟩) (Nat.lt_of_lt_of_le hB hs1)).trans (hc1 o);have hf2:∀ o,w2.frozen? ⟨w.heap.size,o,none⟩=false:=fun o=>((hb2.frozen (p:=⟨w.heap.size,o,none⟩) (Nat.lt_of_lt_of_le hB hs1)).trans (hb1.frozen (p:=⟨w.heap.size,o,none⟩) hB)).trans (zf o);have hs2:=hb2.size;rw [st_eq (Sha.sum _ _)])))
   all_goals
    go_wp2
    go_roundw
    case rel =>
     refine ⟨k+1,_,by omega,rfl,?_,?_,?_,?_,?_⟩
     ·exact next_block (uh Hc)
     ·rw [uh hSn,← uh hblk,show (c.extract 0 64).data.toList=List.take 64 c.data.toList by rw [Lib.extract_data];rfl]
      exact set8 _ _ _ _ _ _ _ _ _ _ _ _ _ _ _ _ ((hb2.block _ (by omega)).trans ((hb1.block _ hB).trans (uh C0)))
     ·exact (set8_other _ _ _ _ _ _ _ _ (by omega)).trans ((hb2.block _ (by omega)).trans ((hb1.block _ (by omega)).trans (uh C1)))
     ·simp;omega
     ·exact set8_below _ _ _ _ _ _ _ _ (((uh Hl).trans (hb1.mono (by omega))).trans (hb2.mono (by omega))) (Nat.le_refl _)
    case measure=>simp [strLen];omega
  ·obtain rfl:k=n:=by omega
   have hz0:(c.size:Int)≤0:=by omega
   generalize hL:st (Sha.fold b.data.toList s k)=L at *
   have HL:=hide hL
   have sz:L.size=8:=by rw [← hL];rfl
   have on:L.all (·.oneCell')=true:=by rw [← hL];exact st_one _
   have hi:(Tryz.prog.info? 134).map (·.size)=some L.size:=by rw [sz];exact info134
   have ho:(st ⟨0,0,0,0,0,0,0,0⟩).size=L.size:=by rw [sz];rfl
   clear hL hcs
   go_wp2_with (refine wpList_load_row rfl 134 _ rfl w.heap.size rfl 134 L (0,0) _ c0 Tryz.underlying134 rfl hi ?_;refine wpList_store_row rfl 134 _ _ rfl (w.heap.size+1) L rfl rfl 134 _ c1 hi ho on ?_)
   refine bodyPost_ret (v:=.agg L) (results_cell_row Tryz.results69 _ _ (w.heap.size+1) 134 L (0,0) _ rfl (setRow_heap _ _ _ _ _ _ c1) Tryz.underlying134 rfl hi) rfl ⟨by rw [← uh HL],?_⟩
   exact hbl.trans ⟨rfl,rfl,rfl,by simp,fun k hk=>setRow_other _ _ _ _ (by omega)⟩
end Go.Proofs.YtlbacbcenejngaaGreatDoor
