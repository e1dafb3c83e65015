/-
  Mask
-/
import Derived.Test.YtlbacbcenejngaaGreatDoorV11
import Derived.Laws.CopyRow
import Derived.Lib.BufferWrite
namespace Go.Proofs.YtlbacbcenejngaaGreatDoor
open Go.RowKit
theorem wpList_copy_str {P:Program} {w:World} {ops:Array Oper} {rest:List Oper} {o:Oper} {a:Act} {Q:Exit→Act→World→Prop} (hgd:o.guard=none) (d s:Operand) (dT sT:TypeId)
  (ho:o.op=.call { callee:=.builtin .copy,args:=#[d,s],argTypes:=#[dT,sT] }) (elem:TypeId) (hu:P.underlying dT=some (.slice elem)) (hsz:(P.info? elem).map (·.size)=some 1)
  (g dLen dCap:Nat) (key:ByteArray) (hd:a.eval d=.slice (some ⟨g,0,none⟩) dLen dCap) (hs:a.eval s=.string key) (hle:key.size≤dLen)
  (cur:Array Value) (t:TypeId) (hg:w.heap[g]?=some (.cells cur t (0,0))) (hfit:key.size≤cur.size)
  (h:wpList P ops Q rest (a.put o.dst (goInt key.size)) (w.setRow g (u8s key.data.toList++cur.toList.drop key.size).toArray)):wpList P ops Q (o::rest) a w:=by
 refine wpList_plain hgd fun K hK=>?_
 have hrun:(Builtin.copy_ #[dT,sT] o.type #[.slice (some ⟨g,0,none⟩) dLen dCap,.string key]).run P w=.ok (goInt key.size) (w.setRow g (u8s key.data.toList++cur.toList.drop key.size).toArray):=by
  have:=Lib.run_copy_row_string (P:=P) w dT sT o.type elem g 0 dLen dCap key cur t hu hsz hg hle (by omega)
  simp only [List.take_zero,List.nil_append,Nat.zero_add] at this
  exact this
 unfold Oper.wp
 simp [execOp,ho,resolve,invoke,builtin,hd,hs,hrun,Result.andThen]
 exact hK _ _ h
def maskTo (k:List UInt8) (m:UInt8) (n:Nat):List UInt8:=(List.range 64).map fun i=>if i<n then (k.getD i 0) ^^^ m else k.getD i 0
theorem maskTo_length (k:List UInt8) (m:UInt8) (n:Nat):(maskTo k m n).length=64:=by simp [maskTo]
theorem maskTo_get (k:List UInt8) (m:UInt8) {n:Nat} (h:n<64):(maskTo k m n).getD n 0=k.getD n 0:=by simp [maskTo,h]
theorem maskTo_end (k:List UInt8) (m:UInt8):maskTo k m 64=Sha.mask k m:=by
 apply List.map_congr_left
 intro j hj
 rw [if_pos (by simpa using hj)]
theorem maskTo_zero (k:List UInt8) (m:UInt8) (h:k.length≤64):maskTo k m 0=k++List.replicate (64-k.length) 0:=by
 apply List.ext_getElem
 ·simp [maskTo];omega
 ·intro i h1 h2
  simp only [maskTo,List.getElem_map,List.getElem_range]
  rw [if_neg (by omega)]
  by_cases hi:i<k.length
  ·rw [List.getElem_append_left hi,List.getD_eq_getElem?_getD,List.getElem?_eq_getElem hi];rfl
  ·rw [List.getElem_append_right (by omega),List.getD_eq_getElem?_getD,List.getElem?_eq_none (by omega)];simp
theorem maskTo_set (k:List UInt8) (m:UInt8) {n:Nat} (h:n<64):(maskTo k m n).set n (k.getD n 0 ^^^ m)=maskTo k m (n+1):=by
 apply List.ext_getElem?
 intro j
 simp only [maskTo,List.getElem?_set,List.getElem?_map,List.length_map,List.length_range]
 by_cases hj:n=j
 ·subst hj;simp [h]
 ·rw [if_neg hj]
  by_cases h8:j<64
  ·simp only [List.getElem?_range h8,Option.map_some]
   by_cases h1:j<n
   ·rw [if_pos h1,if_pos (by omega)]
   ·rw [if_neg h1,if_neg (by omega)]
  ·simp [h8]
theorem xor_u8 (a b:UInt8):bits .xor .u8 (a.toNat:Int) (b.toNat:Int)=((a ^^^ b).toNat:Int):=by
 have h1:(BitVec.ofInt 8 (a.toNat:Int)).toNat=a.toNat:=by rw [BitVec.toNat_ofInt];have:=a.toNat_lt;omega
 have h2:(BitVec.ofInt 8 (b.toNat:Int)).toNat=b.toNat:=by rw [BitVec.toNat_ofInt];have:=b.toNat_lt;omega
 show IntKind.u8.wrap ((BitVec.ofInt 8 (a.toNat:Int) ^^^ BitVec.ofInt 8 (b.toNat:Int)).toNat:Int)=_
 rw [BitVec.toNat_xor,h1,h2,← UInt8.toNat_xor]
 have h3:=(a ^^^ b).toNat_lt
 have h4:IntKind.u8.wrap (((a ^^^ b).toNat:Nat):Int)=(((a ^^^ b).toNat:Nat):Int) % 256:=by simp only [IntKind.wrap,IntKind.bits,IntKind.signed];rfl
 rw [h4];omega
theorem start_row (key:ByteArray) (m:UInt8) (hk:key.size≤64):(u8s key.data.toList++List.drop key.size (brow (List.replicate 64 0)).toList).toArray=brow (maskTo key.data.toList m 0):=by
 rw [maskTo_zero _ _ (by simpa using hk)]
 unfold brow
 rw [List.map_append,List.map_replicate,List.map_replicate,List.drop_replicate,Array.length_toList]
 rfl
theorem info5s:(Tryz.prog.info? 5).map (·.size)=some 1:=by kernel_rfl
set_option maxRecDepth 100000 in
set_option maxHeartbeats 1000000 in
theorem masked_go (key:ByteArray) (m:UInt8) (w:World) (hk:key.size≤64) :
  Calls Tryz.prog 111 #[.string key,.int .u8 (m.toNat:Int)] w fun e w'=>e=.returned (.string ⟨(Sha.mask key.data.toList m).toArray⟩)∧Below w.heap.size w w':=by
 go_enter Tryz.func111,Tryz.ntmps111
 go_wp2_with (refine wpList_copy_str rfl (.tmp 7) (.tmp 8) 58 9 rfl 5 Tryz.underlying58 info5s w.heap.size 64 64 key rfl rfl hk (brow (List.replicate 64 0)) 220 (heap_alloc_new _ _) (by rw [brow_size];simpa using hk) ?_)
 go_loopw [10] (fun t wr=>∃ k:Nat,k≤64∧t=.int .i64 k∧wr.heap[w.heap.size]?=some (.cells (brow (maskTo key.data.toList m k)) 220 (0,0))∧Below w.heap.size w wr) (fun t _=>64-(intOf t).toNat)
 case atStart =>
  refine ⟨0,Nat.zero_le _,rfl,?_,?_⟩
  ·exact (setRow_heap _ _ _ _ _ _ (heap_alloc_new _ _)).trans (congrArg (fun c=>some (Obj.cells c 220 (0,0))) (start_row key m hk))
  ·exact ((Below.refl _ _).alloc (Nat.le_refl _) _).trans ⟨rfl,rfl,rfl,by simp,fun k hk=>setRow_other _ _ _ _ (by omega)⟩
 case round =>
  obtain ⟨k,hk64,rfl,hc,hbl⟩:=hrel
  by_cases hlt:k<64
  ·have hcw:wr.cell? ⟨w.heap.size,k,none⟩=some (.int .u8 ((key.data.toList.getD k 0).toNat:Int)):=by
    rw [cell_of_row _ _ _ _ _ _ hc,brow_get (by rw [maskTo_length];exact hlt),maskTo_get _ _ hlt]
   have hfw:=frozen_of_row _ _ k _ _ hc
   have hms:=hide (maskTo_set key.data.toList m hlt)
   have hx:=hide (xor_u8 (key.data.toList.getD k 0) m)
   generalize key.data.toList.getD k 0=y at *
   have HC:=hide hc
   have HB:=hide hbl
   clear hc hbl
   go_wp2
   go_roundw
   case rel =>
    refine ⟨k+1,by omega,by go_num,?_,(uh HB).setCell (Nat.le_refl _) _⟩
    rw [heap_setCell_same _ _ _ _ _ _ (uh HC),brow_set (uh hx),uh hms]
   case measure=>simp [intOf];omega
  ·obtain rfl:k=64:=by omega
   rw [maskTo_end] at hc
   have hcv:=conv_brow (P:=Tryz.prog) hc 58 5 9 Tryz.underlying58 Tryz.underlying5 Tryz.underlying9 64 64 (Sha.mask_length _ _).symm
   clear hc
   go_wp2
   go_ret
   exact ⟨rfl,hbl⟩
theorem masked_go' (key:ByteArray) (m:UInt8) (i:Int) (hi:i=(m.toNat:Int)) (w:World) (hk:key.size≤64) :
  Calls Tryz.prog 111 #[.string key,.int .u8 i] w fun e w'=>e=.returned (.string ⟨(Sha.mask key.data.toList m).toArray⟩)∧Below w.heap.size w w':=by
 subst hi;exact masked_go key m w hk
end Go.Proofs.YtlbacbcenejngaaGreatDoor
