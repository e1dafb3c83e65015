/-
  Chash Centry
-/
import Derived.Test.YtlbacbcenejngaaGreatDoorV02
import Derived.Test.YtlbacbcenejngaaGreatDoorV27
namespace Go.Proofs.YtlbacbcenejngaaGreatDoor
open Go.RowKit
abbrev zerosC:List UInt8:=List.replicate 32 0
theorem step_copy_str {P:Program} {ops:Array Oper} {o:Oper} {a:Act} {w:World} {K:Act→World→Prop} {Q:Exit→Act→World→Prop} {E:Prop} (hgd:o.guard=none) (d s:Operand) (dT sT:TypeId)
    (ho:o.op=.call { callee:=.builtin .copy,args:=#[d,s],argTypes:=#[dT,sT] }) (elem:TypeId) (hu:P.underlying dT=some (.slice elem)) (hsz:(P.info? elem).map (·.size)=some 1)
    (g dLen dCap:Nat) (key:ByteArray) (hd:a.eval d=.slice (some ⟨g,0,none⟩) dLen dCap) (hs:a.eval s=.string key) (hle:key.size≤dLen)
    (cur:Array Value) (t:TypeId) (hg:w.heap[g]?=some (.cells cur t (0,0))) (hfit:key.size≤cur.size)
    (h:∀ w',w'.heap[g]?=some (.cells (u8s key.data.toList++cur.toList.drop key.size).toArray t (0,0))→Other g w w'→K (a.put o.dst (goInt key.size)) w') :
    if Region.wanted o (yielded ops a.tmps)=true then Oper.wp P o a w K Q else E:=by
  have hw:Region.wanted o (yielded ops a.tmps)=true:=by simp [Region.wanted,hgd]
  rw [if_pos hw]
  have hrun:(Builtin.copy_ #[dT,sT] o.type #[.slice (some ⟨g,0,none⟩) dLen dCap,.string key]).run P w=.ok (goInt key.size) (w.setRow g (u8s key.data.toList++cur.toList.drop key.size).toArray):=by
    have:=Lib.run_copy_row_string (P:=P) w dT sT o.type elem g 0 dLen dCap key cur t hu hsz hg hle (by omega)
    simp only [List.take_zero,List.nil_append,Nat.zero_add] at this
    exact this
  unfold Oper.wp
  simp [execOp,ho,resolve,invoke,builtin,hd,hs,hrun,Result.andThen]
  exact h _ (setRow_heap _ _ _ _ _ _ hg) ⟨rfl,rfl,by simp,fun k _ hk=>setRow_other _ _ k _ hk⟩
set_option maxRecDepth 100000 in
set_option maxHeartbeats 1000000 in
theorem hash_yes (g:Nat) (s:ByteArray) (w:World) (hr:Rd w g s) (hn:32≤s.size) (hs:s.size≤140737488355328) :
    Calls Tryz.prog 162 #[.pointer (some ⟨g,0,none⟩)] w fun e w'=>e=.returned (.agg (brow (s.data.toList.take 32)))∧Rd w' g (s.extract 32 s.size)∧Other g w w':=by
  have hgl:g<w.heap.size:=(Array.getElem?_eq_some_iff.1 hr).1
  obtain ⟨x,hx⟩:∃ x,x=s.extract 0 32:=⟨_,rfl⟩
  have hx32:x.size=32:=by rw [hx,ByteArray.size_extract];omega
  have hxl:x.data.toList=s.data.toList.take 32:=by rw [hx,ext_list,List.drop_zero]
  obtain ⟨D,hD⟩:∃ D,D=s.data.toList.take 32:=⟨_,rfl⟩
  have hDl:D.length=32:=by rw [hD,← hxl,size_toList,hx32]
  have HX:=hide (And.intro hx (hxl.trans hD.symm))
  have hr2:Rd ((w.alloc (.cells (brow zerosC) 29)).alloc (.cells (brow zerosC) 29)).drew g s:=by
    show ((w.alloc (.cells (brow zerosC) 29)).alloc (.cells (brow zerosC) 29)).heap[g]?=_
    rw [Below.heap_alloc _ _ _ (by simp;omega),Below.heap_alloc _ _ _ hgl];exact hr
  have HR:=hide hr2
  rw [← hD]
  clear hr hr2 hx hxl hD
  go_enter Tryz.func162,Tryz.ntmps162
  go_wp2_with fail
  go_region_held3 (fun _=>True) (trivial) (first
    | (go_at_call 129;go_must (refine (bytes_yes g 32 s _ (uh HR) hn hs).mono ?_;rintro e w1 ⟨rfl,hr1,ho1⟩;rw [← (uh HX).1];have HR1:=hide (And.intro hr1 ho1);clear hr1 ho1))
    | (refine step_copy_str rfl (.tmp 4) (.tmp 6) 58 9 rfl 5 Tryz.underlying58 info5s (w.heap.size+1) 32 32 x ?_ ?_ (by omega) (brow zerosC) 29 ?_ ?_ ?_
       · rfl
       · rfl
       · have:=(uh HR1).2.block (w.heap.size+1) (by simp) (by omega)
         rw [this]
         have h2:=heap_alloc_new (w.alloc (.cells (brow zerosC) 29)) (.cells (brow zerosC) 29)
         have h3:((w.alloc (.cells (brow zerosC) 29)).alloc (.cells (brow zerosC) 29)).heap[w.heap.size+1]?=some (.cells (brow zerosC) 29 (0,0)):=by simpa using h2
         exact h3
       · rw [brow_size,hx32];decide
       intro w2 hw2 ho2
       have HW2:=hide (And.intro hw2 ho2)
       clear hw2 ho2))
  have hrow:(u8s x.data.toList++(brow zerosC).toList.drop x.size).toArray=brow D:=by
    rw [hx32,(uh HX).2]
    simp [brow,zerosC]
  have hB:w2.heap[w.heap.size+1]?=some (.cells (brow D) 29 (0,0)):=by rw [← hrow];exact (uh HW2).1
  have hA:w2.heap[w.heap.size]?=some (.cells (brow zerosC) 29 (0,0)):=by
    rw [(uh HW2).2.block _ (by have:=(uh HR1).2.size;simp at this;omega) (by omega),(uh HR1).2.block _ (by simp;omega) (by omega)]
    show ((w.alloc (.cells (brow zerosC) 29)).alloc (.cells (brow zerosC) 29)).heap[w.heap.size]?=_
    rw [Below.heap_alloc _ _ _ (by simp)]
    exact heap_alloc_new _ _
  have hrd:Rd w2 g (s.extract 32 s.size):=((uh HW2).2.block _ (Array.getElem?_eq_some_iff.1 (uh HR1).1).1 (by omega)).trans (uh HR1).1
  have hot:Other g w w2:=by
    have h1:=(uh HR1).2
    have h2:=(uh HW2).2
    have hs1:=h1.size
    simp at hs1
    refine ⟨h2.os.trans h1.os,h2.output.trans h1.output,by have:=h2.size;omega,fun k hk hkg=>(h2.block k (by omega) (by omega)).trans ((h1.block k (by simp;omega) hkg).trans ?_)⟩
    show ((w.alloc (.cells (brow zerosC) 29)).alloc (.cells (brow zerosC) 29)).heap[k]?=_
    rw [Below.heap_alloc _ _ _ (by simp;omega),Below.heap_alloc _ _ _ hk]
  have HBA:=hide (And.intro hB (And.intro hA (And.intro hrd hot)))
  clear hB hA hrd hot hrow HR HR1 HW2
  go_wp2_with (first
    | (refine wpList_load_row rfl 29 (.tmp 3) rfl (w.heap.size+1) ?_ 29 (brow D) (0,0) _ ?_ Tryz.underlying29 rfl (rinfo hDl) ?_;· rfl
       · exact (uh HBA).1)
    | (refine wpList_store_put rfl 29 (.tmp 2) (.tmp 8) rfl w.heap.size (brow D) ?_ ?_ 29 (brow zerosC) ?_ (rinfo hDl) ?_ (brow_one _) ?_
       · rfl
       · rfl
       · exact (uh HBA).2.1
       · rw [brow_size,brow_size,hDl];rfl
       intro w3 hp3))
  have HP3:=hide hp3
  clear hp3
  have h3:=uh HP3
  have hot:=(uh HBA).2.2.2
  refine bodyPost_ret (v:=.agg (brow D)) (results_cell_row Tryz.results162 _ _ w.heap.size 29 _ (0,0) _ rfl h3.row Tryz.underlying29 rfl (rinfo hDl)) rfl ⟨rfl,(h3.other g (by omega)).trans (uh HBA).2.2.1,?_⟩
  exact ⟨h3.os.trans hot.os,h3.output.trans hot.output,by rw [h3.size];exact hot.size,fun k hk hkg=>(h3.other k (by omega)).trans (hot.block k hk hkg)⟩
set_option maxRecDepth 100000 in
set_option maxHeartbeats 1000000 in
theorem hash_no (g:Nat) (s:ByteArray) (w:World) (hr:Rd w g s) (hn:s.size<32) :
    Calls Tryz.prog 162 #[.pointer (some ⟨g,0,none⟩)] w fun e w'=>e=.panicked oops∧Other g w w':=by
  have hgl:g<w.heap.size:=(Array.getElem?_eq_some_iff.1 hr).1
  have hr2:Rd ((w.alloc (.cells (brow zerosC) 29)).alloc (.cells (brow zerosC) 29)).drew g s:=by
    show ((w.alloc (.cells (brow zerosC) 29)).alloc (.cells (brow zerosC) 29)).heap[g]?=_
    rw [Below.heap_alloc _ _ _ (by simp;omega),Below.heap_alloc _ _ _ hgl];exact hr
  have HR:=hide hr2
  clear hr hr2
  go_enter Tryz.func162,Tryz.ntmps162
  go_wp2_with fail
  have hout:∀ w1,Other g ((w.alloc (.cells (brow zerosC) 29)).alloc (.cells (brow zerosC) 29)).drew w1→Other g w w1:=fun w1 h1=>by
    have hs1:=h1.size
    simp at hs1
    refine ⟨h1.os,h1.output,by omega,fun k hk hkg=>(h1.block k (by simp;omega) hkg).trans ?_⟩
    show ((w.alloc (.cells (brow zerosC) 29)).alloc (.cells (brow zerosC) 29)).heap[k]?=_
    rw [Below.heap_alloc _ _ _ (by simp;omega),Below.heap_alloc _ _ _ hk]
  have HOUT:=hide hout
  clear hout
  refine wp_region_held_drew (S:=fun _=>True) (by kernel_rfl) trivial (fun hHeld=>?_)
  refine tkL 2 [(0,some 4,.slice (some ⟨w.heap.size+1,0,none⟩) 32 32),(1,some 5,.pointer (some ⟨g,0,none⟩))] (by kernel_rfl) (fun _ _ _ _ _ h=>h) (fun _ _=>by kernel_rfl) hHeld ?_
  simp only [zz0,zz1,zz2,zz4,zz5]
  refine rd1 2 (some 6) (.call { callee:=.value (.func 129),args:=#[.tmp 5,.const (.int .i64 32)],argTypes:=#[187,3] }) 9 (by kernel_rfl) (fun K hK=>?_)
  clear hK
  go_simp
  refine (bytes_no g 32 s _ (uh HR) hn (by omega) (by omega)).mono ?_
  rintro e w1 ⟨rfl,ho1⟩
  have ho2:=uh HOUT w1 ho1
  go_wp2_with fail
  exact ⟨rfl,rfl,ho2⟩
end Go.Proofs.YtlbacbcenejngaaGreatDoor
namespace Go.Proofs.YtlbacbcenejngaaGreatDoor
open Go.RowKit
abbrev lf (e:ByteArray) (j:Nat):ByteArray:=e.extract j e.size
theorem lf_size (e:ByteArray) (j:Nat):(lf e j).size=e.size-j:=by rw [ByteArray.size_extract];omega
theorem lf_zero (e:ByteArray):lf e 0=e:=ByteArray.extract_zero_size
theorem lf_next (e:ByteArray) (j k:Nat):(lf e j).extract k (lf e j).size=lf e (j+k):=by
  apply Go.WideShapes.bytes_inj
  rw [lf_size,ext_list,ext_list,ext_list,List.drop_take,List.drop_drop,List.take_take]
  congr 1
  omega
theorem lf_at (e:ByteArray) {j:Nat} (h:j<e.size):Sha.at8 (lf e j).data.toList 0=Sha.at8 e.data.toList j:=by
  rw [ext_list,Sha.at8,Sha.at8,List.getD_eq_getElem?_getD,List.getD_eq_getElem?_getD,List.getElem?_take,if_pos (by omega),List.getElem?_drop,Nat.add_zero]
theorem lf_cut (e:ByteArray) {j a b:Nat} (h:j+b≤e.size):(lf e j).extract a b=e.extract (j+a) (j+b):=by
  apply Go.WideShapes.bytes_inj
  rw [ext_list,ext_list,ext_list,List.drop_take,List.drop_drop,List.take_take]
  congr 1
  omega
theorem lf_num (e:ByteArray) {j k:Nat} (h:j+k≤e.size):(lf e j).data.toList.take k=(e.extract j (j+k)).data.toList:=by
  rw [ext_list,ext_list,List.take_take]
  congr 1
  omega
def linkOf (D:List UInt8) (p:Nat):Array Value:=(blist D++[Value.int .u64 (p:Int)]).toArray
abbrev link0:Array Value:=(blist (List.replicate 32 0)++[Value.int .u64 0]).toArray
theorem linkOf_size {D:List UInt8} (h:D.length=32) (p:Nat):(linkOf D p).size=33:=by simp [linkOf,h]
theorem info179:(Tryz.prog.info? 179).map (·.size)=some 33:=by kernel_rfl
theorem linkOf_one (D:List UInt8) (p:Nat):(linkOf D p).all (·.oneCell')=true:=by
  refine all_oneCell_toArray ?_
  intro v hv
  rcases List.mem_append.1 hv with h | h
  · exact blist_one D v h
  · rw [List.mem_singleton.1 h];rfl
theorem fold33 {D:List UInt8} (h:D.length=32) (p:Nat):(Array.foldl (fun cs (x:Value × Nat)=>cs.setIfInBounds x.snd x.fst) #[Value.int IntKind.u8 0,Value.int IntKind.u8 0,Value.int IntKind.u8 0,Value.int IntKind.u8 0,Value.int IntKind.u8 0,Value.int IntKind.u8 0,Value.int IntKind.u8 0,Value.int IntKind.u8 0,Value.int IntKind.u8 0,Value.int IntKind.u8 0,Value.int IntKind.u8 0,Value.int IntKind.u8 0,Value.int IntKind.u8 0,Value.int IntKind.u8 0,Value.int IntKind.u8 0,Value.int IntKind.u8 0,Value.int IntKind.u8 0,Value.int IntKind.u8 0,Value.int IntKind.u8 0,Value.int IntKind.u8 0,Value.int IntKind.u8 0,Value.int IntKind.u8 0,Value.int IntKind.u8 0,Value.int IntKind.u8 0,Value.int IntKind.u8 0,Value.int IntKind.u8 0,Value.int IntKind.u8 0,Value.int IntKind.u8 0,Value.int IntKind.u8 0,Value.int IntKind.u8 0,Value.int IntKind.u8 0,Value.int IntKind.u8 0,Value.int IntKind.u64 0] (brow D).zipIdx 0 32).setIfInBounds 32 (Value.int IntKind.u64 (p:Int))=linkOf D p:=by
  have h2:(brow D).zipIdx.size=32:=by rw [Array.size_zipIdx,brow_size,h]
  have h3:(brow D).zipIdx.toList=(blist D).zipIdx 0:=by rw [Array.toList_zipIdx];rfl
  have hf:=fold_off 0 (blist D) 0 #[Value.int IntKind.u8 0,Value.int IntKind.u8 0,Value.int IntKind.u8 0,Value.int IntKind.u8 0,Value.int IntKind.u8 0,Value.int IntKind.u8 0,Value.int IntKind.u8 0,Value.int IntKind.u8 0,Value.int IntKind.u8 0,Value.int IntKind.u8 0,Value.int IntKind.u8 0,Value.int IntKind.u8 0,Value.int IntKind.u8 0,Value.int IntKind.u8 0,Value.int IntKind.u8 0,Value.int IntKind.u8 0,Value.int IntKind.u8 0,Value.int IntKind.u8 0,Value.int IntKind.u8 0,Value.int IntKind.u8 0,Value.int IntKind.u8 0,Value.int IntKind.u8 0,Value.int IntKind.u8 0,Value.int IntKind.u8 0,Value.int IntKind.u8 0,Value.int IntKind.u8 0,Value.int IntKind.u8 0,Value.int IntKind.u8 0,Value.int IntKind.u8 0,Value.int IntKind.u8 0,Value.int IntKind.u8 0,Value.int IntKind.u8 0,Value.int IntKind.u64 0] (by simp [h])
  simp only [Nat.zero_add] at hf
  conv=>lhs;rw [← h2]
  rw [← Array.foldl_toList,h3,hf]
  have hl:(blist D).length=32:=by simp [h]
  rw [hl]
  apply Array.ext'
  simp only [linkOf,Array.toList_setIfInBounds,List.take_zero,List.nil_append,List.drop_succ_cons,List.drop_zero]
  rw [List.set_append_right _ _ (by omega),hl,h2]
  rfl
theorem fold33s {D:List UInt8} (h:D.length=32):(Array.foldl (fun cs (x:Value × Nat)=>cs.setIfInBounds x.snd x.fst) #[Value.int IntKind.u8 0,Value.int IntKind.u8 0,Value.int IntKind.u8 0,Value.int IntKind.u8 0,Value.int IntKind.u8 0,Value.int IntKind.u8 0,Value.int IntKind.u8 0,Value.int IntKind.u8 0,Value.int IntKind.u8 0,Value.int IntKind.u8 0,Value.int IntKind.u8 0,Value.int IntKind.u8 0,Value.int IntKind.u8 0,Value.int IntKind.u8 0,Value.int IntKind.u8 0,Value.int IntKind.u8 0,Value.int IntKind.u8 0,Value.int IntKind.u8 0,Value.int IntKind.u8 0,Value.int IntKind.u8 0,Value.int IntKind.u8 0,Value.int IntKind.u8 0,Value.int IntKind.u8 0,Value.int IntKind.u8 0,Value.int IntKind.u8 0,Value.int IntKind.u8 0,Value.int IntKind.u8 0,Value.int IntKind.u8 0,Value.int IntKind.u8 0,Value.int IntKind.u8 0,Value.int IntKind.u8 0,Value.int IntKind.u8 0,Value.int IntKind.u64 0] (brow D).zipIdx 0 32).size=33:=by
  have h2:(brow D).zipIdx.size=32:=by rw [Array.size_zipIdx,brow_size,h]
  have h3:(brow D).zipIdx.toList=(blist D).zipIdx 0:=by rw [Array.toList_zipIdx];rfl
  have hf:=fold_off 0 (blist D) 0 #[Value.int IntKind.u8 0,Value.int IntKind.u8 0,Value.int IntKind.u8 0,Value.int IntKind.u8 0,Value.int IntKind.u8 0,Value.int IntKind.u8 0,Value.int IntKind.u8 0,Value.int IntKind.u8 0,Value.int IntKind.u8 0,Value.int IntKind.u8 0,Value.int IntKind.u8 0,Value.int IntKind.u8 0,Value.int IntKind.u8 0,Value.int IntKind.u8 0,Value.int IntKind.u8 0,Value.int IntKind.u8 0,Value.int IntKind.u8 0,Value.int IntKind.u8 0,Value.int IntKind.u8 0,Value.int IntKind.u8 0,Value.int IntKind.u8 0,Value.int IntKind.u8 0,Value.int IntKind.u8 0,Value.int IntKind.u8 0,Value.int IntKind.u8 0,Value.int IntKind.u8 0,Value.int IntKind.u8 0,Value.int IntKind.u8 0,Value.int IntKind.u8 0,Value.int IntKind.u8 0,Value.int IntKind.u8 0,Value.int IntKind.u8 0,Value.int IntKind.u64 0] (by simp [h])
  simp only [Nat.zero_add] at hf
  conv=>lhs;rw [← h2]
  rw [← Array.foldl_toList,h3,hf]
  simp [h]
structure Re (w:World) (e:ByteArray) (j:Nat) (wx:World):Prop where
  rd:Rd wx (w.heap.size+1) (lf e j)
  a:wx.heap[w.heap.size]?=some (.cells link0 179 (0,0))
  kept:Kept w.heap.size w wx
theorem Re.next {w:World} {e:ByteArray} {j j':Nat} {wx wy:World} (h:Re w e j wx) (hr:Rd wy (w.heap.size+1) (lf e j')) (ho:Other (w.heap.size+1) wx wy):Re w e j' wy :=
  ⟨hr,(ho.block _ (Array.getElem?_eq_some_iff.1 h.a).1 (by omega)).trans h.a,h.kept.trans ⟨ho.os,ho.output,ho.size,fun k hk=>ho.block k (Nat.lt_of_lt_of_le hk h.kept.size) (by omega)⟩⟩
theorem Re.out {w:World} {e:ByteArray} {j:Nat} {wx wy:World} (h:Re w e j wx) (ho:Other (w.heap.size+1) wx wy):Kept w.heap.size w wy :=
  h.kept.trans ⟨ho.os,ho.output,ho.size,fun k hk=>ho.block k (Nat.lt_of_lt_of_le hk h.kept.size) (by omega)⟩
def entEnd (e:ByteArray) (w:World) (x:Ending) (w':World):Prop :=
  (fitsB e=true→x=.returned (.agg (linkOf (e.data.toList.take 32) (numOf (e.extract 32 36).data.toList))))∧(fitsB e=false→x=.panicked oops)∧Kept w.heap.size w w'
theorem ent_no {e:ByteArray} {w w':World} (hf:fitsB e=false) (hk:Kept w.heap.size w w'):entEnd e w (.panicked oops) w':=⟨fun h=>absurd (hf.symm.trans h) (by simp),fun _=>rfl,hk⟩
theorem fits_no {e:ByteArray} {k:Nat} (hk:k=(e.data.toList.getD 69 0).toNat) (h:e.size<70∨e.size≠135+k):fitsB e=false:=by
  rw [fitsB,← hk]
  rcases h with h | h
  · rw [decide_eq_false (show ¬ 70≤e.size by omega)];rfl
  · rw [decide_eq_false h];simp
set_option maxRecDepth 100000 in
set_option maxHeartbeats 4000000 in
theorem readEntry_go (e:ByteArray) (w:World) (hs:e.size≤140737488355328):Calls Tryz.prog 131 #[.string e] w (entEnd e w):=by
  obtain ⟨k,hk⟩:∃ k,k=(e.data.toList.getD 69 0).toNat:=⟨_,rfl⟩
  have hk2:k<256:=by rw [hk];exact (e.data.toList.getD 69 0).toNat_lt
  have HNO:=hide (fun (h:e.size<70∨e.size≠135+k)=>fits_no hk h)
  have HK:=hide hk
  clear hk
  go_enter Tryz.func131,Tryz.ntmps131
  go_wp2_with fail
  refine (new_go e _).mono ?_
  rintro _ w0 ⟨rfl,rfl⟩
  have HE0:=hide (show Re w e 0 ((w.alloc (.cells link0 179)).alloc (.cells #[.string e] 218)) from ⟨by
      have:=heap_alloc_new (w.alloc (.cells link0 179)) (.cells #[.string e] 218)
      rw [lf_zero]
      unfold Rd
      simpa using this,(Below.heap_alloc _ _ _ (by simp)).trans (heap_alloc_new _ _),((Kept.refl _ _).alloc (Nat.le_refl _) _).alloc (by simp) _⟩)
  go_wp2_with fail
  by_cases hc1:e.size<32
  · have hf:=uh HNO (Or.inl (by omega))
    refine (hash_no (w.heap.size+1) (lf e 0) _ (uh HE0).rd (by have:=lf_size e 0;omega)).mono ?_
    rintro _ wz ⟨rfl,hoz⟩
    have HOZ:=hide (ent_no hf ((uh HE0).out hoz))
    clear hoz
    go_wp2_with fail
    exact ⟨rfl,uh HOZ⟩
  refine (hash_yes (w.heap.size+1) (lf e 0) _ (uh HE0).rd (by have:=lf_size e 0;omega) (by have:=lf_size e 0;omega)).mono ?_
  rintro _ w1 ⟨rfl,hr1,ho1⟩
  rw [lf_next] at hr1
  rw [show (lf e 0).data.toList.take 32=e.data.toList.take 32 by rw [lf_zero]]
  obtain ⟨D,hD⟩:∃ D,D=e.data.toList.take 32:=⟨_,rfl⟩
  have hDl:D.length=32:=by have:=size_toList e;rw [hD,List.length_take];omega
  rw [← hD]
  have HD:=hide hD
  have HE1:=hide (show Re w e 32 w1 from (uh HE0).next hr1 ho1)
  clear hr1 ho1 hD
  go_wp2_with (refine wpList_store_put rfl 29 (.tmp 4) (.tmp 10) rfl w1.heap.size (brow D) ?_ ?_ 29 (brow zerosC) ?_ (rinfo hDl) ?_ (brow_one _) ?_
               · rfl
               · rfl
               · exact heap_alloc_new _ _
               · rw [brow_size,brow_size,hDl];rfl
               intro w2 hp2)
  have hz1:=(Array.getElem?_eq_some_iff.1 (uh HE1).rd).1
  have HO2:=hide (show Other (w.heap.size+1) w1 w2 from ⟨hp2.os,hp2.output,by rw [hp2.size];simp,fun k hk _=>(hp2.other k (by omega)).trans (Below.heap_alloc _ _ _ hk)⟩)
  have HE2:=hide (show Re w e 32 w2 from (uh HE1).next ((hp2.other _ (by omega)).trans ((Below.heap_alloc _ _ _ hz1).trans (uh HE1).rd)) (uh HO2))
  have HT2:=hide (And.intro hp2.row (show w.heap.size+1<w1.heap.size from hz1))
  clear hp2 hz1
  by_cases hc3:e.size<36
  · have hf:=uh HNO (Or.inl (by omega))
    refine (number_no (w.heap.size+1) 4 (lf e 32) w2 (uh HE2).rd (by have:=lf_size e 32;omega) (by omega)).mono ?_
    rintro _ wz ⟨rfl,hoz⟩
    have HOZ:=hide (ent_no hf ((uh HE2).out hoz))
    clear hoz
    go_wp2_with fail
    exact ⟨rfl,uh HOZ⟩
  refine (number_yes (w.heap.size+1) 4 (lf e 32) w2 (uh HE2).rd (by have:=lf_size e 32;omega) (by omega) (by have:=lf_size e 32;omega)).mono ?_
  rintro _ w3 ⟨rfl,hr3,ho3⟩
  rw [lf_next] at hr3
  obtain ⟨pl,hpl⟩:∃ pl,pl=numOf (e.extract 32 36).data.toList:=⟨_,rfl⟩
  rw [show numOf ((lf e 32).data.toList.take 4)=pl by rw [lf_num e (by omega),hpl]]
  have HPL:=hide hpl
  have HE3:=hide (show Re w e 36 w3 from (uh HE2).next hr3 ho3)
  clear hpl
  have HT3:=hide (And.intro ((ho3.block _ (Array.getElem?_eq_some_iff.1 (uh HT2).1).1 (by have:=(uh HT2).2;omega)).trans (uh HT2).1) (uh HT2).2)
  clear hr3 ho3
  go_wp2_with fail
  by_cases hc4:e.size<37
  · have hf:=uh HNO (Or.inl (by omega))
    refine (byte_no (w.heap.size+1) (lf e 36) w3 (uh HE3).rd (by have:=lf_size e 36;omega)).mono ?_
    rintro _ wz ⟨rfl,hoz⟩
    have HOZ:=hide (ent_no hf ((uh HE3).out hoz))
    clear hoz
    go_wp2_with fail
    exact ⟨rfl,uh HOZ⟩
  refine (byte_yes (w.heap.size+1) (lf e 36) w3 (uh HE3).rd (by have:=lf_size e 36;omega) (by have:=lf_size e 36;omega)).mono ?_
  rintro _ w4 ⟨rfl,hr4,ho4⟩
  rw [lf_next] at hr4
  obtain ⟨op,hop⟩:∃ op,op=Sha.at8 e.data.toList 36:=⟨_,rfl⟩
  rw [lf_at e (by omega),← hop]
  have HOP:=hide hop
  have HE4:=hide (show Re w e 37 w4 from (uh HE3).next hr4 ho4)
  clear hop
  have HT4:=hide (And.intro ((ho4.block _ (Array.getElem?_eq_some_iff.1 (uh HT3).1).1 (by have:=(uh HT3).2;omega)).trans (uh HT3).1) (uh HT3).2)
  clear hr4 ho4
  go_wp2_with fail
  by_cases hc5:e.size<69
  · have hf:=uh HNO (Or.inl (by omega))
    refine (hash_no (w.heap.size+1) (lf e 37) w4 (uh HE4).rd (by have:=lf_size e 37;omega)).mono ?_
    rintro _ wz ⟨rfl,hoz⟩
    have HOZ:=hide (ent_no hf ((uh HE4).out hoz))
    clear hoz
    go_wp2_with fail
    exact ⟨rfl,uh HOZ⟩
  refine (hash_yes (w.heap.size+1) (lf e 37) w4 (uh HE4).rd (by have:=lf_size e 37;omega) (by have:=lf_size e 37;omega)).mono ?_
  rintro _ w5 ⟨rfl,hr5,ho5⟩
  rw [lf_next] at hr5
  have HE5:=hide (show Re w e 69 w5 from (uh HE4).next hr5 ho5)
  have HT5:=hide (And.intro ((ho5.block _ (Array.getElem?_eq_some_iff.1 (uh HT4).1).1 (by have:=(uh HT4).2;omega)).trans (uh HT4).1) (uh HT4).2)
  clear hr5 ho5
  go_wp2_with fail
  have hk69:(lf e 69).size≠0→((lf e 69).data.toList.getD 0 0).toNat=k:=fun h=>by
    have h1:=lf_at e (j:=69) (by have:=lf_size e 69;omega)
    unfold Sha.at8 at h1
    have:=uh HK
    omega
  have htn:e.size<70+k→(lf e 69).size=0∨(lf e 69).size<1+((lf e 69).data.toList.getD 0 0).toNat:=fun h=>by
    by_cases h0:(lf e 69).size=0
    · exact Or.inl h0
    · right
      rw [hk69 h0]
      have:=lf_size e 69
      omega
  by_cases hc6:e.size<70+k
  · have hf:=uh HNO (by omega)
    refine (text_no (w.heap.size+1) (lf e 69) w5 (uh HE5).rd (htn hc6) (by have:=lf_size e 69;omega)).mono ?_
    rintro _ wz ⟨rfl,hoz⟩
    have HOZ:=hide (ent_no hf ((uh HE5).out hoz))
    clear hoz
    go_wp2_with fail
    exact ⟨rfl,uh HOZ⟩
  refine (text_yes (w.heap.size+1) k (lf e 69) w5 (uh HE5).rd (by rw [lf_at e (by omega)];unfold Sha.at8;rw [← uh HK]) (by have:=lf_size e 69;omega) (by have:=lf_size e 69;omega)).mono ?_
  rintro _ w6 ⟨rfl,hr6,ho6⟩
  rw [lf_next] at hr6
  rw [lf_cut e (by omega)]
  obtain ⟨pa,hpa⟩:∃ pa,pa=e.extract (69+1) (69+(1+k)):=⟨_,rfl⟩
  have hps:pa.size=k:=by rw [hpa,ByteArray.size_extract];omega
  rw [← hpa]
  have HPA:=hide hpa
  have HE6:=hide (show Re w e (70+k) w6 from (uh HE5).next (by rw [show 70+k=69+(1+k) by omega];exact hr6) ho6)
  clear hpa hk69 htn
  have HT6:=hide (And.intro ((ho6.block _ (Array.getElem?_eq_some_iff.1 (uh HT5).1).1 (by have:=(uh HT5).2;omega)).trans (uh HT5).1) (uh HT5).2)
  clear hr6 ho6
  go_wp2_with fail
  refine (pathFits_go op pa w6 (by omega)).mono ?_
  rintro _ w7 ⟨rfl,rfl⟩
  obtain ⟨fp,hfp⟩:∃ fp,fp=fitP op pa:=⟨_,rfl⟩
  rw [← hfp]
  obtain ⟨b,hb⟩:∃ b,b=Sha.at8 e.data.toList (102+k):=⟨_,rfl⟩
  have HFIT:=hide (show e.size=135+k→fitsB e=(fp&&decide (b≤7)) from fun h=>by
    rw [fitsB,← uh HK,← uh HOP,show Sha.at8 e.data.toList 69=(k:Int) by rw [Sha.at8,← uh HK],← hb,decide_eq_true (show 70≤e.size by omega),decide_eq_true h,Bool.true_and,Bool.true_and,hfp,fitP,hps]
    rw [uh HPA,show 69+1=70 from rfl,show 69+(1+k)=70+k by omega])
  have HB:=hide hb
  clear hfp hb
  cases fp
  · have hf:fitsB e=false:=by
      by_cases h:e.size=135+k
      · rw [uh HFIT h];rfl
      · exact uh HNO (Or.inr h)
    have HOZ:=hide (ent_no hf (uh HE6).kept)
    go_wp2_with fail
    refine (want_no w7).mono ?_
    rintro _ wz ⟨rfl,rfl⟩
    go_wp2_with fail
    exact ⟨rfl,uh HOZ⟩
  go_wp2_with fail
  refine (want_yes w7).mono ?_
  rintro _ w8 ⟨rfl,rfl⟩
  go_wp2_with fail
  by_cases hc9:e.size<102+k
  · have hf:=uh HNO (Or.inr (by omega))
    refine (hash_no (w.heap.size+1) (lf e (70+k)) w8 (uh HE6).rd (by have:=lf_size e (70+k);omega)).mono ?_
    rintro _ wz ⟨rfl,hoz⟩
    have HOZ:=hide (ent_no hf ((uh HE6).out hoz))
    clear hoz
    go_wp2_with fail
    exact ⟨rfl,uh HOZ⟩
  refine (hash_yes (w.heap.size+1) (lf e (70+k)) w8 (uh HE6).rd (by have:=lf_size e (70+k);omega) (by have:=lf_size e (70+k);omega)).mono ?_
  rintro _ w9 ⟨rfl,hr9,ho9⟩
  rw [lf_next] at hr9
  have HE9:=hide (show Re w e (102+k) w9 from (uh HE6).next (by rw [show 102+k=70+k+32 by omega];exact hr9) ho9)
  have HT9:=hide (And.intro ((ho9.block _ (Array.getElem?_eq_some_iff.1 (uh HT6).1).1 (by have:=(uh HT6).2;omega)).trans (uh HT6).1) (uh HT6).2)
  clear hr9 ho9
  go_wp2_with fail
  by_cases hc10:e.size<103+k
  · have hf:=uh HNO (Or.inr (by omega))
    refine (byte_no (w.heap.size+1) (lf e (102+k)) w9 (uh HE9).rd (by have:=lf_size e (102+k);omega)).mono ?_
    rintro _ wz ⟨rfl,hoz⟩
    have HOZ:=hide (ent_no hf ((uh HE9).out hoz))
    clear hoz
    go_wp2_with fail
    exact ⟨rfl,uh HOZ⟩
  refine (byte_yes (w.heap.size+1) (lf e (102+k)) w9 (uh HE9).rd (by have:=lf_size e (102+k);omega) (by have:=lf_size e (102+k);omega)).mono ?_
  rintro _ w10 ⟨rfl,hr10,ho10⟩
  rw [lf_next] at hr10
  rw [lf_at e (by omega),← uh HB]
  have HE10:=hide (show Re w e (103+k) w10 from (uh HE9).next (by rw [show 103+k=102+k+1 by omega];exact hr10) ho10)
  have HT10:=hide (And.intro ((ho10.block _ (Array.getElem?_eq_some_iff.1 (uh HT9).1).1 (by have:=(uh HT9).2;omega)).trans (uh HT9).1) (uh HT9).2)
  clear hr10 ho10
  by_cases hb7:b≤7
  case neg =>
    have hf:fitsB e=false:=by
      by_cases h:e.size=135+k
      · rw [uh HFIT h,decide_eq_false hb7];rfl
      · exact uh HNO (Or.inr h)
    have HOZ:=hide (ent_no hf (uh HE10).kept)
    go_wp2_with fail
    rw [show decide (b≤7)=false from decide_eq_false (by omega)]
    refine (want_no w10).mono ?_
    rintro _ wz ⟨rfl,rfl⟩
    go_wp2_with fail
    exact ⟨rfl,uh HOZ⟩
  go_wp2_with fail
  refine (want_yes w10).mono ?_
  rintro _ w11 ⟨rfl,rfl⟩
  go_wp2_with fail
  by_cases hc12:e.size<135+k
  · have hf:=uh HNO (Or.inr (by omega))
    refine (hash_no (w.heap.size+1) (lf e (103+k)) w11 (uh HE10).rd (by have:=lf_size e (103+k);omega)).mono ?_
    rintro _ wz ⟨rfl,hoz⟩
    have HOZ:=hide (ent_no hf ((uh HE10).out hoz))
    clear hoz
    go_wp2_with fail
    exact ⟨rfl,uh HOZ⟩
  refine (hash_yes (w.heap.size+1) (lf e (103+k)) w11 (uh HE10).rd (by have:=lf_size e (103+k);omega) (by have:=lf_size e (103+k);omega)).mono ?_
  rintro _ w12 ⟨rfl,hr12,ho12⟩
  rw [lf_next] at hr12
  have HE12:=hide (show Re w e (135+k) w12 from (uh HE10).next (by rw [show 135+k=103+k+32 by omega];exact hr12) ho12)
  have HT12:=hide (And.intro ((ho12.block _ (Array.getElem?_eq_some_iff.1 (uh HT10).1).1 (by have:=(uh HT10).2;omega)).trans (uh HT10).1) (uh HT10).2)
  clear hr12 ho12
  go_wp2_with fail
  by_cases hsz:e.size=135+k
  case neg =>
    have HOZ:=hide (ent_no (uh HNO (Or.inr hsz)) (uh HE12).kept)
    refine (end_no (w.heap.size+1) (lf e (135+k)) w12 (uh HE12).rd (by have:=lf_size e (135+k);omega)).mono ?_
    rintro _ wz ⟨rfl,rfl⟩
    go_wp2_with fail
    exact ⟨rfl,uh HOZ⟩
  refine (end_yes (w.heap.size+1) (lf e (135+k)) w12 (uh HE12).rd (by have:=lf_size e (135+k);omega)).mono ?_
  rintro _ w13 ⟨rfl,rfl⟩
  have hft:fitsB e=true:=by rw [uh HFIT hsz,decide_eq_true hb7];rfl
  have HFT:=hide hft
  clear hft
  have hms:(brow D).size=32:=by rw [brow_size,hDl]
  have hfo:=fold33 hDl pl
  have hfs:=fold33s hDl
  have hli:(Tryz.prog.info? 179).map (·.size)=some (linkOf D pl).size:=by rw [linkOf_size hDl];exact info179
  have hlz:link0.size=(linkOf D pl).size:=by rw [linkOf_size hDl];rfl
  go_wp2_with (first
    | (refine wpList_load_row rfl 29 (.tmp 4) rfl w1.heap.size ?_ 29 (brow D) (0,0) _ ?_ Tryz.underlying29 rfl (rinfo hDl) ?_;· rfl
       · exact (uh HT12).1)
    | (refine wpList_store_put rfl 179 (.tmp 2) (.tmp 34) rfl w.heap.size (linkOf D pl) ?_ ?_ 179 link0 ?_ hli hlz (linkOf_one _ _) ?_
       · rfl
       · rfl
       · exact (uh HE12).a
       intro w14 hp14))
  have hke:=(uh HE12).kept
  refine bodyPost_ret (v:=.agg (linkOf D pl)) (results_cell_row Tryz.results131 _ _ w.heap.size 179 _ (0,0) _ rfl hp14.row Tryz.underlying179 rfl hli) rfl ⟨fun _=>by rw [← uh HD,← uh HPL],fun h=>absurd ((uh HFT).symm.trans h) (by simp),?_⟩
  exact ⟨hp14.os.trans hke.os,hp14.output.trans hke.output,by rw [hp14.size];exact hke.size,fun j hj=>(hp14.other j (by omega)).trans (hke.block j hj)⟩
end Go.Proofs.YtlbacbcenejngaaGreatDoor
