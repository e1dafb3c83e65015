/-
  Cframe Cread Chead Cwalk
-/
import Derived.Test.YtlbacbcenejngaaGreatDoorV30
import Derived.Test.YtlbacbcenejngaaGreatDoorV27
import Derived.Defers
import Derived.Recover
import Derived.Test.YtlbacbcenejngaaGreatDoorV02
import Derived.Test.YtlbacbcenejngaaGreatDoorV26
import Derived.BigQuiet
namespace Go.Proofs.YtlbacbcenejngaaGreatDoor
open Go.RowKit
structure Fr (B:Nat) (x:ByteArray) (cs:Array Value) (b:Bool) (w:World):Prop where
  x:w.heap[B]?=some (.cells #[.string x] 9 (0,0))
  l:w.heap[B+1]?=some (.cells cs 179 (0,0))
  b:w.heap[B+2]?=some (.cells #[.bool b] 4 (0,0))
theorem Fr.next {B:Nat} {x:ByteArray} {cs:Array Value} {b:Bool} {w w':World} (h:Fr B x cs b w) (hk:∀ k,k<w.heap.size→k<B+3→w'.heap[k]?=w.heap[k]?):Fr B x cs b w' :=
  ⟨(hk _ (Array.getElem?_eq_some_iff.1 h.x).1 (by omega)).trans h.x,(hk _ (Array.getElem?_eq_some_iff.1 h.l).1 (by omega)).trans h.l,(hk _ (Array.getElem?_eq_some_iff.1 h.b).1 (by omega)).trans h.b⟩
theorem catch_idle (B:Nat) (w:World) :
    CallsD Tryz.prog 128 #[.pointer (some ⟨B,0,none⟩),.pointer (some ⟨B+1,0,none⟩),.pointer (some ⟨B+2,0,none⟩)] .returning w fun e u' w'=>e=.returned (.tuple #[])∧u'=.returning∧w'=w:=by
  refine callsD_of_wpS Tryz.func128 rfl fun c₀ cs hu=>?_
  apply wpS_seq
  apply wpS_region
  simp [wpOpsS,go_sem,recoverD,hu,Tryz.ntmps128,Exit.thenS]
  refine wpS_cond (t:=false) (by simp [Act.eval,Array.replicate]) ?_
  simp only [Bool.false_eq_true,if_false]
  refine wpS_of_wp (wp_skip ?_)
  cases c₀
  simp_all [bodyPostS,results,Tryz.results128]
set_option maxRecDepth 100000 in
set_option maxHeartbeats 1000000 in
theorem catch_panic (B:Nat) (x:ByteArray) (cs0:Array Value) (b:Bool) (u:TypeId) (pv:Value) (older:List PanicEntry) (w:World) (hf:Fr B x cs0 b w) (hcs:cs0.size=33) :
    CallsD Tryz.prog 128 #[.pointer (some ⟨B,0,none⟩),.pointer (some ⟨B+1,0,none⟩),.pointer (some ⟨B+2,0,none⟩)] (.panicking ({ v:=.iface u pv,recovered:=false }::older)) w fun e u' w' =>
      e=.returned (.tuple #[])∧u'=.panicking ({ v:=.iface u pv,recovered:=true }::older)∧Fr B ByteArray.empty link0 false w'∧Kept B w w':=by
  refine callsD_of_wpS Tryz.func128 rfl fun c₀ cs hu=>?_
  apply wpS_seq
  apply wpS_region
  simp [wpOpsS,go_sem,recoverD,hu,Tryz.ntmps128,Exit.thenS]
  refine wpS_cond (t:=true) (by simp [Act.eval,Array.replicate]) ?_
  simp only [if_true]
  refine wpS_of_wp ?_
  change Code.wp _ _ _ { tmps:=#[.pointer (some ⟨B,0,none⟩),.pointer (some ⟨B+1,0,none⟩),.pointer (some ⟨B+2,0,none⟩),.iface u pv,.bool true,undef],defers:=[] } w
  have hc0:w.cell? ⟨B,0,none⟩=some (.string x):=by rw [cell_of_row _ _ _ _ _ _ hf.x];rfl
  have hf0:=frozen_of_row _ _ 0 _ _ hf.x
  have hli:(Tryz.prog.info? 179).map (·.size)=some link0.size:=info179
  have hl1:(w.setCell ⟨B,0,none⟩ (.string ByteArray.empty)).heap[B+1]?=some (.cells cs0 179 (0,0)):=by rw [heap_setCell_other _ _ _ _ (by simp)];exact hf.l
  have hx1:(w.setCell ⟨B,0,none⟩ (.string ByteArray.empty)).heap[B]?=some (.cells #[.string ByteArray.empty] 9 (0,0)):=by rw [heap_setCell_same _ _ _ _ _ _ hf.x];rfl
  have hb1:(w.setCell ⟨B,0,none⟩ (.string ByteArray.empty)).heap[B+2]?=some (.cells #[.bool b] 4 (0,0)):=by rw [heap_setCell_other _ _ _ _ (by simp)];exact hf.b
  have hk1:Kept B w (w.setCell ⟨B,0,none⟩ (.string ByteArray.empty)):=(Kept.refl B w).setCell (p:=⟨B,0,none⟩) (Nat.le_refl B) _
  have H1:=hide (And.intro hx1 (And.intro hb1 (And.intro hk1 hl1)))
  clear hx1 hb1 hk1 hl1 hf
  go_wp2_with (refine wpList_store_put rfl 179 (.tmp 1) (.tmp 5) rfl (B+1) link0 ?_ ?_ 179 cs0 ?_ hli (by rw [hcs];rfl) ?_ ?_
               · rfl
               · rfl
               · exact (uh H1).2.2.2
               · exact linkOf_one (List.replicate 32 0) 0
               intro w2 hp2
               have hb2:w2.heap[B+2]?=some (.cells #[.bool b] 4 (0,0)):=(hp2.other _ (by omega)).trans (uh H1).2.1
               have hcb:w2.cell? ⟨B+2,0,none⟩=some (.bool b):=by rw [cell_of_row _ _ _ _ _ _ hb2];rfl
               have hfb:=frozen_of_row _ _ 0 _ _ hb2
               have H2:=hide (And.intro hp2 hb2)
               clear hp2 hb2)
  obtain ⟨hx1,hb1,hk1,hl1⟩:=uh H1
  obtain ⟨hp2,hb2⟩:=uh H2
  have hx2:w2.heap[B]?=some (.cells #[.string ByteArray.empty] 9 (0,0)):=(hp2.other _ (by omega)).trans hx1
  have F:Fr B ByteArray.empty link0 false (w2.setCell ⟨B+2,0,none⟩ (.bool false)):=by
    refine ⟨?_,?_,?_⟩
    · rw [heap_setCell_other _ _ _ _ (by simp)];exact hx2
    · rw [heap_setCell_other _ _ _ _ (by simp)];exact hp2.row
    · rw [heap_setCell_same _ _ _ _ _ _ hb2];rfl
  have K:Kept B w (w2.setCell ⟨B+2,0,none⟩ (.bool false)):=by
    refine (hk1.trans (.of (hp2.below (by omega)))).setCell (p:=⟨B+2,0,none⟩) (by simp) _
  simp_all [bodyPostS,results,Tryz.results128]
end Go.Proofs.YtlbacbcenejngaaGreatDoor
namespace Go.Proofs.YtlbacbcenejngaaGreatDoor
open Go.RowKit
def frSize (s:ByteArray):Nat:=numOf (s.data.toList.take 2)
def frEnt (s:ByteArray):ByteArray:=s.extract 2 (2+frSize s)
def frOk (s:ByteArray):Bool:=decide (2≤s.size)&&decide (2+frSize s≤s.size)&&fitsB (frEnt s)
theorem frSize_lt (s:ByteArray):frSize s<65536:=by
 have h:=numOf_lt (s.data.toList.take 2)
 have hl:(s.data.toList.take 2).length≤2:=by rw [List.length_take];omega
 have:256^(s.data.toList.take 2).length≤256^2:=Nat.pow_le_pow_right (by omega) hl
 unfold frSize
 omega
def frEnd (s:ByteArray) (w:World) (e:Ending) (w':World):Prop :=
 (frOk s=true→e=.returned (.tuple #[.string (frEnt s),.agg (linkOf ((frEnt s).data.toList.take 32) (numOf ((frEnt s).extract 32 36).data.toList)),.bool true])) ∧
 (frOk s=false→e=.returned (.tuple #[.string ByteArray.empty,.agg link0,.bool false]))∧Kept w.heap.size w w'
set_option maxRecDepth 100000 in
theorem fr_res {B:Nat} {x:ByteArray} {cs:Array Value} {b:Bool} {w:World} {tmps:Array Value} (hf:Fr B x cs b w) (hcs:cs.size=33)
  (h2:tmps.getD 2 undef=.pointer (some ⟨B,0,none⟩)) (h3:tmps.getD 3 undef=.pointer (some ⟨B+1,0,none⟩)) (h4:tmps.getD 4 undef=.pointer (some ⟨B+2,0,none⟩)) :
  (results Tryz.f98 tmps).run Tryz.prog w=.ok (.tuple #[.string x,.agg cs,.bool b]) w:=by
 have hc0:w.cell? ⟨B,0,none⟩=some (.string x):=by rw [cell_of_row _ _ _ _ _ _ hf.x];rfl
 have hc2:w.cell? ⟨B+2,0,none⟩=some (.bool b):=by rw [cell_of_row _ _ _ _ _ _ hf.b];rfl
 have l0:(loadVar 9 ⟨B,0,none⟩).run Tryz.prog w=.ok (.string x) w:=by simp [go_sem,hc0]
 have l2:(loadVar 4 ⟨B+2,0,none⟩).run Tryz.prog w=.ok (.bool b) w:=by simp [go_sem,hc2]
 have l1:(loadVar 179 ⟨B+1,0,none⟩).run Tryz.prog w=.ok (.agg cs) w:=by
  refine run_loadVar_row w _ 179 179 cs (0,0) _ hf.l Tryz.underlying179 rfl ?_
  rw [hcs];exact info179
 have h2':tmps[2]?.getD undef=.pointer (some ⟨B,0,none⟩):=by simpa using h2
 have h3':tmps[3]?.getD undef=.pointer (some ⟨B+1,0,none⟩):=by simpa using h3
 have h4':tmps[4]?.getD undef=.pointer (some ⟨B+2,0,none⟩):=by simpa using h4
 simp [results,Tryz.results98,h2',h3',h4',asAddr,l0,l1,l2]
theorem fr_caught {s:ByteArray} {w w1:World} {tmps:Array Value} (hno:frOk s=false) (hf:∃ x cs b,Fr w.heap.size x cs b w1∧cs.size=33) (hk:Kept w.heap.size w w1)
  (h2:tmps.getD 2 undef=.pointer (some ⟨w.heap.size,0,none⟩)) (h3:tmps.getD 3 undef=.pointer (some ⟨w.heap.size+1,0,none⟩)) (h4:tmps.getD 4 undef=.pointer (some ⟨w.heap.size+2,0,none⟩)) :
  bodyPostD Tryz.prog Tryz.f98 (frEnd s w) (.panic oops) { tmps:=tmps,defers:=[{ target:=.fn (.func 128) #[.pointer (some ⟨w.heap.size,0,none⟩),.pointer (some ⟨w.heap.size+1,0,none⟩),.pointer (some ⟨w.heap.size+2,0,none⟩)],args:=#[] }] } w1:=by
 obtain ⟨x,cs,b,hfr,hcs⟩:=hf
 show Leaves Tryz.prog Tryz.f98 tmps (frEnd s w) _ (.panicking oops) w1
 refine leaves_cons (f:=128) (args:=#[.pointer (some ⟨w.heap.size,0,none⟩),.pointer (some ⟨w.heap.size+1,0,none⟩),.pointer (some ⟨w.heap.size+2,0,none⟩)]) (by simp) (by simp [go_sem]) ?_
 refine (catch_panic w.heap.size x cs b _ _ _ w1 hfr hcs).mono ?_
 rintro e u' w2 ⟨rfl,rfl,hf2,hk2⟩
 show Leaves Tryz.prog Tryz.f98 tmps (frEnd s w) [] .returning w2
 exact ⟨_,fr_res hf2 (linkOf_size (D:=List.replicate 32 0) rfl 0) h2 h3 h4,fun h=>absurd (hno.symm.trans h) (by simp),fun _=>rfl,hk.trans hk2⟩
theorem fr_back {s:ByteArray} {w w1:World} {tmps:Array Value} (hok:frOk s=true) (hf:Fr w.heap.size (frEnt s) (linkOf ((frEnt s).data.toList.take 32) (numOf ((frEnt s).extract 32 36).data.toList)) true w1) (hcs:(linkOf ((frEnt s).data.toList.take 32) (numOf ((frEnt s).extract 32 36).data.toList)).size=33) (hk:Kept w.heap.size w w1)
  (h2:tmps.getD 2 undef=.pointer (some ⟨w.heap.size,0,none⟩)) (h3:tmps.getD 3 undef=.pointer (some ⟨w.heap.size+1,0,none⟩)) (h4:tmps.getD 4 undef=.pointer (some ⟨w.heap.size+2,0,none⟩)) :
  bodyPostD Tryz.prog Tryz.f98 (frEnd s w) .ret { tmps:=tmps,defers:=[{ target:=.fn (.func 128) #[.pointer (some ⟨w.heap.size,0,none⟩),.pointer (some ⟨w.heap.size+1,0,none⟩),.pointer (some ⟨w.heap.size+2,0,none⟩)],args:=#[] }] } w1:=by
 show Leaves Tryz.prog Tryz.f98 tmps (frEnd s w) _ .returning w1
 refine leaves_cons (f:=128) (args:=#[.pointer (some ⟨w.heap.size,0,none⟩),.pointer (some ⟨w.heap.size+1,0,none⟩),.pointer (some ⟨w.heap.size+2,0,none⟩)]) (by simp) (by simp [go_sem]) ?_
 refine (catch_idle w.heap.size w1).mono ?_
 rintro e u' w2 ⟨rfl,rfl,rfl⟩
 show Leaves Tryz.prog Tryz.f98 tmps (frEnd s w) [] .returning w2
 exact ⟨_,fr_res hf hcs h2 h3 h4,fun _=>rfl,fun h=>absurd (hok.symm.trans h) (by simp),hk⟩
theorem Fr.other {B:Nat} {x:ByteArray} {cs:Array Value} {b:Bool} {w w':World} (h:Fr B x cs b w) (ho:Other (B+3) w w'):Fr B x cs b w':=h.next fun k hk h3=>ho.block k hk (by omega)
theorem Kept.other {B:Nat} {v w w':World} (h:Kept B v w) (ho:Other (B+3) w w') (hB:B≤v.heap.size:=by exact Nat.le_refl _):Kept B v w' :=
 h.trans ⟨ho.os,ho.output,ho.size,fun k hk=>ho.block k (by have:=h.size;omega) (by omega)⟩
theorem wp_store_cell9 {w:World} {o:Oper} {a:Act} {K:Act→World→Prop} {Q:Exit→Act→World→Prop} (x y:Operand) (ho:o.op=.store 9 x y) (p:Addr) (hx:a.eval x=.pointer (some p)) (z:ByteArray) (hy:a.eval y=.string z) (u:Value) (hc:w.cell? p=some u) (hf:w.frozen? p=false) (h:K (a.put o.dst undef) (w.setCell p (.string z))):o.wp Tryz.prog a w K Q:=by
 have hu:=Tryz.underlying9
 unfold Oper.wp execOp
 simp only [ho,hx,hy]
 go_simp
 exact h
theorem wp_store_cell4 {w:World} {o:Oper} {a:Act} {K:Act→World→Prop} {Q:Exit→Act→World→Prop} (x y:Operand) (ho:o.op=.store 4 x y) (p:Addr) (hx:a.eval x=.pointer (some p)) (z:Bool) (hy:a.eval y=.bool z) (u:Value) (hc:w.cell? p=some u) (hf:w.frozen? p=false) (h:K (a.put o.dst undef) (w.setCell p (.bool z))):o.wp Tryz.prog a w K Q:=by
 have hu:=Tryz.underlying4
 unfold Oper.wp execOp
 simp only [ho,hx,hy]
 go_simp
 exact h
theorem leaves_tmps {P:Program} {fn:Func} {t t':Array Value} {R:Ending→World→Prop} (h:results fn t=results fn t'):∀ (ds:List Deferred) (u:FrameMode) (w:World),Leaves P fn t R ds u w→Leaves P fn t' R ds u w
 | [],.returning,_,⟨v,hv,hr⟩=>⟨v,by rw [← h];exact hv,hr⟩
 | [],.panicking _,_,hr=>hr
 | [],.run,_,hr=>hr
 | _::ds,_,_,⟨hu,fv,cap,f,args,ht,hi,hc⟩=>⟨hu,fv,cap,f,args,ht,hi,hc.mono (fun e u' w' hh=>by
   cases e with
   | returned v=>exact leaves_tmps h ds _ _ hh
   | panicked c=>exact leaves_tmps h ds _ _ hh
   | outgrown=>exact hh)⟩
theorem res_put (t:Array Value) (i:Nat) (hi:5≤i) (v:Value):results Tryz.f98 (t.setIfInBounds i v)=results Tryz.f98 t:=by
 have h:∀ j,j<5→(t.setIfInBounds i v).getD j undef=t.getD j undef:=fun j hj=>by
  rw [Array.getD_eq_getD_getElem?,Array.getD_eq_getD_getElem?,Array.getElem?_setIfInBounds_ne (by omega)]
 unfold results
 rw [Tryz.results98]
 simp only [Array.mapM_eq_mapM_toList,List.mapM_cons,List.mapM_nil,h 2 (by omega),h 3 (by omega),h 4 (by omega)]
theorem fr_start (s:ByteArray) (w:World):Fr w.heap.size ByteArray.empty link0 false ((((w.alloc (.cells #[.string ByteArray.empty] 9)).alloc (.cells link0 179)).alloc (.cells #[.bool false] 4)).alloc (.cells #[.string s] 218)) ∧
  Rd ((((w.alloc (.cells #[.string ByteArray.empty] 9)).alloc (.cells link0 179)).alloc (.cells #[.bool false] 4)).alloc (.cells #[.string s] 218)) (w.heap.size+3) s ∧
  Kept w.heap.size w ((((w.alloc (.cells #[.string ByteArray.empty] 9)).alloc (.cells link0 179)).alloc (.cells #[.bool false] 4)).alloc (.cells #[.string s] 218)):=by
 refine ⟨⟨?_,?_,?_⟩,?_,?_⟩
 ·rw [Below.heap_alloc _ _ _ (by simp only [World.size_alloc];omega),Below.heap_alloc _ _ _ (by simp only [World.size_alloc];omega),Below.heap_alloc _ _ _ (by simp)]
  exact heap_alloc_new _ _
 ·rw [Below.heap_alloc _ _ _ (by simp only [World.size_alloc];omega),Below.heap_alloc _ _ _ (by simp)]
  have:=heap_alloc_new (w.alloc (.cells #[.string ByteArray.empty] 9)) (.cells link0 179)
  simpa only [World.size_alloc] using this
 ·rw [Below.heap_alloc _ _ _ (by simp)]
  have:=heap_alloc_new ((w.alloc (.cells #[.string ByteArray.empty] 9)).alloc (.cells link0 179)) (.cells #[.bool false] 4)
  simpa only [World.size_alloc] using this
 ·have:=heap_alloc_new (((w.alloc (.cells #[.string ByteArray.empty] 9)).alloc (.cells link0 179)).alloc (.cells #[.bool false] 4)) (.cells #[.string s] 218)
  unfold Rd
  simpa only [World.size_alloc] using this
 ·exact ((((Kept.refl _ _).alloc (Nat.le_refl _) _).alloc (by simp) _).alloc (by simp only [World.size_alloc];omega) _).alloc (by simp only [World.size_alloc];omega) _
set_option maxRecDepth 100000 in
set_option maxHeartbeats 4000000 in
theorem readFrame_go (s:ByteArray) (w:World) (hs:s.size≤140737488355328):Calls Tryz.prog 98 #[.string s] w (frEnd s w):=by
 have hmf:∀ (fn:Fn) (first cap:Array Value) (w:World),(Instr.makeFunc fn first cap).run Tryz.prog w=.ok (.func fn first cap) w:=fun _ _ _ _=>rfl
 obtain ⟨N,hN⟩:∃ N,N=frSize s:=⟨_,rfl⟩
 have hN2:N<65536:=by rw [hN];exact frSize_lt s
 have hwN:IntKind.i64.wrap (N:Int)=(N:Int):=by simp [IntKind.wrap,IntKind.bits,IntKind.signed];omega
 have HNO:=hide (show s.size<2∨s.size<2+N∨fitsB (s.extract 2 (2+N))=false→frOk s=false from fun h=>by
  unfold frOk frEnt
  rw [← hN]
  rcases h with h | h | h
  ·rw [decide_eq_false (show ¬ 2≤s.size by omega)];rfl
  ·rw [decide_eq_false (show ¬ 2+N≤s.size by omega),Bool.and_false];rfl
  ·rw [h,Bool.and_false])
 have HYES:=hide (show ¬ s.size<2→¬ s.size<2+N→fitsB (s.extract 2 (2+N))=true→frOk s=true from fun h1 h2 h=>by
  unfold frOk frEnt
  rw [← hN,decide_eq_true (show 2≤s.size by omega),decide_eq_true (show 2+N≤s.size by omega),h];rfl)
 have HN:=hide hN
 clear hN
 go_enter_defers Tryz.func98,Tryz.ntmps98
 go_wp2_with fail
 refine (new_go s _).mono ?_
 rintro _ w0 ⟨rfl,hw0⟩
 have hst:=fr_start s w
 have H0:=hide (show Fr w.heap.size ByteArray.empty link0 false w0∧Rd w0 (w.heap.size+3) s∧Kept w.heap.size w w0 from by rw [hw0];exact hst)
 clear hst hw0
 simp only [World.size_alloc]
 go_wp2_with fail
 by_cases hc1:s.size<2
 ·have hf:=uh HNO (Or.inl hc1)
  refine (number_no (w.heap.size+3) 2 s w0 (uh H0).2.1 hc1 (by omega)).mono ?_
  rintro _ wz ⟨rfl,hoz⟩
  exact fr_caught hf ⟨_,_,_,(uh H0).1.other hoz,rfl⟩ ((uh H0).2.2.other hoz) rfl rfl rfl
 refine (number_yes (w.heap.size+3) 2 s w0 (uh H0).2.1 (by omega) (by omega) hs).mono ?_
 rintro _ w1 ⟨rfl,hr1,ho1⟩
 rw [show numOf (s.data.toList.take 2)=N from (uh HN).symm]
 have H1:=hide (And.intro ((uh H0).1.other ho1) (And.intro hr1 ((uh H0).2.2.other ho1)))
 clear hr1 ho1
 go_wp2_with fail
 by_cases hc2:s.size<2+N
 ·have hf:=uh HNO (Or.inr (Or.inl hc2))
  refine (bytes_no (w.heap.size+3) N (lf s 2) w1 (uh H1).2.1 (by have:=lf_size s 2;omega) (by omega) (by have:=lf_size s 2;omega)).mono ?_
  rintro _ wz ⟨rfl,hoz⟩
  exact fr_caught hf ⟨_,_,_,(uh H1).1.other hoz,rfl⟩ ((uh H1).2.2.other hoz) rfl rfl rfl
 refine (bytes_yes (w.heap.size+3) N (lf s 2) w1 (uh H1).2.1 (by have:=lf_size s 2;omega) (by have:=lf_size s 2;omega)).mono ?_
 rintro _ w2 ⟨rfl,hr2,ho2⟩
 rw [lf_cut s (by omega)]
 obtain ⟨E,hE⟩:∃ E,E=s.extract (2+0) (2+N):=⟨_,rfl⟩
 rw [← hE]
 have hEs:E.size=N:=by rw [hE,ByteArray.size_extract];omega
 have HEN:=hide (show frEnt s=E from by rw [hE,frEnt,← uh HN])
 have HFIT:=hide (show fitsB (s.extract 2 (2+N))=fitsB E from by rw [hE])
 clear hE
 have hfr2:=(uh H1).1.other ho2
 have hc0:w2.cell? ⟨w.heap.size,0,none⟩=some (.string ByteArray.empty):=by rw [cell_of_row _ _ _ _ _ _ hfr2.x];rfl
 have hf0:=frozen_of_row _ _ 0 _ _ hfr2.x
 have H2:=hide (show Fr w.heap.size E link0 false (w2.setCell ⟨w.heap.size,0,none⟩ (.string E))∧Kept w.heap.size w (w2.setCell ⟨w.heap.size,0,none⟩ (.string E)) from
  ⟨⟨by rw [heap_setCell_same _ _ _ _ _ _ hfr2.x];rfl,by rw [heap_setCell_other _ _ _ _ (by simp)];exact hfr2.l,by rw [heap_setCell_other _ _ _ _ (by simp)];exact hfr2.b⟩,((uh H1).2.2.other ho2).setCell (p:=⟨w.heap.size,0,none⟩) (Nat.le_refl _) _⟩)
 clear hr2 ho2 hfr2
 go_wp2_with fail
 generalize w2.setCell ⟨w.heap.size,0,none⟩ (.string E)=w3 at H2 ⊢
 clear hc0 hf0
 have hc3:w3.cell? ⟨w.heap.size,0,none⟩=some (.string E):=by rw [cell_of_row _ _ _ _ _ _ (uh H2).1.x];rfl
 refine wp_region_held_drew (S:=fun w'=>w'.cell? ⟨w.heap.size,0,none⟩=some (.string E)) (by kernel_rfl) (by simpa using hc3) (fun hHeld=>?_)
 refine tkG 0 (some 14) (.load 9 (.tmp 2)) 9 none (.string E) (by kernel_rfl) (fun c a w h=>leaves_tmps (res_put _ 14 (by omega) _) _ _ _ h) (Or.inl ⟨by kernel_rfl,fun W hW=>by simp [execOp,go_sem,hW]⟩) hHeld ?_
 simp only [zz0,zz1,zz2]
 refine tkG 1 (some 15) (.load 9 (.tmp 2)) 9 none (.string E) (by kernel_rfl) (fun c a w h=>leaves_tmps (res_put _ 15 (by omega) _) _ _ _ h) (Or.inl ⟨by kernel_rfl,fun W hW=>by simp [execOp,go_sem,hW]⟩) hHeld ?_
 simp only [zz0,zz1,zz2]
 refine wpAnyH_ready (rs:=[2]) (by kernel_rfl) (by simp) ?_
 have HK3:=hide (show Fr w.heap.size E link0 false w3.drew∧Kept w.heap.size w w3.drew∧w.heap.size+3≤w3.drew.heap.size from
  ⟨⟨(uh H2).1.x,(uh H2).1.l,(uh H2).1.b⟩,⟨(uh H2).2.os,(uh H2).2.output,(uh H2).2.size,(uh H2).2.block⟩,(Array.getElem?_eq_some_iff.1 (uh H2).1.b).1⟩)
 generalize w3.drew=w4 at HK3 hHeld ⊢
 clear H2 hc3 H1 H0
 refine rdX (some 16) (.call { callee:=.value (.func 131),args:=#[.tmp 15],argTypes:=#[9] }) 179 none (by kernel_rfl) (fun K hK=>?_) AllReadyH.nil
 refine ite_wanted ?_ ?_
 ·kernel_rfl
 by_cases hft':fitsB E=false
 ·have hno:=uh HNO (Or.inr (Or.inr ((uh HFIT).trans hft')))
  clear hK
  go_simp
  refine (readEntry_go E w4 (by omega)).mono ?_
  rintro e5 w5 ⟨_,h5,hk5⟩
  rw [h5 hft']
  have hfin:Fr w.heap.size E link0 false w5∧Kept w.heap.size w w5 :=
   ⟨(uh HK3).1.next fun k hk _=>hk5.block k hk,(uh HK3).2.1.trans (hk5.mono (by have:=(uh HK3).2.2;omega))⟩
  exact fr_caught hno ⟨_,_,_,hfin.1,rfl⟩ hfin.2 rfl rfl rfl
 have hft:fitsB E=true:=by simpa using hft'
 clear hft'
 have hok:=uh HYES hc1 hc2 ((uh HFIT).trans hft)
 obtain ⟨L,hL⟩:∃ L,L=linkOf (E.data.toList.take 32) (numOf (E.extract 32 36).data.toList):=⟨_,rfl⟩
 have hLs:L.size=33:=by
  rw [hL]
  refine linkOf_size ?_ _
  have:70≤E.size:=Classical.byContradiction fun h=>by
   rw [fits_no rfl (Or.inl (by omega))] at hft
   exact absurd hft (by simp)
  rw [List.length_take,size_toList];omega
 have hL1:L.all (·.oneCell')=true:=by rw [hL];exact linkOf_one _ _
 have HL:=hide hL
 have hcl:Calls Tryz.prog 131 #[.string E] w4 fun e w'=>e=.returned (.agg L)∧Kept w4.heap.size w4 w':=by
  refine (readEntry_go E w4 (by omega)).mono ?_
  rintro e5 w5 ⟨h5,_,hk5⟩
  exact ⟨by rw [h5 hft,hL],hk5⟩
 clear hL
 go_simp
 refine hcl.mono ?_
 rintro _ w5 ⟨rfl,hk5⟩
 have H5:=hide (show Fr w.heap.size E link0 false w5∧Kept w.heap.size w w5 from
   ⟨(uh HK3).1.next fun k hk _=>hk5.block k hk,(uh HK3).2.1.trans (hk5.mono (by have:=(uh HK3).2.2;omega))⟩)
 clear hk5 hcl hHeld
 show K _ w5
 have hc5:w5.cell? ⟨w.heap.size,0,none⟩=some (.string E):=by rw [cell_of_row _ _ _ _ _ _ (uh H5).1.x];rfl
 refine hK.out _ _ hc5 (fun _=>?_)
 clear hK K
 refine rd1 3 none (.store 9 (.tmp 2) (.tmp 14)) 0 (by kernel_rfl) (fun K hK=>?_)
 refine wp_store_cell9 (.tmp 2) (.tmp 14) ?_ ⟨w.heap.size,0,none⟩ ?_ E ?_ (.string E) hc5 (frozen_of_row _ _ 0 _ _ (uh H5).1.x) ?_
 ·rfl
 ·kernel_rfl
 ·kernel_rfl
 simp only [Act.put]
 have H6:=hide (show Fr w.heap.size E link0 false (w5.setCell ⟨w.heap.size,0,none⟩ (.string E))∧Kept w.heap.size w (w5.setCell ⟨w.heap.size,0,none⟩ (.string E)) from
  ⟨⟨by rw [heap_setCell_same _ _ _ _ _ _ (uh H5).1.x];rfl,by rw [heap_setCell_other _ _ _ _ (by simp)];exact (uh H5).1.l,by rw [heap_setCell_other _ _ _ _ (by simp)];exact (uh H5).1.b⟩,(uh H5).2.setCell (p:=⟨w.heap.size,0,none⟩) (Nat.le_refl _) _⟩)
 generalize w5.setCell ⟨w.heap.size,0,none⟩ (.string E)=w6 at H6 ⊢
 have hc6:w6.cell? ⟨w.heap.size,0,none⟩=some (.string E):=by rw [cell_of_row _ _ _ _ _ _ (uh H6).1.x];rfl
 refine hK.out _ _ hc6 (fun _=>?_)
 clear hK K H5 hc5
 refine rd1 4 none (.store 179 (.tmp 3) (.tmp 16)) 0 (by kernel_rfl) (fun K hK=>?_)
 refine wp_store_row 179 (.tmp 3) (.tmp 16) ?_ (w.heap.size+1) L ?_ ?_ 179 link0 (uh H6).1.l (by rw [hLs];exact info179) (by rw [hLs];rfl) hL1 ?_
 ·rfl
 ·kernel_rfl
 ·kernel_rfl
 simp only [Act.put]
 have H7:=hide (show Fr w.heap.size E L false (w6.setRow (w.heap.size+1) L)∧Kept w.heap.size w (w6.setRow (w.heap.size+1) L) from
  ⟨⟨by rw [setRow_other _ _ _ _ (by omega)];exact (uh H6).1.x,setRow_heap _ _ _ _ _ _ (uh H6).1.l,by rw [setRow_other _ _ _ _ (by omega)];exact (uh H6).1.b⟩,(uh H6).2.setRow (by omega) _⟩)
 generalize w6.setRow (w.heap.size+1) L=w7 at H7 ⊢
 have hc7:w7.cell? ⟨w.heap.size,0,none⟩=some (.string E):=by rw [cell_of_row _ _ _ _ _ _ (uh H7).1.x];rfl
 refine hK.out _ _ hc7 (fun _=>?_)
 clear hK K H6 hc6
 refine rd1 5 none (.store 4 (.tmp 4) (.const (.bool true))) 0 (by kernel_rfl) (fun K hK=>?_)
 refine wp_store_cell4 (.tmp 4) (.const (.bool true)) ?_ ⟨w.heap.size+2,0,none⟩ ?_ true ?_ (.bool false) (by rw [cell_of_row _ _ _ _ _ _ (uh H7).1.b];rfl) (frozen_of_row _ _ 0 _ _ (uh H7).1.b) ?_
 ·rfl
 ·kernel_rfl
 ·kernel_rfl
 simp only [Act.put]
 have H8:=hide (show Fr w.heap.size E L true (w7.setCell ⟨w.heap.size+2,0,none⟩ (.bool true))∧Kept w.heap.size w (w7.setCell ⟨w.heap.size+2,0,none⟩ (.bool true)) from
  ⟨⟨by rw [heap_setCell_other _ _ _ _ (by simp)];exact (uh H7).1.x,by rw [heap_setCell_other _ _ _ _ (by simp)];exact (uh H7).1.l,by rw [heap_setCell_same _ _ _ _ _ _ (uh H7).1.b];rfl⟩,(uh H7).2.setCell (p:=⟨w.heap.size+2,0,none⟩) (by simp) _⟩)
 generalize w7.setCell ⟨w.heap.size+2,0,none⟩ (.bool true)=w8 at H8 ⊢
 refine hK.out _ _ (by rw [cell_of_row _ _ _ _ _ _ (uh H8).1.x];rfl) (fun _=>?_)
 clear hK K H7 hc7
 refine wpAnyH_done (by kernel_rfl) ?_ _
 go_wp2_with fail
 have hEN:=uh HEN
 have hL:=uh HL
 refine fr_back hok ?_ ?_ (uh H8).2 rfl rfl rfl
 ·rw [hEN,← hL];exact (uh H8).1
 ·rw [hEN,← hL];exact hLs
end Go.Proofs.YtlbacbcenejngaaGreatDoor
namespace Go.Proofs.YtlbacbcenejngaaGreatDoor
open Go.RowKit
def sealC (x:ByteArray):List Value:=.string x::blist (Sha.digest x.data.toList)
def seals:List ByteArray→List Value
  | []=>[]
  | x::E=>sealC x++seals E
theorem sealC_len (x:ByteArray):(sealC x).length=33:=by simp [sealC,Sha.digest_length]
theorem seals_app:∀ E F:List ByteArray,seals (E++F)=seals E++seals F
  | [],F=>rfl
  | x::E,F=>by rw [List.cons_append,seals,seals,seals_app E F,List.append_assoc]
theorem seals_at:∀ (E:List ByteArray) (k j:Nat),k<E.length→j<33→(seals E)[k*33+j]?=(sealC (E.getD k ByteArray.empty))[j]?
  | [],k,j,h,_=>by simp at h
  | x::E,0,j,_,hj=>by
    rw [seals,Nat.zero_mul,Nat.zero_add,List.getElem?_append_left (by rw [sealC_len];exact hj)]
    rfl
  | x::E,k+1,j,h,hj=>by
    rw [seals,List.getElem?_append_right (by rw [sealC_len];omega),sealC_len,show (k+1)*33+j-33=k*33+j by omega,seals_at E k j (by simpa using h) hj]
    simp
theorem own_at {w:World} {B g n cap:Nat} {e:TypeId} {z:Nat} {xs:List Value} (h:w.ownsRow B e z (.slice (some ⟨g,0,none⟩) n cap) n xs) {j:Nat} {u:Value} (hj:xs[j]?=some u):w.cell? ⟨g,j,none⟩=some u:=by
  rcases h.2 with ⟨h',_⟩ | ⟨g2,c,cur,h1,h2,h3,h4,h5,h6,h7⟩
  · cases h'
  · simp only [Value.slice.injEq,Option.some.injEq,Addr.mk.injEq,and_true,true_and] at h1
    obtain ⟨rfl,rfl⟩:=h1
    rw [cell_of_row _ _ _ _ _ _ h3,← Array.getElem?_toList]
    rw [← h7,List.getElem?_take] at hj
    split at hj
    · exact hj
    · cases hj
theorem own_seal_dig {w:World} {B g n cap k:Nat} {E:List ByteArray} (h:w.ownsRow B 183 33 (.slice (some ⟨g,0,none⟩) n cap) n (seals E)) (hk:k<E.length):w.rangeAt g (k*33+1) (blist (hashAt E (k+1))):=by
  intro j u hu
  have hj:j<32:=by have:=(List.getElem?_eq_some_iff.1 hu).1;simpa [hashAt,Sha.digest_length] using this
  refine own_at h ?_
  rw [Nat.add_assoc,seals_at E k (1+j) hk (by omega),Nat.add_comm 1 j]
  exact hu
theorem put_new2 {w1 w2:World} {cs c0:Array Value} {t:TypeId} (h:Put w1.heap.size cs t (w1.alloc (.cells c0 t)) w2):Kept w1.heap.size w1 w2 :=
  (((Kept.refl _ w1).alloc (Nat.le_refl _) _).trans (.of (h.below (Nat.le_refl _))))
theorem range_alloc {w:World} {g o:Nat} {cs:List Value} (h:w.rangeAt g o cs) (O:Obj):(w.alloc O).rangeAt g o cs:=fun j u hu=>by
  have hc:=h j u hu
  have hl:g<w.heap.size:=by
    rcases Nat.lt_or_ge g w.heap.size with h1 | h1
    · exact h1
    · simp [World.cell?,Array.getElem?_eq_none h1] at hc
  rw [World.cell?_of_block (w:=w) (Below.heap_alloc _ _ _ hl)]
  exact hc
def sealA (X:ByteArray) (G:List UInt8):Array Value:=(Value.string X::blist G).toArray
theorem sealA_size {X:ByteArray} {G:List UInt8} (h:G.length=32):(sealA X G).size=33:=by simp [sealA,h]
theorem fold_seal1 (X:ByteArray) {G:List UInt8} (h:G.length=32):Array.foldl (fun cs (x:Value × Nat)=>cs.setIfInBounds (1+x.snd) x.fst) #[Value.string X,Value.int IntKind.u8 0,Value.int IntKind.u8 0,Value.int IntKind.u8 0,Value.int IntKind.u8 0,Value.int IntKind.u8 0,Value.int IntKind.u8 0,Value.int IntKind.u8 0,Value.int IntKind.u8 0,Value.int IntKind.u8 0,Value.int IntKind.u8 0,Value.int IntKind.u8 0,Value.int IntKind.u8 0,Value.int IntKind.u8 0,Value.int IntKind.u8 0,Value.int IntKind.u8 0,Value.int IntKind.u8 0,Value.int IntKind.u8 0,Value.int IntKind.u8 0,Value.int IntKind.u8 0,Value.int IntKind.u8 0,Value.int IntKind.u8 0,Value.int IntKind.u8 0,Value.int IntKind.u8 0,Value.int IntKind.u8 0,Value.int IntKind.u8 0,Value.int IntKind.u8 0,Value.int IntKind.u8 0,Value.int IntKind.u8 0,Value.int IntKind.u8 0,Value.int IntKind.u8 0,Value.int IntKind.u8 0,Value.int IntKind.u8 0] (brow G).zipIdx 0 32=sealA X G:=by
  have h2:(brow G).zipIdx.size=32:=by rw [Array.size_zipIdx,brow_size,h]
  have h3:(brow G).zipIdx.toList=(blist G).zipIdx 0:=by rw [Array.toList_zipIdx];rfl
  have hf:=fold_off 1 (blist G) 0 #[Value.string X,Value.int IntKind.u8 0,Value.int IntKind.u8 0,Value.int IntKind.u8 0,Value.int IntKind.u8 0,Value.int IntKind.u8 0,Value.int IntKind.u8 0,Value.int IntKind.u8 0,Value.int IntKind.u8 0,Value.int IntKind.u8 0,Value.int IntKind.u8 0,Value.int IntKind.u8 0,Value.int IntKind.u8 0,Value.int IntKind.u8 0,Value.int IntKind.u8 0,Value.int IntKind.u8 0,Value.int IntKind.u8 0,Value.int IntKind.u8 0,Value.int IntKind.u8 0,Value.int IntKind.u8 0,Value.int IntKind.u8 0,Value.int IntKind.u8 0,Value.int IntKind.u8 0,Value.int IntKind.u8 0,Value.int IntKind.u8 0,Value.int IntKind.u8 0,Value.int IntKind.u8 0,Value.int IntKind.u8 0,Value.int IntKind.u8 0,Value.int IntKind.u8 0,Value.int IntKind.u8 0,Value.int IntKind.u8 0,Value.int IntKind.u8 0] (by simp [h])
  conv=>lhs;rw [← h2]
  rw [← Array.foldl_toList,h3,hf]
  have hl:(blist G).length=32:=by simp [h]
  rw [hl]
  apply Array.ext'
  simp [sealA]
theorem fold_seal2 {Y:Array Value} (h:Y.size=33):Array.foldl (fun cs (x:Value × Nat)=>cs.setIfInBounds x.snd x.fst) #[Value.string { data:=#[] },Value.int IntKind.u8 0,Value.int IntKind.u8 0,Value.int IntKind.u8 0,Value.int IntKind.u8 0,Value.int IntKind.u8 0,Value.int IntKind.u8 0,Value.int IntKind.u8 0,Value.int IntKind.u8 0,Value.int IntKind.u8 0,Value.int IntKind.u8 0,Value.int IntKind.u8 0,Value.int IntKind.u8 0,Value.int IntKind.u8 0,Value.int IntKind.u8 0,Value.int IntKind.u8 0,Value.int IntKind.u8 0,Value.int IntKind.u8 0,Value.int IntKind.u8 0,Value.int IntKind.u8 0,Value.int IntKind.u8 0,Value.int IntKind.u8 0,Value.int IntKind.u8 0,Value.int IntKind.u8 0,Value.int IntKind.u8 0,Value.int IntKind.u8 0,Value.int IntKind.u8 0,Value.int IntKind.u8 0,Value.int IntKind.u8 0,Value.int IntKind.u8 0,Value.int IntKind.u8 0,Value.int IntKind.u8 0,Value.int IntKind.u8 0] Y.zipIdx 0 33=Y:=by
  have h1:=fold_set Y.toList 0 #[Value.string { data:=#[] },Value.int IntKind.u8 0,Value.int IntKind.u8 0,Value.int IntKind.u8 0,Value.int IntKind.u8 0,Value.int IntKind.u8 0,Value.int IntKind.u8 0,Value.int IntKind.u8 0,Value.int IntKind.u8 0,Value.int IntKind.u8 0,Value.int IntKind.u8 0,Value.int IntKind.u8 0,Value.int IntKind.u8 0,Value.int IntKind.u8 0,Value.int IntKind.u8 0,Value.int IntKind.u8 0,Value.int IntKind.u8 0,Value.int IntKind.u8 0,Value.int IntKind.u8 0,Value.int IntKind.u8 0,Value.int IntKind.u8 0,Value.int IntKind.u8 0,Value.int IntKind.u8 0,Value.int IntKind.u8 0,Value.int IntKind.u8 0,Value.int IntKind.u8 0,Value.int IntKind.u8 0,Value.int IntKind.u8 0,Value.int IntKind.u8 0,Value.int IntKind.u8 0,Value.int IntKind.u8 0,Value.int IntKind.u8 0,Value.int IntKind.u8 0] (by rw [Array.length_toList,h];rfl)
  have h2:Y.zipIdx.size=33:=by rw [Array.size_zipIdx,h]
  conv=>lhs;rw [← h2]
  rw [← Array.foldl_toList,Array.toList_zipIdx]
  exact h1
theorem info183:(Tryz.prog.info? 183).map (fun i=>(i.zero,i.size,i.bytes))=some (some (.agg #[Value.string { data:=#[] },Value.int IntKind.u8 0,Value.int IntKind.u8 0,Value.int IntKind.u8 0,Value.int IntKind.u8 0,Value.int IntKind.u8 0,Value.int IntKind.u8 0,Value.int IntKind.u8 0,Value.int IntKind.u8 0,Value.int IntKind.u8 0,Value.int IntKind.u8 0,Value.int IntKind.u8 0,Value.int IntKind.u8 0,Value.int IntKind.u8 0,Value.int IntKind.u8 0,Value.int IntKind.u8 0,Value.int IntKind.u8 0,Value.int IntKind.u8 0,Value.int IntKind.u8 0,Value.int IntKind.u8 0,Value.int IntKind.u8 0,Value.int IntKind.u8 0,Value.int IntKind.u8 0,Value.int IntKind.u8 0,Value.int IntKind.u8 0,Value.int IntKind.u8 0,Value.int IntKind.u8 0,Value.int IntKind.u8 0,Value.int IntKind.u8 0,Value.int IntKind.u8 0,Value.int IntKind.u8 0,Value.int IntKind.u8 0,Value.int IntKind.u8 0]),33,48):=by kernel_rfl
set_option maxRecDepth 100000 in
set_option maxHeartbeats 2000000 in
theorem headOf_go (v:Value) (B:Nat) (E:List ByteArray) (w:World) (h:w.ownsRow B 183 33 v E.length (seals E)) (hE:E.length<9223372036854775808) :
    Calls Tryz.prog 67 #[v] w fun e w'=>e=.returned (.agg (brow (hashAt E E.length)))∧Kept w.heap.size w w':=by
  obtain ⟨ao,cap,rfl,hcap,hao⟩:=own_len h
  have HO:=hide h
  clear h
  obtain ⟨D,hD⟩:∃ D,D=hashAt E E.length:=⟨_,rfl⟩
  have hDl:D.length=32:=by rw [hD];exact hashAt_len _ _
  have hi24:(Tryz.prog.info? 29).map (·.size)=some (blist D).length:=by have:=rinfo hDl;rwa [brow_size,← List.length_map (f:=fun c:UInt8=>Value.int .u8 (c.toNat:Int))] at this
  rw [← hD]
  cases hn:E.length with
  | zero =>
    have HD:Hid (D=zeros):=hide (by rw [hD,hn];rfl)
    clear hD hi24
    go_enter Tryz.func67,Tryz.ntmps67
    go_wp2_with (refine wpList_store_put rfl 29 (.tmp 2) (.tmp 6) rfl w.heap.size (brow zeros) ?_ ?_ 29 (brow zerosC) ?_ (rinfo rfl) (rzero rfl) (brow_one _) ?_
                 · rfl
                 · rfl
                 · exact heap_alloc_new _ _
                 intro w2 hp2)
    exact bodyPost_ret (v:=.agg (brow zeros)) (results_cell_row Tryz.results67 _ _ w.heap.size 29 _ (0,0) _ rfl hp2.row Tryz.underlying29 rfl (rinfo rfl)) rfl ⟨by rw [uh HD],put_new2 hp2⟩
  | succ k =>
    obtain ⟨g,rfl⟩:=hao (by omega)
    have hr:w.rangeAt g (k*33+1) (blist D):=by
      have:=own_seal_dig (uh HO) (k:=k) (by omega)
      rwa [← hn,← hD] at this
    have HD:=hide hD
    have hkl:(k:Int)<(k:Int)+1:=by omega
    clear hD HO hao
    go_enter Tryz.func67,Tryz.ntmps67
    go_wp2_with (first
      | (refine wpList_load_mid rfl 29 (.tmp 12) rfl g (k*33+1) ?_ (blist D) _ ?_ Tryz.underlying29 rfl hi24 ?_
         · rfl
         · exact range_alloc hr _)
      | (refine wpList_store_put rfl 29 (.tmp 2) (.tmp 13) rfl w.heap.size (brow D) ?_ ?_ 29 (brow zerosC) ?_ (rinfo hDl) (rzero hDl) (brow_one _) ?_
         · rfl
         · rfl
         · exact heap_alloc_new _ _
         intro w2 hp2))
    exact bodyPost_ret (v:=.agg (brow D)) (results_cell_row Tryz.results67 _ _ w.heap.size 29 _ (0,0) _ rfl hp2.row Tryz.underlying29 rfl (rinfo hDl)) rfl ⟨rfl,put_new2 hp2⟩
end Go.Proofs.YtlbacbcenejngaaGreatDoor
namespace Go.Proofs.YtlbacbcenejngaaGreatDoor
open Go.RowKit
def bnd (x:ByteArray) (E:List ByteArray):Bool:=decide (x.data.toList.take 32=hashAt E E.length)&&decide (numOf (x.extract 32 36).data.toList=E.length)
theorem frOk_two {s:ByteArray} (h:frOk s=true):2≤s.size∧2+frSize s≤s.size∧fitsB (frEnt s)=true:=by
  simpa only [frOk,Bool.and_eq_true,decide_eq_true_eq,and_assoc] using h
def walkF (s:ByteArray) (E:List ByteArray):List ByteArray × Int :=
  if _h0:s.size=0 then (E,0)
  else if _h1:frOk s=true then (if bnd (frEnt s) E then walkF (lf s (2+frSize s)) (E++[frEnt s]) else (E,9))
  else (E,1)
termination_by s.size
decreasing_by rw [lf_size];omega
theorem walkF_end {s:ByteArray} {E:List ByteArray} (h:s.size=0):walkF s E=(E,0):=by rw [walkF,dif_pos h]
theorem walkF_form {s:ByteArray} {E:List ByteArray} (h:s.size≠0) (h1:frOk s=false):walkF s E=(E,1):=by rw [walkF,dif_neg h,dif_neg (by rw [h1];simp)]
theorem walkF_chain {s:ByteArray} {E:List ByteArray} (h:s.size≠0) (h1:frOk s=true) (h2:bnd (frEnt s) E=false):walkF s E=(E,9):=by rw [walkF,dif_neg h,dif_pos h1,if_neg (by rw [h2];simp)]
theorem walkF_next {s:ByteArray} {E:List ByteArray} (h:s.size≠0) (h1:frOk s=true) (h2:bnd (frEnt s) E=true):walkF s E=walkF (lf s (2+frSize s)) (E++[frEnt s]):=by rw [walkF,dif_neg h,dif_pos h1,if_pos h2]
theorem Table.kept {w wr:World} {B:Nat} (h:Table w) (hb:Kept B w wr) (hz:0<B):Table wr:=fun k hk=>(hb.cell (p:=⟨0,k,none⟩) hz).trans (h k hk)
structure Wk (w:World) (E:List ByteArray) (v:Value) (wr:World):Prop where
  own:wr.ownsRow w.heap.size 183 33 v E.length (seals E)
  kept:Kept w.heap.size w wr
  t:Table wr
  z:0<w.heap.size
theorem Wk.next {w:World} {E:List ByteArray} {v:Value} {wr wx:World} (h:Wk w E v wr) (hk:Kept wr.heap.size wr wx):Wk w E v wx :=
  ⟨own_kept h.own hk,h.kept.trans (hk.mono h.kept.size),h.t.kept hk (Nat.lt_of_lt_of_le h.z h.kept.size),h.z⟩
def wkEnd (s:ByteArray) (w:World) (e:Ending) (w':World):Prop :=
  ∃ v,e=.returned (.tuple #[v,.int .i64 (walkF s []).2])∧w'.ownsRow w.heap.size 183 33 v (walkF s []).1.length (seals (walkF s []).1)∧Kept w.heap.size w w'
theorem wk_ret {s:ByteArray} {w:World} {E:List ByteArray} {v:Value} {wr:World} {tmps:Array Value} {err:Int} (h:Wk w E v wr) (hwf:walkF s []=(E,err)) (h4:tmps.getD 4 undef=v) (h5:tmps.getD 5 undef=.int .i64 err) :
    bodyPost Tryz.prog Tryz.f66 (wkEnd s w) .ret { tmps:=tmps,defers:=[] } wr:=by
  have h4':tmps[4]?.getD undef=v:=by simpa using h4
  have h5':tmps[5]?.getD undef=.int .i64 err:=by simpa using h5
  refine bodyPost_ret (v:=.tuple #[v,.int .i64 err]) ?_ rfl ⟨v,?_,?_,h.kept⟩
  · simp [results,Tryz.results66,h4',h5']
  · rw [hwf]
  · rw [hwf];exact h.own
theorem put_new {w1 w2:World} {cs c0:Array Value} {t:TypeId} (h:Put w1.heap.size cs t (w1.alloc (.cells c0 t)) w2):Kept w1.heap.size w1 w2:=put_new2 h
theorem wk_link {w1 w2:World} {L c0:Array Value} {A:List UInt8} {pl:Nat} (h:Put w1.heap.size L 179 (w1.alloc (.cells c0 179)) w2) (hL:L=linkOf A pl) (hAl:A.length=32) :
    w2.rangeAt w1.heap.size 0 (blist A)∧w2.cell? ⟨w1.heap.size,32,none⟩=some (.int .u64 (pl:Int)):=by
  constructor
  · intro j u hu
    have hj:j<(blist A).length:=(List.getElem?_eq_some_iff.1 hu).1
    rw [Nat.zero_add,cell_of_row _ _ _ _ _ _ h.row,hL,linkOf,List.getElem?_toArray,List.getElem?_append_left hj]
    exact hu
  · have hl:(blist A).length=32:=by simp [hAl]
    rw [cell_of_row _ _ _ _ _ _ h.row,hL,linkOf,List.getElem?_toArray,List.getElem?_append_right (by omega),hl]
    rfl
theorem link_kept {w w':World} {g:Nat} {A:List UInt8} {pl:Nat} (h:w.rangeAt g 0 (blist A)∧w.cell? ⟨g,32,none⟩=some (.int .u64 (pl:Int))) (hk:Kept w.heap.size w w'):w'.rangeAt g 0 (blist A)∧w'.cell? ⟨g,32,none⟩=some (.int .u64 (pl:Int)):=by
  have hg:g<w.heap.size:=by
    rcases Nat.lt_or_ge g w.heap.size with h1 | h1
    · exact h1
    · have:=h.2;simp [World.cell?,Array.getElem?_eq_none h1] at this
  exact ⟨fun j u hu=>(hk.cell (p:=⟨g,0+j,none⟩) hg).trans (h.1 j u hu),(hk.cell (p:=⟨g,32,none⟩) hg).trans h.2⟩
theorem sealC_one (X:ByteArray):∀ u∈sealC X,u.oneCell'=true:=by
  intro u hu
  rcases List.mem_cons.1 hu with rfl | h
  · rfl
  · obtain ⟨c,_,rfl⟩:=List.mem_map.1 h
    rfl
theorem wk_step {w:World} {E:List ByteArray} {v v':Value} {X:ByteArray} {O:Obj} {w4 w5:World} (h:Wk w E v w4) (ho:w5.ownsRow w.heap.size 183 33 v' (E.length+1) (seals E++sealC X)) (hg:(w4.alloc O).grownBy w5 v.ownBlock):Wk w (E++[X]) v' w5:=by
  have hs:=h.kept.size
  have hk:Kept w.heap.size w4 w5:=own_grownk ((Kept.refl _ w4).alloc hs _) (h.own.alloc _) hg (by simp;omega)
  refine ⟨?_,h.kept.trans hk,h.t.kept hk h.z,h.z⟩
  rw [seals_app,List.length_append,List.length_singleton]
  simpa [seals] using ho
def szOf:Value→Nat
  | .string x=>x.size
  | _=>0
set_option maxRecDepth 100000 in
set_option maxHeartbeats 4000000 in
theorem walk_go (s:ByteArray) (w:World) (hs:s.size≤140737488355000) (hT:Table w) (hz:0<w.heap.size):Calls Tryz.prog 66 #[.string s,.func (.func 35) #[] #[]] w (wkEnd s w):=by
  obtain ⟨i0,hi0,hz0,hz1,hz2⟩:=info_parts info183
  have HT:=hide hT
  clear hT
  go_enter Tryz.func66,Tryz.ntmps66
  go_wp2_with fail
  go_loopw [0,6] (fun vs vl wr=>∃ (o:Nat) (E:List ByteArray),o≤s.size∧137*E.length≤o∧vs=.string (lf s o)∧Wk w E vl wr∧walkF s []=walkF (lf s o) E) (fun vs _ _=>szOf vs)
  case atStart=>exact ⟨0,[],Nat.zero_le _,by simp,by rw [lf_zero],⟨World.ownsRow_nil _ _ _ _,Kept.refl _ _,uh HT,hz⟩,by rw [lf_zero]⟩
  case round =>
    obtain ⟨o,E,ho,hE,rfl,hwk,hwf⟩:=hrel
    have HW:=hide hwk
    have HF:=hide hwf
    clear hwk hwf
    obtain ⟨x,hx⟩:∃ x,x=lf s o:=⟨_,rfl⟩
    have hxs:x.size=s.size-o:=by rw [hx,lf_size]
    rw [← hx]
    have HX:=hide hx
    rw [← hx] at HF
    clear hx
    obtain ⟨D,hD⟩:∃ D,D=hashAt E E.length:=⟨_,rfl⟩
    have hDl:D.length=32:=by rw [hD];exact hashAt_len _ _
    have HD:=hide hD
    clear hD
    have hxt:=size_toList x
    by_cases h0:x.size=0
    · have hemp:x.toList.isEmpty=true:=by
        rw [Lib.toList_data,List.length_eq_zero_iff.1 (show x.data.toList.length=0 by omega)];rfl
      have HWF:=hide ((uh HF).trans (walkF_end h0))
      go_wp2_with fail
      exact wk_ret (uh HW) (uh HWF) rfl rfl
    have hemp:x.toList.isEmpty=false:=by
      rw [Lib.toList_data]
      cases hh:x.data.toList with
      | nil=>rw [hh] at hxt;simp at hxt;omega
      | cons a t=>rfl
    go_wp2_with fail
    refine (readFrame_go x wr (by omega)).mono ?_
    rintro e1 w1 ⟨hy,hn,hk1⟩
    have HW1:=hide ((uh HW).next hk1)
    clear hk1 HW
    by_cases hok':frOk x=false
    · rw [hn hok']
      have HWF:=hide ((uh HF).trans (walkF_form h0 hok'))
      clear hy hn
      go_wp2_with (refine wpList_store_put rfl 179 (.tmp 8) (.tmp 16) rfl w1.heap.size link0 ?_ ?_ 179 link0 ?_ info179 rfl (linkOf_one (List.replicate 32 0) 0) ?_
                   · rfl
                   · rfl
                   · exact heap_alloc_new _ _
                   intro w2 hp2
                   have HW2:=hide ((uh HW1).next (put_new hp2))
                   clear hp2)
      exact wk_ret (uh HW2) (uh HWF) rfl rfl
    have hok:frOk x=true:=by simpa using hok'
    rw [hy hok]
    obtain ⟨h2x,h2n,hfit⟩:=frOk_two hok
    clear hy hn hok'
    obtain ⟨X,hX⟩:∃ X,X=frEnt x:=⟨_,rfl⟩
    obtain ⟨N,hN⟩:∃ N,N=frSize x:=⟨_,rfl⟩
    have hN6:N<65536:=by rw [hN];exact frSize_lt x
    rw [← hN] at h2n
    rw [← hX] at hfit
    have hXs:X.size=N:=by rw [hX,frEnt,← hN,ByteArray.size_extract];omega
    have hX135:=fitsB_size hfit
    obtain ⟨A,hA⟩:∃ A,A=X.data.toList.take 32:=⟨_,rfl⟩
    obtain ⟨pl,hpl⟩:∃ pl,pl=numOf (X.extract 32 36).data.toList:=⟨_,rfl⟩
    have HBN:=hide (show bnd (frEnt x) E=(decide (A=D)&&decide (pl=E.length)) from by rw [bnd,← hX,← hA,← hpl,uh HD])
    rw [← hX,← hA,← hpl]
    have hAl:A.length=32:=by rw [hA,List.length_take,size_toList];omega
    have hpl4:pl<4294967296:=by
      have h:=numOf_lt (X.extract 32 36).data.toList
      have hl:(X.extract 32 36).data.toList.length≤4:=by rw [size_toList,ByteArray.size_extract];omega
      have:256^(X.extract 32 36).data.toList.length≤256^4:=Nat.pow_le_pow_right (by omega) hl
      rw [hpl]
      omega
    obtain ⟨L,hL⟩:∃ L,L=linkOf A pl:=⟨_,rfl⟩
    rw [← hL]
    have hLs:L.size=33:=by rw [hL];exact linkOf_size hAl _
    have hL1:L.all (·.oneCell')=true:=by rw [hL];exact linkOf_one _ _
    have hLi:(Tryz.prog.info? 179).map (·.size)=some L.size:=by rw [hLs];exact info179
    have hLz:link0.size=L.size:=by rw [hLs];rfl
    have HL:=hide hL
    have HXN:=hide (And.intro hX (And.intro hN (And.intro hfit hok)))
    have HA:=hide (And.intro hA hpl)
    clear hL hA hpl hX hN hfit hok
    have hg24:=guard_29
    have hiA:(Tryz.prog.info? 29).map (·.size)=some (blist A).length:=by have:=rinfo hAl;rwa [brow_size,← List.length_map (f:=fun c:UInt8=>Value.int .u8 (c.toNat:Int))] at this
    have hu24:=Tryz.underlying29
    have heq:∀ W,(Op.equalIn 10000 29 (.agg (blist A).toArray) (.agg (brow D))).run Tryz.prog W=.ok (A==D) W:=fun W=>eq_row A D hAl hDl W
    obtain ⟨ao,cap,rfl,hcap,hao⟩:=own_len (uh HW1).own
    have hwl:IntKind.u64.wrap (E.length:Int)=(E.length:Int):=by simp [IntKind.wrap,IntKind.bits,IntKind.signed];omega
    go_wp2_with (refine wpList_store_put rfl 179 (.tmp 8) (.tmp 16) rfl w1.heap.size L ?_ ?_ 179 link0 ?_ hLi hLz hL1 ?_
                 · rfl
                 · rfl
                 · exact heap_alloc_new _ _
                 intro w2 hp2
                 have HW2:=hide ((uh HW1).next (put_new hp2))
                 have HP2:=hide (wk_link hp2 (uh HL) hAl)
                 clear hp2)
    have HW2d:=hide (show Wk w E (.slice ao E.length cap) w2.drew from (uh HW2).next ((Kept.refl _ _).draws 1))
    have hS:w2.drew.rangeAt w1.heap.size 0 (blist A)∧w2.drew.cell? ⟨w1.heap.size,32,none⟩=some (.int .u64 (pl:Int)):=uh HP2
    have hEb:E.length<9223372036854775808:=by omega
    by_cases hAD:A=D
    · have hbq:(A==D)=true:=by rw [hAD];simp
      rw [hbq] at heq
      have HBN2:=hide (show bnd (frEnt x) E=decide (pl=E.length) from by rw [uh HBN,decide_eq_true hAD,Bool.true_and])
      clear hbq hAD
      by_cases hpE:pl=E.length
      · have hpI:(pl:Int)=(E.length:Int):=by omega
        have HWF:=hide ((uh HF).trans (walkF_next h0 (uh HXN).2.2.2 (by rw [uh HBN2,decide_eq_true hpE])))
        clear hpE
        go_region_held3 (fun w'=>w'.rangeAt w1.heap.size 0 (blist A)∧w'.cell? ⟨w1.heap.size,32,none⟩=some (.int .u64 (pl:Int))) (first | assumption | exact hS3) (first
          | (go_at_call 67;(refine (headOf_go (.slice ao E.length cap) w.heap.size E w2.drew (uh HW2d).own hEb).mono ?_;rintro e w3 ⟨rfl,hk3⟩;rw [← (uh HD)];have HW3:=hide ((uh HW2d).next hk3);have hS3:=link_kept hS hk3;clear hk3)))
        all_goals
          go_wp2_with fail
          refine (of_go X w3 (by omega) (uh HW3).t (Nat.lt_of_lt_of_le hz (uh HW3).kept.size)).mono ?_
          rintro _ w4 ⟨rfl,hb4⟩
          have HW4:=hide ((uh HW3).next (.of hb4))
          clear hb4
          obtain ⟨G,hG⟩:∃ G,G=Sha.digest X.data.toList:=⟨_,rfl⟩
          have hGl:G.length=32:=by rw [hG];exact Sha.digest_length _
          rw [← hG]
          have hGs:(brow G).size=32:=by rw [brow_size,hGl]
          obtain ⟨Y,hY⟩:∃ Y,Y=sealA X G:=⟨_,rfl⟩
          have hYs:Y.size=33:=by rw [hY];exact sealA_size hGl
          have hf1:=fold_seal1 X hGl
          rw [← hY] at hf1
          have hf2:=fold_seal2 hYs
          have HY:=hide (show Y=(sealC X).toArray from by rw [hY,hG];rfl)
          have HG:=hide hG
          clear hG hY
          go_wp2_with (refine wpList_halt2 (.tmp 35) (.tmp 41) 128 rfl ?_)
          refine Stp.mk ?_
          refine wpList_append_own _ ?_ (.tmp 35) (.tmp 41) 128 ?_ w.heap.size 183 i0 _ 33 48 Tryz.underlying128 hi0 hz0 hz1 hz2 ?_ (by decide) (.slice ao E.length cap) E.length (seals E) ?_ ?_ ⟨w4.heap.size,0,none⟩ 1 1 (sealC X) ?_ ?_ ?_ ?_ ?_ ?_ ?_ ?_
          · rfl
          · rfl
          · rfl
          · rfl
          · exact (uh HW4).own.alloc _
          · rfl
          · rw [sealC_len]
          · exact news_any (by rw [uh HY])
          · exact sealC_one X
          · unfold maxLen;omega
          · omega
          · have:=(uh HW4).kept.size;simp;omega
          intro v' w5 hown5 hgrow _
          have HW5:=hide (wk_step (uh HW4) hown5 hgrow)
          clear hown5 hgrow
          simp only [zz0,zz1,zz2]
          have hI1:(2:Int)+(X.size:Int)≤(x.size:Int):=by omega
          have hI2:((2:Int)+(X.size:Int)).toNat=2+X.size:=by omega
          go_wp2_with fail
          go_roundw
          case rel =>
            have hnx:x.extract (2+N) (s.size-o)=lf s (o+2+N):=by
              rw [← hxs,uh HX,lf_next,Nat.add_assoc]
            refine ⟨o+2+N,E++[X],by omega,by simp;omega,by rw [hnx],uh HW5,?_⟩
            rw [uh HWF,← (uh HXN).1,← (uh HXN).2.1,← hnx,← hxs]
          case measure =>
            show (x.extract (2+N) (s.size-o)).size<x.size
            rw [ByteArray.size_extract]
            omega
      · have hpI:¬ (pl:Int)=(E.length:Int):=by omega
        have HWF:=hide ((uh HF).trans (walkF_chain h0 (uh HXN).2.2.2 (by rw [uh HBN2,decide_eq_false hpE])))
        go_region_held3 (fun w'=>w'.rangeAt w1.heap.size 0 (blist A)∧w'.cell? ⟨w1.heap.size,32,none⟩=some (.int .u64 (pl:Int))) (first | assumption | exact hS3) (first
          | (go_at_call 67;(refine (headOf_go (.slice ao E.length cap) w.heap.size E w2.drew (uh HW2d).own hEb).mono ?_;rintro e w3 ⟨rfl,hk3⟩;rw [← (uh HD)];have HW3:=hide ((uh HW2d).next hk3);have hS3:=link_kept hS hk3;clear hk3)))
        all_goals
          go_wp2_with fail
          exact wk_ret (uh HW3) (uh HWF) rfl rfl
    · have hbq:(A==D)=false:=by simpa using hAD
      rw [hbq] at heq
      have HWF:=hide ((uh HF).trans (walkF_chain h0 (uh HXN).2.2.2 (by rw [uh HBN,decide_eq_false hAD];rfl)))
      refine wp_region_held_drew (S:=fun w'=>w'.rangeAt w1.heap.size 0 (blist A)) (by kernel_rfl) (hS.1) (fun hHeld=>?_)
      refine tkG 0 (some 21) (.fieldAddr 179 (.tmp 8) 0) 0 none (.pointer (some ⟨w1.heap.size,0,none⟩)) (by kernel_rfl) (fun _ _ _ h=>h) (Or.inl ⟨by kernel_rfl,fun W hW=>by go_simp⟩) hHeld ?_
      simp only [zz0,zz1,zz2]
      refine tkG 1 (some 22) (.load 29 (.tmp 21)) 29 none (.agg (blist A).toArray) (by kernel_rfl) (fun _ _ _ h=>h) (yieldsIf_load_mid (by kernel_rfl) 29 (.tmp 21) rfl w1.heap.size 0 rfl (blist A) _ (fun _ hw=>hw) Tryz.underlying29 rfl hiA) hHeld ?_
      simp only [zz0,zz1,zz2]
      refine tkG 2 (some 23) (.move (.tmp 6)) 128 none (.slice ao E.length cap) (by kernel_rfl) (fun _ _ _ h=>h) (Or.inl ⟨by kernel_rfl,fun W hW=>by go_simp⟩) hHeld ?_
      simp only [zz0,zz1,zz2]
      refine rd1 3 (some 24) (.call { callee:=.value (.func 67),args:=#[.tmp 23],argTypes:=#[128] }) 29 (by kernel_rfl) (fun K hK=>?_)
      go_simp
      refine (headOf_go (.slice ao E.length cap) w.heap.size E w2.drew (uh HW2d).own hEb).mono ?_
      rintro e w3 ⟨rfl,hk3⟩
      rw [← (uh HD)]
      have HW3:=hide ((uh HW2d).next hk3)
      have hS3:=link_kept hS hk3
      clear hk3
      show K _ w3
      refine hK.out _ _ (hS3.1) (fun hHeld3=>?_)
      clear hK K
      try simp only [zz0,zz1,zz2]
      refine tkG 4 (some 25) (.binOp .neq 29 (.tmp 22) (.tmp 24) 29) 4 none (.bool true) (by kernel_rfl) (fun _ _ _ h=>h) (Or.inl ⟨by kernel_rfl,fun W hW=>by go_simp⟩) hHeld3 ?_
      simp only [zz0,zz1,zz2]
      refine tkG 5 (some 26) (.move (.tmp 25)) 4 none (.bool true) (by kernel_rfl) (fun _ _ _ h=>h) (Or.inl ⟨by kernel_rfl,fun W hW=>by go_simp⟩) hHeld3 ?_
      simp only [zz0,zz1,zz2]
      refine tkL 6 [(6,some 27,undef),(7,some 28,undef),(8,some 29,undef),(9,some 30,undef),(10,some 31,undef),(11,some 32,undef)] (by kernel_rfl) (fun _ _ _ _ _ h=>h) (fun _ _=>by kernel_rfl) hHeld3 ?_
      simp only [zz0,zz1,zz2,zz4,zz5]
      refine tkG 12 (some 33) (.pick (.tmp 26) (.const (.bool true)) (.tmp 32)) 4 none (.bool true) (by kernel_rfl) (fun _ _ _ h=>h) (Or.inl ⟨by kernel_rfl,fun W hW=>by go_simp⟩) hHeld3 ?_
      simp only [zz0,zz1,zz2]
      refine wpAnyH_done (by kernel_rfl) ?_ _
      go_wp2_with fail
      exact wk_ret (uh HW3) (uh HWF) rfl rfl
end Go.Proofs.YtlbacbcenejngaaGreatDoor
