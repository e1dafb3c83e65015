/-
  Rs Rx Sa
-/
import Derived.Test.YtlbacbcenejngaaGreatDoorV29
import Derived.Test.YtlbacbcenejngaaGreatDoorV33
import Derived.Test.YtlbacbcenejngaaGreatDoorV02
import Derived.Test.YtlbacbcenejngaaGreatDoorV26
namespace Go.Proofs.YtlbacbcenejngaaGreatDoor
open Go.RowKit Go.MapKept
abbrev bkey (n:Nat):Value:=.int .u8 (n:Int)
def fnv (n:Nat):Value:=.func (.func n) #[] #[]
def rdTab:List (Nat × Value):=[(80,fnv 134),(71,fnv 135),(68,fnv 136),(76,fnv 137),(84,fnv 138),(82,fnv 139)]
theorem und193:Tryz.prog.underlying 193=some (.map 5 192):=by kernel_rfl
set_option maxRecDepth 100000 in
set_option maxHeartbeats 1000000 in
theorem readings_go (w:World):Calls Tryz.prog 105 #[] w fun e w'=>e=.returned (.map (some w.heap.size))∧MapAt (.int .u8) bkey w' w.heap.size rdTab∧Chg (fun _=>False) w w':=by
  have h0:=MapAt.new (.int .u8) bkey w
  have HC:=hide (show Chg (fun i=>i=w.heap.size) w (w.alloc (.map #[] 0)) from chg_alloc _ _ _)
  have hmm:=@run_makeMap Tryz.prog
  go_enter Tryz.func105,Tryz.ntmps105
  go_wp2_with (
    refine wpList_upd (M:=[]) rfl kkByte und193 _ _ _ (Or.inr rfl) h0 80 (fnv 134) rfl rfl rfl ?_
    intro w1 h1 c1 _
    have C1:=hide c1
    clear c1
    refine wpList_upd rfl kkByte und193 _ _ _ (Or.inr rfl) h1 71 (fnv 135) rfl rfl rfl ?_
    intro w2 h2 c2 _
    have C2:=hide c2
    clear c2
    refine wpList_upd rfl kkByte und193 _ _ _ (Or.inr rfl) h2 68 (fnv 136) rfl rfl rfl ?_
    intro w3 h3 c3 _
    have C3:=hide c3
    clear c3
    refine wpList_upd rfl kkByte und193 _ _ _ (Or.inr rfl) h3 76 (fnv 137) rfl rfl rfl ?_
    intro w4 h4 c4 _
    have C4:=hide c4
    clear c4
    refine wpList_upd rfl kkByte und193 _ _ _ (Or.inr rfl) h4 84 (fnv 138) rfl rfl rfl ?_
    intro w5 h5 c5 _
    have C5:=hide c5
    clear c5
    refine wpList_upd rfl kkByte und193 _ _ _ (Or.inr rfl) h5 82 (fnv 139) rfl rfl rfl ?_
    intro w6 h6 c6 _
    have C6:=hide (And.intro h6 c6)
    clear c6 h0 h1 h2 h3 h4 h5 h6)
  go_ret
  refine ⟨rfl,(uh C6).1,?_⟩
  have:=(((((uh HC).trans (uh C1)).trans (uh C2)).trans (uh C3)).trans (uh C4)).trans ((uh C5).trans (uh C6).2)
  exact this.mono fun i hi e=>absurd e (by omega)
theorem call_enter {f:FuncId} {fn:Func} {c:Code} (hf:Tryz.prog.funcs[f]?=some fn) (hname:(fn.name == "runtime.NumGoroutine")=false) (hb:fn.body=some c) (args:Array Value) (w:World):(callFunc f args).run Tryz.prog w=.ok (.enter f args) w:=by
  have h1:¬ fn.name = "runtime.NumGoroutine" := by simpa using hname
  simp [callFunc,go_sem,hf,h1,hb]
theorem ent134 (args:Array Value) (w:World):(callFunc 134 args).run Tryz.prog w=.ok (.enter 134 args) w:=call_enter Tryz.func134 (by kernel_rfl) rfl args w
theorem ent135 (args:Array Value) (w:World):(callFunc 135 args).run Tryz.prog w=.ok (.enter 135 args) w:=call_enter Tryz.func135 (by kernel_rfl) rfl args w
theorem ent136 (args:Array Value) (w:World):(callFunc 136 args).run Tryz.prog w=.ok (.enter 136 args) w:=call_enter Tryz.func136 (by kernel_rfl) rfl args w
theorem ent137 (args:Array Value) (w:World):(callFunc 137 args).run Tryz.prog w=.ok (.enter 137 args) w:=call_enter Tryz.func137 (by kernel_rfl) rfl args w
theorem ent138 (args:Array Value) (w:World):(callFunc 138 args).run Tryz.prog w=.ok (.enter 138 args) w:=call_enter Tryz.func138 (by kernel_rfl) rfl args w
theorem ent139 (args:Array Value) (w:World):(callFunc 139 args).run Tryz.prog w=.ok (.enter 139 args) w:=call_enter Tryz.func139 (by kernel_rfl) rfl args w
def rdFn (op:UInt8):Option Nat:=match op.toNat with | 80=>some 134 | 71=>some 135 | 68=>some 136 | 76=>some 137 | 84=>some 138 | 82=>some 139 | _=>none
def rdOf (op:UInt8) (q:Rq) (s:ByteArray):Option (Rq × ByteArray):=match op.toNat with | 80=>rdPut q s | 71=>rdGet q s | 68=>rdPath q s | 76=>rdList q s | 84=>rdGrant q s | 82=>rdNamed q s | _=>none
theorem rdFn_cases (op:UInt8):(lk op.toNat rdTab=none∧rdFn op=none∧∀ q s,rdOf op q s=none)∨∃ n,lk op.toNat rdTab=some (fnv n)∧rdFn op=some n∧(∀ args w,(callFunc n args).run Tryz.prog w=.ok (.enter n args) w) ∧
    ∀ p g q s w,RqAt w p q→Rd w g s→p≠g→s.size≤140737488355328→Calls Tryz.prog n #[.pointer (some ⟨p,0,none⟩),.pointer (some ⟨g,0,none⟩)] w (rdEnd (rdOf op q s) p g w):=by
  unfold rdFn rdOf
  generalize op.toNat=k
  by_cases h1:k=80
  · subst h1;exact .inr ⟨134,rfl,rfl,ent134,fun p g q s w h1 h2 h3 h4=>readPut_go p g q s w h1 h2 h3 h4⟩
  by_cases h2:k=71
  · subst h2;exact .inr ⟨135,rfl,rfl,ent135,fun p g q s w h1 h2 h3 h4=>readGet_go p g q s w h1 h2 h3 h4⟩
  by_cases h3:k=68
  · subst h3;exact .inr ⟨136,rfl,rfl,ent136,fun p g q s w h1 h2 h3 h4=>readPath_go p g q s w h1 h2 h3 h4⟩
  by_cases h4:k=76
  · subst h4;exact .inr ⟨137,rfl,rfl,ent137,fun p g q s w h1 h2 h3 h4=>readList_go p g q s w h1 h2 h3 h4⟩
  by_cases h5:k=84
  · subst h5;exact .inr ⟨138,rfl,rfl,ent138,fun p g q s w h1 h2 h3 h4=>readGrant_go p g q s w h1 h2 h3 h4⟩
  by_cases h6:k=82
  · subst h6;exact .inr ⟨139,rfl,rfl,ent139,fun p g q s w h1 h2 h3 h4=>readNamed_go p g q s w h1 h2 h3 h4⟩
  refine .inl ⟨lk_none ?_,?_,fun q s=>?_⟩
  · intro p hp
    simp only [rdTab,List.mem_cons,List.not_mem_nil,or_false] at hp
    rcases hp with rfl | rfl | rfl | rfl | rfl | rfl <;> simp only [ne_eq] <;> omega
  · split <;> simp_all
  · split <;> simp_all
def rqOT (op:UInt8) (tk:ByteArray):Rq:={ rq0 with op:=op,token:=tk }
def readQ (s:ByteArray):Option Rq:=match takeB s with
  | some (op,s1)=>match takeN s1 with
    | some (tk,s2)=>match rdOf op (rqOT op tk) s2 with
      | some (q,s3)=>if s3.size=0 then some q else none
      | none=>none
    | none=>none
  | none=>none
structure Rt (B:Nat) (q:Rq) (b:Bool) (w:World):Prop where
  q:RqAt w B q
  b:w.heap[B+1]?=some (.cells #[.bool b] 4 (0,0))
theorem info84:(Tryz.prog.info? 84).map (·.size)=some 9:=by kernel_rfl
theorem catchR_idle (B:Nat) (w:World) :
    CallsD Tryz.prog 101 #[.pointer (some ⟨B,0,none⟩),.pointer (some ⟨B+1,0,none⟩)] .returning w fun e u' w'=>e=.returned (.tuple #[])∧u'=.returning∧w'=w:=by
  refine callsD_of_wpS Tryz.func101 rfl fun c₀ cs hu=>?_
  apply wpS_seq
  apply wpS_region
  simp [wpOpsS,go_sem,recoverD,hu,Tryz.ntmps101,Exit.thenS]
  refine wpS_cond (t:=false) (by simp [Act.eval,Array.replicate]) ?_
  simp only [Bool.false_eq_true,if_false]
  refine wpS_of_wp (wp_skip ?_)
  cases c₀
  simp_all [bodyPostS,results,Tryz.results101]
theorem rq_one (q:Rq):q.cells.all (·.oneCell')=true:=by simp [Rq.cells,Value.oneCell']
set_option maxRecDepth 100000 in
set_option maxHeartbeats 1000000 in
theorem catchR_panic (B:Nat) (q:Rq) (b:Bool) (u:TypeId) (pv:Value) (older:List PanicEntry) (w:World) (hf:Rt B q b w) :
    CallsD Tryz.prog 101 #[.pointer (some ⟨B,0,none⟩),.pointer (some ⟨B+1,0,none⟩)] (.panicking ({ v:=.iface u pv,recovered:=false }::older)) w fun e u' w' =>
      e=.returned (.tuple #[])∧u'=.panicking ({ v:=.iface u pv,recovered:=true }::older)∧Rt B rq0 false w'∧Kept B w w':=by
  refine callsD_of_wpS Tryz.func101 rfl fun c₀ cs hu=>?_
  apply wpS_seq
  apply wpS_region
  simp [wpOpsS,go_sem,recoverD,hu,Tryz.ntmps101,Exit.thenS]
  refine wpS_cond (t:=true) (by simp [Act.eval,Array.replicate]) ?_
  simp only [if_true]
  refine wpS_of_wp ?_
  change Code.wp _ _ _ { tmps:=#[.pointer (some ⟨B,0,none⟩),.pointer (some ⟨B+1,0,none⟩),.iface u pv,.bool true,undef],defers:=[] } w
  have HF:=hide hf
  clear hf
  go_wp2_with (refine wpList_store_put rfl 84 (.tmp 0) (.tmp 4) rfl B rq0.cells ?_ ?_ 84 q.cells ?_ info84 rfl (rq_one _) ?_
               · rfl
               · rfl
               · exact (uh HF).q
               intro w2 hp2
               have hb2:w2.heap[B+1]?=some (.cells #[.bool b] 4 (0,0)):=(hp2.other _ (by omega)).trans (uh HF).b
               have hcb:w2.cell? ⟨B+1,0,none⟩=some (.bool b):=by rw [cell_of_row _ _ _ _ _ _ hb2];rfl
               have hfb:=frozen_of_row _ _ 0 _ _ hb2
               have H2:=hide (And.intro hp2 hb2)
               clear hp2 hb2)
  obtain ⟨hp2,hb2⟩:=uh H2
  have F:Rt B rq0 false (w2.setCell ⟨B+1,0,none⟩ (.bool false)):=by
    refine ⟨?_,?_⟩
    · unfold RqAt
      rw [heap_setCell_other _ _ _ _ (by simp)];exact hp2.row
    · rw [heap_setCell_same _ _ _ _ _ _ hb2];rfl
  have Kp:Kept B w (w2.setCell ⟨B+1,0,none⟩ (.bool false)):=by
    refine (Kept.of (hp2.below (by omega))).setCell (p:=⟨B+1,0,none⟩) (by simp) _
  simp_all [bodyPostS,results,Tryz.results101]
end Go.Proofs.YtlbacbcenejngaaGreatDoor
namespace Go.Proofs.YtlbacbcenejngaaGreatDoor
open Go.RowKit Go.MapKept
def rqEnd (s:ByteArray) (w:World) (e:Ending) (w':World):Prop :=
  (∀ q,readQ s=some q→e=.returned (.tuple #[.agg q.cells,.bool true]))∧(readQ s=none→e=.returned (.tuple #[.agg rq0.cells,.bool false]))∧Kept w.heap.size w w'
set_option maxRecDepth 100000 in
theorem rt_res {B:Nat} {q:Rq} {b:Bool} {w:World} {tmps:Array Value} (hf:Rt B q b w) (h2:tmps.getD 2 undef=.pointer (some ⟨B,0,none⟩)) (h3:tmps.getD 3 undef=.pointer (some ⟨B+1,0,none⟩)) :
    (results Tryz.f71 tmps).run Tryz.prog w=.ok (.tuple #[.agg q.cells,.bool b]) w:=by
  have hc2:w.cell? ⟨B+1,0,none⟩=some (.bool b):=by rw [cell_of_row _ _ _ _ _ _ hf.b];rfl
  have l2:(loadVar 4 ⟨B+1,0,none⟩).run Tryz.prog w=.ok (.bool b) w:=by simp [go_sem,hc2]
  have l1:(loadVar 84 ⟨B,0,none⟩).run Tryz.prog w=.ok (.agg q.cells) w:=run_loadVar_row w _ 84 84 q.cells (0,0) _ hf.q Tryz.underlying84 rfl info84
  have h2':tmps[2]?.getD undef=.pointer (some ⟨B,0,none⟩):=by simpa using h2
  have h3':tmps[3]?.getD undef=.pointer (some ⟨B+1,0,none⟩):=by simpa using h3
  simp [results,Tryz.results71,h2',h3',asAddr,l1,l2]
theorem rt_caught {s:ByteArray} {w w1:World} {tmps:Array Value} (hno:readQ s=none) (hf:∃ q,Rt w.heap.size q false w1) (hk:Kept w.heap.size w w1)
    (h2:tmps.getD 2 undef=.pointer (some ⟨w.heap.size,0,none⟩)) (h3:tmps.getD 3 undef=.pointer (some ⟨w.heap.size+1,0,none⟩)) :
    bodyPostD Tryz.prog Tryz.f71 (rqEnd s w) (.panic oops) { tmps:=tmps,defers:=[{ target:=.fn (.func 101) #[.pointer (some ⟨w.heap.size,0,none⟩),.pointer (some ⟨w.heap.size+1,0,none⟩)],args:=#[] }] } w1:=by
  obtain ⟨q,hfr⟩:=hf
  show Leaves Tryz.prog Tryz.f71 tmps (rqEnd s w) _ (.panicking oops) w1
  refine leaves_cons (f:=101) (args:=#[.pointer (some ⟨w.heap.size,0,none⟩),.pointer (some ⟨w.heap.size+1,0,none⟩)]) (by simp) (by simp [go_sem]) ?_
  refine (catchR_panic w.heap.size q false _ _ _ w1 hfr).mono ?_
  rintro e u' w2 ⟨rfl,rfl,hf2,hk2⟩
  show Leaves Tryz.prog Tryz.f71 tmps (rqEnd s w) [] .returning w2
  exact ⟨_,rt_res hf2 h2 h3,fun q h=>absurd (hno.symm.trans h) (by simp),fun _=>rfl,hk.trans hk2⟩
theorem rt_back {s:ByteArray} {w w1:World} {tmps:Array Value} {q:Rq} (hok:readQ s=some q) (hf:Rt w.heap.size q true w1) (hk:Kept w.heap.size w w1)
    (h2:tmps.getD 2 undef=.pointer (some ⟨w.heap.size,0,none⟩)) (h3:tmps.getD 3 undef=.pointer (some ⟨w.heap.size+1,0,none⟩)) :
    bodyPostD Tryz.prog Tryz.f71 (rqEnd s w) .ret { tmps:=tmps,defers:=[{ target:=.fn (.func 101) #[.pointer (some ⟨w.heap.size,0,none⟩),.pointer (some ⟨w.heap.size+1,0,none⟩)],args:=#[] }] } w1:=by
  show Leaves Tryz.prog Tryz.f71 tmps (rqEnd s w) _ .returning w1
  refine leaves_cons (f:=101) (args:=#[.pointer (some ⟨w.heap.size,0,none⟩),.pointer (some ⟨w.heap.size+1,0,none⟩)]) (by simp) (by simp [go_sem]) ?_
  refine (catchR_idle w.heap.size w1).mono ?_
  rintro e u' w2 ⟨rfl,rfl,rfl⟩
  show Leaves Tryz.prog Tryz.f71 tmps (rqEnd s w) [] .returning w2
  exact ⟨_,rt_res hf h2 h3,fun q' h=>by rw [hok] at h;cases h;rfl,fun h=>absurd (hok.symm.trans h) (by simp),hk⟩
theorem res71_put (t:Array Value) (i:Nat) (hi:4≤i) (v:Value):results Tryz.f71 (t.setIfInBounds i v)=results Tryz.f71 t:=by
  have h:∀ j,j<4→(t.setIfInBounds i v).getD j undef=t.getD j undef:=fun j hj=>by
    rw [Array.getD_eq_getD_getElem?,Array.getD_eq_getD_getElem?,Array.getElem?_setIfInBounds_ne (by omega)]
  unfold results
  rw [Tryz.results71]
  simp only [Array.mapM_eq_mapM_toList,List.mapM_cons,List.mapM_nil,h 2 (by omega),h 3 (by omega)]
structure RSt (w:World) (q:Rq) (s:ByteArray) (wi:World):Prop where
  rt:Rt w.heap.size q false wi
  rd:Rd wi (w.heap.size+2) s
  kept:Kept w.heap.size w wi
theorem RSt.next {w wi w':World} {q q':Rq} {s s':ByteArray} (h:RSt w q s wi) (hc:Chg (fun k=>k=w.heap.size∨k=w.heap.size+2) wi w') (hq:RqAt w' w.heap.size q') (hr:Rd w' (w.heap.size+2) s'):RSt w q' s' w' :=
  ⟨⟨hq,(hc.block _ (Array.getElem?_eq_some_iff.1 h.rt.b).1 (by omega)).trans h.rt.b⟩,hr,h.kept.trans (hc.keptB h.kept.size (fun k hk=>by omega))⟩
theorem RSt.bad {w wi w':World} {q:Rq} {s:ByteArray} (h:RSt w q s wi) (hc:Chg (fun k=>k=w.heap.size∨k=w.heap.size+2) wi w') (hq:∃ q',RqAt w' w.heap.size q'):(∃ q,Rt w.heap.size q false w')∧Kept w.heap.size w w':=by
  obtain ⟨q',hq⟩:=hq
  exact ⟨⟨q',hq,(hc.block _ (Array.getElem?_eq_some_iff.1 h.rt.b).1 (by omega)).trans h.rt.b⟩,h.kept.trans (hc.keptB h.kept.size (fun k hk=>by omega))⟩
theorem rst_start (s:ByteArray) (w:World):RSt w rq0 s (((w.alloc (.cells rq0.cells 84)).alloc (.cells #[.bool false] 4)).alloc (.cells #[.string s] 218)):=by
  refine ⟨⟨?_,?_⟩,?_,?_⟩
  · unfold RqAt
    rw [Below.heap_alloc _ _ _ (by simp only [World.size_alloc];omega),Below.heap_alloc _ _ _ (by simp)]
    exact heap_alloc_new _ _
  · rw [Below.heap_alloc _ _ _ (by simp)]
    have:=heap_alloc_new (w.alloc (.cells rq0.cells 84)) (.cells #[.bool false] 4)
    simpa only [World.size_alloc] using this
  · have:=heap_alloc_new ((w.alloc (.cells rq0.cells 84)).alloc (.cells #[.bool false] 4)) (.cells #[.string s] 218)
    unfold Rd
    simpa only [World.size_alloc] using this
  · exact (((Kept.refl _ _).alloc (Nat.le_refl _) _).alloc (by simp) _).alloc (by simp only [World.size_alloc];omega) _
theorem zero192 (w:World):(zeroValue 192).run Tryz.prog w=.ok .nilFunc w:=by
  have:(Tryz.prog.info? 192).map (fun i=>(i.zero,i.size))=some (some .nilFunc,1):=by kernel_rfl
  simp [zeroValue,typeInfo,go_sem]
  revert this
  cases Tryz.prog.info? 192 <;> simp
  intro h _
  simp [h]
theorem neq_nil (w:World):(binOp .neq 192 .nilFunc .nilFunc).run Tryz.prog w=.ok (.bool false) w:=by kernel_rfl
theorem neq_fn (n:Nat) (w:World):(binOp .neq 192 (.func (.func n) #[] #[]) .nilFunc).run Tryz.prog w=.ok (.bool true) w:=by kernel_rfl
theorem wp_look193 {w:World} {o:Oper} {a:Act} {K:Act→World→Prop} {Q:Exit→Act→World→Prop} {x y:Operand} (ho:o.op=.lookup 193 x y false) (m:Value) (k:Int) (v:Value) (hx:a.eval x=m) (hy:a.eval y=.int .u8 k) (hr:(Instr.lookup 193 m (.int .u8 k) false).run Tryz.prog w=.ok v w) (h:K (a.put o.dst v) w):o.wp Tryz.prog a w K Q:=by
  unfold Oper.wp
  simp [execOp,ho,hx,hy,hr,Result.andThen,Oper.upon]
  exact h
set_option maxRecDepth 100000 in
set_option maxHeartbeats 4000000 in
theorem readReq_go (s:ByteArray) (w:World) (hs:s.size≤140737488355328):Calls Tryz.prog 71 #[.string s] w (rqEnd s w):=by
  have hnil:=neq_nil
  have hnfn:=neq_fn
  have hmf:∀ (fn:Fn) (first cap:Array Value) (w:World),(Instr.makeFunc fn first cap).run Tryz.prog w=.ok (.func fn first cap) w:=fun _ _ _ _=>rfl
  go_enter_defers Tryz.func71,Tryz.ntmps71
  go_wp2_with fail
  refine (new_go s _).mono ?_
  rintro _ w0 ⟨rfl,hw0⟩
  have hst:=rst_start s w
  have H0:=hide (show RSt w rq0 s w0 from by rw [hw0];exact hst)
  clear hst hw0
  simp only [World.size_alloc]
  go_wp2_with fail
  refine (byte_tk (w.heap.size+2) s w0 (uh H0).rd hs).mono ?_
  rintro e w1 ⟨⟨hy,hn⟩,hc⟩
  have hc':Chg (fun k=>k=w.heap.size∨k=w.heap.size+2) w0 w1:=hc.mono fun _ _ e=>.inr e
  rcases htk:takeB s with _ | ⟨op,s1⟩
  · obtain rfl:=hn htk
    have hb:=(uh H0).bad hc' ⟨_,(uh H0).rt.q.chg hc (by omega)⟩
    exact rt_caught (by rw [readQ,htk] <;> rfl) hb.1 hb.2 rfl rfl
  obtain ⟨rfl,hr1⟩:=hy op s1 htk
  have hs1:=takeB_small htk
  have hq1:=(uh H0).rt.q.chg hc (by omega)
  have hc0:=hq1.c 0
  have hf0:=hq1.fz 0
  simp [Rq.cells,rq0] at hc0
  have H1:=hide ((uh H0).next (q':={ rq0 with op:=op }) (hc'.trans (chg_p w1 w.heap.size (w.heap.size+2) 0 (.int .u8 (op.toNat:Int)))) (hq1.set 0 _ rfl) (hr1.set (by omega)))
  have HQ:=hide (show readQ s=match takeN s1 with
    | some (tk,s2)=>match rdOf op (rqOT op tk) s2 with
      | some (q,s3)=>if s3.size=0 then some q else none
      | none=>none
    | none=>none by rw [readQ,htk] <;> rfl)
  have HOP:=hide (rdFn_cases op)
  clear hy hn htk hc hc' hr1 hq1 H0
  generalize hopI:(op.toNat:Int)=opI at *
  have HOPI:=hide hopI
  clear hopI
  go_wp2_with fail
  generalize w1.setCell ⟨w.heap.size,0,none⟩ (.int .u8 opI)=w2 at *
  clear hc0 hf0
  refine (readName_go (w.heap.size+2) s1 w2 (uh H1).rd (by omega)).mono ?_
  rintro e w3 ⟨⟨hy,hn⟩,hc⟩
  have hc':Chg (fun k=>k=w.heap.size∨k=w.heap.size+2) w2 w3:=hc.mono fun _ _ e=>.inr e
  rcases htk:takeN s1 with _ | ⟨tk,s2⟩
  · obtain rfl:=hn htk
    have hb:=(uh H1).bad hc' ⟨_,(uh H1).rt.q.chg hc (by omega)⟩
    exact rt_caught (by rw [uh HQ,htk] <;> rfl) hb.1 hb.2 rfl rfl
  obtain ⟨rfl,hr3⟩:=hy tk s2 htk
  have hs2:=takeN_small htk
  have hq3:=(uh H1).rt.q.chg hc (by omega)
  have hc1:=hq3.c 1
  have hf1:=hq3.fz 1
  simp [Rq.cells,rq0] at hc1
  have H3:=hide ((uh H1).next (q':=rqOT op tk) (hc'.trans (chg_p w3 w.heap.size (w.heap.size+2) 1 (.string tk))) (hq3.set 1 _ rfl) (hr3.set (by omega)))
  have HQ3:=hide (show readQ s=match rdOf op (rqOT op tk) s2 with
      | some (q,s3)=>if s3.size=0 then some q else none
      | none=>none by rw [uh HQ,htk] <;> rfl)
  clear hy hn htk hc hc' hr3 hq3 H1 HQ
  generalize hq0:rqOT op tk=q0 at H3 HQ3
  have HQ0:=hide hq0
  clear hq0
  go_wp2_with fail
  generalize w3.setCell ⟨w.heap.size,1,none⟩ (.string tk)=w4 at *
  clear hc1 hf1
  have hc4:w4.cell? ⟨w.heap.size,0,none⟩=some (.int .u8 opI):=by
    rw [(uh H3).rt.q.c 0,← uh HQ0,← uh HOPI];rfl
  refine wp_region_held_drew (S:=fun w'=>w'.cell? ⟨w.heap.size,0,none⟩=some (.int .u8 opI)) (by kernel_rfl) (by simpa using hc4) (fun hHeld=>?_)
  refine tkP 1 (some 16) (.pointer (some ⟨w.heap.size,0,none⟩)) (by kernel_rfl) (fun c a w h=>leaves_tmps (res71_put _ 16 (by omega) _) _ _ _ h) (fun _ _=>by kernel_rfl) hHeld ?_
  simp only [Act.put,List.setIfInBounds_toArray,List.set_cons_zero,List.set_cons_succ]
  refine tkG 2 (some 17) (.load 5 (.tmp 16)) 5 none (.int .u8 opI) (by kernel_rfl) (fun c a w h=>leaves_tmps (res71_put _ 17 (by omega) _) _ _ _ h) (Or.inl ⟨by kernel_rfl,fun W hW=>by simp [execOp,go_sem,hW]⟩) hHeld ?_
  simp only [Act.put,List.setIfInBounds_toArray,List.set_cons_zero,List.set_cons_succ]
  refine rd1 0 (some 15) (.call { callee:=.value (.func 105),args:=#[],argTypes:=#[] }) 193 (by kernel_rfl) (fun K hK=>?_)
  go_simp
  refine (readings_go _).mono ?_
  rintro _ w5 ⟨rfl,hm5,hch5⟩
  have H5:=hide (show RSt w q0 s2 w5 from ⟨⟨(uh H3).rt.q.chg (S:=fun _=>False) ⟨hch5.os,hch5.output,hch5.size,hch5.block⟩ id,(hch5.block _ (Array.getElem?_eq_some_iff.1 (uh H3).rt.b).1 id).trans (uh H3).rt.b⟩,(uh H3).rd.chg (S:=fun _=>False) ⟨hch5.os,hch5.output,hch5.size,hch5.block⟩ id,(uh H3).kept.trans ⟨hch5.os,hch5.output,hch5.size,fun k hk=>hch5.block k (by have:=(uh H3).kept.size;simp;omega) id⟩⟩)
  have HM5:=hide hm5
  have hc5:w5.cell? ⟨w.heap.size,0,none⟩=some (.int .u8 opI):=by rw [(uh H5).rt.q.c 0,← uh HQ0,← uh HOPI];rfl
  clear hch5 hm5 H3 hc4
  show K _ w5
  refine hK.out _ _ hc5 (fun hHeld5=>?_)
  clear hK K
  rcases uh HOP with ⟨hlk,hfn,hrd⟩ | ⟨n,hlk,hfn,hent,hrd⟩
  · have hlook:(Instr.lookup 193 (.map (some w4.drew.heap.size)) (.int .u8 opI) false).run Tryz.prog w5=.ok .nilFunc w5:=by rw [← uh HOPI];exact run_look0 kkByte und193 (uh HM5) op.toNat (zero192 w5) hlk false
    refine rd1 3 (some 18) (.lookup 193 (.tmp 15) (.tmp 17) false) 192 (by kernel_rfl) (fun K hK=>?_)
    refine wp_look193 (x:=.tmp 15) (y:=.tmp 17) ?_ _ opI (.nilFunc) ?_ ?_ hlook ?_
    · rfl
    · kernel_rfl
    · kernel_rfl
    simp only [Act.put]
    refine hK.out _ _ hc5 (fun hHeld6=>?_)
    clear hK K
    refine tkP 4 (some 5) (.nilFunc) (by kernel_rfl) (fun c a w h=>leaves_tmps (res71_put _ 5 (by omega) _) _ _ _ h) (fun _ _=>by kernel_rfl) hHeld6 ?_
    simp only [Act.put,List.setIfInBounds_toArray,List.set_cons_zero,List.set_cons_succ]
    refine wpAnyH_done (by kernel_rfl) ?_ _
    go_wp2_with fail
    refine (want_no w5).mono ?_
    rintro _ wz ⟨rfl,rfl⟩
    exact rt_caught (by rw [uh HQ3,hrd]) ⟨_,(uh H5).rt⟩ (uh H5).kept rfl rfl
  · have hlook:(Instr.lookup 193 (.map (some w4.drew.heap.size)) (.int .u8 opI) false).run Tryz.prog w5=.ok (fnv n) w5:=by rw [← uh HOPI];exact run_look kkByte und193 (uh HM5) op.toNat hlk false
    refine rd1 3 (some 18) (.lookup 193 (.tmp 15) (.tmp 17) false) 192 (by kernel_rfl) (fun K hK=>?_)
    refine wp_look193 (x:=.tmp 15) (y:=.tmp 17) ?_ _ opI (fnv n) ?_ ?_ hlook ?_
    · rfl
    · kernel_rfl
    · kernel_rfl
    simp only [Act.put]
    refine hK.out _ _ hc5 (fun hHeld6=>?_)
    clear hK K
    refine tkP 4 (some 5) (fnv n) (by kernel_rfl) (fun c a w h=>leaves_tmps (res71_put _ 5 (by omega) _) _ _ _ h) (fun _ _=>by kernel_rfl) hHeld6 ?_
    simp only [Act.put,List.setIfInBounds_toArray,List.set_cons_zero,List.set_cons_succ]
    refine wpAnyH_done (by kernel_rfl) ?_ _
    have HRD:=hide hrd
    clear hrd hlk hfn hlook hc5
    unfold fnv
    go_wp2_with fail
    refine (want_yes w5).mono ?_
    rintro _ wz ⟨rfl,rfl⟩
    go_wp2_with fail
    refine (uh HRD w.heap.size (w.heap.size+2) q0 s2 wz (uh H5).rt.q (uh H5).rd (by omega) (by omega)).mono ?_
    rintro e w6 ⟨⟨hy,hn⟩,hc⟩
    rcases hro:rdOf op q0 s2 with _ | ⟨q,s3⟩
    · obtain ⟨rfl,hq'⟩:=hn hro
      have hb:=(uh H5).bad hc hq'
      exact rt_caught (by rw [uh HQ3,hro] <;> rfl) hb.1 hb.2 rfl rfl
    obtain ⟨rfl,hq6,hr6⟩:=hy q s3 hro
    have H6:=hide ((uh H5).next hc hq6 hr6)
    have HQ6:=hide (show readQ s=if s3.size=0 then some q else none by rw [uh HQ3,hro] <;> rfl)
    clear hy hn hro hc hq6 hr6 H5 HQ3 HRD
    go_wp2_with fail
    by_cases h3:s3.size=0
    · refine (end_yes (w.heap.size+2) s3 w6 (uh H6).rd h3).mono ?_
      rintro _ w7 ⟨rfl,rfl⟩
      have hb7:=(uh H6).rt.b
      have HB:=hide (show readQ s=some q by rw [uh HQ6,if_pos h3])
      go_wp2_with (first
        | (refine wpList_load_row rfl 84 (.tmp 2) rfl w.heap.size ?_ 84 q.cells (0,0) _ ?_ Tryz.underlying84 rfl info84 ?_;· rfl
           · exact (uh H6).rt.q)
        | (refine wpList_store_put rfl 84 (.tmp 2) (.tmp 27) rfl w.heap.size q.cells ?_ ?_ 84 q.cells ?_ info84 rfl (rq_one _) ?_
           · rfl
           · rfl
           · exact (uh H6).rt.q
           intro w8 hp8
           have hb8:w8.heap[w.heap.size+1]?=some (.cells #[.bool false] 4 (0,0)):=(hp8.other _ (by omega)).trans (uh H6).rt.b
           have hcb:w8.cell? ⟨w.heap.size+1,0,none⟩=some (.bool false):=by rw [cell_of_row _ _ _ _ _ _ hb8];rfl
           have hfb:=frozen_of_row _ _ 0 _ _ hb8
           have H8:=hide (And.intro hp8 hb8)
           clear hp8 hb8))
      obtain ⟨hp8,hb8⟩:=uh H8
      refine rt_back (uh HB) ⟨?_,?_⟩ ?_ rfl rfl
      · unfold RqAt
        rw [heap_setCell_other _ _ _ _ (by simp)];exact hp8.row
      · rw [heap_setCell_same _ _ _ _ _ _ hb8];rfl
      · exact ((uh H6).kept.trans (.of (hp8.below (Nat.le_refl _)))).setCell (p:=⟨w.heap.size+1,0,none⟩) (by simp) _
    · refine (end_no (w.heap.size+2) s3 w6 (uh H6).rd h3).mono ?_
      rintro _ w7 ⟨rfl,rfl⟩
      exact rt_caught (by rw [uh HQ6,if_neg h3]) ⟨_,(uh H6).rt⟩ (uh H6).kept rfl rfl
end Go.Proofs.YtlbacbcenejngaaGreatDoor
namespace Go.Proofs.YtlbacbcenejngaaGreatDoor
open Go.RowKit Go.MapKept
def ocells (e:Nat) (more:ByteArray) (F:Value):Array Value:=#[.int .i64 (e:Int),.string more,F]
theorem info86:(Tryz.prog.info? 86).map (·.size)=some 3:=by kernel_rfl
theorem oc_one (e:Nat) (more:ByteArray) {F:Value} (hF:F.oneCell'=true):(ocells e more F).all (·.oneCell')=true:=by simp [ocells,Value.oneCell'];exact hF
theorem oc_ret {fn:Func} {a:Act} {w:World} {R:Ending→World→Prop} {n b e:Nat} {more:ByteArray} {F:Value} (hres:fn.results=#[.cell n 86]) (hrow:w.heap[b]?=some (.cells (ocells e more F) 86 (0,0))) (h:R (.returned (.agg (ocells e more F))) w) (hn:a.tmps.getD n undef=.pointer (some ⟨b,0,none⟩):=by rfl) (hd:a.defers=[]:=by rfl):bodyPost Tryz.prog fn R .ret a w :=
  bodyPost_ret (v:=.agg (ocells e more F)) (results_cell_row hres _ _ b 86 _ (0,0) _ hn hrow Tryz.underlying86 rfl info86) hd h
set_option maxRecDepth 100000 in
theorem refused_go (e:Nat) (w:World):Calls Tryz.prog 42 #[.int .i64 (e:Int)] w fun r w'=>r=.returned (.agg (ocells e .empty .nilFunc))∧Kept w.heap.size w w':=by
  go_enter Tryz.func42,Tryz.ntmps42
  go_wp2_with (refine wpList_store_put rfl 86 (.tmp 2) (.tmp 4) rfl w.heap.size (ocells e .empty .nilFunc) ?_ ?_ 86 (ocells 0 .empty .nilFunc) ?_ info86 rfl (oc_one _ _ rfl) ?_
               · rfl
               · rfl
               · exact heap_alloc_new _ _
               intro w2 hp2)
  exact oc_ret Tryz.results42 hp2.row ⟨rfl,((Kept.refl _ _).alloc (Nat.le_refl _) _).trans (.of (hp2.below (by omega)))⟩
def hasPre (s p:ByteArray):Bool:=decide (p.size≤s.size)&&decide (s.extract 0 p.size=p)
set_option maxRecDepth 100000 in
theorem hasPrefix_go (s p:ByteArray) (w:World) (_hs:s.size≤140737488355328) (_hp:p.size≤140737488355328):Calls Tryz.prog 109 #[.string s,.string p] w fun r w'=>r=.returned (.bool (hasPre s p))∧w'=w:=by
  have hl:Calls Tryz.prog 146 #[.string s,.string p] w fun r w'=>r=.returned (.bool (hasPre s p))∧w'=w:=by
    unfold hasPre
    by_cases h:p.size≤s.size
    · have hI:(p.size:Int)≤(s.size:Int):=by omega
      have HE:=hide (show decide (s.extract 0 p.size=p)=((s.extract 0 p.size).toList==p.toList) from (str_eq).symm)
      rw [decide_eq_true h]
      go_enter Tryz.func146,Tryz.ntmps146
      go_wp2_with fail
      go_ret
      exact ⟨by rw [uh HE];rfl,rfl⟩
    · have hI:¬ (p.size:Int)≤(s.size:Int):=by omega
      rw [decide_eq_false h]
      go_enter Tryz.func146,Tryz.ntmps146
      go_wp2_with fail
      go_ret
      exact ⟨rfl,rfl⟩
  go_enter Tryz.func109,Tryz.ntmps109
  go_wp2_with fail
  refine hl.mono ?_
  rintro _ w1 ⟨rfl,rfl⟩
  go_wp2_with fail
  go_ret
  exact ⟨rfl,rfl⟩
set_option maxRecDepth 100000 in
theorem answer_go (e:Nat) (more:ByteArray) (F:Value) (w:World) (he:e<256) (hm:more.size≤140737488355328):Calls Tryz.prog 43 #[.agg (ocells e more F)] w fun r w'=>r=.returned (.string (bs (UInt8.ofNat e::more.data.toList)))∧Kept w.heap.size w w':=by
  have hbo:=byte_nat e
  have he2:(e:Int) % 256=(e:Int):=by omega
  have HE:=hide (show (e:Int)=((UInt8.ofNat e).toNat:Int) by rw [← hbo,he2])
  have HB:=hide (show bs [UInt8.ofNat e]++more=bs (UInt8.ofNat e::more.data.toList) by rw [show UInt8.ofNat e::more.data.toList=[UInt8.ofNat e]++more.data.toList from rfl,bs_app,bs_of])
  have h1:(bs [UInt8.ofNat e]).size=1:=by rw [bs_size];rfl
  have HP:=hide (packByte_go' (UInt8.ofNat e))
  generalize bs [UInt8.ofNat e]=b1 at *
  clear hbo
  have heI:(e:Int)<256:=by omega
  have hsum:(9223372036854775807<b1.size+more.size)=False:=by simp;omega
  clear h1
  have hwr:IntKind.u8.wrap (e:Int)=(e:Int):=by simp [IntKind.wrap,IntKind.bits,IntKind.signed];omega
  unfold ocells
  have hc0:(w.alloc (.cells #[.int .i64 (e:Int),.string more,F] 86)).drew.cell? ⟨w.heap.size,0,none⟩=some (.int .i64 (e:Int))∧(w.alloc (.cells #[.int .i64 (e:Int),.string more,F] 86)).drew.cell? ⟨w.heap.size,1,none⟩=some (.string more):=by
    show (w.alloc (.cells #[.int .i64 (e:Int),.string more,F] 86)).cell? _=_∧(w.alloc (.cells #[.int .i64 (e:Int),.string more,F] 86)).cell? _=_
    rw [cell_of_row _ _ _ _ _ _ (heap_alloc_new _ _),cell_of_row _ _ _ _ _ _ (heap_alloc_new _ _)];exact ⟨rfl,rfl⟩
  go_enter Tryz.func43,Tryz.ntmps43
  go_wp2_with fail
  go_region_held3 (fun w'=>w'.cell? ⟨w.heap.size,0,none⟩=some (.int .i64 (e:Int))∧w'.cell? ⟨w.heap.size,1,none⟩=some (.string more)) (first | assumption | exact hc0) (first | (go_at_call 81;go_must (refine (uh HP _ (uh HE) _).mono ?_;rintro r w1 ⟨rfl,hb1⟩;have hc1:w1.cell? ⟨w.heap.size,0,none⟩=some (.int .i64 (e:Int))∧w1.cell? ⟨w.heap.size,1,none⟩=some (.string more):=⟨(hb1.cell (by simp)).trans hc0.1,(hb1.cell (by simp)).trans hc0.2⟩;have HB1:=hide hb1;clear hb1)))
  all_goals
    have hb1:=uh HB1
    go_wp2_with fail
    go_ret
    refine ⟨by rw [uh HB];rfl,?_⟩
    have:=Kept.of hb1
    exact ⟨this.os,this.output,by have:=this.size;simp at this;omega,fun k hk=>(this.block k (by simp;omega)).trans (Below.heap_alloc _ _ _ hk)⟩
end Go.Proofs.YtlbacbcenejngaaGreatDoor
