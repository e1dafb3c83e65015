/-
  Ef Eg Oa Ob Eh Oc
-/
import Derived.Test.YtlbacbcenejngaaGreatDoorV02
import Derived.Test.YtlbacbcenejngaaGreatDoorV41
import Derived.Test.YtlbacbcenejngaaGreatDoorV28
import Derived.Test.YtlbacbcenejngaaGreatDoorV38
import Derived.Test.YtlbacbcenejngaaGreatDoorV30
namespace Go.Proofs.YtlbacbcenejngaaGreatDoor
open Go.RowKit
theorem setRow_other (w:World) (g k:Nat) (cs:Array Value) (h:k≠g):(w.setRow g cs).heap[k]?=w.heap[k]?:=by
 unfold World.setRow
 simp [Array.getElem?_modify,Ne.symm h]
theorem app_small {d:Dsk} {n X:ByteArray} (hs:d.stopped=false) (hf:d.files.length≤1000) (hb:∀ f∈d.files,f.data.size≤549755813888) (hX:X.size≤549755813888):(d.append n X).files.length≤1001∧∀ f∈(d.append n X).files,f.data.size≤1099511627776:=by
 have e:(d.append n X).files=appF n X d.files:=by unfold Dsk.append;rw [if_neg (by rw [hs];simp)]
 rw [e]
 unfold appF
 split
 ·refine ⟨by simp;omega,fun f hm=>?_⟩
  rcases List.mem_append.1 hm with hm | hm
  ·have:=hb f hm;omega
  ·rw [List.mem_singleton.1 hm];show X.size≤_;omega
 ·refine ⟨by simp;omega,fun f hm=>?_⟩
  rcases List.mem_or_eq_of_mem_set hm with hm | rfl
  ·have:=hb f hm;omega
  ·show (_++X).size≤_
   rw [ByteArray.size_append]
   have:(d.files.getD (findF n d.files 0).toNat fl0).data.size≤549755813888:=by
    rw [List.getD_eq_getElem?_getD]
    cases hq:d.files[(findF n d.files 0).toNat]? with
    | none=>show (ByteArray.empty).size≤_;decide
    | some f=>exact hb f (List.mem_of_getElem? hq)
   omega
theorem ask_ret {fn:Func} {R:Ending→World→Prop} {tmps:Array Value} {w:World} {i j b c e:Nat} {q:Rq} {more:ByteArray} {F:Value} (hf:fn.results=#[.cell i 84,.cell j 86]) (h1:tmps.getD i undef=.pointer (some ⟨b,0,none⟩)) (h2:tmps.getD j undef=.pointer (some ⟨c,0,none⟩)) (hq:RqAt w b q) (ho:w.heap[c]?=some (.cells (ocells e more F) 86 (0,0)))
  (hR:R (.returned (.tuple #[.agg q.cells,.agg (ocells e more F)])) w):bodyPost Tryz.prog fn R .ret { tmps:=tmps,defers:=[] } w:=by
 have h1':tmps[i]?.getD undef=.pointer (some ⟨b,0,none⟩):=by simpa using h1
 have h2':tmps[j]?.getD undef=.pointer (some ⟨c,0,none⟩):=by simpa using h2
 have l1:(loadVar 84 ⟨b,0,none⟩).run Tryz.prog w=.ok (.agg q.cells) w:=run_loadVar_row w _ 84 84 q.cells (0,0) _ hq Tryz.underlying84 rfl info84
 have l2:(loadVar 86 ⟨c,0,none⟩).run Tryz.prog w=.ok (.agg (ocells e more F)) w:=run_loadVar_row w _ 86 86 _ (0,0) _ ho Tryz.underlying86 rfl info86
 refine bodyPost_ret (v:=.tuple #[.agg q.cells,.agg (ocells e more F)]) ?_ rfl hR
 simp [results,hf,h1',h2',asAddr,l1,l2]
def akEnd (B:Nat) (w:World) (sp:Nat) (L:PL) (q:Rq) (o:Oc) (e:Ending) (w':World):Prop :=
 (∃ F,e=.returned (.tuple #[.agg q.cells,.agg (ocells o.err o.more F)])∧Clo B w.heap.size w' sp L q F o.ch)∧Kept w.heap.size w w'
theorem clo_rows {B n0:Nat} {w6 w7:World} {sp:Nat} {L:PL} {q:Rq} {F:Value} {c:Option Cg} (h:Clo B n0 w6 sp L q F c) (hk:∀ k,n0≤k→w7.heap[k]?=w6.heap[k]?) {n1:Nat} (hn:n1≤n0):Clo B n1 w7 sp L q F c:=by
 have bx:∀ {b2 b3},Bx n0 w6 sp b2 b3 q→Bx n1 w7 sp b2 b3 q:=fun {b2 b3} hx=>⟨(hk _ hx.ge.1).trans hx.s,(hk _ hx.ge.2).trans hx.q,by have:=hx.ge;omega⟩
 cases c with
 | none=>exact h
 | some c =>
  cases c with
  | grant=>obtain ⟨b2,b3,hF,hb⟩:=h;exact ⟨b2,b3,hF,bx hb⟩
  | revoke=>obtain ⟨b2,b3,hF,hb⟩:=h;exact ⟨b2,b3,hF,bx hb⟩
  | drop=>obtain ⟨b2,b3,hF,hb⟩:=h;exact ⟨b2,b3,hF,bx hb⟩
  | put =>
   obtain ⟨b2,b3,b5,pp,hF,hx,h5,hn5,hpp⟩:=h
   refine ⟨b2,b3,b5,pp,hF,bx hx,(hk _ hn5).trans h5,by omega,hpp.imp id fun ⟨h1,h2,h3,h4⟩=>⟨h1,h2,⟨(hk _ h4).trans h3.1,World.ownsRow_nil _ _ _ _,h3.2.2⟩,by omega⟩⟩
set_option maxRecDepth 100000 in
set_option maxHeartbeats 2000000 in
theorem vask_go (B:Nat) (w:World) (vp sp tb pb:Nat) (L:PL) (V:Vlt) (s:ByteArray) (J Lg:Value) (K dn:Value) (hv:w.heap[vp]?=some (.cells #[K,J,Lg,.pointer (some ⟨sp,0,none⟩),dn] 78 (0,0))) (h:StoAt B w sp tb pb L V.sto) (hO:V.sto.Ok) (hB:B≤w.heap.size) (hs:s.size≤140737488354000) :
  Calls Tryz.prog 36 #[.pointer (some ⟨vp,0,none⟩),.string s] w (akEnd B w sp L (V.ask s).1 (V.ask s).2):=by
 obtain ⟨w1,hw1⟩:∃ w1,w1=(w.alloc (.cells rq0.cells 84)).alloc (.cells (ocells 0 .empty .nilFunc) 86):=⟨_,rfl⟩
 have hb0:RqAt w1 w.heap.size rq0:=by unfold RqAt;rw [hw1,Below.heap_alloc _ _ _ (by simp)];exact heap_alloc_new _ _
 have hb1:w1.heap[w.heap.size+1]?=some (.cells (ocells 0 .empty .nilFunc) 86 (0,0)):=by rw [hw1];have:=heap_alloc_new (w.alloc (.cells rq0.cells 84)) (.cells (ocells 0 .empty .nilFunc) 86);simpa only [World.size_alloc] using this
 have HK1:=hide (show Kept w.heap.size w w1 by rw [hw1];exact ((Kept.refl _ _).alloc (Nat.le_refl _) _).alloc (by simp) _)
 have hz1:w1.heap.size=w.heap.size+2:=by rw [hw1];simp
 have HASK:=hide (show (∀ q,readQ s=some q→V.ask s=(q,V.sto.ask q))∧(readQ s=none→V.ask s=(rq0,⟨1,.empty,none⟩)) from ⟨fun q hq=>by unfold Vlt.ask;rw [hq],fun hq=>by unfold Vlt.ask;rw [hq]⟩)
 have HS:=hide h
 have HV:=hide hv
 clear h hv
 go_enter Tryz.func36,Tryz.ntmps36
 go_upto_region 1 with fail
 change Code.wp _ _ _ _ ((w.alloc (.cells rq0.cells 84)).alloc (.cells (ocells 0 .empty .nilFunc) 86))
 rw [← hw1]
 clear hw1
 go_wp2_with fail
 refine (readReq_go s w1 (by omega)).mono ?_
 rintro e2 w2 ⟨hy,hn,hk2⟩
 have HK2:=hide hk2
 have hz2:=hk2.size
 clear hk2
 cases hrq:readQ s with
 | none =>
  obtain rfl:=hn hrq
  have HA:=hide ((uh HASK).2 hrq)
  clear hy hn hrq HASK
  go_upto_region 3 with (refine wpList_store_put rfl 84 (.tmp 6) (.tmp 11) rfl w2.heap.size rq0.cells rfl rfl 84 rq0.cells (heap_alloc_new _ _) info84 rfl (rq_one _) ?_;intro w3 hp3;have HP3:=hide hp3;clear hp3)
  have hq3:RqAt w3 w2.heap.size rq0:=(uh HP3).row
  have HK3:=hide (show Kept w1.heap.size w1 w3 from (((uh HK2).alloc (uh HK2).size _)).trans (Kept.of ((uh HP3).below (uh HK2).size)))
  have hb0':=((uh HK3).block _ (show w.heap.size<w1.heap.size by omega)).trans hb0
  have hb1':=((uh HK3).block _ (show w.heap.size+1<w1.heap.size by omega)).trans hb1
  have hz3:=(uh HK3).size
  have hl3:w2.heap.size<w3.heap.size:=hq3.lt
  clear HP3 hb0 hb1
  refine wp_region_held_drew (S:=fun W=>RqAt W w2.heap.size rq0) (by kernel_rfl) (show RqAt w3.drew w2.heap.size rq0 from hq3) (fun hHeld=>?_)
  refine tkG 0 (some 15) (.load 84 (.tmp 6)) 84 none (.agg rq0.cells) (by kernel_rfl) (fun _ _ _ h=>h) (yieldsIf_load_mid (by kernel_rfl) 84 (.tmp 6) rfl w2.heap.size 0 (by kernel_rfl) rq0.cells.toList _ (fun W hW=>row_range hW) Tryz.underlying84 rfl (by rw [Array.length_toList];exact info84)) hHeld ?_
  simp only [zz0,zz1,zz2]
  refine rd1 1 (some 16) (.call { callee:=.value (.func 42),args:=#[.const (.int .i64 1)],argTypes:=#[43] }) 86 (by kernel_rfl) (fun K hK=>?_)
  go_simp
  refine (refused_go 1 w3.drew).mono ?_
  rintro _ w4 ⟨rfl,hk4⟩
  have HK4:=hide (show Kept w3.heap.size w3 w4 from ⟨hk4.os,hk4.output,hk4.size,hk4.block⟩)
  have hq4:=(hk4.block _ hl3).trans hq3
  have hb04:=(hk4.block _ (show w.heap.size<w3.heap.size by omega)).trans hb0'
  have hb14:=(hk4.block _ (show w.heap.size+1<w3.heap.size by omega)).trans hb1'
  clear hk4
  show K _ w4
  refine hK.out _ _ (hq4) (fun hHeld1=>?_)
  clear hK K
  try simp only [zz0,zz1,zz2]
  refine rd1 2 none (.store 84 (.tmp 4) (.tmp 15)) 0 (by kernel_rfl) (fun K hK=>?_)
  refine wp_store_row 84 (.tmp 4) (.tmp 15) ?_ w.heap.size rq0.cells ?_ ?_ 84 _ hb04 info84 rfl (rq_one _) ?_
  ·rfl
  ·kernel_rfl
  ·kernel_rfl
  simp only [Act.put]
  have hr5:(w4.setRow w.heap.size rq0.cells).heap[w.heap.size]?=some (.cells rq0.cells 84 (0,0)):=setRow_heap _ _ _ _ _ _ hb04
  have ho5:∀ k,k≠w.heap.size→(w4.setRow w.heap.size rq0.cells).heap[k]?=w4.heap[k]?:=fun k hk=>setRow_other _ _ _ _ hk
  have hk5:Kept w.heap.size w4 (w4.setRow w.heap.size rq0.cells):=(Kept.refl _ _).setRow (Nat.le_refl _) _
  generalize w4.setRow w.heap.size rq0.cells=w5 at hr5 ho5 hk5 hK ⊢
  show K _ w5
  refine hK.out _ _ ((ho5 _ (by omega)).trans hq4) (fun hHeld2=>?_)
  clear hK K
  try simp only [zz3]
  refine rd1 3 none (.store 86 (.tmp 5) (.tmp 16)) 0 (by kernel_rfl) (fun K hK=>?_)
  refine wp_store_row 86 (.tmp 5) (.tmp 16) ?_ (w.heap.size+1) (ocells 1 .empty .nilFunc) ?_ ?_ 86 _ ((ho5 _ (by omega)).trans hb14) info86 rfl (oc_one _ _ rfl) ?_
  ·rfl
  ·kernel_rfl
  ·kernel_rfl
  simp only [Act.put]
  have hr6:(w5.setRow (w.heap.size+1) (ocells 1 .empty .nilFunc)).heap[w.heap.size+1]?=some (.cells (ocells 1 .empty .nilFunc) 86 (0,0)):=setRow_heap _ _ _ _ _ _ ((ho5 _ (by omega)).trans hb14)
  have ho6:∀ k,k≠w.heap.size+1→(w5.setRow (w.heap.size+1) (ocells 1 .empty .nilFunc)).heap[k]?=w5.heap[k]?:=fun k hk=>setRow_other _ _ _ _ hk
  have hk6:Kept w.heap.size w5 (w5.setRow (w.heap.size+1) (ocells 1 .empty .nilFunc)):=(Kept.refl _ _).setRow (by omega) _
  generalize w5.setRow (w.heap.size+1) (ocells 1 .empty .nilFunc)=w6 at hr6 ho6 hk6 hK ⊢
  show K _ w6
  refine hK.out _ _ ((ho6 _ (by omega)).trans ((ho5 _ (by omega)).trans hq4)) (fun hHeld3=>?_)
  clear hK K
  try simp only [zz3]
  refine wpAnyH_done (by kernel_rfl) ?_ _
  go_wp2_with fail
  refine ask_ret Tryz.results36 rfl rfl (q:=rq0) ((ho6 _ (by omega)).trans hr5) hr6 ?_
  rw [uh HA]
  exact ⟨⟨_,rfl,rfl⟩,((((uh HK1).trans ((uh HK3).mono (by omega))).trans ((uh HK4).mono (by omega))).trans hk5).trans hk6⟩
 | some q =>
  obtain rfl:=hy q hrq
  have HA:=hide ((uh HASK).1 q hrq)
  have hqo:=readQ_ok hrq
  clear hy hn hrq HASK
  go_upto_region 4 with (refine wpList_store_put rfl 84 (.tmp 6) (.tmp 11) rfl w2.heap.size q.cells rfl rfl 84 rq0.cells (heap_alloc_new _ _) info84 rfl (rq_one _) ?_;intro w3 hp3;have HP3:=hide hp3;clear hp3)
  have hq3:RqAt w3 w2.heap.size q:=(uh HP3).row
  have HK3:=hide (show Kept w1.heap.size w1 w3 from (((uh HK2).alloc (uh HK2).size _)).trans (Kept.of ((uh HP3).below (uh HK2).size)))
  have hb0':=((uh HK3).block _ (show w.heap.size<w1.heap.size by omega)).trans hb0
  have hb1':=((uh HK3).block _ (show w.heap.size+1<w1.heap.size by omega)).trans hb1
  have hz3:=(uh HK3).size
  have hl3:w2.heap.size<w3.heap.size:=hq3.lt
  have HQO:=hide hqo
  clear HP3 hb0 hb1 hqo
  have HKW:=hide (show Kept w.heap.size w w3 from (uh HK1).trans ((uh HK3).mono (by omega)))
  have HCV:=hide (show ∀ W,Kept w.heap.size w W→W.cell? ⟨vp,3,none⟩=some (.pointer (some ⟨sp,0,none⟩)) from fun W hW=>by rw [cell_of_row _ _ _ _ _ _ ((hW.block _ (Array.getElem?_eq_some_iff.1 (uh HV)).1).trans (uh HV))];rfl)
  have hcv3:w3.drew.cell? ⟨vp,3,none⟩=some (.pointer (some ⟨sp,0,none⟩)):=uh HCV w3.drew ((uh HKW).draws 1)
  refine wp_region_held_drew (S:=fun W=>RqAt W w2.heap.size q∧W.cell? ⟨vp,3,none⟩=some (.pointer (some ⟨sp,0,none⟩))) (by kernel_rfl) (show RqAt w3.drew w2.heap.size q∧_ from ⟨hq3,hcv3⟩) (fun hHeld=>?_)
  refine tkG 0 (some 17) (.load 84 (.tmp 6)) 84 none (.agg q.cells) (by kernel_rfl) (fun _ _ _ h=>h) (yieldsIf_load_mid (by kernel_rfl) 84 (.tmp 6) rfl w2.heap.size 0 (by kernel_rfl) q.cells.toList _ (fun W hW=>row_range hW.1) Tryz.underlying84 rfl (by rw [Array.length_toList];exact info84)) hHeld ?_
  simp only [zz0,zz1,zz2]
  refine tkL 3 [(1,some 18,.pointer (some ⟨vp,0,none⟩)),(2,some 19,.pointer (some ⟨vp,0,none⟩)),(3,some 20,.pointer (some ⟨vp,3,none⟩))] (by kernel_rfl) (fun _ _ _ _ _ h=>h) (fun _ _=>by kernel_rfl) hHeld ?_
  simp only [zz0,zz1,zz2,zz4,zz5]
  refine tkG 4 (some 21) (.load 76 (.tmp 20)) 76 none (.pointer (some ⟨sp,0,none⟩)) (by kernel_rfl) (fun _ _ _ h=>h) (Or.inl ⟨by kernel_rfl,fun W hW=>by simp [execOp,go_sem,hW.2]⟩) hHeld ?_
  simp only [zz0,zz1,zz2]
  refine tkG 5 (some 22) (.load 84 (.tmp 6)) 84 none (.agg q.cells) (by kernel_rfl) (fun _ _ _ h=>h) (yieldsIf_load_mid (by kernel_rfl) 84 (.tmp 6) rfl w2.heap.size 0 (by kernel_rfl) q.cells.toList _ (fun W hW=>row_range hW.1) Tryz.underlying84 rfl (by rw [Array.length_toList];exact info84)) hHeld ?_
  simp only [zz0,zz1,zz2]
  refine rd1 6 (some 23) (.call { callee:=.value (.func 72),args:=#[.tmp 21,.tmp 22],argTypes:=#[76,84] }) 86 (by kernel_rfl) (fun K hK=>?_)
  go_simp
  refine (ask_go B w3.drew sp tb pb L V.sto q ((uh HS).kept (show Kept w.heap.size w w3.drew from (uh HKW).draws 1)) hO (uh HQO) (show B≤w3.heap.size by omega)).mono ?_
  rintro _ w4 ⟨⟨F,rfl,hF⟩,hk4⟩
  have HF:=hide hF
  have h1F:=hF.one
  have HK4:=hide (show Kept w3.heap.size w3 w4 from ⟨hk4.os,hk4.output,hk4.size,hk4.block⟩)
  have hq4:=(hk4.block _ hl3).trans hq3
  have hb04:=(hk4.block _ (show w.heap.size<w3.heap.size by omega)).trans hb0'
  have hb14:=(hk4.block _ (show w.heap.size+1<w3.heap.size by omega)).trans hb1'
  have hcv4:w4.cell? ⟨vp,3,none⟩=some (.pointer (some ⟨sp,0,none⟩)):=uh HCV w4 ((uh HKW).trans ((uh HK4).mono (by omega)))
  clear hk4 hF
  show K _ w4
  refine hK.out _ _ (⟨hq4,hcv4⟩) (fun hHeld6=>?_)
  clear hK K
  try simp only [zz0,zz1,zz2]
  refine rd1 7 none (.store 84 (.tmp 4) (.tmp 17)) 0 (by kernel_rfl) (fun K hK=>?_)
  refine wp_store_row 84 (.tmp 4) (.tmp 17) ?_ w.heap.size q.cells ?_ ?_ 84 _ hb04 info84 rfl (rq_one _) ?_
  ·rfl
  ·kernel_rfl
  ·kernel_rfl
  simp only [Act.put]
  have hr5:(w4.setRow w.heap.size q.cells).heap[w.heap.size]?=some (.cells q.cells 84 (0,0)):=setRow_heap _ _ _ _ _ _ hb04
  have ho5:∀ k,k≠w.heap.size→(w4.setRow w.heap.size q.cells).heap[k]?=w4.heap[k]?:=fun k hk=>setRow_other _ _ _ _ hk
  have hk5:Kept w.heap.size w4 (w4.setRow w.heap.size q.cells):=(Kept.refl _ _).setRow (Nat.le_refl _) _
  generalize w4.setRow w.heap.size q.cells=w5 at hr5 ho5 hk5 hK ⊢
  show K _ w5
  refine hK.out _ _ (⟨(ho5 _ (by omega)).trans hq4,uh HCV w5 (((uh HKW).trans ((uh HK4).mono (by omega))).trans hk5)⟩) (fun hHeld7=>?_)
  clear hK K
  try simp only [zz3]
  refine rd1 8 none (.store 86 (.tmp 5) (.tmp 23)) 0 (by kernel_rfl) (fun K hK=>?_)
  refine wp_store_row 86 (.tmp 5) (.tmp 23) ?_ (w.heap.size+1) (ocells (V.sto.ask q).err (V.sto.ask q).more F) ?_ ?_ 86 _ ((ho5 _ (by omega)).trans hb14) info86 rfl (oc_one _ _ h1F) ?_
  ·rfl
  ·kernel_rfl
  ·kernel_rfl
  simp only [Act.put]
  have hr6:(w5.setRow (w.heap.size+1) (ocells (V.sto.ask q).err (V.sto.ask q).more F)).heap[w.heap.size+1]?=some (.cells (ocells (V.sto.ask q).err (V.sto.ask q).more F) 86 (0,0)):=setRow_heap _ _ _ _ _ _ ((ho5 _ (by omega)).trans hb14)
  have ho6:∀ k,k≠w.heap.size+1→(w5.setRow (w.heap.size+1) (ocells (V.sto.ask q).err (V.sto.ask q).more F)).heap[k]?=w5.heap[k]?:=fun k hk=>setRow_other _ _ _ _ hk
  have hk6:Kept w.heap.size w5 (w5.setRow (w.heap.size+1) (ocells (V.sto.ask q).err (V.sto.ask q).more F)):=(Kept.refl _ _).setRow (by omega) _
  generalize w5.setRow (w.heap.size+1) (ocells (V.sto.ask q).err (V.sto.ask q).more F)=w6 at hr6 ho6 hk6 hK ⊢
  show K _ w6
  refine hK.out _ _ (⟨(ho6 _ (by omega)).trans ((ho5 _ (by omega)).trans hq4),uh HCV w6 ((((uh HKW).trans ((uh HK4).mono (by omega))).trans hk5).trans hk6)⟩) (fun hHeld8=>?_)
  clear hK K
  try simp only [zz3]
  refine wpAnyH_done (by kernel_rfl) ?_ _
  go_wp2_with fail
  refine ask_ret Tryz.results36 rfl rfl (q:=q) ((ho6 _ (by omega)).trans hr5) hr6 ?_
  rw [uh HA]
  refine ⟨⟨F,rfl,clo_rows (uh HF) (fun k hk=>?_) (n1:=w.heap.size) (show w.heap.size≤w3.heap.size by omega)⟩,(((uh HKW).trans ((uh HK4).mono (by omega))).trans hk5).trans hk6⟩
  have hk':w3.heap.size≤k:=hk
  exact (ho6 k (by omega)).trans (ho5 k (by omega))
def SWr (jp dp b:Nat) (dg:List UInt8) (W:World):Prop:=W.cell? ⟨jp,0,none⟩=some (.pointer (some ⟨dp,0,none⟩))∧(convert 58 9 (.slice (some ⟨b,0,none⟩) 32 32)).run Tryz.prog W=.ok (.string (bs dg)) W
set_option maxRecDepth 100000 in
set_option maxHeartbeats 2000000 in
theorem write_go (B:Nat) (w:World) (jp dp:Nat) (dv:Value) (d:Dsk) (dg:List UInt8) (req:ByteArray) (hj:w.heap[jp]?=some (.cells #[.pointer (some ⟨dp,0,none⟩)] 143 (0,0))) (h:DAt B 117 149 w dp dv d) (hB:B≤w.heap.size) (hdg:dg.length=32) (hd:d.left=-1∧d.down=false) (hf:d.files.length≤1000) (hb:∀ f∈d.files,f.data.size≤549755813888) (hr:req.size≤549755813000) :
  Calls Tryz.prog 40 #[.pointer (some ⟨jp,0,none⟩),.agg (brow dg),.string req] w (stEnd B 117 149 w dp dv d true ((d.append jour (bs dg++txt req)).sync jour)):=by
 have hst:d.stopped=false:=by unfold Dsk.stopped;rw [hd.1,hd.2];rfl
 obtain ⟨w1,hw1⟩:∃ w1,w1=w.alloc (.cells (brow dg) 29):=⟨_,rfl⟩
 have hbx:w1.heap[w.heap.size]?=some (.cells (brow dg) 29 (0,0)):=by rw [hw1];exact heap_alloc_new _ _
 have HK1:=hide (show Kept w.heap.size w w1 by rw [hw1];exact (Kept.refl _ _).alloc (Nat.le_refl _) _)
 have hz1:w1.heap.size=w.heap.size+1:=by rw [hw1];simp
 have hj1:=((uh HK1).block _ (Array.getElem?_eq_some_iff.1 hj).1).trans hj
 have HSW:=hide (show ∀ W:World,W.heap[jp]?=some (.cells #[.pointer (some ⟨dp,0,none⟩)] 143 (0,0))→W.heap[w.heap.size]?=some (.cells (brow dg) 29 (0,0))→SWr jp dp w.heap.size dg W from fun W h1 h2=>⟨by rw [cell_of_row _ _ _ _ _ _ h1];rfl,conv_range (fun j v hv=>by rw [Nat.zero_add,cell_of_row _ _ _ _ _ _ h2];simpa [brow] using hv) hdg⟩)
 have HD1:=hide (h.kept (uh HK1))
 have s1:(bs dg).size=32:=by rw [bs_size,hdg]
 have s2:=txt_size req
 have hnz:(9223372036854775807<(bs dg).size+(txt req).size)=False:=eq_false (by omega)
 obtain ⟨X,hX⟩:∃ X,X=bs dg++txt req:=⟨_,rfl⟩
 have hXs:X.size≤549755813888:=by rw [hX,ByteArray.size_append];omega
 rw [← hX]
 have hadd:=hX.symm
 have HA1:=hide (fun W (hD:DAt B 117 149 W dp dv d) (hW:B≤W.heap.size)=>append_go B W dp dv d jour X hD hW (by omega) (by omega) (fun f hf'=>by have:=hb f hf';omega) (by omega))
 rw [hst] at HA1
 have hapl:(d.append jour X).left=-1∧(d.append jour X).down=false:=by
  unfold Dsk.append
  rw [if_neg (by rw [hst];simp)]
  unfold Dsk.stepd
  rw [if_neg (by rw [hst];simp)]
  exact ⟨by show (if d.left>0 then _ else _)=_;rw [if_neg (by omega)];exact hd.1,hd.2⟩
 have hapf:=app_small (n:=jour) hst hf hb hXs
 have hst2:(d.append jour X).stopped=false:=by unfold Dsk.stopped;rw [hapl.1,hapl.2];rfl
 have HA2:=hide (fun W v (hD:DAt B 117 149 W dp v (d.append jour X))=>sync_go B W dp v (d.append jour X) jour hD (by omega) (by omega) (fun f hf'=>by have:=hapf.2 f hf';omega))
 rw [hst2] at HA2
 generalize d.append jour X=d2 at *
 have hjo:(⟨#[106,111,117,114,110,97,108]⟩:ByteArray)=jour:=rfl
 clear hX h hj hapl hapf hst hst2 hd hf hb
 go_enter Tryz.func40,Tryz.ntmps40
 go_upto_region 1 with fail
 rw [← hw1]
 clear hw1
 refine wp_region_held_drew (S:=SWr jp dp w.heap.size dg) (by kernel_rfl) (uh HSW w1.drew hj1 hbx) (fun hHeld=>?_)
 refine tkL 3 [(0,some 7,.pointer (some ⟨jp,0,none⟩)),(1,some 8,.pointer (some ⟨jp,0,none⟩)),(2,some 9,.pointer (some ⟨jp,0,none⟩))] (by kernel_rfl) (fun _ _ _ _ _ h=>h) (fun _ _=>by kernel_rfl) hHeld ?_
 simp only [zz0,zz1,zz2,zz4,zz5]
 refine tkG 3 (some 10) (.load 32 (.tmp 9)) 32 none (.pointer (some ⟨dp,0,none⟩)) (by kernel_rfl) (fun _ _ _ h=>h) (Or.inl ⟨by kernel_rfl,fun W hW=>by simp [execOp,go_sem,hW.1]⟩) hHeld ?_
 simp only [zz0,zz1,zz2]
 refine tkP 4 (some 11) (.slice (some ⟨w.heap.size,0,none⟩) 32 32) (by kernel_rfl) (fun _ _ _ h=>h) (fun _ _=>by kernel_rfl) hHeld ?_
 simp only [zz0,zz1,zz2]
 refine tkG 5 (some 12) (.convert 58 9 (.tmp 11)) 9 none (.string (bs dg)) (by kernel_rfl) (fun _ _ _ h=>h) (Or.inl ⟨by kernel_rfl,fun W hW=>by simp [execOp,go_sem,hW.2]⟩) hHeld ?_
 simp only [zz0,zz1,zz2]
 refine tkP 6 (some 13) (.string req) (by kernel_rfl) (fun _ _ _ h=>h) (fun _ _=>by kernel_rfl) hHeld ?_
 simp only [zz0,zz1,zz2]
 refine rd1 7 (some 14) (.call { callee:=.value (.func 76),args:=#[.tmp 13],argTypes:=#[9] }) 9 (by kernel_rfl) (fun K hK=>?_)
 go_simp
 refine (packText_go req w1.drew (by omega)).mono ?_
 rintro _ w2 ⟨rfl,hb2⟩
 have HK2:=hide (show Kept w1.heap.size w1 w2 from ⟨(Kept.of hb2).os,(Kept.of hb2).output,(Kept.of hb2).size,(Kept.of hb2).block⟩)
 clear hb2
 have hj2:=((uh HK2).block _ (Array.getElem?_eq_some_iff.1 hj1).1).trans hj1
 have hbx2:=((uh HK2).block _ (show w.heap.size<w1.heap.size by omega)).trans hbx
 show K _ w2
 refine hK.out _ _ (uh HSW w2 hj2 hbx2) (fun hHeld7=>?_)
 clear hK K
 try simp only [zz0,zz1,zz2]
 refine tkG 8 (some 15) (.binOp .add 9 (.tmp 12) (.tmp 14) 9) 9 none (.string X) (by kernel_rfl) (fun _ _ _ h=>h) (Or.inl ⟨by kernel_rfl,fun W hW=>by simp [execOp,go_sem,hnz,hadd]⟩) hHeld7 ?_
 simp only [zz0,zz1,zz2]
 refine rd1 9 (some 16) (.call { callee:=.value (.func 75),args:=#[.tmp 10,.const (.string { data:=#[106,111,117,114,110,97,108] }),.tmp 15],argTypes:=#[32,9,9] }) 4 (by kernel_rfl) (fun K hK=>?_)
 go_simp
 refine (uh HA1 w2 ((uh HD1).kept (uh HK2)) (by have:=(uh HK2).size;omega)).mono ?_
 rintro _ w3 ⟨rfl,v3,hd3,hu3⟩
 have HD3:=hide (And.intro hd3 hu3)
 have hd2:=(uh HD1).kept (uh HK2)
 have hj3:=(hu3.block jp (Array.getElem?_eq_some_iff.1 hj2).1 (fun e=>by subst e;exact (show TyAt w2 _ 117 from ⟨_,hd2.at'⟩).ne ⟨_,hj2⟩ (by decide) rfl) (fun e=>(show TyAt w2 _ 149 from own_ty hd2.own e).ne ⟨_,hj2⟩ (by decide) rfl)).trans hj2
 have hbx3:=(hu3.block w.heap.size (Array.getElem?_eq_some_iff.1 hbx2).1 (fun e=>(show TyAt w2 dp 117 from ⟨_,hd2.at'⟩).ne ⟨_,hbx2⟩ (by decide) e.symm) (fun e=>(show TyAt w2 _ 149 from own_ty hd2.own e).ne ⟨_,hbx2⟩ (by decide) rfl)).trans hbx2
 clear hd3 hu3 hd2
 show K _ w3
 refine hK.out _ _ (uh HSW w3 hj3 hbx3) (fun hHeld9=>?_)
 clear hK K
 try simp only [zz0,zz1,zz2]
 refine tkL 4 [(10,some 17,.bool true),(11,some 18,.pointer (some ⟨jp,0,none⟩)),(12,some 19,.pointer (some ⟨jp,0,none⟩)),(13,some 20,.pointer (some ⟨jp,0,none⟩))] (by kernel_rfl) (fun _ _ _ _ _ h=>h) (fun _ _=>by kernel_rfl) hHeld9 ?_
 simp only [zz0,zz1,zz2,zz4,zz5]
 refine tkG 14 (some 21) (.load 32 (.tmp 20)) 32 (some (10,true)) (.pointer (some ⟨dp,0,none⟩)) (by kernel_rfl) (fun _ _ _ h=>h) (Or.inl ⟨by kernel_rfl,fun W hW=>by simp [execOp,go_sem,hW.1]⟩) hHeld9 ?_
 simp only [zz0,zz1,zz2]
 refine wpAnyH_ready (rs:=[15]) (by kernel_rfl) (by simp) ?_
 refine rdX (some 22) (.call { callee:=.value (.func 77),args:=#[.tmp 21,.const (.string { data:=#[106,111,117,114,110,97,108] })],argTypes:=#[32,9] }) 4 (some (10,true)) (by kernel_rfl) (fun K hK=>?_) AllReadyH.nil
 refine ite_wanted ?_ ?_
 ·kernel_rfl
 go_simp
 refine (uh HA2 w3 v3 (uh HD3).1).mono ?_
 rintro _ w4 ⟨rfl,v4,hd4,hu4⟩
 have HD4:=hide (And.intro hd4 hu4)
 have hd3:=(uh HD3).1
 have hj4:=(hu4.block jp (Array.getElem?_eq_some_iff.1 hj3).1 (fun e=>by subst e;exact (show TyAt w3 _ 117 from ⟨_,hd3.at'⟩).ne ⟨_,hj3⟩ (by decide) rfl) (fun e=>(show TyAt w3 _ 149 from own_ty hd3.own e).ne ⟨_,hj3⟩ (by decide) rfl)).trans hj3
 have hbx4:=(hu4.block w.heap.size (Array.getElem?_eq_some_iff.1 hbx3).1 (fun e=>(show TyAt w3 dp 117 from ⟨_,hd3.at'⟩).ne ⟨_,hbx3⟩ (by decide) e.symm) (fun e=>(show TyAt w3 _ 149 from own_ty hd3.own e).ne ⟨_,hbx3⟩ (by decide) rfl)).trans hbx3
 clear hd4 hu4 hd3
 show K _ w4
 refine hK.out _ _ (uh HSW w4 hj4 hbx4) (fun hHeld15=>?_)
 clear hK K
 try simp only [zz0,zz1,zz2]
 refine tkL 2 [(16,some 23,.bool true),(17,some 6,.bool true)] (by kernel_rfl) (fun _ _ _ _ _ h=>h) (fun _ _=>by kernel_rfl) hHeld15 ?_
 simp only [zz0,zz1,zz2,zz4,zz5]
 refine wpAnyH_done (by kernel_rfl) ?_ _
 go_wp2_with fail
 go_ret
 exact ⟨rfl,v4,(uh HD4).1,(((Upd.of_kept (uh HK1)).trans (.of_kept (uh HK2))).trans (uh HD3).2).trans (uh HD4).2⟩
end Go.Proofs.YtlbacbcenejngaaGreatDoor
namespace Go.Proofs.YtlbacbcenejngaaGreatDoor
open Go.RowKit
theorem StoAt.knd {B:Nat} {w:World} {sp tb pb:Nat} {L:PL} {S:Sto} (h:StoAt B w sp tb pb L S) {k:Nat} (hk:Sft sp tb pb L k):∃ n∈[169,236,238,0],knd w k=some n:=by
 rcases h.kind hk with h | h | h | ⟨es,c,h⟩
 ·exact ⟨_,by simp,h.knd⟩
 ·exact ⟨_,by simp,h.knd⟩
 ·exact ⟨_,by simp,h.knd⟩
 ·exact ⟨0,by simp,by unfold Go.Proofs.YtlbacbcenejngaaGreatDoor.knd;rw [h]⟩
theorem LAt.knd {B:Nat} {w:World} {lp:Nat} {rv:Value} {SL:List (Loc Snk)} {cnt:Nat} {last:List UInt8} (h:LAt B w lp rv SL cnt last) {k:Nat} (hk:Lft lp rv SL k):∃ n∈[128,42,82,4],knd w k=some n:=by
 rcases (h.foot hk).2 with h | h | h | h
 ·exact ⟨_,by simp,h.knd⟩
 ·exact ⟨_,by simp,h.knd⟩
 ·exact ⟨_,by simp,h.knd⟩
 ·exact ⟨_,by simp,h.knd⟩
theorem DAt.knd {B:Nat} {w:World} {p:Nat} {v:Value} {d:Dsk} (h:DAt B 117 149 w p v d) {k:Nat} (hk:k=p∨v.ownBlock=some k):∃ n∈[118,150],knd w k=some n:=by
 rcases hk with rfl | hk
 ·exact ⟨118,by simp,(show TyAt w k 117 from ⟨_,h.at'⟩).knd⟩
 ·exact ⟨150,by simp,(show TyAt w k 149 from own_ty h.own hk).knd⟩
theorem Upd.stayD {B:Nat} {w w':World} {p:Nat} {v v':Value} {d:Dsk} (h:DAt B 117 149 w p v d) (hu:Upd p v v' w w'):Stay [118,150] w w':=fun k n hk hn=>hu.block k (knd_lt hk) (fun e=>by obtain ⟨m,hm,e2⟩:=h.knd (.inl e);rw [hk] at e2;cases e2;exact hn hm) (fun e=>by obtain ⟨m,hm,e2⟩:=h.knd (.inr e);rw [hk] at e2;cases e2;exact hn hm)
theorem StoAt.over {B:Nat} {w w':World} {sp tb pb:Nat} {L:PL} {S:Sto} (h:StoAt B w sp tb pb L S) {l:List Nat} (hs:Stay l w w') (hl:∀ n∈[169,236,238,0],n∉l):StoAt B w' sp tb pb L S:=h.stay fun k hk=>by obtain ⟨n,hn,e⟩:=h.knd hk;exact hs k n e (hl n hn)
theorem LAt.over {B:Nat} {w w':World} {lp:Nat} {rv:Value} {SL:List (Loc Snk)} {cnt:Nat} {last:List UInt8} (h:LAt B w lp rv SL cnt last) {l:List Nat} (hs:Stay l w w') (hl:∀ n∈[128,42,82,4],n∉l):LAt B w' lp rv SL cnt last:=h.stay fun k hk=>by obtain ⟨n,hn,e⟩:=h.knd hk;exact hs k n e (hl n hn)
theorem DAt.over {B:Nat} {w w':World} {p:Nat} {v:Value} {d:Dsk} (h:DAt B 117 149 w p v d) {l:List Nat} (hs:Stay l w w') (hl:∀ n∈[118,150],n∉l):DAt B 117 149 w' p v d :=
 ⟨by obtain ⟨n,hn,e⟩:=h.knd (.inl rfl);exact (hs _ n e (hl n hn)).trans h.at',own_blocks h.own fun k hk=>by obtain ⟨n,hn,e⟩:=h.knd (.inr hk);exact hs k n e (hl n hn)⟩
theorem row_over {w w':World} {b t:Nat} {cs:Array Value} (h:w.heap[b]?=some (.cells cs t (0,0))) {l:List Nat} (hs:Stay l w w') (hl:t+1∉l):w'.heap[b]?=some (.cells cs t (0,0)):=(hs b _ (show TyAt w b t from ⟨_,h⟩).knd hl).trans h
theorem Clo.over {B n0:Nat} {w w':World} {sp:Nat} {L:PL} {q:Rq} {F:Value} {c:Option Cg} (h:Clo B n0 w sp L q F c) {l:List Nat} (hs:Stay l w w') (hl:∀ n∈[77,85,232,236],n∉l):Clo B n0 w' sp L q F c:=by
 have bx:∀ {b2 b3},Bx n0 w sp b2 b3 q→Bx n0 w' sp b2 b3 q:=fun {b2 b3} hx=>⟨row_over hx.s hs (hl _ (by simp)),row_over hx.q hs (hl _ (by simp)),hx.ge⟩
 cases c with
 | none=>exact h
 | some c =>
  cases c with
  | grant=>obtain ⟨b2,b3,hF,hb⟩:=h;exact ⟨b2,b3,hF,bx hb⟩
  | revoke=>obtain ⟨b2,b3,hF,hb⟩:=h;exact ⟨b2,b3,hF,bx hb⟩
  | drop=>obtain ⟨b2,b3,hF,hb⟩:=h;exact ⟨b2,b3,hF,bx hb⟩
  | put =>
   obtain ⟨b2,b3,b5,pp,hF,hx,h5,hn5,hpp⟩:=h
   exact ⟨b2,b3,b5,pp,hF,bx hx,row_over h5 hs (hl _ (by simp)),hn5,hpp.imp id fun ⟨h1,h2,h3,h4⟩=>⟨h1,h2,⟨row_over h3.1 hs (hl _ (by simp)),World.ownsRow_nil _ _ _ _,h3.2.2⟩,h4⟩⟩
structure VG where
 jp:Nat
 dp:Nat
 dv:Value
 lp:Nat
 rv:Value
 SL:List (Loc Snk)
 sp:Nat
 tb:Nat
 pb:Nat
 L:PL
def vcellsV (key:ByteArray) (g:VG):Array Value:=#[.string key,.pointer (some ⟨g.jp,0,none⟩),.pointer (some ⟨g.lp,0,none⟩),.pointer (some ⟨g.sp,0,none⟩),.bool false]
structure VAt (B:Nat) (w:World) (vp:Nat) (g:VG) (V:Vlt):Prop where
 at':w.heap[vp]?=some (.cells (vcellsV V.key g) 78 (0,0))
 jat:w.heap[g.jp]?=some (.cells #[.pointer (some ⟨g.dp,0,none⟩)] 143 (0,0))
 dsk:DAt B 117 149 w g.dp g.dv V.dsk
 log:LAt B w g.lp g.rv g.SL V.cnt V.last
 snk:g.SL.map (·.x)=V.snks
 sto:StoAt B w g.sp g.tb g.pb g.L V.sto
 ge:B≤vp∧B≤g.jp∧B≤g.dp
def Vft (vp:Nat) (g:VG) (k:Nat):Prop:=k=vp∨k=g.jp∨(k=g.dp∨g.dv.ownBlock=some k)∨Lft g.lp g.rv g.SL k∨Sft g.sp g.tb g.pb g.L k
theorem VAt.foot {B:Nat} {w:World} {vp:Nat} {g:VG} {V:Vlt} (h:VAt B w vp g V) {k:Nat} (hk:Vft vp g k):k<w.heap.size∧B≤k:=by
 rcases hk with rfl | rfl | hk | hk | hk
 ·exact ⟨(Array.getElem?_eq_some_iff.1 h.at').1,h.ge.1⟩
 ·exact ⟨(Array.getElem?_eq_some_iff.1 h.jat).1,h.ge.2.1⟩
 ·rcases hk with rfl | hk
  ·exact ⟨(Array.getElem?_eq_some_iff.1 h.dsk.at').1,h.ge.2.2⟩
  ·have:=h.dsk.own.lt k hk;exact ⟨this.2,this.1⟩
 ·exact (h.log.foot hk).1
 ·exact h.sto.foot_lt hk
theorem VAt.stay {B:Nat} {w w':World} {vp:Nat} {g:VG} {V:Vlt} (h:VAt B w vp g V) (hk:∀ k,Vft vp g k→w'.heap[k]?=w.heap[k]?):VAt B w' vp g V :=
 ⟨(hk _ (.inl rfl)).trans h.at',(hk _ (.inr (.inl rfl))).trans h.jat,⟨(hk _ (.inr (.inr (.inl (.inl rfl))))).trans h.dsk.at',own_blocks h.dsk.own fun k hk'=>hk k (.inr (.inr (.inl (.inr hk'))))⟩,h.log.stay fun k hk'=>hk k (.inr (.inr (.inr (.inl hk')))),h.snk,h.sto.stay fun k hk'=>hk k (.inr (.inr (.inr (.inr hk')))),h.ge⟩
theorem VAt.kept {B:Nat} {w w':World} {vp:Nat} {g:VG} {V:Vlt} (h:VAt B w vp g V) (hk:Kept w.heap.size w w'):VAt B w' vp g V:=h.stay fun k hk'=>hk.block k (h.foot hk').1
theorem VAt.chg {B:Nat} {w w':World} {vp:Nat} {g:VG} {V:Vlt} {S:Nat→Prop} (h:VAt B w vp g V) (hc:Chg S w w') (hn:∀ k,Vft vp g k→¬ S k):VAt B w' vp g V:=h.stay fun k hk'=>hc.block k (h.foot hk').1 (hn k hk')
theorem VAt.setD {B:Nat} {w w':World} {vp:Nat} {g:VG} {V:Vlt} (h:VAt B w vp g V) {v':Value} {d':Dsk} (hd:DAt B 117 149 w' g.dp v' d') (hu:Upd g.dp g.dv v' w w'):VAt B w' vp { g with dv:=v' } { V with dsk:=d' }∧Chg (Vft vp g) w w'∧∀ k,Vft vp { g with dv:=v' } k→Vft vp g k∨w.heap.size≤k:=by
 have hs:=hu.stayD h.dsk
 refine ⟨⟨row_over h.at' hs (by decide),row_over h.jat hs (by decide),hd,h.log.over hs (by decide),h.snk,h.sto.over hs (by decide),h.ge⟩,⟨hu.os,hu.output,hu.size,fun k hk hn=>hu.block k hk (fun e=>hn (.inr (.inr (.inl (.inl e))))) (fun e=>hn (.inr (.inr (.inl (.inr e)))))⟩,fun k hk=>?_⟩
 rcases hk with hk | hk | hk | hk | hk
 ·exact .inl (.inl hk)
 ·exact .inl (.inr (.inl hk))
 ·rcases hk with hk | hk
  ·exact .inl (.inr (.inr (.inl (.inl hk))))
  ·rcases hu.new k hk with hk | hk
   ·exact .inl (.inr (.inr (.inl (.inr hk))))
   ·exact .inr hk
 ·exact .inl (.inr (.inr (.inr (.inl hk))))
 ·exact .inl (.inr (.inr (.inr (.inr hk))))
theorem VAt.setL {B:Nat} {w w':World} {vp:Nat} {g:VG} {V:Vlt} (h:VAt B w vp g V) {SL':List (Loc Snk)} {cnt:Nat} {last:List UInt8} (hl:LAt B w' g.lp g.rv SL' cnt last) (hc:Chg (Lft g.lp g.rv g.SL) w w') (hf:∀ k,Lft g.lp g.rv SL' k→Lft g.lp g.rv g.SL k∨w.heap.size≤k) :
  VAt B w' vp { g with SL:=SL' } { V with snks:=SL'.map (·.x),cnt:=cnt,last:=last }∧Chg (Vft vp g) w w'∧(∀ k,Vft vp { g with SL:=SL' } k→Vft vp g k∨w.heap.size≤k)∧Stay [128,42,82,4] w w':=by
 have hs:Stay [128,42,82,4] w w':=hc.stay fun k n hk e=>by obtain ⟨m,hm,e2⟩:=h.log.knd hk;rw [e] at e2;cases e2;exact hm
 refine ⟨⟨row_over h.at' hs (by decide),row_over h.jat hs (by decide),h.dsk.over hs (by decide),hl,rfl,h.sto.over hs (by decide),h.ge⟩,hc.mono fun k _ e=>.inr (.inr (.inr (.inl e))),fun k hk=>?_,hs⟩
 rcases hk with hk | hk | hk | hk | hk
 ·exact .inl (.inl hk)
 ·exact .inl (.inr (.inl hk))
 ·exact .inl (.inr (.inr (.inl hk)))
 ·exact (hf k hk).imp (fun e=>.inr (.inr (.inr (.inl e)))) id
 ·exact .inl (.inr (.inr (.inr (.inr hk))))
theorem VAt.setS {B n0:Nat} {w w':World} {vp:Nat} {g:VG} {V:Vlt} (h:VAt B w vp g V) {L':PL} {S':Sto} (hs:StoAt B w' g.sp g.tb g.pb L' S') (hst:Stay [169,236,238,0] w w') (hc:Chg (fun k=>Sft g.sp g.tb g.pb g.L k∨n0≤k) w w') (hf:∀ k,Sft g.sp g.tb g.pb L' k→Sft g.sp g.tb g.pb g.L k∨n0≤k) :
  VAt B w' vp { g with L:=L' } { V with sto:=S' }∧Chg (fun k=>Vft vp g k∨n0≤k) w w'∧∀ k,Vft vp { g with L:=L' } k→Vft vp g k∨n0≤k:=by
 refine ⟨⟨row_over h.at' hst (by decide),row_over h.jat hst (by decide),h.dsk.over hst (by decide),h.log.over hst (by decide),h.snk,hs,h.ge⟩,hc.mono fun k _ e=>e.imp (fun e=>.inr (.inr (.inr (.inr e)))) id,fun k hk=>?_⟩
 rcases hk with hk | hk | hk | hk | hk
 ·exact .inl (.inl hk)
 ·exact .inl (.inr (.inl hk))
 ·exact .inl (.inr (.inr (.inl hk)))
 ·exact .inl (.inr (.inr (.inr (.inl hk))))
 ·exact (hf k hk).imp (fun e=>.inr (.inr (.inr (.inr e)))) id
set_option maxRecDepth 100000 in
set_option maxHeartbeats 1000000 in
theorem head_go (B:Nat) (w:World) (vp:Nat) (g:VG) (V:Vlt) (h:VAt B w vp g V) :
  Calls Tryz.prog 11 #[.pointer (some ⟨vp,0,none⟩)] w fun e w'=>e=.returned (.tuple #[.int .i64 (V.cnt:Int),.agg (brow V.last)])∧Kept w.heap.size w w':=by
 obtain ⟨w1,hw1⟩:∃ w1,w1=w.alloc (.cells (brow (List.replicate 32 0)) 29):=⟨_,rfl⟩
 have hbx:w1.heap[w.heap.size]?=some (.cells (brow (List.replicate 32 0)) 29 (0,0)):=by rw [hw1];exact heap_alloc_new _ _
 have HK1:=hide (show Kept w.heap.size w w1 by rw [hw1];exact (Kept.refl _ _).alloc (Nat.le_refl _) _)
 have hz1:w1.heap.size=w.heap.size+1:=by rw [hw1];simp
 have H1:=hide (h.kept (uh HK1))
 have hc2:w1.cell? ⟨vp,2,none⟩=some (.pointer (some ⟨g.lp,0,none⟩)):=by rw [cell_of_row _ _ _ _ _ _ (uh H1).at'];rfl
 have hlen:=h.log.len
 have hi:(Tryz.prog.info? 29).map (·.size)=some (brow V.last).size:=by rw [brow_size,hlen];exact info29
 have hz:(brow (List.replicate 32 0)).size=(brow V.last).size:=by rw [brow_size,brow_size,hlen];rfl
 have h1:=brow_one V.last
 clear h
 go_enter Tryz.func11,Tryz.ntmps11
 go_upto_region 1 with fail
 change Code.wp _ _ _ _ (w.alloc (.cells (brow (List.replicate 32 0)) 29))
 rw [← hw1]
 clear hw1
 go_wp2_with fail
 refine (headA_go B w1 g.lp g.rv g.SL V.cnt V.last (uh H1).log).mono ?_
 rintro _ w2 ⟨rfl,hk2⟩
 have hbx2:=(hk2.block _ (show w.heap.size<w1.heap.size by omega)).trans hbx
 have HK2:=hide ((uh HK1).trans (hk2.mono (by omega)))
 clear hk2
 go_wp2_with (first | (refine wpList_store_put rfl 29 (.tmp 3) (.tmp 10) rfl w.heap.size (brow V.last) rfl rfl 29 _ hbx2 hi hz h1 ?_;intro w3 hp3))
 exact hd_ret Tryz.results11 hlen rfl rfl hp3.row ⟨rfl,(uh HK2).trans (Kept.of (hp3.below (Nat.le_refl _)))⟩
end Go.Proofs.YtlbacbcenejngaaGreatDoor
namespace Go.Proofs.YtlbacbcenejngaaGreatDoor
open Go.RowKit
theorem alloc_snd' (w:World) (a b:Obj):((w.alloc a).alloc b).heap[w.heap.size+1]?=some b:=by have:=heap_alloc_new (w.alloc a) b;simpa only [World.size_alloc] using this
abbrev rec0:Array Value:=(blist (List.replicate 32 0)++[Value.string .empty]).toArray
theorem info174:(Tryz.prog.info? 174).map (·.size)=some 33:=by kernel_rfl
theorem rec0_one:rec0.all (·.oneCell')=true:=by
  refine all_oneCell_toArray fun v hv=>?_
  rcases List.mem_append.1 hv with h | h
  · exact blist_one _ v h
  · rw [List.mem_singleton.1 h];rfl
structure Jr (B:Nat) (w:World):Prop where
  r:w.heap[B]?=some (.cells rec0 174 (0,0))
  l:w.heap[B+1]?=some (.cells #[.string .empty] 9 (0,0))
  b:w.heap[B+2]?=some (.cells #[.bool false] 4 (0,0))
set_option maxRecDepth 100000 in
set_option maxHeartbeats 1000000 in
theorem catchJ_panic (B:Nat) (u:TypeId) (pv:Value) (older:List PanicEntry) (w:World) (hf:Jr B w) :
    CallsD Tryz.prog 161 #[.pointer (some ⟨B,0,none⟩),.pointer (some ⟨B+1,0,none⟩),.pointer (some ⟨B+2,0,none⟩)] (.panicking ({ v:=.iface u pv,recovered:=false }::older)) w fun e u' w' =>
      e=.returned (.tuple #[])∧u'=.panicking ({ v:=.iface u pv,recovered:=true }::older)∧Jr B w'∧Kept B w w':=by
  refine callsD_of_wpS Tryz.func161 rfl fun c₀ cs hu=>?_
  apply wpS_seq
  apply wpS_region
  simp [wpOpsS,go_sem,recoverD,hu,Tryz.ntmps161,Exit.thenS]
  refine wpS_cond (t:=true) (by simp [Act.eval,Array.replicate]) ?_
  simp only [if_true]
  refine wpS_of_wp ?_
  change Code.wp _ _ _ { tmps:=#[.pointer (some ⟨B,0,none⟩),.pointer (some ⟨B+1,0,none⟩),.pointer (some ⟨B+2,0,none⟩),.iface u pv,.bool true,undef],defers:=[] } w
  have HF:=hide hf
  clear hf
  go_wp2_with (refine wpList_store_put rfl 174 (.tmp 0) (.tmp 5) rfl B rec0 ?_ ?_ 174 rec0 ?_ info174 rfl rec0_one ?_
               · rfl
               · rfl
               · exact (uh HF).r
               intro w2 hp2
               have hl2:w2.heap[B+1]?=some (.cells #[.string .empty] 9 (0,0)):=(hp2.other _ (by omega)).trans (uh HF).l
               have hb2:w2.heap[B+2]?=some (.cells #[.bool false] 4 (0,0)):=(hp2.other _ (by omega)).trans (uh HF).b
               have hcl:w2.cell? ⟨B+1,0,none⟩=some (.string .empty):=by rw [cell_of_row _ _ _ _ _ _ hl2];rfl
               have hfl:=frozen_of_row _ _ 0 _ _ hl2
               have hb3:(w2.setCell ⟨B+1,0,none⟩ (.string ⟨#[]⟩)).heap[B+2]?=some (.cells #[.bool false] 4 (0,0)):=by rw [heap_setCell_other _ _ _ _ (by simp)];exact hb2
               have hcb:(w2.setCell ⟨B+1,0,none⟩ (.string ⟨#[]⟩)).cell? ⟨B+2,0,none⟩=some (.bool false):=by rw [cell_of_row _ _ _ _ _ _ hb3];rfl
               have hfb:(w2.setCell ⟨B+1,0,none⟩ (.string ⟨#[]⟩)).frozen? ⟨B+2,0,none⟩=false:=frozen_of_row _ _ 0 _ _ hb3
               have H2:=hide (And.intro hp2 (And.intro hl2 hb3))
               clear hp2 hb2 hl2 hb3)
  obtain ⟨hp2,hl2,hb3⟩:=uh H2
  have F:Jr B ((w2.setCell ⟨B+1,0,none⟩ (.string ⟨#[]⟩)).setCell ⟨B+2,0,none⟩ (.bool false)):=by
    refine ⟨?_,?_,?_⟩
    · rw [heap_setCell_other _ _ _ _ (by simp),heap_setCell_other _ _ _ _ (by simp)];exact hp2.row
    · rw [heap_setCell_other _ _ _ _ (by simp),heap_setCell_same _ _ _ _ _ _ hl2];rfl
    · rw [heap_setCell_same _ _ _ _ _ _ hb3];rfl
  have K:Kept B w ((w2.setCell ⟨B+1,0,none⟩ (.string ⟨#[]⟩)).setCell ⟨B+2,0,none⟩ (.bool false)) :=
    ((Kept.of (hp2.below (Nat.le_refl _))).setCell (p:=⟨B+1,0,none⟩) (by simp) _).setCell (p:=⟨B+2,0,none⟩) (by simp) _
  simp_all [bodyPostS,results,Tryz.results161]
set_option maxRecDepth 100000 in
theorem jr_res {B:Nat} {w:World} {tmps:Array Value} (hf:Jr B w) (h2:tmps.getD 2 undef=.pointer (some ⟨B,0,none⟩)) (h3:tmps.getD 3 undef=.pointer (some ⟨B+1,0,none⟩)) (h4:tmps.getD 4 undef=.pointer (some ⟨B+2,0,none⟩)) :
    (results Tryz.f127 tmps).run Tryz.prog w=.ok (.tuple #[.agg rec0,.string .empty,.bool false]) w:=by
  have hc0:w.cell? ⟨B+1,0,none⟩=some (.string .empty):=by rw [cell_of_row _ _ _ _ _ _ hf.l];rfl
  have hc2:w.cell? ⟨B+2,0,none⟩=some (.bool false):=by rw [cell_of_row _ _ _ _ _ _ hf.b];rfl
  have l0:(loadVar 9 ⟨B+1,0,none⟩).run Tryz.prog w=.ok (.string .empty) w:=by simp [go_sem,hc0]
  have l2:(loadVar 4 ⟨B+2,0,none⟩).run Tryz.prog w=.ok (.bool false) w:=by simp [go_sem,hc2]
  have l1:(loadVar 174 ⟨B,0,none⟩).run Tryz.prog w=.ok (.agg rec0) w:=run_loadVar_row w _ 174 174 rec0 (0,0) _ hf.r Tryz.underlying174 rfl info174
  have h2':tmps[2]?.getD undef=.pointer (some ⟨B,0,none⟩):=by simpa using h2
  have h3':tmps[3]?.getD undef=.pointer (some ⟨B+1,0,none⟩):=by simpa using h3
  have h4':tmps[4]?.getD undef=.pointer (some ⟨B+2,0,none⟩):=by simpa using h4
  simp [results,Tryz.results127,h2',h3',h4',asAddr,l0,l1,l2]
def rcEnd (w:World) (e:Ending) (w':World):Prop:=e=.returned (.tuple #[.agg rec0,.string .empty,.bool false])∧Kept w.heap.size w w'
theorem jr_caught {w w1:World} {tmps:Array Value} (hf:Jr w.heap.size w1) (hk:Kept w.heap.size w w1)
    (h2:tmps.getD 2 undef=.pointer (some ⟨w.heap.size,0,none⟩)) (h3:tmps.getD 3 undef=.pointer (some ⟨w.heap.size+1,0,none⟩)) (h4:tmps.getD 4 undef=.pointer (some ⟨w.heap.size+2,0,none⟩)) :
    bodyPostD Tryz.prog Tryz.f127 (rcEnd w) (.panic oops) { tmps:=tmps,defers:=[{ target:=.fn (.func 161) #[.pointer (some ⟨w.heap.size,0,none⟩),.pointer (some ⟨w.heap.size+1,0,none⟩),.pointer (some ⟨w.heap.size+2,0,none⟩)],args:=#[] }] } w1:=by
  show Leaves Tryz.prog Tryz.f127 tmps (rcEnd w) _ (.panicking oops) w1
  refine leaves_cons (f:=161) (args:=#[.pointer (some ⟨w.heap.size,0,none⟩),.pointer (some ⟨w.heap.size+1,0,none⟩),.pointer (some ⟨w.heap.size+2,0,none⟩)]) (by simp) (by simp [go_sem]) ?_
  refine (catchJ_panic w.heap.size _ _ _ w1 hf).mono ?_
  rintro e u' w2 ⟨rfl,rfl,hf2,hk2⟩
  show Leaves Tryz.prog Tryz.f127 tmps (rcEnd w) [] .returning w2
  exact ⟨_,jr_res hf2 h2 h3 h4,rfl,hk.trans hk2⟩
set_option maxRecDepth 100000 in
set_option maxHeartbeats 1000000 in
theorem readRec_go (w:World):Calls Tryz.prog 127 #[.string .empty] w (rcEnd w):=by
  have hmf:∀ (fn:Fn) (first cap:Array Value) (w:World),(Instr.makeFunc fn first cap).run Tryz.prog w=.ok (.func fn first cap) w:=fun _ _ _ _=>rfl
  have HW:=hide (show ∃ w1,w1=((w.alloc (.cells rec0 174)).alloc (.cells #[.string .empty] 9)).alloc (.cells #[.bool false] 4)∧Jr w.heap.size w1∧Kept w.heap.size w w1∧w1.heap.size=w.heap.size+3 from by
    refine ⟨_,rfl,⟨?_,?_,?_⟩,(((Kept.refl _ _).alloc (Nat.le_refl _) _).alloc (by simp) _).alloc (by simp only [World.size_alloc];omega) _,by simp⟩
    · rw [Below.heap_alloc _ _ _ (by simp only [World.size_alloc];omega),Below.heap_alloc _ _ _ (by simp)];exact heap_alloc_new _ _
    · rw [Below.heap_alloc _ _ _ (by simp)];exact alloc_snd' _ _ _
    · have:=heap_alloc_new ((w.alloc (.cells rec0 174)).alloc (.cells #[.string .empty] 9)) (.cells #[.bool false] 4)
      simpa only [World.size_alloc] using this)
  obtain ⟨w1,hw1,hj1,hk1,hz1⟩:=uh HW
  clear HW
  go_enter_defers Tryz.func127,Tryz.ntmps127
  go_wp2_with fail
  refine (new_go .empty _).mono ?_
  rintro _ w2 ⟨rfl,hw2⟩
  have hw2':w2=w1.alloc (.cells #[.string .empty] 218):=by rw [hw2,hw1];rfl
  have hr2:Rd w2 (w.heap.size+3) .empty:=by
    have:=heap_alloc_new w1 (.cells #[.string .empty] 218)
    rw [← hw2',hz1] at this
    exact this
  have H2:=hide (show Jr w.heap.size w2∧Kept w.heap.size w w2 from by
    rw [hw2']
    exact ⟨⟨(Below.heap_alloc _ _ _ (by omega)).trans hj1.r,(Below.heap_alloc _ _ _ (by omega)).trans hj1.l,(Below.heap_alloc _ _ _ (by omega)).trans hj1.b⟩,hk1.alloc (by omega) _⟩)
  clear hw2 hw2' hw1 hj1 hk1
  simp only [World.size_alloc]
  go_wp2_with fail
  refine (hash_no (w.heap.size+3) .empty w2 hr2 (by decide)).mono ?_
  rintro _ w3 ⟨rfl,ho3⟩
  have h2:=uh H2
  have hj2:=h2.1
  refine jr_caught ⟨(ho3.block _ (Array.getElem?_eq_some_iff.1 hj2.r).1 (by omega)).trans hj2.r,(ho3.block _ (Array.getElem?_eq_some_iff.1 hj2.l).1 (by omega)).trans hj2.l,(ho3.block _ (Array.getElem?_eq_some_iff.1 hj2.b).1 (by omega)).trans hj2.b⟩ (h2.2.trans ⟨ho3.os,ho3.output,ho3.size,fun k hk=>ho3.block k (by have:=h2.2.size;omega) (by omega)⟩) rfl rfl rfl
set_option maxRecDepth 100000 in
set_option maxHeartbeats 1000000 in
theorem readJ_go (w:World):Calls Tryz.prog 96 #[.string .empty] w fun e w'=>e=.returned (.tuple #[.slice none 0 0,.string .empty])∧Kept w.heap.size w w':=by
  go_enter Tryz.func96,Tryz.ntmps96
  go_wp2_with fail
  go_loopw [0,4] (fun vd vr wr=>vd=.string .empty∧vr=.slice none 0 0∧wr=w) (fun _ _ _=>0)
  case atStart=>exact ⟨rfl,rfl,rfl⟩
  case round =>
    obtain ⟨rfl,rfl,hwr⟩:=hrel
    obtain rfl:w=wr:=hwr.symm
    clear hwr
    go_wp2_with fail
    refine (readRec_go w).mono ?_
    rintro _ w1 ⟨rfl,hk1⟩
    have HK:=hide hk1
    clear hk1
    go_wp2_with (first | (refine wpList_store_put rfl 174 (.tmp 5) (.tmp 11) rfl w1.heap.size rec0 rfl rfl 174 rec0 (heap_alloc_new _ _) info174 rfl rec0_one ?_;intro w2 hp2;have HP:=hide hp2;clear hp2))
    go_ret2
    exact ⟨rfl,((uh HK).alloc (uh HK).size _).trans (Kept.of ((uh HP).below (uh HK).size))⟩
end Go.Proofs.YtlbacbcenejngaaGreatDoor
namespace Go.Proofs.YtlbacbcenejngaaGreatDoor
open Go.RowKit
theorem read0:dsk0.read ⟨#[106,111,117,114,110,97,108]⟩=.empty:=rfl
set_option maxRecDepth 100000 in
set_option maxHeartbeats 1000000 in
theorem mend_go (B:Nat) (w:World) (jp dp:Nat) (dv:Value) (hj:w.heap[jp]?=some (.cells #[.pointer (some ⟨dp,0,none⟩)] 143 (0,0))) (h:DAt B 117 149 w dp dv dsk0) :
  Calls Tryz.prog 92 #[.pointer (some ⟨jp,0,none⟩)] w fun e w'=>e=.returned (.bool true)∧Kept w.heap.size w w':=by
 have hc:w.cell? ⟨jp,0,none⟩=some (.pointer (some ⟨dp,0,none⟩)):=by rw [cell_of_row _ _ _ _ _ _ hj];rfl
 have he:(ByteArray.empty).toList.isEmpty=true:=emp_yes rfl
 go_enter Tryz.func92,Tryz.ntmps92
 go_wp2_with fail
 refine (read_go B w dp dv dsk0 _ h (by decide)).mono ?_
 rintro _ wq ⟨rfl,hwq⟩
 obtain rfl:w=wq:=hwq.symm
 rw [read0]
 go_wp2_with fail
 refine (readJ_go w).mono ?_
 rintro _ w1 ⟨rfl,hk1⟩
 have HK:=hide hk1
 clear hk1
 go_wp2_with fail
 go_ret
 exact ⟨rfl,uh HK⟩
set_option maxRecDepth 100000 in
set_option maxHeartbeats 1000000 in
theorem jopen_go (B:Nat) (w:World) (dp:Nat) (dv:Value) (h:DAt B 117 149 w dp dv dsk0) :
  Calls Tryz.prog 61 #[.pointer (some ⟨dp,0,none⟩)] w fun e w'=>e=.returned (.tuple #[.pointer (some ⟨w.heap.size,0,none⟩),.bool true])∧w'.heap[w.heap.size]?=some (.cells #[.pointer (some ⟨dp,0,none⟩)] 143 (0,0))∧Kept w.heap.size w w':=by
 obtain ⟨w1,hw1⟩:∃ w1,w1=w.alloc (.cells #[.pointer (some ⟨dp,0,none⟩)] 143):=⟨_,rfl⟩
 have hj1:w1.heap[w.heap.size]?=some (.cells #[.pointer (some ⟨dp,0,none⟩)] 143 (0,0)):=by rw [hw1];exact heap_alloc_new _ _
 have HK1:=hide (show Kept w.heap.size w w1 by rw [hw1];exact (Kept.refl _ _).alloc (Nat.le_refl _) _)
 have H1:=hide (h.kept (uh HK1))
 have hz1:w.heap.size<w1.heap.size:=by rw [hw1];simp
 clear h
 go_enter Tryz.func61,Tryz.ntmps61
 go_upto_region 2 with fail
 rw [← hw1]
 clear hw1
 go_wp2_with fail
 refine (stopped_go B w1 dp dv dsk0 (uh H1)).mono ?_
 rintro _ wq ⟨rfl,hwq⟩
 obtain rfl:w1=wq:=hwq.symm
 rw [show dsk0.stopped=false from rfl]
 go_wp2_with fail
 refine (mend_go B w1 w.heap.size dp dv hj1 (uh H1)).mono ?_
 rintro _ w2 ⟨rfl,hk2⟩
 have HJ:=hide ((hk2.block _ hz1).trans hj1)
 have HK2:=hide ((uh HK1).trans (hk2.mono (by omega)))
 clear hk2
 go_wp2_with fail
 go_ret2
 exact ⟨rfl,uh HJ,uh HK2⟩
set_option maxRecDepth 100000 in
set_option maxHeartbeats 1000000 in
theorem requests_go (B:Nat) (w:World) (jp dp:Nat) (dv:Value) (hj:w.heap[jp]?=some (.cells #[.pointer (some ⟨dp,0,none⟩)] 143 (0,0))) (h:DAt B 117 149 w dp dv dsk0) :
  Calls Tryz.prog 65 #[.pointer (some ⟨jp,0,none⟩),.slice none 0 0] w fun e w'=>e=.returned (.slice none 0 0)∧Kept w.heap.size w w':=by
 have hc:w.cell? ⟨jp,0,none⟩=some (.pointer (some ⟨dp,0,none⟩)):=by rw [cell_of_row _ _ _ _ _ _ hj];rfl
 have hmm:=@run_makeMap Tryz.prog
 go_enter Tryz.func65,Tryz.ntmps65
 go_wp2_with fail
 refine (read_go B w dp dv dsk0 _ h (by decide)).mono ?_
 rintro _ wq ⟨rfl,hwq⟩
 obtain rfl:w=wq:=hwq.symm
 rw [read0]
 go_wp2_with fail
 refine (readJ_go w).mono ?_
 rintro _ w1 ⟨rfl,hk1⟩
 have HK:=hide (hk1.alloc hk1.size (.map #[] 0))
 clear hk1
 go_wp2_with fail
 generalize w1.alloc (.map #[] 0)=w2 at *
 go_loopw [27] (fun vi wr=>vi=.int .i64 0∧wr=w2) (fun _ _=>0)
 case atStart=>exact ⟨rfl,rfl⟩
 case round =>
  obtain ⟨rfl,hwr⟩:=hrel
  obtain rfl:w2=wr:=hwr.symm
  clear hwr
  go_wp2_with fail
  go_loopw [10,38] (fun vr vi wr=>vr=.slice none 0 0∧vi=.int .i64 0∧wr=w2) (fun _ _ _=>0)
  case atStart=>exact ⟨rfl,rfl,rfl⟩
  case round =>
   obtain ⟨rfl,rfl,hwr⟩:=hrel
   obtain rfl:w2=wr:=hwr.symm
   clear hwr
   go_wp2_with fail
   go_ret
   exact ⟨rfl,uh HK⟩
set_option maxRecDepth 100000 in
set_option maxHeartbeats 1000000 in
theorem digests0_go (w:World) (hT:Table w) (hz:0<w.heap.size):Calls Tryz.prog 94 #[.string .empty] w fun e w'=>e=.returned (.slice none 0 0)∧Kept w.heap.size w w':=by
 have hw0:walkF .empty []=([],0):=walkF_end rfl
 have HWK:=hide (walk_go .empty w (by decide) hT hz)
 clear hT
 go_enter Tryz.func94,Tryz.ntmps94
 go_wp2_with fail
 refine (uh HWK).mono ?_
 rintro _ w1 ⟨v,rfl,ho,hk1⟩
 rw [hw0] at ho ⊢
 obtain ⟨ao,cap,rfl,_,_⟩:=own_len ho
 have HK:=hide hk1
 clear ho hk1
 simp only [List.length_nil]
 go_wp2_with fail
 go_loopw [5,15] (fun vr vi wr=>vr=.slice none 0 0∧vi=.int .i64 0∧wr=w1) (fun _ _ _=>0)
 case atStart=>exact ⟨rfl,rfl,rfl⟩
 case round =>
  obtain ⟨rfl,rfl,hwr⟩:=hrel
  obtain rfl:w1=wr:=hwr.symm
  clear hwr
  go_wp2_with fail
  go_ret
  exact ⟨rfl,uh HK⟩
def pcells (ps:List Nat):List Value:=ps.map fun p=>.pointer (some ⟨p,0,none⟩)
structure PSl (w:World) (v:Value) (ps:List Nat) (b o cap:Nat):Prop where
 v:v=.slice (some ⟨b,o,none⟩) ps.length cap
 le:ps.length≤cap
 lt:b<w.heap.size
 c:∀ j,j<ps.length→w.cell? ⟨b,o+j,none⟩=some (.pointer (some ⟨ps.getD j 0,0,none⟩))
theorem PSl.kept {w w':World} {v:Value} {ps:List Nat} {b o cap:Nat} (h:PSl w v ps b o cap) (hk:Kept w.heap.size w w'):PSl w' v ps b o cap:=⟨h.v,h.le,Nat.lt_of_lt_of_le h.lt hk.size,fun j hj=>(hk.cell (p:=⟨b,o+j,none⟩) h.lt).trans (h.c j hj)⟩
theorem info41n:(Tryz.prog.info? 41).map (fun i=>(i.zero,i.size,i.bytes))=some (some (.pointer none),1,8):=by kernel_rfl
theorem wpList_append_ptrs {w:World} {ops:Array Oper} {rest:List Oper} {o:Oper} {act:Act} {Q:Exit→Act→World→Prop} (hgd:o.guard=none) (s x:Operand)
  (ho:o.op=.call { callee:=.builtin .append,args:=#[s,x],argTypes:=#[33,33] }) (B:Nat)
  (v:Value) (hs:act.eval s=v) (n:Nat) (xs:List Value) (hown:w.ownsRow B 41 1 v n xs) (vx:Value) (ps:List Nat) (b of cap:Nat) (hL:n+ps.length≤1000)
  (hx:act.eval x=vx) (hI:PSl w vx ps b of cap) (hB:B≤w.heap.size)
  (h:∀ v' w',w'.ownsRow B 41 1 v' (n+ps.length) (xs++pcells ps)→w.grownBy w' v.ownBlock→(v'.ownBlock=v.ownBlock∨v'.ownBlock=some w.heap.size)→wpList Tryz.prog ops Q rest (act.put o.dst v') w'):wpList Tryz.prog ops Q (o::rest) act w:=by
 obtain ⟨i0,hi0,hz0,hz1,hz2⟩:=info_parts info41n
 obtain ⟨rfl,h1,h2,h3⟩:=hI
 refine wpList_plain hgd fun K hK=>?_
 obtain ⟨v',w',hr,h4,h5,h6⟩:=run_append_fresh2 (P:=Tryz.prog) w B 33 o.type 41 i0 _ 1 8 Tryz.underlying33 hi0 hz0 hz1 hz2 rfl (by decide) v n xs hown ⟨b,of,none⟩ ps.length cap (pcells ps) (by simp [pcells]) (fun j u hu=>by
  rw [pcells,List.getElem?_map] at hu
  obtain ⟨y,hy,rfl⟩:=Option.map_eq_some_iff.1 hu
  have hj:=(List.getElem?_eq_some_iff.1 hy).1
  rw [add_addr,h3 j hj,List.getD_eq_getElem?_getD,hy];rfl) (by
  intro u hu
  obtain ⟨y,_,rfl⟩:=List.mem_map.1 hu
  rfl) (by unfold maxLen;omega) (by omega) hB
 unfold Oper.wp
 simp [execOp,ho,resolve,invoke,builtin,hs,hx,hr,Result.andThen]
 exact hK _ _ (h v' w' h4 h5 h6)
set_option maxRecDepth 100000 in
set_option maxHeartbeats 1000000 in
theorem cloneS_go (w:World) (v:Value) (ps:List Nat) (b o cap:Nat) (h:PSl w v ps b o cap) (hp:ps.length≤100) :
  Calls Tryz.prog 93 #[v] w fun e w'=>∃ v',e=.returned v'∧w'.ownsRow w.heap.size 41 1 v' ps.length (pcells ps)∧Kept w.heap.size w w':=by
 have HP:=hide h
 have hv:=h.v
 clear h
 subst hv
 have heq:(binOp .eql 33 (.slice (some ⟨b,o,none⟩) ps.length cap) (.slice none 0 0)).run Tryz.prog w=.ok (.bool false) w:=by kernel_rfl
 go_enter Tryz.func93,Tryz.ntmps93
 go_wp2_with (refine wpList_halt2 (.tmp 5) (.tmp 6) 33 rfl ?_)
 refine Stp.mk ?_
 have ho0:(w.alloc (.cells #[] 41)).ownsRow w.heap.size 41 1 (.slice (some ⟨w.heap.size,0,none⟩) 0 0) 0 [] :=
  ⟨rfl,.inr ⟨w.heap.size,0,#[],rfl,Nat.le_refl _,heap_alloc_new _ _,Nat.le_refl _,by decide,rfl,rfl⟩⟩
 refine wpList_append_ptrs rfl (.tmp 5) (.tmp 6) rfl w.heap.size (.slice (some ⟨w.heap.size,0,none⟩) 0 0) rfl 0 [] ho0 _ ps b o cap (by omega) rfl ((uh HP).kept ((Kept.refl _ _).alloc (Nat.le_refl _) _)) (by simp) ?_
 intro v2 w2 ho2 hg2 hf2
 rw [Nat.zero_add,List.nil_append] at ho2
 have HE:=hide (show w2.ownsRow w.heap.size 41 1 v2 ps.length (pcells ps)∧Kept w.heap.size w w2 from ⟨ho2,own_grownk ((Kept.refl _ _).alloc (Nat.le_refl _) _) ho0 hg2 (by simp)⟩)
 clear ho2 hg2 hf2 ho0
 simp only [zz0,zz1,zz2]
 go_wp2_with fail
 go_ret
 exact ⟨_,rfl,(uh HE).1,(uh HE).2⟩
set_option maxRecDepth 100000 in
set_option maxHeartbeats 1000000 in
theorem contains_go (w:World) (v:Value) (ps:List Nat) (b o cap:Nat) (h:PSl w v ps b o cap) (hp:ps.length≤100) :
  Calls Tryz.prog 59 #[v,.pointer none] w fun e w'=>e=.returned (.bool false)∧w'=w:=by
 have hidx:Calls Tryz.prog 88 #[v,.pointer none] w fun e w'=>e=.returned (.int .i64 (-1))∧w'=w:=by
  have HP:=hide h
  have hv:=h.v
  subst hv
  clear h
  go_enter Tryz.func88,Tryz.ntmps88
  go_wp2_with fail
  go_loopw [8] (fun vi wr=>∃ i:Nat,i≤ps.length∧vi=.int .i64 i∧wr=w) (fun vi _=>ps.length-(intOf vi).toNat)
  case atStart=>exact ⟨0,Nat.zero_le _,rfl,rfl⟩
  case round =>
   obtain ⟨i,hi,rfl,hwr⟩:=hrel
   obtain rfl:w=wr:=hwr.symm
   clear hwr
   by_cases hlt:i<ps.length
   ·have hiI:(i:Int)<(ps.length:Int):=by omega
    have hi0:(0:Int)≤(i:Int):=by omega
    have hc:=(uh HP).c i hlt
    have heq:(binOp .eql 41 (.pointer none) (.pointer (some ⟨ps.getD i 0,0,none⟩))).run Tryz.prog w=.ok (.bool false) w:=by kernel_rfl
    generalize ps.getD i 0=p at *
    go_wp2_with fail
    go_roundw
    case rel=>exact ⟨i+1,by omega,by go_num,by first | rfl | trivial⟩
    case measure=>simp [intOf];omega
   ·have hiI:¬ (i:Int)<(ps.length:Int):=by omega
    go_wp2_with fail
    go_ret
    exact ⟨rfl,rfl⟩
 go_enter Tryz.func59,Tryz.ntmps59
 go_wp2_with fail
 refine hidx.mono ?_
 rintro _ wq ⟨rfl,hwq⟩
 obtain rfl:w=wq:=hwq.symm
 go_wp2_with fail
 go_ret
 exact ⟨rfl,rfl⟩
end Go.Proofs.YtlbacbcenejngaaGreatDoor
namespace Go.Proofs.YtlbacbcenejngaaGreatDoor
open Go.RowKit
structure DoA (B:Nat) (w:World) (vp:Nat) (g:VG) (V:Vlt) (q:Rq) (o:Oc) (F:Value) (b5 b6:Nat) (wi:World):Prop where
 kept:Kept w.heap.size w wi
 v:VAt B wi vp g V
 rq:RqAt wi b5 q
 ro:wi.heap[b6]?=some (.cells (ocells o.err o.more F) 86 (0,0))
 clo:Clo B w.heap.size wi g.sp g.L q F o.ch
theorem DoA.next {B:Nat} {w wi w':World} {vp:Nat} {g:VG} {V:Vlt} {q:Rq} {o:Oc} {F:Value} {b5 b6:Nat} (h:DoA B w vp g V q o F b5 b6 wi) (hk:Kept wi.heap.size wi w'):DoA B w vp g V q o F b5 b6 w' :=
 ⟨h.kept.trans (hk.mono h.kept.size),h.v.kept hk,(hk.block _ h.rq.lt).trans h.rq,(hk.block _ (Array.getElem?_eq_some_iff.1 h.ro).1).trans h.ro,h.clo.kept hk⟩
theorem DoA.nx {B:Nat} {w wi:World} {vp:Nat} {g:VG} {V:Vlt} {q:Rq} {o:Oc} {F:Value} {b5 b6 d:Nat} {cs NC:Array Value} (h:DoA B w vp g V q o F b5 b6 wi) (hd:wi.heap[d]?=some (.cells cs 90 (0,0))) (hge:w.heap.size≤d):DoA B w vp g V q o F b5 b6 (wi.setRow d NC):=by
 have hst:Stay [91] wi (wi.setRow d NC):=stay_one (show TyAt wi d 90 from ⟨_,hd⟩).knd (fun k hne _=>setRow_other _ _ _ _ hne) (by decide)
 exact ⟨h.kept.trans ((Kept.refl _ _).setRow hge _),⟨row_over h.v.at' hst (by decide),row_over h.v.jat hst (by decide),h.v.dsk.over hst (by decide),h.v.log.over hst (by decide),h.v.snk,h.v.sto.over hst (by decide),h.v.ge⟩,row_over h.rq hst (by decide),row_over h.ro hst (by decide),h.clo.over hst (by decide)⟩
def SLpre (SL:List (Loc Snk)) (m:ByteArray):Prop:=SL.length≤4∧(∀ e∈SL,e.x.data.size≤m.size∧0≤e.x.app∧e.x.app≤2000000000∧e.x.fails.length≤4294967296)∧m.size≤2147483648
theorem pickV_mem {ver:Nat} {m:Nat}:∀ {l:List (Nat × ByteArray)} {v:ByteArray},(∀ x∈l,x.2.size≤m)→pickV ver l=some v→v.size≤m
 | [],v,_,h=>by cases h
 | [x],v,hl,h=>by
  rw [pickV] at h
  split at h
  ·cases h;exact hl x (.head _)
  ·cases h
 | x::y::l,v,hl,h=>by
  rw [pickV] at h
  split at h
  ·cases h;exact hl x (.head _)
  ·exact pickV_mem (fun z hz=>hl z (.tail _ hz)) h
theorem readQ_rest {s:ByteArray} {q:Rq} (h:readQ s=some q):q.rest.size≤s.size:=by
 have hP:∀ {q q':Rq} {s s':ByteArray},rdPath q s=some (q',s')→q'.rest.size≤s.size:=fun {q q' s s'} h=>by
  unfold rdPath at h
  split at h
  ·rename_i x y hx
   have:=takeT_small hx
   split at h
   ·cases h;exact (by omega:s'.size≤s.size)
   ·cases h
  ·cases h
 have hN:∀ {q q':Rq} {s s':ByteArray},rdNamed q s=some (q',s')→q'.rest.size≤s.size:=fun {q q' s s'} h=>by
  unfold rdNamed at h
  split at h
  ·cases h;exact Nat.le_refl _
  ·cases h
 have hR:∀ {op:UInt8} {tk:ByteArray} {q':Rq} {s s':ByteArray},rdOf op (rqOT op tk) s=some (q',s')→q'.rest.size≤s.size:=fun {op tk q' s s'} h=>by
  unfold rdOf at h
  split at h
  ·unfold rdPut at h
   split at h
   ·rename_i q1 s1 h1
    have:=hP h1
    split at h
    ·split at h
     ·cases h;exact this
     ·cases h
    ·cases h
   ·cases h
  ·unfold rdGet at h
   split at h
   ·rename_i q1 s1 h1
    have:=hP h1
    split at h
    ·cases h;exact this
    ·cases h
   ·cases h
  ·exact hP h
  ·unfold rdList at h
   split at h
   ·cases h;show (ByteArray.empty).size≤_;exact Nat.zero_le _
   ·cases h
  ·unfold rdGrant at h
   split at h
   ·rename_i q1 s1 h1
    have:=hN h1
    split at h
    ·split at h
     ·split at h
      ·cases h;exact this
      ·cases h
     ·cases h
    ·cases h
   ·cases h
  ·exact hN h
  ·cases h
 unfold readQ at h
 split at h
 ·rename_i x y hx
  have h0:=takeB_small hx
  split at h
  ·rename_i tk s2 h2
   have h1:=takeN_small h2
   split at h
   ·rename_i q' s3 h3
    have h4:=hR h3
    split at h
    ·cases h;omega
    ·cases h
   ·cases h
  ·cases h
 ·cases h
structure DoC (B:Nat) (w:World) (vp:Nat) (g0:VG) (q:Rq) (o:Oc) (F:Value) (b6 b7:Nat) (bytes:ByteArray) (dg:List UInt8) (g:VG) (V:Vlt) (wi:World):Prop where
 v:VAt B wi vp g V
 ro:wi.heap[b6]?=some (.cells (ocells o.err o.more F) 86 (0,0))
 nx:wi.heap[b7]?=some (.cells (ncells bytes dg) 90 (0,0))
 clo:Clo B w.heap.size wi g.sp g.L q F o.ch
 chg:Chg (Vft vp g0) w wi
 foot:∀ k,Vft vp g k→Vft vp g0 k∨w.heap.size≤k
 sto:g.sp=g0.sp∧g.tb=g0.tb∧g.pb=g0.pb∧g.L=g0.L
 sl:g.SL.map (·.p)=g0.SL.map (·.p)
 dp:g.dp=g0.dp
theorem DoC.next {B:Nat} {w wi w':World} {vp:Nat} {g0 g:VG} {V:Vlt} {q:Rq} {o:Oc} {F:Value} {b6 b7:Nat} {bytes:ByteArray} {dg:List UInt8} (h:DoC B w vp g0 q o F b6 b7 bytes dg g V wi) (hk:Kept wi.heap.size wi w'):DoC B w vp g0 q o F b6 b7 bytes dg g V w' :=
 ⟨h.v.kept hk,(hk.block _ (Array.getElem?_eq_some_iff.1 h.ro).1).trans h.ro,(hk.block _ (Array.getElem?_eq_some_iff.1 h.nx).1).trans h.nx,h.clo.kept hk,h.chg.trans' hk.chg fun _ _ e=>e.elim,h.foot,h.sto,h.sl,h.dp⟩
theorem alloc_snd (w:World) (a b:Obj):((w.alloc a).alloc b).heap[w.heap.size+1]?=some b:=by have:=heap_alloc_new (w.alloc a) b;simpa only [World.size_alloc] using this
def doEnd (B:Nat) (w:World) (vp:Nat) (g:VG) (V:Vlt) (s:ByteArray) (e:Ending) (w':World):Prop :=
 e=.returned (.string (V.tell s))∧∃ g',VAt B w' vp g' (V.next s)∧Chg (Vft vp g) w w'∧(∀ k,Vft vp g' k→Vft vp g k∨w.heap.size≤k)∧g'.SL.map (·.p)=g.SL.map (·.p)∧g'.dp=g.dp
theorem more_small (V:Vlt) (s:ByteArray) (h:V.sto.Ok):(V.ask s).2.more.size≤1000:=by
 have hd:∀ q:Rq,q.Ok→(V.sto.deed q).more.size≤1000:=fun q hq=>by
  unfold Sto.deed
  split
  ·unfold Sto.put
   split <;> split <;> simp [bs_size]
  ·unfold Sto.get
   split
   ·rename_i v hv
    show (txt v).size≤1000
    rw [txt_size]
    have:=(h.vers q.path).1
    have hm:v.size≤40:=pickV_mem (h.vers q.path).1 hv
    omega
   ·simp
  ·unfold Sto.drop;split <;> simp
  ·show (bs _).size≤1000
   rw [bs_size,List.length_cons]
   have hl:(V.sto.found q.path).length≤16:=by
    have:=List.length_filter_le (fun n=>hasPre n q.path&&decide (0<(V.sto.versOf n).length)) V.sto.names
    rw [names_len] at this
    have:=h.paths
    unfold Sto.found
    omega
   have hn:∀ n∈V.sto.found q.path,n.size≤16:=fun n hn=>by
    obtain ⟨p,hp,rfl⟩:=names_mem (List.mem_filter.1 hn).1
    exact (h.pth p hp).1
   have:=fnd_sum _ hn
   rw [List.map_map] at this
   rw [List.flatMap]
   have e:(List.map (fun n=>(txt n).data.toList) (V.sto.found q.path))=(List.map ((fun x=>x.data.toList) ∘ txt) (V.sto.found q.path)):=rfl
   rw [e]
   omega
  ·unfold Sto.grant
   split
   ·simp
   ·split <;> simp
  ·unfold Sto.revoke
   split
   ·simp
   ·split <;> simp
 unfold Vlt.ask
 split
 ·rename_i q hq
  show (V.sto.ask q).more.size≤1000
  unfold Sto.ask
  split
  ·simp
  ·split
   ·simp
   ·exact hd q (readQ_ok hq)
 ·simp
set_option maxRecDepth 100000 in
set_option maxHeartbeats 4000000 in
theorem do_go (B:Nat) (w:World) (vp:Nat) (g:VG) (V:Vlt) (E:List ByteArray) (n:Nat) (s:ByteArray) (h:VAt B w vp g V) (hN:V.Bnd E n) (hs:s.size≤549755813000) (hB:B≤w.heap.size) (hT:Table w) (hz:0<w.heap.size) :
  Calls Tryz.prog 22 #[.pointer (some ⟨vp,0,none⟩),.string s] w (doEnd B w vp g V s):=by
 have c4:w.cell? ⟨vp,4,none⟩=some (.bool false):=by rw [cell_of_row _ _ _ _ _ _ h.at'];rfl
 have HB:=hide hN
 have HV:=hide h
 have hms:=more_small V s hN.ok.sto
 have hfit:=ask_fit V s
 have HLEN:=hide (fun a b c=>hN.ok.lens a b c)
 have hE32:E.length<4294967296:=by have:=hN.le;omega
 have HENT:=hide (show V.entry s=bs (entL V.last V.cnt (V.ask s).1.op (Sha.tag V.key.data.toList (whoOf (V.ask s).1 s).data.toList) (V.ask s).1.path (Sha.tag V.key.data.toList (V.ask s).1.rest.data.toList) (V.ask s).2.err (Sha.tag V.key.data.toList (V.ask s).2.more.data.toList)) from rfl)
 have HTELL:=hide (show ((V.lay s).2=true→V.tell s=bs (UInt8.ofNat (V.ask s).2.err::(V.ask s).2.more.data.toList))∧((V.lay s).2=false→V.tell s=bs [6]) from ⟨fun e=>by rw [Vlt.tell,if_pos e],fun e=>by rw [Vlt.tell,if_neg (by rw [e];simp)]⟩)
 have HNEXT:=hide (show ((V.lay s).2=true→V.next s=⟨V.key,V.wrote s,(V.lay s).1,V.cnt+1,Sha.digest (V.entry s).data.toList,V.sto.then (V.ask s).1 (V.ask s).2⟩)∧((V.lay s).2=false→V.next s=⟨V.key,V.wrote s,(V.lay s).1,V.cnt,V.last,V.sto⟩) from ⟨fun e=>by rw [Vlt.next,if_pos e],fun e=>by rw [Vlt.next,if_neg (by rw [e];simp)]⟩)
 have HWRO:=hide (show ((V.ask s).2.ch.isSome=true→V.wrote s=(V.dsk.append jour (bs (Sha.digest (V.entry s).data.toList)++txt s)).sync jour)∧((V.ask s).2.ch=none→V.wrote s=V.dsk) from ⟨fun e=>by rw [Vlt.wrote,if_pos e],fun e=>by rw [Vlt.wrote,e];rfl⟩)
 have HTHEN:=hide (show (∃ q,readQ s=some q∧V.ask s=(q,V.sto.ask q))∨(readQ s=none∧V.ask s=(rq0,⟨1,.empty,none⟩)) from by
  unfold Vlt.ask
  cases hq:readQ s with
  | none=>exact .inr ⟨rfl,rfl⟩
  | some q=>exact .inl ⟨q,rfl,rfl⟩)
 have hq1:(V.ask s).1.token.size≤255∧(V.ask s).1.rest.size≤549755813000:=by
  rcases uh HTHEN with ⟨q,hq,e⟩ | ⟨_,e⟩
  ·rw [e]
   exact ⟨(readQ_ok hq).token,by have:=readQ_rest hq;show q.rest.size≤_;omega⟩
  ·rw [e];exact ⟨by decide,by show (ByteArray.empty).size≤_;decide⟩
 have HASK:=hide (vask_go B w vp g.sp g.tb g.pb g.L V s _ _ _ _ h.at' h.sto hN.ok.sto hB (by omega))
 have HTB:=hide (show ∀ W,Kept w.heap.size w W→Table W from fun W hW=>hT.kept hW hz)
 obtain ⟨q,o,hqo⟩:∃ q o,V.ask s=(q,o):=⟨_,_,rfl⟩
 rw [hqo] at HASK hms hfit HENT HTELL HNEXT HWRO HTHEN hq1
 dsimp only at hms hfit hq1
 have hkey:=hN.key
 have hcnt:V.cnt<4294967296:=by rw [hN.ok.cnt];exact hE32
 clear h hN hT hqo
 go_enter Tryz.func22,Tryz.ntmps22
 go_wp2_with fail
 refine (uh HASK).mono ?_
 rintro _ w1 ⟨⟨F,rfl,hF⟩,hk1⟩
 have h1F:=hF.one
 have HA1:=hide (show Kept w.heap.size w w1∧Clo B w.heap.size w1 g.sp g.L q F o.ch from ⟨hk1,hF⟩)
 clear hk1 hF HASK
 have HLQ:=hide ((uh HLEN) (whoOf q s).data.toList q.rest.data.toList o.more.data.toList)
 have HBY:=hide (show V.entry s=bs (entL V.last V.cnt q.op (Sha.tag V.key.data.toList (whoOf q s).data.toList) q.path (Sha.tag V.key.data.toList q.rest.data.toList) o.err (Sha.tag V.key.data.toList o.more.data.toList)) from uh HENT)
 obtain ⟨T1,hT1⟩:∃ T,T=Sha.tag V.key.data.toList (whoOf q s).data.toList:=⟨_,rfl⟩
 obtain ⟨T2,hT2⟩:∃ T,T=Sha.tag V.key.data.toList q.rest.data.toList:=⟨_,rfl⟩
 obtain ⟨T3,hT3⟩:∃ T,T=Sha.tag V.key.data.toList o.more.data.toList:=⟨_,rfl⟩
 have HENTRY:=hide (show ∀ W,DoA B w vp g V q o F w1.heap.size (w1.heap.size+1) W→Calls Tryz.prog 38 #[.pointer (some ⟨vp,0,none⟩),.string s,.agg q.cells,.agg (ocells o.err o.more F)] W fun e w'=>e=.returned (.agg (ecells q.op T1 q.path T2 o.err T3))∧Kept W.heap.size W w' from fun W hW=>by
  rw [hT1,hT2,hT3]
  exact entry_go W vp V.key s o.more q o.err F _ _ _ _ hW.v.at' (by omega) (by omega) (by omega) (by omega) (by omega) (uh HTB W hW.kept) (by have:=hW.kept.size;omega))
 rw [← hT1,← hT2,← hT3] at HLQ HBY
 obtain ⟨EL,hEL⟩:∃ L,L=entL V.last V.cnt q.op T1 q.path T2 o.err T3:=⟨_,rfl⟩
 have HBIND:=hide (show ∀ W,DoA B w vp g V q o F w1.heap.size (w1.heap.size+1) W→Calls Tryz.prog 37 #[.pointer (some ⟨g.lp,0,none⟩),.agg (ecells q.op T1 q.path T2 o.err T3)] W fun e w'=>e=.returned (.agg (ncells (bs EL) (Sha.digest EL)))∧Kept W.heap.size W w' from fun W hW=>by
  rw [hEL]
  exact bind_go B W g.lp g.rv g.SL V.cnt V.last hW.v.log q.op (uh HLQ) q.path (by have:=hfit.1.1;omega) o.err (by omega) (by omega) (uh HTB W hW.kept) (by have:=hW.kept.size;omega))
 rw [← hEL] at HBY
 have hELs:(bs EL).size≤1000:=by
  rw [bs_size,hEL,(entL_facts (uh HLQ) V.cnt q.op (path:=q.path) (by have:=hfit.1.1;omega) o.err).1]
  have:=hfit.1.1;omega
 have HDG:=hide (show Sha.digest (V.entry s).data.toList=Sha.digest EL by rw [uh HBY,bs_list])
 obtain ⟨DG,hDG⟩:∃ D,D=Sha.digest EL:=⟨_,rfl⟩
 have hdl:DG.length=32:=by rw [hDG];exact Sha.digest_length _
 rw [← hDG] at HBIND HDG
 generalize ecells q.op T1 q.path T2 o.err T3=EC at *
 clear hT1 hT2 hT3 hEL hDG HLEN HENT HLQ
 obtain ⟨NC,hNC⟩:∃ N,N=ncells (bs EL) DG:=⟨_,rfl⟩
 rw [← hNC] at HBIND
 have hns:NC.size=33:=by rw [hNC];exact sealA_size hdl
 have hno:NC.all (·.oneCell')=true:=by rw [hNC];exact nc_one _ _
 have hi90:(Tryz.prog.info? 90).map (·.size)=some NC.size:=by rw [hns];exact info90
 have HNC:=hide hNC
 clear hNC
 go_upto_region 4 with (first
  | (refine wpList_store_put rfl 84 (.tmp 5) (.tmp 16) rfl w1.heap.size q.cells rfl rfl 84 rq0.cells (by rw [Below.heap_alloc _ _ _ (by simp)];exact heap_alloc_new _ _) info84 rfl (rq_one _) ?_;intro w2 hp2;have HP2:=hide hp2;clear hp2)
  | (refine wpList_store_put rfl 86 (.tmp 6) (.tmp 17) rfl (w1.heap.size+1) (ocells o.err o.more F) rfl rfl 86 (ocells 0 .empty .nilFunc) (((uh HP2).other _ (by omega)).trans (alloc_snd _ _ _)) info86 rfl (oc_one _ _ h1F) ?_;intro w3 hp3;have HP3:=hide hp3;clear hp3))
 have HA:=hide (show DoA B w vp g V q o F w1.heap.size (w1.heap.size+1) w3 from by
  have e2:=uh HP2
  have e3:=uh HP3
  have kA:Kept w1.heap.size w1 ((w1.alloc (.cells rq0.cells 84)).alloc (.cells (ocells 0 .empty .nilFunc) 86)):=((Kept.refl _ _).alloc (Nat.le_refl _) _).alloc (by simp) _
  have kB:Kept w1.heap.size w1 w3:=(kA.trans (Kept.of (e2.below (Nat.le_refl _)))).trans (Kept.of (e3.below (by omega)))
  exact ⟨(uh HA1).1.trans (kB.mono (uh HA1).1.size),(uh HV).kept ((uh HA1).1.trans (kB.mono (uh HA1).1.size)),(e3.other _ (by omega)).trans e2.row,e3.row,(uh HA1).2.kept kB⟩)
 have hz1:w1.heap.size+2≤w3.heap.size:=(Array.getElem?_eq_some_iff.1 (uh HA).ro).1
 have hzw:=(uh HA1).1.size
 clear HP2 HP3 HA1 h1F
 simp only [Act.put]
 go_cut [7] (fun v wx=>∃ d,v=.pointer (some ⟨d,0,none⟩)∧DoA B w vp g V q o F w1.heap.size (w1.heap.size+1) wx∧wx.heap[d]?=some (.cells NC 90 (0,0)))
 case first =>
  have HSD:=hide (show ∀ W,DoA B w vp g V q o F w1.heap.size (w1.heap.size+1) W→(W.cell? ⟨vp,2,none⟩=some (.pointer (some ⟨g.lp,0,none⟩))∧RqAt W w1.heap.size q∧W.heap[w1.heap.size+1]?=some (.cells (ocells o.err o.more F) 86 (0,0))) from fun W hW=>⟨by rw [cell_of_row _ _ _ _ _ _ hW.v.at'];rfl,hW.rq,hW.ro⟩)
  refine wp_region_held_drew (S:=fun W=>(W.cell? ⟨vp,2,none⟩=some (.pointer (some ⟨g.lp,0,none⟩))∧RqAt W w1.heap.size q∧W.heap[w1.heap.size+1]?=some (.cells (ocells o.err o.more F) 86 (0,0)))) (by kernel_rfl) (uh HSD w3.drew ((uh HA).next ((Kept.refl _ _).draws 1))) (fun hHeld=>?_)
  refine tkL 3 [(0,some 18,.pointer (some ⟨vp,0,none⟩)),(1,some 19,.pointer (some ⟨vp,0,none⟩)),(2,some 20,.pointer (some ⟨vp,2,none⟩))] (by kernel_rfl) (fun _ _ _ _ _ h=>h) (fun _ _=>by kernel_rfl) hHeld ?_
  simp only [zz0,zz1,zz2,zz4,zz5]
  refine tkG 3 (some 21) (.load 75 (.tmp 20)) 75 none (.pointer (some ⟨g.lp,0,none⟩)) (by kernel_rfl) (fun _ _ _ h=>h) (Or.inl ⟨by kernel_rfl,fun W hW=>by simp [execOp,go_sem,hW.1]⟩) hHeld ?_
  simp only [zz0,zz1,zz2]
  refine tkL 2 [(4,some 22,.pointer (some ⟨vp,0,none⟩)),(5,some 23,.string s)] (by kernel_rfl) (fun _ _ _ _ _ h=>h) (fun _ _=>by kernel_rfl) hHeld ?_
  simp only [zz0,zz1,zz2,zz4,zz5]
  refine tkG 6 (some 24) (.load 84 (.tmp 5)) 84 none (.agg q.cells) (by kernel_rfl) (fun _ _ _ h=>h) (yieldsIf_load_mid (by kernel_rfl) 84 (.tmp 5) rfl w1.heap.size 0 (by kernel_rfl) q.cells.toList _ (fun W hW=>row_range hW.2.1) Tryz.underlying84 rfl (by rw [Array.length_toList];exact info84)) hHeld ?_
  simp only [zz0,zz1,zz2]
  refine tkG 7 (some 25) (.load 86 (.tmp 6)) 86 none (.agg (ocells o.err o.more F)) (by kernel_rfl) (fun _ _ _ h=>h) (yieldsIf_load_mid (by kernel_rfl) 86 (.tmp 6) rfl (w1.heap.size+1) 0 (by kernel_rfl) (ocells o.err o.more F).toList _ (fun W hW=>row_range hW.2.2) Tryz.underlying86 rfl (by rw [Array.length_toList];exact info86)) hHeld ?_
  simp only [zz0,zz1,zz2]
  refine wpAnyH_ready (rs:=[8,10]) (by kernel_rfl) (by simp) ?_
  refine rdX (some 26) (.call { callee:=.value (.func 38),args:=#[.tmp 22,.tmp 23,.tmp 24,.tmp 25],argTypes:=#[31,9,84,86] }) 93 none (by kernel_rfl) (fun K hK=>?_) ?_
  ·refine ite_wanted ?_ ?_
   ·kernel_rfl
   go_simp
   refine (uh HENTRY w3.drew ((uh HA).next (w':=w3.drew) ((Kept.refl _ _).draws 1))).mono ?_
   rintro _ w4 ⟨rfl,hkw4⟩
   have Hw4:=hide (((uh HA).next (w':=w3.drew) ((Kept.refl _ _).draws 1)).next (w':=w4) hkw4)
   clear hkw4
   show K _ w4
   refine hK.out _ _ (uh HSD w4 (uh Hw4)) (fun hHeld8=>?_)
   clear hK K
   try simp only [zz0,zz1,zz2]
   refine wpAnyH_ready (rs:=[9,10]) (by kernel_rfl) (by simp) ?_
   refine rdX (some 27) (.call { callee:=.value (.func 37),args:=#[.tmp 21,.tmp 26],argTypes:=#[75,93] }) 90 none (by kernel_rfl) (fun K hK=>?_) ?_
   ·refine ite_wanted ?_ ?_
    ·kernel_rfl
    go_simp
    refine (uh HBIND w4 (uh Hw4)).mono ?_
    rintro _ w5 ⟨rfl,hkw5⟩
    have Hw5:=hide ((uh Hw4).next (w':=w5) hkw5)
    clear hkw5
    show K _ w5
    refine hK.out _ _ (uh HSD w5 (uh Hw5)) (fun hHeld9=>?_)
    clear hK K
    try simp only [zz0,zz1,zz2]
    refine rd1 10 (some 7) (.alloc 90) 0 (by kernel_rfl) (fun K hK=>?_)
    go_simp
    change K _ (w5.alloc (.cells (ncells .empty (List.replicate 32 0)) 90))
    have Hw6:=hide ((uh Hw5).next (w':=(w5.alloc (.cells (ncells .empty (List.replicate 32 0)) 90))) ((Kept.refl _ _).alloc (Nat.le_refl _) _))
    have hbw6:(w5.alloc (.cells (ncells .empty (List.replicate 32 0)) 90)).heap[w5.heap.size]?=some (.cells (ncells .empty (List.replicate 32 0)) 90 (0,0)):=heap_alloc_new w5 _
    generalize (w5.alloc (.cells (ncells .empty (List.replicate 32 0)) 90))=w6 at Hw6 hbw6 hK ⊢
    refine hK.out _ _ (uh HSD w6 (uh Hw6)) (fun hHeld10=>?_)
    clear hK K
    try simp only [zz0,zz1,zz2]
    refine rd1 11 none (.store 90 (.tmp 7) (.tmp 27)) 0 (by kernel_rfl) (fun K hK=>?_)
    refine wp_store_row 90 (.tmp 7) (.tmp 27) ?_ w5.heap.size NC ?_ ?_ 90 _ (hbw6) hi90 (by rw [hns];rfl) hno ?_
    ·rfl
    ·kernel_rfl
    ·kernel_rfl
    simp only [Act.put]
    have HE:=hide (show DoA B w vp g V q o F w1.heap.size (w1.heap.size+1) (w6.setRow w5.heap.size NC)∧(w6.setRow w5.heap.size NC).heap[w5.heap.size]?=some (.cells NC 90 (0,0)) from ⟨DoA.nx (uh Hw6) (hbw6) (by have:=(uh Hw5).kept.size;omega),setRow_heap _ _ _ _ _ _ (hbw6)⟩)
    refine hK.out _ _ (uh HSD _ (uh HE).1) (fun hHeld11=>?_)
    clear hK K
    try simp only [zz3]
    refine wpAnyH_done (by kernel_rfl) ?_ _
    go_wp2_with fail
    go_meet
    case rel=>exact ⟨_,rfl,uh HE⟩
   ·refine rdX (some 7) (.alloc 90) 0 none (by kernel_rfl) (fun K hK=>?_) AllReadyH.nil
    refine ite_wanted ?_ ?_
    ·kernel_rfl
    go_simp
    change K _ (w4.alloc (.cells (ncells .empty (List.replicate 32 0)) 90))
    have Hw5:=hide ((uh Hw4).next (w':=(w4.alloc (.cells (ncells .empty (List.replicate 32 0)) 90))) ((Kept.refl _ _).alloc (Nat.le_refl _) _))
    have hbw5:(w4.alloc (.cells (ncells .empty (List.replicate 32 0)) 90)).heap[w4.heap.size]?=some (.cells (ncells .empty (List.replicate 32 0)) 90 (0,0)):=heap_alloc_new w4 _
    generalize (w4.alloc (.cells (ncells .empty (List.replicate 32 0)) 90))=w5 at Hw5 hbw5 hK ⊢
    refine hK.out _ _ (uh HSD w5 (uh Hw5)) (fun hHeld10=>?_)
    clear hK K
    try simp only [zz0,zz1,zz2]
    refine rd1 9 (some 27) (.call { callee:=.value (.func 37),args:=#[.tmp 21,.tmp 26],argTypes:=#[75,93] }) 90 (by kernel_rfl) (fun K hK=>?_)
    go_simp
    refine (uh HBIND w5 (uh Hw5)).mono ?_
    rintro _ w6 ⟨rfl,hkw6⟩
    have Hw6:=hide ((uh Hw5).next (w':=w6) hkw6)
    have hbw6:=(hkw6.block _ (Array.getElem?_eq_some_iff.1 hbw5).1).trans hbw5
    clear hkw6
    show K _ w6
    refine hK.out _ _ (uh HSD w6 (uh Hw6)) (fun hHeld9=>?_)
    clear hK K
    try simp only [zz0,zz1,zz2]
    refine rd1 11 none (.store 90 (.tmp 7) (.tmp 27)) 0 (by kernel_rfl) (fun K hK=>?_)
    refine wp_store_row 90 (.tmp 7) (.tmp 27) ?_ w4.heap.size NC ?_ ?_ 90 _ (hbw6) hi90 (by rw [hns];rfl) hno ?_
    ·rfl
    ·kernel_rfl
    ·kernel_rfl
    simp only [Act.put]
    have HE:=hide (show DoA B w vp g V q o F w1.heap.size (w1.heap.size+1) (w6.setRow w4.heap.size NC)∧(w6.setRow w4.heap.size NC).heap[w4.heap.size]?=some (.cells NC 90 (0,0)) from ⟨DoA.nx (uh Hw6) (hbw6) (by have:=(uh Hw4).kept.size;omega),setRow_heap _ _ _ _ _ _ (hbw6)⟩)
    refine hK.out _ _ (uh HSD _ (uh HE).1) (fun hHeld11=>?_)
    clear hK K
    try simp only [zz3]
    refine wpAnyH_done (by kernel_rfl) ?_ _
    go_wp2_with fail
    go_meet
    case rel=>exact ⟨_,rfl,uh HE⟩
  ·refine rdX (some 7) (.alloc 90) 0 none (by kernel_rfl) (fun K hK=>?_) AllReadyH.nil
   refine ite_wanted ?_ ?_
   ·kernel_rfl
   go_simp
   change K _ (w3.alloc (.cells (ncells .empty (List.replicate 32 0)) 90)).drew
   have Hw4:=hide ((uh HA).next (w':=(w3.alloc (.cells (ncells .empty (List.replicate 32 0)) 90)).drew) (((Kept.refl _ _).alloc (Nat.le_refl _) _).draws 1))
   have hbw4:(w3.alloc (.cells (ncells .empty (List.replicate 32 0)) 90)).drew.heap[w3.heap.size]?=some (.cells (ncells .empty (List.replicate 32 0)) 90 (0,0)):=heap_alloc_new w3 _
   generalize (w3.alloc (.cells (ncells .empty (List.replicate 32 0)) 90)).drew=w4 at Hw4 hbw4 hK ⊢
   refine hK.out _ _ (uh HSD w4 (uh Hw4)) (fun hHeld10=>?_)
   clear hK K
   try simp only [zz0,zz1,zz2]
   refine rd1 8 (some 26) (.call { callee:=.value (.func 38),args:=#[.tmp 22,.tmp 23,.tmp 24,.tmp 25],argTypes:=#[31,9,84,86] }) 93 (by kernel_rfl) (fun K hK=>?_)
   go_simp
   refine (uh HENTRY w4 (uh Hw4)).mono ?_
   rintro _ w5 ⟨rfl,hkw5⟩
   have Hw5:=hide ((uh Hw4).next (w':=w5) hkw5)
   have hbw5:=(hkw5.block _ (Array.getElem?_eq_some_iff.1 hbw4).1).trans hbw4
   clear hkw5
   show K _ w5
   refine hK.out _ _ (uh HSD w5 (uh Hw5)) (fun hHeld8=>?_)
   clear hK K
   try simp only [zz0,zz1,zz2]
   refine rd1 9 (some 27) (.call { callee:=.value (.func 37),args:=#[.tmp 21,.tmp 26],argTypes:=#[75,93] }) 90 (by kernel_rfl) (fun K hK=>?_)
   go_simp
   refine (uh HBIND w5 (uh Hw5)).mono ?_
   rintro _ w6 ⟨rfl,hkw6⟩
   have Hw6:=hide ((uh Hw5).next (w':=w6) hkw6)
   have hbw6:=(hkw6.block _ (Array.getElem?_eq_some_iff.1 hbw5).1).trans hbw5
   clear hkw6
   show K _ w6
   refine hK.out _ _ (uh HSD w6 (uh Hw6)) (fun hHeld9=>?_)
   clear hK K
   try simp only [zz0,zz1,zz2]
   refine rd1 11 none (.store 90 (.tmp 7) (.tmp 27)) 0 (by kernel_rfl) (fun K hK=>?_)
   refine wp_store_row 90 (.tmp 7) (.tmp 27) ?_ w3.heap.size NC ?_ ?_ 90 _ (hbw6) hi90 (by rw [hns];rfl) hno ?_
   ·rfl
   ·kernel_rfl
   ·kernel_rfl
   simp only [Act.put]
   have HE:=hide (show DoA B w vp g V q o F w1.heap.size (w1.heap.size+1) (w6.setRow w3.heap.size NC)∧(w6.setRow w3.heap.size NC).heap[w3.heap.size]?=some (.cells NC 90 (0,0)) from ⟨DoA.nx (uh Hw6) (hbw6) (by have:=(uh HA).kept.size;omega),setRow_heap _ _ _ _ _ _ (hbw6)⟩)
   refine hK.out _ _ (uh HSD _ (uh HE).1) (fun hHeld11=>?_)
   clear hK K
   try simp only [zz3]
   refine wpAnyH_done (by kernel_rfl) ?_ _
   go_wp2_with fail
   go_meet
   case rel=>exact ⟨_,rfl,uh HE⟩
 case rest =>
  obtain ⟨d,rfl,hdo,hdn⟩:=hcut
  rw [uh HNC] at hdn
  have HC:=hide (show DoC B w vp g q o F (w1.heap.size+1) d (bs EL) DG g V wc from ⟨hdo.v,hdo.ro,hdn,hdo.clo,hdo.kept.chg.mono fun _ _ e=>e.elim,fun k hk=>.inl hk,⟨rfl,rfl,rfl,rfl⟩,rfl,rfl⟩)
  clear hdo hdn HA HENTRY HBIND HNC hns hno hi90
  go_upto_region 5 with fail
  go_cut [40] (fun v wx=>v=.bool false∧∃ g1,DoC B w vp g q o F (w1.heap.size+1) d (bs EL) DG g1 { V with dsk:=V.wrote s } wx∧g1.lp=g.lp∧g1.rv=g.rv∧g1.SL=g.SL)
  case first =>
   have HSE:=hide (show ∀ g1 V1 W,DoC B w vp g q o F (w1.heap.size+1) d (bs EL) DG g1 V1 W→g1.jp=g.jp→(W.heap[w1.heap.size+1]?=some (.cells (ocells o.err o.more F) 86 (0,0))∧W.cell? ⟨vp,1,none⟩=some (.pointer (some ⟨g.jp,0,none⟩))∧W.rangeAt d 1 (blist DG)) from fun g1 V1 W hW hj=>⟨hW.ro,by rw [cell_of_row _ _ _ _ _ _ hW.v.at',← hj];rfl,fun j v hv=>by rw [cell_of_row _ _ _ _ _ _ hW.nx,← Array.getElem?_toList,Nat.add_comm];exact hv⟩)
   have hi29:=info29s DG hdl
   cases hch:o.ch with
   | none =>
    obtain rfl:F=.nilFunc:=by have:=(uh HC).clo;rw [hch] at this;exact this
    have HW:=hide (show { V with dsk:=V.wrote s }=V by rw [(uh HWRO).2 hch])
    refine wp_region_held_drew (S:=fun W=>(W.heap[w1.heap.size+1]?=some (.cells (ocells o.err o.more .nilFunc) 86 (0,0))∧W.cell? ⟨vp,1,none⟩=some (.pointer (some ⟨g.jp,0,none⟩))∧W.rangeAt d 1 (blist DG))) (by kernel_rfl) (uh HSE g V wc.drew ((uh HC).next ((Kept.refl _ _).draws 1)) rfl) (fun hHeld=>?_)
    refine tkG 0 (some 28) (.load 86 (.tmp 6)) 86 none (.agg (ocells o.err o.more .nilFunc)) (by kernel_rfl) (fun _ _ _ h=>h) (yieldsIf_load_mid (by kernel_rfl) 86 (.tmp 6) rfl (w1.heap.size+1) 0 (by kernel_rfl) (ocells o.err o.more .nilFunc).toList _ (fun W hW=>row_range hW.1) Tryz.underlying86 rfl (by rw [Array.length_toList];exact info86)) hHeld ?_
    simp only [zz0,zz1,zz2]
    refine rd1 1 (some 29) (.call { callee:=.value (.func 39),args:=#[.tmp 28],argTypes:=#[86] }) 4 (by kernel_rfl) (fun K hK=>?_)
    go_simp
    refine (changes_no o.err o.more wc.drew).mono ?_
    rintro _ w4 ⟨rfl,hk4⟩
    have HC4:=hide ((uh HC).next (w':=w4) (show Kept wc.heap.size wc w4 from ⟨hk4.os,hk4.output,hk4.size,hk4.block⟩))
    clear hk4
    show K _ w4
    refine hK.out _ _ (uh HSE g V w4 (uh HC4) rfl) (fun hHeld1=>?_)
    clear hK K
    try simp only [zz0,zz1,zz2]
    refine tkL 11 [(2,some 30,.bool false),(3,some 31,undef),(4,some 32,undef),(5,some 33,undef),(6,some 34,undef),(7,some 35,undef),(8,some 36,undef),(9,some 37,undef),(10,some 38,undef),(11,some 39,undef),(12,some 40,.bool false)] (by kernel_rfl) (fun _ _ _ _ _ h=>h) (fun _ _=>by kernel_rfl) hHeld1 ?_
    simp only [zz0,zz1,zz2,zz4,zz5]
    refine wpAnyH_done (by kernel_rfl) ?_ _
    go_wp2_with fail
    go_meet
    case rel=>exact ⟨rfl,g,by rw [uh HW];exact uh HC4,rfl,rfl,rfl⟩
   | some c =>
    obtain ⟨fn,fb,hFe⟩:∃ n b,F=.func (.func n) #[] b:=by have:=(uh HC).clo;rw [hch] at this;exact this.fn
    subst hFe
    have HW:=hide ((uh HWRO).1 (by rw [hch];rfl))
    have hdb:=(uh HB).dsk
    have hsm:=hdb.small (uh HB).le.1
    refine wp_region_held_drew (S:=fun W=>(W.heap[w1.heap.size+1]?=some (.cells (ocells o.err o.more (.func (.func fn) #[] fb)) 86 (0,0))∧W.cell? ⟨vp,1,none⟩=some (.pointer (some ⟨g.jp,0,none⟩))∧W.rangeAt d 1 (blist DG))) (by kernel_rfl) (uh HSE g V wc.drew ((uh HC).next ((Kept.refl _ _).draws 1)) rfl) (fun hHeld=>?_)
    refine tkG 0 (some 28) (.load 86 (.tmp 6)) 86 none (.agg (ocells o.err o.more (.func (.func fn) #[] fb))) (by kernel_rfl) (fun _ _ _ h=>h) (yieldsIf_load_mid (by kernel_rfl) 86 (.tmp 6) rfl (w1.heap.size+1) 0 (by kernel_rfl) (ocells o.err o.more (.func (.func fn) #[] fb)).toList _ (fun W hW=>row_range hW.1) Tryz.underlying86 rfl (by rw [Array.length_toList];exact info86)) hHeld ?_
    simp only [zz0,zz1,zz2]
    refine rd1 1 (some 29) (.call { callee:=.value (.func 39),args:=#[.tmp 28],argTypes:=#[86] }) 4 (by kernel_rfl) (fun K hK=>?_)
    go_simp
    refine (changes_yes o.err o.more fn fb wc.drew).mono ?_
    rintro _ w4 ⟨rfl,hk4⟩
    have HC4:=hide ((uh HC).next (w':=w4) (show Kept wc.heap.size wc w4 from ⟨hk4.os,hk4.output,hk4.size,hk4.block⟩))
    clear hk4
    show K _ w4
    refine hK.out _ _ (uh HSE g V w4 (uh HC4) rfl) (fun hHeld1=>?_)
    clear hK K
    try simp only [zz0,zz1,zz2]
    refine tkL 4 [(2,some 30,.bool true),(3,some 31,.pointer (some ⟨vp,0,none⟩)),(4,some 32,.pointer (some ⟨vp,0,none⟩)),(5,some 33,.pointer (some ⟨vp,1,none⟩))] (by kernel_rfl) (fun _ _ _ _ _ h=>h) (fun _ _=>by kernel_rfl) hHeld1 ?_
    simp only [zz0,zz1,zz2,zz4,zz5]
    refine tkG 6 (some 34) (.load 74 (.tmp 33)) 74 (some (2,true)) (.pointer (some ⟨g.jp,0,none⟩)) (by kernel_rfl) (fun _ _ _ h=>h) (Or.inl ⟨by kernel_rfl,fun W hW=>by simp [execOp,go_sem,hW.2.1]⟩) hHeld1 ?_
    simp only [zz0,zz1,zz2]
    refine tkP 7 (some 35) (.pointer (some ⟨d,1,none⟩)) (by kernel_rfl) (fun _ _ _ h=>h) (fun _ _=>by kernel_rfl) hHeld1 ?_
    simp only [zz0,zz1,zz2]
    refine tkG 8 (some 36) (.load 29 (.tmp 35)) 29 (some (2,true)) (.agg (blist DG).toArray) (by kernel_rfl) (fun _ _ _ h=>h) (yieldsIf_load_mid (by kernel_rfl) 29 (.tmp 35) rfl d 1 (by kernel_rfl) (blist DG) _ (fun W hW=>hW.2.2) Tryz.underlying29 rfl hi29) hHeld1 ?_
    simp only [zz0,zz1,zz2]
    refine tkP 9 (some 37) (.string s) (by kernel_rfl) (fun _ _ _ h=>h) (fun _ _=>by kernel_rfl) hHeld1 ?_
    simp only [zz0,zz1,zz2]
    refine wpAnyH_ready (rs:=[10]) (by kernel_rfl) (by simp) ?_
    refine rdX (some 38) (.call { callee:=.value (.func 40),args:=#[.tmp 34,.tmp 36,.tmp 37],argTypes:=#[74,29,9] }) 4 (some (2,true)) (by kernel_rfl) (fun K hK=>?_) AllReadyH.nil
    refine ite_wanted ?_ ?_
    ·kernel_rfl
    go_simp
    refine (write_go B w4 g.jp g.dp g.dv V.dsk DG s (uh HC4).v.jat (uh HC4).v.dsk (by have:=(uh HC4).chg.size;omega) hdl ⟨hdb.1,hdb.2.1⟩ (by omega) (fun f hf=>by have:=hsm.2 f hf;omega) (by omega)).mono ?_
    rintro _ w5 ⟨rfl,v5,hd5,hu5⟩
    have HC5:=hide (show DoC B w vp g q o (.func (.func fn) #[] fb) (w1.heap.size+1) d (bs EL) DG { g with dv:=v5 } { V with dsk:=V.wrote s } w5 from by
     rw [uh HW,uh HDG]
     have h4:=uh HC4
     have hst:=hu5.stayD h4.v.dsk
     obtain ⟨a1,a2,a3⟩:=h4.v.setD hd5 hu5
     refine ⟨a1,row_over h4.ro hst (by decide),row_over h4.nx hst (by decide),h4.clo.over hst (by decide),h4.chg.trans' a2 fun k hk e=>(h4.foot k e).elim id fun e=>absurd hk (by omega),fun k hk=>?_,⟨rfl,rfl,rfl,rfl⟩,rfl,rfl⟩
     rcases a3 k hk with e | e
     ·exact h4.foot k e
     ·exact .inr (by have:=h4.chg.size;omega))
    clear hd5 hu5
    show K _ w5
    refine hK.out _ _ (uh HSE _ _ w5 (uh HC5) rfl) (fun hHeld10=>?_)
    clear hK K
    try simp only [zz0,zz1,zz2]
    refine tkL 2 [(11,some 39,.bool false),(12,some 40,.bool false)] (by kernel_rfl) (fun _ _ _ _ _ h=>h) (fun _ _=>by kernel_rfl) hHeld10 ?_
    simp only [zz0,zz1,zz2,zz4,zz5]
    refine wpAnyH_done (by kernel_rfl) ?_ _
    go_wp2_with fail
    go_meet
    case rel=>exact ⟨rfl,_,uh HC5,rfl,rfl,rfl⟩
  case rest =>
   obtain ⟨rfl,g1,hc1,hg1,hg2,hg3⟩:=hcut
   have HC1:=hide hc1
   clear hc1 HC
   have HSF:=hide (show ∀ g1 V1 W,DoC B w vp g q o F (w1.heap.size+1) d (bs EL) DG g1 V1 W→g1.lp=g.lp→(W.cell? ⟨vp,2,none⟩=some (.pointer (some ⟨g.lp,0,none⟩))∧W.heap[d]?=some (.cells (ncells (bs EL) DG) 90 (0,0))) from fun g1 V1 W hW hl=>⟨by rw [cell_of_row _ _ _ _ _ _ hW.v.at',← hl];rfl,hW.nx⟩)
   have hns:(ncells (bs EL) DG).size=33:=sealA_size hdl
   have hLAT:=(uh HC1).v.log
   have hSNK:=(uh HC1).v.snk
   rw [hg1,hg2,hg3] at hLAT
   rw [hg3] at hSNK
   have HLAT:=hide hLAT
   dsimp only at hSNK
   have HLAY:=hide (show V.lay s=layF (g.SL.map (·.x)) (mostOf (g.SL.map (·.x)) .empty++frOf (bs EL)) by unfold Vlt.lay;rw [uh HBY,hSNK])
   have hmo:mostOf (g.SL.map (·.x)) .empty=logOf E:=by rw [hSNK];exact (uh HB).ok.most'
   have hmz:(logOf E).size≤400*E.length:=logOf_small (chn_fits (uh HB).ok.chn)
   have hle:=(uh HB).le
   have hpre:SLpre g.SL (mostOf (g.SL.map (·.x)) .empty):=⟨by have:=congrArg List.length hSNK;simp at this;have:=(uh HB).few;omega,fun e he=>by
    obtain ⟨⟨m,hm,hd,ha⟩,h0,hl⟩:=(uh HB).snk e.x (by rw [← hSNK];exact List.mem_map.2 ⟨e,he,rfl⟩)
    have:=logOf_size_le E m
    exact ⟨by rw [hmo,hd];omega,h0,by omega,hl⟩,by rw [hmo];omega⟩
   clear hLAT hSNK hmo hmz
   go_wp2_with fail
   refine wp_region_held_drew (S:=fun W=>(W.cell? ⟨vp,2,none⟩=some (.pointer (some ⟨g.lp,0,none⟩))∧W.heap[d]?=some (.cells (ncells (bs EL) DG) 90 (0,0)))) (by kernel_rfl) (uh HSF g1 _ wc.drew ((uh HC1).next ((Kept.refl _ _).draws 1)) hg1) (fun hHeld=>?_)
   refine tkL 3 [(0,some 44,.pointer (some ⟨vp,0,none⟩)),(1,some 45,.pointer (some ⟨vp,0,none⟩)),(2,some 46,.pointer (some ⟨vp,2,none⟩))] (by kernel_rfl) (fun _ _ _ _ _ h=>h) (fun _ _=>by kernel_rfl) hHeld ?_
   simp only [zz0,zz1,zz2,zz4,zz5]
   refine tkG 3 (some 47) (.load 75 (.tmp 46)) 75 none (.pointer (some ⟨g.lp,0,none⟩)) (by kernel_rfl) (fun _ _ _ h=>h) (Or.inl ⟨by kernel_rfl,fun W hW=>by simp [execOp,go_sem,hW.1]⟩) hHeld ?_
   simp only [zz0,zz1,zz2]
   refine tkG 4 (some 48) (.load 90 (.tmp 7)) 90 none (.agg (ncells (bs EL) DG)) (by kernel_rfl) (fun _ _ _ h=>h) (yieldsIf_load_mid (by kernel_rfl) 90 (.tmp 7) rfl d 0 (by kernel_rfl) (ncells (bs EL) DG).toList _ (fun W hW=>row_range hW.2) Tryz.underlying90 rfl (by rw [Array.length_toList,hns];exact info90)) hHeld ?_
   simp only [zz0,zz1,zz2]
   refine rd1 5 (some 49) (.call { callee:=.value (.func 41),args:=#[.tmp 47,.tmp 48],argTypes:=#[75,90] }) 4 (by kernel_rfl) (fun K hK=>?_)
   go_simp
   refine (lay_go B wc.drew g.lp g.rv g.SL V.cnt V.last (bs EL) DG ((uh HLAT).kept ((Kept.refl _ _).draws 1)) hdl (by have:=hpre.1;omega) hcnt hELs (fun e he=>(hpre.2.1 e he).1) (by have:=hpre.2.2;omega) (fun e he=>by have:=(hpre.2.1 e he).2;omega) (fun e he=>(hpre.2.1 e he).2.2.2)).mono ?_
   rw [← uh HLAY]
   rintro _ w5 ⟨rfl,SL5,hl5,hx5,hp5,hc5,hf5⟩
   have HD5:=hide (show ∃ g5,DoC B w vp g q o F (w1.heap.size+1) d (bs EL) DG g5 ⟨V.key,V.wrote s,(V.lay s).1,(laid V.cnt V.last DG (V.lay s).2).1,(laid V.cnt V.last DG (V.lay s).2).2,V.sto⟩ w5∧g5.lp=g.lp from by
    have h4:=(uh HC1).next (w':=wc.drew) ((Kept.refl _ _).draws 1)
    rw [← hg1,← hg2] at hl5
    rw [← hg1,← hg2,← hg3] at hc5
    obtain ⟨a1,a2,a3,a4⟩:=h4.v.setL hl5 hc5 (fun k hk=>by rw [hg3,hg1,hg2];rw [hg1,hg2] at hk;exact hf5 k hk)
    rw [hx5] at a1
    refine ⟨{ g1 with SL:=SL5 },⟨a1,row_over h4.ro a4 (by decide),row_over h4.nx a4 (by decide),h4.clo.over a4 (by decide),h4.chg.trans' a2 fun k hk e=>(h4.foot k e).elim id fun e=>absurd hk (by omega),fun k hk=>?_,h4.sto,?_,h4.dp⟩,hg1⟩
    ·rcases a3 k hk with e | e
     ·exact h4.foot k e
     ·exact .inr (by have:=h4.chg.size;omega)
    ·exact hp5)
   clear hl5 hx5 hp5 hc5 hf5
   obtain ⟨g5,hd5,hg5⟩:=uh HD5
   have HC5:=hide hd5
   clear hd5 HD5
   show K _ w5
   refine hK.out _ _ (uh HSF g5 _ w5 (uh HC5) hg5) (fun hHeld5=>?_)
   clear hK K
   try simp only [zz0,zz1,zz2]
   clear HLAT hpre HSF
   cases hlay:(V.lay s).2 with
   | false =>
    refine tkP 6 (some 50) (.bool true) (by kernel_rfl) (fun _ _ _ h=>h) (fun _ _=>by kernel_rfl) hHeld5 ?_
    simp only [zz0,zz1,zz2]
    refine wpAnyH_done (by kernel_rfl) ?_ _
    have HN:=hide ((uh HNEXT).2 hlay)
    have HTE:=hide ((uh HTELL).2 hlay)
    rw [hlay] at HC5
    go_wp2_with fail
    refine (refused_go 6 w5).mono ?_
    rintro _ w6 ⟨rfl,hk6⟩
    have HC6:=hide ((uh HC5).next hk6)
    clear hk6
    go_wp2_with fail
    refine (answer_go 6 .empty .nilFunc w6 (by decide) (by decide)).mono ?_
    rintro _ w7 ⟨rfl,hk7⟩
    have HC7:=hide ((uh HC6).next hk7)
    clear hk7
    go_wp2_with fail
    go_ret
    have h7:=uh HC7
    exact ⟨by rw [uh HTE];rfl,g5,by rw [uh HN];exact h7.v,h7.chg,h7.foot,h7.sl,h7.dp⟩
   | true =>
    refine tkP 6 (some 50) (.bool false) (by kernel_rfl) (fun _ _ _ h=>h) (fun _ _=>by kernel_rfl) hHeld5 ?_
    simp only [zz0,zz1,zz2]
    refine wpAnyH_done (by kernel_rfl) ?_ _
    have HN:=hide ((uh HNEXT).1 hlay)
    have HTE:=hide ((uh HTELL).1 hlay)
    rw [hlay] at HC5
    have hro:=(uh HC5).ro
    clear hHeld hHeld5
    go_wp2_with (first | (refine wpList_load_row rfl 86 (.tmp 6) rfl (w1.heap.size+1) rfl 86 (ocells o.err o.more F) (0,0) _ hro Tryz.underlying86 rfl info86 ?_))
    refine (show Calls Tryz.prog 44 #[.agg (ocells o.err o.more F)] w5 (fun e w6=>e=.returned (.tuple #[])∧w6.heap[w1.heap.size+1]?=some (.cells (ocells o.err o.more F) 86 (0,0))∧∃ g6,VAt B w6 vp g6 (V.next s)∧Chg (Vft vp g) w w6∧(∀ k,Vft vp g6 k→Vft vp g k∨w.heap.size≤k)∧g6.SL.map (·.p)=g.SL.map (·.p)∧g6.dp=g.dp) from ?_).mono ?_
    ·have h5:=uh HC5
     rcases uh HTHEN with ⟨q',hq',e'⟩ | ⟨_,e'⟩
     ·cases e'
      have hsto:=h5.v.sto
      refine (carry_go B w.heap.size w5 g5.sp g5.tb g5.pb g5.L V.sto q F hsto h5.clo (uh HB).ok.sto (readQ_ok hq') (by have:=h5.chg.size;omega) h5.chg.size (fun k hk=>?_)).mono ?_
      ·rw [h5.sto.1,h5.sto.2.1,h5.sto.2.2.1,h5.sto.2.2.2] at hk
       exact ((uh HV).foot (.inr (.inr (.inr (.inr hk))))).1
      ·rintro e6 w6 ⟨rfl,L6,hs6,hc6,hf6,hst6⟩
       obtain ⟨a1,a2,a3⟩:=h5.v.setS hs6 hst6 hc6 hf6
       refine ⟨rfl,row_over h5.ro hst6 (by decide),{ g5 with L:=L6 },?_,h5.chg.trans' a2 (fun k hk e=>?_),fun k hk=>?_,h5.sl,h5.dp⟩
       ·rw [uh HN,uh HDG];exact a1
       ·rcases e with e | e
        ·exact (h5.foot k e).elim id fun e=>absurd hk (by omega)
        ·exact absurd hk (by omega)
       ·rcases a3 k hk with e | e
        ·exact h5.foot k e
        ·exact .inr e
     ·cases e'
      obtain rfl:F=.nilFunc:=h5.clo
      refine (carry_no 1 .empty w5).mono ?_
      rintro e6 w6 ⟨rfl,hk6⟩
      have h6:=h5.next hk6
      exact ⟨rfl,h6.ro,g5,by rw [uh HN,uh HDG];exact h6.v,h6.chg,h6.foot,h6.sl,h6.dp⟩
    ·rintro _ w6 ⟨rfl,hr6,hg6⟩
     have HG6:=hide hg6
     clear hg6 hro
     go_wp2_with (first | (refine wpList_load_row rfl 86 (.tmp 6) rfl (w1.heap.size+1) rfl 86 (ocells o.err o.more F) (0,0) _ hr6 Tryz.underlying86 rfl info86 ?_))
     refine (answer_go o.err o.more F w6 (by omega) (by omega)).mono ?_
     rintro _ w7 ⟨rfl,hk7⟩
     obtain ⟨g6,a1,a2,a3,a4,a5⟩:=uh HG6
     have HG7:=hide (show VAt B w7 vp g6 (V.next s)∧Chg (Vft vp g) w w7 from ⟨a1.kept hk7,a2.trans' hk7.chg fun _ _ e=>e.elim⟩)
     have HG8:=hide (And.intro a3 (And.intro a4 a5))
     clear hk7 a1 a2 a3 a4 a5 hr6
     go_wp2_with fail
     go_ret
     exact ⟨by rw [uh HTE];rfl,g6,(uh HG7).1,(uh HG7).2,(uh HG8).1,(uh HG8).2.1,(uh HG8).2.2⟩
end Go.Proofs.YtlbacbcenejngaaGreatDoor
namespace Go.Proofs.YtlbacbcenejngaaGreatDoor
open Go.RowKit
theorem own_less {B B':Nat} {w:World} {e:TypeId} {z:Nat} {v:Value} {n:Nat} {xs:List Value} (h:w.ownsRow B' e z v n xs) (hB:B≤B'):w.ownsRow B e z v n xs:=by
 refine ⟨h.1,?_⟩
 rcases h.2 with h' | ⟨g,c,cur,h1,h2,h3⟩
 ·exact .inl h'
 ·exact .inr ⟨g,c,cur,h1,Nat.le_trans hB h2,h3⟩
theorem setCell_self {w:World} {b j t:Nat} {cs:Array Value} {v:Value} (h:w.heap[b]?=some (.cells cs t (0,0))) (hv:cs[j]?=some v):w.setCell ⟨b,j,none⟩ v=w:=by
 have hs:(w.setCell ⟨b,j,none⟩ v).heap=w.heap:=by
  apply Array.ext_getElem?
  intro k
  by_cases hk:k=b
  ·subst hk
   rw [heap_setCell_same _ _ _ _ _ _ h,h]
   have:cs.setIfInBounds j v=cs:=by
    apply Array.ext_getElem?
    intro i
    rw [Array.getElem?_setIfInBounds]
    split
    ·rename_i e;subst e
     have:=(Array.getElem?_eq_some_iff.1 hv).1
     rw [if_pos this,hv]
    ·rfl
   rw [this]
  ·exact heap_setCell_other _ _ _ _ hk
 have:w.setCell ⟨b,j,none⟩ v={ w with heap:=(w.setCell ⟨b,j,none⟩ v).heap }:=rfl
 rw [this,hs]
set_option maxRecDepth 100000 in
set_option maxHeartbeats 2000000 in
theorem auditOpen_go (B:Nat) (w:World) (v:Value) (ps:List Nat) (b o cap:Nat) (SL:List (Loc Snk)) (h:PSl w v ps b o cap) (hs:Fam (PS B 81) w SL) (hsl:SL.map (·.p)=ps) (hx:∀ e∈SL,e.x.data=.empty) (hp:ps.length≤100) (hB:B≤w.heap.size) (hT:Table w) (hz:0<w.heap.size) :
  Calls Tryz.prog 62 #[v] w fun e w'=>∃ lp rv,e=.returned (.tuple #[.pointer (some ⟨lp,0,none⟩),.slice none 0 0])∧LAt B w' lp rv SL 0 zeros∧w.heap.size≤lp∧(∀ k,rv.ownBlock=some k→w.heap.size≤k)∧Kept w.heap.size w w':=by
 have HCL:=hide (cloneS_go w v ps b o cap h hp)
 obtain ⟨a0,n0,c0,hv⟩:∃ a n c,v=.slice a n c:=⟨_,_,_,h.v⟩
 subst hv
 have HS:=hide hs
 have HT:=hide hT
 have hpl:SL.length=ps.length:=by rw [← hsl];simp
 have HX:=hide hx
 have hmo:mostOf (SL.map (·.x)) .empty=.empty:=by
  have:∀ (l:List Snk),(∀ k∈l,k.data=.empty)→mostOf l .empty=.empty:=fun l=>by
   induction l with
   | nil=>intro _;rfl
   | cons k l ih=>intro hk;rw [mostOf,hk k (.head _),if_neg (by decide)];exact ih fun x hx=>hk x (.tail _ hx)
  exact this _ fun k hk=>by obtain ⟨e,he,rfl⟩:=List.mem_map.1 hk;exact hx e he
 have HPT:=hide (show pcells ps=SL.map fun e=>Value.pointer (some ⟨e.p,0,none⟩) by rw [← hsl,pcells,List.map_map];rfl)
 have HPL:=hide hpl
 clear h hs hT hx hsl hpl
 go_enter Tryz.func62,Tryz.ntmps62
 go_wp2_with fail
 refine (uh HCL).mono ?_
 rintro _ w1 ⟨rv,rfl,ho,hk1⟩
 obtain ⟨ra,rc,hrv,_,_⟩:=own_len ho
 have HO:=hide ho
 have HK1:=hide hk1
 have hz1:=hk1.size
 clear ho hk1 HCL
 subst hrv
 obtain ⟨w2,hw2⟩:∃ w2,w2=w1.alloc (.cells (lcells (.slice ra ps.length rc) 0 zeros) 127):=⟨_,rfl⟩
 have hk12:Kept w1.heap.size w1 w2:=by rw [hw2];exact (Kept.refl _ _).alloc (Nat.le_refl _) _
 have HL2:=hide (show LAt B w2 w1.heap.size (.slice ra ps.length rc) SL 0 zeros from
  ⟨by rw [hw2];exact heap_alloc_new _ _,(by rw [uh HPL,← uh HPT];exact own_kept (own_less (uh HO) hB) hk12),(uh HS).kept (wayS B 81 (by decide)) ((uh HK1).trans (hk12.mono hz1)),by omega,rfl⟩)
 have HK2:=hide ((uh HK1).trans (hk12.mono hz1))
 have HRB:=hide (show ∀ k,(Value.slice ra ps.length rc).ownBlock=some k→w.heap.size≤k from fun k hk=>((uh HO).lt k hk).1)
 clear hk12
 go_upto_region 2 with fail
 change Code.wp _ _ _ _ (w1.alloc (.cells (lcells (.slice ra ps.length rc) 0 zeros) 127))
 rw [← hw2]
 clear hw2
 go_wp2_with fail
 refine (frames_go B w2 w1.heap.size (.slice ra ps.length rc) SL 0 zeros (uh HL2) (by rw [uh HPL];omega) (fun e he=>by rw [uh HX e he];decide)).mono ?_
 rintro _ wq ⟨rfl,hwq⟩
 obtain rfl:w2=wq:=hwq.symm
 rw [hmo]
 go_wp2_with fail
 refine (digests0_go w2 ((uh HT).kept (uh HK2) hz) (by have:=(uh HK2).size;omega)).mono ?_
 rintro _ w3 ⟨rfl,hk3⟩
 have HL3:=hide ((uh HL2).kept hk3)
 have HK3:=hide ((uh HK2).trans (hk3.mono (uh HK2).size))
 clear hk3
 have at3:=(uh HL3).at'
 have c1:=(uh HL3).c.2.1
 have f1:=frozen_of_row _ _ 1 _ _ at3
 have hst:w3.setCell ⟨w1.heap.size,1,none⟩ (.int .i64 0)=w3:=by
  have:=setCell_self at3 (j:=1) (v:=.int .i64 0) rfl
  exact this
 have HST:=hide hst
 have c1':(w3.setCell ⟨w1.heap.size,1,none⟩ (.int .i64 0)).cell? ⟨w1.heap.size,1,none⟩=some (.int .i64 0):=by rw [hst];exact c1
 clear hst at3
 go_wp2_with fail
 rw [uh HST]
 go_ret2
 exact ⟨_,_,rfl,uh HL3,by omega,uh HRB,uh HK3⟩
def vlt0 (key root:ByteArray) (l:List Snk):Vlt:=⟨key,dsk0,l,0,zeros,sto0 root⟩
def opEnd (B:Nat) (w:World) (dp:Nat) (dv:Value) (SL:List (Loc Snk)) (key root:ByteArray) (e:Ending) (w':World):Prop :=
 ∃ vp g,e=.returned (.tuple #[.pointer (some ⟨vp,0,none⟩),.int .i64 0])∧VAt B w' vp g (vlt0 key root (SL.map (·.x)))∧g.SL=SL∧g.dp=dp∧Kept w.heap.size w w' ∧
  ∀ k,Vft vp g k→(k=dp∨dv.ownBlock=some k∨∃ e∈SL,e.p=k∨e.v.ownBlock=some k)∨w.heap.size≤k
set_option maxRecDepth 100000 in
set_option maxHeartbeats 2000000 in
theorem open_go (B:Nat) (w:World) (dp:Nat) (dv:Value) (v:Value) (ps:List Nat) (b o cap:Nat) (SL:List (Loc Snk)) (key root:ByteArray) (hd:DAt B 117 149 w dp dv dsk0) (hdB:B≤dp) (h:PSl w v ps b o cap) (hs:Fam (PS B 81) w SL) (hsl:SL.map (·.p)=ps) (hx:∀ e∈SL,e.x.data=.empty) (hp:1≤ps.length∧ps.length≤4) (hr:isNm root=true) (hk:key.size≤1100000) (hB:B≤w.heap.size) (hT:Table w) (hz:0<w.heap.size) :
  Calls Tryz.prog 30 #[.pointer (some ⟨dp,0,none⟩),v,.string key,.string root] w (opEnd B w dp dv SL key root):=by
 have HP:=hide h
 have hv:=h.v
 have HD:=hide hd
 have HS:=hide hs
 have HT:=hide hT
 have hrs:=isNm_8 hr
 clear h hd hs hT
 subst hv
 obtain ⟨n,hn⟩:∃ n,n=ps.length:=⟨_,rfl⟩
 rw [← hn] at hp
 have h1I:¬ (n:Int)<1:=by omega
 have h4I:¬ (4:Int)<(n:Int):=by omega
 have HN:=hide hn
 rw [← hn]
 clear hn
 go_enter Tryz.func30,Tryz.ntmps30
 go_wp2_with fail
 refine (show Calls Tryz.prog 59 #[.slice (some ⟨b,o,none⟩) n cap,.pointer none] w _ from by rw [uh HN];exact contains_go w _ ps b o cap (uh HP) (by rw [← uh HN];omega)).mono ?_
 rintro _ wq ⟨rfl,hwq⟩
 obtain rfl:w=wq:=hwq.symm
 clear hwq
 go_wp2_with fail
 refine (isName_go root w (by omega)).mono ?_
 rintro _ wq ⟨rfl,hwq⟩
 obtain rfl:w=wq:=hwq.symm
 clear hwq
 rw [hr]
 go_wp2_with fail
 refine (jopen_go B w dp dv (uh HD)).mono ?_
 rintro _ w1 ⟨rfl,hj1,hk1⟩
 have HK1:=hide hk1
 have hz1:=hk1.size
 have hlj:w.heap.size<w1.heap.size:=(Array.getElem?_eq_some_iff.1 hj1).1
 clear hk1
 go_wp2_with fail
 refine (show Calls Tryz.prog 62 #[.slice (some ⟨b,o,none⟩) n cap] w1 _ from by rw [uh HN];exact auditOpen_go B w1 _ ps b o cap SL ((uh HP).kept (uh HK1)) ((uh HS).kept (wayS B 81 (by decide)) (uh HK1)) hsl hx (by rw [← uh HN];omega) (by omega) ((uh HT).kept (uh HK1) hz) (by omega)).mono ?_
 rintro _ w2 ⟨lp,rv,rfl,hl2,hlp,hrv,hk2⟩
 have HL2:=hide hl2
 have HRV:=hide hrv
 have HK2:=hide hk2
 have hz2:=hk2.size
 clear hl2 hrv hk2
 go_wp2_with fail
 refine (clone_go key w2 (by omega)).mono ?_
 rintro _ w3 ⟨rfl,hk3⟩
 have HK3:=hide hk3
 have hz3:=hk3.size
 clear hk3
 go_wp2_with fail
 refine (newSto_go B w3 root (by omega) (by omega)).mono ?_
 rintro _ w4 ⟨sp,tb,pb,rfl,hs4,hf4,hk4⟩
 have HS4:=hide hs4
 have HF4:=hide hf4
 have HK4:=hide hk4
 have hz4:=hk4.size
 clear hs4 hf4 hk4
 have HKW:=hide (show Kept w.heap.size w w4 from (((uh HK1).trans ((uh HK2).mono hz1)).trans ((uh HK3).mono (by omega))).trans ((uh HK4).mono (by omega)))
 obtain ⟨w5,hw5⟩:∃ w5,w5=w4.alloc (.cells #[.string key,.pointer (some ⟨w.heap.size,0,none⟩),.pointer (some ⟨lp,0,none⟩),.pointer (some ⟨sp,0,none⟩),.bool false] 78):=⟨_,rfl⟩
 have hk45:Kept w4.heap.size w4 w5:=by rw [hw5];exact (Kept.refl _ _).alloc (Nat.le_refl _) _
 have HV:=hide (show VAt B w5 w4.heap.size ⟨w.heap.size,dp,dv,lp,rv,SL,sp,tb,pb,[]⟩ (vlt0 key root (SL.map (·.x))) from
  ⟨by rw [hw5];exact heap_alloc_new _ _,(hk45.block w.heap.size (by omega)).trans (((uh HK4).block w.heap.size (by omega)).trans (((uh HK3).block w.heap.size (by omega)).trans (((uh HK2).block w.heap.size (by omega)).trans hj1))),((uh HD).kept (uh HKW)).kept hk45,(((uh HL2).kept (uh HK3)).kept (uh HK4)).kept hk45,rfl,(uh HS4).kept hk45,⟨by show B≤w4.heap.size;omega,by show B≤w.heap.size;omega,hdB⟩⟩)
 have HK5:=hide ((uh HKW).trans (hk45.mono (by omega)))
 have HFT:=hide (show ∀ k,Vft w4.heap.size ⟨w.heap.size,dp,dv,lp,rv,SL,sp,tb,pb,[]⟩ k→(k=dp∨dv.ownBlock=some k∨∃ e∈SL,e.p=k∨e.v.ownBlock=some k)∨w.heap.size≤k from fun k hk=>by
  rcases hk with rfl | rfl | hk | hk | hk
  ·exact .inr (by omega)
  ·exact .inr (Nat.le_refl _)
  ·rcases hk with hk | hk
   ·exact .inl (.inl hk)
   ·exact .inl (.inr (.inl hk))
  ·rcases hk with hk | hk | hk
   ·exact .inr (by have hk':k=lp:=hk;omega)
   ·exact .inr (by have:=uh HRV k hk;omega)
   ·exact .inl (.inr (.inr hk))
  ·exact .inr (by have:=uh HF4 k hk;omega))
 clear hk45
 go_upto_region 8 with fail
 rw [← hw5]
 clear hw5
 go_wp2_with fail
 refine (requests_go B w5 w.heap.size dp dv (uh HV).jat (uh HV).dsk).mono ?_
 rintro _ w6 ⟨rfl,hk6⟩
 have HV6:=hide ((uh HV).kept hk6)
 have HK6:=hide ((uh HK5).trans (hk6.mono (uh HK5).size))
 clear hk6
 go_wp2_with fail
 go_loopw [60] (fun vi wr=>vi=.int .i64 0∧wr=w6) (fun _ _=>0)
 case atStart=>exact ⟨rfl,rfl⟩
 case round =>
  obtain ⟨rfl,hwr⟩:=hrel
  obtain rfl:w6=wr:=hwr.symm
  clear hwr
  go_wp2_with fail
  go_ret2
  exact ⟨_,_,rfl,uh HV6,rfl,rfl,uh HK6,uh HFT⟩
end Go.Proofs.YtlbacbcenejngaaGreatDoor
