/-
  We Wx
-/
import Derived.Test.YtlbacbcenejngaaGreatDoorV02
import Derived.Test.YtlbacbcenejngaaGreatDoorV39
import Derived.Test.YtlbacbcenejngaaGreatDoorV38
namespace Go.Proofs.YtlbacbcenejngaaGreatDoor
open Go.RowKit
set_option maxRecDepth 100000 in
set_option maxHeartbeats 8000000 in
theorem parse_ref (s:ByteArray) (w:World) (hs:s.size≤140737488355000):Calls Tryz.prog 148 #[.string s] w (prEnd s w):=by
 obtain ⟨w1,hw1⟩:∃ w1,w1=(w.alloc (.cells pq0.cells 223)).alloc (.cells pq0.cells 223):=⟨_,rfl⟩
 have HP:=hide (show PA w pq0 w1 from by
  rw [hw1]
  refine ⟨?_,⟨pq0.cells,?_,rfl⟩,((Kept.refl _ _).alloc (Nat.le_refl _) _).alloc (by simp) _⟩
  ·have:=heap_alloc_new (w.alloc (.cells pq0.cells 223)) (.cells pq0.cells 223)
   rwa [World.size_alloc] at this
  ·rw [Below.heap_alloc _ _ _ (by simp)];exact heap_alloc_new _ _)
 obtain ⟨r,hr⟩:∃ r,r=pq0:=⟨_,rfl⟩
 rw [← hr] at HP
 have HR:=hide hr
 clear hr
 go_enter Tryz.func148,Tryz.ntmps148
 go_upto_region 2 with fail
 change Code.wp _ _ _ _ ((w.alloc (.cells pq0.cells 223)).alloc (.cells pq0.cells 223))
 rw [← hw1]
 clear hw1
 by_cases h0:s.size=0
 ·have h0I:(s.size:Int)=0:=by omega
  have hrow:=(uh HP).at'
  obtain ⟨old,hold,hosz⟩:=(uh HP).res
  have hone:=r.one
  have HQ:=hide (takeB_nil h0)
  go_wp2_with (first | (refine wpList_load_row rfl 223 (.tmp 4) rfl (w.heap.size+1) rfl 223 r.cells (0,0) _ hrow Tryz.underlying223 rfl info223 ?_) | (refine wpList_store_put rfl 223 (.tmp 2) (.tmp 23) rfl w.heap.size r.cells rfl rfl 223 old hold info223 hosz hone ?_;intro wz hpz;have HZ:=hide (pr_put (uh HP) hpz);clear hpz))
  have HQ0:=uh HQ
  exact pr_ret rfl rfl (uh HZ).1 ⟨r,by rw [HQ0];rfl,(fun q hq=>by rw [HQ0] at hq;cases hq),(uh HZ).2⟩
 ·have h0I:¬ (s.size:Int)=0:=by omega
  have hB:=takeB_some h0
  have hp0:0<s.size:=by omega
  have hpI:(0:Int)<(s.size:Int):=by omega
  have hp1:(1:Int)≤(s.size:Int):=by omega
  have hg:=byte_get s 0 hp0
  unfold Sha.at8 at hg
  have hz1:(s.extract 1 s.size).size≤140737488355000:=by rw [ByteArray.size_extract];omega
  generalize s.data.toList.getD 0 0=op at *
  have HB:=hide hB
  clear hB
  have hcell:=(uh HP).c 0
  have hfz:=(uh HP).fz 0
  have hP1:=(uh HP).set (r':={ r with op:=op }) 0 (.int .u8 (op.toNat:Int)) rfl
  obtain ⟨r1,hr1⟩:∃ r1,r1={ r with op:=op }:=⟨_,rfl⟩
  rw [← hr1] at hP1
  have HR1:=hide (show r1={ pq0 with op:=op } by rw [hr1,uh HR])
  have HP1:=hide hP1
  clear hr1 hP1
  simp only [Pq.cells] at hcell
  go_upto_region 5 with fail
  generalize w1.setCell ⟨w.heap.size+1,0,none⟩ (.int .u8 (op.toNat:Int))=w2 at HP1 ⊢
  clear HP HR hcell hfz
  obtain ⟨s1,hs1⟩:∃ s1,s.extract 1 s.size=s1:=⟨_,rfl⟩
  rw [hs1] at HB hz1
  go_wp2_with fail
  refine (cut_ref s1 w2 (by omega)).mono ?_
  rintro _ w3 ⟨rfl,hk⟩
  have HP:=hide ((uh HP1).keep hk)
  clear hk HP1
  generalize r1=r at *
  have HR:=HR1
  clear HR1 hs1 hg h0I
  have hc0:w3.cell? ⟨w.heap.size+1,0,none⟩=some (.int .u8 (op.toNat:Int)):=by rw [(uh HP).c 0,uh HR];rfl
  have HOP:=hide (fun W=>isOp_ref (op.toNat:Int) W)
  rcases hT:takeT s1 with _ | ⟨t,rest⟩
  ·have hcv:cutV s1=#[.string .empty,.string .empty,.bool false]:=by unfold cutV;rw [hT]
   rw [hcv]
   have HT:=hide hT
   clear hT hcv
   go_wp2_with fail
   refine (uh HOP w3).mono ?_
   rintro _ wq ⟨rfl,hwq⟩
   obtain rfl:w3=wq:=hwq.symm
   clear hwq
   generalize opI (op.toNat:Int)=bo
   go_wp2_with fail
   refine (isName_ref .empty 8 false false w3 (by decide) (by decide)).mono ?_
   rintro _ wq ⟨rfl,hwq⟩
   obtain rfl:w3=wq:=hwq.symm
   clear hwq
   generalize nameB ByteArray.empty.data.toList 8 false false=bn
   have hrow:=(uh HP).at'
   obtain ⟨old,hold,hosz⟩:=(uh HP).res
   have hone:=r.one
   have HQ:=hide (readQ_cut0 (uh HB) (uh HT))
   go_wp2_with (first | (refine wpList_load_row rfl 223 (.tmp 4) rfl (w.heap.size+1) rfl 223 r.cells (0,0) _ hrow Tryz.underlying223 rfl info223 ?_) | (refine wpList_store_put rfl 223 (.tmp 2) (.tmp 49) rfl w.heap.size r.cells rfl rfl 223 old hold info223 hosz hone ?_;intro wz hpz;have HZ:=hide (pr_put (uh HP) hpz);clear hpz))
   have HQ0:=uh HQ
   exact pr_ret rfl rfl (uh HZ).1 ⟨r,by rw [HQ0];rfl,(fun q hq=>by rw [HQ0] at hq;cases hq),(uh HZ).2⟩
  ·have hcv:cutV s1=#[.string t,.string rest,.bool true]:=by unfold cutV;rw [hT]
   rw [hcv]
   have hzt:=takeT_small hT
   have HT:=hide hT
   clear hT hcv
   go_wp2_with fail
   refine (uh HOP w3).mono ?_
   rintro _ wq ⟨rfl,hwq⟩
   obtain rfl:w3=wq:=hwq.symm
   clear hwq HOP
   have HNM:=hide (isName_ref t 8 false false w3 (by omega) (by decide))
   rw [show nameB t.data.toList 8 false false=isNm t from rfl] at HNM
   rcases hO:opI (op.toNat:Int) with _ | _
   ·have HO:=hide hO
    clear hO
    go_wp2_with fail
    refine (uh HNM).mono ?_
    rintro _ wq ⟨rfl,hwq⟩
    obtain rfl:w3=wq:=hwq.symm
    clear hwq HNM
    generalize isNm t=bn
    have hrow:=(uh HP).at'
    obtain ⟨old,hold,hosz⟩:=(uh HP).res
    have hone:=r.one
    have HQ:=hide (readQ_op (uh HB) (uh HT) (uh HO))
    go_wp2_with (first | (refine wpList_load_row rfl 223 (.tmp 4) rfl (w.heap.size+1) rfl 223 r.cells (0,0) _ hrow Tryz.underlying223 rfl info223 ?_) | (refine wpList_store_put rfl 223 (.tmp 2) (.tmp 49) rfl w.heap.size r.cells rfl rfl 223 old hold info223 hosz hone ?_;intro wz hpz;have HZ:=hide (pr_put (uh HP) hpz);clear hpz))
    have HQ0:=uh HQ
    exact pr_ret rfl rfl (uh HZ).1 ⟨r,by rw [HQ0];rfl,(fun q hq=>by rw [HQ0] at hq;cases hq),(uh HZ).2⟩
   ·have HO:=hide hO
    clear hO
    go_wp2_with fail
    refine (uh HNM).mono ?_
    rintro _ wq ⟨rfl,hwq⟩
    obtain rfl:w3=wq:=hwq.symm
    clear hwq HNM
    rcases hN:isNm t with _ | _
    ·have HN:=hide hN
     clear hN
     have hrow:=(uh HP).at'
     obtain ⟨old,hold,hosz⟩:=(uh HP).res
     have hone:=r.one
     have HQ:=hide (readQ_nm (uh HB) (uh HT) (uh HN))
     go_wp2_with (first | (refine wpList_load_row rfl 223 (.tmp 4) rfl (w.heap.size+1) rfl 223 r.cells (0,0) _ hrow Tryz.underlying223 rfl info223 ?_) | (refine wpList_store_put rfl 223 (.tmp 2) (.tmp 49) rfl w.heap.size r.cells rfl rfl 223 old hold info223 hosz hone ?_;intro wz hpz;have HZ:=hide (pr_put (uh HP) hpz);clear hpz))
     have HQ0:=uh HQ
     exact pr_ret rfl rfl (uh HZ).1 ⟨r,by rw [HQ0];rfl,(fun q hq=>by rw [HQ0] at hq;cases hq),(uh HZ).2⟩
    ·have HN:=hide hN
     clear hN
     have hcell:=(uh HP).c 1
     have hfz:=(uh HP).fz 1
     have hP1:=(uh HP).set (r':={ r with token:=t }) 1 (.string t) rfl
     have hcell6:=hP1.c 6
     have hfz6:=hP1.fz 6
     have hP2:=hP1.set (r':={ r with token:=t,behind:=rest }) 6 (.string rest) rfl
     obtain ⟨r1,hr1⟩:∃ r1,r1={ r with token:=t,behind:=rest }:=⟨_,rfl⟩
     rw [← hr1] at hP2
     have HR1:=hide (show r1={ pq0 with op:=op,token:=t,behind:=rest } by rw [hr1,uh HR])
     have HP1:=hide hP2
     clear hr1 hP1 hP2
     simp only [Pq.cells] at hcell hcell6
     go_upto_region 12 with fail
     generalize (w3.setCell ⟨w.heap.size+1,1,none⟩ (.string t)).setCell ⟨w.heap.size+1,6,none⟩ (.string rest)=w4 at HP1 ⊢
     clear HP HR hcell hcell6 hfz hfz6 hc0 w3
     clear r
     generalize r1=r at *
     have HP0:=HP1
     have HR:=HR1
     clear HP1 HR1
     go_wp2_with fail
     refine (cut_ref rest w4 (by omega)).mono ?_
     rintro _ w5 ⟨rfl,hk⟩
     have HP:=hide ((uh HP0).keep hk)
     clear hk HP0
     rcases hT2:takeT rest with _ | ⟨pt,rest2⟩
     ·have hcv:cutV rest=#[.string .empty,.string .empty,.bool false]:=by unfold cutV;rw [hT2]
      rw [hcv]
      have HT2:=hide hT2
      clear hT2 hcv
      have hrow:=(uh HP).at'
      obtain ⟨old,hold,hosz⟩:=(uh HP).res
      have hone:=r.one
      have HQ:=hide (readQ_cut1 (uh HB) (uh HT) (uh HN) (uh HO) (uh HT2))
      go_wp2_with (first | (refine wpList_load_row rfl 223 (.tmp 4) rfl (w.heap.size+1) rfl 223 r.cells (0,0) _ hrow Tryz.underlying223 rfl info223 ?_) | (refine wpList_store_put rfl 223 (.tmp 2) (.tmp 62) rfl w.heap.size r.cells rfl rfl 223 old hold info223 hosz hone ?_;intro wz hpz;have HZ:=hide (pr_put (uh HP) hpz);clear hpz))
      have HQ0:=uh HQ
      exact pr_ret rfl rfl (uh HZ).1 ⟨r,by rw [HQ0];rfl,(fun q hq=>by rw [HQ0] at hq;cases hq),(uh HZ).2⟩
     ·have hcv:cutV rest=#[.string pt,.string rest2,.bool true]:=by unfold cutV;rw [hT2]
      rw [hcv]
      have hzp:=takeT_small hT2
      have HT2:=hide hT2
      clear hT2 hcv
      have hcell:=(uh HP).c 2
      have hfz:=(uh HP).fz 2
      have hP1:=(uh HP).set (r':={ r with path:=pt }) 2 (.string pt) rfl
      have hcell6:=hP1.c 5
      have hfz6:=hP1.fz 5
      have hP2:=hP1.set (r':={ r with path:=pt,tail:=rest2 }) 5 (.string rest2) rfl
      obtain ⟨r1,hr1⟩:∃ r1,r1={ r with path:=pt,tail:=rest2 }:=⟨_,rfl⟩
      rw [← hr1] at hP2
      have HR1:=hide (show r1={ pq0 with op:=op,token:=t,behind:=rest,path:=pt,tail:=rest2 } by rw [hr1,uh HR])
      have HP1:=hide hP2
      clear hr1 hP1 hP2
      simp only [Pq.cells] at hcell hcell6
      go_upto_region 17 with fail
      generalize (w5.setCell ⟨w.heap.size+1,2,none⟩ (.string pt)).setCell ⟨w.heap.size+1,5,none⟩ (.string rest2)=w6 at HP1 ⊢
      clear HP HR hcell hcell6 hfz hfz6 w5
      clear r
      generalize r1=r at *
      have HP:=HP1
      have HR:=HR1
      clear HP1 HR1
      have HC0:=hide (show w6.cell? ⟨w.heap.size+1,0,none⟩=some (.int .u8 (op.toNat:Int)) by rw [(uh HP).c 0,uh HR];rfl)
      have HPA:=hide (isName_ref pt 16 true false w6 (by omega) (by decide))
      have HPR:=hide (isName_ref pt 16 true true w6 (by omega) (by decide))
      rw [show nameB pt.data.toList 16 true false=isPa pt from rfl] at HPA
      rw [show nameB pt.data.toList 16 true true=isPr pt from rfl] at HPR
      have HNB:=hide (isName_ref pt 8 false false w6 (by omega) (by decide))
      rw [show nameB pt.data.toList 8 false false=isNm pt from rfl] at HNB
      rcases opI_cases (uh HO) with rfl | rfl | rfl | rfl | rfl | rfl
      ·have hc0:w6.cell? ⟨w.heap.size+1,0,none⟩=some (.int .u8 80):=uh HC0
       go_wp2_with fail
       refine (uh HPA).mono ?_
       rintro _ wq ⟨rfl,hwq⟩
       obtain rfl:w6=wq:=hwq.symm
       clear hwq
       go_wp2_with fail
       refine (cut_ref rest2 w6 (by omega)).mono ?_
       rintro _ w7 ⟨rfl,hk⟩
       have HP7:=hide ((uh HP).keep hk)
       clear hk HP hc0
       have HP:=HP7
       clear HP7
       have HRQ:=hide (readQ_P (uh HB) (uh HT) (uh HN) (uh HT2))
       rcases hT3:takeT rest2 with _ | ⟨v,en⟩
       ·have hcv:cutV rest2=#[.string .empty,.string .empty,.bool false]:=by unfold cutV;rw [hT3]
        rw [hcv]
        rw [hT3] at HRQ
        clear hT3 hcv
        have hcell:=(uh HP).c 3
        have hfz:=(uh HP).fz 3
        have hP1:=(uh HP).set (r':={ r with value:=.empty }) 3 (.string .empty) rfl
        obtain ⟨r1,hr1⟩:∃ r1,r1={ r with value:=.empty }:=⟨_,rfl⟩
        rw [← hr1] at hP1
        have HR1:=hide (show r1={ pq0 with op:=80,token:=t,behind:=rest,path:=pt,tail:=rest2,value:=.empty } by rw [hr1,uh HR])
        have HP1:=hide hP1
        clear hr1 hP1
        simp only [Pq.cells] at hcell
        go_upto_region 22 with fail
        generalize w7.setCell ⟨w.heap.size+1,3,none⟩ (.string .empty)=w8 at HP1 ⊢
        clear HP HR hcell hfz
        clear r
        generalize r1=r at *
        have HP:=HP1
        have HR:=HR1
        clear HP1 HR1
        rcases hpa:isPa pt with _ | _
        ·rw [hpa] at HRQ
         clear hpa
         have hrow:=(uh HP).at'
         obtain ⟨old,hold,hosz⟩:=(uh HP).res
         have hone:=r.one
         have HQ:=hide ((uh HRQ).trans rfl)
         go_wp2_with (first | (refine wpList_load_row rfl 223 (.tmp 4) rfl (w.heap.size+1) rfl 223 r.cells (0,0) _ hrow Tryz.underlying223 rfl info223 ?_) | (refine wpList_store_put rfl 223 (.tmp 2) (.tmp 84) rfl w.heap.size r.cells rfl rfl 223 old hold info223 hosz hone ?_;intro wz hpz;have HZ:=hide (pr_put (uh HP) hpz);clear hpz))
         have HQ0:=uh HQ
         exact pr_ret rfl rfl (uh HZ).1 ⟨r,by rw [HQ0];rfl,(fun q hq=>by rw [HQ0] at hq;cases hq),(uh HZ).2⟩
        ·rw [hpa] at HRQ
         clear hpa
         have hrow:=(uh HP).at'
         obtain ⟨old,hold,hosz⟩:=(uh HP).res
         have hone:=r.one
         have HQ:=hide ((uh HRQ).trans rfl)
         go_wp2_with (first | (refine wpList_load_row rfl 223 (.tmp 4) rfl (w.heap.size+1) rfl 223 r.cells (0,0) _ hrow Tryz.underlying223 rfl info223 ?_) | (refine wpList_store_put rfl 223 (.tmp 2) (.tmp 84) rfl w.heap.size r.cells rfl rfl 223 old hold info223 hosz hone ?_;intro wz hpz;have HZ:=hide (pr_put (uh HP) hpz);clear hpz))
         have HQ0:=uh HQ
         exact pr_ret rfl rfl (uh HZ).1 ⟨r,by rw [HQ0];rfl,(fun q hq=>by rw [HQ0] at hq;cases hq),(uh HZ).2⟩
       ·have hcv:cutV rest2=#[.string v,.string en,.bool true]:=by unfold cutV;rw [hT3]
        rw [hcv]
        rw [hT3] at HRQ
        clear hT3 hcv
        have hcell:=(uh HP).c 3
        have hfz:=(uh HP).fz 3
        have hP1:=(uh HP).set (r':={ r with value:=v }) 3 (.string v) rfl
        obtain ⟨r1,hr1⟩:∃ r1,r1={ r with value:=v }:=⟨_,rfl⟩
        rw [← hr1] at hP1
        have HR1:=hide (show r1={ pq0 with op:=80,token:=t,behind:=rest,path:=pt,tail:=rest2,value:=v } by rw [hr1,uh HR])
        have HP1:=hide hP1
        clear hr1 hP1
        simp only [Pq.cells] at hcell
        go_upto_region 22 with fail
        generalize w7.setCell ⟨w.heap.size+1,3,none⟩ (.string v)=w8 at HP1 ⊢
        clear HP HR hcell hfz
        clear r
        generalize r1=r at *
        have HP:=HP1
        have HR:=HR1
        clear HP1 HR1
        rcases hpa:isPa pt with _ | _
        ·rw [hpa] at HRQ
         clear hpa
         have hrow:=(uh HP).at'
         obtain ⟨old,hold,hosz⟩:=(uh HP).res
         have hone:=r.one
         have HQ:=hide ((uh HRQ).trans rfl)
         go_wp2_with (first | (refine wpList_load_row rfl 223 (.tmp 4) rfl (w.heap.size+1) rfl 223 r.cells (0,0) _ hrow Tryz.underlying223 rfl info223 ?_) | (refine wpList_store_put rfl 223 (.tmp 2) (.tmp 84) rfl w.heap.size r.cells rfl rfl 223 old hold info223 hosz hone ?_;intro wz hpz;have HZ:=hide (pr_put (uh HP) hpz);clear hpz))
         have HQ0:=uh HQ
         exact pr_ret rfl rfl (uh HZ).1 ⟨r,by rw [HQ0];rfl,(fun q hq=>by rw [HQ0] at hq;cases hq),(uh HZ).2⟩
        ·rw [hpa] at HRQ
         clear hpa
         by_cases hen:en.size=0
         ·have henI:=empY hen
          by_cases hv:v.size≤40
          ·have hvI:(v.size:Int)≤40:=by omega
           have HF:=hide (show readQ s=some { rqOT 80 t with path:=pt,rest:=rest2,value:=v } by rw [uh HRQ];simp only [if_true,if_pos hv,if_pos hen])
           clear hv hen
           have hrow:=(uh HP).at'
           obtain ⟨old,hold,hosz⟩:=(uh HP).res
           have hone:=r.one
           have HQ:=hide (uh HF)
           go_wp2_with (first | (refine wpList_load_row rfl 223 (.tmp 4) rfl (w.heap.size+1) rfl 223 r.cells (0,0) _ hrow Tryz.underlying223 rfl info223 ?_) | (refine wpList_store_put rfl 223 (.tmp 2) (.tmp 84) rfl w.heap.size r.cells rfl rfl 223 old hold info223 hosz hone ?_;intro wz hpz;have HZ:=hide (pr_put (uh HP) hpz);clear hpz))
           have HQ0:=uh HQ
           exact pr_ret rfl rfl (uh HZ).1 ⟨r,by rw [HQ0];rfl,(fun q hq=>by rw [HQ0] at hq;cases hq;rw [uh HR];exact ⟨rfl,rfl,fun _=>⟨rfl,rfl⟩,fun e=>absurd (show pathI (80:Int)=false from e) (by decide),fun _=>rfl,fun e=>absurd (show (80:Nat)=71 from e) (by decide),fun e=>absurd (show (80:Nat)=84 from e) (by decide)⟩),(uh HZ).2⟩
          ·have hvI:¬ (v.size:Int)≤40:=by omega
           have HF:=hide (show readQ s=none by rw [uh HRQ];simp only [if_true,if_neg hv])
           clear hv hen
           have hrow:=(uh HP).at'
           obtain ⟨old,hold,hosz⟩:=(uh HP).res
           have hone:=r.one
           have HQ:=hide (uh HF)
           go_wp2_with (first | (refine wpList_load_row rfl 223 (.tmp 4) rfl (w.heap.size+1) rfl 223 r.cells (0,0) _ hrow Tryz.underlying223 rfl info223 ?_) | (refine wpList_store_put rfl 223 (.tmp 2) (.tmp 84) rfl w.heap.size r.cells rfl rfl 223 old hold info223 hosz hone ?_;intro wz hpz;have HZ:=hide (pr_put (uh HP) hpz);clear hpz))
           have HQ0:=uh HQ
           exact pr_ret rfl rfl (uh HZ).1 ⟨r,by rw [HQ0];rfl,(fun q hq=>by rw [HQ0] at hq;cases hq),(uh HZ).2⟩
         ·have henI:=empN hen
          have HF:=hide (show readQ s=none by rw [uh HRQ];simp only [if_true,if_neg hen];split <;> rfl)
          clear hen
          have hrow:=(uh HP).at'
          obtain ⟨old,hold,hosz⟩:=(uh HP).res
          have hone:=r.one
          have HQ:=hide (uh HF)
          go_wp2_with (first | (refine wpList_load_row rfl 223 (.tmp 4) rfl (w.heap.size+1) rfl 223 r.cells (0,0) _ hrow Tryz.underlying223 rfl info223 ?_) | (refine wpList_store_put rfl 223 (.tmp 2) (.tmp 84) rfl w.heap.size r.cells rfl rfl 223 old hold info223 hosz hone ?_;intro wz hpz;have HZ:=hide (pr_put (uh HP) hpz);clear hpz))
          have HQ0:=uh HQ
          exact pr_ret rfl rfl (uh HZ).1 ⟨r,by rw [HQ0];rfl,(fun q hq=>by rw [HQ0] at hq;cases hq),(uh HZ).2⟩
      ·have hc0:w6.cell? ⟨w.heap.size+1,0,none⟩=some (.int .u8 71):=uh HC0
       go_wp2_with fail
       refine (uh HPA).mono ?_
       rintro _ wq ⟨rfl,hwq⟩
       obtain rfl:w6=wq:=hwq.symm
       clear hwq
       have HRQ:=hide (readQ_G (uh HB) (uh HT) (uh HN) (uh HT2))
       by_cases h1:rest2.size=1
       ·have h1I:((rest2.size:Int)==1)=true:=by rw [beq_iff_eq];omega
        have h1p:0<rest2.size:=by omega
        have h1q:(0:Int)<(rest2.size:Int):=by omega
        have hg:=byte_get rest2 0 h1p
        unfold Sha.at8 at hg
        have hcb:=(rest2.data.toList.getD 0 0).toNat_lt
        rw [if_pos h1] at HRQ
        generalize rest2.data.toList.getD 0 0=c at *
        clear h1
        have hcell:=(uh HP).c 4
        have hfz:=(uh HP).fz 4
        have hP1:=(uh HP).set (r':={ r with n:=c.toNat }) 4 (.int .i64 (c.toNat:Int)) rfl
        obtain ⟨r1,hr1⟩:∃ r1,r1={ r with n:=c.toNat }:=⟨_,rfl⟩
        rw [← hr1] at hP1
        have HR1:=hide (show r1={ pq0 with op:=71,token:=t,behind:=rest,path:=pt,tail:=rest2,n:=c.toNat } by rw [hr1,uh HR])
        have HP1:=hide hP1
        clear hr1 hP1
        simp only [Pq.cells] at hcell
        go_upto_region 26 with fail
        generalize w6.setCell ⟨w.heap.size+1,4,none⟩ (.int .i64 (c.toNat:Int))=w8 at HP1 ⊢
        clear HP HR hcell hfz
        clear r
        generalize r1=r at *
        have HP:=HP1
        have HR:=HR1
        clear HP1 HR1
        clear hg hcb
        rcases hpa:isPa pt with _ | _
        ·rw [hpa] at HRQ
         clear hpa
         have hrow:=(uh HP).at'
         obtain ⟨old,hold,hosz⟩:=(uh HP).res
         have hone:=r.one
         have HQ:=hide ((uh HRQ).trans rfl)
         go_wp2_with (first | (refine wpList_load_row rfl 223 (.tmp 4) rfl (w.heap.size+1) rfl 223 r.cells (0,0) _ hrow Tryz.underlying223 rfl info223 ?_) | (refine wpList_store_put rfl 223 (.tmp 2) (.tmp 107) rfl w.heap.size r.cells rfl rfl 223 old hold info223 hosz hone ?_;intro wz hpz;have HZ:=hide (pr_put (uh HP) hpz);clear hpz))
         have HQ0:=uh HQ
         exact pr_ret rfl rfl (uh HZ).1 ⟨r,by rw [HQ0];rfl,(fun q hq=>by rw [HQ0] at hq;cases hq),(uh HZ).2⟩
        ·rw [hpa] at HRQ
         clear hpa
         have hrow:=(uh HP).at'
         obtain ⟨old,hold,hosz⟩:=(uh HP).res
         have hone:=r.one
         have HQ:=hide ((uh HRQ).trans (if_pos rfl))
         go_wp2_with (first | (refine wpList_load_row rfl 223 (.tmp 4) rfl (w.heap.size+1) rfl 223 r.cells (0,0) _ hrow Tryz.underlying223 rfl info223 ?_) | (refine wpList_store_put rfl 223 (.tmp 2) (.tmp 107) rfl w.heap.size r.cells rfl rfl 223 old hold info223 hosz hone ?_;intro wz hpz;have HZ:=hide (pr_put (uh HP) hpz);clear hpz))
         have HQ0:=uh HQ
         exact pr_ret rfl rfl (uh HZ).1 ⟨r,by rw [HQ0];rfl,(fun q hq=>by rw [HQ0] at hq;cases hq;rw [uh HR];exact ⟨rfl,rfl,fun _=>⟨rfl,rfl⟩,fun e=>absurd (show pathI (71:Int)=false from e) (by decide),fun e=>absurd (show (71:Nat)=80 from e) (by decide),fun _=>rfl,fun e=>absurd (show (71:Nat)=84 from e) (by decide)⟩),(uh HZ).2⟩
       ·have h1I:((rest2.size:Int)==1)=false:=beq_eq_false_iff_ne.2 (by omega)
        have HF:=hide (show readQ s=none by rw [uh HRQ,if_neg h1];split <;> rfl)
        clear h1
        generalize isPa pt=bp at *
        cases bp with
        | false =>
         have hrow:=(uh HP).at'
         obtain ⟨old,hold,hosz⟩:=(uh HP).res
         have hone:=r.one
         have HQ:=hide (uh HF)
         go_wp2_with (first | (refine wpList_load_row rfl 223 (.tmp 4) rfl (w.heap.size+1) rfl 223 r.cells (0,0) _ hrow Tryz.underlying223 rfl info223 ?_) | (refine wpList_store_put rfl 223 (.tmp 2) (.tmp 107) rfl w.heap.size r.cells rfl rfl 223 old hold info223 hosz hone ?_;intro wz hpz;have HZ:=hide (pr_put (uh HP) hpz);clear hpz))
         have HQ0:=uh HQ
         exact pr_ret rfl rfl (uh HZ).1 ⟨r,by rw [HQ0];rfl,(fun q hq=>by rw [HQ0] at hq;cases hq),(uh HZ).2⟩
        | true =>
         have hrow:=(uh HP).at'
         obtain ⟨old,hold,hosz⟩:=(uh HP).res
         have hone:=r.one
         have HQ:=hide (uh HF)
         go_wp2_with (first | (refine wpList_load_row rfl 223 (.tmp 4) rfl (w.heap.size+1) rfl 223 r.cells (0,0) _ hrow Tryz.underlying223 rfl info223 ?_) | (refine wpList_store_put rfl 223 (.tmp 2) (.tmp 107) rfl w.heap.size r.cells rfl rfl 223 old hold info223 hosz hone ?_;intro wz hpz;have HZ:=hide (pr_put (uh HP) hpz);clear hpz))
         have HQ0:=uh HQ
         exact pr_ret rfl rfl (uh HZ).1 ⟨r,by rw [HQ0];rfl,(fun q hq=>by rw [HQ0] at hq;cases hq),(uh HZ).2⟩
      ·have hc0:w6.cell? ⟨w.heap.size+1,0,none⟩=some (.int .u8 68):=uh HC0
       go_wp2_with fail
       refine (uh HPA).mono ?_
       rintro _ wq ⟨rfl,hwq⟩
       obtain rfl:w6=wq:=hwq.symm
       clear hwq
       have HRQ:=hide (readQ_D (uh HB) (uh HT) (uh HN) (uh HT2))
       rcases hpa:isPa pt with _ | _
       ·rw [hpa] at HRQ
        clear hpa
        have hrow:=(uh HP).at'
        obtain ⟨old,hold,hosz⟩:=(uh HP).res
        have hone:=r.one
        have HQ:=hide ((uh HRQ).trans rfl)
        go_wp2_with (first | (refine wpList_load_row rfl 223 (.tmp 4) rfl (w.heap.size+1) rfl 223 r.cells (0,0) _ hrow Tryz.underlying223 rfl info223 ?_) | (refine wpList_store_put rfl 223 (.tmp 2) (.tmp 117) rfl w.heap.size r.cells rfl rfl 223 old hold info223 hosz hone ?_;intro wz hpz;have HZ:=hide (pr_put (uh HP) hpz);clear hpz))
        have HQ0:=uh HQ
        exact pr_ret rfl rfl (uh HZ).1 ⟨r,by rw [HQ0];rfl,(fun q hq=>by rw [HQ0] at hq;cases hq),(uh HZ).2⟩
       ·rw [hpa] at HRQ
        clear hpa
        by_cases hen:rest2.size=0
        ·have henI:=empY hen
         have HEN:=hide (empty_of hen)
         rw [if_pos hen] at HRQ
         clear hen
         have hrow:=(uh HP).at'
         obtain ⟨old,hold,hosz⟩:=(uh HP).res
         have hone:=r.one
         have HQ:=hide ((uh HRQ).trans (if_pos rfl))
         go_wp2_with (first | (refine wpList_load_row rfl 223 (.tmp 4) rfl (w.heap.size+1) rfl 223 r.cells (0,0) _ hrow Tryz.underlying223 rfl info223 ?_) | (refine wpList_store_put rfl 223 (.tmp 2) (.tmp 117) rfl w.heap.size r.cells rfl rfl 223 old hold info223 hosz hone ?_;intro wz hpz;have HZ:=hide (pr_put (uh HP) hpz);clear hpz))
         have HQ0:=uh HQ
         exact pr_ret rfl rfl (uh HZ).1 ⟨r,by rw [HQ0];rfl,(fun q hq=>by rw [HQ0] at hq;cases hq;rw [uh HR];exact ⟨rfl,rfl,fun _=>⟨rfl,rfl⟩,fun e=>absurd (show pathI (68:Int)=false from e) (by decide),fun e=>absurd (show (68:Nat)=80 from e) (by decide),fun e=>absurd (show (68:Nat)=71 from e) (by decide),fun e=>absurd (show (68:Nat)=84 from e) (by decide)⟩),(uh HZ).2⟩
        ·have henI:=empN hen
         rw [if_neg hen] at HRQ
         clear hen
         have hrow:=(uh HP).at'
         obtain ⟨old,hold,hosz⟩:=(uh HP).res
         have hone:=r.one
         have HQ:=hide ((uh HRQ).trans (if_pos rfl))
         go_wp2_with (first | (refine wpList_load_row rfl 223 (.tmp 4) rfl (w.heap.size+1) rfl 223 r.cells (0,0) _ hrow Tryz.underlying223 rfl info223 ?_) | (refine wpList_store_put rfl 223 (.tmp 2) (.tmp 117) rfl w.heap.size r.cells rfl rfl 223 old hold info223 hosz hone ?_;intro wz hpz;have HZ:=hide (pr_put (uh HP) hpz);clear hpz))
         have HQ0:=uh HQ
         exact pr_ret rfl rfl (uh HZ).1 ⟨r,by rw [HQ0];rfl,(fun q hq=>by rw [HQ0] at hq;cases hq),(uh HZ).2⟩
      ·have hc0:w6.cell? ⟨w.heap.size+1,0,none⟩=some (.int .u8 76):=uh HC0
       go_wp2_with fail
       refine (uh HPR).mono ?_
       rintro _ wq ⟨rfl,hwq⟩
       obtain rfl:w6=wq:=hwq.symm
       clear hwq
       have HRQ:=hide (readQ_L (uh HB) (uh HT) (uh HN) (uh HT2))
       rcases hpa:isPr pt with _ | _
       ·rw [hpa] at HRQ
        clear hpa
        have hrow:=(uh HP).at'
        obtain ⟨old,hold,hosz⟩:=(uh HP).res
        have hone:=r.one
        have HQ:=hide ((uh HRQ).trans rfl)
        go_wp2_with (first | (refine wpList_load_row rfl 223 (.tmp 4) rfl (w.heap.size+1) rfl 223 r.cells (0,0) _ hrow Tryz.underlying223 rfl info223 ?_) | (refine wpList_store_put rfl 223 (.tmp 2) (.tmp 117) rfl w.heap.size r.cells rfl rfl 223 old hold info223 hosz hone ?_;intro wz hpz;have HZ:=hide (pr_put (uh HP) hpz);clear hpz))
        have HQ0:=uh HQ
        exact pr_ret rfl rfl (uh HZ).1 ⟨r,by rw [HQ0];rfl,(fun q hq=>by rw [HQ0] at hq;cases hq),(uh HZ).2⟩
       ·rw [hpa] at HRQ
        clear hpa
        by_cases hen:rest2.size=0
        ·have henI:=empY hen
         have HEN:=hide (empty_of hen)
         rw [if_pos hen] at HRQ
         clear hen
         have hrow:=(uh HP).at'
         obtain ⟨old,hold,hosz⟩:=(uh HP).res
         have hone:=r.one
         have HQ:=hide ((uh HRQ).trans (if_pos rfl))
         go_wp2_with (first | (refine wpList_load_row rfl 223 (.tmp 4) rfl (w.heap.size+1) rfl 223 r.cells (0,0) _ hrow Tryz.underlying223 rfl info223 ?_) | (refine wpList_store_put rfl 223 (.tmp 2) (.tmp 117) rfl w.heap.size r.cells rfl rfl 223 old hold info223 hosz hone ?_;intro wz hpz;have HZ:=hide (pr_put (uh HP) hpz);clear hpz))
         have HQ0:=uh HQ
         exact pr_ret rfl rfl (uh HZ).1 ⟨r,by rw [HQ0];rfl,(fun q hq=>by rw [HQ0] at hq;cases hq;rw [uh HR];exact ⟨rfl,rfl,fun _=>⟨rfl,uh HEN⟩,fun e=>absurd (show pathI (76:Int)=false from e) (by decide),fun e=>absurd (show (76:Nat)=80 from e) (by decide),fun e=>absurd (show (76:Nat)=71 from e) (by decide),fun e=>absurd (show (76:Nat)=84 from e) (by decide)⟩),(uh HZ).2⟩
        ·have henI:=empN hen
         rw [if_neg hen] at HRQ
         clear hen
         have hrow:=(uh HP).at'
         obtain ⟨old,hold,hosz⟩:=(uh HP).res
         have hone:=r.one
         have HQ:=hide ((uh HRQ).trans (if_pos rfl))
         go_wp2_with (first | (refine wpList_load_row rfl 223 (.tmp 4) rfl (w.heap.size+1) rfl 223 r.cells (0,0) _ hrow Tryz.underlying223 rfl info223 ?_) | (refine wpList_store_put rfl 223 (.tmp 2) (.tmp 117) rfl w.heap.size r.cells rfl rfl 223 old hold info223 hosz hone ?_;intro wz hpz;have HZ:=hide (pr_put (uh HP) hpz);clear hpz))
         have HQ0:=uh HQ
         exact pr_ret rfl rfl (uh HZ).1 ⟨r,by rw [HQ0];rfl,(fun q hq=>by rw [HQ0] at hq;cases hq),(uh HZ).2⟩
      ·have hc0:w6.cell? ⟨w.heap.size+1,0,none⟩=some (.int .u8 84):=uh HC0
       go_wp2_with fail
       refine (uh HPA).mono ?_
       rintro _ wq ⟨rfl,hwq⟩
       obtain rfl:w6=wq:=hwq.symm
       clear hwq
       generalize isPa pt=bp
       go_wp2_with fail
       refine (uh HNB).mono ?_
       rintro _ wq ⟨rfl,hwq⟩
       obtain rfl:w6=wq:=hwq.symm
       clear hwq
       go_wp2_with fail
       refine (cut_ref rest2 w6 (by omega)).mono ?_
       rintro _ w7 ⟨rfl,hk⟩
       have HP7:=hide ((uh HP).keep hk)
       clear hk HP hc0
       have HP:=HP7
       clear HP7
       have HRQ:=hide (readQ_T (uh HB) (uh HT) (uh HN) (uh HT2))
       rcases hT3:takeT rest2 with _ | ⟨x,en⟩
       ·have hcv:cutV rest2=#[.string .empty,.string .empty,.bool false]:=by unfold cutV;rw [hT3]
        rw [hcv]
        rw [hT3] at HRQ
        have HF:=hide (show readQ s=none by rw [uh HRQ];split <;> rfl)
        clear hT3 hcv HRQ
        have HNE:=hide (isName_ref .empty 16 true true w7 (by decide) (by decide))
        generalize isNm pt=bo
        go_wp2_with fail
        refine (uh HNE).mono ?_
        rintro _ wq ⟨rfl,hwq⟩
        obtain rfl:w7=wq:=hwq.symm
        clear hwq
        generalize nameB ByteArray.empty.data.toList 16 true true=bn
        have hcell:=(uh HP).c 3
        have hfz:=(uh HP).fz 3
        have hP1:=(uh HP).set (r':={ r with value:=.empty }) 3 (.string .empty) rfl
        obtain ⟨r1,hr1⟩:∃ r1,r1={ r with value:=.empty }:=⟨_,rfl⟩
        rw [← hr1] at hP1
        have HR1:=hide (show r1={ pq0 with op:=84,token:=t,behind:=rest,path:=pt,tail:=rest2,value:=.empty } by rw [hr1,uh HR])
        have HP1:=hide hP1
        clear hr1 hP1
        simp only [Pq.cells] at hcell
        go_upto_region 38 with fail
        generalize w7.setCell ⟨w.heap.size+1,3,none⟩ (.string .empty)=w9 at HP1 ⊢
        clear HP HR hcell hfz
        clear r
        generalize r1=r at *
        have HP:=HP1
        have HR:=HR1
        clear HP1 HR1
        cases bo with
        | false =>
         obtain ⟨old,hold,hosz⟩:=(uh HP).res
         have hone:=r.one
         have HQ:=hide (uh HF)
         have HPD:=hide ((uh HP).keep (wy:=w9.drew) ⟨rfl,rfl,Nat.le_refl _,fun _ _=>rfl⟩)
         go_upto_region 38 with fail
         refine wp_region_held_drew (S:=fun W=>W.heap[w.heap.size+1]?=some (.cells r.cells 223 (0,0))) (by kernel_rfl) ((uh HPD).at') (fun hHeld=>?_)
         refine tkG 0 (some 151) (.load 223 (.tmp 4)) 223 none (.agg r.cells) (by kernel_rfl) (fun _ _ _ h=>h) (yieldsIf_load_mid (by kernel_rfl) 223 (.tmp 4) rfl (w.heap.size+1) 0 (by kernel_rfl) r.cells.toList _ (fun W hW=>row_range hW) Tryz.underlying223 rfl (by rw [Array.length_toList];exact info223)) hHeld ?_
         simp only [zz0,zz1,zz2]
         refine tkL 22 [(1,some 152,.bool false),(2,some 153,.bool false),(3,some 154,undef),(4,some 155,.bool false),(5,some 156,.bool false),(6,some 157,undef),(7,some 158,.bool false),(8,some 159,.bool false),(9,some 160,undef),(10,some 161,undef),(11,some 162,undef),(12,some 163,.bool false),(13,some 164,.bool false),(14,some 165,undef),(15,some 166,undef),(16,some 167,undef),(17,some 168,.bool false),(18,some 169,.bool false),(19,some 170,undef),(20,some 171,undef),(21,some 172,undef),(22,some 173,.bool false)] (by kernel_rfl) (fun _ _ _ _ _ h=>h) (fun _ _=>by kernel_rfl) hHeld ?_
         simp only [zz0,zz1,zz2,zz4,zz5]
         refine rd1 23 none (.store 223 (.tmp 2) (.tmp 151)) 0 (by kernel_rfl) (fun K hK=>?_)
         refine wp_store_put 223 (.tmp 2) (.tmp 151) rfl w.heap.size r.cells (by kernel_rfl) (by kernel_rfl) 223 old hold info223 hosz hone ?_
         intro wz hpz
         have HZ:=hide (pr_put (uh HPD) hpz)
         have hSz:=(hpz.other (w.heap.size+1) (by omega)).trans (uh HPD).at'
         clear hpz
         refine hK.out _ _ (hSz) (fun hHeld23=>?_)
         clear hK K
         try simp only [zz3]
         refine tkP 24 (some 3) (.bool false) (by kernel_rfl) (fun _ _ _ h=>h) (fun _ _=>by kernel_rfl) hHeld23 ?_
         simp only [zz0,zz1,zz2]
         refine wpAnyH_done (by kernel_rfl) ?_ _
         go_wp2_with fail
         have HQ0:=uh HQ
         exact pr_ret rfl rfl (uh HZ).1 ⟨r,by rw [HQ0];rfl,(fun q hq=>by rw [HQ0] at hq;cases hq),(uh HZ).2⟩
        | true =>
         obtain ⟨old,hold,hosz⟩:=(uh HP).res
         have hone:=r.one
         have HQ:=hide (uh HF)
         have HPD:=hide ((uh HP).keep (wy:=w9.drew) ⟨rfl,rfl,Nat.le_refl _,fun _ _=>rfl⟩)
         go_upto_region 38 with fail
         refine wp_region_held_drew (S:=fun W=>W.heap[w.heap.size+1]?=some (.cells r.cells 223 (0,0))) (by kernel_rfl) ((uh HPD).at') (fun hHeld=>?_)
         refine tkG 0 (some 151) (.load 223 (.tmp 4)) 223 none (.agg r.cells) (by kernel_rfl) (fun _ _ _ h=>h) (yieldsIf_load_mid (by kernel_rfl) 223 (.tmp 4) rfl (w.heap.size+1) 0 (by kernel_rfl) r.cells.toList _ (fun W hW=>row_range hW) Tryz.underlying223 rfl (by rw [Array.length_toList];exact info223)) hHeld ?_
         simp only [zz0,zz1,zz2]
         refine tkL 22 [(1,some 152,.bool true),(2,some 153,.bool true),(3,some 154,.bool false),(4,some 155,.bool false),(5,some 156,.bool false),(6,some 157,undef),(7,some 158,.bool false),(8,some 159,.bool false),(9,some 160,undef),(10,some 161,undef),(11,some 162,undef),(12,some 163,.bool false),(13,some 164,.bool false),(14,some 165,undef),(15,some 166,undef),(16,some 167,undef),(17,some 168,.bool false),(18,some 169,.bool false),(19,some 170,undef),(20,some 171,undef),(21,some 172,undef),(22,some 173,.bool false)] (by kernel_rfl) (fun _ _ _ _ _ h=>h) (fun _ _=>by kernel_rfl) hHeld ?_
         simp only [zz0,zz1,zz2,zz4,zz5]
         refine rd1 23 none (.store 223 (.tmp 2) (.tmp 151)) 0 (by kernel_rfl) (fun K hK=>?_)
         refine wp_store_put 223 (.tmp 2) (.tmp 151) rfl w.heap.size r.cells (by kernel_rfl) (by kernel_rfl) 223 old hold info223 hosz hone ?_
         intro wz hpz
         have HZ:=hide (pr_put (uh HPD) hpz)
         have hSz:=(hpz.other (w.heap.size+1) (by omega)).trans (uh HPD).at'
         clear hpz
         refine hK.out _ _ (hSz) (fun hHeld23=>?_)
         clear hK K
         try simp only [zz3]
         refine tkP 24 (some 3) (.bool false) (by kernel_rfl) (fun _ _ _ h=>h) (fun _ _=>by kernel_rfl) hHeld23 ?_
         simp only [zz0,zz1,zz2]
         refine wpAnyH_done (by kernel_rfl) ?_ _
         go_wp2_with fail
         have HQ0:=uh HQ
         exact pr_ret rfl rfl (uh HZ).1 ⟨r,by rw [HQ0];rfl,(fun q hq=>by rw [HQ0] at hq;cases hq),(uh HZ).2⟩
       ·have hcv:cutV rest2=#[.string x,.string en,.bool true]:=by unfold cutV;rw [hT3]
        rw [hcv]
        rw [hT3] at HRQ
        have hzx:=takeT_small hT3
        clear hT3 hcv
        have HNE:=hide (isName_ref x 16 true true w7 (by omega) (by decide))
        rw [show nameB x.data.toList 16 true true=isPr x from rfl] at HNE
        generalize isNm pt=bo at HRQ ⊢
        go_wp2_with fail
        refine (uh HNE).mono ?_
        rintro _ wq ⟨rfl,hwq⟩
        obtain rfl:w7=wq:=hwq.symm
        clear hwq
        generalize isPr x=bx at HRQ ⊢
        by_cases h1:en.size=1
        ·have h1I:((en.size:Int)==1)=true:=by rw [beq_iff_eq];omega
         have h1p:0<en.size:=by omega
         have h1q:(0:Int)<(en.size:Int):=by omega
         have hg:=byte_get en 0 h1p
         unfold Sha.at8 at hg
         have hcb:=(en.data.toList.getD 0 0).toNat_lt
         simp only [if_pos h1] at HRQ
         generalize en.data.toList.getD 0 0=c at *
         clear h1
         have hcell:=(uh HP).c 4
         have hfz:=(uh HP).fz 4
         have hP1:=(uh HP).set (r':={ r with n:=c.toNat }) 4 (.int .i64 (c.toNat:Int)) rfl
         obtain ⟨r1,hr1⟩:∃ r1,r1={ r with n:=c.toNat }:=⟨_,rfl⟩
         rw [← hr1] at hP1
         have HR1:=hide (show r1={ pq0 with op:=84,token:=t,behind:=rest,path:=pt,tail:=rest2,n:=c.toNat } by rw [hr1,uh HR])
         have HP1:=hide hP1
         clear hr1 hP1
         simp only [Pq.cells] at hcell
         go_upto_region 37 with fail
         generalize w7.setCell ⟨w.heap.size+1,4,none⟩ (.int .i64 (c.toNat:Int))=w8 at HP1 ⊢
         clear HP HR hcell hfz
         clear r
         generalize r1=r at *
         have HP:=HP1
         have HR:=HR1
         clear HP1 HR1
         have hcell:=(uh HP).c 3
         have hfz:=(uh HP).fz 3
         have hP1:=(uh HP).set (r':={ r with value:=x }) 3 (.string x) rfl
         obtain ⟨r1,hr1⟩:∃ r1,r1={ r with value:=x }:=⟨_,rfl⟩
         rw [← hr1] at hP1
         have HR1:=hide (show r1={ pq0 with op:=84,token:=t,behind:=rest,path:=pt,tail:=rest2,n:=c.toNat,value:=x } by rw [hr1,uh HR])
         have HP1:=hide hP1
         clear hr1 hP1
         simp only [Pq.cells] at hcell
         go_upto_region 38 with fail
         generalize w8.setCell ⟨w.heap.size+1,3,none⟩ (.string x)=w9 at HP1 ⊢
         clear HP HR hcell hfz
         clear r
         generalize r1=r at *
         have HP:=HP1
         have HR:=HR1
         clear HP1 HR1
         clear hg h1p h1q
         cases bo with
         | false =>
          obtain ⟨old,hold,hosz⟩:=(uh HP).res
          have hone:=r.one
          have HQ:=hide ((uh HRQ).trans rfl)
          have HPD:=hide ((uh HP).keep (wy:=w9.drew) ⟨rfl,rfl,Nat.le_refl _,fun _ _=>rfl⟩)
          go_upto_region 38 with fail
          refine wp_region_held_drew (S:=fun W=>W.heap[w.heap.size+1]?=some (.cells r.cells 223 (0,0))) (by kernel_rfl) ((uh HPD).at') (fun hHeld=>?_)
          refine tkG 0 (some 151) (.load 223 (.tmp 4)) 223 none (.agg r.cells) (by kernel_rfl) (fun _ _ _ h=>h) (yieldsIf_load_mid (by kernel_rfl) 223 (.tmp 4) rfl (w.heap.size+1) 0 (by kernel_rfl) r.cells.toList _ (fun W hW=>row_range hW) Tryz.underlying223 rfl (by rw [Array.length_toList];exact info223)) hHeld ?_
          simp only [zz0,zz1,zz2]
          refine tkL 22 [(1,some 152,.bool false),(2,some 153,.bool false),(3,some 154,undef),(4,some 155,.bool false),(5,some 156,.bool false),(6,some 157,undef),(7,some 158,.bool false),(8,some 159,.bool false),(9,some 160,undef),(10,some 161,undef),(11,some 162,undef),(12,some 163,.bool false),(13,some 164,.bool false),(14,some 165,undef),(15,some 166,undef),(16,some 167,undef),(17,some 168,.bool false),(18,some 169,.bool false),(19,some 170,undef),(20,some 171,undef),(21,some 172,undef),(22,some 173,.bool false)] (by kernel_rfl) (fun _ _ _ _ _ h=>h) (fun _ _=>by kernel_rfl) hHeld ?_
          simp only [zz0,zz1,zz2,zz4,zz5]
          refine rd1 23 none (.store 223 (.tmp 2) (.tmp 151)) 0 (by kernel_rfl) (fun K hK=>?_)
          refine wp_store_put 223 (.tmp 2) (.tmp 151) rfl w.heap.size r.cells (by kernel_rfl) (by kernel_rfl) 223 old hold info223 hosz hone ?_
          intro wz hpz
          have HZ:=hide (pr_put (uh HPD) hpz)
          have hSz:=(hpz.other (w.heap.size+1) (by omega)).trans (uh HPD).at'
          clear hpz
          refine hK.out _ _ (hSz) (fun hHeld23=>?_)
          clear hK K
          try simp only [zz3]
          refine tkP 24 (some 3) (.bool false) (by kernel_rfl) (fun _ _ _ h=>h) (fun _ _=>by kernel_rfl) hHeld23 ?_
          simp only [zz0,zz1,zz2]
          refine wpAnyH_done (by kernel_rfl) ?_ _
          go_wp2_with fail
          have HQ0:=uh HQ
          exact pr_ret rfl rfl (uh HZ).1 ⟨r,by rw [HQ0];rfl,(fun q hq=>by rw [HQ0] at hq;cases hq),(uh HZ).2⟩
         | true =>
          cases bx with
          | false =>
           obtain ⟨old,hold,hosz⟩:=(uh HP).res
           have hone:=r.one
           have HQ:=hide ((uh HRQ).trans rfl)
           have HPD:=hide ((uh HP).keep (wy:=w9.drew) ⟨rfl,rfl,Nat.le_refl _,fun _ _=>rfl⟩)
           go_upto_region 38 with fail
           refine wp_region_held_drew (S:=fun W=>W.heap[w.heap.size+1]?=some (.cells r.cells 223 (0,0))) (by kernel_rfl) ((uh HPD).at') (fun hHeld=>?_)
           refine tkG 0 (some 151) (.load 223 (.tmp 4)) 223 none (.agg r.cells) (by kernel_rfl) (fun _ _ _ h=>h) (yieldsIf_load_mid (by kernel_rfl) 223 (.tmp 4) rfl (w.heap.size+1) 0 (by kernel_rfl) r.cells.toList _ (fun W hW=>row_range hW) Tryz.underlying223 rfl (by rw [Array.length_toList];exact info223)) hHeld ?_
           simp only [zz0,zz1,zz2]
           refine tkL 22 [(1,some 152,.bool true),(2,some 153,.bool true),(3,some 154,.bool true),(4,some 155,.bool true),(5,some 156,.bool true),(6,some 157,.bool false),(7,some 158,.bool false),(8,some 159,.bool false),(9,some 160,undef),(10,some 161,undef),(11,some 162,undef),(12,some 163,.bool false),(13,some 164,.bool false),(14,some 165,undef),(15,some 166,undef),(16,some 167,undef),(17,some 168,.bool false),(18,some 169,.bool false),(19,some 170,undef),(20,some 171,undef),(21,some 172,undef),(22,some 173,.bool false)] (by kernel_rfl) (fun _ _ _ _ _ h=>h) (fun _ _=>by kernel_rfl) hHeld ?_
           simp only [zz0,zz1,zz2,zz4,zz5]
           refine rd1 23 none (.store 223 (.tmp 2) (.tmp 151)) 0 (by kernel_rfl) (fun K hK=>?_)
           refine wp_store_put 223 (.tmp 2) (.tmp 151) rfl w.heap.size r.cells (by kernel_rfl) (by kernel_rfl) 223 old hold info223 hosz hone ?_
           intro wz hpz
           have HZ:=hide (pr_put (uh HPD) hpz)
           have hSz:=(hpz.other (w.heap.size+1) (by omega)).trans (uh HPD).at'
           clear hpz
           refine hK.out _ _ (hSz) (fun hHeld23=>?_)
           clear hK K
           try simp only [zz3]
           refine tkP 24 (some 3) (.bool false) (by kernel_rfl) (fun _ _ _ h=>h) (fun _ _=>by kernel_rfl) hHeld23 ?_
           simp only [zz0,zz1,zz2]
           refine wpAnyH_done (by kernel_rfl) ?_ _
           go_wp2_with fail
           have HQ0:=uh HQ
           exact pr_ret rfl rfl (uh HZ).1 ⟨r,by rw [HQ0];rfl,(fun q hq=>by rw [HQ0] at hq;cases hq),(uh HZ).2⟩
          | true =>
           simp only [if_true] at HRQ
           by_cases hc1:1≤c.toNat
           ·have hlo:(1:Int)≤(c.toNat:Int):=by omega
            by_cases hc7:c.toNat≤7
            ·have hhi:(c.toNat:Int)≤7:=by omega
             have HF:=hide (show readQ s=some { rqOT 84 t with rest:=rest,name:=pt,pre:=x,rights:=c } by rw [uh HRQ];exact if_pos ⟨hc1,hc7⟩)
             clear HRQ
             obtain ⟨old,hold,hosz⟩:=(uh HP).res
             have hone:=r.one
             have HQ:=hide (uh HF)
             have HPD:=hide ((uh HP).keep (wy:=w9.drew) ⟨rfl,rfl,Nat.le_refl _,fun _ _=>rfl⟩)
             go_upto_region 38 with fail
             refine wp_region_held_drew (S:=fun W=>W.heap[w.heap.size+1]?=some (.cells r.cells 223 (0,0))∧W.cell? ⟨w.heap.size+1,4,none⟩=some (.int .i64 (c.toNat:Int))) (by kernel_rfl) (⟨(uh HPD).at',by rw [(uh HPD).c 4,uh HR];rfl⟩) (fun hHeld=>?_)
             refine tkG 0 (some 151) (.load 223 (.tmp 4)) 223 none (.agg r.cells) (by kernel_rfl) (fun _ _ _ h=>h) (yieldsIf_load_mid (by kernel_rfl) 223 (.tmp 4) rfl (w.heap.size+1) 0 (by kernel_rfl) r.cells.toList _ (fun W hW=>row_range hW.1) Tryz.underlying223 rfl (by rw [Array.length_toList];exact info223)) hHeld ?_
             simp only [zz0,zz1,zz2]
             refine tkL 9 [(1,some 152,.bool true),(2,some 153,.bool true),(3,some 154,.bool true),(4,some 155,.bool true),(5,some 156,.bool true),(6,some 157,.bool true),(7,some 158,.bool true),(8,some 159,.bool true),(9,some 160,.string en)] (by kernel_rfl) (fun _ _ _ _ _ h=>h) (fun _ _=>by kernel_rfl) hHeld ?_
             simp only [zz0,zz1,zz2,zz4,zz5]
             refine tkG 10 (some 161) (.call { callee:=.builtin .len,args:=#[.tmp 160],argTypes:=#[9] }) 3 (some (8,true)) (.int .i64 (en.size:Int)) (by kernel_rfl) (fun _ _ _ h=>h) (Or.inl ⟨by kernel_rfl,fun W hW=>by go_simp⟩) hHeld ?_
             simp only [zz0,zz1,zz2]
             refine tkG 11 (some 162) (.binOp .eql 3 (.tmp 161) (.const (.int .i64 1)) 3) 4 (some (8,true)) (.bool true) (by kernel_rfl) (fun _ _ _ h=>h) (Or.inl ⟨by kernel_rfl,fun W hW=>by simp [execOp,go_sem,h1I]⟩) hHeld ?_
             simp only [zz0,zz1,zz2]
             refine tkL 3 [(12,some 163,.bool true),(13,some 164,.bool true),(14,some 165,.pointer (some ⟨w.heap.size+1,4,none⟩))] (by kernel_rfl) (fun _ _ _ _ _ h=>h) (fun _ _=>by kernel_rfl) hHeld ?_
             simp only [zz0,zz1,zz2,zz4,zz5]
             refine tkG 15 (some 166) (.load 3 (.tmp 165)) 3 (some (13,true)) (.int .i64 (c.toNat:Int)) (by kernel_rfl) (fun _ _ _ h=>h) (Or.inl ⟨by kernel_rfl,fun W hW=>by simp [execOp,go_sem,hW.2]⟩) hHeld ?_
             simp only [zz0,zz1,zz2]
             refine tkG 16 (some 167) (.binOp .geq 3 (.tmp 166) (.const (.int .i64 1)) 3) 4 (some (13,true)) (.bool true) (by kernel_rfl) (fun _ _ _ h=>h) (Or.inl ⟨by kernel_rfl,fun W hW=>by simp [execOp,go_sem,hlo]⟩) hHeld ?_
             simp only [zz0,zz1,zz2]
             refine tkL 3 [(17,some 168,.bool true),(18,some 169,.bool true),(19,some 170,.pointer (some ⟨w.heap.size+1,4,none⟩))] (by kernel_rfl) (fun _ _ _ _ _ h=>h) (fun _ _=>by kernel_rfl) hHeld ?_
             simp only [zz0,zz1,zz2,zz4,zz5]
             refine tkG 20 (some 171) (.load 3 (.tmp 170)) 3 (some (18,true)) (.int .i64 (c.toNat:Int)) (by kernel_rfl) (fun _ _ _ h=>h) (Or.inl ⟨by kernel_rfl,fun W hW=>by simp [execOp,go_sem,hW.2]⟩) hHeld ?_
             simp only [zz0,zz1,zz2]
             refine tkG 21 (some 172) (.binOp .leq 3 (.tmp 171) (.const (.int .i64 7)) 3) 4 (some (18,true)) (.bool true) (by kernel_rfl) (fun _ _ _ h=>h) (Or.inl ⟨by kernel_rfl,fun W hW=>by simp [execOp,go_sem,hhi]⟩) hHeld ?_
             simp only [zz0,zz1,zz2]
             refine tkP 22 (some 173) (.bool true) (by kernel_rfl) (fun _ _ _ h=>h) (fun _ _=>by kernel_rfl) hHeld ?_
             simp only [zz0,zz1,zz2]
             refine rd1 23 none (.store 223 (.tmp 2) (.tmp 151)) 0 (by kernel_rfl) (fun K hK=>?_)
             refine wp_store_put 223 (.tmp 2) (.tmp 151) rfl w.heap.size r.cells (by kernel_rfl) (by kernel_rfl) 223 old hold info223 hosz hone ?_
             intro wz hpz
             have HZ:=hide (pr_put (uh HPD) hpz)
             have hSz:=(hpz.other (w.heap.size+1) (by omega)).trans (uh HPD).at'
             clear hpz
             refine hK.out _ _ (⟨hSz,by rw [cell_of_row _ _ _ _ _ _ hSz,uh HR];rfl⟩) (fun hHeld23=>?_)
             clear hK K
             try simp only [zz3]
             refine tkP 24 (some 3) (.bool true) (by kernel_rfl) (fun _ _ _ h=>h) (fun _ _=>by kernel_rfl) hHeld23 ?_
             simp only [zz0,zz1,zz2]
             refine wpAnyH_done (by kernel_rfl) ?_ _
             go_wp2_with fail
             have HQ0:=uh HQ
             exact pr_ret rfl rfl (uh HZ).1 ⟨r,by rw [HQ0];rfl,(fun q hq=>by rw [HQ0] at hq;cases hq;rw [uh HR];exact ⟨rfl,rfl,fun e=>absurd (show pathI (84:Int)=true from e) (by decide),fun _=>⟨rfl,rfl⟩,fun e=>absurd (show (84:Nat)=80 from e) (by decide),fun e=>absurd (show (84:Nat)=71 from e) (by decide),fun _=>⟨rfl,rfl⟩⟩),(uh HZ).2⟩
            ·have hhi:¬ (c.toNat:Int)≤7:=by omega
             have HF:=hide (show readQ s=none by rw [uh HRQ];exact if_neg fun h=>hc7 h.2)
             clear HRQ
             obtain ⟨old,hold,hosz⟩:=(uh HP).res
             have hone:=r.one
             have HQ:=hide (uh HF)
             have HPD:=hide ((uh HP).keep (wy:=w9.drew) ⟨rfl,rfl,Nat.le_refl _,fun _ _=>rfl⟩)
             go_upto_region 38 with fail
             refine wp_region_held_drew (S:=fun W=>W.heap[w.heap.size+1]?=some (.cells r.cells 223 (0,0))∧W.cell? ⟨w.heap.size+1,4,none⟩=some (.int .i64 (c.toNat:Int))) (by kernel_rfl) (⟨(uh HPD).at',by rw [(uh HPD).c 4,uh HR];rfl⟩) (fun hHeld=>?_)
             refine tkG 0 (some 151) (.load 223 (.tmp 4)) 223 none (.agg r.cells) (by kernel_rfl) (fun _ _ _ h=>h) (yieldsIf_load_mid (by kernel_rfl) 223 (.tmp 4) rfl (w.heap.size+1) 0 (by kernel_rfl) r.cells.toList _ (fun W hW=>row_range hW.1) Tryz.underlying223 rfl (by rw [Array.length_toList];exact info223)) hHeld ?_
             simp only [zz0,zz1,zz2]
             refine tkL 9 [(1,some 152,.bool true),(2,some 153,.bool true),(3,some 154,.bool true),(4,some 155,.bool true),(5,some 156,.bool true),(6,some 157,.bool true),(7,some 158,.bool true),(8,some 159,.bool true),(9,some 160,.string en)] (by kernel_rfl) (fun _ _ _ _ _ h=>h) (fun _ _=>by kernel_rfl) hHeld ?_
             simp only [zz0,zz1,zz2,zz4,zz5]
             refine tkG 10 (some 161) (.call { callee:=.builtin .len,args:=#[.tmp 160],argTypes:=#[9] }) 3 (some (8,true)) (.int .i64 (en.size:Int)) (by kernel_rfl) (fun _ _ _ h=>h) (Or.inl ⟨by kernel_rfl,fun W hW=>by go_simp⟩) hHeld ?_
             simp only [zz0,zz1,zz2]
             refine tkG 11 (some 162) (.binOp .eql 3 (.tmp 161) (.const (.int .i64 1)) 3) 4 (some (8,true)) (.bool true) (by kernel_rfl) (fun _ _ _ h=>h) (Or.inl ⟨by kernel_rfl,fun W hW=>by simp [execOp,go_sem,h1I]⟩) hHeld ?_
             simp only [zz0,zz1,zz2]
             refine tkL 3 [(12,some 163,.bool true),(13,some 164,.bool true),(14,some 165,.pointer (some ⟨w.heap.size+1,4,none⟩))] (by kernel_rfl) (fun _ _ _ _ _ h=>h) (fun _ _=>by kernel_rfl) hHeld ?_
             simp only [zz0,zz1,zz2,zz4,zz5]
             refine tkG 15 (some 166) (.load 3 (.tmp 165)) 3 (some (13,true)) (.int .i64 (c.toNat:Int)) (by kernel_rfl) (fun _ _ _ h=>h) (Or.inl ⟨by kernel_rfl,fun W hW=>by simp [execOp,go_sem,hW.2]⟩) hHeld ?_
             simp only [zz0,zz1,zz2]
             refine tkG 16 (some 167) (.binOp .geq 3 (.tmp 166) (.const (.int .i64 1)) 3) 4 (some (13,true)) (.bool true) (by kernel_rfl) (fun _ _ _ h=>h) (Or.inl ⟨by kernel_rfl,fun W hW=>by simp [execOp,go_sem,hlo]⟩) hHeld ?_
             simp only [zz0,zz1,zz2]
             refine tkL 3 [(17,some 168,.bool true),(18,some 169,.bool true),(19,some 170,.pointer (some ⟨w.heap.size+1,4,none⟩))] (by kernel_rfl) (fun _ _ _ _ _ h=>h) (fun _ _=>by kernel_rfl) hHeld ?_
             simp only [zz0,zz1,zz2,zz4,zz5]
             refine tkG 20 (some 171) (.load 3 (.tmp 170)) 3 (some (18,true)) (.int .i64 (c.toNat:Int)) (by kernel_rfl) (fun _ _ _ h=>h) (Or.inl ⟨by kernel_rfl,fun W hW=>by simp [execOp,go_sem,hW.2]⟩) hHeld ?_
             simp only [zz0,zz1,zz2]
             refine tkG 21 (some 172) (.binOp .leq 3 (.tmp 171) (.const (.int .i64 7)) 3) 4 (some (18,true)) (.bool false) (by kernel_rfl) (fun _ _ _ h=>h) (Or.inl ⟨by kernel_rfl,fun W hW=>by simp [execOp,go_sem,hhi]⟩) hHeld ?_
             simp only [zz0,zz1,zz2]
             refine tkP 22 (some 173) (.bool false) (by kernel_rfl) (fun _ _ _ h=>h) (fun _ _=>by kernel_rfl) hHeld ?_
             simp only [zz0,zz1,zz2]
             refine rd1 23 none (.store 223 (.tmp 2) (.tmp 151)) 0 (by kernel_rfl) (fun K hK=>?_)
             refine wp_store_put 223 (.tmp 2) (.tmp 151) rfl w.heap.size r.cells (by kernel_rfl) (by kernel_rfl) 223 old hold info223 hosz hone ?_
             intro wz hpz
             have HZ:=hide (pr_put (uh HPD) hpz)
             have hSz:=(hpz.other (w.heap.size+1) (by omega)).trans (uh HPD).at'
             clear hpz
             refine hK.out _ _ (⟨hSz,by rw [cell_of_row _ _ _ _ _ _ hSz,uh HR];rfl⟩) (fun hHeld23=>?_)
             clear hK K
             try simp only [zz3]
             refine tkP 24 (some 3) (.bool false) (by kernel_rfl) (fun _ _ _ h=>h) (fun _ _=>by kernel_rfl) hHeld23 ?_
             simp only [zz0,zz1,zz2]
             refine wpAnyH_done (by kernel_rfl) ?_ _
             go_wp2_with fail
             have HQ0:=uh HQ
             exact pr_ret rfl rfl (uh HZ).1 ⟨r,by rw [HQ0];rfl,(fun q hq=>by rw [HQ0] at hq;cases hq),(uh HZ).2⟩
           ·have hlo:¬ (1:Int)≤(c.toNat:Int):=by omega
            have HF:=hide (show readQ s=none by rw [uh HRQ];exact if_neg fun h=>hc1 h.1)
            clear HRQ
            obtain ⟨old,hold,hosz⟩:=(uh HP).res
            have hone:=r.one
            have HQ:=hide (uh HF)
            have HPD:=hide ((uh HP).keep (wy:=w9.drew) ⟨rfl,rfl,Nat.le_refl _,fun _ _=>rfl⟩)
            go_upto_region 38 with fail
            refine wp_region_held_drew (S:=fun W=>W.heap[w.heap.size+1]?=some (.cells r.cells 223 (0,0))∧W.cell? ⟨w.heap.size+1,4,none⟩=some (.int .i64 (c.toNat:Int))) (by kernel_rfl) (⟨(uh HPD).at',by rw [(uh HPD).c 4,uh HR];rfl⟩) (fun hHeld=>?_)
            refine tkG 0 (some 151) (.load 223 (.tmp 4)) 223 none (.agg r.cells) (by kernel_rfl) (fun _ _ _ h=>h) (yieldsIf_load_mid (by kernel_rfl) 223 (.tmp 4) rfl (w.heap.size+1) 0 (by kernel_rfl) r.cells.toList _ (fun W hW=>row_range hW.1) Tryz.underlying223 rfl (by rw [Array.length_toList];exact info223)) hHeld ?_
            simp only [zz0,zz1,zz2]
            refine tkL 9 [(1,some 152,.bool true),(2,some 153,.bool true),(3,some 154,.bool true),(4,some 155,.bool true),(5,some 156,.bool true),(6,some 157,.bool true),(7,some 158,.bool true),(8,some 159,.bool true),(9,some 160,.string en)] (by kernel_rfl) (fun _ _ _ _ _ h=>h) (fun _ _=>by kernel_rfl) hHeld ?_
            simp only [zz0,zz1,zz2,zz4,zz5]
            refine tkG 10 (some 161) (.call { callee:=.builtin .len,args:=#[.tmp 160],argTypes:=#[9] }) 3 (some (8,true)) (.int .i64 (en.size:Int)) (by kernel_rfl) (fun _ _ _ h=>h) (Or.inl ⟨by kernel_rfl,fun W hW=>by go_simp⟩) hHeld ?_
            simp only [zz0,zz1,zz2]
            refine tkG 11 (some 162) (.binOp .eql 3 (.tmp 161) (.const (.int .i64 1)) 3) 4 (some (8,true)) (.bool true) (by kernel_rfl) (fun _ _ _ h=>h) (Or.inl ⟨by kernel_rfl,fun W hW=>by simp [execOp,go_sem,h1I]⟩) hHeld ?_
            simp only [zz0,zz1,zz2]
            refine tkL 3 [(12,some 163,.bool true),(13,some 164,.bool true),(14,some 165,.pointer (some ⟨w.heap.size+1,4,none⟩))] (by kernel_rfl) (fun _ _ _ _ _ h=>h) (fun _ _=>by kernel_rfl) hHeld ?_
            simp only [zz0,zz1,zz2,zz4,zz5]
            refine tkG 15 (some 166) (.load 3 (.tmp 165)) 3 (some (13,true)) (.int .i64 (c.toNat:Int)) (by kernel_rfl) (fun _ _ _ h=>h) (Or.inl ⟨by kernel_rfl,fun W hW=>by simp [execOp,go_sem,hW.2]⟩) hHeld ?_
            simp only [zz0,zz1,zz2]
            refine tkG 16 (some 167) (.binOp .geq 3 (.tmp 166) (.const (.int .i64 1)) 3) 4 (some (13,true)) (.bool false) (by kernel_rfl) (fun _ _ _ h=>h) (Or.inl ⟨by kernel_rfl,fun W hW=>by simp [execOp,go_sem,hlo]⟩) hHeld ?_
            simp only [zz0,zz1,zz2]
            refine tkL 6 [(17,some 168,.bool false),(18,some 169,.bool false),(19,some 170,undef),(20,some 171,undef),(21,some 172,undef),(22,some 173,.bool false)] (by kernel_rfl) (fun _ _ _ _ _ h=>h) (fun _ _=>by kernel_rfl) hHeld ?_
            simp only [zz0,zz1,zz2,zz4,zz5]
            refine rd1 23 none (.store 223 (.tmp 2) (.tmp 151)) 0 (by kernel_rfl) (fun K hK=>?_)
            refine wp_store_put 223 (.tmp 2) (.tmp 151) rfl w.heap.size r.cells (by kernel_rfl) (by kernel_rfl) 223 old hold info223 hosz hone ?_
            intro wz hpz
            have HZ:=hide (pr_put (uh HPD) hpz)
            have hSz:=(hpz.other (w.heap.size+1) (by omega)).trans (uh HPD).at'
            clear hpz
            refine hK.out _ _ (⟨hSz,by rw [cell_of_row _ _ _ _ _ _ hSz,uh HR];rfl⟩) (fun hHeld23=>?_)
            clear hK K
            try simp only [zz3]
            refine tkP 24 (some 3) (.bool false) (by kernel_rfl) (fun _ _ _ h=>h) (fun _ _=>by kernel_rfl) hHeld23 ?_
            simp only [zz0,zz1,zz2]
            refine wpAnyH_done (by kernel_rfl) ?_ _
            go_wp2_with fail
            have HQ0:=uh HQ
            exact pr_ret rfl rfl (uh HZ).1 ⟨r,by rw [HQ0];rfl,(fun q hq=>by rw [HQ0] at hq;cases hq),(uh HZ).2⟩
        ·have h1I:((en.size:Int)==1)=false:=beq_eq_false_iff_ne.2 (by omega)
         have HF:=hide (show readQ s=none by rw [uh HRQ];simp only [if_neg h1];cases bo <;> cases bx <;> rfl)
         clear h1 HRQ
         have hcell:=(uh HP).c 3
         have hfz:=(uh HP).fz 3
         have hP1:=(uh HP).set (r':={ r with value:=x }) 3 (.string x) rfl
         obtain ⟨r1,hr1⟩:∃ r1,r1={ r with value:=x }:=⟨_,rfl⟩
         rw [← hr1] at hP1
         have HR1:=hide (show r1={ pq0 with op:=84,token:=t,behind:=rest,path:=pt,tail:=rest2,value:=x } by rw [hr1,uh HR])
         have HP1:=hide hP1
         clear hr1 hP1
         simp only [Pq.cells] at hcell
         go_upto_region 38 with fail
         generalize w7.setCell ⟨w.heap.size+1,3,none⟩ (.string x)=w9 at HP1 ⊢
         clear HP HR hcell hfz
         clear r
         generalize r1=r at *
         have HP:=HP1
         have HR:=HR1
         clear HP1 HR1
         cases bo with
         | false =>
          obtain ⟨old,hold,hosz⟩:=(uh HP).res
          have hone:=r.one
          have HQ:=hide (uh HF)
          have HPD:=hide ((uh HP).keep (wy:=w9.drew) ⟨rfl,rfl,Nat.le_refl _,fun _ _=>rfl⟩)
          go_upto_region 38 with fail
          refine wp_region_held_drew (S:=fun W=>W.heap[w.heap.size+1]?=some (.cells r.cells 223 (0,0))) (by kernel_rfl) ((uh HPD).at') (fun hHeld=>?_)
          refine tkG 0 (some 151) (.load 223 (.tmp 4)) 223 none (.agg r.cells) (by kernel_rfl) (fun _ _ _ h=>h) (yieldsIf_load_mid (by kernel_rfl) 223 (.tmp 4) rfl (w.heap.size+1) 0 (by kernel_rfl) r.cells.toList _ (fun W hW=>row_range hW) Tryz.underlying223 rfl (by rw [Array.length_toList];exact info223)) hHeld ?_
          simp only [zz0,zz1,zz2]
          refine tkL 22 [(1,some 152,.bool false),(2,some 153,.bool false),(3,some 154,undef),(4,some 155,.bool false),(5,some 156,.bool false),(6,some 157,undef),(7,some 158,.bool false),(8,some 159,.bool false),(9,some 160,undef),(10,some 161,undef),(11,some 162,undef),(12,some 163,.bool false),(13,some 164,.bool false),(14,some 165,undef),(15,some 166,undef),(16,some 167,undef),(17,some 168,.bool false),(18,some 169,.bool false),(19,some 170,undef),(20,some 171,undef),(21,some 172,undef),(22,some 173,.bool false)] (by kernel_rfl) (fun _ _ _ _ _ h=>h) (fun _ _=>by kernel_rfl) hHeld ?_
          simp only [zz0,zz1,zz2,zz4,zz5]
          refine rd1 23 none (.store 223 (.tmp 2) (.tmp 151)) 0 (by kernel_rfl) (fun K hK=>?_)
          refine wp_store_put 223 (.tmp 2) (.tmp 151) rfl w.heap.size r.cells (by kernel_rfl) (by kernel_rfl) 223 old hold info223 hosz hone ?_
          intro wz hpz
          have HZ:=hide (pr_put (uh HPD) hpz)
          have hSz:=(hpz.other (w.heap.size+1) (by omega)).trans (uh HPD).at'
          clear hpz
          refine hK.out _ _ (hSz) (fun hHeld23=>?_)
          clear hK K
          try simp only [zz3]
          refine tkP 24 (some 3) (.bool false) (by kernel_rfl) (fun _ _ _ h=>h) (fun _ _=>by kernel_rfl) hHeld23 ?_
          simp only [zz0,zz1,zz2]
          refine wpAnyH_done (by kernel_rfl) ?_ _
          go_wp2_with fail
          have HQ0:=uh HQ
          exact pr_ret rfl rfl (uh HZ).1 ⟨r,by rw [HQ0];rfl,(fun q hq=>by rw [HQ0] at hq;cases hq),(uh HZ).2⟩
         | true =>
          cases bx with
          | false =>
           obtain ⟨old,hold,hosz⟩:=(uh HP).res
           have hone:=r.one
           have HQ:=hide (uh HF)
           have HPD:=hide ((uh HP).keep (wy:=w9.drew) ⟨rfl,rfl,Nat.le_refl _,fun _ _=>rfl⟩)
           go_upto_region 38 with fail
           refine wp_region_held_drew (S:=fun W=>W.heap[w.heap.size+1]?=some (.cells r.cells 223 (0,0))) (by kernel_rfl) ((uh HPD).at') (fun hHeld=>?_)
           refine tkG 0 (some 151) (.load 223 (.tmp 4)) 223 none (.agg r.cells) (by kernel_rfl) (fun _ _ _ h=>h) (yieldsIf_load_mid (by kernel_rfl) 223 (.tmp 4) rfl (w.heap.size+1) 0 (by kernel_rfl) r.cells.toList _ (fun W hW=>row_range hW) Tryz.underlying223 rfl (by rw [Array.length_toList];exact info223)) hHeld ?_
           simp only [zz0,zz1,zz2]
           refine tkL 22 [(1,some 152,.bool true),(2,some 153,.bool true),(3,some 154,.bool true),(4,some 155,.bool true),(5,some 156,.bool true),(6,some 157,.bool false),(7,some 158,.bool false),(8,some 159,.bool false),(9,some 160,undef),(10,some 161,undef),(11,some 162,undef),(12,some 163,.bool false),(13,some 164,.bool false),(14,some 165,undef),(15,some 166,undef),(16,some 167,undef),(17,some 168,.bool false),(18,some 169,.bool false),(19,some 170,undef),(20,some 171,undef),(21,some 172,undef),(22,some 173,.bool false)] (by kernel_rfl) (fun _ _ _ _ _ h=>h) (fun _ _=>by kernel_rfl) hHeld ?_
           simp only [zz0,zz1,zz2,zz4,zz5]
           refine rd1 23 none (.store 223 (.tmp 2) (.tmp 151)) 0 (by kernel_rfl) (fun K hK=>?_)
           refine wp_store_put 223 (.tmp 2) (.tmp 151) rfl w.heap.size r.cells (by kernel_rfl) (by kernel_rfl) 223 old hold info223 hosz hone ?_
           intro wz hpz
           have HZ:=hide (pr_put (uh HPD) hpz)
           have hSz:=(hpz.other (w.heap.size+1) (by omega)).trans (uh HPD).at'
           clear hpz
           refine hK.out _ _ (hSz) (fun hHeld23=>?_)
           clear hK K
           try simp only [zz3]
           refine tkP 24 (some 3) (.bool false) (by kernel_rfl) (fun _ _ _ h=>h) (fun _ _=>by kernel_rfl) hHeld23 ?_
           simp only [zz0,zz1,zz2]
           refine wpAnyH_done (by kernel_rfl) ?_ _
           go_wp2_with fail
           have HQ0:=uh HQ
           exact pr_ret rfl rfl (uh HZ).1 ⟨r,by rw [HQ0];rfl,(fun q hq=>by rw [HQ0] at hq;cases hq),(uh HZ).2⟩
          | true =>
           obtain ⟨old,hold,hosz⟩:=(uh HP).res
           have hone:=r.one
           have HQ:=hide (uh HF)
           have HPD:=hide ((uh HP).keep (wy:=w9.drew) ⟨rfl,rfl,Nat.le_refl _,fun _ _=>rfl⟩)
           go_upto_region 38 with fail
           refine wp_region_held_drew (S:=fun W=>W.heap[w.heap.size+1]?=some (.cells r.cells 223 (0,0))) (by kernel_rfl) ((uh HPD).at') (fun hHeld=>?_)
           refine tkG 0 (some 151) (.load 223 (.tmp 4)) 223 none (.agg r.cells) (by kernel_rfl) (fun _ _ _ h=>h) (yieldsIf_load_mid (by kernel_rfl) 223 (.tmp 4) rfl (w.heap.size+1) 0 (by kernel_rfl) r.cells.toList _ (fun W hW=>row_range hW) Tryz.underlying223 rfl (by rw [Array.length_toList];exact info223)) hHeld ?_
           simp only [zz0,zz1,zz2]
           refine tkL 9 [(1,some 152,.bool true),(2,some 153,.bool true),(3,some 154,.bool true),(4,some 155,.bool true),(5,some 156,.bool true),(6,some 157,.bool true),(7,some 158,.bool true),(8,some 159,.bool true),(9,some 160,.string en)] (by kernel_rfl) (fun _ _ _ _ _ h=>h) (fun _ _=>by kernel_rfl) hHeld ?_
           simp only [zz0,zz1,zz2,zz4,zz5]
           refine tkG 10 (some 161) (.call { callee:=.builtin .len,args:=#[.tmp 160],argTypes:=#[9] }) 3 (some (8,true)) (.int .i64 (en.size:Int)) (by kernel_rfl) (fun _ _ _ h=>h) (Or.inl ⟨by kernel_rfl,fun W hW=>by go_simp⟩) hHeld ?_
           simp only [zz0,zz1,zz2]
           refine tkG 11 (some 162) (.binOp .eql 3 (.tmp 161) (.const (.int .i64 1)) 3) 4 (some (8,true)) (.bool false) (by kernel_rfl) (fun _ _ _ h=>h) (Or.inl ⟨by kernel_rfl,fun W hW=>by simp [execOp,go_sem,h1I]⟩) hHeld ?_
           simp only [zz0,zz1,zz2]
           refine tkL 11 [(12,some 163,.bool false),(13,some 164,.bool false),(14,some 165,undef),(15,some 166,undef),(16,some 167,undef),(17,some 168,.bool false),(18,some 169,.bool false),(19,some 170,undef),(20,some 171,undef),(21,some 172,undef),(22,some 173,.bool false)] (by kernel_rfl) (fun _ _ _ _ _ h=>h) (fun _ _=>by kernel_rfl) hHeld ?_
           simp only [zz0,zz1,zz2,zz4,zz5]
           refine rd1 23 none (.store 223 (.tmp 2) (.tmp 151)) 0 (by kernel_rfl) (fun K hK=>?_)
           refine wp_store_put 223 (.tmp 2) (.tmp 151) rfl w.heap.size r.cells (by kernel_rfl) (by kernel_rfl) 223 old hold info223 hosz hone ?_
           intro wz hpz
           have HZ:=hide (pr_put (uh HPD) hpz)
           have hSz:=(hpz.other (w.heap.size+1) (by omega)).trans (uh HPD).at'
           clear hpz
           refine hK.out _ _ (hSz) (fun hHeld23=>?_)
           clear hK K
           try simp only [zz3]
           refine tkP 24 (some 3) (.bool false) (by kernel_rfl) (fun _ _ _ h=>h) (fun _ _=>by kernel_rfl) hHeld23 ?_
           simp only [zz0,zz1,zz2]
           refine wpAnyH_done (by kernel_rfl) ?_ _
           go_wp2_with fail
           have HQ0:=uh HQ
           exact pr_ret rfl rfl (uh HZ).1 ⟨r,by rw [HQ0];rfl,(fun q hq=>by rw [HQ0] at hq;cases hq),(uh HZ).2⟩
      ·have hc0:w6.cell? ⟨w.heap.size+1,0,none⟩=some (.int .u8 82):=uh HC0
       go_wp2_with fail
       refine (uh HPA).mono ?_
       rintro _ wq ⟨rfl,hwq⟩
       obtain rfl:w6=wq:=hwq.symm
       clear hwq
       generalize isPa pt=bp
       go_wp2_with fail
       refine (uh HNB).mono ?_
       rintro _ wq ⟨rfl,hwq⟩
       obtain rfl:w6=wq:=hwq.symm
       clear hwq
       have HRQ:=hide (readQ_R (uh HB) (uh HT) (uh HN) (uh HT2))
       rcases hpa:isNm pt with _ | _
       ·rw [hpa] at HRQ
        clear hpa
        have hrow:=(uh HP).at'
        obtain ⟨old,hold,hosz⟩:=(uh HP).res
        have hone:=r.one
        have HQ:=hide ((uh HRQ).trans rfl)
        go_wp2_with (first | (refine wpList_load_row rfl 223 (.tmp 4) rfl (w.heap.size+1) rfl 223 r.cells (0,0) _ hrow Tryz.underlying223 rfl info223 ?_) | (refine wpList_store_put rfl 223 (.tmp 2) (.tmp 128) rfl w.heap.size r.cells rfl rfl 223 old hold info223 hosz hone ?_;intro wz hpz;have HZ:=hide (pr_put (uh HP) hpz);clear hpz))
        have HQ0:=uh HQ
        exact pr_ret rfl rfl (uh HZ).1 ⟨r,by rw [HQ0];rfl,(fun q hq=>by rw [HQ0] at hq;cases hq),(uh HZ).2⟩
       ·rw [hpa] at HRQ
        clear hpa
        by_cases hen:rest2.size=0
        ·have henI:=empY hen
         rw [if_pos hen] at HRQ
         clear hen
         have hrow:=(uh HP).at'
         obtain ⟨old,hold,hosz⟩:=(uh HP).res
         have hone:=r.one
         have HQ:=hide ((uh HRQ).trans (if_pos rfl))
         go_wp2_with (first | (refine wpList_load_row rfl 223 (.tmp 4) rfl (w.heap.size+1) rfl 223 r.cells (0,0) _ hrow Tryz.underlying223 rfl info223 ?_) | (refine wpList_store_put rfl 223 (.tmp 2) (.tmp 128) rfl w.heap.size r.cells rfl rfl 223 old hold info223 hosz hone ?_;intro wz hpz;have HZ:=hide (pr_put (uh HP) hpz);clear hpz))
         have HQ0:=uh HQ
         exact pr_ret rfl rfl (uh HZ).1 ⟨r,by rw [HQ0];rfl,(fun q hq=>by rw [HQ0] at hq;cases hq;rw [uh HR];exact ⟨rfl,rfl,fun e=>absurd (show pathI (82:Int)=true from e) (by decide),fun _=>⟨rfl,rfl⟩,fun e=>absurd (show (82:Nat)=80 from e) (by decide),fun e=>absurd (show (82:Nat)=71 from e) (by decide),fun e=>absurd (show (82:Nat)=84 from e) (by decide)⟩),(uh HZ).2⟩
        ·have henI:=empN hen
         rw [if_neg hen] at HRQ
         clear hen
         have hrow:=(uh HP).at'
         obtain ⟨old,hold,hosz⟩:=(uh HP).res
         have hone:=r.one
         have HQ:=hide ((uh HRQ).trans (if_pos rfl))
         go_wp2_with (first | (refine wpList_load_row rfl 223 (.tmp 4) rfl (w.heap.size+1) rfl 223 r.cells (0,0) _ hrow Tryz.underlying223 rfl info223 ?_) | (refine wpList_store_put rfl 223 (.tmp 2) (.tmp 128) rfl w.heap.size r.cells rfl rfl 223 old hold info223 hosz hone ?_;intro wz hpz;have HZ:=hide (pr_put (uh HP) hpz);clear hpz))
         have HQ0:=uh HQ
         exact pr_ret rfl rfl (uh HZ).1 ⟨r,by rw [HQ0];rfl,(fun q hq=>by rw [HQ0] at hq;cases hq),(uh HZ).2⟩
end Go.Proofs.YtlbacbcenejngaaGreatDoor
namespace Go.Proofs.YtlbacbcenejngaaGreatDoor
open Go.RowKit
theorem give_step {L:List ByteArray} (hf:∀ x∈L,fitsB x=true) {k:Snk} {m:Nat} {x:ByteArray} (hx:L[m]?=some x):giveGo k (logOf (L.drop m))=if k.took then giveGo (k.append (frOf x)) (logOf (L.drop (m+1))) else (k.append (frOf x),false):=by
 have hm:=(List.getElem?_eq_some_iff.1 hx).1
 have he:=hf x (List.mem_of_getElem? hx)
 have hd:L.drop m=x::L.drop (m+1):=by
  rw [List.drop_eq_getElem_cons hm]
  congr 1
  exact (List.getElem?_eq_some_iff.1 hx).2
 rw [hd]
 obtain ⟨h1,h2,h3,h4,h5⟩:=fr_more (r:=logOf (L.drop (m+1))) he
 have hz:(logOf (x::L.drop (m+1))).size≠0:=by rw [logOf,h5];omega
 have hff:=firstFr_log (l:=L.drop (m+1)) he
 have hlf:lf (logOf (x::L.drop (m+1))) (frOf x).size=logOf (L.drop (m+1)):=by rw [frOf_size,logOf];exact h4
 rw [giveGo,dif_neg hz,hff,hlf]
theorem give_done {L:List ByteArray} {k:Snk}:giveGo k (logOf (L.drop L.length))=(k,true):=by
 rw [List.drop_length,logOf,giveGo,dif_pos (by rfl)]
theorem give_from {L:List ByteArray} {k:Snk} {m:Nat} (hd:k.data=logOf (L.take m)):giveF k (logOf L)=giveGo k (logOf (L.drop m)):=by
 rw [giveF,hd,lf_take]
theorem take_more {k:Snk} {L:List ByteArray} {m:Nat} {x:ByteArray} (hd:k.data=logOf (L.take m)) (hx:L[m]?=some x) (ht:k.took=true):(k.append (frOf x)).data=logOf (L.take (m+1)):=by
 have ha:k.append (frOf x)={ k with app:=k.app+1,data:=k.data++frOf x }:=if_pos ht
 rw [ha,List.take_add_one,hx,logOf_app]
 show k.data++frOf x=_
 rw [hd]
 congr 1
 show frOf x=logOf [x]
 rw [logOf,logOf,ba_empty]
end Go.Proofs.YtlbacbcenejngaaGreatDoor
