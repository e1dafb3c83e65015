/-
  Yj Yk Yl
-/
import Derived.Test.YtlbacbcenejngaaGreatDoorV02
import Derived.Test.YtlbacbcenejngaaGreatDoorV46
import Derived.Test.YtlbacbcenejngaaGreatDoorV22
namespace Go.Proofs.YtlbacbcenejngaaGreatDoor
open Go.RowKit
def onEnd (B:Nat) (w:World) (wp:Nat) (pl:Value) (n:Nat) (A:List PG) (b:Bool) (e:Ending) (w':World):Prop :=
 e=.returned (.bool true)∧∃ pl' A',PW B w' wp pl' n A'∧A.length≤A'.length∧A'.length≤A.length+1∧(b=true→A'.length=A.length+1)∧Chg (fun k=>k=wp∨pl.ownBlock=some k) w w'
theorem OpP.src {B:Nat} {w wr:World} {sp dp:Nat} {dv:Value} {key root:ByteArray} {SL RL:List (Loc Snk)} {lv rv:Value} (h:OpP B w sp dp dv key root SL lv RL rv wr) {la:Option Addr} {lc:Nat} (hlv:lv=.slice la SL.length lc):LSrc wr lv ((SL.map (·.p)).map some) la lc:=⟨by rw [hlv];simp,fun hp=>by
 have hp':0<SL.length:=by simpa using hp
 have hrow:=h.row
 have hl:=fun k=>h.row.lt k
 rw [hlv] at hrow hl
 obtain ⟨b,c',e1,_⟩:=own_cell hrow hp'
 injection e1 with e1
 subst e1
 refine ⟨b,rfl,(hl b rfl).2,fun j hj=>?_⟩
 have hj':j<SL.length:=by simpa using hj
 obtain ⟨b',c2,e3,e4⟩:=own_cell hrow hj'
 injection e3 with e3
 injection e3 with e3
 injection e3 with e3
 subst e3
 rw [e4,List.getD_eq_getElem?_getD,pcells,List.getElem?_map,List.getElem?_map,List.getElem?_eq_getElem hj',List.getD_eq_getElem?_getD,List.getElem?_map,List.getElem?_map,List.getElem?_eq_getElem hj']
 rfl⟩
theorem stop0:dsk0.stop (-1)=dsk0:=rfl
theorem stopped0:dsk0.stopped=false:=rfl
set_option maxRecDepth 100000 in
set_option maxHeartbeats 4000000 in
theorem openedL_go (B:Nat) (w:World) (wp:Nat) (pl:Value) (n:Nat) (A:List PG) (c:Nat) (key root:ByteArray) (hW:PW B w wp pl n A) (hc:c≤6) (hk:key.size≤1100000) (hr:root.size≤1100000) (hB:B≤w.heap.size) (hT:Table w) (hz:0<w.heap.size) (hn:n≤4194304) (hA:A.length≤2000000) :
  Calls Tryz.prog 25 #[.pointer (some ⟨wp,0,none⟩),.int .i64 (c:Int),.string key,.string root,.int .i64 (-1)] w (onEnd B w wp pl n A (openB (c:Int) root)):=by
 have HT:=hide (show ∀ W,Kept w.heap.size w W→Table W from fun W hW=>hT.kept hW hz)
 have HPW:=hide hW
 clear hT hW
 go_enter Tryz.func25,Tryz.ntmps25
 go_wp2_with fail
 refine (new_disk_go B w).mono ?_
 rintro _ w1 ⟨dp,dv,rfl,hd1,hdp,hdv,hk1⟩
 have hz1:=hk1.size
 obtain ⟨w2,hw2⟩:∃ w2,w2=w1.alloc (.cells (oCells dp (.slice none 0 0) key root (.slice none 0 0)) 102):=⟨_,rfl⟩
 have hk12:Kept w1.heap.size w1 w2:=by rw [hw2];exact (Kept.refl _ _).alloc (Nat.le_refl _) _
 have HO:=hide (show OpP B w w1.heap.size dp dv key root [] (.slice none 0 0) [] (.slice none 0 0) w2 from ⟨by rw [hw2];exact heap_alloc_new _ _,World.ownsRow_nil _ _ _ _,Fam.nil,by simp,World.ownsRow_nil _ _ _ _,Fam.nil,by simp,hd1.kept hk12,⟨hdp,hdv⟩,hz1,hk1.trans (hk12.mono hz1)⟩)
 clear hd1 hdp hdv hk1 hk12
 go_upto_region 2 with fail
 change Code.wp _ _ _ _ (w1.alloc (.cells (oCells dp (.slice none 0 0) key root (.slice none 0 0)) 102))
 rw [← hw2]
 clear hw2
 generalize w1.heap.size=sp at *
 go_wp2_with fail
 go_loopw [12] (fun vi wr=>∃ (i:Nat) (SL RL:List (Loc Snk)) (lv rv:Value),vi=.int .i64 i∧i≤c∧SL.length=i∧RL.length=i∧OpP B w sp dp dv key root SL lv RL rv wr) (fun vi _=>c-(intOf vi).toNat)
 case atStart=>exact ⟨0,[],[],_,_,rfl,Nat.zero_le _,rfl,rfl,uh HO⟩
 case round =>
  obtain ⟨i,SL,RL,lv,rv,rfl,hi,hsl,hrl,hop⟩:=hrel
  have HOP:=hide hop
  have HSL:=hide hsl
  have HRL:=hide hrl
  obtain ⟨la,lc,hlv,_,_⟩:=own_len hop.row
  obtain ⟨ra,rc,hrv,_,_⟩:=own_len hop.rrow
  rw [hsl] at hlv
  rw [hrl] at hrv
  subst hlv hrv
  have hzr:=hop.kept.size
  clear hop hsl hrl
  by_cases hlt:i<c
  ·have hiI:(i:Int)<(c:Int):=by omega
   go_wp2_with fail
   refine (new_sink_go B wr).mono ?_
   rintro _ w4 ⟨rfl,hs4,hk4⟩
   have hz4:wr.heap.size<w4.heap.size:=hs4.lt
   have HO4:=hide ((uh HOP).next hk4)
   have HS4:=hide hs4
   have hc2:w4.cell? ⟨sp,2,none⟩=some (.slice la i lc):=((uh HO4).c 2).trans rfl
   clear hs4 hk4
   go_wp2_with (refine wpList_halt2 (.tmp 35) (.tmp 37) 33 rfl ?_)
   refine Stp.mk ?_
   have hka:Kept w4.heap.size w4 (w4.alloc (.cells #[.pointer (some ⟨wr.heap.size,0,none⟩)] 41)):=(Kept.refl _ _).alloc (Nat.le_refl _) _
   have hO5:=(uh HO4).next hka
   have hsl:=uh HSL
   refine wpList_append_all widePtr33 rfl (.tmp 35) (.tmp 37) rfl w.heap.size (.slice la i lc) (SL.map (·.p)) [wr.heap.size] rfl (by rw [ptrcells,List.length_map];exact hO5.row) _ rfl (src_new (f:=ptrcell) w4 wr.heap.size 41) (onePtr _) (by simp;omega) (by simp;omega) ?_
   intro v6 w6 ho6 hg6 hb6
   rw [List.length_append,List.length_map,ptrcells] at ho6
   obtain ⟨hadd,hat6⟩:=hO5.addS hB ((uh HS4).kept hka) (by omega) (fun e he e'=>by have:=((uh HOP).snk.each e he).1.lt;omega) ho6 hg6
   have HO7:=hide hadd
   have hc6:w6.cell? ⟨sp,2,none⟩=some (.slice la i lc):=by rw [cell_of_row _ _ _ _ _ _ hat6];rfl
   have hz6:w6.frozen? ⟨sp,2,none⟩=false:=frozen_of_row _ _ _ _ _ hat6
   obtain ⟨a6,c6,hv6,_,_⟩:=own_len ho6
   rw [hsl] at hv6
   have hv6':v6=.slice a6 (i+1) c6:=hv6
   subst hv6'
   obtain ⟨w7,hw7⟩:∃ w7,w7=w6.setCell ⟨sp,2,none⟩ (.slice a6 (i+1) c6):=⟨_,rfl⟩
   rw [← hw7] at HO7
   have hz67:w4.heap.size≤w7.heap.size:=by rw [hw7,World.size_setCell];have:=hg6.size;rw [World.size_alloc] at this;omega
   clear hadd hat6 ho6 hg6 hb6 hO5 hka hc2 hv6
   simp only [zz0,zz1,zz2]
   go_upto_region 7 with fail
   rw [← hw7]
   clear hw7 hc6 hz6
   have hcr:w7.cell? ⟨sp,6,none⟩=some (.slice ra i rc):=((uh HO7).c 6).trans rfl
   go_wp2_with (refine wpList_halt2 (.tmp 45) (.tmp 48) 100 rfl ?_)
   refine Stp.mk ?_
   obtain ⟨w8,hw8⟩:∃ w8,w8=w7.alloc (.cells #[.string .empty,.int .i64 0,.slice none 0 0] 105):=⟨_,rfl⟩
   have hk78:Kept w7.heap.size w7 w8:=by rw [hw8];exact (Kept.refl _ _).alloc (Nat.le_refl _) _
   have hs8:SAt B 105 w8 w7.heap.size (.slice none 0 0) snk0:=⟨by rw [hw8];exact heap_alloc_new _ _,World.ownsRow_nil _ _ _ _⟩
   have hz8:w8.heap.size=w7.heap.size+1:=by rw [hw8,World.size_alloc]
   change wpList _ _ _ _ _ ((w7.alloc (.cells #[.string .empty,.int .i64 0,.slice none 0 0] 105)).alloc (.cells #[.pointer (some ⟨w7.heap.size,0,none⟩)] 103))
   rw [← hw8]
   have hka2:Kept w8.heap.size w8 (w8.alloc (.cells #[.pointer (some ⟨w7.heap.size,0,none⟩)] 103)):=(Kept.refl _ _).alloc (Nat.le_refl _) _
   have hO8:=((uh HO7).next hk78).next hka2
   have hrl:=uh HRL
   refine wpList_append_all widePtr100 rfl (.tmp 45) (.tmp 48) rfl w.heap.size (.slice ra i rc) (RL.map (·.p)) [w7.heap.size] rfl (by rw [ptrcells,List.length_map];exact hO8.rrow) (.slice (some ⟨w8.heap.size,0,none⟩) 1 1) (by rw [hz8];rfl) (src_new (f:=ptrcell) w8 w7.heap.size 103) (onePtr _) (by simp;omega) (by simp;omega) ?_
   intro v9 w9 ho9 hg9 hb9
   rw [List.length_append,List.length_map,ptrcells] at ho9
   obtain ⟨hadd,hat9⟩:=hO8.addR hB (hs8.kept hka2) (by omega) (fun e he e'=>by have:=((uh HO7).rsnk.each e he).1.lt;omega) ho9 hg9
   have HO10:=hide hadd
   have hc9:w9.cell? ⟨sp,6,none⟩=some (.slice ra i rc):=by rw [cell_of_row _ _ _ _ _ _ hat9];rfl
   have hf9:w9.frozen? ⟨sp,6,none⟩=false:=frozen_of_row _ _ _ _ _ hat9
   obtain ⟨a9,c9,hv9,_,_⟩:=own_len ho9
   rw [hrl] at hv9
   have hv9':v9=.slice a9 (i+1) c9:=hv9
   subst hv9'
   clear hadd hat9 ho9 hg9 hb9 hO8 hka2 hk78 hs8 hz8 hw8 hcr hv9
   simp only [zz0,zz1,zz2]
   go_wp2
   go_roundw
   case rel=>exact ⟨i+1,_,_,_,_,by go_num,by omega,by rw [List.length_append,hsl];rfl,by rw [List.length_append,hrl];rfl,uh HO10⟩
   case measure=>simp [intOf];omega
  ·obtain rfl:i=c:=by omega
   have hiI:¬ (i:Int)<(i:Int):=by omega
   have hcd:wr.cell? ⟨sp,1,none⟩=some (.pointer (some ⟨dp,0,none⟩)):=((uh HOP).c 1).trans rfl
   go_wp2_with fail
   refine (stop_go B wr dp dv dsk0 (-1) (uh HOP).dsk).mono ?_
   rintro _ w4 ⟨rfl,dv2,hd4,hu4⟩
   rw [stop0] at hd4
   have HO4:=hide ((uh HOP).stop hd4 hu4)
   have hz4:=(uh HO4).kept.size
   have hcd4:w4.cell? ⟨sp,1,none⟩=some (.pointer (some ⟨dp,0,none⟩)):=((uh HO4).c 1).trans rfl
   have hcl4:w4.cell? ⟨sp,2,none⟩=some (.slice la i lc):=((uh HO4).c 2).trans rfl
   clear hd4 hu4 hcd
   go_wp2_with fail
   refine (stopped_go B w4 dp dv2 dsk0 (uh HO4).dsk).mono ?_
   rintro _ wq ⟨rfl,hwq⟩
   obtain rfl:w4=wq:=hwq.symm
   clear hwq
   rw [stopped0]
   have HSRC:=hide (show LSrc w4.drew (.slice la i lc) ((SL.map (·.p)).map some) la lc from by
    have:=((uh HO4).next ((Kept.refl _ _).draws 1:Kept w4.heap.size w4 w4.drew)).src (la:=la) (lc:=lc) (by rw [uh HSL])
    exact this)
   have HVL:=hide (show ((SL.map (·.p)).map some).length=i by rw [List.length_map,List.length_map,uh HSL])
   go_upto_region 10 with fail
   cases hrt:openB (i:Int) root with
   | false =>
    refine wp_region_held_drew (S:=fun W=>W.cell? ⟨sp,1,none⟩=some (.pointer (some ⟨dp,0,none⟩))∧W.cell? ⟨sp,2,none⟩=some (.slice la i lc)) (by kernel_rfl) (⟨hcd4,hcl4⟩) (fun hHeld=>?_)
    refine tkL 3 [(0,some 64,.pointer (some ⟨sp,0,none⟩)),(1,some 65,.pointer (some ⟨sp,0,none⟩)),(2,some 66,.pointer (some ⟨sp,1,none⟩))] (by kernel_rfl) (fun _ _ _ _ _ h=>h) (fun _ _=>by kernel_rfl) hHeld ?_
    simp only [zz0,zz1,zz2,zz4,zz5]
    refine tkG 3 (some 67) (.load 32 (.tmp 66)) 32 none (.pointer (some ⟨dp,0,none⟩)) (by kernel_rfl) (fun _ _ _ h=>h) (Or.inl ⟨by kernel_rfl,fun W hW=>by simp [execOp,go_sem,hW.1]⟩) hHeld ?_
    simp only [zz0,zz1,zz2]
    refine tkL 3 [(4,some 68,.pointer (some ⟨sp,0,none⟩)),(5,some 69,.pointer (some ⟨sp,0,none⟩)),(6,some 70,.pointer (some ⟨sp,2,none⟩))] (by kernel_rfl) (fun _ _ _ _ _ h=>h) (fun _ _=>by kernel_rfl) hHeld ?_
    simp only [zz0,zz1,zz2,zz4,zz5]
    refine tkG 7 (some 71) (.load 33 (.tmp 70)) 33 none (.slice la i lc) (by kernel_rfl) (fun _ _ _ h=>h) (Or.inl ⟨by kernel_rfl,fun W hW=>by simp [execOp,go_sem,hW.2]⟩) hHeld ?_
    simp only [zz0,zz1,zz2]
    refine tkL 2 [(8,some 72,.string key),(9,some 73,.string root)] (by kernel_rfl) (fun _ _ _ _ _ h=>h) (fun _ _=>by kernel_rfl) hHeld ?_
    simp only [zz0,zz1,zz2,zz4,zz5]
    refine rd1 10 (some 74) (.call { callee:=.value (.func 47),args:=#[.tmp 67,.tmp 71,.tmp 72,.tmp 73],argTypes:=#[32,33,9,9] }) 107 (by kernel_rfl) (fun K hK=>?_)
    go_simp
    refine (opens_go w4.drew _ _ _ la lc key root (fun _ x m _=>x=.pointer none∧m=8) (uh HSRC) (by rw [uh HVL];omega) fun W v b cap hW hv=>(open_bad W _ v _ b 0 cap key root hv (by rw [uh HVL];omega) (by omega) (by
     have h1:isNm root=false∨¬ (1≤i∧i≤4):=by
      have h2:(isNm root&&(decide ((1:Int)≤(i:Int))&&decide ((i:Int)≤4)))=false:=hrt
      rcases Bool.and_eq_false_iff.1 h2 with h3 | h3
      ·exact .inl h3
      ·refine .inr fun h4=>?_
       rw [decide_eq_true (by omega),decide_eq_true (by omega)] at h3
       cases h3
     rw [uh HVL]
     rcases h1 with h1 | h1
     ·exact .inr (.inr h1)
     ·exact .inl h1)).mono fun e w' ⟨he,hw'⟩=>⟨_,_,he,by rw [hw'];exact Kept.refl _ _,rfl,rfl⟩).mono ?_
    rintro _ w7 ⟨x7,m7,W,b,w1,rfl,hkW,hbl,hbW,hk1,⟨rfl,rfl⟩,hch⟩
    have hk47:Kept w4.heap.size w4 w7:=(show Kept w4.heap.size w4.drew W from hkW).undraw.trans ((hk1.mono (show w4.heap.size≤W.heap.size from hkW.size)).trans (hch.keptB (Nat.le_trans (show w4.heap.size≤W.heap.size from hkW.size) hk1.size) fun k hk e=>by have hb':w4.heap.size≤b:=hbl;omega))
    have HO7:=hide ((uh HO4).next hk47)
    have hd7:w7.cell? ⟨sp,1,none⟩=some (.pointer (some ⟨dp,0,none⟩)):=((uh HO7).c 1).trans rfl
    have hl7:w7.cell? ⟨sp,2,none⟩=some (.slice la i lc):=((uh HO7).c 2).trans rfl
    clear hkW hk1 hch hk47
    show K _ w7
    refine hK.out _ _ (⟨hd7,hl7⟩) (fun hHeld10=>?_)
    clear hK K
    try simp only [zz0,zz1,zz2]
    refine tkL 7 [(11,some 63,.tuple #[.pointer none,.int .i64 8,.bool true]),(12,some 75,.pointer none),(13,some 76,.int .i64 8),(14,some 77,.bool true),(15,some 15,.pointer none),(16,some 16,.int .i64 8),(17,some 17,.bool true)] (by kernel_rfl) (fun _ _ _ _ _ h=>h) (fun _ _=>by kernel_rfl) hHeld10 ?_
    simp only [zz0,zz1,zz2,zz4,zz5]
    refine wpAnyH_done (by kernel_rfl) ?_ _
    clear hcd4 hcl4 hd7 hl7
    have HOR:=hide (opened_ref (i:Int) root w7 (by omega))
    rw [hrt] at HOR
    have heq:∀ W,(binOp .eql 31 (.pointer none) (.pointer none)).run Tryz.prog W=.ok (.bool true) W:=fun W=>by kernel_rfl
    go_wp2_with fail
    refine (uh HOR).mono ?_
    rintro _ wq ⟨rfl,hwq⟩
    obtain rfl:w7=wq:=hwq.symm
    clear hwq
    go_wp2_with fail
    go_ret
    exact ⟨rfl,pl,A,(uh HPW).kept (uh HO7).kept,Nat.le_refl _,Nat.le_succ _,(fun h=>absurd (hrt.symm.trans h) (by decide)),(uh HO7).kept.chg.mono fun _ _ e=>e.elim⟩
   | true =>
    have hr14:isNm root=true∧(1≤i∧i≤4):=by
     have h2:(isNm root&&(decide ((1:Int)≤(i:Int))&&decide ((i:Int)≤4)))=true:=hrt
     simp only [Bool.and_eq_true,decide_eq_true_eq] at h2
     exact ⟨h2.1,by omega⟩
    refine wp_region_held_drew (S:=fun W=>W.cell? ⟨sp,1,none⟩=some (.pointer (some ⟨dp,0,none⟩))∧W.cell? ⟨sp,2,none⟩=some (.slice la i lc)) (by kernel_rfl) (⟨hcd4,hcl4⟩) (fun hHeld=>?_)
    refine tkL 3 [(0,some 64,.pointer (some ⟨sp,0,none⟩)),(1,some 65,.pointer (some ⟨sp,0,none⟩)),(2,some 66,.pointer (some ⟨sp,1,none⟩))] (by kernel_rfl) (fun _ _ _ _ _ h=>h) (fun _ _=>by kernel_rfl) hHeld ?_
    simp only [zz0,zz1,zz2,zz4,zz5]
    refine tkG 3 (some 67) (.load 32 (.tmp 66)) 32 none (.pointer (some ⟨dp,0,none⟩)) (by kernel_rfl) (fun _ _ _ h=>h) (Or.inl ⟨by kernel_rfl,fun W hW=>by simp [execOp,go_sem,hW.1]⟩) hHeld ?_
    simp only [zz0,zz1,zz2]
    refine tkL 3 [(4,some 68,.pointer (some ⟨sp,0,none⟩)),(5,some 69,.pointer (some ⟨sp,0,none⟩)),(6,some 70,.pointer (some ⟨sp,2,none⟩))] (by kernel_rfl) (fun _ _ _ _ _ h=>h) (fun _ _=>by kernel_rfl) hHeld ?_
    simp only [zz0,zz1,zz2,zz4,zz5]
    refine tkG 7 (some 71) (.load 33 (.tmp 70)) 33 none (.slice la i lc) (by kernel_rfl) (fun _ _ _ h=>h) (Or.inl ⟨by kernel_rfl,fun W hW=>by simp [execOp,go_sem,hW.2]⟩) hHeld ?_
    simp only [zz0,zz1,zz2]
    refine tkL 2 [(8,some 72,.string key),(9,some 73,.string root)] (by kernel_rfl) (fun _ _ _ _ _ h=>h) (fun _ _=>by kernel_rfl) hHeld ?_
    simp only [zz0,zz1,zz2,zz4,zz5]
    refine rd1 10 (some 74) (.call { callee:=.value (.func 47),args:=#[.tmp 67,.tmp 71,.tmp 72,.tmp 73],argTypes:=#[32,33,9,9] }) 107 (by kernel_rfl) (fun K hK=>?_)
    go_simp
    refine (opens_go w4.drew _ _ _ la lc key root (fun W x m w1=>∃ vp g,x=.pointer (some ⟨vp,0,none⟩)∧m=0∧VAt B w1 vp g (vlt0 key root (SL.map (·.x)))∧g.SL=SL∧g.dp=dp∧∀ k,Vft vp g k→(k=dp∨dv2.ownBlock=some k∨∃ e∈SL,e.p=k∨e.v.ownBlock=some k)∨W.heap.size≤k) (uh HSRC) (by rw [uh HVL];omega) fun W v b cap hW hv=>?_).mono ?_
    ·have hO:=(uh HO4).next (show Kept w4.heap.size w4.drew W from hW).undraw
     refine (open_go B W dp dv2 v (SL.map (·.p)) b 0 cap SL key root hO.dsk (by have:=hO.dge.1;omega) hv.ps hO.snk rfl (fun e he=>by rw [(hO.new e he).1];rfl) (by rw [List.length_map,uh HSL];exact hr14.2) hr14.1 hk (by have:=hO.kept.size;omega) (uh HT W hO.kept) (by have:=hO.kept.size;omega)).mono ?_
     rintro e w' ⟨vp,g,he,hv',hg1,hg2,hk',hf⟩
     exact ⟨_,_,he,hk',vp,g,rfl,rfl,hv',hg1,hg2,hf⟩
    rintro _ w7 ⟨x7,m7,W,b,w1,rfl,hkW,hbl,hbW,hk1,⟨vp,g,rfl,rfl,hv1,hgs,hgd,hvf⟩,hch⟩
    have hk47:Kept w4.heap.size w4 w7:=(show Kept w4.heap.size w4.drew W from hkW).undraw.trans ((hk1.mono (show w4.heap.size≤W.heap.size from hkW.size)).trans (hch.keptB (Nat.le_trans (show w4.heap.size≤W.heap.size from hkW.size) hk1.size) fun k hk e=>by have hb':w4.heap.size≤b:=hbl;omega))
    have HO7:=hide ((uh HO4).next hk47)
    have hd7:w7.cell? ⟨sp,1,none⟩=some (.pointer (some ⟨dp,0,none⟩)):=((uh HO7).c 1).trans rfl
    have hl7:w7.cell? ⟨sp,2,none⟩=some (.slice la i lc):=((uh HO7).c 2).trans rfl
    have hzW:w4.heap.size≤W.heap.size:=hkW.size
    have HV7:=hide (show VAt B w7 vp g (vlt0 key root (SL.map (·.x))) from hv1.chg hch fun k hk e=>by
     have hO:=uh HO4
     have e':k=b:=e
     have hb':w4.heap.size≤b:=hbl
     rcases hvf k hk with (e1 | e1 | ⟨y,hy,e1⟩) | e1
     ·have:=hO.dsk.lt;omega
     ·have:=(hO.dsk.own.lt k e1).2;omega
     ·rcases e1 with e1 | e1
      ·have:=(hO.snk.each y hy).1.lt;omega
      ·rw [(hO.new y hy).2.2] at e1;cases e1
     ·omega)
    have HG:=hide (And.intro hgs (And.intro hgd hvf))
    have hzs:sp<W.heap.size∧(∀ k,(Value.slice la i lc).ownBlock=some k→k<W.heap.size)∧dp<W.heap.size:=⟨by have:=(uh HO4).lt;omega,fun k hk=>by have:=((uh HO4).row.lt k hk).2;omega,by have:=(uh HO4).dsk.lt;omega⟩
    have HZS:=hide hzs
    clear hkW hk1 hch hk47 hv1 hgs hgd hvf hzs
    show K _ w7
    refine hK.out _ _ (⟨hd7,hl7⟩) (fun hHeld10=>?_)
    clear hK K
    try simp only [zz0,zz1,zz2]
    refine tkL 7 [(11,some 63,.tuple #[.pointer (some ⟨vp,0,none⟩),.int .i64 0,.bool true]),(12,some 75,.pointer (some ⟨vp,0,none⟩)),(13,some 76,.int .i64 0),(14,some 77,.bool true),(15,some 15,.pointer (some ⟨vp,0,none⟩)),(16,some 16,.int .i64 0),(17,some 17,.bool true)] (by kernel_rfl) (fun _ _ _ _ _ h=>h) (fun _ _=>by kernel_rfl) hHeld10 ?_
    simp only [zz0,zz1,zz2,zz4,zz5]
    refine wpAnyH_done (by kernel_rfl) ?_ _
    clear hcd4 hcl4 hd7 hl7
    have HOR:=hide (opened_ref (i:Int) root w7 (by omega))
    rw [hrt] at HOR
    have heqp:∀ (a:Addr) (W:World),(binOp .eql 31 (.pointer (some a)) (.pointer none)).run Tryz.prog W=.ok (.bool false) W:=fun a W=>by kernel_rfl
    have hc0:w7.cell? ⟨sp,0,none⟩=some (.pointer none):=((uh HO7).c 0).trans rfl
    have hf0:w7.frozen? ⟨sp,0,none⟩=false:=frozen_of_row _ _ _ _ _ (uh HO7).at'
    have hz7:=(uh HO7).kept.size
    go_wp2_with fail
    refine (uh HOR).mono ?_
    rintro _ wq ⟨rfl,hwq⟩
    obtain rfl:w7=wq:=hwq.symm
    clear hwq
    obtain ⟨w8,hw8⟩:∃ w8,w8=w7.setCell ⟨sp,0,none⟩ (.pointer (some ⟨vp,0,none⟩)):=⟨_,rfl⟩
    have hz8:w7.heap.size≤w8.heap.size∧w8.heap.size≤w7.heap.size:=by rw [hw8,World.size_setCell];exact ⟨Nat.le_refl _,Nat.le_refl _⟩
    have HAT8:=hide (show w8.heap[sp]?=some (.cells #[.pointer (some ⟨vp,0,none⟩),.pointer (some ⟨dp,0,none⟩),.slice la i lc,.string key,.string root,.pointer none,.slice ra i rc,.bool false,.bool false] 102 (0,0)) by rw [hw8,heap_setCell_same _ _ _ _ _ _ (uh HO7).at'];rfl)
    have HW8:=hide hw8
    go_upto_region 24 with fail
    rw [← hw8]
    clear hw8 hc0 hf0
    go_wp2_with fail
    refine (new_ref B w8 key root i (by omega) (by omega)).mono ?_
    rintro _ w9 ⟨rp,rg,rfl,hr9,hk9,hf9⟩
    have hat9:=(hk9.block sp (by have:=(uh HO7).lt;omega)).trans (uh HAT8)
    have hc5:w9.cell? ⟨sp,5,none⟩=some (.pointer none):=by rw [cell_of_row _ _ _ _ _ _ hat9];rfl
    have hf5:w9.frozen? ⟨sp,5,none⟩=false:=frozen_of_row _ _ _ _ _ hat9
    have hp:=(uh HO7).post (n:=n) (vp:=vp) (rp:=rp) (g:=g) (rg:=rg) (wx:=w9) hB (by rw [uh HSL,uh HRL]) (by rw [uh HSL];exact hr14.2) hk hn (uh HV7) (uh HG).1 (uh HG).2.1 (z:=W.heap.size) (uh HZS) (uh HG).2.2 (by rw [← uh HW8];exact hk9.mono (by omega)) (by rw [uh HSL];exact hr9) (fun k hk=>by have:=hf9 k hk;omega)
    obtain ⟨w10,hw10⟩:∃ w10,w10=w9.setCell ⟨sp,5,none⟩ (.pointer (some ⟨rp,0,none⟩)):=⟨_,rfl⟩
    rw [← hw10] at hp
    obtain ⟨a,hae⟩:∃ a:PG,a=⟨sp,vp,g,.slice la i lc,rp,rg,.slice ra i rc,RL,vlt0 key root (SL.map (·.x)),[],[],List.replicate SL.length 0⟩:=⟨_,rfl⟩
    rw [← hae] at hp
    have hap:a.p=sp:=by rw [hae]
    have HAP:=hide hap
    have HPA:=hide hp.1
    have HPK:=hide hp.2.1
    have HPF:=hide hp.2.2
    have hz10:=hp.2.1.size
    clear hp hae hap hr9 hk9 hf9 hat9
    go_upto_region 25 with fail
    rw [← hw10]
    clear hw10 hc5 hf5
    have HP10:=hide ((uh HPW).kept (uh HPK))
    obtain ⟨pa,pc,hpl,_,_⟩:=own_len (uh HPW).row
    have hcw:w10.cell? ⟨wp,0,none⟩=some (.slice pa A.length pc):=by rw [cell_of_row _ _ _ _ _ _ (uh HP10).at',← hpl];rfl
    subst hpl
    go_wp2_with (refine wpList_halt2 (.tmp 161) (.tmp 163) 62 rfl ?_)
    refine Stp.mk ?_
    have hka:Kept w10.heap.size w10 (w10.alloc (.cells #[.pointer (some ⟨sp,0,none⟩)] 98)):=(Kept.refl _ _).alloc (Nat.le_refl _) _
    have hP11:=(uh HP10).kept hka
    refine wpList_append_all widePtr62 rfl (.tmp 161) (.tmp 163) rfl B (.slice pa A.length pc) (A.map (·.p)) [sp] rfl (by
     rw [ptrcells,List.length_map]
     have:=hP11.row
     rwa [show (A.map fun a=>Value.pointer (some ⟨a.p,0,none⟩))=pcells (A.map (·.p)) by rw [pcells,List.map_map];rfl] at this) _ rfl (src_new (f:=ptrcell) w10 sp 98) (onePtr _) (by simp;omega) (by simp;omega) ?_
    intro v12 w12 ho12 hg12 hb12
    rw [List.length_append,List.length_map,ptrcells,← uh HAP] at ho12
    obtain ⟨hadd,hkad,hatw⟩:=hP11.add ((uh HPA).kept hka) (fun j b hj k hkb hka'=>by
     have h1:=((uh HPW).each j b hj).foot hkb
     have h2:=uh HPF k hka'
     omega) (fun k hk hka'=>by
     have h1:=(uh HPW).lt hk
     have h2:=uh HPF k hka'
     omega) (by rw [World.size_alloc];omega) ho12 hg12 hb12
    have hc12:w12.cell? ⟨wp,0,none⟩=some (.slice pa A.length pc):=by rw [cell_of_row _ _ _ _ _ _ hatw];rfl
    have hf12:w12.frozen? ⟨wp,0,none⟩=false:=frozen_of_row _ _ _ _ _ hatw
    obtain ⟨a12,c12,hv12,_,_⟩:=own_len ho12
    have hv12':v12=.slice a12 (A.length+1) c12:=hv12
    subst hv12'
    obtain ⟨w13,hw13⟩:∃ w13,w13=w12.setCell ⟨wp,0,none⟩ (.slice a12 (A.length+1) c12):=⟨_,rfl⟩
    rw [← hw13] at hadd hkad
    have HADD:=hide hadd
    have HKF:=hide (show Chg (fun k=>k=wp∨(Value.slice pa A.length pc).ownBlock=some k) w w13 from (((uh HPK).chg.mono fun _ _ e=>e.elim).trans' hka.chg fun _ _ e=>e.elim).trans hkad)
    have HSM:=hide (same_go B w13 n a (hadd.each A.length a (by rw [List.getElem?_append_right (Nat.le_refl _),Nat.sub_self];rfl)))
    rw [uh HAP] at HSM
    clear hadd hkad hatw ho12 hg12 hb12 hP11 hka hcw hv12
    simp only [zz0,zz1,zz2]
    go_upto_region 26 with fail
    rw [← hw13]
    clear hw13 hc12 hf12
    go_wp2_with fail
    refine (uh HSM).mono ?_
    rintro _ wq ⟨rfl,hwq⟩
    obtain rfl:w13=wq:=hwq.symm
    clear hwq
    go_wp2_with fail
    go_ret
    exact ⟨rfl,_,_,uh HADD,by rw [List.length_append];omega,by rw [List.length_append];exact Nat.le_refl _,(fun _=>by rw [List.length_append];rfl),uh HKF⟩
end Go.Proofs.YtlbacbcenejngaaGreatDoor
namespace Go.Proofs.YtlbacbcenejngaaGreatDoor
open Go.RowKit
structure Oq where
 kind:Int
 on:Int
 a:Int
 b:Int
 s:ByteArray
 t:ByteArray
 lv:Value
 l:List Int
def Oq.cells (o:Oq):Array Value:=#[.int .i64 o.kind,.int .i64 o.on,.int .i64 o.a,.int .i64 o.b,.string o.s,.string o.t,o.lv]
structure OqIn (w:World) (o:Oq):Prop where
 kind:i64 o.kind
 on:i64 o.on
 a:i64 o.a
 s:o.s.size≤1048576
 t:o.t.size≤1048576
 isl:ISl w o.lv o.l
 len:o.l.length≤1048576
def slEnd (w0:World) (wp n:Nat) (A:List PG) (e:Ending) (w':World):Prop :=
 e=.returned (.bool true)∧∃ pl' A',PW w0.heap.size w' wp pl' (n+1) A'∧A.length≤A'.length∧A'.length≤A.length+1∧Kept w0.heap.size w0 w'
theorem slEnd.of {w0 w w':World} {wp n:Nat} {pl:Value} {A:List PG} (h:PW w0.heap.size w wp pl n A) (hn:n+1≤4194304) (hk0:Kept w0.heap.size w0 w) (hk:Kept w.heap.size w w'):slEnd w0 wp n A (.returned (.bool true)) w' :=
 ⟨rfl,pl,A,(h.kept hk).up (Nat.le_succ n) hn,Nat.le_refl _,Nat.le_succ _,hk0.trans (hk.mono hk0.size)⟩
theorem slEnd.upd {w0 w w':World} {wp n:Nat} {pl:Value} {A:List PG} (h:PW w0.heap.size w wp pl n A) (hn:n+1≤4194304) (hk0:Kept w0.heap.size w0 w) {i:Nat} {a:PG} (hi:A[i]?=some a) (hp:ptEnd w0.heap.size w (n+1) a w'):slEnd w0 wp n A (.returned (.bool true)) w':=by
 obtain ⟨A',h1,h2,h3⟩:=h.upd hn hi hp hk0.size
 exact ⟨rfl,pl,A',h2,by omega,by omega,hk0.trans h3⟩
theorem Upd.apart {B T:Nat} {w w':World} {q k t:Nat} {v v':Value} {x:Snk} (hP:SAt B T w q v x) (hu:Upd q v v' w w') (hk:TyAt w k t) (ht:t≠T∧t≠3):w'.heap[k]?=w.heap[k]? :=
 hu.block k hk.lt (fun e=>by subst e;exact hk.ne (show TyAt w k T from ⟨_,hP.at'⟩) ht.1 rfl) fun e=>hk.ne (show TyAt w k 3 from own_ty hP.own e) ht.2 rfl
theorem index62 (b i n cap:Nat) (h:i<n) (W:World):(Instr.indexAt 62 (.slice (some ⟨b,0,none⟩) n cap) (.int .i64 (i:Int))).run Tryz.prog W=.ok (.pointer (some ⟨b,i,none⟩)) W:=by
 have hu:=Tryz.underlying62
 have h1:(i:Int)<(n:Int):=by omega
 have h2:(0:Int)≤(i:Int):=by omega
 simp [Instr.indexAt,go_sem,h2]
 omega
theorem index100 (b i n cap:Nat) (h:i<n) (W:World):(Instr.indexAt 100 (.slice (some ⟨b,0,none⟩) n cap) (.int .i64 (i:Int))).run Tryz.prog W=.ok (.pointer (some ⟨b,i,none⟩)) W:=by
 have hu:=Tryz.underlying100
 have h1:(i:Int)<(n:Int):=by omega
 have h2:(0:Int)≤(i:Int):=by omega
 simp [Instr.indexAt,go_sem,h2]
 omega
set_option maxRecDepth 100000 in
set_option maxHeartbeats 4000000 in
theorem stepL_go (w0 w:World) (wp:Nat) (pl:Value) (n:Nat) (A:List PG) (o:Oq) (h:PW w0.heap.size w wp pl n A) (hA0:0<A.length) (hA:A.length≤2000000) (hn:n+1≤4194304) (ho:OqIn w0 o) (hk5:o.kind≤5) (hb:o.b=-1) (hk0:Kept w0.heap.size w0 w) (hT:Table w0) (hz:0<w0.heap.size) :
  Calls Tryz.prog 26 #[.pointer (some ⟨wp,0,none⟩),.agg o.cells] w (slEnd w0 wp n A):=by
 obtain ⟨w1,hw1⟩:∃ w1,w1=w.alloc (.cells o.cells 67):=⟨_,rfl⟩
 have hbx:w1.heap[w.heap.size]?=some (.cells o.cells 67 (0,0)):=by rw [hw1];exact heap_alloc_new _ _
 have hk1:Kept w.heap.size w w1:=by rw [hw1];exact (Kept.refl _ _).alloc (Nat.le_refl _) _
 have hz1:w.heap.size<w1.heap.size:=(Array.getElem?_eq_some_iff.1 hbx).1
 have HPW:=hide (h.kept hk1)
 have HPO:=hide h
 have HK0:=hide (hk0.trans (hk1.mono hk0.size))
 have hz0:=hk0.size
 have HT:=hide (show ∀ W,Kept w0.heap.size w0 W→Table W from fun W hW=>hT.kept hW hz)
 obtain ⟨xa,xc,hov,hxs⟩:=ho.isl.parts
 have HOV:=hide hov
 have HISL:=hide ho.isl
 have HXB:=hide (show 0<o.l.length→∀ b,o.lv.ownBlock=some b→b<w0.heap.size from fun hp b hb'=>by
  obtain ⟨b2,o2,rfl,h2,_⟩:=hxs hp
  rw [hov] at hb'
  simp [Value.ownBlock] at hb'
  omega)
 have HCB:=hide (show ∀ W:World,W.heap[w.heap.size]?=some (.cells o.cells 67 (0,0))→W.cell? ⟨w.heap.size,0,none⟩=some (.int .i64 o.kind)∧W.cell? ⟨w.heap.size,1,none⟩=some (.int .i64 o.on)∧W.cell? ⟨w.heap.size,2,none⟩=some (.int .i64 o.a)∧W.cell? ⟨w.heap.size,3,none⟩=some (.int .i64 (-1))∧W.cell? ⟨w.heap.size,4,none⟩=some (.string o.s)∧W.cell? ⟨w.heap.size,5,none⟩=some (.string o.t)∧W.cell? ⟨w.heap.size,6,none⟩=some (.slice xa o.l.length xc) from fun W hW =>
  ⟨by rw [cell_of_row _ _ _ _ _ _ hW];rfl,by rw [cell_of_row _ _ _ _ _ _ hW];rfl,by rw [cell_of_row _ _ _ _ _ _ hW];rfl,by rw [cell_of_row _ _ _ _ _ _ hW,← hb];rfl,by rw [cell_of_row _ _ _ _ _ _ hW];rfl,by rw [cell_of_row _ _ _ _ _ _ hW];rfl,by rw [cell_of_row _ _ _ _ _ _ hW,← hov];rfl⟩)
 have hck:=(uh HCB w1 hbx).1
 have hoa:=ho.a
 have hoon:=ho.on
 have hos:=ho.s
 have hot:=ho.t
 have hol:=ho.len
 obtain ⟨bx,hbe⟩:∃ bx,bx=w.heap.size:=⟨_,rfl⟩
 have HBX:=hide hbe
 rw [← hbe] at hbx HCB hck
 have HBXR:=hide hbx
 clear h hk0 hT ho hov hxs hb hk1 hbx
 go_enter Tryz.func26,Tryz.ntmps26
 go_upto_region 1 with fail
 rw [← hw1,← hbe]
 clear hw1 hbe
 by_cases h1:o.kind=1
 ·have h1I:(o.kind==1)=true:=by simpa using h1
  go_upto_region 3 with fail
  refine wp_region_held_drew (S:=fun W=>W.cell? ⟨bx,2,none⟩=some (.int .i64 o.a)∧W.cell? ⟨bx,4,none⟩=some (.string o.s)∧W.cell? ⟨bx,5,none⟩=some (.string o.t)∧W.cell? ⟨bx,3,none⟩=some (.int .i64 (-1))) (by kernel_rfl) (⟨(uh HCB w1.drew (uh HBXR)).2.2.1,(uh HCB w1.drew (uh HBXR)).2.2.2.2.1,(uh HCB w1.drew (uh HBXR)).2.2.2.2.2.1,(uh HCB w1.drew (uh HBXR)).2.2.2.1⟩) (fun hHeld=>?_)
  refine tkL 2 [(0,some 30,.pointer (some ⟨wp,0,none⟩)),(1,some 31,.pointer (some ⟨bx,2,none⟩))] (by kernel_rfl) (fun _ _ _ _ _ h=>h) (fun _ _=>by kernel_rfl) hHeld ?_
  simp only [zz0,zz1,zz2,zz4,zz5]
  refine tkG 2 (some 32) (.load 3 (.tmp 31)) 3 none (.int .i64 o.a) (by kernel_rfl) (fun _ _ _ h=>h) (Or.inl ⟨by kernel_rfl,fun W hW=>by simp [execOp,go_sem,hW.1]⟩) hHeld ?_
  simp only [zz0,zz1,zz2]
  refine tkP 4 (some 34) (.pointer (some ⟨bx,4,none⟩)) (by kernel_rfl) (fun _ _ _ h=>h) (fun _ _=>by kernel_rfl) hHeld ?_
  simp only [zz0,zz1,zz2]
  refine tkG 5 (some 35) (.load 9 (.tmp 34)) 9 none (.string o.s) (by kernel_rfl) (fun _ _ _ h=>h) (Or.inl ⟨by kernel_rfl,fun W hW=>by simp [execOp,go_sem,hW.2.1]⟩) hHeld ?_
  simp only [zz0,zz1,zz2]
  refine tkP 6 (some 36) (.pointer (some ⟨bx,5,none⟩)) (by kernel_rfl) (fun _ _ _ h=>h) (fun _ _=>by kernel_rfl) hHeld ?_
  simp only [zz0,zz1,zz2]
  refine tkG 7 (some 37) (.load 9 (.tmp 36)) 9 none (.string o.t) (by kernel_rfl) (fun _ _ _ h=>h) (Or.inl ⟨by kernel_rfl,fun W hW=>by simp [execOp,go_sem,hW.2.2.1]⟩) hHeld ?_
  simp only [zz0,zz1,zz2]
  refine tkP 8 (some 38) (.pointer (some ⟨bx,3,none⟩)) (by kernel_rfl) (fun _ _ _ h=>h) (fun _ _=>by kernel_rfl) hHeld ?_
  simp only [zz0,zz1,zz2]
  refine tkG 9 (some 39) (.load 3 (.tmp 38)) 3 none (.int .i64 (-1)) (by kernel_rfl) (fun _ _ _ h=>h) (Or.inl ⟨by kernel_rfl,fun W hW=>by simp [execOp,go_sem,hW.2.2.2]⟩) hHeld ?_
  simp only [zz0,zz1,zz2]
  refine rd1 3 (some 33) (.call { callee:=.value (.func 52),args:=#[.tmp 32,.const (.int .i64 7)],argTypes:=#[3,3] }) 3 (by kernel_rfl) (fun K hK=>?_)
  go_simp
  refine (show Calls Tryz.prog 52 #[.int .i64 o.a,.int .i64 7] w1.drew _ from lawpick_go o.a 7 w1.drew hoa.1 hoa.2 (by decide) (by decide)).mono ?_
  rintro _ _ ⟨⟨k,hk,rfl⟩,rfl⟩
  show K _ w1.drew
  refine hK.out _ _ (⟨(uh HCB w1.drew (uh HBXR)).2.2.1,(uh HCB w1.drew (uh HBXR)).2.2.2.2.1,(uh HCB w1.drew (uh HBXR)).2.2.2.2.2.1,(uh HCB w1.drew (uh HBXR)).2.2.2.1⟩) (fun hHeld3=>?_)
  clear hK K
  try simp only [zz0,zz1,zz2]
  refine rd1 10 (some 40) (.call { callee:=.value (.func 25),args:=#[.tmp 30,.tmp 33,.tmp 35,.tmp 37,.tmp 39],argTypes:=#[61,3,9,9,3] }) 4 (by kernel_rfl) (fun K hK=>?_)
  go_simp
  refine (openedL_go w0.heap.size w1.drew wp pl n A k o.s o.t ((uh HPW).kept ((Kept.refl _ _).draws 1)) (by omega) (by omega) (by omega) (by show w0.heap.size≤w1.heap.size;omega) (uh HT _ ((uh HK0).draws 1)) (by show 0<w1.heap.size;omega) (by omega) hA).mono ?_
  rintro _ w2 ⟨rfl,pl2,A2,hp2,hl2,hl3,_,hc2⟩
  have hb2:w2.heap[bx]?=some (.cells o.cells 67 (0,0)):=(hc2.block bx (by show bx<w1.heap.size;rw [uh HBX];exact hz1) (fun e=>by have:=((uh HPO).lt (k:=bx) e).1;rw [uh HBX] at this;omega)).trans (uh HBXR)
  have HE:=hide (show slEnd w0 wp n A (.returned (.bool true)) w2 from ⟨rfl,pl2,A2,hp2.up (Nat.le_succ n) hn,hl2,hl3,((uh HK0).draws 1).trans (hc2.keptB (by show w0.heap.size≤w1.heap.size;omega) fun k hk e=>by have:=((uh HPO).lt e).2;omega)⟩)
  clear hp2 hc2
  show K _ w2
  refine hK.out _ _ (⟨(uh HCB w2 hb2).2.2.1,(uh HCB w2 hb2).2.2.2.2.1,(uh HCB w2 hb2).2.2.2.2.2.1,(uh HCB w2 hb2).2.2.2.1⟩) (fun hHeld10=>?_)
  clear hK K
  try simp only [zz0,zz1,zz2]
  refine tkP 11 (some 4) (.bool true) (by kernel_rfl) (fun _ _ _ h=>h) (fun _ _=>by kernel_rfl) hHeld10 ?_
  simp only [zz0,zz1,zz2]
  refine wpAnyH_done (by kernel_rfl) ?_ _
  go_wp2_with fail
  go_ret
  exact uh HE
 by_cases h2:o.kind=2
 ·have h1I:(o.kind==1)=false:=by simpa using h1
  have h2I:(o.kind==2)=true:=by simpa using h2
  have hca:=(uh HCB w1 (uh HBXR)).2.2.1
  go_wp2_with fail
  refine (withNil_go w1 o.a hoa).mono ?_
  rintro _ w2 ⟨rfl,hk2⟩
  have HE:=hide (slEnd.of (uh HPW) hn (uh HK0) hk2)
  clear hk2
  go_wp2_with fail
  go_ret
  exact uh HE
 have h1I:(o.kind==1)=false:=by simpa using h1
 have h2I:(o.kind==2)=false:=by simpa using h2
 obtain ⟨pa,pc,hpl,_,hpg⟩:=own_len (uh HPW).row
 obtain ⟨pb,hpb⟩:=hpg hA0
 subst hpb
 subst hpl
 have hcw:w1.cell? ⟨wp,0,none⟩=some (.slice (some ⟨pb,0,none⟩) A.length pc):=by rw [cell_of_row _ _ _ _ _ _ (uh HPW).at'];rfl
 have hA0I:((A.length:Int)==0)=false:=beq_eq_false_iff_ne.2 (by omega)
 have HAT:=hide (show ∀ i,i<A.length→∃ a:PG,A[i]?=some a∧w1.cell? ⟨pb,i,none⟩=some (.pointer (some ⟨a.p,0,none⟩)) from fun i hi=>by
  refine ⟨A[i],List.getElem?_eq_getElem hi,?_⟩
  obtain ⟨g',c',e1,e2⟩:=own_cell (uh HPW).row hi
  cases e1
  rw [e2,List.getD_eq_getElem?_getD,List.getElem?_map,List.getElem?_eq_getElem hi];rfl)
 go_upto_region 8 with fail
 refine wp_region_held_drew (S:=fun W=>W.cell? ⟨wp,0,none⟩=some (.slice (some ⟨pb,0,none⟩) A.length pc)∧W.cell? ⟨bx,1,none⟩=some (.int .i64 o.on)∧∀ i:Nat,i<A.length→∃ a:PG,A[i]?=some a∧W.cell? ⟨pb,i,none⟩=some (.pointer (some ⟨a.p,0,none⟩))) (by kernel_rfl) (⟨hcw,(uh HCB w1.drew (uh HBXR)).2.1,uh HAT⟩) (fun hHeld=>?_)
 refine tkL 3 [(0,some 52,.pointer (some ⟨wp,0,none⟩)),(1,some 53,.pointer (some ⟨wp,0,none⟩)),(2,some 54,.pointer (some ⟨wp,0,none⟩))] (by kernel_rfl) (fun _ _ _ _ _ h=>h) (fun _ _=>by kernel_rfl) hHeld ?_
 simp only [zz0,zz1,zz2,zz4,zz5]
 refine tkG 3 (some 55) (.load 62 (.tmp 54)) 62 none (.slice (some ⟨pb,0,none⟩) A.length pc) (by kernel_rfl) (fun _ _ _ h=>h) (Or.inl ⟨by kernel_rfl,fun W hW=>by simp [execOp,go_sem,hW.1]⟩) hHeld ?_
 simp only [zz0,zz1,zz2]
 refine tkP 4 (some 56) (.pointer (some ⟨bx,1,none⟩)) (by kernel_rfl) (fun _ _ _ h=>h) (fun _ _=>by kernel_rfl) hHeld ?_
 simp only [zz0,zz1,zz2]
 refine tkG 5 (some 57) (.load 3 (.tmp 56)) 3 none (.int .i64 o.on) (by kernel_rfl) (fun _ _ _ h=>h) (Or.inl ⟨by kernel_rfl,fun W hW=>by simp [execOp,go_sem,hW.2.1]⟩) hHeld ?_
 simp only [zz0,zz1,zz2]
 refine tkL 3 [(6,some 58,.pointer (some ⟨wp,0,none⟩)),(7,some 59,.pointer (some ⟨wp,0,none⟩)),(8,some 60,.pointer (some ⟨wp,0,none⟩))] (by kernel_rfl) (fun _ _ _ _ _ h=>h) (fun _ _=>by kernel_rfl) hHeld ?_
 simp only [zz0,zz1,zz2,zz4,zz5]
 refine tkG 9 (some 61) (.load 62 (.tmp 60)) 62 none (.slice (some ⟨pb,0,none⟩) A.length pc) (by kernel_rfl) (fun _ _ _ h=>h) (Or.inl ⟨by kernel_rfl,fun W hW=>by simp [execOp,go_sem,hW.1]⟩) hHeld ?_
 simp only [zz0,zz1,zz2]
 refine tkG 10 (some 62) (.call { callee:=.builtin .len,args:=#[.tmp 61],argTypes:=#[62] }) 3 none (.int .i64 (A.length:Int)) (by kernel_rfl) (fun _ _ _ h=>h) (Or.inl ⟨by kernel_rfl,fun W hW=>by go_simp⟩) hHeld ?_
 simp only [zz0,zz1,zz2]
 refine rd1 11 (some 63) (.call { callee:=.value (.func 52),args:=#[.tmp 57,.tmp 62],argTypes:=#[3,3] }) 3 (by kernel_rfl) (fun K hK=>?_)
 go_simp
 refine (lawpick_go o.on A.length w1.drew hoon.1 hoon.2 hA0 (by omega)).mono ?_
 rintro _ _ ⟨⟨i,hi,rfl⟩,rfl⟩
 obtain ⟨a,hai,hca⟩:=uh HAT i hi
 show K _ w1.drew
 refine hK.out _ _ (⟨hcw,(uh HCB w1.drew (uh HBXR)).2.1,uh HAT⟩) (fun hHeld11=>?_)
 clear hK K
 try simp only [zz0,zz1,zz2]
 refine tkG 12 (some 64) (.indexAddr 62 (.tmp 55) (.tmp 63)) 0 none (.pointer (some ⟨pb,i,none⟩)) (by kernel_rfl) (fun _ _ _ h=>h) (yieldsIf_index (by kernel_rfl) 62 (.tmp 55) (.tmp 63) rfl (index62 pb i A.length pc hi) (by kernel_rfl) (by kernel_rfl)) hHeld11 ?_
 simp only [zz0,zz1,zz2]
 refine tkG 13 (some 65) (.load 98 (.tmp 64)) 98 none (.pointer (some ⟨a.p,0,none⟩)) (by kernel_rfl) (fun _ _ _ h=>h) (Or.inl ⟨by kernel_rfl,fun W hW=>by (obtain ⟨a2,e1,e2⟩:=hW.2.2 i hi;rw [hai] at e1;cases e1;simp [execOp,go_sem,e2])⟩) hHeld11 ?_
 simp only [zz0,zz1,zz2]
 refine tkP 14 (some 5) (.pointer (some ⟨a.p,0,none⟩)) (by kernel_rfl) (fun _ _ _ h=>h) (fun _ _=>by kernel_rfl) hHeld11 ?_
 simp only [zz0,zz1,zz2]
 refine wpAnyH_done (by kernel_rfl) ?_ _
 have HPD:=hide (show PW w0.heap.size w1.drew wp (.slice (some ⟨pb,0,none⟩) A.length pc) n A from (uh HPW).kept ((Kept.refl _ _).draws 1))
 have HKD:=hide (show Kept w0.heap.size w0 w1.drew from (uh HK0).draws 1)
 have HBD:=hide (show w1.drew.heap[bx]?=some (.cells o.cells 67 (0,0)) from uh HBXR)
 have hzd:w.heap.size<w1.drew.heap.size:=hz1
 generalize w1.drew=wd at *
 clear hcw HAT HPW HBXR hck hA0I
 have HPA:=hide ((uh HPD).each i a hai)
 have hbxl:bx<wd.heap.size:=(Array.getElem?_eq_some_iff.1 (uh HBD)).1
 have hc8:wd.cell? ⟨a.p,8,none⟩=some (.bool false):=((uh HPA).c 8).trans rfl
 have hck:=(uh HCB wd (uh HBD)).1
 by_cases h3:o.kind=3
 ·have h3I:(o.kind==3)=true:=by simpa using h3
  have hcs:=(uh HCB wd (uh HBD)).2.2.2.2.1
  go_wp2_with fail
  refine (did_go w0.heap.size wd n a o.s (uh HPA) hn (by omega) (by omega) (uh HT _ (uh HKD)) (by omega)).mono ?_
  rintro _ w2 ⟨rfl,hpt⟩
  obtain ⟨a',hap,hPA',_⟩:=id hpt
  have HSM:=hide (same_go w0.heap.size w2 (n+1) a' hPA')
  rw [hap] at HSM
  have HE:=hide (slEnd.upd (uh HPD) hn (uh HKD) hai hpt)
  clear hpt hap hPA'
  go_wp2_with fail
  refine (uh HSM).mono ?_
  rintro _ wq ⟨rfl,hwq⟩
  obtain rfl:w2=wq:=hwq.symm
  clear hwq
  go_wp2_with fail
  go_ret
  exact uh HE
 have h3I:(o.kind==3)=false:=by simpa using h3
 by_cases h4:o.kind=4
 ·have h4I:(o.kind==4)=true:=by simpa using h4
  have hc0:wd.cell? ⟨a.p,0,none⟩=some (.pointer (some ⟨a.vp,0,none⟩)):=((uh HPA).c 0).trans rfl
  have HHR:=hide (show ∀ W,Kept wd.heap.size wd W→Calls Tryz.prog 55 #[.pointer (some ⟨a.rp,0,none⟩)] W fun e w'=>e=.returned (.tuple #[.int .i64 (a.V.cnt:Int),.agg (brow a.V.last)])∧Kept W.heap.size W w' from fun W hW=>by
   have hp:=uh HPA
   have:=head_ref w0.heap.size W a.rp a.rg a.V.key a.V.sto.root a.secs a.V.sto.toks a.E a.H (hp.r.keep hW) (by have:=hp.bnd.le;omega) (fun e he=>by have:=fits_small (chn_fits hp.bnd.ok.chn e he);omega)
   rw [hp.bnd.last',hp.bnd.ok.cnt]
   exact this)
  have HHG:=hide (head_go w0.heap.size wd a.vp a.g a.V (uh HPA).v)
  have hDl:a.V.last.length=32:=by rw [(uh HPA).bnd.last'];exact lastD_len _
  have heq:=same_row a.V.last hDl
  have hg29:=guard24
  obtain ⟨D,hD⟩:∃ D,D=a.V.last:=⟨_,rfl⟩
  rw [← hD] at HHR HHG hDl heq
  clear hD
  generalize a.V.cnt=cn at *
  go_wp2_with fail
  refine (uh HHG).mono ?_
  rintro _ w2 ⟨rfl,hk2⟩
  have s2:=hk2.size
  have K2:=hide hk2
  clear hk2 hc0 HHG
  go_wp2_with (refine wpList_store_put rfl 29 _ _ rfl w2.heap.size (brow D) rfl rfl 29 _ (heap_alloc_new _ _) (row_info hDl) (row_zero hDl) (brow_one _) ?_;intro w3 hp3;have k3:Kept wd.heap.size wd w3:=((uh K2).alloc s2 _).trans (.of (hp3.below s2));have hc5:w3.cell? ⟨a.p,5,none⟩=some (.pointer (some ⟨a.rp,0,none⟩)):=(((uh HPA).kept k3).c 5).trans rfl)
  have r1:w3.heap[w2.heap.size]?=some (.cells (brow D) 29 (0,0)):=hp3.row
  have s3:w2.heap.size<w3.heap.size:=by rw [hp3.size];simp
  have K3:=hide k3
  have R1:=hide r1
  clear hp3 k3 r1 K2 hc5
  refine (uh HHR w3 (uh K3)).mono ?_
  rintro _ w4 ⟨rfl,hk4⟩
  have s4:=hk4.size
  have K4:=hide ((uh K3).trans (hk4.mono (by omega)))
  have R4:=hide ((hk4.block _ s3).trans (uh R1))
  clear hk4 R1 K3 HHR
  go_wp2_with (refine wpList_store_put rfl 29 _ _ rfl w4.heap.size (brow D) rfl rfl 29 _ (heap_alloc_new _ _) (row_info hDl) (row_zero hDl) (brow_one _) ?_;intro w5 hp5)
  have q2:w5.heap[w4.heap.size]?=some (.cells (brow D) 29 (0,0)):=hp5.row
  have q1:w5.heap[w2.heap.size]?=some (.cells (brow D) 29 (0,0)):=(hp5.other _ (by omega)).trans ((Below.heap_alloc _ _ _ (by omega)).trans (uh R4))
  have k5:Kept wd.heap.size wd w5:=((uh K4).alloc (by omega) _).trans (.of (hp5.below (by omega)))
  have HSM:=hide (same_go w0.heap.size w5 n a ((uh HPA).kept k5))
  have hc7:w5.cell? ⟨a.p,7,none⟩=some (.bool false):=(((uh HPA).kept k5).c 7).trans rfl
  have HE:=hide (slEnd.of (uh HPD) hn (uh HKD) k5)
  clear hp5 k5 K4 R4
  refine (uh HSM).mono ?_
  rintro _ wq ⟨rfl,hwq⟩
  obtain rfl:w5=wq:=hwq.symm
  clear hwq
  go_wp2_with (first
   | (refine wpList_load_row_g (by rfl) 29 _ rfl w2.heap.size rfl 29 (brow D) (0,0) _ q1 Tryz.underlying29 rfl (row_info hDl) ?_)
   | (refine wpList_load_row_g (by rfl) 29 _ rfl w4.heap.size rfl 29 (brow D) (0,0) _ q2 Tryz.underlying29 rfl (row_info hDl) ?_))
  go_ret
  exact uh HE
 have h4I:(o.kind==4)=false:=by simpa using h4
 by_cases h5:o.kind=5
 ·have h5I:(o.kind==5)=true:=by simpa using h5
  obtain ⟨la,lc,hlv,_,hla⟩:=own_len (uh HPA).row
  obtain ⟨ra,rc,hrv,_,hra⟩:=own_len (uh HPA).rs.row
  have hs0:0<a.g.SL.length:=by
   obtain ⟨k,hk,_⟩:=(uh HPA).bnd.ok.most
   rw [← (uh HPA).v.snk] at hk
   obtain ⟨e,he,_⟩:=List.mem_map.1 hk
   exact List.length_pos_of_mem he
  have hlen1:a.g.SL.length≤a.rSL.length:=by
   have h1:=congrArg List.length (uh HPA).sx
   have h2:=congrArg List.length (uh HPA).v.snk
   simp only [List.length_map] at h1 h2
   omega
  have hf4:a.g.SL.length≤4:=by have:=(uh HPA).bnd.few;rw [← (uh HPA).v.snk,List.length_map] at this;exact this
  obtain ⟨lb,hlb⟩:=hla hs0
  obtain ⟨rb,hrb⟩:=hra (by omega)
  subst hlb hrb
  have HLV:=hide hlv
  have HRV:=hide hrv
  have HCP:=hide (show ∀ W:World,W.heap[a.p]?=some (.cells a.cells 102 (0,0))→W.cell? ⟨a.p,2,none⟩=some (.slice (some ⟨lb,0,none⟩) a.g.SL.length lc)∧W.cell? ⟨a.p,6,none⟩=some (.slice (some ⟨rb,0,none⟩) a.rSL.length rc) from fun W hW=>⟨by rw [cell_of_row _ _ _ _ _ _ hW,← uh HLV];rfl,by rw [cell_of_row _ _ _ _ _ _ hW,← uh HRV];rfl⟩)
  clear hlv hrv hla hra
  go_upto_region 22 with fail
  refine wp_region_held_drew (S:=fun W=>W.cell? ⟨bx,2,none⟩=some (.int .i64 o.a)∧W.cell? ⟨a.p,2,none⟩=some (.slice (some ⟨lb,0,none⟩) a.g.SL.length lc)) (by kernel_rfl) (⟨(uh HCB wd.drew (uh HBD)).2.2.1,(uh HCP wd.drew (uh HPA).at').1⟩) (fun hHeld=>?_)
  refine tkP 0 (some 128) (.pointer (some ⟨bx,2,none⟩)) (by kernel_rfl) (fun _ _ _ h=>h) (fun _ _=>by kernel_rfl) hHeld ?_
  simp only [zz0,zz1,zz2]
  refine tkG 1 (some 129) (.load 3 (.tmp 128)) 3 none (.int .i64 o.a) (by kernel_rfl) (fun _ _ _ h=>h) (Or.inl ⟨by kernel_rfl,fun W hW=>by simp [execOp,go_sem,hW.1]⟩) hHeld ?_
  simp only [zz0,zz1,zz2]
  refine tkL 3 [(2,some 130,.pointer (some ⟨a.p,0,none⟩)),(3,some 131,.pointer (some ⟨a.p,0,none⟩)),(4,some 132,.pointer (some ⟨a.p,2,none⟩))] (by kernel_rfl) (fun _ _ _ _ _ h=>h) (fun _ _=>by kernel_rfl) hHeld ?_
  simp only [zz0,zz1,zz2,zz4,zz5]
  refine tkG 5 (some 133) (.load 33 (.tmp 132)) 33 none (.slice (some ⟨lb,0,none⟩) a.g.SL.length lc) (by kernel_rfl) (fun _ _ _ h=>h) (Or.inl ⟨by kernel_rfl,fun W hW=>by simp [execOp,go_sem,hW.2]⟩) hHeld ?_
  simp only [zz0,zz1,zz2]
  refine tkG 6 (some 134) (.call { callee:=.builtin .len,args:=#[.tmp 133],argTypes:=#[33] }) 3 none (.int .i64 (a.g.SL.length:Int)) (by kernel_rfl) (fun _ _ _ h=>h) (Or.inl ⟨by kernel_rfl,fun W hW=>by go_simp⟩) hHeld ?_
  simp only [zz0,zz1,zz2]
  refine rd1 7 (some 135) (.call { callee:=.value (.func 52),args:=#[.tmp 129,.tmp 134],argTypes:=#[3,3] }) 3 (by kernel_rfl) (fun K hK=>?_)
  go_simp
  refine (lawpick_go o.a a.g.SL.length wd.drew hoa.1 hoa.2 hs0 (by omega)).mono ?_
  rintro _ _ ⟨⟨k,hk,rfl⟩,rfl⟩
  show K _ wd.drew
  refine hK.out _ _ (⟨(uh HCB wd.drew (uh HBD)).2.2.1,(uh HCP wd.drew (uh HPA).at').1⟩) (fun hHeld7=>?_)
  clear hK K
  try simp only [zz0,zz1,zz2]
  refine tkP 8 (some 13) (.int .i64 (k:Int)) (by kernel_rfl) (fun _ _ _ h=>h) (fun _ _=>by kernel_rfl) hHeld7 ?_
  simp only [zz0,zz1,zz2]
  refine wpAnyH_done (by kernel_rfl) ?_ _
  have HPE:=hide (show PAt w0.heap.size wd.drew n a from (uh HPA).kept ((Kept.refl _ _).draws 1))
  have HPDE:=hide (show PW w0.heap.size wd.drew wp (.slice (some ⟨pb,0,none⟩) A.length pc) n A from (uh HPD).kept ((Kept.refl _ _).draws 1))
  have HKE:=hide (show Kept w0.heap.size w0 wd.drew from (uh HKD).draws 1)
  have HBE:=hide (show wd.drew.heap[bx]?=some (.cells o.cells 67 (0,0)) from uh HBD)
  generalize wd.drew=we at *
  have hk2:k<a.rSL.length:=by omega
  have hq:we.cell? ⟨lb,k,none⟩=some (.pointer (some ⟨a.g.SL[k].p,0,none⟩)):=by
   have hrow:=(uh HPE).row
   rw [uh HLV] at hrow
   obtain ⟨g',c',e1,e2⟩:=own_cell hrow hk
   cases e1
   rw [e2,List.getD_eq_getElem?_getD,pcells,List.getElem?_map,List.getElem?_map,List.getElem?_eq_getElem hk];rfl
  have hze:w0.heap.size≤we.heap.size:=(uh HKE).size
  have HTP:=hide (show TyAt we a.p 102 from ⟨_,(uh HPE).at'⟩)
  have HTL:=hide (show TyAt we lb 41 from own_ty (uh HPE).row (by rw [uh HLV];rfl))
  have HTR:=hide (show TyAt we rb 103 from own_ty (uh HPE).rs.row (by rw [uh HRV];rfl))
  have HTB:=hide (show TyAt we bx 67 from ⟨_,uh HBE⟩)
  go_upto_region 23 with fail
  refine wp_region_held_drew (S:=fun W=>W.cell? ⟨a.p,2,none⟩=some (.slice (some ⟨lb,0,none⟩) a.g.SL.length lc)∧W.cell? ⟨lb,k,none⟩=some (.pointer (some ⟨a.g.SL[k].p,0,none⟩))∧W.cell? ⟨bx,6,none⟩=some (.slice xa o.l.length xc)) (by kernel_rfl) (⟨(uh HCP we.drew (uh HPE).at').1,hq,(uh HCB we.drew (uh HBE)).2.2.2.2.2.2⟩) (fun hHeld=>?_)
  refine tkL 3 [(0,some 136,.pointer (some ⟨a.p,0,none⟩)),(1,some 137,.pointer (some ⟨a.p,0,none⟩)),(2,some 138,.pointer (some ⟨a.p,2,none⟩))] (by kernel_rfl) (fun _ _ _ _ _ h=>h) (fun _ _=>by kernel_rfl) hHeld ?_
  simp only [zz0,zz1,zz2,zz4,zz5]
  refine tkG 3 (some 139) (.load 33 (.tmp 138)) 33 none (.slice (some ⟨lb,0,none⟩) a.g.SL.length lc) (by kernel_rfl) (fun _ _ _ h=>h) (Or.inl ⟨by kernel_rfl,fun W hW=>by simp [execOp,go_sem,hW.1]⟩) hHeld ?_
  simp only [zz0,zz1,zz2]
  refine tkP 4 (some 140) (.int .i64 (k:Int)) (by kernel_rfl) (fun _ _ _ h=>h) (fun _ _=>by kernel_rfl) hHeld ?_
  simp only [zz0,zz1,zz2]
  refine tkG 5 (some 141) (.indexAddr 33 (.tmp 139) (.tmp 140)) 0 none (.pointer (some ⟨lb,k,none⟩)) (by kernel_rfl) (fun _ _ _ h=>h) (yieldsIf_index (by kernel_rfl) 33 (.tmp 139) (.tmp 140) rfl (index33 lb k a.g.SL.length lc hk) (by kernel_rfl) (by kernel_rfl)) hHeld ?_
  simp only [zz0,zz1,zz2]
  refine tkG 6 (some 142) (.load 41 (.tmp 141)) 41 none (.pointer (some ⟨a.g.SL[k].p,0,none⟩)) (by kernel_rfl) (fun _ _ _ h=>h) (Or.inl ⟨by kernel_rfl,fun W hW=>by simp [execOp,go_sem,hW.2.1]⟩) hHeld ?_
  simp only [zz0,zz1,zz2]
  refine tkP 7 (some 143) (.pointer (some ⟨bx,6,none⟩)) (by kernel_rfl) (fun _ _ _ h=>h) (fun _ _=>by kernel_rfl) hHeld ?_
  simp only [zz0,zz1,zz2]
  refine tkG 8 (some 144) (.load 38 (.tmp 143)) 38 none (.slice xa o.l.length xc) (by kernel_rfl) (fun _ _ _ h=>h) (Or.inl ⟨by kernel_rfl,fun W hW=>by simp [execOp,go_sem,hW.2.2]⟩) hHeld ?_
  simp only [zz0,zz1,zz2]
  refine rd1 9 (some 145) (.call { callee:=.value (.func 19),args:=#[.tmp 142,.tmp 144],argTypes:=#[41,38] }) 0 (by kernel_rfl) (fun K hK=>?_)
  go_simp
  have HPE':=hide (show PAt w0.heap.size we.drew n a from (uh HPE).kept ((Kept.refl _ _).draws 1))
  have hsk:=((uh HPE').v.log.snk.each _ (List.getElem_mem hk)).1
  refine (fail_go w0.heap.size we.drew a.g.SL[k].p a.g.SL[k].v a.g.SL[k].x (.slice xa o.l.length xc) o.l hsk (by show w0.heap.size≤we.heap.size;omega) (by omega) (by rw [← uh HOV];exact (uh HISL).kept ((uh HKE).draws 1)) (fun hp e=>by
   rw [← uh HOV] at e
   have h1:=uh HXB hp _ e
   have h2:=(wayS w0.heap.size 81 (by decide)).big ((uh HPE').v.log.snk.each _ (List.getElem_mem hk))
   omega)).mono ?_
  rintro _ w2 ⟨rfl,v2,hs2,hu2⟩
  have hp2:w2.heap[a.p]?=some (.cells a.cells 102 (0,0)):=(hu2.apart hsk (k:=a.p) (uh HTP) (by decide)).trans (uh HPE).at'
  have hb2:w2.heap[bx]?=some (.cells o.cells 67 (0,0)):=(hu2.apart hsk (k:=bx) (uh HTB) (by decide)).trans (uh HBE)
  have hl2:w2.cell? ⟨lb,k,none⟩=some (.pointer (some ⟨a.g.SL[k].p,0,none⟩)):=(World.cell?_of_block (hu2.apart hsk (k:=lb) (uh HTL) (by decide))).trans hq
  have HF2:=hide (And.intro hs2 hu2)
  have hz2:=hu2.size
  have HTP2:=hide (show TyAt w2 a.p 102 from ⟨_,hp2⟩)
  have HTB2:=hide (show TyAt w2 bx 67 from ⟨_,hb2⟩)
  have HTR2:=hide (show TyAt w2 rb 103 from by
   obtain ⟨cs,hcs⟩:=uh HTR
   exact ⟨cs,(hu2.apart hsk (k:=rb) (uh HTR) (by decide)).trans hcs⟩)
  have HP2:=hide hp2
  have HB2:=hide hb2
  have HK2:=hide (show Kept w0.heap.size w0 w2 from ((uh HKE).draws 1).trans (hu2.keptB (by show w0.heap.size≤we.heap.size;omega) ((wayS w0.heap.size 81 (by decide)).big ((uh HPE').v.log.snk.each _ (List.getElem_mem hk))) fun k hk=>(hsk.own.lt k hk).1))
  clear hs2 hu2 hsk
  show K _ w2
  refine hK.out _ _ (⟨(uh HCP w2 hp2).1,hl2,(uh HCB w2 hb2).2.2.2.2.2.2⟩) (fun hHeld9=>?_)
  clear hK K
  try simp only [zz0,zz1,zz2]
  refine wpAnyH_done (by kernel_rfl) ?_ _
  clear hp2 hb2 hl2
  have HS2:=hide (show RS w0.heap.size w2 a.rv a.rSL from by
   obtain ⟨g',_,_,_,hc,_⟩:=(uh HPE').v.failed hk (uh HF2).1 (uh HF2).2
   exact (uh HPE').rs.stay fun k hk=>hc.block k ((uh HPE').foot (.inr (.inr (.inr (.inr hk))))).1 fun e=>(uh HPE').d2 k e (.inr hk))
  have hr:w2.cell? ⟨rb,k,none⟩=some (.pointer (some ⟨a.rSL[k].p,0,none⟩)):=by
   have hrow:=(uh HS2).row
   rw [uh HRV] at hrow
   obtain ⟨g',c',e1,e2⟩:=own_cell hrow hk2
   cases e1
   rw [e2,List.getD_eq_getElem?_getD,List.getElem?_map,List.getElem?_eq_getElem hk2];rfl
  go_upto_region 24 with fail
  refine wp_region_held_drew (S:=fun W=>W.cell? ⟨a.p,6,none⟩=some (.slice (some ⟨rb,0,none⟩) a.rSL.length rc)∧W.cell? ⟨rb,k,none⟩=some (.pointer (some ⟨a.rSL[k].p,0,none⟩))∧W.cell? ⟨bx,6,none⟩=some (.slice xa o.l.length xc)) (by kernel_rfl) (⟨(uh HCP w2.drew (uh HP2)).2,hr,(uh HCB w2.drew (uh HB2)).2.2.2.2.2.2⟩) (fun hHeld=>?_)
  refine tkL 3 [(0,some 146,.pointer (some ⟨a.p,0,none⟩)),(1,some 147,.pointer (some ⟨a.p,0,none⟩)),(2,some 148,.pointer (some ⟨a.p,6,none⟩))] (by kernel_rfl) (fun _ _ _ _ _ h=>h) (fun _ _=>by kernel_rfl) hHeld ?_
  simp only [zz0,zz1,zz2,zz4,zz5]
  refine tkG 3 (some 149) (.load 100 (.tmp 148)) 100 none (.slice (some ⟨rb,0,none⟩) a.rSL.length rc) (by kernel_rfl) (fun _ _ _ h=>h) (Or.inl ⟨by kernel_rfl,fun W hW=>by simp [execOp,go_sem,hW.1]⟩) hHeld ?_
  simp only [zz0,zz1,zz2]
  refine tkP 4 (some 150) (.int .i64 (k:Int)) (by kernel_rfl) (fun _ _ _ h=>h) (fun _ _=>by kernel_rfl) hHeld ?_
  simp only [zz0,zz1,zz2]
  refine tkG 5 (some 151) (.indexAddr 100 (.tmp 149) (.tmp 150)) 0 none (.pointer (some ⟨rb,k,none⟩)) (by kernel_rfl) (fun _ _ _ h=>h) (yieldsIf_index (by kernel_rfl) 100 (.tmp 149) (.tmp 150) rfl (index100 rb k a.rSL.length rc hk2) (by kernel_rfl) (by kernel_rfl)) hHeld ?_
  simp only [zz0,zz1,zz2]
  refine tkG 6 (some 152) (.load 103 (.tmp 151)) 103 none (.pointer (some ⟨a.rSL[k].p,0,none⟩)) (by kernel_rfl) (fun _ _ _ h=>h) (Or.inl ⟨by kernel_rfl,fun W hW=>by simp [execOp,go_sem,hW.2.1]⟩) hHeld ?_
  simp only [zz0,zz1,zz2]
  refine tkP 7 (some 153) (.pointer (some ⟨bx,6,none⟩)) (by kernel_rfl) (fun _ _ _ h=>h) (fun _ _=>by kernel_rfl) hHeld ?_
  simp only [zz0,zz1,zz2]
  refine tkG 8 (some 154) (.load 38 (.tmp 153)) 38 none (.slice xa o.l.length xc) (by kernel_rfl) (fun _ _ _ h=>h) (Or.inl ⟨by kernel_rfl,fun W hW=>by simp [execOp,go_sem,hW.2.2]⟩) hHeld ?_
  simp only [zz0,zz1,zz2]
  refine rd1 9 (some 155) (.call { callee:=.value (.func 56),args:=#[.tmp 152,.tmp 154],argTypes:=#[103,38] }) 0 (by kernel_rfl) (fun K hK=>?_)
  go_simp
  have hsk:=((uh HS2).snk.each _ (List.getElem_mem hk2)).1
  refine (fail_ref w0.heap.size w2.drew a.rSL[k].p a.rSL[k].v a.rSL[k].x (.slice xa o.l.length xc) o.l (hsk.kept ((Kept.refl _ _).draws 1)) (by show w0.heap.size≤w2.heap.size;have:=(uh HK2).size;omega) (by omega) (by rw [← uh HOV];exact (uh HISL).kept ((uh HK2).draws 1)) (fun hp e=>by
   rw [← uh HOV] at e
   have h1:=uh HXB hp _ e
   have h2:=(wayS w0.heap.size 105 (by decide)).big ((uh HS2).snk.each _ (List.getElem_mem hk2))
   omega)).mono ?_
  rintro _ w3 ⟨rfl,v3,hs3,hu3'⟩
  have hu3:Upd a.rSL[k].p a.rSL[k].v v3 w2 w3:=⟨hu3'.os,hu3'.output,hu3'.size,hu3'.block,hu3'.new⟩
  have hp3:w3.heap[a.p]?=some (.cells a.cells 102 (0,0)):=(hu3.apart hsk (k:=a.p) (uh HTP2) (by decide)).trans (uh HP2)
  have hb3:w3.heap[bx]?=some (.cells o.cells 67 (0,0)):=(hu3.apart hsk (k:=bx) (uh HTB2) (by decide)).trans (uh HB2)
  have hl3:w3.cell? ⟨rb,k,none⟩=some (.pointer (some ⟨a.rSL[k].p,0,none⟩)):=(World.cell?_of_block (hu3.apart hsk (k:=rb) (uh HTR2) (by decide))).trans hr
  have HE:=hide (slEnd.upd (n:=n) (show PW w0.heap.size we.drew wp (.slice (some ⟨pb,0,none⟩) A.length pc) n A from (uh HPDE).kept ((Kept.refl _ _).draws 1)) hn ((uh HKE).draws 1) hai (show ptEnd w0.heap.size we.drew (n+1) a w3 from ((uh HPE').up (Nat.le_succ n) hn).fail hk hk2 (by omega) (uh HF2).1 (uh HF2).2 hs3 hu3))
  clear hs3 hu3 hu3' hsk
  show K _ w3
  refine hK.out _ _ (⟨(uh HCP w3 hp3).2,hl3,(uh HCB w3 hb3).2.2.2.2.2.2⟩) (fun hHeld9=>?_)
  clear hK K
  try simp only [zz0,zz1,zz2]
  refine wpAnyH_done (by kernel_rfl) ?_ _
  clear hp3 hb3 hl3
  go_wp2_with fail
  go_ret
  exact uh HE
 have h5I:(o.kind==5)=false:=by simpa using h5
 have h6I:(o.kind==6)=false:=beq_eq_false_iff_ne.2 (by omega)
 have h7I:(o.kind==7)=false:=beq_eq_false_iff_ne.2 (by omega)
 have h8I:(o.kind==8)=false:=beq_eq_false_iff_ne.2 (by omega)
 have HE:=hide (slEnd.of (uh HPD) hn (uh HKD) (Kept.refl _ _))
 go_wp2_with fail
 go_ret
 exact uh HE
end Go.Proofs.YtlbacbcenejngaaGreatDoor
namespace Go.Proofs.YtlbacbcenejngaaGreatDoor
open Go.RowKit
def oq0:Oq:=⟨0,0,0,0,.empty,.empty,.slice none 0 0,[]⟩
structure ScrO (w:World) (v:Value) (l:List Oq):Prop where
  val:∃ a cap,v=.slice a l.length cap∧(0<l.length→∃ b o,a=some ⟨b,o,none⟩∧b<w.heap.size∧∀ i,i<l.length→w.rangeAt b (o+i*7) (l.getD i oq0).cells.toList)
  each:∀ i,i<l.length→OqIn w (l.getD i oq0)
  len:l.length≤1048576
theorem info67:(Tryz.prog.info? 67).map (·.size)=some 7:=by kernel_rfl
theorem Oq.one {o:Oq} (h:∃ a n c,o.lv=.slice a n c):o.cells.all (·.oneCell')=true:=by
  obtain ⟨a,n,c,h⟩:=h
  simp [Oq.cells,h,Value.oneCell']
theorem root_ok:openB ((2:Nat):Int) ⟨#[114,111,111,116]⟩=true:=by decide
theorem PW.nil {w:World} {B:Nat} (hB:B≤w.heap.size):PW B (w.alloc (.cells #[.slice none 0 0] 64)) w.heap.size (.slice none 0 0) 0 [] :=
  ⟨heap_alloc_new _ _,World.ownsRow_nil _ _ _ _,fun _i _a h=>(nomatch h),fun _i _j _a _b _ h=>(nomatch h),fun _i _a h=>(nomatch h),hB⟩
set_option maxRecDepth 100000 in
set_option maxHeartbeats 4000000 in
theorem plays_go (w:World) (v:Value) (l:List Oq) (h:ScrO w v l) (hT:Table w) (hz:0<w.heap.size) :
    Calls Tryz.prog 9 #[v,.int .i64 5] w fun e w'=>e=.returned (.bool true)∧Kept w.heap.size w w':=by
  obtain ⟨av,cv,rfl,hav⟩:=h.val
  have hln:=h.len
  have HE:=hide h.each
  have HV:=hide hav
  have HT:=hide hT
  obtain ⟨w1,hw1⟩:∃ w1,w1=w.alloc (.cells #[.slice none 0 0] 64):=⟨_,rfl⟩
  have HP1:=hide (show PW w.heap.size w1 w.heap.size (.slice none 0 0) 0 [] by rw [hw1];exact PW.nil (Nat.le_refl _))
  have hk1:Kept w.heap.size w w1:=by rw [hw1];exact (Kept.refl _ _).alloc (Nat.le_refl _) _
  have hz1:=hk1.size
  have HO:=hide (show Calls Tryz.prog 25 #[.pointer (some ⟨w.heap.size,0,none⟩),.int .i64 2,.string ⟨#[107,101,121]⟩,.string ⟨#[114,111,111,116]⟩,.int .i64 (-1)] w1 _ from openedL_go w.heap.size w1 w.heap.size (.slice none 0 0) 0 [] 2 ⟨#[107,101,121]⟩ ⟨#[114,111,111,116]⟩ (uh HP1) (by decide) (by decide) (by decide) hz1 (hT.kept hk1 hz) (by omega) (by decide) (by decide))
  have HK1:=hide hk1
  clear h hav hT hk1 HP1
  go_enter Tryz.func9,Tryz.ntmps9
  go_upto_region 2 with fail
  rw [← hw1]
  clear hw1
  obtain ⟨wp,hwp⟩:∃ wp,wp=w.heap.size:=⟨_,rfl⟩
  have HWP:=hide hwp
  rw [show (some (⟨w.heap.size,0,none⟩:Addr))=some ⟨wp,0,none⟩ by rw [hwp]] at HO ⊢
  clear hwp
  go_wp2_with fail
  refine (uh HO).mono ?_
  rintro _ w2 ⟨rfl,pl2,A2,hp2,_,hl2,hr2,hc2⟩
  have hA2:=hr2 root_ok
  have HST:=hide (show ∃ pl A,PW w.heap.size w2 wp pl 0 A∧0<A.length∧A.length≤0+1∧Kept w.heap.size w w2 from ⟨pl2,A2,by rw [uh HWP];exact hp2,by rw [hA2];exact Nat.succ_pos _,hl2,(uh HK1).trans (hc2.keptB hz1 fun k hk e=>by
    rcases e with e | e
    · omega
    · cases e)⟩)
  clear hp2 hl2 hr2 hc2 hA2 HO
  go_wp2_with fail
  go_loopw [7] (fun vi wr=>∃ i:Nat,i≤l.length∧vi=.int .i64 i∧∃ pl A,PW w.heap.size wr wp pl i A∧0<A.length∧A.length≤i+1∧Kept w.heap.size w wr) (fun vi _=>l.length-(intOf vi).toNat)
  case atStart=>exact ⟨0,Nat.zero_le _,rfl,uh HST⟩
  case round =>
    clear HST
    obtain ⟨i,hi,rfl,pl,A,hp,hA0,hA1,hkr⟩:=hrel
    have HP:=hide hp
    have HKR:=hide hkr
    have hzr:=hkr.size
    clear hp hkr
    by_cases hlt:i<l.length
    · obtain ⟨b,o',rfl,hbw,hrg⟩:=uh HV (by omega)
      have hiI:(i:Int)<(l.length:Int):=by omega
      have hi0:(0:Int)≤(i:Int):=by omega
      have HA:=hide (uh HE i hlt)
      have hr0:wr.rangeAt b (o'+i*7) (l.getD i oq0).cells.toList:=range_kept (hrg i hlt) (uh HKR) hbw
      clear hrg
      generalize l.getD i oq0=c at HA hr0
      have hi67:(Tryz.prog.info? 67).map (·.size)=some c.cells.toList.length:=info67
      have hone:c.cells.all (·.oneCell')=true:=Oq.one (uh HA).isl.slice
      go_upto_region 9 with (first
        | (refine wpList_load_mid rfl 67 (.tmp 23) rfl b (o'+i*7) ?_ c.cells.toList _ hr0 Tryz.underlying67 rfl hi67 ?_
           · rfl)
        | (refine wpList_store_put rfl 67 (.tmp 8) (.tmp 24) rfl wr.heap.size c.cells rfl rfl 67 _ (heap_alloc_new _ _) info67 rfl hone ?_;intro wb hpb))
      have hkb:Kept wr.heap.size wr wb:=((Kept.refl _ _).alloc (Nat.le_refl _) _).trans (Kept.of (hpb.below (Nat.le_refl _)))
      have hrow:wb.heap[wr.heap.size]?=some (.cells c.cells 67 (0,0)):=hpb.row
      have HPB:=hide ((uh HP).kept hkb)
      have HKB:=hide ((uh HKR).trans (hkb.mono hzr))
      have hck:wb.cell? ⟨wr.heap.size,0,none⟩=some (.int .i64 c.kind):=by rw [cell_of_row _ _ _ _ _ _ hrow];rfl
      clear hpb hkb hr0
      by_cases hk:5<c.kind
      · go_wp2_with fail
        go_roundw
        case rel=>exact ⟨i+1,by omega,by go_num,pl,A,(uh HPB).up (Nat.le_succ i) (by omega),hA0,by omega,uh HKB⟩
        case measure=>simp [intOf];omega
      · have hc3:wb.cell? ⟨wr.heap.size,3,none⟩=some (.int .i64 c.b):=by rw [cell_of_row _ _ _ _ _ _ hrow];rfl
        have hf3:wb.frozen? ⟨wr.heap.size,3,none⟩=false:=frozen_of_row _ _ _ _ _ hrow
        obtain ⟨d,hd⟩:∃ d:Oq,d={ c with b:=-1 }:=⟨_,rfl⟩
        obtain ⟨wc,hwc⟩:∃ wc,wc=wb.setCell ⟨wr.heap.size,3,none⟩ (.int .i64 (-1)):=⟨_,rfl⟩
        have hrc:wc.heap[wr.heap.size]?=some (.cells d.cells 67 (0,0)):=by rw [hwc,heap_setCell_same _ _ _ _ _ _ hrow,hd];rfl
        have hlt0:=fun k hk=>((uh HP).lt (k:=k) hk).1
        have HPC:=hide (show PW w.heap.size wc wp pl i A by
          rw [hwc]
          exact (uh HPB).stay (fun k hk=>heap_setCell_other _ _ _ _ (by have:=hlt0 k hk;show k≠wr.heap.size;omega)) fun j a hj k hk=>heap_setCell_other _ _ _ _ (by have:=(((uh HP).each j a hj).foot hk).1;show k≠wr.heap.size;omega))
        have HKC:=hide (show Kept w.heap.size w wc by rw [hwc];exact (uh HKB).setCell (p:=⟨wr.heap.size,3,none⟩) hzr _)
        have HIN:=hide (show OqIn w d by rw [hd];exact ⟨(uh HA).kind,(uh HA).on,(uh HA).a,(uh HA).s,(uh HA).t,(uh HA).isl,(uh HA).len⟩)
        have HSP:=hide (stepL_go w wc wp pl i A d (uh HPC) hA0 (by omega) (by omega) (uh HIN) (by rw [hd];show c.kind≤5;omega) (by rw [hd]) (uh HKC) (uh HT) hz)
        clear hlt0 hd hrow
        go_upto_region 12 with fail
        rw [← hwc]
        clear hwc hc3 hf3 hck
        go_wp2_with (refine wpList_load_row rfl 67 (.tmp 8) rfl wr.heap.size rfl 67 d.cells (0,0) _ hrc Tryz.underlying67 rfl info67 ?_)
        refine (uh HSP).mono ?_
        rintro _ w5 ⟨rfl,pl5,A5,hp5,h51,h52,hk5⟩
        have H5:=hide (And.intro hp5 hk5)
        clear hp5 hk5
        go_wp2_with fail
        go_roundw
        case rel=>exact ⟨i+1,by omega,by go_num,pl5,A5,(uh H5).1,by omega,by omega,(uh H5).2⟩
        case measure=>simp [intOf];omega
    · have hiI:¬ (i:Int)<(l.length:Int):=by omega
      go_wp2_with fail
      go_ret
      exact ⟨rfl,uh HKR⟩
set_option maxRecDepth 100000 in
theorem works_law (v:Value) (l:List Oq) (w:World) (h:ScrO w v l) (hT:Table w) (hz:0<w.heap.size) :
    Calls Tryz.prog 3 #[v] w fun e w'=>e=.returned (.bool true)∧Kept w.heap.size w w':=by
  obtain ⟨av,cv,hv,_⟩:=h.val
  have HP:=hide (plays_go w v l h hT hz)
  subst hv
  clear h hT
  go_enter Tryz.func3,Tryz.ntmps3
  go_wp2_with fail
  refine (uh HP).mono ?_
  rintro _ w2 ⟨rfl,hk⟩
  have HK:=hide hk
  clear hk HP
  go_wp2_with fail
  go_ret
  exact ⟨rfl,uh HK⟩
end Go.Proofs.YtlbacbcenejngaaGreatDoor
