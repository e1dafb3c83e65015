/-
  Wn Wo Wp Wq
-/
import Derived.Test.YtlbacbcenejngaaGreatDoorV02
import Derived.Test.YtlbacbcenejngaaGreatDoorV43
import Derived.Test.YtlbacbcenejngaaGreatDoorV28
import Derived.Test.YtlbacbcenejngaaGreatDoorV40
namespace Go.Proofs.YtlbacbcenejngaaGreatDoor
open Go.RowKit
theorem wp_store_150 {w:World} {o:Oper} {a:Act} {K:Act→World→Prop} {Q:Exit→Act→World→Prop} (x y:Operand) (ho:o.op=.store 150 x y) (p:Addr) (hx:a.eval x=.pointer (some p)) {sa:Option Addr} {sn sc:Nat} (hy:a.eval y=.slice sa sn sc) (u:Value) (hc:w.cell? p=some u) (hf:w.frozen? p=false) (h:K (a.put o.dst undef) (w.setCell p (.slice sa sn sc))):o.wp Tryz.prog a w K Q:=by
 have hu:=Tryz.underlying150
 unfold Oper.wp execOp
 simp only [ho,hx,hy]
 go_simp
 exact h
set_option maxRecDepth 100000 in
set_option maxHeartbeats 4000000 in
theorem put_ref (B:Nat) (w:World) (rp:Nat) (g:RG) (key root:ByteArray) (secs:List Sc) (toks:List (ByteArray × Tok)) (E:List ByteArray) (H:List Nat) (r:Pq) (h:RVAt B w rp g key root secs toks E H) (hl:secs.length≤1000) (ho:∀ c∈secs,ScOk c) (hB:B≤w.heap.size) :
  Calls Tryz.prog 151 #[.pointer (some ⟨rp,0,none⟩),.agg r.cells] w (rEnd B w rp g key root secs E H (putA (PSc secs) r.path r.value).1 (putA (PSc secs) r.path r.value).2 toks):=by
 obtain ⟨w1,hw1⟩:∃ w1,w1=w.alloc (.cells r.cells 223):=⟨_,rfl⟩
 have hbx:w1.heap[w.heap.size]?=some (.cells r.cells 223 (0,0)):=by rw [hw1];exact heap_alloc_new _ _
 have HK1:=hide (show Kept w.heap.size w w1 by rw [hw1];exact (Kept.refl _ _).alloc (Nat.le_refl _) _)
 have hz1:w.heap.size<w1.heap.size:=(Array.getElem?_eq_some_iff.1 hbx).1
 have H0:=hide h
 have H1:=hide (h.keep (uh HK1))
 have hc2:w1.cell? ⟨w.heap.size,2,none⟩=some (.string r.path):=by rw [cell_of_row _ _ _ _ _ _ hbx];rfl
 have hrp:w1.cell? ⟨rp,2,none⟩=some g.sv:=((uh H1).c 2).trans rfl
 obtain ⟨ta,tc,htv,htc,htg⟩:=own_len h.sec
 have HTV:=hide htv
 rw [htv] at hrp
 have HO:=hide ho
 have HBX:=hide hbx
 have HSAME:=hide (show ∀ W a,Kept w.heap.size w W→putA (PSc secs) r.path r.value=(a,PSc secs)→rEnd B w rp g key root secs E H (putA (PSc secs) r.path r.value).1 (putA (PSc secs) r.path r.value).2 toks (.returned (.string a)) W from fun W a hk he=>by
  rw [he]
  exact ⟨rfl,g,secs,h.keep hk,rfl,rfl,rfl,hk.chg.mono fun _ _ e=>e.elim,fun k hk=>.inl hk⟩)
 clear h hbx ho htv htg
 go_enter Tryz.func151,Tryz.ntmps151
 go_upto_region 1 with fail
 rw [← hw1]
 clear hw1
 go_wp2_with fail
 refine (secret_ref B w1 rp g key root secs toks E H r.path (uh H1) hl).mono ?_
 rintro _ wq ⟨⟨x,rfl,hx⟩,hwq⟩
 obtain rfl:w1=wq:=hwq.symm
 clear hwq
 have HIX:=hide (show Ix ((PSc secs).map (·.1)) r.path x by rw [psc_names];exact hx)
 go_upto_region 2 with fail
 go_cut [13] (fun v wx=>v=.bool (decide (x<0))∧wx=w1)
 case first =>
  go_wp2_with fail
  go_meet
  case rel=>exact ⟨rfl,rfl⟩
 case rest =>
  obtain ⟨rfl,hwc⟩:=hcut
  obtain rfl:w1=wc:=hwc.symm
  clear hwc
  rename_i K1 hK1 K2 hK2
  refine hK2 _ _ ?_
  clear hK2 K2
  go_cut [5] (fun v wx=>∃ i c g1 secs1,v=.int .i64 ((i:Nat):Int)∧PutM B w rp g key root secs toks E H r i c g1 secs1 wx)
  case first =>
   clear hK1
   have hlI:(secs.length:Int)≤1000:=by omega
   rcases hx with ⟨i,rfl,hi,_⟩ | ⟨rfl,_⟩
   ·obtain ⟨c,hci⟩:∃ c,secs[i]?=some c:=by
     rw [List.getElem?_map] at hi
     obtain ⟨c,hc,_⟩:=Option.map_eq_some_iff.1 hi
     exact ⟨c,hc⟩
    have hcm:=List.mem_of_getElem? hci
    have HP:=hide (show PutM B w rp g key root secs toks E H r i c g secs w1 from by
     refine ⟨uh H1,hci,?_,(uh HO c hcm).next,(uh HO c hcm).len,by omega,uh HBX,(uh HK1).chg.mono fun _ _ e=>e.elim,fun k hk=>.inl hk,fun k hk=>.inl hk,rfl,rfl,?_⟩
     ·rw [List.getElem?_map,hci] at hi
      exact Option.some.inj hi
     ·rcases uh HIX with ⟨j,e,h1,h2⟩ | ⟨e,_⟩
      ·obtain rfl:i=j:=by omega
       obtain ⟨a,b1,b2,b3,_⟩:=ix_found _ _ h1 h2
       rw [List.getElem?_map,hci] at b1
       have:=Option.some.inj b1
       have e2:lk r.path (PSc secs)=some c.pth:=by rw [b2,← (Prod.mk.inj this).2]
       unfold putA
       rw [e2]
       dsimp only
       rw [b3]
      ·omega)
    have hxf:decide ((i:Int)<0)=false:=decide_eq_false (by omega)
    rw [hxf]
    clear hi hci hcm HIX hxf
    go_wp2_with fail
    go_meet
    case rel=>exact ⟨i,c,g,secs,rfl,uh HP⟩
   ·have HNO:=hide (show lk r.path (PSc secs)=none∧∀ v,putM r.path v (PSc secs)=PSc secs++[(r.path,v)] from by
     rcases uh HIX with ⟨j,e,_,_⟩ | ⟨_,h2⟩
     ·omega
     ·exact ix_none h2)
    have hxf:decide ((-1:Int)<0)=true:=rfl
    rw [hxf]
    clear HIX hxf
    by_cases h8:16≤secs.length
    ·have HA:=hide (show putA (PSc secs) r.path r.value=(bs [5],PSc secs) by unfold putA;rw [(uh HNO).1];exact if_pos (by rw [List.length_map];exact h8))
     have h8I:(16:Int)≤(secs.length:Int):=by omega
     have HON:=hide (one_ref 5 w1 (by decide))
     go_wp2_with fail
     refine (uh HON).mono ?_
     rintro _ w5 ⟨rfl,hk5⟩
     have HK5:=hide ((uh HK1).trans (hk5.mono (by omega)))
     clear hk5
     go_wp2_with fail
     go_ret
     exact uh HSAME _ _ (uh HK5) (uh HA)
    ·have h8I:¬ (16:Int)≤(secs.length:Int):=by omega
     have HA:=hide (show putA (PSc secs) r.path r.value=(bs [0,1],PSc secs++[(r.path,⟨2,[(1,r.value)]⟩)]) by unfold putA;rw [(uh HNO).1];dsimp only;rw [if_neg (by rw [List.length_map];exact h8),(uh HNO).2])
     obtain ⟨n0,hn0⟩:∃ n0:Sc,n0=⟨r.path,⟨1,[]⟩,.slice none 0 0⟩:=⟨_,rfl⟩
     have hcell:n0.cell.toArray=#[.string r.path,.int .i64 1,.slice none 0 0]:=by rw [hn0];rfl
     have hrpl:=((uh H0).foot (.inl rfl)).1
     have HRB:=hide (show ∀ W,Chg (fun k=>g.sv.ownBlock=some k) w1 W→∀ k,k=rp∨k=w.heap.size→W.heap[k]?=w1.heap[k]? from fun W hc k hk=>by
      rcases hk with rfl | rfl
      ·exact hc.block _ (by omega) fun e=>(uh H0).ne (uh H0).sec (by decide) e rfl
      ·exact hc.block _ hz1 fun e=>by have:=((uh H0).sec.lt _ e).2;omega)
     have HSS:=hide (show ∀ W:World,(∀ k,k=rp∨k=w.heap.size→W.heap[k]?=w1.heap[k]?)→W.cell? ⟨rp,2,none⟩=some (.slice ta secs.length tc)∧W.cell? ⟨w.heap.size,2,none⟩=some (.string r.path) from fun W hW=>⟨(World.cell?_of_block (hW _ (.inl rfl))).trans hrp,(World.cell?_of_block (hW _ (.inr rfl))).trans hc2⟩)
     have HTK:=hide (uh H1).sec
     rw [uh HTV] at HTK
     go_upto_region 5 with fail
     clear hc2
     have HCA:=hide (show ∀ O,Chg (fun k=>g.sv.ownBlock=some k) w1 (w1.drew.alloc O) from fun O=>⟨rfl,rfl,by simp,fun k hk _=>Below.heap_alloc _ _ _ hk⟩)
     have d1a:=(uh HSS w1.drew (fun k _=>rfl)).1
     have d2:=uh HSS (w1.drew.alloc (.cells #[.string r.path,.int .i64 1,.slice none 0 0] 248)) (uh HRB _ (uh HCA _))
     have d2a:=d2.1
     have HD2:=hide d2.2
     have d2c:(w1.alloc (.cells #[.string r.path,.int .i64 1,.slice none 0 0] 248)).drew.cell? ⟨rp,2,none⟩=some (.slice ta secs.length tc):=d2a
     clear d2
     have HSRC:=hide (show ∀ j u,([n0].flatMap Sc.cell)[j]?=some u→(w1.drew.alloc (.cells #[.string r.path,.int .i64 1,.slice none 0 0] 248)).cell? ((⟨w1.heap.size,0,none⟩:Addr).add j)=some u from fun j u hu=>by
      rw [add_addr,Nat.zero_add]
      show (w1.drew.alloc (.cells #[.string r.path,.int .i64 1,.slice none 0 0] 248)).cell? ⟨w1.drew.heap.size,j,none⟩=some u
      rw [cell_of_row _ _ _ _ _ _ (heap_alloc_new w1.drew _),← hcell,List.getElem?_toArray]
      simpa using hu)
     have hone:∀ u∈[n0].flatMap Sc.cell,u.oneCell'=true:=oneSec (l:=[n0]) fun c hc=>by
      rw [List.mem_singleton] at hc
      subst hc;subst hn0
      exact ⟨none,0,0,rfl⟩
     have HN0:=hide hn0
     clear hn0 hcell
     refine wp_region_held_drew (S:=fun W=>W.cell? ⟨w.heap.size,2,none⟩=some (.string r.path)) (by kernel_rfl) ((uh HSS w1.drew (fun k _=>rfl)).2) (fun hHeld=>?_)
     refine tkL 5 [(0,some 21,.pointer (some ⟨rp,0,none⟩)),(1,some 22,.pointer (some ⟨rp,0,none⟩)),(2,some 23,.pointer (some ⟨rp,0,none⟩)),(3,some 24,.pointer (some ⟨rp,2,none⟩)),(5,some 26,.pointer (some ⟨w.heap.size,2,none⟩))] (by kernel_rfl) (fun _ _ _ _ _ h=>h) (fun _ _=>by kernel_rfl) hHeld ?_
     simp only [zz0,zz1,zz2,zz4,zz5]
     refine tkG 6 (some 27) (.load 9 (.tmp 26)) 9 none (.string r.path) (by kernel_rfl) (fun _ _ _ h=>h) (Or.inl ⟨by kernel_rfl,fun W hW=>by simp [execOp,go_sem,hW]⟩) hHeld ?_
     simp only [zz0,zz1,zz2]
     refine tkG 7 (some 28) (.build 248 #[(0,.tmp 27),(1,.const (.int .i64 1))]) 248 none (.agg #[.string r.path,.int .i64 1,.slice none 0 0]) (by kernel_rfl) (fun _ _ _ h=>h) (Or.inl ⟨by kernel_rfl,fun W hW=>by go_simp⟩) hHeld ?_
     simp only [zz0,zz1,zz2]
     refine wpAnyH_ready (rs:=[4,8]) (by kernel_rfl) (by simp) ?_
     refine rdX (some 25) (.load 150 (.tmp 24)) 150 none (by kernel_rfl) (fun K hK=>?_) (rdX (some 29) (.buildSlice 150 1 #[(0,.tmp 28)]) 150 none (by kernel_rfl) (fun K hK=>?_) AllReadyH.nil)
     ·refine ite_wanted ?_ ?_
      ·kernel_rfl
      go_simp
      show K _ w1.drew
      refine hK.out _ _ ((uh HSS w1.drew (fun k _=>rfl)).2) (fun hHeld4=>?_)
      clear hK K
      try simp only [zz0,zz1,zz2]
      refine rd1 8 (some 29) (.buildSlice 150 1 #[(0,.tmp 28)]) 150 (by kernel_rfl) (fun K hK=>?_)
      go_simp
      show K _ (w1.drew.alloc (.cells #[.string r.path,.int .i64 1,.slice none 0 0] 248))
      refine hK.out _ _ (uh HD2) (fun hHeld8=>?_)
      clear hK K
      try simp only [zz0,zz1,zz2]
      refine rd1 9 (some 30) (.call { callee:=.builtin .append,args:=#[.tmp 25,.tmp 29],argTypes:=#[150,150] }) 150 (by kernel_rfl) (fun K hK=>?_)
      refine wp_append_all wideSec (.tmp 25) (.tmp 29) rfl B (.slice ta secs.length tc) secs [n0] (by kernel_rfl) ((uh HTK).drew.alloc _) ⟨w1.heap.size,0,none⟩ 1 (by kernel_rfl) (uh HSRC) hone (by simp;omega) (by simp;have:=(uh HK1).size;omega) ?_
      intro v' w2 ho2 hg2 hb2
      obtain ⟨va,vc,hv',_,_⟩:=own_len ho2
      have HC2:=hide (show Chg (fun k=>g.sv.ownBlock=some k) w1 w2 from (uh HCA _).trans ⟨hg2.os,hg2.output,hg2.size,fun k hk hn=>hg2.block k hk fun e=>hn (by rw [uh HTV];exact e.symm)⟩)
      have HVB:=hide (show ∀ k,v'.ownBlock=some k→g.sv.ownBlock=some k∨w1.heap.size≤k from fun k hk=>by
       rcases hb2 with e | e
       ·exact .inl (by rw [uh HTV,← e];exact hk)
       ·rw [e] at hk
        simp at hk
        exact .inr (by omega))
      have HPT:=hide ((uh H1).putSec (uh HC2) ho2 (uh HVB) fun c hc=>by
       rcases List.mem_append.1 hc with hc | hc
       ·exact .inl hc
       ·rw [List.mem_singleton] at hc
        rw [hc,uh HN0]
        exact .inr ⟨rfl,rfl⟩)
      subst hv'
      clear ho2 hg2 hb2
      refine hK.out _ _ ((uh HSS _ (uh HRB _ (uh HC2))).2) (fun hHeld9=>?_)
      clear hK K
      try simp only [zz0,zz1,zz2]
      refine tkL 2 [(10,some 31,.pointer (some ⟨rp,0,none⟩)),(11,some 32,.pointer (some ⟨rp,2,none⟩))] (by kernel_rfl) (fun _ _ _ _ _ h=>h) (fun _ _=>by kernel_rfl) hHeld9 ?_
      simp only [zz0,zz1,zz2,zz4,zz5]
      refine rd1 12 none (.store 150 (.tmp 32) (.tmp 30)) 0 (by kernel_rfl) (fun K hK=>?_)
      refine wp_store_150 (sa:=va) (sn:=(secs++[n0]).length) (sc:=vc) (.tmp 32) (.tmp 30) rfl ⟨rp,2,none⟩ (by kernel_rfl) (by kernel_rfl) (.slice ta secs.length tc) (uh HSS _ (uh HRB _ (uh HC2))).1 (frozen_of_row _ _ _ _ _ ((uh HRB _ (uh HC2) rp (.inl rfl)).trans (uh H1).at')) ?_
      have HBXX:=hide (show (w2.setCell ⟨rp,2,none⟩ (.slice va (secs++[n0]).length vc)).heap[w.heap.size]?=some (.cells r.cells 223 (0,0)) from (heap_setCell_other _ _ _ _ (by show w.heap.size≠rp;omega)).trans ((uh HRB _ (uh HC2) _ (.inr rfl)).trans (uh HBX)))
      refine hK.out _ _ (by rw [cell_of_row _ _ _ _ _ _ (uh HBXX)];rfl) (fun hHeld12=>?_)
      clear hK K
      try simp only [zz3]
      refine wpAnyH_done (by kernel_rfl) ?_ _
      have HP:=hide (show PutM B w rp g key root secs toks E H r secs.length n0 { g with sv:=.slice va (secs++[n0]).length vc } (secs++[n0]) (w2.setCell ⟨rp,2,none⟩ (.slice va (secs++[n0]).length vc)) from by
       refine ⟨(uh HPT).1,by simp,by rw [uh HN0],by rw [uh HN0];show (1:Nat)≤1000;omega,by rw [uh HN0];show (0:Nat)≤1000;omega,by simp;omega,uh HBXX,((uh HK1).chg.mono (S':=Rwr rp g) fun _ _ e=>e.elim).trans (uh HPT).2.1,fun k hk=>((uh HPT).2.2 k hk).imp id fun e=>by omega,fun k hk=>(uh HVB k hk).imp id fun e=>by omega,rfl,rfl,?_⟩
       rw [uh HA,uh HN0,if_neg (by show ¬ 20<1;omega)]
       refine Prod.ext rfl ?_
       show _=(List.map _ (secs++[_])).set secs.length _
       rw [List.map_append,List.set_append_right _ _ (by rw [List.length_map];exact Nat.le_refl _),List.length_map,Nat.sub_self]
       rfl)
      have hcR:(w2.setCell ⟨rp,2,none⟩ (.slice va (secs++[n0]).length vc)).cell? ⟨rp,2,none⟩=some (.slice va (secs++[n0]).length vc):=((uh HPT).1.c 2).trans rfl
      have hln:((secs++[n0]).length:Int)-1=(secs.length:Int):=by rw [List.length_append];show ((secs.length+1:Nat):Int)-1=_;omega
      have hlm:(secs++[n0]).length≤1001:=by rw [List.length_append];show secs.length+1≤1001;omega
      generalize w2.setCell ⟨rp,2,none⟩ (.slice va (secs++[n0]).length vc)=w3 at HPT HP HBXX hcR ⊢
      clear HPT HBXX HSS HRB HTK HCA HD2 HSRC HC2 HVB d1a d2a d2c hone hrp hrpl
      have HPQ:=hide (show ∃ i c g1 secs1,(secs.length:Int)=((i:Nat):Int)∧PutM B w rp g key root secs toks E H r i c g1 secs1 w3 from ⟨_,_,_,_,rfl,uh HP⟩)
      clear HP
      generalize (secs++[n0]).length=ln at *
      go_wp2_with fail
      go_meet
      case rel =>
       obtain ⟨i,c,g1,secs1,e1,e2⟩:=uh HPQ
       refine ⟨i,c,g1,secs1,?_,e2⟩
       rw [← e1,← hln]
     ·refine ite_wanted ?_ ?_
      ·kernel_rfl
      go_simp
      show K _ (w1.drew.alloc (.cells #[.string r.path,.int .i64 1,.slice none 0 0] 248))
      refine hK.out _ _ (uh HD2) (fun hHeld8=>?_)
      clear hK K
      try simp only [zz3]
      refine rd1 4 (some 25) (.load 150 (.tmp 24)) 150 (by kernel_rfl) (fun K hK=>?_)
      go_simp
      show K _ (w1.drew.alloc (.cells #[.string r.path,.int .i64 1,.slice none 0 0] 248))
      refine hK.out _ _ (uh HD2) (fun hHeld4=>?_)
      clear hK K
      try simp only [zz0,zz1,zz2]
      refine rd1 9 (some 30) (.call { callee:=.builtin .append,args:=#[.tmp 25,.tmp 29],argTypes:=#[150,150] }) 150 (by kernel_rfl) (fun K hK=>?_)
      refine wp_append_all wideSec (.tmp 25) (.tmp 29) rfl B (.slice ta secs.length tc) secs [n0] (by kernel_rfl) ((uh HTK).drew.alloc _) ⟨w1.heap.size,0,none⟩ 1 (by kernel_rfl) (uh HSRC) hone (by simp;omega) (by simp;have:=(uh HK1).size;omega) ?_
      intro v' w2 ho2 hg2 hb2
      obtain ⟨va,vc,hv',_,_⟩:=own_len ho2
      have HC2:=hide (show Chg (fun k=>g.sv.ownBlock=some k) w1 w2 from (uh HCA _).trans ⟨hg2.os,hg2.output,hg2.size,fun k hk hn=>hg2.block k hk fun e=>hn (by rw [uh HTV];exact e.symm)⟩)
      have HVB:=hide (show ∀ k,v'.ownBlock=some k→g.sv.ownBlock=some k∨w1.heap.size≤k from fun k hk=>by
       rcases hb2 with e | e
       ·exact .inl (by rw [uh HTV,← e];exact hk)
       ·rw [e] at hk
        simp at hk
        exact .inr (by omega))
      have HPT:=hide ((uh H1).putSec (uh HC2) ho2 (uh HVB) fun c hc=>by
       rcases List.mem_append.1 hc with hc | hc
       ·exact .inl hc
       ·rw [List.mem_singleton] at hc
        rw [hc,uh HN0]
        exact .inr ⟨rfl,rfl⟩)
      subst hv'
      clear ho2 hg2 hb2
      refine hK.out _ _ ((uh HSS _ (uh HRB _ (uh HC2))).2) (fun hHeld9=>?_)
      clear hK K
      try simp only [zz0,zz1,zz2]
      refine tkL 2 [(10,some 31,.pointer (some ⟨rp,0,none⟩)),(11,some 32,.pointer (some ⟨rp,2,none⟩))] (by kernel_rfl) (fun _ _ _ _ _ h=>h) (fun _ _=>by kernel_rfl) hHeld9 ?_
      simp only [zz0,zz1,zz2,zz4,zz5]
      refine rd1 12 none (.store 150 (.tmp 32) (.tmp 30)) 0 (by kernel_rfl) (fun K hK=>?_)
      refine wp_store_150 (sa:=va) (sn:=(secs++[n0]).length) (sc:=vc) (.tmp 32) (.tmp 30) rfl ⟨rp,2,none⟩ (by kernel_rfl) (by kernel_rfl) (.slice ta secs.length tc) (uh HSS _ (uh HRB _ (uh HC2))).1 (frozen_of_row _ _ _ _ _ ((uh HRB _ (uh HC2) rp (.inl rfl)).trans (uh H1).at')) ?_
      have HBXX:=hide (show (w2.setCell ⟨rp,2,none⟩ (.slice va (secs++[n0]).length vc)).heap[w.heap.size]?=some (.cells r.cells 223 (0,0)) from (heap_setCell_other _ _ _ _ (by show w.heap.size≠rp;omega)).trans ((uh HRB _ (uh HC2) _ (.inr rfl)).trans (uh HBX)))
      refine hK.out _ _ (by rw [cell_of_row _ _ _ _ _ _ (uh HBXX)];rfl) (fun hHeld12=>?_)
      clear hK K
      try simp only [zz3]
      refine wpAnyH_done (by kernel_rfl) ?_ _
      have HP:=hide (show PutM B w rp g key root secs toks E H r secs.length n0 { g with sv:=.slice va (secs++[n0]).length vc } (secs++[n0]) (w2.setCell ⟨rp,2,none⟩ (.slice va (secs++[n0]).length vc)) from by
       refine ⟨(uh HPT).1,by simp,by rw [uh HN0],by rw [uh HN0];show (1:Nat)≤1000;omega,by rw [uh HN0];show (0:Nat)≤1000;omega,by simp;omega,uh HBXX,((uh HK1).chg.mono (S':=Rwr rp g) fun _ _ e=>e.elim).trans (uh HPT).2.1,fun k hk=>((uh HPT).2.2 k hk).imp id fun e=>by omega,fun k hk=>(uh HVB k hk).imp id fun e=>by omega,rfl,rfl,?_⟩
       rw [uh HA,uh HN0,if_neg (by show ¬ 20<1;omega)]
       refine Prod.ext rfl ?_
       show _=(List.map _ (secs++[_])).set secs.length _
       rw [List.map_append,List.set_append_right _ _ (by rw [List.length_map];exact Nat.le_refl _),List.length_map,Nat.sub_self]
       rfl)
      have hcR:(w2.setCell ⟨rp,2,none⟩ (.slice va (secs++[n0]).length vc)).cell? ⟨rp,2,none⟩=some (.slice va (secs++[n0]).length vc):=((uh HPT).1.c 2).trans rfl
      have hln:((secs++[n0]).length:Int)-1=(secs.length:Int):=by rw [List.length_append];show ((secs.length+1:Nat):Int)-1=_;omega
      have hlm:(secs++[n0]).length≤1001:=by rw [List.length_append];show secs.length+1≤1001;omega
      generalize w2.setCell ⟨rp,2,none⟩ (.slice va (secs++[n0]).length vc)=w3 at HPT HP HBXX hcR ⊢
      clear HPT HBXX HSS HRB HTK HCA HD2 HSRC HC2 HVB d1a d2a d2c hone hrp hrpl
      have HPQ:=hide (show ∃ i c g1 secs1,(secs.length:Int)=((i:Nat):Int)∧PutM B w rp g key root secs toks E H r i c g1 secs1 w3 from ⟨_,_,_,_,rfl,uh HP⟩)
      clear HP
      generalize (secs++[n0]).length=ln at *
      go_wp2_with fail
      go_meet
      case rel =>
       obtain ⟨i,c,g1,secs1,e1,e2⟩:=uh HPQ
       refine ⟨i,c,g1,secs1,?_,e2⟩
       rw [← e1,← hln]
  case rest =>
   obtain ⟨i,c,g1,secs1,rfl,hm⟩:=hcut
   have HM:=hide hm
   have hil:=(List.getElem?_eq_some_iff.1 hm.is).1
   have hall:=hm.all
   have hnext:=hm.next
   have hvl:=hm.len
   obtain ⟨sb,scap,hsv,hsb,hcs⟩:=own_wide (f:=Sc.cell) (z:=3) (fun _=>rfl) hm.at'.sec hm.is
   obtain ⟨lo,lcap,hLv,_,_⟩:=own_len (hm.at'.ver c (List.mem_of_getElem? hm.is))
   have HSV:=hide hsv
   have HLV:=hide hLv
   have hrpc:wc.cell? ⟨rp,2,none⟩=some (.slice (some ⟨sb,0,none⟩) secs1.length scap):=((hm.at'.c 2).trans rfl).trans (congrArg some hsv)
   have hs0:wc.cell? ⟨sb,i*3,none⟩=some (.string c.name):=hcs 0 (by decide)
   have hs1:wc.cell? ⟨sb,i*3+1,none⟩=some (.int .i64 (c.pth.next:Int)):=hcs 1 (by decide)
   have hs2:wc.cell? ⟨sb,i*3+2,none⟩=some (.slice lo c.pth.vers.length lcap):=(hcs 2 (by decide)).trans (congrArg some hLv)
   have hi0:(0:Int)≤(i:Int):=by omega
   have hiI:(i:Int)<(secs1.length:Int):=by omega
   have HCS:=hide hcs
   clear hm hx HIX hcs hsv hLv hrp hc2
   go_upto_region 8 with fail
   obtain ⟨w4,hw4⟩:∃ w4,w4=wc.alloc (Obj.cells #[Value.string c.name,Value.int IntKind.i64 (c.pth.next:Int),Value.slice lo c.pth.vers.length lcap] 248):=⟨_,rfl⟩
   have hb4:w4.heap[wc.heap.size]?=some (.cells #[Value.string c.name,Value.int IntKind.i64 (c.pth.next:Int),Value.slice lo c.pth.vers.length lcap] 248 (0,0)):=by rw [hw4];exact heap_alloc_new _ _
   have HK4:=hide (show Kept wc.heap.size wc w4 by rw [hw4];exact (Kept.refl _ _).alloc (Nat.le_refl _) _)
   rw [← hw4]
   clear hw4 hrpc hs0 hs1 hs2
   have hz4:wc.heap.size<w4.heap.size:=(Array.getElem?_eq_some_iff.1 hb4).1
   have hwz:w.heap.size<wc.heap.size:=(Array.getElem?_eq_some_iff.1 (uh HM).box).1
   have hd0:w4.cell? ⟨wc.heap.size,0,none⟩=some (.string c.name):=by rw [cell_of_row _ _ _ _ _ _ hb4];rfl
   have hd1:w4.cell? ⟨wc.heap.size,1,none⟩=some (.int .i64 (c.pth.next:Int)):=by rw [cell_of_row _ _ _ _ _ _ hb4];rfl
   have hd2:w4.cell? ⟨wc.heap.size,2,none⟩=some (.slice lo c.pth.vers.length lcap):=by rw [cell_of_row _ _ _ _ _ _ hb4];rfl
   have HB4:=hide hb4
   clear hb4
   by_cases hfull:20<c.pth.next
   ·have HA:=hide ((uh HM).eq.trans (if_pos hfull))
    have hfI:(20:Int)<(c.pth.next:Int):=by omega
    have HON:=hide (one_ref 5 w4 (by decide))
    clear hfull hd0 hd2
    go_wp2_with fail
    refine (uh HON).mono ?_
    rintro _ w5 ⟨rfl,hk5⟩
    have HK5:=hide ((uh HK4).trans (hk5.mono (by omega)))
    clear hk5
    go_wp2_with fail
    go_ret
    rw [uh HA]
    exact ⟨rfl,g1,secs1,(uh HM).at'.keep (uh HK5),rfl,(uh HM).lv,(uh HM).hv,(uh HM).chg.trans ((uh HK5).chg.mono fun _ _ e=>e.elim),(uh HM).ft⟩
   ·have HA:=hide ((uh HM).eq.trans (if_neg hfull))
    have hfI:¬ (20:Int)<(c.pth.next:Int):=by omega
    have HVR:=hide (own_kept ((uh HM).at'.ver c (List.mem_of_getElem? (uh HM).is)) (uh HK4))
    have hB4:B≤w4.heap.size:=by have:=(uh HK4).size;omega
    have HSA:=hide (src_own (uh HVR))
    rw [uh HLV] at HSA
    go_upto_region 12 with (at_builtin;refine wpList_append_all wideVer rfl (.tmp 50) (.tmp 52) rfl B (.slice none 0 0) [] c.pth.vers rfl (World.ownsRow_nil _ _ _ _) (.slice lo c.pth.vers.length lcap) rfl (uh HSA) (oneVer _) (by simp;omega) hB4 ?_;intro v1 w5 ho1 hg1 hb1)
    rw [List.nil_append] at ho1
    have HK5:=hide (show Kept wc.heap.size wc w5 from (uh HK4).trans ((show Kept w4.heap.size w4 w5 from ⟨hg1.os,hg1.output,hg1.size,fun k hk=>hg1.block k hk (by simp [Value.ownBlock])⟩).mono (by omega)))
    have HV1:=hide (show ∀ k,v1.ownBlock=some k→w4.heap.size≤k from fun k hk=>by
     rcases hb1 with e | e
     ·rw [e] at hk;cases hk
     ·rw [e] at hk;simp at hk;omega)
    have HO1:=hide ho1
    obtain ⟨va,vc,hv1,_,_⟩:=own_len ho1
    subst hv1
    have hkd:∀ j,w5.cell? ⟨wc.heap.size,j,none⟩=w4.cell? ⟨wc.heap.size,j,none⟩:=fun j=>World.cell?_of_block (hg1.block _ hz4 (by simp [Value.ownBlock]))
    have hd0':w5.cell? ⟨wc.heap.size,0,none⟩=some (.string c.name):=(hkd 0).trans hd0
    have hd1':w5.cell? ⟨wc.heap.size,1,none⟩=some (.int .i64 (c.pth.next:Int)):=(hkd 1).trans hd1
    have hz5:w4.heap.size≤w5.heap.size:=hg1.size
    have hbx3:w5.cell? ⟨w.heap.size,3,none⟩=some (.string r.value):=((uh HK5).cell (p:=⟨w.heap.size,3,none⟩) hwz).trans (by rw [cell_of_row _ _ _ _ _ _ (uh HM).box];rfl)
    have hB5:B≤w5.heap.size+1:=by omega
    clear hkd ho1 hg1 hb1 HSA hd0 hd1 hd2 HB4
    obtain ⟨n1,hn1⟩:∃ n1:Nat × ByteArray,n1=(c.pth.next,r.value):=⟨_,rfl⟩
    have HSB:=hide (show SrcAt vrcell (w5.alloc (.cells #[.int .i64 (c.pth.next:Int),.string r.value] 250)) (.slice (some ⟨w5.heap.size,0,none⟩) 1 1) [n1] by rw [hn1];exact src_new (f:=vrcell) w5 (c.pth.next,r.value) 250)
    have HN1:=hide hn1
    have HOA:=hide ((uh HO1).alloc (.cells #[.int .i64 (c.pth.next:Int),.string r.value] 250))
    have hB6:B≤(w5.alloc (.cells #[.int .i64 (c.pth.next:Int),.string r.value] 250)).heap.size:=by rw [World.size_alloc];exact hB5
    clear hn1
    go_upto_region 13 with (at_builtin;refine wpList_append_all wideVer rfl (.tmp 54) (.tmp 60) rfl B (.slice va c.pth.vers.length vc) c.pth.vers [n1] rfl (uh HOA) (.slice (some ⟨w5.heap.size,0,none⟩) 1 1) rfl (uh HSB) (oneVer _) (by simp;omega) hB6 ?_;intro v2 w6 ho2 hg2 hb2)
    have HK6:=hide (show Kept w5.heap.size w5 (w5.alloc (.cells #[.int .i64 (c.pth.next:Int),.string r.value] 250)) from (Kept.refl _ _).alloc (Nat.le_refl _) _)
    have h6z:w5.heap.size+1≤w6.heap.size:=by have:=hg2.size;rw [World.size_alloc] at this;exact this
    have hkb:∀ k,k<w4.heap.size→w6.heap[k]?=w5.heap[k]?:=fun k hk=>(hg2.block k (by rw [World.size_alloc];omega) (fun e=>by have:=uh HV1 k e.symm;omega)).trans ((uh HK6).block k (by omega))
    have HK7:=hide (show Kept wc.heap.size wc w6 from (uh HK5).trans ⟨hg2.os,hg2.output,by omega,fun k hk=>hkb k (by omega)⟩)
    have HV2:=hide (show ∀ k,v2.ownBlock=some k→w.heap.size≤k from fun k hk=>by
     rcases hb2 with e | e
     ·have:=uh HV1 k (e ▸ hk);omega
     ·rw [e] at hk;simp at hk;omega)
    have hd0:w6.cell? ⟨wc.heap.size,0,none⟩=some (.string c.name):=(World.cell?_of_block (hkb _ hz4)).trans hd0'
    have hd1:w6.cell? ⟨wc.heap.size,1,none⟩=some (.int .i64 (c.pth.next:Int)):=(World.cell?_of_block (hkb _ hz4)).trans hd1'
    have HR6:=hide ((uh HM).at'.keep (uh HK7))
    have hrp6:w6.cell? ⟨rp,2,none⟩=some (.slice (some ⟨sb,0,none⟩) secs1.length scap):=(((uh HR6).c 2).trans rfl).trans (congrArg some (uh HSV))
    obtain ⟨vb,vd,hv2,_,_⟩:=own_len ho2
    obtain ⟨m2,hm2⟩:∃ m2,m2=(c.pth.vers++[n1]).length:=⟨_,rfl⟩
    have HO2:=hide ho2
    rw [← hm2] at hv2
    subst hv2
    obtain ⟨c',hc'⟩:∃ c':Sc,c'=⟨c.name,⟨c.pth.next+1,c.pth.vers++[n1]⟩,.slice vb m2 vd⟩:=⟨_,rfl⟩
    have hsb6:sb<w6.heap.size:=by have:=(uh HK7).size;omega
    have HW6:=hide (show ∀ j,j<3→w6.drew.cell? ⟨sb,i*3+j,none⟩=c.cell[j]? from fun j hj=>((uh HK7).cell (p:=⟨sb,i*3+j,none⟩) hsb).trans (uh HCS j hj))
    have HFZ:=hide (show ∀ j,w6.drew.frozen? ⟨sb,j,none⟩=false from fun j=>by
     have:=(uh HR6).sec
     rw [uh HSV] at this
     exact this.frozenAt _)
    have HST:=hide ((uh HR6).setSec (c':=c') (uh HSV) (uh HM).is (by rw [hc'];exact uh HO2))
    have HDR:=hide (show ∀ W:World,RVAt B W rp g1 key root (secs1.set i c') toks E H∧Chg (fun k=>k=sb) w6 W→rEnd B w rp g key root secs E H (putA (PSc secs) r.path r.value).1 (putA (PSc secs) r.path r.value).2 toks (.returned (.string (bs [0,UInt8.ofNat c.pth.next]))) W from fun W hW=>by
     rw [uh HA]
     refine ⟨rfl,g1,_,hW.1,?_,(uh HM).lv,(uh HM).hv,(uh HM).chg.trans' (((uh HK7).chg.mono (S':=fun k=>k=sb) fun _ _ e=>e.elim).trans hW.2) ?_,fun k hk=>?_⟩
     ·show (secs1.set i c').map _=(PSc secs1).set i _
      rw [List.map_set,hc',(uh HM).name,uh HN1]
     ·rintro k hk rfl
      rcases (uh HM).sv k (by rw [uh HSV];rfl) with e | e
      ·exact .inr (.inl e)
      ·omega
     ·rcases hk with hk | hk | hk | hk | hk | ⟨c2,hc2,hk⟩
      ·exact (uh HM).ft k (.inl hk)
      ·exact (uh HM).ft k (.inr (.inl hk))
      ·exact (uh HM).ft k (.inr (.inr (.inl hk)))
      ·exact (uh HM).ft k (.inr (.inr (.inr (.inl hk))))
      ·exact (uh HM).ft k (.inr (.inr (.inr (.inr (.inl hk)))))
      ·rcases List.mem_or_eq_of_mem_set hc2 with hm | rfl
       ·exact (uh HM).ft k (.inr (.inr (.inr (.inr (.inr ⟨c2,hm,hk⟩)))))
       ·rw [hc'] at hk
        exact .inr (uh HV2 k hk))
    have hnw:IntKind.i64.wrap ((c.pth.next:Int)+1)=((c.pth.next+1:Nat):Int):=by
     have:((c.pth.next+1:Nat):Int)=(c.pth.next:Int)+1:=rfl
     rw [this]
     exact wrap_i64_s (by omega) (by omega)
    refine wp_region_held_drew (S:=fun W=>W.cell? ⟨wc.heap.size,0,none⟩=some (.string c.name)∧W.cell? ⟨wc.heap.size,1,none⟩=some (.int .i64 (c.pth.next:Int))∧W.cell? ⟨rp,2,none⟩=some (.slice (some ⟨sb,0,none⟩) secs1.length scap)) (by kernel_rfl) (⟨hd0,hd1,hrp6⟩) (fun hHeld=>?_)
    refine tkL 3 [(0,some 62,.pointer (some ⟨rp,0,none⟩)),(1,some 63,.pointer (some ⟨rp,0,none⟩)),(2,some 64,.pointer (some ⟨rp,2,none⟩))] (by kernel_rfl) (fun _ _ _ _ _ h=>h) (fun _ _=>by kernel_rfl) hHeld ?_
    simp only [zz0,zz1,zz2,zz4,zz5]
    refine tkG 3 (some 65) (.load 150 (.tmp 64)) 150 none (.slice (some ⟨sb,0,none⟩) secs1.length scap) (by kernel_rfl) (fun _ _ _ h=>h) (Or.inl ⟨by kernel_rfl,fun W hW=>by simp [execOp,go_sem,hW.2.2]⟩) hHeld ?_
    simp only [zz0,zz1,zz2]
    refine tkL 2 [(4,some 66,.int .i64 (i:Int)),(5,some 67,.pointer (some ⟨wc.heap.size,0,none⟩))] (by kernel_rfl) (fun _ _ _ _ _ h=>h) (fun _ _=>by kernel_rfl) hHeld ?_
    simp only [zz0,zz1,zz2,zz4,zz5]
    refine tkG 6 (some 68) (.load 9 (.tmp 67)) 9 none (.string c.name) (by kernel_rfl) (fun _ _ _ h=>h) (Or.inl ⟨by kernel_rfl,fun W hW=>by simp [execOp,go_sem,hW.1]⟩) hHeld ?_
    simp only [zz0,zz1,zz2]
    refine tkP 7 (some 69) (.pointer (some ⟨wc.heap.size,1,none⟩)) (by kernel_rfl) (fun _ _ _ h=>h) (fun _ _=>by kernel_rfl) hHeld ?_
    simp only [zz0,zz1,zz2]
    refine tkG 8 (some 70) (.load 3 (.tmp 69)) 3 none (.int .i64 (c.pth.next:Int)) (by kernel_rfl) (fun _ _ _ h=>h) (Or.inl ⟨by kernel_rfl,fun W hW=>by simp [execOp,go_sem,hW.2.1]⟩) hHeld ?_
    simp only [zz0,zz1,zz2]
    refine tkG 9 (some 71) (.binOp .add 3 (.tmp 70) (.const (.int .i64 1)) 3) 3 none (.int .i64 ((c.pth.next+1:Nat):Int)) (by kernel_rfl) (fun _ _ _ h=>h) (Or.inl ⟨by kernel_rfl,fun W hW=>by simp [execOp,go_sem,hnw]⟩) hHeld ?_
    simp only [zz0,zz1,zz2]
    refine tkP 10 (some 72) (.slice vb m2 vd) (by kernel_rfl) (fun _ _ _ h=>h) (fun _ _=>by kernel_rfl) hHeld ?_
    simp only [zz0,zz1,zz2]
    refine tkG 11 (some 73) (.build 248 #[(0,.tmp 68),(1,.tmp 71),(2,.tmp 72)]) 248 none (.agg #[.string c.name,.int .i64 ((c.pth.next+1:Nat):Int),.slice vb m2 vd]) (by kernel_rfl) (fun _ _ _ h=>h) (Or.inl ⟨by kernel_rfl,fun W hW=>by go_simp⟩) hHeld ?_
    simp only [zz0,zz1,zz2]
    refine tkG 12 (some 74) (.indexAddr 150 (.tmp 65) (.tmp 66)) 0 none (.pointer (some ⟨sb,i*3,none⟩)) (by kernel_rfl) (fun _ _ _ h=>h) (yieldsIf_index (by kernel_rfl) 150 (.tmp 65) (.tmp 66) rfl (index150 sb i secs1.length scap hil) (by kernel_rfl) (by kernel_rfl)) hHeld ?_
    simp only [zz0,zz1,zz2]
    refine rd1 13 none (.store 248 (.tmp 74) (.tmp 73)) 0 (by kernel_rfl) (fun K hK=>?_)
    refine wp_store_sec (s:=c.name) (n:=((c.pth.next+1:Nat):Int)) (sa:=vb) (sn:=m2) (sc:=vd) (.tmp 74) (.tmp 73) rfl sb (i*3) (by kernel_rfl) (by kernel_rfl) (fun j=>c.cell.getD j undef) (fun j hj=>(uh HW6 j hj).trans (by rcases j with _ | _ | _ | j <;> first | rfl | omega)) (uh HFZ) ?_
    have HS7:=hide (show RVAt B (((w6.drew.setCell ⟨sb,i*3,none⟩ (.string c.name)).setCell ⟨sb,i*3+1,none⟩ (.int .i64 ((c.pth.next+1:Nat):Int))).setCell ⟨sb,i*3+2,none⟩ (.slice vb m2 vd)) rp g1 key root (secs1.set i c') toks E H∧Chg (fun k=>k=sb) w6 (((w6.drew.setCell ⟨sb,i*3,none⟩ (.string c.name)).setCell ⟨sb,i*3+1,none⟩ (.int .i64 ((c.pth.next+1:Nat):Int))).setCell ⟨sb,i*3+2,none⟩ (.slice vb m2 vd)) from by
     have h7:=((uh HR6).keep (w':=w6.drew) ((Kept.refl _ _).draws 1)).setSec (c':=c') (uh HSV) (uh HM).is (by rw [hc'];exact own_kept (uh HO2) ((Kept.refl _ _).draws 1))
     rw [hc'] at h7 ⊢
     exact ⟨h7.1,⟨h7.2.os,h7.2.output,h7.2.size,h7.2.block⟩⟩)
    have HOT:=hide (show ∀ k,k≠sb→(((w6.drew.setCell ⟨sb,i*3,none⟩ (.string c.name)).setCell ⟨sb,i*3+1,none⟩ (.int .i64 ((c.pth.next+1:Nat):Int))).setCell ⟨sb,i*3+2,none⟩ (.slice vb m2 vd)).heap[k]?=w6.heap[k]? from fun k hk=>(heap_setCell_other _ _ _ _ hk).trans ((heap_setCell_other _ _ _ _ hk).trans (heap_setCell_other _ _ _ _ hk)))
    generalize ((w6.drew.setCell ⟨sb,i*3,none⟩ (.string c.name)).setCell ⟨sb,i*3+1,none⟩ (.int .i64 ((c.pth.next+1:Nat):Int))).setCell ⟨sb,i*3+2,none⟩ (.slice vb m2 vd)=w7 at HS7 HOT ⊢
    have e0:w7.cell? ⟨wc.heap.size,0,none⟩=some (.string c.name):=(World.cell?_of_block (uh HOT _ (by show wc.heap.size≠sb;omega))).trans hd0
    have e1:w7.cell? ⟨wc.heap.size,1,none⟩=some (.int .i64 (c.pth.next:Int)):=(World.cell?_of_block (uh HOT _ (by show wc.heap.size≠sb;omega))).trans hd1
    have e2:w7.cell? ⟨rp,2,none⟩=some (.slice (some ⟨sb,0,none⟩) secs1.length scap):=(((uh HS7).1.c 2).trans rfl).trans (congrArg some (uh HSV))
    refine hK.out _ _ (⟨e0,e1,e2⟩) (fun hHeld13=>?_)
    clear hK K
    try simp only [zz3]
    refine wpAnyH_done (by kernel_rfl) ?_ _
    clear e0 e2 hd0 hd1 hrp6 HOT hd0' hd1' hbx3
    have HO1':=hide (fun W=>one_ref 0 W (by decide))
    have HO2':=hide (fun W=>one_ref c.pth.next W (by omega))
    have HF:=hide (show bs [0,UInt8.ofNat c.pth.next]=bs [0]++bs [UInt8.ofNat c.pth.next] from rfl)
    rw [show bs [UInt8.ofNat 0]=bs [0] from rfl] at HO1'
    have z0:(bs [0]).size=1:=rfl
    have z1:(bs [UInt8.ofNat c.pth.next]).size=1:=bs_size _
    rw [uh HF] at HDR
    generalize bs [0]=X0 at *
    generalize bs [UInt8.ofNat c.pth.next]=X1 at *
    have n1':(9223372036854775807<X0.size+X1.size)=False:=eq_false (by omega)
    go_upto_region 14 with fail
    refine wp_region_held_drew (S:=fun W=>W.cell? ⟨wc.heap.size,1,none⟩=some (.int .i64 (c.pth.next:Int))) (by kernel_rfl) (e1) (fun hHeld=>?_)
    refine tkP 1 (some 76) (.pointer (some ⟨wc.heap.size,1,none⟩)) (by kernel_rfl) (fun _ _ _ h=>h) (fun _ _=>by kernel_rfl) hHeld ?_
    simp only [zz0,zz1,zz2]
    refine tkG 2 (some 77) (.load 3 (.tmp 76)) 3 none (.int .i64 (c.pth.next:Int)) (by kernel_rfl) (fun _ _ _ h=>h) (Or.inl ⟨by kernel_rfl,fun W hW=>by simp [execOp,go_sem,hW]⟩) hHeld ?_
    simp only [zz0,zz1,zz2]
    refine rd1 0 (some 75) (.call { callee:=.value (.func 121),args:=#[.const (.int .i64 0)],argTypes:=#[3] }) 9 (by kernel_rfl) (fun K hK=>?_)
    go_simp
    refine (uh HO1' w7.drew).mono ?_
    rintro _ w8 ⟨rfl,hk8⟩
    have HK8:=hide (show Kept w7.heap.size w7 w8 from ⟨hk8.os,hk8.output,hk8.size,hk8.block⟩)
    have e8:w8.cell? ⟨wc.heap.size,1,none⟩=some (.int .i64 (c.pth.next:Int)):=((uh HK8).cell (p:=⟨wc.heap.size,1,none⟩) (World.block_lt_of_cell? _ _ e1)).trans e1
    clear hk8
    show K _ w8
    refine hK.out _ _ (e8) (fun hHeld0=>?_)
    clear hK K
    try simp only [zz0,zz1,zz2]
    refine rd1 3 (some 78) (.call { callee:=.value (.func 121),args:=#[.tmp 77],argTypes:=#[3] }) 9 (by kernel_rfl) (fun K hK=>?_)
    go_simp
    refine (uh HO2' w8).mono ?_
    rintro _ w9 ⟨rfl,hk9⟩
    have HK9:=hide ((uh HK8).trans (hk9.mono (uh HK8).size))
    have e9:w9.cell? ⟨wc.heap.size,1,none⟩=some (.int .i64 (c.pth.next:Int)):=((uh HK9).cell (p:=⟨wc.heap.size,1,none⟩) (World.block_lt_of_cell? _ _ e1)).trans e1
    clear hk9
    show K _ w9
    refine hK.out _ _ (e9) (fun hHeld3=>?_)
    clear hK K
    try simp only [zz0,zz1,zz2]
    refine tkG 4 (some 79) (.binOp .add 9 (.tmp 75) (.tmp 78) 9) 9 none (.string (X0++X1)) (by kernel_rfl) (fun _ _ _ h=>h) (Or.inl ⟨by kernel_rfl,fun W hW=>by simp [execOp,go_sem,n1']⟩) hHeld3 ?_
    simp only [zz0,zz1,zz2]
    refine tkP 5 (some 4) (.string (X0++X1)) (by kernel_rfl) (fun _ _ _ h=>h) (fun _ _=>by kernel_rfl) hHeld3 ?_
    simp only [zz0,zz1,zz2]
    refine wpAnyH_done (by kernel_rfl) ?_ _
    have HE9:=hide (uh HDR w9 ⟨(uh HS7).1.keep (uh HK9),(uh HS7).2.trans ((uh HK9).chg.mono fun _ _ e=>e.elim)⟩)
    go_wp2_with fail
    go_ret
    exact uh HE9
end Go.Proofs.YtlbacbcenejngaaGreatDoor
namespace Go.Proofs.YtlbacbcenejngaaGreatDoor
open Go.RowKit
def lsP (p:ByteArray) (l:List (ByteArray × Pth)):List ByteArray:=l.foldl (fun acc c=>if hasPre c.1 p&&decide (c.2.vers.length≠0) then ins c.1 acc else acc) []
def lsS (p:ByteArray) (l:List Sc):List ByteArray:=l.foldl (fun acc c=>if hasPre c.name p&&decide (c.pth.vers.length≠0) then ins c.name acc else acc) []
theorem lsS_eq (p:ByteArray) (l:List Sc):lsS p l=lsP p (PSc l):=by rw [lsP,List.foldl_map];rfl
theorem lsS_snoc {p:ByteArray} {l:List Sc} {i:Nat} {c:Sc} (hi:l[i]?=some c):lsS p (l.take (i+1))=if hasPre c.name p&&decide (c.pth.vers.length≠0) then ins c.name (lsS p (l.take i)) else lsS p (l.take i):=by
 rw [lsS,List.take_add_one,List.foldl_append,hi]
 rfl
theorem fold_len (p:ByteArray):∀ (l:List Sc) (a:List ByteArray),(l.foldl (fun acc c=>if hasPre c.name p&&decide (c.pth.vers.length≠0) then ins c.name acc else acc) a).length≤a.length+l.length
 | [],a=>by simp
 | c::l,a=>by
  rw [List.foldl_cons,List.length_cons]
  have h1:=fold_len p l (if hasPre c.name p&&decide (c.pth.vers.length≠0) then ins c.name a else a)
  have h2:(if hasPre c.name p&&decide (c.pth.vers.length≠0) then ins c.name a else a).length≤a.length+1:=by
   split
   ·rw [ins_len];exact Nat.le_refl _
   ·omega
  omega
theorem lsS_len (p:ByteArray) (l:List Sc):(lsS p l).length≤l.length:=by have:=fold_len p l [];rwa [List.length_nil,Nat.zero_add] at this
theorem fold_mem (p n:ByteArray):∀ (l:List Sc) (a:List ByteArray),n∈l.foldl (fun acc c=>if hasPre c.name p&&decide (c.pth.vers.length≠0) then ins c.name acc else acc) a→n∈a∨∃ c∈l,n=c.name
 | [],a,h=>.inl h
 | c::l,a,h=>by
  rw [List.foldl_cons] at h
  rcases fold_mem p n l _ h with h | ⟨c2,h1,h2⟩
  ·split at h
   ·rcases mem_ins h with h | h
    ·exact .inr ⟨c,List.mem_cons_self ..,h⟩
    ·exact .inl h
   ·exact .inl h
  ·exact .inr ⟨c2,List.mem_cons_of_mem _ h1,h2⟩
theorem lsS_mem {p n:ByteArray} {l:List Sc} (h:n∈lsS p l):∃ c∈l,n=c.name:=(fold_mem p n l [] h).elim (fun h=>nomatch h) id
def listA (l:List (ByteArray × Pth)) (p:ByteArray):ByteArray:=bs (0::UInt8.ofNat (lsP p l).length::(lsP p l).flatMap fun n=>(txt n).data.toList)
def saidA (L:List ByteArray) (k:Nat):ByteArray:=bs (0::UInt8.ofNat L.length::(L.take k).flatMap fun n=>(txt n).data.toList)
theorem said_zero (L:List ByteArray):saidA L 0=bs [0]++bs [UInt8.ofNat L.length]:=rfl
theorem said_snoc {L:List ByteArray} {k:Nat} {n:ByteArray} (h:L[k]?=some n):saidA L (k+1)=saidA L k++bs [UInt8.ofNat n.size]++n:=by
 rw [ba_assoc,txt_eq,saidA,List.take_add_one,h]
 show bs (0::UInt8.ofNat L.length::_)=_
 rw [List.flatMap_append,← List.cons_append,← List.cons_append,bs_app]
 congr 1
 simp only [Option.toList_some,List.flatMap_cons,List.flatMap_nil,List.append_nil]
 exact bs_of _
theorem said_size {L:List ByteArray} (hL:∀ n∈L,n.size≤1000):∀ k,k≤L.length→(saidA L k).size≤2+k*1001
 | 0,_=>by rw [said_zero,ByteArray.size_append,bs_size,bs_size];exact Nat.le_refl _
 | k+1,h=>by
  have ih:=said_size hL k (by omega)
  have hk:L[k]?=some L[k]:=List.getElem?_eq_getElem (by omega)
  rw [said_snoc hk,ByteArray.size_append,ByteArray.size_append,bs_size]
  have:=hL L[k] (List.getElem_mem _)
  simp only [List.length_cons,List.length_nil]
  omega
theorem index82 (b i n cap:Nat) (h:i<n) (W:World):(Instr.indexAt 82 (.slice (some ⟨b,0,none⟩) n cap) (.int .i64 (i:Int))).run Tryz.prog W=.ok (.pointer (some ⟨b,i,none⟩)) W:=by
 have hu:=Tryz.underlying82
 have h1:(i:Int)<(n:Int):=by omega
 have h2:(0:Int)≤(i:Int):=by omega
 simp [Instr.indexAt,go_sem,h2]
 omega
set_option maxRecDepth 100000 in
set_option maxHeartbeats 4000000 in
theorem list_ref (B:Nat) (w:World) (rp:Nat) (g:RG) (key root:ByteArray) (secs:List Sc) (toks:List (ByteArray × Tok)) (E:List ByteArray) (H:List Nat) (r:Pq) (h:RVAt B w rp g key root secs toks E H) (hl:secs.length≤1000) (ho:∀ c∈secs,ScOk c) (hp:r.path.size≤1000) :
  Calls Tryz.prog 154 #[.pointer (some ⟨rp,0,none⟩),.agg r.cells] w fun e w'=>e=.returned (.string (listA (PSc secs) r.path))∧Kept w.heap.size w w':=by
 obtain ⟨w1,hw1⟩:∃ w1,w1=w.alloc (.cells r.cells 223):=⟨_,rfl⟩
 have hbx:w1.heap[w.heap.size]?=some (.cells r.cells 223 (0,0)):=by rw [hw1];exact heap_alloc_new _ _
 have HK1:=hide (show Kept w.heap.size w w1 by rw [hw1];exact (Kept.refl _ _).alloc (Nat.le_refl _) _)
 have hz1:w.heap.size<w1.heap.size:=(Array.getElem?_eq_some_iff.1 hbx).1
 have H1:=hide (h.keep (uh HK1))
 have hc2:w1.cell? ⟨w.heap.size,2,none⟩=some (.string r.path):=by rw [cell_of_row _ _ _ _ _ _ hbx];rfl
 have hrp:w1.cell? ⟨rp,2,none⟩=some g.sv:=((uh H1).c 2).trans rfl
 have hrpl:rp<w1.heap.size:=((uh H1).foot (.inl rfl)).1
 obtain ⟨ta,tc,htv,_,htg⟩:=own_len h.sec
 have HTV:=hide htv
 rw [htv] at hrp
 have HO:=hide ho
 clear h hbx ho htv
 go_enter Tryz.func154,Tryz.ntmps154
 go_upto_region 1 with fail
 rw [← hw1]
 clear hw1
 go_wp2_with fail
 go_loopw [6,5] (fun vi vl wr=>∃ i:Nat,i≤secs.length∧vi=.int .i64 i∧Nm w1 vl (lsS r.path (secs.take i)) wr) (fun vi _ _=>secs.length-(intOf vi).toNat)
 case atStart=>exact ⟨0,Nat.zero_le _,rfl,Nm.nil w1⟩
 case round =>
  obtain ⟨i,hi,rfl,hnm⟩:=hrel
  have HN:=hide hnm
  have hpr:wr.cell? ⟨rp,2,none⟩=some (.slice ta secs.length tc):=(hnm.kept.cell (p:=⟨rp,2,none⟩) hrpl).trans hrp
  have hcr:wr.cell? ⟨w.heap.size,2,none⟩=some (.string r.path):=(hnm.kept.cell (p:=⟨w.heap.size,2,none⟩) hz1).trans hc2
  have hwr:w1.heap.size≤wr.heap.size:=hnm.kept.size
  clear hnm
  by_cases hlt:i<secs.length
  ·obtain ⟨c,hci⟩:∃ c,secs[i]?=some c:=⟨_,List.getElem?_eq_getElem hlt⟩
   have hcm:=List.mem_of_getElem? hci
   have hiI:(i:Int)<(secs.length:Int):=by omega
   have hi0:(0:Int)≤(i:Int):=by omega
   obtain ⟨sb,scap,hsv,hsb,hcs⟩:=own_wide (f:=Sc.cell) (z:=3) (fun _=>rfl) ((uh H1).keep (uh HN).kept).sec hci
   obtain ⟨lo,lcap,hLv,_,_⟩:=own_len ((uh H1).ver c hcm)
   have hs0:wr.cell? ⟨sb,i*3,none⟩=some (.string c.name):=hcs 0 (by decide)
   have hs1:wr.cell? ⟨sb,i*3+1,none⟩=some (.int .i64 (c.pth.next:Int)):=hcs 1 (by decide)
   have hs2:wr.cell? ⟨sb,i*3+2,none⟩=some (.slice lo c.pth.vers.length lcap):=(hcs 2 (by decide)).trans (congrArg some hLv)
   rw [uh HTV] at hsv
   injection hsv with hsv1 _ hsv2
   subst hsv1 hsv2
   have hnz:=(uh HO c hcm).name
   have hvz:=(uh HO c hcm).len
   have HSN:=hide (lsS_snoc (p:=r.path) hci)
   have HL:=hide (show (lsS r.path (secs.take i)).length≤i by have:=lsS_len r.path (secs.take i);rw [List.length_take] at this;omega)
   generalize lsS r.path (secs.take i)=l at HN HSN HL
   have hln:=uh HL
   obtain ⟨al,capl,hvl,_,hgl⟩:=own_len (uh HN).own
   subst hvl
   clear hci hcm hcs hLv htg HL
   go_upto_region 6 with fail
   obtain ⟨wd,hwd⟩:∃ wd,wd=wr.alloc (Obj.cells #[Value.string c.name,Value.int IntKind.i64 (c.pth.next:Int),Value.slice lo c.pth.vers.length lcap] 248):=⟨_,rfl⟩
   have hbd:wd.heap[wr.heap.size]?=some (.cells #[Value.string c.name,Value.int IntKind.i64 (c.pth.next:Int),Value.slice lo c.pth.vers.length lcap] 248 (0,0)):=by rw [hwd];exact heap_alloc_new _ _
   have HKD:=hide (show Kept wr.heap.size wr wd by rw [hwd];exact (Kept.refl _ _).alloc (Nat.le_refl _) _)
   rw [← hwd]
   clear hwd hs0 hs1 hs2 hpr
   have hzd:wr.heap.size<wd.heap.size:=(Array.getElem?_eq_some_iff.1 hbd).1
   have hd0:wd.cell? ⟨wr.heap.size,0,none⟩=some (.string c.name):=by rw [cell_of_row _ _ _ _ _ _ hbd];rfl
   have hd2:wd.cell? ⟨wr.heap.size,2,none⟩=some (.slice lo c.pth.vers.length lcap):=by rw [cell_of_row _ _ _ _ _ _ hbd];rfl
   have hcr2:wd.cell? ⟨w.heap.size,2,none⟩=some (.string r.path):=((uh HKD).cell (p:=⟨w.heap.size,2,none⟩) (by show w.heap.size<wr.heap.size;omega)).trans hcr
   clear hbd
   have HBG:=hide (begins_ref c.name r.path wd (by omega) (by omega))
   go_wp2_with fail
   refine (uh HBG).mono ?_
   rintro _ wo ⟨rfl,hko⟩
   have HKO:=hide ((uh HKD).trans (hko.mono (by omega)))
   have ho0:wo.cell? ⟨wr.heap.size,0,none⟩=some (.string c.name):=(hko.cell (p:=⟨wr.heap.size,0,none⟩) hzd).trans hd0
   have ho2:wo.cell? ⟨wr.heap.size,2,none⟩=some (.slice lo c.pth.vers.length lcap):=(hko.cell (p:=⟨wr.heap.size,2,none⟩) hzd).trans hd2
   have hzo:wd.heap.size≤wo.heap.size:=hko.size
   clear hko HBG hd0 hd2 hcr2 hcr
   have HNO:=hide ((uh HN).next (uh HKO))
   by_cases hk:(hasPre c.name r.path&&decide (c.pth.vers.length≠0))=true
   ·rw [if_pos hk] at HSN
    rw [Bool.and_eq_true,decide_eq_true_eq] at hk
    have hv0:((c.pth.vers.length:Int)==0)=false:=beq_eq_false_iff_ne.2 (by omega)
    rw [hk.1]
    go_upto_region 11 with fail
    clear hk hv0
    obtain ⟨dd,hdd⟩:∃ dd,dd=wr.heap.size:=⟨_,rfl⟩
    have hdo:dd<wo.heap.size:=by omega
    rw [← hdd] at ho0 ⊢
    clear hdd
    have HM':=hide (show ∀ (W:World),Kept wo.heap.size wo W→W.cell? ⟨dd,0,none⟩=some (.string c.name) from fun W hW=>(hW.cell (p:=⟨dd,0,none⟩) hdo).trans ho0)
    generalize c.name=m at *
    go_loopw [11,9,10] (fun vk vl vb wy=>∃ (k:Nat) (b:Bool) (part:List ByteArray),k≤l.length∧vk=.int .i64 k∧vb=.bool b∧Nm wo vl part wy∧Mids m l k b part) (fun vk _ _ _=>l.length-(intOf vk).toNat)
    case atStart=>exact ⟨0,false,[],Nat.zero_le _,rfl,rfl,Nm.nil _,.inl ⟨rfl,rfl,fun j hj=>absurd hj (by omega)⟩⟩
    case round =>
     obtain ⟨k,b,part,hk,rfl,rfl,hnm,hmd⟩:=hrel
     have HN3:=hide hnm
     have HMD:=hide hmd
     have hpl:part.length≤4194304:=by have:=mids_len hmd (by omega);omega
     have hcN:wr.cell? ⟨dd,0,none⟩=some (.string m):=uh HM' _ hnm.kept
     have HNP:=hide ((uh HNO).next hnm.kept)
     obtain ⟨ap,capp,hvp,_,_⟩:=own_len hnm.own
     subst hvp
     clear hnm hmd
     by_cases hkl:k<l.length
     ·obtain ⟨gl,rfl⟩:=hgl (by omega)
      have hkI:(k:Int)<(l.length:Int):=by omega
      have hk0:(0:Int)≤(k:Int):=by omega
      have hcK:wr.cell? ⟨gl,k,none⟩=some (.string (l.getD k .empty)):=(uh HNP).at (by omega)
      generalize hy:l.getD k .empty=y at hcK
      have HY:=hide hy
      clear hy
      cases b with
      | true =>
       go_wp2_with fail
       go_quiet (fail)
       go_wp2_with (refine wpList_halt2 (.tmp 65) (.tmp 70) 82 rfl ?_)
       refine Stp.mk ?_
       have HND:=hide ((uh HN3).next (wx:=wr.drewN nq) ((Kept.refl _ _).draws _))
       refine wpList_append_str rfl (.tmp 65) (.tmp 70) rfl wo.heap.size _ part y (wr.drewN nq) rfl (uh HND).own hpl rfl rfl (uh HND).kept.size ?_
       intro v2 w2 ho2 u2
       have HN4:=hide ((uh HND).app ho2 u2)
       obtain ⟨a2,c2,hv2,_,_⟩:=own_len ho2
       subst hv2
       clear ho2 u2
       simp only [zz0,zz1,zz2]
       go_wp2
       go_roundw
       case rel=>exact ⟨k+1,true,part++[y],by omega,by go_num,rfl,uh HN4,by have:=mids_in (uh HMD) (by omega);rwa [uh HY] at this⟩
       case measure=>simp [intOf];omega
      | false =>
       by_cases hlt2:lt m y=true
       ·have hq:(Op.bytesLess y.toList m.toList||(y.toList==m.toList))=false:=by rw [gtr_eq,hlt2];rfl
        go_wp2_with fail
        go_quiet (fail)
        go_wp2_with (refine wpList_halt2 (.tmp 60) (.tmp 63) 82 rfl ?_)
        refine Stp.mk ?_
        have HND:=hide ((uh HN3).next (wx:=wr.drewN nq) ((Kept.refl _ _).draws _))
        refine wpList_append_str rfl (.tmp 60) (.tmp 63) rfl wo.heap.size _ part m (wr.drewN nq) rfl (uh HND).own hpl rfl rfl (uh HND).kept.size ?_
        intro v2 w2 ho2 u2
        have HN4:=hide ((uh HND).app ho2 u2)
        obtain ⟨a2,c2,hv2,_,_⟩:=own_len ho2
        subst hv2
        clear ho2 u2
        simp only [zz0,zz1,zz2]
        have hcK2:w2.cell? ⟨gl,k,none⟩=some (.string y):=by
         have:=((uh HNO).next (uh HN4).kept).at (k:=k) (by omega)
         rwa [uh HY] at this
        go_wp2_with (refine wpList_halt2 (.tmp 65) (.tmp 70) 82 rfl ?_)
        refine Stp.mk ?_
        refine wpList_append_str rfl (.tmp 65) (.tmp 70) rfl wo.heap.size _ (part++[m]) y w2 rfl (uh HN4).own (by have:=mids_len (uh HMD) (by omega);rw [List.length_append,List.length_singleton];omega) rfl rfl (uh HN4).kept.size ?_
        intro v3 w3 ho2 u2
        have HN5:=hide ((uh HN4).app ho2 u2)
        obtain ⟨a3,c3,hv3,_,_⟩:=own_len ho2
        subst hv3
        clear ho2 u2
        simp only [zz0,zz1,zz2]
        go_wp2
        go_roundw
        case rel=>exact ⟨k+1,true,(part++[m])++[y],by omega,by go_num,rfl,uh HN5,by have:=mids_put (uh HMD) (by omega) (by rw [uh HY];exact hlt2);rwa [uh HY] at this⟩
        case measure=>simp [intOf];omega
       ·have hf2:lt m y=false:=by simpa using hlt2
        have hq:(Op.bytesLess y.toList m.toList||(y.toList==m.toList))=true:=by rw [gtr_eq,hf2];rfl
        go_wp2_with fail
        go_quiet (fail)
        go_wp2_with (refine wpList_halt2 (.tmp 65) (.tmp 70) 82 rfl ?_)
        refine Stp.mk ?_
        have HND:=hide ((uh HN3).next (wx:=wr.drewN nq) ((Kept.refl _ _).draws _))
        refine wpList_append_str rfl (.tmp 65) (.tmp 70) rfl wo.heap.size _ part y (wr.drewN nq) rfl (uh HND).own hpl rfl rfl (uh HND).kept.size ?_
        intro v2 w2 ho2 u2
        have HN4:=hide ((uh HND).app ho2 u2)
        obtain ⟨a2,c2,hv2,_,_⟩:=own_len ho2
        subst hv2
        clear ho2 u2
        simp only [zz0,zz1,zz2]
        go_wp2
        go_roundw
        case rel=>exact ⟨k+1,false,part++[y],by omega,by go_num,rfl,uh HN4,by have:=mids_skip (uh HMD) (by omega) (by rw [uh HY];exact hf2);rwa [uh HY] at this⟩
        case measure=>simp [intOf];omega
     ·have hkI:¬ (k:Int)<(l.length:Int):=by omega
      obtain rfl:k=l.length:=by omega
      have HE:=hide (show (if b then part else part++[m])=lsS r.path (secs.take (i+1)) from by rw [uh HSN];exact mids_end (uh HMD))
      cases b with
      | true =>
       go_wp2
       go_roundw
       case rel=>exact ⟨i+1,by omega,by go_num,by rw [← uh HE];exact (uh HNO).up (uh HN3)⟩
       case measure=>simp [intOf];omega
      | false =>
       go_wp2_with (refine wpList_halt2 (.tmp 74) (.tmp 77) 82 rfl ?_)
       refine Stp.mk ?_
       refine wpList_append_str rfl (.tmp 74) (.tmp 77) rfl wo.heap.size _ part m wr rfl (uh HN3).own hpl rfl rfl (uh HN3).kept.size ?_
       intro v2 w2 ho2 u2
       have HN4:=hide ((uh HN3).app ho2 u2)
       obtain ⟨a2,c2,hv2,_,_⟩:=own_len ho2
       subst hv2
       clear ho2 u2
       simp only [zz0,zz1,zz2]
       go_wp2
       go_roundw
       case rel=>exact ⟨i+1,by omega,by go_num,by rw [← uh HE];exact (uh HNO).up (uh HN4)⟩
       case measure=>simp [intOf];omega
   ·rw [if_neg hk] at HSN
    cases hq:hasPre c.name r.path with
    | false =>
     clear hk hq
     go_wp2_with fail
     go_roundw
     case rel=>exact ⟨i+1,by omega,by go_num,by rw [uh HSN];exact uh HNO⟩
     case measure=>simp [intOf];omega
    | true =>
     rw [hq,Bool.true_and,decide_eq_true_eq] at hk
     have hv0:((c.pth.vers.length:Int)==0)=true:=by rw [beq_iff_eq];omega
     clear hk hq
     go_wp2_with fail
     go_roundw
     case rel=>exact ⟨i+1,by omega,by go_num,by rw [uh HSN];exact uh HNO⟩
     case measure=>simp [intOf];omega
  ·have hiI:¬ (i:Int)<(secs.length:Int):=by omega
   obtain rfl:i=secs.length:=by omega
   have HL:=hide (show lsS r.path (secs.take secs.length)=lsS r.path secs by rw [List.take_length])
   rw [uh HL] at HN
   have HLN:=hide (lsS_len r.path secs)
   have HSZ:=hide (show ∀ n∈lsS r.path secs,n.size≤1000 from fun n hn=>by
    obtain ⟨c,h1,h2⟩:=lsS_mem hn
    rw [h2];exact (uh HO c h1).name)
   have HFIN:=hide (show listA (PSc secs) r.path=saidA (lsS r.path secs) (lsS r.path secs).length by rw [listA,saidA,List.take_length,lsS_eq])
   generalize lsS r.path secs=L at HN HLN HSZ HFIN
   have hLn:=uh HLN
   obtain ⟨al,capl,hvl,_,hgl⟩:=own_len (uh HN).own
   subst hvl
   go_upto_region 20 with fail
   clear hpr hcr hrp hc2 HL HLN htg
   have HO1:=hide (one_ref 0 wr (by decide))
   rw [show bs [UInt8.ofNat 0]=bs [0] from rfl] at HO1
   have z0:(bs [0]).size=1:=rfl
   have z1:(bs [UInt8.ofNat L.length]).size=1:=bs_size _
   have HZ:=hide (said_zero L)
   have HO2:=hide (fun W=>one_ref L.length W (by omega))
   generalize bs [0]=X0 at z0 HO1 HZ
   generalize bs [UInt8.ofNat L.length]=X1 at z1 HO2 HZ
   have n1:(9223372036854775807<X0.size+X1.size)=False:=eq_false (by omega)
   go_wp2_with fail
   refine (uh HO1).mono ?_
   rintro _ w5 ⟨rfl,hk5⟩
   have HK5:=hide hk5
   clear hk5 HO1
   go_wp2_with fail
   refine (uh HO2 w5).mono ?_
   rintro _ w6 ⟨rfl,hk6⟩
   have HK6:=hide ((uh HK5).trans (hk6.mono (uh HK5).size))
   clear hk6 HO2 HK5
   have HN6:=hide ((uh HN).next (uh HK6))
   go_upto_region 22 with fail
   rw [← uh HZ]
   clear z0 z1 n1 HZ HK6
   go_loopw [13,12] (fun vk va wy=>∃ k:Nat,k≤L.length∧vk=.int .i64 k∧va=.string (saidA L k)∧Nm w1 (.slice al L.length capl) L wy) (fun vk _ _=>L.length-(intOf vk).toNat)
   case atStart=>exact ⟨0,Nat.zero_le _,rfl,rfl,uh HN6⟩
   case round =>
    obtain ⟨k,hk,rfl,rfl,hnm⟩:=hrel
    have HN7:=hide hnm
    clear hnm
    by_cases hkl:k<L.length
    ·obtain ⟨gl,rfl⟩:=hgl (by omega)
     have hkI:(k:Int)<(L.length:Int):=by omega
     have hcK:wr.cell? ⟨gl,k,none⟩=some (.string (L.getD k .empty)):=(uh HN7).at hkl
     have hge:L[k]?=some (L.getD k .empty):=by rw [List.getD_eq_getElem?_getD,List.getElem?_eq_getElem hkl];rfl
     have hvz:(L.getD k .empty).size≤1000:=uh HSZ _ (List.mem_of_getElem? hge)
     have HSN:=hide (said_snoc hge)
     have hsz:(saidA L k).size≤2+k*1001:=said_size (uh HSZ) k hk
     have hk1:k*1001≤1000*1001:=Nat.mul_le_mul_right _ (by omega)
     generalize L.getD k .empty=vv at *
     have HO2:=hide (fun W=>one_ref vv.size W (by omega))
     have z1:(bs [UInt8.ofNat vv.size]).size=1:=bs_size _
     generalize hX0:saidA L k=X0 at *
     clear hX0
     generalize bs [UInt8.ofNat vv.size]=X1 at *
     have n1:(9223372036854775807<X0.size+X1.size)=False:=eq_false (by omega)
     obtain ⟨X2,hX2⟩:∃ X,X=X0++X1:=⟨_,rfl⟩
     have z2:X2.size=X0.size+1:=by rw [hX2,ByteArray.size_append];omega
     have e12:=hX2.symm
     have n2:(9223372036854775807<X2.size+vv.size)=False:=eq_false (by omega)
     obtain ⟨X3,hX3⟩:∃ X,X=X2++vv:=⟨_,rfl⟩
     have e23:=hX3.symm
     have HF:=hide (show saidA L (k+1)=X3 by rw [uh HSN,hX3,hX2])
     have hglz:gl<wr.heap.size:=World.block_lt_of_cell? _ _ hcK
     clear hX2 hX3 HSN hge
     go_upto_region 24 with fail
     refine wp_region_held_drew (S:=fun W=>W.cell? ⟨gl,k,none⟩=some (.string vv)) (by kernel_rfl) (hcK) (fun hHeld=>?_)
     refine tkL 3 [(0,some 91,.string X0),(1,some 92,.slice (some ⟨gl,0,none⟩) L.length capl),(2,some 93,.int .i64 (k:Int))] (by kernel_rfl) (fun _ _ _ _ _ h=>h) (fun _ _=>by kernel_rfl) hHeld ?_
     simp only [zz0,zz1,zz2,zz4,zz5]
     refine tkG 3 (some 94) (.indexAddr 82 (.tmp 92) (.tmp 93)) 0 none (.pointer (some ⟨gl,k,none⟩)) (by kernel_rfl) (fun _ _ _ h=>h) (yieldsIf_index (by kernel_rfl) 82 (.tmp 92) (.tmp 93) rfl (index82 gl k L.length capl hkl) (by kernel_rfl) (by kernel_rfl)) hHeld ?_
     simp only [zz0,zz1,zz2]
     refine tkG 4 (some 95) (.load 9 (.tmp 94)) 9 none (.string vv) (by kernel_rfl) (fun _ _ _ h=>h) (Or.inl ⟨by kernel_rfl,fun W hW=>by simp [execOp,go_sem,hW]⟩) hHeld ?_
     simp only [zz0,zz1,zz2]
     refine tkG 5 (some 96) (.call { callee:=.builtin .len,args:=#[.tmp 95],argTypes:=#[9] }) 3 none (.int .i64 (vv.size:Int)) (by kernel_rfl) (fun _ _ _ h=>h) (Or.inl ⟨by kernel_rfl,fun W hW=>by go_simp⟩) hHeld ?_
     simp only [zz0,zz1,zz2]
     refine tkL 2 [(8,some 99,.slice (some ⟨gl,0,none⟩) L.length capl),(9,some 100,.int .i64 (k:Int))] (by kernel_rfl) (fun _ _ _ _ _ h=>h) (fun _ _=>by kernel_rfl) hHeld ?_
     simp only [zz0,zz1,zz2,zz4,zz5]
     refine tkG 10 (some 101) (.indexAddr 82 (.tmp 99) (.tmp 100)) 0 none (.pointer (some ⟨gl,k,none⟩)) (by kernel_rfl) (fun _ _ _ h=>h) (yieldsIf_index (by kernel_rfl) 82 (.tmp 99) (.tmp 100) rfl (index82 gl k L.length capl hkl) (by kernel_rfl) (by kernel_rfl)) hHeld ?_
     simp only [zz0,zz1,zz2]
     refine tkG 11 (some 102) (.load 9 (.tmp 101)) 9 none (.string vv) (by kernel_rfl) (fun _ _ _ h=>h) (Or.inl ⟨by kernel_rfl,fun W hW=>by simp [execOp,go_sem,hW]⟩) hHeld ?_
     simp only [zz0,zz1,zz2]
     refine rd1 6 (some 97) (.call { callee:=.value (.func 121),args:=#[.tmp 96],argTypes:=#[3] }) 9 (by kernel_rfl) (fun K hK=>?_)
     go_simp
     refine (uh HO2 wr.drew).mono ?_
     rintro _ w9 ⟨rfl,hk9⟩
     have HK9:=hide (show Kept wr.heap.size wr w9 from ⟨hk9.os,hk9.output,hk9.size,hk9.block⟩)
     have hS9:w9.cell? ⟨gl,k,none⟩=some (.string vv):=((uh HK9).cell (p:=⟨gl,k,none⟩) hglz).trans hcK
     clear hk9
     show K _ w9
     refine hK.out _ _ (hS9) (fun hHeld6=>?_)
     clear hK K
     try simp only [zz0,zz1,zz2]
     refine tkG 7 (some 98) (.binOp .add 9 (.tmp 91) (.tmp 97) 9) 9 none (.string X2) (by kernel_rfl) (fun _ _ _ h=>h) (Or.inl ⟨by kernel_rfl,fun W hW=>by simp [execOp,go_sem,n1,e12]⟩) hHeld6 ?_
     simp only [zz0,zz1,zz2]
     refine tkG 12 (some 103) (.binOp .add 9 (.tmp 98) (.tmp 102) 9) 9 none (.string X3) (by kernel_rfl) (fun _ _ _ h=>h) (Or.inl ⟨by kernel_rfl,fun W hW=>by simp [execOp,go_sem,n2,e23]⟩) hHeld6 ?_
     simp only [zz0,zz1,zz2]
     refine tkP 13 (some 12) (.string X3) (by kernel_rfl) (fun _ _ _ h=>h) (fun _ _=>by kernel_rfl) hHeld6 ?_
     simp only [zz0,zz1,zz2]
     refine wpAnyH_done (by kernel_rfl) ?_ _
     have HNN:=hide ((uh HN7).next (uh HK9))
     clear n1 n2 e12 e23 hcK hS9
     go_wp2_with fail
     go_roundw
     case rel=>exact ⟨k+1,by omega,by go_num,by rw [uh HF],uh HNN⟩
     case measure=>simp [intOf];omega
    ·have hkI:¬ (k:Int)<(L.length:Int):=by omega
     obtain rfl:k=L.length:=by omega
     go_wp2
     go_ret
     exact ⟨by rw [uh HFIN];rfl,(uh HK1).trans ((uh HN7).kept.mono (by omega))⟩
end Go.Proofs.YtlbacbcenejngaaGreatDoor
namespace Go.Proofs.YtlbacbcenejngaaGreatDoor
open Go.RowKit
def ocB (o:Oc):ByteArray:=bs (UInt8.ofNat o.err::o.more.data.toList)
def ansOf (S:Sto) (s:ByteArray):ByteArray × Sto:=match readQ s with | none=>(bs [1],S) | some q=>(ocB (S.ask q),S.then q (S.ask q))
theorem less_lt:∀ x y:List UInt8,Op.bytesLess x y=true↔x<y
 | [],[]=>by simp [Op.bytesLess]
 | [],_::_=>by simp [Op.bytesLess]
 | _::_,[]=>by simp [Op.bytesLess]
 | a::x,b::y=>by
  rw [List.cons_lt_cons_iff,← less_lt x y]
  simp [Op.bytesLess]
theorem lt_le {x y:ByteArray}:lt y x=false↔x.data.toList≤y.data.toList:=by
 rw [← List.not_lt,← less_lt]
 unfold lt
 rw [ByteArray.toList_eq,ByteArray.toList_eq]
 simp
theorem sorted_eq:∀ {l m:List (List UInt8)},l.Perm m→(l.Pairwise fun x y=>x≤y)→(m.Pairwise fun x y=>x≤y)→l=m
 | [],m,hp,_,_=>(List.nil_perm.1 hp).symm
 | a::l,[],hp,_,_=>absurd (List.perm_nil.1 hp) (by simp)
 | a::l,b::m,hp,h1,h2=>by
  obtain ⟨p1,p2⟩:=List.pairwise_cons.1 h1
  obtain ⟨q1,q2⟩:=List.pairwise_cons.1 h2
  have hab:a=b:=by
   have ha:a∈b::m:=hp.mem_iff.1 (List.mem_cons_self ..)
   have hb:b∈a::l:=hp.mem_iff.2 (List.mem_cons_self ..)
   rcases List.mem_cons.1 ha with ha | ha
   ·exact ha
   ·rcases List.mem_cons.1 hb with hb | hb
    ·exact hb.symm
    ·exact List.le_antisymm (p1 b hb) (q1 a ha)
  subst hab
  rw [sorted_eq (List.Perm.cons_inv hp) p2 q2]
theorem ins_perm (x:ByteArray):∀ l,(ins x l).Perm (x::l)
 | []=>List.Perm.refl _
 | y::l=>by
  rw [ins]
  split
  ·exact List.Perm.refl _
  ·exact ((ins_perm x l).cons y).trans (List.Perm.swap ..)
theorem fold_perm (f:ByteArray × Pth→Bool):∀ (l:List (ByteArray × Pth)) (a:List ByteArray),(l.foldl (fun acc c=>if f c then ins c.1 acc else acc) a).Perm (a++(l.filter f).map (·.1))
 | [],a=>by simp
 | c::l,a=>by
  rw [List.foldl_cons]
  refine (fold_perm f l _).trans ?_
  by_cases h:f c=true
  ·rw [if_pos h,List.filter_cons_of_pos h,List.map_cons]
   exact ((ins_perm c.1 a).append_right _).trans List.perm_middle.symm
  ·rw [if_neg h,List.filter_cons_of_neg h]
theorem fold_ris (f:ByteArray × Pth→Bool):∀ (l:List (ByteArray × Pth)) (a:List ByteArray),(a.Pairwise fun a b=>lt b a=false)→(l.foldl (fun acc c=>if f c then ins c.1 acc else acc) a).Pairwise fun a b=>lt b a=false
 | [],_,h=>h
 | c::l,a,h=>by
  rw [List.foldl_cons]
  refine fold_ris f l _ ?_
  split
  ·exact ins_ris _ h
  ·exact h
theorem lk_nodup {α:Type}:∀ {l:List (ByteArray × α)},(l.map (·.1)).Nodup→∀ {c:ByteArray × α},c∈l→lk c.1 l=some c.2
 | [],_,_,h=>nomatch h
 | p::l,hn,c,h=>by
  rw [List.map_cons,List.nodup_cons] at hn
  rw [lk]
  rcases List.mem_cons.1 h with rfl | h
  ·rw [if_pos rfl]
  ·rw [if_neg fun e=>hn.1 (by rw [e];exact List.mem_map.2 ⟨c,h,rfl⟩)]
   exact lk_nodup hn.2 h
theorem found_eq {S:Sto} (h:(S.paths.map (·.1)).Nodup) (p:ByteArray):lsP p S.paths=S.found p:=by
 have hinj:∀ {l m:List ByteArray},l.map (fun x=>x.data.toList)=m.map (fun x=>x.data.toList)→l=m:=fun {l m} h=>by
  have:=congrArg (List.map bs) h
  rw [List.map_map,List.map_map] at this
  have e:(bs ∘ fun x:ByteArray=>x.data.toList)=id:=funext fun x=>bs_of x
  rwa [e,List.map_id,List.map_id] at this
 have hns:S.names.map (fun x=>x.data.toList)=(S.paths.map fun p=>p.1.data.toList).mergeSort fun x y=>decide (x≤y):=by
  rw [Sto.names,List.map_map]
  exact List.map_id'' (fun l=>bs_list l) _
 refine hinj (sorted_eq ?_ ?_ ?_)
 ·refine List.Perm.map _ ?_
  refine (fold_perm (fun c=>hasPre c.1 p&&decide (c.2.vers.length≠0)) S.paths []).trans ?_
  rw [List.nil_append]
  have e1:S.paths.filter (fun c=>hasPre c.1 p&&decide (c.2.vers.length≠0))=S.paths.filter ((fun n=>hasPre n p&&decide (0<(S.versOf n).length)) ∘ fun c=>c.1):=by
   refine List.filter_congr fun c hc=>?_
   show _=(hasPre c.1 p&&decide (0<(S.versOf c.1).length))
   rw [Sto.versOf,lk_nodup h hc]
   show (_&&decide (c.2.vers.length≠0))=(_&&decide (0<c.2.vers.length))
   congr 1
   exact decide_eq_decide.2 (by omega)
  rw [e1,← List.filter_map]
  refine List.Perm.filter _ ?_
  rw [Sto.names]
  have:=(List.mergeSort_perm (S.paths.map fun p=>p.1.data.toList) fun x y=>decide (x≤y)).map bs
  rw [List.map_map] at this
  have e:(bs ∘ fun p:ByteArray × Pth=>p.1.data.toList)=fun p=>p.1:=funext fun x=>bs_of x.1
  rw [e] at this
  exact this.symm
 ·rw [List.pairwise_map]
  exact (fold_ris _ S.paths [] List.Pairwise.nil).imp fun h=>lt_le.1 h
 ·rw [Sto.found,List.pairwise_map]
  refine List.Pairwise.filter _ ?_
  rw [← List.pairwise_map (f:=fun x:ByteArray=>x.data.toList) (R:=fun x y=>x≤y),hns]
  exact (List.pairwise_mergeSort (le:=fun x y=>decide (x≤y)) (fun a b c h1 h2=>decide_eq_true (List.le_trans (of_decide_eq_true h1) (of_decide_eq_true h2))) (fun a b=>by
   rcases List.le_total a b with h | h
   ·rw [decide_eq_true h];rfl
   ·rw [decide_eq_true h];simp) _).imp fun h=>of_decide_eq_true h
theorem ocB_put (S:Sto) (q:Rq):(putA S.paths q.path q.value).1=ocB (S.put q)∧(putA S.paths q.path q.value).2=(S.then q (S.put q)).paths∧(S.then q (S.put q)).toks=S.toks:=by
 unfold putA Sto.put
 cases hk:lk q.path S.paths with
 | none =>
  dsimp only
  by_cases h:16≤S.paths.length
  ·rw [if_pos h,if_pos h];exact ⟨rfl,rfl,rfl⟩
  ·rw [if_neg h,if_neg h]
   refine ⟨rfl,?_,rfl⟩
   show _=(S.carry q .put).paths
   rw [Sto.carry,hk];rfl
 | some p =>
  dsimp only
  by_cases h:20<p.next
  ·rw [if_pos h,if_pos h];exact ⟨rfl,rfl,rfl⟩
  ·rw [if_neg h,if_neg h]
   refine ⟨rfl,?_,rfl⟩
   show _=(S.carry q .put).paths
   rw [Sto.carry,hk];rfl
theorem ocB_get (S:Sto) (q:Rq):getA S.paths q.path q.version.toNat=ocB (S.get q)∧S.then q (S.get q)=S:=by
 unfold getA Sto.get Sto.versOf
 cases hk:lk q.path S.paths with
 | none=>exact ⟨rfl,rfl⟩
 | some p =>
  dsimp only
  cases hp:pickV q.version.toNat p.vers with
  | none=>exact ⟨rfl,rfl⟩
  | some v =>
   refine ⟨?_,rfl⟩
   show bs [0]++txt v=bs (0::(txt v).data.toList)
   rw [show (0:UInt8)::(txt v).data.toList=[0]++(txt v).data.toList from rfl,bs_app,bs_of]
theorem ocB_drop (S:Sto) (q:Rq):(dropA S.paths q.path).1=ocB (S.drop q)∧(dropA S.paths q.path).2=(S.then q (S.drop q)).paths∧(S.then q (S.drop q)).toks=S.toks:=by
 unfold dropA Sto.drop Sto.versOf
 cases hk:lk q.path S.paths with
 | none=>exact ⟨rfl,rfl,rfl⟩
 | some p =>
  dsimp only
  by_cases h:p.vers.length=0
  ·rw [if_pos h,if_pos h];exact ⟨rfl,rfl,rfl⟩
  ·rw [if_neg h,if_neg h]
   have e:S.carry q .drop={ S with paths:=putM q.path { p with vers:=[] } S.paths }:=by rw [Sto.carry,hk]
   refine ⟨rfl,?_,?_⟩
   ·show _=(S.carry q .drop).paths
    rw [e]
   ·show (S.carry q .drop).toks=_
    rw [e]
theorem ocB_list {S:Sto} (h:(S.paths.map (·.1)).Nodup) (q:Rq):listA S.paths q.path=ocB (S.list q)∧S.then q (S.list q)=S:=by
 refine ⟨?_,rfl⟩
 unfold listA Sto.list ocB
 rw [found_eq h]
 rfl
theorem ocB_grant (S:Sto) (q:Rq) (op:UInt8) (ho:op=84):(adminA op S.toks S.root q.name q.pre q.rights).1=ocB (S.grant q)∧(adminA op S.toks S.root q.name q.pre q.rights).2=(S.then q (S.grant q)).toks∧(S.then q (S.grant q)).paths=S.paths:=by
 unfold adminA Sto.grant
 rw [if_pos ho]
 cases hk:lk q.name S.toks with
 | some p=>exact ⟨rfl,rfl,rfl⟩
 | none =>
  dsimp only
  by_cases h:8≤S.toks.length
  ·rw [if_pos h,if_pos h];exact ⟨rfl,rfl,rfl⟩
  ·rw [if_neg h,if_neg h]
   exact ⟨rfl,rfl,rfl⟩
theorem ocB_revoke (S:Sto) (q:Rq) (op:UInt8) (v:ByteArray) (rt:UInt8) (ho:op≠84):(adminA op S.toks S.root q.name v rt).1=ocB (S.revoke q)∧(adminA op S.toks S.root q.name v rt).2=(S.then q (S.revoke q)).toks∧(S.then q (S.revoke q)).paths=S.paths:=by
 unfold adminA Sto.revoke
 rw [if_neg ho]
 cases hk:lk q.name S.toks with
 | none=>exact ⟨rfl,rfl,rfl⟩
 | some p =>
  dsimp only
  by_cases h:q.name=S.root
  ·rw [if_pos h,if_pos h];exact ⟨rfl,rfl,rfl⟩
  ·rw [if_neg h,if_neg h]
   exact ⟨rfl,rfl,rfl⟩
theorem lets_eq {t:Tok} (ht:t.rights.toNat<8) {op:UInt8} (ho:opI (op.toNat:Int)=true) (path:ByteArray) (b:Bool) (hb:inPath op=true→b=hasPre path t.pre):letsB op t.rights.toNat b=!decide (t.rights &&& rightOf op=0∨(inPath op=true∧hasPre path t.pre=false)):=by
 have hr:=rights_and t.rights.toNat ht
 rw [UInt8.ofNat_toNat] at hr
 rcases opI_cases ho with rfl | rfl | rfl | rfl | rfl | rfl
 ·have hb:=hb rfl
  subst hb
  show (decide _&&_)=_
  have e:decide (t.rights &&& rightOf 80=0)=!decide (t.rights.toNat / 2 % 2=1):=hr.2.1
  rw [Bool.decide_or,Bool.decide_and,e]
  cases decide (t.rights.toNat / 2 % 2=1) <;> cases hasPre path t.pre <;> rfl
 ·have hb:=hb rfl
  subst hb
  show (decide _&&_)=_
  have e:decide (t.rights &&& rightOf 71=0)=!decide (t.rights.toNat % 2=1):=hr.1
  rw [Bool.decide_or,Bool.decide_and,e]
  cases decide (t.rights.toNat % 2=1) <;> cases hasPre path t.pre <;> rfl
 ·have hb:=hb rfl
  subst hb
  show (decide _&&_)=_
  have e:decide (t.rights &&& rightOf 68=0)=!decide (t.rights.toNat / 2 % 2=1):=hr.2.1
  rw [Bool.decide_or,Bool.decide_and,e]
  cases decide (t.rights.toNat / 2 % 2=1) <;> cases hasPre path t.pre <;> rfl
 ·have hb:=hb rfl
  subst hb
  show (decide _&&_)=_
  have e:decide (t.rights &&& rightOf 76=0)=!decide (t.rights.toNat % 2=1):=hr.1
  rw [Bool.decide_or,Bool.decide_and,e]
  cases decide (t.rights.toNat % 2=1) <;> cases hasPre path t.pre <;> rfl
 ·show decide _=_
  have e:decide (t.rights &&& rightOf 84=0)=!decide (t.rights.toNat / 4=1):=hr.2.2
  rw [Bool.decide_or,Bool.decide_and,e]
  cases decide (t.rights.toNat / 4=1) <;> rfl
 ·show decide _=_
  have e:decide (t.rights &&& rightOf 82=0)=!decide (t.rights.toNat / 4=1):=hr.2.2
  rw [Bool.decide_or,Bool.decide_and,e]
  cases decide (t.rights.toNat / 4=1) <;> rfl
end Go.Proofs.YtlbacbcenejngaaGreatDoor
namespace Go.Proofs.YtlbacbcenejngaaGreatDoor
open Go.RowKit
section
variable {B:Nat} {w w4 w':World} {rp:Nat} {g:RG} {key root:ByteArray} {secs:List Sc} {toks toks':List (ByteArray × Tok)} {E:List ByteArray} {H:List Nat} {a:ByteArray} {paths':List (ByteArray × Pth)} {e:Ending}
theorem rEnd.from (hk:Kept w.heap.size w w4) (h:rEnd B w4 rp g key root secs E H a paths' toks' e w'):rEnd B w rp g key root secs E H a paths' toks' e w':=by
 obtain ⟨h1,g',secs',h2,h3,h4,h5,h6,h7⟩:=h
 exact ⟨h1,g',secs',h2,h3,h4,h5,(hk.chg.mono fun _ _ e=>e.elim).trans h6,fun k hk2=>(h7 k hk2).imp id fun e=>by have:=hk.size;omega⟩
theorem rEnd.same (h:RVAt B w rp g key root secs toks E H) (hk:Kept w.heap.size w w'):rEnd B w rp g key root secs E H a (PSc secs) toks (.returned (.string a)) w' :=
 ⟨rfl,g,secs,h.keep hk,rfl,rfl,rfl,hk.chg.mono fun _ _ e=>e.elim,fun _k hk=>.inl hk⟩
end
theorem scOk_of {S:Sto} (h:S.Ok) (hv:S.Vs) {secs:List Sc} (hp:PSc secs=S.paths):(∀ c∈secs,ScOk c)∧secs.length≤16:=by
 refine ⟨fun c hc=>?_,?_⟩
 ·have hm:(c.name,c.pth)∈S.paths:=by rw [← hp];exact List.mem_map.2 ⟨c,hc,rfl⟩
  obtain ⟨h1,h2,h3,h4⟩:=h.pth _ hm
  exact ⟨hv.1 _ hm,by show c.pth.vers.length≤1000;have:c.pth.vers.length<c.pth.next:=h3;have:c.pth.next≤21:=h2;omega,fun v hv=>Nat.le_trans (h4 v hv) (by decide),Nat.le_trans h2 (by decide),Nat.le_trans h1 (by decide)⟩
 ·have:=h.paths
  rw [← hp,List.length_map] at this
  exact this
theorem isAnOp_I {op:UInt8} (h:isAnOp op):opI (op.toNat:Int)=true:=by
 unfold isAnOp at h
 rcases h with h | h | h | h | h | h <;> rw [h] <;> rfl
theorem PqOk.bounds {q:Rq} {r:Pq} (h:PqOk q r) (hq:q.Ok):r.path.size≤1000:=by
 cases hp:pathI (q.op.toNat:Int) with
 | true=>rw [(h.path hp).1];have:=hq.fit.1;omega
 | false=>rw [(h.name hp).1];have:=hq.name;omega
set_option maxRecDepth 100000 in
set_option maxHeartbeats 4000000 in
theorem answer_ref (B:Nat) (w:World) (rp:Nat) (g:RG) (key:ByteArray) (S:Sto) (secs:List Sc) (E:List ByteArray) (H:List Nat) (s:ByteArray) (h:RVAt B w rp g key S.root secs S.toks E H) (hp:PSc secs=S.paths) (hS:S.Ok) (hV:S.Vs) (hB:B≤w.heap.size) (hs:s.size≤2000000) :
  Calls Tryz.prog 118 #[.pointer (some ⟨rp,0,none⟩),.string s] w (rEnd B w rp g key S.root secs E H (ansOf S s).1 (ansOf S s).2.paths (ansOf S s).2.toks):=by
 have H0:=hide h
 have HSC:=hide (scOk_of hS hV hp)
 have HP:=hide hp
 have HSO:=hide hS
 have HVO:=hide hV
 have htl:S.toks.length≤8:=hS.toks
 have hsl:secs.length≤16:=(uh HSC).2
 have HSAME:=hide (show ∀ W a,Kept w.heap.size w W→ansOf S s=(a,S)→rEnd B w rp g key S.root secs E H (ansOf S s).1 (ansOf S s).2.paths (ansOf S s).2.toks (.returned (.string a)) W from fun W a hk he=>by
  rw [he,← hp]
  exact rEnd.same h hk)
 clear h hp hS hV
 have HPR:=hide (parse_ref s w (by omega))
 go_enter Tryz.func118,Tryz.ntmps118
 go_wp2_with fail
 refine (uh HPR).mono ?_
 rintro _ wa ⟨r,rfl,hr,hka⟩
 have HR:=hide hr
 have HKA:=hide hka
 clear hr hka HPR
 go_upto_region 2 with (refine wpList_store_put rfl 223 (.tmp 5) (.tmp 12) rfl wa.heap.size r.cells rfl rfl 223 pq0.cells (heap_alloc_new _ _) info223 rfl r.one ?_;intro wb hpb)
 have hbx:wb.heap[wa.heap.size]?=some (.cells r.cells 223 (0,0)):=hpb.row
 have HKB:=hide (show Kept wa.heap.size wa wb from ((Kept.refl _ _).alloc (Nat.le_refl _) _).trans (Kept.of (hpb.below (Nat.le_refl _))))
 have HKW:=hide ((uh HKA).trans ((uh HKB).mono (uh HKA).size))
 clear hpb
 have hzw:w.heap.size≤wa.heap.size:=(uh HKA).size
 have hzb:wa.heap.size<wb.heap.size:=(Array.getElem?_eq_some_iff.1 hbx).1
 have hwb:w.heap.size≤wb.heap.size:=by omega
 have d0:wb.cell? ⟨wa.heap.size,0,none⟩=some (.int .u8 (r.op.toNat:Int)):=by rw [cell_of_row _ _ _ _ _ _ hbx];rfl
 have d1:wb.cell? ⟨wa.heap.size,1,none⟩=some (.string r.token):=by rw [cell_of_row _ _ _ _ _ _ hbx];rfl
 cases hq:readQ s with
 | none =>
  have HA:=hide (show ansOf S s=(bs [1],S) by unfold ansOf;rw [hq])
  have HON:=hide (one_ref 1 wb (by decide))
  clear hq
  go_wp2_with fail
  refine (uh HON).mono ?_
  rintro _ w5 ⟨rfl,hk5⟩
  have HK5:=hide ((uh HKW).trans (hk5.mono hwb))
  clear hk5
  go_wp2_with fail
  go_ret
  exact uh HSAME _ _ (uh HK5) (uh HA)
 | some q =>
  have HRO:=hide (uh HR q hq)
  have HQO:=hide (readQ_ok hq)
  have HA:=hide (show ansOf S s=(ocB (S.ask q),S.then q (S.ask q)) by unfold ansOf;rw [hq])
  clear hq
  have HB1:=hide ((uh H0).keep (uh HKW))
  have HTR:=hide (token_ref B wb rp g key S.root secs S.toks E H r.token (uh HB1) (by omega))
  go_wp2_with fail
  refine (uh HTR).mono ?_
  rintro _ wq ⟨⟨x,rfl,hx⟩,hwq⟩
  obtain rfl:wb=wq:=hwq.symm
  clear hwq HTR
  rw [(uh HRO).token] at hx
  rcases hx with ⟨i,rfl,hi,hb⟩ | ⟨rfl,hno⟩
  ·obtain ⟨t0,b1,b2,_,_⟩:=ix_found _ _ hi hb
   obtain ⟨t,ht⟩:∃ t:ByteArray × Tok,t=(q.token,t0):=⟨_,rfl⟩
   rw [← ht] at b1
   rw [show t0=t.2 by rw [ht]] at b2
   clear ht
   have HTB:=hide (show t.2.rights.toNat≤7∧t.2.pre.size≤255 from ⟨(uh HVO).2 _ (List.mem_of_getElem? b1),(uh HSO).tok _ (List.mem_of_getElem? b1)⟩)
   have hil:=(List.getElem?_eq_some_iff.1 b1).1
   obtain ⟨tb,tcap,htv,htb,hct⟩:=own_wide (f:=tkcell) (z:=3) (fun _=>rfl) (uh HB1).tok b1
   have hrp:wb.cell? ⟨rp,3,none⟩=some (.slice (some ⟨tb,0,none⟩) S.toks.length tcap):=(((uh HB1).c 3).trans rfl).trans (congrArg some htv)
   have hin:¬ (i:Int)<0:=by omega
   have hinB:decide ((i:Int)<0)=false:=decide_eq_false hin
   have HLK:=hide b2
   have HCT:=hide hct
   have HBX:=hide hbx
   have HLE:=hide (lets_ref t r wb.drew (uh HTB).1 (by have:=(uh HTB).2;omega) ((uh HRO).bounds (uh HQO)))
   clear hi hb b1 b2 hct htv d1
   go_upto_region 7 with fail
   refine wp_region_held_drew (S:=fun W=>W.cell? ⟨rp,3,none⟩=some (.slice (some ⟨tb,0,none⟩) S.toks.length tcap)∧W.rangeAt tb (i*3) (tkcell t)∧W.heap[wa.heap.size]?=some (.cells r.cells 223 (0,0))) (by kernel_rfl) (⟨hrp,fun j v hv=>((uh HCT) j (by have:=(List.getElem?_eq_some_iff.1 hv).1;exact this)).trans hv,uh HBX⟩) (fun hHeld=>?_)
   refine tkL 3 [(0,some 24,.pointer (some ⟨rp,0,none⟩)),(1,some 25,.pointer (some ⟨rp,0,none⟩)),(2,some 26,.pointer (some ⟨rp,3,none⟩))] (by kernel_rfl) (fun _ _ _ _ _ h=>h) (fun _ _=>by kernel_rfl) hHeld ?_
   simp only [zz0,zz1,zz2,zz4,zz5]
   refine tkG 3 (some 27) (.load 151 (.tmp 26)) 151 none (.slice (some ⟨tb,0,none⟩) S.toks.length tcap) (by kernel_rfl) (fun _ _ _ h=>h) (Or.inl ⟨by kernel_rfl,fun W hW=>by simp [execOp,go_sem,hW.1]⟩) hHeld ?_
   simp only [zz0,zz1,zz2]
   refine tkP 4 (some 28) (.int .i64 (i:Int)) (by kernel_rfl) (fun _ _ _ h=>h) (fun _ _=>by kernel_rfl) hHeld ?_
   simp only [zz0,zz1,zz2]
   refine tkG 5 (some 29) (.indexAddr 151 (.tmp 27) (.tmp 28)) 0 none (.pointer (some ⟨tb,i*3,none⟩)) (by kernel_rfl) (fun _ _ _ h=>h) (yieldsIf_index (by kernel_rfl) 151 (.tmp 27) (.tmp 28) rfl (index151 tb i S.toks.length tcap hil) (by kernel_rfl) (by kernel_rfl)) hHeld ?_
   simp only [zz0,zz1,zz2]
   refine tkG 6 (some 30) (.load 155 (.tmp 29)) 155 none (.agg (tkcell t).toArray) (by kernel_rfl) (fun _ _ _ h=>h) (yieldsIf_load_mid (by kernel_rfl) 155 (.tmp 29) rfl tb (i*3) (by kernel_rfl) (tkcell t) _ (fun W hW=>hW.2.1) Tryz.underlying155 rfl info155) hHeld ?_
   simp only [zz0,zz1,zz2]
   refine tkG 7 (some 31) (.load 223 (.tmp 5)) 223 none (.agg r.cells.toList.toArray) (by kernel_rfl) (fun _ _ _ h=>h) (yieldsIf_load_mid (by kernel_rfl) 223 (.tmp 5) rfl wa.heap.size 0 (by kernel_rfl) r.cells.toList _ (fun W hW=>row_range hW.2.2) Tryz.underlying223 rfl info223) hHeld ?_
   simp only [zz0,zz1,zz2]
   refine rd1 8 (some 32) (.call { callee:=.value (.func 150),args:=#[.tmp 30,.tmp 31],argTypes:=#[155,223] }) 4 (by kernel_rfl) (fun K hK=>?_)
   go_simp
   refine (uh HLE).mono ?_
   rintro _ wc ⟨rfl,hkc⟩
   have HKC:=hide (show Kept wb.heap.size wb wc from ⟨hkc.os,hkc.output,hkc.size,hkc.block⟩)
   clear hkc
   have hrpb:rp<wb.heap.size:=((uh HB1).foot (.inl rfl)).1
   have s1:wc.cell? ⟨rp,3,none⟩=some (.slice (some ⟨tb,0,none⟩) S.toks.length tcap):=((uh HKC).cell (p:=⟨rp,3,none⟩) hrpb).trans hrp
   have s2:wc.rangeAt tb (i*3) (tkcell t):=fun j v hv=>((uh HKC).cell (p:=⟨tb,i*3+j,none⟩) htb).trans (((uh HCT) j (by have:=(List.getElem?_eq_some_iff.1 hv).1;exact this)).trans hv)
   have s3:wc.heap[wa.heap.size]?=some (.cells r.cells 223 (0,0)):=((uh HKC).block _ hzb).trans (uh HBX)
   show K _ wc
   refine hK.out _ _ (⟨s1,s2,s3⟩) (fun hHeld8=>?_)
   clear hK K
   try simp only [zz0,zz1,zz2]
   refine tkP 9 (some 8) (.bool (letsB r.op t.2.rights.toNat (hasPre r.path t.2.pre))) (by kernel_rfl) (fun _ _ _ h=>h) (fun _ _=>by kernel_rfl) hHeld8 ?_
   simp only [zz0,zz1,zz2]
   refine wpAnyH_done (by kernel_rfl) ?_ _
   clear s1 s2
   have HWC:=hide ((uh HB1).keep (uh HKC))
   have HKX:=hide ((uh HKW).trans ((uh HKC).mono hwb))
   have hwc:w.heap.size≤wc.heap.size:=(uh HKX).size
   have HLB:=hide (show letsB r.op t.2.rights.toNat (hasPre r.path t.2.pre)=!decide (t.2.rights &&& rightOf q.op=0∨(inPath q.op=true∧hasPre q.path t.2.pre=false)) by
    rw [(uh HRO).op]
    refine lets_eq (by have:=(uh HTB).1;omega) (isAnOp_I (uh HQO).isOp) q.path _ fun hin=>?_
    rw [((uh HRO).path (by
     have h6:=(uh HQO).isOp
     unfold isAnOp at h6
     unfold inPath at hin
     rcases h6 with h | h | h | h | h | h <;> rw [h] at hin ⊢ <;> first | rfl | cases hin)).1])
   rw [uh HLB]
   have HASK:=hide (show S.ask q=if t.2.rights &&& rightOf q.op=0∨(inPath q.op=true∧hasPre q.path t.2.pre=false) then ⟨3,.empty,none⟩ else S.deed q by unfold Sto.ask;rw [uh HLK])
   by_cases hden:t.2.rights &&& rightOf q.op=0∨(inPath q.op=true∧hasPre q.path t.2.pre=false)
   ·have HA2:=hide (show ansOf S s=(bs [3],S) by rw [uh HA,uh HASK,if_pos hden];rfl)
    rw [decide_eq_true hden]
    clear hden
    have HON:=hide (one_ref 3 wc (by decide))
    go_wp2_with fail
    refine (uh HON).mono ?_
    rintro _ w5 ⟨rfl,hk5⟩
    have HK5:=hide ((uh HKX).trans (hk5.mono hwc))
    clear hk5
    go_wp2_with fail
    go_ret
    exact uh HSAME _ _ (uh HK5) (uh HA2)
   ·rw [decide_eq_false hden]
    rw [if_neg hden] at HASK
    clear hden
    have e0:wc.cell? ⟨wa.heap.size,0,none⟩=some (.int .u8 (r.op.toNat:Int)):=by rw [cell_of_row _ _ _ _ _ _ s3];rfl
    have e1:wc.cell? ⟨wa.heap.size,1,none⟩=some (.string r.token):=by rw [cell_of_row _ _ _ _ _ _ s3];rfl
    have e2:wc.cell? ⟨wa.heap.size,2,none⟩=some (.string r.path):=by rw [cell_of_row _ _ _ _ _ _ s3];rfl
    have e3:wc.cell? ⟨wa.heap.size,3,none⟩=some (.string r.value):=by rw [cell_of_row _ _ _ _ _ _ s3];rfl
    have e4:wc.cell? ⟨wa.heap.size,4,none⟩=some (.int .i64 (r.n:Int)):=by rw [cell_of_row _ _ _ _ _ _ s3];rfl
    have e5:wc.cell? ⟨wa.heap.size,5,none⟩=some (.string r.tail):=by rw [cell_of_row _ _ _ _ _ _ s3];rfl
    have e6:wc.cell? ⟨wa.heap.size,6,none⟩=some (.string r.behind):=by rw [cell_of_row _ _ _ _ _ _ s3];rfl
    clear s3 d0 hbx hrp htb
    have hBc:B≤wc.heap.size:=by omega
    have hlc:secs.length≤1000:=by omega
    have htc:S.toks.length≤1000:=by omega
    have HOP:=hide (uh HQO).isOp
    have h6:=uh HOP
    unfold isAnOp at h6
    have HDEED:=hide (show ∀ o,S.deed q=o→ansOf S s=(ocB o,S.then q o) from fun o ho=>by rw [uh HA,uh HASK,ho])
    have HRP:=hide (uh HRO)
    rcases h6 with h6 | h6 | h6 | h6 | h6 | h6
    ·have hopn:r.op.toNat=80:=by rw [(uh HRO).op];exact h6
     have hd:S.deed q=S.put q:=by unfold Sto.deed;rw [h6];rfl
     have HD:=hide (uh HDEED _ hd)
     have hpi:pathI (q.op.toNat:Int)=true:=by rw [h6];rfl
     have HPN:=hide (uh HRO).path
     have hpth:=(uh HPN hpi).1
     have HF:=hide (show ∀ e W,rEnd B w rp g key S.root secs E H (putA (PSc secs) r.path r.value).1 (putA (PSc secs) r.path r.value).2 S.toks e W→rEnd B w rp g key S.root secs E H (ansOf S s).1 (ansOf S s).2.paths (ansOf S s).2.toks e W from fun e W h=>by
      rw [uh HD]
      rw [uh HP,hpth,(uh HRO).value h6] at h
      obtain ⟨p1,p2,p3⟩:=ocB_put S q
      rw [p1,p2,← p3] at h
      exact h)
     have HC:=hide (put_ref B wc rp g key S.root secs S.toks E H r (uh HWC) hlc (uh HSC).1 hBc)
     have c80:((r.op.toNat:Int)==80)=true:=by rw [hopn];rfl
     have c71:((r.op.toNat:Int)==71)=false:=by rw [hopn];rfl
     have c68:((r.op.toNat:Int)==68)=false:=by rw [hopn];rfl
     have c76:((r.op.toNat:Int)==76)=false:=by rw [hopn];rfl
     clear hpi hd h6 hopn hpth HPN
     go_wp2_with fail
     refine (uh HC).mono ?_
     intro e5 w5 hE
     have HE:=hide (uh HF _ _ (hE.from (uh HKX)))
     obtain ⟨rfl,_⟩:=hE
     go_wp2_with fail
     go_ret
     exact uh HE
    ·have hopn:r.op.toNat=71:=by rw [(uh HRO).op];exact h6
     have hd:S.deed q=S.get q:=by unfold Sto.deed;rw [h6];rfl
     have HD:=hide (uh HDEED _ hd)
     have hpi:pathI (q.op.toNat:Int)=true:=by rw [h6];rfl
     have HPN:=hide (uh HRO).path
     have hpth:=(uh HPN hpi).1
     have HF:=hide (show ansOf S s=(getA (PSc secs) r.path r.n,S) by
      rw [uh HP,hpth,(uh HRO).version h6]
      obtain ⟨p1,p2⟩:=ocB_get S q
      rw [uh HD,p1,p2])
     have HC:=hide (get_ref B wc rp g key S.root secs S.toks E H r (uh HWC) hlc (uh HSC).1 (by rw [(uh HRO).version h6];have:=q.version.toNat_lt;omega))
     have c80:((r.op.toNat:Int)==80)=false:=by rw [hopn];rfl
     have c71:((r.op.toNat:Int)==71)=true:=by rw [hopn];rfl
     have c68:((r.op.toNat:Int)==68)=false:=by rw [hopn];rfl
     have c76:((r.op.toNat:Int)==76)=false:=by rw [hopn];rfl
     clear hpi hd h6 hopn hpth HPN
     go_wp2_with fail
     refine (uh HC).mono ?_
     rintro _ w5 ⟨rfl,hk5⟩
     have HK5:=hide ((uh HKX).trans (hk5.mono hwc))
     clear hk5
     go_wp2_with fail
     go_ret
     exact uh HSAME _ _ (uh HK5) (uh HF)
    ·have hopn:r.op.toNat=68:=by rw [(uh HRO).op];exact h6
     have hd:S.deed q=S.drop q:=by unfold Sto.deed;rw [h6];rfl
     have HD:=hide (uh HDEED _ hd)
     have hpi:pathI (q.op.toNat:Int)=true:=by rw [h6];rfl
     have HPN:=hide (uh HRO).path
     have hpth:=(uh HPN hpi).1
     have HF:=hide (show ∀ e W,rEnd B w rp g key S.root secs E H (dropA (PSc secs) r.path).1 (dropA (PSc secs) r.path).2 S.toks e W→rEnd B w rp g key S.root secs E H (ansOf S s).1 (ansOf S s).2.paths (ansOf S s).2.toks e W from fun e W h=>by
      rw [uh HD]
      rw [uh HP,hpth] at h
      obtain ⟨p1,p2,p3⟩:=ocB_drop S q
      rw [p1,p2,← p3] at h
      exact h)
     have HC:=hide (drop_ref B wc rp g key S.root secs S.toks E H r (uh HWC) hlc (uh HSC).1)
     have c80:((r.op.toNat:Int)==80)=false:=by rw [hopn];rfl
     have c71:((r.op.toNat:Int)==71)=false:=by rw [hopn];rfl
     have c68:((r.op.toNat:Int)==68)=true:=by rw [hopn];rfl
     have c76:((r.op.toNat:Int)==76)=false:=by rw [hopn];rfl
     clear hpi hd h6 hopn hpth HPN
     go_wp2_with fail
     refine (uh HC).mono ?_
     intro e5 w5 hE
     have HE:=hide (uh HF _ _ (hE.from (uh HKX)))
     obtain ⟨rfl,_⟩:=hE
     go_wp2_with fail
     go_ret
     exact uh HE
    ·have hopn:r.op.toNat=76:=by rw [(uh HRO).op];exact h6
     have hd:S.deed q=S.list q:=by unfold Sto.deed;rw [h6];rfl
     have HD:=hide (uh HDEED _ hd)
     have hpi:pathI (q.op.toNat:Int)=true:=by rw [h6];rfl
     have HPN:=hide (uh HRO).path
     have hpth:=(uh HPN hpi).1
     have HF:=hide (show ansOf S s=(listA (PSc secs) r.path,S) by
      rw [uh HP,hpth]
      obtain ⟨p1,p2⟩:=ocB_list (uh HSO).onp q
      rw [uh HD,p1,p2])
     have HC:=hide (list_ref B wc rp g key S.root secs S.toks E H r (uh HWC) hlc (uh HSC).1 ((uh HRO).bounds (uh HQO)))
     have c80:((r.op.toNat:Int)==80)=false:=by rw [hopn];rfl
     have c71:((r.op.toNat:Int)==71)=false:=by rw [hopn];rfl
     have c68:((r.op.toNat:Int)==68)=false:=by rw [hopn];rfl
     have c76:((r.op.toNat:Int)==76)=true:=by rw [hopn];rfl
     clear hpi hd h6 hopn hpth HPN
     go_wp2_with fail
     refine (uh HC).mono ?_
     rintro _ w5 ⟨rfl,hk5⟩
     have HK5:=hide ((uh HKX).trans (hk5.mono hwc))
     clear hk5
     go_wp2_with fail
     go_ret
     exact uh HSAME _ _ (uh HK5) (uh HF)
    ·have hopn:r.op.toNat=84:=by rw [(uh HRO).op];exact h6
     have hd:S.deed q=S.grant q:=by unfold Sto.deed;rw [h6];rfl
     have HD:=hide (uh HDEED _ hd)
     have hpi:pathI (q.op.toNat:Int)=false:=by rw [h6];rfl
     have HPN:=hide (uh HRO).name
     have hpth:=(uh HPN hpi).1
     have HF:=hide (show ∀ e W,rEnd B w rp g key S.root secs E H (adminA r.op S.toks S.root r.path r.value q.rights).1 (PSc secs) (adminA r.op S.toks S.root r.path r.value q.rights).2 e W→rEnd B w rp g key S.root secs E H (ansOf S s).1 (ansOf S s).2.paths (ansOf S s).2.toks e W from fun e W h=>by
      rw [uh HD]
      rw [uh HP,hpth,((uh HRO).pre h6).1] at h
      obtain ⟨p1,p2,p3⟩:=ocB_grant S q r.op (UInt8.toNat_inj.1 hopn)
      rw [p1,p2,← p3] at h
      exact h)
     have HC:=hide (admin_ref B wc rp g key S.root secs S.toks E H r q.rights (uh HWC) htc hBc fun _=>((uh HRO).pre h6).2)
     have c80:((r.op.toNat:Int)==80)=false:=by rw [hopn];rfl
     have c71:((r.op.toNat:Int)==71)=false:=by rw [hopn];rfl
     have c68:((r.op.toNat:Int)==68)=false:=by rw [hopn];rfl
     have c76:((r.op.toNat:Int)==76)=false:=by rw [hopn];rfl
     clear hpi hd h6 hopn hpth HPN
     go_wp2_with fail
     refine (uh HC).mono ?_
     intro e5 w5 hE
     have HE:=hide (uh HF _ _ (hE.from (uh HKX)))
     obtain ⟨rfl,_⟩:=hE
     go_wp2_with fail
     go_ret
     exact uh HE
    ·have hopn:r.op.toNat=82:=by rw [(uh HRO).op];exact h6
     have hd:S.deed q=S.revoke q:=by unfold Sto.deed;rw [h6];rfl
     have HD:=hide (uh HDEED _ hd)
     have hpi:pathI (q.op.toNat:Int)=false:=by rw [h6];rfl
     have HPN:=hide (uh HRO).name
     have hpth:=(uh HPN hpi).1
     have HF:=hide (show ∀ e W,rEnd B w rp g key S.root secs E H (adminA r.op S.toks S.root r.path r.value 0).1 (PSc secs) (adminA r.op S.toks S.root r.path r.value 0).2 e W→rEnd B w rp g key S.root secs E H (ansOf S s).1 (ansOf S s).2.paths (ansOf S s).2.toks e W from fun e W h=>by
      rw [uh HD]
      rw [uh HP,hpth] at h
      obtain ⟨p1,p2,p3⟩:=ocB_revoke S q r.op r.value 0 (fun e=>by rw [e] at hopn;exact absurd hopn (by decide))
      rw [p1,p2,← p3] at h
      exact h)
     have HC:=hide (admin_ref B wc rp g key S.root secs S.toks E H r 0 (uh HWC) htc hBc fun e=>absurd hopn (by rw [e];decide))
     have c80:((r.op.toNat:Int)==80)=false:=by rw [hopn];rfl
     have c71:((r.op.toNat:Int)==71)=false:=by rw [hopn];rfl
     have c68:((r.op.toNat:Int)==68)=false:=by rw [hopn];rfl
     have c76:((r.op.toNat:Int)==76)=false:=by rw [hopn];rfl
     clear hpi hd h6 hopn hpth HPN
     go_wp2_with fail
     refine (uh HC).mono ?_
     intro e5 w5 hE
     have HE:=hide (uh HF _ _ (hE.from (uh HKX)))
     obtain ⟨rfl,_⟩:=hE
     go_wp2_with fail
     go_ret
     exact uh HE
  ·have HA2:=hide (show ansOf S s=(bs [2],S) by rw [uh HA];unfold Sto.ask;rw [(ix_none hno).1];rfl)
   have HON:=hide (one_ref 2 wb (by decide))
   clear hno
   go_wp2_with fail
   refine (uh HON).mono ?_
   rintro _ w5 ⟨rfl,hk5⟩
   have HK5:=hide ((uh HKW).trans (hk5.mono hwb))
   clear hk5
   go_wp2_with fail
   go_ret
   exact uh HSAME _ _ (uh HK5) (uh HA2)
end Go.Proofs.YtlbacbcenejngaaGreatDoor
