/-
  Spread One
-/
import Derived.Test.YtlbacbcenejngaaGreatDoorV05
import Derived.Test.YtlbacbcenejngaaGreatDoorV04
import Derived.Test.YtlbacbcenejngaaGreatDoorProg
import Derived.WalkKit
import Derived.WalkSpells
import Derived.WalkLawsBesides
import Derived.Deep.QuietTactic
import Derived.BigQuiet
import Derived.BigRegion
namespace Go.Proofs.YtlbacbcenejngaaGreatDoor
open Go.RowKit
open Sha (R)
theorem info185:(Tryz.prog.info? 185).map (·.size)=some 64:=by kernel_rfl
set_option maxRecDepth 100000 in
set_option maxHeartbeats 1000000 in
theorem spread_go (s:ByteArray) (w:World) (hs:s.size=64) :
  Calls Tryz.prog 100 #[.string s] w fun e w'=>e=.returned (.agg (row (Sha.sched s.data.toList 48)))∧Below w.heap.size w w':=by
 go_enter Tryz.func100,Tryz.ntmps100
 go_wp2
 go_loopw [8] (fun i wr=>∃ k:Nat,k≤16∧i=.int .i64 k∧wr.heap[w.heap.size]?=some (.cells (row []) 185 (0,0))∧wr.heap[w.heap.size+1]?=some (.cells (row (Sha.words s.data.toList k)) 185 (0,0))∧Below w.heap.size w wr) (fun i _=>16-(intOf i).toNat)
 case atStart => 
  refine ⟨0,Nat.zero_le _,rfl,?_,?_,?_⟩
  ·exact heap_alloc2_old _ _ _
  ·exact heap_alloc2_new _ _ _
  ·exact ((Below.refl _ _).alloc (Nat.le_refl _) _).alloc (by simp) _
 case round =>
  obtain ⟨k,hk,rfl,hb,hc,hbl⟩:=hrel
  by_cases hlt:k<16
  ·have l0:=Sha.words_length s.data.toList k
   have hx:∃ v,wr.cell? ⟨w.heap.size+1,k,none⟩=some v:=by
    obtain ⟨x,hx⟩:=row_has (L:=Sha.words s.data.toList k) (i:=k) (by omega) (by omega)
    exact ⟨_,(cell_of_row _ _ _ _ _ _ hc).trans hx⟩
   obtain ⟨v,hv⟩:=hx
   have hf:=frozen_of_row _ _ k _ _ hc
   have i0:(0:Int)≤4*(k:Int)∧4*(k:Int)<64:=by omega
   have i1:(0:Int)≤4*(k:Int)+1∧4*(k:Int)+1<64:=by omega
   have i2:(0:Int)≤4*(k:Int)+2∧4*(k:Int)+2<64:=by omega
   have i3:(0:Int)≤4*(k:Int)+3∧4*(k:Int)+3<64:=by omega
   have Hb:=hide hb
   have Hc:=hide hc
   have Hl:=hide hbl
   clear hb hc hbl
   go_wp2
   go_region
   go_wp2
   go_roundw
   case rel => 
    refine ⟨k+1,by omega,by go_num,?_,?_,?_⟩
    ·exact (heap_setCell_other _ _ _ _ (by simp)).trans (uh Hb)
    ·rw [Sha.words_succ]
     exact put_row (uh Hc) l0 (by omega) (word_bits s k _ _ _ _)
    ·exact ((uh Hl).setCell (by simp) _).drew
   case measure=>simp [intOf];omega
  ·obtain rfl:k=16:=by omega
   obtain ⟨wo,rfl⟩:∃ wo:World,wo=wr:=⟨_,rfl⟩
   go_wp2
   go_loopw [5] (fun i wr=>∃ k:Nat,k≤48∧i=.int .i64 ((k:Int)+16)∧wr.heap[w.heap.size]?=some (.cells (row []) 185 (0,0))∧wr.heap[w.heap.size+1]?=some (.cells (row (Sha.sched s.data.toList k)) 185 (0,0))∧Below w.heap.size w wr) (fun i _=>64-(intOf i).toNat)
   case atStart=>exact ⟨0,by omega,rfl,hb,hc,hbl⟩
   case round =>
    obtain ⟨k,hk,rfl,hb,hc,hbl⟩:=hrel
    by_cases hlt:k<48
    ·have l0:=Sha.sched_length s.data.toList k
     have hall:=Sha.sched_all s.data.toList k
     obtain ⟨v,hv⟩:∃ v,wr.cell? ⟨w.heap.size+1,k+16,none⟩=some v:=by
      obtain ⟨x,hx⟩:=row_has (L:=Sha.sched s.data.toList k) (i:=k+16) (by omega) (by omega)
      exact ⟨_,(cell_of_row _ _ _ _ _ _ hc).trans hx⟩
     have hf:=frozen_of_row _ _ (k+16) _ _ hc
     obtain ⟨x15,h15,e15⟩:∃ x,wr.cell? ⟨w.heap.size+1,k+1,none⟩=some (.int .u32 x)∧x=(Sha.sched s.data.toList k).getD (k+1) 0:=⟨_,(cell_of_row _ _ _ _ _ _ hc).trans (row_get (by omega)),rfl⟩
     obtain ⟨x2,h2,e2⟩:∃ x,wr.cell? ⟨w.heap.size+1,k+14,none⟩=some (.int .u32 x)∧x=(Sha.sched s.data.toList k).getD (k+14) 0:=⟨_,(cell_of_row _ _ _ _ _ _ hc).trans (row_get (by omega)),rfl⟩
     obtain ⟨x7,h7,e7⟩:∃ x,wr.cell? ⟨w.heap.size+1,k+9,none⟩=some (.int .u32 x)∧x=(Sha.sched s.data.toList k).getD (k+9) 0:=⟨_,(cell_of_row _ _ _ _ _ _ hc).trans (row_get (by omega)),rfl⟩
     obtain ⟨x16,h16,e16⟩:∃ x,wr.cell? ⟨w.heap.size+1,k,none⟩=some (.int .u32 x)∧x=(Sha.sched s.data.toList k).getD k 0:=⟨_,(cell_of_row _ _ _ _ _ _ hc).trans (row_get (by omega)),rfl⟩
     have r15:R x15:=e15 ▸ Sha.getD_R hall _
     have r2:R x2:=e2 ▸ Sha.getD_R hall _
     have r7:R x7:=e7 ▸ Sha.getD_R hall _
     have r16:R x16:=e16 ▸ Sha.getD_R hall _
     have HE:=hide (show Sha.next (Sha.sched s.data.toList k)=(Sha.s1 x2+x7+Sha.s0 x15+x16) % 4294967296 by
      unfold Sha.next;rw [l0,e2,e7,e15,e16,show 16+k-2=k+14 by omega,show 16+k-7=k+9 by omega,show 16+k-15=k+1 by omega,show 16+k-16=k by omega])
     have Hr:=hide (And.intro r15 (And.intro r2 (And.intro r7 r16)))
     obtain ⟨r15a,r15b⟩:=r15
     obtain ⟨r2a,r2b⟩:=r2
     obtain ⟨r7a,r7b⟩:=r7
     obtain ⟨r16a,r16b⟩:=r16
     have Hb:=hide hb
     have Hc:=hide hc
     have Hl:=hide hbl
     have L0:=hide l0
     clear hb hc hbl e15 e2 e7 e16 hall l0
     have i14:(0:Int)≤(k:Int)+14∧(k:Int)+14<64:=by omega
     have j14:IntKind.i64.wrap ((k:Int)+16-2)=(k:Int)+14:=by rw [wrap_i64_R ⟨by omega,by omega⟩];omega
     have n14:((k:Int)+14).toNat=k+14:=by omega
     have n9:((k:Int)+9).toNat=k+9:=by omega
     have n16:((k:Int)+16).toNat=k+16:=by omega
     have i9:(0:Int)≤(k:Int)+9∧(k:Int)+9<64:=by omega
     have j9:IntKind.i64.wrap ((k:Int)+16-7)=(k:Int)+9:=by rw [wrap_i64_R ⟨by omega,by omega⟩];omega
     have j0:IntKind.i64.wrap ((k:Int)+16-16)=(k:Int):=by rw [wrap_i64_R ⟨by omega,by omega⟩];omega
     have i0:(0:Int)≤(k:Int)∧(k:Int)<64:=by omega
     go_wp2
     go_quiet ((go_at_call 132;refine (turn_go _ _ _ ?_ ?_ ?_ ?_).mono ?_ <;> first | omega | (rintro e w' ⟨rfl,rfl⟩;exact ⟨rfl,_,rfl⟩)))
     go_wp2
     go_quiet ((go_at_call 132;refine (turn_go _ _ _ ?_ ?_ ?_ ?_).mono ?_ <;> first | omega | (rintro e w' ⟨rfl,rfl⟩;exact ⟨rfl,_,rfl⟩)))
     go_wp2
     go_region
     go_wp2
     go_roundw
     case rel => 
      obtain ⟨q15,q2,q7,q16⟩:=uh Hr
      refine ⟨k+1,by omega,by go_num,?_,?_,?_⟩
      ·exact (heap_setCell_other _ _ _ _ (by simp)).trans (uh Hb)
      ·exact put_row (wr:=wr.drewN _) (L:=Sha.sched s.data.toList k) (uh Hc) (by rw [uh L0];omega) (by omega) (by rw [s0_u32 q15,s1_u32 q2,uh HE])
      ·exact (below_draws (uh Hl) _).setCell (by simp) _
     case measure=>simp [intOf];omega
    ·obtain rfl:k=48:=by omega
     have l0:=Sha.sched_length s.data.toList 48
     generalize hL:Sha.sched s.data.toList 48=L at *
     have HL:=hide hL
     have sz:=row_size (L:=L) (by omega)
     have sz0:=row_size (L:=[]) (by decide)
     have hi:(Tryz.prog.info? 185).map (·.size)=some (row L).size:=by rw [sz];exact info185
     have ho:(row []).size=(row L).size:=by rw [sz,sz0]
     clear hL
     go_wp2_with (refine wpList_load_row rfl 185 _ rfl (w.heap.size+1) rfl 185 (row L) (0,0) _ hc Tryz.underlying185 rfl hi ?_;refine wpList_store_row rfl 185 _ _ rfl w.heap.size (row L) rfl rfl 185 (row []) hb hi ho (row_one L) ?_)
     refine bodyPost_ret (v:=.agg (row L)) (results_cell_row Tryz.results100 _ _ w.heap.size 185 (row L) (0,0) _ rfl (setRow_heap _ _ _ _ _ _ hb) Tryz.underlying185 rfl hi) rfl ⟨by rw [uh HL],?_⟩
     exact hbl.trans ⟨rfl,rfl,rfl,by simp,fun k hk=>setRow_other _ _ _ _ (by omega)⟩
end Go.Proofs.YtlbacbcenejngaaGreatDoor
namespace Go.Proofs.YtlbacbcenejngaaGreatDoor
open Go.RowKit
open Sha (R)
theorem info134:(Tryz.prog.info? 134).map (·.size)=some 8:=by kernel_rfl
def st (s:Sha.St):Array Value:=#[.int .u32 s.a,.int .u32 s.b,.int .u32 s.c,.int .u32 s.d,.int .u32 s.e,.int .u32 s.f,.int .u32 s.g,.int .u32 s.h]
theorem st_one (s:Sha.St):(st s).all (·.oneCell')=true:=by simp [st,Value.oneCell']
def Table (w:World):Prop:=∀ k,k<64→w.cell? ⟨0,k,none⟩=some (.int .u32 (Sha.K.getD k 0))
structure Three (w:World) (s:Sha.St) (W:List Int) (wr:World):Prop where
 b0:wr.heap[w.heap.size]?=some (.cells (st s) 134 (0,0))
 b1:wr.heap[w.heap.size+1]?=some (.cells (row W) 185 (0,0))
 b2:wr.heap[w.heap.size+2]?=some (.cells (st ⟨0,0,0,0,0,0,0,0⟩) 134 (0,0))
 size:wr.heap.size=w.heap.size+3
 below:Below w.heap.size w wr
theorem Three.draws {w:World} {s:Sha.St} {W:List Int} {wr:World} (h:Three w s W wr) (n:Nat):Three w s W (wr.drewN n):=⟨h.b0,h.b1,h.b2,h.size,below_draws h.below n⟩
theorem three_start (w:World) (s:Sha.St) (W:List Int):Three w s W (((w.alloc (.cells (st s) 134)).alloc (.cells (row W) 185)).alloc (.cells (st ⟨0,0,0,0,0,0,0,0⟩) 134)):=by
 refine ⟨?_,?_,?_,by simp,(((Below.refl _ _).alloc (Nat.le_refl _) _).alloc (by simp) _).alloc (by simp;omega) _⟩
 ·rw [Below.heap_alloc _ _ _ (by simp;omega)];exact heap_alloc2_old _ _ _
 ·rw [Below.heap_alloc _ _ _ (by simp)];exact heap_alloc2_new _ _ _
 ·have:=heap_alloc2_new (w.alloc (.cells (st s) 134)) (.cells (row W) 185) (.cells (st ⟨0,0,0,0,0,0,0,0⟩) 134)
  simpa using this
theorem not_u32 {e:Int} (h:R e):bits .xor .u32 (if IntKind.u32.signed=true then -1 else IntKind.u32.max) e=4294967295-e:=by
 have h1:(if IntKind.u32.signed=true then (-1:Int) else IntKind.u32.max)=4294967295:=by decide
 rw [h1]
 obtain ⟨h0,h2⟩:=h
 have h3:BitVec.ofInt 32 4294967295=BitVec.allOnes 32:=by decide
 show IntKind.u32.wrap ((BitVec.ofInt 32 4294967295 ^^^ BitVec.ofInt 32 e).toNat:Int)=_
 rw [h3,BitVec.allOnes_xor,BitVec.toNat_not,ofInt_toNat32 ⟨h0,h2⟩,wrap_u32]
 omega
theorem two_mods (x y:Int):(x % 4294967296+y % 4294967296) % 4294967296=(x+y) % 4294967296:=by omega
theorem one_mod (x y:Int):(x+y % 4294967296) % 4294967296=(x+y) % 4294967296:=by omega
def nums (L:List Int):Array Value:=(L.map (Value.int .u32)).toArray
def mix (s t:List Int) (k:Nat):List Int:=(List.range 8).map fun j=>if j<k then (t.getD j 0+s.getD j 0) % 4294967296 else t.getD j 0
theorem mix_get (s t:List Int) {k:Nat} (h:k<8):(nums (mix s t k))[k]?=some (.int .u32 (t.getD k 0)):=by
 simp [nums,mix,h]
theorem mix_set (s t:List Int) {k:Nat} (h:k<8):(nums (mix s t k)).setIfInBounds k (.int .u32 ((t.getD k 0+s.getD k 0) % 4294967296))=nums (mix s t (k+1)):=by
 unfold nums
 rw [List.setIfInBounds_toArray]
 congr 1
 apply List.ext_getElem?
 intro j
 simp only [mix,List.getElem?_set,List.getElem?_map,List.length_map,List.length_range]
 by_cases hj:k=j
 ·subst hj;simp [h]
 ·rw [if_neg hj]
  by_cases h8:j<8
  ·simp only [List.getElem?_range h8,Option.map_some]
   by_cases h1:j<k
   ·rw [if_pos h1,if_pos (by omega)]
   ·rw [if_neg h1,if_neg (by omega)]
  ·simp [h8]
theorem mix_sum (s t:Sha.St):nums (mix s.toList t.toList 8)=st (Sha.sum s t):=by
 simp [nums,mix,st,Sha.sum,Sha.St.toList,List.range,List.range.loop,Int.add_comm]
theorem mix_zero (s t:Sha.St):nums (mix s.toList t.toList 0)=st t:=by
 simp [nums,mix,st,Sha.St.toList,List.range,List.range.loop]
theorem st_get (s:Sha.St) {k:Nat} (h:k<8):(st s)[k]?=some (.int .u32 (s.toList.getD k 0)):=by
 have:st s=nums s.toList:=rfl
 rw [this]
 have h8:k<s.toList.length:=h
 simp only [nums,List.getElem?_toArray,List.getElem?_map,List.getD_eq_getElem?_getD,List.getElem?_eq_getElem h8,Option.map_some,Option.getD_some]
set_option maxRecDepth 100000 in
set_option maxHeartbeats 1000000 in
theorem one_go (s:Sha.St) (W:List Int) (w:World) (hok:s.Ok) (hW:W.length=64) (hall:∀ x∈W,R x) (hT:Table w) (hz:0<w.heap.size) :
  Calls Tryz.prog 99 #[.agg (st s),.agg (row W)] w fun e w'=>e=.returned (.agg (st (Sha.sum s (Sha.run W s 64))))∧Below w.heap.size w w':=by
 have HT:=hide hT
 have Hall:=hide hall
 have Hok:=hide hok
 have HW:=hide hW
 clear hT hall hok hW
 unfold st
 go_enter Tryz.func99,Tryz.ntmps99
 go_wp2
 go_quiet (fail)
 go_wp2
 go_quiet (fail)
 go_wp2
 go_loopw [5,6,7,8,9,10,11,12,34] (fun va vb vc vd ve vf vg vh i wr=>∃ k:Nat,k≤64∧i=.int .i64 k∧va=.int .u32 (Sha.run W s k).a∧vb=.int .u32 (Sha.run W s k).b∧vc=.int .u32 (Sha.run W s k).c∧vd=.int .u32 (Sha.run W s k).d ∧
   ve=.int .u32 (Sha.run W s k).e∧vf=.int .u32 (Sha.run W s k).f∧vg=.int .u32 (Sha.run W s k).g∧vh=.int .u32 (Sha.run W s k).h∧Three w s W wr) (fun _ _ _ _ _ _ _ _ i _=>64-(intOf i).toNat)
 case atStart=>exact ⟨0,Nat.zero_le _,rfl,rfl,rfl,rfl,rfl,rfl,rfl,rfl,rfl,((three_start w s W).draws _).draws _⟩
 case round =>
  obtain ⟨k,hk,rfl,rfl,rfl,rfl,rfl,rfl,rfl,rfl,rfl,h3⟩:=hrel
  by_cases hlt:k<64
  ·have hrk:=Sha.run_ok W (uh Hok) k
   have E1:=hide (show (Sha.run W s (k+1)).a=((Sha.run W s k).h+Sha.b1 (Sha.run W s k).e+Sha.ch (Sha.run W s k).e (Sha.run W s k).f (Sha.run W s k).g+Sha.K.getD k 0+W.getD k 0+(Sha.b0 (Sha.run W s k).a+Sha.maj (Sha.run W s k).a (Sha.run W s k).b (Sha.run W s k).c)) % 4294967296 ∧
     (Sha.run W s (k+1)).e=((Sha.run W s k).d+((Sha.run W s k).h+Sha.b1 (Sha.run W s k).e+Sha.ch (Sha.run W s k).e (Sha.run W s k).f (Sha.run W s k).g+Sha.K.getD k 0+W.getD k 0)) % 4294967296 ∧
     (Sha.run W s (k+1)).b=(Sha.run W s k).a∧(Sha.run W s (k+1)).c=(Sha.run W s k).b∧(Sha.run W s (k+1)).d=(Sha.run W s k).c∧(Sha.run W s (k+1)).f=(Sha.run W s k).e∧(Sha.run W s (k+1)).g=(Sha.run W s k).f∧(Sha.run W s (k+1)).h=(Sha.run W s k).g from ⟨rfl,rfl,rfl,rfl,rfl,rfl,rfl,rfl⟩)
   have rK:R (Sha.K.getD k 0):=Sha.getD_R Sha.K_all k
   have rW:R (W.getD k 0):=Sha.getD_R (uh Hall) k
   have cW:wr.cell? ⟨w.heap.size+1,k,none⟩=some (.int .u32 (W.getD k 0)):=(cell_of_row _ _ _ _ _ _ h3.b1).trans (row_get (by rw [uh HW];exact hlt))
   have cK:wr.cell? ⟨0,k,none⟩=some (.int .u32 (Sha.K.getD k 0)):=(h3.below.cell (p:=⟨0,k,none⟩) hz).trans (uh HT k hlt)
   obtain ⟨ra,rb,rc,rd,re,rf,rg,rh⟩:=hrk
   generalize Sha.K.getD k 0=kk at *
   generalize W.getD k 0=ww at *
   generalize (Sha.run W s k).a=a at *
   generalize (Sha.run W s k).b=b at *
   generalize (Sha.run W s k).c=c at *
   generalize (Sha.run W s k).d=d at *
   generalize (Sha.run W s k).e=e at *
   generalize (Sha.run W s k).f=f at *
   generalize (Sha.run W s k).g=g at *
   generalize (Sha.run W s k).h=h at *
   have Hrk:=hide (And.intro ra (And.intro rb (And.intro rc (And.intro rd (And.intro re (And.intro rf (And.intro rg rh)))))))
   obtain ⟨ra0,ra1⟩:=ra
   obtain ⟨rb0,rb1⟩:=rb
   obtain ⟨rc0,rc1⟩:=rc
   obtain ⟨rd0,rd1⟩:=rd
   obtain ⟨re0,re1⟩:=re
   obtain ⟨rf0,rf1⟩:=rf
   obtain ⟨rg0,rg1⟩:=rg
   obtain ⟨rh0,rh1⟩:=rh
   obtain ⟨rK0,rK1⟩:=rK
   obtain ⟨rW0,rW1⟩:=rW
   have H3:=hide h3
   clear h3
   go_wp2
   go_quiet ((go_at_call 132;refine (turn_go _ _ _ ?_ ?_ ?_ ?_).mono ?_ <;> first | omega | (rintro e w' ⟨rfl,rfl⟩;exact ⟨rfl,_,rfl⟩)))
   go_wp2_with ((go_at_call 132;refine (turn_go _ _ _ ?_ ?_ ?_ ?_).mono ?_ <;> first | omega | (rintro e w' ⟨rfl,rfl⟩)))
   go_roundw
   case rel =>
    obtain ⟨E1,E2,E3,E4,E5,E6,E7,E8⟩:=uh E1
    obtain ⟨qa,qb,qc,qd,qe,qf,qg,qh⟩:=uh Hrk
    refine ⟨k+1,by omega,by go_num,?_,by rw [E3],by rw [E4],by rw [E5],?_,by rw [E6],by rw [E7],by rw [E8],(uh H3).draws _⟩
    ·rw [E1,not_u32 qe,b1_u32 qe,b0_u32 qa,ch_u32 qe qf qg,maj_u32 qa qb qc,two_mods]
    ·rw [E2,not_u32 qe,b1_u32 qe,ch_u32 qe qf qg,one_mod]
   case measure=>simp [intOf];omega
  ·obtain rfl:k=64:=by omega
   have hz1:=h3.size
   obtain ⟨wo,rfl⟩:∃ wo:World,wo=wr:=⟨_,rfl⟩
   go_wp2
   go_loopw [106] (fun i wr=>∃ k:Nat,k≤8∧i=.int .i64 k∧wr.heap[w.heap.size]?=some (.cells (st s) 134 (0,0))∧wr.heap[w.heap.size+2]?=some (.cells (st ⟨0,0,0,0,0,0,0,0⟩) 134 (0,0)) ∧
     wr.heap[w.heap.size+3]?=some (.cells (nums (mix s.toList (Sha.run W s 64).toList k)) 134 (0,0))∧Below w.heap.size w wr) (fun i _=>8-(intOf i).toNat)
   case atStart =>
    refine ⟨0,Nat.zero_le _,rfl,?_,?_,?_,h3.below.alloc (by omega) _⟩
    ·rw [Below.heap_alloc _ _ _ (by omega)];exact h3.b0
    ·rw [Below.heap_alloc _ _ _ (by omega)];exact h3.b2
    ·rw [mix_zero,← hz1];exact heap_alloc_new _ _
   case round =>
    obtain ⟨k,hk,rfl,c0,c2,c3,hbl⟩:=hrel
    have hB3:¬ w.heap.size=w.heap.size+3:=by omega
    by_cases hlt:k<8
    ·have d0:wr.cell? ⟨w.heap.size,k,none⟩=some (.int .u32 (s.toList.getD k 0)):=(cell_of_row _ _ _ _ _ _ c0).trans (st_get s hlt)
     have d3:wr.cell? ⟨w.heap.size+3,k,none⟩=some (.int .u32 ((Sha.run W s 64).toList.getD k 0)):=(cell_of_row _ _ _ _ _ _ c3).trans (mix_get _ _ hlt)
     have hf:=frozen_of_row _ _ k _ _ c3
     have hm:=hide (mix_set s.toList (Sha.run W s 64).toList hlt)
     generalize s.toList.getD k 0=x at *
     generalize (Sha.run W s 64).toList.getD k 0=y at *
     have C0:=hide c0
     have C2:=hide c2
     have C3:=hide c3
     have Hl:=hide hbl
     have H3:=hide h3
     clear c0 c2 c3 hbl h3
     go_wp2
     go_region
     go_wp2
     go_roundw
     case rel =>
      refine ⟨k+1,by omega,by go_num,?_,?_,?_,?_⟩
      ·exact (heap_setCell_other _ _ _ _ (by simp)).trans (uh C0)
      ·exact (heap_setCell_other _ _ _ _ (by simp)).trans (uh C2)
      ·rw [← uh hm];exact heap_setCell_same _ _ _ _ _ _ (uh C3)
      ·exact ((uh Hl).setCell (by simp) _).drew
     case measure=>simp [intOf];omega
    ·obtain rfl:k=8:=by omega
     rw [mix_sum] at c3
     generalize hL:st (Sha.sum s (Sha.run W s 64))=L at *
     have HL:=hide hL
     have sz:L.size=8:=by rw [← hL];rfl
     have on:L.all (·.oneCell')=true:=by rw [← hL];exact st_one _
     have hi:(Tryz.prog.info? 134).map (·.size)=some L.size:=by rw [sz];exact info134
     have ho:(st ⟨0,0,0,0,0,0,0,0⟩).size=L.size:=by rw [sz];rfl
     clear hL
     go_wp2_with (refine wpList_load_row rfl 134 _ rfl (w.heap.size+3) rfl 134 L (0,0) _ c3 Tryz.underlying134 rfl hi ?_;refine wpList_store_row rfl 134 _ _ rfl (w.heap.size+2) L rfl rfl 134 _ c2 hi ho on ?_)
     refine bodyPost_ret (v:=.agg L) (results_cell_row Tryz.results99 _ _ (w.heap.size+2) 134 L (0,0) _ rfl (setRow_heap _ _ _ _ _ _ c2) Tryz.underlying134 rfl hi) rfl ⟨by rw [← uh HL];rfl,?_⟩
     exact hbl.trans ⟨rfl,rfl,rfl,by simp,fun k hk=>setRow_other _ _ _ _ (by omega)⟩
end Go.Proofs.YtlbacbcenejngaaGreatDoor
