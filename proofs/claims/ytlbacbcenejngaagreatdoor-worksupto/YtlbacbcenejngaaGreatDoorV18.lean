/-
  Blk
-/
import Derived.Test.YtlbacbcenejngaaGreatDoorV11
import Derived.Test.YtlbacbcenejngaaGreatDoorV08
import Derived.Deep.DeepCutAuto
import Derived.Deep.DeepMust
import Derived.BigRegion
import Derived.Deep.RegionHeld
import Derived.BigQuiet
namespace Go.Proofs.YtlbacbcenejngaaGreatDoor
open Go.RowKit
open Sha (R)
set_option maxHeartbeats 1000000 in
set_option maxRecDepth 100000 in
theorem constants_ref (w:World):Calls Tryz.prog 122 #[] w fun e w'=>e=.returned (.slice (some ⟨w.heap.size,0,none⟩) 64 64)∧w'=w.alloc (.cells (i64s Sha.K).toArray 3):=by
 go_enter Tryz.func122,Tryz.ntmps122
 go_wp2
 go_ret
 exact ⟨rfl,rfl⟩
def part (l:List UInt8) (k:Nat):Nat→Int
 | 0=>0
 | i+1=>256*part l k i+Sha.at8 l (4*k+i)
theorem part_word (l:List UInt8) (k:Nat):part l k 4=Sha.word l k:=by
 simp only [part,Sha.word,Nat.add_zero];omega
theorem part_bd (l:List UInt8) (k i:Nat) (hi:i≤4):0≤part l k i∧part l k i≤4294967295:=by
 have h0:=Sha.at8_bd l (4*k);have h1:=Sha.at8_bd l (4*k+1);have h2:=Sha.at8_bd l (4*k+2);have h3:=Sha.at8_bd l (4*k+3)
 rcases (show i=0∨i=1∨i=2∨i=3∨i=4 by omega) with rfl | rfl | rfl | rfl | rfl <;> simp only [part,Nat.add_zero] <;> omega
theorem part_bd3 (l:List UInt8) (k i:Nat) (hi:i<4):0≤part l k i∧part l k i≤16777215:=by
 have h0:=Sha.at8_bd l (4*k);have h1:=Sha.at8_bd l (4*k+1);have h2:=Sha.at8_bd l (4*k+2)
 rcases (show i=0∨i=1∨i=2∨i=3 by omega) with rfl | rfl | rfl | rfl <;> simp only [part,Nat.add_zero] <;> omega
theorem wrap_i64_s {x:Int} (h0:0≤x) (h1:x<4611686018427387904):IntKind.i64.wrap x=x:=by
 simp [IntKind.wrap,IntKind.bits,IntKind.signed];omega
theorem wrap64_R {x:Int} (h:R x):wrap64 x=x:=by
 obtain ⟨h0,h1⟩:=h
 unfold wrap64;omega
theorem part_step {s:ByteArray} {k j:Nat} {p:Int} (h:4*k+j<s.size) (p0:0≤p) (p1:p≤16777215):wrap64 (256*p+wrap64 ((s[4*k+j]'h).toNat:Int))=256*p+Sha.at8 s.data.toList (4*k+j):=by
 have hb:=Sha.at8_bd s.data.toList (4*k+j)
 rw [byte_get,wrap64_R (x:=Sha.at8 _ _) ⟨by omega,by omega⟩,wrap64_R ⟨by omega,by omega⟩]
set_option maxRecDepth 100000 in
set_option maxHeartbeats 8000000 in
theorem block_ref (S:Sha.St) (s:ByteArray) (gh oh ch gk ok ck:Nat) (w:World) (hS:S.Ok) (hs:s.size=64) (hgh:gh<w.heap.size) (hgk:gk<w.heap.size)
  (hh:∀ i,i<8→w.cell? ⟨gh,oh+i,none⟩=some (.int .i64 (S.toList.getD i 0))) (hk:∀ i,i<64→w.cell? ⟨gk,ok+i,none⟩=some (.int .i64 (Sha.K.getD i 0))) :
  Calls Tryz.prog 124 #[.slice (some ⟨gh,oh,none⟩) 8 ch,.string s,.slice (some ⟨gk,ok,none⟩) 64 ck] w fun e w' =>
   ∃ v,e=.returned v∧w'.ownsRow w.heap.size 3 1 v 8 (i64s (Sha.compress S s.data.toList).toList)∧Below w.heap.size w w':=by
 obtain ⟨i0,hi0,hz0,hz1,hz2⟩:=info_parts info3
 have HS:=hide hS
 have HH:=hide hh
 have HK:=hide hk
 clear hS hh hk
 go_enter Tryz.func124,Tryz.ntmps124
 go_wp2
 go_loopw [7,8] (fun v t wr=>∃ k:Nat,k≤16∧t=.int .i64 k∧wr.ownsRow w.heap.size 3 1 v k (i64s (Sha.words s.data.toList k))∧Below w.heap.size w wr) (fun _ t _=>16-(intOf t).toNat)
 case atStart=>exact ⟨0,Nat.zero_le _,rfl,World.ownsRow_nil _ _ _ _,Below.refl _ _⟩
 case round =>
  obtain ⟨k,hk,rfl,hown,hbl⟩:=hrel
  by_cases hlt:k<16
  ·go_wp2
   go_loop [9,10] (fun n i=>∃ j:Nat,j≤4∧i=.int .i64 j∧n=.int .i64 (part s.data.toList k j)) (fun _ i=>4-(intOf i).toNat)
   case atStart=>exact ⟨0,Nat.zero_le _,rfl,rfl⟩
   case round =>
    obtain ⟨j,hj,rfl,rfl⟩:=hrel
    by_cases hjlt:j<4
    ·have hpb:=part_bd3 s.data.toList k j hjlt
     have hps:=hide (show part s.data.toList k (j+1)=256*part s.data.toList k j+Sha.at8 s.data.toList (4*k+j) from rfl)
     obtain ⟨p0,p1⟩:=hpb
     have x0:(0:Int)≤4*(k:Int)+(j:Int)∧4*(k:Int)+(j:Int)<64:=by omega
     generalize part s.data.toList k j=p at *
     have HO:=hide hown
     clear hown
     go_wp2
     go_round
     case rel =>
      refine ⟨j+1,by omega,by go_num,?_⟩
      rw [part_step _ p0 p1,uh hps]
     case measure=>simp [intOf];omega
    ·obtain rfl:j=4:=by omega
     have hws:=hide (Sha.words_succ s.data.toList k)
     have hpb:=part_bd s.data.toList k 4 (by omega)
     rw [part_word] at hpb ⊢
     generalize Sha.word s.data.toList k=x at *
     have hsz:=hbl.size
     have hl0:=hide (Sha.words_length s.data.toList k)
     clear hpb
     go_wp2_with (at_builtin;refine wpList_append_own _ rfl (.tmp 46) (.tmp 48) 38 rfl w.heap.size 3 i0 (.int .i64 0) 1 8 Tryz.underlying38 hi0 hz0 hz1 hz2 rfl (by decide) _ k (i64s (Sha.words s.data.toList k)) rfl (hown.alloc _) ⟨wr.heap.size,0,none⟩ 1 1 [.int .i64 x] rfl rfl (cell_one_new _ _ _) ?c2 ?c3 ?c4 ?c5 ?_)
     case c2=>first | rfl | (intro u hu;simp at hu;subst hu;rfl)
     case c3=>unfold maxLen;omega
     case c4=>omega
     case c5=>first | omega | (simp;omega)
     intro v' w1 hown' hgrow _
     have hb2:=hide (grown_below (hbl.alloc hsz _) (hown.alloc _) (Nat.le_refl _) hgrow (by simp;omega))
     have HO:=hide hown'
     clear hown hown' hgrow hbl
     go_wp2
     go_roundw
     case rel =>
      refine ⟨k+1,by omega,by go_num,?_,uh hb2⟩
      rw [uh hws]
      simpa [i64s] using uh HO
     case measure=>simp [intOf];omega
  ·obtain rfl:k=16:=by omega
   obtain ⟨wo,rfl⟩:∃ wo:World,wo=wr:=⟨_,rfl⟩
   go_wp2
   go_loopw [7,11] (fun v t wr=>∃ k:Nat,k≤48∧t=.int .i64 ((k:Int)+16)∧wr.ownsRow w.heap.size 3 1 v (16+k) (i64s (Sha.sched s.data.toList k))∧Below w.heap.size w wr) (fun _ t _=>64-(intOf t).toNat)
   case atStart=>exact ⟨0,Nat.zero_le _,rfl,hown,hbl⟩
   case round =>
    clear hown hbl
    obtain ⟨k,hk,rfl,hown,hbl⟩:=hrel
    by_cases hlt:k<48
    ·-- round3
     have l0:=Sha.sched_length s.data.toList k
     have hall:=Sha.sched_all s.data.toList k
     obtain ⟨g,cap,hv,hg1,hg2,hcells⟩:=own_int hown (by omega) l0
     subst hv
     obtain ⟨x15,h15,e15⟩:∃ x,wr.cell? ⟨g,k+1,none⟩=some (.int .i64 x)∧x=(Sha.sched s.data.toList k).getD (k+1) 0:=⟨_,hcells _ (by omega),rfl⟩
     obtain ⟨x2,h2,e2⟩:∃ x,wr.cell? ⟨g,k+14,none⟩=some (.int .i64 x)∧x=(Sha.sched s.data.toList k).getD (k+14) 0:=⟨_,hcells _ (by omega),rfl⟩
     obtain ⟨x7,h7,e7⟩:∃ x,wr.cell? ⟨g,k+9,none⟩=some (.int .i64 x)∧x=(Sha.sched s.data.toList k).getD (k+9) 0:=⟨_,hcells _ (by omega),rfl⟩
     obtain ⟨x16,h16,e16⟩:∃ x,wr.cell? ⟨g,k,none⟩=some (.int .i64 x)∧x=(Sha.sched s.data.toList k).getD k 0:=⟨_,hcells _ (by omega),rfl⟩
     have r15:R x15:=e15 ▸ Sha.getD_R hall _
     have r2:R x2:=e2 ▸ Sha.getD_R hall _
     have r7:R x7:=e7 ▸ Sha.getD_R hall _
     have r16:R x16:=e16 ▸ Sha.getD_R hall _
     have HE:=hide (show Sha.next (Sha.sched s.data.toList k)=(Sha.s1 x2+x7+Sha.s0 x15+x16) % 4294967296 by
      unfold Sha.next;rw [l0,e2,e7,e15,e16,show 16+k-2=k+14 by omega,show 16+k-7=k+9 by omega,show 16+k-15=k+1 by omega,show 16+k-16=k by omega])
     have hs0:bits .xor .i64 (bits .xor .i64 (Sha.rot 7 x15) (Sha.rot 18 x15)) (x15 / 8)=Sha.s0 x15:=xor3_i64 (Sha.rot_R (by decide) r15) (Sha.rot_R (by decide) r15) (Sha.div_R 7 r15)
     have hs1:bits .xor .i64 (bits .xor .i64 (Sha.rot 17 x2) (Sha.rot 19 x2)) (x2 / 1024)=Sha.s1 x2:=xor3_i64 (Sha.rot_R (by decide) r2) (Sha.rot_R (by decide) r2) (Sha.div_R 1023 r2)
     obtain ⟨q0a,q0b⟩:=Sha.s0_R r15
     obtain ⟨q1a,q1b⟩:=Sha.s1_R r2
     generalize Sha.s0 x15=y0 at *
     generalize Sha.s1 x2=y1 at *
     obtain ⟨r15a,r15b⟩:=r15
     obtain ⟨r2a,r2b⟩:=r2
     obtain ⟨r7a,r7b⟩:=r7
     obtain ⟨r16a,r16b⟩:=r16
     have HO:=hide hown
     have Hl:=hide hbl
     have hsz:=hbl.size
     clear hown hbl e15 e2 e7 e16 hall l0 hcells
     go_wp2_with (first
      | (go_at_call 159;refine (turn_ref _ _ _ ?_ ?_ ?_ ?_).mono ?_ <;> first | omega | (rintro e w' ⟨rfl,q,rfl⟩))
      | (go_at_call 160;refine (less_ref _ _ _ ?_ ?_ ?_ ?_).mono ?_ <;> first | omega | (rintro e w' ⟨rfl,rfl⟩)))
     have w7:IntKind.i64.wrap ((k:Int)+16-7)=(k:Int)+9:=by rw [wrap_i64_s (by omega) (by omega)];omega
     have w16:IntKind.i64.wrap (k:Int)=(k:Int):=wrap_i64_s (by omega) (by omega)
     have n9:((k:Int)+9).toNat=k+9:=by omega
     have i9:(0:Int)≤(k:Int)+9∧(k:Int)+9<16+(k:Int):=by omega
     have i16:(k:Int)<16+(k:Int):=by omega
     have a1:IntKind.i64.wrap (y1+x7)=y1+x7:=wrap_i64_s (by omega) (by omega)
     have a2:IntKind.i64.wrap (y1+x7+y0)=y1+x7+y0:=wrap_i64_s (by omega) (by omega)
     have a3:IntKind.i64.wrap (y1+x7+y0+x16)=y1+x7+y0+x16:=wrap_i64_s (by omega) (by omega)
     have a4:(y1+x7+y0+x16).tmod 4294967296=(y1+x7+y0+x16) % 4294967296:=Int.tmod_eq_emod_of_nonneg (by omega)
     have hm1:16+k+1≤maxLen:=by unfold maxLen;omega
     have hm2:(16+k+1)*8≤140737488355328:=by omega
     have hm3:=hide (And.intro hm1 hm2)
     clear hm1 hm2
     go_region_law (refine step_append_own rfl (.tmp 80) (.tmp 97) 38 rfl w.heap.size 3 i0 (.int .i64 0) 1 8 Tryz.underlying38 hi0 hz0 hz1 hz2 rfl (by decide) (.slice (some ⟨g,0,none⟩) (16+k) cap) (16+k) (i64s (Sha.sched s.data.toList k)) ?_ ?_ ⟨wr.heap.size,0,none⟩ 1 1 [.int .i64 ((y1+x7+y0+x16) % 4294967296)] ?_ rfl ?_ ?_ (uh hm3).1 (uh hm3).2 ?_ ?_;(simp [Act.eval]);(exact own_any ((uh HO).alloc _) rfl);(simp [Act.eval]);(exact cell_one_any (W0:=wr) rfl);(exact mem_one rfl);(first | omega | (simp;omega));(intro v' w1 hown' hgrow _))
     all_goals
      have hb2:Below w.heap.size w w1:=by
       refine grown_any hgrow ?_ (own_any ((uh HO).alloc _) rfl) ?_
       ·first | exact below_draws ((uh Hl).alloc hsz _) _ | exact (below_draws (uh Hl) _).alloc hsz _
       ·first | omega | (simp;omega)
      have Hb2:=hide hb2
      have Hown':=hide hown'
      clear hb2 hown' hgrow
      go_wp2
      go_roundw
      case rel =>
       have rel:∃ k_1:Nat,k_1≤48∧(Value.int .i64 ((k:Int)+16+1))=.int .i64 ((k_1:Int)+16)∧w1.ownsRow w.heap.size 3 1 v' (16+k_1) (i64s (Sha.sched s.data.toList k_1))∧Below w.heap.size w w1:=by
        refine ⟨k+1,by omega,by go_num,?_,uh Hb2⟩
        rw [show Sha.sched s.data.toList (k+1)=Sha.sched s.data.toList k++[Sha.next (Sha.sched s.data.toList k)] from rfl,uh HE]
        simpa [i64s,Nat.add_assoc] using uh Hown'
       first | exact rel | ((repeat apply Exists.intro);exact ⟨rel,rfl⟩)
      case measure=>simp [intOf];omega
    ·-- exit3
     obtain rfl:k=48:=by omega
     have l0:=Sha.sched_length s.data.toList 48
     have hall:=hide (Sha.sched_all s.data.toList 48)
     have HW:=hide (show Sha.compress S s.data.toList=Sha.sum S (Sha.run (Sha.sched s.data.toList 48) S 64) from rfl)
     generalize Sha.sched s.data.toList 48=W at *
     obtain ⟨g,cap,hv,hg1,hg2,hcells⟩:=own_int hown (by omega) l0
     subst hv
     have L0:=hide l0
     have HC:=hide hcells
     have hh8:Holds8 wr gh oh S:=Holds8.below (uh HH) hbl hgh
     have hsz:=hbl.size
     have Hl:=hide hbl
     have HH8:=hide hh8
     clear hown l0 hcells hh8 hbl
     go_wp2_with (at_builtin;refine wpList_append_own _ rfl (.tmp 99) (.tmp 100) 38 rfl w.heap.size 3 i0 (.int .i64 0) 1 8 Tryz.underlying38 hi0 hz0 hz1 hz2 rfl (by decide) _ 0 [] rfl (World.ownsRow_nil _ _ _ _) ⟨gh,oh,none⟩ 8 ch (i64s S.toList) rfl rfl (uh HH8).news (mem_ints _) ?c3 ?c4 ?c5 ?_)
     case c3=>unfold maxLen;omega
     case c4=>omega
     case c5=>first | omega | (simp;omega)
     intro v' w1 hown' hgrow _
     have hb1:Below wr.heap.size wr w1:=grown_same hgrow (Nat.le_refl _)
     obtain ⟨gv,cv,hv,hgv1,hgv2,hv8⟩:=own_holds (by simpa using hown')
     subst hv
     have HV8:=hide hv8
     have HB1:=hide hb1
     have hz1':=hb1.size
     clear hown' hgrow hv8 hb1
     go_wp2
     obtain ⟨wo,rfl⟩:∃ wo:World,wo=wr:=⟨_,rfl⟩
     go_loopw [16,17] (fun v t wr=>∃ (k gv cv:Nat),k≤64∧t=.int .i64 k∧v=.slice (some ⟨gv,0,none⟩) 8 cv∧gv<wr.heap.size∧Holds8 wr gv 0 (Sha.run W S k)∧Below w1.heap.size w1 wr) (fun _ t _=>64-(intOf t).toNat)
     case atStart=>exact ⟨0,gv,cv,Nat.zero_le _,rfl,rfl,hgv2,uh HV8,Below.refl _ _⟩
     case round =>
      clear HV8 hgv1 hgv2
      obtain ⟨k,gv,cv,hk,rfl,rfl,hgv2,hv8,hbl⟩:=hrel
      by_cases hlt:k<64
      ·-- round4
       have hrk:=Sha.run_ok W (uh HS) k
       have E1:=hide (show Sha.run W S (k+1)=Sha.step (Sha.run W S k) (Sha.K.getD k 0) (W.getD k 0) from rfl)
       have rK:R (Sha.K.getD k 0):=Sha.getD_R Sha.K_all k
       have rW:R (W.getD k 0):=Sha.getD_R (uh hall) k
       have cW:wr.cell? ⟨g,k,none⟩=some (.int .i64 (W.getD k 0)):=((hbl.cell (p:=⟨g,k,none⟩) (by show g<w1.heap.size;omega)).trans ((uh HB1).cell (p:=⟨g,k,none⟩) hg2)).trans (uh HC k (by omega))
       have cK:wr.cell? ⟨gk,ok+k,none⟩=some (.int .i64 (Sha.K.getD k 0)):=((hbl.cell (p:=⟨gk,ok+k,none⟩) (by show gk<w1.heap.size;omega)).trans ((uh HB1).cell (p:=⟨gk,ok+k,none⟩) (by show gk<wo.heap.size;omega))).trans (((uh Hl).cell (p:=⟨gk,ok+k,none⟩) hgk).trans (uh HK k hlt))
       generalize Sha.K.getD k 0=kk at *
       generalize W.getD k 0=ww at *
       generalize hrun:Sha.run W S k=T at *
       have Hrun:=hide hrun
       clear hrun
       obtain ⟨a,b,c,d,e,f,g',h⟩:=T
       have z0:wr.cell? ⟨gv,0,none⟩=some (.int .i64 a):=hv8 0 (by decide)
       have z1:wr.cell? ⟨gv,1,none⟩=some (.int .i64 b):=hv8 1 (by decide)
       have z2:wr.cell? ⟨gv,2,none⟩=some (.int .i64 c):=hv8 2 (by decide)
       have z3:wr.cell? ⟨gv,3,none⟩=some (.int .i64 d):=hv8 3 (by decide)
       have z4:wr.cell? ⟨gv,4,none⟩=some (.int .i64 e):=hv8 4 (by decide)
       have z5:wr.cell? ⟨gv,5,none⟩=some (.int .i64 f):=hv8 5 (by decide)
       have z6:wr.cell? ⟨gv,6,none⟩=some (.int .i64 g'):=hv8 6 (by decide)
       have z7:wr.cell? ⟨gv,7,none⟩=some (.int .i64 h):=hv8 7 (by decide)
       obtain ⟨ra,rb,rc,rd,re,rf,rg,rh⟩:=hrk
       dsimp only at ra rb rc rd re rf rg rh
       have f1:bits .xor .i64 (bits .xor .i64 (Sha.rot 6 e) (Sha.rot 11 e)) (Sha.rot 25 e)=Sha.b1 e:=xor3_i64 (Sha.rot_R (by decide) re) (Sha.rot_R (by decide) re) (Sha.rot_R (by decide) re)
       have f2:bits .xor .i64 (bits .xor .i64 (Sha.rot 2 a) (Sha.rot 13 a)) (Sha.rot 22 a)=Sha.b0 a:=xor3_i64 (Sha.rot_R (by decide) ra) (Sha.rot_R (by decide) ra) (Sha.rot_R (by decide) ra)
       have f3:bits .xor .i64 (bits .and .i64 e f) (bits .and .i64 (4294967295-e) g')=Sha.ch e f g':=by
        rw [and_i64 re rf,and_i64 (Sha.not_R re) rg,xor_i64 (Sha.and_R re) (Sha.and_R (Sha.not_R re))];rfl
       have f4:bits .xor .i64 (bits .xor .i64 (bits .and .i64 a b) (bits .and .i64 a c)) (bits .and .i64 b c)=Sha.maj a b c:=by
        rw [and_i64 ra rb,and_i64 ra rc,and_i64 rb rc,xor3_i64 (Sha.and_R ra) (Sha.and_R ra) (Sha.and_R rb)];rfl
       have E2:=hide (show Sha.step ⟨a,b,c,d,e,f,g',h⟩ kk ww=⟨(h+Sha.b1 e+Sha.ch e f g'+kk+ww+(Sha.b0 a+Sha.maj a b c)) % 4294967296,a,b,c,(d+(h+Sha.b1 e+Sha.ch e f g'+kk+ww)) % 4294967296,e,f,g'⟩ from rfl)
       obtain ⟨t1a,t1b⟩:=Sha.b1_R re
       obtain ⟨t2a,t2b⟩:=Sha.b0_R ra
       obtain ⟨t3a,t3b⟩:=Sha.ch_R (f:=f) (g:=g') re
       obtain ⟨t4a,t4b⟩:=Sha.maj_R (c:=c) ra rb
       generalize Sha.b1 e=X1 at *
       generalize Sha.b0 a=Y1 at *
       generalize Sha.ch e f g'=X2 at *
       generalize Sha.maj a b c=Y2 at *
       obtain ⟨ra0,ra1⟩:=ra
       obtain ⟨rb0,rb1⟩:=rb
       obtain ⟨rc0,rc1⟩:=rc
       obtain ⟨rd0,rd1⟩:=rd
       obtain ⟨re0,re1⟩:=re
       obtain ⟨rf0,rf1⟩:=rf
       obtain ⟨rg0,rg1⟩:=rg
       obtain ⟨rh0,rh1⟩:=rh
       obtain ⟨rK0,rK1⟩:=rK
       obtain ⟨rW0,rW1⟩:=rW
       have u1:IntKind.i64.wrap (4294967295-e)=4294967295-e:=wrap_i64_s (by omega) (by omega)
       have u2:IntKind.i64.wrap (h+X1)=h+X1:=wrap_i64_s (by omega) (by omega)
       have u3:IntKind.i64.wrap (h+X1+X2)=h+X1+X2:=wrap_i64_s (by omega) (by omega)
       have u4:IntKind.i64.wrap (h+X1+X2+kk)=h+X1+X2+kk:=wrap_i64_s (by omega) (by omega)
       have u5:IntKind.i64.wrap (h+X1+X2+kk+ww)=h+X1+X2+kk+ww:=wrap_i64_s (by omega) (by omega)
       have u6:IntKind.i64.wrap (h+X1+X2+kk+ww+(Y1+Y2))=h+X1+X2+kk+ww+(Y1+Y2):=wrap_i64_s (by omega) (by omega)
       have u7:IntKind.i64.wrap (d+(h+X1+X2+kk+ww))=d+(h+X1+X2+kk+ww):=wrap_i64_s (by omega) (by omega)
       have u8:(h+X1+X2+kk+ww+(Y1+Y2)).tmod 4294967296=(h+X1+X2+kk+ww+(Y1+Y2)) % 4294967296:=Int.tmod_eq_emod_of_nonneg (by omega)
       have u9:(d+(h+X1+X2+kk+ww)).tmod 4294967296=(d+(h+X1+X2+kk+ww)) % 4294967296:=Int.tmod_eq_emod_of_nonneg (by omega)
       have i64k:(k:Int)<64:=by omega
       have HL2:=hide hbl
       have HV8:=hide hv8
       have hsz2:=hbl.size
       clear hbl hv8
       go_wp2_with (go_at_call 159;refine (turn_ref _ _ _ ?_ ?_ ?_ ?_).mono ?_ <;> first | omega | (rintro e w' ⟨rfl,q,rfl⟩))
       go_quiet (fail)
       go_wp2
       go_quiet (fail)
       go_wp2_with (go_at_call 159;refine (turn_ref _ _ _ ?_ ?_ ?_ ?_).mono ?_ <;> first | omega | (rintro e w' ⟨rfl,q,rfl⟩))
       go_quiet (fail)
       go_wp2
       go_region_held (fun w'=>w'.cell? ⟨gv,0,none⟩=some (.int .i64 a)∧w'.cell? ⟨gv,1,none⟩=some (.int .i64 b)∧w'.cell? ⟨gv,2,none⟩=some (.int .i64 c)∧w'.cell? ⟨gv,3,none⟩=some (.int .i64 d)∧w'.cell? ⟨gv,4,none⟩=some (.int .i64 e)∧w'.cell? ⟨gv,5,none⟩=some (.int .i64 f)∧w'.cell? ⟨gv,6,none⟩=some (.int .i64 g')) (go_keep) (fail)
       all_goals
        go_wp2
        go_roundw
        case rel =>
         refine ⟨k+1,wr.heap.size,8,by omega,by go_num,rfl,by simp,?_,(below_draws (uh HL2) _).alloc hsz2 _⟩
         rw [uh E1,uh E2]
         exact holds_row (heap_alloc_new _ _)
        case measure=>simp [intOf];omega
      ·-- exit4
       obtain rfl:k=64:=by omega
       have hTok:=Sha.run_ok W (uh HS) 64
       generalize Sha.run W S 64=T at *
       have hS8:Holds8 wr gh oh S:=((uh HH8).below (uh HB1) (by omega)).below hbl (by omega)
       have HS8:=hide hS8
       have HV8:=hide hv8
       have hB0:Below w.heap.size w wr:=((uh Hl).trans ((uh HB1).mono (by omega))).trans (hbl.mono (by omega))
       have HB0:=hide hB0
       have HT:=hide hTok
       have hz3:=hbl.size
       clear hS8 hv8 hB0 hTok
       obtain ⟨wz,hwz⟩:∃ wz:World,wz=wr:=⟨_,rfl⟩
       subst hwz
       go_wp2
       go_loopw [26,27] (fun v t wr=>∃ k:Nat,k≤8∧t=.int .i64 k∧wr.ownsRow wz.heap.size 3 1 v k (i64s ((Sha.sum S T).toList.take k))∧Below wz.heap.size wz wr) (fun _ t _=>8-(intOf t).toNat)
       case atStart=>exact ⟨0,Nat.zero_le _,rfl,World.ownsRow_nil _ _ _ _,Below.refl _ _⟩
       case round =>
        obtain ⟨k,hk,rfl,hown,hbl2⟩:=hrel
        by_cases hlt:k<8
        ·-- round5
         have cS:wr.cell? ⟨gh,oh+k,none⟩=some (.int .i64 (S.toList.getD k 0)):=(uh HS8).below hbl2 (by omega) k hlt
         have cT:wr.cell? ⟨gv,k,none⟩=some (.int .i64 (T.toList.getD k 0)):=by have:=(uh HV8).below hbl2 hgv2 k hlt;rwa [Nat.zero_add] at this
         have HE:=hide (show i64s ((Sha.sum S T).toList.take (k+1))=i64s ((Sha.sum S T).toList.take k)++[.int .i64 ((S.toList.getD k 0+T.toList.getD k 0) % 4294967296)] by
          rw [take_next (by exact hlt),sum_get S T hlt];simp [i64s])
         have rS:=st_R (uh HS) k
         have rT:=st_R (uh HT) k
         generalize S.toList.getD k 0=x at *
         generalize T.toList.getD k 0=y at *
         obtain ⟨rS0,rS1⟩:=rS
         obtain ⟨rT0,rT1⟩:=rT
         have a1:IntKind.i64.wrap (x+y)=x+y:=wrap_i64_s (by omega) (by omega)
         have a2:(x+y).tmod 4294967296=(x+y) % 4294967296:=Int.tmod_eq_emod_of_nonneg (by omega)
         have hm3:=hide (And.intro (show k+1≤maxLen by unfold maxLen;omega) (show (k+1)*8≤140737488355328 by omega))
         have HO:=hide hown
         have Hl2:=hide hbl2
         have hsz:=hbl2.size
         have i8k:(k:Int)<8:=by omega
         clear hown hbl2
         go_wp2
         go_region_law (refine step_append_own rfl (.tmp 212) (.tmp 223) 38 rfl wz.heap.size 3 i0 (.int .i64 0) 1 8 Tryz.underlying38 hi0 hz0 hz1 hz2 rfl (by decide) u26 k (i64s ((Sha.sum S T).toList.take k)) ?_ ?_ ⟨wr.heap.size,0,none⟩ 1 1 [.int .i64 ((x+y) % 4294967296)] ?_ rfl ?_ ?_ (uh hm3).1 (uh hm3).2 ?_ ?_;(simp [Act.eval]);(exact own_any ((uh HO).alloc _) rfl);(simp [Act.eval]);(exact cell_one_any (W0:=wr) rfl);(exact mem_one rfl);(first | omega | (simp;omega));(intro v' w2 hown' hgrow _))
         all_goals
          have hb2:Below wz.heap.size wz w2:=by
           refine grown_any hgrow ?_ (own_any ((uh HO).alloc _) rfl) ?_
           ·first | exact below_draws ((uh Hl2).alloc hsz _) _ | exact (below_draws (uh Hl2) _).alloc hsz _
           ·first | omega | (simp;omega)
          have Hb2:=hide hb2
          have Hown':=hide hown'
          clear hb2 hown' hgrow
          go_wp2
          go_roundw
          case rel =>
           have rel:∃ k_1:Nat,k_1≤8∧(Value.int .i64 ((k:Int)+1))=.int .i64 (k_1:Int)∧w2.ownsRow wz.heap.size 3 1 v' k_1 (i64s ((Sha.sum S T).toList.take k_1))∧Below wz.heap.size wz w2:=by
            refine ⟨k+1,by omega,by go_num,?_,uh Hb2⟩
            rw [uh HE]
            exact uh Hown'
           first | exact rel | ((repeat apply Exists.intro);exact ⟨rel,rfl⟩)
          case measure=>simp [intOf];omega
        ·-- exit5
         obtain rfl:k=8:=by omega
         go_wp2
         go_ret
         refine ⟨_,rfl,?_,(uh HB0).trans (hbl2.mono (by have:=(uh HB0).size;omega))⟩
         rw [uh HW]
         exact own_base hown (uh HB0).size
end Go.Proofs.YtlbacbcenejngaaGreatDoor
