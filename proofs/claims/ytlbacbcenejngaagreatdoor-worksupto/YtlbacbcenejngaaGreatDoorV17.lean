/-
  Of
-/
import Derived.Test.YtlbacbcenejngaaGreatDoorV12
import Derived.Test.YtlbacbcenejngaaGreatDoorV10
import Derived.Deep.DeepCutAuto
namespace Go.Proofs.YtlbacbcenejngaaGreatDoor
open Go.RowKit
open Sha (R)
theorem info29:(Tryz.prog.info? 29).map (·.size)=some 32:=by kernel_rfl
structure Two (w:World) (S:Sha.St) (wx:World):Prop where
 r:wx.heap[w.heap.size]?=some (.cells (brow (List.replicate 32 0)) 29 (0,0))
 h:wx.heap[w.heap.size+1]?=some (.cells (st S) 134 (0,0))
 size:w.heap.size+2≤wx.heap.size
 below:Below w.heap.size w wx
theorem Two.after {w:World} {S:Sha.St} {wx w2:World} (j:Two w S wx) (hb:Below wx.heap.size wx w2) (T:Sha.St) :
  Two w T ((((((((w2.setCell ⟨w.heap.size+1,0,none⟩ (.int .u32 T.a)).setCell ⟨w.heap.size+1,1,none⟩ (.int .u32 T.b)).setCell ⟨w.heap.size+1,2,none⟩ (.int .u32 T.c)).setCell ⟨w.heap.size+1,3,none⟩ (.int .u32 T.d)).setCell ⟨w.heap.size+1,4,none⟩ (.int .u32 T.e)).setCell ⟨w.heap.size+1,5,none⟩ (.int .u32 T.f)).setCell ⟨w.heap.size+1,6,none⟩ (.int .u32 T.g)).setCell ⟨w.heap.size+1,7,none⟩ (.int .u32 T.h)):=by
 have hs:=j.size
 have h2:=hb.size
 refine ⟨?_,?_,?_,?_⟩
 ·exact (set8_other _ _ _ _ _ _ _ _ (by omega)).trans ((hb.block _ (by omega)).trans j.r)
 ·exact set8 _ _ _ _ _ _ _ _ _ _ _ _ _ _ _ _ ((hb.block _ (by omega)).trans j.h)
 ·simp;omega
 ·exact set8_below _ _ _ _ _ _ _ _ (j.below.trans (hb.mono (by omega))) (by omega)
theorem fold_pad (l:List UInt8) (m r:Nat) (hm:64*m≤l.length) (hr:(l.length-64*m)+Sha.room l.length=64*r) :
  Sha.fold (Sha.padded l) Sha.start ((Sha.padded l).length / 64)=Sha.fold (l.drop (64*m)++Sha.pad l.length) (Sha.fold (l.take (64*m)) Sha.start m) r:=by
 have h1:(Sha.padded l).length / 64=m+r:=by
  rw [Sha.padded,List.length_append,Sha.pad_length];omega
 have h2:Sha.padded l=l.take (64*m)++(l.drop (64*m)++Sha.pad l.length):=by
  rw [Sha.padded,← List.append_assoc,List.take_append_drop]
 rw [h1,h2]
 exact Sha.fold_append _ _ _ _ _ (by rw [List.length_take];omega)
theorem Two.cells {w:World} {a b c d e f g h:Int} {wx:World} (j:Two w ⟨a,b,c,d,e,f,g,h⟩ wx) :
  wx.cell? ⟨w.heap.size+1,0,none⟩=some (.int .u32 a)∧wx.cell? ⟨w.heap.size+1,1,none⟩=some (.int .u32 b)∧wx.cell? ⟨w.heap.size+1,2,none⟩=some (.int .u32 c)∧wx.cell? ⟨w.heap.size+1,3,none⟩=some (.int .u32 d) ∧
  wx.cell? ⟨w.heap.size+1,4,none⟩=some (.int .u32 e)∧wx.cell? ⟨w.heap.size+1,5,none⟩=some (.int .u32 f)∧wx.cell? ⟨w.heap.size+1,6,none⟩=some (.int .u32 g)∧wx.cell? ⟨w.heap.size+1,7,none⟩=some (.int .u32 h) ∧
  (∀ o,wx.frozen? ⟨w.heap.size+1,o,none⟩=false) :=
 ⟨cell_of_row _ _ _ _ _ _ j.h,cell_of_row _ _ _ _ _ _ j.h,cell_of_row _ _ _ _ _ _ j.h,cell_of_row _ _ _ _ _ _ j.h,cell_of_row _ _ _ _ _ _ j.h,cell_of_row _ _ _ _ _ _ j.h,cell_of_row _ _ _ _ _ _ j.h,cell_of_row _ _ _ _ _ _ j.h,fun o=>frozen_of_row _ _ o _ _ j.h⟩
def outTo (S:Sha.St) (m:Nat):List UInt8:=(List.range 32).map fun j=>if j<m then Sha.outByte S j else 0
theorem outTo_length (S:Sha.St) (m:Nat):(outTo S m).length=32:=by simp [outTo]
theorem outTo_end (S:Sha.St):outTo S 32=Sha.out S:=by
 apply List.map_congr_left
 intro j hj
 rw [if_pos (by simpa using hj)]
theorem outTo_set (S:Sha.St) {m:Nat} (h:m<32):(outTo S m).set m (Sha.outByte S m)=outTo S (m+1):=by
 apply List.ext_getElem?
 intro j
 simp only [outTo,List.getElem?_set,List.getElem?_map,List.length_map,List.length_range]
 by_cases hj:m=j
 ·subst hj;simp [h]
 ·rw [if_neg hj]
  by_cases h8:j<32
  ·simp only [List.getElem?_range h8,Option.map_some]
   by_cases h1:j<m
   ·rw [if_pos h1,if_pos (by omega)]
   ·rw [if_neg h1,if_neg (by omega)]
  ·simp [h8]
theorem put_out {wr:World} {g m:Nat} {S:Sha.St} {t:TypeId} (hc:wr.heap[g]?=some (.cells (brow (outTo S m)) t (0,0))) (hm:m<32) {x:Int} (hx:x=((Sha.outByte S m).toNat:Int)) :
  (wr.setCell ⟨g,m,none⟩ (.int .u8 x)).heap[g]?=some (.cells (brow (outTo S (m+1))) t (0,0)):=by
 rw [heap_setCell_same _ _ _ _ _ _ hc,brow_set hx,outTo_set S hm]
theorem out_byte (S:Sha.St) (k j:Nat) (hj:j<4) (y:Int) (hy:y=S.toList.getD k 0) (h0:0≤y):y / ((256^(3-j):Nat):Int) % 256=((Sha.outByte S (4*k+j)).toNat:Int):=by
 subst hy
 unfold Sha.outByte
 rw [show (4*k+j) / 4=k by omega,show 3-(4*k+j) % 4=3-j by omega]
 generalize S.toList.getD k 0=y at *
 obtain ⟨n,rfl⟩:∃ n:Nat,y=n:=⟨y.toNat,by omega⟩
 simp
theorem put4 {wr:World} {g k:Nat} {S:Sha.St} {t:TypeId} (hc:wr.heap[g]?=some (.cells (brow (outTo S (4*k))) t (0,0))) (hk:k<8) (y:Int) (hy:y=S.toList.getD k 0) (h0:0≤y) (h1:y<4294967296) :
  ((((wr.setCell ⟨g,4*k,none⟩ (.int .u8 (y / 16777216))).setCell ⟨g,4*k+1,none⟩ (.int .u8 (y / 65536 % 256))).setCell ⟨g,4*k+2,none⟩ (.int .u8 (y / 256 % 256))).setCell ⟨g,4*k+3,none⟩ (.int .u8 (y % 256))).heap[g]?=some (.cells (brow (outTo S (4*(k+1)))) t (0,0)):=by
 have q0:y / 16777216 % 256=_:=out_byte S k 0 (by decide) y hy h0
 have q1:y / 65536 % 256=_:=out_byte S k 1 (by decide) y hy h0
 have q2:y / 256 % 256=_:=out_byte S k 2 (by decide) y hy h0
 have q3:y / 1 % 256=_:=out_byte S k 3 (by decide) y hy h0
 rw [Int.ediv_one] at q3
 rw [show y / 16777216 % 256=y / 16777216 by omega] at q0
 have a0:=put_out hc (by omega) q0
 have a1:=put_out a0 (by omega) q1
 have a2:=put_out a1 (by omega) q2
 exact put_out a2 (by omega) q3
theorem index_st (S:Sha.St) {k:Nat} (h:k<8) (W:World):(Instr.index 134 (.agg (st S)) (.int .i64 (k:Int))).run Tryz.prog W=.ok (.int .u32 (S.toList.getD k 0)) W:=by
 rcases (show k=0∨k=1∨k=2∨k=3∨k=4∨k=5∨k=6∨k=7 by omega) with rfl | rfl | rfl | rfl | rfl | rfl | rfl | rfl <;> kernel_rfl
theorem toList_R {S:Sha.St} (h:S.Ok) (k:Nat):R (S.toList.getD k 0):=by
 refine Sha.getD_R (fun x hx=>?_) k
 simp only [Sha.St.toList,List.mem_cons,List.not_mem_nil,or_false] at hx
 rcases hx with rfl | rfl | rfl | rfl | rfl | rfl | rfl | rfl <;> first | exact h.a | exact h.b | exact h.c | exact h.d | exact h.e | exact h.f | exact h.g | exact h.h
set_option maxRecDepth 100000 in
set_option maxHeartbeats 1000000 in
theorem of_go (s:ByteArray) (w:World) (hs:s.size≤140737488355000) (hT:Table w) (hz:0<w.heap.size) :
  Calls Tryz.prog 35 #[.string s] w fun e w'=>e=.returned (.agg (brow (Sha.digest s.data.toList)))∧Below w.heap.size w w':=by
 have HT:=hide hT
 clear hT
 obtain ⟨m,hm⟩:∃ m,m=s.size / 64:=⟨_,rfl⟩
 have Hm:=hide hm
 have hms:64*(m:Int)≤(s.size:Int):=by omega
 clear hm
 go_enter Tryz.func35,Tryz.ntmps35
 go_upto_region 2 with fail
 go_cut [4] (fun v wx=>v=.int .i64 (64*(m:Int))∧Two w Sha.start wx)
 case first =>
  go_wp2_with fail
  go_meet
  case rel =>
   refine ⟨congrArg (Value.int .i64) (by have:=uh Hm;omega),heap_alloc2_old _ _ _,heap_alloc2_new _ _ _,by simp,((Below.refl _ _).alloc (Nat.le_refl _) _).alloc (by simp) _⟩
 case rest =>
  obtain ⟨rfl,j⟩:=hcut
  have hok:=Sha.start_ok
  have e1:(64*(m:Int)).toNat=64*m:=by omega
  have x1:(s.extract 0 (64*m)).size=64*m:=by rw [← size_toList,Lib.extract_data];simp;omega
  have x1':(s.extract 0 (64*m)).data.toList=s.data.toList.take (64*m):=by rw [Lib.extract_data];simp
  have X1:=hide x1
  have X1':=hide x1'
  clear x1 x1'
  obtain ⟨S1,hS1⟩:∃ S1,S1=Sha.fold (s.data.toList.take (64*m)) Sha.start m:=⟨_,rfl⟩
  have HS1:=hide hS1
  have hok1:S1.Ok:=hS1 ▸ Sha.fold_ok _ hok m
  clear hS1
  go_upto_region 3 with fail
  go_cut [] (fun wx=>Two w S1 wx)
  case first =>
   generalize hS0:Sha.start=S0 at *
   have HS0:=hide hS0
   clear hS0
   have Hok:=hide hok
   have Hok1:=hide hok1
   clear hok hok1
   obtain ⟨sa,sb,sc,sd,se,sf,sg,sh⟩:=S0
   obtain ⟨z0,z1,z2,z3,z4,z5,z6,z7,zf⟩:=j.cells
   have hTr:=hide ((uh HT).below j.below hz)
   have hB:w.heap.size+1<wc.heap.size:=by have:=j.size;omega
   have J:=hide j
   clear j
   go_region_with ((go_at_call 69;go_must (refine (in_go ⟨sa,sb,sc,sd,se,sf,sg,sh⟩ _ m _ (uh Hok) (uh X1) ?_ ?_ ?_).mono ?_;(have:=uh X1;omega);exact uh hTr;(show 0<wc.heap.size;omega);rintro e w1 ⟨rfl,hb1'⟩;have hb1:Below wc.heap.size wc w1:=undrew hb1';clear hb1';have hc1:∀ o,w1.cell? ⟨w.heap.size+1,o,none⟩=wc.cell? ⟨w.heap.size+1,o,none⟩:=fun o=>hb1.cell (p:=⟨w.heap.size+1,o,none⟩) hB;have hf1:∀ o,w1.frozen? ⟨w.heap.size+1,o,none⟩=false:=fun o=>(hb1.frozen (p:=⟨w.heap.size+1,o,none⟩) hB).trans (zf o);rw [st_eq (Sha.fold _ _ _)])))
   all_goals
    go_wp2_with fail
    go_meet
    case rel =>
     rw [uh HS1]
     exact (uh J).after hb1 _
  case rest =>
   have j1:Two w S1 wc:=hcut
   clear hcut j
   obtain ⟨r,hr⟩:∃ r,(s.size-64*m)+Sha.room s.size=64*r:=by
    have h1:=Sha.room_dvd s.size
    have h2:=uh Hm
    exact ⟨((s.size-64*m)+Sha.room s.size) / 64,by omega⟩
   have hrb:=Sha.room_bd s.size
   obtain ⟨c,hc⟩:∃ c:ByteArray,c=s.extract (64*m) s.size++⟨(Sha.pad s.size).toArray⟩:=⟨_,rfl⟩
   have hcl:c.data.toList=s.data.toList.drop (64*m)++Sha.pad s.size:=by
    rw [hc,ByteArray.data_append,Array.toList_append,Lib.extract_data,List.take_of_length_le (by simp)]
   have hcs:c.size=64*r:=by
    rw [← size_toList,hcl,List.length_append,List.length_drop,size_toList,Sha.pad_length,hr]
   obtain ⟨S2,hS2⟩:∃ S2,S2=Sha.fold c.data.toList S1 r:=⟨_,rfl⟩
   have HS2:=hide hS2
   have Hc:=hide hc
   have Hcl:=hide hcl
   have Hcs:=hide hcs
   have Hrr:=hide hr
   clear hS2 hc hcl hcs hr hok
   have Hok1:=hide hok1
   clear hok1
   go_upto_region 4 with fail
   go_cut [] (fun wx=>Two w S2 wx)
   case first =>
    obtain ⟨sa,sb,sc,sd,se,sf,sg,sh⟩:=S1
    obtain ⟨z0,z1,z2,z3,z4,z5,z6,z7,zf⟩:=j1.cells
    have hTr:=hide ((uh HT).below j1.below hz)
    have hB:w.heap.size+1<wc.heap.size:=by have:=j1.size;omega
    have J:=hide j1
    clear j1
    have hadd:∀ W:World,(Op.stringOp .add (s.extract (64*m) s.size) ⟨(Sha.pad s.size).toArray⟩).run Tryz.prog W=.ok (.string c) W:=fun W=>by
     rw [uh Hc]
     refine run_string_add_sum _ _ _ ?_
     have h1:(s.extract (64*m) s.size).size≤s.size:=by rw [← size_toList,Lib.extract_data,List.length_take,List.length_drop,size_toList];omega
     have h2:(⟨(Sha.pad s.size).toArray⟩:ByteArray).size=Sha.room s.size:=by rw [mk_size,Sha.pad_length]
     omega
    go_region_with (first
     | (go_at_call 70;go_must (refine (padding_go s.size _ ?_).mono ?_;omega;rintro e w1 ⟨rfl,hb1'⟩;have hb1:Below wc.heap.size wc w1:=undrew hb1';clear hb1';have hc1:∀ o,w1.cell? ⟨w.heap.size+1,o,none⟩=wc.cell? ⟨w.heap.size+1,o,none⟩:=fun o=>hb1.cell (p:=⟨w.heap.size+1,o,none⟩) hB;have hs1:=hb1.size;have hT1:=hide ((uh hTr).below hb1 (show 0<wc.heap.size from by omega))))
     | (go_at_call 69;go_must (refine (in_go ⟨sa,sb,sc,sd,se,sf,sg,sh⟩ c r _ (uh Hok1) (uh Hcs) ?_ ?_ ?_).mono ?_;(have:=uh Hcs;have:=uh Hrr;omega);exact uh hT1;omega;rintro e w2 ⟨rfl,hb2⟩;have hc2:∀ o,w2.cell? ⟨w.heap.size+1,o,none⟩=wc.cell? ⟨w.heap.size+1,o,none⟩:=fun o=>(hb2.cell (p:=⟨w.heap.size+1,o,none⟩) (Nat.lt_of_lt_of_le hB hs1)).trans (hc1 o);have hf2:∀ o,w2.frozen? ⟨w.heap.size+1,o,none⟩=false:=fun o=>((hb2.frozen (p:=⟨w.heap.size+1,o,none⟩) (Nat.lt_of_lt_of_le hB hs1)).trans (hb1.frozen (p:=⟨w.heap.size+1,o,none⟩) hB)).trans (zf o);rw [st_eq (Sha.fold _ _ _)])))
    all_goals
     go_wp2_with fail
     go_meet
     case rel =>
      rw [uh HS2]
      exact (uh J).after (hb1.trans (hb2.mono hs1)) _
   case rest =>
    have j2:Two w S2 wc:=hcut
    clear hcut j1
    have hok2:S2.Ok:=by rw [uh HS2];exact Sha.fold_ok _ (uh Hok1) _
    have HF:=hide (show Sha.digest s.data.toList=Sha.out S2 by
     have h1:=fold_pad s.data.toList m r (by rw [size_toList];have:=uh Hm;omega) (by rw [size_toList];exact uh Hrr)
     rw [Sha.digest,h1,uh HS2,uh Hcl,uh HS1,size_toList])
    have Hok2:=hide hok2
    clear hok2
    have J:=hide j2
    have hi91:(Tryz.prog.info? 134).map (·.size)=some (st S2).size:=info134
    obtain ⟨G,hG⟩:∃ G,G=wc.heap.size:=⟨_,rfl⟩
    have HG:=hide hG
    have hload:∀ o,(wc.alloc o).heap[w.heap.size+1]?=some (.cells (st S2) 134 (0,0)):=fun o=>(Below.heap_alloc _ _ _ (by have:=j2.size;omega)).trans j2.h
    clear j2 hG
    go_wp2_with (refine wpList_load_row rfl 134 _ rfl (w.heap.size+1) rfl 134 (st S2) (0,0) _ (hload _) Tryz.underlying134 rfl hi91 ?_)
    go_loopw [30] (fun v wr=>∃ k:Nat,k≤8∧v=.int .i64 k∧wr.heap[wc.heap.size]?=some (.cells (brow (outTo S2 (4*k))) 29 (0,0))∧wr.heap[w.heap.size]?=some (.cells (brow (List.replicate 32 0)) 29 (0,0))∧Below w.heap.size w wr) (fun v _=>8-(intOf v).toNat)
    case atStart =>
     have jj:=uh J
     have hsz:=jj.size
     exact ⟨0,Nat.zero_le _,rfl,heap_alloc_new _ _,(Below.heap_alloc _ _ _ (by omega)).trans jj.r,jj.below.alloc (by omega) _⟩
    case round =>
     obtain ⟨k,hk,rfl,c0,c1,hbl⟩:=hrel
     have hsz:w.heap.size+2≤wc.heap.size:=(uh J).size
     by_cases hlt:k<8
     ·have hix:=index_st S2 hlt
      have hR:=toList_R (uh Hok2) k
      obtain ⟨y,hy⟩:∃ y,y=S2.toList.getD k 0:=⟨_,rfl⟩
      rw [← hy] at hix hR
      have Hy:=hide hy
      clear hy
      obtain ⟨y0,y1⟩:=hR
      have d0:wr.cell? ⟨wc.heap.size,4*k,none⟩=some (.int .u8 (((outTo S2 (4*k)).getD (4*k) 0).toNat:Int)):=(cell_of_row _ _ _ _ _ _ c0).trans (brow_get (by rw [outTo_length];omega))
      have d1:wr.cell? ⟨wc.heap.size,4*k+1,none⟩=some (.int .u8 (((outTo S2 (4*k)).getD (4*k+1) 0).toNat:Int)):=(cell_of_row _ _ _ _ _ _ c0).trans (brow_get (by rw [outTo_length];omega))
      have d2:wr.cell? ⟨wc.heap.size,4*k+2,none⟩=some (.int .u8 (((outTo S2 (4*k)).getD (4*k+2) 0).toNat:Int)):=(cell_of_row _ _ _ _ _ _ c0).trans (brow_get (by rw [outTo_length];omega))
      have d3:wr.cell? ⟨wc.heap.size,4*k+3,none⟩=some (.int .u8 (((outTo S2 (4*k)).getD (4*k+3) 0).toNat:Int)):=(cell_of_row _ _ _ _ _ _ c0).trans (brow_get (by rw [outTo_length];omega))
      generalize (((outTo S2 (4*k)).getD (4*k) 0).toNat:Int)=o0 at *
      generalize (((outTo S2 (4*k)).getD (4*k+1) 0).toNat:Int)=o1 at *
      generalize (((outTo S2 (4*k)).getD (4*k+2) 0).toNat:Int)=o2 at *
      generalize (((outTo S2 (4*k)).getD (4*k+3) 0).toNat:Int)=o3 at *
      have df:∀ o,wr.frozen? ⟨wc.heap.size,o,none⟩=false:=fun o=>frozen_of_row _ _ o _ _ c0
      have C0:=hide c0
      have C1:=hide c1
      have Hl:=hide hbl
      clear c0 c1 hbl
      go_wp2
      go_roundw
      case rel =>
       refine ⟨k+1,by omega,by go_num,?_,?_,?_⟩
       ·exact put4 (uh C0) hlt y (uh Hy) y0 y1
       ·rw [heap_setCell_other _ _ _ _ (by simp;omega),heap_setCell_other _ _ _ _ (by simp;omega),heap_setCell_other _ _ _ _ (by simp;omega),heap_setCell_other _ _ _ _ (by simp;omega)]
        exact uh C1
       ·exact ((((uh Hl).setCell (by simp;omega) _).setCell (by simp;omega) _).setCell (by simp;omega) _).setCell (by simp;omega) _
      case measure=>simp [intOf];omega
     ·obtain rfl:k=8:=by omega
      rw [outTo_end] at c0
      have hl1:=Sha.out_length S2
      generalize hL:Sha.out S2=L at *
      have sz:(brow L).size=32:=by rw [brow_size,hl1]
      have hi:(Tryz.prog.info? 29).map (·.size)=some (brow L).size:=by rw [sz];exact info29
      have ho:(brow (List.replicate 32 0)).size=(brow L).size:=by rw [sz];rfl
      clear hL sz
      go_wp2_with (refine wpList_load_row rfl 29 _ rfl wc.heap.size rfl 29 (brow L) (0,0) _ c0 Tryz.underlying29 rfl hi ?_;refine wpList_store_row rfl 29 _ _ rfl w.heap.size (brow L) rfl rfl 29 _ c1 hi ho (brow_one _) ?_)
      refine bodyPost_ret (v:=.agg (brow L)) (results_cell_row Tryz.results35 _ _ w.heap.size 29 (brow L) (0,0) _ rfl (setRow_heap _ _ _ _ _ _ c1) Tryz.underlying29 rfl hi) rfl ⟨by rw [uh HF],?_⟩
      exact hbl.trans ⟨rfl,rfl,rfl,by simp,fun k hk=>setRow_other _ _ _ _ (by omega)⟩
end Go.Proofs.YtlbacbcenejngaaGreatDoor
