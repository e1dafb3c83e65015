/-
  Dig
-/
import Derived.Test.YtlbacbcenejngaaGreatDoorV17
import Derived.Test.YtlbacbcenejngaaGreatDoorV18
import Derived.Test.YtlbacbcenejngaaGreatDoorV16
import Derived.Test.YtlbacbcenejngaaGreatDoorV15
namespace Go.Proofs.YtlbacbcenejngaaGreatDoor
open Go.RowKit
open Sha (R)
theorem holds_K {w:World} {g:Nat} (h:w.heap[g]?=some (.cells (i64s Sha.K).toArray 3 (0,0))):∀ i,i<64→w.cell? ⟨g,0+i,none⟩=some (.int .i64 (Sha.K.getD i 0)):=by
 intro i hi
 rw [Nat.zero_add,cell_of_row _ _ _ _ _ _ h,List.getElem?_toArray,List.getElem?_map,List.getD_eq_getElem?_getD,List.getElem?_eq_getElem (show i<Sha.K.length from hi)]
 rfl
structure Lines (w wx:World):Prop where
 r:wx.heap[w.heap.size]?=some (.cells (brow (List.replicate 32 0)) 29 (0,0))
 h:Holds8 wx (w.heap.size+1) 0 Sha.start
 k:∀ i,i<64→wx.cell? ⟨w.heap.size+1+1,0+i,none⟩=some (.int .i64 (Sha.K.getD i 0))
 size:w.heap.size+3≤wx.heap.size
 kept:Kept w.heap.size w wx
theorem lines_start {w w2:World} (h:Kept (w.heap.size+3) (((w.alloc (.cells (brow (List.replicate 32 0)) 29)).alloc (.cells (i64s Sha.start.toList).toArray 3)).alloc (.cells (i64s Sha.K).toArray 3)) w2):Lines w w2:=by
 have b0:(((w.alloc (.cells (brow (List.replicate 32 0)) 29)).alloc (.cells (i64s Sha.start.toList).toArray 3)).alloc (.cells (i64s Sha.K).toArray 3)).heap[w.heap.size]?=some (.cells (brow (List.replicate 32 0)) 29 (0,0)):=by
  rw [Below.heap_alloc _ _ _ (by simp;omega)];exact heap_alloc2_old _ _ _
 have b1:(((w.alloc (.cells (brow (List.replicate 32 0)) 29)).alloc (.cells (i64s Sha.start.toList).toArray 3)).alloc (.cells (i64s Sha.K).toArray 3)).heap[w.heap.size+1]?=some (.cells (i64s Sha.start.toList).toArray 3 (0,0)):=by
  rw [Below.heap_alloc _ _ _ (by simp)];exact heap_alloc2_new _ _ _
 have b2:(((w.alloc (.cells (brow (List.replicate 32 0)) 29)).alloc (.cells (i64s Sha.start.toList).toArray 3)).alloc (.cells (i64s Sha.K).toArray 3)).heap[w.heap.size+1+1]?=some (.cells (i64s Sha.K).toArray 3 (0,0)):=by
  have:=heap_alloc2_new (w.alloc (.cells (brow (List.replicate 32 0)) 29)) (.cells (i64s Sha.start.toList).toArray 3) (.cells (i64s Sha.K).toArray 3)
  simpa only [World.size_alloc] using this
 have hs:=h.size
 simp only [World.size_alloc] at hs
 refine ⟨(h.block _ (by omega)).trans b0,holds_row ((h.block _ (by omega)).trans b1),holds_K ((h.block _ (by omega)).trans b2),by omega,?_⟩
 exact ((((Kept.refl _ _).alloc (Nat.le_refl _) _).alloc (by simp) _).alloc (by simp;omega) _).trans (h.mono (by omega))
theorem padded_size (s:ByteArray):∃ n,(Sha.padded s.data.toList).length=64*n∧(Sha.padded s.data.toList).length≤s.size+72:=by
 have h1:=Sha.room_dvd s.size
 have h2:=Sha.room_bd s.size
 refine ⟨(s.size+Sha.room s.size) / 64,?_,?_⟩ <;> (rw [Sha.padded,List.length_append,Sha.pad_length,size_toList];omega)
set_option maxRecDepth 100000 in
set_option maxHeartbeats 2000000 in
theorem digest_ref (s:ByteArray) (w:World) (hs:s.size≤140737488355000) :
  Calls Tryz.prog 86 #[.string s] w fun e w'=>e=.returned (.agg (brow (Sha.digest s.data.toList)))∧Kept w.heap.size w w':=by
 obtain ⟨n,hn,hnb⟩:=padded_size s
 obtain ⟨P,hP⟩:∃ P:ByteArray,P=⟨(Sha.padded s.data.toList).toArray⟩:=⟨_,rfl⟩
 have hPl:P.data.toList=Sha.padded s.data.toList:=by rw [hP]
 have hPs:P.size=64*n:=by rw [← size_toList,hPl,hn]
 have HF:=hide (show Sha.digest s.data.toList=Sha.out (Sha.fold P.data.toList Sha.start n) by rw [Sha.digest,hPl,hn];simp)
 have HP:=hide hP
 have HPs:=hide hPs
 have hnI:(64*n:Nat)≤140737488355100:=by omega
 clear hn hP hPl hPs hnb
 go_enter Tryz.func86,Tryz.ntmps86
 go_upto_region 3 with (go_at_call 122;refine (constants_ref _).mono ?_;rintro e w' ⟨rfl,rfl⟩)
 go_cut [5] (fun v wx=>v=.string P∧Lines w wx)
 case first =>
  go_wp2_with fail
  refine (padded_ref s _ hs).mono ?_
  rintro e w2 ⟨rfl,hk⟩
  have hL:Lines w w2:=lines_start (hk.mono (by simp))
  have HL:=hide hL
  clear hL hk
  go_wp2
  go_meet
  case rel=>exact ⟨by rw [uh HP],uh HL⟩
 case rest =>
  obtain ⟨rfl,hL⟩:=hcut
  have hPI:(P.size:Int)=64*(n:Int):=by have:=uh HPs;omega
  go_wp2
  go_loopw [3,6] (fun v t wr=>∃ (k g o cap:Nat),k≤n∧t=.int .i64 (64*(k:Int))∧v=.slice (some ⟨g,o,none⟩) 8 cap∧w.heap.size+1≤g∧g<wr.heap.size∧Holds8 wr g o (Sha.fold P.data.toList Sha.start k)∧Below (w.heap.size+3) wc wr) (fun _ t _=>(64*(n:Int)-intOf t).toNat)
  case atStart=>exact ⟨0,w.heap.size+1,0,8,Nat.zero_le _,rfl,rfl,Nat.le_refl _,by have:=hL.size;omega,hL.h,Below.refl _ _⟩
  case round =>
   obtain ⟨k,g,o,cap,hk,rfl,rfl,hg1,hg2,h8,hbl⟩:=hrel
   by_cases hlt:k<n
   ·have hx1:(P.extract (64*k) (64*k+64)).size=64:=by rw [← size_toList,Lib.extract_data,List.length_take,List.length_drop,size_toList,uh HPs];omega
    have hx2:(P.extract (64*k) (64*k+64)).data.toList=Sha.block P.data.toList k:=by rw [Lib.extract_data,Sha.block];congr 1;omega
    have HX2:=hide hx2
    have hkK:∀ i,i<64→wr.cell? ⟨w.heap.size+1+1,0+i,none⟩=some (.int .i64 (Sha.K.getD i 0)):=fun i hi=>(hbl.cell (p:=⟨w.heap.size+1+1,0+i,none⟩) (by show w.heap.size+1+1<w.heap.size+3;omega)).trans (hL.k i hi)
    have hok:=Sha.fold_ok P.data.toList Sha.start_ok k
    have hsz:=hbl.size
    have hLs:=hL.size
    have y1:(64*(k:Int)).toNat=64*k:=by omega
    have y2:(64*(k:Int)+64).toNat=64*k+64:=by omega
    have y3:64*(k:Int)+64≤64*(n:Int):=by omega
    have y4:64*(k:Int)<64*(n:Int):=by omega
    have HH:=hide (And.intro h8 (And.intro hkK (And.intro hok (And.intro hbl hL))))
    have Hx1:=hide hx1
    have hzz:w.heap.size+1+1<wr.heap.size:=by omega
    clear h8 hkK hok hbl hL hx2 hx1
    go_wp2_with fail
    obtain ⟨h8,hkK,hok,hbl,hL⟩:=uh HH
    refine (block_ref (Sha.fold P.data.toList Sha.start k) _ g o cap (w.heap.size+1+1) 0 64 _ hok (uh Hx1) hg2 hzz h8 hkK).mono ?_
    rintro e w2 ⟨v,rfl,hown,hb2⟩
    obtain ⟨g2,cap2,hv,hg21,hg22,h82⟩:=own_holds hown
    subst hv
    rw [uh HX2] at h82
    have H82:=hide h82
    have HB2:=hide (hbl.trans (hb2.mono (by omega)))
    clear hown h82 hb2 h8 hkK hok hbl hL HH
    go_wp2
    go_roundw
    case rel =>
     have rel:∃ (k' g o cap:Nat),k'≤n∧(Value.int .i64 (64*(k:Int)+64))=.int .i64 (64*(k':Int))∧(Value.slice (some ⟨g2,0,none⟩) 8 cap2)=.slice (some ⟨g,o,none⟩) 8 cap∧w.heap.size+1≤g∧g<w2.heap.size∧Holds8 w2 g o (Sha.fold P.data.toList Sha.start k')∧Below (w.heap.size+3) wc w2 :=
      ⟨k+1,g2,0,cap2,by omega,by go_num,rfl,by omega,hg22,uh H82,uh HB2⟩
     first | exact rel | ((repeat apply Exists.intro);exact ⟨rel,rfl⟩)
    case measure=>simp [intOf];omega
   ·obtain rfl:n=k:=by omega
    have hSok:=hide (Sha.fold_ok P.data.toList Sha.start_ok n)
    generalize Sha.fold P.data.toList Sha.start n=S at *
    have hLs:=hL.size
    have hsz:=hbl.size
    have hzr:wr.heap[w.heap.size]?=some (.cells (brow (List.replicate 32 0)) 29 (0,0)):=(hbl.block _ (by omega)).trans hL.r
    have hke:Kept w.heap.size w wr:=hL.kept.trans (.of (hbl.mono (by omega)))
    have H8:=hide h8
    have HZ:=hide hzr
    have HK:=hide hke
    clear h8 hzr hke hbl hL
    go_wp2
    obtain ⟨wz,hwz⟩:∃ wz:World,wz=wr:=⟨_,rfl⟩
    subst hwz
    go_loopw [8] (fun t wr=>∃ k:Nat,k≤32∧t=.int .i64 k∧wr.heap[wz.heap.size]?=some (.cells (brow (outTo S k)) 29 (0,0))∧Below wz.heap.size wz wr) (fun t _=>32-(intOf t).toNat)
    case atStart=>exact ⟨0,Nat.zero_le _,rfl,heap_alloc_new _ _,(Below.refl _ _).alloc (Nat.le_refl _) _⟩
    case round =>
     obtain ⟨k,hk32,rfl,hc,hbl⟩:=hrel
     by_cases hlt:k<32
     ·have hcx:wr.cell? ⟨g,o+k / 4,none⟩=some (.int .i64 (S.toList.getD (k / 4) 0)):=(uh H8).below hbl hg2 (k / 4) (by omega)
      have hR:=st_R (uh hSok) (k / 4)
      have hob:=hide (out_byte S (k / 4) (k % 4) (by omega) _ rfl hR.1)
      generalize S.toList.getD (k / 4) 0=x at *
      obtain ⟨x0,x1⟩:=hR
      obtain ⟨X,hX⟩:∃ X:Nat,x=X:=⟨x.toNat,by omega⟩
      subst hX
      have hcw:wr.cell? ⟨wz.heap.size,k,none⟩=some (.int .u8 (((outTo S k).getD k 0).toNat:Int)):=(cell_of_row _ _ _ _ _ _ hc).trans (brow_get (by rw [outTo_length];omega))
      have hfw:=frozen_of_row _ _ k _ _ hc
      generalize (((outTo S k).getD k 0).toNat:Int)=old at *
      have HC:=hide hc
      have HBL:=hide hbl
      clear hc hbl
      have t2:(k:Int) / 4<8:=by omega
      have t3:0≤(k:Int) / 4:=by omega
      have Hlt:=hide hlt
      clear hlt
      have hltI:(k:Int)<32:=by have:=uh Hlt;omega
      go_wp2
      go_loop [9,10] (fun nn j=>∃ m:Nat,m≤3-k % 4∧j=.int .i64 ((k % 4+m:Nat):Int)∧nn=.int .i64 ((X / 256^m:Nat):Int)) (fun _ j=>3-(intOf j).toNat)
      case atStart=>exact ⟨0,Nat.zero_le _,by go_num,by simp⟩
      case round =>
       obtain ⟨m,hm,rfl,rfl⟩:=hrel
       have hdn:=hide (div_next X m)
       have hXb:X / 256^m≤X:=Nat.div_le_self _ _
       obtain ⟨J,hJ⟩:∃ J:Nat,J=k % 4+m:=⟨_,rfl⟩
       rw [← hJ]
       have HJ:=hide hJ
       have HY:=hide (show (X / 256^m)=X / 256^m from rfl)
       generalize hY:X / 256^m=Y at *
       by_cases hm3:m<3-k % 4
       ·have hJ3:(J:Int)<3:=by omega
        clear hJ hY
        go_wp2
        go_round
        case rel=>exact ⟨m+1,by omega,by have:=uh HJ;go_num,by rw [uh hdn];go_num⟩
        case measure=>have:=uh HJ;simp [intOf];omega
       ·have hJ3:¬ (J:Int)<3:=by omega
        have hm4:m=3-k % 4:=by omega
        have HYY:=hide hY
        have HM4:=hide hm4
        clear hJ hY hm4
        go_wp2
        go_roundw
        case rel =>
         refine ⟨k+1,by have:=uh Hlt;omega,by go_num,?_,?_⟩
         ·refine put_out (uh HC) (uh Hlt) ?_
          have h1:=uh hob
          rw [show 4*(k / 4)+k % 4=k by omega] at h1
          rw [← h1,← uh HYY,uh HM4]
          simp
         ·exact (uh HBL).setCell (Nat.le_refl _) _
        case measure=>simp [intOf];omega
     ·obtain rfl:k=32:=by omega
      rw [outTo_end] at hc
      have hl1:=Sha.out_length S
      have hzr2:wr.heap[w.heap.size]?=some (.cells (brow (List.replicate 32 0)) 29 (0,0)):=(hbl.block _ (by omega)).trans (uh HZ)
      have HK2:=hide ((uh HK).trans (.of (hbl.mono (by omega))))
      generalize hL:Sha.out S=L at *
      have sz:(brow L).size=32:=by rw [brow_size,hl1]
      have hi:(Tryz.prog.info? 29).map (·.size)=some (brow L).size:=by rw [sz];exact info29
      have ho:(brow (List.replicate 32 0)).size=(brow L).size:=by rw [sz];rfl
      clear hL sz
      go_wp2_with (refine wpList_load_row rfl 29 _ rfl wz.heap.size rfl 29 (brow L) (0,0) _ hc Tryz.underlying29 rfl hi ?_;refine wpList_store_row rfl 29 _ _ rfl w.heap.size (brow L) rfl rfl 29 _ hzr2 hi ho (brow_one _) ?_)
      refine bodyPost_ret (v:=.agg (brow L)) (results_cell_row Tryz.results86 _ _ w.heap.size 29 (brow L) (0,0) _ rfl (setRow_heap _ _ _ _ _ _ hzr2) Tryz.underlying29 rfl hi) rfl ⟨by rw [uh HF],?_⟩
      exact (uh HK2).setRow (Nat.le_refl _) _
end Go.Proofs.YtlbacbcenejngaaGreatDoor
