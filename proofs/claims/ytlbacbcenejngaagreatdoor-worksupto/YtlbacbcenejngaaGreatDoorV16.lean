/-
  Rpad
-/
import Derived.Test.YtlbacbcenejngaaGreatDoorV13
import Derived.Deep.DeepCutAuto
import Derived.Deep.DeepMust
namespace Go.Proofs.YtlbacbcenejngaaGreatDoor
open Go.RowKit
def sliceLen:Value→Nat | .slice _ n _=>n | _=>0
def lows (m i:Nat):List UInt8:=(List.range i).map fun k=>UInt8.ofNat (m / 256^k)
theorem lows_succ (m i:Nat):lows m (i+1)=lows m i++[UInt8.ofNat (m / 256^i)]:=by simp [lows,List.range_succ]
theorem lows_length (m i:Nat):(lows m i).length=i:=by simp [lows]
theorem be8_next (m:Nat) {j:Nat} (h:j<8):(Sha.be8 m).take (j+1)=(Sha.be8 m).take j++[UInt8.ofNat (m / 256^(7-j))]:=by
 have hl:(Sha.be8 m).length=8:=by simp [Sha.be8]
 rw [List.take_succ_eq_append_getElem (by omega)]
 simp [Sha.be8]
theorem div_next (m i:Nat):m / 256^(i+1)=m / 256^i / 256:=by rw [Nat.pow_succ,Nat.div_div_eq_div_mul]
set_option maxRecDepth 100000 in
set_option maxHeartbeats 2000000 in
theorem padded_ref (s:ByteArray) (w:World) (hs:s.size≤140737488355000) :
  Calls Tryz.prog 123 #[.string s] w fun e w'=>e=.returned (.string ⟨(Sha.padded s.data.toList).toArray⟩)∧Kept w.heap.size w w':=by
 obtain ⟨i0,hi0,hz0,hz1,hz2⟩:=info_parts info5'
 have hrb:=Sha.room_bd s.size
 have hrd:=Sha.room_dvd s.size
 obtain ⟨z,hz⟩:∃ z,Sha.room s.size=z+9:=⟨Sha.room s.size-9,by omega⟩
 have hz63:z≤63:=by omega
 have hzm:(s.size+1+z) % 64=56:=by omega
 have HR:=hide hz
 clear hrb hrd hz
 go_enter Tryz.func123,Tryz.ntmps123
 go_upto_region 1 with fail
 go_cut [3] (fun v wx=>∃ c,v=.slice (some ⟨w.heap.size,0,none⟩) s.size c∧Byts wx w.heap.size 0 s.size c s.data.toList∧Kept w.heap.size w wx∧w.heap.size<wx.heap.size)
 case first =>
  have hcv:=fun W:World=>run_bytes_of_string (P:=Tryz.prog) W 9 58 5 s Tryz.underlying9 Tryz.underlying58 Tryz.underlying5
  have hge:=hide (grownCap_ge w s.size 0 5)
  have hle:=hide (grownCap_le_maxLen w s.size 0 5 (by unfold maxLen;omega))
  go_wp2_with fail
  go_meet
  case rel =>
   refine ⟨_,rfl,byts_start w _ s _ (uh hge) (uh hle) rfl,?_,by simp⟩
   exact (Kept.refl _ _).trans ⟨rfl,rfl,by simp,fun k hk=>Below.heap_alloc _ _ _ hk⟩
 case rest =>
  obtain ⟨c,rfl,hby,hke,hlt⟩:=hcut
  go_wp2_with (at_builtin;refine wpList_append_byte _ rfl (.tmp 10) (.tmp 11) 58 rfl (hby.carry (Below.heap_alloc _ _ _ hlt) (by simp)) Tryz.underlying58 info5' rfl ⟨wc.heap.size,0,none⟩ 1 128 rfl (cell_one_new _ _ _) ?b1 ?_)
  case b1=>omega
  intro g o cap w1 hg1 hby1 hoth
  have hk1:Kept w.heap.size w w1:=(hke.alloc hke.size _).trans (hoth.kept (Nat.le_refl _) (by have:=hke.size;simp;omega))
  have hgB:w.heap.size≤g:=by
   rcases hg1 with h | h
   ·omega
   ·have:=hke.size;first | omega | (simp at h;omega)
  clear hby hke hoth hg1
  go_wp2
  go_loopw [3] (fun v wr=>∃ (j N g o cap:Nat),j≤z∧N=s.size+1+j∧v=.slice (some ⟨g,o,none⟩) N cap∧w.heap.size≤g∧Byts wr g o N cap (s.data.toList++128::List.replicate j 0)∧Kept w.heap.size w wr) (fun v _=>s.size+65-sliceLen v)
  case atStart=>exact ⟨0,_,g,o,cap,Nat.zero_le _,rfl,rfl,hgB,by simpa using hby1,hk1⟩
  case round =>
   clear hby1 hk1 hgB
   obtain ⟨j,N,g,o,cap,hj,hN,rfl,hgB,hby1,hk1⟩:=hrel
   by_cases hjz:j<z
   ·have hne:((N:Int) % 64 != 56)=true:=by rw [bne_iff_ne];omega
    have HN:=hide hN
    have hNb:N≤140737488355200:=by omega
    have hgl:g<wr.heap.size:=hby1.lt (by have:=hby1.came.le;omega)
    have hsz:=hk1.size
    clear hN
    go_wp2_with (at_builtin;refine wpList_append_byte _ rfl (.tmp 17) (.tmp 18) 58 rfl (hby1.carry (Below.heap_alloc _ _ _ hgl) (by simp)) Tryz.underlying58 info5' rfl ⟨wr.heap.size,0,none⟩ 1 0 rfl (cell_one_new _ _ _) ?b1 ?_)
    case b1=>omega
    intro g2 o2 cap2 w2 hg2 hby2 hoth2
    have hk2:Kept w.heap.size w w2:=(hk1.alloc hsz _).trans (hoth2.kept hgB (by simp;omega))
    have hgB2:w.heap.size≤g2:=by
     rcases hg2 with h | h
     ·omega
     ·first | omega | (simp at h;omega)
    have HB:=hide hby2
    have HK:=hide hk2
    clear hby1 hby2 hk1 hk2 hoth2 hg2
    go_wp2
    go_roundw
    case rel =>
     refine ⟨j+1,N+1,g2,o2,cap2,by omega,by have:=uh HN;omega,rfl,hgB2,?_,uh HK⟩
     have:=uh HB
     simpa [List.replicate_succ'] using this
    case measure=>have:=uh HN;simp [sliceLen];omega
   ·obtain rfl:z=j:=by omega
    have heq:((N:Int) % 64 != 56)=false:=by rw [bne_eq_false_iff_eq];omega
    have HN:=hide hN
    have hNb:N≤140737488355200:=by omega
    clear hN
    go_wp2
    obtain ⟨wz,hwz⟩:∃ wz:World,wz=wr:=⟨_,rfl⟩
    subst hwz
    go_loopw [4,5,6] (fun n v t wr=>∃ (i M:Nat),i≤8∧M=8*s.size / 256^i∧t=.int .i64 i∧n=.int .i64 M∧wr.ownsRow wz.heap.size 5 1 v i (u8s (lows (8*s.size) i))∧Below wz.heap.size wz wr) (fun _ _ t _=>8-(intOf t).toNat)
    case atStart=>exact ⟨0,8*s.size,Nat.zero_le _,by simp,rfl,by simp,World.ownsRow_nil _ _ _ _,Below.refl _ _⟩
    case round =>
     obtain ⟨i,M,hi,hM,rfl,rfl,hown,hbl⟩:=hrel
     have hMb:M≤8*s.size:=by rw [hM];exact Nat.div_le_self _ _
     have HM:=hide hM
     clear hM
     have hsz:=hbl.size
     by_cases hlt8:i<8
     ·have hby:((M:Int) % 256)=((UInt8.ofNat M).toNat:Int):=by simp
      have HBY:=hide hby
      clear hby
      go_wp2_with (at_builtin;refine wpList_append_own _ rfl (.tmp 27) (.tmp 31) 58 rfl wz.heap.size 5 i0 (.int .u8 0) 1 1 Tryz.underlying58 hi0 hz0 hz1 hz2 rfl (by decide) _ i (u8s (lows (8*s.size) i)) rfl (hown.alloc _) ⟨wr.heap.size,0,none⟩ 1 1 [.int .u8 ((M:Int) % 256)] rfl rfl (cell_one_new _ _ _) ?c2 ?c3 ?c4 ?c5 ?_)
      case c2=>first | rfl | exact mem_one rfl
      case c3=>unfold maxLen;omega
      case c4=>omega
      case c5=>first | omega | (simp;omega)
      intro v' w2 hown' hgrow _
      have hb2:=hide (grown_below (hbl.alloc hsz _) (hown.alloc _) (Nat.le_refl _) hgrow (by simp;omega))
      have HO:=hide hown'
      clear hown hown' hgrow hbl
      go_wp2
      go_roundw
      case rel =>
       refine ⟨i+1,M / 256,by omega,by rw [div_next,← uh HM],by go_num,by go_num,?_,uh hb2⟩
       rw [lows_succ,← uh HM]
       have:=uh HO
       rw [uh HBY] at this
       simpa [u8s] using this
      case measure=>simp [intOf];omega
     ·obtain rfl:i=8:=by omega
      obtain ⟨ge,ce,hv,hge1,hge2,hcells⟩:=own_form hown (by decide)
      subst hv
      have hgl:g<wz.heap.size:=hby1.lt (by have:=hby1.came.le;have:=uh HN;omega)
      have hby2:Byts wr g o N cap _:=hby1.carry (hbl.block g hgl) hsz
      have hce:∀ k,k<8→wr.cell? ⟨ge,k,none⟩=some (.int .u8 ((UInt8.ofNat (8*s.size / 256^k)).toNat:Int)):=fun k hk=>by
       rw [hcells k hk,List.getElem?_map,List.getElem?_eq_getElem (by rw [lows_length];exact hk)]
       simp [lows]
      have hk2:Kept w.heap.size w wr:=hk1.trans (.of (hbl.mono hk1.size))
      have hgz:=hk1.size
      clear hown hcells hby1 hbl hk1
      go_wp2
      go_loopw [3,7] (fun v t wr=>∃ (j N g o cap:Nat),j≤8∧N=s.size+1+z+j∧t=.int .i64 (7-(j:Int))∧v=.slice (some ⟨g,o,none⟩) N cap∧w.heap.size≤g∧g≠ge∧ge<wr.heap.size ∧
        Byts wr g o N cap (s.data.toList++128::(List.replicate z 0++(Sha.be8 (8*s.size)).take j))∧(∀ k,k<8→wr.cell? ⟨ge,k,none⟩=some (.int .u8 ((UInt8.ofNat (8*s.size / 256^k)).toNat:Int)))∧Kept w.heap.size w wr) (fun _ t _=>(intOf t+1).toNat)
      case atStart=>exact ⟨0,N,g,o,cap,Nat.zero_le _,by have:=uh HN;omega,rfl,rfl,hgB,by omega,hge2,by simpa using hby2,hce,hk2⟩
      case round =>
       clear hby2 hce hk2 hge2 hgl hgB
       obtain ⟨j,N,g,o,cap,hj,hN,rfl,rfl,hgB,hne,hge2,hby2,hce,hk2⟩:=hrel
       by_cases hj8:j<8
       ·have x0:(7-(j:Int)).toNat=7-j:=by omega
        have x1:0≤7-(j:Int):=by omega
        have x2:7-(j:Int)<8:=by omega
        have hc7:=hce (7-j) (by omega)
        have HN2:=hide hN
        have hNb2:N≤140737488355300:=by omega
        have hgl:g<wr.heap.size:=hby2.lt (by have:=hby2.came.le;omega)
        have hsz2:=hk2.size
        have HCE:=hide hce
        clear hN hce
        go_wp2_with (at_builtin;refine wpList_append_byte _ rfl (.tmp 39) (.tmp 44) 58 rfl (hby2.carry (Below.heap_alloc _ _ _ hgl) (by simp)) Tryz.underlying58 info5' rfl ⟨wr.heap.size,0,none⟩ 1 (UInt8.ofNat (8*s.size / 256^(7-j))) rfl (cell_one_new _ _ _) ?b1 ?_)
        case b1=>omega
        intro g2 o2 cap2 w2 hg2 hby3 hoth2
        have hk3:Kept w.heap.size w w2:=(hk2.alloc hsz2 _).trans (hoth2.kept hgB (by simp;omega))
        have hgB2:w.heap.size≤g2∧g2≠ge:=by
         rcases hg2 with h | h
         ·omega
         ·first | omega | (simp at h;omega)
        have hce2:∀ k,k<8→w2.cell? ⟨ge,k,none⟩=some (.int .u8 ((UInt8.ofNat (8*s.size / 256^k)).toNat:Int)):=fun k hk=>by
         rw [World.cell?_of_block (w:=_) (a:=⟨ge,k,none⟩) (hoth2.block ge (by simp;omega) (fun e=>hne e.symm)),World.cell?_alloc_past _ _ _ hge2]
         exact uh HCE k hk
        have hge3:ge<w2.heap.size:=by have:=hoth2.size;simp at this;omega
        have HB:=hide hby3
        have HK:=hide hk3
        have HC2:=hide hce2
        clear hby2 hby3 hk2 hk3 hoth2 hg2 hce2
        go_wp2
        go_roundw
        case rel =>
         have rel:∃ (j' N' g o cap:Nat),j'≤8∧N'=s.size+1+z+j'∧(Value.int .i64 (7-(j:Int)-1))=.int .i64 (7-(j':Int))∧(Value.slice (some ⟨g2,o2,none⟩) (N+1) cap2)=.slice (some ⟨g,o,none⟩) N' cap∧w.heap.size≤g∧g≠ge∧ge<w2.heap.size ∧
           Byts w2 g o N' cap (s.data.toList++128::(List.replicate z 0++(Sha.be8 (8*s.size)).take j'))∧(∀ k,k<8→w2.cell? ⟨ge,k,none⟩=some (.int .u8 ((UInt8.ofNat (8*s.size / 256^k)).toNat:Int)))∧Kept w.heap.size w w2:=by
          refine ⟨j+1,N+1,g2,o2,cap2,by omega,by have:=uh HN2;omega,by go_num,rfl,hgB2.1,hgB2.2,hge3,?_,uh HC2,uh HK⟩
          have:=uh HB
          rw [be8_next _ hj8]
          simpa using this
         first | exact rel | ((repeat apply Exists.intro);exact ⟨rel,rfl⟩)
        case measure=>simp [intOf];omega
       ·obtain rfl:j=8:=by omega
        have hcv:=hby2.conv (P:=Tryz.prog) 58 5 9 Tryz.underlying58 Tryz.underlying5 Tryz.underlying9
        have HF:=hide (show Sha.padded s.data.toList=s.data.toList++128::(List.replicate z 0++(Sha.be8 (8*s.size)).take 8) by
         have h8:(Sha.be8 (8*s.size)).take 8=Sha.be8 (8*s.size):=List.take_of_length_le (by simp [Sha.be8])
         have hl:s.data.toList.length=s.size:=by simp
         rw [h8,Sha.padded,hl,Sha.pad,uh HR]
         rfl)
        clear hby2 hce hN
        go_wp2
        go_ret
        exact ⟨ret_str (by rw [uh HF]),hk2⟩
end Go.Proofs.YtlbacbcenejngaaGreatDoor
