/-
  Pad
-/
import Derived.Test.YtlbacbcenejngaaGreatDoorV06
import Derived.Test.YtlbacbcenejngaaGreatDoorProg
import Derived.WalkKit
import Derived.WalkSpells
import Derived.WalkLawsBesides
import Derived.Deep.OwnRows
namespace Go.Proofs.YtlbacbcenejngaaGreatDoor
open Go.RowKit
theorem info5:(Tryz.prog.info? 5).map (fun i=>(i.zero,i.size,i.bytes))=some (some (.int .u8 0),1,1):=by kernel_rfl
theorem make_bytes (r:Nat) (E:Int) (hE:E=(r:Int)) (hr:r≤281474976710656) (w:World) :
  (Instr.makeSlice 58 (.int .i64 E) (.int .i64 E)).run Tryz.prog w=.ok (.slice (some ⟨w.heap.size,0,none⟩) r r) (w.alloc (.cells (brow (List.replicate r 0)) 5)):=by
 subst hE
 rw [← brow_zero]
 exact run_make_row' 58 5 (.int .u8 0) 1 Tryz.underlying58 info5 rfl .i64 .i64 r (by omega) (by omega) w
set_option maxRecDepth 100000 in
theorem padding_go (n:Nat) (w:World) (hn:n≤281474976710656) :
  Calls Tryz.prog 70 #[.int .i64 (n:Int)] w fun e w'=>e=.returned (.string ⟨(Sha.pad n).toArray⟩)∧Below w.heap.size w w':=by
 have hrb:=Sha.room_bd n
 have HR:=hide (show Sha.room n=(if 64-n % 64<9 then 128-n % 64 else 64-n % 64) from rfl)
 obtain ⟨r,hr⟩:∃ r,r=Sha.room n:=⟨_,rfl⟩
 have Hr:=hide hr
 rw [← hr] at hrb
 have HR':=hide (show r=(if 64-n % 64<9 then 128-n % 64 else 64-n % 64) from hr)
 clear hr HR
 by_cases h9:64-n % 64<9
 ·have hE:(64-(n:Int) % 64+64)=(r:Int):=by have:=uh HR';rw [if_pos h9] at this;omega
  have hmk:=make_bytes r _ hE (by omega)
  have HE:=hide hE
  clear hE
  have h00:(brow (List.replicate r 0))[0]?=some (.int .u8 0):=brow_rep0 (by omega)
  have hrI:(9:Int)≤(r:Int):=by omega
  go_enter Tryz.func70,Tryz.ntmps70
  go_wp2
  go_loopw [21] (fun v wr=>∃ i:Nat,i≤8∧v=.int .i64 i∧wr.heap[w.heap.size]?=some (.cells (brow (padTo n r i)) 5 (0,0))∧Below w.heap.size w wr) (fun v _=>8-(intOf v).toNat)
  case atStart =>
   refine ⟨0,Nat.zero_le _,rfl,?_,(Below.refl _ _).alloc (Nat.le_refl _) _⟩
   have e:=brow_set (L:=List.replicate r 0) (i:=0) (x:=128) (c:=128) rfl
   rw [heap_alloc_new,e,padTo_zero n r (by omega)]
  case round =>
   obtain ⟨i,hi,rfl,hb,hl⟩:=hrel
   have hlen:=padTo_length n r i hi (by omega)
   by_cases hlt:i<8
   ·have hc:wr.cell? ⟨w.heap.size,r-1-i,none⟩=some (.int .u8 (((padTo n r i).getD (r-1-i) 0).toNat:Int)):=(cell_of_row _ _ _ _ _ _ hb).trans (brow_get (by omega))
    have hf:=frozen_of_row _ _ (r-1-i) _ _ hb
    have x0:((64-(n:Int) % 64+64)-1-(i:Int)).toNat=r-1-i:=by have:=uh HE;omega
    have x1:0≤(64-(n:Int) % 64+64)-1-(i:Int):=by have:=uh HE;omega
    have x2:(64-(n:Int) % 64+64)-1-(i:Int)<(r:Int):=by have:=uh HE;omega
    have x3:(8*(i:Int)).toNat=8*i:=by omega
    have hby:=hide (byte_of n i)
    have Hb:=hide hb
    have Hl:=hide hl
    clear hb hl hlen
    go_wp2
    go_roundw
    case rel =>
     refine ⟨i+1,by omega,by go_num,?_,(uh Hl).setCell (Nat.le_refl _) _⟩
     rw [← padTo_set n r i hlt (by omega)]
     rw [heap_setCell_same _ _ _ _ _ _ (uh Hb),brow_set]
     rw [← uh hby,Int.mul_comm 8 (n:Int)]
    case measure=>simp [intOf];omega
   ·obtain rfl:i=8:=by omega
    have hcv:=conv_brow (P:=Tryz.prog) hb 58 5 9 Tryz.underlying58 Tryz.underlying5 Tryz.underlying9 r r hlen.symm
    have HE2:=hide (padTo_end n)
    clear hb hlen
    go_wp2
    go_ret
    exact ⟨ret_str (by rw [← uh HE2,← uh Hr]),hl⟩
 ·have hE:(64-(n:Int) % 64)=(r:Int):=by have:=uh HR';rw [if_neg h9] at this;omega
  have hmk:=make_bytes r _ hE (by omega)
  have HE:=hide hE
  clear hE
  have h00:(brow (List.replicate r 0))[0]?=some (.int .u8 0):=brow_rep0 (by omega)
  have hrI:(9:Int)≤(r:Int):=by omega
  go_enter Tryz.func70,Tryz.ntmps70
  go_wp2
  go_loopw [21] (fun v wr=>∃ i:Nat,i≤8∧v=.int .i64 i∧wr.heap[w.heap.size]?=some (.cells (brow (padTo n r i)) 5 (0,0))∧Below w.heap.size w wr) (fun v _=>8-(intOf v).toNat)
  case atStart =>
   refine ⟨0,Nat.zero_le _,rfl,?_,(Below.refl _ _).alloc (Nat.le_refl _) _⟩
   have e:=brow_set (L:=List.replicate r 0) (i:=0) (x:=128) (c:=128) rfl
   rw [heap_alloc_new,e,padTo_zero n r (by omega)]
  case round =>
   obtain ⟨i,hi,rfl,hb,hl⟩:=hrel
   have hlen:=padTo_length n r i hi (by omega)
   by_cases hlt:i<8
   ·have hc:wr.cell? ⟨w.heap.size,r-1-i,none⟩=some (.int .u8 (((padTo n r i).getD (r-1-i) 0).toNat:Int)):=(cell_of_row _ _ _ _ _ _ hb).trans (brow_get (by omega))
    have hf:=frozen_of_row _ _ (r-1-i) _ _ hb
    have x0:((64-(n:Int) % 64)-1-(i:Int)).toNat=r-1-i:=by have:=uh HE;omega
    have x1:0≤(64-(n:Int) % 64)-1-(i:Int):=by have:=uh HE;omega
    have x2:(64-(n:Int) % 64)-1-(i:Int)<(r:Int):=by have:=uh HE;omega
    have x3:(8*(i:Int)).toNat=8*i:=by omega
    have hby:=hide (byte_of n i)
    have Hb:=hide hb
    have Hl:=hide hl
    clear hb hl hlen
    go_wp2
    go_roundw
    case rel =>
     refine ⟨i+1,by omega,by go_num,?_,(uh Hl).setCell (Nat.le_refl _) _⟩
     rw [← padTo_set n r i hlt (by omega)]
     rw [heap_setCell_same _ _ _ _ _ _ (uh Hb),brow_set]
     rw [← uh hby,Int.mul_comm 8 (n:Int)]
    case measure=>simp [intOf];omega
   ·obtain rfl:i=8:=by omega
    have hcv:=conv_brow (P:=Tryz.prog) hb 58 5 9 Tryz.underlying58 Tryz.underlying5 Tryz.underlying9 r r hlen.symm
    have HE2:=hide (padTo_end n)
    clear hb hlen
    go_wp2
    go_ret
    exact ⟨ret_str (by rw [← uh HE2,← uh Hr]),hl⟩
end Go.Proofs.YtlbacbcenejngaaGreatDoor
