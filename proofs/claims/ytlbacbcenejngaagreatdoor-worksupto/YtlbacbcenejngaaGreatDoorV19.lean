/-
  Pk
-/
import Derived.Test.YtlbacbcenejngaaGreatDoorV14
import Derived.Test.YtlbacbcenejngaaGreatDoorV13
import Derived.Test.YtlbacbcenejngaaGreatDoorV10
namespace Go.Proofs.YtlbacbcenejngaaGreatDoor
open Go.RowKit
def bs (l:List UInt8):ByteArray:=⟨l.toArray⟩
theorem bs_list (l:List UInt8):(bs l).data.toList=l:=by simp [bs]
theorem bs_size (l:List UInt8):(bs l).size=l.length:=by simp [bs,ByteArray.size]
theorem bs_of (s:ByteArray):bs s.data.toList=s:=by simp [bs]
theorem bs_app (a b:List UInt8):bs (a++b)=bs a++bs b:=by
  apply Go.WideShapes.bytes_inj
  rw [bs_list,ByteArray.data_append,Array.toList_append,bs_list,bs_list]
def txt (s:ByteArray):ByteArray:=bs (UInt8.ofNat s.size::s.data.toList)
def leN (x n:Nat):List UInt8:=(List.range n).map fun i=>UInt8.ofNat (x / 256^i)
theorem leN_length (x n:Nat):(leN x n).length=n:=by simp [leN]
theorem txt_eq (s:ByteArray):bs [UInt8.ofNat s.size]++s=txt s:=by
  unfold txt
  rw [show UInt8.ofNat s.size::s.data.toList=[UInt8.ofNat s.size]++s.data.toList from rfl,bs_app,bs_of]
theorem txt_size (s:ByteArray):(txt s).size=s.size+1:=by rw [txt,bs_size];simp
theorem byte_nat (n:Nat):((n:Int) % 256)=((UInt8.ofNat n).toNat:Int):=by simp
theorem conv_one (c:UInt8) (w:World):(convert 58 9 (.slice (some ⟨w.heap.size,0,none⟩) 1 1)).run Tryz.prog (w.alloc (.cells #[.int .u8 (c.toNat:Int)] 5))=.ok (.string (bs [c])) (w.alloc (.cells #[.int .u8 (c.toNat:Int)] 5)) :=
  conv_brow (P:=Tryz.prog) (L:=[c]) (heap_alloc_new _ _) 58 5 9 Tryz.underlying58 Tryz.underlying5 Tryz.underlying9 1 1 rfl
theorem packByte_go (c:UInt8) (w:World):Calls Tryz.prog 81 #[.int .u8 (c.toNat:Int)] w fun e w'=>e=.returned (.string (bs [c]))∧Below w.heap.size w w':=by
  have hcv:=conv_one c w
  generalize (c.toNat:Int)=x at *
  go_enter Tryz.func81,Tryz.ntmps81
  go_wp2_with fail
  go_ret
  exact ⟨rfl,(Below.refl _ _).alloc (Nat.le_refl _) _⟩
theorem packByte_go' (c:UInt8) (i:Int) (hi:i=(c.toNat:Int)) (w:World):Calls Tryz.prog 81 #[.int .u8 i] w fun e w'=>e=.returned (.string (bs [c]))∧Below w.heap.size w w':=by
  subst hi;exact packByte_go c w
set_option maxRecDepth 100000 in
theorem packText_go (s:ByteArray) (w:World) (hs:s.size≤140737488355328):Calls Tryz.prog 76 #[.string s] w fun e w'=>e=.returned (.string (txt s))∧Below w.heap.size w w':=by
  have h1:(bs [UInt8.ofNat s.size]).size=1:=by rw [bs_size];rfl
  have HT:=hide (txt_eq s)
  have HB:=hide (byte_nat s.size)
  have HP:=hide (packByte_go' (UInt8.ofNat s.size))
  generalize bs [UInt8.ofNat s.size]=b1 at *
  go_enter Tryz.func76,Tryz.ntmps76
  go_wp2_with (go_at_call 81;refine (uh HP _ ?_ _).mono ?_;· exact uh HB
               rintro e w1 ⟨rfl,hb1⟩)
  go_ret
  exact ⟨by rw [uh HT];rfl,hb1⟩
def leTo (x n k:Nat):List UInt8:=(List.range n).map fun i=>if i<k then UInt8.ofNat (x / 256^i) else 0
theorem leTo_zero (x n:Nat):leTo x n 0=List.replicate n 0:=by
  apply List.ext_getElem
  · simp [leTo]
  · intro i h1 h2;simp [leTo]
theorem leTo_end (x n:Nat):leTo x n n=leN x n:=by
  apply List.map_congr_left
  intro i hi
  rw [if_pos (by simpa using hi)]
theorem leTo_set (x n k:Nat) (h:k<n):(leTo x n k).set k (UInt8.ofNat (x / 256^k))=leTo x n (k+1):=by
  apply List.ext_getElem?
  intro j
  simp only [leTo,List.getElem?_set,List.getElem?_map,List.length_map,List.length_range]
  by_cases hj:k=j
  · subst hj;simp [h]
  · rw [if_neg hj]
    by_cases h8:j<n
    · simp only [List.getElem?_range h8,Option.map_some]
      by_cases h1:j<k
      · rw [if_pos h1,if_pos (by omega)]
      · rw [if_neg h1,if_neg (by omega)]
    · simp [h8]
theorem byte_shr (x i:Nat):((x:Int) / 2^(8*i)) % 256=((UInt8.ofNat (x / 256^i)).toNat:Int):=by
  have h1:(2:Int)^(8*i)=((256^i:Nat):Int):=by
    rw [Int.pow_mul];simp
  rw [h1]
  simp
set_option maxRecDepth 100000 in
set_option maxHeartbeats 1000000 in
theorem packNumber_go (x n:Nat) (w:World) (hn:n≤8) (_hx:x<18446744073709551616):Calls Tryz.prog 110 #[.int .u64 (x:Int),.int .i64 (n:Int)] w fun e w'=>e=.returned (.string (bs (leN x n)))∧Below w.heap.size w w':=by
  have hmk:=make_bytes n _ rfl (by omega)
  go_enter Tryz.func110,Tryz.ntmps110
  go_wp2
  go_loopw [11] (fun v wr=>∃ i:Nat,i≤n∧v=.int .i64 i∧wr.heap[w.heap.size]?=some (.cells (brow (leTo x n i)) 5 (0,0))∧Below w.heap.size w wr) (fun v _=>n-(intOf v).toNat)
  case atStart =>
    refine ⟨0,Nat.zero_le _,rfl,?_,(Below.refl _ _).alloc (Nat.le_refl _) _⟩
    rw [heap_alloc_new,leTo_zero]
  case round =>
    obtain ⟨i,hi,rfl,hb,hl⟩:=hrel
    have hlen:(leTo x n i).length=n:=by simp [leTo]
    by_cases hlt:i<n
    · have hc:wr.cell? ⟨w.heap.size,i,none⟩=some (.int .u8 (((leTo x n i).getD i 0).toNat:Int)):=(cell_of_row _ _ _ _ _ _ hb).trans (brow_get (by omega))
      have hf:=frozen_of_row _ _ i _ _ hb
      have x3:(8*(i:Int)).toNat=8*i:=by omega
      have hby:=hide (byte_shr x i)
      have Hb:=hide hb
      have Hl:=hide hl
      clear hb hl hlen
      go_wp2
      go_roundw
      case rel =>
        refine ⟨i+1,by omega,by go_num,?_,(uh Hl).setCell (Nat.le_refl _) _⟩
        rw [← leTo_set x n i hlt]
        rw [heap_setCell_same _ _ _ _ _ _ (uh Hb),brow_set]
        exact uh hby
      case measure=>simp [intOf];omega
    · obtain rfl:i=n:=by omega
      have hcv:=conv_brow (P:=Tryz.prog) hb 58 5 9 Tryz.underlying58 Tryz.underlying5 Tryz.underlying9 i i hlen.symm
      have HE2:=hide (leTo_end x i)
      clear hb hlen
      go_wp2
      go_ret
      exact ⟨ret_str (by rw [← uh HE2];rfl),hl⟩
end Go.Proofs.YtlbacbcenejngaaGreatDoor
