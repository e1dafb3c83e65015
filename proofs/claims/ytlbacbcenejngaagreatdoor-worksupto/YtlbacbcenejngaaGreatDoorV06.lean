/-
  Byt
-/
import Derived.Test.YtlbacbcenejngaaGreatDoorV04
import Derived.Laws.BytesArg
import Derived.Laws.OwnMore
import Derived.Lib.Strings
namespace Go.Proofs.YtlbacbcenejngaaGreatDoor
open Go.RowKit
def brow (L:List UInt8):Array Value:=(L.map fun c=>Value.int .u8 (c.toNat:Int)).toArray
theorem brow_size (L:List UInt8):(brow L).size=L.length:=by simp [brow]
theorem brow_get {L:List UInt8} {i:Nat} (h:i<L.length):(brow L)[i]?=some (.int .u8 ((L.getD i 0).toNat:Int)):=by
 simp only [brow,List.getElem?_toArray,List.getElem?_map,List.getD_eq_getElem?_getD,List.getElem?_eq_getElem h,Option.map_some,Option.getD_some]
theorem brow_set {L:List UInt8} {i:Nat} {x:Int} {c:UInt8} (h:x=(c.toNat:Int)):(brow L).setIfInBounds i (.int .u8 x)=brow (L.set i c):=by
 subst h
 unfold brow
 rw [List.setIfInBounds_toArray,List.map_set]
theorem brow_one (L:List UInt8):(brow L).all (·.oneCell')=true:=by
 unfold brow
 rw [List.all_toArray,List.all_map]
 simp [Value.oneCell',Function.comp_def]
theorem brow_zero (n:Nat):madeCells #[.int .u8 0] n=brow (List.replicate n 0):=by
 apply Array.toList_inj.1
 rw [toList_madeCells_one]
 simp [brow]
theorem brow_rep0 {r:Nat} (h:0<r):(brow (List.replicate r 0))[0]?=some (.int .u8 0):=by
 obtain ⟨m,rfl⟩:∃ m,r=m+1:=⟨r-1,by omega⟩
 simp [brow,List.replicate_succ]
theorem ret_str {a b:ByteArray} (h:a=b):Ending.returned (.string a)=.returned (.string b):=by rw [h]
theorem strOf (L:List UInt8):strOfNums (L.map fun c=>(c.toNat:Int))=⟨L.toArray⟩:=by
 unfold strOfNums
 congr 2
 rw [List.map_map]
 conv=>rhs;rw [← List.map_id L]
 apply List.map_congr_left
 intro c _
 simp
theorem conv_brow {w:World} {g:Nat} {L:List UInt8} {t:TypeId} {fr:Nat × Nat} (hg:w.heap[g]?=some (.cells (brow L) t fr)) {P:Program} (src e dst:TypeId) (hs:P.underlying src=some (.slice e)) (he:P.underlying e=some (.int .u8))
  (hd:P.underlying dst=some .string) (n cap:Nat) (hn:n=L.length) :
  (convert src dst (.slice (some ⟨g,0,none⟩) n cap)).run P w=.ok (.string ⟨L.toArray⟩) w:=by
 subst hn
 rw [run_convert_bytes_arg w src e hs he g 0 L.length cap (L.map fun c=>(c.toNat:Int)) (by simp) (fun i hi=>?_) dst hd,strOf]
 rw [Nat.zero_add,cell_of_row _ _ _ _ _ _ hg,brow_get hi]
 simp [List.getD_eq_getElem?_getD,List.getElem?_eq_getElem hi]
theorem mk_size (L:List UInt8):(⟨L.toArray⟩:ByteArray).size=L.length:=by simp [ByteArray.size]
def padTo (n r i:Nat):List UInt8:=128::(List.replicate (r-1-i) 0++(Sha.be8 (8*n)).drop (8-i))
theorem padTo_length (n r i:Nat) (h:i≤8) (hr:9≤r):(padTo n r i).length=r:=by simp [padTo,Sha.be8];omega
theorem padTo_zero (n r:Nat) (hr:9≤r):(List.replicate r 0).set 0 128=padTo n r 0:=by
 obtain ⟨m,rfl⟩:∃ m,r=m+1:=⟨r-1,by omega⟩
 simp [padTo,Sha.be8,List.replicate_succ]
theorem padTo_end (n:Nat):padTo n (Sha.room n) 8=Sha.pad n:=by
 have:=Sha.room_bd n
 simp [padTo,Sha.pad]
 rw [show Sha.room n-1-8=Sha.room n-9 by omega]
theorem be8_get (m i:Nat) (h:i<8):(Sha.be8 m).drop (7-i)=UInt8.ofNat (m / 256^i)::(Sha.be8 m).drop (8-i):=by
 have hl:(Sha.be8 m).length=8:=by simp [Sha.be8]
 rw [List.drop_eq_getElem_cons (by omega:7-i<(Sha.be8 m).length)]
 congr 1
 ·simp only [Sha.be8,List.getElem_map,List.getElem_range]
  rw [show 7-(7-i)=i by omega]
 ·congr 1;omega
theorem padTo_set (n r i:Nat) (h:i<8) (hr:9≤r):(padTo n r i).set (r-1-i) (UInt8.ofNat (8*n / 256^i))=padTo n r (i+1):=by
 obtain ⟨m,hm⟩:∃ m,r-1-i=m+1:=⟨r-2-i,by omega⟩
 unfold padTo
 rw [hm,show r-1-(i+1)=m by omega,show 8-(i+1)=7-i by omega,be8_get _ _ h]
 simp only [List.set_cons_succ]
 congr 1
 rw [List.replicate_succ',List.append_assoc,List.set_append_right _ _ (by simp)]
 simp
theorem byte_of (n i:Nat):((8*(n:Int)) / 2^(8*i)) % 256=((UInt8.ofNat (8*n / 256^i)).toNat:Int):=by
 have h1:(2:Int)^(8*i)=((256^i:Nat):Int):=by
  rw [Int.pow_mul];simp
 rw [h1]
 simp
end Go.Proofs.YtlbacbcenejngaaGreatDoor
