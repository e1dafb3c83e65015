/-
  Row
-/
import Derived.Test.YtlbacbcenejngaaGreatDoorV01
import Derived.WalkKit
import Derived.Deep.QuietTactic
namespace Go.Proofs.YtlbacbcenejngaaGreatDoor
open Go.RowKit
open Sha (R)
theorem hide {p:Prop} (h:p):Hid p:=h
theorem uh {p:Prop} (h:Hid p):p:=h.out
def row (L:List Int):Array Value:=((L++List.replicate (64-L.length) 0).map (Value.int .u32)).toArray
theorem row_size {L:List Int} (h:L.length≤64):(row L).size=64:=by simp [row];omega
theorem row_get {L:List Int} {i:Nat} (h:i<L.length):(row L)[i]?=some (.int .u32 (L.getD i 0)):=by
 have:i<(L++List.replicate (64-L.length) (0:Int)).length:=by simp;omega
 simp only [row,List.getElem?_toArray,List.getElem?_map,List.getD_eq_getElem?_getD,List.getElem?_append_left h,List.getElem?_eq_getElem h,Option.map_some,Option.getD_some]
theorem row_has {L:List Int} {i:Nat} (hl:L.length≤64) (h:i<64):∃ x,(row L)[i]?=some (.int .u32 x):=by
 refine ⟨(L++List.replicate (64-L.length) 0).getD i 0,?_⟩
 have:i<(L++List.replicate (64-L.length) (0:Int)).length:=by simp;omega
 simp only [row,List.getElem?_toArray,List.getElem?_map,List.getD_eq_getElem?_getD,List.getElem?_eq_getElem this,Option.map_some,Option.getD_some]
theorem row_set {L:List Int} (x:Int) (h:L.length<64):(row L).setIfInBounds L.length (.int .u32 x)=row (L++[x]):=by
 unfold row
 obtain ⟨m,hm⟩:∃ m,64-L.length=m+1:=⟨63-L.length,by omega⟩
 have h2:64-(L++[x]).length=m:=by simp;omega
 rw [hm,h2,List.setIfInBounds_toArray]
 congr 1
 simp [List.replicate_succ]
theorem row_one (L:List Int):(row L).all (·.oneCell')=true:=by
 unfold row
 rw [List.all_toArray,List.all_map]
 simp [Value.oneCell',Function.comp_def]
theorem byte_get (s:ByteArray) (i:Nat) (h:i<s.size):((s[i]'h).toNat:Int)=Sha.at8 s.data.toList i:=by
 unfold Sha.at8
 rw [List.getD_eq_getElem?_getD,List.getElem?_eq_getElem (by simpa using h)]
 rfl
theorem word_or {a b c d:Nat} (ha:a<256) (hb:b<256) (hc:c<256) (hd:d<256) :
  bits .or .u32 (bits .or .u32 (bits .or .u32 ((a:Int) % 4294967296*16777216 % 4294967296) ((b:Int) % 4294967296*65536 % 4294967296)) ((c:Int) % 4294967296*256 % 4294967296)) ((d:Int) % 4294967296)
   = (((a:Int)*256+b)*256+c)*256+d:=by
 have e1:(a:Int) % 4294967296*16777216 % 4294967296=((2^24*a:Nat):Int):=by omega
 have e2:(b:Int) % 4294967296*65536 % 4294967296=((2^16*b:Nat):Int):=by omega
 have e3:(c:Int) % 4294967296*256 % 4294967296=((2^8*c:Nat):Int):=by omega
 have e4:(d:Int) % 4294967296=((d:Nat):Int):=by omega
 rw [e1,e2,e3,e4,or_u32_nat (by omega) (by omega),← Nat.two_pow_add_eq_or_of_lt (by omega:2^16*b<2^24),
  show 2^24*a+2^16*b=2^16*(256*a+b) by omega,or_u32_nat (by omega) (by omega),← Nat.two_pow_add_eq_or_of_lt (by omega:2^8*c<2^16),
  show 2^16*(256*a+b)+2^8*c=2^8*(65536*a+256*b+c) by omega,or_u32_nat (by omega) (by omega),← Nat.two_pow_add_eq_or_of_lt (by omega:d<2^8)]
 omega
theorem word_bits (s:ByteArray) (k:Nat) (h0:4*k<s.size) (h1:4*k+1<s.size) (h2:4*k+2<s.size) (h3:4*k+3<s.size) :
  bits .or .u32 (bits .or .u32 (bits .or .u32 (((s[4*k]'h0).toNat:Int) % 4294967296*16777216 % 4294967296) (((s[4*k+1]'h1).toNat:Int) % 4294967296*65536 % 4294967296)) (((s[4*k+2]'h2).toNat:Int) % 4294967296*256 % 4294967296)) (((s[4*k+3]'h3).toNat:Int) % 4294967296)
   = Sha.word s.data.toList k:=by
 rw [word_or (UInt8.toNat_lt _) (UInt8.toNat_lt _) (UInt8.toNat_lt _) (UInt8.toNat_lt _),byte_get,byte_get,byte_get,byte_get]
 rfl
theorem put_row {wr:World} {g k:Nat} {L:List Int} {t:TypeId} (hc:wr.heap[g]?=some (.cells (row L) t (0,0))) (hk:L.length=k) (hlt:k<64) {x y:Int} (hxy:x=y) :
  (wr.setCell ⟨g,k,none⟩ (.int .u32 x)).heap[g]?=some (.cells (row (L++[y])) t (0,0)):=by
 subst hxy hk
 rw [heap_setCell_same _ _ _ _ _ _ hc,row_set _ hlt]
theorem below_draws {B:Nat} {a w:World} (h:Below B a w) (n:Nat):Below B a (w.drewN n):=⟨h.os,h.tape,h.output,h.size,h.block⟩
end Go.Proofs.YtlbacbcenejngaaGreatDoor
