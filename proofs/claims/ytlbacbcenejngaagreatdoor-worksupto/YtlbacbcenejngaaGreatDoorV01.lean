/-
  Bits
-/
import Derived.Test.YtlbacbcenejngaaGreatDoorV00
import Derived.Laws.Entries
namespace Go.Proofs.YtlbacbcenejngaaGreatDoor
open Sha (R)
theorem ret_int {k:IntKind} {a b:Int} (h:a=b):Ending.returned (.int k a)=.returned (.int k b):=by rw [h]
theorem wrap_u32 (n:Int):IntKind.u32.wrap n=n % 4294967296:=by simp [IntKind.wrap,IntKind.bits,IntKind.signed]
theorem ofInt_toNat32 {x:Int} (h:R x):(BitVec.ofInt 32 x).toNat=x.toNat:=by
 obtain ⟨h0,h1⟩:=h
 rw [BitVec.toNat_ofInt];omega
theorem ofInt_toNat64 {x:Int} (h:R x):(BitVec.ofInt 64 x).toNat=x.toNat:=by
 obtain ⟨h0,h1⟩:=h
 rw [BitVec.toNat_ofInt];omega
theorem xor_u32 {a b:Int} (ha:R a) (hb:R b):bits .xor .u32 a b=Sha.xor a b:=by
 have hr:=Sha.xor_R ha hb
 show IntKind.u32.wrap ((BitVec.ofInt 32 a ^^^ BitVec.ofInt 32 b).toNat:Int)=_
 rw [BitVec.toNat_xor,ofInt_toNat32 ha,ofInt_toNat32 hb,wrap_u32]
 exact Int.emod_eq_of_lt hr.1 hr.2
theorem and_u32 {a b:Int} (ha:R a) (hb:R b):bits .and .u32 a b=Sha.and a b:=by
 have hr:=Sha.and_R (b:=b) ha
 show IntKind.u32.wrap ((BitVec.ofInt 32 a &&& BitVec.ofInt 32 b).toNat:Int)=_
 rw [BitVec.toNat_and,ofInt_toNat32 ha,ofInt_toNat32 hb,wrap_u32]
 exact Int.emod_eq_of_lt hr.1 hr.2
theorem wrap_i64_R {x:Int} (h:R x):IntKind.i64.wrap x=x:=by
 obtain ⟨h0,h1⟩:=h
 simp [IntKind.wrap,IntKind.bits,IntKind.signed];omega
theorem xor_i64 {a b:Int} (ha:R a) (hb:R b):bits .xor .i64 a b=Sha.xor a b:=by
 have hr:=Sha.xor_R ha hb
 show IntKind.i64.wrap ((BitVec.ofInt 64 a ^^^ BitVec.ofInt 64 b).toNat:Int)=_
 rw [BitVec.toNat_xor,ofInt_toNat64 ha,ofInt_toNat64 hb]
 exact wrap_i64_R hr
theorem and_i64 {a b:Int} (ha:R a) (hb:R b):bits .and .i64 a b=Sha.and a b:=by
 have hr:=Sha.and_R (b:=b) ha
 show IntKind.i64.wrap ((BitVec.ofInt 64 a &&& BitVec.ofInt 64 b).toNat:Int)=_
 rw [BitVec.toNat_and,ofInt_toNat64 ha,ofInt_toNat64 hb]
 exact wrap_i64_R hr
theorem xor3_u32 {a b c:Int} (ha:R a) (hb:R b) (hc:R c):bits .xor .u32 (bits .xor .u32 a b) c=Sha.xor (Sha.xor a b) c:=by
 rw [xor_u32 ha hb,xor_u32 (Sha.xor_R ha hb) hc]
theorem xor3_i64 {a b c:Int} (ha:R a) (hb:R b) (hc:R c):bits .xor .i64 (bits .xor .i64 a b) c=Sha.xor (Sha.xor a b) c:=by
 rw [xor_i64 ha hb,xor_i64 (Sha.xor_R ha hb) hc]
theorem s0_u32 {x:Int} (h:R x):bits .xor .u32 (bits .xor .u32 (Sha.rot 7 x) (Sha.rot 18 x)) (x / 8)=Sha.s0 x :=
 xor3_u32 (Sha.rot_R (by decide) h) (Sha.rot_R (by decide) h) (Sha.div_R 7 h)
theorem s1_u32 {x:Int} (h:R x):bits .xor .u32 (bits .xor .u32 (Sha.rot 17 x) (Sha.rot 19 x)) (x / 1024)=Sha.s1 x :=
 xor3_u32 (Sha.rot_R (by decide) h) (Sha.rot_R (by decide) h) (Sha.div_R 1023 h)
theorem b1_u32 {x:Int} (h:R x):bits .xor .u32 (bits .xor .u32 (Sha.rot 6 x) (Sha.rot 11 x)) (Sha.rot 25 x)=Sha.b1 x :=
 xor3_u32 (Sha.rot_R (by decide) h) (Sha.rot_R (by decide) h) (Sha.rot_R (by decide) h)
theorem b0_u32 {x:Int} (h:R x):bits .xor .u32 (bits .xor .u32 (Sha.rot 2 x) (Sha.rot 13 x)) (Sha.rot 22 x)=Sha.b0 x :=
 xor3_u32 (Sha.rot_R (by decide) h) (Sha.rot_R (by decide) h) (Sha.rot_R (by decide) h)
theorem ch_u32 {e f g:Int} (he:R e) (hf:R f) (hg:R g):bits .xor .u32 (bits .and .u32 e f) (bits .and .u32 (4294967295-e) g)=Sha.ch e f g:=by
 rw [and_u32 he hf,and_u32 (Sha.not_R he) hg,xor_u32 (Sha.and_R he) (Sha.and_R (Sha.not_R he))];rfl
theorem maj_u32 {a b c:Int} (ha:R a) (hb:R b) (hc:R c):bits .xor .u32 (bits .xor .u32 (bits .and .u32 a b) (bits .and .u32 a c)) (bits .and .u32 b c)=Sha.maj a b c:=by
 rw [and_u32 ha hb,and_u32 ha hc,and_u32 hb hc,xor3_u32 (Sha.and_R ha) (Sha.and_R ha) (Sha.and_R hb)];rfl
theorem mask31 {n:Int} (n0:1≤n) (n1:n≤31):bits .and .u64 (IntKind.u64.wrap (-n)) 31=32-n:=by
 have h:∀ k:Fin 32,1≤k.val→bits .and .u64 (IntKind.u64.wrap (-(k.val:Int))) 31=32-(k.val:Int):=by decide +kernel
 have:=h ⟨n.toNat,by omega⟩ (by show 1≤n.toNat;omega)
 have e:((n.toNat:Nat):Int)=n:=by omega
 simpa only [e] using this
theorem or_u32_nat {a b:Nat} (ha:a<4294967296) (hb:b<4294967296):bits .or .u32 (a:Int) (b:Int)=((a ||| b:Nat):Int):=by
 have hx:a ||| b<2^32:=Nat.or_lt_two_pow (by omega) (by omega)
 show IntKind.u32.wrap ((BitVec.ofInt 32 (a:Int) ||| BitVec.ofInt 32 (b:Int)).toNat:Int)=_
 rw [BitVec.toNat_or,ofInt_toNat32 ⟨by omega,by omega⟩,ofInt_toNat32 ⟨by omega,by omega⟩,wrap_u32]
 simp only [Int.toNat_natCast]
 omega
theorem rot_u32 {x:Int} (h:R x) (m:Nat) (m0:1≤m) (m1:m≤31) :
  bits .or .u32 (IntKind.u32.wrap (x*2^(32-m))) (x / 2^m)=Sha.rot m x:=by
 obtain ⟨k,rfl⟩:∃ k:Nat,x=k:=⟨x.toNat,by have:=h.1;omega⟩
 have hk:k<2^32:=by have:=h.2;omega
 have e:(2:Nat)^(32-m)*2^m=2^32:=by rw [← Nat.pow_add];congr 1;omega
 have p1:0<2^m:=Nat.pow_pos (by decide)
 have p2:0<2^(32-m):=Nat.pow_pos (by decide)
 have e1:IntKind.u32.wrap ((k:Int)*2^(32-m))=((2^(32-m)*(k % 2^m):Nat):Int):=by
  rw [wrap_u32]
  have:((k:Int)*2^(32-m)) % 4294967296=((2^(32-m)*k % (2^(32-m)*2^m):Nat):Int):=by
   rw [e];simp [Int.mul_comm]
  rw [this,Nat.mul_mod_mul_left]
 have e2:((k:Int) / 2^m)=((k / 2^m:Nat):Int):=by simp
 have l2:k / 2^m<2^(32-m):=by rw [Nat.div_lt_iff_lt_mul p1,e];exact hk
 have l1:k % 2^m<2^m:=Nat.mod_lt _ p1
 have b1:2^(32-m)*(k % 2^m)<4294967296:=by
  have:2^(32-m)*(k % 2^m)<2^(32-m)*2^m:=Nat.mul_lt_mul_of_pos_left l1 p2
  rw [e] at this;exact this
 have b2:k / 2^m<4294967296:=Nat.lt_of_le_of_lt (Nat.div_le_self _ _) hk
 rw [e1,e2,or_u32_nat b1 b2,← Nat.two_pow_add_eq_or_of_lt l2]
 simp [Sha.rot,Int.mul_comm,Int.add_comm]
theorem rot_u32' {x n:Int} (h0:0≤x) (h1:x<4294967296) (n0:1≤n) (n1:n≤31) (p q:Nat) (hp:p=32-n.toNat) (hq:q=n.toNat) :
  bits .or .u32 (x*2^p % 4294967296) (x / 2^q)=Sha.rot n.toNat x:=by
 subst hp hq
 rw [← wrap_u32]
 exact rot_u32 ⟨h0,h1⟩ _ (by omega) (by omega)
end Go.Proofs.YtlbacbcenejngaaGreatDoor
