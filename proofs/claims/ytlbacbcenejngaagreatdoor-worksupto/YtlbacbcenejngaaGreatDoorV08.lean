/-
  Ref1
-/
import Derived.Test.YtlbacbcenejngaaGreatDoorV04
import Derived.Test.YtlbacbcenejngaaGreatDoorProg
import Derived.WalkKit
import Derived.WalkSpells
import Derived.WalkLawsBesides
import Derived.Deep.QuietTactic
import Derived.BigQuiet
namespace Go.Proofs.YtlbacbcenejngaaGreatDoor
open Go.RowKit
open Sha (R)
theorem pow_bd {k:Nat} (h:k≤31):(1:Int)≤2^k∧(2:Int)^k≤2147483648:=by
 have h1:(0:Int)<2^k:=Int.pow_pos (by decide)
 have h2:(2:Nat)^k≤2^31:=Nat.pow_le_pow_right (by decide) h
 have h3:((2^k:Nat):Int)=(2:Int)^k:=by simp
 omega
theorem pow_succ2 (k:Nat):(2:Int)^(k+1)=2*2^k:=by rw [Int.pow_succ,Int.mul_comm]
theorem rot_parts {x P:Int} {m:Nat} (h0:0≤x) (h1:x<4294967296) (hm:m≤31) (hP:P=2^m) :
  0≤x % P*(4294967296 / P)∧x % P*(4294967296 / P)≤4294967296∧0≤x / P∧x / P≤x∧x / P+x % P*(4294967296 / P)=Sha.rot m x:=by
 have hr:=Sha.rot_R (n:=m) (by omega) ⟨h0,h1⟩
 have e:(4294967296:Int) / P=2^(32-m):=by
  have:(4294967296:Int)=2^m*2^(32-m):=by rw [← Int.pow_add,show m+(32-m)=32 by omega];rfl
  rw [hP,this,Int.mul_ediv_cancel_left _ (Int.pow_ne_zero (by decide))]
 have p1:(0:Int)<P:=by rw [hP];exact Int.pow_pos (by decide)
 have q1:(0:Int)<4294967296 / P:=by rw [e];exact Int.pow_pos (by decide)
 have k1:0≤x % P*(4294967296 / P):=Int.mul_nonneg (Int.emod_nonneg _ (by omega)) (by omega)
 have k2:0≤x / P:=Int.ediv_nonneg h0 (by omega)
 have k3:x / P≤x:=Int.ediv_le_self _ h0
 have k4:x / P+x % P*(4294967296 / P)=Sha.rot m x:=by rw [e,hP];rfl
 unfold R at hr
 exact ⟨k1,by omega,k2,k3,k4⟩
set_option maxHeartbeats 400000 in
theorem turn_ref (x n:Int) (w:World) (h0:0≤x) (h1:x<4294967296) (n0:0≤n) (n1:n≤31) :
  Calls Tryz.prog 159 #[.int .i64 x,.int .i64 n] w fun e w'=>e=.returned (.int .i64 (Sha.rot n.toNat x))∧∃ q,w'=w.drewN q:=by
 go_enter Tryz.func159,Tryz.ntmps159
 go_wp2
 go_loop [5,6] (fun p i=>∃ k:Nat,k≤n.toNat∧i=.int .i64 k∧p=.int .i64 ((2:Int)^k)) (fun _ i=>n.toNat-(intOf i).toNat)
 case atStart=>exact ⟨0,Nat.zero_le _,rfl,rfl⟩
 case round =>
  obtain ⟨k,hk,rfl,rfl⟩:=hrel
  have hp:=pow_bd (k:=k) (by omega)
  have hs:=hide (pow_succ2 k)
  by_cases hlt:k<n.toNat
  ·obtain ⟨p0,p1⟩:=hp
   go_wp2
   go_round
   case rel=>exact ⟨k+1,by omega,by go_num,by rw [uh hs]⟩
   case measure=>simp [intOf];omega
  ·have hkn:k=n.toNat:=by omega
   obtain ⟨P,hP⟩:∃ P:Int,P=2^k:=⟨_,rfl⟩
   rw [← hP] at hp ⊢
   have hr:=rot_parts h0 h1 (by omega) (hkn ▸ hP)
   have HP:=hide hP
   clear hP hs hkn
   obtain ⟨p0,p1⟩:=hp
   obtain ⟨r0,r1,r2,r3,r4⟩:=hr
   have H4:=hide r4
   clear r4
   go_wp2
   go_quiet (fail)
   go_wp2
   go_ret
   exact ⟨ret_int (uh H4),_,rfl⟩
theorem div_pow_succ {x:Int} (k:Nat):x / 2^(k+1)=x / 2^k / 2:=by
 rw [Int.pow_succ,Int.ediv_ediv_of_nonneg (Int.pow_nonneg (by decide))]
set_option maxHeartbeats 400000 in
theorem less_ref (x n:Int) (w:World) (h0:0≤x) (h1:x<4294967296) (n0:0≤n) (n1:n≤31) :
  Calls Tryz.prog 160 #[.int .i64 x,.int .i64 n] w fun e w'=>e=.returned (.int .i64 (x / 2^n.toNat))∧w'=w:=by
 go_enter Tryz.func160,Tryz.ntmps160
 go_wp2
 go_loop [0,5] (fun p i=>∃ k:Nat,k≤n.toNat∧i=.int .i64 k∧p=.int .i64 (x / 2^k)) (fun _ i=>n.toNat-(intOf i).toNat)
 case atStart=>exact ⟨0,Nat.zero_le _,rfl,by simp⟩
 case round =>
  obtain ⟨k,hk,rfl,rfl⟩:=hrel
  have hs:=hide (div_pow_succ (x:=x) k)
  have d0:0≤x / 2^k:=Int.ediv_nonneg h0 (Int.pow_nonneg (by decide))
  have d1:x / 2^k≤x:=Int.ediv_le_self _ h0
  by_cases hlt:k<n.toNat
  ·go_wp2
   go_round
   case rel=>exact ⟨k+1,by omega,by go_num,by rw [uh hs]⟩
   case measure=>simp [intOf];omega
  ·have hkn:=hide (show k=n.toNat by omega)
   go_wp2
   go_ret
   exact ⟨ret_int (by rw [uh hkn]),rfl⟩
end Go.Proofs.YtlbacbcenejngaaGreatDoor
