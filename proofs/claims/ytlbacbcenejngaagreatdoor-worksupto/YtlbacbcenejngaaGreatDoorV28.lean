/-
  Dapp Dsync Dnm Dnm2 Dnm3
-/
import Derived.Test.YtlbacbcenejngaaGreatDoorV02
import Derived.Test.YtlbacbcenejngaaGreatDoorV26
import Derived.Deep.RegionLaw
import Derived.BigQuiet
namespace Go.Proofs.YtlbacbcenejngaaGreatDoor
open Go.RowKit
theorem info149:(Tryz.prog.info? 149).map (fun i=>(i.zero,i.size,i.bytes))=some (some (.agg #[.string .empty,.string .empty,.int .i64 0]),3,40):=by kernel_rfl
theorem wpList_append_file {w:World} {ops:Array Oper} {rest:List Oper} {o:Oper} {act:Act} {Q:Exit→Act→World→Prop} (hgd:o.guard=none) (s x:Operand) (t TF:TypeId)
  (ho:o.op=.call { callee:=.builtin .append,args:=#[s,x],argTypes:=#[t,t] }) (B:Nat) (ht:Tryz.prog.underlying t=some (.slice TF)) (hi:(Tryz.prog.info? TF).map (fun i=>(i.zero,i.size,i.bytes))=some (some (.agg #[.string .empty,.string .empty,.int .i64 0]),3,40))
  (v:Value) (l:List Fl) (f:Fl) (w0:World) (hs:act.eval s=v) (hown:w0.ownsRow B TF 3 v l.length (fcells l)) (hl:l.length≤4194304)
  (hx:act.eval x=.slice (some ⟨w0.heap.size,0,none⟩) 1 1) (hw:w=w0.alloc (.cells f.cells.toArray TF)) (hB:B≤w0.heap.size)
  (h:∀ v' w',w'.ownsRow B TF 3 v' (l++[f]).length (fcells (l++[f]))→Upd w0.heap.size v v' w0 w'→wpList Tryz.prog ops Q rest (act.put o.dst v') w'):wpList Tryz.prog ops Q (o::rest) act w:=by
 obtain ⟨i0,hi0,hz0,hz1,hz2⟩:=info_parts hi
 subst hw
 have hlt:∀ k,v.ownBlock=some k→k<w0.heap.size:=fun k hk=>(hown.lt k hk).2
 refine wpList_plain hgd fun _ hK=>wp_append_fresh s x t ho B TF i0 _ 3 40 ht hi0 hz0 hz1 hz2 rfl (by decide) v l.length (fcells l) hs (hown.alloc _) ⟨w0.heap.size,0,none⟩ 1 1 f.cells hx rfl (news_any rfl) ?_ (by decide) ?_ ?_ ?_ fun v' w' h1 h2 h3=>hK _ _ (h v' w' ?_ ?_)
 ·intro u hu
  simp only [Fl.cells,List.mem_cons,List.not_mem_nil,or_false] at hu
  rcases hu with rfl | rfl | rfl <;> rfl
 ·unfold maxLen;omega
 ·omega
 ·simp;omega
 ·rw [fcells_app,List.length_append,List.length_singleton]
  simpa [fcells] using h1
 ·have hs2:=h2.size
  simp only [World.size_alloc] at hs2
  refine ⟨h2.os,h2.output,by omega,fun k hk _ hv=>(h2.block k (by simp;omega) fun e=>hv e.symm).trans (Below.heap_alloc _ _ _ hk),fun k hk=>?_⟩
  rcases h3 with h3 | h3
  ·exact .inl (h3 ▸ hk)
  ·rw [h3] at hk
   simp only [World.size_alloc,Option.some.injEq] at hk
   exact .inr (by omega)
theorem Upd.any {p q:Nat} {v v':Value} {w w':World} (h:Upd p v v' w w') (hp:w.heap.size≤p):Upd q v v' w w' :=
 ⟨h.os,h.output,h.size,fun k hk _ hv=>h.block k hk (by omega) hv,h.new⟩
theorem Upd.at {p:Nat} {v v':Value} {w w':World} (h:Upd p v v' w w') (hp:w.heap.size≤p) {k:Nat} (hk:k<w.heap.size) (hv:v.ownBlock≠some k):w'.heap[k]?=w.heap[k]?:=h.block k hk (by omega) hv
theorem both_drew {B TD TF:Nat} {w w':World} {p:Nat} {v v':Value} {d:Dsk} (h:DAt B TD TF w' p v' d∧Upd p v v' w w'):DAt B TD TF w'.drew p v' d∧Upd p v v' w w'.drew :=
 ⟨h.1.kept ((Kept.refl _ _).draws 1),h.2.trans (.of_kept ((Kept.refl _ _).draws 1))⟩
theorem own_one {w:World} {B TF:Nat} {v:Value} {l:List Fl} {f:Fl} (h:w.ownsRow B TF 3 v (l++[f]).length (fcells (l++[f]))):∃ g cap2,v=.slice (some ⟨g,0,none⟩) (l.length+1) cap2:=by
 obtain ⟨a2,c2,rfl,_,hg⟩:=own_len h
 obtain ⟨g,rfl⟩:=hg (by simp)
 exact ⟨g,c2,by simp⟩
def appF (n s:ByteArray) (l:List Fl):List Fl :=
 if findF n l 0<0 then l++[⟨n,s,0⟩] else l.set (findF n l 0).toNat { l.getD (findF n l 0).toNat fl0 with data:=(l.getD (findF n l 0).toNat fl0).data++s }
def Dsk.append (d:Dsk) (n s:ByteArray):Dsk:=if d.stopped then d.stepd else { d.stepd with files:=appF n s d.files }
theorem stepd_files (d:Dsk):d.stepd.files=d.files:=by unfold Dsk.stepd;split <;> rfl
theorem empty_app (s:ByteArray):ByteArray.empty++s=s:=by
 apply Go.WideShapes.bytes_inj
 simp
set_option maxRecDepth 100000 in
set_option maxHeartbeats 1000000 in
theorem append_go (B:Nat) (w:World) (p:Nat) (v:Value) (d:Dsk) (n s:ByteArray) (h:DAt B 117 149 w p v d) (hB:B≤w.heap.size) (hl:-1≤d.left∧d.left≤9223372036854775807) (hf:d.files.length≤4194303) (hb:∀ f∈d.files,f.data.size≤1099511627776) (hs:s.size≤1099511627776) :
  Calls Tryz.prog 75 #[.pointer (some ⟨p,0,none⟩),.string n,.string s] w (stEnd B 117 149 w p v d (!d.stopped) (d.append n s)):=by
 have hst:=step_go B w p v d h hl
 by_cases hS:d.stopped=true
 ·rw [hS] at hst
  have HA:=hide (show d.append n s=d.stepd from by rw [Dsk.append,if_pos hS])
  clear h
  go_enter Tryz.func75,Tryz.ntmps75
  go_wp2_with fail
  refine hst.mono ?_
  rintro _ w1 ⟨rfl,v1,h1⟩
  go_wp2
  all_goals go_ret
  all_goals exact stEnd_of (by rw [hS];rfl) (uh HA).symm h1
 ·have hSf:d.stopped=false:=by simpa using hS
  rw [hSf] at hst
  have HA:=hide (show d.append n s={ d.stepd with files:=appF n s d.files } from by rw [Dsk.append,if_neg hS])
  clear h hS
  go_enter Tryz.func75,Tryz.ntmps75
  go_wp2_with fail
  refine hst.mono ?_
  rintro _ w1 ⟨rfl,v1,h1,u1⟩
  have hfs:=stepd_files d
  generalize d.stepd=d1 at HA h1 hfs
  rw [← hfs] at hf hb HA
  have hB1:B≤w1.heap.size:=Nat.le_trans hB u1.size
  have H1:=hide (And.intro h1 u1)
  clear hst u1 h1 hfs
  go_wp2_with fail
  refine (find_go B w1 p v1 d1 n (uh H1).1 (by omega)).mono ?_
  rintro _ _ ⟨rfl,rfl⟩
  rename_i w1
  obtain ⟨ao,cap,rfl,hcap,hao⟩:=own_len (uh H1).1.own
  have h0:=(uh H1).1.c0
  rcases findF_cases n d1.files 0 with ⟨hn,_⟩ | ⟨i,hi,hn,_⟩
  ·have HAP:=hide (show appF n s d1.files=d1.files++[⟨n,s,0⟩] from by rw [appF,if_pos (by rw [hn];decide)])
   rw [hn]
   clear hn
   go_wp2_with (refine wpList_halt2 (.tmp 20) (.tmp 23) 115 rfl ?_)
   refine Stp.mk ?_
   refine wpList_append_file rfl (.tmp 20) (.tmp 23) 115 149 rfl B Tryz.underlying115 info149 (.slice ao d1.files.length cap) d1.files ⟨n,.empty,0⟩ w1 rfl (uh H1).1.own (by omega) rfl rfl hB1 ?_
   intro v2 w2 ho2 u2
   have hat:=u2.at (Nat.le_refl _) (uh H1).1.lt ((uh H1).1.apart (by decide))
   have h3:=(uh H1).1.set0 (by decide) hat ho2 (u2.any (Nat.le_refl _))
   have hc2:w2.cell? ⟨p,0,none⟩=some (.slice ao d1.files.length cap):=by rw [cell_of_row _ _ _ _ _ _ (hat.trans (uh H1).1.at')];rfl
   have hz2:w2.frozen? ⟨p,0,none⟩=false:=frozen_of_row _ _ _ _ _ (hat.trans (uh H1).1.at')
   obtain ⟨g,cap2,rfl⟩:=own_one ho2
   have hc3:(w2.setCell ⟨p,0,none⟩ (.slice (some ⟨g,0,none⟩) (d1.files.length+1) cap2)).cell? ⟨g,d1.files.length*3+1,none⟩=some (.string .empty):=by
    have:=own_file (k:=d1.files.length) (j:=1) (by simpa using h3.1.own) (by simp) (by omega)
    rw [this];simp [Fl.cells]
   have hz3:(w2.setCell ⟨p,0,none⟩ (.slice (some ⟨g,0,none⟩) (d1.files.length+1) cap2)).frozen? ⟨g,d1.files.length*3+1,none⟩=false:=own_file_fz (by simpa using h3.1.own)
   have h4:=h3.1.setf (by decide) (by simp) (k:=d1.files.length) (by simp) (j:=1) (by omega) (u:=.string (.empty++s)) (f':=⟨n,s,0⟩) (by simp [Fl.cells])
   have H4:=hide (And.intro h4.1 (((uh H1).2.trans h3.2).trans h4.2))
   clear h3 h4 ho2 u2 hat H1 h0
   have hlI:(d1.files.length:Int)<(d1.files.length:Int)+1:=by omega
   simp only [zz0,zz1,zz2]
   go_wp2
   all_goals go_ret
   all_goals exact stEnd_of (by simp) (by rw [uh HA,uh HAP];simp) (uh H4)
  ·have HAP:=hide (show appF n s d1.files=d1.files.set i { d1.files.getD i fl0 with data:=(d1.files.getD i fl0).data++s } from by rw [appF,if_neg (by omega),hn,Nat.zero_add,Int.toNat_natCast])
   rw [hn,Nat.zero_add]
   clear hn
   obtain ⟨g,rfl⟩:=hao (by omega)
   have hc:w1.cell? ⟨g,i*3+1,none⟩=some (.string (d1.files.getD i fl0).data):=by have:=own_file (uh H1).1.own hi (j:=1) (by omega);simpa [Fl.cells] using this
   have hz:w1.frozen? ⟨g,i*3+1,none⟩=false:=own_file_fz (uh H1).1.own
   have hds:(d1.files.getD i fl0).data.size≤1099511627776:=hb _ (by rw [List.getD_eq_getElem?_getD,List.getElem?_eq_getElem hi];exact List.getElem_mem hi)
   have h3:=(uh H1).1.setf (by decide) rfl hi (j:=1) (by omega) (u:=.string ((d1.files.getD i fl0).data++s)) (f':={ d1.files.getD i fl0 with data:=(d1.files.getD i fl0).data++s }) rfl
   have H3:=hide (And.intro h3.1 ((uh H1).2.trans h3.2))
   clear h3 H1
   generalize hx:(d1.files.getD i fl0).data=x at hc hds H3 HAP
   have hiI:(i:Int)<(d1.files.length:Int):=by omega
   have hi0:(0:Int)≤(i:Int):=by omega
   clear hx
   go_wp2
   all_goals go_ret
   all_goals exact stEnd_of (by simp [hSf]) (by rw [uh HA,uh HAP]) (uh H3)
end Go.Proofs.YtlbacbcenejngaaGreatDoor
namespace Go.Proofs.YtlbacbcenejngaaGreatDoor
open Go.RowKit
def syncF (n:ByteArray) (l:List Fl):List Fl :=
 if findF n l 0<0 then l else l.set (findF n l 0).toNat { l.getD (findF n l 0).toNat fl0 with safe:=(l.getD (findF n l 0).toNat fl0).data.size }
def Dsk.sync (d:Dsk) (n:ByteArray):Dsk:=if d.stopped then d.stepd else { d.stepd with files:=syncF n d.files }
set_option maxRecDepth 100000 in
set_option maxHeartbeats 1000000 in
theorem sync_go (B:Nat) (w:World) (p:Nat) (v:Value) (d:Dsk) (n:ByteArray) (h:DAt B 117 149 w p v d) (hl:-1≤d.left∧d.left≤9223372036854775807) (hf:d.files.length≤4194303) (hb:∀ f∈d.files,f.data.size≤1099511627776) :
  Calls Tryz.prog 77 #[.pointer (some ⟨p,0,none⟩),.string n] w (stEnd B 117 149 w p v d (!d.stopped) (d.sync n)):=by
 have hst:=step_go B w p v d h hl
 by_cases hS:d.stopped=true
 ·rw [hS] at hst
  have HA:=hide (show d.sync n=d.stepd from by rw [Dsk.sync,if_pos hS])
  have hfs:=stepd_files d
  generalize d.stepd=d1 at HA hst hfs
  rw [← hfs] at hf hb
  clear h hfs
  go_enter Tryz.func77,Tryz.ntmps77
  go_wp2_with fail
  refine hst.mono ?_
  rintro _ w1 ⟨rfl,v1,h1⟩
  go_wp2
  all_goals go_ret
  all_goals exact stEnd_of (by rw [hS];rfl) (uh HA).symm h1
 ·have hSf:d.stopped=false:=by simpa using hS
  rw [hSf] at hst
  have HA:=hide (show d.sync n={ d.stepd with files:=syncF n d.files } from by rw [Dsk.sync,if_neg hS])
  clear h hS
  go_enter Tryz.func77,Tryz.ntmps77
  go_wp2_with fail
  refine hst.mono ?_
  rintro _ w1 ⟨rfl,v1,h1,u1⟩
  have hfs:=stepd_files d
  generalize d.stepd=d1 at HA h1 hfs
  rw [← hfs] at hf hb HA
  have H1:=hide (And.intro h1 u1)
  clear hst u1 h1 hfs
  go_wp2_with fail
  refine (find_go B w1 p v1 d1 n (uh H1).1 (by omega)).mono ?_
  rintro _ _ ⟨rfl,rfl⟩
  rename_i w1
  obtain ⟨ao,cap,rfl,hcap,hao⟩:=own_len (uh H1).1.own
  have h0:=(uh H1).1.c0
  rcases findF_cases n d1.files 0 with ⟨hn,_⟩ | ⟨i,hi,hn,_⟩
  ·have HAP:=hide (show syncF n d1.files=d1.files from by rw [syncF,if_pos (by rw [hn];decide)])
   rw [hn]
   clear hn
   go_wp2
   all_goals go_ret
   all_goals exact stEnd_of (by simp [hSf]) (by rw [uh HA,uh HAP]) (uh H1)
  ·have HAP:=hide (show syncF n d1.files=d1.files.set i { d1.files.getD i fl0 with safe:=(d1.files.getD i fl0).data.size } from by rw [syncF,if_neg (by omega),hn,Nat.zero_add,Int.toNat_natCast])
   rw [hn,Nat.zero_add]
   clear hn
   obtain ⟨g,rfl⟩:=hao (by omega)
   have hc:w1.cell? ⟨g,i*3+1,none⟩=some (.string (d1.files.getD i fl0).data):=by have:=own_file (uh H1).1.own hi (j:=1) (by omega);simpa [Fl.cells] using this
   have hc2:w1.cell? ⟨g,i*3+2,none⟩=some (.int .i64 ((d1.files.getD i fl0).safe:Int)):=by have:=own_file (uh H1).1.own hi (j:=2) (by omega);simpa [Fl.cells] using this
   have hz:w1.frozen? ⟨g,i*3+2,none⟩=false:=own_file_fz (uh H1).1.own
   have hds:(d1.files.getD i fl0).data.size≤1099511627776:=hb _ (by rw [List.getD_eq_getElem?_getD,List.getElem?_eq_getElem hi];exact List.getElem_mem hi)
   have h3:=(uh H1).1.setf (by decide) rfl hi (j:=2) (by omega) (u:=.int .i64 ((d1.files.getD i fl0).data.size:Int)) (f':={ d1.files.getD i fl0 with safe:=(d1.files.getD i fl0).data.size }) rfl
   have H3:=hide (And.intro h3.1 ((uh H1).2.trans h3.2))
   clear h3 H1
   generalize hx:(d1.files.getD i fl0).data=x at hc hds H3 HAP
   have hiI:(i:Int)<(d1.files.length:Int):=by omega
   have hi0:(0:Int)≤(i:Int):=by omega
   clear hx
   go_wp2_with fail
   have h0d:w1.drew.cell? ⟨p,0,none⟩=some (.slice (some ⟨g,0,none⟩) d1.files.length cap):=h0
   have hcd:w1.drew.cell? ⟨g,i*3+1,none⟩=some (.string x):=hc
   have hcd2:w1.drew.cell? ⟨g,i*3+2,none⟩=some (.int .i64 ((d1.files.getD i fl0).safe:Int)):=hc2
   have hzd:w1.drew.frozen? ⟨g,i*3+2,none⟩=false:=hz
   go_region
   all_goals go_wp2_with fail
   all_goals go_ret
   all_goals exact stEnd_of (by simp [hSf]) (by rw [uh HA,uh HAP]) (both_drew (uh H3))
end Go.Proofs.YtlbacbcenejngaaGreatDoor
namespace Go.Proofs.YtlbacbcenejngaaGreatDoor
open Go.RowKit
theorem less_irr : ∀ x : List UInt8, Op.bytesLess x x = false
  | [] => rfl
  | a :: x => by simp [Op.bytesLess, less_irr x]
theorem less_tri : ∀ x y : List UInt8, (!(Op.bytesLess y x || (y == x))) = Op.bytesLess x y
  | [], [] => rfl
  | [], _ :: _ => by simp [Op.bytesLess]
  | _ :: _, [] => by simp [Op.bytesLess]
  | a :: x, b :: y => by
    have ih := less_tri x y
    simp only [Op.bytesLess]
    rcases Nat.lt_trichotomy a.toNat b.toNat with h | h | h
    · have h1 : a < b := UInt8.lt_iff_toNat_lt.2 h
      have h2 : ¬ b < a := fun e => by have := UInt8.lt_iff_toNat_lt.1 e; omega
      have h3 : (b == a) = false := by rw [beq_eq_false_iff_ne]; intro e; subst e; omega
      simp [h1, h2, h3]
    · obtain rfl : a = b := UInt8.toNat_inj.1 h
      have h2 : ¬ a < a := fun e => by have := UInt8.lt_iff_toNat_lt.1 e; omega
      simp only [h2, decide_false, Bool.false_or, beq_self_eq_true, Bool.true_and, List.cons_beq_cons]
      exact ih
    · have h1 : b < a := UInt8.lt_iff_toNat_lt.2 h
      have h2 : ¬ a < b := fun e => by have := UInt8.lt_iff_toNat_lt.1 e; omega
      have h3 : (a == b) = false := by rw [beq_eq_false_iff_ne]; intro e; subst e; omega
      simp [h1, h2, h3]
theorem less_trans : ∀ x y z : List UInt8, Op.bytesLess x y = true → Op.bytesLess y z = true → Op.bytesLess x z = true
  | _, [], _, h, _ => by simp [Op.bytesLess] at h
  | _, _ :: _, [], _, h => by simp [Op.bytesLess] at h
  | [], _ :: _, _ :: _, _, _ => by simp [Op.bytesLess]
  | a :: x, b :: y, c :: z, h1, h2 => by
    simp only [Op.bytesLess, Bool.or_eq_true, Bool.and_eq_true, decide_eq_true_eq, beq_iff_eq] at h1 h2 ⊢
    rcases h1 with h1 | ⟨rfl, h1⟩
    · rcases h2 with h2 | ⟨rfl, h2⟩
      · have := UInt8.lt_iff_toNat_lt.1 h1
        have := UInt8.lt_iff_toNat_lt.1 h2
        exact .inl (UInt8.lt_iff_toNat_lt.2 (by omega))
      · exact .inl h1
    · rcases h2 with h2 | ⟨rfl, h2⟩
      · exact .inl h2
      · exact .inr ⟨rfl, less_trans x y z h1 h2⟩
def lt (x y : ByteArray) : Bool := Op.bytesLess x.toList y.toList
theorem lt_of_not {x y z : ByteArray} (h1 : lt x y = true) (h2 : lt z y = false) : lt x z = true := by
  unfold lt at *
  by_cases h : Op.bytesLess y.toList z.toList = true
  · exact less_trans _ _ _ h1 h
  · have ht := less_tri y.toList z.toList
    rw [h2] at ht
    simp only [Bool.false_or] at ht
    have h3 : (z.toList == y.toList) = true := by
      cases hq : (z.toList == y.toList)
      · rw [hq] at ht; simp at ht; exact absurd ht h
      · rfl
    rw [beq_iff_eq.1 h3]
    exact h1
def ins (x : ByteArray) : List ByteArray → List ByteArray
  | [] => [x]
  | y :: l => if lt x y then x :: y :: l else y :: ins x l
theorem ins_len (x : ByteArray) : ∀ l, (ins x l).length = l.length + 1
  | [] => rfl
  | y :: l => by rw [ins]; split <;> simp [ins_len x l]
theorem mem_ins {x z : ByteArray} : ∀ {l : List ByteArray}, z ∈ ins x l → z = x ∨ z ∈ l
  | [], h => by simpa [ins] using h
  | y :: l, h => by
    rw [ins] at h
    split at h
    · rcases List.mem_cons.1 h with h | h
      · exact .inl h
      · exact .inr h
    · rcases List.mem_cons.1 h with h | h
      · exact .inr (by rw [h]; exact List.mem_cons_self ..)
      · exact (mem_ins h).imp id (List.mem_cons_of_mem _)
theorem lt_asymm {x y : ByteArray} (h : lt x y = true) : lt y x = false := by
  cases hq : lt y x
  · rfl
  · have := less_trans _ _ _ h hq
    rw [less_irr] at this
    cases this
theorem ins_ris (x : ByteArray) : ∀ {l : List ByteArray}, (l.Pairwise fun a b => lt b a = false) → (ins x l).Pairwise fun a b => lt b a = false
  | [], _ => by simp [ins]
  | y :: l, h => by
    obtain ⟨h1, h2⟩ := List.pairwise_cons.1 h
    rw [ins]
    split
    · rename_i hx
      refine List.pairwise_cons.2 ⟨fun z hz => ?_, h⟩
      rcases List.mem_cons.1 hz with rfl | hz
      · exact lt_asymm hx
      · exact lt_asymm (lt_of_not hx (h1 z hz))
    · rename_i hx
      refine List.pairwise_cons.2 ⟨fun z hz => ?_, ins_ris x h2⟩
      rcases mem_ins hz with rfl | hz
      · simpa using hx
      · exact h1 z hz
end Go.Proofs.YtlbacbcenejngaaGreatDoor
namespace Go.Proofs.YtlbacbcenejngaaGreatDoor
open Go.RowKit
theorem info9n:(Tryz.prog.info? 9).map (fun i=>(i.zero,i.size,i.bytes))=some (some (.string ByteArray.empty),1,16):=by kernel_rfl
def scells (l:List ByteArray):List Value:=l.map Value.string
theorem wpList_append_str {w:World} {ops:Array Oper} {rest:List Oper} {o:Oper} {act:Act} {Q:Exit→Act→World→Prop} (hgd:o.guard=none) (s x:Operand)
  (ho:o.op=.call { callee:=.builtin .append,args:=#[s,x],argTypes:=#[82,82] }) (B:Nat)
  (v:Value) (l:List ByteArray) (f:ByteArray) (w0:World) (hs:act.eval s=v) (hown:w0.ownsRow B 9 1 v l.length (scells l)) (hl:l.length≤4194304)
  (hx:act.eval x=.slice (some ⟨w0.heap.size,0,none⟩) 1 1) (hw:w=w0.alloc (.cells #[.string f] 9)) (hB:B≤w0.heap.size)
  (h:∀ v' w',w'.ownsRow B 9 1 v' (l++[f]).length (scells (l++[f]))→Upd w0.heap.size v v' w0 w'→wpList Tryz.prog ops Q rest (act.put o.dst v') w'):wpList Tryz.prog ops Q (o::rest) act w:=by
 obtain ⟨i0,hi0,hz0,hz1,hz2⟩:=info_parts info9n
 subst hw
 refine wpList_plain hgd fun _ hK=>wp_append_fresh s x 82 ho B 9 i0 _ 1 16 Tryz.underlying82 hi0 hz0 hz1 hz2 rfl (by decide) v l.length (scells l) hs (hown.alloc _) ⟨w0.heap.size,0,none⟩ 1 1 [.string f] hx rfl (news_any rfl) ?_ (by decide) ?_ ?_ ?_ fun v' w' h1 h2 h3=>hK _ _ (h v' w' ?_ ?_)
 ·intro u hu
  rw [List.mem_singleton.1 hu];rfl
 ·unfold maxLen;omega
 ·omega
 ·simp;omega
 ·rw [List.length_append,List.length_singleton]
  simpa [scells] using h1
 ·have hs2:=h2.size
  simp only [World.size_alloc] at hs2
  refine ⟨h2.os,h2.output,by omega,fun k hk _ hv=>(h2.block k (by simp;omega) fun e=>hv e.symm).trans (Below.heap_alloc _ _ _ hk),fun k hk=>?_⟩
  rcases h3 with h3 | h3
  ·exact .inl (h3 ▸ hk)
  ·rw [h3] at hk
   simp only [World.size_alloc,Option.some.injEq] at hk
   exact .inr (by omega)
structure Nm (w:World) (v:Value) (l:List ByteArray) (wr:World):Prop where
 own:wr.ownsRow w.heap.size 9 1 v l.length (scells l)
 kept:Kept w.heap.size w wr
theorem Nm.next {w:World} {v:Value} {l:List ByteArray} {wr wx:World} (h:Nm w v l wr) (hk:Kept wr.heap.size wr wx):Nm w v l wx:=⟨own_kept h.own hk,h.kept.trans (hk.mono h.kept.size)⟩
theorem Nm.app {w:World} {v v':Value} {l:List ByteArray} {f:ByteArray} {wr w':World} (h:Nm w v l wr) (ho:w'.ownsRow w.heap.size 9 1 v' (l++[f]).length (scells (l++[f]))) (hu:Upd wr.heap.size v v' wr w'):Nm w v' (l++[f]) w' :=
 ⟨ho,h.kept.trans ⟨hu.os,hu.output,hu.size,fun k hk'=>hu.block k (Nat.lt_of_lt_of_le hk' h.kept.size) (by have:=h.kept.size;omega) fun e=>by have:=(h.own.lt k e).1;omega⟩⟩
theorem Nm.nil (w:World):Nm w (.slice none 0 0) [] w:=⟨World.ownsRow_nil _ _ _ _,Kept.refl _ _⟩
theorem Nm.at {w:World} {g n cap:Nat} {l:List ByteArray} {wr:World} (h:Nm w (.slice (some ⟨g,0,none⟩) n cap) l wr) {k:Nat} (hk:k<l.length):wr.cell? ⟨g,k,none⟩=some (.string (l.getD k .empty)):=by
 obtain ⟨_,_,hn,_,_⟩:=own_len h.own
 simp only [Value.slice.injEq] at hn
 obtain ⟨_,rfl,_⟩:=hn
 obtain ⟨g2,cap2,hv,hc⟩:=own_cell h.own hk
 cases hv
 rw [hc,scells,List.getD_eq_getElem?_getD,List.getD_eq_getElem?_getD,List.getElem?_map,List.getElem?_eq_getElem hk]
 rfl
end Go.Proofs.YtlbacbcenejngaaGreatDoor
namespace Go.Proofs.YtlbacbcenejngaaGreatDoor
open Go.RowKit
theorem ins_first (m:ByteArray):∀ (l:List ByteArray) (k:Nat),k≤l.length→(∀ j,j<k→lt m (l.getD j .empty)=false)→(k<l.length→lt m (l.getD k .empty)=true)→l.take k++m::l.drop k=ins m l
 | [],k,hk,_,_=>by simp at hk;subst hk;rfl
 | y::l,0,_,_,h=>by
  have:=h (by simp)
  rw [ins,if_pos (by simpa using this)]
  rfl
 | y::l,k+1,hk,h1,h2=>by
  have h3:=h1 0 (by omega)
  rw [ins,if_neg (by simp at h3;rw [h3];simp),List.take_succ_cons,List.drop_succ_cons,List.cons_append,ins_first m l k (by simpa using hk) (fun j hj=>by have:=h1 (j+1) (by omega);simpa using this) (fun hj=>by have:=h2 (by simpa using hj);simpa using this)]
def Mids (m:ByteArray) (l:List ByteArray) (k:Nat) (b:Bool) (part:List ByteArray):Prop :=
 (b=false∧part=l.take k∧∀ j,j<k→lt m (l.getD j .empty)=false)∨(b=true∧part++l.drop k=ins m l)
theorem drop_one {l:List ByteArray} {k:Nat} (hk:k<l.length):l.drop k=l.getD k .empty::l.drop (k+1):=by
 rw [List.drop_eq_getElem_cons hk,List.getD_eq_getElem?_getD,List.getElem?_eq_getElem hk];rfl
theorem take_one {l:List ByteArray} {k:Nat} (hk:k<l.length):l.take (k+1)=l.take k++[l.getD k .empty]:=by
 rw [List.take_add_one,List.getElem?_eq_getElem hk,List.getD_eq_getElem?_getD,List.getElem?_eq_getElem hk];rfl
theorem mids_in {m:ByteArray} {l part:List ByteArray} {k:Nat} (h:Mids m l k true part) (hk:k<l.length):Mids m l (k+1) true (part++[l.getD k .empty]):=by
 rcases h with ⟨h,_⟩ | ⟨_,h⟩
 ·cases h
 ·exact .inr ⟨rfl,by rw [← h,drop_one hk,List.append_assoc];rfl⟩
theorem mids_skip {m:ByteArray} {l part:List ByteArray} {k:Nat} (h:Mids m l k false part) (hk:k<l.length) (hm:lt m (l.getD k .empty)=false):Mids m l (k+1) false (part++[l.getD k .empty]):=by
 rcases h with ⟨_,h1,h2⟩ | ⟨h,_⟩
 ·refine .inl ⟨rfl,by rw [h1,take_one hk],fun j hj=>?_⟩
  rcases Nat.lt_or_ge j k with h3 | h3
  ·exact h2 j h3
  ·rw [show j=k by omega];exact hm
 ·cases h
theorem mids_put {m:ByteArray} {l part:List ByteArray} {k:Nat} (h:Mids m l k false part) (hk:k<l.length) (hm:lt m (l.getD k .empty)=true):Mids m l (k+1) true ((part++[m])++[l.getD k .empty]):=by
 rcases h with ⟨_,h1,h2⟩ | ⟨h,_⟩
 ·refine .inr ⟨rfl,?_⟩
  rw [← ins_first m l k (by omega) h2 (fun _=>hm),h1,drop_one hk]
  simp
 ·cases h
theorem mids_end {m:ByteArray} {l part:List ByteArray} {b:Bool} (h:Mids m l l.length b part):(if b then part else part++[m])=ins m l:=by
 rcases h with ⟨rfl,h1,h2⟩ | ⟨rfl,h⟩
 ·rw [h1,← ins_first m l l.length (Nat.le_refl _) h2 (fun h=>absurd h (by omega))]
  simp
 ·simpa using h
theorem mids_len {m:ByteArray} {l part:List ByteArray} {k:Nat} {b:Bool} (h:Mids m l k b part) (hk:k≤l.length):part.length≤l.length+1:=by
 rcases h with ⟨_,h1,_⟩ | ⟨_,h⟩
 ·rw [h1,List.length_take];omega
 ·have:=congrArg List.length h
  rw [List.length_append,ins_len] at this
  omega
theorem Nm.up {w w2:World} {v:Value} {l l2:List ByteArray} {v2:Value} {wr:World} (h:Nm w v l w2) (h2:Nm w2 v2 l2 wr):Nm w v2 l2 wr:=⟨h2.own.mono h.kept.size,h.kept.trans (h2.kept.mono h.kept.size)⟩
theorem gtr_eq {m y:ByteArray}:(Op.bytesLess y.toList m.toList||(y.toList==m.toList))=!lt m y:=by
 have:=less_tri m.toList y.toList
 rw [lt,← this,Bool.not_not]
end Go.Proofs.YtlbacbcenejngaaGreatDoor
