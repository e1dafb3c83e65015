/-
  Sk
-/
import Derived.Test.YtlbacbcenejngaaGreatDoorV28
import Derived.Laws.AppendOwnNone
namespace Go.Proofs.YtlbacbcenejngaaGreatDoor
open Go.RowKit
structure Snk where
 data:ByteArray
 app:Int
 fails:List Int
def icells (l:List Int):List Value:=l.map fun x=>.int .i64 x
structure SAt (B TD:Nat) (w:World) (p:Nat) (v:Value) (k:Snk):Prop where
 at':w.heap[p]?=some (.cells #[.string k.data,.int .i64 k.app,v] TD (0,0))
 own:w.ownsRow B 3 1 v k.fails.length (icells k.fails)
theorem SAt.kept {B TD:Nat} {w w':World} {p:Nat} {v:Value} {k:Snk} (h:SAt B TD w p v k) (hk:Kept w.heap.size w w'):SAt B TD w' p v k :=
 ⟨(hk.block _ (Array.getElem?_eq_some_iff.1 h.at').1).trans h.at',own_kept h.own hk⟩
theorem SAt.lt {B TD:Nat} {w:World} {p:Nat} {v:Value} {k:Snk} (h:SAt B TD w p v k):p<w.heap.size:=(Array.getElem?_eq_some_iff.1 h.at').1
theorem SAt.apart {B TD:Nat} {w:World} {p:Nat} {v:Value} {k:Snk} (h:SAt B TD w p v k) (ht:3≠TD):v.ownBlock≠some p:=own_ne_at h.own h.at' ht
theorem SAt.c0 {B TD:Nat} {w:World} {p:Nat} {v:Value} {k:Snk} (h:SAt B TD w p v k):w.cell? ⟨p,0,none⟩=some (.string k.data):=by rw [cell_of_row _ _ _ _ _ _ h.at'];rfl
theorem SAt.c1 {B TD:Nat} {w:World} {p:Nat} {v:Value} {k:Snk} (h:SAt B TD w p v k):w.cell? ⟨p,1,none⟩=some (.int .i64 k.app):=by rw [cell_of_row _ _ _ _ _ _ h.at'];rfl
theorem SAt.c2 {B TD:Nat} {w:World} {p:Nat} {v:Value} {k:Snk} (h:SAt B TD w p v k):w.cell? ⟨p,2,none⟩=some v:=by rw [cell_of_row _ _ _ _ _ _ h.at'];rfl
theorem SAt.fz {B TD:Nat} {w:World} {p:Nat} {v:Value} {k:Snk} (h:SAt B TD w p v k) (j:Nat):w.frozen? ⟨p,j,none⟩=false:=frozen_of_row _ _ _ _ _ h.at'
theorem SAt.set0 {B TD:Nat} {w:World} {p:Nat} {v:Value} {k:Snk} (h:SAt B TD w p v k) (ht:3≠TD) (s:ByteArray):SAt B TD (w.setCell ⟨p,0,none⟩ (.string s)) p v { k with data:=s }∧Upd p v v w (w.setCell ⟨p,0,none⟩ (.string s)) :=
 ⟨⟨by rw [heap_setCell_same _ _ _ _ _ _ h.at'];rfl,own_blocks h.own fun k hk=>heap_setCell_other _ _ _ _ fun e=>h.apart ht (by rw [hk,e])⟩,
  ⟨rfl,rfl,by simp,fun k _ hp _=>heap_setCell_other _ _ _ _ hp,fun _ h=>.inl h⟩⟩
theorem SAt.set1 {B TD:Nat} {w:World} {p:Nat} {v:Value} {k:Snk} (h:SAt B TD w p v k) (ht:3≠TD) (n:Int):SAt B TD (w.setCell ⟨p,1,none⟩ (.int .i64 n)) p v { k with app:=n }∧Upd p v v w (w.setCell ⟨p,1,none⟩ (.int .i64 n)) :=
 ⟨⟨by rw [heap_setCell_same _ _ _ _ _ _ h.at'];rfl,own_blocks h.own fun k hk=>heap_setCell_other _ _ _ _ fun e=>h.apart ht (by rw [hk,e])⟩,
  ⟨rfl,rfl,by simp,fun k _ hp _=>heap_setCell_other _ _ _ _ hp,fun _ h=>.inl h⟩⟩
theorem SAt.set2 {B TD:Nat} {w w':World} {p:Nat} {v v':Value} {k:Snk} {l:List Int} (h:SAt B TD w p v k) (ht:3≠TD) (hat:w'.heap[p]?=w.heap[p]?) (ho:w'.ownsRow B 3 1 v' l.length (icells l)) (hu:Upd p v v' w w') :
  SAt B TD (w'.setCell ⟨p,2,none⟩ v') p v' { k with fails:=l }∧Upd p v v' w (w'.setCell ⟨p,2,none⟩ v'):=by
 have hat':=hat.trans h.at'
 refine ⟨⟨by rw [heap_setCell_same _ _ _ _ _ _ hat'];rfl,own_blocks ho fun k hk=>heap_setCell_other _ _ _ _ fun e=>own_ne_at ho hat' ht (by rw [hk,e])⟩,?_⟩
 exact ⟨hu.os,hu.output,by simpa using hu.size,fun k hk hp hv=>(heap_setCell_other _ _ _ _ hp).trans (hu.block k hk hp hv),hu.new⟩
theorem own_int1 {w:World} {B g n cap k:Nat} {l:List Int} (h:w.ownsRow B 3 1 (.slice (some ⟨g,0,none⟩) n cap) n (icells l)) (hk:k<n) (hl:n=l.length):w.cell? ⟨g,k,none⟩=some (.int .i64 (l.getD k 0)):=by
 obtain ⟨g2,cap2,hv,hc⟩:=own_cell h hk
 cases hv
 rw [hc,icells,List.getD_eq_getElem?_getD,List.getD_eq_getElem?_getD,List.getElem?_map,List.getElem?_eq_getElem (by omega)]
 rfl
def Snk.took (k:Snk):Bool:=!k.fails.contains (k.app+1)
def Snk.append (k:Snk) (s:ByteArray):Snk:=if k.took then { k with app:=k.app+1,data:=k.data++s } else { k with app:=k.app+1 }
theorem not_took {k:Snk} {i:Nat} (hi:i<k.fails.length) (h:k.fails.getD i 0=k.app+1):k.took=false:=by
 rw [Snk.took,List.contains_iff_mem.2]
 ·rfl
 ·rw [← h,List.getD_eq_getElem?_getD,List.getElem?_eq_getElem hi];exact List.getElem_mem hi
theorem yes_took {k:Snk} (h:∀ j,j<k.fails.length→k.fails.getD j 0≠k.app+1):k.took=true:=by
 rw [Snk.took]
 cases hq:k.fails.contains (k.app+1)
 ·rfl
 ·obtain ⟨j,hj,he⟩:=List.getElem_of_mem (List.contains_iff_mem.1 hq)
  have:=h j hj
  rw [List.getD_eq_getElem?_getD,List.getElem?_eq_getElem hj] at this
  exact absurd he this
def skEnd (B TD:Nat) (w:World) (p:Nat) (v:Value) (r:Value) (k':Snk) (e:Ending) (w':World):Prop:=e=.returned r∧∃ v',SAt B TD w' p v' k'∧Upd p v v' w w'
theorem skEnd_of {B TD:Nat} {w w':World} {p:Nat} {v v':Value} {r r':Value} {k' k'':Snk} (hr:r'=r) (hd:k''=k') (h:SAt B TD w' p v' k''∧Upd p v v' w w'):skEnd B TD w p v r k' (.returned r') w':=by
 subst hr;subst hd
 exact ⟨rfl,v',h⟩
set_option maxRecDepth 100000 in
set_option maxHeartbeats 1000000 in
theorem give_go (B:Nat) (w:World) (p:Nat) (v:Value) (k:Snk) (s:ByteArray) (h:SAt B 81 w p v k) (ha:0≤k.app∧k.app≤4294967296) (hf:k.fails.length≤4294967296) (hd:k.data.size≤1099511627776) (hs:s.size≤1099511627776) :
  Calls Tryz.prog 87 #[.pointer (some ⟨p,0,none⟩),.string s] w (skEnd B 81 w p v (.bool k.took) (k.append s)):=by
 have h1:=h.c1
 have f1:=h.fz 1
 obtain ⟨ao,cap,rfl,hcap,hao⟩:=own_len h.own
 have H1:=hide (h.set1 (by decide) (k.app+1))
 have h2:=(uh H1).1.c2
 clear h
 go_enter Tryz.func87,Tryz.ntmps87
 go_wp2_with fail
 generalize w.setCell ⟨p,1,none⟩ (.int .i64 (k.app+1))=w1 at H1 h2 ⊢
 have h1':=(uh H1).1.c1
 simp only at h1'
 go_loopw [19] (fun vi wr=>∃ i:Nat,i≤k.fails.length∧vi=.int .i64 i∧(∀ j,j<i→k.fails.getD j 0≠k.app+1)∧wr=w1) (fun vi _=>k.fails.length-(intOf vi).toNat)
 case atStart=>exact ⟨0,Nat.zero_le _,rfl,fun j hj=>absurd hj (by omega),rfl⟩
 case round =>
  obtain ⟨i,hi,rfl,hb,rfl⟩:=hrel
  have HB:=hide hb
  clear hb
  by_cases hlt:i<k.fails.length
  ·obtain ⟨g,rfl⟩:=hao (by omega)
   have hiI:(i:Int)<(k.fails.length:Int):=by omega
   have hi0:(0:Int)≤(i:Int):=by omega
   have hc:wr.cell? ⟨g,i,none⟩=some (.int .i64 (k.fails.getD i 0)):=own_int1 (uh H1).1.own hlt rfl
   generalize hm:k.fails.getD i 0=m at hc
   have HM:=hide hm
   clear hm
   by_cases hmn:m=k.app+1
   ·have HT:=hide (not_took hlt (by rw [uh HM];exact hmn))
    go_wp2
    all_goals go_ret
    all_goals exact skEnd_of (by rw [uh HT];rfl) (by rw [Snk.append,uh HT];rfl) (uh H1)
   ·go_wp2
    go_roundw
    case rel =>
     refine ⟨i+1,by omega,by go_num,fun j hj=>?_,by trivial⟩
     rcases Nat.lt_or_ge j i with h3 | h3
     ·exact uh HB j h3
     ·rw [show j=i by omega,uh HM];exact hmn
    case measure=>simp [intOf];omega
  ·have hiI:¬ (i:Int)<(k.fails.length:Int):=by omega
   have HT:=hide (yes_took (k:=k) fun j hj=>uh HB j (by omega))
   have c0:=(uh H1).1.c0
   have f0:=(uh H1).1.fz 0
   simp only at c0
   have h3:=(uh H1).1.set0 (by decide) (k.data++s)
   have H3:=hide (And.intro h3.1 ((uh H1).2.trans h3.2))
   clear h3
   go_wp2
   all_goals go_ret
   all_goals exact skEnd_of (by rw [uh HT];rfl) (by rw [Snk.append,uh HT];rfl) (uh H3)
set_option maxRecDepth 100000 in
theorem sink_read_go (B:Nat) (w:World) (p:Nat) (v:Value) (k:Snk) (h:SAt B 81 w p v k) :
  Calls Tryz.prog 13 #[.pointer (some ⟨p,0,none⟩)] w fun e w'=>e=.returned (.string k.data)∧w'=w:=by
 have h0:=h.c0
 clear h
 go_enter Tryz.func13,Tryz.ntmps13
 go_wp2
 all_goals go_ret
 all_goals exact ⟨rfl,rfl⟩
end Go.Proofs.YtlbacbcenejngaaGreatDoor
