/-
  Kept
-/
import Derived.Test.YtlbacbcenejngaaGreatDoorV11
import Derived.Deep.Onto
import Derived.Laws.IdiomStrings
namespace Go.Proofs.YtlbacbcenejngaaGreatDoor
open Go.RowKit
structure Kept (B:Nat) (w w':World):Prop where
 os:w'.os=w.os
 output:w'.output=w.output
 size:w.heap.size≤w'.heap.size
 block:∀ k,k<B→w'.heap[k]?=w.heap[k]?
theorem Kept.of {B:Nat} {w w':World} (h:Below B w w'):Kept B w w':=⟨h.os,h.output,h.size,h.block⟩
theorem Kept.refl (B:Nat) (w:World):Kept B w w:=⟨rfl,rfl,Nat.le_refl _,fun _ _=>rfl⟩
theorem Kept.trans {B:Nat} {a b c:World} (h:Kept B a b) (k:Kept B b c):Kept B a c :=
 ⟨k.os.trans h.os,k.output.trans h.output,Nat.le_trans h.size k.size,fun i hi=>(k.block i hi).trans (h.block i hi)⟩
theorem Kept.mono {B B':Nat} {w w':World} (h:Kept B w w') (hB:B'≤B):Kept B' w w':=⟨h.os,h.output,h.size,fun k hk=>h.block k (Nat.lt_of_lt_of_le hk hB)⟩
theorem Kept.cell {B:Nat} {w w':World} (h:Kept B w w') {p:Addr} (hp:p.block<B):w'.cell? p=w.cell? p:=World.cell?_of_block (w:=w) (h.block p.block hp)
theorem Kept.alloc {B:Nat} {a w:World} (h:Kept B a w) (hB:B≤w.heap.size) (o:Obj):Kept B a (w.alloc o) :=
 h.trans (.of ((Below.refl B w).alloc hB o))
theorem Kept.setCell {B:Nat} {a w:World} (h:Kept B a w) {p:Addr} (hp:B≤p.block) (u:Value):Kept B a (w.setCell p u):=h.trans (.of ((Below.refl B w).setCell hp u))
theorem Kept.setRow {B:Nat} {a w:World} (h:Kept B a w) {g:Nat} (hg:B≤g) (cs:Array Value):Kept B a (w.setRow g cs) :=
 h.trans ⟨rfl,rfl,by simp,fun k hk=>setRow_other _ _ _ _ (by omega)⟩
theorem Kept.draws {B:Nat} {a w:World} (h:Kept B a w) (n:Nat):Kept B a (w.drewN n):=⟨h.os,h.output,h.size,h.block⟩
theorem Kept.frame {W w':World} (h:Kept W.heap.size W w') (may:MemPlace→Prop):W.keptBut w' may:=by
 refine ⟨h.os,h.output,fun i hi=>?_⟩
 rw [h.block i hi]
 split <;> simp_all
theorem Kept.undraw {B:Nat} {w w':World} (h:Kept B w.drew w'):Kept B w w':=⟨h.os,h.output,h.size,h.block⟩
structure Byts (w:World) (g o n cap:Nat) (L:List UInt8):Prop where
 came:Came w 1 (some ⟨g,o,none⟩) g o n cap (u8s L)
 max:cap≤maxLen
theorem Byts.len {w:World} {g o n cap:Nat} {L:List UInt8} (h:Byts w g o n cap L):L.length=n:=by
 have:=h.came.oldsLen;simpa using this
theorem Byts.lt {w:World} {g o n cap:Nat} {L:List UInt8} (h:Byts w g o n cap L) (hp:0<cap):g<w.heap.size:=h.came.lt hp
theorem Byts.carry {w w':World} {g o n cap:Nat} {L:List UInt8} (h:Byts w g o n cap L) (hb:w'.heap[g]?=w.heap[g]?) (hs:w.heap.size≤w'.heap.size):Byts w' g o n cap L:=by
 refine ⟨⟨h.came.le,h.came.addr,fun hp=>by have:=h.came.lt hp;omega,h.came.oldsLen,fun j u hu=>?_,fun j hj=>?_⟩,h.max⟩
 ·rw [World.cell?_of_block (w:=w) (a:=⟨g,o+j,none⟩) hb];exact h.came.olds j u hu
 ·rw [World.cell?_of_block (w:=w) (a:=⟨g,o+n*1+j,none⟩) hb,World.frozen?_of_block (w:=w) (a:=⟨g,o+n*1+j,none⟩) hb];exact h.came.spare j hj
theorem Byts.get {w:World} {g o n cap:Nat} {L:List UInt8} (h:Byts w g o n cap L) {j:Nat} (hj:j<n):w.cell? ⟨g,o+j,none⟩=some (.int .u8 ((L.getD j 0).toNat:Int)):=by
 refine h.came.olds j _ ?_
 have:=h.len
 rw [List.getElem?_map,List.getD_eq_getElem?_getD,List.getElem?_eq_getElem (by omega)];rfl
theorem Byts.conv {w:World} {g o n cap:Nat} {L:List UInt8} (h:Byts w g o n cap L) {P:Program} (src e dst:TypeId) (hs:P.underlying src=some (.slice e)) (he:P.underlying e=some (.int .u8))
  (hd:P.underlying dst=some .string):(convert src dst (.slice (some ⟨g,o,none⟩) n cap)).run P w=.ok (.string ⟨L.toArray⟩) w:=by
 have hl:=h.len
 rw [run_convert_bytes_arg w src e hs he g o n cap (L.map fun c=>(c.toNat:Int)) (by simpa using hl) (fun i hi=>?_) dst hd,strOf]
 rw [h.get hi]
 simp [List.getD_eq_getElem?_getD,List.getElem?_eq_getElem (show i<L.length by omega)]
structure Other (g:Nat) (w w':World):Prop where
 os:w'.os=w.os
 output:w'.output=w.output
 size:w.heap.size≤w'.heap.size
 block:∀ k,k<w.heap.size→k≠g→w'.heap[k]?=w.heap[k]?
theorem Other.kept {g B:Nat} {w w':World} (h:Other g w w') (hg:B≤g) (hB:B≤w.heap.size):Kept B w w':=⟨h.os,h.output,h.size,fun k hk=>h.block k (by omega) (by omega)⟩
theorem onto_step {w w':World} {g o n cap:Nat} {L:List UInt8} {v':Value} {y:UInt8} (h:Byts w g o n cap L)
  (k:Onto w 5 1 (some ⟨g,o,none⟩) g o n cap (u8s L) w' v' (0+1) ([]++[.int .u8 (y.toNat:Int)])) :
  ∃ g' o' cap',v'=.slice (some ⟨g',o',none⟩) (n+1) cap'∧(g'=g∨w.heap.size≤g')∧Byts w' g' o' (n+1) cap' (L++[y])∧Other g w w':=by
 have hl:=h.len
 have hoth:Other g w w':=⟨k.kept.1,k.kept.2.1,k.kept.size,fun i hi hne=>k.kept.block hi (fun p hp e=>by obtain ⟨j,_,_,rfl⟩:=hp;exact hne e.symm)⟩
 rcases k.val with ⟨hle,hv⟩ | ⟨hgt,hown⟩
 ·have hlt:g<w.heap.size:=h.lt (by omega)
  refine ⟨g,o,cap,hv,Or.inl rfl,⟨⟨hle,fun _=>rfl,fun _=>Nat.lt_of_lt_of_le hlt k.kept.size,by simp;omega,fun j u hu=>?_,fun j hj=>?_⟩,h.max⟩,hoth⟩
  ·by_cases hj:j<n
   ·rw [k.old hlt (fun j' h1 _=>by rintro ⟨_,e⟩;simp at h1;omega),h.get hj,← hu,List.getElem?_map,List.getElem?_append_left (by omega),List.getD_eq_getElem?_getD,List.getElem?_eq_getElem (by omega)]
    rfl
   ·have hjn:j=n:=by
     have:=(List.getElem?_eq_some_iff.1 hu).1
     simp at this;omega
    subst hjn
    have hw:=k.written 0 (by simp) (by omega)
    simp at hw
    rw [hw,← hu]
    simp [hl]
  ·have hs:=h.came.spare (j+1) (by omega)
   rw [show o+(n+1)*1+j=o+n*1+(j+1) by omega]
   rw [k.old hlt (fun j' h1 _=>by rintro ⟨_,e⟩;simp at h1;omega),k.frozen ⟨g,o+n*1+(j+1),none⟩ hlt]
   exact hs
 ·have hown0:=hown
  rcases hown.2 with ⟨_,h0⟩ | ⟨g',cap',cur,hv,hg',hh,hnc,hcm,hcs,ht⟩
  ·omega
  ·refine ⟨g',0,cap',hv,Or.inr hg',⟨⟨hnc,fun _=>rfl,fun _=>?_,by simp;omega,fun j u hu=>?_,fun j hj=>?_⟩,hcm⟩,hoth⟩
   ·rcases Nat.lt_or_ge g' w'.heap.size with h | h
    ·exact h
    ·rw [Array.getElem?_eq_none h] at hh;cases hh
   ·have hj:j<n+1:=by
     have:=(List.getElem?_eq_some_iff.1 hu).1
     simp at this;omega
    rw [hv] at hown0
    rw [Nat.zero_add,hown0.cellAt j (by omega),← hu]
    simp
   ·rw [cell_of_row _ _ _ _ _ _ hh,frozen_of_row _ _ _ _ _ hh]
    refine ⟨?_,rfl⟩
    rw [Array.getElem?_eq_getElem (by omega)];rfl
theorem wpList_append_byte {P:Program} (w:World) {ops:Array Oper} {rest:List Oper} {op:Oper} {a:Act} {Q:Exit→Act→World→Prop} (hgd:op.guard=none) (s x:Operand) (t:TypeId)
  (ho:op.op=.call { callee:=.builtin .append,args:=#[s,x],argTypes:=#[t,t] })
  {g o n cap:Nat} {L:List UInt8} (hc:Byts w g o n cap L) (ht:P.underlying t=some (.slice 5)) (hinfo:(P.info? 5).map (fun i=>(i.zero,i.size,i.bytes))=some (some (.int .u8 0),1,1))
  (hs:a.eval s=.slice (some ⟨g,o,none⟩) n cap) (ad:Addr) (c:Nat) (y:UInt8) (hx:a.eval x=.slice (some ad) 1 c) (hnews:∀ j u,[Value.int .u8 (y.toNat:Int)][j]?=some u→w.cell? (ad.add j)=some u)
  (hb:n+1≤140737488355328)
  (hK:∀ g' o' cap' w',(g'=g∨w.heap.size≤g')→Byts w' g' o' (n+1) cap' (L++[y])→Other g w w'→wpList P ops Q rest (a.put op.dst (.slice (some ⟨g',o',none⟩) (n+1) cap')) w'):wpList P ops Q (op::rest) a w:=by
 obtain ⟨i0,hi0,hz0,hz1,hz2⟩:=info_parts hinfo
 refine wpList_append_onto (P:=P) w hgd s x t ho hc.came i0 (.int .u8 0) 1 ht hi0 hz0 hz1 hz2 rfl (by decide) hs (Onto.start hc.came) ad c [.int .u8 (y.toNat:Int)] hx rfl hnews (mem_one rfl) (by unfold maxLen;omega) (by omega) fun v' w' k=>?_
 obtain ⟨g',o',cap',hv,h1,h2,h3⟩:=onto_step hc k
 subst hv
 exact hK g' o' cap' w' h1 h2 h3
theorem byts_start (w W:World) (s:ByteArray) (c:Nat) (hc:s.size≤c) (hm:c≤maxLen) (hW:W.heap=(w.alloc (.cells (bytesRow s c) 5 ((bytesRow s c).size,(bytesRow s c).size+1))).heap) :
  Byts W w.heap.size 0 s.size c s.data.toList:=by
 have hbl:W.heap[w.heap.size]?=some (.cells (bytesRow s c) 5 ((bytesRow s c).size,(bytesRow s c).size+1)):=by rw [hW];exact heap_alloc_new _ _
 have hsz:(bytesRow s c).size=c:=by simp [bytesRow];have:s.data.size=s.size:=rfl;omega
 refine ⟨⟨hc,fun _=>rfl,fun _=>by rw [hW];simp,by simp,fun j u hu=>?_,fun j hj=>?_⟩,hm⟩
 ·have hj:j<s.data.size:=by
   have:=(List.getElem?_eq_some_iff.1 hu).1
   simpa using this
  rw [Nat.zero_add,cell_of_row _ _ _ _ _ _ hbl,bytesRow_at s c j hj,← hu]
  simp [List.getElem?_eq_getElem (show j<s.data.toList.length by simpa using hj)]
 ·rw [cell_of_row _ _ _ _ _ _ hbl]
  refine ⟨by rw [Array.getElem?_eq_getElem (by omega)];rfl,?_⟩
  simp only [World.frozen?,hbl]
  simp;omega
end Go.Proofs.YtlbacbcenejngaaGreatDoor
