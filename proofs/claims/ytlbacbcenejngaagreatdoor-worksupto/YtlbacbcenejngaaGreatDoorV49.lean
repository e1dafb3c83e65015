/-
  Ym
-/
import Derived.Test.YtlbacbcenejngaaGreatDoorV48
import Derived.Test.YtlbacbcenejngaaGreatDoorV47
import Derived.ChangeMaps5
namespace Go.Proofs.YtlbacbcenejngaaGreatDoor
open Go.ChangeShapes Go.WideShapes Go.ChangeAt Go.WideMaps Go.WideElems Go.RowKit
theorem acell67:Tryz.prog.cellsOf 67=7:=by kernel_rfl
set_option maxRecDepth 100000 in
theorem oq_in {H:Type} {enc:TypeId × Value→H} {W:World} {n:Nat} {cs:List Value} {x:DataW H × List MemPlace} (h:DataW.trod enc Tryz.prog W 0 (fun _=>true) true n 67 cs=some x) (hb:Rows.uptoBulk x.1≤1048576) :
  ∃ c:Oq,cs=c.cells.toList∧OqIn W c:=by
 obtain ⟨xs,m,_,rfl,hl,hlen,hf⟩:=DataW.trod_struct Tryz.underlying67 h
 rw [acell67] at hl
 obtain ⟨c0,c1,c2,c3,c4,c5,c6,rfl⟩:∃ c0 c1 c2 c3 c4 c5 c6,cs=[c0,c1,c2,c3,c4,c5,c6]:=by
  match cs,hl with
  | [c0,c1,c2,c3,c4,c5,c6],_=>exact ⟨c0,c1,c2,c3,c4,c5,c6,rfl⟩
 obtain ⟨x0,x1,x2,x3,x4,x5,x6,rfl⟩:∃ x0 x1 x2 x3 x4 x5 x6,xs=[x0,x1,x2,x3,x4,x5,x6]:=by
  match xs,hlen with
  | [x0,x1,x2,x3,x4,x5,x6],_=>exact ⟨x0,x1,x2,x3,x4,x5,x6,rfl⟩
 have f0:DataW.trod enc Tryz.prog W 0 (fun _=>true) true m 3 (([c0,c1,c2,c3,c4,c5,c6].drop 0).take (Tryz.prog.cellsOf 3))=some x0:=hf 0 _ rfl
 have f1:DataW.trod enc Tryz.prog W 0 (fun _=>true) true m 3 (([c0,c1,c2,c3,c4,c5,c6].drop 1).take (Tryz.prog.cellsOf 3))=some x1:=hf 1 _ rfl
 have f2:DataW.trod enc Tryz.prog W 0 (fun _=>true) true m 3 (([c0,c1,c2,c3,c4,c5,c6].drop 2).take (Tryz.prog.cellsOf 3))=some x2:=hf 2 _ rfl
 have f3:DataW.trod enc Tryz.prog W 0 (fun _=>true) true m 3 (([c0,c1,c2,c3,c4,c5,c6].drop 3).take (Tryz.prog.cellsOf 3))=some x3:=hf 3 _ rfl
 have f4:DataW.trod enc Tryz.prog W 0 (fun _=>true) true m 9 (([c0,c1,c2,c3,c4,c5,c6].drop 4).take (Tryz.prog.cellsOf 9))=some x4:=hf 4 _ rfl
 have f5:DataW.trod enc Tryz.prog W 0 (fun _=>true) true m 9 (([c0,c1,c2,c3,c4,c5,c6].drop 5).take (Tryz.prog.cellsOf 9))=some x5:=hf 5 _ rfl
 have f6:DataW.trod enc Tryz.prog W 0 (fun _=>true) true m 38 (([c0,c1,c2,c3,c4,c5,c6].drop 6).take (Tryz.prog.cellsOf 38))=some x6:=hf 6 _ rfl
 rw [acell3] at f0 f1 f2 f3
 rw [acell9] at f4 f5
 rw [acell38] at f6
 obtain ⟨kind,e0,_,w0⟩:=DataW.trod_int Tryz.underlying3 f0
 obtain ⟨on,e1,_,w1⟩:=DataW.trod_int Tryz.underlying3 f1
 obtain ⟨a,e2,_,w2⟩:=DataW.trod_int Tryz.underlying3 f2
 obtain ⟨b,e3,_,w3⟩:=DataW.trod_int Tryz.underlying3 f3
 obtain ⟨s,e4,g4,_⟩:=DataW.trod_string Tryz.underlying9 f4
 obtain ⟨s2,e5,g5,_⟩:=DataW.trod_string Tryz.underlying9 f5
 simp at e0 e1 e2 e3 e4 e5
 subst e0 e1 e2 e3 e4 e5
 have hb':Rows.uptoBulkAll [x0.1,x1.1,x2.1,x3.1,x4.1,x5.1,x6.1]+1≤1048576:=hb
 have hs:s.size≤1048576:=by
  have this:Rows.uptoBulk x4.1≤1048576:=by have:=bulk_part (l:=[x0.1,x1.1,x2.1,x3.1,x4.1,x5.1,x6.1]) (d:=x4.1) (by simp);omega
  rw [g4] at this
  simp only [Rows.uptoBulk] at this
  rw [Array.length_toList] at this
  have e:s.data.size=s.size:=rfl
  omega
 have hs2:s2.size≤1048576:=by
  have this:Rows.uptoBulk x5.1≤1048576:=by have:=bulk_part (l:=[x0.1,x1.1,x2.1,x3.1,x4.1,x5.1,x6.1]) (d:=x5.1) (by simp);omega
  rw [g5] at this
  simp only [Rows.uptoBulk] at this
  rw [Array.length_toList] at this
  have e:s2.data.size=s2.size:=rfl
  omega
 have h5:Rows.uptoBulk x6.1≤1048576:=by have:=bulk_part (l:=[x0.1,x1.1,x2.1,x3.1,x4.1,x5.1,x6.1]) (d:=x6.1) (by simp);omega
 rcases open_ints Tryz.underlying38 Tryz.underlying3 acell3 f6 with ⟨e5,_⟩ | ⟨ad,len,cap,zs,e5,hbb,hlc,hcm,hzl,hx5,hcell,hwf⟩
 ·simp at e5
  subst e5
  exact ⟨⟨kind,on,a,b,s,s2,.slice none 0 0,[]⟩,rfl,⟨wf_i64 w0,wf_i64 w1,wf_i64 w2,hs,hs2,.inl ⟨rfl,.inl rfl⟩,by simp⟩⟩
 ·simp at e5
  subst e5
  simp only [if_true] at hzl
  have hlz:(zs.take len).length=len:=by rw [List.length_take];omega
  have hlb:len≤1048576:=by
   rw [hx5] at h5
   simp only [Rows.uptoBulk] at h5
   have:=bulk_len (lits (H:=H) .i64 (zs.take len))
   rw [lits,List.length_map,hlz] at this
   rw [lits] at h5
   omega
  refine ⟨⟨kind,on,a,b,s,s2,.slice (some ad) len cap,zs.take len⟩,rfl,⟨wf_i64 w0,wf_i64 w1,wf_i64 w2,hs,hs2,?_,by rw [hlz];exact hlb⟩⟩
  rcases Nat.eq_zero_or_pos len with h0 | h0
  ·subst h0
   exact .inl ⟨by simp,.inr ⟨ad,cap,rfl⟩⟩
  ·obtain ⟨b,o,spot⟩:=ad
   have hc0:=hcell 0 (by omega)
   have hspot:spot=none:=by simpa [Addr.add] using World.cell?_spot hc0
   subst hspot
   refine .inr ⟨b,o,cap,by rw [hlz];exact h0,by rw [hlz],by rw [hlz];exact hlc,World.block_lt_of_cell? _ _ hc0,fun j hj=>?_⟩
   rw [hlz] at hj
   have:=hcell j (by omega)
   rw [add_addr] at this
   rw [this,List.getD_eq_getElem?_getD,List.getD_eq_getElem?_getD,List.getElem?_take,if_pos hj]
set_option maxRecDepth 100000 in
theorem scrO_in {H:Type} {enc:TypeId × Value→H} {W:World} {a0:Option Addr} {n0 c0:Nat} {d:DataW H} {ps:List MemPlace} (h:DataW.Trod enc Tryz.prog W 0 (fun _=>true) true 22 (.slice a0 n0 c0) d ps) (hb:Rows.uptoBulk d≤1048576):∃ l,ScrO W (.slice a0 n0 c0) l:=by
 obtain ⟨fuel,hf⟩:=h
 rcases DataW.trod_slice Tryz.underlying22 hf with ⟨hcs,_⟩ | ⟨a,len,cap,elems,rest,n,_,hcs,hx,_,hl,hm,hlen,hel,_,_⟩
 ·simp [Value.cells] at hcs
  obtain ⟨rfl,rfl,rfl⟩:=hcs
  exact ⟨[],⟨none,0,rfl,fun h=>absurd h (by simp)⟩,fun i hi=>absurd hi (by simp),by simp⟩
 ·simp [Value.cells] at hcs
  obtain ⟨rfl,rfl,rfl⟩:=hcs
  simp only [Prod.mk.injEq] at hx
  obtain ⟨rfl,_⟩:=hx
  have hb2:Rows.uptoBulkAll (elems.map (·.1))+1≤1048576:=by simp only [Rows.uptoBulk] at hb;omega
  have hlb:n0≤1048576:=by have:=bulk_len (elems.map (·.1));rw [List.length_map,hlen] at this;omega
  rw [acell67] at hel
  have each:∀ i,i<n0→∃ c:Oq,(∀ j u,c.cells.toList[j]?=some u→W.cell? ((a.add (i*7)).add j)=some u)∧OqIn W c:=by
   intro i hi
   have h1:=hel i hi
   rw [List.getElem?_eq_getElem (by omega),Option.bind_eq_some_iff] at h1
   obtain ⟨cs,hcs,ht2⟩:=h1
   obtain ⟨c,hc,hA⟩:=oq_in ht2 (by have:=bulk_part (l:=elems.map (·.1)) (d:=(elems[i]'(by omega)).1) (List.mem_map.2 ⟨_,List.getElem_mem _,rfl⟩);omega)
   refine ⟨c,fun j u hu=>?_,hA⟩
   have h6:j<7:=by have:=(List.getElem?_eq_some_iff.1 hu).1;exact this
   have:=(World.cells?_some hcs).2.2 j h6
   rw [this,hc];exact hu
  obtain ⟨l,hll,hl2⟩:=list_of6 (d:=oq0) each
  refine ⟨l,⟨some a,c0,by rw [hll],fun h0=>?_⟩,fun i hi=>(hl2 i (by omega)).2,by omega⟩
  obtain ⟨b,o,spot⟩:=a
  have hc0:=(hl2 0 (by omega)).1 0 _ rfl
  have hspot:spot=none:=by simpa [Addr.add] using World.cell?_spot hc0
  subst hspot
  refine ⟨b,o,rfl,World.block_lt_of_cell? _ _ hc0,fun i hi j u hu=>?_⟩
  have:=(hl2 i (by omega)).1 j u hu
  rwa [add_addr,add_addr] at this
end Go.Proofs.YtlbacbcenejngaaGreatDoor
