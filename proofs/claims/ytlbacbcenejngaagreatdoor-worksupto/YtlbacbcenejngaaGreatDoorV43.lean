/-
  Ka Kb Kc Kf Fa Fb Fd Ua Wi Wj Wk Wl Wm
-/
import Derived.Test.YtlbacbcenejngaaGreatDoorV42
import Derived.Test.YtlbacbcenejngaaGreatDoorV25
import Derived.Test.YtlbacbcenejngaaGreatDoorV02
import Derived.Test.YtlbacbcenejngaaGreatDoorV33
import Derived.Test.YtlbacbcenejngaaGreatDoorV39
import Derived.Deep.DeepCutAuto
import Derived.Deep.RegionLaw
namespace Go.Proofs.YtlbacbcenejngaaGreatDoor
open Go.RowKit
def i64 (c:Int):Prop:=-9223372036854775808≤c∧c≤9223372036854775807
end Go.Proofs.YtlbacbcenejngaaGreatDoor
namespace Go.Proofs.YtlbacbcenejngaaGreatDoor
open Go.RowKit
theorem cut_str (P:ByteArray) (k:Nat) (h:k≤P.size) (w:World):(Instr.sliceAt 9 (.string P) none (some (.int .i64 (k:Int))) none).run Tryz.prog w=.ok (.string (P.extract 0 k)) w:=by
  have hu:=Tryz.underlying9
  have h1:(k:Int)≤(P.size:Int):=by omega
  have h2:¬ (P.size:Int)<(k:Int):=by omega
  simp [Instr.sliceAt,Instr.slice,go_sem,h1]
theorem yieldsIf_cut {ops:Array Oper} {S:World→Prop} {op:Oper} {a:Act} (hw:Region.wanted op (yielded ops a.tmps)=true) (x y:Operand) (ho:op.op=.slice 9 x none (some y) none) {vx vy v:Value}
    (hr:∀ W,(Instr.sliceAt 9 vx none (some vy) none).run Tryz.prog W=.ok v W) (hx:a.eval x=vx) (hy:a.eval y=vy):YieldsIf Tryz.prog ops S op v a :=
  .inl ⟨hw,fun W _=>by
    unfold execOp
    simp only [ho,Option.map_none,Option.map_some,hx,hy,Sem.run_bind,hr W,Result.andThen_ok,Sem.run_pure]⟩
end Go.Proofs.YtlbacbcenejngaaGreatDoor
namespace Go.Proofs.YtlbacbcenejngaaGreatDoor
open Go.RowKit
theorem vlt0_bnd {key root:ByteArray} {l:List Snk} (hl:1≤l.length∧l.length≤4) (hk:key.size≤1100000) (h0:∀ k∈l,k=snk0):(vlt0 key root l).Bnd [] 0:=by
 have hne:∃ k,k∈l:=by
  cases l with
  | nil=>simp at hl
  | cons a l=>exact ⟨a,.head _⟩
 refine ⟨⟨trivial,rfl,rfl,fun k hk=>⟨0,Nat.le_refl _,by rw [h0 k hk];rfl⟩,?_,⟨by simp [vlt0,sto0],?_,by simp [vlt0,sto0],by simp [vlt0,sto0],by simp [vlt0,sto0],by simp [vlt0,sto0]⟩⟩,⟨by decide,by decide⟩,⟨rfl,rfl,.inl rfl⟩,fun k hk=>?_,hl.2,hk⟩
 ·obtain ⟨k,hk⟩:=hne
  exact ⟨k,hk,by rw [h0 k hk];rfl⟩
 ·intro t ht
  simp only [vlt0,sto0,List.mem_singleton] at ht
  rw [ht]
  exact Nat.zero_le _
 ·rw [h0 k hk]
  exact ⟨⟨0,Nat.le_refl _,rfl,by decide⟩,by decide,by decide⟩
end Go.Proofs.YtlbacbcenejngaaGreatDoor
namespace Go.Proofs.YtlbacbcenejngaaGreatDoor
open Go.RowKit
structure Op (B:Nat) (w:World) (sp dp:Nat) (dv:Value) (i:Nat) (SL:List (Loc Snk)) (lv:Value) (wr:World):Prop where
 at':wr.heap[sp]?=some (.cells #[.pointer none,.pointer (some ⟨dp,0,none⟩),lv] 35 (0,0))
 row:wr.ownsRow w.heap.size 41 1 lv i (pcells (SL.map (·.p)))
 snk:Fam (PS B 81) wr SL
 len:SL.length=i
 new:∀ e∈SL,e.x=snk0∧w.heap.size≤e.p∧e.v=.slice none 0 0
 dsk:DAt B 117 149 wr dp dv dsk0
 kept:Kept w.heap.size w wr
end Go.Proofs.YtlbacbcenejngaaGreatDoor
namespace Go.Proofs.YtlbacbcenejngaaGreatDoor
open Go.RowKit
theorem rights_and:∀ r,r<8→(decide (UInt8.ofNat r &&& 1=0)=!decide (r % 2=1))∧(decide (UInt8.ofNat r &&& 2=0)=!decide (r / 2 % 2=1))∧(decide (UInt8.ofNat r &&& 4=0)=!decide (r / 4=1)):=by decide
end Go.Proofs.YtlbacbcenejngaaGreatDoor
namespace Go.Proofs.YtlbacbcenejngaaGreatDoor
open Go.RowKit
theorem range_kept {w w':World} {b o n:Nat} {l:List Value} (h:w.rangeAt b o l) (hk:Kept n w w') (hb:b<n):w'.rangeAt b o l:=fun j u hu=>((hk.cell (p:=⟨b,o+j,none⟩) hb).trans (h j u hu))
end Go.Proofs.YtlbacbcenejngaaGreatDoor
namespace Go.Proofs.YtlbacbcenejngaaGreatDoor
open Go.RowKit
def Vlt.failAt (V:Vlt) (i:Nat) (L:List Int):Vlt:={ V with snks:=V.snks.modify i fun k=>k.fail L }
theorem mem_modify {α:Type} {f:α→α} {x:α}:∀ {l:List α} {i:Nat},x∈l.modify i f→x∈l∨∃ y∈l,x=f y:=by
 intro l
 induction l with
 | nil=>intro i h;simp at h
 | cons a l ih =>
  intro i h
  cases i with
  | zero =>
   simp only [List.modify_zero_cons,List.mem_cons] at h
   rcases h with rfl | h
   ·exact .inr ⟨a,.head _,rfl⟩
   ·exact .inl (.tail _ h)
  | succ i =>
   simp only [List.modify_succ_cons,List.mem_cons] at h
   rcases h with rfl | h
   ·exact .inl (.head _)
   ·rcases ih h with h | ⟨y,hy,e⟩
    ·exact .inl (.tail _ h)
    ·exact .inr ⟨y,.tail _ hy,e⟩
theorem modify_mem {α:Type} {f:α→α} {x:α}:∀ {l:List α} (i:Nat),x∈l→x∈l.modify i f∨f x∈l.modify i f:=by
 intro l
 induction l with
 | nil=>intro i h;cases h
 | cons a l ih =>
  intro i h
  cases i with
  | zero =>
   simp only [List.modify_zero_cons,List.mem_cons]
   rcases List.mem_cons.1 h with rfl | h
   ·exact .inr (.inl rfl)
   ·exact .inl (.inr h)
  | succ i =>
   simp only [List.modify_succ_cons,List.mem_cons]
   rcases List.mem_cons.1 h with rfl | h
   ·exact .inl (.inl rfl)
   ·rcases ih i h with h | h
    ·exact .inl (.inr h)
    ·exact .inr (.inr h)
theorem modify_set {α:Type} (f:α→α):∀ {l:List α} {i:Nat} (h:i<l.length),l.modify i f=l.set i (f l[i]):=by
 intro l
 induction l with
 | nil=>intro i h;simp at h
 | cons a l ih =>
  intro i h
  cases i with
  | zero=>rfl
  | succ i=>simp only [List.modify_succ_cons,List.set_cons_succ,List.getElem_cons_succ];rw [ih]
theorem Vlt.Ok.failAt {V:Vlt} {E:List ByteArray} (h:V.Ok E) (i:Nat) (L:List Int):(V.failAt i L).Ok E:=by
 refine ⟨h.chn,h.cnt,h.last,fun k hk=>?_,?_,h.sto⟩
 ·rcases mem_modify hk with hk | ⟨y,hy,rfl⟩
  ·exact h.snk k hk
  ·exact h.snk y hy
 ·obtain ⟨k,hk,e⟩:=h.most
  rcases modify_mem (f:=fun k:Snk=>k.fail L) i hk with h1 | h1
  ·exact ⟨k,h1,e⟩
  ·exact ⟨_,h1,e⟩
theorem Vlt.Bnd.failAt {V:Vlt} {E:List ByteArray} {n:Nat} (h:V.Bnd E n) (i:Nat) (L:List Int) (hL:L.length≤4294967296):(V.failAt i L).Bnd E n:=by
 refine ⟨h.ok.failAt i L,h.le,h.dsk,fun k hk=>?_,by show (V.snks.modify i _).length≤4;rw [List.length_modify];exact h.few,h.key⟩
 rcases mem_modify hk with hk | ⟨y,hy,rfl⟩
 ·exact h.snk k hk
 ·obtain ⟨⟨m,h1,h2,h3⟩,h4,h5⟩:=h.snk y hy
  exact ⟨⟨m,h1,h2,by show (0:Int)≤(m:Int)+(n:Int);omega⟩,Int.le_refl _,hL⟩
theorem VAt.knd {B:Nat} {w:World} {vp:Nat} {g:VG} {V:Vlt} (h:VAt B w vp g V) {k:Nat} (hk:Vft vp g k):∃ n∈[79,144,118,150,128,42,82,4,169,236,238,0],knd w k=some n:=by
 rcases hk with rfl | rfl | hk | hk | hk
 ·exact ⟨79,by decide,(show TyAt w _ 78 from ⟨_,h.at'⟩).knd⟩
 ·exact ⟨144,by decide,(show TyAt w _ 143 from ⟨_,h.jat⟩).knd⟩
 ·obtain ⟨n,hn,e⟩:=h.dsk.knd hk
  refine ⟨n,?_,e⟩
  simp at hn ⊢;omega
 ·obtain ⟨n,hn,e⟩:=h.log.knd hk
  refine ⟨n,?_,e⟩
  simp at hn ⊢;omega
 ·obtain ⟨n,hn,e⟩:=h.sto.knd hk
  refine ⟨n,?_,e⟩
  simp at hn ⊢;omega
section
variable {w0:World} {p vp:Nat} {lv:Value} {A:Vlt} {n:Nat} {p2 vp2:Nat} {lv2:Value} {C:Vlt} {m:Nat} {w w':World}
end
end Go.Proofs.YtlbacbcenejngaaGreatDoor
namespace Go.Proofs.YtlbacbcenejngaaGreatDoor
open Go.RowKit
theorem index33 (b i n cap:Nat) (h:i<n) (W:World):(Instr.indexAt 33 (.slice (some ⟨b,0,none⟩) n cap) (.int .i64 (i:Int))).run Tryz.prog W=.ok (.pointer (some ⟨b,i,none⟩)) W:=by
 have hu:=Tryz.underlying33
 have h1:(i:Int)<(n:Int):=by omega
 have h2:(0:Int)≤(i:Int):=by omega
 simp [Instr.indexAt,go_sem,h2]
 omega
theorem yieldsIf_index {ops:Array Oper} {S:World→Prop} {op:Oper} {a:Act} (hw:Region.wanted op (yielded ops a.tmps)=true) (t:TypeId) (x y:Operand) (ho:op.op=.indexAddr t x y) {vx vy v:Value}
  (hr:∀ W,(Instr.indexAt t vx vy).run Tryz.prog W=.ok v W) (hx:a.eval x=vx) (hy:a.eval y=vy):YieldsIf Tryz.prog ops S op v a :=
 .inl ⟨hw,fun W _=>by
  unfold execOp
  simp only [ho,hx,hy,Sem.run_bind,hr W,Result.andThen_ok,Sem.run_pure]⟩
end Go.Proofs.YtlbacbcenejngaaGreatDoor
namespace Go.Proofs.YtlbacbcenejngaaGreatDoor
open Go.RowKit
abbrev PSc (secs:List Sc):List (ByteArray × Pth):=secs.map fun c=>(c.name,c.pth)
theorem psc_names (secs:List Sc):(PSc secs).map (·.1)=secs.map (·.name):=by rw [List.map_map];rfl
def getA (l:List (ByteArray × Pth)) (path:ByteArray) (n:Nat):ByteArray:=match lk path l with
 | none=>bs [4]
 | some p=>match pickV n p.vers with | some v=>bs [0]++txt v | none=>bs [4]
structure ScOk (c:Sc):Prop where
 vs:VsOk c.pth
 len:c.pth.vers.length≤1000
 val:∀ v∈c.pth.vers,v.2.size≤1000
 next:c.pth.next≤1000
 name:c.name.size≤1000
theorem index246 (b i n cap:Nat) (h:i<n) (W:World):(Instr.indexAt 246 (.slice (some ⟨b,0,none⟩) n cap) (.int .i64 (i:Int))).run Tryz.prog W=.ok (.pointer (some ⟨b,i*2,none⟩)) W:=by
 have hu:=Tryz.underlying246
 have h1:(i:Int)<(n:Int):=by omega
 have h2:(0:Int)≤(i:Int):=by omega
 simp [Instr.indexAt,go_sem,h2]
 omega
theorem index150 (b i n cap:Nat) (h:i<n) (W:World):(Instr.indexAt 150 (.slice (some ⟨b,0,none⟩) n cap) (.int .i64 (i:Int))).run Tryz.prog W=.ok (.pointer (some ⟨b,i*3,none⟩)) W:=by
 have hu:=Tryz.underlying150
 have h1:(i:Int)<(n:Int):=by omega
 have h2:(0:Int)≤(i:Int):=by omega
 simp [Instr.indexAt,go_sem,h2]
 omega
theorem index151 (b i n cap:Nat) (h:i<n) (W:World):(Instr.indexAt 151 (.slice (some ⟨b,0,none⟩) n cap) (.int .i64 (i:Int))).run Tryz.prog W=.ok (.pointer (some ⟨b,i*3,none⟩)) W:=by
 have hu:=Tryz.underlying151
 have h1:(i:Int)<(n:Int):=by omega
 have h2:(0:Int)≤(i:Int):=by omega
 simp [Instr.indexAt,go_sem,h2]
 omega
set_option maxRecDepth 100000 in
set_option maxHeartbeats 4000000 in
theorem get_ref (B:Nat) (w:World) (rp:Nat) (g:RG) (key root:ByteArray) (secs:List Sc) (toks:List (ByteArray × Tok)) (E:List ByteArray) (H:List Nat) (r:Pq) (h:RVAt B w rp g key root secs toks E H) (hl:secs.length≤1000) (ho:∀ c∈secs,ScOk c) (_hn:r.n≤1000) :
  Calls Tryz.prog 152 #[.pointer (some ⟨rp,0,none⟩),.agg r.cells] w fun e w'=>e=.returned (.string (getA (PSc secs) r.path r.n))∧Kept w.heap.size w w':=by
 obtain ⟨w1,hw1⟩:∃ w1,w1=w.alloc (.cells r.cells 223):=⟨_,rfl⟩
 have hbx:w1.heap[w.heap.size]?=some (.cells r.cells 223 (0,0)):=by rw [hw1];exact heap_alloc_new _ _
 have HK1:=hide (show Kept w.heap.size w w1 by rw [hw1];exact (Kept.refl _ _).alloc (Nat.le_refl _) _)
 have hz1:w.heap.size<w1.heap.size:=(Array.getElem?_eq_some_iff.1 hbx).1
 have H1:=hide (h.keep (uh HK1))
 have hc2:w1.cell? ⟨w.heap.size,2,none⟩=some (.string r.path):=by rw [cell_of_row _ _ _ _ _ _ hbx];rfl
 have hcn:w1.cell? ⟨w.heap.size,4,none⟩=some (.int .i64 (r.n:Int)):=by rw [cell_of_row _ _ _ _ _ _ hbx];rfl
 have hrp:w1.cell? ⟨rp,2,none⟩=some g.sv:=((uh H1).c 2).trans rfl
 have HB:=hide hbx
 have HO:=hide ho
 clear h hbx ho
 go_enter Tryz.func152,Tryz.ntmps152
 go_upto_region 1 with fail
 rw [← hw1]
 clear hw1
 go_wp2_with fail
 refine (secret_ref B w1 rp g key root secs toks E H r.path (uh H1) hl).mono ?_
 rintro _ wq ⟨⟨x,rfl,hx⟩,hwq⟩
 obtain rfl:w1=wq:=hwq.symm
 clear hwq
 have HIX:=hide (show Ix ((PSc secs).map (·.1)) r.path x by rw [psc_names];exact hx)
 rcases hx with ⟨i,rfl,hi,_⟩ | ⟨rfl,_⟩
 ·obtain ⟨c,hci⟩:∃ c,secs[i]?=some c:=by
   rw [List.getElem?_map] at hi
   obtain ⟨c,hc,_⟩:=Option.map_eq_some_iff.1 hi
   exact ⟨c,hc⟩
  have hcm:=List.mem_of_getElem? hci
  have HOC:=hide (uh HO c hcm)
  have hil:=(List.getElem?_eq_some_iff.1 hci).1
  have HLK:=hide (show lk r.path (PSc secs)=some c.pth by
   rcases uh HIX with ⟨j,e,h1,h2⟩ | ⟨e,_⟩
   ·obtain rfl:i=j:=by omega
    obtain ⟨a,b1,b2,_⟩:=ix_found _ _ h1 h2
    rw [List.getElem?_map,hci] at b1
    rw [b2]
    have:=Option.some.inj b1
    rw [← (Prod.mk.inj this).2]
   ·omega)
  obtain ⟨sb,scap,hsv,hsb,hcs⟩:=own_wide (f:=Sc.cell) (z:=3) (fun _=>rfl) (uh H1).sec hci
  have hcL:w1.cell? ⟨sb,i*3+2,none⟩=some c.L:=hcs 2 (by decide)
  have hown:=(uh H1).ver c hcm
  obtain ⟨lo,lcap,hLv,_,hlo⟩:=own_len hown
  have HW:=hide (show ∀ k v,c.pth.vers[k]?=some v→∃ b cap,c.L=.slice (some ⟨b,0,none⟩) c.pth.vers.length cap∧b<w1.heap.size∧∀ j,j<2→w1.cell? ⟨b,k*2+j,none⟩=(vrcell v)[j]? from fun k v hk=>own_wide (f:=vrcell) (z:=2) (fun _=>rfl) hown hk)
  rw [hsv] at hrp
  rw [hLv] at hcL HW
  have hi0:(0:Int)≤(i:Int):=by omega
  have hiI:(i:Int)<(secs.length:Int):=by omega
  have hin:¬ (i:Int)<0:=by omega
  have hinB:decide ((i:Int)<0)=false:=decide_eq_false hin
  have hvl:=(uh HOC).len
  have HVS:=hide (uh HOC).vs
  have HVL:=hide (uh HOC).val
  clear HOC
  have HG:=hide (show getA (PSc secs) r.path r.n=match pickV r.n c.pth.vers with | some v=>bs [0]++txt v | none=>bs [4] by unfold getA;rw [uh HLK])
  clear hi hci hcm HIX HLK hcs hown hlo hsv hLv HO
  generalize c.pth=pt at *
  go_wp2_with fail
  go_loopw [7] (fun vk wr=>∃ m:Nat,m≤pt.vers.length∧vk=.int .i64 ((m:Int)-1)∧(∀ j,m≤j→j<pt.vers.length→¬ (r.n=0∨(pt.vers.getD j (0,.empty)).1=r.n))∧Kept w1.heap.size w1 wr) (fun vk _=>(intOf vk+1).toNat)
  case atStart=>exact ⟨pt.vers.length,Nat.le_refl _,rfl,fun j h1 h2=>absurd h1 (by omega),Kept.refl _ _⟩
  case round =>
   obtain ⟨m,hm,rfl,hb,hk⟩:=hrel
   have HBK:=hide hb
   have HKR:=hide hk
   clear hb hk
   have HKW:=hide ((uh HK1).trans ((uh HKR).mono (by omega)))
   have hcn':wr.cell? ⟨w.heap.size,4,none⟩=some (.int .i64 (r.n:Int)):=((uh HKR).cell (p:=⟨w.heap.size,4,none⟩) hz1).trans hcn
   rcases Nat.eq_zero_or_pos m with hm0 | hm0
   ·subst hm0
    have HN:=hide (show getA (PSc secs) r.path r.n=bs [4] by rw [uh HG,pick_none fun j hj=>uh HBK j (Nat.zero_le _) hj])
    have hneg:¬ (0:Int)≤((0:Nat):Int)-1:=by omega
    have HON:=hide (one_ref 4 wr (by decide))
    go_wp2_with fail
    refine (uh HON).mono ?_
    rintro _ w5 ⟨rfl,hk5⟩
    have HK5:=hide ((uh HKW).trans (hk5.mono (uh HKW).size))
    clear hk5
    go_wp2_with fail
    go_ret
    exact ⟨by rw [uh HN];rfl,uh HK5⟩
   ·obtain ⟨k,rfl⟩:∃ k,m=k+1:=⟨m-1,by omega⟩
    have hkl:k<pt.vers.length:=by omega
    obtain ⟨lb,lc',e1,hlb,hcv⟩:=uh HW k pt.vers[k] (List.getElem?_eq_getElem hkl)
    injection e1 with e2 _ e4
    subst e2 e4
    have hgd:pt.vers.getD k (0,.empty)=pt.vers[k]:=by rw [List.getD_eq_getElem?_getD,List.getElem?_eq_getElem hkl];rfl
    have hv0:wr.cell? ⟨lb,k*2,none⟩=some (.int .i64 (pt.vers[k].1:Int)):=((uh HKR).cell (p:=⟨lb,k*2,none⟩) hlb).trans (hcv 0 (by decide))
    have hv1:wr.cell? ⟨lb,k*2+1,none⟩=some (.string pt.vers[k].2):=((uh HKR).cell (p:=⟨lb,k*2+1,none⟩) hlb).trans (hcv 1 (by decide))
    have hvz:=uh HVL _ (List.getElem_mem hkl)
    have hvn:=((uh HVS).num _ (List.getElem_mem hkl)).1
    have HPB:=hide (fun hy=>pick_back (n:=r.n) (uh HVS) hkl hy fun j h1 h2=>uh HBK j h1 h2)
    rw [hgd] at HPB
    have HGD:=hide hgd
    clear hcv hgd
    generalize pt.vers[k]=v at *
    have hkI:((k+1:Nat):Int)-1=(k:Int):=by omega
    rw [hkI]
    have hk0:(0:Int)≤(k:Int):=by omega
    have hkl':(k:Int)<(pt.vers.length:Int):=by omega
    go_upto_region 8 with fail
    go_cut [42] (fun cv wx=>cv=.bool (decide (r.n=0∨v.1=r.n))∧Kept wr.heap.size wr wx)
    case first =>
     by_cases hn0:r.n=0
     ·have hnI:((r.n:Int)==0)=true:=by rw [beq_iff_eq];omega
      go_quiet (fail)
      go_wp2_with fail
      go_meet
      case rel=>exact ⟨by rw [decide_eq_true (.inl hn0)],⟨rfl,rfl,Nat.le_refl _,fun _ _=>rfl⟩⟩
     ·have hnI:((r.n:Int)==0)=false:=beq_eq_false_iff_ne.2 (by omega)
      by_cases hvn':v.1=r.n
      ·have hvI:((v.1:Int)==(r.n:Int))=true:=by rw [beq_iff_eq];omega
       go_quiet (fail)
       go_wp2_with fail
       go_meet
       case rel=>exact ⟨by rw [decide_eq_true (.inr hvn')],⟨rfl,rfl,Nat.le_refl _,fun _ _=>rfl⟩⟩
      ·have hvI:((v.1:Int)==(r.n:Int))=false:=beq_eq_false_iff_ne.2 (by omega)
       go_quiet (fail)
       go_wp2_with fail
       go_meet
       case rel=>exact ⟨by rw [decide_eq_false (by rintro (h | h);exact hn0 h;exact hvn' h)],⟨rfl,rfl,Nat.le_refl _,fun _ _=>rfl⟩⟩
    case rest =>
     obtain ⟨rfl,hkc⟩:=hcut
     have HKC:=hide hkc
     clear hkc
     have HKX:=hide ((uh HKW).trans ((uh HKC).mono (uh HKW).size))
     by_cases hy:r.n=0∨v.1=r.n
     ·rw [decide_eq_true hy]
      have hv1c:wc.cell? ⟨lb,k*2+1,none⟩=some (.string v.2):=((uh HKC).cell (p:=⟨lb,k*2+1,none⟩) (by have:=(uh HKR).size;show lb<wr.heap.size;omega)).trans hv1
      have hlbc:lb<wc.heap.size:=by have:=(uh HKR).size;have:=(uh HKC).size;omega
      have HGV:=hide (show getA (PSc secs) r.path r.n=bs [0]++txt v.2 by rw [uh HG,uh HPB hy])
      have HT:=hide (txt_eq v.2)
      have HO1:=hide (fun W=>one_ref 0 W (by decide))
      have HO2:=hide (fun W=>one_ref v.2.size W (by omega))
      generalize v.2=vv at *
      rw [show bs [UInt8.ofNat 0]=bs [0] from rfl] at HO1
      have z0:(bs [0]).size=1:=rfl
      have z1:(bs [UInt8.ofNat vv.size]).size=1:=bs_size _
      generalize bs [0]=X0 at *
      generalize bs [UInt8.ofNat vv.size]=X1 at *
      have n1:(9223372036854775807<X0.size+X1.size)=False:=eq_false (by omega)
      obtain ⟨X2,hX2⟩:∃ X,X=X0++X1:=⟨_,rfl⟩
      have z2:X2.size=2:=by rw [hX2,ByteArray.size_append];omega
      have e12:=hX2.symm
      have n2:(9223372036854775807<X2.size+vv.size)=False:=eq_false (by omega)
      obtain ⟨X3,hX3⟩:∃ X,X=X2++vv:=⟨_,rfl⟩
      have e23:=hX3.symm
      have HF:=hide (show getA (PSc secs) r.path r.n=X3 by rw [uh HGV,hX3,hX2,← uh HT,ba_assoc])
      clear hX2 hX3 hv0 hv1
      go_upto_region 9 with fail
      refine wp_region_held_drew (S:=fun W=>W.cell? ⟨lb,k*2+1,none⟩=some (.string vv)) (by kernel_rfl) (hv1c) (fun hHeld=>?_)
      refine tkL 2 [(1,some 44,.slice (some ⟨lb,0,none⟩) pt.vers.length lcap),(2,some 45,.int .i64 (k:Int))] (by kernel_rfl) (fun _ _ _ _ _ h=>h) (fun _ _=>by kernel_rfl) hHeld ?_
      simp only [zz0,zz1,zz2,zz4,zz5]
      refine tkG 3 (some 46) (.indexAddr 246 (.tmp 44) (.tmp 45)) 0 none (.pointer (some ⟨lb,k*2,none⟩)) (by kernel_rfl) (fun _ _ _ h=>h) (yieldsIf_index (by kernel_rfl) 246 (.tmp 44) (.tmp 45) rfl (index246 lb k pt.vers.length lcap hkl) (by kernel_rfl) (by kernel_rfl)) hHeld ?_
      simp only [zz0,zz1,zz2]
      refine tkP 4 (some 47) (.pointer (some ⟨lb,k*2+1,none⟩)) (by kernel_rfl) (fun _ _ _ h=>h) (fun _ _=>by kernel_rfl) hHeld ?_
      simp only [zz0,zz1,zz2]
      refine tkG 5 (some 48) (.load 9 (.tmp 47)) 9 none (.string vv) (by kernel_rfl) (fun _ _ _ h=>h) (Or.inl ⟨by kernel_rfl,fun W hW=>by simp [execOp,go_sem,hW]⟩) hHeld ?_
      simp only [zz0,zz1,zz2]
      refine tkG 6 (some 49) (.call { callee:=.builtin .len,args:=#[.tmp 48],argTypes:=#[9] }) 3 none (.int .i64 (vv.size:Int)) (by kernel_rfl) (fun _ _ _ h=>h) (Or.inl ⟨by kernel_rfl,fun W hW=>by go_simp⟩) hHeld ?_
      simp only [zz0,zz1,zz2]
      refine tkL 2 [(9,some 52,.slice (some ⟨lb,0,none⟩) pt.vers.length lcap),(10,some 53,.int .i64 (k:Int))] (by kernel_rfl) (fun _ _ _ _ _ h=>h) (fun _ _=>by kernel_rfl) hHeld ?_
      simp only [zz0,zz1,zz2,zz4,zz5]
      refine tkG 11 (some 54) (.indexAddr 246 (.tmp 52) (.tmp 53)) 0 none (.pointer (some ⟨lb,k*2,none⟩)) (by kernel_rfl) (fun _ _ _ h=>h) (yieldsIf_index (by kernel_rfl) 246 (.tmp 52) (.tmp 53) rfl (index246 lb k pt.vers.length lcap hkl) (by kernel_rfl) (by kernel_rfl)) hHeld ?_
      simp only [zz0,zz1,zz2]
      refine tkP 12 (some 55) (.pointer (some ⟨lb,k*2+1,none⟩)) (by kernel_rfl) (fun _ _ _ h=>h) (fun _ _=>by kernel_rfl) hHeld ?_
      simp only [zz0,zz1,zz2]
      refine tkG 13 (some 56) (.load 9 (.tmp 55)) 9 none (.string vv) (by kernel_rfl) (fun _ _ _ h=>h) (Or.inl ⟨by kernel_rfl,fun W hW=>by simp [execOp,go_sem,hW]⟩) hHeld ?_
      simp only [zz0,zz1,zz2]
      refine rd1 0 (some 43) (.call { callee:=.value (.func 121),args:=#[.const (.int .i64 0)],argTypes:=#[3] }) 9 (by kernel_rfl) (fun K hK=>?_)
      go_simp
      refine (uh HO1 wc.drew).mono ?_
      rintro _ w5 ⟨rfl,hk5⟩
      have HK5:=hide ((uh HKX).trans ((show Kept wc.heap.size wc w5 from ⟨hk5.os,hk5.output,hk5.size,hk5.block⟩).mono (uh HKX).size))
      have hS5:w5.cell? ⟨lb,k*2+1,none⟩=some (.string vv):=(hk5.cell (p:=⟨lb,k*2+1,none⟩) hlbc).trans hv1c
      clear hk5
      show K _ w5
      refine hK.out _ _ (hS5) (fun hHeld0=>?_)
      clear hK K
      try simp only [zz0,zz1,zz2]
      refine rd1 7 (some 50) (.call { callee:=.value (.func 121),args:=#[.tmp 49],argTypes:=#[3] }) 9 (by kernel_rfl) (fun K hK=>?_)
      go_simp
      refine (uh HO2 w5).mono ?_
      rintro _ w6 ⟨rfl,hk6⟩
      have HK6:=hide ((uh HK5).trans (hk6.mono (uh HK5).size))
      have hS6:w6.cell? ⟨lb,k*2+1,none⟩=some (.string vv):=(hk6.cell (p:=⟨lb,k*2+1,none⟩) (World.block_lt_of_cell? _ _ hS5)).trans hS5
      clear hk6
      show K _ w6
      refine hK.out _ _ (hS6) (fun hHeld7=>?_)
      clear hK K
      try simp only [zz0,zz1,zz2]
      refine tkG 8 (some 51) (.binOp .add 9 (.tmp 43) (.tmp 50) 9) 9 none (.string X2) (by kernel_rfl) (fun _ _ _ h=>h) (Or.inl ⟨by kernel_rfl,fun W hW=>by simp [execOp,go_sem,n1,e12]⟩) hHeld7 ?_
      simp only [zz0,zz1,zz2]
      refine tkG 14 (some 57) (.binOp .add 9 (.tmp 51) (.tmp 56) 9) 9 none (.string X3) (by kernel_rfl) (fun _ _ _ h=>h) (Or.inl ⟨by kernel_rfl,fun W hW=>by simp [execOp,go_sem,n2,e23]⟩) hHeld7 ?_
      simp only [zz0,zz1,zz2]
      refine tkP 15 (some 4) (.string X3) (by kernel_rfl) (fun _ _ _ h=>h) (fun _ _=>by kernel_rfl) hHeld7 ?_
      simp only [zz0,zz1,zz2]
      refine wpAnyH_done (by kernel_rfl) ?_ _
      go_wp2_with fail
      go_ret
      exact ⟨by rw [uh HF];rfl,uh HK6⟩
     ·rw [decide_eq_false hy]
      go_wp2_with fail
      go_roundw
      case rel =>
       refine ⟨k,by omega,rfl,fun j h1 h2=>?_,(uh HKR).trans ((uh HKC).mono (uh HKR).size)⟩
       rcases Nat.lt_or_ge k j with h3 | h3
       ·exact uh HBK j (by omega) h2
       ·rw [show j=k by omega,uh HGD];exact hy
      case measure=>first | (simp [intOf];done) | (simp [intOf];omega)
 ·have HN:=hide (show getA (PSc secs) r.path r.n=bs [4] by
   rcases uh HIX with ⟨j,e,_,_⟩ | ⟨_,h2⟩
   ·omega
   ·unfold getA;rw [(ix_none h2).1])
  have HON:=hide (one_ref 4 w1 (by decide))
  go_wp2_with fail
  refine (uh HON).mono ?_
  rintro _ w5 ⟨rfl,hk5⟩
  have HK5:=hide ((uh HK1).trans (hk5.mono (by omega)))
  clear hk5
  go_wp2_with fail
  go_ret
  exact ⟨by rw [uh HN];rfl,uh HK5⟩
end Go.Proofs.YtlbacbcenejngaaGreatDoor
namespace Go.Proofs.YtlbacbcenejngaaGreatDoor
open Go.RowKit
theorem wide_set {α:Type} {f:α→List Value} {n:Nat} (hf:∀ a,(f a).length=n):∀ (l:List α) (i j:Nat) (a a':α) (u:Value),l[i]?=some a→j<n→(f a).set j u=f a'→(l.flatMap f).set (i*n+j) u=(l.set i a').flatMap f
 | [],i,j,a,a',u,h,_,_=>by simp at h
 | x::l,0,j,a,a',u,h,hj,he=>by
  simp at h;subst h
  rw [List.flatMap_cons,Nat.zero_mul,Nat.zero_add,List.set_append_left _ _ (by rw [hf];exact hj),he,List.set_cons_zero,List.flatMap_cons]
 | x::l,i+1,j,a,a',u,h,hj,he=>by
  simp at h
  rw [List.flatMap_cons,List.set_append_right _ _ (by rw [hf,Nat.add_mul];omega),hf,show (i+1)*n+j-n=i*n+j by rw [Nat.add_mul];omega,wide_set hf l i j a a' u h hj he,List.set_cons_succ,List.flatMap_cons]
def Rwr (rp:Nat) (g:RG) (k:Nat):Prop:=k=rp∨g.sv.ownBlock=some k∨g.tv.ownBlock=some k
def rEnd (B:Nat) (w:World) (rp:Nat) (g:RG) (key root:ByteArray) (secs:List Sc) (E:List ByteArray) (H:List Nat) (a:ByteArray) (paths':List (ByteArray × Pth)) (toks':List (ByteArray × Tok)) (e:Ending) (w':World):Prop :=
 e=.returned (.string a)∧∃ g' secs',RVAt B w' rp g' key root secs' toks' E H∧PSc secs'=paths'∧g'.lv=g.lv∧g'.hv=g.hv∧Chg (Rwr rp g) w w'∧∀ k,Rft rp g' secs' k→Rft rp g secs k∨w.heap.size≤k
section
variable {B:Nat} {w w':World} {rp:Nat} {g:RG} {key root:ByteArray} {secs secs':List Sc} {toks:List (ByteArray × Tok)} {E:List ByteArray} {H:List Nat}
theorem own_neq {e e' z z' n n' b:Nat} {v v':Value} {xs xs':List Value} (h:w.ownsRow B e z v n xs) (h':w.ownsRow B e' z' v' n' xs') (hne:e≠e') (hb:v.ownBlock=some b):v'.ownBlock≠some b:=by
 intro h2
 obtain ⟨c1,h3⟩:=own_ty h hb
 obtain ⟨c2,h4⟩:=own_ty h' h2
 rw [h3] at h4
 injection h4 with h5
 injection h5 with _ h6 _
 exact hne h6
theorem RVAt.ne (h:RVAt B w rp g key root secs toks E H) {e z n b:Nat} {v:Value} {xs:List Value} (h':w.ownsRow B e z v n xs) (hne:e≠153) (hb:v.ownBlock=some b):rp≠b:=by
 rintro rfl
 obtain ⟨c1,h3⟩:=own_ty h' hb
 rw [h.at'] at h3
 injection h3 with h5
 injection h5 with _ h6 _
 exact hne h6.symm
theorem RVAt.newSec (h:RVAt B w rp g key root secs toks E H) {sb:Nat} (hsb:g.sv.ownBlock=some sb) (hother:∀ k,k≠sb→w'.heap[k]?=w.heap[k]?) (hrow:w'.ownsRow B 248 3 g.sv secs'.length (sccells secs')) (hver:∀ c∈secs',w.ownsRow B 250 2 c.L c.pth.vers.length (vrcells c.pth.vers)):RVAt B w' rp g key root secs' toks E H:=by
 refine ⟨(hother _ (h.ne h.sec (by decide) hsb)).trans h.at',hrow,fun c hc=>own_blocks (hver c hc) fun k hk=>hother k fun e=>?_,own_blocks h.tok fun k hk=>hother k fun e=>?_,own_blocks h.log fun k hk=>hother k fun e=>?_,own_blocks h.hav fun k hk=>hother k fun e=>?_,h.ge⟩
 ·subst e;exact own_neq h.sec (hver c hc) (by decide) hsb hk
 ·subst e;exact own_neq h.sec h.tok (by decide) hsb hk
 ·subst e;exact own_neq h.sec h.log (by decide) hsb hk
 ·subst e;exact own_neq h.sec h.hav (by decide) hsb hk
end
def dropA (l:List (ByteArray × Pth)) (path:ByteArray):ByteArray × List (ByteArray × Pth):=match lk path l with
 | none=>(bs [4],l)
 | some p=>if p.vers.length=0 then (bs [4],l) else (bs [0],putM path { p with vers:=[] } l)
set_option maxRecDepth 100000 in
set_option maxHeartbeats 4000000 in
theorem drop_ref (B:Nat) (w:World) (rp:Nat) (g:RG) (key root:ByteArray) (secs:List Sc) (toks:List (ByteArray × Tok)) (E:List ByteArray) (H:List Nat) (r:Pq) (h:RVAt B w rp g key root secs toks E H) (hl:secs.length≤1000) (ho:∀ c∈secs,ScOk c) :
  Calls Tryz.prog 153 #[.pointer (some ⟨rp,0,none⟩),.agg r.cells] w (rEnd B w rp g key root secs E H (dropA (PSc secs) r.path).1 (dropA (PSc secs) r.path).2 toks):=by
 obtain ⟨w1,hw1⟩:∃ w1,w1=w.alloc (.cells r.cells 223):=⟨_,rfl⟩
 have hbx:w1.heap[w.heap.size]?=some (.cells r.cells 223 (0,0)):=by rw [hw1];exact heap_alloc_new _ _
 have HK1:=hide (show Kept w.heap.size w w1 by rw [hw1];exact (Kept.refl _ _).alloc (Nat.le_refl _) _)
 have hz1:w.heap.size<w1.heap.size:=(Array.getElem?_eq_some_iff.1 hbx).1
 have H0:=hide h
 have H1:=hide (h.keep (uh HK1))
 have hc2:w1.cell? ⟨w.heap.size,2,none⟩=some (.string r.path):=by rw [cell_of_row _ _ _ _ _ _ hbx];rfl
 have hrp:w1.cell? ⟨rp,2,none⟩=some g.sv:=((uh H1).c 2).trans rfl
 have HO:=hide ho
 have HSAME:=hide (show ∀ W a,Kept w.heap.size w W→dropA (PSc secs) r.path=(a,PSc secs)→rEnd B w rp g key root secs E H (dropA (PSc secs) r.path).1 (dropA (PSc secs) r.path).2 toks (.returned (.string a)) W from fun W a hk he=>by
  rw [he]
  exact ⟨rfl,g,secs,h.keep hk,rfl,rfl,rfl,hk.chg.mono fun _ _ e=>e.elim,fun k hk=>.inl hk⟩)
 clear h hbx ho
 go_enter Tryz.func153,Tryz.ntmps153
 go_upto_region 1 with fail
 rw [← hw1]
 clear hw1
 go_wp2_with fail
 refine (secret_ref B w1 rp g key root secs toks E H r.path (uh H1) hl).mono ?_
 rintro _ wq ⟨⟨x,rfl,hx⟩,hwq⟩
 obtain rfl:w1=wq:=hwq.symm
 clear hwq
 have HIX:=hide (show Ix ((PSc secs).map (·.1)) r.path x by rw [psc_names];exact hx)
 rcases hx with ⟨i,rfl,hi,_⟩ | ⟨rfl,_⟩
 ·obtain ⟨c,hci⟩:∃ c,secs[i]?=some c:=by
   rw [List.getElem?_map] at hi
   obtain ⟨c,hc,_⟩:=Option.map_eq_some_iff.1 hi
   exact ⟨c,hc⟩
  have hcm:=List.mem_of_getElem? hci
  have HOC:=hide (uh HO c hcm)
  have hil:=(List.getElem?_eq_some_iff.1 hci).1
  have HLK:=hide (show lk r.path (PSc secs)=some c.pth∧∀ v,putM r.path v (PSc secs)=(PSc secs).set i (r.path,v) by
   rcases uh HIX with ⟨j,e,h1,h2⟩ | ⟨e,_⟩
   ·obtain rfl:i=j:=by omega
    obtain ⟨a,b1,b2,b3,_⟩:=ix_found _ _ h1 h2
    rw [List.getElem?_map,hci] at b1
    have:=Option.some.inj b1
    exact ⟨by rw [b2,← (Prod.mk.inj this).2],b3⟩
   ·omega)
  have HNM:=hide (show c.name=r.path by
   rw [List.getElem?_map,hci] at hi
   exact Option.some.inj hi)
  obtain ⟨sb,scap,hsv,hsb,hcs⟩:=own_wide (f:=Sc.cell) (z:=3) (fun _=>rfl) (uh H1).sec hci
  have hcL:w1.cell? ⟨sb,i*3+2,none⟩=some c.L:=hcs 2 (by decide)
  obtain ⟨lo,lcap,hLv,_,_⟩:=own_len ((uh H1).ver c hcm)
  have HSV:=hide hsv
  have HCI:=hide hci
  rw [hsv] at hrp
  rw [hLv] at hcL
  have hi0:(0:Int)≤(i:Int):=by omega
  have hiI:(i:Int)<(secs.length:Int):=by omega
  have hin:¬ (i:Int)<0:=by omega
  have hinB:decide ((i:Int)<0)=false:=decide_eq_false hin
  have hfz:w1.frozen? ⟨sb,i*3+2,none⟩=false:=by
   have:=(uh H1).sec
   rw [hsv] at this
   exact this.frozenAt _
  clear hi hci HIX hcs hsv
  by_cases hv0:c.pth.vers.length=0
  ·have hvI:((c.pth.vers.length:Int)==0)=true:=by rw [beq_iff_eq];omega
   have HA:=hide (show dropA (PSc secs) r.path=(bs [4],PSc secs) by unfold dropA;rw [(uh HLK).1];exact if_pos hv0)
   have HON:=hide (one_ref 4 w1 (by decide))
   go_wp2_with fail
   refine (uh HON).mono ?_
   rintro _ w5 ⟨rfl,hk5⟩
   have HK5:=hide ((uh HK1).trans (hk5.mono (by omega)))
   clear hk5
   go_wp2_with fail
   go_ret
   exact uh HSAME _ _ (uh HK5) (uh HA)
  ·have hvI:((c.pth.vers.length:Int)==0)=false:=beq_eq_false_iff_ne.2 (by omega)
   have HA:=hide (show dropA (PSc secs) r.path=(bs [0],(PSc secs).set i (r.path,{ c.pth with vers:=[] })) by unfold dropA;rw [(uh HLK).1];rw [← (uh HLK).2];exact if_neg hv0)
   have HST:=hide (show RVAt B (w1.setCell ⟨sb,i*3+2,none⟩ (.slice none 0 0)) rp g key root (secs.set i ⟨c.name,{ c.pth with vers:=[] },.slice none 0 0⟩) toks E H by
    have hown:=(uh H1).sec
    have hst:(w1.setCell ⟨sb,i*3+2,none⟩ (.slice none 0 0)).ownsRow B 248 3 g.sv secs.length ((sccells secs).set (i*3+2) (.slice none 0 0)):=by
     have e:=uh HSV
     rw [e] at hown ⊢
     exact (hown.stored (i*3+2) (.slice none 0 0)).1
    rw [wide_set (f:=Sc.cell) (n:=3) (fun _=>rfl) secs i 2 c ⟨c.name,{ c.pth with vers:=[] },.slice none 0 0⟩ (.slice none 0 0) (uh HCI) (by decide) rfl] at hst
    refine (uh H1).newSec (sb:=sb) (by rw [uh HSV];rfl) (fun k hk=>heap_setCell_other _ _ _ _ hk) (by rw [List.length_set];exact hst) fun c' hc'=>?_
    rcases List.mem_or_eq_of_mem_set hc' with hm | rfl
    ·exact (uh H1).ver c' hm
    ·exact World.ownsRow_nil _ _ _ _)
   have HCH:=hide (show Chg (Rwr rp g) w (w1.setCell ⟨sb,i*3+2,none⟩ (.slice none 0 0)) from ⟨(uh HK1).os,(uh HK1).output,by rw [World.size_setCell];exact (uh HK1).size,fun k hk hn=>(heap_setCell_other _ _ _ _ fun e=>hn (.inr (.inl (by rw [uh HSV];exact congrArg some e.symm)))).trans ((uh HK1).block k hk)⟩)
   have HON:=hide (one_ref 0 (w1.setCell ⟨sb,i*3+2,none⟩ (.slice none 0 0)) (by decide))
   have hsz2:w1.heap.size≤(w1.setCell ⟨sb,i*3+2,none⟩ (.slice none 0 0)).heap.size:=by rw [World.size_setCell];exact Nat.le_refl _
   go_upto_region 5 with fail
   generalize w1.setCell ⟨sb,i*3+2,none⟩ (.slice none 0 0)=w4 at HST HCH HON hsz2 ⊢
   go_wp2_with fail
   refine (uh HON).mono ?_
   rintro _ w5 ⟨rfl,hk5⟩
   have HS5:=hide ((uh HST).keep hk5)
   have HC5:=hide ((uh HCH).trans (hk5.chg.mono fun _ _ e=>e.elim))
   clear hk5
   go_wp2_with fail
   go_ret
   rw [uh HA]
   refine ⟨rfl,g,_,uh HS5,?_,rfl,rfl,uh HC5,fun k hk=>?_⟩
   ·show (secs.set i _).map _=(PSc secs).set i _
    rw [List.map_set,uh HNM]
   ·rcases hk with hk | hk | hk | hk | hk | ⟨c',hc',hk⟩
    ·exact .inl (.inl hk)
    ·exact .inl (.inr (.inl hk))
    ·exact .inl (.inr (.inr (.inl hk)))
    ·exact .inl (.inr (.inr (.inr (.inl hk))))
    ·exact .inl (.inr (.inr (.inr (.inr (.inl hk)))))
    ·rcases List.mem_or_eq_of_mem_set hc' with hm | rfl
     ·exact .inl (.inr (.inr (.inr (.inr (.inr ⟨c',hm,hk⟩)))))
     ·cases hk
 ·have HA:=hide (show dropA (PSc secs) r.path=(bs [4],PSc secs) by
   rcases uh HIX with ⟨j,e,_,_⟩ | ⟨_,h2⟩
   ·omega
   ·unfold dropA;rw [(ix_none h2).1])
  have HON:=hide (one_ref 4 w1 (by decide))
  go_wp2_with fail
  refine (uh HON).mono ?_
  rintro _ w5 ⟨rfl,hk5⟩
  have HK5:=hide ((uh HK1).trans (hk5.mono (by omega)))
  clear hk5
  go_wp2_with fail
  go_ret
  exact uh HSAME _ _ (uh HK5) (uh HA)
end Go.Proofs.YtlbacbcenejngaaGreatDoor
namespace Go.Proofs.YtlbacbcenejngaaGreatDoor
open Go.RowKit
def SrcAt {α:Type} (f:α→List Value) (w:World) (v:Value) (m:List α):Prop :=
 (m=[]∧v=.slice none 0 0)∨∃ a c,v=.slice (some a) m.length c∧∀ j u,(m.flatMap f)[j]?=some u→w.cell? (a.add j)=some u
theorem src_own {α:Type} {f:α→List Value} {w:World} {B e z:Nat} {v:Value} {m:List α} (h:w.ownsRow B e z v m.length (m.flatMap f)):SrcAt f w v m:=by
 obtain ⟨ao,cap,rfl,_,hg⟩:=own_len h
 rcases h.2 with ⟨h1,h2⟩ | ⟨g,c,cur,h1,_⟩
 ·exact .inl ⟨List.eq_nil_of_length_eq_zero h2,h1⟩
 ·injection h1 with h1 _ h3
  subst h1 h3
  exact .inr ⟨_,_,rfl,h.cells rfl⟩
theorem src_new {α:Type} {f:α→List Value} (w:World) (a:α) (e:TypeId):SrcAt f (w.alloc (.cells (f a).toArray e)) (.slice (some ⟨w.heap.size,0,none⟩) 1 1) [a]:=by
 refine .inr ⟨_,1,rfl,fun j u hu=>?_⟩
 rw [add_addr,Nat.zero_add,cell_of_row _ _ _ _ _ _ (heap_alloc_new _ _),List.getElem?_toArray]
 simpa using hu
structure Wide {α:Type} (f:α→List Value) (t e z bytes:Nat):Prop where
 und:Tryz.prog.underlying t=some (.slice e)
 info:∃ i v,Tryz.prog.info? e=some i∧i.zero=some v∧i.size=z∧i.bytes=bytes∧v.cells.size=z
 len:∀ a,(f a).length=z
 pos:0<z
 small:bytes≤1000
theorem flat_one {α:Type} {f:α→List Value} (h:∀ a,∀ u∈f a,u.oneCell'=true) (l:List α):∀ u∈l.flatMap f,u.oneCell'=true:=fun u hu=>by
 obtain ⟨a,_,hb⟩:=List.mem_flatMap.1 hu
 exact h a u hb
theorem run_append_all {α:Type} {f:α→List Value} {t e z bytes:Nat} (k:Wide f t e z bytes) (w:World) (B:Nat) (ty:TypeId) (v:Value) (l m:List α) (hown:w.ownsRow B e z v l.length (l.flatMap f)) (a:Addr) (c:Nat) (hsrc:∀ j u,(m.flatMap f)[j]?=some u→w.cell? (a.add j)=some u) (hone:∀ u∈m.flatMap f,u.oneCell'=true) (hl:l.length+m.length≤100000000) (hB:B≤w.heap.size) :
  ∃ v' w',(Builtin.append_ #[t,t] ty #[v,.slice (some a) m.length c]).run Tryz.prog w=.ok v' w'∧w'.ownsRow B e z v' (l++m).length ((l++m).flatMap f)∧w.grownBy w' v.ownBlock∧(v'.ownBlock=v.ownBlock∨v'.ownBlock=some w.heap.size):=by
 obtain ⟨i,zv,hi,h0,h1,h2,h3⟩:=k.info
 obtain ⟨v',w',a1,a2,a3,a4⟩:=run_append_fresh2 (P:=Tryz.prog) w B t ty e i zv z bytes k.und hi h0 h1 h2 h3 k.pos v l.length (l.flatMap f) hown a m.length c (m.flatMap f) (flat_len k.len m) hsrc hone (by unfold maxLen;omega) (by have h5:=Nat.mul_le_mul hl k.small;omega) hB
 exact ⟨v',w',a1,by rw [List.length_append,List.flatMap_append];exact a2,a3,a4⟩
theorem wp_append_all {α:Type} {f:α→List Value} {t e z bytes:Nat} (k:Wide f t e z bytes) {w:World} {o:Oper} {act:Act} {K:Act→World→Prop} {Q:Exit→Act→World→Prop} (s x:Operand)
  (ho:o.op=.call { callee:=.builtin .append,args:=#[s,x],argTypes:=#[t,t] }) (B:Nat) (v:Value) (l m:List α) (hs:act.eval s=v) (hown:w.ownsRow B e z v l.length (l.flatMap f)) (a:Addr) (c:Nat) (hx:act.eval x=.slice (some a) m.length c)
  (hsrc:∀ j u,(m.flatMap f)[j]?=some u→w.cell? (a.add j)=some u) (hone:∀ u∈m.flatMap f,u.oneCell'=true) (hl:l.length+m.length≤100000000) (hB:B≤w.heap.size)
  (h:∀ v' w',w'.ownsRow B e z v' (l++m).length ((l++m).flatMap f)→w.grownBy w' v.ownBlock→(v'.ownBlock=v.ownBlock∨v'.ownBlock=some w.heap.size)→K (act.put o.dst v') w'):o.wp Tryz.prog act w K Q:=by
 obtain ⟨v',w',hr,h4,h5,h6⟩:=run_append_all k w B o.type v l m hown a c hsrc hone hl hB
 unfold Oper.wp
 simp [execOp,ho,resolve,invoke,builtin,hs,hx,hr,Result.andThen]
 exact h v' w' h4 h5 h6
theorem wpList_append_all {α:Type} {f:α→List Value} {t e z bytes:Nat} (k:Wide f t e z bytes) {w:World} {ops:Array Oper} {rest:List Oper} {o:Oper} {act:Act} {Q:Exit→Act→World→Prop} (hgd:o.guard=none) (s x:Operand)
  (ho:o.op=.call { callee:=.builtin .append,args:=#[s,x],argTypes:=#[t,t] }) (B:Nat) (v:Value) (l m:List α) (hs:act.eval s=v) (hown:w.ownsRow B e z v l.length (l.flatMap f)) (vx:Value) (hx:act.eval x=vx) (hsrc:SrcAt f w vx m)
  (hone:∀ u∈m.flatMap f,u.oneCell'=true) (hl:l.length+m.length≤100000000) (hB:B≤w.heap.size)
  (h:∀ v' w',w'.ownsRow B e z v' (l++m).length ((l++m).flatMap f)→w.grownBy w' v.ownBlock→(v'.ownBlock=v.ownBlock∨v'.ownBlock=some w.heap.size)→wpList Tryz.prog ops Q rest (act.put o.dst v') w'):wpList Tryz.prog ops Q (o::rest) act w:=by
 rcases hsrc with ⟨rfl,rfl⟩ | ⟨a,c,rfl,hsrc⟩
 ·obtain ⟨i,zv,hi,h0,h1,h2,h3⟩:=k.info
  exact wpList_append_own_none hgd s x t ho B e i z k.und hi v l.length (l.flatMap f) hs hown hx (h v w (by rw [List.append_nil];exact hown) ⟨rfl,rfl,rfl,Nat.le_refl _,fun _ _ _=>rfl⟩ (.inl rfl))
 ·exact wpList_plain hgd fun K hK=>wp_append_all k s x ho B v l m hs hown a c hx hsrc hone hl hB fun v' w' a1 a2 a3=>hK _ _ (h v' w' a1 a2 a3)
theorem info_of {e z bytes:Nat} {v:Value} (h:(Tryz.prog.info? e).map (fun i=>(i.zero,i.size,i.bytes))=some (some v,z,bytes)) (hv:v.cells.size=z):∃ i v,Tryz.prog.info? e=some i∧i.zero=some v∧i.size=z∧i.bytes=bytes∧v.cells.size=z:=by
 obtain ⟨i,h1,h2,h3,h4⟩:=info_parts h
 exact ⟨i,v,h1,h2,h3,h4,hv⟩
theorem wideTok:Wide tkcell 151 155 3 40:=⟨Tryz.underlying151,info_of (v:=.agg #[.string .empty,.string .empty,.int .i64 0]) (by kernel_rfl) rfl,fun _=>rfl,by decide,by decide⟩
theorem oneTok (l:List (ByteArray × Tok)):∀ u∈l.flatMap tkcell,u.oneCell'=true:=flat_one (fun a u hu=>by
 simp only [tkcell,List.mem_cons,List.not_mem_nil,or_false] at hu
 rcases hu with rfl | rfl | rfl <;> rfl) l
theorem wideVer:Wide vrcell 246 250 2 24:=⟨Tryz.underlying246,info_of (v:=.agg #[.int .i64 0,.string .empty]) (by kernel_rfl) rfl,fun _=>rfl,by decide,by decide⟩
theorem oneVer (l:List (Nat × ByteArray)):∀ u∈l.flatMap vrcell,u.oneCell'=true:=flat_one (fun a u hu=>by
 simp only [vrcell,List.mem_cons,List.not_mem_nil,or_false] at hu
 rcases hu with rfl | rfl <;> rfl) l
theorem wideSec:Wide Sc.cell 150 248 3 48:=⟨Tryz.underlying150,info_of (v:=.agg #[.string .empty,.int .i64 0,.slice none 0 0]) (by kernel_rfl) rfl,fun _=>rfl,by decide,by decide⟩
theorem oneSec {l:List Sc} (h:∀ c∈l,∃ a n k,c.L=.slice a n k):∀ u∈l.flatMap Sc.cell,u.oneCell'=true:=fun u hu=>by
 obtain ⟨c,hc,hb⟩:=List.mem_flatMap.1 hu
 obtain ⟨a,n,k,e⟩:=h c hc
 simp only [Sc.cell,List.mem_cons,List.not_mem_nil,or_false] at hb
 rcases hb with rfl | rfl | rfl
 ·rfl
 ·rfl
 ·rw [e];rfl
def strcell (s:ByteArray):List Value:=[.string s]
def intcell (n:Nat):List Value:=[.int .i64 (n:Int)]
theorem wideStr:Wide strcell 82 9 1 16:=⟨Tryz.underlying82,info_of (v:=.string .empty) (by kernel_rfl) rfl,fun _=>rfl,by decide,by decide⟩
theorem oneStr (l:List ByteArray):∀ u∈l.flatMap strcell,u.oneCell'=true:=flat_one (fun a u hu=>by
 simp only [strcell,List.mem_cons,List.not_mem_nil,or_false] at hu
 rcases hu with rfl;rfl) l
theorem wideInt:Wide intcell 38 3 1 8:=⟨Tryz.underlying38,info_of (v:=.int .i64 0) (by kernel_rfl) rfl,fun _=>rfl,by decide,by decide⟩
theorem oneInt (l:List Nat):∀ u∈l.flatMap intcell,u.oneCell'=true:=flat_one (fun a u hu=>by
 simp only [intcell,List.mem_cons,List.not_mem_nil,or_false] at hu
 rcases hu with rfl;rfl) l
theorem strcells (E:List ByteArray):E.flatMap strcell=E.map .string:=by
 induction E with
 | nil=>rfl
 | cons a l ih=>rw [List.flatMap_cons,ih];rfl
theorem intcells (H:List Nat):H.flatMap intcell=H.map fun n:Nat=>Value.int .i64 (n:Int):=by
 induction H with
 | nil=>rfl
 | cons a l ih=>rw [List.flatMap_cons,ih];rfl
end Go.Proofs.YtlbacbcenejngaaGreatDoor
namespace Go.Proofs.YtlbacbcenejngaaGreatDoor
open Go.RowKit
section
variable {B:Nat} {w w2:World} {rp:Nat} {g:RG} {key root:ByteArray} {secs secs':List Sc} {toks toks':List (ByteArray × Tok)} {E:List ByteArray} {H:List Nat}
theorem RVAt.putTok (h:RVAt B w rp g key root secs toks E H) {v':Value} (hc:Chg (fun k=>g.tv.ownBlock=some k) w w2) (ho:w2.ownsRow B 155 3 v' toks'.length (tkcells toks')) (hb:∀ k,v'.ownBlock=some k→g.tv.ownBlock=some k∨w.heap.size≤k) :
  RVAt B (w2.setCell ⟨rp,3,none⟩ v') rp { g with tv:=v' } key root secs toks' E H∧Chg (Rwr rp g) w (w2.setCell ⟨rp,3,none⟩ v')∧∀ k,Rft rp { g with tv:=v' } secs k→Rft rp g secs k∨w.heap.size≤k:=by
 have hrpl:=(h.foot (.inl rfl)).1
 have hrp2:w2.heap[rp]?=some (.cells #[.string key,.string root,g.sv,g.tv,g.lv,g.hv] 153 (0,0)):=(hc.block rp hrpl (fun e=>h.ne h.tok (by decide) e rfl)).trans h.at'
 have hrow:(w2.setCell ⟨rp,3,none⟩ v').heap[rp]?=some (.cells #[.string key,.string root,g.sv,v',g.lv,g.hv] 153 (0,0)):=by rw [heap_setCell_same _ _ _ _ _ _ hrp2];rfl
 have oth:∀ k,k≠rp→(w2.setCell ⟨rp,3,none⟩ v').heap[k]?=w2.heap[k]?:=fun k hk=>heap_setCell_other _ _ _ _ hk
 refine ⟨⟨hrow,?_,?_,?_,?_,?_,h.ge⟩,⟨hc.os,hc.output,by rw [World.size_setCell];exact hc.size,fun k hk hn=>(oth k fun e=>hn (.inl e)).trans (hc.block k hk fun e=>hn (.inr (.inr e)))⟩,fun k hk=>?_⟩
 ·exact own_blocks h.sec fun k hk=>(oth k fun e=>h.ne h.sec (by decide) hk e.symm).trans (hc.block k (h.sec.lt k hk).2 fun e=>own_neq h.sec h.tok (by decide) hk e)
 ·exact fun c hm=>own_blocks (h.ver c hm) fun k hk=>(oth k fun e=>h.ne (h.ver c hm) (by decide) hk e.symm).trans (hc.block k ((h.ver c hm).lt k hk).2 fun e=>own_neq (h.ver c hm) h.tok (by decide) hk e)
 ·exact own_blocks ho fun k hk=>oth k fun e=>by
   subst e
   obtain ⟨c1,h3⟩:=own_ty ho hk
   rw [hrp2] at h3
   injection h3 with h5
   injection h5 with _ h6 _
   exact absurd h6 (by decide)
 ·exact own_blocks h.log fun k hk=>(oth k fun e=>h.ne h.log (by decide) hk e.symm).trans (hc.block k (h.log.lt k hk).2 fun e=>own_neq h.log h.tok (by decide) hk e)
 ·exact own_blocks h.hav fun k hk=>(oth k fun e=>h.ne h.hav (by decide) hk e.symm).trans (hc.block k (h.hav.lt k hk).2 fun e=>own_neq h.hav h.tok (by decide) hk e)
 ·rcases hk with hk | hk | hk | hk | hk | hk
  ·exact .inl (.inl hk)
  ·exact .inl (.inr (.inl hk))
  ·exact (hb k hk).imp (fun e=>.inr (.inr (.inl e))) id
  ·exact .inl (.inr (.inr (.inr (.inl hk))))
  ·exact .inl (.inr (.inr (.inr (.inr (.inl hk)))))
  ·exact .inl (.inr (.inr (.inr (.inr (.inr hk)))))
end
def adminA (op:UInt8) (l:List (ByteArray × Tok)) (root name pre:ByteArray) (rights:UInt8):ByteArray × List (ByteArray × Tok) :=
 if op=84 then (match lk name l with | some _=>(bs [7],l) | none=>if 8≤l.length then (bs [5],l) else (bs [0],putM name ⟨pre,rights⟩ l))
 else match lk name l with | none=>(bs [4],l) | some _=>if name=root then (bs [3],l) else (bs [0],delM name l)
theorem wp_store_151 {w:World} {o:Oper} {a:Act} {K:Act→World→Prop} {Q:Exit→Act→World→Prop} (x y:Operand) (ho:o.op=.store 151 x y) (p:Addr) (hx:a.eval x=.pointer (some p)) {sa:Option Addr} {sn sc:Nat} (hy:a.eval y=.slice sa sn sc) (u:Value) (hc:w.cell? p=some u) (hf:w.frozen? p=false) (h:K (a.put o.dst undef) (w.setCell p (.slice sa sn sc))):o.wp Tryz.prog a w K Q:=by
 have hu:=Tryz.underlying151
 unfold Oper.wp execOp
 simp only [ho,hx,hy]
 go_simp
 exact h
set_option maxRecDepth 100000 in
set_option maxHeartbeats 4000000 in
theorem admin_ref (B:Nat) (w:World) (rp:Nat) (g:RG) (key root:ByteArray) (secs:List Sc) (toks:List (ByteArray × Tok)) (E:List ByteArray) (H:List Nat) (r:Pq) (rt:UInt8) (h:RVAt B w rp g key root secs toks E H) (hl:toks.length≤1000) (hB:B≤w.heap.size) (hrt:r.op=84→r.n=rt.toNat) :
  Calls Tryz.prog 155 #[.pointer (some ⟨rp,0,none⟩),.agg r.cells] w (rEnd B w rp g key root secs E H (adminA r.op toks root r.path r.value rt).1 (PSc secs) (adminA r.op toks root r.path r.value rt).2):=by
 obtain ⟨w1,hw1⟩:∃ w1,w1=w.alloc (.cells r.cells 223):=⟨_,rfl⟩
 have hbx:w1.heap[w.heap.size]?=some (.cells r.cells 223 (0,0)):=by rw [hw1];exact heap_alloc_new _ _
 have HK1:=hide (show Kept w.heap.size w w1 by rw [hw1];exact (Kept.refl _ _).alloc (Nat.le_refl _) _)
 have hz1:w.heap.size<w1.heap.size:=(Array.getElem?_eq_some_iff.1 hbx).1
 have H1:=hide (h.keep (uh HK1))
 have hc2:w1.cell? ⟨w.heap.size,2,none⟩=some (.string r.path):=by rw [cell_of_row _ _ _ _ _ _ hbx];rfl
 have hc0:w1.cell? ⟨w.heap.size,0,none⟩=some (.int .u8 (r.op.toNat:Int)):=by rw [cell_of_row _ _ _ _ _ _ hbx];rfl
 have hrp:w1.cell? ⟨rp,3,none⟩=some g.tv:=((uh H1).c 3).trans rfl
 have hrr:w1.cell? ⟨rp,1,none⟩=some (.string root):=((uh H1).c 1).trans rfl
 obtain ⟨ta,tc,htv,htc,htg⟩:=own_len h.tok
 have HTV:=hide htv
 rw [htv] at hrp
 have HSAME:=hide (show ∀ W a,Kept w.heap.size w W→adminA r.op toks root r.path r.value rt=(a,toks)→rEnd B w rp g key root secs E H (adminA r.op toks root r.path r.value rt).1 (PSc secs) (adminA r.op toks root r.path r.value rt).2 (.returned (.string a)) W from fun W a hk he=>by
  rw [he]
  exact ⟨rfl,g,secs,h.keep hk,rfl,rfl,rfl,hk.chg.mono fun _ _ e=>e.elim,fun k hk=>.inl hk⟩)
 have HBX:=hide hbx
 have H0:=hide h
 clear h hbx htv
 go_enter Tryz.func155,Tryz.ntmps155
 go_upto_region 1 with fail
 rw [← hw1]
 clear hw1
 go_wp2_with fail
 refine (token_ref B w1 rp g key root secs toks E H r.path (uh H1) hl).mono ?_
 rintro _ wq ⟨⟨x,rfl,hx⟩,hwq⟩
 obtain rfl:w1=wq:=hwq.symm
 clear hwq
 have HIX:=hide hx
 have hlI:(toks.length:Int)≤1000:=by omega
 by_cases hop:r.op=84
 ·have HOP:=hide hop
  have hc0':w1.cell? ⟨w.heap.size,0,none⟩=some (.int .u8 84):=by rw [hc0,hop];rfl
  clear hc0
  rcases hx with ⟨i,rfl,hi,hb⟩ | ⟨rfl,hno⟩
  ·have HA:=hide (show adminA r.op toks root r.path r.value rt=(bs [7],toks) by
    obtain ⟨a,_,b2,_⟩:=ix_found _ _ hi hb
    unfold adminA;rw [if_pos hop,b2])
   have hi0:(0:Int)≤(i:Int):=by omega
   have HON:=hide (one_ref 7 w1 (by decide))
   clear hi hb hop
   go_wp2_with fail
   refine (uh HON).mono ?_
   rintro _ w5 ⟨rfl,hk5⟩
   have HK5:=hide ((uh HK1).trans (hk5.mono (by omega)))
   clear hk5
   go_wp2_with fail
   go_ret
   exact uh HSAME _ _ (uh HK5) (uh HA)
  ·have hlk:=ix_none hno
   have hneg:¬ (0:Int)≤-1:=by decide
   by_cases h8:8≤toks.length
   ·have HA:=hide (show adminA r.op toks root r.path r.value rt=(bs [5],toks) by unfold adminA;rw [if_pos hop,hlk.1];exact if_pos h8)
    have h8I:(8:Int)≤(toks.length:Int):=by omega
    have HON:=hide (one_ref 5 w1 (by decide))
    clear hlk hno hop
    go_wp2_with fail
    refine (uh HON).mono ?_
    rintro _ w5 ⟨rfl,hk5⟩
    have HK5:=hide ((uh HK1).trans (hk5.mono (by omega)))
    clear hk5
    go_wp2_with fail
    go_ret
    exact uh HSAME _ _ (uh HK5) (uh HA)
   ·have HA:=hide (show adminA r.op toks root r.path r.value rt=(bs [0],toks++[(r.path,⟨r.value,rt⟩)]) by unfold adminA;rw [if_pos hop,hlk.1];rw [if_neg h8,hlk.2])
    have h8I:¬ (8:Int)≤(toks.length:Int):=by omega
    have hc3:w1.cell? ⟨w.heap.size,3,none⟩=some (.string r.value):=by rw [cell_of_row _ _ _ _ _ _ (uh HBX)];rfl
    have hc4:w1.cell? ⟨w.heap.size,4,none⟩=some (.int .i64 (rt.toNat:Int)):=by rw [cell_of_row _ _ _ _ _ _ (uh HBX),← hrt hop];rfl
    have HSS:=hide (show ∀ W:World,(∀ k,k=rp∨k=w.heap.size→W.heap[k]?=w1.heap[k]?)→W.cell? ⟨rp,3,none⟩=some (.slice ta toks.length tc)∧W.cell? ⟨w.heap.size,2,none⟩=some (.string r.path)∧W.cell? ⟨w.heap.size,3,none⟩=some (.string r.value)∧W.cell? ⟨w.heap.size,4,none⟩=some (.int .i64 (rt.toNat:Int)) from fun W hW=>⟨(World.cell?_of_block (hW _ (.inl rfl))).trans hrp,(World.cell?_of_block (hW _ (.inr rfl))).trans hc2,(World.cell?_of_block (hW _ (.inr rfl))).trans hc3,(World.cell?_of_block (hW _ (.inr rfl))).trans hc4⟩)
    have HTK:=hide (uh H1).tok
    rw [uh HTV] at HTK
    have hrpl:=((uh H0).foot (.inl rfl)).1
    have HRB:=hide (show ∀ W,Chg (fun k=>g.tv.ownBlock=some k) w1 W→∀ k,k=rp∨k=w.heap.size→W.heap[k]?=w1.heap[k]? from fun W hc k hk=>by
     rcases hk with rfl | rfl
     ·exact hc.block _ (by omega) fun e=>(uh H0).ne (uh H0).tok (by decide) e rfl
     ·exact hc.block _ hz1 fun e=>by have:=((uh H0).tok.lt _ e).2;omega)
    clear hlk hno hop
    go_upto_region 7 with fail
    clear hc2 hc3 hc4 hc0' hrr
    have HCA:=hide (show ∀ O,Chg (fun k=>g.tv.ownBlock=some k) w1 (w1.drew.alloc O) from fun O=>⟨rfl,rfl,by simp,fun k hk _=>Below.heap_alloc _ _ _ hk⟩)
    have d1a:=(uh HSS w1.drew (fun k _=>rfl)).1
    have d2:=uh HSS (w1.drew.alloc (.cells (tkcell (r.path,(⟨r.value,rt⟩:Tok))).toArray 155)) (uh HRB _ (uh HCA _))
    have d2a:=d2.1
    have HD2:=hide d2.2
    have d2c:(w1.alloc (.cells (tkcell (r.path,(⟨r.value,rt⟩:Tok))).toArray 155)).drew.cell? ⟨rp,3,none⟩=some (.slice ta toks.length tc):=d2a
    clear d2
    have HSRC:=hide (show ∀ j u,([(r.path,(⟨r.value,rt⟩:Tok))].flatMap tkcell)[j]?=some u→(w1.drew.alloc (.cells (tkcell (r.path,(⟨r.value,rt⟩:Tok))).toArray 155)).cell? ((⟨w1.heap.size,0,none⟩:Addr).add j)=some u from fun j u hu=>by
     rw [add_addr,Nat.zero_add]
     show (w1.drew.alloc (.cells (tkcell (r.path,(⟨r.value,rt⟩:Tok))).toArray 155)).cell? ⟨w1.drew.heap.size,j,none⟩=some u
     rw [cell_of_row _ _ _ _ _ _ (heap_alloc_new w1.drew _),List.getElem?_toArray]
     simpa using hu)
    have HRT:=hide (hrt (uh HOP))
    refine wp_region_held_drew (S:=fun W=>W.cell? ⟨w.heap.size,2,none⟩=some (.string r.path)∧W.cell? ⟨w.heap.size,3,none⟩=some (.string r.value)∧W.cell? ⟨w.heap.size,4,none⟩=some (.int .i64 (rt.toNat:Int))) (by kernel_rfl) ((uh HSS w1.drew (fun k _=>rfl)).2) (fun hHeld=>?_)
    refine tkL 5 [(0,some 24,.pointer (some ⟨rp,0,none⟩)),(1,some 25,.pointer (some ⟨rp,0,none⟩)),(2,some 26,.pointer (some ⟨rp,0,none⟩)),(3,some 27,.pointer (some ⟨rp,3,none⟩)),(5,some 29,.pointer (some ⟨w.heap.size,2,none⟩))] (by kernel_rfl) (fun _ _ _ _ _ h=>h) (fun _ _=>by kernel_rfl) hHeld ?_
    simp only [zz0,zz1,zz2,zz4,zz5]
    refine tkG 6 (some 30) (.load 9 (.tmp 29)) 9 none (.string r.path) (by kernel_rfl) (fun _ _ _ h=>h) (Or.inl ⟨by kernel_rfl,fun W hW=>by simp [execOp,go_sem,hW.1]⟩) hHeld ?_
    simp only [zz0,zz1,zz2]
    refine tkP 7 (some 31) (.pointer (some ⟨w.heap.size,3,none⟩)) (by kernel_rfl) (fun _ _ _ h=>h) (fun _ _=>by kernel_rfl) hHeld ?_
    simp only [zz0,zz1,zz2]
    refine tkG 8 (some 32) (.load 9 (.tmp 31)) 9 none (.string r.value) (by kernel_rfl) (fun _ _ _ h=>h) (Or.inl ⟨by kernel_rfl,fun W hW=>by simp [execOp,go_sem,hW.2.1]⟩) hHeld ?_
    simp only [zz0,zz1,zz2]
    refine tkP 9 (some 33) (.pointer (some ⟨w.heap.size,4,none⟩)) (by kernel_rfl) (fun _ _ _ h=>h) (fun _ _=>by kernel_rfl) hHeld ?_
    simp only [zz0,zz1,zz2]
    refine tkG 10 (some 34) (.load 3 (.tmp 33)) 3 none (.int .i64 (rt.toNat:Int)) (by kernel_rfl) (fun _ _ _ h=>h) (Or.inl ⟨by kernel_rfl,fun W hW=>by simp [execOp,go_sem,hW.2.2]⟩) hHeld ?_
    simp only [zz0,zz1,zz2]
    refine tkG 11 (some 35) (.build 155 #[(0,.tmp 30),(1,.tmp 32),(2,.tmp 34)]) 155 none (.agg (tkcell (r.path,(⟨r.value,rt⟩:Tok))).toArray) (by kernel_rfl) (fun _ _ _ h=>h) (Or.inl ⟨by kernel_rfl,fun W hW=>by go_simp;rfl⟩) hHeld ?_
    simp only [zz0,zz1,zz2]
    refine wpAnyH_ready (rs:=[4,12]) (by kernel_rfl) (by simp) ?_
    refine rdX (some 28) (.load 151 (.tmp 27)) 151 none (by kernel_rfl) (fun K hK=>?_) (rdX (some 36) (.buildSlice 151 1 #[(0,.tmp 35)]) 151 none (by kernel_rfl) (fun K hK=>?_) AllReadyH.nil)
    ·refine ite_wanted ?_ ?_
     ·kernel_rfl
     go_simp
     show K _ w1.drew
     refine hK.out _ _ ((uh HSS w1.drew (fun k _=>rfl)).2) (fun hHeld4=>?_)
     clear hK K
     try simp only [zz0,zz1,zz2]
     refine rd1 12 (some 36) (.buildSlice 151 1 #[(0,.tmp 35)]) 151 (by kernel_rfl) (fun K hK=>?_)
     go_simp
     show K _ (w1.drew.alloc (.cells (tkcell (r.path,(⟨r.value,rt⟩:Tok))).toArray 155))
     refine hK.out _ _ (uh HD2) (fun hHeld12=>?_)
     clear hK K
     try simp only [zz0,zz1,zz2]
     refine rd1 13 (some 37) (.call { callee:=.builtin .append,args:=#[.tmp 28,.tmp 36],argTypes:=#[151,151] }) 151 (by kernel_rfl) (fun K hK=>?_)
     refine wp_append_all wideTok (.tmp 28) (.tmp 36) rfl B (.slice ta toks.length tc) toks [(r.path,⟨r.value,rt⟩)] (by kernel_rfl) ((uh HTK).drew.alloc _) ⟨w1.heap.size,0,none⟩ 1 (by kernel_rfl) (uh HSRC) (oneTok _) (by simp;omega) (by simp;have:=(uh HK1).size;omega) ?_
     intro v' w2 ho2 hg2 hb2
     obtain ⟨va,vc,hv',_,_⟩:=own_len ho2
     have HC2:=hide (show Chg (fun k=>g.tv.ownBlock=some k) w1 w2 from (uh HCA _).trans ⟨hg2.os,hg2.output,hg2.size,fun k hk hn=>hg2.block k hk fun e=>hn (by rw [uh HTV];exact e.symm)⟩)
     have HPT:=hide ((uh H1).putTok (uh HC2) ho2 fun k hk=>by
      rcases hb2 with e | e
      ·exact .inl (by rw [uh HTV,← e];exact hk)
      ·rw [e] at hk
       simp at hk
       exact .inr (by omega))
     subst hv'
     clear ho2 hg2 hb2
     refine hK.out _ _ ((uh HSS _ (uh HRB _ (uh HC2))).2) (fun hHeld13=>?_)
     clear hK K
     try simp only [zz0,zz1,zz2]
     refine tkL 2 [(14,some 38,.pointer (some ⟨rp,0,none⟩)),(15,some 39,.pointer (some ⟨rp,3,none⟩))] (by kernel_rfl) (fun _ _ _ _ _ h=>h) (fun _ _=>by kernel_rfl) hHeld13 ?_
     simp only [zz0,zz1,zz2,zz4,zz5]
     refine rd1 16 none (.store 151 (.tmp 39) (.tmp 37)) 0 (by kernel_rfl) (fun K hK=>?_)
     refine wp_store_151 (sa:=va) (sn:=(toks++[(r.path,(⟨r.value,rt⟩:Tok))]).length) (sc:=vc) (.tmp 39) (.tmp 37) rfl ⟨rp,3,none⟩ (by kernel_rfl) (by kernel_rfl) (.slice ta toks.length tc) (uh HSS _ (uh HRB _ (uh HC2))).1 (frozen_of_row _ _ _ _ _ ((uh HRB _ (uh HC2) rp (.inl rfl)).trans (uh H1).at')) ?_
     have HBXX:=hide (show (w2.setCell ⟨rp,3,none⟩ (.slice va (toks++[(r.path,(⟨r.value,rt⟩:Tok))]).length vc)).heap[w.heap.size]?=some (.cells r.cells 223 (0,0)) from (heap_setCell_other _ _ _ _ (by show w.heap.size≠rp;omega)).trans ((uh HRB _ (uh HC2) _ (.inr rfl)).trans (uh HBX)))
     refine hK.out _ _ (⟨by rw [cell_of_row _ _ _ _ _ _ (uh HBXX)];rfl,by rw [cell_of_row _ _ _ _ _ _ (uh HBXX)];rfl,by rw [cell_of_row _ _ _ _ _ _ (uh HBXX)];exact congrArg (fun n:Nat=>some (Value.int .i64 (n:Int))) (uh HRT)⟩) (fun hHeld16=>?_)
     clear hK K
     try simp only [zz3]
     refine wpAnyH_done (by kernel_rfl) ?_ _
     generalize w2.setCell ⟨rp,3,none⟩ (.slice va (toks++[(r.path,(⟨r.value,rt⟩:Tok))]).length vc)=w3 at HPT ⊢
     have HON:=hide (one_ref 0 w3 (by decide))
     go_wp2_with fail
     refine (uh HON).mono ?_
     rintro _ w5 ⟨rfl,hk5⟩
     have HS5:=hide ((uh HPT).1.keep hk5)
     have HC5:=hide (((uh HK1).chg.mono (S':=Rwr rp g) fun _ _ e=>e.elim).trans ((uh HPT).2.1.trans (hk5.chg.mono fun _ _ e=>e.elim)))
     clear hk5
     go_wp2_with fail
     go_ret
     rw [uh HA]
     exact ⟨rfl,_,secs,uh HS5,rfl,rfl,rfl,uh HC5,fun k hk=>((uh HPT).2.2 k hk).imp id fun e=>by omega⟩
    ·refine ite_wanted ?_ ?_
     ·kernel_rfl
     go_simp
     show K _ (w1.drew.alloc (.cells (tkcell (r.path,(⟨r.value,rt⟩:Tok))).toArray 155))
     refine hK.out _ _ (uh HD2) (fun hHeld12=>?_)
     clear hK K
     try simp only
     refine rd1 4 (some 28) (.load 151 (.tmp 27)) 151 (by kernel_rfl) (fun K hK=>?_)
     go_simp
     show K _ (w1.drew.alloc (.cells (tkcell (r.path,(⟨r.value,rt⟩:Tok))).toArray 155))
     refine hK.out _ _ (uh HD2) (fun hHeld4=>?_)
     clear hK K
     try simp only [zz0,zz1,zz2]
     refine rd1 13 (some 37) (.call { callee:=.builtin .append,args:=#[.tmp 28,.tmp 36],argTypes:=#[151,151] }) 151 (by kernel_rfl) (fun K hK=>?_)
     refine wp_append_all wideTok (.tmp 28) (.tmp 36) rfl B (.slice ta toks.length tc) toks [(r.path,⟨r.value,rt⟩)] (by kernel_rfl) ((uh HTK).drew.alloc _) ⟨w1.heap.size,0,none⟩ 1 (by kernel_rfl) (uh HSRC) (oneTok _) (by simp;omega) (by simp;have:=(uh HK1).size;omega) ?_
     intro v' w2 ho2 hg2 hb2
     obtain ⟨va,vc,hv',_,_⟩:=own_len ho2
     have HC2:=hide (show Chg (fun k=>g.tv.ownBlock=some k) w1 w2 from (uh HCA _).trans ⟨hg2.os,hg2.output,hg2.size,fun k hk hn=>hg2.block k hk fun e=>hn (by rw [uh HTV];exact e.symm)⟩)
     have HPT:=hide ((uh H1).putTok (uh HC2) ho2 fun k hk=>by
      rcases hb2 with e | e
      ·exact .inl (by rw [uh HTV,← e];exact hk)
      ·rw [e] at hk
       simp at hk
       exact .inr (by omega))
     subst hv'
     clear ho2 hg2 hb2
     refine hK.out _ _ ((uh HSS _ (uh HRB _ (uh HC2))).2) (fun hHeld13=>?_)
     clear hK K
     try simp only [zz0,zz1,zz2]
     refine tkL 2 [(14,some 38,.pointer (some ⟨rp,0,none⟩)),(15,some 39,.pointer (some ⟨rp,3,none⟩))] (by kernel_rfl) (fun _ _ _ _ _ h=>h) (fun _ _=>by kernel_rfl) hHeld13 ?_
     simp only [zz0,zz1,zz2,zz4,zz5]
     refine rd1 16 none (.store 151 (.tmp 39) (.tmp 37)) 0 (by kernel_rfl) (fun K hK=>?_)
     refine wp_store_151 (sa:=va) (sn:=(toks++[(r.path,(⟨r.value,rt⟩:Tok))]).length) (sc:=vc) (.tmp 39) (.tmp 37) rfl ⟨rp,3,none⟩ (by kernel_rfl) (by kernel_rfl) (.slice ta toks.length tc) (uh HSS _ (uh HRB _ (uh HC2))).1 (frozen_of_row _ _ _ _ _ ((uh HRB _ (uh HC2) rp (.inl rfl)).trans (uh H1).at')) ?_
     have HBXX:=hide (show (w2.setCell ⟨rp,3,none⟩ (.slice va (toks++[(r.path,(⟨r.value,rt⟩:Tok))]).length vc)).heap[w.heap.size]?=some (.cells r.cells 223 (0,0)) from (heap_setCell_other _ _ _ _ (by show w.heap.size≠rp;omega)).trans ((uh HRB _ (uh HC2) _ (.inr rfl)).trans (uh HBX)))
     refine hK.out _ _ (⟨by rw [cell_of_row _ _ _ _ _ _ (uh HBXX)];rfl,by rw [cell_of_row _ _ _ _ _ _ (uh HBXX)];rfl,by rw [cell_of_row _ _ _ _ _ _ (uh HBXX)];exact congrArg (fun n:Nat=>some (Value.int .i64 (n:Int))) (uh HRT)⟩) (fun hHeld16=>?_)
     clear hK K
     try simp only [zz3]
     refine wpAnyH_done (by kernel_rfl) ?_ _
     generalize w2.setCell ⟨rp,3,none⟩ (.slice va (toks++[(r.path,(⟨r.value,rt⟩:Tok))]).length vc)=w3 at HPT ⊢
     have HON:=hide (one_ref 0 w3 (by decide))
     go_wp2_with fail
     refine (uh HON).mono ?_
     rintro _ w5 ⟨rfl,hk5⟩
     have HS5:=hide ((uh HPT).1.keep hk5)
     have HC5:=hide (((uh HK1).chg.mono (S':=Rwr rp g) fun _ _ e=>e.elim).trans ((uh HPT).2.1.trans (hk5.chg.mono fun _ _ e=>e.elim)))
     clear hk5
     go_wp2_with fail
     go_ret
     rw [uh HA]
     exact ⟨rfl,_,secs,uh HS5,rfl,rfl,rfl,uh HC5,fun k hk=>((uh HPT).2.2 k hk).imp id fun e=>by omega⟩
 ·have hopB:((r.op.toNat:Int)==84)=false:=beq_eq_false_iff_ne.2 fun e=>hop (UInt8.toNat_inj.1 (by have h9:(84:UInt8).toNat=84:=rfl;omega))
  rcases hx with ⟨i,rfl,hi,hb⟩ | ⟨rfl,hno⟩
  ·obtain ⟨a,b1,b2,b3,b4⟩:=ix_found _ _ hi hb
   have hil:=(List.getElem?_eq_some_iff.1 b1).1
   have hi0:¬ (i:Int)<0:=by omega
   have hi0B:decide ((i:Int)<0)=false:=decide_eq_false hi0
   clear hi hb b1 b3
   by_cases hrt2:r.path=root
   ·have HA:=hide (show adminA r.op toks root r.path r.value rt=(bs [3],toks) by unfold adminA;rw [if_neg hop,b2];exact if_pos hrt2)
    have heq:(r.path.toList==root.toList)=true:=by rw [hrt2];simp
    clear b2 b4 hrt2 hop
    go_upto_region 11 with fail
    go_quiet (fail)
    have HON:=hide (fun W=>one_ref 3 W (by decide))
    go_wp2_with fail
    refine (uh HON _).mono ?_
    rintro _ w5 ⟨rfl,hk5⟩
    have HK5:=hide ((uh HK1).trans ((show Kept w1.heap.size w1 w5 from ⟨hk5.os,hk5.output,hk5.size,hk5.block⟩).mono (by omega)))
    clear hk5
    go_wp2_with fail
    go_ret
    exact uh HSAME _ _ (uh HK5) (uh HA)
   ·have HA:=hide (show adminA r.op toks root r.path r.value rt=(bs [0],toks.take i++toks.drop (i+1)) by unfold adminA;rw [if_neg hop,b2];rw [if_neg hrt2,b4])
    have heq:(r.path.toList==root.toList)=false:=by rw [beq_eq_false_iff_ne];exact fun h=>hrt2 (str_inj h)
    clear b2 b4 hrt2 hop
    go_upto_region 11 with fail
    go_quiet (fail)
    have HK1':=hide (show Kept w1.heap.size w1 (w1.drewN nq) from ⟨rfl,rfl,Nat.le_refl _,fun _ _=>rfl⟩)
    generalize w1.drewN nq=wd at HK1' ⊢
    obtain ⟨tb,rfl⟩:=htg (by omega)
    have hrpd:wd.cell? ⟨rp,3,none⟩=some (.slice (some ⟨tb,0,none⟩) toks.length tc):=((uh HK1').cell (p:=⟨rp,3,none⟩) (by have:=((uh H0).foot (.inl rfl)).1;show rp<w1.heap.size;omega)).trans hrp
    have HTK:=hide ((uh H1).keep (uh HK1')).tok
    rw [uh HTV] at HTK
    have HSA:=hide (show SrcAt tkcell wd (.slice (some ⟨tb,0,none⟩) i tc) (toks.take i) from .inr ⟨⟨tb,0,none⟩,tc,by rw [List.length_take,Nat.min_eq_left (by omega)],fun j u hu=>(uh HTK).cells rfl j u (by
     have:toks.flatMap tkcell=(toks.take i).flatMap tkcell++(toks.drop i).flatMap tkcell:=by rw [← List.flatMap_append,List.take_append_drop]
     show (toks.flatMap tkcell)[j]?=some u
     rw [this,List.getElem?_append_left (List.getElem?_eq_some_iff.1 hu).1];exact hu)⟩)
    have hiI:(i:Int)≤(tc:Int):=by omega
    have hiJ:¬ (tc:Int)<(i:Int):=by omega
    have hi00:(0:Int)≤(i:Int):=by omega
    have hB1:B≤wd.heap.size:=by have:=(uh HK1').size;omega
    go_upto_region 15 with (at_builtin;refine wpList_append_all wideTok rfl (.tmp 52) (.tmp 58) rfl B (.slice none 0 0) [] (toks.take i) rfl (World.ownsRow_nil _ _ _ _) (.slice (some ⟨tb,0,none⟩) i tc) rfl (uh HSA) (oneTok _) (by simp;omega) hB1 ?_;intro v1 w2 ho1 hg1 hb1)
    rw [List.nil_append] at ho1
    have HK2:=hide (show Kept wd.heap.size wd w2 from ⟨hg1.os,hg1.output,hg1.size,fun k hk=>hg1.block k hk (by simp [Value.ownBlock])⟩)
    have HV1:=hide (show ∀ k,v1.ownBlock=some k→w1.heap.size≤k from fun k hk=>by
     rcases hb1 with e | e
     ·rw [e] at hk;cases hk
     ·rw [e] at hk
      have:=(uh HK1').size
      simp at hk;omega)
    have HO1:=hide ho1
    obtain ⟨va,vc,hv1,_,_⟩:=own_len ho1
    have htl:(toks.take i).length=i:=by rw [List.length_take];omega
    rw [htl] at hv1
    subst hv1
    have hrp2:w2.cell? ⟨rp,3,none⟩=some (.slice (some ⟨tb,0,none⟩) toks.length tc):=((uh HK2).cell (p:=⟨rp,3,none⟩) (World.block_lt_of_cell? _ _ hrpd)).trans hrpd
    have HSB:=hide (show ∀ a c,(i+1<tc→a=⟨tb,(i+1)*3,none⟩)→SrcAt tkcell w2 (.slice (some a) (toks.length-(i+1)) c) (toks.drop (i+1)) from fun a c ha=>.inr ⟨a,c,by rw [List.length_drop],fun j u hu=>by
     have hjl:=(List.getElem?_eq_some_iff.1 hu).1
     rw [flat_len (f:=tkcell) (n:=3) (fun _=>rfl),List.length_drop] at hjl
     have hlt:i+1<tc:=by omega
     rw [ha hlt,add_addr]
     have h2:(toks.flatMap tkcell)[(i+1)*3+j]?=some u:=by
      have:toks.flatMap tkcell=(toks.take (i+1)).flatMap tkcell++(toks.drop (i+1)).flatMap tkcell:=by rw [← List.flatMap_append,List.take_append_drop]
      rw [this,List.getElem?_append_right (by rw [flat_len (f:=tkcell) (n:=3) (fun _=>rfl),List.length_take];omega),flat_len (f:=tkcell) (n:=3) (fun _=>rfl),List.length_take,Nat.min_eq_left (by omega),Nat.add_sub_cancel_left]
      exact hu
     have h3:=(own_kept (uh HTK) (uh HK2)).cells rfl ((i+1)*3+j) u h2
     rwa [add_addr,Nat.zero_add] at h3⟩)
    have hB2:B≤w2.heap.size:=by have:=(uh HK2).size;omega
    have HRP:=hide hrpd
    clear hg1 hb1 ho1 hrpd HSA hrp
    have i1:(i:Int)+1≤(toks.length:Int):=by omega
    have i2:¬ (toks.length:Int)<(i:Int)+1:=by omega
    have i3:(0:Int)≤(i:Int)+1:=by omega
    have i4:(toks.length:Int)≤(tc:Int):=by omega
    have i5:((i:Int)+1).toNat=i+1:=by omega
    have HEND:=hide (show ∀ (W:World) (v2:Value),W.ownsRow B 155 3 v2 (toks.take i++toks.drop (i+1)).length ((toks.take i++toks.drop (i+1)).flatMap tkcell)→w2.grownBy W (Value.slice va i vc).ownBlock→(v2.ownBlock=(Value.slice va i vc).ownBlock∨v2.ownBlock=some w2.heap.size)→W.cell? ⟨rp,3,none⟩=some (.slice (some ⟨tb,0,none⟩) toks.length tc)∧W.frozen? ⟨rp,3,none⟩=false∧RVAt B (W.setCell ⟨rp,3,none⟩ v2) rp { g with tv:=v2 } key root secs (toks.take i++toks.drop (i+1)) E H∧Chg (Rwr rp g) w (W.setCell ⟨rp,3,none⟩ v2)∧∀ k,Rft rp { g with tv:=v2 } secs k→Rft rp g secs k∨w.heap.size≤k from fun W v2 ho hg hb=>by
     have hc:Chg (fun k=>g.tv.ownBlock=some k) w1 W:=by
      refine ⟨hg.os.trans ((uh HK2).os.trans (uh HK1').os),hg.output.trans ((uh HK2).output.trans (uh HK1').output),Nat.le_trans (uh HK1').size (Nat.le_trans (uh HK2).size hg.size),fun k hk _=>?_⟩
      refine (hg.block k (by have:=(uh HK1').size;have:=(uh HK2).size;omega) fun e=>?_).trans (((uh HK2).block k (by have:=(uh HK1').size;omega)).trans ((uh HK1').block k hk))
      have:=uh HV1 k e.symm;omega
     have hrpl:=((uh H1).foot (.inl rfl)).1
     have hat:=(hc.block rp hrpl (fun e=>(uh H1).ne (uh H1).tok (by decide) e rfl)).trans (uh H1).at'
     obtain ⟨r1,r2,r3⟩:=(uh H1).putTok hc ho fun k hk=>by
      rcases hb with e | e
      ·exact .inr (uh HV1 k (e ▸ hk))
      ·rw [e] at hk
       have:=(uh HK1').size;have:=(uh HK2).size
       simp at hk;exact .inr (by omega)
     refine ⟨by rw [cell_of_row _ _ _ _ _ _ hat,← uh HTV];rfl,frozen_of_row _ _ _ _ _ hat,r1,((uh HK1).chg.mono (S':=Rwr rp g) fun _ _ e=>e.elim).trans r2,fun k hk=>(r3 k hk).imp id fun e=>by omega⟩)
    have FIN:=hide (show ∀ W e,e=Ending.returned (Value.string (bs [0]))→(∃ v2,RVAt B W rp { g with tv:=v2 } key root secs (toks.take i++toks.drop (i+1)) E H∧Chg (Rwr rp g) w W∧∀ k,Rft rp { g with tv:=v2 } secs k→Rft rp g secs k∨w.heap.size≤k)→rEnd B w rp g key root secs E H (adminA r.op toks root r.path r.value rt).1 (PSc secs) (adminA r.op toks root r.path r.value rt).2 e W from fun W e he ⟨v2,h1,h2,h3⟩=>by
     rw [uh HA]
     exact ⟨he,_,secs,h1,rfl,rfl,rfl,h2,h3⟩)
    by_cases hce:tc=i+1
    ·have hceB:(tc=i+1)=True:=eq_true hce
     have HS1:=hide (fun c=>uh HSB ⟨tb,0,none⟩ c (fun h=>by omega))
     clear hce
     go_upto_region 16 with (at_builtin;refine wpList_append_all wideTok rfl (.tmp 60) (.tmp 67) rfl B (.slice va i vc) (toks.take i) (toks.drop (i+1)) rfl (uh HO1) _ rfl (uh HS1 _) (oneTok _) (by simp;omega) hB2 ?_;intro v2 wz ho2 hg2 hb2)
     obtain ⟨e1,e2,e3,e4,e5⟩:=uh HEND wz v2 ho2 hg2 hb2
     obtain ⟨va2,vc2,hv2,_,_⟩:=own_len ho2
     obtain ⟨n2,hn2⟩:∃ n2,n2=(toks.take i++toks.drop (i+1)).length:=⟨_,rfl⟩
     rw [← hn2] at hv2
     subst hv2
     have HX:=hide (And.intro e3 (And.intro e4 e5))
     clear e3 e4 e5 ho2 hg2 hb2 hn2
     go_upto_region 17 with fail
     generalize wz.setCell ⟨rp,3,none⟩ (.slice va2 n2 vc2)=wy at HX ⊢
     have HON:=hide (one_ref 0 wy (by decide))
     go_wp2_with fail
     refine (uh HON).mono ?_
     rintro _ w5 ⟨rfl,hk5⟩
     have HE5:=hide (And.intro ((uh HX).1.keep hk5) (And.intro ((uh HX).2.1.trans (hk5.chg.mono (S':=Rwr rp g) fun _ _ e=>e.elim)) (uh HX).2.2))
     clear hk5
     go_wp2_with fail
     go_ret
     exact uh FIN _ _ rfl ⟨_,uh HE5⟩
    ·have hceB:(tc=i+1)=False:=eq_false hce
     have HS1:=hide (fun c=>uh HSB ⟨tb,(i+1)*3,none⟩ c (fun h=>rfl))
     clear hce
     go_upto_region 16 with (at_builtin;refine wpList_append_all wideTok rfl (.tmp 60) (.tmp 67) rfl B (.slice va i vc) (toks.take i) (toks.drop (i+1)) rfl (uh HO1) _ rfl (uh HS1 _) (oneTok _) (by simp;omega) hB2 ?_;intro v2 wz ho2 hg2 hb2)
     obtain ⟨e1,e2,e3,e4,e5⟩:=uh HEND wz v2 ho2 hg2 hb2
     obtain ⟨va2,vc2,hv2,_,_⟩:=own_len ho2
     obtain ⟨n2,hn2⟩:∃ n2,n2=(toks.take i++toks.drop (i+1)).length:=⟨_,rfl⟩
     rw [← hn2] at hv2
     subst hv2
     have HX:=hide (And.intro e3 (And.intro e4 e5))
     clear e3 e4 e5 ho2 hg2 hb2 hn2
     go_upto_region 17 with fail
     generalize wz.setCell ⟨rp,3,none⟩ (.slice va2 n2 vc2)=wy at HX ⊢
     have HON:=hide (one_ref 0 wy (by decide))
     go_wp2_with fail
     refine (uh HON).mono ?_
     rintro _ w5 ⟨rfl,hk5⟩
     have HE5:=hide (And.intro ((uh HX).1.keep hk5) (And.intro ((uh HX).2.1.trans (hk5.chg.mono (S':=Rwr rp g) fun _ _ e=>e.elim)) (uh HX).2.2))
     clear hk5
     go_wp2_with fail
     go_ret
     exact uh FIN _ _ rfl ⟨_,uh HE5⟩
  ·have hlk:=ix_none hno
   have HA:=hide (show adminA r.op toks root r.path r.value rt=(bs [4],toks) by unfold adminA;rw [if_neg hop,hlk.1])
   have HON:=hide (one_ref 4 w1 (by decide))
   clear hlk hno hop
   go_wp2_with fail
   refine (uh HON).mono ?_
   rintro _ w5 ⟨rfl,hk5⟩
   have HK5:=hide ((uh HK1).trans (hk5.mono (by omega)))
   clear hk5
   go_wp2_with fail
   go_ret
   exact uh HSAME _ _ (uh HK5) (uh HA)
end Go.Proofs.YtlbacbcenejngaaGreatDoor
namespace Go.Proofs.YtlbacbcenejngaaGreatDoor
open Go.RowKit
theorem wp_store_sec {w:World} {o:Oper} {a:Act} {K:Act→World→Prop} {Q:Exit→Act→World→Prop} (x y:Operand) (ho:o.op=.store 248 x y) (b k:Nat) (hx:a.eval x=.pointer (some ⟨b,k,none⟩)) {s:ByteArray} {n:Int} {sa:Option Addr} {sn sc:Nat} (hy:a.eval y=.agg #[.string s,.int .i64 n,.slice sa sn sc]) (u:Nat→Value) (hc:∀ j,j<3→w.cell? ⟨b,k+j,none⟩=some (u j)) (hf:∀ j,w.frozen? ⟨b,j,none⟩=false) (h:K (a.put o.dst undef) (((w.setCell ⟨b,k,none⟩ (.string s)).setCell ⟨b,k+1,none⟩ (.int .i64 n)).setCell ⟨b,k+2,none⟩ (.slice sa sn sc))):o.wp Tryz.prog a w K Q:=by
 have h0:=hc 0 (by decide)
 have h1:=hc 1 (by decide)
 have h2:=hc 2 (by decide)
 rw [Nat.add_zero] at h0
 have f0:=hf k
 have f1:=hf (k+1)
 have f2:=hf (k+2)
 unfold Oper.wp execOp
 simp only [ho,hx,hy]
 go_simp
 exact h
section
variable {B:Nat} {w w2:World} {rp:Nat} {g:RG} {key root:ByteArray} {secs secs':List Sc} {toks:List (ByteArray × Tok)} {E:List ByteArray} {H:List Nat}
theorem RVAt.setSec (h:RVAt B w rp g key root secs toks E H) {i sb cap:Nat} {c c':Sc} (hsv:g.sv=.slice (some ⟨sb,0,none⟩) secs.length cap) (hi:secs[i]?=some c) (hv:w.ownsRow B 250 2 c'.L c'.pth.vers.length (vrcells c'.pth.vers)) :
  RVAt B (((w.setCell ⟨sb,i*3,none⟩ (.string c'.name)).setCell ⟨sb,i*3+1,none⟩ (.int .i64 (c'.pth.next:Int))).setCell ⟨sb,i*3+2,none⟩ c'.L) rp g key root (secs.set i c') toks E H∧Chg (fun k=>k=sb) w (((w.setCell ⟨sb,i*3,none⟩ (.string c'.name)).setCell ⟨sb,i*3+1,none⟩ (.int .i64 (c'.pth.next:Int))).setCell ⟨sb,i*3+2,none⟩ c'.L):=by
 have hlt:=(List.getElem?_eq_some_iff.1 hi).1
 have hown:=h.sec
 have hother:∀ k,k≠sb→(((w.setCell ⟨sb,i*3,none⟩ (.string c'.name)).setCell ⟨sb,i*3+1,none⟩ (.int .i64 (c'.pth.next:Int))).setCell ⟨sb,i*3+2,none⟩ c'.L).heap[k]?=w.heap[k]?:=fun k hk=>(heap_setCell_other _ _ _ _ hk).trans ((heap_setCell_other _ _ _ _ hk).trans (heap_setCell_other _ _ _ _ hk))
 have hst:(((w.setCell ⟨sb,i*3,none⟩ (.string c'.name)).setCell ⟨sb,i*3+1,none⟩ (.int .i64 (c'.pth.next:Int))).setCell ⟨sb,i*3+2,none⟩ c'.L).ownsRow B 248 3 g.sv secs.length ((((sccells secs).set (i*3) (.string c'.name)).set (i*3+1) (.int .i64 (c'.pth.next:Int))).set (i*3+2) c'.L):=by
  rw [hsv] at hown ⊢
  exact (((hown.stored (i*3) (.string c'.name)).1.stored (i*3+1) (.int .i64 (c'.pth.next:Int))).1.stored (i*3+2) c'.L).1
 have e1:=wide_set (f:=Sc.cell) (n:=3) (fun _=>rfl) secs i 0 c ⟨c'.name,c.pth,c.L⟩ (.string c'.name) hi (by decide) rfl
 rw [Nat.add_zero] at e1
 have i1:(secs.set i ⟨c'.name,c.pth,c.L⟩)[i]?=some ⟨c'.name,c.pth,c.L⟩:=List.getElem?_set_self hlt
 have e2:=wide_set (f:=Sc.cell) (n:=3) (fun _=>rfl) _ i 1 _ ⟨c'.name,{ c.pth with next:=c'.pth.next },c.L⟩ (.int .i64 (c'.pth.next:Int)) i1 (by decide) rfl
 rw [List.set_set] at e2
 have i2:(secs.set i ⟨c'.name,{ c.pth with next:=c'.pth.next },c.L⟩)[i]?=some ⟨c'.name,{ c.pth with next:=c'.pth.next },c.L⟩:=List.getElem?_set_self hlt
 have e3:=wide_set (f:=Sc.cell) (n:=3) (fun _=>rfl) _ i 2 _ c' c'.L i2 (by decide) rfl
 rw [List.set_set] at e3
 rw [e1,e2,e3] at hst
 refine ⟨h.newSec (sb:=sb) (by rw [hsv];rfl) hother (by rw [List.length_set];exact hst) fun c1 hc1=>?_,⟨rfl,rfl,by simp only [World.size_setCell];exact Nat.le_refl _,fun k _ hn=>hother k hn⟩⟩
 rcases List.mem_or_eq_of_mem_set hc1 with hm | rfl
 ·exact h.ver c1 hm
 ·exact hv
theorem RVAt.putSec (h:RVAt B w rp g key root secs toks E H) {v':Value} (hc:Chg (fun k=>g.sv.ownBlock=some k) w w2) (ho:w2.ownsRow B 248 3 v' secs'.length (sccells secs')) (hb:∀ k,v'.ownBlock=some k→g.sv.ownBlock=some k∨w.heap.size≤k) (hver:∀ c∈secs',c∈secs∨(c.L=.slice none 0 0∧c.pth.vers=[])) :
  RVAt B (w2.setCell ⟨rp,2,none⟩ v') rp { g with sv:=v' } key root secs' toks E H∧Chg (Rwr rp g) w (w2.setCell ⟨rp,2,none⟩ v')∧∀ k,Rft rp { g with sv:=v' } secs' k→Rft rp g secs k∨w.heap.size≤k:=by
 have hrpl:=(h.foot (.inl rfl)).1
 have hrp2:w2.heap[rp]?=some (.cells #[.string key,.string root,g.sv,g.tv,g.lv,g.hv] 153 (0,0)):=(hc.block rp hrpl (fun e=>h.ne h.sec (by decide) e rfl)).trans h.at'
 have hrow:(w2.setCell ⟨rp,2,none⟩ v').heap[rp]?=some (.cells #[.string key,.string root,v',g.tv,g.lv,g.hv] 153 (0,0)):=by rw [heap_setCell_same _ _ _ _ _ _ hrp2];rfl
 have oth:∀ k,k≠rp→(w2.setCell ⟨rp,2,none⟩ v').heap[k]?=w2.heap[k]?:=fun k hk=>heap_setCell_other _ _ _ _ hk
 refine ⟨⟨hrow,?_,?_,?_,?_,?_,h.ge⟩,⟨hc.os,hc.output,by rw [World.size_setCell];exact hc.size,fun k hk hn=>(oth k fun e=>hn (.inl e)).trans (hc.block k hk fun e=>hn (.inr (.inl e)))⟩,fun k hk=>?_⟩
 ·exact own_blocks ho fun k hk=>oth k fun e=>by
   subst e
   obtain ⟨c1,h3⟩:=own_ty ho hk
   rw [hrp2] at h3
   injection h3 with h5
   injection h5 with _ h6 _
   exact absurd h6 (by decide)
 ·intro c hm
  rcases hver c hm with hm | ⟨e1,e2⟩
  ·exact own_blocks (h.ver c hm) fun k hk=>(oth k fun e=>h.ne (h.ver c hm) (by decide) hk e.symm).trans (hc.block k ((h.ver c hm).lt k hk).2 fun e=>own_neq (h.ver c hm) h.sec (by decide) hk e)
  ·rw [e1,e2];exact World.ownsRow_nil _ _ _ _
 ·exact own_blocks h.tok fun k hk=>(oth k fun e=>h.ne h.tok (by decide) hk e.symm).trans (hc.block k (h.tok.lt k hk).2 fun e=>own_neq h.tok h.sec (by decide) hk e)
 ·exact own_blocks h.log fun k hk=>(oth k fun e=>h.ne h.log (by decide) hk e.symm).trans (hc.block k (h.log.lt k hk).2 fun e=>own_neq h.log h.sec (by decide) hk e)
 ·exact own_blocks h.hav fun k hk=>(oth k fun e=>h.ne h.hav (by decide) hk e.symm).trans (hc.block k (h.hav.lt k hk).2 fun e=>own_neq h.hav h.sec (by decide) hk e)
 ·rcases hk with hk | hk | hk | hk | hk | ⟨c,hm,hk⟩
  ·exact .inl (.inl hk)
  ·exact (hb k hk).imp (fun e=>.inr (.inl e)) id
  ·exact .inl (.inr (.inr (.inl hk)))
  ·exact .inl (.inr (.inr (.inr (.inl hk))))
  ·exact .inl (.inr (.inr (.inr (.inr (.inl hk)))))
  ·rcases hver c hm with hm | ⟨e1,e2⟩
   ·exact .inl (.inr (.inr (.inr (.inr (.inr ⟨c,hm,hk⟩)))))
   ·rw [e1] at hk;cases hk
end
def putA (l:List (ByteArray × Pth)) (path value:ByteArray):ByteArray × List (ByteArray × Pth):=match lk path l with
 | none=>if 16≤l.length then (bs [5],l) else (bs [0,1],putM path ⟨2,[(1,value)]⟩ l)
 | some p=>if 20<p.next then (bs [5],l) else (bs [0,UInt8.ofNat p.next],putM path ⟨p.next+1,p.vers++[(p.next,value)]⟩ l)
structure PutM (B:Nat) (w:World) (rp:Nat) (g:RG) (key root:ByteArray) (secs:List Sc) (toks:List (ByteArray × Tok)) (E:List ByteArray) (H:List Nat) (r:Pq) (i:Nat) (c:Sc) (g1:RG) (secs1:List Sc) (wx:World):Prop where
 at':RVAt B wx rp g1 key root secs1 toks E H
 is:secs1[i]?=some c
 name:c.name=r.path
 next:c.pth.next≤1000
 len:c.pth.vers.length≤1000
 all:secs1.length≤1001
 box:wx.heap[w.heap.size]?=some (.cells r.cells 223 (0,0))
 chg:Chg (Rwr rp g) w wx
 ft:∀ k,Rft rp g1 secs1 k→Rft rp g secs k∨w.heap.size≤k
 sv:∀ k,g1.sv.ownBlock=some k→g.sv.ownBlock=some k∨w.heap.size≤k
 lv:g1.lv=g.lv
 hv:g1.hv=g.hv
 eq:putA (PSc secs) r.path r.value=if 20<c.pth.next then (bs [5],PSc secs1) else (bs [0,UInt8.ofNat c.pth.next],(PSc secs1).set i (r.path,⟨c.pth.next+1,c.pth.vers++[(c.pth.next,r.value)]⟩))
end Go.Proofs.YtlbacbcenejngaaGreatDoor
