/-
  Sf Sg Sh Vm Vn Vo Ea Eb
-/
import Derived.Test.YtlbacbcenejngaaGreatDoorV02
import Derived.Test.YtlbacbcenejngaaGreatDoorV36
import Derived.Test.YtlbacbcenejngaaGreatDoorV35
import Derived.Test.YtlbacbcenejngaaGreatDoorV33
import Derived.Test.YtlbacbcenejngaaGreatDoorV26
import Derived.Test.YtlbacbcenejngaaGreatDoorV32
import Derived.Test.YtlbacbcenejngaaGreatDoorV28
namespace Go.Proofs.YtlbacbcenejngaaGreatDoor
open Go.RowKit Go.MapKept
def Sto.carry (S:Sto) (q:Rq):Cg→Sto
 | .grant=>{ S with toks:=putM q.name ⟨q.pre,q.rights⟩ S.toks }
 | .revoke=>{ S with toks:=delM q.name S.toks }
 | .drop=>match lk q.path S.paths with | some p=>{ S with paths:=putM q.path { p with vers:=[] } S.paths } | none=>S
 | .put=>{ S with paths:=putM q.path ⟨((lk q.path S.paths).getD ⟨1,[]⟩).next+1,((lk q.path S.paths).getD ⟨1,[]⟩).vers++[(((lk q.path S.paths).getD ⟨1,[]⟩).next,q.value)]⟩ S.paths }
def cyEnd (B n0:Nat) (w:World) (sp tb pb:Nat) (L:PL) (S':Sto) (e:Ending) (w':World):Prop :=
 e=.returned (.tuple #[])∧∃ L',StoAt B w' sp tb pb L' S'∧Chg (fun k=>Sft sp tb pb L k∨n0≤k) w w'∧(∀ k,Sft sp tb pb L' k→Sft sp tb pb L k∨n0≤k)∧Stay [169,236,238,0] w w'
theorem map_ne {w:World} {b k:Nat} {t:TypeId} {d:TypeDesc} {key:ByteArray→Value} {M:List (ByteArray × Value)} (h:MapAt d key w b M) (hk:TyAt w k t):k≠b:=by
 rintro rfl
 obtain ⟨cs,hc⟩:=hk
 obtain ⟨es,c,hh,_⟩:=h
 rw [hc] at hh
 cases hh
theorem StoAt.ty0 {B:Nat} {w:World} {sp tb pb:Nat} {L:PL} {S:Sto} (h:StoAt B w sp tb pb L S):TyAt w sp 168:=⟨_,h.at'⟩
theorem StoAt.toks' {B:Nat} {w w':World} {sp tb pb:Nat} {L:PL} {S:Sto} {T:List (ByteArray × Tok)} (h:StoAt B w sp tb pb L S) (hm:MapAt .string skey w' tb (T.map fun e=>(e.1,e.2.enc))) (hc:Chg (fun k=>k=tb) w w'):StoAt B w' sp tb pb L { S with toks:=T } :=
 ⟨(hc.block _ h.ty0.lt (map_ne h.toks h.ty0)).trans h.at',hm,h.paths.stay (hc.block _ h.paths.lt fun e=>h.ne e.symm),h.vals,
  h.fam.frame (wayP B) (fun k hk _=>hc.block k hk.lt (map_ne h.toks hk)) (fun k hk _=>hc.block k hk.lt (map_ne h.toks hk)),h.ge,h.ne⟩
theorem cy_toks {B n0:Nat} {w w1 w':World} {sp tb pb:Nat} {L:PL} {S:Sto} {T:List (ByteArray × Tok)} (h:StoAt B w sp tb pb L S) (hk:Kept w.heap.size w w1) (hm:MapAt .string skey w' tb (T.map fun e=>(e.1,e.2.enc))) (hc:Chg (fun k=>k=tb) w1 w'):cyEnd B n0 w sp tb pb L { S with toks:=T } (.returned (.tuple #[])) w' :=
 ⟨rfl,L,(h.kept hk).toks' hm hc,(Chg.trans' (S:=fun k=>Sft sp tb pb L k∨n0≤k) ⟨hk.os,hk.output,hk.size,fun k hk' _=>hk.block k hk'⟩ hc fun i _ e=>.inl (.inr (.inl e))),fun k hk=>.inl hk,(hk.stay.trans (stay_one (l:=[0]) (map_knd (h.kept hk).toks) (fun k hne hlt=>hc.block k hlt hne) (by decide))).mono (by decide)⟩
def SG (sp tb b2 b3:Nat) (q:Rq) (W:World):Prop:=W.cell? ⟨b2,0,none⟩=some (.pointer (some ⟨sp,0,none⟩))∧W.cell? ⟨sp,1,none⟩=some (.map (some tb))∧W.cell? ⟨b3,6,none⟩=some (.string q.name)∧W.cell? ⟨b3,7,none⟩=some (.string q.pre)∧W.cell? ⟨b3,8,none⟩=some (.int .u8 (q.rights.toNat:Int))
theorem sg_all {B n0:Nat} {w:World} {sp tb pb b2 b3:Nat} {L:PL} {S:Sto} {q:Rq} (h:StoAt B w sp tb pb L S) (hb:Bx n0 w sp b2 b3 q) (W:World) (hk:Kept w.heap.size w W):SG sp tb b2 b3 q W:=by
 have h2:=(hk.block _ (Array.getElem?_eq_some_iff.1 hb.s).1).trans hb.s
 have h3:RqAt W b3 q:=(hk.block _ hb.q.lt).trans hb.q
 exact ⟨by rw [cell_of_row _ _ _ _ _ _ h2];rfl,by rw [cell_of_row _ _ _ _ _ _ (h.kept hk).at'];rfl,by rw [h3.c 6];rfl,by rw [h3.c 7];rfl,by rw [h3.c 8];rfl⟩
theorem sg_set {B:Nat} {w w':World} {sp tb pb b2 b3:Nat} {L:PL} {S:Sto} {q:Rq} (h:StoAt B w sp tb pb L S) (hs:SG sp tb b2 b3 q w) (hc:Chg (fun k=>k=tb) w w') (h2:TyAt w b2 76) (h3:TyAt w b3 84):SG sp tb b2 b3 q w':=by
 have e:∀ k j,(∃ t,TyAt w k t)→w'.cell? ⟨k,j,none⟩=w.cell? ⟨k,j,none⟩:=fun k j ht=>by
  obtain ⟨t,ht⟩:=ht
  exact World.cell?_of_block (w:=w) (a:=⟨k,j,none⟩) (hc.block k ht.lt (map_ne h.toks ht))
 unfold SG
 rw [e b2 0 ⟨_,h2⟩,e sp 1 ⟨_,h.ty0⟩,e b3 6 ⟨_,h3⟩,e b3 7 ⟨_,h3⟩,e b3 8 ⟨_,h3⟩]
 exact hs
set_option maxRecDepth 100000 in
set_option maxHeartbeats 1000000 in
theorem grantC_go (B n0:Nat) (w:World) (sp tb pb b2 b3:Nat) (L:PL) (S:Sto) (q:Rq) (h:StoAt B w sp tb pb L S) (hb:Bx n0 w sp b2 b3 q) (hn:q.name.size≤1000) (hp:q.pre.size≤1000) :
  Calls Tryz.prog 174 #[.pointer (some ⟨b3,0,none⟩),.pointer (some ⟨b2,0,none⟩)] w (cyEnd B n0 w sp tb pb L (S.carry q .grant)):=by
 have HSG:=hide (sg_all h hb)
 have HB23:=hide hb
 have HS:=hide h
 clear h hb
 go_enter Tryz.func174,Tryz.ntmps174
 go_wp2_with fail
 refine wp_region_held_drew (S:=SG sp tb b2 b3 q) (by kernel_rfl) (uh HSG w.drew ((Kept.refl _ _).draws 1)) (fun hHeld=>?_)
 refine tkG 0 (some 2) (.load 76 (.tmp 1)) 76 none (.pointer (some ⟨sp,0,none⟩)) (by kernel_rfl) (fun _ _ _ h=>h) (Or.inl ⟨by kernel_rfl,fun W hW=>by simp [execOp,go_sem,hW.1]⟩) hHeld ?_
 simp only [zz0,zz1,zz2]
 refine tkL 2 [(1,some 3,.pointer (some ⟨sp,0,none⟩)),(2,some 4,.pointer (some ⟨sp,1,none⟩))] (by kernel_rfl) (fun _ _ _ _ _ h=>h) (fun _ _=>by kernel_rfl) hHeld ?_
 simp only [zz0,zz1,zz2,zz4,zz5]
 refine tkG 3 (some 5) (.load 165 (.tmp 4)) 165 none (.map (some tb)) (by kernel_rfl) (fun _ _ _ h=>h) (Or.inl ⟨by kernel_rfl,fun W hW=>by simp [execOp,go_sem,hW.2.1]⟩) hHeld ?_
 simp only [zz0,zz1,zz2]
 refine tkP 4 (some 6) (.pointer (some ⟨b3,6,none⟩)) (by kernel_rfl) (fun _ _ _ h=>h) (fun _ _=>by kernel_rfl) hHeld ?_
 simp only [zz0,zz1,zz2]
 refine tkG 5 (some 7) (.load 9 (.tmp 6)) 9 none (.string q.name) (by kernel_rfl) (fun _ _ _ h=>h) (Or.inl ⟨by kernel_rfl,fun W hW=>by simp [execOp,go_sem,hW.2.2.1]⟩) hHeld ?_
 simp only [zz0,zz1,zz2]
 refine tkP 7 (some 9) (.pointer (some ⟨b3,7,none⟩)) (by kernel_rfl) (fun _ _ _ h=>h) (fun _ _=>by kernel_rfl) hHeld ?_
 simp only [zz0,zz1,zz2]
 refine tkG 8 (some 10) (.load 9 (.tmp 9)) 9 none (.string q.pre) (by kernel_rfl) (fun _ _ _ h=>h) (Or.inl ⟨by kernel_rfl,fun W hW=>by simp [execOp,go_sem,hW.2.2.2.1]⟩) hHeld ?_
 simp only [zz0,zz1,zz2]
 refine tkP 10 (some 12) (.pointer (some ⟨b3,8,none⟩)) (by kernel_rfl) (fun _ _ _ h=>h) (fun _ _=>by kernel_rfl) hHeld ?_
 simp only [zz0,zz1,zz2]
 refine tkG 11 (some 13) (.load 5 (.tmp 12)) 5 none (.int .u8 (q.rights.toNat:Int)) (by kernel_rfl) (fun _ _ _ h=>h) (Or.inl ⟨by kernel_rfl,fun W hW=>by simp [execOp,go_sem,hW.2.2.2.2]⟩) hHeld ?_
 simp only [zz0,zz1,zz2]
 refine rd1 6 (some 8) (.call { callee:=.value (.func 63),args:=#[.tmp 7],argTypes:=#[9] }) 9 (by kernel_rfl) (fun K hK=>?_)
 go_simp
 refine (clone_go q.name _ (by omega)).mono ?_
 rintro _ w1 ⟨rfl,hk1⟩
 have HK1:=hide (show Kept w.heap.size w w1 from ⟨hk1.os,hk1.output,hk1.size,hk1.block⟩)
 clear hk1
 show K _ w1
 refine hK.out _ _ (uh HSG w1 (uh HK1)) (fun hHeld6=>?_)
 clear hK K
 try simp only [zz0,zz1,zz2]
 refine rd1 9 (some 11) (.call { callee:=.value (.func 63),args:=#[.tmp 10],argTypes:=#[9] }) 9 (by kernel_rfl) (fun K hK=>?_)
 go_simp
 refine (clone_go q.pre w1 (by omega)).mono ?_
 rintro _ w2 ⟨rfl,hk2⟩
 have HK2:=hide (show Kept w.heap.size w w2 from (uh HK1).trans (hk2.mono (uh HK1).size))
 clear hk2
 show K _ w2
 refine hK.out _ _ (uh HSG w2 (uh HK2)) (fun hHeld9=>?_)
 clear hK K
 try simp only [zz0,zz1,zz2]
 refine tkP 12 (some 14) (.agg #[.string q.pre,.int .u8 (q.rights.toNat:Int)]) (by kernel_rfl) (fun _ _ _ h=>h) (fun _ _=>by kernel_rfl) hHeld9 ?_
 simp only [zz0,zz1,zz2]
 have HSG3:=hide (fun w3 (hc3:Chg (fun k=>k=tb) w2 w3)=>sg_set ((uh HS).kept (uh HK2)) (uh HSG w2 (uh HK2)) hc3 ⟨_,(uh HK2).block _ (Array.getElem?_eq_some_iff.1 (uh HB23).s).1 |>.trans (uh HB23).s⟩ ⟨_,(uh HK2).block _ (uh HB23).q.lt |>.trans (uh HB23).q⟩)
 refine rd1 13 none (.mapUpdate 165 (.tmp 5) (.tmp 8) (.tmp 14)) 0 (by kernel_rfl) (fun K hK=>?_)
 refine wp_upd kkStr und165 (.tmp 5) (.tmp 8) (.tmp 14) (Or.inl rfl) ((uh HS).kept (uh HK2)).toks q.name (.agg #[.string q.pre,.int .u8 (q.rights.toNat:Int)]) ?_ ?_ ?_ ?_
 ·kernel_rfl
 ·kernel_rfl
 ·kernel_rfl
 intro w3 hm3 hc3 hz3
 have HF:=hide (And.intro hm3 hc3)
 have hsg3:SG sp tb b2 b3 q w3:=uh HSG3 w3 hc3
 clear hm3 hc3
 show K _ w3
 refine hK.out _ _ (hsg3) (fun hHeld13=>?_)
 clear hK K
 try simp only [zz3]
 refine wpAnyH_done (by kernel_rfl) ?_ _
 go_wp2_with fail
 refine end0 rfl rfl ?_
 have hf:=uh HF
 refine cy_toks (T:=putM q.name ⟨q.pre,q.rights⟩ S.toks) (uh HS) (uh HK2) ?_ hf.2
 rw [putM_map Tok.enc]
 exact hf.1
theorem wp_del {P:Program} {o:Oper} {a:Act} {w:World} {Kn:Act→World→Prop} {Q:Exit→Act→World→Prop} {t kt et:TypeId} {d:TypeDesc} {key:ByteArray→Value} (hk:Kk P kt d key) (ht:P.underlying t=some (.map kt et)) (m x:Operand)
  (ho:o.op=.call { callee:=.builtin .delete,args:=#[m,x],argTypes:=#[t,kt] }) {b:Nat} {M:List (ByteArray × Value)} (h:MapAt d key w b M) (k:ByteArray) (hm:a.eval m=.map (some b)) (hx:a.eval x=key k)
  (hn:∀ w',MapAt d key w' b (delM k M)→Chg (fun i=>i=b) w w'→w'.heap.size=w.heap.size→Kn (a.put o.dst (.tuple #[])) w'):o.wp P a w Kn Q:=by
 obtain ⟨w',hr,h1,h2,h3⟩:=run_del (ty:=o.type) hk ht h k
 have:=hn w' h1 h2 h3
 unfold Oper.wp
 simp [execOp,ho,resolve,invoke,builtin,hm,hx,hr,Result.andThen,Oper.upon]
 exact this
set_option maxRecDepth 100000 in
set_option maxHeartbeats 1000000 in
theorem revokeC_go (B n0:Nat) (w:World) (sp tb pb b2 b3:Nat) (L:PL) (S:Sto) (q:Rq) (h:StoAt B w sp tb pb L S) (hb:Bx n0 w sp b2 b3 q) :
  Calls Tryz.prog 175 #[.pointer (some ⟨b2,0,none⟩),.pointer (some ⟨b3,0,none⟩)] w (cyEnd B n0 w sp tb pb L (S.carry q .revoke)):=by
 have HSG:=hide (sg_all h hb)
 have HB23:=hide hb
 have HS:=hide h
 clear h hb
 go_enter Tryz.func175,Tryz.ntmps175
 go_wp2_with fail
 have HK2:=hide (show Kept w.heap.size w w.drew from (Kept.refl _ _).draws 1)
 have HSG3:=hide (fun w3 (hc3:Chg (fun k=>k=tb) w.drew w3)=>sg_set ((uh HS).kept (uh HK2)) (uh HSG w.drew (uh HK2)) hc3 ⟨_,(uh HK2).block _ (Array.getElem?_eq_some_iff.1 (uh HB23).s).1 |>.trans (uh HB23).s⟩ ⟨_,(uh HK2).block _ (uh HB23).q.lt |>.trans (uh HB23).q⟩)
 refine wp_region_held_drew (S:=SG sp tb b2 b3 q) (by kernel_rfl) (uh HSG w.drew (uh HK2)) (fun hHeld=>?_)
 refine tkG 0 (some 2) (.load 76 (.tmp 0)) 76 none (.pointer (some ⟨sp,0,none⟩)) (by kernel_rfl) (fun _ _ _ h=>h) (Or.inl ⟨by kernel_rfl,fun W hW=>by simp [execOp,go_sem,hW.1]⟩) hHeld ?_
 simp only [zz0,zz1,zz2]
 refine tkL 2 [(1,some 3,.pointer (some ⟨sp,0,none⟩)),(2,some 4,.pointer (some ⟨sp,1,none⟩))] (by kernel_rfl) (fun _ _ _ _ _ h=>h) (fun _ _=>by kernel_rfl) hHeld ?_
 simp only [zz0,zz1,zz2,zz4,zz5]
 refine tkG 3 (some 5) (.load 165 (.tmp 4)) 165 none (.map (some tb)) (by kernel_rfl) (fun _ _ _ h=>h) (Or.inl ⟨by kernel_rfl,fun W hW=>by simp [execOp,go_sem,hW.2.1]⟩) hHeld ?_
 simp only [zz0,zz1,zz2]
 refine tkP 4 (some 6) (.pointer (some ⟨b3,6,none⟩)) (by kernel_rfl) (fun _ _ _ h=>h) (fun _ _=>by kernel_rfl) hHeld ?_
 simp only [zz0,zz1,zz2]
 refine tkG 5 (some 7) (.load 9 (.tmp 6)) 9 none (.string q.name) (by kernel_rfl) (fun _ _ _ h=>h) (Or.inl ⟨by kernel_rfl,fun W hW=>by simp [execOp,go_sem,hW.2.2.1]⟩) hHeld ?_
 simp only [zz0,zz1,zz2]
 refine rd1 6 none (.call { callee:=.builtin .delete,args:=#[.tmp 5,.tmp 7],argTypes:=#[165,9] }) 0 (by kernel_rfl) (fun K hK=>?_)
 refine wp_del kkStr und165 (.tmp 5) (.tmp 7) rfl ((uh HS).kept (uh HK2)).toks q.name ?_ ?_ ?_
 ·kernel_rfl
 ·kernel_rfl
 intro w3 hm3 hc3 hz3
 have HF:=hide (And.intro hm3 hc3)
 have hsg3:SG sp tb b2 b3 q w3:=uh HSG3 w3 hc3
 clear hm3 hc3
 show K _ w3
 refine hK.out _ _ (hsg3) (fun hHeld6=>?_)
 clear hK K
 try simp only [zz3]
 refine wpAnyH_done (by kernel_rfl) ?_ _
 go_wp2_with fail
 refine end0 rfl rfl ?_
 have hf:=uh HF
 refine cy_toks (T:=delM q.name S.toks) (uh HS) (uh HK2) ?_ hf.2
 rw [delM_map Tok.enc]
 exact hf.1
end Go.Proofs.YtlbacbcenejngaaGreatDoor
namespace Go.Proofs.YtlbacbcenejngaaGreatDoor
open Go.RowKit Go.MapKept
theorem PL.set_locs (L:PL) (i:Nat) (e:Loc Pth) (n:ByteArray):PL.locs (L.set i (n,e))=L.locs.set i e:=by simp [PL.locs,List.map_set]
theorem PL.set_ptrs {L:PL} {i:Nat} (hi:i<L.length) {e:Loc Pth} (he:e.p=L[i].2.p):PL.ptrs (L.set i (L[i].1,e))=L.ptrs:=by
 unfold PL.ptrs
 rw [List.map_set,he]
 apply List.ext_getElem?
 intro j
 rw [List.getElem?_set]
 by_cases h:i=j
 ·subst h;simp [hi]
 ·simp [h]
theorem PL.set_vals {L:PL} {i:Nat} (hi:i<L.length) {e:Loc Pth} (hb:∀ j (hj:j<i),L[j].1≠L[i].1):PL.vals (L.set i (L[i].1,e))=putM L[i].1 e.x L.vals:=by
 unfold PL.vals
 rw [List.map_set]
 refine (putM_at (j:=i) (p:=(L[i].1,L[i].2.x)) ?_ rfl fun j hj q hq=>?_).symm
 ·rw [List.getElem?_map,List.getElem?_eq_getElem hi];rfl
 ·rw [List.getElem?_map,List.getElem?_eq_getElem (by omega)] at hq
  cases hq
  exact hb j hj
theorem StoAt.upd {B:Nat} {w w':World} {sp tb pb:Nat} {L:PL} {S:Sto} (h:StoAt B w sp tb pb L S) {i:Nat} (hi:i<L.length) (hb:∀ j (hj:j<i),L[j].1≠L[i].1) {v':Value} {x':Pth} (hP:PP B x' w' L[i].2.p v') (hu:Upd L[i].2.p L[i].2.v v' w w') :
  StoAt B w' sp tb pb (L.set i (L[i].1,⟨L[i].2.p,v',x'⟩)) { S with paths:=putM L[i].1 x' S.paths }:=by
 have hl:i<L.locs.length:=by simpa [PL.locs] using hi
 have hli:L.locs[i]=L[i].2:=by simp [PL.locs]
 have hpi:=h.fam.each _ (List.getElem_mem hl)
 have hP0:PP B L[i].2.x w L[i].2.p L[i].2.v:=by rw [hli] at hpi;exact hpi
 have hty:=(wayP B).ty hP0
 have hne:∀ k,(∃ es c,w.heap[k]?=some (.map es c))∨TyAt w k 168→k<w.heap.size→w'.heap[k]?=w.heap[k]?:=fun k hk hlt=>by
  refine hu.block k hlt (fun e=>?_) fun e=>?_
  ·subst e
   rcases hk with ⟨es,c,hh⟩ | hk
   ·obtain ⟨cs,hc⟩:=hty;rw [hc] at hh;cases hh
   ·exact hty.ne hk (by decide) rfl
  ·have hr:=((wayP B).row hP0 e).1
   rcases hk with ⟨es,c,hh⟩ | hk
   ·obtain ⟨cs,hc⟩:=hr;rw [hc] at hh;cases hh
   ·exact hr.ne hk (by decide) rfl
 refine ⟨(hne sp (.inr h.ty0) h.ty0.lt).trans h.at',h.toks.stay (hne tb (.inl (by obtain ⟨es,c,hh,_⟩:=h.toks;exact ⟨es,c,hh⟩)) h.toks.lt),?_,?_,?_,h.ge,h.ne⟩
 ·rw [PL.set_ptrs hi (e:=⟨L[i].2.p,v',x'⟩) rfl]
  exact h.paths.stay (hne pb (.inl (by obtain ⟨es,c,hh,_⟩:=h.paths;exact ⟨es,c,hh⟩)) h.paths.lt)
 ·rw [PL.set_vals hi hb,← h.vals]
 ·rw [PL.set_locs]
  have:=h.fam.upd (wayP B) hl (v':=v') (x':=x') (by rw [hli];exact hP) (by rw [hli];exact hu)
  rw [hli] at this
  exact this
theorem Sft.set {sp tb pb n0:Nat} {L:PL} {i:Nat} (hi:i<L.length) {v':Value} {x':Pth} {m:ByteArray} (hv:∀ k,v'.ownBlock=some k→L[i].2.v.ownBlock=some k∨n0≤k) {k:Nat} (h:Sft sp tb pb (L.set i (m,⟨L[i].2.p,v',x'⟩)) k):Sft sp tb pb L k∨n0≤k:=by
 rcases h with h | h | h | ⟨e,he,hk⟩
 ·exact .inl (.inl h)
 ·exact .inl (.inr (.inl h))
 ·exact .inl (.inr (.inr (.inl h)))
 ·rw [PL.set_locs] at he
  have hm:L[i].2∈L.locs:=List.mem_map.2 ⟨L[i],List.getElem_mem hi,rfl⟩
  rcases List.mem_or_eq_of_mem_set he with he | rfl
  ·exact .inl (.inr (.inr (.inr ⟨e,he,hk⟩)))
  ·rcases hk with hk | hk
   ·exact .inl (.inr (.inr (.inr ⟨L[i].2,hm,.inl hk⟩)))
   ·rcases hv k hk with hk | hk
    ·exact .inl (.inr (.inr (.inr ⟨L[i].2,hm,.inr hk⟩)))
    ·exact .inr hk
def SD (sp pb b2 b3 pp:Nat) (q:Rq) (W:World):Prop:=W.cell? ⟨b2,0,none⟩=some (.pointer (some ⟨sp,0,none⟩))∧W.cell? ⟨sp,2,none⟩=some (.map (some pb))∧W.cell? ⟨b3,2,none⟩=some (.string q.path)∧(Instr.lookup 166 (.map (some pb)) (.string q.path) false).run Tryz.prog W=.ok (.pointer (some ⟨pp,0,none⟩)) W
theorem sd_all {B n0:Nat} {w:World} {sp tb pb b2 b3 pp:Nat} {L:PL} {S:Sto} {q:Rq} (h:StoAt B w sp tb pb L S) (hb:Bx n0 w sp b2 b3 q) (hl:lk q.path L.ptrs=some (.pointer (some ⟨pp,0,none⟩))) (W:World) (hk:∀ k,k<w.heap.size→(TyAt w k 76∨TyAt w k 84∨TyAt w k 168∨∃ es c,w.heap[k]?=some (.map es c))→W.heap[k]?=w.heap[k]?):SD sp pb b2 b3 pp q W:=by
 have h2:=(hk _ (Array.getElem?_eq_some_iff.1 hb.s).1 (.inl ⟨_,hb.s⟩)).trans hb.s
 have h3:RqAt W b3 q:=(hk _ hb.q.lt (.inr (.inl ⟨_,hb.q⟩))).trans hb.q
 have hs:=(hk _ h.ty0.lt (.inr (.inr (.inl h.ty0)))).trans h.at'
 have hm:MapAt .string skey W pb L.ptrs:=h.paths.stay (hk _ h.paths.lt (.inr (.inr (.inr (by obtain ⟨es,c,hh,_⟩:=h.paths;exact ⟨es,c,hh⟩)))))
 exact ⟨by rw [cell_of_row _ _ _ _ _ _ h2];rfl,by rw [cell_of_row _ _ _ _ _ _ hs];rfl,by rw [h3.c 2];rfl,run_look kkStr und166 hm q.path hl false⟩
theorem wp_store_cell233 {w:World} {o:Oper} {a:Act} {K:Act→World→Prop} {Q:Exit→Act→World→Prop} (x y:Operand) (ho:o.op=.store 233 x y) (p:Addr) (hx:a.eval x=.pointer (some p)) (z:Option Addr) (n c:Nat) (hy:a.eval y=.slice z n c) (u:Value) (hc:w.cell? p=some u) (hf:w.frozen? p=false) (h:K (a.put o.dst undef) (w.setCell p (.slice z n c))):o.wp Tryz.prog a w K Q:=by
 have hu:=Tryz.underlying233
 unfold Oper.wp execOp
 simp only [ho,hx,hy]
 go_simp
 exact h
theorem upd_cell {w:World} {p j:Nat} {v:Value} (u:Value) {v':Value} (hv:v'=v∨v'=.slice none 0 0):Upd p v v' w (w.setCell ⟨p,j,none⟩ u) :=
 ⟨rfl,rfl,by simp,fun k _ hp _=>heap_setCell_other _ _ _ _ hp,fun k hk=>by
  rcases hv with h | h
  ·subst h;exact .inl hk
  ·subst h;cases hk⟩
set_option maxRecDepth 100000 in
set_option maxHeartbeats 1000000 in
theorem dropC_go (B n0:Nat) (w:World) (sp tb pb b2 b3:Nat) (L:PL) (S:Sto) (q:Rq) (h:StoAt B w sp tb pb L S) (hb:Bx n0 w sp b2 b3 q) (hp:(S.versOf q.path).length≠0) :
  Calls Tryz.prog 170 #[.pointer (some ⟨b2,0,none⟩),.pointer (some ⟨b3,0,none⟩)] w (cyEnd B n0 w sp tb pb L (S.carry q .drop)):=by
 rcases PL.find (L:=L) (n:=q.path) with ⟨h1,h2⟩ | ⟨i,hi,hn,hbf,h1,h2⟩
 ·exact absurd (by rw [Sto.versOf,h.vals,h2];rfl) hp
 have hmem:L[i].2∈L.locs:=List.mem_map.2 ⟨L[i],List.getElem_mem hi,rfl⟩
 have hP:=h.fam.each _ hmem
 have HSD:=hide (sd_all h hb h1)
 have hp1:w.drew.cell? ⟨L[i].2.p,1,none⟩=some L[i].2.v:=by show w.cell? _=_;rw [cell_of_row _ _ _ _ _ _ hP.1];rfl
 have hpf:w.drew.frozen? ⟨L[i].2.p,1,none⟩=false:=frozen_of_row w _ _ _ _ hP.1
 have HNEW:=hide (show PP B { L[i].2.x with vers:=[] } (w.drew.setCell ⟨L[i].2.p,1,none⟩ (.slice none 0 0)) L[i].2.p (.slice none 0 0) from
  ⟨by rw [heap_setCell_same w.drew _ _ _ _ _ hP.1];rfl,World.ownsRow_nil _ _ _ _,hP.2.2⟩)
 have HEND:=hide (show cyEnd B n0 w sp tb pb L (S.carry q .drop) (.returned (.tuple #[])) (w.drew.setCell ⟨L[i].2.p,1,none⟩ (.slice none 0 0)) from by
  have hd:StoAt B w.drew sp tb pb L S:=h.kept ((Kept.refl _ _).draws 1)
  have hup:Upd L[i].2.p L[i].2.v (.slice none 0 0) w.drew (w.drew.setCell ⟨L[i].2.p,1,none⟩ (.slice none 0 0)):=upd_cell _ (.inr rfl)
  have hs:=hd.upd hi (fun j hj=>by rw [hn];exact hbf j hj) (uh HNEW) hup
  refine ⟨rfl,L.set i (L[i].1,⟨L[i].2.p,.slice none 0 0,{ L[i].2.x with vers:=[] }⟩),?_,?_,fun k hk=>Sft.set hi (fun k hk=>by cases hk) hk,(stay_one (w:=w) (l:=[236]) ((wayP B).ty hP).knd (fun k hne _=>heap_setCell_other _ _ _ _ hne) (by decide)).mono (by decide)⟩
  ·rw [Sto.carry,h.vals,h2,hn]
   rw [h.vals,hn] at hs
   exact hs
  ·exact ⟨rfl,rfl,by simp,fun k hk hnk=>(heap_setCell_other _ _ _ _ fun e=>hnk (.inl (.inr (.inr (.inr ⟨_,hmem,.inl e.symm⟩)))))⟩)
 have HD2:=hide (show SD sp pb b2 b3 L[i].2.p q (w.drew.setCell ⟨L[i].2.p,1,none⟩ (.slice none 0 0)) from
  uh HSD _ fun k hk ht=>heap_setCell_other _ _ _ _ fun e=>by
   have hty:=(wayP B).ty hP
   subst e
   rcases ht with ht | ht | ht | ⟨es,c,hh⟩
   ·exact hty.ne ht (by decide) rfl
   ·exact hty.ne ht (by decide) rfl
   ·exact hty.ne ht (by decide) rfl
   ·obtain ⟨cs,hc⟩:=hty;rw [hc] at hh;cases hh)
 have HS:=hide h
 clear h hb h1 h2 hn hbf hP hp
 generalize L[i].2=e at *
 go_enter Tryz.func170,Tryz.ntmps170
 go_wp2_with fail
 refine wp_region_held_drew (S:=SD sp pb b2 b3 e.p q) (by kernel_rfl) (uh HSD w.drew (fun k hk _=>rfl)) (fun hHeld=>?_)
 refine tkG 0 (some 2) (.load 76 (.tmp 0)) 76 none (.pointer (some ⟨sp,0,none⟩)) (by kernel_rfl) (fun _ _ _ h=>h) (Or.inl ⟨by kernel_rfl,fun W hW=>by simp [execOp,go_sem,hW.1]⟩) hHeld ?_
 simp only [zz0,zz1,zz2]
 refine tkL 2 [(1,some 3,.pointer (some ⟨sp,0,none⟩)),(2,some 4,.pointer (some ⟨sp,2,none⟩))] (by kernel_rfl) (fun _ _ _ _ _ h=>h) (fun _ _=>by kernel_rfl) hHeld ?_
 simp only [zz0,zz1,zz2,zz4,zz5]
 refine tkG 3 (some 5) (.load 166 (.tmp 4)) 166 none (.map (some pb)) (by kernel_rfl) (fun _ _ _ h=>h) (Or.inl ⟨by kernel_rfl,fun W hW=>by simp [execOp,go_sem,hW.2.1]⟩) hHeld ?_
 simp only [zz0,zz1,zz2]
 refine tkP 4 (some 6) (.pointer (some ⟨b3,2,none⟩)) (by kernel_rfl) (fun _ _ _ h=>h) (fun _ _=>by kernel_rfl) hHeld ?_
 simp only [zz0,zz1,zz2]
 refine tkG 5 (some 7) (.load 9 (.tmp 6)) 9 none (.string q.path) (by kernel_rfl) (fun _ _ _ h=>h) (Or.inl ⟨by kernel_rfl,fun W hW=>by simp [execOp,go_sem,hW.2.2.1]⟩) hHeld ?_
 simp only [zz0,zz1,zz2]
 refine tkG 6 (some 8) (.lookup 166 (.tmp 5) (.tmp 7) false) 231 none (.pointer (some ⟨e.p,0,none⟩)) (by kernel_rfl) (fun _ _ _ h=>h) (Or.inl ⟨by kernel_rfl,fun W hW=>by simp [execOp,go_sem,hW.2.2.2]⟩) hHeld ?_
 simp only [zz0,zz1,zz2]
 refine tkL 2 [(7,some 9,.pointer (some ⟨e.p,0,none⟩)),(8,some 10,.pointer (some ⟨e.p,1,none⟩))] (by kernel_rfl) (fun _ _ _ _ _ h=>h) (fun _ _=>by kernel_rfl) hHeld ?_
 simp only [zz0,zz1,zz2,zz4,zz5]
 refine rd1 9 none (.store 233 (.tmp 10) (.const (.slice none 0 0))) 0 (by kernel_rfl) (fun K hK=>?_)
 refine wp_store_cell233 (.tmp 10) (.const (.slice none 0 0)) rfl ⟨e.p,1,none⟩ ?_ none 0 0 ?_ _ hp1 hpf ?_
 ·kernel_rfl
 ·kernel_rfl
 simp only [Act.put]
 refine hK.out _ _ (uh HD2) (fun hHeld9=>?_)
 clear hK K
 try simp only [zz3]
 refine wpAnyH_done (by kernel_rfl) ?_ _
 go_wp2_with fail
 refine end0 rfl rfl ?_
 exact uh HEND
end Go.Proofs.YtlbacbcenejngaaGreatDoor
namespace Go.Proofs.YtlbacbcenejngaaGreatDoor
open Go.RowKit Go.MapKept
def Sto.put (S:Sto) (q:Rq):Oc:=match lk q.path S.paths with
  | some p=>if 20<p.next then ⟨5,.empty,none⟩ else ⟨0,bs [UInt8.ofNat p.next],some .put⟩
  | none=>if 16≤S.paths.length then ⟨5,.empty,none⟩ else ⟨0,bs [1],some .put⟩
def SQ (w:World) (sp pb:Nat) (n:ByteArray) (P:Option Addr) (b0:Bool) (W:World):Prop:=W.cell? ⟨w.heap.size,0,none⟩=some (.pointer (some ⟨sp,0,none⟩))∧W.cell? ⟨sp,2,none⟩=some (.map (some pb))∧W.cell? ⟨w.heap.size+1,2,none⟩=some (.string n)∧(Instr.lookup 166 (.map (some pb)) (.string n) true).run Tryz.prog W=.ok (.tuple #[.pointer P,.bool b0]) W
theorem sq_cells (B:Nat) (w:World) (sp tb pb:Nat) (L:PL) (S:Sto) (q:Rq) (h:StoAt B w sp tb pb L S) (W:World) (hW:W3 w sp q W):W.cell? ⟨w.heap.size,0,none⟩=some (.pointer (some ⟨sp,0,none⟩))∧W.cell? ⟨sp,2,none⟩=some (.map (some pb))∧W.cell? ⟨w.heap.size+1,2,none⟩=some (.string q.path):=by
  refine ⟨by rw [cell_of_row _ _ _ _ _ _ hW.s];rfl,?_,by rw [hW.q.c 2];rfl⟩
  have hs:=h.kept hW.kept
  rw [cell_of_row _ _ _ _ _ _ hs.at'];rfl
theorem sq_yes (B:Nat) (w:World) (sp tb pb:Nat) (L:PL) (S:Sto) (q:Rq) (h:StoAt B w sp tb pb L S) {P:Option Addr} (hl:lk q.path L.ptrs=some (.pointer P)) (W:World) (hW:W3 w sp q W):SQ w sp pb q.path P true W:=by
  have hc:=sq_cells B w sp tb pb L S q h W hW
  exact ⟨hc.1,hc.2.1,hc.2.2,run_look kkStr und166 (h.kept hW.kept).paths q.path hl true⟩
theorem sq_no (B:Nat) (w:World) (sp tb pb:Nat) (L:PL) (S:Sto) (q:Rq) (h:StoAt B w sp tb pb L S) (hl:lk q.path L.ptrs=none) (W:World) (hW:W3 w sp q W):SQ w sp pb q.path none false W:=by
  have hc:=sq_cells B w sp tb pb L S q h W hW
  exact ⟨hc.1,hc.2.1,hc.2.2,run_look0 kkStr und166 (h.kept hW.kept).paths q.path (zero231 W) hl true⟩
structure W4 (w:World) (sp:Nat) (q:Rq) (P:Option Addr) (wi:World):Prop where
  w3:W3 w sp q wi
  p:wi.heap[w.heap.size+3]?=some (.cells #[.pointer P] 231 (0,0))
theorem W4.size {w wi:World} {sp:Nat} {q:Rq} {P:Option Addr} (h:W4 w sp q P wi):w.heap.size+4≤wi.heap.size:=(Array.getElem?_eq_some_iff.1 h.p).1
theorem W4.next {w wi w':World} {sp:Nat} {q:Rq} {P:Option Addr} (h:W4 w sp q P wi) (hk:Kept (w.heap.size+4) wi w'):W4 w sp q P w' :=
  ⟨h.w3.next (hk.mono (by omega)),(hk.block _ (by omega)).trans h.p⟩
theorem wp_store_cell231 {w:World} {o:Oper} {a:Act} {K:Act→World→Prop} {Q:Exit→Act→World→Prop} (x y:Operand) (ho:o.op=.store 231 x y) (p:Addr) (hx:a.eval x=.pointer (some p)) (z:Option Addr) (hy:a.eval y=.pointer z) (u:Value) (hc:w.cell? p=some u) (hf:w.frozen? p=false) (h:K (a.put o.dst undef) (w.setCell p (.pointer z))):o.wp Tryz.prog a w K Q:=by
  have hu:=Tryz.underlying231
  unfold Oper.wp execOp
  simp only [ho,hx,hy]
  go_simp
  exact h
theorem put_end {B:Nat} {w wi w6:World} {sp pp:Nat} {L:PL} {S:Sto} {q:Rq} {more:ByteArray} (h:W4 w sp q (some ⟨pp,0,none⟩) wi) (ho:S.put q=⟨0,more,some .put⟩)
    (hp:Put (w.heap.size+2) (ocells 0 more (.func (.func 168) #[] #[.pointer (some ⟨w.heap.size+3,0,none⟩),.pointer (some ⟨w.heap.size,0,none⟩),.pointer (some ⟨w.heap.size+1,0,none⟩)])) 86 wi w6)
    (hc:(∃ i,∃ hi:i<L.length,L[i].1=q.path∧(∀ j (hj:j<i),L[j].1≠q.path)∧pp=L[i].2.p)∨(lk q.path L.vals=none∧lk q.path L.ptrs=none∧PP B ⟨1,[]⟩ wi pp (.slice none 0 0)∧w.heap.size≤pp∧pp≠w.heap.size+2)) :
    ocEnd B w sp L q (S.put q) (.returned (.agg (ocells 0 more (.func (.func 168) #[] #[.pointer (some ⟨w.heap.size+3,0,none⟩),.pointer (some ⟨w.heap.size,0,none⟩),.pointer (some ⟨w.heap.size+1,0,none⟩)])))) w6:=by
  have hfin:=h.w3.put hp
  rw [ho]
  refine ⟨⟨_,rfl,w.heap.size,w.heap.size+1,w.heap.size+3,pp,rfl,hfin.1,(hp.other _ (by omega)).trans h.p,by omega,?_⟩,hfin.2⟩
  rcases hc with hc | ⟨h1,h2,h3,h4,h5⟩
  · exact .inl hc
  · refine .inr ⟨h1,h2,⟨(hp.other _ h5).trans h3.1,World.ownsRow_nil _ _ _ _,h3.2.2⟩,h4⟩
set_option maxRecDepth 100000 in
set_option maxHeartbeats 2000000 in
theorem put_go (B:Nat) (w:World) (sp tb pb:Nat) (L:PL) (S:Sto) (q:Rq) (h:StoAt B w sp tb pb L S) (hB:B≤w.heap.size) (hx:∀ p,lk q.path S.paths=some p→p.next≤21) :
    Calls Tryz.prog 140 #[.pointer (some ⟨sp,0,none⟩),.agg q.cells] w (ocEnd B w sp L q (S.put q)):=by
  have hmf:∀ (fn:Fn) (first cap:Array Value) (w:World),(Instr.makeFunc fn first cap).run Tryz.prog w=.ok (.func fn first cap) w:=fun _ _ _ _=>rfl
  have H0:=hide (w3_start w sp q)
  have hz1:(w3 w sp q).heap.size=w.heap.size+3:=by simp [w3]
  rcases PL.find (L:=L) (n:=q.path) with ⟨h1,h2⟩ | ⟨i,hi,hn,hbf,h1,h2⟩
  · have HSQ:=hide (sq_no B w sp tb pb L S q h h1)
    have HS:=hide h
    have HH:=hide (And.intro h1 h2)
    have HL2:=hide (show lk q.path S.paths=none by rw [h.vals];exact h2)
    have hplen:S.paths.length=L.ptrs.length:=by rw [h.vals];simp [PL.vals,PL.ptrs]
    clear h h1 h2
    go_enter Tryz.func140,Tryz.ntmps140
    go_wp2_with fail
    change Code.wp _ _ _ _ (w3 w sp q)
    generalize w3 w sp q=w1 at H0 hz1 ⊢
    refine wp_region_held_drew (S:=SQ w sp pb q.path none false) (by kernel_rfl) (uh HSQ w1.drew ⟨(uh H0).s,(uh H0).q,(uh H0).o,⟨(uh H0).kept.os,(uh H0).kept.output,(uh H0).kept.size,(uh H0).kept.block⟩⟩) (fun hHeld=>?_)
    refine tkG 0 (some 8) (.load 76 (.tmp 2)) 76 none (.pointer (some ⟨sp,0,none⟩)) (by kernel_rfl) (fun _ _ _ h=>h) (Or.inl ⟨by kernel_rfl,fun W hW=>by simp [execOp,go_sem,hW.1]⟩) hHeld ?_
    simp only [zz0,zz1,zz2]
    refine tkL 2 [(1,some 9,.pointer (some ⟨sp,0,none⟩)),(2,some 10,.pointer (some ⟨sp,2,none⟩))] (by kernel_rfl) (fun _ _ _ _ _ h=>h) (fun _ _=>by kernel_rfl) hHeld ?_
    simp only [zz0,zz1,zz2,zz4,zz5]
    refine tkG 3 (some 11) (.load 166 (.tmp 10)) 166 none (.map (some pb)) (by kernel_rfl) (fun _ _ _ h=>h) (Or.inl ⟨by kernel_rfl,fun W hW=>by simp [execOp,go_sem,hW.2.1]⟩) hHeld ?_
    simp only [zz0,zz1,zz2]
    refine tkP 4 (some 12) (.pointer (some ⟨w.heap.size+1,2,none⟩)) (by kernel_rfl) (fun _ _ _ h=>h) (fun _ _=>by kernel_rfl) hHeld ?_
    simp only [zz0,zz1,zz2]
    refine tkG 5 (some 13) (.load 9 (.tmp 12)) 9 none (.string q.path) (by kernel_rfl) (fun _ _ _ h=>h) (Or.inl ⟨by kernel_rfl,fun W hW=>by simp [execOp,go_sem,hW.2.2.1]⟩) hHeld ?_
    simp only [zz0,zz1,zz2]
    refine tkG 6 (some 14) (.lookup 166 (.tmp 11) (.tmp 13) true) 232 none (.tuple #[.pointer none,.bool false]) (by kernel_rfl) (fun _ _ _ h=>h) (Or.inl ⟨by kernel_rfl,fun W hW=>by simp [execOp,go_sem,hW.2.2.2]⟩) hHeld ?_
    simp only [zz0,zz1,zz2]
    refine tkL 3 [(7,some 7,.tuple #[.pointer none,.bool false]),(8,some 15,.pointer none),(9,some 16,.bool false)] (by kernel_rfl) (fun _ _ _ _ _ h=>h) (fun _ _=>by kernel_rfl) hHeld ?_
    simp only [zz0,zz1,zz2,zz4,zz5]
    refine rd1 10 (some 5) (.alloc 231) 0 (by kernel_rfl) (fun K hK=>?_)
    go_simp
    have HW2:=hide ((uh H0).drewAlloc (.cells #[.pointer none] 231))
    have hr2:(w1.alloc (.cells #[.pointer none] 231)).drew.heap[w.heap.size+3]?=some (.cells #[.pointer none] 231 (0,0)):=by rw [← hz1];exact heap_alloc_new w1 _
    try rw [hz1]
    generalize (w1.alloc (.cells #[.pointer none] 231)).drew=w2 at HW2 hr2 hK ⊢
    show K _ w2
    refine hK.out _ _ (uh HSQ w2 (uh HW2)) (fun hHeld10=>?_)
    clear hK K
    try simp only [zz0,zz1,zz2]
    refine rd1 11 none (.store 231 (.tmp 5) (.tmp 15)) 0 (by kernel_rfl) (fun K hK=>?_)
    refine wp_store_cell231 (.tmp 5) (.tmp 15) rfl ⟨w.heap.size+3,0,none⟩ ?_ (none) ?_ (.pointer none) (by rw [cell_of_row _ _ _ _ _ _ hr2];rfl) (frozen_of_row _ _ 0 _ _ hr2) ?_
    · kernel_rfl
    · kernel_rfl
    simp only [Act.put]
    have HW4:=hide (show W4 w sp q (none) (w2.setCell ⟨w.heap.size+3,0,none⟩ (.pointer none)) from ⟨(uh HW2).next ((Kept.refl _ _).setCell (p:=⟨w.heap.size+3,0,none⟩) (Nat.le_refl _) _),by rw [heap_setCell_same _ _ _ _ _ _ hr2];rfl⟩)
    generalize w2.setCell ⟨w.heap.size+3,0,none⟩ (.pointer none)=w4 at HW4 hK ⊢
    show K _ w4
    refine hK.out _ _ (uh HSQ w4 (uh HW4).w3) (fun hHeld11=>?_)
    clear hK K
    try simp only [zz3]
    refine tkP 12 (some 6) (.bool false) (by kernel_rfl) (fun _ _ _ h=>h) (fun _ _=>by kernel_rfl) hHeld11 ?_
    simp only [zz0,zz1,zz2]
    refine wpAnyH_done (by kernel_rfl) ?_ _
    clear hHeld hHeld10 hHeld11
    have hst:=(uh HS).kept (uh HW4).w3.kept
    have hc1:w4.cell? ⟨w.heap.size,0,none⟩=some (.pointer (some ⟨sp,0,none⟩)):=by rw [cell_of_row _ _ _ _ _ _ (uh HW4).w3.s];rfl
    have hc2:w4.cell? ⟨sp,2,none⟩=some (.map (some pb)):=by rw [cell_of_row _ _ _ _ _ _ hst.at'];rfl
    have hlen:(Builtin.len_ #[166] 3 #[.map (some pb)]).run Tryz.prog w4=.ok (.int .i64 (S.paths.length:Int)) w4:=by rw [hplen];exact run_mlen (ty:=3) und166 hst.paths
    clear hst hplen
    by_cases h16:16≤S.paths.length
    · have h16I:(16:Int)≤(S.paths.length:Int):=by omega
      have HO:=hide (show S.put q=⟨5,.empty,none⟩ by rw [Sto.put,uh HL2];exact if_pos h16)
      have HWL:=HW4
      go_wp2_with fail
      refine (refused_go 5 w4).mono ?_
      rintro _ w5 ⟨rfl,hk5⟩
      have HW5:=hide ((uh HWL).next (hk5.mono (uh HWL).size))
      clear hk5
      go_wp2_with (refine wpList_store_put rfl 86 (.tmp 4) (.tmp 27) rfl (w.heap.size+2) (ocells 5 .empty .nilFunc) ?_ ?_ 86 (ocells 0 .empty .nilFunc) ?_ info86 rfl (oc_one _ _ rfl) ?_
                   · rfl
                   · rfl
                   · exact (uh HW5).w3.o
                   intro w6 hp6)
      have hfin:=(uh HW5).w3.put hp6
      exact oc_ret Tryz.results140 hp6.row (by rw [uh HO];exact ⟨⟨_,rfl,rfl⟩,hfin.2⟩)
    · have h16I:¬ (16:Int)≤(S.paths.length:Int):=by omega
      have HO:=hide (show S.put q=⟨0,bs [1],some .put⟩ by rw [Sto.put,uh HL2];exact if_neg h16)
      have hc4:w4.cell? ⟨w.heap.size+3,0,none⟩=some (.pointer none):=by rw [cell_of_row _ _ _ _ _ _ (uh HW4).p];rfl
      have hf4:=frozen_of_row _ _ 0 _ _ (uh HW4).p
      have hlt4:=(uh HW4).size
      have HW5:=hide (show W4 w sp q (some ⟨w4.heap.size,0,none⟩) ((w4.alloc (.cells #[.int .u8 1,.slice none 0 0] 235)).setCell ⟨w.heap.size+3,0,none⟩ (.pointer (some ⟨w4.heap.size,0,none⟩)))∧PP B ⟨1,[]⟩ ((w4.alloc (.cells #[.int .u8 1,.slice none 0 0] 235)).setCell ⟨w.heap.size+3,0,none⟩ (.pointer (some ⟨w4.heap.size,0,none⟩))) w4.heap.size (.slice none 0 0) from by
        have ha:=(uh HW4).next ((Kept.refl _ w4).alloc hlt4 (.cells #[.int .u8 1,.slice none 0 0] 235))
        refine ⟨⟨ha.w3.next ((Kept.refl _ _).setCell (p:=⟨w.heap.size+3,0,none⟩) (Nat.le_refl _) _),by rw [heap_setCell_same _ _ _ _ _ _ ha.p];rfl⟩,?_,World.ownsRow_nil _ _ _ _,by have:=(uh HW4).w3.kept.size;omega⟩
        rw [heap_setCell_other _ _ _ _ (by simp;omega)]
        exact heap_alloc_new _ _)
      have hA:=(uh HW4).next ((Kept.refl _ w4).alloc hlt4 (.cells #[.int .u8 1,.slice none 0 0] 235))
      have hcA:(w4.alloc (.cells #[.int .u8 1,.slice none 0 0] 235)).cell? ⟨w.heap.size+3,0,none⟩=some (.pointer none):=by rw [cell_of_row _ _ _ _ _ _ hA.p];rfl
      have hfA:=frozen_of_row _ _ 0 _ _ hA.p
      clear hA
      have hc5:((w4.alloc (.cells #[.int .u8 1,.slice none 0 0] 235)).setCell ⟨w.heap.size+3,0,none⟩ (.pointer (some ⟨w4.heap.size,0,none⟩))).cell? ⟨w.heap.size+3,0,none⟩=some (.pointer (some ⟨w4.heap.size,0,none⟩)):=by rw [cell_of_row _ _ _ _ _ _ (uh HW5).1.p];rfl
      have hc6:((w4.alloc (.cells #[.int .u8 1,.slice none 0 0] 235)).setCell ⟨w.heap.size+3,0,none⟩ (.pointer (some ⟨w4.heap.size,0,none⟩))).cell? ⟨w4.heap.size,0,none⟩=some (.int .u8 1):=by rw [cell_of_row _ _ _ _ _ _ (uh HW5).2.1];rfl
      go_wp2_with fail
      refine (packByte_go' 1 1 rfl _).mono ?_
      rintro _ w7 ⟨rfl,hb7⟩
      have HW7:=hide (show W4 w sp q (some ⟨w4.heap.size,0,none⟩) w7∧PP B ⟨1,[]⟩ w7 w4.heap.size (.slice none 0 0) from ⟨(uh HW5).1.next ((Kept.of hb7).mono (uh HW5).1.size),(hb7.block _ ((wayP B).ty (uh HW5).2).lt).trans (uh HW5).2.1,World.ownsRow_nil _ _ _ _,(uh HW5).2.2.2⟩)
      clear hb7 hc5 hc6
      go_wp2_with (refine wpList_store_put rfl 86 (.tmp 4) (.tmp 44) rfl (w.heap.size+2) (ocells 0 (bs [1]) (.func (.func 168) #[] #[.pointer (some ⟨w.heap.size+3,0,none⟩),.pointer (some ⟨w.heap.size,0,none⟩),.pointer (some ⟨w.heap.size+1,0,none⟩)])) ?_ ?_ 86 (ocells 0 .empty .nilFunc) ?_ info86 rfl (oc_one _ _ rfl) ?_
                   · rfl
                   · rfl
                   · exact (uh HW7).1.w3.o
                   intro w6 hp6)
      exact oc_ret Tryz.results140 hp6.row (put_end (uh HW7).1 (uh HO) hp6 (.inr ⟨(uh HH).2,(uh HH).1,(uh HW7).2,by have:=(uh HW4).w3.kept.size;omega,by omega⟩))
  · have HSQ:=hide (sq_yes B w sp tb pb L S q h h1)
    have hmem:L[i].2∈L.locs:=List.mem_map.2 ⟨L[i],List.getElem_mem hi,rfl⟩
    have HP:=hide (h.fam.each _ hmem)
    have hnx:=hx L[i].2.x (by rw [h.vals];exact h2)
    have HL2:=hide (show lk q.path S.paths=some L[i].2.x by rw [h.vals];exact h2)
    have HC:=hide (show ∃ i',∃ hi':i'<L.length,L[i'].1=q.path∧(∀ j (hj:j<i'),L[j].1≠q.path)∧L[i].2.p=L[i'].2.p from ⟨i,hi,hn,hbf,rfl⟩)
    clear h h1 h2 hn hbf hx hmem
    generalize L[i].2=e at *
    go_enter Tryz.func140,Tryz.ntmps140
    go_wp2_with fail
    change Code.wp _ _ _ _ (w3 w sp q)
    generalize w3 w sp q=w1 at H0 hz1 ⊢
    refine wp_region_held_drew (S:=SQ w sp pb q.path (some ⟨e.p,0,none⟩) true) (by kernel_rfl) (uh HSQ w1.drew ⟨(uh H0).s,(uh H0).q,(uh H0).o,⟨(uh H0).kept.os,(uh H0).kept.output,(uh H0).kept.size,(uh H0).kept.block⟩⟩) (fun hHeld=>?_)
    refine tkG 0 (some 8) (.load 76 (.tmp 2)) 76 none (.pointer (some ⟨sp,0,none⟩)) (by kernel_rfl) (fun _ _ _ h=>h) (Or.inl ⟨by kernel_rfl,fun W hW=>by simp [execOp,go_sem,hW.1]⟩) hHeld ?_
    simp only [zz0,zz1,zz2]
    refine tkL 2 [(1,some 9,.pointer (some ⟨sp,0,none⟩)),(2,some 10,.pointer (some ⟨sp,2,none⟩))] (by kernel_rfl) (fun _ _ _ _ _ h=>h) (fun _ _=>by kernel_rfl) hHeld ?_
    simp only [zz0,zz1,zz2,zz4,zz5]
    refine tkG 3 (some 11) (.load 166 (.tmp 10)) 166 none (.map (some pb)) (by kernel_rfl) (fun _ _ _ h=>h) (Or.inl ⟨by kernel_rfl,fun W hW=>by simp [execOp,go_sem,hW.2.1]⟩) hHeld ?_
    simp only [zz0,zz1,zz2]
    refine tkP 4 (some 12) (.pointer (some ⟨w.heap.size+1,2,none⟩)) (by kernel_rfl) (fun _ _ _ h=>h) (fun _ _=>by kernel_rfl) hHeld ?_
    simp only [zz0,zz1,zz2]
    refine tkG 5 (some 13) (.load 9 (.tmp 12)) 9 none (.string q.path) (by kernel_rfl) (fun _ _ _ h=>h) (Or.inl ⟨by kernel_rfl,fun W hW=>by simp [execOp,go_sem,hW.2.2.1]⟩) hHeld ?_
    simp only [zz0,zz1,zz2]
    refine tkG 6 (some 14) (.lookup 166 (.tmp 11) (.tmp 13) true) 232 none (.tuple #[.pointer (some ⟨e.p,0,none⟩),.bool true]) (by kernel_rfl) (fun _ _ _ h=>h) (Or.inl ⟨by kernel_rfl,fun W hW=>by simp [execOp,go_sem,hW.2.2.2]⟩) hHeld ?_
    simp only [zz0,zz1,zz2]
    refine tkL 3 [(7,some 7,.tuple #[.pointer (some ⟨e.p,0,none⟩),.bool true]),(8,some 15,.pointer (some ⟨e.p,0,none⟩)),(9,some 16,.bool true)] (by kernel_rfl) (fun _ _ _ _ _ h=>h) (fun _ _=>by kernel_rfl) hHeld ?_
    simp only [zz0,zz1,zz2,zz4,zz5]
    refine rd1 10 (some 5) (.alloc 231) 0 (by kernel_rfl) (fun K hK=>?_)
    go_simp
    have HW2:=hide ((uh H0).drewAlloc (.cells #[.pointer none] 231))
    have hr2:(w1.alloc (.cells #[.pointer none] 231)).drew.heap[w.heap.size+3]?=some (.cells #[.pointer none] 231 (0,0)):=by rw [← hz1];exact heap_alloc_new w1 _
    try rw [hz1]
    generalize (w1.alloc (.cells #[.pointer none] 231)).drew=w2 at HW2 hr2 hK ⊢
    show K _ w2
    refine hK.out _ _ (uh HSQ w2 (uh HW2)) (fun hHeld10=>?_)
    clear hK K
    try simp only [zz0,zz1,zz2]
    refine rd1 11 none (.store 231 (.tmp 5) (.tmp 15)) 0 (by kernel_rfl) (fun K hK=>?_)
    refine wp_store_cell231 (.tmp 5) (.tmp 15) rfl ⟨w.heap.size+3,0,none⟩ ?_ ((some ⟨e.p,0,none⟩)) ?_ (.pointer none) (by rw [cell_of_row _ _ _ _ _ _ hr2];rfl) (frozen_of_row _ _ 0 _ _ hr2) ?_
    · kernel_rfl
    · kernel_rfl
    simp only [Act.put]
    have HW4:=hide (show W4 w sp q ((some ⟨e.p,0,none⟩)) (w2.setCell ⟨w.heap.size+3,0,none⟩ (.pointer (some ⟨e.p,0,none⟩))) from ⟨(uh HW2).next ((Kept.refl _ _).setCell (p:=⟨w.heap.size+3,0,none⟩) (Nat.le_refl _) _),by rw [heap_setCell_same _ _ _ _ _ _ hr2];rfl⟩)
    generalize w2.setCell ⟨w.heap.size+3,0,none⟩ (.pointer (some ⟨e.p,0,none⟩))=w4 at HW4 hK ⊢
    show K _ w4
    refine hK.out _ _ (uh HSQ w4 (uh HW4).w3) (fun hHeld11=>?_)
    clear hK K
    try simp only [zz3]
    refine tkP 12 (some 6) (.bool true) (by kernel_rfl) (fun _ _ _ h=>h) (fun _ _=>by kernel_rfl) hHeld11 ?_
    simp only [zz0,zz1,zz2]
    refine wpAnyH_done (by kernel_rfl) ?_ _
    clear hHeld hHeld10 hHeld11
    have hP4:PP B e.x w4 e.p e.v:=(wayP B).stay (uh HP) ((uh HW4).w3.kept.block _ ((wayP B).ty (uh HP)).lt) fun k hk=>(uh HW4).w3.kept.block _ ((wayP B).row (uh HP) hk).1.lt
    have hc4:w4.cell? ⟨w.heap.size+3,0,none⟩=some (.pointer (some ⟨e.p,0,none⟩)):=by rw [cell_of_row _ _ _ _ _ _ (uh HW4).p];rfl
    have hc5:w4.cell? ⟨e.p,0,none⟩=some (.int .u8 (e.x.next:Int)):=by rw [cell_of_row _ _ _ _ _ _ hP4.1];rfl
    clear hP4
    by_cases h20:20<e.x.next
    · have h20I:(20:Int)<(e.x.next:Int):=by omega
      have HO:=hide (show S.put q=⟨5,.empty,none⟩ by rw [Sto.put,uh HL2];exact if_pos h20)
      have HWL:=HW4
      go_wp2_with fail
      refine (refused_go 5 w4).mono ?_
      rintro _ w5 ⟨rfl,hk5⟩
      have HW5:=hide ((uh HWL).next (hk5.mono (uh HWL).size))
      clear hk5
      go_wp2_with (refine wpList_store_put rfl 86 (.tmp 4) (.tmp 37) rfl (w.heap.size+2) (ocells 5 .empty .nilFunc) ?_ ?_ 86 (ocells 0 .empty .nilFunc) ?_ info86 rfl (oc_one _ _ rfl) ?_
                   · rfl
                   · rfl
                   · exact (uh HW5).w3.o
                   intro w6 hp6)
      have hfin:=(uh HW5).w3.put hp6
      exact oc_ret Tryz.results140 hp6.row (by rw [uh HO];exact ⟨⟨_,rfl,rfl⟩,hfin.2⟩)
    · have h20I:¬ (20:Int)<(e.x.next:Int):=by omega
      have HO:=hide (show S.put q=⟨0,bs [UInt8.ofNat e.x.next],some .put⟩ by rw [Sto.put,uh HL2];exact if_neg h20)
      have HPB:=hide (packByte_go' (UInt8.ofNat e.x.next) (e.x.next:Int) (by rw [← byte_nat];omega))
      go_wp2_with fail
      refine (uh HPB w4).mono ?_
      rintro _ w7 ⟨rfl,hb7⟩
      have HW7:=hide ((uh HW4).next ((Kept.of hb7).mono (uh HW4).size))
      clear hb7 hc4 hc5
      go_wp2_with (refine wpList_store_put rfl 86 (.tmp 4) (.tmp 44) rfl (w.heap.size+2) (ocells 0 (bs [UInt8.ofNat e.x.next]) (.func (.func 168) #[] #[.pointer (some ⟨w.heap.size+3,0,none⟩),.pointer (some ⟨w.heap.size,0,none⟩),.pointer (some ⟨w.heap.size+1,0,none⟩)])) ?_ ?_ 86 (ocells 0 .empty .nilFunc) ?_ info86 rfl (oc_one _ _ rfl) ?_
                   · rfl
                   · rfl
                   · exact (uh HW7).w3.o
                   intro w6 hp6)
      exact oc_ret Tryz.results140 hp6.row (put_end (uh HW7) (uh HO) hp6 (.inl (uh HC)))
end Go.Proofs.YtlbacbcenejngaaGreatDoor
namespace Go.Proofs.YtlbacbcenejngaaGreatDoor
open Go.RowKit
theorem leN_succ (x n:Nat):leN x (n+1)=UInt8.ofNat x::leN (x / 256) n:=by
 unfold leN
 rw [List.range_succ_eq_map,List.map_cons,List.map_map]
 simp only [Nat.pow_zero,Nat.div_one,List.cons.injEq,true_and]
 refine List.map_congr_left fun i _=>?_
 simp only [Function.comp]
 rw [Nat.pow_succ',Nat.div_div_eq_div_mul]
theorem numOf_leN:∀ (n x:Nat),x<256^n→numOf (leN x n)=x
 | 0,x,h=>by simp at h;subst h;rfl
 | n+1,x,h=>by
  rw [leN_succ,numOf,numOf_leN n (x / 256) (by rw [Nat.pow_succ] at h;omega)]
  have:(UInt8.ofNat x).toNat=x % 256:=by simp
  omega
def frOf (e:ByteArray):ByteArray:=bs (leN e.size 2)++e
def logOf:List ByteArray→ByteArray
 | []=>.empty
 | e::l=>frOf e++logOf l
theorem ba_assoc (a b c:ByteArray):a++b++c=a++(b++c):=by
 apply Go.WideShapes.bytes_inj
 simp
theorem ba_empty (a:ByteArray):a++.empty=a:=by
 apply Go.WideShapes.bytes_inj
 simp
theorem logOf_app:∀ l m:List ByteArray,logOf (l++m)=logOf l++logOf m
 | [],m=>by rw [List.nil_append,logOf,empty_app]
 | e::l,m=>by rw [List.cons_append,logOf,logOf,logOf_app l m,ba_assoc]
theorem frOf_list (e:ByteArray):(frOf e).data.toList=leN e.size 2++e.data.toList:=by simp [frOf,bs]
theorem frOf_size (e:ByteArray):(frOf e).size=2+e.size:=by rw [← size_toList,frOf_list,List.length_append,leN_length,size_toList]
theorem fits_small {e:ByteArray} (h:fitsB e=true):135≤e.size∧e.size≤390:=by
 simp only [fitsB,Bool.and_eq_true,decide_eq_true_eq] at h
 have:=(e.data.toList.getD 69 0).toNat_lt
 omega
theorem fr_more {e r:ByteArray} (h:fitsB e=true):frSize (frOf e++r)=e.size∧frEnt (frOf e++r)=e∧frOk (frOf e++r)=true∧lf (frOf e++r) (2+e.size)=r∧(frOf e++r).size=2+e.size+r.size:=by
 have hs:=fits_small h
 have hl:(frOf e++r).data.toList=leN e.size 2++(e.data.toList++r.data.toList):=by simp [frOf,bs]
 have h1:frSize (frOf e++r)=e.size:=by
  rw [frSize,hl,List.take_left' (leN_length _ _),numOf_leN 2 _ (by omega)]
 have hz:(frOf e++r).size=2+e.size+r.size:=by rw [ByteArray.size_append,frOf_size]
 have h2:frEnt (frOf e++r)=e:=by
  rw [frEnt,h1]
  apply Go.WideShapes.bytes_inj
  rw [ext_list,hl,List.drop_left' (leN_length _ _),List.take_left' (by rw [size_toList];omega)]
 refine ⟨h1,h2,?_,?_,hz⟩
 ·rw [frOk,h1,h2,h,hz]
  simp
  omega
 ·apply Go.WideShapes.bytes_inj
  rw [lf,ext_list,hl,hz,← List.append_assoc,List.drop_left' (by rw [List.length_append,leN_length,size_toList]),List.take_of_length_le (by rw [size_toList];omega)]
def chn:List ByteArray→List ByteArray→Prop
 | _,[]=>True
 | E,e::l=>(bnd e E=true∧fitsB e=true)∧chn (E++[e]) l
theorem chn_app:∀ (l m E:List ByteArray),chn E (l++m)↔chn E l∧chn (E++l) m
 | [],m,E=>by simp [chn]
 | e::l,m,E=>by simp only [List.cons_append,chn,chn_app l m,and_assoc,List.append_assoc,List.nil_append]
end Go.Proofs.YtlbacbcenejngaaGreatDoor
namespace Go.Proofs.YtlbacbcenejngaaGreatDoor
open Go.RowKit
def entL (last:List UInt8) (cnt:Nat) (op:UInt8) (who:List UInt8) (path:ByteArray) (rest:List UInt8) (err:Nat) (more:List UInt8):List UInt8 :=
 last++(leN cnt 4++(op::(who++(UInt8.ofNat path.size::(path.data.toList++(rest++(UInt8.ofNat err::more)))))))
structure Lens (last who rest more:List UInt8):Prop where
 l:last.length=32
 w:who.length=32
 r:rest.length=32
 m:more.length=32
theorem getD_at {a b:List UInt8} {c:UInt8} {n:Nat} (h:a.length=n):(a++c::b).getD n 0=c:=by subst h;simp
theorem entL_facts {last who rest more:List UInt8} (h:Lens last who rest more) (cnt:Nat) (op:UInt8) {path:ByteArray} (_hp:path.size≤255) (err:Nat) :
  (entL last cnt op who path rest err more).length=135+path.size∧(entL last cnt op who path rest err more).getD 36 0=op∧(entL last cnt op who path rest err more).getD 69 0=UInt8.ofNat path.size ∧
  ((entL last cnt op who path rest err more).drop 70).take path.size=path.data.toList∧(entL last cnt op who path rest err more).getD (102+path.size) 0=UInt8.ofNat err ∧
  (entL last cnt op who path rest err more).take 32=last∧((entL last cnt op who path rest err more).drop 32).take 4=leN cnt 4:=by
 have hpl:=size_toList path
 refine ⟨?_,?_,?_,?_,?_,?_,?_⟩
 ·simp only [entL,List.length_append,List.length_cons,leN_length,h.l,h.w,h.r,h.m,hpl];omega
 ·rw [entL,← List.append_assoc]
  exact getD_at (by rw [List.length_append,leN_length,h.l])
 ·rw [entL,← List.append_assoc,List.append_cons,← List.append_assoc]
  exact getD_at (by simp only [List.length_append,leN_length,h.l,h.w,List.length_singleton])
 ·rw [entL,← List.append_assoc,List.append_cons,← List.append_assoc,List.append_cons,List.drop_left' (by simp only [List.length_append,leN_length,h.l,h.w,List.length_singleton]),List.take_left' hpl]
 ·rw [entL,← List.append_assoc,List.append_cons,← List.append_assoc,List.append_cons,← List.append_assoc,← List.append_assoc]
  exact getD_at (by simp only [List.length_append,leN_length,h.l,h.w,h.r,List.length_singleton,hpl];omega)
 ·rw [entL,List.take_left' h.l]
 ·rw [entL,List.drop_left' h.l,List.take_left' (leN_length _ _)]
def opFit (op:UInt8) (path:ByteArray):Prop:=path.size≤16∧fitOp (op.toNat:Int) path.size (nameB path.data.toList 16 true ((op.toNat:Int)==76))=true
theorem ent_fits {last who rest more:List UInt8} (h:Lens last who rest more) (cnt:Nat) {op:UInt8} {path:ByteArray} (hp:opFit op path) {err:Nat} (he:err≤7):fitsB (bs (entL last cnt op who path rest err more))=true:=by
 obtain ⟨h1,h2,h3,h4,h5,_,_⟩:=entL_facts h cnt op (path:=path) (by have:=hp.1;omega) err
 have hu:(UInt8.ofNat path.size).toNat=path.size:=by have:=hp.1;simp;omega
 have hx:(bs (entL last cnt op who path rest err more)).extract 70 (70+path.size)=path:=by
  apply Go.WideShapes.bytes_inj
  rw [ext_list,bs_list,show 70+path.size-70=path.size by omega,h4]
 have hue:(UInt8.ofNat err).toNat=err:=by simp;omega
 unfold fitsB Sha.at8
 rw [bs_list,bs_size,h1,h2,h3,hu,hx,h5,hue,hp.2]
 simp
 omega
theorem ent_bnd {last who rest more:List UInt8} (h:Lens last who rest more) {E:List ByteArray} (hE:E.length<4294967296) (hl:last=hashAt E E.length) {op:UInt8} {path:ByteArray} (hp:opFit op path) (err:Nat):bnd (bs (entL last E.length op who path rest err more)) E=true:=by
 obtain ⟨_,_,_,_,_,h6,h7⟩:=entL_facts h E.length op (path:=path) (by have:=hp.1;omega) err
 unfold bnd
 rw [bs_list,h6,← hl,ext_list,bs_list,h7,numOf_leN 4 _ (by omega)]
 simp
def firstFr (s:ByteArray):ByteArray:=if frOk s then s.extract 0 (2+frSize s) else s
theorem firstFr_size {s:ByteArray} (h:s.size≠0):0<(firstFr s).size∧(firstFr s).size≤s.size:=by
 unfold firstFr
 split
 ·rw [ByteArray.size_extract]
  rename_i hf
  have:=frOk_two hf
  omega
 ·omega
def giveGo (k:Snk) (s:ByteArray):Snk × Bool :=
 if _h:s.size=0 then (k,true)
 else if k.took then giveGo (k.append (firstFr s)) (lf s (firstFr s).size) else (k.append (firstFr s),false)
termination_by s.size
decreasing_by rw [lf_size];have:=firstFr_size _h;omega
def giveF (k:Snk) (log:ByteArray):Snk × Bool:=giveGo k (lf log k.data.size)
def mostOf:List Snk→ByteArray→ByteArray
 | [],m=>m
 | k::l,m=>mostOf l (if m.size<k.data.size then k.data else m)
def layF (l:List Snk) (log:ByteArray):List Snk × Bool:=(l.map fun k=>(giveF k log).1,l.any fun k=>(giveF k log).2)
def rightOf (op:UInt8):UInt8:=match op.toNat with | 80=>2 | 71=>1 | 68=>2 | 76=>1 | 84=>4 | 82=>4 | _=>0
def inPath (op:UInt8):Bool:=match op.toNat with | 80=>true | 71=>true | 68=>true | 76=>true | _=>false
theorem firstFr_log {e:ByteArray} {l:List ByteArray} (h:fitsB e=true):firstFr (logOf (e::l))=frOf e:=by
 obtain ⟨h1,h2,h3,h4,h5⟩:=fr_more (r:=logOf l) h
 rw [firstFr,logOf,if_pos h3,h1]
 apply Go.WideShapes.bytes_inj
 rw [ext_list,show (frOf e++logOf l).data.toList=(frOf e).data.toList++(logOf l).data.toList by simp,List.drop_zero,List.take_left' (by rw [size_toList,frOf_size];omega)]
theorem giveGo_log:∀ (l:List ByteArray) (k:Snk),(∀ e∈l,fitsB e=true)→∃ m,m≤l.length∧(giveGo k (logOf l)).1.data=k.data++logOf (l.take m)∧((giveGo k (logOf l)).2=true↔m=l.length)∧(giveGo k (logOf l)).1.fails=k.fails∧k.app≤(giveGo k (logOf l)).1.app∧(giveGo k (logOf l)).1.app≤k.app+l.length
 | [],k,_=>by
  refine ⟨0,Nat.le_refl _,?_,?_,?_,?_,?_⟩ <;> rw [logOf,giveGo,dif_pos (by rfl)] <;> simp [logOf]
 | e::l,k,h=>by
  have he:=h e (.head _)
  have hs:=fits_small he
  obtain ⟨h1,h2,h3,h4,h5⟩:=fr_more (r:=logOf l) he
  have hz:(logOf (e::l)).size≠0:=by rw [logOf,h5];omega
  have hff:=firstFr_log (l:=l) he
  have hlf:lf (logOf (e::l)) (frOf e).size=logOf l:=by rw [frOf_size,logOf];exact h4
  by_cases ht:k.took=true
  ·obtain ⟨m,m1,m2,m3,m4,m5,m6⟩:=giveGo_log l (k.append (frOf e)) fun x hx=>h x (.tail _ hx)
   have hk:k.append (frOf e)={ k with app:=k.app+1,data:=k.data++frOf e }:=if_pos ht
   have hg:giveGo k (logOf (e::l))=giveGo (k.append (frOf e)) (logOf l):=by rw [giveGo,dif_neg hz,if_pos ht,hff,hlf]
   rw [hg]
   rw [hk] at m2 m3 m4 m5 m6 ⊢
   refine ⟨m+1,by simp;omega,?_,?_,m4,?_,?_⟩
   ·rw [m2,List.take_succ_cons,logOf,ba_assoc]
   ·rw [m3];simp
   ·have:k.app+1≤_:=m5;omega
   ·rw [List.length_cons];have:_≤k.app+1+l.length:=m6;omega
  ·have hk:k.append (frOf e)={ k with app:=k.app+1 }:=if_neg ht
   have hg:giveGo k (logOf (e::l))=({ k with app:=k.app+1 },false):=by rw [giveGo,dif_neg hz,if_neg ht,hff,hk]
   rw [hg]
   refine ⟨0,by omega,?_,by simp,rfl,?_,?_⟩
   ·simp [logOf]
   ·show k.app≤k.app+1;omega
   ·show k.app+1≤_;simp;omega
end Go.Proofs.YtlbacbcenejngaaGreatDoor
namespace Go.Proofs.YtlbacbcenejngaaGreatDoor
open Go.RowKit
def Sto.names (S:Sto):List ByteArray:=((S.paths.map fun p=>p.1.data.toList).mergeSort fun x y=>decide (x≤y)).map bs
def Sto.found (S:Sto) (p:ByteArray):List ByteArray:=S.names.filter fun n=>hasPre n p&&decide (0<(S.versOf n).length)
def Sto.list (S:Sto) (q:Rq):Oc:=⟨0,bs (UInt8.ofNat (S.found q.path).length::(S.found q.path).flatMap fun n=>(txt n).data.toList),none⟩
def Sto.deed (S:Sto) (q:Rq):Oc:=match q.op.toNat with | 80=>S.put q | 71=>S.get q | 68=>S.drop q | 76=>S.list q | 84=>S.grant q | _=>S.revoke q
def Sto.ask (S:Sto) (q:Rq):Oc:=match lk q.token S.toks with
 | none=>⟨2,.empty,none⟩
 | some t=>if t.rights &&& rightOf q.op=0∨(inPath q.op=true∧hasPre q.path t.pre=false) then ⟨3,.empty,none⟩ else S.deed q
def Sto.then (S:Sto) (q:Rq) (o:Oc):Sto:=match o.ch with | some c=>S.carry q c | none=>S
structure Vlt where
 key:ByteArray
 dsk:Dsk
 snks:List Snk
 cnt:Nat
 last:List UInt8
 sto:Sto
def Vlt.ask (V:Vlt) (s:ByteArray):Rq × Oc:=match readQ s with | some q=>(q,V.sto.ask q) | none=>(rq0,⟨1,.empty,none⟩)
def Vlt.entry (V:Vlt) (s:ByteArray):ByteArray :=
 bs (entL V.last V.cnt (V.ask s).1.op (Sha.tag V.key.data.toList (if (V.ask s).1.op=0 then s else (V.ask s).1.token).data.toList) (V.ask s).1.path (Sha.tag V.key.data.toList (V.ask s).1.rest.data.toList) (V.ask s).2.err (Sha.tag V.key.data.toList (V.ask s).2.more.data.toList))
def jour:ByteArray:=bs [106,111,117,114,110,97,108]
def Vlt.wrote (V:Vlt) (s:ByteArray):Dsk:=if (V.ask s).2.ch.isSome then (V.dsk.append jour (bs (Sha.digest (V.entry s).data.toList)++txt s)).sync jour else V.dsk
def Vlt.lay (V:Vlt) (s:ByteArray):List Snk × Bool:=layF V.snks (mostOf V.snks .empty++frOf (V.entry s))
def Vlt.next (V:Vlt) (s:ByteArray):Vlt :=
 if (V.lay s).2 then ⟨V.key,V.wrote s,(V.lay s).1,V.cnt+1,Sha.digest (V.entry s).data.toList,V.sto.then (V.ask s).1 (V.ask s).2⟩ else ⟨V.key,V.wrote s,(V.lay s).1,V.cnt,V.last,V.sto⟩
def Vlt.tell (V:Vlt) (s:ByteArray):ByteArray:=if (V.lay s).2 then bs (UInt8.ofNat (V.ask s).2.err::(V.ask s).2.more.data.toList) else bs [6]
structure Sto.Ok (S:Sto):Prop where
 toks:S.toks.length≤8
 tok:∀ t∈S.toks,t.2.pre.size≤255
 paths:S.paths.length≤16
 pth:∀ p∈S.paths,p.1.size≤16∧p.2.next≤21∧p.2.vers.length<p.2.next∧∀ v∈p.2.vers,v.2.size≤40
 one:(S.toks.map (·.1)).Nodup
 onp:(S.paths.map (·.1)).Nodup
structure Rq.Ok (q:Rq):Prop where
 fit:opFit q.op q.path
 op:q.op≠0
 value:q.value.size≤40
 pre:q.pre.size≤255
 name:q.name.size≤255
 token:q.token.size≤255
theorem isPa_16 {x:ByteArray} (h:isPa x=true):x.size≤16:=by
 simp only [isPa,nameB,Bool.and_eq_true,decide_eq_true_eq,size_toList] at h
 omega
theorem isPr_16 {x:ByteArray} (h:isPr x=true):x.size≤16:=by
 simp only [isPr,nameB,Bool.and_eq_true,decide_eq_true_eq,size_toList] at h
 omega
theorem fit_path {op:UInt8} {x:ByteArray} (h:isPa x=true) (ho:op.toNat=80∨op.toNat=71∨op.toNat=68):opFit op x:=by
 refine ⟨isPa_16 h,?_⟩
 rcases ho with ho | ho | ho <;> rw [ho] <;> simp [fitOp,pathI,opI] <;> exact h
theorem fit_pre {op:UInt8} {x:ByteArray} (h:isPr x=true) (ho:op.toNat=76):opFit op x:=by
 refine ⟨isPr_16 h,?_⟩
 rw [ho]
 simp [fitOp,pathI,opI]
 exact h
theorem fit_none {op:UInt8} (ho:op.toNat=84∨op.toNat=82∨op.toNat=0):opFit op .empty:=by
 refine ⟨by decide,?_⟩
 rcases ho with ho | ho | ho <;> rw [ho] <;> simp [fitOp,pathI,opI]
theorem rdPath_ok {q q':Rq} {s s':ByteArray} (h:rdPath q s=some (q',s')):∃ x y,q'={ q with path:=x,rest:=y }∧isPa x=true:=by
 unfold rdPath at h
 split at h
 ·split at h
  ·rename_i hx;cases h;exact ⟨_,_,rfl,hx⟩
  ·cases h
 ·cases h
theorem rdNamed_ok {q q':Rq} {s s':ByteArray} (h:rdNamed q s=some (q',s')):∃ x y,q'={ q with rest:=y,name:=x }∧x.size≤255:=by
 unfold rdNamed at h
 split at h
 ·rename_i hx;cases h;exact ⟨_,_,rfl,(takeN_small hx).1⟩
 ·cases h
theorem takeP_pr {s x y:ByteArray} (h:takeP s=some (x,y)):isPr x=true:=by
 unfold takeP at h
 split at h
 ·split at h
  ·rename_i hx;cases h;exact hx
  ·cases h
 ·cases h
theorem rdOf_ok {op:UInt8} {tk s s':ByteArray} {q:Rq} (ht:tk.size≤255) (h:rdOf op (rqOT op tk) s=some (q,s')):q.Ok:=by
 have hz:∀ n,n≠0→op.toNat=n→op≠0:=fun n hn ho e=>hn (by rw [← ho,e];rfl)
 have e0:(ByteArray.empty).size≤255:=by decide
 have e4:(ByteArray.empty).size≤40:=by decide
 unfold rdOf at h
 split at h
 ·rename_i ho
  unfold rdPut at h
  split at h
  ·rename_i q1 s1 h1
   obtain ⟨x,y,rfl,hx⟩:=rdPath_ok h1
   split at h
   ·split at h
    ·rename_i hv
     cases h
     exact ⟨fit_path hx (.inl ho),hz _ (by decide) ho,hv,e0,e0,ht⟩
    ·cases h
   ·cases h
  ·cases h
 ·rename_i ho
  unfold rdGet at h
  split at h
  ·rename_i q1 s1 h1
   obtain ⟨x,y,rfl,hx⟩:=rdPath_ok h1
   split at h
   ·cases h
    exact ⟨fit_path hx (.inr (.inl ho)),hz _ (by decide) ho,e4,e0,e0,ht⟩
   ·cases h
  ·cases h
 ·rename_i ho
  obtain ⟨x,y,rfl,hx⟩:=rdPath_ok h
  exact ⟨fit_path hx (.inr (.inr ho)),hz _ (by decide) ho,e4,e0,e0,ht⟩
 ·rename_i ho
  unfold rdList at h
  split at h
  ·rename_i x y hx
   cases h
   exact ⟨fit_pre (takeP_pr hx) ho,hz _ (by decide) ho,e4,e0,e0,ht⟩
  ·cases h
 ·rename_i ho
  unfold rdGrant at h
  split at h
  ·rename_i q1 s1 h1
   obtain ⟨x,y,rfl,hx⟩:=rdNamed_ok h1
   split at h
   ·rename_i p s2 h2
    split at h
    ·split at h
     ·cases h
      exact ⟨fit_none (.inl ho),hz _ (by decide) ho,e4,(takeP_small h2).1,hx,ht⟩
     ·cases h
    ·cases h
   ·cases h
  ·cases h
 ·rename_i ho
  obtain ⟨x,y,rfl,hx⟩:=rdNamed_ok h
  exact ⟨fit_none (.inr (.inl ho)),hz _ (by decide) ho,e4,e0,hx,ht⟩
 ·cases h
theorem readQ_ok {s:ByteArray} {q:Rq} (h:readQ s=some q):q.Ok:=by
 unfold readQ at h
 split at h
 ·split at h
  ·rename_i h2
   split at h
   ·rename_i h3
    split at h
    ·cases h
     exact rdOf_ok (takeN_small h2).1 h3
    ·cases h
   ·cases h
  ·cases h
 ·cases h
end Go.Proofs.YtlbacbcenejngaaGreatDoor
namespace Go.Proofs.YtlbacbcenejngaaGreatDoor
open Go.RowKit
theorem conv_range {w:World} {g o:Nat} {L:List UInt8} (h:w.rangeAt g o (blist L)) (hl:L.length=32):(convert 58 9 (.slice (some ⟨g,o,none⟩) 32 32)).run Tryz.prog w=.ok (.string (bs L)) w:=by
 rw [run_convert_bytes_arg w 58 5 Tryz.underlying58 Tryz.underlying5 g o 32 32 (L.map fun c=>(c.toNat:Int)) (by simpa using hl) (fun i hi=>?_) 9 Tryz.underlying9,strOf]
 ·rfl
 ·have:=h i (.int .u8 ((L.getD i 0).toNat:Int)) (by rw [List.getElem?_map,List.getD_eq_getElem?_getD,List.getElem?_eq_getElem (by omega)];rfl)
  rw [this]
  simp [List.getD_eq_getElem?_getD,List.getElem?_eq_getElem (show i<L.length by omega)]
theorem conv_u64 (n:Nat) (h:n<18446744073709551616) (w:World):(convert 3 177 (.int .i64 (n:Int))).run Tryz.prog w=.ok (.int .u64 (n:Int)) w:=by
 have h3:=Tryz.underlying3
 have h7:=Tryz.underlying177
 have hw:IntKind.u64.wrap (n:Int)=(n:Int):=by simp [IntKind.wrap,IntKind.bits,IntKind.signed];omega
 simp [convert,go_sem,hw]
theorem conv_err (n:Nat) (_h:n<256) (w:World):(convert 43 5 (.int .i64 (n:Int))).run Tryz.prog w=.ok (.int .u8 ((UInt8.ofNat n).toNat:Int)) w:=by
 have h3:=Tryz.underlying43
 have h7:=Tryz.underlying5
 have hw:IntKind.u8.wrap (n:Int)=((UInt8.ofNat n).toNat:Int):=by simp [IntKind.wrap,IntKind.bits,IntKind.signed]
 simp [convert,go_sem,hw]
def ecells (op:UInt8) (who:List UInt8) (path:ByteArray) (rest:List UInt8) (err:Nat) (more:List UInt8):Array Value:=(Value.int .u8 (op.toNat:Int)::(blist who++(Value.string path::(blist rest++(Value.int .i64 (err:Int)::blist more))))).toArray
theorem app_get {α:Type} {a b:List α} {n j:Nat} (h:a.length=n):(a++b)[n+j]?=b[j]?:=by subst h;rw [List.getElem?_append_right (by omega)];congr 1;omega
theorem ec_facts {last who rest more:List UInt8} (h:Lens last who rest more) (op:UInt8) (path:ByteArray) (err:Nat) :
  (ecells op who path rest err more).size=99∧(ecells op who path rest err more)[0]?=some (.int .u8 (op.toNat:Int))∧(∀ j v,(blist who)[j]?=some v→(ecells op who path rest err more)[1+j]?=some v)∧(ecells op who path rest err more)[33]?=some (.string path) ∧
  (∀ j v,(blist rest)[j]?=some v→(ecells op who path rest err more)[34+j]?=some v)∧(ecells op who path rest err more)[66]?=some (.int .i64 (err:Int))∧(∀ j v,(blist more)[j]?=some v→(ecells op who path rest err more)[67+j]?=some v):=by
 have l1:(Value.int .u8 (op.toNat:Int)::blist who).length=33:=by simp [h.w]
 have l2:(Value.int .u8 (op.toNat:Int)::blist who++[Value.string path]).length=34:=by simp [h.w]
 have l3:(Value.int .u8 (op.toNat:Int)::blist who++[Value.string path]++blist rest).length=66:=by simp [h.w,h.r]
 have l4:(Value.int .u8 (op.toNat:Int)::blist who++[Value.string path]++blist rest++[Value.int .i64 (err:Int)]).length=67:=by simp [h.w,h.r]
 have e1:(ecells op who path rest err more).toList=(Value.int .u8 (op.toNat:Int)::blist who)++(Value.string path::(blist rest++(Value.int .i64 (err:Int)::blist more))):=rfl
 have e2:(ecells op who path rest err more).toList=(Value.int .u8 (op.toNat:Int)::blist who++[Value.string path])++(blist rest++(Value.int .i64 (err:Int)::blist more)):=by rw [e1];simp
 have e3:(ecells op who path rest err more).toList=(Value.int .u8 (op.toNat:Int)::blist who++[Value.string path]++blist rest)++(Value.int .i64 (err:Int)::blist more):=by rw [e1];simp
 have e4:(ecells op who path rest err more).toList=(Value.int .u8 (op.toNat:Int)::blist who++[Value.string path]++blist rest++[Value.int .i64 (err:Int)])++blist more:=by rw [e1];simp
 refine ⟨?_,rfl,fun j v hv=>?_,?_,fun j v hv=>?_,?_,fun j v hv=>?_⟩
 ·rw [← Array.length_toList,e4,List.length_append,l4];simp [h.m]
 ·rw [← Array.getElem?_toList,show (ecells op who path rest err more).toList=Value.int .u8 (op.toNat:Int)::(blist who++(Value.string path::(blist rest++(Value.int .i64 (err:Int)::blist more)))) from rfl,Nat.add_comm,List.getElem?_cons_succ,List.getElem?_append_left (List.getElem?_eq_some_iff.1 hv).1];exact hv
 ·rw [← Array.getElem?_toList,e1];have:=app_get (b:=Value.string path::(blist rest++(Value.int .i64 (err:Int)::blist more))) (j:=0) l1;exact this
 ·rw [← Array.getElem?_toList,e2,app_get l2,List.getElem?_append_left (List.getElem?_eq_some_iff.1 hv).1];exact hv
 ·rw [← Array.getElem?_toList,e3];have:=app_get (b:=Value.int .i64 (err:Int)::blist more) (j:=0) l3;exact this
 ·rw [← Array.getElem?_toList,e4,app_get l4];exact hv
structure SE (b:Nat) (last who rest more:List UInt8) (op:UInt8) (path:ByteArray) (err:Nat) (W:World):Prop where
 l:(convert 58 9 (.slice (some ⟨b+1,0,none⟩) 32 32)).run Tryz.prog W=.ok (.string (bs last)) W
 o:W.cell? ⟨b,0,none⟩=some (.int .u8 (op.toNat:Int))
 w:(convert 58 9 (.slice (some ⟨b,1,none⟩) 32 32)).run Tryz.prog W=.ok (.string (bs who)) W
 p:W.cell? ⟨b,33,none⟩=some (.string path)
 r:(convert 58 9 (.slice (some ⟨b,34,none⟩) 32 32)).run Tryz.prog W=.ok (.string (bs rest)) W
 e:W.cell? ⟨b,66,none⟩=some (.int .i64 (err:Int))
 m:(convert 58 9 (.slice (some ⟨b,67,none⟩) 32 32)).run Tryz.prog W=.ok (.string (bs more)) W
theorem se_of {b:Nat} {last who rest more:List UInt8} (h:Lens last who rest more) {op:UInt8} {path:ByteArray} {err:Nat} {W:World} (h1:W.heap[b]?=some (.cells (ecells op who path rest err more) 93 (0,0))) (h2:W.heap[b+1]?=some (.cells (brow last) 29 (0,0))):SE b last who rest more op path err W:=by
 obtain ⟨_,f1,f2,f3,f4,f5,f6⟩:=ec_facts h op path err
 refine ⟨conv_range (fun j v hv=>?_) h.l,by rw [cell_of_row _ _ _ _ _ _ h1];exact f1,conv_range (fun j v hv=>?_) h.w,by rw [cell_of_row _ _ _ _ _ _ h1];exact f3,conv_range (fun j v hv=>?_) h.r,by rw [cell_of_row _ _ _ _ _ _ h1];exact f5,conv_range (fun j v hv=>?_) h.m⟩
 ·rw [Nat.zero_add,cell_of_row _ _ _ _ _ _ h2];simpa [brow] using hv
 ·rw [cell_of_row _ _ _ _ _ _ h1];exact f2 j v hv
 ·rw [cell_of_row _ _ _ _ _ _ h1];exact f4 j v hv
 ·rw [cell_of_row _ _ _ _ _ _ h1];exact f6 j v hv
set_option maxRecDepth 100000 in
set_option maxHeartbeats 2000000 in
theorem entBytes_go (last who rest more:List UInt8) (h:Lens last who rest more) (op:UInt8) (path:ByteArray) (hp:path.size≤1000) (err:Nat) (he:err<256) (cnt:Nat) (hc:cnt<9223372036854775808) (w:World) :
  Calls Tryz.prog 73 #[.agg (ecells op who path rest err more),.agg (brow last),.int .i64 (cnt:Int)] w fun e w'=>e=.returned (.string (bs (entL last cnt op who path rest err more)))∧Kept w.heap.size w w':=by
 obtain ⟨w1,hw1⟩:∃ w1,w1=(w.alloc (.cells (ecells op who path rest err more) 93)).alloc (.cells (brow last) 29):=⟨_,rfl⟩
 have hb1:w1.heap[w.heap.size]?=some (.cells (ecells op who path rest err more) 93 (0,0)):=by rw [hw1,Below.heap_alloc _ _ _ (by simp)];exact heap_alloc_new _ _
 have hb2:w1.heap[w.heap.size+1]?=some (.cells (brow last) 29 (0,0)):=by rw [hw1];have:=heap_alloc_new (w.alloc (.cells (ecells op who path rest err more) 93)) (.cells (brow last) 29);simpa only [World.size_alloc] using this
 have hz1:w1.heap.size=w.heap.size+2:=by rw [hw1];simp
 have HK1:=hide (show Kept w.heap.size w w1 by rw [hw1];exact ((Kept.refl _ _).alloc (Nat.le_refl _) _).alloc (by simp) _)
 have HSE:=hide (show ∀ W,Kept w1.heap.size w1 W→SE w.heap.size last who rest more op path err W from fun W hW=>se_of h ((hW.block _ (by omega)).trans hb1) ((hW.block _ (by omega)).trans hb2))
 have s1:(bs last).size=32:=by rw [bs_size,h.l]
 have s2:(bs (leN cnt 4)).size=4:=by rw [bs_size,leN_length]
 have s3:(bs [op]).size=1:=bs_size _
 have s4:(bs who).size=32:=by rw [bs_size,h.w]
 have s5:=txt_size path
 have s6:(bs rest).size=32:=by rw [bs_size,h.r]
 have s7:(bs [UInt8.ofNat err]).size=1:=bs_size _
 have s8:(bs more).size=32:=by rw [bs_size,h.m]
 have sap:∀ a b:ByteArray,(a++b).size=a.size+b.size:=fun a b=>ByteArray.size_append
 have HX:=hide (show bs last++bs (leN cnt 4)++bs [op]++bs who++txt path++bs rest++bs [UInt8.ofNat err]++bs more=bs (entL last cnt op who path rest err more) by
  rw [txt,← bs_app,← bs_app,← bs_app,← bs_app,← bs_app,← bs_app,← bs_app]
  simp [entL])
 obtain ⟨X1,hX1⟩:∃ X,X=bs last++bs (leN cnt 4):=⟨_,rfl⟩
 obtain ⟨X2,hX2⟩:∃ X,X=X1++bs [op]:=⟨_,rfl⟩
 obtain ⟨X3,hX3⟩:∃ X,X=X2++bs who:=⟨_,rfl⟩
 obtain ⟨X4,hX4⟩:∃ X,X=X3++txt path:=⟨_,rfl⟩
 obtain ⟨X5,hX5⟩:∃ X,X=X4++bs rest:=⟨_,rfl⟩
 obtain ⟨X6,hX6⟩:∃ X,X=X5++bs [UInt8.ofNat err]:=⟨_,rfl⟩
 obtain ⟨X7,hX7⟩:∃ X,X=X6++bs more:=⟨_,rfl⟩
 rw [← hX1,← hX2,← hX3,← hX4,← hX5,← hX6,← hX7] at HX
 have z1:X1.size=36:=by rw [hX1,sap];omega
 have z2:X2.size=37:=by rw [hX2,sap];omega
 have z3:X3.size=69:=by rw [hX3,sap];omega
 have z4:X4.size≤2000:=by rw [hX4,sap];omega
 have z5:X5.size≤2040:=by rw [hX5,sap];omega
 have z6:X6.size≤2050:=by rw [hX6,sap];omega
 have n1:(9223372036854775807<(bs last).size+(bs (leN cnt 4)).size)=False:=eq_false (by omega)
 have n2:(9223372036854775807<X1.size+(bs [op]).size)=False:=eq_false (by omega)
 have n3:(9223372036854775807<X2.size+(bs who).size)=False:=eq_false (by omega)
 have n4:(9223372036854775807<X3.size+(txt path).size)=False:=eq_false (by omega)
 have n5:(9223372036854775807<X4.size+(bs rest).size)=False:=eq_false (by omega)
 have n6:(9223372036854775807<X5.size+(bs [UInt8.ofNat err]).size)=False:=eq_false (by omega)
 have n7:(9223372036854775807<X6.size+(bs more).size)=False:=eq_false (by omega)
 have hcv:∀ W:World,(convert 3 177 (.int .i64 (cnt:Int))).run Tryz.prog W=.ok (.int .u64 (cnt:Int)) W:=fun W=>conv_u64 cnt (by omega) W
 have hce:∀ W:World,(convert 43 5 (.int .i64 (err:Int))).run Tryz.prog W=.ok (.int .u8 ((UInt8.ofNat err).toNat:Int)) W:=fun W=>conv_err err he W
 have A1:=hX1.symm
 have A2:=hX2.symm
 have A3:=hX3.symm
 have A4:=hX4.symm
 have A5:=hX5.symm
 have A6:=hX6.symm
 have A7:=hX7.symm
 clear hX1 hX2 hX3 hX4 hX5 hX6 hX7 sap s1 s2 s3 s4 s5 s6 s7 s8 z1 z2 z3 z4 z5 z6 hb1 hb2 h
 go_enter Tryz.func73,Tryz.ntmps73
 go_wp2_with fail
 rw [← hw1]
 clear hw1
 refine wp_region_held_drew (S:=SE w.heap.size last who rest more op path err) (by kernel_rfl) (uh HSE w1.drew ((Kept.refl _ _).draws 1)) (fun hHeld=>?_)
 refine tkP 0 (some 7) (.slice (some ⟨w.heap.size+1,0,none⟩) 32 32) (by kernel_rfl) (fun _ _ _ h=>h) (fun _ _=>by kernel_rfl) hHeld ?_
 simp only [zz0,zz1,zz2]
 refine tkG 1 (some 8) (.convert 58 9 (.tmp 7)) 9 none (.string (bs last)) (by kernel_rfl) (fun _ _ _ h=>h) (Or.inl ⟨by kernel_rfl,fun W hW=>by simp [execOp,go_sem,hW.l]⟩) hHeld ?_
 simp only [zz0,zz1,zz2]
 refine tkP 2 (some 9) (.int .i64 (cnt:Int)) (by kernel_rfl) (fun _ _ _ h=>h) (fun _ _=>by kernel_rfl) hHeld ?_
 simp only [zz0,zz1,zz2]
 refine tkG 3 (some 10) (.convert 3 177 (.tmp 9)) 177 none (.int .u64 (cnt:Int)) (by kernel_rfl) (fun _ _ _ h=>h) (Or.inl ⟨by kernel_rfl,fun W hW=>by simp [execOp,go_sem,hcv]⟩) hHeld ?_
 simp only [zz0,zz1,zz2]
 refine tkP 6 (some 13) (.pointer (some ⟨w.heap.size,0,none⟩)) (by kernel_rfl) (fun _ _ _ h=>h) (fun _ _=>by kernel_rfl) hHeld ?_
 simp only [zz0,zz1,zz2]
 refine tkG 7 (some 14) (.load 5 (.tmp 13)) 5 none (.int .u8 (op.toNat:Int)) (by kernel_rfl) (fun _ _ _ h=>h) (Or.inl ⟨by kernel_rfl,fun W hW=>by simp [execOp,go_sem,hW.o]⟩) hHeld ?_
 simp only [zz0,zz1,zz2]
 refine tkL 2 [(10,some 17,.pointer (some ⟨w.heap.size,1,none⟩)),(11,some 18,.slice (some ⟨w.heap.size,1,none⟩) 32 32)] (by kernel_rfl) (fun _ _ _ _ _ h=>h) (fun _ _=>by kernel_rfl) hHeld ?_
 simp only [zz0,zz1,zz2,zz4,zz5]
 refine tkG 12 (some 19) (.convert 58 9 (.tmp 18)) 9 none (.string (bs who)) (by kernel_rfl) (fun _ _ _ h=>h) (Or.inl ⟨by kernel_rfl,fun W hW=>by simp [execOp,go_sem,hW.w]⟩) hHeld ?_
 simp only [zz0,zz1,zz2]
 refine tkP 14 (some 21) (.pointer (some ⟨w.heap.size,33,none⟩)) (by kernel_rfl) (fun _ _ _ h=>h) (fun _ _=>by kernel_rfl) hHeld ?_
 simp only [zz0,zz1,zz2]
 refine tkG 15 (some 22) (.load 9 (.tmp 21)) 9 none (.string path) (by kernel_rfl) (fun _ _ _ h=>h) (Or.inl ⟨by kernel_rfl,fun W hW=>by simp [execOp,go_sem,hW.p]⟩) hHeld ?_
 simp only [zz0,zz1,zz2]
 refine tkL 2 [(18,some 25,.pointer (some ⟨w.heap.size,34,none⟩)),(19,some 26,.slice (some ⟨w.heap.size,34,none⟩) 32 32)] (by kernel_rfl) (fun _ _ _ _ _ h=>h) (fun _ _=>by kernel_rfl) hHeld ?_
 simp only [zz0,zz1,zz2,zz4,zz5]
 refine tkG 20 (some 27) (.convert 58 9 (.tmp 26)) 9 none (.string (bs rest)) (by kernel_rfl) (fun _ _ _ h=>h) (Or.inl ⟨by kernel_rfl,fun W hW=>by simp [execOp,go_sem,hW.r]⟩) hHeld ?_
 simp only [zz0,zz1,zz2]
 refine tkP 22 (some 29) (.pointer (some ⟨w.heap.size,66,none⟩)) (by kernel_rfl) (fun _ _ _ h=>h) (fun _ _=>by kernel_rfl) hHeld ?_
 simp only [zz0,zz1,zz2]
 refine tkG 23 (some 30) (.load 43 (.tmp 29)) 43 none (.int .i64 (err:Int)) (by kernel_rfl) (fun _ _ _ h=>h) (Or.inl ⟨by kernel_rfl,fun W hW=>by simp [execOp,go_sem,hW.e]⟩) hHeld ?_
 simp only [zz0,zz1,zz2]
 refine tkG 24 (some 31) (.convert 43 5 (.tmp 30)) 5 none (.int .u8 ((UInt8.ofNat err).toNat:Int)) (by kernel_rfl) (fun _ _ _ h=>h) (Or.inl ⟨by kernel_rfl,fun W hW=>by simp [execOp,go_sem,hce]⟩) hHeld ?_
 simp only [zz0,zz1,zz2]
 refine tkL 2 [(27,some 34,.pointer (some ⟨w.heap.size,67,none⟩)),(28,some 35,.slice (some ⟨w.heap.size,67,none⟩) 32 32)] (by kernel_rfl) (fun _ _ _ _ _ h=>h) (fun _ _=>by kernel_rfl) hHeld ?_
 simp only [zz0,zz1,zz2,zz4,zz5]
 refine tkG 29 (some 36) (.convert 58 9 (.tmp 35)) 9 none (.string (bs more)) (by kernel_rfl) (fun _ _ _ h=>h) (Or.inl ⟨by kernel_rfl,fun W hW=>by simp [execOp,go_sem,hW.m]⟩) hHeld ?_
 simp only [zz0,zz1,zz2]
 refine rd1 4 (some 11) (.call { callee:=.value (.func 110),args:=#[.tmp 10,.const (.int .i64 4)],argTypes:=#[177,3] }) 9 (by kernel_rfl) (fun K hK=>?_)
 go_simp
 refine (packNumber_go cnt 4 _ (by decide) (by omega)).mono ?_
 rintro _ w2 ⟨rfl,hb2⟩
 have HK2:=hide (show Kept w1.heap.size w1 w2 from (show Kept w1.heap.size w1 w2 from ⟨(Kept.of hb2).os,(Kept.of hb2).output,(Kept.of hb2).size,(Kept.of hb2).block⟩))
 clear hb2
 show K _ w2
 refine hK.out _ _ (uh HSE w2 (uh HK2)) (fun hHeld4=>?_)
 clear hK K
 try simp only [zz0,zz1,zz2]
 refine tkG 5 (some 12) (.binOp .add 9 (.tmp 8) (.tmp 11) 9) 9 none (.string X1) (by kernel_rfl) (fun _ _ _ h=>h) (Or.inl ⟨by kernel_rfl,fun W hW=>by simp [execOp,go_sem,n1,A1]⟩) hHeld4 ?_
 simp only [zz0,zz1,zz2]
 refine rd1 8 (some 15) (.call { callee:=.value (.func 81),args:=#[.tmp 14],argTypes:=#[5] }) 9 (by kernel_rfl) (fun K hK=>?_)
 go_simp
 refine (packByte_go op w2).mono ?_
 rintro _ w3 ⟨rfl,hb3⟩
 have HK3:=hide (show Kept w1.heap.size w1 w3 from (uh HK2).trans ((Kept.of hb3).mono (uh HK2).size))
 clear hb3
 show K _ w3
 refine hK.out _ _ (uh HSE w3 (uh HK3)) (fun hHeld8=>?_)
 clear hK K
 try simp only [zz0,zz1,zz2]
 refine tkG 9 (some 16) (.binOp .add 9 (.tmp 12) (.tmp 15) 9) 9 none (.string X2) (by kernel_rfl) (fun _ _ _ h=>h) (Or.inl ⟨by kernel_rfl,fun W hW=>by simp [execOp,go_sem,n2,A2]⟩) hHeld8 ?_
 simp only [zz0,zz1,zz2]
 refine tkG 13 (some 20) (.binOp .add 9 (.tmp 16) (.tmp 19) 9) 9 none (.string X3) (by kernel_rfl) (fun _ _ _ h=>h) (Or.inl ⟨by kernel_rfl,fun W hW=>by simp [execOp,go_sem,n3,A3]⟩) hHeld8 ?_
 simp only [zz0,zz1,zz2]
 refine rd1 16 (some 23) (.call { callee:=.value (.func 76),args:=#[.tmp 22],argTypes:=#[9] }) 9 (by kernel_rfl) (fun K hK=>?_)
 go_simp
 refine (packText_go path w3 (by omega)).mono ?_
 rintro _ w4 ⟨rfl,hb4⟩
 have HK4:=hide (show Kept w1.heap.size w1 w4 from (uh HK3).trans ((Kept.of hb4).mono (uh HK3).size))
 clear hb4
 show K _ w4
 refine hK.out _ _ (uh HSE w4 (uh HK4)) (fun hHeld16=>?_)
 clear hK K
 try simp only [zz0,zz1,zz2]
 refine tkG 17 (some 24) (.binOp .add 9 (.tmp 20) (.tmp 23) 9) 9 none (.string X4) (by kernel_rfl) (fun _ _ _ h=>h) (Or.inl ⟨by kernel_rfl,fun W hW=>by simp [execOp,go_sem,n4,A4]⟩) hHeld16 ?_
 simp only [zz0,zz1,zz2]
 refine tkG 21 (some 28) (.binOp .add 9 (.tmp 24) (.tmp 27) 9) 9 none (.string X5) (by kernel_rfl) (fun _ _ _ h=>h) (Or.inl ⟨by kernel_rfl,fun W hW=>by simp [execOp,go_sem,n5,A5]⟩) hHeld16 ?_
 simp only [zz0,zz1,zz2]
 refine rd1 25 (some 32) (.call { callee:=.value (.func 81),args:=#[.tmp 31],argTypes:=#[5] }) 9 (by kernel_rfl) (fun K hK=>?_)
 go_simp
 refine (packByte_go (UInt8.ofNat err) w4).mono ?_
 rintro _ w5 ⟨rfl,hb5⟩
 have HK5:=hide (show Kept w1.heap.size w1 w5 from (uh HK4).trans ((Kept.of hb5).mono (uh HK4).size))
 clear hb5
 show K _ w5
 refine hK.out _ _ (uh HSE w5 (uh HK5)) (fun hHeld25=>?_)
 clear hK K
 try simp only [zz0,zz1,zz2]
 refine tkG 26 (some 33) (.binOp .add 9 (.tmp 28) (.tmp 32) 9) 9 none (.string X6) (by kernel_rfl) (fun _ _ _ h=>h) (Or.inl ⟨by kernel_rfl,fun W hW=>by simp [execOp,go_sem,n6,A6]⟩) hHeld25 ?_
 simp only [zz0,zz1,zz2]
 refine tkG 30 (some 37) (.binOp .add 9 (.tmp 33) (.tmp 36) 9) 9 none (.string X7) (by kernel_rfl) (fun _ _ _ h=>h) (Or.inl ⟨by kernel_rfl,fun W hW=>by simp [execOp,go_sem,n7,A7]⟩) hHeld25 ?_
 simp only [zz0,zz1,zz2]
 refine tkP 31 (some 6) (.string X7) (by kernel_rfl) (fun _ _ _ h=>h) (fun _ _=>by kernel_rfl) hHeld25 ?_
 simp only [zz0,zz1,zz2]
 refine wpAnyH_done (by kernel_rfl) ?_ _
 go_wp2_with fail
 go_ret
 exact ⟨by rw [← uh HX];rfl,(uh HK1).trans ((uh HK5).mono (uh HK1).size)⟩
set_option maxRecDepth 100000 in
theorem frame_go (e:ByteArray) (he:e.size≤140737488355000) (w:World):Calls Tryz.prog 79 #[.string e] w fun r w'=>r=.returned (.string (frOf e))∧Kept w.heap.size w w':=by
 have hcv:∀ W:World,(convert 3 177 (.int .i64 (e.size:Int))).run Tryz.prog W=.ok (.int .u64 (e.size:Int)) W:=fun W=>conv_u64 e.size (by omega) W
 have s2:(bs (leN e.size 2)).size=2:=by rw [bs_size,leN_length]
 have hnz:(9223372036854775807<(bs (leN e.size 2)).size+e.size)=False:=eq_false (by omega)
 have HF:=hide (show bs (leN e.size 2)++e=frOf e from rfl)
 go_enter Tryz.func79,Tryz.ntmps79
 go_wp2_with fail
 refine (packNumber_go e.size 2 _ (by decide) (by omega)).mono ?_
 rintro _ w2 ⟨rfl,hb⟩
 have HB:=hide (Kept.of hb)
 clear hb
 generalize bs (leN e.size 2)=P at *
 go_wp2_with fail
 go_ret
 exact ⟨by rw [← uh HF];rfl,uh HB⟩
set_option maxRecDepth 100000 in
set_option maxHeartbeats 1000000 in
theorem firstFr_go (s:ByteArray) (hs:s.size≤140737488355000) (w:World):Calls Tryz.prog 114 #[.string s] w fun r w'=>r=.returned (.string (firstFr s))∧Kept w.heap.size w w':=by
 by_cases hf:frOk s=true
 ·have h2:=frOk_two hf
  have HR:=hide (show firstFr s=s.extract 0 (2+frSize s) from if_pos hf)
  have hes:(frEnt s).size=frSize s:=by rw [frEnt,ByteArray.size_extract];omega
  have hk:=linkOf_size (D:=(frEnt s).data.toList.take 32) (by rw [List.length_take,size_toList,hes];have:=fitsB_size h2.2.2;omega) (numOf ((frEnt s).extract 32 36).data.toList)
  have h1:=linkOf_one ((frEnt s).data.toList.take 32) (numOf ((frEnt s).extract 32 36).data.toList)
  have hlt:=frSize_lt s
  go_enter Tryz.func114,Tryz.ntmps114
  go_wp2_with fail
  refine (readFrame_go s w (by omega)).mono ?_
  rintro _ w1 ⟨hy,_,hk1⟩
  obtain rfl:=hy hf
  have HK:=hide hk1
  clear hy hk1
  generalize linkOf ((frEnt s).data.toList.take 32) (numOf ((frEnt s).extract 32 36).data.toList)=lk1 at *
  generalize frEnt s=e at *
  generalize frSize s=n at *
  have hI1:(0:Int)≤2+(e.size:Int):=by omega
  have hI2:2+(e.size:Int)≤(s.size:Int):=by omega
  have hT:(2+(e.size:Int)).toNat=2+n:=by omega
  have hi:(Tryz.prog.info? 179).map (·.size)=some lk1.size:=by rw [hk];exact info179
  go_wp2_with (first | (refine wpList_store_put rfl 179 _ _ rfl w1.heap.size lk1 rfl rfl 179 link0 (heap_alloc_new _ _) hi (by rw [hk];rfl) h1 ?_;intro w2 hp2))
  go_ret
  refine ⟨?_,?_⟩
  ·rw [uh HR];rfl
  ·exact ((uh HK).alloc (uh HK).size _).trans (Kept.of (hp2.below (uh HK).size))
 ·have hff:frOk s=false:=by simpa using hf
  have HR:=hide (show firstFr s=s from if_neg hf)
  go_enter Tryz.func114,Tryz.ntmps114
  go_wp2_with fail
  refine (readFrame_go s w (by omega)).mono ?_
  rintro _ w1 ⟨_,hn,hk1⟩
  obtain rfl:=hn hff
  have HK:=hide hk1
  clear hn hk1
  go_wp2_with (first | (refine wpList_store_put rfl 179 _ _ rfl w1.heap.size link0 rfl rfl 179 link0 (heap_alloc_new _ _) info179 rfl (linkOf_one (List.replicate 32 0) 0) ?_;intro w2 hp2))
  go_ret
  refine ⟨by rw [uh HR];rfl,?_⟩
  exact ((uh HK).alloc (uh HK).size _).trans (Kept.of (hp2.below (uh HK).size))
end Go.Proofs.YtlbacbcenejngaaGreatDoor
namespace Go.Proofs.YtlbacbcenejngaaGreatDoor
open Go.RowKit
theorem emp_yes {x:ByteArray} (h:x.size=0):x.toList.isEmpty=true:=by rw [empty_iff,h];rfl
theorem emp_no {x:ByteArray} (h:x.size≠0):x.toList.isEmpty=false:=by rw [empty_iff];simpa using h
set_option maxRecDepth 100000 in
set_option maxHeartbeats 1000000 in
theorem giveA_go (B:Nat) (w:World) (p:Nat) (v:Value) (k:Snk) (log:ByteArray) (h:SAt B 81 w p v k) (hle:k.data.size≤log.size) (ha:0≤k.app∧k.app+log.size≤4294967296) (hf:k.fails.length≤4294967296) :
  Calls Tryz.prog 80 #[.pointer (some ⟨p,0,none⟩),.string log] w (skEnd B 81 w p v (.bool (giveF k log).2) (giveF k log).1):=by
 have hlI:(k.data.size:Int)≤(log.size:Int):=by omega
 have HG:=hide (show giveF k log=giveGo k (lf log k.data.size) from rfl)
 have hls:(lf log k.data.size).size=log.size-k.data.size:=lf_size _ _
 have HS:=hide h
 clear h
 go_enter Tryz.func80,Tryz.ntmps80
 go_wp2_with fail
 refine (sink_read_go B w p v k (uh HS)).mono ?_
 rintro _ wq ⟨rfl,hwq⟩
 obtain rfl:w=wq:=hwq.symm
 go_wp2_with fail
 go_loopw [5] (fun vm wr=>∃ (m:ByteArray) (k1:Snk) (v1:Value),vm=.string m∧giveGo k1 m=giveGo k (lf log k.data.size)∧(SAt B 81 wr p v1 k1∧Upd p v v1 w wr)∧m.size≤log.size∧k1.data.size+m.size≤log.size∧0≤k1.app∧k1.app+m.size≤k.app+log.size∧k1.fails=k.fails) (fun vm _=>szOf vm)
 case atStart =>
  refine ⟨lf log k.data.size,k,v,rfl,rfl,⟨uh HS,Upd.of_kept (Kept.refl _ _)⟩,by omega,by omega,by omega,by omega,rfl⟩
 case round =>
  obtain ⟨m,k1,v1,rfl,hgo,hsu,hm1,hm2,hm3,hm4,hm5⟩:=hrel
  have HGO:=hide hgo
  have HSU:=hide hsu
  have hfl:k1.fails.length≤4294967296:=by rw [hm5];exact hf
  have HFE:=hide hm5
  clear hgo hsu hm5
  by_cases h0:m.size=0
  ·have hemp:=emp_yes h0
   have HE:=hide (show giveF k log=(k1,true) by rw [uh HG,← uh HGO,giveGo,dif_pos h0])
   go_wp2_with fail
   go_ret
   exact ⟨by rw [uh HE];rfl,v1,by rw [uh HE];exact (uh HSU).1,(uh HSU).2⟩
  ·have hemp:=emp_no h0
   have hff:=firstFr_size h0
   have HX:=hide (show giveF k log=if k1.took then giveGo (k1.append (firstFr m)) (lf m (firstFr m).size) else (k1.append (firstFr m),false) by rw [uh HG,← uh HGO];conv=>lhs;rw [giveGo];rw [dif_neg h0])
   go_wp2_with fail
   refine (firstFr_go m (by omega) wr).mono ?_
   rintro _ w1 ⟨rfl,hk1⟩
   have HSU1:=hide (And.intro ((uh HSU).1.kept hk1) ((uh HSU).2.trans (.of_kept hk1)))
   clear hk1 HSU
   generalize hF:firstFr m=F at *
   clear hF
   go_wp2_with fail
   refine (give_go B w1 p v1 k1 F (uh HSU1).1 (by omega) hfl (by omega) (by omega)).mono ?_
   rintro _ w2 ⟨rfl,v2,hs2,hu2⟩
   have HSU2:=hide (And.intro hs2 ((uh HSU1).2.trans hu2))
   clear hs2 hu2 HSU1
   by_cases ht:k1.took=true
   ·have HA:=hide (show k1.append F={ k1 with app:=k1.app+1,data:=k1.data++F } from if_pos ht)
    have HX2:=hide (show giveF k log=giveGo (k1.append F) (lf m F.size) by rw [uh HX,if_pos ht])
    have hFI:(F.size:Int)≤(m.size:Int):=by omega
    have hda:(k1.data++F).size=k1.data.size+F.size:=ByteArray.size_append
    have hl2:(lf m F.size).size=m.size-F.size:=lf_size _ _
    rw [ht]
    go_wp2_with fail
    go_roundw
    case rel =>
     refine ⟨lf m F.size,k1.append F,v2,rfl,by rw [← uh HX2,uh HG],uh HSU2,by omega,?_,?_,?_,?_⟩
     ·rw [uh HA];show (k1.data++F).size+_≤_;omega
     ·rw [uh HA];show 0≤k1.app+1;omega
     ·rw [uh HA];show k1.app+1+((lf m F.size).size:Int)≤_;rw [lf_size];omega
     ·rw [uh HA];exact uh HFE
    case measure=>show (lf m F.size).size<m.size;rw [lf_size];omega
   ·have htf:k1.took=false:=by simpa using ht
    have HX2:=hide (show giveF k log=(k1.append F,false) by rw [uh HX,if_neg ht])
    rw [htf]
    go_wp2_with fail
    go_ret
    exact ⟨by rw [uh HX2];rfl,v2,by rw [uh HX2];exact (uh HSU2).1,(uh HSU2).2⟩
def lcells (rv:Value) (cnt:Nat) (last:List UInt8):Array Value:=(rv::Value.int .i64 (cnt:Int)::blist last).toArray
structure LAt (B:Nat) (w:World) (lp:Nat) (rv:Value) (SL:List (Loc Snk)) (cnt:Nat) (last:List UInt8):Prop where
 at':w.heap[lp]?=some (.cells (lcells rv cnt last) 127 (0,0))
 row:w.ownsRow B 41 1 rv SL.length (SL.map fun e=>.pointer (some ⟨e.p,0,none⟩))
 snk:Fam (PS B 81) w SL
 ge:B≤lp
 len:last.length=32
def Lft (lp:Nat) (rv:Value) (SL:List (Loc Snk)) (k:Nat):Prop:=k=lp∨rv.ownBlock=some k∨∃ e∈SL,e.p=k∨e.v.ownBlock=some k
theorem LAt.stay {B:Nat} {w w':World} {lp:Nat} {rv:Value} {SL:List (Loc Snk)} {cnt:Nat} {last:List UInt8} (h:LAt B w lp rv SL cnt last) (hk:∀ k,Lft lp rv SL k→w'.heap[k]?=w.heap[k]?):LAt B w' lp rv SL cnt last :=
 ⟨(hk _ (.inl rfl)).trans h.at',own_blocks h.row fun k hk'=>hk k (.inr (.inl hk')),h.snk.frame (wayS B 81 (by decide)) (fun k _ ⟨e,he,hp⟩=>hk k (.inr (.inr ⟨e,he,.inl hp⟩))) (fun k _ ⟨e,he,hp⟩=>hk k (.inr (.inr ⟨e,he,.inr hp⟩))),h.ge,h.len⟩
theorem LAt.foot {B:Nat} {w:World} {lp:Nat} {rv:Value} {SL:List (Loc Snk)} {cnt:Nat} {last:List UInt8} (h:LAt B w lp rv SL cnt last) {k:Nat} (hk:Lft lp rv SL k):(k<w.heap.size∧B≤k)∧(TyAt w k 127∨TyAt w k 41∨TyAt w k 81∨TyAt w k 3):=by
 rcases hk with rfl | hk | ⟨e,he,hk⟩
 ·have:TyAt w k 127:=⟨_,h.at'⟩
  exact ⟨⟨this.lt,h.ge⟩,.inl this⟩
 ·have:TyAt w k 41:=own_ty h.row hk
  exact ⟨⟨this.lt,(h.row.lt k hk).1⟩,.inr (.inl this)⟩
 ·have hP:=h.snk.each e he
  rcases hk with rfl | hk
  ·have:=(wayS B 81 (by decide)).ty hP
   exact ⟨⟨this.lt,(wayS B 81 (by decide)).big hP⟩,.inr (.inr (.inl this))⟩
  ·have:=(wayS B 81 (by decide)).row hP hk
   exact ⟨⟨this.1.lt,this.2⟩,.inr (.inr (.inr this.1))⟩
theorem LAt.kept {B:Nat} {w w':World} {lp:Nat} {rv:Value} {SL:List (Loc Snk)} {cnt:Nat} {last:List UInt8} (h:LAt B w lp rv SL cnt last) (hk:Kept w.heap.size w w'):LAt B w' lp rv SL cnt last:=h.stay fun k hk'=>hk.block k (h.foot hk').1.1
theorem LAt.c {B:Nat} {w:World} {lp:Nat} {rv:Value} {SL:List (Loc Snk)} {cnt:Nat} {last:List UInt8} (h:LAt B w lp rv SL cnt last):w.cell? ⟨lp,0,none⟩=some rv∧w.cell? ⟨lp,1,none⟩=some (.int .i64 (cnt:Int))∧w.rangeAt lp 2 (blist last) :=
 ⟨by rw [cell_of_row _ _ _ _ _ _ h.at'];rfl,by rw [cell_of_row _ _ _ _ _ _ h.at'];rfl,fun j v hv=>by rw [cell_of_row _ _ _ _ _ _ h.at',← Array.getElem?_toList,Nat.add_comm];exact hv⟩
theorem most_drop {l:List Snk} {i:Nat} (hi:i<l.length) (m:ByteArray):mostOf (l.drop i) m=mostOf (l.drop (i+1)) (if m.size<l[i].data.size then l[i].data else m):=by rw [List.drop_eq_getElem_cons hi,mostOf]
set_option maxRecDepth 100000 in
set_option maxHeartbeats 1000000 in
theorem frames_go (B:Nat) (w:World) (lp:Nat) (rv:Value) (SL:List (Loc Snk)) (cnt:Nat) (last:List UInt8) (h:LAt B w lp rv SL cnt last) (hl:SL.length≤1000) (hd:∀ e∈SL,e.x.data.size≤1099511627776) :
  Calls Tryz.prog 78 #[.pointer (some ⟨lp,0,none⟩)] w fun e w'=>e=.returned (.string (mostOf (SL.map (·.x)) .empty))∧w'=w:=by
 obtain ⟨ao,cap,rfl,hcap,hao⟩:=own_len h.row
 have hc0:=h.c.1
 have HR:=hide h.row
 have HS:=hide h.snk
 clear h
 go_enter Tryz.func78,Tryz.ntmps78
 go_wp2_with fail
 go_loopw [3,12] (fun vm vi wr=>∃ (i:Nat) (m:ByteArray),i≤SL.length∧vi=.int .i64 i∧vm=.string m∧mostOf (SL.map (·.x)) .empty=mostOf ((SL.map (·.x)).drop i) m∧m.size≤1099511627776∧wr=w) (fun _ vi _=>SL.length-(intOf vi).toNat)
 case atStart=>exact ⟨0,.empty,Nat.zero_le _,rfl,rfl,rfl,by decide,rfl⟩
 case round =>
  obtain ⟨i,m,hi,rfl,rfl,hmo,hms,hwr⟩:=hrel
  obtain rfl:w=wr:=hwr.symm
  clear hwr
  have HM:=hide hmo
  clear hmo
  by_cases hlt:i<SL.length
  ·obtain ⟨g,rfl⟩:=hao (by omega)
   have hiI:(i:Int)<(SL.length:Int):=by omega
   have hi0:(0:Int)≤(i:Int):=by omega
   have hc:w.cell? ⟨g,i,none⟩=some (.pointer (some ⟨SL[i].p,0,none⟩)):=by
    obtain ⟨g',c',e1,e2⟩:=own_cell (uh HR) hlt
    cases e1
    rw [e2,List.getD_eq_getElem?_getD,List.getElem?_map,List.getElem?_eq_getElem hlt];rfl
   have hsk:=(uh HS).each SL[i] (List.getElem_mem hlt)
   have hds:=hd SL[i] (List.getElem_mem hlt)
   have HN:=hide (show mostOf (SL.map (·.x)) .empty=mostOf ((SL.map (·.x)).drop (i+1)) (if m.size<SL[i].x.data.size then SL[i].x.data else m) by
    rw [uh HM,most_drop (by simpa using hlt)];simp)
   generalize SL[i]=e at *
   have HSK:=hide hsk.1
   clear hsk
   go_wp2_with fail
   refine (sink_read_go B w e.p e.v e.x (uh HSK)).mono ?_
   rintro _ wq ⟨rfl,hwq⟩
   obtain rfl:w=wq:=hwq.symm
   generalize e.x.data=dt at *
   by_cases hb:m.size<dt.size
   ·have hbI:(m.size:Int)<(dt.size:Int):=by omega
    rw [if_pos hb] at HN
    go_wp2_with fail
    go_roundw
    case rel=>exact ⟨i+1,dt,by omega,by go_num,rfl,uh HN,hds,by first | rfl | trivial⟩
    case measure=>simp [intOf];omega
   ·have hbI:¬ (m.size:Int)<(dt.size:Int):=by omega
    rw [if_neg hb] at HN
    go_wp2_with fail
    go_roundw
    case rel=>exact ⟨i+1,m,by omega,by go_num,rfl,uh HN,hms,by first | rfl | trivial⟩
    case measure=>simp [intOf];omega
  ·have hiI:¬ (i:Int)<(SL.length:Int):=by omega
   have HE:=hide (show mostOf (SL.map (·.x)) .empty=m by rw [uh HM,List.drop_eq_nil_of_le (by simp;omega)];rfl)
   go_wp2_with fail
   go_ret
   exact ⟨by rw [uh HE];rfl,rfl⟩
end Go.Proofs.YtlbacbcenejngaaGreatDoor
