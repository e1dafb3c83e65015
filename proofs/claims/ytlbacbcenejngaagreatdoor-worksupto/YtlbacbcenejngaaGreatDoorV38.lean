/-
  Ec Ed Si Vp Vq Vr Vs Vt Wa
-/
import Derived.Test.YtlbacbcenejngaaGreatDoorV02
import Derived.Test.YtlbacbcenejngaaGreatDoorV37
import Derived.Test.YtlbacbcenejngaaGreatDoorV21
import Derived.Test.YtlbacbcenejngaaGreatDoorV22
import Derived.Test.YtlbacbcenejngaaGreatDoorV15
import Derived.Test.YtlbacbcenejngaaGreatDoorV27
import Derived.BigQuiet
namespace Go.Proofs.YtlbacbcenejngaaGreatDoor
open Go.RowKit
def setFrom (cs:Array Value) (o:Nat):List Value→Array Value
  | []=>cs
  | v::r=>setFrom (cs.setIfInBounds o v) (o+1) r
theorem setFrom_list:∀ (vs pre old post:List Value),old.length=vs.length→setFrom (pre++old++post).toArray pre.length vs=(pre++vs++post).toArray
  | [],pre,old,post,h=>by rw [List.length_eq_zero_iff.1 h,setFrom]
  | v::r,pre,[],post,h=>by simp at h
  | v::r,pre,a::old,post,h=>by
    rw [setFrom]
    have:=setFrom_list r (pre++[v]) old post (by simpa using h)
    simp only [List.length_append,List.length_singleton] at this
    rw [show (pre++a::old++post).toArray.setIfInBounds pre.length v=(pre++[v]++old++post).toArray by simp,this]
    simp
theorem setCells_same:∀ (vs:List Value) (w:World) (b o:Nat) (cs:Array Value) (t:TypeId),w.heap[b]?=some (.cells cs t (0,0))→(w.setCells b o vs).heap[b]?=some (.cells (setFrom cs o vs) t (0,0))
  | [],w,b,o,cs,t,h=>h
  | v::r,w,b,o,cs,t,h=>by
    rw [World.setCells,setFrom]
    exact setCells_same r _ b (o+1) _ t (by rw [heap_setCell_same _ _ _ _ _ _ h])
theorem setCells_other:∀ (vs:List Value) (w:World) (b o k:Nat),k≠b→(w.setCells b o vs).heap[k]?=w.heap[k]?∧(w.setCells b o vs).heap.size=w.heap.size∧(w.setCells b o vs).os=w.os∧(w.setCells b o vs).output=w.output
  | [],w,b,o,k,h=>⟨rfl,rfl,rfl,rfl⟩
  | v::r,w,b,o,k,h=>by
    rw [World.setCells]
    obtain ⟨h1,h2,h3,h4⟩:=setCells_other r (w.setCell ⟨b,o,none⟩ v) b (o+1) k h
    exact ⟨h1.trans (heap_setCell_other _ _ _ _ h),h2.trans (by simp),h3,h4⟩
theorem setFrom_last {rv:Value} {cnt:Nat} {last new:List UInt8} (h:last.length=new.length):setFrom (lcells rv cnt last) 2 (blist new)=lcells rv cnt new:=by
  have:=setFrom_list (blist new) [rv,.int .i64 (cnt:Int)] (blist last) [] (by simpa using h)
  simpa [lcells] using this
theorem LAt.upd {B:Nat} {w w':World} {lp:Nat} {rv:Value} {SL:List (Loc Snk)} {cnt:Nat} {last:List UInt8} (h:LAt B w lp rv SL cnt last) {i:Nat} (hi:i<SL.length) {v':Value} {x':Snk} (hP:SAt B 81 w' SL[i].p v' x') (hu:Upd SL[i].p SL[i].v v' w w') :
    LAt B w' lp rv (SL.set i ⟨SL[i].p,v',x'⟩) cnt last∧Chg (Lft lp rv SL) w w'∧∀ k,Lft lp rv (SL.set i ⟨SL[i].p,v',x'⟩) k→Lft lp rv SL k∨w.heap.size≤k:=by
  have hm:=List.getElem_mem hi
  have hP0:=h.snk.each _ hm
  have hty:=(wayS B 81 (by decide)).ty hP0
  have hne:∀ k t,TyAt w k t→t=127∨t=41→w'.heap[k]?=w.heap[k]?:=fun k t hk ht=>by
    refine hu.block k hk.lt (fun e=>?_) fun e=>?_
    · subst e;exact hty.ne hk (by rcases ht with rfl | rfl <;> decide) rfl
    · exact ((wayS B 81 (by decide)).row hP0 e).1.ne hk (by rcases ht with rfl | rfl <;> decide) rfl
  refine ⟨⟨(hne lp 127 ⟨_,h.at'⟩ (.inl rfl)).trans h.at',?_,h.snk.upd (wayS B 81 (by decide)) hi ⟨hP,hP0.2⟩ hu,h.ge,h.len⟩,⟨hu.os,hu.output,hu.size,fun k hk hn=>hu.block k hk (fun e=>hn (.inr (.inr ⟨_,hm,.inl e.symm⟩))) (fun e=>hn (.inr (.inr ⟨_,hm,.inr e⟩)))⟩,fun k hk=>?_⟩
  · have:(SL.set i ⟨SL[i].p,v',x'⟩).map (fun e=>Value.pointer (some ⟨e.p,0,none⟩))=SL.map fun e=>Value.pointer (some ⟨e.p,0,none⟩):=by
      rw [List.map_set]
      apply List.ext_getElem?
      intro j
      rw [List.getElem?_set]
      by_cases hj:i=j
      · subst hj;simp [hi]
      · simp [hj]
    rw [List.length_set,this]
    exact own_blocks h.row fun k hk=>hne k 41 (own_ty h.row hk) (.inr rfl)
  · rcases hk with hk | hk | ⟨e,he,hk⟩
    · exact .inl (.inl hk)
    · exact .inl (.inr (.inl hk))
    · rcases List.mem_or_eq_of_mem_set he with he | rfl
      · exact .inl (.inr (.inr ⟨e,he,hk⟩))
      · rcases hk with hk | hk
        · exact .inl (.inr (.inr ⟨_,hm,.inl hk⟩))
        · rcases hu.new k hk with hk | hk
          · exact .inl (.inr (.inr ⟨_,hm,.inr hk⟩))
          · exact .inr hk
abbrev ncells (bytes:ByteArray) (dg:List UInt8):Array Value:=sealA bytes dg
def toS (SL:List (Loc Snk)) (log:ByteArray) (i:Nat):List Snk:=((SL.take i).map fun e=>(giveF e.x log).1)++(SL.drop i).map (·.x)
theorem toS_next {L SLi:List (Loc Snk)} {log:ByteArray} {i:Nat} (_hl:SLi.length=L.length) (hi:i<L.length) (h:SLi.map (·.x)=toS L log i) {p:Nat} {v:Value}:(∀ hi':i<SLi.length,SLi[i].x=L[i].x)∧(SLi.set i ⟨p,v,(giveF L[i].x log).1⟩).map (·.x)=toS L log (i+1):=by
  have hlen:((L.take i).map fun e=>(giveF e.x log).1).length=i:=by simp;omega
  refine ⟨fun hi'=>?_,?_⟩
  · have h1:(SLi.map (·.x))[i]?=some SLi[i].x:=by rw [List.getElem?_map,List.getElem?_eq_getElem hi'];rfl
    rw [h,toS,List.getElem?_append_right (by omega),hlen,Nat.sub_self,List.getElem?_map,List.getElem?_drop,Nat.add_zero,List.getElem?_eq_getElem hi] at h1
    simpa using h1.symm
  · rw [List.map_set,h,toS,toS,List.take_add_one,List.getElem?_eq_getElem hi,List.drop_eq_getElem_cons hi,List.map_cons,List.set_append_right _ _ (by omega),hlen,Nat.sub_self]
    simp only [Option.toList_some,List.map_append,List.map_cons,List.map_nil,List.append_assoc,List.cons_append,List.nil_append,List.set_cons_zero]
def laid (cnt:Nat) (last dg:List UInt8) (ok:Bool):Nat × List UInt8:=if ok then (cnt+1,dg) else (cnt,last)
def lyEnd (B:Nat) (w:World) (lp:Nat) (rv:Value) (SL:List (Loc Snk)) (l2:List Snk) (ok:Bool) (cnt:Nat) (last:List UInt8) (e:Ending) (w':World):Prop :=
  e=.returned (.bool ok)∧∃ SL',LAt B w' lp rv SL' cnt last∧SL'.map (·.x)=l2∧SL'.map (·.p)=SL.map (·.p)∧Chg (Lft lp rv SL) w w'∧∀ k,Lft lp rv SL' k→Lft lp rv SL k∨w.heap.size≤k
theorem any_take {L:List (Loc Snk)} {log:ByteArray} {i:Nat} (hi:i<L.length):((L.take (i+1)).any fun e=>(giveF e.x log).2)=(((L.take i).any fun e=>(giveF e.x log).2)||(giveF L[i].x log).2):=by
  rw [List.take_add_one,List.any_append,List.getElem?_eq_getElem hi];simp
theorem info29s (D:List UInt8) (h:D.length=32):(Tryz.prog.info? 29).map (·.size)=some (blist D).length:=by rw [info29];simp [h]
set_option maxRecDepth 100000 in
set_option maxHeartbeats 2000000 in
theorem lay_go (B:Nat) (w:World) (lp:Nat) (rv:Value) (SL:List (Loc Snk)) (cnt:Nat) (last:List UInt8) (bytes:ByteArray) (dg:List UInt8) (h:LAt B w lp rv SL cnt last) (hdg:dg.length=32) (hl:SL.length≤1000) (hc:cnt<4294967296) (hb:bytes.size≤1000) (hd:∀ e∈SL,e.x.data.size≤(mostOf (SL.map (·.x)) .empty).size) (hm:(mostOf (SL.map (·.x)) .empty).size≤2147483648) (ha:∀ e∈SL,0≤e.x.app∧e.x.app≤2000000000) (hf:∀ e∈SL,e.x.fails.length≤4294967296) :
    Calls Tryz.prog 41 #[.pointer (some ⟨lp,0,none⟩),.agg (ncells bytes dg)] w (lyEnd B w lp rv SL (layF (SL.map (·.x)) (mostOf (SL.map (·.x)) .empty++frOf bytes)).1 (layF (SL.map (·.x)) (mostOf (SL.map (·.x)) .empty++frOf bytes)).2 (laid cnt last dg (layF (SL.map (·.x)) (mostOf (SL.map (·.x)) .empty++frOf bytes)).2).1 (laid cnt last dg (layF (SL.map (·.x)) (mostOf (SL.map (·.x)) .empty++frOf bytes)).2).2):=by
  obtain ⟨w1,hw1⟩:∃ w1,w1=w.alloc (.cells (ncells bytes dg) 90):=⟨_,rfl⟩
  have hbx:w1.heap[w.heap.size]?=some (.cells (ncells bytes dg) 90 (0,0)):=by rw [hw1];exact heap_alloc_new _ _
  have HK1:=hide (show Kept w.heap.size w w1 by rw [hw1];exact (Kept.refl _ _).alloc (Nat.le_refl _) _)
  have hz1:w.heap.size<w1.heap.size:=by rw [hw1];simp
  have HL:=hide (h.kept (uh HK1))
  have HSN:=hide (show ∀ W:World,W.heap[w.heap.size]?=some (.cells (ncells bytes dg) 90 (0,0))→W.cell? ⟨w.heap.size,0,none⟩=some (.string bytes) from fun W hW=>by rw [cell_of_row _ _ _ _ _ _ hW];rfl)
  obtain ⟨M,hM⟩:∃ M,M=mostOf (SL.map (·.x)) .empty:=⟨_,rfl⟩
  rw [← hM] at hd hm ⊢
  have hfr:=frOf_size bytes
  have HFR:=hide (And.intro hM rfl:M=mostOf (SL.map (·.x)) .empty∧frOf bytes=frOf bytes)
  obtain ⟨FR,hFR⟩:∃ F,F=frOf bytes:=⟨_,rfl⟩
  rw [← hFR] at hfr ⊢
  have HFB:=hide hFR
  have hls:(M++FR).size=M.size+FR.size:=ByteArray.size_append
  have hnz:(9223372036854775807<M.size+FR.size)=False:=eq_false (by omega)
  obtain ⟨log,hlog⟩:∃ log,log=M++FR:=⟨_,rfl⟩
  rw [← hlog] at hls ⊢
  have hadd:=hlog.symm
  clear h hM hFR hlog
  go_enter Tryz.func41,Tryz.ntmps41
  go_wp2_with fail
  rw [← hw1]
  clear hw1
  refine wp_region_held_drew (S:=fun W=>W.heap[w.heap.size]?=some (.cells (ncells bytes dg) 90 (0,0))) (by kernel_rfl) (show w1.heap[w.heap.size]?=_ from hbx) (fun hHeld=>?_)
  refine tkL 2 [(0,some 9,.pointer (some ⟨lp,0,none⟩)),(2,some 11,.pointer (some ⟨w.heap.size,0,none⟩))] (by kernel_rfl) (fun _ _ _ _ _ h=>h) (fun _ _=>by kernel_rfl) hHeld ?_
  simp only [zz0,zz1,zz2,zz4,zz5]
  refine tkG 3 (some 12) (.load 9 (.tmp 11)) 9 none (.string bytes) (by kernel_rfl) (fun _ _ _ h=>h) (Or.inl ⟨by kernel_rfl,fun W hW=>by simp [execOp,go_sem,uh HSN W hW]⟩) hHeld ?_
  simp only [zz0,zz1,zz2]
  refine rd1 1 (some 10) (.call { callee:=.value (.func 78),args:=#[.tmp 9],argTypes:=#[75] }) 9 (by kernel_rfl) (fun K hK=>?_)
  go_simp
  refine (frames_go B w1.drew lp rv SL cnt last ((uh HL).kept ((Kept.refl _ _).draws 1)) hl (fun e he=>by have:=hd e he;omega)).mono ?_
  rintro _ w2 ⟨rfl,hw2⟩
  rw [← (uh HFR).1]
  have HL2:=hide (show LAt B w2 lp rv SL cnt last by rw [hw2];exact (uh HL).kept ((Kept.refl _ _).draws 1))
  have hb2:w2.heap[w.heap.size]?=some (.cells (ncells bytes dg) 90 (0,0)):=by rw [hw2];exact hbx
  have HK2:=hide (show Kept w.heap.size w w2 by rw [hw2];exact (uh HK1).draws 1)
  have hz2:w.heap.size<w2.heap.size:=by rw [hw2];exact hz1
  clear hw2 hbx
  show K _ w2
  refine hK.out _ _ (hb2) (fun hHeld1=>?_)
  clear hK K
  try simp only [zz0,zz1,zz2]
  refine rd1 4 (some 13) (.call { callee:=.value (.func 79),args:=#[.tmp 12],argTypes:=#[9] }) 9 (by kernel_rfl) (fun K hK=>?_)
  go_simp
  refine (frame_go bytes (by omega) w2).mono ?_
  rintro _ w3 ⟨rfl,hk3⟩
  rw [← uh HFB]
  have HL3:=hide ((uh HL2).kept hk3)
  have hb3:=(hk3.block _ hz2).trans hb2
  have HK3:=hide ((uh HK2).trans (hk3.mono (by omega)))
  have hz3:w.heap.size<w3.heap.size:=Nat.lt_of_lt_of_le hz2 hk3.size
  clear hk3 hb2
  show K _ w3
  refine hK.out _ _ (hb3) (fun hHeld4=>?_)
  clear hK K
  try simp only [zz0,zz1,zz2]
  refine tkG 5 (some 14) (.binOp .add 9 (.tmp 10) (.tmp 13) 9) 9 none (.string log) (by kernel_rfl) (fun _ _ _ h=>h) (Or.inl ⟨by kernel_rfl,fun W hW=>by simp [execOp,go_sem,hnz,hadd]⟩) hHeld4 ?_
  simp only [zz0,zz1,zz2]
  refine tkP 6 (some 5) (.string log) (by kernel_rfl) (fun _ _ _ h=>h) (fun _ _=>by kernel_rfl) hHeld4 ?_
  simp only [zz0,zz1,zz2]
  refine wpAnyH_done (by kernel_rfl) ?_ _
  clear hHeld hHeld1 hHeld4 HL HL2 HK1 HK2 hnz hadd
  obtain ⟨ao,cap,rfl,hcap,hao⟩:=own_len (uh HL3).row
  have hc0:=(uh HL3).c.1
  have HB3:=hide hb3
  clear hb3
  go_wp2_with fail
  go_loopw [6,20] (fun vf vi wr=>∃ (i:Nat) (SLi:List (Loc Snk)),i≤SL.length∧vi=.int .i64 i∧vf=.bool ((SL.take i).any fun e=>(giveF e.x log).2)∧SLi.length=SL.length∧SLi.map (·.x)=toS SL log i∧SLi.map (·.p)=SL.map (·.p)∧LAt B wr lp (.slice ao SL.length cap) SLi cnt last∧wr.heap[w.heap.size]?=some (.cells (ncells bytes dg) 90 (0,0))∧Chg (Lft lp (.slice ao SL.length cap) SL) w wr∧∀ k,Lft lp (.slice ao SL.length cap) SLi k→Lft lp (.slice ao SL.length cap) SL k∨w.heap.size≤k) (fun _ vi _=>SL.length-(intOf vi).toNat)
  case atStart=>exact ⟨0,SL,Nat.zero_le _,rfl,rfl,rfl,by simp [toS],rfl,uh HL3,uh HB3,(uh HK3).chg.mono fun _ _ e=>e.elim,fun k hk=>.inl hk⟩
  case round =>
    obtain ⟨i,SLi,hi,rfl,rfl,hlen,hx,hpp,hlat,hbx,hch,hft⟩:=hrel
    have HLR:=hide hlat
    have HRS:=hide (And.intro hx (And.intro hpp (And.intro hbx (And.intro hch hft))))
    clear hlat hx hpp hbx hch hft
    by_cases hlt:i<SL.length
    · obtain ⟨g,rfl⟩:=hao (by omega)
      have hiI:(i:Int)<(SL.length:Int):=by omega
      have hi0:(0:Int)≤(i:Int):=by omega
      have hlt':i<SLi.length:=by omega
      have hxi:=(toS_next (p:=0) (v:=undef) hlen hlt (uh HRS).1).1 hlt'
      have hcl:wr.cell? ⟨g,i,none⟩=some (.pointer (some ⟨SLi[i].p,0,none⟩)):=by
        have hrow:=(uh HLR).row
        rw [hlen] at hrow
        obtain ⟨g',c',e1,e2⟩:=own_cell hrow hlt
        cases e1
        rw [e2,List.getD_eq_getElem?_getD,List.getElem?_map,List.getElem?_eq_getElem hlt'];rfl
      have hsk:=((uh HLR).snk.each SLi[i] (List.getElem_mem hlt')).1
      have hds:=hd SL[i] (List.getElem_mem hlt)
      have has:=ha SL[i] (List.getElem_mem hlt)
      have hfs:=hf SL[i] (List.getElem_mem hlt)
      rw [hxi] at hsk
      have HNX:=hide (fun (w2:World) (v2:Value) (h2:SAt B 81 w2 SLi[i].p v2 (giveF SL[i].x log).1) (u2:Upd SLi[i].p SLi[i].v v2 wr w2)=>(uh HLR).upd hlt' h2 u2)
      have HTO:=hide (fun (v2:Value)=>(toS_next (p:=SLi[i].p) (v:=v2) hlen hlt (uh HRS).1).2)
      have HPP:=hide (show ∀ v2 x2,(SLi.set i ⟨SLi[i].p,v2,x2⟩).map (·.p)=SL.map (·.p) from fun v2 x2=>by
        rw [← (uh HRS).2.1,List.map_set]
        apply List.ext_getElem?
        intro j
        rw [List.getElem?_set]
        by_cases hj:i=j
        · subst hj;simp [hlt']
        · simp [hj])
      have HPT:=hide ((wayS B 81 (by decide)).ty ((uh HLR).snk.each SLi[i] (List.getElem_mem hlt')))
      have HPR:=hide (show ∀ k,SLi[i].v.ownBlock=some k→TyAt wr k 3 from fun k hk=>((wayS B 81 (by decide)).row ((uh HLR).snk.each SLi[i] (List.getElem_mem hlt')) hk).1)
      have HMEM:=hide (List.getElem_mem hlt')
      have HANY:=hide (any_take (log:=log) hlt)
      have HSK:=hide hsk
      clear hsk hxi
      generalize SLi[i]=e at *
      generalize SL[i].x=k0 at *
      go_wp2_with fail
      refine (giveA_go B wr e.p e.v k0 log (uh HSK) (by omega) (by omega) hfs).mono ?_
      rintro _ w2 ⟨rfl,v2,hs2,hu2⟩
      have hn2:=uh HNX w2 v2 hs2 hu2
      have hb2:w2.heap[w.heap.size]?=some (.cells (ncells bytes dg) 90 (0,0)):=by
        have hb:=(uh HRS).2.2.1
        refine (hu2.block _ (Array.getElem?_eq_some_iff.1 hb).1 (fun e'=>?_) (fun e'=>?_)).trans hb
        · exact (uh HPT).ne ⟨_,hb⟩ (by decide) e'.symm
        · exact (uh HPR _ e').ne ⟨_,hb⟩ (by decide) rfl
      have HEND:=hide (And.intro hn2.1 (And.intro hb2 (And.intro ((uh HRS).2.2.2.1.trans' hn2.2.1 (fun k hk e=>by rcases (uh HRS).2.2.2.2 k e with e | e;exact e;exact absurd hk (by omega))) (show ∀ k,Lft lp _ (SLi.set i ⟨e.p,v2,(giveF k0 log).1⟩) k→Lft lp _ SL k∨w.heap.size≤k from fun k hk=>by
        rcases hn2.2.2 k hk with hk | hk
        · exact (uh HRS).2.2.2.2 k hk
        · exact .inr (by have:=(uh HRS).2.2.2.1.size;omega)))))
      clear hs2 hu2 hn2 hb2
      cases hg:(giveF k0 log).2
      · rw [hg] at HANY
        go_wp2_with fail
        go_roundw
        case rel =>
          refine ⟨i+1,SLi.set i ⟨e.p,v2,(giveF k0 log).1⟩,by omega,by go_num,by rw [uh HANY,Bool.or_false],by rw [List.length_set];exact hlen,uh HTO v2,uh HPP v2 _,(uh HEND).1,(uh HEND).2.1,(uh HEND).2.2.1,(uh HEND).2.2.2⟩
        case measure=>simp [intOf];omega
      · rw [hg] at HANY
        go_wp2_with fail
        go_roundw
        case rel =>
          refine ⟨i+1,SLi.set i ⟨e.p,v2,(giveF k0 log).1⟩,by omega,by go_num,by rw [uh HANY,Bool.or_true],by rw [List.length_set];exact hlen,uh HTO v2,uh HPP v2 _,(uh HEND).1,(uh HEND).2.1,(uh HEND).2.2.1,(uh HEND).2.2.2⟩
        case measure=>simp [intOf];omega
    · obtain rfl:i=SL.length:=by omega
      have hiI:¬ (SL.length:Int)<(SL.length:Int):=by omega
      have hto:toS SL log SL.length=(layF (SL.map (·.x)) log).1:=by simp [toS,layF,Function.comp]
      have hany:((SL.take SL.length).any fun e=>(giveF e.x log).2)=(layF (SL.map (·.x)) log).2:=by rw [List.take_length,layF,List.any_map];rfl
      rw [hany]
      have HX:=hide (show SLi.map (·.x)=(layF (SL.map (·.x)) log).1 by rw [(uh HRS).1,hto])
      clear hto hany
      obtain ⟨l2,ok,hlo⟩:∃ l2 ok,layF (SL.map (·.x)) log=(l2,ok):=⟨_,_,rfl⟩
      rw [hlo] at HX ⊢
      have HLO:=hide hlo
      clear hlo
      have c1:=(uh HLR).c.2.1
      have at0:=(uh HLR).at'
      have fz1:=frozen_of_row _ _ 1 _ _ at0
      have hcn:(cnt:Int)+1≤9223372036854775807:=by omega
      cases ok
      · go_wp2_with fail
        go_ret
        refine ⟨by rw [uh HLO];rfl,SLi,?_,?_,(uh HRS).2.1,(uh HRS).2.2.2.1,(uh HRS).2.2.2.2⟩
        · rw [uh HLO];exact uh HLR
        · rw [uh HLO];exact uh HX
      · have hnl:w.heap.size≠lp:=fun e'=>by
          have hb:=(uh HRS).2.2.1
          rw [e',at0] at hb
          cases hb
        obtain ⟨w5,hw5⟩:∃ w5,w5=wr.setCell ⟨lp,1,none⟩ (.int .i64 ((cnt:Int)+1)):=⟨_,rfl⟩
        have at5:w5.heap[lp]?=some (.cells (lcells (.slice ao SL.length cap) (cnt+1) last) 127 (0,0)):=by rw [hw5,heap_setCell_same _ _ _ _ _ _ at0];rfl
        have bx5:w5.heap[w.heap.size]?=some (.cells (ncells bytes dg) 90 (0,0)):=by rw [hw5,heap_setCell_other _ _ _ _ hnl];exact (uh HRS).2.2.1
        have hrg:w5.rangeAt w.heap.size 1 (blist dg):=fun j v hv=>by rw [cell_of_row _ _ _ _ _ _ bx5,← Array.getElem?_toList,Nat.add_comm];exact hv
        have hth:w5.there lp 2 (brow dg).size:=fun j hj=>by
          rw [brow_size,hdg] at hj
          refine ⟨?_,frozen_of_row _ _ _ _ _ at5⟩
          rw [cell_of_row _ _ _ _ _ _ at5,← Array.getElem?_toList,Nat.add_comm 2 j]
          show ((blist last)[j]?).isSome=true
          rw [List.getElem?_map,List.getElem?_eq_getElem (by rw [(uh HLR).len];exact hj)];rfl
        have HEND:=hide (show LAt B (w5.setCells lp 2 (blist dg)) lp (.slice ao SL.length cap) SLi (cnt+1) dg∧Chg (fun k=>k=lp) wr (w5.setCells lp 2 (blist dg)) from by
          have hat:=setCells_same (blist dg) w5 lp 2 _ _ at5
          rw [setFrom_last (by rw [(uh HLR).len,hdg])] at hat
          have hot:∀ k,k≠lp→(w5.setCells lp 2 (blist dg)).heap[k]?=wr.heap[k]?:=fun k hk=>(setCells_other (blist dg) w5 lp 2 k hk).1.trans (by rw [hw5];exact heap_setCell_other _ _ _ _ hk)
          have hsz:=(setCells_other (blist dg) w5 lp 2 (lp+1) (by omega)).2
          have hw5s:w5.heap.size=wr.heap.size∧w5.os=wr.os∧w5.output=wr.output:=by rw [hw5];exact ⟨by simp,rfl,rfl⟩
          have hT0:TyAt wr lp 127:=⟨_,at0⟩
          refine ⟨⟨hat,own_blocks (uh HLR).row fun k hk=>hot k (fun e'=>(show TyAt wr k 41 from own_ty (uh HLR).row hk).ne hT0 (by decide) e'),(uh HLR).snk.frame (wayS B 81 (by decide)) (fun k hk _=>hot k (fun e'=>hk.ne hT0 (by decide) e')) (fun k hk _=>hot k (fun e'=>hk.ne hT0 (by decide) e')),(uh HLR).ge,hdg⟩,⟨hsz.2.1.trans hw5s.2.1,hsz.2.2.trans hw5s.2.2,by rw [hsz.1,hw5s.1];exact Nat.le_refl _,fun k _ hk=>hot k hk⟩⟩)
        have hi29:=info29s dg hdg
        have hi29b:(Tryz.prog.info? 29).map (·.size)=some (brow dg).size:=by rw [brow_size,hdg];exact info29
        have h1b:=brow_one dg
        clear at5 bx5 at0
        go_wp2_with (first
          | (rw [← hw5];refine wpList_load_mid rfl 29 (.tmp 37) rfl w.heap.size 1 ?_ (blist dg) _ hrg Tryz.underlying29 rfl hi29 ?_
             · rfl)
          | (rw [← hw5];refine wpList_store_mid rfl 29 (.tmp 40) (.tmp 38) rfl lp 2 (brow dg) ?_ ?_ hth hi29b h1b ?_
             · rfl
             · rfl))
        go_ret
        subst hw5
        refine ⟨by rw [uh HLO];rfl,SLi,?_,?_,(uh HRS).2.1,?_,(uh HRS).2.2.2.2⟩
        · rw [uh HLO];exact (uh HEND).1
        · rw [uh HLO];exact uh HX
        · exact (uh HRS).2.2.2.1.trans' (uh HEND).2 fun k _ e=>.inl e
end Go.Proofs.YtlbacbcenejngaaGreatDoor
namespace Go.Proofs.YtlbacbcenejngaaGreatDoor
open Go.RowKit
theorem list32 {l:List UInt8} (h:l.length=32):∃ a0 a1 a2 a3 a4 a5 a6 a7 a8 a9 a10 a11 a12 a13 a14 a15 a16 a17 a18 a19 a20 a21 a22 a23 a24 a25 a26 a27 a28 a29 a30 a31:UInt8,l=[a0,a1,a2,a3,a4,a5,a6,a7,a8,a9,a10,a11,a12,a13,a14,a15,a16,a17,a18,a19,a20,a21,a22,a23,a24,a25,a26,a27,a28,a29,a30,a31]:=by
  rcases l with _ | ⟨a0,l⟩
  · simp at h
  rcases l with _ | ⟨a1,l⟩
  · simp at h
  rcases l with _ | ⟨a2,l⟩
  · simp at h
  rcases l with _ | ⟨a3,l⟩
  · simp at h
  rcases l with _ | ⟨a4,l⟩
  · simp at h
  rcases l with _ | ⟨a5,l⟩
  · simp at h
  rcases l with _ | ⟨a6,l⟩
  · simp at h
  rcases l with _ | ⟨a7,l⟩
  · simp at h
  rcases l with _ | ⟨a8,l⟩
  · simp at h
  rcases l with _ | ⟨a9,l⟩
  · simp at h
  rcases l with _ | ⟨a10,l⟩
  · simp at h
  rcases l with _ | ⟨a11,l⟩
  · simp at h
  rcases l with _ | ⟨a12,l⟩
  · simp at h
  rcases l with _ | ⟨a13,l⟩
  · simp at h
  rcases l with _ | ⟨a14,l⟩
  · simp at h
  rcases l with _ | ⟨a15,l⟩
  · simp at h
  rcases l with _ | ⟨a16,l⟩
  · simp at h
  rcases l with _ | ⟨a17,l⟩
  · simp at h
  rcases l with _ | ⟨a18,l⟩
  · simp at h
  rcases l with _ | ⟨a19,l⟩
  · simp at h
  rcases l with _ | ⟨a20,l⟩
  · simp at h
  rcases l with _ | ⟨a21,l⟩
  · simp at h
  rcases l with _ | ⟨a22,l⟩
  · simp at h
  rcases l with _ | ⟨a23,l⟩
  · simp at h
  rcases l with _ | ⟨a24,l⟩
  · simp at h
  rcases l with _ | ⟨a25,l⟩
  · simp at h
  rcases l with _ | ⟨a26,l⟩
  · simp at h
  rcases l with _ | ⟨a27,l⟩
  · simp at h
  rcases l with _ | ⟨a28,l⟩
  · simp at h
  rcases l with _ | ⟨a29,l⟩
  · simp at h
  rcases l with _ | ⟨a30,l⟩
  · simp at h
  rcases l with _ | ⟨a31,l⟩
  · simp at h
  obtain rfl:l=[]:=by simpa using h
  exact ⟨a0,a1,a2,a3,a4,a5,a6,a7,a8,a9,a10,a11,a12,a13,a14,a15,a16,a17,a18,a19,a20,a21,a22,a23,a24,a25,a26,a27,a28,a29,a30,a31,rfl⟩
set_option maxRecDepth 100000 in
theorem build93 (op:UInt8) {who rest more:List UInt8} (hw:who.length=32) (hr:rest.length=32) (hm:more.length=32) (path:ByteArray) (err:Nat) (W:World) :
    (Instr.build 93 #[(0,.int .u8 (op.toNat:Int)),(1,.agg (brow who)),(2,.string path),(3,.agg (brow rest)),(4,.int .i64 (err:Int)),(5,.agg (brow more))]).run Tryz.prog W=.ok (.agg (ecells op who path rest err more)) W:=by
  obtain ⟨a0,a1,a2,a3,a4,a5,a6,a7,a8,a9,a10,a11,a12,a13,a14,a15,a16,a17,a18,a19,a20,a21,a22,a23,a24,a25,a26,a27,a28,a29,a30,a31,rfl⟩:=list32 hw
  obtain ⟨b0,b1,b2,b3,b4,b5,b6,b7,b8,b9,b10,b11,b12,b13,b14,b15,b16,b17,b18,b19,b20,b21,b22,b23,b24,b25,b26,b27,b28,b29,b30,b31,rfl⟩:=list32 hr
  obtain ⟨c0,c1,c2,c3,c4,c5,c6,c7,c8,c9,c10,c11,c12,c13,c14,c15,c16,c17,c18,c19,c20,c21,c22,c23,c24,c25,c26,c27,c28,c29,c30,c31,rfl⟩:=list32 hm
  kernel_rfl
theorem info90:(Tryz.prog.info? 90).map (·.size)=some 33:=by kernel_rfl
theorem info93:(Tryz.prog.info? 93).map (·.size)=some 99:=by kernel_rfl
theorem row_range {W:World} {b:Nat} {E:Array Value} {ty:TypeId} (h:W.heap[b]?=some (.cells E ty (0,0))):W.rangeAt b 0 E.toList:=fun j v hv=>by rw [Nat.zero_add,cell_of_row _ _ _ _ _ _ h,← Array.getElem?_toList];exact hv
theorem nc_one (bytes:ByteArray) (dg:List UInt8):(ncells bytes dg).all (·.oneCell')=true:=by
  refine all_oneCell_toArray fun v hv=>?_
  rcases List.mem_cons.1 hv with rfl | h
  · rfl
  · exact blist_one dg v h
theorem ec_one (op:UInt8) (who rest more:List UInt8) (path:ByteArray) (err:Nat):(ecells op who path rest err more).all (·.oneCell')=true:=by
  refine all_oneCell_toArray fun v hv=>?_
  simp only [List.mem_cons,List.mem_append] at hv
  rcases hv with rfl | h | rfl | h | rfl | h
  · rfl
  · exact blist_one _ v h
  · rfl
  · exact blist_one _ v h
  · rfl
  · exact blist_one _ v h
theorem hd_ret {fn:Func} {R:Ending→World→Prop} {tmps:Array Value} {w:World} {i j b:Nat} {n:Int} {D:List UInt8} (hf:fn.results=#[.tmp i,.cell j 29]) (hD:D.length=32) (h1:tmps.getD i undef=.int .i64 n) (h2:tmps.getD j undef=.pointer (some ⟨b,0,none⟩)) (hrow:w.heap[b]?=some (.cells (brow D) 29 (0,0)))
    (hR:R (.returned (.tuple #[.int .i64 n,.agg (brow D)])) w):bodyPost Tryz.prog fn R .ret { tmps:=tmps,defers:=[] } w:=by
  have h1':tmps[i]?.getD undef=.int .i64 n:=by simpa using h1
  have h2':tmps[j]?.getD undef=.pointer (some ⟨b,0,none⟩):=by simpa using h2
  have l1:(loadVar 29 ⟨b,0,none⟩).run Tryz.prog w=.ok (.agg (brow D)) w:=run_loadVar_row w _ 29 29 (brow D) (0,0) _ hrow Tryz.underlying29 rfl (by rw [brow_size,hD];exact info29)
  refine bodyPost_ret (v:=.tuple #[.int .i64 n,.agg (brow D)]) ?_ rfl hR
  simp [results,hf,h1',h2',asAddr,l1]
set_option maxRecDepth 100000 in
set_option maxHeartbeats 1000000 in
theorem headA_go (B:Nat) (w:World) (lp:Nat) (rv:Value) (SL:List (Loc Snk)) (cnt:Nat) (last:List UInt8) (h:LAt B w lp rv SL cnt last) :
    Calls Tryz.prog 31 #[.pointer (some ⟨lp,0,none⟩)] w fun e w'=>e=.returned (.tuple #[.int .i64 (cnt:Int),.agg (brow last)])∧Kept w.heap.size w w':=by
  have hlen:=h.len
  obtain ⟨w1,hw1⟩:∃ w1,w1=w.alloc (.cells (brow (List.replicate 32 0)) 29):=⟨_,rfl⟩
  have hbx:w1.heap[w.heap.size]?=some (.cells (brow (List.replicate 32 0)) 29 (0,0)):=by rw [hw1];exact heap_alloc_new _ _
  have HK1:=hide (show Kept w.heap.size w w1 by rw [hw1];exact (Kept.refl _ _).alloc (Nat.le_refl _) _)
  have HS:=hide (show ∀ W,Kept w.heap.size w W→W.cell? ⟨lp,1,none⟩=some (.int .i64 (cnt:Int))∧W.rangeAt lp 2 (blist last) from fun W hW=>(h.kept hW).c.2)
  have hi29:=info29s last hlen
  clear h
  go_enter Tryz.func31,Tryz.ntmps31
  go_wp2_with fail
  change Code.wp _ _ _ _ (w.alloc (.cells (brow (List.replicate 32 0)) 29))
  rw [← hw1]
  clear hw1
  refine wp_region_held_drew (S:=fun W=>W.cell? ⟨lp,1,none⟩=some (.int .i64 (cnt:Int))∧W.rangeAt lp 2 (blist last)) (by kernel_rfl) (uh HS w1.drew ((uh HK1).draws 1)) (fun hHeld=>?_)
  refine tkL 3 [(0,some 4,.pointer (some ⟨lp,0,none⟩)),(1,some 5,.pointer (some ⟨lp,0,none⟩)),(2,some 6,.pointer (some ⟨lp,1,none⟩))] (by kernel_rfl) (fun _ _ _ _ _ h=>h) (fun _ _=>by kernel_rfl) hHeld ?_
  simp only [zz0,zz1,zz2,zz4,zz5]
  refine tkG 3 (some 7) (.load 3 (.tmp 6)) 3 none (.int .i64 (cnt:Int)) (by kernel_rfl) (fun _ _ _ h=>h) (Or.inl ⟨by kernel_rfl,fun W hW=>by simp [execOp,go_sem,hW.1]⟩) hHeld ?_
  simp only [zz0,zz1,zz2]
  refine tkL 3 [(4,some 8,.pointer (some ⟨lp,0,none⟩)),(5,some 9,.pointer (some ⟨lp,0,none⟩)),(6,some 10,.pointer (some ⟨lp,2,none⟩))] (by kernel_rfl) (fun _ _ _ _ _ h=>h) (fun _ _=>by kernel_rfl) hHeld ?_
  simp only [zz0,zz1,zz2,zz4,zz5]
  refine tkG 7 (some 11) (.load 29 (.tmp 10)) 29 none (.agg (blist last).toArray) (by kernel_rfl) (fun _ _ _ h=>h) (yieldsIf_load_mid (by kernel_rfl) 29 (.tmp 10) rfl lp 2 (by kernel_rfl) (blist last) _ (fun W hW=>hW.2) Tryz.underlying29 rfl hi29) hHeld ?_
  simp only [zz0,zz1,zz2]
  refine tkP 8 (some 2) (.int .i64 (cnt:Int)) (by kernel_rfl) (fun _ _ _ h=>h) (fun _ _=>by kernel_rfl) hHeld ?_
  simp only [zz0,zz1,zz2]
  refine rd1 9 none (.store 29 (.tmp 3) (.tmp 11)) 0 (by kernel_rfl) (fun K hK=>?_)
  refine wp_store_row 29 (.tmp 3) (.tmp 11) ?_ w.heap.size (brow last) ?_ ?_ 29 _ (show w1.drew.heap[w.heap.size]?=_ from hbx) (by rw [brow_size,hlen];exact info29) (by rw [brow_size,brow_size,hlen];rfl) (brow_one _) ?_
  · rfl
  · kernel_rfl
  · kernel_rfl
  simp only [Act.put]
  have hr5:(w1.drew.setRow w.heap.size (brow last)).heap[w.heap.size]?=some (.cells (brow last) 29 (0,0)):=setRow_heap _ _ _ _ _ _ (show w1.drew.heap[w.heap.size]?=_ from hbx)
  have HK5:=hide (show Kept w.heap.size w (w1.drew.setRow w.heap.size (brow last)) from ((uh HK1).draws 1).setRow (Nat.le_refl _) (brow last))
  generalize w1.drew.setRow w.heap.size (brow last)=w5 at hr5 HK5 hK ⊢
  show K _ w5
  refine hK.out _ _ (uh HS w5 (uh HK5)) (fun hHeld9=>?_)
  clear hK K
  try simp only [zz3]
  refine wpAnyH_done (by kernel_rfl) ?_ _
  go_wp2_with fail
  exact hd_ret Tryz.results31 hlen rfl rfl hr5 ⟨rfl,uh HK5⟩
set_option maxRecDepth 100000 in
set_option maxHeartbeats 2000000 in
theorem bind_go (B:Nat) (w:World) (lp:Nat) (rv:Value) (SL:List (Loc Snk)) (cnt:Nat) (last:List UInt8) (h:LAt B w lp rv SL cnt last) (op:UInt8) {who rest more:List UInt8} (hL:Lens last who rest more) (path:ByteArray) (hp:path.size≤1000) (err:Nat) (he:err<256) (hc:cnt<9223372036854775808) (hT:Table w) (hz:0<w.heap.size) :
    Calls Tryz.prog 37 #[.pointer (some ⟨lp,0,none⟩),.agg (ecells op who path rest err more)] w fun e w'=>e=.returned (.agg (ncells (bs (entL last cnt op who path rest err more)) (Sha.digest (entL last cnt op who path rest err more))))∧Kept w.heap.size w w':=by
  have hlen:=h.len
  obtain ⟨E,hE⟩:∃ E,E=ecells op who path rest err more:=⟨_,rfl⟩
  have hE99:E.size=99:=by rw [hE];exact (ec_facts hL op path err).1
  have HBY:=hide (entBytes_go last who rest more hL op path hp err he cnt hc)
  rw [← hE] at HBY ⊢
  have hEL:(entL last cnt op who path rest err more).length≤1135:=by
    have hpl:=size_toList path
    simp only [entL,List.length_append,List.length_cons,leN_length,hL.l,hL.w,hL.r,hL.m,hpl];omega
  generalize entL last cnt op who path rest err more=EL at *
  have HDG:=hide (show Sha.digest (bs EL).data.toList=Sha.digest EL by rw [bs_list])
  have hEs:(bs EL).size≤1135:=by rw [bs_size];exact hEL
  clear hE hEL
  obtain ⟨w1,hw1⟩:∃ w1,w1=(w.alloc (.cells E 93)).alloc (.cells (ncells .empty (List.replicate 32 0)) 90):=⟨_,rfl⟩
  have hb1:w1.heap[w.heap.size]?=some (.cells E 93 (0,0)):=by rw [hw1,Below.heap_alloc _ _ _ (by simp)];exact heap_alloc_new _ _
  have hb2:w1.heap[w.heap.size+1]?=some (.cells (ncells .empty (List.replicate 32 0)) 90 (0,0)):=by rw [hw1];have:=heap_alloc_new (w.alloc (.cells E 93)) (.cells (ncells .empty (List.replicate 32 0)) 90);simpa only [World.size_alloc] using this
  have HK1:=hide (show Kept w.heap.size w w1 by rw [hw1];exact ((Kept.refl _ _).alloc (Nat.le_refl _) _).alloc (by simp) _)
  have hz1:w1.heap.size=w.heap.size+2:=by rw [hw1];simp
  have HS:=hide (show ∀ W,Kept w1.heap.size w1 W→(W.cell? ⟨lp,1,none⟩=some (.int .i64 (cnt:Int))∧W.rangeAt lp 2 (blist last))∧W.heap[w.heap.size]?=some (.cells E 93 (0,0)) from fun W hW=>⟨((h.kept (uh HK1)).kept hW).c.2,(hW.block _ (by omega)).trans hb1⟩)
  have hi29:=info29s last hlen
  have HT:=hide hT
  clear h hT hb1
  go_enter Tryz.func37,Tryz.ntmps37
  go_wp2_with fail
  change Code.wp _ _ _ _ ((w.alloc (.cells E 93)).alloc (.cells (ncells .empty (List.replicate 32 0)) 90))
  rw [← hw1]
  clear hw1
  refine wp_region_held_drew (S:=fun W=>(W.cell? ⟨lp,1,none⟩=some (.int .i64 (cnt:Int))∧W.rangeAt lp 2 (blist last))∧W.heap[w.heap.size]?=some (.cells E 93 (0,0))) (by kernel_rfl) (uh HS w1.drew ((Kept.refl _ _).draws 1)) (fun hHeld=>?_)
  refine tkG 0 (some 6) (.load 93 (.tmp 3)) 93 none (.agg E) (by kernel_rfl) (fun _ _ _ h=>h) (yieldsIf_load_mid (by kernel_rfl) 93 (.tmp 3) rfl w.heap.size 0 (by kernel_rfl) E.toList _ (fun W hW=>row_range hW.2) Tryz.underlying93 rfl (by rw [Array.length_toList,hE99];exact info93)) hHeld ?_
  simp only [zz0,zz1,zz2]
  refine tkL 3 [(1,some 7,.pointer (some ⟨lp,0,none⟩)),(2,some 8,.pointer (some ⟨lp,0,none⟩)),(3,some 9,.pointer (some ⟨lp,2,none⟩))] (by kernel_rfl) (fun _ _ _ _ _ h=>h) (fun _ _=>by kernel_rfl) hHeld ?_
  simp only [zz0,zz1,zz2,zz4,zz5]
  refine tkG 4 (some 10) (.load 29 (.tmp 9)) 29 none (.agg (blist last).toArray) (by kernel_rfl) (fun _ _ _ h=>h) (yieldsIf_load_mid (by kernel_rfl) 29 (.tmp 9) rfl lp 2 (by kernel_rfl) (blist last) _ (fun W hW=>hW.1.2) Tryz.underlying29 rfl hi29) hHeld ?_
  simp only [zz0,zz1,zz2]
  refine tkL 3 [(5,some 11,.pointer (some ⟨lp,0,none⟩)),(6,some 12,.pointer (some ⟨lp,0,none⟩)),(7,some 13,.pointer (some ⟨lp,1,none⟩))] (by kernel_rfl) (fun _ _ _ _ _ h=>h) (fun _ _=>by kernel_rfl) hHeld ?_
  simp only [zz0,zz1,zz2,zz4,zz5]
  refine tkG 8 (some 14) (.load 3 (.tmp 13)) 3 none (.int .i64 (cnt:Int)) (by kernel_rfl) (fun _ _ _ h=>h) (Or.inl ⟨by kernel_rfl,fun W hW=>by simp [execOp,go_sem,hW.1.1]⟩) hHeld ?_
  simp only [zz0,zz1,zz2]
  refine rd1 9 (some 15) (.call { callee:=.value (.func 73),args:=#[.tmp 6,.tmp 10,.tmp 14],argTypes:=#[93,29,3] }) 9 (by kernel_rfl) (fun K hK=>?_)
  go_simp
  refine (uh HBY w1.drew).mono ?_
  rintro _ w2 ⟨rfl,hk2⟩
  have HK2:=hide (show Kept w1.heap.size w1 w2 from ⟨hk2.os,hk2.output,hk2.size,hk2.block⟩)
  clear hk2
  show K _ w2
  refine hK.out _ _ (uh HS w2 (uh HK2)) (fun hHeld9=>?_)
  clear hK K
  try simp only [zz0,zz1,zz2]
  refine tkP 10 (some 5) (.string (bs EL)) (by kernel_rfl) (fun _ _ _ h=>h) (fun _ _=>by kernel_rfl) hHeld9 ?_
  simp only [zz0,zz1,zz2]
  refine wpAnyH_done (by kernel_rfl) ?_ _
  clear hHeld hHeld9
  have hb2':=((uh HK2).block _ (show w.heap.size+1<w1.heap.size by omega)).trans hb2
  have hz2:=(uh HK2).size
  have hT2:Table w2:=(uh HT).kept ((uh HK1).trans ((uh HK2).mono (by omega))) hz
  have hdl:=Sha.digest_length EL
  go_wp2_with fail
  refine (of_go (bs EL) w2 (by omega) hT2 (by omega)).mono ?_
  rintro _ w3 ⟨rfl,hb3⟩
  rw [uh HDG]
  obtain ⟨DG,hDG⟩:∃ DG,DG=Sha.digest EL:=⟨_,rfl⟩
  rw [← hDG] at hdl ⊢
  have HDD:=hide hDG
  clear hDG
  have hb3':=(hb3.block _ (show w.heap.size+1<w2.heap.size by omega)).trans hb2'
  have HK3:=hide ((uh HK2).trans ((Kept.of hb3).mono hz2))
  have hbs:(brow DG).size=32:=by rw [brow_size,hdl]
  have hfs:=fold_seal1 (bs EL) hdl
  have hns:(sealA (bs EL) DG).size=33:=sealA_size hdl
  have hno:(sealA (bs EL) DG).all (·.oneCell')=true:=nc_one (bs EL) DG
  have hi90:(Tryz.prog.info? 90).map (·.size)=some (sealA (bs EL) DG).size:=by rw [hns];exact info90
  clear hb3 hb2'
  obtain ⟨NC,hNC⟩:∃ NC,NC=sealA (bs EL) DG:=⟨_,rfl⟩
  rw [← hNC] at hns hno hi90 hfs
  have HNC:=hide hNC
  clear hNC
  go_wp2_with (refine wpList_store_put rfl 90 (.tmp 4) (.tmp 19) rfl (w.heap.size+1) NC ?_ ?_ 90 (ncells .empty (List.replicate 32 0)) ?_ hi90 (by rw [hns];rfl) hno ?_
               · rfl
               · rfl
               · exact hb3'
               intro w5 hp5)
  exact bodyPost_ret (v:=.agg NC) (results_cell_row Tryz.results37 _ _ (w.heap.size+1) 90 _ (0,0) _ rfl hp5.row Tryz.underlying90 rfl hi90) rfl ⟨by rw [uh HNC,uh HDD],(uh HK1).trans (((uh HK3).mono (by omega)).trans (Kept.of (hp5.below (by omega))))⟩
end Go.Proofs.YtlbacbcenejngaaGreatDoor
namespace Go.Proofs.YtlbacbcenejngaaGreatDoor
open Go.RowKit Go.MapKept
theorem info237:(Tryz.prog.info? 237).map (fun i=>(i.zero,i.size,i.bytes))=some (some (.agg #[.int .u8 0,.string .empty]),2,24):=by kernel_rfl
theorem lk_no {K α:Type} [DecidableEq K] {k:K}:∀ {l:List (K × α)},lk k l=none→∀ p∈l,p.1≠k
 | [],_,p,hp=>by cases hp
 | q::l,h,p,hp=>by
  rw [lk] at h
  split at h
  ·cases h
  ·rename_i hq
   rcases List.mem_cons.1 hp with rfl | hp
   ·exact hq
   ·exact lk_no h p hp
theorem wp_append_ver {w:World} {o:Oper} {act:Act} {K:Act→World→Prop} {Q:Exit→Act→World→Prop} (s x:Operand)
  (ho:o.op=.call { callee:=.builtin .append,args:=#[s,x],argTypes:=#[233,233] }) (B:Nat)
  (v:Value) (l:List (Nat × ByteArray)) (f:Nat × ByteArray) (w0:World) (hs:act.eval s=v) (hown:w0.ownsRow B 237 2 v l.length (vcells l)) (hl:l.length≤4194304)
  (hx:act.eval x=.slice (some ⟨w0.heap.size,0,none⟩) 1 1) (hw:w=w0.alloc (.cells (vcell f).toArray 237)) (hB:B≤w0.heap.size)
  (h:∀ v' w',w'.ownsRow B 237 2 v' (l++[f]).length (vcells (l++[f]))→Upd w0.heap.size v v' w0 w'→K (act.put o.dst v') w'):Oper.wp Tryz.prog o act w K Q:=by
 obtain ⟨i0,hi0,hz0,hz1,hz2⟩:=info_parts info237
 subst hw
 have hlt:∀ k,v.ownBlock=some k→k<w0.heap.size:=fun k hk=>(hown.lt k hk).2
 refine wp_append_fresh s x 233 ho B 237 i0 _ 2 24 Tryz.underlying233 hi0 hz0 hz1 hz2 rfl (by decide) v l.length (vcells l) hs (hown.alloc _) ⟨w0.heap.size,0,none⟩ 1 1 (vcell f) hx rfl (news_any rfl) ?_ (by decide) ?_ ?_ ?_ fun v' w' h1 h2 h3=>h v' w' ?_ ?_
 ·intro u hu
  simp only [vcell,List.mem_cons,List.not_mem_nil,or_false] at hu
  rcases hu with rfl | rfl <;> rfl
 ·unfold maxLen;omega
 ·omega
 ·simp;omega
 ·rw [vcells_app,List.length_append,List.length_singleton]
  simpa [vcells] using h1
 ·have hs2:=h2.size
  simp only [World.size_alloc] at hs2
  refine ⟨h2.os,h2.output,by omega,fun k hk _ hv=>(h2.block k (by simp;omega) fun e=>hv e.symm).trans (Below.heap_alloc _ _ _ hk),fun k hk=>?_⟩
  rcases h3 with h3 | h3
  ·exact .inl (h3 ▸ hk)
  ·rw [h3] at hk
   simp only [World.size_alloc,Option.some.injEq] at hk
   exact .inr (by omega)
theorem StoAt.push {B:Nat} {w w':World} {sp tb pb pp:Nat} {L:PL} {S:Sto} {n:ByteArray} {x:Pth} (h:StoAt B w sp tb pb L S) (hP:PP B x w pp (.slice none 0 0)) (hf:∀ k,Sft sp tb pb L k→k≠pp)
  (hm:MapAt .string skey w' pb (L.ptrs++[(n,.pointer (some ⟨pp,0,none⟩))])) (hc:Chg (fun k=>k=pb) w w') :
  StoAt B w' sp tb pb (L++[(n,⟨pp,.slice none 0 0,x⟩)]) { S with paths:=S.paths++[(n,x)] }:=by
 have hty:TyAt w pp 235:=⟨_,hP.1⟩
 have hP':PP B x w' pp (.slice none 0 0):=⟨(hc.block _ hty.lt (map_ne h.paths hty)).trans hP.1,own_blocks hP.2.1 (fun k hk=>by cases hk),hP.2.2⟩
 have hfam:Fam (PP B) w' L.locs:=h.fam.frame (wayP B) (fun k hk _=>hc.block k hk.lt (map_ne h.paths hk)) (fun k hk _=>hc.block k hk.lt (map_ne h.paths hk))
 refine ⟨(hc.block _ h.ty0.lt (map_ne h.paths h.ty0)).trans h.at',h.toks.stay (hc.block _ h.toks.lt fun e=>h.ne e),?_,?_,?_,h.ge,h.ne⟩
 ·simpa [PL.ptrs] using hm
 ·show S.paths++_=_
  rw [h.vals];simp [PL.vals]
 ·refine ⟨fun e he=>?_,?_⟩
  ·simp only [PL.locs,List.map_append,List.mem_append,List.map_cons,List.map_nil,List.mem_singleton] at he
   rcases he with he | rfl
   ·exact hfam.each e he
   ·exact hP'
  ·simp only [PL.locs,List.map_append,List.map_cons,List.map_nil]
   refine List.pairwise_append.2 ⟨hfam.ne,by simp,fun a ha b hb=>?_⟩
   rw [List.mem_singleton.1 hb]
   exact ⟨hf _ (.inr (.inr (.inr ⟨a,ha,.inl rfl⟩))),fun k _ e=>by cases e⟩
def SU (sp pb b2 b3 b5 pp:Nat) (q:Rq) (W:World):Prop:=W.cell? ⟨b2,0,none⟩=some (.pointer (some ⟨sp,0,none⟩))∧W.cell? ⟨sp,2,none⟩=some (.map (some pb))∧W.cell? ⟨b3,2,none⟩=some (.string q.path)∧W.cell? ⟨b5,0,none⟩=some (.pointer (some ⟨pp,0,none⟩))
def SV (b3 b5 pp n:Nat) (q:Rq) (W:World):Prop:=W.cell? ⟨b5,0,none⟩=some (.pointer (some ⟨pp,0,none⟩))∧W.cell? ⟨pp,0,none⟩=some (.int .u8 (n:Int))∧W.cell? ⟨b3,4,none⟩=some (.string q.value)
theorem su_all {B n0:Nat} {w:World} {sp tb pb b2 b3 b5 pp:Nat} {L:PL} {S:Sto} {q:Rq} (h:StoAt B w sp tb pb L S) (hb:Bx n0 w sp b2 b3 q) (h5:w.heap[b5]?=some (.cells #[.pointer (some ⟨pp,0,none⟩)] 231 (0,0))) (W:World) (hk:∀ k,k<w.heap.size→(∃ t,TyAt w k t)→W.heap[k]?=w.heap[k]?):SU sp pb b2 b3 b5 pp q W:=by
 have h2:=(hk _ (Array.getElem?_eq_some_iff.1 hb.s).1 ⟨_,_,hb.s⟩).trans hb.s
 have h3:RqAt W b3 q:=(hk _ hb.q.lt ⟨_,_,hb.q⟩).trans hb.q
 have hs:=(hk _ h.ty0.lt ⟨_,h.ty0⟩).trans h.at'
 have h6:=(hk _ (Array.getElem?_eq_some_iff.1 h5).1 ⟨_,_,h5⟩).trans h5
 exact ⟨by rw [cell_of_row _ _ _ _ _ _ h2];rfl,by rw [cell_of_row _ _ _ _ _ _ hs];rfl,by rw [h3.c 2];rfl,by rw [cell_of_row _ _ _ _ _ _ h6];rfl⟩
structure Pu (B n0:Nat) (w:World) (sp tb pb pp:Nat) (L:PL) (S:Sto) (q:Rq) (w1:World) (L':PL) (S':Sto) (e:Loc Pth):Prop where
 sto:StoAt B w1 sp tb pb L' S'
 at':∃ i,∃ hi:i<L'.length,L'[i]=(q.path,e)∧(∀ j (hj:j<i),L'[j].1≠q.path)
 p:e.p=pp
 val:{ S' with paths:=putM q.path ⟨e.x.next+1,e.x.vers++[(e.x.next,q.value)]⟩ S'.paths }=S.carry q .put
 foot:∀ k,Sft sp tb pb L' k→Sft sp tb pb L k∨n0≤k
 small:e.x.next≤254∧e.x.vers.length≤1000
theorem pu_of {B n0:Nat} {w wk:World} {sp tb pb pp:Nat} {L:PL} {S:Sto} {q:Rq} (h:StoAt B w sp tb pb L S) (hk:Kept w.heap.size w wk) (hf:∀ k,Sft sp tb pb L k→k<n0) (hn:∀ p,lk q.path S.paths=some p→p.next≤254∧p.vers.length≤1000)
  (hp:(∃ i,∃ hi:i<L.length,L[i].1=q.path∧(∀ j (hj:j<i),L[j].1≠q.path)∧pp=L[i].2.p)∨(lk q.path L.vals=none∧lk q.path L.ptrs=none∧PP B ⟨1,[]⟩ w pp (.slice none 0 0)∧n0≤pp)) :
  ∃ L' S' e,∀ w1,MapAt .string skey w1 pb (putM q.path (.pointer (some ⟨pp,0,none⟩)) L.ptrs)→Chg (fun k=>k=pb) wk w1→Pu B n0 w sp tb pb pp L S q w1 L' S' e:=by
 have h':=h.kept hk
 rcases hp with ⟨i,hi,h1,h2,rfl⟩ | ⟨h1,h2,h3,h4⟩
 ·have hlk:lk q.path S.paths=some L[i].2.x:=by
   rw [h.vals,PL.vals]
   exact lk_at (j:=i) (p:=(L[i].1,L[i].2.x)) (by rw [List.getElem?_map,List.getElem?_eq_getElem hi];rfl) h1 fun j hj p hp=>by
    rw [List.getElem?_map,List.getElem?_eq_getElem (by omega)] at hp
    cases hp
    exact h2 j hj
  have hpt:putM q.path (.pointer (some ⟨L[i].2.p,0,none⟩)) L.ptrs=L.ptrs:=by
   rw [PL.ptrs,putM_at (j:=i) (p:=(L[i].1,.pointer (some ⟨L[i].2.p,0,none⟩))) (by rw [List.getElem?_map,List.getElem?_eq_getElem hi];rfl) h1 fun j hj p hp=>by
    rw [List.getElem?_map,List.getElem?_eq_getElem (by omega)] at hp
    cases hp
    exact h2 j hj]
   apply List.ext_getElem?
   intro j
   rw [List.getElem?_set]
   by_cases hj:i=j
   ·subst hj;simp [hi,h1]
   ·simp [hj]
  refine ⟨L,S,L[i].2,fun w1 hm hc=>⟨?_,⟨i,hi,Prod.ext h1 rfl,h2⟩,rfl,?_,fun k hk=>.inl hk,hn _ hlk⟩⟩
  ·rw [hpt] at hm
   exact ⟨(hc.block _ h'.ty0.lt (map_ne h'.paths h'.ty0)).trans h'.at',h'.toks.stay (hc.block _ h'.toks.lt fun e=>h'.ne e),hm,h'.vals,
    h'.fam.frame (wayP B) (fun k hk _=>hc.block k hk.lt (map_ne h'.paths hk)) (fun k hk _=>hc.block k hk.lt (map_ne h'.paths hk)),h'.ge,h'.ne⟩
  ·unfold Sto.carry
   rw [hlk]
   rfl
 ·have hpv:lk q.path S.paths=none:=by rw [h.vals];exact h1
  have hpt:putM q.path (.pointer (some ⟨pp,0,none⟩)) L.ptrs=L.ptrs++[(q.path,.pointer (some ⟨pp,0,none⟩))]:=putM_none (lk_no h2)
  refine ⟨_,_,⟨pp,.slice none 0 0,⟨1,[]⟩⟩,fun w1 hm hc=>⟨h'.push (n:=q.path) (pp:=pp) (x:=⟨1,[]⟩) ⟨(hk.block _ (Array.getElem?_eq_some_iff.1 h3.1).1).trans h3.1,World.ownsRow_nil _ _ _ _,h3.2.2⟩ (fun k hk' e=>by have:=hf k hk';omega) (by rw [← hpt];exact hm) hc,⟨L.length,by simp,by simp,fun j hj=>?_⟩,rfl,?_,fun k hk'=>?_,⟨by show 1≤254;decide,by show 0≤1000;decide⟩⟩⟩
  ·have:=lk_no h1 (L[j].1,L[j].2.x) (by rw [PL.vals];exact List.mem_map.2 ⟨L[j],List.getElem_mem hj,rfl⟩)
   rw [List.getElem_append_left hj]
   exact this
  ·unfold Sto.carry
   rw [hpv]
   show ({ S with paths:=putM q.path _ (S.paths++[(q.path,_)]) }:Sto)=_
   have e1:∀ y z:Pth,putM q.path y (S.paths++[(q.path,z)])=putM q.path y S.paths:=fun y z=>by
    rw [putM_none (lk_no hpv),putM_at (j:=S.paths.length) (p:=(q.path,z)) (by simp) rfl fun j hj p hp=>?_]
    ·simp
    ·rw [List.getElem?_append_left hj] at hp
     exact lk_no hpv p (List.mem_of_getElem? hp)
   rw [e1]
   rfl
  ·rcases hk' with hk' | hk' | hk' | ⟨e,he,hk'⟩
   ·exact .inl (.inl hk')
   ·exact .inl (.inr (.inl hk'))
   ·exact .inl (.inr (.inr (.inl hk')))
   ·simp only [PL.locs,List.map_append,List.mem_append,List.map_cons,List.map_nil,List.mem_singleton] at he
    rcases he with he | rfl
    ·exact .inl (.inr (.inr (.inr ⟨e,he,hk'⟩)))
    ·rcases hk' with hk' | hk'
     ·exact .inr (by rw [← hk'];exact h4)
     ·cases hk'
theorem pu_end {B n0:Nat} {w wk w1 w2 w3 w4 w5:World} {sp tb pb pp:Nat} {L L':PL} {S S':Sto} {q:Rq} {e:Loc Pth} {v':Value} (hk:Kept w.heap.size w wk) (hc:Chg (fun k=>k=pb) wk w1) (h:Pu B n0 w sp tb pb pp L S q w1 L' S' e) (h2:Kept w1.heap.size w1 w2) (hu:Upd w2.heap.size e.v v' w2 w3) (ho:w3.ownsRow B 237 2 v' (e.x.vers++[(e.x.next,q.value)]).length (vcells (e.x.vers++[(e.x.next,q.value)])))
  (h4:w4=w3.setCell ⟨pp,1,none⟩ v') (h5:w5=w4.setCell ⟨pp,0,none⟩ (.int .u8 ((e.x.next+1:Nat):Int))) (_hB:B≤w1.heap.size) (hn0:n0≤w.heap.size) {Mp:List (ByteArray × Value)} (hmap:MapAt .string skey wk pb Mp):cyEnd B n0 w sp tb pb L (S.carry q .put) (.returned (.tuple #[])) w5:=by
 obtain ⟨i,hi,he,hb⟩:=h.at'
 have hp:=h.p
 subst hp
 have hmem:e∈L'.locs:=List.mem_map.2 ⟨L'[i],List.getElem_mem hi,by rw [he]⟩
 have hs2:=h.sto.kept h2
 have hP2:=hs2.fam.each e hmem
 have hplt:e.p<w2.heap.size:=((wayP B).ty hP2).lt
 have hpne:e.v.ownBlock≠some e.p:=fun hk=>((wayP B).row hP2 hk).1.ne ((wayP B).ty hP2) (by decide) rfl
 have h3:w3.heap[e.p]?=some (.cells #[.int .u8 (e.x.next:Int),e.v] 235 (0,0)):=(hu.block _ hplt (by omega) hpne).trans hP2.1
 have h4a:w4.heap[e.p]?=some (.cells #[.int .u8 (e.x.next:Int),v'] 235 (0,0)):=by rw [h4,heap_setCell_same _ _ _ _ _ _ h3];rfl
 have h5a:w5.heap[e.p]?=some (.cells #[.int .u8 ((e.x.next+1:Nat):Int),v'] 235 (0,0)):=by rw [h5,heap_setCell_same _ _ _ _ _ _ h4a];rfl
 have hpv:∀ k,v'.ownBlock=some k→k≠e.p:=fun k hk e'=>by
  have:=own_ty ho hk
  rw [e'] at this
  exact (show TyAt w3 e.p 237 from this).ne ⟨_,h3⟩ (by decide) rfl
 have hoth:∀ k,k≠e.p→w5.heap[k]?=w3.heap[k]?:=fun k hk=>by rw [h5,heap_setCell_other _ _ _ _ hk,h4,heap_setCell_other _ _ _ _ hk]
 have ho5:w5.ownsRow B 237 2 v' (e.x.vers++[(e.x.next,q.value)]).length (vcells (e.x.vers++[(e.x.next,q.value)])):=own_blocks ho fun k hk=>hoth k (hpv k hk)
 have hz5:w5.heap.size=w3.heap.size:=by rw [h5,h4];simp
 have hu5:Upd e.p e.v v' w2 w5:=⟨by rw [h5,h4];exact hu.os,by rw [h5,h4];exact hu.output,by rw [hz5];exact hu.size,fun k hk h1 h2=>(hoth k h1).trans (hu.block k hk (by omega) h2),hu.new⟩
 have hS5:=hs2.upd hi (fun j hj=>by rw [he];exact hb j hj) (v':=v') (x':=⟨e.x.next+1,e.x.vers++[(e.x.next,q.value)]⟩) (by rw [he];exact ⟨h5a,ho5,hP2.2.2⟩) (by rw [he];exact hu5)
 rw [he] at hS5
 have hST:Stay [169,236,238,0] w w5:=by
  have s1:Stay [0] wk w1:=stay_one (map_knd hmap) (fun k hne hlt=>hc.block k hlt hne) (by decide)
  have s3:Stay [236,238] w2 w5:=fun k n hk hn=>hu5.block k (knd_lt hk) (fun e'=>by subst e';rw [((wayP B).ty hP2).knd] at hk;cases hk;exact hn (by decide)) (fun e'=>by rw [((wayP B).row hP2 e').1.knd] at hk;cases hk;exact hn (by decide))
  exact (((hk.stay.trans s1).trans h2.stay).trans s3).mono (by decide)
 refine ⟨rfl,L'.set i (q.path,⟨e.p,v',⟨e.x.next+1,e.x.vers++[(e.x.next,q.value)]⟩⟩),?_,?_,fun k hk'=>?_,hST⟩
 ·rw [← h.val];exact hS5
 ·have c1:Chg (fun k=>Sft sp tb pb L k∨n0≤k) w wk:=⟨hk.os,hk.output,hk.size,fun k hk' _=>hk.block k hk'⟩
  have c2:Chg (fun k=>Sft sp tb pb L k∨n0≤k) w w1:=c1.trans' hc fun i _ e=>.inl (.inr (.inr (.inl e)))
  have c3:Chg (fun k=>Sft sp tb pb L k∨n0≤k) w w2:=c2.trans' h2.chg fun i _ e=>e.elim
  refine c3.trans' (S':=fun k=>k=e.p∨e.v.ownBlock=some k) ⟨hu5.os,hu5.output,hu5.size,fun k hk hn=>hu5.block k hk (fun e=>hn (.inl e)) (fun e=>hn (.inr e))⟩ fun k _ hk=>?_
  exact h.foot k (.inr (.inr (.inr ⟨e,hmem,hk.imp (fun e=>e.symm) id⟩)))
 ·have:=Sft.set (n0:=w2.heap.size) (L:=L') hi (v':=v') (x':=⟨e.x.next+1,e.x.vers++[(e.x.next,q.value)]⟩) (m:=q.path) (fun k hk=>by rw [he];exact hu.new k hk) (k:=k) (by rw [he];exact hk')
  rcases this with h1 | h1
  ·exact h.foot k h1
  ·exact .inr (by have:=hk.size;have:=hc.size;have:=h2.size;omega)
set_option maxRecDepth 100000 in
set_option maxHeartbeats 2000000 in
theorem putC_go (B n0:Nat) (w:World) (sp tb pb b2 b3 b5 pp:Nat) (L:PL) (S:Sto) (q:Rq) (h:StoAt B w sp tb pb L S) (hb:Bx n0 w sp b2 b3 q) (h5:w.heap[b5]?=some (.cells #[.pointer (some ⟨pp,0,none⟩)] 231 (0,0))) (hn0:n0≤w.heap.size) (hB:B≤w.heap.size)
  (hf:∀ k,Sft sp tb pb L k→k<n0) (hn:∀ p,lk q.path S.paths=some p→p.next≤254∧p.vers.length≤1000) (hp1:q.path.size≤1000) (hp2:q.value.size≤1000)
  (hp:(∃ i,∃ hi:i<L.length,L[i].1=q.path∧(∀ j (hj:j<i),L[j].1≠q.path)∧pp=L[i].2.p)∨(lk q.path L.vals=none∧lk q.path L.ptrs=none∧PP B ⟨1,[]⟩ w pp (.slice none 0 0)∧n0≤pp)) :
  Calls Tryz.prog 168 #[.pointer (some ⟨b5,0,none⟩),.pointer (some ⟨b2,0,none⟩),.pointer (some ⟨b3,0,none⟩)] w (cyEnd B n0 w sp tb pb L (S.carry q .put)):=by
 have HSU:=hide (su_all h hb h5)
 have HPU:=hide (fun wk (hk:Kept w.heap.size w wk)=>pu_of h hk hf hn hp)
 have HMP:=hide h
 have HBX:=hide hb
 have H5:=hide h5
 have HB:=hide hB
 have HN0:=hide hn0
 clear h hb h5 hf hn hp hB hn0
 go_enter Tryz.func168,Tryz.ntmps168
 go_wp2_with fail
 refine wp_region_held_drew (S:=SU sp pb b2 b3 b5 pp q) (by kernel_rfl) (uh HSU w.drew (fun k hk _=>rfl)) (fun hHeld=>?_)
 refine tkG 0 (some 3) (.load 76 (.tmp 1)) 76 none (.pointer (some ⟨sp,0,none⟩)) (by kernel_rfl) (fun _ _ _ h=>h) (Or.inl ⟨by kernel_rfl,fun W hW=>by simp [execOp,go_sem,hW.1]⟩) hHeld ?_
 simp only [zz0,zz1,zz2]
 refine tkL 2 [(1,some 4,.pointer (some ⟨sp,0,none⟩)),(2,some 5,.pointer (some ⟨sp,2,none⟩))] (by kernel_rfl) (fun _ _ _ _ _ h=>h) (fun _ _=>by kernel_rfl) hHeld ?_
 simp only [zz0,zz1,zz2,zz4,zz5]
 refine tkG 3 (some 6) (.load 166 (.tmp 5)) 166 none (.map (some pb)) (by kernel_rfl) (fun _ _ _ h=>h) (Or.inl ⟨by kernel_rfl,fun W hW=>by simp [execOp,go_sem,hW.2.1]⟩) hHeld ?_
 simp only [zz0,zz1,zz2]
 refine tkP 4 (some 7) (.pointer (some ⟨b3,2,none⟩)) (by kernel_rfl) (fun _ _ _ h=>h) (fun _ _=>by kernel_rfl) hHeld ?_
 simp only [zz0,zz1,zz2]
 refine tkG 5 (some 8) (.load 9 (.tmp 7)) 9 none (.string q.path) (by kernel_rfl) (fun _ _ _ h=>h) (Or.inl ⟨by kernel_rfl,fun W hW=>by simp [execOp,go_sem,hW.2.2.1]⟩) hHeld ?_
 simp only [zz0,zz1,zz2]
 refine tkG 7 (some 10) (.load 231 (.tmp 0)) 231 none (.pointer (some ⟨pp,0,none⟩)) (by kernel_rfl) (fun _ _ _ h=>h) (Or.inl ⟨by kernel_rfl,fun W hW=>by simp [execOp,go_sem,hW.2.2.2]⟩) hHeld ?_
 simp only [zz0,zz1,zz2]
 refine rd1 6 (some 9) (.call { callee:=.value (.func 63),args:=#[.tmp 8],argTypes:=#[9] }) 9 (by kernel_rfl) (fun K hK=>?_)
 go_simp
 refine (clone_go q.path _ (by omega)).mono ?_
 rintro _ wk ⟨rfl,hk1⟩
 have HK:=hide (show Kept w.heap.size w wk from ⟨hk1.os,hk1.output,hk1.size,hk1.block⟩)
 clear hk1
 show K _ wk
 refine hK.out _ _ (uh HSU wk (fun k hk _=>(uh HK).block k hk)) (fun hHeld6=>?_)
 clear hK K
 try simp only [zz0,zz1,zz2]
 obtain ⟨L1,S1,e,hpu⟩:=uh HPU wk (uh HK)
 have HP1:=hide hpu
 clear hpu
 refine rd1 8 none (.mapUpdate 166 (.tmp 6) (.tmp 9) (.tmp 10)) 0 (by kernel_rfl) (fun K hK=>?_)
 refine wp_upd kkStr und166 (.tmp 6) (.tmp 9) (.tmp 10) (Or.inl rfl) ((uh HMP).kept (uh HK)).paths q.path (.pointer (some ⟨pp,0,none⟩)) ?_ ?_ ?_ ?_
 ·kernel_rfl
 ·kernel_rfl
 ·kernel_rfl
 intro w1 hm1 hc1 hz1
 have HC1:=hide hc1
 have HU1:=hide (uh HP1 w1 hm1 hc1)
 have hsu1:SU sp pb b2 b3 b5 pp q w1:=uh HSU w1 (fun k hk ht=>by obtain ⟨t,ht⟩:=ht;exact (hc1.block k (Nat.lt_of_lt_of_le hk (uh HK).size) (fun e=>map_ne (uh HMP).paths ht e)).trans ((uh HK).block k hk))
 clear hm1 hc1
 show K _ w1
 refine hK.out _ _ (hsu1) (fun hHeld8=>?_)
 clear hK K
 try simp only [zz3]
 refine wpAnyH_done (by kernel_rfl) ?_ _
 clear hHeld hHeld6 hHeld8 HP1 HPU
 have hB1:B≤w1.heap.size:=by have:=uh HB;have:=(uh HK).size;omega
 have hkw:∀ W,Kept w1.heap.size w1 W→∀ k,k<w.heap.size→(∃ t,TyAt w k t)→W.heap[k]?=w.heap[k]?:=fun W hW k hk ht=>by
  obtain ⟨t,ht⟩:=ht
  have hs:=(uh HK).size
  exact (hW.block k (by rw [hz1];omega)).trans (((uh HC1).block k (by omega) (fun e=>map_ne (uh HMP).paths ht e)).trans ((uh HK).block k hk))
 have HKW:=hide hkw
 clear hkw hz1
 obtain ⟨i,hi,he,hbf⟩:=(uh HU1).at'
 have hmem:e∈L1.locs:=List.mem_map.2 ⟨L1[i],List.getElem_mem hi,by rw [he]⟩
 have hP:=(uh HU1).sto.fam.each e hmem
 have hep:=(uh HU1).p
 subst hep
 have hsm:=(uh HU1).small
 clear hi he hbf
 have HSV:=hide (show ∀ W,(∀ k,k<w1.heap.size→(TyAt w1 k 231∨TyAt w1 k 84∨TyAt w1 k 235)→W.heap[k]?=w1.heap[k]?)→SV b3 b5 e.p e.x.next q W∧W.cell? ⟨e.p,1,none⟩=some e.v∧W.frozen? ⟨e.p,1,none⟩=false from fun W hW=>by
  have t5:=(uh HKW w1 (Kept.refl _ _) b5 (Array.getElem?_eq_some_iff.1 (uh H5)).1 ⟨_,_,uh H5⟩).trans (uh H5)
  have t3:RqAt w1 b3 q:=(uh HKW w1 (Kept.refl _ _) b3 (uh HBX).q.lt ⟨_,_,(uh HBX).q⟩).trans (uh HBX).q
  have a5:=(hW b5 (Array.getElem?_eq_some_iff.1 t5).1 (.inl ⟨_,t5⟩)).trans t5
  have a3:RqAt W b3 q:=(hW b3 t3.lt (.inr (.inl ⟨_,t3⟩))).trans t3
  have ap:=(hW e.p ((wayP B).ty hP).lt (.inr (.inr ((wayP B).ty hP)))).trans hP.1
  exact ⟨⟨by rw [cell_of_row _ _ _ _ _ _ a5];rfl,by rw [cell_of_row _ _ _ _ _ _ ap];rfl,by rw [a3.c 4];rfl⟩,by rw [cell_of_row _ _ _ _ _ _ ap];rfl,frozen_of_row _ _ _ _ _ ap⟩)
 have HV:=hide (show ∀ k,e.v.ownBlock=some k→TyAt w1 k 237 from fun k hk=>((wayP B).row hP hk).1)
 obtain ⟨ea,ec,hev,_,_⟩:=own_len hP.2.1
 have HOWN:=hide hP
 clear hP hmem
 have hn1:(e.x.next:Int)+1<256:=by omega
 go_wp2_with fail
 refine wp_region_held_drew (S:=SV b3 b5 e.p e.x.next q) (by kernel_rfl) ((uh HSV w1.drew (fun k hk _=>rfl)).1) (fun hHeld=>?_)
 refine tkG 0 (some 11) (.load 231 (.tmp 0)) 231 none (.pointer (some ⟨e.p,0,none⟩)) (by kernel_rfl) (fun _ _ _ h=>h) (Or.inl ⟨by kernel_rfl,fun W hW=>by simp [execOp,go_sem,hW.1]⟩) hHeld ?_
 simp only [zz0,zz1,zz2]
 refine tkG 1 (some 12) (.load 231 (.tmp 0)) 231 none (.pointer (some ⟨e.p,0,none⟩)) (by kernel_rfl) (fun _ _ _ h=>h) (Or.inl ⟨by kernel_rfl,fun W hW=>by simp [execOp,go_sem,hW.1]⟩) hHeld ?_
 simp only [zz0,zz1,zz2]
 refine tkL 2 [(2,some 13,.pointer (some ⟨e.p,0,none⟩)),(3,some 14,.pointer (some ⟨e.p,1,none⟩))] (by kernel_rfl) (fun _ _ _ _ _ h=>h) (fun _ _=>by kernel_rfl) hHeld ?_
 simp only [zz0,zz1,zz2,zz4,zz5]
 refine tkG 5 (some 16) (.load 231 (.tmp 0)) 231 none (.pointer (some ⟨e.p,0,none⟩)) (by kernel_rfl) (fun _ _ _ h=>h) (Or.inl ⟨by kernel_rfl,fun W hW=>by simp [execOp,go_sem,hW.1]⟩) hHeld ?_
 simp only [zz0,zz1,zz2]
 refine tkL 2 [(6,some 17,.pointer (some ⟨e.p,0,none⟩)),(7,some 18,.pointer (some ⟨e.p,0,none⟩))] (by kernel_rfl) (fun _ _ _ _ _ h=>h) (fun _ _=>by kernel_rfl) hHeld ?_
 simp only [zz0,zz1,zz2,zz4,zz5]
 refine tkG 8 (some 19) (.load 5 (.tmp 18)) 5 none (.int .u8 (e.x.next:Int)) (by kernel_rfl) (fun _ _ _ h=>h) (Or.inl ⟨by kernel_rfl,fun W hW=>by simp [execOp,go_sem,hW.2.1]⟩) hHeld ?_
 simp only [zz0,zz1,zz2]
 refine tkP 9 (some 20) (.pointer (some ⟨b3,4,none⟩)) (by kernel_rfl) (fun _ _ _ h=>h) (fun _ _=>by kernel_rfl) hHeld ?_
 simp only [zz0,zz1,zz2]
 refine tkG 10 (some 21) (.load 9 (.tmp 20)) 9 none (.string q.value) (by kernel_rfl) (fun _ _ _ h=>h) (Or.inl ⟨by kernel_rfl,fun W hW=>by simp [execOp,go_sem,hW.2.2]⟩) hHeld ?_
 simp only [zz0,zz1,zz2]
 refine wpAnyH_ready (rs:=[4,11]) (by kernel_rfl) (by simp) ?_
 refine rdX (some 15) (.load 233 (.tmp 14)) 233 none (by kernel_rfl) (fun K hK=>?_) ?_
 ·refine ite_wanted ?_ ?_
  ·kernel_rfl
  have hc4:=(uh HSV w1.drew (fun k hk _=>rfl)).2.1
  go_simp
  clear hc4
  refine hK.out _ _ ((uh HSV w1.drew (fun k hk _=>rfl)).1) (fun hHeld4=>?_)
  clear hK K
  try simp only [zz0,zz1,zz2]
  refine rd1 11 (some 22) (.call { callee:=.value (.func 63),args:=#[.tmp 21],argTypes:=#[9] }) 9 (by kernel_rfl) (fun K hK=>?_)
  go_simp
  refine (clone_go q.value _ (by omega)).mono ?_
  rintro _ w2 ⟨rfl,hk2⟩
  have HK2:=hide (show Kept w1.heap.size w1 w2 from ⟨hk2.os,hk2.output,hk2.size,hk2.block⟩)
  clear hk2
  show K _ w2
  refine hK.out _ _ ((uh HSV w2 (fun k hk _=>(uh HK2).block k hk)).1) (fun hHeld11=>?_)
  clear hK K
  try simp only [zz0,zz1,zz2]
  refine tkP 12 (some 23) (.agg #[.int .u8 (e.x.next:Int),.string q.value]) (by kernel_rfl) (fun _ _ _ h=>h) (fun _ _=>by kernel_rfl) hHeld11 ?_
  simp only [zz0,zz1,zz2]
  refine rd1 13 (some 24) (.buildSlice 233 1 #[(0,.tmp 23)]) 233 (by kernel_rfl) (fun K hK=>?_)
  go_simp
  show K _ (w2.alloc (.cells (vcell (e.x.next,q.value)).toArray 237))
  refine hK.out _ _ ((uh HSV (w2.alloc (.cells (vcell (e.x.next,q.value)).toArray 237)) (fun k hk _=>(Below.heap_alloc w2 (.cells (vcell (e.x.next,q.value)).toArray 237) k (Nat.lt_of_lt_of_le hk (uh HK2).size)).trans ((uh HK2).block k hk))).1) (fun hHeld13=>?_)
  clear hK K
  try simp only [zz0,zz1,zz2]
  refine rd1 14 (some 25) (.call { callee:=.builtin .append,args:=#[.tmp 15,.tmp 24],argTypes:=#[233,233] }) 233 (by kernel_rfl) (fun K hK=>?_)
  refine wp_append_ver (.tmp 15) (.tmp 24) rfl B (.slice ea e.x.vers.length ec) e.x.vers (e.x.next,q.value) w2 ?_ (hev ▸ own_kept (uh HOWN).2.1 (uh HK2)) (by omega) ?_ rfl (by have:=(uh HK2).size;omega) ?_
  ·kernel_rfl
  ·kernel_rfl
  intro v3 w3 ho3 hu3
  rw [← hev] at hu3
  have h3b:∀ k,k<w1.heap.size→(TyAt w1 k 231∨TyAt w1 k 84∨TyAt w1 k 235)→w3.heap[k]?=w1.heap[k]?:=fun k hk ht=>by
   have hs:=(uh HK2).size
   refine (hu3.block k (by omega) (by omega) (fun hv=>?_)).trans ((uh HK2).block k hk)
   have hy:=uh HV k hv
   rcases ht with ht | ht | ht <;> exact hy.ne ht (by decide) rfl
  have hsv3:=uh HSV w3 h3b
  have hc3:=hsv3.2.1
  have hf3:=hsv3.2.2
  obtain ⟨a3,c3,hv3,_,_⟩:=own_len ho3
  have HSV4:=hide (show SV b3 b5 e.p e.x.next q (w3.setCell ⟨e.p,1,none⟩ v3) from by
   have t5:=(uh HKW w1 (Kept.refl _ _) b5 (Array.getElem?_eq_some_iff.1 (uh H5)).1 ⟨_,_,uh H5⟩).trans (uh H5)
   have t3:RqAt w1 b3 q:=(uh HKW w1 (Kept.refl _ _) b3 (uh HBX).q.lt ⟨_,_,(uh HBX).q⟩).trans (uh HBX).q
   have tp:=(wayP B).ty (uh HOWN)
   have n5:b5≠e.p:=fun e'=>by rw [e'] at t5;exact tp.ne ⟨_,t5⟩ (by decide) rfl
   have n3:b3≠e.p:=fun e'=>by rw [e'] at t3;exact tp.ne ⟨_,t3⟩ (by decide) rfl
   have ap:w3.heap[e.p]?=some (.cells #[.int .u8 (e.x.next:Int),e.v] 235 (0,0)):=(h3b e.p tp.lt (.inr (.inr tp))).trans (uh HOWN).1
   have ap4:(w3.setCell ⟨e.p,1,none⟩ v3).heap[e.p]?=some (.cells #[.int .u8 (e.x.next:Int),v3] 235 (0,0)):=by rw [heap_setCell_same _ _ _ _ _ _ ap];rfl
   refine ⟨?_,by rw [cell_of_row _ _ _ _ _ _ ap4];rfl,?_⟩
   ·rw [World.cell?_of_block (w:=w3) (a:=⟨b5,0,none⟩) (heap_setCell_other _ _ _ _ n5)];exact hsv3.1.1
   ·rw [World.cell?_of_block (w:=w3) (a:=⟨b3,4,none⟩) (heap_setCell_other _ _ _ _ n3)];exact hsv3.1.2.2)
  have hfr4:(w3.setCell ⟨e.p,1,none⟩ v3).frozen? ⟨e.p,0,none⟩=false:=by
   have tp:=(wayP B).ty (uh HOWN)
   have ap:w3.heap[e.p]?=some (.cells #[.int .u8 (e.x.next:Int),e.v] 235 (0,0)):=(h3b e.p tp.lt (.inr (.inr tp))).trans (uh HOWN).1
   have ap4:(w3.setCell ⟨e.p,1,none⟩ v3).heap[e.p]?=some (.cells #[.int .u8 (e.x.next:Int),v3] 235 (0,0)):=by rw [heap_setCell_same _ _ _ _ _ _ ap];rfl
   exact frozen_of_row _ _ _ _ _ ap4
  have HEND:=hide (pu_end (w5:=(w3.setCell ⟨e.p,1,none⟩ v3).setCell ⟨e.p,0,none⟩ (.int .u8 ((e.x.next+1:Nat):Int))) (uh HK) (uh HC1) (uh HU1) (uh HK2) hu3 ho3 rfl rfl hB1 (uh HN0) ((uh HMP).kept (uh HK)).paths)
  have HS3:=hide hsv3.1
  clear hsv3 ho3 hu3 h3b
  show K _ w3
  refine hK.out _ _ (uh HS3) (fun hHeld14=>?_)
  clear hK K
  try simp only [zz0,zz1,zz2]
  refine tkL 2 [(15,some 26,.pointer (some ⟨e.p,0,none⟩)),(16,some 27,.pointer (some ⟨e.p,1,none⟩))] (by kernel_rfl) (fun _ _ _ _ _ h=>h) (fun _ _=>by kernel_rfl) hHeld14 ?_
  simp only [zz0,zz1,zz2,zz4,zz5]
  refine rd1 17 none (.store 233 (.tmp 27) (.tmp 25)) 0 (by kernel_rfl) (fun K hK=>?_)
  refine wp_store_cell233 (.tmp 27) (.tmp 25) rfl ⟨e.p,1,none⟩ ?_ a3 (e.x.vers++[(e.x.next,q.value)]).length c3 ?_ _ hc3 hf3 ?_
  ·kernel_rfl
  ·rw [hv3];kernel_rfl
  rw [← hv3]
  simp only [Act.put]
  refine hK.out _ _ (uh HSV4) (fun hHeld17=>?_)
  clear hK K
  try simp only [zz3]
  refine wpAnyH_done (by kernel_rfl) ?_ _
  have c0:=(uh HSV4).1
  have c1:=(uh HSV4).2.1
  have hwr:IntKind.u8.wrap ((e.x.next:Int)+1)=((e.x.next+1:Nat):Int):=by simp [IntKind.wrap,IntKind.bits,IntKind.signed];omega
  generalize w3.setCell ⟨e.p,1,none⟩ v3=w4 at *
  go_wp2_with fail
  refine end0 rfl rfl ?_
  exact uh HEND
 ·refine rdX (some 22) (.call { callee:=.value (.func 63),args:=#[.tmp 21],argTypes:=#[9] }) 9 none (by kernel_rfl) (fun K hK=>?_) AllReadyH.nil
  refine ite_wanted ?_ ?_
  ·kernel_rfl
  go_simp
  refine (clone_go q.value _ (by omega)).mono ?_
  rintro _ w2 ⟨rfl,hk2⟩
  have HK2:=hide (show Kept w1.heap.size w1 w2 from ⟨hk2.os,hk2.output,hk2.size,hk2.block⟩)
  clear hk2
  show K _ w2
  refine hK.out _ _ ((uh HSV w2 (fun k hk _=>(uh HK2).block k hk)).1) (fun hHeld11=>?_)
  clear hK K
  try simp only [zz0,zz1,zz2]
  refine tkP 12 (some 23) (.agg #[.int .u8 (e.x.next:Int),.string q.value]) (by kernel_rfl) (fun _ _ _ h=>h) (fun _ _=>by kernel_rfl) hHeld11 ?_
  simp only [zz0,zz1,zz2]
  refine wpAnyH_ready (rs:=[4,13]) (by kernel_rfl) (by simp) ?_
  refine rdX (some 15) (.load 233 (.tmp 14)) 233 none (by kernel_rfl) (fun K hK=>?_) ?_
  ·refine ite_wanted ?_ ?_
   ·kernel_rfl
   have hc4:=(uh HSV w2 (fun k hk _=>(uh HK2).block k hk)).2.1
   go_simp
   clear hc4
   refine hK.out _ _ ((uh HSV w2 (fun k hk _=>(uh HK2).block k hk)).1) (fun hHeld4=>?_)
   clear hK K
   try simp only [zz0,zz1,zz2]
   refine rd1 13 (some 24) (.buildSlice 233 1 #[(0,.tmp 23)]) 233 (by kernel_rfl) (fun K hK=>?_)
   go_simp
   show K _ (w2.alloc (.cells (vcell (e.x.next,q.value)).toArray 237))
   refine hK.out _ _ ((uh HSV (w2.alloc (.cells (vcell (e.x.next,q.value)).toArray 237)) (fun k hk _=>(Below.heap_alloc w2 (.cells (vcell (e.x.next,q.value)).toArray 237) k (Nat.lt_of_lt_of_le hk (uh HK2).size)).trans ((uh HK2).block k hk))).1) (fun hHeld13=>?_)
   clear hK K
   try simp only [zz0,zz1,zz2]
   refine rd1 14 (some 25) (.call { callee:=.builtin .append,args:=#[.tmp 15,.tmp 24],argTypes:=#[233,233] }) 233 (by kernel_rfl) (fun K hK=>?_)
   refine wp_append_ver (.tmp 15) (.tmp 24) rfl B (.slice ea e.x.vers.length ec) e.x.vers (e.x.next,q.value) w2 ?_ (hev ▸ own_kept (uh HOWN).2.1 (uh HK2)) (by omega) ?_ rfl (by have:=(uh HK2).size;omega) ?_
   ·kernel_rfl
   ·kernel_rfl
   intro v3 w3 ho3 hu3
   rw [← hev] at hu3
   have h3b:∀ k,k<w1.heap.size→(TyAt w1 k 231∨TyAt w1 k 84∨TyAt w1 k 235)→w3.heap[k]?=w1.heap[k]?:=fun k hk ht=>by
    have hs:=(uh HK2).size
    refine (hu3.block k (by omega) (by omega) (fun hv=>?_)).trans ((uh HK2).block k hk)
    have hy:=uh HV k hv
    rcases ht with ht | ht | ht <;> exact hy.ne ht (by decide) rfl
   have hsv3:=uh HSV w3 h3b
   have hc3:=hsv3.2.1
   have hf3:=hsv3.2.2
   obtain ⟨a3,c3,hv3,_,_⟩:=own_len ho3
   have HSV4:=hide (show SV b3 b5 e.p e.x.next q (w3.setCell ⟨e.p,1,none⟩ v3) from by
    have t5:=(uh HKW w1 (Kept.refl _ _) b5 (Array.getElem?_eq_some_iff.1 (uh H5)).1 ⟨_,_,uh H5⟩).trans (uh H5)
    have t3:RqAt w1 b3 q:=(uh HKW w1 (Kept.refl _ _) b3 (uh HBX).q.lt ⟨_,_,(uh HBX).q⟩).trans (uh HBX).q
    have tp:=(wayP B).ty (uh HOWN)
    have n5:b5≠e.p:=fun e'=>by rw [e'] at t5;exact tp.ne ⟨_,t5⟩ (by decide) rfl
    have n3:b3≠e.p:=fun e'=>by rw [e'] at t3;exact tp.ne ⟨_,t3⟩ (by decide) rfl
    have ap:w3.heap[e.p]?=some (.cells #[.int .u8 (e.x.next:Int),e.v] 235 (0,0)):=(h3b e.p tp.lt (.inr (.inr tp))).trans (uh HOWN).1
    have ap4:(w3.setCell ⟨e.p,1,none⟩ v3).heap[e.p]?=some (.cells #[.int .u8 (e.x.next:Int),v3] 235 (0,0)):=by rw [heap_setCell_same _ _ _ _ _ _ ap];rfl
    refine ⟨?_,by rw [cell_of_row _ _ _ _ _ _ ap4];rfl,?_⟩
    ·rw [World.cell?_of_block (w:=w3) (a:=⟨b5,0,none⟩) (heap_setCell_other _ _ _ _ n5)];exact hsv3.1.1
    ·rw [World.cell?_of_block (w:=w3) (a:=⟨b3,4,none⟩) (heap_setCell_other _ _ _ _ n3)];exact hsv3.1.2.2)
   have hfr4:(w3.setCell ⟨e.p,1,none⟩ v3).frozen? ⟨e.p,0,none⟩=false:=by
    have tp:=(wayP B).ty (uh HOWN)
    have ap:w3.heap[e.p]?=some (.cells #[.int .u8 (e.x.next:Int),e.v] 235 (0,0)):=(h3b e.p tp.lt (.inr (.inr tp))).trans (uh HOWN).1
    have ap4:(w3.setCell ⟨e.p,1,none⟩ v3).heap[e.p]?=some (.cells #[.int .u8 (e.x.next:Int),v3] 235 (0,0)):=by rw [heap_setCell_same _ _ _ _ _ _ ap];rfl
    exact frozen_of_row _ _ _ _ _ ap4
   have HEND:=hide (pu_end (w5:=(w3.setCell ⟨e.p,1,none⟩ v3).setCell ⟨e.p,0,none⟩ (.int .u8 ((e.x.next+1:Nat):Int))) (uh HK) (uh HC1) (uh HU1) (uh HK2) hu3 ho3 rfl rfl hB1 (uh HN0) ((uh HMP).kept (uh HK)).paths)
   have HS3:=hide hsv3.1
   clear hsv3 ho3 hu3 h3b
   show K _ w3
   refine hK.out _ _ (uh HS3) (fun hHeld14=>?_)
   clear hK K
   try simp only [zz0,zz1,zz2]
   refine tkL 2 [(15,some 26,.pointer (some ⟨e.p,0,none⟩)),(16,some 27,.pointer (some ⟨e.p,1,none⟩))] (by kernel_rfl) (fun _ _ _ _ _ h=>h) (fun _ _=>by kernel_rfl) hHeld14 ?_
   simp only [zz0,zz1,zz2,zz4,zz5]
   refine rd1 17 none (.store 233 (.tmp 27) (.tmp 25)) 0 (by kernel_rfl) (fun K hK=>?_)
   refine wp_store_cell233 (.tmp 27) (.tmp 25) rfl ⟨e.p,1,none⟩ ?_ a3 (e.x.vers++[(e.x.next,q.value)]).length c3 ?_ _ hc3 hf3 ?_
   ·kernel_rfl
   ·rw [hv3];kernel_rfl
   rw [← hv3]
   simp only [Act.put]
   refine hK.out _ _ (uh HSV4) (fun hHeld17=>?_)
   clear hK K
   try simp only [zz3]
   refine wpAnyH_done (by kernel_rfl) ?_ _
   have c0:=(uh HSV4).1
   have c1:=(uh HSV4).2.1
   have hwr:IntKind.u8.wrap ((e.x.next:Int)+1)=((e.x.next+1:Nat):Int):=by simp [IntKind.wrap,IntKind.bits,IntKind.signed];omega
   generalize w3.setCell ⟨e.p,1,none⟩ v3=w4 at *
   go_wp2_with fail
   refine end0 rfl rfl ?_
   exact uh HEND
  ·refine rdX (some 24) (.buildSlice 233 1 #[(0,.tmp 23)]) 233 none (by kernel_rfl) (fun K hK=>?_) AllReadyH.nil
   refine ite_wanted ?_ ?_
   ·kernel_rfl
   go_simp
   show K _ (w2.alloc (.cells (vcell (e.x.next,q.value)).toArray 237))
   refine hK.out _ _ ((uh HSV (w2.alloc (.cells (vcell (e.x.next,q.value)).toArray 237)) (fun k hk _=>(Below.heap_alloc w2 (.cells (vcell (e.x.next,q.value)).toArray 237) k (Nat.lt_of_lt_of_le hk (uh HK2).size)).trans ((uh HK2).block k hk))).1) (fun hHeld13=>?_)
   clear hK K
   try simp only [zz0,zz1,zz2]
   refine rd1 4 (some 15) (.load 233 (.tmp 14)) 233 (by kernel_rfl) (fun K hK=>?_)
   have hc4:=(uh HSV (w2.alloc (.cells (vcell (e.x.next,q.value)).toArray 237)) (fun k hk _=>(Below.heap_alloc w2 (.cells (vcell (e.x.next,q.value)).toArray 237) k (Nat.lt_of_lt_of_le hk (uh HK2).size)).trans ((uh HK2).block k hk))).2.1
   go_simp
   clear hc4
   refine hK.out _ _ ((uh HSV (w2.alloc (.cells (vcell (e.x.next,q.value)).toArray 237)) (fun k hk _=>(Below.heap_alloc w2 (.cells (vcell (e.x.next,q.value)).toArray 237) k (Nat.lt_of_lt_of_le hk (uh HK2).size)).trans ((uh HK2).block k hk))).1) (fun hHeld4=>?_)
   clear hK K
   try simp only [zz0,zz1,zz2]
   refine rd1 14 (some 25) (.call { callee:=.builtin .append,args:=#[.tmp 15,.tmp 24],argTypes:=#[233,233] }) 233 (by kernel_rfl) (fun K hK=>?_)
   refine wp_append_ver (.tmp 15) (.tmp 24) rfl B (.slice ea e.x.vers.length ec) e.x.vers (e.x.next,q.value) w2 ?_ (hev ▸ own_kept (uh HOWN).2.1 (uh HK2)) (by omega) ?_ rfl (by have:=(uh HK2).size;omega) ?_
   ·kernel_rfl
   ·kernel_rfl
   intro v3 w3 ho3 hu3
   rw [← hev] at hu3
   have h3b:∀ k,k<w1.heap.size→(TyAt w1 k 231∨TyAt w1 k 84∨TyAt w1 k 235)→w3.heap[k]?=w1.heap[k]?:=fun k hk ht=>by
    have hs:=(uh HK2).size
    refine (hu3.block k (by omega) (by omega) (fun hv=>?_)).trans ((uh HK2).block k hk)
    have hy:=uh HV k hv
    rcases ht with ht | ht | ht <;> exact hy.ne ht (by decide) rfl
   have hsv3:=uh HSV w3 h3b
   have hc3:=hsv3.2.1
   have hf3:=hsv3.2.2
   obtain ⟨a3,c3,hv3,_,_⟩:=own_len ho3
   have HSV4:=hide (show SV b3 b5 e.p e.x.next q (w3.setCell ⟨e.p,1,none⟩ v3) from by
    have t5:=(uh HKW w1 (Kept.refl _ _) b5 (Array.getElem?_eq_some_iff.1 (uh H5)).1 ⟨_,_,uh H5⟩).trans (uh H5)
    have t3:RqAt w1 b3 q:=(uh HKW w1 (Kept.refl _ _) b3 (uh HBX).q.lt ⟨_,_,(uh HBX).q⟩).trans (uh HBX).q
    have tp:=(wayP B).ty (uh HOWN)
    have n5:b5≠e.p:=fun e'=>by rw [e'] at t5;exact tp.ne ⟨_,t5⟩ (by decide) rfl
    have n3:b3≠e.p:=fun e'=>by rw [e'] at t3;exact tp.ne ⟨_,t3⟩ (by decide) rfl
    have ap:w3.heap[e.p]?=some (.cells #[.int .u8 (e.x.next:Int),e.v] 235 (0,0)):=(h3b e.p tp.lt (.inr (.inr tp))).trans (uh HOWN).1
    have ap4:(w3.setCell ⟨e.p,1,none⟩ v3).heap[e.p]?=some (.cells #[.int .u8 (e.x.next:Int),v3] 235 (0,0)):=by rw [heap_setCell_same _ _ _ _ _ _ ap];rfl
    refine ⟨?_,by rw [cell_of_row _ _ _ _ _ _ ap4];rfl,?_⟩
    ·rw [World.cell?_of_block (w:=w3) (a:=⟨b5,0,none⟩) (heap_setCell_other _ _ _ _ n5)];exact hsv3.1.1
    ·rw [World.cell?_of_block (w:=w3) (a:=⟨b3,4,none⟩) (heap_setCell_other _ _ _ _ n3)];exact hsv3.1.2.2)
   have hfr4:(w3.setCell ⟨e.p,1,none⟩ v3).frozen? ⟨e.p,0,none⟩=false:=by
    have tp:=(wayP B).ty (uh HOWN)
    have ap:w3.heap[e.p]?=some (.cells #[.int .u8 (e.x.next:Int),e.v] 235 (0,0)):=(h3b e.p tp.lt (.inr (.inr tp))).trans (uh HOWN).1
    have ap4:(w3.setCell ⟨e.p,1,none⟩ v3).heap[e.p]?=some (.cells #[.int .u8 (e.x.next:Int),v3] 235 (0,0)):=by rw [heap_setCell_same _ _ _ _ _ _ ap];rfl
    exact frozen_of_row _ _ _ _ _ ap4
   have HEND:=hide (pu_end (w5:=(w3.setCell ⟨e.p,1,none⟩ v3).setCell ⟨e.p,0,none⟩ (.int .u8 ((e.x.next+1:Nat):Int))) (uh HK) (uh HC1) (uh HU1) (uh HK2) hu3 ho3 rfl rfl hB1 (uh HN0) ((uh HMP).kept (uh HK)).paths)
   have HS3:=hide hsv3.1
   clear hsv3 ho3 hu3 h3b
   show K _ w3
   refine hK.out _ _ (uh HS3) (fun hHeld14=>?_)
   clear hK K
   try simp only [zz0,zz1,zz2]
   refine tkL 2 [(15,some 26,.pointer (some ⟨e.p,0,none⟩)),(16,some 27,.pointer (some ⟨e.p,1,none⟩))] (by kernel_rfl) (fun _ _ _ _ _ h=>h) (fun _ _=>by kernel_rfl) hHeld14 ?_
   simp only [zz0,zz1,zz2,zz4,zz5]
   refine rd1 17 none (.store 233 (.tmp 27) (.tmp 25)) 0 (by kernel_rfl) (fun K hK=>?_)
   refine wp_store_cell233 (.tmp 27) (.tmp 25) rfl ⟨e.p,1,none⟩ ?_ a3 (e.x.vers++[(e.x.next,q.value)]).length c3 ?_ _ hc3 hf3 ?_
   ·kernel_rfl
   ·rw [hv3];kernel_rfl
   rw [← hv3]
   simp only [Act.put]
   refine hK.out _ _ (uh HSV4) (fun hHeld17=>?_)
   clear hK K
   try simp only [zz3]
   refine wpAnyH_done (by kernel_rfl) ?_ _
   have c0:=(uh HSV4).1
   have c1:=(uh HSV4).2.1
   have hwr:IntKind.u8.wrap ((e.x.next:Int)+1)=((e.x.next+1:Nat):Int):=by simp [IntKind.wrap,IntKind.bits,IntKind.signed];omega
   generalize w3.setCell ⟨e.p,1,none⟩ v3=w4 at *
   go_wp2_with fail
   refine end0 rfl rfl ?_
   exact uh HEND
end Go.Proofs.YtlbacbcenejngaaGreatDoor
namespace Go.Proofs.YtlbacbcenejngaaGreatDoor
open Go.RowKit
theorem put_len {K α:Type} [DecidableEq K] (k:K) (v:α):∀ l:List (K × α),(lk k l=none→(putM k v l).length=l.length+1)∧(lk k l≠none→(putM k v l).length=l.length)
 | []=>by simp [lk,putM]
 | p::l=>by
  have ih:=put_len k v l
  by_cases h:p.1=k
  ·simp [lk,putM,h]
  ·simp only [lk,putM,h,if_false]
   exact ⟨fun e=>by simp [ih.1 e],fun e=>by simp [ih.2 e]⟩
theorem put_mem {K α:Type} [DecidableEq K] {k:K} {v:α}:∀ {l:List (K × α)} {p:K × α},p∈putM k v l→p=(k,v)∨p∈l
 | [],p,h=>by simp [putM] at h;exact .inl h
 | q::l,p,h=>by
  rw [putM] at h
  split at h
  ·rcases List.mem_cons.1 h with h | h
   ·exact .inl h
   ·exact .inr (.tail _ h)
  ·rcases List.mem_cons.1 h with h | h
   ·exact .inr (h ▸ .head _)
   ·rcases put_mem h with h | h
    ·exact .inl h
    ·exact .inr (.tail _ h)
theorem del_mem {K α:Type} [DecidableEq K] {k:K}:∀ {l:List (K × α)} {p:K × α},p∈delM k l→p∈l
 | [],p,h=>by simp [delM] at h
 | q::l,p,h=>by
  rw [delM] at h
  split at h
  ·exact .tail _ h
  ·rcases List.mem_cons.1 h with h | h
   ·exact h ▸ .head _
   ·exact .tail _ (del_mem h)
theorem del_len {K α:Type} [DecidableEq K] (k:K):∀ l:List (K × α),(delM k l).length≤l.length
 | []=>by simp [delM]
 | q::l=>by
  rw [delM]
  split
  ·simp
  ·simp [del_len k l]
theorem lk_mem {K α:Type} [DecidableEq K] {k:K} {v:α}:∀ {l:List (K × α)},lk k l=some v→(k,v)∈l
 | [],h=>by simp [lk] at h
 | q::l,h=>by
  rw [lk] at h
  split at h
  ·rename_i e;cases h;subst e;exact .head _
  ·exact .tail _ (lk_mem h)
theorem put_keys {K α:Type} [DecidableEq K] (k:K) (v:α):∀ l:List (K × α),(lk k l=none→(putM k v l).map (·.1)=l.map (·.1)++[k])∧(lk k l≠none→(putM k v l).map (·.1)=l.map (·.1))
 | []=>by simp [lk,putM]
 | p::l=>by
  have ih:=put_keys k v l
  by_cases h:p.1=k
  ·simp [lk,putM,h]
  ·simp only [lk,putM,h,if_false]
   exact ⟨fun e=>by simp [ih.1 e],fun e=>by simp [ih.2 e]⟩
theorem lk_none_mem {K α:Type} [DecidableEq K] {k:K}:∀ {l:List (K × α)},lk k l=none→k∉l.map (·.1)
 | [],_=>by simp
 | p::l,h=>by
  rw [lk] at h
  split at h
  ·cases h
  ·rename_i hp
   simp only [List.map_cons,List.mem_cons,not_or]
   exact ⟨fun e=>hp e.symm,lk_none_mem h⟩
theorem lk_none_of {K α:Type} [DecidableEq K] {k:K}:∀ {l:List (K × α)},k∉l.map (·.1)→lk k l=none
 | [],_=>rfl
 | p::l,h=>by
  simp only [List.map_cons,List.mem_cons,not_or] at h
  rw [lk,if_neg fun e=>h.1 e.symm,lk_none_of h.2]
theorem put_nodup {K α:Type} [DecidableEq K] {k:K} {v:α} {l:List (K × α)} (h:(l.map (·.1)).Nodup):((putM k v l).map (·.1)).Nodup:=by
 cases hl:lk k l with
 | none =>
  rw [(put_keys k v l).1 hl]
  refine List.nodup_append.2 ⟨h,by simp,fun a ha b hb e=>?_⟩
  rw [List.mem_singleton.1 hb] at e
  exact lk_none_mem hl (e ▸ ha)
 | some x=>rw [(put_keys k v l).2 (by rw [hl];simp)];exact h
theorem del_sub {K α:Type} [DecidableEq K] (k:K):∀ l:List (K × α),(delM k l).Sublist l
 | []=>by simp [delM]
 | p::l=>by
  rw [delM]
  split
  ·exact List.sublist_cons_self _ _
  ·exact (del_sub k l).cons_cons _
theorem del_nodup {K α:Type} [DecidableEq K] {k:K} {l:List (K × α)} (h:(l.map (·.1)).Nodup):((delM k l).map (·.1)).Nodup:=((del_sub k l).map _).nodup h
theorem ask_ch {S:Sto} {q:Rq} {c:Cg} (h:(S.ask q).ch=some c):(S.deed q).ch=some c:=by
 unfold Sto.ask at h
 split at h
 ·cases h
 ·split at h
  ·cases h
  ·exact h
theorem put_ch {S:Sto} {q:Rq} {c:Cg} (h:(S.put q).ch=some c):c=.put∧((∃ p,lk q.path S.paths=some p∧p.next≤20)∨(lk q.path S.paths=none∧S.paths.length<16)):=by
 unfold Sto.put at h
 split at h
 ·rename_i p hp
  split at h
  ·cases h
  ·cases h;exact ⟨rfl,.inl ⟨p,hp,by omega⟩⟩
 ·rename_i hp
  split at h
  ·cases h
  ·cases h;exact ⟨rfl,.inr ⟨hp,by omega⟩⟩
theorem get_ch (S:Sto) (q:Rq):(S.get q).ch=none:=by unfold Sto.get;split <;> rfl
theorem drop_ch {S:Sto} {q:Rq} {c:Cg} (h:(S.drop q).ch=some c):c=.drop∧(S.versOf q.path).length≠0:=by
 unfold Sto.drop at h
 split at h
 ·cases h
 ·cases h;exact ⟨rfl,by assumption⟩
theorem grant_ch {S:Sto} {q:Rq} {c:Cg} (h:(S.grant q).ch=some c):c=.grant∧lk q.name S.toks=none∧S.toks.length<8:=by
 unfold Sto.grant at h
 split at h
 ·cases h
 ·rename_i hp
  split at h
  ·cases h
  ·cases h;exact ⟨rfl,hp,by omega⟩
theorem revoke_ch {S:Sto} {q:Rq} {c:Cg} (h:(S.revoke q).ch=some c):c=.revoke∧q.name≠S.root:=by
 unfold Sto.revoke at h
 split at h
 ·cases h
 ·split at h
  ·cases h
  ·cases h;exact ⟨rfl,by assumption⟩
theorem deed_ch {S:Sto} {q:Rq} {c:Cg} (h:(S.deed q).ch=some c):(c=.put∧((∃ p,lk q.path S.paths=some p∧p.next≤20)∨(lk q.path S.paths=none∧S.paths.length<16)))∨(c=.drop∧(S.versOf q.path).length≠0)∨(c=.grant∧lk q.name S.toks=none∧S.toks.length<8)∨(c=.revoke∧q.name≠S.root):=by
 unfold Sto.deed at h
 split at h
 ·exact .inl (put_ch h)
 ·rw [get_ch] at h;cases h
 ·exact .inr (.inl (drop_ch h))
 ·cases h
 ·exact .inr (.inr (.inl (grant_ch h)))
 ·exact .inr (.inr (.inr (revoke_ch h)))
theorem Sto.Ok.lk {S:Sto} (h:S.Ok) {n:ByteArray} {p:Pth} (hp:lk n S.paths=some p):p.next≤21∧p.vers.length<p.next∧∀ v∈p.vers,v.2.size≤40:=(h.pth _ (lk_mem hp)).2
theorem Sto.Ok.carry {S:Sto} (h:S.Ok) {q:Rq} (hq:q.Ok) {c:Cg} (hc:(S.ask q).ch=some c):(S.carry q c).Ok:=by
 rcases deed_ch (ask_ch hc) with ⟨rfl,hp⟩ | ⟨rfl,hp⟩ | ⟨rfl,hp,hl⟩ | ⟨rfl,hp⟩
 ·unfold Sto.carry
  refine ⟨h.toks,h.tok,?_,fun p hm=>?_,h.one,put_nodup h.onp⟩
  ·rcases hp with ⟨p,hp,_⟩ | ⟨hp,hl⟩
   ·show (putM _ _ _).length≤16
    rw [(put_len _ _ S.paths).2 (by rw [hp];simp)];exact h.paths
   ·show (putM _ _ _).length≤16
    rw [(put_len _ _ S.paths).1 hp];omega
  ·rcases put_mem hm with rfl | hm
   ·refine ⟨hq.fit.1,?_⟩
    rcases hp with ⟨p,hp,hn⟩ | ⟨hp,_⟩
    ·rw [hp]
     have:=h.lk hp
     refine ⟨?_,?_,fun v hv=>?_⟩
     ·show p.next+1≤21;omega
     ·show (p.vers++[_]).length<p.next+1;rw [List.length_append];simp;omega
     ·rcases List.mem_append.1 hv with hv | hv
      ·exact this.2.2 v hv
      ·rw [List.mem_singleton.1 hv];exact hq.value
    ·rw [hp]
     refine ⟨by show 2≤21;decide,by show 1<2;decide,fun v hv=>?_⟩
     rw [show v=(1,q.value) by simpa using hv]
     exact hq.value
   ·exact h.pth p hm
 ·unfold Sto.carry
  show Sto.Ok (match _root_.Go.Proofs.YtlbacbcenejngaaGreatDoor.lk q.path S.paths with | some p=>_ | none=>S)
  split
  ·rename_i p hp
   have:=h.lk hp
   refine ⟨h.toks,h.tok,?_,fun x hm=>?_,h.one,put_nodup h.onp⟩
   ·show (putM _ _ _).length≤16
    rw [(put_len _ _ S.paths).2 (by rw [hp];simp)];exact h.paths
   ·rcases put_mem hm with rfl | hm
    ·exact ⟨hq.fit.1,this.1,by show 0<p.next;omega,by simp⟩
    ·exact h.pth x hm
  ·exact h
 ·unfold Sto.carry
  refine ⟨?_,fun t ht=>?_,h.paths,h.pth,put_nodup h.one,h.onp⟩
  ·show (putM _ _ _).length≤8
   rw [(put_len _ _ S.toks).1 hp];omega
  ·rcases put_mem ht with rfl | ht
   ·exact hq.pre
   ·exact h.tok t ht
 ·unfold Sto.carry
  refine ⟨?_,fun t ht=>h.tok t (del_mem ht),h.paths,h.pth,del_nodup h.one,h.onp⟩
  have:=del_len q.name S.toks
  have:=h.toks
  show (delM _ _).length≤8
  omega
theorem Sto.Ok.then {S:Sto} (h:S.Ok) {q:Rq} (hq:q.Ok):(S.then q (S.ask q)).Ok:=by
 unfold Sto.then
 split
 ·rename_i c hc;exact h.carry hq hc
 ·exact h
theorem deed_err (S:Sto) (q:Rq):(S.deed q).err≤7:=by
 unfold Sto.deed
 split
 ·unfold Sto.put;split <;> split <;> simp
 ·unfold Sto.get;split <;> simp
 ·unfold Sto.drop;split <;> simp
 ·simp [Sto.list]
 ·unfold Sto.grant;split
  ·simp
  ·split <;> simp
 ·unfold Sto.revoke;split
  ·simp
  ·split <;> simp
theorem ask_err (S:Sto) (q:Rq):(S.ask q).err≤7:=by
 unfold Sto.ask
 split
 ·simp
 ·split
  ·simp
  ·exact deed_err S q
end Go.Proofs.YtlbacbcenejngaaGreatDoor
namespace Go.Proofs.YtlbacbcenejngaaGreatDoor
open Go.RowKit
theorem logOf_size_le (E:List ByteArray) (m:Nat):(logOf (E.take m)).size≤(logOf E).size:=by
 have:=logOf_app (E.take m) (E.drop m)
 rw [List.take_append_drop] at this
 rw [this,ByteArray.size_append]
 omega
theorem logOf_size_lt {E:List ByteArray} {m:Nat} (h:m<E.length):(logOf (E.take m)).size<(logOf E).size:=by
 have:=logOf_app (E.take m) (E.drop m)
 rw [List.take_append_drop,List.drop_eq_getElem_cons h,logOf] at this
 rw [this,ByteArray.size_append,ByteArray.size_append,frOf_size]
 omega
def Some1 (E:List ByteArray) (s:ByteArray):Prop:=∃ m,m≤E.length∧s=logOf (E.take m)
theorem some1_full {E:List ByteArray} {s:ByteArray} (h:Some1 E s) (hs:(logOf E).size≤s.size):s=logOf E:=by
 obtain ⟨m,hm,rfl⟩:=h
 rcases Nat.lt_or_ge m E.length with h | h
 ·have:=logOf_size_lt h;omega
 ·rw [List.take_of_length_le h]
theorem most_some {E:List ByteArray}:∀ (l:List Snk) (m:ByteArray),(∀ k∈l,Some1 E k.data)→Some1 E m→(m=logOf E∨∃ k∈l,k.data=logOf E)→mostOf l m=logOf E
 | [],m,_,_,h=>by
  rcases h with h | ⟨k,hk,_⟩
  ·exact h
  ·cases hk
 | k::l,m,hl,hm,h=>by
  rw [mostOf]
  have hk:=hl k (.head _)
  refine most_some l _ (fun x hx=>hl x (.tail _ hx)) ?_ ?_
  ·split
   ·exact hk
   ·exact hm
  ·rcases h with h | ⟨x,hx,he⟩
   ·refine .inl ?_
    split
    ·rename_i hlt
     subst h
     exact some1_full hk (by omega)
    ·exact h
   ·rcases List.mem_cons.1 hx with rfl | hx
    ·refine .inl ?_
     split
     ·exact he
     ·rename_i hge
      exact some1_full hm (by rw [← he];omega)
    ·exact .inr ⟨x,hx,he⟩
structure Vlt.Ok (V:Vlt) (E:List ByteArray):Prop where
 chn:chn [] E
 cnt:V.cnt=E.length
 last:V.last=hashAt E E.length
 snk:∀ k∈V.snks,Some1 E k.data
 most:∃ k∈V.snks,k.data=logOf E
 sto:V.sto.Ok
theorem chn_fits {E F:List ByteArray} (h:chn F E):∀ e∈E,fitsB e=true:=by
 induction E generalizing F with
 | nil=>simp
 | cons a l ih =>
  intro e he
  rcases List.mem_cons.1 he with rfl | he
  ·exact h.1.2
  ·exact ih h.2 e he
theorem ask_fit (V:Vlt) (s:ByteArray):opFit (V.ask s).1.op (V.ask s).1.path∧(V.ask s).2.err≤7:=by
 unfold Vlt.ask
 split
 ·rename_i q hq
  exact ⟨(readQ_ok hq).fit,ask_err _ _⟩
 ·exact ⟨fit_none (.inr (.inr rfl)),by simp⟩
theorem Vlt.Ok.lens {V:Vlt} {E:List ByteArray} (h:V.Ok E) (a b c:List UInt8):Lens V.last (Sha.tag V.key.data.toList a) (Sha.tag V.key.data.toList b) (Sha.tag V.key.data.toList c):=⟨by rw [h.last];exact hashAt_len _ _,tag_length _ _,tag_length _ _,tag_length _ _⟩
theorem Vlt.Ok.entry {V:Vlt} {E:List ByteArray} (h:V.Ok E) (hE:E.length<4294967296) (s:ByteArray):fitsB (V.entry s)=true∧bnd (V.entry s) E=true:=by
 have hf:=ask_fit V s
 refine ⟨ent_fits (h.lens _ _ _) _ hf.1 hf.2,?_⟩
 unfold Vlt.entry
 rw [h.cnt]
 exact ent_bnd (h.lens _ _ _) hE h.last hf.1 _
theorem Vlt.Ok.most' {V:Vlt} {E:List ByteArray} (h:V.Ok E):mostOf V.snks .empty=logOf E:=most_some _ _ h.snk ⟨0,Nat.zero_le _,rfl⟩ (.inr h.most)
theorem Vlt.Ok.chn' {V:Vlt} {E:List ByteArray} (h:V.Ok E) (hE:E.length<4294967296) (s:ByteArray):Go.Proofs.YtlbacbcenejngaaGreatDoor.chn [] (E++[V.entry s]):=by
 rw [chn_app]
 have:=h.entry hE s
 exact ⟨h.chn,⟨by rw [List.nil_append];exact this.2,this.1⟩,trivial⟩
theorem lf_take (E:List ByteArray) (m:Nat):lf (logOf E) (logOf (E.take m)).size=logOf (E.drop m):=by
 have:=logOf_app (E.take m) (E.drop m)
 rw [List.take_append_drop] at this
 apply Go.WideShapes.bytes_inj
 rw [this,lf,ext_list,show (logOf (E.take m)++logOf (E.drop m)).data.toList=(logOf (E.take m)).data.toList++(logOf (E.drop m)).data.toList by simp,List.drop_left' (size_toList _),List.take_of_length_le (by rw [ByteArray.size_append,size_toList];omega)]
theorem give_some {E:List ByteArray} {e:ByteArray} (hf:∀ x∈E++[e],fitsB x=true) {k:Snk} (hk:Some1 E k.data) :
  Some1 (E++[e]) (giveF k (logOf E++frOf e)).1.data∧((giveF k (logOf E++frOf e)).2=true↔(giveF k (logOf E++frOf e)).1.data=logOf (E++[e]))∧((giveF k (logOf E++frOf e)).2=false→Some1 E (giveF k (logOf E++frOf e)).1.data) ∧
  (giveF k (logOf E++frOf e)).1.fails=k.fails∧k.app≤(giveF k (logOf E++frOf e)).1.app∧(giveF k (logOf E++frOf e)).1.app≤k.app+E.length+1∧k.data.size≤(giveF k (logOf E++frOf e)).1.data.size:=by
 obtain ⟨m,hm,hd⟩:=hk
 have he:logOf E++frOf e=logOf (E++[e]):=by rw [logOf_app,logOf,logOf,ba_empty]
 have htk:(E++[e]).take m=E.take m:=List.take_append_of_le_length hm
 have hg:giveF k (logOf E++frOf e)=giveGo k (logOf ((E++[e]).drop m)):=by rw [giveF,he,hd,← htk,lf_take]
 obtain ⟨n,n1,n2,n3,n4,n5,n6⟩:=giveGo_log ((E++[e]).drop m) k fun x hx=>hf x (List.drop_subset _ _ hx)
 rw [hg]
 have hlen:((E++[e]).drop m).length=E.length+1-m:=by simp
 have hdat:(giveGo k (logOf ((E++[e]).drop m))).1.data=logOf ((E++[e]).take (m+n)):=by
  rw [n2,hd,← htk,List.take_add,logOf_app]
 refine ⟨⟨m+n,by simp;omega,hdat⟩,?_,fun hfl=>?_,n4,n5,by omega,by rw [n2,ByteArray.size_append];omega⟩
 ·rw [n3,hdat]
  constructor
  ·intro h;rw [List.take_of_length_le (by simp;omega)]
  ·intro h
   rcases Nat.lt_or_ge (m+n) (E++[e]).length with hl | hl
   ·have:=logOf_size_lt hl;rw [h] at this;omega
   ·simp at hl;omega
 ·have hne:n≠((E++[e]).drop m).length:=fun h=>by rw [n3.2 h] at hfl;cases hfl
  refine ⟨m+n,by omega,?_⟩
  rw [hdat,List.take_append_of_le_length (by omega)]
theorem Vlt.Ok.next {V:Vlt} {E:List ByteArray} (h:V.Ok E) (hE:E.length<4294967296) (s:ByteArray) :
  ((V.lay s).2=true→(V.next s).Ok (E++[V.entry s]))∧((V.lay s).2=false→(V.next s).Ok E):=by
 have hc:=h.chn' hE s
 have hf:=chn_fits hc
 have hm:=h.most'
 have hg:=fun k hk=>give_some hf (h.snk k hk)
 have hst:(V.sto.then (V.ask s).1 (V.ask s).2).Ok:=by
  unfold Vlt.ask
  split
  ·rename_i q hq;exact h.sto.then (readQ_ok hq)
  ·exact h.sto
 constructor
 ·intro hl
  rw [Vlt.next,if_pos hl]
  unfold Vlt.lay at hl ⊢
  rw [hm] at hl ⊢
  unfold layF at hl ⊢
  refine ⟨hc,?_,?_,?_,?_,hst⟩
  ·show V.cnt+1=_;rw [h.cnt];simp
  ·show Sha.digest _=_
   rw [List.length_append,List.length_singleton,hashAt]
   simp
  ·intro x hx
   obtain ⟨k,hk,rfl⟩:=List.mem_map.1 hx
   exact (hg k hk).1
  ·obtain ⟨k,hk,hk2⟩:=List.any_eq_true.1 hl
   exact ⟨_,List.mem_map.2 ⟨k,hk,rfl⟩,(hg k hk).2.1.1 hk2⟩
 ·intro hl
  rw [Vlt.next,if_neg (by rw [hl];simp)]
  unfold Vlt.lay at hl ⊢
  rw [hm] at hl ⊢
  unfold layF at hl ⊢
  have hno:∀ k∈V.snks,(giveF k (logOf E++frOf (V.entry s))).2=false:=by
   intro k hk
   have:=List.any_eq_false.1 hl k hk
   simpa using this
  refine ⟨h.chn,h.cnt,h.last,?_,?_,h.sto⟩
  ·intro x hx
   obtain ⟨k,hk,rfl⟩:=List.mem_map.1 hx
   exact (hg k hk).2.2.1 (hno k hk)
  ·obtain ⟨k,hk,hk2⟩:=h.most
   refine ⟨_,List.mem_map.2 ⟨k,hk,rfl⟩,some1_full ((hg k hk).2.2.1 (hno k hk)) ?_⟩
   have:=(hg k hk).2.2.2.2.2.2
   rw [hk2] at this
   exact this
end Go.Proofs.YtlbacbcenejngaaGreatDoor
namespace Go.Proofs.YtlbacbcenejngaaGreatDoor
open Go.RowKit
theorem isNm_8 {x:ByteArray} (h:isNm x=true):x.size≤255:=by
 simp only [isNm,nameB,Bool.and_eq_true,decide_eq_true_eq,size_toList] at h
 omega
end Go.Proofs.YtlbacbcenejngaaGreatDoor
namespace Go.Proofs.YtlbacbcenejngaaGreatDoor
open Go.RowKit
theorem ask_tok {S:Sto} {q:Rq} {t:Tok} (h:lk q.token S.toks=some t):S.ask q=if t.rights &&& rightOf q.op=0∨(inPath q.op=true∧hasPre q.path t.pre=false) then ⟨3,.empty,none⟩ else S.deed q:=by
 unfold Sto.ask
 rw [h]
end Go.Proofs.YtlbacbcenejngaaGreatDoor
namespace Go.Proofs.YtlbacbcenejngaaGreatDoor
open Go.RowKit
theorem giveGo_app:∀ (l:List ByteArray) (k:Snk),(∀ e∈l,fitsB e=true)→∃ m,m≤l.length∧(giveGo k (logOf l)).1.data=k.data++logOf (l.take m)∧k.app≤(giveGo k (logOf l)).1.app∧(giveGo k (logOf l)).1.app≤k.app+m+1∧(giveGo k (logOf l)).1.fails=k.fails
 | [],k,_=>by
  refine ⟨0,Nat.le_refl _,?_,?_,?_,?_⟩ <;> rw [logOf,giveGo,dif_pos (by rfl)]
  ·simp [logOf]
  ·exact Int.le_refl _
  ·show k.app≤k.app+0+1;omega
 | e::l,k,h=>by
  have he:=h e (.head _)
  have hs:=fits_small he
  obtain ⟨h1,h2,h3,h4,h5⟩:=fr_more (r:=logOf l) he
  have hz:(logOf (e::l)).size≠0:=by rw [logOf,h5];omega
  have hff:=firstFr_log (l:=l) he
  have hlf:lf (logOf (e::l)) (frOf e).size=logOf l:=by rw [frOf_size,logOf];exact h4
  by_cases ht:k.took=true
  ·obtain ⟨m,m1,m2,m3,m4,m5⟩:=giveGo_app l (k.append (frOf e)) fun x hx=>h x (.tail _ hx)
   have hk:k.append (frOf e)={ k with app:=k.app+1,data:=k.data++frOf e }:=if_pos ht
   have hg:giveGo k (logOf (e::l))=giveGo (k.append (frOf e)) (logOf l):=by rw [giveGo,dif_neg hz,if_pos ht,hff,hlf]
   rw [hg]
   rw [hk] at m2 m3 m4 m5 ⊢
   refine ⟨m+1,by simp;omega,?_,?_,?_,m5⟩
   ·rw [m2,List.take_succ_cons,logOf,ba_assoc]
   ·have:k.app+1≤_:=m3;omega
   ·have:_≤k.app+1+m+1:=m4
    simp only [Int.natCast_add,Int.natCast_one]
    omega
  ·have hk:k.append (frOf e)={ k with app:=k.app+1 }:=if_neg ht
   have hg:giveGo k (logOf (e::l))=({ k with app:=k.app+1 },false):=by rw [giveGo,dif_neg hz,if_neg ht,hff,hk]
   rw [hg]
   refine ⟨0,by omega,?_,?_,?_,rfl⟩
   ·simp [logOf]
   ·show k.app≤k.app+1;omega
   ·show k.app+1≤k.app+0+1;omega
def Snk.Bnd (E:List ByteArray) (n:Nat) (k:Snk):Prop:=(∃ m,m≤E.length∧k.data=logOf (E.take m)∧k.app≤m+n)∧0≤k.app∧k.fails.length≤4294967296
theorem Snk.Bnd.give {E:List ByteArray} {n:Nat} {k:Snk} (h:k.Bnd E n) {e:ByteArray} (hf:∀ x∈E++[e],fitsB x=true):((giveF k (logOf E++frOf e)).1).Bnd (E++[e]) (n+1):=by
 obtain ⟨⟨m,hm,hd,ha⟩,h0,hl⟩:=h
 have he:logOf E++frOf e=logOf (E++[e]):=by rw [logOf_app,logOf,logOf,ba_empty]
 have htk:(E++[e]).take m=E.take m:=List.take_append_of_le_length hm
 have hg:giveF k (logOf E++frOf e)=giveGo k (logOf ((E++[e]).drop m)):=by rw [giveF,he,hd,← htk,lf_take]
 obtain ⟨j,n1,n2,n3,n4,n5⟩:=giveGo_app ((E++[e]).drop m) k fun x hx=>hf x (List.drop_subset _ _ hx)
 rw [hg]
 have hlen:((E++[e]).drop m).length=E.length+1-m:=by simp
 refine ⟨⟨m+j,by simp;omega,?_,?_⟩,by omega,by rw [n5];exact hl⟩
 ·rw [n2,hd,← htk,List.take_add,logOf_app]
 ·simp only [Int.natCast_add,Int.natCast_one];omega
theorem Snk.Bnd.less {E:List ByteArray} {n:Nat} {k:Snk} {e:ByteArray} (h:k.Bnd (E++[e]) n) (hs:Some1 E k.data):k.Bnd E n:=by
 obtain ⟨⟨m,hm,hd,ha⟩,h0,hl⟩:=h
 obtain ⟨j,hj,hd2⟩:=hs
 refine ⟨⟨m,?_,?_,ha⟩,h0,hl⟩
 ·rcases Nat.lt_or_ge E.length m with h1 | h1
  ·have hmf:m=(E++[e]).length:=by simp at hm ⊢;omega
   rw [hmf,List.take_length,hd2] at hd
   have:=logOf_size_le E j
   have h3:=logOf_app E [e]
   rw [← hd,logOf,logOf,ba_empty] at h3
   have h4:=congrArg ByteArray.size h3
   rw [ByteArray.size_append,frOf_size] at h4
   omega
  ·exact h1
 ·rcases Nat.lt_or_ge E.length m with h1 | h1
  ·have hmf:m=(E++[e]).length:=by simp at hm ⊢;omega
   rw [hmf,List.take_length,hd2] at hd
   have:=logOf_size_le E j
   have h3:=logOf_app E [e]
   rw [← hd,logOf,logOf,ba_empty] at h3
   have h4:=congrArg ByteArray.size h3
   rw [ByteArray.size_append,frOf_size] at h4
   omega
  ·rw [hd,List.take_append_of_le_length h1]
def Dsk.Bnd (n:Nat) (d:Dsk):Prop:=d.left=-1∧d.down=false∧(d.files=[]∨∃ f,d.files=[f]∧f.name=jour∧f.data.size≤2000*n)
theorem Dsk.Bnd.up {n m:Nat} {d:Dsk} (h:d.Bnd n) (hm:n≤m):d.Bnd m:=⟨h.1,h.2.1,h.2.2.imp id fun ⟨f,h1,h2,h3⟩=>⟨f,h1,h2,by omega⟩⟩
theorem Dsk.Bnd.stopped {n:Nat} {d:Dsk} (h:d.Bnd n):d.stopped=false:=by unfold Dsk.stopped;rw [h.1,h.2.1];rfl
theorem Dsk.Bnd.small {n:Nat} {d:Dsk} (h:d.Bnd n) (hn:n≤4194304):d.files.length≤1000∧∀ f∈d.files,f.data.size≤549755813888:=by
 rcases h.2.2 with e | ⟨f,e,_,hs⟩
 ·rw [e];exact ⟨by simp,by simp⟩
 ·rw [e];exact ⟨by simp,fun x hx=>by rw [List.mem_singleton.1 hx];omega⟩
theorem stepd_bnd {n:Nat} {d:Dsk} (h:d.Bnd n):d.stepd=d:=by
 unfold Dsk.stepd
 rw [if_neg (by rw [h.stopped];simp),if_neg (by rw [h.1];decide)]
theorem find_one (f:Fl) (h:f.name=jour):findF jour [f] 0=0:=by
 unfold findF
 simp [h]
theorem Dsk.Bnd.write {n:Nat} {d:Dsk} (h:d.Bnd n) {X:ByteArray} (hX:X.size≤2000):((d.append jour X).sync jour).Bnd (n+1):=by
 have h1:(d.append jour X).Bnd (n+1):=by
  have e:d.append jour X={ d with files:=appF jour X d.files }:=by unfold Dsk.append;rw [if_neg (by rw [h.stopped];simp),stepd_bnd h]
  rw [e]
  refine ⟨h.1,h.2.1,.inr ?_⟩
  rcases h.2.2 with e | ⟨f,e,hn,hs⟩
  ·rw [e]
   exact ⟨⟨jour,X,0⟩,by unfold appF;rw [if_pos (by decide)];rfl,rfl,by show X.size≤_;omega⟩
  ·rw [e]
   refine ⟨{ f with data:=f.data++X },?_,hn,?_⟩
   ·unfold appF
    rw [find_one f hn,if_neg (by decide)]
    rfl
   ·show (f.data++X).size≤_
    rw [ByteArray.size_append];omega
 have e:(d.append jour X).sync jour={ d.append jour X with files:=syncF jour (d.append jour X).files }:=by unfold Dsk.sync;rw [if_neg (by rw [h1.stopped];simp),stepd_bnd h1]
 rw [e]
 refine ⟨h1.1,h1.2.1,?_⟩
 rcases h1.2.2 with e | ⟨f,e,hn,hs⟩
 ·left;show syncF jour _=[];rw [e];rfl
 ·right
  show ∃ g,syncF jour _=[g]∧_
  rw [e]
  unfold syncF
  rw [find_one f hn]
  exact ⟨_,rfl,hn,hs⟩
theorem rdOf_size {op:UInt8} {q q':Rq} {s s':ByteArray} (h:rdOf op q s=some (q',s')):s.size≤s'.size+800:=by
 have hP:∀ {q q':Rq} {s s':ByteArray},rdPath q s=some (q',s')→s.size≤s'.size+256:=fun {q q' s s'} h=>by
  unfold rdPath at h
  split at h
  ·rename_i x y hx
   have:=takeT_small hx
   split at h
   ·cases h;omega
   ·cases h
  ·cases h
 have hN:∀ {q q':Rq} {s s':ByteArray},rdNamed q s=some (q',s')→s.size≤s'.size+256:=fun {q q' s s'} h=>by
  unfold rdNamed at h
  split at h
  ·rename_i x y hx
   have:=takeN_small hx
   cases h;omega
  ·cases h
 unfold rdOf at h
 split at h
 ·unfold rdPut at h
  split at h
  ·rename_i q1 s1 h1
   have:=hP h1
   split at h
   ·rename_i x y hx
    have:=takeT_small hx
    split at h
    ·cases h;omega
    ·cases h
   ·cases h
  ·cases h
 ·unfold rdGet at h
  split at h
  ·rename_i q1 s1 h1
   have:=hP h1
   split at h
   ·rename_i x y hx
    have:=takeB_small hx
    cases h;omega
   ·cases h
  ·cases h
 ·have:=hP h;omega
 ·unfold rdList at h
  split at h
  ·rename_i x y hx
   have:=takeP_small hx
   cases h;omega
  ·cases h
 ·unfold rdGrant at h
  split at h
  ·rename_i q1 s1 h1
   have:=hN h1
   split at h
   ·rename_i p s2 h2
    have:=takeP_small h2
    split at h
    ·rename_i x y hx
     have:=takeB_small hx
     split at h
     ·cases h;omega
     ·cases h
    ·cases h
   ·cases h
  ·cases h
 ·have:=hN h;omega
 ·cases h
theorem readQ_size {s:ByteArray} {q:Rq} (h:readQ s=some q):s.size≤1100:=by
 unfold readQ at h
 split at h
 ·rename_i x y hx
  have h0:=takeB_small hx
  split at h
  ·rename_i tk s2 h2
   have h1:=takeN_small h2
   split at h
   ·rename_i q' s3 h3
    have h4:=rdOf_size h3
    split at h
    ·omega
    ·cases h
   ·cases h
  ·cases h
 ·cases h
structure Vlt.Bnd (V:Vlt) (E:List ByteArray) (n:Nat):Prop where
 ok:V.Ok E
 le:n≤4194304∧E.length≤n
 dsk:V.dsk.Bnd n
 snk:∀ k∈V.snks,k.Bnd E n
 few:V.snks.length≤4
 key:V.key.size≤1100000
theorem logOf_small {E:List ByteArray} (h:∀ e∈E,fitsB e=true):(logOf E).size≤400*E.length:=by
 induction E with
 | nil=>simp [logOf]
 | cons a l ih =>
  have h1:=fits_small (h a (.head _))
  have h2:=ih fun e he=>h e (.tail _ he)
  rw [logOf,ByteArray.size_append,frOf_size,List.length_cons]
  omega
theorem Vlt.Bnd.wrote {V:Vlt} {E:List ByteArray} {n:Nat} (h:V.Bnd E n) (s:ByteArray):(V.wrote s).Bnd (n+1):=by
 unfold Vlt.wrote
 split
 ·rename_i hc
  refine h.dsk.write ?_
  have hs:s.size≤1100:=by
   unfold Vlt.ask at hc
   split at hc
   ·rename_i q hq;exact readQ_size hq
   ·cases hc
  rw [ByteArray.size_append,bs_size,Sha.digest_length,txt_size]
  omega
 ·exact h.dsk.up (by omega)
theorem Vlt.Bnd.next {V:Vlt} {E:List ByteArray} {n:Nat} (h:V.Bnd E n) (hn:n+1≤4194304) (s:ByteArray) :
  ((V.lay s).2=true→(V.next s).Bnd (E++[V.entry s]) (n+1))∧((V.lay s).2=false→(V.next s).Bnd E (n+1)):=by
 have hE:E.length<4294967296:=by have:=h.le;omega
 have hN:=h.ok.next hE s
 have hf:=chn_fits (h.ok.chn' hE s)
 have hm:=h.ok.most'
 have hl:(V.lay s).1=V.snks.map fun k=>(giveF k (logOf E++frOf (V.entry s))).1:=by unfold Vlt.lay;rw [hm];rfl
 constructor
 ·intro hy
  have hV:V.next s=⟨V.key,V.wrote s,(V.lay s).1,V.cnt+1,Sha.digest (V.entry s).data.toList,V.sto.then (V.ask s).1 (V.ask s).2⟩:=by rw [Vlt.next,if_pos hy]
  refine ⟨hN.1 hy,⟨hn,by simp;have:=h.le;omega⟩,?_,?_,?_,?_⟩
  ·rw [hV];exact h.wrote s
  ·rw [hV]
   intro x hx
   rw [show (Vlt.mk _ _ _ _ _ _).snks=(V.lay s).1 from rfl,hl] at hx
   obtain ⟨k,hk,rfl⟩:=List.mem_map.1 hx
   exact (h.snk k hk).give hf
  ·rw [hV];show (V.lay s).1.length≤4;rw [hl,List.length_map];exact h.few
  ·rw [hV];exact h.key
 ·intro hy
  have hV:V.next s=⟨V.key,V.wrote s,(V.lay s).1,V.cnt,V.last,V.sto⟩:=by rw [Vlt.next,if_neg (by rw [hy];simp)]
  refine ⟨hN.2 hy,⟨hn,by have:=h.le;omega⟩,?_,?_,?_,?_⟩
  ·rw [hV];exact h.wrote s
  ·intro x hx
   have hs1:=(hN.2 hy).snk x hx
   rw [hV,show (Vlt.mk _ _ _ _ _ _).snks=(V.lay s).1 from rfl,hl] at hx
   obtain ⟨k,hk,rfl⟩:=List.mem_map.1 hx
   exact ((h.snk k hk).give hf).less hs1
  ·rw [hV];show (V.lay s).1.length≤4;rw [hl,List.length_map];exact h.few
  ·rw [hV];exact h.key
end Go.Proofs.YtlbacbcenejngaaGreatDoor
namespace Go.Proofs.YtlbacbcenejngaaGreatDoor
open Go.RowKit
set_option maxRecDepth 100000 in
theorem one_ref (n:Nat) (w:World) (_hn:n≤140737488355328):Calls Tryz.prog 121 #[.int .i64 (n:Int)] w fun e w'=>e=.returned (.string (bs [UInt8.ofNat n]))∧Kept w.heap.size w w':=by
 have hcv:(convert 58 9 (.slice (some ⟨w.heap.size,0,none⟩) 1 1)).run Tryz.prog (w.alloc (.cells #[.int .u8 ((n:Int) % 256)] 5))=.ok (.string (bs [UInt8.ofNat n])) (w.alloc (.cells #[.int .u8 ((n:Int) % 256)] 5)):=by rw [byte_nat];exact conv_one _ _
 go_enter Tryz.func121,Tryz.ntmps121
 go_wp2
 all_goals go_ret
 all_goals exact ⟨rfl,(Kept.refl _ _).alloc (Nat.le_refl _) _⟩
theorem leN_take {n m k:Nat} (h:k<m):(leN n m).take (k+1)=(leN n m).take k++[UInt8.ofNat (n / 256^k)]:=by
 rw [List.take_succ_eq_append_getElem (by rw [leN_length];exact h)]
 congr 1
 simp [leN]
theorem pow_le (n k:Nat):n / 256^k≤n:=Nat.div_le_self _ _
set_option maxRecDepth 100000 in
set_option maxHeartbeats 1000000 in
theorem low_ref (n m:Nat) (w:World) (hn:n≤140737488355328) (hm:0<m∧m≤8):Calls Tryz.prog 147 #[.int .i64 (n:Int),.int .i64 (m:Int)] w fun e w'=>e=.returned (.string (bs (leN n m)))∧Kept w.heap.size w w':=by
 obtain ⟨i0,hi0,hz0,hz1,hz2⟩:=info_parts info5'
 go_enter Tryz.func147,Tryz.ntmps147
 go_wp2
 go_loopw [0,5,6] (fun x v t wr=>∃ k:Nat,k≤m∧t=.int .i64 k∧x=.int .i64 ((n / 256^k:Nat):Int)∧wr.ownsRow w.heap.size 5 1 v k (u8s ((leN n m).take k))∧Below w.heap.size w wr∧w.heap.size≤wr.heap.size) (fun _ _ t _=>m-(intOf t).toNat)
 case atStart=>exact ⟨0,Nat.zero_le _,rfl,by simp,World.ownsRow_nil _ _ _ _,Below.refl _ _,Nat.le_refl _⟩
 case round =>
  obtain ⟨k,hk,rfl,rfl,hown,hbl,hsz⟩:=hrel
  by_cases hlt:k<m
  ·have hltI:(k:Int)<(m:Int):=by omega
   have HT:=hide (leN_take (n:=n) hlt)
   have hyb:=pow_le n k
   have HP:=hide (show n / 256^(k+1)=n / 256^k / 256 by rw [Nat.pow_succ,Nat.div_div_eq_div_mul])
   generalize n / 256^k=y at *
   have HBY:=hide (byte_nat y)
   go_wp2_with (at_builtin;refine wpList_append_own _ rfl (.tmp 12) (.tmp 16) 58 rfl w.heap.size 5 i0 (.int .u8 0) 1 1 Tryz.underlying58 hi0 hz0 hz1 hz2 rfl (by decide) _ k (u8s ((leN n m).take k)) rfl (hown.alloc _) ⟨wr.heap.size,0,none⟩ 1 1 [.int .u8 ((y:Int) % 256)] rfl rfl (cell_one_new _ _ _) ?c2 ?c3 ?c4 ?c5 ?_)
   case c2=>first | rfl | exact mem_one rfl
   case c3=>unfold maxLen;omega
   case c4=>omega
   case c5=>first | omega | (simp;omega)
   intro v' w2 hown' hgrow _
   have hbA:Below w.heap.size (wr.alloc (.cells #[.int .u8 ((y:Int) % 256)] 5)) w2:=grown_below (Below.refl _ _) (hown.alloc _) (Nat.le_refl _) hgrow (by simp;omega)
   have hb2:=hide ((hbl.alloc (by omega) (.cells #[.int .u8 ((y:Int) % 256)] 5)).trans (hbA.mono (by omega)))
   have hs2:w.heap.size≤w2.heap.size:=by have:=hbA.size;simp at this;omega
   rw [uh HBY] at hown'
   have HO:=hide hown'
   clear hown hown' hgrow hbl hbA
   go_wp2
   go_roundw
   case rel =>
    refine ⟨k+1,by omega,by go_num,by rw [uh HP];first | rfl | (refine congrArg (Value.int .i64) ?_;omega),?_,uh hb2,hs2⟩
    rw [uh HT]
    simpa [u8s] using uh HO
   case measure=>simp [intOf];omega
  ·obtain rfl:k=m:=by omega
   have hltI:¬ (k:Int)<(k:Int):=by omega
   rw [List.take_of_length_le (by rw [leN_length];exact Nat.le_refl _)] at hown
   obtain ⟨g,cap,hv,hby⟩:=own_byts hown (by omega)
   subst hv
   have hcv:=hby.conv (P:=Tryz.prog) 58 5 9 Tryz.underlying58 Tryz.underlying5 Tryz.underlying9
   clear hown hby
   go_wp2
   go_ret
   exact ⟨rfl,.of hbl⟩
end Go.Proofs.YtlbacbcenejngaaGreatDoor
