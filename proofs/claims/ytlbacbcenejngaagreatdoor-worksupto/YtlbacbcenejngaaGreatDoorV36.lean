/-
  Sb Sc Sd Se Kd
-/
import Derived.Test.YtlbacbcenejngaaGreatDoorV34
import Derived.Test.YtlbacbcenejngaaGreatDoorV32
import Derived.Test.YtlbacbcenejngaaGreatDoorV02
namespace Go.Proofs.YtlbacbcenejngaaGreatDoor
open Go.RowKit Go.MapKept
structure Tok where
 pre:ByteArray
 rights:UInt8
structure Pth where
 next:Nat
 vers:List (Nat × ByteArray)
structure Sto where
 root:ByteArray
 toks:List (ByteArray × Tok)
 paths:List (ByteArray × Pth)
abbrev skey (s:ByteArray):Value:=.string s
def Tok.enc (t:Tok):Value:=.agg #[.string t.pre,.int .u8 (t.rights.toNat:Int)]
def vcell (v:Nat × ByteArray):List Value:=[.int .u8 (v.1:Int),.string v.2]
def vcells:List (Nat × ByteArray)→List Value
 | []=>[]
 | v::l=>vcell v++vcells l
theorem vcells_len:∀ l:List (Nat × ByteArray),(vcells l).length=l.length*2
 | []=>rfl
 | v::l=>by rw [vcells,List.length_append,vcells_len l,List.length_cons];simp [vcell];omega
theorem vcells_app:∀ l m:List (Nat × ByteArray),vcells (l++m)=vcells l++vcells m
 | [],_=>rfl
 | f::l,m=>by rw [List.cons_append,vcells,vcells,vcells_app l m,List.append_assoc]
theorem vcells_at:∀ (l:List (Nat × ByteArray)) (k j:Nat),k<l.length→j<2→(vcells l)[k*2+j]?=(vcell (l.getD k (0,.empty)))[j]?
 | [],k,j,h,_=>by simp at h
 | f::l,0,j,_,hj=>by
  rw [vcells,Nat.zero_mul,Nat.zero_add,List.getElem?_append_left (by simpa [vcell] using hj)]
  rfl
 | f::l,k+1,j,h,hj=>by
  rw [vcells,List.getElem?_append_right (by simp [vcell];omega),show (k+1)*2+j-(vcell f).length=k*2+j by simp [vcell];omega,vcells_at l k j (by simpa using h) hj]
  simp
def PP (B:Nat) (x:Pth) (w:World) (p:Nat) (v:Value):Prop :=
 w.heap[p]?=some (.cells #[.int .u8 (x.next:Int),v] 235 (0,0))∧w.ownsRow B 237 2 v x.vers.length (vcells x.vers)∧B≤p
theorem wayP (B:Nat):Way B 235 237 (PP B) :=
 ⟨fun h=>⟨_,h.1⟩,fun h hk=>⟨own_ty h.2.1 hk,(h.2.1.lt _ hk).1⟩,fun h=>h.2.2,fun h h1 h2=>⟨h1.trans h.1,own_blocks h.2.1 h2,h.2.2⟩,by decide⟩
abbrev PL:=List (ByteArray × Loc Pth)
def PL.locs (L:PL):List (Loc Pth):=L.map (·.2)
def PL.ptrs (L:PL):List (ByteArray × Value):=L.map fun e=>(e.1,.pointer (some ⟨e.2.p,0,none⟩))
def PL.vals (L:PL):List (ByteArray × Pth):=L.map fun e=>(e.1,e.2.x)
structure StoAt (B:Nat) (w:World) (sp tb pb:Nat) (L:PL) (S:Sto):Prop where
 at':w.heap[sp]?=some (.cells #[.string S.root,.map (some tb),.map (some pb)] 168 (0,0))
 toks:MapAt .string skey w tb (S.toks.map fun e=>(e.1,e.2.enc))
 paths:MapAt .string skey w pb L.ptrs
 vals:S.paths=L.vals
 fam:Fam (PP B) w L.locs
 ge:B≤sp∧B≤tb∧B≤pb
 ne:tb≠pb
def Sft (sp tb pb:Nat) (L:PL) (k:Nat):Prop:=k=sp∨k=tb∨k=pb∨∃ e∈L.locs,e.p=k∨e.v.ownBlock=some k
theorem StoAt.stay {B:Nat} {w w':World} {sp tb pb:Nat} {L:PL} {S:Sto} (h:StoAt B w sp tb pb L S) (hk:∀ k,Sft sp tb pb L k→w'.heap[k]?=w.heap[k]?):StoAt B w' sp tb pb L S :=
 ⟨(hk _ (.inl rfl)).trans h.at',h.toks.stay (hk _ (.inr (.inl rfl))),h.paths.stay (hk _ (.inr (.inr (.inl rfl)))),h.vals,
  h.fam.frame (wayP B) (fun k _ he=>hk k (.inr (.inr (.inr (by obtain ⟨e,h1,h2⟩:=he;exact ⟨e,h1,.inl h2⟩))))) (fun k _ he=>hk k (.inr (.inr (.inr (by obtain ⟨e,h1,h2⟩:=he;exact ⟨e,h1,.inr h2⟩))))),h.ge,h.ne⟩
theorem StoAt.chg {B:Nat} {w w':World} {F:Nat→Prop} {sp tb pb:Nat} {L:PL} {S:Sto} (h:StoAt B w sp tb pb L S) (hc:Chg F w w') (hn:∀ k,Sft sp tb pb L k→k<w.heap.size→¬ F k):StoAt B w' sp tb pb L S :=
 h.stay fun k hk=>by
  have hlt:k<w.heap.size:=by
   rcases hk with rfl | rfl | rfl | ⟨e,he,hk⟩
   ·exact (Array.getElem?_eq_some_iff.1 h.at').1
   ·exact h.toks.lt
   ·exact h.paths.lt
   ·rcases hk with rfl | hk
    ·exact ((wayP B).ty (h.fam.each e he)).lt
    ·exact ((wayP B).row (h.fam.each e he) hk).1.lt
  exact hc.block k hlt (hn k hk hlt)
theorem StoAt.kept {B:Nat} {w w':World} {sp tb pb:Nat} {L:PL} {S:Sto} (h:StoAt B w sp tb pb L S) (hc:Kept w.heap.size w w'):StoAt B w' sp tb pb L S:=h.chg hc.chg fun _ _ _ e=>e
theorem StoAt.foot_lt {B:Nat} {w:World} {sp tb pb:Nat} {L:PL} {S:Sto} (h:StoAt B w sp tb pb L S) {k:Nat} (hk:Sft sp tb pb L k):k<w.heap.size∧B≤k:=by
 rcases hk with rfl | rfl | rfl | ⟨e,he,hk⟩
 ·exact ⟨(Array.getElem?_eq_some_iff.1 h.at').1,h.ge.1⟩
 ·exact ⟨h.toks.lt,h.ge.2.1⟩
 ·exact ⟨h.paths.lt,h.ge.2.2⟩
 ·rcases hk with rfl | hk
  ·exact ⟨((wayP B).ty (h.fam.each e he)).lt,(wayP B).big (h.fam.each e he)⟩
  ·exact ⟨((wayP B).row (h.fam.each e he) hk).1.lt,((wayP B).row (h.fam.each e he) hk).2⟩
theorem StoAt.kind {B:Nat} {w:World} {sp tb pb:Nat} {L:PL} {S:Sto} (h:StoAt B w sp tb pb L S) {k:Nat} (hk:Sft sp tb pb L k):TyAt w k 168∨TyAt w k 235∨TyAt w k 237∨∃ es c,w.heap[k]?=some (.map es c):=by
 rcases hk with rfl | rfl | rfl | ⟨e,he,hk⟩
 ·exact .inl ⟨_,h.at'⟩
 ·obtain ⟨es,c,hh,_⟩:=h.toks;exact .inr (.inr (.inr ⟨es,c,hh⟩))
 ·obtain ⟨es,c,hh,_⟩:=h.paths;exact .inr (.inr (.inr ⟨es,c,hh⟩))
 ·rcases hk with rfl | hk
  ·exact .inr (.inl ((wayP B).ty (h.fam.each e he)))
  ·exact .inr (.inr (.inl ((wayP B).row (h.fam.each e he) hk).1))
theorem und165:Tryz.prog.underlying 165=some (.map 9 164):=by kernel_rfl
theorem und166:Tryz.prog.underlying 166=some (.map 9 231):=by kernel_rfl
theorem zero231 (w:World):(zeroValue 231).run Tryz.prog w=.ok (.pointer none) w:=by
 have:(Tryz.prog.info? 231).map (fun i=>(i.zero,i.size))=some (some (.pointer none),1):=by kernel_rfl
 simp [zeroValue,typeInfo,go_sem]
 revert this
 cases Tryz.prog.info? 231 <;> simp
 intro h _
 simp [h]
theorem zero164 (w:World):(zeroValue 164).run Tryz.prog w=.ok (.agg #[.string .empty,.int .u8 0]) w:=by
 have:(Tryz.prog.info? 164).map (fun i=>(i.zero,i.size))=some (some (.agg #[.string .empty,.int .u8 0]),2):=by kernel_rfl
 simp [zeroValue,typeInfo,go_sem]
 revert this
 cases Tryz.prog.info? 164 <;> simp
 intro h _
 simp [h]
theorem PL.find {L:PL} {n:ByteArray}:(lk n L.ptrs=none∧lk n L.vals=none)∨∃ i,∃ hi:i<L.length,L[i].1=n∧(∀ j (hj:j<i),L[j].1≠n)∧lk n L.ptrs=some (.pointer (some ⟨L[i].2.p,0,none⟩))∧lk n L.vals=some L[i].2.x:=by
 induction L with
 | nil=>exact .inl ⟨rfl,rfl⟩
 | cons e l ih =>
  by_cases h:e.1=n
  ·exact .inr ⟨0,by simp,h,by omega,by simp [PL.ptrs,lk,h],by simp [PL.vals,lk,h]⟩
  ·rcases ih with ⟨h1,h2⟩ | ⟨i,hi,h1,h2,h3,h4⟩
   ·refine .inl ⟨?_,?_⟩
    ·rw [PL.ptrs,List.map_cons,lk,if_neg h];exact h1
    ·rw [PL.vals,List.map_cons,lk,if_neg h];exact h2
   ·refine .inr ⟨i+1,by simpa using hi,by simpa using h1,fun j hj=>?_,?_,?_⟩
    ·cases j with
     | zero=>exact h
     | succ j=>simpa using h2 j (by omega)
    ·rw [PL.ptrs,List.map_cons,lk,if_neg h];simpa [PL.ptrs] using h3
    ·rw [PL.vals,List.map_cons,lk,if_neg h];simpa [PL.vals] using h4
def Sto.versOf (S:Sto) (n:ByteArray):List (Nat × ByteArray):=match lk n S.paths with | some p=>p.vers | none=>[]
set_option maxRecDepth 100000 in
theorem versionsOf_go (B:Nat) (w:World) (sp tb pb:Nat) (L:PL) (S:Sto) (n:ByteArray) (h:StoAt B w sp tb pb L S) :
  Calls Tryz.prog 169 #[.pointer (some ⟨sp,0,none⟩),.string n] w fun r w'=>(∃ v,r=.returned v∧w.ownsRow B 237 2 v (S.versOf n).length (vcells (S.versOf n)))∧w'=w:=by
 have hc:w.cell? ⟨sp,2,none⟩=some (.map (some pb)):=by rw [cell_of_row _ _ _ _ _ _ h.at'];rfl
 rcases PL.find (L:=L) (n:=n) with ⟨h1,h2⟩ | ⟨i,hi,hn,hb,h1,h2⟩
 ·have hv:S.versOf n=[]:=by rw [Sto.versOf,h.vals,h2]
  have hl:(Instr.lookup 166 (.map (some pb)) (.string n) true).run Tryz.prog w=.ok (.tuple #[.pointer none,.bool false]) w:=run_look0 kkStr und166 h.paths n (zero231 w) h1 true
  rw [hv]
  clear h
  go_enter Tryz.func169,Tryz.ntmps169
  go_wp2_with fail
  go_ret
  exact ⟨⟨_,rfl,World.ownsRow_nil _ _ _ _⟩,rfl⟩
 ·have hv:S.versOf n=L[i].2.x.vers:=by rw [Sto.versOf,h.vals,h2]
  have hl:(Instr.lookup 166 (.map (some pb)) (.string n) true).run Tryz.prog w=.ok (.tuple #[.pointer (some ⟨L[i].2.p,0,none⟩),.bool true]) w:=run_look kkStr und166 h.paths n h1 true
  have hp:=h.fam.each L[i].2 (List.mem_map.2 ⟨L[i],List.getElem_mem hi,rfl⟩)
  have hc1:w.cell? ⟨L[i].2.p,1,none⟩=some L[i].2.v:=by rw [cell_of_row _ _ _ _ _ _ hp.1];rfl
  have HP:=hide hp
  rw [hv]
  clear h hp h1 h2 hn hb hv
  generalize L[i].2=e at *
  go_enter Tryz.func169,Tryz.ntmps169
  go_wp2_with fail
  go_ret
  exact ⟨⟨_,rfl,(uh HP).2.1⟩,rfl⟩
end Go.Proofs.YtlbacbcenejngaaGreatDoor
namespace Go.Proofs.YtlbacbcenejngaaGreatDoor
open Go.RowKit Go.MapKept
inductive Cg where
  | put
  | drop
  | grant
  | revoke
structure Bx (n0:Nat) (w:World) (sp b2 b3:Nat) (q:Rq):Prop where
  s:w.heap[b2]?=some (.cells #[.pointer (some ⟨sp,0,none⟩)] 76 (0,0))
  q:RqAt w b3 q
  ge:n0≤b2∧n0≤b3
def Clo (B n0:Nat) (w:World) (sp:Nat) (L:PL) (q:Rq) (F:Value):Option Cg→Prop
  | none=>F=.nilFunc
  | some .grant=>∃ b2 b3,F=.func (.func 174) #[] #[.pointer (some ⟨b3,0,none⟩),.pointer (some ⟨b2,0,none⟩)]∧Bx n0 w sp b2 b3 q
  | some .revoke=>∃ b2 b3,F=.func (.func 175) #[] #[.pointer (some ⟨b2,0,none⟩),.pointer (some ⟨b3,0,none⟩)]∧Bx n0 w sp b2 b3 q
  | some .drop=>∃ b2 b3,F=.func (.func 170) #[] #[.pointer (some ⟨b2,0,none⟩),.pointer (some ⟨b3,0,none⟩)]∧Bx n0 w sp b2 b3 q
  | some .put=>∃ b2 b3 b5 pp,F=.func (.func 168) #[] #[.pointer (some ⟨b5,0,none⟩),.pointer (some ⟨b2,0,none⟩),.pointer (some ⟨b3,0,none⟩)]∧Bx n0 w sp b2 b3 q ∧
      w.heap[b5]?=some (.cells #[.pointer (some ⟨pp,0,none⟩)] 231 (0,0))∧n0≤b5 ∧
      ((∃ i,∃ hi:i<L.length,L[i].1=q.path∧(∀ j (hj:j<i),L[j].1≠q.path)∧pp=L[i].2.p)∨(lk q.path L.vals=none∧lk q.path L.ptrs=none∧PP B ⟨1,[]⟩ w pp (.slice none 0 0)∧n0≤pp))
structure Oc where
  err:Nat
  more:ByteArray
  ch:Option Cg
def ocEnd (B:Nat) (w:World) (sp:Nat) (L:PL) (q:Rq) (o:Oc) (e:Ending) (w':World):Prop :=
  (∃ F,e=.returned (.agg (ocells o.err o.more F))∧Clo B w.heap.size w' sp L q F o.ch)∧Kept w.heap.size w w'
def Sto.grant (S:Sto) (q:Rq):Oc:=match lk q.name S.toks with
  | some _=>⟨7,.empty,none⟩
  | none=>if 8≤S.toks.length then ⟨5,.empty,none⟩ else ⟨0,.empty,some .grant⟩
def Sto.revoke (S:Sto) (q:Rq):Oc:=match lk q.name S.toks with
  | none=>⟨4,.empty,none⟩
  | some _=>if q.name=S.root then ⟨3,.empty,none⟩ else ⟨0,.empty,some .revoke⟩
theorem lk_toks (S:Sto) (n:ByteArray):lk n (S.toks.map fun e=>(e.1,e.2.enc))=(lk n S.toks).map Tok.enc:=lk_map Tok.enc n S.toks
theorem tok_look (w:World) (tb:Nat) (S:Sto) (n:ByteArray) (h:MapAt .string skey w tb (S.toks.map fun e=>(e.1,e.2.enc))) :
    (∃ t,lk n S.toks=some t∧(Instr.lookup 165 (.map (some tb)) (.string n) true).run Tryz.prog w=.ok (.tuple #[.agg #[.string t.pre,.int .u8 (t.rights.toNat:Int)],.bool true]) w) ∨
    (lk n S.toks=none∧(Instr.lookup 165 (.map (some tb)) (.string n) true).run Tryz.prog w=.ok (.tuple #[.agg #[.string .empty,.int .u8 0],.bool false]) w):=by
  have hl:=lk_toks S n
  cases ht:lk n S.toks with
  | none =>
    rw [ht] at hl
    exact .inr ⟨rfl,run_look0 kkStr und165 h n (zero164 w) hl true⟩
  | some t =>
    rw [ht] at hl
    exact .inl ⟨t,rfl,run_look kkStr und165 h n hl true⟩
def w3 (w:World) (sp:Nat) (q:Rq):World:=((w.alloc (.cells #[.pointer (some ⟨sp,0,none⟩)] 76)).alloc (.cells q.cells 84)).alloc (.cells (ocells 0 .empty .nilFunc) 86)
structure W3 (w:World) (sp:Nat) (q:Rq) (wi:World):Prop where
  s:wi.heap[w.heap.size]?=some (.cells #[.pointer (some ⟨sp,0,none⟩)] 76 (0,0))
  q:RqAt wi (w.heap.size+1) q
  o:wi.heap[w.heap.size+2]?=some (.cells (ocells 0 .empty .nilFunc) 86 (0,0))
  kept:Kept w.heap.size w wi
theorem w3_start (w:World) (sp:Nat) (q:Rq):W3 w sp q (w3 w sp q):=by
  refine ⟨?_,?_,?_,?_⟩
  · unfold w3
    rw [Below.heap_alloc _ _ _ (by simp only [World.size_alloc];omega),Below.heap_alloc _ _ _ (by simp)]
    exact heap_alloc_new _ _
  · unfold w3 RqAt
    rw [Below.heap_alloc _ _ _ (by simp)]
    have:=heap_alloc_new (w.alloc (.cells #[.pointer (some ⟨sp,0,none⟩)] 76)) (.cells q.cells 84)
    simpa only [World.size_alloc] using this
  · have:=heap_alloc_new ((w.alloc (.cells #[.pointer (some ⟨sp,0,none⟩)] 76)).alloc (.cells q.cells 84)) (.cells (ocells 0 .empty .nilFunc) 86)
    unfold w3
    simpa only [World.size_alloc] using this
  · exact (((Kept.refl _ _).alloc (Nat.le_refl _) _).alloc (by simp) _).alloc (by simp only [World.size_alloc];omega) _
theorem W3.size {w wi:World} {sp:Nat} {q:Rq} (h:W3 w sp q wi):w.heap.size+3≤wi.heap.size:=(Array.getElem?_eq_some_iff.1 h.o).1
theorem W3.next {w wi w':World} {sp:Nat} {q:Rq} (h:W3 w sp q wi) (hk:Kept (w.heap.size+3) wi w'):W3 w sp q w' :=
  ⟨(hk.block _ (by omega)).trans h.s,(hk.block _ (by omega)).trans h.q,(hk.block _ (by omega)).trans h.o,h.kept.trans (hk.mono (by omega))⟩
theorem W3.bx {w wi:World} {sp:Nat} {q:Rq} (h:W3 w sp q wi):Bx w.heap.size wi sp w.heap.size (w.heap.size+1) q:=⟨h.s,h.q,Nat.le_refl _,by omega⟩
theorem W3.put {w wi w2:World} {sp:Nat} {q:Rq} {cs:Array Value} (h:W3 w sp q wi) (hp:Put (w.heap.size+2) cs 86 wi w2):Bx w.heap.size w2 sp w.heap.size (w.heap.size+1) q∧Kept w.heap.size w w2 :=
  ⟨⟨(hp.other _ (by omega)).trans h.s,(hp.other _ (by omega)).trans h.q,Nat.le_refl _,by omega⟩,h.kept.trans (.of (hp.below (by omega)))⟩
def SL (w:World) (sp tb:Nat) (n p0:ByteArray) (r0:Int) (b0:Bool) (W:World):Prop:=W.cell? ⟨w.heap.size,0,none⟩=some (.pointer (some ⟨sp,0,none⟩))∧W.cell? ⟨sp,1,none⟩=some (.map (some tb))∧W.cell? ⟨w.heap.size+1,6,none⟩=some (.string n)∧(Instr.lookup 165 (.map (some tb)) (.string n) true).run Tryz.prog W=.ok (.tuple #[.agg #[.string p0,.int .u8 r0],.bool b0]) W
theorem info164:(Tryz.prog.info? 164).map (·.size)=some 2:=by kernel_rfl
theorem sl_all (B:Nat) (w:World) (sp tb pb:Nat) (L:PL) (S:Sto) (q:Rq) (h:StoAt B w sp tb pb L S) :
    (∃ t,lk q.name S.toks=some t∧∀ W,W3 w sp q W→SL w sp tb q.name t.pre (t.rights.toNat:Int) true W)∨(lk q.name S.toks=none∧∀ W,W3 w sp q W→SL w sp tb q.name .empty 0 false W):=by
  have hc:∀ W,W3 w sp q W→W.cell? ⟨w.heap.size,0,none⟩=some (.pointer (some ⟨sp,0,none⟩))∧W.cell? ⟨sp,1,none⟩=some (.map (some tb))∧W.cell? ⟨w.heap.size+1,6,none⟩=some (.string q.name):=fun W hW=>by
    refine ⟨by rw [cell_of_row _ _ _ _ _ _ hW.s];rfl,?_,by rw [hW.q.c 6];rfl⟩
    have hs:=h.kept hW.kept
    rw [cell_of_row _ _ _ _ _ _ hs.at'];rfl
  cases ht:lk q.name S.toks with
  | none =>
    refine .inr ⟨rfl,fun W hW=>⟨(hc W hW).1,(hc W hW).2.1,(hc W hW).2.2,?_⟩⟩
    rcases tok_look W tb S q.name (h.kept hW.kept).toks with ⟨t,h1,_⟩ | ⟨_,h2⟩
    · rw [ht] at h1;cases h1
    · exact h2
  | some t =>
    refine .inl ⟨t,rfl,fun W hW=>⟨(hc W hW).1,(hc W hW).2.1,(hc W hW).2.2,?_⟩⟩
    rcases tok_look W tb S q.name (h.kept hW.kept).toks with ⟨t',h1,h2⟩ | ⟨h1,_⟩
    · rw [ht] at h1;cases h1;exact h2
    · rw [ht] at h1;cases h1
theorem W3.drewAlloc {w wi:World} {sp:Nat} {q:Rq} (h:W3 w sp q wi) (o:Obj):W3 w sp q (wi.alloc o).drew:=by
  have hs:=h.size
  refine h.next ⟨rfl,rfl,by simp,fun k hk=>?_⟩
  exact Below.heap_alloc wi o k (by omega)
set_option maxRecDepth 100000 in
set_option maxHeartbeats 1000000 in
theorem grant_go (B:Nat) (w:World) (sp tb pb:Nat) (L:PL) (S:Sto) (q:Rq) (h:StoAt B w sp tb pb L S) :
    Calls Tryz.prog 144 #[.pointer (some ⟨sp,0,none⟩),.agg q.cells] w (ocEnd B w sp L q (S.grant q)):=by
  have hmf:∀ (fn:Fn) (first cap:Array Value) (w:World),(Instr.makeFunc fn first cap).run Tryz.prog w=.ok (.func fn first cap) w:=fun _ _ _ _=>rfl
  have H0:=hide (w3_start w sp q)
  have HS:=hide h
  have hsl:=sl_all B w sp tb pb L S q h
  clear h
  rcases hsl with ⟨tk,hlk,hsl⟩ | ⟨hlk,hsl⟩
  · have HO:=hide (show S.grant q=⟨7,.empty,none⟩ by rw [Sto.grant,hlk])
    have HSL:=hide hsl
    clear hsl
    generalize hp0:tk.pre=p0 at HSL
    generalize hr0:(tk.rights.toNat:Int)=r0 at HSL
    generalize hb0:true=b0 at HSL
    have HB0:=hide hb0
    clear hp0 hr0 hb0
    go_enter Tryz.func144,Tryz.ntmps144
    go_wp2_with fail
    change Code.wp _ _ _ _ (w3 w sp q)
    generalize w3 w sp q=w1 at H0 ⊢
    refine wp_region_held_drew (S:=SL w sp tb q.name p0 r0 b0) (by kernel_rfl) (uh HSL w1.drew ⟨(uh H0).s,(uh H0).q,(uh H0).o,⟨(uh H0).kept.os,(uh H0).kept.output,(uh H0).kept.size,(uh H0).kept.block⟩⟩) (fun hHeld=>?_)
    refine tkG 0 (some 8) (.load 76 (.tmp 2)) 76 none (.pointer (some ⟨sp,0,none⟩)) (by kernel_rfl) (fun _ _ _ h=>h) (Or.inl ⟨by kernel_rfl,fun W hW=>by simp [execOp,go_sem,hW.1]⟩) hHeld ?_
    simp only [zz0,zz1,zz2]
    refine tkL 2 [(1,some 9,.pointer (some ⟨sp,0,none⟩)),(2,some 10,.pointer (some ⟨sp,1,none⟩))] (by kernel_rfl) (fun _ _ _ _ _ h=>h) (fun _ _=>by kernel_rfl) hHeld ?_
    simp only [zz0,zz1,zz2,zz4,zz5]
    refine tkG 3 (some 11) (.load 165 (.tmp 10)) 165 none (.map (some tb)) (by kernel_rfl) (fun _ _ _ h=>h) (Or.inl ⟨by kernel_rfl,fun W hW=>by simp [execOp,go_sem,hW.2.1]⟩) hHeld ?_
    simp only [zz0,zz1,zz2]
    refine tkP 4 (some 12) (.pointer (some ⟨w.heap.size+1,6,none⟩)) (by kernel_rfl) (fun _ _ _ h=>h) (fun _ _=>by kernel_rfl) hHeld ?_
    simp only [zz0,zz1,zz2]
    refine tkG 5 (some 13) (.load 9 (.tmp 12)) 9 none (.string q.name) (by kernel_rfl) (fun _ _ _ h=>h) (Or.inl ⟨by kernel_rfl,fun W hW=>by simp [execOp,go_sem,hW.2.2.1]⟩) hHeld ?_
    simp only [zz0,zz1,zz2]
    refine tkG 6 (some 14) (.lookup 165 (.tmp 11) (.tmp 13) true) 202 none (.tuple #[.agg #[.string p0,.int .u8 r0],.bool b0]) (by kernel_rfl) (fun _ _ _ h=>h) (Or.inl ⟨by kernel_rfl,fun W hW=>by simp [execOp,go_sem,hW.2.2.2]⟩) hHeld ?_
    simp only [zz0,zz1,zz2]
    refine tkL 3 [(7,some 7,.tuple #[.agg #[.string p0,.int .u8 r0],.bool b0]),(8,some 15,.agg #[.string p0,.int .u8 r0]),(9,some 16,.bool b0)] (by kernel_rfl) (fun _ _ _ _ _ h=>h) (fun _ _=>by kernel_rfl) hHeld ?_
    simp only [zz0,zz1,zz2,zz4,zz5]
    refine rd1 10 (some 5) (.alloc 164) 0 (by kernel_rfl) (fun K hK=>?_)
    go_simp
    have HW2:=hide ((uh H0).drewAlloc (.cells #[.string ⟨#[]⟩,.int .u8 0] 164))
    have hr2:(w1.alloc (.cells #[.string ⟨#[]⟩,.int .u8 0] 164)).drew.heap[w1.heap.size]?=some (.cells #[.string ⟨#[]⟩,.int .u8 0] 164 (0,0)):=heap_alloc_new w1 _
    have hz2:=(uh H0).size
    generalize (w1.alloc (.cells #[.string ⟨#[]⟩,.int .u8 0] 164)).drew=w2 at HW2 hr2 hK ⊢
    show K _ w2
    refine hK.out _ _ (uh HSL w2 (uh HW2)) (fun hHeld10=>?_)
    clear hK K
    try simp only [zz0,zz1,zz2]
    refine rd1 11 none (.store 164 (.tmp 5) (.tmp 15)) 0 (by kernel_rfl) (fun K hK=>?_)
    refine wp_store_row 164 (.tmp 5) (.tmp 15) ?_ w1.heap.size #[.string p0,.int .u8 r0] ?_ ?_ 164 _ hr2 info164 rfl (by simp [Value.oneCell']) ?_
    · rfl
    · kernel_rfl
    · kernel_rfl
    simp only [Act.put]
    have HW3:=hide ((uh HW2).next (w':=w2.setRow w1.heap.size #[.string p0,.int .u8 r0]) ((Kept.refl _ _).setRow (by omega) _))
    generalize w2.setRow w1.heap.size #[.string p0,.int .u8 r0]=w4 at HW3 hK ⊢
    show K _ w4
    refine hK.out _ _ (uh HSL w4 (uh HW3)) (fun hHeld11=>?_)
    clear hK K
    try simp only [zz3]
    refine tkP 12 (some 6) (.bool b0) (by kernel_rfl) (fun _ _ _ h=>h) (fun _ _=>by kernel_rfl) hHeld11 ?_
    simp only [zz0,zz1,zz2]
    refine wpAnyH_done (by kernel_rfl) ?_ _
    have hbb:=uh HB0
    subst hbb
    clear hHeld hHeld10 hHeld11
    go_wp2_with fail
    refine (refused_go 7 w4).mono ?_
    rintro _ w5 ⟨rfl,hk5⟩
    have HW5:=hide ((uh HW3).next (hk5.mono (uh HW3).size))
    clear hk5
    go_wp2_with (refine wpList_store_put rfl 86 (.tmp 4) (.tmp 18) rfl (w.heap.size+2) (ocells 7 .empty .nilFunc) ?_ ?_ 86 (ocells 0 .empty .nilFunc) ?_ info86 rfl (oc_one _ _ rfl) ?_
                 · rfl
                 · rfl
                 · exact (uh HW5).o
                 intro w6 hp6)
    have hfin:=(uh HW5).put hp6
    exact oc_ret Tryz.results144 hp6.row (by rw [uh HO];exact ⟨⟨_,rfl,rfl⟩,hfin.2⟩)
  · have HSL:=hide hsl
    clear hsl
    generalize hp0:ByteArray.empty=p0 at HSL
    generalize hr0:(0:Int)=r0 at HSL
    generalize hb0:false=b0 at HSL
    have HB0:=hide hb0
    clear hp0 hr0 hb0
    go_enter Tryz.func144,Tryz.ntmps144
    go_wp2_with fail
    change Code.wp _ _ _ _ (w3 w sp q)
    generalize w3 w sp q=w1 at H0 ⊢
    refine wp_region_held_drew (S:=SL w sp tb q.name p0 r0 b0) (by kernel_rfl) (uh HSL w1.drew ⟨(uh H0).s,(uh H0).q,(uh H0).o,⟨(uh H0).kept.os,(uh H0).kept.output,(uh H0).kept.size,(uh H0).kept.block⟩⟩) (fun hHeld=>?_)
    refine tkG 0 (some 8) (.load 76 (.tmp 2)) 76 none (.pointer (some ⟨sp,0,none⟩)) (by kernel_rfl) (fun _ _ _ h=>h) (Or.inl ⟨by kernel_rfl,fun W hW=>by simp [execOp,go_sem,hW.1]⟩) hHeld ?_
    simp only [zz0,zz1,zz2]
    refine tkL 2 [(1,some 9,.pointer (some ⟨sp,0,none⟩)),(2,some 10,.pointer (some ⟨sp,1,none⟩))] (by kernel_rfl) (fun _ _ _ _ _ h=>h) (fun _ _=>by kernel_rfl) hHeld ?_
    simp only [zz0,zz1,zz2,zz4,zz5]
    refine tkG 3 (some 11) (.load 165 (.tmp 10)) 165 none (.map (some tb)) (by kernel_rfl) (fun _ _ _ h=>h) (Or.inl ⟨by kernel_rfl,fun W hW=>by simp [execOp,go_sem,hW.2.1]⟩) hHeld ?_
    simp only [zz0,zz1,zz2]
    refine tkP 4 (some 12) (.pointer (some ⟨w.heap.size+1,6,none⟩)) (by kernel_rfl) (fun _ _ _ h=>h) (fun _ _=>by kernel_rfl) hHeld ?_
    simp only [zz0,zz1,zz2]
    refine tkG 5 (some 13) (.load 9 (.tmp 12)) 9 none (.string q.name) (by kernel_rfl) (fun _ _ _ h=>h) (Or.inl ⟨by kernel_rfl,fun W hW=>by simp [execOp,go_sem,hW.2.2.1]⟩) hHeld ?_
    simp only [zz0,zz1,zz2]
    refine tkG 6 (some 14) (.lookup 165 (.tmp 11) (.tmp 13) true) 202 none (.tuple #[.agg #[.string p0,.int .u8 r0],.bool b0]) (by kernel_rfl) (fun _ _ _ h=>h) (Or.inl ⟨by kernel_rfl,fun W hW=>by simp [execOp,go_sem,hW.2.2.2]⟩) hHeld ?_
    simp only [zz0,zz1,zz2]
    refine tkL 3 [(7,some 7,.tuple #[.agg #[.string p0,.int .u8 r0],.bool b0]),(8,some 15,.agg #[.string p0,.int .u8 r0]),(9,some 16,.bool b0)] (by kernel_rfl) (fun _ _ _ _ _ h=>h) (fun _ _=>by kernel_rfl) hHeld ?_
    simp only [zz0,zz1,zz2,zz4,zz5]
    refine rd1 10 (some 5) (.alloc 164) 0 (by kernel_rfl) (fun K hK=>?_)
    go_simp
    have HW2:=hide ((uh H0).drewAlloc (.cells #[.string ⟨#[]⟩,.int .u8 0] 164))
    have hr2:(w1.alloc (.cells #[.string ⟨#[]⟩,.int .u8 0] 164)).drew.heap[w1.heap.size]?=some (.cells #[.string ⟨#[]⟩,.int .u8 0] 164 (0,0)):=heap_alloc_new w1 _
    have hz2:=(uh H0).size
    generalize (w1.alloc (.cells #[.string ⟨#[]⟩,.int .u8 0] 164)).drew=w2 at HW2 hr2 hK ⊢
    show K _ w2
    refine hK.out _ _ (uh HSL w2 (uh HW2)) (fun hHeld10=>?_)
    clear hK K
    try simp only [zz0,zz1,zz2]
    refine rd1 11 none (.store 164 (.tmp 5) (.tmp 15)) 0 (by kernel_rfl) (fun K hK=>?_)
    refine wp_store_row 164 (.tmp 5) (.tmp 15) ?_ w1.heap.size #[.string p0,.int .u8 r0] ?_ ?_ 164 _ hr2 info164 rfl (by simp [Value.oneCell']) ?_
    · rfl
    · kernel_rfl
    · kernel_rfl
    simp only [Act.put]
    have HW3:=hide ((uh HW2).next (w':=w2.setRow w1.heap.size #[.string p0,.int .u8 r0]) ((Kept.refl _ _).setRow (by omega) _))
    generalize w2.setRow w1.heap.size #[.string p0,.int .u8 r0]=w4 at HW3 hK ⊢
    show K _ w4
    refine hK.out _ _ (uh HSL w4 (uh HW3)) (fun hHeld11=>?_)
    clear hK K
    try simp only [zz3]
    refine tkP 12 (some 6) (.bool b0) (by kernel_rfl) (fun _ _ _ h=>h) (fun _ _=>by kernel_rfl) hHeld11 ?_
    simp only [zz0,zz1,zz2]
    refine wpAnyH_done (by kernel_rfl) ?_ _
    have hbb:=uh HB0
    subst hbb
    clear hHeld hHeld10 hHeld11
    have hc1:w4.cell? ⟨w.heap.size,0,none⟩=some (.pointer (some ⟨sp,0,none⟩)):=by rw [cell_of_row _ _ _ _ _ _ (uh HW3).s];rfl
    have hst:=(uh HS).kept (uh HW3).kept
    have hc2:w4.cell? ⟨sp,1,none⟩=some (.map (some tb)):=by rw [cell_of_row _ _ _ _ _ _ hst.at'];rfl
    have hlen:(Builtin.len_ #[165] 3 #[.map (some tb)]).run Tryz.prog w4=.ok (.int .i64 (S.toks.length:Int)) w4:=by have:=run_mlen (ty:=3) und165 hst.toks;simpa using this
    clear hst
    by_cases h8:8≤S.toks.length
    · have h8I:(8:Int)≤(S.toks.length:Int):=by omega
      have HO:=hide (show S.grant q=⟨5,.empty,none⟩ by rw [Sto.grant,hlk];exact if_pos h8)
      go_wp2_with fail
      refine (refused_go 5 w4).mono ?_
      rintro _ w5 ⟨rfl,hk5⟩
      have HW5:=hide ((uh HW3).next (hk5.mono (uh HW3).size))
      clear hk5
      go_wp2_with (refine wpList_store_put rfl 86 (.tmp 4) (.tmp 25) rfl (w.heap.size+2) (ocells 5 .empty .nilFunc) ?_ ?_ 86 (ocells 0 .empty .nilFunc) ?_ info86 rfl (oc_one _ _ rfl) ?_
                   · rfl
                   · rfl
                   · exact (uh HW5).o
                   intro w6 hp6)
      have hfin:=(uh HW5).put hp6
      exact oc_ret Tryz.results144 hp6.row (by rw [uh HO];exact ⟨⟨_,rfl,rfl⟩,hfin.2⟩)
    · have h8I:¬ (8:Int)≤(S.toks.length:Int):=by omega
      have HO:=hide (show S.grant q=⟨0,.empty,some .grant⟩ by rw [Sto.grant,hlk];exact if_neg h8)
      go_wp2_with (refine wpList_store_put rfl 86 (.tmp 4) (.tmp 27) rfl (w.heap.size+2) (ocells 0 .empty (.func (.func 174) #[] #[.pointer (some ⟨w.heap.size+1,0,none⟩),.pointer (some ⟨w.heap.size,0,none⟩)])) ?_ ?_ 86 (ocells 0 .empty .nilFunc) ?_ info86 rfl (oc_one _ _ rfl) ?_
                   · rfl
                   · rfl
                   · exact (uh HW3).o
                   intro w6 hp6)
      have hfin:=(uh HW3).put hp6
      exact oc_ret Tryz.results144 hp6.row (by rw [uh HO];exact ⟨⟨_,rfl,_,_,rfl,hfin.1⟩,hfin.2⟩)
end Go.Proofs.YtlbacbcenejngaaGreatDoor
namespace Go.Proofs.YtlbacbcenejngaaGreatDoor
open Go.RowKit Go.MapKept
set_option maxRecDepth 100000 in
set_option maxHeartbeats 1000000 in
theorem revoke_go (B:Nat) (w:World) (sp tb pb:Nat) (L:PL) (S:Sto) (q:Rq) (h:StoAt B w sp tb pb L S) :
    Calls Tryz.prog 145 #[.pointer (some ⟨sp,0,none⟩),.agg q.cells] w (ocEnd B w sp L q (S.revoke q)):=by
  have hmf:∀ (fn:Fn) (first cap:Array Value) (w:World),(Instr.makeFunc fn first cap).run Tryz.prog w=.ok (.func fn first cap) w:=fun _ _ _ _=>rfl
  have H0:=hide (w3_start w sp q)
  have HS:=hide h
  have hsl:=sl_all B w sp tb pb L S q h
  clear h
  rcases hsl with ⟨tk,hlk,hsl⟩ | ⟨hlk,hsl⟩
  · have HSL:=hide hsl
    clear hsl
    generalize hp0:tk.pre=p0 at HSL
    generalize hr0:(tk.rights.toNat:Int)=r0 at HSL
    generalize hb0:true=b0 at HSL
    have HB0:=hide hb0
    clear hp0 hr0 hb0
    go_enter Tryz.func145,Tryz.ntmps145
    go_wp2_with fail
    change Code.wp _ _ _ _ (w3 w sp q)
    generalize w3 w sp q=w1 at H0 ⊢
    refine wp_region_held_drew (S:=SL w sp tb q.name p0 r0 b0) (by kernel_rfl) (uh HSL w1.drew ⟨(uh H0).s,(uh H0).q,(uh H0).o,⟨(uh H0).kept.os,(uh H0).kept.output,(uh H0).kept.size,(uh H0).kept.block⟩⟩) (fun hHeld=>?_)
    refine tkG 0 (some 8) (.load 76 (.tmp 2)) 76 none (.pointer (some ⟨sp,0,none⟩)) (by kernel_rfl) (fun _ _ _ h=>h) (Or.inl ⟨by kernel_rfl,fun W hW=>by simp [execOp,go_sem,hW.1]⟩) hHeld ?_
    simp only [zz0,zz1,zz2]
    refine tkL 2 [(1,some 9,.pointer (some ⟨sp,0,none⟩)),(2,some 10,.pointer (some ⟨sp,1,none⟩))] (by kernel_rfl) (fun _ _ _ _ _ h=>h) (fun _ _=>by kernel_rfl) hHeld ?_
    simp only [zz0,zz1,zz2,zz4,zz5]
    refine tkG 3 (some 11) (.load 165 (.tmp 10)) 165 none (.map (some tb)) (by kernel_rfl) (fun _ _ _ h=>h) (Or.inl ⟨by kernel_rfl,fun W hW=>by simp [execOp,go_sem,hW.2.1]⟩) hHeld ?_
    simp only [zz0,zz1,zz2]
    refine tkP 4 (some 12) (.pointer (some ⟨w.heap.size+1,6,none⟩)) (by kernel_rfl) (fun _ _ _ h=>h) (fun _ _=>by kernel_rfl) hHeld ?_
    simp only [zz0,zz1,zz2]
    refine tkG 5 (some 13) (.load 9 (.tmp 12)) 9 none (.string q.name) (by kernel_rfl) (fun _ _ _ h=>h) (Or.inl ⟨by kernel_rfl,fun W hW=>by simp [execOp,go_sem,hW.2.2.1]⟩) hHeld ?_
    simp only [zz0,zz1,zz2]
    refine tkG 6 (some 14) (.lookup 165 (.tmp 11) (.tmp 13) true) 202 none (.tuple #[.agg #[.string p0,.int .u8 r0],.bool b0]) (by kernel_rfl) (fun _ _ _ h=>h) (Or.inl ⟨by kernel_rfl,fun W hW=>by simp [execOp,go_sem,hW.2.2.2]⟩) hHeld ?_
    simp only [zz0,zz1,zz2]
    refine tkL 3 [(7,some 7,.tuple #[.agg #[.string p0,.int .u8 r0],.bool b0]),(8,some 15,.agg #[.string p0,.int .u8 r0]),(9,some 16,.bool b0)] (by kernel_rfl) (fun _ _ _ _ _ h=>h) (fun _ _=>by kernel_rfl) hHeld ?_
    simp only [zz0,zz1,zz2,zz4,zz5]
    refine rd1 10 (some 5) (.alloc 164) 0 (by kernel_rfl) (fun K hK=>?_)
    go_simp
    have HW2:=hide ((uh H0).drewAlloc (.cells #[.string ⟨#[]⟩,.int .u8 0] 164))
    have hr2:(w1.alloc (.cells #[.string ⟨#[]⟩,.int .u8 0] 164)).drew.heap[w1.heap.size]?=some (.cells #[.string ⟨#[]⟩,.int .u8 0] 164 (0,0)):=heap_alloc_new w1 _
    have hz2:=(uh H0).size
    generalize (w1.alloc (.cells #[.string ⟨#[]⟩,.int .u8 0] 164)).drew=w2 at HW2 hr2 hK ⊢
    show K _ w2
    refine hK.out _ _ (uh HSL w2 (uh HW2)) (fun hHeld10=>?_)
    clear hK K
    try simp only [zz0,zz1,zz2]
    refine rd1 11 none (.store 164 (.tmp 5) (.tmp 15)) 0 (by kernel_rfl) (fun K hK=>?_)
    refine wp_store_row 164 (.tmp 5) (.tmp 15) ?_ w1.heap.size #[.string p0,.int .u8 r0] ?_ ?_ 164 _ hr2 info164 rfl (by simp [Value.oneCell']) ?_
    · rfl
    · kernel_rfl
    · kernel_rfl
    simp only [Act.put]
    have HW3:=hide ((uh HW2).next (w':=w2.setRow w1.heap.size #[.string p0,.int .u8 r0]) ((Kept.refl _ _).setRow (by omega) _))
    generalize w2.setRow w1.heap.size #[.string p0,.int .u8 r0]=w4 at HW3 hK ⊢
    show K _ w4
    refine hK.out _ _ (uh HSL w4 (uh HW3)) (fun hHeld11=>?_)
    clear hK K
    try simp only [zz3]
    refine tkP 12 (some 6) (.bool b0) (by kernel_rfl) (fun _ _ _ h=>h) (fun _ _=>by kernel_rfl) hHeld11 ?_
    simp only [zz0,zz1,zz2]
    refine wpAnyH_done (by kernel_rfl) ?_ _
    have hbb:=uh HB0
    subst hbb
    clear hHeld hHeld10 hHeld11
    have hst:=(uh HS).kept (uh HW3).kept
    have hcc:w4.drew.cell? ⟨w.heap.size+1,6,none⟩=some (.string q.name)∧w4.drew.cell? ⟨w.heap.size,0,none⟩=some (.pointer (some ⟨sp,0,none⟩))∧w4.drew.cell? ⟨sp,0,none⟩=some (.string S.root):=by
      show w4.cell? _=_∧w4.cell? _=_∧w4.cell? _=_
      exact ⟨by rw [(uh HW3).q.c 6];rfl,by rw [cell_of_row _ _ _ _ _ _ (uh HW3).s];rfl,by rw [cell_of_row _ _ _ _ _ _ hst.at'];rfl⟩
    clear hst
    go_wp2_with fail
    go_region_held3 (fun W=>W.cell? ⟨w.heap.size+1,6,none⟩=some (.string q.name)∧W.cell? ⟨w.heap.size,0,none⟩=some (.pointer (some ⟨sp,0,none⟩))∧W.cell? ⟨sp,0,none⟩=some (.string S.root)) (first | assumption | exact hcc) (fail)
    have HSE:=hide (str_eq (a:=q.name) (b:=S.root))
    have HW4:=hide (show W3 w sp q w4.drew from ⟨(uh HW3).s,(uh HW3).q,(uh HW3).o,⟨(uh HW3).kept.os,(uh HW3).kept.output,(uh HW3).kept.size,(uh HW3).kept.block⟩⟩)
    by_cases hne:q.name=S.root
    · have HO:=hide (show S.revoke q=⟨3,.empty,none⟩ by rw [Sto.revoke,hlk];exact if_pos hne)
      rw [(uh HSE).trans (decide_eq_true hne)]
      go_wp2_with fail
      refine (refused_go 3 _).mono ?_
      rintro _ w5 ⟨rfl,hk5⟩
      have HW5:=hide ((uh HW4).next (hk5.mono (uh HW4).size))
      clear hk5
      go_wp2_with (refine wpList_store_put rfl 86 (.tmp 4) (.tmp 27) rfl (w.heap.size+2) (ocells 3 .empty .nilFunc) ?_ ?_ 86 (ocells 0 .empty .nilFunc) ?_ info86 rfl (oc_one _ _ rfl) ?_
                   · rfl
                   · rfl
                   · exact (uh HW5).o
                   intro w6 hp6)
      have hfin:=(uh HW5).put hp6
      exact oc_ret Tryz.results145 hp6.row (by rw [uh HO];exact ⟨⟨_,rfl,rfl⟩,hfin.2⟩)
    · have HO:=hide (show S.revoke q=⟨0,.empty,some .revoke⟩ by rw [Sto.revoke,hlk];exact if_neg hne)
      rw [(uh HSE).trans (decide_eq_false hne)]
      go_wp2_with (refine wpList_store_put rfl 86 (.tmp 4) (.tmp 29) rfl (w.heap.size+2) (ocells 0 .empty (.func (.func 175) #[] #[.pointer (some ⟨w.heap.size,0,none⟩),.pointer (some ⟨w.heap.size+1,0,none⟩)])) ?_ ?_ 86 (ocells 0 .empty .nilFunc) ?_ info86 rfl (oc_one _ _ rfl) ?_
                   · rfl
                   · rfl
                   · exact (uh HW4).o
                   intro w6 hp6)
      have hfin:=(uh HW4).put hp6
      exact oc_ret Tryz.results145 hp6.row (by rw [uh HO];exact ⟨⟨_,rfl,_,_,rfl,hfin.1⟩,hfin.2⟩)
  · have HO:=hide (show S.revoke q=⟨4,.empty,none⟩ by rw [Sto.revoke,hlk])
    have HSL:=hide hsl
    clear hsl
    generalize hp0:ByteArray.empty=p0 at HSL
    generalize hr0:(0:Int)=r0 at HSL
    generalize hb0:false=b0 at HSL
    have HB0:=hide hb0
    clear hp0 hr0 hb0
    go_enter Tryz.func145,Tryz.ntmps145
    go_wp2_with fail
    change Code.wp _ _ _ _ (w3 w sp q)
    generalize w3 w sp q=w1 at H0 ⊢
    refine wp_region_held_drew (S:=SL w sp tb q.name p0 r0 b0) (by kernel_rfl) (uh HSL w1.drew ⟨(uh H0).s,(uh H0).q,(uh H0).o,⟨(uh H0).kept.os,(uh H0).kept.output,(uh H0).kept.size,(uh H0).kept.block⟩⟩) (fun hHeld=>?_)
    refine tkG 0 (some 8) (.load 76 (.tmp 2)) 76 none (.pointer (some ⟨sp,0,none⟩)) (by kernel_rfl) (fun _ _ _ h=>h) (Or.inl ⟨by kernel_rfl,fun W hW=>by simp [execOp,go_sem,hW.1]⟩) hHeld ?_
    simp only [zz0,zz1,zz2]
    refine tkL 2 [(1,some 9,.pointer (some ⟨sp,0,none⟩)),(2,some 10,.pointer (some ⟨sp,1,none⟩))] (by kernel_rfl) (fun _ _ _ _ _ h=>h) (fun _ _=>by kernel_rfl) hHeld ?_
    simp only [zz0,zz1,zz2,zz4,zz5]
    refine tkG 3 (some 11) (.load 165 (.tmp 10)) 165 none (.map (some tb)) (by kernel_rfl) (fun _ _ _ h=>h) (Or.inl ⟨by kernel_rfl,fun W hW=>by simp [execOp,go_sem,hW.2.1]⟩) hHeld ?_
    simp only [zz0,zz1,zz2]
    refine tkP 4 (some 12) (.pointer (some ⟨w.heap.size+1,6,none⟩)) (by kernel_rfl) (fun _ _ _ h=>h) (fun _ _=>by kernel_rfl) hHeld ?_
    simp only [zz0,zz1,zz2]
    refine tkG 5 (some 13) (.load 9 (.tmp 12)) 9 none (.string q.name) (by kernel_rfl) (fun _ _ _ h=>h) (Or.inl ⟨by kernel_rfl,fun W hW=>by simp [execOp,go_sem,hW.2.2.1]⟩) hHeld ?_
    simp only [zz0,zz1,zz2]
    refine tkG 6 (some 14) (.lookup 165 (.tmp 11) (.tmp 13) true) 202 none (.tuple #[.agg #[.string p0,.int .u8 r0],.bool b0]) (by kernel_rfl) (fun _ _ _ h=>h) (Or.inl ⟨by kernel_rfl,fun W hW=>by simp [execOp,go_sem,hW.2.2.2]⟩) hHeld ?_
    simp only [zz0,zz1,zz2]
    refine tkL 3 [(7,some 7,.tuple #[.agg #[.string p0,.int .u8 r0],.bool b0]),(8,some 15,.agg #[.string p0,.int .u8 r0]),(9,some 16,.bool b0)] (by kernel_rfl) (fun _ _ _ _ _ h=>h) (fun _ _=>by kernel_rfl) hHeld ?_
    simp only [zz0,zz1,zz2,zz4,zz5]
    refine rd1 10 (some 5) (.alloc 164) 0 (by kernel_rfl) (fun K hK=>?_)
    go_simp
    have HW2:=hide ((uh H0).drewAlloc (.cells #[.string ⟨#[]⟩,.int .u8 0] 164))
    have hr2:(w1.alloc (.cells #[.string ⟨#[]⟩,.int .u8 0] 164)).drew.heap[w1.heap.size]?=some (.cells #[.string ⟨#[]⟩,.int .u8 0] 164 (0,0)):=heap_alloc_new w1 _
    have hz2:=(uh H0).size
    generalize (w1.alloc (.cells #[.string ⟨#[]⟩,.int .u8 0] 164)).drew=w2 at HW2 hr2 hK ⊢
    show K _ w2
    refine hK.out _ _ (uh HSL w2 (uh HW2)) (fun hHeld10=>?_)
    clear hK K
    try simp only [zz0,zz1,zz2]
    refine rd1 11 none (.store 164 (.tmp 5) (.tmp 15)) 0 (by kernel_rfl) (fun K hK=>?_)
    refine wp_store_row 164 (.tmp 5) (.tmp 15) ?_ w1.heap.size #[.string p0,.int .u8 r0] ?_ ?_ 164 _ hr2 info164 rfl (by simp [Value.oneCell']) ?_
    · rfl
    · kernel_rfl
    · kernel_rfl
    simp only [Act.put]
    have HW3:=hide ((uh HW2).next (w':=w2.setRow w1.heap.size #[.string p0,.int .u8 r0]) ((Kept.refl _ _).setRow (by omega) _))
    generalize w2.setRow w1.heap.size #[.string p0,.int .u8 r0]=w4 at HW3 hK ⊢
    show K _ w4
    refine hK.out _ _ (uh HSL w4 (uh HW3)) (fun hHeld11=>?_)
    clear hK K
    try simp only [zz3]
    refine tkP 12 (some 6) (.bool b0) (by kernel_rfl) (fun _ _ _ h=>h) (fun _ _=>by kernel_rfl) hHeld11 ?_
    simp only [zz0,zz1,zz2]
    refine wpAnyH_done (by kernel_rfl) ?_ _
    have hbb:=uh HB0
    subst hbb
    clear hHeld hHeld10 hHeld11
    go_wp2_with fail
    refine (refused_go 4 w4).mono ?_
    rintro _ w5 ⟨rfl,hk5⟩
    have HW5:=hide ((uh HW3).next (hk5.mono (uh HW3).size))
    clear hk5
    go_wp2_with (refine wpList_store_put rfl 86 (.tmp 4) (.tmp 19) rfl (w.heap.size+2) (ocells 4 .empty .nilFunc) ?_ ?_ 86 (ocells 0 .empty .nilFunc) ?_ info86 rfl (oc_one _ _ rfl) ?_
                 · rfl
                 · rfl
                 · exact (uh HW5).o
                 intro w6 hp6)
    have hfin:=(uh HW5).put hp6
    exact oc_ret Tryz.results145 hp6.row (by rw [uh HO];exact ⟨⟨_,rfl,rfl⟩,hfin.2⟩)
def Sto.drop (S:Sto) (q:Rq):Oc:=if (S.versOf q.path).length=0 then ⟨4,.empty,none⟩ else ⟨0,.empty,some .drop⟩
set_option maxRecDepth 100000 in
set_option maxHeartbeats 1000000 in
theorem drop_go (B:Nat) (w:World) (sp tb pb:Nat) (L:PL) (S:Sto) (q:Rq) (h:StoAt B w sp tb pb L S) :
    Calls Tryz.prog 142 #[.pointer (some ⟨sp,0,none⟩),.agg q.cells] w (ocEnd B w sp L q (S.drop q)):=by
  have hmf:∀ (fn:Fn) (first cap:Array Value) (w:World),(Instr.makeFunc fn first cap).run Tryz.prog w=.ok (.func fn first cap) w:=fun _ _ _ _=>rfl
  have H0:=hide (w3_start w sp q)
  have HS:=hide (h.kept (uh H0).kept)
  clear h
  have hqc:q.cells[2]?=some (.string q.path):=rfl
  go_enter Tryz.func142,Tryz.ntmps142
  go_wp2_with fail
  refine (versionsOf_go B (w3 w sp q) sp tb pb L S q.path (uh HS)).mono ?_
  generalize w3 w sp q=w1 at H0 HS
  rintro _ w2 ⟨⟨v,rfl,hv⟩,rfl⟩
  obtain ⟨ao,cap,rfl,hcap,hao⟩:=own_len hv
  clear hv hao
  by_cases h0:(S.versOf q.path).length=0
  · have HO:=hide (show S.drop q=⟨4,.empty,none⟩ from if_pos h0)
    rw [h0]
    go_wp2_with fail
    refine (refused_go 4 w2).mono ?_
    rintro _ w5 ⟨rfl,hk5⟩
    have HW5:=hide ((uh H0).next (hk5.mono (uh H0).size))
    clear hk5
    go_wp2_with (refine wpList_store_put rfl 86 (.tmp 4) (.tmp 11) rfl (w.heap.size+2) (ocells 4 .empty .nilFunc) ?_ ?_ 86 (ocells 0 .empty .nilFunc) ?_ info86 rfl (oc_one _ _ rfl) ?_
                 · rfl
                 · rfl
                 · exact (uh HW5).o
                 intro w6 hp6)
    have hfin:=(uh HW5).put hp6
    exact oc_ret Tryz.results142 hp6.row (by rw [uh HO];exact ⟨⟨_,rfl,rfl⟩,hfin.2⟩)
  · have HO:=hide (show S.drop q=⟨0,.empty,some .drop⟩ from if_neg h0)
    have h0I:¬ ((S.versOf q.path).length:Int)=0:=by omega
    go_wp2_with (refine wpList_store_put rfl 86 (.tmp 4) (.tmp 13) rfl (w.heap.size+2) (ocells 0 .empty (.func (.func 170) #[] #[.pointer (some ⟨w.heap.size,0,none⟩),.pointer (some ⟨w.heap.size+1,0,none⟩)])) ?_ ?_ 86 (ocells 0 .empty .nilFunc) ?_ info86 rfl (oc_one _ _ rfl) ?_
                 · rfl
                 · rfl
                 · exact (uh H0).o
                 intro w6 hp6)
    have hfin:=(uh H0).put hp6
    exact oc_ret Tryz.results142 hp6.row (by rw [uh HO];exact ⟨⟨_,rfl,_,_,rfl,hfin.1⟩,hfin.2⟩)
end Go.Proofs.YtlbacbcenejngaaGreatDoor
namespace Go.Proofs.YtlbacbcenejngaaGreatDoor
open Go.RowKit Go.MapKept
def pickV (ver : Nat) : List (Nat × ByteArray) → Option ByteArray
  | [] => none
  | [v] => if v.1 = ver ∨ ver = 0 then some v.2 else none
  | v :: u :: l => if v.1 = ver then some v.2 else pickV ver (u :: l)
theorem pickV_hit (ver : Nat) : ∀ (l : List (Nat × ByteArray)) (i : Nat), i < l.length → (∀ j, j < i → (l.getD j (0, .empty)).1 ≠ ver) → ((l.getD i (0, .empty)).1 = ver ∨ (ver = 0 ∧ i + 1 = l.length)) → pickV ver l = some (l.getD i (0, .empty)).2
  | [], i, h, _, _ => by simp at h
  | [v], i, h, hb, hi => by
    obtain rfl : i = 0 := by simpa using h
    rw [pickV, if_pos (by rcases hi with h | h; · exact .inl (by simpa using h)
                          · exact .inr h.1)]
    rfl
  | v :: u :: l, 0, h, hb, hi => by
    rw [pickV, if_pos (by rcases hi with h | h; · simpa using h
                          · simp at h)]
    rfl
  | v :: u :: l, i + 1, h, hb, hi => by
    rw [pickV, if_neg (by have := hb 0 (by omega); simpa using this), pickV_hit ver (u :: l) i (by simpa using h) (fun j hj => by have := hb (j + 1) (by omega); simpa using this) (by simpa using hi)]
    simp
theorem pickV_miss (ver : Nat) : ∀ (l : List (Nat × ByteArray)), (∀ j, j < l.length → (l.getD j (0, .empty)).1 ≠ ver ∧ ¬ (ver = 0 ∧ j + 1 = l.length)) → pickV ver l = none
  | [], _ => rfl
  | [v], h => by
    have h0 := h 0 (by simp)
    rw [pickV, if_neg (by rintro (h | h); · exact h0.1 (by simpa using h)
                          · exact h0.2 ⟨h, rfl⟩)]
  | v :: u :: l, h => by
    rw [pickV, if_neg (by have := (h 0 (by simp)).1; simpa using this), pickV_miss ver (u :: l) fun j hj => by
      have := h (j + 1) (by simpa using hj)
      simpa using this]
def Sto.get (S : Sto) (q : Rq) : Oc := match pickV q.version.toNat (S.versOf q.path) with
  | some v => ⟨0, txt v, none⟩
  | none => ⟨4, .empty, none⟩
structure W2 (w : World) (q : Rq) (wi : World) : Prop where
  q : RqAt wi w.heap.size q
  o : wi.heap[w.heap.size + 1]? = some (.cells (ocells 0 .empty .nilFunc) 86 (0, 0))
  kept : Kept w.heap.size w wi
def w2 (w : World) (q : Rq) : World := (w.alloc (.cells q.cells 84)).alloc (.cells (ocells 0 .empty .nilFunc) 86)
theorem w2_start (w : World) (q : Rq) : W2 w q (w2 w q) := by
  refine ⟨?_, ?_, ?_⟩
  · unfold w2 RqAt
    rw [Below.heap_alloc _ _ _ (by simp)]
    exact heap_alloc_new _ _
  · have := heap_alloc_new (w.alloc (.cells q.cells 84)) (.cells (ocells 0 .empty .nilFunc) 86)
    unfold w2
    simpa only [World.size_alloc] using this
  · exact ((Kept.refl _ _).alloc (Nat.le_refl _) _).alloc (by simp) _
theorem W2.size {w wi : World} {q : Rq} (h : W2 w q wi) : w.heap.size + 2 ≤ wi.heap.size := (Array.getElem?_eq_some_iff.1 h.o).1
theorem W2.next {w wi w' : World} {q : Rq} (h : W2 w q wi) (hk : Kept (w.heap.size + 2) wi w') : W2 w q w' :=
  ⟨(hk.block _ (by omega)).trans h.q, (hk.block _ (by omega)).trans h.o, h.kept.trans (hk.mono (by omega))⟩
theorem W2.put {w wi wp : World} {q : Rq} {cs : Array Value} (h : W2 w q wi) (hp : Put (w.heap.size + 1) cs 86 wi wp) : Kept w.heap.size w wp := h.kept.trans (.of (hp.below (by omega)))
theorem own_vers {w : World} {B g n cap k j : Nat} {l : List (Nat × ByteArray)} (h : w.ownsRow B 237 2 (.slice (some ⟨g, 0, none⟩) n cap) n (vcells l)) (hk : k < l.length) (hj : j < 2) : w.cell? ⟨g, k * 2 + j, none⟩ = (vcell (l.getD k (0, .empty)))[j]? := by
  rcases h.2 with ⟨h', _⟩ | ⟨g2, c, cur, h1, h2, h3, h4, h5, h6, h7⟩
  · cases h'
  · simp only [Value.slice.injEq, Option.some.injEq, Addr.mk.injEq, and_true, true_and] at h1
    obtain ⟨rfl, rfl⟩ := h1
    have hl : l.length * 2 = n * 2 := by rw [← vcells_len, h.1]
    rw [cell_of_row _ _ _ _ _ _ h3, ← Array.getElem?_toList, ← vcells_at l k j hk hj, ← h7, List.getElem?_take, if_pos (by omega)]
set_option maxRecDepth 100000 in
set_option maxHeartbeats 2000000 in
theorem get_go (B : Nat) (w : World) (sp tb pb : Nat) (L : PL) (S : Sto) (q : Rq) (h : StoAt B w sp tb pb L S) (hn : ∀ v ∈ S.versOf q.path, v.2.size ≤ 40) (hlen : (S.versOf q.path).length ≤ 1000) :
    Calls Tryz.prog 141 #[.pointer (some ⟨sp, 0, none⟩), .agg q.cells] w (ocEnd B w sp L q (S.get q)) := by
  have H0 := hide (w2_start w q)
  have HS := hide (h.kept (uh H0).kept)
  clear h
  have hqc : q.cells[2]? = some (.string q.path) := rfl
  go_enter Tryz.func141, Tryz.ntmps141
  go_wp2_with fail
  refine (versionsOf_go B (w2 w q) sp tb pb L S q.path (uh HS)).mono ?_
  generalize w2 w q = w1 at H0 HS
  rintro _ wx ⟨⟨v, rfl, hv⟩, rfl⟩
  obtain ⟨ao, cap, rfl, hcap, hao⟩ := own_len hv
  obtain ⟨V, hV⟩ : ∃ V, V = S.versOf q.path := ⟨_, rfl⟩
  rw [← hV] at hn hlen hv hao hcap ⊢
  have HG := hide (show S.get q = match pickV q.version.toNat V with
    | some v => ⟨0, txt v, none⟩
    | none => ⟨4, .empty, none⟩ by rw [Sto.get, ← hV])
  have HV := hide hv
  clear hV hv hqc
  go_wp2_with fail
  go_loopw [15] (fun vi wr => ∃ i : Nat, i ≤ V.length ∧ vi = .int .i64 i ∧ (∀ j, j < i → (V.getD j (0, .empty)).1 ≠ q.version.toNat ∧ ¬ (q.version.toNat = 0 ∧ j + 1 = V.length)) ∧ W2 w q wr ∧ Kept wx.heap.size wx wr) (fun vi _ => V.length - (intOf vi).toNat)
  case atStart => exact ⟨0, Nat.zero_le _, rfl, fun j hj => absurd hj (by omega), uh H0, Kept.refl _ _⟩
  case round =>
    obtain ⟨i, hi, rfl, hb, hw2, hkx⟩ := hrel
    have HB := hide hb
    have HW := hide hw2
    have HK := hide hkx
    have hsz := hw2.size
    clear hb hw2 hkx
    by_cases hlt : i < V.length
    · obtain ⟨g, rfl⟩ := hao (by omega)
      have hiI : (i : Int) < (V.length : Int) := by omega
      have hi0 : (0 : Int) ≤ (i : Int) := by omega
      have hvr := own_kept (uh HV) (uh HK)
      have hc : wr.cell? ⟨g, i * 2, none⟩ = some (.int .u8 ((V.getD i (0, .empty)).1 : Int)) := by have := own_vers hvr hlt (j := 0) (by omega); simpa [vcell] using this
      have hc1 : wr.cell? ⟨g, i * 2 + 1, none⟩ = some (.string (V.getD i (0, .empty)).2) := by have := own_vers hvr hlt (j := 1) (by omega); simpa [vcell] using this
      have hq5 : (wr.alloc (.cells #[.int .u8 ((V.getD i (0, .empty)).1 : Int), .string (V.getD i (0, .empty)).2] 237)).cell? ⟨w.heap.size, 5, none⟩ = some (.int .u8 (q.version.toNat : Int)) := by
        have := ((uh HW).next ((Kept.refl _ wr).alloc hsz (.cells #[.int .u8 ((V.getD i (0, .empty)).1 : Int), .string (V.getD i (0, .empty)).2] 237))).q.c 5
        rw [this]; rfl
      have HWA := hide ((uh HW).next ((Kept.refl _ wr).alloc hsz (.cells #[.int .u8 ((V.getD i (0, .empty)).1 : Int), .string (V.getD i (0, .empty)).2] 237)))
      have HKA := hide ((uh HK).alloc (uh HK).size (.cells #[.int .u8 ((V.getD i (0, .empty)).1 : Int), .string (V.getD i (0, .empty)).2] 237))
      have hvs := hn (V.getD i (0, .empty)) (by rw [List.getD_eq_getElem?_getD, List.getElem?_eq_getElem hlt]; exact List.getElem_mem hlt)
      have HHIT := hide (fun hh => pickV_hit q.version.toNat V i hlt (fun j hj => (uh HB j hj).1) hh)
      have HNX := hide (show (V.getD i (0, .empty)).1 ≠ q.version.toNat → ¬ (q.version.toNat = 0 ∧ i + 1 = V.length) → ∀ j, j < i + 1 → (V.getD j (0, .empty)).1 ≠ q.version.toNat ∧ ¬ (q.version.toNat = 0 ∧ j + 1 = V.length) from fun h1 h2 j hj => by
        rcases Nat.lt_or_ge j i with h3 | h3
        · exact uh HB j h3
        · obtain rfl : j = i := by omega
          exact ⟨h1, h2⟩)
      clear hvr
      generalize V.getD i (0, .empty) = vv at *
      obtain ⟨vn, vt⟩ := vv
      simp only at hc hc1 hq5 hvs HHIT HNX HWA HKA
      generalize q.version.toNat = ver at *
      by_cases hh : vn = ver ∨ (ver = 0 ∧ i + 1 = V.length)
      · have HP := hide (show S.get q = ⟨0, txt vt, none⟩ by rw [uh HG, uh HHIT hh])
        clear HHIT HNX
        rcases (show vn = ver ∨ (vn ≠ ver ∧ ver = 0 ∧ i + 1 = V.length) by omega) with h1 | ⟨h1, h2, h3⟩
        · subst h1
          clear hh
          go_wp2_with fail
          refine (packText_go vt _ (by omega)).mono ?_
          rintro _ w5 ⟨rfl, hb5⟩
          have HW5 := hide ((uh HWA).next ((Kept.of hb5).mono (by have := (uh HWA).size; exact this)))
          clear hb5
          go_wp2_with (refine wpList_store_put rfl 86 (.tmp 4) (.tmp 41) rfl (w.heap.size + 1) (ocells 0 (txt vt) .nilFunc) ?_ ?_ 86 (ocells 0 .empty .nilFunc) ?_ info86 rfl (oc_one _ _ rfl) ?_
                       · rfl
                       · rfl
                       · exact (uh HW5).o
                       intro w6 hp6)
          exact oc_ret Tryz.results141 hp6.row (by rw [uh HP]; exact ⟨⟨_, rfl, rfl⟩, (uh HW5).put hp6⟩)
        · have h1I : ¬ (vn : Int) = (ver : Int) := by omega
          have h2I : (ver : Int) = 0 := by omega
          have h3I : ((i : Int) == (V.length : Int) - 1) = true := by simp; omega
          subst h2
          clear hh
          go_wp2_with fail
          refine (packText_go vt _ (by omega)).mono ?_
          rintro _ w5 ⟨rfl, hb5⟩
          have HW5 := hide ((uh HWA).next ((Kept.of hb5).mono (by have := (uh HWA).size; exact this)))
          clear hb5
          go_wp2_with (refine wpList_store_put rfl 86 (.tmp 4) (.tmp 41) rfl (w.heap.size + 1) (ocells 0 (txt vt) .nilFunc) ?_ ?_ 86 (ocells 0 .empty .nilFunc) ?_ info86 rfl (oc_one _ _ rfl) ?_
                       · rfl
                       · rfl
                       · exact (uh HW5).o
                       intro w6 hp6)
          exact oc_ret Tryz.results141 hp6.row (by rw [uh HP]; exact ⟨⟨_, rfl, rfl⟩, (uh HW5).put hp6⟩)
      · have h1 : ¬ vn = ver := fun e => hh (.inl e)
        have h2 : ¬ (ver = 0 ∧ i + 1 = V.length) := fun e => hh (.inr e)
        have HN2 := hide (uh HNX h1 h2)
        have h1I : ¬ (vn : Int) = (ver : Int) := by omega
        clear HHIT HNX hh
        by_cases h0 : ver = 0
        · subst h0
          have h3I : ((i : Int) == (V.length : Int) - 1) = false := by simp; omega
          go_wp2_with fail
          go_roundw
          case rel => exact ⟨i + 1, by omega, by go_num, by first | exact uh HN2 | simpa using uh HN2, uh HWA, uh HKA⟩
          case measure => simp [intOf]; omega
        · have h0I : ¬ (ver : Int) = 0 := by omega
          go_wp2_with fail
          go_roundw
          case rel => exact ⟨i + 1, by omega, by go_num, by first | exact uh HN2 | simpa using uh HN2, uh HWA, uh HKA⟩
          case measure => simp [intOf]; omega
    · have hiI : ¬ (i : Int) < (V.length : Int) := by omega
      have HP := hide (show S.get q = ⟨4, .empty, none⟩ by rw [uh HG, pickV_miss _ V fun j hj => uh HB j (by omega)])
      go_wp2_with fail
      refine (refused_go 4 wr).mono ?_
      rintro _ w5 ⟨rfl, hk5⟩
      have HW5 := hide ((uh HW).next (hk5.mono hsz))
      clear hk5
      go_wp2_with (refine wpList_store_put rfl 86 (.tmp 4) (.tmp 43) rfl (w.heap.size + 1) (ocells 4 .empty .nilFunc) ?_ ?_ 86 (ocells 0 .empty .nilFunc) ?_ info86 rfl (oc_one _ _ rfl) ?_
                   · rfl
                   · rfl
                   · exact (uh HW5).o
                   intro w6 hp6)
      exact oc_ret Tryz.results141 hp6.row (by rw [uh HP]; exact ⟨⟨_, rfl, rfl⟩, (uh HW5).put hp6⟩)
end Go.Proofs.YtlbacbcenejngaaGreatDoor
namespace Go.Proofs.YtlbacbcenejngaaGreatDoor
open Go.RowKit
def knd (w:World) (k:Nat):Option Nat:=match w.heap[k]? with | some (.cells _ t _)=>some (t+1) | some (.map _ _)=>some 0 | _=>none
theorem TyAt.knd {w:World} {k:Nat} {t:TypeId} (h:TyAt w k t):knd w k=some (t+1):=by obtain ⟨cs,hc⟩:=h;unfold Go.Proofs.YtlbacbcenejngaaGreatDoor.knd;rw [hc]
theorem knd_lt {w:World} {k n:Nat} (h:knd w k=some n):k<w.heap.size:=by
 unfold knd at h
 cases hh:w.heap[k]? with
 | none=>rw [hh] at h;cases h
 | some o=>exact (Array.getElem?_eq_some_iff.1 hh).1
def Stay (l:List Nat) (w w':World):Prop:=∀ k n,knd w k=some n→n∉l→w'.heap[k]?=w.heap[k]?
theorem Stay.trans {l m:List Nat} {a b c:World} (h:Stay l a b) (h':Stay m b c):Stay (l++m) a c:=fun k n hk hn=>by
 have h1:=h k n hk fun e=>hn (List.mem_append_left _ e)
 have h2:knd b k=some n:=by unfold knd at hk ⊢;rw [h1];exact hk
 exact (h' k n h2 fun e=>hn (List.mem_append_right _ e)).trans h1
theorem Kept.stay {w w':World} (h:Kept w.heap.size w w'):Stay [] w w':=fun k _ hk _=>h.block k (knd_lt hk)
theorem Chg.stay {S:Nat→Prop} {w w':World} {l:List Nat} (h:Chg S w w') (hS:∀ k n,S k→knd w k=some n→n∈l):Stay l w w':=fun k n hk hn=>h.block k (knd_lt hk) fun e=>hn (hS k n e hk)
theorem Stay.mono {l m:List Nat} {w w':World} (h:Stay l w w') (hl:∀ n∈l,n∈m):Stay m w w':=fun k n hk hn=>h k n hk fun e=>hn (hl n e)
theorem map_knd {w:World} {b:Nat} {d:TypeDesc} {key:ByteArray→Value} {M:List (ByteArray × Value)} (h:MapAt d key w b M):knd w b=some 0:=by obtain ⟨es,c,hh,_⟩:=h;unfold knd;rw [hh]
theorem stay_one {w w':World} {b m:Nat} (hb:knd w b=some m) (h:∀ k,k≠b→k<w.heap.size→w'.heap[k]?=w.heap[k]?) {l:List Nat} (hm:m∈l):Stay l w w':=fun k n hk hn=>h k (fun e=>by subst e;rw [hb] at hk;cases hk;exact hn hm) (knd_lt hk)
end Go.Proofs.YtlbacbcenejngaaGreatDoor
