/-
  Wb Wf Wc Wd Wg Wh
-/
import Derived.Test.YtlbacbcenejngaaGreatDoorV38
import Derived.Test.YtlbacbcenejngaaGreatDoorV36
namespace Go.Proofs.YtlbacbcenejngaaGreatDoor
open Go.RowKit
set_option maxRecDepth 100000 in
theorem frame_ref (e:ByteArray) (w:World) (he:e.size≤140737488355000):Calls Tryz.prog 117 #[.string e] w fun r w'=>r=.returned (.string (frOf e))∧Kept w.heap.size w w':=by
 have hs:(bs (leN e.size 2)).size=2:=by rw [bs_size,leN_length]
 have HF:=hide (show frOf e=bs (leN e.size 2)++e from rfl)
 have HL:=hide (low_ref e.size 2 w (by omega) (by decide))
 generalize bs (leN e.size 2)=b at *
 have n1:(9223372036854775807<b.size+e.size)=False:=eq_false (by omega)
 go_enter Tryz.func117,Tryz.ntmps117
 go_wp2_with fail
 refine (uh HL).mono ?_
 rintro _ w1 ⟨rfl,hk⟩
 have HK:=hide hk
 clear hk
 go_wp2_with fail
 go_ret
 exact ⟨by rw [uh HF];rfl,uh HK⟩
def cutV (s:ByteArray):Array Value:=match takeT s with
 | some (x,y)=>#[.string x,.string y,.bool true]
 | none=>#[.string .empty,.string .empty,.bool false]
set_option maxRecDepth 100000 in
set_option maxHeartbeats 1000000 in
theorem cut_ref (s:ByteArray) (w:World) (hs:s.size≤140737488355328):Calls Tryz.prog 176 #[.string s] w fun r w'=>r=.returned (.tuple (cutV s))∧Kept w.heap.size w w':=by
 by_cases h0:s.size=0
 ·have HV:=hide (show cutV s=#[.string .empty,.string .empty,.bool false] by unfold cutV takeT;simp [h0])
  have h1:(s.size:Int)<1:=by omega
  go_enter Tryz.func176,Tryz.ntmps176
  go_wp2_with fail
  go_ret3
  exact ⟨by rw [uh HV];rfl,Kept.refl _ _⟩
 ·have hp:0<s.size:=by omega
  have hg:=byte_get s 0 hp
  unfold Sha.at8 at hg
  have hcb:=(s.data.toList.getD 0 0).toNat_lt
  have hpI:(0:Int)<(s.size:Int):=by omega
  have h1:¬ (s.size:Int)<1:=by omega
  by_cases h2:s.size<1+(s.data.toList.getD 0 0).toNat
  ·have HV:=hide (show cutV s=#[.string .empty,.string .empty,.bool false] by unfold cutV takeT;rw [if_pos (by omega)])
   generalize (s.data.toList.getD 0 0).toNat=c at *
   have h3:(s.size:Int)<1+(c:Int):=by omega
   go_enter Tryz.func176,Tryz.ntmps176
   go_wp2_with fail
   go_ret3
   exact ⟨by rw [uh HV];rfl,Kept.refl _ _⟩
  ·have HV:=hide (show cutV s=#[.string (s.extract 1 (1+(s.data.toList.getD 0 0).toNat)),.string (s.extract (1+(s.data.toList.getD 0 0).toNat) s.size),.bool true] by unfold cutV takeT;rw [if_neg (by omega)])
   generalize (s.data.toList.getD 0 0).toNat=c at *
   have h3:¬ (s.size:Int)<1+(c:Int):=by omega
   have h4:(1:Int)+(c:Int)≤(s.size:Int):=by omega
   have h5:(1:Int)≤1+(c:Int):=by omega
   have hw1:IntKind.i64.wrap (1+(c:Int))=1+(c:Int):=by simp [IntKind.wrap,IntKind.bits,IntKind.signed];omega
   have hn1:((1:Int)+(c:Int)).toNat=1+c:=by omega
   go_enter Tryz.func176,Tryz.ntmps176
   go_wp2_with fail
   go_quiet (fail)
   go_wp2_with fail
   go_ret3
   exact ⟨by rw [uh HV];rfl,⟨rfl,rfl,Nat.le_refl _,fun _ _=>rfl⟩⟩
set_option maxRecDepth 100000 in
theorem begins_ref (s p:ByteArray) (w:World) (_hs:s.size≤140737488355328) (_hp:p.size≤140737488355328):Calls Tryz.prog 178 #[.string s,.string p] w fun r w'=>r=.returned (.bool (hasPre s p))∧Kept w.heap.size w w':=by
 unfold hasPre
 by_cases h:p.size≤s.size
 ·have hI:(p.size:Int)≤(s.size:Int):=by omega
  have hI2:¬ (s.size:Int)<(p.size:Int):=by omega
  have HE:=hide (show decide (s.extract 0 p.size=p)=((s.extract 0 p.size).toList==p.toList) from (str_eq).symm)
  rw [decide_eq_true h]
  go_enter Tryz.func178,Tryz.ntmps178
  go_wp2_with fail
  go_ret
  exact ⟨by rw [uh HE];rfl,Kept.refl _ _⟩
 ·have hI:¬ (p.size:Int)≤(s.size:Int):=by omega
  rw [decide_eq_false h]
  go_enter Tryz.func178,Tryz.ntmps178
  go_wp2_with fail
  go_ret
  exact ⟨rfl,Kept.refl _ _⟩
end Go.Proofs.YtlbacbcenejngaaGreatDoor
namespace Go.Proofs.YtlbacbcenejngaaGreatDoor
open Go.RowKit
structure Sc where
 name:ByteArray
 pth:Pth
 L:Value
def Sc.cell (c:Sc):List Value:=[.string c.name,.int .i64 (c.pth.next:Int),c.L]
def tkcell (t:ByteArray × Tok):List Value:=[.string t.1,.string t.2.pre,.int .i64 (t.2.rights.toNat:Int)]
def vrcell (v:Nat × ByteArray):List Value:=[.int .i64 (v.1:Int),.string v.2]
theorem flat_len {α:Type} {f:α→List Value} {n:Nat} (hf:∀ a,(f a).length=n):∀ l:List α,(l.flatMap f).length=l.length*n
 | []=>by simp
 | a::l=>by rw [List.flatMap_cons,List.length_append,hf,flat_len hf l,List.length_cons,Nat.add_mul];omega
theorem flat_at {α:Type} {f:α→List Value} {n:Nat} (hf:∀ a,(f a).length=n):∀ (l:List α) (i j:Nat) (a:α),l[i]?=some a→j<n→(l.flatMap f)[i*n+j]?=(f a)[j]?
 | [],i,j,a,h,_=>by simp at h
 | x::l,0,j,a,h,hj=>by
  simp at h;subst h
  rw [List.flatMap_cons,Nat.zero_mul,Nat.zero_add,List.getElem?_append_left (by rw [hf];exact hj)]
 | x::l,i+1,j,a,h,hj=>by
  simp at h
  rw [List.flatMap_cons,List.getElem?_append_right (by rw [hf,Nat.add_mul];omega),hf,show (i+1)*n+j-n=i*n+j by rw [Nat.add_mul];omega]
  exact flat_at hf l i j a h hj
abbrev sccells (l:List Sc):List Value:=l.flatMap Sc.cell
abbrev tkcells (l:List (ByteArray × Tok)):List Value:=l.flatMap tkcell
abbrev vrcells (l:List (Nat × ByteArray)):List Value:=l.flatMap vrcell
structure RG where
 sv:Value
 tv:Value
 lv:Value
 hv:Value
structure RVAt (B:Nat) (w:World) (rp:Nat) (g:RG) (key root:ByteArray) (secs:List Sc) (toks:List (ByteArray × Tok)) (E:List ByteArray) (H:List Nat):Prop where
 at':w.heap[rp]?=some (.cells #[.string key,.string root,g.sv,g.tv,g.lv,g.hv] 153 (0,0))
 sec:w.ownsRow B 248 3 g.sv secs.length (sccells secs)
 ver:∀ c∈secs,w.ownsRow B 250 2 c.L c.pth.vers.length (vrcells c.pth.vers)
 tok:w.ownsRow B 155 3 g.tv toks.length (tkcells toks)
 log:w.ownsRow B 9 1 g.lv E.length (E.map .string)
 hav:w.ownsRow B 3 1 g.hv H.length (H.map fun n:Nat=>Value.int .i64 (n:Int))
 ge:B≤rp
def Rft (rp:Nat) (g:RG) (secs:List Sc) (k:Nat):Prop:=k=rp∨g.sv.ownBlock=some k∨g.tv.ownBlock=some k∨g.lv.ownBlock=some k∨g.hv.ownBlock=some k∨∃ c∈secs,c.L.ownBlock=some k
section
variable {B:Nat} {w w':World} {rp:Nat} {g:RG} {key root:ByteArray} {secs:List Sc} {toks:List (ByteArray × Tok)} {E:List ByteArray} {H:List Nat}
theorem RVAt.foot (h:RVAt B w rp g key root secs toks E H) {k:Nat} (hk:Rft rp g secs k):k<w.heap.size∧B≤k:=by
 rcases hk with rfl | hk | hk | hk | hk | ⟨c,hc,hk⟩
 ·exact ⟨(Array.getElem?_eq_some_iff.1 h.at').1,h.ge⟩
 ·have:=h.sec.lt k hk;exact ⟨this.2,this.1⟩
 ·have:=h.tok.lt k hk;exact ⟨this.2,this.1⟩
 ·have:=h.log.lt k hk;exact ⟨this.2,this.1⟩
 ·have:=h.hav.lt k hk;exact ⟨this.2,this.1⟩
 ·have:=(h.ver c hc).lt k hk;exact ⟨this.2,this.1⟩
theorem RVAt.stay (h:RVAt B w rp g key root secs toks E H) (hk:∀ k,Rft rp g secs k→w'.heap[k]?=w.heap[k]?):RVAt B w' rp g key root secs toks E H :=
 ⟨(hk _ (.inl rfl)).trans h.at',own_blocks h.sec fun k e=>hk k (.inr (.inl e)),fun c hc=>own_blocks (h.ver c hc) fun k e=>hk k (.inr (.inr (.inr (.inr (.inr ⟨c,hc,e⟩))))),own_blocks h.tok fun k e=>hk k (.inr (.inr (.inl e))),own_blocks h.log fun k e=>hk k (.inr (.inr (.inr (.inl e)))),own_blocks h.hav fun k e=>hk k (.inr (.inr (.inr (.inr (.inl e))))),h.ge⟩
theorem RVAt.keep (h:RVAt B w rp g key root secs toks E H) (hk:Kept w.heap.size w w'):RVAt B w' rp g key root secs toks E H:=h.stay fun k e=>hk.block k (h.foot e).1
theorem RVAt.c (h:RVAt B w rp g key root secs toks E H) (j:Nat):w.cell? ⟨rp,j,none⟩=#[.string key,.string root,g.sv,g.tv,g.lv,g.hv][j]?:=cell_of_row _ _ _ _ _ _ h.at'
theorem own_wide {e z:Nat} {α:Type} {f:α→List Value} (hf:∀ a,(f a).length=z) {v:Value} {l:List α} (h:w.ownsRow B e z v l.length (l.flatMap f)) {i:Nat} {a:α} (hi:l[i]?=some a):∃ b cap,v=.slice (some ⟨b,0,none⟩) l.length cap∧b<w.heap.size∧∀ j,j<z→w.cell? ⟨b,i*z+j,none⟩=(f a)[j]?:=by
 have hil:=(List.getElem?_eq_some_iff.1 hi).1
 obtain ⟨ao,cap,rfl,_,hg⟩:=own_len h
 obtain ⟨b,rfl⟩:=hg (by omega)
 refine ⟨b,cap,rfl,(h.lt b rfl).2,fun j hj=>?_⟩
 have:i*z+j<l.length*z:=by
  have:(i+1)*z≤l.length*z:=Nat.mul_le_mul_right _ hil
  rw [Nat.add_mul] at this
  omega
 rw [h.cellAt _ this,flat_at hf l i j a hi hj]
end
def Ix (l:List ByteArray) (n:ByteArray) (x:Int):Prop:=(∃ i:Nat,x=(i:Int)∧l[i]?=some n∧∀ j,j<i→l[j]?≠some n)∨(x=-1∧n∉l)
theorem not_mem_at {l:List ByteArray} {n:ByteArray} (h:∀ j,j<l.length→l[j]?≠some n):n∉l:=fun hm=>by
 obtain ⟨j,hj,e⟩:=List.getElem_of_mem hm
 exact h j hj (by rw [List.getElem?_eq_getElem hj,e])
set_option maxRecDepth 100000 in
set_option maxHeartbeats 1000000 in
theorem token_ref (B:Nat) (w:World) (rp:Nat) (g:RG) (key root:ByteArray) (secs:List Sc) (toks:List (ByteArray × Tok)) (E:List ByteArray) (H:List Nat) (n:ByteArray) (h:RVAt B w rp g key root secs toks E H) (hl:toks.length≤1000) :
  Calls Tryz.prog 149 #[.pointer (some ⟨rp,0,none⟩),.string n] w fun e w'=>(∃ x,e=.returned (.int .i64 x)∧Ix (toks.map (·.1)) n x)∧w'=w:=by
 have hc:w.cell? ⟨rp,3,none⟩=some g.tv:=(h.c 3).trans rfl
 have HR:=hide (show ∀ i a,toks[i]?=some a→∃ b cap,g.tv=.slice (some ⟨b,0,none⟩) toks.length cap∧b<w.heap.size∧∀ j,j<3→w.cell? ⟨b,i*3+j,none⟩=(tkcell a)[j]? from fun i a hi=>own_wide (f:=tkcell) (z:=3) (fun _=>rfl) h.tok hi)
 obtain ⟨ao,cap,htv,_,_⟩:=own_len h.tok
 rw [htv] at hc
 have HV:=hide htv
 clear h htv
 go_enter Tryz.func149,Tryz.ntmps149
 go_wp2
 go_loop [5] (fun t=>∃ i:Nat,i≤toks.length∧t=.int .i64 i∧∀ j,j<i→(toks.map (·.1))[j]?≠some n) (fun t=>toks.length-(intOf t).toNat)
 case atStart=>exact ⟨0,Nat.zero_le _,rfl,fun j hj=>absurd hj (by omega)⟩
 case round =>
  obtain ⟨i,hi,rfl,hb⟩:=hrel
  have HB:=hide hb
  clear hb
  by_cases hlt:i<toks.length
  ·have hltI:(i:Int)<(toks.length:Int):=by omega
   have hi0:(0:Int)≤(i:Int):=by omega
   obtain ⟨b,cap',e1,hbl,hcell⟩:=uh HR i toks[i] (List.getElem?_eq_getElem hlt)
   rw [uh HV] at e1
   injection e1 with e2 _ _
   subst e2
   have h0:=hcell 0 (by decide)
   rw [Nat.add_zero] at h0
   have h0':w.cell? ⟨b,i*3,none⟩=some (.string toks[i].1):=h0
   have HM:=hide (show (toks.map (·.1))[i]?=some toks[i].1 by rw [List.getElem?_map,List.getElem?_eq_getElem hlt];rfl)
   clear h0 hcell
   generalize toks[i].1=m at *
   by_cases hm:m=n
   ·subst hm
    have heq:(m.toList==m.toList)=true:=by simp
    go_wp2_with fail
    go_ret
    exact ⟨⟨_,rfl,.inl ⟨i,rfl,uh HM,uh HB⟩⟩,rfl⟩
   ·have heq:(m.toList==n.toList)=false:=by rw [beq_eq_false_iff_ne];exact fun h=>hm (str_inj h)
    go_wp2_with fail
    go_round
    case rel =>
     refine ⟨i+1,by omega,by go_num,fun j hj=>?_⟩
     rcases Nat.lt_or_ge j i with h3 | h3
     ·exact uh HB j h3
     ·rw [show j=i by omega,uh HM];exact fun e=>hm (Option.some.inj e)
    case measure=>simp [intOf];omega
  ·have hltI:¬ (i:Int)<(toks.length:Int):=by omega
   go_wp2_with fail
   go_ret
   exact ⟨⟨_,rfl,.inr ⟨rfl,not_mem_at fun j hj=>uh HB j (by rw [List.length_map] at hj;omega)⟩⟩,rfl⟩
end Go.Proofs.YtlbacbcenejngaaGreatDoor
namespace Go.Proofs.YtlbacbcenejngaaGreatDoor
open Go.RowKit
structure Pq where
 op:UInt8
 token:ByteArray
 path:ByteArray
 value:ByteArray
 n:Nat
 tail:ByteArray
 behind:ByteArray
def pq0:Pq:=⟨0,.empty,.empty,.empty,0,.empty,.empty⟩
def Pq.cells (r:Pq):Array Value:=#[.int .u8 (r.op.toNat:Int),.string r.token,.string r.path,.string r.value,.int .i64 (r.n:Int),.string r.tail,.string r.behind]
structure PqOk (q:Rq) (r:Pq):Prop where
 op:r.op=q.op
 token:r.token=q.token
 path:pathI (q.op.toNat:Int)=true→r.path=q.path∧r.tail=q.rest
 name:pathI (q.op.toNat:Int)=false→r.path=q.name∧r.behind=q.rest
 value:q.op.toNat=80→r.value=q.value
 version:q.op.toNat=71→r.n=q.version.toNat
 pre:q.op.toNat=84→r.value=q.pre∧r.n=q.rights.toNat
theorem info223:(Tryz.prog.info? 223).map (·.size)=some 7:=by kernel_rfl
theorem Pq.one (r:Pq):r.cells.all (·.oneCell')=true:=by simp [Pq.cells,Value.oneCell']
structure PA (w:World) (r:Pq) (wx:World):Prop where
 at':wx.heap[w.heap.size+1]?=some (.cells r.cells 223 (0,0))
 res:∃ old,wx.heap[w.heap.size]?=some (.cells old 223 (0,0))∧old.size=7
 kept:Kept w.heap.size w wx
theorem PA.keep {w wx wy:World} {r:Pq} (h:PA w r wx) (hk:Kept wx.heap.size wx wy):PA w r wy:=by
 obtain ⟨old,h1,h2⟩:=h.res
 exact ⟨(hk.block _ (Array.getElem?_eq_some_iff.1 h.at').1).trans h.at',⟨old,(hk.block _ (Array.getElem?_eq_some_iff.1 h1).1).trans h1,h2⟩,h.kept.trans (hk.mono h.kept.size)⟩
theorem PA.set {w wx:World} {r r':Pq} (h:PA w r wx) (j:Nat) (v:Value) (hr:r.cells.setIfInBounds j v=r'.cells):PA w r' (wx.setCell ⟨w.heap.size+1,j,none⟩ v):=by
 obtain ⟨old,h1,h2⟩:=h.res
 refine ⟨?_,⟨old,?_,h2⟩,h.kept.setCell (p:=⟨w.heap.size+1,j,none⟩) (by show w.heap.size≤w.heap.size+1;omega) v⟩
 ·rw [heap_setCell_same _ _ _ _ _ _ h.at',hr]
 ·rw [heap_setCell_other _ _ _ _ (by show w.heap.size≠w.heap.size+1;omega)];exact h1
theorem PA.c {w wx:World} {r:Pq} (h:PA w r wx) (j:Nat):wx.cell? ⟨w.heap.size+1,j,none⟩=r.cells[j]?:=cell_of_row _ _ _ _ _ _ h.at'
theorem PA.fz {w wx:World} {r:Pq} (h:PA w r wx) (j:Nat):wx.frozen? ⟨w.heap.size+1,j,none⟩=false:=frozen_of_row _ _ _ _ _ h.at'
def prEnd (s:ByteArray) (w:World) (e:Ending) (w':World):Prop :=
 ∃ r:Pq,e=.returned (.tuple #[.agg r.cells,.bool (readQ s).isSome])∧(∀ q,readQ s=some q→PqOk q r)∧Kept w.heap.size w w'
theorem pr_ret {R:Ending→World→Prop} {tmps:Array Value} {w:World} {b:Nat} {r:Pq} {t:Bool} (h1:tmps.getD 2 undef=.pointer (some ⟨b,0,none⟩)) (h2:tmps.getD 3 undef=.bool t) (hrow:w.heap[b]?=some (.cells r.cells 223 (0,0)))
  (hR:R (.returned (.tuple #[.agg r.cells,.bool t])) w):bodyPost Tryz.prog Tryz.f148 R .ret { tmps:=tmps,defers:=[] } w:=by
 have h1':tmps[2]?.getD undef=.pointer (some ⟨b,0,none⟩):=by simpa using h1
 have h2':tmps[3]?.getD undef=.bool t:=by simpa using h2
 have l1:(loadVar 223 ⟨b,0,none⟩).run Tryz.prog w=.ok (.agg r.cells) w:=run_loadVar_row w _ 223 223 r.cells (0,0) _ hrow Tryz.underlying223 rfl info223
 refine bodyPost_ret (v:=.tuple #[.agg r.cells,.bool t]) ?_ rfl hR
 simp [results,Tryz.results148,h1',h2',asAddr,l1]
theorem pr_put {w wx wy:World} {r:Pq} (h:PA w r wx) (hp:Put w.heap.size r.cells 223 wx wy):wy.heap[w.heap.size]?=some (.cells r.cells 223 (0,0))∧Kept w.heap.size w wy :=
 ⟨hp.row,h.kept.trans (Kept.of (hp.below (Nat.le_refl _)))⟩
theorem takeB_nil {s:ByteArray} (h:s.size=0):readQ s=none:=by unfold readQ takeB;rw [if_pos h]
theorem takeB_some {s:ByteArray} (h:s.size≠0):takeB s=some (s.data.toList.getD 0 0,s.extract 1 s.size):=by unfold takeB;rw [if_neg h]
theorem readQ_cut0 {s s1:ByteArray} {op:UInt8} (hB:takeB s=some (op,s1)) (hT:takeT s1=none):readQ s=none:=by unfold readQ;simp only [hB,takeN,hT]
theorem readQ_gen {s s1 t rest:ByteArray} {op:UInt8} (hB:takeB s=some (op,s1)) (hT:takeT s1=some (t,rest)) (hn:isNm t=true):readQ s=match rdOf op (rqOT op t) rest with | some (q,s3)=>if s3.size=0 then some q else none | none=>none:=by
 unfold readQ
 simp only [hB,takeN,hT,hn,if_true]
 rfl
theorem readQ_nm {s s1 t rest:ByteArray} {op:UInt8} (hB:takeB s=some (op,s1)) (hT:takeT s1=some (t,rest)) (hn:isNm t=false):readQ s=none:=by
 unfold readQ
 simp [hB,takeN,hT,hn]
theorem opI_cases {op:UInt8} (h:opI (op.toNat:Int)=true):op=80∨op=71∨op=68∨op=76∨op=84∨op=82:=by
 have h2:(op.toNat:Int)=80∨(op.toNat:Int)=71∨(op.toNat:Int)=68∨(op.toNat:Int)=76∨(op.toNat:Int)=84∨(op.toNat:Int)=82:=by
  simp [opI] at h
  omega
 have e:∀ n:UInt8,(op.toNat:Int)=(n.toNat:Int)→op=n:=fun n hn=>UInt8.toNat_inj.1 (by omega)
 rcases h2 with h | h | h | h | h | h
 ·exact .inl (e 80 h)
 ·exact .inr (.inl (e 71 h))
 ·exact .inr (.inr (.inl (e 68 h)))
 ·exact .inr (.inr (.inr (.inl (e 76 h))))
 ·exact .inr (.inr (.inr (.inr (.inl (e 84 h)))))
 ·exact .inr (.inr (.inr (.inr (.inr (e 82 h)))))
theorem rdOf_op {op:UInt8} (h:opI (op.toNat:Int)=false) (q:Rq) (s:ByteArray):rdOf op q s=none:=by
 unfold rdOf
 simp [opI] at h
 split <;> first | rfl | (exfalso;omega)
theorem readQ_op {s s1 t rest:ByteArray} {op:UInt8} (hB:takeB s=some (op,s1)) (hT:takeT s1=some (t,rest)) (ho:opI (op.toNat:Int)=false):readQ s=none:=by
 cases hn:isNm t with
 | false=>exact readQ_nm hB hT hn
 | true=>rw [readQ_gen hB hT hn,rdOf_op ho]
theorem readQ_cut1 {s s1 t rest:ByteArray} {op:UInt8} (hB:takeB s=some (op,s1)) (hT:takeT s1=some (t,rest)) (hn:isNm t=true) (ho:opI (op.toNat:Int)=true) (h2:takeT rest=none):readQ s=none:=by
 rw [readQ_gen hB hT hn]
 rcases opI_cases ho with rfl | rfl | rfl | rfl | rfl | rfl
 ·show (match rdPut _ rest with | some (q,s3)=>_ | none=>_)=_;simp [rdPut,rdPath,h2]
 ·show (match rdGet _ rest with | some (q,s3)=>_ | none=>_)=_;simp [rdGet,rdPath,h2]
 ·show (match rdPath _ rest with | some (q,s3)=>_ | none=>_)=_;simp [rdPath,h2]
 ·show (match rdList _ rest with | some (q,s3)=>_ | none=>_)=_;simp [rdList,takeP,h2]
 ·show (match rdGrant _ rest with | some (q,s3)=>_ | none=>_)=_;simp [rdGrant,rdNamed,takeN,h2]
 ·show (match rdNamed _ rest with | some (q,s3)=>_ | none=>_)=_;simp [rdNamed,takeN,h2]
end Go.Proofs.YtlbacbcenejngaaGreatDoor
namespace Go.Proofs.YtlbacbcenejngaaGreatDoor
open Go.RowKit
section
variable {s s1 t rest pt rest2:ByteArray}
theorem readQ_P (hB:takeB s=some (80,s1)) (hT:takeT s1=some (t,rest)) (hn:isNm t=true) (h2:takeT rest=some (pt,rest2)):readQ s=if isPa pt then (match takeT rest2 with | some (v,en)=>if v.size≤40 then (if en.size=0 then some { rqOT 80 t with path:=pt,rest:=rest2,value:=v } else none) else none | none=>none) else none:=by
 rw [readQ_gen hB hT hn]
 show (match rdPut _ rest with | some (q,s3)=>_ | none=>_)=_
 cases hp:isPa pt with
 | false=>simp [rdPut,rdPath,h2,hp]
 | true =>
  cases h3:takeT rest2 with
  | none=>simp [rdPut,rdPath,h2,hp,h3]
  | some p =>
   obtain ⟨v,en⟩:=p
   by_cases hv:v.size≤40
   ·simp [rdPut,rdPath,h2,hp,h3,hv]
   ·simp [rdPut,rdPath,h2,hp,h3,hv]
theorem readQ_G (hB:takeB s=some (71,s1)) (hT:takeT s1=some (t,rest)) (hn:isNm t=true) (h2:takeT rest=some (pt,rest2)):readQ s=if isPa pt then (if rest2.size=1 then some { rqOT 71 t with path:=pt,rest:=rest2,version:=rest2.data.toList.getD 0 0 } else none) else none:=by
 rw [readQ_gen hB hT hn]
 show (match rdGet _ rest with | some (q,s3)=>_ | none=>_)=_
 have hz:(rest2.extract 1 rest2.size).size=rest2.size-1:=by rw [ByteArray.size_extract];omega
 cases hp:isPa pt with
 | false=>simp [rdGet,rdPath,h2,hp]
 | true =>
  by_cases h0:rest2.size=0
  ·simp [rdGet,rdPath,h2,hp,takeB,h0]
  ·by_cases h1:rest2.size=1
   ·have hx:(rest2.extract 1 rest2.size).size=0:=by omega
    simp only [rdGet,rdPath,h2,hp,takeB,if_neg h0,if_true,hx,if_pos h1]
   ·have hx:¬ (rest2.extract 1 rest2.size).size=0:=by omega
    simp only [rdGet,rdPath,h2,hp,takeB,if_neg h0,if_true,if_neg hx,if_neg h1]
theorem readQ_D (hB:takeB s=some (68,s1)) (hT:takeT s1=some (t,rest)) (hn:isNm t=true) (h2:takeT rest=some (pt,rest2)):readQ s=if isPa pt then (if rest2.size=0 then some { rqOT 68 t with path:=pt,rest:=rest2 } else none) else none:=by
 rw [readQ_gen hB hT hn]
 show (match rdPath _ rest with | some (q,s3)=>_ | none=>_)=_
 cases hp:isPa pt with
 | false=>simp [rdPath,h2,hp]
 | true=>simp [rdPath,h2,hp]
theorem readQ_L (hB:takeB s=some (76,s1)) (hT:takeT s1=some (t,rest)) (hn:isNm t=true) (h2:takeT rest=some (pt,rest2)):readQ s=if isPr pt then (if rest2.size=0 then some { rqOT 76 t with path:=pt } else none) else none:=by
 rw [readQ_gen hB hT hn]
 show (match rdList _ rest with | some (q,s3)=>_ | none=>_)=_
 cases hp:isPr pt with
 | false=>simp [rdList,takeP,h2,hp]
 | true=>simp [rdList,takeP,h2,hp]
theorem readQ_R (hB:takeB s=some (82,s1)) (hT:takeT s1=some (t,rest)) (hn:isNm t=true) (h2:takeT rest=some (pt,rest2)):readQ s=if isNm pt then (if rest2.size=0 then some { rqOT 82 t with rest:=rest,name:=pt } else none) else none:=by
 rw [readQ_gen hB hT hn]
 show (match rdNamed _ rest with | some (q,s3)=>_ | none=>_)=_
 cases hp:isNm pt with
 | false=>simp [rdNamed,takeN,h2,hp]
 | true=>simp [rdNamed,takeN,h2,hp]
theorem readQ_T (hB:takeB s=some (84,s1)) (hT:takeT s1=some (t,rest)) (hn:isNm t=true) (h2:takeT rest=some (pt,rest2)):readQ s=if isNm pt then (match takeT rest2 with | some (x,en)=>if isPr x then (if en.size=1 then (if 1≤(en.data.toList.getD 0 0).toNat∧(en.data.toList.getD 0 0).toNat≤7 then some { rqOT 84 t with rest:=rest,name:=pt,pre:=x,rights:=en.data.toList.getD 0 0 } else none) else none) else none | none=>none) else none:=by
 rw [readQ_gen hB hT hn]
 show (match rdGrant _ rest with | some (q,s3)=>_ | none=>_)=_
 cases hp:isNm pt with
 | false=>simp [rdGrant,rdNamed,takeN,h2,hp]
 | true =>
  cases h3:takeT rest2 with
  | none=>simp [rdGrant,rdNamed,takeN,h2,hp,takeP,h3]
  | some p =>
   obtain ⟨x,en⟩:=p
   have hz:(en.extract 1 en.size).size=en.size-1:=by rw [ByteArray.size_extract];omega
   cases hx:isPr x with
   | false=>simp [rdGrant,rdNamed,takeN,h2,hp,takeP,h3,hx]
   | true =>
    by_cases h0:en.size=0
    ·simp [rdGrant,rdNamed,takeN,h2,hp,takeP,h3,hx,takeB,h0]
    ·by_cases hc:1≤(en.data.toList.getD 0 0).toNat∧(en.data.toList.getD 0 0).toNat≤7
     ·by_cases h1:en.size=1
      ·have hy:(en.extract 1 en.size).size=0:=by omega
       simp only [rdGrant,rdNamed,takeN,h2,hp,takeP,h3,hx,takeB,if_neg h0,if_true,if_pos hc,hy,if_pos h1]
      ·have hy:¬ (en.extract 1 en.size).size=0:=by omega
       simp only [rdGrant,rdNamed,takeN,h2,hp,takeP,h3,hx,takeB,if_neg h0,if_true,if_pos hc,if_neg hy,if_neg h1]
     ·simp only [rdGrant,rdNamed,takeN,h2,hp,takeP,h3,hx,takeB,if_neg h0,if_true,if_neg hc]
      split <;> rfl
end
theorem empY {x:ByteArray} (h:x.size=0):x.toList.isEmpty=true:=by rw [empty_iff,h];rfl
theorem empN {x:ByteArray} (h:x.size≠0):x.toList.isEmpty=false:=by rw [empty_iff];simpa using h
theorem empty_of {x:ByteArray} (h:x.size=0):x=.empty:=by
 apply ByteArray.ext
 apply Array.eq_empty_of_size_eq_zero
 exact h
theorem wp_store_put {w:World} {o:Oper} {a:Act} {K:Act→World→Prop} {Q:Exit→Act→World→Prop} (ty:TypeId) (x y:Operand) (ho:o.op=.store ty x y)
  (g:Nat) (cells:Array Value) (hx:a.eval x=.pointer (some ⟨g,0,none⟩)) (hy:a.eval y=.agg cells)
  (t:TypeId) (old:Array Value) (hg:w.heap[g]?=some (.cells old t (0,0))) (hi:(Tryz.prog.info? ty).map (·.size)=some cells.size)
  (hold:old.size=cells.size) (h1:cells.all (·.oneCell')=true)
  (h:∀ w',Put g cells t w w'→K (a.put o.dst undef) w'):o.wp Tryz.prog a w K Q:=by
 exact wp_store_row ty x y ho g cells hx hy t old hg hi hold h1 (h _ ⟨setRow_heap _ _ _ _ _ _ hg,fun k hk=>setRow_other _ _ _ _ hk,by simp,rfl,rfl,rfl⟩)
end Go.Proofs.YtlbacbcenejngaaGreatDoor
namespace Go.Proofs.YtlbacbcenejngaaGreatDoor
open Go.RowKit
set_option maxRecDepth 100000 in
set_option maxHeartbeats 1000000 in
theorem secret_ref (B:Nat) (w:World) (rp:Nat) (g:RG) (key root:ByteArray) (secs:List Sc) (toks:List (ByteArray × Tok)) (E:List ByteArray) (H:List Nat) (n:ByteArray) (h:RVAt B w rp g key root secs toks E H) (hl:secs.length≤1000) :
  Calls Tryz.prog 179 #[.pointer (some ⟨rp,0,none⟩),.string n] w fun e w'=>(∃ x,e=.returned (.int .i64 x)∧Ix (secs.map (·.name)) n x)∧w'=w:=by
 have hc:w.cell? ⟨rp,2,none⟩=some g.sv:=(h.c 2).trans rfl
 have HR:=hide (show ∀ i a,secs[i]?=some a→∃ b cap,g.sv=.slice (some ⟨b,0,none⟩) secs.length cap∧b<w.heap.size∧∀ j,j<3→w.cell? ⟨b,i*3+j,none⟩=(Sc.cell a)[j]? from fun i a hi=>own_wide (f:=Sc.cell) (z:=3) (fun _=>rfl) h.sec hi)
 obtain ⟨ao,cap,htv,_,_⟩:=own_len h.sec
 rw [htv] at hc
 have HV:=hide htv
 clear h htv
 go_enter Tryz.func179,Tryz.ntmps179
 go_wp2
 go_loop [5] (fun t=>∃ i:Nat,i≤secs.length∧t=.int .i64 i∧∀ j,j<i→(secs.map (·.name))[j]?≠some n) (fun t=>secs.length-(intOf t).toNat)
 case atStart=>exact ⟨0,Nat.zero_le _,rfl,fun j hj=>absurd hj (by omega)⟩
 case round =>
  obtain ⟨i,hi,rfl,hb⟩:=hrel
  have HB:=hide hb
  clear hb
  by_cases hlt:i<secs.length
  ·have hltI:(i:Int)<(secs.length:Int):=by omega
   have hi0:(0:Int)≤(i:Int):=by omega
   obtain ⟨b,cap',e1,hbl,hcell⟩:=uh HR i secs[i] (List.getElem?_eq_getElem hlt)
   rw [uh HV] at e1
   injection e1 with e2 _ _
   subst e2
   have h0:=hcell 0 (by decide)
   rw [Nat.add_zero] at h0
   have h0':w.cell? ⟨b,i*3,none⟩=some (.string secs[i].name):=h0
   have HM:=hide (show (secs.map (·.name))[i]?=some secs[i].name by rw [List.getElem?_map,List.getElem?_eq_getElem hlt];rfl)
   clear h0 hcell
   generalize secs[i].name=m at *
   by_cases hm:m=n
   ·subst hm
    have heq:(m.toList==m.toList)=true:=by simp
    go_wp2_with fail
    go_ret
    exact ⟨⟨_,rfl,.inl ⟨i,rfl,uh HM,uh HB⟩⟩,rfl⟩
   ·have heq:(m.toList==n.toList)=false:=by rw [beq_eq_false_iff_ne];exact fun h=>hm (str_inj h)
    go_wp2_with fail
    go_round
    case rel =>
     refine ⟨i+1,by omega,by go_num,fun j hj=>?_⟩
     rcases Nat.lt_or_ge j i with h3 | h3
     ·exact uh HB j h3
     ·rw [show j=i by omega,uh HM];exact fun e=>hm (Option.some.inj e)
    case measure=>simp [intOf];omega
  ·have hltI:¬ (i:Int)<(secs.length:Int):=by omega
   go_wp2_with fail
   go_ret
   exact ⟨⟨_,rfl,.inr ⟨rfl,not_mem_at fun j hj=>uh HB j (by rw [List.length_map] at hj;omega)⟩⟩,rfl⟩
def letsB (op:UInt8) (r:Nat) (b:Bool):Bool:=if op=80∨op=68 then decide (r / 2 % 2=1)&&b else if op=71∨op=76 then decide (r % 2=1)&&b else decide (r / 4=1)
theorem info155:(Tryz.prog.info? 155).map (·.size)=some 3:=by kernel_rfl
set_option maxRecDepth 100000 in
set_option maxHeartbeats 1000000 in
theorem lets_ref (t:ByteArray × Tok) (r:Pq) (w:World) (ht:t.2.rights.toNat≤7) (hp:t.2.pre.size≤1000) (hr:r.path.size≤1000) :
  Calls Tryz.prog 150 #[.agg (tkcell t).toArray,.agg r.cells] w fun e w'=>e=.returned (.bool (letsB r.op t.2.rights.toNat (hasPre r.path t.2.pre)))∧Kept w.heap.size w w':=by
 obtain ⟨w1,hw1⟩:∃ w1,w1=(w.alloc (.cells (tkcell t).toArray 155)).alloc (.cells r.cells 223):=⟨_,rfl⟩
 have hr1:w1.heap[w.heap.size+1]?=some (.cells r.cells 223 (0,0)):=by
  rw [hw1]
  have:=heap_alloc_new (w.alloc (.cells (tkcell t).toArray 155)) (.cells r.cells 223)
  rwa [World.size_alloc] at this
 have ht1:w1.heap[w.heap.size]?=some (.cells (tkcell t).toArray 155 (0,0)):=by
  rw [hw1,Below.heap_alloc _ _ _ (by simp)];exact heap_alloc_new _ _
 have HK1:=hide (show Kept w.heap.size w w1 by rw [hw1];exact ((Kept.refl _ _).alloc (Nat.le_refl _) _).alloc (by simp) _)
 have hz1:w.heap.size+1<w1.heap.size:=(Array.getElem?_eq_some_iff.1 hr1).1
 have HR1:=hide hr1
 have HT1:=hide ht1
 have c2:w1.cell? ⟨w.heap.size+1,2,none⟩=some (.string r.path):=by rw [cell_of_row _ _ _ _ _ _ hr1];rfl
 have c1:w1.cell? ⟨w.heap.size,1,none⟩=some (.string t.2.pre):=by rw [cell_of_row _ _ _ _ _ _ ht1];rfl
 clear hr1 ht1
 go_enter Tryz.func150,Tryz.ntmps150
 go_upto_region 1 with fail
 rw [← hw1]
 clear hw1
 go_wp2_with fail
 refine (begins_ref r.path t.2.pre w1 (by omega) (by omega)).mono ?_
 rintro _ w2 ⟨rfl,hk⟩
 have HK2:=hide ((uh HK1).trans (hk.mono (by omega)))
 have hr2:=(hk.block _ hz1).trans (uh HR1)
 have ht2:=(hk.block _ (show w.heap.size<w1.heap.size by omega)).trans (uh HT1)
 have d0:w2.cell? ⟨w.heap.size+1,0,none⟩=some (.int .u8 (r.op.toNat:Int)):=by rw [cell_of_row _ _ _ _ _ _ hr2];rfl
 have d2:w2.cell? ⟨w.heap.size,2,none⟩=some (.int .i64 (t.2.rights.toNat:Int)):=by rw [cell_of_row _ _ _ _ _ _ ht2];rfl
 clear hk hr2 ht2 HR1 HT1 c1 c2
 obtain ⟨n,hn⟩:∃ n,n=t.2.rights.toNat:=⟨_,rfl⟩
 obtain ⟨op,ho⟩:∃ op,op=r.op:=⟨_,rfl⟩
 obtain ⟨b,hb⟩:∃ b,b=hasPre r.path t.2.pre:=⟨_,rfl⟩
 rw [← hb]
 rw [← hn] at d2 ht
 rw [← ho] at d0
 have HG:=hide (show letsB r.op t.2.rights.toNat (hasPre r.path t.2.pre)=letsB op n b by rw [hn,ho,hb])
 clear hn ho hb
 have E2:((n:Int) / 2 % 2==1)=decide (n / 2 % 2=1):=by
  rw [Bool.eq_iff_iff,beq_iff_eq,decide_eq_true_iff];omega
 have E1:((n:Int) % 2==1)=decide (n % 2=1):=by
  rw [Bool.eq_iff_iff,beq_iff_eq,decide_eq_true_iff];omega
 have E4:((n:Int) / 4==1)=decide (n / 4=1):=by
  rw [Bool.eq_iff_iff,beq_iff_eq,decide_eq_true_iff];omega
 have HL:=hide (show letsB op n b=if op=80∨op=68 then decide (n / 2 % 2=1)&&b else if op=71∨op=76 then decide (n % 2=1)&&b else decide (n / 4=1) from rfl)
 generalize decide (n / 2 % 2=1)=e2 at *
 generalize decide (n % 2=1)=e1 at *
 generalize decide (n / 4=1)=e4 at *
 have nat:∀ k:UInt8,op≠k→((op.toNat:Int)==(k.toNat:Int))=false:=fun k hk=>beq_eq_false_iff_ne.2 fun e=>hk (UInt8.toNat_inj.1 (by omega))
 by_cases h80:op=80
 ·subst h80
  have d0':w2.cell? ⟨w.heap.size+1,0,none⟩=some (.int .u8 80):=d0
  clear d0 nat
  cases e2 <;>
  ·go_wp2_with fail
   go_ret
   exact ⟨by rw [uh HG,uh HL];rfl,uh HK2⟩
 ·by_cases h68:op=68
  ·subst h68
   have d0':w2.cell? ⟨w.heap.size+1,0,none⟩=some (.int .u8 68):=d0
   clear d0 nat
   cases e2 <;>
   ·go_wp2_with fail
    go_ret
    exact ⟨by rw [uh HG,uh HL];rfl,uh HK2⟩
  ·have n80:((op.toNat:Int)==80)=false:=nat 80 h80
   have n68:((op.toNat:Int)==68)=false:=nat 68 h68
   by_cases h71:op=71
   ·subst h71
    have d0':w2.cell? ⟨w.heap.size+1,0,none⟩=some (.int .u8 71):=d0
    clear d0 nat
    cases e1 <;>
    ·go_wp2_with fail
     go_ret
     exact ⟨by rw [uh HG,uh HL];rfl,uh HK2⟩
   ·by_cases h76:op=76
    ·subst h76
     have d0':w2.cell? ⟨w.heap.size+1,0,none⟩=some (.int .u8 76):=d0
     clear d0 nat
     cases e1 <;>
     ·go_wp2_with fail
      go_ret
      exact ⟨by rw [uh HG,uh HL];rfl,uh HK2⟩
    ·have n71:((op.toNat:Int)==71)=false:=nat 71 h71
     have n76:((op.toNat:Int)==76)=false:=nat 76 h76
     clear nat
     go_wp2_with fail
     go_ret
     exact ⟨by rw [uh HG,uh HL,if_neg (by rintro (h | h);exact h80 h;exact h68 h),if_neg (by rintro (h | h);exact h71 h;exact h76 h)];rfl,uh HK2⟩
end Go.Proofs.YtlbacbcenejngaaGreatDoor
namespace Go.Proofs.YtlbacbcenejngaaGreatDoor
open Go.RowKit
theorem ix_found {α:Type} {n:ByteArray}:∀ (l:List (ByteArray × α)) (i:Nat),(l.map (·.1))[i]?=some n→(∀ j,j<i→(l.map (·.1))[j]?≠some n) →
  ∃ a,l[i]?=some (n,a)∧lk n l=some a∧(∀ v,putM n v l=l.set i (n,v))∧delM n l=l.take i++l.drop (i+1)
 | [],i,h,_=>by simp at h
 | p::l,0,h,_=>by
  simp at h
  refine ⟨p.2,by rw [← h];rfl,by rw [lk,if_pos h],fun v=>by rw [putM,if_pos h,List.set_cons_zero],by rw [delM,if_pos h];rfl⟩
 | p::l,i+1,h,hb=>by
  have h0:p.1≠n:=by have:=hb 0 (by omega);simpa using this
  obtain ⟨a,h1,h2,h3,h4⟩:=ix_found l i (by simpa using h) (fun j hj=>by have:=hb (j+1) (by omega);simpa using this)
  exact ⟨a,by simpa using h1,by rw [lk,if_neg h0];exact h2,fun v=>by rw [putM,if_neg h0,h3 v,List.set_cons_succ],by rw [delM,if_neg h0,h4];rfl⟩
theorem ix_none {α:Type} {n:ByteArray} {l:List (ByteArray × α)} (h:n∉l.map (·.1)):lk n l=none∧∀ v,putM n v l=l++[(n,v)]:=by
 refine ⟨lk_none_of h,fun v=>?_⟩
 induction l with
 | nil=>rfl
 | cons p l ih =>
  simp only [List.map_cons,List.mem_cons,not_or] at h
  rw [putM,if_neg (fun e=>h.1 e.symm),ih h.2]
  rfl
structure VsOk (p:Pth):Prop where
 one:1≤p.next
 rise:(p.vers.map (·.1)).Pairwise (·<·)
 num:∀ v∈p.vers,1≤v.1∧v.1<p.next
def Sto.Vs (S:Sto):Prop:=(∀ p∈S.paths,VsOk p.2)∧∀ t∈S.toks,t.2.rights.toNat≤7
theorem lk_mem' {K α:Type} [DecidableEq K] {k:K} {a:α}:∀ {l:List (K × α)},lk k l=some a→(k,a)∈l
 | [],h=>by cases h
 | p::l,h=>by
  rw [lk] at h
  split at h
  ·rename_i e;cases h;rw [← e];exact .head _
  ·exact .tail _ (lk_mem' h)
theorem Sto.Vs.carry {S:Sto} (h:S.Vs) {q:Rq} {c:Cg} (hr:q.rights.toNat≤7):(S.carry q c).Vs:=by
 cases c with
 | put =>
  refine ⟨fun p hp=>?_,h.2⟩
  rcases put_mem hp with rfl | hp
  ·cases hl:lk q.path S.paths with
   | none=>exact ⟨by show 1≤1+1;decide,by show ([(1,q.value)].map (·.1)).Pairwise (·<·);simp,fun v hv=>by
     rw [show v=(1,q.value) by simpa using hv];exact ⟨Nat.le_refl _,by show 1<1+1;decide⟩⟩
   | some p =>
    have hp:=h.1 _ (lk_mem' hl)
    refine ⟨by show 1≤p.next+1;omega,?_,fun v hv=>?_⟩
    ·show ((p.vers++[(p.next,q.value)]).map (·.1)).Pairwise (·<·)
     rw [List.map_append,List.pairwise_append]
     refine ⟨hp.rise,by simp,fun a ha b hb=>?_⟩
     obtain ⟨v,hv,rfl⟩:=List.mem_map.1 ha
     rw [show b=p.next by simpa using hb]
     exact (hp.num v hv).2
    ·have hv':v∈p.vers++[(p.next,q.value)]:=hv
     show 1≤v.1∧v.1<p.next+1
     rcases List.mem_append.1 hv' with hv | hv
     ·have h9:1≤v.1∧v.1<p.next:=hp.num v hv
      omega
     ·rw [show v=(p.next,q.value) by simpa using hv];exact ⟨hp.one,by show p.next<p.next+1;omega⟩
  ·exact h.1 p hp
 | drop =>
  show Sto.Vs (match lk q.path S.paths with | some p=>_ | none=>S)
  cases hl:lk q.path S.paths with
  | none=>exact h
  | some p =>
   have hp:=h.1 _ (lk_mem' hl)
   refine ⟨fun x hx=>?_,h.2⟩
   rcases put_mem hx with rfl | hx
   ·exact ⟨hp.one,by simp,by simp⟩
   ·exact h.1 x hx
 | grant =>
  refine ⟨h.1,fun t ht=>?_⟩
  rcases put_mem ht with rfl | ht
  ·exact hr
  ·exact h.2 t ht
 | revoke=>exact ⟨h.1,fun t ht=>h.2 t (del_mem ht)⟩
theorem readQ_rights {s:ByteArray} {q:Rq} (h:readQ s=some q):q.rights.toNat≤7:=by
 by_cases h0:s.size=0
 ·rw [takeB_nil h0] at h;cases h
 ·have hB:=takeB_some h0
  generalize s.data.toList.getD 0 0=op at hB
  generalize s.extract 1 s.size=s1 at hB
  cases hT:takeT s1 with
  | none=>rw [readQ_cut0 hB hT] at h;cases h
  | some x =>
   obtain ⟨t,rest⟩:=x
   cases hn:isNm t with
   | false=>rw [readQ_nm hB hT hn] at h;cases h
   | true =>
    cases ho:opI (op.toNat:Int) with
    | false=>rw [readQ_op hB hT ho] at h;cases h
    | true =>
     cases h2:takeT rest with
     | none=>rw [readQ_cut1 hB hT hn ho h2] at h;cases h
     | some y =>
      obtain ⟨p,rest2⟩:=y
      rcases opI_cases ho with rfl | rfl | rfl | rfl | rfl | rfl
      ·rw [readQ_P hB hT hn h2] at h
       split at h
       ·split at h
        ·split at h
         ·split at h
          ·cases h;show (0:UInt8).toNat≤7;decide
          ·cases h
         ·cases h
        ·cases h
       ·cases h
      ·rw [readQ_G hB hT hn h2] at h
       split at h
       ·split at h
        ·cases h;show (0:UInt8).toNat≤7;decide
        ·cases h
       ·cases h
      ·rw [readQ_D hB hT hn h2] at h
       split at h
       ·split at h
        ·cases h;show (0:UInt8).toNat≤7;decide
        ·cases h
       ·cases h
      ·rw [readQ_L hB hT hn h2] at h
       split at h
       ·split at h
        ·cases h;show (0:UInt8).toNat≤7;decide
        ·cases h
       ·cases h
      ·rw [readQ_T hB hT hn h2] at h
       split at h
       ·split at h
        ·split at h
         ·split at h
          ·split at h
           ·rename_i hr;cases h;exact hr.2
           ·cases h
          ·cases h
         ·cases h
        ·cases h
       ·cases h
      ·rw [readQ_R hB hT hn h2] at h
       split at h
       ·split at h
        ·cases h;show (0:UInt8).toNat≤7;decide
        ·cases h
       ·cases h
theorem Sto.Vs.then {S:Sto} (h:S.Vs) {q:Rq} (hr:q.rights.toNat≤7) (o:Oc):(S.then q o).Vs:=by
 unfold Sto.then
 split
 ·exact h.carry hr
 ·exact h
theorem Vlt.vs_next {V:Vlt} (h:V.sto.Vs) (s:ByteArray):(V.next s).sto.Vs:=by
 unfold Vlt.next
 split
 ·show (V.sto.then _ _).Vs
  unfold Vlt.ask
  split
  ·rename_i q hq;exact h.then (readQ_rights hq) _
  ·exact h
 ·exact h
theorem pick_back {p:Pth} (h:VsOk p) {n k:Nat} (hk:k<p.vers.length) (hy:n=0∨(p.vers.getD k (0,.empty)).1=n) (hb:∀ j,k<j→j<p.vers.length→¬ (n=0∨(p.vers.getD j (0,.empty)).1=n)):pickV n p.vers=some (p.vers.getD k (0,.empty)).2:=by
 have hg:∀ j (hj:j<p.vers.length),p.vers.getD j (0,.empty)=p.vers[j]:=fun j hj=>by rw [List.getD_eq_getElem?_getD,List.getElem?_eq_getElem hj];rfl
 refine pickV_hit n p.vers k hk (fun j hj=>?_) ?_
 ·have hjl:j<p.vers.length:=by omega
  have hlt:(p.vers[j]).1<(p.vers[k]).1:=by
   have:=List.pairwise_iff_getElem.1 h.rise j k (by simpa using hjl) (by simpa using hk) hj
   simpa using this
  have h1:=(h.num _ (List.getElem_mem hjl)).1
  rw [hg j hjl]
  rcases hy with hy | hy
  ·omega
  ·rw [hg k hk] at hy;omega
 ·rcases hy with hy | hy
  ·refine .inr ⟨hy,?_⟩
   rcases Nat.lt_or_ge (k+1) p.vers.length with hl | hl
   ·exact absurd (.inl hy) (hb (k+1) (by omega) hl)
   ·omega
  ·exact .inl hy
theorem pick_none {p:Pth} {n:Nat} (hb:∀ j,j<p.vers.length→¬ (n=0∨(p.vers.getD j (0,.empty)).1=n)):pickV n p.vers=none :=
 pickV_miss n p.vers fun j hj=>⟨fun e=>hb j hj (.inr e),fun e=>hb j hj (.inl e.1)⟩
end Go.Proofs.YtlbacbcenejngaaGreatDoor
