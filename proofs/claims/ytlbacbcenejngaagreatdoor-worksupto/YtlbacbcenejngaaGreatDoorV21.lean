/-
  Tags Rtag
-/
import Derived.Test.YtlbacbcenejngaaGreatDoorV20
import Derived.Test.YtlbacbcenejngaaGreatDoorV14
namespace Go.Proofs.YtlbacbcenejngaaGreatDoor
open Go.RowKit
theorem dig_size (l:List UInt8):(brow (Sha.digest l)).size=32:=by rw [brow_size,Sha.digest_length]
theorem dig_info (l:List UInt8):(Tryz.prog.info? 29).map (·.size)=some (brow (Sha.digest l)).size:=by rw [dig_size];exact info29
theorem dig_zero (l:List UInt8):(brow (List.replicate 32 0)).size=(brow (Sha.digest l)).size:=by rw [dig_size];rfl
set_option maxRecDepth 100000 in
set_option maxHeartbeats 1000000 in
theorem bailey_digest (s:ByteArray) (w:World) (hs:s.size≤140737488355000) (hT:Table w) (hz:0<w.heap.size) :
  Calls Tryz.prog 17 #[.string s] w fun e w'=>e=.returned (.agg (brow (Sha.digest s.data.toList)))∧Below w.heap.size w w':=by
 have hT2:Table (w.alloc (.cells (brow (List.replicate 32 0)) 29)):=hT.below ((Below.refl w.heap.size w).alloc (Nat.le_refl _) _) hz
 have HT:=hide hT2
 clear hT hT2
 go_enter Tryz.func17,Tryz.ntmps17
 go_wp2_with fail
 refine (of_go s _ hs (uh HT) (by simp)).mono ?_
 rintro e w1 ⟨rfl,hb⟩
 have hc:w1.heap[w.heap.size]?=some (.cells (brow (List.replicate 32 0)) 29 (0,0)):=(hb.block _ (by simp)).trans (heap_alloc_new _ _)
 have hb2:Below w.heap.size w w1:=((Below.refl w.heap.size w).alloc (Nat.le_refl _) _).trans (hb.mono (by simp))
 have HB:=hide hb2
 clear hb hb2
 have hi:=dig_info s.data.toList
 have ho:=dig_zero s.data.toList
 have h1:=brow_one (Sha.digest s.data.toList)
 generalize hD:brow (Sha.digest s.data.toList)=D at *
 have HD:=hide hD
 clear hD
 go_wp2_with (refine wpList_store_row rfl 29 _ _ rfl w.heap.size D rfl rfl 29 _ hc hi ho h1 ?_)
 refine bodyPost_ret (v:=.agg D) (results_cell_row Tryz.results17 _ _ w.heap.size 29 D (0,0) _ rfl (setRow_heap _ _ _ _ _ _ hc) Tryz.underlying29 rfl hi) rfl ⟨?_,?_⟩
 ·rw [uh HD]
 ·exact (uh HB).trans ⟨rfl,rfl,rfl,by simp,fun k hk=>setRow_other _ _ _ _ (by omega)⟩
theorem store_cells {P:Program} {w:World} {g:Nat} {t:TypeId} {old cells:Array Value} (hg:w.heap[g]?=some (.cells old t (0,0))) (ho:old.size=cells.size) (h1:cells.all (·.oneCell')=true) :
  (storeCells ⟨g,0,none⟩ cells.toList).run P w=.ok () (w.setRow g cells):=by
 have:=run_storeCells_from (P:=P) g t cells.toList 0 old w hg (by simp;omega) (fun v hv=>(Array.all_eq_true_iff_forall_mem.1 h1) v (by simpa using hv))
 simpa using this
structure Put (g:Nat) (cs:Array Value) (t:TypeId) (w w':World):Prop where
 row:w'.heap[g]?=some (.cells cs t (0,0))
 other:∀ k,k≠g→w'.heap[k]?=w.heap[k]?
 size:w'.heap.size=w.heap.size
 os:w'.os=w.os
 tape:w'.tape=w.tape
 output:w'.output=w.output
theorem Put.below {g B:Nat} {cs:Array Value} {t:TypeId} {w w':World} (h:Put g cs t w w') (hB:B≤g):Below B w w':=⟨h.os,h.tape,h.output,by rw [h.size];exact Nat.le_refl _,fun k hk=>h.other k (by omega)⟩
theorem wpList_store_put {P:Program} {w:World} {ops:Array Oper} {rest:List Oper} {o:Oper} {a:Act} {Q:Exit→Act→World→Prop} (hgd:o.guard=none) (ty:TypeId) (x y:Operand) (ho:o.op=.store ty x y)
  (g:Nat) (cells:Array Value) (hx:a.eval x=.pointer (some ⟨g,0,none⟩)) (hy:a.eval y=.agg cells)
  (t:TypeId) (old:Array Value) (hg:w.heap[g]?=some (.cells old t (0,0))) (hi:(P.info? ty).map (·.size)=some cells.size)
  (hold:old.size=cells.size) (h1:cells.all (·.oneCell')=true)
  (h:∀ w',Put g cells t w w'→wpList P ops Q rest (a.put o.dst undef) w'):wpList P ops Q (o::rest) a w :=
 wpList_store_row hgd ty x y ho g cells hx hy t old hg hi hold h1 (h _ ⟨setRow_heap _ _ _ _ _ _ hg,fun k hk=>setRow_other _ _ _ _ hk,by simp,rfl,rfl,rfl⟩)
structure Res (w wx:World):Prop where
 r:wx.heap[w.heap.size]?=some (.cells (brow (List.replicate 32 0)) 29 (0,0))
 size:w.heap.size<wx.heap.size
 below:Below w.heap.size w wx
theorem res_start (w:World):Res w (w.alloc (.cells (brow (List.replicate 32 0)) 29)):=⟨heap_alloc_new _ _,by simp,(Below.refl _ _).alloc (Nat.le_refl _) _⟩
theorem Res.next {w wx wy:World} (h:Res w wx) (hb:Below (w.heap.size+1) wx wy):Res w wy:=⟨(hb.block _ (by omega)).trans h.r,Nat.lt_of_lt_of_le h.size hb.size,h.below.trans (hb.mono (by omega))⟩
set_option maxRecDepth 100000 in
set_option maxHeartbeats 1000000 in
theorem tag_go (key s:ByteArray) (w:World) (hk:key.size≤140737488355000) (hs:s.size≤140737488354900) (hT:Table w) (hz:0<w.heap.size) :
  Calls Tryz.prog 74 #[.string key,.string s] w fun e w'=>e=.returned (.agg (brow (Sha.tag key.data.toList s.data.toList)))∧Below w.heap.size w w':=by
 have HT:=hide hT
 clear hT
 obtain ⟨K,hK⟩:∃ K:ByteArray,K=⟨(Sha.key64 key.data.toList).toArray⟩:=⟨_,rfl⟩
 go_enter Tryz.func74,Tryz.ntmps74
 go_upto_if 9 with fail
 go_cut [0] (fun v wx=>v=.string K∧Res w wx)
 case first =>
  have hT2:Table (w.alloc (.cells (brow (List.replicate 32 0)) 29)):=(uh HT).below (res_start w).below hz
  have HT2:=hide hT2
  have HK:=hide hK
  clear hT2 hK
  by_cases hlong:64<key.size
  ·have hlI:(64:Int)<(key.size:Int):=by omega
   have hK2:=hide (show K=⟨(Sha.digest key.data.toList).toArray⟩ by rw [uh HK,Sha.key64,if_pos (by rw [size_toList];exact hlong)])
   go_wp2_with fail
   refine (of_go key _ hk (uh HT2) (by simp)).mono ?_
   rintro e w1 ⟨rfl,hb⟩
   have hr:Res w w1:=(res_start w).next (hb.mono (by simp))
   have HR:=hide hr
   have hs1:=hr.size
   have hi:=dig_info key.data.toList
   have ho:=dig_zero key.data.toList
   have h1:=brow_one (Sha.digest key.data.toList)
   have hdl:=Sha.digest_length key.data.toList
   generalize Sha.digest key.data.toList=D at *
   clear hb hr
   go_wp2_with (refine wpList_store_put rfl 29 _ _ rfl w1.heap.size (brow D) rfl rfl 29 _ (heap_alloc_new _ _) hi ho h1 ?_;intro w2 hput;have hcv:=conv_brow (P:=Tryz.prog) hput.row 58 5 9 Tryz.underlying58 Tryz.underlying5 Tryz.underlying9 32 32 hdl.symm;have hP:=hide hput;clear hput)
   go_meet
   case rel =>
    refine ⟨by rw [uh hK2],(uh HR).next ?_⟩
    exact ((Below.refl _ _).alloc (by omega) _).trans ((uh hP).below (by omega))
  ·have hlI:¬ (64:Int)<(key.size:Int):=by omega
   have hK2:=hide (show K=key by rw [uh HK,Sha.key64,if_neg (by rw [size_toList];exact hlong)])
   go_wp2_with fail
   go_meet
   case rel=>exact ⟨by rw [uh hK2],res_start w⟩
 case rest =>
  obtain ⟨rfl,hr⟩:=hcut
  have hKs:K.size≤64:=by
   rw [hK,mk_size,Sha.key64]
   split
   ·rw [Sha.digest_length];decide
   ·omega
  have hKl:K.data.toList=Sha.key64 key.data.toList:=by rw [hK]
  have HKl:=hide hKl
  have hTw:=hide ((uh HT).below hr.below hz)
  clear hK hKl
  obtain ⟨c1,hc1⟩:∃ c:ByteArray,c=⟨(Sha.mask K.data.toList 54).toArray⟩++s:=⟨_,rfl⟩
  have hc1l:c1.data.toList=Sha.mask K.data.toList 54++s.data.toList:=by rw [hc1,ByteArray.data_append,Array.toList_append]
  have hc1s:c1.size=64+s.size:=by rw [← size_toList,hc1l,List.length_append,Sha.mask_length,size_toList]
  have hadd1:∀ W:World,(Op.stringOp .add ⟨(Sha.mask K.data.toList 54).toArray⟩ s).run Tryz.prog W=.ok (.string c1) W:=fun W=>by
   rw [hc1];exact run_string_add_sum _ _ _ (by rw [mk_size,Sha.mask_length];omega)
  obtain ⟨D1,hD1⟩:∃ D1,D1=Sha.digest c1.data.toList:=⟨_,rfl⟩
  have hD1l:D1.length=32:=by rw [hD1];exact Sha.digest_length _
  obtain ⟨c2,hc2⟩:∃ c:ByteArray,c=⟨(Sha.mask K.data.toList 92).toArray⟩++⟨D1.toArray⟩:=⟨_,rfl⟩
  have hc2l:c2.data.toList=Sha.mask K.data.toList 92++D1:=by rw [hc2,ByteArray.data_append,Array.toList_append]
  have hc2s:c2.size=96:=by rw [← size_toList,hc2l,List.length_append,Sha.mask_length,hD1l]
  have hadd2:∀ W:World,(Op.stringOp .add ⟨(Sha.mask K.data.toList 92).toArray⟩ ⟨D1.toArray⟩).run Tryz.prog W=.ok (.string c2) W:=fun W=>by
   rw [hc2];exact run_string_add_sum _ _ _ (by rw [mk_size,mk_size,Sha.mask_length];omega)
  have HF:=hide (show Sha.tag key.data.toList s.data.toList=Sha.digest c2.data.toList by
   rw [Sha.tag,hc2l,hD1,hc1l,uh HKl])
  have HC:=hide (And.intro hc1s (And.intro hc2s hD1))
  clear hc1 hc1l hc1s hc2 hc2l hc2s hD1
  go_wp2_with fail
  refine (masked_go' K 54 _ rfl _ hKs).mono ?_
  rintro e w1 ⟨rfl,hb1⟩
  have hr1:Res w w1:=hr.next (hb1.mono hr.size)
  have hT1:=hide ((uh HT).below hr1.below hz)
  clear hr hb1
  go_wp2_with fail
  refine (of_go c1 _ (by have:=(uh HC).1;omega) (uh hT1) (by have:=hr1.size;omega)).mono ?_
  rintro e w2 ⟨rfl,hb2⟩
  rw [← (uh HC).2.2]
  have hr2:Res w w2:=hr1.next (hb2.mono hr1.size)
  have hi1:(Tryz.prog.info? 29).map (·.size)=some (brow D1).size:=by rw [brow_size,hD1l];exact info29
  have ho1:(brow (List.replicate 32 0)).size=(brow D1).size:=by
   have e1:=brow_size D1
   have e2:(brow (List.replicate 32 0)).size=32:=rfl
   omega
  clear hb2 hr1
  go_wp2_with (refine wpList_store_put rfl 29 _ _ rfl w2.heap.size (brow D1) rfl rfl 29 _ (heap_alloc_new _ _) hi1 ho1 (brow_one _) ?_;intro w3 hput)
  have hr3:Res w w3:=hr2.next (((Below.refl _ _).alloc hr2.size _).trans (hput.below hr2.size))
  have hG:w2.heap.size<w3.heap.size:=by rw [hput.size];simp
  have hrow:w3.heap[w2.heap.size]?=some (.cells (brow D1) 29 (0,0)):=hput.row
  have hcv3:=conv_brow (P:=Tryz.prog) (w:=w3.drew) hrow 58 5 9 Tryz.underlying58 Tryz.underlying5 Tryz.underlying9 32 32 hD1l.symm
  have HR3:=hide hr3
  have HROW:=hide hrow
  have hBG:w.heap.size<w2.heap.size:=hr2.size
  clear hr2 hput hr3 hrow
  go_wp2_with fail
  go_region_with (first
   | (go_at_call 111;go_must (refine (masked_go' K 92 _ rfl _ hKs).mono ?_;rintro e w4 ⟨rfl,hb4'⟩;have hb4:Below w3.heap.size w3 w4:=undrew hb4';clear hb4';have hcv4:=conv_brow (P:=Tryz.prog) (w:=w4) ((hb4.block _ hG).trans (uh HROW)) 58 5 9 Tryz.underlying58 Tryz.underlying5 Tryz.underlying9 32 32 hD1l.symm;have HB4:=hide hb4;have HR4:=hide ((uh HR3).next (hb4.mono (uh HR3).size));have HT4:=hide ((uh HT).below (uh HR4).below hz);clear hb4))
   | (go_at_call 35;go_must (refine (of_go c2 _ (by have:=(uh HC).2.1;omega) (uh HT4) (by have:=(uh HR4).size;omega)).mono ?_;rintro e w5 ⟨rfl,hb5⟩;have hr5:Res w w5:=(uh HR4).next (hb5.mono (uh HR4).size);have hst:=store_cells (P:=Tryz.prog) hr5.r (dig_zero c2.data.toList) (brow_one _);have HR5:=hide hr5;clear hb5 hr5)))
  all_goals
   go_wp2_with fail
   refine bodyPost_ret (v:=.agg (brow (Sha.digest c2.data.toList))) (results_cell_row Tryz.results74 _ _ w.heap.size 29 _ (0,0) _ rfl (setRow_heap _ _ _ _ _ _ (uh HR5).r) Tryz.underlying29 rfl (dig_info _)) rfl ⟨by rw [uh HF],?_⟩
   exact (uh HR5).below.trans ⟨rfl,rfl,rfl,by simp,fun k hk=>setRow_other _ _ _ _ (by omega)⟩
end Go.Proofs.YtlbacbcenejngaaGreatDoor
namespace Go.Proofs.YtlbacbcenejngaaGreatDoor
open Go.RowKit
def turned (k:List UInt8) (m:UInt8) (n:Nat):List UInt8:=(List.range n).map fun i=>(k.getD i 0) ^^^ m
theorem turned_succ (k:List UInt8) (m:UInt8) (n:Nat):turned k m (n+1)=turned k m n++[(k.getD n 0) ^^^ m]:=by simp [turned,List.range_succ]
theorem turned_end (k:List UInt8) (m:UInt8):turned k m 64=Sha.mask k m:=rfl
theorem turned_head (k:List UInt8) (m:UInt8) {n:Nat} (h:0<n):(u8s (turned k m n))[0]?=some (.int .u8 (((k.getD 0 0) ^^^ m).toNat:Int)):=by
 obtain ⟨j,rfl⟩:∃ j,n=j+1:=⟨n-1,by omega⟩
 simp [turned,List.range_succ_eq_map]
theorem xor_ne (c:UInt8):(.int .u8 ((c ^^^ 54).toNat:Int):Value)≠.int .u8 ((c ^^^ 92).toNat:Int):=by
 have h:∀ c:UInt8,(c ^^^ 54).toNat≠(c ^^^ 92).toNat:=by
  intro c e
  have e2:c ^^^ 54=c ^^^ 92:=UInt8.toNat_inj.1 e
  have e3:=congrArg (fun x=>c ^^^ x) e2
  simp only [← UInt8.xor_assoc,UInt8.xor_self,UInt8.zero_xor] at e3
  exact absurd e3 (by decide)
 intro e
 have:=h c
 simp only [Value.int.injEq,true_and] at e
 omega
theorem own_apart {w:World} {B:Nat} {e:TypeId} {v1 v2:Value} {n1 n2:Nat} {xs ys:List Value} (h1:w.ownsRow B e 1 v1 n1 xs) (h2:w.ownsRow B e 1 v2 n2 ys) (p1:0<n1) (p2:0<n2) (hne:xs[0]?≠ys[0]?) :
  v1.ownBlock≠v2.ownBlock:=by
 obtain ⟨g1,c1,rfl,_,_,k1⟩:=own_form h1 p1
 obtain ⟨g2,c2,rfl,_,_,k2⟩:=own_form h2 p2
 intro e
 simp only [Value.ownBlock,Option.some.injEq] at e
 subst e
 exact hne ((k1 0 p1).symm.trans (k2 0 p2))
structure Resk (w wx:World):Prop where
 r:wx.heap[w.heap.size]?=some (.cells (brow (List.replicate 32 0)) 29 (0,0))
 size:w.heap.size<wx.heap.size
 kept:Kept w.heap.size w wx
theorem resk_start (w:World):Resk w (w.alloc (.cells (brow (List.replicate 32 0)) 29)):=⟨heap_alloc_new _ _,by simp,(Kept.refl _ _).alloc (Nat.le_refl _) _⟩
theorem Resk.next {w wx wy:World} (h:Resk w wx) (hb:Kept (w.heap.size+1) wx wy):Resk w wy:=⟨(hb.block _ (by omega)).trans h.r,Nat.lt_of_lt_of_le h.size hb.size,h.kept.trans (hb.mono (by omega))⟩
theorem grown_kept {B:Nat} {w w':World} {e:TypeId} {v:Value} {n:Nat} {xs:List Value} (hg:w.grownBy w' v.ownBlock) (ho:w.ownsRow B e 1 v n xs) (hs:B≤w.heap.size):Kept B w w' :=
 .of (grown_below (Below.refl _ _) ho (Nat.le_refl _) hg hs)
set_option maxRecDepth 100000 in
set_option maxHeartbeats 2000000 in
theorem tag_ref (key s:ByteArray) (w:World) (hk:key.size≤140737488355000) (hs:s.size≤140737488354900) :
  Calls Tryz.prog 157 #[.string key,.string s] w fun e w'=>e=.returned (.agg (brow (Sha.tag key.data.toList s.data.toList)))∧Kept w.heap.size w w':=by
 obtain ⟨i0,hi0,hz0,hz1,hz2⟩:=info_parts info5'
 obtain ⟨K,hK⟩:∃ K:ByteArray,K=⟨(Sha.key64 key.data.toList).toArray⟩:=⟨_,rfl⟩
 go_enter Tryz.func157,Tryz.ntmps157
 go_upto_if 14 with fail
 go_cut [0] (fun v wx=>v=.string K∧Resk w wx)
 case first =>
  have HK:=hide hK
  clear hK
  by_cases hlong:64<key.size
  ·have hlI:(64:Int)<(key.size:Int):=by omega
   have hK2:=hide (show K=⟨(Sha.digest key.data.toList).toArray⟩ by rw [uh HK,Sha.key64,if_pos (by rw [size_toList];exact hlong)])
   go_wp2_with fail
   refine (digest_ref key _ hk).mono ?_
   rintro e w1 ⟨rfl,hb⟩
   have hr:Resk w w1:=(resk_start w).next (hb.mono (by simp))
   have HR:=hide hr
   have hs1:=hr.size
   have hi:=dig_info key.data.toList
   have ho:=dig_zero key.data.toList
   have h1:=brow_one (Sha.digest key.data.toList)
   have hdl:=Sha.digest_length key.data.toList
   generalize Sha.digest key.data.toList=D at *
   clear hb hr
   go_wp2_with (first | (refine wpList_store_put rfl 29 _ _ rfl w1.heap.size (brow D) rfl rfl 29 _ (heap_alloc_new _ _) hi ho h1 ?_;intro w2 hput) | (refine wpList_load_row rfl 29 _ rfl w1.heap.size rfl 29 (brow D) (0,0) _ hput.row Tryz.underlying29 rfl hi ?_))
   refine (text_ref D _ hdl).mono ?_
   rintro e w3 ⟨rfl,hb3⟩
   have HR3:=hide ((uh HR).next (((Kept.refl _ _).alloc (by omega) _).trans ((Kept.of (hput.below hs1)).trans (hb3.mono (by have:=hput.size;simp at this;omega)))))
   clear hput hb3
   go_wp2
   go_meet
   case rel=>exact ⟨by rw [uh hK2],uh HR3⟩
  ·have hlI:¬ (64:Int)<(key.size:Int):=by omega
   have hK2:=hide (show K=key by rw [uh HK,Sha.key64,if_neg (by rw [size_toList];exact hlong)])
   go_wp2_with fail
   go_meet
   case rel=>exact ⟨by rw [uh hK2],resk_start w⟩
 case rest =>
  obtain ⟨rfl,hr⟩:=hcut
  have hKs:K.size≤64:=by
   rw [hK,mk_size,Sha.key64]
   split
   ·rw [Sha.digest_length];decide
   ·omega
  have hKl:K.data.toList=Sha.key64 key.data.toList:=by rw [hK]
  have HKl:=hide hKl
  clear hK hKl
  have HR:=hide hr
  have hrs:=hr.size
  clear hr
  obtain ⟨wq,hwq⟩:∃ wq:World,wq=wc:=⟨_,rfl⟩
  subst hwq
  go_wp2
  go_loopw [6,7,8] (fun vi vo t wr=>∃ k:Nat,k≤64∧t=.int .i64 k∧wr.ownsRow wq.heap.size 5 1 vi k (u8s (turned K.data.toList 54 k))∧wr.ownsRow wq.heap.size 5 1 vo k (u8s (turned K.data.toList 92 k))∧(k=0→vi=.slice none 0 0∧vo=.slice none 0 0)∧Kept wq.heap.size wq wr) (fun _ _ t _=>64-(intOf t).toNat)
  case atStart=>exact ⟨0,Nat.zero_le _,rfl,World.ownsRow_nil _ _ _ _,World.ownsRow_nil _ _ _ _,fun _=>⟨rfl,rfl⟩,Kept.refl _ _⟩
  case round =>
   obtain ⟨k,hk64,rfl,hin,hout,hnil,hke⟩:=hrel
   have hsz:=hke.size
   by_cases hlt:k<64
   ·obtain ⟨y,hy⟩:∃ y,y=K.data.toList.getD k 0:=⟨_,rfl⟩
    have hc:∃ c:Int,c=(y.toNat:Int):=⟨_,rfl⟩
    have hti:=hide (turned_succ K.data.toList 54 k)
    have hto:=hide (turned_succ K.data.toList 92 k)
    rw [← hy] at hti hto
    have hxi:bits .xor .u8 (y.toNat:Int) 54=((y ^^^ 54).toNat:Int):=xor_u8 y 54
    have hxo:bits .xor .u8 (y.toNat:Int) 92=((y ^^^ 92).toNat:Int):=xor_u8 y 92
    have hltI:(k:Int)<64:=by omega
    have HH:=hide (And.intro hin (And.intro hout (And.intro hnil hke)))
    have Hy:=hide hy
    have Hlt:=hide hlt
    clear hy hin hout hnil hke hlt
    go_upto_if 26 with fail
    go_cut [9] (fun v wx=>v=.int .u8 (y.toNat:Int)∧wx=wr)
    case first =>
     by_cases hik:k<K.size
     ·have hikI:(k:Int)<(K.size:Int):=by omega
      have hyk:=hide (show (K[k]'hik)=y by rw [uh Hy,List.getD_eq_getElem?_getD,List.getElem?_eq_getElem (by simpa using hik)];rfl)
      go_wp2_with fail
      go_meet
      case rel=>exact ⟨by rw [uh hyk],rfl⟩
     ·have hikI:¬ (k:Int)<(K.size:Int):=by omega
      have hyk:=hide (show y=0 by rw [uh Hy,List.getD_eq_getElem?_getD,List.getElem?_eq_none (by simp;omega)];rfl)
      go_wp2_with fail
      go_meet
      case rel=>exact ⟨by rw [uh hyk];rfl,rfl⟩
    case rest =>
     obtain ⟨rfl,hwc⟩:=hcut
     subst hwc
     obtain ⟨hin,hout,hnil,hke⟩:=uh HH
     have hso:wc.ownsRow wq.heap.size 5 1 u7 k (u8s (turned K.data.toList 92 k))∧(u7.ownBlock=none∨u7.ownBlock≠u6.ownBlock):=by
      refine ⟨hout,?_⟩
      rcases Nat.eq_zero_or_pos k with h0 | h0
      ·exact Or.inl (by rw [(hnil h0).2];rfl)
      ·exact Or.inr (own_apart hout hin h0 h0 (by rw [turned_head _ _ h0,turned_head _ _ h0];intro e;exact xor_ne _ (Option.some.inj e).symm))
     have HNE:=hide hso.2
     clear hso
     go_wp2_with (first
      | (at_builtin;refine wpList_append_own _ rfl (.tmp 30) (.tmp 33) 58 rfl wq.heap.size 5 i0 (.int .u8 0) 1 1 Tryz.underlying58 hi0 hz0 hz1 hz2 rfl (by decide) _ k (u8s (turned K.data.toList 54 k)) rfl (hin.alloc _) ⟨wc.heap.size,0,none⟩ 1 1 [.int .u8 ((y ^^^ 54).toNat:Int)] rfl rfl (cell_one_new _ _ _) (mem_one rfl) (by unfold maxLen;omega) (by omega) (by simp;omega) ?_;intro v1 w1 hin1 hgr1 _;have hout1:=(hout.alloc _).kept hgr1 (uh HNE);have hk1:=(hke.alloc hsz _).trans (grown_kept hgr1 (hin.alloc _) (by simp;omega));have hs1:=hk1.size;have hgr1':=hide hgr1;clear hgr1)
      | (at_builtin;refine wpList_append_own _ rfl (.tmp 35) (.tmp 38) 58 rfl wq.heap.size 5 i0 (.int .u8 0) 1 1 Tryz.underlying58 hi0 hz0 hz1 hz2 rfl (by decide) _ k (u8s (turned K.data.toList 92 k)) rfl (hout1.alloc _) ⟨w1.heap.size,0,none⟩ 1 1 [.int .u8 ((y ^^^ 92).toNat:Int)] rfl rfl (cell_one_new _ _ _) (mem_one rfl) (by unfold maxLen;omega) (by omega) (by simp;omega) ?_;intro v2 w2 hout2 hgr2 _))
     have e1:w1.ownsRow wq.heap.size 5 1 v1 (k+1) (u8s (turned K.data.toList 54 (k+1))):=by rw [uh hti];simpa [u8s] using hin1
     have e2:w2.ownsRow wq.heap.size 5 1 v2 (k+1) (u8s (turned K.data.toList 92 (k+1))):=by rw [uh hto];simpa [u8s] using hout2
     have hne:v1.ownBlock≠u7.ownBlock:=by
      rcases Nat.eq_zero_or_pos k with h0 | h0
      ·obtain ⟨g,c,hv,_⟩:=own_form e1 (by omega)
       rw [hv,(hnil h0).2]
       simp [Value.ownBlock]
      ·exact own_apart e1 hout1 (by omega) h0 (by rw [turned_head _ _ (by omega),turned_head _ _ h0];intro e;exact xor_ne _ (Option.some.inj e))
     refine ⟨⟨k+1,by have:=uh Hlt;omega,by go_num,(e1.alloc _).kept hgr2 (Or.inr hne),e2,fun h=>by omega,(hk1.alloc hs1 _).trans (grown_kept hgr2 (hout1.alloc _) (by simp;omega))⟩,?_⟩
     have:=uh Hlt
     simp [intOf];omega
   ·obtain rfl:k=64:=by omega
    obtain ⟨gi,ci,hvi,byi⟩:=own_byts hin (by decide)
    obtain ⟨go',co,hvo,byo⟩:=own_byts hout (by decide)
    subst hvi hvo
    rw [turned_end] at byi byo
    have hr:Resk w wr:=(uh HR).next (hke.mono hrs)
    obtain ⟨c1,hc1⟩:∃ c:ByteArray,c=⟨(Sha.mask K.data.toList 54).toArray⟩++s:=⟨_,rfl⟩
    have hc1l:c1.data.toList=Sha.mask K.data.toList 54++s.data.toList:=by rw [hc1,ByteArray.data_append,Array.toList_append]
    have hc1s:c1.size=64+s.size:=by rw [← size_toList,hc1l,List.length_append,Sha.mask_length,size_toList]
    have hadd1:∀ W:World,(Op.stringOp .add ⟨(Sha.mask K.data.toList 54).toArray⟩ s).run Tryz.prog W=.ok (.string c1) W:=fun W=>by
     rw [hc1];exact run_string_add_sum _ _ _ (by rw [mk_size,Sha.mask_length];omega)
    obtain ⟨D1,hD1⟩:∃ D1,D1=Sha.digest c1.data.toList:=⟨_,rfl⟩
    have hD1l:D1.length=32:=by rw [hD1];exact Sha.digest_length _
    obtain ⟨c2,hc2⟩:∃ c:ByteArray,c=⟨(Sha.mask K.data.toList 92).toArray⟩++⟨D1.toArray⟩:=⟨_,rfl⟩
    have hc2l:c2.data.toList=Sha.mask K.data.toList 92++D1:=by rw [hc2,ByteArray.data_append,Array.toList_append]
    have hc2s:c2.size=96:=by rw [← size_toList,hc2l,List.length_append,Sha.mask_length,hD1l]
    have hadd2:∀ W:World,(Op.stringOp .add ⟨(Sha.mask K.data.toList 92).toArray⟩ ⟨D1.toArray⟩).run Tryz.prog W=.ok (.string c2) W:=fun W=>by
     rw [hc2];exact run_string_add_sum _ _ _ (by rw [mk_size,mk_size,Sha.mask_length];omega)
    have HF:=hide (show Sha.tag key.data.toList s.data.toList=Sha.digest c2.data.toList by
     rw [Sha.tag,hc2l,hD1,hc1l,uh HKl])
    have HC:=hide (And.intro hc1s (And.intro hc2s hD1))
    have hi1:(Tryz.prog.info? 29).map (·.size)=some (brow D1).size:=by rw [brow_size,hD1l];exact info29
    have ho1:(brow (List.replicate 32 0)).size=(brow D1).size:=by
     have e1:=brow_size D1
     have e2:(brow (List.replicate 32 0)).size=32:=rfl
     omega
    have hglt:go'<wr.heap.size:=byo.lt (by have:=byo.came.le;omega)
    have hcv1:=byi.conv (P:=Tryz.prog) 58 5 9 Tryz.underlying58 Tryz.underlying5 Tryz.underlying9
    have HBYO:=hide byo
    have HRw:=hide hr
    clear hin hout byi byo hnil hr hc1 hc1l hc1s hc2 hc2l hc2s hD1
    go_wp2_with fail
    refine (digest_ref c1 _ (by have:=(uh HC).1;omega)).mono ?_
    rintro e w2 ⟨rfl,hb2⟩
    rw [← (uh HC).2.2]
    have hr2:Resk w w2:=(uh HRw).next (hb2.mono (uh HRw).size)
    have hs2:=hr2.size
    have hb2s:=hb2.size
    have by2:Byts w2 go' 0 64 co (Sha.mask K.data.toList 92):=(uh HBYO).carry (hb2.block _ hglt) hb2.size
    have HR2:=hide hr2
    have HBY2:=hide by2
    clear hb2 hr2 by2
    go_wp2_with (first | (refine wpList_store_put rfl 29 _ _ rfl w2.heap.size (brow D1) rfl rfl 29 _ (heap_alloc_new _ _) hi1 ho1 (brow_one _) ?_;intro w3 hput) | (refine wpList_load_row rfl 29 _ rfl w2.heap.size rfl 29 (brow D1) (0,0) _ hput.row Tryz.underlying29 rfl hi1 ?_))
    have hr3:Resk w w3:=(uh HR2).next (((Kept.refl _ _).alloc (by omega) _).trans (.of (hput.below (by omega))))
    have by3:Byts w3 go' 0 64 co (Sha.mask K.data.toList 92):=(uh HBY2).carry ((hput.other _ (by omega)).trans (Below.heap_alloc _ _ _ (by omega))) (by rw [hput.size];simp)
    have hs3:w2.heap.size<w3.heap.size:=by rw [hput.size];simp
    clear hput
    refine (text_ref D1 _ hD1l).mono ?_
    rintro e w4 ⟨rfl,hb4⟩
    have hr4:Resk w w4:=hr3.next (hb4.mono hr3.size)
    have by4:Byts w4 go' 0 64 co (Sha.mask K.data.toList 92):=by3.carry (hb4.block _ (by omega)) hb4.size
    have hcv4:=by4.conv (P:=Tryz.prog) 58 5 9 Tryz.underlying58 Tryz.underlying5 Tryz.underlying9
    have HR4:=hide hr4
    clear hr3 by3 hb4 hr4 by4
    go_wp2_with fail
    refine (digest_ref c2 _ (by have:=(uh HC).2.1;omega)).mono ?_
    rintro e w5 ⟨rfl,hb5⟩
    have hr5:Resk w w5:=(uh HR4).next (hb5.mono (uh HR4).size)
    clear hb5
    go_wp2_with (refine wpList_store_row rfl 29 _ _ rfl w.heap.size (brow (Sha.digest c2.data.toList)) rfl rfl 29 _ hr5.r (dig_info _) (dig_zero _) (brow_one _) ?_)
    refine bodyPost_ret (v:=.agg (brow (Sha.digest c2.data.toList))) (results_cell_row Tryz.results157 _ _ w.heap.size 29 _ (0,0) _ rfl (setRow_heap _ _ _ _ _ _ hr5.r) Tryz.underlying29 rfl (dig_info _)) rfl ⟨by rw [uh HF],?_⟩
    exact hr5.kept.setRow (Nat.le_refl _) _
end Go.Proofs.YtlbacbcenejngaaGreatDoor
