/-
  Sk2 Fm
-/
import Derived.Test.YtlbacbcenejngaaGreatDoorV02
import Derived.Test.YtlbacbcenejngaaGreatDoorV31
import Derived.Laws.CopyOwn
namespace Go.Proofs.YtlbacbcenejngaaGreatDoor
open Go.RowKit
set_option maxRecDepth 100000 in
set_option maxHeartbeats 1000000 in
theorem give_ref (B:Nat) (w:World) (p:Nat) (v:Value) (k:Snk) (s:ByteArray) (h:SAt B 105 w p v k) (ha:0≤k.app∧k.app≤4294967296) (hf:k.fails.length≤4294967296) (hd:k.data.size≤1099511627776) (hs:s.size≤1099511627776) :
  Calls Tryz.prog 120 #[.pointer (some ⟨p,0,none⟩),.string s] w (skEnd B 105 w p v (.bool k.took) (k.append s)):=by
 have h1:=h.c1
 have f1:=h.fz 1
 obtain ⟨ao,cap,rfl,hcap,hao⟩:=own_len h.own
 have H1:=hide (h.set1 (by decide) (k.app+1))
 clear h
 go_enter Tryz.func120,Tryz.ntmps120
 go_wp2_with fail
 generalize w.setCell ⟨p,1,none⟩ (.int .i64 (k.app+1))=w1 at H1 ⊢
 go_loopw [5] (fun vi wr=>∃ i:Nat,i≤k.fails.length∧vi=.int .i64 i∧(∀ j,j<i→k.fails.getD j 0≠k.app+1)∧Kept w1.heap.size w1 wr) (fun vi _=>k.fails.length-(intOf vi).toNat)
 case atStart=>exact ⟨0,Nat.zero_le _,rfl,fun j hj=>absurd hj (by omega),Kept.refl _ _⟩
 case round =>
  obtain ⟨i,hi,rfl,hb,hkk⟩:=hrel
  have HB:=hide hb
  have H2:=hide (And.intro ((uh H1).1.kept hkk) ((uh H1).2.trans (.of_kept hkk)))
  have HK:=hide hkk
  clear hb hkk
  have h2:=(uh H2).1.c2
  have h1':=(uh H2).1.c1
  simp only at h1' h2
  by_cases hlt:i<k.fails.length
  ·obtain ⟨g,rfl⟩:=hao (by omega)
   have hiI:(i:Int)<(k.fails.length:Int):=by omega
   have hi0:(0:Int)≤(i:Int):=by omega
   have hc:wr.cell? ⟨g,i,none⟩=some (.int .i64 (k.fails.getD i 0)):=own_int1 (uh H2).1.own hlt rfl
   generalize hm:k.fails.getD i 0=m at hc
   have HM:=hide hm
   clear hm
   by_cases hmn:m=k.app+1
   ·have HT:=hide (not_took hlt (by rw [uh HM];exact hmn))
    go_wp2_with fail
    go_quiet (fail)
    go_wp2_with fail
    all_goals go_ret
    all_goals exact skEnd_of (by rw [uh HT];rfl) (by rw [Snk.append,uh HT];rfl) ⟨(uh H2).1.kept ((Kept.refl _ _).draws _),(uh H2).2.trans (.of_kept ((Kept.refl _ _).draws _))⟩
   ·go_wp2_with fail
    go_quiet (fail)
    go_wp2_with fail
    go_roundw
    case rel =>
     refine ⟨i+1,by omega,by go_num,fun j hj=>?_,(uh HK).trans ⟨rfl,rfl,Nat.le_refl _,fun _ _=>rfl⟩⟩
     rcases Nat.lt_or_ge j i with h3 | h3
     ·exact uh HB j h3
     ·rw [show j=i by omega,uh HM];exact hmn
    case measure=>simp [intOf];omega
  ·have hiI:¬ (i:Int)<(k.fails.length:Int):=by omega
   have HT:=hide (yes_took (k:=k) fun j hj=>uh HB j (by omega))
   have c0:=(uh H2).1.c0
   have f0:=(uh H2).1.fz 0
   simp only at c0
   have h3:=(uh H2).1.set0 (by decide) (k.data++s)
   have H3:=hide (And.intro h3.1 ((uh H2).2.trans h3.2))
   clear h3
   go_wp2
   all_goals go_ret
   all_goals exact skEnd_of (by rw [uh HT];rfl) (by rw [Snk.append,uh HT];rfl) (uh H3)
theorem run_append_fresh2 {P:Program} (w:World) (base:Nat) (t ty e:TypeId) (i:TypeInfo) (z:Value) (size bytes:Nat) (ht:P.underlying t=some (.slice e)) (hi:P.info? e=some i) (hz:i.zero=some z)
  (hsize:i.size=size) (hby:i.bytes=bytes) (hzs:z.cells.size=size) (hsz:0<size)
  (v:Value) (n:Nat) (xs:List Value) (hown:w.ownsRow base e size v n xs)
  (a:Addr) (m c:Nat) (news:List Value) (hl:news.length=m*size) (hnews:∀ j u,news[j]?=some u→w.cell? (a.add j)=some u) (h1:∀ u∈news,u.oneCell'=true)
  (h63:n+m≤maxLen) (hbytes:(n+m)*bytes≤140737488355328) (hbase:base≤w.heap.size) :
  ∃ v' w',(Builtin.append_ #[t,t] ty #[v,.slice (some a) m c]).run P w=.ok v' w'∧w'.ownsRow base e size v' (n+m) (xs++news)∧w.grownBy w' v.ownBlock ∧
   (v'.ownBlock=v.ownBlock∨v'.ownBlock=some w.heap.size):=by
 by_cases hm:0<m
 ·exact run_append_fresh w base t ty e i z size bytes ht hi hz hsize hby hzs hsz v n xs hown a m c news hl hnews h1 hm h63 hbytes hbase
 ·obtain ⟨v',w',hr,ho,hg,hiff⟩:=run_append_own (P:=P) w base t ty e i z size bytes ht hi hz hsize hby hzs hsz v n xs hown a m c news hl hnews h1 h63 hbytes hbase
  refine ⟨v',w',hr,ho,hg,?_⟩
  rcases hown.2 with ⟨rfl,rfl⟩ | ⟨g,cap,cur,rfl,hb,hgg,hkc,hcm,hcs,htake⟩
  ·rw [hiff.2 ⟨rfl,by omega⟩];exact .inl rfl
  ·have hr2:=run_append_room (P:=P) w t ty e i ht hi g n cap cur hgg a m c news (by rw [hl,hsize]) hnews h1 (by omega) (by rw [hl,hsize,hcs,← Nat.add_mul];exact Nat.mul_le_mul_right _ (by omega))
   rw [hr2] at hr
   injection hr with hv _
   subst hv
   exact Or.inl rfl
def ISl (w:World) (v:Value) (L:List Int):Prop :=
 (L=[]∧(v=.slice none 0 0∨∃ a cap,v=.slice (some a) 0 cap))∨∃ b o cap,0<L.length∧v=.slice (some ⟨b,o,none⟩) L.length cap∧L.length≤cap∧b<w.heap.size∧∀ j,j<L.length→w.cell? ⟨b,o+j,none⟩=some (.int .i64 (L.getD j 0))
theorem info3n:(Tryz.prog.info? 3).map (fun i=>(i.zero,i.size,i.bytes))=some (some (.int .i64 0),1,8):=by kernel_rfl
theorem ISl.kept {w w':World} {v:Value} {L:List Int} (h:ISl w v L) (hk:Kept w.heap.size w w'):ISl w' v L:=by
 rcases h with h | ⟨b,o,cap,hp,h1,h0,h2,h3⟩
 ·exact .inl h
 ·exact .inr ⟨b,o,cap,hp,h1,h0,Nat.lt_of_lt_of_le h2 hk.size,fun j hj=>(hk.cell (p:=⟨b,o+j,none⟩) h2).trans (h3 j hj)⟩
theorem ISl.blocks {w w':World} {v:Value} {L:List Int} (h:ISl w v L) (hs:w.heap.size≤w'.heap.size) (hk:0<L.length→∀ k,v.ownBlock=some k→w'.heap[k]?=w.heap[k]?):ISl w' v L:=by
 rcases h with h | ⟨b,o,cap,hp,h1,h0,h2,h3⟩
 ·exact .inl h
 ·refine .inr ⟨b,o,cap,hp,h1,h0,Nat.lt_of_lt_of_le h2 hs,fun j hj=>?_⟩
  rw [World.cell?_of_block (w:=w) (a:=⟨b,o+j,none⟩) (hk hp b (by rw [h1];rfl))]
  exact h3 j hj
theorem ISl.slice {w:World} {v:Value} {L:List Int} (h:ISl w v L):∃ a n c,v=.slice a n c:=by
 rcases h with ⟨_,rfl | ⟨a,c,rfl⟩⟩ | ⟨b,o,c,_,rfl,_⟩
 ·exact ⟨_,_,_,rfl⟩
 ·exact ⟨_,_,_,rfl⟩
 ·exact ⟨_,_,_,rfl⟩
theorem ISl.parts {w:World} {v:Value} {L:List Int} (h:ISl w v L):∃ a cap,v=.slice a L.length cap∧(0<L.length→∃ b o,a=some ⟨b,o,none⟩∧b<w.heap.size∧∀ j,j<L.length→w.cell? ⟨b,o+j,none⟩=some (.int .i64 (L.getD j 0))):=by
 rcases h with ⟨rfl,rfl | ⟨a,c,rfl⟩⟩ | ⟨b,o,c,hp,rfl,h0,h2,h3⟩
 ·exact ⟨none,0,rfl,fun h=>absurd h (by simp)⟩
 ·exact ⟨_,c,rfl,fun h=>absurd h (by simp)⟩
 ·exact ⟨_,c,rfl,fun _=>⟨b,o,rfl,h2,h3⟩⟩
theorem wpList_append_ints {w:World} {ops:Array Oper} {rest:List Oper} {o:Oper} {act:Act} {Q:Exit→Act→World→Prop} (hgd:o.guard=none) (s x:Operand)
  (ho:o.op=.call { callee:=.builtin .append,args:=#[s,x],argTypes:=#[38,38] }) (B:Nat)
  (v:Value) (hs:act.eval s=v) (hown:w.ownsRow B 3 1 v 0 []) (vx:Value) (L:List Int) (hL:L.length≤4294967296)
  (hx:act.eval x=vx) (hI:ISl w vx L) (hB:B≤w.heap.size)
  (h:∀ v' w',w'.ownsRow B 3 1 v' L.length (icells L)→w.grownBy w' v.ownBlock→(v'.ownBlock=v.ownBlock∨v'.ownBlock=some w.heap.size)→wpList Tryz.prog ops Q rest (act.put o.dst v') w'):wpList Tryz.prog ops Q (o::rest) act w:=by
 obtain ⟨i0,hi0,hz0,hz1,hz2⟩:=info_parts info3n
 by_cases hnone:vx=.slice none 0 0
 ·subst hnone
  obtain rfl:L=[]:=by
   rcases hI with ⟨rfl,_⟩ | ⟨b,off,cap,_,h,_⟩
   ·rfl
   ·cases h
  exact wpList_append_own_none hgd s x 38 ho B 3 i0 1 Tryz.underlying38 hi0 v 0 [] hs hown hx (h v w hown ⟨rfl,rfl,rfl,Nat.le_refl _,fun _ _ _=>rfl⟩ (.inl rfl))
 ·obtain ⟨ad,cap,rfl,h3⟩:∃ ad cap,vx=.slice (some ad) L.length cap∧∀ j,j<L.length→w.cell? (ad.add j)=some (.int .i64 (L.getD j 0)):=by
   rcases hI with ⟨rfl,rfl | ⟨a,c,rfl⟩⟩ | ⟨b,off,cap,_,rfl,_,_,h3⟩
   ·exact absurd rfl hnone
   ·exact ⟨a,c,rfl,fun j hj=>absurd hj (by simp)⟩
   ·exact ⟨_,cap,rfl,fun j hj=>by rw [add_addr];exact h3 j hj⟩
  refine wpList_plain hgd fun K hK=>?_
  obtain ⟨v',w',hr,h4,h5,h6⟩:=run_append_fresh2 (P:=Tryz.prog) w B 38 o.type 3 i0 _ 1 8 Tryz.underlying38 hi0 hz0 hz1 hz2 rfl (by decide) v 0 [] hown ad L.length cap (icells L) (by simp [icells]) (fun j u hu=>by
   rw [icells,List.getElem?_map] at hu
   obtain ⟨y,hy,rfl⟩:=Option.map_eq_some_iff.1 hu
   have hj:=(List.getElem?_eq_some_iff.1 hy).1
   rw [h3 j hj,List.getD_eq_getElem?_getD,hy];rfl) (by
   intro u hu
   obtain ⟨y,_,rfl⟩:=List.mem_map.1 hu
   rfl) (by unfold maxLen;omega) (by omega) hB
  rw [Nat.zero_add,List.nil_append] at h4
  unfold Oper.wp
  simp [execOp,ho,resolve,invoke,builtin,hs,hx,hr,Result.andThen]
  exact hK _ _ (h v' w' h4 h5 h6)
theorem fail_upd {w1 w2:World} {p g:Nat} {v v2:Value} (hg:g=w1.heap.size) (hw:(w1.alloc (.cells #[] 3)).grownBy w2 (some g)) (hf:v2.ownBlock=some g∨v2.ownBlock=some (w1.alloc (.cells #[] 3)).heap.size):Upd p v v2 w1 w2:=by
 have hs:=hw.size
 simp only [World.size_alloc] at hs
 refine ⟨hw.os,hw.output,by omega,fun k hk _ _=>(hw.block k (by simp;omega) (by simp;omega)).trans (Below.heap_alloc _ _ _ hk),fun k hk=>.inr ?_⟩
 rcases hf with hf | hf <;> rw [hf] at hk <;> simp only [World.size_alloc,Option.some.injEq] at hk <;> omega
def Snk.fail (k:Snk) (L:List Int):Snk:={ k with app:=0,fails:=L }
set_option maxRecDepth 100000 in
set_option maxHeartbeats 1000000 in
theorem fail_go (B:Nat) (w:World) (p:Nat) (v:Value) (k:Snk) (vx:Value) (L:List Int) (h:SAt B 81 w p v k) (hB:B≤w.heap.size) (hL:L.length≤4294967296) (hI:ISl w vx L) (hne:0<L.length→vx.ownBlock≠some p) :
  Calls Tryz.prog 19 #[.pointer (some ⟨p,0,none⟩),vx] w (skEnd B 81 w p v (.tuple #[]) (k.fail L)):=by
 have h1:=h.c1
 have f1:=h.fz 1
 have H1:=hide (h.set1 (by decide) 0)
 have HI:=hide (hI.blocks (w':=w.setCell ⟨p,1,none⟩ (.int .i64 0)) (by simp) fun hp j hj=>heap_setCell_other _ _ _ _ fun e=>hne hp (by rw [hj,e]))
 have hB1:B≤(w.setCell ⟨p,1,none⟩ (.int .i64 0)).heap.size:=by simpa using hB
 have hvx:=hI.slice
 obtain ⟨xa,xn,xc,rfl⟩:=hvx
 clear h hI
 go_enter Tryz.func19,Tryz.ntmps19
 go_wp2_with (refine wpList_halt2 (.tmp 8) (.tmp 9) 38 rfl ?_)
 refine Stp.mk ?_
 have HWS:=hide (show (w.setCell ⟨p,1,none⟩ (.int .i64 0)).heap.size=w.heap.size from by simp)
 generalize w.setCell ⟨p,1,none⟩ (.int .i64 0)=w1 at H1 HI hB1 HWS ⊢
 have hw1:w1.heap.size=w.heap.size:=uh HWS
 have ho0:(w1.alloc (.cells #[] 3)).ownsRow B 3 1 (.slice (some ⟨w.heap.size,0,none⟩) 0 0) 0 [] :=
  ⟨rfl,.inr ⟨w.heap.size,0,#[],rfl,by omega,by rw [← hw1];exact heap_alloc_new _ _,Nat.le_refl _,by decide,rfl,rfl⟩⟩
 refine wpList_append_ints rfl (.tmp 8) (.tmp 9) rfl B (.slice (some ⟨w.heap.size,0,none⟩) 0 0) rfl ho0 _ L hL rfl ((uh HI).kept ((Kept.refl _ _).alloc (Nat.le_refl _) _)) (by simp;omega) ?_
 intro v2 w2 ho2 hg2 hf2
 have hu:=fail_upd (p:=p) (v:=v) hw1.symm hg2 hf2
 have hat:w2.heap[p]?=w1.heap[p]?:=(hg2.block p (by have:=(uh H1).1.lt;simp;omega) (by have:=(uh H1).1.lt;simp [Value.ownBlock];omega)).trans (Below.heap_alloc _ _ _ (uh H1).1.lt)
 have h3:=(uh H1).1.set2 (by decide) hat ho2 hu
 have hc2:w2.cell? ⟨p,2,none⟩=some v:=by rw [cell_of_row _ _ _ _ _ _ (hat.trans (uh H1).1.at')];rfl
 have hz2:w2.frozen? ⟨p,2,none⟩=false:=frozen_of_row _ _ _ _ _ (hat.trans (uh H1).1.at')
 obtain ⟨a2,c2,rfl,_,_⟩:=own_len ho2
 have H3:=hide (And.intro h3.1 ((uh H1).2.trans h3.2))
 clear h3 ho2 hg2 hf2 hu hat ho0
 simp only [zz0,zz1,zz2]
 go_wp2
 all_goals exact end0 Tryz.results19 rfl (skEnd_of rfl rfl (uh H3))
set_option maxRecDepth 100000 in
set_option maxHeartbeats 1000000 in
theorem fail_ref (B:Nat) (w:World) (p:Nat) (v:Value) (k:Snk) (vx:Value) (L:List Int) (h:SAt B 105 w p v k) (hB:B≤w.heap.size) (hL:L.length≤4294967296) (hI:ISl w vx L) (hne:0<L.length→vx.ownBlock≠some p) :
  Calls Tryz.prog 56 #[.pointer (some ⟨p,0,none⟩),vx] w (skEnd B 105 w p v (.tuple #[]) (k.fail L)):=by
 have h1:=h.c1
 have f1:=h.fz 1
 have hs1:=h.set1 (by decide) 0
 have c2:=hs1.1.c2
 have f2:=hs1.1.fz 2
 have hs2:=hs1.1.set2 (v':=.slice none 0 0) (l:=[]) (by decide) rfl (World.ownsRow_nil _ _ _ _) ⟨rfl,rfl,Nat.le_refl _,fun _ _ _ _=>rfl,fun k hk=>by simp [Value.ownBlock] at hk⟩
 have H2:=hide (And.intro hs2.1 (hs1.2.trans hs2.2))
 have c3:=hs2.1.c2
 have f3:=hs2.1.fz 2
 have HI:=hide (hI.blocks (w':=(w.setCell ⟨p,1,none⟩ (.int .i64 0)).setCell ⟨p,2,none⟩ (.slice none 0 0)) (by simp) fun hp j hj=>(heap_setCell_other _ _ _ _ fun e=>hne hp (by rw [hj,e])).trans (heap_setCell_other _ _ _ _ fun e=>hne hp (by rw [hj,e])))
 have hB1:B≤((w.setCell ⟨p,1,none⟩ (.int .i64 0)).setCell ⟨p,2,none⟩ (.slice none 0 0)).heap.size:=by simpa using hB
 have hvx:=hI.slice
 obtain ⟨xa,xn,xc,rfl⟩:=hvx
 clear h hI hs1 hs2
 go_enter Tryz.func56,Tryz.ntmps56
 go_wp2_with (refine wpList_halt2 (.tmp 14) (.tmp 15) 38 rfl ?_)
 refine Stp.mk ?_
 generalize (w.setCell ⟨p,1,none⟩ (.int .i64 0)).setCell ⟨p,2,none⟩ (.slice none 0 0)=w1 at H2 HI hB1 c3 f3 ⊢
 refine wpList_append_ints rfl (.tmp 14) (.tmp 15) rfl B (.slice none 0 0) rfl (World.ownsRow_nil _ _ _ _) _ L hL rfl (uh HI) hB1 ?_
 intro v2 w2 ho2 hg2 hf2
 have hu:Upd p (.slice none 0 0) v2 w1 w2:=⟨hg2.os,hg2.output,hg2.size,fun k hk _ hv=>hg2.block k hk fun e=>hv e.symm,fun k hk=>by
  rcases hf2 with e | e
  ·rw [e] at hk;exact .inl hk
  ·rw [e] at hk;simp only [Option.some.injEq] at hk;exact .inr (by omega)⟩
 have hat:w2.heap[p]?=w1.heap[p]?:=hg2.block p (uh H2).1.lt (by simp [Value.ownBlock])
 have h3:=(uh H2).1.set2 (by decide) hat ho2 hu
 have hc2:w2.cell? ⟨p,2,none⟩=some (.slice none 0 0):=by rw [cell_of_row _ _ _ _ _ _ (hat.trans (uh H2).1.at')];rfl
 have hz2:w2.frozen? ⟨p,2,none⟩=false:=frozen_of_row _ _ _ _ _ (hat.trans (uh H2).1.at')
 obtain ⟨a2,c2',rfl,_,_⟩:=own_len ho2
 have H3:=hide (And.intro h3.1 ((uh H2).2.trans h3.2))
 clear h3 ho2 hg2 hf2 hu hat
 simp only [zz0,zz1,zz2]
 go_wp2
 all_goals exact end0 Tryz.results56 rfl (skEnd_of rfl rfl (uh H3))
theorem make_ints (r:Nat) (E:Int) (hE:E=(r:Int)) (hr:8*r≤281474976710656) (w:World) :
  (Instr.makeSlice 38 (.int .i64 E) (.int .i64 E)).run Tryz.prog w=.ok (.slice (some ⟨w.heap.size,0,none⟩) r r) (w.alloc (.cells (List.replicate r (Value.int .i64 0)).toArray 3)):=by
 subst hE
 have:(List.replicate r (Value.int .i64 0)).toArray=madeCells #[.int .i64 0] r:=by
  apply Array.ext'
  rw [toList_madeCells_one]
 rw [this]
 exact run_make_row' 38 3 (.int .i64 0) 8 Tryz.underlying38 info3n rfl .i64 .i64 r (by omega) (by omega) w
def snk0:Snk:=⟨.empty,0,[]⟩
set_option maxRecDepth 100000 in
theorem new_sink_go (B:Nat) (w:World):Calls Tryz.prog 29 #[] w fun e w'=>e=.returned (.pointer (some ⟨w.heap.size,0,none⟩))∧SAt B 81 w' w.heap.size (.slice none 0 0) snk0∧Kept w.heap.size w w':=by
 go_enter Tryz.func29,Tryz.ntmps29
 go_wp2
 all_goals go_ret
 all_goals exact ⟨rfl,⟨heap_alloc_new _ _,World.ownsRow_nil _ _ _ _⟩,(Kept.refl _ _).alloc (Nat.le_refl _) _⟩
end Go.Proofs.YtlbacbcenejngaaGreatDoor
namespace Go.Proofs.YtlbacbcenejngaaGreatDoor
open Go.RowKit
def TyAt (w:World) (k:Nat) (t:TypeId):Prop:=∃ cs,w.heap[k]?=some (.cells cs t (0,0))
theorem TyAt.ne {w:World} {k k':Nat} {t t':TypeId} (h:TyAt w k t) (h':TyAt w k' t') (ht:t≠t'):k≠k':=by
 rintro rfl
 obtain ⟨c,hc⟩:=h
 obtain ⟨c',hc'⟩:=h'
 rw [hc] at hc'
 simp only [Option.some.injEq,Obj.cells.injEq] at hc'
 exact ht hc'.2.1
theorem TyAt.lt {w:World} {k:Nat} {t:TypeId} (h:TyAt w k t):k<w.heap.size:=by obtain ⟨c,hc⟩:=h;exact (Array.getElem?_eq_some_iff.1 hc).1
structure Loc (X:Type) where
 p:Nat
 v:Value
 x:X
structure Way {X:Type} (B TP TR:Nat) (P:X→World→Nat→Value→Prop):Prop where
 ty:∀ {x w p v},P x w p v→TyAt w p TP
 row:∀ {x w p v k},P x w p v→v.ownBlock=some k→TyAt w k TR∧B≤k
 big:∀ {x w p v},P x w p v→B≤p
 stay:∀ {x w w' p v},P x w p v→w'.heap[p]?=w.heap[p]?→(∀ k,v.ownBlock=some k→w'.heap[k]?=w.heap[k]?)→P x w' p v
 ne:TP≠TR
structure Fam {X:Type} (P:X→World→Nat→Value→Prop) (w:World) (l:List (Loc X)):Prop where
 each:∀ e∈l,P e.x w e.p e.v
 ne:l.Pairwise fun a b=>a.p≠b.p∧∀ k,a.v.ownBlock=some k→b.v.ownBlock≠some k
variable {X:Type} {P:X→World→Nat→Value→Prop} {B TP TR:Nat}
theorem Fam.frame {w w':World} {l:List (Loc X)} (hW:Way B TP TR P) (h:Fam P w l) (hp:∀ k,TyAt w k TP→(∃ e∈l,e.p=k)→w'.heap[k]?=w.heap[k]?) (hr:∀ k,TyAt w k TR→(∃ e∈l,e.v.ownBlock=some k)→w'.heap[k]?=w.heap[k]?):Fam P w' l :=
 ⟨fun e he=>hW.stay (h.each e he) (hp _ (hW.ty (h.each e he)) ⟨e,he,rfl⟩) fun k hk=>hr k (hW.row (h.each e he) hk).1 ⟨e,he,hk⟩,h.ne⟩
theorem Fam.kept {w w':World} {l:List (Loc X)} (hW:Way B TP TR P) (h:Fam P w l) (hk:Kept w.heap.size w w'):Fam P w' l :=
 h.frame hW (fun k ht _=>hk.block k ht.lt) fun k ht _=>hk.block k ht.lt
theorem mem_set {l:List (Loc X)} {i:Nat} {a e:Loc X} (h:e∈l.set i a):e=a∨∃ j,∃ hj:j<l.length,j≠i∧e=l[j]:=by
 obtain ⟨j,hj,rfl⟩:=List.getElem_of_mem h
 rw [List.length_set] at hj
 by_cases hji:i=j
 ·subst hji
  exact .inl (by simp)
 ·exact .inr ⟨j,hj,fun e=>hji e.symm,by rw [List.getElem_set_ne hji]⟩
theorem Fam.get_ne {w:World} {l:List (Loc X)} (h:Fam P w l) {i j:Nat} (hi:i<l.length) (hj:j<l.length) (hne:i≠j):l[i].p≠l[j].p∧∀ k,l[i].v.ownBlock=some k→l[j].v.ownBlock≠some k:=by
 have hp:=List.pairwise_iff_getElem.1 h.ne
 rcases Nat.lt_or_gt_of_ne hne with hlt | hlt
 ·exact hp i j hi hj hlt
 ·have:=hp j i hj hi hlt
  exact ⟨fun e=>this.1 e.symm,fun k h1 h2=>this.2 k h2 h1⟩
theorem Fam.upd {w w':World} {l:List (Loc X)} (hW:Way B TP TR P) (h:Fam P w l) {i:Nat} (hi:i<l.length) {v':Value} {x':X} (hP:P x' w' l[i].p v') (hu:Upd l[i].p l[i].v v' w w'):Fam P w' (l.set i ⟨l[i].p,v',x'⟩):=by
 have hei:=h.each _ (List.getElem_mem hi)
 have hnew:∀ j (hj:j<l.length),j≠i→∀ k,v'.ownBlock=some k→l[j].v.ownBlock≠some k:=fun j hj hji k hk e=>by
  rcases hu.new k hk with h1 | h1
  ·exact (h.get_ne hi hj (fun e=>hji e.symm)).2 k h1 e
  ·have:=(hW.row (h.each _ (List.getElem_mem hj)) e).1.lt;omega
 constructor
 ·intro e he
  rcases mem_set he with rfl | ⟨j,hj,hji,rfl⟩
  ·exact hP
  ·have hej:=h.each _ (List.getElem_mem hj)
   have hne:=h.get_ne hj hi hji
   exact hW.stay hej (hu.block _ (hW.ty hej).lt hne.1 fun e=>(hW.ty hej).ne (hW.row hei e).1 hW.ne rfl)
    fun k hk=>hu.block k (hW.row hej hk).1.lt (fun e=>by subst e;exact (hW.ty hei).ne (hW.row hej hk).1 hW.ne rfl) fun e=>hne.2 k hk e
 ·rw [List.pairwise_iff_getElem]
  intro a b ha hb hab
  rw [List.length_set] at ha hb
  by_cases hai:i=a
  ·subst hai
   have hne:=h.get_ne ha hb (by omega)
   rw [List.getElem_set_self,List.getElem_set_ne (by omega)]
   exact ⟨hne.1,fun k hk=>hnew b hb (by omega) k hk⟩
  ·by_cases hbi:i=b
   ·subst hbi
    have hne:=h.get_ne ha hb (by omega)
    rw [List.getElem_set_self,List.getElem_set_ne hai]
    exact ⟨hne.1,fun k h1 h2=>hnew a ha (by omega) k h2 h1⟩
   ·rw [List.getElem_set_ne hai,List.getElem_set_ne hbi]
    exact h.get_ne ha hb (by omega)
theorem Fam.nil {w:World}:Fam P w ([]:List (Loc X)):=⟨by simp,List.Pairwise.nil⟩
def PS (B TD:Nat) (k:Snk) (w:World) (p:Nat) (v:Value):Prop:=SAt B TD w p v k∧B≤p
theorem wayS (B TD:Nat) (ht:TD≠3):Way B TD 3 (PS B TD) :=
 ⟨fun h=>⟨_,h.1.at'⟩,fun h hk=>⟨own_ty h.1.own hk,(h.1.own.lt _ hk).1⟩,fun h=>h.2,fun h h1 h2=>⟨⟨h1.trans h.1.at',own_blocks h.1.own h2⟩,h.2⟩,ht⟩
theorem Upd.keptB {p:Nat} {v v':Value} {w w':World} (h:Upd p v v' w w') (hs:B≤w.heap.size) (hp:B≤p) (hv:∀ k,v.ownBlock=some k→B≤k):Kept B w w' :=
 ⟨h.os,h.output,h.size,fun k hk=>h.block k (by omega) (by omega) fun e=>by have:=hv k e;omega⟩
end Go.Proofs.YtlbacbcenejngaaGreatDoor
