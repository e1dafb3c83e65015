/-
  Own
-/
import Derived.Test.YtlbacbcenejngaaGreatDoorV06
import Derived.Test.YtlbacbcenejngaaGreatDoorProg
import Derived.WalkKit
import Derived.WalkSpells
import Derived.WalkLawsBesides
import Derived.Deep.RegionLaw
namespace Go.Proofs.YtlbacbcenejngaaGreatDoor
open Go.RowKit
open Sha (R)
abbrev i64s (L:List Int):List Value:=L.map (Value.int .i64)
abbrev u8s (L:List UInt8):List Value:=L.map fun c=>Value.int .u8 (c.toNat:Int)
theorem info3:(Tryz.prog.info? 3).map (fun i=>(i.zero,i.size,i.bytes))=some (some (.int .i64 0),1,8):=by kernel_rfl
theorem info5':(Tryz.prog.info? 5).map (fun i=>(i.zero,i.size,i.bytes))=some (some (.int .u8 0),1,1):=by kernel_rfl
theorem step_append_own {P:Program} {ops:Array Oper} {o:Oper} {a:Act} {w:World} {K:Act→World→Prop} {Q:Exit→Act→World→Prop} {E:Prop}
  (hgd:o.guard=none) (s x:Operand) (t:TypeId)
  (ho:o.op=.call { callee:=.builtin .append,args:=#[s,x],argTypes:=#[t,t] })
  (base:Nat) (e:TypeId) (i:TypeInfo) (z:Value) (size bytes:Nat) (ht:P.underlying t=some (.slice e)) (hi:P.info? e=some i) (hz:i.zero=some z)
  (hsize:i.size=size) (hby:i.bytes=bytes) (hzs:z.cells.size=size) (hsz:0<size)
  (v:Value) (n:Nat) (xs:List Value) (hs:a.eval s=v) (hown:w.ownsRow base e size v n xs)
  (ad:Addr) (m c:Nat) (news:List Value) (hx:a.eval x=.slice (some ad) m c) (hl:news.length=m*size) (hnews:∀ j u,news[j]?=some u→w.cell? (ad.add j)=some u) (h1:∀ u∈news,u.oneCell'=true)
  (h63:n+m≤maxLen) (hbytes:(n+m)*bytes≤140737488355328) (hbase:base≤w.heap.size)
  (h:∀ v' w',w'.ownsRow base e size v' (n+m) (xs++news)→w.grownBy w' v.ownBlock→(v'=.slice none 0 0↔v=.slice none 0 0∧m=0)→K (a.put o.dst v') w') :
  if Region.wanted o (yielded ops a.tmps)=true then Oper.wp P o a w K Q else E:=by
 have hw:Region.wanted o (yielded ops a.tmps)=true:=by simp [Region.wanted,hgd]
 rw [if_pos hw]
 exact wp_append_own w s x t ho base e i z size bytes ht hi hz hsize hby hzs hsz v n xs hs hown ad m c news hx hl hnews h1 h63 hbytes hbase h
theorem own_form {w:World} {B:Nat} {e:TypeId} {v:Value} {n:Nat} {xs:List Value} (h:w.ownsRow B e 1 v n xs) (hn:0<n) :
  ∃ g cap,v=.slice (some ⟨g,0,none⟩) n cap∧B≤g∧g<w.heap.size∧(∀ j,j<n→w.cell? ⟨g,j,none⟩=xs[j]?):=by
 obtain ⟨h1,h2⟩:=h
 rcases h2 with ⟨rfl,h3⟩ | ⟨g,cap,cur,rfl,hg,hh,hle,hm,hs,ht⟩
 ·omega
 ·refine ⟨g,cap,rfl,hg,?_,?_⟩
  ·rcases Nat.lt_or_ge g w.heap.size with h | h
   ·exact h
   ·rw [Array.getElem?_eq_none h] at hh;cases hh
  ·intro j hj
   rw [cell_of_row _ _ _ _ _ _ hh,← ht,List.getElem?_take,if_pos (by omega)]
   simp
theorem own_int {w:World} {B:Nat} {v:Value} {n:Nat} {L:List Int} (h:w.ownsRow B 3 1 v n (i64s L)) (hn:0<n) (hl:L.length=n) :
  ∃ g cap,v=.slice (some ⟨g,0,none⟩) n cap∧B≤g∧g<w.heap.size∧(∀ j,j<n→w.cell? ⟨g,j,none⟩=some (.int .i64 (L.getD j 0))):=by
 obtain ⟨g,cap,h1,h2,h3,h4⟩:=own_form h hn
 refine ⟨g,cap,h1,h2,h3,fun j hj=>?_⟩
 rw [h4 j hj,List.getElem?_map,List.getD_eq_getElem?_getD,List.getElem?_eq_getElem (by omega)]
 rfl
theorem own_new (w:World) (B:Nat) (e:TypeId) (xs:List Value) (n:Nat) (hn:xs.length=n) (hB:B≤w.heap.size) (hm:n≤maxLen) :
  (w.alloc (.cells xs.toArray e)).ownsRow B e 1 (.slice (some ⟨w.heap.size,0,none⟩) n n) n xs :=
 ⟨by omega,Or.inr ⟨w.heap.size,n,xs.toArray,rfl,hB,heap_alloc_new _ _,Nat.le_refl _,hm,by simp;omega,by rw [Nat.mul_one,← hn];simp⟩⟩
theorem own_any {w w':World} {B:Nat} {e:TypeId} {v:Value} {n:Nat} {xs:List Value} (h:w.ownsRow B e 1 v n xs) (hh:w'.heap=w.heap):w'.ownsRow B e 1 v n xs:=by
 unfold World.ownsRow at *;rw [hh];exact h
theorem cell_one_any {W W0:World} {v:Value} {t:TypeId} (hh:W.heap=(W0.alloc (.cells #[v] t)).heap):∀ j u,[v][j]?=some u→W.cell? ((⟨W0.heap.size,0,none⟩:Addr).add j)=some u:=by
 intro j u hu
 have:=cell_one_new W0 v t j u hu
 rw [← this]
 exact World.cell?_of_block (by rw [hh])
theorem mem_one {v:Value} (h:v.oneCell'=true):∀ u∈[v],u.oneCell'=true:=by
 intro u hu;simp at hu;subst hu;exact h
theorem grown_below {B:Nat} {a w w':World} {B':Nat} {e:TypeId} {v:Value} {n:Nat} {xs:List Value} (h:Below B a w) (ho:w.ownsRow B' e 1 v n xs) (hB:B≤B') (hg:w.grownBy w' v.ownBlock) (hs:B≤w.heap.size):Below B a w':=by
 refine h.grown hg hs fun k hk=>?_
 rcases ho.2 with ⟨rfl,_⟩ | ⟨g,cap,cur,rfl,hg2,_⟩
 ·simp [Value.ownBlock] at hk
 ·simp [Value.ownBlock] at hk;omega
theorem own_base {w:World} {B B':Nat} {e:TypeId} {v:Value} {n:Nat} {xs:List Value} (h:w.ownsRow B e 1 v n xs) (hB:B'≤B):w.ownsRow B' e 1 v n xs:=by
 obtain ⟨h1,h2⟩:=h
 refine ⟨h1,?_⟩
 rcases h2 with h | ⟨g,cap,cur,hv,hg,r⟩
 ·exact Or.inl h
 ·exact Or.inr ⟨g,cap,cur,hv,by omega,r⟩
theorem add_addr (g o j:Nat):(⟨g,o,none⟩:Addr).add j=⟨g,o+j,none⟩:=by unfold Addr.add;split <;> simp_all
theorem mem_ints (L:List Int):∀ u∈i64s L,u.oneCell'=true:=by
 intro u hu
 simp only [i64s,List.mem_map] at hu
 obtain ⟨x,_,rfl⟩:=hu
 rfl
def Holds8 (w:World) (g o:Nat) (S:Sha.St):Prop:=∀ i,i<8→w.cell? ⟨g,o+i,none⟩=some (.int .i64 (S.toList.getD i 0))
theorem Holds8.below {w w':World} {g o B:Nat} {S:Sha.St} (h:Holds8 w g o S) (hb:Below B w w') (hg:g<B):Holds8 w' g o S:=fun i hi=>(hb.cell (p:=⟨g,o+i,none⟩) hg).trans (h i hi)
theorem Holds8.news {w:World} {g o:Nat} {S:Sha.St} (h:Holds8 w g o S):∀ j u,(i64s S.toList)[j]?=some u→w.cell? ((⟨g,o,none⟩:Addr).add j)=some u:=by
 intro j u hu
 rw [add_addr]
 have hj:j<8:=by
  rcases Nat.lt_or_ge j 8 with h | h
  ·exact h
  ·rw [List.getElem?_eq_none (by simp [Sha.St.toList];omega)] at hu;cases hu
 rw [h j hj,← hu,List.getElem?_map,List.getD_eq_getElem?_getD,List.getElem?_eq_getElem (by simp [Sha.St.toList];omega)]
 rfl
theorem own_holds {w:World} {B:Nat} {v:Value} {S:Sha.St} (h:w.ownsRow B 3 1 v 8 (i64s S.toList)):∃ g cap,v=.slice (some ⟨g,0,none⟩) 8 cap∧B≤g∧g<w.heap.size∧Holds8 w g 0 S:=by
 obtain ⟨g,cap,h1,h2,h3,h4⟩:=own_int h (by decide) rfl
 exact ⟨g,cap,h1,h2,h3,fun i hi=>by rw [Nat.zero_add];exact h4 i hi⟩
theorem grown_same {w w':World} {B:Nat} (hg:w.grownBy w' none) (hB:B≤w.heap.size):Below B w w':=⟨hg.os,hg.tape,hg.output,hg.size,fun k hk=>hg.block k (by omega) (by simp)⟩
theorem holds_row {w:World} {g:Nat} {T:Sha.St} {t:TypeId} (h:w.heap[g]?=some (.cells (i64s T.toList).toArray t (0,0))):Holds8 w g 0 T:=by
 intro i hi
 rw [Nat.zero_add,cell_of_row _ _ _ _ _ _ h,List.getElem?_toArray,List.getElem?_map,List.getD_eq_getElem?_getD,List.getElem?_eq_getElem (by simp [Sha.St.toList];omega)]
 rfl
theorem sum_get (S T:Sha.St) {i:Nat} (h:i<8):(Sha.sum S T).toList.getD i 0=(S.toList.getD i 0+T.toList.getD i 0) % 4294967296:=by
 rcases (show i=0∨i=1∨i=2∨i=3∨i=4∨i=5∨i=6∨i=7 by omega) with rfl | rfl | rfl | rfl | rfl | rfl | rfl | rfl <;> rfl
theorem take_next {L:List Int} {k:Nat} (h:k<L.length):L.take (k+1)=L.take k++[L.getD k 0]:=by
 rw [List.take_succ_eq_append_getElem h,List.getD_eq_getElem?_getD,List.getElem?_eq_getElem h];rfl
theorem st_R {S:Sha.St} (h:S.Ok) (k:Nat):R (S.toList.getD k 0):=by
 refine Sha.getD_R (fun x hx=>?_) k
 simp only [Sha.St.toList,List.mem_cons,List.not_mem_nil,or_false] at hx
 rcases hx with rfl | rfl | rfl | rfl | rfl | rfl | rfl | rfl <;> first | exact h.a | exact h.b | exact h.c | exact h.d | exact h.e | exact h.f | exact h.g | exact h.h
theorem grown_any {B:Nat} {a w w':World} {e:TypeId} {v:Value} {n:Nat} {xs:List Value} (hg:w.grownBy w' v.ownBlock) (h:Below B a w) (ho:w.ownsRow B e 1 v n xs) (hs:B≤w.heap.size):Below B a w':=grown_below h ho (Nat.le_refl _) hg hs
end Go.Proofs.YtlbacbcenejngaaGreatDoor
