/-
  Same Mark Keep Looks Dk Dstep Dread
-/
import Derived.Test.YtlbacbcenejngaaGreatDoorV25
import Derived.Test.YtlbacbcenejngaaGreatDoorV22
import Derived.Laws.ResultCell
import Derived.BigQuiet
namespace Go.Proofs.YtlbacbcenejngaaGreatDoor
open Go.RowKit
set_option maxRecDepth 100000 in
set_option maxHeartbeats 1000000 in
theorem lawpick_go (c:Int) (n:Nat) (w:World) (h0:-9223372036854775808≤c) (h1:c≤9223372036854775807) (hn:0<n) (hm:n≤140737488355328) :
  Calls Tryz.prog 52 #[.int .i64 c,.int .i64 n] w fun e w'=>(∃ k:Nat,k<n∧e=.returned (.int .i64 k))∧w'=w:=by
 have hn0:(n:Int)≠0:=by omega
 have hmod:∀ x:Int,0≤x→∃ r:Nat,r<n∧x.tmod (n:Int)=(r:Int):=fun x hx=>by
  refine ⟨(x % n).toNat,?_,?_⟩
  ·have:=Int.emod_lt_of_pos x (show (0:Int)<n by omega)
   have:=Int.emod_nonneg x hn0
   omega
  ·rw [Int.tmod_eq_emod_of_nonneg hx,Int.toNat_of_nonneg (Int.emod_nonneg _ hn0)]
 by_cases hc:c<0
 ·obtain ⟨r,hr,ht⟩:=hmod (-(c+1)) (by omega)
  clear hmod
  go_enter Tryz.func52,Tryz.ntmps52
  go_wp2_with fail
  go_ret
  exact ⟨⟨r,hr,rfl⟩,rfl⟩
 ·obtain ⟨r,hr,ht⟩:=hmod c (by omega)
  clear hmod
  go_enter Tryz.func52,Tryz.ntmps52
  go_wp2_with fail
  go_ret
  exact ⟨⟨r,hr,rfl⟩,rfl⟩
theorem num_go (x:Int) (w:World):Calls Tryz.prog 82 #[.int .i64 x] w fun e w'=>e=.returned (.int .i64 x)∧w'=w:=by
 go_enter Tryz.func82,Tryz.ntmps82
 go_wp2_with fail
 go_ret
 exact ⟨rfl,rfl⟩
end Go.Proofs.YtlbacbcenejngaaGreatDoor
namespace Go.Proofs.YtlbacbcenejngaaGreatDoor
open Go.RowKit
theorem fold_off (off:Nat) (l:List Value):∀ (k:Nat) (a:Array Value),off+k+l.length≤a.size→((l.zipIdx k).foldl (fun cs x=>cs.setIfInBounds (off+x.2) x.1) a)=(a.toList.take (off+k)++l++a.toList.drop (off+k+l.length)).toArray:=by
 induction l with
 | nil =>
  intro k a h
  simp
 | cons v r ih =>
  intro k a h
  simp only [List.length_cons] at h
  rw [List.zipIdx_cons,List.foldl_cons,ih (k+1) _ (by simp;omega)]
  congr 1
  simp only [Array.toList_setIfInBounds,List.length_cons]
  rw [show off+(k+1)=(off+k)+1 by omega,List.take_succ_eq_append_getElem (by simp;omega),List.take_set_of_le (Nat.le_refl _),List.getElem_set_self,List.drop_set_of_lt (by omega)]
  simp only [List.append_assoc,List.singleton_append]
  congr 3
  omega
theorem run_append_fresh {P:Program} (w:World) (base:Nat) (t ty e:TypeId) (i:TypeInfo) (z:Value) (size bytes:Nat) (ht:P.underlying t=some (.slice e)) (hi:P.info? e=some i) (hz:i.zero=some z)
  (hsize:i.size=size) (hby:i.bytes=bytes) (hzs:z.cells.size=size) (hsz:0<size)
  (v:Value) (n:Nat) (xs:List Value) (hown:w.ownsRow base e size v n xs)
  (a:Addr) (m c:Nat) (news:List Value) (hl:news.length=m*size) (hnews:∀ j u,news[j]?=some u→w.cell? (a.add j)=some u) (h1:∀ u∈news,u.oneCell'=true) (hm:0<m)
  (h63:n+m≤maxLen) (hbytes:(n+m)*bytes≤140737488355328) (hbase:base≤w.heap.size) :
  ∃ v' w',(Builtin.append_ #[t,t] ty #[v,.slice (some a) m c]).run P w=.ok v' w'∧w'.ownsRow base e size v' (n+m) (xs++news)∧w.grownBy w' v.ownBlock ∧
   (v'.ownBlock=v.ownBlock∨v'.ownBlock=some w.heap.size):=by
 obtain ⟨v',w',hr,ho,hg,_⟩:=run_append_own (P:=P) w base t ty e i z size bytes ht hi hz hsize hby hzs hsz v n xs hown a m c news hl hnews h1 h63 hbytes hbase
 refine ⟨v',w',hr,ho,hg,?_⟩
 have hmx:n+m≤9223372036854775807:=by simp only [maxLen] at h63;omega
 rcases hown.2 with ⟨rfl,rfl⟩ | ⟨g,cap,cur,rfl,hb,hgg,hkc,hcm,hcs,htake⟩
 ·have hr2:=run_append_nil (P:=P) w t ty e i z ht hi hz a m c news (by rw [hl,hsize]) hnews hm (by omega) (by rw [hby];rw [Nat.zero_add] at hbytes;omega)
  rw [hr2] at hr
  injection hr with hv _
  subst hv
  exact Or.inr rfl
 ·by_cases hroom:n+m≤cap
  ·have hr2:=run_append_room (P:=P) w t ty e i ht hi g n cap cur hgg a m c news (by rw [hl,hsize]) hnews h1 hroom (by rw [hl,hsize,hcs,← Nat.add_mul];exact Nat.mul_le_mul_right _ hroom)
   rw [hr2] at hr
   injection hr with hv _
   subst hv
   exact Or.inl rfl
  ·have hr2:=run_append_grow (P:=P) w t ty e i z ht hi hz ⟨g,0,none⟩ n cap xs (by rw [hown.1,hsize]) (hown.cells (g:=g) rfl) a m c news (by rw [hl,hsize]) hnews (by omega) (by omega) (growslice_fits (by omega) (by rw [hby];exact hbytes))
   rw [hr2] at hr
   injection hr with hv _
   subst hv
   exact Or.inr rfl
theorem wp_append_fresh {P:Program} {w:World} {o:Oper} {act:Act} {K:Act→World→Prop} {Q:Exit→Act→World→Prop} (s x:Operand) (t:TypeId)
  (ho:o.op=.call { callee:=.builtin .append,args:=#[s,x],argTypes:=#[t,t] }) (base:Nat) (e:TypeId) (i:TypeInfo) (z:Value) (size bytes:Nat) (ht:P.underlying t=some (.slice e)) (hi:P.info? e=some i) (hz:i.zero=some z)
  (hsize:i.size=size) (hby:i.bytes=bytes) (hzs:z.cells.size=size) (hsz:0<size)
  (v:Value) (n:Nat) (xs:List Value) (hs:act.eval s=v) (hown:w.ownsRow base e size v n xs)
  (a:Addr) (m c:Nat) (news:List Value) (hx:act.eval x=.slice (some a) m c) (hl:news.length=m*size) (hnews:∀ j u,news[j]?=some u→w.cell? (a.add j)=some u) (h1:∀ u∈news,u.oneCell'=true) (hm:0<m)
  (h63:n+m≤maxLen) (hbytes:(n+m)*bytes≤140737488355328) (hbase:base≤w.heap.size)
  (h:∀ v' w',w'.ownsRow base e size v' (n+m) (xs++news)→w.grownBy w' v.ownBlock→(v'.ownBlock=v.ownBlock∨v'.ownBlock=some w.heap.size)→K (act.put o.dst v') w'):o.wp P act w K Q:=by
 obtain ⟨v',w',hr,h2,h3,h4⟩:=run_append_fresh (P:=P) w base t o.type e i z size bytes ht hi hz hsize hby hzs hsz v n xs hown a m c news hl hnews h1 hm h63 hbytes hbase
 unfold Oper.wp
 simp [execOp,ho,resolve,invoke,builtin,hs,hx,hr,Result.andThen]
 exact h v' w' h2 h3 h4
end Go.Proofs.YtlbacbcenejngaaGreatDoor
namespace Go.Proofs.YtlbacbcenejngaaGreatDoor
open Go.RowKit
theorem own_blocks {w w':World} {B:Nat} {e:TypeId} {z:Nat} {v:Value} {n:Nat} {xs:List Value} (h:w.ownsRow B e z v n xs) (hb:∀ k,v.ownBlock=some k→w'.heap[k]?=w.heap[k]?):w'.ownsRow B e z v n xs:=by
 refine ⟨h.1,h.2.imp id ?_⟩
 rintro ⟨g,cap,cur,rfl,h2,h3,r⟩
 exact ⟨g,cap,cur,rfl,h2,(hb g rfl).trans h3,r⟩
theorem own_len {w:World} {B:Nat} {e:TypeId} {z:Nat} {v:Value} {n:Nat} {xs:List Value} (h:w.ownsRow B e z v n xs):∃ ao cap,v=.slice ao n cap∧n≤cap∧(0<n→∃ g,ao=some ⟨g,0,none⟩):=by
 rcases h.2 with ⟨rfl,rfl⟩ | ⟨g,cap,cur,rfl,_,_,hc,_⟩
 ·exact ⟨none,0,rfl,Nat.le_refl _,fun h=>absurd h (by omega)⟩
 ·exact ⟨_,cap,rfl,hc,fun _=>⟨g,rfl⟩⟩
structure Stp (p:Prop):Prop where
 out:p
theorem own_ty {w:World} {B:Nat} {e:TypeId} {z:Nat} {v:Value} {n:Nat} {xs:List Value} (h:w.ownsRow B e z v n xs) {k:Nat} (hk:v.ownBlock=some k):∃ cur,w.heap[k]?=some (.cells cur e (0,0)):=by
 rcases h.2 with ⟨rfl,_⟩ | ⟨g,cap,cur,rfl,_,hg,_⟩
 ·simp [Value.ownBlock] at hk
 ·simp [Value.ownBlock] at hk
  subst hk
  exact ⟨cur,hg⟩
theorem own_ne_at {w:World} {B:Nat} {e e':TypeId} {z:Nat} {v:Value} {n:Nat} {xs:List Value} {cs:Array Value} {fr:Nat × Nat} {g:Nat} (h:w.ownsRow B e z v n xs) (hg:w.heap[g]?=some (.cells cs e' fr)) (he:e≠e'):v.ownBlock≠some g:=by
 intro hk
 obtain ⟨c1,h1⟩:=own_ty h hk
 rw [h1] at hg
 simp only [Option.some.injEq,Obj.cells.injEq] at hg
 exact he hg.2.1
theorem news_any {W W0:World} {L:List Value} {t:TypeId} (hh:W.heap=(W0.alloc (.cells L.toArray t)).heap):∀ q u,L[q]?=some u→W.cell? ((⟨W0.heap.size,0,none⟩:Addr).add q)=some u:=by
 intro q u hu
 rw [add_addr,Nat.zero_add]
 have:W.heap[W0.heap.size]?=some (.cells L.toArray t (0,0)):=by rw [hh];exact heap_alloc_new _ _
 rw [cell_of_row _ _ _ _ _ _ this,List.getElem?_toArray]
 exact hu
theorem end0 {P:Program} {fn:Func} {R:Ending→World→Prop} {a:Act} {w:World} (hr:fn.results=#[]) (hd:a.defers=[]) (hR:R (.returned (.tuple #[])) w):bodyPost P fn R .normal a w:=bodyPost_end (results_none hr _ _ _) hd hR
theorem ite_wanted {c:Bool} {p q:Prop} (h:c=true) (hp:p):if c=true then p else q:=by rw [if_pos h];exact hp
theorem wpList_halt2 {P:Program} {w:World} {ops:Array Oper} {rest:List Oper} {o:Oper} {act:Act} {Q:Exit→Act→World→Prop} (s x:Operand) (t:TypeId) (_ho:o.op=.call { callee:=.builtin .append,args:=#[s,x],argTypes:=#[t,t] }) (h:Stp (wpList P ops Q (o::rest) act w)):wpList P ops Q (o::rest) act w:=h.out
end Go.Proofs.YtlbacbcenejngaaGreatDoor
namespace Go.Proofs.YtlbacbcenejngaaGreatDoor
open Go.RowKit
theorem own_cell {w:World} {B:Nat} {e:TypeId} {v:Value} {n:Nat} {xs:List Value} {k:Nat} (h:w.ownsRow B e 1 v n xs) (hk:k<n):∃ g cap,v=.slice (some ⟨g,0,none⟩) n cap∧w.cell? ⟨g,k,none⟩=some (xs.getD k undef):=by
 obtain ⟨g,cap,rfl⟩:=own_slice h (by omega)
 refine ⟨g,cap,rfl,?_⟩
 rw [h.cellAt k (by omega),List.getD_eq_getElem?_getD,List.getElem?_eq_getElem (by have:=h.1;omega)]
 rfl
end Go.Proofs.YtlbacbcenejngaaGreatDoor
namespace Go.Proofs.YtlbacbcenejngaaGreatDoor
open Go.RowKit
structure Fl where
 name:ByteArray
 data:ByteArray
 safe:Nat
structure Dsk where
 files:List Fl
 left:Int
 down:Bool
def Fl.cells (f:Fl):List Value:=[.string f.name,.string f.data,.int .i64 (f.safe:Int)]
def fcells:List Fl→List Value
 | []=>[]
 | f::l=>f.cells++fcells l
theorem fcells_len:∀ l:List Fl,(fcells l).length=l.length*3
 | []=>rfl
 | f::l=>by rw [fcells,List.length_append,fcells_len l,List.length_cons];simp [Fl.cells];omega
theorem fcells_app:∀ l m:List Fl,fcells (l++m)=fcells l++fcells m
 | [],_=>rfl
 | f::l,m=>by rw [List.cons_append,fcells,fcells,fcells_app l m,List.append_assoc]
def fl0:Fl:=⟨.empty,.empty,0⟩
theorem fcells_at:∀ (l:List Fl) (k j:Nat),k<l.length→j<3→(fcells l)[k*3+j]?=(l.getD k fl0).cells[j]?
 | [],k,j,h,_=>by simp at h
 | f::l,0,j,_,hj=>by
  rw [fcells,Nat.zero_mul,Nat.zero_add,List.getElem?_append_left (by simpa [Fl.cells] using hj)]
  rfl
 | f::l,k+1,j,h,hj=>by
  rw [fcells,List.getElem?_append_right (by simp [Fl.cells];omega),show (k+1)*3+j-f.cells.length=k*3+j by simp [Fl.cells];omega,fcells_at l k j (by simpa using h) hj]
  simp
theorem fcells_set:∀ (l:List Fl) (k j:Nat) (u:Value),k<l.length→j<3→∀ f':Fl,f'.cells=(l.getD k fl0).cells.set j u→(fcells l).set (k*3+j) u=fcells (l.set k f')
 | [],k,j,u,h,_,_,_=>by simp at h
 | f::l,0,j,u,_,hj,f',hf=>by
  rw [fcells,Nat.zero_mul,Nat.zero_add,List.set_append_left _ _ (by simpa [Fl.cells] using hj),List.set_cons_zero,fcells,hf]
  rfl
 | f::l,k+1,j,u,h,hj,f',hf=>by
  rw [fcells,List.set_append_right _ _ (by simp [Fl.cells];omega),show (k+1)*3+j-f.cells.length=k*3+j by simp [Fl.cells];omega,List.set_cons_succ,fcells,fcells_set l k j u (by simpa using h) hj f' (by simpa using hf)]
def findF (n:ByteArray):List Fl→Nat→Int
 | [],_=>-1
 | f::l,k=>if f.name=n then k else findF n l (k+1)
theorem findF_none (n:ByteArray):∀ (l:List Fl) (k:Nat),(∀ f∈l,f.name≠n)→findF n l k=-1
 | [],_,_=>rfl
 | f::l,k,h=>by rw [findF,if_neg (h f (List.mem_cons_self ..)),findF_none n l (k+1) fun g hg=>h g (List.mem_cons_of_mem _ hg)]
theorem findF_at (n:ByteArray):∀ (l:List Fl) (k i:Nat),i<l.length→(l.getD i fl0).name=n→(∀ j,j<i→(l.getD j fl0).name≠n)→findF n l k=((k+i:Nat):Int)
 | [],_,i,h,_,_=>by simp at h
 | f::l,k,0,_,hn,_=>by rw [findF,if_pos (by simpa using hn)];simp
 | f::l,k,i+1,h,hn,hb=>by
  rw [findF,if_neg (by have:=hb 0 (by omega);simpa using this),findF_at n l (k+1) i (by simpa using h) (by simpa using hn) fun j hj=>by have:=hb (j+1) (by omega);simpa using this]
  omega
theorem findF_cases (n:ByteArray):∀ (l:List Fl) (k:Nat),(findF n l k=-1∧∀ f∈l,f.name≠n)∨∃ i,i<l.length∧findF n l k=((k+i:Nat):Int)∧(l.getD i fl0).name=n
 | [],_=>.inl ⟨rfl,by simp⟩
 | f::l,k=>by
  by_cases h:f.name=n
  ·exact .inr ⟨0,by simp,by rw [findF,if_pos h];simp,by simpa using h⟩
  ·rcases findF_cases n l (k+1) with ⟨h1,h2⟩ | ⟨i,h1,h2,h3⟩
   ·refine .inl ⟨by rw [findF,if_neg h,h1],fun g hg=>?_⟩
    rcases List.mem_cons.1 hg with rfl | hg
    ·exact h
    ·exact h2 g hg
   ·exact .inr ⟨i+1,by simpa using h1,by rw [findF,if_neg h,h2];omega,by simpa using h3⟩
def Dsk.stopped (d:Dsk):Bool:=d.down||decide (d.left=0)
def Dsk.stepd (d:Dsk):Dsk:=if d.stopped then { d with down:=true } else { d with left:=if d.left>0 then d.left-1 else d.left }
structure DAt (B TD TF:Nat) (w:World) (p:Nat) (v:Value) (d:Dsk):Prop where
 at':w.heap[p]?=some (.cells #[v,.int .i64 d.left,.bool d.down] TD (0,0))
 own:w.ownsRow B TF 3 v d.files.length (fcells d.files)
structure Upd (p:Nat) (v v':Value) (w w':World):Prop where
 os:w'.os=w.os
 output:w'.output=w.output
 size:w.heap.size≤w'.heap.size
 block:∀ k,k<w.heap.size→k≠p→v.ownBlock≠some k→w'.heap[k]?=w.heap[k]?
 new:∀ k,v'.ownBlock=some k→v.ownBlock=some k∨w.heap.size≤k
theorem Upd.refl (p:Nat) (v:Value) (w:World):Upd p v v w w:=⟨rfl,rfl,Nat.le_refl _,fun _ _ _ _=>rfl,fun _ h=>.inl h⟩
theorem Upd.trans {p:Nat} {v v' v'':Value} {w w' w'':World} (h:Upd p v v' w w') (h':Upd p v' v'' w' w''):Upd p v v'' w w'' :=
 ⟨h'.os.trans h.os,h'.output.trans h.output,Nat.le_trans h.size h'.size,
  fun k hk hp hv=>(h'.block k (Nat.lt_of_lt_of_le hk h.size) hp fun e=>(h.new k e).elim hv (by omega)).trans (h.block k hk hp hv),
  fun k hk=>(h'.new k hk).elim (fun e=>h.new k e) fun e=>.inr (Nat.le_trans h.size e)⟩
theorem Upd.of_kept {p:Nat} {v:Value} {w w':World} (h:Kept w.heap.size w w'):Upd p v v w w' :=
 ⟨h.os,h.output,h.size,fun k hk _ _=>h.block k hk,fun _ h=>.inl h⟩
theorem DAt.kept {B TD TF:Nat} {w w':World} {p:Nat} {v:Value} {d:Dsk} (h:DAt B TD TF w p v d) (hk:Kept w.heap.size w w'):DAt B TD TF w' p v d :=
 ⟨(hk.block _ (Array.getElem?_eq_some_iff.1 h.at').1).trans h.at',own_kept h.own hk⟩
theorem DAt.lt {B TD TF:Nat} {w:World} {p:Nat} {v:Value} {d:Dsk} (h:DAt B TD TF w p v d):p<w.heap.size:=(Array.getElem?_eq_some_iff.1 h.at').1
theorem DAt.apart {B TD TF:Nat} {w:World} {p:Nat} {v:Value} {d:Dsk} (h:DAt B TD TF w p v d) (ht:TF≠TD):v.ownBlock≠some p:=own_ne_at h.own h.at' ht
theorem DAt.c0 {B TD TF:Nat} {w:World} {p:Nat} {v:Value} {d:Dsk} (h:DAt B TD TF w p v d):w.cell? ⟨p,0,none⟩=some v:=by rw [cell_of_row _ _ _ _ _ _ h.at'];rfl
theorem DAt.c1 {B TD TF:Nat} {w:World} {p:Nat} {v:Value} {d:Dsk} (h:DAt B TD TF w p v d):w.cell? ⟨p,1,none⟩=some (.int .i64 d.left):=by rw [cell_of_row _ _ _ _ _ _ h.at'];rfl
theorem DAt.c2 {B TD TF:Nat} {w:World} {p:Nat} {v:Value} {d:Dsk} (h:DAt B TD TF w p v d):w.cell? ⟨p,2,none⟩=some (.bool d.down):=by rw [cell_of_row _ _ _ _ _ _ h.at'];rfl
theorem DAt.fz {B TD TF:Nat} {w:World} {p:Nat} {v:Value} {d:Dsk} (h:DAt B TD TF w p v d) (j:Nat):w.frozen? ⟨p,j,none⟩=false:=frozen_of_row _ _ _ _ _ h.at'
theorem DAt.set1 {B TD TF:Nat} {w:World} {p:Nat} {v:Value} {d:Dsk} (h:DAt B TD TF w p v d) (ht:TF≠TD) (n:Int):DAt B TD TF (w.setCell ⟨p,1,none⟩ (.int .i64 n)) p v { d with left:=n }∧Upd p v v w (w.setCell ⟨p,1,none⟩ (.int .i64 n)) :=
 ⟨⟨by rw [heap_setCell_same _ _ _ _ _ _ h.at'];rfl,own_blocks h.own fun k hk=>heap_setCell_other _ _ _ _ fun e=>h.apart ht (by rw [hk,e])⟩,
  ⟨rfl,rfl,by simp,fun k _ hp _=>heap_setCell_other _ _ _ _ hp,fun _ h=>.inl h⟩⟩
theorem DAt.set2 {B TD TF:Nat} {w:World} {p:Nat} {v:Value} {d:Dsk} (h:DAt B TD TF w p v d) (ht:TF≠TD) (b:Bool):DAt B TD TF (w.setCell ⟨p,2,none⟩ (.bool b)) p v { d with down:=b }∧Upd p v v w (w.setCell ⟨p,2,none⟩ (.bool b)) :=
 ⟨⟨by rw [heap_setCell_same _ _ _ _ _ _ h.at'];rfl,own_blocks h.own fun k hk=>heap_setCell_other _ _ _ _ fun e=>h.apart ht (by rw [hk,e])⟩,
  ⟨rfl,rfl,by simp,fun k _ hp _=>heap_setCell_other _ _ _ _ hp,fun _ h=>.inl h⟩⟩
theorem DAt.set0 {B TD TF:Nat} {w w':World} {p:Nat} {v v':Value} {d:Dsk} {fs:List Fl} (h:DAt B TD TF w p v d) (ht:TF≠TD) (hat:w'.heap[p]?=w.heap[p]?) (ho:w'.ownsRow B TF 3 v' fs.length (fcells fs)) (hu:Upd p v v' w w') :
  DAt B TD TF (w'.setCell ⟨p,0,none⟩ v') p v' { d with files:=fs }∧Upd p v v' w (w'.setCell ⟨p,0,none⟩ v'):=by
 have hat':=hat.trans h.at'
 refine ⟨⟨by rw [heap_setCell_same _ _ _ _ _ _ hat'];rfl,own_blocks ho fun k hk=>heap_setCell_other _ _ _ _ fun e=>own_ne_at ho hat' ht (by rw [hk,e])⟩,?_⟩
 exact ⟨hu.os,hu.output,by simpa using hu.size,fun k hk hp hv=>(heap_setCell_other _ _ _ _ hp).trans (hu.block k hk hp hv),hu.new⟩
theorem own_file {w:World} {B TF g n cap k j:Nat} {l:List Fl} (h:w.ownsRow B TF 3 (.slice (some ⟨g,0,none⟩) n cap) n (fcells l)) (hk:k<l.length) (hj:j<3):w.cell? ⟨g,k*3+j,none⟩=(l.getD k fl0).cells[j]?:=by
 rcases h.2 with ⟨h',_⟩ | ⟨g2,c,cur,h1,h2,h3,h4,h5,h6,h7⟩
 ·cases h'
 ·simp only [Value.slice.injEq,Option.some.injEq,Addr.mk.injEq,and_true,true_and] at h1
  obtain ⟨rfl,rfl⟩:=h1
  have hl:l.length*3=n*3:=by rw [← fcells_len,h.1]
  rw [cell_of_row _ _ _ _ _ _ h3,← Array.getElem?_toList,← fcells_at l k j hk hj,← h7,List.getElem?_take,if_pos (by omega)]
theorem own_file_fz {w:World} {B TF g n cap j:Nat} {l:List Fl} (h:w.ownsRow B TF 3 (.slice (some ⟨g,0,none⟩) n cap) n (fcells l)):w.frozen? ⟨g,j,none⟩=false:=by
 rcases h.2 with ⟨h',_⟩ | ⟨g2,c,cur,h1,h2,h3,h4,h5,h6,h7⟩
 ·cases h'
 ·simp only [Value.slice.injEq,Option.some.injEq,Addr.mk.injEq,and_true,true_and] at h1
  obtain ⟨rfl,rfl⟩:=h1
  exact frozen_of_row _ _ _ _ _ h3
theorem own_file_set {w:World} {B TF g n cap k j:Nat} {l:List Fl} {u:Value} {f':Fl} (h:w.ownsRow B TF 3 (.slice (some ⟨g,0,none⟩) n cap) n (fcells l)) (hk:k<l.length) (hj:j<3) (hf:f'.cells=(l.getD k fl0).cells.set j u) :
  (w.setCell ⟨g,k*3+j,none⟩ u).ownsRow B TF 3 (.slice (some ⟨g,0,none⟩) n cap) n (fcells (l.set k f')):=by
 rcases h.2 with ⟨h',_⟩ | ⟨g2,c,cur,h1,h2,h3,h4,h5,h6,h7⟩
 ·cases h'
 ·simp only [Value.slice.injEq,Option.some.injEq,Addr.mk.injEq,and_true,true_and] at h1
  obtain ⟨rfl,rfl⟩:=h1
  have hl:l.length*3=n*3:=by rw [← fcells_len,h.1]
  refine ⟨by rw [fcells_len,List.length_set];exact hl,.inr ⟨g,cap,_,rfl,h2,heap_setCell_same _ _ _ _ _ _ h3,h4,h5,by simpa using h6,?_⟩⟩
  rw [Array.toList_setIfInBounds,List.take_set,h7,fcells_set l k j u hk hj f' hf]
theorem DAt.setf {B TD TF:Nat} {w:World} {p g n cap k j:Nat} {d:Dsk} {u:Value} {f':Fl} (h:DAt B TD TF w p (.slice (some ⟨g,0,none⟩) n cap) d) (ht:TF≠TD) (hn:n=d.files.length) (hk:k<d.files.length) (hj:j<3) (hf:f'.cells=(d.files.getD k fl0).cells.set j u) :
  DAt B TD TF (w.setCell ⟨g,k*3+j,none⟩ u) p (.slice (some ⟨g,0,none⟩) n cap) { d with files:=d.files.set k f' }∧Upd p (.slice (some ⟨g,0,none⟩) n cap) (.slice (some ⟨g,0,none⟩) n cap) w (w.setCell ⟨g,k*3+j,none⟩ u):=by
 subst hn
 have hgp:p≠g:=fun e=>h.apart ht (by rw [e];rfl)
 refine ⟨⟨by rw [heap_setCell_other _ _ _ _ hgp];exact h.at',by have:=own_file_set h.own hk hj hf;simpa using this⟩,?_⟩
 exact ⟨rfl,rfl,by simp,fun q _ _ hv=>heap_setCell_other _ _ _ _ fun e=>hv (by rw [e];rfl),fun _ h=>.inl h⟩
theorem str_inj0 {a b:ByteArray} (h:a.toList=b.toList):a=b:=by
 rw [Lib.toList_data,Lib.toList_data] at h
 exact Go.WideShapes.bytes_inj h
theorem str_eq {a b:ByteArray}:(a.toList==b.toList)=decide (a=b):=by
 by_cases h:a=b
 ·rw [h];simp
 ·rw [decide_eq_false h,beq_eq_false_iff_ne]
  exact fun e=>h (str_inj0 e)
end Go.Proofs.YtlbacbcenejngaaGreatDoor
namespace Go.Proofs.YtlbacbcenejngaaGreatDoor
open Go.RowKit
set_option maxRecDepth 100000 in
theorem stopped_go (B:Nat) (w:World) (p:Nat) (v:Value) (d:Dsk) (h:DAt B 117 149 w p v d) :
  Calls Tryz.prog 46 #[.pointer (some ⟨p,0,none⟩)] w fun e w'=>e=.returned (.bool d.stopped)∧w'=w:=by
 have h1:=h.c1
 have h2:=h.c2
 unfold Dsk.stopped
 clear h
 cases hd:d.down
 ·rw [hd] at h2
  by_cases hl:d.left=0
  ·rw [hl] at h1 ⊢
   go_enter Tryz.func46,Tryz.ntmps46
   go_wp2
   all_goals go_ret
   all_goals exact ⟨rfl,rfl⟩
  ·go_enter Tryz.func46,Tryz.ntmps46
   go_wp2
   all_goals go_ret
   all_goals exact ⟨by simp [hl],rfl⟩
 ·rw [hd] at h2
  go_enter Tryz.func46,Tryz.ntmps46
  go_wp2
  all_goals go_ret
  all_goals exact ⟨rfl,rfl⟩
def stEnd (B TD TF:Nat) (w:World) (p:Nat) (v:Value) (_d:Dsk) (r:Bool) (d':Dsk) (e:Ending) (w':World):Prop :=
 e=.returned (.bool r)∧∃ v',DAt B TD TF w' p v' d'∧Upd p v v' w w'
theorem stepd_stay {d:Dsk} (hd:d.down=false) (h0:¬ d.left=0) (hp:¬ 0<d.left):d=d.stepd:=by
 cases d
 simp_all [Dsk.stepd,Dsk.stopped]
 omega
theorem stEnd_of {B TD TF:Nat} {w w':World} {p:Nat} {v v':Value} {d:Dsk} {r r':Bool} {d' d'':Dsk} (hr:r'=r) (hd:d''=d') (h:DAt B TD TF w' p v' d''∧Upd p v v' w w'):stEnd B TD TF w p v d r d' (.returned (.bool r')) w':=by
 subst hr;subst hd
 exact ⟨rfl,v',h⟩
set_option maxRecDepth 100000 in
theorem step_go (B:Nat) (w:World) (p:Nat) (v:Value) (d:Dsk) (h:DAt B 117 149 w p v d) (hl:-1≤d.left∧d.left≤9223372036854775807) :
  Calls Tryz.prog 112 #[.pointer (some ⟨p,0,none⟩)] w (stEnd B 117 149 w p v d (!d.stopped) d.stepd):=by
 have h1:=h.c1
 have h2:=h.c2
 have f1:=h.fz 1
 have f2:=h.fz 2
 have H:=hide h
 clear h
 cases hd:d.down
 ·rw [hd] at h2
  by_cases h0:d.left=0
  ·rw [h0] at h1
   go_enter Tryz.func112,Tryz.ntmps112
   go_wp2
   all_goals go_ret
   all_goals exact stEnd_of (by simp [Dsk.stopped,hd,h0]) (by simp [Dsk.stepd,Dsk.stopped,hd,h0]) ((uh H).set2 (by decide) true)
  ·by_cases hp:0<d.left
   ·go_enter Tryz.func112,Tryz.ntmps112
    go_wp2
    all_goals go_ret
    all_goals exact stEnd_of (by simp [Dsk.stopped,hd,h0]) (by simp [Dsk.stepd,Dsk.stopped,hd,h0,hp]) ((uh H).set1 (by decide) (d.left-1))
   ·go_enter Tryz.func112,Tryz.ntmps112
    go_wp2
    all_goals go_ret
    all_goals exact stEnd_of (by simp [Dsk.stopped,hd,h0]) (stepd_stay hd h0 (by omega)) ⟨uh H,Upd.refl _ _ _⟩
 ·rw [hd] at h2
  go_enter Tryz.func112,Tryz.ntmps112
  go_wp2
  all_goals go_ret
  all_goals exact stEnd_of (by simp [Dsk.stopped,hd]) (by simp [Dsk.stepd,Dsk.stopped,hd]) ((uh H).set2 (by decide) true)
def Dsk.stop (d:Dsk) (n:Int):Dsk:=if d.stopped then d else { d with left:=max n (-1) }
def noEnd (B TD TF:Nat) (w:World) (p:Nat) (v:Value) (d':Dsk) (e:Ending) (w':World):Prop :=
 e=.returned (.tuple #[])∧∃ v',DAt B TD TF w' p v' d'∧Upd p v v' w w'
theorem noEnd_of {B TD TF:Nat} {w w':World} {p:Nat} {v v':Value} {d' d'':Dsk} (hd:d''=d') (h:DAt B TD TF w' p v' d''∧Upd p v v' w w'):noEnd B TD TF w p v d' (.returned (.tuple #[])) w':=by
 subst hd
 exact ⟨rfl,v',h⟩
set_option maxRecDepth 100000 in
theorem stop_go (B:Nat) (w:World) (p:Nat) (v:Value) (d:Dsk) (n:Int) (h:DAt B 117 149 w p v d) :
  Calls Tryz.prog 45 #[.pointer (some ⟨p,0,none⟩),.int .i64 n] w (noEnd B 117 149 w p v (d.stop n)):=by
 have h1:=h.c1
 have f1:=h.fz 1
 have H:=hide h
 have hs:=stopped_go B w p v d h
 clear h
 by_cases hst:d.stopped=true
 ·rw [hst] at hs
  go_enter Tryz.func45,Tryz.ntmps45
  go_wp2_with fail
  refine hs.mono ?_
  rintro _ _ ⟨rfl,rfl⟩
  go_wp2
  all_goals exact end0 Tryz.results45 rfl (noEnd_of (by simp [Dsk.stop,hst]) ⟨uh H,Upd.refl _ _ _⟩)
 ·have hsf:d.stopped=false:=by simpa using hst
  rw [hsf] at hs
  go_enter Tryz.func45,Tryz.ntmps45
  go_wp2_with fail
  refine hs.mono ?_
  rintro _ _ ⟨rfl,rfl⟩
  go_wp2
  all_goals exact end0 Tryz.results45 rfl (noEnd_of (by simp [Dsk.stop,hsf]) ((uh H).set1 (by decide) (max n (-1))))
set_option maxRecDepth 100000 in
theorem find_go (B:Nat) (w:World) (p:Nat) (v:Value) (d:Dsk) (n:ByteArray) (h:DAt B 117 149 w p v d) (hl:d.files.length≤4194304) :
  Calls Tryz.prog 113 #[.pointer (some ⟨p,0,none⟩),.string n] w fun e w'=>e=.returned (.int .i64 (findF n d.files 0))∧w'=w:=by
 have h0:=h.c0
 obtain ⟨ao,cap,rfl,hcap,hao⟩:=own_len h.own
 have H:=hide h
 clear h
 go_enter Tryz.func113,Tryz.ntmps113
 go_wp2_with fail
 go_loopw [11] (fun vi wr=>∃ i:Nat,i≤d.files.length∧vi=.int .i64 i∧(∀ j,j<i→(d.files.getD j fl0).name≠n)∧wr=w) (fun vi _=>d.files.length-(intOf vi).toNat)
 case atStart=>exact ⟨0,Nat.zero_le _,rfl,fun j hj=>absurd hj (by omega),rfl⟩
 case round =>
  obtain ⟨i,hi,rfl,hb,rfl⟩:=hrel
  have HB:=hide hb
  clear hb
  by_cases hlt:i<d.files.length
  ·obtain ⟨g,rfl⟩:=hao (by omega)
   have hiI:(i:Int)<(d.files.length:Int):=by omega
   have hi0:(0:Int)≤(i:Int):=by omega
   have hc:wr.cell? ⟨g,i*3,none⟩=some (.string (d.files.getD i fl0).name):=by have:=own_file (uh H).own hlt (j:=0) (by omega);simpa [Fl.cells] using this
   obtain ⟨m,hm⟩:∃ m,m=(d.files.getD i fl0).name:=⟨_,rfl⟩
   rw [← hm] at hc
   have HM:=hide hm
   clear hm
   by_cases hmn:m=n
   ·have hq:(m.toList==n.toList)=true:=by rw [hmn];simp
    go_wp2
    all_goals go_ret
    all_goals exact ⟨by rw [findF_at n d.files 0 i hlt (by rw [← uh HM];exact hmn) (uh HB),Nat.zero_add];rfl,rfl⟩
   ·have hq:(m.toList==n.toList)=false:=by rw [str_eq];simpa using hmn
    go_wp2
    go_roundw
    case rel =>
     refine ⟨i+1,by omega,by go_num,fun j hj=>?_,by trivial⟩
     rcases Nat.lt_or_ge j i with h1 | h1
     ·exact uh HB j h1
     ·rw [show j=i by omega,← uh HM];exact hmn
    case measure=>simp [intOf];omega
  ·have hiI:¬ (i:Int)<(d.files.length:Int):=by omega
   go_wp2
   all_goals go_ret
   all_goals exact ⟨by rw [findF_none n d.files 0 fun f hf=>by
    obtain ⟨j,hj,rfl⟩:=List.getElem_of_mem hf
    have:=uh HB j (by omega)
    rwa [List.getD_eq_getElem?_getD,List.getElem?_eq_getElem hj] at this];rfl,rfl⟩
end Go.Proofs.YtlbacbcenejngaaGreatDoor
namespace Go.Proofs.YtlbacbcenejngaaGreatDoor
open Go.RowKit
def dsk0:Dsk:=⟨[],-1,false⟩
def nwEnd (B TD TF:Nat) (w:World) (d:Dsk) (e:Ending) (w':World):Prop :=
 ∃ p v,e=.returned (.pointer (some ⟨p,0,none⟩))∧DAt B TD TF w' p v d∧w.heap.size≤p∧(∀ k,v.ownBlock=some k→w.heap.size≤k)∧Kept w.heap.size w w'
set_option maxRecDepth 100000 in
theorem new_disk_go (B:Nat) (w:World):Calls Tryz.prog 28 #[] w (nwEnd B 117 149 w dsk0):=by
 go_enter Tryz.func28,Tryz.ntmps28
 go_wp2
 all_goals go_ret
 all_goals exact ⟨w.heap.size,.slice none 0 0,rfl,⟨heap_alloc_new _ _,World.ownsRow_nil _ _ _ _⟩,Nat.le_refl _,fun k hk=>by simp [Value.ownBlock] at hk,(Kept.refl _ _).alloc (Nat.le_refl _) _⟩
def Dsk.read (d:Dsk) (n:ByteArray):ByteArray:=if findF n d.files 0<0 then .empty else (d.files.getD (findF n d.files 0).toNat fl0).data
set_option maxRecDepth 100000 in
theorem read_go (B:Nat) (w:World) (p:Nat) (v:Value) (d:Dsk) (n:ByteArray) (h:DAt B 117 149 w p v d) (hl:d.files.length≤4194304) :
  Calls Tryz.prog 97 #[.pointer (some ⟨p,0,none⟩),.string n] w fun e w'=>e=.returned (.string (d.read n))∧w'=w:=by
 have hf:=find_go B w p v d n h hl
 have h0:=h.c0
 obtain ⟨ao,cap,rfl,hcap,hao⟩:=own_len h.own
 rcases findF_cases n d.files 0 with ⟨h1,_⟩ | ⟨i,hi,h1,_⟩
 ·unfold Dsk.read
  rw [h1] at hf ⊢
  go_enter Tryz.func97,Tryz.ntmps97
  go_wp2_with fail
  refine hf.mono ?_
  rintro _ _ ⟨rfl,rfl⟩
  go_wp2
  all_goals go_ret
  all_goals exact ⟨rfl,rfl⟩
 ·rw [Nat.zero_add] at h1
  obtain ⟨g,rfl⟩:=hao (by omega)
  have hc:w.cell? ⟨g,i*3+1,none⟩=some (.string (d.files.getD i fl0).data):=by have:=own_file h.own hi (j:=1) (by omega);simpa [Fl.cells] using this
  have HR:=hide (show d.read n=(d.files.getD i fl0).data from by rw [Dsk.read,h1,if_neg (by omega),Int.toNat_natCast])
  have hiI:(i:Int)<(d.files.length:Int):=by omega
  have hi0:(0:Int)≤(i:Int):=by omega
  generalize (d.files.getD i fl0).data=x at hc HR
  rw [h1] at hf
  clear h
  go_enter Tryz.func97,Tryz.ntmps97
  go_wp2_with fail
  refine hf.mono ?_
  rintro _ _ ⟨rfl,rfl⟩
  go_wp2
  all_goals go_ret
  all_goals exact ⟨by rw [uh HR];rfl,rfl⟩
end Go.Proofs.YtlbacbcenejngaaGreatDoor
