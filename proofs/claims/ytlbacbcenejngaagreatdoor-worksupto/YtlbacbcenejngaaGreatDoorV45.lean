/-
  Wr Ws Wy Wz Ww Ya Vu Ye
-/
import Derived.Test.YtlbacbcenejngaaGreatDoorV02
import Derived.Test.YtlbacbcenejngaaGreatDoorV44
import Derived.Test.YtlbacbcenejngaaGreatDoorV38
import Derived.Test.YtlbacbcenejngaaGreatDoorV40
import Derived.Test.YtlbacbcenejngaaGreatDoorV43
namespace Go.Proofs.YtlbacbcenejngaaGreatDoor
open Go.RowKit
def lastD (E:List ByteArray):List UInt8:=match E.getLast? with | some e=>Sha.digest e.data.toList | none=>List.replicate 32 0
theorem lastD_len (E:List ByteArray):(lastD E).length=32:=by
 unfold lastD
 split
 ·exact Sha.digest_length _
 ·simp
theorem lastD_at {E:List ByteArray} {n:Nat} {e:ByteArray} (hn:E.length=n+1) (h:E[n]?=some e):lastD E=Sha.digest e.data.toList:=by
 unfold lastD
 rw [List.getLast?_eq_getElem?,hn,Nat.add_sub_cancel,h]
def opS (s:ByteArray):ByteArray:=bs [((readQ s).getD rq0).op]
def whoS (key s:ByteArray):List UInt8:=Sha.tag key.data.toList (match readQ s with | some q=>q.token | none=>s).data.toList
def pathS (s:ByteArray):ByteArray:=((readQ s).getD rq0).path
def restS (s:ByteArray):ByteArray:=((readQ s).getD rq0).rest
structure EnA (w:World) (r:Pq) (b7 b9:Nat) (L:List UInt8) (wx:World):Prop where
 kept:Kept w.heap.size w wx
 box:wx.heap[b7]?=some (.cells r.cells 223 (0,0))
 dig:wx.heap[b9]?=some (.cells (brow L) 29 (0,0))
theorem EnA.next {w wx wy:World} {r:Pq} {b7 b9:Nat} {L:List UInt8} (h:EnA w r b7 b9 L wx) (hk:Kept wx.heap.size wx wy):EnA w r b7 b9 L wy :=
 ⟨h.kept.trans (hk.mono h.kept.size),(hk.block _ (Array.getElem?_eq_some_iff.1 h.box).1).trans h.box,(hk.block _ (Array.getElem?_eq_some_iff.1 h.dig).1).trans h.dig⟩
structure Dg (w:World) (l:List (Nat × List UInt8)) (wx:World):Prop where
 kept:Kept w.heap.size w wx
 rows:∀ p∈l,wx.heap[p.1]?=some (.cells (brow p.2) 29 (0,0))
theorem Dg.next {w wx wy:World} {l:List (Nat × List UInt8)} (h:Dg w l wx) (hk:Kept wx.heap.size wx wy):Dg w l wy :=
 ⟨h.kept.trans (hk.mono h.kept.size),fun p hp=>(hk.block _ (Array.getElem?_eq_some_iff.1 (h.rows p hp)).1).trans (h.rows p hp)⟩
theorem Dg.put {w wx wy wz:World} {l:List (Nat × List UInt8)} {b:Nat} {L:List UInt8} (h:Dg w l wx) (hb:wx.heap.size≤b) (hk:Kept wx.heap.size wx wy) (hp:Put b (brow L) 29 wy wz):Dg w ((b,L)::l) wz:=by
 have h2:=h.next hk
 refine ⟨h2.kept.trans (Kept.of (hp.below (by have:=h.kept.size;omega))),fun p hm=>?_⟩
 rcases List.mem_cons.1 hm with rfl | hm
 ·exact hp.row
 ·exact (hp.other _ (by have:=(Array.getElem?_eq_some_iff.1 (h.rows p hm)).1;omega)).trans (h2.rows p hm)
theorem yields_from {ops:Array Oper} {S:World→Prop} {op:Oper} {a:Act} (hw:Region.wanted op (yielded ops a.tmps)=true) (x y:Operand) (ho:op.op=.slice 9 x (some y) none none) {vx vy v:Value}
  (hr:∀ W,(Instr.sliceAt 9 vx (some vy) none none).run Tryz.prog W=.ok v W) (hx:a.eval x=vx) (hy:a.eval y=vy):YieldsIf Tryz.prog ops S op v a :=
 .inl ⟨hw,fun W _=>by
  unfold execOp
  simp only [ho,Option.map_none,Option.map_some,hx,hy,Sem.run_bind,hr W,Result.andThen_ok,Sem.run_pure]⟩
def entB (key:ByteArray) (E:List ByteArray) (s a:ByteArray):ByteArray:=bs (lastD E++leN E.length 4)++opS s++bs (whoS key s)++bs [UInt8.ofNat (pathS s).size]++pathS s++bs (Sha.tag key.data.toList (restS s).data.toList)++a.extract 0 1++bs (Sha.tag key.data.toList (a.extract 1 a.size).data.toList)
theorem zero29:(#[.int .u8 0,.int .u8 0,.int .u8 0,.int .u8 0,.int .u8 0,.int .u8 0,.int .u8 0,.int .u8 0,.int .u8 0,.int .u8 0,.int .u8 0,.int .u8 0,.int .u8 0,.int .u8 0,.int .u8 0,.int .u8 0,.int .u8 0,.int .u8 0,.int .u8 0,.int .u8 0,.int .u8 0,.int .u8 0,.int .u8 0,.int .u8 0,.int .u8 0,.int .u8 0,.int .u8 0,.int .u8 0,.int .u8 0,.int .u8 0,.int .u8 0,.int .u8 0]:Array Value)=brow (List.replicate 32 0):=by kernel_rfl
set_option maxRecDepth 100000 in
set_option maxHeartbeats 4000000 in
theorem entry_ref (B:Nat) (w:World) (rp:Nat) (g:RG) (key root:ByteArray) (secs:List Sc) (toks:List (ByteArray × Tok)) (E:List ByteArray) (H:List Nat) (s a:ByteArray) (h:RVAt B w rp g key root secs toks E H) (hE:E.length≤1000000000) (hk:key.size≤2000000) (hs:s.size≤2000000) (ha:a.size≤100000000) (ha1:1≤a.size) (hEB:∀ e∈E,e.size≤100000000) :
  Calls Tryz.prog 119 #[.pointer (some ⟨rp,0,none⟩),.string s,.string a] w fun e w'=>e=.returned (.string (entB key E s a))∧Kept w.heap.size w w':=by
 have H0:=hide h
 have HEB:=hide hEB
 clear h hEB
 have HPR:=hide (parse_ref s w (by omega))
 go_enter Tryz.func119,Tryz.ntmps119
 go_wp2_with fail
 refine (uh HPR).mono ?_
 rintro _ wa ⟨r,rfl,hr,hka⟩
 have HR:=hide hr
 have HKA:=hide hka
 clear hr hka HPR
 generalize hok:(readQ s).isSome=okb
 have HOK:=hide hok
 clear hok
 go_upto_region 2 with (refine wpList_store_put rfl 223 (.tmp 7) (.tmp 24) rfl wa.heap.size r.cells rfl rfl 223 pq0.cells (heap_alloc_new _ _) info223 rfl r.one ?_;intro wb hpb)
 have hbx:wb.heap[wa.heap.size]?=some (.cells r.cells 223 (0,0)):=hpb.row
 have HKB:=hide (show Kept wa.heap.size wa wb from ((Kept.refl _ _).alloc (Nat.le_refl _) _).trans (Kept.of (hpb.below (Nat.le_refl _))))
 have HKW:=hide ((uh HKA).trans ((uh HKB).mono (uh HKA).size))
 have hzb:wa.heap.size<wb.heap.size:=(Array.getElem?_eq_some_iff.1 hbx).1
 clear hpb
 obtain ⟨w1,hw1⟩:∃ w1,w1=wb.alloc (.cells (brow (List.replicate 32 0)) 29):=⟨_,rfl⟩
 go_upto_region 3 with fail
 rw [zero29,← hw1]
 have HA:=hide (show EnA w r wa.heap.size wb.heap.size (List.replicate 32 0) w1 from by
  have hk:Kept wb.heap.size wb w1:=by rw [hw1];exact (Kept.refl _ _).alloc (Nat.le_refl _) _
  exact ⟨(uh HKW).trans (hk.mono (uh HKW).size),(hk.block _ hzb).trans hbx,by rw [hw1];exact heap_alloc_new _ _⟩)
 have hzc:wb.heap.size<w1.heap.size:=by rw [hw1,World.size_alloc];omega
 have hwb9:w.heap.size≤wb.heap.size:=(uh HKW).size
 clear hw1 hbx
 generalize wa.heap.size=b7 at *
 generalize wb.heap.size=b9 at *
 obtain ⟨la,lc,hlv,hlc,hlg⟩:=own_len (uh H0).log
 have HLV:=hide hlv
 have hrpl:rp<w.heap.size:=((uh H0).foot (.inl rfl)).1
 have HRP:=hide (show ∀ W,Kept w.heap.size w W→W.cell? ⟨rp,4,none⟩=some (.slice la E.length lc)∧W.cell? ⟨rp,0,none⟩=some (.string key) from fun W hW=>⟨((hW.cell (p:=⟨rp,4,none⟩) hrpl).trans (((uh H0).c 4).trans rfl)).trans (congrArg some hlv),(hW.cell (p:=⟨rp,0,none⟩) hrpl).trans (((uh H0).c 0).trans rfl)⟩)
 have hr4:=(uh HRP _ (uh HA).kept).1
 clear hlv
 go_cut [31] (fun v wx=>v=.bool (decide (0<E.length))∧wx=w1)
 case first =>
  by_cases h0:0<E.length
  ·have hI:(0:Int)<(E.length:Int):=by omega
   have HH:=hide h0
   clear h0
   go_wp2_with fail
   go_meet
   case rel=>exact ⟨by rw [decide_eq_true (uh HH)],rfl⟩
  ·have hI:¬ (0:Int)<(E.length:Int):=by omega
   have HH:=hide h0
   clear h0
   go_wp2_with fail
   go_meet
   case rel=>exact ⟨by rw [decide_eq_false (uh HH)],rfl⟩
 case rest =>
  obtain ⟨rfl,hwx⟩:=hcut
  obtain rfl:w1=wc:=hwx.symm
  clear hwx
  rename_i K1 hK1 K2 hK2
  refine hK2 _ _ ?_
  clear hK2 K2
  go_cut [] (fun wx=>EnA w r b7 b9 (lastD E) wx)
  case first =>
   clear hK1
   by_cases h0:0<E.length
   ·rw [decide_eq_true h0]
    obtain ⟨n,hn⟩:∃ n,E.length=n+1:=⟨E.length-1,by omega⟩
    obtain ⟨e,he⟩:∃ e,E[n]?=some e:=⟨_,List.getElem?_eq_getElem (by omega)⟩
    have HLD:=hide (lastD_at hn he)
    obtain ⟨lb,lcap,hlb,hcl⟩:=own_cell (uh H0).log (k:=n) (by omega)
    rw [uh HLV] at hlb
    injection hlb with hlb1 _ _
    subst hlb1
    have hlbz:lb<w.heap.size:=((uh H0).log.lt lb (by rw [uh HLV];rfl)).2
    have hce:w1.cell? ⟨lb,n,none⟩=some (.string e):=((uh HA).kept.cell (p:=⟨lb,n,none⟩) hlbz).trans (by rw [hcl,List.getD_eq_getElem?_getD,List.getElem?_map,he];rfl)
    have hesz:e.size≤100000000:=uh HEB e (List.mem_of_getElem? he)
    have hnI:IntKind.i64.wrap ((E.length:Int)-1)=(n:Int):=by rw [wrap_i64_s (by omega) (by omega)];omega
    have hnl:n<E.length:=by omega
    have HDG:=hide (digest_ref e w1.drew (by omega))
    have hdl:(Sha.digest e.data.toList).length=32:=Sha.digest_length _
    clear h0 he hcl hn
    go_upto_region 4 with fail
    refine wp_region_held_drew (S:=fun W=>W.cell? ⟨rp,4,none⟩=some (.slice (some ⟨lb,0,none⟩) E.length lc)∧W.cell? ⟨lb,n,none⟩=some (.string e)) (by kernel_rfl) (⟨hr4,hce⟩) (fun hHeld=>?_)
    refine tkL 3 [(0,some 32,.pointer (some ⟨rp,0,none⟩)),(1,some 33,.pointer (some ⟨rp,0,none⟩)),(2,some 34,.pointer (some ⟨rp,4,none⟩))] (by kernel_rfl) (fun _ _ _ _ _ h=>h) (fun _ _=>by kernel_rfl) hHeld ?_
    simp only [zz0,zz1,zz2,zz4,zz5]
    refine tkG 3 (some 35) (.load 82 (.tmp 34)) 82 none (.slice (some ⟨lb,0,none⟩) E.length lc) (by kernel_rfl) (fun _ _ _ h=>h) (Or.inl ⟨by kernel_rfl,fun W hW=>by simp [execOp,go_sem,hW.1]⟩) hHeld ?_
    simp only [zz0,zz1,zz2]
    refine tkL 3 [(4,some 36,.pointer (some ⟨rp,0,none⟩)),(5,some 37,.pointer (some ⟨rp,0,none⟩)),(6,some 38,.pointer (some ⟨rp,4,none⟩))] (by kernel_rfl) (fun _ _ _ _ _ h=>h) (fun _ _=>by kernel_rfl) hHeld ?_
    simp only [zz0,zz1,zz2,zz4,zz5]
    refine tkG 7 (some 39) (.load 82 (.tmp 38)) 82 none (.slice (some ⟨lb,0,none⟩) E.length lc) (by kernel_rfl) (fun _ _ _ h=>h) (Or.inl ⟨by kernel_rfl,fun W hW=>by simp [execOp,go_sem,hW.1]⟩) hHeld ?_
    simp only [zz0,zz1,zz2]
    refine tkG 8 (some 40) (.call { callee:=.builtin .len,args:=#[.tmp 39],argTypes:=#[82] }) 3 none (.int .i64 (E.length:Int)) (by kernel_rfl) (fun _ _ _ h=>h) (Or.inl ⟨by kernel_rfl,fun W hW=>by go_simp⟩) hHeld ?_
    simp only [zz0,zz1,zz2]
    refine tkG 9 (some 41) (.binOp .sub 3 (.tmp 40) (.const (.int .i64 1)) 3) 3 none (.int .i64 (n:Int)) (by kernel_rfl) (fun _ _ _ h=>h) (Or.inl ⟨by kernel_rfl,fun W hW=>by simp [execOp,go_sem,hnI]⟩) hHeld ?_
    simp only [zz0,zz1,zz2]
    refine tkG 10 (some 42) (.indexAddr 82 (.tmp 35) (.tmp 41)) 0 none (.pointer (some ⟨lb,n,none⟩)) (by kernel_rfl) (fun _ _ _ h=>h) (yieldsIf_index (by kernel_rfl) 82 (.tmp 35) (.tmp 41) rfl (index82 lb n E.length lc hnl) (by kernel_rfl) (by kernel_rfl)) hHeld ?_
    simp only [zz0,zz1,zz2]
    refine tkG 11 (some 43) (.load 9 (.tmp 42)) 9 none (.string e) (by kernel_rfl) (fun _ _ _ h=>h) (Or.inl ⟨by kernel_rfl,fun W hW=>by simp [execOp,go_sem,hW.2]⟩) hHeld ?_
    simp only [zz0,zz1,zz2]
    refine rd1 12 (some 44) (.call { callee:=.value (.func 86),args:=#[.tmp 43],argTypes:=#[9] }) 29 (by kernel_rfl) (fun K hK=>?_)
    go_simp
    refine (uh HDG).mono ?_
    rintro _ w2 ⟨rfl,hk2⟩
    have HK2:=hide (show Kept w1.heap.size w1 w2 from ⟨hk2.os,hk2.output,hk2.size,hk2.block⟩)
    have HA2:=hide ((uh HA).next (uh HK2))
    clear hk2
    have s1:=(uh HRP _ (uh HA2).kept).1
    have s2:w2.cell? ⟨lb,n,none⟩=some (.string e):=((uh HK2).cell (p:=⟨lb,n,none⟩) (World.block_lt_of_cell? _ _ hce)).trans hce
    show K _ w2
    refine hK.out _ _ (⟨s1,s2⟩) (fun hHeld12=>?_)
    clear hK K
    try simp only [zz0,zz1,zz2]
    refine rd1 13 none (.store 29 (.tmp 9) (.tmp 44)) 0 (by kernel_rfl) (fun K hK=>?_)
    refine wp_store_put 29 (.tmp 9) (.tmp 44) rfl b9 (brow (Sha.digest e.data.toList)) (by kernel_rfl) (by kernel_rfl) 29 (brow (List.replicate 32 0)) (uh HA2).dig (rinfo hdl) (by rw [brow_size,brow_size,hdl];rfl) (brow_one _) ?_
    intro w3 hp3
    have hb7:b7<w2.heap.size:=(Array.getElem?_eq_some_iff.1 (uh HA2).box).1
    have HA3:=hide (show EnA w r b7 b9 (Sha.digest e.data.toList) w3 from ⟨(uh HA2).kept.trans (Kept.of (hp3.below hwb9)),(hp3.other _ (by omega)).trans (uh HA2).box,hp3.row⟩)
    have s3:=(uh HRP _ (uh HA3).kept).1
    have s4:w3.cell? ⟨lb,n,none⟩=some (.string e):=(World.cell?_of_block (hp3.other _ (by show lb≠b9;omega))).trans s2
    clear hp3
    refine hK.out _ _ (⟨s3,s4⟩) (fun hHeld13=>?_)
    clear hK K
    try simp only [zz3]
    refine wpAnyH_done (by kernel_rfl) ?_ _
    go_wp2_with fail
    go_meet
    case rel=>exact by rw [uh HLD];exact uh HA3
   ·rw [decide_eq_false h0]
    have HE0:=hide (show lastD E=List.replicate 32 0 by rw [List.eq_nil_of_length_eq_zero (by omega:E.length=0)];rfl)
    clear h0
    go_wp2_with fail
    go_meet
    case rel=>exact by rw [uh HE0];exact uh HA
  case rest =>
   have HA5:=hide hcut
   have hdl:(lastD E).length=32:=lastD_len E
   have HB5:=hide (uh HA5).dig
   have hr5:=(uh HRP _ (uh HA5).kept).1
   have HTX:=hide (text_ref (lastD E) wc.drew hdl)
   have HLO:=hide (fun W=>low_ref E.length 4 W (by omega) (by decide))
   obtain ⟨X0,hX0⟩:∃ X:ByteArray,X=⟨(lastD E).toArray⟩:=⟨_,rfl⟩
   obtain ⟨X1,hX1⟩:∃ X:ByteArray,X=bs (leN E.length 4):=⟨_,rfl⟩
   rw [← hX0] at HTX
   rw [← hX1] at HLO
   have z0:X0.size=32:=by rw [hX0];exact hdl
   have z1:X1.size=4:=by rw [hX1,bs_size];exact leN_length _ _
   have n1:(9223372036854775807<X0.size+X1.size)=False:=eq_false (by omega)
   obtain ⟨X2,hX2⟩:∃ X,X=X0++X1:=⟨_,rfl⟩
   have z2:X2.size=36:=by rw [hX2,ByteArray.size_append];omega
   have e12:=hX2.symm
   have HX2:=hide (show X2=bs (lastD E++leN E.length 4) by rw [hX2,hX0,hX1,bs_app];rfl)
   clear hX0 hX1 hX2 hcut hr4
   go_upto_region 5 with fail
   refine wp_region_held_drew (S:=fun W=>W.heap[b9]?=some (.cells (brow (lastD E)) 29 (0,0))∧W.cell? ⟨rp,4,none⟩=some (.slice la E.length lc)) (by kernel_rfl) (⟨uh HB5,hr5⟩) (fun hHeld=>?_)
   refine tkG 0 (some 45) (.load 29 (.tmp 9)) 29 none (.agg (brow (lastD E)).toList.toArray) (by kernel_rfl) (fun _ _ _ h=>h) (yieldsIf_load_mid (by kernel_rfl) 29 (.tmp 9) rfl b9 0 (by kernel_rfl) (brow (lastD E)).toList _ (fun W hW=>row_range hW.1) Tryz.underlying29 rfl (by rw [Array.length_toList];exact rinfo hdl)) hHeld ?_
   simp only [zz0,zz1,zz2]
   refine tkL 3 [(2,some 47,.pointer (some ⟨rp,0,none⟩)),(3,some 48,.pointer (some ⟨rp,0,none⟩)),(4,some 49,.pointer (some ⟨rp,4,none⟩))] (by kernel_rfl) (fun _ _ _ _ _ h=>h) (fun _ _=>by kernel_rfl) hHeld ?_
   simp only [zz0,zz1,zz2,zz4,zz5]
   refine tkG 5 (some 50) (.load 82 (.tmp 49)) 82 none (.slice la E.length lc) (by kernel_rfl) (fun _ _ _ h=>h) (Or.inl ⟨by kernel_rfl,fun W hW=>by simp [execOp,go_sem,hW.2]⟩) hHeld ?_
   simp only [zz0,zz1,zz2]
   refine tkG 6 (some 51) (.call { callee:=.builtin .len,args:=#[.tmp 50],argTypes:=#[82] }) 3 none (.int .i64 (E.length:Int)) (by kernel_rfl) (fun _ _ _ h=>h) (Or.inl ⟨by kernel_rfl,fun W hW=>by go_simp⟩) hHeld ?_
   simp only [zz0,zz1,zz2]
   refine rd1 1 (some 46) (.call { callee:=.value (.func 156),args:=#[.tmp 45],argTypes:=#[29] }) 9 (by kernel_rfl) (fun K hK=>?_)
   go_simp
   refine (uh HTX).mono ?_
   rintro _ w2 ⟨rfl,hk2⟩
   have HA6:=hide ((uh HA5).next (show Kept wc.heap.size wc w2 from ⟨hk2.os,hk2.output,hk2.size,hk2.block⟩))
   clear hk2
   show K _ w2
   refine hK.out _ _ (⟨(uh HA6).dig,(uh HRP _ (uh HA6).kept).1⟩) (fun hHeld1=>?_)
   clear hK K
   try simp only [zz0,zz1,zz2]
   refine rd1 7 (some 52) (.call { callee:=.value (.func 147),args:=#[.tmp 51,.const (.int .i64 4)],argTypes:=#[3,3] }) 9 (by kernel_rfl) (fun K hK=>?_)
   go_simp
   refine (uh HLO w2).mono ?_
   rintro _ w3 ⟨rfl,hk3⟩
   have HA7:=hide ((uh HA6).next hk3)
   clear hk3
   show K _ w3
   refine hK.out _ _ (⟨(uh HA7).dig,(uh HRP _ (uh HA7).kept).1⟩) (fun hHeld7=>?_)
   clear hK K
   try simp only [zz0,zz1,zz2]
   refine tkG 8 (some 53) (.binOp .add 9 (.tmp 46) (.tmp 52) 9) 9 none (.string X2) (by kernel_rfl) (fun _ _ _ h=>h) (Or.inl ⟨by kernel_rfl,fun W hW=>by simp [execOp,go_sem,n1,e12]⟩) hHeld7 ?_
   simp only [zz0,zz1,zz2]
   refine tkP 9 (some 10) (.string X2) (by kernel_rfl) (fun _ _ _ h=>h) (fun _ _=>by kernel_rfl) hHeld7 ?_
   simp only [zz0,zz1,zz2]
   refine wpAnyH_done (by kernel_rfl) ?_ _
   clear n1 e12 z0 z1 hr5 HB5 HTX HLO
   have hr0:=(uh HRP _ (uh HA7).kept).2
   have HT1:=hide (tag_ref key s w3 (by omega) (by omega))
   have ht1:(Sha.tag key.data.toList s.data.toList).length=32:=tag_length _ _
   go_wp2_with fail
   refine (uh HT1).mono ?_
   rintro _ w4 ⟨rfl,hk4⟩
   have HA8:=hide ((uh HA7).next hk4)
   clear hk4 HT1
   generalize hT1:Sha.tag key.data.toList s.data.toList=T1 at ht1 ⊢
   have HT1:=hide hT1
   clear hT1
   go_upto_region 8 with (refine wpList_store_put rfl 29 (.tmp 12) (.tmp 59) rfl w4.heap.size (brow T1) rfl rfl 29 _ (heap_alloc_new _ _) (rinfo ht1) (by rw [brow_size,ht1];rfl) (brow_one _) ?_;intro w5 hp5)
   have HA9:=hide (show EnA w r b7 w4.heap.size T1 w5 from ⟨(uh HA8).kept.trans ((((Kept.refl _ _).alloc (Nat.le_refl _) _).trans (Kept.of (hp5.below (Nat.le_refl _)))).mono (uh HA8).kept.size),(hp5.other _ (by have:=(Array.getElem?_eq_some_iff.1 (uh HA8).box).1;omega)).trans ((Below.heap_alloc _ _ _ (Array.getElem?_eq_some_iff.1 (uh HA8).box).1).trans (uh HA8).box),hp5.row⟩)
   have hb74:b7<w4.heap.size:=(Array.getElem?_eq_some_iff.1 (uh HA8).box).1
   have hw4:w.heap.size≤w4.heap.size:=(uh HA8).kept.size
   clear hp5 HA8 HA7 HA6 HA5
   generalize w4.heap.size=b12 at HA9 hb74 hw4 ⊢
   simp only [Act.put]
   go_upto_region 10 with fail
   go_cut [60] (fun v wx=>v=.bool okb∧wx=w5)
   case first =>
    go_wp2_with fail
    go_meet
    case rel=>exact ⟨rfl,rfl⟩
   case rest =>
    obtain ⟨rfl,hwx⟩:=hcut
    obtain rfl:w5=wc:=hwx.symm
    clear hwx
    rename_i K3 hK3 K4 hK4
    refine hK4 _ _ ?_
    clear hK4 K4
    go_cut [11,13,14] (fun v11 v13 v14 wx=>v11=.string (opS s)∧v13=.string (pathS s)∧v14=.string (restS s)∧EnA w r b7 b12 (whoS key s) wx)
    case first =>
     clear hK3
     cases okb with
     | false =>
      have hq:readQ s=none:=Option.isSome_eq_false_iff.1 (uh HOK) |> Option.isNone_iff_eq_none.1
      have HF:=hide (show opS s=⟨#[0]⟩∧pathS s=⟨#[]⟩∧restS s=⟨#[]⟩∧whoS key s=T1 from by unfold opS pathS restS whoS;rw [hq,← uh HT1];exact ⟨rfl,rfl,rfl,rfl⟩)
      clear hq
      go_wp2_with fail
      go_meet
      case rel=>exact ⟨by rw [(uh HF).1],by rw [(uh HF).2.1],by rw [(uh HF).2.2.1],by rw [(uh HF).2.2.2];exact uh HA9⟩
     | true =>
      obtain ⟨q,hq⟩:=Option.isSome_iff_exists.1 (uh HOK)
      have HRO:=hide (uh HR q hq)
      have HQO:=hide (readQ_ok hq)
      have HF:=hide (show opS s=bs [r.op]∧pathS s=q.path∧restS s=q.rest∧whoS key s=Sha.tag key.data.toList r.token.data.toList from by unfold opS pathS restS whoS;rw [hq,(uh HRO).op,(uh HRO).token];exact ⟨rfl,rfl,rfl,rfl⟩)
      have htk:r.token.size≤255:=by rw [(uh HRO).token];exact (uh HQO).token
      clear hq
      have q0:w5.cell? ⟨b7,0,none⟩=some (.int .u8 (r.op.toNat:Int)):=by rw [cell_of_row _ _ _ _ _ _ (uh HA9).box];rfl
      have hcv:(convert 58 9 (.slice (some ⟨w5.heap.size,0,none⟩) 1 1)).run Tryz.prog (w5.alloc (.cells #[.int .u8 (r.op.toNat:Int)] 5))=.ok (.string (bs [r.op])) (w5.alloc (.cells #[.int .u8 (r.op.toNat:Int)] 5)):=conv_one _ _
      go_upto_region 12 with fail
      have HA10:=hide ((uh HA9).next ((Kept.refl _ _).alloc (Nat.le_refl _) (.cells #[.int .u8 (r.op.toNat:Int)] 5)))
      generalize w5.alloc (.cells #[.int .u8 (r.op.toNat:Int)] 5)=w6 at HA10 ⊢
      clear hcv q0
      have q1:w6.cell? ⟨b7,1,none⟩=some (.string r.token):=by rw [cell_of_row _ _ _ _ _ _ (uh HA10).box];rfl
      have q2:=(uh HRP _ (uh HA10).kept).2
      have HT2:=hide (tag_ref key r.token w6.drew (by omega) (by omega))
      have ht2:(Sha.tag key.data.toList r.token.data.toList).length=32:=tag_length _ _
      generalize hT2:Sha.tag key.data.toList r.token.data.toList=T2 at ht2 HT2 HF
      clear hT2
      refine wp_region_held_drew (S:=fun W=>W.cell? ⟨rp,0,none⟩=some (.string key)∧W.cell? ⟨b7,1,none⟩=some (.string r.token)) (by kernel_rfl) (⟨q2,q1⟩) (fun hHeld=>?_)
      refine tkL 3 [(0,some 65,.pointer (some ⟨rp,0,none⟩)),(1,some 66,.pointer (some ⟨rp,0,none⟩)),(2,some 67,.pointer (some ⟨rp,0,none⟩))] (by kernel_rfl) (fun _ _ _ _ _ h=>h) (fun _ _=>by kernel_rfl) hHeld ?_
      simp only [zz0,zz1,zz2,zz4,zz5]
      refine tkG 3 (some 68) (.load 9 (.tmp 67)) 9 none (.string key) (by kernel_rfl) (fun _ _ _ h=>h) (Or.inl ⟨by kernel_rfl,fun W hW=>by simp [execOp,go_sem,hW.1]⟩) hHeld ?_
      simp only [zz0,zz1,zz2]
      refine tkP 4 (some 69) (.pointer (some ⟨b7,1,none⟩)) (by kernel_rfl) (fun _ _ _ h=>h) (fun _ _=>by kernel_rfl) hHeld ?_
      simp only [zz0,zz1,zz2]
      refine tkG 5 (some 70) (.load 9 (.tmp 69)) 9 none (.string r.token) (by kernel_rfl) (fun _ _ _ h=>h) (Or.inl ⟨by kernel_rfl,fun W hW=>by simp [execOp,go_sem,hW.2]⟩) hHeld ?_
      simp only [zz0,zz1,zz2]
      refine rd1 6 (some 71) (.call { callee:=.value (.func 157),args:=#[.tmp 68,.tmp 70],argTypes:=#[9,9] }) 29 (by kernel_rfl) (fun K hK=>?_)
      go_simp
      refine (uh HT2).mono ?_
      rintro _ w7 ⟨rfl,hk7⟩
      have HA11:=hide ((uh HA10).next (show Kept w6.heap.size w6 w7 from ⟨hk7.os,hk7.output,hk7.size,hk7.block⟩))
      clear hk7
      show K _ w7
      refine hK.out _ _ (⟨(uh HRP _ (uh HA11).kept).2,by rw [cell_of_row _ _ _ _ _ _ (uh HA11).box];rfl⟩) (fun hHeld6=>?_)
      clear hK K
      try simp only [zz0,zz1,zz2]
      refine rd1 7 none (.store 29 (.tmp 12) (.tmp 71)) 0 (by kernel_rfl) (fun K hK=>?_)
      refine wp_store_put 29 (.tmp 12) (.tmp 71) rfl b12 (brow T2) (by kernel_rfl) (by kernel_rfl) 29 (brow T1) (uh HA11).dig (rinfo ht2) (by rw [brow_size,brow_size,ht1,ht2]) (brow_one _) ?_
      intro w8 hp8
      have HA12:=hide (show EnA w r b7 b12 T2 w8 from ⟨(uh HA11).kept.trans (Kept.of (hp8.below hw4)),(hp8.other _ (by omega)).trans (uh HA11).box,hp8.row⟩)
      clear hp8
      refine hK.out _ _ (⟨(uh HRP _ (uh HA12).kept).2,by rw [cell_of_row _ _ _ _ _ _ (uh HA12).box];rfl⟩) (fun hHeld7=>?_)
      clear hK K
      try simp only [zz3]
      refine wpAnyH_done (by kernel_rfl) ?_ _
      have c0:w8.cell? ⟨b7,0,none⟩=some (.int .u8 (r.op.toNat:Int)):=by rw [cell_of_row _ _ _ _ _ _ (uh HA12).box];rfl
      have c2:w8.cell? ⟨b7,2,none⟩=some (.string r.path):=by rw [cell_of_row _ _ _ _ _ _ (uh HA12).box];rfl
      have c5:w8.cell? ⟨b7,5,none⟩=some (.string r.tail):=by rw [cell_of_row _ _ _ _ _ _ (uh HA12).box];rfl
      have c6:w8.cell? ⟨b7,6,none⟩=some (.string r.behind):=by rw [cell_of_row _ _ _ _ _ _ (uh HA12).box];rfl
      clear q1 q2
      have HHP:=hide (hasPath_ref (r.op.toNat:Int) w8)
      go_wp2_with fail
      refine (uh HHP).mono ?_
      rintro _ wq ⟨rfl,hwq⟩
      obtain rfl:w8=wq:=hwq.symm
      clear hwq HHP
      cases hpi:pathI (r.op.toNat:Int) with
      | true =>
       have HFP:=hide ((uh HRO).path (by rw [← (uh HRO).op];exact hpi))
       clear hpi
       go_wp2_with fail
       go_meet
       case rel=>exact ⟨by rw [(uh HF).1],by rw [(uh HF).2.1,(uh HFP).1],by rw [(uh HF).2.2.1,(uh HFP).2],by rw [(uh HF).2.2.2];exact uh HA12⟩
      | false =>
       have HFP:=hide ((uh HRO).name (by rw [← (uh HRO).op];exact hpi))
       have HPE:=hide (show q.path=⟨#[]⟩ from by
        have h1:=(uh HQO).fit.2
        rw [← (uh HRO).op] at h1
        unfold fitOp at h1
        rw [hpi] at h1
        have h2:q.path.size=0:=by
         by_cases hz:q.path.size=0
         ·exact hz
         ·have e:((q.path.size:Int) != 0)=true:=bne_iff_ne.2 (by omega)
          rw [e] at h1
          simp at h1
        exact ByteArray.size_eq_zero_iff.1 h2)
       clear hpi
       go_wp2_with fail
       go_meet
       case rel=>exact ⟨by rw [(uh HF).1],by rw [(uh HF).2.1,uh HPE],by rw [(uh HF).2.2.1,(uh HFP).2],by rw [(uh HF).2.2.2];exact uh HA12⟩
    case rest =>
     obtain ⟨rfl,rfl,rfl,hcut⟩:=hcut
     have HG:=hide (show Dg w [(b12,whoS key s)] wc from ⟨hcut.kept,fun p hp=>by rw [List.mem_singleton] at hp;subst hp;exact hcut.dig⟩)
     have hres:(restS s).size≤2000000:=by
      unfold restS
      cases hq:readQ s with
      | none=>exact Nat.zero_le _
      | some q=>have:=readQ_rest hq;show q.rest.size≤_;omega
     have hpth:(pathS s).size≤16:=by
      unfold pathS
      cases hq:readQ s with
      | none=>exact Nat.zero_le _
      | some q=>exact (readQ_ok hq).fit.1
     clear hcut HA9 hr0
     have q3:=(uh HRP _ (uh HG).kept).2
     have HT3:=hide (tag_ref key (restS s) wc (by omega) (by omega))
     have ht3:(Sha.tag key.data.toList (restS s).data.toList).length=32:=tag_length _ _
     have htw:(whoS key s).length=32:=tag_length _ _
     go_wp2_with fail
     refine (uh HT3).mono ?_
     rintro _ w4b ⟨rfl,hk4⟩
     have HG4:=hide ((uh HG).next hk4)
     clear hk4 HT3 q3
     generalize hT3:Sha.tag key.data.toList (restS s).data.toList=T3 at ht3 ⊢
     have HT3:=hide hT3
     clear hT3
     go_upto_region 19 with (refine wpList_store_put rfl 29 (.tmp 16) (.tmp 87) rfl w4b.heap.size (brow T3) rfl rfl 29 _ (heap_alloc_new _ _) (rinfo ht3) (by rw [brow_size,ht3];rfl) (brow_one _) ?_;intro w5b hp5)
     have HG5:=hide ((uh HG4).put (Nat.le_refl _) ((Kept.refl _ _).alloc (Nat.le_refl _) _) hp5)
     clear hp5 HG4
     generalize w4b.heap.size=b16 at HG5 ⊢
     simp only [Act.put]
     have q4:=(uh HRP _ (uh HG5).kept).2
     obtain ⟨am,ham⟩:∃ x,x=a.extract 1 a.size:=⟨_,rfl⟩
     have hams:am.size≤100000000:=by rw [ham,ByteArray.size_extract];omega
     have hcut1:∀ W,(Instr.sliceAt 9 (.string a) (some (.int .i64 1)) none none).run Tryz.prog W=.ok (.string am) W:=fun W=>by
      have h1:(1:Int)≤(a.size:Int):=by omega
      have h2:¬ (a.size:Int)<1:=by omega
      have hu:=Tryz.underlying9
      rw [ham]
      simp [Instr.sliceAt,Instr.slice,go_sem,h1]
     have HT4:=hide (fun W=>tag_ref key am W (by omega) (by omega))
     have ht4:(Sha.tag key.data.toList am.data.toList).length=32:=tag_length _ _
     generalize hT4:Sha.tag key.data.toList am.data.toList=T4 at ht4 HT4
     have HT4e:=hide hT4
     have HAM:=hide ham
     clear hT4 ham
     go_cut [17] (fun v wx=>∃ b17,v=.pointer (some ⟨b17,0,none⟩)∧Dg w [(b17,T4),(b16,T3),(b12,whoS key s)] wx)
     case first =>
      refine wp_region_held_drew (S:=fun W=>W.cell? ⟨rp,0,none⟩=some (.string key)) (by kernel_rfl) (q4) (fun hHeld=>?_)
      refine tkL 3 [(0,some 88,.pointer (some ⟨rp,0,none⟩)),(1,some 89,.pointer (some ⟨rp,0,none⟩)),(2,some 90,.pointer (some ⟨rp,0,none⟩))] (by kernel_rfl) (fun _ _ _ _ _ h=>h) (fun _ _=>by kernel_rfl) hHeld ?_
      simp only [zz0,zz1,zz2,zz4,zz5]
      refine tkG 3 (some 91) (.load 9 (.tmp 90)) 9 none (.string key) (by kernel_rfl) (fun _ _ _ h=>h) (Or.inl ⟨by kernel_rfl,fun W hW=>by simp [execOp,go_sem,hW]⟩) hHeld ?_
      simp only [zz0,zz1,zz2]
      refine tkP 4 (some 92) (.string a) (by kernel_rfl) (fun _ _ _ h=>h) (fun _ _=>by kernel_rfl) hHeld ?_
      simp only [zz0,zz1,zz2]
      refine tkG 5 (some 93) (.slice 9 (.tmp 92) (some (.const (.int .i64 1))) none none) 9 none (.string am) (by kernel_rfl) (fun _ _ _ h=>h) (yields_from (by kernel_rfl) (.tmp 92) (.const (.int .i64 1)) rfl hcut1 (by kernel_rfl) (by kernel_rfl)) hHeld ?_
      simp only [zz0,zz1,zz2]
      refine wpAnyH_ready (rs:=[6,7]) (by kernel_rfl) (by simp) ?_
      refine rdX (some 94) (.call { callee:=.value (.func 157),args:=#[.tmp 91,.tmp 93],argTypes:=#[9,9] }) 29 none (by kernel_rfl) (fun K hK=>?_) (rdX (some 17) (.alloc 29) 0 none (by kernel_rfl) (fun K hK=>?_) AllReadyH.nil)
      ·refine ite_wanted ?_ ?_
       ·kernel_rfl
       go_simp
       refine (uh HT4 w5b.drew).mono ?_
       rintro _ w6 ⟨rfl,hk6⟩
       have HG6:=hide ((uh HG5).next (show Kept w5b.heap.size w5b w6 from ⟨hk6.os,hk6.output,hk6.size,hk6.block⟩))
       clear hk6
       show K _ w6
       refine hK.out _ _ ((uh HRP _ (uh HG6).kept).2) (fun hHeld6=>?_)
       clear hK K
       try simp only [zz0,zz1,zz2]
       refine rd1 7 (some 17) (.alloc 29) 0 (by kernel_rfl) (fun K hK=>?_)
       go_simp
       rw [zero29]
       have HG7:=hide ((uh HG6).next ((Kept.refl _ _).alloc (Nat.le_refl _) (.cells (brow (List.replicate 32 0)) 29)))
       show K _ (w6.alloc (.cells (brow (List.replicate 32 0)) 29))
       refine hK.out _ _ ((uh HRP _ (uh HG7).kept).2) (fun hHeld7=>?_)
       clear hK K
       try simp only [zz0,zz1,zz2]
       refine rd1 8 none (.store 29 (.tmp 17) (.tmp 94)) 0 (by kernel_rfl) (fun K hK=>?_)
       refine wp_store_put 29 (.tmp 17) (.tmp 94) rfl w6.heap.size (brow T4) (by kernel_rfl) (by kernel_rfl) 29 (brow (List.replicate 32 0)) (heap_alloc_new _ _) (rinfo ht4) (by rw [brow_size,brow_size,ht4];rfl) (brow_one _) ?_
       intro w8 hp8
       have HG8:=hide ((uh HG6).put (Nat.le_refl _) ((Kept.refl _ _).alloc (Nat.le_refl _) _) hp8)
       clear hp8
       refine hK.out _ _ ((uh HRP _ (uh HG8).kept).2) (fun hHeld8=>?_)
       clear hK K
       try simp only [zz3]
       refine wpAnyH_done (by kernel_rfl) ?_ _
       go_wp2_with fail
       go_meet
       case rel=>exact ⟨_,rfl,uh HG8⟩
      ·refine ite_wanted ?_ ?_
       ·kernel_rfl
       go_simp
       rw [zero29]
       obtain ⟨w6,hw6⟩:∃ w6,w6=w5b.drew.alloc (.cells (brow (List.replicate 32 0)) 29):=⟨_,rfl⟩
       have hk6:Kept w5b.heap.size w5b w6:=by rw [hw6];exact (show Kept w5b.heap.size w5b w5b.drew from (Kept.refl _ _).draws 1).alloc (Nat.le_refl _) _
       have HR6:=hide (show w6.heap[w5b.heap.size]?=some (.cells (brow (List.replicate 32 0)) 29 (0,0)) by rw [hw6];exact heap_alloc_new w5b.drew _)
       have HG6:=hide ((uh HG5).next hk6)
       have HK6:=hide hk6
       show K _ (w5b.drew.alloc (.cells (brow (List.replicate 32 0)) 29))
       rw [← hw6]
       clear hw6 hk6
       refine hK.out _ _ ((uh HRP _ (uh HG6).kept).2) (fun hHeld7=>?_)
       clear hK K
       try simp only [zz3]
       refine rd1 6 (some 94) (.call { callee:=.value (.func 157),args:=#[.tmp 91,.tmp 93],argTypes:=#[9,9] }) 29 (by kernel_rfl) (fun K hK=>?_)
       go_simp
       refine (uh HT4 w6).mono ?_
       rintro _ w7 ⟨rfl,hk7⟩
       have HG7:=hide ((uh HG6).next hk7)
       have HK7:=hide ((uh HK6).trans (hk7.mono (uh HK6).size))
       have HR7:=hide ((hk7.block _ (Array.getElem?_eq_some_iff.1 (uh HR6)).1).trans (uh HR6))
       clear hk7
       show K _ w7
       refine hK.out _ _ ((uh HRP _ (uh HG7).kept).2) (fun hHeld6=>?_)
       clear hK K
       try simp only [zz0,zz1,zz2]
       refine rd1 8 none (.store 29 (.tmp 17) (.tmp 94)) 0 (by kernel_rfl) (fun K hK=>?_)
       refine wp_store_put 29 (.tmp 17) (.tmp 94) rfl w5b.heap.size (brow T4) (by kernel_rfl) (by kernel_rfl) 29 (brow (List.replicate 32 0)) (uh HR7) (rinfo ht4) (by rw [brow_size,brow_size,ht4];rfl) (brow_one _) ?_
       intro w8 hp8
       have HG8:=hide ((uh HG5).put (Nat.le_refl _) (uh HK7) hp8)
       clear hp8
       refine hK.out _ _ ((uh HRP _ (uh HG8).kept).2) (fun hHeld8=>?_)
       clear hK K
       try simp only [zz3]
       refine wpAnyH_done (by kernel_rfl) ?_ _
       go_wp2_with fail
       go_meet
       case rel=>exact ⟨_,rfl,uh HG8⟩
     case rest =>
      obtain ⟨b17,rfl,hG⟩:=hcut
      have HGR:=hide hG
      clear hG HG5 HG q4 hcut1
      have HE:=hide (show entB key E s a=X2++opS s++bs (whoS key s)++bs [UInt8.ofNat (pathS s).size]++pathS s++bs T3++a.extract 0 1++bs T4 by unfold entB;rw [uh HX2,← uh HT3,← uh HT4e,uh HAM])
      have ro12:=(uh HGR).rows (b12,whoS key s) (by simp)
      have HTA:=hide (text_ref (whoS key s) wc htw)
      go_wp2_with (refine wpList_load_row rfl 29 (.tmp 12) rfl b12 rfl 29 (brow (whoS key s)) (0,0) _ ro12 Tryz.underlying29 rfl (rinfo htw) ?_)
      refine (uh HTA).mono ?_
      rintro _ wd ⟨rfl,hkd⟩
      have HG2:=hide ((uh HGR).next hkd)
      clear hkd HTA ro12 HGR
      have ro16:=(uh HG2).rows (b16,T3) (by simp)
      have HTB:=hide (text_ref T3 wd ht3)
      go_wp2_with (refine wpList_load_row rfl 29 (.tmp 16) rfl b16 rfl 29 (brow T3) (0,0) _ ro16 Tryz.underlying29 rfl (rinfo ht3) ?_)
      refine (uh HTB).mono ?_
      rintro _ we ⟨rfl,hke⟩
      have HG3:=hide ((uh HG2).next hke)
      clear hke HTB ro16 HG2
      have ro17:=(uh HG3).rows (b17,T4) (by simp)
      have HTC:=hide (text_ref T4 we ht4)
      go_wp2_with (refine wpList_load_row rfl 29 (.tmp 17) rfl b17 rfl 29 (brow T4) (0,0) _ ro17 Tryz.underlying29 rfl (rinfo ht4) ?_)
      refine (uh HTC).mono ?_
      rintro _ wf ⟨rfl,hkf⟩
      have HG4:=hide ((uh HG3).next hkf)
      clear hkf HTC ro17 HG3
      go_upto_region 23 with fail
      have HON:=hide (one_ref (pathS s).size wf.drew (by omega))
      have zo:(opS s).size=1:=bs_size _
      have zw:(⟨(whoS key s).toArray⟩:ByteArray).size=32:=htw
      have zb:(⟨T3.toArray⟩:ByteArray).size=32:=ht3
      have zc:(⟨T4.toArray⟩:ByteArray).size=32:=ht4
      have hc0:∀ W,(Instr.sliceAt 9 (.string a) none (some (.int .i64 1)) none).run Tryz.prog W=.ok (.string (a.extract 0 1)) W:=fun W=>cut_str a 1 ha1 W
      have za:(a.extract 0 1).size=1:=by rw [ByteArray.size_extract];omega
      have z1:(bs [UInt8.ofNat (pathS s).size]).size=1:=bs_size _
      have HEE:=hide (show entB key E s a=X2++opS s++(⟨(whoS key s).toArray⟩:ByteArray)++bs [UInt8.ofNat (pathS s).size]++pathS s++(⟨T3.toArray⟩:ByteArray)++a.extract 0 1++(⟨T4.toArray⟩:ByteArray) from uh HE)
      clear HE
      generalize (⟨(whoS key s).toArray⟩:ByteArray)=XW at *
      generalize (⟨T3.toArray⟩:ByteArray)=XB at *
      generalize (⟨T4.toArray⟩:ByteArray)=XC at *
      generalize opS s=XO at *
      generalize a.extract 0 1=XA at *
      generalize bs [UInt8.ofNat (pathS s).size]=X1 at *
      generalize pathS s=XP at *
      obtain ⟨Y1,hY1⟩:∃ Y,Y=X2++XO:=⟨_,rfl⟩
      have y1:Y1.size=37:=by rw [hY1,ByteArray.size_append];omega
      obtain ⟨Y2,hY2⟩:∃ Y,Y=Y1++XW:=⟨_,rfl⟩
      have y2:Y2.size=69:=by rw [hY2,ByteArray.size_append];omega
      obtain ⟨Y3,hY3⟩:∃ Y,Y=Y2++X1:=⟨_,rfl⟩
      have y3:Y3.size=70:=by rw [hY3,ByteArray.size_append];omega
      obtain ⟨Y4,hY4⟩:∃ Y,Y=Y3++XP:=⟨_,rfl⟩
      have y4:Y4.size≤86:=by rw [hY4,ByteArray.size_append];omega
      obtain ⟨Y5,hY5⟩:∃ Y,Y=Y4++XB:=⟨_,rfl⟩
      have y5:Y5.size≤118:=by rw [hY5,ByteArray.size_append];omega
      obtain ⟨Y6,hY6⟩:∃ Y,Y=Y5++XA:=⟨_,rfl⟩
      have y6:Y6.size≤119:=by rw [hY6,ByteArray.size_append];omega
      obtain ⟨Y7,hY7⟩:∃ Y,Y=Y6++XC:=⟨_,rfl⟩
      have n1:(9223372036854775807<X2.size+XO.size)=False:=eq_false (by omega)
      have n2:(9223372036854775807<Y1.size+XW.size)=False:=eq_false (by omega)
      have n3:(9223372036854775807<Y2.size+X1.size)=False:=eq_false (by omega)
      have n4:(9223372036854775807<Y3.size+XP.size)=False:=eq_false (by omega)
      have n5:(9223372036854775807<Y4.size+XB.size)=False:=eq_false (by omega)
      have n6:(9223372036854775807<Y5.size+XA.size)=False:=eq_false (by omega)
      have n7:(9223372036854775807<Y6.size+XC.size)=False:=eq_false (by omega)
      have HFIN:=hide (show entB key E s a=Y7 by rw [uh HEE,hY7,hY6,hY5,hY4,hY3,hY2,hY1])
      have g1:=hY1.symm
      have g2:=hY2.symm
      have g3:=hY3.symm
      have g4:=hY4.symm
      have g5:=hY5.symm
      have g6:=hY6.symm
      have g7:=hY7.symm
      clear hY1 hY2 hY3 hY4 hY5 hY6 hY7 HEE
      refine wp_region_held_drew (S:=fun _=>True) (by kernel_rfl) (trivial) (fun hHeld=>?_)
      refine tkL 2 [(0,some 101,.string X2),(1,some 102,.string XO)] (by kernel_rfl) (fun _ _ _ _ _ h=>h) (fun _ _=>by kernel_rfl) hHeld ?_
      simp only [zz0,zz1,zz2,zz4,zz5]
      refine tkG 2 (some 103) (.binOp .add 9 (.tmp 101) (.tmp 102) 9) 9 none (.string Y1) (by kernel_rfl) (fun _ _ _ h=>h) (Or.inl ⟨by kernel_rfl,fun W hW=>by simp [execOp,go_sem,n1,g1]⟩) hHeld ?_
      simp only [zz0,zz1,zz2]
      refine tkP 3 (some 104) (.string XW) (by kernel_rfl) (fun _ _ _ h=>h) (fun _ _=>by kernel_rfl) hHeld ?_
      simp only [zz0,zz1,zz2]
      refine tkG 4 (some 105) (.binOp .add 9 (.tmp 103) (.tmp 104) 9) 9 none (.string Y2) (by kernel_rfl) (fun _ _ _ h=>h) (Or.inl ⟨by kernel_rfl,fun W hW=>by simp [execOp,go_sem,n2,g2]⟩) hHeld ?_
      simp only [zz0,zz1,zz2]
      refine tkP 5 (some 106) (.string XP) (by kernel_rfl) (fun _ _ _ h=>h) (fun _ _=>by kernel_rfl) hHeld ?_
      simp only [zz0,zz1,zz2]
      refine tkG 6 (some 107) (.call { callee:=.builtin .len,args:=#[.tmp 106],argTypes:=#[9] }) 3 none (.int .i64 (XP.size:Int)) (by kernel_rfl) (fun _ _ _ h=>h) (Or.inl ⟨by kernel_rfl,fun W hW=>by go_simp⟩) hHeld ?_
      simp only [zz0,zz1,zz2]
      refine tkL 3 [(9,some 110,.string XP),(11,some 112,.string XB),(13,some 114,.string a)] (by kernel_rfl) (fun _ _ _ _ _ h=>h) (fun _ _=>by kernel_rfl) hHeld ?_
      simp only [zz0,zz1,zz2,zz4,zz5]
      refine tkG 14 (some 115) (.slice 9 (.tmp 114) none (some (.const (.int .i64 1))) none) 9 none (.string XA) (by kernel_rfl) (fun _ _ _ h=>h) (yieldsIf_cut (by kernel_rfl) (.tmp 114) (.const (.int .i64 1)) rfl hc0 (by kernel_rfl) (by kernel_rfl)) hHeld ?_
      simp only [zz0,zz1,zz2]
      refine tkP 16 (some 117) (.string XC) (by kernel_rfl) (fun _ _ _ h=>h) (fun _ _=>by kernel_rfl) hHeld ?_
      simp only [zz0,zz1,zz2]
      refine rd1 7 (some 108) (.call { callee:=.value (.func 121),args:=#[.tmp 107],argTypes:=#[3] }) 9 (by kernel_rfl) (fun K hK=>?_)
      go_simp
      refine (uh HON).mono ?_
      rintro _ wg ⟨rfl,hkg⟩
      have HG5:=hide ((uh HG4).next (show Kept wf.heap.size wf wg from ⟨hkg.os,hkg.output,hkg.size,hkg.block⟩))
      clear hkg
      show K _ wg
      refine hK.out _ _ (trivial) (fun hHeld7=>?_)
      clear hK K
      try simp only [zz0,zz1,zz2]
      refine tkG 8 (some 109) (.binOp .add 9 (.tmp 105) (.tmp 108) 9) 9 none (.string Y3) (by kernel_rfl) (fun _ _ _ h=>h) (Or.inl ⟨by kernel_rfl,fun W hW=>by simp [execOp,go_sem,n3,g3]⟩) hHeld7 ?_
      simp only [zz0,zz1,zz2]
      refine tkG 10 (some 111) (.binOp .add 9 (.tmp 109) (.tmp 110) 9) 9 none (.string Y4) (by kernel_rfl) (fun _ _ _ h=>h) (Or.inl ⟨by kernel_rfl,fun W hW=>by simp [execOp,go_sem,n4,g4]⟩) hHeld7 ?_
      simp only [zz0,zz1,zz2]
      refine tkG 12 (some 113) (.binOp .add 9 (.tmp 111) (.tmp 112) 9) 9 none (.string Y5) (by kernel_rfl) (fun _ _ _ h=>h) (Or.inl ⟨by kernel_rfl,fun W hW=>by simp [execOp,go_sem,n5,g5]⟩) hHeld7 ?_
      simp only [zz0,zz1,zz2]
      refine tkG 15 (some 116) (.binOp .add 9 (.tmp 113) (.tmp 115) 9) 9 none (.string Y6) (by kernel_rfl) (fun _ _ _ h=>h) (Or.inl ⟨by kernel_rfl,fun W hW=>by simp [execOp,go_sem,n6,g6]⟩) hHeld7 ?_
      simp only [zz0,zz1,zz2]
      refine tkG 17 (some 118) (.binOp .add 9 (.tmp 116) (.tmp 117) 9) 9 none (.string Y7) (by kernel_rfl) (fun _ _ _ h=>h) (Or.inl ⟨by kernel_rfl,fun W hW=>by simp [execOp,go_sem,n7,g7]⟩) hHeld7 ?_
      simp only [zz0,zz1,zz2]
      refine tkP 18 (some 6) (.string Y7) (by kernel_rfl) (fun _ _ _ h=>h) (fun _ _=>by kernel_rfl) hHeld7 ?_
      simp only [zz0,zz1,zz2]
      refine wpAnyH_done (by kernel_rfl) ?_ _
      clear n1 n2 n3 n4 n5 n6 n7 g1 g2 g3 g4 g5 g6 g7
      go_wp2_with fail
      go_ret
      exact ⟨by rw [uh HFIN];rfl,(uh HG5).kept⟩
end Go.Proofs.YtlbacbcenejngaaGreatDoor
namespace Go.Proofs.YtlbacbcenejngaaGreatDoor
open Go.RowKit
theorem wp_append_src {α:Type} {f:α→List Value} {t e z bytes:Nat} (k:Wide f t e z bytes) {w:World} {o:Oper} {act:Act} {K:Act→World→Prop} {Q:Exit→Act→World→Prop} (s x:Operand)
  (ho:o.op=.call { callee:=.builtin .append,args:=#[s,x],argTypes:=#[t,t] }) (B:Nat) (v:Value) (l m:List α) (hs:act.eval s=v) (hown:w.ownsRow B e z v l.length (l.flatMap f)) (vx:Value) (hx:act.eval x=vx) (hsrc:SrcAt f w vx m)
  (hone:∀ u∈m.flatMap f,u.oneCell'=true) (hl:l.length+m.length≤100000000) (hB:B≤w.heap.size)
  (h:∀ v' w',w'.ownsRow B e z v' (l++m).length ((l++m).flatMap f)→w.grownBy w' v.ownBlock→(v'.ownBlock=v.ownBlock∨v'.ownBlock=some w.heap.size)→K (act.put o.dst v') w'):o.wp Tryz.prog act w K Q:=by
 rcases hsrc with ⟨rfl,rfl⟩ | ⟨a,c,rfl,hsrc⟩
 ·obtain ⟨i,zv,hi,h0,h1,h2,h3⟩:=k.info
  have hrun:=run_append_owned_none (P:=Tryz.prog) (w:=w) B t o.type e i z k.und hi v l.length (l.flatMap f) hown
  have:=h v w (by rw [List.append_nil];exact hown) ⟨rfl,rfl,rfl,Nat.le_refl _,fun _ _ _=>rfl⟩ (.inl rfl)
  unfold Oper.wp
  simp [execOp,ho,resolve,invoke,builtin,hs,hx,hrun,Result.andThen]
  exact this
 ·exact wp_append_all k s x ho B v l m hs hown a c hx hsrc hone hl hB h
section
variable {B:Nat} {w w2:World} {rp:Nat} {g g':RG} {key root:ByteArray} {secs secs':List Sc} {toks toks':List (ByteArray × Tok)} {E E':List ByteArray} {H H':List Nat}
theorem RVAt.setF (h:RVAt B w rp g key root secs toks E H) {j:Nat} {v':Value} (hr:(#[.string key,.string root,g.sv,g.tv,g.lv,g.hv]:Array Value).setIfInBounds j v'=#[.string key,.string root,g'.sv,g'.tv,g'.lv,g'.hv]) (hs:w.ownsRow B 248 3 g'.sv secs'.length (sccells secs'))
  (hv:∀ c∈secs',w.ownsRow B 250 2 c.L c.pth.vers.length (vrcells c.pth.vers)) (ht:w.ownsRow B 155 3 g'.tv toks'.length (tkcells toks')) (hl:w.ownsRow B 9 1 g'.lv E'.length (E'.map .string)) (hh:w.ownsRow B 3 1 g'.hv H'.length (H'.map fun n:Nat=>Value.int .i64 (n:Int))) :
  RVAt B (w.setCell ⟨rp,j,none⟩ v') rp g' key root secs' toks' E' H':=by
 have oth:∀ k,k≠rp→(w.setCell ⟨rp,j,none⟩ v').heap[k]?=w.heap[k]?:=fun k hk=>heap_setCell_other _ _ _ _ hk
 refine ⟨?_,own_blocks hs fun k hk=>oth k fun e=>h.ne hs (by decide) hk e.symm,fun c hc=>own_blocks (hv c hc) fun k hk=>oth k fun e=>h.ne (hv c hc) (by decide) hk e.symm,own_blocks ht fun k hk=>oth k fun e=>h.ne ht (by decide) hk e.symm,own_blocks hl fun k hk=>oth k fun e=>h.ne hl (by decide) hk e.symm,own_blocks hh fun k hk=>oth k fun e=>h.ne hh (by decide) hk e.symm,h.ge⟩
 exact (heap_setCell_same _ _ _ _ _ _ h.at').trans (congrArg (fun x=>some (Obj.cells x 153 (0,0))) hr)
end
theorem wp_store_t82 {w:World} {o:Oper} {a:Act} {K:Act→World→Prop} {Q:Exit→Act→World→Prop} (x y:Operand) (ho:o.op=.store 82 x y) (p:Addr) (hx:a.eval x=.pointer (some p)) {sa:Option Addr} {sn sc:Nat} (hy:a.eval y=.slice sa sn sc) (u:Value) (hc:w.cell? p=some u) (hf:w.frozen? p=false) (h:K (a.put o.dst undef) (w.setCell p (.slice sa sn sc))):o.wp Tryz.prog a w K Q:=by
 have hu:=Tryz.underlying82
 unfold Oper.wp execOp
 simp only [ho,hx,hy]
 go_simp
 exact h
theorem wp_store_t38 {w:World} {o:Oper} {a:Act} {K:Act→World→Prop} {Q:Exit→Act→World→Prop} (x y:Operand) (ho:o.op=.store 38 x y) (p:Addr) (hx:a.eval x=.pointer (some p)) {sa:Option Addr} {sn sc:Nat} (hy:a.eval y=.slice sa sn sc) (u:Value) (hc:w.cell? p=some u) (hf:w.frozen? p=false) (h:K (a.put o.dst undef) (w.setCell p (.slice sa sn sc))):o.wp Tryz.prog a w K Q:=by
 have hu:=Tryz.underlying38
 unfold Oper.wp execOp
 simp only [ho,hx,hy]
 go_simp
 exact h
def cpEnd (B:Nat) (w:World) (key root:ByteArray) (secs:List Sc) (toks:List (ByteArray × Tok)) (E:List ByteArray) (H:List Nat) (e:Ending) (w':World):Prop :=
 ∃ cp g',e=.returned (.pointer (some ⟨cp,0,none⟩))∧RVAt B w' cp g' key root secs toks E H∧Kept w.heap.size w w'∧w.heap.size≤cp∧(∀ k,g'.sv.ownBlock=some k∨g'.tv.ownBlock=some k∨g'.lv.ownBlock=some k∨g'.hv.ownBlock=some k→w.heap.size≤k)
structure CpA (B:Nat) (w:World) (rp:Nat) (g:RG) (key root:ByteArray) (secs:List Sc) (toks:List (ByteArray × Tok)) (E:List ByteArray) (H:List Nat) (cp:Nat) (g':RG) (s':List Sc) (t':List (ByteArray × Tok)) (E':List ByteArray) (H':List Nat) (wx:World):Prop where
 own:RVAt B wx rp g key root secs toks E H
 cpy:RVAt B wx cp g' key root s' t' E' H'
 kept:Kept w.heap.size w wx
 ge:w.heap.size≤cp
 new:∀ k,g'.sv.ownBlock=some k∨g'.tv.ownBlock=some k∨g'.lv.ownBlock=some k∨g'.hv.ownBlock=some k→w.heap.size≤k
theorem src_kept {α:Type} {f:α→List Value} {w:World} {v:Value} {m:List α} (h:SrcAt f w v m):SrcAt f w.drew v m:=h
set_option maxRecDepth 100000 in
set_option maxHeartbeats 4000000 in
theorem copy_ref (B:Nat) (w:World) (rp:Nat) (g:RG) (key root:ByteArray) (secs:List Sc) (toks:List (ByteArray × Tok)) (E:List ByteArray) (H:List Nat) (h:RVAt B w rp g key root secs toks E H) (hB:B≤w.heap.size) (hs:secs.length≤100000000) (ht:toks.length≤100000000) (hE:E.length≤100000000) (hH:H.length≤100000000) :
  Calls Tryz.prog 115 #[.pointer (some ⟨rp,0,none⟩)] w (cpEnd B w key root secs toks E H):=by
 have H0:=hide h
 have hk0:w.cell? ⟨rp,0,none⟩=some (.string key):=(h.c 0).trans rfl
 have hk1:w.cell? ⟨rp,1,none⟩=some (.string root):=(h.c 1).trans rfl
 have hrpl:rp<w.heap.size:=(h.foot (.inl rfl)).1
 clear h
 go_enter Tryz.func115,Tryz.ntmps115
 go_upto_region 1 with fail
 refine wp_region_held_drew (S:=fun W=>W.cell? ⟨rp,0,none⟩=some (.string key)∧W.cell? ⟨rp,1,none⟩=some (.string root)) (by kernel_rfl) (⟨hk0,hk1⟩) (fun hHeld=>?_)
 refine tkL 3 [(0,some 4,.pointer (some ⟨rp,0,none⟩)),(1,some 5,.pointer (some ⟨rp,0,none⟩)),(2,some 6,.pointer (some ⟨rp,0,none⟩))] (by kernel_rfl) (fun _ _ _ _ _ h=>h) (fun _ _=>by kernel_rfl) hHeld ?_
 simp only [zz0,zz1,zz2,zz4,zz5]
 refine tkG 3 (some 7) (.load 9 (.tmp 6)) 9 none (.string key) (by kernel_rfl) (fun _ _ _ h=>h) (Or.inl ⟨by kernel_rfl,fun W hW=>by simp [execOp,go_sem,hW.1]⟩) hHeld ?_
 simp only [zz0,zz1,zz2]
 refine tkL 3 [(4,some 8,.pointer (some ⟨rp,0,none⟩)),(5,some 9,.pointer (some ⟨rp,0,none⟩)),(6,some 10,.pointer (some ⟨rp,1,none⟩))] (by kernel_rfl) (fun _ _ _ _ _ h=>h) (fun _ _=>by kernel_rfl) hHeld ?_
 simp only [zz0,zz1,zz2,zz4,zz5]
 refine tkG 7 (some 11) (.load 9 (.tmp 10)) 9 none (.string root) (by kernel_rfl) (fun _ _ _ h=>h) (Or.inl ⟨by kernel_rfl,fun W hW=>by simp [execOp,go_sem,hW.2]⟩) hHeld ?_
 simp only [zz0,zz1,zz2]
 refine tkG 8 (some 12) (.build 153 #[(0,.tmp 7),(1,.tmp 11)]) 153 none (.agg #[.string key,.string root,.slice none 0 0,.slice none 0 0,.slice none 0 0,.slice none 0 0]) (by kernel_rfl) (fun _ _ _ h=>h) (Or.inl ⟨by kernel_rfl,fun W hW=>by go_simp⟩) hHeld ?_
 simp only [zz0,zz1,zz2]
 refine rd1 9 (some 13) (.box 153 (.tmp 12)) 99 (by kernel_rfl) (fun K hK=>?_)
 go_simp
 obtain ⟨w1,hw1⟩:∃ w1,w1=w.drew.alloc (.cells #[.string key,.string root,.slice none 0 0,.slice none 0 0,.slice none 0 0,.slice none 0 0] 153):=⟨_,rfl⟩
 have HK1:=hide (show Kept w.heap.size w w1 by rw [hw1];exact (show Kept w.heap.size w w.drew from (Kept.refl _ _).draws 1).alloc (Nat.le_refl _) _)
 have HC:=hide (show CpA B w rp g key root secs toks E H w.heap.size ⟨.slice none 0 0,.slice none 0 0,.slice none 0 0,.slice none 0 0⟩ [] [] [] [] w1 from
  ⟨(uh H0).keep (uh HK1),⟨by rw [hw1];exact heap_alloc_new w.drew _,World.ownsRow_nil _ _ _ _,fun c hc=>(nomatch hc),World.ownsRow_nil _ _ _ _,World.ownsRow_nil _ _ _ _,World.ownsRow_nil _ _ _ _,hB⟩,uh HK1,Nat.le_refl _,fun k hk=>by rcases hk with hk | hk | hk | hk <;> cases hk⟩)
 show K _ (w.drew.alloc (.cells #[.string key,.string root,.slice none 0 0,.slice none 0 0,.slice none 0 0,.slice none 0 0] 153))
 rw [← hw1]
 clear hw1
 refine hK.out _ _ (⟨((uh HC).own.c 0).trans rfl,((uh HC).own.c 1).trans rfl⟩) (fun hHeld9=>?_)
 clear hK K
 try simp only [zz0,zz1,zz2]
 refine tkP 10 (some 3) (.pointer (some ⟨w.heap.size,0,none⟩)) (by kernel_rfl) (fun _ _ _ h=>h) (fun _ _=>by kernel_rfl) hHeld9 ?_
 simp only [zz0,zz1,zz2]
 refine wpAnyH_done (by kernel_rfl) ?_ _
 have HGE:=hide (show w.heap.size≤w.heap.size from Nat.le_refl _)
 clear hk0 hk1
 generalize hcp:w.heap.size=cp at HC ⊢
 clear HK1 HGE hcp
 obtain ⟨sa2,sc2,hsv2,_,_⟩:=own_len (uh HC).own.sec
 have hv2:w1.cell? ⟨rp,2,none⟩=some (.slice sa2 secs.length sc2):=(((uh HC).own.c 2).trans rfl).trans (congrArg some hsv2)
 have hx2:w1.cell? ⟨cp,2,none⟩=some (.slice none 0 0):=((uh HC).cpy.c 2).trans rfl
 have HSRC:=hide (show SrcAt Sc.cell w1 (.slice sa2 secs.length sc2) secs by
  have:=(uh HC).own.sec
  rw [hsv2] at this
  exact src_own this)
 have HCR:=hide hx2
 clear hsv2
 go_upto_region 2 with fail
 refine wp_region_held_drew (S:=fun W=>W.cell? ⟨rp,2,none⟩=some (.slice sa2 secs.length sc2)) (by kernel_rfl) (hv2) (fun hHeld=>?_)
 refine tkL 7 [(0,some 14,.pointer (some ⟨cp,0,none⟩)),(1,some 15,.pointer (some ⟨cp,0,none⟩)),(2,some 16,.pointer (some ⟨cp,0,none⟩)),(3,some 17,.pointer (some ⟨cp,2,none⟩)),(5,some 19,.pointer (some ⟨rp,0,none⟩)),(6,some 20,.pointer (some ⟨rp,0,none⟩)),(7,some 21,.pointer (some ⟨rp,2,none⟩))] (by kernel_rfl) (fun _ _ _ _ _ h=>h) (fun _ _=>by kernel_rfl) hHeld ?_
 simp only [zz0,zz1,zz2,zz4,zz5]
 refine tkG 8 (some 22) (.load 150 (.tmp 21)) 150 none (.slice sa2 secs.length sc2) (by kernel_rfl) (fun _ _ _ h=>h) (Or.inl ⟨by kernel_rfl,fun W hW=>by simp [execOp,go_sem,hW]⟩) hHeld ?_
 simp only [zz0,zz1,zz2]
 refine rd1 4 (some 18) (.load 150 (.tmp 17)) 150 (by kernel_rfl) (fun K hK=>?_)
 go_simp
 show K _ w1.drew
 refine hK.out _ _ (hv2) (fun hHeld4=>?_)
 clear hK K
 try simp only [zz0,zz1,zz2]
 refine rd1 9 (some 23) (.call { callee:=.builtin .append,args:=#[.tmp 18,.tmp 22],argTypes:=#[150,150] }) 150 (by kernel_rfl) (fun K hK=>?_)
 refine wp_append_src wideSec (.tmp 18) (.tmp 22) rfl B (.slice none 0 0) [] secs (by kernel_rfl) (World.ownsRow_nil _ _ _ _) (.slice sa2 secs.length sc2) (by kernel_rfl) (src_kept (uh HSRC)) (oneSec fun c hc=>by obtain ⟨x,y,z,_⟩:=own_len ((uh HC).own.ver c hc);exact ⟨x,_,y,z⟩) (by rw [List.length_nil];omega) (by have:=(uh HC).kept.size;show B≤w1.heap.size;omega) ?_
 intro v' w2 ho2 hg2 hb2
 rw [List.nil_append] at ho2
 have hk2:Kept w1.heap.size w1 w2:=⟨hg2.os,hg2.output,hg2.size,fun k hk=>hg2.block k hk (by simp [Value.ownBlock])⟩
 have hnew:∀ k,v'.ownBlock=some k→w1.heap.size≤k:=fun k hk=>by
  rcases hb2 with e | e
  ·rw [e] at hk;cases hk
  ·rw [e] at hk;simp at hk;omega
 
 obtain ⟨va2,vc2,hv',_,_⟩:=own_len ho2
 subst hv'
 have HO2:=hide ho2
 have HNEW:=hide hnew
 have HC2:=hide (show CpA B w rp g key root secs toks E H cp ⟨.slice none 0 0,.slice none 0 0,.slice none 0 0,.slice none 0 0⟩ [] [] [] [] w2 from ⟨(uh HC).own.keep (hk2),(uh HC).cpy.keep hk2,(uh HC).kept.trans (hk2.mono (uh HC).kept.size),(uh HC).ge,(uh HC).new⟩)
 have HK3:=hide (show Kept w.heap.size w (w2.setCell ⟨cp,2,none⟩ (.slice va2 secs.length vc2)) from (uh HC2).kept.setCell (p:=⟨cp,2,none⟩) (uh HC).ge _)
 have hgx:w.heap.size≤w1.heap.size:=(uh HC).kept.size
 have HC3:=hide (show CpA B w rp g key root secs toks E H cp ⟨.slice va2 secs.length vc2,.slice none 0 0,.slice none 0 0,.slice none 0 0⟩ secs [] [] [] (w2.setCell ⟨cp,2,none⟩ (.slice va2 secs.length vc2)) from
  ⟨(uh H0).keep (uh HK3),(uh HC2).cpy.setF rfl (uh HO2) (uh HC2).own.ver (uh HC2).cpy.tok (uh HC2).cpy.log (uh HC2).cpy.hav,uh HK3,(uh HC).ge,fun k hk=>by
   rcases hk with hk | hk | hk | hk
   all_goals first | exact Nat.le_trans hgx (uh HNEW k hk) | exact (uh HC).new k (.inl hk) | exact (uh HC).new k (.inr (.inl hk)) | exact (uh HC).new k (.inr (.inr (.inl hk))) | exact (uh HC).new k (.inr (.inr (.inr hk)))⟩)
 have s2:w2.cell? ⟨rp,2,none⟩=some (.slice sa2 secs.length sc2):=(hk2.cell (p:=⟨rp,2,none⟩) (World.block_lt_of_cell? _ _ hv2)).trans hv2
 have hxx:w2.cell? ⟨cp,2,none⟩=some (.slice none 0 0):=((uh HC2).cpy.c 2).trans rfl
 have hfz:w2.frozen? ⟨cp,2,none⟩=false:=frozen_of_row _ _ _ _ _ (uh HC2).cpy.at'
 clear ho2 hg2 hb2 hk2 hnew
 refine hK.out _ _ (s2) (fun hHeld9=>?_)
 clear hK K
 try simp only [zz0,zz1,zz2]
 refine tkL 2 [(10,some 24,.pointer (some ⟨cp,0,none⟩)),(11,some 25,.pointer (some ⟨cp,2,none⟩))] (by kernel_rfl) (fun _ _ _ _ _ h=>h) (fun _ _=>by kernel_rfl) hHeld9 ?_
 simp only [zz0,zz1,zz2,zz4,zz5]
 refine rd1 12 none (.store 150 (.tmp 25) (.tmp 23)) 0 (by kernel_rfl) (fun K hK=>?_)
 refine wp_store_150 (sa:=va2) (sn:=secs.length) (sc:=vc2) (.tmp 25) (.tmp 23) rfl ⟨cp,2,none⟩ (by kernel_rfl) (by kernel_rfl) (.slice none 0 0) hxx hfz ?_
 have s3:(w2.setCell ⟨cp,2,none⟩ (.slice va2 secs.length vc2)).cell? ⟨rp,2,none⟩=some (.slice sa2 secs.length sc2):=((uh HC3).own.c 2).trans (((uh HC).own.c 2).symm.trans hv2)
 generalize w2.setCell ⟨cp,2,none⟩ (.slice va2 secs.length vc2)=w2z at HC3 HK3 s3 ⊢
 refine hK.out _ _ (s3) (fun hHeld12=>?_)
 clear hK K
 try simp only [zz3]
 refine wpAnyH_done (by kernel_rfl) ?_ _
 clear s2 s3 hxx hfz hv2 hx2 HCR HSRC HO2 HNEW HC2 HC HK3 hgx
 have HC:=hide (uh HC3)
 clear HC3
 obtain ⟨sa3,sc3,hsv3,_,_⟩:=own_len (uh HC).own.tok
 have hv3:w2z.cell? ⟨rp,3,none⟩=some (.slice sa3 toks.length sc3):=(((uh HC).own.c 3).trans rfl).trans (congrArg some hsv3)
 have hx3:w2z.cell? ⟨cp,3,none⟩=some (.slice none 0 0):=((uh HC).cpy.c 3).trans rfl
 have HSRC:=hide (show SrcAt tkcell w2z (.slice sa3 toks.length sc3) toks by
  have:=(uh HC).own.tok
  rw [hsv3] at this
  exact src_own this)
 have HCR:=hide hx3
 clear hsv3
 go_upto_region 3 with fail
 refine wp_region_held_drew (S:=fun W=>W.cell? ⟨rp,3,none⟩=some (.slice sa3 toks.length sc3)) (by kernel_rfl) (hv3) (fun hHeld=>?_)
 refine tkL 7 [(0,some 26,.pointer (some ⟨cp,0,none⟩)),(1,some 27,.pointer (some ⟨cp,0,none⟩)),(2,some 28,.pointer (some ⟨cp,0,none⟩)),(3,some 29,.pointer (some ⟨cp,3,none⟩)),(5,some 31,.pointer (some ⟨rp,0,none⟩)),(6,some 32,.pointer (some ⟨rp,0,none⟩)),(7,some 33,.pointer (some ⟨rp,3,none⟩))] (by kernel_rfl) (fun _ _ _ _ _ h=>h) (fun _ _=>by kernel_rfl) hHeld ?_
 simp only [zz0,zz1,zz2,zz4,zz5]
 refine tkG 8 (some 34) (.load 151 (.tmp 33)) 151 none (.slice sa3 toks.length sc3) (by kernel_rfl) (fun _ _ _ h=>h) (Or.inl ⟨by kernel_rfl,fun W hW=>by simp [execOp,go_sem,hW]⟩) hHeld ?_
 simp only [zz0,zz1,zz2]
 refine rd1 4 (some 30) (.load 151 (.tmp 29)) 151 (by kernel_rfl) (fun K hK=>?_)
 go_simp
 show K _ w2z.drew
 refine hK.out _ _ (hv3) (fun hHeld4=>?_)
 clear hK K
 try simp only [zz0,zz1,zz2]
 refine rd1 9 (some 35) (.call { callee:=.builtin .append,args:=#[.tmp 30,.tmp 34],argTypes:=#[151,151] }) 151 (by kernel_rfl) (fun K hK=>?_)
 refine wp_append_src wideTok (.tmp 30) (.tmp 34) rfl B (.slice none 0 0) [] toks (by kernel_rfl) (World.ownsRow_nil _ _ _ _) (.slice sa3 toks.length sc3) (by kernel_rfl) (src_kept (uh HSRC)) (oneTok _) (by rw [List.length_nil];omega) (by have:=(uh HC).kept.size;show B≤w2z.heap.size;omega) ?_
 intro v' w2 ho2 hg2 hb2
 rw [List.nil_append] at ho2
 have hk2:Kept w2z.heap.size w2z w2:=⟨hg2.os,hg2.output,hg2.size,fun k hk=>hg2.block k hk (by simp [Value.ownBlock])⟩
 have hnew:∀ k,v'.ownBlock=some k→w2z.heap.size≤k:=fun k hk=>by
  rcases hb2 with e | e
  ·rw [e] at hk;cases hk
  ·rw [e] at hk;simp at hk;omega
 
 obtain ⟨va3,vc3,hv',_,_⟩:=own_len ho2
 subst hv'
 have HO2:=hide ho2
 have HNEW:=hide hnew
 have HC2:=hide (show CpA B w rp g key root secs toks E H cp ⟨.slice va2 secs.length vc2,.slice none 0 0,.slice none 0 0,.slice none 0 0⟩ secs [] [] [] w2 from ⟨(uh HC).own.keep (hk2),(uh HC).cpy.keep hk2,(uh HC).kept.trans (hk2.mono (uh HC).kept.size),(uh HC).ge,(uh HC).new⟩)
 have HK3:=hide (show Kept w.heap.size w (w2.setCell ⟨cp,3,none⟩ (.slice va3 toks.length vc3)) from (uh HC2).kept.setCell (p:=⟨cp,3,none⟩) (uh HC).ge _)
 have hgx:w.heap.size≤w2z.heap.size:=(uh HC).kept.size
 have HC3:=hide (show CpA B w rp g key root secs toks E H cp ⟨.slice va2 secs.length vc2,.slice va3 toks.length vc3,.slice none 0 0,.slice none 0 0⟩ secs toks [] [] (w2.setCell ⟨cp,3,none⟩ (.slice va3 toks.length vc3)) from
  ⟨(uh H0).keep (uh HK3),(uh HC2).cpy.setF rfl (uh HC2).cpy.sec (uh HC2).cpy.ver (uh HO2) (uh HC2).cpy.log (uh HC2).cpy.hav,uh HK3,(uh HC).ge,fun k hk=>by
   rcases hk with hk | hk | hk | hk
   all_goals first | exact Nat.le_trans hgx (uh HNEW k hk) | exact (uh HC).new k (.inl hk) | exact (uh HC).new k (.inr (.inl hk)) | exact (uh HC).new k (.inr (.inr (.inl hk))) | exact (uh HC).new k (.inr (.inr (.inr hk)))⟩)
 have s2:w2.cell? ⟨rp,3,none⟩=some (.slice sa3 toks.length sc3):=(hk2.cell (p:=⟨rp,3,none⟩) (World.block_lt_of_cell? _ _ hv3)).trans hv3
 have hxx:w2.cell? ⟨cp,3,none⟩=some (.slice none 0 0):=((uh HC2).cpy.c 3).trans rfl
 have hfz:w2.frozen? ⟨cp,3,none⟩=false:=frozen_of_row _ _ _ _ _ (uh HC2).cpy.at'
 clear ho2 hg2 hb2 hk2 hnew
 refine hK.out _ _ (s2) (fun hHeld9=>?_)
 clear hK K
 try simp only [zz0,zz1,zz2]
 refine tkL 2 [(10,some 36,.pointer (some ⟨cp,0,none⟩)),(11,some 37,.pointer (some ⟨cp,3,none⟩))] (by kernel_rfl) (fun _ _ _ _ _ h=>h) (fun _ _=>by kernel_rfl) hHeld9 ?_
 simp only [zz0,zz1,zz2,zz4,zz5]
 refine rd1 12 none (.store 151 (.tmp 37) (.tmp 35)) 0 (by kernel_rfl) (fun K hK=>?_)
 refine wp_store_151 (sa:=va3) (sn:=toks.length) (sc:=vc3) (.tmp 37) (.tmp 35) rfl ⟨cp,3,none⟩ (by kernel_rfl) (by kernel_rfl) (.slice none 0 0) hxx hfz ?_
 have s3:(w2.setCell ⟨cp,3,none⟩ (.slice va3 toks.length vc3)).cell? ⟨rp,3,none⟩=some (.slice sa3 toks.length sc3):=((uh HC3).own.c 3).trans (((uh HC).own.c 3).symm.trans hv3)
 generalize w2.setCell ⟨cp,3,none⟩ (.slice va3 toks.length vc3)=w3z at HC3 HK3 s3 ⊢
 refine hK.out _ _ (s3) (fun hHeld12=>?_)
 clear hK K
 try simp only [zz3]
 refine wpAnyH_done (by kernel_rfl) ?_ _
 clear s2 s3 hxx hfz hv3 hx3 HCR HSRC HO2 HNEW HC2 HC HK3 hgx
 have HC:=hide (uh HC3)
 clear HC3
 obtain ⟨sa4,sc4,hsv4,_,_⟩:=own_len (uh HC).own.log
 have hv4:w3z.cell? ⟨rp,4,none⟩=some (.slice sa4 E.length sc4):=(((uh HC).own.c 4).trans rfl).trans (congrArg some hsv4)
 have hx4:w3z.cell? ⟨cp,4,none⟩=some (.slice none 0 0):=((uh HC).cpy.c 4).trans rfl
 have HSRC:=hide (show SrcAt strcell w3z (.slice sa4 E.length sc4) E by
  have:=(uh HC).own.log
  rw [hsv4,← strcells] at this
  exact src_own this)
 have HCR:=hide hx4
 clear hsv4
 go_upto_region 4 with fail
 refine wp_region_held_drew (S:=fun W=>W.cell? ⟨rp,4,none⟩=some (.slice sa4 E.length sc4)) (by kernel_rfl) (hv4) (fun hHeld=>?_)
 refine tkL 7 [(0,some 38,.pointer (some ⟨cp,0,none⟩)),(1,some 39,.pointer (some ⟨cp,0,none⟩)),(2,some 40,.pointer (some ⟨cp,0,none⟩)),(3,some 41,.pointer (some ⟨cp,4,none⟩)),(5,some 43,.pointer (some ⟨rp,0,none⟩)),(6,some 44,.pointer (some ⟨rp,0,none⟩)),(7,some 45,.pointer (some ⟨rp,4,none⟩))] (by kernel_rfl) (fun _ _ _ _ _ h=>h) (fun _ _=>by kernel_rfl) hHeld ?_
 simp only [zz0,zz1,zz2,zz4,zz5]
 refine tkG 8 (some 46) (.load 82 (.tmp 45)) 82 none (.slice sa4 E.length sc4) (by kernel_rfl) (fun _ _ _ h=>h) (Or.inl ⟨by kernel_rfl,fun W hW=>by simp [execOp,go_sem,hW]⟩) hHeld ?_
 simp only [zz0,zz1,zz2]
 refine rd1 4 (some 42) (.load 82 (.tmp 41)) 82 (by kernel_rfl) (fun K hK=>?_)
 go_simp
 show K _ w3z.drew
 refine hK.out _ _ (hv4) (fun hHeld4=>?_)
 clear hK K
 try simp only [zz0,zz1,zz2]
 refine rd1 9 (some 47) (.call { callee:=.builtin .append,args:=#[.tmp 42,.tmp 46],argTypes:=#[82,82] }) 82 (by kernel_rfl) (fun K hK=>?_)
 refine wp_append_src wideStr (.tmp 42) (.tmp 46) rfl B (.slice none 0 0) [] E (by kernel_rfl) (World.ownsRow_nil _ _ _ _) (.slice sa4 E.length sc4) (by kernel_rfl) (src_kept (uh HSRC)) (oneStr _) (by rw [List.length_nil];omega) (by have:=(uh HC).kept.size;show B≤w3z.heap.size;omega) ?_
 intro v' w2 ho2 hg2 hb2
 rw [List.nil_append] at ho2
 have hk2:Kept w3z.heap.size w3z w2:=⟨hg2.os,hg2.output,hg2.size,fun k hk=>hg2.block k hk (by simp [Value.ownBlock])⟩
 have hnew:∀ k,v'.ownBlock=some k→w3z.heap.size≤k:=fun k hk=>by
  rcases hb2 with e | e
  ·rw [e] at hk;cases hk
  ·rw [e] at hk;simp at hk;omega
 
 obtain ⟨va4,vc4,hv',_,_⟩:=own_len ho2
 rw [strcells] at ho2
 subst hv'
 have HO2:=hide ho2
 have HNEW:=hide hnew
 have HC2:=hide (show CpA B w rp g key root secs toks E H cp ⟨.slice va2 secs.length vc2,.slice va3 toks.length vc3,.slice none 0 0,.slice none 0 0⟩ secs toks [] [] w2 from ⟨(uh HC).own.keep (hk2),(uh HC).cpy.keep hk2,(uh HC).kept.trans (hk2.mono (uh HC).kept.size),(uh HC).ge,(uh HC).new⟩)
 have HK3:=hide (show Kept w.heap.size w (w2.setCell ⟨cp,4,none⟩ (.slice va4 E.length vc4)) from (uh HC2).kept.setCell (p:=⟨cp,4,none⟩) (uh HC).ge _)
 have hgx:w.heap.size≤w3z.heap.size:=(uh HC).kept.size
 have HC3:=hide (show CpA B w rp g key root secs toks E H cp ⟨.slice va2 secs.length vc2,.slice va3 toks.length vc3,.slice va4 E.length vc4,.slice none 0 0⟩ secs toks E [] (w2.setCell ⟨cp,4,none⟩ (.slice va4 E.length vc4)) from
  ⟨(uh H0).keep (uh HK3),(uh HC2).cpy.setF rfl (uh HC2).cpy.sec (uh HC2).cpy.ver (uh HC2).cpy.tok (uh HO2) (uh HC2).cpy.hav,uh HK3,(uh HC).ge,fun k hk=>by
   rcases hk with hk | hk | hk | hk
   all_goals first | exact Nat.le_trans hgx (uh HNEW k hk) | exact (uh HC).new k (.inl hk) | exact (uh HC).new k (.inr (.inl hk)) | exact (uh HC).new k (.inr (.inr (.inl hk))) | exact (uh HC).new k (.inr (.inr (.inr hk)))⟩)
 have s2:w2.cell? ⟨rp,4,none⟩=some (.slice sa4 E.length sc4):=(hk2.cell (p:=⟨rp,4,none⟩) (World.block_lt_of_cell? _ _ hv4)).trans hv4
 have hxx:w2.cell? ⟨cp,4,none⟩=some (.slice none 0 0):=((uh HC2).cpy.c 4).trans rfl
 have hfz:w2.frozen? ⟨cp,4,none⟩=false:=frozen_of_row _ _ _ _ _ (uh HC2).cpy.at'
 clear ho2 hg2 hb2 hk2 hnew
 refine hK.out _ _ (s2) (fun hHeld9=>?_)
 clear hK K
 try simp only [zz0,zz1,zz2]
 refine tkL 2 [(10,some 48,.pointer (some ⟨cp,0,none⟩)),(11,some 49,.pointer (some ⟨cp,4,none⟩))] (by kernel_rfl) (fun _ _ _ _ _ h=>h) (fun _ _=>by kernel_rfl) hHeld9 ?_
 simp only [zz0,zz1,zz2,zz4,zz5]
 refine rd1 12 none (.store 82 (.tmp 49) (.tmp 47)) 0 (by kernel_rfl) (fun K hK=>?_)
 refine wp_store_t82 (sa:=va4) (sn:=E.length) (sc:=vc4) (.tmp 49) (.tmp 47) rfl ⟨cp,4,none⟩ (by kernel_rfl) (by kernel_rfl) (.slice none 0 0) hxx hfz ?_
 have s3:(w2.setCell ⟨cp,4,none⟩ (.slice va4 E.length vc4)).cell? ⟨rp,4,none⟩=some (.slice sa4 E.length sc4):=((uh HC3).own.c 4).trans (((uh HC).own.c 4).symm.trans hv4)
 generalize w2.setCell ⟨cp,4,none⟩ (.slice va4 E.length vc4)=w4z at HC3 HK3 s3 ⊢
 refine hK.out _ _ (s3) (fun hHeld12=>?_)
 clear hK K
 try simp only [zz3]
 refine wpAnyH_done (by kernel_rfl) ?_ _
 clear s2 s3 hxx hfz hv4 hx4 HCR HSRC HO2 HNEW HC2 HC HK3 hgx
 have HC:=hide (uh HC3)
 clear HC3
 obtain ⟨sa5,sc5,hsv5,_,_⟩:=own_len (uh HC).own.hav
 have hv5:w4z.cell? ⟨rp,5,none⟩=some (.slice sa5 H.length sc5):=(((uh HC).own.c 5).trans rfl).trans (congrArg some hsv5)
 have hx5:w4z.cell? ⟨cp,5,none⟩=some (.slice none 0 0):=((uh HC).cpy.c 5).trans rfl
 have HSRC:=hide (show SrcAt intcell w4z (.slice sa5 H.length sc5) H by
  have:=(uh HC).own.hav
  rw [hsv5,← intcells] at this
  exact src_own this)
 have HCR:=hide hx5
 clear hsv5
 go_upto_region 5 with fail
 refine wp_region_held_drew (S:=fun W=>W.cell? ⟨rp,5,none⟩=some (.slice sa5 H.length sc5)) (by kernel_rfl) (hv5) (fun hHeld=>?_)
 refine tkL 7 [(0,some 50,.pointer (some ⟨cp,0,none⟩)),(1,some 51,.pointer (some ⟨cp,0,none⟩)),(2,some 52,.pointer (some ⟨cp,0,none⟩)),(3,some 53,.pointer (some ⟨cp,5,none⟩)),(5,some 55,.pointer (some ⟨rp,0,none⟩)),(6,some 56,.pointer (some ⟨rp,0,none⟩)),(7,some 57,.pointer (some ⟨rp,5,none⟩))] (by kernel_rfl) (fun _ _ _ _ _ h=>h) (fun _ _=>by kernel_rfl) hHeld ?_
 simp only [zz0,zz1,zz2,zz4,zz5]
 refine tkG 8 (some 58) (.load 38 (.tmp 57)) 38 none (.slice sa5 H.length sc5) (by kernel_rfl) (fun _ _ _ h=>h) (Or.inl ⟨by kernel_rfl,fun W hW=>by simp [execOp,go_sem,hW]⟩) hHeld ?_
 simp only [zz0,zz1,zz2]
 refine rd1 4 (some 54) (.load 38 (.tmp 53)) 38 (by kernel_rfl) (fun K hK=>?_)
 go_simp
 show K _ w4z.drew
 refine hK.out _ _ (hv5) (fun hHeld4=>?_)
 clear hK K
 try simp only [zz0,zz1,zz2]
 refine rd1 9 (some 59) (.call { callee:=.builtin .append,args:=#[.tmp 54,.tmp 58],argTypes:=#[38,38] }) 38 (by kernel_rfl) (fun K hK=>?_)
 refine wp_append_src wideInt (.tmp 54) (.tmp 58) rfl B (.slice none 0 0) [] H (by kernel_rfl) (World.ownsRow_nil _ _ _ _) (.slice sa5 H.length sc5) (by kernel_rfl) (src_kept (uh HSRC)) (oneInt _) (by rw [List.length_nil];omega) (by have:=(uh HC).kept.size;show B≤w4z.heap.size;omega) ?_
 intro v' w2 ho2 hg2 hb2
 rw [List.nil_append] at ho2
 have hk2:Kept w4z.heap.size w4z w2:=⟨hg2.os,hg2.output,hg2.size,fun k hk=>hg2.block k hk (by simp [Value.ownBlock])⟩
 have hnew:∀ k,v'.ownBlock=some k→w4z.heap.size≤k:=fun k hk=>by
  rcases hb2 with e | e
  ·rw [e] at hk;cases hk
  ·rw [e] at hk;simp at hk;omega
 
 obtain ⟨va5,vc5,hv',_,_⟩:=own_len ho2
 rw [intcells] at ho2
 subst hv'
 have HO2:=hide ho2
 have HNEW:=hide hnew
 have HC2:=hide (show CpA B w rp g key root secs toks E H cp ⟨.slice va2 secs.length vc2,.slice va3 toks.length vc3,.slice va4 E.length vc4,.slice none 0 0⟩ secs toks E [] w2 from ⟨(uh HC).own.keep (hk2),(uh HC).cpy.keep hk2,(uh HC).kept.trans (hk2.mono (uh HC).kept.size),(uh HC).ge,(uh HC).new⟩)
 have HK3:=hide (show Kept w.heap.size w (w2.setCell ⟨cp,5,none⟩ (.slice va5 H.length vc5)) from (uh HC2).kept.setCell (p:=⟨cp,5,none⟩) (uh HC).ge _)
 have hgx:w.heap.size≤w4z.heap.size:=(uh HC).kept.size
 have HC3:=hide (show CpA B w rp g key root secs toks E H cp ⟨.slice va2 secs.length vc2,.slice va3 toks.length vc3,.slice va4 E.length vc4,.slice va5 H.length vc5⟩ secs toks E H (w2.setCell ⟨cp,5,none⟩ (.slice va5 H.length vc5)) from
  ⟨(uh H0).keep (uh HK3),(uh HC2).cpy.setF rfl (uh HC2).cpy.sec (uh HC2).cpy.ver (uh HC2).cpy.tok (uh HC2).cpy.log (uh HO2),uh HK3,(uh HC).ge,fun k hk=>by
   rcases hk with hk | hk | hk | hk
   all_goals first | exact Nat.le_trans hgx (uh HNEW k hk) | exact (uh HC).new k (.inl hk) | exact (uh HC).new k (.inr (.inl hk)) | exact (uh HC).new k (.inr (.inr (.inl hk))) | exact (uh HC).new k (.inr (.inr (.inr hk)))⟩)
 have s2:w2.cell? ⟨rp,5,none⟩=some (.slice sa5 H.length sc5):=(hk2.cell (p:=⟨rp,5,none⟩) (World.block_lt_of_cell? _ _ hv5)).trans hv5
 have hxx:w2.cell? ⟨cp,5,none⟩=some (.slice none 0 0):=((uh HC2).cpy.c 5).trans rfl
 have hfz:w2.frozen? ⟨cp,5,none⟩=false:=frozen_of_row _ _ _ _ _ (uh HC2).cpy.at'
 clear ho2 hg2 hb2 hk2 hnew
 refine hK.out _ _ (s2) (fun hHeld9=>?_)
 clear hK K
 try simp only [zz0,zz1,zz2]
 refine tkL 2 [(10,some 60,.pointer (some ⟨cp,0,none⟩)),(11,some 61,.pointer (some ⟨cp,5,none⟩))] (by kernel_rfl) (fun _ _ _ _ _ h=>h) (fun _ _=>by kernel_rfl) hHeld9 ?_
 simp only [zz0,zz1,zz2,zz4,zz5]
 refine rd1 12 none (.store 38 (.tmp 61) (.tmp 59)) 0 (by kernel_rfl) (fun K hK=>?_)
 refine wp_store_t38 (sa:=va5) (sn:=H.length) (sc:=vc5) (.tmp 61) (.tmp 59) rfl ⟨cp,5,none⟩ (by kernel_rfl) (by kernel_rfl) (.slice none 0 0) hxx hfz ?_
 have s3:(w2.setCell ⟨cp,5,none⟩ (.slice va5 H.length vc5)).cell? ⟨rp,5,none⟩=some (.slice sa5 H.length sc5):=((uh HC3).own.c 5).trans (((uh HC).own.c 5).symm.trans hv5)
 generalize w2.setCell ⟨cp,5,none⟩ (.slice va5 H.length vc5)=w5z at HC3 HK3 s3 ⊢
 refine hK.out _ _ (s3) (fun hHeld12=>?_)
 clear hK K
 try simp only [zz3]
 refine wpAnyH_done (by kernel_rfl) ?_ _
 clear s2 s3 hxx hfz hv5 hx5 HCR HSRC HO2 HNEW HC2 HC HK3 hgx
 have HC:=hide (uh HC3)
 clear HC3
 go_wp2_with fail
 go_ret
 exact ⟨cp,_,rfl,(uh HC).cpy,(uh HC).kept,(uh HC).ge,(uh HC).new⟩
end Go.Proofs.YtlbacbcenejngaaGreatDoor
namespace Go.Proofs.YtlbacbcenejngaaGreatDoor
open Go.RowKit
section
variable {B:Nat} {w:World} {rp:Nat} {g:RG} {key root:ByteArray} {secs:List Sc} {toks:List (ByteArray × Tok)} {E:List ByteArray} {H:List Nat}
theorem RVAt.setHave (h:RVAt B w rp g key root secs toks E H) {k hb cap:Nat} (hhv:g.hv=.slice (some ⟨hb,0,none⟩) H.length cap) (n:Nat) :
  RVAt B (w.setCell ⟨hb,k,none⟩ (.int .i64 (n:Int))) rp g key root secs toks E (H.set k n)∧Chg (fun i=>i=hb) w (w.setCell ⟨hb,k,none⟩ (.int .i64 (n:Int))):=by
 have oth:∀ i,i≠hb→(w.setCell ⟨hb,k,none⟩ (.int .i64 (n:Int))).heap[i]?=w.heap[i]?:=fun i hi=>heap_setCell_other _ _ _ _ hi
 have hob:g.hv.ownBlock=some hb:=by rw [hhv];rfl
 have hrow:(w.setCell ⟨hb,k,none⟩ (.int .i64 (n:Int))).ownsRow B 3 1 g.hv (H.set k n).length ((H.set k n).map fun n:Nat=>Value.int .i64 (n:Int)):=by
  have h1:=h.hav
  rw [hhv] at h1 ⊢
  rw [List.length_set,List.map_set]
  exact (h1.stored k (.int .i64 (n:Int))).1
 refine ⟨⟨(oth _ (h.ne h.hav (by decide) hob)).trans h.at',own_blocks h.sec fun i hi=>oth i fun e=>?_,fun c hc=>own_blocks (h.ver c hc) fun i hi=>oth i fun e=>?_,own_blocks h.tok fun i hi=>oth i fun e=>?_,own_blocks h.log fun i hi=>oth i fun e=>?_,hrow,h.ge⟩,⟨rfl,rfl,by rw [World.size_setCell];exact Nat.le_refl _,fun i _ hn=>oth i hn⟩⟩
 ·subst e;exact own_neq h.hav h.sec (by decide) hob hi
 ·subst e;exact own_neq h.hav (h.ver c hc) (by decide) hob hi
 ·subst e;exact own_neq h.hav h.tok (by decide) hob hi
 ·subst e;exact own_neq h.hav h.log (by decide) hob hi
theorem RVAt.have_at (h:RVAt B w rp g key root secs toks E H) {k:Nat} (hk:k<H.length):∃ hb cap,g.hv=.slice (some ⟨hb,0,none⟩) H.length cap∧w.cell? ⟨hb,k,none⟩=some (.int .i64 ((H.getD k 0:Nat):Int))∧w.frozen? ⟨hb,k,none⟩=false:=by
 obtain ⟨hb,cap,hv,hc⟩:=own_cell h.hav (k:=k) hk
 refine ⟨hb,cap,hv,?_,?_⟩
 ·rw [hc,List.getD_eq_getElem?_getD,List.getElem?_map,List.getD_eq_getElem?_getD,List.getElem?_eq_getElem hk]
  rfl
 ·have:=h.hav
  rw [hv] at this
  exact this.frozenAt _
end
end Go.Proofs.YtlbacbcenejngaaGreatDoor
namespace Go.Proofs.YtlbacbcenejngaaGreatDoor
open Go.RowKit
structure RS (B:Nat) (w:World) (rv:Value) (SL:List (Loc Snk)):Prop where
 row:w.ownsRow B 103 1 rv SL.length (SL.map fun e=>.pointer (some ⟨e.p,0,none⟩))
 snk:Fam (PS B 105) w SL
def RSft (rv:Value) (SL:List (Loc Snk)) (k:Nat):Prop:=rv.ownBlock=some k∨∃ e∈SL,e.p=k∨e.v.ownBlock=some k
theorem RS.stay {B:Nat} {w w':World} {rv:Value} {SL:List (Loc Snk)} (h:RS B w rv SL) (hk:∀ k,RSft rv SL k→w'.heap[k]?=w.heap[k]?):RS B w' rv SL :=
 ⟨own_blocks h.row fun k hk'=>hk k (.inl hk'),h.snk.frame (wayS B 105 (by decide)) (fun k _ ⟨e,he,hp⟩=>hk k (.inr ⟨e,he,.inl hp⟩)) (fun k _ ⟨e,he,hp⟩=>hk k (.inr ⟨e,he,.inr hp⟩))⟩
theorem RS.foot {B:Nat} {w:World} {rv:Value} {SL:List (Loc Snk)} (h:RS B w rv SL) {k:Nat} (hk:RSft rv SL k):(k<w.heap.size∧B≤k)∧(TyAt w k 103∨TyAt w k 105∨TyAt w k 3):=by
 rcases hk with hk | ⟨e,he,hk⟩
 ·have:TyAt w k 103:=own_ty h.row hk
  exact ⟨⟨this.lt,(h.row.lt k hk).1⟩,.inl this⟩
 ·have hP:=h.snk.each e he
  rcases hk with rfl | hk
  ·have:=(wayS B 105 (by decide)).ty hP
   exact ⟨⟨this.lt,(wayS B 105 (by decide)).big hP⟩,.inr (.inl this)⟩
  ·have:=(wayS B 105 (by decide)).row hP hk
   exact ⟨⟨this.1.lt,this.2⟩,.inr (.inr this.1)⟩
theorem RS.kept {B:Nat} {w w':World} {rv:Value} {SL:List (Loc Snk)} (h:RS B w rv SL) (hk:Kept w.heap.size w w'):RS B w' rv SL:=h.stay fun k hk'=>hk.block k (h.foot hk').1.1
theorem RS.upd {B:Nat} {w w':World} {rv:Value} {SL:List (Loc Snk)} (h:RS B w rv SL) {i:Nat} (hi:i<SL.length) {v':Value} {x':Snk} (hP:SAt B 105 w' SL[i].p v' x') (hu:Upd SL[i].p SL[i].v v' w w') :
  RS B w' rv (SL.set i ⟨SL[i].p,v',x'⟩)∧Chg (RSft rv SL) w w'∧∀ k,RSft rv (SL.set i ⟨SL[i].p,v',x'⟩) k→RSft rv SL k∨w.heap.size≤k:=by
 have hm:=List.getElem_mem hi
 have hP0:=h.snk.each _ hm
 have hty:=(wayS B 105 (by decide)).ty hP0
 have hne:∀ k,TyAt w k 103→w'.heap[k]?=w.heap[k]?:=fun k hk=>by
  refine hu.block k hk.lt (fun e=>?_) fun e=>?_
  ·subst e;exact hty.ne hk (by decide) rfl
  ·exact ((wayS B 105 (by decide)).row hP0 e).1.ne hk (by decide) rfl
 refine ⟨⟨?_,h.snk.upd (wayS B 105 (by decide)) hi ⟨hP,hP0.2⟩ hu⟩,⟨hu.os,hu.output,hu.size,fun k hk hn=>hu.block k hk (fun e=>hn (.inr ⟨_,hm,.inl e.symm⟩)) (fun e=>hn (.inr ⟨_,hm,.inr e⟩))⟩,fun k hk=>?_⟩
 ·have:(SL.set i ⟨SL[i].p,v',x'⟩).map (fun e=>Value.pointer (some ⟨e.p,0,none⟩))=SL.map fun e=>Value.pointer (some ⟨e.p,0,none⟩):=by
   rw [List.map_set]
   apply List.ext_getElem?
   intro j
   rw [List.getElem?_set]
   by_cases hj:i=j
   ·subst hj;simp [hi]
   ·simp [hj]
  rw [List.length_set,this]
  exact own_blocks h.row fun k hk=>hne k (own_ty h.row hk)
 ·rcases hk with hk | ⟨e,he,hk⟩
  ·exact .inl (.inl hk)
  ·rcases List.mem_or_eq_of_mem_set he with he | rfl
   ·exact .inl (.inr ⟨e,he,hk⟩)
   ·rcases hk with hk | hk
    ·exact .inl (.inr ⟨_,hm,.inl hk⟩)
    ·exact (hu.new k hk).imp (fun e=>.inr ⟨_,hm,.inr e⟩) id
end Go.Proofs.YtlbacbcenejngaaGreatDoor
namespace Go.Proofs.YtlbacbcenejngaaGreatDoor
open Go.RowKit
theorem ask_some {V:Vlt} {s:ByteArray} {q:Rq} (h:readQ s=some q):V.ask s=(q,V.sto.ask q):=by unfold Vlt.ask;rw [h]
theorem ask_none {V:Vlt} {s:ByteArray} (h:readQ s=none):V.ask s=(rq0,⟨1,.empty,none⟩):=by unfold Vlt.ask;rw [h]
theorem ans_ask (V:Vlt) (s:ByteArray):ansOf V.sto s=(ocB (V.ask s).2,V.sto.then (V.ask s).1 (V.ask s).2):=by
 cases h:readQ s with
 | none=>unfold ansOf;rw [ask_none h,h];rfl
 | some q=>unfold ansOf;rw [ask_some h,h]
theorem ask_parts (V:Vlt) (s:ByteArray):opS s=bs [(V.ask s).1.op]∧pathS s=(V.ask s).1.path∧restS s=(V.ask s).1.rest∧whoS V.key s=Sha.tag V.key.data.toList (if (V.ask s).1.op=0 then s else (V.ask s).1.token).data.toList:=by
 unfold opS pathS restS whoS
 cases h:readQ s with
 | none=>rw [ask_none h];exact ⟨rfl,rfl,rfl,rfl⟩
 | some q =>
  rw [ask_some h]
  refine ⟨rfl,rfl,rfl,?_⟩
  rw [if_neg (show ¬ q.op=0 from (readQ_ok h).op)]
theorem ocB_head (o:Oc):(ocB o).extract 0 1=bs [UInt8.ofNat o.err]:=by
 apply Go.WideShapes.bytes_inj
 rw [ext_list]
 rfl
theorem ocB_tail (o:Oc):(ocB o).extract 1 (ocB o).size=o.more:=by
 apply Go.WideShapes.bytes_inj
 rw [ext_list]
 show (o.more.data.toList).take _=_
 refine List.take_of_length_le ?_
 unfold ocB
 rw [bs_size,size_toList,List.length_cons,size_toList]
 omega
theorem entB_eq {V:Vlt} {E:List ByteArray} (hl:V.last=lastD E) (hc:V.cnt=E.length) (s:ByteArray):entB V.key E s (ocB (V.ask s).2)=V.entry s:=by
 obtain ⟨h1,h2,h3,h4⟩:=ask_parts V s
 unfold entB Vlt.entry
 rw [h1,h2,h3,h4,ocB_head,ocB_tail,hl,hc]
 apply Go.WideShapes.bytes_inj
 simp [entL,bs_list]
end Go.Proofs.YtlbacbcenejngaaGreatDoor
namespace Go.Proofs.YtlbacbcenejngaaGreatDoor
open Go.RowKit
def HvL (SL:List (Loc Snk)) (H:List Nat) (E:List ByteArray):Prop:=H.length=SL.length∧∀ (j:Nat) (x:Loc Snk) (m:Nat),SL[j]?=some x→H[j]?=some m→m≤E.length∧x.x.data=logOf (E.take m)
theorem HvL.more {SL:List (Loc Snk)} {H:List Nat} {E:List ByteArray} (h:HvL SL H E) (e:ByteArray):HvL SL H (E++[e]):=⟨h.1,fun j x m hx hm=>by
 obtain ⟨h1,h2⟩:=h.2 j x m hx hm
 exact ⟨by rw [List.length_append];omega,by rw [List.take_append_of_le_length h1];exact h2⟩⟩
theorem HvL.less {SL:List (Loc Snk)} {H:List Nat} {E:List ByteArray} {e:ByteArray} (h:HvL SL H (E++[e])) (hs:∀ x∈SL,Some1 E x.x.data):HvL SL H E:=⟨h.1,fun j x m hx hm=>by
 obtain ⟨h1,h2⟩:=h.2 j x m hx hm
 obtain ⟨m',h3,h4⟩:=hs x (List.mem_of_getElem? hx)
 rcases Nat.lt_or_ge E.length m with h5 | h5
 ·exfalso
  have h6:m=(E++[e]).length:=by simp at h1 ⊢;omega
  rw [h6,List.take_length] at h2
  have h7:=logOf_size_le E m'
  rw [← h4,h2,logOf_app,logOf,logOf,ba_empty,ByteArray.size_append,frOf_size] at h7
  omega
 ·exact ⟨h5,by rw [h2,List.take_append_of_le_length h5]⟩⟩
theorem HvL.set {SL:List (Loc Snk)} {H:List Nat} {L:List ByteArray} (h:HvL SL H L) {i p m:Nat} {v:Value} {x:Snk} (hm:m≤L.length) (hd:x.data=logOf (L.take m)):HvL (SL.set i ⟨p,v,x⟩) (H.set i m) L:=⟨by rw [List.length_set,List.length_set];exact h.1,fun j y k hy hk=>by
 rw [List.getElem?_set] at hy hk
 by_cases hj:i=j
 ·subst hj
  rw [if_pos rfl] at hy hk
  split at hy
  ·split at hk
   ·cases hy;cases hk;exact ⟨hm,hd⟩
   ·cases hk
  ·cases hy
 ·rw [if_neg hj] at hy hk;exact h.2 j y k hy hk⟩
theorem set_same {α:Type} {l:List α} {i:Nat} {a:α} (h:l[i]?=some a):l.set i a=l:=by
 apply List.ext_getElem?
 intro j
 rw [List.getElem?_set]
 by_cases hj:i=j
 ·subst hj;rw [if_pos rfl,if_pos (List.getElem?_eq_some_iff.1 h).1,h]
 ·rw [if_neg hj]
theorem HvL.set1 {SL:List (Loc Snk)} {H:List Nat} {L:List ByteArray} (h:HvL SL H L) {i p m:Nat} {v:Value} {x:Snk} (hi:H[i]?=some m) (hm:m≤L.length) (hd:x.data=logOf (L.take m)):HvL (SL.set i ⟨p,v,x⟩) H L:=by
 have:=h.set (i:=i) (p:=p) (v:=v) hm hd
 rwa [set_same hi] at this
structure DoR (B:Nat) (w:World) (rp:Nat) (g:RG) (key root:ByteArray) (secs:List Sc) (toks:List (ByteArray × Tok)) (E:List ByteArray) (cp:Nat) (g2:RG) (secs2:List Sc) (toks2:List (ByteArray × Tok)) (H:List Nat) (lv:Value) (L:List ByteArray) (rv:Value) (SL:List (Loc Snk)) (Hi:List Nat) (SLi:List (Loc Snk)) (wr:World):Prop where
 own:RVAt B wr rp g key root secs toks E Hi
 cpy:RVAt B wr cp g2 key root secs2 toks2 E H
 lst:wr.ownsRow B 9 1 lv L.length (L.map .string)
 snk:RS B wr rv SLi
 chg:Chg (fun k=>Rft rp g secs k∨RSft rv SL k) w wr
 foot:∀ k,RSft rv SLi k→RSft rv SL k∨w.heap.size≤k
 dis:∀ k,RSft rv SLi k→¬ (Rft rp g secs k∨Rft cp g2 secs2 k∨lv.ownBlock=some k)
section
variable {B:Nat} {w wr wx:World} {rp:Nat} {g:RG} {key root:ByteArray} {secs:List Sc} {toks:List (ByteArray × Tok)} {E:List ByteArray} {cp:Nat} {g2:RG} {secs2:List Sc} {toks2:List (ByteArray × Tok)} {H:List Nat} {lv:Value} {L:List ByteArray} {rv:Value} {SL SLi:List (Loc Snk)} {Hi:List Nat}
theorem DoR.next (h:DoR B w rp g key root secs toks E cp g2 secs2 toks2 H lv L rv SL Hi SLi wr) (hk:Kept wr.heap.size wr wx):DoR B w rp g key root secs toks E cp g2 secs2 toks2 H lv L rv SL Hi SLi wx :=
 ⟨h.own.keep hk,h.cpy.keep hk,own_kept h.lst hk,h.snk.kept hk,h.chg.trans' hk.chg fun _ _ e=>e.elim,h.foot,h.dis⟩
theorem DoR.sink (h:DoR B w rp g key root secs toks E cp g2 secs2 toks2 H lv L rv SL Hi SLi wr) {i:Nat} (hi:i<SLi.length) {v':Value} {x':Snk} (hP:SAt B 105 wx SLi[i].p v' x') (hu:Upd SLi[i].p SLi[i].v v' wr wx) :
  DoR B w rp g key root secs toks E cp g2 secs2 toks2 H lv L rv SL Hi (SLi.set i ⟨SLi[i].p,v',x'⟩) wx:=by
 obtain ⟨h1,h2,h3⟩:=h.snk.upd hi hP hu
 have hl:∀ k,(Rft rp g secs k∨Rft cp g2 secs2 k∨lv.ownBlock=some k)→k<wr.heap.size:=fun k hk=>by
  rcases hk with hk | hk | hk
  ·exact (h.own.foot hk).1
  ·exact (h.cpy.foot hk).1
  ·exact (h.lst.lt k hk).2
 have hst:∀ k,(Rft rp g secs k∨Rft cp g2 secs2 k∨lv.ownBlock=some k)→wx.heap[k]?=wr.heap[k]?:=fun k hk=>h2.block k (hl k hk) fun e=>h.dis k e hk
 refine ⟨h.own.stay fun k hk=>hst k (.inl hk),h.cpy.stay fun k hk=>hst k (.inr (.inl hk)),own_blocks h.lst fun k hk=>hst k (.inr (.inr hk)),h1,h.chg.trans' h2 fun k hk e=>?_,fun k hk=>?_,fun k hk hk'=>?_⟩
 ·rcases h.foot k e with e | e
  ·exact .inr e
  ·omega
 ·rcases h3 k hk with hk | hk
  ·exact h.foot k hk
  ·exact .inr (Nat.le_trans h.chg.size hk)
 ·rcases h3 k hk with hk | hk
  ·exact h.dis k hk hk'
  ·have:=hl k hk';omega
theorem DoR.have (h:DoR B w rp g key root secs toks E cp g2 secs2 toks2 H lv L rv SL Hi SLi wr) {k hb cap:Nat} (hhv:g.hv=.slice (some ⟨hb,0,none⟩) Hi.length cap) (hne:∀ k,Rft cp g2 secs2 k→k≠hb) (n:Nat) :
  DoR B w rp g key root secs toks E cp g2 secs2 toks2 H lv L rv SL (Hi.set k n) SLi (wr.setCell ⟨hb,k,none⟩ (.int .i64 (n:Int))):=by
 obtain ⟨h1,h2⟩:=h.own.setHave (k:=k) hhv n
 have hob:g.hv.ownBlock=some hb:=by rw [hhv];rfl
 refine ⟨h1,h.cpy.stay fun k hk=>h2.block k (h.cpy.foot hk).1 (hne k hk),own_blocks h.lst fun k hk=>h2.block k (h.lst.lt k hk).2 fun e=>?_,h.snk.stay fun k hk=>h2.block k (h.snk.foot hk).1.1 fun e=>?_,h.chg.trans' h2 fun k _ e=>?_,h.foot,h.dis⟩
 ·subst e;exact own_neq h.own.hav h.lst (by decide) hob hk
 ·subst e;exact h.dis k hk (.inl (.inr (.inr (.inr (.inr (.inl hob))))))
 ·subst e;exact .inl (.inr (.inr (.inr (.inr (.inl hob)))))
theorem DoR.taken (h:DoR B w rp g key root secs toks E cp g2 secs2 toks2 H lv L rv SL Hi SLi wr) (hcr:∀ k,Rft cp g2 secs2 k→k≠rp) :
  RVAt B (((wr.setCell ⟨rp,4,none⟩ lv).setCell ⟨rp,2,none⟩ g2.sv).setCell ⟨rp,3,none⟩ g2.tv) rp ⟨g2.sv,g2.tv,lv,g.hv⟩ key root secs2 toks2 L Hi∧RS B (((wr.setCell ⟨rp,4,none⟩ lv).setCell ⟨rp,2,none⟩ g2.sv).setCell ⟨rp,3,none⟩ g2.tv) rv SLi ∧
  Chg (fun k=>Rft rp g secs k∨RSft rv SL k) w (((wr.setCell ⟨rp,4,none⟩ lv).setCell ⟨rp,2,none⟩ g2.sv).setCell ⟨rp,3,none⟩ g2.tv):=by
 have o1:∀ (W:World) j u k,k≠rp→(W.setCell ⟨rp,j,none⟩ u).heap[k]?=W.heap[k]?:=fun W j u k hk=>heap_setCell_other _ _ _ _ hk
 have r1:=h.own.setF (j:=4) (v':=lv) (g':=⟨g.sv,g.tv,lv,g.hv⟩) (secs':=secs) (toks':=toks) (E':=L) (H':=Hi) rfl h.own.sec h.own.ver h.own.tok h.lst h.own.hav
 have c1:=h.cpy.stay (w':=wr.setCell ⟨rp,4,none⟩ lv) fun k hk=>o1 _ _ _ k (hcr k hk)
 have r2:=r1.setF (j:=2) (v':=g2.sv) (g':=⟨g2.sv,g.tv,lv,g.hv⟩) (secs':=secs2) (toks':=toks) (E':=L) (H':=Hi) rfl c1.sec c1.ver r1.tok r1.log r1.hav
 have c2:=c1.stay (w':=(wr.setCell ⟨rp,4,none⟩ lv).setCell ⟨rp,2,none⟩ g2.sv) fun k hk=>o1 _ _ _ k (hcr k hk)
 have r3:=r2.setF (j:=3) (v':=g2.tv) (g':=⟨g2.sv,g2.tv,lv,g.hv⟩) (secs':=secs2) (toks':=toks2) (E':=L) (H':=Hi) rfl r2.sec r2.ver c2.tok r2.log r2.hav
 have hall:∀ k,k≠rp→(((wr.setCell ⟨rp,4,none⟩ lv).setCell ⟨rp,2,none⟩ g2.sv).setCell ⟨rp,3,none⟩ g2.tv).heap[k]?=wr.heap[k]?:=fun k hk=>(o1 _ _ _ k hk).trans ((o1 _ _ _ k hk).trans (o1 _ _ _ k hk))
 refine ⟨r3,h.snk.stay fun k hk=>hall k fun e=>h.dis k hk (.inl (.inl e)),⟨h.chg.os,h.chg.output,by simp only [World.size_setCell];exact h.chg.size,fun k hk hn=>(hall k fun e=>hn (.inl (.inl e))).trans (h.chg.block k hk hn)⟩⟩
end
def Vlt.ents (V:Vlt) (E:List ByteArray) (s:ByteArray):List ByteArray:=if (V.lay s).2 then E++[V.entry s] else E
theorem lay_log {V:Vlt} {E:List ByteArray} (h:V.Ok E) (s:ByteArray):V.lay s=layF V.snks (logOf (E++[V.entry s])):=by
 rw [Vlt.lay,h.most',logOf_app,logOf,logOf,ba_empty]
theorem Vlt.Bnd.last' {V:Vlt} {E:List ByteArray} {n:Nat} (h:V.Bnd E n):V.last=lastD E:=by
 rw [h.ok.last]
 cases hl:E.length with
 | zero=>rw [List.eq_nil_of_length_eq_zero hl];rfl
 | succ m =>
  have hm:E[m]?=some E[m]:=List.getElem?_eq_getElem (by omega)
  rw [hashAt,lastD_at hl hm,List.getD_eq_getElem?_getD,hm]
  rfl
theorem toS_set {L:List (Loc Snk)} {log:ByteArray} {i:Nat} (hi:i<L.length):(toS L log i).set i (giveF L[i].x log).1=toS L log (i+1):=by
 have hlen:((L.take i).map fun e=>(giveF e.x log).1).length=i:=by simp;omega
 rw [toS,toS,List.take_add_one,List.getElem?_eq_getElem hi,List.drop_eq_getElem_cons hi,List.map_cons,List.set_append_right _ _ (by omega),hlen,Nat.sub_self]
 simp only [Option.toList_some,List.map_append,List.map_cons,List.map_nil,List.append_assoc,List.cons_append,List.nil_append,List.set_cons_zero]
theorem toS_at {L:List (Loc Snk)} {log:ByteArray} {i:Nat} (hi:i<L.length):(toS L log i)[i]?=some L[i].x:=by
 have hlen:((L.take i).map fun e=>(giveF e.x log).1).length=i:=by simp;omega
 rw [toS,List.getElem?_append_right (by omega),hlen,Nat.sub_self,List.getElem?_map,List.getElem?_drop,Nat.add_zero,List.getElem?_eq_getElem hi]
 rfl
def drEnd (B:Nat) (w:World) (rp:Nat) (g:RG) (rv:Value) (SL:List (Loc Snk)) (V:Vlt) (E:List ByteArray) (secs:List Sc) (s:ByteArray) (e:Ending) (w':World):Prop :=
 e=.returned (.string (V.tell s))∧∃ g' secs' H' SL',RVAt B w' rp g' V.key V.sto.root secs' (V.next s).sto.toks (V.ents E s) H'∧PSc secs'=(V.next s).sto.paths∧RS B w' rv SL'∧SL'.map (·.x)=(V.next s).snks∧SL'.map (·.p)=SL.map (·.p)∧HvL SL' H' (V.ents E s) ∧
  Chg (fun k=>Rft rp g secs k∨RSft rv SL k) w w'∧(∀ k,Rft rp g' secs' k→Rft rp g secs k∨w.heap.size≤k)∧(∀ k,RSft rv SL' k→RSft rv SL k∨w.heap.size≤k)∧∀ k,RSft rv SL' k→¬ Rft rp g' secs' k
end Go.Proofs.YtlbacbcenejngaaGreatDoor
namespace Go.Proofs.YtlbacbcenejngaaGreatDoor
open Go.RowKit
theorem Vlt.Bnd.up {V:Vlt} {E:List ByteArray} {n:Nat} (h:V.Bnd E n) (hn:n+1≤4194304):V.Bnd E (n+1):=by
 refine ⟨h.ok,⟨hn,by have:=h.le;omega⟩,h.dsk.up (by omega),fun k hk=>?_,h.few,h.key⟩
 obtain ⟨⟨m,h1,h2,h3⟩,h4,h5⟩:=h.snk k hk
 exact ⟨⟨m,h1,h2,by omega⟩,h4,h5⟩
end Go.Proofs.YtlbacbcenejngaaGreatDoor
namespace Go.Proofs.YtlbacbcenejngaaGreatDoor
open Go.RowKit
structure PG where
 p:Nat
 vp:Nat
 g:VG
 lv:Value
 rp:Nat
 rg:RG
 rv:Value
 rSL:List (Loc Snk)
 V:Vlt
 E:List ByteArray
 secs:List Sc
 H:List Nat
def PG.cells (a:PG):Array Value:=#[.pointer (some ⟨a.vp,0,none⟩),.pointer (some ⟨a.g.dp,0,none⟩),a.lv,.string a.V.key,.string a.V.sto.root,.pointer (some ⟨a.rp,0,none⟩),a.rv,.bool false,.bool false]
structure PAt (B:Nat) (w:World) (n:Nat) (a:PG):Prop where
 at':w.heap[a.p]?=some (.cells a.cells 102 (0,0))
 row:w.ownsRow B 41 1 a.lv a.g.SL.length (pcells (a.g.SL.map (·.p)))
 v:VAt B w a.vp a.g a.V
 r:RVAt B w a.rp a.rg a.V.key a.V.sto.root a.secs a.V.sto.toks a.E a.H
 rs:RS B w a.rv a.rSL
 ge:B≤a.p
 d1:∀ k,(k=a.p∨a.lv.ownBlock=some k)→¬ (Vft a.vp a.g k∨Rft a.rp a.rg a.secs k∨RSft a.rv a.rSL k)
 d2:∀ k,Vft a.vp a.g k→¬ (Rft a.rp a.rg a.secs k∨RSft a.rv a.rSL k)
 d3:∀ k,RSft a.rv a.rSL k→¬ Rft a.rp a.rg a.secs k
 bnd:a.V.Bnd a.E n
 vs:a.V.sto.Vs
 ps:PSc a.secs=a.V.sto.paths
 sx:a.rSL.map (·.x)=a.V.snks
 hv:HvL a.rSL a.H a.E
def Pft (a:PG) (k:Nat):Prop:=k=a.p∨a.lv.ownBlock=some k∨Vft a.vp a.g k∨Rft a.rp a.rg a.secs k∨RSft a.rv a.rSL k
section
variable {B:Nat} {w w':World} {n:Nat} {a:PG}
theorem PAt.foot (h:PAt B w n a) {k:Nat} (hk:Pft a k):k<w.heap.size∧B≤k:=by
 rcases hk with rfl | hk | hk | hk | hk
 ·exact ⟨(Array.getElem?_eq_some_iff.1 h.at').1,h.ge⟩
 ·have:=h.row.lt k hk;exact ⟨this.2,this.1⟩
 ·exact h.v.foot hk
 ·exact h.r.foot hk
 ·exact (h.rs.foot hk).1
theorem PAt.stay (h:PAt B w n a) (hk:∀ k,Pft a k→w'.heap[k]?=w.heap[k]?):PAt B w' n a :=
 ⟨(hk _ (.inl rfl)).trans h.at',own_blocks h.row fun k hk'=>hk k (.inr (.inl hk')),h.v.stay fun k hk'=>hk k (.inr (.inr (.inl hk'))),h.r.stay fun k hk'=>hk k (.inr (.inr (.inr (.inl hk')))),h.rs.stay fun k hk'=>hk k (.inr (.inr (.inr (.inr hk')))),h.ge,h.d1,h.d2,h.d3,h.bnd,h.vs,h.ps,h.sx,h.hv⟩
theorem PAt.kept (h:PAt B w n a) (hk:Kept w.heap.size w w'):PAt B w' n a:=h.stay fun k hk'=>hk.block k (h.foot hk').1
theorem Vlt.Bnd.mono {V:Vlt} {E:List ByteArray} {m:Nat} (h:V.Bnd E n) (hn:n≤m) (hm:m≤4194304):V.Bnd E m:=by
 induction hn with
 | refl=>exact h
 | step _ ih=>exact (ih (by omega)).up hm
theorem PAt.up {m:Nat} (h:PAt B w n a) (hn:n≤m) (hm:m≤4194304):PAt B w m a :=
 ⟨h.at',h.row,h.v,h.r,h.rs,h.ge,h.d1,h.d2,h.d3,h.bnd.mono hn hm,h.vs,h.ps,h.sx,h.hv⟩
theorem PAt.c (h:PAt B w n a) (j:Nat):w.cell? ⟨a.p,j,none⟩=a.cells[j]?:=cell_of_row _ _ _ _ _ _ h.at'
theorem then_root (S:Sto) (q:Rq) (o:Oc):(S.then q o).root=S.root:=by
 unfold Sto.then
 split
 ·rename_i c _
  cases c with
  | grant=>rfl
  | revoke=>rfl
  | drop =>
   show (match lk q.path S.paths with | some p=>_ | none=>S).root=_
   split <;> rfl
  | put=>rfl
 ·rfl
theorem next_root (V:Vlt) (s:ByteArray):(V.next s).key=V.key∧(V.next s).sto.root=V.sto.root:=by
 unfold Vlt.next
 split
 ·exact ⟨rfl,then_root _ _ _⟩
 ·exact ⟨rfl,rfl⟩
theorem Vlt.Bnd.ents {V:Vlt} {E:List ByteArray} (h:V.Bnd E n) (hn:n+1≤4194304) (s:ByteArray):(V.next s).Bnd (V.ents E s) (n+1):=by
 unfold Vlt.ents
 cases hl:(V.lay s).2 with
 | true=>rw [if_pos rfl];exact (h.next hn s).1 hl
 | false=>rw [if_neg (by simp)];exact (h.next hn s).2 hl
def ptEnd (B:Nat) (w:World) (n:Nat) (a:PG) (w':World):Prop:=∃ a',a'.p=a.p∧PAt B w' n a'∧Chg (Pft a) w w'∧∀ k,Pft a' k→Pft a k∨w.heap.size≤k
theorem PAt.did (h:PAt B w n a) (hn:n+1≤4194304) {s:ByteArray} {e e2:Ending} {w1 w2:World} (hd:doEnd B w a.vp a.g a.V s e w1) (hr:drEnd B w1 a.rp a.rg a.rv a.rSL a.V a.E a.secs s e2 w2):ptEnd B w (n+1) a w2:=by
 obtain ⟨-,g',hv,hc,hf,hsp,hdp⟩:=hd
 obtain ⟨-,rg',secs',H',SL',hr1,hr2,hr3,hr4,hr5,hr6,hc2,hf2,hf3,hdd⟩:=hr
 have hl:g'.SL.length=a.g.SL.length:=by have:=congrArg List.length hsp;simpa using this
 have f0:∀ {k},Pft a k→k<w.heap.size:=fun hk=>(h.foot hk).1
 have hz:=hc.size
 have hnew:∀ k,Rft a.rp rg' secs' k→Rft a.rp a.rg a.secs k∨w.heap.size≤k:=fun k hk=>(hf2 k hk).imp id fun e=>by omega
 have hnew3:∀ k,RSft a.rv SL' k→RSft a.rv a.rSL k∨w.heap.size≤k:=fun k hk=>(hf3 k hk).imp id fun e=>by omega
 have s1:∀ k,k<w.heap.size→(¬ Vft a.vp a.g k)→(¬ (Rft a.rp a.rg a.secs k∨RSft a.rv a.rSL k))→w2.heap[k]?=w.heap[k]?:=fun k hk h1 h2=>(hc2.block k (by omega) h2).trans (hc.block k hk h1)
 have s2:∀ k,Vft a.vp g' k→w2.heap[k]?=w1.heap[k]?:=fun k hk=>by
  refine hc2.block k (hv.foot hk).1 fun e=>?_
  rcases hf k hk with h1 | h1
  ·exact h.d2 k h1 e
  ·have:k<w.heap.size:=by
    rcases e with e | e
    ·exact f0 (.inr (.inr (.inr (.inl e))))
    ·exact f0 (.inr (.inr (.inr (.inr e))))
   omega
 have hroot:=next_root a.V s
 refine ⟨⟨a.p,a.vp,g',a.lv,a.rp,rg',a.rv,SL',a.V.next s,a.V.ents a.E s,secs',H'⟩,rfl,⟨?_,?_,hv.stay s2,?_,hr3,h.ge,fun k hk e=>?_,fun k hk e=>?_,hdd,h.bnd.ents hn s,Vlt.vs_next h.vs s,hr2,hr4,hr6⟩,?_,fun k hk=>?_⟩
 ·have hp:=s1 a.p (f0 (.inl rfl)) (fun e=>h.d1 _ (.inl rfl) (.inl e)) (fun e=>h.d1 _ (.inl rfl) (.inr e))
  refine hp.trans (h.at'.trans ?_)
  simp only [PG.cells,hroot.1,hroot.2,hdp]
 ·show w2.ownsRow B 41 1 a.lv g'.SL.length (pcells (g'.SL.map (·.p)))
  rw [hsp,hl]
  exact own_blocks h.row fun k hk=>s1 k (f0 (.inr (.inl hk))) (fun e=>h.d1 k (.inr hk) (.inl e)) (fun e=>h.d1 k (.inr hk) (.inr e))
 ·show RVAt B w2 a.rp rg' (a.V.next s).key (a.V.next s).sto.root secs' (a.V.next s).sto.toks (a.V.ents a.E s) H'
  rw [hroot.1,hroot.2];exact hr1
 ·have hkw:k<w.heap.size:=f0 (hk.imp id .inl)
  refine h.d1 k hk ?_
  rcases e with e | e | e
  ·exact .inl ((hf k e).resolve_right (by omega))
  ·exact .inr (.inl ((hnew k e).resolve_right (by omega)))
  ·exact .inr (.inr ((hnew3 k e).resolve_right (by omega)))
 ·have e0:Vft a.vp g' k:=hk
  have hk1:=(hv.foot e0).1
  have e1:(Rft a.rp a.rg a.secs k∨RSft a.rv a.rSL k):=by
   rcases e with e | e
   ·exact .inl ((hf2 k e).resolve_right (by omega))
   ·exact .inr ((hf3 k e).resolve_right (by omega))
  rcases hf k e0 with h1 | h1
  ·exact h.d2 k h1 e1
  ·have:k<w.heap.size:=by
    rcases e1 with e | e
    ·exact f0 (.inr (.inr (.inr (.inl e))))
    ·exact f0 (.inr (.inr (.inr (.inr e))))
   omega
 ·exact (hc.mono (S':=Pft a) fun k _ e=>.inr (.inr (.inl e))).trans' hc2 fun k _ e=>by
   rcases e with e | e
   ·exact .inr (.inr (.inr (.inl e)))
   ·exact .inr (.inr (.inr (.inr e)))
 ·rcases hk with hk | hk | hk | hk | hk
  ·exact .inl (.inl hk)
  ·exact .inl (.inr (.inl hk))
  ·exact (hf k hk).imp (fun e=>.inr (.inr (.inl e))) id
  ·exact (hnew k hk).imp (fun e=>.inr (.inr (.inr (.inl e)))) id
  ·exact (hnew3 k hk).imp (fun e=>.inr (.inr (.inr (.inr e)))) id
end
structure PW (B:Nat) (w:World) (wp:Nat) (pl:Value) (n:Nat) (A:List PG):Prop where
 at':w.heap[wp]?=some (.cells #[pl] 64 (0,0))
 row:w.ownsRow B 98 1 pl A.length (A.map fun a=>.pointer (some ⟨a.p,0,none⟩))
 each:∀ (i:Nat) (a:PG),A[i]?=some a→PAt B w n a
 ne:∀ (i j:Nat) (a b:PG),i≠j→A[i]?=some a→A[j]?=some b→∀ k,Pft a k→¬ Pft b k
 out:∀ (i:Nat) (a:PG),A[i]?=some a→∀ k,(k=wp∨pl.ownBlock=some k)→¬ Pft a k
 ge:B≤wp
section
variable {B:Nat} {w w':World} {n wp:Nat} {pl:Value} {A:List PG}
theorem PW.lt (h:PW B w wp pl n A) {k:Nat} (hk:k=wp∨pl.ownBlock=some k):k<w.heap.size∧B≤k:=by
 rcases hk with rfl | hk
 ·exact ⟨(Array.getElem?_eq_some_iff.1 h.at').1,h.ge⟩
 ·have:=h.row.lt k hk;exact ⟨this.2,this.1⟩
theorem PW.stay (h:PW B w wp pl n A) (h1:∀ k,(k=wp∨pl.ownBlock=some k)→w'.heap[k]?=w.heap[k]?) (h2:∀ (i:Nat) (a:PG),A[i]?=some a→∀ k,Pft a k→w'.heap[k]?=w.heap[k]?):PW B w' wp pl n A :=
 ⟨(h1 _ (.inl rfl)).trans h.at',own_blocks h.row fun k hk=>h1 k (.inr hk),fun i a hi=>(h.each i a hi).stay (h2 i a hi),h.ne,h.out,h.ge⟩
theorem PW.kept (h:PW B w wp pl n A) (hk:Kept w.heap.size w w'):PW B w' wp pl n A:=h.stay (fun k e=>hk.block k (h.lt e).1) fun i a hi k e=>hk.block k ((h.each i a hi).foot e).1
theorem PW.up {m:Nat} (h:PW B w wp pl n A) (hn:n≤m) (hm:m≤4194304):PW B w wp pl m A:=⟨h.at',h.row,fun i a hi=>(h.each i a hi).up hn hm,h.ne,h.out,h.ge⟩
theorem PW.upd (h:PW B w wp pl n A) (hn:n+1≤4194304) {i:Nat} {a:PG} (hi:A[i]?=some a) (hP:ptEnd B w (n+1) a w') (hB:B≤w.heap.size):∃ A',A'.length=A.length∧PW B w' wp pl (n+1) A'∧Kept B w w':=by
 obtain ⟨a',hp,ha,hc,hf⟩:=hP
 have hil:=(List.getElem?_eq_some_iff.1 hi).1
 have set_at:∀ (j:Nat) (b:PG),(A.set i a')[j]?=some b→(i=j∧b=a')∨(i≠j∧A[j]?=some b):=fun j b hj=>by
  rw [List.getElem?_set] at hj
  by_cases e:i=j
  ·subst e
   rw [if_pos rfl,if_pos hil] at hj
   exact .inl ⟨rfl,(Option.some.inj hj).symm⟩
  ·rw [if_neg e] at hj;exact .inr ⟨e,hj⟩
 have hmap:(A.set i a').map (fun a=>Value.pointer (some ⟨a.p,0,none⟩))=A.map fun a=>Value.pointer (some ⟨a.p,0,none⟩):=by
  rw [List.map_set]
  apply set_same
  rw [List.getElem?_map,hi,hp];rfl
 refine ⟨A.set i a',List.length_set,⟨(hc.block _ (h.lt (.inl rfl)).1 (h.out i a hi _ (.inl rfl))).trans h.at',?_,fun j b hj=>?_,fun j1 j2 b1 b2 hne hj1 hj2 k hk hk'=>?_,fun j b hj k hk hk'=>?_,h.ge⟩,hc.keptB hB fun k hk e=>?_⟩
 ·rw [List.length_set,hmap]
  exact own_blocks h.row fun k hk=>hc.block k (h.lt (.inr hk)).1 (h.out i a hi k (.inr hk))
 ·rcases set_at j b hj with ⟨_,rfl⟩ | ⟨e,hj⟩
  ·exact ha
  ·exact ((h.each j b hj).stay fun k hk=>hc.block k ((h.each j b hj).foot hk).1 (h.ne j i b a (fun x=>e x.symm) hj hi k hk)).up (Nat.le_succ n) hn
 ·have old:∀ (j:Nat) (b:PG) (k:Nat),i≠j→A[j]?=some b→Pft b k→¬ Pft a' k:=fun j b k e hj hb h1=>by
   rcases hf k h1 with h2 | h2
   ·exact h.ne i j a b e hi hj k h2 hb
   ·have:=((h.each j b hj).foot hb).1;omega
  rcases set_at j1 b1 hj1 with ⟨e1,rfl⟩ | ⟨e1,hj1x⟩
  ·rcases set_at j2 b2 hj2 with ⟨e2,rfl⟩ | ⟨e2,hj2⟩
   ·exact hne (e1.symm.trans e2)
   ·exact old j2 b2 k e2 hj2 hk' hk
  ·rcases set_at j2 b2 hj2 with ⟨e2,rfl⟩ | ⟨e2,hj2⟩
   ·exact old j1 b1 k e1 hj1x hk hk'
   ·exact h.ne j1 j2 b1 b2 hne hj1x hj2 k hk hk'
 ·rcases set_at j b hj with ⟨_,rfl⟩ | ⟨e,hj⟩
  ·rcases hf k hk' with h2 | h2
   ·exact h.out i a hi k hk h2
   ·have:=(h.lt hk).1;omega
  ·exact h.out j b hj k hk hk'
 ·have:=((h.each i a hi).foot e).2;omega
end
end Go.Proofs.YtlbacbcenejngaaGreatDoor
