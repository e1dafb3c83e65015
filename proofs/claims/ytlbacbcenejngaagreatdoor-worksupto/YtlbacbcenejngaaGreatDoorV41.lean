/-
  Sl Sm So Sp Ee
-/
import Derived.Test.YtlbacbcenejngaaGreatDoorV02
import Derived.Test.YtlbacbcenejngaaGreatDoorV38
import Derived.Test.YtlbacbcenejngaaGreatDoorV07
import Derived.Test.YtlbacbcenejngaaGreatDoorV03
import Derived.Test.YtlbacbcenejngaaGreatDoorV27
import Derived.Deep.DeepCutAuto
namespace Go.Proofs.YtlbacbcenejngaaGreatDoor
open Go.RowKit Go.MapKept
def noRd (_:Value):Option (DataW Unit × List MemPlace):=some (.nil,[])
theorem key_str {s:ByteArray} (hs:s.size≤maxLen):keyOf Tryz.prog 9 (.string s)=some (.string s.data.toList):=by
  simp [keyOf,mapKey,Tryz.underlying9,hs]
theorem map_own {w:World} {b:Nat} {M:List (ByteArray × Value)} (h:MapAt .string skey w b M) (hs:∀ p∈M,p.1.size≤maxLen) (hl:M.length≤maxLen) :
    ∃ D:DataW Unit,w.ownsMap Tryz.prog 9 noRd b M.length D∧(strKeys D).Perm (M.map fun p=>p.1.data.toList)∧Maps.size D=M.length:=by
  obtain ⟨es,clock,hb,hst,hk,he⟩:=h
  have hlen:es.size=M.length:=by have:=congrArg List.length he;simpa using this
  have hrd:∀ x∈es.toList,∃ s:ByteArray,x.key=.string s∧s.size≤maxLen:=fun x hx=>by
    obtain ⟨j,hj⟩:=List.getElem?_of_mem hx
    obtain ⟨p,hp,h1,_⟩:=entry_at he hj
    exact ⟨p.1,h1,hs p (List.mem_of_getElem? hp)⟩
  have hrg:∀ x∈es.toList,∀ s:ByteArray,x.key=.string s→s.size≤maxLen→WideElems.rd Tryz.prog 9 noRd x=some (.string s.data.toList,.nil):=fun x _ s h1 h2=>by
    simp [WideElems.rd,h1,key_str h2,noRd]
  refine ⟨_,⟨es,clock,hb,⟨by omega,hst,fun x hx=>?_⟩,by omega,rfl⟩,?_,?_⟩
  · obtain ⟨s,h1,h2⟩:=hrd x hx
    exact ⟨_,hrg x hx s h1 h2⟩
  · refine ((WideShapes.sorted_perm _).map _).trans ?_
    rw [List.map_map]
    have:(M.map fun p=>p.1.data.toList)=es.toList.map ((fun p=>_root_.Go.strOf p.1) ∘ WideElems.rg Tryz.prog 9 noRd):=by
      apply List.ext_getElem?
      intro j
      rw [List.getElem?_map,List.getElem?_map]
      cases hm:M[j]? with
      | none =>
        have:es.toList[j]?=none:=by
          rw [List.getElem?_eq_none_iff] at hm ⊢
          simpa [hlen] using hm
        rw [this];rfl
      | some p =>
        obtain ⟨e,h1,h2,_⟩:=at_entry he hm
        rw [h1]
        have hz:=hs p (List.mem_of_getElem? hm)
        simp only [Option.map_some,Function.comp,Option.some.injEq,WideElems.rg,hrg e (List.mem_of_getElem? h1) p.1 h2 hz]
        rfl
    rw [this]
  · show List.length _=_
    rw [(WideShapes.sorted_perm _).length_eq]
    simp [hlen]
theorem flat_join:∀ xs:List (List UInt8),Lib.join xs []=xs.flatten
  | []=>rfl
  | [x]=>by simp [Lib.join,List.intercalate]
  | x::y::l=>by
    have:=flat_join (y::l)
    simp only [Lib.join,List.intercalate,List.intersperse] at this ⊢
    simp only [List.flatten_cons,List.nil_append]
    rw [this]
    simp
theorem names_len (S:Sto):S.names.length=S.paths.length:=by simp [Sto.names]
theorem names_mem {S:Sto} {n:ByteArray} (h:n∈S.names):∃ p∈S.paths,p.1=n:=by
  simp only [Sto.names,List.mem_map,List.mem_mergeSort] at h
  obtain ⟨a,⟨p,hp,rfl⟩,rfl⟩:=h
  exact ⟨p,hp,(bs_of p.1).symm⟩
def isFnd (S:Sto) (p n:ByteArray):Bool:=hasPre n p&&decide (0<(S.versOf n).length)
theorem fnd_snoc {S:Sto} {p:ByteArray} {i:Nat} (hi:i<S.names.length):(S.names.take (i+1)).filter (isFnd S p)=(S.names.take i).filter (isFnd S p)++(if isFnd S p (S.names.getD i .empty) then [S.names.getD i .empty] else []):=by
  rw [List.take_add_one,List.filter_append,List.getElem?_eq_getElem hi,List.getD_eq_getElem?_getD,List.getElem?_eq_getElem hi]
  simp only [Option.toList_some,Option.getD_some,List.filter_cons,List.filter_nil]
theorem fnd_sum (l:List ByteArray) (h:∀ n∈l,n.size≤16):((l.map txt).map (·.data.toList)).flatten.length≤l.length*17:=by
  induction l with
  | nil=>simp
  | cons a l ih =>
    have h1:=h a (.head _)
    have h2:=ih fun n hn=>h n (.tail _ hn)
    have h3:=txt_size a
    simp only [List.map_cons,List.flatten_cons,List.length_append,List.length_cons,size_toList]
    omega
set_option maxRecDepth 100000 in
set_option maxHeartbeats 2000000 in
theorem list_go (B:Nat) (w:World) (sp tb pb:Nat) (L:PL) (S:Sto) (q:Rq) (h:StoAt B w sp tb pb L S) (hO:S.Ok) (hp:q.path.size≤1000) :
    Calls Tryz.prog 143 #[.pointer (some ⟨sp,0,none⟩),.agg q.cells] w (ocEnd B w sp L q (S.list q)):=by
  obtain ⟨i0,hi0,hz0,hz1,hz2⟩:=info_parts info9
  have H0:=hide (w2_start w q)
  have HS:=hide (h.kept (uh H0).kept)
  have hLl:L.ptrs.length=S.paths.length:=by rw [h.vals];simp [PL.ptrs,PL.vals]
  have hkey:(L.ptrs.map fun p=>p.1.data.toList)=S.paths.map fun p=>p.1.data.toList:=by rw [h.vals];simp [PL.ptrs,PL.vals]
  have hsm:∀ p∈L.ptrs,p.1.size≤maxLen:=fun p hp=>by
    obtain ⟨e,he,rfl⟩:=List.mem_map.1 hp
    have:=(hO.pth (e.1,e.2.x) (by rw [h.vals];exact List.mem_map.2 ⟨e,he,rfl⟩)).1
    simp only at this ⊢
    unfold maxLen
    omega
  obtain ⟨D,hD1,hD2,hD3⟩:=map_own (uh HS).paths hsm (by rw [hLl];have:=hO.paths;unfold maxLen;omega)
  have h16:=hO.paths
  have hsp:((w.alloc (.cells q.cells 84)).alloc (.cells #[.int .i64 0,.string ⟨#[]⟩,.nilFunc] 86)).cell? ⟨sp,2,none⟩=some (.map (some pb)):=by show (w2 w q).cell? _=_;rw [cell_of_row _ _ _ _ _ _ (uh HS).at'];rfl
  have HD:=hide (And.intro hD1 hD2)
  have hD4:Maps.size D≤16:=by omega
  have HKEY:=hide hkey
  have HOK:=hide hO
  clear h hD1 hD2 hD3 hLl hkey hsm hO
  go_enter Tryz.func143,Tryz.ntmps143
  go_wp2_with fail
  refine (callsIn_wide.1 (Tryz.maps_Keys_172 (some pb) (w2 w q))).mono ?_
  rintro _ _ ⟨rfl,rfl⟩
  go_wp2_with fail
  refine (callsIn_wide.1 (Tryz.slices_Sorted_keys_171_172 pb _ D noRd (w2 w q) (uh HD).1 (by unfold maxLen;omega) (by omega))).mono ?_
  rintro _ w3 ⟨v,ss,rfl,hperm,hrow,_,hb3⟩
  have hnm:ss.mergeSort (fun x y=>decide (x≤y))=(S.paths.map fun p=>p.1.data.toList).mergeSort (fun x y=>decide (x≤y)):=mergeSort_of_perm (hperm.trans ((uh HD).2.trans (by rw [uh HKEY])))
  have hN:(ss.mergeSort (fun x y=>decide (x≤y))).map encStr=S.names.map Value.string:=by rw [hnm,Sto.names,List.map_map];rfl
  have hNl:ss.length=S.names.length:=by have:=congrArg List.length hN;simpa using this
  rw [hN,hNl] at hrow
  have hn16:S.names.length≤16:=by rw [names_len];omega
  have HNM:=hide (show ∀ n∈S.names,n.size≤16 from fun n hn=>by obtain ⟨p,hp,rfl⟩:=names_mem hn;exact ((uh HOK).pth p hp).1)
  have HW3:=hide ((uh H0).next (((Kept.refl _ (w2 w q)).alloc (uh H0).size (.cells #[.map (some pb)] 166)).trans ((Kept.of hb3).mono (by have:=(uh H0).size;simp;omega))))
  have HS3:=hide ((uh HS).kept ((((Kept.refl _ (w2 w q)).alloc (Nat.le_refl _) (.cells #[.map (some pb)] 166)).trans ((Kept.of hb3).mono (by simp)))))
  have HN3:=hide hrow
  have HF:=hide (show S.list q=⟨0,bs (UInt8.ofNat (S.names.filter (isFnd S q.path)).length::(S.names.filter (isFnd S q.path)).flatMap fun n=>(txt n).data.toList),none⟩ from rfl)
  obtain ⟨ao,cap,rfl,hcap,hao⟩:=own_len hrow
  clear hb3 hperm hnm hN hNl hrow hsp HD HKEY H0 HS hD4 h16
  generalize w2 w q=wz
  have hsz3:=(uh HW3).size
  obtain ⟨N,hNN⟩:∃ N,N=S.names:=⟨_,rfl⟩
  have HNN:=hide hNN
  rw [← hNN] at hn16 hcap hao ⊢
  clear hNN
  go_wp2_with fail
  go_loopw [5,15] (fun vf vi wr=>∃ i:Nat,i≤N.length∧vi=.int .i64 i∧wr.ownsRow w3.heap.size 9 1 vf ((N.take i).filter (isFnd S q.path)).length (((N.take i).filter (isFnd S q.path)).map fun n=>.string (txt n))∧Kept w3.heap.size w3 wr) (fun _ vi _=>N.length-(intOf vi).toNat)
  case atStart=>exact ⟨0,Nat.zero_le _,rfl,World.ownsRow_nil _ _ _ _,Kept.refl _ _⟩
  case round =>
    obtain ⟨i,hi,rfl,hown,hk⟩:=hrel
    have HOWN:=hide hown
    have HK:=hide hk
    have hsz:w3.heap.size≤wr.heap.size:=hk.size
    clear hown hk
    have HWR:=hide ((uh HW3).next ((uh HK).mono hsz3))
    have HSR:=hide ((uh HS3).kept (uh HK))
    have hfl:((N.take i).filter (isFnd S q.path)).length≤16:=by have:=List.length_filter_le (isFnd S q.path) (N.take i);simp at this;omega
    by_cases hlt:i<N.length
    · obtain ⟨g,rfl⟩:=hao (by omega)
      have hiI:(i:Int)<(N.length:Int):=by omega
      have hiz:(0:Int)≤(i:Int):=by omega
      have hc:wr.cell? ⟨g,i,none⟩=some (.string (N.getD i .empty)):=by
        have h1:=own_kept (uh HN3) (uh HK)
        rw [← uh HNN] at h1
        obtain ⟨g',c',e1,e2⟩:=own_cell h1 hlt
        cases e1
        rw [e2,List.getD_eq_getElem?_getD,List.getD_eq_getElem?_getD,List.getElem?_map,List.getElem?_eq_getElem hlt];rfl
      have hq2:wr.cell? ⟨w.heap.size,2,none⟩=some (.string q.path):=by rw [(uh HWR).q.c 2];rfl
      have hnz:(N.getD i .empty).size≤16:=uh HNM _ (by rw [← uh HNN,List.getD_eq_getElem?_getD,List.getElem?_eq_getElem hlt];exact List.getElem_mem hlt)
      have HSN:=hide (show (N.take (i+1)).filter (isFnd S q.path)=(N.take i).filter (isFnd S q.path)++(if isFnd S q.path (N.getD i .empty) then [N.getD i .empty] else []) by
        have:=fnd_snoc (S:=S) (p:=q.path) (i:=i) (by rw [← uh HNN];exact hlt)
        rw [← uh HNN] at this;exact this)
      generalize N.getD i .empty=n at *
      have HP:=hide (show isFnd S q.path n=(hasPre n q.path&&decide (0<(S.versOf n).length)) from rfl)
      go_wp2_with fail
      refine (hasPrefix_go n q.path wr (by omega) (by omega)).mono ?_
      rintro _ _ ⟨rfl,rfl⟩
      rename_i wr
      by_cases hpre:hasPre n q.path=true
      · rw [hpre]
        go_wp2_with fail
        refine (versionsOf_go B wr sp tb pb L S n (uh HSR)).mono ?_
        rintro _ _ ⟨⟨vv,rfl,hvv⟩,rfl⟩
        rename_i wr
        obtain ⟨va,vc,rfl,_,_⟩:=own_len hvv
        clear hvv
        by_cases hvl:0<(S.versOf n).length
        · have hvI:(0:Int)<((S.versOf n).length:Int):=by omega
          have HT:=hide (show isFnd S q.path n=true by rw [uh HP,hpre];simpa using hvl)
          generalize (S.versOf n).length=vl at *
          go_wp2_with fail
          refine (packText_go n wr (by omega)).mono ?_
          rintro _ w5 ⟨rfl,hb5⟩
          have HO5:=hide (own_kept (uh HOWN) (Kept.of hb5))
          have HK5:=hide ((uh HK).trans ((Kept.of hb5).mono hsz))
          have hsz5:w3.heap.size≤w5.heap.size:=(uh HK5).size
          clear hb5
          go_wp2_with (refine wpList_halt2 (.tmp 30) (.tmp 33) 82 rfl ?_)
          refine Stp.mk ?_
          refine wpList_append_own _ ?_ (.tmp 30) (.tmp 33) 82 ?_ w3.heap.size 9 i0 (.string ByteArray.empty) 1 16 Tryz.underlying82 hi0 hz0 hz1 hz2 ?_ (by decide) u5 ((N.take i).filter (isFnd S q.path)).length (((N.take i).filter (isFnd S q.path)).map fun n=>.string (txt n)) ?_ ?_ ⟨w5.heap.size,0,none⟩ 1 1 [.string (txt n)] ?_ ?_ ?_ ?_ ?_ ?_ ?_ ?_
          · rfl
          · rfl
          · rfl
          · rfl
          · exact (uh HO5).alloc _
          · rfl
          · rfl
          · exact news_any rfl
          · simp [Value.oneCell']
          · unfold maxLen;omega
          · omega
          · simp;omega
          intro v' w6 hown6 hgrow _
          have HO6:=hide hown6
          have HK6:=hide (own_grownk ((uh HK5).alloc (uh HK5).size _) ((uh HO5).alloc _) hgrow (by simp;omega))
          clear hown6 hgrow
          simp only [zz0,zz1,zz2]
          go_wp2_with fail
          go_roundw
          case rel =>
            refine ⟨i+1,by omega,by go_num,?_,uh HK6⟩
            rw [uh HSN,uh HT]
            have:=uh HO6
            simpa using this
          case measure=>simp [intOf];omega
        · have hvI:¬ (0:Int)<((S.versOf n).length:Int):=by omega
          have HT:=hide (show isFnd S q.path n=false by rw [uh HP,hpre];simpa using hvl)
          generalize (S.versOf n).length=vl at *
          go_wp2_with fail
          go_roundw
          case rel =>
            refine ⟨i+1,by omega,by go_num,?_,uh HK⟩
            rw [uh HSN,uh HT]
            have:=uh HOWN
            simpa using this
          case measure=>simp [intOf];omega
      · have hpf:hasPre n q.path=false:=by simpa using hpre
        have HT:=hide (show isFnd S q.path n=false by rw [uh HP,hpf];rfl)
        rw [hpf]
        go_wp2_with fail
        go_roundw
        case rel =>
          refine ⟨i+1,by omega,by go_num,?_,uh HK⟩
          rw [uh HSN,uh HT]
          have:=uh HOWN
          simpa using this
        case measure=>simp [intOf];omega
    · obtain rfl:i=N.length:=by omega
      have hiI:¬ (N.length:Int)<(N.length:Int):=by omega
      have htk:N.take N.length=N:=List.take_length
      rw [htk] at HOWN hfl
      have hFm:∀ n∈N.filter (isFnd S q.path),n.size≤16:=fun n hn=>uh HNM n (by rw [← uh HNN];exact (List.mem_filter.1 hn).1)
      have hsum:=fnd_sum _ hFm
      rw [← uh HNN] at HF
      clear hFm htk
      generalize N.filter (isFnd S q.path)=F at *
      obtain ⟨fo,fc,hfv,hfc,hfo⟩:=own_len (uh HOWN)
      subst hfv
      have hu8:((F.length:Int) % 256)=((UInt8.ofNat F.length).toNat:Int):=byte_nat F.length
      go_wp2_with fail
      refine (packByte_go' (UInt8.ofNat F.length) _ (by first | exact hu8 | (simp;omega)) wr).mono ?_
      rintro _ w5 ⟨rfl,hb5⟩
      have HW5:=hide ((uh HWR).next ((Kept.of hb5).mono (uh HWR).size))
      have HO5:=hide (own_kept (uh HOWN) (Kept.of hb5))
      clear hb5
      by_cases hF0:F.length=0
      · have hFn:F=[]:=List.length_eq_zero_iff.1 hF0
        subst hFn
        go_wp2_with fail
        refine (Tryz.strings_Join_none fo fc ⟨#[]⟩ w5).mono ?_
        rintro _ _ ⟨rfl,rfl⟩
        rename_i w5
        go_wp2_with (refine wpList_store_put rfl 86 (.tmp 4) (.tmp 43) rfl (w.heap.size+1) (ocells 0 (bs [0]) .nilFunc) ?_ ?_ 86 (ocells 0 .empty .nilFunc) ?_ info86 rfl (oc_one _ _ rfl) ?_
                     · rfl
                     · rfl
                     · exact (uh HW5).o
                     intro w6 hp6)
        exact oc_ret Tryz.results143 hp6.row (by rw [uh HF];exact ⟨⟨_,rfl,rfl⟩,(uh HW5).put hp6⟩)
      · obtain ⟨fg,rfl⟩:=hfo (by omega)
        have hlen0:(Lib.join ((F.map txt).map (·.data.toList)) (⟨#[]⟩:ByteArray).data.toList).length≤272:=by
          show (Lib.join ((F.map txt).map (·.data.toList)) []).length≤272
          rw [flat_join];omega
        have HJ:=hide (show bs [UInt8.ofNat F.length]++(⟨(Lib.join ((F.map txt).map (·.data.toList)) (⟨#[]⟩:ByteArray).data.toList).toArray⟩:ByteArray)=bs (UInt8.ofNat F.length::F.flatMap fun n=>(txt n).data.toList) by
          show bs [UInt8.ofNat F.length]++bs (Lib.join ((F.map txt).map (·.data.toList)) [])=_
          rw [flat_join,← bs_app,List.map_map]
          rfl)
        have hjs:(⟨(Lib.join ((F.map txt).map (·.data.toList)) (⟨#[]⟩:ByteArray).data.toList).toArray⟩:ByteArray).size≤272:=by
          show (bs _).size≤272
          rw [bs_size];exact hlen0
        have HL:=hide hlen0
        have hb1:(bs [UInt8.ofNat F.length]).size=1:=bs_size _
        clear hlen0 hsum
        go_wp2_with fail
        refine (show Calls Tryz.prog 173 #[.slice (some ⟨fg,0,none⟩) F.length fc,.string ⟨#[]⟩] w5 _ from by
          have:=Tryz.strings_Join fg 0 fc (F.map txt) ⟨#[]⟩ w5 (fun j x hx=>by
            have hj:j<F.length:=by have:=(List.getElem?_eq_some_iff.1 hx).1;simpa using this
            obtain ⟨g',c',e1,e2⟩:=own_cell (uh HO5) hj
            cases e1
            rw [Nat.zero_add,e2,List.getD_eq_getElem?_getD,List.getElem?_map]
            rw [List.getElem?_map] at hx
            cases hf:F[j]? with
            | none=>rw [hf] at hx;cases hx
            | some y=>rw [hf] at hx;cases hx;rfl) ((uh HO5).lt fg rfl).2 (by simp;omega) (by simp;omega) (Nat.le_trans (uh HL) (by decide))
          rw [List.length_map] at this
          exact this).mono ?_
        rintro _ w6 ⟨rfl,hb6⟩
        have HW6:=hide ((uh HW5).next ((Kept.of hb6).mono (uh HW5).size))
        clear hb6
        generalize (⟨(Lib.join ((F.map txt).map (·.data.toList)) (⟨#[]⟩:ByteArray).data.toList).toArray⟩:ByteArray)=J at *
        go_wp2_with (refine wpList_store_put rfl 86 (.tmp 4) (.tmp 43) rfl (w.heap.size+1) (ocells 0 (bs [UInt8.ofNat F.length]++J) .nilFunc) ?_ ?_ 86 (ocells 0 .empty .nilFunc) ?_ info86 rfl (oc_one _ _ rfl) ?_
                     · rfl
                     · rfl
                     · exact (uh HW6).o
                     intro w7 hp7)
        exact oc_ret Tryz.results143 hp7.row (by rw [uh HF,← uh HJ];exact ⟨⟨_,rfl,rfl⟩,(uh HW6).put hp7⟩)
end Go.Proofs.YtlbacbcenejngaaGreatDoor
namespace Go.Proofs.YtlbacbcenejngaaGreatDoor
open Go.RowKit Go.MapKept
def deedV (r:Int) (p:Bool) (n:Nat):Value:=.agg #[.int .u8 r,.bool p,.func (.func n) #[] #[]]
def deTab:List (Nat × Value):=[(80,deedV 2 true 140),(71,deedV 1 true 141),(68,deedV 2 true 142),(76,deedV 1 true 143),(84,deedV 4 false 144),(82,deedV 4 false 145)]
theorem und200:Tryz.prog.underlying 200=some (.map 5 199):=by kernel_rfl
set_option maxRecDepth 100000 in
set_option maxHeartbeats 1000000 in
theorem deeds_go (w:World):Calls Tryz.prog 108 #[] w fun e w'=>e=.returned (.map (some w.heap.size))∧MapAt (.int .u8) bkey w' w.heap.size deTab∧Chg (fun _=>False) w w':=by
  have h0:=MapAt.new (.int .u8) bkey w
  have HC:=hide (show Chg (fun i=>i=w.heap.size) w (w.alloc (.map #[] 0)) from chg_alloc _ _ _)
  have hmm:=@run_makeMap Tryz.prog
  go_enter Tryz.func108,Tryz.ntmps108
  go_wp2_with (first
    | (refine wpList_upd (M:=[]) rfl kkByte und200 _ _ _ (Or.inr rfl) h0 80 (deedV 2 true 140) rfl rfl rfl ?_
       intro w1 h1 c1 _
       have C1:=hide c1
       clear c1)
    | (refine wpList_upd rfl kkByte und200 _ _ _ (Or.inr rfl) h1 71 (deedV 1 true 141) rfl rfl rfl ?_
       intro w2 h2 c2 _
       have C2:=hide c2
       clear c2)
    | (refine wpList_upd rfl kkByte und200 _ _ _ (Or.inr rfl) h2 68 (deedV 2 true 142) rfl rfl rfl ?_
       intro w3 h3 c3 _
       have C3:=hide c3
       clear c3)
    | (refine wpList_upd rfl kkByte und200 _ _ _ (Or.inr rfl) h3 76 (deedV 1 true 143) rfl rfl rfl ?_
       intro w4 h4 c4 _
       have C4:=hide c4
       clear c4)
    | (refine wpList_upd rfl kkByte und200 _ _ _ (Or.inr rfl) h4 84 (deedV 4 false 144) rfl rfl rfl ?_
       intro w5 h5 c5 _
       have C5:=hide c5
       clear c5)
    | (refine wpList_upd rfl kkByte und200 _ _ _ (Or.inr rfl) h5 82 (deedV 4 false 145) rfl rfl rfl ?_
       intro w6 h6 c6 _
       have C6:=hide (And.intro h6 c6)
       clear c6 h0 h1 h2 h3 h4 h5 h6))
  go_ret
  refine ⟨rfl,(uh C6).1,?_⟩
  have:=(((((uh HC).trans (uh C1)).trans (uh C2)).trans (uh C3)).trans (uh C4)).trans ((uh C5).trans (uh C6).2)
  exact this.mono fun i hi e=>absurd e (by omega)
theorem neq_fnil (w:World):(binOp .neq 1 .nilFunc .nilFunc).run Tryz.prog w=.ok (.bool false) w:=by kernel_rfl
theorem neq_fsome (n:Nat) (b:Array Value) (w:World):(binOp .neq 1 (.func (.func n) #[] b) .nilFunc).run Tryz.prog w=.ok (.bool true) w:=by kernel_rfl
set_option maxRecDepth 100000 in
theorem changes_no (e:Nat) (more:ByteArray) (w:World):Calls Tryz.prog 39 #[.agg (ocells e more .nilFunc)] w fun r w'=>r=.returned (.bool false)∧Kept w.heap.size w w':=by
  have hc:(w.alloc (.cells (ocells e more .nilFunc) 86)).cell? ⟨w.heap.size,2,none⟩=some .nilFunc:=by rw [cell_of_row _ _ _ _ _ _ (heap_alloc_new _ _)];rfl
  have HK:=hide ((Kept.refl w.heap.size w).alloc (Nat.le_refl _) (.cells (ocells e more .nilFunc) 86))
  have hn:=neq_fnil
  generalize ocells e more .nilFunc=cs at *
  go_enter Tryz.func39,Tryz.ntmps39
  go_wp2_with fail
  go_ret
  exact ⟨rfl,uh HK⟩
set_option maxRecDepth 100000 in
theorem changes_yes (e:Nat) (more:ByteArray) (n:Nat) (b:Array Value) (w:World):Calls Tryz.prog 39 #[.agg (ocells e more (.func (.func n) #[] b))] w fun r w'=>r=.returned (.bool true)∧Kept w.heap.size w w':=by
  have hc:(w.alloc (.cells (ocells e more (.func (.func n) #[] b)) 86)).cell? ⟨w.heap.size,2,none⟩=some (.func (.func n) #[] b):=by rw [cell_of_row _ _ _ _ _ _ (heap_alloc_new _ _)];rfl
  have HK:=hide ((Kept.refl w.heap.size w).alloc (Nat.le_refl _) (.cells (ocells e more (.func (.func n) #[] b)) 86))
  have hn:=neq_fsome n b
  generalize ocells e more (.func (.func n) #[] b)=cs at *
  go_enter Tryz.func39,Tryz.ntmps39
  go_wp2_with fail
  go_ret
  exact ⟨rfl,uh HK⟩
def sto0 (root:ByteArray):Sto:=⟨root,[(root,⟨.empty,7⟩)],[]⟩
set_option maxRecDepth 100000 in
set_option maxHeartbeats 1000000 in
theorem newSto_go (B:Nat) (w:World) (root:ByteArray) (hr:root.size≤1000) (hB:B≤w.heap.size) :
    Calls Tryz.prog 64 #[.string root] w fun e w'=>∃ sp tb pb,e=.returned (.pointer (some ⟨sp,0,none⟩))∧StoAt B w' sp tb pb [] (sto0 root)∧(∀ k,Sft sp tb pb [] k→w.heap.size≤k)∧Kept w.heap.size w w':=by
  have hmm:=@run_makeMap Tryz.prog
  go_enter Tryz.func64,Tryz.ntmps64
  go_wp2_with fail
  refine (clone_go root w (by omega)).mono ?_
  rintro _ w1 ⟨rfl,hk1⟩
  have hs1:=hk1.size
  have HK1:=hide hk1
  have h0:=MapAt.new .string skey w1
  clear hk1
  go_wp2_with (first
    | (refine wpList_upd (M:=[]) rfl kkStr und165 _ _ _ (Or.inr rfl) h0 root (Tok.enc ⟨.empty,7⟩) rfl rfl rfl ?_
       intro w2 h2 c2 hz2
       have H2:=hide h2
       have C2:=hide c2
       clear h0 h2 c2))
  go_ret
  have hz:w2.heap.size=w1.heap.size+1:=by simpa using hz2
  obtain ⟨w3,hw3⟩:∃ w3,w3=w2.alloc (.map #[] 0):=⟨_,rfl⟩
  rw [← hw3]
  have hz3:w3.heap.size=w1.heap.size+2:=by rw [hw3];simp [hz]
  have hp3:MapAt .string skey w3 (w1.heap.size+1) []:=by have:=MapAt.new .string skey w2;rw [hz,← hw3] at this;exact this
  have ht3:MapAt .string skey w3 w1.heap.size (putM root (Tok.enc ⟨.empty,7⟩) []):=(uh H2).stay (by rw [hw3];exact Below.heap_alloc _ _ _ (by omega))
  have hal:∀ k,k<w1.heap.size+2→∀ o,(w3.alloc o).heap[k]?=w3.heap[k]?:=fun k hk o=>Below.heap_alloc _ _ _ (by omega)
  have hnew:=heap_alloc_new w3 (.cells #[.string root,.map (some w1.heap.size),.map (some (w1.heap.size+1))] 168)
  rw [hz3] at hnew
  refine ⟨w1.heap.size+2,w1.heap.size,w1.heap.size+1,rfl,⟨hnew,?_,?_,rfl,Fam.nil,⟨by omega,by omega,by omega⟩,by omega⟩,fun k hk=>?_,?_⟩
  · exact ht3.stay (hal _ (by omega) _)
  · exact hp3.stay (hal _ (by omega) _)
  · rcases hk with rfl | rfl | rfl | ⟨e,he,_⟩
    · omega
    · omega
    · omega
    · cases he
  · have k1:=(uh HK1)
    have c2:Chg (fun _=>False) w w3:=by
      refine (k1.chg).trans' (S':=fun k=>k=w1.heap.size) ?_ fun i hi e=>by omega
      refine ((chg_alloc _ w1 _).trans (uh C2)).trans ?_
      rw [hw3]
      exact chg_alloc _ _ _
    exact (c2.trans (chg_alloc _ _ _)).kept
end Go.Proofs.YtlbacbcenejngaaGreatDoor
namespace Go.Proofs.YtlbacbcenejngaaGreatDoor
open Go.RowKit Go.MapKept
theorem Bx.kept {n0:Nat} {w w':World} {sp b2 b3:Nat} {q:Rq} (h:Bx n0 w sp b2 b3 q) (hk:Kept w.heap.size w w'):Bx n0 w' sp b2 b3 q :=
  ⟨(hk.block _ (Array.getElem?_eq_some_iff.1 h.s).1).trans h.s,(hk.block _ h.q.lt).trans h.q,h.ge⟩
theorem Clo.kept {B n0:Nat} {w w':World} {sp:Nat} {L:PL} {q:Rq} {F:Value} {c:Option Cg} (h:Clo B n0 w sp L q F c) (hk:Kept w.heap.size w w'):Clo B n0 w' sp L q F c:=by
  cases c with
  | none=>exact h
  | some c =>
    cases c with
    | grant=>obtain ⟨b2,b3,hF,hb⟩:=h;exact ⟨b2,b3,hF,hb.kept hk⟩
    | revoke=>obtain ⟨b2,b3,hF,hb⟩:=h;exact ⟨b2,b3,hF,hb.kept hk⟩
    | drop=>obtain ⟨b2,b3,hF,hb⟩:=h;exact ⟨b2,b3,hF,hb.kept hk⟩
    | put =>
      obtain ⟨b2,b3,b5,pp,hF,hb,h5,hn5,hp⟩:=h
      refine ⟨b2,b3,b5,pp,hF,hb.kept hk,(hk.block _ (Array.getElem?_eq_some_iff.1 h5).1).trans h5,hn5,hp.imp id fun ⟨h1,h2,h3,h4⟩=>⟨h1,h2,⟨(hk.block _ (Array.getElem?_eq_some_iff.1 h3.1).1).trans h3.1,own_kept h3.2.1 hk,h3.2.2⟩,h4⟩⟩
theorem Clo.fn {B n0:Nat} {w:World} {sp:Nat} {L:PL} {q:Rq} {F:Value} {c:Cg} (h:Clo B n0 w sp L q F (some c)):∃ n b,F=.func (.func n) #[] b:=by
  cases c with
  | grant=>obtain ⟨b2,b3,hF,_⟩:=h;exact ⟨_,_,hF⟩
  | revoke=>obtain ⟨b2,b3,hF,_⟩:=h;exact ⟨_,_,hF⟩
  | drop=>obtain ⟨b2,b3,hF,_⟩:=h;exact ⟨_,_,hF⟩
  | put=>obtain ⟨b2,b3,b5,pp,hF,_⟩:=h;exact ⟨_,_,hF⟩
theorem Clo.one {B n0:Nat} {w:World} {sp:Nat} {L:PL} {q:Rq} {F:Value} {c:Option Cg} (h:Clo B n0 w sp L q F c):F.oneCell'=true:=by
  cases c with
  | none=>rw [show F=.nilFunc from h];rfl
  | some c=>obtain ⟨n,b,rfl⟩:=h.fn;rfl
theorem cyEnd.from {B n0:Nat} {w w1 w':World} {sp tb pb:Nat} {L:PL} {S:Sto} {e:Ending} (hk:Kept w.heap.size w w1) (h:cyEnd B n0 w1 sp tb pb L S e w'):cyEnd B n0 w sp tb pb L S e w':=by
  obtain ⟨h1,L',h2,h3,h4,h5⟩:=h
  exact ⟨h1,L',h2,(hk.chg.mono (S':=fun k=>Sft sp tb pb L k∨n0≤k) fun _ _ e=>e.elim).trans h3,h4,hk.stay.trans h5⟩
set_option maxRecDepth 100000 in
set_option maxHeartbeats 1000000 in
theorem carry_no (e:Nat) (more:ByteArray) (w:World):Calls Tryz.prog 44 #[.agg (ocells e more .nilFunc)] w fun r w'=>r=.returned (.tuple #[])∧Kept w.heap.size w w':=by
  have HK:=hide ((Kept.refl w.heap.size w).alloc (Nat.le_refl _) (.cells (ocells e more .nilFunc) 86))
  have hr:=heap_alloc_new w (.cells (ocells e more .nilFunc) 86)
  go_enter Tryz.func44,Tryz.ntmps44
  go_wp2_with (refine wpList_load_row rfl 86 (.tmp 1) rfl w.heap.size ?_ 86 (ocells e more .nilFunc) (0,0) _ ?_ Tryz.underlying86 rfl info86 ?_;· rfl
               · exact hr)
  refine (changes_no e more _).mono ?_
  rintro _ w1 ⟨rfl,hk1⟩
  have HK1:=hide ((uh HK).trans (hk1.mono (by simp)))
  clear hk1 hr
  go_wp2_with fail
  refine end0 rfl rfl ?_
  exact ⟨rfl,uh HK1⟩
set_option maxRecDepth 100000 in
set_option maxHeartbeats 2000000 in
theorem carry_go (B n0:Nat) (w:World) (sp tb pb:Nat) (L:PL) (S:Sto) (q:Rq) (F:Value) (h:StoAt B w sp tb pb L S) (hF:Clo B n0 w sp L q F (S.ask q).ch) (hO:S.Ok) (hq:q.Ok) (hB:B≤w.heap.size) (hn0:n0≤w.heap.size) (hf:∀ k,Sft sp tb pb L k→k<n0) :
    Calls Tryz.prog 44 #[.agg (ocells (S.ask q).err (S.ask q).more F)] w (cyEnd B n0 w sp tb pb L (S.then q (S.ask q))):=by
  cases hc:(S.ask q).ch with
  | none =>
    rw [hc] at hF
    obtain rfl:F=.nilFunc:=hF
    refine (carry_no _ _ w).mono ?_
    rintro _ w1 ⟨rfl,hk⟩
    rw [Sto.then,hc]
    exact ⟨rfl,L,h.kept hk,hk.chg.mono fun _ _ e=>e.elim,fun k hk=>.inl hk,hk.stay.mono (by simp)⟩
  | some c =>
    rw [hc] at hF
    have HT:=hide (show S.then q (S.ask q)=S.carry q c by rw [Sto.then,hc])
    have hd:=deed_ch (ask_ch hc)
    generalize (S.ask q).err=e at *
    generalize (S.ask q).more=more at *
    have HKB:=hide ((Kept.refl w.heap.size w).alloc (Nat.le_refl _) (.cells (ocells e more F) 86))
    have hr:=heap_alloc_new w (.cells (ocells e more F) 86)
    obtain ⟨n,b,hFn⟩:=hF.fn
    have HF:=hide hF
    have HS:=hide h
    have HD:=hide hd
    have HO:=hide hO
    have HQ:=hide hq
    have HC:=hide hf
    clear hF h hd hO hq hc hf
    subst hFn
    go_enter Tryz.func44,Tryz.ntmps44
    go_wp2_with (refine wpList_load_row rfl 86 (.tmp 1) rfl w.heap.size ?_ 86 (ocells e more (.func (.func n) #[] b)) (0,0) _ ?_ Tryz.underlying86 rfl info86 ?_;· rfl
                 · exact hr)
    refine (changes_yes e more n b _).mono ?_
    rintro _ w1 ⟨rfl,hk1⟩
    have hc2:w1.cell? ⟨w.heap.size,2,none⟩=some (.func (.func n) #[] b):=by rw [cell_of_row _ _ _ _ _ _ ((hk1.block _ (by simp)).trans hr)];rfl
    have HK1:=hide ((uh HKB).trans (hk1.mono (by simp)))
    have HS1:=hide ((uh HS).kept (uh HK1))
    have HF1:=hide ((uh HF).kept (uh HK1))
    have hs1:=(uh HK1).size
    clear hk1 hr HKB HF HS
    cases c with
    | grant =>
      obtain ⟨b2,b3,hFe,hb⟩:=uh HF1
      cases hFe
      have HBX:=hide hb
      clear hb HF1
      go_wp2_with fail
      refine (grantC_go B n0 w1 sp tb pb b2 b3 L S q (uh HS1) (uh HBX) (by have:=(uh HQ).name;omega) (by have:=(uh HQ).pre;omega)).mono ?_
      rintro e' w2 hcy
      obtain ⟨rfl,_⟩:=hcy.1
      go_wp2_with fail
      refine end0 rfl rfl ?_
      rw [uh HT]
      exact hcy.from (uh HK1)
    | revoke =>
      obtain ⟨b2,b3,hFe,hb⟩:=uh HF1
      cases hFe
      have HBX:=hide hb
      clear hb HF1
      go_wp2_with fail
      refine (revokeC_go B n0 w1 sp tb pb b2 b3 L S q (uh HS1) (uh HBX)).mono ?_
      rintro e' w2 hcy
      obtain ⟨rfl,_⟩:=hcy.1
      go_wp2_with fail
      refine end0 rfl rfl ?_
      rw [uh HT]
      exact hcy.from (uh HK1)
    | drop =>
      obtain ⟨b2,b3,hFe,hb⟩:=uh HF1
      cases hFe
      have HBX:=hide hb
      have hv:(S.versOf q.path).length≠0:=by
        rcases uh HD with ⟨e,_⟩ | ⟨_,hv⟩ | ⟨e,_⟩ | ⟨e,_⟩
        · cases e
        · exact hv
        · cases e
        · cases e
      clear hb HF1
      go_wp2_with fail
      refine (dropC_go B n0 w1 sp tb pb b2 b3 L S q (uh HS1) (uh HBX) hv).mono ?_
      rintro e' w2 hcy
      obtain ⟨rfl,_⟩:=hcy.1
      go_wp2_with fail
      refine end0 rfl rfl ?_
      rw [uh HT]
      exact hcy.from (uh HK1)
    | put =>
      obtain ⟨b2,b3,b5,pp,hFe,hb,h5,hn5,hp⟩:=uh HF1
      cases hFe
      have HBX:=hide (And.intro hb (And.intro h5 hp))
      clear hb HF1 h5 hp hn5
      go_wp2_with fail
      refine (putC_go B n0 w1 sp tb pb b2 b3 b5 pp L S q (uh HS1) (uh HBX).1 (uh HBX).2.1 (by omega) (by omega) (uh HC) (fun p hp=>by have:=(uh HO).lk hp;omega) (by have:=(uh HQ).fit.1;omega) (by have:=(uh HQ).value;omega) (uh HBX).2.2).mono ?_
      rintro e' w2 hcy
      obtain ⟨rfl,_⟩:=hcy.1
      go_wp2_with fail
      refine end0 rfl rfl ?_
      rw [uh HT]
      exact hcy.from (uh HK1)
end Go.Proofs.YtlbacbcenejngaaGreatDoor
namespace Go.Proofs.YtlbacbcenejngaaGreatDoor
open Go.RowKit Go.MapKept
theorem and_u8 (a b:UInt8):bits .and .u8 (a.toNat:Int) (b.toNat:Int)=((a &&& b).toNat:Int):=by
  show IntKind.u8.wrap ((BitVec.ofInt 8 (a.toNat:Int) &&& BitVec.ofInt 8 (b.toNat:Int)).toNat:Int)=_
  have ha:(BitVec.ofInt 8 (a.toNat:Int)).toNat=a.toNat:=by rw [BitVec.toNat_ofInt];have:=a.toNat_lt;omega
  have hb:(BitVec.ofInt 8 (b.toNat:Int)).toNat=b.toNat:=by rw [BitVec.toNat_ofInt];have:=b.toNat_lt;omega
  rw [BitVec.toNat_and,ha,hb,UInt8.toNat_and]
  have h1:a.toNat &&& b.toNat≤a.toNat:=Nat.and_le_left
  have:=a.toNat_lt
  simp [IntKind.wrap,IntKind.bits,IntKind.signed]
  omega
theorem ent140 (args:Array Value) (w:World):(callFunc 140 args).run Tryz.prog w=.ok (.enter 140 args) w:=call_enter Tryz.func140 (by kernel_rfl) rfl args w
theorem ent141 (args:Array Value) (w:World):(callFunc 141 args).run Tryz.prog w=.ok (.enter 141 args) w:=call_enter Tryz.func141 (by kernel_rfl) rfl args w
theorem ent142 (args:Array Value) (w:World):(callFunc 142 args).run Tryz.prog w=.ok (.enter 142 args) w:=call_enter Tryz.func142 (by kernel_rfl) rfl args w
theorem ent143 (args:Array Value) (w:World):(callFunc 143 args).run Tryz.prog w=.ok (.enter 143 args) w:=call_enter Tryz.func143 (by kernel_rfl) rfl args w
theorem ent144 (args:Array Value) (w:World):(callFunc 144 args).run Tryz.prog w=.ok (.enter 144 args) w:=call_enter Tryz.func144 (by kernel_rfl) rfl args w
theorem ent145 (args:Array Value) (w:World):(callFunc 145 args).run Tryz.prog w=.ok (.enter 145 args) w:=call_enter Tryz.func145 (by kernel_rfl) rfl args w
theorem Sto.Ok.vers {S:Sto} (h:S.Ok) (n:ByteArray):(∀ v∈S.versOf n,v.2.size≤40)∧(S.versOf n).length≤1000:=by
  unfold Sto.versOf
  split
  · rename_i p hp
    have:=h.lk hp
    exact ⟨this.2.2,by omega⟩
  · exact ⟨by simp,by simp⟩
def isAnOp (op:UInt8):Prop:=op.toNat=80∨op.toNat=71∨op.toNat=68∨op.toNat=76∨op.toNat=84∨op.toNat=82
theorem Rq.Ok.isOp {q:Rq} (h:q.Ok):isAnOp q.op:=by
  have h1:=h.fit.2
  have h0:q.op.toNat≠0:=fun e=>h.op (UInt8.toNat_inj.1 e)
  unfold isAnOp
  simp only [fitOp,opI,Bool.not_eq_true',Bool.or_eq_false_iff,Bool.and_eq_false_iff,Bool.not_eq_false',Bool.or_eq_true,beq_iff_eq,bne_eq_false_iff_eq] at h1
  omega
theorem de_cases {op:UInt8} (h:isAnOp op):∃ n,lk op.toNat deTab=some (deedV ((rightOf op).toNat:Int) (inPath op) n)∧(∀ args w,(callFunc n args).run Tryz.prog w=.ok (.enter n args) w) ∧
    ∀ (B:Nat) (w:World) (sp tb pb:Nat) (L:PL) (S:Sto) (q:Rq),q.op=op→StoAt B w sp tb pb L S→S.Ok→q.Ok→B≤w.heap.size→Calls Tryz.prog n #[.pointer (some ⟨sp,0,none⟩),.agg q.cells] w (ocEnd B w sp L q (S.deed q)):=by
  rcases h with h | h | h | h | h | h
  · refine ⟨140,by unfold rightOf inPath;rw [h];rfl,ent140,fun B w sp tb pb L S q hq hS hO hQ hB=>?_⟩
    have:S.deed q=S.put q:=by unfold Sto.deed;rw [hq,h];rfl
    rw [this]
    exact put_go B w sp tb pb L S q hS hB fun p hp=>(hO.lk hp).1
  · refine ⟨141,by unfold rightOf inPath;rw [h];rfl,ent141,fun B w sp tb pb L S q hq hS hO hQ hB=>?_⟩
    have:S.deed q=S.get q:=by unfold Sto.deed;rw [hq,h];rfl
    rw [this]
    exact get_go B w sp tb pb L S q hS (hO.vers _).1 (hO.vers _).2
  · refine ⟨142,by unfold rightOf inPath;rw [h];rfl,ent142,fun B w sp tb pb L S q hq hS hO hQ hB=>?_⟩
    have:S.deed q=S.drop q:=by unfold Sto.deed;rw [hq,h];rfl
    rw [this]
    exact drop_go B w sp tb pb L S q hS
  · refine ⟨143,by unfold rightOf inPath;rw [h];rfl,ent143,fun B w sp tb pb L S q hq hS hO hQ hB=>?_⟩
    have:S.deed q=S.list q:=by unfold Sto.deed;rw [hq,h];rfl
    rw [this]
    exact list_go B w sp tb pb L S q hS hO (by have:=hQ.fit.1;omega)
  · refine ⟨144,by unfold rightOf inPath;rw [h];rfl,ent144,fun B w sp tb pb L S q hq hS hO hQ hB=>?_⟩
    have:S.deed q=S.grant q:=by unfold Sto.deed;rw [hq,h];rfl
    rw [this]
    exact grant_go B w sp tb pb L S q hS
  · refine ⟨145,by unfold rightOf inPath;rw [h];rfl,ent145,fun B w sp tb pb L S q hq hS hO hQ hB=>?_⟩
    have:S.deed q=S.revoke q:=by unfold Sto.deed;rw [hq,h];rfl
    rw [this]
    exact revoke_go B w sp tb pb L S q hS
theorem Clo.put {B n0:Nat} {w5 w6 w7:World} {sp:Nat} {L:PL} {q:Rq} {F:Value} {c:Option Cg} {b:Nat} {cs:Array Value} (h:Clo B w5.heap.size w6 sp L q F c) (hw:n0≤w5.heap.size) (hb:b+1≤w5.heap.size) (hp:Put b cs 86 w6 w7):Clo B n0 w7 sp L q F c:=by
  have bx:∀ {b2 b3},Bx w5.heap.size w6 sp b2 b3 q→Bx n0 w7 sp b2 b3 q:=fun {b2 b3} hx=>⟨(hp.other _ (by have:=hx.ge.1;omega)).trans hx.s,(hp.other _ (by have:=hx.ge.2;omega)).trans hx.q,by have:=hx.ge;omega⟩
  cases c with
  | none=>exact h
  | some c =>
    cases c with
    | grant=>obtain ⟨b2,b3,hF,hb⟩:=h;exact ⟨b2,b3,hF,bx hb⟩
    | revoke=>obtain ⟨b2,b3,hF,hb⟩:=h;exact ⟨b2,b3,hF,bx hb⟩
    | drop=>obtain ⟨b2,b3,hF,hb⟩:=h;exact ⟨b2,b3,hF,bx hb⟩
    | put =>
      obtain ⟨b2,b3,b5,pp,hF,hx,h5,hn5,hpp⟩:=h
      refine ⟨b2,b3,b5,pp,hF,bx hx,(hp.other _ (by omega)).trans h5,by omega,hpp.imp id fun ⟨h1,h2,h3,h4⟩=>⟨h1,h2,⟨(hp.other _ (by omega)).trans h3.1,World.ownsRow_nil _ _ _ _,h3.2.2⟩,by omega⟩⟩
structure AkD (w:World) (q:Rq) (r:Int) (ip:Bool) (n d:Nat) (wi:World):Prop where
  w2:W2 w q wi
  row:wi.heap[d]?=some (.cells #[.int .u8 r,.bool ip,.func (.func n) #[] #[]] 199 (0,0))
  ge:w.heap.size+2≤d
theorem AkD.next {w wi w':World} {q:Rq} {r:Int} {ip:Bool} {n d:Nat} (h:AkD w q r ip n d wi) (hk:Kept (d+1) wi w'):AkD w q r ip n d w':=⟨h.w2.next (hk.mono (by have:=h.ge;omega)),(hk.block _ (by omega)).trans h.row,h.ge⟩
theorem AkD.lt {w wi:World} {q:Rq} {r:Int} {ip:Bool} {n d:Nat} (h:AkD w q r ip n d wi):d<wi.heap.size:=(Array.getElem?_eq_some_iff.1 h.row).1
theorem info199:(Tryz.prog.info? 199).map (·.size)=some 3:=by kernel_rfl
theorem wp_look200 {w:World} {o:Oper} {a:Act} {K:Act→World→Prop} {Q:Exit→Act→World→Prop} {x y:Operand} (ho:o.op=.lookup 200 x y false) (m:Value) (k:Int) (v:Value) (hx:a.eval x=m) (hy:a.eval y=.int .u8 k) (hr:(Instr.lookup 200 m (.int .u8 k) false).run Tryz.prog w=.ok v w) (h:K (a.put o.dst v) w):o.wp Tryz.prog a w K Q:=by
  unfold Oper.wp
  simp [execOp,ho,hx,hy,hr,Result.andThen,Oper.upon]
  exact h
def SK (w:World) (sp tb:Nat) (tk p0:ByteArray) (r0:Int) (b0:Bool) (W:World):Prop:=W.cell? ⟨sp,1,none⟩=some (.map (some tb))∧W.cell? ⟨w.heap.size,1,none⟩=some (.string tk)∧(Instr.lookup 165 (.map (some tb)) (.string tk) true).run Tryz.prog W=.ok (.tuple #[.agg #[.string p0,.int .u8 r0],.bool b0]) W
theorem sk_all (B:Nat) (w:World) (sp tb pb:Nat) (L:PL) (S:Sto) (q:Rq) (h:StoAt B w sp tb pb L S) :
    (∃ t,lk q.token S.toks=some t∧∀ W,W2 w q W→SK w sp tb q.token t.pre (t.rights.toNat:Int) true W)∨(lk q.token S.toks=none∧∀ W,W2 w q W→SK w sp tb q.token .empty 0 false W):=by
  have hc:∀ W,W2 w q W→W.cell? ⟨sp,1,none⟩=some (.map (some tb))∧W.cell? ⟨w.heap.size,1,none⟩=some (.string q.token):=fun W hW=>by
    refine ⟨?_,by rw [hW.q.c 1];rfl⟩
    have hs:=h.kept hW.kept
    rw [cell_of_row _ _ _ _ _ _ hs.at'];rfl
  rcases tok_look w tb S q.token h.toks with ⟨t,ht,_⟩ | ⟨ht,_⟩
  · refine .inl ⟨t,ht,fun W hW=>⟨(hc W hW).1,(hc W hW).2,?_⟩⟩
    rcases tok_look W tb S q.token (h.kept hW.kept).toks with ⟨t',ht',hr⟩ | ⟨ht',_⟩
    · rw [ht] at ht';cases ht';exact hr
    · rw [ht] at ht';cases ht'
  · refine .inr ⟨ht,fun W hW=>⟨(hc W hW).1,(hc W hW).2,?_⟩⟩
    rcases tok_look W tb S q.token (h.kept hW.kept).toks with ⟨t',ht',_⟩ | ⟨ht',hr⟩
    · rw [ht] at ht';cases ht'
    · exact hr
set_option maxRecDepth 100000 in
set_option maxHeartbeats 2000000 in
theorem ask_go (B:Nat) (w:World) (sp tb pb:Nat) (L:PL) (S:Sto) (q:Rq) (h:StoAt B w sp tb pb L S) (hO:S.Ok) (hQ:q.Ok) (hB:B≤w.heap.size) :
    Calls Tryz.prog 72 #[.pointer (some ⟨sp,0,none⟩),.agg q.cells] w (ocEnd B w sp L q (S.ask q)):=by
  obtain ⟨n,hlk,hent,hdeed⟩:=de_cases hQ.isOp
  have H0:=hide (w2_start w q)
  have HD:=hide (hdeed B · sp tb pb L S q rfl · hO hQ ·)
  have HS:=hide h
  have HSK:=hide (sk_all B w sp tb pb L S q h)
  have HASK:=hide (show ∀ t,lk q.token S.toks=some t→S.ask q=if t.rights &&& rightOf q.op=0∨(inPath q.op=true∧hasPre q.path t.pre=false) then ⟨3,.empty,none⟩ else S.deed q from fun t ht=>ask_tok ht)
  have HNONE:=hide (show lk q.token S.toks=none→S.ask q=⟨2,.empty,none⟩ from fun e=>by unfold Sto.ask;rw [e])
  have hps:q.path.size≤16:=hQ.fit.1
  have HTOK:=hide (show ∀ t,lk q.token S.toks=some t→t.pre.size≤255 from fun t ht=>hO.tok _ (lk_mem ht))
  obtain ⟨R,hR⟩:∃ R,R=rightOf q.op:=⟨_,rfl⟩
  obtain ⟨ip,hip⟩:∃ ip,ip=inPath q.op:=⟨_,rfl⟩
  rw [← hR,← hip] at hlk
  have HRI:=hide (And.intro hR hip)
  have HLK:=hide hlk
  clear hdeed h hO hQ hlk hR hip
  go_enter Tryz.func72,Tryz.ntmps72
  go_upto_region 1 with fail
  go_cut [5] (fun v wx=>∃ d,v=.pointer (some ⟨d,0,none⟩)∧AkD w q (R.toNat:Int) ip n d wx)
  case first =>
    change Code.wp _ _ _ _ (w2 w q)
    generalize w2 w q=w1 at H0 ⊢
    have hsz:=(uh H0).size
    have HSC:=hide (show ∀ W,W2 w q W→W.cell? ⟨w.heap.size,0,none⟩=some (.int .u8 (q.op.toNat:Int)) from fun W hW=>by rw [hW.q.c 0];rfl)
    refine wp_region_held_drew (S:=fun W=>W.cell? ⟨w.heap.size,0,none⟩=some (.int .u8 (q.op.toNat:Int))) (by kernel_rfl) (uh HSC w1.drew ⟨(uh H0).q,(uh H0).o,⟨(uh H0).kept.os,(uh H0).kept.output,(uh H0).kept.size,(uh H0).kept.block⟩⟩) (fun hHeld=>?_)
    refine tkP 1 (some 9) (.pointer (some ⟨w.heap.size,0,none⟩)) (by kernel_rfl) (fun _ _ _ h=>h) (fun _ _=>by kernel_rfl) hHeld ?_
    simp only [zz0,zz1,zz2]
    refine tkG 2 (some 10) (.load 5 (.tmp 9)) 5 none (.int .u8 (q.op.toNat:Int)) (by kernel_rfl) (fun _ _ _ h=>h) (Or.inl ⟨by kernel_rfl,fun W hW=>by simp [execOp,go_sem,hW]⟩) hHeld ?_
    simp only [zz0,zz1,zz2]
    refine wpAnyH_ready (rs:=[0,4]) (by kernel_rfl) (by simp) ?_
    refine rdX (some 8) (.call { callee:=.value (.func 108),args:=#[],argTypes:=#[] }) 200 none (by kernel_rfl) (fun K hK=>?_) ?_
    · refine ite_wanted ?_ ?_
      · kernel_rfl
      go_simp
      refine (deeds_go _).mono ?_
      rintro _ w3 ⟨rfl,hm3,hc3⟩
      have HM3:=hide hm3
      have HC3:=hide (show Kept w1.heap.size w1 w3 from ⟨hc3.os,hc3.output,hc3.size,fun k hk=>hc3.block k hk id⟩)
      have H3:=hide ((uh H0).next ((uh HC3).mono (uh H0).size))
      clear hm3 hc3
      show K _ w3
      refine hK.out _ _ (uh HSC w3 (uh H3)) (fun hHeld0=>?_)
      clear hK K
      try simp only [zz0,zz1,zz2]
      refine wpAnyH_ready (rs:=[3,4]) (by kernel_rfl) (by simp) ?_
      refine rdX (some 11) (.lookup 200 (.tmp 8) (.tmp 10) false) 199 none (by kernel_rfl) (fun K hK=>?_) ?_
      · refine ite_wanted ?_ ?_
        · kernel_rfl
        have hlook:(Instr.lookup 200 (.map (some w1.heap.size)) (.int .u8 (q.op.toNat:Int)) false).run Tryz.prog w3=.ok (deedV (R.toNat:Int) ip n) w3:=run_look kkByte und200 (uh HM3) q.op.toNat (uh HLK) false
        refine wp_look200 (x:=.tmp 8) (y:=.tmp 10) ?_ _ (q.op.toNat:Int) _ ?_ ?_ hlook ?_
        · rfl
        · kernel_rfl
        · kernel_rfl
        simp only [Act.put]
        refine hK.out _ _ (uh HSC w3 (uh H3)) (fun hHeld3=>?_)
        clear hK K
        try simp only [zz0,zz1,zz2]
        refine rd1 4 (some 5) (.alloc 199) 0 (by kernel_rfl) (fun K hK=>?_)
        go_simp
        have Hw4:=hide ((uh H3).next (w':=w3.alloc (.cells #[.int .u8 0,.bool false,.nilFunc] 199)) ((Kept.refl _ _).alloc (uh H3).size _))
        have hrw4:(w3.alloc (.cells #[.int .u8 0,.bool false,.nilFunc] 199)).heap[w3.heap.size]?=some (.cells #[.int .u8 0,.bool false,.nilFunc] 199 (0,0)):=heap_alloc_new _ _
        have hkw4:Kept w3.heap.size w3 (w3.alloc (.cells #[.int .u8 0,.bool false,.nilFunc] 199)):=(Kept.refl _ _).alloc (Nat.le_refl _) _
        have hzw4:w3.heap.size<(w3.alloc (.cells #[.int .u8 0,.bool false,.nilFunc] 199)).heap.size:=by simp
        generalize w3.alloc (.cells #[.int .u8 0,.bool false,.nilFunc] 199)=w4 at *
        show K _ w4
        refine hK.out _ _ (uh HSC w4 (uh Hw4)) (fun hHeld4=>?_)
        clear hK K
        try simp only [zz0,zz1,zz2]
        refine rd1 5 none (.store 199 (.tmp 5) (.tmp 11)) 0 (by kernel_rfl) (fun K hK=>?_)
        refine wp_store_row 199 (.tmp 5) (.tmp 11) ?_ w3.heap.size #[.int .u8 (R.toNat:Int),.bool ip,.func (.func n) #[] #[]] ?_ ?_ 199 _ (hrw4) info199 rfl (by simp [Value.oneCell']) ?_
        · rfl
        · kernel_rfl
        · kernel_rfl
        simp only [Act.put]
        have HE:=hide (show AkD w q (R.toNat:Int) ip n w3.heap.size (w4.setRow w3.heap.size #[.int .u8 (R.toNat:Int),.bool ip,.func (.func n) #[] #[]]) from
          ⟨(uh Hw4).next ((Kept.refl _ _).setRow (by have:=(uh HC3).size;omega) _),setRow_heap _ _ _ _ _ _ (hrw4),by have:=(uh HC3).size;omega⟩)
        refine hK.out _ _ (uh HSC _ (uh HE).w2) (fun hHeld5=>?_)
        clear hK K
        try simp only [zz3]
        refine wpAnyH_done (by kernel_rfl) ?_ _
        go_wp2_with fail
        go_meet
        case rel=>exact ⟨_,rfl,uh HE⟩
      · refine rdX (some 5) (.alloc 199) 0 none (by kernel_rfl) (fun K hK=>?_) AllReadyH.nil
        refine ite_wanted ?_ ?_
        · kernel_rfl
        go_simp
        have Hw4:=hide ((uh H3).next (w':=w3.alloc (.cells #[.int .u8 0,.bool false,.nilFunc] 199)) ((Kept.refl _ _).alloc (uh H3).size _))
        have hrw4:(w3.alloc (.cells #[.int .u8 0,.bool false,.nilFunc] 199)).heap[w3.heap.size]?=some (.cells #[.int .u8 0,.bool false,.nilFunc] 199 (0,0)):=heap_alloc_new _ _
        have hkw4:Kept w3.heap.size w3 (w3.alloc (.cells #[.int .u8 0,.bool false,.nilFunc] 199)):=(Kept.refl _ _).alloc (Nat.le_refl _) _
        have hzw4:w3.heap.size<(w3.alloc (.cells #[.int .u8 0,.bool false,.nilFunc] 199)).heap.size:=by simp
        generalize w3.alloc (.cells #[.int .u8 0,.bool false,.nilFunc] 199)=w4 at *
        show K _ w4
        refine hK.out _ _ (uh HSC w4 (uh Hw4)) (fun hHeld4=>?_)
        clear hK K
        try simp only [zz0,zz1,zz2]
        refine rd1 3 (some 11) (.lookup 200 (.tmp 8) (.tmp 10) false) 199 (by kernel_rfl) (fun K hK=>?_)
        have hlook:(Instr.lookup 200 (.map (some w1.heap.size)) (.int .u8 (q.op.toNat:Int)) false).run Tryz.prog w4=.ok (deedV (R.toNat:Int) ip n) w4:=run_look kkByte und200 ((uh HM3).stay (hkw4.block _ (uh HM3).lt)) q.op.toNat (uh HLK) false
        refine wp_look200 (x:=.tmp 8) (y:=.tmp 10) ?_ _ (q.op.toNat:Int) _ ?_ ?_ hlook ?_
        · rfl
        · kernel_rfl
        · kernel_rfl
        simp only [Act.put]
        refine hK.out _ _ (uh HSC w4 (uh Hw4)) (fun hHeld3=>?_)
        clear hK K
        try simp only [zz0,zz1,zz2]
        refine rd1 5 none (.store 199 (.tmp 5) (.tmp 11)) 0 (by kernel_rfl) (fun K hK=>?_)
        refine wp_store_row 199 (.tmp 5) (.tmp 11) ?_ w3.heap.size #[.int .u8 (R.toNat:Int),.bool ip,.func (.func n) #[] #[]] ?_ ?_ 199 _ (hrw4) info199 rfl (by simp [Value.oneCell']) ?_
        · rfl
        · kernel_rfl
        · kernel_rfl
        simp only [Act.put]
        have HE:=hide (show AkD w q (R.toNat:Int) ip n w3.heap.size (w4.setRow w3.heap.size #[.int .u8 (R.toNat:Int),.bool ip,.func (.func n) #[] #[]]) from
          ⟨(uh Hw4).next ((Kept.refl _ _).setRow (by have:=(uh HC3).size;omega) _),setRow_heap _ _ _ _ _ _ (hrw4),by have:=(uh HC3).size;omega⟩)
        refine hK.out _ _ (uh HSC _ (uh HE).w2) (fun hHeld5=>?_)
        clear hK K
        try simp only [zz3]
        refine wpAnyH_done (by kernel_rfl) ?_ _
        go_wp2_with fail
        go_meet
        case rel=>exact ⟨_,rfl,uh HE⟩
    · refine rdX (some 5) (.alloc 199) 0 none (by kernel_rfl) (fun K hK=>?_) AllReadyH.nil
      refine ite_wanted ?_ ?_
      · kernel_rfl
      go_simp
      have Hw4:=hide ((uh H0).next (w':=(w1.alloc (.cells #[.int .u8 0,.bool false,.nilFunc] 199)).drew) (((Kept.refl _ _).alloc (uh H0).size _).draws 1))
      have hrw4:(w1.alloc (.cells #[.int .u8 0,.bool false,.nilFunc] 199)).drew.heap[w1.heap.size]?=some (.cells #[.int .u8 0,.bool false,.nilFunc] 199 (0,0)):=heap_alloc_new w1 _
      have hzw4:w1.heap.size<(w1.alloc (.cells #[.int .u8 0,.bool false,.nilFunc] 199)).drew.heap.size:=by show w1.heap.size<(w1.alloc (.cells #[.int .u8 0,.bool false,.nilFunc] 199)).heap.size;simp
      generalize (w1.alloc (.cells #[.int .u8 0,.bool false,.nilFunc] 199)).drew=w4 at *
      show K _ w4
      refine hK.out _ _ (uh HSC w4 (uh Hw4)) (fun hHeld4=>?_)
      clear hK K
      try simp only [zz0,zz1,zz2]
      refine rd1 0 (some 8) (.call { callee:=.value (.func 108),args:=#[],argTypes:=#[] }) 200 (by kernel_rfl) (fun K hK=>?_)
      go_simp
      refine (deeds_go _).mono ?_
      rintro _ w3 ⟨rfl,hm3,hc3⟩
      have HM3:=hide hm3
      have HC3:=hide (show Kept w4.heap.size w4 w3 from ⟨hc3.os,hc3.output,hc3.size,fun k hk=>hc3.block k hk id⟩)
      have H3:=hide ((uh Hw4).next ((uh HC3).mono (uh Hw4).size))
      clear hm3 hc3
      show K _ w3
      refine hK.out _ _ (uh HSC w3 (uh H3)) (fun hHeld0=>?_)
      clear hK K
      try simp only [zz0,zz1,zz2]
      refine rd1 3 (some 11) (.lookup 200 (.tmp 8) (.tmp 10) false) 199 (by kernel_rfl) (fun K hK=>?_)
      have hlook:(Instr.lookup 200 (.map (some w4.heap.size)) (.int .u8 (q.op.toNat:Int)) false).run Tryz.prog w3=.ok (deedV (R.toNat:Int) ip n) w3:=run_look kkByte und200 (uh HM3) q.op.toNat (uh HLK) false
      refine wp_look200 (x:=.tmp 8) (y:=.tmp 10) ?_ _ (q.op.toNat:Int) _ ?_ ?_ hlook ?_
      · rfl
      · kernel_rfl
      · kernel_rfl
      simp only [Act.put]
      refine hK.out _ _ (uh HSC w3 (uh H3)) (fun hHeld3=>?_)
      clear hK K
      try simp only [zz0,zz1,zz2]
      refine rd1 5 none (.store 199 (.tmp 5) (.tmp 11)) 0 (by kernel_rfl) (fun K hK=>?_)
      refine wp_store_row 199 (.tmp 5) (.tmp 11) ?_ w1.heap.size #[.int .u8 (R.toNat:Int),.bool ip,.func (.func n) #[] #[]] ?_ ?_ 199 _ (((uh HC3).block _ hzw4).trans hrw4) info199 rfl (by simp [Value.oneCell']) ?_
      · rfl
      · kernel_rfl
      · kernel_rfl
      simp only [Act.put]
      have HE:=hide (show AkD w q (R.toNat:Int) ip n w1.heap.size (w3.setRow w1.heap.size #[.int .u8 (R.toNat:Int),.bool ip,.func (.func n) #[] #[]]) from
        ⟨(uh H3).next ((Kept.refl _ _).setRow (by omega) _),setRow_heap _ _ _ _ _ _ (((uh HC3).block _ hzw4).trans hrw4),by omega⟩)
      refine hK.out _ _ (uh HSC _ (uh HE).w2) (fun hHeld5=>?_)
      clear hK K
      try simp only [zz3]
      refine wpAnyH_done (by kernel_rfl) ?_ _
      go_wp2_with fail
      go_meet
      case rel=>exact ⟨_,rfl,uh HE⟩
  case rest =>
    obtain ⟨d,rfl,hd⟩:=hcut
    have HA:=hide hd
    clear hd
    rcases uh HSK with ⟨t,ht,hsk⟩ | ⟨ht,hsk⟩
    · have HSL:=hide hsk
      clear hsk HSK
      go_wp2_with fail
      refine wp_region_held_drew (S:=SK w sp tb q.token (t.pre) ((t.rights.toNat:Int)) true) (by kernel_rfl) (uh HSL wc.drew ((uh HA).next (w':=wc.drew) ((Kept.refl _ _).draws 1)).w2) (fun hHeld=>?_)
      refine tkL 3 [(0,some 13,.pointer (some ⟨sp,0,none⟩)),(1,some 14,.pointer (some ⟨sp,0,none⟩)),(2,some 15,.pointer (some ⟨sp,1,none⟩))] (by kernel_rfl) (fun _ _ _ _ _ h=>h) (fun _ _=>by kernel_rfl) hHeld ?_
      simp only [zz0,zz1,zz2,zz4,zz5]
      refine tkG 3 (some 16) (.load 165 (.tmp 15)) 165 none (.map (some tb)) (by kernel_rfl) (fun _ _ _ h=>h) (Or.inl ⟨by kernel_rfl,fun W hW=>by simp [execOp,go_sem,hW.1]⟩) hHeld ?_
      simp only [zz0,zz1,zz2]
      refine tkP 4 (some 17) (.pointer (some ⟨w.heap.size,1,none⟩)) (by kernel_rfl) (fun _ _ _ h=>h) (fun _ _=>by kernel_rfl) hHeld ?_
      simp only [zz0,zz1,zz2]
      refine tkG 5 (some 18) (.load 9 (.tmp 17)) 9 none (.string q.token) (by kernel_rfl) (fun _ _ _ h=>h) (Or.inl ⟨by kernel_rfl,fun W hW=>by simp [execOp,go_sem,hW.2.1]⟩) hHeld ?_
      simp only [zz0,zz1,zz2]
      refine tkG 6 (some 19) (.lookup 165 (.tmp 16) (.tmp 18) true) 202 none (.tuple #[.agg #[.string (t.pre),.int .u8 ((t.rights.toNat:Int))],.bool true]) (by kernel_rfl) (fun _ _ _ h=>h) (Or.inl ⟨by kernel_rfl,fun W hW=>by simp [execOp,go_sem,hW.2.2]⟩) hHeld ?_
      simp only [zz0,zz1,zz2]
      refine tkL 3 [(7,some 12,.tuple #[.agg #[.string (t.pre),.int .u8 ((t.rights.toNat:Int))],.bool true]),(8,some 20,.agg #[.string (t.pre),.int .u8 ((t.rights.toNat:Int))]),(9,some 21,.bool true)] (by kernel_rfl) (fun _ _ _ _ _ h=>h) (fun _ _=>by kernel_rfl) hHeld ?_
      simp only [zz0,zz1,zz2,zz4,zz5]
      refine rd1 10 (some 6) (.alloc 164) 0 (by kernel_rfl) (fun K hK=>?_)
      go_simp
      have HA2:=hide ((uh HA).next (w':=(wc.alloc (.cells #[.string ⟨#[]⟩,.int .u8 0] 164)).drew) ((((Kept.refl _ _).alloc (uh HA).lt _)).draws 1))
      have hr2:(wc.alloc (.cells #[.string ⟨#[]⟩,.int .u8 0] 164)).drew.heap[wc.heap.size]?=some (.cells #[.string ⟨#[]⟩,.int .u8 0] 164 (0,0)):=heap_alloc_new wc _
      generalize (wc.alloc (.cells #[.string ⟨#[]⟩,.int .u8 0] 164)).drew=w4 at HA2 hr2 hK ⊢
      show K _ w4
      refine hK.out _ _ (uh HSL w4 (uh HA2).w2) (fun hHeld10=>?_)
      clear hK K
      try simp only [zz0,zz1,zz2]
      refine rd1 11 none (.store 164 (.tmp 6) (.tmp 20)) 0 (by kernel_rfl) (fun K hK=>?_)
      refine wp_store_row 164 (.tmp 6) (.tmp 20) ?_ wc.heap.size #[.string (t.pre),.int .u8 ((t.rights.toNat:Int))] ?_ ?_ 164 _ hr2 info164 rfl (by simp [Value.oneCell']) ?_
      · rfl
      · kernel_rfl
      · kernel_rfl
      simp only [Act.put]
      have HA5:=hide ((uh HA2).next (w':=w4.setRow wc.heap.size #[.string (t.pre),.int .u8 ((t.rights.toNat:Int))]) ((Kept.refl _ _).setRow (uh HA).lt _))
      have hr5:(w4.setRow wc.heap.size #[.string (t.pre),.int .u8 ((t.rights.toNat:Int))]).heap[wc.heap.size]?=some (.cells #[.string (t.pre),.int .u8 ((t.rights.toNat:Int))] 164 (0,0)):=setRow_heap _ _ _ _ _ _ hr2
      generalize w4.setRow wc.heap.size #[.string (t.pre),.int .u8 ((t.rights.toNat:Int))]=w5 at HA5 hr5 hK ⊢
      show K _ w5
      refine hK.out _ _ (uh HSL w5 (uh HA5).w2) (fun hHeld11=>?_)
      clear hK K
      try simp only [zz3]
      refine tkP 12 (some 7) (.bool true) (by kernel_rfl) (fun _ _ _ h=>h) (fun _ _=>by kernel_rfl) hHeld11 ?_
      simp only [zz0,zz1,zz2]
      refine wpAnyH_done (by kernel_rfl) ?_ _
      clear hHeld hHeld10 hHeld11 HSL hr2 HA2 HA
      have HAS:=hide (uh HASK t ht)
      have hpre:=uh HTOK t ht
      have hc6:w5.cell? ⟨wc.heap.size,1,none⟩=some (.int .u8 (t.rights.toNat:Int)):=by rw [cell_of_row _ _ _ _ _ _ hr5];rfl
      have hc6b:w5.cell? ⟨wc.heap.size,0,none⟩=some (.string t.pre):=by rw [cell_of_row _ _ _ _ _ _ hr5];rfl
      have hc5:w5.cell? ⟨d,0,none⟩=some (.int .u8 (R.toNat:Int)):=by rw [cell_of_row _ _ _ _ _ _ (uh HA5).row];rfl
      have hc5b:w5.cell? ⟨d,1,none⟩=some (.bool ip):=by rw [cell_of_row _ _ _ _ _ _ (uh HA5).row];rfl
      have hc5c:w5.cell? ⟨d,2,none⟩=some (.func (.func n) #[] #[]):=by rw [cell_of_row _ _ _ _ _ _ (uh HA5).row];rfl
      have hcq:w5.cell? ⟨w.heap.size,2,none⟩=some (.string q.path):=by rw [(uh HA5).w2.q.c 2];rfl
      have hand:=and_u8 t.rights R
      obtain ⟨rr,hrr⟩:∃ rr,rr=t.rights &&& R:=⟨_,rfl⟩
      rw [← hrr] at hand
      have HRR:=hide hrr
      have HLT:=hide (uh HA5).lt
      clear hr5 hrr HASK HTOK HNONE
      by_cases h0:rr=0
      · have h0I:((rr.toNat:Int)==0)=true:=by rw [h0];rfl
        have h0J:(rr.toNat:Int)=0:=by rw [h0];rfl
        have HO:=hide (show S.ask q=⟨3,.empty,none⟩ by rw [uh HAS,if_pos (.inl (by rw [← (uh HRI).1,← uh HRR];exact h0))])
        go_wp2_with fail
        refine (refused_go 3 w5).mono ?_
        rintro _ w6 ⟨rfl,hk6⟩
        have HW6:=hide ((uh HA5).w2.next (hk6.mono (uh HA5).w2.size))
        clear hk6
        go_wp2_with (refine wpList_store_put rfl 86 (.tmp 4) (.tmp 43) rfl (w.heap.size+1) (ocells 3 .empty .nilFunc) ?_ ?_ 86 (ocells 0 .empty .nilFunc) ?_ info86 rfl (oc_one _ _ rfl) ?_
                     · rfl
                     · rfl
                     · exact (uh HW6).o
                     intro w7 hp7)
        exact oc_ret Tryz.results72 hp7.row (by rw [uh HO];exact ⟨⟨_,rfl,rfl⟩,(uh HW6).put hp7⟩)
      · have hz:rr.toNat≠0:=fun e=>h0 (UInt8.toNat_inj.1 e)
        have h0I:((rr.toNat:Int)==0)=false:=by simp;omega
        have h0J:¬ (rr.toNat:Int)=0:=by omega
        have HYES:=hide (show ¬ (inPath q.op=true∧hasPre q.path t.pre=false)→S.ask q=S.deed q from fun e=>by rw [uh HAS,if_neg (fun e'=>by rcases e' with e' | e';exact h0 (by rw [uh HRR,(uh HRI).1];exact e');exact e e')])
        have HNO:=hide (show inPath q.op=true∧hasPre q.path t.pre=false→S.ask q=⟨3,.empty,none⟩ from fun e=>by rw [uh HAS,if_pos (.inr e)])
        by_cases hip:ip=true
        · subst hip
          go_wp2_with fail
          refine (hasPrefix_go q.path t.pre w5 (by omega) (by omega)).mono ?_
          rintro _ _ ⟨rfl,rfl⟩
          rename_i w5
          by_cases hpp:hasPre q.path t.pre=true
          · have HO:=hide (uh HYES fun e=>by rw [e.2] at hpp;cases hpp)
            rw [hpp]
            clear HYES HNO
            have hbq:=(uh HA5).w2.q
            go_wp2_with (refine wpList_load_row rfl 84 (.tmp 3) rfl w.heap.size ?_ 84 q.cells (0,0) _ ?_ Tryz.underlying84 rfl info84 ?_;· rfl
                         · exact hbq)
            refine (uh HD w5 ((uh HS).kept (uh HA5).w2.kept) (by have:=(uh HA5).w2.kept.size;omega)).mono ?_
            rintro _ w6 ⟨⟨F,rfl,hF⟩,hk6⟩
            have HF:=hide hF
            have h1F:=hF.one
            have HW6:=hide ((uh HA5).w2.next (hk6.mono (uh HA5).w2.size))
            have HK6:=hide hk6
            clear hk6 hF
            go_wp2_with (refine wpList_store_put rfl 86 (.tmp 4) (.tmp 48) rfl (w.heap.size+1) (ocells (S.deed q).err (S.deed q).more F) ?_ ?_ 86 (ocells 0 .empty .nilFunc) ?_ info86 rfl (oc_one _ _ h1F) ?_
                         · rfl
                         · rfl
                         · exact (uh HW6).o
                         intro w7 hp7)
            have hfin:Clo B w.heap.size w7 sp L q F (S.deed q).ch:=(uh HF).put (uh HA5).w2.kept.size (uh HA5).w2.size hp7
            exact oc_ret Tryz.results72 hp7.row (by rw [uh HO];exact ⟨⟨_,rfl,hfin⟩,(uh HW6).put hp7⟩)
          · have hpf:hasPre q.path t.pre=false:=by simpa using hpp
            have HO:=hide (uh HNO ⟨(uh HRI).2.symm,hpf⟩)
            rw [hpf]
            clear HYES HNO
            go_wp2_with fail
            refine (refused_go 3 w5).mono ?_
            rintro _ w6 ⟨rfl,hk6⟩
            have HW6:=hide ((uh HA5).w2.next (hk6.mono (uh HA5).w2.size))
            clear hk6
            go_wp2_with (refine wpList_store_put rfl 86 (.tmp 4) (.tmp 43) rfl (w.heap.size+1) (ocells 3 .empty .nilFunc) ?_ ?_ 86 (ocells 0 .empty .nilFunc) ?_ info86 rfl (oc_one _ _ rfl) ?_
                         · rfl
                         · rfl
                         · exact (uh HW6).o
                         intro w7 hp7)
            exact oc_ret Tryz.results72 hp7.row (by rw [uh HO];exact ⟨⟨_,rfl,rfl⟩,(uh HW6).put hp7⟩)
        · have hif:ip=false:=by simpa using hip
          subst hif
          have HO:=hide (uh HYES fun e=>by rw [← (uh HRI).2] at e;cases e.1)
          clear HYES HNO hip
          have hbq:=(uh HA5).w2.q
          go_wp2_with (refine wpList_load_row rfl 84 (.tmp 3) rfl w.heap.size ?_ 84 q.cells (0,0) _ ?_ Tryz.underlying84 rfl info84 ?_;· rfl
                       · exact hbq)
          refine (uh HD w5 ((uh HS).kept (uh HA5).w2.kept) (by have:=(uh HA5).w2.kept.size;omega)).mono ?_
          rintro _ w6 ⟨⟨F,rfl,hF⟩,hk6⟩
          have HF:=hide hF
          have h1F:=hF.one
          have HW6:=hide ((uh HA5).w2.next (hk6.mono (uh HA5).w2.size))
          have HK6:=hide hk6
          clear hk6 hF
          go_wp2_with (refine wpList_store_put rfl 86 (.tmp 4) (.tmp 48) rfl (w.heap.size+1) (ocells (S.deed q).err (S.deed q).more F) ?_ ?_ 86 (ocells 0 .empty .nilFunc) ?_ info86 rfl (oc_one _ _ h1F) ?_
                       · rfl
                       · rfl
                       · exact (uh HW6).o
                       intro w7 hp7)
          have hfin:Clo B w.heap.size w7 sp L q F (S.deed q).ch:=(uh HF).put (uh HA5).w2.kept.size (uh HA5).w2.size hp7
          exact oc_ret Tryz.results72 hp7.row (by rw [uh HO];exact ⟨⟨_,rfl,hfin⟩,(uh HW6).put hp7⟩)
    · have HSL:=hide hsk
      clear hsk HSK
      go_wp2_with fail
      refine wp_region_held_drew (S:=SK w sp tb q.token (ByteArray.empty) (0) false) (by kernel_rfl) (uh HSL wc.drew ((uh HA).next (w':=wc.drew) ((Kept.refl _ _).draws 1)).w2) (fun hHeld=>?_)
      refine tkL 3 [(0,some 13,.pointer (some ⟨sp,0,none⟩)),(1,some 14,.pointer (some ⟨sp,0,none⟩)),(2,some 15,.pointer (some ⟨sp,1,none⟩))] (by kernel_rfl) (fun _ _ _ _ _ h=>h) (fun _ _=>by kernel_rfl) hHeld ?_
      simp only [zz0,zz1,zz2,zz4,zz5]
      refine tkG 3 (some 16) (.load 165 (.tmp 15)) 165 none (.map (some tb)) (by kernel_rfl) (fun _ _ _ h=>h) (Or.inl ⟨by kernel_rfl,fun W hW=>by simp [execOp,go_sem,hW.1]⟩) hHeld ?_
      simp only [zz0,zz1,zz2]
      refine tkP 4 (some 17) (.pointer (some ⟨w.heap.size,1,none⟩)) (by kernel_rfl) (fun _ _ _ h=>h) (fun _ _=>by kernel_rfl) hHeld ?_
      simp only [zz0,zz1,zz2]
      refine tkG 5 (some 18) (.load 9 (.tmp 17)) 9 none (.string q.token) (by kernel_rfl) (fun _ _ _ h=>h) (Or.inl ⟨by kernel_rfl,fun W hW=>by simp [execOp,go_sem,hW.2.1]⟩) hHeld ?_
      simp only [zz0,zz1,zz2]
      refine tkG 6 (some 19) (.lookup 165 (.tmp 16) (.tmp 18) true) 202 none (.tuple #[.agg #[.string (ByteArray.empty),.int .u8 (0)],.bool false]) (by kernel_rfl) (fun _ _ _ h=>h) (Or.inl ⟨by kernel_rfl,fun W hW=>by simp [execOp,go_sem,hW.2.2]⟩) hHeld ?_
      simp only [zz0,zz1,zz2]
      refine tkL 3 [(7,some 12,.tuple #[.agg #[.string (ByteArray.empty),.int .u8 (0)],.bool false]),(8,some 20,.agg #[.string (ByteArray.empty),.int .u8 (0)]),(9,some 21,.bool false)] (by kernel_rfl) (fun _ _ _ _ _ h=>h) (fun _ _=>by kernel_rfl) hHeld ?_
      simp only [zz0,zz1,zz2,zz4,zz5]
      refine rd1 10 (some 6) (.alloc 164) 0 (by kernel_rfl) (fun K hK=>?_)
      go_simp
      have HA2:=hide ((uh HA).next (w':=(wc.alloc (.cells #[.string ⟨#[]⟩,.int .u8 0] 164)).drew) ((((Kept.refl _ _).alloc (uh HA).lt _)).draws 1))
      have hr2:(wc.alloc (.cells #[.string ⟨#[]⟩,.int .u8 0] 164)).drew.heap[wc.heap.size]?=some (.cells #[.string ⟨#[]⟩,.int .u8 0] 164 (0,0)):=heap_alloc_new wc _
      generalize (wc.alloc (.cells #[.string ⟨#[]⟩,.int .u8 0] 164)).drew=w4 at HA2 hr2 hK ⊢
      show K _ w4
      refine hK.out _ _ (uh HSL w4 (uh HA2).w2) (fun hHeld10=>?_)
      clear hK K
      try simp only [zz0,zz1,zz2]
      refine rd1 11 none (.store 164 (.tmp 6) (.tmp 20)) 0 (by kernel_rfl) (fun K hK=>?_)
      refine wp_store_row 164 (.tmp 6) (.tmp 20) ?_ wc.heap.size #[.string (ByteArray.empty),.int .u8 (0)] ?_ ?_ 164 _ hr2 info164 rfl (by simp [Value.oneCell']) ?_
      · rfl
      · kernel_rfl
      · kernel_rfl
      simp only [Act.put]
      have HA5:=hide ((uh HA2).next (w':=w4.setRow wc.heap.size #[.string (ByteArray.empty),.int .u8 (0)]) ((Kept.refl _ _).setRow (uh HA).lt _))
      have hr5:(w4.setRow wc.heap.size #[.string (ByteArray.empty),.int .u8 (0)]).heap[wc.heap.size]?=some (.cells #[.string (ByteArray.empty),.int .u8 (0)] 164 (0,0)):=setRow_heap _ _ _ _ _ _ hr2
      generalize w4.setRow wc.heap.size #[.string (ByteArray.empty),.int .u8 (0)]=w5 at HA5 hr5 hK ⊢
      show K _ w5
      refine hK.out _ _ (uh HSL w5 (uh HA5).w2) (fun hHeld11=>?_)
      clear hK K
      try simp only [zz3]
      refine tkP 12 (some 7) (.bool false) (by kernel_rfl) (fun _ _ _ h=>h) (fun _ _=>by kernel_rfl) hHeld11 ?_
      simp only [zz0,zz1,zz2]
      refine wpAnyH_done (by kernel_rfl) ?_ _
      clear hHeld hHeld10 hHeld11 HSL hr2 HA2 HA
      have HO:=hide (uh HNONE ht)
      go_wp2_with fail
      refine (refused_go 2 w5).mono ?_
      rintro _ w6 ⟨rfl,hk6⟩
      have HW6:=hide ((uh HA5).w2.next (hk6.mono (uh HA5).w2.size))
      clear hk6
      go_wp2_with (refine wpList_store_put rfl 86 (.tmp 4) (.tmp 24) rfl (w.heap.size+1) (ocells 2 .empty .nilFunc) ?_ ?_ 86 (ocells 0 .empty .nilFunc) ?_ info86 rfl (oc_one _ _ rfl) ?_
                   · rfl
                   · rfl
                   · exact (uh HW6).o
                   intro w7 hp7)
      exact oc_ret Tryz.results72 hp7.row (by rw [uh HO];exact ⟨⟨_,rfl,rfl⟩,(uh HW6).put hp7⟩)
end Go.Proofs.YtlbacbcenejngaaGreatDoor
namespace Go.Proofs.YtlbacbcenejngaaGreatDoor
open Go.RowKit
theorem yieldsIf_build {ops:Array Oper} {S:World→Prop} {op:Oper} {a:Act} (hw:Region.wanted op (yielded ops a.tmps)=true) (x0 x1 x2 x3 x4 x5:Operand) (ho:op.op=.build 93 #[(0,x0),(1,x1),(2,x2),(3,x3),(4,x4),(5,x5)]) {v0 v1 v2 v3 v4 v5 v:Value}
  (hr:∀ W,(Instr.build 93 #[(0,v0),(1,v1),(2,v2),(3,v3),(4,v4),(5,v5)]).run Tryz.prog W=.ok v W) (h0:a.eval x0=v0) (h1:a.eval x1=v1) (h2:a.eval x2=v2) (h3:a.eval x3=v3) (h4:a.eval x4=v4) (h5:a.eval x5=v5):YieldsIf Tryz.prog ops S op v a :=
 .inl ⟨hw,fun W _=>by
  unfold execOp
  simp only [ho]
  have e:((#[(0,x0),(1,x1),(2,x2),(3,x3),(4,x4),(5,x5)]:Array (Nat × Operand)).map fun x=>match x with | (i,x)=>(i,a.eval x))=#[(0,v0),(1,v1),(2,v2),(3,v3),(4,v4),(5,v5)]:=by simp [h0,h1,h2,h3,h4,h5]
  rw [e]
  simp only [Sem.run_bind,hr W,Result.andThen_ok,Sem.run_pure]⟩
def SEn (w:World) (vp:Nat) (key more:ByteArray) (err:Nat) (q:Rq) (W:World):Prop:=W.cell? ⟨w.heap.size,0,none⟩=some (.int .u8 (q.op.toNat:Int))∧W.cell? ⟨vp,0,none⟩=some (.string key)∧W.cell? ⟨w.heap.size,2,none⟩=some (.string q.path)∧W.cell? ⟨w.heap.size,3,none⟩=some (.string q.rest)∧W.cell? ⟨w.heap.size+1,0,none⟩=some (.int .i64 (err:Int))∧W.cell? ⟨w.heap.size+1,1,none⟩=some (.string more)
structure En (w:World) (q:Rq) (err:Nat) (more:ByteArray) (F:Value) (wi:World):Prop where
 q:RqAt wi w.heap.size q
 o:wi.heap[w.heap.size+1]?=some (.cells (ocells err more F) 86 (0,0))
 z:wi.heap[w.heap.size+2]?=some (.cells (ecells 0 (List.replicate 32 0) .empty (List.replicate 32 0) 0 (List.replicate 32 0)) 93 (0,0))
 kept:Kept w.heap.size w wi
theorem En.size {w wi:World} {q:Rq} {err:Nat} {more:ByteArray} {F:Value} (h:En w q err more F wi):w.heap.size+3≤wi.heap.size:=(Array.getElem?_eq_some_iff.1 h.z).1
theorem En.next {w wi w':World} {q:Rq} {err:Nat} {more:ByteArray} {F:Value} (h:En w q err more F wi) (hk:Kept (w.heap.size+3) wi w'):En w q err more F w' :=
 ⟨(hk.block _ (by omega)).trans h.q,(hk.block _ (by omega)).trans h.o,(hk.block _ (by omega)).trans h.z,h.kept.trans (hk.mono (by omega))⟩
theorem en_start (w:World) (q:Rq) (err:Nat) (more:ByteArray) (F:Value):En w q err more F (((w.alloc (.cells q.cells 84)).alloc (.cells (ocells err more F) 86)).alloc (.cells (ecells 0 (List.replicate 32 0) .empty (List.replicate 32 0) 0 (List.replicate 32 0)) 93)):=by
 refine ⟨?_,?_,?_,?_⟩
 ·unfold RqAt
  rw [Below.heap_alloc _ _ _ (by simp only [World.size_alloc];omega),Below.heap_alloc _ _ _ (by simp)]
  exact heap_alloc_new _ _
 ·rw [Below.heap_alloc _ _ _ (by simp)]
  have:=heap_alloc_new (w.alloc (.cells q.cells 84)) (.cells (ocells err more F) 86)
  simpa only [World.size_alloc] using this
 ·have:=heap_alloc_new ((w.alloc (.cells q.cells 84)).alloc (.cells (ocells err more F) 86)) (.cells (ecells 0 (List.replicate 32 0) .empty (List.replicate 32 0) 0 (List.replicate 32 0)) 93)
  simpa only [World.size_alloc] using this
 ·exact (((Kept.refl _ _).alloc (Nat.le_refl _) _).alloc (by simp) _).alloc (by simp only [World.size_alloc];omega) _
def whoOf (q:Rq) (req:ByteArray):ByteArray:=if q.op=0 then req else q.token
set_option maxRecDepth 100000 in
set_option maxHeartbeats 4000000 in
theorem entry_go (w:World) (vp:Nat) (key req more:ByteArray) (q:Rq) (err:Nat) (F J Lg St:Value) (dn:Bool) (hv:w.heap[vp]?=some (.cells #[.string key,J,Lg,St,.bool dn] 78 (0,0))) (hk:key.size≤2000000) (hr:req.size≤140737488354000) (hq1:q.token.size≤140737488354000) (hq2:q.rest.size≤140737488354000) (hm:more.size≤100000) (hT:Table w) (hz:0<w.heap.size) :
  Calls Tryz.prog 38 #[.pointer (some ⟨vp,0,none⟩),.string req,.agg q.cells,.agg (ocells err more F)] w fun e w'=>e=.returned (.agg (ecells q.op (Sha.tag key.data.toList (whoOf q req).data.toList) q.path (Sha.tag key.data.toList q.rest.data.toList) err (Sha.tag key.data.toList more.data.toList)))∧Kept w.heap.size w w':=by
 have H0:=hide (en_start w q err more F)
 have HS:=hide (show ∀ W,En w q err more F W→SEn w vp key more err q W from fun W hW=>⟨by rw [hW.q.c 0];rfl,by rw [cell_of_row _ _ _ _ _ _ ((hW.kept.block _ (Array.getElem?_eq_some_iff.1 hv).1).trans hv)];rfl,by rw [hW.q.c 2];rfl,by rw [hW.q.c 3];rfl,by rw [cell_of_row _ _ _ _ _ _ hW.o];rfl,by rw [cell_of_row _ _ _ _ _ _ hW.o];rfl⟩)
 have HTB:=hide (show ∀ W,En w q err more F W→Table W from fun W hW=>hT.kept hW.kept hz)
 obtain ⟨w1,hw1⟩:∃ w1,w1=((w.alloc (.cells q.cells 84)).alloc (.cells (ocells err more F) 86)).alloc (.cells (ecells 0 (List.replicate 32 0) .empty (List.replicate 32 0) 0 (List.replicate 32 0)) 93):=⟨_,rfl⟩
 rw [← hw1] at H0
 have hct:w1.cell? ⟨w.heap.size,1,none⟩=some (.string q.token):=by rw [(uh H0).q.c 1];rfl
 have hco:w1.cell? ⟨w.heap.size,0,none⟩=some (.int .u8 (q.op.toNat:Int)):=by rw [(uh H0).q.c 0];rfl
 have hws:(whoOf q req).size≤140737488354000:=by unfold whoOf;split <;> assumption
 have l1:=tag_length key.data.toList (whoOf q req).data.toList
 have l2:=tag_length key.data.toList q.rest.data.toList
 have l3:=tag_length key.data.toList more.data.toList
 obtain ⟨T1,hT1⟩:∃ T,T=Sha.tag key.data.toList (whoOf q req).data.toList:=⟨_,rfl⟩
 obtain ⟨T2,hT2⟩:∃ T,T=Sha.tag key.data.toList q.rest.data.toList:=⟨_,rfl⟩
 obtain ⟨T3,hT3⟩:∃ T,T=Sha.tag key.data.toList more.data.toList:=⟨_,rfl⟩
 have G1:=hide (fun W hT hz=>tag_go key (whoOf q req) W (by omega) (by omega) hT hz)
 have G2:=hide (fun W hT hz=>tag_go key q.rest W (by omega) (by omega) hT hz)
 have G3:=hide (fun W hT hz=>tag_go key more W (by omega) (by omega) hT hz)
 rw [← hT1] at l1 G1 ⊢
 rw [← hT2] at l2 G2 ⊢
 rw [← hT3] at l3 G3 ⊢
 have hbu:=build93 q.op l1 l2 l3 q.path err
 have hei:(ecells q.op T1 q.path T2 err T3).size=99:=(ec_facts ⟨(List.length_replicate:(List.replicate 32 (0:UInt8)).length=32),l1,l2,l3⟩ q.op q.path err).1
 have heo:=ec_one q.op T1 T2 T3 q.path err
 have hi93:(Tryz.prog.info? 93).map (·.size)=some (ecells q.op T1 q.path T2 err T3).size:=by rw [hei];exact info93
 have hvp:vp<w.heap.size+2:=by have:=(Array.getElem?_eq_some_iff.1 hv).1;omega
 clear hT1 hT2 hT3 hv hT
 have hwo:(q.op=0∧whoOf q req=req)∨(q.op≠0∧whoOf q req=q.token):=by
  unfold whoOf
  by_cases h:q.op=0
  ·exact .inl ⟨h,if_pos h⟩
  ·exact .inr ⟨h,if_neg h⟩
 generalize whoOf q req=who at *
 rcases hwo with ⟨ho,rfl⟩ | ⟨ho,rfl⟩
 ·have hoI:(q.op.toNat:Int)=0:=by rw [ho];rfl
  go_enter Tryz.func38,Tryz.ntmps38
  go_upto_region 1 with fail
  change Code.wp _ _ _ _ (((w.alloc (.cells q.cells 84)).alloc (.cells (ocells err more F) 86)).alloc (.cells (ecells 0 (List.replicate 32 0) .empty (List.replicate 32 0) 0 (List.replicate 32 0)) 93))
  rw [← hw1]
  clear hw1
  go_wp2_with fail
  clear hoI ho
  generalize hEC:ecells q.op T1 q.path T2 err T3=EC at *
  refine wp_region_held_drew (S:=SEn w vp key more err q) (by kernel_rfl) (uh HS w1.drew ((uh H0).next ((Kept.refl _ _).draws 1))) (fun hHeld=>?_)
  refine tkP 0 (some 16) (.pointer (some ⟨w.heap.size,0,none⟩)) (by kernel_rfl) (fun _ _ _ h=>h) (fun _ _=>by kernel_rfl) hHeld ?_
  simp only [zz0,zz1,zz2]
  refine tkG 1 (some 17) (.load 5 (.tmp 16)) 5 none (.int .u8 (q.op.toNat:Int)) (by kernel_rfl) (fun _ _ _ h=>h) (Or.inl ⟨by kernel_rfl,fun W hW=>by simp [execOp,go_sem,hW.1]⟩) hHeld ?_
  simp only [zz0,zz1,zz2]
  refine tkL 3 [(2,some 18,.pointer (some ⟨vp,0,none⟩)),(3,some 19,.pointer (some ⟨vp,0,none⟩)),(4,some 20,.pointer (some ⟨vp,0,none⟩))] (by kernel_rfl) (fun _ _ _ _ _ h=>h) (fun _ _=>by kernel_rfl) hHeld ?_
  simp only [zz0,zz1,zz2,zz4,zz5]
  refine tkG 5 (some 21) (.load 9 (.tmp 20)) 9 none (.string key) (by kernel_rfl) (fun _ _ _ h=>h) (Or.inl ⟨by kernel_rfl,fun W hW=>by simp [execOp,go_sem,hW.2.1]⟩) hHeld ?_
  simp only [zz0,zz1,zz2]
  refine tkL 2 [(6,some 22,.string who),(8,some 24,.pointer (some ⟨w.heap.size,2,none⟩))] (by kernel_rfl) (fun _ _ _ _ _ h=>h) (fun _ _=>by kernel_rfl) hHeld ?_
  simp only [zz0,zz1,zz2,zz4,zz5]
  refine tkG 9 (some 25) (.load 9 (.tmp 24)) 9 none (.string q.path) (by kernel_rfl) (fun _ _ _ h=>h) (Or.inl ⟨by kernel_rfl,fun W hW=>by simp [execOp,go_sem,hW.2.2.1]⟩) hHeld ?_
  simp only [zz0,zz1,zz2]
  refine tkL 3 [(10,some 26,.pointer (some ⟨vp,0,none⟩)),(11,some 27,.pointer (some ⟨vp,0,none⟩)),(12,some 28,.pointer (some ⟨vp,0,none⟩))] (by kernel_rfl) (fun _ _ _ _ _ h=>h) (fun _ _=>by kernel_rfl) hHeld ?_
  simp only [zz0,zz1,zz2,zz4,zz5]
  refine tkG 13 (some 29) (.load 9 (.tmp 28)) 9 none (.string key) (by kernel_rfl) (fun _ _ _ h=>h) (Or.inl ⟨by kernel_rfl,fun W hW=>by simp [execOp,go_sem,hW.2.1]⟩) hHeld ?_
  simp only [zz0,zz1,zz2]
  refine tkP 14 (some 30) (.pointer (some ⟨w.heap.size,3,none⟩)) (by kernel_rfl) (fun _ _ _ h=>h) (fun _ _=>by kernel_rfl) hHeld ?_
  simp only [zz0,zz1,zz2]
  refine tkG 15 (some 31) (.load 9 (.tmp 30)) 9 none (.string q.rest) (by kernel_rfl) (fun _ _ _ h=>h) (Or.inl ⟨by kernel_rfl,fun W hW=>by simp [execOp,go_sem,hW.2.2.2.1]⟩) hHeld ?_
  simp only [zz0,zz1,zz2]
  refine tkP 17 (some 33) (.pointer (some ⟨w.heap.size+1,0,none⟩)) (by kernel_rfl) (fun _ _ _ h=>h) (fun _ _=>by kernel_rfl) hHeld ?_
  simp only [zz0,zz1,zz2]
  refine tkG 18 (some 34) (.load 43 (.tmp 33)) 43 none (.int .i64 (err:Int)) (by kernel_rfl) (fun _ _ _ h=>h) (Or.inl ⟨by kernel_rfl,fun W hW=>by simp [execOp,go_sem,hW.2.2.2.2.1]⟩) hHeld ?_
  simp only [zz0,zz1,zz2]
  refine tkL 3 [(19,some 35,.pointer (some ⟨vp,0,none⟩)),(20,some 36,.pointer (some ⟨vp,0,none⟩)),(21,some 37,.pointer (some ⟨vp,0,none⟩))] (by kernel_rfl) (fun _ _ _ _ _ h=>h) (fun _ _=>by kernel_rfl) hHeld ?_
  simp only [zz0,zz1,zz2,zz4,zz5]
  refine tkG 22 (some 38) (.load 9 (.tmp 37)) 9 none (.string key) (by kernel_rfl) (fun _ _ _ h=>h) (Or.inl ⟨by kernel_rfl,fun W hW=>by simp [execOp,go_sem,hW.2.1]⟩) hHeld ?_
  simp only [zz0,zz1,zz2]
  refine tkP 23 (some 39) (.pointer (some ⟨w.heap.size+1,1,none⟩)) (by kernel_rfl) (fun _ _ _ h=>h) (fun _ _=>by kernel_rfl) hHeld ?_
  simp only [zz0,zz1,zz2]
  refine tkG 24 (some 40) (.load 9 (.tmp 39)) 9 none (.string more) (by kernel_rfl) (fun _ _ _ h=>h) (Or.inl ⟨by kernel_rfl,fun W hW=>by simp [execOp,go_sem,hW.2.2.2.2.2]⟩) hHeld ?_
  simp only [zz0,zz1,zz2]
  refine rd1 7 (some 23) (.call { callee:=.value (.func 74),args:=#[.tmp 21,.tmp 22],argTypes:=#[9,9] }) 29 (by kernel_rfl) (fun K hK=>?_)
  go_simp
  refine (uh G1 w1.drew (uh HTB _ ((uh H0).next (w':=w1.drew) ((Kept.refl _ _).draws 1))) (by have:=((uh H0).next (w':=w1.drew) ((Kept.refl _ _).draws 1)).size;omega)).mono ?_
  rintro _ w2 ⟨rfl,hb⟩
  have E2:=hide (((uh H0).next (w':=w1.drew) ((Kept.refl _ _).draws 1)).next (w':=w2) ((Kept.of hb).mono ((uh H0).next (w':=w1.drew) ((Kept.refl _ _).draws 1)).size))
  clear hb
  show K _ w2
  refine hK.out _ _ (uh HS w2 (uh E2)) (fun hHeld7=>?_)
  clear hK K
  try simp only [zz0,zz1,zz2]
  refine rd1 16 (some 32) (.call { callee:=.value (.func 74),args:=#[.tmp 29,.tmp 31],argTypes:=#[9,9] }) 29 (by kernel_rfl) (fun K hK=>?_)
  go_simp
  refine (uh G2 w2 (uh HTB _ (uh E2)) (by have:=(uh E2).size;omega)).mono ?_
  rintro _ w3 ⟨rfl,hb⟩
  have E3:=hide ((uh E2).next (w':=w3) ((Kept.of hb).mono (uh E2).size))
  clear hb
  show K _ w3
  refine hK.out _ _ (uh HS w3 (uh E3)) (fun hHeld16=>?_)
  clear hK K
  try simp only [zz0,zz1,zz2]
  refine rd1 25 (some 41) (.call { callee:=.value (.func 74),args:=#[.tmp 38,.tmp 40],argTypes:=#[9,9] }) 29 (by kernel_rfl) (fun K hK=>?_)
  go_simp
  refine (uh G3 w3 (uh HTB _ (uh E3)) (by have:=(uh E3).size;omega)).mono ?_
  rintro _ w4 ⟨rfl,hb⟩
  have E4:=hide ((uh E3).next (w':=w4) ((Kept.of hb).mono (uh E3).size))
  clear hb
  show K _ w4
  refine hK.out _ _ (uh HS w4 (uh E4)) (fun hHeld25=>?_)
  clear hK K
  try simp only [zz0,zz1,zz2]
  refine tkG 26 (some 42) (.build 93 #[(0,.tmp 17),(1,.tmp 23),(2,.tmp 25),(3,.tmp 32),(4,.tmp 34),(5,.tmp 41)]) 93 none (.agg EC) (by kernel_rfl) (fun _ _ _ h=>h) (yieldsIf_build (by kernel_rfl) (.tmp 17) (.tmp 23) (.tmp 25) (.tmp 32) (.tmp 34) (.tmp 41) rfl hbu (by kernel_rfl) (by kernel_rfl) (by kernel_rfl) (by kernel_rfl) (by kernel_rfl) (by kernel_rfl)) hHeld25 ?_
  simp only [zz0,zz1,zz2]
  refine rd1 27 none (.store 93 (.tmp 8) (.tmp 42)) 0 (by kernel_rfl) (fun K hK=>?_)
  refine wp_store_row 93 (.tmp 8) (.tmp 42) ?_ (w.heap.size+2) EC ?_ ?_ 93 _ (uh E4).z hi93 (by rw [hei];rfl) heo ?_
  ·rfl
  ·kernel_rfl
  ·kernel_rfl
  simp only [Act.put]
  have hr5:(w4.setRow (w.heap.size+2) EC).heap[w.heap.size+2]?=some (.cells EC 93 (0,0)):=setRow_heap _ _ _ _ _ _ (uh E4).z
  have hk5:Kept (w.heap.size+2) w4 (w4.setRow (w.heap.size+2) EC):=(Kept.refl _ _).setRow (Nat.le_refl _) _
  have HS5:=hide (show SEn w vp key more err q (w4.setRow (w.heap.size+2) EC) from by
   have h4:=uh HS w4 (uh E4)
   have hvl:vp<w.heap.size+2:=hvp
   exact ⟨(hk5.cell (p:=⟨w.heap.size,0,none⟩) (by simp)).trans h4.1,(hk5.cell (p:=⟨vp,0,none⟩) hvl).trans h4.2.1,(hk5.cell (p:=⟨w.heap.size,2,none⟩) (by simp)).trans h4.2.2.1,(hk5.cell (p:=⟨w.heap.size,3,none⟩) (by simp)).trans h4.2.2.2.1,(hk5.cell (p:=⟨w.heap.size+1,0,none⟩) (by simp)).trans h4.2.2.2.2.1,(hk5.cell (p:=⟨w.heap.size+1,1,none⟩) (by simp)).trans h4.2.2.2.2.2⟩)
  have HK5:=hide ((uh E4).kept.trans (hk5.mono (by omega)))
  clear hk5
  generalize w4.setRow (w.heap.size+2) EC=w5 at hr5 HK5 HS5 hK ⊢
  show K _ w5
  refine hK.out _ _ (uh HS5) (fun hHeld27=>?_)
  clear hK K
  try simp only [zz3]
  refine wpAnyH_done (by kernel_rfl) ?_ _
  go_wp2_with fail
  exact bodyPost_ret (v:=.agg EC) (results_cell_row Tryz.results38 _ _ (w.heap.size+2) 93 _ (0,0) _ rfl hr5 Tryz.underlying93 rfl hi93) rfl ⟨by rw [hEC],uh HK5⟩
 ·have hoI:¬ (q.op.toNat:Int)=0:=fun e=>ho (UInt8.toNat_inj.1 (show q.op.toNat=0 from by omega))
  go_enter Tryz.func38,Tryz.ntmps38
  go_upto_region 1 with fail
  change Code.wp _ _ _ _ (((w.alloc (.cells q.cells 84)).alloc (.cells (ocells err more F) 86)).alloc (.cells (ecells 0 (List.replicate 32 0) .empty (List.replicate 32 0) 0 (List.replicate 32 0)) 93))
  rw [← hw1]
  clear hw1
  go_wp2_with fail
  clear hoI ho
  generalize hEC:ecells q.op T1 q.path T2 err T3=EC at *
  refine wp_region_held_drew (S:=SEn w vp key more err q) (by kernel_rfl) (uh HS w1.drew ((uh H0).next ((Kept.refl _ _).draws 1))) (fun hHeld=>?_)
  refine tkP 0 (some 16) (.pointer (some ⟨w.heap.size,0,none⟩)) (by kernel_rfl) (fun _ _ _ h=>h) (fun _ _=>by kernel_rfl) hHeld ?_
  simp only [zz0,zz1,zz2]
  refine tkG 1 (some 17) (.load 5 (.tmp 16)) 5 none (.int .u8 (q.op.toNat:Int)) (by kernel_rfl) (fun _ _ _ h=>h) (Or.inl ⟨by kernel_rfl,fun W hW=>by simp [execOp,go_sem,hW.1]⟩) hHeld ?_
  simp only [zz0,zz1,zz2]
  refine tkL 3 [(2,some 18,.pointer (some ⟨vp,0,none⟩)),(3,some 19,.pointer (some ⟨vp,0,none⟩)),(4,some 20,.pointer (some ⟨vp,0,none⟩))] (by kernel_rfl) (fun _ _ _ _ _ h=>h) (fun _ _=>by kernel_rfl) hHeld ?_
  simp only [zz0,zz1,zz2,zz4,zz5]
  refine tkG 5 (some 21) (.load 9 (.tmp 20)) 9 none (.string key) (by kernel_rfl) (fun _ _ _ h=>h) (Or.inl ⟨by kernel_rfl,fun W hW=>by simp [execOp,go_sem,hW.2.1]⟩) hHeld ?_
  simp only [zz0,zz1,zz2]
  refine tkL 2 [(6,some 22,.string q.token),(8,some 24,.pointer (some ⟨w.heap.size,2,none⟩))] (by kernel_rfl) (fun _ _ _ _ _ h=>h) (fun _ _=>by kernel_rfl) hHeld ?_
  simp only [zz0,zz1,zz2,zz4,zz5]
  refine tkG 9 (some 25) (.load 9 (.tmp 24)) 9 none (.string q.path) (by kernel_rfl) (fun _ _ _ h=>h) (Or.inl ⟨by kernel_rfl,fun W hW=>by simp [execOp,go_sem,hW.2.2.1]⟩) hHeld ?_
  simp only [zz0,zz1,zz2]
  refine tkL 3 [(10,some 26,.pointer (some ⟨vp,0,none⟩)),(11,some 27,.pointer (some ⟨vp,0,none⟩)),(12,some 28,.pointer (some ⟨vp,0,none⟩))] (by kernel_rfl) (fun _ _ _ _ _ h=>h) (fun _ _=>by kernel_rfl) hHeld ?_
  simp only [zz0,zz1,zz2,zz4,zz5]
  refine tkG 13 (some 29) (.load 9 (.tmp 28)) 9 none (.string key) (by kernel_rfl) (fun _ _ _ h=>h) (Or.inl ⟨by kernel_rfl,fun W hW=>by simp [execOp,go_sem,hW.2.1]⟩) hHeld ?_
  simp only [zz0,zz1,zz2]
  refine tkP 14 (some 30) (.pointer (some ⟨w.heap.size,3,none⟩)) (by kernel_rfl) (fun _ _ _ h=>h) (fun _ _=>by kernel_rfl) hHeld ?_
  simp only [zz0,zz1,zz2]
  refine tkG 15 (some 31) (.load 9 (.tmp 30)) 9 none (.string q.rest) (by kernel_rfl) (fun _ _ _ h=>h) (Or.inl ⟨by kernel_rfl,fun W hW=>by simp [execOp,go_sem,hW.2.2.2.1]⟩) hHeld ?_
  simp only [zz0,zz1,zz2]
  refine tkP 17 (some 33) (.pointer (some ⟨w.heap.size+1,0,none⟩)) (by kernel_rfl) (fun _ _ _ h=>h) (fun _ _=>by kernel_rfl) hHeld ?_
  simp only [zz0,zz1,zz2]
  refine tkG 18 (some 34) (.load 43 (.tmp 33)) 43 none (.int .i64 (err:Int)) (by kernel_rfl) (fun _ _ _ h=>h) (Or.inl ⟨by kernel_rfl,fun W hW=>by simp [execOp,go_sem,hW.2.2.2.2.1]⟩) hHeld ?_
  simp only [zz0,zz1,zz2]
  refine tkL 3 [(19,some 35,.pointer (some ⟨vp,0,none⟩)),(20,some 36,.pointer (some ⟨vp,0,none⟩)),(21,some 37,.pointer (some ⟨vp,0,none⟩))] (by kernel_rfl) (fun _ _ _ _ _ h=>h) (fun _ _=>by kernel_rfl) hHeld ?_
  simp only [zz0,zz1,zz2,zz4,zz5]
  refine tkG 22 (some 38) (.load 9 (.tmp 37)) 9 none (.string key) (by kernel_rfl) (fun _ _ _ h=>h) (Or.inl ⟨by kernel_rfl,fun W hW=>by simp [execOp,go_sem,hW.2.1]⟩) hHeld ?_
  simp only [zz0,zz1,zz2]
  refine tkP 23 (some 39) (.pointer (some ⟨w.heap.size+1,1,none⟩)) (by kernel_rfl) (fun _ _ _ h=>h) (fun _ _=>by kernel_rfl) hHeld ?_
  simp only [zz0,zz1,zz2]
  refine tkG 24 (some 40) (.load 9 (.tmp 39)) 9 none (.string more) (by kernel_rfl) (fun _ _ _ h=>h) (Or.inl ⟨by kernel_rfl,fun W hW=>by simp [execOp,go_sem,hW.2.2.2.2.2]⟩) hHeld ?_
  simp only [zz0,zz1,zz2]
  refine rd1 7 (some 23) (.call { callee:=.value (.func 74),args:=#[.tmp 21,.tmp 22],argTypes:=#[9,9] }) 29 (by kernel_rfl) (fun K hK=>?_)
  go_simp
  refine (uh G1 w1.drew (uh HTB _ ((uh H0).next (w':=w1.drew) ((Kept.refl _ _).draws 1))) (by have:=((uh H0).next (w':=w1.drew) ((Kept.refl _ _).draws 1)).size;omega)).mono ?_
  rintro _ w2 ⟨rfl,hb⟩
  have E2:=hide (((uh H0).next (w':=w1.drew) ((Kept.refl _ _).draws 1)).next (w':=w2) ((Kept.of hb).mono ((uh H0).next (w':=w1.drew) ((Kept.refl _ _).draws 1)).size))
  clear hb
  show K _ w2
  refine hK.out _ _ (uh HS w2 (uh E2)) (fun hHeld7=>?_)
  clear hK K
  try simp only [zz0,zz1,zz2]
  refine rd1 16 (some 32) (.call { callee:=.value (.func 74),args:=#[.tmp 29,.tmp 31],argTypes:=#[9,9] }) 29 (by kernel_rfl) (fun K hK=>?_)
  go_simp
  refine (uh G2 w2 (uh HTB _ (uh E2)) (by have:=(uh E2).size;omega)).mono ?_
  rintro _ w3 ⟨rfl,hb⟩
  have E3:=hide ((uh E2).next (w':=w3) ((Kept.of hb).mono (uh E2).size))
  clear hb
  show K _ w3
  refine hK.out _ _ (uh HS w3 (uh E3)) (fun hHeld16=>?_)
  clear hK K
  try simp only [zz0,zz1,zz2]
  refine rd1 25 (some 41) (.call { callee:=.value (.func 74),args:=#[.tmp 38,.tmp 40],argTypes:=#[9,9] }) 29 (by kernel_rfl) (fun K hK=>?_)
  go_simp
  refine (uh G3 w3 (uh HTB _ (uh E3)) (by have:=(uh E3).size;omega)).mono ?_
  rintro _ w4 ⟨rfl,hb⟩
  have E4:=hide ((uh E3).next (w':=w4) ((Kept.of hb).mono (uh E3).size))
  clear hb
  show K _ w4
  refine hK.out _ _ (uh HS w4 (uh E4)) (fun hHeld25=>?_)
  clear hK K
  try simp only [zz0,zz1,zz2]
  refine tkG 26 (some 42) (.build 93 #[(0,.tmp 17),(1,.tmp 23),(2,.tmp 25),(3,.tmp 32),(4,.tmp 34),(5,.tmp 41)]) 93 none (.agg EC) (by kernel_rfl) (fun _ _ _ h=>h) (yieldsIf_build (by kernel_rfl) (.tmp 17) (.tmp 23) (.tmp 25) (.tmp 32) (.tmp 34) (.tmp 41) rfl hbu (by kernel_rfl) (by kernel_rfl) (by kernel_rfl) (by kernel_rfl) (by kernel_rfl) (by kernel_rfl)) hHeld25 ?_
  simp only [zz0,zz1,zz2]
  refine rd1 27 none (.store 93 (.tmp 8) (.tmp 42)) 0 (by kernel_rfl) (fun K hK=>?_)
  refine wp_store_row 93 (.tmp 8) (.tmp 42) ?_ (w.heap.size+2) EC ?_ ?_ 93 _ (uh E4).z hi93 (by rw [hei];rfl) heo ?_
  ·rfl
  ·kernel_rfl
  ·kernel_rfl
  simp only [Act.put]
  have hr5:(w4.setRow (w.heap.size+2) EC).heap[w.heap.size+2]?=some (.cells EC 93 (0,0)):=setRow_heap _ _ _ _ _ _ (uh E4).z
  have hk5:Kept (w.heap.size+2) w4 (w4.setRow (w.heap.size+2) EC):=(Kept.refl _ _).setRow (Nat.le_refl _) _
  have HS5:=hide (show SEn w vp key more err q (w4.setRow (w.heap.size+2) EC) from by
   have h4:=uh HS w4 (uh E4)
   have hvl:vp<w.heap.size+2:=hvp
   exact ⟨(hk5.cell (p:=⟨w.heap.size,0,none⟩) (by simp)).trans h4.1,(hk5.cell (p:=⟨vp,0,none⟩) hvl).trans h4.2.1,(hk5.cell (p:=⟨w.heap.size,2,none⟩) (by simp)).trans h4.2.2.1,(hk5.cell (p:=⟨w.heap.size,3,none⟩) (by simp)).trans h4.2.2.2.1,(hk5.cell (p:=⟨w.heap.size+1,0,none⟩) (by simp)).trans h4.2.2.2.2.1,(hk5.cell (p:=⟨w.heap.size+1,1,none⟩) (by simp)).trans h4.2.2.2.2.2⟩)
  have HK5:=hide ((uh E4).kept.trans (hk5.mono (by omega)))
  clear hk5
  generalize w4.setRow (w.heap.size+2) EC=w5 at hr5 HK5 HS5 hK ⊢
  show K _ w5
  refine hK.out _ _ (uh HS5) (fun hHeld27=>?_)
  clear hK K
  try simp only [zz3]
  refine wpAnyH_done (by kernel_rfl) ?_ _
  go_wp2_with fail
  exact bodyPost_ret (v:=.agg EC) (results_cell_row Tryz.results38 _ _ (w.heap.size+2) 93 _ (0,0) _ rfl hr5 Tryz.underlying93 rfl hi93) rfl ⟨by rw [hEC],uh HK5⟩
end Go.Proofs.YtlbacbcenejngaaGreatDoor
