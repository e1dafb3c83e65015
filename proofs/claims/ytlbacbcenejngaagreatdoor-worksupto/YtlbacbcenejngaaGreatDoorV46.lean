/-
  Yb Yf Yc Yd Yg Yh Wt Wu Wv Yi
-/
import Derived.Test.YtlbacbcenejngaaGreatDoorV45
import Derived.Test.YtlbacbcenejngaaGreatDoorV02
import Derived.Test.YtlbacbcenejngaaGreatDoorV43
import Derived.Test.YtlbacbcenejngaaGreatDoorV42
import Derived.Test.YtlbacbcenejngaaGreatDoorV27
namespace Go.Proofs.YtlbacbcenejngaaGreatDoor
open Go.RowKit
set_option maxRecDepth 100000 in
set_option maxHeartbeats 4000000 in
theorem do_ref (B:Nat) (w:World) (rp:Nat) (g:RG) (rv:Value) (SL:List (Loc Snk)) (V:Vlt) (E:List ByteArray) (H:List Nat) (secs:List Sc) (n:Nat) (s:ByteArray) (h:RVAt B w rp g V.key V.sto.root secs V.sto.toks E H) (hS:RS B w rv SL) (hx:SL.map (·.x)=V.snks) (hp:PSc secs=V.sto.paths) (hV:V.sto.Vs) (hN:V.Bnd E n) (hH:HvL SL H E) (hdis:∀ k,RSft rv SL k→¬ Rft rp g secs k) (hs:s.size≤2000000) (hB:B≤w.heap.size) :
  Calls Tryz.prog 85 #[.pointer (some ⟨rp,0,none⟩),.string s,rv] w (drEnd B w rp g rv SL V E secs s):=by
 have hfew:SL.length≤4:=by have:=hN.few;rw [← hx,List.length_map] at this;exact this
 have hHl:H.length≤4:=by rw [hH.1];exact hfew
 have hEl:E.length≤4194304:=by have:=hN.le;omega
 have hfit:=chn_fits (hN.ok.chn' (by omega) s)
 have htl:V.sto.toks.length≤8:=hN.ok.sto.toks
 have hsl:secs.length≤16:=(scOk_of hN.ok.sto hV hp).2
 have HCP:=hide (copy_ref B w rp g V.key V.sto.root secs V.sto.toks E H h hB (by omega) (by omega) (by omega) (by omega))
 have HAN:=hide (fun (W:World) (cp:Nat) (g1:RG) (hW:RVAt B W cp g1 V.key V.sto.root secs V.sto.toks E H) (hBW:B≤W.heap.size)=>answer_ref B W cp g1 V.key V.sto secs E H s hW hp hN.ok.sto hV hBW hs)
 have hask:=ans_ask V s
 have hen:=entB_eq hN.last' hN.ok.cnt s
 have hmore:=more_small V s hN.ok.sto
 have hasz:(ocB (V.ask s).2).size=(V.ask s).2.more.size+1:=by rw [ocB,bs_size];simp
 have hkey:=hN.key
 have hEB:∀ e∈E,e.size≤100000000:=fun e he=>by have:=fits_small (hfit e (List.mem_append_left _ he));omega
 have HEN:=hide (fun (W:World) (hW:RVAt B W rp g V.key V.sto.root secs V.sto.toks E H)=>entry_ref B W rp g V.key V.sto.root secs V.sto.toks E H s (ocB (V.ask s).2) hW (by omega) (by omega) hs (by omega) (by omega) hEB)
 rw [hen] at HEN
 rw [hask] at HAN
 have hlay:=lay_log hN.ok s
 have HTL:=hide (show V.tell s=if (V.lay s).2 then ocB (V.ask s).2 else bs [6] from rfl)
 have HFE:=hide (show fitsB (V.entry s)=true from hfit _ (by simp))
 obtain ⟨a,ha⟩:∃ a,a=ocB (V.ask s).2:=⟨_,rfl⟩
 rw [← ha] at HAN HEN HTL
 obtain ⟨en,hen'⟩:∃ en,en=V.entry s:=⟨_,rfl⟩
 rw [← hen'] at HEN hfit hlay HFE
 have HEQ:=hide hen'
 have HX:=hide hx
 have HN:=hide hN
 have HH:=hide hH
 have H0:=hide h
 have HS0:=hide hS
 have HD:=hide hdis
 have HP:=hide hp
 have HLAY:=hide hlay
 have HFIT:=hide hfit
 obtain ⟨ra,rc,hrv,hrc,hra⟩:=own_len hS.row
 have hs0:0<SL.length:=by
  obtain ⟨k,hk,_⟩:=hN.ok.most
  rw [← hx] at hk
  obtain ⟨e,he,_⟩:=List.mem_map.1 hk
  exact List.length_pos_of_mem he
 obtain ⟨hb,hcap,hhv,_,_⟩:=h.have_at (k:=0) (by rw [hH.1];exact hs0)
 have hob:g.hv.ownBlock=some hb:=by rw [hhv];rfl
 have hbl:hb<w.heap.size:=(h.foot (.inr (.inr (.inr (.inr (.inl hob)))))).1
 have hrpl:rp<w.heap.size:=(h.foot (.inl rfl)).1
 have HHV:=hide hhv
 have HOB:=hide hob
 have HHS:=hide hH.1
 have hHS1:H.length≤SL.length:=by rw [hH.1];exact Nat.le_refl _
 have hHS2:SL.length≤H.length:=by rw [hH.1];exact Nat.le_refl _
 have hn:=hN.le.1
 have HBN:=hide (show ∀ e∈SL,e.x.Bnd E n from fun e he=>hN.snk _ (by rw [← hx];exact List.mem_map.2 ⟨e,he,rfl⟩))
 clear hen hask hmore hasz ha hen' hx hN hH h hS hdis hp hlay hEB hfit hkey hV hhv hob
 subst hrv
 go_enter Tryz.func85,Tryz.ntmps85
 go_wp2_with fail
 refine (uh HCP).mono ?_
 rintro _ w1 ⟨cp,g1,rfl,hc1,hk1,hcp1,hnew1⟩
 have HC1:=hide hc1
 have HK1:=hide hk1
 have HNEW1:=hide hnew1
 have hz1:=hk1.size
 clear hc1 hk1 hnew1 HCP
 go_wp2_with fail
 refine (uh HAN w1 cp g1 (uh HC1) (by omega)).mono ?_
 rintro _ w2 ⟨rfl,g2,secs2,hc2,hp2,hlv2,hhv2,hch2,hft2⟩
 have HC2:=hide hc2
 have HP2:=hide hp2
 have HCH2:=hide hch2
 have HFT2:=hide hft2
 have HHV2:=hide (And.intro hlv2 hhv2)
 have hz2:=hch2.size
 clear hc2 hp2 hlv2 hhv2 hch2 hft2 HAN
 have HCF:=hide (show ∀ k,Rft cp g2 secs2 k→Rft rp g secs k∨w.heap.size≤k from fun k hk=>by
  rcases uh HFT2 k hk with hk | hk
  ·rcases hk with rfl | hk | hk | hk | hk | hk
   ·exact .inr hcp1
   ·exact .inr (uh HNEW1 k (.inl hk))
   ·exact .inr (uh HNEW1 k (.inr (.inl hk)))
   ·exact .inr (uh HNEW1 k (.inr (.inr (.inl hk))))
   ·exact .inr (uh HNEW1 k (.inr (.inr (.inr hk))))
   ·exact .inl (.inr (.inr (.inr (.inr (.inr hk)))))
  ·exact .inr (by omega))
 have hk2:Kept w.heap.size w w2:=(uh HK1).trans ((uh HCH2).keptB hz1 fun k hk hw=>by
  rcases hw with rfl | hw | hw
  ·omega
  ·have:=uh HNEW1 k (.inl hw);omega
  ·have:=uh HNEW1 k (.inr (.inl hw));omega)
 have HK2:=hide hk2
 clear hk2
 have HR2:=hide ((uh H0).keep (uh HK2))
 go_wp2_with fail
 refine (uh HEN w2 (uh HR2)).mono ?_
 rintro _ w3 ⟨rfl,hk3⟩
 have HK3:=hide ((uh HK2).trans (hk3.mono (by omega)))
 have HC3:=hide ((uh HC2).keep hk3)
 have HR3:=hide ((uh HR2).keep hk3)
 have hz3:=hk3.size
 clear hk3 HEN HR2 HC2
 obtain ⟨la,lc,hlv,_,_⟩:=own_len (uh HR3).log
 have hc4:w3.cell? ⟨rp,4,none⟩=some (.slice la E.length lc):=((uh HR3).c 4).trans (congrArg some hlv)
 have HSRC:=hide (show SrcAt strcell w3 (.slice la E.length lc) E by
  have:=(uh HR3).log
  rw [hlv,← strcells] at this
  exact src_own this)
 clear hlv
 go_upto_region 6 with (at_builtin;refine wpList_append_all wideStr rfl (.tmp 24) (.tmp 28) rfl B (.slice none 0 0) [] E rfl (World.ownsRow_nil _ _ _ _) (.slice la E.length lc) rfl (uh HSRC) (oneStr _) (by simp;omega) (by omega) ?_;intro v4 w4 ho4 hg4 hb4)
 rw [List.nil_append] at ho4
 have hk34:Kept w3.heap.size w3 w4:=⟨hg4.os,hg4.output,hg4.size,fun k hk=>hg4.block k hk (by simp [Value.ownBlock])⟩
 have hv4:∀ k,v4.ownBlock=some k→w3.heap.size≤k:=fun k hk=>by
  rcases hb4 with e | e
  ·rw [e] at hk;cases hk
  ·rw [e] at hk;cases hk;exact Nat.le_refl _
 have HK34:=hide hk34
 have hz4:=hk34.size
 have HO4:=hide ho4
 have HV4:=hide hv4
 obtain ⟨va,vc,hvv,_,_⟩:=own_len ho4
 subst hvv
 clear ho4 hg4 hb4 hk34 hv4 hc4 HSRC
 obtain ⟨w5,hw5⟩:∃ w5,w5=w4.alloc (.cells #[.string en] 9):=⟨_,rfl⟩
 have hk45:Kept w4.heap.size w4 w5:=by rw [hw5];exact (Kept.refl _ _).alloc (Nat.le_refl _) _
 have HS5:=hide (show SrcAt strcell w5 (.slice (some ⟨w4.heap.size,0,none⟩) 1 1) [en] by rw [hw5];exact src_new (f:=strcell) w4 en 9)
 have HO5:=hide (own_kept (uh HO4) hk45)
 have hz5:=hk45.size
 go_upto_region 7 with (at_builtin;rw [← hw5];refine wpList_append_all wideStr rfl (.tmp 30) (.tmp 32) rfl B (.slice va E.length vc) E [en] rfl (uh HO5) (.slice (some ⟨w4.heap.size,0,none⟩) 1 1) rfl (uh HS5) (oneStr _) (by simp;omega) (by omega) ?_;intro v6 w6 ho6 hg6 hb6)
 clear hw5
 obtain ⟨L,hL⟩:∃ L,L=E++[en]:=⟨_,rfl⟩
 have hLl1:L.length≤E.length+1:=by rw [hL];simp
 have hLl2:E.length+1≤L.length:=by rw [hL];simp
 rw [← hL,strcells] at ho6
 rw [← hL] at HFIT HLAY
 have hv6:∀ k,v6.ownBlock=some k→w3.heap.size≤k:=fun k hk=>by
  rcases hb6 with e | e
  ·rw [e] at hk;exact uh HV4 k hk
  ·rw [e] at hk;cases hk;omega
 have hk36:Kept w3.heap.size w3 w6:=(uh HK34).trans ((hk45.mono hz4).trans ⟨hg6.os,hg6.output,hg6.size,fun k hk=>hg6.block k (by omega) fun e=>by have:=uh HV4 k e.symm;omega⟩)
 have HDO:=hide (show DoR B w rp g V.key V.sto.root secs V.sto.toks E cp g2 secs2 (V.sto.then (V.ask s).1 (V.ask s).2).toks H v6 L (.slice ra SL.length rc) SL H SL w6 from
  ⟨(uh HR3).keep hk36,(uh HC3).keep hk36,ho6,(uh HS0).kept ((uh HK3).trans (hk36.mono (by omega))),((uh HK3).trans (hk36.mono (by omega))).chg.mono fun _ _ e=>e.elim,fun k hk=>.inl hk,fun k hk e=>by
   have hkl:=((uh HS0).foot hk).1.1
   rcases e with e | e | e
   ·exact uh HD k hk e
   ·rcases uh HCF k e with e | e
    ·exact uh HD k hk e
    ·omega
   ·have:=hv6 k e;omega⟩)
 have HV6:=hide (show ∀ k,v6.ownBlock=some k→w.heap.size≤k from fun k hk=>by have:=hv6 k hk;omega)
 have HNE:=hide (show ∀ k,Rft cp g2 secs2 k→k≠hb from fun k hk e=>by
  subst e
  rcases hk with hk | hk | hk | hk | hk | ⟨c,hc,hk⟩
  ·omega
  ·exact own_neq (uh HR3).hav (uh HC3).sec (by decide) (uh HOB) hk
  ·exact own_neq (uh HR3).hav (uh HC3).tok (by decide) (uh HOB) hk
  ·exact own_neq (uh HR3).hav (uh HC3).log (by decide) (uh HOB) hk
  ·rw [(uh HHV2).2] at hk
   have:=uh HNEW1 k (.inr (.inr (.inr hk)));omega
  ·exact own_neq (uh HR3).hav ((uh HC3).ver c hc) (by decide) (uh HOB) hk)
 have HCR:=hide (show ∀ k,Rft cp g2 secs2 k→k≠rp from fun k hk e=>by
  subst e
  rcases hk with hk | hk | hk | hk | hk | ⟨c,hc,hk⟩
  ·omega
  ·exact (uh HR3).ne (uh HC3).sec (by decide) hk rfl
  ·exact (uh HR3).ne (uh HC3).tok (by decide) hk rfl
  ·exact (uh HR3).ne (uh HC3).log (by decide) hk rfl
  ·exact (uh HR3).ne (uh HC3).hav (by decide) hk rfl
  ·exact (uh HR3).ne ((uh HC3).ver c hc) (by decide) hk rfl)
 obtain ⟨la6,lc6,hvv6,_,hlg⟩:=own_len ho6
 subst hvv6
 obtain ⟨lb,hlb⟩:=hlg (by omega)
 subst hlb
 obtain ⟨rb,hrb⟩:=hra hs0
 subst hrb
 have HLs:=hide hL
 clear hL hg6 hb6 hv6 hk36 hk45 ho6 HR3 HC3 HK3 HO4 HV4 HO5 HS5 HK34 HFT2 HNEW1 HHV2 HC1 hra hlg
 obtain ⟨log,hlog⟩:∃ log,log=logOf L:=⟨_,rfl⟩
 have HLOG:=hide hlog
 clear hlog
 go_wp2_with fail
 go_loopw [12,11] (fun vi vt wr=>∃ (i:Nat) (SLi:List (Loc Snk)) (Hi:List Nat),i≤SL.length∧vi=.int .i64 i∧vt=.bool ((SL.take i).any fun e=>(giveF e.x log).2)∧SLi.map (·.x)=toS SL log i∧SLi.map (·.p)=SL.map (·.p)∧HvL SLi Hi L∧DoR B w rp g V.key V.sto.root secs V.sto.toks E cp g2 secs2 (V.sto.then (V.ask s).1 (V.ask s).2).toks H (.slice (some ⟨lb,0,none⟩) L.length lc6) L (.slice (some ⟨rb,0,none⟩) SL.length rc) SL Hi SLi wr) (fun vi _ _=>SL.length-(intOf vi).toNat)
 case atStart=>exact ⟨0,SL,H,Nat.zero_le _,rfl,rfl,by simp [toS],rfl,by rw [uh HLs];exact (uh HH).more en,uh HDO⟩
 case round =>
  obtain ⟨i,SLi,Hi,hi,rfl,rfl,hx,hpp,hhl,hdr⟩:=hrel
  have HXI:=hide hx
  have HPI:=hide hpp
  have HHI:=hide hhl
  have HDI:=hide hdr
  have HLEN:=hide (show SLi.length=SL.length by have:=congrArg List.length hpp;simpa using this)
  have hlen1:SL.length≤SLi.length:=Nat.le_of_eq (uh HLEN).symm
  have hHil:SL.length≤Hi.length:=Nat.le_of_eq (hhl.1.trans (uh HLEN)).symm
  clear hx hpp hhl hdr
  by_cases hlt:i<SL.length
  ·have hiI:(i:Int)<(SL.length:Int):=by omega
   have hi0:(0:Int)≤(i:Int):=by omega
   have hiH:(i:Int)<(H.length:Int):=by omega
   have hiL:i<SLi.length:=by omega
   have hxi:SLi[i].x=SL[i].x:=by
    have h1:(SLi.map (·.x))[i]?=some SLi[i].x:=by rw [List.getElem?_map,List.getElem?_eq_getElem hiL];rfl
    rw [uh HXI,toS_at hlt] at h1
    exact (Option.some.inj h1).symm
   obtain ⟨m0,hm0⟩:∃ m0,Hi[i]?=some m0:=⟨_,List.getElem?_eq_getElem (by omega)⟩
   have hat0:=(uh HHI).2 i _ m0 (List.getElem?_eq_getElem hiL) hm0
   have hbn:=uh HBN SL[i] (List.getElem_mem hlt)
   obtain ⟨⟨m',hm',_,hapm⟩,hap0,hfl⟩:=hbn
   have HAT:=hide (show ∃ (m:Nat) (x1:Snk) (q:Nat) (v1:Value) (SLj:List (Loc Snk)) (Hj:List Nat),m≤L.length∧SLj[i]?=some ⟨q,v1,x1⟩∧Hj[i]?=some m∧giveGo x1 (logOf (L.drop m))=giveF SL[i].x log∧SLj.map (·.x)=(toS SL log i).set i x1∧SLj.map (·.p)=SL.map (·.p)∧HvL SLj Hj L∧(0≤x1.app∧x1.app≤(E.length:Int)+(n:Int)+(m:Int))∧x1.fails.length≤4294967296∧DoR B w rp g V.key V.sto.root secs V.sto.toks E cp g2 secs2 (V.sto.then (V.ask s).1 (V.ask s).2).toks H (.slice (some ⟨lb,0,none⟩) L.length lc6) L (.slice (some ⟨rb,0,none⟩) SL.length rc) SL Hj SLj wr from
    ⟨m0,SL[i].x,SLi[i].p,SLi[i].v,SLi,Hi,hat0.1,by rw [List.getElem?_eq_getElem hiL,← hxi],hm0,by rw [uh HLOG];exact (give_from (by rw [← hxi];exact hat0.2)).symm,by rw [uh HXI,set_same (toS_at hlt)],uh HPI,uh HHI,⟨hap0,by omega⟩,hfl,uh HDI⟩)
   have HANY:=hide (any_take (log:=log) hlt)
   have HTS:=hide (toS_set (log:=log) hlt)
   generalize ((SL.take i).any fun e=>(giveF e.x log).2)=tk at *
   obtain ⟨GF,hGF⟩:∃ GF,GF=giveF SL[i].x log:=⟨_,rfl⟩
   rw [← hGF] at HAT HANY HTS
   clear hGF hxi hm0 hat0 hm' hapm hap0 hfl HXI HPI HHI HDI hHil hlen1 HLEN
   clear m0
   go_wp2_with fail
   go_loopw [14] (fun _ wy=>∃ (m:Nat) (x1:Snk) (q:Nat) (v1:Value) (SLj:List (Loc Snk)) (Hj:List Nat),m≤L.length∧SLj[i]?=some ⟨q,v1,x1⟩∧Hj[i]?=some m∧giveGo x1 (logOf (L.drop m))=GF∧SLj.map (·.x)=(toS SL log i).set i x1∧SLj.map (·.p)=SL.map (·.p)∧HvL SLj Hj L∧(0≤x1.app∧x1.app≤(E.length:Int)+(n:Int)+(m:Int))∧x1.fails.length≤4294967296∧DoR B w rp g V.key V.sto.root secs V.sto.toks E cp g2 secs2 (V.sto.then (V.ask s).1 (V.ask s).2).toks H (.slice (some ⟨lb,0,none⟩) L.length lc6) L (.slice (some ⟨rb,0,none⟩) SL.length rc) SL Hj SLj wy) (fun _ wy=>L.length-(intOf ((wy.cell? ⟨hb,i,none⟩).getD undef)).toNat)
   case atStart=>exact uh HAT
   case round =>
    obtain ⟨m,x1,q,v1,SLj,Hj,hm,hq,hHm,hgo,hxx,hppj,hhl,hap,hfl,hdr⟩:=hrel
    have HJL:=hide (show SLj.length=SL.length by have:=congrArg List.length hppj;simpa using this)
    have HHL2:=hide (show Hj.length=SL.length from hhl.1.trans (uh HJL))
    have hjl1:SL.length≤SLj.length:=Nat.le_of_eq (uh HJL).symm
    have hHl3:SL.length≤Hj.length:=Nat.le_of_eq (uh HHL2).symm
    have hiJ:i<SLj.length:=by omega
    have hqe:SLj[i]=⟨q,v1,x1⟩:=by rw [List.getElem?_eq_getElem hiJ] at hq;exact Option.some.inj hq
    have HDJ:=hide hdr
    have HGO:=hide hgo
    have HXX:=hide hxx
    have HPJ:=hide hppj
    have HHJ:=hide hhl
    have HHM:=hide hHm
    have HQE:=hide hqe
    have hdat:=(hhl.2 i _ m hq hHm).2
    have HDAT:=hide hdat
    have hds:x1.data.size≤1099511627776:=by
     have h1:x1.data=logOf (L.take m):=hdat
     have h2:=logOf_size_le L m
     have h3:=logOf_small (uh HFIT)
     rw [h1];omega
    have hc5:wr.cell? ⟨rp,5,none⟩=some (.slice (some ⟨hb,0,none⟩) H.length hcap):=((hdr.own.c 5).trans rfl).trans (congrArg some (uh HHV))
    have HHVJ:=hide (show g.hv=.slice (some ⟨hb,0,none⟩) Hj.length hcap by rw [uh HHV,uh HHS,uh HHL2])
    have HHC:=hide (show ∀ W:World,DoR B w rp g V.key V.sto.root secs V.sto.toks E cp g2 secs2 (V.sto.then (V.ask s).1 (V.ask s).2).toks H (.slice (some ⟨lb,0,none⟩) L.length lc6) L (.slice (some ⟨rb,0,none⟩) SL.length rc) SL Hj SLj W→W.cell? ⟨hb,i,none⟩=some (.int .i64 (m:Int))∧W.frozen? ⟨hb,i,none⟩=false from fun W hW=>by
     obtain ⟨hb2,c2,e1,e2,e3⟩:=hW.own.have_at (k:=i) (by omega)
     rw [uh HHVJ] at e1
     cases e1
     rw [List.getD_eq_getElem?_getD,uh HHM] at e2
     exact ⟨e2,e3⟩)
    have hch:=(uh HHC wr hdr).1
    clear hdr hgo hxx hppj hhl hHm hqe hdat hq
    by_cases hml:m<L.length
    ·obtain ⟨x,hx⟩:∃ x,L[m]?=some x:=⟨_,List.getElem?_eq_getElem hml⟩
     have hmI:(m:Int)<(L.length:Int):=by omega
     have hm0:(0:Int)≤(m:Int):=by omega
     have hcL:wr.cell? ⟨lb,m,none⟩=some (.string x):=by
      obtain ⟨b',c',e1,e2⟩:=own_cell (uh HDJ).lst hml
      cases e1
      rw [e2,List.getD_eq_getElem?_getD,List.getElem?_map,hx];rfl
     have hxs:=fits_small (uh HFIT x (List.mem_of_getElem? hx))
     have HSTEP:=hide (give_step (uh HFIT) (k:=x1) hx)
     have HMORE:=hide (fun ht=>take_more (k:=x1) (uh HDAT) hx ht)
     have hfs:(frOf x).size≤x.size+2:=Nat.le_of_eq ((frOf_size x).trans (by omega))
     clear hx
     go_wp2_with fail
     refine (frame_ref x wr (by omega)).mono ?_
     rintro _ w1 ⟨rfl,hk1⟩
     have HD1:=hide ((uh HDJ).next hk1)
     clear hk1
     generalize frOf x=fr at *
     have hcs:w1.cell? ⟨rb,i,none⟩=some (.pointer (some ⟨q,0,none⟩)):=by
      have hrow:=(uh HD1).snk.row
      rw [uh HJL] at hrow
      obtain ⟨b',c',e1,e2⟩:=own_cell hrow hlt
      cases e1
      rw [e2,List.getD_eq_getElem?_getD,List.getElem?_map,List.getElem?_eq_getElem hiJ,uh HQE];rfl
     have HSK:=hide (show SAt B 105 w1 q v1 x1 by
      have:=(uh HD1).snk.snk.each _ (List.getElem_mem hiJ)
      rw [uh HQE] at this
      exact this.1)
     go_wp2_with fail
     refine (give_ref B w1 q v1 x1 fr (uh HSK) ⟨hap.1,by omega⟩ hfl hds (by omega)).mono ?_
     rintro _ w2 ⟨rfl,v2,hs2,hu2⟩
     have HD2:=hide (show DoR B w rp g V.key V.sto.root secs V.sto.toks E cp g2 secs2 (V.sto.then (V.ask s).1 (V.ask s).2).toks H (.slice (some ⟨lb,0,none⟩) L.length lc6) L (.slice (some ⟨rb,0,none⟩) SL.length rc) SL Hj (SLj.set i ⟨q,v2,x1.append fr⟩) w2 by
      have:=(uh HD1).sink hiJ (v':=v2) (x':=x1.append fr) (by rw [uh HQE];exact hs2) (by rw [uh HQE];exact hu2)
      rw [uh HQE] at this
      exact this)
     clear hs2 hu2
     have hc52:w2.cell? ⟨rp,5,none⟩=some (.slice (some ⟨hb,0,none⟩) H.length hcap):=(((uh HD2).own.c 5).trans rfl).trans (congrArg some (uh HHV))
     have hch2:w2.cell? ⟨hb,i,none⟩=some (.int .i64 (m:Int))∧w2.frozen? ⟨hb,i,none⟩=false:=by
      obtain ⟨hb2,c2,e1,e2,e3⟩:=(uh HD2).own.have_at (k:=i) (by omega)
      rw [uh HHVJ] at e1
      cases e1
      rw [List.getD_eq_getElem?_getD,uh HHM] at e2
      exact ⟨e2,e3⟩
     obtain ⟨hch2,hfz2⟩:=hch2
     have HXS:=hide (show (SLj.set i ⟨q,v2,x1.append fr⟩).map (·.x)=(toS SL log i).set i (x1.append fr) by rw [List.map_set,uh HXX,List.set_set])
     have HPS:=hide (show (SLj.set i ⟨q,v2,x1.append fr⟩).map (·.p)=SL.map (·.p) by
      rw [List.map_set,uh HPJ]
      apply set_same
      rw [← uh HPJ,List.getElem?_map,List.getElem?_eq_getElem hiJ,uh HQE];rfl)
     by_cases ht:x1.took=true
     ·have HA:=hide (show x1.append fr={ x1 with app:=x1.app+1,data:=x1.data++fr } from if_pos ht)
      have hm1:(m:Int)+1≤9223372036854775807:=by omega
      have HD3:=hide ((uh HD2).have (k:=i) (uh HHVJ) (uh HNE) (m+1))
      rw [show ((m+1:Nat):Int)=(m:Int)+1 from rfl] at HD3
      have HML:=hide (show (w2.setCell ⟨hb,i,none⟩ (.int .i64 ((m:Int)+1))).cell? ⟨hb,i,none⟩=some (.int .i64 ((m:Int)+1)) by
       obtain ⟨hb2,c2,e1,e2,e3⟩:=(uh HD3).own.have_at (k:=i) (by rw [List.length_set];omega)
       rw [List.length_set,uh HHVJ] at e1
       cases e1
       rw [List.getD_eq_getElem?_getD,List.getElem?_set,if_pos rfl,if_pos (by omega)] at e2
       exact e2)
      rw [ht]
      go_wp2_with fail
      go_roundw
      case rel =>
       refine ⟨m+1,x1.append fr,q,v2,SLj.set i ⟨q,v2,x1.append fr⟩,Hj.set i (m+1),by omega,by rw [List.getElem?_set,if_pos rfl,if_pos hiJ],by rw [List.getElem?_set,if_pos rfl,if_pos (by omega)],by rw [← uh HGO,uh HSTEP,if_pos ht],uh HXS,uh HPS,(uh HHJ).set (by omega) (uh HMORE ht),?_,?_,uh HD3⟩
       ·rw [uh HA];exact ⟨by show 0≤x1.app+1;omega,by show x1.app+1≤_;omega⟩
       ·rw [uh HA];exact hfl
      case measure =>
       rw [uh HML,hch]
       simp [intOf];omega
     ·have htf:x1.took=false:=by simpa using ht
      have HA:=hide (show x1.append fr={ x1 with app:=x1.app+1 } from if_neg ht)
      have hne:((m:Int)==(L.length:Int))=false:=beq_eq_false_iff_ne.2 (by omega)
      have HGF:=hide (show GF=(x1.append fr,false) by rw [← uh HGO,uh HSTEP,if_neg ht])
      have HH2:=hide ((uh HHJ).set1 (p:=q) (v:=v2) (x:=x1.append fr) (uh HHM) hm (by rw [uh HA];exact uh HDAT))
      rw [uh HGF] at HANY HTS
      rw [htf]
      cases tk with
      | false =>
       go_wp2_with fail
       go_roundw
       case rel=>exact ⟨i+1,SLj.set i ⟨q,v2,x1.append fr⟩,Hj,by omega,by go_num,by rw [uh HANY];rfl,by rw [uh HXS];exact uh HTS,uh HPS,uh HH2,uh HD2⟩
       case measure=>simp [intOf];omega
      | true =>
       go_wp2_with fail
       go_roundw
       case rel=>exact ⟨i+1,SLj.set i ⟨q,v2,x1.append fr⟩,Hj,by omega,by go_num,by rw [uh HANY];rfl,by rw [uh HXS];exact uh HTS,uh HPS,uh HH2,uh HD2⟩
       case measure=>simp [intOf];omega
    ·obtain rfl:m=L.length:=by omega
     have hmI:¬ (L.length:Int)<(L.length:Int):=by omega
     have heq:((L.length:Int)==(L.length:Int))=true:=by simp
     have HGF:=hide (show GF=(x1,true) by rw [← uh HGO,give_done])
     rw [uh HGF] at HANY HTS
     cases tk with
     | false =>
      go_wp2_with fail
      go_roundw
      case rel=>exact ⟨i+1,SLj,Hj,by omega,by go_num,by rw [uh HANY];rfl,by rw [uh HXX];exact uh HTS,uh HPJ,uh HHJ,uh HDJ⟩
      case measure=>simp [intOf];omega
     | true =>
      go_wp2_with fail
      go_roundw
      case rel=>exact ⟨i+1,SLj,Hj,by omega,by go_num,by rw [uh HANY];rfl,by rw [uh HXX];exact uh HTS,uh HPJ,uh HHJ,uh HDJ⟩
      case measure=>simp [intOf];omega
  ·obtain rfl:i=SL.length:=by omega
   have hiI:¬ (SL.length:Int)<(SL.length:Int):=by omega
   have hly:layF (SL.map (·.x)) log=V.lay s:=by rw [uh HLAY,uh HX,uh HLOG]
   have hto:toS SL log SL.length=(V.lay s).1:=by rw [← hly];simp [toS,layF,Function.comp]
   have hany:((SL.take SL.length).any fun e=>(giveF e.x log).2)=(V.lay s).2:=by rw [← hly,List.take_length,layF,List.any_map];rfl
   have hns:(V.next s).snks=(V.lay s).1:=by unfold Vlt.next;split <;> rfl
   have HSX:=hide (show SLi.map (·.x)=(V.next s).snks by rw [uh HXI,hto,hns])
   rw [hany]
   clear hly hto hany hns
   cases hbl2:(V.lay s).2 with
   | false =>
    have hnx:(V.next s).sto=V.sto:=by unfold Vlt.next;rw [if_neg (by rw [hbl2];simp)]
    have hes:V.ents E s=E:=by unfold Vlt.ents;rw [if_neg (by rw [hbl2];simp)]
    have HHE:=hide (show HvL SLi Hi E from HvL.less (e:=en) (by rw [← uh HLs];exact uh HHI) fun x hx=>by
     refine ((uh HN).ok.next (by omega) s |>.2 hbl2).snk x.x ?_
     rw [← uh HSX];exact List.mem_map.2 ⟨x,hx,rfl⟩)
    have HTF:=hide (show V.tell s=bs [6] by rw [uh HTL,if_neg (by rw [hbl2];simp)])
    have HNX:=hide (And.intro hnx hes)
    clear hnx hes hbl2
    go_wp2_with fail
    refine (show Calls Tryz.prog 121 #[.int .i64 6] wr _ from one_ref 6 wr (by decide)).mono ?_
    rintro _ w7 ⟨rfl,hk7⟩
    have HD7:=hide ((uh HDI).next hk7)
    clear hk7
    go_wp2_with fail
    go_ret
    have hd:=uh HD7
    refine ⟨by rw [uh HTF];rfl,g,secs,Hi,SLi,?_,?_,hd.snk,uh HSX,uh HPI,?_,hd.chg,fun k hk=>.inl hk,hd.foot,fun k hk e=>hd.dis k hk (.inl e)⟩
    ·rw [(uh HNX).1,(uh HNX).2];exact hd.own
    ·rw [(uh HNX).1];exact uh HP
    ·rw [(uh HNX).2];exact uh HHE
   | true =>
    have hnx:(V.next s).sto=V.sto.then (V.ask s).1 (V.ask s).2:=by unfold Vlt.next;rw [if_pos hbl2]
    have hes:V.ents E s=L:=by unfold Vlt.ents;rw [if_pos hbl2,uh HLs,uh HEQ]
    have HTF:=hide (show V.tell s=a by rw [uh HTL,if_pos hbl2])
    have HNX:=hide (And.intro hnx hes)
    have hd:=uh HDI
    have at0:=hd.own.at'
    obtain ⟨sa,sc,hsv,_,_⟩:=own_len hd.cpy.sec
    obtain ⟨ta,tc,htv,_,_⟩:=own_len hd.cpy.tok
    have hcprp:cp≠rp:=uh HCR cp (.inl rfl)
    have hc4:wr.cell? ⟨rp,4,none⟩=some g.lv:=(hd.own.c 4).trans rfl
    have hf4:wr.frozen? ⟨rp,4,none⟩=false:=frozen_of_row _ _ _ _ _ at0
    have HTK:=hide (hd.taken (uh HCR))
    obtain ⟨w7,hw7⟩:∃ w7,w7=wr.setCell ⟨rp,4,none⟩ (.slice (some ⟨lb,0,none⟩) L.length lc6):=⟨_,rfl⟩
    have at7:w7.heap[rp]?=some (.cells #[.string V.key,.string V.sto.root,g.sv,g.tv,(.slice (some ⟨lb,0,none⟩) L.length lc6),g.hv] 153 (0,0)):=by rw [hw7,heap_setCell_same _ _ _ _ _ _ at0];rfl
    have cp7:w7.heap[cp]?=wr.heap[cp]?:=by rw [hw7];exact heap_setCell_other _ _ _ _ hcprp
    have c72:w7.cell? ⟨rp,2,none⟩=some g.sv:=by rw [cell_of_row _ _ _ _ _ _ at7];rfl
    have f72:w7.frozen? ⟨rp,2,none⟩=false:=frozen_of_row _ _ _ _ _ at7
    have k72:w7.cell? ⟨cp,2,none⟩=some (.slice sa secs2.length sc):=(World.cell?_of_block cp7).trans (((hd.cpy.c 2).trans rfl).trans (congrArg some hsv))
    obtain ⟨w8,hw8⟩:∃ w8,w8=w7.setCell ⟨rp,2,none⟩ (.slice sa secs2.length sc):=⟨_,rfl⟩
    have at8:w8.heap[rp]?=some (.cells #[.string V.key,.string V.sto.root,.slice sa secs2.length sc,g.tv,(.slice (some ⟨lb,0,none⟩) L.length lc6),g.hv] 153 (0,0)):=by rw [hw8,heap_setCell_same _ _ _ _ _ _ at7];rfl
    have cp8:w8.heap[cp]?=wr.heap[cp]?:=by rw [hw8];exact (heap_setCell_other _ _ _ _ hcprp).trans cp7
    have c83:w8.cell? ⟨rp,3,none⟩=some g.tv:=by rw [cell_of_row _ _ _ _ _ _ at8];rfl
    have f83:w8.frozen? ⟨rp,3,none⟩=false:=frozen_of_row _ _ _ _ _ at8
    have k83:w8.cell? ⟨cp,3,none⟩=some (.slice ta (V.sto.then (V.ask s).1 (V.ask s).2).toks.length tc):=(World.cell?_of_block cp8).trans (((hd.cpy.c 3).trans rfl).trans (congrArg some htv))
    rw [hsv,htv,← hw7,← hw8] at HTK
    have HSV:=hide (And.intro hsv htv)
    clear hnx hes hbl2 hd at0 at7 at8 cp7 cp8 hsv htv hcprp
    have HT0:=hide (show (V.next s).sto.toks=(V.sto.then (V.ask s).1 (V.ask s).2).toks by rw [(uh HNX).1])
    generalize (V.sto.then (V.ask s).1 (V.ask s).2).toks=tks at *
    go_upto_region 20 with fail
    rw [← hw7]
    clear hw7 hc4 hf4
    go_upto_region 21 with fail
    rw [← hw8]
    clear hw8 c72 f72 k72
    go_wp2_with fail
    go_ret
    have hd:=uh HDI
    have htk:=uh HTK
    have hsv:=uh HSV
    refine ⟨by rw [uh HTF];rfl,⟨.slice sa secs2.length sc,.slice ta tks.length tc,(.slice (some ⟨lb,0,none⟩) L.length lc6),g.hv⟩,secs2,Hi,SLi,?_,?_,htk.2.1,uh HSX,uh HPI,?_,htk.2.2,fun k hk=>?_,hd.foot,fun k hk e=>?_⟩
    ·rw [uh HT0,(uh HNX).2];exact htk.1
    ·rw [(uh HNX).1];exact uh HP2
    ·rw [(uh HNX).2];exact uh HHI
    ·rcases hk with hk | hk | hk | hk | hk | hk
     ·exact .inl (.inl hk)
     ·exact uh HCF k (.inr (.inl (by rw [hsv.1];exact hk)))
     ·exact uh HCF k (.inr (.inr (.inl (by rw [hsv.2];exact hk))))
     ·exact .inr (uh HV6 k hk)
     ·exact .inl (.inr (.inr (.inr (.inr (.inl hk)))))
     ·exact uh HCF k (.inr (.inr (.inr (.inr (.inr hk)))))
    ·refine hd.dis k hk ?_
     rcases e with e | e | e | e | e | e
     ·exact .inl (.inl e)
     ·exact .inr (.inl (.inr (.inl (by rw [hsv.1];exact e))))
     ·exact .inr (.inl (.inr (.inr (.inl (by rw [hsv.2];exact e)))))
     ·exact .inr (.inr e)
     ·exact .inl (.inr (.inr (.inr (.inr (.inl e)))))
     ·exact .inr (.inl (.inr (.inr (.inr (.inr (.inr e))))))
end Go.Proofs.YtlbacbcenejngaaGreatDoor
namespace Go.Proofs.YtlbacbcenejngaaGreatDoor
open Go.RowKit
set_option maxRecDepth 100000 in
set_option maxHeartbeats 2000000 in
theorem same_go (B:Nat) (w:World) (n:Nat) (a:PG) (h:PAt B w n a):Calls Tryz.prog 51 #[.pointer (some ⟨a.p,0,none⟩)] w fun e w'=>e=.returned (.bool true)∧w'=w:=by
 obtain ⟨la,lc,hlv,_,hla⟩:=own_len h.row
 obtain ⟨ra,rc,hrv,_,hra⟩:=own_len h.rs.row
 have hc2:w.cell? ⟨a.p,2,none⟩=some (.slice la a.g.SL.length lc):=((h.c 2).trans rfl).trans (congrArg some hlv)
 have hc6:w.cell? ⟨a.p,6,none⟩=some (.slice ra a.rSL.length rc):=((h.c 6).trans rfl).trans (congrArg some hrv)
 have hlen:a.rSL.length=a.g.SL.length:=by
  have h1:=congrArg List.length h.sx
  have h2:=congrArg List.length h.v.snk
  simp only [List.length_map] at h1 h2
  omega
 have hlen1:a.g.SL.length≤a.rSL.length:=Nat.le_of_eq hlen.symm
 have HLV:=hide hlv
 have HRV:=hide hrv
 have HS:=hide h
 have HX:=hide (show a.rSL.map (·.x)=a.g.SL.map (·.x) by rw [h.sx,h.v.snk])
 have hf4:a.g.SL.length≤4:=by have:=h.bnd.few;rw [← h.v.snk,List.length_map] at this;exact this
 clear h hlen hlv hrv
 go_enter Tryz.func51,Tryz.ntmps51
 go_wp2_with fail
 go_loopw [3] (fun vi wr=>∃ i:Nat,i≤a.g.SL.length∧vi=.int .i64 i∧wr=w) (fun vi _=>a.g.SL.length-(intOf vi).toNat)
 case atStart=>exact ⟨0,Nat.zero_le _,rfl,rfl⟩
 case round =>
  obtain ⟨i,hi,rfl,hwr⟩:=hrel
  obtain rfl:w=wr:=hwr.symm
  clear hwr
  by_cases hlt:i<a.g.SL.length
  ·obtain ⟨lb,hlb⟩:=hla (by omega)
   obtain ⟨rb,hrb⟩:=hra (by omega)
   subst hlb hrb
   have hiI:(i:Int)<(a.g.SL.length:Int):=by omega
   have hiR:(i:Int)<(a.rSL.length:Int):=by omega
   have hi0:(0:Int)≤(i:Int):=by omega
   have hiL:i<a.rSL.length:=by omega
   have hq:w.cell? ⟨lb,i,none⟩=some (.pointer (some ⟨a.g.SL[i].p,0,none⟩)):=by
    have hrow:=(uh HS).row
    rw [uh HLV] at hrow
    obtain ⟨g',c',e1,e2⟩:=own_cell hrow hlt
    cases e1
    rw [e2,List.getD_eq_getElem?_getD,pcells,List.getElem?_map,List.getElem?_map,List.getElem?_eq_getElem hlt];rfl
   have hr:w.cell? ⟨rb,i,none⟩=some (.pointer (some ⟨a.rSL[i].p,0,none⟩)):=by
    have hrow:=(uh HS).rs.row
    rw [uh HRV] at hrow
    obtain ⟨g',c',e1,e2⟩:=own_cell hrow hiL
    cases e1
    rw [e2,List.getD_eq_getElem?_getD,List.getElem?_map,List.getElem?_eq_getElem hiL];rfl
   have hsk:=(uh HS).v.log.snk.each _ (List.getElem_mem hlt)
   have hsr:=(uh HS).rs.snk.each _ (List.getElem_mem hiL)
   have hxe:a.rSL[i].x=a.g.SL[i].x:=by
    have h1:(a.rSL.map (·.x))[i]?=some a.rSL[i].x:=by rw [List.getElem?_map,List.getElem?_eq_getElem hiL];rfl
    rw [uh HX,List.getElem?_map,List.getElem?_eq_getElem hlt] at h1
    exact (Option.some.inj h1).symm
   have hd:w.cell? ⟨a.rSL[i].p,0,none⟩=some (.string a.g.SL[i].x.data):=by rw [← hxe];exact hsr.1.c0
   generalize a.rSL[i].p=rq at *
   have HRD:=hide (sink_read_go B w a.g.SL[i].p a.g.SL[i].v a.g.SL[i].x hsk.1)
   generalize a.g.SL[i].x.data=d at *
   generalize a.g.SL[i].p=q at *
   clear hsk hsr hxe
   go_wp2_with fail
   refine (uh HRD).mono ?_
   rintro _ wq ⟨rfl,hwq⟩
   obtain rfl:w=wq:=hwq.symm
   clear hwq
   go_wp2_with fail
   go_roundw
   case rel=>exact ⟨i+1,by omega,by go_num,by first | rfl | trivial⟩
   case measure=>simp [intOf];omega
  ·have hiI:¬ (i:Int)<(a.g.SL.length:Int):=by omega
   go_wp2_with fail
   go_ret
   exact ⟨rfl,rfl⟩
theorem tell_pos (V:Vlt) (s:ByteArray):(V.tell s).size≠0:=by
 unfold Vlt.tell
 split <;> rw [bs_size] <;> simp
set_option maxRecDepth 100000 in
set_option maxHeartbeats 2000000 in
theorem did_go (B:Nat) (w:World) (n:Nat) (a:PG) (s:ByteArray) (h:PAt B w n a) (hn:n+1≤4194304) (hs:s.size≤1100000) (hB:B≤w.heap.size) (hT:Table w) (hz:0<w.heap.size) :
  Calls Tryz.prog 54 #[.pointer (some ⟨a.p,0,none⟩),.string s] w fun e w'=>e=.returned (.bool true)∧ptEnd B w (n+1) a w':=by
 have HS:=hide h
 have HDO:=hide (do_go B w a.vp a.g a.V a.E n s h.v h.bnd (by omega) hB hT hz)
 have hc0:w.cell? ⟨a.p,0,none⟩=some (.pointer (some ⟨a.vp,0,none⟩)):=(h.c 0).trans rfl
 have htp:=emp_no (tell_pos a.V s)
 obtain ⟨ra,rc,hrv,_,_⟩:=own_len h.rs.row
 have HRV:=hide hrv
 clear h hrv hT
 go_enter Tryz.func54,Tryz.ntmps54
 go_wp2_with fail
 refine (uh HDO).mono ?_
 rintro _ w1 hd
 obtain ⟨he,_⟩:=id hd
 subst he
 have HD:=hide hd
 clear hd HDO hc0
 have HP1:=hide (show w1.heap[a.p]?=some (.cells a.cells 102 (0,0)) from by
  obtain ⟨_,g',hv,hc,_⟩:=uh HD
  exact (hc.block _ ((uh HS).foot (.inl rfl)).1 fun e=>(uh HS).d1 _ (.inl rfl) (.inl e)).trans (uh HS).at')
 have HC:=hide (show ∀ W:World,W.heap[a.p]?=some (.cells a.cells 102 (0,0))→W.cell? ⟨a.p,5,none⟩=some (.pointer (some ⟨a.rp,0,none⟩))∧W.cell? ⟨a.p,6,none⟩=some (.slice ra a.rSL.length rc)∧W.cell? ⟨a.p,7,none⟩=some (.bool false) from fun W hW =>
  ⟨by rw [cell_of_row _ _ _ _ _ _ hW];rfl,by rw [cell_of_row _ _ _ _ _ _ hW,← uh HRV];rfl,by rw [cell_of_row _ _ _ _ _ _ hW];rfl⟩)
 have HDR:=hide (show Calls Tryz.prog 85 #[.pointer (some ⟨a.rp,0,none⟩),.string s,.slice ra a.rSL.length rc] w1.drew (drEnd B w1 a.rp a.rg a.rv a.rSL a.V a.E a.secs s) from by
  obtain ⟨_,g',hv,hc,hf,_⟩:=uh HD
  have hh:=uh HS
  have hz1:=hc.size
  have h2:=do_ref B w1.drew a.rp a.rg a.rv a.rSL a.V a.E a.H a.secs n s ((hh.r.stay fun k hk=>hc.block k (hh.foot (.inr (.inr (.inr (.inl hk))))).1 fun e=>hh.d2 k e (.inl hk)).keep ((Kept.refl _ _).draws 1)) ((hh.rs.stay fun k hk=>hc.block k (hh.foot (.inr (.inr (.inr (.inr hk))))).1 fun e=>hh.d2 k e (.inr hk)).kept ((Kept.refl _ _).draws 1)) hh.sx hh.ps hh.vs hh.bnd hh.hv hh.d3 (by omega) (by show B≤w1.heap.size;omega)
  rw [uh HRV] at h2
  refine h2.mono fun e w' he=>?_
  obtain ⟨e1,g2,secs2,H2,SL2,r1,r2,r3,r4,r5,r6,r7,r8,r9,r10⟩:=he
  rw [← uh HRV] at r3 r7 r9 r10
  exact ⟨e1,g2,secs2,H2,SL2,r1,r2,r3,r4,r5,r6,⟨r7.os,r7.output,r7.size,r7.block⟩,r8,r9,r10⟩)
 obtain ⟨T,hTl⟩:∃ T,T=a.V.tell s:=⟨_,rfl⟩
 rw [← hTl] at htp ⊢
 have HTl:=hide hTl
 clear hTl
 have hc7:=(uh HC w1 (uh HP1)).2.2
 go_upto_region 11 with fail
 clear hc7
 refine wp_region_held_drew (S:=fun W=>W.cell? ⟨a.p,5,none⟩=some (.pointer (some ⟨a.rp,0,none⟩))∧W.cell? ⟨a.p,6,none⟩=some (.slice ra a.rSL.length rc)) (by kernel_rfl) (⟨(uh HC w1.drew (uh HP1)).1,(uh HC w1.drew (uh HP1)).2.1⟩) (fun hHeld=>?_)
 refine tkL 3 [(0,some 41,.pointer (some ⟨a.p,0,none⟩)),(1,some 42,.pointer (some ⟨a.p,0,none⟩)),(2,some 43,.pointer (some ⟨a.p,5,none⟩))] (by kernel_rfl) (fun _ _ _ _ _ h=>h) (fun _ _=>by kernel_rfl) hHeld ?_
 simp only [zz0,zz1,zz2,zz4,zz5]
 refine tkG 3 (some 44) (.load 99 (.tmp 43)) 99 none (.pointer (some ⟨a.rp,0,none⟩)) (by kernel_rfl) (fun _ _ _ h=>h) (Or.inl ⟨by kernel_rfl,fun W hW=>by simp [execOp,go_sem,hW.1]⟩) hHeld ?_
 simp only [zz0,zz1,zz2]
 refine tkL 4 [(4,some 45,.string s),(5,some 46,.pointer (some ⟨a.p,0,none⟩)),(6,some 47,.pointer (some ⟨a.p,0,none⟩)),(7,some 48,.pointer (some ⟨a.p,6,none⟩))] (by kernel_rfl) (fun _ _ _ _ _ h=>h) (fun _ _=>by kernel_rfl) hHeld ?_
 simp only [zz0,zz1,zz2,zz4,zz5]
 refine tkG 8 (some 49) (.load 100 (.tmp 48)) 100 none (.slice ra a.rSL.length rc) (by kernel_rfl) (fun _ _ _ h=>h) (Or.inl ⟨by kernel_rfl,fun W hW=>by simp [execOp,go_sem,hW.2]⟩) hHeld ?_
 simp only [zz0,zz1,zz2]
 refine rd1 9 (some 50) (.call { callee:=.value (.func 85),args:=#[.tmp 44,.tmp 45,.tmp 49],argTypes:=#[99,9,100] }) 9 (by kernel_rfl) (fun K hK=>?_)
 go_simp
 refine (uh HDR).mono ?_
 rintro _ w2 hr
 obtain ⟨he,_⟩:=id hr
 subst he
 have HE:=hide ((uh HS).did hn (uh HD) hr)
 have HP2:=hide (show w2.heap[a.p]?=some (.cells a.cells 102 (0,0)) from by
  obtain ⟨_,g2,secs2,H2,SL2,r1,r2,r3,r4,r5,r6,r7,_⟩:=hr
  exact (r7.block _ (Array.getElem?_eq_some_iff.1 (uh HP1)).1 fun e=>(uh HS).d1 _ (.inl rfl) (.inr e)).trans (uh HP1))
 clear hr
 rw [← uh HTl]
 show K _ w2
 refine hK.out _ _ (⟨(uh HC w2 (uh HP2)).1,(uh HC w2 (uh HP2)).2.1⟩) (fun hHeld9=>?_)
 clear hK K
 try simp only [zz0,zz1,zz2]
 refine tkP 10 (some 8) (.string T) (by kernel_rfl) (fun _ _ _ h=>h) (fun _ _=>by kernel_rfl) hHeld9 ?_
 simp only [zz0,zz1,zz2]
 refine wpAnyH_done (by kernel_rfl) ?_ _
 go_wp2_with fail
 go_ret
 exact ⟨by simp,uh HE⟩
end Go.Proofs.YtlbacbcenejngaaGreatDoor
namespace Go.Proofs.YtlbacbcenejngaaGreatDoor
open Go.RowKit
def pv:Option Nat→Value
 | none=>.pointer none
 | some p=>.pointer (some ⟨p,0,none⟩)
structure VSl (w:World) (v:Value) (vs:List (Option Nat)) (b o cap:Nat):Prop where
 v:v=.slice (some ⟨b,o,none⟩) vs.length cap
 le:vs.length≤cap
 lt:b<w.heap.size
 c:∀ j,j<vs.length→w.cell? ⟨b,o+j,none⟩=some (pv (vs.getD j none))
theorem VSl.ps {w:World} {v:Value} {ps:List Nat} {b o cap:Nat} (h:VSl w v (ps.map some) b o cap):PSl w v ps b o cap :=
 ⟨by rw [h.v,List.length_map],by have:=h.le;rwa [List.length_map] at this,h.lt,fun j hj=>by
  rw [h.c j (by rw [List.length_map];exact hj),List.getD_eq_getElem?_getD,List.getElem?_map,List.getElem?_eq_getElem hj,List.getD_eq_getElem?_getD,List.getElem?_eq_getElem hj];rfl⟩
theorem all_some:∀ {vs:List (Option Nat)},none∉vs→∃ ps:List Nat,vs=ps.map some
 | [],_=>⟨[],rfl⟩
 | none::l,h=>absurd (.head _) h
 | some p::l,h=>by
  obtain ⟨ps,hp⟩:=all_some (vs:=l) fun e=>h (.tail _ e)
  exact ⟨p::ps,by rw [hp];rfl⟩
set_option maxRecDepth 100000 in
set_option maxHeartbeats 1000000 in
theorem contains_nil (w:World) (v:Value) (vs:List (Option Nat)) (b o cap:Nat) (h:VSl w v vs b o cap) (hp:vs.length≤100) (hn:none∈vs) :
  Calls Tryz.prog 59 #[v,.pointer none] w fun e w'=>e=.returned (.bool true)∧w'=w:=by
 have hidx:Calls Tryz.prog 88 #[v,.pointer none] w fun e w'=>(∃ k:Nat,k≤100∧e=.returned (.int .i64 (k:Int)))∧w'=w:=by
  have HP:=hide h
  have hv:=h.v
  have HN:=hide hn
  subst hv
  clear h hn
  go_enter Tryz.func88,Tryz.ntmps88
  go_wp2_with fail
  go_loopw [8] (fun vi wr=>∃ i:Nat,i≤vs.length∧vi=.int .i64 i∧none∈vs.drop i∧wr=w) (fun vi _=>vs.length-(intOf vi).toNat)
  case atStart=>exact ⟨0,Nat.zero_le _,rfl,uh HN,rfl⟩
  case round =>
   obtain ⟨i,hi,rfl,hno,hwr⟩:=hrel
   obtain rfl:w=wr:=hwr.symm
   clear hwr
   have hlt:i<vs.length:=by
    rcases Nat.lt_or_ge i vs.length with h | h
    ·exact h
    ·rw [List.drop_of_length_le h] at hno;cases hno
   have hiI:(i:Int)<(vs.length:Int):=by omega
   have hi0:(0:Int)≤(i:Int):=by omega
   have hc:=(uh HP).c i hlt
   have hno2:vs.getD i none=none∨none∈vs.drop (i+1):=by
    rw [List.drop_eq_getElem_cons hlt] at hno
    rcases List.mem_cons.1 hno with e | e
    ·left;rw [List.getD_eq_getElem?_getD,List.getElem?_eq_getElem hlt];exact e.symm
    ·exact .inr e
   have HNO:=hide hno2
   clear hno hno2
   cases hq:vs.getD i none with
   | none =>
    rw [hq] at hc
    have hc':w.cell? ⟨b,o+i,none⟩=some (.pointer none):=hc
    have heq:(binOp .eql 41 (.pointer none) (.pointer none)).run Tryz.prog w=.ok (.bool true) w:=by kernel_rfl
    clear hc
    go_wp2_with fail
    go_ret
    exact ⟨⟨i,by omega,rfl⟩,rfl⟩
   | some p =>
    rw [hq] at hc
    have hc':w.cell? ⟨b,o+i,none⟩=some (.pointer (some ⟨p,0,none⟩)):=hc
    have heq:(binOp .eql 41 (.pointer none) (.pointer (some ⟨p,0,none⟩))).run Tryz.prog w=.ok (.bool false) w:=by kernel_rfl
    have HN2:=hide (show none∈vs.drop (i+1) from (uh HNO).resolve_left (by rw [hq];simp))
    clear hc
    go_wp2_with fail
    go_roundw
    case rel=>exact ⟨i+1,by omega,by go_num,uh HN2,by first | rfl | trivial⟩
    case measure=>simp [intOf];omega
 go_enter Tryz.func59,Tryz.ntmps59
 go_wp2_with fail
 refine hidx.mono ?_
 rintro _ wq ⟨⟨k,hk,rfl⟩,hwq⟩
 obtain rfl:w=wq:=hwq.symm
 have hk0:(0:Int)≤(k:Int):=by omega
 go_wp2_with fail
 go_ret
 exact ⟨rfl,rfl⟩
set_option maxRecDepth 100000 in
set_option maxHeartbeats 1000000 in
theorem open_bad (w:World) (dpv:Value) (v:Value) (vs:List (Option Nat)) (b o cap:Nat) (key root:ByteArray) (h:VSl w v vs b o cap) (hl:vs.length≤100) (hr:root.size≤140737488355328) (hbad:¬ (1≤vs.length∧vs.length≤4)∨none∈vs∨isNm root=false) :
  Calls Tryz.prog 30 #[dpv,v,.string key,.string root] w fun e w'=>e=.returned (.tuple #[.pointer none,.int .i64 8])∧w'=w:=by
 have HP:=hide h
 have hv:=h.v
 subst hv
 clear h
 obtain ⟨n,hn⟩:∃ n,n=vs.length:=⟨_,rfl⟩
 rw [← hn] at hbad hl ⊢
 have HNN:=hide hn
 clear hn
 by_cases h1:n<1
 ·have h1I:(n:Int)<1:=by omega
  go_enter Tryz.func30,Tryz.ntmps30
  go_wp2_with fail
  go_ret2
  exact ⟨rfl,rfl⟩
 ·have h1I:¬ (n:Int)<1:=by omega
  by_cases h4:4<n
  ·have h4I:(4:Int)<(n:Int):=by omega
   go_enter Tryz.func30,Tryz.ntmps30
   go_wp2_with fail
   go_ret2
   exact ⟨rfl,rfl⟩
  ·have h4I:¬ (4:Int)<(n:Int):=by omega
   have hbad2:=hbad.resolve_left (by omega)
   by_cases hno:none∈vs
   ·go_enter Tryz.func30,Tryz.ntmps30
    go_wp2_with fail
    refine (show Calls Tryz.prog 59 #[.slice (some ⟨b,o,none⟩) n cap,.pointer none] w _ from by rw [uh HNN];exact contains_nil w _ vs b o cap (uh HP) (by rw [← uh HNN];omega) hno).mono ?_
    rintro _ wq ⟨rfl,hwq⟩
    obtain rfl:w=wq:=hwq.symm
    clear hwq
    go_wp2_with fail
    go_ret2
    exact ⟨rfl,rfl⟩
   ·have hrf:=hbad2.resolve_left hno
    obtain ⟨ps,hps⟩:=all_some hno
    have hpl:ps.length=n:=by rw [uh HNN,hps,List.length_map]
    have HPS:=hide (show PSl w (.slice (some ⟨b,o,none⟩) n cap) ps b o cap by
     have:=uh HP
     rw [hps] at this
     have:=this.ps
     rwa [List.length_map,hpl] at this)
    clear hps hno hbad hbad2
    go_enter Tryz.func30,Tryz.ntmps30
    go_wp2_with fail
    refine (contains_go w _ ps b o cap (uh HPS) (by omega)).mono ?_
    rintro _ wq ⟨rfl,hwq⟩
    obtain rfl:w=wq:=hwq.symm
    clear hwq
    go_wp2_with fail
    refine (isName_go root w hr).mono ?_
    rintro _ wq ⟨rfl,hwq⟩
    obtain rfl:w=wq:=hwq.symm
    clear hwq
    rw [hrf]
    go_wp2_with fail
    go_ret2
    exact ⟨rfl,rfl⟩
end Go.Proofs.YtlbacbcenejngaaGreatDoor
namespace Go.Proofs.YtlbacbcenejngaaGreatDoor
open Go.RowKit
theorem info41s:(Tryz.prog.info? 41).map (·.size)=some 1:=by kernel_rfl
theorem make_ptrs (r:Nat) (E:Int) (hE:E=(r:Int)) (hr:8*r≤281474976710656) (w:World) :
  (Instr.makeSlice 33 (.int .i64 E) (.int .i64 E)).run Tryz.prog w=.ok (.slice (some ⟨w.heap.size,0,none⟩) r r) (w.alloc (.cells (List.replicate r (Value.pointer none)).toArray 41)):=by
 subst hE
 have:madeCells #[.pointer none] r=(List.replicate r (Value.pointer none)).toArray:=by
  apply Array.ext'
  rw [toList_madeCells_one]
 rw [← this]
 exact run_make_row' 33 41 (.pointer none) 8 Tryz.underlying33 info41n rfl .i64 .i64 r (by omega) (by omega) w
theorem pv_eq (q:Option Nat) (w:World):(binOp .eql 41 (pv q) (pv q)).run Tryz.prog w=.ok (.bool true) w:=by
 cases q with
 | none=>kernel_rfl
 | some p =>
  have hu:Tryz.prog.underlying 41=some (.pointer 81):=by kernel_rfl
  have h1:(Op.equal 41 (.pointer (some ⟨p,0,none⟩)) (.pointer (some ⟨p,0,none⟩))).run Tryz.prog w=.ok true w:=by
   unfold Op.equal
   rw [show Op.maxDepth=9999+1 from rfl]
   unfold Op.equalIn
   simp [go_sem,sameAddr]
  simp [pv,binOp,go_sem,h1]
theorem pv_guard (q:Option Nat) (x y:Operand) (w:World):(eqGuard .eql 41 x y (pv q) (pv q)).run Tryz.prog w=.ok () w:=by
 have hu:Tryz.prog.underlying 41=some (.pointer 81):=by kernel_rfl
 cases q <;> simp [eqGuard,pv,go_sem]
structure LSrc (w:World) (v:Value) (vs:List (Option Nat)) (la:Option Addr) (lc:Nat):Prop where
 v:v=.slice la vs.length lc
 at':0<vs.length→∃ lb,la=some ⟨lb,0,none⟩∧lb<w.heap.size∧∀ j,j<vs.length→w.cell? ⟨lb,j,none⟩=some (pv (vs.getD j none))
theorem pv_one (vs:List (Option Nat)):∀ v∈vs.map pv,v.oneCell'=true:=fun v hv=>by
 obtain ⟨q,_,rfl⟩:=List.mem_map.1 hv
 cases q <;> rfl
theorem splice_ptrs (vs:List (Option Nat)):splice (List.replicate (vs.length+1) (Value.pointer none)) 0 (vs.map pv)=vs.map pv++[.pointer none]:=by
 simp [splice,List.replicate_succ']
def osEnd (w:World) (Q:World→Value→Int→World→Prop) (e:Ending) (w':World):Prop :=
 ∃ x n W b w1,e=.returned (.tuple #[x,.int .i64 n,.bool true])∧Kept w.heap.size w W∧w.heap.size≤b∧b<W.heap.size∧Kept W.heap.size W w1∧Q W x n w1∧Chg (fun k=>k=b) w1 w'
set_option maxRecDepth 100000 in
set_option maxHeartbeats 2000000 in
theorem opens_go (w:World) (dpv lv:Value) (vs:List (Option Nat)) (la:Option Addr) (lc:Nat) (key root:ByteArray) (Q:World→Value→Int→World→Prop) (hv:LSrc w lv vs la lc) (hl:vs.length≤100)
  (hO:∀ W v b cap,Kept w.heap.size w W→VSl W v vs b 0 cap→Calls Tryz.prog 30 #[dpv,v,.string key,.string root] W fun e w'=>∃ x n,e=.returned (.tuple #[x,.int .i64 n])∧Kept W.heap.size W w'∧Q W x n w') :
  Calls Tryz.prog 47 #[dpv,lv,.string key,.string root] w (osEnd w Q):=by
 have hlv:=hv.v
 have HA:=hide hv.at'
 subst hlv
 clear hv
 have HO:=hide hO
 have HPV:=hide (fun q=>pv_eq q)
 clear hO
 obtain ⟨n,hn⟩:∃ n,n=vs.length:=⟨_,rfl⟩
 have HSP:=hide (splice_ptrs vs)
 rw [← hn] at hl HA HSP ⊢
 have hml:(vs.map pv).length=n:=by rw [List.length_map,← hn]
 have HON:=hide (pv_one vs)
 have HGET:=hide (show ∀ j,j<n→(vs.map pv)[j]?=some (pv (vs.getD j none)) from fun j hj=>by
  rw [hn] at hj
  rw [List.getElem?_map,List.getElem?_eq_getElem hj,List.getD_eq_getElem?_getD,List.getElem?_eq_getElem hj];rfl)
 have HN:=hide hn
 clear hn
 have hmk:=fun E hE=>make_ptrs (n+1) E hE (by omega) w
 have hmk1:=hmk ((n:Int)+1) (by omega)
 clear hmk
 have hpos:∀ O,0<(vs.map pv).length→(some ⟨w.heap.size,0,none⟩:Option Addr)=some ⟨w.heap.size,0,none⟩∧∃ ad,la=some ad∧∀ j v,(vs.map pv)[j]?=some v→(w.alloc O).cell? (ad.add j)=some v:=by
  intro O hp
  rw [hml] at hp
  obtain ⟨lb,ha,hb,hs⟩:=uh HA hp
  refine ⟨rfl,_,ha,fun j v hv=>?_⟩
  have hj:j<n:=by have:=(List.getElem?_eq_some_iff.1 hv).1;omega
  rw [uh HGET j hj] at hv
  cases hv
  rw [add_addr,Nat.zero_add,World.cell?_alloc_lt _ _ _ (by show lb<w.heap.size;omega)]
  exact hs j hj
 have HPOS:=hide hpos
 clear hpos
 go_enter Tryz.func47,Tryz.ntmps47
 go_upto_region 4 with (refine wpList_copy_splice rfl (.tmp 23) (.tmp 24) 33 33 rfl 41 Tryz.underlying33 info41s (some ⟨w.heap.size,0,none⟩) la (n+1) (n+1) n lc rfl rfl w.heap.size 0 (List.replicate (n+1) (Value.pointer none)) 41 (heap_alloc_new _ _) (vs.map pv) (by rw [hml];exact (Nat.min_eq_left (Nat.le_succ n)).symm) (fun h=>uh HPOS _ h) (by rw [hml];simp) (uh HON) w.heap.size w ((Below.refl _ _).alloc (Nat.le_refl _) _) (Nat.le_refl _) ?_;intro wy hw2 hb2)
 have HKY:=hide (show Kept w.heap.size w wy from .of hb2)
 have HRY:=hide (show wy.heap[w.heap.size]?=some (.cells (vs.map pv++[Value.pointer none]).toArray 41 (0,0)) by rw [← uh HSP];exact hw2)
 have hby:w.heap.size<wy.heap.size:=(Array.getElem?_eq_some_iff.1 (uh HRY)).1
 clear hw2 hb2 hmk1 HPOS HON HSP
 have hnI:(n:Int)≤(n:Int)+1:=by omega
 have hn0:(0:Int)≤(n:Int):=by omega
 go_wp2_with fail
 refine (uh HO wy _ w.heap.size (n+1) (uh HKY) ⟨by rw [← uh HN],by rw [← uh HN];omega,hby,fun j hj=>?_⟩).mono ?_
 ·rw [← uh HN] at hj
  rw [Nat.zero_add,cell_of_row _ _ _ _ _ _ (uh HRY),List.getElem?_toArray,List.getElem?_append_left (by rw [hml];exact hj)]
  exact uh HGET j hj
 rintro _ w1 ⟨x,e1,rfl,hk1,hq1⟩
 have HK1:=hide hk1
 have HQ1:=hide hq1
 have hrow1:=(hk1.block _ hby).trans (uh HRY)
 have HR1:=hide hrow1
 have HLB:=hide (show 0<n→∃ lb,la=some ⟨lb,0,none⟩∧lb<w1.heap.size∧∀ j,j<n→w1.cell? ⟨lb,j,none⟩=some (pv (vs.getD j none)) from fun hp=>by
  obtain ⟨lb,ha,hb,hs⟩:=uh HA hp
  have hz:=(uh HKY).size
  have hz1:=(uh HK1).size
  refine ⟨lb,ha,by omega,fun j hj=>?_⟩
  exact ((uh HK1).cell (p:=⟨lb,j,none⟩) (by show lb<wy.heap.size;omega)).trans (((uh HKY).cell (p:=⟨lb,j,none⟩) hb).trans (hs j hj)))
 have hcn:w1.cell? ⟨w.heap.size,n,none⟩=some (.pointer none):=by
  rw [cell_of_row _ _ _ _ _ _ hrow1,List.getElem?_toArray,List.getElem?_append_right (by rw [hml];exact Nat.le_refl _),hml,Nat.sub_self];rfl
 have heqn:(binOp .eql 41 (.pointer none) (.pointer none)).run Tryz.prog w1=.ok (.bool true) w1:=by kernel_rfl
 have hnlt:(n:Int)<(n:Int)+1:=by omega
 clear hk1 hq1 hrow1 HO HA
 go_wp2_with fail
 clear hcn heqn
 go_loopw [16,15] (fun vi vok wr=>∃ i:Nat,vi=.int .i64 i∧i≤n∧vok=.bool true∧Kept w1.heap.size w1 wr) (fun vi _ _=>n-(intOf vi).toNat)
 case atStart=>exact ⟨0,rfl,Nat.zero_le _,rfl,Kept.refl _ _⟩
 case round =>
  obtain ⟨i,rfl,hi,rfl,hwr⟩:=hrel
  have HWR:=hide hwr
  have HRR:=hide ((hwr.block _ (Nat.lt_of_lt_of_le hby (uh HK1).size)).trans (uh HR1))
  clear hwr
  by_cases hlt:i<n
  ·obtain ⟨lb,hlb,hlbl,hcs⟩:=uh HLB (by omega)
   subst hlb
   have hc2:=((uh HWR).cell (p:=⟨lb,i,none⟩) hlbl).trans (hcs i hlt)
   have hc1:wr.cell? ⟨w.heap.size,i,none⟩=some (pv (vs.getD i none)):=by
    rw [cell_of_row _ _ _ _ _ _ (uh HRR),List.getElem?_toArray,List.getElem?_append_left (by rw [hml];exact hlt)]
    exact uh HGET i hlt
   have heq:=uh HPV (vs.getD i none)
   have hge:=pv_guard (vs.getD i none)
   generalize pv (vs.getD i none)=q at hc1 hc2 heq hge
   have hiI:(i:Int)<(n:Int):=by omega
   have hiJ:(i:Int)<(n:Int)+1:=by omega
   have hi0:(0:Int)≤(i:Int):=by omega
   clear hcs
   go_upto_region 9 with fail
   refine wp_region_held_drew (S:=fun W=>W.cell? ⟨w.heap.size,i,none⟩=some q∧W.cell? ⟨lb,i,none⟩=some q) (by kernel_rfl) (⟨hc1,hc2⟩) (fun hHeld=>?_)
   refine tkL 4 [(0,some 46,.bool true),(1,some 47,.bool true),(2,some 48,.slice (some ⟨w.heap.size,0,none⟩) (n+1) (n+1)),(3,some 49,.int .i64 (i:Int))] (by kernel_rfl) (fun _ _ _ _ _ h=>h) (fun _ _=>by kernel_rfl) hHeld ?_
   simp only [zz0,zz1,zz2,zz4,zz5]
   refine tkG 4 (some 50) (.indexAddr 33 (.tmp 48) (.tmp 49)) 0 (some (1,true)) (.pointer (some ⟨w.heap.size,i,none⟩)) (by kernel_rfl) (fun _ _ _ h=>h) (yieldsIf_index (by kernel_rfl) 33 (.tmp 48) (.tmp 49) rfl (index33 w.heap.size i (n+1) (n+1) (by omega)) (by kernel_rfl) (by kernel_rfl)) hHeld ?_
   simp only [zz0,zz1,zz2]
   refine tkG 5 (some 51) (.load 41 (.tmp 50)) 41 (some (1,true)) q (by kernel_rfl) (fun _ _ _ h=>h) (Or.inl ⟨by kernel_rfl,fun W hW=>by simp [execOp,go_sem,hW.1]⟩) hHeld ?_
   simp only [zz0,zz1,zz2]
   refine tkL 2 [(6,some 52,.slice (some ⟨lb,0,none⟩) n lc),(7,some 53,.int .i64 (i:Int))] (by kernel_rfl) (fun _ _ _ _ _ h=>h) (fun _ _=>by kernel_rfl) hHeld ?_
   simp only [zz0,zz1,zz2,zz4,zz5]
   refine tkG 8 (some 54) (.indexAddr 33 (.tmp 52) (.tmp 53)) 0 (some (1,true)) (.pointer (some ⟨lb,i,none⟩)) (by kernel_rfl) (fun _ _ _ h=>h) (yieldsIf_index (by kernel_rfl) 33 (.tmp 52) (.tmp 53) rfl (index33 lb i n lc hlt) (by kernel_rfl) (by kernel_rfl)) hHeld ?_
   simp only [zz0,zz1,zz2]
   refine tkG 9 (some 55) (.load 41 (.tmp 54)) 41 (some (1,true)) q (by kernel_rfl) (fun _ _ _ h=>h) (Or.inl ⟨by kernel_rfl,fun W hW=>by simp [execOp,go_sem,hW.2]⟩) hHeld ?_
   simp only [zz0,zz1,zz2]
   refine tkG 10 (some 56) (.binOp .eql 41 (.tmp 51) (.tmp 55) 41) 4 (some (1,true)) (.bool true) (by kernel_rfl) (fun _ _ _ h=>h) (Or.inl ⟨by kernel_rfl,fun W hW=>by simp [execOp,go_sem,heq,hge]⟩) hHeld ?_
   simp only [zz0,zz1,zz2]
   refine tkL 2 [(11,some 57,.bool true),(12,some 15,.bool true)] (by kernel_rfl) (fun _ _ _ _ _ h=>h) (fun _ _=>by kernel_rfl) hHeld ?_
   simp only [zz0,zz1,zz2,zz4,zz5]
   refine wpAnyH_done (by kernel_rfl) ?_ _
   go_wp2_with fail
   go_roundw
   case rel=>exact ⟨i+1,by go_num,by omega,rfl,(uh HWR).trans ((Kept.refl _ _).draws 1)⟩
   case measure=>simp [intOf];omega
  ·obtain rfl:i=n:=by omega
   have hiI:¬ (i:Int)<(i:Int):=by omega
   go_wp2_with fail
   go_loopw [17] (fun vi wr=>∃ (j:Nat) (cs:Array Value),vi=.int .i64 j∧j≤i+1∧wr.heap[w.heap.size]?=some (.cells cs 41 (0,0))∧cs.size=i+1∧Chg (fun k=>k=w.heap.size) w1 wr) (fun vi _=>i+1-(intOf vi).toNat)
   case atStart=>exact ⟨0,_,rfl,Nat.zero_le _,uh HRR,by simp [hml],(uh HWR).chg.mono fun _ _ e=>e.elim⟩
   case round =>
    obtain ⟨j,cs,rfl,hj,hrow,hcs,hch⟩:=hrel
    have HROW:=hide hrow
    have HCH:=hide hch
    clear hrow hch
    by_cases hlt2:j≤i
    ·have hjI:(j:Int)≤(i:Int):=by omega
     have hjJ:(j:Int)<(i:Int)+1:=by omega
     have hj0:(0:Int)≤(j:Int):=by omega
     go_wp2_with fail
     refine (new_sink_go 0 wr).mono ?_
     rintro _ w4 ⟨rfl,_,hk4⟩
     have hr4:=(hk4.block _ (Array.getElem?_eq_some_iff.1 (uh HROW)).1).trans (uh HROW)
     have hc4:w4.cell? ⟨w.heap.size,j,none⟩=some cs[j]:=by rw [cell_of_row _ _ _ _ _ _ hr4,Array.getElem?_eq_getElem (by omega)]
     have hf4:w4.frozen? ⟨w.heap.size,j,none⟩=false:=frozen_of_row _ _ _ _ _ hr4
     have HEND:=hide (show ∀ u,(w4.setCell ⟨w.heap.size,j,none⟩ u).heap[w.heap.size]?=some (.cells (cs.setIfInBounds j u) 41 (0,0))∧Chg (fun k=>k=w.heap.size) w1 (w4.setCell ⟨w.heap.size,j,none⟩ u) from fun u =>
      ⟨heap_setCell_same _ _ _ _ _ _ hr4,((uh HCH).trans' hk4.chg fun _ _ e=>e.elim).trans ⟨rfl,rfl,by rw [World.size_setCell];exact Nat.le_refl _,fun k _ hk=>heap_setCell_other _ _ _ _ hk⟩⟩)
     generalize cs[j]=u0 at hc4
     clear hr4 hk4
     go_wp2_with fail
     go_roundw
     case rel=>exact ⟨j+1,_,by go_num,by omega,(uh HEND _).1,by simpa using hcs,(uh HEND _).2⟩
     case measure=>simp [intOf];omega
    ·have hjI:¬ (j:Int)≤(i:Int):=by omega
     go_wp2_with fail
     refine (num_go e1 wr).mono ?_
     rintro _ wq ⟨rfl,hwq⟩
     obtain rfl:wr=wq:=hwq.symm
     clear hwq
     go_wp2_with fail
     go_ret3
     exact ⟨_,_,_,_,_,rfl,uh HKY,Nat.le_refl _,hby,uh HK1,uh HQ1,uh HCH⟩
end Go.Proofs.YtlbacbcenejngaaGreatDoor
namespace Go.Proofs.YtlbacbcenejngaaGreatDoor
open Go.RowKit
def ptrcell (p:Nat):List Value:=[.pointer (some ⟨p,0,none⟩)]
theorem ptrcells (ps:List Nat):ps.flatMap ptrcell=pcells ps:=by
 induction ps with
 | nil=>rfl
 | cons p l ih=>rw [List.flatMap_cons,ih];rfl
theorem onePtr (l:List Nat):∀ u∈l.flatMap ptrcell,u.oneCell'=true:=flat_one (fun a u hu=>by
 rw [List.mem_singleton.1 hu];rfl) l
theorem widePtr33:Wide ptrcell 33 41 1 8:=⟨Tryz.underlying33,info_of (v:=.pointer none) (by kernel_rfl) rfl,fun _=>rfl,by decide,by decide⟩
theorem widePtr100:Wide ptrcell 100 103 1 8:=⟨Tryz.underlying100,info_of (v:=.pointer none) (by kernel_rfl) rfl,fun _=>rfl,by decide,by decide⟩
theorem widePtr62:Wide ptrcell 62 98 1 8:=⟨Tryz.underlying62,info_of (v:=.pointer none) (by kernel_rfl) rfl,fun _=>rfl,by decide,by decide⟩
theorem VAt.failed {B:Nat} {w w':World} {vp:Nat} {g:VG} {V:Vlt} (h:VAt B w vp g V) {i:Nat} (hi:i<g.SL.length) {v':Value} {L:List Int} (hP:SAt B 81 w' g.SL[i].p v' (g.SL[i].x.fail L)) (hu:Upd g.SL[i].p g.SL[i].v v' w w') :
  ∃ g',g'.SL.map (·.p)=g.SL.map (·.p)∧g'.dp=g.dp∧VAt B w' vp g' (V.failAt i L)∧Chg (Vft vp g) w w'∧∀ k,Vft vp g' k→Vft vp g k∨w.heap.size≤k:=by
 obtain ⟨hl,hc,hf⟩:=h.log.upd hi hP hu
 obtain ⟨hv,hcv,hfv,hst⟩:=h.setL hl hc hf
 have hsx:(g.SL.set i ⟨g.SL[i].p,v',g.SL[i].x.fail L⟩).map (·.x)=(V.failAt i L).snks:=by
  show _=V.snks.modify i fun k=>k.fail L
  rw [← h.snk,List.map_set,modify_set _ (by rw [List.length_map];exact hi),List.getElem_map]
 have hsp:(g.SL.set i ⟨g.SL[i].p,v',g.SL[i].x.fail L⟩).map (·.p)=g.SL.map (·.p):=by
  rw [List.map_set]
  apply set_same
  rw [List.getElem?_map,List.getElem?_eq_getElem hi];rfl
 refine ⟨{ g with SL:=g.SL.set i ⟨g.SL[i].p,v',g.SL[i].x.fail L⟩ },hsp,rfl,?_,hcv,hfv⟩
 have e:V.failAt i L={ V with snks:=(g.SL.set i ⟨g.SL[i].p,v',g.SL[i].x.fail L⟩).map (·.x),cnt:=V.cnt,last:=V.last }:=by rw [hsx];rfl
 rw [e]
 exact hv
theorem HvL.fail {SL:List (Loc Snk)} {H:List Nat} {E:List ByteArray} (h:HvL SL H E) {i:Nat} (hi:i<SL.length) {p:Nat} {v:Value} {L:List Int}:HvL (SL.set i ⟨p,v,SL[i].x.fail L⟩) H E:=by
 obtain ⟨m,hm⟩:∃ m,H[i]?=some m:=⟨_,List.getElem?_eq_getElem (by rw [h.1];exact hi)⟩
 have h1:=h.2 i _ m (List.getElem?_eq_getElem hi) hm
 exact h.set1 hm h1.1 h1.2
theorem PAt.fail {B:Nat} {w w1 w2:World} {n:Nat} {a:PG} (h:PAt B w n a) {i:Nat} (hi:i<a.g.SL.length) (hi2:i<a.rSL.length) {L:List Int} (hL:L.length≤4294967296) {v1 v2:Value} (hP:SAt B 81 w1 a.g.SL[i].p v1 (a.g.SL[i].x.fail L)) (hu:Upd a.g.SL[i].p a.g.SL[i].v v1 w w1)
  (hP2:SAt B 105 w2 a.rSL[i].p v2 (a.rSL[i].x.fail L)) (hu2:Upd a.rSL[i].p a.rSL[i].v v2 w1 w2):ptEnd B w n a w2:=by
 obtain ⟨g',hsp,hdp,hv,hc,hf⟩:=h.v.failed hi hP hu
 have f0:∀ {k},Pft a k→k<w.heap.size:=fun hk=>(h.foot hk).1
 have hz:=hc.size
 have hr1:RVAt B w1 a.rp a.rg a.V.key a.V.sto.root a.secs a.V.sto.toks a.E a.H:=h.r.stay fun k hk=>hc.block k (f0 (.inr (.inr (.inr (.inl hk))))) fun e=>h.d2 k e (.inl hk)
 have hs1:RS B w1 a.rv a.rSL:=h.rs.stay fun k hk=>hc.block k (f0 (.inr (.inr (.inr (.inr hk))))) fun e=>h.d2 k e (.inr hk)
 obtain ⟨hs2,hc2,hf2⟩:=hs1.upd hi2 hP2 hu2
 have hl:g'.SL.length=a.g.SL.length:=by have:=congrArg List.length hsp;simpa using this
 have hnew3:∀ k,RSft a.rv (a.rSL.set i ⟨a.rSL[i].p,v2,a.rSL[i].x.fail L⟩) k→RSft a.rv a.rSL k∨w.heap.size≤k:=fun k hk=>(hf2 k hk).imp id fun e=>by omega
 have s1:∀ k,k<w.heap.size→(¬ Vft a.vp a.g k)→(¬ RSft a.rv a.rSL k)→w2.heap[k]?=w.heap[k]?:=fun k hk h1 h2=>(hc2.block k (by omega) h2).trans (hc.block k hk h1)
 have hxe:a.rSL[i].x=a.g.SL[i].x:=by
  have h1:(a.rSL.map (·.x))[i]?=some a.rSL[i].x:=by rw [List.getElem?_map,List.getElem?_eq_getElem hi2];rfl
  rw [h.sx,← h.v.snk,List.getElem?_map,List.getElem?_eq_getElem hi] at h1
  exact (Option.some.inj h1).symm
 refine ⟨⟨a.p,a.vp,g',a.lv,a.rp,a.rg,a.rv,a.rSL.set i ⟨a.rSL[i].p,v2,a.rSL[i].x.fail L⟩,a.V.failAt i L,a.E,a.secs,a.H⟩,rfl,⟨?_,?_,hv.stay fun k hk=>?_,?_,hs2,h.ge,fun k hk e=>?_,fun k hk e=>?_,fun k hk e=>?_,h.bnd.failAt i L hL,h.vs,h.ps,?_,h.hv.fail hi2⟩,?_,fun k hk=>?_⟩
 ·refine (s1 a.p (f0 (.inl rfl)) (fun e=>h.d1 _ (.inl rfl) (.inl e)) (fun e=>h.d1 _ (.inl rfl) (.inr (.inr e)))).trans (h.at'.trans ?_)
  simp only [PG.cells,hdp]
  rfl
 ·show w2.ownsRow B 41 1 a.lv g'.SL.length (pcells (g'.SL.map (·.p)))
  rw [hsp,hl]
  exact own_blocks h.row fun k hk=>s1 k (f0 (.inr (.inl hk))) (fun e=>h.d1 k (.inr hk) (.inl e)) (fun e=>h.d1 k (.inr hk) (.inr (.inr e)))
 ·refine hc2.block k (hv.foot hk).1 fun e=>?_
  rcases hf k hk with h1 | h1
  ·exact h.d2 k h1 (.inr e)
  ·have:=f0 (.inr (.inr (.inr (.inr e))));omega
 ·exact hr1.stay fun k hk=>hc2.block k (hr1.foot hk).1 fun e=>h.d3 k e hk
 ·have hkw:k<w.heap.size:=f0 (hk.imp id .inl)
  refine h.d1 k hk ?_
  rcases e with e | e | e
  ·exact .inl ((hf k e).resolve_right (by omega))
  ·exact .inr (.inl e)
  ·exact .inr (.inr ((hnew3 k e).resolve_right (by omega)))
 ·have e0:Vft a.vp g' k:=hk
  have hk1:=(hv.foot e0).1
  have e1:(Rft a.rp a.rg a.secs k∨RSft a.rv a.rSL k):=e.imp id fun e=>(hf2 k e).resolve_right (by omega)
  rcases hf k e0 with h1 | h1
  ·exact h.d2 k h1 e1
  ·have:k<w.heap.size:=by
    rcases e1 with e | e
    ·exact f0 (.inr (.inr (.inr (.inl e))))
    ·exact f0 (.inr (.inr (.inr (.inr e))))
   omega
 ·have e':Rft a.rp a.rg a.secs k:=e
  have:=f0 (.inr (.inr (.inr (.inl e'))))
  exact h.d3 k ((hnew3 k hk).resolve_right (by omega)) e'
 ·show (a.rSL.set i ⟨a.rSL[i].p,v2,a.rSL[i].x.fail L⟩).map (·.x)=a.V.snks.modify i fun k=>k.fail L
  rw [← h.sx,List.map_set,modify_set _ (by rw [List.length_map];exact hi2),List.getElem_map]
 ·exact (hc.mono (S':=Pft a) fun k _ e=>.inr (.inr (.inl e))).trans' hc2 fun k _ e=>.inr (.inr (.inr (.inr e)))
 ·rcases hk with hk | hk | hk | hk | hk
  ·exact .inl (.inl hk)
  ·exact .inl (.inr (.inl hk))
  ·exact (hf k hk).imp (fun e=>.inr (.inr (.inl e))) id
  ·exact .inl (.inr (.inr (.inr (.inl hk))))
  ·exact (hnew3 k hk).imp (fun e=>.inr (.inr (.inr (.inr e)))) id
end Go.Proofs.YtlbacbcenejngaaGreatDoor
namespace Go.Proofs.YtlbacbcenejngaaGreatDoor
open Go.RowKit
theorem set_getD_none {ps:List Nat} {k j:Nat} (hk:k<ps.length) (hj:j<ps.length):pv (((ps.map some).set k none).getD j none)=if k=j then .pointer none else .pointer (some ⟨ps.getD j 0,0,none⟩):=by
 rw [List.getD_eq_getElem?_getD,List.getElem?_set]
 by_cases e:k=j
 ·subst e;rw [if_pos rfl,if_pos rfl,if_pos (by rw [List.length_map];exact hk)];rfl
 ·rw [if_neg e,if_neg e,List.getElem?_map,List.getElem?_eq_getElem hj,List.getD_eq_getElem?_getD,List.getElem?_eq_getElem hj];rfl
set_option maxRecDepth 100000 in
set_option maxHeartbeats 2000000 in
theorem withNil_go (w:World) (x:Int) (hx:i64 x):Calls Tryz.prog 53 #[.int .i64 x] w fun e w'=>e=.returned (.bool true)∧Kept w.heap.size w w':=by
 have hx0:=hx.1
 have hx1:=hx.2
 have HPK:=hide (fun W=>(show Calls Tryz.prog 52 #[.int .i64 x,.int .i64 4] W fun e w'=>(∃ k:Nat,k<4∧e=.returned (.int .i64 k))∧w'=W from lawpick_go x 4 W hx0 hx1 (by decide) (by decide)))
 go_enter Tryz.func53,Tryz.ntmps53
 go_wp2_with fail
 go_loopw [4,3] (fun vi vl wr=>∃ (i:Nat) (ps:List Nat),vi=.int .i64 i∧i≤4∧ps.length=i∧wr.ownsRow w.heap.size 41 1 vl i (pcells ps)∧Kept w.heap.size w wr) (fun vi _ _=>5-(intOf vi).toNat)
 case atStart=>exact ⟨0,[],rfl,by decide,rfl,World.ownsRow_nil _ _ _ _,Kept.refl _ _⟩
 case round =>
  obtain ⟨i,ps,rfl,hi,hpl,hrow,hkr⟩:=hrel
  have HROW:=hide hrow
  have HKR:=hide hkr
  have HPL:=hide hpl
  have hzr:=hkr.size
  obtain ⟨la,lc,hlv,hlc,hla⟩:=own_len hrow
  subst hlv
  clear hrow hkr hpl
  go_wp2_with fail
  refine (uh HPK wr).mono ?_
  rintro _ wq ⟨⟨k,hk,rfl⟩,hwq⟩
  obtain rfl:wr=wq:=hwq.symm
  clear hwq
  by_cases hik:i≤k
  ·have hikI:(i:Int)≤(k:Int):=by omega
   go_wp2_with fail
   refine (new_sink_go 0 wr).mono ?_
   rintro _ w4 ⟨rfl,hs4,hk4⟩
   have hz4:wr.heap.size<w4.heap.size:=hs4.lt
   have HK4:=hide hk4
   clear hs4 hk4
   go_wp2_with (refine wpList_halt2 (.tmp 16) (.tmp 18) 33 rfl ?_)
   refine Stp.mk ?_
   have hka:Kept w4.heap.size w4 (w4.alloc (.cells #[.pointer (some ⟨wr.heap.size,0,none⟩)] 41)):=(Kept.refl _ _).alloc (Nat.le_refl _) _
   have hown:=own_kept (own_kept (uh HROW) (uh HK4)) hka
   have hps:=uh HPL
   refine wpList_append_all widePtr33 rfl (.tmp 16) (.tmp 18) rfl w.heap.size (.slice la i lc) ps [wr.heap.size] rfl (by rw [hps,ptrcells];exact hown) _ rfl (src_new (f:=ptrcell) w4 wr.heap.size 41) (onePtr _) (by simp;omega) (by simp;omega) ?_
   intro v6 w6 ho6 hg6 hb6
   rw [List.length_append,hps,ptrcells] at ho6
   have HK6:=hide (show Kept w.heap.size w w6 from (((uh HKR).trans ((uh HK4).mono hzr)).trans (hka.mono (by omega))).trans ⟨hg6.os,hg6.output,hg6.size,fun k hk=>hg6.block k (by rw [World.size_alloc];omega) fun e=>by have:=((uh HROW).lt k e.symm).1;omega⟩)
   have HO6:=hide ho6
   obtain ⟨a6,c6,hv6,_,_⟩:=own_len ho6
   subst hv6
   clear hown hka ho6 hg6 hb6
   simp only [zz0,zz1,zz2]
   go_wp2
   go_roundw
   case rel=>exact ⟨i+1,ps++[wr.heap.size],by go_num,by omega,by rw [List.length_append,hps];rfl,uh HO6,uh HK6⟩
   case measure=>simp [intOf];omega
  ·have hikI:¬ (i:Int)≤(k:Int):=by omega
   have hi1:0<i:=by omega
   obtain ⟨lb,hlb⟩:=hla hi1
   subst hlb
   have hd:-9223372036854775808≤x.tdiv 4∧x.tdiv 4≤9223372036854775807:=by
    rcases Int.le_total 0 x with h | h
    ·rw [Int.tdiv_eq_ediv_of_nonneg h];omega
    ·have e:x.tdiv 4=-((-x) / 4):=by
      rw [← Int.tdiv_eq_ediv_of_nonneg (by omega),Int.neg_tdiv,Int.neg_neg]
     rw [e];omega
   obtain ⟨hd0,hd1⟩:=hd
   have HP2:=hide (fun W=>lawpick_go (x.tdiv 4) i W hd0 hd1 hi1 (by omega))
   go_wp2_with fail
   refine (uh HP2 wr).mono ?_
   rintro _ wq ⟨⟨m,hm,rfl⟩,hwq⟩
   obtain rfl:wr=wq:=hwq.symm
   clear hwq
   have hps:=uh HPL
   have hmI:(m:Int)<(i:Int):=by omega
   have hm0:(0:Int)≤(m:Int):=by omega
   obtain ⟨g',c',e1,e2⟩:=own_cell (uh HROW) hm
   cases e1
   have hcm:wr.cell? ⟨lb,m,none⟩=some ((pcells ps).getD m undef):=e2
   have hfm:wr.frozen? ⟨lb,m,none⟩=false:=(uh HROW).frozenAt _
   generalize (pcells ps).getD m undef=u0 at hcm
   have hlbl:=(uh HROW).lt lb rfl
   have HST:=hide ((uh HROW).stored m (.pointer none))
   obtain ⟨w5,hw5⟩:∃ w5,w5=wr.setCell ⟨lb,m,none⟩ (.pointer none):=⟨_,rfl⟩
   rw [← hw5] at HST
   have HK5:=hide (show Kept w.heap.size w w5 by rw [hw5];exact (uh HKR).setCell (p:=⟨lb,m,none⟩) hlbl.1 _)
   have hz5:=(uh HK5).size
   have hlb5:lb<w5.heap.size:=by rw [hw5,World.size_setCell];exact hlbl.2
   clear e2
   go_upto_region 8 with fail
   rw [← hw5]
   clear hw5 hcm hfm
   go_wp2_with fail
   refine (new_disk_go 0 w5).mono ?_
   rintro _ w6 ⟨dp,dv,rfl,_,_,_,hk6⟩
   have HK6:=hide hk6
   clear hk6
   have hvl:((ps.map some).set m none).length=i:=by rw [List.length_set,List.length_map,hps]
   have HOP:=hide (opens_go w6 (.pointer (some ⟨dp,0,none⟩)) (.slice (some ⟨lb,0,none⟩) i lc) ((ps.map some).set m none) (some ⟨lb,0,none⟩) lc ⟨#[107,101,121]⟩ ⟨#[114,111,111,116]⟩ (fun W v n w1=>v=.pointer none∧n=8∧w1=W) ⟨by rw [hvl],fun _=>⟨lb,rfl,Nat.lt_of_lt_of_le hlb5 (uh HK6).size,fun j hj=>by
    rw [hvl] at hj
    rw [set_getD_none (by omega) (by omega)]
    refine ((uh HK6).cell (p:=⟨lb,j,none⟩) hlb5).trans ?_
    obtain ⟨b',c',e1,e2⟩:=own_cell (uh HST).1 hj
    cases e1
    rw [e2,List.getD_eq_getElem?_getD,List.getElem?_set]
    by_cases e:m=j
    ·subst e;rw [if_pos rfl,if_pos rfl,if_pos (by simp [pcells];omega)];rfl
    ·rw [if_neg e,if_neg e,pcells,List.getElem?_map,List.getElem?_eq_getElem (by omega),List.getD_eq_getElem?_getD,List.getElem?_eq_getElem (by omega)];rfl⟩⟩ (by rw [hvl];omega) fun W v b cap hW hv=>(open_bad W _ v _ b 0 cap _ _ hv (by rw [hvl];omega) (by decide) (.inr (.inl (by
     rw [List.mem_iff_getElem?]
     exact ⟨m,by rw [List.getElem?_set,if_pos rfl,if_pos (by rw [List.length_map];omega)]⟩)))).mono fun e w' ⟨he,hw'⟩=>⟨_,_,he,by rw [hw'];exact Kept.refl _ _,rfl,rfl,hw'⟩)
   clear hvl
   go_wp2_with fail
   refine (uh HOP).mono ?_
   rintro _ w7 ⟨v7,n7,W,b,w1,rfl,hkW,hbl,hbW,hk1,⟨rfl,rfl,hw1⟩,hch⟩
   obtain rfl:W=w1:=hw1.symm
   have HK7:=hide (show Kept w.heap.size w w7 from (((uh HK5).trans ((uh HK6).mono hz5)).trans (hkW.mono (by have:=(uh HK6).size;omega))).trans (hch.keptB (by have:=hkW.size;have:=(uh HK6).size;omega) fun k hk e=>by have:=(uh HK6).size;omega))
   clear hkW hk1 hch hw1
   have heq:∀ W,(binOp .eql 31 (.pointer none) (.pointer none)).run Tryz.prog W=.ok (.bool true) W:=fun W=>by kernel_rfl
   go_wp2_with fail
   go_ret
   exact ⟨rfl,uh HK7⟩
end Go.Proofs.YtlbacbcenejngaaGreatDoor
namespace Go.Proofs.YtlbacbcenejngaaGreatDoor
open Go.RowKit
def openB (n:Int) (s:ByteArray):Bool:=nameB s.data.toList 8 false false&&(decide (1≤n)&&decide (n≤4))
set_option maxRecDepth 100000 in
set_option maxHeartbeats 1000000 in
theorem opened_ref (n:Int) (s:ByteArray) (w:World) (hs:s.size≤100000000):Calls Tryz.prog 48 #[.int .i64 n,.string s] w fun e w'=>e=.returned (.bool (openB n s))∧w'=w:=by
 have HN:=hide (isName_ref s 8 false false w (by omega) (by decide))
 have HO:=hide (show openB n s=(nameB s.data.toList 8 false false&&(decide (1≤n)&&decide (n≤4))) from rfl)
 generalize nameB s.data.toList 8 false false=b at HN HO
 generalize openB n s=o at HO ⊢
 go_enter Tryz.func48,Tryz.ntmps48
 go_wp2_with fail
 refine (uh HN).mono ?_
 rintro _ wq ⟨rfl,hwq⟩
 obtain rfl:w=wq:=hwq.symm
 clear hwq HN
 cases b with
 | false =>
  go_wp2_with fail
  go_ret
  exact ⟨by rw [uh HO];rfl,rfl⟩
 | true =>
  by_cases h1:1≤n
  ·by_cases h4:n≤4
   ·have HF:=hide (show o=true by rw [uh HO,decide_eq_true h1,decide_eq_true h4];rfl)
    go_wp2_with fail
    go_ret
    exact ⟨by rw [uh HF];rfl,rfl⟩
   ·have HF:=hide (show o=false by rw [uh HO,decide_eq_true h1,decide_eq_false h4];rfl)
    have d1:decide (1≤n)=true:=decide_eq_true h1
    have d4:decide (n≤4)=false:=decide_eq_false h4
    go_wp2_with fail
    go_ret
    exact ⟨by rw [uh HF];rfl,rfl⟩
  ·have HF:=hide (show o=false by rw [uh HO,decide_eq_false h1];rfl)
   have d1:decide (1≤n)=false:=decide_eq_false h1
   go_wp2_with fail
   go_ret
   exact ⟨by rw [uh HF];rfl,rfl⟩
end Go.Proofs.YtlbacbcenejngaaGreatDoor
namespace Go.Proofs.YtlbacbcenejngaaGreatDoor
open Go.RowKit
theorem hdr_ret {R:Ending→World→Prop} {tmps:Array Value} {w:World} {b:Nat} {L:List UInt8} {n:Int} (h1:tmps.getD 2 undef=.int .i64 n) (h2:tmps.getD 3 undef=.pointer (some ⟨b,0,none⟩)) (hrow:w.heap[b]?=some (.cells (brow L) 29 (0,0))) (hL:L.length=32)
  (hR:R (.returned (.tuple #[.int .i64 n,.agg (brow L)])) w):bodyPost Tryz.prog Tryz.f55 R .ret { tmps:=tmps,defers:=[] } w:=by
 have h1':tmps[2]?.getD undef=.int .i64 n:=by simpa using h1
 have h2':tmps[3]?.getD undef=.pointer (some ⟨b,0,none⟩):=by simpa using h2
 have l1:(loadVar 29 ⟨b,0,none⟩).run Tryz.prog w=.ok (.agg (brow L)) w:=run_loadVar_row w _ 29 29 (brow L) (0,0) _ hrow Tryz.underlying29 rfl (rinfo hL)
 refine bodyPost_ret (v:=.tuple #[.int .i64 n,.agg (brow L)]) ?_ rfl hR
 simp [results,Tryz.results55,h1',h2',asAddr,l1]
structure HdA (w:World) (b3 b4:Nat) (L:List UInt8) (wx:World):Prop where
 kept:Kept w.heap.size w wx
 res:wx.heap[b3]?=some (.cells (brow (List.replicate 32 0)) 29 (0,0))
 dig:wx.heap[b4]?=some (.cells (brow L) 29 (0,0))
theorem HdA.next {w wx wy:World} {b3 b4:Nat} {L:List UInt8} (h:HdA w b3 b4 L wx) (hk:Kept wx.heap.size wx wy):HdA w b3 b4 L wy :=
 ⟨h.kept.trans (hk.mono h.kept.size),(hk.block _ (Array.getElem?_eq_some_iff.1 h.res).1).trans h.res,(hk.block _ (Array.getElem?_eq_some_iff.1 h.dig).1).trans h.dig⟩
set_option maxRecDepth 100000 in
set_option maxHeartbeats 4000000 in
theorem head_ref (B:Nat) (w:World) (rp:Nat) (g:RG) (key root:ByteArray) (secs:List Sc) (toks:List (ByteArray × Tok)) (E:List ByteArray) (H:List Nat) (h:RVAt B w rp g key root secs toks E H) (hE:E.length≤1000000000) (hEB:∀ e∈E,e.size≤100000000) :
  Calls Tryz.prog 55 #[.pointer (some ⟨rp,0,none⟩)] w fun e w'=>e=.returned (.tuple #[.int .i64 (E.length:Int),.agg (brow (lastD E))])∧Kept w.heap.size w w':=by
 have H0:=hide h
 have HEB:=hide hEB
 clear h hEB
 obtain ⟨w1,hw1⟩:∃ w1,w1=(w.alloc (.cells (brow (List.replicate 32 0)) 29)).alloc (.cells (brow (List.replicate 32 0)) 29):=⟨_,rfl⟩
 have HA:=hide (show HdA w w.heap.size (w.heap.size+1) (List.replicate 32 0) w1 from by
  rw [hw1]
  exact ⟨((Kept.refl _ _).alloc (Nat.le_refl _) _).alloc (by simp) _,by rw [Below.heap_alloc _ _ _ (by simp)];exact heap_alloc_new _ _,alloc_snd _ _ _⟩)
 obtain ⟨la,lc,hlv,hlc,hlg⟩:=own_len (uh H0).log
 have HLV:=hide hlv
 have hrpl:rp<w.heap.size:=((uh H0).foot (.inl rfl)).1
 have HRP:=hide (show ∀ W,Kept w.heap.size w W→W.cell? ⟨rp,4,none⟩=some (.slice la E.length lc) from fun W hW=>((hW.cell (p:=⟨rp,4,none⟩) hrpl).trans (((uh H0).c 4).trans rfl)).trans (congrArg some hlv))
 have hr4:=uh HRP _ (uh HA).kept
 clear hlv
 go_enter Tryz.func55,Tryz.ntmps55
 go_upto_region 2 with fail
 rw [zero29,← hw1]
 clear hw1
 go_cut [10] (fun v wx=>v=.bool (decide (0<E.length))∧wx=w1)
 case first =>
  by_cases h0:0<E.length
  ·have hI:(0:Int)<(E.length:Int):=by omega
   have HH:=hide h0
   clear h0
   go_wp2_with fail
   go_meet
   case rel=>exact ⟨by rw [decide_eq_true (uh HH)],rfl⟩
  ·have hI:¬ (0:Int)<(E.length:Int):=by omega
   have HH:=hide h0
   clear h0
   go_wp2_with fail
   go_meet
   case rel=>exact ⟨by rw [decide_eq_false (uh HH)],rfl⟩
 case rest =>
  obtain ⟨rfl,hwx⟩:=hcut
  obtain rfl:w1=wc:=hwx.symm
  clear hwx
  rename_i K1 hK1 K2 hK2
  refine hK2 _ _ ?_
  clear hK2 K2
  go_cut [] (fun wx=>HdA w w.heap.size (w.heap.size+1) (lastD E) wx)
  case first =>
   clear hK1
   by_cases h0:0<E.length
   ·rw [decide_eq_true h0]
    obtain ⟨n,hn⟩:∃ n,E.length=n+1:=⟨E.length-1,by omega⟩
    obtain ⟨e,he⟩:∃ e,E[n]?=some e:=⟨_,List.getElem?_eq_getElem (by omega)⟩
    have HLD:=hide (lastD_at hn he)
    obtain ⟨lb,lcap,hlb,hcl⟩:=own_cell (uh H0).log (k:=n) (by omega)
    rw [uh HLV] at hlb
    injection hlb with hlb1 _ _
    subst hlb1
    have hlbz:lb<w.heap.size:=((uh H0).log.lt lb (by rw [uh HLV];rfl)).2
    have hce:w1.cell? ⟨lb,n,none⟩=some (.string e):=((uh HA).kept.cell (p:=⟨lb,n,none⟩) hlbz).trans (by rw [hcl,List.getD_eq_getElem?_getD,List.getElem?_map,he];rfl)
    have hesz:e.size≤100000000:=uh HEB e (List.mem_of_getElem? he)
    have hnI:IntKind.i64.wrap ((E.length:Int)-1)=(n:Int):=by rw [wrap_i64_s (by omega) (by omega)];omega
    have hnl:n<E.length:=by omega
    have HDG:=hide (digest_ref e w1.drew (by omega))
    have hdl:(Sha.digest e.data.toList).length=32:=Sha.digest_length _
    clear h0 he hcl hn
    go_upto_region 3 with fail
    refine wp_region_held_drew (S:=fun W=>W.cell? ⟨rp,4,none⟩=some (.slice (some ⟨lb,0,none⟩) E.length lc)∧W.cell? ⟨lb,n,none⟩=some (.string e)) (by kernel_rfl) (⟨hr4,hce⟩) (fun hHeld=>?_)
    refine tkL 3 [(0,some 11,.pointer (some ⟨rp,0,none⟩)),(1,some 12,.pointer (some ⟨rp,0,none⟩)),(2,some 13,.pointer (some ⟨rp,4,none⟩))] (by kernel_rfl) (fun _ _ _ _ _ h=>h) (fun _ _=>by kernel_rfl) hHeld ?_
    simp only [zz0,zz1,zz2,zz4,zz5]
    refine tkG 3 (some 14) (.load 82 (.tmp 13)) 82 none (.slice (some ⟨lb,0,none⟩) E.length lc) (by kernel_rfl) (fun _ _ _ h=>h) (Or.inl ⟨by kernel_rfl,fun W hW=>by simp [execOp,go_sem,hW.1]⟩) hHeld ?_
    simp only [zz0,zz1,zz2]
    refine tkL 3 [(4,some 15,.pointer (some ⟨rp,0,none⟩)),(5,some 16,.pointer (some ⟨rp,0,none⟩)),(6,some 17,.pointer (some ⟨rp,4,none⟩))] (by kernel_rfl) (fun _ _ _ _ _ h=>h) (fun _ _=>by kernel_rfl) hHeld ?_
    simp only [zz0,zz1,zz2,zz4,zz5]
    refine tkG 7 (some 18) (.load 82 (.tmp 17)) 82 none (.slice (some ⟨lb,0,none⟩) E.length lc) (by kernel_rfl) (fun _ _ _ h=>h) (Or.inl ⟨by kernel_rfl,fun W hW=>by simp [execOp,go_sem,hW.1]⟩) hHeld ?_
    simp only [zz0,zz1,zz2]
    refine tkG 8 (some 19) (.call { callee:=.builtin .len,args:=#[.tmp 18],argTypes:=#[82] }) 3 none (.int .i64 (E.length:Int)) (by kernel_rfl) (fun _ _ _ h=>h) (Or.inl ⟨by kernel_rfl,fun W hW=>by go_simp⟩) hHeld ?_
    simp only [zz0,zz1,zz2]
    refine tkG 9 (some 20) (.binOp .sub 3 (.tmp 19) (.const (.int .i64 1)) 3) 3 none (.int .i64 (n:Int)) (by kernel_rfl) (fun _ _ _ h=>h) (Or.inl ⟨by kernel_rfl,fun W hW=>by simp [execOp,go_sem,hnI]⟩) hHeld ?_
    simp only [zz0,zz1,zz2]
    refine tkG 10 (some 21) (.indexAddr 82 (.tmp 14) (.tmp 20)) 0 none (.pointer (some ⟨lb,n,none⟩)) (by kernel_rfl) (fun _ _ _ h=>h) (yieldsIf_index (by kernel_rfl) 82 (.tmp 14) (.tmp 20) rfl (index82 lb n E.length lc hnl) (by kernel_rfl) (by kernel_rfl)) hHeld ?_
    simp only [zz0,zz1,zz2]
    refine tkG 11 (some 22) (.load 9 (.tmp 21)) 9 none (.string e) (by kernel_rfl) (fun _ _ _ h=>h) (Or.inl ⟨by kernel_rfl,fun W hW=>by simp [execOp,go_sem,hW.2]⟩) hHeld ?_
    simp only [zz0,zz1,zz2]
    refine rd1 12 (some 23) (.call { callee:=.value (.func 86),args:=#[.tmp 22],argTypes:=#[9] }) 29 (by kernel_rfl) (fun K hK=>?_)
    go_simp
    refine (uh HDG).mono ?_
    rintro _ w2 ⟨rfl,hk2⟩
    have HK2:=hide (show Kept w1.heap.size w1 w2 from ⟨hk2.os,hk2.output,hk2.size,hk2.block⟩)
    have HA2:=hide ((uh HA).next (uh HK2))
    clear hk2
    have s1:=uh HRP _ (uh HA2).kept
    have s2:w2.cell? ⟨lb,n,none⟩=some (.string e):=((uh HK2).cell (p:=⟨lb,n,none⟩) (World.block_lt_of_cell? _ _ hce)).trans hce
    show K _ w2
    refine hK.out _ _ (⟨s1,s2⟩) (fun hHeld12=>?_)
    clear hK K
    try simp only [zz0,zz1,zz2]
    refine rd1 13 none (.store 29 (.tmp 4) (.tmp 23)) 0 (by kernel_rfl) (fun K hK=>?_)
    refine wp_store_put 29 (.tmp 4) (.tmp 23) rfl (w.heap.size+1) (brow (Sha.digest e.data.toList)) (by kernel_rfl) (by kernel_rfl) 29 (brow (List.replicate 32 0)) (uh HA2).dig (rinfo hdl) (by rw [brow_size,brow_size,hdl];rfl) (brow_one _) ?_
    intro w3 hp3
    have HA3:=hide (show HdA w w.heap.size (w.heap.size+1) (Sha.digest e.data.toList) w3 from ⟨(uh HA2).kept.trans (Kept.of (hp3.below (by omega))),(hp3.other _ (by omega)).trans (uh HA2).res,hp3.row⟩)
    have s3:=uh HRP _ (uh HA3).kept
    have s4:w3.cell? ⟨lb,n,none⟩=some (.string e):=(World.cell?_of_block (hp3.other _ (by show lb≠w.heap.size+1;omega))).trans s2
    clear hp3
    refine hK.out _ _ (⟨s3,s4⟩) (fun hHeld13=>?_)
    clear hK K
    try simp only [zz3]
    refine wpAnyH_done (by kernel_rfl) ?_ _
    go_wp2_with fail
    go_meet
    case rel=>exact by rw [uh HLD];exact uh HA3
   ·rw [decide_eq_false h0]
    have HE0:=hide (show lastD E=List.replicate 32 0 by rw [List.eq_nil_of_length_eq_zero (by omega:E.length=0)];rfl)
    clear h0
    go_wp2_with fail
    go_meet
    case rel=>exact by rw [uh HE0];exact uh HA
  case rest =>
   have HA5:=hide hcut
   have hdl:(lastD E).length=32:=lastD_len E
   have hr5:=uh HRP _ (uh HA5).kept
   clear hcut hr4
   go_upto_region 4 with fail
   refine wp_region_held_drew (S:=fun W=>W.heap[w.heap.size+1]?=some (.cells (brow (lastD E)) 29 (0,0))∧W.cell? ⟨rp,4,none⟩=some (.slice la E.length lc)) (by kernel_rfl) (⟨(uh HA5).dig,hr5⟩) (fun hHeld=>?_)
   refine tkL 3 [(0,some 24,.pointer (some ⟨rp,0,none⟩)),(1,some 25,.pointer (some ⟨rp,0,none⟩)),(2,some 26,.pointer (some ⟨rp,4,none⟩))] (by kernel_rfl) (fun _ _ _ _ _ h=>h) (fun _ _=>by kernel_rfl) hHeld ?_
   simp only [zz0,zz1,zz2,zz4,zz5]
   refine tkG 3 (some 27) (.load 82 (.tmp 26)) 82 none (.slice la E.length lc) (by kernel_rfl) (fun _ _ _ h=>h) (Or.inl ⟨by kernel_rfl,fun W hW=>by simp [execOp,go_sem,hW.2]⟩) hHeld ?_
   simp only [zz0,zz1,zz2]
   refine tkG 4 (some 28) (.call { callee:=.builtin .len,args:=#[.tmp 27],argTypes:=#[82] }) 3 none (.int .i64 (E.length:Int)) (by kernel_rfl) (fun _ _ _ h=>h) (Or.inl ⟨by kernel_rfl,fun W hW=>by go_simp⟩) hHeld ?_
   simp only [zz0,zz1,zz2]
   refine tkG 5 (some 29) (.load 29 (.tmp 4)) 29 none (.agg (brow (lastD E)).toList.toArray) (by kernel_rfl) (fun _ _ _ h=>h) (yieldsIf_load_mid (by kernel_rfl) 29 (.tmp 4) rfl (w.heap.size+1) 0 (by kernel_rfl) (brow (lastD E)).toList _ (fun W hW=>row_range hW.1) Tryz.underlying29 rfl (by rw [Array.length_toList];exact rinfo hdl)) hHeld ?_
   simp only [zz0,zz1,zz2]
   refine tkP 6 (some 2) (.int .i64 (E.length:Int)) (by kernel_rfl) (fun _ _ _ h=>h) (fun _ _=>by kernel_rfl) hHeld ?_
   simp only [zz0,zz1,zz2]
   refine rd1 7 none (.store 29 (.tmp 3) (.tmp 29)) 0 (by kernel_rfl) (fun K hK=>?_)
   refine wp_store_put 29 (.tmp 3) (.tmp 29) rfl w.heap.size (brow (lastD E)) (by kernel_rfl) (by kernel_rfl) 29 (brow (List.replicate 32 0)) (uh HA5).res (rinfo hdl) (by rw [brow_size,brow_size,hdl];rfl) (brow_one _) ?_
   intro w3 hp3
   have HR3:=hide hp3.row
   have HK3:=hide (show Kept w.heap.size w w3 from (uh HA5).kept.trans (show Kept w.heap.size wc w3 from by have hb:=Kept.of (Put.below (w:=wc.drew) hp3 (Nat.le_refl _));exact ⟨hb.os,hb.output,hb.size,hb.block⟩))
   have s3:w3.heap[w.heap.size+1]?=some (.cells (brow (lastD E)) 29 (0,0)):=(hp3.other _ (by omega)).trans (uh HA5).dig
   have s4:=uh HRP _ (uh HK3)
   clear hp3
   refine hK.out _ _ (⟨s3,s4⟩) (fun hHeld7=>?_)
   clear hK K
   try simp only [zz3]
   refine wpAnyH_done (by kernel_rfl) ?_ _
   go_wp2_with fail
   refine hdr_ret rfl rfl (uh HR3) hdl ?_
   exact ⟨rfl,uh HK3⟩
end Go.Proofs.YtlbacbcenejngaaGreatDoor
namespace Go.Proofs.YtlbacbcenejngaaGreatDoor
open Go.RowKit
def rnEnd (B:Nat) (w:World) (key root:ByteArray) (n:Nat) (e:Ending) (w':World):Prop :=
 ∃ rp g,e=.returned (.pointer (some ⟨rp,0,none⟩))∧RVAt B w' rp g key root [] [(root,⟨.empty,7⟩)] [] (List.replicate n 0)∧Kept w.heap.size w w'∧∀ k,Rft rp g [] k→w.heap.size≤k
set_option maxRecDepth 100000 in
set_option maxHeartbeats 4000000 in
theorem new_ref (B:Nat) (w:World) (key root:ByteArray) (n:Nat) (hn:n≤1000) (hB:B≤w.heap.size) :
  Calls Tryz.prog 50 #[.string key,.string root,.int .i64 (n:Int)] w (rnEnd B w key root n):=by
 have hm:=make_ints n (n:Int) rfl (by omega) w
 have hrep:(List.replicate n 0).map (fun n:Nat=>Value.int .i64 (n:Int))=List.replicate n (Value.int .i64 0):=by rw [List.map_replicate];rfl
 have HOWN:=hide (own_new w B 3 (List.replicate n (Value.int .i64 0)) n (by simp) hB (by unfold maxLen;omega))
 rw [List.toArray_replicate] at HOWN
 go_enter Tryz.func50,Tryz.ntmps50
 go_upto_region 2 with fail
 obtain ⟨w1,hw1⟩:∃ w1,w1=(w.alloc (.cells (Array.replicate n (Value.int .i64 0)) 3)).alloc (.cells #[.string key,.string root,.slice none 0 0,.slice none 0 0,.slice none 0 0,.slice (some ⟨w.heap.size,0,none⟩) n n] 153):=⟨_,rfl⟩
 rw [← hw1]
 have HR1:=hide (show RVAt B w1 (w.heap.size+1) ⟨.slice none 0 0,.slice none 0 0,.slice none 0 0,.slice (some ⟨w.heap.size,0,none⟩) n n⟩ key root [] [] [] (List.replicate n 0) from by
  rw [hw1]
  refine ⟨?_,World.ownsRow_nil _ _ _ _,fun c hc=>(nomatch hc),World.ownsRow_nil _ _ _ _,World.ownsRow_nil _ _ _ _,?_,by omega⟩
  ·exact alloc_snd _ _ _
  ·rw [List.length_replicate,hrep]
   exact (uh HOWN).alloc _)
 have HK1:=hide (show Kept w.heap.size w w1 by rw [hw1];exact ((Kept.refl _ _).alloc (Nat.le_refl _) _).alloc (by simp) _)
 have hz1:w.heap.size≤w1.heap.size:=by rw [hw1];simp;omega
 clear hw1 hm HOWN
 have hc3:w1.cell? ⟨w.heap.size+1,3,none⟩=some (.slice none 0 0):=((uh HR1).c 3).trans rfl
 have HSRC:=hide (show SrcAt tkcell (w1.alloc (.cells #[.string root,.string ⟨#[]⟩,.int .i64 7] 155)) (.slice (some ⟨w1.heap.size,0,none⟩) 1 1) [(root,(⟨.empty,7⟩:Tok))] from src_new (f:=tkcell) w1 (root,⟨.empty,7⟩) 155)
 have hB1:B≤(w1.alloc (.cells #[.string root,.string ⟨#[]⟩,.int .i64 7] 155)).heap.size:=by rw [World.size_alloc];omega
 have hk1:Kept w1.heap.size w1 (w1.alloc (.cells #[.string root,.string ⟨#[]⟩,.int .i64 7] 155)):=(Kept.refl _ _).alloc (Nat.le_refl _) _
 have HKA:=hide hk1
 clear hk1 hrep
 go_wp2_with (refine wpList_halt2 (.tmp 18) (.tmp 21) 151 rfl ?_)
 refine Stp.mk ?_
 refine wpList_append_all wideTok rfl (.tmp 18) (.tmp 21) rfl B (.slice none 0 0) [] [(root,(⟨.empty,7⟩:Tok))] rfl (World.ownsRow_nil _ _ _ _) (.slice (some ⟨w1.heap.size,0,none⟩) 1 1) rfl (uh HSRC) (oneTok _) (by simp) hB1 ?_
 intro v1 w2 ho1 hg1 hb1
 rw [List.nil_append] at ho1
 obtain ⟨va,vc,hv1,_,_⟩:=own_len ho1
 have hk2:Kept w1.heap.size w1 w2:=(uh HKA).trans ((show Kept (w1.alloc (.cells #[.string root,.string ⟨#[]⟩,.int .i64 7] 155)).heap.size (w1.alloc (.cells #[.string root,.string ⟨#[]⟩,.int .i64 7] 155)) w2 from ⟨hg1.os,hg1.output,hg1.size,fun k hk=>hg1.block k hk (by simp [Value.ownBlock])⟩).mono (uh HKA).size)
 have HNEW:=hide (show ∀ k,v1.ownBlock=some k→w.heap.size≤k from fun k hk=>by
  rcases hb1 with e | e
  ·rw [e] at hk;cases hk
  ·rw [e] at hk;simp at hk;omega)
 have HR2:=hide ((uh HR1).keep hk2)
 have HK2:=hide ((uh HK1).trans (hk2.mono (uh HK1).size))
 have HO1:=hide ho1
 have hc32:w2.cell? ⟨w.heap.size+1,3,none⟩=some (.slice none 0 0):=((uh HR2).c 3).trans rfl
 have hf32:w2.frozen? ⟨w.heap.size+1,3,none⟩=false:=frozen_of_row _ _ _ _ _ (uh HR2).at'
 subst hv1
 clear ho1 hg1 hb1 hk2
 have HR3:=hide ((uh HR2).setF (j:=3) (v':=.slice va [(root,(⟨.empty,7⟩:Tok))].length vc) (g':=⟨.slice none 0 0,.slice va [(root,(⟨.empty,7⟩:Tok))].length vc,.slice none 0 0,.slice (some ⟨w.heap.size,0,none⟩) n n⟩) rfl (uh HR2).sec (uh HR2).ver (uh HO1) (uh HR2).log (uh HR2).hav)
 have HK3:=hide ((uh HK2).setCell (p:=⟨w.heap.size+1,3,none⟩) (by show w.heap.size≤w.heap.size+1;omega) (.slice va [(root,(⟨.empty,7⟩:Tok))].length vc))
 simp only [zz0,zz1,zz2]
 generalize [(root,(⟨.empty,7⟩:Tok))].length=m at *
 go_upto_region 3 with fail
 generalize w2.setCell ⟨w.heap.size+1,3,none⟩ (.slice va m vc)=w3 at HR3 HK3 ⊢
 go_wp2_with fail
 go_ret
 refine ⟨_,_,rfl,uh HR3,uh HK3,fun k hk=>?_⟩
 rcases hk with hk | hk | hk | hk | hk | ⟨c,hc,hk⟩
 ·omega
 ·cases hk
 ·exact uh HNEW k hk
 ·cases hk
 ·have hwk:w.heap.size=k:=Option.some.inj hk
  omega
 ·cases hc
end Go.Proofs.YtlbacbcenejngaaGreatDoor
namespace Go.Proofs.YtlbacbcenejngaaGreatDoor
open Go.RowKit
theorem grown_stay' {w w':World} {v:Value} {B n e:Nat} {xs:List Value} (h:w.ownsRow B e 1 v n xs) (hg:w.grownBy w' v.ownBlock):Stay [e+1] w w':=fun k m hk hn=>hg.block k (knd_lt hk) fun e'=>by
 have:=(show TyAt w k e from own_ty h e'.symm).knd
 rw [hk] at this;cases this;exact hn (by simp)
theorem own_over {w w':World} {B e n:Nat} {v:Value} {xs:List Value} (h:w.ownsRow B e 1 v n xs) {l:List Nat} (hs:Stay l w w') (hl:e+1∉l):w'.ownsRow B e 1 v n xs:=own_blocks h fun k hk=>hs k _ (show TyAt w k e from own_ty h hk).knd hl
theorem fam_over {w w':World} {B T:Nat} {SL:List (Loc Snk)} (hT:T≠3) (h:Fam (PS B T) w SL) {l:List Nat} (hs:Stay l w w') (hl:T+1∉l∧4∉l):Fam (PS B T) w' SL:=h.frame (wayS B T hT) (fun k hk _=>hs k _ hk.knd hl.1) (fun k hk _=>hs k _ hk.knd hl.2)
theorem fam_add {w:World} {B T q:Nat} {SL:List (Loc Snk)} (h:Fam (PS B T) w SL) (hs:SAt B T w q (.slice none 0 0) snk0) (hB:B≤q) (hq:∀ e∈SL,e.p≠q):Fam (PS B T) w (SL++[⟨q,.slice none 0 0,snk0⟩]):=by
 refine ⟨fun e he=>?_,List.pairwise_append.2 ⟨h.ne,by simp,fun a ha b hb=>?_⟩⟩
 ·rcases List.mem_append.1 he with he | he
  ·exact h.each e he
  ·rw [List.mem_singleton.1 he];exact ⟨hs,hB⟩
 ·rw [List.mem_singleton.1 hb]
  exact ⟨hq a ha,fun k _ e=>by cases e⟩
def oCells (dp:Nat) (lv:Value) (key root:ByteArray) (rv:Value):Array Value:=#[.pointer none,.pointer (some ⟨dp,0,none⟩),lv,.string key,.string root,.pointer none,rv,.bool false,.bool false]
structure OpP (B:Nat) (w:World) (sp dp:Nat) (dv:Value) (key root:ByteArray) (SL:List (Loc Snk)) (lv:Value) (RL:List (Loc Snk)) (rv:Value) (wr:World):Prop where
 at':wr.heap[sp]?=some (.cells (oCells dp lv key root rv) 102 (0,0))
 row:wr.ownsRow w.heap.size 41 1 lv SL.length (pcells (SL.map (·.p)))
 snk:Fam (PS B 81) wr SL
 new:∀ e∈SL,e.x=snk0∧w.heap.size≤e.p∧e.v=.slice none 0 0
 rrow:wr.ownsRow w.heap.size 103 1 rv RL.length (pcells (RL.map (·.p)))
 rsnk:Fam (PS B 105) wr RL
 rnew:∀ e∈RL,e.x=snk0∧w.heap.size≤e.p∧e.v=.slice none 0 0
 dsk:DAt B 117 149 wr dp dv dsk0
 dge:w.heap.size≤dp∧∀ k,dv.ownBlock=some k→w.heap.size≤k
 sge:w.heap.size≤sp
 kept:Kept w.heap.size w wr
section
variable {B:Nat} {w wr wx wy:World} {sp dp:Nat} {dv:Value} {key root:ByteArray} {SL RL:List (Loc Snk)} {lv rv:Value}
theorem OpP.next (h:OpP B w sp dp dv key root SL lv RL rv wr) (hk:Kept wr.heap.size wr wx):OpP B w sp dp dv key root SL lv RL rv wx :=
 ⟨(hk.block _ (Array.getElem?_eq_some_iff.1 h.at').1).trans h.at',own_kept h.row hk,h.snk.kept (wayS B 81 (by decide)) hk,h.new,own_kept h.rrow hk,h.rsnk.kept (wayS B 105 (by decide)) hk,h.rnew,h.dsk.kept hk,h.dge,h.sge,h.kept.trans (hk.mono h.kept.size)⟩
theorem OpP.c (h:OpP B w sp dp dv key root SL lv RL rv wr) (j:Nat):wr.cell? ⟨sp,j,none⟩=(oCells dp lv key root rv)[j]?:=cell_of_row _ _ _ _ _ _ h.at'
theorem OpP.lt (h:OpP B w sp dp dv key root SL lv RL rv wr):sp<wr.heap.size:=(Array.getElem?_eq_some_iff.1 h.at').1
theorem OpP.addS (h:OpP B w sp dp dv key root SL lv RL rv wr) (hB:B≤w.heap.size) {q:Nat} (hs:SAt B 81 wr q (.slice none 0 0) snk0) (hq:w.heap.size≤q) (hne:∀ e∈SL,e.p≠q) {v6:Value} (ho:wx.ownsRow w.heap.size 41 1 v6 (SL.length+1) (pcells (SL.map (·.p)++[q]))) (hg:wr.grownBy wx lv.ownBlock) :
  OpP B w sp dp dv key root (SL++[⟨q,.slice none 0 0,snk0⟩]) v6 RL rv (wx.setCell ⟨sp,2,none⟩ v6)∧wx.heap[sp]?=some (.cells (oCells dp lv key root rv) 102 (0,0)):=by
 have hst:=grown_stay' h.row hg
 have hat:=row_over h.at' hst (by decide)
 have hT:TyAt wx sp 102:=⟨_,hat⟩
 have hs2:Stay [42,103] wr (wx.setCell ⟨sp,2,none⟩ v6):=(hst.trans (stay_one (l:=[103]) hT.knd (fun k hne _=>heap_setCell_other _ _ _ _ hne) (by decide))).mono (by simp)
 have hsn:SAt B 81 (wx.setCell ⟨sp,2,none⟩ v6) q (.slice none 0 0) snk0:=⟨row_over hs.at' hs2 (by decide),World.ownsRow_nil _ _ _ _⟩
 refine ⟨⟨by rw [heap_setCell_same _ _ _ _ _ _ hat];rfl,?_,fam_add (fam_over (by decide) h.snk hs2 (by decide)) hsn (by omega) hne,fun e he=>?_,own_over h.rrow hs2 (by decide),fam_over (by decide) h.rsnk hs2 (by decide),h.rnew,h.dsk.over hs2 (by decide),h.dge,h.sge,h.kept.trans ⟨hg.os,hg.output,by rw [World.size_setCell];exact hg.size,fun k hk=>?_⟩⟩,hat⟩
 ·rw [List.length_append,List.map_append]
  exact own_blocks ho fun k hk=>heap_setCell_other _ _ _ _ fun e=>(show TyAt wx k 41 from own_ty ho hk).ne hT (by decide) e
 ·rcases List.mem_append.1 he with he | he
  ·exact h.new e he
  ·rw [List.mem_singleton.1 he];exact ⟨rfl,hq,rfl⟩
 ·have:=h.sge
  have hz:=h.kept.size
  rw [heap_setCell_other _ _ _ _ (by show k≠sp;omega)]
  exact hg.block k (by omega) fun e=>by have:=(h.row.lt k e.symm).1;omega
theorem OpP.addR (h:OpP B w sp dp dv key root SL lv RL rv wr) (hB:B≤w.heap.size) {q:Nat} (hs:SAt B 105 wr q (.slice none 0 0) snk0) (hq:w.heap.size≤q) (hne:∀ e∈RL,e.p≠q) {v6:Value} (ho:wx.ownsRow w.heap.size 103 1 v6 (RL.length+1) (pcells (RL.map (·.p)++[q]))) (hg:wr.grownBy wx rv.ownBlock) :
  OpP B w sp dp dv key root SL lv (RL++[⟨q,.slice none 0 0,snk0⟩]) v6 (wx.setCell ⟨sp,6,none⟩ v6)∧wx.heap[sp]?=some (.cells (oCells dp lv key root rv) 102 (0,0)):=by
 have hst:=grown_stay' h.rrow hg
 have hat:=row_over h.at' hst (by decide)
 have hT:TyAt wx sp 102:=⟨_,hat⟩
 have hs2:Stay [104,103] wr (wx.setCell ⟨sp,6,none⟩ v6):=(hst.trans (stay_one (l:=[103]) hT.knd (fun k hne _=>heap_setCell_other _ _ _ _ hne) (by decide))).mono (by simp)
 have hsn:SAt B 105 (wx.setCell ⟨sp,6,none⟩ v6) q (.slice none 0 0) snk0:=⟨row_over hs.at' hs2 (by decide),World.ownsRow_nil _ _ _ _⟩
 refine ⟨⟨by rw [heap_setCell_same _ _ _ _ _ _ hat];rfl,own_over h.row hs2 (by decide),fam_over (by decide) h.snk hs2 (by decide),h.new,?_,fam_add (fam_over (by decide) h.rsnk hs2 (by decide)) hsn (by omega) hne,fun e he=>?_,h.dsk.over hs2 (by decide),h.dge,h.sge,h.kept.trans ⟨hg.os,hg.output,by rw [World.size_setCell];exact hg.size,fun k hk=>?_⟩⟩,hat⟩
 ·rw [List.length_append,List.map_append]
  exact own_blocks ho fun k hk=>heap_setCell_other _ _ _ _ fun e=>(show TyAt wx k 103 from own_ty ho hk).ne hT (by decide) e
 ·rcases List.mem_append.1 he with he | he
  ·exact h.rnew e he
  ·rw [List.mem_singleton.1 he];exact ⟨rfl,hq,rfl⟩
 ·have:=h.sge
  have hz:=h.kept.size
  rw [heap_setCell_other _ _ _ _ (by show k≠sp;omega)]
  exact hg.block k (by omega) fun e=>by have:=(h.rrow.lt k e.symm).1;omega
theorem OpP.stop (h:OpP B w sp dp dv key root SL lv RL rv wr) {v':Value} (hd:DAt B 117 149 wx dp v' dsk0) (hu:Upd dp dv v' wr wx):OpP B w sp dp v' key root SL lv RL rv wx:=by
 have hst:=hu.stayD h.dsk
 refine ⟨row_over h.at' hst (by decide),own_over h.row hst (by decide),fam_over (by decide) h.snk hst (by decide),h.new,own_over h.rrow hst (by decide),fam_over (by decide) h.rsnk hst (by decide),h.rnew,hd,⟨h.dge.1,fun k hk=>?_⟩,h.sge,h.kept.trans (hu.keptB h.kept.size h.dge.1 h.dge.2)⟩
 rcases hu.new k hk with e | e
 ·exact h.dge.2 k e
 ·have:=h.kept.size;omega
theorem all_snk0 {SL:List (Loc Snk)} (h:∀ e∈SL,e.x=snk0):SL.map (·.x)=List.replicate SL.length snk0:=by
 apply List.ext_getElem?
 intro i
 rw [List.getElem?_map,List.getElem?_replicate]
 by_cases hi:i<SL.length
 ·rw [List.getElem?_eq_getElem hi,if_pos hi,Option.map_some,h _ (List.getElem_mem hi)]
 ·rw [List.getElem?_eq_none (by omega),if_neg hi];rfl
theorem OpP.post {n vp rp:Nat} {g:VG} {rg:RG} (h:OpP B w sp dp dv key root SL lv RL rv wr) (hB:B≤w.heap.size) (hlen:RL.length=SL.length) (hl4:1≤SL.length∧SL.length≤4) (hk:key.size≤1100000) (hn:n≤4194304)
  (hv:VAt B wr vp g (vlt0 key root (SL.map (·.x)))) (hgs:g.SL=SL) (hgd:g.dp=dp) {z:Nat} (hz0:sp<z∧(∀ k,lv.ownBlock=some k→k<z)∧dp<z) (hvf:∀ k,Vft vp g k→(k=dp∨dv.ownBlock=some k∨∃ e∈SL,e.p=k∨e.v.ownBlock=some k)∨z≤k)
  (hk9:Kept wr.heap.size (wr.setCell ⟨sp,0,none⟩ (.pointer (some ⟨vp,0,none⟩))) wx) (hr:RVAt B wx rp rg key root [] [(root,⟨.empty,7⟩)] [] (List.replicate SL.length 0)) (hrf:∀ k,Rft rp rg [] k→wr.heap.size≤k) :
  PAt B (wx.setCell ⟨sp,5,none⟩ (.pointer (some ⟨rp,0,none⟩))) n ⟨sp,vp,g,lv,rp,rg,rv,RL,vlt0 key root (SL.map (·.x)),[],[],List.replicate SL.length 0⟩∧Kept w.heap.size w (wx.setCell ⟨sp,5,none⟩ (.pointer (some ⟨rp,0,none⟩))) ∧
  ∀ k,Pft ⟨sp,vp,g,lv,rp,rg,rv,RL,vlt0 key root (SL.map (·.x)),[],[],List.replicate SL.length 0⟩ k→w.heap.size≤k:=by
 have hT:TyAt wr sp 102:=⟨_,h.at'⟩
 have at8:(wr.setCell ⟨sp,0,none⟩ (.pointer (some ⟨vp,0,none⟩))).heap[sp]?=some (.cells #[.pointer (some ⟨vp,0,none⟩),.pointer (some ⟨dp,0,none⟩),lv,.string key,.string root,.pointer none,rv,.bool false,.bool false] 102 (0,0)):=by rw [heap_setCell_same _ _ _ _ _ _ h.at'];rfl
 have at9:=(hk9.block sp h.lt).trans at8
 have hT9:TyAt wx sp 102:=⟨_,at9⟩
 have hall:∀ k,k<wr.heap.size→k≠sp→(wx.setCell ⟨sp,5,none⟩ (.pointer (some ⟨rp,0,none⟩))).heap[k]?=wr.heap[k]?:=fun k hk hne=>(heap_setCell_other _ _ _ _ hne).trans ((hk9.block k hk).trans (heap_setCell_other _ _ _ _ hne))
 have hst:Stay [103] wr (wx.setCell ⟨sp,5,none⟩ (.pointer (some ⟨rp,0,none⟩))):=fun k m hm hn=>hall k (knd_lt hm) fun e=>by
  subst e
  have:=hT.knd
  rw [hm] at this;cases this;exact hn (by simp)
 have hrl:∀ k,RSft rv RL k→k<wr.heap.size∧w.heap.size≤k∧(TyAt wr k 103∨TyAt wr k 105):=fun k hk=>by
  rcases hk with hk | ⟨e,he,hk⟩
  ·have:=h.rrow.lt k hk
   exact ⟨this.2,this.1,.inl (own_ty h.rrow hk)⟩
  ·rcases hk with rfl | hk
   ·have:=(wayS B 105 (by decide)).ty (h.rsnk.each e he)
    exact ⟨this.lt,(h.rnew e he).2.1,.inr this⟩
   ·rw [(h.rnew e he).2.2] at hk;cases hk
 have hvo:∀ k,Vft vp g k→(k=dp∨TyAt wr k 149∨TyAt wr k 81)∨z≤k:=fun k hk=>by
  rcases hvf k hk with (rfl | e | ⟨x,hx,e⟩) | e
  ·exact .inl (.inl rfl)
  ·exact .inl (.inr (.inl (own_ty h.dsk.own e)))
  ·rcases e with rfl | e
   ·exact .inl (.inr (.inr ((wayS B 81 (by decide)).ty (h.snk.each x hx))))
   ·rw [(h.new x hx).2.2] at e;cases e
  ·exact .inr e
 have hdT:TyAt wr dp 117:=⟨_,h.dsk.at'⟩
 have hfoot:=fun {k} (hk:Vft vp g k)=>(hv.foot hk).1
 have hz:=h.kept.size
 refine ⟨⟨?_,?_,?_,?_,?_,by show B≤sp;have:=h.sge;omega,fun k hk e=>?_,fun k hk e=>?_,fun k hk e=>?_,(vlt0_bnd (by simpa using hl4) hk (fun k hk=>by obtain ⟨e,he,rfl⟩:=List.mem_map.1 hk;exact (h.new e he).1)).mono (Nat.zero_le _) hn,⟨fun p hp=>(nomatch hp),fun t ht=>?_⟩,rfl,?_,⟨by simp [hlen],fun j x m hx hm=>?_⟩⟩,?_,fun k hk=>?_⟩
 ·show (wx.setCell _ _).heap[sp]?=_
  rw [heap_setCell_same _ _ _ _ _ _ at9]
  simp only [PG.cells,hgd,vlt0,sto0]
  rfl
 ·show (wx.setCell _ _).ownsRow B 41 1 lv g.SL.length (pcells (g.SL.map (·.p)))
  rw [hgs]
  exact own_over (own_less h.row hB) hst (by decide)
 ·exact hv.stay fun k hk=>by
   obtain ⟨m,hm,e⟩:=hv.knd hk
   exact hst k m e (by simp at hm ⊢;omega)
 ·exact hr.stay fun k hk=>heap_setCell_other _ _ _ _ (by have:=hrf k hk;have:=h.lt;show k≠sp;omega)
 ·refine ⟨?_,fam_over (by decide) h.rsnk hst (by decide)⟩
  have:=own_over (own_less h.rrow hB) hst (by decide)
  rwa [show pcells (RL.map (·.p))=RL.map fun e=>Value.pointer (some ⟨e.p,0,none⟩) by rw [pcells,List.map_map];rfl] at this
 ·have hkz:k<z∧k<wr.heap.size∧(TyAt wr k 102∨TyAt wr k 41):=by
   rcases hk with hk | hk
   ·have hk':k=sp:=hk
    subst hk'
    exact ⟨hz0.1,h.lt,.inl hT⟩
   ·exact ⟨hz0.2.1 k hk,(h.row.lt k hk).2,.inr (own_ty h.row hk)⟩
  rcases e with e | e | e
  ·rcases hvo k e with (e | e | e) | e
   ·subst e
    rcases hkz.2.2 with t | t
    ·exact t.ne hdT (by decide) rfl
    ·exact t.ne hdT (by decide) rfl
   ·rcases hkz.2.2 with t | t
    ·exact t.ne e (by decide) rfl
    ·exact t.ne e (by decide) rfl
   ·rcases hkz.2.2 with t | t
    ·exact t.ne e (by decide) rfl
    ·exact t.ne e (by decide) rfl
   ·omega
  ·have:=hrf k e;omega
  ·rcases (hrl k e).2.2 with t' | t'
   ·rcases hkz.2.2 with t | t
    ·exact t.ne t' (by decide) rfl
    ·exact t.ne t' (by decide) rfl
   ·rcases hkz.2.2 with t | t
    ·exact t.ne t' (by decide) rfl
    ·exact t.ne t' (by decide) rfl
 ·have hkl:=hfoot hk
  rcases e with e | e
  ·have:=hrf k e;omega
  ·obtain ⟨m,hm,hkn⟩:=hv.knd hk
   rcases (hrl k e).2.2 with t | t
   ·rw [t.knd] at hkn;cases hkn;simp at hm
   ·rw [t.knd] at hkn;cases hkn;simp at hm
 ·have:=hrf k e
  have:=(hrl k hk).1
  omega
 ·have ht':t∈[(root,(⟨.empty,7⟩:Tok))]:=ht
  rw [List.mem_singleton.1 ht'];show (7:UInt8).toNat≤7;decide
 ·show RL.map (·.x)=SL.map (·.x)
  rw [all_snk0 fun e he=>(h.rnew e he).1,all_snk0 fun e he=>(h.new e he).1,hlen]
 ·have hx':RL[j]?=some x:=hx
  have hm':(List.replicate SL.length 0)[j]?=some m:=hm
  rw [List.getElem?_replicate] at hm'
  split at hm'
  ·cases hm'
   refine ⟨Nat.le_refl _,?_⟩
   rw [(h.rnew x (List.mem_of_getElem? hx')).1];rfl
  ·cases hm'
 ·refine h.kept.trans ⟨hk9.os,hk9.output,by have:=hk9.size;simp only [World.size_setCell] at this ⊢;exact this,fun k hk=>hall k (by omega) (by have:=h.sge;omega)⟩
 ·rcases hk with hk | hk | hk | hk | hk
  ·have hk':k=sp:=hk
   have:=h.sge;omega
  ·exact (h.row.lt k hk).1
  ·rcases hvf k hk with (e | e | ⟨x,hx,e⟩) | e
   ·have:=h.dge.1;omega
   ·exact h.dge.2 k e
   ·rcases e with e | e
    ·have:=(h.new x hx).2.1;omega
    ·rw [(h.new x hx).2.2] at e;cases e
   ·have h1:=hz0.1
    have:=h.sge;omega
  ·have:=hrf k hk;omega
  ·exact (hrl k hk).2.1
end
theorem PW.add {B:Nat} {w w':World} {n wp:Nat} {pl pl':Value} {A:List PG} {a:PG} (h:PW B w wp pl n A) (ha:PAt B w n a) (hne:∀ (i:Nat) (b:PG),A[i]?=some b→∀ k,Pft b k→¬ Pft a k) (hout:∀ k,(k=wp∨pl.ownBlock=some k)→¬ Pft a k) (_hB:B≤w.heap.size)
  (ho:w'.ownsRow B 98 1 pl' (A.length+1) (pcells (A.map (·.p)++[a.p]))) (hg:w.grownBy w' pl.ownBlock) (hb:pl'.ownBlock=pl.ownBlock∨pl'.ownBlock=some w.heap.size) :
  PW B (w'.setCell ⟨wp,0,none⟩ pl') wp pl' n (A++[a])∧Chg (fun k=>k=wp∨pl.ownBlock=some k) w (w'.setCell ⟨wp,0,none⟩ pl')∧w'.heap[wp]?=some (.cells #[pl] 64 (0,0)):=by
 have hst:=grown_stay' h.row hg
 have hat:=row_over h.at' hst (by decide)
 have hT:TyAt w' wp 64:=⟨_,hat⟩
 have hall:∀ k,k<w.heap.size→¬ (k=wp∨pl.ownBlock=some k)→(w'.setCell ⟨wp,0,none⟩ pl').heap[k]?=w.heap[k]?:=fun k hk hn=>(heap_setCell_other _ _ _ _ fun e=>hn (.inl e)).trans (hg.block k hk fun e=>hn (.inr e.symm))
 have at_app:∀ (j:Nat) (b:PG),(A++[a])[j]?=some b→(A[j]?=some b)∨(j=A.length∧b=a):=fun j b hj=>by
  rcases Nat.lt_or_ge j A.length with e | e
  ·rw [List.getElem?_append_left e] at hj;exact .inl hj
  ·rw [List.getElem?_append_right e] at hj
   rcases Nat.eq_zero_or_pos (j-A.length) with e2 | e2
   ·rw [e2] at hj;exact .inr ⟨by omega,(Option.some.inj hj).symm⟩
   ·rw [List.getElem?_eq_none (by rw [List.length_singleton];omega)] at hj;cases hj
 refine ⟨⟨by rw [heap_setCell_same _ _ _ _ _ _ hat];rfl,?_,fun j b hj=>?_,fun j1 j2 b1 b2 hn hj1 hj2 k hk hk'=>?_,fun j b hj k hk hk'=>?_,h.ge⟩,⟨hg.os,hg.output,by rw [World.size_setCell];exact hg.size,fun k hk hn=>hall k hk hn⟩,hat⟩
 ·have:=own_blocks ho (w':=w'.setCell ⟨wp,0,none⟩ pl') fun k hk=>heap_setCell_other _ _ _ _ fun e=>(show TyAt w' k 98 from own_ty ho hk).ne hT (by decide) e
  rw [List.length_append]
  rwa [show pcells (A.map (·.p)++[a.p])=(A++[a]).map fun a=>Value.pointer (some ⟨a.p,0,none⟩) by simp [pcells,Function.comp]] at this
 ·rcases at_app j b hj with e | ⟨_,rfl⟩
  ·exact (h.each j b e).stay fun k hk=>hall k ((h.each j b e).foot hk).1 fun e'=>h.out j b e k e' hk
  ·exact ha.stay fun k hk=>hall k (ha.foot hk).1 fun e'=>hout k e' hk
 ·rcases at_app j1 b1 hj1 with e1 | ⟨e1,rfl⟩
  ·rcases at_app j2 b2 hj2 with e2 | ⟨e2,rfl⟩
   ·exact h.ne j1 j2 b1 b2 hn e1 e2 k hk hk'
   ·exact hne j1 b1 e1 k hk hk'
  ·rcases at_app j2 b2 hj2 with e2 | ⟨e2,rfl⟩
   ·exact hne j2 b2 e2 k hk' hk
   ·omega
 ·have hkl:k<w.heap.size:=by
   rcases at_app j b hj with e | ⟨_,rfl⟩
   ·exact ((h.each j b e).foot hk').1
   ·exact (ha.foot hk').1
  have hk2:k=wp∨pl.ownBlock=some k:=by
   rcases hk with hk | hk
   ·exact .inl hk
   ·rcases hb with e | e
    ·exact .inr (by rw [← e];exact hk)
    ·rw [e] at hk;cases hk;omega
  rcases at_app j b hj with e | ⟨_,rfl⟩
  ·exact h.out j b e k hk2 hk'
  ·exact hout k hk2 hk'
end Go.Proofs.YtlbacbcenejngaaGreatDoor
