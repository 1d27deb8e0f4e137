/-
  Contracts for the walks and pure facts, several texts in one: each theorem says what it proves, and under which conditions.
-/
import Derived.Deep.CutRange
import Derived.Sort.OwnSorted
import Derived.Lib.SlicesCompact
import Derived.Shelf.Sort.Plain
import Derived.Shelf.Slices.CompactS
import Derived.Shelf.Slices.In.SortNone
import Derived.Test.YtlfmefojcmpfeaaGreatDoorUT
import Derived.Test.YtlfmefojcmpfeaaGreatDoorU33
set_option linter.unusedSimpArgs false
set_option linter.unusedVariables false
set_option maxHeartbeats 16000000
set_option maxRecDepth 100000
namespace Go.Proofs.YtlfmefojcmpfeaaGreatDoor
open Go.RowKit
theorem skip_open {l:List PickD}: ∀ {left:List NeedD} {n:NeedD} {r:List NeedD},skipD l left=.opn n r→∀ {i:Nat},firstP l n.n=some i→False
 |[],n,r,h,i,hi=>by cases h
 |d::left,n,r,h,i,hi=>by
  unfold skipD at h
  split at h
  ·rename_i h2
   injection h with h3 h4
   subst h3
   rw [h2] at hi
   cases hi
  ·split at h
   ·exact skip_open h hi
   ·cases h
theorem try_step (xs:List EntryD) (Sr:Nat→Prop) (rv:Value) (B0 bw bp br bf bt mb f:Nat) (hwx:wtRow wtEntry xs≤1048576) (hxs: ∀ e∈xs,smallE e) (hx12:xs.length≤12) (hSr: ∀ b,Sr b→b<B0) (IH: ∀ f',f'<f→TryC xs Sr rv B0 bw bp br bf bt mb f'):TryC xs Sr rv B0 bw bp br bf bt mb f:=by
  intro w at0 wv ws pm n s l left hS hreg hat hsay hrel hwok hsm hlen hnf
  have hOS:=open_skip pm l hrel left (ws.drop at0) at0 hsay
  obtain ⟨wq,wc,hwv⟩:=owns_sliceP hS.row.1
  subst hwv
  have HNO:=hidden (nextOpen_c B0 mb n s at0 _ ws pm w hS.row (by omega) hwok hS.map hS.pmok hat)
  obtain ⟨R,hR⟩: ∃ R,R=goOpen pm (ws.drop at0) at0:=⟨_,rfl⟩
  rw [←hR] at HNO hOS
  have cW:=hS.boxw.cell
  have cP:=hS.boxp.cell
  have cR:=hS.boxr.cell
  have HB0:=hidden hS.lows
  have HS:=hidden hS
  have HREG:=hidden hreg
  have HREL:=hidden hrel
  have HSAY:=hidden hsay
  have HOS:=hidden hOS
  have HWOK:=hidden hwok
  have HSM:=hidden hsm
  clear hS hreg hrel hsay hOS hwok hsm hR
  obtain ⟨R1,R2⟩:=R
  unfold ptrV
  go_enter Tryz.func103,Tryz.ntmps103
  go_wp2_with fail
  go_at_call 104
  refine HNO.out.mono ?_
  rintro e w1 ⟨rfl,b1⟩
  have hS1:=HS.out.below b1
  have cW1:=hS1.boxw.cell
  have cR1:=hS1.boxr.cell
  have HS1:=hidden hS1
  have HF1:=hidden (FrT.below (.slice wq ws.length wc:Value).ownBlock b1 HB0.out)
  have hb1s:=b1.size
  clear HNO cW cP cR hS1
  cases hk:skipD l left with
  |bad=>
    have h9:=HOS.out
    rw [hk] at h9
    obtain rfl:R2=false:=h9
    have HW:=hidden (way_bad (xs:=xs) (f:=f) hk)
    clear hk HOS cW1 cR1
    go_wp2_with fail
    go_ret
    refine ⟨_,rfl,HF1.out,?_⟩
    rw [HW.out]
    exact ⟨rfl,_,[],n,s,by rw [List.append_nil];exact HS1.out,.inl rfl,hnf⟩
  |done=>
    have h9:=HOS.out
    rw [hk] at h9
    injection h9 with h8 h7
    subst h7
    have hR1:R1=ws.length:=by rw [h8,List.length_drop];omega
    have HW:=hidden (way_done (xs:=xs) (f:=f) hk)
    subst hR1
    clear h8 hk HOS cR1
    go_wp2_with fail
    go_ret
    refine ⟨_,rfl,HF1.out,?_⟩
    rw [HW.out]
    exact ⟨rfl,pm,n,s,HS1.out.map,HS1.out.pmok,HREL.out,by omega⟩
  |opn nd r=>
    have h9:=HOS.out
    rw [hk] at h9
    obtain ⟨k,h8,hkl,hdr⟩:=h9
    injection h8 with h8 h7
    subst h7
    subst h8
    have hkw:at0+k<ws.length:=by rw [List.length_drop] at hkl;omega
    have hRES:=way_open (xs:=xs) (f:=f) hk
    obtain ⟨at1,hat1⟩: ∃ a,a=at0+k:=⟨_,rfl⟩
    rw [←hat1] at hkw ⊢
    obtain ⟨gw,wcap,hgw⟩:=rowW_some HS.out.row (by omega)
    injection hgw with e1 _ e3
    subst e1
    subst e3
    obtain ⟨p,hp⟩: ∃ p,p=ws[at1]:=⟨_,rfl⟩
    have hpm:p∈ws:=by rw [hp];exact List.getElem_mem hkw
    have hgt:(ws.drop at0)[k]?=some p:=by rw [List.getElem?_drop, ←hat1,List.getElem?_eq_getElem hkw,hp]
    have hln:left[k]?=some nd:=by have h9:=congrArg (·[0]?) hdr;simpa [List.getElem?_drop] using h9
    have hpsay:p.say=wishD nd:=by
      have h9:=congrArg (·[k]?) HSAY.out
      simp only [List.getElem?_map,hgt,hln,Option.map_some,Option.some.injEq] at h9
      exact h9
    have hrsay:(ws.drop (at1+1)).map WC.say=r.map wishD:=by
      have h9:=congrArg (·.drop (k+1)) HSAY.out
      simp only [←List.map_drop,List.drop_drop] at h9
      have h8:left.drop (k+1)=r:=by rw [←List.drop_drop,hdr];rfl
      rw [h8,show at0+(k+1)=at1+1 by omega] at h9
      exact h9
    have hsnd:smallN nd:=HSM.out nd (List.mem_of_getElem? hln)
    have hsmr: ∀ d∈r,smallN d:=fun d hd=>HSM.out d (List.mem_of_mem_drop (i:=k) (by rw [hdr];simp [hd]))
    have hpn:p.name=nd.n:=congrArg Prod.fst hpsay
    have hpd:p.dss=(rangeI nd.r).getD []:=congrArg Prod.snd hpsay
    have hpmn:pm nd.n=none:=by
      have h9:firstP l nd.n=none:=by
        cases hf:firstP l nd.n with
        |none=>rfl
        |some i=>
          exfalso
          exact skip_open hk hf
      exact (rel_none HREL.out).2 h9
    have hfn:firstP l nd.n=none:=(rel_none HREL.out).1 hpmn
    have d0:w1.cell? ⟨gw,at1*2,none⟩=some (.string p.name):=by have h9:=HS1.out.row.cell rfl hkw 0 (by omega);rw [←hp] at h9;exact h9
    have d1:w1.cell? ⟨gw,at1*2+1,none⟩=some p.u:=by have h9:=HS1.out.row.cell rfl hkw 1 (by omega);rw [←hp] at h9;exact h9
    have hro:=HS1.out.row.2 p hpm
    obtain ⟨pq,pc,hpu⟩: ∃ q c,p.u=.slice q p.dss.length c:=by obtain ⟨vs,ls,hs,h1,_⟩:=hro;exact owns_sliceP h1
    rw [hpu] at d1 hro
    obtain ⟨nm,hnm⟩: ∃ x,x=p.name:=⟨_,rfl⟩
    rw [←hnm] at d0
    have hnn:nm=nd.n:=hnm.trans hpn
    have hNe:(at1:Int)≠(ws.length:Int):=by omega
    have cR2: ∀ o,(w1.alloc o).cell? ⟨br,0,none⟩=some rv:=fun o=>(World.cell?_alloc_lt _ _ ⟨br,0,none⟩ HS1.out.boxr.lt.2).trans cR1
    have kN:Below w1.heap.size w1 (w1.alloc (.cells #[.string nm,.slice pq p.dss.length pc] 136)):=(Below.refl _ _).alloc (Nat.le_refl _) _
    have HNF:Hid (∀ W,Below w.heap.size w W→Calls Tryz.prog 14 #[rv,.string nm] W fun e w'=>∃ v' es,e=.returned v'∧RowE W.heap.size w' v' es∧es.map EC.d=newD xs nm∧Below W.heap.size W w'):=fun W h=>implNewest_c Sr rv xs nm W (HREG.out.keep (.of h (fun b hb=>Nat.lt_of_lt_of_le (hSr b hb) HB0.out))) (fun b hb=>Nat.lt_of_lt_of_le (hSr b hb) (Nat.le_trans HB0.out h.size)) hwx (Nat.lt_of_le_of_lt (List.length_filter_le _ _) (by omega))
    have HRO:=hidden hro
    have HRES:=hidden hRES
    have HFN:=hidden hfn
    have HPMN:=hidden hpmn
    have HRSAY:=hidden hrsay
    have HSMR:=hidden hsmr
    have HPD:=hidden hpd
    have HNN:=hidden hnn
    have HK1:=hidden b1
    clear hRES hk hat1 hgt hln hpsay hrsay hsmr hpn hpd hpmn hfn hro hpu hnm hnn hp hdr hkl HOS HSAY HSM cR1
    go_wp2_with fail
    go_at_call 14
    refine (HNF.out _ (HK1.out.trans (kN.mono hb1s))).mono ?_
    rintro e w2 ⟨av,es,rfl,hE,hes,b2⟩
    obtain ⟨N,hN⟩: ∃ N,N=w1.heap.size:=⟨_,rfl⟩
    have hgwl:gw<w1.heap.size:=by simpa using World.block_lt_of_cell? w1 _ d0
    have hNg:(some N:Option Nat)≠some gw:=by intro h;have:=Option.some.inj h;omega
    have hNB:(w1.alloc (.cells #[.string nm,.slice pq p.dss.length pc] 136)).ownsRow 0 136 2 (.slice (some ⟨N,0,none⟩) 1 1) 1 [.string nm,.slice pq p.dss.length pc]:=by rw [hN];exact World.ownsRow_lit w1 #[.string nm,.slice pq p.dss.length pc] 1 (Nat.zero_le _) (by unfold maxLen;omega) rfl
    rw [←hN]
    have hk2:=kN.trans (b2.mono kN.size)
    have hN2:N<w2.heap.size:=by rw [hN];exact Nat.lt_of_lt_of_le (by simp) b2.size
    have hS2:=HS1.out.below hk2
    have HKO:Hid (∀ W,FrT B0 (some gw) w2 W→W.ownsRow 0 136 2 (.slice (some ⟨N,0,none⟩) 1 1) 1 [.string nm,.slice pq p.dss.length pc]∧RangeOwn 0 W (.slice pq p.dss.length pc) p.dss∧RowE 0 W av es∧RowIn shEntry Sr W rv xs):=fun W h=>
      ⟨owns_frT (owns_of_belowN hNB b2) h ⟨by decide,by decide,.inr hNg⟩,(HRO.out.below hk2).frT h,(hE.zero).frT h,(HREG.out.keep (.of (HK1.out.trans (hk2.mono hb1s)) (fun b hb=>Nat.lt_of_lt_of_le (hSr b hb) HB0.out))).keep (fun b hb=>h.low b (hSr b hb))⟩
    have HF2:Hid (FrT B0 (some gw) w w2):=HF1.out.trans (FrT.below (some gw) hk2 (Nat.le_trans HB0.out hb1s)) (.inl rfl)
    obtain ⟨RES,hRW⟩: ∃ R,R=way xs f l left:=⟨_,rfl⟩
    have HRW:=hidden hRW
    have hRS:=hRW.trans HRES.out
    obtain ⟨GO,hGO⟩: ∃ G,G=fun f' (e:EntryD)=>way xs f' (insPick l (pickE nd.n e)) (r++e.needs):=⟨_,rfl⟩
    rw [←hGO, ←restD_zero] at hRS
    have HGO:Hid (∀ f' e,GO f' e=way xs f' (insPick l (pickE nd.n e)) (r++e.needs)):=fun f' e=>by rw [hGO]
    have HRS:=hidden hRS
    have hls:es.length=(newD xs nm).length:=by rw [←hes];simp
    have hml:(newD xs nm).length≤xs.length:=by have h9:=newD_len xs nm xs.length (Nat.le_refl _);rwa [List.take_length] at h9
    obtain ⟨M,hM⟩: ∃ M,M=es.length:=⟨_,rfl⟩
    have hM2:M≤12:=by omega
    obtain ⟨aq,acap,hav⟩: ∃ q c,av=.slice q M c:=by rw [hM];exact owns_sliceP hE.1
    have HAV:Hid (0<M→∃ ga,aq=some ⟨ga,0,none⟩):=fun h=>by
      obtain ⟨ga,c,h9⟩:=rowE_some hE (by omega)
      rw [hav] at h9
      injection h9 with e1 e2 e3
      exact ⟨ga,e1⟩
    subst hav
    have HES:=hidden hes
    have HM:=hidden hM
    have HS2:=hidden hS2
    have HNG:=hidden hNg
    have HIH:=hidden IH
    have HIX:=hidden hxs
    have HWX:Hid (∀ e∈xs,wtRow wtNeed e.needs≤1048576):=fun e he=>by
      have h9:=wt_wtRow wtEntry he
      have h8:wtRow wtNeed e.needs≤wtEntry e:=by unfold wtEntry;omega
      omega
    clear hRW hRS hGO HRES hls hml hM hes hE hNB hk2 kN b2 hS2 hNg HNF hgwl cR2 d0 d1 cW1 hN HS1 HF1 HK1 HREG HRO IH hxs hwx
    go_wp2_with fail
    go_loopw [37] (fun vi wr=>∃ (i fi:Nat) (wvc:Value) (more:List WC) (pmc:ByteArray→Option VC) (nc sc:Nat),i≤M∧vi=.int .i64 (i:Int)∧Hid (fi≤f)∧Hid (TryS B0 bw bp br bf bt mb rv wr fi wvc (ws++more) pmc nc sc)∧Hid (∀ q,q≠nm→pmc q=pm q)∧Hid (FrT B0 (some gw) w2 wr)∧Hid (wvc.ownBlock=some gw∨∀ g,wvc.ownBlock=some g→w2.heap.size≤g)∧Hid (nc+fi≤10000)∧Hid (RES=tryAll GO (restD xs nd i) fi)) (fun vi _=>M-(intOf vi).toNat)
    case atStart=>exact ⟨0,f,_,[],pm,n,s,Nat.zero_le _,rfl,Nat.le_refl _,by show TryS _ _ _ _ _ _ _ _ _ _ _ _ _ _ _;rw [List.append_nil];exact HS2.out,(fun q _=>rfl),(FrT.below (some gw) (Below.refl _ _) HS2.out.lows),.inl rfl,hnf,HRS.out⟩
    case round=>
      clear HRS HS2
      obtain ⟨i,fi,wvc,more,pmc,nc,sc,hi,rfl,hff,hS,hpq,hgr,hgb,hnc,hres⟩:=hrel
      by_cases hlt:i<M
      · obtain ⟨ga,rfl⟩:=HAV.out (by omega)
        obtain ⟨kNB,kRO,kAL,kRG⟩:=HKO.out _ hgr.out
        have hki:(i:Int)<(M:Int):=by omega
        have hie:i<es.length:=by rw [←HM.out];exact hlt
        obtain ⟨q0,x0,q1,x1,f0,f1⟩:=ent_slices (kAL.2 _ (List.getElem_mem hie))
        have hdi:(newD xs nm)[i]?=some es[i].d:=by rw [←HES.out];simp [hie]
        have hc:=fun j (hj:j<6)=>kAL.cell HM.out hie j hj
        have hown:=kAL.2 _ (List.getElem_mem hie)
        obtain ⟨d,hd⟩: ∃ d,d=es[i].d:=⟨_,rfl⟩
        have HOW:Hid (wr.ownsRow 0 9 1 (.slice q0 d.vP.length x0) d.vP.length (strsV d.vP)∧wr.ownsRow 0 39 2 (.slice q1 d.needs.length x1) d.needs.length (needsV d.needs)):=by
          have h9:=hown
          unfold EntOwn at h9
          rw [f0,f1, ←hd] at h9
          exact h9
        rw [←hd] at f0 f1 hdi
        have hxd:=HIX.out d (newD_mem (List.mem_of_getElem? hdi))
        have e0:wr.cell? ⟨ga,i*6,none⟩=some (.string d.name):=by rw [hd];exact hc 0 (by omega)
        have e1:wr.cell? ⟨ga,i*6+1,none⟩=some (.int .i64 d.vA):=by rw [hd];exact hc 1 (by omega)
        have e2:wr.cell? ⟨ga,i*6+2,none⟩=some (.int .i64 d.vB):=by rw [hd];exact hc 2 (by omega)
        have e3:wr.cell? ⟨ga,i*6+3,none⟩=some (.int .i64 d.vC):=by rw [hd];exact hc 3 (by omega)
        have e4:wr.cell? ⟨ga,i*6+4,none⟩=some (.slice q0 d.vP.length x0):=by rw [←f0];exact hc 4 (by omega)
        have e5:wr.cell? ⟨ga,i*6+5,none⟩=some (.slice q1 d.needs.length x1):=by rw [←f1];exact hc 5 (by omega)
        have hvp:bulkS d.vP≤1048576:=by have:=hxd.1;omega
        have n1:wr.cell? ⟨N,1,none⟩=some (.slice pq p.dss.length pc):=kNB.cellAt 1 (by omega)
        have hNw:N<wr.heap.size:=by simpa using World.block_lt_of_cell? wr _ n1
        have n1': ∀ o,(wr.alloc o).cell? ⟨N,1,none⟩=some (.slice pq p.dss.length pc):=fun o=>(World.cell?_alloc_lt _ _ ⟨N,1,none⟩ hNw).trans n1
        have hok:=HWOK.out p hpm
        have HTK:=hidden (restD_take xs nd i d (by rw [←HNN.out];exact hdi))
        obtain ⟨LB,hLB⟩: ∃ b,b=inRB d.vA d.vB d.vC d.vP p.dss:=⟨_,rfl⟩
        have HIN:Hid (∀ W,Below wr.heap.size wr W→Calls Tryz.prog 88 #[.slice pq p.dss.length pc,.agg #[.int .i64 d.vA,.int .i64 d.vB,.int .i64 d.vC,.slice q0 d.vP.length x0]] W fun e w'=>e=.returned (.bool LB)∧Below W.heap.size W w'):=fun W hb=>by
          rw [hLB]
          exact implInRange_c _ _ p.dss d.vA d.vB d.vC _ d.vP W ((kRO.rangeIn hok.2.1 hok.2.2.1 hok.2.2.2.1).keep (.of hb (fun b h=>h.2))) (fun b h=>Nat.lt_of_lt_of_le h.2 hb.size) hok.2.2.2.2 (reads_of_owns (owns_of_belowN HOW.out.1 hb)) hvp
        rw [mayB_in, ←HPD.out, ←hLB] at HTK
        have kE:Below wr.heap.size wr (wr.alloc (.cells #[.string d.name,.int .i64 d.vA,.int .i64 d.vB,.int .i64 d.vC,.slice q0 d.vP.length x0,.slice q1 d.needs.length x1] 35)):=(Below.refl _ _).alloc (Nat.le_refl _) _
        have zE:(wr.alloc (.cells #[.string d.name,.int .i64 d.vA,.int .i64 d.vB,.int .i64 d.vC,.slice q0 d.vP.length x0,.slice q1 d.needs.length x1] 35)).heap[wr.heap.size]?=some (.cells #[.string d.name,.int .i64 d.vA,.int .i64 d.vB,.int .i64 d.vC,.slice q0 d.vP.length x0,.slice q1 d.needs.length x1] 35 (0,0)):=vheap_new _ _
        have lE:wr.heap.size<(wr.alloc (.cells #[.string d.name,.int .i64 d.vA,.int .i64 d.vB,.int .i64 d.vC,.slice q0 d.vP.length x0,.slice q1 d.needs.length x1] 35)).heap.size:=by simp
        have hwd:wtRow wtNeed d.needs≤1048576:=HWX.out d (newD_mem (List.mem_of_getElem? hdi))
        have HXD:=hidden hxd
        have n0:wr.cell? ⟨N,0,none⟩=some (.string nm):=kNB.cellAt 0 (by omega)
        have hNbf:N≠bf:=fun e9=>by
          rcases owns_apart kNB hS.out.boxf (by decide) with h|h
          · cases h
          · exact h (by rw [e9])
        have hpbf:bp≠bf:=fun e9=>by
          rcases owns_apart hS.out.boxp hS.out.boxf (by decide) with h|h
          · cases h
          · exact h (by rw [e9])
        clear kNB kRO kAL kRG hc hown f0 f1 hdi hd hxd hvp hie n1 hok hLB
        go_wp2_with fail
        go_at_call 88
        refine (HIN.out _ kE).mono ?_
        rintro e w3 ⟨rfl,b3⟩
        have k3:Below wr.heap.size wr w3:=kE.trans (b3.mono (Nat.le_of_lt lE))
        have zE3:=(b3.block _ lE).trans zE
        have hS3:=hS.out.below k3
        have HGR3:Hid (FrT B0 (some gw) w2 w3):=hgr.out.trans (FrT.below (some gw) k3 hS.out.lows) (.inl rfl)
        have HS3:=hidden hS3
        have hEbf:wr.heap.size≠bf:=by have:=hS.out.boxf.lt.2;omega
        obtain ⟨E,hE⟩: ∃ E,E=wr.heap.size:=⟨_,rfl⟩
        rw [←hE] at zE3 hEbf ⊢
        clear kE zE lE b3 HIN n1' hE e0 e1 e2 e3 e4 e5
        cases LB with
        |false=>
          clear hS3 zE3 k3
          go_wp2_with fail
          go_roundw
          case rel=>exact ⟨i+1,fi,wvc,more,pmc,nc,sc,by omega,by go_num,hff,HS3,hpq,HGR3,hgb,hnc,by show _=_;rw [hres.out,HTK.out];simp⟩
          case measure=>simp [intOf];omega
        |true=>
          have HTK2:Hid (restD xs nd i=d::restD xs nd (i+1)):=by show _=_;rw [HTK.out];simp
          have cF:=hS3.boxf.cell
          by_cases hz:fi=0
          · subst hz
            have cF0:w3.cell? ⟨bf,0,none⟩=some (.int .i64 0):=cF
            clear cF hS3 zE3
            go_wp2_with fail
            go_ret
            refine ⟨_,rfl,HF2.out.trans HGR3.out (.inl rfl),?_⟩
            rw [←HRW.out,hres.out,HTK2.out,tryAll_zero]
          · obtain ⟨k2,rfl⟩: ∃ k,fi=k+1:=⟨fi-1,by omega⟩
            have cFk:w3.cell? ⟨bf,0,none⟩=some (.int .i64 ((k2:Int)+1)):=by have h9:=cF;rw [show ((k2+1:Nat):Int)=(k2:Int)+1 by omega] at h9;exact h9
            have fzF:=hS3.boxf.frz
            have hk0:((k2:Int)+1 == 0)=false:=by simp;omega
            have hkb:k2<10000:=by have:=hff.out;have:=hnc.out;omega
            obtain ⟨hS4,fr4⟩:=hS3.refuel k2
            have hNw3:N<w3.heap.size:=Nat.lt_of_lt_of_le hNw k3.size
            have m0:w3.cell? ⟨N,0,none⟩=some (.string nm):=(k3.cell (p:=⟨N,0,none⟩) hNw).trans n0
            have cP:=hS3.boxp.cell
            have z1:w3.cell? ⟨E,1,none⟩=some (.int .i64 d.vA):=vblk_cell zE3 1
            have z2:w3.cell? ⟨E,2,none⟩=some (.int .i64 d.vB):=vblk_cell zE3 2
            have z3:w3.cell? ⟨E,3,none⟩=some (.int .i64 d.vC):=vblk_cell zE3 3
            have z4:w3.cell? ⟨E,4,none⟩=some (.slice q0 d.vP.length x0):=vblk_cell zE3 4
            have hmV:=hS4.map
            have hncl:nc<maxLen:=by have:=hnc.out;unfold maxLen;omega
            have hnmx:nm.size≤maxLen:=by rw [HNN.out];have:=hsnd.1;unfold maxLen;omega
            have HS4:=hidden hS4
            have HFR4:=hidden fr4
            clear cF hz hS3 hS4 fr4
            go_wp2_with (at_mapUpdate;refine wpList_mapUpdate_V _ rfl _ _ _ rfl mb nc sc _ rfl hmV hncl nm rfl hnmx (.agg #[.int .i64 d.vA,.int .i64 d.vB,.int .i64 d.vC,.slice q0 d.vP.length x0]) rfl ?_;intro V2 hm2 g2;go_frame)
            obtain ⟨i0,hi0,hz0,hz1,hz2⟩:=info_parts infoWish
            have hER:w3.ownsRow 0 35 6 (.slice (some ⟨E,0,none⟩) 1 1) 1 [.string d.name,.int .i64 d.vA,.int .i64 d.vB,.int .i64 d.vC,.slice q0 d.vP.length x0,.slice q1 d.needs.length x1]:=⟨rfl,.inr ⟨E,1,_,rfl,Nat.zero_le _,zE3,Nat.le_refl _,by unfold maxLen;omega,rfl,rfl⟩⟩
            obtain ⟨pm2,hpm2⟩: ∃ f,f=fun q=>if q=nm then some (⟨d.vA,d.vB,d.vC,d.vP,.slice q0 d.vP.length x0⟩:VC) else pmc q:=⟨_,rfl⟩
            obtain ⟨s2,hs2⟩: ∃ s2,s2=(if ((pmc nm).map VC.val).isSome=true then sc else sc+1):=⟨_,rfl⟩
            have hm3:MapV V2 mb (nc+1) s2 (fun q=>(pm2 q).map VC.val):=by
              rw [hs2]
              refine hm2.same (fun q=>?_)
              rw [hpm2]
              dsimp only
              by_cases e9:q=nm
              · rw [if_pos e9,if_pos e9];rfl
              · rw [if_neg e9,if_neg e9]
            have HOW3:Hid (w3.ownsRow 0 9 1 (.slice q0 d.vP.length x0) d.vP.length (strsV d.vP)∧w3.ownsRow 0 39 2 (.slice q1 d.needs.length x1) d.needs.length (needsV d.needs)):=⟨owns_of_belowN HOW.out.1 k3,owns_of_belowN HOW.out.2 k3⟩
            have hpk2:PmOk (w3.setCell ⟨bf,0,none⟩ (.int .i64 (k2:Int))) pm2:=fun q x hx=>by
              rw [hpm2] at hx
              dsimp only at hx
              by_cases e9:q=nm
              · rw [if_pos e9] at hx
                obtain rfl:=(Option.some.inj hx).symm
                exact ⟨owns_frT HOW3.out.1 HFR4.out ⟨by decide,by decide,.inl (by decide)⟩,by have:=HXD.out.1;show bulkS d.vP≤_;omega⟩
              · rw [if_neg e9] at hx
                exact HS4.out.pmok q x hx
            obtain ⟨hS5,fr5⟩:=HS4.out.remap hm3 g2 hpk2
            obtain ⟨gc,wcc,hgc⟩:=rowW_some hS5.row (by rw [List.length_append];omega)
            subst hgc
            have hER2:=owns_frT (owns_frT hER HFR4.out ⟨by decide,by decide,.inl (by decide)⟩) fr5 ⟨by decide,by decide,.inl (by decide)⟩
            have HND2:=hidden (owns_frT (owns_frT HOW3.out.2 HFR4.out ⟨by decide,by decide,.inl (by decide)⟩) fr5 ⟨by decide,by decide,.inl (by decide)⟩)
            have HS5:=hidden hS5
            have HFR5:Hid (FrT B0 (some gc) w3 V2):=HFR4.out.trans fr5 (.inl rfl)
            have HB2:=hidden hS5.lows
            have K16:Hid (∀ W,FrT B0 (some gc) V2 W→W.cell? ⟨E,5,none⟩=some (.slice q1 d.needs.length x1)):=fun W h=>World.ownsRow.cellAt (owns_frT hER2 h ⟨by decide,by decide,.inl (by decide)⟩) 5 (by omega)
            have hcl:ws.length≤wcc:=(owns_cut (k:=ws.length) hS5.row.1 (by rw [List.length_append];omega)).2
            have hsl:(ws.length:Int)≤(wcc:Int):=by omega
            have hsl1:(0:Int)≤(ws.length:Int):=by omega
            have hdn:d.needs.length≤1048576:=HXD.out.2.1
            have hrl:ws.length+1048576≤1099511627776:=by
              have h9:=hff.out
              have h8:1*1048576≤f*1048576:=Nat.mul_le_mul_right _ (by omega)
              omega
            have HWO:Hid (∀ W,Below V2.heap.size V2 W→Calls Tryz.prog 102 #[.slice q1 d.needs.length x1] W fun e w'=>∃ v' ps,e=.returned v'∧RowW W.heap.size w' v' ps∧ps.map WC.say=d.needs.map wishD∧Below W.heap.size W w'):=fun W h=>by
              obtain ⟨⟨m,t1,t2⟩,t3,t4⟩:=(HS5.out.below h).tabs
              have hlw:=(HS5.out.below h).lows
              refine wishesOf_c (Ow 0 W.heap.size) _ d.needs m W (needs_own (owns_of_belowN HND2.out h) (by unfold maxLen;omega) (fun x hx=>by have h9:=HXD.out.2.2 x hx;unfold smallN at h9;unfold maxLen;omega)).plain (fun b hb=>hb.2) hwd (fun W' h'=>⟨(h'.cell (p:=⟨2,0,none⟩) (Nat.lt_of_lt_of_le t3 hlw)).trans t1,fun j hj=>(h'.cell (p:=⟨1,j,none⟩) (Nat.lt_of_lt_of_le t4 hlw)).trans (t2 j hj)⟩)
            have cB: ∀ W,Below V2.heap.size V2 W→W.cell? ⟨bw,0,none⟩=some (.slice (some ⟨gc,0,none⟩) (ws++more).length wcc):=fun W h=>(HS5.out.below h).boxw.cell
            have HCB:=hidden cB
            have h0:Below V2.heap.size V2 V2.drew:=(Below.refl _ _).drew
            have HPM2:=hidden hpm2
            clear hpm2 hS5 hm3 hpk2 fr5 hER hER2 hm2 hs2 cB cFk fzF m0 cP z1 z2 z3 z4 hmV zE3
            go_cut [] from 56 to 62 (fun wc=>∃ (v7:Value) (new:List WC),Hid (TryS B0 bw bp br bf bt mb rv wc k2 v7 (ws++new) pm2 (nc+1) s2)∧Hid (new.map WC.say=d.needs.map wishD)∧Hid (FrT B0 (some gc) V2 wc)∧Hid (v7.ownBlock=some gc∨∀ g,v7.ownBlock=some g→V2.heap.size≤g))
            case first=>
              refine wp_region_held_drew (S:=(fun W=>W.cell? ⟨E,5,none⟩=some (.slice q1 d.needs.length x1))) (by kernel_rfl) ?SB0 (fun hHeld=>?_)
              case SB0=>(exact K16.out _ (FrT.below _ h0 HB2.out))
              generalize V2.drew=V3 at hHeld h0 ⊢
              refine tk 1 hHeld (h:=?_)
              refine tk 3 hHeld (h:=?_)
              refine tk 4 hHeld (h:=?_)
              refine wpAnyH_ready (rs:=[0,5]) (by kernel_rfl) (by simp) ?_
              refine AllReadyH.cons rfl (fun K hK=>?_) (AllReadyH.cons rfl (fun K hK=>?_) AllReadyH.nil)
              · have cb3:=HCB.out _ h0
                go_simp
                clear hHeld
                refine hK.out _ _ ?L4 (fun hHeld=>?_)
                case L4=>(exact K16.out _ (FrT.below _ h0 HB2.out))
                clear hK K
                try simp only [Act.put,List.getElem_toArray,List.getElem_cons_zero,List.getElem_cons_succ,List.setIfInBounds_toArray,List.set_cons_zero,List.set_cons_succ]
                clear cb3
                refine wpAnyH_take (i:=2) (oi:=_) (v:=?vY5) rfl (by kernel_rfl) (by kernel_rfl) (by kernel_rfl) (fun _ _ _ h=>h) (Or.inl ⟨by rfl,?yY5⟩) hHeld ?_
                case yY5=>(intro w hSw;(try dsimp only at hSw);go_simp;first|with_reducible rfl|(rw [if_pos hsl])|(rw [if_pos hsl1,if_pos hsl]))
                try simp only [Act.put,List.getElem_toArray,List.getElem_cons_zero,List.getElem_cons_succ,List.setIfInBounds_toArray,List.set_cons_zero,List.set_cons_succ]
                refine wpAnyH_ready (rs:=[5]) (by kernel_rfl) (by simp) ?_
                refine AllReadyH.cons rfl (fun K hK=>?_) AllReadyH.nil
                go_simp
                go_wp2_with (go_at_call 102;refine (HWO.out _ h0).mono ?_;rintro e w6 ⟨v6,new,rfl,hw6,hsy6,b6⟩;have h6:Below V2.heap.size V2 w6:=h0.trans (b6.mono h0.size))
                clear hHeld
                refine hK.out _ _ ?C6 (fun hHeld=>?_)
                case C6=>(exact K16.out _ (FrT.below _ h6 HB2.out))
                clear hK K
                try simp only [Act.put,List.getElem_toArray,List.getElem_cons_zero,List.getElem_cons_succ,List.setIfInBounds_toArray,List.set_cons_zero,List.set_cons_succ]
                refine wpAnyH_ready (rs:=[6]) (by kernel_rfl) (by simp) ?_
                refine AllReadyH.cons rfl (fun K hK=>?_) AllReadyH.nil
                rw [if_pos (by rfl)]
                have hS6:=HS5.out.below h6
                have hcut:=owns_cut (k:=ws.length) hS6.row.1 (by rw [List.length_append];omega)
                rw [flatW_take] at hcut
                have hnl:new.length=d.needs.length:=by have h9:=congrArg List.length hsy6;simpa using h9
                refine wpO_append_rowB _ _ 129 rfl B0 136 i0 (.agg #[.string ⟨#[]⟩,.slice none 0 0]) 2 40 Tryz.underlying129 hi0 hz0 hz1 hz2 rfl (by decide) gc ws.length wcc (flatW ws) rfl hcut.1 _ new.length _ (flatW new) rfl hw6.1 (flatW_one hw6.2) (by unfold maxLen;omega) (by omega) hS6.lows ?_
                intro v7 w7 o7 g7 hb7
                clear hnl
                obtain ⟨vq7,vc7,hv7⟩:=owns_sliceP o7
                subst hv7
                have o7':w7.ownsRow B0 136 2 (.slice vq7 (ws.length+new.length) vc7) (ws++new).length (flatW (ws++new)):=by rw [List.length_append,flatW_append];exact o7
                have hrw := hS6.rewish g7 o7' (fun p hp => by
                  rcases List.mem_append.1 hp with h9 | h9
                  · exact hS6.row.2 p (List.mem_append_left _ h9)
                  · exact hw6.2 p h9)
                have f7:FrT B0 (some gc) V2 w7:=(FrT.below (some gc) h6 HB2.out).trans (FrT.grown hS6.row.1 g7 hS6.lows (.inr (.inr ⟨rfl,rfl⟩))) (.inl rfl)
                have c7:w7.cell? ⟨bw,0,none⟩=some (.slice (some ⟨gc,0,none⟩) (ws++more).length wcc):=BoxV.cell (hS6.boxw.kept g7 (owns_apart hS6.boxw hS6.row.1 (by decide)))
                have z7:w7.frozen? ⟨bw,0,none⟩=false:=BoxV.frz (hS6.boxw.kept g7 (owns_apart hS6.boxw hS6.row.1 (by decide)))
                clear hHeld
                refine hK.out _ _ ?E7a (fun hHeld=>?_)
                case E7a=>(exact K16.out _ f7)
                clear hK K
                try simp only [Act.put,List.getElem_toArray,List.getElem_cons_zero,List.getElem_cons_succ,List.setIfInBounds_toArray,List.set_cons_zero,List.set_cons_succ]
                refine wpAnyH_ready (rs:=[7]) (by kernel_rfl) (by simp) ?_
                refine AllReadyH.cons rfl (fun K hK=>?_) AllReadyH.nil
                go_simp
                clear hHeld
                refine hK.out _ _ ?E7b (fun hHeld=>?_)
                case E7b=>(exact K16.out _ ((FrT.below (some gc) h6 HB2.out).trans hrw.2 (.inl rfl)))
                clear hK K
                try simp only [Act.put,List.getElem_toArray,List.getElem_cons_zero,List.getElem_cons_succ,List.setIfInBounds_toArray,List.set_cons_zero,List.set_cons_succ]
                have HRW7:=hidden hrw
                have HB7:Hid (Value.ownBlock (.slice vq7 (ws.length+new.length) vc7)=some gc∨∀ g,Value.ownBlock (.slice vq7 (ws.length+new.length) vc7)=some g→V2.heap.size≤g):=by
                  rcases hb7 with h9|h9
                  · exact .inl h9
                  · exact .inr (fun g hg=>by rw [h9] at hg;have h8:=Option.some.inj hg;have h7:=h6.size;omega)
                have HSY6:=hidden hsy6
                have HF7:Hid (FrT B0 (some gc) V2 (w7.setCell ⟨bw,0,none⟩ (.slice vq7 (ws.length+new.length) vc7))):=(FrT.below (some gc) h6 HB2.out).trans hrw.2 (.inl rfl)
                clear hrw hb7 hsy6 o7 o7' g7 f7 c7 z7 hcut hS6 hw6 b6
                generalize w7.setCell ⟨bw,0,none⟩ (.slice vq7 (ws.length+new.length) vc7)=w8 at HRW7 HF7 hHeld ⊢
                refine wpAnyH_done (by kernel_rfl) ?_ _
                go_wp2_with fail
                go_meet
                case rel=>exact ⟨_,new,HRW7.out.1,HSY6,HF7,HB7⟩
              · go_simp
                go_wp2_with (go_at_call 102;refine (HWO.out _ h0).mono ?_;rintro e w6 ⟨v6,new,rfl,hw6,hsy6,b6⟩;have h6:Below V2.heap.size V2 w6:=h0.trans (b6.mono h0.size))
                clear hHeld
                refine hK.out _ _ ?C8 (fun hHeld=>?_)
                case C8=>(exact K16.out _ (FrT.below _ h6 HB2.out))
                clear hK K
                try simp only [Act.put,List.getElem_toArray,List.getElem_cons_zero,List.getElem_cons_succ,List.setIfInBounds_toArray,List.set_cons_zero,List.set_cons_succ]
                refine wpAnyH_ready (rs:=[0]) (by kernel_rfl) (by simp) ?_
                refine AllReadyH.cons rfl (fun K hK=>?_) AllReadyH.nil
                have cb3:=HCB.out _ h6
                go_simp
                clear hHeld
                refine hK.out _ _ ?L9 (fun hHeld=>?_)
                case L9=>(exact K16.out _ (FrT.below _ h6 HB2.out))
                clear hK K
                try simp only [Act.put,List.getElem_toArray,List.getElem_cons_zero,List.getElem_cons_succ,List.setIfInBounds_toArray,List.set_cons_zero,List.set_cons_succ]
                clear cb3
                refine wpAnyH_take (i:=2) (oi:=_) (v:=?vY10) rfl (by kernel_rfl) (by kernel_rfl) (by kernel_rfl) (fun _ _ _ h=>h) (Or.inl ⟨by rfl,?yY10⟩) hHeld ?_
                case yY10=>(intro w hSw;(try dsimp only at hSw);go_simp;first|with_reducible rfl|(rw [if_pos hsl])|(rw [if_pos hsl1,if_pos hsl]))
                try simp only [Act.put,List.getElem_toArray,List.getElem_cons_zero,List.getElem_cons_succ,List.setIfInBounds_toArray,List.set_cons_zero,List.set_cons_succ]
                refine wpAnyH_ready (rs:=[6]) (by kernel_rfl) (by simp) ?_
                refine AllReadyH.cons rfl (fun K hK=>?_) AllReadyH.nil
                rw [if_pos (by rfl)]
                have hS6:=HS5.out.below h6
                have hcut:=owns_cut (k:=ws.length) hS6.row.1 (by rw [List.length_append];omega)
                rw [flatW_take] at hcut
                have hnl:new.length=d.needs.length:=by have h9:=congrArg List.length hsy6;simpa using h9
                refine wpO_append_rowB _ _ 129 rfl B0 136 i0 (.agg #[.string ⟨#[]⟩,.slice none 0 0]) 2 40 Tryz.underlying129 hi0 hz0 hz1 hz2 rfl (by decide) gc ws.length wcc (flatW ws) rfl hcut.1 _ new.length _ (flatW new) rfl hw6.1 (flatW_one hw6.2) (by unfold maxLen;omega) (by omega) hS6.lows ?_
                intro v7 w7 o7 g7 hb7
                clear hnl
                obtain ⟨vq7,vc7,hv7⟩:=owns_sliceP o7
                subst hv7
                have o7':w7.ownsRow B0 136 2 (.slice vq7 (ws.length+new.length) vc7) (ws++new).length (flatW (ws++new)):=by rw [List.length_append,flatW_append];exact o7
                have hrw := hS6.rewish g7 o7' (fun p hp => by
                  rcases List.mem_append.1 hp with h9 | h9
                  · exact hS6.row.2 p (List.mem_append_left _ h9)
                  · exact hw6.2 p h9)
                have f7:FrT B0 (some gc) V2 w7:=(FrT.below (some gc) h6 HB2.out).trans (FrT.grown hS6.row.1 g7 hS6.lows (.inr (.inr ⟨rfl,rfl⟩))) (.inl rfl)
                have c7:w7.cell? ⟨bw,0,none⟩=some (.slice (some ⟨gc,0,none⟩) (ws++more).length wcc):=BoxV.cell (hS6.boxw.kept g7 (owns_apart hS6.boxw hS6.row.1 (by decide)))
                have z7:w7.frozen? ⟨bw,0,none⟩=false:=BoxV.frz (hS6.boxw.kept g7 (owns_apart hS6.boxw hS6.row.1 (by decide)))
                clear hHeld
                refine hK.out _ _ ?E11a (fun hHeld=>?_)
                case E11a=>(exact K16.out _ f7)
                clear hK K
                try simp only [Act.put,List.getElem_toArray,List.getElem_cons_zero,List.getElem_cons_succ,List.setIfInBounds_toArray,List.set_cons_zero,List.set_cons_succ]
                refine wpAnyH_ready (rs:=[7]) (by kernel_rfl) (by simp) ?_
                refine AllReadyH.cons rfl (fun K hK=>?_) AllReadyH.nil
                go_simp
                clear hHeld
                refine hK.out _ _ ?E11b (fun hHeld=>?_)
                case E11b=>(exact K16.out _ ((FrT.below (some gc) h6 HB2.out).trans hrw.2 (.inl rfl)))
                clear hK K
                try simp only [Act.put,List.getElem_toArray,List.getElem_cons_zero,List.getElem_cons_succ,List.setIfInBounds_toArray,List.set_cons_zero,List.set_cons_succ]
                have HRW7:=hidden hrw
                have HB7:Hid (Value.ownBlock (.slice vq7 (ws.length+new.length) vc7)=some gc∨∀ g,Value.ownBlock (.slice vq7 (ws.length+new.length) vc7)=some g→V2.heap.size≤g):=by
                  rcases hb7 with h9|h9
                  · exact .inl h9
                  · exact .inr (fun g hg=>by rw [h9] at hg;have h8:=Option.some.inj hg;have h7:=h6.size;omega)
                have HSY6:=hidden hsy6
                have HF7:Hid (FrT B0 (some gc) V2 (w7.setCell ⟨bw,0,none⟩ (.slice vq7 (ws.length+new.length) vc7))):=(FrT.below (some gc) h6 HB2.out).trans hrw.2 (.inl rfl)
                clear hrw hb7 hsy6 o7 o7' g7 f7 c7 z7 hcut hS6 hw6 b6
                generalize w7.setCell ⟨bw,0,none⟩ (.slice vq7 (ws.length+new.length) vc7)=w8 at HRW7 HF7 hHeld ⊢
                refine wpAnyH_done (by kernel_rfl) ?_ _
                go_wp2_with fail
                go_meet
                case rel=>exact ⟨_,new,HRW7.out.1,HSY6,HF7,HB7⟩
            case rest=>
              obtain ⟨v7,new,HS7,HSY,HF7,HB7⟩:=hcut
              have hS7:=HS7.out
              have cT:=hS7.boxt.cell
              have HBG:Hid (v7.ownBlock=some gw∨∀ g,v7.ownBlock=some g→w2.heap.size≤g):=by
                have hsz:w2.heap.size≤V2.heap.size:=Nat.le_trans HGR3.out.size HFR5.out.size
                rcases HB7.out with h|h
                · rw [h]
                  rcases hgb.out with h9|h9
                  · exact .inl h9
                  · exact .inr (fun g hg=>h9 g hg)
                · exact .inr (fun g hg=>Nat.le_trans hsz (h g hg))
              have HGC:Hid ((some gc:Option Nat)=some gw∨∀ g,(some gc:Option Nat)=some g→w2.heap.size≤g):=hgb.out
              have HFW:Hid (FrT B0 (some gw) w2 wc):=(HGR3.out.trans HFR5.out HGC.out).trans HF7.out HGC.out
              have hnl:new.length=d.needs.length:=by have h9:=congrArg List.length HSY.out;simpa using h9
              have HREC:Hid (Calls Tryz.prog 103 #[.int .i64 ((at1:Int)+1),ptrV bw,ptrV bp,ptrV br,ptrV bf,ptrV bt] wc (TryPost B0 bw bp br bf bt mb rv wc v7 (ws++new) pm2 (GO k2 d))):=by
                have hcall:=HIH.out k2 (by have:=hff.out;omega) wc (at1+1) v7 (ws++new) pm2 (nc+1) s2 (insPick l (pickE nd.n d)) (r++d.needs) hS7 (HKO.out _ HFW.out).2.2.2 (by rw [List.length_append];omega) ?_ ?_ ?_ ?_ ?_ ?_
                · rw [show ((at1+1:Nat):Int)=(at1:Int)+1 by omega, ←HGO.out] at hcall
                  exact hcall
                · rw [List.drop_append_of_le_length (by omega),List.map_append,List.map_append,HRSAY.out,HSY.out]
                · have h9:=rel_ins (x:=⟨d.vA,d.vB,d.vC,d.vP,.slice q0 d.vP.length x0⟩) (e:=d) HREL.out HFN.out rfl
                  have h8:pm2=fun q=>if q=nd.n then some (⟨d.vA,d.vB,d.vC,d.vP,.slice q0 d.vP.length x0⟩:VC) else pm q:=by
                    rw [HPM2.out]
                    funext q
                    rw [←HNN.out]
                    by_cases e9:q=nm
                    · rw [if_pos e9,if_pos e9]
                    · rw [if_neg e9,if_neg e9];exact hpq.out q e9
                  rw [h8]
                  exact h9
                · intro x hx
                  rcases List.mem_append.1 hx with h9|h9
                  · exact HWOK.out x h9
                  · obtain ⟨jx,hjx,rfl⟩:=List.mem_iff_getElem.1 h9
                    have hjd:jx<d.needs.length:=by omega
                    have h8:=congrArg (·[jx]?) HSY.out
                    simp only [List.getElem?_map,List.getElem?_eq_getElem hjx,List.getElem?_eq_getElem hjd,Option.map_some,Option.some.injEq] at h8
                    exact wok_of_say h8 (HXD.out.2.2 _ (List.getElem_mem hjd))
                · intro x hx
                  rcases List.mem_append.1 hx with h9|h9
                  · exact HSMR.out x h9
                  · exact HXD.out.2.2 x h9
                · rw [List.length_append]
                  have h9:=hff.out
                  have h8:(k2+1)*1048576≤f*1048576:=Nat.mul_le_mul_right _ h9
                  rw [Nat.add_mul,Nat.one_mul] at h8
                  have:=HXD.out.2.1
                  omega
                · have:=hnc.out;omega
              unfold ptrV at HREC cT
              clear hnl hS7 HWO HCB K16 h0 HND2
              go_wp2_with fail
              go_at_call 103
              refine HREC.out.mono ?_
              rintro e w9 ⟨c9,rfl,fr9,hp9⟩
              have HF9:Hid (FrT B0 (some gw) w2 w9):=HFW.out.trans fr9 HBG.out
              cases hgo:GO k2 d with
              |good l' f'=>
                rw [hgo] at hp9
                obtain ⟨rfl,hp9⟩:=hp9
                have H9:=hidden hp9
                have HGOK:=hidden hgo
                clear hp9 hgo HREC fr9
                go_wp2_with fail
                go_ret
                refine ⟨_,rfl,HF2.out.trans HF9.out (.inl rfl),?_⟩
                rw [←HRW.out,hres.out,HTK2.out,tryAll_succ,HGOK.out]
                exact ⟨rfl,H9.out⟩
              |none f'=>
                rw [hgo] at hp9
                obtain ⟨rfl,wv',more',n',s',hS9,hb9,hn9⟩:=hp9
                have hle:f'≤k2:=by rw [HGO.out] at hgo;exact way_le hgo
                have HNX:Hid (RES=tryAll GO (restD xs nd (i+1)) f'):=by show _=_;rw [hres.out,HTK2.out,tryAll_succ,hgo]
                have HS9:Hid (TryS B0 bw bp br bf bt mb rv w9 f' wv' (ws++(new++more')) pm2 n' s'):=by show TryS _ _ _ _ _ _ _ _ _ _ _ _ _ _ _;rw [←List.append_assoc];exact hS9
                have HB9:Hid (wv'.ownBlock=some gw∨∀ g,wv'.ownBlock=some g→w2.heap.size≤g):=by
                  rcases hb9 with h|h
                  · rw [h];exact HBG.out
                  · exact .inr (fun g hg=>Nat.le_trans HFW.out.size (h g hg))
                have HPQ9:Hid (∀ q,q≠nm→pm2 q=pm q):=fun q hq=>by rw [HPM2.out];dsimp only;rw [if_neg hq];exact hpq.out q hq
                have HN9:=hidden hn9
                clear hS9 hb9 hn9 hgo HREC fr9
                go_wp2_with fail
                go_roundw
                case rel=>exact ⟨i+1,f',wv',new++more',pm2,n',s',by omega,by go_num,(by show _≤_;have:=hff.out;omega),HS9,HPQ9,HF9,HB9,HN9,HNX⟩
                case measure=>simp [intOf];omega
              |fuel=>
                rw [hgo] at hp9
                obtain rfl:c9=2:=hp9
                have HGOK:=hidden hgo
                clear hgo HREC fr9
                go_wp2_with fail
                go_ret
                refine ⟨_,rfl,HF2.out.trans HF9.out (.inl rfl),?_⟩
                rw [←HRW.out,hres.out,HTK2.out,tryAll_succ,HGOK.out]
      · have he:i=M:=by omega
        subst he
        have HE0:Hid (restD xs nd i=[]):=restD_end xs nd i (by have h9:=congrArg List.length HES.out;rw [List.length_map, ←HM.out,HNN.out] at h9;omega)
        obtain ⟨kNB,_,_,_⟩:=HKO.out _ hgr.out
        have n0:wr.cell? ⟨N,0,none⟩=some (.string nm):=kNB.cellAt 0 (by omega)
        have cP:=hS.out.boxp.cell
        have hmp:=hS.out.map
        have hnmx:nm.size≤maxLen:=by rw [HNN.out];have:=hsnd.1;unfold maxLen;omega
        clear kNB
        go_wp2_with (at_delete;refine wpList_delete_V _ rfl _ _ rfl mb nc sc _ rfl hmp nm rfl hnmx ?_;intro w5 s5 hm5 g5)
        go_ret
        have hpme: ∀ q,(if q=nm then none else pmc q)=pm q:=fun q=>by
          by_cases e9:q=nm
          · rw [if_pos e9,e9,HNN.out,HPMN.out]
          · rw [if_neg e9];exact hpq.out q e9
        have hm6:MapV w5 mb nc s5 (fun q=>(pm q).map VC.val):=hm5.same (fun q=>by rw [←hpme q];split<;>rfl)
        have hpk:PmOk wr pm:=fun q x hx=>by
          refine hS.out.pmok q x ?_
          rw [←hpme q] at hx
          by_cases e9:q=nm
          · rw [if_pos e9] at hx;cases hx
          · rw [if_neg e9] at hx;exact hx
        obtain ⟨hS5,fr5⟩:=hS.out.remap hm6 g5 hpk
        refine ⟨_,rfl,(HF2.out.trans hgr.out (.inl rfl)).trans fr5 ?_,?_⟩
        · rcases hgb.out with h|h
          · exact .inl h
          · exact .inr (fun g hg=>Nat.le_trans HF2.out.size (h g hg))
        · rw [←HRW.out,hres.out,HE0.out,tryAll_nil]
          refine ⟨rfl,wvc,more,nc,s5,hS5,?_,hnc.out⟩
          rcases hgb.out with h|h
          · exact .inl h
          · exact .inr (fun g hg=>Nat.le_trans HF2.out.size (h g hg))
theorem try_c (xs:List EntryD) (Sr:Nat→Prop) (rv:Value) (B0 bw bp br bf bt mb:Nat) (hwx:wtRow wtEntry xs≤1048576) (hxs: ∀ e∈xs,smallE e) (hx12:xs.length≤12) (hSr: ∀ b,Sr b→b<B0): ∀ f,TryC xs Sr rv B0 bw bp br bf bt mb f:=by
 intro f
 induction f using Nat.strongRecOn with
 |ind f ih=>exact try_step xs Sr rv B0 bw bp br bf bt mb f hwx hxs hx12 hSr ih
theorem ltL_irrefl (x:List UInt8): ¬x<x:=List.lt_irrefl x
theorem ltL_trans {x y z:List UInt8} (h:x<y) (k:y<z):x<z:=List.lt_trans h k
def bytesL (s:ByteArray):List UInt8:=s.data.toList
theorem bytesL_inj {a b:ByteArray} (h:bytesL a=bytesL b):a=b:=ByteArray.ext (Array.toList_inj.1 h)
end Go.Proofs.YtlfmefojcmpfeaaGreatDoor
namespace Go.Proofs
open Go.Shelf
def Tryz.lays190_ren :Go.Shelf.Ren:=⟨fun|190=>114|125=>185|258=>184|128=>253|129=>254|302=>244|303=>245|304=>246|305=>247|306=>248|307=>249|308=>250|309=>251|310=>252|333=>286|329=>287|330=>288|334=>289|335=>290|336=>267|344=>314|n=>n,fun|31=>28|9=>9|3=>3|46=>226|0=>0|51=>282|53=>284|4=>4|183=>276|182=>275|131=>133|5=>5|218=>328|222=>332|228=>351|229=>352|n=>n,fun|n=>n⟩
theorem Tryz.lays190 : Go.Proofs.Lays.n190 Tryz.prog Tryz.lays190_ren := {
  mixed := by kernel_rfl
  f125 := Tryz.func185.trans (congrArg some (by kernel_rfl))
  f128 := Tryz.func253.trans (congrArg some (by kernel_rfl))
  f129 := Tryz.func254.trans (congrArg some (by kernel_rfl))
  f190 := Tryz.func114.trans (congrArg some (by kernel_rfl))
  f258 := Tryz.func184.trans (congrArg some (by kernel_rfl))
  f302 := Tryz.func244.trans (congrArg some (by kernel_rfl))
  f303 := Tryz.func245.trans (congrArg some (by kernel_rfl))
  f304 := Tryz.func246.trans (congrArg some (by kernel_rfl))
  f305 := Tryz.func247.trans (congrArg some (by kernel_rfl))
  f306 := Tryz.func248.trans (congrArg some (by kernel_rfl))
  f307 := Tryz.func249.trans (congrArg some (by kernel_rfl))
  f308 := Tryz.func250.trans (congrArg some (by kernel_rfl))
  f309 := Tryz.func251.trans (congrArg some (by kernel_rfl))
  f310 := Tryz.func252.trans (congrArg some (by kernel_rfl))
  f329 := Tryz.func287.trans (congrArg some (by kernel_rfl))
  f330 := Tryz.func288.trans (congrArg some (by kernel_rfl))
  f333 := Tryz.func286.trans (congrArg some (by kernel_rfl))
  f334 := Tryz.func289.trans (congrArg some (by kernel_rfl))
  f335 := Tryz.func290.trans (congrArg some (by kernel_rfl))
  f336 := Tryz.func267.trans (congrArg some (by kernel_rfl))
  f344 := Tryz.func314.trans (congrArg some (by kernel_rfl))
  t0 := Tryz.underlying0
  a0 := Tryz.isAgg0
  z0 := Tryz.sizeOf0
  v0 := Tryz.zeroValue0
  t3 := Tryz.underlying3
  a3 := Tryz.isAgg3
  z3 := Tryz.sizeOf3
  v3 := Tryz.zeroValue3
  t4 := Tryz.underlying4
  a4 := Tryz.isAgg4
  z4 := Tryz.sizeOf4
  v4 := Tryz.zeroValue4
  t5 := Tryz.underlying5
  a5 := Tryz.isAgg5
  z5 := Tryz.sizeOf5
  v5 := Tryz.zeroValue5
  t9 := Tryz.underlying9
  a9 := Tryz.isAgg9
  z9 := Tryz.sizeOf9
  v9 := Tryz.zeroValue9
  t31 := Tryz.underlying28
  a31 := Tryz.isAgg28
  z31 := Tryz.sizeOf28
  v31 := Tryz.zeroValue28
  t46 := Tryz.underlying226
  a46 := Tryz.isAgg226
  z46 := Tryz.sizeOf226
  v46 := Tryz.zeroValue226
  t51 := Tryz.underlying282
  a51 := Tryz.isAgg282
  z51 := Tryz.sizeOf282
  v51 := Tryz.zeroValue282
  t53 := Tryz.underlying284
  a53 := Tryz.isAgg284
  z53 := Tryz.sizeOf284
  v53 := Tryz.zeroValue284
  t131 := Tryz.underlying133
  a131 := Tryz.isAgg133
  z131 := Tryz.sizeOf133
  v131 := Tryz.zeroValue133
  t182 := Tryz.underlying275
  a182 := Tryz.isAgg275
  z182 := Tryz.sizeOf275
  v182 := Tryz.zeroValue275
  t183 := Tryz.underlying276
  a183 := Tryz.isAgg276
  z183 := Tryz.sizeOf276
  v183 := Tryz.zeroValue276
  t218 := Tryz.underlying328
  a218 := Tryz.isAgg328
  z218 := Tryz.sizeOf328
  v218 := Tryz.zeroValue328
  t222 := Tryz.underlying332
  a222 := Tryz.isAgg332
  z222 := Tryz.sizeOf332
  v222 := Tryz.zeroValue332
  t228 := Tryz.underlying351
  a228 := Tryz.isAgg351
  z228 := Tryz.sizeOf351
  v228 := Tryz.zeroValue351
  t229 := Tryz.underlying352
  a229 := Tryz.isAgg352
  z229 := Tryz.sizeOf352
  v229 := Tryz.zeroValue352 }
open Go.Sort Go.RowKit in
theorem Tryz.slices_Sort_string (blk off cap:Nat) (ss:List (List UInt8)) (w:World) (hH:Holds encStr w blk off ss.toArray) (hblk:blk<w.heap.size) (hsz:ss.length<4611686018427387904):
  Calls Tryz.prog 114 #[.slice (some ⟨blk,off,none⟩) ss.length cap] w fun e w'=>
   e=.returned (.tuple #[])∧∃ n os,w'=grow (putRow encStr (Sort.ahead w n) blk off (ss.mergeSort fun x y=>decide (x≤y)).toArray) os:=Any.slices_Sort_string Tryz.lays190 blk off cap ss w hH hblk hsz
end Go.Proofs
