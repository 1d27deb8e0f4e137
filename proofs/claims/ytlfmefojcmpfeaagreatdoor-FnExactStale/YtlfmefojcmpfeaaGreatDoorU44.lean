/-
  Contracts for the walks and pure facts, several texts in one: each theorem says what it proves, and under which conditions.
-/
import Derived.Test.YtlfmefojcmpfeaaGreatDoorUT
import Derived.Test.YtlfmefojcmpfeaaGreatDoorU43
set_option linter.unusedSimpArgs false
set_option linter.unusedVariables false
set_option maxHeartbeats 16000000
set_option maxRecDepth 100000
namespace Go.Proofs.YtlfmefojcmpfeaaGreatDoor
open Go.RowKit
theorem specSolves_c (Sr Sn Sp:Nat→Prop) (rv nv pv:Value) (r:List EntryD) (ns:List NeedD) (l:List PickD) (w:World) (hr:RowIn shEntryO Sr w rv r) (hn:RowIn shNeed Sn w nv ns) (hp:RowIn shPickO Sp w pv l)
    (hBr: ∀ b,Sr b→b<w.heap.size) (hBn: ∀ b,Sn b→b<w.heap.size) (hBp: ∀ b,Sp b→b<w.heap.size) (hwr:wtRow wtEntry r≤1048576) (hwn:wtRow wtNeed ns≤1048576) (hwl:wtRow wtPick l≤1048576):
    Calls Tryz.prog 42 #[rv,nv,pv] w fun e w'=>e=.returned (.bool (solB r ns l))∧Below w.heap.size w w':=by
  have hwD: ∀ o,wtRow wtNeed (atD r o).needs≤1048576:=fun o=>by
    unfold atD
    cases o with
    |none=>show wtRow wtNeed []≤_;decide
    |some i=>
      cases hi:r[i]? with
      |none=>rw [Option.bind_some,hi];show wtRow wtNeed []≤_;decide
      |some d=>
        simp only [Option.bind_some,hi,Option.getD_some]
        have h1:d.name.size+bulkS d.vP+wtRow wtNeed d.needs≤wtRow wtEntry r:=wt_wtRow wtEntry (List.mem_of_getElem? hi)
        omega
  have HMT:Hid (∀ w1 (S:Nat→Prop) v (ns:List NeedD),Below w.heap.size w w1→RowIn shNeed S w1 v ns→(∀ b,S b→b<w1.heap.size)→wtRow wtNeed ns≤1048576→Calls Tryz.prog 118 #[v,pv] w1 fun e w'=>e=.returned (.bool (metB ns l))∧Below w1.heap.size w1 w'):=fun w1 S v ns h hv hB hw=>specMet_c S Sp v pv ns l w1 hv (hp.keep (.of h hBp)) hB (fun b hb=>Nat.lt_of_lt_of_le (hBp b hb) h.size) hw hwl
  have HEN0:Hid (∀ w1 n a b c u ps,Below w.heap.size w w1→Reads w1 u (strsV ps)→bulkS ps≤1048576→Calls Tryz.prog 17 #[rv,.string n,.agg #[.int .i64 a,.int .i64 b,.int .i64 c,u]] w1 fun e w'=>∃ cs,e=.returned (.tuple #[.agg cs.toArray,.bool (firstK r ⟨n,a,b,c,⟨(preL ps).toArray⟩⟩).isSome])∧shEntryO.lies (Ow w1.heap.size w'.heap.size) w' cs (atD r (firstK r ⟨n,a,b,c,⟨(preL ps).toArray⟩⟩))∧Below w1.heap.size w1 w'):=fun w1 n a b c u ps h hu hb=>specEntry_c Sr rv r n a b c u ps w1 (hr.keep (.of h hBr)) (fun b hb=>Nat.lt_of_lt_of_le (hBr b hb) h.size) hwr hu hb
  have HM0:=hidden (HMT.out w Sn nv ns (Below.refl _ _) hn hBn hwn)
  obtain ⟨qn,cn,hqn⟩:=hn.slice
  subst hqn
  obtain ⟨qr,cr,hqr⟩:=hr.slice
  subst hqr
  obtain ⟨qp,cp,rfl,hl,hc,ha⟩:=hp
  unfold maxLen at hl
  have HWL:Hid (∀ d∈l,bulkS d.vP≤1048576):=fun d hd=>by
    have h1:d.name.size+bulkS d.vP≤wtRow wtPick l:=wt_wtRow wtPick hd
    omega
  obtain ⟨R,hR⟩: ∃ R,R=solB r ns l:=⟨_,rfl⟩
  rw [←hR]
  have HR:=hidden hR
  have HWD:=hidden hwD
  have HA:=hidden ha
  obtain ⟨MB,hMB⟩: ∃ M,M=metB ns l:=⟨_,rfl⟩
  rw [←hMB] at HM0
  have HMB:=hidden hMB
  clear hR hr hn hwD hMB ha hwr hwn hBr hBn
  go_enter Tryz.func42,Tryz.ntmps42
  go_wp2_with fail
  go_at_call 118
  refine HM0.out.mono ?_
  rintro e w1 ⟨rfl,k1⟩
  cases MB with
  |false=>
    have HE:Hid (R=false):=HR.out.trans (solB_met HMB.out.symm)
    clear HMT HEN0 HA HWL HWD HM0
    go_wp2_with fail
    go_ret
    exact ⟨by rw [HE.out];rfl,k1⟩
  |true=>
    clear HM0
    go_wp2_with fail
    go_loopw [7] (fun vi wr=>∃ k:Nat,k≤l.length∧vi=.int .i64 (k:Int)∧Hid (∀ i (hi:i<l.length),i<k→pickOkB r l l[i]=true∧∀ j (hj:j<i),¬l[j].name=l[i].name)∧Below w.heap.size w wr) (fun vi _=>l.length-(intOf vi).toNat)
    case atStart=>exact ⟨0,Nat.zero_le _,rfl,(fun j hj h=>by omega),k1⟩
    case round=>
      obtain ⟨wo,hwo⟩: ∃ wo,wo=wr:=⟨_,rfl⟩
      subst hwo
      obtain ⟨k,hk,rfl,hno,hbr⟩:=hrel
      by_cases hlt':k<l.length
      · rcases HA.out with rfl|⟨b,off,rfl,hlt,ha⟩
        · simp at hlt'
        obtain ⟨cs,hL,hcell⟩:=ha k hlt'
        have hcell2:=hcell.keep (.of hbr hBp) hlt
        replace hL:=shPickO.keep (.of hbr hBp) hL
        have hbk:=HWL.out l[k] (List.getElem_mem hlt')
        have HF:Hid (pickOkB r l l[k]=false→R=false):=fun h=>HR.out.trans (solB_pick hlt' h)
        have HFN:Hid (∀ j (hj:j<k),l[j].name=l[k].name→R=false):=fun j hj h=>HR.out.trans (solB_name (namesB_false hlt' hj h))
        have HN:Hid (pickOkB r l l[k]=true→(∀ j (hj:j<k),¬l[j].name=l[k].name)→∀ i (hi:i<l.length),i<k+1→pickOkB r l l[i]=true∧∀ j (hj:j<i),¬l[j].name=l[i].name):=fun h h2 j hj hjk=>by
          by_cases e:j=k
          · subst e;exact ⟨h,h2⟩
          · exact hno.out j hj (by omega)
        have HNM:Hid (∀ j (hj:j<l.length),∀ W,Below w.heap.size w W→W.cell? ⟨b,off+j*5,none⟩=some (.string l[j].name)):=fun j hj W h=>by
          obtain ⟨cs',⟨u0',rfl,_⟩,hc'⟩:=ha j hj
          exact (hc'.keep (.of h hBp) hlt) 0 (by simp)
        obtain ⟨d,hd⟩: ∃ d,d=l[k]:=⟨_,rfl⟩
        rw [←hd] at hL hbk HF
        obtain ⟨u0,rfl,s_n,r0,p0⟩:=hL
        have hrd: ∀ w1,Below wo.heap.size wo w1→Reads w1 u0 (strsV d.vP):=fun w1 h=>(reads_of_owns r0.1).below h
        obtain ⟨KD,hKD⟩: ∃ K,K=keyP d:=⟨_,rfl⟩
        have HPO:Hid (pickOkB r l d=((firstK r KD).isSome&&metB (atD r (firstK r KD)).needs l)):=by show _=_;rw [hKD];rfl
        obtain ⟨FF,hFF⟩: ∃ F,F=firstK r KD:=⟨_,rfl⟩
        obtain ⟨DD,hDD⟩: ∃ D,D=atD r FF:=⟨_,rfl⟩
        have hwDD:wtRow wtNeed DD.needs≤1048576:=by rw [hDD];exact HWD.out FF
        have HEN' : ∀ w1, Below wo.heap.size wo w1 → Calls Tryz.prog 17 #[.slice qr r.length cr, .string d.name, .agg #[.int .i64 d.vA, .int .i64 d.vB, .int .i64 d.vC, u0]] w1 fun e w' => ∃ q8 c8 q9 c9, e = .returned (.tuple #[.agg #[.string DD.name, .int .i64 DD.vA, .int .i64 DD.vB, .int .i64 DD.vC, .slice q8 DD.vP.length c8, .slice q9 DD.needs.length c9], .bool FF.isSome]) ∧ RowIn shNeed (Ow w1.heap.size w'.heap.size) w' (.slice q9 DD.needs.length c9) DD.needs ∧ Below w1.heap.size w1 w' := fun w1 h => (HEN0.out w1 d.name d.vA d.vB d.vC u0 d.vP (hbr.trans (h.mono hbr.size)) (hrd w1 h) hbk).mono (by
          rintro e w' ⟨cs, he, hl, hb⟩
          have e1 : firstK r ⟨d.name, d.vA, d.vB, d.vC, ⟨(preL d.vP).toArray⟩⟩ = FF := by rw [hFF, hKD]; rfl
          rw [e1] at he hl
          rw [← hDD] at hl
          obtain ⟨v0, v1, rfl, _, t0, _, t1⟩ := hl
          obtain ⟨q8, c8, e8⟩ := t0.slice
          subst e8
          obtain ⟨q9, c9, e9⟩ := t1.slice
          subst e9
          exact ⟨q8, c8, q9, c9, he, t1.plain, hb⟩)
        rw [←hFF, ←hDD] at HPO
        obtain ⟨a0,cap0,eu0⟩:=r0.slice
        subst eu0
        have HEN:=hidden HEN'
        have e0:wo.cell? ⟨b,off+k*5,none⟩=some (.string d.name):=hcell2 0 (by simp)
        have e1:wo.cell? ⟨b,off+k*5+1,none⟩=some (.int .i64 d.vA):=hcell2 1 (by simp)
        have e2:wo.cell? ⟨b,off+k*5+2,none⟩=some (.int .i64 d.vB):=hcell2 2 (by simp)
        have e3:wo.cell? ⟨b,off+k*5+3,none⟩=some (.int .i64 d.vC):=hcell2 3 (by simp)
        have e4:wo.cell? ⟨b,off+k*5+4,none⟩=some (.slice a0 d.vP.length cap0):=hcell2 4 (by simp)
        have hbb:b<wo.heap.size:=Nat.lt_of_lt_of_le (hBp b hlt) hbr.size
        have hki:(k:Int)<(l.length:Int):=by omega
        have KEEP:Hid (∀ W,Below wo.heap.size wo W→W.cell? ⟨b,off+k*5,none⟩=some (.string d.name)∧W.cell? ⟨b,off+k*5+1,none⟩=some (.int .i64 d.vA)∧W.cell? ⟨b,off+k*5+2,none⟩=some (.int .i64 d.vB)∧W.cell? ⟨b,off+k*5+3,none⟩=some (.int .i64 d.vC)∧W.cell? ⟨b,off+k*5+4,none⟩=some (.slice a0 d.vP.length cap0)):=fun W h=>⟨(h.cell (by simpa using hbb)).trans e0,(h.cell (by simpa using hbb)).trans e1,(h.cell (by simpa using hbb)).trans e2,(h.cell (by simpa using hbb)).trans e3,(h.cell (by simpa using hbb)).trans e4⟩
        have h0:Below wo.heap.size wo wo.drew:=(Below.refl _ _).drew
        obtain ⟨IS,hIS⟩: ∃ I,I=FF.isSome:=⟨_,rfl⟩
        obtain ⟨MB2,hMB2⟩: ∃ M,M=metB DD.needs l:=⟨_,rfl⟩
        simp only [←hIS] at HEN
        rw [←hIS, ←hMB2] at HPO
        rw [HPO.out] at HF
        have HN':Hid ((IS&&MB2)=true→(∀ j (hj:j<k),¬l[j].name=l[k].name)→∀ i (hi:i<l.length),i<k+1→pickOkB r l l[i]=true∧∀ j (hj:j<i),¬l[j].name=l[i].name):=fun h h2=>HN.out (by rw [←hd,HPO.out];exact h) h2
        have HDN:Hid (d.name=l[k].name):=by show _=_;rw [hd]
        clear hcell hcell2 hno HN hd r0 hrd hKD HEN' e0 e1 e2 e3 e4 hIS hFF hDD hbk HPO HA ha
        go_wp2_with fail
        go_cut [8,9] (fun v8 v9 wc=>∃ (g8:Nat) (q8:Option Addr) (c8:Nat) (q9:Option Addr) (c9 lo hi:Nat),v8=.pointer (some ⟨g8,0,none⟩)∧v9=.bool IS∧wc.heap[g8]?=some (.cells #[.string DD.name,.int .i64 DD.vA,.int .i64 DD.vB,.int .i64 DD.vC,.slice q8 DD.vP.length c8,.slice q9 DD.needs.length c9] 35 (0,0))∧RowIn shNeed (Ow lo hi) wc (.slice q9 DD.needs.length c9) DD.needs∧hi≤wc.heap.size∧Below wo.heap.size wo wc)
        case first=>
          refine wp_region_held_drew (S:=(fun W=>W.cell? ⟨b,off+k*5,none⟩=some (.string d.name)∧W.cell? ⟨b,off+k*5+1,none⟩=some (.int .i64 d.vA)∧W.cell? ⟨b,off+k*5+2,none⟩=some (.int .i64 d.vB)∧W.cell? ⟨b,off+k*5+3,none⟩=some (.int .i64 d.vC)∧W.cell? ⟨b,off+k*5+4,none⟩=some (.slice a0 d.vP.length cap0))) (by kernel_rfl) ?S0E (fun hHeld=>?_)
          case S0E=>(exact KEEP.out _ h0)
          refine tk 0 hHeld (h:=?_)
          refine tk 1 hHeld (h:=?_)
          refine tk 2 hHeld (h:=?_)
          refine tk 3 hHeld (h:=?_)
          refine tk 4 hHeld (h:=?_)
          refine tk 5 hHeld (h:=?_)
          refine tk 6 hHeld (h:=?_)
          refine tk 7 hHeld (h:=?_)
          refine tk 8 hHeld (h:=?_)
          refine tk 9 hHeld (h:=?_)
          refine tk 10 hHeld (h:=?_)
          obtain ⟨wd,hwd⟩: ∃ wd,wd=wo.drew:=⟨_,rfl⟩
          rw [←hwd] at h0
          rw [←hwd]
          clear hwd
          refine wpAnyH_ready (rs:=[11,15]) (by kernel_rfl) (by simp) ?_
          refine AllReadyH.cons rfl (fun K hK=>?_) (AllReadyH.cons rfl (fun K hK=>?_) AllReadyH.nil)
          · go_simp
            go_wp2_with (go_at_call 17;refine (HEN.out _ (h0)).mono ?_;rintro e we1 ⟨q8,c8,q9,c9,rfl,rN,be1⟩)
            have h1:Below wo.heap.size wo we1:=(h0).trans (be1.mono (h0).size)
            clear hHeld
            refine hK.out _ _ ?GE12 (fun hHeld=>?_)
            case GE12=>((try dsimp only);exact KEEP.out _ h1)
            clear hK K
            try simp only [Act.put,List.getElem_toArray,List.getElem_cons_zero,List.getElem_cons_succ,List.setIfInBounds_toArray,List.set_cons_zero,List.set_cons_succ]
            refine tk 12 hHeld (h:=?_)
            refine tk 13 hHeld (h:=?_)
            refine tk 14 hHeld (h:=?_)
            obtain ⟨lo,hlo⟩: ∃ lo,lo=(wd).heap.size:=⟨_,rfl⟩
            obtain ⟨hi,hhi⟩: ∃ hi,hi=we1.heap.size:=⟨_,rfl⟩
            rw [←hlo, ←hhi] at rN
            have hhz:hi≤we1.heap.size:=Nat.le_of_eq hhi
            clear hlo hhi
            refine wpAnyH_ready (rs:=[15]) (by kernel_rfl) (by simp) ?_
            refine AllReadyH.cons rfl (fun K hK=>?_) AllReadyH.nil
            go_simp
            have kz2:Below (we1).heap.size (we1) ((we1).alloc (.cells #[.string ⟨#[]⟩,.int .i64 0,.int .i64 0,.int .i64 0,.slice none 0 0,.slice none 0 0] 35 (0,0))):=(Below.refl _ _).alloc (Nat.le_refl _) _
            have h2:Below wo.heap.size wo ((we1).alloc (.cells #[.string ⟨#[]⟩,.int .i64 0,.int .i64 0,.int .i64 0,.slice none 0 0,.slice none 0 0] 35 (0,0))):=(h1).trans (kz2.mono (h1).size)
            have hg8:((we1).alloc (.cells #[.string ⟨#[]⟩,.int .i64 0,.int .i64 0,.int .i64 0,.slice none 0 0,.slice none 0 0] 35 (0,0))).heap[(we1).heap.size]?=some (.cells #[.string ⟨#[]⟩,.int .i64 0,.int .i64 0,.int .i64 0,.slice none 0 0,.slice none 0 0] 35 (0,0)):=vheap_new _ _
            have hge8:wo.heap.size≤(we1).heap.size:=(h1).size
            have hgn: ¬Ow lo hi (we1).heap.size:=fun hh=>by have:=hh.2;omega
            have rN:=rN.keep (fun b hb=>kz2.block b (by have:=hb.2;omega))
            have hhz:=Nat.le_trans hhz kz2.size
            clear hHeld
            refine hK.out _ ((we1).alloc (.cells #[.string ⟨#[]⟩,.int .i64 0,.int .i64 0,.int .i64 0,.slice none 0 0,.slice none 0 0] 35 (0,0))) ?G92 (fun hHeld=>?_)
            case G92=>(exact KEEP.out _ h2)
            clear hK K
            try simp only [Act.put,List.getElem_toArray,List.getElem_cons_zero,List.getElem_cons_succ,List.setIfInBounds_toArray,List.set_cons_zero,List.set_cons_succ]
            obtain ⟨g8,hge⟩: ∃ g,g=(we1).heap.size:=⟨_,rfl⟩
            rw [←hge] at hg8 hge8 hgn
            try rw [←hge]
            obtain ⟨wa2,hwa⟩: ∃ wa,wa=(we1).alloc (.cells #[.string ⟨#[]⟩,.int .i64 0,.int .i64 0,.int .i64 0,.slice none 0 0,.slice none 0 0] 35 (0,0)):=⟨_,rfl⟩
            rw [←hwa] at hg8 h2 rN hhz
            try rw [←hwa]
            clear hge hwa kz2
            have fy:=vblk_frozen hg8
            have y0:=vblk_cell hg8 0
            have y1:=vblk_cell hg8 1
            have y2:=vblk_cell hg8 2
            have y3:=vblk_cell hg8 3
            have y4:=vblk_cell hg8 4
            have y5:=vblk_cell hg8 5
            simp only [List.getElem?_toArray,List.getElem?_cons_succ,List.getElem?_cons_zero] at y0 y1 y2 y3 y4 y5
            have hst:Below wo.heap.size wo ((((((wa2.setCell ⟨g8,0,none⟩ (.string DD.name)).setCell ⟨g8,1,none⟩ (.int .i64 DD.vA)).setCell ⟨g8,2,none⟩ (.int .i64 DD.vB)).setCell ⟨g8,3,none⟩ (.int .i64 DD.vC)).setCell ⟨g8,4,none⟩ (.slice q8 DD.vP.length c8)).setCell ⟨g8,5,none⟩ (.slice q9 DD.needs.length c9)):=Below.setCell (Below.setCell (Below.setCell (Below.setCell (Below.setCell (Below.setCell (h2) hge8 _) hge8 _) hge8 _) hge8 _) hge8 _) hge8 _
            have hbs:=heap_setCell_same _ _ 5 _ _ (.slice q9 DD.needs.length c9) (heap_setCell_same _ _ 4 _ _ (.slice q8 DD.vP.length c8) (heap_setCell_same _ _ 3 _ _ (.int .i64 DD.vC) (heap_setCell_same _ _ 2 _ _ (.int .i64 DD.vB) (heap_setCell_same _ _ 1 _ _ (.int .i64 DD.vA) (heap_setCell_same _ _ 0 _ _ (.string DD.name) hg8)))))
            have rS:=rN.keep (w':=((((((wa2.setCell ⟨g8,0,none⟩ (.string DD.name)).setCell ⟨g8,1,none⟩ (.int .i64 DD.vA)).setCell ⟨g8,2,none⟩ (.int .i64 DD.vB)).setCell ⟨g8,3,none⟩ (.int .i64 DD.vC)).setCell ⟨g8,4,none⟩ (.slice q8 DD.vP.length c8)).setCell ⟨g8,5,none⟩ (.slice q9 DD.needs.length c9))) (fun b hb=>by (repeat (rw [Below.heap_setCell _ _ _ _ (by simp;rintro rfl;exact hgn hb)])))
            refine wpAnyH_ready (rs:=[16]) (by kernel_rfl) (by simp) ?_
            refine AllReadyH.cons rfl (fun K hK=>?_) AllReadyH.nil
            go_simp
            clear hHeld
            refine hK.out _ ((((((wa2.setCell ⟨g8,0,none⟩ (.string DD.name)).setCell ⟨g8,1,none⟩ (.int .i64 DD.vA)).setCell ⟨g8,2,none⟩ (.int .i64 DD.vB)).setCell ⟨g8,3,none⟩ (.int .i64 DD.vC)).setCell ⟨g8,4,none⟩ (.slice q8 DD.vP.length c8)).setCell ⟨g8,5,none⟩ (.slice q9 DD.needs.length c9)) ?GS16 (fun hHeld=>?_)
            case GS16=>(exact KEEP.out _ hst)
            clear hK K
            try simp only [Act.put,List.getElem_toArray,List.getElem_cons_zero,List.getElem_cons_succ,List.setIfInBounds_toArray,List.set_cons_zero,List.set_cons_succ]
            refine tk 17 hHeld (h:=?_)
            have hb8:((((((wa2.setCell ⟨g8,0,none⟩ (.string DD.name)).setCell ⟨g8,1,none⟩ (.int .i64 DD.vA)).setCell ⟨g8,2,none⟩ (.int .i64 DD.vB)).setCell ⟨g8,3,none⟩ (.int .i64 DD.vC)).setCell ⟨g8,4,none⟩ (.slice q8 DD.vP.length c8)).setCell ⟨g8,5,none⟩ (.slice q9 DD.needs.length c9)).heap[g8]?=some (.cells #[.string DD.name,.int .i64 DD.vA,.int .i64 DD.vB,.int .i64 DD.vC,.slice q8 DD.vP.length c8,.slice q9 DD.needs.length c9] 35 (0,0)):=by simpa only [List.setIfInBounds_toArray,List.set_cons_succ,List.set_cons_zero] using hbs
            have hhs:hi≤((((((wa2.setCell ⟨g8,0,none⟩ (.string DD.name)).setCell ⟨g8,1,none⟩ (.int .i64 DD.vA)).setCell ⟨g8,2,none⟩ (.int .i64 DD.vB)).setCell ⟨g8,3,none⟩ (.int .i64 DD.vC)).setCell ⟨g8,4,none⟩ (.slice q8 DD.vP.length c8)).setCell ⟨g8,5,none⟩ (.slice q9 DD.needs.length c9)).heap.size:=by simp only [World.setCell,Array.size_modify];exact hhz
            obtain ⟨wY,hWY⟩: ∃ wY,wY=((((((wa2.setCell ⟨g8,0,none⟩ (.string DD.name)).setCell ⟨g8,1,none⟩ (.int .i64 DD.vA)).setCell ⟨g8,2,none⟩ (.int .i64 DD.vB)).setCell ⟨g8,3,none⟩ (.int .i64 DD.vC)).setCell ⟨g8,4,none⟩ (.slice q8 DD.vP.length c8)).setCell ⟨g8,5,none⟩ (.slice q9 DD.needs.length c9)):=⟨_,rfl⟩
            rw [←hWY] at hst rS hb8 hhs
            rw [←hWY]
            clear hWY y0 y1 y2 y3 y4 y5 fy hg8 hbs rN hHeld hgn hhz
            refine wpAnyH_done (by kernel_rfl) ?_ _
            go_wp2_with fail
            go_meet
            case rel=>exact ⟨g8,q8,c8,q9,c9,lo,hi,rfl,rfl,hb8,rS,hhs,hst⟩
          · go_simp
            have kz3:Below (wd).heap.size (wd) ((wd).alloc (.cells #[.string ⟨#[]⟩,.int .i64 0,.int .i64 0,.int .i64 0,.slice none 0 0,.slice none 0 0] 35 (0,0))):=(Below.refl _ _).alloc (Nat.le_refl _) _
            have h3:Below wo.heap.size wo ((wd).alloc (.cells #[.string ⟨#[]⟩,.int .i64 0,.int .i64 0,.int .i64 0,.slice none 0 0,.slice none 0 0] 35 (0,0))):=(h0).trans (kz3.mono (h0).size)
            have hg8:((wd).alloc (.cells #[.string ⟨#[]⟩,.int .i64 0,.int .i64 0,.int .i64 0,.slice none 0 0,.slice none 0 0] 35 (0,0))).heap[(wd).heap.size]?=some (.cells #[.string ⟨#[]⟩,.int .i64 0,.int .i64 0,.int .i64 0,.slice none 0 0,.slice none 0 0] 35 (0,0)):=vheap_new _ _
            have hge8:wo.heap.size≤(wd).heap.size:=(h0).size
            clear hHeld
            refine hK.out _ ((wd).alloc (.cells #[.string ⟨#[]⟩,.int .i64 0,.int .i64 0,.int .i64 0,.slice none 0 0,.slice none 0 0] 35 (0,0))) ?G93 (fun hHeld=>?_)
            case G93=>(exact KEEP.out _ h3)
            clear hK K
            try simp only [Act.put,List.getElem_toArray,List.getElem_cons_zero,List.getElem_cons_succ,List.setIfInBounds_toArray,List.set_cons_zero,List.set_cons_succ]
            obtain ⟨g8,hge⟩: ∃ g,g=(wd).heap.size:=⟨_,rfl⟩
            rw [←hge] at hg8 hge8
            try rw [←hge]
            obtain ⟨wa3,hwa⟩: ∃ wa,wa=(wd).alloc (.cells #[.string ⟨#[]⟩,.int .i64 0,.int .i64 0,.int .i64 0,.slice none 0 0,.slice none 0 0] 35 (0,0)):=⟨_,rfl⟩
            rw [←hwa] at hg8 h3
            try rw [←hwa]
            clear hge hwa kz3
            refine wpAnyH_ready (rs:=[11]) (by kernel_rfl) (by simp) ?_
            refine AllReadyH.cons rfl (fun K hK=>?_) AllReadyH.nil
            go_simp
            go_wp2_with (go_at_call 17;refine (HEN.out _ (h3)).mono ?_;rintro e we4 ⟨q8,c8,q9,c9,rfl,rN,be4⟩)
            have h4:Below wo.heap.size wo we4:=(h3).trans (be4.mono (h3).size)
            have hgl:=(Array.getElem?_eq_some_iff.1 hg8).1
            have hg8:=box_below hg8 be4
            have hgn: ¬Ow (wa3).heap.size we4.heap.size g8:=fun hh=>by have:=hh.1;omega
            clear hHeld
            refine hK.out _ _ ?GE18 (fun hHeld=>?_)
            case GE18=>((try dsimp only);exact KEEP.out _ h4)
            clear hK K
            try simp only [Act.put,List.getElem_toArray,List.getElem_cons_zero,List.getElem_cons_succ,List.setIfInBounds_toArray,List.set_cons_zero,List.set_cons_succ]
            refine tk 12 hHeld (h:=?_)
            refine tk 13 hHeld (h:=?_)
            refine tk 14 hHeld (h:=?_)
            obtain ⟨lo,hlo⟩: ∃ lo,lo=(wa3).heap.size:=⟨_,rfl⟩
            obtain ⟨hi,hhi⟩: ∃ hi,hi=we4.heap.size:=⟨_,rfl⟩
            rw [←hlo, ←hhi] at rN hgn
            have hhz:hi≤we4.heap.size:=Nat.le_of_eq hhi
            clear hlo hhi
            have fy:=vblk_frozen hg8
            have y0:=vblk_cell hg8 0
            have y1:=vblk_cell hg8 1
            have y2:=vblk_cell hg8 2
            have y3:=vblk_cell hg8 3
            have y4:=vblk_cell hg8 4
            have y5:=vblk_cell hg8 5
            simp only [List.getElem?_toArray,List.getElem?_cons_succ,List.getElem?_cons_zero] at y0 y1 y2 y3 y4 y5
            have hst:Below wo.heap.size wo ((((((we4.setCell ⟨g8,0,none⟩ (.string DD.name)).setCell ⟨g8,1,none⟩ (.int .i64 DD.vA)).setCell ⟨g8,2,none⟩ (.int .i64 DD.vB)).setCell ⟨g8,3,none⟩ (.int .i64 DD.vC)).setCell ⟨g8,4,none⟩ (.slice q8 DD.vP.length c8)).setCell ⟨g8,5,none⟩ (.slice q9 DD.needs.length c9)):=Below.setCell (Below.setCell (Below.setCell (Below.setCell (Below.setCell (Below.setCell (h4) hge8 _) hge8 _) hge8 _) hge8 _) hge8 _) hge8 _
            have hbs:=heap_setCell_same _ _ 5 _ _ (.slice q9 DD.needs.length c9) (heap_setCell_same _ _ 4 _ _ (.slice q8 DD.vP.length c8) (heap_setCell_same _ _ 3 _ _ (.int .i64 DD.vC) (heap_setCell_same _ _ 2 _ _ (.int .i64 DD.vB) (heap_setCell_same _ _ 1 _ _ (.int .i64 DD.vA) (heap_setCell_same _ _ 0 _ _ (.string DD.name) hg8)))))
            have rS:=rN.keep (w':=((((((we4.setCell ⟨g8,0,none⟩ (.string DD.name)).setCell ⟨g8,1,none⟩ (.int .i64 DD.vA)).setCell ⟨g8,2,none⟩ (.int .i64 DD.vB)).setCell ⟨g8,3,none⟩ (.int .i64 DD.vC)).setCell ⟨g8,4,none⟩ (.slice q8 DD.vP.length c8)).setCell ⟨g8,5,none⟩ (.slice q9 DD.needs.length c9))) (fun b hb=>by (repeat (rw [Below.heap_setCell _ _ _ _ (by simp;rintro rfl;exact hgn hb)])))
            refine wpAnyH_ready (rs:=[16]) (by kernel_rfl) (by simp) ?_
            refine AllReadyH.cons rfl (fun K hK=>?_) AllReadyH.nil
            go_simp
            clear hHeld
            refine hK.out _ ((((((we4.setCell ⟨g8,0,none⟩ (.string DD.name)).setCell ⟨g8,1,none⟩ (.int .i64 DD.vA)).setCell ⟨g8,2,none⟩ (.int .i64 DD.vB)).setCell ⟨g8,3,none⟩ (.int .i64 DD.vC)).setCell ⟨g8,4,none⟩ (.slice q8 DD.vP.length c8)).setCell ⟨g8,5,none⟩ (.slice q9 DD.needs.length c9)) ?GS22 (fun hHeld=>?_)
            case GS22=>(exact KEEP.out _ hst)
            clear hK K
            try simp only [Act.put,List.getElem_toArray,List.getElem_cons_zero,List.getElem_cons_succ,List.setIfInBounds_toArray,List.set_cons_zero,List.set_cons_succ]
            refine tk 17 hHeld (h:=?_)
            have hb8:((((((we4.setCell ⟨g8,0,none⟩ (.string DD.name)).setCell ⟨g8,1,none⟩ (.int .i64 DD.vA)).setCell ⟨g8,2,none⟩ (.int .i64 DD.vB)).setCell ⟨g8,3,none⟩ (.int .i64 DD.vC)).setCell ⟨g8,4,none⟩ (.slice q8 DD.vP.length c8)).setCell ⟨g8,5,none⟩ (.slice q9 DD.needs.length c9)).heap[g8]?=some (.cells #[.string DD.name,.int .i64 DD.vA,.int .i64 DD.vB,.int .i64 DD.vC,.slice q8 DD.vP.length c8,.slice q9 DD.needs.length c9] 35 (0,0)):=by simpa only [List.setIfInBounds_toArray,List.set_cons_succ,List.set_cons_zero] using hbs
            have hhs:hi≤((((((we4.setCell ⟨g8,0,none⟩ (.string DD.name)).setCell ⟨g8,1,none⟩ (.int .i64 DD.vA)).setCell ⟨g8,2,none⟩ (.int .i64 DD.vB)).setCell ⟨g8,3,none⟩ (.int .i64 DD.vC)).setCell ⟨g8,4,none⟩ (.slice q8 DD.vP.length c8)).setCell ⟨g8,5,none⟩ (.slice q9 DD.needs.length c9)).heap.size:=by simp only [World.setCell,Array.size_modify];exact hhz
            obtain ⟨wY,hWY⟩: ∃ wY,wY=((((((we4.setCell ⟨g8,0,none⟩ (.string DD.name)).setCell ⟨g8,1,none⟩ (.int .i64 DD.vA)).setCell ⟨g8,2,none⟩ (.int .i64 DD.vB)).setCell ⟨g8,3,none⟩ (.int .i64 DD.vC)).setCell ⟨g8,4,none⟩ (.slice q8 DD.vP.length c8)).setCell ⟨g8,5,none⟩ (.slice q9 DD.needs.length c9)):=⟨_,rfl⟩
            rw [←hWY] at hst rS hb8 hhs
            rw [←hWY]
            clear hWY y0 y1 y2 y3 y4 y5 fy hg8 hbs rN hHeld hgn hhz
            refine wpAnyH_done (by kernel_rfl) ?_ _
            go_wp2_with fail
            go_meet
            case rel=>exact ⟨g8,q8,c8,q9,c9,lo,hi,rfl,rfl,hb8,rS,hhs,hst⟩
        case rest=>
          obtain ⟨g8,q8,c8,q9,c9,lo,hi,rfl,rfl,hg8,rN,hhz,hst⟩:=hcut
          have kc:=hbr.trans (hst.mono hbr.size)
          have y5:wc.cell? ⟨g8,5,none⟩=some (.slice q9 DD.needs.length c9):=vblk_cell hg8 5
          have HMC:=hidden (HMT.out wc (Ow lo hi) _ DD.needs kc rN (fun b hb=>Nat.lt_of_lt_of_le hb.2 hhz) hwDD)
          rw [←hMB2] at HMC
          clear HEN KEEP h0 hg8 rN hMB2 hhz
          cases IS with
          |false=>
            have HE:=hidden (HF.out rfl)
            clear HF HN'
            go_wp2_with fail
            go_ret
            exact ⟨by rw [HE.out];rfl,kc⟩
          |true=>
            rw [Bool.true_and] at HF HN'
            go_wp2_with fail
            go_at_call 118
            refine HMC.out.mono ?_
            rintro e w7 ⟨rfl,b7⟩
            have k7:=kc.trans (b7.mono kc.size)
            clear HMC y5
            cases MB2 with
            |false=>
              have HE:=hidden (HF.out rfl)
              clear HF HN'
              go_wp2_with fail
              go_ret
              exact ⟨by rw [HE.out];rfl,k7⟩
            |true=>
              have HN2:=hidden (HN'.out rfl)
              clear HF HN' kc hst b7
              go_wp2_with fail
              go_loopw [10] (fun vj wr=>∃ j:Nat,j≤k∧vj=.int .i64 (j:Int)∧Hid (∀ i (hi:i<k),i<j→¬l[i].name=l[k].name)∧Below w.heap.size w wr) (fun vj _=>k-(intOf vj).toNat)
              case atStart=>exact ⟨0,Nat.zero_le _,rfl,(fun j hj h=>by omega),k7⟩
              case round=>
                obtain ⟨j,hj,rfl,hnj,hbj⟩:=hrel
                by_cases hjk:j<k
                · have z0:=HNM.out j (by omega) wr hbj
                  have z1:=HNM.out k hlt' wr hbj
                  have hji:(j:Int)<(k:Int):=by omega
                  have hjl:(j:Int)<(l.length:Int):=by omega
                  have HF1:Hid (l[j].name=l[k].name→R=false):=HFN.out j hjk
                  have HF2:Hid (¬l[j].name=l[k].name→∀ i (hi:i<k),i<j+1→¬l[i].name=l[k].name):=fun h i hi hij=>by
                    by_cases e:i=j
                    · subst e;exact h
                    · exact hnj.out i hi (by omega)
                  obtain ⟨t0,ht0⟩: ∃ t,t=l[j].name:=⟨_,rfl⟩
                  obtain ⟨t1,ht1⟩: ∃ t,t=l[k].name:=⟨_,rfl⟩
                  rw [←ht0] at z0 HF1 HF2
                  rw [←ht1] at z1 HF1
                  have HF3:Hid (¬t0=t1→∀ i (hi:i<k),i<j+1→¬l[i].name=l[k].name):=fun h=>HF2.out (by rw [←ht1];exact h)
                  have hal:=name_alike t0 t1
                  clear hnj HF2 ht0 ht1 HFN
                  by_cases hts:t0=t1
                  · have hq:(t0.toList == t1.toList)=true:=by rw [hal];simpa using hts
                    have HE:=hidden (HF1.out hts)
                    clear HF1 HF3 hts hal
                    go_wp2_with fail
                    go_quiet (fail)
                    go_wp2_with fail
                    go_ret
                    exact ⟨by rw [HE.out];rfl,by first|exact hbj|exact hbj.drew|exact below_drewN' hbj _⟩
                  · have hq:(t0.toList == t1.toList)=false:=by rw [hal];simpa using hts
                    have HN3:=hidden (HF3.out hts)
                    clear HF1 HF3 hts hal
                    go_wp2_with fail
                    go_quiet (fail)
                    go_wp2_with fail
                    go_roundw
                    case rel=>exact ⟨j+1,by omega,by go_num,HN3.out,by first|exact hbj|exact hbj.drew|exact below_drewN' hbj _⟩
                    case measure=>simp [intOf];omega
                · have he:j=k:=by omega
                  subst he
                  have HN3:=hidden (HN2.out (fun i hi=>hnj.out i hi hi))
                  clear hnj HFN HN2
                  go_wp2_with fail
                  go_roundw
                  case rel=>exact ⟨j+1,by omega,by go_num,HN3.out,hbj⟩
                  case measure=>simp [intOf];omega
      · have he:k=l.length:=by omega
        subst he
        have HE:Hid (R=true):=HR.out.trans (solB_true HMB.out.symm (fun i hi=>hno.out i hi hi))
        clear hno HR HA HMT HEN0
        go_wp2_with fail
        go_ret
        exact ⟨by rw [HE.out];rfl,hbr⟩
def allN (xs:List PackD):List NeedD:=xs.flatMap (·.needs)
theorem allN_take (xs:List PackD) (k:Nat) (h:k<xs.length):allN (xs.take (k+1))=allN (xs.take k)++xs[k].needs:=by
 unfold allN
 rw [List.take_succ_eq_append_getElem h,List.flatMap_append];simp
theorem allN_wt : ∀ xs:List PackD,wtRow wtNeed (allN xs)≤wtRow wtPack xs
 |[]=>by simp [allN,wtRow]
 |d::xs=>by
  have h1:=allN_wt xs
  have e1:wtRow wtNeed (allN (d::xs))=wtRow wtNeed d.needs+wtRow wtNeed (allN xs):=by simp [allN,wtRow]
  have e2:wtRow wtPack (d::xs)=(1+wtPack d)+wtRow wtPack xs:=by simp [wtRow]
  have h2:wtRow wtNeed d.needs≤wtPack d:=by unfold wtPack;omega
  omega
theorem allN_len (xs:List PackD) (k:Nat):(allN (xs.take k)).length≤wtRow wtPack xs:=by
 have h1:=len_wtRow wtNeed (allN (xs.take k))
 have h2:=allN_wt (xs.take k)
 have h3:=wtRow_split wtPack xs k
 omega
theorem add_zero (g j:Nat):(⟨g,0,none⟩:Addr).add j=⟨g,j,none⟩:=by unfold Addr.add;split<;>simp_all
theorem owns_src {w:World} {lo n cap g:Nat} {e:TypeId} {sz:Nat} {xs:List Value} (h:w.ownsRow lo e sz (.slice (some ⟨g,0,none⟩) n cap) n xs): ∀ j u,xs[j]?=some u→w.cell? ((⟨g,0,none⟩:Addr).add j)=some u:=fun j u hu=>by
 have hj:j<n*sz:=by
  have:=(List.getElem?_eq_some_iff.1 hu).1
  have:=h.1
  omega
 rw [add_zero,h.cellAt j hj]
 exact hu
theorem implWanted_c (S:Nat→Prop) (v:Value) (xs:List PackD) (w:World) (hv:RowIn shPack S w v xs) (hB: ∀ b,S b→b<w.heap.size) (hw:wtRow wtPack xs≤1048576):
  Calls Tryz.prog 131 #[v] w fun e w'=>∃ u',e=.returned u'∧w'.ownsRow w.heap.size 39 2 u' (allN xs).length (needsV (allN xs))∧Below w.heap.size w w':=by
 obtain ⟨i0,hi,hz0,hz1,hz2⟩:=info_parts infoNeed
 have hwe: ∀ d∈xs,wtPack d≤1048576:=fun d hd=>Nat.le_trans (wt_wtRow wtPack hd) hw
 obtain ⟨av,cv,rfl,hl,hc,ha⟩:=hv
 unfold maxLen at hl
 go_enter Tryz.func131,Tryz.ntmps131
 go_wp2_with fail
 go_loopw [3,8] (fun vx vi wr=>∃ (k m:Nat) (ys:List Value),k≤xs.length∧vi=.int .i64 (k:Int)∧Hid (m=(allN (xs.take k)).length∧ys=needsV (allN (xs.take k)))∧wr.ownsRow w.heap.size 39 2 vx m ys∧Below w.heap.size w wr) (fun _ vi _=>xs.length-(intOf vi).toNat)
 case atStart=>exact ⟨0,0,[],Nat.zero_le _,rfl,⟨by simp [allN],by simp [allN,needsV]⟩,World.ownsRow_nil _ _ _ _,Below.refl _ _⟩
 case round=>
  obtain ⟨k,m,ys,hk,rfl,hmy,hown,hbr⟩:=hrel
  obtain ⟨qo,co,hvo⟩:=owns_sliceP hown
  subst hvo
  by_cases hlt':k<xs.length
  ·rcases ha with rfl|⟨b,off,rfl,hlt,ha⟩
   ·simp at hlt'
   obtain ⟨cs,hL,hcell⟩:=ha k hlt'
   have hcell2:=hcell.keep (.of hbr hB) hlt
   replace hL:=shPack.keep (.of hbr hB) hL
   have hBr: ∀ b,S b→b<wr.heap.size:=fun b h=>Nat.lt_of_lt_of_le (hB b h) hbr.size
   have hwk:=hwe xs[k] (List.getElem_mem hlt')
   have hn1:=allN_len xs (k+1)
   have HT:Hid ((allN (xs.take (k+1))).length=m+xs[k].needs.length∧needsV (allN (xs.take (k+1)))=ys++needsV xs[k].needs):=⟨by rw [allN_take xs k hlt',hmy.out.1,List.length_append],by rw [allN_take xs k hlt',hmy.out.2,needsV_append]⟩
   have hsum:m+xs[k].needs.length≤1048576:=by have:=HT.out.1;omega
   obtain ⟨d,hd⟩: ∃ d,d=xs[k]:=⟨_,rfl⟩
   rw [←hd] at hL HT hwk hsum
   obtain ⟨u0,u1,u2,rfl,s_n,r0,p0,r1,r2⟩:=hL
   have hwn:wtRow wtNeed d.needs≤1048576:=by unfold wtPack at hwk;omega
   have HV': ∀ w1,Below wr.heap.size wr w1→Calls Tryz.prog 147 #[u1] w1 fun e w'=>∃ u',e=.returned u'∧w'.ownsRow w1.heap.size 39 2 u' d.needs.length (needsV d.needs)∧Below w1.heap.size w1 w':=fun w1 h=>copyNeeds_c S u1 d.needs w1 (r1.keep (.of h hBr)) (fun b hb=>Nat.lt_of_lt_of_le (hBr b hb) h.size) hwn
   have HV:=hidden HV'
   clear HV'
   obtain ⟨a0,c0,eu0,_⟩:=id r0
   rw [length_strsV] at eu0
   obtain ⟨a1,c1,eu1,_⟩:=id r1
   obtain ⟨a2,c2,eu2,_⟩:=id r2
   subst eu0 eu1 eu2
   have e0:wr.cell? ⟨b,off+k*4,none⟩=some (.string d.name):=hcell2 0 (by simp)
   have e1:wr.cell? ⟨b,off+k*4+1,none⟩=some (.slice a0 d.uses.length c0):=hcell2 1 (by simp)
   have e2:wr.cell? ⟨b,off+k*4+2,none⟩=some (.slice a1 d.needs.length c1):=hcell2 2 (by simp)
   have e3:wr.cell? ⟨b,off+k*4+3,none⟩=some (.slice a2 d.cmds.length c2):=hcell2 3 (by simp)
   have hki:(k:Int)<(xs.length:Int):=by omega
   have hb0:Below wr.heap.size wr (wr.alloc (.cells #[.string d.name,.slice a0 d.uses.length c0,.slice a1 d.needs.length c1,.slice a2 d.cmds.length c2] 189 (0,0))):=(Below.refl _ _).alloc (Nat.le_refl _) _
   have o0:=owns_of_belowN hown hb0
   have k0:=hbr.trans (hb0.mono hbr.size)
   clear ha hd hcell hcell2 r0 r1 r2 hown hmy hwk hn1
   go_wp2_with fail
   go_at_call 147
   refine (HV.out _ hb0).mono ?_
   rintro e w1 ⟨u',rfl,ho,b1⟩
   have k1:=k0.trans (b1.mono k0.size)
   have o1:=owns_of_belowN o0 b1
   clear HV o0 hb0 e0 e1 e2 e3
   rcases id ho.2 with ⟨rfl,hn0⟩|⟨g,cap,cur,rfl,_,_⟩
   ·have HY:Hid (ys++needsV d.needs=ys∧m+d.needs.length=m):=by
     have hnil:d.needs=[]:=List.eq_nil_of_length_eq_zero hn0
     exact ⟨by rw [hnil];simp [needsV],by omega⟩
    clear ho
    go_wp2_with (at_builtin;refine wpList_append_own_none rfl _ _ 33 rfl w.heap.size 39 i0 2 Tryz.underlying33 hi _ m ys rfl o1 rfl ?_)
    go_wp2_with fail
    go_roundw
    case rel=>exact ⟨k+1,m,ys,by omega,by go_num,⟨by rw [HT.out.1,HY.out.2],by rw [HT.out.2,HY.out.1]⟩,o1,k1⟩
    case measure=>simp [intOf];omega
   ·have hsrc:=owns_src ho
    have HSRC:=hidden hsrc
    have hll:(needsV d.needs).length=d.needs.length*2:=needsV_length _
    clear hsrc ho
    go_wp2_with (at_builtin;refine wpList_append_own _ rfl _ _ 33 rfl w.heap.size 39 i0 (.agg #[.string ⟨#[]⟩,.string ⟨#[]⟩]) 2 32 Tryz.underlying33 hi hz0 hz1 hz2 rfl (by decide) _ m ys rfl o1 ⟨g,0,none⟩ d.needs.length cap (needsV d.needs) rfl hll HSRC.out (needsV_one d.needs) (by unfold maxLen;omega) (by omega) k1.size ?_)
    intro v3 w3 o3 gr3 _
    have hb3:Below w.heap.size w w3:=Below.grown k1 gr3 k1.size (fun j hj=>(o1.lt _ hj).1)
    go_wp2_with fail
    go_roundw
    case rel=>exact ⟨k+1,_,_,by omega,by go_num,⟨HT.out.1.symm,HT.out.2.symm⟩,o3,hb3⟩
    case measure=>simp [intOf];omega
  ·have he:k=xs.length:=by omega
   subst he
   have HE:Hid (m=(allN xs).length∧ys=needsV (allN xs)):=by have:=hmy.out;rw [List.take_length] at this;exact this
   have HO:=hidden hown
   clear ha hmy hown
   go_wp2_with fail
   go_ret
   refine ⟨_,rfl,?_,hbr⟩
   have:=HO.out
   rw [HE.out.1,HE.out.2] at this
   rw [HE.out.1]
   exact this
theorem specWanted_c (S:Nat→Prop) (v:Value) (xs:List PackD) (w:World) (hv:RowIn shPackO S w v xs) (hB: ∀ b,S b→b<w.heap.size) (hw:wtRow wtPack xs≤1048576):
  Calls Tryz.prog 132 #[v] w fun e w'=>∃ u',e=.returned u'∧w'.ownsRow w.heap.size 39 2 u' (allN xs).length (needsV (allN xs))∧Below w.heap.size w w':=by
 obtain ⟨i0,hi,hz0,hz1,hz2⟩:=info_parts infoNeed
 have hwe: ∀ d∈xs,wtPack d≤1048576:=fun d hd=>Nat.le_trans (wt_wtRow wtPack hd) hw
 obtain ⟨av,cv,rfl,hl,hc,ha⟩:=hv
 unfold maxLen at hl
 have hbx:Below w.heap.size w (w.alloc (.cells #[] 39)):=(Below.refl _ _).alloc (Nat.le_refl _) _
 have hg0:(w.alloc (.cells #[] 39)).ownsRow w.heap.size 39 2 (.slice (some ⟨w.heap.size,0,none⟩) 0 0) 0 []:=World.ownsRow_lit w #[] 0 (Nat.le_refl _) (by unfold maxLen;omega) rfl
 go_enter Tryz.func132,Tryz.ntmps132
 go_wp2_with fail
 go_loopw [3,4] (fun vx vi wr=>∃ (k m:Nat) (ys:List Value),k≤xs.length∧vi=.int .i64 (k:Int)∧Hid (m=(allN (xs.take k)).length∧ys=needsV (allN (xs.take k)))∧wr.ownsRow w.heap.size 39 2 vx m ys∧Below w.heap.size w wr) (fun _ vi _=>xs.length-(intOf vi).toNat)
 case atStart=>exact ⟨0,0,[],Nat.zero_le _,rfl,⟨by simp [allN],by simp [allN,needsV]⟩,hg0,hbx⟩
 case round=>
  clear hbx hg0
  obtain ⟨k,m,ys,hk,rfl,hmy,hown,hbr⟩:=hrel
  obtain ⟨qo,co,hvo⟩:=owns_sliceP hown
  subst hvo
  by_cases hlt':k<xs.length
  ·rcases ha with rfl|⟨b,off,rfl,hlt,ha⟩
   ·simp at hlt'
   obtain ⟨cs,hL,hcell⟩:=ha k hlt'
   have hcell2:=hcell.keep (.of hbr hB) hlt
   replace hL:=shPackO.keep (.of hbr hB) hL
   have hn1:=allN_len xs (k+1)
   have HT:Hid ((allN (xs.take (k+1))).length=m+xs[k].needs.length∧needsV (allN (xs.take (k+1)))=ys++needsV xs[k].needs):=⟨by rw [allN_take xs k hlt',hmy.out.1,List.length_append],by rw [allN_take xs k hlt',hmy.out.2,needsV_append]⟩
   have hsum:m+xs[k].needs.length≤1048576:=by have:=HT.out.1;omega
   obtain ⟨d,hd⟩: ∃ d,d=xs[k]:=⟨_,rfl⟩
   rw [←hd] at hL HT hsum
   obtain ⟨u0,u1,u2,rfl,s_n,r0,p0,r1,r2⟩:=hL
   obtain ⟨_,yn,hyn,_,hLd⟩:=r1
   have hyN:=laid_needs hLd hyn.1
   subst hyN
   have e2:wr.cell? ⟨b,off+k*4+2,none⟩=some u1:=hcell2 2 (by simp)
   have hki:(k:Int)<(xs.length:Int):=by omega
   clear ha hd hcell hcell2 r0 r2 hmy hn1 hLd
   have ho:wr.ownsRow 0 39 2 u1 d.needs.length (needsV d.needs):=hyn
   clear hyn
   rcases id ho.2 with ⟨rfl,hn0⟩|⟨g,cap,cur,rfl,_,_⟩
   ·have HY:Hid (ys++needsV d.needs=ys∧m+d.needs.length=m):=by
     have hnil:d.needs=[]:=List.eq_nil_of_length_eq_zero hn0
     exact ⟨by rw [hnil];simp [needsV],by omega⟩
    clear ho
    go_wp2_with (at_builtin;refine wpList_append_own_none rfl _ _ 33 rfl w.heap.size 39 i0 2 Tryz.underlying33 hi _ m ys rfl hown rfl ?_)
    go_wp2_with fail
    go_roundw
    case rel=>exact ⟨k+1,m,ys,by omega,by go_num,⟨by rw [HT.out.1,HY.out.2],by rw [HT.out.2,HY.out.1]⟩,hown,hbr⟩
    case measure=>simp [intOf];omega
   ·have hsrc:=owns_src ho
    have HSRC:=hidden hsrc
    have hll:(needsV d.needs).length=d.needs.length*2:=needsV_length _
    clear hsrc ho
    go_wp2_with (at_builtin;refine wpList_append_own _ rfl _ _ 33 rfl w.heap.size 39 i0 (.agg #[.string ⟨#[]⟩,.string ⟨#[]⟩]) 2 32 Tryz.underlying33 hi hz0 hz1 hz2 rfl (by decide) _ m ys rfl hown ⟨g,0,none⟩ d.needs.length cap (needsV d.needs) rfl hll HSRC.out (needsV_one d.needs) (by unfold maxLen;omega) (by omega) hbr.size ?_)
    intro v3 w3 o3 gr3 _
    have hb3:Below w.heap.size w w3:=Below.grown hbr gr3 hbr.size (fun j hj=>(hown.lt _ hj).1)
    go_wp2_with fail
    go_roundw
    case rel=>exact ⟨k+1,_,_,by omega,by go_num,⟨HT.out.1.symm,HT.out.2.symm⟩,o3,hb3⟩
    case measure=>simp [intOf];omega
  ·have he:k=xs.length:=by omega
   subst he
   have HE:Hid (m=(allN xs).length∧ys=needsV (allN xs)):=by have:=hmy.out;rw [List.take_length] at this;exact this
   have HO:=hidden hown
   clear ha hmy hown
   go_wp2_with fail
   go_ret
   refine ⟨_,rfl,?_,hbr⟩
   have:=HO.out
   rw [HE.out.1,HE.out.2] at this
   rw [HE.out.1]
   exact this
theorem own_putP {w:World} {lo lo' sz sz' n n' g j cap:Nat} {e e':TypeId} {u x:Value} {zs ys:List Value} (h:w.ownsRow lo e sz u n zs) (hg:w.ownsRow lo' e' sz' (.slice (some ⟨g,0,none⟩) n' cap) n' ys) (hne:e≠e'):(w.setCell ⟨g,j,none⟩ x).ownsRow lo e sz u n zs:=by
 refine owns_kept (S:=fun b=>b≠g) (Kp.set (fun k=>k rfl)) (fun g' hg'=>?_) h
 rintro rfl
 rcases owns_apart h hg hne with k|k
 ·rw [k] at hg';cases hg'
 ·exact k (by rw [hg'];rfl)
theorem CmdRows.put {w:World} {S:Nat→Prop} {ys:List Value} {ns:List Nat} {lo' sz' n' g j cap:Nat} {e':TypeId} {zs:List Value} {x:Value} (h:CmdRows w S ys ns) (hg:w.ownsRow lo' e' sz' (.slice (some ⟨g,0,none⟩) n' cap) n' zs) (hne:9≠e'):CmdRows (w.setCell ⟨g,j,none⟩ x) S ys ns:=fun i hi=>by
 obtain ⟨u,xs,h1,h2,h3⟩:=h i hi
 exact ⟨u,xs,h1,own_putP h2 hg hne,h3⟩
def PackRows (w:World) (S:Nat→Prop) (ys:List Value) (xs:List PackD):Prop:=∀ i (h:i<xs.length),∃ u0 u1 u2 z0 z1 z2,ys[i*4+1]?=some u0∧ys[i*4+2]?=some u1∧ys[i*4+3]?=some u2∧w.ownsRow 0 9 1 u0 xs[i].uses.length z0∧(∀ g,u0.ownBlock=some g→S g)∧w.ownsRow 0 39 2 u1 xs[i].needs.length z1∧(∀ g,u1.ownBlock=some g→S g)∧w.ownsRow 0 305 2 u2 xs[i].cmds.length z2∧(∀ g,u2.ownBlock=some g→S g)∧CmdRows w S z2 (xs[i].cmds.map fun c=>c.acts.length)
theorem PackRows.set {w:World} {S:Nat→Prop} {ys:List Value} {xs:List PackD} (h:PackRows w S ys xs) (i:Nat) (v:Value):PackRows w S (ys.set (i*4) v) xs:=fun j hj=>by
 obtain ⟨u0,u1,u2,z0,z1,z2,h1,h2,h3,h4⟩:=h j hj
 exact ⟨u0,u1,u2,z0,z1,z2,by rw [List.getElem?_set_ne (by omega)];exact h1,by rw [List.getElem?_set_ne (by omega)];exact h2,by rw [List.getElem?_set_ne (by omega)];exact h3,h4⟩
theorem owns_belowP {w w':World} {lo sz n:Nat} {e:TypeId} {u:Value} {zs:List Value} (h:w.ownsRow lo e sz u n zs) (hb:Below w.heap.size w w'):w'.ownsRow lo e sz u n zs:=owns_kept (S:=fun b=>b<w.heap.size) (.of hb (fun b h=>h)) (fun g hg=>(owns_in h g hg).2) h
theorem PackRows.below {w w':World} {S:Nat→Prop} {ys:List Value} {xs:List PackD} (h:PackRows w S ys xs) (hb:Below w.heap.size w w'):PackRows w' S ys xs:=fun j hj=>by
 obtain ⟨u0,u1,u2,z0,z1,z2,h1,h2,h3,a0,i0,a1,i1,a2,i2,c⟩:=h j hj
 exact ⟨u0,u1,u2,z0,z1,z2,h1,h2,h3,owns_belowP a0 hb,i0,owns_belowP a1 hb,i1,owns_belowP a2 hb,i2,c.below hb⟩
end Go.Proofs.YtlfmefojcmpfeaaGreatDoor
