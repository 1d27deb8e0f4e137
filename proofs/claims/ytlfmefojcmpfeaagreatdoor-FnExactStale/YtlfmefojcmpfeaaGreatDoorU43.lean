/-
  Contracts for the walks and pure facts, several texts in one: each theorem says what it proves, and under which conditions.
-/
import Derived.Test.YtlfmefojcmpfeaaGreatDoorUT
import Derived.Test.YtlfmefojcmpfeaaGreatDoorU42
set_option linter.unusedSimpArgs false
set_option linter.unusedVariables false
set_option maxHeartbeats 16000000
set_option maxRecDepth 100000
namespace Go.Proofs.YtlfmefojcmpfeaaGreatDoor
open Go.RowKit
def wfP (d:PickD):Prop:=(Lit.int .i64 d.vA).wf=true∧(Lit.int .i64 d.vB).wf=true∧(Lit.int .i64 d.vC).wf=true
theorem keyP_ok {d:PickD} (hn:d.name.size≤maxLen) (hw:wfP d) (hb:bulkS d.vP≤1048576):(keyP d).ok:=by
 refine ⟨hn,hw.1,hw.2.1,hw.2.2,?_⟩
 have:=preL_len d.vP
 show (preL d.vP).toArray.size≤_
 unfold maxLen
 simp;omega
theorem pick_vals {S:Nat→Prop} {w:World} {v:Value} {l:List PickD} (hv:RowIn shPick S w v l): ∃ (q:Option Addr) (cap:Nat) (vals:Nat→Value),v=.slice q l.length cap∧l.length≤maxLen∧PickVals S w l vals∧
  (l=[]∨∃ (b off:Nat),q=some ⟨b,off,none⟩∧S b∧∀ k (h:k<l.length),∃ q c,vals k=.agg #[.int .i64 l[k].vA,.int .i64 l[k].vB,.int .i64 l[k].vC,.slice q l[k].vP.length c]∧l[k].name.size≤maxLen∧RdB S w (.slice q l[k].vP.length c) (strsV l[k].vP)∧CellsAt w b (off+k*5) [.string l[k].name,.int .i64 l[k].vA,.int .i64 l[k].vB,.int .i64 l[k].vC,.slice q l[k].vP.length c]):=by
 obtain ⟨q,cap,rfl,hl,hc,ha⟩:=hv
 rcases ha with rfl|⟨b,off,rfl,hb,ha⟩
 ·exact ⟨q,cap,fun _=>undef,rfl,hl,fun i h=>by simp at h,.inl rfl⟩
 have h1: ∀ k:Nat,∃ x:Value,∀ h:k<l.length,∃ q c,x=.agg #[.int .i64 l[k].vA,.int .i64 l[k].vB,.int .i64 l[k].vC,.slice q l[k].vP.length c]∧l[k].name.size≤maxLen∧RdB S w (.slice q l[k].vP.length c) (strsV l[k].vP)∧CellsAt w b (off+k*5) [.string l[k].name,.int .i64 l[k].vA,.int .i64 l[k].vB,.int .i64 l[k].vC,.slice q l[k].vP.length c]:=fun k=>by
  by_cases h:k<l.length
  ·obtain ⟨cs,⟨u0,rfl,s_n,r0,_⟩,h3⟩:=ha k h
   obtain ⟨a0,c0,eu0,_⟩:=id r0
   rw [length_strsV] at eu0
   subst eu0
   exact ⟨.agg #[.int .i64 l[k].vA,.int .i64 l[k].vB,.int .i64 l[k].vC,.slice a0 l[k].vP.length c0],fun _=>⟨a0,c0,rfl,s_n,r0,h3⟩⟩
  ·exact ⟨undef,fun h2=>absurd h2 h⟩
 obtain ⟨vals,hvals⟩:=Classical.axiomOfChoice h1
 exact ⟨_,cap,vals,rfl,hl,fun i hi=>by obtain ⟨q,c,e1,_,e2,_⟩:=hvals i hi;exact ⟨q,c,e1,e2⟩,.inr ⟨b,off,rfl,hb,hvals⟩⟩
theorem implSolves_c (Sr Sn Sp:Nat→Prop) (rv nv pv:Value) (r:List EntryD) (ns:List NeedD) (l:List PickD) (w:World) (hr:RowIn shEntry Sr w rv r) (hn:RowIn shNeed Sn w nv ns) (hp:RowIn shPick Sp w pv l)
    (hBr: ∀ b,Sr b→b<w.heap.size) (hBn: ∀ b,Sn b→b<w.heap.size) (hBp: ∀ b,Sp b→b<w.heap.size) (hwr:wtRow wtEntry r≤1048576) (hwn:wtRow wtNeed ns≤1048576) (hwl:wtRow wtPick l≤1048576) (hfr: ∀ d∈r,wfE d) (hfl: ∀ d∈l,wfP d) (hT:Tabs w)
    (htab:Lib.TabIs Tryz.prog w "internal/strconv.uint64pow10" .u64 Lib.pow10Tab):
    Calls Tryz.prog 35 #[rv,nv,pv] w fun e w'=>e=.returned (.bool (solB r ns l))∧Below w.heap.size w w':=by
  obtain ⟨qp,cp,vals,rfl,hll,hpv,hcell⟩:=pick_vals hp
  unfold maxLen at hll
  have hll2:l.length≤1048576:=Nat.le_trans (len_wtRow wtPick l) hwl
  have hwE: ∀ e∈r,wtRow wtNeed e.needs≤1048576:=fun e he=>by
    have h1:e.name.size+bulkS e.vP+wtRow wtNeed e.needs≤wtRow wtEntry r:=wt_wtRow wtEntry he
    omega
  have HBY:Hid (∀ w1,Below w.heap.size w w1→Calls Tryz.prog 80 #[rv] w1 fun e w'=>∃ vs:Nat→Value,e=.returned (.map (some w1.heap.size))∧(∀ i (h:i<r.length),∃ cs:List Value,vs i=.agg cs.toArray∧shEntry.lies Sr w1 cs r[i])∧MapE w' w1.heap.size r.length (fun q=>(firstK r q).map vs)∧Below w1.heap.size w1 w'):=fun w1 h=>byKey_c Sr rv r w1 (hr.keep (.of h hBr)) (fun b hb=>Nat.lt_of_lt_of_le (hBr b hb) h.size) hwr hfr (tabIs_below h htab)
  have HAM:Hid (∀ w1 (S:Nat→Prop) v (ns:List NeedD) mb n s,Below w.heap.size w w1→RowIn shNeed S w1 v ns→(∀ b,S b→b<w1.heap.size)→wtRow wtNeed ns≤1048576→MapV w1 mb n s (fun p=>(firstP l p).map vals)→Calls Tryz.prog 109 #[v,.map (some mb)] w1 fun e w'=>e=.returned (.bool (metB ns l))∧Below w1.heap.size w1 w'):=fun w1 S v ns mb n s h hv hB hw hm=>allMet_c S Sp v ns mb n s l vals w1 hv hB (fun b hb=>Nat.lt_of_lt_of_le (hBp b hb) h.size) hw hm (hpv.keep (.of h hBp)) hwl (hT.below h)
  have HKY : Hid (∀ w1 i (hi : i < l.length) q c, Below w.heap.size w w1 → RdB Sp w (.slice q l[i].vP.length c) (strsV l[i].vP) → Calls Tryz.prog 81 #[.string l[i].name, .agg #[.int .i64 l[i].vA, .int .i64 l[i].vB, .int .i64 l[i].vC, .slice q l[i].vP.length c]] w1 fun e w' => e = .returned (.agg #[.string l[i].name, .int .i64 l[i].vA, .int .i64 l[i].vB, .int .i64 l[i].vC, .string ⟨(preL l[i].vP).toArray⟩]) ∧ Below w1.heap.size w1 w') := fun w1 i hi q c h hrd => entryKey_c _ _ _ _ _ l[i].vP w1 ((hrd.keep (.of h hBp)).reads (fun b hb => Nat.lt_of_lt_of_le (hBp b hb) h.size)) (by
    have := pick_wt hwl (some i)
    rw [show atP l (some i) = l[i] by simp [atP, hi]] at this
    exact this) (tabIs_below h htab)
  have HOK : Hid (∀ i (hi : i < l.length), l[i].name.size ≤ maxLen → (keyP l[i]).ok) := fun i hi hs => keyP_ok hs (hfl _ (List.getElem_mem hi)) (by
    have := pick_wt hwl (some i)
    rw [show atP l (some i) = l[i] by simp [atP, hi]] at this
    exact this)
  obtain ⟨qn,cn,hqn⟩:=hn.slice
  subst hqn
  obtain ⟨qr,cr,hqr⟩:=hr.slice
  subst hqr
  obtain ⟨R,hR⟩: ∃ R,R=solB r ns l:=⟨_,rfl⟩
  rw [←hR]
  have HR:=hidden hR
  have HHN:=hidden (And.intro hn hwn)
  have HWE:=hidden hwE
  have HBR:=hidden (And.intro hBr hBn)
  have HCL:=hidden hcell
  clear hR hr hn hp hfr hfl hT htab hwE hpv hcell hwr hwn hBr hBn
  have hmm:= @run_makeMap Tryz.prog
  go_enter Tryz.func35,Tryz.ntmps35
  go_wp2_with fail
  go_loopw [18] (fun vi wr=>∃ k:Nat,k≤l.length∧vi=.int .i64 (k:Int)∧MapV wr w.heap.size k (cntN l k) (fun p=>(lastP l p k).map vals)∧Below w.heap.size w wr) (fun vi _=>l.length-(intOf vi).toNat)
  case atStart=>exact ⟨0,Nat.zero_le _,rfl,(MapV_made w).same (fun p=>rfl),(Below.refl _ _).alloc (Nat.le_refl _) _⟩
  case round=>
    obtain ⟨k,hk,rfl,hm,hbr⟩:=hrel
    clear hmm
    by_cases hlt':k<l.length
    · rcases HCL.out with rfl|⟨b,off,rfl,hlt,ha⟩
      · simp at hlt'
      obtain ⟨q,c,hvk,s_n,hrd,hcl⟩:=ha k hlt'
      replace hcl:=hcl.keep (.of hbr hBp) hlt
      have HST:Hid (∀ p,lastP l p (k+1)=if p=l[k].name then some k else lastP l p k):=lastP_step l k hlt'
      have HCS:Hid (cntN l (k+1)=if (lastP l l[k].name k).isSome=true then cntN l k else cntN l k+1):=cntN_step l k hlt'
      obtain ⟨d,hd⟩: ∃ d,d=l[k]:=⟨_,rfl⟩
      rw [←hd] at hvk s_n hrd hcl HST HCS
      have HVK:=hidden hvk
      have e0:wr.cell? ⟨b,off+k*5,none⟩=some (.string d.name):=hcl 0 (by simp)
      have e1:wr.cell? ⟨b,off+k*5+1,none⟩=some (.int .i64 d.vA):=hcl 1 (by simp)
      have e2:wr.cell? ⟨b,off+k*5+2,none⟩=some (.int .i64 d.vB):=hcl 2 (by simp)
      have e3:wr.cell? ⟨b,off+k*5+3,none⟩=some (.int .i64 d.vC):=hcl 3 (by simp)
      have e4:wr.cell? ⟨b,off+k*5+4,none⟩=some (.slice q d.vP.length c):=hcl 4 (by simp)
      have hki:(k:Int)<(l.length:Int):=by omega
      have kB:Below wr.heap.size wr (wr.alloc (.cells #[.string d.name,.int .i64 d.vA,.int .i64 d.vB,.int .i64 d.vC,.slice q d.vP.length c] 59 (0,0))):=(Below.refl _ _).alloc (Nat.le_refl _) _
      have hm5:=hm.below kB
      have hbr5:=hbr.trans (kB.mono hbr.size)
      have hkm:k<maxLen:=by unfold maxLen;omega
      clear ha hd hvk hrd hcl hm HCL HBY HAM HKY HOK
      go_wp2_with (at_mapUpdate;refine wpList_mapUpdate_V _ rfl _ _ _ rfl w.heap.size k _ _ rfl hm5 hkm d.name rfl s_n (.agg #[.int .i64 d.vA,.int .i64 d.vB,.int .i64 d.vC,.slice q d.vP.length c]) rfl ?_;intro w1 hm1 hg1)
      go_roundw
      case rel=>
        refine ⟨k+1,by omega,by go_num,?_,hbr5.grown hg1 hbr5.size (fun j hj=>by cases hj;exact Nat.le_refl _)⟩
        rw [HCS.out]
        have e9:(if (Option.map vals (lastP l d.name k)).isSome=true then cntN l k else cntN l k+1)=if (lastP l d.name k).isSome=true then cntN l k else cntN l k+1:=by rw [Option.isSome_map]
        have hm2:=hm1
        rw [e9] at hm2
        refine hm2.same (fun p=>?_)
        rw [HST.out p]
        by_cases e:p=d.name
        · rw [if_pos e,if_pos e,Option.map_some,HVK.out]
        · rw [if_neg e,if_neg e]
      case measure=>simp [intOf];omega
    · have he:k=l.length:=by omega
      subst he
      obtain ⟨CN,hCN⟩: ∃ c,c=cntN l l.length:=⟨_,rfl⟩
      have hnm:=cntN_names l
      rw [←hCN] at hm hnm
      by_cases hless:CN<l.length
      · have HE:Hid (R=false):=HR.out.trans (solB_name (hnm.1 hless))
        have hli:(CN:Int)<(l.length:Int):=by omega
        clear hnm HCL HBY HAM HKY HOK
        go_wp2_with (at_len;refine wpList_len_V _ rfl _ rfl w.heap.size l.length _ _ rfl hm ?_)
        go_ret
        exact ⟨by rw [HE.out];rfl,hbr⟩
      · have hnb:namesB l=true:=by
          cases h:namesB l with
          |true=>rfl
          |false=>exact absurd (hnm.2 h) hless
        have hmF:MapV wr w.heap.size l.length CN (fun p=>(firstP l p).map vals):=hm.same (fun p=>by rw [lastP_first hnb p])
        have hli: ¬(CN:Int)<(l.length:Int):=by omega
        have HAM1:=hidden (HAM.out wr Sn (.slice qn ns.length cn) ns w.heap.size l.length CN hbr (HHN.out.1.keep (.of hbr HBR.out.2)) (fun b hb=>Nat.lt_of_lt_of_le (HBR.out.2 b hb) hbr.size) HHN.out.2 hmF)
        obtain ⟨MB,hMB⟩: ∃ M,M=metB ns l:=⟨_,rfl⟩
        rw [←hMB] at HAM1
        have HMB:=hidden hMB
        have HNB:=hidden hnb
        clear hnm hm hnb hMB
        go_wp2_with (at_len;refine wpList_len_V _ rfl _ rfl w.heap.size l.length _ _ rfl hmF ?_)
        go_at_call 109
        refine HAM1.out.mono ?_
        rintro e w2 ⟨rfl,b2⟩
        have k2:=hbr.trans (b2.mono hbr.size)
        cases MB with
        |false=>
          have HE:Hid (R=false):=HR.out.trans (solB_met HMB.out.symm)
          clear HCL HBY HAM HKY HOK
          go_wp2_with fail
          go_ret
          exact ⟨by rw [HE.out];rfl,k2⟩
        |true=>
          have hmF2:=hmF.below b2
          clear hmF b2 hbr
          go_wp2_with fail
          go_at_call 80
          refine (HBY.out _ k2).mono ?_
          rintro e w3 ⟨vs,rfl,hvs,hme,b3⟩
          have k3:=k2.trans (b3.mono k2.size)
          have hmF3:=hmF2.below b3
          have HVS:Hid (∀ i (h:i<r.length),∃ cs:List Value,vs i=.agg cs.toArray∧shEntry.lies Sr w3 cs r[i]):=fun i hi=>by
            obtain ⟨cs,h1,h2⟩:=hvs i hi
            exact ⟨cs,h1,shEntry.keep (.of b3 (fun b hb=>Nat.lt_of_lt_of_le (HBR.out.1 b hb) k2.size)) h2⟩
          clear hmF2 b3 hvs HBY
          obtain ⟨mE,hmE⟩: ∃ m,m=w2.heap.size:=⟨_,rfl⟩
          rw [←hmE] at hme
          rw [←hmE]
          clear hmE
          go_wp2_with fail
          go_loopw [43] (fun vi wr=>∃ k:Nat,k≤l.length∧vi=.int .i64 (k:Int)∧Hid (∀ i (hi:i<l.length),i<k→pickOkB r l l[i]=true)∧Below w3.heap.size w3 wr) (fun vi _=>l.length-(intOf vi).toNat)
          case atStart=>exact ⟨0,Nat.zero_le _,rfl,(fun j hj h=>by omega),Below.refl _ _⟩
          case round=>
            obtain ⟨k,hk,rfl,hno,hb3⟩:=hrel
            have hbr:=k3.trans (hb3.mono k3.size)
            by_cases hlt':k<l.length
            · rcases HCL.out with rfl|⟨b,off,rfl,hlt,ha⟩
              · simp at hlt'
              obtain ⟨q,c,hvk,s_n,hrd,hcl⟩:=ha k hlt'
              replace hcl:=hcl.keep (.of hbr hBp) hlt
              have HKE:=hidden (fun w1 h=>HKY.out w1 k hlt' q c h hrd)
              have hok:=HOK.out k hlt' s_n
              have HF:Hid (pickOkB r l l[k]=false→R=false):=fun h=>HR.out.trans (solB_pick hlt' h)
              have HN:Hid (pickOkB r l l[k]=true→∀ i (hi:i<l.length),i<k+1→pickOkB r l l[i]=true):=fun h j hj hjk=>by
                by_cases e:j=k
                · subst e;exact h
                · exact hno.out j hj (by omega)
              obtain ⟨d,hd⟩: ∃ d,d=l[k]:=⟨_,rfl⟩
              rw [←hd] at s_n hcl hok HF HN
              simp only [←hd] at HKE
              have e0:wr.cell? ⟨b,off+k*5,none⟩=some (.string d.name):=hcl 0 (by simp)
              have e1:wr.cell? ⟨b,off+k*5+1,none⟩=some (.int .i64 d.vA):=hcl 1 (by simp)
              have e2:wr.cell? ⟨b,off+k*5+2,none⟩=some (.int .i64 d.vB):=hcl 2 (by simp)
              have e3:wr.cell? ⟨b,off+k*5+3,none⟩=some (.int .i64 d.vC):=hcl 3 (by simp)
              have e4:wr.cell? ⟨b,off+k*5+4,none⟩=some (.slice q d.vP.length c):=hcl 4 (by simp)
              have hki:(k:Int)<(l.length:Int):=by omega
              have kB:Below wr.heap.size wr (wr.alloc (.cells #[.string d.name,.int .i64 d.vA,.int .i64 d.vB,.int .i64 d.vC,.slice q d.vP.length c] 59 (0,0))):=(Below.refl _ _).alloc (Nat.le_refl _) _
              have k5:=hbr.trans (kB.mono hbr.size)
              have b35:=hb3.trans (kB.mono hb3.size)
              obtain ⟨P,hP⟩: ∃ P:ByteArray,P=⟨(preL d.vP).toArray⟩:=⟨_,rfl⟩
              obtain ⟨KD,hKD⟩: ∃ K,K=keyP d:=⟨_,rfl⟩
              have hKV:KD.val=.agg #[.string d.name,.int .i64 d.vA,.int .i64 d.vB,.int .i64 d.vC,.string P]:=by rw [hKD,hP];rfl
              simp only [←hP] at HKE
              have HPO:Hid (pickOkB r l d=((firstK r KD).isSome&&metB (atD r (firstK r KD)).needs l)):=by show _=_;rw [hKD];rfl
              rw [←hKD] at hok
              clear ha hd hvk hrd hcl hno HCL HKY HOK hP hKD
              go_wp2_with fail
              go_at_call 81
              refine (HKE.out _ k5).mono ?_
              rintro e w6 ⟨rfl,b6⟩
              have b36:=b35.trans (b6.mono b35.size)
              have k6:=k5.trans (b6.mono k5.size)
              have hme6:=hme.below b36
              clear HKE kB b6 b35 k5 e0 e1 e2 e3 e4
              cases hf:firstK r KD with
              |none=>
                have HE:=hidden (HF.out (by rw [HPO.out,hf];rfl))
                have HG:Hid ((firstK r KD).map vs=none):=by show _=_;rw [hf];rfl
                clear HF HN hf
                go_wp2_with (at_lookup;refine wpList_lookup_noE _ rfl _ _ rfl mE r.length _ rfl hme6 KD hKV.symm hok HG.out ?_)
                go_ret
                exact ⟨by rw [HE.out];rfl,k6.alloc k6.size _⟩
              |some i=>
                obtain ⟨hi,hk9⟩:=firstK_lt hf
                clear hk9
                obtain ⟨cs9,hv9,hl9⟩:=HVS.out i hi
                have hAT:atD r (some i)=r[i]:=by simp [atD,hi]
                have hpo:pickOkB r l d=metB r[i].needs l:=by rw [HPO.out,hf,hAT];rfl
                have hwe:=HWE.out r[i] (List.getElem_mem hi)
                rw [hpo] at HF HN
                obtain ⟨en,hen⟩: ∃ e,e=r[i]:=⟨_,rfl⟩
                rw [←hen] at hl9 hwe HF HN
                have HG0:Hid ((firstK r KD).map vs=some (.agg cs9.toArray)):=by show _=_;rw [hf,Option.map_some,hv9]
                obtain ⟨u0,u1,rfl,_,r0,_,r1⟩:=hl9
                obtain ⟨ta0,tc0,te0,_⟩:=id r0
                rw [length_strsV] at te0
                subst te0
                have HR1:=hidden r1
                obtain ⟨ta1,tc1,te1,_⟩:=id r1
                subst te1
                have HG:Hid ((firstK r KD).map vs=some (.agg #[.string en.name,.int .i64 en.vA,.int .i64 en.vB,.int .i64 en.vC,.slice ta0 en.vP.length tc0,.slice ta1 en.needs.length tc1])):=HG0
                have kC: ∀ o,Below w6.heap.size w6 (w6.alloc o):=fun o=>(Below.refl _ _).alloc (Nat.le_refl _) _
                obtain ⟨MB2,hMB2⟩: ∃ M,M=metB en.needs l:=⟨_,rfl⟩
                have HA2:Hid (∀ o,Calls Tryz.prog 109 #[.slice ta1 en.needs.length tc1,.map (some w.heap.size)] (w6.alloc o) fun e w'=>e=.returned (.bool MB2)∧Below (w6.alloc o).heap.size (w6.alloc o) w'):=fun o=>by
                  have hx:=b36.trans ((kC o).mono b36.size)
                  have hy:=k6.trans ((kC o).mono k6.size)
                  rw [hMB2]
                  exact HAM.out _ Sr _ en.needs w.heap.size l.length CN hy (HR1.out.keep (.of hx (fun b hb=>Nat.lt_of_lt_of_le (HBR.out.1 b hb) k3.size))) (fun b hb=>Nat.lt_of_lt_of_le (HBR.out.1 b hb) hy.size) hwe (hmF3.below hx)
                rw [←hMB2] at HF HN
                clear hf hi hv9 hAT hpo hwe hen HG0 r0 r1 HPO hMB2
                go_wp2_with (at_lookup;refine wpList_lookup_yesE _ rfl _ _ rfl mE r.length _ rfl hme6 KD hKV.symm hok _ HG.out ?_)
                go_at_call 109
                refine (HA2.out _).mono ?_
                rintro e w7 ⟨rfl,b7⟩
                have k7a:=k6.trans ((kC (.cells #[.string en.name,.int .i64 en.vA,.int .i64 en.vB,.int .i64 en.vC,.slice ta0 en.vP.length tc0,.slice ta1 en.needs.length tc1] 35 (0,0))).mono k6.size)
                have k7:=k7a.trans (b7.mono k7a.size)
                have b37a:=b36.trans ((kC (.cells #[.string en.name,.int .i64 en.vA,.int .i64 en.vB,.int .i64 en.vC,.slice ta0 en.vP.length tc0,.slice ta1 en.needs.length tc1] 35 (0,0))).mono b36.size)
                have b37:=b37a.trans (b7.mono b37a.size)
                cases MB2 with
                |false=>
                  have HE:=hidden (HF.out rfl)
                  clear HF HN
                  go_wp2_with fail
                  go_ret
                  exact ⟨by rw [HE.out];rfl,k7⟩
                |true=>
                  have HN2:=hidden (HN.out rfl)
                  clear HF HN
                  go_wp2_with fail
                  go_roundw
                  case rel=>exact ⟨k+1,by omega,by go_num,HN2.out,b37⟩
                  case measure=>simp [intOf];omega
            · have he:k=l.length:=by omega
              subst he
              have HE : Hid (R = true) := HR.out.trans (by
                unfold solB
                rw [HNB.out, ← HMB.out, Bool.true_and, Bool.true_and, List.all_eq_true]
                intro x hx
                obtain ⟨j, hj, rfl⟩ := List.mem_iff_getElem.1 hx
                exact hno.out j hj hj)
              clear hno HCL HAM HKY HOK
              go_wp2_with fail
              go_ret
              exact ⟨by rw [HE.out];rfl,hbr⟩
theorem specMet_c (S S2:Nat→Prop) (v u:Value) (ns:List NeedD) (l:List PickD) (w:World) (hv:RowIn shNeed S w v ns) (hu:RowIn shPickO S2 w u l) (hB: ∀ b,S b→b<w.heap.size) (hB2: ∀ b,S2 b→b<w.heap.size) (hwN:wtRow wtNeed ns≤1048576) (hwl:wtRow wtPick l≤1048576):
  Calls Tryz.prog 118 #[v,u] w fun e w'=>e=.returned (.bool (metB ns l))∧Below w.heap.size w w':=by
 have hwe: ∀ d∈ns,d.n.size≤1048576∧d.r.size≤1048576:=fun d hd=>by
  have h1:d.n.size+d.r.size≤wtRow wtNeed ns:=wt_wtRow wtNeed hd
  omega
 have HPK:Hid (∀ n w1,Below w.heap.size w w1→Calls Tryz.prog 32 #[u,.string n] w1 fun e w'=>PickR w1 w' e (atP l (firstP l n)) (firstP l n).isSome):=fun n w1 h=>specPick_c S2 u l n w1 (hu.keep (.of h hB2)) (fun b hb=>Nat.lt_of_lt_of_le (hB2 b hb) h.size) hwl
 obtain ⟨qu,cu,hqu⟩:=hu.slice
 subst hqu
 obtain ⟨av,cv,rfl,hl,hc,ha⟩:=hv
 unfold maxLen at hl
 obtain ⟨R,hR⟩: ∃ R,R=metB ns l:=⟨_,rfl⟩
 rw [←hR]
 have HR:=hidden hR
 clear hR hu
 go_enter Tryz.func118,Tryz.ntmps118
 go_wp2_with fail
 go_loopw [5] (fun vi wr=>∃ k:Nat,k≤ns.length∧vi=.int .i64 (k:Int)∧Hid (∀ j (hj:j<ns.length),j<k→met1 l ns[j]=true)∧Below w.heap.size w wr) (fun vi _=>ns.length-(intOf vi).toNat)
 case atStart=>exact ⟨0,Nat.zero_le _,rfl,(fun j hj h=>by omega),Below.refl _ _⟩
 case round=>
  obtain ⟨k,hk,rfl,hno,hbr⟩:=hrel
  by_cases hlt':k<ns.length
  ·rcases ha with rfl|⟨b,off,rfl,hlt,ha⟩
   ·simp at hlt'
   obtain ⟨cs,hL,hcell⟩:=ha k hlt'
   have hcell2:=hcell.keep (.of hbr hB) hlt
   obtain ⟨hs1,hs2⟩:=hwe ns[k] (List.getElem_mem hlt')
   have HF:Hid (met1 l ns[k]=false→R=false):=fun h=>HR.out.trans (metB_false hlt' h)
   have HN:Hid (met1 l ns[k]=true→∀ j (hj:j<ns.length),j<k+1→met1 l ns[j]=true):=fun h j hj hjk=>by
    by_cases e:j=k
    ·subst e;exact h
    ·exact hno.out j hj (by omega)
   obtain ⟨d,hd⟩: ∃ d,d=ns[k]:=⟨_,rfl⟩
   rw [←hd] at hL HF HN hs1 hs2
   obtain ⟨rfl,_,_⟩:=hL
   have e0:wr.cell? ⟨b,off+k*2,none⟩=some (.string d.n):=hcell2 0 (by simp)
   have e1:wr.cell? ⟨b,off+k*2+1,none⟩=some (.string d.r):=hcell2 1 (by simp)
   have hbb:b<wr.heap.size:=Nat.lt_of_lt_of_le (hB b hlt) hbr.size
   have hki:(k:Int)<(ns.length:Int):=by omega
   have HPK2:=hidden (HPK.out d.n wr hbr)
   have hmet:met1 l d=((firstP l d.n).isSome&&mayB d.r (atP l (firstP l d.n)).vA (atP l (firstP l d.n)).vB (atP l (firstP l d.n)).vC (atP l (firstP l d.n)).vP):=rfl
   have hbk:=pick_wt hwl (firstP l d.n)
   rw [hmet] at HF HN
   obtain ⟨IS,hIS⟩: ∃ I,I=(firstP l d.n).isSome:=⟨_,rfl⟩
   obtain ⟨DD,hDD⟩: ∃ D,D=atP l (firstP l d.n):=⟨_,rfl⟩
   obtain ⟨B,hBB⟩: ∃ B,B=mayB d.r DD.vA DD.vB DD.vC DD.vP:=⟨_,rfl⟩
   rw [←hIS, ←hDD] at HPK2
   rw [←hIS, ←hDD, ←hBB] at HF HN
   rw [←hDD] at hbk
   clear ha hd hcell hcell2 hno hmet hIS hDD HPK
   go_wp2_with fail
   go_at_call 32
   refine HPK2.out.mono ?_
   rintro e w1 ⟨u',rfl,ho,b1⟩
   have k1:=hbr.trans (b1.mono hbr.size)
   have hmay: ∀ w3,Below w1.heap.size w1 w3→Calls Tryz.prog 24 #[.agg #[.string d.n,.string d.r],.agg #[.int .i64 DD.vA,.int .i64 DD.vB,.int .i64 DD.vC,u']] w3 fun e w'=>e=.returned (.bool B)∧Below w3.heap.size w3 w':=fun w3 h=>by
    rw [hBB]
    exact specMay_c d.n d.r _ _ _ u' DD.vP w3 hs2 ((reads_of_owns ho).below h) hbk
   obtain ⟨q,c,eu⟩:=owns_sliceP ho
   subst eu
   obtain ⟨DA,hDA⟩: ∃ x,x=DD.vA:=⟨_,rfl⟩
   obtain ⟨DB,hDB⟩: ∃ x,x=DD.vB:=⟨_,rfl⟩
   obtain ⟨DC,hDC⟩: ∃ x,x=DD.vC:=⟨_,rfl⟩
   obtain ⟨np,hnp⟩: ∃ x,x=DD.vP.length:=⟨_,rfl⟩
   rw [←hDA, ←hDB, ←hDC, ←hnp] at hmay
   rw [←hDA, ←hDB, ←hDC, ←hnp]
   have HMY:=hidden hmay
   have x0:=(b1.cell (p:=⟨b,off+k*2,none⟩) hbb).trans e0
   have x1:=(b1.cell (p:=⟨b,off+k*2+1,none⟩) hbb).trans e1
   have hsz:=b1.size
   have hbz:Below w1.heap.size w1 (w1.alloc (.cells #[.int .i64 DA,.int .i64 DB,.int .i64 DC,.slice q np c] 30 (0,0))):=(Below.refl _ _).alloc (Nat.le_refl _) _
   have hRz:(w1.alloc (.cells #[.int .i64 DA,.int .i64 DB,.int .i64 DC,.slice q np c] 30 (0,0))).heap[w1.heap.size]?=some (.cells #[.int .i64 DA,.int .i64 DB,.int .i64 DC,.slice q np c] 30 (0,0)):=vheap_new _ _
   clear ho hmay hDA hDB hDC hnp hBB HPK2 hbk e0 e1
   go_wp2_with fail
   obtain ⟨w2,hw2⟩: ∃ w2,w2=w1.alloc (.cells #[.int .i64 DA,.int .i64 DB,.int .i64 DC,.slice q np c] 30 (0,0)):=⟨_,rfl⟩
   rw [←hw2] at hbz hRz
   rw [←hw2]
   clear hw2
   have k2:=k1.trans (hbz.mono k1.size)
   have HMT:Hid (∀ w3,Below w2.heap.size w2 w3→Calls Tryz.prog 24 #[.agg #[.string d.n,.string d.r],.agg #[.int .i64 DA,.int .i64 DB,.int .i64 DC,.slice q np c]] w3 fun e w'=>e=.returned (.bool B)∧Below w3.heap.size w3 w'):=fun w3 h=>HMY.out w3 (hbz.trans (h.mono hbz.size))
   have KEEP:Hid (∀ W,Below w2.heap.size w2 W→W.cell? ⟨b,off+k*2,none⟩=some (.string d.n)∧W.cell? ⟨b,off+k*2+1,none⟩=some (.string d.r)∧W.cell? ⟨w1.heap.size,0,none⟩=some (.int .i64 DA)∧W.cell? ⟨w1.heap.size,1,none⟩=some (.int .i64 DB)∧W.cell? ⟨w1.heap.size,2,none⟩=some (.int .i64 DC)∧W.cell? ⟨w1.heap.size,3,none⟩=some (.slice q np c)):=fun W h=>by
    have hb:=hbz.trans (h.mono hbz.size)
    have hR:=box_below hRz h
    exact ⟨(hb.cell (p:=⟨b,off+k*2,none⟩) (Nat.lt_of_lt_of_le hbb hsz)).trans x0,(hb.cell (p:=⟨b,off+k*2+1,none⟩) (Nat.lt_of_lt_of_le hbb hsz)).trans x1,vblk_cell hR 0,vblk_cell hR 1,vblk_cell hR 2,vblk_cell hR 3⟩
   have hd0:Below w2.heap.size w2 w2.drew:=(Below.refl _ _).drew
   clear x0 x1 HMY
   cases IS with
   |false=>
     have HE:=hidden (HF.out rfl)
     clear HF HN
     refine wp_region_held_drew (S:=(fun W=>W.cell? ⟨b,off+k*2,none⟩=some (.string d.n)∧W.cell? ⟨b,off+k*2+1,none⟩=some (.string d.r)∧W.cell? ⟨w1.heap.size,0,none⟩=some (.int .i64 DA)∧W.cell? ⟨w1.heap.size,1,none⟩=some (.int .i64 DB)∧W.cell? ⟨w1.heap.size,2,none⟩=some (.int .i64 DC)∧W.cell? ⟨w1.heap.size,3,none⟩=some (.slice q np c))) (by kernel_rfl) ?SR10 (fun hHeld=>?_)
     case SR10=>(first|(with_reducible exact KEEP.out _ hd1)|(with_reducible exact KEEP.out _ hd0))
     refine tk 0 hHeld (h:=?_)
     refine tk 1 hHeld (h:=?_)
     refine tk 2 hHeld (h:=?_)
     refine tk 3 hHeld (v:=undef) (hy:=Or.inr ⟨by rfl,rfl⟩) (h:=?_)
     refine tk 4 hHeld (v:=undef) (hy:=Or.inr ⟨by rfl,rfl⟩) (h:=?_)
     refine tk 5 hHeld (v:=undef) (hy:=Or.inr ⟨by rfl,rfl⟩) (h:=?_)
     refine tk 6 hHeld (v:=undef) (hy:=Or.inr ⟨by rfl,rfl⟩) (h:=?_)
     refine tk 7 hHeld (v:=undef) (hy:=Or.inr ⟨by rfl,rfl⟩) (h:=?_)
     refine tk 8 hHeld (v:=undef) (hy:=Or.inr ⟨by rfl,rfl⟩) (h:=?_)
     refine tk 9 hHeld (v:=undef) (hy:=Or.inr ⟨by rfl,rfl⟩) (h:=?_)
     refine tk 10 hHeld (h:=?_)
     refine wpAnyH_done (by kernel_rfl) ?_ _
     go_wp2_with fail
     go_ret
     exact ⟨by rw [HE.out];rfl,k2.trans (hd0.mono k2.size)⟩
   |true=>
     rw [Bool.true_and] at HF HN
     refine wp_region_held_drew (S:=(fun W=>W.cell? ⟨b,off+k*2,none⟩=some (.string d.n)∧W.cell? ⟨b,off+k*2+1,none⟩=some (.string d.r)∧W.cell? ⟨w1.heap.size,0,none⟩=some (.int .i64 DA)∧W.cell? ⟨w1.heap.size,1,none⟩=some (.int .i64 DB)∧W.cell? ⟨w1.heap.size,2,none⟩=some (.int .i64 DC)∧W.cell? ⟨w1.heap.size,3,none⟩=some (.slice q np c))) (by kernel_rfl) ?SR20 (fun hHeld=>?_)
     case SR20=>(first|(with_reducible exact KEEP.out _ hd1)|(with_reducible exact KEEP.out _ hd0))
     refine tk 0 hHeld (h:=?_)
     refine tk 1 hHeld (h:=?_)
     refine tk 2 hHeld (h:=?_)
     refine tk 3 hHeld (h:=?_)
     refine tk 4 hHeld (h:=?_)
     refine tk 5 hHeld (h:=?_)
     refine tk 6 hHeld (h:=?_)
     refine tk 7 hHeld (h:=?_)
     refine wpAnyH_ready (rs:=[8]) (by kernel_rfl) (by simp) ?_
     refine AllReadyH.cons rfl (fun K hK=>?_) AllReadyH.nil
     go_simp
     go_wp2_with (go_at_call 24;refine (HMT.out _ hd0).mono ?_;rintro e w3 ⟨rfl,b3⟩;have hd1:Below w2.heap.size w2 w3:=hd0.trans (b3.mono hd0.size))
     clear hHeld
     refine hK.out _ _ ?SR29 (fun hHeld=>?_)
     case SR29=>((try dsimp only);first|(with_reducible exact KEEP.out _ hd1)|(with_reducible exact KEEP.out _ hd0))
     clear hK K
     refine tk 9 hHeld (h:=?_)
     refine tk 10 hHeld (h:=?_)
     refine wpAnyH_done (by kernel_rfl) ?_ _
     have k3:=k2.trans (hd1.mono k2.size)
     cases B with
     |false=>
      have HE:=hidden (HF.out rfl)
      clear HF HN
      go_wp2_with fail
      go_ret
      exact ⟨by rw [HE.out];rfl,k3⟩
     |true=>
      have HN2:=hidden (HN.out rfl)
      clear HF HN
      go_wp2_with fail
      go_roundw
      case rel=>exact ⟨k+1,by omega,by go_num,HN2.out,k3⟩
      case measure=>simp [intOf];omega
  ·have he:k=ns.length:=by omega
   subst he
   have HE:Hid (R=true):=HR.out.trans (metB_true (fun j hj=>hno.out j hj hj))
   clear ha hno HR
   go_wp2_with fail
   go_ret
   exact ⟨by rw [HE.out];rfl,hbr⟩
end Go.Proofs.YtlfmefojcmpfeaaGreatDoor
