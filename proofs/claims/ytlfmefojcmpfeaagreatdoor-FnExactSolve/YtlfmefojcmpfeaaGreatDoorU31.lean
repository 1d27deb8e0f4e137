/-
  Contracts for the walks and pure facts, several texts in one: each theorem says what it proves, and under which conditions.
-/
import Derived.Test.YtlfmefojcmpfeaaGreatDoorUT
import Derived.Test.YtlfmefojcmpfeaaGreatDoorU30
set_option linter.unusedSimpArgs false
set_option linter.unusedVariables false
set_option maxHeartbeats 16000000
set_option maxRecDepth 100000
namespace Go.Proofs.YtlfmefojcmpfeaaGreatDoor
open Go.RowKit
def fuelN (fu:Int):Nat:=if 0≤fu∧fu≤10000 then fu.toNat else 0
theorem fuelN_le (fu:Int):fuelN fu≤10000:=by unfold fuelN;split<;>omega
def formB (xs:List EntryD) (ns:List NeedD):Bool:=regB xs&&ns.all needB
def resD :SoR→List PickD × Int
 | .good l _=>(l,0)
 | .none _=>([],1)
 | .fuel=>([],2)
def solD (xs:List EntryD) (ns:List NeedD) (fu:Int):List PickD × Int:=if formB xs ns=true then resD (way xs (fuelN fu) [] ns) else ([],3)
theorem needB_small {d:NeedD} (h:needB d=true):smallN d:=by
 simp only [needB,nameB,Bool.and_eq_true,inB,decide_eq_true_eq] at h
 exact ⟨by omega,by omega⟩
theorem entB_small {d:EntryD} (h:entB d=true):smallE d:=by
  simp only [entB,verB,needsB,Bool.and_eq_true,parts_all,inB,decide_eq_true_eq] at h
  obtain ⟨_,⟨⟨⟨⟨h1,_⟩,_⟩,_⟩,h2⟩,h3,h4⟩:=h
  have h5:(d.vP.map ByteArray.size).sum≤d.vP.length*8:=by
    have h9 := sum_leP (d.vP.map ByteArray.size) 8 (fun x hx => by
      obtain ⟨y, hy, rfl⟩ := List.mem_map.1 hx
      have h8 := List.all_eq_true.1 h1 y hy
      simp only [partB, Bool.and_eq_true, inB, decide_eq_true_eq] at h8
      omega)
    simpa using h9
  rw [rowB_split] at h3
  simp only [Bool.and_eq_true] at h3
  refine ⟨by unfold bulkS;omega,by omega,fun n hn=>needB_small (List.all_eq_true.1 h3.1 n hn)⟩
theorem regB_small {xs:List EntryD} (h:regB xs=true):(∀ e∈xs,smallE e)∧xs.length≤12:=by
 unfold regB at h
 rw [relB_split] at h
 simp only [Bool.and_eq_true,decide_eq_true_eq] at h
 exact ⟨fun e he=>entB_small (List.all_eq_true.1 h.1.1 e he),h.2⟩
theorem runB_new (w:World) (rv:Value) (f:Nat):RunB (w.alloc (.cells #[rv,.int .i64 (f:Int),.bool false] 144)) w.heap.size rv f false:=
 World.ownsRow_lit w #[rv,.int .i64 (f:Int),.bool false] 1 (Nat.zero_le _) (by unfold maxLen;omega) rfl
theorem rowP_new (w:World):RowP 0 (w.alloc (.cells #[] 59)) (.slice (some ⟨w.heap.size,0,none⟩) 0 0) []:=⟨World.ownsRow_lit w #[] 0 (Nat.zero_le _) (by unfold maxLen;omega) rfl,fun p hp=>by simp at hp⟩
theorem rowIn_plainE {S:Nat→Prop} {w:World} {v:Value} {xs:List EntryD} (h:RowIn shEntryO S w v xs):RowIn shEntry S w v xs:=RowIn.as (sh:=shEntryO) (sh':=shEntry) rfl (fun S w cs x h=>liesEntry_plain h) h
theorem specSolve_c (Sr Sn:Nat→Prop) (rv nv:Value) (xs:List EntryD) (ns:List NeedD) (fu:Int) (w:World) (hr:RowIn shEntryO Sr w rv xs) (hn:RowIn shNeed Sn w nv ns) (hBr: ∀ b,Sr b→b<w.heap.size) (hBn: ∀ b,Sn b→b<w.heap.size) (hwr:wtRow wtEntry xs≤1048576) (hwn:wtRow wtNeed ns≤1048576):
  Calls Tryz.prog 36 #[rv,nv,.int .i64 fu] w fun e w'=>∃ v' ps',e=.returned (.tuple #[v',.int .i64 (solD xs ns fu).2])∧RowP 0 w' v' ps'∧ps'.map PC.d=(solD xs ns fu).1∧Below w.heap.size w w':=by
 obtain ⟨rq,rc,hrv⟩:=hr.slice
 subst hrv
 have kA:Below w.heap.size w (w.alloc (.cells #[] 59)):=(Below.refl _ _).alloc (Nat.le_refl _) _
 have HP:=hidden (rowP_new w)
 have HRG:Hid (∀ W,Below w.heap.size w W→Calls Tryz.prog 26 #[.slice rq xs.length rc] W fun e w'=>e=.returned (.bool (regB xs))∧Below W.heap.size W w'):=fun W h=>specReg_c Sr (.slice rq xs.length rc) xs W ((rowIn_plainE hr).keep (.of h hBr)) (fun b hb=>Nat.lt_of_lt_of_le (hBr b hb) h.size) hwr
 have HAL:Hid (∀ W,Below w.heap.size w W→Calls Tryz.prog 110 #[nv] W fun e w'=>e=.returned (.bool (ns.all needB))∧Below W.heap.size W w'):=fun W h=>l9All_c Sn nv ns W (hn.keep (.of h hBn)) (fun b hb=>Nat.lt_of_lt_of_le (hBn b hb) h.size) hwn
 have HIN:Hid (∀ W,Calls Tryz.prog 111 #[.int .i64 fu,.int .i64 0,.int .i64 10000] W fun e w'=>e=.returned (.bool (inB fu 0 10000))∧W=w'):=fun W=>in_c fu 0 10000 W
 have hnl:=len_wtRow wtNeed ns
 have HWY:Hid (regB xs=true→ns.all needB=true→∀ W W2,Below w.heap.size w W→W2=W.alloc (.cells #[(.slice rq xs.length rc),.int .i64 (fuelN fu:Int),.bool false] 144)→RowP 0 W (.slice (some ⟨w.heap.size,0,none⟩) 0 0) []→Calls Tryz.prog 112 #[.pointer (some ⟨W.heap.size,0,none⟩),.slice (some ⟨w.heap.size,0,none⟩) 0 0,nv] W2 (WayPost W.heap.size (.slice rq xs.length rc) W2 (way xs (fuelN fu) [] ns))):=fun h1 h2 W W2 hW hW2 hp=>by
  have kb:Below W.heap.size W W2:=by rw [hW2];exact (Below.refl _ _).alloc (Nat.le_refl _) _
  have kw:=hW.trans (kb.mono hW.size)
  have hs:=fuelN_le fu
  have hrun:=runB_new W (.slice rq xs.length rc) (fuelN fu)
  rw [←hW2] at hrun
  exact l9Way_c xs Sr (.slice rq xs.length rc) W.heap.size hwr (regB_small h1).1 (fuelN fu) ns W2 w.heap.size 0 [] Sn nv hrun (hr.keep (.of kw hBr)) (fun b hb=>⟨Nat.lt_of_lt_of_le (hBr b hb) kw.size,by have:=hBr b hb;have:=hW.size;omega⟩) (hp.below kb) (fun p hp=>by simp at hp) (by simp;omega) (hn.keep (.of kw hBn)) (fun b hb=>⟨Nat.lt_of_lt_of_le (hBn b hb) kw.size,by have:=hBn b hb;have:=hW.size;omega⟩) (fun d hd=>needB_small (List.all_eq_true.1 h2 d hd)) (by omega)
 have HSD:Hid (solD xs ns fu=if (regB xs&&ns.all needB)=true then resD (way xs (fuelN fu) [] ns) else ([],3)):=rfl
 obtain ⟨RB,hRB⟩: ∃ b,b=regB xs:=⟨_,rfl⟩
 obtain ⟨AB,hAB⟩: ∃ b,b=ns.all needB:=⟨_,rfl⟩
 rw [←hRB] at HRG HWY HSD
 rw [←hAB] at HAL HWY HSD
 obtain ⟨IB,hIB⟩: ∃ b,b=inB fu 0 10000:=⟨_,rfl⟩
 rw [←hIB] at HIN
 have HIB:=hidden hIB
 clear hr hn hBr hBn hwr hwn hRB hAB hIB hnl
 go_enter Tryz.func36,Tryz.ntmps36
 go_wp2_with fail
 go_at_call 26
 refine (HRG.out _ kA).mono ?_
 rintro e w1 ⟨rfl,b1⟩
 have k1:Below w.heap.size w w1:=kA.trans (b1.mono kA.size)
 have HP1:=hidden (HP.out.below b1)
 clear HRG b1 HP kA
 cases RB with
 |false=>
  go_wp2_with fail
  go_ret2
  refine ⟨_,[],?_,HP1.out,?_,k1⟩<;>rw [HSD.out]<;>rfl
 |true=>
  go_wp2_with fail
  go_at_call 110
  refine (HAL.out _ k1).mono ?_
  rintro e w2 ⟨rfl,b2⟩
  have k2:Below w.heap.size w w2:=k1.trans (b2.mono k1.size)
  have HP2:=hidden (HP1.out.below b2)
  clear HAL b2 HP1 k1
  cases AB with
  |false=>
   go_wp2_with fail
   go_ret2
   refine ⟨_,[],?_,HP2.out,?_,k2⟩<;>rw [HSD.out]<;>rfl
  |true=>
   have HW2:=hidden (HWY.out (by first|rfl|exact True.intro) (by first|rfl|exact True.intro) w2)
   obtain ⟨FN,hFN⟩: ∃ f,f=fuelN fu:=⟨_,rfl⟩
   rw [←hFN] at HW2 HSD
   have hsd:solD xs ns fu=resD (way xs FN [] ns):=HSD.out
   have HSD2:=hidden hsd
   clear HWY hsd HSD
   go_wp2_with fail
   go_at_call 111
   refine (HIN.out _).mono ?_
   rintro e w3 ⟨rfl,rfl⟩
   clear HIN
   have FIN:Hid (∀ fv:Int,fv=(FN:Int)→∀ W2,W2=w2.alloc (.cells #[(.slice rq xs.length rc),.int .i64 fv,.bool false] 144)→Calls Tryz.prog 112 #[.pointer (some ⟨w2.heap.size,0,none⟩),.slice (some ⟨w.heap.size,0,none⟩) 0 0,nv] W2 (WayPost w2.heap.size (.slice rq xs.length rc) W2 (way xs FN [] ns))):=fun fv hf W2 h=>by rw [hf] at h;exact HW2.out W2 k2 h HP2.out
   clear HW2
   cases IB with
   |false=>
    have hf0:(0:Int)=(FN:Int):=by
     have h9:=HIB.out
     rw [hFN];unfold fuelN;rw [if_neg (fun h=>by simp [inB,h.1,h.2] at h9)];rfl
    have HF0:=hidden hf0
    have HHF:=hidden hFN
    clear hf0 hFN
    go_wp2_with fail
    go_at_call 112
    refine (FIN.out _ HF0.out _ rfl).mono ?_
    rintro e w4 ⟨v4,ok4,rfl,gr4,hp4⟩
    have kx:Below w.heap.size w (w2.alloc (.cells #[(.slice rq xs.length rc),.int .i64 0,.bool false] 144)):=k2.alloc k2.size _
    have k4:Below w.heap.size w w4:=Below.grown kx gr4 kx.size (fun j hj=>by have h9:=Option.some.inj hj;have h8:=k2.size;omega)
    have HP4:Hid (RowP 0 w4 (.slice (some ⟨w.heap.size,0,none⟩) 0 0) []):=by
     have h9:=HP2.out.below ((Below.refl w2.heap.size w2).alloc (Nat.le_refl _) (.cells #[(.slice rq xs.length rc),.int .i64 0,.bool false] 144))
     have h8:=runB_new w2 (.slice rq xs.length rc) FN
     rw [←HF0.out] at h8
     exact h9.grown h8 gr4
    clear FIN kx gr4 HP2 k2
    cases hwy:way xs FN [] ns with
    |good l f=>
     rw [hwy] at hp4
     obtain ⟨rfl,⟨ps4,h5,h6⟩,h7⟩:=hp4
     have H5:=hidden h5
     have H6:=hidden h6
     have HWY:=hidden hwy
     clear h5 h6 h7 hwy
     go_wp2_with fail
     go_ret2
     refine ⟨_,ps4,?_,H5.out,?_,k4⟩<;>rw [HSD2.out,HWY.out]
     ·rfl
     ·exact H6.out
    |none f=>
     rw [hwy] at hp4
     obtain ⟨rfl,h7⟩:=hp4
     obtain ⟨y0,y1,y2⟩:=h7.cells
     have HWY:=hidden hwy
     clear h7 hwy y0 y1
     go_wp2_with fail
     go_ret2
     refine ⟨_,[],?_,HP4.out,?_,k4⟩<;>rw [HSD2.out,HWY.out]<;>rfl
    |fuel=>
     rw [hwy] at hp4
     obtain ⟨rfl,h7⟩:=hp4
     obtain ⟨y0,y1,y2⟩:=h7.cells
     have HWY:=hidden hwy
     clear h7 hwy y0 y1
     go_wp2_with fail
     go_ret2
     refine ⟨_,[],?_,HP4.out,?_,k4⟩<;>rw [HSD2.out,HWY.out]<;>rfl
   |true=>
    have hf0:fu=(FN:Int):=by
     have h9:=HIB.out
     rw [hFN];unfold fuelN
     simp only [inB] at h9
     have h8:0≤fu∧fu≤10000:=by simpa using h9.symm
     rw [if_pos h8];omega
    have HF0:=hidden hf0
    have HHF:=hidden hFN
    clear hf0 hFN
    go_wp2_with fail
    go_at_call 112
    refine (FIN.out _ HF0.out _ rfl).mono ?_
    rintro e w4 ⟨v4,ok4,rfl,gr4,hp4⟩
    have kx:Below w.heap.size w (w2.alloc (.cells #[(.slice rq xs.length rc),.int .i64 fu,.bool false] 144)):=k2.alloc k2.size _
    have k4:Below w.heap.size w w4:=Below.grown kx gr4 kx.size (fun j hj=>by have h9:=Option.some.inj hj;have h8:=k2.size;omega)
    have HP4:Hid (RowP 0 w4 (.slice (some ⟨w.heap.size,0,none⟩) 0 0) []):=by
     have h9:=HP2.out.below ((Below.refl w2.heap.size w2).alloc (Nat.le_refl _) (.cells #[(.slice rq xs.length rc),.int .i64 fu,.bool false] 144))
     have h8:=runB_new w2 (.slice rq xs.length rc) FN
     rw [←HF0.out] at h8
     exact h9.grown h8 gr4
    clear FIN kx gr4 HP2 k2
    cases hwy:way xs FN [] ns with
    |good l f=>
     rw [hwy] at hp4
     obtain ⟨rfl,⟨ps4,h5,h6⟩,h7⟩:=hp4
     have H5:=hidden h5
     have H6:=hidden h6
     have HWY:=hidden hwy
     clear h5 h6 h7 hwy
     go_wp2_with fail
     go_ret2
     refine ⟨_,ps4,?_,H5.out,?_,k4⟩<;>rw [HSD2.out,HWY.out]
     ·rfl
     ·exact H6.out
    |none f=>
     rw [hwy] at hp4
     obtain ⟨rfl,h7⟩:=hp4
     obtain ⟨y0,y1,y2⟩:=h7.cells
     have HWY:=hidden hwy
     clear h7 hwy y0 y1
     go_wp2_with fail
     go_ret2
     refine ⟨_,[],?_,HP4.out,?_,k4⟩<;>rw [HSD2.out,HWY.out]<;>rfl
    |fuel=>
     rw [hwy] at hp4
     obtain ⟨rfl,h7⟩:=hp4
     obtain ⟨y0,y1,y2⟩:=h7.cells
     have HWY:=hidden hwy
     clear h7 hwy y0 y1
     go_wp2_with fail
     go_ret2
     refine ⟨_,[],?_,HP4.out,?_,k4⟩<;>rw [HSD2.out,HWY.out]<;>rfl
structure WC where
 name:ByteArray
 dss:List (List CmpD)
 u:Value
def WC.cells (p:WC):List Value:=[.string p.name,p.u]
def flatW (ps:List WC):List Value:=ps.flatMap WC.cells
theorem flatW_length (ps:List WC):(flatW ps).length=ps.length*2:=by
 induction ps with
 |nil=>rfl
 |cons p r ih=>simp only [flatW,List.flatMap_cons,List.length_append,List.length_cons] at*;rw [ih];simp [WC.cells];omega
theorem flatW_append (a b:List WC):flatW (a++b)=flatW a++flatW b:=by simp [flatW]
theorem flatW_at (ps:List WC) (i:Nat) (h:i<ps.length) (j:Nat) (hj:j<2):(flatW ps)[i*2+j]?=(ps[i].cells)[j]? :=by
 induction ps generalizing i with
 |nil=>simp at h
 |cons p r ih=>
  show (p.cells++flatW r)[i*2+j]?=_
  have hc:p.cells.length=2:=rfl
  cases i with
  |zero=>rw [Nat.zero_mul,Nat.zero_add,List.getElem?_append_left (by omega)];rfl
  |succ i=>
   rw [List.getElem?_append_right (by omega),hc,show (i+1)*2+j-2=i*2+j by omega]
   exact ih i (by simpa using h)
theorem RangeOwn.grownW {lo base n:Nat} {w w':World} {v r:Value} {dss:List (List CmpD)} {xs:List Value} (h:RangeOwn lo w v dss) (hr:w.ownsRow base 136 2 r n xs) (g:w.grownBy w' r.ownBlock):RangeOwn lo w' v dss:=by
 obtain ⟨vs,ls,hs,h1,h2,h3⟩:=h
 refine ⟨vs,ls,hs,h1.kept g (rowsG_apart hr h1 (by decide)),fun i hi=>?_,h3⟩
 obtain ⟨u,e,a1,a2,ys,us,c1,c2,c3⟩:=h2 i hi
 exact ⟨u,e,a1,Nat.le_trans a2 g.size,ys,us,c1.kept g (rowsG_apart hr c1 (by decide)),fun i hi=>⟨(c2 i hi).1,(c2 i hi).2.kept g (rowsG_apart hr (c2 i hi).2 (by decide))⟩,c3⟩
def RowW (B:Nat) (w:World) (v:Value) (ps:List WC):Prop:=w.ownsRow B 136 2 v ps.length (flatW ps)∧∀ p∈ps,RangeOwn 0 w p.u p.dss
theorem RowW.below {B:Nat} {w w':World} {v:Value} {ps:List WC} (h:RowW B w v ps) (hb:Below w.heap.size w w'):RowW B w' v ps:=⟨owns_of_belowN h.1 hb,fun p hp=>(h.2 p hp).below hb⟩
def WC.say (p:WC):ByteArray × List (List CmpD):=(p.name,p.dss)
def wishD (d:NeedD):ByteArray × List (List CmpD):=(d.n,(rangeI d.r).getD [])
theorem infoWish :(Tryz.prog.info? 136).map (fun i=>(i.zero,i.size,i.bytes))=some (some (.agg #[.string ⟨#[]⟩,.slice none 0 0]),2,40):=by kernel_rfl
theorem wishesOf_c (S:Nat→Prop) (v:Value) (xs:List NeedD) (m:Int) (w:World) (hv:RowIn shNeed S w v xs) (hB: ∀ b,S b→b<w.heap.size) (hw:wtRow wtNeed xs≤1048576) (hT: ∀ w1,Below w.heap.size w w1→w1.cell? ⟨2,0,none⟩=some (.int .i64 m)∧∀ k (h:k<signsT.length),w1.cell? ⟨1,k,none⟩=some (.string signsT[k])):
  Calls Tryz.prog 102 #[v] w fun e w'=>∃ v' ps,e=.returned v'∧RowW w.heap.size w' v' ps∧ps.map WC.say=xs.map wishD∧Below w.heap.size w w':=by
 obtain ⟨i0,hi0,hz0,hz1,hz2⟩:=info_parts infoWish
 have hwe: ∀ d∈xs,wtNeed d≤1048576:=fun d hd=>Nat.le_trans (wt_wtRow wtNeed hd) hw
 have hlx:=len_wtRow wtNeed xs
 obtain ⟨av,cv,rfl,hl,hc,ha⟩:=hv
 unfold maxLen at hl
 have HG0:Hid (RowW w.heap.size w (.slice none 0 0) []):=⟨World.ownsRow_nil w _ _ _,fun p hp=>by simp at hp⟩
 have HWE:=hidden hwe
 have HT:=hidden hT
 clear hwe hT
 go_enter Tryz.func102,Tryz.ntmps102
 go_wp2_with fail
 go_loopw [3,10] (fun vx vi wr=>∃ (i:Nat) (vo:Value) (ps:List WC),i≤xs.length∧vi=.int .i64 (i:Int)∧vx=vo∧Hid (ps.map WC.say=(xs.take i).map wishD)∧Hid (RowW w.heap.size wr vo ps)∧Hid (Below w.heap.size w wr)) (fun _ vi _=>xs.length-(intOf vi).toNat)
 case atStart=>exact ⟨0,_,[],Nat.zero_le _,rfl,rfl,(by show _=_;simp),HG0,Below.refl _ _⟩
 case round=>
  clear HG0
  obtain ⟨wo,hwo⟩: ∃ wo,wo=wr:=⟨_,rfl⟩
  subst hwo
  obtain ⟨i,vo,ps,hil,rfl,hvx,hps,hrow,HBR⟩:=hrel
  have hbr:=HBR.out
  have hpl:ps.length≤i:=by
   have h2:=congrArg List.length hps.out
   rw [List.length_map,List.length_map,List.length_take] at h2
   omega
  obtain ⟨qo,co,hvo⟩:=owns_sliceP hrow.out.1
  subst hvx
  subst hvo
  by_cases hlt:i<xs.length
  ·rcases ha with rfl|⟨b,off,rfl,hlb,ha⟩
   ·simp at hlt
   obtain ⟨cs,hL,hcell⟩:=ha i hlt
   have hcell2:=hcell.keep (.of hbr hB) hlb
   have hwk:=HWE.out xs[i] (List.getElem_mem hlt)
   have HST:Hid ((xs.take (i+1)).map wishD=(xs.take i).map wishD++[wishD xs[i]]):=by show _=_;rw [List.take_succ_eq_append_getElem hlt,List.map_append];rfl
   obtain ⟨d,hd⟩: ∃ d,d=xs[i]:=⟨_,rfl⟩
   rw [←hd] at hL hwk HST
   have hdr:d.r.size≤1048576:=by
    have h9:d.n.size+d.r.size≤1048576:=hwk
    omega
   have HPR:Hid (∀ w1,Below wo.heap.size wo w1→Calls Tryz.prog 87 #[.string d.r] w1 fun e w'=>∃ v,e=.returned (.tuple #[v,.bool (rangeI d.r).isSome])∧RangeOwn w1.heap.size w' v ((rangeI d.r).getD [])∧Below w1.heap.size w1 w'):=fun w1 h=>by
    have ht:=HT.out w1 (hbr.trans (h.mono hbr.size))
    exact implRange_c d.r hdr m w1 ht.1 ht.2
   obtain ⟨rfl,s_n,s_r⟩:=hL
   have e0:wo.cell? ⟨b,off+i*2,none⟩=some (.string d.n):=hcell2 0 (by simp)
   have e1:wo.cell? ⟨b,off+i*2+1,none⟩=some (.string d.r):=hcell2 1 (by simp)
   have b0_:(wo.alloc (.cells #[.string d.n,.string d.r] 39)).cell? ⟨wo.heap.size,0,none⟩=some (.string d.n):=vblk_cell (vheap_new _ _) 0
   have b1_:(wo.alloc (.cells #[.string d.n,.string d.r] 39)).cell? ⟨wo.heap.size,1,none⟩=some (.string d.r):=vblk_cell (vheap_new _ _) 1
   have hki:(i:Int)<(xs.length:Int):=by omega
   have kb:Below wo.heap.size wo (wo.alloc (.cells #[.string d.n,.string d.r] 39)):=(Below.refl _ _).alloc (Nat.le_refl _) _
   have KB:=hidden kb
   have HBA:Hid (Below w.heap.size w (wo.alloc (.cells #[.string d.n,.string d.r] 39))):=hbr.alloc hbr.size _
   have HRA:=hidden (hrow.out.below kb)
   obtain ⟨OK,hOK⟩: ∃ OK,OK=(rangeI d.r).isSome:=⟨_,rfl⟩
   rw [←hOK] at HPR
   clear ha hd hcell hcell2 hwk hrow hbr HBR kb s_n s_r hdr hOK
   go_wp2_with fail
   go_at_call 87
   refine (HPR.out _ KB.out).mono ?_
   rintro e w2 ⟨u2,rfl,hu2,b2⟩
   obtain ⟨q0,c0,hq0⟩:=hu2.slice
   subst hq0
   have hN2:w2.cell? ⟨wo.heap.size,0,none⟩=some (.string d.n):=(b2.cell (p:=⟨wo.heap.size,0,none⟩) (by simp)).trans b0_
   have hrow2:=HRA.out.below b2
   have k2:=HBA.out.trans (b2.mono HBA.out.size)
   have hown2:w2.ownsRow w.heap.size 136 2 (.slice qo ps.length co) ps.length (flatW ps):=hrow2.1
   have kz:Below w.heap.size w (w2.alloc (.cells #[.string d.n,.slice q0 ((rangeI d.r).getD []).length c0] 136)):=k2.alloc k2.size _
   have HALL:Hid (∀ q∈ps,RangeOwn 0 w2 q.u q.dss):=hrow2.2
   have HU2:=hidden (hu2.lower (Nat.zero_le _))
   clear HPR HRA hrow2 e0 e1 b0_ b1_ HBA KB hu2
   go_wp2_with (at_builtin;refine wpList_append_own _ rfl _ _ 129 rfl w.heap.size 136 i0 (.agg #[.string ⟨#[]⟩,.slice none 0 0]) 2 40 Tryz.underlying129 hi0 hz0 hz1 hz2 rfl (by decide) _ ps.length (flatW ps) rfl (hown2.alloc _) ⟨w2.heap.size,0,none⟩ 1 1 [.string d.n,.slice q0 ((rangeI d.r).getD []).length c0] rfl rfl (src_newN _ [.string d.n,.slice q0 ((rangeI d.r).getD []).length c0] _) (by intro u hu;simp at hu;rcases hu with rfl|rfl<;>rfl) (by unfold maxLen;omega) (by omega) (by have:=k2.size;simp;omega) ?_)
   intro v3 w3 o3 gr3 _
   have hb3:Below w.heap.size w w3:=kz.grown gr3 kz.size (fun j hj=>(hown2.lt j hj).1)
   have hrow3:RowW w.heap.size w3 v3 (ps++[⟨d.n,(rangeI d.r).getD [],.slice q0 ((rangeI d.r).getD []).length c0⟩]):=by
    refine ⟨?_,fun q hq=>?_⟩
    ·rw [flatW_append,List.length_append]
     exact o3
    ·have kz2:Below w2.heap.size w2 (w2.alloc (.cells #[.string d.n,.slice q0 ((rangeI d.r).getD []).length c0] 136)):=(Below.refl _ _).alloc (Nat.le_refl _) _
     rcases List.mem_append.1 hq with h9|h9
     ·exact ((HALL.out q h9).below kz2).grownW (hown2.alloc _) gr3
     ·rw [List.mem_singleton.1 h9];exact (HU2.out.below kz2).grownW (hown2.alloc _) gr3
   have HR3:=hidden hrow3
   have HB3:=hidden hb3
   have HNW:Hid ((ps++[(⟨d.n,(rangeI d.r).getD [],.slice q0 ((rangeI d.r).getD []).length c0⟩:WC)]).map WC.say=(xs.take (i+1)).map wishD):=by
    show _=_
    rw [HST.out,List.map_append,hps.out]
    rfl
   clear hrow3 hb3 o3 gr3 HALL kz k2 b2 hown2 hps HU2 hN2
   go_wp2_with fail
   go_roundw
   case rel=>exact ⟨i+1,_,_,by omega,by go_num,rfl,HNW,HR3,HB3⟩
   case measure=>simp [intOf];omega
  ·have he:i=xs.length:=by omega
   subst he
   rw [List.take_length] at hps
   clear ha
   go_wp2_with fail
   go_ret
   exact ⟨_,ps,rfl,hrow.out,hps.out,hbr⟩
structure VC where
 a:Int
 b:Int
 c:Int
 ps:List ByteArray
 u:Value
def VC.val (x:VC):Value:=.agg #[.int .i64 x.a,.int .i64 x.b,.int .i64 x.c,x.u]
def PmOk (w:World) (pm:ByteArray→Option VC):Prop:=∀ p x,pm p=some x→w.ownsRow 0 9 1 x.u x.ps.length (strsV x.ps)∧bulkS x.ps≤1048576
theorem PmOk.below {w w':World} {pm:ByteArray→Option VC} (h:PmOk w pm) (hb:Below w.heap.size w w'):PmOk w' pm:=fun p x e=>⟨owns_of_belowN (h p x e).1 hb,(h p x e).2⟩
def WOk (p:WC):Prop:=p.name.size≤1048576∧p.dss.length≤4∧(∀ ds∈p.dss,ds.length≤4)∧(∀ ds∈p.dss,∀ d∈ds,bulkS d.ps≤1048576)∧wtR p.dss≤1048576
def goOpen (pm:ByteArray→Option VC):List WC→Nat→Nat × Bool
 |[],n=>(n,true)
 |p::r,n=>match pm p.name with
  |none=>(n,true)
  |some x=>if inRB x.a x.b x.c x.ps p.dss=true then goOpen pm r (n+1) else (n,false)
theorem RowW.cell {B g n cap:Nat} {w:World} {ps:List WC} (h:RowW B w (.slice (some ⟨g,0,none⟩) n cap) ps) (hn:n=ps.length) {i:Nat} (hi:i<ps.length) (j:Nat) (hj:j<2):w.cell? ⟨g,i*2+j,none⟩=(ps[i].cells)[j]? :=by
 subst hn
 rw [h.1.cellAt _ (by omega),flatW_at ps i hi j hj]
theorem rowW_some {B:Nat} {w:World} {v:Value} {ps:List WC} (h:RowW B w v ps) (hp:0<ps.length): ∃ g cap,v=.slice (some ⟨g,0,none⟩) ps.length cap:=by
 rcases id h.1.2 with ⟨rfl,h0⟩|⟨g,cap,cur,rfl,_⟩
 ·omega
 ·exact ⟨g,cap,rfl⟩
theorem nextOpen_c (B mb n s at0:Nat) (v:Value) (ws:List WC) (pm:ByteArray→Option VC) (w:World) (hv:RowW B w v ws) (hl:ws.length≤1099511627776) (hW: ∀ p∈ws,WOk p) (hm:MapV w mb n s (fun p=>(pm p).map VC.val)) (hp:PmOk w pm) (hat:at0≤ws.length):
  Calls Tryz.prog 104 #[v,.int .i64 (at0:Int),.map (some mb)] w fun e w'=>e=.returned (.tuple #[.int .i64 ((goOpen pm (ws.drop at0) at0).1:Int),.bool (goOpen pm (ws.drop at0) at0).2])∧Below w.heap.size w w':=by
 obtain ⟨R,hR⟩: ∃ R,R=goOpen pm (ws.drop at0) at0:=⟨_,rfl⟩
 rw [←hR]
 have HR:Hid (goOpen pm (ws.drop at0) at0=R):=hR.symm
 have HV:=hidden hv
 have HW:=hidden hW
 have HM:=hidden hm
 have HPM:=hidden hp
 obtain ⟨qo,co,hvo⟩:=owns_sliceP hv.1
 subst hvo
 clear hR hv hW hm hp
 go_enter Tryz.func104,Tryz.ntmps104
 go_wp2_with fail
 go_loopw [1] (fun vi wr=>∃ k:Nat,k≤ws.length∧vi=.int .i64 (k:Int)∧Hid (goOpen pm (ws.drop k) k=R)∧Hid (Below w.heap.size w wr)) (fun vi _=>ws.length-(intOf vi).toNat)
 case atStart=>exact ⟨at0,hat,rfl,HR,Below.refl _ _⟩
 case round=>
  clear HR
  obtain ⟨k,hk,rfl,HR,HBR⟩:=hrel
  by_cases hlt:k<ws.length
  case neg=>
   have he:k=ws.length:=by omega
   subst he
   have HE:Hid (R=(ws.length,true)):=by show _=_;rw [←HR.out,List.drop_length];rfl
   go_wp2_with fail
   go_ret2
   exact ⟨by rw [HE.out];rfl,HBR.out⟩
  case pos=>
  obtain ⟨g,cap,hg⟩:=rowW_some HV.out (by omega)
  obtain ⟨rfl,rfl⟩:qo=some ⟨g,0,none⟩∧co=cap:=by injection hg with h1 h2 h3;exact ⟨h1,h3⟩
  have hrow:=HV.out.below (HBR.out)
  have hki:(k:Int)<(ws.length:Int):=by omega
  have hk0:(0:Int)≤(k:Int):=by omega
  have hro:RangeOwn 0 wr ws[k].u ws[k].dss:=hrow.2 _ (List.getElem_mem hlt)
  have hcs: ∀ j,j<2→wr.cell? ⟨g,k*2+j,none⟩=(ws[k].cells)[j]? :=fun j hj=>hrow.cell rfl hlt j hj
  have hok:=HW.out _ (List.getElem_mem hlt)
  have HRD:Hid (goOpen pm (ws[k]::ws.drop (k+1)) k=R):=by show _=_;rw [←List.drop_eq_getElem_cons hlt];exact HR.out
  have hgr:g<wr.heap.size:=(hrow.1.lt g rfl).2
  obtain ⟨p,hpd⟩: ∃ p,p=ws[k]:=⟨_,rfl⟩
  rw [←hpd] at hro hcs hok HRD
  obtain ⟨q1,c1,hq1⟩:=hro.slice
  have hmx:p.name.size≤maxLen:=by have:=hok.1;unfold maxLen;omega
  have e0:wr.cell? ⟨g,k*2,none⟩=some (.string p.name):=hcs 0 (by omega)
  have e1:wr.cell? ⟨g,k*2+1,none⟩=some (.slice q1 p.dss.length c1):=by rw [←hq1];exact hcs 1 (by omega)
  have HMR:Hid (MapV wr mb n s (fun p=>(pm p).map VC.val)):=HM.out.below HBR.out
  have hri:RangeIn (Ow 0 wr.heap.size) wr (.slice q1 p.dss.length c1) p.dss:=by rw [←hq1];exact hro.rangeIn hok.2.1 hok.2.2.1 hok.2.2.2.1
  have hwt:=hok.2.2.2.2
  clear hg hrow hcs hok hpd HR hro hq1
  cases hf:pm p.name with
  |none=>
   have HE:Hid (R=(k,true)):=by show _=_;rw [←HRD.out];unfold goOpen;rw [hf]
   have HQ:Hid (Value.tuple #[((pm p.name).map VC.val).getD zeroVV,.bool ((pm p.name).map VC.val).isSome]=.tuple #[.agg #[.int .i64 0,.int .i64 0,.int .i64 0,.slice none 0 0],.bool false]):=by show _=_;rw [hf];rfl
   have HBA:Hid (∀ o,Below w.heap.size w (wr.alloc o)):=fun o=>HBR.out.alloc HBR.out.size _
   clear hf HRD hri hwt
   go_wp2_with (at_lookup;refine wpList_lookup_V _ rfl _ _ rfl mb n s _ rfl HMR.out p.name rfl hmx _ HQ.out ?_)
   go_ret2
   exact ⟨by rw [HE.out];rfl,HBA.out _⟩
  |some x=>
   have hx:=(HPM.out.below HBR.out) _ _ hf
   obtain ⟨q2,c2,hq2⟩:=owns_sliceP hx.1
   have hrx:Reads wr (.slice q2 x.ps.length c2) (strsV x.ps):=by rw [←hq2];exact reads_of_owns hx.1
   have hbx:=hx.2
   have HQ:Hid (Value.tuple #[((pm p.name).map VC.val).getD zeroVV,.bool ((pm p.name).map VC.val).isSome]=.tuple #[.agg #[.int .i64 x.a,.int .i64 x.b,.int .i64 x.c,.slice q2 x.ps.length c2],.bool true]):=by show _=_;rw [hf,Option.map_some];show Value.tuple #[x.val,.bool true]=_;unfold VC.val;rw [hq2]
   have hkb:Below wr.heap.size wr (wr.alloc (.cells #[.int .i64 x.a,.int .i64 x.b,.int .i64 x.c,.slice q2 x.ps.length c2] 30)):=(Below.refl _ _).alloc (Nat.le_refl _) _
   obtain ⟨LB,hLB⟩: ∃ LB,LB=inRB x.a x.b x.c x.ps p.dss:=⟨_,rfl⟩
   have HGO:Hid (R=if LB=true then goOpen pm (ws.drop (k+1)) (k+1) else (k,false)):=by
    show _=_
    rw [hLB, ←HRD.out]
    conv=>lhs;unfold goOpen
    rw [hf]
   obtain ⟨w5,hw5⟩: ∃ w5,w5=wr.alloc (.cells #[.int .i64 x.a,.int .i64 x.b,.int .i64 x.c,.slice q2 x.ps.length c2] 30):=⟨_,rfl⟩
   have h5:Below wr.heap.size wr w5:=by rw [hw5];exact hkb
   have h5s:wr.heap.size<w5.heap.size:=by rw [hw5];simp
   have h5b:w5.heap[wr.heap.size]?=some (.cells #[.int .i64 x.a,.int .i64 x.b,.int .i64 x.c,.slice q2 x.ps.length c2] 30 (0,0)):=by rw [hw5];exact vheap_new _ _
   have HIN:Hid (∀ W,Below w5.heap.size w5 W→Calls Tryz.prog 88 #[.slice q1 p.dss.length c1,.agg #[.int .i64 x.a,.int .i64 x.b,.int .i64 x.c,.slice q2 x.ps.length c2]] W fun e w'=>e=.returned (.bool LB)∧Below W.heap.size W w'):=fun W hW=>by
    have hb:=h5.trans (hW.mono (Nat.le_of_lt h5s))
    rw [hLB]
    exact implInRange_c _ _ p.dss x.a x.b x.c _ x.ps W (hri.keep (.of hb (fun b h=>h.2))) (fun b h=>Nat.lt_of_lt_of_le h.2 hb.size) hwt (hrx.below hb) hbx
   have KEEP:Hid (∀ W,Below w5.heap.size w5 W→W.cell? ⟨g,k*2+1,none⟩=some (.slice q1 p.dss.length c1)∧W.cell? ⟨wr.heap.size,0,none⟩=some (.int .i64 x.a)∧W.cell? ⟨wr.heap.size,1,none⟩=some (.int .i64 x.b)∧W.cell? ⟨wr.heap.size,2,none⟩=some (.int .i64 x.c)∧W.cell? ⟨wr.heap.size,3,none⟩=some (.slice q2 x.ps.length c2)):=fun W hW=>by
    have hb:=h5.trans (hW.mono (Nat.le_of_lt h5s))
    have hX:W.heap[wr.heap.size]?=some (.cells #[.int .i64 x.a,.int .i64 x.b,.int .i64 x.c,.slice q2 x.ps.length c2] 30 (0,0)):=(hW.block _ h5s).trans h5b
    exact ⟨(hb.cell (p:=⟨g,k*2+1,none⟩) hgr).trans e1,vblk_cell hX 0,vblk_cell hX 1,vblk_cell hX 2,vblk_cell hX 3⟩
   have HB5:Hid (Below w.heap.size w w5):=by show Below _ _ _;rw [hw5];exact HBR.out.alloc HBR.out.size _
   have HW5:=hidden hw5
   clear hf HRD hri hwt hx hq2 hrx hbx hkb hLB hw5 h5b
   go_wp2_with (at_lookup;refine wpList_lookup_V _ rfl _ _ rfl mb n s _ rfl HMR.out p.name rfl hmx _ HQ.out ?_)
   have hd0:Below w5.heap.size w5 w5.drew:=(Below.refl _ _).drew
   rw [←HW5.out]
   clear HW5
   refine wp_region_held_drew (S:=(fun W=>W.cell? ⟨g,k*2+1,none⟩=some (.slice q1 p.dss.length c1)∧W.cell? ⟨wr.heap.size,0,none⟩=some (.int .i64 x.a)∧W.cell? ⟨wr.heap.size,1,none⟩=some (.int .i64 x.b)∧W.cell? ⟨wr.heap.size,2,none⟩=some (.int .i64 x.c)∧W.cell? ⟨wr.heap.size,3,none⟩=some (.slice q2 x.ps.length c2))) (by kernel_rfl) ?SR10 (fun hHeld=>?_)
   case SR10=>(first|(with_reducible exact KEEP.out _ hd1)|(with_reducible exact KEEP.out _ hd0))
   refine tk 0 hHeld (h:=?_)
   refine tk 1 hHeld (h:=?_)
   refine tk 2 hHeld (h:=?_)
   refine tk 3 hHeld (h:=?_)
   refine tk 4 hHeld (h:=?_)
   refine tk 5 hHeld (h:=?_)
   refine wpAnyH_ready (rs:=[6]) (by kernel_rfl) (by simp) ?_
   refine AllReadyH.cons rfl (fun K hK=>?_) AllReadyH.nil
   go_simp
   go_wp2_with (go_at_call 88;refine (HIN.out _ hd0).mono ?_;rintro e w6 ⟨rfl,b6⟩;have hd1:Below w5.heap.size w5 w6:=hd0.trans (b6.mono hd0.size))
   clear hHeld
   refine hK.out _ _ ?SR17 (fun hHeld=>?_)
   case SR17=>((try dsimp only);first|(with_reducible exact KEEP.out _ hd1)|(with_reducible exact KEEP.out _ hd0))
   clear hK K
   refine tk 7 hHeld (h:=?_)
   refine wpAnyH_done (by kernel_rfl) ?_ _
   have k6:=HB5.out.trans (hd1.mono HB5.out.size)
   have HK6:=hidden k6
   clear KEEP HIN hd0 hd1 b6 k6
   cases LB with
   |false=>
    have HE:Hid (R=(k,false)):=by show _=_;rw [HGO.out];rfl
    go_wp2_with fail
    go_ret2
    exact ⟨by rw [HE.out];rfl,HK6.out⟩
   |true=>
    have HN2:Hid (goOpen pm (ws.drop (k+1)) (k+1)=R):=by show _=_;rw [HGO.out];rfl
    clear HGO
    go_wp2_with fail
    go_roundw
    case rel=>exact ⟨k+1,by omega,by go_num,HN2,HK6⟩
    case measure=>simp [intOf];omega
theorem cmpNew_c (x y:EntryD) (u u1 v v1:Value) (w:World) (hu:Reads w u (strsV x.vP)) (hv:Reads w v (strsV y.vP)) (hb:bulkS x.vP≤1048576) (hb':bulkS y.vP≤1048576):
  Calls Tryz.prog 74 #[.agg #[.string x.name,.int .i64 x.vA,.int .i64 x.vB,.int .i64 x.vC,u,u1],.agg #[.string y.name,.int .i64 y.vA,.int .i64 y.vB,.int .i64 y.vC,v,v1]] w fun e w'=>∃ m:Int,e=.returned (.int .i64 m)∧decide (m<0)=lessE y x∧Below w.heap.size w w':=by
 have HF:Hid (∀ w1,Below w.heap.size w w1→Calls Tryz.prog 75 #[.agg #[.int .i64 y.vA,.int .i64 y.vB,.int .i64 y.vC,v],.agg #[.int .i64 x.vA,.int .i64 x.vB,.int .i64 x.vC,u]] w1 fun e w'=>e=.returned (.int .i64 (cmpVer y.vA y.vB y.vC y.vP x.vA x.vB x.vC x.vP))∧Below w1.heap.size w1 w'):=fun w1 h=>compareVers_c _ _ _ v _ _ _ _ u _ w1 (hv.below h) (hu.below h) hb' hb
 have HN:Hid (decide (cmpVer y.vA y.vB y.vC y.vP x.vA x.vB x.vC x.vP<0)=lessE y x):=cmpVer_neg ..
 obtain ⟨q,cap,rfl,_,_⟩:=reads_strs hu
 obtain ⟨q',cap',rfl,_,_⟩:=reads_strs hv
 generalize hM:cmpVer y.vA y.vB y.vC y.vP x.vA x.vB x.vC x.vP=M at HF HN
 clear hu hv hb hb' hM
 go_enter Tryz.func74,Tryz.ntmps74
 go_wp2_with (go_at_call 75;refine (HF.out _ (two_box _ _)).mono ?_;rintro e w1 ⟨rfl,b1⟩)
 go_ret
 exact ⟨_,rfl,HN.out,(two_box _ _).trans (b1.mono (by simp;omega))⟩
end Go.Proofs.YtlfmefojcmpfeaaGreatDoor
