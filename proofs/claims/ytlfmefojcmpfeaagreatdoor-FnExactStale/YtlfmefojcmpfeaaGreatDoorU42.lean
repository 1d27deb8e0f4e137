/-
  Contracts for the walks and pure facts, several texts in one: each theorem says what it proves, and under which conditions.
-/
import Derived.Test.YtlfmefojcmpfeaaGreatDoorUT
import Derived.Test.YtlfmefojcmpfeaaGreatDoorU40
import Derived.Test.YtlfmefojcmpfeaaGreatDoorU41
set_option linter.unusedSimpArgs false
set_option linter.unusedVariables false
set_option maxHeartbeats 16000000
set_option maxRecDepth 100000
namespace Go.Proofs.YtlfmefojcmpfeaaGreatDoor
open Go.RowKit
theorem same_key (d:EntryD) (n:ByteArray) (a b c:Int) (ps:List ByteArray):sameK ⟨n,a,b,c,⟨(preL ps).toArray⟩⟩ d=(decide (d.name=n)&&sameB d.vA d.vB d.vC d.vP a b c ps):=by
 have e:decide ((⟨(preL d.vP).toArray⟩:ByteArray)=⟨(preL ps).toArray⟩)=decide (d.vP=ps):=by
  by_cases h:d.vP=ps
  ·rw [h];simp
  ·rw [decide_eq_false h,decide_eq_false]
   intro h2
   have h3:=congrArg ByteArray.data h2
   exact h (preL_inj (by simpa using h3))
 have hq: ∀ x y:Int,(x == y)=decide (x=y):=fun x y=>by rw [Bool.eq_iff_iff];simp
 unfold sameK sameB coreB
 simp only [e,hq]
 cases decide (d.name=n)<;>cases decide (d.vA=a)<;>cases decide (d.vB=b)<;>cases decide (d.vC=c)<;>cases decide (d.vP=ps)<;>rfl
theorem firstK_at {xs:List EntryD} {q:KeyE} {k:Nat} (h:k<xs.length) (hy:sameK q xs[k]=true) (hn: ∀ j (hj:j<xs.length),j<k→sameK q xs[j]=false):firstK xs q=some k:=by
 unfold firstK
 rw [List.findIdx?_eq_some_iff_getElem]
 exact ⟨h,hy,fun j hj=>by simp [hn j (by omega) hj]⟩
theorem firstK_none {xs:List EntryD} {q:KeyE} (hn: ∀ j (hj:j<xs.length),sameK q xs[j]=false):firstK xs q=none:=by
 unfold firstK
 rw [List.findIdx?_eq_none_iff]
 intro x hx
 obtain ⟨j,hj,rfl⟩:=List.mem_iff_getElem.1 hx
 exact hn j hj
theorem zero_liesO (S:Nat→Prop) (w:World):shEntryO.lies S w [.string ⟨#[]⟩,.int .i64 0,.int .i64 0,.int .i64 0,.slice none 0 0,.slice none 0 0] zeroD:=
 ⟨_,_,rfl,Nat.zero_le _,⟨⟨rfl,.inl ⟨rfl,rfl⟩⟩,fun g h=>by simp [Value.ownBlock] at h⟩,⟨Nat.zero_le _,fun s h=>by cases h⟩,⟨Nat.zero_le _,[],⟨rfl,.inl ⟨rfl,rfl⟩⟩,fun g h=>by simp [Value.ownBlock] at h,fun i h=>by simp [zeroD] at h⟩⟩
theorem specEntry_c (S:Nat→Prop) (v:Value) (xs:List EntryD) (n:ByteArray) (a b c:Int) (u:Value) (ps:List ByteArray) (w:World) (hv:RowIn shEntryO S w v xs) (hB: ∀ b,S b→b<w.heap.size) (hw:wtRow wtEntry xs≤1048576)
  (hu:Reads w u (strsV ps)) (hb:bulkS ps≤1048576):
  Calls Tryz.prog 17 #[v,.string n,.agg #[.int .i64 a,.int .i64 b,.int .i64 c,u]] w fun e w'=>∃ cs,e=.returned (.tuple #[.agg cs.toArray,.bool (firstK xs ⟨n,a,b,c,⟨(preL ps).toArray⟩⟩).isSome])∧shEntryO.lies (Ow w.heap.size w'.heap.size) w' cs (atD xs (firstK xs ⟨n,a,b,c,⟨(preL ps).toArray⟩⟩))∧Below w.heap.size w w':=by
 have hb2: ∀ A R,Below w.heap.size w ((w.alloc A).alloc R):=fun A R=>((Below.refl _ _).alloc (Nat.le_refl _) _).alloc (by simp) _
 have hwe: ∀ d∈xs,wtEntry d≤1048576:=fun d hd=>Nat.le_trans (wt_wtRow wtEntry hd) hw
 have hru: ∀ w1,Below w.heap.size w w1→Reads w1 u (strsV ps):=fun w1 h=>hu.below h
 obtain ⟨q,cap,rfl,_,_⟩:=reads_strs hu
 obtain ⟨av,cv,rfl,hl,hc,ha⟩:=hv
 unfold maxLen at hl
 have HSK:Hid (∀ d:EntryD,sameK ⟨n,a,b,c,⟨(preL ps).toArray⟩⟩ d=(decide (d.name=n)&&sameB d.vA d.vB d.vC d.vP a b c ps)):=fun d=>same_key d n a b c ps
 obtain ⟨KD,hKD⟩: ∃ K:KeyE,K=⟨n,a,b,c,⟨(preL ps).toArray⟩⟩:=⟨_,rfl⟩
 rw [←hKD] at HSK
 rw [←hKD]
 obtain ⟨hAz,hRz⟩:=two_boxes (w:=w) (.cells #[.int .i64 a,.int .i64 b,.int .i64 c,.slice q ps.length cap] 30 (0,0)) (.cells #[.string ⟨#[]⟩,.int .i64 0,.int .i64 0,.int .i64 0,.slice none 0 0,.slice none 0 0] 35 (0,0))
 have hwz:=hb2 (.cells #[.int .i64 a,.int .i64 b,.int .i64 c,.slice q ps.length cap] 30 (0,0)) (.cells #[.string ⟨#[]⟩,.int .i64 0,.int .i64 0,.int .i64 0,.slice none 0 0,.slice none 0 0] 35 (0,0))
 have hsz:((w.alloc (.cells #[.int .i64 a,.int .i64 b,.int .i64 c,.slice q ps.length cap] 30 (0,0))).alloc (.cells #[.string ⟨#[]⟩,.int .i64 0,.int .i64 0,.int .i64 0,.slice none 0 0,.slice none 0 0] 35 (0,0))).heap.size=w.heap.size+2:=by simp
 clear hKD hu
 go_enter Tryz.func17,Tryz.ntmps17
 go_wp2_with fail
 obtain ⟨wz,hW⟩: ∃ wz,wz=(w.alloc (.cells #[.int .i64 a,.int .i64 b,.int .i64 c,.slice q ps.length cap] 30 (0,0))).alloc (.cells #[.string ⟨#[]⟩,.int .i64 0,.int .i64 0,.int .i64 0,.slice none 0 0,.slice none 0 0] 35 (0,0)):=⟨_,rfl⟩
 rw [←hW] at hAz hRz hwz hsz
 rw [←hW]
 clear hW
 go_loopw [8] (fun vi wr=>∃ k:Nat,k≤xs.length∧vi=.int .i64 (k:Int)∧Hid (∀ j (hj:j<xs.length),j<k→sameK KD xs[j]=false)∧Below wz.heap.size wz wr) (fun vi _=>xs.length-(intOf vi).toNat)
 case atStart=>exact ⟨0,Nat.zero_le _,rfl,(fun j hj h=>by omega),Below.refl _ _⟩
 case round=>
  obtain ⟨k,hk,rfl,hno,hbz⟩:=hrel
  have hbr:Below w.heap.size w wr:=hwz.trans (hbz.mono (by omega))
  have hAr:=(hbz.block w.heap.size (by omega)).trans hAz
  have hRr:=(hbz.block (w.heap.size+1) (by omega)).trans hRz
  have hszr:=hbz.size
  by_cases hlt':k<xs.length
  ·rcases ha with rfl|⟨b0,off,rfl,hlt,ha⟩
   ·simp at hlt'
   obtain ⟨cs,hL,hcell⟩:=ha k hlt'
   replace hcell:=hcell.keep (.of hbr hB) hlt
   replace hL:=shEntryO.keep (.of hbr hB) hL
   have hbb:b0<wr.heap.size:=Nat.lt_of_lt_of_le (hB b0 hlt) hbr.size
   have hBr: ∀ b,S b→b<wr.heap.size:=fun b h=>Nat.lt_of_lt_of_le (hB b h) hbr.size
   have hwk:=hwe xs[k] (List.getElem_mem hlt')
   have HY:Hid (sameK KD xs[k]=true→firstK xs KD=some k):=fun h=>firstK_at hlt' h hno.out
   have HN:Hid (sameK KD xs[k]=false→∀ j (hj:j<xs.length),j<k+1→sameK KD xs[j]=false):=fun h j hj hjk=>by
    by_cases e:j=k
    ·subst e;exact h
    ·exact hno.out j hj (by omega)
   have HAT:Hid (atD xs (some k)=xs[k]):=by show _=_;simp [atD,hlt']
   obtain ⟨d,hd⟩: ∃ d,d=xs[k]:=⟨_,rfl⟩
   rw [←hd] at hL hwk HY HN HAT
   have hsk:=HSK.out d
   rw [hsk] at HY HN
   have HC': ∀ w1,Below wr.heap.size wr w1→Calls Tryz.prog 83 #[.agg cs.toArray] w1 fun e w'=>∃ cs',e=.returned (.agg cs'.toArray)∧shEntryO.lies (Ow w1.heap.size w'.heap.size) w' cs' d∧Below w1.heap.size w1 w':=fun w1 h=>l8Copy_c S d cs w1 (shEntryO.keep (.of h hBr) hL) (fun b hb=>Nat.lt_of_lt_of_le (hBr b hb) h.size) hwk
   obtain ⟨u0,u1,rfl,s_n,r0,p0,r1⟩:=hL
   have hbk:bulkS d.vP≤1048576:=by unfold wtEntry at hwk;omega
   have hpl:d.vP.length≤1048576:=by unfold bulkS at hbk;omega
   have HS': ∀ w1,Below wr.heap.size wr w1→Calls Tryz.prog 82 #[.agg #[.int .i64 d.vA,.int .i64 d.vB,.int .i64 d.vC,u0],.agg #[.int .i64 a,.int .i64 b,.int .i64 c,.slice q ps.length cap]] w1 fun e w'=>e=.returned (.bool (sameB d.vA d.vB d.vC d.vP a b c ps))∧Below w1.heap.size w1 w':=fun w1 h=>specSame_c _ _ _ u0 d.vP _ _ _ _ ps w1 ((r0.plain.keep (.of h hBr)).reads (fun b hb=>Nat.lt_of_lt_of_le (hBr b hb) h.size)) (hru w1 (hbr.trans (h.mono hbr.size))) hpl
   obtain ⟨a0,cap0,eu0⟩:=r0.slice
   subst eu0
   obtain ⟨a1,cap1,eu1⟩:=r1.slice
   subst eu1
   obtain ⟨SB,hSB⟩: ∃ r,r=sameB d.vA d.vB d.vC d.vP a b c ps:=⟨_,rfl⟩
   simp only [←hSB] at HS'
   rw [←hSB] at HY HN
   have HS:=hidden HS'
   have HC:=hidden HC'
   have e0:wr.cell? ⟨b0,off+k*6,none⟩=some (.string d.name):=hcell 0 (by simp)
   have e1:wr.cell? ⟨b0,off+k*6+1,none⟩=some (.int .i64 d.vA):=hcell 1 (by simp)
   have e2:wr.cell? ⟨b0,off+k*6+2,none⟩=some (.int .i64 d.vB):=hcell 2 (by simp)
   have e3:wr.cell? ⟨b0,off+k*6+3,none⟩=some (.int .i64 d.vC):=hcell 3 (by simp)
   have e4:wr.cell? ⟨b0,off+k*6+4,none⟩=some (.slice a0 d.vP.length cap0):=hcell 4 (by simp)
   have e5:wr.cell? ⟨b0,off+k*6+5,none⟩=some (.slice a1 d.needs.length cap1):=hcell 5 (by simp)
   have hki:(k:Int)<(xs.length:Int):=by omega
   have hd0:Below wr.heap.size wr wr.drew:=(Below.refl _ _).drew
   have hnm:=name_alike d.name n
   have KEEP:Hid (∀ w1,Below wr.heap.size wr w1→w1.cell? ⟨b0,off+k*6,none⟩=some (.string d.name)∧w1.cell? ⟨b0,off+k*6+1,none⟩=some (.int .i64 d.vA)∧w1.cell? ⟨b0,off+k*6+2,none⟩=some (.int .i64 d.vB)∧w1.cell? ⟨b0,off+k*6+3,none⟩=some (.int .i64 d.vC)∧w1.cell? ⟨b0,off+k*6+4,none⟩=some (.slice a0 d.vP.length cap0)∧w1.cell? ⟨b0,off+k*6+5,none⟩=some (.slice a1 d.needs.length cap1)∧w1.cell? ⟨w.heap.size,0,none⟩=some (.int .i64 a)∧w1.cell? ⟨w.heap.size,1,none⟩=some (.int .i64 b)∧w1.cell? ⟨w.heap.size,2,none⟩=some (.int .i64 c)∧w1.cell? ⟨w.heap.size,3,none⟩=some (.slice q ps.length cap)):=fun w1 h=>by
    have hA:=(h.block w.heap.size (by omega)).trans hAr
    exact ⟨(h.cell (by simpa using hbb)).trans e0,(h.cell (by simpa using hbb)).trans e1,(h.cell (by simpa using hbb)).trans e2,(h.cell (by simpa using hbb)).trans e3,(h.cell (by simpa using hbb)).trans e4,(h.cell (by simpa using hbb)).trans e5,vblk_cell hA 0,vblk_cell hA 1,vblk_cell hA 2,vblk_cell hA 3⟩
   clear ha hd hcell hsk HS' HC' r0 r1 p0 s_n hSB hwk hbk hpl hno HSK
   clear e0 e1 e2 e3 e4 e5
   by_cases hnn:d.name=n
   ·rw [decide_eq_true hnn,Bool.true_and] at HY HN
    rw [decide_eq_true hnn] at hnm
    clear hnn
    cases SB with
    |false=>
     have HN2:=hidden (HN.out rfl)
     clear HY HN
     go_wp2_with fail
     refine wp_region_held_drew (S:=(fun w'=>w'.cell? ⟨b0,off+k*6,none⟩=some (.string d.name)∧w'.cell? ⟨b0,off+k*6+1,none⟩=some (.int .i64 d.vA)∧w'.cell? ⟨b0,off+k*6+2,none⟩=some (.int .i64 d.vB)∧w'.cell? ⟨b0,off+k*6+3,none⟩=some (.int .i64 d.vC)∧w'.cell? ⟨b0,off+k*6+4,none⟩=some (.slice a0 d.vP.length cap0)∧w'.cell? ⟨b0,off+k*6+5,none⟩=some (.slice a1 d.needs.length cap1)∧w'.cell? ⟨w.heap.size,0,none⟩=some (.int .i64 a)∧w'.cell? ⟨w.heap.size,1,none⟩=some (.int .i64 b)∧w'.cell? ⟨w.heap.size,2,none⟩=some (.int .i64 c)∧w'.cell? ⟨w.heap.size,3,none⟩=some (.slice q ps.length cap))) (by kernel_rfl) ?SR10 (fun hHeld=>?_)
     case SR10=>(first|(with_reducible exact KEEP.out _ hd1)|(with_reducible exact KEEP.out _ hd0))
     refine tk 0 hHeld (h:=?_)
     refine tk 1 hHeld (h:=?_)
     refine tk 2 hHeld (h:=?_)
     refine tk 3 hHeld (h:=?_)
     refine tk 4 hHeld (h:=?_)
     refine tk 5 hHeld (h:=?_)
     refine tk 6 hHeld (h:=?_)
     refine tk 7 hHeld (h:=?_)
     refine tk 8 hHeld (h:=?_)
     refine tk 9 hHeld (h:=?_)
     refine tk 10 hHeld (h:=?_)
     refine tk 11 hHeld (h:=?_)
     refine tk 12 hHeld (h:=?_)
     refine tk 13 hHeld (h:=?_)
     refine wpAnyH_ready (rs:=[14]) (by kernel_rfl) (by simp) ?_
     refine AllReadyH.cons rfl (fun K hK=>?_) AllReadyH.nil
     go_simp
     go_wp2_with (go_at_call 82;refine (HS.out _ hd0).mono ?_;rintro e w1 ⟨rfl,b1⟩;have hd1:Below wr.heap.size wr w1:=hd0.trans (b1.mono hd0.size))
     clear hHeld
     refine hK.out _ _ ?SR115 (fun hHeld=>?_)
     case SR115=>((try dsimp only);first|(with_reducible exact KEEP.out _ hd1)|(with_reducible exact KEEP.out _ hd0))
     clear hK K
     refine tk 15 hHeld (h:=?_)
     refine wpAnyH_done (by kernel_rfl) ?_ _
     go_wp2_with fail
     go_roundw
     case rel=>exact ⟨k+1,by omega,by go_num,HN2.out,hbz.trans (hd1.mono hbz.size)⟩
     case measure=>simp [intOf];omega
    |true=>
     have HY2:=hidden (HY.out rfl)
     clear HY HN
     go_wp2_with fail
     refine wp_region_held_drew (S:=(fun w'=>w'.cell? ⟨b0,off+k*6,none⟩=some (.string d.name)∧w'.cell? ⟨b0,off+k*6+1,none⟩=some (.int .i64 d.vA)∧w'.cell? ⟨b0,off+k*6+2,none⟩=some (.int .i64 d.vB)∧w'.cell? ⟨b0,off+k*6+3,none⟩=some (.int .i64 d.vC)∧w'.cell? ⟨b0,off+k*6+4,none⟩=some (.slice a0 d.vP.length cap0)∧w'.cell? ⟨b0,off+k*6+5,none⟩=some (.slice a1 d.needs.length cap1)∧w'.cell? ⟨w.heap.size,0,none⟩=some (.int .i64 a)∧w'.cell? ⟨w.heap.size,1,none⟩=some (.int .i64 b)∧w'.cell? ⟨w.heap.size,2,none⟩=some (.int .i64 c)∧w'.cell? ⟨w.heap.size,3,none⟩=some (.slice q ps.length cap))) (by kernel_rfl) ?SR20 (fun hHeld=>?_)
     case SR20=>(first|(with_reducible exact KEEP.out _ hd1)|(with_reducible exact KEEP.out _ hd0))
     refine tk 0 hHeld (h:=?_)
     refine tk 1 hHeld (h:=?_)
     refine tk 2 hHeld (h:=?_)
     refine tk 3 hHeld (h:=?_)
     refine tk 4 hHeld (h:=?_)
     refine tk 5 hHeld (h:=?_)
     refine tk 6 hHeld (h:=?_)
     refine tk 7 hHeld (h:=?_)
     refine tk 8 hHeld (h:=?_)
     refine tk 9 hHeld (h:=?_)
     refine tk 10 hHeld (h:=?_)
     refine tk 11 hHeld (h:=?_)
     refine tk 12 hHeld (h:=?_)
     refine tk 13 hHeld (h:=?_)
     refine wpAnyH_ready (rs:=[14]) (by kernel_rfl) (by simp) ?_
     refine AllReadyH.cons rfl (fun K hK=>?_) AllReadyH.nil
     go_simp
     go_wp2_with (go_at_call 82;refine (HS.out _ hd0).mono ?_;rintro e w1 ⟨rfl,b1⟩;have hd1:Below wr.heap.size wr w1:=hd0.trans (b1.mono hd0.size))
     clear hHeld
     refine hK.out _ _ ?SR215 (fun hHeld=>?_)
     case SR215=>((try dsimp only);first|(with_reducible exact KEEP.out _ hd1)|(with_reducible exact KEEP.out _ hd0))
     clear hK K
     refine tk 15 hHeld (h:=?_)
     refine wpAnyH_done (by kernel_rfl) ?_ _
     obtain ⟨x0,x1,x2,x3,x4,x5,_⟩:=KEEP.out _ hd1
     go_wp2_with fail
     go_at_call 83
     refine (HC.out _ hd1).mono ?_
     rintro e wC ⟨cs9,rfl,hl9,bC⟩
     have kC:Below wz.heap.size wz wC:=(hbz.trans (hd1.mono hbz.size)).trans (bC.mono (hbz.trans (hd1.mono hbz.size)).size)
     have hRC:=(kC.block (w.heap.size+1) (by omega)).trans hRz
     have sC:=hd1.size
     have HO:Hid (∀ W:World,W.heap.size=wC.heap.size→Kp (fun b=>b≠w.heap.size+1) wC W→shEntryO.lies (Ow w.heap.size W.heap.size) W cs9 d):=fun W hs hk=>shEntryO.mono (Ow.mono (by omega) (by omega)) (shEntryO.keep (S:=Ow w1.heap.size wC.heap.size) (fun b hb=>hk b (by have:=hb.1;show b≠_;omega)) hl9)
     obtain ⟨v0,v1,rfl,_,q0,_,q1⟩:=id hl9
     obtain ⟨f0,m0,ef0⟩:=q0.slice
     subst ef0
     obtain ⟨f1,m1,ef1⟩:=q1.slice
     subst ef1
     have fr:=vblk_frozen hRC
     have r0:=vblk_cell hRC 0
     have r1:=vblk_cell hRC 1
     have r2:=vblk_cell hRC 2
     have r3:=vblk_cell hRC 3
     have r4:=vblk_cell hRC 4
     have r5:=vblk_cell hRC 5
     simp only [List.getElem?_toArray,List.getElem?_cons_succ,List.getElem?_cons_zero] at r0 r1 r2 r3 r4 r5
     clear hl9 q0 q1 HC HS KEEP hRC x0 x1 x2 x3 x4 x5 hHeld
     go_wp2_with fail
     refine bodyPost_ret (v:=.tuple #[.agg #[.string d.name,.int .i64 d.vA,.int .i64 d.vB,.int .i64 d.vC,.slice f0 d.vP.length m0,.slice f1 d.needs.length m1],.bool true]) (by simp [results,Tryz.results17,go_sem,r0,r1,r2,r3,r4,r5]) rfl ?_
     rw [HY2.out,HAT.out]
     refine ⟨_,rfl,HO.out _ (by simp [World.setCell]) ?_,?_⟩
     ·(repeat (refine Kp.trans ?_ (Kp.set (by simp))))
      exact fun b hb=>rfl
     ·(repeat (refine Below.setCell ?_ (by simp) _))
      exact hwz.trans (kC.mono (by omega))
   ·rw [decide_eq_false hnn,Bool.false_and] at HN
    rw [decide_eq_false hnn] at hnm
    have HN2:=hidden (HN.out rfl)
    clear HY HN hnn
    go_wp2_with fail
    refine wp_region_held_drew (S:=(fun w'=>w'.cell? ⟨b0,off+k*6,none⟩=some (.string d.name)∧w'.cell? ⟨b0,off+k*6+1,none⟩=some (.int .i64 d.vA)∧w'.cell? ⟨b0,off+k*6+2,none⟩=some (.int .i64 d.vB)∧w'.cell? ⟨b0,off+k*6+3,none⟩=some (.int .i64 d.vC)∧w'.cell? ⟨b0,off+k*6+4,none⟩=some (.slice a0 d.vP.length cap0)∧w'.cell? ⟨b0,off+k*6+5,none⟩=some (.slice a1 d.needs.length cap1)∧w'.cell? ⟨w.heap.size,0,none⟩=some (.int .i64 a)∧w'.cell? ⟨w.heap.size,1,none⟩=some (.int .i64 b)∧w'.cell? ⟨w.heap.size,2,none⟩=some (.int .i64 c)∧w'.cell? ⟨w.heap.size,3,none⟩=some (.slice q ps.length cap))) (by kernel_rfl) ?SR30 (fun hHeld=>?_)
    case SR30=>(first|(with_reducible exact KEEP.out _ hd1)|(with_reducible exact KEEP.out _ hd0))
    refine tk 0 hHeld (h:=?_)
    refine tk 1 hHeld (h:=?_)
    refine tk 2 hHeld (h:=?_)
    refine tk 3 hHeld (h:=?_)
    refine tk 4 hHeld (h:=?_)
    refine tk 5 hHeld (h:=?_)
    refine tk 6 hHeld (h:=?_)
    refine tk 7 hHeld (h:=?_)
    refine tk 8 hHeld (v:=undef) (hy:=Or.inr ⟨by rfl,rfl⟩) (h:=?_)
    refine tk 9 hHeld (v:=undef) (hy:=Or.inr ⟨by rfl,rfl⟩) (h:=?_)
    refine tk 10 hHeld (v:=undef) (hy:=Or.inr ⟨by rfl,rfl⟩) (h:=?_)
    refine tk 11 hHeld (v:=undef) (hy:=Or.inr ⟨by rfl,rfl⟩) (h:=?_)
    refine tk 12 hHeld (v:=undef) (hy:=Or.inr ⟨by rfl,rfl⟩) (h:=?_)
    refine tk 13 hHeld (v:=undef) (hy:=Or.inr ⟨by rfl,rfl⟩) (h:=?_)
    refine tk 14 hHeld (v:=undef) (hy:=Or.inr ⟨by rfl,rfl⟩) (h:=?_)
    refine tk 15 hHeld (h:=?_)
    refine wpAnyH_done (by kernel_rfl) ?_ _
    go_wp2_with fail
    go_roundw
    case rel=>exact ⟨k+1,by omega,by go_num,HN2.out,hbz.trans (hd0.mono hbz.size)⟩
    case measure=>simp [intOf];omega
  ·have he:k=xs.length:=by omega
   subst he
   have HE:=hidden (firstK_none (fun j hj=>hno.out j hj hj))
   have fr:=vblk_frozen hRr
   have r0:=vblk_cell hRr 0
   have r1:=vblk_cell hRr 1
   have r2:=vblk_cell hRr 2
   have r3:=vblk_cell hRr 3
   have r4:=vblk_cell hRr 4
   have r5:=vblk_cell hRr 5
   simp only [List.getElem?_toArray,List.getElem?_cons_succ,List.getElem?_cons_zero] at r0 r1 r2 r3 r4 r5
   clear ha hno HSK hRr hAr
   go_wp2_with fail
   refine bodyPost_ret (v:=.tuple #[.agg #[.string ⟨#[]⟩,.int .i64 0,.int .i64 0,.int .i64 0,.slice none 0 0,.slice none 0 0],.bool false]) (by simp [results,Tryz.results17,go_sem,r0,r1,r2,r3,r4,r5]) rfl ?_
   rw [HE.out]
   refine ⟨[.string ⟨#[]⟩,.int .i64 0,.int .i64 0,.int .i64 0,.slice none 0 0,.slice none 0 0],rfl,zero_liesO _ _,?_⟩
   (repeat (refine Below.setCell ?_ (by simp) _))
   exact hbr
def metB (ns:List NeedD) (l:List PickD):Bool:=ns.all (met1 l)
def keyP (d:PickD):KeyE:=⟨d.name,d.vA,d.vB,d.vC,⟨(preL d.vP).toArray⟩⟩
def pickOkB (r:List EntryD) (l:List PickD) (d:PickD):Bool:=(firstK r (keyP d)).isSome&&metB (atD r (firstK r (keyP d))).needs l
def namesB (l:List PickD):Bool:=decide ((l.map (·.name)).Nodup)
def solB (r:List EntryD) (ns:List NeedD) (l:List PickD):Bool:=namesB l&&(metB ns l&&l.all (pickOkB r l))
theorem metB_true {ns:List NeedD} {l:List PickD} (h: ∀ j (hj:j<ns.length),met1 l ns[j]=true):metB ns l=true:=by
 unfold metB
 rw [List.all_eq_true]
 intro x hx
 obtain ⟨j,hj,rfl⟩:=List.mem_iff_getElem.1 hx
 exact h j hj
theorem metB_false {ns:List NeedD} {l:List PickD} {j:Nat} (hj:j<ns.length) (h:met1 l ns[j]=false):metB ns l=false:=by
 unfold metB
 rw [List.all_eq_false]
 exact ⟨ns[j],List.getElem_mem hj,by simp [h]⟩
theorem namesB_true {l:List PickD} (h: ∀ i (hi:i<l.length) k (hk:k<i),¬l[k].name=l[i].name):namesB l=true:=by
 unfold namesB
 rw [decide_eq_true_eq,List.Nodup,List.pairwise_iff_getElem]
 intro i j hi hj hij
 simp at hi hj
 simp
 exact h j hj i hij
theorem namesB_false {l:List PickD} {i k:Nat} (hi:i<l.length) (hk:k<i) (h:l[k].name=l[i].name):namesB l=false:=by
 unfold namesB
 rw [decide_eq_false_iff_not]
 intro hn
 rw [List.Nodup,List.pairwise_iff_getElem] at hn
 have:=hn k i (by simp;omega) (by simpa using hi) hk
 simp at this
 exact this h
theorem solB_true {r:List EntryD} {ns:List NeedD} {l:List PickD} (hm:metB ns l=true) (h: ∀ i (hi:i<l.length),pickOkB r l l[i]=true∧∀ k (hk:k<i),¬l[k].name=l[i].name):solB r ns l=true:=by
 unfold solB
 rw [namesB_true (fun i hi=>(h i hi).2),hm,Bool.true_and,Bool.true_and,List.all_eq_true]
 intro x hx
 obtain ⟨j,hj,rfl⟩:=List.mem_iff_getElem.1 hx
 exact (h j hj).1
theorem solB_met {r:List EntryD} {ns:List NeedD} {l:List PickD} (hm:metB ns l=false):solB r ns l=false:=by
 unfold solB;rw [hm];simp
theorem solB_pick {r:List EntryD} {ns:List NeedD} {l:List PickD} {i:Nat} (hi:i<l.length) (h:pickOkB r l l[i]=false):solB r ns l=false:=by
 unfold solB
 have:l.all (pickOkB r l)=false:=by
  rw [List.all_eq_false]
  exact ⟨l[i],List.getElem_mem hi,by simp [h]⟩
 rw [this];simp
theorem solB_name {r:List EntryD} {ns:List NeedD} {l:List PickD} (h:namesB l=false):solB r ns l=false:=by
 unfold solB;rw [h];simp
def lastP (l:List PickD) (p:ByteArray):Nat→Option Nat
 |0=>none
 |k+1=>if (l[k]?.map fun d=>decide (d.name=p))=some true then some k else lastP l p k
def cntN (l:List PickD):Nat→Nat
 |0=>0
 |k+1=>match l[k]? with
  |none=>cntN l k
  |some d=>if (lastP l d.name k).isSome=true then cntN l k else cntN l k+1
theorem lastP_step (l:List PickD) (k:Nat) (h:k<l.length) (p:ByteArray):lastP l p (k+1)=if p=l[k].name then some k else lastP l p k:=by
 show (if (l[k]?.map fun d=>decide (d.name=p))=some true then some k else lastP l p k)=_
 rw [List.getElem?_eq_getElem h]
 by_cases e:p=l[k].name
 ·rw [if_pos e];simp [e]
 ·rw [if_neg e,if_neg (fun h=>e (by simpa using h:l[k].name=p).symm)]
theorem cntN_step (l:List PickD) (k:Nat) (h:k<l.length):cntN l (k+1)=if (lastP l l[k].name k).isSome=true then cntN l k else cntN l k+1:=by
 show (match l[k]? with|none=>cntN l k|some d=>if (lastP l d.name k).isSome=true then cntN l k else cntN l k+1)=_
 rw [List.getElem?_eq_getElem h]
theorem lastP_some {l:List PickD} {p:ByteArray}: ∀ {k i:Nat},k≤l.length→lastP l p k=some i→∃ hi:i<l.length,i<k∧l[i].name=p:=by
 intro k
 induction k with
 |zero=>intro i _ h;cases h
 |succ k ih=>
  intro i hk h
  rw [lastP_step l k (by omega)] at h
  split at h
  ·rename_i e;cases h;exact ⟨by omega,by omega,e.symm⟩
  ·obtain ⟨h1,h2,h3⟩:=ih (by omega) h;exact ⟨h1,by omega,h3⟩
theorem lastP_none {l:List PickD} {p:ByteArray}: ∀ {k:Nat},k≤l.length→lastP l p k=none→∀ i (hi:i<l.length),i<k→¬l[i].name=p:=by
 intro k
 induction k with
 |zero=>intro _ _ i hi h;omega
 |succ k ih=>
  intro hk h i hi hik
  rw [lastP_step l k (by omega)] at h
  split at h
  ·cases h
  ·rename_i e
   by_cases hh:i=k
   ·subst hh;exact fun he=>e he.symm
   ·exact ih (by omega) h i hi (by omega)
theorem cntN_le (l:List PickD): ∀ k,k≤l.length→cntN l k≤k:=by
 intro k
 induction k with
 |zero=>intro _;exact Nat.le_refl _
 |succ k ih=>
  intro hk
  have:=ih (by omega)
  rw [cntN_step l k (by omega)]
  split<;>omega
theorem cntN_full (l:List PickD): ∀ k,k≤l.length→cntN l k=k→∀ i (hi:i<l.length),i<k→∀ j (hj:j<i),¬l[j].name=l[i].name:=by
 intro k
 induction k with
 |zero=>intro _ _ i hi h;omega
 |succ k ih=>
  intro hk hc i hi hik j hj
  have hle:=cntN_le l k (by omega)
  rw [cntN_step l k (by omega)] at hc
  split at hc
  ·omega
  ·rename_i hn
   by_cases e:i=k
   ·subst e
    cases hl:lastP l l[i].name i with
    |some x=>rw [hl] at hn;simp at hn
    |none=>exact lastP_none (by omega) hl j (by omega) hj
   ·exact ih (by omega) (by omega) i hi (by omega) j hj
theorem cntN_less (l:List PickD): ∀ k,k≤l.length→cntN l k<k→∃ i,∃ hi:i<l.length,∃ j,∃ hj:j<i,l[j].name=l[i].name:=by
 intro k
 induction k with
 |zero=>intro _ h;omega
 |succ k ih=>
  intro hk hc
  rw [cntN_step l k (by omega)] at hc
  split at hc
  ·rename_i hs
   obtain ⟨x,hx⟩:=Option.isSome_iff_exists.1 hs
   obtain ⟨h1,h2,h3⟩:=lastP_some (by omega) hx
   exact ⟨k,by omega,x,h2,h3⟩
  ·exact ih (by omega) (by omega)
theorem cntN_names (l:List PickD):(cntN l l.length<l.length↔namesB l=false):=by
 constructor
 ·intro h
  obtain ⟨i,hi,j,hj,e⟩:=cntN_less l l.length (Nat.le_refl _) h
  exact namesB_false hi hj e
 ·intro h
  have hle:=cntN_le l l.length (Nat.le_refl _)
  rcases Nat.lt_or_ge (cntN l l.length) l.length with h1|h1
  ·exact h1
  ·have:=namesB_true (fun i hi j hj=>cntN_full l l.length (Nat.le_refl _) (by omega) i hi hi j hj)
   rw [this] at h;cases h
theorem lastP_first {l:List PickD} (hn:namesB l=true) (p:ByteArray):lastP l p l.length=firstP l p:=by
  have hd: ∀ i (hi:i<l.length) k (hk:k<i),¬l[k].name=l[i].name:=fun i hi k hk e=>by
    rw [namesB_false hi hk e] at hn;cases hn
  cases h:lastP l p l.length with
  |none=>exact (firstP_none (fun j hj=>lastP_none (Nat.le_refl _) h j hj hj)).symm
  |some i=>
    obtain ⟨h1,_,h3⟩:=lastP_some (Nat.le_refl _) h
    exact (firstP_at h1 h3 (fun j hj hji e=>hd i h1 j hji (e.trans h3.symm))).symm
theorem pick_wt {l:List PickD} (hw:wtRow wtPick l≤1048576) (o:Option Nat):bulkS (atP l o).vP≤1048576:=by
 unfold atP
 cases o with
 |none=>show bulkS []≤_;decide
 |some i=>
  cases hi:l[i]? with
  |none=>rw [Option.bind_some,hi];show bulkS []≤_;decide
  |some d=>
   simp only [Option.bind_some,hi,Option.getD_some]
   have h1:d.name.size+bulkS d.vP≤wtRow wtPick l:=wt_wtRow wtPick (List.mem_of_getElem? hi)
   omega
end Go.Proofs.YtlfmefojcmpfeaaGreatDoor
namespace Go.Proofs.YtlfmefojcmpfeaaGreatDoor
open Go.RowKit Go.Maps
section
variable (w:World) {ops:Array Oper} {rest:List Oper} {o:Oper} {a:Act} {Q:Exit→Act→World→Prop}
theorem wpList_len_V (hg:o.guard=none) (mo:Operand) (hop:o.op=Op.call {callee:=Callee.builtin Builtin.len,args:=#[mo],argTypes:=#[131]}) (b n s:Nat) (m:ByteArray→Option Value) (hm:a.eval mo=.map (some b)) (hown:MapV w b n s m)
  (hK:wpList Tryz.prog ops Q rest (a.put o.dst (.int .i64 (s:Int))) w):wpList Tryz.prog ops Q (o::rest) a w:=by
 obtain ⟨D,h,hs,h2⟩:=hown
 subst hs
 exact wpList_len_own w hg mo 131 hop 9 30 Tryz.underlying131 selfElem b n D hm h hK
end
end Go.Proofs.YtlfmefojcmpfeaaGreatDoor
namespace Go.Proofs.YtlfmefojcmpfeaaGreatDoor
open Go.RowKit
theorem firstP_lt {xs:List PickD} {n:ByteArray} {k:Nat} (h:firstP xs n=some k): ∃ hk:k<xs.length,atP xs (some k)=xs[k]:=by
 unfold firstP at h
 obtain ⟨h1,_⟩:=List.findIdx?_eq_some_iff_getElem.1 h
 exact ⟨h1,by simp [atP,h1]⟩
theorem allMet_c (S S2:Nat→Prop) (v:Value) (ns:List NeedD) (mb n s:Nat) (l:List PickD) (vals:Nat→Value) (w:World) (hv:RowIn shNeed S w v ns) (hB: ∀ b,S b→b<w.heap.size) (hB2: ∀ b,S2 b→b<w.heap.size) (hwN:wtRow wtNeed ns≤1048576)
  (hm:MapV w mb n s (fun p=>(firstP l p).map vals)) (hvals:PickVals S2 w l vals) (hwl:wtRow wtPick l≤1048576) (hT:Tabs w):
  Calls Tryz.prog 109 #[v,.map (some mb)] w fun e w'=>e=.returned (.bool (metB ns l))∧Below w.heap.size w w':=by
 have hwe: ∀ d∈ns,d.n.size≤1048576∧d.r.size≤1048576:=fun d hd=>by
  have h1:d.n.size+d.r.size≤wtRow wtNeed ns:=wt_wtRow wtNeed hd
  omega
 obtain ⟨av,cv,rfl,hl,hc,ha⟩:=hv
 unfold maxLen at hl
 obtain ⟨R,hR⟩: ∃ R,R=metB ns l:=⟨_,rfl⟩
 rw [←hR]
 have HR:=hidden hR
 have HM:=hidden hm
 have HT:=hidden hT
 have HVS:=hidden hvals
 clear hR hm hT hvals
 go_enter Tryz.func109,Tryz.ntmps109
 go_wp2_with fail
 go_loopw [11] (fun vi wr=>∃ k:Nat,k≤ns.length∧vi=.int .i64 (k:Int)∧Hid (∀ j (hj:j<ns.length),j<k→met1 l ns[j]=true)∧Below w.heap.size w wr) (fun vi _=>ns.length-(intOf vi).toNat)
 case atStart=>exact ⟨0,Nat.zero_le _,rfl,(fun j hj h=>by omega),Below.refl _ _⟩
 case round=>
  obtain ⟨k,hk,rfl,hno,hbr⟩:=hrel
  by_cases hlt':k<ns.length
  ·rcases ha with rfl|⟨b,off,rfl,hlt,ha⟩
   ·simp at hlt'
   obtain ⟨cs,hL,hcell⟩:=ha k hlt'
   have hcell2:=hcell.keep (.of hbr hB) hlt
   obtain ⟨hs1,hs2⟩:=hwe ns[k] (List.getElem_mem hlt')
   have HF:Hid (met1 l ns[k]=false→R=false):=fun h=>HR.out.trans (metB_false hlt' h)
   have HN:Hid (met1 l ns[k]=true→∀ j (hj:j<ns.length),j<k+1→met1 l ns[j]=true):=fun h j hj hjk=>by
    by_cases e:j=k
    ·subst e;exact h
    ·exact hno.out j hj (by omega)
   obtain ⟨d,hd⟩: ∃ d,d=ns[k]:=⟨_,rfl⟩
   rw [←hd] at hL HF HN hs1 hs2
   obtain ⟨rfl,_,_⟩:=hL
   have hmx:d.n.size≤maxLen:=by unfold maxLen;omega
   have e0:wr.cell? ⟨b,off+k*2,none⟩=some (.string d.n):=hcell2 0 (by simp)
   have e1:wr.cell? ⟨b,off+k*2+1,none⟩=some (.string d.r):=hcell2 1 (by simp)
   have hki:(k:Int)<(ns.length:Int):=by omega
   have hbox: ∀ o,Below wr.heap.size wr (wr.alloc o):=fun o=>(Below.refl _ _).alloc (Nat.le_refl _) _
   have HMR:Hid (∀ w1,Below wr.heap.size wr w1→MapV w1 mb n s (fun p=>(firstP l p).map vals)):=fun w1 h=>HM.out.below (hbr.trans (h.mono hbr.size))
   clear ha hd hcell hcell2 hno
   cases hf:firstP l d.n with
   |none=>
    have hmet:met1 l d=false:=by unfold met1;rw [hf];rfl
    have HE:=hidden (HF.out hmet)
    have HQ:Hid (Value.tuple #[((firstP l d.n).map vals).getD zeroVV,.bool ((firstP l d.n).map vals).isSome]=.tuple #[.agg #[.int .i64 0,.int .i64 0,.int .i64 0,.slice none 0 0],.bool false]):=by show _=_;rw [hf];rfl
    clear HF HN hmet hf
    go_wp2_with (at_lookup;refine wpList_lookup_V _ rfl _ _ rfl mb n s _ rfl (HMR.out _ (hbox _)) d.n rfl hmx _ HQ.out ?_)
    go_ret
    refine ⟨by rw [HE.out];rfl,?_⟩
    exact (hbr.alloc hbr.size _).alloc (by have:=hbr.size;simp;omega) _
   |some i=>
    obtain ⟨hi,hat⟩:=firstP_lt hf
    obtain ⟨q,c,hq,hrd⟩:=HVS.out i hi
    have hbk:=pick_wt hwl (some i)
    rw [hat] at hbk
    have hmet:met1 l d=mayB d.r l[i].vA l[i].vB l[i].vC l[i].vP:=by unfold met1;rw [hf,hat];rfl
    have HQ:Hid (Value.tuple #[((firstP l d.n).map vals).getD zeroVV,.bool ((firstP l d.n).map vals).isSome]=.tuple #[.agg #[.int .i64 l[i].vA,.int .i64 l[i].vB,.int .i64 l[i].vC,.slice q l[i].vP.length c],.bool true]):=by show _=_;rw [hf,Option.map_some,hq];rfl
    obtain ⟨p,hp⟩: ∃ p,p=l[i]:=⟨_,rfl⟩
    rw [←hp] at hrd hbk hmet HQ
    obtain ⟨B,hBB⟩: ∃ B,B=mayB d.r p.vA p.vB p.vC p.vP:=⟨_,rfl⟩
    have HMT:Hid (∀ w1,Below wr.heap.size wr w1→Calls Tryz.prog 23 #[.agg #[.string d.n,.string d.r],.agg #[.int .i64 p.vA,.int .i64 p.vB,.int .i64 p.vC,.slice q p.vP.length c]] w1 fun e w'=>e=.returned (.bool B)∧Below w1.heap.size w1 w'):=fun w1 h=>by
     have hb:=hbr.trans (h.mono hbr.size)
     rw [hBB]
     exact implMay_c d.n d.r _ _ _ _ p.vP w1 hs2 ((hrd.keep (.of hb hB2)).reads (fun b hb'=>Nat.lt_of_lt_of_le (hB2 b hb') hb.size)) hbk (HT.out.below hb)
    rw [←hBB] at hmet
    rw [hmet] at HF HN
    have hb3: ∀ o o',Below wr.heap.size wr ((wr.alloc o).alloc o'):=fun o o'=>((Below.refl _ _).alloc (Nat.le_refl _) _).alloc (by simp) _
    clear hf hi hat hq hrd hbk hmet hp hBB HVS
    go_wp2_with (at_lookup;refine wpList_lookup_V _ rfl _ _ rfl mb n s _ rfl (HMR.out _ (hbox _)) d.n rfl hmx _ HQ.out ?_)
    go_at_call 23
    refine (HMT.out _ (hb3 _ _)).mono ?_
    rintro e w1 ⟨rfl,b1⟩
    have k0:=hbr.trans ((hb3 (.cells #[.string d.n,.string d.r] 39 (0,0)) (.cells #[.int .i64 p.vA,.int .i64 p.vB,.int .i64 p.vC,.slice q p.vP.length c] 30 (0,0))).mono hbr.size)
    have k1:=k0.trans (b1.mono k0.size)
    cases B with
    |false=>
     have HE:=hidden (HF.out rfl)
     clear HF HN
     go_wp2_with fail
     go_ret
     exact ⟨by rw [HE.out];rfl,k1⟩
    |true=>
     have HN2:=hidden (HN.out rfl)
     clear HF HN
     go_wp2_with fail
     go_roundw
     case rel=>exact ⟨k+1,by omega,by go_num,HN2.out,k1⟩
     case measure=>simp [intOf];omega
  ·have he:k=ns.length:=by omega
   subst he
   have HE:Hid (R=true):=HR.out.trans (metB_true (fun j hj=>hno.out j hj hj))
   clear ha hno HR
   go_wp2_with fail
   go_ret
   exact ⟨by rw [HE.out];rfl,hbr⟩
end Go.Proofs.YtlfmefojcmpfeaaGreatDoor
