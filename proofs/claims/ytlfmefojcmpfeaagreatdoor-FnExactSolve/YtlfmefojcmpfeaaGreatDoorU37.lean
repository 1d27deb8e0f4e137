/-
  Contracts for the walks and pure facts, several texts in one: each theorem says what it proves, and under which conditions.
-/
import Derived.Test.YtlfmefojcmpfeaaGreatDoorCards
import Derived.Test.YtlfmefojcmpfeaaGreatDoorTie
import Derived.OpenVars
import Derived.Deep.DeepHandedRow
import Derived.Deep.DeepLaidRun
import Derived.Below
import Derived.JoinedOf
import Derived.JoinedCond
import Derived.SevenTiedAt
import Derived.Test.YtlfmefojcmpfeaaGreatDoorUT
import Derived.Test.YtlfmefojcmpfeaaGreatDoorU36
set_option linter.unusedSimpArgs false
set_option linter.unusedVariables false
set_option maxHeartbeats 16000000
set_option maxRecDepth 100000
namespace Go.Proofs.YtlfmefojcmpfeaaGreatDoor
open Go.RowKit
theorem solve_walk (a0 a1:Value) (z0:List EntryD) (z1:List NeedD) (fu:Int) (w:World) (r0:RowIn shEntry (· <w.heap.size) w a0 z0) (r1:RowIn shNeed (· <w.heap.size) w a1 z1) (hT:Tabs w):
    Calls Tryz.prog 9 #[a0,a1,.int .i64 fu] w fun e w'=>e=.returned (.bool true)∧Below w.heap.size w w':=by
  have hin0: ∀ w1,Below w.heap.size w w1→RowIn shEntry (· <w1.heap.size) w1 a0 z0:=fun w1 h=>r0.below h
  have HZ0:Hid (∀ p,0≤p→p≤1048576→∀ w1,Below w.heap.size w w1→Calls Tryz.prog 55 #[a0,.int .i64 p] w1 fun e w'=>e=.returned (.int .i64 (leftW (wtRow wtEntry z0) p))∧Below w1.heap.size w1 w'):=fun p h0 h1 w1 h=>szEntryS_c _ _ z0 _ h0 h1 w1 (hin0 w1 h) (fun b h=>h)
  have hin1: ∀ w1,Below w.heap.size w w1→RowIn shNeed (· <w1.heap.size) w1 a1 z1:=fun w1 h=>r1.below h
  have HZ1:Hid (∀ p,0≤p→p≤1048576→∀ w1,Below w.heap.size w w1→Calls Tryz.prog 56 #[a1,.int .i64 p] w1 fun e w'=>e=.returned (.int .i64 (leftW (wtRow wtNeed z1) p))∧Below w1.heap.size w1 w'):=fun p h0 h1 w1 h=>szNeedS_c _ _ z1 _ h0 h1 w1 (hin1 w1 h) (fun b h=>h)
  obtain ⟨q0,cap0,hq0⟩:=r0.slice
  subst hq0
  obtain ⟨q1,cap1,hq1⟩:=r1.slice
  subst hq1
  obtain ⟨p0,hp0e⟩: ∃ p:Int,p=1048576:=⟨_,rfl⟩
  have HP0:Hid (p0=1048576):=hp0e
  have hp0a:0≤p0:=by omega
  have hp0b:p0≤1048576:=by omega
  clear hp0e
  replace HZ0:=hidden (HZ0.out p0 hp0a hp0b)
  by_cases hbig0: ¬((wtRow wtEntry z0:Nat):Int)≤p0
  · have e1:leftW (wtRow wtEntry z0) p0= -1:=leftW_bad hbig0
    rw [e1] at HZ0
    simp only [HP0.out] at HZ0
    clear e1 hbig0 hT hin0 r0 hin1 r1
    go_enter Tryz.func9,Tryz.ntmps9
    go_wp2_with fail
    go_at_call 55
    refine (HZ0.out _ (Below.refl w.heap.size w)).mono ?_
    rintro e w1 ⟨rfl,b1⟩
    have k1:=(Below.refl w.heap.size w).trans (b1.mono (Below.refl w.heap.size w).size)
    go_wp2_with fail
    go_ret
    exact ⟨rfl,k1⟩
  have hle0:=Decidable.not_not.1 hbig0
  obtain ⟨hn0,hm0,hw0⟩:=leftW_pos hle0 hp0b
  clear hbig0 hle0
  obtain ⟨p1,hp1⟩: ∃ p,p=leftW (wtRow wtEntry z0) p0:=⟨_,rfl⟩
  rw [←hp1] at HZ0 hn0 hm0
  clear hp1
  have hp1a:=hn0
  have hp1b:=hm0
  replace HZ1:=hidden (HZ1.out p1 hp1a hp1b)
  by_cases hbig1: ¬((wtRow wtNeed z1:Nat):Int)≤p1
  · have e1:leftW (wtRow wtNeed z1) p1= -1:=leftW_bad hbig1
    rw [e1] at HZ1
    simp only [HP0.out] at HZ0
    clear e1 hbig1 hT hin0 r0 hin1 r1
    go_enter Tryz.func9,Tryz.ntmps9
    go_wp2_with fail
    go_at_call 55
    refine (HZ0.out _ (Below.refl w.heap.size w)).mono ?_
    rintro e w1 ⟨rfl,b1⟩
    have k1:=(Below.refl w.heap.size w).trans (b1.mono (Below.refl w.heap.size w).size)
    go_wp2_with fail
    go_at_call 56
    refine (HZ1.out _ (k1)).mono ?_
    rintro e w2 ⟨rfl,b2⟩
    have k2:=(k1).trans (b2.mono (k1).size)
    go_wp2_with fail
    go_ret
    exact ⟨rfl,k2⟩
  have hle1:=Decidable.not_not.1 hbig1
  obtain ⟨hn1,hm1,hw1⟩:=leftW_pos hle1 hp1b
  clear hbig1 hle1
  obtain ⟨p2,hp2⟩: ∃ p,p=leftW (wtRow wtNeed z1) p1:=⟨_,rfl⟩
  rw [←hp2] at HZ1 hn1 hm1
  clear hp2
  simp only [HP0.out] at HZ0
  have HT0:Hid (∀ w1,Below w.heap.size w w1→Calls Tryz.prog 57 #[.slice q0 z0.length cap0] w1 fun e w'=>∃ g,e=.returned (.slice (some ⟨g,0,none⟩) z0.length z0.length)∧RowOwn shEntryO 35 (Ow w1.heap.size w'.heap.size) w' (.slice (some ⟨g,0,none⟩) z0.length z0.length) z0∧Below w1.heap.size w1 w'):=fun w1 h=>toEntryS_c _ _ z0 w1 (hin0 w1 h) (fun b h=>h) hw0
  have HE0:Hid (∀ W g g' l1 h1 l2 h2,RowOwn shEntryO 35 (Ow l1 h1) W (.slice (some ⟨g,0,none⟩) z0.length z0.length) z0→h1≤W.heap.size→RowOwn shEntryO 35 (Ow l2 h2) W (.slice (some ⟨g',0,none⟩) z0.length z0.length) z0→h2≤W.heap.size→Calls Tryz.prog 60 #[.slice (some ⟨g,0,none⟩) z0.length z0.length,.slice (some ⟨g',0,none⟩) z0.length z0.length] W fun e w'=>e=.returned (.bool true)∧Below W.heap.size W w'):=fun W g g' l1 h1 l2 h2 a c b d=>eqEntryS_c (Ow l1 h1) (Ow l2 h2) _ _ z0 W (RowIn.as (sh:=shEntryO) (sh':=shEntry) rfl (fun S w cs x h=>liesEntry_plain h) a.plain) (RowIn.as (sh:=shEntryO) (sh':=shEntry) rfl (fun S w cs x h=>liesEntry_plain h) b.plain) (fun b hb=>Nat.lt_of_lt_of_le hb.2 c) (fun b hb=>Nat.lt_of_lt_of_le hb.2 d) hw0
  have HT1:Hid (∀ w1,Below w.heap.size w w1→Calls Tryz.prog 58 #[.slice q1 z1.length cap1] w1 fun e w'=>∃ g,e=.returned (.slice (some ⟨g,0,none⟩) z1.length z1.length)∧RowOwn shNeed 39 (Ow w1.heap.size w'.heap.size) w' (.slice (some ⟨g,0,none⟩) z1.length z1.length) z1∧Below w1.heap.size w1 w'):=fun w1 h=>toNeedS_c _ _ z1 w1 (hin1 w1 h) (fun b h=>h) hw1
  have HE1:Hid (∀ W g g' l1 h1 l2 h2,RowOwn shNeed 39 (Ow l1 h1) W (.slice (some ⟨g,0,none⟩) z1.length z1.length) z1→h1≤W.heap.size→RowOwn shNeed 39 (Ow l2 h2) W (.slice (some ⟨g',0,none⟩) z1.length z1.length) z1→h2≤W.heap.size→Calls Tryz.prog 61 #[.slice (some ⟨g,0,none⟩) z1.length z1.length,.slice (some ⟨g',0,none⟩) z1.length z1.length] W fun e w'=>e=.returned (.bool true)∧Below W.heap.size W w'):=fun W g g' l1 h1 l2 h2 a c b d=>eqNeedS_c (Ow l1 h1) (Ow l2 h2) _ _ z1 W a.plain b.plain (fun b hb=>Nat.lt_of_lt_of_le hb.2 c) (fun b hb=>Nat.lt_of_lt_of_le hb.2 d) hw1
  obtain ⟨hs1,hs2⟩:=sol_small z0 z1 fu
  have HSP0:=fun (W:World) (rv nv:Value) (Sr Sn:Nat→Prop)=>specSolve_c Sr Sn rv nv z0 z1 fu W
  have HIM0:=fun (W:World) (rv nv:Value) (Sr Sn:Nat→Prop)=>implSolve_c Sr Sn rv nv z0 z1 fu W
  obtain ⟨R,hR⟩: ∃ R,R=(solD z0 z1 fu).1:=⟨_,rfl⟩
  obtain ⟨C,hC⟩: ∃ c,c=(solD z0 z1 fu).2:=⟨_,rfl⟩
  simp only [←hR, ←hC] at HSP0 HIM0 hs1 hs2
  obtain ⟨hw3,hw4⟩:=pickL_small hs1 hs2
  have hsz: ∀ p∈R,p.name.size≤1048576∧bulkS p.vP≤1048576:=fun p hp=>by have h9:=hs1 p hp;unfold wtPick at h9;omega
  obtain ⟨M,hM⟩: ∃ M,M=1+(R.map fun d=>4+d.vP.length).sum:=⟨_,rfl⟩
  have hcnt: ∀ ps:List LC,ps.map LC.d=R→1+cntLK ps=M:=fun ps h=>by rw [hM,cntLK_map,h]
  have HSP:Hid (∀ W g0 g1 l0 h0 l1 h1,RowOwn shEntryO 35 (Ow l0 h0) W (.slice (some ⟨g0,0,none⟩) z0.length z0.length) z0→h0≤W.heap.size→RowOwn shNeed 39 (Ow l1 h1) W (.slice (some ⟨g1,0,none⟩) z1.length z1.length) z1→h1≤W.heap.size→Calls Tryz.prog 36 #[.slice (some ⟨g0,0,none⟩) z0.length z0.length,.slice (some ⟨g1,0,none⟩) z1.length z1.length,.int .i64 fu] W fun e w'=>∃ v,e=.returned (.tuple #[v,.int .i64 C])∧(∃ q c,v=.slice q R.length c)∧RowOwn shPickO 59 (Ow 0 w'.heap.size) w' (v) R∧Below W.heap.size W w'):=fun W g0 g1 l0 h0 l1 h1 x0 y0 x1 y1=>
    (HSP0 W _ _ (Ow l0 h0) (Ow l1 h1) x0.plain x1.plain (fun b hb=>Nat.lt_of_lt_of_le hb.2 y0) (fun b hb=>Nat.lt_of_lt_of_le hb.2 y1) hw0 hw1).mono fun e w' ⟨v,ps,h1,h2,h3,h4⟩=>by
      have hpl:ps.length=R.length:=by rw [←h3];simp
      refine ⟨v,h1,by rw [←hpl];exact owns_sliceP h2.1,?_,h4⟩
      have h8:=RowP.own h2 (fun p hp=>hsz _ (by rw [←h3];exact List.mem_map_of_mem hp)) (by unfold maxLen;omega)
      rw [h3] at h8
      exact h8
  have HIM:Hid (∀ W g0 g1 l0 h0 l1 h1,Below w.heap.size w W→RowOwn shEntryO 35 (Ow l0 h0) W (.slice (some ⟨g0,0,none⟩) z0.length z0.length) z0→h0≤W.heap.size→RowOwn shNeed 39 (Ow l1 h1) W (.slice (some ⟨g1,0,none⟩) z1.length z1.length) z1→h1≤W.heap.size→Calls Tryz.prog 28 #[.slice (some ⟨g0,0,none⟩) z0.length z0.length,.slice (some ⟨g1,0,none⟩) z1.length z1.length,.int .i64 fu] W fun e w'=>∃ v ps,ps.map LC.d=R∧e=.returned (.tuple #[v,.int .i64 C])∧(∃ q c,v=.slice q R.length c)∧RowL W.heap.size w' v ps∧SepL ps∧RowOwn shPickO 59 (Ow W.heap.size w'.heap.size) w' (v) R∧Below W.heap.size W w'):=fun W g0 g1 l0 h0 l1 h1 hb x0 y0 x1 y1=>
    (HIM0 W _ _ (Ow l0 h0) (Ow l1 h1) (RowIn.as (sh:=shEntryO) (sh':=shEntry) rfl (fun S w cs x h=>liesEntry_plain h) x0.plain) x1.plain (fun b hb=>Nat.lt_of_lt_of_le hb.2 y0) (fun b hb=>Nat.lt_of_lt_of_le hb.2 y1) hw0 hw1 (hT.below hb)).mono fun e w' ⟨v,ps,h1,h2,h3,h4,h5⟩=>by
      have hpl:ps.length=R.length:=by rw [←h4];simp
      refine ⟨v,ps,h4,h1,by rw [←hpl];exact owns_sliceP h2.1,h2,h3,?_,h5⟩
      have h8:=RowL.own h2 (fun p hp=>hsz _ (by rw [←h4];exact List.mem_map_of_mem hp)) (by unfold maxLen;omega)
      rw [h4] at h8
      exact h8
  have HEQ:Hid (∀ W v u l1 h1 l2 h2,RowOwn shPickO 59 (Ow l1 h1) W v R→h1≤W.heap.size→RowOwn shPickO 59 (Ow l2 h2) W u R→h2≤W.heap.size→Calls Tryz.prog 59 #[v,u] W fun e w'=>e=.returned (.bool true)∧Below W.heap.size W w'):=fun W v u l1 h1 l2 h2 a b a' b'=>
    eqPickS_c (Ow l1 h1) (Ow l2 h2) _ _ R W (RowIn.as (sh:=shPickO) (sh':=shPick) rfl (fun S w cs x h=>liesPick_plain h) a.plain) (RowIn.as (sh:=shPickO) (sh':=shPick) rfl (fun S w cs x h=>liesPick_plain h) a'.plain) (fun b8 hb=>Nat.lt_of_lt_of_le hb.2 b) (fun b8 hb=>Nat.lt_of_lt_of_le hb.2 b') hw3
  have HMK:Hid (∀ W lo v (ps:List LC),ps.map LC.d=R→RowL lo W v ps→SepL ps→lo≤W.heap.size→Calls Tryz.prog 64 #[v,.int .i64 1] W fun e w'=>e=.returned (.int .i64 (M:Int))∧RowL lo w' v (mkL 1 ps)∧Below lo W w'):=fun W lo v ps h1 h2 h3 h4=>by
    have h9:=hcnt ps h1
    have h8:=markPickL_c lo v ps 1 W h2 h3 h4 (Nat.le_refl _) (by omega)
    rw [h9] at h8
    exact h8
  have HHD:Hid (∀ W lo v (ps:List LC),ps.map LC.d=R→RowL lo W v (mkL 1 ps)→Calls Tryz.prog 65 #[v,.int .i64 1] W fun e w'=>e=.returned (.int .i64 (M:Int))∧Below W.heap.size W w'):=fun W lo v ps h1 h2=>by
    have h9:=hcnt ps h1
    have h8:=heldPickL_c lo v ps 1 W h2 (Nat.le_refl _) (by omega)
    rw [h9] at h8
    exact h8
  obtain ⟨K1,hK1⟩: ∃ k,k=1+cntEs z0:=⟨_,rfl⟩
  have hc1:=cntEs_wt z0
  have hc2:=len_wtRow wtNeed z1
  have HME:Hid (∀ W g lo hi,RowOwn shEntryO 35 (Ow lo hi) W (.slice (some ⟨g,0,none⟩) z0.length z0.length) z0→Calls Tryz.prog 62 #[.slice (some ⟨g,0,none⟩) z0.length z0.length,.int .i64 1] W fun e w'=>e=.returned (.int .i64 (K1:Int))∧Chg (Ow lo hi) W w'):=fun W g lo hi a=>by
    have h9:=markEntryS_c (Ow lo hi) _ z0 1 W a (Nat.le_refl _) (by omega)
    rw [←hK1] at h9
    exact h9
  obtain ⟨K2,hK2⟩: ∃ k,k=K1+z1.length*2:=⟨_,rfl⟩
  have HMN:Hid (∀ W g lo hi,RowOwn shNeed 39 (Ow lo hi) W (.slice (some ⟨g,0,none⟩) z1.length z1.length) z1→Calls Tryz.prog 63 #[.slice (some ⟨g,0,none⟩) z1.length z1.length,.int .i64 (K1:Int)] W fun e w'=>e=.returned (.int .i64 (K2:Int))∧Chg (Ow lo hi) W w'):=fun W g lo hi a=>by
    obtain ⟨_,zs,ho,hin,_⟩:=a
    have h9:=markNeedS_c (Ow lo hi) _ z1.length K1 zs W ho hin (by omega) (by omega)
    rw [←hK2] at h9
    exact h9
  have hMn: ¬(M:Int)<0:=by omega
  have hKn: ¬(K2:Int)<0:=by omega
  obtain ⟨n,hn⟩: ∃ n,n=R.length:=⟨_,rfl⟩
  rw [←hn] at HSP HIM
  clear hin0 hin1 r0 r1 hT hw0 hw1 hcnt hM hsz hs1 hs2 hw3 hw4 hR hC HSP0 HIM0 hc1 hc2 hK1 hK2 hn
  go_enter Tryz.func9,Tryz.ntmps9
  go_wp2_with fail
  go_at_call 55
  refine (HZ0.out _ (Below.refl w.heap.size w)).mono ?_
  rintro e v1 ⟨rfl,b1⟩
  have k1:=(Below.refl w.heap.size w).trans (b1.mono (Below.refl w.heap.size w).size)
  clear b1
  go_wp2_with fail
  go_at_call 56
  refine (HZ1.out _ (k1)).mono ?_
  rintro e v2 ⟨rfl,b2⟩
  have k2:=(k1).trans (b2.mono (k1).size)
  clear b2
  go_wp2_with fail
  go_at_call 57
  refine (HT0.out _ k2).mono ?_
  rintro e v3 ⟨gA,rfl,FA,b3⟩
  have k3:=k2.trans (b3.mono k2.size)
  have m3:=b3.size
  clear b3
  go_wp2_with fail
  go_at_call 58
  refine (HT1.out _ k3).mono ?_
  rintro e v4 ⟨gB,rfl,FB,b4⟩
  have k4:=k3.trans (b4.mono k3.size)
  have m4:=b4.size
  have FA:=FA.keep (Kp.of b4 (fun b hb=>by have:=hb.2;omega))
  clear b4
  go_wp2_with fail
  go_at_call 36
  refine (HSP.out _ gA gB _ _ _ _ FA (by omega) FB (by omega)).mono ?_
  rintro e v5 ⟨u0,rfl,⟨uq0,uc0,hu0⟩,U0,b5⟩
  have k5:=k4.trans (b5.mono k4.size)
  have m5:=b5.size
  subst hu0
  clear b5 FA FB HSP
  go_wp2_with fail
  go_at_call 57
  refine (HT0.out _ k5).mono ?_
  rintro e v6 ⟨gC,rfl,FC,b6⟩
  have k6:=k5.trans (b6.mono k5.size)
  have m6:=b6.size
  have U0:=U0.keep (Kp.of b6 (fun b hb=>by have:=hb.2;omega))
  clear b6
  go_wp2_with fail
  go_at_call 58
  refine (HT1.out _ k6).mono ?_
  rintro e v7 ⟨gD,rfl,FD,b7⟩
  have k7:=k6.trans (b7.mono k6.size)
  have m7:=b7.size
  have U0:=U0.keep (Kp.of b7 (fun b hb=>by have:=hb.2;omega))
  have FC:=FC.keep (Kp.of b7 (fun b hb=>by have:=hb.2;omega))
  clear b7
  go_wp2_with fail
  go_at_call 28
  refine (HIM.out _ gC gD _ _ _ _ k7 FC (by omega) FD (by omega)).mono ?_
  rintro e v8 ⟨g0v,ps,hps,rfl,⟨gq0,gc0,hg0⟩,G0,SP,G1,b8⟩
  have k8:=k7.trans (b8.mono k7.size)
  have m8:=b8.size
  have U0:=U0.keep (Kp.of b8 (fun b hb=>by have:=hb.2;omega))
  have FC:=FC.keep (Kp.of b8 (fun b hb=>by have:=hb.2;omega))
  have FD:=FD.keep (Kp.of b8 (fun b hb=>by have:=hb.2;omega))
  subst hg0
  have HPS:=hidden hps
  clear hps
  clear b8
  go_wp2_with fail
  go_at_call 59
  refine (HEQ.out _ _ _ _ _ _ _ G1 (by omega) U0 (by omega)).mono ?_
  rintro e v9 ⟨rfl,b9⟩
  have k9:=k8.trans (b9.mono k8.size)
  have m9:=b9.size
  have U0:=U0.keep (Kp.of b9 (fun b hb=>by have:=hb.2;omega))
  have FC:=FC.keep (Kp.of b9 (fun b hb=>by have:=hb.2;omega))
  have FD:=FD.keep (Kp.of b9 (fun b hb=>by have:=hb.2;omega))
  have G1:=G1.keep (Kp.of b9 (fun b hb=>by have:=hb.2;omega))
  have G0:=G0.below b9
  clear b9
  go_wp2_with fail
  go_at_call 57
  refine (HT0.out _ k9).mono ?_
  rintro e v10 ⟨gE,rfl,FE,b10⟩
  have k10:=k9.trans (b10.mono k9.size)
  have m10:=b10.size
  have U0:=U0.keep (Kp.of b10 (fun b hb=>by have:=hb.2;omega))
  have FC:=FC.keep (Kp.of b10 (fun b hb=>by have:=hb.2;omega))
  have FD:=FD.keep (Kp.of b10 (fun b hb=>by have:=hb.2;omega))
  have G1:=G1.keep (Kp.of b10 (fun b hb=>by have:=hb.2;omega))
  have G0:=G0.below b10
  clear b10
  go_wp2_with fail
  go_at_call 60
  refine (HE0.out _ gC gE _ _ _ _ FC (by omega) FE (by omega)).mono ?_
  rintro e v11 ⟨rfl,b11⟩
  have k11:=k10.trans (b11.mono k10.size)
  have m11:=b11.size
  have U0:=U0.keep (Kp.of b11 (fun b hb=>by have:=hb.2;omega))
  have FC:=FC.keep (Kp.of b11 (fun b hb=>by have:=hb.2;omega))
  have FD:=FD.keep (Kp.of b11 (fun b hb=>by have:=hb.2;omega))
  have G1:=G1.keep (Kp.of b11 (fun b hb=>by have:=hb.2;omega))
  have G0:=G0.below b11
  clear b11 FE
  go_wp2_with fail
  go_at_call 58
  refine (HT1.out _ k11).mono ?_
  rintro e v12 ⟨gF,rfl,FF,b12⟩
  have k12:=k11.trans (b12.mono k11.size)
  have m12:=b12.size
  have U0:=U0.keep (Kp.of b12 (fun b hb=>by have:=hb.2;omega))
  have FC:=FC.keep (Kp.of b12 (fun b hb=>by have:=hb.2;omega))
  have FD:=FD.keep (Kp.of b12 (fun b hb=>by have:=hb.2;omega))
  have G1:=G1.keep (Kp.of b12 (fun b hb=>by have:=hb.2;omega))
  have G0:=G0.below b12
  clear b12
  go_wp2_with fail
  go_at_call 61
  refine (HE1.out _ gD gF _ _ _ _ FD (by omega) FF (by omega)).mono ?_
  rintro e v13 ⟨rfl,b13⟩
  have k13:=k12.trans (b13.mono k12.size)
  have m13:=b13.size
  have U0:=U0.keep (Kp.of b13 (fun b hb=>by have:=hb.2;omega))
  have FC:=FC.keep (Kp.of b13 (fun b hb=>by have:=hb.2;omega))
  have FD:=FD.keep (Kp.of b13 (fun b hb=>by have:=hb.2;omega))
  have G1:=G1.keep (Kp.of b13 (fun b hb=>by have:=hb.2;omega))
  have G0:=G0.below b13
  clear b13 FF
  go_wp2_with fail
  go_at_call 62
  refine (HME.out _ gC _ _ FC).mono ?_
  rintro e v14 ⟨rfl,c14⟩
  have k14:=below_chgS k13 c14 (fun b hb=>by have:=hb.1;have:=k2.size;omega) k13.size
  have m14:=c14.size
  have U0:=U0.keep (fun b hb=>c14.block b (by have:=hb.2;omega) (fun hs=>by have:=hb.1;have:=hb.2;have:=hs.1;have:=hs.2;omega))
  have FD:=FD.keep (fun b hb=>c14.block b (by have:=hb.2;omega) (fun hs=>by have:=hb.1;have:=hb.2;have:=hs.1;have:=hs.2;omega))
  have G1:=G1.keep (fun b hb=>c14.block b (by have:=hb.2;omega) (fun hs=>by have:=hb.1;have:=hb.2;have:=hs.1;have:=hs.2;omega))
  have G0:=G0.chg c14 (fun b hb hs=>by have:=hs.2;omega)
  clear c14 FC HME
  go_wp2_with fail
  go_at_call 63
  refine (HMN.out _ gD _ _ FD).mono ?_
  rintro e v15 ⟨rfl,c15⟩
  have k15:=below_chgS k14 c15 (fun b hb=>by have:=hb.1;have:=k2.size;omega) k14.size
  have m15:=c15.size
  have U0:=U0.keep (fun b hb=>c15.block b (by have:=hb.2;omega) (fun hs=>by have:=hb.1;have:=hb.2;have:=hs.1;have:=hs.2;omega))
  have G1:=G1.keep (fun b hb=>c15.block b (by have:=hb.2;omega) (fun hs=>by have:=hb.1;have:=hb.2;have:=hs.1;have:=hs.2;omega))
  have G0:=G0.chg c15 (fun b hb hs=>by have:=hs.2;omega)
  clear c15 FD HMN
  go_wp2_with fail
  go_at_call 59
  refine (HEQ.out _ _ _ _ _ _ _ G1 (by omega) U0 (by omega)).mono ?_
  rintro e v16 ⟨rfl,b16⟩
  have k16:=k15.trans (b16.mono k15.size)
  have m16:=b16.size
  have U0:=U0.keep (Kp.of b16 (fun b hb=>by have:=hb.2;omega))
  have G0:=G0.below b16
  clear b16 G1
  go_wp2_with fail
  go_at_call 64
  refine (HMK.out _ _ _ _ HPS.out G0 SP (by omega)).mono ?_
  rintro e v17 ⟨rfl,G2,c17⟩
  have k17:=k16.trans (c17.mono (by have:=k7.size;omega))
  have m17:=c17.size
  have U0:=U0.keep (Kp.of c17 (fun b hb=>by have:=hb.2;omega))
  clear c17 G0 SP HMK
  go_wp2_with fail
  go_at_call 65
  refine (HHD.out _ _ _ _ HPS.out G2).mono ?_
  rintro e v18 ⟨rfl,b18⟩
  have k18:=k17.trans (b18.mono k17.size)
  have m18:=b18.size
  have U0:=U0.keep (Kp.of b18 (fun b hb=>by have:=hb.2;omega))
  have G2:=G2.below b18
  clear b18
  go_wp2_with fail
  go_at_call 57
  refine (HT0.out _ k18).mono ?_
  rintro e v19 ⟨gG,rfl,FG,b19⟩
  have k19:=k18.trans (b19.mono k18.size)
  have m19:=b19.size
  have U0:=U0.keep (Kp.of b19 (fun b hb=>by have:=hb.2;omega))
  have G2:=G2.below b19
  clear b19
  go_wp2_with fail
  go_at_call 58
  refine (HT1.out _ k19).mono ?_
  rintro e v20 ⟨gH,rfl,FH,b20⟩
  have k20:=k19.trans (b20.mono k19.size)
  have m20:=b20.size
  have U0:=U0.keep (Kp.of b20 (fun b hb=>by have:=hb.2;omega))
  have FG:=FG.keep (Kp.of b20 (fun b hb=>by have:=hb.2;omega))
  have G2:=G2.below b20
  clear b20
  go_wp2_with fail
  go_at_call 28
  refine (HIM.out _ gG gH _ _ _ _ k20 FG (by omega) FH (by omega)).mono ?_
  rintro e v21 ⟨h0v,ps2,hps2,rfl,⟨hq0,hc0,hh0⟩,H0,SP2,H1,b21⟩
  have k21:=k20.trans (b21.mono k20.size)
  have m21:=b21.size
  have U0:=U0.keep (Kp.of b21 (fun b hb=>by have:=hb.2;omega))
  have G2:=G2.below b21
  subst hh0
  clear b21 FG FH hps2 H0 SP2
  go_wp2_with fail
  go_at_call 59
  refine (HEQ.out _ _ _ _ _ _ _ H1 (by omega) U0 (by omega)).mono ?_
  rintro e v22 ⟨rfl,b22⟩
  have k22:=k21.trans (b22.mono k21.size)
  have m22:=b22.size
  have G2:=G2.below b22
  clear b22 U0 H1
  go_wp2_with fail
  go_at_call 65
  refine (HHD.out _ _ _ _ HPS.out G2).mono ?_
  rintro e v23 ⟨rfl,b23⟩
  have k23:=k22.trans (b23.mono k22.size)
  have m23:=b23.size
  clear b23
  go_wp2_with fail
  go_ret
  exact ⟨rfl,k23⟩
end Go.Proofs.YtlfmefojcmpfeaaGreatDoor
namespace Go.Proofs.YtlfmefojcmpfeaaGreatDoor.fnExactSolve
open Go.ChangeShapes Go.WideShapes Go.ChangeAt Go.RowKit
open Go.ChangeMaps (open_string shut_string)
theorem own :ownKnob Tryz.prog.godebug=none:=by kernel_rfl
theorem laidOut :laidOutB Tryz.prog=true:=by kernel_rfl
theorem walk (a0:Value) (z0:List EntryD) (a1:Value) (z1:List NeedD) (a2:Int) (w:World) (r0:RowIn shEntry (· <w.heap.size) w a0 z0) (r1:RowIn shNeed (· <w.heap.size) w a1 z1) (w2:(Lit.int .i64 a2).wf=true) (m:Int) (hm:w.cell? ⟨2,0,none⟩=some (.int .i64 m)) (hsg: ∀ k (h:k<signsT.length),w.cell? ⟨1,k,none⟩=some (.string signsT[k])):
    Calls Tryz.prog 9 #[a0,a1,.int .i64 a2] w fun e w'=>e=.returned (.bool true)∧Below w.heap.size w w':=by
  exact solve_walk a0 a1 z0 z1 a2 w r0 r1 ⟨m,hm,hsg⟩
theorem witnessWorld (os:Os) {H:Type} (enc:TypeId × Value→H): ∃ W0:World,W0.os=os∧(W0.forCall (fun _ _=>0) ⟨#[],#[.slice none 0 0,.slice none 0 0,.int .i64 0],[]⟩).variablesB Tryz.prog=true∧
  ((W0.forCall (fun _ _=>0) ⟨#[],#[.slice none 0 0,.slice none 0 0,.int .i64 0],[]⟩).heap.toList.drop Tryz.prog.globals.size).take ((begin Tryz.prog (fun _ _=>0) default).world.heap.size-Tryz.prog.globals.size)=(begin Tryz.prog (fun _ _=>0) default).world.heap.toList.drop Tryz.prog.globals.size∧
  Input.okWideB Tryz.prog (W0.forCall (fun _ _=>0) ⟨#[],#[.slice none 0 0,.slice none 0 0,.int .i64 0],[]⟩) 9 ⟨#[],#[.slice none 0 0,.slice none 0 0,.int .i64 0],[]⟩=true∧
  laidMet Tryz.prog Rows.fnExactSolveRow.laid (W0.forCall (fun _ _=>0) ⟨#[],#[.slice none 0 0,.slice none 0 0,.int .i64 0],[]⟩).memory∧
  ChangeSpec.sizedB enc Tryz.checked.prog Tryz.f9 (OpenSpec.ofChange Rows.fnExactSolveSpec).bare false (W0.forCall (fun _ _=>0) ⟨#[],#[.slice none 0 0,.slice none 0 0,.int .i64 0],[]⟩).memory #[.slice none 0 0,.slice none 0 0,.int .i64 0] 8=true∧
  ∃ places,DataW.whole enc Tryz.prog (W0.forCall (fun _ _=>0) ⟨#[],#[.slice none 0 0,.slice none 0 0,.int .i64 0],[]⟩).memory Tryz.f9.params.toList Rows.fnExactSolveSpec.vars false (#[.slice none 0 0,.slice none 0 0,.int .i64 0]:Array Value).toList 8=some ([.nil,.nil,.lit (.int .i64 0)],[.agg [.lit (.string [61]),.lit (.string [60]),.lit (.string [60,61]),.lit (.string [62]),.lit (.string [62,61]),.lit (.string [126]),.lit (.string [94])]],places):=
 ⟨{ World.holding Tryz.prog os ⟨#[], #[], []⟩ with heap := ((((World.holding Tryz.prog os ⟨#[], #[], []⟩).heap).modify 4 (fun | .cells _ t frozen => .cells #[.int .u8 128, .int .u8 191, .int .u8 160, .int .u8 191, .int .u8 128, .int .u8 159, .int .u8 144, .int .u8 191, .int .u8 128, .int .u8 143, .int .u8 0, .int .u8 0, .int .u8 0, .int .u8 0, .int .u8 0, .int .u8 0, .int .u8 0, .int .u8 0, .int .u8 0, .int .u8 0, .int .u8 0, .int .u8 0, .int .u8 0, .int .u8 0, .int .u8 0, .int .u8 0, .int .u8 0, .int .u8 0, .int .u8 0, .int .u8 0, .int .u8 0, .int .u8 0] t frozen | o => o)).modify 1 (fun | .cells _ t frozen => .cells #[.string ⟨#[61]⟩, .string ⟨#[60]⟩, .string ⟨#[60, 61]⟩, .string ⟨#[62]⟩, .string ⟨#[62, 61]⟩, .string ⟨#[126]⟩, .string ⟨#[94]⟩] t frozen | o => o)).modify 3 (fun | .cells _ t frozen => .cells #[.int .u8 240, .int .u8 240, .int .u8 240, .int .u8 240, .int .u8 240, .int .u8 240, .int .u8 240, .int .u8 240, .int .u8 240, .int .u8 240, .int .u8 240, .int .u8 240, .int .u8 240, .int .u8 240, .int .u8 240, .int .u8 240, .int .u8 240, .int .u8 240, .int .u8 240, .int .u8 240, .int .u8 240, .int .u8 240, .int .u8 240, .int .u8 240, .int .u8 240, .int .u8 240, .int .u8 240, .int .u8 240, .int .u8 240, .int .u8 240, .int .u8 240, .int .u8 240, .int .u8 240, .int .u8 240, .int .u8 240, .int .u8 240, .int .u8 240, .int .u8 240, .int .u8 240, .int .u8 240, .int .u8 240, .int .u8 240, .int .u8 240, .int .u8 240, .int .u8 240, .int .u8 240, .int .u8 240, .int .u8 240, .int .u8 240, .int .u8 240, .int .u8 240, .int .u8 240, .int .u8 240, .int .u8 240, .int .u8 240, .int .u8 240, .int .u8 240, .int .u8 240, .int .u8 240, .int .u8 240, .int .u8 240, .int .u8 240, .int .u8 240, .int .u8 240, .int .u8 240, .int .u8 240, .int .u8 240, .int .u8 240, .int .u8 240, .int .u8 240, .int .u8 240, .int .u8 240, .int .u8 240, .int .u8 240, .int .u8 240, .int .u8 240, .int .u8 240, .int .u8 240, .int .u8 240, .int .u8 240, .int .u8 240, .int .u8 240, .int .u8 240, .int .u8 240, .int .u8 240, .int .u8 240, .int .u8 240, .int .u8 240, .int .u8 240, .int .u8 240, .int .u8 240, .int .u8 240, .int .u8 240, .int .u8 240, .int .u8 240, .int .u8 240, .int .u8 240, .int .u8 240, .int .u8 240, .int .u8 240, .int .u8 240, .int .u8 240, .int .u8 240, .int .u8 240, .int .u8 240, .int .u8 240, .int .u8 240, .int .u8 240, .int .u8 240, .int .u8 240, .int .u8 240, .int .u8 240, .int .u8 240, .int .u8 240, .int .u8 240, .int .u8 240, .int .u8 240, .int .u8 240, .int .u8 240, .int .u8 240, .int .u8 240, .int .u8 240, .int .u8 240, .int .u8 240, .int .u8 240, .int .u8 240, .int .u8 240, .int .u8 240, .int .u8 241, .int .u8 241, .int .u8 241, .int .u8 241, .int .u8 241, .int .u8 241, .int .u8 241, .int .u8 241, .int .u8 241, .int .u8 241, .int .u8 241, .int .u8 241, .int .u8 241, .int .u8 241, .int .u8 241, .int .u8 241, .int .u8 241, .int .u8 241, .int .u8 241, .int .u8 241, .int .u8 241, .int .u8 241, .int .u8 241, .int .u8 241, .int .u8 241, .int .u8 241, .int .u8 241, .int .u8 241, .int .u8 241, .int .u8 241, .int .u8 241, .int .u8 241, .int .u8 241, .int .u8 241, .int .u8 241, .int .u8 241, .int .u8 241, .int .u8 241, .int .u8 241, .int .u8 241, .int .u8 241, .int .u8 241, .int .u8 241, .int .u8 241, .int .u8 241, .int .u8 241, .int .u8 241, .int .u8 241, .int .u8 241, .int .u8 241, .int .u8 241, .int .u8 241, .int .u8 241, .int .u8 241, .int .u8 241, .int .u8 241, .int .u8 241, .int .u8 241, .int .u8 241, .int .u8 241, .int .u8 241, .int .u8 241, .int .u8 241, .int .u8 241, .int .u8 241, .int .u8 241, .int .u8 2, .int .u8 2, .int .u8 2, .int .u8 2, .int .u8 2, .int .u8 2, .int .u8 2, .int .u8 2, .int .u8 2, .int .u8 2, .int .u8 2, .int .u8 2, .int .u8 2, .int .u8 2, .int .u8 2, .int .u8 2, .int .u8 2, .int .u8 2, .int .u8 2, .int .u8 2, .int .u8 2, .int .u8 2, .int .u8 2, .int .u8 2, .int .u8 2, .int .u8 2, .int .u8 2, .int .u8 2, .int .u8 2, .int .u8 2, .int .u8 19, .int .u8 3, .int .u8 3, .int .u8 3, .int .u8 3, .int .u8 3, .int .u8 3, .int .u8 3, .int .u8 3, .int .u8 3, .int .u8 3, .int .u8 3, .int .u8 3, .int .u8 35, .int .u8 3, .int .u8 3, .int .u8 52, .int .u8 4, .int .u8 4, .int .u8 4, .int .u8 68, .int .u8 241, .int .u8 241, .int .u8 241, .int .u8 241, .int .u8 241, .int .u8 241, .int .u8 241, .int .u8 241, .int .u8 241, .int .u8 241, .int .u8 241] t frozen | o => o) },
  rfl, by kernel_rfl, by kernel_rfl, by kernel_rfl, laidMet_of_run3 8 (by kernel_rfl) (by kernel_rfl) (by kernel_rfl), by kernel_rfl, [.cell 1 0, .cell 1 1, .cell 1 2, .cell 1 3, .cell 1 4, .cell 1 5, .cell 1 6], by kernel_rfl⟩
theorem lifted (os:Os) (started:os.Started) (H:Type) (enc:TypeId × Value→H) (F:Stop.Interp):
    ReturnsInHanded {} Tryz.checked os 9 .any ((OpenSpec.ofChange Rows.fnExactSolveSpec).preRow enc Tryz.prog Tryz.f9 Rows.fnExactSolveRow.domain false Rows.fnExactSolveRow.laid) (((OpenSpec.ofChange Rows.fnExactSolveSpec).at F).post enc Tryz.prog Tryz.f9 false true false false):=by
  obtain ⟨W0,hos,hv,hr,hok,hlaid,hsz,places,hx⟩:=witnessWorld os enc
  refine returnsInHanded_of_row (C:=Tryz.checked) (s:=OpenSpec.ofChange Rows.fnExactSolveSpec) own started (by kernel_rfl) Tryz.func9
    (witness_row_at (enc := enc) (C := Tryz.checked) false W0 #[.slice none 0 0, .slice none 0 0, .int .i64 0] hos hv hr hok
      (OpenSpec.preRow_of_cond 8 hx (by kernel_rfl) (fun k hk => by cases hk) hsz hlaid)) ?_
  intro W base args ds gs before hval0 hW _ _ _ hL hSh _
  have hval: ∀ (j:Nat) t v,Tryz.f9.params[j]?=some t→args[j]?=some v→Value.okWide Tryz.prog W .any base t v:=hval0
  have hW':=hW
  obtain ⟨p,q,hA0,hV,rfl,hfz,hnd⟩:=hW
  have hA:DataW.TrodAll enc Tryz.prog W 0 (fun _=>true) true Tryz.f9.params.toList args.toList ds p:=hA0
  rw [Tryz.params9] at hA hval
  obtain ⟨v0,vs0,d0,ds0,p0,q0,hargs,rfl,rfl,h0,r0⟩:=trodAll_cons hA
  obtain ⟨v1,vs1,d1,ds1,p1,q1,rfl,rfl,rfl,h1,r1⟩:=trodAll_cons r0
  obtain ⟨v2,vs2,d2,ds2,p2,q2,rfl,rfl,rfl,h2,r2⟩:=trodAll_cons r1
  obtain ⟨rfl,rfl,rfl⟩:=trodAll_nil r2
  obtain rfl:args=#[v0,v1,v2]:=by cases args;simp_all
  have hV1:=hV
  obtain ⟨_,_,_,_,dv,_,rfl,_⟩:=trodVars_one hV
  obtain ⟨m,hm⟩:=bound_shaped hSh
  obtain ⟨a0,len0,cap0,rfl⟩:=okWide_slice Tryz.underlying81 (hval 0 81 v0 rfl rfl)
  have k0:=h0
  have lt0: ∀ x∈p0,x.block<W.heap.size:=by obtain ⟨m,hm⟩:=k0;exact DataW.trod_lt m _ _ _ hm
  obtain ⟨z0,t0⟩: ∃ xs,RowIn shEntry (· <W.heap.size) W (.slice a0 len0 cap0) xs:=by
    obtain ⟨fuel,hf⟩:=h0
    exact entrys_of_trod fuel _ _ hf
  obtain ⟨a1,len1,cap1,rfl⟩:=okWide_slice Tryz.underlying82 (hval 1 82 v1 rfl rfl)
  have k1:=h1
  have lt1: ∀ x∈p1,x.block<W.heap.size:=by obtain ⟨m,hm⟩:=k1;exact DataW.trod_lt m _ _ _ hm
  obtain ⟨z1,t1⟩: ∃ xs,RowIn shNeed (· <W.heap.size) W (.slice a1 len1 cap1) xs:=by
    obtain ⟨fuel,hf⟩:=h1
    exact needs_of_trod fuel _ _ hf
  obtain ⟨a2,rfl,rfl,rfl,w2⟩:=open_int Tryz.underlying3 (hval 2 3 v2 rfl rfl) h2
  clear hA0 hval0
  refine (walk _ z0 _ z1 a2 W t0 t1 w2 m hm (signs_laid hL)).mono fun e W' ⟨he,bel⟩=>?_
  subst he
  exact ⟨_,rfl,_,_,_,[],_,_,hW',trodAll_mk1 (shut_bool Tryz.underlying4 _),(trodAll_cons_mk (Below.trod laidOut (by kernel_rfl) (of_decide_eq_true (by kernel_rfl)) k0 bel lt0) (trodAll_cons_mk (Below.trod laidOut (by kernel_rfl) (of_decide_eq_true (by kernel_rfl)) k1 bel lt1) (trodAll_cons_mk (shut_int Tryz.underlying3 w2) trodAll_mk0))),Below.trodVars laidOut bel (by kernel_rfl) hV1,bel.frame _,fun h=>by cases h⟩
end Go.Proofs.YtlfmefojcmpfeaaGreatDoor.fnExactSolve
namespace Go.Proofs.YtlfmefojcmpfeaaGreatDoor.fnExactSolve
theorem band {a b:Bool} (h:a=true) (k:b=true):(a&&b)=true:=by rw [h,k];rfl
theorem closed :joinedFacts Tryz.prog 9 Tryz.f9 (OpenSpec.ofChange Rows.fnExactSolveSpec).bare Rows.fnExactSolveRow=true:=by
 unfold joinedFacts
 repeat' (with_reducible refine band ?_ ?_)
 all_goals (as_aux_lemma=>kernel_rfl)
theorem wfT :Rows.fnExactSolveRow.wfByText (OpenSpec.ofChange Rows.fnExactSolveSpec)=true:=by kernel_rfl
theorem goesT :false=Rows.fnExactSolveRow.goesBy Tryz.prog:=by kernel_rfl
end Go.Proofs.YtlfmefojcmpfeaaGreatDoor.fnExactSolve
