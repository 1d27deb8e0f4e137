/-
  Contracts for the walks and pure facts, several texts in one: each theorem says what it proves, and under which conditions.
-/
import Derived.Test.YtlfmefojcmpfeaaGreatDoorUT
import Derived.Test.YtlfmefojcmpfeaaGreatDoorU5
set_option linter.unusedSimpArgs false
set_option linter.unusedVariables false
set_option maxHeartbeats 16000000
set_option maxRecDepth 100000
namespace Go.Proofs.YtlfmefojcmpfeaaGreatDoor
open Go.RowKit
theorem specParseN_c (s:ByteArray) (hs:s.size≤1048576) (w:World):
    Calls Tryz.prog 128 #[.string s] w fun e w'=>∃ u,e=.returned (verOut s u)∧w'.ownsRow w.heap.size 9 1 u (resP s).length (strsV (resP s))∧Below w.heap.size w w':=by
  obtain ⟨A0,B0⟩:=four_two w 30 30 (.int .i64 0) (.int .i64 0) (.int .i64 0) (.slice none 0 0) (.int .i64 0) (.int .i64 0) (.int .i64 0) (.slice none 0 0)
  have hbW:=two_new (w:=w) (.cells #[.int .i64 0,.int .i64 0,.int .i64 0,.slice none 0 0] 30) (.cells #[.int .i64 0,.int .i64 0,.int .i64 0,.slice none 0 0] 30)
  go_enter Tryz.func128,Tryz.ntmps128
  go_wp2
  go_loop [5] (fun vi=>∃ k:Nat,k≤s.size∧vi=.int .i64 (k:Int)∧Hid (∀ j,j<k→¬((s.data[j]!).toNat:Int)=45)) (fun vi=>s.size-(intOf vi).toNat)
  case atStart=>exact ⟨0,Nat.zero_le _,rfl,fun j hj=>by omega⟩
  case round=>
    obtain ⟨k,hk,rfl,hh⟩:=hrel
    by_cases hlt:k<s.size
    · have hki:(k:Int)<(s.size:Int):=by omega
      by_cases h45:((s[k]).toNat:Int)=45
      · have e45:(((s[k]).toNat:Int) != 45)=false:=by simpa using h45
        have HD:Hid (k<s.size→((s.data[k]!).toNat:Int)=45):=fun _=>by rw [byteBang s k hlt];exact h45
        have hz:(s.extract (k+1) s.size).size=s.size-(k+1):=vsize s (k+1) s.size (by omega) (Nat.le_refl _)
        obtain ⟨P,hP⟩: ∃ P,P=splitS (s.extract (k+1) s.size) 46:=⟨_,rfl⟩
        have HP:Hid (P=if k<s.size then splitS (s.extract (k+1) s.size) 46 else []):=by show _=_;rw [hP,if_pos hlt]
        have HB:Hid (bulkS P≤1048576):=by show _≤_;rw [hP,vsplitS_bulk,hz];omega
        have HSp:Hid (∀ w1,Calls Tryz.prog 127 #[.string (s.extract (k+1) s.size),.int .u8 46] w1 fun e w'=>∃ v,e=.returned v∧w'.ownsRow w1.heap.size 9 1 v P.length (strsV P)∧Below w1.heap.size w1 w'):=fun w1=>by rw [hP];exact specSplit_c _ 46 w1 (by omega)
        clear h45 hz hP
        obtain ⟨L,hL⟩: ∃ L,L=splitS (s.extract 0 k) 46:=⟨_,rfl⟩
        have HL:Hid (L=splitS (s.extract 0 k) 46):=hL
        have hLz:(s.extract 0 k).size=k:=by rw [vsize s 0 k (Nat.zero_le _) (by omega)];omega
        have HLB:Hid (bulkS L≤1048577):=by show _≤_;rw [hL,vsplitS_bulk,hLz];omega
        have HSL:Hid (∀ w1,Calls Tryz.prog 127 #[.string (s.extract 0 k),.int .u8 46] w1 fun e w'=>∃ v,e=.returned v∧w'.ownsRow w1.heap.size 9 1 v L.length (strsV L)∧Below w1.heap.size w1 w'):=fun w1=>by rw [hL];exact specSplit_c (s.extract 0 k) 46 w1 (by rw [hLz];omega)
        clear hL hLz
        have hsW:((w.alloc (.cells #[.int .i64 0,.int .i64 0,.int .i64 0,.slice none 0 0] 30)).alloc (.cells #[.int .i64 0,.int .i64 0,.int .i64 0,.slice none 0 0] 30)).heap.size=w.heap.size+1+1:=by simp
        generalize ((w.alloc (.cells #[.int .i64 0,.int .i64 0,.int .i64 0,.slice none 0 0] 30)).alloc (.cells #[.int .i64 0,.int .i64 0,.int .i64 0,.slice none 0 0] 30))=W0 at A0 B0 hbW hsW ⊢
        go_wp2_with fail
        go_at_call 127
        refine (HSp.out _).mono ?_
        rintro e w1 ⟨uP,rfl,o1,b1⟩
        obtain ⟨uq,uc,huP⟩: ∃ q c,uP=.slice q P.length c:=by obtain ⟨q,c,h,_⟩:=reads_of_owns o1;exact ⟨q,c,by simpa using h⟩
        rw [hsW] at o1
        have A1':=A0.keep b1
        have B1':=B0.keep b1
        obtain ⟨y0,y1,y2,y3⟩:=B1'.cells
        have fy:=B1'.frozen 3
        have A1:=(Only.set (R:=w.heap.size+1) (base:=w.heap.size+1) w1 3 uP).four A1' (by omega) (by omega)
        have B1:=(four_set B1' uP).2.2.2
        have o1s:=owns_set o1 (p:=⟨w.heap.size+1,3,none⟩) (by simp) uP
        have RP:=o1s
        have HPB:Hid (∀ bl,uP.ownBlock=some bl→w.heap.size+1<bl):=fun bl h=>by have:=(o1.lt bl h).1;omega
        have hB1:Below w.heap.size w (w1.setCell ⟨w.heap.size+1,3,none⟩ uP):=(hbW.trans (b1.mono hbW.size)).setCell (by simp) _
        subst huP
        clear o1 o1s HSp hbW A0 B0 b1 A1'
        go_wp2_with fail
        clear y0 y1 y2 y3 fy B1'
        generalize w1.setCell ⟨w.heap.size+1,3,none⟩ (.slice uq P.length uc)=W1 at A1 B1 RP hB1 ⊢
        generalize (Value.slice uq P.length uc)=uP at B1 RP HPB ⊢
        obtain ⟨x0,x1,x2,x3⟩:=A1.cells
        have f1:=A1.frozen
        go_at_call 127
        refine (HSL.out W1).mono ?_
        rintro e w2 ⟨vl,rfl,o2,b2⟩
        have A2:=A1.keep b2
        have B2:=B1.keep b2
        have RP2:=owns_of_below RP b2
        have hw2:=hB1.trans (b2.mono hB1.size)
        obtain ⟨z0,z1,z2,z3⟩:=A2.cells
        have fz:=A2.frozen
        obtain ⟨y0,y1,y2,y3⟩:=B2.cells
        have fy:=B2.frozen
        clear A1 B1 RP x0 x1 x2 x3 f1 HSL b2
        by_cases h3:L.length=3
        · obtain ⟨t0,t1,t2,hL3⟩:=three_of h3
          have hlz: ∀ t∈L,t.size≤maxLen:=fun t ht=>by have:=size_of_bulk ht;have:=HLB.out;unfold maxLen;omega
          have hall:resAll s=if L.all (fun t=>numGood t 9999)&&decide (L.length=3)&&P.all partB&&decide (P.length≤3) then some (L.map (fun t=>numOut t 9999),P) else none:=res_spec s k hk HD.out hh.out L P HL.out HP.out
          subst hL3
          have hz0:=hlz t0 (by simp)
          have hz1:=hlz t1 (by simp)
          have hz2:=hlz t2 (by simp)
          obtain ⟨gl,cl,hvl⟩: ∃ g cap,vl=.slice (some ⟨g,0,none⟩) 3 cap:=by
            rcases o2.2 with ⟨_,h⟩|⟨g,cap,cur,hv,_⟩
            · simp at h
            · exact ⟨g,cap,hv⟩
          subst hvl
          have l0:w2.cell? ⟨gl,0,none⟩=some (.string t0):=by rw [o2.cellAt 0 (by simp)];rfl
          have l1:w2.cell? ⟨gl,1,none⟩=some (.string t1):=by rw [o2.cellAt 1 (by simp)];rfl
          have l2:w2.cell? ⟨gl,2,none⟩=some (.string t2):=by rw [o2.cellAt 2 (by simp)];rfl
          have hall2:resAll s=if numGood t0 9999&&(numGood t1 9999&&numGood t2 9999)&&P.all partB&&decide (P.length≤3) then some ([numOut t0 9999,numOut t1 9999,numOut t2 9999],P) else none:=by rw [hall];simp
          have HALL:Hid (resAll s=if numGood t0 9999&&(numGood t1 9999&&numGood t2 9999)&&P.all partB&&decide (P.length≤3) then some ([numOut t0 9999,numOut t1 9999,numOut t2 9999],P) else none):=hall2
          obtain ⟨m0,hm0⟩: ∃ m,m=numOut t0 9999:=⟨_,rfl⟩
          obtain ⟨m1,hm1⟩: ∃ m,m=numOut t1 9999:=⟨_,rfl⟩
          obtain ⟨m2,hm2⟩: ∃ m,m=numOut t2 9999:=⟨_,rfl⟩
          have N0:Hid (∀ w1,Calls Tryz.prog 200 #[.string t0,.int .i64 9999] w1 fun e w'=>e=.returned (.tuple #[.int .i64 m0,.bool (numGood t0 9999)])∧w1=w'):=fun w1=>by rw [hm0];exact specNum_c t0 9999 hz0 w1
          have N1:Hid (∀ w1,Calls Tryz.prog 200 #[.string t1,.int .i64 9999] w1 fun e w'=>e=.returned (.tuple #[.int .i64 m1,.bool (numGood t1 9999)])∧w1=w'):=fun w1=>by rw [hm1];exact specNum_c t1 9999 hz1 w1
          have N2:Hid (∀ w1,Calls Tryz.prog 200 #[.string t2,.int .i64 9999] w1 fun e w'=>e=.returned (.tuple #[.int .i64 m2,.bool (numGood t2 9999)])∧w1=w'):=fun w1=>by rw [hm2];exact specNum_c t2 9999 hz2 w1
          have I0:Hid (numGood t0 9999=true→inB m0 0 9999=true):=fun h=>by rw [hm0];exact num_in h
          have I1:Hid (numGood t1 9999=true→inB m1 0 9999=true):=fun h=>by rw [hm1];exact num_in h
          have I2:Hid (numGood t2 9999=true→inB m2 0 9999=true):=fun h=>by rw [hm2];exact num_in h
          rw [←hm0, ←hm1, ←hm2] at HALL
          have B3:=(four_set ((four_set ((four_set B2 (.int .i64 m0)).1) (.int .i64 m1)).2.1) (.int .i64 m2)).2.2.1
          have A3:Four (((w2.setCell ⟨w.heap.size+1,0,none⟩ (.int .i64 m0)).setCell ⟨w.heap.size+1,1,none⟩ (.int .i64 m1)).setCell ⟨w.heap.size+1,2,none⟩ (.int .i64 m2)) w.heap.size 30 (.int .i64 0) (.int .i64 0) (.int .i64 0) (.slice none 0 0):=
            ((Only.set (R:=w.heap.size+1) (base:=w.heap.size+1) w2 0 (.int .i64 m0)).trans ((Only.set _ 1 (.int .i64 m1)).trans (Only.set _ 2 (.int .i64 m2)))).four A2 (by omega) (by omega)
          have hw3:Below w.heap.size w (((w2.setCell ⟨w.heap.size+1,0,none⟩ (.int .i64 m0)).setCell ⟨w.heap.size+1,1,none⟩ (.int .i64 m1)).setCell ⟨w.heap.size+1,2,none⟩ (.int .i64 m2)):=((hw2.setCell (by simp) _).setCell (by simp) _).setCell (by simp) _
          have RP3:=owns_set (owns_set (owns_set RP2 (p:=⟨w.heap.size+1,0,none⟩) (by simp) (.int .i64 m0)) (p:=⟨w.heap.size+1,1,none⟩) (by simp) (.int .i64 m1)) (p:=⟨w.heap.size+1,2,none⟩) (by simp) (.int .i64 m2)
          obtain ⟨uq,un,uc,hup⟩: ∃ q n c,uP=.slice q n c:=by obtain ⟨q,c,h,_⟩:=reads_of_owns RP2;exact ⟨_,_,_,h⟩
          subst hup
          clear hall hall2 hm0 hm1 hm2 hlz o2 HL HP RP2 HD hh
          go_wp2_with fail
          go_at_call 200
          refine (N0.out _).mono ?_
          rintro e w' ⟨rfl,rfl⟩
          go_wp2_with fail
          go_at_call 200
          refine (N1.out _).mono ?_
          rintro e w' ⟨rfl,rfl⟩
          go_wp2_with fail
          go_at_call 200
          refine (N2.out _).mono ?_
          rintro e w' ⟨rfl,rfl⟩
          clear N0 N1 N2
          obtain ⟨a0,a1,a2,a3⟩:=A3.cells
          have fa:=A3.frozen
          obtain ⟨b0,b1,b2,b3⟩:=B3.cells
          clear l0 l1 l2
          cases hg0:numGood t0 9999 with
          |false=>
            have hnone:resAll s=none:=by rw [HALL.out,hg0];rfl
            obtain ⟨ho1,ho2⟩:=out_none hnone
            go_wp2_with fail
            refine bodyPost_ret (v:=.tuple #[.agg #[.int .i64 0,.int .i64 0,.int .i64 0,.slice none 0 0],.bool false]) (by simp [results,Tryz.results128,go_sem,a0,a1,a2,a3]) rfl ⟨.slice none 0 0,by rw [ho1],?_,?_⟩
            · rw [ho2];exact World.ownsRow_nil _ _ _ _
            · exact (((hw3.setCell (by simp) _).setCell (by simp) _).setCell (by simp) _).setCell (by simp) _
          |true=>
          cases hg1:numGood t1 9999 with
          |false=>
            have hnone:resAll s=none:=by rw [HALL.out,hg0,hg1];rfl
            obtain ⟨ho1,ho2⟩:=out_none hnone
            go_wp2_with fail
            refine bodyPost_ret (v:=.tuple #[.agg #[.int .i64 0,.int .i64 0,.int .i64 0,.slice none 0 0],.bool false]) (by simp [results,Tryz.results128,go_sem,a0,a1,a2,a3]) rfl ⟨.slice none 0 0,by rw [ho1],?_,?_⟩
            · rw [ho2];exact World.ownsRow_nil _ _ _ _
            · exact (((hw3.setCell (by simp) _).setCell (by simp) _).setCell (by simp) _).setCell (by simp) _
          |true=>
          cases hg2:numGood t2 9999 with
          |false=>
            have hnone:resAll s=none:=by rw [HALL.out,hg0,hg1,hg2];rfl
            obtain ⟨ho1,ho2⟩:=out_none hnone
            go_wp2_with fail
            refine bodyPost_ret (v:=.tuple #[.agg #[.int .i64 0,.int .i64 0,.int .i64 0,.slice none 0 0],.bool false]) (by simp [results,Tryz.results128,go_sem,a0,a1,a2,a3]) rfl ⟨.slice none 0 0,by rw [ho1],?_,?_⟩
            · rw [ho2];exact World.ownsRow_nil _ _ _ _
            · exact (((hw3.setCell (by simp) _).setCell (by simp) _).setCell (by simp) _).setCell (by simp) _
          |true=>
            have HV:Hid (resAll s=if verB m0 m1 m2 P then some ([m0,m1,m2],P) else none):=by
              show _=_
              rw [HALL.out,hg0,hg1,hg2,verB,parts_all,I0.out hg0,I1.out hg1,I2.out hg2]
              simp
            go_wp2_with fail
            go_at_call 95
            refine (specVerOk_c m0 m1 m2 _ P _ (reads_of_owns RP3) HB.out).mono ?_
            rintro e w4 ⟨rfl,b4⟩
            have A4:=A3.keep b4
            have B4:=B3.keep b4
            have RP4:=owns_of_below RP3 b4
            have hw4:=hw3.trans (b4.mono hw3.size)
            obtain ⟨p0,p1,p2,p3⟩:=A4.cells
            have fp:=A4.frozen
            obtain ⟨q0,q1,q2,q3⟩:=B4.cells
            clear a0 a1 a2 a3 fa b0 b1 b2 b3 A3 B3 RP3 hw3 HALL b4 I0 I1 I2
            cases hv:verB m0 m1 m2 P with
            |false=>
              have hnone:resAll s=none:=by rw [HV.out,hv];rfl
              obtain ⟨ho1,ho2⟩:=out_none hnone
              go_wp2_with fail
              refine bodyPost_ret (v:=.tuple #[.agg #[.int .i64 0,.int .i64 0,.int .i64 0,.slice none 0 0],.bool false]) (by simp [results,Tryz.results128,go_sem,p0,p1,p2,p3]) rfl ⟨.slice none 0 0,by rw [ho1],?_,?_⟩
              · rw [ho2];exact World.ownsRow_nil _ _ _ _
              · exact (((hw4.setCell (by simp) _).setCell (by simp) _).setCell (by simp) _).setCell (by simp) _
            |true=>
              have hsome:resAll s=some ([m0,m1,m2],P):=by rw [HV.out,hv];rfl
              obtain ⟨ho1,ho2⟩:=out_some hsome (.slice uq un uc)
              go_wp2_with fail
              refine bodyPost_ret (v:=.tuple #[.agg #[.int .i64 m0,.int .i64 m1,.int .i64 m2,.slice uq un uc],.bool true]) (by simp [results,Tryz.results128,go_sem,p0,p1,p2,p3]) rfl ⟨.slice uq un uc,by rw [ho1];rfl,?_,?_⟩
              · rw [ho2]
                exact owns_lower (owns_set (owns_set (owns_set (owns_set RP4 (p:=⟨w.heap.size,0,none⟩) (by simp;omega) (.int .i64 m0)) (p:=⟨w.heap.size,1,none⟩) (by simp;omega) (.int .i64 m1)) (p:=⟨w.heap.size,2,none⟩) (by simp;omega) (.int .i64 m2)) (p:=⟨w.heap.size,3,none⟩) (by simp;omega) (.slice uq un uc)) (by omega)
              · exact (((hw4.setCell (by simp) _).setCell (by simp) _).setCell (by simp) _).setCell (by simp) _
        · have hnone:resAll s=none:=by rw [res_spec s k hk HD.out hh.out L P HL.out HP.out,if_neg (by simp [h3])]
          have h3':((L.length:Int) != 3)=true:=by simp;omega
          obtain ⟨vq,vc,hvl⟩: ∃ q c,vl=.slice q L.length c:=by obtain ⟨q,c,h,_⟩:=reads_of_owns o2;exact ⟨q,c,by simpa using h⟩
          subst hvl
          clear o2 y0 y1 y2 y3 fy
          obtain ⟨ho1,ho2⟩:=out_none hnone
          go_wp2_with fail
          refine bodyPost_ret (v:=.tuple #[.agg #[.int .i64 0,.int .i64 0,.int .i64 0,.slice none 0 0],.bool false]) (by simp [results,Tryz.results128,go_sem,z0,z1,z2,z3]) rfl ⟨.slice none 0 0,by rw [ho1],?_,?_⟩
          · rw [ho2];exact World.ownsRow_nil _ _ _ _
          · exact (((hw2.setCell (by simp) _).setCell (by simp) _).setCell (by simp) _).setCell (by simp) _
      · have e45:(((s[k]).toNat:Int) != 45)=true:=by simpa using h45
        go_wp2
        go_round
        case rel => exact ⟨k + 1, by omega, by go_num, fun j hj => (by
          by_cases e : j = k
          · subst e; rw [byteBang s j hlt]; exact h45
          · exact hh.out j (by omega))⟩
        case measure=>simp [intOf];omega
    · have hki: ¬(k:Int)<(s.size:Int):=by omega
      have HD:Hid (k<s.size→((s.data[k]!).toNat:Int)=45):=fun h=>absurd h hlt
      obtain ⟨P,hP⟩: ∃ P:List ByteArray,P=[]:=⟨_,rfl⟩
      have HP:Hid (P=if k<s.size then splitS (s.extract (k+1) s.size) 46 else []):=by show _=_;rw [hP,if_neg hlt]
      have HB:Hid (bulkS P≤1048576):=by show _≤_;rw [hP];simp [bulkS]
      obtain ⟨L,hL⟩: ∃ L,L=splitS (s.extract 0 k) 46:=⟨_,rfl⟩
      have HL:Hid (L=splitS (s.extract 0 k) 46):=hL
      have hLz:(s.extract 0 k).size=k:=by rw [vsize s 0 k (Nat.zero_le _) (by omega)];omega
      have HLB:Hid (bulkS L≤1048577):=by show _≤_;rw [hL,vsplitS_bulk,hLz];omega
      have HSL:Hid (∀ w1,Calls Tryz.prog 127 #[.string (s.extract 0 k),.int .u8 46] w1 fun e w'=>∃ v,e=.returned v∧w'.ownsRow w1.heap.size 9 1 v L.length (strsV L)∧Below w1.heap.size w1 w'):=fun w1=>by rw [hL];exact specSplit_c (s.extract 0 k) 46 w1 (by rw [hLz];omega)
      clear hL hLz
      have A1:=A0
      have B1:=B0
      have hB1:=hbW
      generalize ((w.alloc (.cells #[.int .i64 0,.int .i64 0,.int .i64 0,.slice none 0 0] 30)).alloc (.cells #[.int .i64 0,.int .i64 0,.int .i64 0,.slice none 0 0] 30))=W1 at A1 B1 hB1 ⊢
      have RP:W1.ownsRow (w.heap.size+1+1) 9 1 (.slice none 0 0) P.length (strsV P):=by rw [hP];exact World.ownsRow_nil _ _ _ _
      have HPB:Hid (∀ bl,(Value.slice none 0 0).ownBlock=some bl→w.heap.size+1<bl):=fun bl h=>by simp [Value.ownBlock] at h
      clear A0 B0 hbW hP
      go_wp2_with fail
      generalize (Value.slice none 0 0)=uP at B1 RP HPB
      obtain ⟨x0,x1,x2,x3⟩:=A1.cells
      have f1:=A1.frozen
      go_at_call 127
      refine (HSL.out W1).mono ?_
      rintro e w2 ⟨vl,rfl,o2,b2⟩
      have A2:=A1.keep b2
      have B2:=B1.keep b2
      have RP2:=owns_of_below RP b2
      have hw2:=hB1.trans (b2.mono hB1.size)
      obtain ⟨z0,z1,z2,z3⟩:=A2.cells
      have fz:=A2.frozen
      obtain ⟨y0,y1,y2,y3⟩:=B2.cells
      have fy:=B2.frozen
      clear A1 B1 RP x0 x1 x2 x3 f1 HSL b2
      by_cases h3:L.length=3
      · obtain ⟨t0,t1,t2,hL3⟩:=three_of h3
        have hlz: ∀ t∈L,t.size≤maxLen:=fun t ht=>by have:=size_of_bulk ht;have:=HLB.out;unfold maxLen;omega
        have hall:resAll s=if L.all (fun t=>numGood t 9999)&&decide (L.length=3)&&P.all partB&&decide (P.length≤3) then some (L.map (fun t=>numOut t 9999),P) else none:=res_spec s k hk HD.out hh.out L P HL.out HP.out
        subst hL3
        have hz0:=hlz t0 (by simp)
        have hz1:=hlz t1 (by simp)
        have hz2:=hlz t2 (by simp)
        obtain ⟨gl,cl,hvl⟩: ∃ g cap,vl=.slice (some ⟨g,0,none⟩) 3 cap:=by
          rcases o2.2 with ⟨_,h⟩|⟨g,cap,cur,hv,_⟩
          · simp at h
          · exact ⟨g,cap,hv⟩
        subst hvl
        have l0:w2.cell? ⟨gl,0,none⟩=some (.string t0):=by rw [o2.cellAt 0 (by simp)];rfl
        have l1:w2.cell? ⟨gl,1,none⟩=some (.string t1):=by rw [o2.cellAt 1 (by simp)];rfl
        have l2:w2.cell? ⟨gl,2,none⟩=some (.string t2):=by rw [o2.cellAt 2 (by simp)];rfl
        have hall2:resAll s=if numGood t0 9999&&(numGood t1 9999&&numGood t2 9999)&&P.all partB&&decide (P.length≤3) then some ([numOut t0 9999,numOut t1 9999,numOut t2 9999],P) else none:=by rw [hall];simp
        have HALL:Hid (resAll s=if numGood t0 9999&&(numGood t1 9999&&numGood t2 9999)&&P.all partB&&decide (P.length≤3) then some ([numOut t0 9999,numOut t1 9999,numOut t2 9999],P) else none):=hall2
        obtain ⟨m0,hm0⟩: ∃ m,m=numOut t0 9999:=⟨_,rfl⟩
        obtain ⟨m1,hm1⟩: ∃ m,m=numOut t1 9999:=⟨_,rfl⟩
        obtain ⟨m2,hm2⟩: ∃ m,m=numOut t2 9999:=⟨_,rfl⟩
        have N0:Hid (∀ w1,Calls Tryz.prog 200 #[.string t0,.int .i64 9999] w1 fun e w'=>e=.returned (.tuple #[.int .i64 m0,.bool (numGood t0 9999)])∧w1=w'):=fun w1=>by rw [hm0];exact specNum_c t0 9999 hz0 w1
        have N1:Hid (∀ w1,Calls Tryz.prog 200 #[.string t1,.int .i64 9999] w1 fun e w'=>e=.returned (.tuple #[.int .i64 m1,.bool (numGood t1 9999)])∧w1=w'):=fun w1=>by rw [hm1];exact specNum_c t1 9999 hz1 w1
        have N2:Hid (∀ w1,Calls Tryz.prog 200 #[.string t2,.int .i64 9999] w1 fun e w'=>e=.returned (.tuple #[.int .i64 m2,.bool (numGood t2 9999)])∧w1=w'):=fun w1=>by rw [hm2];exact specNum_c t2 9999 hz2 w1
        have I0:Hid (numGood t0 9999=true→inB m0 0 9999=true):=fun h=>by rw [hm0];exact num_in h
        have I1:Hid (numGood t1 9999=true→inB m1 0 9999=true):=fun h=>by rw [hm1];exact num_in h
        have I2:Hid (numGood t2 9999=true→inB m2 0 9999=true):=fun h=>by rw [hm2];exact num_in h
        rw [←hm0, ←hm1, ←hm2] at HALL
        have B3:=(four_set ((four_set ((four_set B2 (.int .i64 m0)).1) (.int .i64 m1)).2.1) (.int .i64 m2)).2.2.1
        have A3:Four (((w2.setCell ⟨w.heap.size+1,0,none⟩ (.int .i64 m0)).setCell ⟨w.heap.size+1,1,none⟩ (.int .i64 m1)).setCell ⟨w.heap.size+1,2,none⟩ (.int .i64 m2)) w.heap.size 30 (.int .i64 0) (.int .i64 0) (.int .i64 0) (.slice none 0 0):=
          ((Only.set (R:=w.heap.size+1) (base:=w.heap.size+1) w2 0 (.int .i64 m0)).trans ((Only.set _ 1 (.int .i64 m1)).trans (Only.set _ 2 (.int .i64 m2)))).four A2 (by omega) (by omega)
        have hw3:Below w.heap.size w (((w2.setCell ⟨w.heap.size+1,0,none⟩ (.int .i64 m0)).setCell ⟨w.heap.size+1,1,none⟩ (.int .i64 m1)).setCell ⟨w.heap.size+1,2,none⟩ (.int .i64 m2)):=((hw2.setCell (by simp) _).setCell (by simp) _).setCell (by simp) _
        have RP3:=owns_set (owns_set (owns_set RP2 (p:=⟨w.heap.size+1,0,none⟩) (by simp) (.int .i64 m0)) (p:=⟨w.heap.size+1,1,none⟩) (by simp) (.int .i64 m1)) (p:=⟨w.heap.size+1,2,none⟩) (by simp) (.int .i64 m2)
        obtain ⟨uq,un,uc,hup⟩: ∃ q n c,uP=.slice q n c:=by obtain ⟨q,c,h,_⟩:=reads_of_owns RP2;exact ⟨_,_,_,h⟩
        subst hup
        clear hall hall2 hm0 hm1 hm2 hlz o2 HL HP RP2 HD hh
        go_wp2_with fail
        go_at_call 200
        refine (N0.out _).mono ?_
        rintro e w' ⟨rfl,rfl⟩
        go_wp2_with fail
        go_at_call 200
        refine (N1.out _).mono ?_
        rintro e w' ⟨rfl,rfl⟩
        go_wp2_with fail
        go_at_call 200
        refine (N2.out _).mono ?_
        rintro e w' ⟨rfl,rfl⟩
        clear N0 N1 N2
        obtain ⟨a0,a1,a2,a3⟩:=A3.cells
        have fa:=A3.frozen
        obtain ⟨b0,b1,b2,b3⟩:=B3.cells
        clear l0 l1 l2
        cases hg0:numGood t0 9999 with
        |false=>
          have hnone:resAll s=none:=by rw [HALL.out,hg0];rfl
          obtain ⟨ho1,ho2⟩:=out_none hnone
          go_wp2_with fail
          refine bodyPost_ret (v:=.tuple #[.agg #[.int .i64 0,.int .i64 0,.int .i64 0,.slice none 0 0],.bool false]) (by simp [results,Tryz.results128,go_sem,a0,a1,a2,a3]) rfl ⟨.slice none 0 0,by rw [ho1],?_,?_⟩
          · rw [ho2];exact World.ownsRow_nil _ _ _ _
          · exact (((hw3.setCell (by simp) _).setCell (by simp) _).setCell (by simp) _).setCell (by simp) _
        |true=>
        cases hg1:numGood t1 9999 with
        |false=>
          have hnone:resAll s=none:=by rw [HALL.out,hg0,hg1];rfl
          obtain ⟨ho1,ho2⟩:=out_none hnone
          go_wp2_with fail
          refine bodyPost_ret (v:=.tuple #[.agg #[.int .i64 0,.int .i64 0,.int .i64 0,.slice none 0 0],.bool false]) (by simp [results,Tryz.results128,go_sem,a0,a1,a2,a3]) rfl ⟨.slice none 0 0,by rw [ho1],?_,?_⟩
          · rw [ho2];exact World.ownsRow_nil _ _ _ _
          · exact (((hw3.setCell (by simp) _).setCell (by simp) _).setCell (by simp) _).setCell (by simp) _
        |true=>
        cases hg2:numGood t2 9999 with
        |false=>
          have hnone:resAll s=none:=by rw [HALL.out,hg0,hg1,hg2];rfl
          obtain ⟨ho1,ho2⟩:=out_none hnone
          go_wp2_with fail
          refine bodyPost_ret (v:=.tuple #[.agg #[.int .i64 0,.int .i64 0,.int .i64 0,.slice none 0 0],.bool false]) (by simp [results,Tryz.results128,go_sem,a0,a1,a2,a3]) rfl ⟨.slice none 0 0,by rw [ho1],?_,?_⟩
          · rw [ho2];exact World.ownsRow_nil _ _ _ _
          · exact (((hw3.setCell (by simp) _).setCell (by simp) _).setCell (by simp) _).setCell (by simp) _
        |true=>
          have HV:Hid (resAll s=if verB m0 m1 m2 P then some ([m0,m1,m2],P) else none):=by
            show _=_
            rw [HALL.out,hg0,hg1,hg2,verB,parts_all,I0.out hg0,I1.out hg1,I2.out hg2]
            simp
          go_wp2_with fail
          go_at_call 95
          refine (specVerOk_c m0 m1 m2 _ P _ (reads_of_owns RP3) HB.out).mono ?_
          rintro e w4 ⟨rfl,b4⟩
          have A4:=A3.keep b4
          have B4:=B3.keep b4
          have RP4:=owns_of_below RP3 b4
          have hw4:=hw3.trans (b4.mono hw3.size)
          obtain ⟨p0,p1,p2,p3⟩:=A4.cells
          have fp:=A4.frozen
          obtain ⟨q0,q1,q2,q3⟩:=B4.cells
          clear a0 a1 a2 a3 fa b0 b1 b2 b3 A3 B3 RP3 hw3 HALL b4 I0 I1 I2
          cases hv:verB m0 m1 m2 P with
          |false=>
            have hnone:resAll s=none:=by rw [HV.out,hv];rfl
            obtain ⟨ho1,ho2⟩:=out_none hnone
            go_wp2_with fail
            refine bodyPost_ret (v:=.tuple #[.agg #[.int .i64 0,.int .i64 0,.int .i64 0,.slice none 0 0],.bool false]) (by simp [results,Tryz.results128,go_sem,p0,p1,p2,p3]) rfl ⟨.slice none 0 0,by rw [ho1],?_,?_⟩
            · rw [ho2];exact World.ownsRow_nil _ _ _ _
            · exact (((hw4.setCell (by simp) _).setCell (by simp) _).setCell (by simp) _).setCell (by simp) _
          |true=>
            have hsome:resAll s=some ([m0,m1,m2],P):=by rw [HV.out,hv];rfl
            obtain ⟨ho1,ho2⟩:=out_some hsome (.slice uq un uc)
            go_wp2_with fail
            refine bodyPost_ret (v:=.tuple #[.agg #[.int .i64 m0,.int .i64 m1,.int .i64 m2,.slice uq un uc],.bool true]) (by simp [results,Tryz.results128,go_sem,p0,p1,p2,p3]) rfl ⟨.slice uq un uc,by rw [ho1];rfl,?_,?_⟩
            · rw [ho2]
              exact owns_lower (owns_set (owns_set (owns_set (owns_set RP4 (p:=⟨w.heap.size,0,none⟩) (by simp;omega) (.int .i64 m0)) (p:=⟨w.heap.size,1,none⟩) (by simp;omega) (.int .i64 m1)) (p:=⟨w.heap.size,2,none⟩) (by simp;omega) (.int .i64 m2)) (p:=⟨w.heap.size,3,none⟩) (by simp;omega) (.slice uq un uc)) (by omega)
            · exact (((hw4.setCell (by simp) _).setCell (by simp) _).setCell (by simp) _).setCell (by simp) _
      · have hnone:resAll s=none:=by rw [res_spec s k hk HD.out hh.out L P HL.out HP.out,if_neg (by simp [h3])]
        have h3':((L.length:Int) != 3)=true:=by simp;omega
        obtain ⟨vq,vc,hvl⟩: ∃ q c,vl=.slice q L.length c:=by obtain ⟨q,c,h,_⟩:=reads_of_owns o2;exact ⟨q,c,by simpa using h⟩
        subst hvl
        clear o2 y0 y1 y2 y3 fy
        obtain ⟨ho1,ho2⟩:=out_none hnone
        go_wp2_with fail
        refine bodyPost_ret (v:=.tuple #[.agg #[.int .i64 0,.int .i64 0,.int .i64 0,.slice none 0 0],.bool false]) (by simp [results,Tryz.results128,go_sem,z0,z1,z2,z3]) rfl ⟨.slice none 0 0,by rw [ho1],?_,?_⟩
        · rw [ho2];exact World.ownsRow_nil _ _ _ _
        · exact (((hw2.setCell (by simp) _).setCell (by simp) _).setCell (by simp) _).setCell (by simp) _
end Go.Proofs.YtlfmefojcmpfeaaGreatDoor
