/-
  Contracts for the walks and pure facts, several texts in one: each theorem says what it proves, and under which conditions.
-/
import Derived.Test.YtlfmefojcmpfeaaGreatDoorUT
import Derived.Test.YtlfmefojcmpfeaaGreatDoorU29
set_option linter.unusedSimpArgs false
set_option linter.unusedVariables false
set_option maxHeartbeats 16000000
set_option maxRecDepth 100000
namespace Go.Proofs.YtlfmefojcmpfeaaGreatDoor
open Go.RowKit
theorem specReg_c (S:Nat→Prop) (v:Value) (xs:List EntryD) (w:World) (hv:RowIn shEntry S w v xs) (hB: ∀ b,S b→b<w.heap.size) (hw:wtRow wtEntry xs≤1048576):
  Calls Tryz.prog 26 #[v] w fun e w'=>e=.returned (.bool (regB xs))∧Below w.heap.size w w':=by
 have hwe: ∀ d∈xs,wtEntry d≤1048576:=fun d hd=>by have:=wt_wtRow wtEntry hd;omega
 have hwb: ∀ d∈xs,bulkS d.vP≤1048576:=fun d hd=>by have:=hwe d hd;unfold wtEntry at this;omega
 obtain ⟨a,cap,rfl,hl,hc,ha⟩:=hv
 unfold maxLen at hl
 obtain ⟨Q,hQ⟩: ∃ R,R=relB entB entLess xs:=⟨_,rfl⟩
 unfold regB
 rw [←hQ]
 have HQ:=hidden hQ
 clear hQ
 go_enter Tryz.func26,Tryz.ntmps26
 go_wp2_with fail
 go_loopw [3] (fun vi wr=>∃ k:Nat,k≤xs.length∧vi=.int .i64 (k:Int)∧Hid (relUpto entB entLess xs k=true)∧Below w.heap.size w wr) (fun vi _=>xs.length-(intOf vi).toNat)
 case atStart=>exact ⟨0,Nat.zero_le _,rfl,rfl,Below.refl _ _⟩
 case round=>
  obtain ⟨k,hk,rfl,hh,hbr⟩:=hrel
  by_cases hlt':k<xs.length
  ·rcases ha with rfl|⟨b,off,rfl,hlt,ha⟩
   ·simp at hlt'
   have hbb:b<wr.heap.size:=Nat.lt_of_lt_of_le (hB b hlt) hbr.size
   have hBr: ∀ b,S b→b<wr.heap.size:=fun b h=>Nat.lt_of_lt_of_le (hB b h) hbr.size
   obtain ⟨cs,hL,hcell⟩:=ha k hlt'
   replace hL:=shEntry.keep (.of hbr hB) hL
   replace hcell:=hcell.keep (.of hbr hB) hlt
   have HB:Hid (relOk entB entLess xs[k] (preX xs k)=false→Q=false):=fun h=>HQ.out.trans (relUpto_bad hlt' h _ hlt')
   have HG:Hid (relOk entB entLess xs[k] (preX xs k)=true→relUpto entB entLess xs (k+1)=true):=fun h=>relUpto_step hlt' hh.out h
   have hpv: ∀ j,k=j+1→∃ c ycs,preX xs k=some c∧shEntry.lies S wr ycs c∧CellsAt wr b (off+j*6) ycs∧bulkS c.vP≤1048576:=fun j hj=>by
    subst hj
    have hj':j<xs.length:=by omega
    obtain ⟨cs',hL',hcell'⟩:=ha j hj'
    exact ⟨xs[j],cs',by rw [preX,List.getElem?_eq_getElem hj'],shEntry.keep (.of hbr hB) hL',hcell'.keep (.of hbr hB) hlt,hwb _ (List.getElem_mem _)⟩
   obtain ⟨o,ho⟩: ∃ o,o=preX xs k:=⟨_,rfl⟩
   rw [←ho] at HB HG hpv
   have h0o:k=0→o=none:=fun h=>by subst h;exact ho
   have hwk:=hwe xs[k] (List.getElem_mem hlt')
   have hbk:=hwb xs[k] (List.getElem_mem hlt')
   obtain ⟨d,hd⟩: ∃ d,d=xs[k]:=⟨_,rfl⟩
   rw [←hd] at hL HB HG hwk hbk
   have hLd:=hL
   obtain ⟨u0,u1,ecs,s_n,r0,p0,r1⟩:=hL
   have hnw: ∀ x∈d.needs,x.r.size≤1048576:=fun x hx=>by
    have h1:x.n.size+x.r.size≤wtRow wtNeed d.needs:=wt_wtRow wtNeed hx
    unfold wtEntry at hwk
    omega
   have HN:=fun w1=>specName_c d.name s_n w1
   have H1: ∀ w1,Below wr.heap.size wr w1→Calls Tryz.prog 95 #[.agg #[.int .i64 d.vA,.int .i64 d.vB,.int .i64 d.vC,u0]] w1 fun e w'=>e=.returned (.bool (verB d.vA d.vB d.vC d.vP))∧Below w1.heap.size w1 w':=fun w1 h=>specVerOk_c _ _ _ u0 d.vP w1 ((r0.keep (.of h hBr)).reads (fun b hb=>Nat.lt_of_lt_of_le (hBr b hb) h.size)) hbk
   have H2: ∀ w1,Below wr.heap.size wr w1→Calls Tryz.prog 96 #[u1] w1 fun e w'=>e=.returned (.bool (needsB d.needs))∧Below w1.heap.size w1 w':=fun w1 h=>specNeeds_c S u1 d.needs w1 (r1.keep (.of h hBr)) (fun b hb=>Nat.lt_of_lt_of_le (hBr b hb) h.size) hnw
   have H3': ∀ c ycs,shEntry.lies S wr ycs c→bulkS c.vP≤1048576→∀ w1,Below wr.heap.size wr w1→Calls Tryz.prog 97 #[.agg ycs.toArray,.agg cs.toArray] w1 fun e w'=>e=.returned (.bool (entLess c d))∧Below w1.heap.size w1 w':=fun c ycs hc9 hb9 w1 h=>l8Less_c S S c d ycs cs w1 (shEntry.keep (.of h hBr) hc9) (shEntry.keep (.of h hBr) hLd) (fun b hb=>Nat.lt_of_lt_of_le (hBr b hb) h.size) (fun b hb=>Nat.lt_of_lt_of_le (hBr b hb) h.size) hb9 hbk
   have EB:entB d=(nameB d.name&&(verB d.vA d.vB d.vC d.vP&&needsB d.needs)):=rfl
   obtain ⟨p,hp⟩: ∃ p,p=nameB d.name:=⟨_,rfl⟩
   obtain ⟨q,hq⟩: ∃ p,p=verB d.vA d.vB d.vC d.vP:=⟨_,rfl⟩
   obtain ⟨r,hr⟩: ∃ p,p=needsB d.needs:=⟨_,rfl⟩
   rw [←hp, ←hq, ←hr] at EB
   simp only [←hp] at HN
   simp only [←hq] at H1
   simp only [←hr] at H2
   replace HN:=hidden HN
   replace H1:=hidden H1
   replace H2:=hidden H2
   replace H3':=hidden H3'
   replace EB:=hidden EB
   subst ecs
   obtain ⟨a0,cap0,eu0,_⟩:=id r0
   rw [length_strsV] at eu0
   subst eu0
   clear r0
   obtain ⟨a1,cap1,eu1,_⟩:=id r1
   subst eu1
   clear r1
   have hki:(k:Int)<(xs.length:Int):=by omega
   have hd0:Below wr.heap.size wr wr.drew:=(Below.refl _ _).drew
   have e0:wr.cell? ⟨b,off+k*6,none⟩=some (.string d.name):=hcell 0 (by simp)
   have e1:wr.cell? ⟨b,off+k*6+1,none⟩=some (.int .i64 d.vA):=hcell 1 (by simp)
   have e2:wr.cell? ⟨b,off+k*6+2,none⟩=some (.int .i64 d.vB):=hcell 2 (by simp)
   have e3:wr.cell? ⟨b,off+k*6+3,none⟩=some (.int .i64 d.vC):=hcell 3 (by simp)
   have e4:wr.cell? ⟨b,off+k*6+4,none⟩=some (.slice a0 d.vP.length cap0):=hcell 4 (by simp)
   have e5:wr.cell? ⟨b,off+k*6+5,none⟩=some (.slice a1 d.needs.length cap1):=hcell 5 (by simp)
   clear ha hd ho hh hcell HQ s_n p0 hwe hwb hwk hbk hnw hp hq hr hLd
   cases p with
   |false=>
    clear h0o hpv H3' H1 H2
    have KEEP:Hid (∀ w1,Below wr.heap.size wr w1→w1.cell? ⟨b,off+k*6,none⟩=some (.string d.name)∧w1.cell? ⟨b,off+k*6+1,none⟩=some (.int .i64 d.vA)∧w1.cell? ⟨b,off+k*6+2,none⟩=some (.int .i64 d.vB)∧w1.cell? ⟨b,off+k*6+3,none⟩=some (.int .i64 d.vC)∧w1.cell? ⟨b,off+k*6+4,none⟩=some (.slice a0 d.vP.length cap0)∧w1.cell? ⟨b,off+k*6+5,none⟩=some (.slice a1 d.needs.length cap1)):=fun w1 h=>⟨(h.cell (by simpa using hbb)).trans e0,(h.cell (by simpa using hbb)).trans e1,(h.cell (by simpa using hbb)).trans e2,(h.cell (by simpa using hbb)).trans e3,(h.cell (by simpa using hbb)).trans e4,(h.cell (by simpa using hbb)).trans e5⟩
    clear e0 e1 e2 e3 e4 e5
    go_wp2_with fail
    refine wp_region_held_drew (S:=(fun w'=>w'.cell? ⟨b,off+k*6,none⟩=some (.string d.name)∧w'.cell? ⟨b,off+k*6+1,none⟩=some (.int .i64 d.vA)∧w'.cell? ⟨b,off+k*6+2,none⟩=some (.int .i64 d.vB)∧w'.cell? ⟨b,off+k*6+3,none⟩=some (.int .i64 d.vC)∧w'.cell? ⟨b,off+k*6+4,none⟩=some (.slice a0 d.vP.length cap0)∧w'.cell? ⟨b,off+k*6+5,none⟩=some (.slice a1 d.needs.length cap1))) (by kernel_rfl) ?SR10 (fun hHeld=>?_)
    case SR10=>(first|(with_reducible exact KEEP.out _ hd3)|(with_reducible exact KEEP.out _ hd2)|(with_reducible exact KEEP.out _ hd1)|(with_reducible exact KEEP.out _ hd0))
    refine tk 0 hHeld (h:=?_)
    refine tk 1 hHeld (h:=?_)
    refine tk 2 hHeld (h:=?_)
    refine tk 3 hHeld (h:=?_)
    refine tk 4 hHeld (h:=?_)
    refine wpAnyH_ready (rs:=[5]) (by kernel_rfl) (by simp) ?_
    refine AllReadyH.cons rfl (fun K hK=>?_) AllReadyH.nil
    go_simp
    go_wp2_with (go_at_call 94;refine (HN.out _).mono ?_;rintro e w' ⟨rfl,rfl⟩)
    clear hHeld
    refine hK.out _ _ ?SR16 (fun hHeld=>?_)
    case SR16=>((try dsimp only);first|(with_reducible exact KEEP.out _ hd3)|(with_reducible exact KEEP.out _ hd2)|(with_reducible exact KEEP.out _ hd1)|(with_reducible exact KEEP.out _ hd0))
    clear hK K
    refine tk 6 hHeld (h:=?_)
    refine tk 7 hHeld (h:=?_)
    refine tk 8 hHeld (v:=undef) (hy:=Or.inr ⟨by rfl,rfl⟩) (h:=?_)
    refine tk 9 hHeld (v:=undef) (hy:=Or.inr ⟨by rfl,rfl⟩) (h:=?_)
    refine tk 10 hHeld (v:=undef) (hy:=Or.inr ⟨by rfl,rfl⟩) (h:=?_)
    refine tk 11 hHeld (v:=undef) (hy:=Or.inr ⟨by rfl,rfl⟩) (h:=?_)
    refine tk 12 hHeld (v:=undef) (hy:=Or.inr ⟨by rfl,rfl⟩) (h:=?_)
    refine tk 13 hHeld (v:=undef) (hy:=Or.inr ⟨by rfl,rfl⟩) (h:=?_)
    refine tk 14 hHeld (v:=undef) (hy:=Or.inr ⟨by rfl,rfl⟩) (h:=?_)
    refine tk 15 hHeld (h:=?_)
    refine tk 16 hHeld (h:=?_)
    refine tk 17 hHeld (v:=undef) (hy:=Or.inr ⟨by rfl,rfl⟩) (h:=?_)
    refine tk 18 hHeld (v:=undef) (hy:=Or.inr ⟨by rfl,rfl⟩) (h:=?_)
    refine tk 19 hHeld (v:=undef) (hy:=Or.inr ⟨by rfl,rfl⟩) (h:=?_)
    refine tk 20 hHeld (v:=undef) (hy:=Or.inr ⟨by rfl,rfl⟩) (h:=?_)
    refine tk 21 hHeld (v:=undef) (hy:=Or.inr ⟨by rfl,rfl⟩) (h:=?_)
    refine tk 22 hHeld (v:=undef) (hy:=Or.inr ⟨by rfl,rfl⟩) (h:=?_)
    refine tk 23 hHeld (v:=undef) (hy:=Or.inr ⟨by rfl,rfl⟩) (h:=?_)
    refine tk 24 hHeld (h:=?_)
    refine tk 25 hHeld (h:=?_)
    refine tk 26 hHeld (v:=undef) (hy:=Or.inr ⟨by rfl,rfl⟩) (h:=?_)
    refine tk 27 hHeld (v:=undef) (hy:=Or.inr ⟨by rfl,rfl⟩) (h:=?_)
    refine tk 28 hHeld (v:=undef) (hy:=Or.inr ⟨by rfl,rfl⟩) (h:=?_)
    refine tk 29 hHeld (v:=undef) (hy:=Or.inr ⟨by rfl,rfl⟩) (h:=?_)
    refine tk 30 hHeld (v:=undef) (hy:=Or.inr ⟨by rfl,rfl⟩) (h:=?_)
    refine tk 31 hHeld (v:=undef) (hy:=Or.inr ⟨by rfl,rfl⟩) (h:=?_)
    refine tk 32 hHeld (v:=undef) (hy:=Or.inr ⟨by rfl,rfl⟩) (h:=?_)
    refine tk 33 hHeld (v:=undef) (hy:=Or.inr ⟨by rfl,rfl⟩) (h:=?_)
    refine tk 34 hHeld (v:=undef) (hy:=Or.inr ⟨by rfl,rfl⟩) (h:=?_)
    refine tk 35 hHeld (v:=undef) (hy:=Or.inr ⟨by rfl,rfl⟩) (h:=?_)
    refine tk 36 hHeld (v:=undef) (hy:=Or.inr ⟨by rfl,rfl⟩) (h:=?_)
    refine tk 37 hHeld (v:=undef) (hy:=Or.inr ⟨by rfl,rfl⟩) (h:=?_)
    refine tk 38 hHeld (v:=undef) (hy:=Or.inr ⟨by rfl,rfl⟩) (h:=?_)
    refine tk 39 hHeld (v:=undef) (hy:=Or.inr ⟨by rfl,rfl⟩) (h:=?_)
    refine tk 40 hHeld (v:=undef) (hy:=Or.inr ⟨by rfl,rfl⟩) (h:=?_)
    refine tk 41 hHeld (h:=?_)
    refine wpAnyH_done (by kernel_rfl) ?_ _
    go_wp2_with fail
    go_ret
    exact ⟨by rw [HB.out (relOk_no EB.out)];rfl,hbr.trans (hd0.mono hbr.size)⟩
   |true=>
    cases q with
    |false=>
     clear h0o hpv H3' H2
     have KEEP:Hid (∀ w1,Below wr.heap.size wr w1→w1.cell? ⟨b,off+k*6,none⟩=some (.string d.name)∧w1.cell? ⟨b,off+k*6+1,none⟩=some (.int .i64 d.vA)∧w1.cell? ⟨b,off+k*6+2,none⟩=some (.int .i64 d.vB)∧w1.cell? ⟨b,off+k*6+3,none⟩=some (.int .i64 d.vC)∧w1.cell? ⟨b,off+k*6+4,none⟩=some (.slice a0 d.vP.length cap0)∧w1.cell? ⟨b,off+k*6+5,none⟩=some (.slice a1 d.needs.length cap1)):=fun w1 h=>⟨(h.cell (by simpa using hbb)).trans e0,(h.cell (by simpa using hbb)).trans e1,(h.cell (by simpa using hbb)).trans e2,(h.cell (by simpa using hbb)).trans e3,(h.cell (by simpa using hbb)).trans e4,(h.cell (by simpa using hbb)).trans e5⟩
     clear e0 e1 e2 e3 e4 e5
     go_wp2_with fail
     refine wp_region_held_drew (S:=(fun w'=>w'.cell? ⟨b,off+k*6,none⟩=some (.string d.name)∧w'.cell? ⟨b,off+k*6+1,none⟩=some (.int .i64 d.vA)∧w'.cell? ⟨b,off+k*6+2,none⟩=some (.int .i64 d.vB)∧w'.cell? ⟨b,off+k*6+3,none⟩=some (.int .i64 d.vC)∧w'.cell? ⟨b,off+k*6+4,none⟩=some (.slice a0 d.vP.length cap0)∧w'.cell? ⟨b,off+k*6+5,none⟩=some (.slice a1 d.needs.length cap1))) (by kernel_rfl) ?SR20 (fun hHeld=>?_)
     case SR20=>(first|(with_reducible exact KEEP.out _ hd3)|(with_reducible exact KEEP.out _ hd2)|(with_reducible exact KEEP.out _ hd1)|(with_reducible exact KEEP.out _ hd0))
     refine tk 0 hHeld (h:=?_)
     refine tk 1 hHeld (h:=?_)
     refine tk 2 hHeld (h:=?_)
     refine tk 3 hHeld (h:=?_)
     refine tk 4 hHeld (h:=?_)
     refine wpAnyH_ready (rs:=[5]) (by kernel_rfl) (by simp) ?_
     refine AllReadyH.cons rfl (fun K hK=>?_) AllReadyH.nil
     go_simp
     go_wp2_with (go_at_call 94;refine (HN.out _).mono ?_;rintro e w' ⟨rfl,rfl⟩)
     clear hHeld
     refine hK.out _ _ ?SR26 (fun hHeld=>?_)
     case SR26=>((try dsimp only);first|(with_reducible exact KEEP.out _ hd3)|(with_reducible exact KEEP.out _ hd2)|(with_reducible exact KEEP.out _ hd1)|(with_reducible exact KEEP.out _ hd0))
     clear hK K
     refine tk 6 hHeld (h:=?_)
     refine tk 7 hHeld (h:=?_)
     refine tk 8 hHeld (h:=?_)
     refine tk 9 hHeld (h:=?_)
     refine tk 10 hHeld (h:=?_)
     refine tk 11 hHeld (h:=?_)
     refine tk 12 hHeld (h:=?_)
     refine wpAnyH_ready (rs:=[13]) (by kernel_rfl) (by simp) ?_
     refine AllReadyH.cons rfl (fun K hK=>?_) AllReadyH.nil
     go_simp
     go_wp2_with (go_at_call 95;refine (H1.out _ hd0).mono ?_;rintro e w1 ⟨rfl,b1⟩;have hd1:Below wr.heap.size wr w1:=hd0.trans (b1.mono hd0.size))
     clear hHeld
     refine hK.out _ _ ?SR214 (fun hHeld=>?_)
     case SR214=>((try dsimp only);first|(with_reducible exact KEEP.out _ hd3)|(with_reducible exact KEEP.out _ hd2)|(with_reducible exact KEEP.out _ hd1)|(with_reducible exact KEEP.out _ hd0))
     clear hK K
     refine tk 14 hHeld (h:=?_)
     refine tk 15 hHeld (h:=?_)
     refine tk 16 hHeld (h:=?_)
     refine tk 17 hHeld (v:=undef) (hy:=Or.inr ⟨by rfl,rfl⟩) (h:=?_)
     refine tk 18 hHeld (v:=undef) (hy:=Or.inr ⟨by rfl,rfl⟩) (h:=?_)
     refine tk 19 hHeld (v:=undef) (hy:=Or.inr ⟨by rfl,rfl⟩) (h:=?_)
     refine tk 20 hHeld (v:=undef) (hy:=Or.inr ⟨by rfl,rfl⟩) (h:=?_)
     refine tk 21 hHeld (v:=undef) (hy:=Or.inr ⟨by rfl,rfl⟩) (h:=?_)
     refine tk 22 hHeld (v:=undef) (hy:=Or.inr ⟨by rfl,rfl⟩) (h:=?_)
     refine tk 23 hHeld (v:=undef) (hy:=Or.inr ⟨by rfl,rfl⟩) (h:=?_)
     refine tk 24 hHeld (h:=?_)
     refine tk 25 hHeld (h:=?_)
     refine tk 26 hHeld (v:=undef) (hy:=Or.inr ⟨by rfl,rfl⟩) (h:=?_)
     refine tk 27 hHeld (v:=undef) (hy:=Or.inr ⟨by rfl,rfl⟩) (h:=?_)
     refine tk 28 hHeld (v:=undef) (hy:=Or.inr ⟨by rfl,rfl⟩) (h:=?_)
     refine tk 29 hHeld (v:=undef) (hy:=Or.inr ⟨by rfl,rfl⟩) (h:=?_)
     refine tk 30 hHeld (v:=undef) (hy:=Or.inr ⟨by rfl,rfl⟩) (h:=?_)
     refine tk 31 hHeld (v:=undef) (hy:=Or.inr ⟨by rfl,rfl⟩) (h:=?_)
     refine tk 32 hHeld (v:=undef) (hy:=Or.inr ⟨by rfl,rfl⟩) (h:=?_)
     refine tk 33 hHeld (v:=undef) (hy:=Or.inr ⟨by rfl,rfl⟩) (h:=?_)
     refine tk 34 hHeld (v:=undef) (hy:=Or.inr ⟨by rfl,rfl⟩) (h:=?_)
     refine tk 35 hHeld (v:=undef) (hy:=Or.inr ⟨by rfl,rfl⟩) (h:=?_)
     refine tk 36 hHeld (v:=undef) (hy:=Or.inr ⟨by rfl,rfl⟩) (h:=?_)
     refine tk 37 hHeld (v:=undef) (hy:=Or.inr ⟨by rfl,rfl⟩) (h:=?_)
     refine tk 38 hHeld (v:=undef) (hy:=Or.inr ⟨by rfl,rfl⟩) (h:=?_)
     refine tk 39 hHeld (v:=undef) (hy:=Or.inr ⟨by rfl,rfl⟩) (h:=?_)
     refine tk 40 hHeld (v:=undef) (hy:=Or.inr ⟨by rfl,rfl⟩) (h:=?_)
     refine tk 41 hHeld (h:=?_)
     refine wpAnyH_done (by kernel_rfl) ?_ _
     go_wp2_with fail
     go_ret
     exact ⟨by rw [HB.out (relOk_no EB.out)];rfl,hbr.trans (hd1.mono hbr.size)⟩
    |true=>
     cases r with
     |false=>
      clear h0o hpv H3'
      have KEEP:Hid (∀ w1,Below wr.heap.size wr w1→w1.cell? ⟨b,off+k*6,none⟩=some (.string d.name)∧w1.cell? ⟨b,off+k*6+1,none⟩=some (.int .i64 d.vA)∧w1.cell? ⟨b,off+k*6+2,none⟩=some (.int .i64 d.vB)∧w1.cell? ⟨b,off+k*6+3,none⟩=some (.int .i64 d.vC)∧w1.cell? ⟨b,off+k*6+4,none⟩=some (.slice a0 d.vP.length cap0)∧w1.cell? ⟨b,off+k*6+5,none⟩=some (.slice a1 d.needs.length cap1)):=fun w1 h=>⟨(h.cell (by simpa using hbb)).trans e0,(h.cell (by simpa using hbb)).trans e1,(h.cell (by simpa using hbb)).trans e2,(h.cell (by simpa using hbb)).trans e3,(h.cell (by simpa using hbb)).trans e4,(h.cell (by simpa using hbb)).trans e5⟩
      clear e0 e1 e2 e3 e4 e5
      go_wp2_with fail
      refine wp_region_held_drew (S:=(fun w'=>w'.cell? ⟨b,off+k*6,none⟩=some (.string d.name)∧w'.cell? ⟨b,off+k*6+1,none⟩=some (.int .i64 d.vA)∧w'.cell? ⟨b,off+k*6+2,none⟩=some (.int .i64 d.vB)∧w'.cell? ⟨b,off+k*6+3,none⟩=some (.int .i64 d.vC)∧w'.cell? ⟨b,off+k*6+4,none⟩=some (.slice a0 d.vP.length cap0)∧w'.cell? ⟨b,off+k*6+5,none⟩=some (.slice a1 d.needs.length cap1))) (by kernel_rfl) ?SR30 (fun hHeld=>?_)
      case SR30=>(first|(with_reducible exact KEEP.out _ hd3)|(with_reducible exact KEEP.out _ hd2)|(with_reducible exact KEEP.out _ hd1)|(with_reducible exact KEEP.out _ hd0))
      refine tk 0 hHeld (h:=?_)
      refine tk 1 hHeld (h:=?_)
      refine tk 2 hHeld (h:=?_)
      refine tk 3 hHeld (h:=?_)
      refine tk 4 hHeld (h:=?_)
      refine wpAnyH_ready (rs:=[5]) (by kernel_rfl) (by simp) ?_
      refine AllReadyH.cons rfl (fun K hK=>?_) AllReadyH.nil
      go_simp
      go_wp2_with (go_at_call 94;refine (HN.out _).mono ?_;rintro e w' ⟨rfl,rfl⟩)
      clear hHeld
      refine hK.out _ _ ?SR36 (fun hHeld=>?_)
      case SR36=>((try dsimp only);first|(with_reducible exact KEEP.out _ hd3)|(with_reducible exact KEEP.out _ hd2)|(with_reducible exact KEEP.out _ hd1)|(with_reducible exact KEEP.out _ hd0))
      clear hK K
      refine tk 6 hHeld (h:=?_)
      refine tk 7 hHeld (h:=?_)
      refine tk 8 hHeld (h:=?_)
      refine tk 9 hHeld (h:=?_)
      refine tk 10 hHeld (h:=?_)
      refine tk 11 hHeld (h:=?_)
      refine tk 12 hHeld (h:=?_)
      refine wpAnyH_ready (rs:=[13]) (by kernel_rfl) (by simp) ?_
      refine AllReadyH.cons rfl (fun K hK=>?_) AllReadyH.nil
      go_simp
      go_wp2_with (go_at_call 95;refine (H1.out _ hd0).mono ?_;rintro e w1 ⟨rfl,b1⟩;have hd1:Below wr.heap.size wr w1:=hd0.trans (b1.mono hd0.size))
      clear hHeld
      refine hK.out _ _ ?SR314 (fun hHeld=>?_)
      case SR314=>((try dsimp only);first|(with_reducible exact KEEP.out _ hd3)|(with_reducible exact KEEP.out _ hd2)|(with_reducible exact KEEP.out _ hd1)|(with_reducible exact KEEP.out _ hd0))
      clear hK K
      refine tk 14 hHeld (h:=?_)
      refine tk 15 hHeld (h:=?_)
      refine tk 16 hHeld (h:=?_)
      refine tk 17 hHeld (h:=?_)
      refine tk 18 hHeld (h:=?_)
      refine tk 19 hHeld (h:=?_)
      refine tk 20 hHeld (h:=?_)
      refine tk 21 hHeld (h:=?_)
      refine wpAnyH_ready (rs:=[22]) (by kernel_rfl) (by simp) ?_
      refine AllReadyH.cons rfl (fun K hK=>?_) AllReadyH.nil
      go_simp
      go_wp2_with (go_at_call 96;refine (H2.out _ hd1).mono ?_;rintro e w2 ⟨rfl,b2⟩;have hd2:Below wr.heap.size wr w2:=hd1.trans (b2.mono hd1.size))
      clear hHeld
      refine hK.out _ _ ?SR323 (fun hHeld=>?_)
      case SR323=>((try dsimp only);first|(with_reducible exact KEEP.out _ hd3)|(with_reducible exact KEEP.out _ hd2)|(with_reducible exact KEEP.out _ hd1)|(with_reducible exact KEEP.out _ hd0))
      clear hK K
      refine tk 23 hHeld (h:=?_)
      refine tk 24 hHeld (h:=?_)
      refine tk 25 hHeld (h:=?_)
      refine tk 26 hHeld (v:=undef) (hy:=Or.inr ⟨by rfl,rfl⟩) (h:=?_)
      refine tk 27 hHeld (v:=undef) (hy:=Or.inr ⟨by rfl,rfl⟩) (h:=?_)
      refine tk 28 hHeld (v:=undef) (hy:=Or.inr ⟨by rfl,rfl⟩) (h:=?_)
      refine tk 29 hHeld (v:=undef) (hy:=Or.inr ⟨by rfl,rfl⟩) (h:=?_)
      refine tk 30 hHeld (v:=undef) (hy:=Or.inr ⟨by rfl,rfl⟩) (h:=?_)
      refine tk 31 hHeld (v:=undef) (hy:=Or.inr ⟨by rfl,rfl⟩) (h:=?_)
      refine tk 32 hHeld (v:=undef) (hy:=Or.inr ⟨by rfl,rfl⟩) (h:=?_)
      refine tk 33 hHeld (v:=undef) (hy:=Or.inr ⟨by rfl,rfl⟩) (h:=?_)
      refine tk 34 hHeld (v:=undef) (hy:=Or.inr ⟨by rfl,rfl⟩) (h:=?_)
      refine tk 35 hHeld (v:=undef) (hy:=Or.inr ⟨by rfl,rfl⟩) (h:=?_)
      refine tk 36 hHeld (v:=undef) (hy:=Or.inr ⟨by rfl,rfl⟩) (h:=?_)
      refine tk 37 hHeld (v:=undef) (hy:=Or.inr ⟨by rfl,rfl⟩) (h:=?_)
      refine tk 38 hHeld (v:=undef) (hy:=Or.inr ⟨by rfl,rfl⟩) (h:=?_)
      refine tk 39 hHeld (v:=undef) (hy:=Or.inr ⟨by rfl,rfl⟩) (h:=?_)
      refine tk 40 hHeld (v:=undef) (hy:=Or.inr ⟨by rfl,rfl⟩) (h:=?_)
      refine tk 41 hHeld (h:=?_)
      refine wpAnyH_done (by kernel_rfl) ?_ _
      go_wp2_with fail
      go_ret
      exact ⟨by rw [HB.out (relOk_no EB.out)];rfl,hbr.trans (hd2.mono hbr.size)⟩
     |true=>
      cases k with
      |zero=>
       have h1:=h0o rfl
       subst h1
       clear h0o hpv H3'
       rw [Nat.zero_mul,Nat.add_zero] at e0 e1 e2 e3 e4 e5
       have KEEP:Hid (∀ w1,Below wr.heap.size wr w1→w1.cell? ⟨b,off,none⟩=some (.string d.name)∧w1.cell? ⟨b,off+1,none⟩=some (.int .i64 d.vA)∧w1.cell? ⟨b,off+2,none⟩=some (.int .i64 d.vB)∧w1.cell? ⟨b,off+3,none⟩=some (.int .i64 d.vC)∧w1.cell? ⟨b,off+4,none⟩=some (.slice a0 d.vP.length cap0)∧w1.cell? ⟨b,off+5,none⟩=some (.slice a1 d.needs.length cap1)):=fun w1 h=>⟨(h.cell (by simpa using hbb)).trans e0,(h.cell (by simpa using hbb)).trans e1,(h.cell (by simpa using hbb)).trans e2,(h.cell (by simpa using hbb)).trans e3,(h.cell (by simpa using hbb)).trans e4,(h.cell (by simpa using hbb)).trans e5⟩
       clear e0 e1 e2 e3 e4 e5
       go_wp2_with fail
       refine wp_region_held_drew (S:=(fun w'=>w'.cell? ⟨b,off,none⟩=some (.string d.name)∧w'.cell? ⟨b,off+1,none⟩=some (.int .i64 d.vA)∧w'.cell? ⟨b,off+2,none⟩=some (.int .i64 d.vB)∧w'.cell? ⟨b,off+3,none⟩=some (.int .i64 d.vC)∧w'.cell? ⟨b,off+4,none⟩=some (.slice a0 d.vP.length cap0)∧w'.cell? ⟨b,off+5,none⟩=some (.slice a1 d.needs.length cap1))) (by kernel_rfl) ?SR40 (fun hHeld=>?_)
       case SR40=>(first|(with_reducible exact KEEP.out _ hd3)|(with_reducible exact KEEP.out _ hd2)|(with_reducible exact KEEP.out _ hd1)|(with_reducible exact KEEP.out _ hd0))
       refine tk 0 hHeld (h:=?_)
       refine tk 1 hHeld (h:=?_)
       refine tk 2 hHeld (h:=?_)
       refine tk 3 hHeld (h:=?_)
       refine tk 4 hHeld (h:=?_)
       refine wpAnyH_ready (rs:=[5]) (by kernel_rfl) (by simp) ?_
       refine AllReadyH.cons rfl (fun K hK=>?_) AllReadyH.nil
       go_simp
       go_wp2_with (go_at_call 94;refine (HN.out _).mono ?_;rintro e w' ⟨rfl,rfl⟩)
       clear hHeld
       refine hK.out _ _ ?SR46 (fun hHeld=>?_)
       case SR46=>((try dsimp only);first|(with_reducible exact KEEP.out _ hd3)|(with_reducible exact KEEP.out _ hd2)|(with_reducible exact KEEP.out _ hd1)|(with_reducible exact KEEP.out _ hd0))
       clear hK K
       refine tk 6 hHeld (h:=?_)
       refine tk 7 hHeld (h:=?_)
       refine tk 8 hHeld (h:=?_)
       refine tk 9 hHeld (h:=?_)
       refine tk 10 hHeld (h:=?_)
       refine tk 11 hHeld (h:=?_)
       refine tk 12 hHeld (h:=?_)
       refine wpAnyH_ready (rs:=[13]) (by kernel_rfl) (by simp) ?_
       refine AllReadyH.cons rfl (fun K hK=>?_) AllReadyH.nil
       go_simp
       go_wp2_with (go_at_call 95;refine (H1.out _ hd0).mono ?_;rintro e w1 ⟨rfl,b1⟩;have hd1:Below wr.heap.size wr w1:=hd0.trans (b1.mono hd0.size))
       clear hHeld
       refine hK.out _ _ ?SR414 (fun hHeld=>?_)
       case SR414=>((try dsimp only);first|(with_reducible exact KEEP.out _ hd3)|(with_reducible exact KEEP.out _ hd2)|(with_reducible exact KEEP.out _ hd1)|(with_reducible exact KEEP.out _ hd0))
       clear hK K
       refine tk 14 hHeld (h:=?_)
       refine tk 15 hHeld (h:=?_)
       refine tk 16 hHeld (h:=?_)
       refine tk 17 hHeld (h:=?_)
       refine tk 18 hHeld (h:=?_)
       refine tk 19 hHeld (h:=?_)
       refine tk 20 hHeld (h:=?_)
       refine tk 21 hHeld (h:=?_)
       refine wpAnyH_ready (rs:=[22]) (by kernel_rfl) (by simp) ?_
       refine AllReadyH.cons rfl (fun K hK=>?_) AllReadyH.nil
       go_simp
       go_wp2_with (go_at_call 96;refine (H2.out _ hd1).mono ?_;rintro e w2 ⟨rfl,b2⟩;have hd2:Below wr.heap.size wr w2:=hd1.trans (b2.mono hd1.size))
       clear hHeld
       refine hK.out _ _ ?SR423 (fun hHeld=>?_)
       case SR423=>((try dsimp only);first|(with_reducible exact KEEP.out _ hd3)|(with_reducible exact KEEP.out _ hd2)|(with_reducible exact KEEP.out _ hd1)|(with_reducible exact KEEP.out _ hd0))
       clear hK K
       refine tk 23 hHeld (h:=?_)
       refine tk 24 hHeld (h:=?_)
       refine tk 25 hHeld (h:=?_)
       refine tk 26 hHeld (h:=?_)
       refine tk 27 hHeld (h:=?_)
       refine tk 28 hHeld (h:=?_)
       refine tk 29 hHeld (v:=undef) (hy:=Or.inr ⟨by rfl,rfl⟩) (h:=?_)
       refine tk 30 hHeld (v:=undef) (hy:=Or.inr ⟨by rfl,rfl⟩) (h:=?_)
       refine tk 31 hHeld (v:=undef) (hy:=Or.inr ⟨by rfl,rfl⟩) (h:=?_)
       refine tk 32 hHeld (v:=undef) (hy:=Or.inr ⟨by rfl,rfl⟩) (h:=?_)
       refine tk 33 hHeld (v:=undef) (hy:=Or.inr ⟨by rfl,rfl⟩) (h:=?_)
       refine tk 34 hHeld (v:=undef) (hy:=Or.inr ⟨by rfl,rfl⟩) (h:=?_)
       refine tk 35 hHeld (v:=undef) (hy:=Or.inr ⟨by rfl,rfl⟩) (h:=?_)
       refine tk 36 hHeld (v:=undef) (hy:=Or.inr ⟨by rfl,rfl⟩) (h:=?_)
       refine tk 37 hHeld (v:=undef) (hy:=Or.inr ⟨by rfl,rfl⟩) (h:=?_)
       refine tk 38 hHeld (v:=undef) (hy:=Or.inr ⟨by rfl,rfl⟩) (h:=?_)
       refine tk 39 hHeld (v:=undef) (hy:=Or.inr ⟨by rfl,rfl⟩) (h:=?_)
       refine tk 40 hHeld (h:=?_)
       refine tk 41 hHeld (h:=?_)
       refine wpAnyH_done (by kernel_rfl) ?_ _
       go_wp2_with fail
       go_roundw
       case rel=>exact ⟨0+1,by omega,by go_num,HG.out (relOk_first EB.out),hbr.trans (hd2.mono hbr.size)⟩
       case measure=>simp [intOf];omega
      |succ j=>
       obtain ⟨c,ycs,h1,yL,hcelly,yb⟩:=hpv j rfl
       subst h1
       have H3:=H3'.out c ycs yL yb
       clear h0o hpv H3' yb
       obtain ⟨r,hr⟩: ∃ r,r=entLess c d:=⟨_,rfl⟩
       simp only [←hr] at H3
       replace H3:=hidden H3
       have HX:Hid (entLess c d=r):=hr.symm
       clear hr
       obtain ⟨yu0,yu1,rfl,ys_name,yr0,yp0,yr1⟩:=yL
       obtain ⟨ya0,yc0,ye0,_⟩:=id yr0
       rw [length_strsV] at ye0
       subst ye0
       clear yr0
       obtain ⟨ya1,yc1,ye1,_⟩:=id yr1
       subst ye1
       clear yr1
       have f0:wr.cell? ⟨b,off+j*6,none⟩=some (.string c.name):=hcelly 0 (by simp)
       have f1:wr.cell? ⟨b,off+j*6+1,none⟩=some (.int .i64 c.vA):=hcelly 1 (by simp)
       have f2:wr.cell? ⟨b,off+j*6+2,none⟩=some (.int .i64 c.vB):=hcelly 2 (by simp)
       have f3:wr.cell? ⟨b,off+j*6+3,none⟩=some (.int .i64 c.vC):=hcelly 3 (by simp)
       have f4:wr.cell? ⟨b,off+j*6+4,none⟩=some (.slice ya0 c.vP.length yc0):=hcelly 4 (by simp)
       have f5:wr.cell? ⟨b,off+j*6+5,none⟩=some (.slice ya1 c.needs.length yc1):=hcelly 5 (by simp)
       clear hcelly ys_name yp0
       have hj0:(0:Int)≤(j:Int)+1:=by omega
       have hj1:decide ((0:Int)<(j:Int)+1)=true:=decide_eq_true (by omega)
       have hj2:(j:Int)+1<(xs.length:Int):=by omega
       have hj3:(j:Int)<(xs.length:Int):=by omega
       have hjw:IntKind.i64.wrap (j:Int)=(j:Int):=IntWalk.i64_in _ ⟨by omega,by omega⟩
       cases r with
       |false=>
        have KEEP:Hid (∀ w1,Below wr.heap.size wr w1→w1.cell? ⟨b,off+(j+1)*6,none⟩=some (.string d.name)∧w1.cell? ⟨b,off+(j+1)*6+1,none⟩=some (.int .i64 d.vA)∧w1.cell? ⟨b,off+(j+1)*6+2,none⟩=some (.int .i64 d.vB)∧w1.cell? ⟨b,off+(j+1)*6+3,none⟩=some (.int .i64 d.vC)∧w1.cell? ⟨b,off+(j+1)*6+4,none⟩=some (.slice a0 d.vP.length cap0)∧w1.cell? ⟨b,off+(j+1)*6+5,none⟩=some (.slice a1 d.needs.length cap1)∧w1.cell? ⟨b,off+j*6,none⟩=some (.string c.name)∧w1.cell? ⟨b,off+j*6+1,none⟩=some (.int .i64 c.vA)∧w1.cell? ⟨b,off+j*6+2,none⟩=some (.int .i64 c.vB)∧w1.cell? ⟨b,off+j*6+3,none⟩=some (.int .i64 c.vC)∧w1.cell? ⟨b,off+j*6+4,none⟩=some (.slice ya0 c.vP.length yc0)∧w1.cell? ⟨b,off+j*6+5,none⟩=some (.slice ya1 c.needs.length yc1)):=fun w1 h=>⟨(h.cell (by simpa using hbb)).trans e0,(h.cell (by simpa using hbb)).trans e1,(h.cell (by simpa using hbb)).trans e2,(h.cell (by simpa using hbb)).trans e3,(h.cell (by simpa using hbb)).trans e4,(h.cell (by simpa using hbb)).trans e5,(h.cell (by simpa using hbb)).trans f0,(h.cell (by simpa using hbb)).trans f1,(h.cell (by simpa using hbb)).trans f2,(h.cell (by simpa using hbb)).trans f3,(h.cell (by simpa using hbb)).trans f4,(h.cell (by simpa using hbb)).trans f5⟩
        clear e0 e1 e2 e3 e4 e5 f0 f1 f2 f3 f4 f5
        go_wp2_with fail
        refine wp_region_held_drew (S:=(fun w'=>w'.cell? ⟨b,off+(j+1)*6,none⟩=some (.string d.name)∧w'.cell? ⟨b,off+(j+1)*6+1,none⟩=some (.int .i64 d.vA)∧w'.cell? ⟨b,off+(j+1)*6+2,none⟩=some (.int .i64 d.vB)∧w'.cell? ⟨b,off+(j+1)*6+3,none⟩=some (.int .i64 d.vC)∧w'.cell? ⟨b,off+(j+1)*6+4,none⟩=some (.slice a0 d.vP.length cap0)∧w'.cell? ⟨b,off+(j+1)*6+5,none⟩=some (.slice a1 d.needs.length cap1)∧w'.cell? ⟨b,off+j*6,none⟩=some (.string c.name)∧w'.cell? ⟨b,off+j*6+1,none⟩=some (.int .i64 c.vA)∧w'.cell? ⟨b,off+j*6+2,none⟩=some (.int .i64 c.vB)∧w'.cell? ⟨b,off+j*6+3,none⟩=some (.int .i64 c.vC)∧w'.cell? ⟨b,off+j*6+4,none⟩=some (.slice ya0 c.vP.length yc0)∧w'.cell? ⟨b,off+j*6+5,none⟩=some (.slice ya1 c.needs.length yc1))) (by kernel_rfl) ?SR50 (fun hHeld=>?_)
        case SR50=>(first|(with_reducible exact KEEP.out _ hd3)|(with_reducible exact KEEP.out _ hd2)|(with_reducible exact KEEP.out _ hd1)|(with_reducible exact KEEP.out _ hd0))
        refine tk 0 hHeld (h:=?_)
        refine tk 1 hHeld (h:=?_)
        refine tk 2 hHeld (h:=?_)
        refine tk 3 hHeld (h:=?_)
        refine tk 4 hHeld (h:=?_)
        refine wpAnyH_ready (rs:=[5]) (by kernel_rfl) (by simp) ?_
        refine AllReadyH.cons rfl (fun K hK=>?_) AllReadyH.nil
        go_simp
        go_wp2_with (go_at_call 94;refine (HN.out _).mono ?_;rintro e w' ⟨rfl,rfl⟩)
        clear hHeld
        refine hK.out _ _ ?SR56 (fun hHeld=>?_)
        case SR56=>((try dsimp only);first|(with_reducible exact KEEP.out _ hd3)|(with_reducible exact KEEP.out _ hd2)|(with_reducible exact KEEP.out _ hd1)|(with_reducible exact KEEP.out _ hd0))
        clear hK K
        refine tk 6 hHeld (h:=?_)
        refine tk 7 hHeld (h:=?_)
        refine tk 8 hHeld (h:=?_)
        refine tk 9 hHeld (h:=?_)
        refine tk 10 hHeld (h:=?_)
        refine tk 11 hHeld (h:=?_)
        refine tk 12 hHeld (h:=?_)
        refine wpAnyH_ready (rs:=[13]) (by kernel_rfl) (by simp) ?_
        refine AllReadyH.cons rfl (fun K hK=>?_) AllReadyH.nil
        go_simp
        go_wp2_with (go_at_call 95;refine (H1.out _ hd0).mono ?_;rintro e w1 ⟨rfl,b1⟩;have hd1:Below wr.heap.size wr w1:=hd0.trans (b1.mono hd0.size))
        clear hHeld
        refine hK.out _ _ ?SR514 (fun hHeld=>?_)
        case SR514=>((try dsimp only);first|(with_reducible exact KEEP.out _ hd3)|(with_reducible exact KEEP.out _ hd2)|(with_reducible exact KEEP.out _ hd1)|(with_reducible exact KEEP.out _ hd0))
        clear hK K
        refine tk 14 hHeld (h:=?_)
        refine tk 15 hHeld (h:=?_)
        refine tk 16 hHeld (h:=?_)
        refine tk 17 hHeld (h:=?_)
        refine tk 18 hHeld (h:=?_)
        refine tk 19 hHeld (h:=?_)
        refine tk 20 hHeld (h:=?_)
        refine tk 21 hHeld (h:=?_)
        refine wpAnyH_ready (rs:=[22]) (by kernel_rfl) (by simp) ?_
        refine AllReadyH.cons rfl (fun K hK=>?_) AllReadyH.nil
        go_simp
        go_wp2_with (go_at_call 96;refine (H2.out _ hd1).mono ?_;rintro e w2 ⟨rfl,b2⟩;have hd2:Below wr.heap.size wr w2:=hd1.trans (b2.mono hd1.size))
        clear hHeld
        refine hK.out _ _ ?SR523 (fun hHeld=>?_)
        case SR523=>((try dsimp only);first|(with_reducible exact KEEP.out _ hd3)|(with_reducible exact KEEP.out _ hd2)|(with_reducible exact KEEP.out _ hd1)|(with_reducible exact KEEP.out _ hd0))
        clear hK K
        refine tk 23 hHeld (h:=?_)
        refine tk 24 hHeld (h:=?_)
        refine tk 25 hHeld (h:=?_)
        refine tk 26 hHeld (h:=?_)
        refine tk 27 hHeld (h:=?_)
        refine tk 28 hHeld (h:=?_)
        refine tk 29 hHeld (h:=?_)
        refine tk 30 hHeld (h:=?_)
        refine tk 31 hHeld (h:=?_)
        refine tk 32 hHeld (h:=?_)
        refine tk 33 hHeld (h:=?_)
        refine tk 34 hHeld (h:=?_)
        refine tk 35 hHeld (h:=?_)
        refine tk 36 hHeld (h:=?_)
        refine tk 37 hHeld (h:=?_)
        refine wpAnyH_ready (rs:=[38]) (by kernel_rfl) (by simp) ?_
        refine AllReadyH.cons rfl (fun K hK=>?_) AllReadyH.nil
        go_simp
        go_wp2_with (go_at_call 97;refine (H3.out _ hd2).mono ?_;rintro e w3 ⟨rfl,b3⟩;have hd3:Below wr.heap.size wr w3:=hd2.trans (b3.mono hd2.size))
        clear hHeld
        refine hK.out _ _ ?SR539 (fun hHeld=>?_)
        case SR539=>((try dsimp only);first|(with_reducible exact KEEP.out _ hd3)|(with_reducible exact KEEP.out _ hd2)|(with_reducible exact KEEP.out _ hd1)|(with_reducible exact KEEP.out _ hd0))
        clear hK K
        refine tk 39 hHeld (h:=?_)
        refine tk 40 hHeld (h:=?_)
        refine tk 41 hHeld (h:=?_)
        refine wpAnyH_done (by kernel_rfl) ?_ _
        go_wp2_with fail
        go_ret
        exact ⟨by rw [HB.out (relOk_less HX.out)];rfl,hbr.trans (hd3.mono hbr.size)⟩
       |true=>
        have KEEP:Hid (∀ w1,Below wr.heap.size wr w1→w1.cell? ⟨b,off+(j+1)*6,none⟩=some (.string d.name)∧w1.cell? ⟨b,off+(j+1)*6+1,none⟩=some (.int .i64 d.vA)∧w1.cell? ⟨b,off+(j+1)*6+2,none⟩=some (.int .i64 d.vB)∧w1.cell? ⟨b,off+(j+1)*6+3,none⟩=some (.int .i64 d.vC)∧w1.cell? ⟨b,off+(j+1)*6+4,none⟩=some (.slice a0 d.vP.length cap0)∧w1.cell? ⟨b,off+(j+1)*6+5,none⟩=some (.slice a1 d.needs.length cap1)∧w1.cell? ⟨b,off+j*6,none⟩=some (.string c.name)∧w1.cell? ⟨b,off+j*6+1,none⟩=some (.int .i64 c.vA)∧w1.cell? ⟨b,off+j*6+2,none⟩=some (.int .i64 c.vB)∧w1.cell? ⟨b,off+j*6+3,none⟩=some (.int .i64 c.vC)∧w1.cell? ⟨b,off+j*6+4,none⟩=some (.slice ya0 c.vP.length yc0)∧w1.cell? ⟨b,off+j*6+5,none⟩=some (.slice ya1 c.needs.length yc1)):=fun w1 h=>⟨(h.cell (by simpa using hbb)).trans e0,(h.cell (by simpa using hbb)).trans e1,(h.cell (by simpa using hbb)).trans e2,(h.cell (by simpa using hbb)).trans e3,(h.cell (by simpa using hbb)).trans e4,(h.cell (by simpa using hbb)).trans e5,(h.cell (by simpa using hbb)).trans f0,(h.cell (by simpa using hbb)).trans f1,(h.cell (by simpa using hbb)).trans f2,(h.cell (by simpa using hbb)).trans f3,(h.cell (by simpa using hbb)).trans f4,(h.cell (by simpa using hbb)).trans f5⟩
        clear e0 e1 e2 e3 e4 e5 f0 f1 f2 f3 f4 f5
        go_wp2_with fail
        refine wp_region_held_drew (S:=(fun w'=>w'.cell? ⟨b,off+(j+1)*6,none⟩=some (.string d.name)∧w'.cell? ⟨b,off+(j+1)*6+1,none⟩=some (.int .i64 d.vA)∧w'.cell? ⟨b,off+(j+1)*6+2,none⟩=some (.int .i64 d.vB)∧w'.cell? ⟨b,off+(j+1)*6+3,none⟩=some (.int .i64 d.vC)∧w'.cell? ⟨b,off+(j+1)*6+4,none⟩=some (.slice a0 d.vP.length cap0)∧w'.cell? ⟨b,off+(j+1)*6+5,none⟩=some (.slice a1 d.needs.length cap1)∧w'.cell? ⟨b,off+j*6,none⟩=some (.string c.name)∧w'.cell? ⟨b,off+j*6+1,none⟩=some (.int .i64 c.vA)∧w'.cell? ⟨b,off+j*6+2,none⟩=some (.int .i64 c.vB)∧w'.cell? ⟨b,off+j*6+3,none⟩=some (.int .i64 c.vC)∧w'.cell? ⟨b,off+j*6+4,none⟩=some (.slice ya0 c.vP.length yc0)∧w'.cell? ⟨b,off+j*6+5,none⟩=some (.slice ya1 c.needs.length yc1))) (by kernel_rfl) ?SR60 (fun hHeld=>?_)
        case SR60=>(first|(with_reducible exact KEEP.out _ hd3)|(with_reducible exact KEEP.out _ hd2)|(with_reducible exact KEEP.out _ hd1)|(with_reducible exact KEEP.out _ hd0))
        refine tk 0 hHeld (h:=?_)
        refine tk 1 hHeld (h:=?_)
        refine tk 2 hHeld (h:=?_)
        refine tk 3 hHeld (h:=?_)
        refine tk 4 hHeld (h:=?_)
        refine wpAnyH_ready (rs:=[5]) (by kernel_rfl) (by simp) ?_
        refine AllReadyH.cons rfl (fun K hK=>?_) AllReadyH.nil
        go_simp
        go_wp2_with (go_at_call 94;refine (HN.out _).mono ?_;rintro e w' ⟨rfl,rfl⟩)
        clear hHeld
        refine hK.out _ _ ?SR66 (fun hHeld=>?_)
        case SR66=>((try dsimp only);first|(with_reducible exact KEEP.out _ hd3)|(with_reducible exact KEEP.out _ hd2)|(with_reducible exact KEEP.out _ hd1)|(with_reducible exact KEEP.out _ hd0))
        clear hK K
        refine tk 6 hHeld (h:=?_)
        refine tk 7 hHeld (h:=?_)
        refine tk 8 hHeld (h:=?_)
        refine tk 9 hHeld (h:=?_)
        refine tk 10 hHeld (h:=?_)
        refine tk 11 hHeld (h:=?_)
        refine tk 12 hHeld (h:=?_)
        refine wpAnyH_ready (rs:=[13]) (by kernel_rfl) (by simp) ?_
        refine AllReadyH.cons rfl (fun K hK=>?_) AllReadyH.nil
        go_simp
        go_wp2_with (go_at_call 95;refine (H1.out _ hd0).mono ?_;rintro e w1 ⟨rfl,b1⟩;have hd1:Below wr.heap.size wr w1:=hd0.trans (b1.mono hd0.size))
        clear hHeld
        refine hK.out _ _ ?SR614 (fun hHeld=>?_)
        case SR614=>((try dsimp only);first|(with_reducible exact KEEP.out _ hd3)|(with_reducible exact KEEP.out _ hd2)|(with_reducible exact KEEP.out _ hd1)|(with_reducible exact KEEP.out _ hd0))
        clear hK K
        refine tk 14 hHeld (h:=?_)
        refine tk 15 hHeld (h:=?_)
        refine tk 16 hHeld (h:=?_)
        refine tk 17 hHeld (h:=?_)
        refine tk 18 hHeld (h:=?_)
        refine tk 19 hHeld (h:=?_)
        refine tk 20 hHeld (h:=?_)
        refine tk 21 hHeld (h:=?_)
        refine wpAnyH_ready (rs:=[22]) (by kernel_rfl) (by simp) ?_
        refine AllReadyH.cons rfl (fun K hK=>?_) AllReadyH.nil
        go_simp
        go_wp2_with (go_at_call 96;refine (H2.out _ hd1).mono ?_;rintro e w2 ⟨rfl,b2⟩;have hd2:Below wr.heap.size wr w2:=hd1.trans (b2.mono hd1.size))
        clear hHeld
        refine hK.out _ _ ?SR623 (fun hHeld=>?_)
        case SR623=>((try dsimp only);first|(with_reducible exact KEEP.out _ hd3)|(with_reducible exact KEEP.out _ hd2)|(with_reducible exact KEEP.out _ hd1)|(with_reducible exact KEEP.out _ hd0))
        clear hK K
        refine tk 23 hHeld (h:=?_)
        refine tk 24 hHeld (h:=?_)
        refine tk 25 hHeld (h:=?_)
        refine tk 26 hHeld (h:=?_)
        refine tk 27 hHeld (h:=?_)
        refine tk 28 hHeld (h:=?_)
        refine tk 29 hHeld (h:=?_)
        refine tk 30 hHeld (h:=?_)
        refine tk 31 hHeld (h:=?_)
        refine tk 32 hHeld (h:=?_)
        refine tk 33 hHeld (h:=?_)
        refine tk 34 hHeld (h:=?_)
        refine tk 35 hHeld (h:=?_)
        refine tk 36 hHeld (h:=?_)
        refine tk 37 hHeld (h:=?_)
        refine wpAnyH_ready (rs:=[38]) (by kernel_rfl) (by simp) ?_
        refine AllReadyH.cons rfl (fun K hK=>?_) AllReadyH.nil
        go_simp
        go_wp2_with (go_at_call 97;refine (H3.out _ hd2).mono ?_;rintro e w3 ⟨rfl,b3⟩;have hd3:Below wr.heap.size wr w3:=hd2.trans (b3.mono hd2.size))
        clear hHeld
        refine hK.out _ _ ?SR639 (fun hHeld=>?_)
        case SR639=>((try dsimp only);first|(with_reducible exact KEEP.out _ hd3)|(with_reducible exact KEEP.out _ hd2)|(with_reducible exact KEEP.out _ hd1)|(with_reducible exact KEEP.out _ hd0))
        clear hK K
        refine tk 39 hHeld (h:=?_)
        refine tk 40 hHeld (h:=?_)
        refine tk 41 hHeld (h:=?_)
        refine wpAnyH_done (by kernel_rfl) ?_ _
        go_wp2_with fail
        go_roundw
        case rel=>exact ⟨j+1+1,by omega,by go_num,HG.out (by rw [relOk_some EB.out];exact HX.out),hbr.trans (hd3.mono hbr.size)⟩
        case measure=>simp [intOf];omega
  ·have he:k=xs.length:=by omega
   subst he
   have HE:Hid (Q=true):=HQ.out.trans hh.out
   clear ha hh HQ
   by_cases hm:xs.length≤12
   ·have hm':(xs.length:Int)≤12:=by omega
    go_wp2_with fail
    go_ret
    exact ⟨by first|rfl|(rw [HE.out,decide_eq_true hm];rfl)|(rw [HE.out,decide_eq_true hm];simp [hm];done)|rfl|simp [hm]|(simp;omega),hbr⟩
   ·have hm': ¬(xs.length:Int)≤12:=by omega
    go_wp2_with fail
    go_ret
    exact ⟨by first|rfl|(rw [HE.out,decide_eq_false hm];rfl)|rfl|simp [hm]|(simp;omega),hbr⟩
end Go.Proofs.YtlfmefojcmpfeaaGreatDoor
