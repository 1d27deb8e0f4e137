/-
  Contracts for the walks and pure facts, several texts in one: each theorem says what it proves, and under which conditions.
-/
import Derived.Test.YtlfmefojcmpfeaaGreatDoorUT
import Derived.Test.YtlfmefojcmpfeaaGreatDoorU38
set_option linter.unusedSimpArgs false
set_option linter.unusedVariables false
set_option maxHeartbeats 16000000
set_option maxRecDepth 100000
namespace Go.Proofs.YtlfmefojcmpfeaaGreatDoor
open Go.RowKit
theorem l10Ok_c (S:Nat→Prop) (v:Value) (xs:List PickD) (w:World) (hv:RowIn shPick S w v xs) (hB: ∀ b,S b→b<w.heap.size) (hw: ∀ d∈xs,bulkS d.vP≤1048576):
  Calls Tryz.prog 129 #[v] w fun e w'=>e=.returned (.bool (picksB xs))∧Below w.heap.size w w':=by
 obtain ⟨a,cap,rfl,hl,hc,ha⟩:=hv
 unfold maxLen at hl
 obtain ⟨Q,hQ⟩: ∃ R,R=rowB pickB PickD.name xs:=⟨_,rfl⟩
 unfold picksB
 rw [←hQ]
 have HQ:=hidden hQ
 clear hQ
 go_enter Tryz.func129,Tryz.ntmps129
 go_wp2_with fail
 go_loopw [3] (fun vi wr=>∃ k:Nat,k≤xs.length∧vi=.int .i64 (k:Int)∧Hid (rowUpto pickB PickD.name xs k=true)∧Below w.heap.size w wr) (fun vi _=>xs.length-(intOf vi).toNat)
 case atStart=>exact ⟨0,Nat.zero_le _,rfl,rfl,Below.refl _ _⟩
 case round=>
  obtain ⟨k,hk,rfl,hh,hbr⟩:=hrel
  by_cases hlt':k<xs.length
  ·rcases ha with rfl|⟨b,off,rfl,hlt,ha⟩
   ·simp at hlt'
   have hbb:b<wr.heap.size:=Nat.lt_of_lt_of_le (hB b hlt) hbr.size
   have hBr: ∀ b,S b→b<wr.heap.size:=fun b h=>Nat.lt_of_lt_of_le (hB b h) hbr.size
   obtain ⟨cs,hL,hcell⟩:=ha k hlt'
   replace hL:=shPick.keep (.of hbr hB) hL
   replace hcell:=hcell.keep (.of hbr hB) hlt
   have HB:Hid (rowOk pickB PickD.name xs[k] (preX xs k)=false→Q=false):=fun h=>HQ.out.trans (rowUpto_bad hlt' h _ hlt')
   have HG:Hid (rowOk pickB PickD.name xs[k] (preX xs k)=true→rowUpto pickB PickD.name xs (k+1)=true):=fun h=>rowUpto_step hlt' hh.out h
   have hpv: ∀ j,k=j+1→∃ c,preX xs k=some c∧wr.cell? ⟨b,off+j*5,none⟩=some (.string c.name):=fun j hj=>by
    subst hj
    have hj':j<xs.length:=by omega
    obtain ⟨cs',hL',hcell'⟩:=ha j hj'
    replace hcell':=hcell'.keep (.of hbr hB) hlt
    obtain ⟨_,rfl,_⟩:=hL'
    exact ⟨xs[j],by rw [preX,List.getElem?_eq_getElem hj'],hcell' 0 (by simp)⟩
   obtain ⟨o,ho⟩: ∃ o,o=preX xs k:=⟨_,rfl⟩
   rw [←ho] at HB HG hpv
   have h0o:k=0→o=none:=fun h=>by subst h;exact ho
   have hwd:bulkS xs[k].vP≤1048576:=hw _ (List.getElem_mem hlt')
   obtain ⟨d,hd⟩: ∃ d,d=xs[k]:=⟨_,rfl⟩
   rw [←hd] at hL HB HG hwd
   obtain ⟨u0,rfl,s_n,r0,p0⟩:=hL
   have hbk:bulkS d.vP≤1048576:=hwd
   have HN:=fun w1=>specName_c d.name s_n w1
   have H1: ∀ w1,Below wr.heap.size wr w1→Calls Tryz.prog 95 #[.agg #[.int .i64 d.vA,.int .i64 d.vB,.int .i64 d.vC,u0]] w1 fun e w'=>e=.returned (.bool (verB d.vA d.vB d.vC d.vP))∧Below w1.heap.size w1 w':=fun w1 h=>specVerOk_c _ _ _ u0 d.vP w1 ((r0.keep (.of h hBr)).reads (fun b hb=>Nat.lt_of_lt_of_le (hBr b hb) h.size)) hbk
   have HX:Hid (pickB d=(nameB d.name&&verB d.vA d.vB d.vC d.vP)):=rfl
   obtain ⟨p,hp⟩: ∃ p,p=nameB d.name:=⟨_,rfl⟩
   obtain ⟨q,hq⟩: ∃ p,p=verB d.vA d.vB d.vC d.vP:=⟨_,rfl⟩
   rw [←hp, ←hq] at HX
   simp only [←hp] at HN
   simp only [←hq] at H1
   replace HN:=hidden HN
   replace H1:=hidden H1
   obtain ⟨a0,cap0,eu0,_⟩:=id r0
   rw [length_strsV] at eu0
   subst eu0
   have hki:(k:Int)<(xs.length:Int):=by omega
   have hd0:Below wr.heap.size wr wr.drew:=(Below.refl _ _).drew
   have e0:wr.cell? ⟨b,off+k*5,none⟩=some (.string d.name):=hcell 0 (by simp)
   have e1:wr.cell? ⟨b,off+k*5+1,none⟩=some (.int .i64 d.vA):=hcell 1 (by simp)
   have e2:wr.cell? ⟨b,off+k*5+2,none⟩=some (.int .i64 d.vB):=hcell 2 (by simp)
   have e3:wr.cell? ⟨b,off+k*5+3,none⟩=some (.int .i64 d.vC):=hcell 3 (by simp)
   have e4:wr.cell? ⟨b,off+k*5+4,none⟩=some (.slice a0 d.vP.length cap0):=hcell 4 (by simp)
   clear ha hd ho hw hh hcell HQ s_n r0 p0 hp hq hbk hwd
   cases p with
   |false=>
    clear h0o hpv
    have KEEP:Hid (∀ w1,Below wr.heap.size wr w1→w1.cell? ⟨b,off+k*5,none⟩=some (.string d.name)∧w1.cell? ⟨b,off+k*5+1,none⟩=some (.int .i64 d.vA)∧w1.cell? ⟨b,off+k*5+2,none⟩=some (.int .i64 d.vB)∧w1.cell? ⟨b,off+k*5+3,none⟩=some (.int .i64 d.vC)∧w1.cell? ⟨b,off+k*5+4,none⟩=some (.slice a0 d.vP.length cap0)):=fun w1 h=>⟨(h.cell (by simpa using hbb)).trans e0,(h.cell (by simpa using hbb)).trans e1,(h.cell (by simpa using hbb)).trans e2,(h.cell (by simpa using hbb)).trans e3,(h.cell (by simpa using hbb)).trans e4⟩
    clear e0 e1 e2 e3 e4
    go_wp2_with fail
    refine wp_region_held_drew (S:=(fun w'=>w'.cell? ⟨b,off+k*5,none⟩=some (.string d.name)∧w'.cell? ⟨b,off+k*5+1,none⟩=some (.int .i64 d.vA)∧w'.cell? ⟨b,off+k*5+2,none⟩=some (.int .i64 d.vB)∧w'.cell? ⟨b,off+k*5+3,none⟩=some (.int .i64 d.vC)∧w'.cell? ⟨b,off+k*5+4,none⟩=some (.slice a0 d.vP.length cap0))) (by kernel_rfl) ?SR10 (fun hHeld=>?_)
    case SR10=>(first|(with_reducible exact KEEP.out _ hd1)|(with_reducible exact KEEP.out _ hd0))
    refine tk 0 hHeld (h:=?_)
    refine tk 1 hHeld (h:=?_)
    refine tk 2 hHeld (h:=?_)
    refine tk 3 hHeld (h:=?_)
    refine tk 4 hHeld (h:=?_)
    refine wpAnyH_ready (rs:=[5]) (by kernel_rfl) (by simp) ?_
    refine AllReadyH.cons rfl (fun K hK=>?_) AllReadyH.nil
    go_simp
    go_wp2_with (go_at_call 94;refine (HN.out _).mono ?_;rintro e w' ⟨rfl,rfl⟩)
    clear hHeld
    refine hK.out _ _ ?SR16 (fun hHeld=>?_)
    case SR16=>((try dsimp only);first|(with_reducible exact KEEP.out _ hd1)|(with_reducible exact KEEP.out _ hd0))
    clear hK K
    refine tk 6 hHeld (h:=?_)
    refine tk 7 hHeld (h:=?_)
    refine tk 8 hHeld (v:=undef) (hy:=Or.inr ⟨by rfl,rfl⟩) (h:=?_)
    refine tk 9 hHeld (v:=undef) (hy:=Or.inr ⟨by rfl,rfl⟩) (h:=?_)
    refine tk 10 hHeld (v:=undef) (hy:=Or.inr ⟨by rfl,rfl⟩) (h:=?_)
    refine tk 11 hHeld (v:=undef) (hy:=Or.inr ⟨by rfl,rfl⟩) (h:=?_)
    refine tk 12 hHeld (v:=undef) (hy:=Or.inr ⟨by rfl,rfl⟩) (h:=?_)
    refine tk 13 hHeld (v:=undef) (hy:=Or.inr ⟨by rfl,rfl⟩) (h:=?_)
    refine tk 14 hHeld (v:=undef) (hy:=Or.inr ⟨by rfl,rfl⟩) (h:=?_)
    refine tk 15 hHeld (h:=?_)
    refine tk 16 hHeld (h:=?_)
    refine tk 17 hHeld (v:=undef) (hy:=Or.inr ⟨by rfl,rfl⟩) (h:=?_)
    refine tk 18 hHeld (v:=undef) (hy:=Or.inr ⟨by rfl,rfl⟩) (h:=?_)
    refine tk 19 hHeld (v:=undef) (hy:=Or.inr ⟨by rfl,rfl⟩) (h:=?_)
    refine tk 20 hHeld (v:=undef) (hy:=Or.inr ⟨by rfl,rfl⟩) (h:=?_)
    refine tk 21 hHeld (v:=undef) (hy:=Or.inr ⟨by rfl,rfl⟩) (h:=?_)
    refine tk 22 hHeld (v:=undef) (hy:=Or.inr ⟨by rfl,rfl⟩) (h:=?_)
    refine tk 23 hHeld (v:=undef) (hy:=Or.inr ⟨by rfl,rfl⟩) (h:=?_)
    refine tk 24 hHeld (v:=undef) (hy:=Or.inr ⟨by rfl,rfl⟩) (h:=?_)
    refine tk 25 hHeld (v:=undef) (hy:=Or.inr ⟨by rfl,rfl⟩) (h:=?_)
    refine tk 26 hHeld (v:=undef) (hy:=Or.inr ⟨by rfl,rfl⟩) (h:=?_)
    refine tk 27 hHeld (v:=undef) (hy:=Or.inr ⟨by rfl,rfl⟩) (h:=?_)
    refine tk 28 hHeld (v:=undef) (hy:=Or.inr ⟨by rfl,rfl⟩) (h:=?_)
    refine tk 29 hHeld (v:=undef) (hy:=Or.inr ⟨by rfl,rfl⟩) (h:=?_)
    refine tk 30 hHeld (v:=undef) (hy:=Or.inr ⟨by rfl,rfl⟩) (h:=?_)
    refine tk 31 hHeld (v:=undef) (hy:=Or.inr ⟨by rfl,rfl⟩) (h:=?_)
    refine tk 32 hHeld (v:=undef) (hy:=Or.inr ⟨by rfl,rfl⟩) (h:=?_)
    refine tk 33 hHeld (h:=?_)
    refine wpAnyH_done (by kernel_rfl) ?_ _
    go_wp2_with fail
    go_ret
    exact ⟨by rw [HB.out (rowOk_no (HX.out))];rfl,hbr.trans (hd0.mono hbr.size)⟩
   |true=>
    cases q with
    |false=>
     clear h0o hpv
     have KEEP:Hid (∀ w1,Below wr.heap.size wr w1→w1.cell? ⟨b,off+k*5,none⟩=some (.string d.name)∧w1.cell? ⟨b,off+k*5+1,none⟩=some (.int .i64 d.vA)∧w1.cell? ⟨b,off+k*5+2,none⟩=some (.int .i64 d.vB)∧w1.cell? ⟨b,off+k*5+3,none⟩=some (.int .i64 d.vC)∧w1.cell? ⟨b,off+k*5+4,none⟩=some (.slice a0 d.vP.length cap0)):=fun w1 h=>⟨(h.cell (by simpa using hbb)).trans e0,(h.cell (by simpa using hbb)).trans e1,(h.cell (by simpa using hbb)).trans e2,(h.cell (by simpa using hbb)).trans e3,(h.cell (by simpa using hbb)).trans e4⟩
     clear e0 e1 e2 e3 e4
     go_wp2_with fail
     refine wp_region_held_drew (S:=(fun w'=>w'.cell? ⟨b,off+k*5,none⟩=some (.string d.name)∧w'.cell? ⟨b,off+k*5+1,none⟩=some (.int .i64 d.vA)∧w'.cell? ⟨b,off+k*5+2,none⟩=some (.int .i64 d.vB)∧w'.cell? ⟨b,off+k*5+3,none⟩=some (.int .i64 d.vC)∧w'.cell? ⟨b,off+k*5+4,none⟩=some (.slice a0 d.vP.length cap0))) (by kernel_rfl) ?SR20 (fun hHeld=>?_)
     case SR20=>(first|(with_reducible exact KEEP.out _ hd1)|(with_reducible exact KEEP.out _ hd0))
     refine tk 0 hHeld (h:=?_)
     refine tk 1 hHeld (h:=?_)
     refine tk 2 hHeld (h:=?_)
     refine tk 3 hHeld (h:=?_)
     refine tk 4 hHeld (h:=?_)
     refine wpAnyH_ready (rs:=[5]) (by kernel_rfl) (by simp) ?_
     refine AllReadyH.cons rfl (fun K hK=>?_) AllReadyH.nil
     go_simp
     go_wp2_with (go_at_call 94;refine (HN.out _).mono ?_;rintro e w' ⟨rfl,rfl⟩)
     clear hHeld
     refine hK.out _ _ ?SR26 (fun hHeld=>?_)
     case SR26=>((try dsimp only);first|(with_reducible exact KEEP.out _ hd1)|(with_reducible exact KEEP.out _ hd0))
     clear hK K
     refine tk 6 hHeld (h:=?_)
     refine tk 7 hHeld (h:=?_)
     refine tk 8 hHeld (h:=?_)
     refine tk 9 hHeld (h:=?_)
     refine tk 10 hHeld (h:=?_)
     refine tk 11 hHeld (h:=?_)
     refine tk 12 hHeld (h:=?_)
     refine wpAnyH_ready (rs:=[13]) (by kernel_rfl) (by simp) ?_
     refine AllReadyH.cons rfl (fun K hK=>?_) AllReadyH.nil
     go_simp
     go_wp2_with (go_at_call 95;refine (H1.out _ hd0).mono ?_;rintro e w1 ⟨rfl,b1⟩;have hd1:Below wr.heap.size wr w1:=hd0.trans (b1.mono hd0.size))
     clear hHeld
     refine hK.out _ _ ?SR214 (fun hHeld=>?_)
     case SR214=>((try dsimp only);first|(with_reducible exact KEEP.out _ hd1)|(with_reducible exact KEEP.out _ hd0))
     clear hK K
     refine tk 14 hHeld (h:=?_)
     refine tk 15 hHeld (h:=?_)
     refine tk 16 hHeld (h:=?_)
     refine tk 17 hHeld (v:=undef) (hy:=Or.inr ⟨by rfl,rfl⟩) (h:=?_)
     refine tk 18 hHeld (v:=undef) (hy:=Or.inr ⟨by rfl,rfl⟩) (h:=?_)
     refine tk 19 hHeld (v:=undef) (hy:=Or.inr ⟨by rfl,rfl⟩) (h:=?_)
     refine tk 20 hHeld (v:=undef) (hy:=Or.inr ⟨by rfl,rfl⟩) (h:=?_)
     refine tk 21 hHeld (v:=undef) (hy:=Or.inr ⟨by rfl,rfl⟩) (h:=?_)
     refine tk 22 hHeld (v:=undef) (hy:=Or.inr ⟨by rfl,rfl⟩) (h:=?_)
     refine tk 23 hHeld (v:=undef) (hy:=Or.inr ⟨by rfl,rfl⟩) (h:=?_)
     refine tk 24 hHeld (v:=undef) (hy:=Or.inr ⟨by rfl,rfl⟩) (h:=?_)
     refine tk 25 hHeld (v:=undef) (hy:=Or.inr ⟨by rfl,rfl⟩) (h:=?_)
     refine tk 26 hHeld (v:=undef) (hy:=Or.inr ⟨by rfl,rfl⟩) (h:=?_)
     refine tk 27 hHeld (v:=undef) (hy:=Or.inr ⟨by rfl,rfl⟩) (h:=?_)
     refine tk 28 hHeld (v:=undef) (hy:=Or.inr ⟨by rfl,rfl⟩) (h:=?_)
     refine tk 29 hHeld (v:=undef) (hy:=Or.inr ⟨by rfl,rfl⟩) (h:=?_)
     refine tk 30 hHeld (v:=undef) (hy:=Or.inr ⟨by rfl,rfl⟩) (h:=?_)
     refine tk 31 hHeld (v:=undef) (hy:=Or.inr ⟨by rfl,rfl⟩) (h:=?_)
     refine tk 32 hHeld (v:=undef) (hy:=Or.inr ⟨by rfl,rfl⟩) (h:=?_)
     refine tk 33 hHeld (h:=?_)
     refine wpAnyH_done (by kernel_rfl) ?_ _
     go_wp2_with fail
     go_ret
     exact ⟨by rw [HB.out (rowOk_no (HX.out))];rfl,hbr.trans (hd1.mono hbr.size)⟩
    |true=>
     cases k with
     |zero=>
      have h1:=h0o rfl
      subst h1
      clear h0o hpv
      rw [Nat.zero_mul,Nat.add_zero] at e0 e1 e2 e3 e4
      have KEEP:Hid (∀ w1,Below wr.heap.size wr w1→w1.cell? ⟨b,off,none⟩=some (.string d.name)∧w1.cell? ⟨b,off+1,none⟩=some (.int .i64 d.vA)∧w1.cell? ⟨b,off+2,none⟩=some (.int .i64 d.vB)∧w1.cell? ⟨b,off+3,none⟩=some (.int .i64 d.vC)∧w1.cell? ⟨b,off+4,none⟩=some (.slice a0 d.vP.length cap0)):=fun w1 h=>⟨(h.cell (by simpa using hbb)).trans e0,(h.cell (by simpa using hbb)).trans e1,(h.cell (by simpa using hbb)).trans e2,(h.cell (by simpa using hbb)).trans e3,(h.cell (by simpa using hbb)).trans e4⟩
      clear e0 e1 e2 e3 e4
      go_wp2_with fail
      refine wp_region_held_drew (S:=(fun w'=>w'.cell? ⟨b,off,none⟩=some (.string d.name)∧w'.cell? ⟨b,off+1,none⟩=some (.int .i64 d.vA)∧w'.cell? ⟨b,off+2,none⟩=some (.int .i64 d.vB)∧w'.cell? ⟨b,off+3,none⟩=some (.int .i64 d.vC)∧w'.cell? ⟨b,off+4,none⟩=some (.slice a0 d.vP.length cap0))) (by kernel_rfl) ?SR30 (fun hHeld=>?_)
      case SR30=>(first|(with_reducible exact KEEP.out _ hd1)|(with_reducible exact KEEP.out _ hd0))
      refine tk 0 hHeld (h:=?_)
      refine tk 1 hHeld (h:=?_)
      refine tk 2 hHeld (h:=?_)
      refine tk 3 hHeld (h:=?_)
      refine tk 4 hHeld (h:=?_)
      refine wpAnyH_ready (rs:=[5]) (by kernel_rfl) (by simp) ?_
      refine AllReadyH.cons rfl (fun K hK=>?_) AllReadyH.nil
      go_simp
      go_wp2_with (go_at_call 94;refine (HN.out _).mono ?_;rintro e w' ⟨rfl,rfl⟩)
      clear hHeld
      refine hK.out _ _ ?SR36 (fun hHeld=>?_)
      case SR36=>((try dsimp only);first|(with_reducible exact KEEP.out _ hd1)|(with_reducible exact KEEP.out _ hd0))
      clear hK K
      refine tk 6 hHeld (h:=?_)
      refine tk 7 hHeld (h:=?_)
      refine tk 8 hHeld (h:=?_)
      refine tk 9 hHeld (h:=?_)
      refine tk 10 hHeld (h:=?_)
      refine tk 11 hHeld (h:=?_)
      refine tk 12 hHeld (h:=?_)
      refine wpAnyH_ready (rs:=[13]) (by kernel_rfl) (by simp) ?_
      refine AllReadyH.cons rfl (fun K hK=>?_) AllReadyH.nil
      go_simp
      go_wp2_with (go_at_call 95;refine (H1.out _ hd0).mono ?_;rintro e w1 ⟨rfl,b1⟩;have hd1:Below wr.heap.size wr w1:=hd0.trans (b1.mono hd0.size))
      clear hHeld
      refine hK.out _ _ ?SR314 (fun hHeld=>?_)
      case SR314=>((try dsimp only);first|(with_reducible exact KEEP.out _ hd1)|(with_reducible exact KEEP.out _ hd0))
      clear hK K
      refine tk 14 hHeld (h:=?_)
      refine tk 15 hHeld (h:=?_)
      refine tk 16 hHeld (h:=?_)
      refine tk 17 hHeld (h:=?_)
      refine tk 18 hHeld (h:=?_)
      refine tk 19 hHeld (h:=?_)
      refine tk 20 hHeld (v:=undef) (hy:=Or.inr ⟨by rfl,rfl⟩) (h:=?_)
      refine tk 21 hHeld (v:=undef) (hy:=Or.inr ⟨by rfl,rfl⟩) (h:=?_)
      refine tk 22 hHeld (v:=undef) (hy:=Or.inr ⟨by rfl,rfl⟩) (h:=?_)
      refine tk 23 hHeld (v:=undef) (hy:=Or.inr ⟨by rfl,rfl⟩) (h:=?_)
      refine tk 24 hHeld (v:=undef) (hy:=Or.inr ⟨by rfl,rfl⟩) (h:=?_)
      refine tk 25 hHeld (v:=undef) (hy:=Or.inr ⟨by rfl,rfl⟩) (h:=?_)
      refine tk 26 hHeld (v:=undef) (hy:=Or.inr ⟨by rfl,rfl⟩) (h:=?_)
      refine tk 27 hHeld (v:=undef) (hy:=Or.inr ⟨by rfl,rfl⟩) (h:=?_)
      refine tk 28 hHeld (v:=undef) (hy:=Or.inr ⟨by rfl,rfl⟩) (h:=?_)
      refine tk 29 hHeld (v:=undef) (hy:=Or.inr ⟨by rfl,rfl⟩) (h:=?_)
      refine tk 30 hHeld (v:=undef) (hy:=Or.inr ⟨by rfl,rfl⟩) (h:=?_)
      refine tk 31 hHeld (v:=undef) (hy:=Or.inr ⟨by rfl,rfl⟩) (h:=?_)
      refine tk 32 hHeld (h:=?_)
      refine tk 33 hHeld (h:=?_)
      refine wpAnyH_done (by kernel_rfl) ?_ _
      go_wp2_with fail
      go_roundw
      case rel=>exact ⟨0+1,by omega,by go_num,HG.out (rowOk_first HX.out),hbr.trans (hd1.mono hbr.size)⟩
      case measure=>simp [intOf];omega
     |succ j=>
      obtain ⟨c,h1,e9⟩:=hpv j rfl
      subst h1
      clear h0o hpv
      have hj0:(0:Int)≤(j:Int)+1:=by omega
      have hj1:decide ((0:Int)<(j:Int)+1)=true:=decide_eq_true (by omega)
      have hj2:(j:Int)+1<(xs.length:Int):=by omega
      have hj3:(j:Int)<(xs.length:Int):=by omega
      have hjw:IntKind.i64.wrap (j:Int)=(j:Int):=IntWalk.i64_in _ ⟨by omega,by omega⟩
      have KEEP:Hid (∀ w1,Below wr.heap.size wr w1→w1.cell? ⟨b,off+(j+1)*5,none⟩=some (.string d.name)∧w1.cell? ⟨b,off+(j+1)*5+1,none⟩=some (.int .i64 d.vA)∧w1.cell? ⟨b,off+(j+1)*5+2,none⟩=some (.int .i64 d.vB)∧w1.cell? ⟨b,off+(j+1)*5+3,none⟩=some (.int .i64 d.vC)∧w1.cell? ⟨b,off+(j+1)*5+4,none⟩=some (.slice a0 d.vP.length cap0)∧w1.cell? ⟨b,off+j*5,none⟩=some (.string c.name)):=fun w1 h=>⟨(h.cell (by simpa using hbb)).trans e0,(h.cell (by simpa using hbb)).trans e1,(h.cell (by simpa using hbb)).trans e2,(h.cell (by simpa using hbb)).trans e3,(h.cell (by simpa using hbb)).trans e4,(h.cell (by simpa using hbb)).trans e9⟩
      clear e0 e1 e2 e3 e4 e9
      go_wp2_with fail
      refine wp_region_held_drew (S:=(fun w'=>w'.cell? ⟨b,off+(j+1)*5,none⟩=some (.string d.name)∧w'.cell? ⟨b,off+(j+1)*5+1,none⟩=some (.int .i64 d.vA)∧w'.cell? ⟨b,off+(j+1)*5+2,none⟩=some (.int .i64 d.vB)∧w'.cell? ⟨b,off+(j+1)*5+3,none⟩=some (.int .i64 d.vC)∧w'.cell? ⟨b,off+(j+1)*5+4,none⟩=some (.slice a0 d.vP.length cap0)∧w'.cell? ⟨b,off+j*5,none⟩=some (.string c.name))) (by kernel_rfl) ?SR40 (fun hHeld=>?_)
      case SR40=>(first|(with_reducible exact KEEP.out _ hd1)|(with_reducible exact KEEP.out _ hd0))
      refine tk 0 hHeld (h:=?_)
      refine tk 1 hHeld (h:=?_)
      refine tk 2 hHeld (h:=?_)
      refine tk 3 hHeld (h:=?_)
      refine tk 4 hHeld (h:=?_)
      refine wpAnyH_ready (rs:=[5]) (by kernel_rfl) (by simp) ?_
      refine AllReadyH.cons rfl (fun K hK=>?_) AllReadyH.nil
      go_simp
      go_wp2_with (go_at_call 94;refine (HN.out _).mono ?_;rintro e w' ⟨rfl,rfl⟩)
      clear hHeld
      refine hK.out _ _ ?SR46 (fun hHeld=>?_)
      case SR46=>((try dsimp only);first|(with_reducible exact KEEP.out _ hd1)|(with_reducible exact KEEP.out _ hd0))
      clear hK K
      refine tk 6 hHeld (h:=?_)
      refine tk 7 hHeld (h:=?_)
      refine tk 8 hHeld (h:=?_)
      refine tk 9 hHeld (h:=?_)
      refine tk 10 hHeld (h:=?_)
      refine tk 11 hHeld (h:=?_)
      refine tk 12 hHeld (h:=?_)
      refine wpAnyH_ready (rs:=[13]) (by kernel_rfl) (by simp) ?_
      refine AllReadyH.cons rfl (fun K hK=>?_) AllReadyH.nil
      go_simp
      go_wp2_with (go_at_call 95;refine (H1.out _ hd0).mono ?_;rintro e w1 ⟨rfl,b1⟩;have hd1:Below wr.heap.size wr w1:=hd0.trans (b1.mono hd0.size))
      clear hHeld
      refine hK.out _ _ ?SR414 (fun hHeld=>?_)
      case SR414=>((try dsimp only);first|(with_reducible exact KEEP.out _ hd1)|(with_reducible exact KEEP.out _ hd0))
      clear hK K
      refine tk 14 hHeld (h:=?_)
      refine tk 15 hHeld (h:=?_)
      refine tk 16 hHeld (h:=?_)
      refine tk 17 hHeld (h:=?_)
      refine tk 18 hHeld (h:=?_)
      refine tk 19 hHeld (h:=?_)
      refine tk 20 hHeld (h:=?_)
      refine tk 21 hHeld (h:=?_)
      refine tk 22 hHeld (h:=?_)
      refine tk 23 hHeld (h:=?_)
      refine tk 24 hHeld (h:=?_)
      refine tk 25 hHeld (h:=?_)
      refine tk 26 hHeld (h:=?_)
      refine tk 27 hHeld (h:=?_)
      refine tk 28 hHeld (h:=?_)
      refine tk 29 hHeld (h:=?_)
      refine tk 30 hHeld (h:=?_)
      refine tk 31 hHeld (h:=?_)
      refine tk 32 hHeld (h:=?_)
      refine tk 33 hHeld (h:=?_)
      refine wpAnyH_done (by kernel_rfl) ?_ _
      go_wp2_with fail
      ·have hlx:(!Op.bytesLess c.name.toList d.name.toList)=true:=by assumption
       go_ret
       exact ⟨by rw [HB.out (rowOk_less (by simpa using hlx))];rfl,hbr.trans (hd1.mono hbr.size)⟩
      ·have hlx:(!Op.bytesLess c.name.toList d.name.toList)=false:=by assumption
       go_roundw
       case rel=>exact ⟨j+1+1,by omega,by go_num,HG.out (by rw [rowOk_some HX.out];simpa using hlx),hbr.trans (hd1.mono hbr.size)⟩
       case measure=>simp [intOf];omega
  ·have he:k=xs.length:=by omega
   subst he
   have HE:Hid (Q=true):=HQ.out.trans hh.out
   clear ha hh HQ
   by_cases hm:xs.length≤12
   ·have hm':(xs.length:Int)≤12:=by omega
    go_wp2_with fail
    go_ret
    exact ⟨by first|rfl|(rw [HE.out,decide_eq_true hm];rfl)|(rw [HE.out,decide_eq_true hm];simp [hm];done)|rfl|simp [hm]|(simp;omega),hbr⟩
   ·have hm': ¬(xs.length:Int)≤12:=by omega
    go_wp2_with fail
    go_ret
    exact ⟨by first|rfl|(rw [HE.out,decide_eq_false hm];rfl)|rfl|simp [hm]|(simp;omega),hbr⟩
end Go.Proofs.YtlfmefojcmpfeaaGreatDoor
