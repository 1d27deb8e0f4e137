/-
  Contracts for the walks and pure facts, several texts in one: each theorem says what it proves, and under which conditions.
-/
import Derived.Test.YtlfmefojcmpfeaaGreatDoorUT
import Derived.Test.YtlfmefojcmpfeaaGreatDoorU26
set_option linter.unusedSimpArgs false
set_option linter.unusedVariables false
set_option maxHeartbeats 16000000
set_option maxRecDepth 100000
namespace Go.Proofs.YtlfmefojcmpfeaaGreatDoor
open Go.RowKit
theorem specNeed_c (S:Nat→Prop) (d:NeedD) (cs:List Value) (w:World) (hd:shNeed.lies S w cs d) (hr:d.r.size≤1048576):
  Calls Tryz.prog 176 #[.agg cs.toArray] w fun e w'=>e=.returned (.bool (needB d))∧Below w.heap.size w w':=by
 obtain ⟨rfl,s_n,s_r⟩:=hd
 have hbx: ∀ o,Below w.heap.size w (w.alloc o):=fun o=>(Below.refl _ _).alloc (Nat.le_refl _) _
 have HN:=fun w1=>specName_c d.n s_n w1
 have HR: ∀ w1,Calls Tryz.prog 89 #[.string d.r] w1 fun e w'=>∃ v,e=.returned (.tuple #[v,.bool (rangeI d.r).isSome])∧Below w1.heap.size w1 w':=fun w1=>
  (specRange_c d.r hr w1).mono fun e w' ⟨v,a,_,b⟩=>⟨v,a,b⟩
 unfold needB
 obtain ⟨p,hp⟩: ∃ p,p=nameB d.n:=⟨_,rfl⟩
 obtain ⟨q,hq⟩: ∃ q,q=(rangeI d.r).isSome:=⟨_,rfl⟩
 simp only [←hp] at HN ⊢
 simp only [←hq] at HR ⊢
 replace HN:=hidden HN
 replace HR:=hidden HR
 unfold maxLen at s_n s_r
 clear hp hq
 cases p with
 |false=>
  go_enter Tryz.func176,Tryz.ntmps176
  go_wp2_with fail
  go_at_call 89
  refine (HR.out _).mono ?_
  rintro e w1 ⟨v,rfl,b1⟩
  have k1:Below w.heap.size w w1:=(hbx _).trans (b1.mono (hbx _).size)
  have hx1:=boxAt b1
  have x0:=vblk_cell hx1 0
  have x1:=vblk_cell hx1 1
  simp only [List.getElem?_toArray,List.getElem?_cons_succ,List.getElem?_cons_zero] at x0 x1
  go_wp2_with fail
  go_at_call 94
  refine (HN.out _).mono ?_
  rintro e w' ⟨rfl,rfl⟩
  go_wp2_with fail
  go_ret
  exact ⟨rfl,k1⟩
 |true=>
  by_cases hz:d.r.size≤20
  ·have hz':(d.r.size:Int)≤20:=by omega
   rw [decide_eq_true hz]
   go_enter Tryz.func176,Tryz.ntmps176
   go_wp2_with fail
   go_at_call 89
   refine (HR.out _).mono ?_
   rintro e w1 ⟨v,rfl,b1⟩
   have k1:Below w.heap.size w w1:=(hbx _).trans (b1.mono (hbx _).size)
   have hx1:=boxAt b1
   have x0:=vblk_cell hx1 0
   have x1:=vblk_cell hx1 1
   simp only [List.getElem?_toArray,List.getElem?_cons_succ,List.getElem?_cons_zero] at x0 x1
   go_wp2_with fail
   go_at_call 94
   refine (HN.out _).mono ?_
   rintro e w' ⟨rfl,rfl⟩
   go_wp2_with fail
   go_ret
   exact ⟨by cases q<;>rfl,k1⟩
  ·have hz': ¬(d.r.size:Int)≤20:=by omega
   rw [decide_eq_false hz]
   go_enter Tryz.func176,Tryz.ntmps176
   go_wp2_with fail
   go_at_call 89
   refine (HR.out _).mono ?_
   rintro e w1 ⟨v,rfl,b1⟩
   have k1:Below w.heap.size w w1:=(hbx _).trans (b1.mono (hbx _).size)
   have hx1:=boxAt b1
   have x0:=vblk_cell hx1 0
   have x1:=vblk_cell hx1 1
   simp only [List.getElem?_toArray,List.getElem?_cons_succ,List.getElem?_cons_zero] at x0 x1
   go_wp2_with fail
   go_at_call 94
   refine (HN.out _).mono ?_
   rintro e w' ⟨rfl,rfl⟩
   go_wp2_with fail
   go_ret
   exact ⟨rfl,k1⟩
theorem specNeeds_c (S:Nat→Prop) (v:Value) (xs:List NeedD) (w:World) (hv:RowIn shNeed S w v xs) (hB: ∀ b,S b→b<w.heap.size) (hw: ∀ d∈xs,d.r.size≤1048576):
  Calls Tryz.prog 96 #[v] w fun e w'=>e=.returned (.bool (needsB xs))∧Below w.heap.size w w':=by
 obtain ⟨a,cap,rfl,hl,hc,ha⟩:=hv
 unfold maxLen at hl
 obtain ⟨Q,hQ⟩: ∃ R,R=rowB (needB) NeedD.n xs:=⟨_,rfl⟩
 unfold needsB
 rw [←hQ]
 have HQ:=hidden hQ
 clear hQ
 go_enter Tryz.func96,Tryz.ntmps96
 go_wp2_with fail
 go_loopw [3] (fun vi wr=>∃ k:Nat,k≤xs.length∧vi=.int .i64 (k:Int)∧Hid (rowUpto (needB) NeedD.n xs k=true)∧Below w.heap.size w wr) (fun vi _=>xs.length-(intOf vi).toNat)
 case atStart=>exact ⟨0,Nat.zero_le _,rfl,rfl,Below.refl _ _⟩
 case round=>
  obtain ⟨k,hk,rfl,hh,hbr⟩:=hrel
  by_cases hlt':k<xs.length
  ·rcases ha with rfl|⟨b,off,rfl,hlt,ha⟩
   ·simp at hlt'
   have hbb:b<wr.heap.size:=Nat.lt_of_lt_of_le (hB b hlt) hbr.size
   have hBr: ∀ b,S b→b<wr.heap.size:=fun b h=>Nat.lt_of_lt_of_le (hB b h) hbr.size
   obtain ⟨cs,hL,hcell⟩:=ha k hlt'
   replace hL:=shNeed.keep (.of hbr hB) hL
   replace hcell:=hcell.keep (.of hbr hB) hlt
   have HB:Hid (rowOk (needB) NeedD.n xs[k] (preX xs k)=false→Q=false):=fun h=>HQ.out.trans (rowUpto_bad hlt' h _ hlt')
   have HG:Hid (rowOk (needB) NeedD.n xs[k] (preX xs k)=true→rowUpto (needB) NeedD.n xs (k+1)=true):=fun h=>rowUpto_step hlt' hh.out h
   have hpv: ∀ j,k=j+1→∃ c,preX xs k=some c∧wr.cell? ⟨b,off+j*2,none⟩=some (.string c.n):=fun j hj=>by
    subst hj
    have hj':j<xs.length:=by omega
    obtain ⟨cs',hL',hcell'⟩:=ha j hj'
    replace hcell':=hcell'.keep (.of hbr hB) hlt
    obtain ⟨rfl,_⟩:=hL'
    exact ⟨xs[j],by rw [preX,List.getElem?_eq_getElem hj'],hcell' 0 (by simp)⟩
   obtain ⟨o,ho⟩: ∃ o,o=preX xs k:=⟨_,rfl⟩
   rw [←ho] at HB HG hpv
   have h0o:k=0→o=none:=fun h=>by subst h;exact ho
   have HC:Hid (∀ w1,Below wr.heap.size wr w1→Calls Tryz.prog 176 #[.agg cs.toArray] w1 fun e w'=>e=.returned (.bool (needB xs[k]))∧Below w1.heap.size w1 w'):=fun w1 h=>specNeed_c S xs[k] cs w1 (shNeed.keep (.of h hBr) hL) (hw _ (List.getElem_mem hlt'))
   obtain ⟨d,hd⟩: ∃ d,d=xs[k]:=⟨_,rfl⟩
   rw [←hd] at hL HC HB HG
   obtain ⟨r,hr⟩: ∃ r,r=needB d:=⟨_,rfl⟩
   rw [←hr] at HC
   obtain ⟨rfl,s_n,s_r⟩:=hL
   have hki:(k:Int)<(xs.length:Int):=by omega
   have hd0:Below wr.heap.size wr wr.drew:=(Below.refl _ _).drew
   have e0:wr.cell? ⟨b,off+k*2,none⟩=some (.string d.n):=hcell 0 (by simp)
   have e1:wr.cell? ⟨b,off+k*2+1,none⟩=some (.string d.r):=hcell 1 (by simp)
   clear ha hd ho hw hh hcell HQ s_n s_r
   cases r with
   |false=>
    have HX:Hid (needB d=false):=hr.symm
    clear hr h0o hpv
    have KEEP:Hid (∀ w1,Below wr.heap.size wr w1→w1.cell? ⟨b,off+k*2,none⟩=some (.string d.n)∧w1.cell? ⟨b,off+k*2+1,none⟩=some (.string d.r)):=fun w1 h=>⟨(h.cell (by simpa using hbb)).trans e0,(h.cell (by simpa using hbb)).trans e1⟩
    clear e0 e1
    go_wp2_with fail
    refine wp_region_held_drew (S:=(fun w'=>w'.cell? ⟨b,off+k*2,none⟩=some (.string d.n)∧w'.cell? ⟨b,off+k*2+1,none⟩=some (.string d.r))) (by kernel_rfl) ?SR10 (fun hHeld=>?_)
    case SR10=>(first|(with_reducible exact KEEP.out _ hd1)|(with_reducible exact KEEP.out _ hd0))
    refine tk 0 hHeld (h:=?_)
    refine tk 1 hHeld (h:=?_)
    refine tk 2 hHeld (h:=?_)
    refine tk 3 hHeld (h:=?_)
    refine wpAnyH_ready (rs:=[4]) (by kernel_rfl) (by simp) ?_
    refine AllReadyH.cons rfl (fun K hK=>?_) AllReadyH.nil
    go_simp
    go_wp2_with (go_at_call 176;refine (HC.out _ hd0).mono ?_;rintro e w1 ⟨rfl,b1⟩;have hd1:Below wr.heap.size wr w1:=hd0.trans (b1.mono hd0.size))
    clear hHeld
    refine hK.out _ _ ?SR15 (fun hHeld=>?_)
    case SR15=>((try dsimp only);first|(with_reducible exact KEEP.out _ hd1)|(with_reducible exact KEEP.out _ hd0))
    clear hK K
    refine tk 5 hHeld (h:=?_)
    refine tk 6 hHeld (h:=?_)
    refine tk 7 hHeld (v:=undef) (hy:=Or.inr ⟨by rfl,rfl⟩) (h:=?_)
    refine tk 8 hHeld (v:=undef) (hy:=Or.inr ⟨by rfl,rfl⟩) (h:=?_)
    refine tk 9 hHeld (v:=undef) (hy:=Or.inr ⟨by rfl,rfl⟩) (h:=?_)
    refine tk 10 hHeld (v:=undef) (hy:=Or.inr ⟨by rfl,rfl⟩) (h:=?_)
    refine tk 11 hHeld (v:=undef) (hy:=Or.inr ⟨by rfl,rfl⟩) (h:=?_)
    refine tk 12 hHeld (v:=undef) (hy:=Or.inr ⟨by rfl,rfl⟩) (h:=?_)
    refine tk 13 hHeld (v:=undef) (hy:=Or.inr ⟨by rfl,rfl⟩) (h:=?_)
    refine tk 14 hHeld (v:=undef) (hy:=Or.inr ⟨by rfl,rfl⟩) (h:=?_)
    refine tk 15 hHeld (v:=undef) (hy:=Or.inr ⟨by rfl,rfl⟩) (h:=?_)
    refine tk 16 hHeld (v:=undef) (hy:=Or.inr ⟨by rfl,rfl⟩) (h:=?_)
    refine tk 17 hHeld (v:=undef) (hy:=Or.inr ⟨by rfl,rfl⟩) (h:=?_)
    refine tk 18 hHeld (v:=undef) (hy:=Or.inr ⟨by rfl,rfl⟩) (h:=?_)
    refine tk 19 hHeld (v:=undef) (hy:=Or.inr ⟨by rfl,rfl⟩) (h:=?_)
    refine tk 20 hHeld (v:=undef) (hy:=Or.inr ⟨by rfl,rfl⟩) (h:=?_)
    refine tk 21 hHeld (v:=undef) (hy:=Or.inr ⟨by rfl,rfl⟩) (h:=?_)
    refine tk 22 hHeld (v:=undef) (hy:=Or.inr ⟨by rfl,rfl⟩) (h:=?_)
    refine tk 23 hHeld (h:=?_)
    refine wpAnyH_done (by kernel_rfl) ?_ _
    go_wp2_with fail
    go_ret
    exact ⟨by rw [HB.out (rowOk_no HX.out)];rfl,hbr.trans (hd1.mono hbr.size)⟩
   |true=>
    have HX:Hid (needB d=true):=hr.symm
    clear hr
    cases k with
    |zero=>
     have h1:=h0o rfl
     subst h1
     clear h0o hpv
     rw [Nat.zero_mul,Nat.add_zero] at e0 e1
     have KEEP:Hid (∀ w1,Below wr.heap.size wr w1→w1.cell? ⟨b,off,none⟩=some (.string d.n)∧w1.cell? ⟨b,off+1,none⟩=some (.string d.r)):=fun w1 h=>⟨(h.cell (by simpa using hbb)).trans e0,(h.cell (by simpa using hbb)).trans e1⟩
     clear e0 e1
     go_wp2_with fail
     refine wp_region_held_drew (S:=(fun w'=>w'.cell? ⟨b,off,none⟩=some (.string d.n)∧w'.cell? ⟨b,off+1,none⟩=some (.string d.r))) (by kernel_rfl) ?SR20 (fun hHeld=>?_)
     case SR20=>(first|(with_reducible exact KEEP.out _ hd1)|(with_reducible exact KEEP.out _ hd0))
     refine tk 0 hHeld (h:=?_)
     refine tk 1 hHeld (h:=?_)
     refine tk 2 hHeld (h:=?_)
     refine tk 3 hHeld (h:=?_)
     refine wpAnyH_ready (rs:=[4]) (by kernel_rfl) (by simp) ?_
     refine AllReadyH.cons rfl (fun K hK=>?_) AllReadyH.nil
     go_simp
     go_wp2_with (go_at_call 176;refine (HC.out _ hd0).mono ?_;rintro e w1 ⟨rfl,b1⟩;have hd1:Below wr.heap.size wr w1:=hd0.trans (b1.mono hd0.size))
     clear hHeld
     refine hK.out _ _ ?SR25 (fun hHeld=>?_)
     case SR25=>((try dsimp only);first|(with_reducible exact KEEP.out _ hd1)|(with_reducible exact KEEP.out _ hd0))
     clear hK K
     refine tk 5 hHeld (h:=?_)
     refine tk 6 hHeld (h:=?_)
     refine tk 7 hHeld (h:=?_)
     refine tk 8 hHeld (h:=?_)
     refine tk 9 hHeld (h:=?_)
     refine tk 10 hHeld (v:=undef) (hy:=Or.inr ⟨by rfl,rfl⟩) (h:=?_)
     refine tk 11 hHeld (v:=undef) (hy:=Or.inr ⟨by rfl,rfl⟩) (h:=?_)
     refine tk 12 hHeld (v:=undef) (hy:=Or.inr ⟨by rfl,rfl⟩) (h:=?_)
     refine tk 13 hHeld (v:=undef) (hy:=Or.inr ⟨by rfl,rfl⟩) (h:=?_)
     refine tk 14 hHeld (v:=undef) (hy:=Or.inr ⟨by rfl,rfl⟩) (h:=?_)
     refine tk 15 hHeld (v:=undef) (hy:=Or.inr ⟨by rfl,rfl⟩) (h:=?_)
     refine tk 16 hHeld (v:=undef) (hy:=Or.inr ⟨by rfl,rfl⟩) (h:=?_)
     refine tk 17 hHeld (v:=undef) (hy:=Or.inr ⟨by rfl,rfl⟩) (h:=?_)
     refine tk 18 hHeld (v:=undef) (hy:=Or.inr ⟨by rfl,rfl⟩) (h:=?_)
     refine tk 19 hHeld (v:=undef) (hy:=Or.inr ⟨by rfl,rfl⟩) (h:=?_)
     refine tk 20 hHeld (v:=undef) (hy:=Or.inr ⟨by rfl,rfl⟩) (h:=?_)
     refine tk 21 hHeld (v:=undef) (hy:=Or.inr ⟨by rfl,rfl⟩) (h:=?_)
     refine tk 22 hHeld (h:=?_)
     refine tk 23 hHeld (h:=?_)
     refine wpAnyH_done (by kernel_rfl) ?_ _
     go_wp2_with fail
     go_roundw
     case rel=>exact ⟨0+1,by omega,by go_num,HG.out (rowOk_first HX.out),hbr.trans (hd1.mono hbr.size)⟩
     case measure=>simp [intOf];omega
    |succ j=>
     obtain ⟨c,h1,e9⟩:=hpv j rfl
     subst h1
     clear h0o hpv
     have hj0:(0:Int)≤(j:Int)+1:=by omega
     have hj1:decide ((0:Int)<(j:Int)+1)=true:=decide_eq_true (by omega)
     have hj2:(j:Int)+1<(xs.length:Int):=by omega
     have hj3:(j:Int)<(xs.length:Int):=by omega
     have hjw:IntKind.i64.wrap (j:Int)=(j:Int):=IntWalk.i64_in _ ⟨by omega,by omega⟩
     have KEEP:Hid (∀ w1,Below wr.heap.size wr w1→w1.cell? ⟨b,off+(j+1)*2,none⟩=some (.string d.n)∧w1.cell? ⟨b,off+(j+1)*2+1,none⟩=some (.string d.r)∧w1.cell? ⟨b,off+j*2,none⟩=some (.string c.n)):=fun w1 h=>⟨(h.cell (by simpa using hbb)).trans e0,(h.cell (by simpa using hbb)).trans e1,(h.cell (by simpa using hbb)).trans e9⟩
     clear e0 e1 e9
     go_wp2_with fail
     refine wp_region_held_drew (S:=(fun w'=>w'.cell? ⟨b,off+(j+1)*2,none⟩=some (.string d.n)∧w'.cell? ⟨b,off+(j+1)*2+1,none⟩=some (.string d.r)∧w'.cell? ⟨b,off+j*2,none⟩=some (.string c.n))) (by kernel_rfl) ?SR30 (fun hHeld=>?_)
     case SR30=>(first|(with_reducible exact KEEP.out _ hd1)|(with_reducible exact KEEP.out _ hd0))
     refine tk 0 hHeld (h:=?_)
     refine tk 1 hHeld (h:=?_)
     refine tk 2 hHeld (h:=?_)
     refine tk 3 hHeld (h:=?_)
     refine wpAnyH_ready (rs:=[4]) (by kernel_rfl) (by simp) ?_
     refine AllReadyH.cons rfl (fun K hK=>?_) AllReadyH.nil
     go_simp
     go_wp2_with (go_at_call 176;refine (HC.out _ hd0).mono ?_;rintro e w1 ⟨rfl,b1⟩;have hd1:Below wr.heap.size wr w1:=hd0.trans (b1.mono hd0.size))
     clear hHeld
     refine hK.out _ _ ?SR35 (fun hHeld=>?_)
     case SR35=>((try dsimp only);first|(with_reducible exact KEEP.out _ hd1)|(with_reducible exact KEEP.out _ hd0))
     clear hK K
     refine tk 5 hHeld (h:=?_)
     refine tk 6 hHeld (h:=?_)
     refine tk 7 hHeld (h:=?_)
     refine tk 8 hHeld (h:=?_)
     refine tk 9 hHeld (h:=?_)
     refine tk 10 hHeld (h:=?_)
     refine tk 11 hHeld (h:=?_)
     refine tk 12 hHeld (h:=?_)
     refine tk 13 hHeld (h:=?_)
     refine tk 14 hHeld (h:=?_)
     refine tk 15 hHeld (h:=?_)
     refine tk 16 hHeld (h:=?_)
     refine tk 17 hHeld (h:=?_)
     refine tk 18 hHeld (h:=?_)
     refine tk 19 hHeld (h:=?_)
     refine tk 20 hHeld (h:=?_)
     refine tk 21 hHeld (h:=?_)
     refine tk 22 hHeld (h:=?_)
     refine tk 23 hHeld (h:=?_)
     refine wpAnyH_done (by kernel_rfl) ?_ _
     go_wp2_with fail
     ·have hlx:(!Op.bytesLess c.n.toList d.n.toList)=true:=by assumption
      go_ret
      exact ⟨by rw [HB.out (rowOk_less (by simpa using hlx))];rfl,hbr.trans (hd1.mono hbr.size)⟩
     ·have hlx:(!Op.bytesLess c.n.toList d.n.toList)=false:=by assumption
      go_roundw
      case rel=>exact ⟨j+1+1,by omega,by go_num,HG.out (by rw [rowOk_some HX.out];simpa using hlx),hbr.trans (hd1.mono hbr.size)⟩
      case measure=>simp [intOf];omega
  ·have he:k=xs.length:=by omega
   subst he
   have HE:Hid (Q=true):=HQ.out.trans hh.out
   clear ha hh HQ
   by_cases hm:xs.length≤4
   ·have hm':(xs.length:Int)≤4:=by omega
    go_wp2_with fail
    go_ret
    exact ⟨by first|rfl|(rw [HE.out,decide_eq_true hm];rfl)|(rw [HE.out,decide_eq_true hm];simp [hm];done)|rfl|simp [hm]|(simp;omega),hbr⟩
   ·have hm': ¬(xs.length:Int)≤4:=by omega
    go_wp2_with fail
    go_ret
    exact ⟨by first|rfl|(rw [HE.out,decide_eq_false hm];rfl)|rfl|simp [hm]|(simp;omega),hbr⟩
theorem l9All_c (S:Nat→Prop) (v:Value) (ns:List NeedD) (w:World) (hv:RowIn shNeed S w v ns) (hB: ∀ b,S b→b<w.heap.size) (hw:wtRow wtNeed ns≤1048576):
  Calls Tryz.prog 110 #[v] w fun e w'=>e=.returned (.bool (ns.all needB))∧Below w.heap.size w w':=by
 have hwe: ∀ d∈ns,wtNeed d≤1048576:=fun d hd=>Nat.le_trans (wt_wtRow wtNeed hd) hw
 obtain ⟨av,cv,rfl,hl,hc,ha⟩:=hv
 unfold maxLen at hl
 obtain ⟨R,hR⟩: ∃ R,R=ns.all needB:=⟨_,rfl⟩
 rw [←hR]
 have HR:=hidden hR
 have HWE:=hidden hwe
 clear hR hwe
 go_enter Tryz.func110,Tryz.ntmps110
 go_wp2_with fail
 go_loopw [3] (fun vi wr=>∃ k:Nat,k≤ns.length∧vi=.int .i64 (k:Int)∧Hid (∀ j (hj:j<ns.length),j<k→needB ns[j]=true)∧Below w.heap.size w wr) (fun vi _=>ns.length-(intOf vi).toNat)
 case atStart=>exact ⟨0,Nat.zero_le _,rfl,(fun j hj h=>by omega),Below.refl _ _⟩
 case round=>
  obtain ⟨k,hk,rfl,hno,hbr⟩:=hrel
  by_cases hlt':k<ns.length
  ·rcases ha with rfl|⟨b,off,rfl,hlt,ha⟩
   ·simp at hlt'
   obtain ⟨cs,hL,hcell⟩:=ha k hlt'
   have hcell2:=hcell.keep (.of hbr hB) hlt
   have hwk:=HWE.out ns[k] (List.getElem_mem hlt')
   have HF:Hid (needB ns[k]=false→R=false):=fun h=>by
    rw [HR.out]
    rw [List.all_eq_false]
    exact ⟨ns[k],List.getElem_mem hlt',by simp [h]⟩
   have HN:Hid (needB ns[k]=true→∀ j (hj:j<ns.length),j<k+1→needB ns[j]=true):=fun h j hj hjk=>by
    by_cases e:j=k
    ·subst e;exact h
    ·exact hno.out j hj (by omega)
   obtain ⟨d,hd⟩: ∃ d,d=ns[k]:=⟨_,rfl⟩
   rw [←hd] at hL HF HN hwk
   have HC': ∀ w1,Below wr.heap.size wr w1→Calls Tryz.prog 176 #[.agg cs.toArray] w1 fun e w'=>e=.returned (.bool (needB d))∧Below w1.heap.size w1 w':=fun w1 h=>specNeed_c S d cs w1 (shNeed.keep (.of (hbr.trans (h.mono hbr.size)) hB) hL) (by have h9:d.n.size+d.r.size≤1048576:=hwk;omega)
   obtain ⟨rfl,_,_⟩:=hL
   obtain ⟨B,hBB⟩: ∃ B,B=needB d:=⟨_,rfl⟩
   rw [←hBB] at HF HN HC'
   have HC:=hidden HC'
   have e0:wr.cell? ⟨b,off+k*2,none⟩=some (.string d.n):=hcell2 0 (by simp)
   have e1:wr.cell? ⟨b,off+k*2+1,none⟩=some (.string d.r):=hcell2 1 (by simp)
   have hki:(k:Int)<(ns.length:Int):=by omega
   clear ha hd hcell hcell2 hno HC' hBB hwk
   go_wp2_with fail
   go_at_call 176
   refine (HC.out _ (Below.refl _ _)).mono ?_
   rintro e w1 ⟨rfl,b1⟩
   have k1:=hbr.trans (b1.mono hbr.size)
   clear HC e0 e1
   cases B with
   |false=>
    have HE:=hidden (HF.out rfl)
    clear HF HN
    go_wp2_with fail
    go_ret
    exact ⟨by rw [HE.out];rfl,k1⟩
   |true=>
    have HN2:=hidden (HN.out rfl)
    clear HF HN
    go_wp2_with fail
    go_roundw
    case rel=>exact ⟨k+1,by omega,by go_num,HN2.out,k1⟩
    case measure=>simp [intOf];omega
  ·have he:k=ns.length:=by omega
   subst he
   have HE:Hid (R=true):=by
    show _=_
    rw [HR.out,List.all_eq_true]
    intro x hx
    obtain ⟨j,hj,rfl⟩:=List.mem_iff_getElem.1 hx
    exact hno.out j hj hj
   clear ha hno HR
   go_wp2_with fail
   go_ret
   exact ⟨by rw [HE.out];rfl,hbr⟩
theorem way_skip {xs:List EntryD} {f i:Nat} {l:List PickD} {n:NeedD} {r:List NeedD} (h:firstP l n.n=some i) (hm:met1 l n=true):way xs f l (n::r)=way xs f l r:=by
 have e:skipD l (n::r)=skipD l r:=by
  show (match firstP l n.n with| .none=>SoS.opn n r| .some _=>if met1 l n=true then skipD l r else .bad)=_
  rw [h]
  simp only
  rw [if_pos hm]
 cases hs:skipD l r with
 |bad=>rw [way_bad (e.trans hs),way_bad hs]
 |done=>rw [way_done (e.trans hs),way_done hs]
 |opn a b=>rw [way_open (e.trans hs),way_open hs]
theorem way_stop {xs:List EntryD} {f i:Nat} {l:List PickD} {n:NeedD} {r:List NeedD} (h:firstP l n.n=some i) (hm:met1 l n=false):way xs f l (n::r)=.none f:=by
 refine way_bad ?_
 show (match firstP l n.n with| .none=>SoS.opn n r| .some _=>if met1 l n=true then skipD l r else .bad)=_
 rw [h]
 simp only
 rw [if_neg (by rw [hm];simp)]
theorem way_new {xs:List EntryD} {f:Nat} {l:List PickD} {n:NeedD} {r:List NeedD} (h:firstP l n.n=none):way xs f l (n::r)=tryAll (fun f' e=>way xs f' (insPick l (pickE n.n e)) (r++e.needs)) (candD xs n) f:=by
 refine way_open ?_
 show (match firstP l n.n with| .none=>SoS.opn n r| .some _=>if met1 l n=true then skipD l r else .bad)=_
 rw [h]
theorem tryAll_nil (go:Nat→EntryD→SoR) (f:Nat):tryAll go [] f=.none f:=rfl
theorem tryAll_zero (go:Nat→EntryD→SoR) (e:EntryD) (es:List EntryD):tryAll go (e::es) 0=.fuel:=by unfold tryAll;rw [if_pos rfl]
theorem tryAll_succ (go:Nat→EntryD→SoR) (e:EntryD) (es:List EntryD) (f:Nat):tryAll go (e::es) (f+1)=match go f e with| .none f'=>tryAll go es f'|r=>r:=by
 conv=>lhs;unfold tryAll
 rw [if_neg (by omega)]
 rfl
def restD (xs:List EntryD) (n:NeedD) (i:Nat):List EntryD:=((newD xs n.n).drop i).filter fun e=>mayB n.r e.vA e.vB e.vC e.vP
theorem restD_zero (xs:List EntryD) (n:NeedD):restD xs n 0=candD xs n:=by simp [restD,candD]
theorem restD_end (xs:List EntryD) (n:NeedD) (i:Nat) (h:(newD xs n.n).length≤i):restD xs n i=[]:=by unfold restD;rw [List.drop_eq_nil_of_le h];rfl
theorem restD_take (xs:List EntryD) (n:NeedD) (i:Nat) (e:EntryD) (h:(newD xs n.n)[i]?=some e):restD xs n i=if mayB n.r e.vA e.vB e.vC e.vP=true then e::restD xs n (i+1) else restD xs n (i+1):=by
 obtain ⟨hi,rfl⟩:=List.getElem?_eq_some_iff.1 h
 unfold restD
 rw [List.drop_eq_getElem_cons hi,List.filter_cons]
def RunB (w:World) (gx:Nat) (rv:Value) (f:Nat) (o:Bool):Prop:=w.ownsRow 0 144 3 (.slice (some ⟨gx,0,none⟩) 1 1) 1 [rv,.int .i64 (f:Int),.bool o]
theorem RunB.below {w w':World} {gx f:Nat} {rv:Value} {o:Bool} (h:RunB w gx rv f o) (hb:Below w.heap.size w w'):RunB w' gx rv f o:=owns_of_belowN h hb
theorem RunB.cells {w:World} {gx f:Nat} {rv:Value} {o:Bool} (h:RunB w gx rv f o):w.cell? ⟨gx,0,none⟩=some rv∧w.cell? ⟨gx,1,none⟩=some (.int .i64 (f:Int))∧w.cell? ⟨gx,2,none⟩=some (.bool o):=⟨h.cellAt 0 (by omega),h.cellAt 1 (by omega),h.cellAt 2 (by omega)⟩
theorem RunB.lt {w:World} {gx f:Nat} {rv:Value} {o:Bool} (h:RunB w gx rv f o):gx<w.heap.size:=(World.ownsRow.lt h gx rfl).2
theorem RunB.less {w:World} {gx f:Nat} {rv:Value} {o:Bool} (h:RunB w gx rv f o) (f':Nat):RunB (w.setCell ⟨gx,1,none⟩ (.int .i64 (f':Int))) gx rv f' o∧w.grownBy (w.setCell ⟨gx,1,none⟩ (.int .i64 (f':Int))) (some gx):=World.ownsRow.stored h 1 (.int .i64 (f':Int))
theorem RunB.over {w:World} {gx f:Nat} {rv:Value} {o:Bool} (h:RunB w gx rv f o):RunB (w.setCell ⟨gx,2,none⟩ (.bool true)) gx rv f true∧w.grownBy (w.setCell ⟨gx,2,none⟩ (.bool true)) (some gx):=World.ownsRow.stored h 2 (.bool true)
theorem kp_grown {S:Nat→Prop} {w w':World} {gx:Nat} (h:w.grownBy w' (some gx)) (hs: ∀ b,S b→b<w.heap.size∧b≠gx):Kp S w w':=fun b hb=>h.block b (hs b hb).1 (fun e=>(hs b hb).2 (Option.some.inj e))
theorem grown_frozen {w:World} {gx f:Nat} {rv:Value} {o:Bool} (h:RunB w gx rv f o) (j:Nat):w.frozen? ⟨gx,j,none⟩=false:=World.ownsRow.frozenAt h j
theorem RowP.grown {B gx f:Nat} {w w':World} {v rv:Value} {ps:List PC} {o:Bool} (h:RowP B w v ps) (hr:RunB w gx rv f o) (hg:w.grownBy w' (some gx)):RowP B w' v ps:=
 ⟨h.1.kept hg (owns_apart h.1 hr (by decide)),fun p hp=>(h.2 p hp).kept hg (owns_apart (h.2 p hp) hr (by decide))⟩
theorem RowE.grownX {B gx f:Nat} {w w':World} {v rv:Value} {ps:List EC} {o:Bool} (h:RowE B w v ps) (hr:RunB w gx rv f o) (hg:w.grownBy w' (some gx)):RowE B w' v ps:=
 ⟨h.1.kept hg (owns_apart h.1 hr (by decide)),fun p hp=>⟨(h.2 p hp).1.kept hg (owns_apart (h.2 p hp).1 hr (by decide)),(h.2 p hp).2.kept hg (owns_apart (h.2 p hp).2 hr (by decide))⟩⟩
theorem rowIn_src {S:Nat→Prop} {w:World} {ad:Addr} {n c:Nat} {r:List NeedD} (h:RowIn shNeed S w (.slice (some ad) n c) r): ∀ j u,(needsV r)[j]?=some u→w.cell? (ad.add j)=some u:=by
 obtain ⟨q',cap',hv,hm,hc,h⟩:=h
 injection hv with h1 h2 h3
 intro j u hu
 rcases h with rfl|⟨b,off,hq,hb,h⟩
 ·simp [needsV] at hu
 ·rw [hq] at h1
  obtain rfl:=Option.some.inj h1
  have hj:j<r.length*2:=by rw [←needsV_length];exact (List.getElem?_eq_some_iff.1 hu).1
  obtain ⟨a,k,rfl,hk⟩: ∃ a k,j=a*2+k∧k<2:=⟨j / 2,j % 2,by omega,Nat.mod_lt _ (by omega)⟩
  have ha:a<r.length:=by omega
  obtain ⟨cs,hl,hcs⟩:=h a ha
  obtain ⟨rfl,_⟩:=hl
  rw [show shNeed.n=2 from rfl] at hcs
  have ea:((⟨b,off,none⟩:Addr).add (a*2+k))=⟨b,off+a*2+k,none⟩:=by unfold Addr.add;split<;>simp_all<;>omega
  rw [ea]
  obtain ⟨g1,g2⟩:=needsV_at r a ha
  match k,hk with
  |0,_=>
   have h5:=hcs 0 (by simp)
   rw [Nat.add_zero] at hu
   rw [g1] at hu
   simpa [←Option.some.inj hu] using h5
  |1,_=>
   have h5:=hcs 1 (by simp)
   rw [g2] at hu
   simpa [←Option.some.inj hu] using h5
theorem mem_insG {α:Type} {f:α→α→Bool} {ys:List α} {x y:α} (h:y∈insG f ys x):y∈ys∨y=x:=by
 unfold insG at h
 rcases List.mem_append.1 h with h|h
 ·exact .inl (List.mem_of_mem_take h)
 ·rcases List.mem_cons.1 h with rfl|h
  ·exact .inr rfl
  ·exact .inl (List.mem_of_mem_drop h)
theorem RowP.zero {B:Nat} {w:World} {v:Value} {ps:List PC} (h:RowP B w v ps):RowP 0 w v ps:=⟨owns_lo (Nat.zero_le _) h.1,h.2⟩
theorem RowE.zero {B:Nat} {w:World} {v:Value} {ps:List EC} (h:RowE B w v ps):RowE 0 w v ps:=⟨owns_lo (Nat.zero_le _) h.1,h.2⟩
theorem insG_length {α:Type} (f:α→α→Bool) (ys:List α) (x:α):(insG f ys x).length=ys.length+1:=by
 unfold insG
 simp only [List.length_append,List.length_cons,List.length_take,List.length_drop]
 omega
theorem runB_apartE {w:World} {gx f ga M c:Nat} {rv:Value} {o:Bool} {es:List EC} (h:RunB w gx rv f o) (he:RowE 0 w (.slice (some ⟨ga,0,none⟩) M c) es):ga≠gx:=fun e=>by
 subst e
 rcases owns_apart he.1 h (by decide) with h1|h1
 ·cases h1
 ·exact h1 rfl
def smallN (d:NeedD):Prop:=d.n.size≤10∧d.r.size≤1048576
def smallE (d:EntryD):Prop:=bulkS d.vP≤27∧d.needs.length≤1048576∧∀ n∈d.needs,smallN n
def WayPost (gx:Nat) (rv:Value) (w:World) (res:SoR) (e:Ending) (w':World):Prop:=
 ∃ v' ok,e=.returned (.tuple #[v',.bool ok])∧w.grownBy w' (some gx)∧match res with
 | .good l' f'=>ok=true∧(∃ ps',RowP 0 w' v' ps'∧ps'.map PC.d=l')∧RunB w' gx rv f' false
 | .none f'=>ok=false∧RunB w' gx rv f' false
 | .fuel=>ok=false∧RunB w' gx rv 0 true
def WayC (xs:List EntryD) (Sr:Nat→Prop) (rv:Value) (gx f:Nat) (ns:List NeedD):Prop:=
 ∀ (w:World) (g cap:Nat) (ps:List PC) (Sn:Nat→Prop) (nv:Value),RunB w gx rv f false→RowIn shEntryO Sr w rv xs→(∀ b,Sr b→b<w.heap.size∧b≠gx)→
  RowP 0 w (.slice (some ⟨g,0,none⟩) ps.length cap) ps→(∀ p∈ps,wtPick p.d≤37)→ps.length+f≤10000→
  RowIn shNeed Sn w nv ns→(∀ b,Sn b→b<w.heap.size∧b≠gx)→(∀ d∈ns,smallN d)→ns.length+f*1048576≤1099511627776→
  Calls Tryz.prog 112 #[.pointer (some ⟨gx,0,none⟩),.slice (some ⟨g,0,none⟩) ps.length cap,nv] w (WayPost gx rv w (way xs f (ps.map PC.d) ns))
theorem wtP_sum {ps:List PC} (h: ∀ p∈ps,wtPick p.d≤37) (hl:ps.length≤10000):wtRow wtPick (ps.map PC.d)≤1048576:=by
 have h1: ∀ qs:List PC,(∀ p∈qs,wtPick p.d≤37)→wtRow wtPick (qs.map PC.d)≤qs.length*38:=by
  intro qs
  induction qs with
  |nil=>intro _;simp [wtRow]
  |cons p r ih=>
   intro hq
   have h2:=ih (fun q hq'=>hq q (by simp [hq']))
   have h3:=hq p (by simp)
   simp only [wtRow,List.map_cons,List.sum_cons,List.length_cons] at h2 ⊢
   omega
 have:=h1 ps h
 omega
theorem rowIn_tail {S:Nat→Prop} {w:World} {q:Option Addr} {cap:Nat} {n:NeedD} {r:List NeedD} (h:RowIn shNeed S w (.slice q (r.length+1) cap) (n::r)): ∃ b off,q=some ⟨b,off,none⟩∧S b∧w.cell? ⟨b,off,none⟩=some (.string n.n)∧w.cell? ⟨b,off+1,none⟩=some (.string n.r)∧n.n.size≤maxLen∧n.r.size≤maxLen∧r.length+1≤cap∧
  RowIn shNeed S w (.slice (if cap=1 then some ⟨b,off,none⟩ else some ⟨b,off+2,none⟩) r.length (cap-1)) r:=by
 obtain ⟨q',cap',hv,hm,hc,h⟩:=h
 injection hv with h1 h2 h3
 subst h1
 subst h3
 rcases h with h|⟨b,off,rfl,hb,h⟩
 ·cases h
 ·obtain ⟨cs,hl,hcs⟩:=h 0 (by simp)
  obtain ⟨rfl,hz1,hz2⟩:=hl
  simp only [List.length_cons] at hm hc
  have c0:=hcs 0 (by simp)
  have c1:=hcs 1 (by simp)
  simp only [Nat.zero_mul,Nat.add_zero,List.getElem_cons_zero,List.getElem_cons_succ] at c0 c1
  refine ⟨b,off,rfl,hb,c0,c1,hz1,hz2,hc,_,_,rfl,by omega,by omega,?_⟩
  cases r with
  |nil=>exact .inl rfl
  |cons n2 r2=>
   simp only [List.length_cons] at hc
   refine .inr ⟨b,off+2,by rw [if_neg (by omega)],hb,fun k hk=>?_⟩
   obtain ⟨cs,h4,h5⟩:=h (k+1) (by simpa using hk)
   refine ⟨cs,by simpa using h4,?_⟩
   have e:off+(k+1)*shNeed.n=off+2+k*shNeed.n:=by show off+(k+1)*2=off+2+k*2;omega
   rw [←e]
   exact h5
end Go.Proofs.YtlfmefojcmpfeaaGreatDoor
