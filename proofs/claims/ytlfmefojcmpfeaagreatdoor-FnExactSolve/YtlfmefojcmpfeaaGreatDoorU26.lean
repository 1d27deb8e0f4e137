/-
  Contracts for the walks and pure facts, several texts in one: each theorem says what it proves, and under which conditions.
-/
import Derived.Test.YtlfmefojcmpfeaaGreatDoorUT
import Derived.Test.YtlfmefojcmpfeaaGreatDoorU25
set_option linter.unusedSimpArgs false
set_option linter.unusedVariables false
set_option maxHeartbeats 16000000
set_option maxRecDepth 100000
namespace Go.Proofs.YtlfmefojcmpfeaaGreatDoor
open Go.RowKit
theorem addr_add0 (g j:Nat):((⟨g,0,none⟩:Addr).add j)=⟨g,j,none⟩:=by unfold Addr.add;split<;>simp_all
theorem src_blk {w:World} {g:Nat} {cs:List Value} {t:TypeId} (h:w.heap[g]?=some (.cells cs.toArray t (0,0))): ∀ j u,cs[j]?=some u→w.cell? ((⟨g,0,none⟩:Addr).add j)=some u:=fun j u hu=>by
 rw [addr_add0,vblk_cell h j]
 simpa using hu
theorem flatP_src {w:World} {g cap:Nat} {ps:List PC} (h:RowP 0 w (.slice (some ⟨g,0,none⟩) ps.length cap) ps): ∀ j u,(flatP ps)[j]?=some u→w.cell? ((⟨g,0,none⟩:Addr).add j)=some u:=fun j u hu=>by
 have hj:j<(flatP ps).length:=(List.getElem?_eq_some_iff.1 hu).1
 rw [flatP_length] at hj
 rw [addr_add0,h.1.cellAt _ (by omega),hu]
theorem flatP_one {w:World} {ps:List PC} (h: ∀ q∈ps,PicOwn w q): ∀ u∈flatP ps,u.oneCell'=true:=fun u hu=>by
 obtain ⟨q,hq,hu⟩:=List.mem_flatMap.1 hu
 obtain ⟨q0,c0,f0⟩:=pic_slice (h q hq)
 unfold PC.cells at hu
 rw [f0] at hu
 simp at hu
 rcases hu with rfl|rfl|rfl|rfl|rfl<;>rfl
def lessP (a b:PC):Bool:=Op.bytesLess b.d.name.toList a.d.name.toList
theorem posP_map (ys:List PC) (x:PC): ∀ k,posR lessP ys x k=posR (fun a b:PickD=>Op.bytesLess b.name.toList a.name.toList) (ys.map PC.d) x.d k:=by
 intro k
 induction k with
 |zero=>rfl
 |succ k ih=>
  show (if (ys[k]?.map fun y=>lessP y x)=some true then posR lessP ys x k else k+1)=(if ((ys.map PC.d)[k]?.map fun y=>Op.bytesLess x.d.name.toList y.name.toList)=some true then posR (fun a b:PickD=>Op.bytesLess b.name.toList a.name.toList) (ys.map PC.d) x.d k else k+1)
  rw [ih,List.getElem?_map,Option.map_map]
  rfl
theorem insP_map (ys:List PC) (x:PC):(insG lessP ys x).map PC.d=insPick (ys.map PC.d) x.d:=by
 unfold insPick insG
 rw [posP_map,List.length_map]
 simp
theorem boxp_far {N g:Nat} {o:Obj} (hn:N≠g) (cs:List Value): ∀ (w:World) (j:Nat),w.heap[N]?=some o→(setW w g j cs).heap[N]?=some o:=fun w j h=>(setW_kp (S:=fun b=>b=N) (fun e=>hn e.symm) cs w j N rfl).trans h
theorem l9Pick_c (g cap:Nat) (ps:List PC) (p:PC) (w:World) (hv:RowP 0 w (.slice (some ⟨g,0,none⟩) ps.length cap) ps) (hl:ps.length≤20000) (hp:PicOwn w p):
  Calls Tryz.prog 182 #[.slice (some ⟨g,0,none⟩) ps.length cap,.agg p.cells.toArray] w fun e w'=>∃ g' cap' qs,e=.returned (.slice (some ⟨g',0,none⟩) (ps.length+1) cap')∧RowP w.heap.size w' (.slice (some ⟨g',0,none⟩) (ps.length+1) cap') qs∧qs.map PC.d=insPick (ps.map PC.d) p.d∧Below w.heap.size w w':=by
 obtain ⟨i0,hi0,hz0,hz1,hz2⟩:=info_parts infoPick
 obtain ⟨q0,c0,f0⟩:=pic_slice hp
 obtain ⟨d,hd⟩: ∃ d,d=p.d:=⟨_,rfl⟩
 rw [←hd] at f0
 have hpc:p.cells=[.string d.name,.int .i64 d.vA,.int .i64 d.vB,.int .i64 d.vC,.slice q0 d.vP.length c0]:=by unfold PC.cells;rw [f0, ←hd]
 have HPC:=hidden hpc
 have HPD:=hidden hd
 rw [hpc]
 have k1:Below w.heap.size w (w.alloc (.cells #[.string d.name,.int .i64 d.vA,.int .i64 d.vB,.int .i64 d.vC,.slice q0 d.vP.length c0] 59)):=(Below.refl _ _).alloc (Nat.le_refl _) _
 have hbx:(w.alloc (.cells #[.string d.name,.int .i64 d.vA,.int .i64 d.vB,.int .i64 d.vC,.slice q0 d.vP.length c0] 59)).heap[w.heap.size]?=some (.cells #[.string d.name,.int .i64 d.vA,.int .i64 d.vB,.int .i64 d.vC,.slice q0 d.vP.length c0] 59 (0,0)):=vheap_new _ _
 have hv1:=hv.below k1
 have hp1:=hp.below k1
 have hs1:w.heap.size<(w.alloc (.cells #[.string d.name,.int .i64 d.vA,.int .i64 d.vB,.int .i64 d.vC,.slice q0 d.vP.length c0] 59)).heap.size:=by simp
 obtain ⟨w1,hw1⟩: ∃ w1,w1=w.alloc (.cells #[.string d.name,.int .i64 d.vA,.int .i64 d.vB,.int .i64 d.vC,.slice q0 d.vP.length c0] 59):=⟨_,rfl⟩
 rw [←hw1] at k1 hbx hv1 hp1 hs1
 have HS:Hid (∀ W,Below w1.heap.size w1 W→RowP 0 W (.slice (some ⟨g,0,none⟩) ps.length cap) ps∧PicOwn W p):=fun W h=>⟨hv1.below h,hp1.below h⟩
 have HBK:Hid (∀ W,Below w1.heap.size w1 W→Hid (W.heap[w.heap.size]?=some (.cells #[.string d.name,.int .i64 d.vA,.int .i64 d.vB,.int .i64 d.vC,.slice q0 d.vP.length c0] 59 (0,0)))):=fun W h=>(h.block _ hs1).trans hbx
 have KEEP:Hid (∀ W,Below w1.heap.size w1 W→W.cell? ⟨w.heap.size,0,none⟩=some (.string d.name)∧W.cell? ⟨w.heap.size,1,none⟩=some (.int .i64 d.vA)∧W.cell? ⟨w.heap.size,2,none⟩=some (.int .i64 d.vB)∧W.cell? ⟨w.heap.size,3,none⟩=some (.int .i64 d.vC)∧W.cell? ⟨w.heap.size,4,none⟩=some (.slice q0 d.vP.length c0)):=fun W h=>by
  have hX:=(HBK.out W h).out
  exact ⟨vblk_cell hX 0,vblk_cell hX 1,vblk_cell hX 2,vblk_cell hX 3,vblk_cell hX 4⟩
 have HW1:=hidden hw1
 have HK1:=hidden k1
 clear hd hpc hv hp hv1 hp1 hbx f0 hw1 k1
 go_enter Tryz.func182,Tryz.ntmps182
 go_wp2_with fail
 rw [←HW1.out]
 clear HW1
 go_cut [5] (fun v5 wc=>∃ (g5 cap5:Nat),v5=.slice (some ⟨g5,0,none⟩) (ps.length+1) cap5∧Hid (RowP w1.heap.size wc (.slice (some ⟨g5,0,none⟩) (ps.length+1) cap5) (ps++[p]))∧Hid (wc.heap[w.heap.size]?=some (.cells #[.string d.name,.int .i64 d.vA,.int .i64 d.vB,.int .i64 d.vC,.slice q0 d.vP.length c0] 59 (0,0)))∧Hid (PicOwn wc p)∧Hid (Below w1.heap.size w1 wc))
 case first=>
  refine wp_region_held_drew (S:=(fun W=>W.cell? ⟨w.heap.size,0,none⟩=some (.string d.name)∧W.cell? ⟨w.heap.size,1,none⟩=some (.int .i64 d.vA)∧W.cell? ⟨w.heap.size,2,none⟩=some (.int .i64 d.vB)∧W.cell? ⟨w.heap.size,3,none⟩=some (.int .i64 d.vC)∧W.cell? ⟨w.heap.size,4,none⟩=some (.slice q0 d.vP.length c0))) (by kernel_rfl) ?SS0 (fun hHeld=>?_)
  case SS0=>(exact KEEP.out _ ((Below.refl _ _).drew))
  have h0:Below w1.heap.size w1 w1.drew:=(Below.refl _ _).drew
  generalize w1.drew=w2 at hHeld h0 ⊢
  refine tk 1 hHeld (h:=?_)
  refine tk 3 hHeld (h:=?_)
  refine wpAnyH_ready (rs:=[0,4]) (by kernel_rfl) (by simp) ?_
  refine AllReadyH.cons rfl (fun K hK=>?_) (AllReadyH.cons rfl (fun K hK=>?_) AllReadyH.nil)
  ·go_simp
   clear hHeld
   have hA:Below w1.heap.size w1 (w2.alloc (.cells #[] 59)):=h0.alloc h0.size _
   have zhA:(w2.alloc (.cells #[] 59)).heap[w2.heap.size]?=some (.cells #[] 59 (0,0)):=vheap_new _ _
   have lhA:w1.heap.size≤w2.heap.size:=h0.size
   have shA:w2.heap.size<(w2.alloc (.cells #[] 59)).heap.size:=by simp
   have bhA:Below w2.heap.size w2 (w2.alloc (.cells #[] 59)):=(Below.refl _ _).alloc (Nat.le_refl _) _
   have ehA:(w2.alloc (.cells #[] 59)).ownsRow w1.heap.size 59 5 (.slice (some ⟨w2.heap.size,0,none⟩) 0 0) 0 []:=World.ownsRow_lit w2 #[] 0 h0.size (by unfold maxLen;omega) rfl
   refine hK.out _ (w2.alloc (.cells #[] 59)) ?G1 (fun hHeld=>?_)
   case G1=>(exact KEEP.out _ hA)
   clear hK K
   try simp only [Act.put,List.getElem_toArray,List.getElem_cons_zero,List.getElem_cons_succ,List.setIfInBounds_toArray,List.set_cons_zero,List.set_cons_succ]
   obtain ⟨ge,hqge⟩: ∃ g,g=w2.heap.size:=⟨_,rfl⟩
   obtain ⟨wA,hqwA⟩: ∃ V,V=w2.alloc (.cells #[] 59):=⟨_,rfl⟩
   rw [←hqge, ←hqwA] at zhA
   rw [←hqge] at lhA
   rw [←hqge, ←hqwA] at shA
   rw [←hqwA] at hA bhA hHeld
   rw [←hqge, ←hqwA] at ehA
   rw [←hqge, ←hqwA]
   have thA:w2.heap.size≤ge:=Nat.le_of_eq hqge.symm
   clear hqge hqwA
   refine wpAnyH_ready (rs:=[2,4]) (by kernel_rfl) (by simp) ?_
   refine AllReadyH.cons rfl (fun K hK=>?_) (AllReadyH.cons rfl (fun K hK=>?_) AllReadyH.nil)
   ·rw [if_pos (by rfl)]
    refine wp_append_own _ _ _ 49 rfl w1.heap.size 59 i0 (.agg #[.string ⟨#[]⟩,.int .i64 0,.int .i64 0,.int .i64 0,.slice none 0 0]) 5 64 Tryz.underlying49 hi0 hz0 hz1 hz2 rfl (by decide) _ 0 ([]) rfl ehA ⟨g,0,none⟩ ps.length cap (flatP ps) rfl (flatP_length ps) (flatP_src (HS.out _ hA).1) (flatP_one (HS.out _ hA).1.2) (by unfold maxLen;omega) (by omega) hA.size ?_
    intro v3 w3 o3 gr3 _
    have h3:Below w1.heap.size w1 w3:=Below.grown hA gr3 hA.size (fun j hj=>(ehA.lt j hj).1)
    clear hHeld
    refine hK.out _ _ ?G2 (fun hHeld=>?_)
    case G2=>(exact KEEP.out _ h3)
    clear hK K
    try simp only [Act.put,List.getElem_toArray,List.getElem_cons_zero,List.getElem_cons_succ,List.setIfInBounds_toArray,List.set_cons_zero,List.set_cons_succ]
    rw [Nat.zero_add,List.nil_append] at o3
    refine wpAnyH_ready (rs:=[4]) (by kernel_rfl) (by simp) ?_
    refine AllReadyH.cons rfl (fun K hK=>?_) AllReadyH.nil
    go_simp
    clear hHeld
    have hX:Below w1.heap.size w1 (w3.alloc (.cells #[.string d.name,.int .i64 d.vA,.int .i64 d.vB,.int .i64 d.vC,.slice q0 d.vP.length c0] 59)):=h3.alloc h3.size _
    have zhX:(w3.alloc (.cells #[.string d.name,.int .i64 d.vA,.int .i64 d.vB,.int .i64 d.vC,.slice q0 d.vP.length c0] 59)).heap[w3.heap.size]?=some (.cells #[.string d.name,.int .i64 d.vA,.int .i64 d.vB,.int .i64 d.vC,.slice q0 d.vP.length c0] 59 (0,0)):=vheap_new _ _
    have lhX:w1.heap.size≤w3.heap.size:=h3.size
    have shX:w3.heap.size<(w3.alloc (.cells #[.string d.name,.int .i64 d.vA,.int .i64 d.vB,.int .i64 d.vC,.slice q0 d.vP.length c0] 59)).heap.size:=by simp
    have bhX:Below w3.heap.size w3 (w3.alloc (.cells #[.string d.name,.int .i64 d.vA,.int .i64 d.vB,.int .i64 d.vC,.slice q0 d.vP.length c0] 59)):=(Below.refl _ _).alloc (Nat.le_refl _) _
    refine hK.out _ (w3.alloc (.cells #[.string d.name,.int .i64 d.vA,.int .i64 d.vB,.int .i64 d.vC,.slice q0 d.vP.length c0] 59)) ?G3 (fun hHeld=>?_)
    case G3=>(exact KEEP.out _ hX)
    clear hK K
    try simp only [Act.put,List.getElem_toArray,List.getElem_cons_zero,List.getElem_cons_succ,List.setIfInBounds_toArray,List.set_cons_zero,List.set_cons_succ]
    obtain ⟨gx,hqgx⟩: ∃ g,g=w3.heap.size:=⟨_,rfl⟩
    obtain ⟨wX,hqwX⟩: ∃ V,V=w3.alloc (.cells #[.string d.name,.int .i64 d.vA,.int .i64 d.vB,.int .i64 d.vC,.slice q0 d.vP.length c0] 59):=⟨_,rfl⟩
    rw [←hqgx, ←hqwX] at zhX
    rw [←hqgx] at lhX
    rw [←hqgx, ←hqwX] at shX
    rw [←hqwX] at hX bhX hHeld
    rw [←hqgx, ←hqwX]
    have thX:w3.heap.size≤gx:=Nat.le_of_eq hqgx.symm
    clear hqgx hqwX
    have o3X:=owns_of_belowN o3 bhX
    refine wpAnyH_ready (rs:=[5]) (by kernel_rfl) (by simp) ?_
    refine AllReadyH.cons rfl (fun K hK=>?_) AllReadyH.nil
    rw [if_pos (by rfl)]
    refine wp_append_own _ _ _ 49 rfl w1.heap.size 59 i0 (.agg #[.string ⟨#[]⟩,.int .i64 0,.int .i64 0,.int .i64 0,.slice none 0 0]) 5 64 Tryz.underlying49 hi0 hz0 hz1 hz2 rfl (by decide) _ ps.length (flatP ps) rfl o3X ⟨gx,0,none⟩ 1 1 ([.string d.name,.int .i64 d.vA,.int .i64 d.vB,.int .i64 d.vC,.slice q0 d.vP.length c0]) rfl rfl (src_blk zhX) (by intro u hu;simp at hu;rcases hu with rfl|rfl|rfl|rfl|rfl<;>rfl) (by unfold maxLen;omega) (by omega) hX.size ?_
    intro v4 w4 o4 gr4 _
    have h4:Below w1.heap.size w1 w4:=Below.grown hX gr4 hX.size (fun j hj=>(o3X.lt j hj).1)
    clear hHeld
    refine hK.out _ _ ?G4 (fun hHeld=>?_)
    case G4=>(exact KEEP.out _ h4)
    clear hK K
    try simp only [Act.put,List.getElem_toArray,List.getElem_cons_zero,List.getElem_cons_succ,List.setIfInBounds_toArray,List.set_cons_zero,List.set_cons_succ]
    have HR4:Hid (RowP w1.heap.size w4 v4 (ps++[p])):=by
     refine ⟨?_,fun q hq=>?_⟩
     ·rw [flatP_append,List.length_append]
      have e9:flatP [p]=[.string d.name,.int .i64 d.vA,.int .i64 d.vB,.int .i64 d.vC,.slice q0 d.vP.length c0]:=by show p.cells++[]=_;rw [List.append_nil];exact HPC.out
      rw [e9]
      exact o4
     ·rcases List.mem_append.1 hq with h9|h9
      ·exact (HS.out _ h4).1.2 q h9
      ·rw [List.mem_singleton.1 h9];exact (HS.out _ h4).2
    obtain ⟨g5,cap5,hv4⟩:=rowP_some HR4.out (by simp)
    rw [List.length_append,List.length_singleton] at hv4
    subst hv4
    have H4:=hidden h4
    have HP4:=hidden (HS.out _ h4).2
    refine tk 6 hHeld (h:=?_)
    clear o4 gr4 h4
    refine wpAnyH_done (by kernel_rfl) ?_ _
    go_wp2_with fail
    go_meet
    case rel=>exact ⟨g5,cap5,rfl,HR4,HBK.out _ H4.out,HP4,H4⟩
   ·go_simp
    clear hHeld
    have hX:Below w1.heap.size w1 (wA.alloc (.cells #[.string d.name,.int .i64 d.vA,.int .i64 d.vB,.int .i64 d.vC,.slice q0 d.vP.length c0] 59)):=hA.alloc hA.size _
    have zhX:(wA.alloc (.cells #[.string d.name,.int .i64 d.vA,.int .i64 d.vB,.int .i64 d.vC,.slice q0 d.vP.length c0] 59)).heap[wA.heap.size]?=some (.cells #[.string d.name,.int .i64 d.vA,.int .i64 d.vB,.int .i64 d.vC,.slice q0 d.vP.length c0] 59 (0,0)):=vheap_new _ _
    have lhX:w1.heap.size≤wA.heap.size:=hA.size
    have shX:wA.heap.size<(wA.alloc (.cells #[.string d.name,.int .i64 d.vA,.int .i64 d.vB,.int .i64 d.vC,.slice q0 d.vP.length c0] 59)).heap.size:=by simp
    have bhX:Below wA.heap.size wA (wA.alloc (.cells #[.string d.name,.int .i64 d.vA,.int .i64 d.vB,.int .i64 d.vC,.slice q0 d.vP.length c0] 59)):=(Below.refl _ _).alloc (Nat.le_refl _) _
    refine hK.out _ (wA.alloc (.cells #[.string d.name,.int .i64 d.vA,.int .i64 d.vB,.int .i64 d.vC,.slice q0 d.vP.length c0] 59)) ?G6 (fun hHeld=>?_)
    case G6=>(exact KEEP.out _ hX)
    clear hK K
    try simp only [Act.put,List.getElem_toArray,List.getElem_cons_zero,List.getElem_cons_succ,List.setIfInBounds_toArray,List.set_cons_zero,List.set_cons_succ]
    obtain ⟨gx,hqgx⟩: ∃ g,g=wA.heap.size:=⟨_,rfl⟩
    obtain ⟨wX,hqwX⟩: ∃ V,V=wA.alloc (.cells #[.string d.name,.int .i64 d.vA,.int .i64 d.vB,.int .i64 d.vC,.slice q0 d.vP.length c0] 59):=⟨_,rfl⟩
    rw [←hqgx, ←hqwX] at zhX
    rw [←hqgx] at lhX
    rw [←hqgx, ←hqwX] at shX
    rw [←hqwX] at hX bhX hHeld
    rw [←hqgx, ←hqwX]
    have thX:wA.heap.size≤gx:=Nat.le_of_eq hqgx.symm
    clear hqgx hqwX
    have eX:=owns_of_belowN ehA bhX
    refine wpAnyH_ready (rs:=[2]) (by kernel_rfl) (by simp) ?_
    refine AllReadyH.cons rfl (fun K hK=>?_) AllReadyH.nil
    rw [if_pos (by rfl)]
    refine wp_append_own _ _ _ 49 rfl w1.heap.size 59 i0 (.agg #[.string ⟨#[]⟩,.int .i64 0,.int .i64 0,.int .i64 0,.slice none 0 0]) 5 64 Tryz.underlying49 hi0 hz0 hz1 hz2 rfl (by decide) _ 0 ([]) rfl eX ⟨g,0,none⟩ ps.length cap (flatP ps) rfl (flatP_length ps) (flatP_src (HS.out _ hX).1) (flatP_one (HS.out _ hX).1.2) (by unfold maxLen;omega) (by omega) hX.size ?_
    intro v3 w3 o3 gr3 _
    have h3:Below w1.heap.size w1 w3:=Below.grown hX gr3 hX.size (fun j hj=>(eX.lt j hj).1)
    clear hHeld
    refine hK.out _ _ ?G7 (fun hHeld=>?_)
    case G7=>(exact KEEP.out _ h3)
    clear hK K
    try simp only [Act.put,List.getElem_toArray,List.getElem_cons_zero,List.getElem_cons_succ,List.setIfInBounds_toArray,List.set_cons_zero,List.set_cons_succ]
    rw [Nat.zero_add,List.nil_append] at o3
    have zx3:=box_grown zhX gr3 (fun e=>by have e2:ge=gx:=Option.some.inj e;omega)
    refine wpAnyH_ready (rs:=[5]) (by kernel_rfl) (by simp) ?_
    refine AllReadyH.cons rfl (fun K hK=>?_) AllReadyH.nil
    rw [if_pos (by rfl)]
    refine wp_append_own _ _ _ 49 rfl w1.heap.size 59 i0 (.agg #[.string ⟨#[]⟩,.int .i64 0,.int .i64 0,.int .i64 0,.slice none 0 0]) 5 64 Tryz.underlying49 hi0 hz0 hz1 hz2 rfl (by decide) _ ps.length (flatP ps) rfl o3 ⟨gx,0,none⟩ 1 1 ([.string d.name,.int .i64 d.vA,.int .i64 d.vB,.int .i64 d.vC,.slice q0 d.vP.length c0]) rfl rfl (src_blk zx3) (by intro u hu;simp at hu;rcases hu with rfl|rfl|rfl|rfl|rfl<;>rfl) (by unfold maxLen;omega) (by omega) h3.size ?_
    intro v4 w4 o4 gr4 _
    have h4:Below w1.heap.size w1 w4:=Below.grown h3 gr4 h3.size (fun j hj=>(o3.lt j hj).1)
    clear hHeld
    refine hK.out _ _ ?G8 (fun hHeld=>?_)
    case G8=>(exact KEEP.out _ h4)
    clear hK K
    try simp only [Act.put,List.getElem_toArray,List.getElem_cons_zero,List.getElem_cons_succ,List.setIfInBounds_toArray,List.set_cons_zero,List.set_cons_succ]
    have HR4:Hid (RowP w1.heap.size w4 v4 (ps++[p])):=by
     refine ⟨?_,fun q hq=>?_⟩
     ·rw [flatP_append,List.length_append]
      have e9:flatP [p]=[.string d.name,.int .i64 d.vA,.int .i64 d.vB,.int .i64 d.vC,.slice q0 d.vP.length c0]:=by show p.cells++[]=_;rw [List.append_nil];exact HPC.out
      rw [e9]
      exact o4
     ·rcases List.mem_append.1 hq with h9|h9
      ·exact (HS.out _ h4).1.2 q h9
      ·rw [List.mem_singleton.1 h9];exact (HS.out _ h4).2
    obtain ⟨g5,cap5,hv4⟩:=rowP_some HR4.out (by simp)
    rw [List.length_append,List.length_singleton] at hv4
    subst hv4
    have H4:=hidden h4
    have HP4:=hidden (HS.out _ h4).2
    refine tk 6 hHeld (h:=?_)
    clear o4 gr4 h4
    refine wpAnyH_done (by kernel_rfl) ?_ _
    go_wp2_with fail
    go_meet
    case rel=>exact ⟨g5,cap5,rfl,HR4,HBK.out _ H4.out,HP4,H4⟩
  ·go_simp
   clear hHeld
   have hC:Below w1.heap.size w1 (w2.alloc (.cells #[.string d.name,.int .i64 d.vA,.int .i64 d.vB,.int .i64 d.vC,.slice q0 d.vP.length c0] 59)):=h0.alloc h0.size _
   have zhC:(w2.alloc (.cells #[.string d.name,.int .i64 d.vA,.int .i64 d.vB,.int .i64 d.vC,.slice q0 d.vP.length c0] 59)).heap[w2.heap.size]?=some (.cells #[.string d.name,.int .i64 d.vA,.int .i64 d.vB,.int .i64 d.vC,.slice q0 d.vP.length c0] 59 (0,0)):=vheap_new _ _
   have lhC:w1.heap.size≤w2.heap.size:=h0.size
   have shC:w2.heap.size<(w2.alloc (.cells #[.string d.name,.int .i64 d.vA,.int .i64 d.vB,.int .i64 d.vC,.slice q0 d.vP.length c0] 59)).heap.size:=by simp
   have bhC:Below w2.heap.size w2 (w2.alloc (.cells #[.string d.name,.int .i64 d.vA,.int .i64 d.vB,.int .i64 d.vC,.slice q0 d.vP.length c0] 59)):=(Below.refl _ _).alloc (Nat.le_refl _) _
   refine hK.out _ (w2.alloc (.cells #[.string d.name,.int .i64 d.vA,.int .i64 d.vB,.int .i64 d.vC,.slice q0 d.vP.length c0] 59)) ?G10 (fun hHeld=>?_)
   case G10=>(exact KEEP.out _ hC)
   clear hK K
   try simp only [Act.put,List.getElem_toArray,List.getElem_cons_zero,List.getElem_cons_succ,List.setIfInBounds_toArray,List.set_cons_zero,List.set_cons_succ]
   obtain ⟨gx,hqgx⟩: ∃ g,g=w2.heap.size:=⟨_,rfl⟩
   obtain ⟨wC,hqwC⟩: ∃ V,V=w2.alloc (.cells #[.string d.name,.int .i64 d.vA,.int .i64 d.vB,.int .i64 d.vC,.slice q0 d.vP.length c0] 59):=⟨_,rfl⟩
   rw [←hqgx, ←hqwC] at zhC
   rw [←hqgx] at lhC
   rw [←hqgx, ←hqwC] at shC
   rw [←hqwC] at hC bhC hHeld
   rw [←hqgx, ←hqwC]
   have thC:w2.heap.size≤gx:=Nat.le_of_eq hqgx.symm
   clear hqgx hqwC
   refine wpAnyH_ready (rs:=[0]) (by kernel_rfl) (by simp) ?_
   refine AllReadyH.cons rfl (fun K hK=>?_) AllReadyH.nil
   go_simp
   clear hHeld
   have hX:Below w1.heap.size w1 (wC.alloc (.cells #[] 59)):=hC.alloc hC.size _
   have zhX:(wC.alloc (.cells #[] 59)).heap[wC.heap.size]?=some (.cells #[] 59 (0,0)):=vheap_new _ _
   have lhX:w1.heap.size≤wC.heap.size:=hC.size
   have shX:wC.heap.size<(wC.alloc (.cells #[] 59)).heap.size:=by simp
   have bhX:Below wC.heap.size wC (wC.alloc (.cells #[] 59)):=(Below.refl _ _).alloc (Nat.le_refl _) _
   have ehX:(wC.alloc (.cells #[] 59)).ownsRow w1.heap.size 59 5 (.slice (some ⟨wC.heap.size,0,none⟩) 0 0) 0 []:=World.ownsRow_lit wC #[] 0 hC.size (by unfold maxLen;omega) rfl
   refine hK.out _ (wC.alloc (.cells #[] 59)) ?G11 (fun hHeld=>?_)
   case G11=>(exact KEEP.out _ hX)
   clear hK K
   try simp only [Act.put,List.getElem_toArray,List.getElem_cons_zero,List.getElem_cons_succ,List.setIfInBounds_toArray,List.set_cons_zero,List.set_cons_succ]
   obtain ⟨ge,hqge⟩: ∃ g,g=wC.heap.size:=⟨_,rfl⟩
   obtain ⟨wX,hqwX⟩: ∃ V,V=wC.alloc (.cells #[] 59):=⟨_,rfl⟩
   rw [←hqge, ←hqwX] at zhX
   rw [←hqge] at lhX
   rw [←hqge, ←hqwX] at shX
   rw [←hqwX] at hX bhX hHeld
   rw [←hqge, ←hqwX] at ehX
   rw [←hqge, ←hqwX]
   have thX:wC.heap.size≤ge:=Nat.le_of_eq hqge.symm
   clear hqge hqwX
   have zC:=box_below zhC bhX
   refine wpAnyH_ready (rs:=[2]) (by kernel_rfl) (by simp) ?_
   refine AllReadyH.cons rfl (fun K hK=>?_) AllReadyH.nil
   rw [if_pos (by rfl)]
   refine wp_append_own _ _ _ 49 rfl w1.heap.size 59 i0 (.agg #[.string ⟨#[]⟩,.int .i64 0,.int .i64 0,.int .i64 0,.slice none 0 0]) 5 64 Tryz.underlying49 hi0 hz0 hz1 hz2 rfl (by decide) _ 0 ([]) rfl ehX ⟨g,0,none⟩ ps.length cap (flatP ps) rfl (flatP_length ps) (flatP_src (HS.out _ hX).1) (flatP_one (HS.out _ hX).1.2) (by unfold maxLen;omega) (by omega) hX.size ?_
   intro v3 w3 o3 gr3 _
   have h3:Below w1.heap.size w1 w3:=Below.grown hX gr3 hX.size (fun j hj=>(ehX.lt j hj).1)
   clear hHeld
   refine hK.out _ _ ?G12 (fun hHeld=>?_)
   case G12=>(exact KEEP.out _ h3)
   clear hK K
   try simp only [Act.put,List.getElem_toArray,List.getElem_cons_zero,List.getElem_cons_succ,List.setIfInBounds_toArray,List.set_cons_zero,List.set_cons_succ]
   rw [Nat.zero_add,List.nil_append] at o3
   have zx3:=box_grown zC gr3 (fun e=>by have e2:ge=gx:=Option.some.inj e;omega)
   refine wpAnyH_ready (rs:=[5]) (by kernel_rfl) (by simp) ?_
   refine AllReadyH.cons rfl (fun K hK=>?_) AllReadyH.nil
   rw [if_pos (by rfl)]
   refine wp_append_own _ _ _ 49 rfl w1.heap.size 59 i0 (.agg #[.string ⟨#[]⟩,.int .i64 0,.int .i64 0,.int .i64 0,.slice none 0 0]) 5 64 Tryz.underlying49 hi0 hz0 hz1 hz2 rfl (by decide) _ ps.length (flatP ps) rfl o3 ⟨gx,0,none⟩ 1 1 ([.string d.name,.int .i64 d.vA,.int .i64 d.vB,.int .i64 d.vC,.slice q0 d.vP.length c0]) rfl rfl (src_blk zx3) (by intro u hu;simp at hu;rcases hu with rfl|rfl|rfl|rfl|rfl<;>rfl) (by unfold maxLen;omega) (by omega) h3.size ?_
   intro v4 w4 o4 gr4 _
   have h4:Below w1.heap.size w1 w4:=Below.grown h3 gr4 h3.size (fun j hj=>(o3.lt j hj).1)
   clear hHeld
   refine hK.out _ _ ?G13 (fun hHeld=>?_)
   case G13=>(exact KEEP.out _ h4)
   clear hK K
   try simp only [Act.put,List.getElem_toArray,List.getElem_cons_zero,List.getElem_cons_succ,List.setIfInBounds_toArray,List.set_cons_zero,List.set_cons_succ]
   have HR4:Hid (RowP w1.heap.size w4 v4 (ps++[p])):=by
    refine ⟨?_,fun q hq=>?_⟩
    ·rw [flatP_append,List.length_append]
     have e9:flatP [p]=[.string d.name,.int .i64 d.vA,.int .i64 d.vB,.int .i64 d.vC,.slice q0 d.vP.length c0]:=by show p.cells++[]=_;rw [List.append_nil];exact HPC.out
     rw [e9]
     exact o4
    ·rcases List.mem_append.1 hq with h9|h9
     ·exact (HS.out _ h4).1.2 q h9
     ·rw [List.mem_singleton.1 h9];exact (HS.out _ h4).2
   obtain ⟨g5,cap5,hv4⟩:=rowP_some HR4.out (by simp)
   rw [List.length_append,List.length_singleton] at hv4
   subst hv4
   have H4:=hidden h4
   have HP4:=hidden (HS.out _ h4).2
   refine tk 6 hHeld (h:=?_)
   clear o4 gr4 h4
   refine wpAnyH_done (by kernel_rfl) ?_ _
   go_wp2_with fail
   go_meet
   case rel=>exact ⟨g5,cap5,rfl,HR4,HBK.out _ H4.out,HP4,H4⟩
 case rest=>
  obtain ⟨g5,cap5,rfl,HR5,HB5,HP5,H5⟩:=hcut
  have hgl:w1.heap.size≤g5∧g5<wc.heap.size:=HR5.out.1.lt g5 rfl
  have HI0:Hid (RowP w1.heap.size wc (.slice (some ⟨g5,0,none⟩) (ps.length+1) cap5) (holeP ps ps.length p)):=by
   have h9:holeP ps ps.length p=ps++[p]:=by unfold holeP;rw [List.take_length,List.drop_length]
   rw [h9]
   exact HR5.out
  have HBB:Hid (Below w.heap.size w wc):=HK1.out.trans (H5.out.mono HK1.out.size)
  clear KEEP HS HBK HR5 H5 HK1
  go_wp2_with fail
  go_loopw [6] (fun vk wr=>∃ (k:Nat) (z:PC),k≤ps.length∧vk=.int .i64 (k:Int)∧Hid (posR lessP ps p ps.length=posR lessP ps p k)∧Hid (RowP w1.heap.size wr (.slice (some ⟨g5,0,none⟩) (ps.length+1) cap5) (holeP ps k z))∧Hid (wr.heap[w.heap.size]?=some (.cells #[.string d.name,.int .i64 d.vA,.int .i64 d.vB,.int .i64 d.vC,.slice q0 d.vP.length c0] 59 (0,0)))∧Hid (PicOwn wr p)∧Hid (Below w.heap.size w wr)) (fun vk _=>(intOf vk).toNat)
  case atStart=>exact ⟨ps.length,p,Nat.le_refl _,rfl,rfl,HI0,HB5,HP5,HBB⟩
  case round=>
   clear HI0 HB5 HP5 HBB
   obtain ⟨k,z,hk,rfl,HP,HROW,HBX,HO,HBR⟩:=hrel
   have hd0:Below wr.heap.size wr wr.drew:=(Below.refl _ _).drew
   have hNr:w.heap.size<wr.heap.size:=(Array.getElem?_eq_some_iff.1 HBX.out).1
   have hbx6:wr.drew.heap[w.heap.size]?=some (.cells #[.string d.name,.int .i64 d.vA,.int .i64 d.vB,.int .i64 d.vC,.slice q0 d.vP.length c0] 59 (0,0)):=(hd0.block _ hNr).trans HBX.out
   have HRW6:=hidden (HROW.out.below hd0)
   have HO6:=hidden (HO.out.below hd0)
   have hb6:Below w.heap.size w wr.drew:=HBR.out.drew
   rcases k with _|k
   ·rw [show ((0:Nat):Int)=0 from rfl]
    go_wp2_with fail
    refine wp_region_held_drew (S:=(fun _=>True)) (by kernel_rfl) ?SR10 (fun hHeld=>?_)
    case SR10=>(exact True.intro)
    refine tk 0 hHeld (h:=?_)
    refine tk 1 hHeld (h:=?_)
    refine tk 2 hHeld (h:=?_)
    refine tk 3 hHeld (v:=undef) (hy:=Or.inr ⟨by rfl,rfl⟩) (h:=?_)
    refine tk 4 hHeld (v:=undef) (hy:=Or.inr ⟨by rfl,rfl⟩) (h:=?_)
    refine tk 5 hHeld (v:=undef) (hy:=Or.inr ⟨by rfl,rfl⟩) (h:=?_)
    refine tk 6 hHeld (v:=undef) (hy:=Or.inr ⟨by rfl,rfl⟩) (h:=?_)
    refine tk 7 hHeld (v:=undef) (hy:=Or.inr ⟨by rfl,rfl⟩) (h:=?_)
    refine tk 8 hHeld (v:=undef) (hy:=Or.inr ⟨by rfl,rfl⟩) (h:=?_)
    refine tk 9 hHeld (v:=undef) (hy:=Or.inr ⟨by rfl,rfl⟩) (h:=?_)
    refine tk 10 hHeld (v:=undef) (hy:=Or.inr ⟨by rfl,rfl⟩) (h:=?_)
    refine tk 11 hHeld (v:=undef) (hy:=Or.inr ⟨by rfl,rfl⟩) (h:=?_)
    refine tk 12 hHeld (h:=?_)
    refine wpAnyH_done (by kernel_rfl) ?_ _
    obtain ⟨w7,hw7⟩: ∃ w7,w7=wr.drew:=⟨_,rfl⟩
    rw [←hw7] at hbx6 HRW6 HO6 hb6
    rw [←hw7]
    clear hw7 hd0 hNr
    have o0_:w7.cell? ⟨g5,0,none⟩=some (.string z.d.name):=by have h9:=HRW6.out.hole rfl hk 0 (by omega);exact h9
    have o1_:w7.cell? ⟨g5,1,none⟩=some (.int .i64 z.d.vA):=by have h9:=HRW6.out.hole rfl hk 1 (by omega);exact h9
    have o2_:w7.cell? ⟨g5,2,none⟩=some (.int .i64 z.d.vB):=by have h9:=HRW6.out.hole rfl hk 2 (by omega);exact h9
    have o3_:w7.cell? ⟨g5,3,none⟩=some (.int .i64 z.d.vC):=by have h9:=HRW6.out.hole rfl hk 3 (by omega);exact h9
    have o4_:w7.cell? ⟨g5,4,none⟩=some (z.u0):=by have h9:=HRW6.out.hole rfl hk 4 (by omega);exact h9
    have hfz: ∀ j,w7.frozen? ⟨g5,j,none⟩=false:=fun j=>HRW6.out.frz (holep_len ps _ z hk).symm j
    have b0_:w7.cell? ⟨w.heap.size,0,none⟩=some (.string d.name):=vblk_cell hbx6 0
    have b1_:w7.cell? ⟨w.heap.size,1,none⟩=some (.int .i64 d.vA):=vblk_cell hbx6 1
    have b2_:w7.cell? ⟨w.heap.size,2,none⟩=some (.int .i64 d.vB):=vblk_cell hbx6 2
    have b3_:w7.cell? ⟨w.heap.size,3,none⟩=some (.int .i64 d.vC):=vblk_cell hbx6 3
    have b4_:w7.cell? ⟨w.heap.size,4,none⟩=some (.slice q0 d.vP.length c0):=vblk_cell hbx6 4
    have HFIN:Hid (RowP w.heap.size (setW w7 g5 (0*5) [.string d.name,.int .i64 d.vA,.int .i64 d.vB,.int .i64 d.vC,.slice q0 d.vP.length c0]) (.slice (some ⟨g5,0,none⟩) (ps.length+1) cap5) (holeP ps 0 p)):=by
     have h9:=HRW6.out.setN (holep_len ps 0 z hk).symm (i:=0) (by rw [holep_len ps 0 z hk];omega) HO6.out
     rw [holep_set ps 0 z p hk,HPC.out] at h9
     exact ⟨owns_lower5 h9.1 (Nat.le_of_lt hs1),h9.2⟩
    have HBL:Hid (Below w.heap.size w (setW w7 g5 (0*5) [.string d.name,.int .i64 d.vA,.int .i64 d.vB,.int .i64 d.vC,.slice q0 d.vP.length c0])):=setW_below (by omega) _ _ _ _ hb6
    have HNW:Hid ((holeP ps 0 p).map PC.d=insPick (ps.map PC.d) p.d):=by
     show _=_
     have h9:holeP ps 0 p=insG lessP ps p:=by unfold insG;rw [HP.out];rfl
     rw [h9,insP_map]
    clear hbx6 HRW6 HO6 HP HBX HROW HO
    go_wp2_with fail
    go_ret
    exact ⟨g5,cap5,holeP ps 0 p,rfl,HFIN.out,HNW.out,HBL.out⟩
   ·have ek:((k+1:Nat):Int)=(k:Int)+1:=by omega
    rw [ek]
    clear ek
    have hkl:k<ps.length:=by omega
    have hki9:k<(holeP ps (k+1) z).length:=by rw [holep_len ps (k+1) z hk];omega
    have e8:=holep_at ps k z hkl
    have hyo:PicOwn wr ps[k]:=HROW.out.2 _ (List.mem_of_getElem? e8)
    obtain ⟨s0,t0,y0⟩:=pic_slice hyo
    rw [List.getElem?_eq_getElem hki9] at e8
    have hyc: ∀ j,j<5→wr.cell? ⟨g5,k*5+j,none⟩=(ps[k].cells)[j]? :=fun j hj=>by
     have h9:=HROW.out.cell (holep_len ps (k+1) z hk).symm (i:=k) hki9 j hj
     rw [Option.some.inj e8] at h9
     exact h9
    have hPO:=posR_step lessP ps p k hkl
    have hsh:=holep_shift ps k hkl
    clear e8 hki9
    obtain ⟨yc,hyd⟩: ∃ yc,yc=ps[k]:=⟨_,rfl⟩
    rw [←hyd] at hyo y0 hyc hPO hsh
    obtain ⟨y,hy⟩: ∃ y,y=yc.d:=⟨_,rfl⟩
    rw [←hy] at y0
    have hycl:yc.cells=[.string y.name,.int .i64 y.vA,.int .i64 y.vB,.int .i64 y.vC,.slice s0 y.vP.length t0]:=by unfold PC.cells;rw [y0, ←hy]
    have HYC:=hidden hycl
    rw [hycl] at hyc
    obtain ⟨LB,hLB⟩: ∃ LB,LB=(!Op.bytesLess y.name.toList d.name.toList&& !(y.name.toList == d.name.toList)):=⟨_,rfl⟩
    have hPO2:posR lessP ps p (k+1)=if LB=true then posR lessP ps p k else k+1:=by
     rw [hPO]
     have e9:lessP yc p=LB:=by unfold lessP;rw [←hy, ←HPD.out,hLB, ←Bool.not_or];exact (gtS y.name d.name).symm
     rw [e9]
    have HPO:=hidden hPO2
    have HSH:=hidden hsh
    have HYO:=hidden hyo
    have hgr:g5<wr.heap.size:=(HROW.out.1.lt g5 rfl).2
    have KEEP:Hid (wr.drew.cell? ⟨g5,k*5,none⟩=some (.string y.name)∧wr.drew.cell? ⟨w.heap.size,0,none⟩=some (.string d.name)):=⟨(hd0.cell (p:=⟨g5,k*5,none⟩) hgr).trans (hyc 0 (by omega)),vblk_cell hbx6 0⟩
    have hkw:IntKind.i64.wrap (k:Int)=(k:Int):=IntWalk.i64_in _ ⟨by omega,by omega⟩
    have hk0:(0:Int)≤(k:Int):=by omega
    have hk1:(k:Int)<(ps.length:Int)+1:=by omega
    have hk2:(0:Int)<(k:Int)+1:=by omega
    have HYA:=hidden hyc
    have HLB:=hidden hLB
    clear hPO hPO2 hyc hsh hyo y0 hycl hy hyd hLB
    go_wp2_with fail
    refine wp_region_held_drew (S:=(fun W=>W.cell? ⟨g5,k*5,none⟩=some (.string y.name)∧W.cell? ⟨w.heap.size,0,none⟩=some (.string d.name))) (by kernel_rfl) ?SR20 (fun hHeld=>?_)
    case SR20=>(exact KEEP.out)
    refine tk 0 hHeld (h:=?_)
    refine tk 1 hHeld (h:=?_)
    refine tk 2 hHeld (h:=?_)
    refine tk 3 hHeld (h:=?_)
    refine tk 4 hHeld (h:=?_)
    refine tk 5 hHeld (h:=?_)
    refine tk 6 hHeld (h:=?_)
    refine tk 7 hHeld (h:=?_)
    refine tk 8 hHeld (h:=?_)
    refine tk 9 hHeld (h:=?_)
    refine tk 10 hHeld (h:=?_)
    refine tk 11 hHeld (h:=?_)
    refine tk 12 hHeld (h:=?_)
    refine wpAnyH_done (by kernel_rfl) ?_ _
    rw [←HLB.out]
    clear KEEP
    obtain ⟨w7,hw7⟩: ∃ w7,w7=wr.drew:=⟨_,rfl⟩
    rw [←hw7] at hbx6 HRW6 HO6 hb6 hd0
    rw [←hw7]
    clear hw7 HLB
    cases LB
    ·have HP2:Hid (posR lessP ps p ps.length=k+1):=by show _=_;rw [HP.out,HPO.out];rfl
     clear HP HPO HYA HYC HSH HYO
     rename Hid (posR lessP ps p ps.length=k+1)=>HP
     have o0_:w7.cell? ⟨g5,(k+1)*5,none⟩=some (.string z.d.name):=by have h9:=HRW6.out.hole rfl hk 0 (by omega);exact h9
     have o1_:w7.cell? ⟨g5,(k+1)*5+1,none⟩=some (.int .i64 z.d.vA):=by have h9:=HRW6.out.hole rfl hk 1 (by omega);exact h9
     have o2_:w7.cell? ⟨g5,(k+1)*5+2,none⟩=some (.int .i64 z.d.vB):=by have h9:=HRW6.out.hole rfl hk 2 (by omega);exact h9
     have o3_:w7.cell? ⟨g5,(k+1)*5+3,none⟩=some (.int .i64 z.d.vC):=by have h9:=HRW6.out.hole rfl hk 3 (by omega);exact h9
     have o4_:w7.cell? ⟨g5,(k+1)*5+4,none⟩=some (z.u0):=by have h9:=HRW6.out.hole rfl hk 4 (by omega);exact h9
     have hfz: ∀ j,w7.frozen? ⟨g5,j,none⟩=false:=fun j=>HRW6.out.frz (holep_len ps _ z hk).symm j
     have b0_:w7.cell? ⟨w.heap.size,0,none⟩=some (.string d.name):=vblk_cell hbx6 0
     have b1_:w7.cell? ⟨w.heap.size,1,none⟩=some (.int .i64 d.vA):=vblk_cell hbx6 1
     have b2_:w7.cell? ⟨w.heap.size,2,none⟩=some (.int .i64 d.vB):=vblk_cell hbx6 2
     have b3_:w7.cell? ⟨w.heap.size,3,none⟩=some (.int .i64 d.vC):=vblk_cell hbx6 3
     have b4_:w7.cell? ⟨w.heap.size,4,none⟩=some (.slice q0 d.vP.length c0):=vblk_cell hbx6 4
     have HFIN:Hid (RowP w.heap.size (setW w7 g5 ((k+1)*5) [.string d.name,.int .i64 d.vA,.int .i64 d.vB,.int .i64 d.vC,.slice q0 d.vP.length c0]) (.slice (some ⟨g5,0,none⟩) (ps.length+1) cap5) (holeP ps (k+1) p)):=by
      have h9:=HRW6.out.setN (holep_len ps (k+1) z hk).symm (i:=(k+1)) (by rw [holep_len ps (k+1) z hk];omega) HO6.out
      rw [holep_set ps (k+1) z p hk,HPC.out] at h9
      exact ⟨owns_lower5 h9.1 (Nat.le_of_lt hs1),h9.2⟩
     have HBL:Hid (Below w.heap.size w (setW w7 g5 ((k+1)*5) [.string d.name,.int .i64 d.vA,.int .i64 d.vB,.int .i64 d.vC,.slice q0 d.vP.length c0])):=setW_below (by omega) _ _ _ _ hb6
     have HNW:Hid ((holeP ps (k+1) p).map PC.d=insPick (ps.map PC.d) p.d):=by
      show _=_
      have h9:holeP ps (k+1) p=insG lessP ps p:=by unfold insG;rw [HP.out];rfl
      rw [h9,insP_map]
     clear hbx6 HRW6 HO6 HP HBX HROW HO
     go_wp2_with fail
     go_ret
     exact ⟨g5,cap5,holeP ps (k+1) p,rfl,HFIN.out,HNW.out,HBL.out⟩
    ·have HPK:Hid (posR lessP ps p ps.length=posR lessP ps p k):=by show _=_;rw [HP.out,HPO.out];rfl
     have a0_:w7.cell? ⟨g5,k*5,none⟩=some (.string y.name):=(hd0.cell (p:=⟨g5,k*5+0,none⟩) hgr).trans (HYA.out 0 (by omega))
     have a1_:w7.cell? ⟨g5,k*5+1,none⟩=some (.int .i64 y.vA):=(hd0.cell (p:=⟨g5,k*5+1,none⟩) hgr).trans (HYA.out 1 (by omega))
     have a2_:w7.cell? ⟨g5,k*5+2,none⟩=some (.int .i64 y.vB):=(hd0.cell (p:=⟨g5,k*5+2,none⟩) hgr).trans (HYA.out 2 (by omega))
     have a3_:w7.cell? ⟨g5,k*5+3,none⟩=some (.int .i64 y.vC):=(hd0.cell (p:=⟨g5,k*5+3,none⟩) hgr).trans (HYA.out 3 (by omega))
     have a4_:w7.cell? ⟨g5,k*5+4,none⟩=some (.slice s0 y.vP.length t0):=(hd0.cell (p:=⟨g5,k*5+4,none⟩) hgr).trans (HYA.out 4 (by omega))
     have o0_:w7.cell? ⟨g5,(k+1)*5,none⟩=some (.string z.d.name):=HRW6.out.hole rfl hk 0 (by omega)
     have o1_:w7.cell? ⟨g5,(k+1)*5+1,none⟩=some (.int .i64 z.d.vA):=HRW6.out.hole rfl hk 1 (by omega)
     have o2_:w7.cell? ⟨g5,(k+1)*5+2,none⟩=some (.int .i64 z.d.vB):=HRW6.out.hole rfl hk 2 (by omega)
     have o3_:w7.cell? ⟨g5,(k+1)*5+3,none⟩=some (.int .i64 z.d.vC):=HRW6.out.hole rfl hk 3 (by omega)
     have o4_:w7.cell? ⟨g5,(k+1)*5+4,none⟩=some (z.u0):=HRW6.out.hole rfl hk 4 (by omega)
     have hfz: ∀ j,w7.frozen? ⟨g5,j,none⟩=false:=fun j=>HRW6.out.frz (holep_len ps _ z hk).symm j
     have HFIN:Hid (RowP w1.heap.size (setW w7 g5 ((k+1)*5) [.string y.name,.int .i64 y.vA,.int .i64 y.vB,.int .i64 y.vC,.slice s0 y.vP.length t0]) (.slice (some ⟨g5,0,none⟩) (ps.length+1) cap5) (holeP ps k yc)):=by
      have h9:=HRW6.out.setN (holep_len ps (k+1) z hk).symm (i:=k+1) (by rw [holep_len ps (k+1) z hk];omega) (HYO.out.below hd0)
      rw [holep_set ps (k+1) z yc hk,HSH.out,HYC.out] at h9
      exact h9
     have HBL:Hid (Below w.heap.size w (setW w7 g5 ((k+1)*5) [.string y.name,.int .i64 y.vA,.int .i64 y.vB,.int .i64 y.vC,.slice s0 y.vP.length t0])):=setW_below (by omega) _ _ _ _ hb6
     have HBB:Hid ((setW w7 g5 ((k+1)*5) [.string y.name,.int .i64 y.vA,.int .i64 y.vB,.int .i64 y.vC,.slice s0 y.vP.length t0]).heap[w.heap.size]?=some (.cells #[.string d.name,.int .i64 d.vA,.int .i64 d.vB,.int .i64 d.vC,.slice q0 d.vP.length c0] 59 (0,0))):=boxp_far (by omega) _ _ _ hbx6
     have HOO:Hid (PicOwn (setW w7 g5 ((k+1)*5) [.string y.name,.int .i64 y.vA,.int .i64 y.vB,.int .i64 y.vC,.slice s0 y.vP.length t0]) p):=by
      have h8:=HRW6.out.1
      rw [holep_len ps (k+1) z hk] at h8
      exact PicOwn.puts _ HO6.out h8
     clear hbx6 HRW6 HO6 HP HBX HROW HO HPO HYA HYC HSH HYO hb6 hd0
     go_wp2_with fail
     go_roundw
     case rel=>exact ⟨k,yc,by omega,by go_num,HPK,HFIN,HBB,HOO,HBL⟩
     case measure=>simp [intOf]
end Go.Proofs.YtlfmefojcmpfeaaGreatDoor
