/-
  Contracts for the walks and pure facts, several texts in one: each theorem says what it proves, and under which conditions.
-/
import Derived.Test.YtlfmefojcmpfeaaGreatDoorUT
import Derived.Test.YtlfmefojcmpfeaaGreatDoorU20
import Derived.Test.YtlfmefojcmpfeaaGreatDoorU22
set_option linter.unusedSimpArgs false
set_option linter.unusedVariables false
set_option maxHeartbeats 16000000
set_option maxRecDepth 100000
namespace Go.Proofs.YtlfmefojcmpfeaaGreatDoor
open Go.RowKit
theorem copyEntry_c (S:Nat→Prop) (d:EntryD) (cs:List Value) (w:World) (hd:shEntry.lies S w cs d) (hB: ∀ b,S b→b<w.heap.size) (hw:wtEntry d≤1048576):
  Calls Tryz.prog 72 #[.agg cs.toArray] w fun e w'=>∃ cs',e=.returned (.agg cs'.toArray)∧shEntryO.lies (Ow w.heap.size w'.heap.size) w' cs' d∧Below w.heap.size w w':=by
 obtain ⟨u0,u1,rfl,s_n,r0,p0,r1⟩:=hd
 have hb2: ∀ A R,Below w.heap.size w ((w.alloc A).alloc R):=fun A R=>((Below.refl _ _).alloc (Nat.le_refl _) _).alloc (by simp) _
 have hBn: ∀ w1,Below w.heap.size w w1→∀ b,S b→b<w1.heap.size:=fun w1 h b hb=>Nat.lt_of_lt_of_le (hB b hb) h.size
 have hnw:wtRow wtNeed d.needs≤1048576:=by unfold wtEntry at hw;omega
 have hbk:bulkS d.vP≤1048576:=by unfold wtEntry at hw;omega
 have hns:d.name.size≤1048576:=by unfold wtEntry at hw;omega
 have hnl:=r1.len
 have hns2: ∀ x∈d.needs,x.n.size≤maxLen∧x.r.size≤maxLen:=fun x hx=>by
  have h1:x.n.size+x.r.size≤wtRow wtNeed d.needs:=wt_wtRow wtNeed hx
  unfold maxLen;omega
 have HN:=hidden (fun w1=>clone_c d.name w1 hns)
 have HV': ∀ w1,Below w.heap.size w w1→Calls Tryz.prog 107 #[.agg #[.int .i64 d.vA,.int .i64 d.vB,.int .i64 d.vC,u0]] w1 fun e w'=>∃ u',e=.returned (.agg #[.int .i64 d.vA,.int .i64 d.vB,.int .i64 d.vC,u'])∧w'.ownsRow w1.heap.size 9 1 u' d.vP.length (strsV d.vP)∧Below w1.heap.size w1 w':=fun w1 h=>copyVer_c _ _ _ u0 d.vP w1 ((r0.keep (.of h hB)).reads (hBn w1 h)) hbk
 have HD': ∀ w1,Below w.heap.size w w1→Calls Tryz.prog 147 #[u1] w1 fun e w'=>∃ u',e=.returned u'∧w'.ownsRow w1.heap.size 39 2 u' d.needs.length (needsV d.needs)∧Below w1.heap.size w1 w':=fun w1 h=>copyNeeds_c S u1 d.needs w1 (r1.keep (.of h hB)) (hBn w1 h) hnw
 obtain ⟨a0,cap0,eu0,_⟩:=id r0
 rw [length_strsV] at eu0
 subst eu0
 clear r0
 obtain ⟨a1,cap1,eu1,_⟩:=id r1
 subst eu1
 clear r1
 obtain ⟨hAz,hRz⟩:=two_boxes (w:=w) (.cells #[.string d.name,.int .i64 d.vA,.int .i64 d.vB,.int .i64 d.vC,.slice a0 d.vP.length cap0,.slice a1 d.needs.length cap1] 35 (0,0)) (.cells #[.string ⟨#[]⟩,.int .i64 0,.int .i64 0,.int .i64 0,.slice none 0 0,.slice none 0 0] 35 (0,0))
 have hwz:=hb2 (.cells #[.string d.name,.int .i64 d.vA,.int .i64 d.vB,.int .i64 d.vC,.slice a0 d.vP.length cap0,.slice a1 d.needs.length cap1] 35 (0,0)) (.cells #[.string ⟨#[]⟩,.int .i64 0,.int .i64 0,.int .i64 0,.slice none 0 0,.slice none 0 0] 35 (0,0))
 have hsz:((w.alloc (.cells #[.string d.name,.int .i64 d.vA,.int .i64 d.vB,.int .i64 d.vC,.slice a0 d.vP.length cap0,.slice a1 d.needs.length cap1] 35 (0,0))).alloc (.cells #[.string ⟨#[]⟩,.int .i64 0,.int .i64 0,.int .i64 0,.slice none 0 0,.slice none 0 0] 35 (0,0))).heap.size=w.heap.size+2:=by simp
 go_enter Tryz.func72,Tryz.ntmps72
 go_wp2_with fail
 obtain ⟨wz,hW⟩: ∃ wz,wz=(w.alloc (.cells #[.string d.name,.int .i64 d.vA,.int .i64 d.vB,.int .i64 d.vC,.slice a0 d.vP.length cap0,.slice a1 d.needs.length cap1] 35 (0,0))).alloc (.cells #[.string ⟨#[]⟩,.int .i64 0,.int .i64 0,.int .i64 0,.slice none 0 0,.slice none 0 0] 35 (0,0)):=⟨_,rfl⟩
 rw [←hW] at hAz hRz hwz hsz
 rw [←hW]
 clear hW
 have HV:Hid (∀ w1,Below wz.heap.size wz w1→Calls Tryz.prog 107 #[.agg #[.int .i64 d.vA,.int .i64 d.vB,.int .i64 d.vC,.slice a0 d.vP.length cap0]] w1 fun e w'=>∃ u',e=.returned (.agg #[.int .i64 d.vA,.int .i64 d.vB,.int .i64 d.vC,u'])∧w'.ownsRow w1.heap.size 9 1 u' d.vP.length (strsV d.vP)∧Below w1.heap.size w1 w'):=fun w1 h=>HV' w1 (hwz.trans (h.mono (by omega)))
 have HD:Hid (∀ w1,Below wz.heap.size wz w1→Calls Tryz.prog 147 #[.slice a1 d.needs.length cap1] w1 fun e w'=>∃ u',e=.returned u'∧w'.ownsRow w1.heap.size 39 2 u' d.needs.length (needsV d.needs)∧Below w1.heap.size w1 w'):=fun w1 h=>HD' w1 (hwz.trans (h.mono (by omega)))
 have h0:Below wz.heap.size wz wz.drew:=(Below.refl _ _).drew
 have KEEP:Hid (∀ w1,Below wz.heap.size wz w1→w1.cell? ⟨w.heap.size,0,none⟩=some (.string d.name)∧w1.cell? ⟨w.heap.size,1,none⟩=some (.int .i64 d.vA)∧w1.cell? ⟨w.heap.size,2,none⟩=some (.int .i64 d.vB)∧w1.cell? ⟨w.heap.size,3,none⟩=some (.int .i64 d.vC)∧w1.cell? ⟨w.heap.size,4,none⟩=some (.slice a0 d.vP.length cap0)∧w1.cell? ⟨w.heap.size,5,none⟩=some (.slice a1 d.needs.length cap1)):=fun w1 h=>by
  have hA:=(h.block w.heap.size (by omega)).trans hAz
  exact ⟨vblk_cell hA 0,vblk_cell hA 1,vblk_cell hA 2,vblk_cell hA 3,vblk_cell hA 4,vblk_cell hA 5⟩
 clear HV' HD'
 refine wp_region_held_drew (S:=(fun w1=>w1.cell? ⟨w.heap.size,0,none⟩=some (.string d.name)∧w1.cell? ⟨w.heap.size,1,none⟩=some (.int .i64 d.vA)∧w1.cell? ⟨w.heap.size,2,none⟩=some (.int .i64 d.vB)∧w1.cell? ⟨w.heap.size,3,none⟩=some (.int .i64 d.vC)∧w1.cell? ⟨w.heap.size,4,none⟩=some (.slice a0 d.vP.length cap0)∧w1.cell? ⟨w.heap.size,5,none⟩=some (.slice a1 d.needs.length cap1))) (by kernel_rfl) ?SR20 (fun hHeld=>?_)
 case SR20=>(first|(with_reducible exact KEEP.out _ h3)|(with_reducible exact KEEP.out _ h2)|(with_reducible exact KEEP.out _ h1)|(with_reducible exact KEEP.out _ h0))
 refine tk 0 hHeld (h:=?_)
 refine tk 1 hHeld (h:=?_)
 refine tk 3 hHeld (h:=?_)
 refine tk 4 hHeld (h:=?_)
 refine tk 6 hHeld (h:=?_)
 refine tk 7 hHeld (h:=?_)
 refine wpAnyH_ready (rs:=[2]) (by kernel_rfl) (by simp) ?_
 refine AllReadyH.cons rfl (fun K hK=>?_) AllReadyH.nil
 go_simp
 go_wp2_with (go_at_call 116;refine (HN.out _).mono ?_;rintro e w1 ⟨rfl,b1⟩;have h1:Below wz.heap.size wz w1:=h0.trans (b1.mono h0.size))
 clear hHeld
 refine hK.out _ _ ?SR27 (fun hHeld=>?_)
 case SR27=>((try dsimp only);first|(with_reducible exact KEEP.out _ h3)|(with_reducible exact KEEP.out _ h2)|(with_reducible exact KEEP.out _ h1)|(with_reducible exact KEEP.out _ h0))
 clear hK K
 refine wpAnyH_ready (rs:=[5]) (by kernel_rfl) (by simp) ?_
 refine AllReadyH.cons rfl (fun K hK=>?_) AllReadyH.nil
 go_simp
 go_wp2_with (go_at_call 107;refine (HV.out _ h1).mono ?_;rintro e w2 ⟨c0,rfl,o2,b2⟩;have h2:Below wz.heap.size wz w2:=h1.trans (b2.mono h1.size);obtain ⟨qv,cv,ev⟩:=owns_sliceP o2;subst ev)
 clear hHeld
 refine hK.out _ _ ?SR28 (fun hHeld=>?_)
 case SR28=>((try dsimp only);first|(with_reducible exact KEEP.out _ h3)|(with_reducible exact KEEP.out _ h2)|(with_reducible exact KEEP.out _ h1)|(with_reducible exact KEEP.out _ h0))
 clear hK K
 refine wpAnyH_ready (rs:=[8]) (by kernel_rfl) (by simp) ?_
 refine AllReadyH.cons rfl (fun K hK=>?_) AllReadyH.nil
 go_simp
 go_wp2_with (go_at_call 147;refine (HD.out _ h2).mono ?_;rintro e w3 ⟨c1,rfl,o3,b3⟩;have h3:Below wz.heap.size wz w3:=h2.trans (b3.mono h2.size);obtain ⟨qn,cn,en⟩:=owns_sliceP o3;subst en)
 clear hHeld
 refine hK.out _ _ ?SR29 (fun hHeld=>?_)
 case SR29=>((try dsimp only);first|(with_reducible exact KEEP.out _ h3)|(with_reducible exact KEEP.out _ h2)|(with_reducible exact KEEP.out _ h1)|(with_reducible exact KEEP.out _ h0))
 clear hK K
 refine tk 9 hHeld (h:=?_)
 have hR3:=(h3.block (w.heap.size+1) (by omega)).trans hRz
 have fy:=vblk_frozen hR3
 have y0:=vblk_cell hR3 0
 have y1:=vblk_cell hR3 1
 have y2:=vblk_cell hR3 2
 have y3:=vblk_cell hR3 3
 have y4:=vblk_cell hR3 4
 have y5:=vblk_cell hR3 5
 simp only [List.getElem?_toArray,List.getElem?_cons_succ,List.getElem?_cons_zero] at y0 y1 y2 y3 y4 y5
 refine wpAnyH_ready (rs:=[10]) (by kernel_rfl) (by simp) ?_
 refine AllReadyH.cons rfl (fun K hK=>?_) AllReadyH.nil
 go_simp
 clear hHeld
 refine hK.out _ _ ?UR2_10 (fun hHeld=>?_)
 case UR2_10=>(have hA3:=(h3.block w.heap.size (by omega)).trans hAz;exact ⟨vblk_cell (cells_put (cells_put (cells_put (cells_put (cells_put (cells_put hA3 (by omega) _ _) (by omega) _ _) (by omega) _ _) (by omega) _ _) (by omega) _ _) (by omega) _ _) 0,vblk_cell (cells_put (cells_put (cells_put (cells_put (cells_put (cells_put hA3 (by omega) _ _) (by omega) _ _) (by omega) _ _) (by omega) _ _) (by omega) _ _) (by omega) _ _) 1,vblk_cell (cells_put (cells_put (cells_put (cells_put (cells_put (cells_put hA3 (by omega) _ _) (by omega) _ _) (by omega) _ _) (by omega) _ _) (by omega) _ _) (by omega) _ _) 2,vblk_cell (cells_put (cells_put (cells_put (cells_put (cells_put (cells_put hA3 (by omega) _ _) (by omega) _ _) (by omega) _ _) (by omega) _ _) (by omega) _ _) (by omega) _ _) 3,vblk_cell (cells_put (cells_put (cells_put (cells_put (cells_put (cells_put hA3 (by omega) _ _) (by omega) _ _) (by omega) _ _) (by omega) _ _) (by omega) _ _) (by omega) _ _) 4,vblk_cell (cells_put (cells_put (cells_put (cells_put (cells_put (cells_put hA3 (by omega) _ _) (by omega) _ _) (by omega) _ _) (by omega) _ _) (by omega) _ _) (by omega) _ _) 5⟩)
 clear hK K
 try simp only [Act.put,List.getElem_toArray,List.getElem_cons_zero,List.getElem_cons_succ,List.setIfInBounds_toArray,List.set_cons_zero,List.set_cons_succ]
 refine wpAnyH_done (by kernel_rfl) ?_ _
 have hs3:=h3.size
 have hs1:=h1.size
 have hs2':=h2.size
 have HO:Hid (∀ W:World,W.heap.size=w3.heap.size→Kp (fun b=>b≠w.heap.size+1) w3 W→shEntryO.lies (Ow w.heap.size W.heap.size) W [.string d.name,.int .i64 d.vA,.int .i64 d.vB,.int .i64 d.vC,.slice qv d.vP.length cv,.slice qn d.needs.length cn] d):=fun W hWs hk=>by
  have hsz0:wz.heap.size=w.heap.size+2:=hsz
  have i2: ∀ g,(Value.slice qv d.vP.length cv).ownBlock=some g→Ow w1.heap.size w2.heap.size g:=owns_in o2
  have i3: ∀ g,(Value.slice qn d.needs.length cn).ownBlock=some g→Ow w2.heap.size w3.heap.size g:=owns_in o3
  have o2b:=owns_of_belowN o2 b3
  refine ⟨_,_,rfl,s_n,⟨owns_kept hk (fun g hg=>by have:=i2 g hg;have:=this.1;show g≠_;omega) (owns_lo (Nat.zero_le _) o2b),fun g hg=>?_⟩,p0,?_⟩
  ·have h9:=i2 g hg
   have h8:=b3.size
   exact ⟨by have:=h9.1;omega,by have:=h9.2;omega⟩
  ·have hK2:Kp (Ow w2.heap.size w3.heap.size) w3 W:=fun b hb=>hk b (by have:=hb.1;show b≠_;omega)
   exact ((needs_own o3 hnl hns2).keep hK2).mono (Ow.mono (by omega) (by omega))
 clear HV HD HN KEEP o2 o3 b1 b2 b3 h0 h1 h2 hAz hRz hHeld
 go_wp2_with fail
 refine bodyPost_ret (v:=.agg #[.string d.name,.int .i64 d.vA,.int .i64 d.vB,.int .i64 d.vC,.slice qv d.vP.length cv,.slice qn d.needs.length cn]) (by simp [results,Tryz.results72,go_sem,y0,y1,y2,y3,y4,y5]) rfl ⟨[.string d.name,.int .i64 d.vA,.int .i64 d.vB,.int .i64 d.vC,.slice qv d.vP.length cv,.slice qn d.needs.length cn],rfl,HO.out _ (by simp [World.setCell]) ?_,?_⟩
 ·(repeat (refine Kp.trans ?_ (Kp.set (by simp))))
  exact fun b hb=>rfl
 ·(repeat (refine Below.setCell ?_ (by simp) _))
  exact hwz.trans (h3.mono (by omega))
theorem markNeedV_c (v:Value) (base n k:Nat) (xs:List Value) (w:World) (hv:w.ownsRow base 39 2 v n xs) (h1:1≤k) (h2:k+n*2≤4294967296):
  Calls Tryz.prog 63 #[v,.int .i64 (k:Int)] w fun e w'=>e=.returned (.int .i64 ((k+n*2:Nat):Int))∧w'.ownsRow base 39 2 v n (strsV (marksS k (n*2)))∧w.grownBy w' v.ownBlock:=by
 rcases id hv.2 with ⟨rfl,rfl⟩|⟨g,cap,cur,rfl,_,hgb,hcap,hmax,_⟩
 ·have hx:xs=[]:=List.eq_nil_of_length_eq_zero (by simpa using hv.1)
  subst hx
  have HV:=hidden hv
  clear hv
  go_enter Tryz.func63,Tryz.ntmps63
  go_wp2_with fail
  go_loopw [1,5] (fun vk vi wr=>vk=.int .i64 (k:Int)∧vi=.int .i64 0∧wr=w) (fun _ _ _=>0)
  case atStart=>exact ⟨rfl,rfl,rfl⟩
  case round=>
   obtain ⟨rfl,rfl,rfl⟩:=hrel
   go_wp2_with fail
   go_ret
   exact ⟨by simp,HV.out,World.grownBy.refl _ _⟩
 ·unfold maxLen at hmax
  have hl:=hv.1
  clear hgb
  go_enter Tryz.func63,Tryz.ntmps63
  go_wp2_with fail
  go_loopw [1,5] (fun vk vi wr=>∃ (i m:Nat) (ys:List Value),i≤n∧vi=.int .i64 (i:Int)∧vk=.int .i64 (m:Int)∧Hid (m=k+i*2)∧wr.ownsRow base 39 2 (.slice (some ⟨g,0,none⟩) n cap) n ys∧Hid (ys.length=n*2∧∀ j,j<i*2→ys[j]?=(strsV (marksS k (n*2)))[j]?)∧Hid (w.grownBy wr (some g))) (fun _ vi _=>n-(intOf vi).toNat)
  case atStart=>exact ⟨0,k,xs,Nat.zero_le _,rfl,rfl,by show _=_;omega,hv,⟨hl,fun j hj=>by omega⟩,World.grownBy.refl _ _⟩
  case round=>
   obtain ⟨i,m,ys,hi,rfl,rfl,hm,hown,hy,hgr⟩:=hrel
   by_cases hlt:i<n
   ·have hlen:=hown.1
    have hm2:m+2≤4294967296:=by have:=hm.out;omega
    have hm1:1≤m:=by have:=hm.out;omega
    have hki:(i:Int)<(n:Int):=by omega
    have HO:=hidden hown
    have HM1:=hidden (fun w1=>markText_c m w1 (by omega) (by omega))
    have HM2:Hid (∀ w1,Calls Tryz.prog 141 #[.int .i64 ((m:Int)+1)] w1 fun e w'=>e=.returned (.string (markStr (m+1)))∧Below w1.heap.size w1 w'):=fun w1=>by
     have:=markText_c (m+1) w1 (by omega) (by omega)
     rw [show ((m+1:Nat):Int)=(m:Int)+1 by omega] at this
     exact this
    have HY1:Hid ((ys.set (i*2) (.string (markStr m))).length=n*2∧∀ j,j<i*2+1→(ys.set (i*2) (.string (markStr m)))[j]?=(strsV (marksS k (n*2)))[j]?):=set_step (by omega) hy.out (by rw [marksS_at _ _ _ (by omega),hm.out])
    have HY2:Hid (((ys.set (i*2) (.string (markStr m))).set (i*2+1) (.string (markStr (m+1)))).length=n*2∧∀ j,j<i*2+1+1→((ys.set (i*2) (.string (markStr m))).set (i*2+1) (.string (markStr (m+1))))[j]?=(strsV (marksS k (n*2)))[j]?):=set_step (by omega) HY1.out (by rw [marksS_at _ _ _ (by omega),hm.out];congr 3)
    clear hown hv hy HY1
    go_wp2_with fail
    go_at_call 141
    refine (HM1.out _).mono ?_
    rintro e w1 ⟨rfl,b1⟩
    have r1:=HO.out.kept (grown_of_below b1 none) (by simp [Value.ownBlock])
    have d0: ∃ x,w1.cell? ⟨g,i*2,none⟩=some x:=⟨ys.getD (i*2) undef,by rw [r1.cellAt _ (by omega)];simp [List.getD_eq_getElem?_getD,show i*2<ys.length by omega]⟩
    obtain ⟨x0,d0⟩:=d0
    have f1:=r1.frozenAt
    have r2:=r1.stored (i*2) (.string (markStr m))
    have HR2:=hidden r2
    clear r1 r2
    go_wp2_with fail
    go_at_call 141
    refine (HM2.out _).mono ?_
    rintro e w2 ⟨rfl,b2⟩
    have r3:=HR2.out.1.kept (grown_of_below b2 none) (by simp [Value.ownBlock])
    have hl3:=r3.1
    have d1: ∃ x,w2.cell? ⟨g,i*2+1,none⟩=some x:=⟨(ys.set (i*2) (.string (markStr m))).getD (i*2+1) undef,by rw [r3.cellAt _ (by omega)];simp [List.getD_eq_getElem?_getD,show i*2+1<ys.length by omega]⟩
    obtain ⟨x1,d1⟩:=d1
    have f2:=r3.frozenAt
    have r4:=r3.stored (i*2+1) (.string (markStr (m+1)))
    have HR4:=hidden r4
    have HG:=hidden (grown_trans (grown_trans (grown_trans (grown_trans hgr.out (grown_of_below b1 _)) HR2.out.2) (grown_of_below b2 _)) r4.2)
    clear r3 r4
    go_wp2_with fail
    go_roundw
    case rel=>exact ⟨i+1,m+2,_,by omega,by go_num,by simp;omega,(by show _=_;have:=hm.out;omega),HR4.out.1,⟨HY2.out.1,fun j hj=>HY2.out.2 j (by omega)⟩,HG⟩
    case measure=>simp [intOf];omega
   ·have he:i=n:=by omega
    subst he
    have HMM:=hidden hm.out
    have e:ys=strsV (marksS k (i*2)):=list_done hy.out.1 (by simp) hy.out.2
    have HE:=hidden e
    have HO:=hidden hown
    clear hown hv e
    go_wp2_with fail
    go_ret
    refine ⟨by rw [←HMM.out];rfl,?_,hgr.out⟩
    rw [←HE.out]
    exact HO.out
theorem EntRows.store {w:World} {S:Nat→Prop} {ys:List Value} {xs:List EntryD} {g j n cap:Nat} {zs:List Value} {x:Value} (h:EntRows w S ys xs) (hg:w.ownsRow 0 35 6 (.slice (some ⟨g,0,none⟩) n cap) n zs):EntRows (w.setCell ⟨g,j,none⟩ x) S ys xs:=fun i hi=>by
 obtain ⟨u0,u1,z0,z1,h1,h2,h3,h4,h5,h6⟩:=h i hi
 exact ⟨u0,u1,z0,z1,h1,h2,own_put h3 hg (by decide),h4,own_put h5 hg (by decide),h6⟩
theorem EntRows.overS {w w':World} {S:Nat→Prop} {ys:List Value} {xs:List EntryD} {u:Value} {n:Nat} {z z':List Value} (h:EntRows w S ys xs) (h0:w.ownsRow 0 9 1 u n z) (h1:w'.ownsRow 0 9 1 u n z') (hg:w.grownBy w' u.ownBlock):EntRows w' S ys xs:=fun i hi=>by
 obtain ⟨u0,u1,z0,z1,a1,a2,a3,a4,a5,a6⟩:=h i hi
 obtain ⟨z2,a7⟩:=owns_over a3 h0 h1 hg (by omega)
 exact ⟨u0,u1,z2,z1,a1,a2,a7,a4,a5.kept hg (owns_apart a5 h0 (by decide)),a6⟩
theorem EntRows.overN {w w':World} {S:Nat→Prop} {ys:List Value} {xs:List EntryD} {u:Value} {n:Nat} {z z':List Value} (h:EntRows w S ys xs) (h0:w.ownsRow 0 39 2 u n z) (h1:w'.ownsRow 0 39 2 u n z') (hg:w.grownBy w' u.ownBlock):EntRows w' S ys xs:=fun i hi=>by
 obtain ⟨u0,u1,z0,z1,a1,a2,a3,a4,a5,a6⟩:=h i hi
 obtain ⟨z2,a7⟩:=owns_over a5 h0 h1 hg (by omega)
 exact ⟨u0,u1,z0,z2,a1,a2,a3.kept hg (owns_apart a3 h0 (by decide)),a4,a7,a6⟩
theorem entRows_of {S:Nat→Prop} {w:World} {ys:List Value} {xs:List EntryD} (h:Laid shEntryO S w ys xs xs.length):EntRows w S ys xs:=fun i hi=>by
 obtain ⟨cs,h1,⟨u0,u1,rfl,_,h2,_,h3⟩,h4⟩:=h i hi hi
 obtain ⟨_,yn,h5,h6,_⟩:=h3
 exact ⟨u0,u1,_,_,h4 4 (by simp),h4 5 (by simp),h2.1,h2.2,h5,h6⟩
def cntE (d:EntryD):Nat:=4+d.vP.length+d.needs.length*2
def cntEs (xs:List EntryD):Nat:=(xs.map cntE).sum
theorem cntEs_take (xs:List EntryD) (i:Nat) (h:i<xs.length):cntEs (xs.take (i+1))=cntEs (xs.take i)+cntE xs[i]:=by
 unfold cntEs
 rw [List.take_succ_eq_append_getElem h,List.map_append,List.sum_append];simp
theorem cntEs_le (xs:List EntryD) (i:Nat):cntEs (xs.take i)≤cntEs xs:=by
 unfold cntEs
 conv=>rhs;rw [←List.take_append_drop i xs,List.map_append,List.sum_append]
 omega
theorem cntE_wt (d:EntryD):cntE d≤4*(1+wtEntry d):=by
 have h1:=len_wtRow wtNeed d.needs
 unfold cntE wtEntry bulkS
 omega
theorem cntEs_wt : ∀ xs:List EntryD,cntEs xs≤4*wtRow wtEntry xs
 |[]=>by simp [cntEs]
 |d::xs=>by
  have h1:=cntEs_wt xs
  have h2:=cntE_wt d
  have e1:cntEs (d::xs)=cntE d+cntEs xs:=by simp [cntEs]
  have e2:wtRow wtEntry (d::xs)=(1+wtEntry d)+wtRow wtEntry xs:=by simp [wtRow]
  omega
theorem markEntryS_c (S:Nat→Prop) (v:Value) (xs:List EntryD) (k:Nat) (w:World) (hv:RowOwn shEntryO 35 S w v xs) (h1:1≤k) (h2:k+cntEs xs≤4294967296):
  Calls Tryz.prog 62 #[v,.int .i64 (k:Int)] w fun e w'=>e=.returned (.int .i64 ((k+cntEs xs:Nat):Int))∧Chg S w w':=by
 obtain ⟨_,zs,hv,hg,hld⟩:=hv
 have hr:=entRows_of hld
 clear hld
 have hv:w.ownsRow 0 35 6 v xs.length zs:=hv
 rcases id hv.2 with ⟨rfl,hn0⟩|⟨g,cap,cur,rfl,_,hgb,hcap,hmax,_⟩
 ·have hns:xs=[]:=List.eq_nil_of_length_eq_zero hn0
  subst hns
  clear hv hg hr
  go_enter Tryz.func62,Tryz.ntmps62
  go_wp2_with fail
  go_loopw [1,5] (fun vk vi wr=>vk=.int .i64 (k:Int)∧vi=.int .i64 0∧wr=w) (fun _ _ _=>0)
  case atStart=>exact ⟨rfl,rfl,rfl⟩
  case round=>
   obtain ⟨rfl,rfl,rfl⟩:=hrel
   go_wp2_with fail
   go_ret
   exact ⟨by simp [cntEs],Chg.refl _ _⟩
 ·have hSg:=hg g rfl
  unfold maxLen at hmax
  clear hgb hg
  go_enter Tryz.func62,Tryz.ntmps62
  go_wp2_with fail
  go_loopw [1,5] (fun vk vi wr=>∃ (i m:Nat) (ys:List Value),i≤xs.length∧vi=.int .i64 (i:Int)∧vk=.int .i64 (m:Int)∧Hid (m=k+cntEs (xs.take i))∧wr.ownsRow 0 35 6 (.slice (some ⟨g,0,none⟩) xs.length cap) xs.length ys∧Hid (EntRows wr S ys xs)∧Chg S w wr) (fun _ vi _=>xs.length-(intOf vi).toNat)
  case atStart=>exact ⟨0,k,zs,Nat.zero_le _,rfl,rfl,by show _=_;simp [cntEs],hv,hr,Chg.refl _ _⟩
  case round=>
   obtain ⟨i,m,ys,hi,rfl,rfl,hm,hown,hrr,hchg⟩:=hrel
   by_cases hlt:i<xs.length
   ·have hlen:=hown.1
    have hts:=cntEs_take xs i hlt
    have htl:=cntEs_le xs (i+1)
    have HTS:Hid (cntEs (xs.take (i+1))=cntEs (xs.take i)+(4+xs[i].vP.length+xs[i].needs.length*2)∧cntEs (xs.take (i+1))≤cntEs xs):=⟨hts,htl⟩
    obtain ⟨P,hP⟩: ∃ P,P=xs[i].vP.length:=⟨_,rfl⟩
    obtain ⟨Q,hQ⟩: ∃ Q,Q=xs[i].needs.length:=⟨_,rfl⟩
    rw [←hP, ←hQ] at HTS
    have HP:=hidden hP
    have HQ:=hidden hQ
    have hm2:m+4+P+Q*2≤4294967296:=by have:=hm.out;have:=HTS.out;omega
    have hm1:1≤m:=by have:=hm.out;omega
    have hki:(i:Int)<(xs.length:Int):=by omega
    have HO:=hidden hown
    have HM1:=hidden (fun w1=>markText_c m w1 (by omega) (by omega))
    clear hown hv hr hts htl hP hQ
    go_wp2_with fail
    go_at_call 141
    refine (HM1.out _).mono ?_
    rintro e w1 ⟨rfl,b1⟩
    have r1:=HO.out.kept (grown_of_below b1 none) (by simp [Value.ownBlock])
    have f1:=r1.frozenAt
    have hc: ∀ j,j<6→∃ x,w1.cell? ⟨g,i*6+j,none⟩=some x:=fun j hj=>⟨ys.getD (i*6+j) undef,by rw [r1.cellAt _ (by omega)];simp [List.getD_eq_getElem?_getD,show i*6+j<ys.length by omega]⟩
    obtain ⟨c0,d0⟩:=hc 0 (by omega)
    obtain ⟨c1,d1⟩:=hc 1 (by omega)
    obtain ⟨c2,d2⟩:=hc 2 (by omega)
    obtain ⟨c3,d3⟩:=hc 3 (by omega)
    rw [Nat.add_zero] at d0
    have q1:=hrr.out.below b1
    have s0:=r1.stored (i*6+0) (.string (markStr m))
    have q2:=(q1.store (j:=i*6+0) (x:=.string (markStr m)) r1).set i 0 (by omega) (.string (markStr m))
    have s1:=s0.1.stored (i*6+1) (.int .i64 ((m:Int)+1))
    have q3:=(q2.store (j:=i*6+1) (x:=.int .i64 ((m:Int)+1)) s0.1).set i 1 (by omega) (.int .i64 ((m:Int)+1))
    have s2:=s1.1.stored (i*6+2) (.int .i64 ((m:Int)+1+1))
    have q4:=(q3.store (j:=i*6+2) (x:=.int .i64 ((m:Int)+1+1)) s1.1).set i 2 (by omega) (.int .i64 ((m:Int)+1+1))
    have s3:=s2.1.stored (i*6+3) (.int .i64 ((m:Int)+1+1+1))
    have q5:=(q4.store (j:=i*6+3) (x:=.int .i64 ((m:Int)+1+1+1)) s2.1).set i 3 (by omega) (.int .i64 ((m:Int)+1+1+1))
    obtain ⟨u0,u1,z0,z1,hu1,hu2,hu3,hu4,hu5,hu6⟩:=q5 i hlt
    rw [←HP.out] at hu3
    have d4:w1.cell? ⟨g,i*6+4,none⟩=some u0:=by
     rw [r1.cellAt _ (by omega)]
     rw [List.getElem?_set_ne (by omega),List.getElem?_set_ne (by omega),List.getElem?_set_ne (by omega),List.getElem?_set_ne (by omega)] at hu1
     exact hu1
    obtain ⟨qu,cu,eu⟩:=owns_sliceP hu3
    have HMS:=markStrs_c u0 0 P z0 (m+4) _ hu3 (by omega) (by omega) (by omega) (Nat.zero_le _)
    rw [show ((m+4:Nat):Int)=(m:Int)+1+1+1+1 by omega] at HMS
    subst eu
    have CH1:Chg S wr ((((w1.setCell ⟨g,i*6+0,none⟩ (.string (markStr m))).setCell ⟨g,i*6+1,none⟩ (.int .i64 ((m:Int)+1))).setCell ⟨g,i*6+2,none⟩ (.int .i64 ((m:Int)+1+1))).setCell ⟨g,i*6+3,none⟩ (.int .i64 ((m:Int)+1+1+1))):=(Chg.of b1).trans ((Chg.set hSg).trans ((Chg.set hSg).trans ((Chg.set hSg).trans (Chg.set hSg))))
    simp only [Nat.add_zero] at HMS s3 q5 CH1 hu3
    have HMS2:=hidden HMS
    have HR2:=hidden s3.1
    have HQ2:=hidden q5
    have HU2:=hidden hu3
    have HCH1:=hidden CH1
    clear r1 s0 s1 s2 s3 q1 q2 q3 q4 q5 HMS hu1 hu2 hu3 hu5 hu6 CH1 hc
    go_wp2_with fail
    go_at_call 142
    refine HMS2.out.mono ?_
    rintro e w2 ⟨rfl,y2,g2⟩
    have r3:=HR2.out.kept g2 (owns_apart HR2.out HU2.out (by decide))
    have q6:=HQ2.out.overS HU2.out y2 g2
    obtain ⟨t0,t1,x0,x1,hv1,hv2,hv3,hv4,hv5,hv6⟩:=q6 i hlt
    rw [←HQ.out] at hv5
    have hl3:=r3.1
    have d5:w2.cell? ⟨g,i*6+5,none⟩=some t1:=by
     rw [r3.cellAt _ (by omega)]
     exact hv2
    obtain ⟨qt,ct,et⟩:=owns_sliceP hv5
    have HMN:=markNeedV_c t1 0 Q (m+4+P) x1 _ hv5 (by omega) (by omega)
    rw [show ((m+4+P:Nat):Int)=(m:Int)+1+1+1+1+(P:Int) by omega] at HMN
    subst et
    have HMN2:=hidden HMN
    have HR3:=hidden r3
    have HQ3:=hidden q6
    have HU3:=hidden hv5
    have HCH2:=hidden (HCH1.out.trans (Chg.grown g2 hu4))
    clear r3 q6 HMN hv1 hv2 hv3 hv4 hv5 y2
    go_wp2_with fail
    go_at_call 63
    refine HMN2.out.mono ?_
    rintro e w3 ⟨rfl,y3,g3⟩
    have r4:=HR3.out.kept g3 (owns_apart HR3.out HU3.out (by decide))
    have q7:=HQ3.out.overN HU3.out y3 g3
    have HR4:=hidden r4
    have HQ4:=hidden q7
    have HCH3:=hidden (HCH2.out.trans (Chg.grown g3 hv6))
    clear r4 q7 y3
    go_wp2_with fail
    go_roundw
    case rel=>exact ⟨i+1,m+4+P+Q*2,_,by omega,by go_num,by first|rfl|(simp;done)|(simp;omega),(by show _=_;have:=hm.out;have:=HTS.out;omega),HR4.out,HQ4,hchg.trans HCH3.out⟩
    case measure=>simp [intOf];omega
   ·have he:i=xs.length:=by omega
    subst he
    have hmm:m=k+cntEs xs:=by have:=hm.out;rw [List.take_length] at this;exact this
    have HMM:=hidden hmm
    clear hown hv hr hrr hmm
    go_wp2_with fail
    go_ret
    exact ⟨by rw [←HMM.out];rfl,hchg⟩
def mkD (k:Nat) (d:PickD):PickD:=⟨markStr k,(k:Int)+1,(k:Int)+1+1,(k:Int)+1+1+1,marksS (k+4) d.vP.length⟩
def mkL :Nat→List LC→List LC
 |_,[]=>[]
 |k,p::r=>⟨mkD k p.d,p.u0⟩::mkL (k+(4+p.d.vP.length)) r
def cntLK (ps:List LC):Nat:=(ps.map fun p=>4+p.d.vP.length).sum
theorem mkL_length (ps:List LC): ∀ k,(mkL k ps).length=ps.length:=by
 induction ps with
 |nil=>intro k;rfl
 |cons p r ih=>intro k;simp [mkL,ih]
theorem mkL_append (a b:List LC): ∀ k,mkL k (a++b)=mkL k a++mkL (k+cntLK a) b:=by
 induction a with
 |nil=>intro k;rfl
 |cons p r ih=>
  intro k
  show _::mkL _ (r++b)=_::(mkL _ r++_)
  rw [ih]
  have e:k+cntLK (p::r)=k+(4+p.d.vP.length)+cntLK r:=by simp [cntLK];omega
  rw [e]
theorem cntLK_take (ps:List LC) (i:Nat) (h:i<ps.length):cntLK (ps.take (i+1))=cntLK (ps.take i)+(4+ps[i].d.vP.length):=by
 rw [List.take_succ_eq_append_getElem h];simp only [cntLK,List.map_append,List.sum_append,List.map_cons,List.map_nil,List.sum_cons,List.sum_nil,Nat.add_zero]
theorem cntLK_le (ps:List LC) (i:Nat):cntLK (ps.take i)≤cntLK ps:=by
 have e:ps=ps.take i++ps.drop i:=(List.take_append_drop i ps).symm
 have h:cntLK ps=cntLK (ps.take i)+cntLK (ps.drop i):=by
  rw [show cntLK ps=cntLK (ps.take i++ps.drop i) by rw [←e]]
  simp only [cntLK,List.map_append,List.sum_append]
 omega
def midL (k:Nat) (ps:List LC) (i:Nat):List LC:=mkL k (ps.take i)++ps.drop i
theorem midL_length (k:Nat) (ps:List LC) (i:Nat) (h:i≤ps.length):(midL k ps i).length=ps.length:=by simp [midL,mkL_length];omega
theorem midL_at (k:Nat) (ps:List LC) (i:Nat) (h:i<ps.length):(midL k ps i)[i]?=some ps[i]:=by
 have e:(mkL k (ps.take i)).length=i:=by rw [mkL_length];simp;omega
 rw [midL,List.getElem?_append_right (by omega),e,Nat.sub_self,List.getElem?_drop]
 simp [h]
theorem midL_set (k:Nat) (ps:List LC) (i:Nat) (h:i<ps.length):(midL k ps i).set i ⟨mkD (k+cntLK (ps.take i)) ps[i].d,ps[i].u0⟩=midL k ps (i+1):=by
 have e:(mkL k (ps.take i)).length=i:=by rw [mkL_length];simp;omega
 have e2:midL k ps (i+1)=mkL k (ps.take i)++(⟨mkD (k+cntLK (ps.take i)) ps[i].d,ps[i].u0⟩::ps.drop (i+1)):=by
  rw [midL,List.take_succ_eq_append_getElem h,mkL_append]
  simp [mkL]
 rw [e2,midL,List.set_append_right _ _ (by omega),e,Nat.sub_self,List.drop_eq_getElem_cons h]
 rfl
theorem mk_u0 (ps:List LC): ∀ k j (h:j<ps.length),((mkL k ps)[j]'(by rw [mkL_length];exact h)).u0=ps[j].u0:=by
 induction ps with
 |nil=>intro k j h;simp at h
 |cons p r ih=>
  intro k j h
  cases j with
  |zero=>rfl
  |succ j=>simp only [mkL,List.getElem_cons_succ];exact ih _ j (by simpa using h)
theorem midL_u0 (k:Nat) (ps:List LC) (i:Nat) (hi:i≤ps.length) (j:Nat) (h:j<ps.length):((midL k ps i)[j]'(by rw [midL_length k ps i hi];exact h)).u0=ps[j].u0:=by
 have e:(mkL k (ps.take i)).length=i:=by rw [mkL_length];simp;omega
 simp only [midL]
 by_cases hj:j<i
 ·rw [List.getElem_append_left (by omega),mk_u0 _ _ _ (by simp;omega)]
  simp
 ·rw [List.getElem_append_right (by omega)]
  simp only [e,List.getElem_drop]
  congr 2
  omega
theorem markPickL_c (lo:Nat) (v:Value) (ps:List LC) (k:Nat) (w:World) (hv:RowL lo w v ps) (hsep:SepL ps) (hlo:lo≤w.heap.size) (h1:1≤k) (h2:k+cntLK ps≤4294967296):
  Calls Tryz.prog 64 #[v,.int .i64 (k:Int)] w fun e w'=>e=.returned (.int .i64 ((k+cntLK ps:Nat):Int))∧RowL lo w' v (mkL k ps)∧Below lo w w':=by
 rcases id hv.1.2 with ⟨rfl,hn0⟩|⟨g,cap,cur,rfl,hgl,hgb,hcap,hmax,_⟩
 ·have hns:ps=[]:=List.eq_nil_of_length_eq_zero hn0
  subst hns
  have HV:=hidden hv
  clear hv
  go_enter Tryz.func64,Tryz.ntmps64
  go_wp2_with fail
  go_loopw [1,5] (fun vk vi wr=>vk=.int .i64 (k:Int)∧vi=.int .i64 0∧wr=w) (fun _ _ _=>0)
  case atStart=>exact ⟨rfl,rfl,rfl⟩
  case round=>
   obtain ⟨rfl,rfl,rfl⟩:=hrel
   go_wp2_with fail
   go_ret
   exact ⟨by simp [cntLK],HV.out,Below.refl _ _⟩
 ·unfold maxLen at hmax
  have HV0:Hid (RowL lo w (.slice (some ⟨g,0,none⟩) ps.length cap) (midL k ps 0)):=by show RowL _ _ _ _;rw [show midL k ps 0=ps by simp [midL,mkL]];exact hv
  have HSEP:=hidden hsep
  obtain ⟨n,hn⟩: ∃ n,n=ps.length:=⟨_,rfl⟩
  have HN:=hidden hn
  rw [←hn] at HV0 hcap ⊢
  clear hgb hv hsep hn
  go_enter Tryz.func64,Tryz.ntmps64
  go_wp2_with fail
  go_loopw [1,5] (fun vk vi wr=>∃ (i m:Nat),i≤n∧vi=.int .i64 (i:Int)∧vk=.int .i64 (m:Int)∧Hid (m=k+cntLK (ps.take i))∧Hid (RowL lo wr (.slice (some ⟨g,0,none⟩) n cap) (midL k ps i))∧Hid (Below lo w wr)) (fun _ vi _=>n-(intOf vi).toNat)
  case atStart=>exact ⟨0,k,Nat.zero_le _,rfl,rfl,by show _=_;simp [cntLK],HV0,Below.refl _ _⟩
  case round=>
   clear HV0
   obtain ⟨wo,hwo⟩: ∃ wo,wo=wr:=⟨_,rfl⟩
   subst hwo
   obtain ⟨i,m,hi,rfl,rfl,hm,hrow,HBR⟩:=hrel
   by_cases hlt:i<n
   ·have hip:i<ps.length:=by rw [←HN.out];exact hlt
    have hml:=midL_length k ps i (by omega)
    have hiq:i<(midL k ps i).length:=by omega
    have hat:=midL_at k ps i hip
    have hsq:SepL (midL k ps i):=fun a b ha hb hne g' hg'=>by
     rw [midL_u0 k ps i (by omega) a (by omega)] at hg'
     rw [midL_u0 k ps i (by omega) b (by omega)]
     exact HSEP.out a b (by omega) (by omega) hne g' hg'
    have hset:=midL_set k ps i hip
    rw [←hm.out] at hset
    have hts:=cntLK_take ps i hip
    have htl:=cntLK_le ps (i+1)
    obtain ⟨P,hP⟩: ∃ P,P=ps[i].d.vP.length:=⟨_,rfl⟩
    have HTS:Hid (cntLK (ps.take (i+1))=cntLK (ps.take i)+(4+P)):=by show _=_;rw [hP];exact hts
    have hm2:m+4+P≤4294967296:=by have:=hm.out;omega
    have hm1:1≤m:=by have:=hm.out;omega
    have HMD:Hid (mkD m ps[i].d=⟨markStr m,(m:Int)+1,(m:Int)+1+1,(m:Int)+1+1+1,marksS (m+4) P⟩):=by show _=_;rw [hP];rfl
    obtain ⟨p,hp⟩: ∃ p,p=ps[i]:=⟨_,rfl⟩
    rw [←hp] at hat hset hP HMD
    obtain ⟨qs,hqs⟩: ∃ q,q=midL k ps i:=⟨_,rfl⟩
    have hrow':RowL lo wo (.slice (some ⟨g,0,none⟩) n cap) qs:=by rw [hqs];exact hrow.out
    simp only [←hqs] at hsq hset hiq hat hml
    have hnq:n=qs.length:=by rw [hml];exact HN.out
    have HSET:=hidden hset
    have HSQ:=hidden hsq
    have HAT:=hidden hat
    have HNQ:=hidden hnq
    have HIQ:=hidden hiq
    have HRW:=hidden hrow'
    have HM1:=hidden (fun w1=>markText_c m w1 (by omega) (by omega))
    have hki:(i:Int)<(n:Int):=by omega
    have HPL:=hidden hP
    clear hts htl hP hp hqs hsq hset hiq hat hml hnq hrow hrow' hip
    go_wp2_with fail
    go_at_call 141
    refine (HM1.out _).mono ?_
    rintro e w1 ⟨rfl,b1⟩
    have hr1:=HRW.out.below b1
    have r1:w1.ownsRow lo 59 5 (.slice (some ⟨g,0,none⟩) n cap) n (flatL qs):=by have h9:=hr1.1;rw [←HNQ.out] at h9;exact h9
    have f1:=r1.frozenAt
    have hfl:=flatL_length qs
    have hin:i<qs.length:=HIQ.out
    have hAT:qs[i]=p:=by have h9:=HAT.out;rw [List.getElem?_eq_getElem hin] at h9;exact Option.some.inj h9
    have hc: ∀ j,j<5→w1.cell? ⟨g,i*5+j,none⟩=(p.cells)[j]? :=fun j hj=>by
     rw [r1.cellAt _ (by have:=HNQ.out;omega),flatL_at qs i hin j hj,hAT]
    have d0:w1.cell? ⟨g,i*5,none⟩=some (.string p.d.name):=hc 0 (by omega)
    have d1:w1.cell? ⟨g,i*5+1,none⟩=some (.int .i64 p.d.vA):=hc 1 (by omega)
    have d2:w1.cell? ⟨g,i*5+2,none⟩=some (.int .i64 p.d.vB):=hc 2 (by omega)
    have d3:w1.cell? ⟨g,i*5+3,none⟩=some (.int .i64 p.d.vC):=hc 3 (by omega)
    have d4:w1.cell? ⟨g,i*5+4,none⟩=some p.u0:=hc 4 (by omega)
    have hmem:qs[i]∈qs:=List.getElem_mem hin
    have s0:=r1.stored (i*5+0) (.string (markStr m))
    have s1:=s0.1.stored (i*5+1) (.int .i64 ((m:Int)+1))
    have s2:=s1.1.stored (i*5+2) (.int .i64 ((m:Int)+1+1))
    have s3:=s2.1.stored (i*5+3) (.int .i64 ((m:Int)+1+1+1))
    have ua:=own_put (j:=i*5+0) (x:=.string (markStr m)) (hr1.2 _ hmem) r1 (by decide)
    have ub:=own_put (j:=i*5+1) (x:=.int .i64 ((m:Int)+1)) ua s0.1 (by decide)
    have uc:=own_put (j:=i*5+2) (x:=.int .i64 ((m:Int)+1+1)) ub s1.1 (by decide)
    have u1:=own_put (j:=i*5+3) (x:=.int .i64 ((m:Int)+1+1+1)) uc s2.1 (by decide)
    clear ua ub uc
    rw [hAT, ←HPL.out] at u1
    have hbW:Below lo w1 ((((w1.setCell ⟨g,i*5+0,none⟩ (.string (markStr m))).setCell ⟨g,i*5+1,none⟩ (.int .i64 ((m:Int)+1))).setCell ⟨g,i*5+2,none⟩ (.int .i64 ((m:Int)+1+1))).setCell ⟨g,i*5+3,none⟩ (.int .i64 ((m:Int)+1+1+1))):=(((((Below.refl _ _).setCell hgl _).setCell hgl _).setCell hgl _).setCell hgl _)
    have hlw:lo≤wo.heap.size:=Nat.le_trans hlo HBR.out.size
    have HBW:Hid (Below lo w ((((w1.setCell ⟨g,i*5+0,none⟩ (.string (markStr m))).setCell ⟨g,i*5+1,none⟩ (.int .i64 ((m:Int)+1))).setCell ⟨g,i*5+2,none⟩ (.int .i64 ((m:Int)+1+1))).setCell ⟨g,i*5+3,none⟩ (.int .i64 ((m:Int)+1+1+1)))):=(HBR.out.trans (b1.mono hlw)).trans hbW
    have hUL: ∀ x,p.u0.ownBlock=some x→lo≤x:=fun x hx=>(u1.lt x hx).1
    have HMS:=markStrs_c p.u0 lo P _ (m+4) _ u1 (by omega) (by omega) (by omega) (by have h9:=HBW.out.size;omega)
    rw [show ((m+4:Nat):Int)=(m:Int)+1+1+1+1 by omega] at HMS
    obtain ⟨qu,cu,eu⟩:=owns_sliceP u1
    have HR1:=hidden hr1
    have HUL:=hidden hUL
    have HU:=hidden eu
    rw [eu] at HMS d4
    simp only [Nat.add_zero] at HMS HBW
    have HMS2:=hidden HMS
    clear r1 s0 s1 s2 s3 HMS hc u1 hr1 hbW hUL eu b1 HRW HM1 hmem hfl hAT hin hlw
    go_wp2_with fail
    go_at_call 142
    refine HMS2.out.mono ?_
    rintro e w2 ⟨rfl,y2,g2⟩
    have g3:=g2
    rw [←HU.out] at g3 y2
    have hR2:RowL lo w2 (.slice (some ⟨g,0,none⟩) n cap) (midL k ps (i+1)):=by
     rw [←HSET.out]
     have hin:=HIQ.out
     have hAT:qs[i]=p:=by have h9:=HAT.out;rw [List.getElem?_eq_getElem hin] at h9;exact Option.some.inj h9
     refine RowL.mark HR1.out HNQ.out hin HSQ.out ⟨mkD m p.d,p.u0⟩ (by rw [hAT]) ?_ ?_
     ·rw [hAT,HMD.out]
      simp only [Nat.add_zero]
      exact g3
     ·show w2.ownsRow lo 9 1 p.u0 (mkD m p.d).vP.length (strsV (mkD m p.d).vP)
      rw [HMD.out]
      simp only [length_marksS]
      exact y2
    have HR4:=hidden hR2
    have HB4:Hid (Below lo w w2):=HBW.out.grown g3 (Nat.le_trans hlo HBW.out.size) (fun x hx=>HUL.out x hx)
    clear hR2 y2 g2 g3 HMS2 HBW d0 d1 d2 d3 d4
    go_wp2_with fail
    go_roundw
    case rel=>exact ⟨i+1,m+4+P,by omega,by go_num,by first|rfl|(simp;done)|(simp;omega),(by show _=_;have:=hm.out;have:=HTS.out;omega),HR4,HB4⟩
    case measure=>simp [intOf];omega
   ·have he:i=n:=by omega
    subst he
    have hmm:m=k+cntLK ps:=by have h9:=hm.out;rw [HN.out,List.take_length] at h9;exact h9
    have hrr:RowL lo wo (.slice (some ⟨g,0,none⟩) i cap) (mkL k ps):=by
     have h9:=hrow.out
     rw [HN.out] at h9
     rw [HN.out]
     simpa [midL] using h9
    have HMM:=hidden hmm
    have HRR:=hidden hrr
    clear hmm hrr hrow hm
    go_wp2_with fail
    go_ret
    exact ⟨by rw [←HMM.out];rfl,HRR.out,HBR.out⟩
theorem mkL_at (ps:List LC): ∀ (k i:Nat) (h:i<ps.length),(mkL k ps)[i]'(by rw [mkL_length];exact h)=⟨mkD (k+cntLK (ps.take i)) ps[i].d,ps[i].u0⟩:=by
 induction ps with
 |nil=>intro k i h;simp at h
 |cons p r ih=>
  intro k i h
  cases i with
  |zero=>simp [mkL,cntLK]
  |succ i=>
   have h':i<r.length:=by simpa using h
   simp only [mkL,List.getElem_cons_succ,List.take_succ_cons]
   rw [ih _ i h']
   have e:k+cntLK (p::r.take i)=k+(4+p.d.vP.length)+cntLK (r.take i):=by simp [cntLK];omega
   rw [e]
theorem heldPickL_c (lo:Nat) (v:Value) (ps:List LC) (k:Nat) (w:World) (hv:RowL lo w v (mkL k ps)) (h1:1≤k) (h2:k+cntLK ps≤4294967296):
  Calls Tryz.prog 65 #[v,.int .i64 (k:Int)] w fun e w'=>e=.returned (.int .i64 ((k+cntLK ps:Nat):Int))∧Below w.heap.size w w':=by
 have hv1:=hv.1
 rw [mkL_length] at hv1
 rcases id hv1.2 with ⟨rfl,hn0⟩|⟨g,cap,cur,rfl,hgl,hgb,hcap,hmax,_⟩
 ·have hns:ps=[]:=List.eq_nil_of_length_eq_zero hn0
  subst hns
  clear hv hv1
  go_enter Tryz.func65,Tryz.ntmps65
  go_wp2_with fail
  go_loopw [1,5] (fun vk vi wr=>vk=.int .i64 (k:Int)∧vi=.int .i64 0∧wr=w) (fun _ _ _=>0)
  case atStart=>exact ⟨rfl,rfl,rfl⟩
  case round=>
   obtain ⟨rfl,rfl,rfl⟩:=hrel
   go_wp2_with fail
   go_ret
   exact ⟨by simp [cntLK],Below.refl _ _⟩
 ·unfold maxLen at hmax
  have hglt:g<w.heap.size:=(Array.getElem?_eq_some_iff.1 hgb).1
  obtain ⟨n,hn⟩: ∃ n,n=ps.length:=⟨_,rfl⟩
  have HN:=hidden hn
  rw [←hn] at hv1 hcap hv ⊢
  have HC:Hid (∀ i (h:i<ps.length),∀ j,j<5→w.cell? ⟨g,i*5+j,none⟩=((⟨mkD (k+cntLK (ps.take i)) ps[i].d,ps[i].u0⟩:LC).cells)[j]?):=fun i h j hj=>by
   rw [hv1.cellAt _ (by rw [hn];omega),flatL_at _ i (by rw [mkL_length];exact h) j hj,mkL_at ps k i h]
  have HU:Hid (∀ i (h:i<ps.length),w.ownsRow lo 9 1 ps[i].u0 ps[i].d.vP.length (strsV (marksS (k+cntLK (ps.take i)+4) ps[i].d.vP.length))):=fun i h=>by
   have h9:=hv.2 _ (List.getElem_mem (show i<(mkL k ps).length by rw [mkL_length];exact h))
   rw [mkL_at ps k i h] at h9
   simpa [mkD] using h9
  clear hgb hv hv1 hn
  go_enter Tryz.func65,Tryz.ntmps65
  go_wp2_with fail
  go_loopw [1,5] (fun vk vi wr=>∃ (i m:Nat),i≤n∧vi=.int .i64 (i:Int)∧vk=.int .i64 (m:Int)∧Hid (m=k+cntLK (ps.take i))∧Below w.heap.size w wr) (fun _ vi _=>n-(intOf vi).toNat)
  case atStart=>exact ⟨0,k,Nat.zero_le _,rfl,rfl,by show _=_;simp [cntLK],Below.refl _ _⟩
  case round=>
   obtain ⟨i,m,hi,rfl,rfl,hm,hbr⟩:=hrel
   by_cases hlt:i<n
   ·have hip:i<ps.length:=by rw [←HN.out];exact hlt
    have hts:=cntLK_take ps i hip
    have htl:=cntLK_le ps (i+1)
    have hc:=HC.out i hip
    have hu:=HU.out i hip
    rw [←hm.out] at hc hu
    obtain ⟨P,hP⟩: ∃ P,P=ps[i].d.vP.length:=⟨_,rfl⟩
    rw [←hP] at hu
    have HTS:Hid (cntLK (ps.take (i+1))=cntLK (ps.take i)+(4+P)):=by show _=_;rw [hP];exact hts
    have hm2:m+4+P≤4294967296:=by have:=hm.out;omega
    have hm1:1≤m:=by have:=hm.out;omega
    obtain ⟨u0,hu0⟩: ∃ u,u=ps[i].u0:=⟨_,rfl⟩
    rw [←hu0] at hu
    obtain ⟨M1,hM1⟩: ∃ M,M=markStr m:=⟨_,rfl⟩
    have e0:w.cell? ⟨g,i*5,none⟩=some (.string M1):=by rw [hM1];exact hc 0 (by omega)
    have e1:w.cell? ⟨g,i*5+1,none⟩=some (.int .i64 ((m:Int)+1)):=hc 1 (by omega)
    have e2:w.cell? ⟨g,i*5+2,none⟩=some (.int .i64 ((m:Int)+1+1)):=hc 2 (by omega)
    have e3:w.cell? ⟨g,i*5+3,none⟩=some (.int .i64 ((m:Int)+1+1+1)):=hc 3 (by omega)
    have e4:w.cell? ⟨g,i*5+4,none⟩=some u0:=by rw [hu0];exact hc 4 (by omega)
    obtain ⟨qu,cu,eu⟩:=owns_sliceP hu
    rw [eu] at e4 hu
    have HM1:=hidden (fun w1=>markText_c m w1 (by omega) (by omega))
    rw [←hM1] at HM1
    have KEEP:Hid (∀ w1,Below wr.heap.size wr w1→w1.cell? ⟨g,i*5,none⟩=some (.string M1)):=fun w1 h=>
     ((hbr.trans (h.mono hbr.size)).cell (p:=⟨g,_,none⟩) hglt).trans e0
    have KEEP4:Hid (∀ w1,Below wr.heap.size wr w1→w1.cell? ⟨g,i*5+1,none⟩=some (.int .i64 ((m:Int)+1))∧w1.cell? ⟨g,i*5+2,none⟩=some (.int .i64 ((m:Int)+1+1))∧w1.cell? ⟨g,i*5+3,none⟩=some (.int .i64 ((m:Int)+1+1+1))∧w1.cell? ⟨g,i*5+4,none⟩=some (.slice qu P cu)):=fun w1 h=>
     have hb:=hbr.trans (h.mono hbr.size)
     ⟨(hb.cell (p:=⟨g,_,none⟩) hglt).trans e1,(hb.cell (p:=⟨g,_,none⟩) hglt).trans e2,(hb.cell (p:=⟨g,_,none⟩) hglt).trans e3,(hb.cell (p:=⟨g,_,none⟩) hglt).trans e4⟩
    have HHS:Hid (∀ w1,Below wr.heap.size wr w1→Calls Tryz.prog 143 #[.slice qu P cu,.int .i64 ((m:Int)+1+1+1+1)] w1 fun e w'=>e=.returned (.int .i64 ((m:Int)+1+1+1+1+(P:Int)))∧Below w1.heap.size w1 w'):=fun w1 h=>by
     have h9:=heldStrs_c (.slice qu P cu) P (m+4) w1 (reads_of_owns (owns_of_belowN hu (hbr.trans (h.mono hbr.size)))) (by omega) (by omega) (by omega)
     rw [show ((m+4:Nat):Int)=(m:Int)+1+1+1+1 by omega] at h9
     exact h9
    have hki:(i:Int)<(n:Int):=by omega
    have hng: ¬(m:Int)+1+1+1+1+(P:Int)<0:=by omega
    have h0:Below wr.heap.size wr wr.drew:=(Below.refl _ _).drew
    clear hts htl hc hu hP hu0 hM1 e0 e1 e2 e3 e4 eu hip
    go_wp2_with fail
    refine wp_region_held_drew (S:=(fun w'=>w'.cell? ⟨g,i*5,none⟩=some (.string M1))) (by kernel_rfl) ?SR10 (fun hHeld=>?_)
    case SR10=>(first|(with_reducible exact KEEP.out _ h1')|(with_reducible exact KEEP.out _ h0))
    refine tk 0 hHeld (h:=?_)
    refine tk 1 hHeld (h:=?_)
    refine tk 2 hHeld (h:=?_)
    refine tk 3 hHeld (h:=?_)
    refine tk 4 hHeld (h:=?_)
    refine tk 5 hHeld (h:=?_)
    refine wpAnyH_ready (rs:=[6]) (by kernel_rfl) (by simp) ?_
    refine AllReadyH.cons rfl (fun K hK=>?_) AllReadyH.nil
    go_simp
    go_wp2_with (go_at_call 141;refine (HM1.out _).mono ?_;rintro e w1 ⟨rfl,b1⟩;have h1':Below wr.heap.size wr w1:=h0.trans (b1.mono h0.size))
    clear hHeld
    refine hK.out _ _ ?SR17 (fun hHeld=>?_)
    case SR17=>((try dsimp only);first|(with_reducible exact KEEP.out _ h1')|(with_reducible exact KEEP.out _ h0))
    clear hK K
    refine tk 7 hHeld (h:=?_)
    refine wpAnyH_done (by kernel_rfl) ?_ _
    obtain ⟨c1,c2,c3,c4⟩:=KEEP4.out _ h1'
    clear KEEP KEEP4 HM1
    go_wp2_with fail
    go_at_call 143
    refine (HHS.out _ h1').mono ?_
    rintro e w2 ⟨rfl,b2⟩
    go_wp2_with fail
    go_roundw
    case rel=>exact ⟨i+1,m+4+P,by omega,by go_num,by first|rfl|(simp;done)|(simp;omega),(by show _=_;have:=hm.out;have:=HTS.out;omega),hbr.trans ((h1'.trans (b2.mono h1'.size)).mono hbr.size)⟩
    case measure=>simp [intOf];omega
   ·have he:i=n:=by omega
    subst he
    have hmm:m=k+cntLK ps:=by have h9:=hm.out;rw [HN.out,List.take_length] at h9;exact h9
    have HMM:=hidden hmm
    clear hmm hm HC HU
    go_wp2_with fail
    go_ret
    exact ⟨by rw [←HMM.out];rfl,hbr⟩
end Go.Proofs.YtlfmefojcmpfeaaGreatDoor
