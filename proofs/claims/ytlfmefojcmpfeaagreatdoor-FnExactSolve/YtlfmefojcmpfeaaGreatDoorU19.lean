/-
  Contracts for the walks and pure facts, several texts in one: each theorem says what it proves, and under which conditions.
-/
import Derived.Laws.AppendOwnNone
import Derived.Test.YtlfmefojcmpfeaaGreatDoorUT
import Derived.Test.YtlfmefojcmpfeaaGreatDoorU18
set_option linter.unusedSimpArgs false
set_option linter.unusedVariables false
set_option maxHeartbeats 16000000
set_option maxRecDepth 100000
namespace Go.Proofs.YtlfmefojcmpfeaaGreatDoor
open Go.RowKit
attribute [local go_sem ↓] Go.wp_at_zero Go.wp_at_succ
theorem owns_put4 {w:World} {base N:Nat} {e t:TypeId} {u:Value} {n:Nat} {xs:List Value} {c0 c1 c2 c3:Value} (hO:w.ownsRow base e 1 u n xs) (hF:Four w N t c0 c1 c2 c3) (hne:t≠e) (v0 v1 v2 v3:Value):
  ((((w.setCell ⟨N,0,none⟩ v0).setCell ⟨N,1,none⟩ v1).setCell ⟨N,2,none⟩ v2).setCell ⟨N,3,none⟩ v3).ownsRow base e 1 u n xs:=
 owns_put (owns_put (owns_put (owns_put hO hF hne v0) (four_put hF v0).1 hne v1) (four_put (four_put hF v0).1 v1).2.1 hne v2) (four_put (four_put (four_put hF v0).1 v1).2.1 v2).2.2.1 hne v3
theorem below_put4 {B:Nat} {w0 w:World} {N:Nat} (h:Below B w0 w) (hN:B≤N) (v0 v1 v2 v3:Value):Below B w0 ((((w.setCell ⟨N,0,none⟩ v0).setCell ⟨N,1,none⟩ v1).setCell ⟨N,2,none⟩ v2).setCell ⟨N,3,none⟩ v3):=
 (((h.setCell (by simpa using hN) _).setCell (by simpa using hN) _).setCell (by simpa using hN) _).setCell (by simpa using hN) _
theorem four_three (w:World) (t:TypeId) (a0 a1 a2 a3 b0 b1 b2 b3 c0 c1 c2 c3:Value):Four (((w.alloc (.cells #[a0,a1,a2,a3] t)).alloc (.cells #[b0,b1,b2,b3] t)).alloc (.cells #[c0,c1,c2,c3] t)) w.heap.size t a0 a1 a2 a3∧Four (((w.alloc (.cells #[a0,a1,a2,a3] t)).alloc (.cells #[b0,b1,b2,b3] t)).alloc (.cells #[c0,c1,c2,c3] t)) (w.heap.size+1) t b0 b1 b2 b3∧Four (((w.alloc (.cells #[a0,a1,a2,a3] t)).alloc (.cells #[b0,b1,b2,b3] t)).alloc (.cells #[c0,c1,c2,c3] t)) (w.heap.size+1+1) t c0 c1 c2 c3:=by
 obtain ⟨h1,h2⟩:=four_two w t t a0 a1 a2 a3 b0 b1 b2 b3
 refine ⟨four_old h1 _,four_old h2 _,?_⟩
 have h:=four_new ((w.alloc (.cells #[a0,a1,a2,a3] t)).alloc (.cells #[b0,b1,b2,b3] t)) t c0 c1 c2 c3
 have s2: ∀ o o',((w.alloc o).alloc o').heap.size=w.heap.size+1+1:=fun o o'=>by simp
 rw [s2] at h
 exact h
theorem copy_c (a b c:Int) (u:Value) (ps:List ByteArray) (base:Nat) (w:World) (hu:w.ownsRow base 9 1 u ps.length (strsV ps)) (hn:ps.length≤1048576):
  Calls Tryz.prog 78 #[.agg #[.int .i64 a,.int .i64 b,.int .i64 c,u]] w fun e w'=>∃ u',e=.returned (.agg #[.int .i64 a,.int .i64 b,.int .i64 c,u'])∧w'.ownsRow w.heap.size 9 1 u' ps.length (strsV ps)∧Below w.heap.size w w':=by
 obtain ⟨i0,hi,hz0,hz1,hz2⟩:=info_parts infoS
 have hb3: ∀ A R O,Below w.heap.size w (((w.alloc A).alloc R).alloc O):=fun A R O=>(((Below.refl _ _).alloc (Nat.le_refl _) _).alloc (by simp) _).alloc (by simp;omega) _
 have hs3: ∀ A R O,(((w.alloc A).alloc R).alloc O).heap.size=w.heap.size+1+1+1:=fun A R O=>by simp
 have LIT:Hid (∀ A R O,((((w.alloc A).alloc R).alloc O).alloc (.cells #[] 9)).ownsRow w.heap.size 9 1 (.slice (some ⟨w.heap.size+1+1+1,0,none⟩) 0 0) 0 []):=fun A R O=>by
  have ho:=World.ownsRow_lit (((w.alloc A).alloc R).alloc O) #[] 0 (base:=w.heap.size) (e:=9) (size:=1) (hb3 _ _ _).size (by unfold maxLen;omega) rfl
  rw [hs3] at ho
  exact ho
 have hb4: ∀ A R O,Below w.heap.size w ((((w.alloc A).alloc R).alloc O).alloc (.cells #[] 9)):=fun A R O=>(hb3 A R O).alloc (hb3 A R O).size _
 rcases hu.2 with ⟨rfl,h0⟩|⟨gu,cap,cur,rfl,hgu,hgh,_⟩
 ·have hps:ps=[]:=List.eq_nil_of_length_eq_zero h0
  subst hps
  clear hu
  go_enter Tryz.func78,Tryz.ntmps78
  go_wp2_with (at_builtin;refine wpList_append_own_none rfl _ _ 28 rfl w.heap.size 9 i0 1 Tryz.underlying28 hi (.slice (some ⟨w.heap.size+1+1+1,0,none⟩) 0 0) 0 [] rfl (LIT.out _ _ _) rfl ?_)
  exact bodyPost_ret (v:=.agg #[.int .i64 a,.int .i64 b,.int .i64 c,.slice (some ⟨w.heap.size+1+1+1,0,none⟩) 0 0]) (by simp [results,Tryz.results78,go_sem]) rfl ⟨_,rfl,LIT.out _ _ _,hb4 _ _ _⟩
 ·have hgl:gu<w.heap.size:=(Array.getElem?_eq_some_iff.1 hgh).1
  obtain ⟨F0,F1,F2⟩:=four_three w 30 (.int .i64 a) (.int .i64 b) (.int .i64 c) (.slice (some ⟨gu,0,none⟩) ps.length cap) (.int .i64 0) (.int .i64 0) (.int .i64 0) (.slice none 0 0) (.int .i64 a) (.int .i64 b) (.int .i64 c) (.slice (some ⟨gu,0,none⟩) ps.length cap)
  have G1:=four_old F1 (.cells #[] 9)
  have G2:=four_old F2 (.cells #[] 9)
  have KB:=hb4 (.cells #[.int .i64 a,.int .i64 b,.int .i64 c,.slice (some ⟨gu,0,none⟩) ps.length cap] 30) (.cells #[.int .i64 0,.int .i64 0,.int .i64 0,.slice none 0 0] 30) (.cells #[.int .i64 a,.int .i64 b,.int .i64 c,.slice (some ⟨gu,0,none⟩) ps.length cap] 30)
  have HN:Hid (∀ j u,(strsV ps)[j]?=some u→((((w.alloc (.cells #[.int .i64 a,.int .i64 b,.int .i64 c,.slice (some ⟨gu,0,none⟩) ps.length cap] 30)).alloc (.cells #[.int .i64 0,.int .i64 0,.int .i64 0,.slice none 0 0] 30)).alloc (.cells #[.int .i64 a,.int .i64 b,.int .i64 c,.slice (some ⟨gu,0,none⟩) ps.length cap] 30)).alloc (.cells #[] 9)).cell? ((⟨gu,0,none⟩:Addr).add j)=some u):=fun j x hx=>by
   have hj:j<ps.length:=by have:=(List.getElem?_eq_some_iff.1 hx).1;simpa using this
   have e:((⟨gu,0,none⟩:Addr).add j)=⟨gu,j,none⟩:=by unfold Addr.add;split<;>simp_all
   rw [e,KB.cell (p:=⟨gu,j,none⟩) hgl,hu.cellAt j (by simpa using hj),hx]
  clear F0 F1 F2 hgh
  go_enter Tryz.func78,Tryz.ntmps78
  go_wp2_with (at_builtin;refine wpList_append_own _ rfl _ _ 28 rfl w.heap.size 9 i0 (.string ⟨#[]⟩) 1 16 Tryz.underlying28 hi hz0 hz1 hz2 rfl (by decide) (.slice (some ⟨w.heap.size+1+1+1,0,none⟩) 0 0) 0 [] rfl (LIT.out _ _ _) ⟨gu,0,none⟩ ps.length cap (strsV ps) rfl (by simp) HN.out (fun u hu=>by simp [strsV] at hu;obtain ⟨t,_,rfl⟩:=hu;rfl) (by unfold maxLen;omega) (by omega) KB.size ?_)
  intro v2 w2 o2 gr2 _
  have X1:=G1.turned gr2 (fun h=>by simp only [Value.ownBlock,Option.some.injEq] at h;omega)
  have X2:=G2.turned gr2 (fun h=>by simp only [Value.ownBlock,Option.some.injEq] at h;omega)
  have KB2:=below_turned KB gr2 KB.size (fun k hk=>by simp [Value.ownBlock] at hk;omega)
  obtain ⟨q2,n2,c2,hv2⟩: ∃ q n c,v2=.slice q n c:=by rcases o2.2 with ⟨rfl,_⟩|⟨g,cap,cur,rfl,_⟩<;>exact ⟨_,_,_,rfl⟩
  subst hv2
  have o3:w2.ownsRow w.heap.size 9 1 (.slice q2 n2 c2) ps.length (strsV ps):=by simpa using o2
  obtain ⟨x0,x1,x2,x3⟩:=X1.cells
  have fx:=X1.ice
  obtain ⟨y0,y1,y2,y3⟩:=X2.cells
  have fy:=X2.ice
  clear gr2 o2 G1 G2 HN hu KB
  have O4:=owns_put (j:=3) o3 X2 (by decide) (.slice q2 n2 c2)
  have Y1:=four_far (N:=w.heap.size+1+1) (j:=3) X1 (by omega) (.slice q2 n2 c2)
  have KB3:=KB2.setCell (p:=⟨w.heap.size+1+1,3,none⟩) (by simp;omega) (.slice q2 n2 c2)
  go_wp2_with fail
  refine bodyPost_ret (v:=.agg #[.int .i64 a,.int .i64 b,.int .i64 c,.slice q2 n2 c2]) (by simp [results,Tryz.results78,go_sem,x0,x1,x2,x3]) rfl ⟨_,rfl,?_,?_⟩
  ·exact owns_put4 O4 Y1 (by decide) _ _ _ _
  ·exact below_put4 KB3 (by omega) _ _ _ _
theorem wp_append_nilE {P:Program} {w:World} {o:Oper} {a:Act} {K:Act→World→Prop} {Q:Exit→Act→World→Prop} (s x:Operand) (t:TypeId)
  (ho:o.op=.call {callee:=.builtin .append,args:=#[s,x],argTypes:=#[t,t]})
  (base:Nat) (e:TypeId) (i:TypeInfo) (size:Nat) (ht:P.underlying t=some (.slice e)) (hi:P.info? e=some i)
  (v:Value) (n:Nat) (xs:List Value) (hs:a.eval s=v) (hown:w.ownsRow base e size v n xs) (hx:a.eval x=.slice none 0 0)
  (h:K (a.put o.dst v) w):o.wp P a w K Q:=by
 have hrun:=run_append_owned_none (P:=P) (w:=w) base t o.type e i size ht hi v n xs hown
 unfold Oper.wp
 simp [execOp,ho,resolve,invoke,builtin,hs,hx,hrun,Result.andThen]
 exact h
theorem rows_apartE {w:World} {base base' e e' sz sz':Nat} {v v':Value} {n n':Nat} {xs xs':List Value} (h:w.ownsRow base e sz v n xs) (h':w.ownsRow base' e' sz' v' n' xs') (hne:e≠e'):v'.ownBlock=none∨v'.ownBlock≠v.ownBlock:=by
 rcases h.2 with ⟨rfl,_⟩|⟨g,cap,cur,rfl,_,hg,_⟩
 ·rcases h'.2 with ⟨rfl,_⟩|⟨g',cap',cur',rfl,_,hg',_⟩
  ·exact .inl rfl
  ·exact .inr (by simp [Value.ownBlock])
 ·rcases h'.2 with ⟨rfl,_⟩|⟨g',cap',cur',rfl,_,hg',_⟩
  ·exact .inl rfl
  ·refine .inr fun e1=>hne ?_
   simp only [Value.ownBlock,Option.some.injEq] at e1
   subst e1
   rw [hg] at hg'
   simp only [Option.some.injEq,Obj.cells.injEq] at hg'
   exact hg'.2.1
theorem owns_loE {w:World} {lo lo':Nat} {e:TypeId} {sz n:Nat} {v:Value} {xs:List Value} (h:lo'≤lo) (hg:w.ownsRow lo e sz v n xs):w.ownsRow lo' e sz v n xs:=owns_lo h hg
theorem needsV_one (xs:List NeedD): ∀ u∈needsV xs,u.oneCell'=true:=fun u hu=>by
 simp only [needsV,List.mem_flatMap] at hu
 obtain ⟨d,_,hd⟩:=hu
 simp at hd
 rcases hd with rfl|rfl<;>rfl
theorem laid_needs {S:Nat→Prop} {w:World} {ys:List Value} {xs:List NeedD} (h:Laid shNeed S w ys xs xs.length) (hl:ys.length=xs.length*2):ys=needsV xs:=by
 apply List.ext_getElem?
 intro j
 by_cases hj:j<xs.length*2
 ·have hi:j / 2<xs.length:=by omega
  obtain ⟨cs,h1,⟨rfl,_,_⟩,h3⟩:=h (j / 2) hi hi
  obtain ⟨n1,n2⟩:=needsV_at xs (j / 2) hi
  have e0:ys[j / 2*2+0]?=some (Value.string xs[j / 2].n):=h3 0 (by simp)
  have e1:ys[j / 2*2+1]?=some (Value.string xs[j / 2].r):=h3 1 (by simp)
  rcases (by omega:j % 2=0∨j % 2=1) with hm|hm
  ·have ej:j=j / 2*2:=by omega
   rw [ej,n1];simpa using e0
  ·have ej:j=j / 2*2+1:=by omega
   rw [ej,n2];simpa using e1
 ·rw [List.getElem?_eq_none (by omega),List.getElem?_eq_none (by rw [needsV_length];omega)]
theorem l8Copy_c (S:Nat→Prop) (d:EntryD) (cs:List Value) (w:World) (hd:shEntryO.lies S w cs d) (hB: ∀ b,S b→b<w.heap.size) (hw:wtEntry d≤1048576):
  Calls Tryz.prog 83 #[.agg cs.toArray] w fun e w'=>∃ cs',e=.returned (.agg cs'.toArray)∧shEntryO.lies (Ow w.heap.size w'.heap.size) w' cs' d∧Below w.heap.size w w':=by
 obtain ⟨u0,u1,rfl,s_n,r0,p0,r1⟩:=hd
 obtain ⟨i0,hi,hz0,hz1,hz2⟩:=info_parts infoNeed
 have hb2: ∀ A R,Below w.heap.size w ((w.alloc A).alloc R):=fun A R=>((Below.refl _ _).alloc (Nat.le_refl _) _).alloc (by simp) _
 have hnw:wtRow wtNeed d.needs≤1048576:=by unfold wtEntry at hw;omega
 have hnn:=len_wtRow wtNeed d.needs
 have hbk:bulkS d.vP≤1048576:=by unfold wtEntry at hw;omega
 have hpl:d.vP.length≤1048576:=by unfold bulkS at hbk;omega
 have hns2: ∀ x∈d.needs,x.n.size≤maxLen∧x.r.size≤maxLen:=fun x hx=>by
  have h1:x.n.size+x.r.size≤wtRow wtNeed d.needs:=wt_wtRow wtNeed hx
  unfold maxLen;omega
 obtain ⟨hnl,ysN,oN,hSg,hLd⟩:=r1
 have hyN:=laid_needs hLd oN.1
 subst hyN
 have HV': ∀ w1,Below w.heap.size w w1→Calls Tryz.prog 78 #[.agg #[.int .i64 d.vA,.int .i64 d.vB,.int .i64 d.vC,u0]] w1 fun e w'=>∃ u',e=.returned (.agg #[.int .i64 d.vA,.int .i64 d.vB,.int .i64 d.vC,u'])∧w'.ownsRow w1.heap.size 9 1 u' d.vP.length (strsV d.vP)∧Below w1.heap.size w1 w':=fun w1 h=>copy_c _ _ _ u0 d.vP 0 w1 (r0.keep (.of h hB)).1 hpl
 obtain ⟨a0,cap0,eu0⟩:=r0.slice
 subst eu0
 clear r0 hLd
 rcases id oN.2 with ⟨rfl,hnil0⟩|⟨gN,cap1,cur,rfl,_,hgN,_⟩
 ·have hnil:d.needs=[]:=List.eq_nil_of_length_eq_zero hnil0
  obtain ⟨hAz,hRz⟩:=two_boxes (w:=w) (.cells #[.string d.name,.int .i64 d.vA,.int .i64 d.vB,.int .i64 d.vC,.slice a0 d.vP.length cap0,.slice none 0 0] 35 (0,0)) (.cells #[.string ⟨#[]⟩,.int .i64 0,.int .i64 0,.int .i64 0,.slice none 0 0,.slice none 0 0] 35 (0,0))
  have hwz:=hb2 (.cells #[.string d.name,.int .i64 d.vA,.int .i64 d.vB,.int .i64 d.vC,.slice a0 d.vP.length cap0,.slice none 0 0] 35 (0,0)) (.cells #[.string ⟨#[]⟩,.int .i64 0,.int .i64 0,.int .i64 0,.slice none 0 0,.slice none 0 0] 35 (0,0))
  have hsz:((w.alloc (.cells #[.string d.name,.int .i64 d.vA,.int .i64 d.vB,.int .i64 d.vC,.slice a0 d.vP.length cap0,.slice none 0 0] 35 (0,0))).alloc (.cells #[.string ⟨#[]⟩,.int .i64 0,.int .i64 0,.int .i64 0,.slice none 0 0,.slice none 0 0] 35 (0,0))).heap.size=w.heap.size+2:=by simp
  go_enter Tryz.func83,Tryz.ntmps83
  go_wp2_with fail
  obtain ⟨wz,hW⟩: ∃ wz,wz=(w.alloc (.cells #[.string d.name,.int .i64 d.vA,.int .i64 d.vB,.int .i64 d.vC,.slice a0 d.vP.length cap0,.slice none 0 0] 35 (0,0))).alloc (.cells #[.string ⟨#[]⟩,.int .i64 0,.int .i64 0,.int .i64 0,.slice none 0 0,.slice none 0 0] 35 (0,0)):=⟨_,rfl⟩
  rw [←hW] at hAz hRz hwz hsz
  rw [←hW]
  clear hW
  have HV:Hid (∀ w1,Below wz.heap.size wz w1→Calls Tryz.prog 78 #[.agg #[.int .i64 d.vA,.int .i64 d.vB,.int .i64 d.vC,.slice a0 d.vP.length cap0]] w1 fun e w'=>∃ u',e=.returned (.agg #[.int .i64 d.vA,.int .i64 d.vB,.int .i64 d.vC,u'])∧w'.ownsRow w1.heap.size 9 1 u' d.vP.length (strsV d.vP)∧Below w1.heap.size w1 w'):=fun w1 h=>HV' w1 (hwz.trans (h.mono (by omega)))
  have h0:Below wz.heap.size wz wz.drew:=(Below.refl _ _).drew
  have KEEP:Hid (∀ w1,Below wz.heap.size wz w1→w1.cell? ⟨w.heap.size,0,none⟩=some (.string d.name)∧w1.cell? ⟨w.heap.size,1,none⟩=some (.int .i64 d.vA)∧w1.cell? ⟨w.heap.size,2,none⟩=some (.int .i64 d.vB)∧w1.cell? ⟨w.heap.size,3,none⟩=some (.int .i64 d.vC)∧w1.cell? ⟨w.heap.size,4,none⟩=some (.slice a0 d.vP.length cap0)∧w1.cell? ⟨w.heap.size,5,none⟩=some (.slice none 0 0)):=fun w1 h=>by
   have hA:=(h.block w.heap.size (by omega)).trans hAz
   exact ⟨vblk_cell hA 0,vblk_cell hA 1,vblk_cell hA 2,vblk_cell hA 3,vblk_cell hA 4,vblk_cell hA 5⟩
  clear HV'
  refine wp_region_held_drew (S:=(fun w1=>w1.cell? ⟨w.heap.size,0,none⟩=some (.string d.name)∧w1.cell? ⟨w.heap.size,1,none⟩=some (.int .i64 d.vA)∧w1.cell? ⟨w.heap.size,2,none⟩=some (.int .i64 d.vB)∧w1.cell? ⟨w.heap.size,3,none⟩=some (.int .i64 d.vC)∧w1.cell? ⟨w.heap.size,4,none⟩=some (.slice a0 d.vP.length cap0)∧w1.cell? ⟨w.heap.size,5,none⟩=some (.slice none 0 0))) (by kernel_rfl) ?S1 (fun hHeld=>?_)
  case S1=>(exact KEEP.out _ h0)
  refine tk 0 hHeld (h:=?_)
  refine tk 1 hHeld (h:=?_)
  refine tk 2 hHeld (h:=?_)
  refine tk 3 hHeld (h:=?_)
  refine tk 6 hHeld (h:=?_)
  refine tk 7 hHeld (h:=?_)
  obtain ⟨wd,hwd⟩: ∃ wd,wd=wz.drew:=⟨_,rfl⟩
  rw [←hwd] at h0
  rw [←hwd]
  clear hwd
  refine wpAnyH_ready (rs:=[4,5]) (by kernel_rfl) (by simp) ?_
  refine AllReadyH.cons rfl (fun K hK=>?_) (AllReadyH.cons rfl (fun K hK=>?_) AllReadyH.nil)
  ·go_simp
   go_wp2_with (go_at_call 78;refine (HV.out _ (h0)).mono ?_;rintro e wv1 ⟨c0,rfl,hv,bv1⟩;obtain ⟨qv,cv,ev⟩:=owns_sliceP hv;subst ev)
   have hv1:Below wz.heap.size wz wv1:=(h0).trans (bv1.mono (h0).size)
   replace hv:=owns_loE (h0).size hv
   clear hHeld
   refine hK.out _ _ ?G8 (fun hHeld=>?_)
   case G8=>((try dsimp only);exact KEEP.out _ hv1)
   clear hK K
   try simp only [Act.put,List.getElem_toArray,List.getElem_cons_zero,List.getElem_cons_succ,List.setIfInBounds_toArray,List.set_cons_zero,List.set_cons_succ]
   refine wpAnyH_ready (rs:=[5]) (by kernel_rfl) (by simp) ?_
   refine AllReadyH.cons rfl (fun K hK=>?_) AllReadyH.nil
   go_simp
   have kz2:Below (wv1).heap.size (wv1) ((wv1).alloc (.cells #[] 39)):=(Below.refl _ _).alloc (Nat.le_refl _) _
   have hl2:Below wz.heap.size wz ((wv1).alloc (.cells #[] 39)):=(hv1).trans (kz2.mono (hv1).size)
   have hg:((wv1).alloc (.cells #[] 39)).ownsRow wz.heap.size 39 2 (.slice (some ⟨(wv1).heap.size,0,none⟩) 0 0) 0 []:=World.ownsRow_lit (wv1) #[] 0 (hv1).size (by unfold maxLen;omega) rfl
   have hv:=owns_of_belowN hv kz2
   clear hHeld
   refine hK.out _ ((wv1).alloc (.cells #[] 39)) ?G92 (fun hHeld=>?_)
   case G92=>(exact KEEP.out _ hl2)
   clear hK K
   try simp only [Act.put,List.getElem_toArray,List.getElem_cons_zero,List.getElem_cons_succ,List.setIfInBounds_toArray,List.set_cons_zero,List.set_cons_succ]
   obtain ⟨gL,hge⟩: ∃ g,g=(wv1).heap.size:=⟨_,rfl⟩
   rw [←hge] at hg
   try rw [←hge]
   obtain ⟨wl2,hwl⟩: ∃ wl,wl=(wv1).alloc (.cells #[] 39):=⟨_,rfl⟩
   rw [←hwl] at hg hl2 hv
   try rw [←hwl]
   clear hge hwl kz2
   refine wpAnyH_ready (rs:=[8]) (by kernel_rfl) (by simp) ?_
   refine AllReadyH.cons rfl (fun K hK=>?_) AllReadyH.nil
   rw [if_pos (by rfl)]
   refine wp_append_nilE _ _ 33 rfl wz.heap.size 39 i0 2 Tryz.underlying33 hi (.slice (some ⟨gL,0,none⟩) 0 0) 0 [] rfl hg rfl ?_
   obtain ⟨qn,hqn⟩: ∃ q:Option Addr,q=some ⟨gL,0,none⟩:=⟨_,rfl⟩
   have o8:(wl2).ownsRow wz.heap.size 39 2 (.slice qn 0 0) d.needs.length (needsV d.needs):=by rw [hnil,hqn];exact hg
   have ov8:=hv
   have h8:=hl2
   try rw [←hqn]
   clear hqn
   clear hHeld
   refine hK.out _ _ ?G9 (fun hHeld=>?_)
   case G9=>((try dsimp only);exact KEEP.out _ h8)
   clear hK K
   try simp only [Act.put,List.getElem_toArray,List.getElem_cons_zero,List.getElem_cons_succ,List.setIfInBounds_toArray,List.set_cons_zero,List.set_cons_succ]
   refine tk 9 hHeld (h:=?_)
   have hR3:=(h8.block (w.heap.size+1) (by omega)).trans hRz
   have fy:=vblk_frozen hR3
   have y0:=vblk_cell hR3 0
   have y1:=vblk_cell hR3 1
   have y2:=vblk_cell hR3 2
   have y3:=vblk_cell hR3 3
   have y4:=vblk_cell hR3 4
   have y5:=vblk_cell hR3 5
   simp only [List.getElem?_toArray,List.getElem?_cons_succ,List.getElem?_cons_zero] at y0 y1 y2 y3 y4 y5
   refine wpAnyH_ready (rs:=[10]) (by kernel_rfl) (by simp) ?_
   refine AllReadyH.cons rfl (fun K hK=>?_) AllReadyH.nil
   go_simp
   clear hHeld
   refine hK.out _ _ ?U11 (fun hHeld=>?_)
   case U11=>(have hA3:=(h8.block w.heap.size (by omega)).trans hAz;exact ⟨vblk_cell (cells_put (cells_put (cells_put (cells_put (cells_put (cells_put hA3 (by omega) _ _) (by omega) _ _) (by omega) _ _) (by omega) _ _) (by omega) _ _) (by omega) _ _) 0,vblk_cell (cells_put (cells_put (cells_put (cells_put (cells_put (cells_put hA3 (by omega) _ _) (by omega) _ _) (by omega) _ _) (by omega) _ _) (by omega) _ _) (by omega) _ _) 1,vblk_cell (cells_put (cells_put (cells_put (cells_put (cells_put (cells_put hA3 (by omega) _ _) (by omega) _ _) (by omega) _ _) (by omega) _ _) (by omega) _ _) (by omega) _ _) 2,vblk_cell (cells_put (cells_put (cells_put (cells_put (cells_put (cells_put hA3 (by omega) _ _) (by omega) _ _) (by omega) _ _) (by omega) _ _) (by omega) _ _) (by omega) _ _) 3,vblk_cell (cells_put (cells_put (cells_put (cells_put (cells_put (cells_put hA3 (by omega) _ _) (by omega) _ _) (by omega) _ _) (by omega) _ _) (by omega) _ _) (by omega) _ _) 4,vblk_cell (cells_put (cells_put (cells_put (cells_put (cells_put (cells_put hA3 (by omega) _ _) (by omega) _ _) (by omega) _ _) (by omega) _ _) (by omega) _ _) (by omega) _ _) 5⟩)
   clear hK K
   try simp only [Act.put,List.getElem_toArray,List.getElem_cons_zero,List.getElem_cons_succ,List.setIfInBounds_toArray,List.set_cons_zero,List.set_cons_succ]
   refine wpAnyH_done (by kernel_rfl) ?_ _
   clear hHeld
   have HO:Hid (∀ W:World,W.heap.size=(wl2).heap.size→Kp (fun b=>b≠w.heap.size+1) (wl2) W→shEntryO.lies (Ow w.heap.size W.heap.size) W [.string d.name,.int .i64 d.vA,.int .i64 d.vB,.int .i64 d.vC,.slice qv d.vP.length cv,.slice qn 0 0] d):=fun W hWs hk=>by
    have i2:=owns_in ov8
    have i3:=owns_in o8
    refine ⟨_,_,rfl,s_n,⟨owns_kept hk (fun g hg=>by have:=(i2 g hg).1;show g≠_;omega) (owns_lo (Nat.zero_le _) ov8),fun g hg=>?_⟩,p0,?_⟩
    ·have h9:=i2 g hg
     exact ⟨by have:=h9.1;omega,by have:=h9.2;omega⟩
    ·have hK2:Kp (Ow wz.heap.size (wl2).heap.size) (wl2) W:=fun b hb=>hk b (by have:=hb.1;show b≠_;omega)
     have hN0:=(needs_own o8 hnl hns2).keep hK2
     exact hN0.mono (Ow.mono (by omega) (by omega))
   go_wp2_with fail
   refine bodyPost_ret (v:=.agg #[.string d.name,.int .i64 d.vA,.int .i64 d.vB,.int .i64 d.vC,.slice qv d.vP.length cv,.slice qn 0 0]) (by simp [results,Tryz.results83,go_sem,y0,y1,y2,y3,y4,y5]) rfl ⟨[.string d.name,.int .i64 d.vA,.int .i64 d.vB,.int .i64 d.vC,.slice qv d.vP.length cv,.slice qn 0 0],rfl,HO.out _ (by simp [World.setCell]) ?_,?_⟩
   ·(repeat (refine Kp.trans ?_ (Kp.set (by simp))))
    exact fun b hb=>rfl
   ·(repeat (refine Below.setCell ?_ (by simp) _))
    exact hwz.trans (h8.mono (by omega))
  ·go_simp
   have kz3:Below (wd).heap.size (wd) ((wd).alloc (.cells #[] 39)):=(Below.refl _ _).alloc (Nat.le_refl _) _
   have hl3:Below wz.heap.size wz ((wd).alloc (.cells #[] 39)):=(h0).trans (kz3.mono (h0).size)
   have hg:((wd).alloc (.cells #[] 39)).ownsRow wz.heap.size 39 2 (.slice (some ⟨(wd).heap.size,0,none⟩) 0 0) 0 []:=World.ownsRow_lit (wd) #[] 0 (h0).size (by unfold maxLen;omega) rfl
   clear hHeld
   refine hK.out _ ((wd).alloc (.cells #[] 39)) ?G93 (fun hHeld=>?_)
   case G93=>(exact KEEP.out _ hl3)
   clear hK K
   try simp only [Act.put,List.getElem_toArray,List.getElem_cons_zero,List.getElem_cons_succ,List.setIfInBounds_toArray,List.set_cons_zero,List.set_cons_succ]
   obtain ⟨gL,hge⟩: ∃ g,g=(wd).heap.size:=⟨_,rfl⟩
   rw [←hge] at hg
   try rw [←hge]
   obtain ⟨wl3,hwl⟩: ∃ wl,wl=(wd).alloc (.cells #[] 39):=⟨_,rfl⟩
   rw [←hwl] at hg hl3
   try rw [←hwl]
   clear hge hwl kz3
   refine wpAnyH_ready (rs:=[4]) (by kernel_rfl) (by simp) ?_
   refine AllReadyH.cons rfl (fun K hK=>?_) AllReadyH.nil
   go_simp
   go_wp2_with (go_at_call 78;refine (HV.out _ (hl3)).mono ?_;rintro e wv4 ⟨c0,rfl,hv,bv4⟩;obtain ⟨qv,cv,ev⟩:=owns_sliceP hv;subst ev)
   have hv4:Below wz.heap.size wz wv4:=(hl3).trans (bv4.mono (hl3).size)
   replace hv:=owns_loE (hl3).size hv
   have hg:=owns_of_belowN hg bv4
   clear hHeld
   refine hK.out _ _ ?G12 (fun hHeld=>?_)
   case G12=>((try dsimp only);exact KEEP.out _ hv4)
   clear hK K
   try simp only [Act.put,List.getElem_toArray,List.getElem_cons_zero,List.getElem_cons_succ,List.setIfInBounds_toArray,List.set_cons_zero,List.set_cons_succ]
   refine wpAnyH_ready (rs:=[8]) (by kernel_rfl) (by simp) ?_
   refine AllReadyH.cons rfl (fun K hK=>?_) AllReadyH.nil
   rw [if_pos (by rfl)]
   refine wp_append_nilE _ _ 33 rfl wz.heap.size 39 i0 2 Tryz.underlying33 hi (.slice (some ⟨gL,0,none⟩) 0 0) 0 [] rfl hg rfl ?_
   obtain ⟨qn,hqn⟩: ∃ q:Option Addr,q=some ⟨gL,0,none⟩:=⟨_,rfl⟩
   have o8:(wv4).ownsRow wz.heap.size 39 2 (.slice qn 0 0) d.needs.length (needsV d.needs):=by rw [hnil,hqn];exact hg
   have ov8:=hv
   have h8:=hv4
   try rw [←hqn]
   clear hqn
   clear hHeld
   refine hK.out _ _ ?G13 (fun hHeld=>?_)
   case G13=>((try dsimp only);exact KEEP.out _ h8)
   clear hK K
   try simp only [Act.put,List.getElem_toArray,List.getElem_cons_zero,List.getElem_cons_succ,List.setIfInBounds_toArray,List.set_cons_zero,List.set_cons_succ]
   refine tk 9 hHeld (h:=?_)
   have hR3:=(h8.block (w.heap.size+1) (by omega)).trans hRz
   have fy:=vblk_frozen hR3
   have y0:=vblk_cell hR3 0
   have y1:=vblk_cell hR3 1
   have y2:=vblk_cell hR3 2
   have y3:=vblk_cell hR3 3
   have y4:=vblk_cell hR3 4
   have y5:=vblk_cell hR3 5
   simp only [List.getElem?_toArray,List.getElem?_cons_succ,List.getElem?_cons_zero] at y0 y1 y2 y3 y4 y5
   refine wpAnyH_ready (rs:=[10]) (by kernel_rfl) (by simp) ?_
   refine AllReadyH.cons rfl (fun K hK=>?_) AllReadyH.nil
   go_simp
   clear hHeld
   refine hK.out _ _ ?U15 (fun hHeld=>?_)
   case U15=>(have hA3:=(h8.block w.heap.size (by omega)).trans hAz;exact ⟨vblk_cell (cells_put (cells_put (cells_put (cells_put (cells_put (cells_put hA3 (by omega) _ _) (by omega) _ _) (by omega) _ _) (by omega) _ _) (by omega) _ _) (by omega) _ _) 0,vblk_cell (cells_put (cells_put (cells_put (cells_put (cells_put (cells_put hA3 (by omega) _ _) (by omega) _ _) (by omega) _ _) (by omega) _ _) (by omega) _ _) (by omega) _ _) 1,vblk_cell (cells_put (cells_put (cells_put (cells_put (cells_put (cells_put hA3 (by omega) _ _) (by omega) _ _) (by omega) _ _) (by omega) _ _) (by omega) _ _) (by omega) _ _) 2,vblk_cell (cells_put (cells_put (cells_put (cells_put (cells_put (cells_put hA3 (by omega) _ _) (by omega) _ _) (by omega) _ _) (by omega) _ _) (by omega) _ _) (by omega) _ _) 3,vblk_cell (cells_put (cells_put (cells_put (cells_put (cells_put (cells_put hA3 (by omega) _ _) (by omega) _ _) (by omega) _ _) (by omega) _ _) (by omega) _ _) (by omega) _ _) 4,vblk_cell (cells_put (cells_put (cells_put (cells_put (cells_put (cells_put hA3 (by omega) _ _) (by omega) _ _) (by omega) _ _) (by omega) _ _) (by omega) _ _) (by omega) _ _) 5⟩)
   clear hK K
   try simp only [Act.put,List.getElem_toArray,List.getElem_cons_zero,List.getElem_cons_succ,List.setIfInBounds_toArray,List.set_cons_zero,List.set_cons_succ]
   refine wpAnyH_done (by kernel_rfl) ?_ _
   clear hHeld
   have HO:Hid (∀ W:World,W.heap.size=(wv4).heap.size→Kp (fun b=>b≠w.heap.size+1) (wv4) W→shEntryO.lies (Ow w.heap.size W.heap.size) W [.string d.name,.int .i64 d.vA,.int .i64 d.vB,.int .i64 d.vC,.slice qv d.vP.length cv,.slice qn 0 0] d):=fun W hWs hk=>by
    have i2:=owns_in ov8
    have i3:=owns_in o8
    refine ⟨_,_,rfl,s_n,⟨owns_kept hk (fun g hg=>by have:=(i2 g hg).1;show g≠_;omega) (owns_lo (Nat.zero_le _) ov8),fun g hg=>?_⟩,p0,?_⟩
    ·have h9:=i2 g hg
     exact ⟨by have:=h9.1;omega,by have:=h9.2;omega⟩
    ·have hK2:Kp (Ow wz.heap.size (wv4).heap.size) (wv4) W:=fun b hb=>hk b (by have:=hb.1;show b≠_;omega)
     have hN0:=(needs_own o8 hnl hns2).keep hK2
     exact hN0.mono (Ow.mono (by omega) (by omega))
   go_wp2_with fail
   refine bodyPost_ret (v:=.agg #[.string d.name,.int .i64 d.vA,.int .i64 d.vB,.int .i64 d.vC,.slice qv d.vP.length cv,.slice qn 0 0]) (by simp [results,Tryz.results83,go_sem,y0,y1,y2,y3,y4,y5]) rfl ⟨[.string d.name,.int .i64 d.vA,.int .i64 d.vB,.int .i64 d.vC,.slice qv d.vP.length cv,.slice qn 0 0],rfl,HO.out _ (by simp [World.setCell]) ?_,?_⟩
   ·(repeat (refine Kp.trans ?_ (Kp.set (by simp))))
    exact fun b hb=>rfl
   ·(repeat (refine Below.setCell ?_ (by simp) _))
    exact hwz.trans (h8.mono (by omega))
 ·clear hgN
  obtain ⟨hAz,hRz⟩:=two_boxes (w:=w) (.cells #[.string d.name,.int .i64 d.vA,.int .i64 d.vB,.int .i64 d.vC,.slice a0 d.vP.length cap0,.slice (some ⟨gN,0,none⟩) d.needs.length cap1] 35 (0,0)) (.cells #[.string ⟨#[]⟩,.int .i64 0,.int .i64 0,.int .i64 0,.slice none 0 0,.slice none 0 0] 35 (0,0))
  have hwz:=hb2 (.cells #[.string d.name,.int .i64 d.vA,.int .i64 d.vB,.int .i64 d.vC,.slice a0 d.vP.length cap0,.slice (some ⟨gN,0,none⟩) d.needs.length cap1] 35 (0,0)) (.cells #[.string ⟨#[]⟩,.int .i64 0,.int .i64 0,.int .i64 0,.slice none 0 0,.slice none 0 0] 35 (0,0))
  have hsz:((w.alloc (.cells #[.string d.name,.int .i64 d.vA,.int .i64 d.vB,.int .i64 d.vC,.slice a0 d.vP.length cap0,.slice (some ⟨gN,0,none⟩) d.needs.length cap1] 35 (0,0))).alloc (.cells #[.string ⟨#[]⟩,.int .i64 0,.int .i64 0,.int .i64 0,.slice none 0 0,.slice none 0 0] 35 (0,0))).heap.size=w.heap.size+2:=by simp
  go_enter Tryz.func83,Tryz.ntmps83
  go_wp2_with fail
  obtain ⟨wz,hW⟩: ∃ wz,wz=(w.alloc (.cells #[.string d.name,.int .i64 d.vA,.int .i64 d.vB,.int .i64 d.vC,.slice a0 d.vP.length cap0,.slice (some ⟨gN,0,none⟩) d.needs.length cap1] 35 (0,0))).alloc (.cells #[.string ⟨#[]⟩,.int .i64 0,.int .i64 0,.int .i64 0,.slice none 0 0,.slice none 0 0] 35 (0,0)):=⟨_,rfl⟩
  rw [←hW] at hAz hRz hwz hsz
  rw [←hW]
  clear hW
  have HV:Hid (∀ w1,Below wz.heap.size wz w1→Calls Tryz.prog 78 #[.agg #[.int .i64 d.vA,.int .i64 d.vB,.int .i64 d.vC,.slice a0 d.vP.length cap0]] w1 fun e w'=>∃ u',e=.returned (.agg #[.int .i64 d.vA,.int .i64 d.vB,.int .i64 d.vC,u'])∧w'.ownsRow w1.heap.size 9 1 u' d.vP.length (strsV d.vP)∧Below w1.heap.size w1 w'):=fun w1 h=>HV' w1 (hwz.trans (h.mono (by omega)))
  have h0:Below wz.heap.size wz wz.drew:=(Below.refl _ _).drew
  have KEEP:Hid (∀ w1,Below wz.heap.size wz w1→w1.cell? ⟨w.heap.size,0,none⟩=some (.string d.name)∧w1.cell? ⟨w.heap.size,1,none⟩=some (.int .i64 d.vA)∧w1.cell? ⟨w.heap.size,2,none⟩=some (.int .i64 d.vB)∧w1.cell? ⟨w.heap.size,3,none⟩=some (.int .i64 d.vC)∧w1.cell? ⟨w.heap.size,4,none⟩=some (.slice a0 d.vP.length cap0)∧w1.cell? ⟨w.heap.size,5,none⟩=some (.slice (some ⟨gN,0,none⟩) d.needs.length cap1)):=fun w1 h=>by
   have hA:=(h.block w.heap.size (by omega)).trans hAz
   exact ⟨vblk_cell hA 0,vblk_cell hA 1,vblk_cell hA 2,vblk_cell hA 3,vblk_cell hA 4,vblk_cell hA 5⟩
  have SRC:Hid (∀ w1,Below wz.heap.size wz w1→∀ j u,(needsV d.needs)[j]?=some u→w1.cell? ((⟨gN,0,none⟩:Addr).add j)=some u):=fun w1 h j u hu=>by
   have hj:j<d.needs.length*2:=by have:=(List.getElem?_eq_some_iff.1 hu).1;rw [needsV_length] at this;exact this
   have e:((⟨gN,0,none⟩:Addr).add j)=⟨gN,j,none⟩:=by unfold Addr.add;split<;>simp_all
   have hgw:gN<w.heap.size:=hB _ (hSg gN rfl)
   have hk:=hwz.trans (h.mono (by omega))
   rw [e,hk.cell (p:=⟨gN,j,none⟩) hgw,oN.cellAt j hj,hu]
  clear HV'
  refine wp_region_held_drew (S:=(fun w1=>w1.cell? ⟨w.heap.size,0,none⟩=some (.string d.name)∧w1.cell? ⟨w.heap.size,1,none⟩=some (.int .i64 d.vA)∧w1.cell? ⟨w.heap.size,2,none⟩=some (.int .i64 d.vB)∧w1.cell? ⟨w.heap.size,3,none⟩=some (.int .i64 d.vC)∧w1.cell? ⟨w.heap.size,4,none⟩=some (.slice a0 d.vP.length cap0)∧w1.cell? ⟨w.heap.size,5,none⟩=some (.slice (some ⟨gN,0,none⟩) d.needs.length cap1))) (by kernel_rfl) ?S16 (fun hHeld=>?_)
  case S16=>(exact KEEP.out _ h0)
  refine tk 0 hHeld (h:=?_)
  refine tk 1 hHeld (h:=?_)
  refine tk 2 hHeld (h:=?_)
  refine tk 3 hHeld (h:=?_)
  refine tk 6 hHeld (h:=?_)
  refine tk 7 hHeld (h:=?_)
  obtain ⟨wd,hwd⟩: ∃ wd,wd=wz.drew:=⟨_,rfl⟩
  rw [←hwd] at h0
  rw [←hwd]
  clear hwd
  refine wpAnyH_ready (rs:=[4,5]) (by kernel_rfl) (by simp) ?_
  refine AllReadyH.cons rfl (fun K hK=>?_) (AllReadyH.cons rfl (fun K hK=>?_) AllReadyH.nil)
  ·go_simp
   go_wp2_with (go_at_call 78;refine (HV.out _ (h0)).mono ?_;rintro e wv5 ⟨c0,rfl,hv,bv5⟩;obtain ⟨qv,cv,ev⟩:=owns_sliceP hv;subst ev)
   have hv5:Below wz.heap.size wz wv5:=(h0).trans (bv5.mono (h0).size)
   replace hv:=owns_loE (h0).size hv
   clear hHeld
   refine hK.out _ _ ?G23 (fun hHeld=>?_)
   case G23=>((try dsimp only);exact KEEP.out _ hv5)
   clear hK K
   try simp only [Act.put,List.getElem_toArray,List.getElem_cons_zero,List.getElem_cons_succ,List.setIfInBounds_toArray,List.set_cons_zero,List.set_cons_succ]
   refine wpAnyH_ready (rs:=[5]) (by kernel_rfl) (by simp) ?_
   refine AllReadyH.cons rfl (fun K hK=>?_) AllReadyH.nil
   go_simp
   have kz6:Below (wv5).heap.size (wv5) ((wv5).alloc (.cells #[] 39)):=(Below.refl _ _).alloc (Nat.le_refl _) _
   have hl6:Below wz.heap.size wz ((wv5).alloc (.cells #[] 39)):=(hv5).trans (kz6.mono (hv5).size)
   have hg:((wv5).alloc (.cells #[] 39)).ownsRow wz.heap.size 39 2 (.slice (some ⟨(wv5).heap.size,0,none⟩) 0 0) 0 []:=World.ownsRow_lit (wv5) #[] 0 (hv5).size (by unfold maxLen;omega) rfl
   have hv:=owns_of_belowN hv kz6
   clear hHeld
   refine hK.out _ ((wv5).alloc (.cells #[] 39)) ?G96 (fun hHeld=>?_)
   case G96=>(exact KEEP.out _ hl6)
   clear hK K
   try simp only [Act.put,List.getElem_toArray,List.getElem_cons_zero,List.getElem_cons_succ,List.setIfInBounds_toArray,List.set_cons_zero,List.set_cons_succ]
   obtain ⟨gL,hge⟩: ∃ g,g=(wv5).heap.size:=⟨_,rfl⟩
   rw [←hge] at hg
   try rw [←hge]
   obtain ⟨wl6,hwl⟩: ∃ wl,wl=(wv5).alloc (.cells #[] 39):=⟨_,rfl⟩
   rw [←hwl] at hg hl6 hv
   try rw [←hwl]
   clear hge hwl kz6
   refine wpAnyH_ready (rs:=[8]) (by kernel_rfl) (by simp) ?_
   refine AllReadyH.cons rfl (fun K hK=>?_) AllReadyH.nil
   rw [if_pos (by rfl)]
   refine wp_append_own _ _ _ 33 rfl wz.heap.size 39 i0 (.agg #[.string ⟨#[]⟩,.string ⟨#[]⟩]) 2 32 Tryz.underlying33 hi hz0 hz1 hz2 rfl (by decide) (.slice (some ⟨gL,0,none⟩) 0 0) 0 [] rfl hg ⟨gN,0,none⟩ d.needs.length cap1 (needsV d.needs) rfl (needsV_length _) (SRC.out _ (hl6)) (needsV_one _) (by unfold maxLen;omega) (by omega) (hl6).size ?_
   intro v8 w8 o8 gr8 _
   rw [Nat.zero_add,List.nil_append] at o8
   obtain ⟨qn,cn,en⟩:=owns_sliceP o8
   subst en
   have h8:Below wz.heap.size wz w8:=Below.grown (hl6) gr8 (hl6).size (fun j hj=>(hg.lt _ hj).1)
   have ov8:=hv.kept gr8 (rows_apartE hg hv (by decide))
   clear hHeld
   refine hK.out _ _ ?G24 (fun hHeld=>?_)
   case G24=>((try dsimp only);exact KEEP.out _ h8)
   clear hK K
   try simp only [Act.put,List.getElem_toArray,List.getElem_cons_zero,List.getElem_cons_succ,List.setIfInBounds_toArray,List.set_cons_zero,List.set_cons_succ]
   refine tk 9 hHeld (h:=?_)
   have hR3:=(h8.block (w.heap.size+1) (by omega)).trans hRz
   have fy:=vblk_frozen hR3
   have y0:=vblk_cell hR3 0
   have y1:=vblk_cell hR3 1
   have y2:=vblk_cell hR3 2
   have y3:=vblk_cell hR3 3
   have y4:=vblk_cell hR3 4
   have y5:=vblk_cell hR3 5
   simp only [List.getElem?_toArray,List.getElem?_cons_succ,List.getElem?_cons_zero] at y0 y1 y2 y3 y4 y5
   refine wpAnyH_ready (rs:=[10]) (by kernel_rfl) (by simp) ?_
   refine AllReadyH.cons rfl (fun K hK=>?_) AllReadyH.nil
   go_simp
   clear hHeld
   refine hK.out _ _ ?U26 (fun hHeld=>?_)
   case U26=>(have hA3:=(h8.block w.heap.size (by omega)).trans hAz;exact ⟨vblk_cell (cells_put (cells_put (cells_put (cells_put (cells_put (cells_put hA3 (by omega) _ _) (by omega) _ _) (by omega) _ _) (by omega) _ _) (by omega) _ _) (by omega) _ _) 0,vblk_cell (cells_put (cells_put (cells_put (cells_put (cells_put (cells_put hA3 (by omega) _ _) (by omega) _ _) (by omega) _ _) (by omega) _ _) (by omega) _ _) (by omega) _ _) 1,vblk_cell (cells_put (cells_put (cells_put (cells_put (cells_put (cells_put hA3 (by omega) _ _) (by omega) _ _) (by omega) _ _) (by omega) _ _) (by omega) _ _) (by omega) _ _) 2,vblk_cell (cells_put (cells_put (cells_put (cells_put (cells_put (cells_put hA3 (by omega) _ _) (by omega) _ _) (by omega) _ _) (by omega) _ _) (by omega) _ _) (by omega) _ _) 3,vblk_cell (cells_put (cells_put (cells_put (cells_put (cells_put (cells_put hA3 (by omega) _ _) (by omega) _ _) (by omega) _ _) (by omega) _ _) (by omega) _ _) (by omega) _ _) 4,vblk_cell (cells_put (cells_put (cells_put (cells_put (cells_put (cells_put hA3 (by omega) _ _) (by omega) _ _) (by omega) _ _) (by omega) _ _) (by omega) _ _) (by omega) _ _) 5⟩)
   clear hK K
   try simp only [Act.put,List.getElem_toArray,List.getElem_cons_zero,List.getElem_cons_succ,List.setIfInBounds_toArray,List.set_cons_zero,List.set_cons_succ]
   refine wpAnyH_done (by kernel_rfl) ?_ _
   clear hHeld
   have HO:Hid (∀ W:World,W.heap.size=(w8).heap.size→Kp (fun b=>b≠w.heap.size+1) (w8) W→shEntryO.lies (Ow w.heap.size W.heap.size) W [.string d.name,.int .i64 d.vA,.int .i64 d.vB,.int .i64 d.vC,.slice qv d.vP.length cv,.slice qn d.needs.length cn] d):=fun W hWs hk=>by
    have i2:=owns_in ov8
    have i3:=owns_in o8
    refine ⟨_,_,rfl,s_n,⟨owns_kept hk (fun g hg=>by have:=(i2 g hg).1;show g≠_;omega) (owns_lo (Nat.zero_le _) ov8),fun g hg=>?_⟩,p0,?_⟩
    ·have h9:=i2 g hg
     exact ⟨by have:=h9.1;omega,by have:=h9.2;omega⟩
    ·have hK2:Kp (Ow wz.heap.size (w8).heap.size) (w8) W:=fun b hb=>hk b (by have:=hb.1;show b≠_;omega)
     exact ((needs_own o8 hnl hns2).keep hK2).mono (Ow.mono (by omega) (by omega))
   go_wp2_with fail
   refine bodyPost_ret (v:=.agg #[.string d.name,.int .i64 d.vA,.int .i64 d.vB,.int .i64 d.vC,.slice qv d.vP.length cv,.slice qn d.needs.length cn]) (by simp [results,Tryz.results83,go_sem,y0,y1,y2,y3,y4,y5]) rfl ⟨[.string d.name,.int .i64 d.vA,.int .i64 d.vB,.int .i64 d.vC,.slice qv d.vP.length cv,.slice qn d.needs.length cn],rfl,HO.out _ (by simp [World.setCell]) ?_,?_⟩
   ·(repeat (refine Kp.trans ?_ (Kp.set (by simp))))
    exact fun b hb=>rfl
   ·(repeat (refine Below.setCell ?_ (by simp) _))
    exact hwz.trans (h8.mono (by omega))
  ·go_simp
   have kz7:Below (wd).heap.size (wd) ((wd).alloc (.cells #[] 39)):=(Below.refl _ _).alloc (Nat.le_refl _) _
   have hl7:Below wz.heap.size wz ((wd).alloc (.cells #[] 39)):=(h0).trans (kz7.mono (h0).size)
   have hg:((wd).alloc (.cells #[] 39)).ownsRow wz.heap.size 39 2 (.slice (some ⟨(wd).heap.size,0,none⟩) 0 0) 0 []:=World.ownsRow_lit (wd) #[] 0 (h0).size (by unfold maxLen;omega) rfl
   clear hHeld
   refine hK.out _ ((wd).alloc (.cells #[] 39)) ?G97 (fun hHeld=>?_)
   case G97=>(exact KEEP.out _ hl7)
   clear hK K
   try simp only [Act.put,List.getElem_toArray,List.getElem_cons_zero,List.getElem_cons_succ,List.setIfInBounds_toArray,List.set_cons_zero,List.set_cons_succ]
   obtain ⟨gL,hge⟩: ∃ g,g=(wd).heap.size:=⟨_,rfl⟩
   rw [←hge] at hg
   try rw [←hge]
   obtain ⟨wl7,hwl⟩: ∃ wl,wl=(wd).alloc (.cells #[] 39):=⟨_,rfl⟩
   rw [←hwl] at hg hl7
   try rw [←hwl]
   clear hge hwl kz7
   refine wpAnyH_ready (rs:=[4]) (by kernel_rfl) (by simp) ?_
   refine AllReadyH.cons rfl (fun K hK=>?_) AllReadyH.nil
   go_simp
   go_wp2_with (go_at_call 78;refine (HV.out _ (hl7)).mono ?_;rintro e wv8 ⟨c0,rfl,hv,bv8⟩;obtain ⟨qv,cv,ev⟩:=owns_sliceP hv;subst ev)
   have hv8:Below wz.heap.size wz wv8:=(hl7).trans (bv8.mono (hl7).size)
   replace hv:=owns_loE (hl7).size hv
   have hg:=owns_of_belowN hg bv8
   clear hHeld
   refine hK.out _ _ ?G27 (fun hHeld=>?_)
   case G27=>((try dsimp only);exact KEEP.out _ hv8)
   clear hK K
   try simp only [Act.put,List.getElem_toArray,List.getElem_cons_zero,List.getElem_cons_succ,List.setIfInBounds_toArray,List.set_cons_zero,List.set_cons_succ]
   refine wpAnyH_ready (rs:=[8]) (by kernel_rfl) (by simp) ?_
   refine AllReadyH.cons rfl (fun K hK=>?_) AllReadyH.nil
   rw [if_pos (by rfl)]
   refine wp_append_own _ _ _ 33 rfl wz.heap.size 39 i0 (.agg #[.string ⟨#[]⟩,.string ⟨#[]⟩]) 2 32 Tryz.underlying33 hi hz0 hz1 hz2 rfl (by decide) (.slice (some ⟨gL,0,none⟩) 0 0) 0 [] rfl hg ⟨gN,0,none⟩ d.needs.length cap1 (needsV d.needs) rfl (needsV_length _) (SRC.out _ (hv8)) (needsV_one _) (by unfold maxLen;omega) (by omega) (hv8).size ?_
   intro v8 w8 o8 gr8 _
   rw [Nat.zero_add,List.nil_append] at o8
   obtain ⟨qn,cn,en⟩:=owns_sliceP o8
   subst en
   have h8:Below wz.heap.size wz w8:=Below.grown (hv8) gr8 (hv8).size (fun j hj=>(hg.lt _ hj).1)
   have ov8:=hv.kept gr8 (rows_apartE hg hv (by decide))
   clear hHeld
   refine hK.out _ _ ?G28 (fun hHeld=>?_)
   case G28=>((try dsimp only);exact KEEP.out _ h8)
   clear hK K
   try simp only [Act.put,List.getElem_toArray,List.getElem_cons_zero,List.getElem_cons_succ,List.setIfInBounds_toArray,List.set_cons_zero,List.set_cons_succ]
   refine tk 9 hHeld (h:=?_)
   have hR3:=(h8.block (w.heap.size+1) (by omega)).trans hRz
   have fy:=vblk_frozen hR3
   have y0:=vblk_cell hR3 0
   have y1:=vblk_cell hR3 1
   have y2:=vblk_cell hR3 2
   have y3:=vblk_cell hR3 3
   have y4:=vblk_cell hR3 4
   have y5:=vblk_cell hR3 5
   simp only [List.getElem?_toArray,List.getElem?_cons_succ,List.getElem?_cons_zero] at y0 y1 y2 y3 y4 y5
   refine wpAnyH_ready (rs:=[10]) (by kernel_rfl) (by simp) ?_
   refine AllReadyH.cons rfl (fun K hK=>?_) AllReadyH.nil
   go_simp
   clear hHeld
   refine hK.out _ _ ?U30 (fun hHeld=>?_)
   case U30=>(have hA3:=(h8.block w.heap.size (by omega)).trans hAz;exact ⟨vblk_cell (cells_put (cells_put (cells_put (cells_put (cells_put (cells_put hA3 (by omega) _ _) (by omega) _ _) (by omega) _ _) (by omega) _ _) (by omega) _ _) (by omega) _ _) 0,vblk_cell (cells_put (cells_put (cells_put (cells_put (cells_put (cells_put hA3 (by omega) _ _) (by omega) _ _) (by omega) _ _) (by omega) _ _) (by omega) _ _) (by omega) _ _) 1,vblk_cell (cells_put (cells_put (cells_put (cells_put (cells_put (cells_put hA3 (by omega) _ _) (by omega) _ _) (by omega) _ _) (by omega) _ _) (by omega) _ _) (by omega) _ _) 2,vblk_cell (cells_put (cells_put (cells_put (cells_put (cells_put (cells_put hA3 (by omega) _ _) (by omega) _ _) (by omega) _ _) (by omega) _ _) (by omega) _ _) (by omega) _ _) 3,vblk_cell (cells_put (cells_put (cells_put (cells_put (cells_put (cells_put hA3 (by omega) _ _) (by omega) _ _) (by omega) _ _) (by omega) _ _) (by omega) _ _) (by omega) _ _) 4,vblk_cell (cells_put (cells_put (cells_put (cells_put (cells_put (cells_put hA3 (by omega) _ _) (by omega) _ _) (by omega) _ _) (by omega) _ _) (by omega) _ _) (by omega) _ _) 5⟩)
   clear hK K
   try simp only [Act.put,List.getElem_toArray,List.getElem_cons_zero,List.getElem_cons_succ,List.setIfInBounds_toArray,List.set_cons_zero,List.set_cons_succ]
   refine wpAnyH_done (by kernel_rfl) ?_ _
   clear hHeld
   have HO:Hid (∀ W:World,W.heap.size=(w8).heap.size→Kp (fun b=>b≠w.heap.size+1) (w8) W→shEntryO.lies (Ow w.heap.size W.heap.size) W [.string d.name,.int .i64 d.vA,.int .i64 d.vB,.int .i64 d.vC,.slice qv d.vP.length cv,.slice qn d.needs.length cn] d):=fun W hWs hk=>by
    have i2:=owns_in ov8
    have i3:=owns_in o8
    refine ⟨_,_,rfl,s_n,⟨owns_kept hk (fun g hg=>by have:=(i2 g hg).1;show g≠_;omega) (owns_lo (Nat.zero_le _) ov8),fun g hg=>?_⟩,p0,?_⟩
    ·have h9:=i2 g hg
     exact ⟨by have:=h9.1;omega,by have:=h9.2;omega⟩
    ·have hK2:Kp (Ow wz.heap.size (w8).heap.size) (w8) W:=fun b hb=>hk b (by have:=hb.1;show b≠_;omega)
     exact ((needs_own o8 hnl hns2).keep hK2).mono (Ow.mono (by omega) (by omega))
   go_wp2_with fail
   refine bodyPost_ret (v:=.agg #[.string d.name,.int .i64 d.vA,.int .i64 d.vB,.int .i64 d.vC,.slice qv d.vP.length cv,.slice qn d.needs.length cn]) (by simp [results,Tryz.results83,go_sem,y0,y1,y2,y3,y4,y5]) rfl ⟨[.string d.name,.int .i64 d.vA,.int .i64 d.vB,.int .i64 d.vC,.slice qv d.vP.length cv,.slice qn d.needs.length cn],rfl,HO.out _ (by simp [World.setCell]) ?_,?_⟩
   ·(repeat (refine Kp.trans ?_ (Kp.set (by simp))))
    exact fun b hb=>rfl
   ·(repeat (refine Below.setCell ?_ (by simp) _))
    exact hwz.trans (h8.mono (by omega))
end Go.Proofs.YtlfmefojcmpfeaaGreatDoor
