/-
  Contracts for the walks and pure facts, several texts in one: each theorem says what it proves, and under which conditions.
-/
import Derived.LaidEql
import Derived.Stop.Asserts
import Derived.RowKitTokens
import Derived.Test.YtlfmefojcmpfeaaGreatDoorUT
import Derived.Test.YtlfmefojcmpfeaaGreatDoorU5
import Derived.Test.YtlfmefojcmpfeaaGreatDoorU6
set_option linter.unusedSimpArgs false
set_option linter.unusedVariables false
set_option maxHeartbeats 16000000
set_option maxRecDepth 100000
namespace Go.Proofs.YtlfmefojcmpfeaaGreatDoor
open Go.RowKit
def needsV (xs:List NeedD):List Value:=xs.flatMap fun d=>[.string d.n,.string d.r]
theorem needsV_length (xs:List NeedD):(needsV xs).length=xs.length*2:=by
 induction xs with
 |nil=>rfl
 |cons d l ih=>simp only [needsV,List.flatMap_cons,List.length_append,List.length_cons,List.length_nil] at*;omega
theorem needsV_append (xs ys:List NeedD):needsV xs++needsV ys=needsV (xs++ys):=by simp [needsV]
theorem needsV_take (xs:List NeedD) (k:Nat) (h:k<xs.length):needsV (xs.take k)++[.string xs[k].n,.string xs[k].r]=needsV (xs.take (k+1)):=by
 rw [List.take_succ_eq_append_getElem h, ←needsV_append];rfl
theorem needsV_at (xs:List NeedD): ∀ i (h:i<xs.length),(needsV xs)[i*2]?=some (.string xs[i].n)∧(needsV xs)[i*2+1]?=some (.string xs[i].r):=by
 induction xs with
 |nil=>intro i h;simp at h
 |cons d l ih=>
  intro i h
  have e:needsV (d::l)=[.string d.n,.string d.r]++needsV l:=by simp [needsV]
  cases i with
  |zero=>rw [e];simp
  |succ i=>
   have h':=ih i (by simpa using h)
   rw [e,List.getElem?_append_right (by simp;omega),List.getElem?_append_right (by simp;omega)]
   simp only [List.length_cons,List.length_nil]
   rw [show (i+1)*2-(0+1+1)=i*2 by omega,show (i+1)*2+1-(0+1+1)=i*2+1 by omega]
   simpa using h'
theorem needs_own {w:World} {lo:Nat} {v:Value} {xs:List NeedD} (h:w.ownsRow lo 39 2 v xs.length (needsV xs)) (hl:xs.length≤maxLen) (hs: ∀ d∈xs,d.n.size≤maxLen∧d.r.size≤maxLen):RowOwn shNeed 39 (Ow lo w.heap.size) w v xs:=by
 refine ⟨hl,needsV xs,owns_lo (Nat.zero_le _) h,owns_in h,fun i hi _=>⟨[.string xs[i].n,.string xs[i].r],rfl,⟨rfl,hs _ (List.getElem_mem hi)⟩,fun j hj=>?_⟩⟩
 obtain ⟨h1,h2⟩:=needsV_at xs i hi
 match j,hj with
 |0,_=>exact h1
 |1,_=>exact h2
theorem owns_of_belowN {w w':World} {lo sz n:Nat} {e:TypeId} {v:Value} {xs:List Value} (h:w.ownsRow lo e sz v n xs) (hb:Below w.heap.size w w'):w'.ownsRow lo e sz v n xs:=h.kept (grown_of_below hb none) (by cases hq:v.ownBlock<;>simp)
theorem cells_put {w:World} {N M:Nat} {o:Obj} (h:w.heap[N]?=some o) (hne:N≠M) (j:Nat) (v:Value):(w.setCell ⟨M,j,none⟩ v).heap[N]?=some o:=(Below.heap_setCell w ⟨M,j,none⟩ v N (by simpa using hne)).trans h
theorem two_src (w:World) (c0 c1:Value): ∀ j u,([c0,c1]:List Value)[j]?=some u→(w.alloc (.cells #[c0,c1] 39)).cell? ((⟨w.heap.size,0,none⟩:Addr).add j)=some u:=fun j u hu=>by
 have e:((⟨w.heap.size,0,none⟩:Addr).add j)=⟨w.heap.size,j,none⟩:=by unfold Addr.add;split<;>simp_all
 rw [e,vblk_cell (vheap_new _ _) j]
 simpa using hu
theorem copyNeeds_c (S:Nat→Prop) (v:Value) (xs:List NeedD) (w:World) (hv:RowIn shNeed S w v xs) (hB: ∀ b,S b→b<w.heap.size) (hw:wtRow wtNeed xs≤1048576):
  Calls Tryz.prog 147 #[v] w fun e w'=>∃ u',e=.returned u'∧w'.ownsRow w.heap.size 39 2 u' xs.length (needsV xs)∧Below w.heap.size w w':=by
 obtain ⟨i0,hi,hz0,hz1,hz2⟩:=info_parts infoNeed
 obtain ⟨a,cap,rfl,hl,hc,ha⟩:=hv
 have hn:=len_wtRow wtNeed xs
 have hsz: ∀ d∈xs,d.n.size≤1048576∧d.r.size≤1048576:=fun d hd=>by
  have h1:d.n.size+d.r.size≤wtRow wtNeed xs:=wt_wtRow wtNeed hd
  omega
 unfold maxLen at hl
 go_enter Tryz.func147,Tryz.ntmps147
 go_wp2_with fail
 go_loopw [3,8] (fun vx vi wr=>∃ (k:Nat),k≤xs.length∧vi=.int .i64 (k:Int)∧wr.ownsRow w.heap.size 39 2 vx k (needsV (xs.take k))∧Below w.heap.size w wr) (fun _ vi _=>xs.length-(intOf vi).toNat)
 case atStart=>exact ⟨0,Nat.zero_le _,rfl,(by rw [List.take_zero];exact World.ownsRow_nil _ _ _ _),Below.refl _ _⟩
 case round=>
  obtain ⟨k,hk,rfl,hown,hbr⟩:=hrel
  obtain ⟨qo,co,hvo⟩:=owns_sliceP hown
  subst hvo
  by_cases hlt':k<xs.length
  ·rcases ha with rfl|⟨b0,off,rfl,hlt,ha⟩
   ·simp at hlt'
   obtain ⟨cs,hL,hcell⟩:=ha k hlt'
   replace hcell:=hcell.keep (.of hbr hB) hlt
   obtain ⟨hs1,hs2⟩:=hsz xs[k] (List.getElem_mem hlt')
   have HT:Hid (needsV (xs.take k)++[.string xs[k].n,.string xs[k].r]=needsV (xs.take (k+1))):=needsV_take xs k hlt'
   obtain ⟨d,hd⟩: ∃ d,d=xs[k]:=⟨_,rfl⟩
   rw [←hd] at hL hs1 hs2 HT
   obtain ⟨rfl,_,_⟩:=hL
   have e0:wr.cell? ⟨b0,off+k*2,none⟩=some (.string d.n):=hcell 0 (by simp)
   have e1:wr.cell? ⟨b0,off+k*2+1,none⟩=some (.string d.r):=hcell 1 (by simp)
   have hki:(k:Int)<(xs.length:Int):=by omega
   clear ha hd hsz hcell
   have kB:Below wr.heap.size wr (wr.alloc (.cells #[.string d.n,.string d.r] 39)):=(Below.refl _ _).alloc (Nat.le_refl _) _
   have hbx5:(wr.alloc (.cells #[.string d.n,.string d.r] 39)).heap[wr.heap.size]?=some (.cells #[.string d.n,.string d.r] 39 (0,0)):=vheap_new _ _
   have hown5:=owns_of_belowN hown kB
   have hbr5:=hbr.trans (kB.mono hbr.size)
   have hne5:(Value.slice qo k co).ownBlock≠some wr.heap.size:=fun e=>by have:=(hown.lt _ e).2;omega
   clear kB hown
   go_wp2_with fail
   obtain ⟨N5,hN5e⟩: ∃ N5,N5=wr.heap.size:=⟨_,rfl⟩
   obtain ⟨w5,hW5⟩: ∃ w5,w5=wr.alloc (.cells #[.string d.n,.string d.r] 39):=⟨_,rfl⟩
   rw [←hN5e, ←hW5] at hbx5
   rw [←hW5] at hown5 hbr5
   rw [←hN5e] at hne5
   rw [←hN5e, ←hW5]
   clear hN5e hW5 e0 e1
   have h0:Below w5.heap.size w5 w5.drew:=(Below.refl _ _).drew
   have KEEP:Hid (∀ w1,Below w5.heap.size w5 w1→w1.cell? ⟨N5,0,none⟩=some (.string d.n)∧w1.cell? ⟨N5,1,none⟩=some (.string d.r)):=fun w1 h=>⟨vblk_cell (box_below hbx5 h) 0,vblk_cell (box_below hbx5 h) 1⟩
   refine wp_region_held_drew (S:=(fun w'=>w'.cell? ⟨N5,0,none⟩=some (.string d.n)∧w'.cell? ⟨N5,1,none⟩=some (.string d.r))) (by kernel_rfl) ?SR10 (fun hHeld=>?_)
   case SR10=>(first|(with_reducible exact KEEP.out _ h3)|(with_reducible exact KEEP.out _ h2)|(with_reducible exact KEEP.out _ h1)|(with_reducible exact KEEP.out _ h0))
   refine tk 0 hHeld (h:=?_)
   refine tk 1 hHeld (h:=?_)
   refine tk 2 hHeld (h:=?_)
   refine tk 4 hHeld (h:=?_)
   refine tk 5 hHeld (h:=?_)
   refine wpAnyH_ready (rs:=[3]) (by kernel_rfl) (by simp) ?_
   refine AllReadyH.cons rfl (fun K hK=>?_) AllReadyH.nil
   go_simp
   go_wp2_with (go_at_call 116;refine (clone_c d.n _ hs1).mono ?_;rintro e w1 ⟨rfl,b1⟩;have h1:Below w5.heap.size w5 w1:=h0.trans (b1.mono h0.size))
   clear hHeld
   refine hK.out _ _ ?SR16 (fun hHeld=>?_)
   case SR16=>((try dsimp only);first|(with_reducible exact KEEP.out _ h3)|(with_reducible exact KEEP.out _ h2)|(with_reducible exact KEEP.out _ h1)|(with_reducible exact KEEP.out _ h0))
   clear hK K
   refine wpAnyH_ready (rs:=[6]) (by kernel_rfl) (by simp) ?_
   refine AllReadyH.cons rfl (fun K hK=>?_) AllReadyH.nil
   go_simp
   go_wp2_with (go_at_call 116;refine (clone_c d.r _ hs2).mono ?_;rintro e w2 ⟨rfl,b2⟩;have h2:Below w5.heap.size w5 w2:=h1.trans (b2.mono h1.size))
   clear hHeld
   refine hK.out _ _ ?SR17 (fun hHeld=>?_)
   case SR17=>((try dsimp only);first|(with_reducible exact KEEP.out _ h3)|(with_reducible exact KEEP.out _ h2)|(with_reducible exact KEEP.out _ h1)|(with_reducible exact KEEP.out _ h0))
   clear hK K
   refine tk 7 hHeld (h:=?_)
   have k2:=hbr5.trans (h2.mono hbr5.size)
   have o2:=owns_of_belowN hown5 h2
   have kA:Below w2.heap.size w2 (w2.alloc (.cells #[.string d.n,.string d.r] 39)):=(Below.refl _ _).alloc (Nat.le_refl _) _
   refine wpAnyH_ready (rs:=[8]) (by kernel_rfl) (by simp) ?_
   refine AllReadyH.cons rfl (fun K hK=>?_) AllReadyH.nil
   go_simp
   clear hHeld
   have h3:Below w5.heap.size w5 (w2.alloc (.cells #[.string d.n,.string d.r] 39)):=h2.trans (kA.mono h2.size)
   refine hK.out _ (w2.alloc (.cells #[.string d.n,.string d.r] 39)) ?SR1_8 (fun hHeld=>?_)
   case SR1_8=>(exact KEEP.out _ h3)
   clear hK K
   try simp only [Act.put,List.getElem_toArray,List.getElem_cons_zero,List.getElem_cons_succ,List.setIfInBounds_toArray,List.set_cons_zero,List.set_cons_succ]
   refine wpAnyH_ready (rs:=[9]) (by kernel_rfl) (by simp) ?_
   refine AllReadyH.cons rfl (fun K hK=>?_) AllReadyH.nil
   rw [if_pos (by rfl)]
   refine wp_append_own _ _ _ 33 rfl w.heap.size 39 i0 (.agg #[.string ⟨#[]⟩,.string ⟨#[]⟩]) 2 32 Tryz.underlying33 hi hz0 hz1 hz2 rfl (by decide) _ k (needsV (xs.take k)) rfl (owns_of_belowN o2 kA) ⟨w2.heap.size,0,none⟩ 1 1 [.string d.n,.string d.r] rfl rfl (two_src w2 _ _) (by simp [Value.oneCell']) (by unfold maxLen;omega) (by omega) (Nat.le_trans k2.size kA.size) ?_
   intro v3 w3 o3 gr3 _
   rw [HT.out] at o3
   have hb3:Below w.heap.size w w3:=Below.grown (k2.trans (kA.mono k2.size)) gr3 (Nat.le_trans k2.size kA.size) (fun j hj=>((owns_of_belowN o2 kA).lt _ hj).1)
   clear hHeld
   refine hK.out _ _ ?TR1_8 (fun hHeld=>?_)
   case TR1_8=>(exact ⟨vblk_cell (box_grown (box_below hbx5 h3) gr3 hne5) 0,vblk_cell (box_grown (box_below hbx5 h3) gr3 hne5) 1⟩)
   clear hK K
   try simp only [Act.put,List.getElem_toArray,List.getElem_cons_zero,List.getElem_cons_succ,List.setIfInBounds_toArray,List.set_cons_zero,List.set_cons_succ]
   refine tk 10 hHeld (h:=?_)
   refine wpAnyH_done (by kernel_rfl) ?_ _
   go_wp2_with fail
   go_roundw
   case rel=>exact ⟨k+1,by omega,by go_num,o3,hb3⟩
   case measure=>simp [intOf];omega
  ·have he:k=xs.length:=by omega
   subst he
   rw [List.take_length] at hown
   clear ha
   go_wp2_with fail
   go_ret
   exact ⟨_,rfl,hown,hbr⟩
structure LC where
 d:PickD
 u0:Value
def LC.cells (p:LC):List Value:=[.string p.d.name,.int .i64 p.d.vA,.int .i64 p.d.vB,.int .i64 p.d.vC,p.u0]
def flatL (ps:List LC):List Value:=ps.flatMap LC.cells
theorem flatL_length (ps:List LC):(flatL ps).length=ps.length*5:=by
 induction ps with
 |nil=>rfl
 |cons p r ih=>simp only [flatL,List.flatMap_cons,List.length_append,List.length_cons] at*;rw [ih];simp [LC.cells];omega
theorem flatL_append (a b:List LC):flatL (a++b)=flatL a++flatL b:=by simp [flatL]
theorem flatL_at (ps:List LC) (i:Nat) (h:i<ps.length) (j:Nat) (hj:j<5):(flatL ps)[i*5+j]?=(ps[i].cells)[j]? :=by
 induction ps generalizing i with
 |nil=>simp at h
 |cons p r ih=>
  show (p.cells++flatL r)[i*5+j]?=_
  have hc:p.cells.length=5:=rfl
  cases i with
  |zero=>rw [Nat.zero_mul,Nat.zero_add,List.getElem?_append_left (by omega)];rfl
  |succ i=>
   rw [List.getElem?_append_right (by omega),hc,show (i+1)*5+j-5=i*5+j by omega]
   exact ih i (by simpa using h)
def RowL (lo:Nat) (w:World) (v:Value) (ps:List LC):Prop:=w.ownsRow lo 59 5 v ps.length (flatL ps)∧∀ p∈ps,w.ownsRow lo 9 1 p.u0 p.d.vP.length (strsV p.d.vP)
theorem RowL.below {lo:Nat} {w w':World} {v:Value} {ps:List LC} (h:RowL lo w v ps) (hb:Below w.heap.size w w'):RowL lo w' v ps:=⟨owns_of_belowN h.1 hb,fun p hp=>owns_of_belowN (h.2 p hp) hb⟩
theorem RowL.own {lo:Nat} {w:World} {v:Value} {ps:List LC} (h:RowL lo w v ps) (hs: ∀ p∈ps,p.d.name.size≤1048576∧bulkS p.d.vP≤1048576) (hl:ps.length≤maxLen):RowOwn shPickO 59 (Ow lo w.heap.size) w v (ps.map LC.d):=by
 refine ⟨by simpa using hl,flatL ps,?_,owns_in h.1,?_⟩
 ·rw [List.length_map];exact owns_lo (Nat.zero_le _) h.1
 ·intro i hi _
  have hi2:i<ps.length:=by simpa using hi
  have hm:=List.getElem_mem hi2
  have h1:=h.2 _ hm
  obtain ⟨h2,h3⟩:=hs _ hm
  have h4:saneP ps[i].d.vP:=by
   unfold bulkS at h3
   refine ⟨by unfold maxLen;omega,fun s hs=>?_⟩
   have h9:=size_of_bulk hs
   unfold bulkS at h9
   unfold maxLen
   omega
  refine ⟨ps[i].cells,rfl,?_,fun j hj=>?_⟩
  ·rw [List.getElem_map]
   exact ⟨ps[i].u0,rfl,by unfold maxLen;omega,⟨owns_lo (Nat.zero_le _) h1,owns_in h1⟩,h4⟩
  ·have hj5:j<5:=hj
   show (flatL ps)[i*5+j]?=_
   rw [flatL_at ps i hi2 j hj5,List.getElem?_eq_getElem]
def SepL (ps:List LC):Prop:=∀ i j (hi:i<ps.length) (hj:j<ps.length),i≠j→∀ g,ps[i].u0.ownBlock=some g→ps[j].u0.ownBlock≠some g
theorem SepL.nil :SepL []:=fun i j hi=>by simp at hi
theorem SepL.add {ps:List LC} {x:LC} {B:Nat} (h:SepL ps) (h1: ∀ p∈ps,∀ g,p.u0.ownBlock=some g→g<B) (h2: ∀ g,x.u0.ownBlock=some g→B≤g):SepL (ps++[x]):=fun i j hi hj hne g hg hg2=>by
 simp only [List.length_append,List.length_singleton] at hi hj
 by_cases a:i<ps.length
 ·rw [List.getElem_append_left a] at hg
  by_cases b:j<ps.length
  ·rw [List.getElem_append_left b] at hg2
   exact h i j a b hne g hg hg2
  ·obtain rfl:j=ps.length:=by omega
   simp at hg2
   have:=h1 _ (List.getElem_mem a) g hg
   have:=h2 g hg2
   omega
 ·obtain rfl:i=ps.length:=by omega
  have b:j<ps.length:=by omega
  simp at hg
  rw [List.getElem_append_left b] at hg2
  have:=h1 _ (List.getElem_mem b) g hg2
  have:=h2 g hg
  omega
theorem src_newL (w:World) (cs:List Value) (t:TypeId): ∀ j u,cs[j]?=some u→(w.alloc (.cells cs.toArray t)).cell? ((⟨w.heap.size,0,none⟩:Addr).add j)=some u:=fun j u hu=>by
 have e:((⟨w.heap.size,0,none⟩:Addr).add j)=⟨w.heap.size,j,none⟩:=by unfold Addr.add;split<;>simp_all
 rw [e,vblk_cell (vheap_new _ _) j]
 simpa using hu
def ErrT (w:World):Prop:=w.cell? ⟨0,0,none⟩=some (.iface 288 (.agg #[.pointer (some ⟨8,157,none⟩)]))
theorem ErrT.below {w w':World} (h:ErrT w) (hb:Below w.heap.size w w'):ErrT w':=(hb.cell (by simpa using World.block_lt_of_cell? w _ h)).trans h
theorem owns_base {w:World} {base base':Nat} {e:TypeId} {v:Value} {n:Nat} {xs:List Value} (h:w.ownsRow base e 1 v n xs) (hb:base'≤base):w.ownsRow base' e 1 v n xs:=by
 obtain ⟨h1,h2⟩:=h
 refine ⟨h1,?_⟩
 rcases h2 with h2|⟨g,cap,cur,a,b,c⟩
 ·exact .inl h2
 ·exact .inr ⟨g,cap,cur,a,Nat.le_trans hb b,c⟩
def Five (w:World) (N:Nat) (t:TypeId) (c0 c1 c2 c3 c4:Value):Prop:=w.heap[N]?=some (.cells #[c0,c1,c2,c3,c4] t (0,0))
theorem Five.lt {w:World} {N:Nat} {t:TypeId} {c0 c1 c2 c3 c4:Value} (h:Five w N t c0 c1 c2 c3 c4):N<w.heap.size:=(Array.getElem?_eq_some_iff.1 h).1
theorem Five.keep {w w':World} {N:Nat} {t:TypeId} {c0 c1 c2 c3 c4:Value} (h:Five w N t c0 c1 c2 c3 c4) (b:Below w.heap.size w w'):Five w' N t c0 c1 c2 c3 c4:=(b.block N h.lt).trans h
theorem Five.cells {w:World} {N:Nat} {t:TypeId} {c0 c1 c2 c3 c4:Value} (h:Five w N t c0 c1 c2 c3 c4):w.cell? ⟨N,0,none⟩=some c0∧w.cell? ⟨N,1,none⟩=some c1∧w.cell? ⟨N,2,none⟩=some c2∧w.cell? ⟨N,3,none⟩=some c3∧w.cell? ⟨N,4,none⟩=some c4:=
 ⟨vblk_cell h 0,vblk_cell h 1,vblk_cell h 2,vblk_cell h 3,vblk_cell h 4⟩
theorem Five.drew {w:World} {N:Nat} {t:TypeId} {c0 c1 c2 c3 c4:Value} (h:Five w N t c0 c1 c2 c3 c4):Five w.drew N t c0 c1 c2 c3 c4:=h
theorem five_new (w:World) (t:TypeId) (c0 c1 c2 c3 c4:Value):Five (w.alloc (.cells #[c0,c1,c2,c3,c4] t)) w.heap.size t c0 c1 c2 c3 c4:=vheap_new _ _
structure CmpD where
 o:Int
 a:Int
 b:Int
 c:Int
 ps:List ByteArray
def CmpAt (S:Nat→Prop) (w:World) (b j:Nat) (u:Value) (d:CmpD):Prop:=
 w.cell? ⟨b,j,none⟩=some (.int .i64 d.o)∧w.cell? ⟨b,j+1,none⟩=some (.int .i64 d.a)∧w.cell? ⟨b,j+2,none⟩=some (.int .i64 d.b)∧w.cell? ⟨b,j+3,none⟩=some (.int .i64 d.c)∧w.cell? ⟨b,j+4,none⟩=some u∧RdB S w u (strsV d.ps)∧saneP d.ps
theorem CmpAt.keep {S:Nat→Prop} {w w':World} {b j:Nat} {u:Value} {d:CmpD} (hk:Kp S w w') (hb:S b) (h:CmpAt S w b j u d):CmpAt S w' b j u d:=by
 obtain ⟨h0,h1,h2,h3,h4,h5,h6⟩:=h
 exact ⟨(hk.cell hb _).trans h0,(hk.cell hb _).trans h1,(hk.cell hb _).trans h2,(hk.cell hb _).trans h3,(hk.cell hb _).trans h4,h5.keep hk,h6⟩
theorem CmpAt.mono {S S':Nat→Prop} {w:World} {b j:Nat} {u:Value} {d:CmpD} (hS: ∀ b,S b→S' b) (h:CmpAt S w b j u d):CmpAt S' w b j u d:=by
 obtain ⟨h0,h1,h2,h3,h4,h5,h6⟩:=h
 exact ⟨h0,h1,h2,h3,h4,h5.mono hS,h6⟩
def CmpsIn (S:Nat→Prop) (w:World) (v:Value) (ds:List CmpD):Prop:=
 ∃ q cap,v=.slice q ds.length cap∧ds.length≤maxLen∧ds.length≤cap∧(ds=[]∨∃ (b off:Nat) (us:Nat→Value),q=some ⟨b,off,none⟩∧S b∧∀ k (h:k<ds.length),CmpAt S w b (off+k*5) (us k) ds[k])
theorem CmpsIn.keep {S:Nat→Prop} {w w':World} {v:Value} {ds:List CmpD} (hk:Kp S w w') (h:CmpsIn S w v ds):CmpsIn S w' v ds:=by
 obtain ⟨q,cap,hv,hm,hc,h⟩:=h
 refine ⟨q,cap,hv,hm,hc,?_⟩
 rcases h with h|⟨b,off,us,hq,hb,h⟩
 ·exact .inl h
 ·exact .inr ⟨b,off,us,hq,hb,fun k hh=>(h k hh).keep hk hb⟩
theorem CmpsIn.mono {S S':Nat→Prop} {w:World} {v:Value} {ds:List CmpD} (hS: ∀ b,S b→S' b) (h:CmpsIn S w v ds):CmpsIn S' w v ds:=by
 obtain ⟨q,cap,hv,hm,hc,h⟩:=h
 refine ⟨q,cap,hv,hm,hc,?_⟩
 rcases h with h|⟨b,off,us,hq,hb,h⟩
 ·exact .inl h
 ·exact .inr ⟨b,off,us,hq,hS b hb,fun k hh=>(h k hh).mono hS⟩
def RangeIn (S:Nat→Prop) (w:World) (v:Value) (dss:List (List CmpD)):Prop:=
 ∃ q cap,v=.slice q dss.length cap∧dss.length≤maxLen∧dss.length≤cap∧(dss=[]∨∃ (b off:Nat) (vs:Nat→Value),q=some ⟨b,off,none⟩∧S b∧∀ k (h:k<dss.length),w.cell? ⟨b,off+k,none⟩=some (vs k)∧CmpsIn S w (vs k) dss[k])
theorem RangeIn.keep {S:Nat→Prop} {w w':World} {v:Value} {dss:List (List CmpD)} (hk:Kp S w w') (h:RangeIn S w v dss):RangeIn S w' v dss:=by
 obtain ⟨q,cap,hv,hm,hc,h⟩:=h
 refine ⟨q,cap,hv,hm,hc,?_⟩
 rcases h with h|⟨b,off,vs,hq,hb,h⟩
 ·exact .inl h
 ·exact .inr ⟨b,off,vs,hq,hb,fun k hh=>⟨(hk.cell hb _).trans (h k hh).1,(h k hh).2.keep hk⟩⟩
theorem RangeIn.mono {S S':Nat→Prop} {w:World} {v:Value} {dss:List (List CmpD)} (hS: ∀ b,S b→S' b) (h:RangeIn S w v dss):RangeIn S' w v dss:=by
 obtain ⟨q,cap,hv,hm,hc,h⟩:=h
 refine ⟨q,cap,hv,hm,hc,?_⟩
 rcases h with h|⟨b,off,vs,hq,hb,h⟩
 ·exact .inl h
 ·exact .inr ⟨b,off,vs,hq,hS b hb,fun k hh=>⟨(h k hh).1,(h k hh).2.mono hS⟩⟩
def wtC (ds:List CmpD):Nat:=(ds.map fun d=>1+bulkS d.ps).sum
def wtR (dss:List (List CmpD)):Nat:=(dss.map fun ds=>1+wtC ds).sum
theorem bulk_wtC {ds:List CmpD} {d:CmpD} (h:d∈ds):bulkS d.ps≤wtC ds:=by
 induction ds with
 |nil=>simp at h
 |cons x ds ih=>
  simp [wtC] at ih ⊢
  rcases List.mem_cons.1 h with rfl|h
  ·omega
  ·have:=ih h;omega
theorem wtC_wtR {dss:List (List CmpD)} {ds:List CmpD} (h:ds∈dss):wtC ds≤wtR dss:=by
 induction dss with
 |nil=>simp at h
 |cons x dss ih=>
  simp [wtR] at ih ⊢
  rcases List.mem_cons.1 h with rfl|h
  ·omega
  ·have:=ih h;omega
theorem infoCmp :(Tryz.prog.info? 214).map (fun i=>(i.zero,i.size,i.bytes))=some (some (.agg #[.int .i64 0,.int .i64 0,.int .i64 0,.int .i64 0,.slice none 0 0]),5,56):=by kernel_rfl
theorem infoCmps :(Tryz.prog.info? 203).map (fun i=>(i.zero,i.size,i.bytes))=some (some (.slice none 0 0),1,24):=by kernel_rfl
def put5 (ys:List Value) (i:Nat) (c0 c1 c2 c3 c4:Value):List Value:=((((ys.set (i*5) c0).set (i*5+1) c1).set (i*5+2) c2).set (i*5+3) c3).set (i*5+4) c4
def FiveAt (ys:List Value) (j:Nat) (c0 c1 c2 c3 c4:Value):Prop:=ys[j]?=some c0∧ys[j+1]?=some c1∧ys[j+2]?=some c2∧ys[j+3]?=some c3∧ys[j+4]?=some c4
theorem put5_same (ys:List Value) (i:Nat) (c0 c1 c2 c3 c4:Value) (h:i*5+4<ys.length):FiveAt (put5 ys i c0 c1 c2 c3 c4) (i*5) c0 c1 c2 c3 c4:=by
 simp [FiveAt,put5,List.getElem?_set,h,show i*5<ys.length by omega,show i*5+1<ys.length by omega,show i*5+2<ys.length by omega,show i*5+3<ys.length by omega]
theorem put5_get (ys:List Value) (i j:Nat) (c0 c1 c2 c3 c4:Value) (h:j<i*5∨i*5+4<j):(put5 ys i c0 c1 c2 c3 c4)[j]?=ys[j]? :=by
 unfold put5
 rw [List.getElem?_set_ne (by omega),List.getElem?_set_ne (by omega),List.getElem?_set_ne (by omega),List.getElem?_set_ne (by omega),List.getElem?_set_ne (by omega)]
theorem put5_other {ys:List Value} {i j:Nat} {c0 c1 c2 c3 c4 d0 d1 d2 d3 d4:Value} (h:j≠i) (hf:FiveAt ys (j*5) d0 d1 d2 d3 d4):FiveAt (put5 ys i c0 c1 c2 c3 c4) (j*5) d0 d1 d2 d3 d4:=by
 obtain ⟨h0,h1,h2,h3,h4⟩:=hf
 refine ⟨?_,?_,?_,?_,?_⟩<;>rw [put5_get _ _ _ _ _ _ _ _ (by omega)]<;>assumption
def LaidC (lo:Nat) (w:World) (ys:List Value) (ds:List CmpD) (k:Nat):Prop:=
 ∀ i (h:i<ds.length),i<k→∃ u,FiveAt ys (i*5) (.int .i64 ds[i].o) (.int .i64 ds[i].a) (.int .i64 ds[i].b) (.int .i64 ds[i].c) u∧RdB (Ow lo w.heap.size) w u (strsV ds[i].ps)∧saneP ds[i].ps
theorem size_set5 (w:World) (g i:Nat) (c0 c1 c2 c3 c4:Value):(((((w.setCell ⟨g,i,none⟩ c0).setCell ⟨g,i+1,none⟩ c1).setCell ⟨g,i+2,none⟩ c2).setCell ⟨g,i+3,none⟩ c3).setCell ⟨g,i+4,none⟩ c4).heap.size=w.heap.size:=by simp [World.setCell]
theorem kp_set5 {S:Nat→Prop} (w:World) (g i:Nat) (c0 c1 c2 c3 c4:Value) (h: ¬S g):Kp S w (((((w.setCell ⟨g,i,none⟩ c0).setCell ⟨g,i+1,none⟩ c1).setCell ⟨g,i+2,none⟩ c2).setCell ⟨g,i+3,none⟩ c3).setCell ⟨g,i+4,none⟩ c4):=
 ((((Kp.set h).trans (Kp.set h)).trans (Kp.set h)).trans (Kp.set h)).trans (Kp.set h)
theorem LaidC.step {lo:Nat} {w w2:World} {ys:List Value} {ds:List CmpD} {k:Nat} (h:LaidC lo w ys ds k) (hk:k<ds.length) (hy:k*5+4<ys.length) (hb:Below w.heap.size w w2) {g:Nat} (hg:g<lo) {u:Value}
  (hu:RdB (Ow lo w2.heap.size) w2 u (strsV ds[k].ps)) (hs:saneP ds[k].ps):
  LaidC lo (((((w2.setCell ⟨g,k*5,none⟩ (.int .i64 ds[k].o)).setCell ⟨g,k*5+1,none⟩ (.int .i64 ds[k].a)).setCell ⟨g,k*5+2,none⟩ (.int .i64 ds[k].b)).setCell ⟨g,k*5+3,none⟩ (.int .i64 ds[k].c)).setCell ⟨g,k*5+4,none⟩ u) (put5 ys k (.int .i64 ds[k].o) (.int .i64 ds[k].a) (.int .i64 ds[k].b) (.int .i64 ds[k].c) u) ds (k+1):=fun i hi hik=>by
 rw [size_set5]
 by_cases e:i=k
 ·subst e
  exact ⟨u,put5_same _ _ _ _ _ _ _ hy,hu.keep (kp_set5 _ _ _ _ _ _ _ _ (Ow.not hg)),hs⟩
 ·obtain ⟨u',hf,hr,hs'⟩:=h i hi (by omega)
  exact ⟨u',put5_other e hf,((hr.keep (Ow.below hb)).mono (Ow.mono (Nat.le_refl _) hb.size)).keep (kp_set5 _ _ _ _ _ _ _ _ (Ow.not hg)),hs'⟩
def LaidR (lo:Nat) (w:World) (ys:List Value) (dss:List (List CmpD)) (k:Nat):Prop:=
 ys.length=dss.length∧∀ i (h:i<dss.length),i<k→∃ u,ys[i]?=some u∧CmpsIn (Ow lo w.heap.size) w u dss[i]
theorem LaidR.step {lo:Nat} {w w2:World} {ys:List Value} {dss:List (List CmpD)} {k:Nat} (h:LaidR lo w ys dss k) (hk:k<dss.length) (hb:Below w.heap.size w w2) {g:Nat} (hg:g<lo) {u:Value}
  (hu:CmpsIn (Ow lo w2.heap.size) w2 u dss[k]):LaidR lo (w2.setCell ⟨g,k,none⟩ u) (ys.set k u) dss (k+1):=by
 refine ⟨by simp [h.1],fun i hi hik=>?_⟩
 have hz:(w2.setCell ⟨g,k,none⟩ u).heap.size=w2.heap.size:=by simp [World.setCell]
 rw [hz]
 by_cases e:i=k
 ·subst e
  exact ⟨u,by simp [h.1,hk],hu.keep (Kp.set (Ow.not hg))⟩
 ·obtain ⟨u',hf,hr⟩:=h.2 i hi (by omega)
  exact ⟨u',by rw [List.getElem?_set_ne (by omega)];exact hf,((hr.keep (Ow.below hb)).mono (Ow.mono (Nat.le_refl _) hb.size)).keep (Kp.set (Ow.not hg))⟩
def CmpsOwn (lo:Nat) (w:World) (v:Value) (ds:List CmpD):Prop:=
 ∃ (ys:List Value) (us:Nat→Value),w.ownsRow lo 214 5 v ds.length ys∧
  (∀ i (h:i<ds.length),FiveAt ys (i*5) (.int .i64 ds[i].o) (.int .i64 ds[i].a) (.int .i64 ds[i].b) (.int .i64 ds[i].c) (us i)∧w.ownsRow lo 9 1 (us i) ds[i].ps.length (strsV ds[i].ps))∧
  ∀ i j,i<ds.length→j<ds.length→i≠j→(us i).ownBlock=(us j).ownBlock→(us i).ownBlock=none
theorem own_kept5 {w w':World} {base:Nat} {e:TypeId} {v:Value} {n:Nat} {xs:List Value} (h:w.ownsRow base e 5 v n xs) (b:Below w.heap.size w w'):w'.ownsRow base e 5 v n xs:=by
 rcases h.2 with ⟨rfl,rfl⟩|⟨g,cap,cur,rfl,hg,hh,_⟩
 ·exact ⟨h.1,.inl ⟨rfl,rfl⟩⟩
 ·have hl:=(Array.getElem?_eq_some_iff.1 hh).1
  exact h.kept (grown_of_below b none) (by simp [Value.ownBlock])
theorem CmpsOwn.below {lo:Nat} {w w':World} {v:Value} {ds:List CmpD} (h:CmpsOwn lo w v ds) (b:Below w.heap.size w w'):CmpsOwn lo w' v ds:=by
 obtain ⟨ys,us,h1,h2,h3⟩:=h
 exact ⟨ys,us,own_kept5 h1 b,fun i hi=>⟨(h2 i hi).1,owns_of_below (h2 i hi).2 b⟩,h3⟩
theorem owns_lower5 {w:World} {base base':Nat} {e:TypeId} {v:Value} {n:Nat} {xs:List Value} (h:w.ownsRow base e 5 v n xs) (hb:base'≤base):w.ownsRow base' e 5 v n xs:=by
 obtain ⟨h1,h2⟩:=h
 refine ⟨h1,?_⟩
 rcases h2 with h2|⟨g,cap,cur,a,b,c⟩
 ·exact .inl h2
 ·exact .inr ⟨g,cap,cur,a,Nat.le_trans hb b,c⟩
theorem CmpsOwn.lower {lo lo':Nat} {w:World} {v:Value} {ds:List CmpD} (h:CmpsOwn lo w v ds) (hb:lo'≤lo):CmpsOwn lo' w v ds:=by
 obtain ⟨ys,us,h1,h2,h3⟩:=h
 exact ⟨ys,us,owns_lower5 h1 hb,fun i hi=>⟨(h2 i hi).1,owns_base (h2 i hi).2 hb⟩,h3⟩
theorem one_own {lo g:Nat} {w:World} {u:Value} (d:CmpD) (hg:g=w.heap.size) (hlo:lo≤w.heap.size) (hu:w.ownsRow lo 9 1 u d.ps.length (strsV d.ps)):
  CmpsOwn lo (w.alloc (.cells #[.int .i64 d.o,.int .i64 d.a,.int .i64 d.b,.int .i64 d.c,u] 214)) (.slice (some ⟨g,0,none⟩) 1 1) [d]:=by
 subst hg
 refine ⟨[.int .i64 d.o,.int .i64 d.a,.int .i64 d.b,.int .i64 d.c,u],fun _=>u,?_,fun i hi=>?_,fun i j hi hj hne=>?_⟩
 ·exact World.ownsRow_lit w #[.int .i64 d.o,.int .i64 d.a,.int .i64 d.b,.int .i64 d.c,u] 1 (base:=lo) (e:=214) (size:=5) hlo (by unfold maxLen;omega) rfl
 ·have:i=0:=by simp at hi;omega
  subst this
  exact ⟨⟨rfl,rfl,rfl,rfl,rfl⟩,hu.alloc _⟩
 ·simp at hi hj;omega
theorem two_own {lo g:Nat} {w:World} {u u':Value} (d d':CmpD) (hg:g=w.heap.size) (hlo:lo≤w.heap.size) (hu:w.ownsRow lo 9 1 u d.ps.length (strsV d.ps)) (hu':w.ownsRow lo 9 1 u' d'.ps.length (strsV d'.ps)) (hne:u.ownBlock=u'.ownBlock→u.ownBlock=none):
  CmpsOwn lo (w.alloc (.cells #[.int .i64 d.o,.int .i64 d.a,.int .i64 d.b,.int .i64 d.c,u,.int .i64 d'.o,.int .i64 d'.a,.int .i64 d'.b,.int .i64 d'.c,u'] 214)) (.slice (some ⟨g,0,none⟩) 2 2) [d,d']:=by
 subst hg
 refine ⟨[.int .i64 d.o,.int .i64 d.a,.int .i64 d.b,.int .i64 d.c,u,.int .i64 d'.o,.int .i64 d'.a,.int .i64 d'.b,.int .i64 d'.c,u'],fun i=>if i=0 then u else u',?_,fun i hi=>?_,fun i j hi hj hij he=>?_⟩
 ·exact World.ownsRow_lit w #[.int .i64 d.o,.int .i64 d.a,.int .i64 d.b,.int .i64 d.c,u,.int .i64 d'.o,.int .i64 d'.a,.int .i64 d'.b,.int .i64 d'.c,u'] 2 (base:=lo) (e:=214) (size:=5) hlo (by unfold maxLen;omega) rfl
 ·match i,hi with
  |0,_=>exact ⟨⟨rfl,rfl,rfl,rfl,rfl⟩,hu.alloc _⟩
  |1,_=>exact ⟨⟨rfl,rfl,rfl,rfl,rfl⟩,hu'.alloc _⟩
 ·simp at hi hj
  by_cases h0:i=0
  ·have hj1: ¬j=0:=by omega
   simp only [h0,hj1,if_true,if_false] at he ⊢
   exact hne he
  ·have hj0:j=0:=by omega
   simp only [h0,hj0,if_true,if_false] at he ⊢
   rw [he]
   exact hne he.symm
def nextA (k:Int) (a:Int):Int:=if k=1 then a+1 else a
def nextB (k:Int) (b:Int):Int:=if k=1 then 0 else if k=2 then b+1 else b
def nextC (k:Int) (c:Int):Int:=if k=1 then 0 else if k=2 then 0 else c+1
def caretK (a b t:Int):Int:=if a≠0∨t=1 then 1 else if b≠0∨t=2 then 2 else 3
def numsOk (a b c:Int):Prop:=(0≤a∧a≤9999)∧(0≤b∧b≤9999)∧0≤c∧c≤9999
theorem box_two {w:World} (o o':Obj):Below w.heap.size w ((w.alloc o).alloc o'):=((Below.refl _ _).alloc (Nat.le_refl _) _).alloc (by simp) _
theorem next_c (a b c:Int) (u:Value) (t k:Int) (w:World) (hn:numsOk a b c) (hu: ∃ q n cap,u=.slice q n cap):
  Calls Tryz.prog 304 #[.agg #[.int .i64 a,.int .i64 b,.int .i64 c,u,.int .i64 t],.int .i64 k] w fun e w'=>e=.returned (.agg #[.int .i64 (nextA k a),.int .i64 (nextB k b),.int .i64 (nextC k c),.slice none 0 0])∧Below w.heap.size w w':=by
 obtain ⟨⟨ha0,ha1⟩,⟨hb0,hb1⟩,hc0,hc1⟩:=hn
 obtain ⟨q,n,cap,rfl⟩:=hu
 by_cases h1:k=1
 ·subst h1
  go_enter Tryz.func304,Tryz.ntmps304
  go_wp2
  exact bodyPost_ret (v:=.agg #[.int .i64 (a+1),.int .i64 0,.int .i64 0,.slice none 0 0]) (by simp [results,Tryz.results304,go_sem]) rfl ⟨by simp [nextA,nextB,nextC],box_two _ _⟩
 by_cases h2:k=2
 ·subst h2
  go_enter Tryz.func304,Tryz.ntmps304
  go_wp2
  exact bodyPost_ret (v:=.agg #[.int .i64 a,.int .i64 (b+1),.int .i64 0,.slice none 0 0]) (by simp [results,Tryz.results304,go_sem]) rfl ⟨by simp [nextA,nextB,nextC],box_two _ _⟩
 have k1:(k == 1)=false:=by simpa using h1
 have k2:(k == 2)=false:=by simpa using h2
 go_enter Tryz.func304,Tryz.ntmps304
 go_wp2
 exact bodyPost_ret (v:=.agg #[.int .i64 a,.int .i64 b,.int .i64 (c+1),.slice none 0 0]) (by simp [results,Tryz.results304,go_sem]) rfl ⟨by simp [nextA,nextB,nextC,h1,h2],box_two _ _⟩
theorem caretTold_c (a b c:Int) (u:Value) (t:Int) (w:World) (hu: ∃ q n cap,u=.slice q n cap):
  Calls Tryz.prog 303 #[.agg #[.int .i64 a,.int .i64 b,.int .i64 c,u,.int .i64 t]] w fun e w'=>e=.returned (.int .i64 (caretK a b t))∧Below w.heap.size w w':=by
 have hbx: ∀ o,Below w.heap.size w (w.alloc o):=fun o=>(Below.refl _ _).alloc (Nat.le_refl _) _
 obtain ⟨q,n,cap,rfl⟩:=hu
 by_cases ha:a=0
 ·have ka:(a != 0)=false:=by simp [ha]
  by_cases h1:t=1
  ·have e:caretK a b t=1:=by simp [caretK,h1]
   rw [e]
   have k1:(t == 1)=true:=by simp [h1]
   clear e h1 ha
   go_enter Tryz.func303,Tryz.ntmps303
   go_wp2
   go_ret
   exact ⟨rfl,hbx _⟩
  have k1:(t == 1)=false:=by simpa using h1
  by_cases hb:b=0
  ·have kb:(b != 0)=false:=by simp [hb]
   by_cases h2:t=2
   ·have e:caretK a b t=2:=by simp [caretK,ha,h1,h2]
    rw [e]
    have k2:(t == 2)=true:=by simp [h2]
    clear e h1 h2 ha hb
    go_enter Tryz.func303,Tryz.ntmps303
    go_wp2
    go_ret
    exact ⟨rfl,hbx _⟩
   have e:caretK a b t=3:=by simp [caretK,ha,h1,hb,h2]
   rw [e]
   have k2:(t == 2)=false:=by simpa using h2
   clear e h1 h2 ha hb
   go_enter Tryz.func303,Tryz.ntmps303
   go_wp2
   go_ret
   exact ⟨rfl,hbx _⟩
  have e:caretK a b t=2:=by simp [caretK,ha,h1,hb]
  rw [e]
  have kb:(b != 0)=true:=by simpa using hb
  clear e h1 ha hb
  go_enter Tryz.func303,Tryz.ntmps303
  go_wp2
  go_ret
  exact ⟨rfl,hbx _⟩
 have e:caretK a b t=1:=by simp [caretK,ha]
 rw [e]
 have ka:(a != 0)=true:=by simpa using ha
 clear e ha
 go_enter Tryz.func303,Tryz.ntmps303
 go_wp2
 go_ret
 exact ⟨rfl,hbx _⟩
theorem owns_lit1 (w:World) (s:ByteArray) (base:Nat) (hb:base≤w.heap.size):(w.alloc (.cells #[.string s] 9)).ownsRow base 9 1 (.slice (some ⟨w.heap.size,0,none⟩) 1 1) 1 (strsV [s]):=
 World.ownsRow_lit w #[.string s] 1 (base:=base) (e:=9) (size:=1) hb (by unfold maxLen;omega) rfl
def zeroT :ByteArray:=⟨#[48]⟩
theorem lessThanNext_c (a b c:Int) (u:Value) (t k:Int) (w:World) (hn:numsOk a b c) (hu: ∃ q n cap,u=.slice q n cap):
  Calls Tryz.prog 302 #[.agg #[.int .i64 a,.int .i64 b,.int .i64 c,u,.int .i64 t],.int .i64 k] w fun e w'=>∃ g,e=.returned (.agg #[.int .i64 1,.int .i64 (nextA k a),.int .i64 (nextB k b),.int .i64 (nextC k c),.slice (some ⟨g,0,none⟩) 1 1])∧w'.ownsRow w.heap.size 9 1 (.slice (some ⟨g,0,none⟩) 1 1) 1 (strsV [zeroT])∧Below w.heap.size w w':=by
 have HX:Hid (∀ w1,Calls Tryz.prog 304 #[.agg #[.int .i64 a,.int .i64 b,.int .i64 c,u,.int .i64 t],.int .i64 k] w1 fun e w'=>e=.returned (.agg #[.int .i64 (nextA k a),.int .i64 (nextB k b),.int .i64 (nextC k c),.slice none 0 0])∧Below w1.heap.size w1 w'):=fun w1=>next_c a b c u t k w1 hn hu
 obtain ⟨q,n,cap,rfl⟩:=hu
 have B0:=box_two (w:=w) (.cells #[.int .i64 a,.int .i64 b,.int .i64 c,.slice q n cap,.int .i64 t] 313) (.cells #[.int .i64 0,.int .i64 0,.int .i64 0,.int .i64 0,.slice none 0 0] 214)
 have R0:Five ((w.alloc (.cells #[.int .i64 a,.int .i64 b,.int .i64 c,.slice q n cap,.int .i64 t] 313)).alloc (.cells #[.int .i64 0,.int .i64 0,.int .i64 0,.int .i64 0,.slice none 0 0] 214)) (w.heap.size+1) 214 (.int .i64 0) (.int .i64 0) (.int .i64 0) (.int .i64 0) (.slice none 0 0):=by
  have h:=five_new (w.alloc (.cells #[.int .i64 a,.int .i64 b,.int .i64 c,.slice q n cap,.int .i64 t] 313)) 214 (.int .i64 0) (.int .i64 0) (.int .i64 0) (.int .i64 0) (.slice none 0 0)
  have s1: ∀ o,(w.alloc o).heap.size=w.heap.size+1:=fun o=>by simp
  rw [s1] at h
  exact h
 obtain ⟨x,hx⟩: ∃ x,x=nextA k a:=⟨_,rfl⟩
 obtain ⟨y,hy⟩: ∃ x,x=nextB k b:=⟨_,rfl⟩
 obtain ⟨z,hz⟩: ∃ x,x=nextC k c:=⟨_,rfl⟩
 rw [←hx, ←hy, ←hz] at HX
 rw [←hx, ←hy, ←hz]
 clear hx hy hz hn
 go_enter Tryz.func302,Tryz.ntmps302
 go_wp2_with fail
 go_at_call 304
 refine (HX.out _).mono ?_
 rintro e w1 ⟨rfl,b1⟩
 have R1:=R0.keep b1
 have k1:=B0.trans (b1.mono B0.size)
 have l1:=R1.lt
 have tA: ∀ o o',Below w1.heap.size w1 ((w1.alloc o).alloc o'):=fun o o'=>box_two _ _
 have R2:=R1.keep (tA (.cells #[.int .i64 x,.int .i64 y,.int .i64 z,.slice (some ⟨w1.heap.size+1,0,none⟩) 1 1] 30) (.cells #[.string ⟨#[48]⟩] 9))
 have k2:=k1.trans ((tA (.cells #[.int .i64 x,.int .i64 y,.int .i64 z,.slice (some ⟨w1.heap.size+1,0,none⟩) 1 1] 30) (.cells #[.string ⟨#[48]⟩] 9)).mono k1.size)
 have O2:=owns_lit1 (w1.alloc (.cells #[.int .i64 x,.int .i64 y,.int .i64 z,.slice (some ⟨w1.heap.size+1,0,none⟩) 1 1] 30)) ⟨#[48]⟩ (w.heap.size+1+1) (by simp;omega)
 have s1: ∀ o,(w1.alloc o).heap.size=w1.heap.size+1:=fun o=>by simp
 rw [s1] at O2
 obtain ⟨p0,p1,p2,p3,p4⟩:=R2.cells
 have fr:=vblk_frozen R2
 clear R0 R1 b1 B0 HX
 go_wp2_with fail
 refine bodyPost_ret (v:=.agg #[.int .i64 1,.int .i64 x,.int .i64 y,.int .i64 z,.slice (some ⟨w1.heap.size+1,0,none⟩) 1 1]) (by simp [results,Tryz.results302,go_sem,p0,p1,p2,p3,p4]) rfl ⟨_,rfl,?_,?_⟩
 ·refine owns_base (base:=w.heap.size+1+1) ?_ (by omega)
  repeat (refine owns_set ?_ (by simp) _)
  exact O2
 ·repeat (refine Below.setCell ?_ (by simp<;>omega) _)
  exact k2
end Go.Proofs.YtlfmefojcmpfeaaGreatDoor
