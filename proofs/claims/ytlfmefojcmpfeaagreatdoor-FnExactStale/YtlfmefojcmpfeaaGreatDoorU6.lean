/-
  Contracts for the walks and pure facts, several texts in one: each theorem says what it proves, and under which conditions.
-/
import Derived.Deep.RegionHeld
import Derived.Test.YtlfmefojcmpfeaaGreatDoorUT
import Derived.Test.YtlfmefojcmpfeaaGreatDoorU2
set_option linter.unusedSimpArgs false
set_option linter.unusedVariables false
set_option maxHeartbeats 16000000
set_option maxRecDepth 100000
namespace Go.Proofs.YtlfmefojcmpfeaaGreatDoor
open Go.RowKit
theorem splitS_pos (s:ByteArray) (c:Int):0<(splitS s c).length:=by
 have h: ∀ n i b,0<(splitGo s c n i b).length:=fun n=>by
  induction n with
  |zero=>intro i b;simp [splitGo]
  |succ n ih=>intro i b;rw [splitGo];split<;>simp [ih]
 exact h _ _ _
theorem splitS_piece (s:ByteArray) (c:Int): ∀ x∈splitS s c,x.size≤s.size:=by
 have h: ∀ n i b,∀ x∈splitGo s c n i b,x.size≤s.size:=fun n=>by
  induction n with
  |zero=>intro i b x hx;simp [splitGo] at hx;subst hx;rw [ByteArray.size_extract];omega
  |succ n ih=>
   intro i b x hx
   rw [splitGo] at hx
   split at hx
   ·rcases List.mem_cons.1 hx with rfl|hx
    ·rw [ByteArray.size_extract];omega
    ·exact ih _ _ x hx
   ·exact ih _ _ x hx
 exact h _ _ _
theorem splitS_len (s:ByteArray) (c:Int):(splitS s c).length≤s.size+1:=by
 have h: ∀ n i b,(splitGo s c n i b).length≤n+1:=fun n=>by
  induction n with
  |zero=>intro i b;simp [splitGo]
  |succ n ih=>
   intro i b
   rw [splitGo]
   split
   ·simp only [List.length_cons];have:=ih (i+1) (i+1);omega
   ·have:=ih (i+1) b;omega
 exact h _ _ _
structure EntryD where
 name:ByteArray
 vA:Int
 vB:Int
 vC:Int
 vP:List ByteArray
 needs:List NeedD
def wtEntry (d:EntryD):Nat:=d.name.size+bulkS d.vP+wtRow wtNeed d.needs
def shEntry :Sh EntryD where
 n:=6
 lies S w cs d:=∃ u0 u1,cs=[.string d.name,.int .i64 d.vA,.int .i64 d.vB,.int .i64 d.vC,u0,u1]∧d.name.size≤maxLen∧RdB S w u0 (strsV d.vP)∧saneP d.vP∧RowIn shNeed S w u1 d.needs
 keep hk h:=by obtain ⟨u0,u1,h0,h1,h2,h3,h4⟩:=h;exact ⟨u0,u1,h0,h1,h2.keep hk,h3,h4.keep hk⟩
 mono hS h:=by obtain ⟨u0,u1,h0,h1,h2,h3,h4⟩:=h;exact ⟨u0,u1,h0,h1,h2.mono hS,h3,h4.mono hS⟩
def shEntryO :Sh EntryD where
 n:=6
 lies S w cs d:=∃ u0 u1,cs=[.string d.name,.int .i64 d.vA,.int .i64 d.vB,.int .i64 d.vC,u0,u1]∧d.name.size≤maxLen∧StrsOwn S w u0 d.vP∧saneP d.vP∧RowOwn shNeed 39 S w u1 d.needs
 keep hk h:=by obtain ⟨u0,u1,h0,h1,h2,h3,h4⟩:=h;exact ⟨u0,u1,h0,h1,h2.keep hk,h3,h4.keep hk⟩
 mono hS h:=by obtain ⟨u0,u1,h0,h1,h2,h3,h4⟩:=h;exact ⟨u0,u1,h0,h1,h2.mono hS,h3,h4.mono hS⟩
theorem liesEntry_plain {S:Nat→Prop} {w:World} {cs:List Value} {d:EntryD} (h:shEntryO.lies S w cs d):shEntry.lies S w cs d:=by
 obtain ⟨u0,u1,e0,s_name,r0,p0,r1⟩:=h
 exact ⟨u0,u1,e0,s_name,r0.plain,p0,r1.plain⟩
theorem owns_sliceP {w:World} {lo:Nat} {e:TypeId} {sz n:Nat} {v:Value} {xs:List Value} (hg:w.ownsRow lo e sz v n xs): ∃ q cap,v=.slice q n cap:=by
 rcases hg.2 with ⟨h1,h2⟩|⟨g,cap,cur,h1,_⟩
 ·exact ⟨none,0,by rw [h1,h2]⟩
 ·exact ⟨_,_,h1⟩
theorem StrsOwn.slice {S:Nat→Prop} {w:World} {u:Value} {ss:List ByteArray} (h:StrsOwn S w u ss): ∃ q cap,u=.slice q ss.length cap:=owns_sliceP h.1
theorem RowOwn.slice {α:Type} {sh:Sh α} {t:TypeId} {S:Nat→Prop} {w:World} {v:Value} {xs:List α} (h:RowOwn sh t S w v xs): ∃ q cap,v=.slice q xs.length cap:=by
 obtain ⟨_,ys,h1,_⟩:=h;exact owns_sliceP h1
theorem toNeed_c (S:Nat→Prop) (d:NeedD) (cs:List Value) (w:World) (hd:shNeed.lies S w cs d) (hB: ∀ b,S b→b<w.heap.size) (hw:wtNeed d≤1048576):
  Calls Tryz.prog 137 #[.agg cs.toArray] w fun e w'=>∃ cs',e=.returned (.agg cs'.toArray)∧shNeed.lies (Ow w.heap.size w'.heap.size) w' cs' d∧Below w.heap.size w w':=by
 obtain ⟨rfl,s_n,s_r⟩:=hd
 have hb3: ∀ A R O,Below w.heap.size w (((w.alloc A).alloc R).alloc O):=fun A R O=>(((Below.refl _ _).alloc (Nat.le_refl _) _).alloc (by simp) _).alloc (by simp;omega) _
 go_enter Tryz.func137,Tryz.ntmps137
 go_wp2_with fail
 refine bodyPost_ret (v:=.agg #[.string d.n,.string d.r]) (by simp [results,Tryz.results137,go_sem]) rfl ⟨_,rfl,⟨rfl,s_n,s_r⟩,?_⟩
 exact hb3 _ _ _
theorem infoNeed :(Tryz.prog.info? 39).map (fun i=>(i.zero,i.size,i.bytes))=some (some (.agg #[.string ⟨#[]⟩,.string ⟨#[]⟩]),2,32):=by kernel_rfl
theorem toNeedS_c (S:Nat→Prop) (v:Value) (xs:List NeedD) (w:World) (hv:RowIn shNeed S w v xs) (hB: ∀ b,S b→b<w.heap.size) (hw:wtRow wtNeed xs≤1048576):
    Calls Tryz.prog 58 #[v] w fun e w'=>∃ g,e=.returned (.slice (some ⟨g,0,none⟩) xs.length xs.length)∧RowOwn shNeed 39 (Ow w.heap.size w'.heap.size) w' (.slice (some ⟨g,0,none⟩) xs.length xs.length) xs∧Below w.heap.size w w':=by
  obtain ⟨a,cap,rfl,hl,hc,ha⟩:=hv
  have hn:=len_wtRow wtNeed xs
  have hlm:xs.length≤maxLen:=hl
  unfold maxLen at hl
  obtain ⟨i0,hi,hz0,hz1,hz2⟩:=info_parts infoNeed
  go_enter Tryz.func58,Tryz.ntmps58
  go_wp2_with (first
    | (at_make; refine wpList_make_full _ rfl _ _ 33 rfl w.heap.size 39 i0 _ 2 Tryz.underlying33 hi hz0 hz1 _ _ _ _ xs.length rfl rfl rfl rfl (by rw [hz2]; omega) (by unfold maxLen; omega) (Nat.le_refl _) ?_))
  intro w1 hown hgrow
  have hb1:=below_of_grown hgrow
  have hs1:w.heap.size+1≤w1.heap.size:=by
    rcases hown.2 with ⟨h,_⟩|⟨g,cap,cur,h,_,hg,_⟩
    · simp at h
    · simp at h
      have:=(Array.getElem?_eq_some_iff.1 hg).1
      omega
  obtain ⟨ys1,hown1⟩: ∃ ys,w1.ownsRow w.heap.size 39 2 (.slice (some ⟨w.heap.size,0,none⟩) xs.length xs.length) xs.length ys:=⟨_,hown⟩
  clear hgrow hown
  go_wp2_with fail
  go_loopw [4] (fun vi wr=>∃ (k:Nat) (ys:List Value),k≤xs.length∧vi=.int .i64 (k:Int)∧wr.ownsRow w.heap.size 39 2 (.slice (some ⟨w.heap.size,0,none⟩) xs.length xs.length) xs.length ys∧Hid (Laid shNeed (Ow (w.heap.size+1) wr.heap.size) wr ys xs k)∧Below w.heap.size w wr∧w.heap.size+1≤wr.heap.size) (fun vi _=>xs.length-(intOf vi).toNat)
  case atStart=>exact ⟨0,ys1,Nat.zero_le _,rfl,hown1,(fun i h h0=>by omega),hb1,hs1⟩
  case round=>
    obtain ⟨k,ys,hk,rfl,hownr,hy,hbr,hsr⟩:=hrel
    by_cases hlt':k<xs.length
    · rcases ha with rfl|⟨b,off,rfl,hlt,ha⟩
      · simp at hlt'
      obtain ⟨cs,hL,hcell⟩:=ha k hlt'
      have hL2:=shNeed.keep (.of hbr hB) hL
      have hcell2:=hcell.keep (.of hbr hB) hlt
      have hBr: ∀ b,S b→b<wr.heap.size:=fun b h=>Nat.lt_of_lt_of_le (hB b h) hbr.size
      have hwt:wtNeed xs[k]≤1048576:=by have:=wt_wtRow wtNeed (List.getElem_mem hlt');omega
      have hown2: ∀ w2,Below wr.heap.size wr w2→w2.ownsRow w.heap.size 39 2 (.slice (some ⟨w.heap.size,0,none⟩) xs.length xs.length) xs.length ys:=fun w2 h2=>hownr.kept (grown_of_below h2 none) (by simp [Value.ownBlock])
      have hlen:=hownr.1
      have HC:Hid (∀ w2,Below wr.heap.size wr w2→∀ j,j<2→∃ x,w2.cell? ⟨w.heap.size,k*2+j,none⟩=some x):=fun w2 h2 j hj=>⟨ys.getD (k*2+j) undef,by rw [(hown2 w2 h2).cellAt _ (by omega)];simp [List.getD_eq_getElem?_getD,show k*2+j<ys.length by omega]⟩
      have HF:Hid (∀ w2,Below wr.heap.size wr w2→∀ j,w2.frozen? ⟨w.heap.size,j,none⟩=false):=fun w2 h2 j=>(hown2 w2 h2).frozenAt j
      have HO:Hid (∀ w2,Below wr.heap.size wr w2→w2.ownsRow w.heap.size 39 2 (.slice (some ⟨w.heap.size,0,none⟩) xs.length xs.length) xs.length ys):=hown2
      have HST:Hid (∀ w2 cs,Below wr.heap.size wr w2→cs.length=2→shNeed.lies (Ow (w.heap.size+1) w2.heap.size) w2 cs xs[k]→Laid shNeed (Ow (w.heap.size+1) (setW w2 w.heap.size (k*2) cs).heap.size) (setW w2 w.heap.size (k*2) cs) (putL ys (k*2) cs) xs (k+1)):=fun w2 cs h2 hc hr=>hy.out.step (sh:=shNeed) hlt' hlen h2 (by omega) hc hr
      obtain ⟨d,hd⟩: ∃ d,d=xs[k]:=⟨_,rfl⟩
      rw [←hd] at hL2 hwt HST
      have HC1:=toNeed_c S d cs wr hL2 hBr hwt
      clear ha hL hcell hd hown2 hi hz0 hz1 hz2 hown1 hb1 hlen hwt
      obtain ⟨rfl,s_n,s_r⟩:=hL2
      clear s_n s_r
      have e0:wr.cell? ⟨b,off+k*2,none⟩=some (.string d.n):=hcell2 0 (by simp)
      have e1:wr.cell? ⟨b,off+k*2+1,none⟩=some (.string d.r):=hcell2 1 (by simp)
      have HC2:=hidden HC1
      have hki:(k:Int)<(xs.length:Int):=by omega
      clear hcell2 HC1
      go_wp2_with (go_at_call 137;refine HC2.out.mono ?_;rintro e w2 ⟨cs,rfl,hX,hb2⟩;have HX:=hidden (HST.out w2 cs hb2 (by have h:=hX;obtain ⟨h9,s_n,s_r⟩:=h;rw [h9];rfl) (shNeed.mono (Ow.mono hsr (Nat.le_refl _)) hX));obtain ⟨rfl,s_n,s_r⟩:=hX;obtain ⟨y0,d0⟩:=HC.out w2 hb2 0 (by omega);obtain ⟨y1,d1⟩:=HC.out w2 hb2 1 (by omega);rw [Nat.add_zero] at d0;have f9:=HF.out w2 hb2)
      go_roundw
      case rel=>
        refine ⟨k+1,_,by omega,by go_num,setW_owns [.string d.n,.string d.r] w2 ys (k*2) (HO.out w2 hb2),HX.out,setW_below (Nat.le_refl _) [.string d.n,.string d.r] w2 w (k*2) (hbr.trans (hb2.mono hbr.size)),?_⟩
        have h9:=setW_size [.string d.n,.string d.r] w2 w.heap.size (k*2)
        have:=hb2.size
        exact Nat.le_trans (show w.heap.size+1≤w2.heap.size by omega) (Nat.le_of_eq h9.symm)
      case measure=>simp [intOf];omega
    · have he:k=xs.length:=by omega
      subst he
      clear ha
      go_wp2_with fail
      go_ret
      exact ⟨_,rfl,rowOwn_of hownr hlm hy.out,hbr⟩
theorem toVerO_c (a b c:Int) (u:Value) (ps:List ByteArray) (w:World) (hu:Reads w u (strsV ps)) (hn:ps.length≤1048576):
    Calls Tryz.prog 204 #[.agg #[.int .i64 a,.int .i64 b,.int .i64 c,u]] w fun e w'=>∃ g,e=.returned (.agg #[.int .i64 a,.int .i64 b,.int .i64 c,.slice (some ⟨g,0,none⟩) ps.length ps.length])∧StrsOwn (Ow w.heap.size w'.heap.size) w' (.slice (some ⟨g,0,none⟩) ps.length ps.length) ps∧Below w.heap.size w w':=by
  have huA: ∀ w1,Below w.heap.size w w1→Reads w1 u (strsV ps):=fun w1 h1=>hu.below h1
  obtain ⟨q,cap,rfl,_,_⟩:=reads_strs hu
  clear hu
  go_enter Tryz.func204,Tryz.ntmps204
  have hb3: ∀ A R O,Below w.heap.size w (((w.alloc A).alloc R).alloc O):=fun A R O=>(((Below.refl _ _).alloc (Nat.le_refl _) _).alloc (by simp) _).alloc (by simp;omega) _
  go_wp2_with (
    go_at_call 208
    refine (toStrs_c _ ps _ (huA _ (hb3 _ _ _)) (by omega)).mono ?_
    rintro e w1 ⟨g, rfl, hM, hb1⟩
    obtain ⟨hA, hR, hO⟩ := vthree hb1
    have o0 := vblk_cell hO 0
    have o1 := vblk_cell hO 1
    have o2 := vblk_cell hO 2
    have o3 := vblk_cell hO 3
    have r0 := vblk_cell hR 0
    have r1 := vblk_cell hR 1
    have r2 := vblk_cell hR 2
    have r3 := vblk_cell hR 3
    have fo := vblk_frozen hO
    have fr := vblk_frozen hR
    simp only [List.getElem?_toArray, List.getElem?_cons_succ, List.getElem?_cons_zero] at o0 o1 o2 o3 r0 r1 r2 r3)
  have s3: ∀ A R O,(((w.alloc A).alloc R).alloc O).heap.size=w.heap.size+1+1+1:=fun A R O=>by simp
  rw [s3] at hb1 hM
  have hN:w.heap.size+1+1+1≤w1.heap.size:=by have:=hb1.size;rw [s3] at this;exact this
  refine bodyPost_ret (v:=.agg #[.int .i64 a,.int .i64 b,.int .i64 c,.slice (some ⟨g,0,none⟩) ps.length ps.length]) (by simp [results,Tryz.results204,go_sem,o0,o1,o2,o3,r0,r1,r2,r3]) rfl ⟨_,rfl,?_,?_⟩
  · have hX: ∀ {W:World},W.ownsRow (w.heap.size+1+1+1) 9 1 (.slice (some ⟨g,0,none⟩) ps.length ps.length) ps.length (strsV ps)→StrsOwn (Ow w.heap.size W.heap.size) W (.slice (some ⟨g,0,none⟩) ps.length ps.length) ps:=fun h=>⟨owns_lo (Nat.zero_le _) h,fun b hb=>Ow.mono (by omega) (Nat.le_refl _) b (owns_in h b hb)⟩
    refine hX ?_
    refine owns_set (owns_set (owns_set (owns_set (owns_set hM ?_ _) ?_ _) ?_ _) ?_ _) ?_ _<;>simp
  · have b1:=((hb3 _ _ _).trans (hb1.mono (by omega)))
    refine Below.setCell (Below.setCell (Below.setCell (Below.setCell (Below.setCell b1 ?_ _) ?_ _) ?_ _) ?_ _) ?_ _<;>simp<;>omega
theorem toEntry_c (S:Nat→Prop) (d:EntryD) (cs:List Value) (w:World) (hd:shEntry.lies S w cs d) (hB: ∀ b,S b→b<w.heap.size) (hw:wtEntry d≤1048576):
  Calls Tryz.prog 136 #[.agg cs.toArray] w fun e w'=>∃ cs',e=.returned (.agg cs'.toArray)∧shEntryO.lies (Ow w.heap.size w'.heap.size) w' cs' d∧Below w.heap.size w w':=by
 obtain ⟨u0,u1,rfl,s_name,r0,p0,r1⟩:=hd
 have hb3: ∀ A R O,Below w.heap.size w (((w.alloc A).alloc R).alloc O):=fun A R O=>(((Below.refl _ _).alloc (Nat.le_refl _) _).alloc (by simp) _).alloc (by simp;omega) _
 unfold wtEntry at hw
 have HS0:Hid (∀ w1,Below w.heap.size w w1→Calls Tryz.prog 204 #[.agg #[.int .i64 d.vA,.int .i64 d.vB,.int .i64 d.vC,u0]] w1 fun e w'=>∃ g,e=.returned (.agg #[.int .i64 d.vA,.int .i64 d.vB,.int .i64 d.vC,.slice (some ⟨g,0,none⟩) d.vP.length d.vP.length])∧StrsOwn (Ow w1.heap.size w'.heap.size) w' (.slice (some ⟨g,0,none⟩) d.vP.length d.vP.length) d.vP∧Below w1.heap.size w1 w'):=fun w1 hb=>
  toVerO_c _ _ _ u0 d.vP w1 ((r0.keep (.of hb hB)).reads (fun b h=>Nat.lt_of_lt_of_le (hB b h) hb.size)) (by unfold bulkS at hw;omega)
 have HS1:Hid (∀ w1,Below w.heap.size w w1→Calls Tryz.prog 58 #[u1] w1 fun e w'=>∃ g,e=.returned (.slice (some ⟨g,0,none⟩) d.needs.length d.needs.length)∧RowOwn shNeed 39 (Ow w1.heap.size w'.heap.size) w' (.slice (some ⟨g,0,none⟩) d.needs.length d.needs.length) d.needs∧Below w1.heap.size w1 w'):=fun w1 hb=>
  toNeedS_c S u1 d.needs w1 (r1.keep (.of hb hB)) (fun b h=>Nat.lt_of_lt_of_le (hB b h) hb.size) (by omega)
 obtain ⟨a0,cap0,eu0,_⟩:=id r0
 rw [length_strsV] at eu0
 subst eu0
 clear r0
 obtain ⟨a1,cap1,eu1,_⟩:=id r1
 subst eu1
 clear r1
 go_enter Tryz.func136,Tryz.ntmps136
 go_wp2_with fail
 go_at_call 204
 refine (HS0.out _ (hb3 _ _ _)).mono ?_
 rintro e w1 ⟨g1,rfl,R0,b1⟩
 obtain ⟨hA1,hR1,hO1⟩:=vthree b1
 have s3: ∀ A R O,(((w.alloc A).alloc R).alloc O).heap.size=w.heap.size+1+1+1:=fun A R O=>by simp
 rw [s3] at b1 R0
 have m1:w.heap.size+3≤w1.heap.size:=by have:=b1.size;rw [s3] at this;omega
 have kw1:Below w.heap.size w w1:=(hb3 _ _ _).trans (b1.mono (by omega))
 replace R0:=R0.mono (S':=Ow (w.heap.size+3) w1.heap.size) (Ow.mono (by omega) (Nat.le_refl _))
 have m1':w.heap.size+3≤w1.heap.size:=by omega
 have o0:=vblk_cell hO1 0
 have q0:=vblk_cell hR1 0
 have y0:=vblk_cell hA1 0
 have o1:=vblk_cell hO1 1
 have q1:=vblk_cell hR1 1
 have y1:=vblk_cell hA1 1
 have o2:=vblk_cell hO1 2
 have q2:=vblk_cell hR1 2
 have y2:=vblk_cell hA1 2
 have o3:=vblk_cell hO1 3
 have q3:=vblk_cell hR1 3
 have y3:=vblk_cell hA1 3
 have o4:=vblk_cell hO1 4
 have q4:=vblk_cell hR1 4
 have y4:=vblk_cell hA1 4
 have o5:=vblk_cell hO1 5
 have q5:=vblk_cell hR1 5
 have y5:=vblk_cell hA1 5
 have fo:=vblk_frozen hO1
 have fr:=vblk_frozen hR1
 simp only [List.getElem?_toArray,List.getElem?_cons_succ,List.getElem?_cons_zero,List.setIfInBounds_toArray,List.set_cons_succ,List.set_cons_zero] at o0 q0 y0 o1 q1 y1 o2 q2 y2 o3 q3 y3 o4 q4 y4 o5 q5 y5
 have k1:Below w.heap.size w ((((w1.setCell ⟨w.heap.size+1+1,1,none⟩ (.int .i64 d.vA)).setCell ⟨w.heap.size+1+1,2,none⟩ (.int .i64 d.vB)).setCell ⟨w.heap.size+1+1,3,none⟩ (.int .i64 d.vC)).setCell ⟨w.heap.size+1+1,4,none⟩ (.slice (some ⟨g1,0,none⟩) d.vP.length d.vP.length)):=(Below.setCell (Below.setCell (Below.setCell (Below.setCell kw1 (by simp;omega) _) (by simp;omega) _) (by simp;omega) _) (by simp;omega) _)
 go_wp2_with fail
 go_at_call 58
 refine (HS1.out _ k1).mono ?_
 rintro e w2 ⟨g2,rfl,R1,b2⟩
 have hA2:=(b2.block w.heap.size (by simp [World.setCell];omega)).trans ((Below.heap_setCell _ _ _ _ (by simp<;>omega)).trans ((Below.heap_setCell _ _ _ _ (by simp<;>omega)).trans ((Below.heap_setCell _ _ _ _ (by simp<;>omega)).trans ((Below.heap_setCell _ _ _ _ (by simp<;>omega)).trans (hA1)))))
 have hR2:=(b2.block (w.heap.size+1) (by simp [World.setCell];omega)).trans ((Below.heap_setCell _ _ _ _ (by simp<;>omega)).trans ((Below.heap_setCell _ _ _ _ (by simp<;>omega)).trans ((Below.heap_setCell _ _ _ _ (by simp<;>omega)).trans ((Below.heap_setCell _ _ _ _ (by simp<;>omega)).trans (hR1)))))
 have hO2:=(b2.block (w.heap.size+1+1) (by simp [World.setCell];omega)).trans (heap_setCell_same _ _ _ _ _ _ (heap_setCell_same _ _ _ _ _ _ (heap_setCell_same _ _ _ _ _ _ (heap_setCell_same _ _ _ _ _ _ hO1))))
 have m2:w1.heap.size≤w2.heap.size:=by have:=b2.size;simpa [World.setCell] using this
 have kw2:Below w.heap.size w w2:=k1.trans (b2.mono k1.size)
 replace R1:=R1.mono (S':=Ow (w.heap.size+3) w2.heap.size) (Ow.mono (by simp [World.setCell];omega) (Nat.le_refl _))
 replace R0:=(R0.keep (((((Kp.set (Ow.not (by omega))).trans (Kp.set (Ow.not (by omega)))).trans (Kp.set (Ow.not (by omega)))).trans (Kp.set (Ow.not (by omega)))).trans (Kp.of b2 (fun b h=>by have:=h.2;simp [World.setCell];omega)))).mono (S':=Ow (w.heap.size+3) w2.heap.size) (Ow.mono (Nat.le_refl _) (by omega))
 have m2':w.heap.size+3≤w2.heap.size:=by omega
 have o0:=vblk_cell hO2 0
 have q0:=vblk_cell hR2 0
 have y0:=vblk_cell hA2 0
 have o1:=vblk_cell hO2 1
 have q1:=vblk_cell hR2 1
 have y1:=vblk_cell hA2 1
 have o2:=vblk_cell hO2 2
 have q2:=vblk_cell hR2 2
 have y2:=vblk_cell hA2 2
 have o3:=vblk_cell hO2 3
 have q3:=vblk_cell hR2 3
 have y3:=vblk_cell hA2 3
 have o4:=vblk_cell hO2 4
 have q4:=vblk_cell hR2 4
 have y4:=vblk_cell hA2 4
 have o5:=vblk_cell hO2 5
 have q5:=vblk_cell hR2 5
 have y5:=vblk_cell hA2 5
 have fo:=vblk_frozen hO2
 have fr:=vblk_frozen hR2
 simp only [List.getElem?_toArray,List.getElem?_cons_succ,List.getElem?_cons_zero,List.setIfInBounds_toArray,List.set_cons_succ,List.set_cons_zero] at o0 q0 y0 o1 q1 y1 o2 q2 y2 o3 q3 y3 o4 q4 y4 o5 q5 y5
 go_wp2_with fail
 refine bodyPost_ret (v:=.agg #[.string d.name,.int .i64 d.vA,.int .i64 d.vB,.int .i64 d.vC,.slice (some ⟨g1,0,none⟩) d.vP.length d.vP.length,.slice (some ⟨g2,0,none⟩) d.needs.length d.needs.length]) (by simp [results,Tryz.results136,go_sem,o0,q0,o1,q1,o2,q2,o3,q3,o4,q4,o5,q5]) rfl ⟨[.string d.name,.int .i64 d.vA,.int .i64 d.vB,.int .i64 d.vC,.slice (some ⟨g1,0,none⟩) d.vP.length d.vP.length,.slice (some ⟨g2,0,none⟩) d.needs.length d.needs.length],rfl,?_,?_⟩
 ·have hS: ∀ {W:World},w2.heap.size≤W.heap.size→∀ b,Ow (w.heap.size+3) w2.heap.size b→Ow w.heap.size W.heap.size b:=fun h=>Ow.mono (by omega) h
  refine ⟨_,_,rfl,s_name,(R0.keep ?_).mono (hS ?_),p0,(R1.keep ?_).mono (hS ?_)⟩
  all_goals first
   |(simp [World.setCell];done)
   |((repeat (refine Kp.trans ?_ (Kp.set (Ow.not (by omega)))));exact fun b hb=>rfl)
 ·refine ?_
  (repeat (refine Below.setCell ?_ (by simp<;>omega) _))
  exact kw2
theorem infoEntry :(Tryz.prog.info? 35).map (fun i=>(i.zero,i.size,i.bytes))=some (some (.agg #[.string ⟨#[]⟩,.int .i64 0,.int .i64 0,.int .i64 0,.slice none 0 0,.slice none 0 0]),6,88):=by kernel_rfl
theorem toEntryS_c (S:Nat→Prop) (v:Value) (xs:List EntryD) (w:World) (hv:RowIn shEntry S w v xs) (hB: ∀ b,S b→b<w.heap.size) (hw:wtRow wtEntry xs≤1048576):
    Calls Tryz.prog 57 #[v] w fun e w'=>∃ g,e=.returned (.slice (some ⟨g,0,none⟩) xs.length xs.length)∧RowOwn shEntryO 35 (Ow w.heap.size w'.heap.size) w' (.slice (some ⟨g,0,none⟩) xs.length xs.length) xs∧Below w.heap.size w w':=by
  obtain ⟨a,cap,rfl,hl,hc,ha⟩:=hv
  have hn:=len_wtRow wtEntry xs
  have hlm:xs.length≤maxLen:=hl
  unfold maxLen at hl
  obtain ⟨i0,hi,hz0,hz1,hz2⟩:=info_parts infoEntry
  go_enter Tryz.func57,Tryz.ntmps57
  go_wp2_with (first
    | (at_make; refine wpList_make_full _ rfl _ _ 24 rfl w.heap.size 35 i0 _ 6 Tryz.underlying24 hi hz0 hz1 _ _ _ _ xs.length rfl rfl rfl rfl (by rw [hz2]; omega) (by unfold maxLen; omega) (Nat.le_refl _) ?_))
  intro w1 hown hgrow
  have hb1:=below_of_grown hgrow
  have hs1:w.heap.size+1≤w1.heap.size:=by
    rcases hown.2 with ⟨h,_⟩|⟨g,cap,cur,h,_,hg,_⟩
    · simp at h
    · simp at h
      have:=(Array.getElem?_eq_some_iff.1 hg).1
      omega
  obtain ⟨ys1,hown1⟩: ∃ ys,w1.ownsRow w.heap.size 35 6 (.slice (some ⟨w.heap.size,0,none⟩) xs.length xs.length) xs.length ys:=⟨_,hown⟩
  clear hgrow hown
  go_wp2_with fail
  go_loopw [4] (fun vi wr=>∃ (k:Nat) (ys:List Value),k≤xs.length∧vi=.int .i64 (k:Int)∧wr.ownsRow w.heap.size 35 6 (.slice (some ⟨w.heap.size,0,none⟩) xs.length xs.length) xs.length ys∧Hid (Laid shEntryO (Ow (w.heap.size+1) wr.heap.size) wr ys xs k)∧Below w.heap.size w wr∧w.heap.size+1≤wr.heap.size) (fun vi _=>xs.length-(intOf vi).toNat)
  case atStart=>exact ⟨0,ys1,Nat.zero_le _,rfl,hown1,(fun i h h0=>by omega),hb1,hs1⟩
  case round=>
    obtain ⟨k,ys,hk,rfl,hownr,hy,hbr,hsr⟩:=hrel
    by_cases hlt':k<xs.length
    · rcases ha with rfl|⟨b,off,rfl,hlt,ha⟩
      · simp at hlt'
      obtain ⟨cs,hL,hcell⟩:=ha k hlt'
      have hL2:=shEntry.keep (.of hbr hB) hL
      have hcell2:=hcell.keep (.of hbr hB) hlt
      have hBr: ∀ b,S b→b<wr.heap.size:=fun b h=>Nat.lt_of_lt_of_le (hB b h) hbr.size
      have hwt:wtEntry xs[k]≤1048576:=by have:=wt_wtRow wtEntry (List.getElem_mem hlt');omega
      have hown2: ∀ w2,Below wr.heap.size wr w2→w2.ownsRow w.heap.size 35 6 (.slice (some ⟨w.heap.size,0,none⟩) xs.length xs.length) xs.length ys:=fun w2 h2=>hownr.kept (grown_of_below h2 none) (by simp [Value.ownBlock])
      have hlen:=hownr.1
      have HC:Hid (∀ w2,Below wr.heap.size wr w2→∀ j,j<6→∃ x,w2.cell? ⟨w.heap.size,k*6+j,none⟩=some x):=fun w2 h2 j hj=>⟨ys.getD (k*6+j) undef,by rw [(hown2 w2 h2).cellAt _ (by omega)];simp [List.getD_eq_getElem?_getD,show k*6+j<ys.length by omega]⟩
      have HF:Hid (∀ w2,Below wr.heap.size wr w2→∀ j,w2.frozen? ⟨w.heap.size,j,none⟩=false):=fun w2 h2 j=>(hown2 w2 h2).frozenAt j
      have HO:Hid (∀ w2,Below wr.heap.size wr w2→w2.ownsRow w.heap.size 35 6 (.slice (some ⟨w.heap.size,0,none⟩) xs.length xs.length) xs.length ys):=hown2
      have HST:Hid (∀ w2 cs,Below wr.heap.size wr w2→cs.length=6→shEntryO.lies (Ow (w.heap.size+1) w2.heap.size) w2 cs xs[k]→Laid shEntryO (Ow (w.heap.size+1) (setW w2 w.heap.size (k*6) cs).heap.size) (setW w2 w.heap.size (k*6) cs) (putL ys (k*6) cs) xs (k+1)):=fun w2 cs h2 hc hr=>hy.out.step (sh:=shEntryO) hlt' hlen h2 (by omega) hc hr
      obtain ⟨d,hd⟩: ∃ d,d=xs[k]:=⟨_,rfl⟩
      rw [←hd] at hL2 hwt HST
      have HC1:=toEntry_c S d cs wr hL2 hBr hwt
      clear ha hL hcell hd hown2 hi hz0 hz1 hz2 hown1 hb1 hlen hwt
      obtain ⟨u0,u1,rfl,s_name,r0,p0,r1⟩:=hL2
      clear s_name p0
      obtain ⟨a0,cap0,eu0,_⟩:=id r0
      rw [length_strsV] at eu0
      subst eu0
      clear r0
      obtain ⟨a1,cap1,eu1,_⟩:=id r1
      subst eu1
      clear r1
      have e0:wr.cell? ⟨b,off+k*6,none⟩=some (.string d.name):=hcell2 0 (by simp)
      have e1:wr.cell? ⟨b,off+k*6+1,none⟩=some (.int .i64 d.vA):=hcell2 1 (by simp)
      have e2:wr.cell? ⟨b,off+k*6+2,none⟩=some (.int .i64 d.vB):=hcell2 2 (by simp)
      have e3:wr.cell? ⟨b,off+k*6+3,none⟩=some (.int .i64 d.vC):=hcell2 3 (by simp)
      have e4:wr.cell? ⟨b,off+k*6+4,none⟩=some (.slice a0 d.vP.length cap0):=hcell2 4 (by simp)
      have e5:wr.cell? ⟨b,off+k*6+5,none⟩=some (.slice a1 d.needs.length cap1):=hcell2 5 (by simp)
      have HC2:=hidden HC1
      have hki:(k:Int)<(xs.length:Int):=by omega
      clear hcell2 HC1
      go_wp2_with (go_at_call 136;refine HC2.out.mono ?_;rintro e w2 ⟨cs,rfl,hX,hb2⟩;have HX:=hidden (HST.out w2 cs hb2 (by have h:=hX;obtain ⟨u0,u1,h9,s_name,r0,p0,r1⟩:=h;rw [h9];rfl) (shEntryO.mono (Ow.mono hsr (Nat.le_refl _)) hX));obtain ⟨u0,u1,rfl,s_name,z0,p0,z1⟩:=hX;obtain ⟨b0,bap0,ev0⟩:=z0.slice;subst ev0;obtain ⟨b1,bap1,ev1⟩:=z1.slice;subst ev1;obtain ⟨y0,d0⟩:=HC.out w2 hb2 0 (by omega);obtain ⟨y1,d1⟩:=HC.out w2 hb2 1 (by omega);obtain ⟨y2,d2⟩:=HC.out w2 hb2 2 (by omega);obtain ⟨y3,d3⟩:=HC.out w2 hb2 3 (by omega);obtain ⟨y4,d4⟩:=HC.out w2 hb2 4 (by omega);obtain ⟨y5,d5⟩:=HC.out w2 hb2 5 (by omega);rw [Nat.add_zero] at d0;have f9:=HF.out w2 hb2)
      go_roundw
      case rel=>
        refine ⟨k+1,_,by omega,by go_num,setW_owns [.string d.name,.int .i64 d.vA,.int .i64 d.vB,.int .i64 d.vC,.slice b0 d.vP.length bap0,.slice b1 d.needs.length bap1] w2 ys (k*6) (HO.out w2 hb2),HX.out,setW_below (Nat.le_refl _) [.string d.name,.int .i64 d.vA,.int .i64 d.vB,.int .i64 d.vC,.slice b0 d.vP.length bap0,.slice b1 d.needs.length bap1] w2 w (k*6) (hbr.trans (hb2.mono hbr.size)),?_⟩
        have h9:=setW_size [.string d.name,.int .i64 d.vA,.int .i64 d.vB,.int .i64 d.vC,.slice b0 d.vP.length bap0,.slice b1 d.needs.length bap1] w2 w.heap.size (k*6)
        have:=hb2.size
        exact Nat.le_trans (show w.heap.size+1≤w2.heap.size by omega) (Nat.le_of_eq h9.symm)
      case measure=>simp [intOf];omega
    · have he:k=xs.length:=by omega
      subst he
      clear ha
      go_wp2_with fail
      go_ret
      exact ⟨_,rfl,rowOwn_of hownr hlm hy.out,hbr⟩
theorem row_box {w:World} {lo sz n g:Nat} {e t:TypeId} {v:Value} {xs:List Value} {cs:Array Value} {fz:Nat × Nat} (h:w.ownsRow lo e sz v n xs) (hb:w.heap[g]?=some (.cells cs t fz)) (hne:e≠t):v.ownBlock≠some g:=fun he=>by
 rcases h.2 with ⟨rfl,_⟩|⟨g',cap,cur,rfl,_,hg,_⟩
 ·simp [Value.ownBlock] at he
 ·simp [Value.ownBlock] at he
  subst he
  rw [hg] at hb
  simp at hb
  exact hne hb.2.1
theorem box_grown {w w':World} {row:Option Nat} {g:Nat} {o:Obj} (hb:w.heap[g]?=some o) (hg:w.grownBy w' row) (hne:row≠some g):w'.heap[g]?=some o:=
 (hg.block g (Array.getElem?_eq_some_iff.1 hb).1 (fun e=>hne e.symm)).trans hb
theorem box_below {w w':World} {g:Nat} {o:Obj} (hb:w.heap[g]?=some o) (h:Below w.heap.size w w'):w'.heap[g]?=some o:=
 (h.block g (Array.getElem?_eq_some_iff.1 hb).1).trans hb
theorem List.single_le_sum_natC {ss:List ByteArray} {t:ByteArray} (h:t∈ss):t.size≤(ss.map ByteArray.size).sum:=by
 induction ss with
 |nil=>simp at h
 |cons a l ih=>
  simp only [List.map_cons,List.sum_cons]
  rcases List.mem_cons.1 h with rfl|h
  ·omega
  ·have:=ih h;omega
theorem two_boxes {w:World} (A R:Obj):((w.alloc A).alloc R).heap[w.heap.size]?=some A∧((w.alloc A).alloc R).heap[w.heap.size+1]?=some R:=by
 have s1:(w.alloc A).heap.size=w.heap.size+1:=by simp
 refine ⟨?_,?_⟩
 ·rw [vheap_old _ _ (by simp),vheap_new]
 ·rw [←s1,vheap_new]
theorem infoPick :(Tryz.prog.info? 59).map (fun i=>(i.zero,i.size,i.bytes))=some (some (.agg #[.string ⟨#[]⟩,.int .i64 0,.int .i64 0,.int .i64 0,.slice none 0 0]),5,64):=by kernel_rfl
inductive Tree where
 |mk (k n:Int) (s:ByteArray) (l:List Tree) (keys:List ByteArray):Tree
theorem Tree.ind {P:Tree→Prop} (h: ∀ k n s l ks,(∀ U∈l,P U)→P (.mk k n s l ks)): ∀ T,P T
 | .mk k n s l ks=>h k n s l ks (fun U _=>Tree.ind h U)
 termination_by T=>SizeOf.sizeOf T
 decreasing_by
  rename_i hU
  have:=List.sizeOf_lt_of_mem hU
  simp
  omega
def KeptIn (S:Nat→Prop) (w w':World):Prop:=∀ b,S b→w'.heap[b]?=w.heap[b]?
theorem KeptIn.cell {S:Nat→Prop} {w w':World} (h:KeptIn S w w') {b:Nat} (hb:S b) (o:Nat):w'.cell? ⟨b,o,none⟩=w.cell? ⟨b,o,none⟩:=World.cell?_of_block (w:=w) (h b hb)
theorem KeptIn.trans {S:Nat→Prop} {a b c:World} (h:KeptIn S a b) (k:KeptIn S b c):KeptIn S a c:=fun i hi=>(k i hi).trans (h i hi)
theorem KeptIn.of {S:Nat→Prop} {B:Nat} {w w':World} (hb:Below B w w') (hS: ∀ b,S b→b<B):KeptIn S w w':=fun b h=>hb.block b (hS b h)
def ReadsB (S:Nat→Prop) (w:World) (v:Value) (xs:List Value):Prop:=
 ∃ a cap,v=.slice a xs.length cap∧xs.length≤cap∧(xs=[]∨∃ b off,a=some ⟨b,off,none⟩∧S b∧∀ k (h:k<xs.length),w.cell? ⟨b,off+k,none⟩=some xs[k])
theorem ReadsB.reads {S:Nat→Prop} {w:World} {v:Value} {xs:List Value} (h:ReadsB S w v xs) (hS: ∀ b,S b→b<w.heap.size):Reads w v xs:=by
 obtain ⟨a,cap,hv,hc,h⟩:=h
 refine ⟨a,cap,hv,hc,?_⟩
 rcases h with h|⟨b,off,ha,hb,h⟩
 ·exact .inl h
 ·exact .inr ⟨b,off,ha,hS b hb,h⟩
theorem ReadsB.of {w:World} {v:Value} {xs:List Value} (h:Reads w v xs):ReadsB (· <w.heap.size) w v xs:=h
theorem ReadsB.keep {S:Nat→Prop} {w w':World} {v:Value} {xs:List Value} (hb:KeptIn S w w') (h:ReadsB S w v xs):ReadsB S w' v xs:=by
 obtain ⟨a,cap,hv,hc,h⟩:=h
 refine ⟨a,cap,hv,hc,?_⟩
 rcases h with h|⟨b,off,ha,hlt,h⟩
 ·exact .inl h
 ·exact .inr ⟨b,off,ha,hlt,fun k hk=>(hb.cell hlt _).trans (h k hk)⟩
theorem ReadsB.mono {S S':Nat→Prop} {w:World} {v:Value} {xs:List Value} (hB: ∀ b,S b→S' b) (h:ReadsB S w v xs):ReadsB S' w v xs:=by
 obtain ⟨a,cap,hv,hc,h⟩:=h
 refine ⟨a,cap,hv,hc,?_⟩
 rcases h with h|⟨b,off,ha,hlt,h⟩
 ·exact .inl h
 ·exact .inr ⟨b,off,ha,hB b hlt,h⟩
def saneS (ks:List ByteArray):Prop:=ks.length≤maxLen∧∀ s∈ks,s.size≤maxLen
inductive Lies (S:Nat→Prop) (w:World):Value→Tree→Prop
 |mk (k n:Int) (s:ByteArray) (l:List Tree) (ks:List ByteArray) (a:Option Addr) (cap:Nat) (u:Value) (C:Nat→Nat→Value)
   (hs:s.size≤maxLen) (hl:l.length≤maxLen) (hk:saneS ks) (hc:l.length≤cap) (hu:ReadsB S w u (strsV ks))
   (ha:l=[]∨∃ b off,a=some ⟨b,off,none⟩∧S b∧∀ i,i<l.length→∀ j,j<5→w.cell? ⟨b,off+i*5+j,none⟩=some (C i j))
   (hC: ∀ i (h:i<l.length),Lies S w (.agg #[C i 0,C i 1,C i 2,C i 3,C i 4]) l[i]):
   Lies S w (.agg #[.int .i64 k,.int .i64 n,.string s,.slice a l.length cap,u]) (.mk k n s l ks)
def LiesL (S:Nat→Prop) (w:World) (v:Value) (l:List Tree):Prop:=
 ∃ a cap,∃ C:Nat→Nat→Value,v=.slice a l.length cap∧l.length≤maxLen∧l.length≤cap∧
  (l=[]∨∃ b off,a=some ⟨b,off,none⟩∧S b∧∀ i,i<l.length→∀ j,j<5→w.cell? ⟨b,off+i*5+j,none⟩=some (C i j))∧
  ∀ i (h:i<l.length),Lies S w (.agg #[C i 0,C i 1,C i 2,C i 3,C i 4]) l[i]
theorem Lies.out {S:Nat→Prop} {w:World} {v:Value} {k n:Int} {s:ByteArray} {l:List Tree} {ks:List ByteArray} (h:Lies S w v (.mk k n s l ks)):
  ∃ c u,v=.agg #[.int .i64 k,.int .i64 n,.string s,c,u]∧s.size≤maxLen∧saneS ks∧LiesL S w c l∧ReadsB S w u (strsV ks):=by
 cases h with
 |mk k n s l ks a cap u C hs hl hk hc hu ha hC=>exact ⟨_,u,rfl,hs,hk,⟨a,cap,C,rfl,hl,hc,ha,hC⟩,hu⟩
theorem Lies.of {S:Nat→Prop} {w:World} {c u:Value} {k n:Int} {s:ByteArray} {l:List Tree} {ks:List ByteArray} (hs:s.size≤maxLen) (hk:saneS ks) (hl:LiesL S w c l) (hu:ReadsB S w u (strsV ks)):
  Lies S w (.agg #[.int .i64 k,.int .i64 n,.string s,c,u]) (.mk k n s l ks):=by
 obtain ⟨a,cap,C,rfl,hl,hc,ha,hC⟩:=hl
 exact .mk k n s l ks a cap u C hs hl hk hc hu ha hC
theorem LiesL.mk_keep {S:Nat→Prop} {w w':World} {v:Value} {l:List Tree} (hb:KeptIn S w w') (hi: ∀ U∈l,∀ x,Lies S w x U→Lies S w' x U) (h:LiesL S w v l):LiesL S w' v l:=by
 obtain ⟨a,cap,C,rfl,hl,hc,ha,hC⟩:=h
 refine ⟨a,cap,C,rfl,hl,hc,?_,fun i h=>hi _ (List.getElem_mem h) _ (hC i h)⟩
 rcases ha with ha|⟨b,off,ha,hlt,hcell⟩
 ·exact .inl ha
 ·exact .inr ⟨b,off,ha,hlt,fun i hi j hj=>(hb.cell hlt _).trans (hcell i hi j hj)⟩
theorem Lies.keep {S:Nat→Prop} {w w':World} (hb:KeptIn S w w'): ∀ {T:Tree} {v:Value},Lies S w v T→Lies S w' v T:=by
 have h:=Tree.ind (P:=fun T=>∀ v,Lies S w v T→Lies S w' v T) ?_
 ·exact fun {T v} hx=>h T v hx
 intro k n s l ks ih v h
 obtain ⟨c,u,rfl,hs,hk,hl,hu⟩:=h.out
 exact Lies.of hs hk (hl.mk_keep hb ih) (hu.keep hb)
theorem LiesL.keep {S:Nat→Prop} {w w':World} {v:Value} {l:List Tree} (hb:KeptIn S w w') (h:LiesL S w v l):LiesL S w' v l:=
 h.mk_keep hb fun U _ x hx=>Lies.keep hb hx
theorem LiesL.mk_mono {S S':Nat→Prop} {w:World} {v:Value} {l:List Tree} (hB: ∀ b,S b→S' b) (hi: ∀ U∈l,∀ x,Lies S w x U→Lies S' w x U) (h:LiesL S w v l):LiesL S' w v l:=by
 obtain ⟨a,cap,C,rfl,hl,hc,ha,hC⟩:=h
 refine ⟨a,cap,C,rfl,hl,hc,?_,fun i h=>hi _ (List.getElem_mem h) _ (hC i h)⟩
 rcases ha with ha|⟨b,off,ha,hlt,hcell⟩
 ·exact .inl ha
 ·exact .inr ⟨b,off,ha,hB b hlt,hcell⟩
theorem Lies.mono {S S':Nat→Prop} {w:World} (hB: ∀ b,S b→S' b): ∀ {T:Tree} {v:Value},Lies S w v T→Lies S' w v T:=by
 have h:=Tree.ind (P:=fun T=>∀ v,Lies S w v T→Lies S' w v T) ?_
 ·exact fun {T v} hx=>h T v hx
 intro k n s l ks ih v h
 obtain ⟨c,u,rfl,hs,hk,hl,hu⟩:=h.out
 exact Lies.of hs hk (hl.mk_mono hB ih) (hu.mono hB)
theorem LiesL.mono {S S':Nat→Prop} {w:World} {v:Value} {l:List Tree} (hB: ∀ b,S b→S' b) (h:LiesL S w v l):LiesL S' w v l:=
 h.mk_mono hB fun U _ x hx=>Lies.mono hB hx
theorem LiesL.at {S:Nat→Prop} {w:World} {v:Value} {l:List Tree} (h:LiesL S w v l):
    ∃ a cap, v = .slice a l.length cap ∧ l.length ≤ maxLen ∧ l.length ≤ cap ∧ (l = [] ∨ ∃ b off, a = some ⟨b, off, none⟩ ∧ S b ∧ ∀ i (h : i < l.length), ∃ c0 c1 c2 c3 c4,
      w.cell? ⟨b, off + i * 5, none⟩ = some c0 ∧ w.cell? ⟨b, off + i * 5 + 1, none⟩ = some c1 ∧ w.cell? ⟨b, off + i * 5 + 2, none⟩ = some c2 ∧ w.cell? ⟨b, off + i * 5 + 3, none⟩ = some c3 ∧ w.cell? ⟨b, off + i * 5 + 4, none⟩ = some c4 ∧
      Lies S w (.agg #[c0, c1, c2, c3, c4]) l[i]) := by
  obtain ⟨a,cap,C,rfl,hl,hc,ha,hC⟩:=h
  refine ⟨a,cap,rfl,hl,hc,?_⟩
  rcases ha with ha|⟨b,off,ha,hlt,hcell⟩
  · exact .inl ha
  · refine .inr ⟨b,off,ha,hlt,fun i hi=>⟨C i 0,C i 1,C i 2,C i 3,C i 4,?_,?_,?_,?_,?_,hC i hi⟩⟩
    · simpa using hcell i hi 0 (by omega)
    · exact hcell i hi 1 (by omega)
    · exact hcell i hi 2 (by omega)
    · exact hcell i hi 3 (by omega)
    · exact hcell i hi 4 (by omega)
theorem heap_new (w:World) (o:Obj):(w.alloc o).heap[w.heap.size]?=some o:=by show (w.heap.push _)[w.heap.size]?=_;simp
theorem heap_old (w:World) (o:Obj) {b:Nat} (h:b<w.heap.size):(w.alloc o).heap[b]?=w.heap[b]? :=Below.heap_alloc w o b h
theorem three {w w1:World} {A R O:Obj} (hb:Below (((w.alloc A).alloc R).alloc O).heap.size (((w.alloc A).alloc R).alloc O) w1):
  w1.heap[w.heap.size]?=some A∧w1.heap[w.heap.size+1]?=some R∧w1.heap[w.heap.size+1+1]?=some O:=by
 have s1:(w.alloc A).heap.size=w.heap.size+1:=by simp
 have s2:((w.alloc A).alloc R).heap.size=w.heap.size+1+1:=by simp
 refine ⟨?_,?_,?_⟩
 ·rw [hb.block _ (by simp;omega),heap_old _ _ (by simp;omega),heap_old _ _ (by simp),heap_new]
 ·rw [hb.block _ (by simp),heap_old _ _ (by simp), ←s1,heap_new]
 ·rw [hb.block _ (by simp), ←s2,heap_new]
def Own (lo hi:Nat) (b:Nat):Prop:=lo≤b∧b<hi
theorem Own.set {lo hi:Nat} {w:World} {g j:Nat} {v:Value} (h:g<lo):KeptIn (Own lo hi) w (w.setCell ⟨g,j,none⟩ v):=fun b hb=>Below.heap_setCell w ⟨g,j,none⟩ v b (by have:=hb.1;simp;omega)
theorem Own.below {lo:Nat} {w w':World} (h:Below w.heap.size w w'):KeptIn (Own lo w.heap.size) w w':=fun b hb=>h.block b hb.2
theorem Own.mono {lo lo' hi hi':Nat} (h1:lo'≤lo) (h2:hi≤hi'): ∀ b,Own lo hi b→Own lo' hi' b:=fun b h=>⟨Nat.le_trans h1 h.1,Nat.lt_of_lt_of_le h.2 h2⟩
theorem Lies.parts {S:Nat→Prop} {w:World} {v:Value} {T:Tree} (h:Lies S w v T):
  ∃ k n s a m cap a' m' cap',v=.agg #[.int .i64 k,.int .i64 n,.string s,.slice a m cap,.slice a' m' cap']:=by
 cases T with
 |mk k n s l ks=>
  obtain ⟨c,u,rfl,hs,hk,⟨a,cap,C,rfl,_⟩,⟨a',cap',rfl,_⟩⟩:=h.out
  exact ⟨_,_,_,_,_,_,_,_,_,rfl⟩
def Tree.keys :Tree→List ByteArray
 | .mk _ _ _ _ ks=>ks
structure Chg (S:Nat→Prop) (w w':World):Prop where
 os:w'.os=w.os
 tape:w'.tape=w.tape
 output:w'.output=w.output
 size:w.heap.size≤w'.heap.size
 block: ∀ b,b<w.heap.size→¬S b→w'.heap[b]?=w.heap[b]?
theorem Chg.refl (S:Nat→Prop) (w:World):Chg S w w:=⟨rfl,rfl,rfl,Nat.le_refl _,fun _ _ _=>rfl⟩
theorem Chg.trans {S:Nat→Prop} {a b c:World} (h:Chg S a b) (k:Chg S b c):Chg S a c:=
 ⟨k.os.trans h.os,k.tape.trans h.tape,k.output.trans h.output,Nat.le_trans h.size k.size,fun i hi hs=>(k.block i (Nat.lt_of_lt_of_le hi h.size) hs).trans (h.block i hi hs)⟩
theorem Chg.mono {S S':Nat→Prop} {a b:World} (h:Chg S a b) (hs: ∀ b,S b→S' b):Chg S' a b:=⟨h.os,h.tape,h.output,h.size,fun i hi hn=>h.block i hi (fun k=>hn (hs i k))⟩
theorem Chg.of {S:Nat→Prop} {a b:World} (h:Below a.heap.size a b):Chg S a b:=⟨h.os,h.tape,h.output,h.size,fun i hi _=>h.block i hi⟩
theorem Chg.set {S:Nat→Prop} {w:World} {g j:Nat} {v:Value} (h:S g):Chg S w (w.setCell ⟨g,j,none⟩ v):=
 ⟨rfl,rfl,rfl,by simp [World.setCell],fun b hb hn=>Below.heap_setCell w ⟨g,j,none⟩ v b (fun e=>by have e':b=g:=e;subst e';exact hn h)⟩
theorem Chg.grown {S:Nat→Prop} {w w':World} {r:Option Nat} (h:w.grownBy w' r) (hr: ∀ g,r=some g→S g):Chg S w w':=
 ⟨h.os,h.tape,h.output,h.size,fun b hb hn=>h.block b hb (fun e=>hn (hr b e.symm))⟩
def CmdRows (w:World) (S:Nat→Prop) (ys:List Value) (ns:List Nat):Prop:=∀ i (h:i<ns.length),∃ u xs,ys[i*2+1]?=some u∧w.ownsRow 0 9 1 u ns[i] xs∧∀ g,u.ownBlock=some g→S g
theorem CmdRows.below {w w':World} {S:Nat→Prop} {ys:List Value} {ns:List Nat} (h:CmdRows w S ys ns) (hb:Below w.heap.size w w'):CmdRows w' S ys ns:=fun j hj=>by
 obtain ⟨u,xs,h1,h2,h3⟩:=h j hj
 exact ⟨u,xs,h1,owns_kept (S:=fun b=>b<w.heap.size) (.of hb (fun b h=>h)) (fun g h=>(owns_in h2 g h).2) h2,h3⟩
theorem owns_apart {w:World} {lo lo' sz sz' n n':Nat} {e e':TypeId} {v v':Value} {xs xs':List Value} (h:w.ownsRow lo e sz v n xs) (h':w.ownsRow lo' e' sz' v' n' xs') (hne:e≠e'):v.ownBlock=none∨v.ownBlock≠v'.ownBlock:=by
 rcases h.2 with ⟨rfl,_⟩|⟨g,c,cur,rfl,_,hb,_⟩
 ·exact .inl rfl
 ·right
  intro k
  rcases h'.2 with ⟨rfl,_⟩|⟨g',c',cur',rfl,_,hb',_⟩
  ·simp [Value.ownBlock] at k
  ·simp [Value.ownBlock] at k
   subst k
   rw [hb] at hb'
   simp at hb'
   exact hne hb'.2
end Go.Proofs.YtlfmefojcmpfeaaGreatDoor
