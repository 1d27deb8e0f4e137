/-
  Contracts for the walks and pure facts, several texts in one: each theorem says what it proves, and under which conditions.
-/
import Derived.Test.YtlfmefojcmpfeaaGreatDoorUT
import Derived.Test.YtlfmefojcmpfeaaGreatDoorU28
set_option linter.unusedSimpArgs false
set_option linter.unusedVariables false
set_option maxHeartbeats 16000000
set_option maxRecDepth 100000
namespace Go.Proofs.YtlfmefojcmpfeaaGreatDoor
open Go.RowKit
theorem less_self : ∀ l:List UInt8,Op.bytesLess l l=false
 |[]=>rfl
 |a::l=>by simp [Op.bytesLess,less_self l]
theorem entLess_ahead {c d:EntryD} (h:Op.bytesLess c.name.toList d.name.toList=true):entLess c d=true:=by
 unfold entLess
 split
 ·rename_i e;rw [e,less_self] at h;cases h
 ·exact h
theorem entLess_same {c d:EntryD} (h:(c.name.toList == d.name.toList)=true):entLess c d=lessB c.vA c.vB c.vC c.vP d.vA d.vB d.vC d.vP:=by
 unfold entLess
 rw [name_alike] at h
 rw [if_pos (of_decide_eq_true h)]
theorem entLess_other {c d:EntryD} (h:(c.name.toList == d.name.toList)=false):entLess c d=Op.bytesLess c.name.toList d.name.toList:=by
 unfold entLess
 rw [name_alike] at h
 rw [if_neg (of_decide_eq_false h)]
theorem wrongEntry_c (S:Nat→Prop) (d:EntryD) (cs:List Value) (w:World) (hd:shEntry.lies S w cs d) (hB: ∀ b,S b→b<w.heap.size) (hw:wtEntry d≤1048576) (hT:Tabs w):
  Calls Tryz.prog 92 #[.agg cs.toArray] w fun e w'=>e=.returned (.bool (!entB d))∧Below w.heap.size w w':=by
 obtain ⟨u0,u1,rfl,s_n,r0,p0,r1⟩:=hd
 have hbx: ∀ o,Below w.heap.size w (w.alloc o):=fun o=>(Below.refl _ _).alloc (Nat.le_refl _) _
 have hBn: ∀ w1,Below w.heap.size w w1→∀ b,S b→b<w1.heap.size:=fun w1 h b hb=>Nat.lt_of_lt_of_le (hB b hb) h.size
 have hnw: ∀ x∈d.needs,x.r.size≤1048576:=fun x hx=>by
  have h1:x.n.size+x.r.size≤wtRow wtNeed d.needs:=wt_wtRow wtNeed hx
  unfold wtEntry at hw
  omega
 have hbk:bulkS d.vP≤1048576:=by unfold wtEntry at hw;omega
 have HN:=fun w1=>implName_c d.name s_n w1
 have H1: ∀ w1,Below w.heap.size w w1→Calls Tryz.prog 161 #[.agg #[.int .i64 d.vA,.int .i64 d.vB,.int .i64 d.vC,u0]] w1 fun e w'=>e=.returned (.bool (verB d.vA d.vB d.vC d.vP))∧Below w1.heap.size w1 w':=fun w1 h=>implVerOk_c _ _ _ u0 d.vP w1 ((r0.keep (.of h hB)).reads (hBn w1 h)) hbk
 have H2: ∀ w1,Below w.heap.size w w1→Calls Tryz.prog 172 #[u1] w1 fun e w'=>e=.returned (.bool (needsB d.needs))∧Below w1.heap.size w1 w':=fun w1 h=>by
  rw [←needs_alike];exact needOk_c S u1 d.needs w1 (r1.keep (.of h hB)) (hBn w1 h) hnw (hT.below h)
 unfold entB
 obtain ⟨p,hp⟩: ∃ p,p=nameB d.name:=⟨_,rfl⟩
 obtain ⟨q,hq⟩: ∃ p,p=verB d.vA d.vB d.vC d.vP:=⟨_,rfl⟩
 obtain ⟨r,hr⟩: ∃ p,p=needsB d.needs:=⟨_,rfl⟩
 simp only [←hp] at HN ⊢
 simp only [←hq] at H1 ⊢
 simp only [←hr] at H2 ⊢
 replace HN:=hidden HN
 replace H1:=hidden H1
 replace H2:=hidden H2
 obtain ⟨a0,cap0,eu0,_⟩:=id r0
 rw [length_strsV] at eu0
 subst eu0
 clear r0
 obtain ⟨a1,cap1,eu1,_⟩:=id r1
 subst eu1
 clear r1
 clear hp hq hr hT hnw hbk hBn
 cases p with
 |false=>
  go_enter Tryz.func92,Tryz.ntmps92
  go_wp2_with fail
  go_at_call 171
  refine (HN.out _).mono ?_
  rintro e w' ⟨rfl,rfl⟩
  go_wp2_with fail
  go_ret
  exact ⟨rfl,hbx _⟩
 |true=>
  cases q with
  |false=>
   go_enter Tryz.func92,Tryz.ntmps92
   go_wp2_with fail
   go_at_call 171
   refine (HN.out _).mono ?_
   rintro e w' ⟨rfl,rfl⟩
   go_wp2_with fail
   go_at_call 161
   refine (H1.out _ (hbx _)).mono ?_
   rintro e w1 ⟨rfl,b1⟩
   have k1:Below w.heap.size w w1:=(hbx _).trans (b1.mono (hbx _).size)
   have hx1:=boxAt b1
   have x0:=vblk_cell hx1 0
   have x1:=vblk_cell hx1 1
   have x2:=vblk_cell hx1 2
   have x3:=vblk_cell hx1 3
   have x4:=vblk_cell hx1 4
   have x5:=vblk_cell hx1 5
   simp only [List.getElem?_toArray,List.getElem?_cons_succ,List.getElem?_cons_zero] at x0 x1 x2 x3 x4 x5
   go_wp2_with fail
   go_ret
   exact ⟨rfl,k1⟩
  |true=>
   go_enter Tryz.func92,Tryz.ntmps92
   go_wp2_with fail
   go_at_call 171
   refine (HN.out _).mono ?_
   rintro e w' ⟨rfl,rfl⟩
   go_wp2_with fail
   go_at_call 161
   refine (H1.out _ (hbx _)).mono ?_
   rintro e w1 ⟨rfl,b1⟩
   have k1:Below w.heap.size w w1:=(hbx _).trans (b1.mono (hbx _).size)
   have hx1:=boxAt b1
   have x0:=vblk_cell hx1 0
   have x1:=vblk_cell hx1 1
   have x2:=vblk_cell hx1 2
   have x3:=vblk_cell hx1 3
   have x4:=vblk_cell hx1 4
   have x5:=vblk_cell hx1 5
   simp only [List.getElem?_toArray,List.getElem?_cons_succ,List.getElem?_cons_zero] at x0 x1 x2 x3 x4 x5
   go_wp2_with fail
   go_at_call 172
   refine (H2.out _ k1).mono ?_
   rintro e w2 ⟨rfl,b2⟩
   have k2:=below_next k1 b2
   go_wp2_with fail
   go_ret
   exact ⟨by cases r<;>rfl,k2⟩
theorem isAhead_c (S S':Nat→Prop) (c d:EntryD) (cs ds:List Value) (w:World) (hc:shEntry.lies S w cs c) (hd:shEntry.lies S' w ds d) (hB: ∀ b,S b→b<w.heap.size) (hB': ∀ b,S' b→b<w.heap.size) (hw:bulkS c.vP≤1048576) (hw':bulkS d.vP≤1048576):
  Calls Tryz.prog 93 #[.agg cs.toArray,.agg ds.toArray] w fun e w'=>e=.returned (.bool (entLess c d))∧Below w.heap.size w w':=by
 obtain ⟨xu0,xu1,rfl,xs_n,xr0,xp0,xr1⟩:=hc
 obtain ⟨yu0,yu1,rfl,ys_n,yr0,yp0,yr1⟩:=hd
 have hb2: ∀ A R,Below w.heap.size w ((w.alloc A).alloc R):=fun A R=>((Below.refl _ _).alloc (Nat.le_refl _) _).alloc (by simp) _
 have HL:Hid (∀ w1,Below w.heap.size w w1→Calls Tryz.prog 20 #[.agg #[.int .i64 c.vA,.int .i64 c.vB,.int .i64 c.vC,xu0],.agg #[.int .i64 d.vA,.int .i64 d.vB,.int .i64 d.vC,yu0]] w1 fun e w'=>e=.returned (.bool (lessB c.vA c.vB c.vC c.vP d.vA d.vB d.vC d.vP))∧Below w1.heap.size w1 w'):=fun w1 h=>implLess_c _ _ _ xu0 c.vP _ _ _ yu0 d.vP w1 ((xr0.keep (.of h hB)).reads (fun b hb=>Nat.lt_of_lt_of_le (hB b hb) h.size)) ((yr0.keep (.of h hB')).reads (fun b hb=>Nat.lt_of_lt_of_le (hB' b hb) h.size)) hw hw'
 have E1:=hidden (entLess_ahead (c:=c) (d:=d))
 have E2:=hidden (entLess_same (c:=c) (d:=d))
 have E3:=hidden (entLess_other (c:=c) (d:=d))
 obtain ⟨R,hR⟩: ∃ R,R=entLess c d:=⟨_,rfl⟩
 obtain ⟨Q,hQ⟩: ∃ Q,Q=lessB c.vA c.vB c.vC c.vP d.vA d.vB d.vC d.vP:=⟨_,rfl⟩
 rw [←hR] at E1 E2 E3 ⊢
 rw [←hQ] at E2 HL
 obtain ⟨xa0,xc0,xe0,_⟩:=id xr0
 rw [length_strsV] at xe0
 subst xe0
 clear xr0
 obtain ⟨xa1,xc1,xe1,_⟩:=id xr1
 subst xe1
 clear xr1
 obtain ⟨ya0,yc0,ye0,_⟩:=id yr0
 rw [length_strsV] at ye0
 subst ye0
 clear yr0
 obtain ⟨ya1,yc1,ye1,_⟩:=id yr1
 subst ye1
 clear yr1
 clear hR hQ xs_n ys_n xp0 yp0 hw hw'
 by_cases hl:Op.bytesLess c.name.toList d.name.toList=true
 ·rw [E1.out hl]
  clear E1 E2 E3 HL
  go_enter Tryz.func93,Tryz.ntmps93
  go_wp2_with fail
  go_ret
  exact ⟨rfl,hb2 _ _⟩
 ·have hl':Op.bytesLess c.name.toList d.name.toList=false:=by simpa using hl
  clear hl
  by_cases he:(c.name.toList == d.name.toList)=true
  ·rw [E2.out he]
   clear E1 E2 E3
   go_enter Tryz.func93,Tryz.ntmps93
   go_wp2_with fail
   go_at_call 20
   refine (HL.out _ (hb2 _ _)).mono ?_
   rintro e w1 ⟨rfl,b1⟩
   have k1:Below w.heap.size w w1:=(hb2 _ _).trans (b1.mono (hb2 _ _).size)
   go_wp2_with fail
   go_ret
   exact ⟨by cases Q<;>rfl,k1⟩
  ·have he':(c.name.toList == d.name.toList)=false:=by simpa using he
   clear he
   rw [E3.out he',hl']
   clear E1 E2 E3 HL
   go_enter Tryz.func93,Tryz.ntmps93
   go_wp2_with fail
   go_ret
   exact ⟨rfl,hb2 _ _⟩
theorem idxEntry_c (S:Nat→Prop) (v:Value) (xs:List EntryD) (w:World) (hv:RowIn shEntry S w v xs) (hB: ∀ b,S b→b<w.heap.size) (hw: ∀ d∈xs,wtEntry d≤1048576) (hT:Tabs w):
  Calls Tryz.prog 170 #[v,.func (.func 92) #[] #[]] w fun e w'=>e=.returned (.int .i64 (firstI (fun d=> !entB d) xs))∧Below w.heap.size w w':=by
 obtain ⟨a,cap,rfl,hl,hc,ha⟩:=hv
 unfold maxLen at hl
 obtain ⟨R,hR⟩: ∃ R,R=firstI (fun d=> !entB d) xs:=⟨_,rfl⟩
 rw [←hR]
 have HR:=hidden hR
 clear hR
 go_enter Tryz.func170,Tryz.ntmps170
 go_wp2_with fail
 go_loopw [8] (fun vi wr=>∃ k:Nat,k≤xs.length∧vi=.int .i64 (k:Int)∧Hid (∀ j (hj:j<xs.length),j<k→(fun d=> !entB d) xs[j]=false)∧Below w.heap.size w wr) (fun vi _=>xs.length-(intOf vi).toNat)
 case atStart=>exact ⟨0,Nat.zero_le _,rfl,(fun j hj h=>by omega),Below.refl _ _⟩
 case round=>
  obtain ⟨k,hk,rfl,hno,hbr⟩:=hrel
  by_cases hlt':k<xs.length
  ·rcases ha with rfl|⟨b,off,rfl,hlt,ha⟩
   ·simp at hlt'
   obtain ⟨cs,hL,hcell⟩:=ha k hlt'
   have hL2:=shEntry.keep (.of hbr hB) hL
   have hcell2:=hcell.keep (.of hbr hB) hlt
   have hBr: ∀ b,S b→b<wr.heap.size:=fun b h=>Nat.lt_of_lt_of_le (hB b h) hbr.size
   have HT:Hid ((fun d=> !entB d) xs[k]=true→R=(k:Int)):=fun h=>HR.out.trans (firstI_here hlt' h hno.out)
   have HN:Hid ((fun d=> !entB d) xs[k]=false→∀ j (hj:j<xs.length),j<k+1→(fun d=> !entB d) xs[j]=false):=fun h j hj hjk=>by
    by_cases e:j=k
    ·subst e;exact h
    ·exact hno.out j hj (by omega)
   have HC:Calls Tryz.prog 92 #[.agg cs.toArray] wr fun e w'=>e=.returned (.bool ((fun d=> !entB d) xs[k]))∧Below wr.heap.size wr w':=wrongEntry_c S xs[k] cs wr hL2 hBr (hw _ (List.getElem_mem hlt')) (hT.below hbr)
   obtain ⟨d,hd⟩: ∃ d,d=xs[k]:=⟨_,rfl⟩
   rw [←hd] at hL2 HT HN HC
   obtain ⟨r,hr⟩: ∃ r,r=(fun d=> !entB d) d:=⟨_,rfl⟩
   rw [←hr] at HT HN HC
   clear ha hL hcell hd hr hno
   obtain ⟨u0,u1,rfl,s_name,r0,p0,r1⟩:=hL2
   obtain ⟨a0,cap0,eu0,_⟩:=id r0
   rw [length_strsV] at eu0
   subst eu0
   obtain ⟨a1,cap1,eu1,_⟩:=id r1
   subst eu1
   have e0:wr.cell? ⟨b,off+k*6,none⟩=some (.string d.name):=hcell2 0 (by simp)
   have e1:wr.cell? ⟨b,off+k*6+1,none⟩=some (.int .i64 d.vA):=hcell2 1 (by simp)
   have e2:wr.cell? ⟨b,off+k*6+2,none⟩=some (.int .i64 d.vB):=hcell2 2 (by simp)
   have e3:wr.cell? ⟨b,off+k*6+3,none⟩=some (.int .i64 d.vC):=hcell2 3 (by simp)
   have e4:wr.cell? ⟨b,off+k*6+4,none⟩=some (.slice a0 d.vP.length cap0):=hcell2 4 (by simp)
   have e5:wr.cell? ⟨b,off+k*6+5,none⟩=some (.slice a1 d.needs.length cap1):=hcell2 5 (by simp)
   have HC2:=hidden HC
   have hki:(k:Int)<(xs.length:Int):=by omega
   clear hcell2 HC r0 r1
   cases r with
   |true=>
    have HT2:=hidden (HT.out rfl)
    clear HT HN
    go_wp2_with (go_at_call 92;refine HC2.out.mono ?_;rintro e w1 ⟨rfl,b1⟩)
    go_ret
    exact ⟨by rw [HT2.out];rfl,hbr.trans (b1.mono hbr.size)⟩
   |false=>
    have HN2:=hidden (HN.out rfl)
    clear HT HN
    go_wp2_with (go_at_call 92;refine HC2.out.mono ?_;rintro e w1 ⟨rfl,b1⟩)
    go_roundw
    case rel=>exact ⟨k+1,by omega,by go_num,HN2.out,hbr.trans (b1.mono hbr.size)⟩
    case measure=>simp [intOf];omega
  ·have he:k=xs.length:=by omega
   subst he
   have HE:Hid (R= -1):=HR.out.trans (firstI_none (fun j hj=>hno.out j hj hj))
   clear ha hno HR
   go_wp2_with fail
   go_ret
   exact ⟨by rw [HE.out];rfl,hbr⟩
theorem anyEntry_c (S:Nat→Prop) (v:Value) (xs:List EntryD) (w:World) (hv:RowIn shEntry S w v xs) (hB: ∀ b,S b→b<w.heap.size) (hw: ∀ d∈xs,wtEntry d≤1048576) (hT:Tabs w):
  Calls Tryz.prog 91 #[v,.func (.func 92) #[] #[]] w fun e w'=>e=.returned (.bool (xs.any (fun d=> !entB d)))∧Below w.heap.size w w':=by
 have HF:=idxEntry_c S v xs w hv hB hw hT
 have hA:=firstI_any (fun d=> !entB d) xs
 obtain ⟨R,hR⟩: ∃ R,R=firstI (fun d=> !entB d) xs:=⟨_,rfl⟩
 rw [←hR] at HF hA
 rw [←hA]
 have HF2:=hidden HF
 obtain ⟨a,cap,rfl⟩:=hv.slice
 clear hv hR hA HF
 by_cases h0:0≤R
 ·rw [decide_eq_true h0]
  go_enter Tryz.func91,Tryz.ntmps91
  go_wp2_with (go_at_call 170;refine HF2.out.mono ?_;rintro e w1 ⟨rfl,b1⟩)
  go_ret
  exact ⟨by first|rfl|simp [h0]|(simp;omega),b1⟩
 ·rw [decide_eq_false h0]
  go_enter Tryz.func91,Tryz.ntmps91
  go_wp2_with (go_at_call 170;refine HF2.out.mono ?_;rintro e w1 ⟨rfl,b1⟩)
  go_ret
  exact ⟨by first|rfl|simp [h0]|(simp;omega),b1⟩
theorem l8Less_c (S S':Nat→Prop) (c d:EntryD) (cs ds:List Value) (w:World) (hc:shEntry.lies S w cs c) (hd:shEntry.lies S' w ds d) (hB: ∀ b,S b→b<w.heap.size) (hB': ∀ b,S' b→b<w.heap.size) (hw:bulkS c.vP≤1048576) (hw':bulkS d.vP≤1048576):
  Calls Tryz.prog 97 #[.agg cs.toArray,.agg ds.toArray] w fun e w'=>e=.returned (.bool (entLess c d))∧Below w.heap.size w w':=by
 obtain ⟨xu0,xu1,rfl,xs_n,xr0,xp0,xr1⟩:=hc
 obtain ⟨yu0,yu1,rfl,ys_n,yr0,yp0,yr1⟩:=hd
 have hb2: ∀ A R,Below w.heap.size w ((w.alloc A).alloc R):=fun A R=>((Below.refl _ _).alloc (Nat.le_refl _) _).alloc (by simp) _
 have HL:Hid (∀ w1,Below w.heap.size w w1→Calls Tryz.prog 86 #[.agg #[.int .i64 c.vA,.int .i64 c.vB,.int .i64 c.vC,xu0],.agg #[.int .i64 d.vA,.int .i64 d.vB,.int .i64 d.vC,yu0]] w1 fun e w'=>e=.returned (.bool (lessB c.vA c.vB c.vC c.vP d.vA d.vB d.vC d.vP))∧Below w1.heap.size w1 w'):=fun w1 h=>specLess_c _ _ _ xu0 c.vP _ _ _ yu0 d.vP w1 ((xr0.keep (.of h hB)).reads (fun b hb=>Nat.lt_of_lt_of_le (hB b hb) h.size)) ((yr0.keep (.of h hB')).reads (fun b hb=>Nat.lt_of_lt_of_le (hB' b hb) h.size)) hw hw'
 have E1:=hidden (entLess_ahead (c:=c) (d:=d))
 have E2:=hidden (entLess_same (c:=c) (d:=d))
 have E3:=hidden (entLess_other (c:=c) (d:=d))
 obtain ⟨R,hR⟩: ∃ R,R=entLess c d:=⟨_,rfl⟩
 obtain ⟨Q,hQ⟩: ∃ Q,Q=lessB c.vA c.vB c.vC c.vP d.vA d.vB d.vC d.vP:=⟨_,rfl⟩
 rw [←hR] at E1 E2 E3 ⊢
 rw [←hQ] at E2 HL
 obtain ⟨xa0,xc0,xe0,_⟩:=id xr0
 rw [length_strsV] at xe0
 subst xe0
 clear xr0
 obtain ⟨xa1,xc1,xe1,_⟩:=id xr1
 subst xe1
 clear xr1
 obtain ⟨ya0,yc0,ye0,_⟩:=id yr0
 rw [length_strsV] at ye0
 subst ye0
 clear yr0
 obtain ⟨ya1,yc1,ye1,_⟩:=id yr1
 subst ye1
 clear yr1
 clear hR hQ xs_n ys_n xp0 yp0 hw hw'
 by_cases he:(c.name.toList == d.name.toList)=true
 ·rw [E2.out he]
  clear E1 E2 E3
  go_enter Tryz.func97,Tryz.ntmps97
  go_wp2_with fail
  go_at_call 86
  refine (HL.out _ (hb2 _ _)).mono ?_
  rintro e w1 ⟨rfl,b1⟩
  have k1:Below w.heap.size w w1:=(hb2 _ _).trans (b1.mono (hb2 _ _).size)
  go_wp2_with fail
  go_ret
  exact ⟨by cases Q<;>rfl,k1⟩
 ·have he':(c.name.toList == d.name.toList)=false:=by simpa using he
  clear he
  rw [E3.out he']
  clear E1 E2 E3 HL
  go_enter Tryz.func97,Tryz.ntmps97
  go_wp2_with fail
  go_ret
  exact ⟨rfl,hb2 _ _⟩
end Go.Proofs.YtlfmefojcmpfeaaGreatDoor
