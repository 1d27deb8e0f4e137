/-
  Contracts for the walks and pure facts, several texts in one: each theorem says what it proves, and under which conditions.
-/
import Derived.Test.YtlfmefojcmpfeaaGreatDoorUT
import Derived.Test.YtlfmefojcmpfeaaGreatDoorU44
set_option linter.unusedSimpArgs false
set_option linter.unusedVariables false
set_option maxHeartbeats 16000000
set_option maxRecDepth 100000
namespace Go.Proofs.YtlfmefojcmpfeaaGreatDoor
open Go.RowKit
theorem szCmd_c (S:Nat→Prop) (d:CmdD) (cs:List Value) (left:Int) (h0:0≤left) (h1:left≤1048576) (w:World) (hd:shCmd.lies S w cs d) (hB: ∀ b,S b→b<w.heap.size):
  Calls Tryz.prog 263 #[.agg cs.toArray,.int .i64 left] w fun e w'=>e=.returned (.int .i64 (leftW (wtCmd d) left))∧Below w.heap.size w w':=by
 obtain ⟨u0,rfl,s_t,r0,p0⟩:=hd
 unfold maxLen at s_t
 have hbx: ∀ o,Below w.heap.size w (w.alloc o):=fun o=>(Below.refl _ _).alloc (Nat.le_refl _) _
 obtain ⟨R,hR⟩: ∃ R,R=leftW (wtCmd d) left:=⟨_,rfl⟩
 rw [←hR]
 obtain ⟨q0,hq0⟩: ∃ q,q=leftW (bulkS d.acts) (left-(d.t.size:Int)):=⟨_,rfl⟩
 have HS0:Hid (0≤(left-(d.t.size:Int))→(left-(d.t.size:Int))≤1048576→∀ w1,Below w.heap.size w w1→Calls Tryz.prog 206 #[u0,.int .i64 (left-(d.t.size:Int))] w1 fun e w'=>e=.returned (.int .i64 q0)∧w1=w'):=fun a b w1 hb=>by
  rw [hq0];exact sizeStrsM_c u0 d.acts w1 _ a b ((r0.keep (.of hb hB)).reads (fun b h=>Nat.lt_of_lt_of_le (hB b h) hb.size)) p0.1 p0.2
 obtain ⟨a0,cap0,eu0,_⟩:=id r0
 rw [length_strsV] at eu0
 subst eu0
 clear r0
 have lt:=lw (wtCmd d) left
 have l0:=lw (bulkS d.acts) (left-(d.t.size:Int))
 rw [←hq0] at l0
 rw [←hR] at lt
 unfold wtCmd at lt
 clear hq0 hR
 by_cases n0:(left-(d.t.size:Int))<0
 ·have HR:Hid (R= -1):=by show _=_;omega
  clear lt l0
  clear HS0
  go_enter Tryz.func263,Tryz.ntmps263
  go_wp2_with fail
  go_ret
  exact ⟨by rw [HR.out];rfl,(hbx _)⟩
 by_cases n1:q0<0
 ·have HR:Hid (R= -1):=by show _=_;omega
  have g0a:0≤(left-(d.t.size:Int)):=by omega
  have g0b:(left-(d.t.size:Int))≤1048576:=by omega
  have HC0:=HS0.out g0a g0b
  have HD0:=hidden HC0
  clear HC0
  clear lt l0
  clear HS0
  go_enter Tryz.func263,Tryz.ntmps263
  go_wp2_with fail
  go_at_call 206
  refine (HD0.out _ (hbx _)).mono ?_
  rintro e w' ⟨rfl,rfl⟩
  go_wp2_with fail
  go_ret
  exact ⟨by rw [HR.out];rfl,(hbx _)⟩
 have HR:Hid (R=q0):=by show _=_;omega
 have g0a:0≤(left-(d.t.size:Int)):=by omega
 have g0b:(left-(d.t.size:Int))≤1048576:=by omega
 have HC0:=HS0.out g0a g0b
 have HD0:=hidden HC0
 clear HC0
 clear lt l0
 clear HS0
 go_enter Tryz.func263,Tryz.ntmps263
 go_wp2_with fail
 go_at_call 206
 refine (HD0.out _ (hbx _)).mono ?_
 rintro e w' ⟨rfl,rfl⟩
 go_wp2_with fail
 go_ret
 exact ⟨by rw [HR.out];rfl,(hbx _)⟩
theorem szCmdS_c (S:Nat→Prop) (v:Value) (xs:List CmdD) (left:Int) (h0:0≤left) (h1:left≤1048576) (w:World) (hv:RowIn shCmd S w v xs) (hB: ∀ b,S b→b<w.heap.size):
  Calls Tryz.prog 207 #[v,.int .i64 left] w fun e w'=>e=.returned (.int .i64 (leftW (wtRow wtCmd xs) left))∧Below w.heap.size w w':=by
 obtain ⟨a,cap,rfl,hl,hc,ha⟩:=hv
 unfold maxLen at hl
 by_cases hneg:left-(xs.length:Int)<0
 ·have e:leftW (wtRow wtCmd xs) left= -1:=leftW_bad (by have:=len_wtRow wtCmd xs;omega)
  rw [e]
  clear ha
  go_enter Tryz.func207,Tryz.ntmps207
  go_wp2_with fail
  go_ret
  exact ⟨rfl,Below.refl _ _⟩
 ·go_enter Tryz.func207,Tryz.ntmps207
  go_wp2_with fail
  go_loopw [1,5] (fun vl vi wr=>∃ (k:Nat) (q:Int),k≤xs.length∧vi=.int .i64 (k:Int)∧vl=.int .i64 q∧0≤q∧q≤1048576∧Hid (q=left-(xs.length:Int)-(wtRow wtCmd (xs.take k):Int)+(k:Int))∧Below w.heap.size w wr) (fun _ vi _=>xs.length-(intOf vi).toNat)
  case atStart=>exact ⟨0,_,Nat.zero_le _,rfl,rfl,by omega,by omega,by show _=_;simp [wtRow],Below.refl _ _⟩
  case round=>
   obtain ⟨k,q,hk,rfl,rfl,hq0,hq1,hq,hbr⟩:=hrel
   by_cases hlt':k<xs.length
   ·rcases ha with rfl|⟨b,off,rfl,hlt,ha⟩
    ·simp at hlt'
    obtain ⟨cs,hL,hcell⟩:=ha k hlt'
    have hL2:=shCmd.keep (.of hbr hB) hL
    have hcell2:=hcell.keep (.of hbr hB) hlt
    have hBr: ∀ b,S b→b<wr.heap.size:=fun b h=>Nat.lt_of_lt_of_le (hB b h) hbr.size
    have hwt:=wtRow_take wtCmd xs k hlt'
    have hsp:=wtRow_split wtCmd xs (k+1)
    have hln:=len_wtRow wtCmd (xs.drop (k+1))
    have hdl:(xs.drop (k+1)).length=xs.length-(k+1):=by simp
    obtain ⟨d,hd⟩: ∃ d,d=xs[k]:=⟨_,rfl⟩
    rw [←hd] at hL2 hwt
    have HW:Hid (wtRow wtCmd (xs.take (k+1))=wtRow wtCmd (xs.take k)+(1+wtCmd d)):=hwt
    have HSP:Hid (wtRow wtCmd xs=wtRow wtCmd (xs.take (k+1))+wtRow wtCmd (xs.drop (k+1))∧xs.length-(k+1)≤wtRow wtCmd (xs.drop (k+1))):=⟨hsp,by omega⟩
    have hki:(k:Int)<(xs.length:Int):=by omega
    obtain ⟨p,hp⟩: ∃ p,p=leftW (wtCmd d) q:=⟨_,rfl⟩
    have HP:Hid (p=leftW (wtCmd d) q):=hp
    have HC:=szCmd_c S d cs q hq0 hq1 wr hL2 hBr
    rw [←hp] at HC
    clear hL hcell ha hwt hd hp hsp hln hdl
    obtain ⟨u0,rfl,s_t,r0,p0⟩:=hL2
    clear s_t p0
    obtain ⟨a0,cap0,eu0,_⟩:=id r0
    rw [length_strsV] at eu0
    subst eu0
    clear r0
    have e0:wr.cell? ⟨b,off+k*2,none⟩=some (.string d.t):=hcell2 0 (by simp)
    have e1:wr.cell? ⟨b,off+k*2+1,none⟩=some (.slice a0 d.acts.length cap0):=hcell2 1 (by simp)
    have HC2:=hidden HC
    clear hcell2 HC
    by_cases hpn:p<0
    ·go_wp2_with (go_at_call 263;refine HC2.out.mono ?_;rintro e w1 ⟨rfl,hb1⟩)
     go_ret
     have e:leftW (wtRow wtCmd xs) left= -1:=by
      have h2:=HP.out;have h3:=hq.out;have h4:=HW.out;have h5:=HSP.out
      refine leftW_bad ?_
      by_cases h6:((wtCmd d:Nat):Int)≤q
      ·rw [leftW_good h6] at h2;omega
      ·omega
     exact ⟨by rw [e];rfl,hbr.trans (hb1.mono hbr.size)⟩
    ·go_wp2_with (go_at_call 263;refine HC2.out.mono ?_;rintro e w1 ⟨rfl,hb1⟩)
     go_roundw
     case rel=>
      have h2:=HP.out;have h3:=hq.out;have h4:=HW.out
      have h6:((wtCmd d:Nat):Int)≤q:=by
       by_cases h6:((wtCmd d:Nat):Int)≤q
       ·exact h6
       ·rw [leftW_bad (by omega)] at h2;omega
      rw [leftW_good h6] at h2
      exact ⟨k+1,p,by omega,by go_num,rfl,by omega,by omega,(by show _=_;omega),hbr.trans (hb1.mono hbr.size)⟩
     case measure=>simp [intOf];omega
   ·have he:k=xs.length:=by omega
    subst he
    clear ha
    go_wp2_with fail
    go_ret
    have e:leftW (wtRow wtCmd xs) left=q:=by
     have h3:=hq.out
     rw [List.take_length] at h3
     rw [leftW_good (by omega)];omega
    exact ⟨by rw [e];rfl,hbr⟩
theorem szPack_c (S:Nat→Prop) (d:PackD) (cs:List Value) (left:Int) (h0:0≤left) (h1:left≤1048576) (w:World) (hd:shPack.lies S w cs d) (hB: ∀ b,S b→b<w.heap.size):
  Calls Tryz.prog 144 #[.agg cs.toArray,.int .i64 left] w fun e w'=>e=.returned (.int .i64 (leftW (wtPack d) left))∧Below w.heap.size w w':=by
 obtain ⟨u0,u1,u2,rfl,s_name,r0,p0,r1,r2⟩:=hd
 unfold maxLen at s_name
 have hbx: ∀ o,Below w.heap.size w (w.alloc o):=fun o=>(Below.refl _ _).alloc (Nat.le_refl _) _
 obtain ⟨R,hR⟩: ∃ R,R=leftW (wtPack d) left:=⟨_,rfl⟩
 rw [←hR]
 obtain ⟨q0,hq0⟩: ∃ q,q=leftW (bulkS d.uses) (left-(d.name.size:Int)):=⟨_,rfl⟩
 obtain ⟨q1,hq1⟩: ∃ q,q=leftW (wtRow wtNeed d.needs) q0:=⟨_,rfl⟩
 obtain ⟨q2,hq2⟩: ∃ q,q=leftW (wtRow wtCmd d.cmds) q1:=⟨_,rfl⟩
 have HS0:Hid (0≤(left-(d.name.size:Int))→(left-(d.name.size:Int))≤1048576→∀ w1,Below w.heap.size w w1→Calls Tryz.prog 206 #[u0,.int .i64 (left-(d.name.size:Int))] w1 fun e w'=>e=.returned (.int .i64 q0)∧w1=w'):=fun a b w1 hb=>by
  rw [hq0];exact sizeStrsM_c u0 d.uses w1 _ a b ((r0.keep (.of hb hB)).reads (fun b h=>Nat.lt_of_lt_of_le (hB b h) hb.size)) p0.1 p0.2
 obtain ⟨a0,cap0,eu0,_⟩:=id r0
 rw [length_strsV] at eu0
 have HS1:Hid (0≤q0→q0≤1048576→∀ w1,Below w.heap.size w w1→Calls Tryz.prog 56 #[u1,.int .i64 q0] w1 fun e w'=>e=.returned (.int .i64 q1)∧Below w1.heap.size w1 w'):=fun a b w1 hb=>by
  rw [hq1];exact szNeedS_c S u1 d.needs _ a b w1 (r1.keep (.of hb hB)) (fun b h=>Nat.lt_of_lt_of_le (hB b h) hb.size)
 obtain ⟨a1,cap1,eu1,_⟩:=id r1
 have HS2:Hid (0≤q1→q1≤1048576→∀ w1,Below w.heap.size w w1→Calls Tryz.prog 207 #[u2,.int .i64 q1] w1 fun e w'=>e=.returned (.int .i64 q2)∧Below w1.heap.size w1 w'):=fun a b w1 hb=>by
  rw [hq2];exact szCmdS_c S u2 d.cmds _ a b w1 (r2.keep (.of hb hB)) (fun b h=>Nat.lt_of_lt_of_le (hB b h) hb.size)
 obtain ⟨a2,cap2,eu2,_⟩:=id r2
 subst eu0
 clear r0
 subst eu1
 clear r1
 subst eu2
 clear r2
 have lt:=lw (wtPack d) left
 have l0:=lw (bulkS d.uses) (left-(d.name.size:Int))
 rw [←hq0] at l0
 have l1:=lw (wtRow wtNeed d.needs) q0
 rw [←hq1] at l1
 have l2:=lw (wtRow wtCmd d.cmds) q1
 rw [←hq2] at l2
 rw [←hR] at lt
 unfold wtPack at lt
 clear hq0 hq1 hq2 hR
 by_cases n0:(left-(d.name.size:Int))<0
 ·have HR:Hid (R= -1):=by show _=_;omega
  clear lt l0 l1 l2
  clear HS0
  clear HS1
  clear HS2
  go_enter Tryz.func144,Tryz.ntmps144
  go_wp2_with fail
  go_ret
  exact ⟨by rw [HR.out];rfl,(hbx _)⟩
 by_cases n1:q0<0
 ·have HR:Hid (R= -1):=by show _=_;omega
  have g0a:0≤(left-(d.name.size:Int)):=by omega
  have g0b:(left-(d.name.size:Int))≤1048576:=by omega
  have HC0:=HS0.out g0a g0b
  have HD0:=hidden HC0
  clear HC0
  clear lt l0 l1 l2
  clear HS0
  clear HS1
  clear HS2
  go_enter Tryz.func144,Tryz.ntmps144
  go_wp2_with fail
  go_at_call 206
  refine (HD0.out _ (hbx _)).mono ?_
  rintro e w' ⟨rfl,rfl⟩
  go_wp2_with fail
  go_ret
  exact ⟨by rw [HR.out];rfl,(hbx _)⟩
 by_cases n2:q1<0
 ·have HR:Hid (R= -1):=by show _=_;omega
  have g0a:0≤(left-(d.name.size:Int)):=by omega
  have g0b:(left-(d.name.size:Int))≤1048576:=by omega
  have g1a:0≤q0:=by omega
  have g1b:q0≤1048576:=by omega
  have HC0:=HS0.out g0a g0b
  have HD0:=hidden HC0
  clear HC0
  have HC1:=HS1.out g1a g1b
  have HD1:=hidden HC1
  clear HC1
  clear lt l0 l1 l2
  clear HS0
  clear HS1
  clear HS2
  go_enter Tryz.func144,Tryz.ntmps144
  go_wp2_with fail
  go_at_call 206
  refine (HD0.out _ (hbx _)).mono ?_
  rintro e w' ⟨rfl,rfl⟩
  go_wp2_with fail
  go_at_call 56
  refine (HD1.out _ (hbx _)).mono ?_
  rintro e w2 ⟨rfl,b2⟩
  have k2:Below w.heap.size w w2:=((hbx _)).trans (b2.mono (by first|exact ((hbx _)).size|(simp;omega)))
  have hx2:=boxAt b2
  have x0:=vblk_cell hx2 0
  have x1:=vblk_cell hx2 1
  have x2:=vblk_cell hx2 2
  have x3:=vblk_cell hx2 3
  simp only [List.getElem?_toArray,List.getElem?_cons_succ,List.getElem?_cons_zero] at x0 x1 x2 x3
  go_wp2_with fail
  go_ret
  exact ⟨by rw [HR.out];rfl,k2⟩
 by_cases n3:q2<0
 ·have HR:Hid (R= -1):=by show _=_;omega
  have g0a:0≤(left-(d.name.size:Int)):=by omega
  have g0b:(left-(d.name.size:Int))≤1048576:=by omega
  have g1a:0≤q0:=by omega
  have g1b:q0≤1048576:=by omega
  have g2a:0≤q1:=by omega
  have g2b:q1≤1048576:=by omega
  have HC0:=HS0.out g0a g0b
  have HD0:=hidden HC0
  clear HC0
  have HC1:=HS1.out g1a g1b
  have HD1:=hidden HC1
  clear HC1
  have HC2:=HS2.out g2a g2b
  have HD2:=hidden HC2
  clear HC2
  clear lt l0 l1 l2
  clear HS0
  clear HS1
  clear HS2
  go_enter Tryz.func144,Tryz.ntmps144
  go_wp2_with fail
  go_at_call 206
  refine (HD0.out _ (hbx _)).mono ?_
  rintro e w' ⟨rfl,rfl⟩
  go_wp2_with fail
  go_at_call 56
  refine (HD1.out _ (hbx _)).mono ?_
  rintro e w2 ⟨rfl,b2⟩
  have k2:Below w.heap.size w w2:=((hbx _)).trans (b2.mono (by first|exact ((hbx _)).size|(simp;omega)))
  have hx2:=boxAt b2
  have x0:=vblk_cell hx2 0
  have x1:=vblk_cell hx2 1
  have x2:=vblk_cell hx2 2
  have x3:=vblk_cell hx2 3
  simp only [List.getElem?_toArray,List.getElem?_cons_succ,List.getElem?_cons_zero] at x0 x1 x2 x3
  go_wp2_with fail
  go_at_call 207
  refine (HD2.out _ k2).mono ?_
  rintro e w3 ⟨rfl,b3⟩
  have k3:Below w.heap.size w w3:=(k2).trans (b3.mono (by first|exact (k2).size|(simp;omega)))
  have hx3:=(b3.block _ (Array.getElem?_eq_some_iff.1 hx2).1).trans hx2
  have x0:=vblk_cell hx3 0
  have x1:=vblk_cell hx3 1
  have x2:=vblk_cell hx3 2
  have x3:=vblk_cell hx3 3
  simp only [List.getElem?_toArray,List.getElem?_cons_succ,List.getElem?_cons_zero] at x0 x1 x2 x3
  go_wp2_with fail
  go_ret
  exact ⟨by rw [HR.out];rfl,k3⟩
 have HR:Hid (R=q2):=by show _=_;omega
 have g0a:0≤(left-(d.name.size:Int)):=by omega
 have g0b:(left-(d.name.size:Int))≤1048576:=by omega
 have g1a:0≤q0:=by omega
 have g1b:q0≤1048576:=by omega
 have g2a:0≤q1:=by omega
 have g2b:q1≤1048576:=by omega
 have HC0:=HS0.out g0a g0b
 have HD0:=hidden HC0
 clear HC0
 have HC1:=HS1.out g1a g1b
 have HD1:=hidden HC1
 clear HC1
 have HC2:=HS2.out g2a g2b
 have HD2:=hidden HC2
 clear HC2
 clear lt l0 l1 l2
 clear HS0
 clear HS1
 clear HS2
 go_enter Tryz.func144,Tryz.ntmps144
 go_wp2_with fail
 go_at_call 206
 refine (HD0.out _ (hbx _)).mono ?_
 rintro e w' ⟨rfl,rfl⟩
 go_wp2_with fail
 go_at_call 56
 refine (HD1.out _ (hbx _)).mono ?_
 rintro e w2 ⟨rfl,b2⟩
 have k2:Below w.heap.size w w2:=((hbx _)).trans (b2.mono (by first|exact ((hbx _)).size|(simp;omega)))
 have hx2:=boxAt b2
 have x0:=vblk_cell hx2 0
 have x1:=vblk_cell hx2 1
 have x2:=vblk_cell hx2 2
 have x3:=vblk_cell hx2 3
 simp only [List.getElem?_toArray,List.getElem?_cons_succ,List.getElem?_cons_zero] at x0 x1 x2 x3
 go_wp2_with fail
 go_at_call 207
 refine (HD2.out _ k2).mono ?_
 rintro e w3 ⟨rfl,b3⟩
 have k3:Below w.heap.size w w3:=(k2).trans (b3.mono (by first|exact (k2).size|(simp;omega)))
 have hx3:=(b3.block _ (Array.getElem?_eq_some_iff.1 hx2).1).trans hx2
 have x0:=vblk_cell hx3 0
 have x1:=vblk_cell hx3 1
 have x2:=vblk_cell hx3 2
 have x3:=vblk_cell hx3 3
 simp only [List.getElem?_toArray,List.getElem?_cons_succ,List.getElem?_cons_zero] at x0 x1 x2 x3
 go_wp2_with fail
 go_ret
 exact ⟨by rw [HR.out];rfl,k3⟩
theorem szPackS_c (S:Nat→Prop) (v:Value) (xs:List PackD) (left:Int) (h0:0≤left) (h1:left≤1048576) (w:World) (hv:RowIn shPack S w v xs) (hB: ∀ b,S b→b<w.heap.size):
  Calls Tryz.prog 66 #[v,.int .i64 left] w fun e w'=>e=.returned (.int .i64 (leftW (wtRow wtPack xs) left))∧Below w.heap.size w w':=by
 obtain ⟨a,cap,rfl,hl,hc,ha⟩:=hv
 unfold maxLen at hl
 by_cases hneg:left-(xs.length:Int)<0
 ·have e:leftW (wtRow wtPack xs) left= -1:=leftW_bad (by have:=len_wtRow wtPack xs;omega)
  rw [e]
  clear ha
  go_enter Tryz.func66,Tryz.ntmps66
  go_wp2_with fail
  go_ret
  exact ⟨rfl,Below.refl _ _⟩
 ·go_enter Tryz.func66,Tryz.ntmps66
  go_wp2_with fail
  go_loopw [1,5] (fun vl vi wr=>∃ (k:Nat) (q:Int),k≤xs.length∧vi=.int .i64 (k:Int)∧vl=.int .i64 q∧0≤q∧q≤1048576∧Hid (q=left-(xs.length:Int)-(wtRow wtPack (xs.take k):Int)+(k:Int))∧Below w.heap.size w wr) (fun _ vi _=>xs.length-(intOf vi).toNat)
  case atStart=>exact ⟨0,_,Nat.zero_le _,rfl,rfl,by omega,by omega,by show _=_;simp [wtRow],Below.refl _ _⟩
  case round=>
   obtain ⟨k,q,hk,rfl,rfl,hq0,hq1,hq,hbr⟩:=hrel
   by_cases hlt':k<xs.length
   ·rcases ha with rfl|⟨b,off,rfl,hlt,ha⟩
    ·simp at hlt'
    obtain ⟨cs,hL,hcell⟩:=ha k hlt'
    have hL2:=shPack.keep (.of hbr hB) hL
    have hcell2:=hcell.keep (.of hbr hB) hlt
    have hBr: ∀ b,S b→b<wr.heap.size:=fun b h=>Nat.lt_of_lt_of_le (hB b h) hbr.size
    have hwt:=wtRow_take wtPack xs k hlt'
    have hsp:=wtRow_split wtPack xs (k+1)
    have hln:=len_wtRow wtPack (xs.drop (k+1))
    have hdl:(xs.drop (k+1)).length=xs.length-(k+1):=by simp
    obtain ⟨d,hd⟩: ∃ d,d=xs[k]:=⟨_,rfl⟩
    rw [←hd] at hL2 hwt
    have HW:Hid (wtRow wtPack (xs.take (k+1))=wtRow wtPack (xs.take k)+(1+wtPack d)):=hwt
    have HSP:Hid (wtRow wtPack xs=wtRow wtPack (xs.take (k+1))+wtRow wtPack (xs.drop (k+1))∧xs.length-(k+1)≤wtRow wtPack (xs.drop (k+1))):=⟨hsp,by omega⟩
    have hki:(k:Int)<(xs.length:Int):=by omega
    obtain ⟨p,hp⟩: ∃ p,p=leftW (wtPack d) q:=⟨_,rfl⟩
    have HP:Hid (p=leftW (wtPack d) q):=hp
    have HC:=szPack_c S d cs q hq0 hq1 wr hL2 hBr
    rw [←hp] at HC
    clear hL hcell ha hwt hd hp hsp hln hdl
    obtain ⟨u0,u1,u2,rfl,s_name,r0,p0,r1,r2⟩:=hL2
    clear s_name p0
    obtain ⟨a0,cap0,eu0,_⟩:=id r0
    rw [length_strsV] at eu0
    subst eu0
    clear r0
    obtain ⟨a1,cap1,eu1,_⟩:=id r1
    subst eu1
    clear r1
    obtain ⟨a2,cap2,eu2,_⟩:=id r2
    subst eu2
    clear r2
    have e0:wr.cell? ⟨b,off+k*4,none⟩=some (.string d.name):=hcell2 0 (by simp)
    have e1:wr.cell? ⟨b,off+k*4+1,none⟩=some (.slice a0 d.uses.length cap0):=hcell2 1 (by simp)
    have e2:wr.cell? ⟨b,off+k*4+2,none⟩=some (.slice a1 d.needs.length cap1):=hcell2 2 (by simp)
    have e3:wr.cell? ⟨b,off+k*4+3,none⟩=some (.slice a2 d.cmds.length cap2):=hcell2 3 (by simp)
    have HC2:=hidden HC
    clear hcell2 HC
    by_cases hpn:p<0
    ·go_wp2_with (go_at_call 144;refine HC2.out.mono ?_;rintro e w1 ⟨rfl,hb1⟩)
     go_ret
     have e:leftW (wtRow wtPack xs) left= -1:=by
      have h2:=HP.out;have h3:=hq.out;have h4:=HW.out;have h5:=HSP.out
      refine leftW_bad ?_
      by_cases h6:((wtPack d:Nat):Int)≤q
      ·rw [leftW_good h6] at h2;omega
      ·omega
     exact ⟨by rw [e];rfl,hbr.trans (hb1.mono hbr.size)⟩
    ·go_wp2_with (go_at_call 144;refine HC2.out.mono ?_;rintro e w1 ⟨rfl,hb1⟩)
     go_roundw
     case rel=>
      have h2:=HP.out;have h3:=hq.out;have h4:=HW.out
      have h6:((wtPack d:Nat):Int)≤q:=by
       by_cases h6:((wtPack d:Nat):Int)≤q
       ·exact h6
       ·rw [leftW_bad (by omega)] at h2;omega
      rw [leftW_good h6] at h2
      exact ⟨k+1,p,by omega,by go_num,rfl,by omega,by omega,(by show _=_;omega),hbr.trans (hb1.mono hbr.size)⟩
     case measure=>simp [intOf];omega
   ·have he:k=xs.length:=by omega
    subst he
    clear ha
    go_wp2_with fail
    go_ret
    have e:leftW (wtRow wtPack xs) left=q:=by
     have h3:=hq.out
     rw [List.take_length] at h3
     rw [leftW_good (by omega)];omega
    exact ⟨by rw [e];rfl,hbr⟩
theorem eqPack_c (S S':Nat→Prop) (d:PackD) (cs cs':List Value) (w:World) (hd:shPack.lies S w cs d) (hd':shPack.lies S' w cs' d) (hB: ∀ b,S b→b<w.heap.size) (hB': ∀ b,S' b→b<w.heap.size) (hw:wtPack d≤1048576):
  Calls Tryz.prog 146 #[.agg cs.toArray,.agg cs'.toArray] w fun e w'=>e=.returned (.bool true)∧Below w.heap.size w w':=by
 obtain ⟨xu0,xu1,xu2,rfl,xs_name,xr0,xp0,xr1,xr2⟩:=hd
 obtain ⟨yu0,yu1,yu2,rfl,ys_name,yr0,yp0,yr1,yr2⟩:=hd'
 have hb2: ∀ A R,Below w.heap.size w ((w.alloc A).alloc R):=fun A R=>((Below.refl _ _).alloc (Nat.le_refl _) _).alloc (by simp) _
 unfold wtPack at hw
 have HS0:Hid (∀ w1,Below w.heap.size w w1→Calls Tryz.prog 210 #[xu0,yu0] w1 fun e w'=>e=.returned (.bool true)∧Below w1.heap.size w1 w'):=fun w1 hb=>by
  have:=eqStrs_c xu0 yu0 d.uses d.uses w1 ((xr0.keep (.of hb hB)).reads (fun b h=>Nat.lt_of_lt_of_le (hB b h) hb.size)) ((yr0.keep (.of hb hB')).reads (fun b h=>Nat.lt_of_lt_of_le (hB' b h) hb.size)) (by unfold bulkS at hw;omega)
  rwa [decide_eq_true rfl] at this
 have HS1:Hid (∀ w1,Below w.heap.size w w1→Calls Tryz.prog 61 #[xu1,yu1] w1 fun e w'=>e=.returned (.bool true)∧Below w1.heap.size w1 w'):=fun w1 hb=>
  eqNeedS_c S S' xu1 yu1 d.needs w1 (xr1.keep (.of hb hB)) (yr1.keep (.of hb hB')) (fun b h=>Nat.lt_of_lt_of_le (hB b h) hb.size) (fun b h=>Nat.lt_of_lt_of_le (hB' b h) hb.size) (by omega)
 have HS2:Hid (∀ w1,Below w.heap.size w w1→Calls Tryz.prog 211 #[xu2,yu2] w1 fun e w'=>e=.returned (.bool true)∧Below w1.heap.size w1 w'):=fun w1 hb=>
  eqCmdS_c S S' xu2 yu2 d.cmds w1 (xr2.keep (.of hb hB)) (yr2.keep (.of hb hB')) (fun b h=>Nat.lt_of_lt_of_le (hB b h) hb.size) (fun b h=>Nat.lt_of_lt_of_le (hB' b h) hb.size) (by omega)
 obtain ⟨xa0,xc0,xe0,_⟩:=id xr0
 rw [length_strsV] at xe0
 subst xe0
 clear xr0
 obtain ⟨ya0,yc0,ye0,_⟩:=id yr0
 rw [length_strsV] at ye0
 subst ye0
 clear yr0
 obtain ⟨xa1,xc1,xe1,_⟩:=id xr1
 subst xe1
 clear xr1
 obtain ⟨ya1,yc1,ye1,_⟩:=id yr1
 subst ye1
 clear yr1
 obtain ⟨xa2,xc2,xe2,_⟩:=id xr2
 subst xe2
 clear xr2
 obtain ⟨ya2,yc2,ye2,_⟩:=id yr2
 subst ye2
 clear yr2
 go_enter Tryz.func146,Tryz.ntmps146
 go_wp2_with fail
 go_at_call 210
 refine (HS0.out _ (hb2 _ _)).mono ?_
 rintro e w1 ⟨rfl,b1⟩
 obtain ⟨hA1,hR1⟩:=boxTwo b1
 have k1:Below w.heap.size w w1:=(hb2 _ _).trans (b1.mono (hb2 _ _).size)
 have o0:=vblk_cell hA1 0
 have q0:=vblk_cell hR1 0
 have o1:=vblk_cell hA1 1
 have q1:=vblk_cell hR1 1
 have o2:=vblk_cell hA1 2
 have q2:=vblk_cell hR1 2
 have o3:=vblk_cell hA1 3
 have q3:=vblk_cell hR1 3
 simp only [List.getElem?_toArray,List.getElem?_cons_succ,List.getElem?_cons_zero] at o0 q0 o1 q1 o2 q2 o3 q3
 go_wp2_with fail
 go_at_call 61
 refine (HS1.out _ k1).mono ?_
 rintro e w2 ⟨rfl,b2⟩
 have hA2:=(b2.block _ (Array.getElem?_eq_some_iff.1 hA1).1).trans hA1
 have hR2:=(b2.block _ (Array.getElem?_eq_some_iff.1 hR1).1).trans hR1
 have k2:=k1.trans (b2.mono k1.size)
 have o0:=vblk_cell hA2 0
 have q0:=vblk_cell hR2 0
 have o1:=vblk_cell hA2 1
 have q1:=vblk_cell hR2 1
 have o2:=vblk_cell hA2 2
 have q2:=vblk_cell hR2 2
 have o3:=vblk_cell hA2 3
 have q3:=vblk_cell hR2 3
 simp only [List.getElem?_toArray,List.getElem?_cons_succ,List.getElem?_cons_zero] at o0 q0 o1 q1 o2 q2 o3 q3
 go_wp2_with fail
 go_at_call 211
 refine (HS2.out _ k2).mono ?_
 rintro e w3 ⟨rfl,b3⟩
 have hA3:=(b3.block _ (Array.getElem?_eq_some_iff.1 hA2).1).trans hA2
 have hR3:=(b3.block _ (Array.getElem?_eq_some_iff.1 hR2).1).trans hR2
 have k3:=k2.trans (b3.mono k2.size)
 go_wp2_with fail
 go_ret
 exact ⟨rfl,k3⟩
theorem eqPackS_c (S S':Nat→Prop) (v u:Value) (xs:List PackD) (w:World) (hv:RowIn shPack S w v xs) (hv':RowIn shPack S' w u xs) (hB: ∀ b,S b→b<w.heap.size) (hB': ∀ b,S' b→b<w.heap.size) (hw:wtRow wtPack xs≤1048576):
  Calls Tryz.prog 68 #[v,u] w fun e w'=>e=.returned (.bool true)∧Below w.heap.size w w':=by
 obtain ⟨a,cap,rfl,hl,hc,ha⟩:=hv
 obtain ⟨a',cap',rfl,_,hc',ha'⟩:=hv'
 unfold maxLen at hl
 go_enter Tryz.func68,Tryz.ntmps68
 go_wp2_with fail
 go_loopw [5] (fun vi wr=>∃ k:Nat,k≤xs.length∧vi=.int .i64 (k:Int)∧Below w.heap.size w wr) (fun vi _=>xs.length-(intOf vi).toNat)
 case atStart=>exact ⟨0,Nat.zero_le _,rfl,Below.refl _ _⟩
 case round=>
  obtain ⟨k,hk,rfl,hbr⟩:=hrel
  by_cases hlt':k<xs.length
  ·rcases ha with rfl|⟨b,off,rfl,hlt,ha⟩
   ·simp at hlt'
   rcases ha' with rfl|⟨b',off',rfl,hlt3,ha'⟩
   ·simp at hlt'
   obtain ⟨cs,hL,hcell⟩:=ha k hlt'
   obtain ⟨cs',hL',hcell'⟩:=ha' k hlt'
   have hwt:wtPack xs[k]≤1048576:=by have:=wt_wtRow wtPack (List.getElem_mem hlt');omega
   have HC:=eqPack_c S S' xs[k] cs cs' wr.drew (shPack.keep (.of hbr.drew hB) hL) (shPack.keep (.of hbr.drew hB') hL') (fun b h=>Nat.lt_of_lt_of_le (hB b h) hbr.size) (fun b h=>Nat.lt_of_lt_of_le (hB' b h) hbr.size) hwt
   replace hL:=shPack.keep (.of hbr hB) hL
   replace hL':=shPack.keep (.of hbr hB') hL'
   replace hcell:=hcell.keep (.of hbr hB) hlt
   replace hcell':=hcell'.keep (.of hbr hB') hlt3
   obtain ⟨d,hd⟩: ∃ d,d=xs[k]:=⟨_,rfl⟩
   rw [←hd] at hL hL' hwt
   clear ha ha' hd
   obtain ⟨xu0,xu1,xu2,rfl,xs_name,xr0,xp0,xr1,xr2⟩:=hL
   obtain ⟨yu0,yu1,yu2,rfl,ys_name,yr0,yp0,yr1,yr2⟩:=hL'
   clear xs_name xp0 ys_name yp0
   obtain ⟨xa0,xc0,xe0,_⟩:=id xr0
   rw [length_strsV] at xe0
   subst xe0
   clear xr0
   obtain ⟨xa1,xc1,xe1,_⟩:=id xr1
   subst xe1
   clear xr1
   obtain ⟨xa2,xc2,xe2,_⟩:=id xr2
   subst xe2
   clear xr2
   have xv0:wr.cell? ⟨b,off+k*4,none⟩=some (.string d.name):=hcell 0 (by simp)
   have xv1:wr.cell? ⟨b,off+k*4+1,none⟩=some (.slice xa0 d.uses.length xc0):=hcell 1 (by simp)
   have xv2:wr.cell? ⟨b,off+k*4+2,none⟩=some (.slice xa1 d.needs.length xc1):=hcell 2 (by simp)
   have xv3:wr.cell? ⟨b,off+k*4+3,none⟩=some (.slice xa2 d.cmds.length xc2):=hcell 3 (by simp)
   obtain ⟨ya0,yc0,ye0,_⟩:=id yr0
   rw [length_strsV] at ye0
   subst ye0
   clear yr0
   obtain ⟨ya1,yc1,ye1,_⟩:=id yr1
   subst ye1
   clear yr1
   obtain ⟨ya2,yc2,ye2,_⟩:=id yr2
   subst ye2
   clear yr2
   have yv0:wr.cell? ⟨b',off'+k*4,none⟩=some (.string d.name):=hcell' 0 (by simp)
   have yv1:wr.cell? ⟨b',off'+k*4+1,none⟩=some (.slice ya0 d.uses.length yc0):=hcell' 1 (by simp)
   have yv2:wr.cell? ⟨b',off'+k*4+2,none⟩=some (.slice ya1 d.needs.length yc1):=hcell' 2 (by simp)
   have yv3:wr.cell? ⟨b',off'+k*4+3,none⟩=some (.slice ya2 d.cmds.length yc2):=hcell' 3 (by simp)
   have HC2:=hidden HC
   have hki:(k:Int)<(xs.length:Int):=by omega
   clear hcell hcell' HC hwt
   go_wp2_with fail
   go_region_with (go_at_call 146;refine HC2.out.mono ?_;rintro e w2 ⟨rfl,hb2⟩)
   all_goals go_wp2_with fail
   all_goals go_roundw
   all_goals first
    |exact ⟨k+1,by omega,by go_num,hbr.drew.trans (hb2.mono hbr.size)⟩
    |(simp [intOf];omega)
  ·have he:k=xs.length:=by omega
   subst he
   clear ha ha'
   go_wp2_with fail
   go_ret
   exact ⟨rfl,hbr⟩
def NeedR (lo hi:Nat) (W:World) (u:Value) (ns:List NeedD):Prop:=RowOwn shNeed 39 (Ow lo hi) W u ns∧hi≤W.heap.size
theorem NeedR.chg {lo hi:Nat} {W W':World} {u:Value} {ns:List NeedD} {S:Nat→Prop} (h:NeedR lo hi W u ns) (k:Chg S W W') (n: ∀ b,Ow lo hi b→¬S b):NeedR lo hi W' u ns:=
 ⟨h.1.keep (fun b hb=>k.block b (Nat.lt_of_lt_of_le hb.2 h.2) (n b hb)),Nat.le_trans h.2 k.size⟩
theorem NeedR.below {lo hi:Nat} {W W':World} {u:Value} {ns:List NeedD} (h:NeedR lo hi W u ns) (k:Below W.heap.size W W'):NeedR lo hi W' u ns:=h.chg (Chg.of (S:=fun _=>False) k) (fun _ _=>id)
theorem need_sizes {xs:List PackD} (hw:wtRow wtPack xs≤1048576):(allN xs).length≤maxLen∧(∀ d∈allN xs,d.n.size≤maxLen∧d.r.size≤maxLen)∧wtRow wtNeed (allN xs)≤1048576:=by
 have h1:=allN_wt xs
 have h2:=len_wtRow wtNeed (allN xs)
 refine ⟨by unfold maxLen;omega,fun d hd=>?_,by omega⟩
 have h3:d.n.size+d.r.size≤wtRow wtNeed (allN xs):=wt_wtRow wtNeed hd
 unfold maxLen
 omega
end Go.Proofs.YtlfmefojcmpfeaaGreatDoor
