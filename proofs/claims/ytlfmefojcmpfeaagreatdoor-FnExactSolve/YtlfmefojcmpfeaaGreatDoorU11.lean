/-
  Contracts for the walks and pure facts, several texts in one: each theorem says what it proves, and under which conditions.
-/
import Derived.Test.YtlfmefojcmpfeaaGreatDoorUT
import Derived.Test.YtlfmefojcmpfeaaGreatDoorU10
set_option linter.unusedSimpArgs false
set_option linter.unusedVariables false
set_option maxHeartbeats 16000000
set_option maxRecDepth 100000
namespace Go.Proofs.YtlfmefojcmpfeaaGreatDoor
open Go.RowKit
theorem mk_ge (lo:Nat) (a b c:Int) (u:Value) (ps:List ByteArray) (t:Int) (ok:Bool) (w:World) (hlo:lo≤w.heap.size) (hnum:numsOk a b c) (ht:t=1∨t=2∨t=3) (hu:w.ownsRow lo 9 1 u ps.length (strsV ps)):
    Calls Tryz.prog 284 #[.string ⟨#[62,61]⟩,.agg #[.int .i64 a,.int .i64 b,.int .i64 c,u,.int .i64 t,.bool ok]] w fun e w'=>∃ v,e=.returned v∧CmpsOwn lo w' v (makeC 4 a b c ps t)∧Below w.heap.size w w':=by
  obtain ⟨q,n,cap,hq⟩: ∃ q n cap,u=.slice q n cap:=by rcases hu.2 with ⟨rfl,_⟩|⟨g,cap,cur,rfl,_⟩<;>exact ⟨_,_,_,rfl⟩
  subst hq
  have hWF:Below w.heap.size w (w.alloc (.cells #[.int .i64 a,.int .i64 b,.int .i64 c,.slice q n cap,.int .i64 t,.bool ok] 324)):=(Below.refl _ _).alloc (Nat.le_refl _) _
  have C0:(w.alloc (.cells #[.int .i64 a,.int .i64 b,.int .i64 c,.slice q n cap,.int .i64 t,.bool ok] 324)).cell? ⟨w.heap.size,0,none⟩=some (.int .i64 a)∧(w.alloc (.cells #[.int .i64 a,.int .i64 b,.int .i64 c,.slice q n cap,.int .i64 t,.bool ok] 324)).cell? ⟨w.heap.size,1,none⟩=some (.int .i64 b)∧(w.alloc (.cells #[.int .i64 a,.int .i64 b,.int .i64 c,.slice q n cap,.int .i64 t,.bool ok] 324)).cell? ⟨w.heap.size,2,none⟩=some (.int .i64 c)∧(w.alloc (.cells #[.int .i64 a,.int .i64 b,.int .i64 c,.slice q n cap,.int .i64 t,.bool ok] 324)).cell? ⟨w.heap.size,3,none⟩=some (.slice q n cap)∧(w.alloc (.cells #[.int .i64 a,.int .i64 b,.int .i64 c,.slice q n cap,.int .i64 t,.bool ok] 324)).cell? ⟨w.heap.size,4,none⟩=some (.int .i64 t)∧(w.alloc (.cells #[.int .i64 a,.int .i64 b,.int .i64 c,.slice q n cap,.int .i64 t,.bool ok] 324)).cell? ⟨w.heap.size,5,none⟩=some (.bool ok):=by
    have h:=vheap_new w (.cells #[.int .i64 a,.int .i64 b,.int .i64 c,.slice q n cap,.int .i64 t,.bool ok] 324)
    exact ⟨vblk_cell h 0,vblk_cell h 1,vblk_cell h 2,vblk_cell h 3,vblk_cell h 4,vblk_cell h 5⟩
  have hs1:(w.alloc (.cells #[.int .i64 a,.int .i64 b,.int .i64 c,.slice q n cap,.int .i64 t,.bool ok] 324)).heap.size=w.heap.size+1:=by simp
  have hap: ∀ g (w1:World) base,w.heap.size≤base→w1.ownsRow base 9 1 (.slice (some ⟨g,0,none⟩) 1 1) 1 (strsV [zeroT])→Value.ownBlock (.slice q n cap)=Value.ownBlock (.slice (some ⟨g,0,none⟩) 1 1)→Value.ownBlock (.slice q n cap)=none:=fun g w1 base hb og he=>by
    cases hk:Value.ownBlock (.slice q n cap) with
    |none=>rfl
    |some k=>
      have h1:=(hu.lt k hk).2
      rw [he] at hk
      have h2:=(og.lt k hk).1
      omega
  obtain ⟨WF,hWFd⟩: ∃ x,x=w.alloc (.cells #[.int .i64 a,.int .i64 b,.int .i64 c,.slice q n cap,.int .i64 t,.bool ok] 324):=⟨_,rfl⟩
  rw [←hWFd] at hWF C0 hs1
  have KEEP:Hid (∀ w1,Below WF.heap.size WF w1→w1.cell? ⟨w.heap.size,0,none⟩=some (.int .i64 a)∧w1.cell? ⟨w.heap.size,1,none⟩=some (.int .i64 b)∧w1.cell? ⟨w.heap.size,2,none⟩=some (.int .i64 c)∧w1.cell? ⟨w.heap.size,3,none⟩=some (.slice q n cap)∧w1.cell? ⟨w.heap.size,4,none⟩=some (.int .i64 t)∧w1.cell? ⟨w.heap.size,5,none⟩=some (.bool ok)):=fun w1 hb=>by
    have k: ∀ j,w1.cell? ⟨w.heap.size,j,none⟩=WF.cell? ⟨w.heap.size,j,none⟩:=fun j=>World.cell?_of_block (w:=WF) (hb.block w.heap.size (by omega))
    simp only [k];exact C0
  have em:makeC 4 a b c ps t=[⟨4,a,b,c,ps⟩]:=by simp [makeC]
  rw [em]
  have x:=a
  have y:=b
  have z:=c
  have HF:Hid (∀ w1,Below WF.heap.size WF w1→Calls Tryz.prog 309 #[.agg #[.int .i64 a,.int .i64 b,.int .i64 c,.slice q n cap,.int .i64 t,.bool ok]] w1 fun e w'=>e=.returned (.agg #[.int .i64 4,.int .i64 a,.int .i64 b,.int .i64 c,.slice q n cap])∧Below w1.heap.size w1 w'∧Below WF.heap.size WF w'∧w'.cell? ⟨w.heap.size,0,none⟩=some (.int .i64 a)∧w'.cell? ⟨w.heap.size,1,none⟩=some (.int .i64 b)∧w'.cell? ⟨w.heap.size,2,none⟩=some (.int .i64 c)∧w'.cell? ⟨w.heap.size,3,none⟩=some (.slice q n cap)∧w'.cell? ⟨w.heap.size,4,none⟩=some (.int .i64 t)∧w'.cell? ⟨w.heap.size,5,none⟩=some (.bool ok)):=fun w1 hb=>(l4From_c a b c _ t ok w1 ⟨_,_,_,rfl⟩).mono (fun e w' ⟨h1,h2⟩=>⟨h1,h2,hb.trans (h2.mono hb.size),KEEP.out w' (hb.trans (h2.mono hb.size))⟩)
  have hd0:Below WF.heap.size WF WF:=Below.refl _ _
  obtain ⟨c0,c1,c2,c3,c4,c5⟩:=C0
  clear em hnum ht KEEP
  go_enter Tryz.func284,Tryz.ntmps284
  go_wp2_with (first
    | (go_at_call 309; rw [← hWFd]; refine (HF.out _ ?_).mono ?_; · assumption
       rintro e wF ⟨rfl, bF, BF, ⟨c0, c1, c2, c3, c4, c5⟩⟩))
  go_ret
  have hx:=hWF.trans (BF.mono hWF.size)
  exact ⟨_,rfl,one_own ⟨4,a,b,c,ps⟩ (by simp) (Nat.le_trans hlo hx.size) (owns_of_below hu hx),hx.alloc hx.size _⟩
theorem mk_lt (lo:Nat) (a b c:Int) (u:Value) (ps:List ByteArray) (t:Int) (ok:Bool) (w:World) (hlo:lo≤w.heap.size) (hnum:numsOk a b c) (ht:t=1∨t=2∨t=3) (hu:w.ownsRow lo 9 1 u ps.length (strsV ps)):
  Calls Tryz.prog 284 #[.string ⟨#[60]⟩,.agg #[.int .i64 a,.int .i64 b,.int .i64 c,u,.int .i64 t,.bool ok]] w fun e w'=>∃ v,e=.returned v∧CmpsOwn lo w' v (makeC 1 a b c ps t)∧Below w.heap.size w w':=by
 obtain ⟨q,n,cap,hq⟩: ∃ q n cap,u=.slice q n cap:=by rcases hu.2 with ⟨rfl,_⟩|⟨g,cap,cur,rfl,_⟩<;>exact ⟨_,_,_,rfl⟩
 subst hq
 have hWF:Below w.heap.size w (w.alloc (.cells #[.int .i64 a,.int .i64 b,.int .i64 c,.slice q n cap,.int .i64 t,.bool ok] 324)):=(Below.refl _ _).alloc (Nat.le_refl _) _
 have C0:(w.alloc (.cells #[.int .i64 a,.int .i64 b,.int .i64 c,.slice q n cap,.int .i64 t,.bool ok] 324)).cell? ⟨w.heap.size,0,none⟩=some (.int .i64 a)∧(w.alloc (.cells #[.int .i64 a,.int .i64 b,.int .i64 c,.slice q n cap,.int .i64 t,.bool ok] 324)).cell? ⟨w.heap.size,1,none⟩=some (.int .i64 b)∧(w.alloc (.cells #[.int .i64 a,.int .i64 b,.int .i64 c,.slice q n cap,.int .i64 t,.bool ok] 324)).cell? ⟨w.heap.size,2,none⟩=some (.int .i64 c)∧(w.alloc (.cells #[.int .i64 a,.int .i64 b,.int .i64 c,.slice q n cap,.int .i64 t,.bool ok] 324)).cell? ⟨w.heap.size,3,none⟩=some (.slice q n cap)∧(w.alloc (.cells #[.int .i64 a,.int .i64 b,.int .i64 c,.slice q n cap,.int .i64 t,.bool ok] 324)).cell? ⟨w.heap.size,4,none⟩=some (.int .i64 t)∧(w.alloc (.cells #[.int .i64 a,.int .i64 b,.int .i64 c,.slice q n cap,.int .i64 t,.bool ok] 324)).cell? ⟨w.heap.size,5,none⟩=some (.bool ok):=by
  have h:=vheap_new w (.cells #[.int .i64 a,.int .i64 b,.int .i64 c,.slice q n cap,.int .i64 t,.bool ok] 324)
  exact ⟨vblk_cell h 0,vblk_cell h 1,vblk_cell h 2,vblk_cell h 3,vblk_cell h 4,vblk_cell h 5⟩
 have hs1:(w.alloc (.cells #[.int .i64 a,.int .i64 b,.int .i64 c,.slice q n cap,.int .i64 t,.bool ok] 324)).heap.size=w.heap.size+1:=by simp
 have hap: ∀ g (w1:World) base,w.heap.size≤base→w1.ownsRow base 9 1 (.slice (some ⟨g,0,none⟩) 1 1) 1 (strsV [zeroT])→Value.ownBlock (.slice q n cap)=Value.ownBlock (.slice (some ⟨g,0,none⟩) 1 1)→Value.ownBlock (.slice q n cap)=none:=fun g w1 base hb og he=>by
  cases hk:Value.ownBlock (.slice q n cap) with
  |none=>rfl
  |some k=>
   have h1:=(hu.lt k hk).2
   rw [he] at hk
   have h2:=(og.lt k hk).1
   omega
 obtain ⟨WF,hWFd⟩: ∃ x,x=w.alloc (.cells #[.int .i64 a,.int .i64 b,.int .i64 c,.slice q n cap,.int .i64 t,.bool ok] 324):=⟨_,rfl⟩
 rw [←hWFd] at hWF C0 hs1
 have KEEP:Hid (∀ w1,Below WF.heap.size WF w1→w1.cell? ⟨w.heap.size,0,none⟩=some (.int .i64 a)∧w1.cell? ⟨w.heap.size,1,none⟩=some (.int .i64 b)∧w1.cell? ⟨w.heap.size,2,none⟩=some (.int .i64 c)∧w1.cell? ⟨w.heap.size,3,none⟩=some (.slice q n cap)∧w1.cell? ⟨w.heap.size,4,none⟩=some (.int .i64 t)∧w1.cell? ⟨w.heap.size,5,none⟩=some (.bool ok)):=fun w1 hb=>by
  have k: ∀ j,w1.cell? ⟨w.heap.size,j,none⟩=WF.cell? ⟨w.heap.size,j,none⟩:=fun j=>World.cell?_of_block (w:=WF) (hb.block w.heap.size (by omega))
  simp only [k];exact C0
 have em:makeC 1 a b c ps t=[⟨1,a,b,c,ps⟩]:=by simp [makeC]
 rw [em]
 have hd0:Below WF.heap.size WF WF:=Below.refl _ _
 subst hWFd
 clear em hnum ht KEEP C0
 go_enter Tryz.func284,Tryz.ntmps284
 go_wp2_with fail
 go_ret
 exact ⟨_,rfl,one_own ⟨1,a,b,c,ps⟩ (by simp) (Nat.le_trans hlo hWF.size) (owns_of_below hu hWF),hWF.alloc hWF.size _⟩
theorem mk_gt3 (lo:Nat) (a b c:Int) (u:Value) (ps:List ByteArray) (t:Int) (ok:Bool) (w:World) (hlo:lo≤w.heap.size) (hnum:numsOk a b c) (ht:t=1∨t=2∨t=3) (h3:t=3) (hu:w.ownsRow lo 9 1 u ps.length (strsV ps)):
  Calls Tryz.prog 284 #[.string ⟨#[62]⟩,.agg #[.int .i64 a,.int .i64 b,.int .i64 c,u,.int .i64 t,.bool ok]] w fun e w'=>∃ v,e=.returned v∧CmpsOwn lo w' v (makeC 3 a b c ps t)∧Below w.heap.size w w':=by
 obtain ⟨q,n,cap,hq⟩: ∃ q n cap,u=.slice q n cap:=by rcases hu.2 with ⟨rfl,_⟩|⟨g,cap,cur,rfl,_⟩<;>exact ⟨_,_,_,rfl⟩
 subst hq
 have hWF:Below w.heap.size w (w.alloc (.cells #[.int .i64 a,.int .i64 b,.int .i64 c,.slice q n cap,.int .i64 t,.bool ok] 324)):=(Below.refl _ _).alloc (Nat.le_refl _) _
 have C0:(w.alloc (.cells #[.int .i64 a,.int .i64 b,.int .i64 c,.slice q n cap,.int .i64 t,.bool ok] 324)).cell? ⟨w.heap.size,0,none⟩=some (.int .i64 a)∧(w.alloc (.cells #[.int .i64 a,.int .i64 b,.int .i64 c,.slice q n cap,.int .i64 t,.bool ok] 324)).cell? ⟨w.heap.size,1,none⟩=some (.int .i64 b)∧(w.alloc (.cells #[.int .i64 a,.int .i64 b,.int .i64 c,.slice q n cap,.int .i64 t,.bool ok] 324)).cell? ⟨w.heap.size,2,none⟩=some (.int .i64 c)∧(w.alloc (.cells #[.int .i64 a,.int .i64 b,.int .i64 c,.slice q n cap,.int .i64 t,.bool ok] 324)).cell? ⟨w.heap.size,3,none⟩=some (.slice q n cap)∧(w.alloc (.cells #[.int .i64 a,.int .i64 b,.int .i64 c,.slice q n cap,.int .i64 t,.bool ok] 324)).cell? ⟨w.heap.size,4,none⟩=some (.int .i64 t)∧(w.alloc (.cells #[.int .i64 a,.int .i64 b,.int .i64 c,.slice q n cap,.int .i64 t,.bool ok] 324)).cell? ⟨w.heap.size,5,none⟩=some (.bool ok):=by
  have h:=vheap_new w (.cells #[.int .i64 a,.int .i64 b,.int .i64 c,.slice q n cap,.int .i64 t,.bool ok] 324)
  exact ⟨vblk_cell h 0,vblk_cell h 1,vblk_cell h 2,vblk_cell h 3,vblk_cell h 4,vblk_cell h 5⟩
 have hs1:(w.alloc (.cells #[.int .i64 a,.int .i64 b,.int .i64 c,.slice q n cap,.int .i64 t,.bool ok] 324)).heap.size=w.heap.size+1:=by simp
 have hap: ∀ g (w1:World) base,w.heap.size≤base→w1.ownsRow base 9 1 (.slice (some ⟨g,0,none⟩) 1 1) 1 (strsV [zeroT])→Value.ownBlock (.slice q n cap)=Value.ownBlock (.slice (some ⟨g,0,none⟩) 1 1)→Value.ownBlock (.slice q n cap)=none:=fun g w1 base hb og he=>by
  cases hk:Value.ownBlock (.slice q n cap) with
  |none=>rfl
  |some k=>
   have h1:=(hu.lt k hk).2
   rw [he] at hk
   have h2:=(og.lt k hk).1
   omega
 obtain ⟨WF,hWFd⟩: ∃ x,x=w.alloc (.cells #[.int .i64 a,.int .i64 b,.int .i64 c,.slice q n cap,.int .i64 t,.bool ok] 324):=⟨_,rfl⟩
 rw [←hWFd] at hWF C0 hs1
 have KEEP:Hid (∀ w1,Below WF.heap.size WF w1→w1.cell? ⟨w.heap.size,0,none⟩=some (.int .i64 a)∧w1.cell? ⟨w.heap.size,1,none⟩=some (.int .i64 b)∧w1.cell? ⟨w.heap.size,2,none⟩=some (.int .i64 c)∧w1.cell? ⟨w.heap.size,3,none⟩=some (.slice q n cap)∧w1.cell? ⟨w.heap.size,4,none⟩=some (.int .i64 t)∧w1.cell? ⟨w.heap.size,5,none⟩=some (.bool ok)):=fun w1 hb=>by
  have k: ∀ j,w1.cell? ⟨w.heap.size,j,none⟩=WF.cell? ⟨w.heap.size,j,none⟩:=fun j=>World.cell?_of_block (w:=WF) (hb.block w.heap.size (by omega))
  simp only [k];exact C0
 have k3:(t == 3)=true:=by simpa using h3
 have em:makeC 3 a b c ps t=[⟨3,a,b,c,ps⟩]:=by simp [makeC,h3]
 rw [em]
 have hd0:Below WF.heap.size WF WF:=Below.refl _ _
 subst hWFd
 clear em hnum ht KEEP h3 C0
 go_enter Tryz.func284,Tryz.ntmps284
 go_wp2_with fail
 go_ret
 exact ⟨_,rfl,one_own ⟨3,a,b,c,ps⟩ (by simp) (Nat.le_trans hlo hWF.size) (owns_of_below hu hWF),hWF.alloc hWF.size _⟩
theorem mk_gt (lo:Nat) (a b c:Int) (u:Value) (ps:List ByteArray) (t:Int) (ok:Bool) (w:World) (hlo:lo≤w.heap.size) (hnum:numsOk a b c) (ht:t=1∨t=2∨t=3) (h3: ¬t=3) (hu:w.ownsRow lo 9 1 u ps.length (strsV ps)):
    Calls Tryz.prog 284 #[.string ⟨#[62]⟩,.agg #[.int .i64 a,.int .i64 b,.int .i64 c,u,.int .i64 t,.bool ok]] w fun e w'=>∃ v,e=.returned v∧CmpsOwn lo w' v (makeC 3 a b c ps t)∧Below w.heap.size w w':=by
  obtain ⟨q,n,cap,hq⟩: ∃ q n cap,u=.slice q n cap:=by rcases hu.2 with ⟨rfl,_⟩|⟨g,cap,cur,rfl,_⟩<;>exact ⟨_,_,_,rfl⟩
  subst hq
  have hWF:Below w.heap.size w (w.alloc (.cells #[.int .i64 a,.int .i64 b,.int .i64 c,.slice q n cap,.int .i64 t,.bool ok] 324)):=(Below.refl _ _).alloc (Nat.le_refl _) _
  have C0:(w.alloc (.cells #[.int .i64 a,.int .i64 b,.int .i64 c,.slice q n cap,.int .i64 t,.bool ok] 324)).cell? ⟨w.heap.size,0,none⟩=some (.int .i64 a)∧(w.alloc (.cells #[.int .i64 a,.int .i64 b,.int .i64 c,.slice q n cap,.int .i64 t,.bool ok] 324)).cell? ⟨w.heap.size,1,none⟩=some (.int .i64 b)∧(w.alloc (.cells #[.int .i64 a,.int .i64 b,.int .i64 c,.slice q n cap,.int .i64 t,.bool ok] 324)).cell? ⟨w.heap.size,2,none⟩=some (.int .i64 c)∧(w.alloc (.cells #[.int .i64 a,.int .i64 b,.int .i64 c,.slice q n cap,.int .i64 t,.bool ok] 324)).cell? ⟨w.heap.size,3,none⟩=some (.slice q n cap)∧(w.alloc (.cells #[.int .i64 a,.int .i64 b,.int .i64 c,.slice q n cap,.int .i64 t,.bool ok] 324)).cell? ⟨w.heap.size,4,none⟩=some (.int .i64 t)∧(w.alloc (.cells #[.int .i64 a,.int .i64 b,.int .i64 c,.slice q n cap,.int .i64 t,.bool ok] 324)).cell? ⟨w.heap.size,5,none⟩=some (.bool ok):=by
    have h:=vheap_new w (.cells #[.int .i64 a,.int .i64 b,.int .i64 c,.slice q n cap,.int .i64 t,.bool ok] 324)
    exact ⟨vblk_cell h 0,vblk_cell h 1,vblk_cell h 2,vblk_cell h 3,vblk_cell h 4,vblk_cell h 5⟩
  have hs1:(w.alloc (.cells #[.int .i64 a,.int .i64 b,.int .i64 c,.slice q n cap,.int .i64 t,.bool ok] 324)).heap.size=w.heap.size+1:=by simp
  have hap: ∀ g (w1:World) base,w.heap.size≤base→w1.ownsRow base 9 1 (.slice (some ⟨g,0,none⟩) 1 1) 1 (strsV [zeroT])→Value.ownBlock (.slice q n cap)=Value.ownBlock (.slice (some ⟨g,0,none⟩) 1 1)→Value.ownBlock (.slice q n cap)=none:=fun g w1 base hb og he=>by
    cases hk:Value.ownBlock (.slice q n cap) with
    |none=>rfl
    |some k=>
      have h1:=(hu.lt k hk).2
      rw [he] at hk
      have h2:=(og.lt k hk).1
      omega
  obtain ⟨WF,hWFd⟩: ∃ x,x=w.alloc (.cells #[.int .i64 a,.int .i64 b,.int .i64 c,.slice q n cap,.int .i64 t,.bool ok] 324):=⟨_,rfl⟩
  rw [←hWFd] at hWF C0 hs1
  have KEEP:Hid (∀ w1,Below WF.heap.size WF w1→w1.cell? ⟨w.heap.size,0,none⟩=some (.int .i64 a)∧w1.cell? ⟨w.heap.size,1,none⟩=some (.int .i64 b)∧w1.cell? ⟨w.heap.size,2,none⟩=some (.int .i64 c)∧w1.cell? ⟨w.heap.size,3,none⟩=some (.slice q n cap)∧w1.cell? ⟨w.heap.size,4,none⟩=some (.int .i64 t)∧w1.cell? ⟨w.heap.size,5,none⟩=some (.bool ok)):=fun w1 hb=>by
    have k: ∀ j,w1.cell? ⟨w.heap.size,j,none⟩=WF.cell? ⟨w.heap.size,j,none⟩:=fun j=>World.cell?_of_block (w:=WF) (hb.block w.heap.size (by omega))
    simp only [k];exact C0
  have k3:(t == 3)=false:=by simpa using h3
  have hm:min t 2=t:=by omega
  have em:makeC 3 a b c ps t=[⟨4,nextA (min t 2) a,nextB (min t 2) b,nextC (min t 2) c,[]⟩]:=by simp [makeC,h3,hm]
  obtain ⟨x,hx⟩: ∃ x,x=nextA (min t 2) a:=⟨_,rfl⟩
  obtain ⟨y,hy⟩: ∃ x,x=nextB (min t 2) b:=⟨_,rfl⟩
  obtain ⟨z,hz⟩: ∃ x,x=nextC (min t 2) c:=⟨_,rfl⟩
  rw [em, ←hx, ←hy, ←hz]
  have HF:Hid (∀ w1,Below WF.heap.size WF w1→Calls Tryz.prog 309 #[.agg #[.int .i64 a,.int .i64 b,.int .i64 c,.slice q n cap,.int .i64 t,.bool ok]] w1 fun e w'=>e=.returned (.agg #[.int .i64 4,.int .i64 a,.int .i64 b,.int .i64 c,.slice q n cap])∧Below w1.heap.size w1 w'∧Below WF.heap.size WF w'∧w'.cell? ⟨w.heap.size,0,none⟩=some (.int .i64 a)∧w'.cell? ⟨w.heap.size,1,none⟩=some (.int .i64 b)∧w'.cell? ⟨w.heap.size,2,none⟩=some (.int .i64 c)∧w'.cell? ⟨w.heap.size,3,none⟩=some (.slice q n cap)∧w'.cell? ⟨w.heap.size,4,none⟩=some (.int .i64 t)∧w'.cell? ⟨w.heap.size,5,none⟩=some (.bool ok)):=fun w1 hb=>(l4From_c a b c _ t ok w1 ⟨_,_,_,rfl⟩).mono (fun e w' ⟨h1,h2⟩=>⟨h1,h2,hb.trans (h2.mono hb.size),KEEP.out w' (hb.trans (h2.mono hb.size))⟩)
  have HN:Hid (∀ w1,Below WF.heap.size WF w1→Calls Tryz.prog 313 #[.agg #[.int .i64 a,.int .i64 b,.int .i64 c,.slice q n cap,.int .i64 t,.bool ok]] w1 fun e w'=>e=.returned (.agg #[.int .i64 x,.int .i64 y,.int .i64 z,.slice none 0 0])∧Below w1.heap.size w1 w'∧Below WF.heap.size WF w'∧w'.cell? ⟨w.heap.size,0,none⟩=some (.int .i64 a)∧w'.cell? ⟨w.heap.size,1,none⟩=some (.int .i64 b)∧w'.cell? ⟨w.heap.size,2,none⟩=some (.int .i64 c)∧w'.cell? ⟨w.heap.size,3,none⟩=some (.slice q n cap)∧w'.cell? ⟨w.heap.size,4,none⟩=some (.int .i64 t)∧w'.cell? ⟨w.heap.size,5,none⟩=some (.bool ok)):=fun w1 hb=>(l4Next_c a b c _ t ok hnum ht w1 ⟨_,_,_,rfl⟩).mono (fun e w' ⟨h1,h2⟩=>⟨by rw [h1, ←hx, ←hy, ←hz],h2,hb.trans (h2.mono hb.size),KEEP.out w' (hb.trans (h2.mono hb.size))⟩)
  have HB:Hid (∀ w1,Below WF.heap.size WF w1→Calls Tryz.prog 310 #[.agg #[.int .i64 x,.int .i64 y,.int .i64 z,.slice none 0 0]] w1 fun e w'=>∃ g,e=.returned (.agg #[.int .i64 1,.int .i64 x,.int .i64 y,.int .i64 z,.slice (some ⟨g,0,none⟩) 1 1])∧w'.ownsRow WF.heap.size 9 1 (.slice (some ⟨g,0,none⟩) 1 1) 1 (strsV [zeroT])∧Below WF.heap.size WF w'∧w'.cell? ⟨w.heap.size,0,none⟩=some (.int .i64 a)∧w'.cell? ⟨w.heap.size,1,none⟩=some (.int .i64 b)∧w'.cell? ⟨w.heap.size,2,none⟩=some (.int .i64 c)∧w'.cell? ⟨w.heap.size,3,none⟩=some (.slice q n cap)∧w'.cell? ⟨w.heap.size,4,none⟩=some (.int .i64 t)∧w'.cell? ⟨w.heap.size,5,none⟩=some (.bool ok)):=fun w1 hb=>(l4Below_c x y z _ w1 ⟨_,_,_,rfl⟩).mono (fun e w' ⟨g,h1,h2,h3⟩=>⟨g,h1,owns_base h2 hb.size,hb.trans (h3.mono hb.size),KEEP.out w' (hb.trans (h3.mono hb.size))⟩)
  have hd0:Below WF.heap.size WF WF:=Below.refl _ _
  obtain ⟨c0,c1,c2,c3,c4,c5⟩:=C0
  clear em hnum ht KEEP hx hy hz hm h3
  go_enter Tryz.func284,Tryz.ntmps284
  go_wp2_with (first
    | (go_at_call 313; rw [← hWFd]; refine (HN.out _ ?_).mono ?_; · assumption
       rintro e wN ⟨rfl, bN, BN, ⟨c0, c1, c2, c3, c4, c5⟩⟩))
  go_ret
  have hx:=hWF.trans (BN.mono hWF.size)
  exact ⟨_,rfl,one_own ⟨4,x,y,z,[]⟩ (by simp) (Nat.le_trans hlo hx.size) (owns_nil _ _),hx.alloc hx.size _⟩
theorem mk_le3 (lo:Nat) (a b c:Int) (u:Value) (ps:List ByteArray) (t:Int) (ok:Bool) (w:World) (hlo:lo≤w.heap.size) (hnum:numsOk a b c) (ht:t=1∨t=2∨t=3) (h3:t=3) (hu:w.ownsRow lo 9 1 u ps.length (strsV ps)):
  Calls Tryz.prog 284 #[.string ⟨#[60,61]⟩,.agg #[.int .i64 a,.int .i64 b,.int .i64 c,u,.int .i64 t,.bool ok]] w fun e w'=>∃ v,e=.returned v∧CmpsOwn lo w' v (makeC 2 a b c ps t)∧Below w.heap.size w w':=by
 obtain ⟨q,n,cap,hq⟩: ∃ q n cap,u=.slice q n cap:=by rcases hu.2 with ⟨rfl,_⟩|⟨g,cap,cur,rfl,_⟩<;>exact ⟨_,_,_,rfl⟩
 subst hq
 have hWF:Below w.heap.size w (w.alloc (.cells #[.int .i64 a,.int .i64 b,.int .i64 c,.slice q n cap,.int .i64 t,.bool ok] 324)):=(Below.refl _ _).alloc (Nat.le_refl _) _
 have C0:(w.alloc (.cells #[.int .i64 a,.int .i64 b,.int .i64 c,.slice q n cap,.int .i64 t,.bool ok] 324)).cell? ⟨w.heap.size,0,none⟩=some (.int .i64 a)∧(w.alloc (.cells #[.int .i64 a,.int .i64 b,.int .i64 c,.slice q n cap,.int .i64 t,.bool ok] 324)).cell? ⟨w.heap.size,1,none⟩=some (.int .i64 b)∧(w.alloc (.cells #[.int .i64 a,.int .i64 b,.int .i64 c,.slice q n cap,.int .i64 t,.bool ok] 324)).cell? ⟨w.heap.size,2,none⟩=some (.int .i64 c)∧(w.alloc (.cells #[.int .i64 a,.int .i64 b,.int .i64 c,.slice q n cap,.int .i64 t,.bool ok] 324)).cell? ⟨w.heap.size,3,none⟩=some (.slice q n cap)∧(w.alloc (.cells #[.int .i64 a,.int .i64 b,.int .i64 c,.slice q n cap,.int .i64 t,.bool ok] 324)).cell? ⟨w.heap.size,4,none⟩=some (.int .i64 t)∧(w.alloc (.cells #[.int .i64 a,.int .i64 b,.int .i64 c,.slice q n cap,.int .i64 t,.bool ok] 324)).cell? ⟨w.heap.size,5,none⟩=some (.bool ok):=by
  have h:=vheap_new w (.cells #[.int .i64 a,.int .i64 b,.int .i64 c,.slice q n cap,.int .i64 t,.bool ok] 324)
  exact ⟨vblk_cell h 0,vblk_cell h 1,vblk_cell h 2,vblk_cell h 3,vblk_cell h 4,vblk_cell h 5⟩
 have hs1:(w.alloc (.cells #[.int .i64 a,.int .i64 b,.int .i64 c,.slice q n cap,.int .i64 t,.bool ok] 324)).heap.size=w.heap.size+1:=by simp
 have hap: ∀ g (w1:World) base,w.heap.size≤base→w1.ownsRow base 9 1 (.slice (some ⟨g,0,none⟩) 1 1) 1 (strsV [zeroT])→Value.ownBlock (.slice q n cap)=Value.ownBlock (.slice (some ⟨g,0,none⟩) 1 1)→Value.ownBlock (.slice q n cap)=none:=fun g w1 base hb og he=>by
  cases hk:Value.ownBlock (.slice q n cap) with
  |none=>rfl
  |some k=>
   have h1:=(hu.lt k hk).2
   rw [he] at hk
   have h2:=(og.lt k hk).1
   omega
 obtain ⟨WF,hWFd⟩: ∃ x,x=w.alloc (.cells #[.int .i64 a,.int .i64 b,.int .i64 c,.slice q n cap,.int .i64 t,.bool ok] 324):=⟨_,rfl⟩
 rw [←hWFd] at hWF C0 hs1
 have KEEP:Hid (∀ w1,Below WF.heap.size WF w1→w1.cell? ⟨w.heap.size,0,none⟩=some (.int .i64 a)∧w1.cell? ⟨w.heap.size,1,none⟩=some (.int .i64 b)∧w1.cell? ⟨w.heap.size,2,none⟩=some (.int .i64 c)∧w1.cell? ⟨w.heap.size,3,none⟩=some (.slice q n cap)∧w1.cell? ⟨w.heap.size,4,none⟩=some (.int .i64 t)∧w1.cell? ⟨w.heap.size,5,none⟩=some (.bool ok)):=fun w1 hb=>by
  have k: ∀ j,w1.cell? ⟨w.heap.size,j,none⟩=WF.cell? ⟨w.heap.size,j,none⟩:=fun j=>World.cell?_of_block (w:=WF) (hb.block w.heap.size (by omega))
  simp only [k];exact C0
 have k3:(t == 3)=true:=by simpa using h3
 have em:makeC 2 a b c ps t=[⟨2,a,b,c,ps⟩]:=by simp [makeC,h3]
 rw [em]
 have hd0:Below WF.heap.size WF WF:=Below.refl _ _
 subst hWFd
 clear em hnum ht KEEP h3 C0
 go_enter Tryz.func284,Tryz.ntmps284
 go_wp2_with fail
 go_ret
 exact ⟨_,rfl,one_own ⟨2,a,b,c,ps⟩ (by simp) (Nat.le_trans hlo hWF.size) (owns_of_below hu hWF),hWF.alloc hWF.size _⟩
theorem mk_le (lo:Nat) (a b c:Int) (u:Value) (ps:List ByteArray) (t:Int) (ok:Bool) (w:World) (hlo:lo≤w.heap.size) (hnum:numsOk a b c) (ht:t=1∨t=2∨t=3) (h3: ¬t=3) (hu:w.ownsRow lo 9 1 u ps.length (strsV ps)):
    Calls Tryz.prog 284 #[.string ⟨#[60,61]⟩,.agg #[.int .i64 a,.int .i64 b,.int .i64 c,u,.int .i64 t,.bool ok]] w fun e w'=>∃ v,e=.returned v∧CmpsOwn lo w' v (makeC 2 a b c ps t)∧Below w.heap.size w w':=by
  obtain ⟨q,n,cap,hq⟩: ∃ q n cap,u=.slice q n cap:=by rcases hu.2 with ⟨rfl,_⟩|⟨g,cap,cur,rfl,_⟩<;>exact ⟨_,_,_,rfl⟩
  subst hq
  have hWF:Below w.heap.size w (w.alloc (.cells #[.int .i64 a,.int .i64 b,.int .i64 c,.slice q n cap,.int .i64 t,.bool ok] 324)):=(Below.refl _ _).alloc (Nat.le_refl _) _
  have C0:(w.alloc (.cells #[.int .i64 a,.int .i64 b,.int .i64 c,.slice q n cap,.int .i64 t,.bool ok] 324)).cell? ⟨w.heap.size,0,none⟩=some (.int .i64 a)∧(w.alloc (.cells #[.int .i64 a,.int .i64 b,.int .i64 c,.slice q n cap,.int .i64 t,.bool ok] 324)).cell? ⟨w.heap.size,1,none⟩=some (.int .i64 b)∧(w.alloc (.cells #[.int .i64 a,.int .i64 b,.int .i64 c,.slice q n cap,.int .i64 t,.bool ok] 324)).cell? ⟨w.heap.size,2,none⟩=some (.int .i64 c)∧(w.alloc (.cells #[.int .i64 a,.int .i64 b,.int .i64 c,.slice q n cap,.int .i64 t,.bool ok] 324)).cell? ⟨w.heap.size,3,none⟩=some (.slice q n cap)∧(w.alloc (.cells #[.int .i64 a,.int .i64 b,.int .i64 c,.slice q n cap,.int .i64 t,.bool ok] 324)).cell? ⟨w.heap.size,4,none⟩=some (.int .i64 t)∧(w.alloc (.cells #[.int .i64 a,.int .i64 b,.int .i64 c,.slice q n cap,.int .i64 t,.bool ok] 324)).cell? ⟨w.heap.size,5,none⟩=some (.bool ok):=by
    have h:=vheap_new w (.cells #[.int .i64 a,.int .i64 b,.int .i64 c,.slice q n cap,.int .i64 t,.bool ok] 324)
    exact ⟨vblk_cell h 0,vblk_cell h 1,vblk_cell h 2,vblk_cell h 3,vblk_cell h 4,vblk_cell h 5⟩
  have hs1:(w.alloc (.cells #[.int .i64 a,.int .i64 b,.int .i64 c,.slice q n cap,.int .i64 t,.bool ok] 324)).heap.size=w.heap.size+1:=by simp
  have hap: ∀ g (w1:World) base,w.heap.size≤base→w1.ownsRow base 9 1 (.slice (some ⟨g,0,none⟩) 1 1) 1 (strsV [zeroT])→Value.ownBlock (.slice q n cap)=Value.ownBlock (.slice (some ⟨g,0,none⟩) 1 1)→Value.ownBlock (.slice q n cap)=none:=fun g w1 base hb og he=>by
    cases hk:Value.ownBlock (.slice q n cap) with
    |none=>rfl
    |some k=>
      have h1:=(hu.lt k hk).2
      rw [he] at hk
      have h2:=(og.lt k hk).1
      omega
  obtain ⟨WF,hWFd⟩: ∃ x,x=w.alloc (.cells #[.int .i64 a,.int .i64 b,.int .i64 c,.slice q n cap,.int .i64 t,.bool ok] 324):=⟨_,rfl⟩
  rw [←hWFd] at hWF C0 hs1
  have KEEP:Hid (∀ w1,Below WF.heap.size WF w1→w1.cell? ⟨w.heap.size,0,none⟩=some (.int .i64 a)∧w1.cell? ⟨w.heap.size,1,none⟩=some (.int .i64 b)∧w1.cell? ⟨w.heap.size,2,none⟩=some (.int .i64 c)∧w1.cell? ⟨w.heap.size,3,none⟩=some (.slice q n cap)∧w1.cell? ⟨w.heap.size,4,none⟩=some (.int .i64 t)∧w1.cell? ⟨w.heap.size,5,none⟩=some (.bool ok)):=fun w1 hb=>by
    have k: ∀ j,w1.cell? ⟨w.heap.size,j,none⟩=WF.cell? ⟨w.heap.size,j,none⟩:=fun j=>World.cell?_of_block (w:=WF) (hb.block w.heap.size (by omega))
    simp only [k];exact C0
  have k3:(t == 3)=false:=by simpa using h3
  have hm:min t 2=t:=by omega
  have em:makeC 2 a b c ps t=[⟨1,nextA (min t 2) a,nextB (min t 2) b,nextC (min t 2) c,[zeroT]⟩]:=by simp [makeC,h3,hm]
  obtain ⟨x,hx⟩: ∃ x,x=nextA (min t 2) a:=⟨_,rfl⟩
  obtain ⟨y,hy⟩: ∃ x,x=nextB (min t 2) b:=⟨_,rfl⟩
  obtain ⟨z,hz⟩: ∃ x,x=nextC (min t 2) c:=⟨_,rfl⟩
  rw [em, ←hx, ←hy, ←hz]
  have HF:Hid (∀ w1,Below WF.heap.size WF w1→Calls Tryz.prog 309 #[.agg #[.int .i64 a,.int .i64 b,.int .i64 c,.slice q n cap,.int .i64 t,.bool ok]] w1 fun e w'=>e=.returned (.agg #[.int .i64 4,.int .i64 a,.int .i64 b,.int .i64 c,.slice q n cap])∧Below w1.heap.size w1 w'∧Below WF.heap.size WF w'∧w'.cell? ⟨w.heap.size,0,none⟩=some (.int .i64 a)∧w'.cell? ⟨w.heap.size,1,none⟩=some (.int .i64 b)∧w'.cell? ⟨w.heap.size,2,none⟩=some (.int .i64 c)∧w'.cell? ⟨w.heap.size,3,none⟩=some (.slice q n cap)∧w'.cell? ⟨w.heap.size,4,none⟩=some (.int .i64 t)∧w'.cell? ⟨w.heap.size,5,none⟩=some (.bool ok)):=fun w1 hb=>(l4From_c a b c _ t ok w1 ⟨_,_,_,rfl⟩).mono (fun e w' ⟨h1,h2⟩=>⟨h1,h2,hb.trans (h2.mono hb.size),KEEP.out w' (hb.trans (h2.mono hb.size))⟩)
  have HN:Hid (∀ w1,Below WF.heap.size WF w1→Calls Tryz.prog 313 #[.agg #[.int .i64 a,.int .i64 b,.int .i64 c,.slice q n cap,.int .i64 t,.bool ok]] w1 fun e w'=>e=.returned (.agg #[.int .i64 x,.int .i64 y,.int .i64 z,.slice none 0 0])∧Below w1.heap.size w1 w'∧Below WF.heap.size WF w'∧w'.cell? ⟨w.heap.size,0,none⟩=some (.int .i64 a)∧w'.cell? ⟨w.heap.size,1,none⟩=some (.int .i64 b)∧w'.cell? ⟨w.heap.size,2,none⟩=some (.int .i64 c)∧w'.cell? ⟨w.heap.size,3,none⟩=some (.slice q n cap)∧w'.cell? ⟨w.heap.size,4,none⟩=some (.int .i64 t)∧w'.cell? ⟨w.heap.size,5,none⟩=some (.bool ok)):=fun w1 hb=>(l4Next_c a b c _ t ok hnum ht w1 ⟨_,_,_,rfl⟩).mono (fun e w' ⟨h1,h2⟩=>⟨by rw [h1, ←hx, ←hy, ←hz],h2,hb.trans (h2.mono hb.size),KEEP.out w' (hb.trans (h2.mono hb.size))⟩)
  have HB:Hid (∀ w1,Below WF.heap.size WF w1→Calls Tryz.prog 310 #[.agg #[.int .i64 x,.int .i64 y,.int .i64 z,.slice none 0 0]] w1 fun e w'=>∃ g,e=.returned (.agg #[.int .i64 1,.int .i64 x,.int .i64 y,.int .i64 z,.slice (some ⟨g,0,none⟩) 1 1])∧w'.ownsRow WF.heap.size 9 1 (.slice (some ⟨g,0,none⟩) 1 1) 1 (strsV [zeroT])∧Below WF.heap.size WF w'∧w'.cell? ⟨w.heap.size,0,none⟩=some (.int .i64 a)∧w'.cell? ⟨w.heap.size,1,none⟩=some (.int .i64 b)∧w'.cell? ⟨w.heap.size,2,none⟩=some (.int .i64 c)∧w'.cell? ⟨w.heap.size,3,none⟩=some (.slice q n cap)∧w'.cell? ⟨w.heap.size,4,none⟩=some (.int .i64 t)∧w'.cell? ⟨w.heap.size,5,none⟩=some (.bool ok)):=fun w1 hb=>(l4Below_c x y z _ w1 ⟨_,_,_,rfl⟩).mono (fun e w' ⟨g,h1,h2,h3⟩=>⟨g,h1,owns_base h2 hb.size,hb.trans (h3.mono hb.size),KEEP.out w' (hb.trans (h3.mono hb.size))⟩)
  have hd0:Below WF.heap.size WF WF:=Below.refl _ _
  obtain ⟨c0,c1,c2,c3,c4,c5⟩:=C0
  clear em hnum ht KEEP hx hy hz hm h3
  go_enter Tryz.func284,Tryz.ntmps284
  go_wp2_with (first
    | (go_at_call 313; rw [← hWFd]; refine (HN.out _ ?_).mono ?_; · assumption
       rintro e wN ⟨rfl, bN, BN, ⟨c0, c1, c2, c3, c4, c5⟩⟩)
    | (go_at_call 310; refine (HB.out _ ?_).mono ?_; · assumption
       rintro e wB ⟨g, rfl, og, BB, ⟨c0, c1, c2, c3, c4, c5⟩⟩))
  go_ret
  have hx:=hWF.trans (BB.mono hWF.size)
  exact ⟨_,rfl,one_own ⟨1,x,y,z,[zeroT]⟩ (by simp) (Nat.le_trans hlo hx.size) (owns_base og (Nat.le_trans hlo hWF.size)),hx.alloc hx.size _⟩
theorem mk_eq3 (lo:Nat) (a b c:Int) (u:Value) (ps:List ByteArray) (t:Int) (ok:Bool) (w:World) (hlo:lo≤w.heap.size) (hnum:numsOk a b c) (ht:t=1∨t=2∨t=3) (h3:t=3) (hu:w.ownsRow lo 9 1 u ps.length (strsV ps)):
  Calls Tryz.prog 284 #[.string ⟨#[61]⟩,.agg #[.int .i64 a,.int .i64 b,.int .i64 c,u,.int .i64 t,.bool ok]] w fun e w'=>∃ v,e=.returned v∧CmpsOwn lo w' v (makeC 0 a b c ps t)∧Below w.heap.size w w':=by
 obtain ⟨q,n,cap,hq⟩: ∃ q n cap,u=.slice q n cap:=by rcases hu.2 with ⟨rfl,_⟩|⟨g,cap,cur,rfl,_⟩<;>exact ⟨_,_,_,rfl⟩
 subst hq
 have hWF:Below w.heap.size w (w.alloc (.cells #[.int .i64 a,.int .i64 b,.int .i64 c,.slice q n cap,.int .i64 t,.bool ok] 324)):=(Below.refl _ _).alloc (Nat.le_refl _) _
 have C0:(w.alloc (.cells #[.int .i64 a,.int .i64 b,.int .i64 c,.slice q n cap,.int .i64 t,.bool ok] 324)).cell? ⟨w.heap.size,0,none⟩=some (.int .i64 a)∧(w.alloc (.cells #[.int .i64 a,.int .i64 b,.int .i64 c,.slice q n cap,.int .i64 t,.bool ok] 324)).cell? ⟨w.heap.size,1,none⟩=some (.int .i64 b)∧(w.alloc (.cells #[.int .i64 a,.int .i64 b,.int .i64 c,.slice q n cap,.int .i64 t,.bool ok] 324)).cell? ⟨w.heap.size,2,none⟩=some (.int .i64 c)∧(w.alloc (.cells #[.int .i64 a,.int .i64 b,.int .i64 c,.slice q n cap,.int .i64 t,.bool ok] 324)).cell? ⟨w.heap.size,3,none⟩=some (.slice q n cap)∧(w.alloc (.cells #[.int .i64 a,.int .i64 b,.int .i64 c,.slice q n cap,.int .i64 t,.bool ok] 324)).cell? ⟨w.heap.size,4,none⟩=some (.int .i64 t)∧(w.alloc (.cells #[.int .i64 a,.int .i64 b,.int .i64 c,.slice q n cap,.int .i64 t,.bool ok] 324)).cell? ⟨w.heap.size,5,none⟩=some (.bool ok):=by
  have h:=vheap_new w (.cells #[.int .i64 a,.int .i64 b,.int .i64 c,.slice q n cap,.int .i64 t,.bool ok] 324)
  exact ⟨vblk_cell h 0,vblk_cell h 1,vblk_cell h 2,vblk_cell h 3,vblk_cell h 4,vblk_cell h 5⟩
 have hs1:(w.alloc (.cells #[.int .i64 a,.int .i64 b,.int .i64 c,.slice q n cap,.int .i64 t,.bool ok] 324)).heap.size=w.heap.size+1:=by simp
 have hap: ∀ g (w1:World) base,w.heap.size≤base→w1.ownsRow base 9 1 (.slice (some ⟨g,0,none⟩) 1 1) 1 (strsV [zeroT])→Value.ownBlock (.slice q n cap)=Value.ownBlock (.slice (some ⟨g,0,none⟩) 1 1)→Value.ownBlock (.slice q n cap)=none:=fun g w1 base hb og he=>by
  cases hk:Value.ownBlock (.slice q n cap) with
  |none=>rfl
  |some k=>
   have h1:=(hu.lt k hk).2
   rw [he] at hk
   have h2:=(og.lt k hk).1
   omega
 obtain ⟨WF,hWFd⟩: ∃ x,x=w.alloc (.cells #[.int .i64 a,.int .i64 b,.int .i64 c,.slice q n cap,.int .i64 t,.bool ok] 324):=⟨_,rfl⟩
 rw [←hWFd] at hWF C0 hs1
 have KEEP:Hid (∀ w1,Below WF.heap.size WF w1→w1.cell? ⟨w.heap.size,0,none⟩=some (.int .i64 a)∧w1.cell? ⟨w.heap.size,1,none⟩=some (.int .i64 b)∧w1.cell? ⟨w.heap.size,2,none⟩=some (.int .i64 c)∧w1.cell? ⟨w.heap.size,3,none⟩=some (.slice q n cap)∧w1.cell? ⟨w.heap.size,4,none⟩=some (.int .i64 t)∧w1.cell? ⟨w.heap.size,5,none⟩=some (.bool ok)):=fun w1 hb=>by
  have k: ∀ j,w1.cell? ⟨w.heap.size,j,none⟩=WF.cell? ⟨w.heap.size,j,none⟩:=fun j=>World.cell?_of_block (w:=WF) (hb.block w.heap.size (by omega))
  simp only [k];exact C0
 have k3:(t == 3)=true:=by simpa using h3
 have em:makeC 0 a b c ps t=[⟨0,a,b,c,ps⟩]:=by simp [makeC,h3]
 rw [em]
 have hd0:Below WF.heap.size WF WF:=Below.refl _ _
 subst hWFd
 clear em hnum ht KEEP h3 C0
 go_enter Tryz.func284,Tryz.ntmps284
 go_wp2_with fail
 go_ret
 exact ⟨_,rfl,one_own ⟨0,a,b,c,ps⟩ (by simp) (Nat.le_trans hlo hWF.size) (owns_of_below hu hWF),hWF.alloc hWF.size _⟩
theorem mk_no3 (lo:Nat) (a b c:Int) (u:Value) (ps:List ByteArray) (t:Int) (ok:Bool) (w:World) (hlo:lo≤w.heap.size) (hnum:numsOk a b c) (ht:t=1∨t=2∨t=3) (h3:t=3) (hu:w.ownsRow lo 9 1 u ps.length (strsV ps)):
  Calls Tryz.prog 284 #[.string ⟨#[]⟩,.agg #[.int .i64 a,.int .i64 b,.int .i64 c,u,.int .i64 t,.bool ok]] w fun e w'=>∃ v,e=.returned v∧CmpsOwn lo w' v (makeC 0 a b c ps t)∧Below w.heap.size w w':=by
 obtain ⟨q,n,cap,hq⟩: ∃ q n cap,u=.slice q n cap:=by rcases hu.2 with ⟨rfl,_⟩|⟨g,cap,cur,rfl,_⟩<;>exact ⟨_,_,_,rfl⟩
 subst hq
 have hWF:Below w.heap.size w (w.alloc (.cells #[.int .i64 a,.int .i64 b,.int .i64 c,.slice q n cap,.int .i64 t,.bool ok] 324)):=(Below.refl _ _).alloc (Nat.le_refl _) _
 have C0:(w.alloc (.cells #[.int .i64 a,.int .i64 b,.int .i64 c,.slice q n cap,.int .i64 t,.bool ok] 324)).cell? ⟨w.heap.size,0,none⟩=some (.int .i64 a)∧(w.alloc (.cells #[.int .i64 a,.int .i64 b,.int .i64 c,.slice q n cap,.int .i64 t,.bool ok] 324)).cell? ⟨w.heap.size,1,none⟩=some (.int .i64 b)∧(w.alloc (.cells #[.int .i64 a,.int .i64 b,.int .i64 c,.slice q n cap,.int .i64 t,.bool ok] 324)).cell? ⟨w.heap.size,2,none⟩=some (.int .i64 c)∧(w.alloc (.cells #[.int .i64 a,.int .i64 b,.int .i64 c,.slice q n cap,.int .i64 t,.bool ok] 324)).cell? ⟨w.heap.size,3,none⟩=some (.slice q n cap)∧(w.alloc (.cells #[.int .i64 a,.int .i64 b,.int .i64 c,.slice q n cap,.int .i64 t,.bool ok] 324)).cell? ⟨w.heap.size,4,none⟩=some (.int .i64 t)∧(w.alloc (.cells #[.int .i64 a,.int .i64 b,.int .i64 c,.slice q n cap,.int .i64 t,.bool ok] 324)).cell? ⟨w.heap.size,5,none⟩=some (.bool ok):=by
  have h:=vheap_new w (.cells #[.int .i64 a,.int .i64 b,.int .i64 c,.slice q n cap,.int .i64 t,.bool ok] 324)
  exact ⟨vblk_cell h 0,vblk_cell h 1,vblk_cell h 2,vblk_cell h 3,vblk_cell h 4,vblk_cell h 5⟩
 have hs1:(w.alloc (.cells #[.int .i64 a,.int .i64 b,.int .i64 c,.slice q n cap,.int .i64 t,.bool ok] 324)).heap.size=w.heap.size+1:=by simp
 have hap: ∀ g (w1:World) base,w.heap.size≤base→w1.ownsRow base 9 1 (.slice (some ⟨g,0,none⟩) 1 1) 1 (strsV [zeroT])→Value.ownBlock (.slice q n cap)=Value.ownBlock (.slice (some ⟨g,0,none⟩) 1 1)→Value.ownBlock (.slice q n cap)=none:=fun g w1 base hb og he=>by
  cases hk:Value.ownBlock (.slice q n cap) with
  |none=>rfl
  |some k=>
   have h1:=(hu.lt k hk).2
   rw [he] at hk
   have h2:=(og.lt k hk).1
   omega
 obtain ⟨WF,hWFd⟩: ∃ x,x=w.alloc (.cells #[.int .i64 a,.int .i64 b,.int .i64 c,.slice q n cap,.int .i64 t,.bool ok] 324):=⟨_,rfl⟩
 rw [←hWFd] at hWF C0 hs1
 have KEEP:Hid (∀ w1,Below WF.heap.size WF w1→w1.cell? ⟨w.heap.size,0,none⟩=some (.int .i64 a)∧w1.cell? ⟨w.heap.size,1,none⟩=some (.int .i64 b)∧w1.cell? ⟨w.heap.size,2,none⟩=some (.int .i64 c)∧w1.cell? ⟨w.heap.size,3,none⟩=some (.slice q n cap)∧w1.cell? ⟨w.heap.size,4,none⟩=some (.int .i64 t)∧w1.cell? ⟨w.heap.size,5,none⟩=some (.bool ok)):=fun w1 hb=>by
  have k: ∀ j,w1.cell? ⟨w.heap.size,j,none⟩=WF.cell? ⟨w.heap.size,j,none⟩:=fun j=>World.cell?_of_block (w:=WF) (hb.block w.heap.size (by omega))
  simp only [k];exact C0
 have k3:(t == 3)=true:=by simpa using h3
 have em:makeC 0 a b c ps t=[⟨0,a,b,c,ps⟩]:=by simp [makeC,h3]
 rw [em]
 have hd0:Below WF.heap.size WF WF:=Below.refl _ _
 subst hWFd
 clear em hnum ht KEEP h3 C0
 go_enter Tryz.func284,Tryz.ntmps284
 go_wp2_with fail
 go_ret
 exact ⟨_,rfl,one_own ⟨0,a,b,c,ps⟩ (by simp) (Nat.le_trans hlo hWF.size) (owns_of_below hu hWF),hWF.alloc hWF.size _⟩
theorem mk_eq (lo:Nat) (a b c:Int) (u:Value) (ps:List ByteArray) (t:Int) (ok:Bool) (w:World) (hlo:lo≤w.heap.size) (hnum:numsOk a b c) (ht:t=1∨t=2∨t=3) (h3: ¬t=3) (hu:w.ownsRow lo 9 1 u ps.length (strsV ps)):
    Calls Tryz.prog 284 #[.string ⟨#[61]⟩,.agg #[.int .i64 a,.int .i64 b,.int .i64 c,u,.int .i64 t,.bool ok]] w fun e w'=>∃ v,e=.returned v∧CmpsOwn lo w' v (makeC 0 a b c ps t)∧Below w.heap.size w w':=by
  obtain ⟨q,n,cap,hq⟩: ∃ q n cap,u=.slice q n cap:=by rcases hu.2 with ⟨rfl,_⟩|⟨g,cap,cur,rfl,_⟩<;>exact ⟨_,_,_,rfl⟩
  subst hq
  have hWF:Below w.heap.size w (w.alloc (.cells #[.int .i64 a,.int .i64 b,.int .i64 c,.slice q n cap,.int .i64 t,.bool ok] 324)):=(Below.refl _ _).alloc (Nat.le_refl _) _
  have C0:(w.alloc (.cells #[.int .i64 a,.int .i64 b,.int .i64 c,.slice q n cap,.int .i64 t,.bool ok] 324)).cell? ⟨w.heap.size,0,none⟩=some (.int .i64 a)∧(w.alloc (.cells #[.int .i64 a,.int .i64 b,.int .i64 c,.slice q n cap,.int .i64 t,.bool ok] 324)).cell? ⟨w.heap.size,1,none⟩=some (.int .i64 b)∧(w.alloc (.cells #[.int .i64 a,.int .i64 b,.int .i64 c,.slice q n cap,.int .i64 t,.bool ok] 324)).cell? ⟨w.heap.size,2,none⟩=some (.int .i64 c)∧(w.alloc (.cells #[.int .i64 a,.int .i64 b,.int .i64 c,.slice q n cap,.int .i64 t,.bool ok] 324)).cell? ⟨w.heap.size,3,none⟩=some (.slice q n cap)∧(w.alloc (.cells #[.int .i64 a,.int .i64 b,.int .i64 c,.slice q n cap,.int .i64 t,.bool ok] 324)).cell? ⟨w.heap.size,4,none⟩=some (.int .i64 t)∧(w.alloc (.cells #[.int .i64 a,.int .i64 b,.int .i64 c,.slice q n cap,.int .i64 t,.bool ok] 324)).cell? ⟨w.heap.size,5,none⟩=some (.bool ok):=by
    have h:=vheap_new w (.cells #[.int .i64 a,.int .i64 b,.int .i64 c,.slice q n cap,.int .i64 t,.bool ok] 324)
    exact ⟨vblk_cell h 0,vblk_cell h 1,vblk_cell h 2,vblk_cell h 3,vblk_cell h 4,vblk_cell h 5⟩
  have hs1:(w.alloc (.cells #[.int .i64 a,.int .i64 b,.int .i64 c,.slice q n cap,.int .i64 t,.bool ok] 324)).heap.size=w.heap.size+1:=by simp
  have hap: ∀ g (w1:World) base,w.heap.size≤base→w1.ownsRow base 9 1 (.slice (some ⟨g,0,none⟩) 1 1) 1 (strsV [zeroT])→Value.ownBlock (.slice q n cap)=Value.ownBlock (.slice (some ⟨g,0,none⟩) 1 1)→Value.ownBlock (.slice q n cap)=none:=fun g w1 base hb og he=>by
    cases hk:Value.ownBlock (.slice q n cap) with
    |none=>rfl
    |some k=>
      have h1:=(hu.lt k hk).2
      rw [he] at hk
      have h2:=(og.lt k hk).1
      omega
  obtain ⟨WF,hWFd⟩: ∃ x,x=w.alloc (.cells #[.int .i64 a,.int .i64 b,.int .i64 c,.slice q n cap,.int .i64 t,.bool ok] 324):=⟨_,rfl⟩
  rw [←hWFd] at hWF C0 hs1
  have KEEP:Hid (∀ w1,Below WF.heap.size WF w1→w1.cell? ⟨w.heap.size,0,none⟩=some (.int .i64 a)∧w1.cell? ⟨w.heap.size,1,none⟩=some (.int .i64 b)∧w1.cell? ⟨w.heap.size,2,none⟩=some (.int .i64 c)∧w1.cell? ⟨w.heap.size,3,none⟩=some (.slice q n cap)∧w1.cell? ⟨w.heap.size,4,none⟩=some (.int .i64 t)∧w1.cell? ⟨w.heap.size,5,none⟩=some (.bool ok)):=fun w1 hb=>by
    have k: ∀ j,w1.cell? ⟨w.heap.size,j,none⟩=WF.cell? ⟨w.heap.size,j,none⟩:=fun j=>World.cell?_of_block (w:=WF) (hb.block w.heap.size (by omega))
    simp only [k];exact C0
  have hm:min t 2=t:=by omega
  have k3:(t == 3)=false:=by simpa using h3
  have em:makeC 0 a b c ps t=[⟨4,a,b,c,ps⟩,⟨1,nextA (min t 2) a,nextB (min t 2) b,nextC (min t 2) c,[zeroT]⟩]:=by simp [makeC,h3,hm]
  obtain ⟨x,hx⟩: ∃ x,x=nextA (min t 2) a:=⟨_,rfl⟩
  obtain ⟨y,hy⟩: ∃ x,x=nextB (min t 2) b:=⟨_,rfl⟩
  obtain ⟨z,hz⟩: ∃ x,x=nextC (min t 2) c:=⟨_,rfl⟩
  rw [em, ←hx, ←hy, ←hz]
  have HF:Hid (∀ w1,Below WF.heap.size WF w1→Calls Tryz.prog 309 #[.agg #[.int .i64 a,.int .i64 b,.int .i64 c,.slice q n cap,.int .i64 t,.bool ok]] w1 fun e w'=>e=.returned (.agg #[.int .i64 4,.int .i64 a,.int .i64 b,.int .i64 c,.slice q n cap])∧Below w1.heap.size w1 w'∧Below WF.heap.size WF w'∧w'.cell? ⟨w.heap.size,0,none⟩=some (.int .i64 a)∧w'.cell? ⟨w.heap.size,1,none⟩=some (.int .i64 b)∧w'.cell? ⟨w.heap.size,2,none⟩=some (.int .i64 c)∧w'.cell? ⟨w.heap.size,3,none⟩=some (.slice q n cap)∧w'.cell? ⟨w.heap.size,4,none⟩=some (.int .i64 t)∧w'.cell? ⟨w.heap.size,5,none⟩=some (.bool ok)):=fun w1 hb=>(l4From_c a b c _ t ok w1 ⟨_,_,_,rfl⟩).mono (fun e w' ⟨h1,h2⟩=>⟨h1,h2,hb.trans (h2.mono hb.size),KEEP.out w' (hb.trans (h2.mono hb.size))⟩)
  have HN:Hid (∀ w1,Below WF.heap.size WF w1→Calls Tryz.prog 313 #[.agg #[.int .i64 a,.int .i64 b,.int .i64 c,.slice q n cap,.int .i64 t,.bool ok]] w1 fun e w'=>e=.returned (.agg #[.int .i64 x,.int .i64 y,.int .i64 z,.slice none 0 0])∧Below w1.heap.size w1 w'∧Below WF.heap.size WF w'∧w'.cell? ⟨w.heap.size,0,none⟩=some (.int .i64 a)∧w'.cell? ⟨w.heap.size,1,none⟩=some (.int .i64 b)∧w'.cell? ⟨w.heap.size,2,none⟩=some (.int .i64 c)∧w'.cell? ⟨w.heap.size,3,none⟩=some (.slice q n cap)∧w'.cell? ⟨w.heap.size,4,none⟩=some (.int .i64 t)∧w'.cell? ⟨w.heap.size,5,none⟩=some (.bool ok)):=fun w1 hb=>(l4Next_c a b c _ t ok hnum ht w1 ⟨_,_,_,rfl⟩).mono (fun e w' ⟨h1,h2⟩=>⟨by rw [h1, ←hx, ←hy, ←hz],h2,hb.trans (h2.mono hb.size),KEEP.out w' (hb.trans (h2.mono hb.size))⟩)
  have HB:Hid (∀ w1,Below WF.heap.size WF w1→Calls Tryz.prog 310 #[.agg #[.int .i64 x,.int .i64 y,.int .i64 z,.slice none 0 0]] w1 fun e w'=>∃ g,e=.returned (.agg #[.int .i64 1,.int .i64 x,.int .i64 y,.int .i64 z,.slice (some ⟨g,0,none⟩) 1 1])∧w'.ownsRow WF.heap.size 9 1 (.slice (some ⟨g,0,none⟩) 1 1) 1 (strsV [zeroT])∧Below WF.heap.size WF w'∧w'.cell? ⟨w.heap.size,0,none⟩=some (.int .i64 a)∧w'.cell? ⟨w.heap.size,1,none⟩=some (.int .i64 b)∧w'.cell? ⟨w.heap.size,2,none⟩=some (.int .i64 c)∧w'.cell? ⟨w.heap.size,3,none⟩=some (.slice q n cap)∧w'.cell? ⟨w.heap.size,4,none⟩=some (.int .i64 t)∧w'.cell? ⟨w.heap.size,5,none⟩=some (.bool ok)):=fun w1 hb=>(l4Below_c x y z _ w1 ⟨_,_,_,rfl⟩).mono (fun e w' ⟨g,h1,h2,h3⟩=>⟨g,h1,owns_base h2 hb.size,hb.trans (h3.mono hb.size),KEEP.out w' (hb.trans (h3.mono hb.size))⟩)
  have hd0:Below WF.heap.size WF WF.drew:=(Below.refl _ _).drew
  have D0:=KEEP.out _ hd0
  obtain ⟨d0,d1,d2,d3,d4,d5⟩:=D0
  obtain ⟨c0,c1,c2,c3,c4,c5⟩:=C0
  clear hx hy hz em hnum ht KEEP hm h3
  go_enter Tryz.func284,Tryz.ntmps284
  go_wp2_with fail
  rw [←hWFd]
  clear hWFd
  go_region_with (first
    | (go_at_call 309; refine (HF.out _ ?_).mono ?_; · assumption
       rintro e wF ⟨rfl, bF, BF, ⟨c0, c1, c2, c3, c4, c5⟩⟩)
    | (go_at_call 313; refine (HN.out _ ?_).mono ?_; · assumption
       rintro e wN ⟨rfl, bN, BN, ⟨c0, c1, c2, c3, c4, c5⟩⟩)
    | (go_at_call 310; refine (HB.out _ ?_).mono ?_; · assumption
       rintro e wB ⟨g, rfl, og, BB, ⟨c0, c1, c2, c3, c4, c5⟩⟩))
  all_goals go_wp2_with fail
  all_goals go_ret
  all_goals
    have hx:=hWF.trans (BB.mono hWF.size)
    exact ⟨_,rfl,two_own ⟨4,a,b,c,ps⟩ ⟨1,x,y,z,[zeroT]⟩ (by simp) (Nat.le_trans hlo hx.size) (owns_of_below hu hx) (owns_base og (Nat.le_trans hlo hWF.size)) (hap g _ _ hWF.size og),hx.alloc hx.size _⟩
end Go.Proofs.YtlfmefojcmpfeaaGreatDoor
