/-
  Contracts for the walks and pure facts, several texts in one: each theorem says what it proves, and under which conditions.
-/
import Derived.Test.YtlfmefojcmpfeaaGreatDoorUT
import Derived.Test.YtlfmefojcmpfeaaGreatDoorU7
set_option linter.unusedSimpArgs false
set_option linter.unusedVariables false
set_option maxHeartbeats 16000000
set_option maxRecDepth 100000
namespace Go.Proofs.YtlfmefojcmpfeaaGreatDoor
open Go.RowKit
def makeC (sign a b c:Int) (ps:List ByteArray) (t:Int):List CmpD:=
 let below:Int→CmpD:=fun k=>⟨1,nextA k a,nextB k b,nextC k c,[zeroT]⟩
 if sign=5 then [⟨4,a,b,c,ps⟩,below (min t 2)]
 else if sign=6 then [⟨4,a,b,c,ps⟩,below (caretK a b t)]
 else if t=3∨sign=1∨sign=4 then [⟨sign,a,b,c,ps⟩]
 else if sign=3 then [⟨4,nextA t a,nextB t b,nextC t c,[]⟩]
 else if sign=2 then [below t]
 else [⟨4,a,b,c,ps⟩,below t]
theorem owns_nil (w:World) (base:Nat):w.ownsRow base 9 1 (.slice none 0 0) 0 (strsV []):=⟨rfl,.inl ⟨rfl,rfl⟩⟩
theorem cmps_c (lo:Nat) (sign a b c:Int) (u:Value) (ps:List ByteArray) (t:Int) (w:World) (hlo:lo≤w.heap.size) (hnum:numsOk a b c) (ht:t=1∨t=2∨t=3) (hu:w.ownsRow lo 9 1 u ps.length (strsV ps)):
  Calls Tryz.prog 275 #[.agg #[.int .i64 a,.int .i64 b,.int .i64 c,u,.int .i64 t],.int .i64 sign] w fun e w'=>∃ v,e=.returned v∧CmpsOwn lo w' v (makeC sign a b c ps t)∧Below w.heap.size w w':=by
 obtain ⟨q,n,cap,hq⟩: ∃ q n cap,u=.slice q n cap:=by rcases hu.2 with ⟨rfl,_⟩|⟨g,cap,cur,rfl,_⟩<;>exact ⟨_,_,_,rfl⟩
 subst hq
 have HL:Hid (∀ k w1,Calls Tryz.prog 302 #[.agg #[.int .i64 a,.int .i64 b,.int .i64 c,.slice q n cap,.int .i64 t],.int .i64 k] w1 fun e w'=>∃ g,e=.returned (.agg #[.int .i64 1,.int .i64 (nextA k a),.int .i64 (nextB k b),.int .i64 (nextC k c),.slice (some ⟨g,0,none⟩) 1 1])∧w'.ownsRow w1.heap.size 9 1 (.slice (some ⟨g,0,none⟩) 1 1) 1 (strsV [zeroT])∧Below w1.heap.size w1 w'):=fun k w1=>lessThanNext_c a b c _ t k w1 hnum ⟨_,_,_,rfl⟩
 have HX:Hid (∀ k w1,Calls Tryz.prog 304 #[.agg #[.int .i64 a,.int .i64 b,.int .i64 c,.slice q n cap,.int .i64 t],.int .i64 k] w1 fun e w'=>e=.returned (.agg #[.int .i64 (nextA k a),.int .i64 (nextB k b),.int .i64 (nextC k c),.slice none 0 0])∧Below w1.heap.size w1 w'):=fun k w1=>next_c a b c _ t k w1 hnum ⟨_,_,_,rfl⟩
 have HK:Hid (∀ w1,Calls Tryz.prog 303 #[.agg #[.int .i64 a,.int .i64 b,.int .i64 c,.slice q n cap,.int .i64 t]] w1 fun e w'=>e=.returned (.int .i64 (caretK a b t))∧Below w1.heap.size w1 w'):=fun w1=>caretTold_c a b c _ t w1 ⟨_,_,_,rfl⟩
 have hap: ∀ g (w1:World) base,w.heap.size≤base→w1.ownsRow base 9 1 (.slice (some ⟨g,0,none⟩) 1 1) 1 (strsV [zeroT])→Value.ownBlock (.slice q n cap)=Value.ownBlock (.slice (some ⟨g,0,none⟩) 1 1)→Value.ownBlock (.slice q n cap)=none:=fun g w1 base hb og he=>by
  cases hk:Value.ownBlock (.slice q n cap) with
  |none=>rfl
  |some k=>
   have h1:=(hu.lt k hk).2
   rw [he] at hk
   have h2:=(og.lt k hk).1
   omega
 have hWF:Below w.heap.size w ((w.alloc (.cells #[.int .i64 a,.int .i64 b,.int .i64 c,.slice q n cap,.int .i64 t] 313)).alloc (.cells #[.int .i64 4,.int .i64 a,.int .i64 b,.int .i64 c,.slice q n cap] 214)):=box_two _ _
 obtain ⟨P0,F0⟩:Five ((w.alloc (.cells #[.int .i64 a,.int .i64 b,.int .i64 c,.slice q n cap,.int .i64 t] 313)).alloc (.cells #[.int .i64 4,.int .i64 a,.int .i64 b,.int .i64 c,.slice q n cap] 214)) w.heap.size 313 (.int .i64 a) (.int .i64 b) (.int .i64 c) (.slice q n cap) (.int .i64 t)∧Five ((w.alloc (.cells #[.int .i64 a,.int .i64 b,.int .i64 c,.slice q n cap,.int .i64 t] 313)).alloc (.cells #[.int .i64 4,.int .i64 a,.int .i64 b,.int .i64 c,.slice q n cap] 214)) (w.heap.size+1) 214 (.int .i64 4) (.int .i64 a) (.int .i64 b) (.int .i64 c) (.slice q n cap):=by
  refine ⟨(five_new _ _ _ _ _ _ _).keep ((Below.refl _ _).alloc (Nat.le_refl _) _),?_⟩
  have h:=five_new (w.alloc (.cells #[.int .i64 a,.int .i64 b,.int .i64 c,.slice q n cap,.int .i64 t] 313)) 214 (.int .i64 4) (.int .i64 a) (.int .i64 b) (.int .i64 c) (.slice q n cap)
  have s1: ∀ o,(w.alloc o).heap.size=w.heap.size+1:=fun o=>by simp
  rw [s1] at h
  exact h
 have hn2: ∀ w1,Below ((w.alloc (.cells #[.int .i64 a,.int .i64 b,.int .i64 c,.slice q n cap,.int .i64 t] 313)).alloc (.cells #[.int .i64 4,.int .i64 a,.int .i64 b,.int .i64 c,.slice q n cap] 214)).heap.size ((w.alloc (.cells #[.int .i64 a,.int .i64 b,.int .i64 c,.slice q n cap,.int .i64 t] 313)).alloc (.cells #[.int .i64 4,.int .i64 a,.int .i64 b,.int .i64 c,.slice q n cap] 214)) w1→Below w.heap.size w w1:=fun w1 h=>hWF.trans (h.mono hWF.size)
 have KEEP:Hid (∀ w1,Below ((w.alloc (.cells #[.int .i64 a,.int .i64 b,.int .i64 c,.slice q n cap,.int .i64 t] 313)).alloc (.cells #[.int .i64 4,.int .i64 a,.int .i64 b,.int .i64 c,.slice q n cap] 214)).heap.size ((w.alloc (.cells #[.int .i64 a,.int .i64 b,.int .i64 c,.slice q n cap,.int .i64 t] 313)).alloc (.cells #[.int .i64 4,.int .i64 a,.int .i64 b,.int .i64 c,.slice q n cap] 214)) w1→w1.cell? ⟨w.heap.size,0,none⟩=some (.int .i64 a)∧w1.cell? ⟨w.heap.size,1,none⟩=some (.int .i64 b)∧w1.cell? ⟨w.heap.size,2,none⟩=some (.int .i64 c)∧w1.cell? ⟨w.heap.size,3,none⟩=some (.slice q n cap)∧w1.cell? ⟨w.heap.size,4,none⟩=some (.int .i64 t)∧w1.cell? ⟨w.heap.size+1,0,none⟩=some (.int .i64 4)∧w1.cell? ⟨w.heap.size+1,1,none⟩=some (.int .i64 a)∧w1.cell? ⟨w.heap.size+1,2,none⟩=some (.int .i64 b)∧w1.cell? ⟨w.heap.size+1,3,none⟩=some (.int .i64 c)∧w1.cell? ⟨w.heap.size+1,4,none⟩=some (.slice q n cap)):=fun w1 h=>⟨(P0.keep h).cells.1,(P0.keep h).cells.2.1,(P0.keep h).cells.2.2.1,(P0.keep h).cells.2.2.2.1,(P0.keep h).cells.2.2.2.2,(F0.keep h).cells⟩
 rcases ht with rfl|rfl|rfl
 ·go_enter Tryz.func275,Tryz.ntmps275
  by_cases h5:sign=5
  ·subst h5
   have em:makeC 5 a b c ps 1=[⟨4,a,b,c,ps⟩,⟨1,nextA 1 a,nextB 1 b,nextC 1 c,[zeroT]⟩]:=by rfl
   rw [em]
   clear em
   go_wp2_with fail
   generalize ((w.alloc (.cells #[.int .i64 a,.int .i64 b,.int .i64 c,.slice q n cap,.int .i64 1] 313)).alloc (.cells #[.int .i64 4,.int .i64 a,.int .i64 b,.int .i64 c,.slice q n cap] 214))=WF at hWF P0 F0 hn2 KEEP ⊢
   have hd0:Below WF.heap.size WF WF.drew:=(Below.refl _ _).drew
   refine wp_region_held_drew (S:=(fun w'=>w'.cell? ⟨w.heap.size,0,none⟩=some (.int .i64 a)∧w'.cell? ⟨w.heap.size,1,none⟩=some (.int .i64 b)∧w'.cell? ⟨w.heap.size,2,none⟩=some (.int .i64 c)∧w'.cell? ⟨w.heap.size,3,none⟩=some (.slice q n cap)∧w'.cell? ⟨w.heap.size,4,none⟩=some (.int .i64 1)∧w'.cell? ⟨w.heap.size+1,0,none⟩=some (.int .i64 4)∧w'.cell? ⟨w.heap.size+1,1,none⟩=some (.int .i64 a)∧w'.cell? ⟨w.heap.size+1,2,none⟩=some (.int .i64 b)∧w'.cell? ⟨w.heap.size+1,3,none⟩=some (.int .i64 c)∧w'.cell? ⟨w.heap.size+1,4,none⟩=some (.slice q n cap))) (by kernel_rfl) ?SR10 (fun hHeld=>?_)
   case SR10=>(first|(with_reducible exact KEEP.out _ hd0)|(with_reducible exact KEEP.out _ hd1)|(with_reducible exact KEEP.out _ hd2)|(with_reducible exact KEEP.out _ hd3))
   refine tk 0 hHeld (h:=?_)
   refine tk 1 hHeld (h:=?_)
   refine tk 2 hHeld (h:=?_)
   refine tk 3 hHeld (h:=?_)
   refine tk 4 hHeld (h:=?_)
   refine wpAnyH_ready (rs:=[5]) (by kernel_rfl) (by simp) ?_
   refine AllReadyH.cons rfl (fun K hK=>?_) AllReadyH.nil
   go_simp
   go_wp2_with (go_at_call 302;refine (HL.out 1 _).mono ?_;rintro e w1 ⟨g,rfl,og,b1⟩;have hd1:Below WF.heap.size WF w1:=hd0.trans (b1.mono hd0.size);have ol:w.heap.size≤WF.drew.heap.size:=hWF.size)
   clear hHeld
   refine hK.out _ _ ?SR16 (fun hHeld=>?_)
   case SR16=>((try dsimp only);first|(with_reducible exact KEEP.out _ hd0)|(with_reducible exact KEEP.out _ hd1)|(with_reducible exact KEEP.out _ hd2)|(with_reducible exact KEEP.out _ hd3))
   clear hK K
   refine wpAnyH_ready (rs:=[6]) (by kernel_rfl) (by simp) ?_
   refine AllReadyH.cons rfl (fun K hK=>?_) AllReadyH.nil
   go_simp
   clear hHeld
   refine hK.out _ _ ?SR17 (fun hHeld=>?_)
   case SR17=>((try dsimp only);exact KEEP.out _ (hd1.alloc hd1.size _))
   clear hK K
   refine tk 7 hHeld (h:=?_)
   refine wpAnyH_done (by kernel_rfl) ?_ _
   have OL:w.heap.size≤WF.drew.heap.size:=hWF.size
   go_wp2_with fail
   go_ret
   have hx:=hn2 _ hd1
   refine ⟨_,rfl,two_own ⟨4,a,b,c,ps⟩ ⟨1,nextA 1 a,nextB 1 b,nextC 1 c,[zeroT]⟩ (by simp) (Nat.le_trans hlo hx.size) (owns_of_below hu hx) (owns_base og (Nat.le_trans hlo OL)) (hap g _ _ OL og),hx.alloc hx.size _⟩
  by_cases h6:sign=6
  ·subst h6
   have em:makeC 6 a b c ps 1=[⟨4,a,b,c,ps⟩,⟨1,nextA (caretK a b 1) a,nextB (caretK a b 1) b,nextC (caretK a b 1) c,[zeroT]⟩]:=by rfl
   rw [em]
   clear em
   go_wp2_with fail
   generalize ((w.alloc (.cells #[.int .i64 a,.int .i64 b,.int .i64 c,.slice q n cap,.int .i64 1] 313)).alloc (.cells #[.int .i64 4,.int .i64 a,.int .i64 b,.int .i64 c,.slice q n cap] 214))=WF at hWF P0 F0 hn2 KEEP ⊢
   have hd0:Below WF.heap.size WF WF.drew:=(Below.refl _ _).drew
   refine wp_region_held_drew (S:=(fun w'=>w'.cell? ⟨w.heap.size,0,none⟩=some (.int .i64 a)∧w'.cell? ⟨w.heap.size,1,none⟩=some (.int .i64 b)∧w'.cell? ⟨w.heap.size,2,none⟩=some (.int .i64 c)∧w'.cell? ⟨w.heap.size,3,none⟩=some (.slice q n cap)∧w'.cell? ⟨w.heap.size,4,none⟩=some (.int .i64 1)∧w'.cell? ⟨w.heap.size+1,0,none⟩=some (.int .i64 4)∧w'.cell? ⟨w.heap.size+1,1,none⟩=some (.int .i64 a)∧w'.cell? ⟨w.heap.size+1,2,none⟩=some (.int .i64 b)∧w'.cell? ⟨w.heap.size+1,3,none⟩=some (.int .i64 c)∧w'.cell? ⟨w.heap.size+1,4,none⟩=some (.slice q n cap))) (by kernel_rfl) ?SR20 (fun hHeld=>?_)
   case SR20=>(first|(with_reducible exact KEEP.out _ hd0)|(with_reducible exact KEEP.out _ hd1)|(with_reducible exact KEEP.out _ hd2)|(with_reducible exact KEEP.out _ hd3))
   refine tk 0 hHeld (h:=?_)
   refine tk 1 hHeld (h:=?_)
   refine tk 2 hHeld (h:=?_)
   refine wpAnyH_ready (rs:=[3]) (by kernel_rfl) (by simp) ?_
   refine AllReadyH.cons rfl (fun K hK=>?_) AllReadyH.nil
   go_simp
   go_wp2_with (go_at_call 303;refine (HK.out _).mono ?_;rintro e w1 ⟨rfl,b1⟩;have hd1:Below WF.heap.size WF w1:=hd0.trans (b1.mono hd0.size))
   clear hHeld
   refine hK.out _ _ ?SR24 (fun hHeld=>?_)
   case SR24=>((try dsimp only);first|(with_reducible exact KEEP.out _ hd0)|(with_reducible exact KEEP.out _ hd1)|(with_reducible exact KEEP.out _ hd2)|(with_reducible exact KEEP.out _ hd3))
   clear hK K
   refine wpAnyH_ready (rs:=[4]) (by kernel_rfl) (by simp) ?_
   refine AllReadyH.cons rfl (fun K hK=>?_) AllReadyH.nil
   go_simp
   go_wp2_with (go_at_call 302;refine (HL.out (caretK a b 1) _).mono ?_;rintro e w2 ⟨g,rfl,og,b2⟩;have hd2:Below WF.heap.size WF w2:=hd1.trans (b2.mono hd1.size))
   clear hHeld
   refine hK.out _ _ ?SR25 (fun hHeld=>?_)
   case SR25=>((try dsimp only);first|(with_reducible exact KEEP.out _ hd0)|(with_reducible exact KEEP.out _ hd1)|(with_reducible exact KEEP.out _ hd2)|(with_reducible exact KEEP.out _ hd3))
   clear hK K
   refine wpAnyH_ready (rs:=[5]) (by kernel_rfl) (by simp) ?_
   refine AllReadyH.cons rfl (fun K hK=>?_) AllReadyH.nil
   go_simp
   clear hHeld
   refine hK.out _ _ ?SR26 (fun hHeld=>?_)
   case SR26=>((try dsimp only);exact KEEP.out _ (hd2.alloc hd2.size _))
   clear hK K
   refine tk 6 hHeld (h:=?_)
   refine wpAnyH_done (by kernel_rfl) ?_ _
   have OL:w.heap.size≤w1.heap.size:=Nat.le_trans hWF.size hd1.size
   go_wp2_with fail
   go_ret
   have hx:=hn2 _ hd2
   refine ⟨_,rfl,two_own ⟨4,a,b,c,ps⟩ ⟨1,nextA (caretK a b 1) a,nextB (caretK a b 1) b,nextC (caretK a b 1) c,[zeroT]⟩ (by simp) (Nat.le_trans hlo hx.size) (owns_of_below hu hx) (owns_base og (Nat.le_trans hlo OL)) (hap g _ _ OL og),hx.alloc hx.size _⟩
  by_cases h1:sign=1
  ·subst h1
   have em:makeC 1 a b c ps 1=[⟨1,a,b,c,ps⟩]:=by rfl
   rw [em]
   clear em
   go_wp2_with fail
   go_ret
   exact ⟨_,rfl,one_own ⟨1,a,b,c,ps⟩ (by simp) (Nat.le_trans hlo hWF.size) (owns_of_below hu hWF),hWF.alloc hWF.size _⟩
  by_cases h4:sign=4
  ·subst h4
   have em:makeC 4 a b c ps 1=[⟨4,a,b,c,ps⟩]:=by rfl
   rw [em]
   clear em
   go_wp2_with fail
   go_ret
   exact ⟨_,rfl,one_own ⟨4,a,b,c,ps⟩ (by simp) (Nat.le_trans hlo hWF.size) (owns_of_below hu hWF),hWF.alloc hWF.size _⟩
  by_cases h3:sign=3
  ·subst h3
   have em:makeC 3 a b c ps 1=[⟨4,nextA 1 a,nextB 1 b,nextC 1 c,[]⟩]:=by rfl
   rw [em]
   clear em
   go_wp2_with (go_at_call 304;refine (HX.out 1 _).mono ?_;rintro e w1 ⟨rfl,b1⟩;have hx:=hn2 _ b1)
   go_ret
   exact ⟨_,rfl,one_own ⟨4,nextA 1 a,nextB 1 b,nextC 1 c,[]⟩ (by simp) (Nat.le_trans hlo hx.size) (owns_nil _ _),hx.alloc hx.size _⟩
  by_cases h2:sign=2
  ·subst h2
   have em:makeC 2 a b c ps 1=[⟨1,nextA 1 a,nextB 1 b,nextC 1 c,[zeroT]⟩]:=by rfl
   rw [em]
   clear em
   go_wp2_with (go_at_call 302;refine (HL.out 1 _).mono ?_;rintro e w1 ⟨g,rfl,og,b1⟩;have hx:=hn2 _ b1)
   go_ret
   exact ⟨_,rfl,one_own ⟨1,nextA 1 a,nextB 1 b,nextC 1 c,[zeroT]⟩ (by simp) (Nat.le_trans hlo hx.size) (owns_base og (Nat.le_trans hlo hWF.size)),hx.alloc hx.size _⟩
  have k5:(sign == 5)=false:=by simpa using h5
  have k6:(sign == 6)=false:=by simpa using h6
  have k1:(sign == 1)=false:=by simpa using h1
  have k4:(sign == 4)=false:=by simpa using h4
  have k3:(sign == 3)=false:=by simpa using h3
  have k2:(sign == 2)=false:=by simpa using h2
  have em:makeC sign a b c ps 1=[⟨4,a,b,c,ps⟩,⟨1,nextA 1 a,nextB 1 b,nextC 1 c,[zeroT]⟩]:=by simp [makeC,h5,h6,h1,h4,h3,h2]
  rw [em]
  clear em
  clear h5 h6 h1 h4 h3 h2
  go_wp2_with fail
  generalize ((w.alloc (.cells #[.int .i64 a,.int .i64 b,.int .i64 c,.slice q n cap,.int .i64 1] 313)).alloc (.cells #[.int .i64 4,.int .i64 a,.int .i64 b,.int .i64 c,.slice q n cap] 214))=WF at hWF P0 F0 hn2 KEEP ⊢
  have hd0:Below WF.heap.size WF WF.drew:=(Below.refl _ _).drew
  refine wp_region_held_drew (S:=(fun w'=>w'.cell? ⟨w.heap.size,0,none⟩=some (.int .i64 a)∧w'.cell? ⟨w.heap.size,1,none⟩=some (.int .i64 b)∧w'.cell? ⟨w.heap.size,2,none⟩=some (.int .i64 c)∧w'.cell? ⟨w.heap.size,3,none⟩=some (.slice q n cap)∧w'.cell? ⟨w.heap.size,4,none⟩=some (.int .i64 1)∧w'.cell? ⟨w.heap.size+1,0,none⟩=some (.int .i64 4)∧w'.cell? ⟨w.heap.size+1,1,none⟩=some (.int .i64 a)∧w'.cell? ⟨w.heap.size+1,2,none⟩=some (.int .i64 b)∧w'.cell? ⟨w.heap.size+1,3,none⟩=some (.int .i64 c)∧w'.cell? ⟨w.heap.size+1,4,none⟩=some (.slice q n cap))) (by kernel_rfl) ?SR30 (fun hHeld=>?_)
  case SR30=>(first|(with_reducible exact KEEP.out _ hd0)|(with_reducible exact KEEP.out _ hd1)|(with_reducible exact KEEP.out _ hd2)|(with_reducible exact KEEP.out _ hd3))
  refine tk 0 hHeld (h:=?_)
  refine tk 1 hHeld (h:=?_)
  refine tk 2 hHeld (h:=?_)
  refine tk 3 hHeld (h:=?_)
  refine wpAnyH_ready (rs:=[4]) (by kernel_rfl) (by simp) ?_
  refine AllReadyH.cons rfl (fun K hK=>?_) AllReadyH.nil
  go_simp
  go_wp2_with (go_at_call 302;refine (HL.out 1 _).mono ?_;rintro e w1 ⟨g,rfl,og,b1⟩;have hd1:Below WF.heap.size WF w1:=hd0.trans (b1.mono hd0.size);have ol:w.heap.size≤WF.drew.heap.size:=hWF.size)
  clear hHeld
  refine hK.out _ _ ?SR35 (fun hHeld=>?_)
  case SR35=>((try dsimp only);first|(with_reducible exact KEEP.out _ hd0)|(with_reducible exact KEEP.out _ hd1)|(with_reducible exact KEEP.out _ hd2)|(with_reducible exact KEEP.out _ hd3))
  clear hK K
  refine wpAnyH_ready (rs:=[5]) (by kernel_rfl) (by simp) ?_
  refine AllReadyH.cons rfl (fun K hK=>?_) AllReadyH.nil
  go_simp
  clear hHeld
  refine hK.out _ _ ?SR36 (fun hHeld=>?_)
  case SR36=>((try dsimp only);exact KEEP.out _ (hd1.alloc hd1.size _))
  clear hK K
  refine tk 6 hHeld (h:=?_)
  refine wpAnyH_done (by kernel_rfl) ?_ _
  have OL:w.heap.size≤WF.drew.heap.size:=hWF.size
  go_wp2_with fail
  go_ret
  have hx:=hn2 _ hd1
  refine ⟨_,rfl,two_own ⟨4,a,b,c,ps⟩ ⟨1,nextA 1 a,nextB 1 b,nextC 1 c,[zeroT]⟩ (by simp) (Nat.le_trans hlo hx.size) (owns_of_below hu hx) (owns_base og (Nat.le_trans hlo OL)) (hap g _ _ OL og),hx.alloc hx.size _⟩
 ·go_enter Tryz.func275,Tryz.ntmps275
  by_cases h5:sign=5
  ·subst h5
   have em:makeC 5 a b c ps 2=[⟨4,a,b,c,ps⟩,⟨1,nextA 2 a,nextB 2 b,nextC 2 c,[zeroT]⟩]:=by rfl
   rw [em]
   clear em
   go_wp2_with fail
   generalize ((w.alloc (.cells #[.int .i64 a,.int .i64 b,.int .i64 c,.slice q n cap,.int .i64 2] 313)).alloc (.cells #[.int .i64 4,.int .i64 a,.int .i64 b,.int .i64 c,.slice q n cap] 214))=WF at hWF P0 F0 hn2 KEEP ⊢
   have hd0:Below WF.heap.size WF WF.drew:=(Below.refl _ _).drew
   refine wp_region_held_drew (S:=(fun w'=>w'.cell? ⟨w.heap.size,0,none⟩=some (.int .i64 a)∧w'.cell? ⟨w.heap.size,1,none⟩=some (.int .i64 b)∧w'.cell? ⟨w.heap.size,2,none⟩=some (.int .i64 c)∧w'.cell? ⟨w.heap.size,3,none⟩=some (.slice q n cap)∧w'.cell? ⟨w.heap.size,4,none⟩=some (.int .i64 2)∧w'.cell? ⟨w.heap.size+1,0,none⟩=some (.int .i64 4)∧w'.cell? ⟨w.heap.size+1,1,none⟩=some (.int .i64 a)∧w'.cell? ⟨w.heap.size+1,2,none⟩=some (.int .i64 b)∧w'.cell? ⟨w.heap.size+1,3,none⟩=some (.int .i64 c)∧w'.cell? ⟨w.heap.size+1,4,none⟩=some (.slice q n cap))) (by kernel_rfl) ?SR40 (fun hHeld=>?_)
   case SR40=>(first|(with_reducible exact KEEP.out _ hd0)|(with_reducible exact KEEP.out _ hd1)|(with_reducible exact KEEP.out _ hd2)|(with_reducible exact KEEP.out _ hd3))
   refine tk 0 hHeld (h:=?_)
   refine tk 1 hHeld (h:=?_)
   refine tk 2 hHeld (h:=?_)
   refine tk 3 hHeld (h:=?_)
   refine tk 4 hHeld (h:=?_)
   refine wpAnyH_ready (rs:=[5]) (by kernel_rfl) (by simp) ?_
   refine AllReadyH.cons rfl (fun K hK=>?_) AllReadyH.nil
   go_simp
   go_wp2_with (go_at_call 302;refine (HL.out 2 _).mono ?_;rintro e w1 ⟨g,rfl,og,b1⟩;have hd1:Below WF.heap.size WF w1:=hd0.trans (b1.mono hd0.size);have ol:w.heap.size≤WF.drew.heap.size:=hWF.size)
   clear hHeld
   refine hK.out _ _ ?SR46 (fun hHeld=>?_)
   case SR46=>((try dsimp only);first|(with_reducible exact KEEP.out _ hd0)|(with_reducible exact KEEP.out _ hd1)|(with_reducible exact KEEP.out _ hd2)|(with_reducible exact KEEP.out _ hd3))
   clear hK K
   refine wpAnyH_ready (rs:=[6]) (by kernel_rfl) (by simp) ?_
   refine AllReadyH.cons rfl (fun K hK=>?_) AllReadyH.nil
   go_simp
   clear hHeld
   refine hK.out _ _ ?SR47 (fun hHeld=>?_)
   case SR47=>((try dsimp only);exact KEEP.out _ (hd1.alloc hd1.size _))
   clear hK K
   refine tk 7 hHeld (h:=?_)
   refine wpAnyH_done (by kernel_rfl) ?_ _
   have OL:w.heap.size≤WF.drew.heap.size:=hWF.size
   go_wp2_with fail
   go_ret
   have hx:=hn2 _ hd1
   refine ⟨_,rfl,two_own ⟨4,a,b,c,ps⟩ ⟨1,nextA 2 a,nextB 2 b,nextC 2 c,[zeroT]⟩ (by simp) (Nat.le_trans hlo hx.size) (owns_of_below hu hx) (owns_base og (Nat.le_trans hlo OL)) (hap g _ _ OL og),hx.alloc hx.size _⟩
  by_cases h6:sign=6
  ·subst h6
   have em:makeC 6 a b c ps 2=[⟨4,a,b,c,ps⟩,⟨1,nextA (caretK a b 2) a,nextB (caretK a b 2) b,nextC (caretK a b 2) c,[zeroT]⟩]:=by rfl
   rw [em]
   clear em
   go_wp2_with fail
   generalize ((w.alloc (.cells #[.int .i64 a,.int .i64 b,.int .i64 c,.slice q n cap,.int .i64 2] 313)).alloc (.cells #[.int .i64 4,.int .i64 a,.int .i64 b,.int .i64 c,.slice q n cap] 214))=WF at hWF P0 F0 hn2 KEEP ⊢
   have hd0:Below WF.heap.size WF WF.drew:=(Below.refl _ _).drew
   refine wp_region_held_drew (S:=(fun w'=>w'.cell? ⟨w.heap.size,0,none⟩=some (.int .i64 a)∧w'.cell? ⟨w.heap.size,1,none⟩=some (.int .i64 b)∧w'.cell? ⟨w.heap.size,2,none⟩=some (.int .i64 c)∧w'.cell? ⟨w.heap.size,3,none⟩=some (.slice q n cap)∧w'.cell? ⟨w.heap.size,4,none⟩=some (.int .i64 2)∧w'.cell? ⟨w.heap.size+1,0,none⟩=some (.int .i64 4)∧w'.cell? ⟨w.heap.size+1,1,none⟩=some (.int .i64 a)∧w'.cell? ⟨w.heap.size+1,2,none⟩=some (.int .i64 b)∧w'.cell? ⟨w.heap.size+1,3,none⟩=some (.int .i64 c)∧w'.cell? ⟨w.heap.size+1,4,none⟩=some (.slice q n cap))) (by kernel_rfl) ?SR50 (fun hHeld=>?_)
   case SR50=>(first|(with_reducible exact KEEP.out _ hd0)|(with_reducible exact KEEP.out _ hd1)|(with_reducible exact KEEP.out _ hd2)|(with_reducible exact KEEP.out _ hd3))
   refine tk 0 hHeld (h:=?_)
   refine tk 1 hHeld (h:=?_)
   refine tk 2 hHeld (h:=?_)
   refine wpAnyH_ready (rs:=[3]) (by kernel_rfl) (by simp) ?_
   refine AllReadyH.cons rfl (fun K hK=>?_) AllReadyH.nil
   go_simp
   go_wp2_with (go_at_call 303;refine (HK.out _).mono ?_;rintro e w1 ⟨rfl,b1⟩;have hd1:Below WF.heap.size WF w1:=hd0.trans (b1.mono hd0.size))
   clear hHeld
   refine hK.out _ _ ?SR54 (fun hHeld=>?_)
   case SR54=>((try dsimp only);first|(with_reducible exact KEEP.out _ hd0)|(with_reducible exact KEEP.out _ hd1)|(with_reducible exact KEEP.out _ hd2)|(with_reducible exact KEEP.out _ hd3))
   clear hK K
   refine wpAnyH_ready (rs:=[4]) (by kernel_rfl) (by simp) ?_
   refine AllReadyH.cons rfl (fun K hK=>?_) AllReadyH.nil
   go_simp
   go_wp2_with (go_at_call 302;refine (HL.out (caretK a b 2) _).mono ?_;rintro e w2 ⟨g,rfl,og,b2⟩;have hd2:Below WF.heap.size WF w2:=hd1.trans (b2.mono hd1.size))
   clear hHeld
   refine hK.out _ _ ?SR55 (fun hHeld=>?_)
   case SR55=>((try dsimp only);first|(with_reducible exact KEEP.out _ hd0)|(with_reducible exact KEEP.out _ hd1)|(with_reducible exact KEEP.out _ hd2)|(with_reducible exact KEEP.out _ hd3))
   clear hK K
   refine wpAnyH_ready (rs:=[5]) (by kernel_rfl) (by simp) ?_
   refine AllReadyH.cons rfl (fun K hK=>?_) AllReadyH.nil
   go_simp
   clear hHeld
   refine hK.out _ _ ?SR56 (fun hHeld=>?_)
   case SR56=>((try dsimp only);exact KEEP.out _ (hd2.alloc hd2.size _))
   clear hK K
   refine tk 6 hHeld (h:=?_)
   refine wpAnyH_done (by kernel_rfl) ?_ _
   have OL:w.heap.size≤w1.heap.size:=Nat.le_trans hWF.size hd1.size
   go_wp2_with fail
   go_ret
   have hx:=hn2 _ hd2
   refine ⟨_,rfl,two_own ⟨4,a,b,c,ps⟩ ⟨1,nextA (caretK a b 2) a,nextB (caretK a b 2) b,nextC (caretK a b 2) c,[zeroT]⟩ (by simp) (Nat.le_trans hlo hx.size) (owns_of_below hu hx) (owns_base og (Nat.le_trans hlo OL)) (hap g _ _ OL og),hx.alloc hx.size _⟩
  by_cases h1:sign=1
  ·subst h1
   have em:makeC 1 a b c ps 2=[⟨1,a,b,c,ps⟩]:=by rfl
   rw [em]
   clear em
   go_wp2_with fail
   go_ret
   exact ⟨_,rfl,one_own ⟨1,a,b,c,ps⟩ (by simp) (Nat.le_trans hlo hWF.size) (owns_of_below hu hWF),hWF.alloc hWF.size _⟩
  by_cases h4:sign=4
  ·subst h4
   have em:makeC 4 a b c ps 2=[⟨4,a,b,c,ps⟩]:=by rfl
   rw [em]
   clear em
   go_wp2_with fail
   go_ret
   exact ⟨_,rfl,one_own ⟨4,a,b,c,ps⟩ (by simp) (Nat.le_trans hlo hWF.size) (owns_of_below hu hWF),hWF.alloc hWF.size _⟩
  by_cases h3:sign=3
  ·subst h3
   have em:makeC 3 a b c ps 2=[⟨4,nextA 2 a,nextB 2 b,nextC 2 c,[]⟩]:=by rfl
   rw [em]
   clear em
   go_wp2_with (go_at_call 304;refine (HX.out 2 _).mono ?_;rintro e w1 ⟨rfl,b1⟩;have hx:=hn2 _ b1)
   go_ret
   exact ⟨_,rfl,one_own ⟨4,nextA 2 a,nextB 2 b,nextC 2 c,[]⟩ (by simp) (Nat.le_trans hlo hx.size) (owns_nil _ _),hx.alloc hx.size _⟩
  by_cases h2:sign=2
  ·subst h2
   have em:makeC 2 a b c ps 2=[⟨1,nextA 2 a,nextB 2 b,nextC 2 c,[zeroT]⟩]:=by rfl
   rw [em]
   clear em
   go_wp2_with (go_at_call 302;refine (HL.out 2 _).mono ?_;rintro e w1 ⟨g,rfl,og,b1⟩;have hx:=hn2 _ b1)
   go_ret
   exact ⟨_,rfl,one_own ⟨1,nextA 2 a,nextB 2 b,nextC 2 c,[zeroT]⟩ (by simp) (Nat.le_trans hlo hx.size) (owns_base og (Nat.le_trans hlo hWF.size)),hx.alloc hx.size _⟩
  have k5:(sign == 5)=false:=by simpa using h5
  have k6:(sign == 6)=false:=by simpa using h6
  have k1:(sign == 1)=false:=by simpa using h1
  have k4:(sign == 4)=false:=by simpa using h4
  have k3:(sign == 3)=false:=by simpa using h3
  have k2:(sign == 2)=false:=by simpa using h2
  have em:makeC sign a b c ps 2=[⟨4,a,b,c,ps⟩,⟨1,nextA 2 a,nextB 2 b,nextC 2 c,[zeroT]⟩]:=by simp [makeC,h5,h6,h1,h4,h3,h2]
  rw [em]
  clear em
  clear h5 h6 h1 h4 h3 h2
  go_wp2_with fail
  generalize ((w.alloc (.cells #[.int .i64 a,.int .i64 b,.int .i64 c,.slice q n cap,.int .i64 2] 313)).alloc (.cells #[.int .i64 4,.int .i64 a,.int .i64 b,.int .i64 c,.slice q n cap] 214))=WF at hWF P0 F0 hn2 KEEP ⊢
  have hd0:Below WF.heap.size WF WF.drew:=(Below.refl _ _).drew
  refine wp_region_held_drew (S:=(fun w'=>w'.cell? ⟨w.heap.size,0,none⟩=some (.int .i64 a)∧w'.cell? ⟨w.heap.size,1,none⟩=some (.int .i64 b)∧w'.cell? ⟨w.heap.size,2,none⟩=some (.int .i64 c)∧w'.cell? ⟨w.heap.size,3,none⟩=some (.slice q n cap)∧w'.cell? ⟨w.heap.size,4,none⟩=some (.int .i64 2)∧w'.cell? ⟨w.heap.size+1,0,none⟩=some (.int .i64 4)∧w'.cell? ⟨w.heap.size+1,1,none⟩=some (.int .i64 a)∧w'.cell? ⟨w.heap.size+1,2,none⟩=some (.int .i64 b)∧w'.cell? ⟨w.heap.size+1,3,none⟩=some (.int .i64 c)∧w'.cell? ⟨w.heap.size+1,4,none⟩=some (.slice q n cap))) (by kernel_rfl) ?SR60 (fun hHeld=>?_)
  case SR60=>(first|(with_reducible exact KEEP.out _ hd0)|(with_reducible exact KEEP.out _ hd1)|(with_reducible exact KEEP.out _ hd2)|(with_reducible exact KEEP.out _ hd3))
  refine tk 0 hHeld (h:=?_)
  refine tk 1 hHeld (h:=?_)
  refine tk 2 hHeld (h:=?_)
  refine tk 3 hHeld (h:=?_)
  refine wpAnyH_ready (rs:=[4]) (by kernel_rfl) (by simp) ?_
  refine AllReadyH.cons rfl (fun K hK=>?_) AllReadyH.nil
  go_simp
  go_wp2_with (go_at_call 302;refine (HL.out 2 _).mono ?_;rintro e w1 ⟨g,rfl,og,b1⟩;have hd1:Below WF.heap.size WF w1:=hd0.trans (b1.mono hd0.size);have ol:w.heap.size≤WF.drew.heap.size:=hWF.size)
  clear hHeld
  refine hK.out _ _ ?SR65 (fun hHeld=>?_)
  case SR65=>((try dsimp only);first|(with_reducible exact KEEP.out _ hd0)|(with_reducible exact KEEP.out _ hd1)|(with_reducible exact KEEP.out _ hd2)|(with_reducible exact KEEP.out _ hd3))
  clear hK K
  refine wpAnyH_ready (rs:=[5]) (by kernel_rfl) (by simp) ?_
  refine AllReadyH.cons rfl (fun K hK=>?_) AllReadyH.nil
  go_simp
  clear hHeld
  refine hK.out _ _ ?SR66 (fun hHeld=>?_)
  case SR66=>((try dsimp only);exact KEEP.out _ (hd1.alloc hd1.size _))
  clear hK K
  refine tk 6 hHeld (h:=?_)
  refine wpAnyH_done (by kernel_rfl) ?_ _
  have OL:w.heap.size≤WF.drew.heap.size:=hWF.size
  go_wp2_with fail
  go_ret
  have hx:=hn2 _ hd1
  refine ⟨_,rfl,two_own ⟨4,a,b,c,ps⟩ ⟨1,nextA 2 a,nextB 2 b,nextC 2 c,[zeroT]⟩ (by simp) (Nat.le_trans hlo hx.size) (owns_of_below hu hx) (owns_base og (Nat.le_trans hlo OL)) (hap g _ _ OL og),hx.alloc hx.size _⟩
 ·go_enter Tryz.func275,Tryz.ntmps275
  by_cases h5:sign=5
  ·subst h5
   have em:makeC 5 a b c ps 3=[⟨4,a,b,c,ps⟩,⟨1,nextA 2 a,nextB 2 b,nextC 2 c,[zeroT]⟩]:=by rfl
   rw [em]
   clear em
   go_wp2_with fail
   generalize ((w.alloc (.cells #[.int .i64 a,.int .i64 b,.int .i64 c,.slice q n cap,.int .i64 3] 313)).alloc (.cells #[.int .i64 4,.int .i64 a,.int .i64 b,.int .i64 c,.slice q n cap] 214))=WF at hWF P0 F0 hn2 KEEP ⊢
   have hd0:Below WF.heap.size WF WF.drew:=(Below.refl _ _).drew
   refine wp_region_held_drew (S:=(fun w'=>w'.cell? ⟨w.heap.size,0,none⟩=some (.int .i64 a)∧w'.cell? ⟨w.heap.size,1,none⟩=some (.int .i64 b)∧w'.cell? ⟨w.heap.size,2,none⟩=some (.int .i64 c)∧w'.cell? ⟨w.heap.size,3,none⟩=some (.slice q n cap)∧w'.cell? ⟨w.heap.size,4,none⟩=some (.int .i64 3)∧w'.cell? ⟨w.heap.size+1,0,none⟩=some (.int .i64 4)∧w'.cell? ⟨w.heap.size+1,1,none⟩=some (.int .i64 a)∧w'.cell? ⟨w.heap.size+1,2,none⟩=some (.int .i64 b)∧w'.cell? ⟨w.heap.size+1,3,none⟩=some (.int .i64 c)∧w'.cell? ⟨w.heap.size+1,4,none⟩=some (.slice q n cap))) (by kernel_rfl) ?SR70 (fun hHeld=>?_)
   case SR70=>(first|(with_reducible exact KEEP.out _ hd0)|(with_reducible exact KEEP.out _ hd1)|(with_reducible exact KEEP.out _ hd2)|(with_reducible exact KEEP.out _ hd3))
   refine tk 0 hHeld (h:=?_)
   refine tk 1 hHeld (h:=?_)
   refine tk 2 hHeld (h:=?_)
   refine tk 3 hHeld (h:=?_)
   refine tk 4 hHeld (h:=?_)
   refine wpAnyH_ready (rs:=[5]) (by kernel_rfl) (by simp) ?_
   refine AllReadyH.cons rfl (fun K hK=>?_) AllReadyH.nil
   go_simp
   go_wp2_with (go_at_call 302;refine (HL.out 2 _).mono ?_;rintro e w1 ⟨g,rfl,og,b1⟩;have hd1:Below WF.heap.size WF w1:=hd0.trans (b1.mono hd0.size);have ol:w.heap.size≤WF.drew.heap.size:=hWF.size)
   clear hHeld
   refine hK.out _ _ ?SR76 (fun hHeld=>?_)
   case SR76=>((try dsimp only);first|(with_reducible exact KEEP.out _ hd0)|(with_reducible exact KEEP.out _ hd1)|(with_reducible exact KEEP.out _ hd2)|(with_reducible exact KEEP.out _ hd3))
   clear hK K
   refine wpAnyH_ready (rs:=[6]) (by kernel_rfl) (by simp) ?_
   refine AllReadyH.cons rfl (fun K hK=>?_) AllReadyH.nil
   go_simp
   clear hHeld
   refine hK.out _ _ ?SR77 (fun hHeld=>?_)
   case SR77=>((try dsimp only);exact KEEP.out _ (hd1.alloc hd1.size _))
   clear hK K
   refine tk 7 hHeld (h:=?_)
   refine wpAnyH_done (by kernel_rfl) ?_ _
   have OL:w.heap.size≤WF.drew.heap.size:=hWF.size
   go_wp2_with fail
   go_ret
   have hx:=hn2 _ hd1
   refine ⟨_,rfl,two_own ⟨4,a,b,c,ps⟩ ⟨1,nextA 2 a,nextB 2 b,nextC 2 c,[zeroT]⟩ (by simp) (Nat.le_trans hlo hx.size) (owns_of_below hu hx) (owns_base og (Nat.le_trans hlo OL)) (hap g _ _ OL og),hx.alloc hx.size _⟩
  by_cases h6:sign=6
  ·subst h6
   have em:makeC 6 a b c ps 3=[⟨4,a,b,c,ps⟩,⟨1,nextA (caretK a b 3) a,nextB (caretK a b 3) b,nextC (caretK a b 3) c,[zeroT]⟩]:=by rfl
   rw [em]
   clear em
   go_wp2_with fail
   generalize ((w.alloc (.cells #[.int .i64 a,.int .i64 b,.int .i64 c,.slice q n cap,.int .i64 3] 313)).alloc (.cells #[.int .i64 4,.int .i64 a,.int .i64 b,.int .i64 c,.slice q n cap] 214))=WF at hWF P0 F0 hn2 KEEP ⊢
   have hd0:Below WF.heap.size WF WF.drew:=(Below.refl _ _).drew
   refine wp_region_held_drew (S:=(fun w'=>w'.cell? ⟨w.heap.size,0,none⟩=some (.int .i64 a)∧w'.cell? ⟨w.heap.size,1,none⟩=some (.int .i64 b)∧w'.cell? ⟨w.heap.size,2,none⟩=some (.int .i64 c)∧w'.cell? ⟨w.heap.size,3,none⟩=some (.slice q n cap)∧w'.cell? ⟨w.heap.size,4,none⟩=some (.int .i64 3)∧w'.cell? ⟨w.heap.size+1,0,none⟩=some (.int .i64 4)∧w'.cell? ⟨w.heap.size+1,1,none⟩=some (.int .i64 a)∧w'.cell? ⟨w.heap.size+1,2,none⟩=some (.int .i64 b)∧w'.cell? ⟨w.heap.size+1,3,none⟩=some (.int .i64 c)∧w'.cell? ⟨w.heap.size+1,4,none⟩=some (.slice q n cap))) (by kernel_rfl) ?SR80 (fun hHeld=>?_)
   case SR80=>(first|(with_reducible exact KEEP.out _ hd0)|(with_reducible exact KEEP.out _ hd1)|(with_reducible exact KEEP.out _ hd2)|(with_reducible exact KEEP.out _ hd3))
   refine tk 0 hHeld (h:=?_)
   refine tk 1 hHeld (h:=?_)
   refine tk 2 hHeld (h:=?_)
   refine wpAnyH_ready (rs:=[3]) (by kernel_rfl) (by simp) ?_
   refine AllReadyH.cons rfl (fun K hK=>?_) AllReadyH.nil
   go_simp
   go_wp2_with (go_at_call 303;refine (HK.out _).mono ?_;rintro e w1 ⟨rfl,b1⟩;have hd1:Below WF.heap.size WF w1:=hd0.trans (b1.mono hd0.size))
   clear hHeld
   refine hK.out _ _ ?SR84 (fun hHeld=>?_)
   case SR84=>((try dsimp only);first|(with_reducible exact KEEP.out _ hd0)|(with_reducible exact KEEP.out _ hd1)|(with_reducible exact KEEP.out _ hd2)|(with_reducible exact KEEP.out _ hd3))
   clear hK K
   refine wpAnyH_ready (rs:=[4]) (by kernel_rfl) (by simp) ?_
   refine AllReadyH.cons rfl (fun K hK=>?_) AllReadyH.nil
   go_simp
   go_wp2_with (go_at_call 302;refine (HL.out (caretK a b 3) _).mono ?_;rintro e w2 ⟨g,rfl,og,b2⟩;have hd2:Below WF.heap.size WF w2:=hd1.trans (b2.mono hd1.size))
   clear hHeld
   refine hK.out _ _ ?SR85 (fun hHeld=>?_)
   case SR85=>((try dsimp only);first|(with_reducible exact KEEP.out _ hd0)|(with_reducible exact KEEP.out _ hd1)|(with_reducible exact KEEP.out _ hd2)|(with_reducible exact KEEP.out _ hd3))
   clear hK K
   refine wpAnyH_ready (rs:=[5]) (by kernel_rfl) (by simp) ?_
   refine AllReadyH.cons rfl (fun K hK=>?_) AllReadyH.nil
   go_simp
   clear hHeld
   refine hK.out _ _ ?SR86 (fun hHeld=>?_)
   case SR86=>((try dsimp only);exact KEEP.out _ (hd2.alloc hd2.size _))
   clear hK K
   refine tk 6 hHeld (h:=?_)
   refine wpAnyH_done (by kernel_rfl) ?_ _
   have OL:w.heap.size≤w1.heap.size:=Nat.le_trans hWF.size hd1.size
   go_wp2_with fail
   go_ret
   have hx:=hn2 _ hd2
   refine ⟨_,rfl,two_own ⟨4,a,b,c,ps⟩ ⟨1,nextA (caretK a b 3) a,nextB (caretK a b 3) b,nextC (caretK a b 3) c,[zeroT]⟩ (by simp) (Nat.le_trans hlo hx.size) (owns_of_below hu hx) (owns_base og (Nat.le_trans hlo OL)) (hap g _ _ OL og),hx.alloc hx.size _⟩
  have k5:(sign == 5)=false:=by simpa using h5
  have k6:(sign == 6)=false:=by simpa using h6
  have em:makeC sign a b c ps 3=[⟨sign,a,b,c,ps⟩]:=by simp [makeC,h5,h6]
  rw [em]
  clear em
  clear h5 h6
  go_wp2_with fail
  go_ret
  exact ⟨_,rfl,one_own ⟨sign,a,b,c,ps⟩ (by simp) (Nat.le_trans hlo hWF.size) (owns_of_below hu hWF),hWF.alloc hWF.size _⟩
def xT :ByteArray:=⟨#[120]⟩
def stripK (ws:List ByteArray):Nat→Nat
 |0=>0
 |n+1=>if 1<n+1∧ws.getD n ⟨#[]⟩=xT then stripK ws n else n+1
def toldW (ws:List ByteArray):Nat:=stripK ws ws.length
def partW (ws:List ByteArray):Option (Int × Int × Int):=
 if 3<ws.length∨toldW ws=3 then none
 else if toldW ws=1 then (if numGood (ws.getD 0 ⟨#[]⟩) 9999 then some (numOut (ws.getD 0 ⟨#[]⟩) 9999,0,1) else none)
 else (if numGood (ws.getD 0 ⟨#[]⟩) 9999&&numGood (ws.getD 1 ⟨#[]⟩) 9999 then some (numOut (ws.getD 0 ⟨#[]⟩) 9999,numOut (ws.getD 1 ⟨#[]⟩) 9999,2) else none)
def partAll (s:ByteArray):Option (Int × Int × Int × List ByteArray × Int):=
 if resOk s then some (resN s 0,resN s 1,resN s 2,resP s,3) else (partW (splitS s 46)).map fun x=>(x.1,x.2.1,0,[],x.2.2)
def partOk (s:ByteArray):Bool:=(partAll s).isSome
def partA (s:ByteArray):Int:=((partAll s).getD (0,0,0,[],0)).1
def partB' (s:ByteArray):Int:=((partAll s).getD (0,0,0,[],0)).2.1
def partC (s:ByteArray):Int:=((partAll s).getD (0,0,0,[],0)).2.2.1
def partP (s:ByteArray):List ByteArray:=((partAll s).getD (0,0,0,[],0)).2.2.2.1
def partT (s:ByteArray):Int:=((partAll s).getD (0,0,0,[],0)).2.2.2.2
def partOut (s:ByteArray) (u:Value):Value:=.tuple #[.agg #[.int .i64 (partA s),.int .i64 (partB' s),.int .i64 (partC s),u,.int .i64 (partT s)],.bool (partOk s)]
theorem partOut_ver {s:ByteArray} (h:resOk s=true) (u:Value):partOut s u=.tuple #[.agg #[.int .i64 (resN s 0),.int .i64 (resN s 1),.int .i64 (resN s 2),u,.int .i64 3],.bool true]∧partP s=resP s:=by
 simp [partOut,partA,partB',partC,partP,partT,partOk,partAll,h]
theorem partOut_none {s:ByteArray} (h:resOk s=false) (hp:partW (splitS s 46)=none):partOut s (.slice none 0 0)=.tuple #[.agg #[.int .i64 0,.int .i64 0,.int .i64 0,.slice none 0 0,.int .i64 0],.bool false]∧partP s=[]:=by
 simp [partOut,partA,partB',partC,partP,partT,partOk,partAll,h,hp]
theorem partOut_some {s:ByteArray} (h:resOk s=false) {a b t:Int} (hp:partW (splitS s 46)=some (a,b,t)):partOut s (.slice none 0 0)=.tuple #[.agg #[.int .i64 a,.int .i64 b,.int .i64 0,.slice none 0 0,.int .i64 t],.bool true]∧partP s=[]:=by
 simp [partOut,partA,partB',partC,partP,partT,partOk,partAll,h,hp]
def Three (w:World) (N:Nat) (t:TypeId) (c0 c1 c2:Value):Prop:=w.heap[N]?=some (.cells #[c0,c1,c2] t (0,0))
theorem Three.lt {w:World} {N:Nat} {t:TypeId} {c0 c1 c2:Value} (h:Three w N t c0 c1 c2):N<w.heap.size:=(Array.getElem?_eq_some_iff.1 h).1
theorem Three.cells {w:World} {N:Nat} {t:TypeId} {c0 c1 c2:Value} (h:Three w N t c0 c1 c2):w.cell? ⟨N,0,none⟩=some c0∧w.cell? ⟨N,1,none⟩=some c1∧w.cell? ⟨N,2,none⟩=some c2:=⟨vblk_cell h 0,vblk_cell h 1,vblk_cell h 2⟩
theorem Three.set {w:World} {N:Nat} {t:TypeId} {c0 c1 c2:Value} (h:Three w N t c0 c1 c2) (v:Value):Three (w.setCell ⟨N,0,none⟩ v) N t v c1 c2∧Three (w.setCell ⟨N,1,none⟩ v) N t c0 v c2:=
 ⟨heap_setCell_same w N 0 _ t v h,heap_setCell_same w N 1 _ t v h⟩
theorem three_new (w:World) (t:TypeId) (c0 c1 c2:Value):Three (w.alloc (.cells #[c0,c1,c2] t)) w.heap.size t c0 c1 c2:=vheap_new _ _
theorem Five.far {w:World} {R N j:Nat} {t:TypeId} {c0 c1 c2 c3 c4:Value} (h:Five w R t c0 c1 c2 c3 c4) (hn:R≠N) (v:Value):Five (w.setCell ⟨N,j,none⟩ v) R t c0 c1 c2 c3 c4:=(Below.heap_setCell w ⟨N,j,none⟩ v R hn).trans h
end Go.Proofs.YtlfmefojcmpfeaaGreatDoor
