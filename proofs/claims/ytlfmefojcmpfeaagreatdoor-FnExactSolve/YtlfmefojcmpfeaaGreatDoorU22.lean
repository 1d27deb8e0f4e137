/-
  Contracts for the walks and pure facts, several texts in one: each theorem says what it proves, and under which conditions.
-/
import Derived.Test.YtlfmefojcmpfeaaGreatDoorUT
import Derived.Test.YtlfmefojcmpfeaaGreatDoorU18
set_option linter.unusedSimpArgs false
set_option linter.unusedVariables false
set_option maxHeartbeats 16000000
set_option maxRecDepth 100000
namespace Go.Proofs.YtlfmefojcmpfeaaGreatDoor
open Go.RowKit
theorem grown_trans {a b c:World} {r:Option Nat} (h:a.grownBy b r) (k:b.grownBy c r):a.grownBy c r:=
 ⟨k.os.trans h.os,k.tape.trans h.tape,k.output.trans h.output,Nat.le_trans h.size k.size,fun i hi hne=>(k.block i (Nat.lt_of_lt_of_le hi h.size) hne).trans (h.block i hi hne)⟩
theorem conv_one {w:World} (x:Int):(convert 22 9 (.slice (some ⟨w.heap.size,0,none⟩) 1 1)).run Tryz.prog (w.alloc (.cells #[.int .u8 x] 5))=.ok (.string (strOfNums [x])) (w.alloc (.cells #[.int .u8 x] 5)):=by
 refine run_convert_bytes_arg _ 22 5 Tryz.underlying22 Tryz.underlying5 _ 0 1 1 [x] rfl (fun i hi=>?_) 9 Tryz.underlying9
 have:i=0:=by omega
 subst this
 simp
theorem markText_c (k0:Nat) (w:World) (h1:1≤k0) (h2:k0≤1099511627776):
  Calls Tryz.prog 141 #[.int .i64 (k0:Int)] w fun e w'=>e=.returned (.string (markStr k0))∧Below w.heap.size w w':=by
 have h0: ¬((k0:Int)≤0):=by omega
 go_enter Tryz.func141,Tryz.ntmps141
 go_wp2
 go_loopw [0,3] (fun vk vo wr=>∃ (k f:Nat) (out:ByteArray),vk=.int .i64 (k:Int)∧vo=.string out∧k≤f∧k≤k0∧out.size+k≤k0∧Hid (markLoop f k out=markLoop k0 k0 ⟨#[]⟩)∧Below w.heap.size w wr) (fun vk _ _=>(intOf vk).toNat)
 case atStart=>exact ⟨k0,k0,_,rfl,rfl,Nat.le_refl _,Nat.le_refl _,Nat.le_of_eq (Nat.zero_add _),rfl,Below.refl _ _⟩
 case round=>
  obtain ⟨k,f,out,rfl,rfl,hkf,hk0,hsz,hh,hbr⟩:=hrel
  have hcv:=conv_one (w:=wr) (48+(k:Int) % 10)
  have h1s:(strOfNums [48+(k:Int) % 10]).size=1:=strOfNums_size _
  go_wp2
  ·have hkp:0<k:=by omega
   obtain ⟨f,rfl⟩: ∃ f',f=f'+1:=⟨f-1,by omega⟩
   go_roundw
   case rel=>
    refine ⟨k / 10,f,_,by go_num,rfl,by omega,by omega,?_,?_,hbr.alloc hbr.size _⟩
    ·rw [ByteArray.size_append,h1s];omega
    ·show _=_
     rw [←hh.out,markLoop,if_neg (by omega)]
   case measure=>simp [intOf];omega
  ·have hk:k=0:=by omega
   subst hk
   have e:markLoop f 0 out=out:=by cases f<;>simp [markLoop]
   go_ret
   exact ⟨by rw [markStr, ←hh.out,e];rfl,hbr⟩
theorem marksS_at (k n j:Nat) (h:j<n):(strsV (marksS k n))[j]?=some (.string (markStr (k+j))):=by
 simp [strsV,marksS,h]
theorem markStrs_c (v:Value) (base n:Nat) (xs:List Value) (k0:Nat) (w:World) (hv:w.ownsRow base 9 1 v n xs) (h0:1≤k0) (h1:k0≤4294967296) (hn:n≤4294967296) (hbw:base≤w.heap.size):
    Calls Tryz.prog 142 #[v,.int .i64 (k0:Int)] w fun e w'=>e=.returned (.int .i64 ((k0:Int)+(n:Int)))∧w'.ownsRow base 9 1 v n (strsV (marksS k0 n))∧w.grownBy w' v.ownBlock:=by
  have hv0:=hv
  rcases hv.2 with ⟨rfl,rfl⟩|⟨g,cap,cur,rfl,hb,hg,hcap,hmax,hsz,htake⟩
  · clear hv0
    go_enter Tryz.func142,Tryz.ntmps142
    go_wp2
    go_loopw [1,5] (fun vk vi wr=>vk=.int .i64 (k0:Int)∧vi=.int .i64 0∧wr=w) (fun _ _ _=>0)
    case atStart=>exact ⟨rfl,rfl,rfl⟩
    case round=>
      obtain ⟨rfl,rfl,rfl⟩:=hrel
      go_wp2
      go_ret
      exact ⟨by simp,by rw [show strsV (marksS k0 0)=[] from rfl];exact owns_empty hv,World.grownBy.refl _ _⟩
  · have hl:xs.length=n:=by simpa using hv.1
    have hgl:=(Array.getElem?_eq_some_iff.1 hg).1
    clear hb hg hsz htake hv0
    go_enter Tryz.func142,Tryz.ntmps142
    go_wp2
    go_loopw [1,5] (fun vk vi wr=>∃ (k:Nat) (ys:List Value),k≤n∧vi=.int .i64 (k:Int)∧vk=.int .i64 ((k0:Int)+(k:Int))∧wr.ownsRow base 9 1 (.slice (some ⟨g,0,none⟩) n cap) n ys∧Hid (ys.length=n∧∀ j,j<k→ys[j]?=(strsV (marksS k0 n))[j]?)∧w.grownBy wr (some g)) (fun _ vi _=>n-(intOf vi).toNat)
    case atStart=>exact ⟨0,xs,Nat.zero_le _,rfl,by simp,hv,⟨hl,fun j hj=>by omega⟩,World.grownBy.refl _ _⟩
    case round=>
      obtain ⟨k,ys,hk,rfl,rfl,hownr,hy,hbr⟩:=hrel
      clear hv hl
      by_cases hlt':k<n
      · have hki:(k:Int)<(n:Int):=by omega
        have hm:=markText_c (k0+k) wr (by omega) (by omega)
        have ec:((k0+k:Nat):Int)=(k0:Int)+(k:Int):=Int.natCast_add k0 k
        rw [ec] at hm
        go_wp2_with (
          go_at_call 141
          refine hm.mono ?_
          rintro e w1 ⟨rfl, b1⟩
          have hown1 := owns_of_below hownr b1
          have hcy : w1.cell? ⟨g, k, none⟩ = some (ys.getD k undef) := by
            rw [hown1.cellAt k (by omega)]; simp [List.getD_eq_getElem?_getD, hy.out.1, hlt']
          have hfr := hown1.frozenAt k
          clear hm hownr)
        go_roundw
        case rel=>exact ⟨k+1,ys.set k _,by omega,by go_num,by go_num,(hown1.stored k _).1,set_step hlt' hy.out (marksS_at k0 n k hlt'),grown_trans (grown_trans hbr (grown_of_below b1 _)) (hown1.stored k _).2⟩
        case measure=>simp [intOf];omega
      · have he:k=n:=by omega
        subst he
        have e:ys=strsV (marksS k0 k):=list_done hy.out.1 (by simp) hy.out.2
        go_wp2
        go_ret
        refine ⟨rfl,?_,hbr⟩
        rw [←e]
        exact hownr
theorem heldStrs_c (v:Value) (n:Nat) (k0:Nat) (w:World) (hv:Reads w v (strsV (marksS k0 n))) (h0:1≤k0) (h1:k0≤4294967296) (hn:n≤4294967296):
    Calls Tryz.prog 143 #[v,.int .i64 (k0:Int)] w fun e w'=>e=.returned (.int .i64 ((k0:Int)+(n:Int)))∧Below w.heap.size w w':=by
  obtain ⟨a,cap,hvv,_,hc⟩:=reads_strs hv
  rw [length_marksS] at hvv
  subst hvv
  clear hv
  rcases hc with hc|⟨b,off,rfl,hlt,hc⟩
  · have:n=0:=by have:=congrArg List.length hc;simpa using this
    subst this
    go_enter Tryz.func143,Tryz.ntmps143
    go_wp2
    go_loop [1,5] (fun vk vi=>vk=.int .i64 (k0:Int)∧vi=.int .i64 0) (fun _ _=>0)
    case atStart=>exact ⟨rfl,rfl⟩
    case round=>
      obtain ⟨rfl,rfl⟩:=hrel
      go_wp2
      go_ret
      exact ⟨by simp,Below.refl _ _⟩
  · have hc': ∀ k,k<n→w.cell? ⟨b,off+k,none⟩=some (.string (markStr (k0+k))):=fun k hk=>by
      rw [hc k (by simpa using hk)]
      simp [marksS]
    clear hc
    go_enter Tryz.func143,Tryz.ntmps143
    go_wp2
    go_loopw [1,5] (fun vk vi wr=>∃ k:Nat,k≤n∧vi=.int .i64 (k:Int)∧vk=.int .i64 ((k0:Int)+(k:Int))∧Below w.heap.size w wr) (fun _ vi _=>n-(intOf vi).toNat)
    case atStart=>exact ⟨0,Nat.zero_le _,rfl,by simp,Below.refl _ _⟩
    case round=>
      obtain ⟨k,hk,rfl,rfl,hbr⟩:=hrel
      by_cases hlt':k<n
      · have hki:(k:Int)<(n:Int):=by omega
        obtain ⟨ms,hms⟩: ∃ ms,ms=markStr (k0+k):=⟨_,rfl⟩
        have hm:=fun w'=>markText_c (k0+k) w' (by omega) (by omega)
        have ec:((k0+k:Nat):Int)=(k0:Int)+(k:Int):=by omega
        have hcx: ∀ w',Below wr.heap.size wr w'→w'.cell? ⟨b,off+k,none⟩=some (.string (markStr (k0+k))):=fun w' hb'=>(hb'.cell (p:=⟨b,off+k,none⟩) (Nat.lt_of_lt_of_le hlt hbr.size)).trans ((hbr.cell (p:=⟨b,off+k,none⟩) hlt).trans (hc' k hlt'))
        rw [ec] at hm
        rw [←hms] at hm hcx
        have hcx0:=hcx wr (Below.refl _ _)
        clear hc' hms
        go_wp2
        go_region_with (
          go_at_call 141
          refine (hm _).mono ?_
          rintro e w1 ⟨rfl, b1⟩
          have b1' : Below wr.heap.size wr w1 := ⟨b1.os, b1.tape, b1.output, b1.size, b1.block⟩
          have hcx1 := hcx w1 b1'
          clear b1)
        all_goals (
          have hb2 := hbr.trans (b1'.mono hbr.size)
          clear hm hcx
          go_wp2
          go_roundw
          case rel => exact ⟨k + 1, by omega, by go_num, by go_num, hb2⟩
          case measure => simp [intOf]; omega)
      · have he:k=n:=by omega
        subst he
        clear hc'
        go_wp2
        go_ret
        exact ⟨rfl,hbr⟩
theorem putL_length (cs:List Value): ∀ (ys:List Value) (j:Nat),(putL ys j cs).length=ys.length:=by
 induction cs with
 |nil=>intro ys j;rfl
 |cons c cs ih=>intro ys j;show (putL (ys.set j c) (j+1) cs).length=_;rw [ih];simp
theorem copyVer_c (a b c:Int) (u:Value) (ps:List ByteArray) (w:World) (hu:Reads w u (strsV ps)) (hb:bulkS ps≤1048576):
    Calls Tryz.prog 107 #[.agg #[.int .i64 a,.int .i64 b,.int .i64 c,u]] w fun e w'=>∃ u',e=.returned (.agg #[.int .i64 a,.int .i64 b,.int .i64 c,u'])∧w'.ownsRow w.heap.size 9 1 u' ps.length (strsV ps)∧Below w.heap.size w w':=by
  obtain ⟨i0,hi,hz0,hz1,hz2⟩:=info_parts infoS
  obtain ⟨q,cap,rfl,_,hc⟩:=reads_strs hu
  have hn:ps.length≤1048576:=by unfold bulkS at hb;omega
  have hsz: ∀ t∈ps,t.size≤1048576:=fun t ht=>by
    have:t.size≤(ps.map ByteArray.size).sum:=List.single_le_sum_natC ht
    unfold bulkS at hb;omega
  have hb2: ∀ A R,Below w.heap.size w ((w.alloc A).alloc R):=fun A R=>((Below.refl _ _).alloc (Nat.le_refl _) _).alloc (by simp) _
  have HB0:=two_boxes (w:=w) (.cells #[.int .i64 a,.int .i64 b,.int .i64 c,.slice q ps.length cap] 30 (0,0)) (.cells #[.int .i64 0,.int .i64 0,.int .i64 0,.slice none 0 0] 30 (0,0))
  clear hu hb
  go_enter Tryz.func107,Tryz.ntmps107
  go_wp2_with fail
  go_loopw [3,9] (fun vx vi wr=>∃ (k:Nat) (vo:Value),k≤ps.length∧vi=.int .i64 (k:Int)∧vx=vo∧wr.ownsRow w.heap.size 9 1 vo k (strsV (ps.take k))∧Hid (wr.heap[w.heap.size]?=some (.cells #[.int .i64 a,.int .i64 b,.int .i64 c,.slice q ps.length cap] 30 (0,0))∧wr.heap[w.heap.size+1]?=some (.cells #[.int .i64 0,.int .i64 0,.int .i64 0,.slice none 0 0] 30 (0,0)))∧Below w.heap.size w wr) (fun _ vi _=>ps.length-(intOf vi).toNat)
  case atStart=>exact ⟨0,_,Nat.zero_le _,rfl,rfl,(by rw [List.take_zero];exact World.ownsRow_nil _ _ _ _),HB0,hb2 _ _⟩
  case round=>
    clear HB0
    obtain ⟨k,vo,hk,rfl,rfl,hown,hbx,hbr⟩:=hrel
    by_cases hlt':k<ps.length
    · rcases hc with rfl|⟨b0,off,rfl,hlt,hc⟩
      · simp at hlt'
      have e0:wr.cell? ⟨b0,off+k,none⟩=some (.string ps[k]):=(hbr.cell (by simpa using hlt)).trans (hc k hlt')
      have hsk:=hsz ps[k] (List.getElem_mem hlt')
      have HT:Hid (strsV (ps.take k)++strsV [ps[k]]=strsV (ps.take (k+1))):=by show _=_;rw [strs_append,List.take_succ_eq_append_getElem hlt']
      obtain ⟨t,ht⟩: ∃ t,t=ps[k]:=⟨_,rfl⟩
      rw [←ht] at e0 hsk HT
      have hki:(k:Int)<(ps.length:Int):=by omega
      clear hc ht hsz
      go_wp2_with (first
        | (go_at_call 116; refine (clone_c t _ hsk).mono ?_; rintro e w2 ⟨rfl, b2⟩
           have hown2 := owns_of_below hown b2)
        | (at_builtin; refine wpList_append_own _ rfl _ _ 28 rfl w.heap.size 9 i0 (.string ⟨#[]⟩) 1 16 Tryz.underlying28 hi hz0 hz1 hz2 rfl (by decide) _ k (strsV (ps.take k)) rfl (hown2.alloc _) ⟨w2.heap.size, 0, none⟩ 1 1 (strsV [t]) rfl rfl (cell_one_new _ _ _) (fun u hu => by simp [strsV] at hu; subst hu; rfl) (by unfold maxLen; omega) (by omega) (by have h1 := hbr.size; have h2 := b2.size; simp; omega) ?_))
      intro v3 w3 o3 gr3 _
      rw [HT.out] at o3
      have hbw2:=hbr.trans (b2.mono hbr.size)
      have hb3:Below w.heap.size w w3:=Below.grown (hbw2.alloc hbw2.size _) gr3 (by have:=hbw2.size;simp;omega) (fun j hj=>(hown2.lt _ hj).1)
      have kA:Below w2.heap.size w2 (w2.alloc (.cells #[.string t] 9)):=(Below.refl _ _).alloc (Nat.le_refl _) _
      have hA1:=box_below (box_below hbx.out.1 b2) kA
      have hR1:=box_below (box_below hbx.out.2 b2) kA
      have hown4:=hown2.alloc (.cells #[.string t] 9)
      have HX:=hidden (And.intro (box_grown hA1 gr3 (row_box hown4 hA1 (by decide))) (box_grown hR1 gr3 (row_box hown4 hR1 (by decide))))
      clear hA1 hR1 kA hbx hown4
      go_wp2_with fail
      go_roundw
      case rel=>exact ⟨k+1,_,by omega,by go_num,rfl,o3,HX,hb3⟩
      case measure=>simp [intOf];omega
    · have he:k=ps.length:=by omega
      subst he
      rw [List.take_length] at hown
      obtain ⟨hA,hR⟩:=hbx.out
      obtain ⟨qo,co,hvo⟩:=owns_sliceP hown
      subst hvo
      have hA2:=heap_setCell_same wr w.heap.size 3 _ _ (.slice qo ps.length co) hA
      have hR2:=(Below.heap_setCell wr ⟨w.heap.size,3,none⟩ (.slice qo ps.length co) (w.heap.size+1) (by simp)).trans hR
      have HO:Hid (∀ c0 c1 c2 c3,(((((wr.setCell ⟨w.heap.size,3,none⟩ (.slice qo ps.length co)).setCell ⟨w.heap.size+1,0,none⟩ c0).setCell ⟨w.heap.size+1,1,none⟩ c1).setCell ⟨w.heap.size+1,2,none⟩ c2).setCell ⟨w.heap.size+1,3,none⟩ c3).ownsRow w.heap.size 9 1 (.slice qo ps.length co) ps.length (strsV ps)):=fun c0 c1 c2 c3=>
        owns_kept (S:=fun b=>b≠w.heap.size∧b≠w.heap.size+1) ((((((Kp.set (by simp)).trans (Kp.set (by simp))).trans (Kp.set (by simp))).trans (Kp.set (by simp))).trans (Kp.set (by simp)))) (fun b hb'=>⟨by rintro rfl;exact row_box hown hA (by decide) hb',by rintro rfl;exact row_box hown hR (by decide) hb'⟩) hown
      have a0:=vblk_cell hA 0
      have a1:=vblk_cell hA 1
      have a2:=vblk_cell hA 2
      have a3:=vblk_cell hA 3
      have fa:=vblk_frozen hA
      have r0:=vblk_cell hR 0
      have r1:=vblk_cell hR 1
      have r2:=vblk_cell hR 2
      have r3:=vblk_cell hR 3
      have fr:=vblk_frozen hR
      simp only [List.getElem?_toArray,List.getElem?_cons_succ,List.getElem?_cons_zero] at a0 a1 a2 a3 r0 r1 r2 r3
      clear hc hsz hA hR hA2 hR2 hbx
      go_wp2_with fail
      refine bodyPost_ret (v:=.agg #[.int .i64 a,.int .i64 b,.int .i64 c,.slice qo ps.length co]) (by simp [results,Tryz.results107,go_sem,a0,a1,a2,a3,r0,r1,r2,r3]) rfl ⟨_,rfl,HO.out _ _ _ _,?_⟩
      (repeat (refine Below.setCell ?_ (by simp) _))
      exact hbr
theorem owns_over {w w':World} {lo lo' sz n n':Nat} {e:TypeId} {v v':Value} {xs xs' ys:List Value} (h:w.ownsRow lo e sz v n xs) (h0:w.ownsRow lo' e sz v' n' xs') (h1:w'.ownsRow lo' e sz v' n' ys) (hg:w.grownBy w' v'.ownBlock) (hs:0<sz): ∃ zs,w'.ownsRow lo e sz v n zs:=by
 by_cases hne:v.ownBlock=none∨v.ownBlock≠v'.ownBlock
 ·exact ⟨xs,h.kept hg hne⟩
 ·have he:v.ownBlock=v'.ownBlock:=by
   by_cases k:v.ownBlock=v'.ownBlock
   ·exact k
   ·exact absurd (.inr k) hne
  have hn:v.ownBlock≠none:=fun k=>hne (.inl k)
  rcases h.2 with ⟨rfl,_⟩|⟨g,cap,cur,rfl,hlo,hgb,hc,hm,hz,ht⟩
  ·exact absurd rfl hn
  rcases h0.2 with ⟨rfl,_⟩|⟨g0,cap0,cur0,rfl,_,hgb0,hc0,hm0,hz0,_⟩
  ·exact absurd he (by simp [Value.ownBlock])
  simp [Value.ownBlock] at he
  subst he
  rcases h1.2 with ⟨hx,_⟩|⟨g1,cap1,cur1,hx,_,hgb1,hc1,hm1,hz1,_⟩
  ·simp at hx
  ·simp only [Value.slice.injEq,Option.some.injEq,Addr.mk.injEq,and_true,true_and] at hx
   obtain ⟨rfl,rfl⟩:=hx
   rw [hgb] at hgb0
   have hcur:cur=cur0:=by simpa using hgb0
   subst hcur
   have hcap:cap=cap0:=by
    have:cap*sz=cap0*sz:=by omega
    exact Nat.eq_of_mul_eq_mul_right hs this
   subst hcap
   refine ⟨cur1.toList.take (n*sz),?_,.inr ⟨g,cap,cur1,rfl,hlo,hgb1,hc,hm,hz1,rfl⟩⟩
   have hle:n*sz≤cap*sz:=Nat.mul_le_mul_right _ hc
   rw [List.length_take,Array.length_toList,hz1]
   exact Nat.min_eq_left hle
theorem markNeedS_c (S:Nat→Prop) (v:Value) (n k:Nat) (xs:List Value) (w:World) (hv:w.ownsRow 0 39 2 v n xs) (hg: ∀ g,v.ownBlock=some g→S g) (h1:1≤k) (h2:k+n*2≤4294967296):
  Calls Tryz.prog 63 #[v,.int .i64 (k:Int)] w fun e w'=>e=.returned (.int .i64 ((k+n*2:Nat):Int))∧Chg S w w':=by
 rcases id hv.2 with ⟨rfl,rfl⟩|⟨g,cap,cur,rfl,_,hgb,hcap,hmax,_⟩
 ·clear hv hg
  go_enter Tryz.func63,Tryz.ntmps63
  go_wp2_with fail
  go_loopw [1,5] (fun vk vi wr=>vk=.int .i64 (k:Int)∧vi=.int .i64 0∧wr=w) (fun _ _ _=>0)
  case atStart=>exact ⟨rfl,rfl,rfl⟩
  case round=>
   obtain ⟨rfl,rfl,rfl⟩:=hrel
   go_wp2_with fail
   go_ret
   exact ⟨by simp,Chg.refl _ _⟩
 ·have hSg:=hg g rfl
  unfold maxLen at hmax
  clear hgb hg
  go_enter Tryz.func63,Tryz.ntmps63
  go_wp2_with fail
  go_loopw [1,5] (fun vk vi wr=>∃ (i m:Nat) (ys:List Value),i≤n∧vi=.int .i64 (i:Int)∧vk=.int .i64 (m:Int)∧Hid (m=k+i*2)∧wr.ownsRow 0 39 2 (.slice (some ⟨g,0,none⟩) n cap) n ys∧Chg S w wr) (fun _ vi _=>n-(intOf vi).toNat)
  case atStart=>exact ⟨0,k,xs,Nat.zero_le _,rfl,rfl,by show _=_;omega,hv,Chg.refl _ _⟩
  case round=>
   obtain ⟨i,m,ys,hi,rfl,rfl,hm,hown,hchg⟩:=hrel
   by_cases hlt:i<n
   ·have hlen:=hown.1
    have hm2:m+2≤4294967296:=by have:=hm.out;omega
    have hm1:1≤m:=by have:=hm.out;omega
    have hki:(i:Int)<(n:Int):=by omega
    have HO:=hidden hown
    have HM1:=hidden (fun w1=>markText_c m w1 (by omega) (by omega))
    have HM2:Hid (∀ w1,Calls Tryz.prog 141 #[.int .i64 ((m:Int)+1)] w1 fun e w'=>e=.returned (.string (markStr (m+1)))∧Below w1.heap.size w1 w'):=fun w1=>by
     have:=markText_c (m+1) w1 (by omega) (by omega)
     rw [show ((m+1:Nat):Int)=(m:Int)+1 by omega] at this
     exact this
    clear hown hv
    go_wp2_with fail
    go_at_call 141
    refine (HM1.out _).mono ?_
    rintro e w1 ⟨rfl,b1⟩
    have r1:=HO.out.kept (grown_of_below b1 none) (by simp [Value.ownBlock])
    have d0: ∃ x,w1.cell? ⟨g,i*2,none⟩=some x:=⟨ys.getD (i*2) undef,by rw [r1.cellAt _ (by omega)];simp [List.getD_eq_getElem?_getD,show i*2<ys.length by omega]⟩
    obtain ⟨x0,d0⟩:=d0
    have f1:=r1.frozenAt
    have r2:=(r1.stored (i*2) (.string (markStr m))).1
    have HR2:=hidden r2
    clear r1 r2
    go_wp2_with fail
    go_at_call 141
    refine (HM2.out _).mono ?_
    rintro e w2 ⟨rfl,b2⟩
    have r3:=HR2.out.kept (grown_of_below b2 none) (by simp [Value.ownBlock])
    have hl3:=r3.1
    have d1: ∃ x,w2.cell? ⟨g,i*2+1,none⟩=some x:=⟨(ys.set (i*2) (.string (markStr m))).getD (i*2+1) undef,by rw [r3.cellAt _ (by omega)];simp [List.getD_eq_getElem?_getD,show i*2+1<ys.length by omega]⟩
    obtain ⟨x1,d1⟩:=d1
    have f2:=r3.frozenAt
    have r4:=(r3.stored (i*2+1) (.string (markStr (m+1)))).1
    have HR4:=hidden r4
    have CH:Chg S wr (w2.setCell ⟨g,i*2+1,none⟩ (.string (markStr (m+1)))):=(Chg.of b1).trans ((Chg.set hSg).trans ((Chg.of b2).trans (Chg.set hSg)))
    have HCH:=hidden CH
    clear r3 r4 CH
    go_wp2_with fail
    go_roundw
    case rel=>exact ⟨i+1,m+2,_,by omega,by go_num,by simp;omega,(by show _=_;have:=hm.out;omega),HR4.out,hchg.trans HCH.out⟩
    case measure=>simp [intOf];omega
   ·have he:i=n:=by omega
    subst he
    have HMM:=hidden hm.out
    clear hown hv
    go_wp2_with fail
    go_ret
    exact ⟨by rw [←HMM.out];rfl,hchg⟩
theorem CmdRows.store {w:World} {S:Nat→Prop} {ys:List Value} {ns:List Nat} {g j n cap:Nat} {zs:List Value} {x:Value} (h:CmdRows w S ys ns) (hg:w.ownsRow 0 305 2 (.slice (some ⟨g,0,none⟩) n cap) n zs):CmdRows (w.setCell ⟨g,j,none⟩ x) S ys ns:=fun i hi=>by
 obtain ⟨u,xs,h1,h2,h3⟩:=h i hi
 refine ⟨u,xs,h1,owns_kept (S:=fun b=>b≠g) (Kp.set (fun k=>k rfl)) (fun g' hg'=>?_) h2,h3⟩
 rintro rfl
 rcases h2.2 with ⟨rfl,_⟩|⟨g2,c2,cur2,rfl,_,hb2,_⟩
 ·simp [Value.ownBlock] at hg'
 ·simp [Value.ownBlock] at hg'
  subst hg'
  rcases hg.2 with ⟨hx,_⟩|⟨g3,c3,cur3,hx,_,hb3,_⟩
  ·simp at hx
  ·simp only [Value.slice.injEq,Option.some.injEq,Addr.mk.injEq,and_true,true_and] at hx
   obtain ⟨rfl,rfl⟩:=hx
   rw [hb2] at hb3
   simp at hb3
def needB (d:NeedD):Bool:=nameB d.n&&(decide (d.r.size≤20)&&(rangeI d.r).isSome)
def needsB (l:List NeedD):Bool:=rowB needB NeedD.n l&&decide (l.length≤4)
def needsI (l:List NeedD):Bool:= !(decide (4<l.length)||l.any fun d=> !needB d)&&ascB (l.map NeedD.n)
theorem not_any_not {α:Type} (p:α→Bool) (xs:List α):(!(xs.any fun x=> !p x))=xs.all p:=by
 induction xs with
 |nil=>rfl
 |cons x xs ih=>simp only [List.any_cons,List.all_cons,Bool.not_or,Bool.not_not,ih]
theorem not_more (a b:Nat):(!decide (a<b))=decide (b≤a):=by
 by_cases h:a<b
 ·rw [decide_eq_true h,decide_eq_false (by omega)];rfl
 ·rw [decide_eq_false h,decide_eq_true (by omega)];rfl
theorem needs_alike (l:List NeedD):needsI l=needsB l:=by
 unfold needsI needsB
 rw [rowB_split,Bool.not_or,not_any_not,not_more]
 cases decide (l.length≤4)<;>cases l.all needB<;>cases ascB (l.map NeedD.n)<;>rfl
theorem txtNeed_c (S:Nat→Prop) (d:NeedD) (cs:List Value) (w:World) (hd:shNeed.lies S w cs d):
  Calls Tryz.prog 240 #[.agg cs.toArray] w fun e w'=>e=.returned (.string d.n)∧Below w.heap.size w w':=by
 obtain ⟨rfl,s_n,s_r⟩:=hd
 have kb: ∀ o,Below w.heap.size w (w.alloc o):=fun o=>(Below.refl w.heap.size w).alloc (Nat.le_refl _) o
 clear s_n
 go_enter Tryz.func240,Tryz.ntmps240
 go_wp2_with fail
 go_ret
 exact ⟨rfl,kb _⟩
theorem ascNeed_c (S:Nat→Prop) (v:Value) (xs:List NeedD) (w:World) (hv:RowIn shNeed S w v xs) (hB: ∀ b,S b→b<w.heap.size):
  Calls Tryz.prog 239 #[v,.func (.func 240) #[] #[]] w fun e w'=>e=.returned (.bool (ascB (xs.map NeedD.n)))∧Below w.heap.size w w':=by
 obtain ⟨a,cap,rfl,hl,hc,ha⟩:=hv
 unfold maxLen at hl
 obtain ⟨R,hR⟩: ∃ R,R=ascB (xs.map NeedD.n):=⟨_,rfl⟩
 rw [←hR]
 have HR:=hidden hR
 clear hR
 go_enter Tryz.func239,Tryz.ntmps239
 go_wp2_with fail
 go_loopw [5] (fun vi wr=>∃ k:Nat,1≤k∧(k≤xs.length∨k=1)∧vi=.int .i64 (k:Int)∧Hid (rowUpto (fun _=>true) id (xs.map NeedD.n) k=true)∧Below w.heap.size w wr) (fun vi _=>xs.length-(intOf vi).toNat)
 case atStart=>exact ⟨1,Nat.le_refl _,.inr rfl,rfl,asc_one _,Below.refl _ _⟩
 case round=>
  obtain ⟨k,hk1,hk,rfl,hh,hbr⟩:=hrel
  by_cases hlt':k<xs.length
  ·rcases ha with rfl|⟨b,off,rfl,hlt,ha⟩
   ·simp at hlt'
   obtain ⟨j,rfl⟩: ∃ j,k=j+1:=⟨k-1,by omega⟩
   have hj':j<xs.length:=by omega
   obtain ⟨ycs,yL,hcelly⟩:=ha j hj'
   obtain ⟨xcs,xL,hcellx⟩:=ha (j+1) hlt'
   have hbb:b<wr.heap.size:=Nat.lt_of_lt_of_le (hB b hlt) hbr.size
   replace hcelly:=hcelly.keep (.of hbr hB) hlt
   replace hcellx:=hcellx.keep (.of hbr hB) hlt
   have HC1:Hid (∀ w1,Below wr.heap.size wr w1→Calls Tryz.prog 240 #[.agg ycs.toArray] w1 fun e w'=>e=.returned (.string xs[j].n)∧Below w1.heap.size w1 w'):=fun w1 h=>txtNeed_c S xs[j] ycs w1 (shNeed.keep (.of (hbr.trans (h.mono hbr.size)) hB) yL)
   have HC2:Hid (∀ w1,Below wr.heap.size wr w1→Calls Tryz.prog 240 #[.agg xcs.toArray] w1 fun e w'=>e=.returned (.string xs[j+1].n)∧Below w1.heap.size w1 w'):=fun w1 h=>txtNeed_c S xs[j+1] xcs w1 (shNeed.keep (.of (hbr.trans (h.mono hbr.size)) hB) xL)
   have hpre:preX (xs.map NeedD.n) (j+1)=some xs[j].n:=by simp [preX,hj']
   have hat:(xs.map NeedD.n)[j+1]'(by simpa using hlt')=xs[j+1].n:=by simp
   have HBD:Hid (Op.bytesLess xs[j].n.toList xs[j+1].n.toList=false→R=false):=fun h=>HR.out.trans (rowUpto_bad (by simpa using hlt') (by rw [hpre,hat];exact rowOk_less h) _ (by simpa using hlt'))
   have HGD:Hid (Op.bytesLess xs[j].n.toList xs[j+1].n.toList=true→rowUpto (fun _=>true) id (xs.map NeedD.n) (j+1+1)=true):=fun h=>rowUpto_step (by simpa using hlt') hh.out (by rw [hpre,hat,rowOk_some rfl];exact h)
   obtain ⟨c,hc0⟩: ∃ c,c=xs[j]:=⟨_,rfl⟩
   obtain ⟨d,hd0'⟩: ∃ d,d=xs[j+1]:=⟨_,rfl⟩
   rw [←hc0] at yL HC1 HBD HGD
   rw [←hd0'] at xL HC2 HBD HGD
   clear ha hpre hat hc0 hd0' hh
   obtain ⟨rfl,ys_n,ys_r⟩:=yL
   obtain ⟨rfl,xs_n,xs_r⟩:=xL
   have yv0:wr.cell? ⟨b,off+j*2,none⟩=some (.string c.n):=hcelly 0 (by simp)
   have yv1:wr.cell? ⟨b,off+j*2+1,none⟩=some (.string c.r):=hcelly 1 (by simp)
   have xv0:wr.cell? ⟨b,off+(j+1)*2,none⟩=some (.string d.n):=hcellx 0 (by simp)
   have xv1:wr.cell? ⟨b,off+(j+1)*2+1,none⟩=some (.string d.r):=hcellx 1 (by simp)
   have hj0:(0:Int)≤(j:Int)+1:=by omega
   have hj2:(j:Int)+1<(xs.length:Int):=by omega
   have hj3:(j:Int)<(xs.length:Int):=by omega
   have hjw:IntKind.i64.wrap (j:Int)=(j:Int):=IntWalk.i64_in _ ⟨by omega,by omega⟩
   have hd0:Below wr.heap.size wr wr.drew:=(Below.refl _ _).drew
   have KEEP:Hid (∀ w1,Below wr.heap.size wr w1→w1.cell? ⟨b,off+j*2,none⟩=some (.string c.n)∧w1.cell? ⟨b,off+j*2+1,none⟩=some (.string c.r)∧w1.cell? ⟨b,off+(j+1)*2,none⟩=some (.string d.n)∧w1.cell? ⟨b,off+(j+1)*2+1,none⟩=some (.string d.r)):=fun w1 h=>⟨(h.cell (by simpa using hbb)).trans yv0,(h.cell (by simpa using hbb)).trans yv1,(h.cell (by simpa using hbb)).trans xv0,(h.cell (by simpa using hbb)).trans xv1⟩
   clear hcelly hcellx yv0 yv1 xv0 xv1
   go_wp2_with fail
   refine wp_region_held_drew (S:=(fun w'=>w'.cell? ⟨b,off+j*2,none⟩=some (.string c.n)∧w'.cell? ⟨b,off+j*2+1,none⟩=some (.string c.r)∧w'.cell? ⟨b,off+(j+1)*2,none⟩=some (.string d.n)∧w'.cell? ⟨b,off+(j+1)*2+1,none⟩=some (.string d.r))) (by kernel_rfl) ?SR10 (fun hHeld=>?_)
   case SR10=>(first|(with_reducible exact KEEP.out _ hd2)|(with_reducible exact KEEP.out _ hd1)|(with_reducible exact KEEP.out _ hd0))
   refine tk 0 hHeld (h:=?_)
   refine tk 1 hHeld (h:=?_)
   refine tk 2 hHeld (h:=?_)
   refine tk 3 hHeld (h:=?_)
   refine tk 4 hHeld (h:=?_)
   refine tk 5 hHeld (h:=?_)
   refine tk 7 hHeld (h:=?_)
   refine tk 8 hHeld (h:=?_)
   refine tk 9 hHeld (h:=?_)
   refine tk 10 hHeld (h:=?_)
   refine tk 11 hHeld (h:=?_)
   refine wpAnyH_ready (rs:=[6]) (by kernel_rfl) (by simp) ?_
   refine AllReadyH.cons rfl (fun K hK=>?_) AllReadyH.nil
   go_simp
   go_wp2_with (go_at_call 240;refine (HC1.out _ (by first|exact hd0|exact hd1)).mono ?_;rintro e w1 ⟨rfl,b1⟩;have hd1:Below wr.heap.size wr w1:=hd0.trans (b1.mono hd0.size))
   clear hHeld
   refine hK.out _ _ ?SR112 (fun hHeld=>?_)
   case SR112=>((try dsimp only);first|(with_reducible exact KEEP.out _ hd2)|(with_reducible exact KEEP.out _ hd1)|(with_reducible exact KEEP.out _ hd0))
   clear hK K
   refine wpAnyH_ready (rs:=[12]) (by kernel_rfl) (by simp) ?_
   refine AllReadyH.cons rfl (fun K hK=>?_) AllReadyH.nil
   go_simp
   go_wp2_with (go_at_call 240;refine (HC2.out _ hd1).mono ?_;rintro e w2 ⟨rfl,b2⟩;have hd2:Below wr.heap.size wr w2:=hd1.trans (b2.mono hd1.size))
   clear hHeld
   refine hK.out _ _ ?SR113 (fun hHeld=>?_)
   case SR113=>((try dsimp only);first|(with_reducible exact KEEP.out _ hd2)|(with_reducible exact KEEP.out _ hd1)|(with_reducible exact KEEP.out _ hd0))
   clear hK K
   refine tk 13 hHeld (h:=?_)
   refine wpAnyH_done (by kernel_rfl) ?_ _
   go_wp2_with fail
   ·have hlx:(!Op.bytesLess c.n.toList d.n.toList)=true:=by assumption
    go_ret
    exact ⟨by rw [HBD.out (by simpa using hlx)];rfl,hbr.trans (hd2.mono hbr.size)⟩
   ·have hlx:(!Op.bytesLess c.n.toList d.n.toList)=false:=by assumption
    go_roundw
    case rel=>exact ⟨j+1+1,by omega,.inl (by omega),by go_num,HGD.out (by simpa using hlx),hbr.trans (hd2.mono hbr.size)⟩
    case measure=>simp [intOf];omega
  ·have HE:Hid (R=true):=HR.out.trans (asc_end hk1 (by simpa using hlt') (by simpa using hk) hh.out)
   clear ha hh
   go_wp2_with fail
   go_ret
   exact ⟨by rw [HE.out];rfl,hbr⟩
theorem below_next {w w1 w2:World} (h:Below w.heap.size w w1) (h2:Below w1.heap.size w1 w2):Below w.heap.size w w2:=h.trans (h2.mono h.size)
theorem wrongNeed_c (S:Nat→Prop) (d:NeedD) (cs:List Value) (w:World) (hd:shNeed.lies S w cs d) (hr:d.r.size≤1048576) (hT:Tabs w):
  Calls Tryz.prog 101 #[.agg cs.toArray] w fun e w'=>e=.returned (.bool (!needB d))∧Below w.heap.size w w':=by
 obtain ⟨rfl,s_n,s_r⟩:=hd
 have hbx: ∀ o,Below w.heap.size w (w.alloc o):=fun o=>(Below.refl _ _).alloc (Nat.le_refl _) _
 have HN:=fun w1=>implName_c d.n s_n w1
 have HR: ∀ w1,Below w.heap.size w w1→Calls Tryz.prog 87 #[.string d.r] w1 fun e w'=>∃ v,e=.returned (.tuple #[v,.bool (rangeI d.r).isSome])∧Below w1.heap.size w1 w':=fun w1 h=>by
  obtain ⟨m,h1,h2⟩:=hT.below h
  exact (implRange_c d.r hr m w1 h1 h2).mono fun e w' ⟨v,a,_,b⟩=>⟨v,a,b⟩
 unfold needB
 obtain ⟨p,hp⟩: ∃ p,p=nameB d.n:=⟨_,rfl⟩
 obtain ⟨q,hq⟩: ∃ q,q=(rangeI d.r).isSome:=⟨_,rfl⟩
 simp only [←hp] at HN ⊢
 simp only [←hq] at HR ⊢
 replace HN:=hidden HN
 replace HR:=hidden HR
 unfold maxLen at s_n s_r
 clear hp hq hT
 cases p with
 |false=>
  go_enter Tryz.func101,Tryz.ntmps101
  go_wp2_with (go_at_call 171;refine (HN.out _).mono ?_;rintro e w' ⟨rfl,rfl⟩)
  go_ret
  exact ⟨rfl,hbx _⟩
 |true=>
  by_cases hz:20<d.r.size
  ·have hz':(20:Int)<(d.r.size:Int):=by omega
   have hz2:decide (d.r.size≤20)=false:=decide_eq_false (by omega)
   rw [hz2]
   clear hz2
   go_enter Tryz.func101,Tryz.ntmps101
   go_wp2_with (go_at_call 171;refine (HN.out _).mono ?_;rintro e w' ⟨rfl,rfl⟩)
   go_ret
   exact ⟨rfl,hbx _⟩
  ·have hz': ¬(20:Int)<(d.r.size:Int):=by omega
   have hz2:decide (d.r.size≤20)=true:=decide_eq_true (by omega)
   rw [hz2]
   clear hz2
   go_enter Tryz.func101,Tryz.ntmps101
   go_wp2_with fail
   go_at_call 171
   refine (HN.out _).mono ?_
   rintro e w' ⟨rfl,rfl⟩
   go_wp2_with fail
   go_at_call 87
   refine (HR.out _ (hbx _)).mono ?_
   rintro e w1 ⟨v,rfl,b1⟩
   go_wp2_with fail
   go_ret
   exact ⟨by cases q<;>rfl,(hbx _).trans (b1.mono (hbx _).size)⟩
theorem idxNeed_c (S:Nat→Prop) (v:Value) (xs:List NeedD) (w:World) (hv:RowIn shNeed S w v xs) (hB: ∀ b,S b→b<w.heap.size) (hw: ∀ d∈xs,d.r.size≤1048576) (hT:Tabs w):
  Calls Tryz.prog 179 #[v,.func (.func 101) #[] #[]] w fun e w'=>e=.returned (.int .i64 (firstI (fun d=> !needB d) xs))∧Below w.heap.size w w':=by
 obtain ⟨a,cap,rfl,hl,hc,ha⟩:=hv
 unfold maxLen at hl
 obtain ⟨R,hR⟩: ∃ R,R=firstI (fun d=> !needB d) xs:=⟨_,rfl⟩
 rw [←hR]
 have HR:=hidden hR
 clear hR
 go_enter Tryz.func179,Tryz.ntmps179
 go_wp2_with fail
 go_loopw [8] (fun vi wr=>∃ k:Nat,k≤xs.length∧vi=.int .i64 (k:Int)∧Hid (∀ j (hj:j<xs.length),j<k→(fun d=> !needB d) xs[j]=false)∧Below w.heap.size w wr) (fun vi _=>xs.length-(intOf vi).toNat)
 case atStart=>exact ⟨0,Nat.zero_le _,rfl,(fun j hj h=>by omega),Below.refl _ _⟩
 case round=>
  obtain ⟨k,hk,rfl,hno,hbr⟩:=hrel
  by_cases hlt':k<xs.length
  ·rcases ha with rfl|⟨b,off,rfl,hlt,ha⟩
   ·simp at hlt'
   obtain ⟨cs,hL,hcell⟩:=ha k hlt'
   have hL2:=shNeed.keep (.of hbr hB) hL
   have hcell2:=hcell.keep (.of hbr hB) hlt
   have hBr: ∀ b,S b→b<wr.heap.size:=fun b h=>Nat.lt_of_lt_of_le (hB b h) hbr.size
   have HT:Hid ((fun d=> !needB d) xs[k]=true→R=(k:Int)):=fun h=>HR.out.trans (firstI_here hlt' h hno.out)
   have HN:Hid ((fun d=> !needB d) xs[k]=false→∀ j (hj:j<xs.length),j<k+1→(fun d=> !needB d) xs[j]=false):=fun h j hj hjk=>by
    by_cases e:j=k
    ·subst e;exact h
    ·exact hno.out j hj (by omega)
   have HC:Calls Tryz.prog 101 #[.agg cs.toArray] wr fun e w'=>e=.returned (.bool ((fun d=> !needB d) xs[k]))∧Below wr.heap.size wr w':=wrongNeed_c S xs[k] cs wr hL2 (hw _ (List.getElem_mem hlt')) (hT.below hbr)
   obtain ⟨d,hd⟩: ∃ d,d=xs[k]:=⟨_,rfl⟩
   rw [←hd] at hL2 HT HN HC
   obtain ⟨r,hr⟩: ∃ r,r=(fun d=> !needB d) d:=⟨_,rfl⟩
   rw [←hr] at HT HN HC
   clear ha hL hcell hd hr hno
   obtain ⟨rfl,s_n,s_r⟩:=hL2
   have e0:wr.cell? ⟨b,off+k*2,none⟩=some (.string d.n):=hcell2 0 (by simp)
   have e1:wr.cell? ⟨b,off+k*2+1,none⟩=some (.string d.r):=hcell2 1 (by simp)
   have HC2:=hidden HC
   have hki:(k:Int)<(xs.length:Int):=by omega
   clear hcell2 HC
   cases r with
   |true=>
    have HT2:=hidden (HT.out rfl)
    clear HT HN
    go_wp2_with (go_at_call 101;refine HC2.out.mono ?_;rintro e w1 ⟨rfl,b1⟩)
    go_ret
    exact ⟨by rw [HT2.out];rfl,hbr.trans (b1.mono hbr.size)⟩
   |false=>
    have HN2:=hidden (HN.out rfl)
    clear HT HN
    go_wp2_with (go_at_call 101;refine HC2.out.mono ?_;rintro e w1 ⟨rfl,b1⟩)
    go_roundw
    case rel=>exact ⟨k+1,by omega,by go_num,HN2.out,hbr.trans (b1.mono hbr.size)⟩
    case measure=>simp [intOf];omega
  ·have he:k=xs.length:=by omega
   subst he
   have HE:Hid (R= -1):=HR.out.trans (firstI_none (fun j hj=>hno.out j hj hj))
   clear ha hno HR
   go_wp2_with fail
   go_ret
   exact ⟨by rw [HE.out];rfl,hbr⟩
theorem anyNeed_c (S:Nat→Prop) (v:Value) (xs:List NeedD) (w:World) (hv:RowIn shNeed S w v xs) (hB: ∀ b,S b→b<w.heap.size) (hw: ∀ d∈xs,d.r.size≤1048576) (hT:Tabs w):
  Calls Tryz.prog 100 #[v,.func (.func 101) #[] #[]] w fun e w'=>e=.returned (.bool (xs.any (fun d=> !needB d)))∧Below w.heap.size w w':=by
 have HF:=idxNeed_c S v xs w hv hB hw hT
 have hA:=firstI_any (fun d=> !needB d) xs
 obtain ⟨R,hR⟩: ∃ R,R=firstI (fun d=> !needB d) xs:=⟨_,rfl⟩
 rw [←hR] at HF hA
 rw [←hA]
 have HF2:=hidden HF
 obtain ⟨a,cap,rfl⟩:=hv.slice
 clear hv hR hA HF
 by_cases h0:0≤R
 ·rw [decide_eq_true h0]
  go_enter Tryz.func100,Tryz.ntmps100
  go_wp2_with (go_at_call 179;refine HF2.out.mono ?_;rintro e w1 ⟨rfl,b1⟩)
  go_ret
  exact ⟨by first|rfl|simp [h0]|(simp;omega),b1⟩
 ·rw [decide_eq_false h0]
  go_enter Tryz.func100,Tryz.ntmps100
  go_wp2_with (go_at_call 179;refine HF2.out.mono ?_;rintro e w1 ⟨rfl,b1⟩)
  go_ret
  exact ⟨by first|rfl|simp [h0]|(simp;omega),b1⟩
theorem needOk_c (S:Nat→Prop) (v:Value) (xs:List NeedD) (w:World) (hv:RowIn shNeed S w v xs) (hB: ∀ b,S b→b<w.heap.size) (hw: ∀ d∈xs,d.r.size≤1048576) (hT:Tabs w):
  Calls Tryz.prog 172 #[v] w fun e w'=>e=.returned (.bool (needsI xs))∧Below w.heap.size w w':=by
 have HA: ∀ w1,Below w.heap.size w w1→Calls Tryz.prog 100 #[v,.func (.func 101) #[] #[]] w1 fun e w'=>e=.returned (.bool (xs.any (fun d=> !needB d)))∧Below w1.heap.size w1 w':=fun w1 h=>anyNeed_c S v xs w1 (hv.keep (.of h hB)) (fun b hb=>Nat.lt_of_lt_of_le (hB b hb) h.size) hw (hT.below h)
 have HC: ∀ w1,Below w.heap.size w w1→Calls Tryz.prog 239 #[v,.func (.func 240) #[] #[]] w1 fun e w'=>e=.returned (.bool (ascB (xs.map NeedD.n)))∧Below w1.heap.size w1 w':=fun w1 h=>ascNeed_c S v xs w1 (hv.keep (.of h hB)) (fun b hb=>Nat.lt_of_lt_of_le (hB b hb) h.size)
 unfold needsI
 obtain ⟨p,hp⟩: ∃ p,p=xs.any (fun d=> !needB d):=⟨_,rfl⟩
 obtain ⟨q,hq⟩: ∃ q,q=ascB (xs.map NeedD.n):=⟨_,rfl⟩
 simp only [←hp] at HA ⊢
 simp only [←hq] at HC ⊢
 replace HA:=hidden HA
 replace HC:=hidden HC
 have hl:=hv.len
 obtain ⟨a,cap,rfl⟩:=hv.slice
 unfold maxLen at hl
 clear hv hp hq
 by_cases h4:4<xs.length
 ·have h4':(4:Int)<(xs.length:Int):=by omega
  rw [decide_eq_true h4]
  go_enter Tryz.func172,Tryz.ntmps172
  go_wp2_with fail
  go_ret
  exact ⟨rfl,Below.refl _ _⟩
 ·have h4': ¬(4:Int)<(xs.length:Int):=by omega
  rw [decide_eq_false h4]
  cases p with
  |true=>
   go_enter Tryz.func172,Tryz.ntmps172
   go_wp2_with fail
   go_at_call 100
   refine (HA.out _ (Below.refl _ _)).mono ?_
   rintro e w1 ⟨rfl,b1⟩
   go_wp2_with fail
   go_ret
   exact ⟨rfl,b1⟩
  |false=>
   go_enter Tryz.func172,Tryz.ntmps172
   go_wp2_with fail
   go_at_call 100
   refine (HA.out _ (Below.refl _ _)).mono ?_
   rintro e w1 ⟨rfl,b1⟩
   go_wp2_with fail
   go_at_call 239
   refine (HC.out _ b1).mono ?_
   rintro e w2 ⟨rfl,b2⟩
   go_wp2_with fail
   go_ret
   exact ⟨by cases q<;>rfl,below_next b1 b2⟩
end Go.Proofs.YtlfmefojcmpfeaaGreatDoor
