/-
  Contracts for the walks and pure facts, several texts in one: each theorem says what it proves, and under which conditions.
-/
import Derived.Laws.BitsAllLaws
import Derived.Deep.DeepMust
import Derived.Deep.RegionLaw
import Derived.Deep.AppendLies
import Derived.Deep.DrawnRows
import Derived.Deep.DeepCutAuto
import Derived.Test.YtlfmefojcmpfeaaGreatDoorUT
import Derived.Test.YtlfmefojcmpfeaaGreatDoorU17
set_option linter.unusedSimpArgs false
set_option linter.unusedVariables false
set_option maxHeartbeats 16000000
set_option maxRecDepth 100000
namespace Go.Proofs.YtlfmefojcmpfeaaGreatDoor
open Go.RowKit
theorem inRB_any (a' b' c':Int) (ps':List ByteArray) (dss:List (List CmpD)):inRB a' b' c' ps' dss=dss.any (fun ds=>verB a' b' c' ps'&&takeB a' b' c' ps' ds):=by
 unfold inRB
 cases verB a' b' c' ps' with
 |true=>simp
 |false=>simp
theorem any_at' {α:Type} (f:α→Bool) (l:List α) (k:Nat) (h:k<l.length) (hf:f l[k]=true):l.any f=true:=by
 rw [List.any_eq_true];exact ⟨l[k],List.getElem_mem h,hf⟩
theorem specInRange_c (S:Nat→Prop) (v:Value) (dss:List (List CmpD)) (a' b' c':Int) (u':Value) (ps':List ByteArray) (w:World) (hv:RangeIn S w v dss) (hB: ∀ b,S b→b<w.heap.size) (hw:wtR dss≤1048576) (hu':Reads w u' (strsV ps')) (hb':bulkS ps'≤1048576):
  Calls Tryz.prog 90 #[v,.agg #[.int .i64 a',.int .i64 b',.int .i64 c',u']] w fun e w'=>e=.returned (.bool (inRB a' b' c' ps' dss))∧Below w.heap.size w w':=by
 have hbx: ∀ o,Below w.heap.size w (w.alloc o):=fun o=>(Below.refl _ _).alloc (Nat.le_refl _) _
 have hn':ps'.length≤1048576:=by unfold bulkS at hb';omega
 obtain ⟨rv,hrv⟩: ∃ r,r=verB a' b' c' ps':=⟨_,rfl⟩
 have HRV:Hid (rv=verB a' b' c' ps'):=hrv
 have HV:Hid (∀ w1,Below w.heap.size w w1→Calls Tryz.prog 95 #[.agg #[.int .i64 a',.int .i64 b',.int .i64 c',u']] w1 fun e w'=>e=.returned (.bool rv)∧Below w1.heap.size w1 w'):=fun w1 h=>by rw [hrv];exact specVerOk_c a' b' c' u' ps' w1 (hu'.below h) hb'
 have HR0: ∀ w1,Below w.heap.size w w1→Reads w1 u' (strsV ps'):=fun w1 h=>hu'.below h
 obtain ⟨q',cap',rfl,_,_⟩:=reads_strs hu'
 have HR:Hid (∀ w1,Below w.heap.size w w1→Reads w1 (.slice q' ps'.length cap') (strsV ps')):=HR0
 obtain ⟨a,cap,rfl,hl,hc,ha⟩:=hv
 unfold maxLen at hl
 have F0:=four_new w 30 (.int .i64 a') (.int .i64 b') (.int .i64 c') (.slice q' ps'.length cap')
 clear hu' hrv HR0
 go_enter Tryz.func90,Tryz.ntmps90
 go_wp2_with fail
 go_loopw [5] (fun vi wo=>∃ i:Nat,i≤dss.length∧vi=.int .i64 (i:Int)∧Hid ((dss.take i).any (fun ds=>verB a' b' c' ps'&&takeB a' b' c' ps' ds)=false)∧Below w.heap.size w wo∧Four wo w.heap.size 30 (.int .i64 a') (.int .i64 b') (.int .i64 c') (.slice q' ps'.length cap')) (fun vi _=>dss.length-(intOf vi).toNat)
 case atStart=>exact ⟨0,Nat.zero_le _,rfl,(by show _=_;simp),hbx _,F0⟩
 case round=>
  obtain ⟨i,hi,rfl,hany,hbo,hFo⟩:=hrel
  clear F0
  by_cases hlt':i<dss.length
  ·rcases ha with rfl|⟨b,off,vs,rfl,hlt,ha⟩
   ·simp at hlt'
   obtain ⟨e0,hu⟩:=ha i hlt'
   have hlt2:b<w.heap.size:=hB b hlt
   have hwt:wtC dss[i]≤1048576:=by have:=wtC_wtR (List.getElem_mem hlt');omega
   have HT:Hid ((verB a' b' c' ps'&&takeB a' b' c' ps' dss[i])=true→dss.any (fun ds=>verB a' b' c' ps'&&takeB a' b' c' ps' ds)=true):=fun h=>any_at' _ _ i hlt' h
   have HN:Hid ((verB a' b' c' ps'&&takeB a' b' c' ps' dss[i])=false→(dss.take (i+1)).any (fun ds=>verB a' b' c' ps'&&takeB a' b' c' ps' ds)=false):=fun h=>by rw [any_take _ _ _ hlt',hany.out,h];rfl
   obtain ⟨ds,hd⟩: ∃ d,d=dss[i]:=⟨_,rfl⟩
   rw [←hd] at hu hwt HT HN
   obtain ⟨x,hx⟩: ∃ x,x=vs i:=⟨_,rfl⟩
   rw [←hx] at e0 hu
   obtain ⟨uq2,cap2,rfl,hl2,hc2,ha2⟩:=hu
   unfold maxLen at hl2
   have hii:(i:Int)<(dss.length:Int):=by omega
   have E0:Hid (∀ w1,Below w.heap.size w w1→w1.cell? ⟨b,off+i,none⟩=some (.slice uq2 ds.length cap2)):=fun w1 h=>(h.cell (by simpa using hlt2)).trans e0
   have e0o:=E0.out wr hbo
   obtain ⟨x0,x1,x2,x3⟩:=hFo.cells
   clear ha hd hx e0
   go_wp2_with (go_at_call 95;refine (HV.out _ hbo).mono ?_;rintro e wv ⟨rfl,bv⟩;have Fv:=hFo.keep bv;have kv:=hbo.trans (bv.mono hbo.size);obtain ⟨v0,v1,v2,v3⟩:=Fv.cells)
   go_loopw [6,7,8] (fun v6 v7 vk wr=>∃ (k:Nat) (p6 p7:Bool),k≤ds.length∧vk=.int .i64 (k:Int)∧v6=.bool p6∧v7=.bool p7∧Hid (p6=(verB a' b' c' ps'&&(ds.take k).all (holdsD a' b' c' ps')))∧Hid (p7=(decide (ps'.length=0)||(ds.take k).any (asksD a' b' c')))∧Below w.heap.size w wr∧Four wr w.heap.size 30 (.int .i64 a') (.int .i64 b') (.int .i64 c') (.slice q' ps'.length cap')) (fun _ _ vk _=>ds.length-(intOf vk).toNat)
   case atStart=>exact ⟨0,_,_,Nat.zero_le _,rfl,rfl,rfl,(by show _=_;rw [HRV.out];simp),(by show _=_;rw [len_beq];simp),kv,Fv⟩
   case round=>
    obtain ⟨k,p6,p7,hk,rfl,rfl,rfl,hp6,hp7,hbr,hF⟩:=hrel
    clear hFo Fv x0 x1 x2 x3 v0 v1 v2 v3 e0o bv kv
    have e0:=E0.out wr hbr
    by_cases hltk:k<ds.length
    ·rcases ha2 with rfl|⟨b2,off2,us,rfl,hlt3,ha2⟩
     ·simp at hltk
     obtain ⟨g0,g1,g2,g3,g4,hu,hsn⟩:=ha2 k hltk
     have hlt4:b2<w.heap.size:=hB b2 hlt3
     rw [←hbr.cell (by simpa using hlt4)] at g0 g1 g2 g3 g4
     have hbk:bulkS ds[k].ps≤1048576:=by have:=bulk_wtC (List.getElem_mem hltk);omega
     have hpl:ds[k].ps.length≤1048576:=by unfold bulkS at hbk;omega
     have hr1: ∀ w1,Below wr.heap.size wr w1→Reads w1 (us k) (strsV ds[k].ps):=fun w1 h=>(hu.keep (.of (hbr.trans (h.mono hbr.size)) hB)).reads (fun b hb=>Nat.lt_of_lt_of_le (hB b hb) (Nat.le_trans hbr.size h.size))
     have HA:Hid (∀ q:Bool,q=(p6&&holdsD a' b' c' ps' ds[k])→q=(verB a' b' c' ps'&&(ds.take (k+1)).all (holdsD a' b' c' ps'))):=fun q h=>by rw [all_take _ _ _ hltk, ←Bool.and_assoc, ←hp6.out];exact h
     have HY:Hid (∀ q:Bool,q=(p7||asksD a' b' c' ds[k])→q=(decide (ps'.length=0)||(ds.take (k+1)).any (asksD a' b' c'))):=fun q h=>by rw [any_take _ _ _ hltk, ←Bool.or_assoc, ←hp7.out];exact h
     obtain ⟨d,hd⟩: ∃ d,d=ds[k]:=⟨_,rfl⟩
     rw [←hd] at g0 g1 g2 g3 hr1 hbk hpl HA HY
     obtain ⟨u,hu0⟩: ∃ u,u=us k:=⟨_,rfl⟩
     rw [←hu0] at g4 hr1
     obtain ⟨uq,ucap,hu2,_,_⟩:=reads_strs (hr1 wr (Below.refl _ _))
     subst hu2
     obtain ⟨r1,hr1'⟩: ∃ r,r=holdsD a' b' c' ps' d:=⟨_,rfl⟩
     obtain ⟨r2,hr2'⟩: ∃ r,r=coreB d.a d.b d.c a' b' c':=⟨_,rfl⟩
     have HC:Hid (∀ w1,Below wr.heap.size wr w1→Calls Tryz.prog 169 #[.agg #[.int .i64 d.o,.int .i64 d.a,.int .i64 d.b,.int .i64 d.c,.slice uq d.ps.length ucap],.agg #[.int .i64 a',.int .i64 b',.int .i64 c',.slice q' ps'.length cap']] w1 fun e w'=>e=.returned (.bool r1)∧Below w1.heap.size w1 w'):=fun w1 h=>by rw [hr1'];exact specCmpOk_c _ _ _ _ _ d.ps _ _ _ _ ps' w1 (hr1 w1 h) (HR.out w1 (hbr.trans (h.mono hbr.size))) hbk hb'
     have HN':Hid (∀ w1,Calls Tryz.prog 155 #[.agg #[.int .i64 d.a,.int .i64 d.b,.int .i64 d.c,.slice uq d.ps.length ucap],.agg #[.int .i64 a',.int .i64 b',.int .i64 c',.slice q' ps'.length cap']] w1 fun e w'=>e=.returned (.bool r2)∧Below w1.heap.size w1 w'):=fun w1=>by rw [hr2'];exact core_c _ _ _ _ _ _ _ _ _ _ _ _ w1
     have hr2:Hid (r2=coreB d.a d.b d.c a' b' c'):=hr2'
     have hr1h:Hid (r1=holdsD a' b' c' ps' d):=hr1'
     have hNw:w.heap.size<wr.heap.size:=hF.lt
     obtain ⟨x0,x1,x2,x3⟩:=hF.cells
     have hbb:b<wr.heap.size:=Nat.lt_of_lt_of_le hlt2 hbr.size
     have hbb2:b2<wr.heap.size:=Nat.lt_of_lt_of_le hlt4 hbr.size
     have KEEP:Hid (∀ w1,Below wr.heap.size wr w1→w1.cell? ⟨b,off+i,none⟩=some (.slice (some ⟨b2,off2,none⟩) ds.length cap2)∧w1.cell? ⟨b2,off2+k*5,none⟩=some (.int .i64 d.o)∧w1.cell? ⟨b2,off2+k*5+1,none⟩=some (.int .i64 d.a)∧w1.cell? ⟨b2,off2+k*5+2,none⟩=some (.int .i64 d.b)∧w1.cell? ⟨b2,off2+k*5+3,none⟩=some (.int .i64 d.c)∧w1.cell? ⟨b2,off2+k*5+4,none⟩=some (.slice uq d.ps.length ucap)∧w1.cell? ⟨w.heap.size,0,none⟩=some (.int .i64 a')∧w1.cell? ⟨w.heap.size,1,none⟩=some (.int .i64 b')∧w1.cell? ⟨w.heap.size,2,none⟩=some (.int .i64 c')∧w1.cell? ⟨w.heap.size,3,none⟩=some (.slice q' ps'.length cap')):=fun w1 h=>⟨(h.cell (by simpa using hbb)).trans e0,(h.cell (by simpa using hbb2)).trans g0,(h.cell (by simpa using hbb2)).trans g1,(h.cell (by simpa using hbb2)).trans g2,(h.cell (by simpa using hbb2)).trans g3,(h.cell (by simpa using hbb2)).trans g4,(h.cell (by simpa using hNw)).trans x0,(h.cell (by simpa using hNw)).trans x1,(h.cell (by simpa using hNw)).trans x2,(h.cell (by simpa using hNw)).trans x3⟩
     have hd0:Below wr.heap.size wr wr.drew:=(Below.refl _ _).drew
     have hki:(k:Int)<(ds.length:Int):=by omega
     clear ha2 hu hd hu0 hr1 hr1' hr2' hsn hbk hp6 hp7 hany HT HN
     cases p6 with
     |true=>
      have H6:Hid (r1=(verB a' b' c' ps'&&(ds.take (k+1)).all (holdsD a' b' c' ps'))):=HA.out r1 (by rw [hr1h.out];rfl)
      clear HA
      go_wp2_with fail
      refine wp_region_held_drew (S:=(fun w'=>w'.cell? ⟨b,off+i,none⟩=some (.slice (some ⟨b2,off2,none⟩) ds.length cap2)∧w'.cell? ⟨b2,off2+k*5,none⟩=some (.int .i64 d.o)∧w'.cell? ⟨b2,off2+k*5+1,none⟩=some (.int .i64 d.a)∧w'.cell? ⟨b2,off2+k*5+2,none⟩=some (.int .i64 d.b)∧w'.cell? ⟨b2,off2+k*5+3,none⟩=some (.int .i64 d.c)∧w'.cell? ⟨b2,off2+k*5+4,none⟩=some (.slice uq d.ps.length ucap)∧w'.cell? ⟨w.heap.size,0,none⟩=some (.int .i64 a')∧w'.cell? ⟨w.heap.size,1,none⟩=some (.int .i64 b')∧w'.cell? ⟨w.heap.size,2,none⟩=some (.int .i64 c')∧w'.cell? ⟨w.heap.size,3,none⟩=some (.slice q' ps'.length cap'))) (by kernel_rfl) ?SR10 (fun hHeld=>?_)
      case SR10=>(first|(with_reducible exact KEEP.out _ hd0)|(with_reducible exact KEEP.out _ hd1))
      refine tk 0 hHeld (h:=?_)
      refine tk 1 hHeld (h:=?_)
      refine tk 2 hHeld (h:=?_)
      refine tk 3 hHeld (h:=?_)
      refine tk 4 hHeld (h:=?_)
      refine tk 5 hHeld (h:=?_)
      refine tk 6 hHeld (h:=?_)
      refine tk 7 hHeld (h:=?_)
      refine tk 8 hHeld (h:=?_)
      refine tk 9 hHeld (h:=?_)
      refine wpAnyH_ready (rs:=[10]) (by kernel_rfl) (by simp) ?_
      refine AllReadyH.cons rfl (fun K hK=>?_) AllReadyH.nil
      go_simp
      go_wp2_with (go_at_call 169;refine (HC.out _ hd0).mono ?_;rintro e w1 ⟨rfl,b1⟩;have hd1:Below wr.heap.size wr w1:=hd0.trans (b1.mono hd0.size))
      clear hHeld
      refine hK.out _ _ ?SR111 (fun hHeld=>?_)
      case SR111=>((try dsimp only);first|(with_reducible exact KEEP.out _ hd0)|(with_reducible exact KEEP.out _ hd1))
      clear hK K
      refine tk 11 hHeld (h:=?_)
      refine tk 12 hHeld (h:=?_)
      refine wpAnyH_done (by kernel_rfl) ?_ _
      have hd2:Below wr.heap.size wr w1.drew:=hd1.drew
      cases p7 with
      |true=>
       have H7:Hid (true=(decide (ps'.length=0)||(ds.take (k+1)).any (asksD a' b' c'))):=HY.out true rfl
       go_wp2_with fail
       refine wp_region_held_drew (S:=(fun w'=>w'.cell? ⟨b,off+i,none⟩=some (.slice (some ⟨b2,off2,none⟩) ds.length cap2)∧w'.cell? ⟨b2,off2+k*5,none⟩=some (.int .i64 d.o)∧w'.cell? ⟨b2,off2+k*5+1,none⟩=some (.int .i64 d.a)∧w'.cell? ⟨b2,off2+k*5+2,none⟩=some (.int .i64 d.b)∧w'.cell? ⟨b2,off2+k*5+3,none⟩=some (.int .i64 d.c)∧w'.cell? ⟨b2,off2+k*5+4,none⟩=some (.slice uq d.ps.length ucap)∧w'.cell? ⟨w.heap.size,0,none⟩=some (.int .i64 a')∧w'.cell? ⟨w.heap.size,1,none⟩=some (.int .i64 b')∧w'.cell? ⟨w.heap.size,2,none⟩=some (.int .i64 c')∧w'.cell? ⟨w.heap.size,3,none⟩=some (.slice q' ps'.length cap'))) (by kernel_rfl) ?SR20 (fun hHeld=>?_)
       case SR20=>(first|(with_reducible exact KEEP.out _ hd2)|(with_reducible exact KEEP.out _ hd3))
       refine tk 0 hHeld (h:=?_)
       refine tk 1 hHeld (h:=?_)
       refine tk 2 hHeld (v:=undef) (hy:=Or.inr ⟨by rfl,rfl⟩) (h:=?_)
       refine tk 3 hHeld (v:=undef) (hy:=Or.inr ⟨by rfl,rfl⟩) (h:=?_)
       refine tk 4 hHeld (v:=undef) (hy:=Or.inr ⟨by rfl,rfl⟩) (h:=?_)
       refine tk 5 hHeld (v:=undef) (hy:=Or.inr ⟨by rfl,rfl⟩) (h:=?_)
       refine tk 6 hHeld (v:=undef) (hy:=Or.inr ⟨by rfl,rfl⟩) (h:=?_)
       refine tk 7 hHeld (v:=undef) (hy:=Or.inr ⟨by rfl,rfl⟩) (h:=?_)
       refine tk 8 hHeld (v:=undef) (hy:=Or.inr ⟨by rfl,rfl⟩) (h:=?_)
       refine tk 9 hHeld (v:=undef) (hy:=Or.inr ⟨by rfl,rfl⟩) (h:=?_)
       refine tk 10 hHeld (v:=undef) (hy:=Or.inr ⟨by rfl,rfl⟩) (h:=?_)
       refine tk 11 hHeld (v:=undef) (hy:=Or.inr ⟨by rfl,rfl⟩) (h:=?_)
       refine tk 12 hHeld (v:=undef) (hy:=Or.inr ⟨by rfl,rfl⟩) (h:=?_)
       refine tk 13 hHeld (v:=undef) (hy:=Or.inr ⟨by rfl,rfl⟩) (h:=?_)
       refine tk 14 hHeld (v:=undef) (hy:=Or.inr ⟨by rfl,rfl⟩) (h:=?_)
       refine tk 15 hHeld (v:=undef) (hy:=Or.inr ⟨by rfl,rfl⟩) (h:=?_)
       refine tk 16 hHeld (v:=undef) (hy:=Or.inr ⟨by rfl,rfl⟩) (h:=?_)
       refine tk 17 hHeld (v:=undef) (hy:=Or.inr ⟨by rfl,rfl⟩) (h:=?_)
       refine tk 18 hHeld (v:=undef) (hy:=Or.inr ⟨by rfl,rfl⟩) (h:=?_)
       refine tk 19 hHeld (v:=undef) (hy:=Or.inr ⟨by rfl,rfl⟩) (h:=?_)
       refine tk 20 hHeld (v:=undef) (hy:=Or.inr ⟨by rfl,rfl⟩) (h:=?_)
       refine tk 21 hHeld (v:=undef) (hy:=Or.inr ⟨by rfl,rfl⟩) (h:=?_)
       refine tk 22 hHeld (v:=undef) (hy:=Or.inr ⟨by rfl,rfl⟩) (h:=?_)
       refine tk 23 hHeld (v:=undef) (hy:=Or.inr ⟨by rfl,rfl⟩) (h:=?_)
       refine tk 24 hHeld (v:=undef) (hy:=Or.inr ⟨by rfl,rfl⟩) (h:=?_)
       refine tk 25 hHeld (h:=?_)
       refine tk 26 hHeld (h:=?_)
       refine wpAnyH_done (by kernel_rfl) ?_ _
       go_wp2_with fail
       go_roundw
       case rel=>exact ⟨k+1,r1,true,by omega,by go_num,rfl,rfl,H6,H7,hbr.trans (hd2.mono hbr.size),(hF.keep hd2)⟩
       case measure=>simp [intOf];omega
      |false=>
       by_cases hgt:0<d.ps.length
       ·have hdec:decide (0<d.ps.length)=true:=decide_eq_true hgt
        have H7:Hid (r2=(decide (ps'.length=0)||(ds.take (k+1)).any (asksD a' b' c'))):=HY.out r2 (by rw [asksD,decide_eq_true hgt,hr2.out];rfl)
        clear HY
        go_wp2_with fail
        refine wp_region_held_drew (S:=(fun w'=>w'.cell? ⟨b,off+i,none⟩=some (.slice (some ⟨b2,off2,none⟩) ds.length cap2)∧w'.cell? ⟨b2,off2+k*5,none⟩=some (.int .i64 d.o)∧w'.cell? ⟨b2,off2+k*5+1,none⟩=some (.int .i64 d.a)∧w'.cell? ⟨b2,off2+k*5+2,none⟩=some (.int .i64 d.b)∧w'.cell? ⟨b2,off2+k*5+3,none⟩=some (.int .i64 d.c)∧w'.cell? ⟨b2,off2+k*5+4,none⟩=some (.slice uq d.ps.length ucap)∧w'.cell? ⟨w.heap.size,0,none⟩=some (.int .i64 a')∧w'.cell? ⟨w.heap.size,1,none⟩=some (.int .i64 b')∧w'.cell? ⟨w.heap.size,2,none⟩=some (.int .i64 c')∧w'.cell? ⟨w.heap.size,3,none⟩=some (.slice q' ps'.length cap'))) (by kernel_rfl) ?SR30 (fun hHeld=>?_)
        case SR30=>(first|(with_reducible exact KEEP.out _ hd2)|(with_reducible exact KEEP.out _ hd3))
        refine tk 0 hHeld (h:=?_)
        refine tk 1 hHeld (h:=?_)
        refine tk 2 hHeld (h:=?_)
        refine tk 3 hHeld (h:=?_)
        refine tk 4 hHeld (h:=?_)
        refine tk 5 hHeld (h:=?_)
        refine tk 6 hHeld (h:=?_)
        refine tk 7 hHeld (h:=?_)
        refine tk 8 hHeld (h:=?_)
        refine tk 9 hHeld (h:=?_)
        refine tk 10 hHeld (h:=?_)
        refine tk 11 hHeld (h:=?_)
        refine tk 12 hHeld (h:=?_)
        refine tk 13 hHeld (h:=?_)
        refine tk 14 hHeld (h:=?_)
        refine tk 15 hHeld (h:=?_)
        refine tk 16 hHeld (h:=?_)
        refine tk 17 hHeld (h:=?_)
        refine tk 18 hHeld (h:=?_)
        refine tk 19 hHeld (h:=?_)
        refine tk 20 hHeld (h:=?_)
        refine tk 21 hHeld (h:=?_)
        refine tk 22 hHeld (h:=?_)
        refine wpAnyH_ready (rs:=[23]) (by kernel_rfl) (by simp) ?_
        refine AllReadyH.cons rfl (fun K hK=>?_) AllReadyH.nil
        go_simp
        go_wp2_with (go_at_call 155;refine (HN'.out _).mono ?_;rintro e w3 ⟨rfl,b3⟩;have hd3:Below wr.heap.size wr w3:=hd2.trans (b3.mono hd2.size))
        clear hHeld
        refine hK.out _ _ ?SR324 (fun hHeld=>?_)
        case SR324=>((try dsimp only);first|(with_reducible exact KEEP.out _ hd2)|(with_reducible exact KEEP.out _ hd3))
        clear hK K
        refine tk 24 hHeld (h:=?_)
        refine tk 25 hHeld (h:=?_)
        refine tk 26 hHeld (h:=?_)
        refine wpAnyH_done (by kernel_rfl) ?_ _
        go_wp2_with fail
        go_roundw
        case rel=>exact ⟨k+1,r1,r2,by omega,by go_num,rfl,rfl,H6,H7,hbr.trans (hd3.mono hbr.size),(hF.keep hd3)⟩
        case measure=>simp [intOf];omega
       ·have hdec:decide (0<d.ps.length)=false:=decide_eq_false hgt
        have H7:Hid (false=(decide (ps'.length=0)||(ds.take (k+1)).any (asksD a' b' c'))):=HY.out false (by rw [asksD,decide_eq_false hgt];rfl)
        clear HY
        go_wp2_with fail
        refine wp_region_held_drew (S:=(fun w'=>w'.cell? ⟨b,off+i,none⟩=some (.slice (some ⟨b2,off2,none⟩) ds.length cap2)∧w'.cell? ⟨b2,off2+k*5,none⟩=some (.int .i64 d.o)∧w'.cell? ⟨b2,off2+k*5+1,none⟩=some (.int .i64 d.a)∧w'.cell? ⟨b2,off2+k*5+2,none⟩=some (.int .i64 d.b)∧w'.cell? ⟨b2,off2+k*5+3,none⟩=some (.int .i64 d.c)∧w'.cell? ⟨b2,off2+k*5+4,none⟩=some (.slice uq d.ps.length ucap)∧w'.cell? ⟨w.heap.size,0,none⟩=some (.int .i64 a')∧w'.cell? ⟨w.heap.size,1,none⟩=some (.int .i64 b')∧w'.cell? ⟨w.heap.size,2,none⟩=some (.int .i64 c')∧w'.cell? ⟨w.heap.size,3,none⟩=some (.slice q' ps'.length cap'))) (by kernel_rfl) ?SR40 (fun hHeld=>?_)
        case SR40=>(first|(with_reducible exact KEEP.out _ hd2)|(with_reducible exact KEEP.out _ hd3))
        refine tk 0 hHeld (h:=?_)
        refine tk 1 hHeld (h:=?_)
        refine tk 2 hHeld (h:=?_)
        refine tk 3 hHeld (h:=?_)
        refine tk 4 hHeld (h:=?_)
        refine tk 5 hHeld (h:=?_)
        refine tk 6 hHeld (h:=?_)
        refine tk 7 hHeld (h:=?_)
        refine tk 8 hHeld (h:=?_)
        refine tk 9 hHeld (h:=?_)
        refine tk 10 hHeld (h:=?_)
        refine tk 11 hHeld (h:=?_)
        refine tk 12 hHeld (h:=?_)
        refine tk 13 hHeld (h:=?_)
        refine tk 14 hHeld (v:=undef) (hy:=Or.inr ⟨by rfl,rfl⟩) (h:=?_)
        refine tk 15 hHeld (v:=undef) (hy:=Or.inr ⟨by rfl,rfl⟩) (h:=?_)
        refine tk 16 hHeld (v:=undef) (hy:=Or.inr ⟨by rfl,rfl⟩) (h:=?_)
        refine tk 17 hHeld (v:=undef) (hy:=Or.inr ⟨by rfl,rfl⟩) (h:=?_)
        refine tk 18 hHeld (v:=undef) (hy:=Or.inr ⟨by rfl,rfl⟩) (h:=?_)
        refine tk 19 hHeld (v:=undef) (hy:=Or.inr ⟨by rfl,rfl⟩) (h:=?_)
        refine tk 20 hHeld (v:=undef) (hy:=Or.inr ⟨by rfl,rfl⟩) (h:=?_)
        refine tk 21 hHeld (v:=undef) (hy:=Or.inr ⟨by rfl,rfl⟩) (h:=?_)
        refine tk 22 hHeld (v:=undef) (hy:=Or.inr ⟨by rfl,rfl⟩) (h:=?_)
        refine tk 23 hHeld (v:=undef) (hy:=Or.inr ⟨by rfl,rfl⟩) (h:=?_)
        refine tk 24 hHeld (h:=?_)
        refine tk 25 hHeld (h:=?_)
        refine tk 26 hHeld (h:=?_)
        refine wpAnyH_done (by kernel_rfl) ?_ _
        go_wp2_with fail
        go_roundw
        case rel=>exact ⟨k+1,r1,false,by omega,by go_num,rfl,rfl,H6,H7,hbr.trans (hd2.mono hbr.size),(hF.keep hd2)⟩
        case measure=>simp [intOf];omega
     |false=>
      have H6:Hid (false=(verB a' b' c' ps'&&(ds.take (k+1)).all (holdsD a' b' c' ps'))):=HA.out false rfl
      clear HA
      go_wp2_with fail
      refine wp_region_held_drew (S:=(fun w'=>w'.cell? ⟨b,off+i,none⟩=some (.slice (some ⟨b2,off2,none⟩) ds.length cap2)∧w'.cell? ⟨b2,off2+k*5,none⟩=some (.int .i64 d.o)∧w'.cell? ⟨b2,off2+k*5+1,none⟩=some (.int .i64 d.a)∧w'.cell? ⟨b2,off2+k*5+2,none⟩=some (.int .i64 d.b)∧w'.cell? ⟨b2,off2+k*5+3,none⟩=some (.int .i64 d.c)∧w'.cell? ⟨b2,off2+k*5+4,none⟩=some (.slice uq d.ps.length ucap)∧w'.cell? ⟨w.heap.size,0,none⟩=some (.int .i64 a')∧w'.cell? ⟨w.heap.size,1,none⟩=some (.int .i64 b')∧w'.cell? ⟨w.heap.size,2,none⟩=some (.int .i64 c')∧w'.cell? ⟨w.heap.size,3,none⟩=some (.slice q' ps'.length cap'))) (by kernel_rfl) ?SR50 (fun hHeld=>?_)
      case SR50=>(first|(with_reducible exact KEEP.out _ hd0)|(with_reducible exact KEEP.out _ hd1))
      refine tk 0 hHeld (h:=?_)
      refine tk 1 hHeld (h:=?_)
      refine tk 2 hHeld (v:=undef) (hy:=Or.inr ⟨by rfl,rfl⟩) (h:=?_)
      refine tk 3 hHeld (v:=undef) (hy:=Or.inr ⟨by rfl,rfl⟩) (h:=?_)
      refine tk 4 hHeld (v:=undef) (hy:=Or.inr ⟨by rfl,rfl⟩) (h:=?_)
      refine tk 5 hHeld (v:=undef) (hy:=Or.inr ⟨by rfl,rfl⟩) (h:=?_)
      refine tk 6 hHeld (v:=undef) (hy:=Or.inr ⟨by rfl,rfl⟩) (h:=?_)
      refine tk 7 hHeld (v:=undef) (hy:=Or.inr ⟨by rfl,rfl⟩) (h:=?_)
      refine tk 8 hHeld (v:=undef) (hy:=Or.inr ⟨by rfl,rfl⟩) (h:=?_)
      refine tk 9 hHeld (v:=undef) (hy:=Or.inr ⟨by rfl,rfl⟩) (h:=?_)
      refine tk 10 hHeld (v:=undef) (hy:=Or.inr ⟨by rfl,rfl⟩) (h:=?_)
      refine tk 11 hHeld (h:=?_)
      refine tk 12 hHeld (h:=?_)
      refine wpAnyH_done (by kernel_rfl) ?_ _
      have hd2:Below wr.heap.size wr wr.drew.drew:=hd0.drew
      cases p7 with
      |true=>
       have H7:Hid (true=(decide (ps'.length=0)||(ds.take (k+1)).any (asksD a' b' c'))):=HY.out true rfl
       go_wp2_with fail
       refine wp_region_held_drew (S:=(fun w'=>w'.cell? ⟨b,off+i,none⟩=some (.slice (some ⟨b2,off2,none⟩) ds.length cap2)∧w'.cell? ⟨b2,off2+k*5,none⟩=some (.int .i64 d.o)∧w'.cell? ⟨b2,off2+k*5+1,none⟩=some (.int .i64 d.a)∧w'.cell? ⟨b2,off2+k*5+2,none⟩=some (.int .i64 d.b)∧w'.cell? ⟨b2,off2+k*5+3,none⟩=some (.int .i64 d.c)∧w'.cell? ⟨b2,off2+k*5+4,none⟩=some (.slice uq d.ps.length ucap)∧w'.cell? ⟨w.heap.size,0,none⟩=some (.int .i64 a')∧w'.cell? ⟨w.heap.size,1,none⟩=some (.int .i64 b')∧w'.cell? ⟨w.heap.size,2,none⟩=some (.int .i64 c')∧w'.cell? ⟨w.heap.size,3,none⟩=some (.slice q' ps'.length cap'))) (by kernel_rfl) ?SR60 (fun hHeld=>?_)
       case SR60=>(first|(with_reducible exact KEEP.out _ hd2)|(with_reducible exact KEEP.out _ hd3))
       refine tk 0 hHeld (h:=?_)
       refine tk 1 hHeld (h:=?_)
       refine tk 2 hHeld (v:=undef) (hy:=Or.inr ⟨by rfl,rfl⟩) (h:=?_)
       refine tk 3 hHeld (v:=undef) (hy:=Or.inr ⟨by rfl,rfl⟩) (h:=?_)
       refine tk 4 hHeld (v:=undef) (hy:=Or.inr ⟨by rfl,rfl⟩) (h:=?_)
       refine tk 5 hHeld (v:=undef) (hy:=Or.inr ⟨by rfl,rfl⟩) (h:=?_)
       refine tk 6 hHeld (v:=undef) (hy:=Or.inr ⟨by rfl,rfl⟩) (h:=?_)
       refine tk 7 hHeld (v:=undef) (hy:=Or.inr ⟨by rfl,rfl⟩) (h:=?_)
       refine tk 8 hHeld (v:=undef) (hy:=Or.inr ⟨by rfl,rfl⟩) (h:=?_)
       refine tk 9 hHeld (v:=undef) (hy:=Or.inr ⟨by rfl,rfl⟩) (h:=?_)
       refine tk 10 hHeld (v:=undef) (hy:=Or.inr ⟨by rfl,rfl⟩) (h:=?_)
       refine tk 11 hHeld (v:=undef) (hy:=Or.inr ⟨by rfl,rfl⟩) (h:=?_)
       refine tk 12 hHeld (v:=undef) (hy:=Or.inr ⟨by rfl,rfl⟩) (h:=?_)
       refine tk 13 hHeld (v:=undef) (hy:=Or.inr ⟨by rfl,rfl⟩) (h:=?_)
       refine tk 14 hHeld (v:=undef) (hy:=Or.inr ⟨by rfl,rfl⟩) (h:=?_)
       refine tk 15 hHeld (v:=undef) (hy:=Or.inr ⟨by rfl,rfl⟩) (h:=?_)
       refine tk 16 hHeld (v:=undef) (hy:=Or.inr ⟨by rfl,rfl⟩) (h:=?_)
       refine tk 17 hHeld (v:=undef) (hy:=Or.inr ⟨by rfl,rfl⟩) (h:=?_)
       refine tk 18 hHeld (v:=undef) (hy:=Or.inr ⟨by rfl,rfl⟩) (h:=?_)
       refine tk 19 hHeld (v:=undef) (hy:=Or.inr ⟨by rfl,rfl⟩) (h:=?_)
       refine tk 20 hHeld (v:=undef) (hy:=Or.inr ⟨by rfl,rfl⟩) (h:=?_)
       refine tk 21 hHeld (v:=undef) (hy:=Or.inr ⟨by rfl,rfl⟩) (h:=?_)
       refine tk 22 hHeld (v:=undef) (hy:=Or.inr ⟨by rfl,rfl⟩) (h:=?_)
       refine tk 23 hHeld (v:=undef) (hy:=Or.inr ⟨by rfl,rfl⟩) (h:=?_)
       refine tk 24 hHeld (v:=undef) (hy:=Or.inr ⟨by rfl,rfl⟩) (h:=?_)
       refine tk 25 hHeld (h:=?_)
       refine tk 26 hHeld (h:=?_)
       refine wpAnyH_done (by kernel_rfl) ?_ _
       go_wp2_with fail
       go_roundw
       case rel=>exact ⟨k+1,false,true,by omega,by go_num,rfl,rfl,H6,H7,hbr.trans (hd2.mono hbr.size),(hF.keep hd2)⟩
       case measure=>simp [intOf];omega
      |false=>
       by_cases hgt:0<d.ps.length
       ·have hdec:decide (0<d.ps.length)=true:=decide_eq_true hgt
        have H7:Hid (r2=(decide (ps'.length=0)||(ds.take (k+1)).any (asksD a' b' c'))):=HY.out r2 (by rw [asksD,decide_eq_true hgt,hr2.out];rfl)
        clear HY
        go_wp2_with fail
        refine wp_region_held_drew (S:=(fun w'=>w'.cell? ⟨b,off+i,none⟩=some (.slice (some ⟨b2,off2,none⟩) ds.length cap2)∧w'.cell? ⟨b2,off2+k*5,none⟩=some (.int .i64 d.o)∧w'.cell? ⟨b2,off2+k*5+1,none⟩=some (.int .i64 d.a)∧w'.cell? ⟨b2,off2+k*5+2,none⟩=some (.int .i64 d.b)∧w'.cell? ⟨b2,off2+k*5+3,none⟩=some (.int .i64 d.c)∧w'.cell? ⟨b2,off2+k*5+4,none⟩=some (.slice uq d.ps.length ucap)∧w'.cell? ⟨w.heap.size,0,none⟩=some (.int .i64 a')∧w'.cell? ⟨w.heap.size,1,none⟩=some (.int .i64 b')∧w'.cell? ⟨w.heap.size,2,none⟩=some (.int .i64 c')∧w'.cell? ⟨w.heap.size,3,none⟩=some (.slice q' ps'.length cap'))) (by kernel_rfl) ?SR70 (fun hHeld=>?_)
        case SR70=>(first|(with_reducible exact KEEP.out _ hd2)|(with_reducible exact KEEP.out _ hd3))
        refine tk 0 hHeld (h:=?_)
        refine tk 1 hHeld (h:=?_)
        refine tk 2 hHeld (h:=?_)
        refine tk 3 hHeld (h:=?_)
        refine tk 4 hHeld (h:=?_)
        refine tk 5 hHeld (h:=?_)
        refine tk 6 hHeld (h:=?_)
        refine tk 7 hHeld (h:=?_)
        refine tk 8 hHeld (h:=?_)
        refine tk 9 hHeld (h:=?_)
        refine tk 10 hHeld (h:=?_)
        refine tk 11 hHeld (h:=?_)
        refine tk 12 hHeld (h:=?_)
        refine tk 13 hHeld (h:=?_)
        refine tk 14 hHeld (h:=?_)
        refine tk 15 hHeld (h:=?_)
        refine tk 16 hHeld (h:=?_)
        refine tk 17 hHeld (h:=?_)
        refine tk 18 hHeld (h:=?_)
        refine tk 19 hHeld (h:=?_)
        refine tk 20 hHeld (h:=?_)
        refine tk 21 hHeld (h:=?_)
        refine tk 22 hHeld (h:=?_)
        refine wpAnyH_ready (rs:=[23]) (by kernel_rfl) (by simp) ?_
        refine AllReadyH.cons rfl (fun K hK=>?_) AllReadyH.nil
        go_simp
        go_wp2_with (go_at_call 155;refine (HN'.out _).mono ?_;rintro e w3 ⟨rfl,b3⟩;have hd3:Below wr.heap.size wr w3:=hd2.trans (b3.mono hd2.size))
        clear hHeld
        refine hK.out _ _ ?SR724 (fun hHeld=>?_)
        case SR724=>((try dsimp only);first|(with_reducible exact KEEP.out _ hd2)|(with_reducible exact KEEP.out _ hd3))
        clear hK K
        refine tk 24 hHeld (h:=?_)
        refine tk 25 hHeld (h:=?_)
        refine tk 26 hHeld (h:=?_)
        refine wpAnyH_done (by kernel_rfl) ?_ _
        go_wp2_with fail
        go_roundw
        case rel=>exact ⟨k+1,false,r2,by omega,by go_num,rfl,rfl,H6,H7,hbr.trans (hd3.mono hbr.size),(hF.keep hd3)⟩
        case measure=>simp [intOf];omega
       ·have hdec:decide (0<d.ps.length)=false:=decide_eq_false hgt
        have H7:Hid (false=(decide (ps'.length=0)||(ds.take (k+1)).any (asksD a' b' c'))):=HY.out false (by rw [asksD,decide_eq_false hgt];rfl)
        clear HY
        go_wp2_with fail
        refine wp_region_held_drew (S:=(fun w'=>w'.cell? ⟨b,off+i,none⟩=some (.slice (some ⟨b2,off2,none⟩) ds.length cap2)∧w'.cell? ⟨b2,off2+k*5,none⟩=some (.int .i64 d.o)∧w'.cell? ⟨b2,off2+k*5+1,none⟩=some (.int .i64 d.a)∧w'.cell? ⟨b2,off2+k*5+2,none⟩=some (.int .i64 d.b)∧w'.cell? ⟨b2,off2+k*5+3,none⟩=some (.int .i64 d.c)∧w'.cell? ⟨b2,off2+k*5+4,none⟩=some (.slice uq d.ps.length ucap)∧w'.cell? ⟨w.heap.size,0,none⟩=some (.int .i64 a')∧w'.cell? ⟨w.heap.size,1,none⟩=some (.int .i64 b')∧w'.cell? ⟨w.heap.size,2,none⟩=some (.int .i64 c')∧w'.cell? ⟨w.heap.size,3,none⟩=some (.slice q' ps'.length cap'))) (by kernel_rfl) ?SR80 (fun hHeld=>?_)
        case SR80=>(first|(with_reducible exact KEEP.out _ hd2)|(with_reducible exact KEEP.out _ hd3))
        refine tk 0 hHeld (h:=?_)
        refine tk 1 hHeld (h:=?_)
        refine tk 2 hHeld (h:=?_)
        refine tk 3 hHeld (h:=?_)
        refine tk 4 hHeld (h:=?_)
        refine tk 5 hHeld (h:=?_)
        refine tk 6 hHeld (h:=?_)
        refine tk 7 hHeld (h:=?_)
        refine tk 8 hHeld (h:=?_)
        refine tk 9 hHeld (h:=?_)
        refine tk 10 hHeld (h:=?_)
        refine tk 11 hHeld (h:=?_)
        refine tk 12 hHeld (h:=?_)
        refine tk 13 hHeld (h:=?_)
        refine tk 14 hHeld (v:=undef) (hy:=Or.inr ⟨by rfl,rfl⟩) (h:=?_)
        refine tk 15 hHeld (v:=undef) (hy:=Or.inr ⟨by rfl,rfl⟩) (h:=?_)
        refine tk 16 hHeld (v:=undef) (hy:=Or.inr ⟨by rfl,rfl⟩) (h:=?_)
        refine tk 17 hHeld (v:=undef) (hy:=Or.inr ⟨by rfl,rfl⟩) (h:=?_)
        refine tk 18 hHeld (v:=undef) (hy:=Or.inr ⟨by rfl,rfl⟩) (h:=?_)
        refine tk 19 hHeld (v:=undef) (hy:=Or.inr ⟨by rfl,rfl⟩) (h:=?_)
        refine tk 20 hHeld (v:=undef) (hy:=Or.inr ⟨by rfl,rfl⟩) (h:=?_)
        refine tk 21 hHeld (v:=undef) (hy:=Or.inr ⟨by rfl,rfl⟩) (h:=?_)
        refine tk 22 hHeld (v:=undef) (hy:=Or.inr ⟨by rfl,rfl⟩) (h:=?_)
        refine tk 23 hHeld (v:=undef) (hy:=Or.inr ⟨by rfl,rfl⟩) (h:=?_)
        refine tk 24 hHeld (h:=?_)
        refine tk 25 hHeld (h:=?_)
        refine tk 26 hHeld (h:=?_)
        refine wpAnyH_done (by kernel_rfl) ?_ _
        go_wp2_with fail
        go_roundw
        case rel=>exact ⟨k+1,false,false,by omega,by go_num,rfl,rfl,H6,H7,hbr.trans (hd2.mono hbr.size),(hF.keep hd2)⟩
        case measure=>simp [intOf];omega
    ·have he:k=ds.length:=by omega
     subst he
     have h6:=hp6.out
     have h7:=hp7.out
     have HE:Hid ((verB a' b' c' ps'&&takeB a' b' c' ps' ds)=(p6&&p7)):=by
      show _=_
      rw [h6,h7,List.take_length,Bool.and_assoc]
      rfl
     rw [HE.out] at HT HN
     clear ha2 hp6 hp7 h6 h7 hany
     cases p6 with
     |false=>
      have HN2:Hid ((dss.take (i+1)).any (fun ds=>verB a' b' c' ps'&&takeB a' b' c' ps' ds)=false):=HN.out rfl
      clear HT HN
      go_wp2_with fail
      go_roundw
      case rel=>exact ⟨i+1,by omega,by go_num,HN2,hbr,hF⟩
      case measure=>simp [intOf];omega
     |true=>
      cases p7 with
      |false=>
       have HN2:Hid ((dss.take (i+1)).any (fun ds=>verB a' b' c' ps'&&takeB a' b' c' ps' ds)=false):=HN.out rfl
       clear HT HN
       go_wp2_with fail
       go_roundw
       case rel=>exact ⟨i+1,by omega,by go_num,HN2,hbr,hF⟩
       case measure=>simp [intOf];omega
      |true=>
       have HT2:Hid (inRB a' b' c' ps' dss=true):=by show _=_;rw [inRB_any];exact HT.out rfl
       clear HT HN
       go_wp2_with fail
       go_ret
       exact ⟨by rw [HT2.out];rfl,hbr⟩
  ·have he:i=dss.length:=by omega
   subst he
   have HE:Hid (inRB a' b' c' ps' dss=false):=by show _=_;rw [inRB_any];have:=hany.out;rw [List.take_length] at this;exact this
   clear ha hany
   go_wp2_with fail
   go_ret
   exact ⟨by rw [HE.out];rfl,hbo⟩
theorem name_alike (a b:ByteArray):(a.toList == b.toList)=decide (a=b):=by
 by_cases h:a=b
 ·subst h;simp
 ·rw [decide_eq_false h]
  cases hh:(a.toList == b.toList) with
  |false=>rfl
  |true=>exact absurd (bytes_eq_of_toList (by simpa using hh)) h
def Tabs (w:World):Prop:=∃ m:Int,w.cell? ⟨2,0,none⟩=some (.int .i64 m)∧∀ k (h:k<signsT.length),w.cell? ⟨1,k,none⟩=some (.string signsT[k])
theorem Tabs.below {w w':World} (h:Tabs w) (hb:Below w.heap.size w w'):Tabs w':=by
 obtain ⟨m,h1,h2⟩:=h
 exact ⟨m,(hb.cell (by simpa using World.block_lt_of_cell? w _ h1)).trans h1,fun k hk=>(hb.cell (by simpa using World.block_lt_of_cell? w _ (h2 k hk))).trans (h2 k hk)⟩
theorem boxTwo {w w1:World} {A R:Obj} (hb:Below ((w.alloc A).alloc R).heap.size ((w.alloc A).alloc R) w1):w1.heap[w.heap.size]?=some A∧w1.heap[w.heap.size+1]?=some R:=by
 have s1:(w.alloc A).heap.size=w.heap.size+1:=by simp
 refine ⟨?_,?_⟩
 ·rw [hb.block _ (by simp;omega),vheap_old _ _ (by simp),vheap_new]
 ·rw [hb.block _ (by simp), ←s1,vheap_new]
theorem eqNeed_c (S S':Nat→Prop) (d:NeedD) (cs cs':List Value) (w:World) (hd:shNeed.lies S w cs d) (hd':shNeed.lies S' w cs' d) (hB: ∀ b,S b→b<w.heap.size) (hB': ∀ b,S' b→b<w.heap.size) (hw:wtNeed d≤1048576):
  Calls Tryz.prog 140 #[.agg cs.toArray,.agg cs'.toArray] w fun e w'=>e=.returned (.bool true)∧Below w.heap.size w w':=by
 obtain ⟨rfl,xs_n,xs_r⟩:=hd
 obtain ⟨rfl,ys_n,ys_r⟩:=hd'
 have hb2: ∀ A R,Below w.heap.size w ((w.alloc A).alloc R):=fun A R=>((Below.refl _ _).alloc (Nat.le_refl _) _).alloc (by simp) _
 unfold wtNeed at hw
 go_enter Tryz.func140,Tryz.ntmps140
 go_wp2_with fail
 go_ret
 exact ⟨rfl,(hb2 _ _)⟩
theorem eqNeedS_c (S S':Nat→Prop) (v u:Value) (xs:List NeedD) (w:World) (hv:RowIn shNeed S w v xs) (hv':RowIn shNeed S' w u xs) (hB: ∀ b,S b→b<w.heap.size) (hB': ∀ b,S' b→b<w.heap.size) (hw:wtRow wtNeed xs≤1048576):
  Calls Tryz.prog 61 #[v,u] w fun e w'=>e=.returned (.bool true)∧Below w.heap.size w w':=by
 obtain ⟨a,cap,rfl,hl,hc,ha⟩:=hv
 obtain ⟨a',cap',rfl,_,hc',ha'⟩:=hv'
 unfold maxLen at hl
 go_enter Tryz.func61,Tryz.ntmps61
 go_wp2_with fail
 go_loopw [5] (fun vi wr=>∃ k:Nat,k≤xs.length∧vi=.int .i64 (k:Int)∧Below w.heap.size w wr) (fun vi _=>xs.length-(intOf vi).toNat)
 case atStart=>exact ⟨0,Nat.zero_le _,rfl,Below.refl _ _⟩
 case round=>
  obtain ⟨k,hk,rfl,hbr⟩:=hrel
  by_cases hlt':k<xs.length
  ·rcases ha with rfl|⟨b,off,rfl,hlt,ha⟩
   ·simp at hlt'
   rcases ha' with rfl|⟨b',off',rfl,hlt3,ha'⟩
   ·simp at hlt'
   obtain ⟨cs,hL,hcell⟩:=ha k hlt'
   obtain ⟨cs',hL',hcell'⟩:=ha' k hlt'
   have hwt:wtNeed xs[k]≤1048576:=by have:=wt_wtRow wtNeed (List.getElem_mem hlt');omega
   have HC:=eqNeed_c S S' xs[k] cs cs' wr.drew (shNeed.keep (.of hbr.drew hB) hL) (shNeed.keep (.of hbr.drew hB') hL') (fun b h=>Nat.lt_of_lt_of_le (hB b h) hbr.size) (fun b h=>Nat.lt_of_lt_of_le (hB' b h) hbr.size) hwt
   replace hL:=shNeed.keep (.of hbr hB) hL
   replace hL':=shNeed.keep (.of hbr hB') hL'
   replace hcell:=hcell.keep (.of hbr hB) hlt
   replace hcell':=hcell'.keep (.of hbr hB') hlt3
   obtain ⟨d,hd⟩: ∃ d,d=xs[k]:=⟨_,rfl⟩
   rw [←hd] at hL hL' hwt
   clear ha ha' hd
   obtain ⟨rfl,xs_n,xs_r⟩:=hL
   obtain ⟨rfl,ys_n,ys_r⟩:=hL'
   clear xs_n xs_r ys_n ys_r
   have xv0:wr.cell? ⟨b,off+k*2,none⟩=some (.string d.n):=hcell 0 (by simp)
   have xv1:wr.cell? ⟨b,off+k*2+1,none⟩=some (.string d.r):=hcell 1 (by simp)
   have yv0:wr.cell? ⟨b',off'+k*2,none⟩=some (.string d.n):=hcell' 0 (by simp)
   have yv1:wr.cell? ⟨b',off'+k*2+1,none⟩=some (.string d.r):=hcell' 1 (by simp)
   have HC2:=hidden HC
   have hki:(k:Int)<(xs.length:Int):=by omega
   clear hcell hcell' HC hwt
   go_wp2_with fail
   go_region_with (go_at_call 140;refine HC2.out.mono ?_;rintro e w2 ⟨rfl,hb2⟩)
   all_goals go_wp2_with fail
   all_goals go_roundw
   all_goals first
    |exact ⟨k+1,by omega,by go_num,hbr.drew.trans (hb2.mono hbr.size)⟩
    |(simp [intOf];omega)
  ·have he:k=xs.length:=by omega
   subst he
   clear ha ha'
   go_wp2_with fail
   go_ret
   exact ⟨rfl,hbr⟩
def mayB (r:ByteArray) (a b c:Int) (ps:List ByteArray):Bool:=(rangeI r).isSome&&inRB a b c ps ((rangeI r).getD [])
theorem specMay_c (n r:ByteArray) (a b c:Int) (u:Value) (ps:List ByteArray) (w:World) (hr:r.size≤1048576) (hu:Reads w u (strsV ps)) (hb:bulkS ps≤1048576):
  Calls Tryz.prog 24 #[.agg #[.string n,.string r],.agg #[.int .i64 a,.int .i64 b,.int .i64 c,u]] w fun e w'=>e=.returned (.bool (mayB r a b c ps))∧Below w.heap.size w w':=by
 have hb2: ∀ A R,Below w.heap.size w ((w.alloc A).alloc R):=fun A R=>((Below.refl _ _).alloc (Nat.le_refl _) _).alloc (by simp) _
 have HR: ∀ w1,Below w.heap.size w w1→Calls Tryz.prog 89 #[.string r] w1 fun e w'=>∃ v,e=.returned (.tuple #[v,.bool (rangeI r).isSome])∧RangeOwn w1.heap.size w' v ((rangeI r).getD [])∧Below w1.heap.size w1 w':=fun w1 h=>specRange_c r hr w1
 obtain ⟨hr1,hr2,hr3⟩:=range_small r
 have hwt:=range_weight r
 have HI: ∀ w1 lo v,Below w.heap.size w w1→RangeOwn lo w1 v ((rangeI r).getD [])→Calls Tryz.prog 90 #[v,.agg #[.int .i64 a,.int .i64 b,.int .i64 c,u]] w1 fun e w'=>e=.returned (.bool (inRB a b c ps ((rangeI r).getD [])))∧Below w1.heap.size w1 w':=fun w1 lo v h ho=>
  specInRange_c (Ow lo w1.heap.size) v _ a b c u ps w1 (ho.rangeIn hr1 hr2 (fun ds h1 d h2=>by have:=hr3 ds h1 d h2;omega)) (fun b h=>h.2) hwt (hu.below h) hb
 unfold mayB
 obtain ⟨ok,hok⟩: ∃ o,o=(rangeI r).isSome:=⟨_,rfl⟩
 obtain ⟨dss,hd⟩: ∃ d,d=(rangeI r).getD []:=⟨_,rfl⟩
 obtain ⟨R,hR⟩: ∃ R,R=inRB a b c ps dss:=⟨_,rfl⟩
 simp only [←hok, ←hd] at HR
 simp only [←hd, ←hR] at HI
 rw [←hok, ←hd, ←hR]
 replace HR:=hidden HR
 replace HI:=hidden HI
 obtain ⟨q,cap,rfl,_,_⟩:=reads_strs hu
 clear hok hd hR hu hr1 hr2 hr3 hwt
 cases ok with
 |false=>
  go_enter Tryz.func24,Tryz.ntmps24
  go_wp2_with fail
  go_at_call 89
  refine (HR.out _ (hb2 _ _)).mono ?_
  rintro e w1 ⟨v,rfl,O1,b1⟩
  obtain ⟨q1,c1,rfl⟩:=O1.slice
  go_wp2_with fail
  go_ret
  exact ⟨rfl,(hb2 _ _).trans (b1.mono (hb2 _ _).size)⟩
 |true=>
  go_enter Tryz.func24,Tryz.ntmps24
  go_wp2_with fail
  go_at_call 89
  refine (HR.out _ (hb2 _ _)).mono ?_
  rintro e w1 ⟨v,rfl,O1,b1⟩
  obtain ⟨q1,c1,rfl⟩:=O1.slice
  have k1:=(hb2 _ _).trans (b1.mono (hb2 _ _).size)
  obtain ⟨hA1,hR1⟩:=boxTwo b1
  have x0:=vblk_cell hR1 0
  have x1:=vblk_cell hR1 1
  have x2:=vblk_cell hR1 2
  have x3:=vblk_cell hR1 3
  simp only [List.getElem?_toArray,List.getElem?_cons_succ,List.getElem?_cons_zero] at x0 x1 x2 x3
  go_wp2_with fail
  go_at_call 90
  refine (HI.out _ _ _ k1 O1).mono ?_
  rintro e w2 ⟨rfl,b2⟩
  go_wp2_with fail
  go_ret
  exact ⟨by cases R<;>rfl,k1.trans (b2.mono k1.size)⟩
attribute [local go_sem ↓] Go.wp_at_zero Go.wp_at_succ
theorem Four.ice {w:World} {N:Nat} {t:TypeId} {c0 c1 c2 c3:Value} (h:Four w N t c0 c1 c2 c3) (j:Nat):w.frozen? ⟨N,j,none⟩=false:=vblk_frozen h j
theorem four_put {w:World} {R:Nat} {t:TypeId} {c0 c1 c2 c3:Value} (h:Four w R t c0 c1 c2 c3) (v:Value):
  Four (w.setCell ⟨R,0,none⟩ v) R t v c1 c2 c3∧Four (w.setCell ⟨R,1,none⟩ v) R t c0 v c2 c3∧Four (w.setCell ⟨R,2,none⟩ v) R t c0 c1 v c3∧Four (w.setCell ⟨R,3,none⟩ v) R t c0 c1 c2 v:=by
 refine ⟨?_,?_,?_,?_⟩<;>(unfold Four at*;rw [heap_setCell_same w R _ _ t v h];rfl)
theorem four_far {w:World} {R N j:Nat} {t:TypeId} {c0 c1 c2 c3:Value} (h:Four w R t c0 c1 c2 c3) (hn:R≠N) (v:Value):Four (w.setCell ⟨N,j,none⟩ v) R t c0 c1 c2 c3:=(Below.heap_setCell w ⟨N,j,none⟩ v R hn).trans h
theorem owns_put {w:World} {base N j:Nat} {e t:TypeId} {u:Value} {n:Nat} {xs:List Value} {c0 c1 c2 c3:Value} (h:w.ownsRow base e 1 u n xs) (hF:Four w N t c0 c1 c2 c3) (hne:t≠e) (v:Value):(w.setCell ⟨N,j,none⟩ v).ownsRow base e 1 u n xs:=by
 obtain ⟨h1,h2⟩:=h
 refine ⟨h1,?_⟩
 rcases h2 with h2|⟨g,cap,cur,a,b,c,d⟩
 ·exact .inl h2
 ·have hg:g≠N:=fun e1=>by
   subst e1
   unfold Four at hF
   rw [c] at hF
   simp only [Option.some.injEq,Obj.cells.injEq] at hF
   exact hne hF.2.1.symm
  exact .inr ⟨g,cap,cur,a,b,by rw [Below.heap_setCell _ _ _ _ hg];exact c,d⟩
end Go.Proofs.YtlfmefojcmpfeaaGreatDoor
