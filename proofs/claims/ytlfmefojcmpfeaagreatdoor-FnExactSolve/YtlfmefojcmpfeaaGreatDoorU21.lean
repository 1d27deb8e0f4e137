/-
  Contracts for the walks and pure facts, several texts in one: each theorem says what it proves, and under which conditions.
-/
import Derived.SliceStrings
import Derived.ChangeArms
import Derived.ChangeOld
import Derived.ChangeAt
import Derived.OpenShut
import Derived.ShutString
import Derived.Test.YtlfmefojcmpfeaaGreatDoorUT
import Derived.Test.YtlfmefojcmpfeaaGreatDoorU18
set_option linter.unusedSimpArgs false
set_option linter.unusedVariables false
set_option maxHeartbeats 16000000
set_option maxRecDepth 100000
namespace Go.Proofs.YtlfmefojcmpfeaaGreatDoor
open Go.RowKit
theorem eqEntry_c (S S':Nat→Prop) (d:EntryD) (cs cs':List Value) (w:World) (hd:shEntry.lies S w cs d) (hd':shEntry.lies S' w cs' d) (hB: ∀ b,S b→b<w.heap.size) (hB': ∀ b,S' b→b<w.heap.size) (hw:wtEntry d≤1048576):
  Calls Tryz.prog 139 #[.agg cs.toArray,.agg cs'.toArray] w fun e w'=>e=.returned (.bool true)∧Below w.heap.size w w':=by
 obtain ⟨xu0,xu1,rfl,xs_name,xr0,xp0,xr1⟩:=hd
 obtain ⟨yu0,yu1,rfl,ys_name,yr0,yp0,yr1⟩:=hd'
 have hb2: ∀ A R,Below w.heap.size w ((w.alloc A).alloc R):=fun A R=>((Below.refl _ _).alloc (Nat.le_refl _) _).alloc (by simp) _
 unfold wtEntry at hw
 have HS0:Hid (∀ w1,Below w.heap.size w w1→Calls Tryz.prog 205 #[.agg #[.int .i64 d.vA,.int .i64 d.vB,.int .i64 d.vC,xu0],.agg #[.int .i64 d.vA,.int .i64 d.vB,.int .i64 d.vC,yu0]] w1 fun e w'=>e=.returned (.bool true)∧Below w1.heap.size w1 w'):=fun w1 hb=>
  eqVer_c _ _ _ xu0 yu0 d.vP w1 ((xr0.keep (.of hb hB)).reads (fun b h=>Nat.lt_of_lt_of_le (hB b h) hb.size)) ((yr0.keep (.of hb hB')).reads (fun b h=>Nat.lt_of_lt_of_le (hB' b h) hb.size)) (by unfold bulkS at hw;omega)
 have HS1:Hid (∀ w1,Below w.heap.size w w1→Calls Tryz.prog 61 #[xu1,yu1] w1 fun e w'=>e=.returned (.bool true)∧Below w1.heap.size w1 w'):=fun w1 hb=>
  eqNeedS_c S S' xu1 yu1 d.needs w1 (xr1.keep (.of hb hB)) (yr1.keep (.of hb hB')) (fun b h=>Nat.lt_of_lt_of_le (hB b h) hb.size) (fun b h=>Nat.lt_of_lt_of_le (hB' b h) hb.size) (by omega)
 obtain ⟨xa0,xc0,xe0,_⟩:=id xr0
 rw [length_strsV] at xe0
 subst xe0
 clear xr0
 obtain ⟨xa1,xc1,xe1,_⟩:=id xr1
 subst xe1
 clear xr1
 obtain ⟨ya0,yc0,ye0,_⟩:=id yr0
 rw [length_strsV] at ye0
 subst ye0
 clear yr0
 obtain ⟨ya1,yc1,ye1,_⟩:=id yr1
 subst ye1
 clear yr1
 go_enter Tryz.func139,Tryz.ntmps139
 go_wp2_with fail
 go_at_call 205
 refine (HS0.out _ (hb2 _ _)).mono ?_
 rintro e w1 ⟨rfl,b1⟩
 obtain ⟨hA1,hR1⟩:=boxTwo b1
 have k1:Below w.heap.size w w1:=(hb2 _ _).trans (b1.mono (hb2 _ _).size)
 have o0:=vblk_cell hA1 0
 have q0:=vblk_cell hR1 0
 have o1:=vblk_cell hA1 1
 have q1:=vblk_cell hR1 1
 have o2:=vblk_cell hA1 2
 have q2:=vblk_cell hR1 2
 have o3:=vblk_cell hA1 3
 have q3:=vblk_cell hR1 3
 have o4:=vblk_cell hA1 4
 have q4:=vblk_cell hR1 4
 have o5:=vblk_cell hA1 5
 have q5:=vblk_cell hR1 5
 simp only [List.getElem?_toArray,List.getElem?_cons_succ,List.getElem?_cons_zero] at o0 q0 o1 q1 o2 q2 o3 q3 o4 q4 o5 q5
 go_wp2_with fail
 go_at_call 61
 refine (HS1.out _ k1).mono ?_
 rintro e w2 ⟨rfl,b2⟩
 have hA2:=(b2.block _ (Array.getElem?_eq_some_iff.1 hA1).1).trans hA1
 have hR2:=(b2.block _ (Array.getElem?_eq_some_iff.1 hR1).1).trans hR1
 have k2:=k1.trans (b2.mono k1.size)
 go_wp2_with fail
 go_ret
 exact ⟨rfl,k2⟩
theorem eqEntryS_c (S S':Nat→Prop) (v u:Value) (xs:List EntryD) (w:World) (hv:RowIn shEntry S w v xs) (hv':RowIn shEntry S' w u xs) (hB: ∀ b,S b→b<w.heap.size) (hB': ∀ b,S' b→b<w.heap.size) (hw:wtRow wtEntry xs≤1048576):
  Calls Tryz.prog 60 #[v,u] w fun e w'=>e=.returned (.bool true)∧Below w.heap.size w w':=by
 obtain ⟨a,cap,rfl,hl,hc,ha⟩:=hv
 obtain ⟨a',cap',rfl,_,hc',ha'⟩:=hv'
 unfold maxLen at hl
 go_enter Tryz.func60,Tryz.ntmps60
 go_wp2_with fail
 go_loopw [5] (fun vi wr=>∃ k:Nat,k≤xs.length∧vi=.int .i64 (k:Int)∧Below w.heap.size w wr) (fun vi _=>xs.length-(intOf vi).toNat)
 case atStart=>exact ⟨0,Nat.zero_le _,rfl,Below.refl _ _⟩
 case round=>
  obtain ⟨k,hk,rfl,hbr⟩:=hrel
  by_cases hlt':k<xs.length
  ·rcases ha with rfl|⟨b,off,rfl,hlt,ha⟩
   ·simp at hlt'
   rcases ha' with rfl|⟨b',off',rfl,hlt3,ha'⟩
   ·simp at hlt'
   obtain ⟨cs,hL,hcell⟩:=ha k hlt'
   obtain ⟨cs',hL',hcell'⟩:=ha' k hlt'
   have hwt:wtEntry xs[k]≤1048576:=by have:=wt_wtRow wtEntry (List.getElem_mem hlt');omega
   have HC:=eqEntry_c S S' xs[k] cs cs' wr.drew (shEntry.keep (.of hbr.drew hB) hL) (shEntry.keep (.of hbr.drew hB') hL') (fun b h=>Nat.lt_of_lt_of_le (hB b h) hbr.size) (fun b h=>Nat.lt_of_lt_of_le (hB' b h) hbr.size) hwt
   replace hL:=shEntry.keep (.of hbr hB) hL
   replace hL':=shEntry.keep (.of hbr hB') hL'
   replace hcell:=hcell.keep (.of hbr hB) hlt
   replace hcell':=hcell'.keep (.of hbr hB') hlt3
   obtain ⟨d,hd⟩: ∃ d,d=xs[k]:=⟨_,rfl⟩
   rw [←hd] at hL hL' hwt
   clear ha ha' hd
   obtain ⟨xu0,xu1,rfl,xs_name,xr0,xp0,xr1⟩:=hL
   obtain ⟨yu0,yu1,rfl,ys_name,yr0,yp0,yr1⟩:=hL'
   clear xs_name xp0 ys_name yp0
   obtain ⟨xa0,xc0,xe0,_⟩:=id xr0
   rw [length_strsV] at xe0
   subst xe0
   clear xr0
   obtain ⟨xa1,xc1,xe1,_⟩:=id xr1
   subst xe1
   clear xr1
   have xv0:wr.cell? ⟨b,off+k*6,none⟩=some (.string d.name):=hcell 0 (by simp)
   have xv1:wr.cell? ⟨b,off+k*6+1,none⟩=some (.int .i64 d.vA):=hcell 1 (by simp)
   have xv2:wr.cell? ⟨b,off+k*6+2,none⟩=some (.int .i64 d.vB):=hcell 2 (by simp)
   have xv3:wr.cell? ⟨b,off+k*6+3,none⟩=some (.int .i64 d.vC):=hcell 3 (by simp)
   have xv4:wr.cell? ⟨b,off+k*6+4,none⟩=some (.slice xa0 d.vP.length xc0):=hcell 4 (by simp)
   have xv5:wr.cell? ⟨b,off+k*6+5,none⟩=some (.slice xa1 d.needs.length xc1):=hcell 5 (by simp)
   obtain ⟨ya0,yc0,ye0,_⟩:=id yr0
   rw [length_strsV] at ye0
   subst ye0
   clear yr0
   obtain ⟨ya1,yc1,ye1,_⟩:=id yr1
   subst ye1
   clear yr1
   have yv0:wr.cell? ⟨b',off'+k*6,none⟩=some (.string d.name):=hcell' 0 (by simp)
   have yv1:wr.cell? ⟨b',off'+k*6+1,none⟩=some (.int .i64 d.vA):=hcell' 1 (by simp)
   have yv2:wr.cell? ⟨b',off'+k*6+2,none⟩=some (.int .i64 d.vB):=hcell' 2 (by simp)
   have yv3:wr.cell? ⟨b',off'+k*6+3,none⟩=some (.int .i64 d.vC):=hcell' 3 (by simp)
   have yv4:wr.cell? ⟨b',off'+k*6+4,none⟩=some (.slice ya0 d.vP.length yc0):=hcell' 4 (by simp)
   have yv5:wr.cell? ⟨b',off'+k*6+5,none⟩=some (.slice ya1 d.needs.length yc1):=hcell' 5 (by simp)
   have HC2:=hidden HC
   have hki:(k:Int)<(xs.length:Int):=by omega
   clear hcell hcell' HC hwt
   go_wp2_with fail
   go_region_with (go_at_call 139;refine HC2.out.mono ?_;rintro e w2 ⟨rfl,hb2⟩)
   all_goals go_wp2_with fail
   all_goals go_roundw
   all_goals first
    |exact ⟨k+1,by omega,by go_num,hbr.drew.trans (hb2.mono hbr.size)⟩
    |(simp [intOf];omega)
  ·have he:k=xs.length:=by omega
   subst he
   clear ha ha'
   go_wp2_with fail
   go_ret
   exact ⟨rfl,hbr⟩
end Go.Proofs.YtlfmefojcmpfeaaGreatDoor
namespace Go.Proofs.YtlfmefojcmpfeaaGreatDoor
open Go.ChangeShapes Go.WideShapes Go.ChangeAt Go.RowKit
theorem vaddr_add (b off i:Nat):((⟨b,off,none⟩:Addr).add i)=⟨b,off+i,none⟩:=by unfold Addr.add;split<;>simp_all
theorem list4 {cs:List Value} (h:cs.length=4): ∃ c0 c1 c2 c3,cs=[c0,c1,c2,c3]:=by
 match cs,h with
 |[c0,c1,c2,c3],_=>exact ⟨c0,c1,c2,c3,rfl⟩
theorem vreads_open {H:Type} {enc:TypeId × Value→H} {w:World} {spare:Nat→Bool} {held:Bool} {fuel:Nat} {c:Value} {x:DataW H × List MemPlace}
  (hf:DataW.trod enc Tryz.prog w 0 spare held fuel 28 [c]=some x): ∃ ks,Reads w c (strsV ks)∧saneP ks:=by
 rcases open_strings Tryz.underlying28 Tryz.underlying9 (by kernel_rfl) hf with ⟨hcs,_⟩|⟨x,l,cap,zs,hcs,_,hl,hm,hz,_,hcell,hwz⟩
 ·simp at hcs
  subst hcs
  exact ⟨[],⟨none,0,rfl,Nat.le_refl _,.inl rfl⟩,by simp [saneP]⟩
 ·simp at hcs
  subst hcs
  have hz':l≤zs.length:=by rw [hz];split<;>omega
  have hlen:(zs.take l).length=l:=by simp;omega
  refine ⟨zs.take l,?_,by rw [hlen];omega,fun s hs=>hwz s (List.mem_of_mem_take hs)⟩
  by_cases h0:l=0
  ·subst h0
   exact ⟨some x,cap,by simp [strsV],by simp [strsV],.inl (by simp [strsV])⟩
  ·obtain ⟨b,off,spot⟩:=x
   have hc0:=hcell 0 (by omega)
   have hspot:spot=none:=by simpa [Addr.add] using World.cell?_spot hc0
   subst hspot
   refine ⟨some ⟨b,off,none⟩,cap,by simp [strsV];omega,by simp [strsV];omega,.inr ⟨b,off,rfl,?_,fun i hi=>?_⟩⟩
   ·rw [vaddr_add] at hc0;exact World.block_lt_of_cell? w _ hc0
   ·have hi':i<l:=by simp [strsV] at hi;omega
    have:=hcell i (by omega)
    rw [vaddr_add] at this
    rw [this]
    simp [strsV,List.getD_eq_getElem?_getD,show i<zs.length by omega]
theorem ver_of_trod {H:Type} {enc:TypeId × Value→H} {w:World} {spare:Nat→Bool} {held:Bool} (fuel:Nat) (cs:List Value) (x:DataW H × List MemPlace)
  (h:DataW.trod enc Tryz.prog w 0 spare held fuel 173 cs=some x): ∃ a b c u ps,cs=[.int .i64 a,.int .i64 b,.int .i64 c,u]∧Reads w u (strsV ps)∧saneP ps:=by
 obtain ⟨xs,n,rfl,_,hlen,hxl,hf⟩:=DataW.trod_struct Tryz.underlying173 h
 have h4:Tryz.prog.cellsOf 173=4:=by kernel_rfl
 obtain ⟨c0,c1,c2,c3,rfl⟩:=list4 (hlen.trans h4)
 have hx: ∀ i,i<4→∃ y,xs[i]?=some y:=fun i hi=>⟨xs[i]'(by rw [hxl];exact hi),by rw [List.getElem?_eq_getElem]⟩
 obtain ⟨y0,e0⟩:=hx 0 (by omega)
 obtain ⟨y1,e1⟩:=hx 1 (by omega)
 obtain ⟨y2,e2⟩:=hx 2 (by omega)
 obtain ⟨y3,e3⟩:=hx 3 (by omega)
 have k3:Tryz.prog.cellsOf 3=1:=by kernel_rfl
 have kS:Tryz.prog.cellsOf 28=1:=by kernel_rfl
 have f0:DataW.trod enc Tryz.prog w 0 spare held n 3 [c0]=some y0:=by
  have h:DataW.trod enc Tryz.prog w 0 spare held n 3 ((([c0,c1,c2,c3]:List Value).drop 0).take (Tryz.prog.cellsOf 3))=some y0:=(hf 0 _ rfl).trans e0
  rw [k3] at h;exact h
 have f1:DataW.trod enc Tryz.prog w 0 spare held n 3 [c1]=some y1:=by
  have h:DataW.trod enc Tryz.prog w 0 spare held n 3 ((([c0,c1,c2,c3]:List Value).drop 1).take (Tryz.prog.cellsOf 3))=some y1:=(hf 1 _ rfl).trans e1
  rw [k3] at h;exact h
 have f2:DataW.trod enc Tryz.prog w 0 spare held n 3 [c2]=some y2:=by
  have h:DataW.trod enc Tryz.prog w 0 spare held n 3 ((([c0,c1,c2,c3]:List Value).drop 2).take (Tryz.prog.cellsOf 3))=some y2:=(hf 2 _ rfl).trans e2
  rw [k3] at h;exact h
 have f3:DataW.trod enc Tryz.prog w 0 spare held n 28 [c3]=some y3:=by
  have h:DataW.trod enc Tryz.prog w 0 spare held n 28 ((([c0,c1,c2,c3]:List Value).drop 3).take (Tryz.prog.cellsOf 28))=some y3:=(hf 3 _ rfl).trans e3
  rw [kS] at h;exact h
 obtain ⟨k,hk,_,_⟩:=DataW.trod_int Tryz.underlying3 f0
 obtain ⟨m,hm,_,_⟩:=DataW.trod_int Tryz.underlying3 f1
 obtain ⟨r,hr,_,_⟩:=DataW.trod_int Tryz.underlying3 f2
 simp at hk hm hr
 subst hk hm hr
 obtain ⟨ks,hr,hsane⟩:=vreads_open f3
 exact ⟨_,_,_,_,_,rfl,hr,hsane⟩
theorem olist2 {cs:List Value} (h:cs.length=2): ∃ c0 c1,cs=[c0,c1]:=by
 match cs,h with
 |[c0,c1],_=>exact ⟨c0,c1,rfl⟩
theorem olist_of {α:Type} {P:Nat→α→Prop}: ∀ n,(∀ i,i<n→∃ a,P i a)→∃ l:List α,l.length=n∧∀ i (h:i<l.length),P i l[i]
 |0,_=>⟨[],rfl,fun i h=>by simp at h⟩
 |n+1,h=>by
  obtain ⟨l,hl,hp⟩:=olist_of n (fun i hi=>h i (by omega))
  obtain ⟨a,ha⟩:=h n (by omega)
  refine ⟨l++[a],by simp [hl],fun i hi=>?_⟩
  by_cases h1:i<l.length
  ·rw [List.getElem_append_left h1];exact hp i h1
  ·have:i=n:=by simp at hi;omega
   subst this
   rw [List.getElem_append_right (by omega)]
   simpa using ha
theorem rows_of_trod {α H:Type} {P:Program} {enc:TypeId × Value→H} {w:World} {spare:Nat→Bool} {held:Bool} (sh:Sh α) {ts te:TypeId} (hu:P.underlying ts=some (.slice te)) (hn:P.cellsOf te=sh.n) (hpos:0<sh.n)
    (helem: ∀ n cs y,DataW.trod enc P w 0 spare held n te cs=some y→∃ a,sh.lies (· <w.heap.size) w cs a) (fuel:Nat) (c:Value) (x:DataW H × List MemPlace)
    (h:DataW.trod enc P w 0 spare held fuel ts [c]=some x): ∃ xs,RowIn sh (· <w.heap.size) w c xs:=by
  rcases DataW.trod_slice hu h with ⟨hcs,_⟩|⟨a,len,cap,elems,rest,n',hn',hcs,_,_,hl,hcm,hel,hat,_,_⟩
  · simp at hcs
    subst hcs
    exact ⟨[],none,0,rfl,by simp,Nat.le_refl _,.inl rfl⟩
  · simp at hcs
    subst hcs
    rw [hn] at hat
    have heach: ∀ i,i<len→∃ q:α,∃ cs,cs.length=sh.n∧sh.lies (· <w.heap.size) w cs q∧∀ j (hj:j<cs.length),w.cell? ((a.add (i*sh.n)).add j)=some cs[j]:=fun i hi=>by
      have hb:=hat i hi
      rw [List.getElem?_eq_getElem (by omega)] at hb
      obtain ⟨cs',hc1,hc2⟩:=Option.bind_eq_some_iff.1 hb
      obtain ⟨q,hq⟩:=helem _ cs' _ hc2
      obtain ⟨hb1,hl5,hcell⟩:=World.cells?_some hc1
      exact ⟨q,cs',hl5,hq,fun j hj=>(hcell j (by omega)).trans (List.getElem?_eq_getElem hj)⟩
    obtain ⟨q,hq,hqp⟩:=olist_of len heach
    refine ⟨q,some a,cap,by rw [hq],by rw [hq];omega,by rw [hq];omega,?_⟩
    by_cases h0:len=0
    · left;exact List.eq_nil_of_length_eq_zero (by omega)
    · right
      obtain ⟨b,off,spot⟩:=a
      obtain ⟨cs0,hl0,_,hc0⟩:=hqp 0 (by omega)
      have hc0:=hc0 0 (by omega)
      have hspot:spot=none:=by
        have:=World.cell?_spot hc0
        simpa [Addr.add] using this
      subst hspot
      refine ⟨b,off,rfl,?_,fun i hi=>?_⟩
      · rw [vaddr_add,vaddr_add] at hc0;exact World.block_lt_of_cell? w _ hc0
      · obtain ⟨cs,h1,h2,h3⟩:=hqp i hi
        refine ⟨cs,h2,fun j hj=>?_⟩
        have:=h3 j hj
        rw [vaddr_add,vaddr_add] at this
        exact this
theorem need_of_trod {H:Type} {enc:TypeId × Value→H} {w:World} {spare:Nat→Bool} {held:Bool} (fuel:Nat) (cs:List Value) (x:DataW H × List MemPlace)
    (h:DataW.trod enc Tryz.prog w 0 spare held fuel 177 cs=some x): ∃ d:NeedD,shNeed.lies (· <w.heap.size) w cs d:=by
  obtain ⟨xs,n,rfl,_,hlen,hxl,hf⟩:=DataW.trod_struct Tryz.underlying177 h
  have hN:Tryz.prog.cellsOf 177=2:=by kernel_rfl
  obtain ⟨c0,c1,rfl⟩:=olist2 (hlen.trans hN)
  have hx: ∀ i,i<2→∃ y,xs[i]?=some y:=fun i hi=>⟨xs[i]'(by rw [hxl];exact hi),by rw [List.getElem?_eq_getElem]⟩
  obtain ⟨y0,e0⟩:=hx 0 (by omega)
  have k0:Tryz.prog.cellsOf 9=1:=by kernel_rfl
  have f0:DataW.trod enc Tryz.prog w 0 spare held n 9 [c0]=some y0:=by
    have h:DataW.trod enc Tryz.prog w 0 spare held n 9 ((([c0,c1]:List Value).drop 0).take (Tryz.prog.cellsOf 9))=some y0:=(hf 0 _ rfl).trans e0
    rw [k0] at h;exact h
  obtain ⟨y1,e1⟩:=hx 1 (by omega)
  have k1:Tryz.prog.cellsOf 9=1:=by kernel_rfl
  have f1:DataW.trod enc Tryz.prog w 0 spare held n 9 [c1]=some y1:=by
    have h:DataW.trod enc Tryz.prog w 0 spare held n 9 ((([c0,c1]:List Value).drop 1).take (Tryz.prog.cellsOf 9))=some y1:=(hf 1 _ rfl).trans e1
    rw [k1] at h;exact h
  obtain ⟨t0,ht0,_,hl0⟩:=DataW.trod_string Tryz.underlying9 f0
  simp at ht0
  subst ht0
  obtain ⟨t1,ht1,_,hl1⟩:=DataW.trod_string Tryz.underlying9 f1
  simp at ht1
  subst ht1
  exact ⟨⟨t0,t1⟩,rfl,hl0,hl1⟩
theorem needs_of_trod {H:Type} {enc:TypeId × Value→H} {w:World} {spare:Nat→Bool} {held:Bool} (fuel:Nat) (c:Value) (x:DataW H × List MemPlace)
    (h:DataW.trod enc Tryz.prog w 0 spare held fuel 82 [c]=some x): ∃ xs,RowIn shNeed (· <w.heap.size) w c xs:=
  rows_of_trod shNeed Tryz.underlying82 (by kernel_rfl) (by decide) (fun n cs y hh=>need_of_trod n cs y hh) fuel c x h
theorem olist6 {cs:List Value} (h:cs.length=6): ∃ c0 c1 c2 c3 c4 c5,cs=[c0,c1,c2,c3,c4,c5]:=by
 match cs,h with
 |[c0,c1,c2,c3,c4,c5],_=>exact ⟨c0,c1,c2,c3,c4,c5,rfl⟩
end Go.Proofs.YtlfmefojcmpfeaaGreatDoor
