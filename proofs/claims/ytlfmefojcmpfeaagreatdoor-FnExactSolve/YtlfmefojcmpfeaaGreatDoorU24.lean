/-
  Contracts for the walks and pure facts, several texts in one: each theorem says what it proves, and under which conditions.
-/
import Derived.ProofKit
import Derived.Lib.LaidTab
import Derived.Stop.LaidErr
import Derived.Test.YtlfmefojcmpfeaaGreatDoorUT
import Derived.Test.YtlfmefojcmpfeaaGreatDoorU21
import Derived.Test.YtlfmefojcmpfeaaGreatDoorU23
set_option linter.unusedSimpArgs false
set_option linter.unusedVariables false
set_option maxHeartbeats 16000000
set_option maxRecDepth 100000
namespace Go.Proofs.YtlfmefojcmpfeaaGreatDoor
open Go.RowKit
theorem eqPick_c (S S':Nat→Prop) (d:PickD) (cs cs':List Value) (w:World) (hd:shPick.lies S w cs d) (hd':shPick.lies S' w cs' d) (hB: ∀ b,S b→b<w.heap.size) (hB': ∀ b,S' b→b<w.heap.size) (hw:wtPick d≤1048576):
  Calls Tryz.prog 138 #[.agg cs.toArray,.agg cs'.toArray] w fun e w'=>e=.returned (.bool true)∧Below w.heap.size w w':=by
 obtain ⟨xu0,rfl,xs_name,xr0,xp0⟩:=hd
 obtain ⟨yu0,rfl,ys_name,yr0,yp0⟩:=hd'
 have hb2: ∀ A R,Below w.heap.size w ((w.alloc A).alloc R):=fun A R=>((Below.refl _ _).alloc (Nat.le_refl _) _).alloc (by simp) _
 unfold wtPick at hw
 have HS0:Hid (∀ w1,Below w.heap.size w w1→Calls Tryz.prog 205 #[.agg #[.int .i64 d.vA,.int .i64 d.vB,.int .i64 d.vC,xu0],.agg #[.int .i64 d.vA,.int .i64 d.vB,.int .i64 d.vC,yu0]] w1 fun e w'=>e=.returned (.bool true)∧Below w1.heap.size w1 w'):=fun w1 hb=>
  eqVer_c _ _ _ xu0 yu0 d.vP w1 ((xr0.keep (.of hb hB)).reads (fun b h=>Nat.lt_of_lt_of_le (hB b h) hb.size)) ((yr0.keep (.of hb hB')).reads (fun b h=>Nat.lt_of_lt_of_le (hB' b h) hb.size)) (by unfold bulkS at hw;omega)
 obtain ⟨xa0,xc0,xe0,_⟩:=id xr0
 rw [length_strsV] at xe0
 subst xe0
 clear xr0
 obtain ⟨ya0,yc0,ye0,_⟩:=id yr0
 rw [length_strsV] at ye0
 subst ye0
 clear yr0
 go_enter Tryz.func138,Tryz.ntmps138
 go_wp2_with fail
 go_at_call 205
 refine (HS0.out _ (hb2 _ _)).mono ?_
 rintro e w1 ⟨rfl,b1⟩
 obtain ⟨hA1,hR1⟩:=boxTwo b1
 have k1:Below w.heap.size w w1:=(hb2 _ _).trans (b1.mono (hb2 _ _).size)
 go_wp2_with fail
 go_ret
 exact ⟨rfl,k1⟩
theorem eqPickS_c (S S':Nat→Prop) (v u:Value) (xs:List PickD) (w:World) (hv:RowIn shPick S w v xs) (hv':RowIn shPick S' w u xs) (hB: ∀ b,S b→b<w.heap.size) (hB': ∀ b,S' b→b<w.heap.size) (hw:wtRow wtPick xs≤1048576):
  Calls Tryz.prog 59 #[v,u] w fun e w'=>e=.returned (.bool true)∧Below w.heap.size w w':=by
 obtain ⟨a,cap,rfl,hl,hc,ha⟩:=hv
 obtain ⟨a',cap',rfl,_,hc',ha'⟩:=hv'
 unfold maxLen at hl
 go_enter Tryz.func59,Tryz.ntmps59
 go_wp2_with fail
 go_loopw [5] (fun vi wr=>∃ k:Nat,k≤xs.length∧vi=.int .i64 (k:Int)∧Below w.heap.size w wr) (fun vi _=>xs.length-(intOf vi).toNat)
 case atStart=>exact ⟨0,Nat.zero_le _,rfl,Below.refl _ _⟩
 case round=>
  obtain ⟨k,hk,rfl,hbr⟩:=hrel
  by_cases hlt':k<xs.length
  ·rcases ha with rfl|⟨b,off,rfl,hlt,ha⟩
   ·simp at hlt'
   rcases ha' with rfl|⟨b',off',rfl,hlt3,ha'⟩
   ·simp at hlt'
   obtain ⟨cs,hL,hcell⟩:=ha k hlt'
   obtain ⟨cs',hL',hcell'⟩:=ha' k hlt'
   have hwt:wtPick xs[k]≤1048576:=by have:=wt_wtRow wtPick (List.getElem_mem hlt');omega
   have HC:=eqPick_c S S' xs[k] cs cs' wr.drew (shPick.keep (.of hbr.drew hB) hL) (shPick.keep (.of hbr.drew hB') hL') (fun b h=>Nat.lt_of_lt_of_le (hB b h) hbr.size) (fun b h=>Nat.lt_of_lt_of_le (hB' b h) hbr.size) hwt
   replace hL:=shPick.keep (.of hbr hB) hL
   replace hL':=shPick.keep (.of hbr hB') hL'
   replace hcell:=hcell.keep (.of hbr hB) hlt
   replace hcell':=hcell'.keep (.of hbr hB') hlt3
   obtain ⟨d,hd⟩: ∃ d,d=xs[k]:=⟨_,rfl⟩
   rw [←hd] at hL hL' hwt
   clear ha ha' hd
   obtain ⟨xu0,rfl,xs_name,xr0,xp0⟩:=hL
   obtain ⟨yu0,rfl,ys_name,yr0,yp0⟩:=hL'
   clear xs_name xp0 ys_name yp0
   obtain ⟨xa0,xc0,xe0,_⟩:=id xr0
   rw [length_strsV] at xe0
   subst xe0
   clear xr0
   have xv0:wr.cell? ⟨b,off+k*5,none⟩=some (.string d.name):=hcell 0 (by simp)
   have xv1:wr.cell? ⟨b,off+k*5+1,none⟩=some (.int .i64 d.vA):=hcell 1 (by simp)
   have xv2:wr.cell? ⟨b,off+k*5+2,none⟩=some (.int .i64 d.vB):=hcell 2 (by simp)
   have xv3:wr.cell? ⟨b,off+k*5+3,none⟩=some (.int .i64 d.vC):=hcell 3 (by simp)
   have xv4:wr.cell? ⟨b,off+k*5+4,none⟩=some (.slice xa0 d.vP.length xc0):=hcell 4 (by simp)
   obtain ⟨ya0,yc0,ye0,_⟩:=id yr0
   rw [length_strsV] at ye0
   subst ye0
   clear yr0
   have yv0:wr.cell? ⟨b',off'+k*5,none⟩=some (.string d.name):=hcell' 0 (by simp)
   have yv1:wr.cell? ⟨b',off'+k*5+1,none⟩=some (.int .i64 d.vA):=hcell' 1 (by simp)
   have yv2:wr.cell? ⟨b',off'+k*5+2,none⟩=some (.int .i64 d.vB):=hcell' 2 (by simp)
   have yv3:wr.cell? ⟨b',off'+k*5+3,none⟩=some (.int .i64 d.vC):=hcell' 3 (by simp)
   have yv4:wr.cell? ⟨b',off'+k*5+4,none⟩=some (.slice ya0 d.vP.length yc0):=hcell' 4 (by simp)
   have HC2:=hidden HC
   have hki:(k:Int)<(xs.length:Int):=by omega
   clear hcell hcell' HC hwt
   go_wp2_with fail
   go_region_with (go_at_call 138;refine HC2.out.mono ?_;rintro e w2 ⟨rfl,hb2⟩)
   all_goals go_wp2_with fail
   all_goals go_roundw
   all_goals first
    |exact ⟨k+1,by omega,by go_num,hbr.drew.trans (hb2.mono hbr.size)⟩
    |(simp [intOf];omega)
  ·have he:k=xs.length:=by omega
   subst he
   clear ha ha'
   go_wp2_with fail
   go_ret
   exact ⟨rfl,hbr⟩
theorem cntLK_map (ps:List LC):cntLK ps=((ps.map LC.d).map fun d=>4+d.vP.length).sum:=by simp [cntLK,List.map_map,Function.comp_def]
end Go.Proofs.YtlfmefojcmpfeaaGreatDoor
namespace Go.Proofs.YtlfmefojcmpfeaaGreatDoor
open Go.ChangeShapes Go.WideShapes Go.ChangeAt Go.RowKit
theorem entry_of_trod {H:Type} {enc:TypeId × Value→H} {w:World} {spare:Nat→Bool} {held:Bool} (fuel:Nat) (cs:List Value) (x:DataW H × List MemPlace)
    (h:DataW.trod enc Tryz.prog w 0 spare held fuel 175 cs=some x): ∃ d:EntryD,shEntry.lies (· <w.heap.size) w cs d:=by
  obtain ⟨xs,n,rfl,_,hlen,hxl,hf⟩:=DataW.trod_struct Tryz.underlying175 h
  have hN:Tryz.prog.cellsOf 175=6:=by kernel_rfl
  obtain ⟨c0,c1,c2,c3,c4,c5,rfl⟩:=olist6 (hlen.trans hN)
  have hx: ∀ i,i<3→∃ y,xs[i]?=some y:=fun i hi=>⟨xs[i]'(by rw [hxl];exact hi),by rw [List.getElem?_eq_getElem]⟩
  obtain ⟨y0,e0⟩:=hx 0 (by omega)
  have k0:Tryz.prog.cellsOf 9=1:=by kernel_rfl
  have f0:DataW.trod enc Tryz.prog w 0 spare held n 9 [c0]=some y0:=by
    have h:DataW.trod enc Tryz.prog w 0 spare held n 9 ((([c0,c1,c2,c3,c4,c5]:List Value).drop 0).take (Tryz.prog.cellsOf 9))=some y0:=(hf 0 _ rfl).trans e0
    rw [k0] at h;exact h
  obtain ⟨y1,e1⟩:=hx 1 (by omega)
  have k1:Tryz.prog.cellsOf 173=4:=by kernel_rfl
  have f1:DataW.trod enc Tryz.prog w 0 spare held n 173 [c1,c2,c3,c4]=some y1:=by
    have h:DataW.trod enc Tryz.prog w 0 spare held n 173 ((([c0,c1,c2,c3,c4,c5]:List Value).drop 1).take (Tryz.prog.cellsOf 173))=some y1:=(hf 1 _ rfl).trans e1
    rw [k1] at h;exact h
  obtain ⟨y2,e2⟩:=hx 2 (by omega)
  have k2:Tryz.prog.cellsOf 82=1:=by kernel_rfl
  have f2:DataW.trod enc Tryz.prog w 0 spare held n 82 [c5]=some y2:=by
    have h:DataW.trod enc Tryz.prog w 0 spare held n 82 ((([c0,c1,c2,c3,c4,c5]:List Value).drop 5).take (Tryz.prog.cellsOf 82))=some y2:=(hf 2 _ rfl).trans e2
    rw [k2] at h;exact h
  obtain ⟨t0,ht0,_,hl0⟩:=DataW.trod_string Tryz.underlying9 f0
  simp at ht0
  subst ht0
  obtain ⟨va1,vb1,vc1,vu1,vp1,hv1,hr1,hs1⟩:=ver_of_trod n _ _ f1
  simp at hv1
  obtain ⟨rfl,rfl,rfl,rfl⟩:=hv1
  obtain ⟨t2,hr2⟩:=needs_of_trod n _ _ f2
  exact ⟨⟨t0,va1,vb1,vc1,vp1,t2⟩,_,_,rfl,hl0,RdB.of hr1,hs1,hr2⟩
theorem entrys_of_trod {H:Type} {enc:TypeId × Value→H} {w:World} {spare:Nat→Bool} {held:Bool} (fuel:Nat) (c:Value) (x:DataW H × List MemPlace)
    (h:DataW.trod enc Tryz.prog w 0 spare held fuel 81 [c]=some x): ∃ xs,RowIn shEntry (· <w.heap.size) w c xs:=
  rows_of_trod shEntry Tryz.underlying81 (by kernel_rfl) (by decide) (fun n cs y hh=>entry_of_trod n cs y hh) fuel c x h
end Go.Proofs.YtlfmefojcmpfeaaGreatDoor
namespace Go.Proofs.YtlfmefojcmpfeaaGreatDoor
open Go.ChangeShapes Go.WideShapes Go.RowKit
namespace fnExactSolve
theorem cells_of_texts {H:Type} {enc:TypeId × Value→H} {P:Program} {w:World} {base:Nat} {sp:Nat→Bool} {held:Bool} {fuel:Nat} {t e:TypeId} {n:Nat} {cs:List Value} {zs:List (List UInt8)} {p:List MemPlace}
  (ht:P.underlying t=some (.array n e)) (he:P.underlying e=some .string) (hce:P.cellsOf e=1) (hct:P.cellsOf t=n)
  (h:DataW.trod enc P w base sp held fuel t cs=some (.agg (zs.map fun z=>.lit (.string z)),p)):cs=zs.map fun z=>Value.string ⟨z.toArray⟩:=by
 cases fuel with
 |zero=>simp [DataW.trod] at h
 |succ fuel=>
  simp only [DataW.trod,ht,hce,hct,Nat.mul_one] at h
  split at h
  ·rename_i hl
   obtain ⟨xs,hm,hx⟩:=Option.map_eq_some_iff.1 h
   have hxs:xs.map (·.1)=zs.map fun z=>(DataW.lit (.string z):DataW H):=by
    have:=congrArg Prod.fst hx
    simpa using this
   have hxl:xs.length=n:=by simpa using Lib.mapM_length hm
   have hzl:zs.length=n:=by
    have:=congrArg List.length hxs
    simp at this
    omega
   apply List.ext_getElem?
   intro i
   by_cases hi:i<n
   ·obtain ⟨b,hb,hf⟩:=Lib.mapM_at hm i i (by simp [hi])
    obtain ⟨z,hc,rfl,_⟩:=DataW.trod_string he hf
    have h1:cs[i]?=some (.string z):=by
     have:=congrArg (·[0]?) hc
     simpa [List.getElem?_take,List.getElem?_drop] using this
    have h2:(xs.map (·.1))[i]?=some (DataW.lit (.string z.data.toList):DataW H):=by simp [hb]
    rw [hxs] at h2
    simp only [List.getElem?_map,Option.map_eq_some_iff,DataW.lit.injEq,Lit.string.injEq] at h2
    obtain ⟨z',hz',rfl⟩:=h2
    simp [h1,hz']
   ·rw [List.getElem?_eq_none (by omega),List.getElem?_eq_none (by simp;omega)]
  ·cases h
theorem signs_laid {W:World} (h:laidMetH Tryz.prog Rows.fnExactSolveRow.laid W): ∀ k (h:k<signsT.length),W.cell? ⟨1,k,none⟩=some (.string signsT[k]):=by
 have h1:laidMet Tryz.prog (("loop.example/g00464/impl.signTexts",Rows.laid_loop_example_g00464_impl_signTexts)::Rows.fnExactSolveRow.laid.drop 2) W:=laidMet.tail h
 obtain ⟨ps,⟨g',t',cs,fuel,p,q,hg',ht',hvar,hd,_,_⟩,_⟩:=h1
 have hg:Tryz.prog.globalNamed "loop.example/g00464/impl.signTexts" =some 1:=by kernel_rfl
 obtain rfl:=Option.some.inj (hg.symm.trans hg')
 have hty:(Tryz.prog.globals[1]?).map (·.type)=some 341:=by kernel_rfl
 obtain rfl:=Option.some.inj (hty.symm.trans ht')
 have hcs:=cells_of_texts (zs:=[[61],[60],[60,61],[62],[62,61],[126],[94]]) Tryz.underlying341 Tryz.underlying9 (by kernel_rfl) (by kernel_rfl) hd
 intro k hk
 rw [World.var?_cell hg hvar k, ←Array.getElem?_toList,hcs]
 have hk7:k<7:=hk
 match k,hk7 with
 |0,_=>rfl
 |1,_=>rfl
 |2,_=>rfl
 |3,_=>rfl
 |4,_=>rfl
 |5,_=>rfl
 |6,_=>rfl
theorem bound_shaped {W:World} (h:W.ShapedOpen Tryz.prog): ∃ m,W.cell? ⟨2,0,none⟩=some (.int .i64 m):=by
 obtain ⟨cs,hh,hs,hr⟩:=h.1 2 #[.int .i64 0] 3 (by decide+kernel) (by kernel_rfl)
 obtain ⟨ts,hts,_,hall⟩:=hr (by kernel_rfl)
 have hc:Tryz.prog.cellTypes Tryz.prog.depth 3=some [3]:=by kernel_rfl
 rw [hc] at hts
 cases hts
 have h1:0<cs.size:=by rw [hs];decide
 obtain ⟨u,hu',hok⟩:=hall 0 cs[0] (by simp [h1])
 have:u=3:=by simpa using hu'.symm
 subst this
 have hcell:W.cell? ⟨2,0,none⟩=some cs[0]:=by simp [World.cell?,hh,h1]
 rw [hcell]
 unfold Cell.ok at hok
 rw [Tryz.underlying3] at hok
 cases hv:cs[0]<;>rw [hv] at hok<;>simp at hok
 obtain ⟨rfl,_⟩:=hok
 exact ⟨_,rfl⟩
end fnExactSolve
end Go.Proofs.YtlfmefojcmpfeaaGreatDoor
namespace Go.Proofs.YtlfmefojcmpfeaaGreatDoor
open Go.RowKit
structure EC where
 d:EntryD
 u0:Value
 u1:Value
def EC.cells (p:EC):List Value:=[.string p.d.name,.int .i64 p.d.vA,.int .i64 p.d.vB,.int .i64 p.d.vC,p.u0,p.u1]
def flatE (ps:List EC):List Value:=ps.flatMap EC.cells
theorem flatE_length (ps:List EC):(flatE ps).length=ps.length*6:=by
 induction ps with
 |nil=>rfl
 |cons p r ih=>simp only [flatE,List.flatMap_cons,List.length_append,List.length_cons] at*;rw [ih];simp [EC.cells];omega
theorem flatE_append (a b:List EC):flatE (a++b)=flatE a++flatE b:=by simp [flatE]
theorem flatE_at (ps:List EC) (i:Nat) (h:i<ps.length) (j:Nat) (hj:j<6):(flatE ps)[i*6+j]?=(ps[i].cells)[j]? :=by
 induction ps generalizing i with
 |nil=>simp at h
 |cons p r ih=>
  show (p.cells++flatE r)[i*6+j]?=_
  have hc:p.cells.length=6:=rfl
  cases i with
  |zero=>rw [Nat.zero_mul,Nat.zero_add,List.getElem?_append_left (by omega)];rfl
  |succ i=>
   rw [List.getElem?_append_right (by omega),hc,show (i+1)*6+j-6=i*6+j by omega]
   exact ih i (by simpa using h)
theorem flatE_put (ps:List EC) (i:Nat) (h:i<ps.length) (p:EC):putL (flatE ps) (i*6) p.cells=flatE (ps.set i p):=by
 apply List.ext_getElem?
 intro m
 have hl:=flatE_length ps
 have hc:p.cells.length=6:=rfl
 by_cases hm:m<ps.length*6
 ·obtain ⟨q,r,rfl,h6⟩: ∃ q r,m=q*6+r∧r<6:=⟨m / 6,m % 6,by omega,Nat.mod_lt _ (by omega)⟩
  have hq:q<ps.length:=by omega
  by_cases hi:i=q
  ·subst hi
   rw [flatE_at _ _ (by simpa using hq) _ h6,putL_in _ _ _ _ (by rw [hc,hl];omega) (by rw [hc];exact h6)]
   simp
  ·rw [putL_out _ _ _ _ (by rw [hc];omega),flatE_at _ _ hq _ h6,flatE_at _ _ (by simpa using hq) _ h6]
   simp [List.getElem_set,hi]
 ·rw [List.getElem?_eq_none (by rw [putL_length,hl];omega),List.getElem?_eq_none (by rw [flatE_length];simp;omega)]
def EntOwn (w:World) (p:EC):Prop:=w.ownsRow 0 9 1 p.u0 p.d.vP.length (strsV p.d.vP)∧w.ownsRow 0 39 2 p.u1 p.d.needs.length (needsV p.d.needs)
theorem EntOwn.below {w w':World} {p:EC} (h:EntOwn w p) (hb:Below w.heap.size w w'):EntOwn w' p:=⟨owns_of_belowN h.1 hb,owns_of_belowN h.2 hb⟩
theorem EntOwn.put {w:World} {p:EC} {lo n cap g j:Nat} {zs:List Value} {x:Value} (h:EntOwn w p) (hg:w.ownsRow lo 35 6 (.slice (some ⟨g,0,none⟩) n cap) n zs):EntOwn (w.setCell ⟨g,j,none⟩ x) p:=⟨own_put h.1 hg (by decide),own_put h.2 hg (by decide)⟩
theorem EntOwn.puts {p:EC} {lo n cap g:Nat} (cs:List Value): ∀ {w:World} {zs:List Value} {j:Nat},EntOwn w p→w.ownsRow lo 35 6 (.slice (some ⟨g,0,none⟩) n cap) n zs→EntOwn (setW w g j cs) p:=by
 induction cs with
 |nil=>intro w zs j h _;exact h
 |cons c cs ih=>intro w zs j h hg;exact ih (h.put hg) (hg.stored j c).1
theorem EntOwn.grown {w w':World} {p:EC} {lo n:Nat} {v:Value} {zs:List Value} (h:EntOwn w p) (hv:w.ownsRow lo 35 6 v n zs) (hg:w.grownBy w' v.ownBlock):EntOwn w' p:=⟨h.1.kept hg (owns_apart h.1 hv (by decide)),h.2.kept hg (owns_apart h.2 hv (by decide))⟩
def RowE (B:Nat) (w:World) (v:Value) (ps:List EC):Prop:=w.ownsRow B 35 6 v ps.length (flatE ps)∧∀ p∈ps,EntOwn w p
theorem RowE.below {B:Nat} {w w':World} {v:Value} {ps:List EC} (h:RowE B w v ps) (hb:Below w.heap.size w w'):RowE B w' v ps:=⟨owns_of_belowN h.1 hb,fun p hp=>(h.2 p hp).below hb⟩
theorem RowE.set {B g cap:Nat} {w:World} {ps:List EC} (h:RowE B w (.slice (some ⟨g,0,none⟩) ps.length cap) ps) {i:Nat} (hi:i<ps.length) {p:EC} (hp:EntOwn w p):RowE B (setW w g (i*6) p.cells) (.slice (some ⟨g,0,none⟩) (ps.set i p).length cap) (ps.set i p):=by
 constructor
 ·have h1:=setW_owns p.cells w (flatE ps) (i*6) h.1
  rw [flatE_put ps i hi p] at h1
  rw [List.length_set]
  exact h1
 ·intro q hq
  rcases List.mem_or_eq_of_mem_set hq with h2|rfl
  ·exact (h.2 q h2).puts p.cells h.1
  ·exact hp.puts q.cells h.1
def lessE (a b:EntryD):Bool:=lessB a.vA a.vB a.vC a.vP b.vA b.vB b.vC b.vP
def posR {α:Type} (f:α→α→Bool) (ys:List α) (x:α):Nat→Nat
 |0=>0
 |k+1=>if (ys[k]?.map fun y=>f y x)=some true then posR f ys x k else k+1
def lessC (a b:EC):Bool:=lessE a.d b.d
def insG {α:Type} (f:α→α→Bool) (ys:List α) (x:α):List α:=ys.take (posR f ys x ys.length)++x::ys.drop (posR f ys x ys.length)
def newD (xs:List EntryD) (n:ByteArray):List EntryD:=(xs.filter fun d=>decide (d.name=n)).foldl (insG lessE) []
theorem posR_step {α:Type} (f:α→α→Bool) (ys:List α) (x:α) (k:Nat) (h:k<ys.length):posR f ys x (k+1)=if f ys[k] x=true then posR f ys x k else k+1:=by
 show (if (ys[k]?.map fun y=>f y x)=some true then posR f ys x k else k+1)=_
 rw [List.getElem?_eq_getElem h]
 simp
theorem posR_le {α:Type} (f:α→α→Bool) (ys:List α) (x:α): ∀ k,k≤ys.length→posR f ys x k≤k:=by
 intro k
 induction k with
 |zero=>intro _;exact Nat.le_refl _
 |succ k ih=>intro h;rw [posR_step f ys x k (by omega)];have:=ih (by omega);split<;>omega
theorem posR_map (ys:List EC) (x:EC): ∀ k,posR lessC ys x k=posR lessE (ys.map EC.d) x.d k:=by
 intro k
 induction k with
 |zero=>rfl
 |succ k ih=>
  show (if (ys[k]?.map fun y=>lessC y x)=some true then posR lessC ys x k else k+1)=(if ((ys.map EC.d)[k]?.map fun y=>lessE y x.d)=some true then posR lessE (ys.map EC.d) x.d k else k+1)
  rw [ih,List.getElem?_map,Option.map_map]
  rfl
theorem insG_map (ys:List EC) (x:EC):(insG lessC ys x).map EC.d=insG lessE (ys.map EC.d) x.d:=by
 unfold insG
 rw [posR_map,List.length_map]
 simp
theorem newD_step (xs:List EntryD) (n:ByteArray) (i:Nat) (h:i<xs.length):newD (xs.take (i+1)) n=if xs[i].name=n then insG lessE (newD (xs.take i) n) xs[i] else newD (xs.take i) n:=by
 unfold newD
 rw [List.take_succ_eq_append_getElem h,List.filter_append,List.foldl_append]
 by_cases e:xs[i].name=n
 ·rw [if_pos e];simp [e]
 ·rw [if_neg e];simp [e]
theorem insG_len {α:Type} (f:α→α→Bool) (ys:List α) (x:α):(insG f ys x).length=ys.length+1:=by
 have:=posR_le f ys x ys.length (Nat.le_refl _)
 simp [insG];omega
theorem newD_len (xs:List EntryD) (n:ByteArray): ∀ i,i≤xs.length→(newD (xs.take i) n).length≤i:=by
 intro i
 induction i with
 |zero=>intro _;simp [newD]
 |succ i ih=>
  intro h
  have:=ih (by omega)
  rw [newD_step xs n i (by omega)]
  split
  ·rw [insG_len];omega
  ·omega
def holeC (ys:List EC) (k:Nat) (z:EC):List EC:=ys.take k++z::ys.drop k
theorem hole_len (ys:List EC) (k:Nat) (z:EC) (h:k≤ys.length):(holeC ys k z).length=ys.length+1:=by
 simp [holeC];omega
theorem hole_at (ys:List EC) (k:Nat) (z:EC) (h:k<ys.length):(holeC ys (k+1) z)[k]?=some ys[k]:=by
 unfold holeC
 rw [List.getElem?_append_left (by simp;omega),List.getElem?_take_of_lt (by omega),List.getElem?_eq_getElem h]
theorem hole_set (ys:List EC) (k:Nat) (z x:EC) (h:k≤ys.length):(holeC ys k z).set k x=holeC ys k x:=by
 unfold holeC
 rw [List.set_append_right _ _ (by simp;omega)]
 have:k-(ys.take k).length=0:=by simp;omega
 rw [this]
 rfl
theorem hole_shift (ys:List EC) (k:Nat) (h:k<ys.length):holeC ys (k+1) ys[k]=holeC ys k ys[k]:=by
 unfold holeC
 rw [List.take_succ_eq_append_getElem h]
 conv=>rhs;rw [List.drop_eq_getElem_cons h]
 simp only [List.append_assoc,List.cons_append,List.nil_append]
end Go.Proofs.YtlfmefojcmpfeaaGreatDoor
