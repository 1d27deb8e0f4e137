/-
  Contracts for the walks and pure facts, several texts in one: each theorem says what it proves, and under which conditions.
-/
import Derived.Test.YtlfmefojcmpfeaaGreatDoorUT
import Derived.Test.YtlfmefojcmpfeaaGreatDoorU35
set_option linter.unusedSimpArgs false
set_option linter.unusedVariables false
set_option maxHeartbeats 16000000
set_option maxRecDepth 100000
namespace Go.Proofs.YtlfmefojcmpfeaaGreatDoor
open Go.RowKit
theorem implReg_c (S:Nat→Prop) (v:Value) (xs:List EntryD) (w:World) (hv:RowIn shEntry S w v xs) (hB: ∀ b,S b→b<w.heap.size) (hw:wtRow wtEntry xs≤1048576) (hT:Tabs w):
  Calls Tryz.prog 25 #[v] w fun e w'=>e=.returned (.bool (regI xs))∧Below w.heap.size w w':=by
 have hwe: ∀ d∈xs,wtEntry d≤1048576:=fun d hd=>by have:=wt_wtRow wtEntry hd;omega
 have hwb: ∀ d∈xs,bulkS d.vP≤1048576:=fun d hd=>by have:=hwe d hd;unfold wtEntry at this;omega
 have HA:=hidden (anyEntry_c S v xs w hv hB hwe hT)
 obtain ⟨a,cap,rfl,hl,hc,ha⟩:=hv
 unfold maxLen at hl
 unfold regI
 obtain ⟨P,hP⟩: ∃ P,P=xs.any (fun d=> !entB d):=⟨_,rfl⟩
 obtain ⟨R,hR⟩: ∃ R,R=relB (fun _=>true) entLess xs:=⟨_,rfl⟩
 rw [←hP] at HA
 rw [←hP, ←hR]
 have HR:=hidden hR
 clear hR hP hT
 by_cases h12:12<xs.length
 ·have h12':(12:Int)<(xs.length:Int):=by omega
  rw [decide_eq_true h12]
  clear ha HA HR
  go_enter Tryz.func25,Tryz.ntmps25
  go_wp2_with fail
  go_ret
  exact ⟨rfl,Below.refl _ _⟩
 have h12': ¬(12:Int)<(xs.length:Int):=by omega
 rw [decide_eq_false h12]
 cases P with
 |true=>
  clear ha HR
  go_enter Tryz.func25,Tryz.ntmps25
  go_wp2_with (go_at_call 91;refine HA.out.mono ?_;rintro e w1 ⟨rfl,b1⟩)
  go_ret
  exact ⟨rfl,b1⟩
 |false=>
 go_enter Tryz.func25,Tryz.ntmps25
 go_wp2_with (go_at_call 91;refine HA.out.mono ?_;rintro e w1 ⟨rfl,b0⟩)
 go_loopw [3] (fun vi wr=>∃ k:Nat,1≤k∧(k≤xs.length∨k=1)∧vi=.int .i64 (k:Int)∧Hid (relUpto (fun _=>true) entLess xs k=true)∧Below w.heap.size w wr) (fun vi _=>xs.length-(intOf vi).toNat)
 case atStart=>exact ⟨1,Nat.le_refl _,.inr rfl,rfl,rel_one _ _,b0⟩
 case round=>
  obtain ⟨k,hk1,hk,rfl,hh,hbr⟩:=hrel
  by_cases hlt':k<xs.length
  ·rcases ha with rfl|⟨b,off,rfl,hlt,ha⟩
   ·simp at hlt'
   obtain ⟨j,rfl⟩: ∃ j,k=j+1:=⟨k-1,by omega⟩
   have hj':j<xs.length:=by omega
   obtain ⟨ycs,yL,hcelly⟩:=ha j hj'
   obtain ⟨xcs,xL,hcellx⟩:=ha (j+1) hlt'
   have hbb:b<wr.heap.size:=Nat.lt_of_lt_of_le (hB b hlt) hbr.size
   replace hcelly:=hcelly.keep (.of hbr hB) hlt
   replace hcellx:=hcellx.keep (.of hbr hB) hlt
   have HC1:Hid (∀ w1,Below wr.heap.size wr w1→Calls Tryz.prog 93 #[.agg ycs.toArray,.agg xcs.toArray] w1 fun e w'=>e=.returned (.bool (entLess xs[j] xs[j+1]))∧Below w1.heap.size w1 w'):=fun w1 h=>isAhead_c S S xs[j] xs[j+1] ycs xcs w1 (shEntry.keep (.of (below_next hbr h) hB) yL) (shEntry.keep (.of (below_next hbr h) hB) xL) (fun b hb=>Nat.lt_of_lt_of_le (hB b hb) (below_next hbr h).size) (fun b hb=>Nat.lt_of_lt_of_le (hB b hb) (below_next hbr h).size) (hwb _ (List.getElem_mem _)) (hwb _ (List.getElem_mem _))
   have hpre:preX xs (j+1)=some xs[j]:=by simp [preX,hj']
   have HBD:Hid (entLess xs[j] xs[j+1]=false→R=false):=fun h=>HR.out.trans (relUpto_bad hlt' (by rw [hpre];exact relOk_less h) _ hlt')
   have HGD:Hid (entLess xs[j] xs[j+1]=true→relUpto (fun _=>true) entLess xs (j+1+1)=true):=fun h=>relUpto_step hlt' hh.out (by rw [hpre,relOk_some rfl];exact h)
   obtain ⟨c,hc0⟩: ∃ c,c=xs[j]:=⟨_,rfl⟩
   obtain ⟨d,hd0'⟩: ∃ d,d=xs[j+1]:=⟨_,rfl⟩
   rw [←hc0] at yL HC1 HBD HGD
   rw [←hd0'] at xL HC1 HBD HGD
   obtain ⟨r,hr⟩: ∃ r,r=entLess c d:=⟨_,rfl⟩
   rw [←hr] at HC1 HBD HGD
   clear ha hpre hc0 hd0' hh hr hwe hwb
   obtain ⟨yu0,yu1,rfl,ys_name,yr0,yp0,yr1⟩:=yL
   obtain ⟨ya0,yc0,ye0,_⟩:=id yr0
   rw [length_strsV] at ye0
   subst ye0
   clear yr0
   obtain ⟨ya1,yc1,ye1,_⟩:=id yr1
   subst ye1
   clear yr1
   obtain ⟨xu0,xu1,rfl,xs_name,xr0,xp0,xr1⟩:=xL
   obtain ⟨xa0,xc0,xe0,_⟩:=id xr0
   rw [length_strsV] at xe0
   subst xe0
   clear xr0
   obtain ⟨xa1,xc1,xe1,_⟩:=id xr1
   subst xe1
   clear xr1
   have yv0:wr.cell? ⟨b,off+j*6,none⟩=some (.string c.name):=hcelly 0 (by simp)
   have yv1:wr.cell? ⟨b,off+j*6+1,none⟩=some (.int .i64 c.vA):=hcelly 1 (by simp)
   have yv2:wr.cell? ⟨b,off+j*6+2,none⟩=some (.int .i64 c.vB):=hcelly 2 (by simp)
   have yv3:wr.cell? ⟨b,off+j*6+3,none⟩=some (.int .i64 c.vC):=hcelly 3 (by simp)
   have yv4:wr.cell? ⟨b,off+j*6+4,none⟩=some (.slice ya0 c.vP.length yc0):=hcelly 4 (by simp)
   have yv5:wr.cell? ⟨b,off+j*6+5,none⟩=some (.slice ya1 c.needs.length yc1):=hcelly 5 (by simp)
   have xv0:wr.cell? ⟨b,off+(j+1)*6,none⟩=some (.string d.name):=hcellx 0 (by simp)
   have xv1:wr.cell? ⟨b,off+(j+1)*6+1,none⟩=some (.int .i64 d.vA):=hcellx 1 (by simp)
   have xv2:wr.cell? ⟨b,off+(j+1)*6+2,none⟩=some (.int .i64 d.vB):=hcellx 2 (by simp)
   have xv3:wr.cell? ⟨b,off+(j+1)*6+3,none⟩=some (.int .i64 d.vC):=hcellx 3 (by simp)
   have xv4:wr.cell? ⟨b,off+(j+1)*6+4,none⟩=some (.slice xa0 d.vP.length xc0):=hcellx 4 (by simp)
   have xv5:wr.cell? ⟨b,off+(j+1)*6+5,none⟩=some (.slice xa1 d.needs.length xc1):=hcellx 5 (by simp)
   have hj0:(0:Int)≤(j:Int)+1:=by omega
   have hj2:(j:Int)+1<(xs.length:Int):=by omega
   have hj3:(j:Int)<(xs.length:Int):=by omega
   have hjw:IntKind.i64.wrap (j:Int)=(j:Int):=IntWalk.i64_in _ ⟨by omega,by omega⟩
   have hd0:Below wr.heap.size wr wr.drew:=(Below.refl _ _).drew
   have KEEP:Hid (∀ w1,Below wr.heap.size wr w1→w1.cell? ⟨b,off+j*6,none⟩=some (.string c.name)∧w1.cell? ⟨b,off+j*6+1,none⟩=some (.int .i64 c.vA)∧w1.cell? ⟨b,off+j*6+2,none⟩=some (.int .i64 c.vB)∧w1.cell? ⟨b,off+j*6+3,none⟩=some (.int .i64 c.vC)∧w1.cell? ⟨b,off+j*6+4,none⟩=some (.slice ya0 c.vP.length yc0)∧w1.cell? ⟨b,off+j*6+5,none⟩=some (.slice ya1 c.needs.length yc1)∧w1.cell? ⟨b,off+(j+1)*6,none⟩=some (.string d.name)∧w1.cell? ⟨b,off+(j+1)*6+1,none⟩=some (.int .i64 d.vA)∧w1.cell? ⟨b,off+(j+1)*6+2,none⟩=some (.int .i64 d.vB)∧w1.cell? ⟨b,off+(j+1)*6+3,none⟩=some (.int .i64 d.vC)∧w1.cell? ⟨b,off+(j+1)*6+4,none⟩=some (.slice xa0 d.vP.length xc0)∧w1.cell? ⟨b,off+(j+1)*6+5,none⟩=some (.slice xa1 d.needs.length xc1)):=fun w1 h=>⟨(h.cell (by simpa using hbb)).trans yv0,(h.cell (by simpa using hbb)).trans yv1,(h.cell (by simpa using hbb)).trans yv2,(h.cell (by simpa using hbb)).trans yv3,(h.cell (by simpa using hbb)).trans yv4,(h.cell (by simpa using hbb)).trans yv5,(h.cell (by simpa using hbb)).trans xv0,(h.cell (by simpa using hbb)).trans xv1,(h.cell (by simpa using hbb)).trans xv2,(h.cell (by simpa using hbb)).trans xv3,(h.cell (by simpa using hbb)).trans xv4,(h.cell (by simpa using hbb)).trans xv5⟩
   clear hcelly hcellx yv0 yv1 yv2 yv3 yv4 yv5 xv0 xv1 xv2 xv3 xv4 xv5 xs_name ys_name xp0 yp0
   cases r with
   |false=>
    have HB2:=hidden (HBD.out rfl)
    clear HBD HGD
    go_wp2_with fail
    refine wp_region_held_drew (S:=(fun w'=>w'.cell? ⟨b,off+j*6,none⟩=some (.string c.name)∧w'.cell? ⟨b,off+j*6+1,none⟩=some (.int .i64 c.vA)∧w'.cell? ⟨b,off+j*6+2,none⟩=some (.int .i64 c.vB)∧w'.cell? ⟨b,off+j*6+3,none⟩=some (.int .i64 c.vC)∧w'.cell? ⟨b,off+j*6+4,none⟩=some (.slice ya0 c.vP.length yc0)∧w'.cell? ⟨b,off+j*6+5,none⟩=some (.slice ya1 c.needs.length yc1)∧w'.cell? ⟨b,off+(j+1)*6,none⟩=some (.string d.name)∧w'.cell? ⟨b,off+(j+1)*6+1,none⟩=some (.int .i64 d.vA)∧w'.cell? ⟨b,off+(j+1)*6+2,none⟩=some (.int .i64 d.vB)∧w'.cell? ⟨b,off+(j+1)*6+3,none⟩=some (.int .i64 d.vC)∧w'.cell? ⟨b,off+(j+1)*6+4,none⟩=some (.slice xa0 d.vP.length xc0)∧w'.cell? ⟨b,off+(j+1)*6+5,none⟩=some (.slice xa1 d.needs.length xc1))) (by kernel_rfl) ?SR20 (fun hHeld=>?_)
    case SR20=>(first|(with_reducible exact KEEP.out _ hd1)|(with_reducible exact KEEP.out _ hd0))
    refine tk 0 hHeld (h:=?_)
    refine tk 1 hHeld (h:=?_)
    refine tk 2 hHeld (h:=?_)
    refine tk 3 hHeld (h:=?_)
    refine tk 4 hHeld (h:=?_)
    refine tk 5 hHeld (h:=?_)
    refine tk 6 hHeld (h:=?_)
    refine tk 7 hHeld (h:=?_)
    refine tk 8 hHeld (h:=?_)
    refine wpAnyH_ready (rs:=[9]) (by kernel_rfl) (by simp) ?_
    refine AllReadyH.cons rfl (fun K hK=>?_) AllReadyH.nil
    go_simp
    go_wp2_with (go_at_call 93;refine (HC1.out _ hd0).mono ?_;rintro e w1 ⟨rfl,b1⟩;have hd1:Below wr.heap.size wr w1:=hd0.trans (b1.mono hd0.size))
    clear hHeld
    refine hK.out _ _ ?SR210 (fun hHeld=>?_)
    case SR210=>((try dsimp only);first|(with_reducible exact KEEP.out _ hd1)|(with_reducible exact KEEP.out _ hd0))
    clear hK K
    refine tk 10 hHeld (h:=?_)
    refine wpAnyH_done (by kernel_rfl) ?_ _
    go_wp2_with fail
    go_ret
    exact ⟨by rw [HB2.out];rfl,hbr.trans (hd1.mono hbr.size)⟩
   |true=>
    have HG2:=hidden (HGD.out rfl)
    clear HBD HGD
    go_wp2_with fail
    refine wp_region_held_drew (S:=(fun w'=>w'.cell? ⟨b,off+j*6,none⟩=some (.string c.name)∧w'.cell? ⟨b,off+j*6+1,none⟩=some (.int .i64 c.vA)∧w'.cell? ⟨b,off+j*6+2,none⟩=some (.int .i64 c.vB)∧w'.cell? ⟨b,off+j*6+3,none⟩=some (.int .i64 c.vC)∧w'.cell? ⟨b,off+j*6+4,none⟩=some (.slice ya0 c.vP.length yc0)∧w'.cell? ⟨b,off+j*6+5,none⟩=some (.slice ya1 c.needs.length yc1)∧w'.cell? ⟨b,off+(j+1)*6,none⟩=some (.string d.name)∧w'.cell? ⟨b,off+(j+1)*6+1,none⟩=some (.int .i64 d.vA)∧w'.cell? ⟨b,off+(j+1)*6+2,none⟩=some (.int .i64 d.vB)∧w'.cell? ⟨b,off+(j+1)*6+3,none⟩=some (.int .i64 d.vC)∧w'.cell? ⟨b,off+(j+1)*6+4,none⟩=some (.slice xa0 d.vP.length xc0)∧w'.cell? ⟨b,off+(j+1)*6+5,none⟩=some (.slice xa1 d.needs.length xc1))) (by kernel_rfl) ?SR30 (fun hHeld=>?_)
    case SR30=>(first|(with_reducible exact KEEP.out _ hd1)|(with_reducible exact KEEP.out _ hd0))
    refine tk 0 hHeld (h:=?_)
    refine tk 1 hHeld (h:=?_)
    refine tk 2 hHeld (h:=?_)
    refine tk 3 hHeld (h:=?_)
    refine tk 4 hHeld (h:=?_)
    refine tk 5 hHeld (h:=?_)
    refine tk 6 hHeld (h:=?_)
    refine tk 7 hHeld (h:=?_)
    refine tk 8 hHeld (h:=?_)
    refine wpAnyH_ready (rs:=[9]) (by kernel_rfl) (by simp) ?_
    refine AllReadyH.cons rfl (fun K hK=>?_) AllReadyH.nil
    go_simp
    go_wp2_with (go_at_call 93;refine (HC1.out _ hd0).mono ?_;rintro e w1 ⟨rfl,b1⟩;have hd1:Below wr.heap.size wr w1:=hd0.trans (b1.mono hd0.size))
    clear hHeld
    refine hK.out _ _ ?SR310 (fun hHeld=>?_)
    case SR310=>((try dsimp only);first|(with_reducible exact KEEP.out _ hd1)|(with_reducible exact KEEP.out _ hd0))
    clear hK K
    refine tk 10 hHeld (h:=?_)
    refine wpAnyH_done (by kernel_rfl) ?_ _
    go_wp2_with fail
    go_roundw
    case rel=>exact ⟨j+1+1,by omega,.inl (by omega),by go_num,HG2.out,hbr.trans (hd1.mono hbr.size)⟩
    case measure=>simp [intOf];omega
  ·have HE:Hid (R=true):=HR.out.trans (rel_end hk1 hlt' hk hh.out)
   clear ha hh HR
   go_wp2_with fail
   go_ret
   exact ⟨by rw [HE.out];rfl,hbr⟩
theorem run_store_func {P:Program} (w:World) (a:Addr) (m:Mode) (fn:Fn) (x y:Array Value):(store a (.func fn x y) m).run P w=stored P w a (.func fn x y) m:=run_store P w a _ m rfl
theorem sol_form {xs:List EntryD} {ns:List NeedD} {fu:Int} (h:formB xs ns=false):solD xs ns fu=([],3):=by unfold solD;rw [h];simp
theorem sol_way {xs:List EntryD} {ns:List NeedD} {fu:Int} (h:formB xs ns=true):solD xs ns fu=resD (way xs (fuelN fu) [] ns):=by unfold solD;rw [h];simp
theorem below_frT {B0:Nat} {gw:Option Nat} {w W w':World} (h:Below B0 w W) (k:FrT B0 gw W w'):Below B0 w w':=⟨k.os.trans h.os,k.tape.trans h.tape,k.output.trans h.output,Nat.le_trans h.size k.size,fun b hb=>(k.low b hb).trans (h.block b hb)⟩
theorem tryS_new {B0 br bf f:Nat} {rv wv:Value} {w3:World} {ws:List WC} (h1:BoxV B0 24 w3 br rv) (h2:BoxV B0 3 w3 bf (.int .i64 (f:Int))) (h3:RowW B0 w3 wv ws) (h4:TabsB B0 w3) (h5:B0≤w3.heap.size):
  TryS B0 (w3.heap.size+1) (w3.heap.size+1+1) br bf (w3.heap.size+1+1+1) w3.heap.size rv ((((w3.alloc (.map #[] 0)).alloc (.cells #[wv] 129)).alloc (.cells #[.map (some w3.heap.size)] 131)).alloc (.cells #[.func (.func 103) #[] #[.pointer (some ⟨w3.heap.size+1,0,none⟩),.pointer (some ⟨w3.heap.size+1+1,0,none⟩),.pointer (some ⟨br,0,none⟩),.pointer (some ⟨bf,0,none⟩),.pointer (some ⟨w3.heap.size+1+1+1,0,none⟩)]] 132)) f wv ws (fun _=>none) 0 0∧
  Below w3.heap.size w3 ((((w3.alloc (.map #[] 0)).alloc (.cells #[wv] 129)).alloc (.cells #[.map (some w3.heap.size)] 131)).alloc (.cells #[.func (.func 103) #[] #[.pointer (some ⟨w3.heap.size+1,0,none⟩),.pointer (some ⟨w3.heap.size+1+1,0,none⟩),.pointer (some ⟨br,0,none⟩),.pointer (some ⟨bf,0,none⟩),.pointer (some ⟨w3.heap.size+1+1+1,0,none⟩)]] 132)):=by
 obtain ⟨W1,hW1⟩: ∃ W,W=w3.alloc (.map #[] 0):=⟨_,rfl⟩
 have s1:W1.heap.size=w3.heap.size+1:=by rw [hW1];simp
 have b1:Below w3.heap.size w3 W1:=by rw [hW1];exact (Below.refl _ _).alloc (Nat.le_refl _) _
 have m1:MapV W1 w3.heap.size 0 0 (fun _=>none):=by rw [hW1];exact MapV_made w3
 rw [←hW1]
 obtain ⟨W2,hW2⟩: ∃ W,W=W1.alloc (.cells #[wv] 129):=⟨_,rfl⟩
 have s2:W2.heap.size=w3.heap.size+1+1:=by rw [hW2];simp [s1]
 have b2:Below W1.heap.size W1 W2:=by rw [hW2];exact (Below.refl _ _).alloc (Nat.le_refl _) _
 have x2:BoxV B0 129 W2 (w3.heap.size+1) wv:=by rw [hW2, ←s1];exact boxV_new W1 _ _ _ (by omega)
 rw [←hW2]
 obtain ⟨W3,hW3⟩: ∃ W,W=W2.alloc (.cells #[.map (some w3.heap.size)] 131):=⟨_,rfl⟩
 have s3:W3.heap.size=w3.heap.size+1+1+1:=by rw [hW3];simp [s2]
 have b3:Below W2.heap.size W2 W3:=by rw [hW3];exact (Below.refl _ _).alloc (Nat.le_refl _) _
 have x3:BoxV B0 131 W3 (w3.heap.size+1+1) (.map (some w3.heap.size)):=by rw [hW3, ←s2];exact boxV_new W2 _ _ _ (by omega)
 rw [←hW3]
 obtain ⟨FV,hFV⟩: ∃ v:Value,v=.func (.func 103) #[] #[.pointer (some ⟨w3.heap.size+1,0,none⟩),.pointer (some ⟨w3.heap.size+1+1,0,none⟩),.pointer (some ⟨br,0,none⟩),.pointer (some ⟨bf,0,none⟩),.pointer (some ⟨w3.heap.size+1+1+1,0,none⟩)]:=⟨_,rfl⟩
 rw [←hFV]
 obtain ⟨W4,hW4⟩: ∃ W,W=W3.alloc (.cells #[FV] 132):=⟨_,rfl⟩
 have b4:Below W3.heap.size W3 W4:=by rw [hW4];exact (Below.refl _ _).alloc (Nat.le_refl _) _
 have x4:BoxV B0 132 W4 (w3.heap.size+1+1+1) FV:=by rw [hW4, ←s3];exact boxV_new W3 _ _ _ (by omega)
 rw [←hW4]
 have k2:Below w3.heap.size w3 W2:=b1.trans (b2.mono (by omega))
 have k3:Below w3.heap.size w3 W3:=k2.trans (b3.mono (by omega))
 have k4:Below w3.heap.size w3 W4:=k3.trans (b4.mono (by omega))
 refine ⟨⟨(x2.below b3).below b4,x3.below b4,h1.below k4,h2.below k4,by rw [hFV] at x4;exact x4,h3.below k4,((m1.below b2).below b3).below b4,fun p x hx=>(by cases hx),h5,h4.low (fun b hb=>k4.block b (Nat.lt_of_lt_of_le hb h5))⟩,k4⟩
theorem any_not_all (ns:List NeedD):(ns.any fun d=> !needB d)= !ns.all needB:=by
 induction ns with
 |nil=>rfl
 |cons d r ih=>simp [List.any_cons,List.all_cons,ih,Bool.not_and]
theorem implSolve_c (Sr Sn:Nat→Prop) (rv nv:Value) (xs:List EntryD) (ns:List NeedD) (fu:Int) (w:World) (hr:RowIn shEntry Sr w rv xs) (hn:RowIn shNeed Sn w nv ns) (hBr: ∀ b,Sr b→b<w.heap.size) (hBn: ∀ b,Sn b→b<w.heap.size) (hwr:wtRow wtEntry xs≤1048576) (hwn:wtRow wtNeed ns≤1048576) (hT:Tabs w):
    Calls Tryz.prog 28 #[rv,nv,.int .i64 fu] w fun e w'=>∃ v ps,e=.returned (.tuple #[v,.int .i64 (solD xs ns fu).2])∧RowL w.heap.size w' v ps∧SepL ps∧ps.map LC.d=(solD xs ns fu).1∧Below w.heap.size w w':=by
  obtain ⟨rq,rc,hrv⟩:=hr.slice
  subst hrv
  have hwe: ∀ d∈ns,d.r.size≤1048576:=fun d hd=>by have h9:d.n.size+d.r.size≤wtRow wtNeed ns:=wt_wtRow wtNeed hd;omega
  have HRG:Hid (∀ W,Below w.heap.size w W→Calls Tryz.prog 25 #[.slice rq xs.length rc] W fun e w'=>e=.returned (.bool (regB xs))∧Below W.heap.size W w'):=fun W h=>by
    rw [←reg_alike]
    exact implReg_c Sr _ xs W (hr.keep (.of h hBr)) (fun b hb=>Nat.lt_of_lt_of_le (hBr b hb) h.size) hwr (hT.below h)
  have HAN:Hid (∀ W,Below w.heap.size w W→Calls Tryz.prog 100 #[nv,.func (.func 101) #[] #[]] W fun e w'=>e=.returned (.bool (!ns.all needB))∧Below W.heap.size W w'):=fun W h=>by
    rw [←any_not_all]
    exact anyNeed_c Sn nv ns W (hn.keep (.of h hBn)) (fun b hb=>Nat.lt_of_lt_of_le (hBn b hb) h.size) hwe (hT.below h)
  have HWO:Hid (∀ W,Below w.heap.size w W→Calls Tryz.prog 102 #[nv] W fun e w'=>∃ v' ps,e=.returned v'∧RowW W.heap.size w' v' ps∧ps.map WC.say=ns.map wishD∧Below W.heap.size W w'):=fun W h=>by
    obtain ⟨m,t1,t2⟩:=hT.below h
    have hT2: ∀ W',Below W.heap.size W W'→W'.cell? ⟨2,0,none⟩=some (.int .i64 m)∧∀ k (h:k<signsT.length),W'.cell? ⟨1,k,none⟩=some (.string signsT[k]):=fun W' h'=>
      ⟨(h'.cell (p:=⟨2,0,none⟩) (by simpa using World.block_lt_of_cell? W _ t1)).trans t1,fun j hj=>(h'.cell (p:=⟨1,j,none⟩) (by simpa using World.block_lt_of_cell? W _ (t2 j hj))).trans (t2 j hj)⟩
    exact wishesOf_c Sn nv ns m W (hn.keep (.of h hBn)) (fun b hb=>Nat.lt_of_lt_of_le (hBn b hb) h.size) hwn hT2
  have hmf: ∀ (fn:Fn) (first cap:Array Value) (w:World),(Instr.makeFunc fn first cap).run Tryz.prog w=.ok (.func fn first cap) w:=fun _ _ _ _=>rfl
  have hmm:= @run_makeMap Tryz.prog
  have hsf:= @run_store_func Tryz.prog
  have kA:Below w.heap.size w ((w.alloc (.cells #[.slice rq xs.length rc] 24)).alloc (.cells #[.int .i64 fu] 3)):=((Below.refl _ _).alloc (Nat.le_refl _) _).alloc (by simp) _
  have hbr:=boxV_new w 24 (.slice rq xs.length rc) w.heap.size (Nat.le_refl _)
  have hbr2:BoxV w.heap.size 24 ((w.alloc (.cells #[.slice rq xs.length rc] 24)).alloc (.cells #[.int .i64 fu] 3)) w.heap.size (.slice rq xs.length rc):=hbr.below ((Below.refl _ _).alloc (Nat.le_refl _) _)
  have hbf2:BoxV w.heap.size 3 ((w.alloc (.cells #[.slice rq xs.length rc] 24)).alloc (.cells #[.int .i64 fu] 3)) (w.heap.size+1) (.int .i64 fu):=by
    have h9:=boxV_new (w.alloc (.cells #[.slice rq xs.length rc] 24)) 3 (.int .i64 fu) w.heap.size (by simp)
    simpa using h9
  have HREG:=hidden hr
  have HTT:=hidden hT
  have HBR:=hidden hbr2
  have HBF:=hidden hbf2
  clear hr hn hT hbr hbr2 hbf2
  go_enter Tryz.func28,Tryz.ntmps28
  go_wp2_with fail
  go_at_call 25
  refine (HRG.out _ kA).mono ?_
  rintro e w1 ⟨rfl,b1⟩
  have k1:Below w.heap.size w w1:=kA.trans (b1.mono kA.size)
  have HBR1:=hidden (HBR.out.below b1)
  have HBF1:=hidden (HBF.out.below b1)
  clear HRG b1 HBR HBF kA
  obtain ⟨RB,hRB⟩: ∃ b,b=regB xs:=⟨_,rfl⟩
  rw [←hRB]
  have HRB:=hidden hRB
  clear hRB
  cases RB with
  |false=>
    have HSD:=hidden (sol_form (xs:=xs) (ns:=ns) (fu:=fu) (by unfold formB;rw [←HRB.out];rfl))
    go_wp2_with fail
    go_ret2
    refine ⟨_,[],?_,⟨World.ownsRow_nil _ _ _ _,fun p hp=>by simp at hp⟩,SepL.nil,?_,k1⟩<;>(rw [HSD.out];try rfl)
  |true=>
    go_wp2_with fail
    go_at_call 100
    refine (HAN.out _ k1).mono ?_
    rintro e w2 ⟨rfl,b2⟩
    have k2:Below w.heap.size w w2:=k1.trans (b2.mono k1.size)
    have HBR2:=hidden (HBR1.out.below b2)
    have HBF2:=hidden (HBF1.out.below b2)
    clear HAN b2 HBR1 HBF1 k1
    obtain ⟨AB,hAB⟩: ∃ b,b=ns.all needB:=⟨_,rfl⟩
    rw [←hAB]
    have HAB:=hidden hAB
    clear hAB
    cases AB with
    |false=>
      have HSD:=hidden (sol_form (xs:=xs) (ns:=ns) (fu:=fu) (by unfold formB;rw [←HAB.out];simp))
      go_wp2_with fail
      go_ret2
      refine ⟨_,[],?_,⟨World.ownsRow_nil _ _ _ _,fun p hp=>by simp at hp⟩,SepL.nil,?_,k2⟩<;>(rw [HSD.out];try rfl)
    |true=>
      have HSD:=hidden (sol_way (xs:=xs) (ns:=ns) (fu:=fu) (by unfold formB;rw [←HRB.out, ←HAB.out];rfl))
      have cF:=HBF2.out.cell
      have zF:=HBF2.out.frz
      obtain ⟨bf,hbf⟩: ∃ b,b=w.heap.size+1:=⟨_,rfl⟩
      rw [←hbf] at cF zF HBF2 ⊢
      have HBFE:=hidden hbf
      clear hbf
      by_cases hin:0≤fu∧fu≤10000
      · have hfn:fu=(fuelN fu:Int):=by unfold fuelN;rw [if_pos hin];omega
        have hl1: ¬fu<0:=by omega
        have hl2: ¬10000<fu:=by omega
        have HB3:Hid (BoxV w.heap.size 3 w2 bf (.int .i64 (fuelN fu:Int))):=by rw [hfn] at HBF2;exact HBF2
        clear hfn hin
        have HBR':=HBR2
        have HBF':=HB3
        clear HBF2 HBR2 HB3
        go_wp2_with fail
        go_at_call 102
        refine (HWO.out _ k2).mono ?_
        rintro e w3 ⟨v3,ws,rfl,hw3,hsy,b3⟩
        obtain ⟨vq,vc,hv3⟩:=owns_sliceP hw3.1
        subst hv3
        have k3:Below w.heap.size w w3:=k2.trans (b3.mono k2.size)
        have hlw:=k3.size
        have htb:TabsB w.heap.size w3:=by
          obtain ⟨m,t1,t2⟩:=HTT.out
          exact ⟨(HTT.out).below k3,by simpa using World.block_lt_of_cell? w _ t1,by simpa using World.block_lt_of_cell? w _ (t2 0 (by decide))⟩
        have HTS:=hidden (tryS_new (HBR'.out.below b3) (HBF'.out.below b3) (show RowW w.heap.size w3 (.slice vq ws.length vc) ws from ⟨owns_lo k2.size hw3.1,hw3.2⟩) htb hlw)
        have hsm:formB xs ns=true:=by unfold formB;rw [←HRB.out, ←HAB.out];rfl
        obtain ⟨hx1,hx2⟩:=regB_small (by simpa using HRB.out.symm:regB xs=true)
        have hns2: ∀ d∈ns,smallN d:=fun d hd=>needB_small (List.all_eq_true.1 (by simpa using HAB.out.symm:ns.all needB=true) d hd)
        have hwl:ws.length=ns.length:=by have h9:=congrArg List.length hsy;simpa using h9
        have hnl:=len_wtRow wtNeed ns
        have hfl:=fuelN_le fu
        have HTRY := hidden (try_c xs Sr (.slice rq xs.length rc) w.heap.size (w3.heap.size + 1) (w3.heap.size + 1 + 1) w.heap.size bf (w3.heap.size + 1 + 1 + 1) w3.heap.size hwr hx1 hx2 hBr (fuelN fu) _ 0 _ ws (fun _ => none) 0 0 [] ns HTS.out.1 (HREG.out.keep (.of (k3.trans (HTS.out.2.mono hlw)) hBr)) (Nat.zero_le _) (by rw [List.drop_zero]; exact hsy) (fun q => rfl) (fun p hp => by
          obtain ⟨jx, hjx, rfl⟩ := List.mem_iff_getElem.1 hp
          have hjd : jx < ns.length := by omega
          have h8 := congrArg (·[jx]?) hsy
          simp only [List.getElem?_map, List.getElem?_eq_getElem hjx, List.getElem?_eq_getElem hjd, Option.map_some, Option.some.injEq] at h8
          exact wok_of_say h8 (hns2 _ (List.getElem_mem hjd))) hns2 (by omega) (by omega))
        unfold ptrV at HTRY
        have HINV:=hidden (fun l' f' h=>way_inv xs hx1 (fuelN fu) [] ns l' f' h List.Pairwise.nil (fun p hp=>by simp at hp) hns2)
        have HKW:=hidden (k3.trans (HTS.out.2.mono hlw))
        have hxb:=HTS.out.1.boxp
        have HBP:=hidden hxb
        have HW3:=hidden hlw
        clear HWO hsy hwl hnl hfl hx1 hx2 hns2 htb hw3 b3 hxb
        go_wp2_with fail
        go_at_call 103
        refine HTRY.out.mono ?_
        rintro e w9 ⟨c9,rfl,fr9,hp9⟩
        have k9:Below w.heap.size w w9:=below_frT HKW.out fr9
        have cP9:w9.cell? ⟨w3.heap.size+1+1,0,none⟩=some (.map (some w3.heap.size)):=BoxV.cell (B:=w.heap.size) (t:=131) (owns_frT HBP.out fr9 ⟨by decide,by decide,.inl (by decide)⟩)
        cases hwy:way xs (fuelN fu) [] ns with
        |good l' f'=>
          rw [hwy] at hp9
          obtain ⟨rfl,pm',n',s',hm9,hpk9,hrl9,hn9⟩:=hp9
          obtain ⟨hasc,hsml⟩:=HINV.out l' f' hwy
          have HPO := hidden (picksOf_c w3.heap.size n' s' pm' w9 hm9 hpk9 hn9 (fun p x hx => by
            obtain ⟨i, hi, _⟩ := rel_some hrl9 hx
            have h9 := firstP_find l' p
            rw [hi] at h9
            have h8 := List.mem_of_find?_eq_some h9
            have h7 := List.find?_some h9
            have h6 : (atP l' (some i)).name = p := by simpa using h7
            have h5 : wtPick (atP l' (some i)) ≤ 37 := hsml _ h8
            unfold wtPick at h5
            rw [← h6]
            omega))
          have HWY:=hidden hwy
          have HRL:=hidden hrl9
          have HASC:=hidden hasc
          clear hm9 hpk9 hrl9 hn9 hasc hsml hwy HTRY HTS fr9
          go_wp2_with fail
          go_at_call 105
          refine HPO.out.mono ?_
          rintro e wf ⟨vf,nf,pf,rfl,hmf2,hnf2,_,hrf,hsf2,hpf,bf2⟩
          have HRF:Hid (RowL w.heap.size wf vf pf):=⟨owns_lo k9.size hrf.1,fun p hp=>owns_lo k9.size (hrf.2 p hp)⟩
          have HSF:=hidden hsf2
          have HPF:Hid (pf.map LC.d=l'):=by show _=_;rw [hpf];exact picks_eq HRL.out HASC.out hmf2 hnf2
          have HKF:Hid (Below w.heap.size w wf):=k9.trans (bf2.mono k9.size)
          clear hrf hsf2 hpf bf2 hmf2 hnf2
          go_wp2_with fail
          go_ret2
          refine ⟨_,pf,?_,HRF.out,HSF.out,?_,HKF.out⟩
          · rw [HSD.out,HWY.out];rfl
          · rw [HSD.out,HWY.out];exact HPF.out
        |none f'=>
          rw [hwy] at hp9
          obtain ⟨rfl,_⟩:=hp9
          have HWY:=hidden hwy
          clear hwy HTRY HTS fr9 cP9
          go_wp2_with fail
          go_ret2
          refine ⟨_,[],?_,⟨World.ownsRow_nil _ _ _ _,fun p hp=>by simp at hp⟩,SepL.nil,?_,k9⟩
          · rw [HSD.out,HWY.out];rfl
          · rw [HSD.out,HWY.out];rfl
        |fuel=>
          rw [hwy] at hp9
          obtain rfl:c9=2:=hp9
          have HWY:=hidden hwy
          clear hwy HTRY HTS fr9 cP9
          go_wp2_with fail
          go_ret2
          refine ⟨_,[],?_,⟨World.ownsRow_nil _ _ _ _,fun p hp=>by simp at hp⟩,SepL.nil,?_,k9⟩
          · rw [HSD.out,HWY.out];rfl
          · rw [HSD.out,HWY.out];rfl
      · have hfn:fuelN fu=0:=by unfold fuelN;rw [if_neg hin]
        have hl:(decide (fu<0)||decide (10000<fu))=true:=by
          by_cases h1:fu<0
          · simp [h1]
          · have h2:10000<fu:=by omega
            simp [h2]
        obtain ⟨pb1,pb2⟩:=HBF2.out.put (.int .i64 0)
        have kS:Below w.heap.size w (w2.setCell ⟨bf,0,none⟩ (.int .i64 0)):=k2.setCell (by show _≤bf;have:=HBFE.out;omega) _
        have HBF':Hid (BoxV w.heap.size 3 (w2.setCell ⟨bf,0,none⟩ (.int .i64 0)) bf (.int .i64 (fuelN fu:Int))):=by rw [hfn];exact pb1
        have HBR':Hid (BoxV w.heap.size 24 (w2.setCell ⟨bf,0,none⟩ (.int .i64 0)) w.heap.size (.slice rq xs.length rc)):=HBR2.out.kept pb2 (owns_apart HBR2.out HBF2.out (by decide))
        clear hfn hin pb1 pb2 HBF2 HBR2
        by_cases hneg:fu<0
        · have hdg:decide (fu<0)=true:=by simp [hneg]
          go_wp2_with fail
          go_at_call 102
          refine (HWO.out _ kS).mono ?_
          rintro e w3 ⟨v3,ws,rfl,hw3,hsy,b3⟩
          obtain ⟨vq,vc,hv3⟩:=owns_sliceP hw3.1
          subst hv3
          have k3:Below w.heap.size w w3:=kS.trans (b3.mono kS.size)
          have hlw:=k3.size
          have htb:TabsB w.heap.size w3:=by
            obtain ⟨m,t1,t2⟩:=HTT.out
            exact ⟨(HTT.out).below k3,by simpa using World.block_lt_of_cell? w _ t1,by simpa using World.block_lt_of_cell? w _ (t2 0 (by decide))⟩
          have HTS:=hidden (tryS_new (HBR'.out.below b3) (HBF'.out.below b3) (show RowW w.heap.size w3 (.slice vq ws.length vc) ws from ⟨owns_lo kS.size hw3.1,hw3.2⟩) htb hlw)
          have hsm:formB xs ns=true:=by unfold formB;rw [←HRB.out, ←HAB.out];rfl
          obtain ⟨hx1,hx2⟩:=regB_small (by simpa using HRB.out.symm:regB xs=true)
          have hns2: ∀ d∈ns,smallN d:=fun d hd=>needB_small (List.all_eq_true.1 (by simpa using HAB.out.symm:ns.all needB=true) d hd)
          have hwl:ws.length=ns.length:=by have h9:=congrArg List.length hsy;simpa using h9
          have hnl:=len_wtRow wtNeed ns
          have hfl:=fuelN_le fu
          have HTRY := hidden (try_c xs Sr (.slice rq xs.length rc) w.heap.size (w3.heap.size + 1) (w3.heap.size + 1 + 1) w.heap.size bf (w3.heap.size + 1 + 1 + 1) w3.heap.size hwr hx1 hx2 hBr (fuelN fu) _ 0 _ ws (fun _ => none) 0 0 [] ns HTS.out.1 (HREG.out.keep (.of (k3.trans (HTS.out.2.mono hlw)) hBr)) (Nat.zero_le _) (by rw [List.drop_zero]; exact hsy) (fun q => rfl) (fun p hp => by
            obtain ⟨jx, hjx, rfl⟩ := List.mem_iff_getElem.1 hp
            have hjd : jx < ns.length := by omega
            have h8 := congrArg (·[jx]?) hsy
            simp only [List.getElem?_map, List.getElem?_eq_getElem hjx, List.getElem?_eq_getElem hjd, Option.map_some, Option.some.injEq] at h8
            exact wok_of_say h8 (hns2 _ (List.getElem_mem hjd))) hns2 (by omega) (by omega))
          unfold ptrV at HTRY
          have HINV:=hidden (fun l' f' h=>way_inv xs hx1 (fuelN fu) [] ns l' f' h List.Pairwise.nil (fun p hp=>by simp at hp) hns2)
          have HKW:=hidden (k3.trans (HTS.out.2.mono hlw))
          have hxb:=HTS.out.1.boxp
          have HBP:=hidden hxb
          have HW3:=hidden hlw
          clear HWO hsy hwl hnl hfl hx1 hx2 hns2 htb hw3 b3 hxb
          go_wp2_with fail
          go_at_call 103
          refine HTRY.out.mono ?_
          rintro e w9 ⟨c9,rfl,fr9,hp9⟩
          have k9:Below w.heap.size w w9:=below_frT HKW.out fr9
          have cP9:w9.cell? ⟨w3.heap.size+1+1,0,none⟩=some (.map (some w3.heap.size)):=BoxV.cell (B:=w.heap.size) (t:=131) (owns_frT HBP.out fr9 ⟨by decide,by decide,.inl (by decide)⟩)
          cases hwy:way xs (fuelN fu) [] ns with
          |good l' f'=>
            rw [hwy] at hp9
            obtain ⟨rfl,pm',n',s',hm9,hpk9,hrl9,hn9⟩:=hp9
            obtain ⟨hasc,hsml⟩:=HINV.out l' f' hwy
            have HPO := hidden (picksOf_c w3.heap.size n' s' pm' w9 hm9 hpk9 hn9 (fun p x hx => by
              obtain ⟨i, hi, _⟩ := rel_some hrl9 hx
              have h9 := firstP_find l' p
              rw [hi] at h9
              have h8 := List.mem_of_find?_eq_some h9
              have h7 := List.find?_some h9
              have h6 : (atP l' (some i)).name = p := by simpa using h7
              have h5 : wtPick (atP l' (some i)) ≤ 37 := hsml _ h8
              unfold wtPick at h5
              rw [← h6]
              omega))
            have HWY:=hidden hwy
            have HRL:=hidden hrl9
            have HASC:=hidden hasc
            clear hm9 hpk9 hrl9 hn9 hasc hsml hwy HTRY HTS fr9
            go_wp2_with fail
            go_at_call 105
            refine HPO.out.mono ?_
            rintro e wf ⟨vf,nf,pf,rfl,hmf2,hnf2,_,hrf,hsf2,hpf,bf2⟩
            have HRF:Hid (RowL w.heap.size wf vf pf):=⟨owns_lo k9.size hrf.1,fun p hp=>owns_lo k9.size (hrf.2 p hp)⟩
            have HSF:=hidden hsf2
            have HPF:Hid (pf.map LC.d=l'):=by show _=_;rw [hpf];exact picks_eq HRL.out HASC.out hmf2 hnf2
            have HKF:Hid (Below w.heap.size w wf):=k9.trans (bf2.mono k9.size)
            clear hrf hsf2 hpf bf2 hmf2 hnf2
            go_wp2_with fail
            go_ret2
            refine ⟨_,pf,?_,HRF.out,HSF.out,?_,HKF.out⟩
            · rw [HSD.out,HWY.out];rfl
            · rw [HSD.out,HWY.out];exact HPF.out
          |none f'=>
            rw [hwy] at hp9
            obtain ⟨rfl,_⟩:=hp9
            have HWY:=hidden hwy
            clear hwy HTRY HTS fr9 cP9
            go_wp2_with fail
            go_ret2
            refine ⟨_,[],?_,⟨World.ownsRow_nil _ _ _ _,fun p hp=>by simp at hp⟩,SepL.nil,?_,k9⟩
            · rw [HSD.out,HWY.out];rfl
            · rw [HSD.out,HWY.out];rfl
          |fuel=>
            rw [hwy] at hp9
            obtain rfl:c9=2:=hp9
            have HWY:=hidden hwy
            clear hwy HTRY HTS fr9 cP9
            go_wp2_with fail
            go_ret2
            refine ⟨_,[],?_,⟨World.ownsRow_nil _ _ _ _,fun p hp=>by simp at hp⟩,SepL.nil,?_,k9⟩
            · rw [HSD.out,HWY.out];rfl
            · rw [HSD.out,HWY.out];rfl
        · have hgt:10000<fu:=by simpa [hneg] using hl
          go_wp2_with fail
          go_at_call 102
          refine (HWO.out _ kS).mono ?_
          rintro e w3 ⟨v3,ws,rfl,hw3,hsy,b3⟩
          obtain ⟨vq,vc,hv3⟩:=owns_sliceP hw3.1
          subst hv3
          have k3:Below w.heap.size w w3:=kS.trans (b3.mono kS.size)
          have hlw:=k3.size
          have htb:TabsB w.heap.size w3:=by
            obtain ⟨m,t1,t2⟩:=HTT.out
            exact ⟨(HTT.out).below k3,by simpa using World.block_lt_of_cell? w _ t1,by simpa using World.block_lt_of_cell? w _ (t2 0 (by decide))⟩
          have HTS:=hidden (tryS_new (HBR'.out.below b3) (HBF'.out.below b3) (show RowW w.heap.size w3 (.slice vq ws.length vc) ws from ⟨owns_lo kS.size hw3.1,hw3.2⟩) htb hlw)
          have hsm:formB xs ns=true:=by unfold formB;rw [←HRB.out, ←HAB.out];rfl
          obtain ⟨hx1,hx2⟩:=regB_small (by simpa using HRB.out.symm:regB xs=true)
          have hns2: ∀ d∈ns,smallN d:=fun d hd=>needB_small (List.all_eq_true.1 (by simpa using HAB.out.symm:ns.all needB=true) d hd)
          have hwl:ws.length=ns.length:=by have h9:=congrArg List.length hsy;simpa using h9
          have hnl:=len_wtRow wtNeed ns
          have hfl:=fuelN_le fu
          have HTRY := hidden (try_c xs Sr (.slice rq xs.length rc) w.heap.size (w3.heap.size + 1) (w3.heap.size + 1 + 1) w.heap.size bf (w3.heap.size + 1 + 1 + 1) w3.heap.size hwr hx1 hx2 hBr (fuelN fu) _ 0 _ ws (fun _ => none) 0 0 [] ns HTS.out.1 (HREG.out.keep (.of (k3.trans (HTS.out.2.mono hlw)) hBr)) (Nat.zero_le _) (by rw [List.drop_zero]; exact hsy) (fun q => rfl) (fun p hp => by
            obtain ⟨jx, hjx, rfl⟩ := List.mem_iff_getElem.1 hp
            have hjd : jx < ns.length := by omega
            have h8 := congrArg (·[jx]?) hsy
            simp only [List.getElem?_map, List.getElem?_eq_getElem hjx, List.getElem?_eq_getElem hjd, Option.map_some, Option.some.injEq] at h8
            exact wok_of_say h8 (hns2 _ (List.getElem_mem hjd))) hns2 (by omega) (by omega))
          unfold ptrV at HTRY
          have HINV:=hidden (fun l' f' h=>way_inv xs hx1 (fuelN fu) [] ns l' f' h List.Pairwise.nil (fun p hp=>by simp at hp) hns2)
          have HKW:=hidden (k3.trans (HTS.out.2.mono hlw))
          have hxb:=HTS.out.1.boxp
          have HBP:=hidden hxb
          have HW3:=hidden hlw
          clear HWO hsy hwl hnl hfl hx1 hx2 hns2 htb hw3 b3 hxb
          go_wp2_with fail
          go_at_call 103
          refine HTRY.out.mono ?_
          rintro e w9 ⟨c9,rfl,fr9,hp9⟩
          have k9:Below w.heap.size w w9:=below_frT HKW.out fr9
          have cP9:w9.cell? ⟨w3.heap.size+1+1,0,none⟩=some (.map (some w3.heap.size)):=BoxV.cell (B:=w.heap.size) (t:=131) (owns_frT HBP.out fr9 ⟨by decide,by decide,.inl (by decide)⟩)
          cases hwy:way xs (fuelN fu) [] ns with
          |good l' f'=>
            rw [hwy] at hp9
            obtain ⟨rfl,pm',n',s',hm9,hpk9,hrl9,hn9⟩:=hp9
            obtain ⟨hasc,hsml⟩:=HINV.out l' f' hwy
            have HPO := hidden (picksOf_c w3.heap.size n' s' pm' w9 hm9 hpk9 hn9 (fun p x hx => by
              obtain ⟨i, hi, _⟩ := rel_some hrl9 hx
              have h9 := firstP_find l' p
              rw [hi] at h9
              have h8 := List.mem_of_find?_eq_some h9
              have h7 := List.find?_some h9
              have h6 : (atP l' (some i)).name = p := by simpa using h7
              have h5 : wtPick (atP l' (some i)) ≤ 37 := hsml _ h8
              unfold wtPick at h5
              rw [← h6]
              omega))
            have HWY:=hidden hwy
            have HRL:=hidden hrl9
            have HASC:=hidden hasc
            clear hm9 hpk9 hrl9 hn9 hasc hsml hwy HTRY HTS fr9
            go_wp2_with fail
            go_at_call 105
            refine HPO.out.mono ?_
            rintro e wf ⟨vf,nf,pf,rfl,hmf2,hnf2,_,hrf,hsf2,hpf,bf2⟩
            have HRF:Hid (RowL w.heap.size wf vf pf):=⟨owns_lo k9.size hrf.1,fun p hp=>owns_lo k9.size (hrf.2 p hp)⟩
            have HSF:=hidden hsf2
            have HPF:Hid (pf.map LC.d=l'):=by show _=_;rw [hpf];exact picks_eq HRL.out HASC.out hmf2 hnf2
            have HKF:Hid (Below w.heap.size w wf):=k9.trans (bf2.mono k9.size)
            clear hrf hsf2 hpf bf2 hmf2 hnf2
            go_wp2_with fail
            go_ret2
            refine ⟨_,pf,?_,HRF.out,HSF.out,?_,HKF.out⟩
            · rw [HSD.out,HWY.out];rfl
            · rw [HSD.out,HWY.out];exact HPF.out
          |none f'=>
            rw [hwy] at hp9
            obtain ⟨rfl,_⟩:=hp9
            have HWY:=hidden hwy
            clear hwy HTRY HTS fr9 cP9
            go_wp2_with fail
            go_ret2
            refine ⟨_,[],?_,⟨World.ownsRow_nil _ _ _ _,fun p hp=>by simp at hp⟩,SepL.nil,?_,k9⟩
            · rw [HSD.out,HWY.out];rfl
            · rw [HSD.out,HWY.out];rfl
          |fuel=>
            rw [hwy] at hp9
            obtain rfl:c9=2:=hp9
            have HWY:=hidden hwy
            clear hwy HTRY HTS fr9 cP9
            go_wp2_with fail
            go_ret2
            refine ⟨_,[],?_,⟨World.ownsRow_nil _ _ _ _,fun p hp=>by simp at hp⟩,SepL.nil,?_,k9⟩
            · rw [HSD.out,HWY.out];rfl
            · rw [HSD.out,HWY.out];rfl
theorem leftW_pos {a:Nat} {left:Int} (h:(a:Int)≤left) (hl:left≤1048576):0≤leftW a left∧leftW a left≤1048576∧a≤1048576:=by
 rw [leftW_good h];omega
theorem insPick_length (l:List PickD) (p:PickD):(insPick l p).length=l.length+1:=insG_length _ _ _
theorem way_len (xs:List EntryD): ∀ (f:Nat) (l:List PickD) (left:List NeedD) (l':List PickD) (f':Nat),way xs f l left=.good l' f'→l'.length+f'≤l.length+f:=by
 intro f
 induction f using Nat.strongRecOn with
 |ind f ih=>
  intro l left l' f' h
  cases hk:skipD l left with
  |bad=>rw [way_bad hk] at h;cases h
  |done=>rw [way_done hk] at h;injection h with h1 h2;subst h1;subst h2;exact Nat.le_refl _
  |opn n r=>
   rw [way_open hk] at h
   obtain ⟨e,he,f1,hf1,h1⟩:=tryAll_good (fun f e f' h=>way_le h) _ _ _ _ h
   have h2:=ih f1 hf1 _ _ l' f' h1
   rw [insPick_length] at h2
   omega
theorem sol_small (xs:List EntryD) (ns:List NeedD) (fu:Int):(∀ p∈(solD xs ns fu).1,wtPick p≤37)∧(solD xs ns fu).1.length≤10000:=by
 cases hf:formB xs ns with
 |false=>rw [sol_form hf];exact ⟨fun p hp=>by simp at hp,by simp⟩
 |true=>
  rw [sol_way hf]
  unfold formB at hf
  rw [Bool.and_eq_true] at hf
  cases hw:way xs (fuelN fu) [] ns with
  |good l f=>
   have h1:=way_inv xs (regB_small hf.1).1 _ _ _ _ _ hw List.Pairwise.nil (fun p hp=>by simp at hp) (fun d hd=>needB_small (List.all_eq_true.1 hf.2 d hd))
   have h2:=way_len xs _ _ _ _ _ hw
   have h3:=fuelN_le fu
   refine ⟨h1.2,?_⟩
   show l.length≤10000
   simp only [List.length_nil] at h2
   omega
  |none f=>exact ⟨fun p hp=>by simp [resD] at hp,by simp [resD]⟩
  |fuel=>exact ⟨fun p hp=>by simp [resD] at hp,by simp [resD]⟩
theorem pickL_small {l:List PickD} (h: ∀ p∈l,wtPick p≤37) (hl:l.length≤10000):wtRow wtPick l≤1048576∧(l.map fun d=>4+d.vP.length).sum≤500000:=by
  have h3 := sum_leP (l.map fun x => 1 + wtPick x) 38 (fun x hx => by
    obtain ⟨y, hy, rfl⟩ := List.mem_map.1 hx
    have := h y hy
    omega)
  have h4 := sum_leP (l.map fun d => 4 + d.vP.length) 41 (fun x hx => by
    obtain ⟨y, hy, rfl⟩ := List.mem_map.1 hx
    have := h y hy
    unfold wtPick bulkS at this
    omega)
  rw [List.length_map] at h3 h4
  refine ⟨?_,by omega⟩
  unfold wtRow
  omega
theorem owns_chg {S:Nat→Prop} {w w':World} {lo sz n:Nat} {e:TypeId} {v:Value} {xs:List Value} (h:w.ownsRow lo e sz v n xs) (k:Chg S w w') (hn: ∀ b,v.ownBlock=some b→¬S b):w'.ownsRow lo e sz v n xs:=by
 refine ⟨h.1,?_⟩
 rcases h.2 with h2|⟨g,cap,cur,rfl,h1,h2,h3⟩
 ·exact .inl h2
 ·exact .inr ⟨g,cap,cur,rfl,h1,(k.block g (Array.getElem?_eq_some_iff.1 h2).1 (hn g rfl)).trans h2,h3⟩
theorem RowL.chg {S:Nat→Prop} {lo:Nat} {w w':World} {v:Value} {ps:List LC} (h:RowL lo w v ps) (k:Chg S w w') (hn: ∀ b,lo≤b→¬S b):RowL lo w' v ps:=
 ⟨owns_chg h.1 k (fun b hb=>hn b (h.1.lt b hb).1),fun p hp=>owns_chg (h.2 p hp) k (fun b hb=>hn b ((h.2 p hp).lt b hb).1)⟩
theorem below_chgS {B:Nat} {S:Nat→Prop} {w W W':World} (h:Below B w W) (k:Chg S W W') (hs: ∀ b,S b→B≤b) (hB:B≤W.heap.size):Below B w W':=
 ⟨k.os.trans h.os,k.tape.trans h.tape,k.output.trans h.output,Nat.le_trans h.size k.size,fun b hb=>(k.block b (Nat.lt_of_lt_of_le hb hB) (fun hS=>by have:=hs b hS;omega)).trans (h.block b hb)⟩
end Go.Proofs.YtlfmefojcmpfeaaGreatDoor
