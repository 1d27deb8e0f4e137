/-
  Contracts for the walks and pure facts, several texts in one: each theorem says what it proves, and under which conditions.
-/
import Derived.Maps.OwnSet
import Derived.Maps.RangeWalk
import Derived.DeepKeys4
import Derived.Test.YtlfmefojcmpfeaaGreatDoorUT
import Derived.Test.YtlfmefojcmpfeaaGreatDoorU19
set_option linter.unusedSimpArgs false
set_option linter.unusedVariables false
set_option maxHeartbeats 16000000
set_option maxRecDepth 100000
namespace Go.Proofs.YtlfmefojcmpfeaaGreatDoor
open Go.RowKit Go.Maps
theorem laidOutE :laidOutB Tryz.prog=true:=by kernel_rfl
theorem lawE :WideMaps.KeyLaw Tryz.prog 113:=deep_law_laid laidOutE (m:=3) (by omega) (of_decide_eq_true (by kernel_rfl)) (by kernel_rfl) (by kernel_rfl)
theorem keyedE :Keyed Tryz.prog 113:=Keyed.of_law lawE
theorem zeroEntry (w:World):(zeroValue 35).run Tryz.prog w=.ok (.agg #[.string ⟨#[]⟩,.int .i64 0,.int .i64 0,.int .i64 0,.slice none 0 0,.slice none 0 0]) w:=by kernel_rfl
structure KeyE where
 n:ByteArray
 a:Int
 b:Int
 c:Int
 p:ByteArray
def KeyE.val (k:KeyE):Value:=.agg #[.string k.n,.int .i64 k.a,.int .i64 k.b,.int .i64 k.c,.string k.p]
def KeyE.ok (k:KeyE):Prop:=k.n.size≤maxLen∧(Lit.int .i64 k.a).wf=true∧(Lit.int .i64 k.b).wf=true∧(Lit.int .i64 k.c).wf=true∧k.p.size≤maxLen
def KeyE.lit (k:KeyE):Lit:=.string (keyBytes [.string k.n.data.toList,.int .i64 k.a,.int .i64 k.b,.int .i64 k.c,.string k.p.data.toList])
theorem lits_string {d:Nat} {s:ByteArray} (h:s.size≤maxLen):Tryz.prog.keyLits (d+1) 9 [.string s]=some [.string s.data.toList]:=by
 simp [Program.keyLits,Tryz.underlying9,h]
theorem lits_int {d:Nat} {a:Int} (h:(Lit.int .i64 a).wf=true):Tryz.prog.keyLits (d+1) 3 [.int .i64 a]=some [.int .i64 a]:=by
 simp [Program.keyLits,Tryz.underlying3,h]
theorem lits_ekey {d:Nat} {n p:ByteArray} {a b c:Int} (h1:n.size≤maxLen) (h2:(Lit.int .i64 a).wf=true) (h3:(Lit.int .i64 b).wf=true) (h4:(Lit.int .i64 c).wf=true) (h5:p.size≤maxLen):
  Tryz.prog.keyLits (d+1+1) 113 [.string n,.int .i64 a,.int .i64 b,.int .i64 c,.string p]=some [.string n.data.toList,.int .i64 a,.int .i64 b,.int .i64 c,.string p.data.toList]:=by
 have e2:Tryz.prog.cellsOf 113=5:=by kernel_rfl
 have e3:Tryz.prog.cellsOf 9=1:=by kernel_rfl
 have e4:Tryz.prog.cellsOf 3=1:=by kernel_rfl
 have l1:=lits_string (d:=d) h1
 have l2:=lits_int (d:=d) h2
 have l3:=lits_int (d:=d) h3
 have l4:=lits_int (d:=d) h4
 have l5:=lits_string (d:=d) h5
 clear h1 h2 h3 h4 h5
 rw [Program.keyLits.eq_def]
 simp only [Tryz.underlying113,e2,List.length_cons,List.length_nil]
 rw [if_pos ⟨by trivial,by kernel_rfl⟩]
 simp only [List.mapM_cons,List.mapM_nil,List.drop_zero,List.drop_succ_cons,List.take_succ_cons,List.take_zero,e3,e4,l1,l2,l3,l4,l5,Option.bind_eq_bind,Option.bind_some,Option.pure_def,Option.map_some,List.flatten_cons,List.flatten_nil,List.cons_append,List.nil_append]
theorem KeyE.key {k:KeyE} (h:k.ok):keyOf Tryz.prog 113 k.val=some k.lit:=by
 have e1:Tryz.prog.keyType 113=true:=by kernel_rfl
 have e5: ∃ m,Tryz.prog.types.size=m+1:=⟨Tryz.prog.types.size-1,by have:0<Tryz.prog.types.size:=of_decide_eq_true (by kernel_rfl);omega⟩
 have e6: ∀ c0 c1 c2 c3 c4,(Value.agg #[c0,c1,c2,c3,c4]).formed Tryz.prog 113=true:=fun c0 c1 c2 c3 c4=>by
  have e2:Tryz.prog.cellsOf 113=5:=by kernel_rfl
  simp [Value.formed,Tryz.underlying113,e2]
 obtain ⟨m,hm⟩:=e5
 have hl:=lits_ekey (d:=m) h.1 h.2.1 h.2.2.1 h.2.2.2.1 h.2.2.2.2
 unfold keyOf
 rw [Tryz.underlying113,hm]
 simp only
 rw [if_pos (by rw [e1,KeyE.val,e6];rfl)]
 show Option.map _ (Tryz.prog.keyLits (m+1+1) 113 [.string k.n,.int .i64 k.a,.int .i64 k.b,.int .i64 k.c,.string k.p])=_
 rw [hl]
 rfl
theorem KeyE.inj {k k':KeyE} (h:k.ok) (h':k'.ok) (e:k.lit=k'.lit):k=k':=by
 have h1:=KeyE.key h
 have h2:=KeyE.key h'
 rw [e] at h1
 have h3:=lawE.inj h1 h2
 obtain ⟨n,a,b,c,p⟩:=k
 obtain ⟨n',a',b',c',p'⟩:=k'
 simp [KeyE.val] at h3
 obtain ⟨rfl,rfl,rfl,rfl,rfl⟩:=h3
 rfl
def selfElem (v:Value):Option (DataW Value × List MemPlace):=some (.held v,[])
def MapE (w:World) (b n:Nat) (m:KeyE→Option Value):Prop:=
 ∃ D:DataW Value,w.ownsMap Tryz.prog 113 selfElem b n D∧∀ k:KeyE,k.ok→Maps.has D k.lit=(m k).isSome∧∀ v,m k=some v→∀ z,D.atKey k.lit z=.held v
theorem MapE.lt {w:World} {b n:Nat} {m:KeyE→Option Value} (h:MapE w b n m):b<w.heap.size:=by obtain ⟨D,h,_⟩:=h;exact h.lt
theorem MapE.drew {w:World} {b n:Nat} {m:KeyE→Option Value} (h:MapE w b n m):MapE w.drew b n m:=by obtain ⟨D,h,h2⟩:=h;exact ⟨D,h.drew,h2⟩
theorem MapE.below {w w':World} {b n:Nat} {m:KeyE→Option Value} (h:MapE w b n m) (hb:Below w.heap.size w w'):MapE w' b n m:=by obtain ⟨D,h,h2⟩:=h;exact ⟨D,h.kept (grown_of_below hb none) (by simp),h2⟩
theorem MapE.mono {w:World} {b n n':Nat} {m:KeyE→Option Value} (h:MapE w b n m) (hn:n≤n'):MapE w b n' m:=by obtain ⟨D,h,h2⟩:=h;exact ⟨D,h.mono hn,h2⟩
theorem MapE.same {w:World} {b n:Nat} {m m':KeyE→Option Value} (h:MapE w b n m) (e: ∀ k,k.ok→m' k=m k):MapE w b n m':=by
 obtain ⟨D,h,h2⟩:=h
 exact ⟨D,h,fun k hk=>by rw [e k hk];exact h2 k hk⟩
def zeroE :Value:=.agg #[.string ⟨#[]⟩,.int .i64 0,.int .i64 0,.int .i64 0,.slice none 0 0,.slice none 0 0]
theorem MapE.look {w:World} {b n:Nat} {m:KeyE→Option Value} (h:MapE w b n m) {k:KeyE} (hk:k.ok):(Instr.lookup 110 (.map (some b)) k.val true).run Tryz.prog w=.ok (.tuple #[(m k).getD zeroE,.bool (m k).isSome]) w:=by
 obtain ⟨D,h,h2⟩:=h
 obtain ⟨v,ps,hrun,hv⟩:=h.look_ok keyedE Tryz.underlying110 (zeroEntry w) (zd:=.held zeroE) (zp:=[]) rfl (KeyE.key hk)
 rw [hrun]
 obtain ⟨h3,h4⟩:=h2 k hk
 rw [h3]
 simp only [selfElem,Option.some.injEq,Prod.mk.injEq] at hv
 cases hm:m k with
 |none=>
  rw [hm] at h3
  rw [Maps.atKey_of_not_has h3] at hv
  have:=hv.1
  simp only [DataW.held.injEq] at this
  rw [this]
  rfl
 |some x=>
  rw [h4 x hm] at hv
  have:=hv.1
  simp only [DataW.held.injEq] at this
  rw [this]
  rfl
end Go.Proofs.YtlfmefojcmpfeaaGreatDoor
namespace Go.Proofs.YtlfmefojcmpfeaaGreatDoor
open Go.RowKit
def MapL (w:World) (b:Nat) (k:KeyE) (r:Value):Prop:=∃ n m,MapE w b n m∧Value.tuple #[(m k).getD zeroE,.bool (m k).isSome]=r
theorem MapL.below {w w':World} {b:Nat} {k:KeyE} {r:Value} (h:MapL w b k r) (hb:Below w.heap.size w w'):MapL w' b k r:=by obtain ⟨n,m,h1,h2⟩:=h;exact ⟨n,m,h1.below hb,h2⟩
theorem MapL.look {w:World} {b:Nat} {k:KeyE} {r:Value} (h:MapL w b k r) (hk:k.ok):(Instr.lookup 110 (.map (some b)) k.val true).run Tryz.prog w=.ok r w:=by
 obtain ⟨n,m,h1,h2⟩:=h
 rw [h1.look hk,h2]
def zeroP :PickD:=⟨⟨#[]⟩,0,0,0,[]⟩
def firstP (xs:List PickD) (n:ByteArray):Option Nat:=xs.findIdx? fun d=>decide (d.name=n)
def atP (xs:List PickD) (o:Option Nat):PickD:=(o.bind (xs[·]?)).getD zeroP
theorem firstP_at {xs:List PickD} {n:ByteArray} {k:Nat} (h:k<xs.length) (hy:xs[k].name=n) (hn: ∀ j (hj:j<xs.length),j<k→¬xs[j].name=n):firstP xs n=some k:=by
 unfold firstP
 rw [List.findIdx?_eq_some_iff_getElem]
 exact ⟨h,by simpa using hy,fun j hj=>by simpa using hn j (by omega) hj⟩
theorem firstP_none {xs:List PickD} {n:ByteArray} (hn: ∀ j (hj:j<xs.length),¬xs[j].name=n):firstP xs n=none:=by
 unfold firstP
 rw [List.findIdx?_eq_none_iff]
 intro x hx
 obtain ⟨j,hj,rfl⟩:=List.mem_iff_getElem.1 hx
 simpa using hn j hj
def PickR (w1 w':World) (e:Ending) (D:PickD) (is:Bool):Prop:=∃ u',e=.returned (.tuple #[.agg #[.int .i64 D.vA,.int .i64 D.vB,.int .i64 D.vC,u'],.bool is])∧w'.ownsRow w1.heap.size 9 1 u' D.vP.length (strsV D.vP)∧Below w1.heap.size w1 w'
theorem specPick_c (S:Nat→Prop) (v:Value) (xs:List PickD) (n:ByteArray) (w:World) (hv:RowIn shPickO S w v xs) (hB: ∀ b,S b→b<w.heap.size) (hw:wtRow wtPick xs≤1048576):
  Calls Tryz.prog 32 #[v,.string n] w fun e w'=>PickR w w' e (atP xs (firstP xs n)) (firstP xs n).isSome:=by
 have hbx:Below w.heap.size w (w.alloc (.cells #[.int .i64 0,.int .i64 0,.int .i64 0,.slice none 0 0] 30 (0,0))):=(Below.refl _ _).alloc (Nat.le_refl _) _
 have hwe: ∀ d∈xs,wtPick d≤1048576:=fun d hd=>Nat.le_trans (wt_wtRow wtPick hd) hw
 obtain ⟨av,cv,rfl,hl,hc,ha⟩:=hv
 unfold maxLen at hl
 obtain ⟨R,hR⟩: ∃ R,R=firstP xs n:=⟨_,rfl⟩
 rw [←hR]
 have HR:Hid (R=firstP xs n):=hR
 have hRz:(w.alloc (.cells #[.int .i64 0,.int .i64 0,.int .i64 0,.slice none 0 0] 30 (0,0))).heap[w.heap.size]?=some (.cells #[.int .i64 0,.int .i64 0,.int .i64 0,.slice none 0 0] 30 (0,0)):=vheap_new _ _
 have hsz:(w.alloc (.cells #[.int .i64 0,.int .i64 0,.int .i64 0,.slice none 0 0] 30 (0,0))).heap.size=w.heap.size+1:=by simp
 clear hR
 go_enter Tryz.func32,Tryz.ntmps32
 go_wp2_with fail
 obtain ⟨wz,hW⟩: ∃ wz,wz=w.alloc (.cells #[.int .i64 0,.int .i64 0,.int .i64 0,.slice none 0 0] 30 (0,0)):=⟨_,rfl⟩
 rw [←hW] at hRz hbx hsz
 rw [←hW]
 clear hW
 go_loopw [6] (fun vi wr=>∃ k:Nat,k≤xs.length∧vi=.int .i64 (k:Int)∧Hid (∀ j (hj:j<xs.length),j<k→¬xs[j].name=n)∧wr=wz) (fun vi _=>xs.length-(intOf vi).toNat)
 case atStart=>exact ⟨0,Nat.zero_le _,rfl,(fun j hj h=>by omega),rfl⟩
 case round=>
  obtain ⟨k,hk,rfl,hno,rfl⟩:=hrel
  by_cases hlt':k<xs.length
  ·rcases ha with rfl|⟨b,off,rfl,hlt,ha⟩
   ·simp at hlt'
   obtain ⟨cs,hL,hcell⟩:=ha k hlt'
   have hcell2:=hcell.keep (.of hbx hB) hlt
   replace hL:=shPickO.keep (.of hbx hB) hL
   have hwk:=hwe xs[k] (List.getElem_mem hlt')
   have HT:Hid (xs[k].name=n→R=some k∧atP xs (some k)=xs[k]):=fun h=>⟨HR.out.trans (firstP_at hlt' h hno.out),by simp [atP,hlt']⟩
   have HN:Hid (¬xs[k].name=n→∀ j (hj:j<xs.length),j<k+1→¬xs[j].name=n):=fun h j hj hjk=>by
    by_cases e:j=k
    ·subst e;exact h
    ·exact hno.out j hj (by omega)
   obtain ⟨d,hd⟩: ∃ d,d=xs[k]:=⟨_,rfl⟩
   rw [←hd] at hL HT HN hwk
   obtain ⟨u0,rfl,s_n,r0,p0⟩:=hL
   have hpl:d.vP.length≤1048576:=by unfold wtPick bulkS at hwk;omega
   have HV:=hidden (copy_c d.vA d.vB d.vC u0 d.vP 0 _ r0.1 hpl)
   obtain ⟨a0,cap0,eu0⟩:=r0.slice
   subst eu0
   have e0:wr.cell? ⟨b,off+k*5,none⟩=some (.string d.name):=hcell2 0 (by simp)
   have e1:wr.cell? ⟨b,off+k*5+1,none⟩=some (.int .i64 d.vA):=hcell2 1 (by simp)
   have e2:wr.cell? ⟨b,off+k*5+2,none⟩=some (.int .i64 d.vB):=hcell2 2 (by simp)
   have e3:wr.cell? ⟨b,off+k*5+3,none⟩=some (.int .i64 d.vC):=hcell2 3 (by simp)
   have e4:wr.cell? ⟨b,off+k*5+4,none⟩=some (.slice a0 d.vP.length cap0):=hcell2 4 (by simp)
   have hki:(k:Int)<(xs.length:Int):=by omega
   have hal:=name_alike d.name n
   clear ha hd hcell hcell2 hno HR r0
   by_cases hts:d.name=n
   ·have hq:(d.name.toList == n.toList)=true:=by rw [hal];simpa using hts
    have HT2:=hidden (HT.out hts)
    clear HT HN hts hal
    go_wp2_with fail
    go_at_call 78
    refine HV.out.mono ?_
    rintro e w1 ⟨u',rfl,ho,b1⟩
    have hR1:=box_below hRz b1
    have y0:=vblk_cell hR1 0
    have y1:=vblk_cell hR1 1
    have y2:=vblk_cell hR1 2
    have y3:=vblk_cell hR1 3
    have fy:=vblk_frozen hR1
    simp only [List.getElem?_toArray,List.getElem?_cons_succ,List.getElem?_cons_zero] at y0 y1 y2 y3
    have kb:=hbx.trans (b1.mono hbx.size)
    obtain ⟨qv,cv2,ev⟩:=owns_sliceP ho
    subst ev
    have HO:=hidden (And.intro (owns_lo hbx.size ho) (And.intro hR1 kb))
    clear ho hR1 b1
    go_wp2_with fail
    refine bodyPost_ret (v:=.tuple #[.agg #[.int .i64 d.vA,.int .i64 d.vB,.int .i64 d.vC,.slice qv d.vP.length cv2],.bool true]) (by simp [results,Tryz.results32,go_sem,y0,y1,y2,y3]) rfl ?_
    obtain ⟨ho,hR1,_⟩:=HO.out
    have hg:=row_box ho hR1 (by decide)
    refine ⟨_,by rw [HT2.out.1,HT2.out.2];rfl,?_,?_⟩
    ·rw [HT2.out.1,HT2.out.2]
     exact owns_kept (S:=fun b=>b≠w.heap.size) ((((Kp.set (by simp)).trans (Kp.set (by simp))).trans (Kp.set (by simp))).trans (Kp.set (by simp))) (fun g hg2=>by rintro rfl;exact hg hg2) ho
    ·exact Below.setCell (Below.setCell (Below.setCell (Below.setCell kb (Nat.le_refl _) _) (Nat.le_refl _) _) (Nat.le_refl _) _) (Nat.le_refl _) _
   ·have hq:(d.name.toList == n.toList)=false:=by rw [hal];simpa using hts
    have HN2:=hidden (HN.out hts)
    clear HT HN hts hal
    go_wp2_with fail
    go_roundw
    case rel=>exact ⟨k+1,by omega,by go_num,HN2.out,by first|exact True.intro|rfl⟩
    case measure=>simp [intOf];omega
  ·have he:k=xs.length:=by omega
   subst he
   have HE:Hid (R=none):=HR.out.trans (firstP_none (fun j hj=>hno.out j hj hj))
   have y0:=vblk_cell hRz 0
   have y1:=vblk_cell hRz 1
   have y2:=vblk_cell hRz 2
   have y3:=vblk_cell hRz 3
   have fy:=vblk_frozen hRz
   simp only [List.getElem?_toArray,List.getElem?_cons_succ,List.getElem?_cons_zero] at y0 y1 y2 y3
   clear ha hno HR
   go_wp2_with fail
   refine bodyPost_ret (v:=.tuple #[.agg #[.int .i64 0,.int .i64 0,.int .i64 0,.slice none 0 0],.bool false]) (by simp [results,Tryz.results32,go_sem,y0,y1,y2,y3]) rfl ?_
   refine ⟨_,by rw [HE.out];rfl,?_,?_⟩
   ·rw [HE.out]
    exact ⟨rfl,.inl ⟨rfl,rfl⟩⟩
   ·exact Below.setCell (Below.setCell (Below.setCell (Below.setCell hbx (Nat.le_refl _) _) (Nat.le_refl _) _) (Nat.le_refl _) _) (Nat.le_refl _) _
def mayP (n:NeedD) (d:PickD):Bool:=mayB n.r d.vA d.vB d.vC d.vP
def met1 (l:List PickD) (n:NeedD):Bool:=(firstP l n.n).isSome&&mayP n (atP l (firstP l n.n))
end Go.Proofs.YtlfmefojcmpfeaaGreatDoor
namespace Go.Proofs.YtlfmefojcmpfeaaGreatDoor
open Go.RowKit Go.Maps
theorem keyedV :Keyed Tryz.prog 9:=string_keyed Tryz.underlying9
theorem zeroVerV (w:World):(zeroValue 30).run Tryz.prog w=.ok (.agg #[.int .i64 0,.int .i64 0,.int .i64 0,.slice none 0 0]) w:=by kernel_rfl
def klV (p:ByteArray):Lit:=.string p.data.toList
theorem klV_inj {p q:ByteArray} (h:klV p=klV q):p=q:=by
 simp only [klV,Lit.string.injEq] at h
 exact ByteArray.ext (Array.toList_inj.1 h)
theorem klV_key (p:ByteArray):WideAt.IsKeyLit (klV p):=trivial
def zeroVV :Value:=.agg #[.int .i64 0,.int .i64 0,.int .i64 0,.slice none 0 0]
def MapV (w:World) (b n s:Nat) (m:ByteArray→Option Value):Prop:=
 ∃ D:DataW Value,w.ownsMap Tryz.prog 9 selfElem b n D∧Maps.size D=s∧∀ p,Maps.has D (klV p)=(m p).isSome∧∀ v,m p=some v→∀ z,D.atKey (klV p) z=.held v
theorem MapV.lt {w:World} {b n s:Nat} {m:ByteArray→Option Value} (h:MapV w b n s m):b<w.heap.size:=by obtain ⟨D,h,_⟩:=h;exact h.lt
theorem MapV.drew {w:World} {b n s:Nat} {m:ByteArray→Option Value} (h:MapV w b n s m):MapV w.drew b n s m:=by obtain ⟨D,h,h2⟩:=h;exact ⟨D,h.drew,h2⟩
theorem MapV.below {w w':World} {b n s:Nat} {m:ByteArray→Option Value} (h:MapV w b n s m) (hb:Below w.heap.size w w'):MapV w' b n s m:=by obtain ⟨D,h,h2⟩:=h;exact ⟨D,h.kept (grown_of_below hb none) (by simp),h2⟩
theorem MapV.kept {w w':World} {b n s:Nat} {m:ByteArray→Option Value} {r:Option Nat} (h:MapV w b n s m) (hb:w.grownBy w' r) (hr:r≠some b):MapV w' b n s m:=by
 obtain ⟨D,h,h2⟩:=h
 exact ⟨D,h.kept hb (by first|exact hr|exact fun e=>hr e.symm|exact .inr hr|exact .inr (fun e=>hr e.symm)),h2⟩
theorem MapV.setCell {w:World} {b n s:Nat} {m:ByteArray→Option Value} (h:MapV w b n s m) {a:Addr} (ha:b≠a.block) (u:Value):MapV (w.setCell a u) b n s m:=by obtain ⟨D,h,h2⟩:=h;exact ⟨D,h.setCell ha u,h2⟩
theorem MapV.mono {w:World} {b n n' s:Nat} {m:ByteArray→Option Value} (h:MapV w b n s m) (hn:n≤n'):MapV w b n' s m:=by obtain ⟨D,h,h2⟩:=h;exact ⟨D,h.mono hn,h2⟩
theorem MapV.same {w:World} {b n s:Nat} {m m':ByteArray→Option Value} (h:MapV w b n s m) (e: ∀ p,m' p=m p):MapV w b n s m':=by have:m'=m:=funext e;rw [this];exact h
theorem MapV_made (w:World):MapV (w.alloc (.map #[] 0)) w.heap.size 0 0 (fun _=>none):=⟨_,World.ownsMap_made w _ _ _,rfl,fun p=>⟨rfl,fun f h=>by cases h⟩⟩
theorem MapV.look {w:World} {b n s:Nat} {m:ByteArray→Option Value} (h:MapV w b n s m) {p:ByteArray} (hp:p.size≤maxLen):(Instr.lookup 131 (.map (some b)) (.string p) true).run Tryz.prog w=.ok (.tuple #[(m p).getD zeroVV,.bool (m p).isSome]) w:=by
 obtain ⟨D,h,_,h2⟩:=h
 obtain ⟨v,ps,hrun,hv⟩:=h.look_ok keyedV Tryz.underlying131 (zeroVerV w) (zd:=.held zeroVV) (zp:=[]) rfl (WideMaps.keyOf_string_mk Tryz.underlying9 hp)
 rw [hrun]
 obtain ⟨h3,h4⟩:=h2 p
 have h3':Maps.has D (.string p.data.toList)=(m p).isSome:=h3
 rw [h3']
 simp only [selfElem,Option.some.injEq,Prod.mk.injEq] at hv
 change DataW.held v=D.atKey (klV p) (DataW.held zeroVV)∧[]=ps at hv
 cases hm:m p with
 |none=>
  rw [hm] at h3
  rw [Maps.atKey_of_not_has h3] at hv
  have:=hv.1
  simp only [DataW.held.injEq] at this
  rw [this]
  rfl
 |some x=>
  rw [h4 x hm] at hv
  have:=hv.1
  simp only [DataW.held.injEq] at this
  rw [this]
  rfl
section
variable (w:World) {ops:Array Oper} {rest:List Oper} {o:Oper} {a:Act} {Q:Exit→Act→World→Prop}
theorem wpList_lookup_V (hg:o.guard=none) (mo x:Operand) (hop:o.op=Op.lookup 131 mo x true) (b n s:Nat) (m:ByteArray→Option Value) (hm:a.eval mo=.map (some b)) (hown:MapV w b n s m) (p:ByteArray) (hx:a.eval x=.string p) (hp:p.size≤maxLen) (r:Value) (hr:Value.tuple #[(m p).getD zeroVV,.bool (m p).isSome]=r)
  (hK:wpList Tryz.prog ops Q rest (a.put o.dst r) w):wpList Tryz.prog ops Q (o::rest) a w:=by
 subst hr
 refine wpList_plain hg fun K' hK'=>?_
 have hrun:=hown.look hp
 unfold Oper.wp
 simp [execOp,hop,hm,hx,hrun,Result.andThen]
 exact hK' _ _ hK
theorem wpList_mapUpdate_V (hg:o.guard=none) (mo x v:Operand) (hop:o.op=Op.mapUpdate 131 mo x v) (b n s:Nat) (m:ByteArray→Option Value) (hm:a.eval mo=.map (some b)) (hown:MapV w b n s m) (hn:n<maxLen) (p:ByteArray) (hx:a.eval x=.string p) (hp:p.size≤maxLen)
  (val:Value) (hv:a.eval v=val) (hK: ∀ w',MapV w' b (n+1) (if (m p).isSome=true then s else s+1) (fun q=>if q=p then some val else m q)→w.grownBy w' (some b)→wpList Tryz.prog ops Q rest (a.put o.dst undef) w'):wpList Tryz.prog ops Q (o::rest) a w:=by
 obtain ⟨D,h,hs,h2⟩:=hown
 refine wpList_mapUpdate_own w hg mo x v 131 hop 9 30 keyedV Tryz.underlying131 selfElem b n D hm h hn _ _ (klV p) hx hv (WideMaps.keyOf_string_mk Tryz.underlying9 hp) (.held val) [] rfl (fun w' h' hg'=>hK w' ⟨_,h',?_,fun q=>?_⟩ hg')
 ·rw [Maps.size_put (h.tidy keyedV),(h2 p).1,hs]
 dsimp only
 by_cases e:q=p
 ·subst e
  rw [if_pos rfl]
  exact ⟨Maps.has_put_same h.isMap (klV_key q) _,fun g hg z=>by rw [Maps.atKey_put_same h.isMap (klV_key q)];cases hg;rfl⟩
 ·have hne:klV q≠klV p:=fun h=>e (klV_inj h)
  rw [if_neg e,Maps.has_put_other hne]
  exact ⟨(h2 q).1,fun g hg z=>by rw [Maps.atKey_put_other hne];exact (h2 q).2 g hg z⟩
end
end Go.Proofs.YtlfmefojcmpfeaaGreatDoor
namespace Go.Proofs.YtlfmefojcmpfeaaGreatDoor
open Go.RowKit
def PickVals (S:Nat→Prop) (w:World) (l:List PickD) (vals:Nat→Value):Prop:=∀ i (h:i<l.length),∃ q c,vals i=.agg #[.int .i64 l[i].vA,.int .i64 l[i].vB,.int .i64 l[i].vC,.slice q l[i].vP.length c]∧RdB S w (.slice q l[i].vP.length c) (strsV l[i].vP)
theorem PickVals.keep {S:Nat→Prop} {w w':World} {l:List PickD} {vals:Nat→Value} (h:PickVals S w l vals) (k:Kp S w w'):PickVals S w' l vals:=fun i hi=>by
 obtain ⟨q,c,h1,h2⟩:=h i hi
 exact ⟨q,c,h1,h2.keep k⟩
theorem szNeed_c (S:Nat→Prop) (d:NeedD) (cs:List Value) (left:Int) (h0:0≤left) (h1:left≤1048576) (w:World) (hd:shNeed.lies S w cs d) (hB: ∀ b,S b→b<w.heap.size):
  Calls Tryz.prog 135 #[.agg cs.toArray,.int .i64 left] w fun e w'=>e=.returned (.int .i64 (leftW (wtNeed d) left))∧Below w.heap.size w w':=by
 obtain ⟨rfl,s_n,s_r⟩:=hd
 unfold maxLen at s_n
 unfold maxLen at s_r
 have hbx: ∀ o,Below w.heap.size w (w.alloc o):=fun o=>(Below.refl _ _).alloc (Nat.le_refl _) _
 obtain ⟨R,hR⟩: ∃ R,R=leftW (wtNeed d) left:=⟨_,rfl⟩
 rw [←hR]
 have lt:=lw (wtNeed d) left
 rw [←hR] at lt
 unfold wtNeed at lt
 clear hR
 by_cases n0:(left-(d.n.size:Int))<0
 ·have HR:Hid (R= -1):=by show _=_;omega
  clear lt
  go_enter Tryz.func135,Tryz.ntmps135
  go_wp2_with fail
  go_ret
  exact ⟨by rw [HR.out];rfl,(hbx _)⟩
 by_cases n1:((left-(d.n.size:Int))-(d.r.size:Int))<0
 ·have HR:Hid (R= -1):=by show _=_;omega
  clear lt
  go_enter Tryz.func135,Tryz.ntmps135
  go_wp2_with fail
  go_ret
  exact ⟨by rw [HR.out];rfl,(hbx _)⟩
 have HR:Hid (R=((left-(d.n.size:Int))-(d.r.size:Int))):=by show _=_;omega
 clear lt
 go_enter Tryz.func135,Tryz.ntmps135
 go_wp2_with fail
 go_ret
 exact ⟨by rw [HR.out];rfl,(hbx _)⟩
theorem szNeedS_c (S:Nat→Prop) (v:Value) (xs:List NeedD) (left:Int) (h0:0≤left) (h1:left≤1048576) (w:World) (hv:RowIn shNeed S w v xs) (hB: ∀ b,S b→b<w.heap.size):
  Calls Tryz.prog 56 #[v,.int .i64 left] w fun e w'=>e=.returned (.int .i64 (leftW (wtRow wtNeed xs) left))∧Below w.heap.size w w':=by
 obtain ⟨a,cap,rfl,hl,hc,ha⟩:=hv
 unfold maxLen at hl
 by_cases hneg:left-(xs.length:Int)<0
 ·have e:leftW (wtRow wtNeed xs) left= -1:=leftW_bad (by have:=len_wtRow wtNeed xs;omega)
  rw [e]
  clear ha
  go_enter Tryz.func56,Tryz.ntmps56
  go_wp2_with fail
  go_ret
  exact ⟨rfl,Below.refl _ _⟩
 ·go_enter Tryz.func56,Tryz.ntmps56
  go_wp2_with fail
  go_loopw [1,5] (fun vl vi wr=>∃ (k:Nat) (q:Int),k≤xs.length∧vi=.int .i64 (k:Int)∧vl=.int .i64 q∧0≤q∧q≤1048576∧Hid (q=left-(xs.length:Int)-(wtRow wtNeed (xs.take k):Int)+(k:Int))∧Below w.heap.size w wr) (fun _ vi _=>xs.length-(intOf vi).toNat)
  case atStart=>exact ⟨0,_,Nat.zero_le _,rfl,rfl,by omega,by omega,by show _=_;simp [wtRow],Below.refl _ _⟩
  case round=>
   obtain ⟨k,q,hk,rfl,rfl,hq0,hq1,hq,hbr⟩:=hrel
   by_cases hlt':k<xs.length
   ·rcases ha with rfl|⟨b,off,rfl,hlt,ha⟩
    ·simp at hlt'
    obtain ⟨cs,hL,hcell⟩:=ha k hlt'
    have hL2:=shNeed.keep (.of hbr hB) hL
    have hcell2:=hcell.keep (.of hbr hB) hlt
    have hBr: ∀ b,S b→b<wr.heap.size:=fun b h=>Nat.lt_of_lt_of_le (hB b h) hbr.size
    have hwt:=wtRow_take wtNeed xs k hlt'
    have hsp:=wtRow_split wtNeed xs (k+1)
    have hln:=len_wtRow wtNeed (xs.drop (k+1))
    have hdl:(xs.drop (k+1)).length=xs.length-(k+1):=by simp
    obtain ⟨d,hd⟩: ∃ d,d=xs[k]:=⟨_,rfl⟩
    rw [←hd] at hL2 hwt
    have HW:Hid (wtRow wtNeed (xs.take (k+1))=wtRow wtNeed (xs.take k)+(1+wtNeed d)):=hwt
    have HSP:Hid (wtRow wtNeed xs=wtRow wtNeed (xs.take (k+1))+wtRow wtNeed (xs.drop (k+1))∧xs.length-(k+1)≤wtRow wtNeed (xs.drop (k+1))):=⟨hsp,by omega⟩
    have hki:(k:Int)<(xs.length:Int):=by omega
    obtain ⟨p,hp⟩: ∃ p,p=leftW (wtNeed d) q:=⟨_,rfl⟩
    have HP:Hid (p=leftW (wtNeed d) q):=hp
    have HC:=szNeed_c S d cs q hq0 hq1 wr hL2 hBr
    rw [←hp] at HC
    clear hL hcell ha hwt hd hp hsp hln hdl
    obtain ⟨rfl,s_n,s_r⟩:=hL2
    clear s_n s_r
    have e0:wr.cell? ⟨b,off+k*2,none⟩=some (.string d.n):=hcell2 0 (by simp)
    have e1:wr.cell? ⟨b,off+k*2+1,none⟩=some (.string d.r):=hcell2 1 (by simp)
    have HC2:=hidden HC
    clear hcell2 HC
    by_cases hpn:p<0
    ·go_wp2_with (go_at_call 135;refine HC2.out.mono ?_;rintro e w1 ⟨rfl,hb1⟩)
     go_ret
     have e:leftW (wtRow wtNeed xs) left= -1:=by
      have h2:=HP.out;have h3:=hq.out;have h4:=HW.out;have h5:=HSP.out
      refine leftW_bad ?_
      by_cases h6:((wtNeed d:Nat):Int)≤q
      ·rw [leftW_good h6] at h2;omega
      ·omega
     exact ⟨by rw [e];rfl,hbr.trans (hb1.mono hbr.size)⟩
    ·go_wp2_with (go_at_call 135;refine HC2.out.mono ?_;rintro e w1 ⟨rfl,hb1⟩)
     go_roundw
     case rel=>
      have h2:=HP.out;have h3:=hq.out;have h4:=HW.out
      have h6:((wtNeed d:Nat):Int)≤q:=by
       by_cases h6:((wtNeed d:Nat):Int)≤q
       ·exact h6
       ·rw [leftW_bad (by omega)] at h2;omega
      rw [leftW_good h6] at h2
      exact ⟨k+1,p,by omega,by go_num,rfl,by omega,by omega,(by show _=_;omega),hbr.trans (hb1.mono hbr.size)⟩
     case measure=>simp [intOf];omega
   ·have he:k=xs.length:=by omega
    subst he
    clear ha
    go_wp2_with fail
    go_ret
    have e:leftW (wtRow wtNeed xs) left=q:=by
     have h3:=hq.out
     rw [List.take_length] at h3
     rw [leftW_good (by omega)];omega
    exact ⟨by rw [e];rfl,hbr⟩
def EntRows (w:World) (S:Nat→Prop) (ys:List Value) (xs:List EntryD):Prop:=∀ i (h:i<xs.length),∃ u0 u1 z0 z1,ys[i*6+4]?=some u0∧ys[i*6+5]?=some u1∧w.ownsRow 0 9 1 u0 xs[i].vP.length z0∧(∀ g,u0.ownBlock=some g→S g)∧w.ownsRow 0 39 2 u1 xs[i].needs.length z1∧∀ g,u1.ownBlock=some g→S g
theorem EntRows.set {w:World} {S:Nat→Prop} {ys:List Value} {xs:List EntryD} (h:EntRows w S ys xs) (i r:Nat) (hr:r<4) (v:Value):EntRows w S (ys.set (i*6+r) v) xs:=fun j hj=>by
 obtain ⟨u0,u1,z0,z1,h1,h2,h3⟩:=h j hj
 exact ⟨u0,u1,z0,z1,by rw [List.getElem?_set_ne (by omega)];exact h1,by rw [List.getElem?_set_ne (by omega)];exact h2,h3⟩
theorem EntRows.below {w w':World} {S:Nat→Prop} {ys:List Value} {xs:List EntryD} (h:EntRows w S ys xs) (hb:Below w.heap.size w w'):EntRows w' S ys xs:=fun j hj=>by
 obtain ⟨u0,u1,z0,z1,h1,h2,h3,h4,h5,h6⟩:=h j hj
 exact ⟨u0,u1,z0,z1,h1,h2,owns_kept (S:=fun b=>b<w.heap.size) (.of hb (fun b h=>h)) (fun g h=>(owns_in h3 g h).2) h3,h4,owns_kept (S:=fun b=>b<w.heap.size) (.of hb (fun b h=>h)) (fun g h=>(owns_in h5 g h).2) h5,h6⟩
theorem own_put {w:World} {lo lo' sz sz' n n' g j cap:Nat} {e e':TypeId} {u x:Value} {zs ys:List Value} (h:w.ownsRow lo e sz u n zs) (hg:w.ownsRow lo' e' sz' (.slice (some ⟨g,0,none⟩) n' cap) n' ys) (hne:e≠e'):(w.setCell ⟨g,j,none⟩ x).ownsRow lo e sz u n zs:=by
 refine owns_kept (S:=fun b=>b≠g) (Kp.set (fun k=>k rfl)) (fun g' hg'=>?_) h
 rintro rfl
 rcases owns_apart h hg hne with k|k
 ·rw [k] at hg';cases hg'
 ·exact k (by rw [hg'];rfl)
theorem flatL_set (qs:List LC) (i:Nat) (h:i<qs.length) (q:LC) (hu:q.u0=qs[i].u0):((((flatL qs).set (i*5+0) (.string q.d.name)).set (i*5+1) (.int .i64 q.d.vA)).set (i*5+2) (.int .i64 q.d.vB)).set (i*5+3) (.int .i64 q.d.vC)=flatL (qs.set i q):=by
 apply List.ext_getElem?
 intro m
 have hl:=flatL_length qs
 by_cases hm:m<qs.length*5
 ·obtain ⟨a,r,rfl,hr⟩: ∃ a r,m=a*5+r∧r<5:=⟨m / 5,m % 5,by omega,Nat.mod_lt _ (by omega)⟩
  have ha:a<qs.length:=by omega
  rw [flatL_at _ _ (by simpa using ha) _ hr]
  by_cases hia:i=a
  ·subst hia
   simp only [List.getElem_set_self]
   match r,hr with
   |0,_=>rw [List.getElem?_set_ne (by omega),List.getElem?_set_ne (by omega),List.getElem?_set_ne (by omega),List.getElem?_set_self (by rw [hl];omega)];rfl
   |1,_=>rw [List.getElem?_set_ne (by omega),List.getElem?_set_ne (by omega),List.getElem?_set_self (by simp;rw [hl];omega)];rfl
   |2,_=>rw [List.getElem?_set_ne (by omega),List.getElem?_set_self (by simp;rw [hl];omega)];rfl
   |3,_=>rw [List.getElem?_set_self (by simp;rw [hl];omega)];rfl
   |4,_=>rw [List.getElem?_set_ne (by omega),List.getElem?_set_ne (by omega),List.getElem?_set_ne (by omega),List.getElem?_set_ne (by omega),flatL_at _ _ ha _ (by omega)];show some _=some _;rw [hu]
  ·rw [List.getElem?_set_ne (by omega),List.getElem?_set_ne (by omega),List.getElem?_set_ne (by omega),List.getElem?_set_ne (by omega),flatL_at _ _ ha _ hr]
   simp [List.getElem_set,hia]
 ·rw [List.getElem?_eq_none (by simp;rw [hl];omega),List.getElem?_eq_none (by rw [flatL_length];simp;omega)]
theorem RowL.mark {lo g n cap:Nat} {w w2:World} {qs:List LC} {i:Nat} (h:RowL lo w (.slice (some ⟨g,0,none⟩) n cap) qs) (hn:n=qs.length) (hi:i<qs.length) (hsep:SepL qs) (q:LC) (hu:q.u0=qs[i].u0)
  (hg:((((w.setCell ⟨g,i*5+0,none⟩ (.string q.d.name)).setCell ⟨g,i*5+1,none⟩ (.int .i64 q.d.vA)).setCell ⟨g,i*5+2,none⟩ (.int .i64 q.d.vB)).setCell ⟨g,i*5+3,none⟩ (.int .i64 q.d.vC)).grownBy w2 qs[i].u0.ownBlock)
  (ho:w2.ownsRow lo 9 1 q.u0 q.d.vP.length (strsV q.d.vP)):RowL lo w2 (.slice (some ⟨g,0,none⟩) n cap) (qs.set i q):=by
 subst hn
 obtain ⟨h1,h2⟩:=h
 have s0:=h1.stored (i*5+0) (.string q.d.name)
 have s1:=s0.1.stored (i*5+1) (.int .i64 q.d.vA)
 have s2:=s1.1.stored (i*5+2) (.int .i64 q.d.vB)
 have s3:=s2.1.stored (i*5+3) (.int .i64 q.d.vC)
 have hat: ∀ p∈qs,((((w.setCell ⟨g,i*5+0,none⟩ (.string q.d.name)).setCell ⟨g,i*5+1,none⟩ (.int .i64 q.d.vA)).setCell ⟨g,i*5+2,none⟩ (.int .i64 q.d.vB)).setCell ⟨g,i*5+3,none⟩ (.int .i64 q.d.vC)).ownsRow lo 9 1 p.u0 p.d.vP.length (strsV p.d.vP):=fun p hp=>
  own_put (own_put (own_put (own_put (h2 p hp) h1 (by decide)) s0.1 (by decide)) s1.1 (by decide)) s2.1 (by decide)
 refine ⟨?_,fun p hp=>?_⟩
 ·rw [List.length_set, ←flatL_set qs i hi q hu]
  exact s3.1.kept hg (owns_apart s3.1 (hat _ (List.getElem_mem hi)) (by decide))
 ·obtain ⟨j,hj,rfl⟩:=List.mem_iff_getElem.1 hp
  have hj2:j<qs.length:=by simpa using hj
  by_cases e:i=j
  ·subst e
   rw [List.getElem_set_self]
   exact ho
  ·rw [List.getElem_set_ne e]
   have h8:=hat _ (List.getElem_mem hj2)
   refine h8.kept hg ?_
   cases hx:qs[j].u0.ownBlock with
   |none=>exact .inl rfl
   |some x=>
    refine .inr (fun hy=>?_)
    exact hsep j i hj2 hi (fun e2=>e e2.symm) x hx hy.symm
theorem sum_leP (l:List Nat) (k:Nat) (h: ∀ x∈l,x≤k):l.sum≤l.length*k:=by
 induction l with
 |nil=>simp
 |cons a r ih=>
  have h1:=h a (by simp)
  have h2:=ih (fun x hx=>h x (by simp [hx]))
  simp only [List.sum_cons,List.length_cons]
  have e:(r.length+1)*k=r.length*k+k:=by rw [Nat.add_mul,Nat.one_mul]
  omega
theorem szEntry_c (S:Nat→Prop) (d:EntryD) (cs:List Value) (left:Int) (h0:0≤left) (h1:left≤1048576) (w:World) (hd:shEntry.lies S w cs d) (hB: ∀ b,S b→b<w.heap.size):
  Calls Tryz.prog 134 #[.agg cs.toArray,.int .i64 left] w fun e w'=>e=.returned (.int .i64 (leftW (wtEntry d) left))∧Below w.heap.size w w':=by
 obtain ⟨u0,u1,rfl,s_name,r0,p0,r1⟩:=hd
 unfold maxLen at s_name
 have hbx: ∀ o,Below w.heap.size w (w.alloc o):=fun o=>(Below.refl _ _).alloc (Nat.le_refl _) _
 obtain ⟨R,hR⟩: ∃ R,R=leftW (wtEntry d) left:=⟨_,rfl⟩
 rw [←hR]
 obtain ⟨q0,hq0⟩: ∃ q,q=leftW (bulkS d.vP) (left-(d.name.size:Int)):=⟨_,rfl⟩
 obtain ⟨q1,hq1⟩: ∃ q,q=leftW (wtRow wtNeed d.needs) q0:=⟨_,rfl⟩
 have HS0:Hid (0≤(left-(d.name.size:Int))→(left-(d.name.size:Int))≤1048576→∀ w1,Below w.heap.size w w1→Calls Tryz.prog 203 #[.agg #[.int .i64 d.vA,.int .i64 d.vB,.int .i64 d.vC,u0],.int .i64 (left-(d.name.size:Int))] w1 fun e w'=>e=.returned (.int .i64 q0)∧Below w1.heap.size w1 w'):=fun a b w1 hb=>by
  rw [hq0];exact szVer_c _ _ _ u0 d.vP _ a b w1 ((r0.keep (.of hb hB)).reads (fun b h=>Nat.lt_of_lt_of_le (hB b h) hb.size)) p0
 have HS1:Hid (0≤q0→q0≤1048576→∀ w1,Below w.heap.size w w1→Calls Tryz.prog 56 #[u1,.int .i64 q0] w1 fun e w'=>e=.returned (.int .i64 q1)∧Below w1.heap.size w1 w'):=fun a b w1 hb=>by
  rw [hq1];exact szNeedS_c S u1 d.needs _ a b w1 (r1.keep (.of hb hB)) (fun b h=>Nat.lt_of_lt_of_le (hB b h) hb.size)
 obtain ⟨a0,cap0,eu0,_⟩:=id r0
 rw [length_strsV] at eu0
 subst eu0
 clear r0
 obtain ⟨a1,cap1,eu1,_⟩:=id r1
 subst eu1
 clear r1
 have lt:=lw (wtEntry d) left
 have l0:=lw (bulkS d.vP) (left-(d.name.size:Int))
 rw [←hq0] at l0
 have l1:=lw (wtRow wtNeed d.needs) q0
 rw [←hq1] at l1
 rw [←hR] at lt
 unfold wtEntry at lt
 clear hq0 hq1 hR
 by_cases n0:(left-(d.name.size:Int))<0
 ·have HR:Hid (R= -1):=by show _=_;omega
  clear lt l0 l1
  clear HS0
  clear HS1
  go_enter Tryz.func134,Tryz.ntmps134
  go_wp2_with fail
  go_ret
  exact ⟨by rw [HR.out];rfl,(hbx _)⟩
 by_cases n1:q0<0
 ·have HR:Hid (R= -1):=by show _=_;omega
  have g0a:0≤(left-(d.name.size:Int)):=by omega
  have g0b:(left-(d.name.size:Int))≤1048576:=by omega
  have HC0:=HS0.out g0a g0b
  have HD0:=hidden HC0
  clear HC0
  clear lt l0 l1
  clear HS0
  clear HS1
  go_enter Tryz.func134,Tryz.ntmps134
  go_wp2_with fail
  go_at_call 203
  refine (HD0.out _ (hbx _)).mono ?_
  rintro e w1 ⟨rfl,b1⟩
  have k1:Below w.heap.size w w1:=((hbx _)).trans (b1.mono (by first|exact ((hbx _)).size|(simp;omega)))
  have hx1:=boxAt b1
  have x0:=vblk_cell hx1 0
  have x1:=vblk_cell hx1 1
  have x2:=vblk_cell hx1 2
  have x3:=vblk_cell hx1 3
  have x4:=vblk_cell hx1 4
  have x5:=vblk_cell hx1 5
  simp only [List.getElem?_toArray,List.getElem?_cons_succ,List.getElem?_cons_zero] at x0 x1 x2 x3 x4 x5
  go_wp2_with fail
  go_ret
  exact ⟨by rw [HR.out];rfl,k1⟩
 by_cases n2:q1<0
 ·have HR:Hid (R= -1):=by show _=_;omega
  have g0a:0≤(left-(d.name.size:Int)):=by omega
  have g0b:(left-(d.name.size:Int))≤1048576:=by omega
  have g1a:0≤q0:=by omega
  have g1b:q0≤1048576:=by omega
  have HC0:=HS0.out g0a g0b
  have HD0:=hidden HC0
  clear HC0
  have HC1:=HS1.out g1a g1b
  have HD1:=hidden HC1
  clear HC1
  clear lt l0 l1
  clear HS0
  clear HS1
  go_enter Tryz.func134,Tryz.ntmps134
  go_wp2_with fail
  go_at_call 203
  refine (HD0.out _ (hbx _)).mono ?_
  rintro e w1 ⟨rfl,b1⟩
  have k1:Below w.heap.size w w1:=((hbx _)).trans (b1.mono (by first|exact ((hbx _)).size|(simp;omega)))
  have hx1:=boxAt b1
  have x0:=vblk_cell hx1 0
  have x1:=vblk_cell hx1 1
  have x2:=vblk_cell hx1 2
  have x3:=vblk_cell hx1 3
  have x4:=vblk_cell hx1 4
  have x5:=vblk_cell hx1 5
  simp only [List.getElem?_toArray,List.getElem?_cons_succ,List.getElem?_cons_zero] at x0 x1 x2 x3 x4 x5
  go_wp2_with fail
  go_at_call 56
  refine (HD1.out _ k1).mono ?_
  rintro e w2 ⟨rfl,b2⟩
  have k2:Below w.heap.size w w2:=(k1).trans (b2.mono (by first|exact (k1).size|(simp;omega)))
  have hx2:=(b2.block _ (Array.getElem?_eq_some_iff.1 hx1).1).trans hx1
  have x0:=vblk_cell hx2 0
  have x1:=vblk_cell hx2 1
  have x2:=vblk_cell hx2 2
  have x3:=vblk_cell hx2 3
  have x4:=vblk_cell hx2 4
  have x5:=vblk_cell hx2 5
  simp only [List.getElem?_toArray,List.getElem?_cons_succ,List.getElem?_cons_zero] at x0 x1 x2 x3 x4 x5
  go_wp2_with fail
  go_ret
  exact ⟨by rw [HR.out];rfl,k2⟩
 have HR:Hid (R=q1):=by show _=_;omega
 have g0a:0≤(left-(d.name.size:Int)):=by omega
 have g0b:(left-(d.name.size:Int))≤1048576:=by omega
 have g1a:0≤q0:=by omega
 have g1b:q0≤1048576:=by omega
 have HC0:=HS0.out g0a g0b
 have HD0:=hidden HC0
 clear HC0
 have HC1:=HS1.out g1a g1b
 have HD1:=hidden HC1
 clear HC1
 clear lt l0 l1
 clear HS0
 clear HS1
 go_enter Tryz.func134,Tryz.ntmps134
 go_wp2_with fail
 go_at_call 203
 refine (HD0.out _ (hbx _)).mono ?_
 rintro e w1 ⟨rfl,b1⟩
 have k1:Below w.heap.size w w1:=((hbx _)).trans (b1.mono (by first|exact ((hbx _)).size|(simp;omega)))
 have hx1:=boxAt b1
 have x0:=vblk_cell hx1 0
 have x1:=vblk_cell hx1 1
 have x2:=vblk_cell hx1 2
 have x3:=vblk_cell hx1 3
 have x4:=vblk_cell hx1 4
 have x5:=vblk_cell hx1 5
 simp only [List.getElem?_toArray,List.getElem?_cons_succ,List.getElem?_cons_zero] at x0 x1 x2 x3 x4 x5
 go_wp2_with fail
 go_at_call 56
 refine (HD1.out _ k1).mono ?_
 rintro e w2 ⟨rfl,b2⟩
 have k2:Below w.heap.size w w2:=(k1).trans (b2.mono (by first|exact (k1).size|(simp;omega)))
 have hx2:=(b2.block _ (Array.getElem?_eq_some_iff.1 hx1).1).trans hx1
 have x0:=vblk_cell hx2 0
 have x1:=vblk_cell hx2 1
 have x2:=vblk_cell hx2 2
 have x3:=vblk_cell hx2 3
 have x4:=vblk_cell hx2 4
 have x5:=vblk_cell hx2 5
 simp only [List.getElem?_toArray,List.getElem?_cons_succ,List.getElem?_cons_zero] at x0 x1 x2 x3 x4 x5
 go_wp2_with fail
 go_ret
 exact ⟨by rw [HR.out];rfl,k2⟩
theorem szEntryS_c (S:Nat→Prop) (v:Value) (xs:List EntryD) (left:Int) (h0:0≤left) (h1:left≤1048576) (w:World) (hv:RowIn shEntry S w v xs) (hB: ∀ b,S b→b<w.heap.size):
  Calls Tryz.prog 55 #[v,.int .i64 left] w fun e w'=>e=.returned (.int .i64 (leftW (wtRow wtEntry xs) left))∧Below w.heap.size w w':=by
 obtain ⟨a,cap,rfl,hl,hc,ha⟩:=hv
 unfold maxLen at hl
 by_cases hneg:left-(xs.length:Int)<0
 ·have e:leftW (wtRow wtEntry xs) left= -1:=leftW_bad (by have:=len_wtRow wtEntry xs;omega)
  rw [e]
  clear ha
  go_enter Tryz.func55,Tryz.ntmps55
  go_wp2_with fail
  go_ret
  exact ⟨rfl,Below.refl _ _⟩
 ·go_enter Tryz.func55,Tryz.ntmps55
  go_wp2_with fail
  go_loopw [1,5] (fun vl vi wr=>∃ (k:Nat) (q:Int),k≤xs.length∧vi=.int .i64 (k:Int)∧vl=.int .i64 q∧0≤q∧q≤1048576∧Hid (q=left-(xs.length:Int)-(wtRow wtEntry (xs.take k):Int)+(k:Int))∧Below w.heap.size w wr) (fun _ vi _=>xs.length-(intOf vi).toNat)
  case atStart=>exact ⟨0,_,Nat.zero_le _,rfl,rfl,by omega,by omega,by show _=_;simp [wtRow],Below.refl _ _⟩
  case round=>
   obtain ⟨k,q,hk,rfl,rfl,hq0,hq1,hq,hbr⟩:=hrel
   by_cases hlt':k<xs.length
   ·rcases ha with rfl|⟨b,off,rfl,hlt,ha⟩
    ·simp at hlt'
    obtain ⟨cs,hL,hcell⟩:=ha k hlt'
    have hL2:=shEntry.keep (.of hbr hB) hL
    have hcell2:=hcell.keep (.of hbr hB) hlt
    have hBr: ∀ b,S b→b<wr.heap.size:=fun b h=>Nat.lt_of_lt_of_le (hB b h) hbr.size
    have hwt:=wtRow_take wtEntry xs k hlt'
    have hsp:=wtRow_split wtEntry xs (k+1)
    have hln:=len_wtRow wtEntry (xs.drop (k+1))
    have hdl:(xs.drop (k+1)).length=xs.length-(k+1):=by simp
    obtain ⟨d,hd⟩: ∃ d,d=xs[k]:=⟨_,rfl⟩
    rw [←hd] at hL2 hwt
    have HW:Hid (wtRow wtEntry (xs.take (k+1))=wtRow wtEntry (xs.take k)+(1+wtEntry d)):=hwt
    have HSP:Hid (wtRow wtEntry xs=wtRow wtEntry (xs.take (k+1))+wtRow wtEntry (xs.drop (k+1))∧xs.length-(k+1)≤wtRow wtEntry (xs.drop (k+1))):=⟨hsp,by omega⟩
    have hki:(k:Int)<(xs.length:Int):=by omega
    obtain ⟨p,hp⟩: ∃ p,p=leftW (wtEntry d) q:=⟨_,rfl⟩
    have HP:Hid (p=leftW (wtEntry d) q):=hp
    have HC:=szEntry_c S d cs q hq0 hq1 wr hL2 hBr
    rw [←hp] at HC
    clear hL hcell ha hwt hd hp hsp hln hdl
    obtain ⟨u0,u1,rfl,s_name,r0,p0,r1⟩:=hL2
    clear s_name p0
    obtain ⟨a0,cap0,eu0,_⟩:=id r0
    rw [length_strsV] at eu0
    subst eu0
    clear r0
    obtain ⟨a1,cap1,eu1,_⟩:=id r1
    subst eu1
    clear r1
    have e0:wr.cell? ⟨b,off+k*6,none⟩=some (.string d.name):=hcell2 0 (by simp)
    have e1:wr.cell? ⟨b,off+k*6+1,none⟩=some (.int .i64 d.vA):=hcell2 1 (by simp)
    have e2:wr.cell? ⟨b,off+k*6+2,none⟩=some (.int .i64 d.vB):=hcell2 2 (by simp)
    have e3:wr.cell? ⟨b,off+k*6+3,none⟩=some (.int .i64 d.vC):=hcell2 3 (by simp)
    have e4:wr.cell? ⟨b,off+k*6+4,none⟩=some (.slice a0 d.vP.length cap0):=hcell2 4 (by simp)
    have e5:wr.cell? ⟨b,off+k*6+5,none⟩=some (.slice a1 d.needs.length cap1):=hcell2 5 (by simp)
    have HC2:=hidden HC
    clear hcell2 HC
    by_cases hpn:p<0
    ·go_wp2_with (go_at_call 134;refine HC2.out.mono ?_;rintro e w1 ⟨rfl,hb1⟩)
     go_ret
     have e:leftW (wtRow wtEntry xs) left= -1:=by
      have h2:=HP.out;have h3:=hq.out;have h4:=HW.out;have h5:=HSP.out
      refine leftW_bad ?_
      by_cases h6:((wtEntry d:Nat):Int)≤q
      ·rw [leftW_good h6] at h2;omega
      ·omega
     exact ⟨by rw [e];rfl,hbr.trans (hb1.mono hbr.size)⟩
    ·go_wp2_with (go_at_call 134;refine HC2.out.mono ?_;rintro e w1 ⟨rfl,hb1⟩)
     go_roundw
     case rel=>
      have h2:=HP.out;have h3:=hq.out;have h4:=HW.out
      have h6:((wtEntry d:Nat):Int)≤q:=by
       by_cases h6:((wtEntry d:Nat):Int)≤q
       ·exact h6
       ·rw [leftW_bad (by omega)] at h2;omega
      rw [leftW_good h6] at h2
      exact ⟨k+1,p,by omega,by go_num,rfl,by omega,by omega,(by show _=_;omega),hbr.trans (hb1.mono hbr.size)⟩
     case measure=>simp [intOf];omega
   ·have he:k=xs.length:=by omega
    subst he
    clear ha
    go_wp2_with fail
    go_ret
    have e:leftW (wtRow wtEntry xs) left=q:=by
     have h3:=hq.out
     rw [List.take_length] at h3
     rw [leftW_good (by omega)];omega
    exact ⟨by rw [e];rfl,hbr⟩
end Go.Proofs.YtlfmefojcmpfeaaGreatDoor
