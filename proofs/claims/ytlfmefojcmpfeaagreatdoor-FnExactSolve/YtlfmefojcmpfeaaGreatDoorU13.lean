/-
  Contracts for the walks and pure facts, several texts in one: each theorem says what it proves, and under which conditions.
-/
import Derived.Test.YtlfmefojcmpfeaaGreatDoorUT
import Derived.Test.YtlfmefojcmpfeaaGreatDoorU12
set_option linter.unusedSimpArgs false
set_option linter.unusedVariables false
set_option maxHeartbeats 16000000
set_option maxRecDepth 100000
namespace Go.Proofs.YtlfmefojcmpfeaaGreatDoor
open Go.RowKit
def Six (w:World) (N:Nat) (t:TypeId) (c0 c1 c2 c3 c4 c5:Value):Prop:=w.heap[N]?=some (.cells #[c0,c1,c2,c3,c4,c5] t (0,0))
theorem Six.lt {w:World} {N:Nat} {t:TypeId} {c0 c1 c2 c3 c4 c5:Value} (h:Six w N t c0 c1 c2 c3 c4 c5):N<w.heap.size:=(Array.getElem?_eq_some_iff.1 h).1
theorem Six.keep {w w':World} {N:Nat} {t:TypeId} {c0 c1 c2 c3 c4 c5:Value} (h:Six w N t c0 c1 c2 c3 c4 c5) (b:Below w.heap.size w w'):Six w' N t c0 c1 c2 c3 c4 c5:=(b.block N h.lt).trans h
theorem Six.cells {w:World} {N:Nat} {t:TypeId} {c0 c1 c2 c3 c4 c5:Value} (h:Six w N t c0 c1 c2 c3 c4 c5):w.cell? ⟨N,0,none⟩=some c0∧w.cell? ⟨N,1,none⟩=some c1∧w.cell? ⟨N,2,none⟩=some c2∧w.cell? ⟨N,3,none⟩=some c3∧w.cell? ⟨N,4,none⟩=some c4∧w.cell? ⟨N,5,none⟩=some c5:=
 ⟨vblk_cell h 0,vblk_cell h 1,vblk_cell h 2,vblk_cell h 3,vblk_cell h 4,vblk_cell h 5⟩
theorem six_new (w:World) (t:TypeId) (c0 c1 c2 c3 c4 c5:Value):Six (w.alloc (.cells #[c0,c1,c2,c3,c4,c5] t)) w.heap.size t c0 c1 c2 c3 c4 c5:=vheap_new _ _
theorem Six.set4 {w:World} {N:Nat} {t:TypeId} {c0 c1 c2 c3 c4 c5:Value} (h:Six w N t c0 c1 c2 c3 c4 c5) (v:Value):Six (w.setCell ⟨N,4,none⟩ v) N t c0 c1 c2 c3 v c5:=heap_setCell_same w N 4 _ t v h
theorem Six.far {w:World} {R N j:Nat} {t:TypeId} {c0 c1 c2 c3 c4 c5:Value} (h:Six w R t c0 c1 c2 c3 c4 c5) (hn:R≠N) (v:Value):Six (w.setCell ⟨N,j,none⟩ v) R t c0 c1 c2 c3 c4 c5:=(Below.heap_setCell w ⟨N,j,none⟩ v R hn).trans h
theorem Three.far {w:World} {R N j:Nat} {t:TypeId} {c0 c1 c2:Value} (h:Three w R t c0 c1 c2) (hn:R≠N) (v:Value):Three (w.setCell ⟨N,j,none⟩ v) R t c0 c1 c2:=(Below.heap_setCell w ⟨N,j,none⟩ v R hn).trans h
theorem Three.set2 {w:World} {N:Nat} {t:TypeId} {c0 c1 c2:Value} (h:Three w N t c0 c1 c2) (v:Value):Three (w.setCell ⟨N,2,none⟩ v) N t c0 c1 v:=heap_setCell_same w N 2 _ t v h
theorem x_bad :numGood xT 9999=false:=by decide+kernel
theorem three_words (ws:List ByteArray) (h0:0<ws.length) (hl:ws.length≤3):(∃ p,ws=[p])∨(∃ p q,ws=[p,q])∨∃ p q r,ws=[p,q,r]:=by
 match ws,h0,hl with
 |[p],_,_=>exact .inl ⟨p,rfl⟩
 |[p,q],_,_=>exact .inr (.inl ⟨p,q,rfl⟩)
 |[p,q,r],_,_=>exact .inr (.inr ⟨p,q,r,rfl⟩)
 |_::_::_::_::_,_,hl=>simp at hl
theorem part_bad (ws:List ByteArray) (hl:ws.length≤3) (k:Nat) (hk:k<ws.length) (hx:ws.getD k ⟨#[]⟩≠xT) (hb:numGood (ws.getD k ⟨#[]⟩) 9999=false):partW ws=none:=by
 rcases three_words ws (by omega) hl with ⟨p,rfl⟩|⟨p,q,rfl⟩|⟨p,q,r,rfl⟩
 ·have:k=0:=by simp at hk;omega
  subst this
  simp at hx hb
  simp [partW,toldW,stripK,hb]
 ·have:k=0∨k=1:=by simp at hk;omega
  rcases this with rfl|rfl
  ·simp at hx hb
   simp [partW,toldW,stripK,hb]
  ·simp at hx hb
   simp [partW,toldW,stripK,hb,hx]
 ·have:k=0∨k=1∨k=2:=by simp at hk;omega
  rcases this with rfl|rfl|rfl
  ·simp at hx hb
   simp [partW,toldW,stripK,hb]
  ·simp at hx hb
   by_cases hr:r=xT<;>simp [partW,toldW,stripK,hb,hx,hr]
  ·simp at hx hb
   simp [partW,toldW,stripK,hb,hx]
theorem part_mixed (ws:List ByteArray) (hl:ws.length≤3) (k i:Nat) (hkx:ws.getD k ⟨#[]⟩=xT) (hki:k<i) (hi:i<ws.length) (hix:ws.getD i ⟨#[]⟩≠xT):partW ws=none:=by
 rcases three_words ws (by omega) hl with ⟨p,rfl⟩|⟨p,q,rfl⟩|⟨p,q,r,rfl⟩
 ·simp at hi;omega
 ·have h1:k=0∧i=1:=by simp at hi;omega
  obtain ⟨rfl,rfl⟩:=h1
  simp at hkx hix
  simp [partW,toldW,stripK,hkx,hix,x_bad]
 ·have h1:(k=0∧i=1)∨(k=0∧i=2)∨(k=1∧i=2):=by simp at hi;omega
  rcases h1 with ⟨rfl,rfl⟩|⟨rfl,rfl⟩|⟨rfl,rfl⟩
  ·simp at hkx hix
   by_cases hr:r=xT<;>simp [partW,toldW,stripK,hkx,hix,hr,x_bad]
  ·simp at hkx hix
   simp [partW,toldW,stripK,hkx,hix,x_bad]
  ·simp at hkx hix
   simp [partW,toldW,stripK,hkx,hix,x_bad]
theorem good_ne {p:ByteArray} (h:numGood p 9999=true):p≠xT:=fun e=>by rw [e,x_bad] at h;exact Bool.noConfusion h
theorem part_end (ws:List ByteArray) (h0:0<ws.length) (hl:ws.length≤3) (k:Nat) (hk:k≤ws.length) (hg: ∀ j,j<k→numGood (ws.getD j ⟨#[]⟩) 9999=true) (hx: ∀ j,k≤j→j<ws.length→ws.getD j ⟨#[]⟩=xT):
  partW ws=if k=1 then some (numOut (ws.getD 0 ⟨#[]⟩) 9999,0,1) else if k=2 then some (numOut (ws.getD 0 ⟨#[]⟩) 9999,numOut (ws.getD 1 ⟨#[]⟩) 9999,2) else none:=by
 have hk4:k=0∨k=1∨k=2∨k=3:=by omega
 rcases three_words ws h0 hl with ⟨p,rfl⟩|⟨p,q,rfl⟩|⟨p,q,r,rfl⟩
 ·rcases hk4 with rfl|rfl|rfl|rfl
  ·have h:=hx 0 (by omega) (by simp)
   simp at h
   simp [partW,toldW,stripK,h,x_bad]
  ·have h:=hg 0 (by omega)
   simp at h
   simp [partW,toldW,stripK,h]
  ·simp at hk
  ·simp at hk
 ·rcases hk4 with rfl|rfl|rfl|rfl
  ·have h:=hx 0 (by omega) (by simp)
   have h':=hx 1 (by omega) (by simp)
   simp at h h'
   simp [partW,toldW,stripK,h,h',x_bad]
  ·have h:=hg 0 (by omega)
   have h':=hx 1 (by omega) (by simp)
   simp at h h'
   simp [partW,toldW,stripK,h,h']
  ·have h:=hg 0 (by omega)
   have h':=hg 1 (by omega)
   simp at h h'
   simp [partW,toldW,stripK,h,h',good_ne h']
  ·simp at hk
 ·rcases hk4 with rfl|rfl|rfl|rfl
  ·have h:=hx 0 (by omega) (by simp)
   have h':=hx 1 (by omega) (by simp)
   have h'':=hx 2 (by omega) (by simp)
   simp at h h' h''
   simp [partW,toldW,stripK,h,h',h'',x_bad]
  ·have h:=hg 0 (by omega)
   have h':=hx 1 (by omega) (by simp)
   have h'':=hx 2 (by omega) (by simp)
   simp at h h' h''
   simp [partW,toldW,stripK,h,h',h'']
  ·have h:=hg 0 (by omega)
   have h':=hg 1 (by omega)
   have h'':=hx 2 (by omega) (by simp)
   simp at h h' h''
   simp [partW,toldW,stripK,h,h',h'',good_ne h']
  ·have h'':=hg 2 (by omega)
   simp at h''
   simp [partW,toldW,stripK,good_ne h'']
theorem partOk_ver {s:ByteArray} (h:resOk s=true):partOk s=true∧partA s=resN s 0∧partB' s=resN s 1∧partC s=resN s 2∧partT s=3∧partP s=resP s:=by
 simp [partOk,partA,partB',partC,partT,partP,partAll,h]
theorem partOk_none {s:ByteArray} (h:resOk s=false) (hp:partW (splitS s 46)=none):partOk s=false:=by
 simp [partOk,partAll,h,hp]
theorem partOk_some {s:ByteArray} (h:resOk s=false) {a b t:Int} (hp:partW (splitS s 46)=some (a,b,t)):partOk s=true∧partA s=a∧partB' s=b∧partC s=0∧partT s=t∧partP s=[]:=by
 simp [partOk,partA,partB',partC,partT,partP,partAll,h,hp]
def readPost (w:World) (s:ByteArray) (OK:Bool) (e:Ending) (w':World):Prop:=
 ∃ (a b c:Int) (u:Value) (t:Int) (ps:List ByteArray),e=.returned (.agg #[.int .i64 a,.int .i64 b,.int .i64 c,u,.int .i64 t,.bool OK])∧(OK=true→a=partA s∧b=partB' s∧c=partC s∧t=partT s∧ps=partP s)∧w'.ownsRow w.heap.size 9 1 u ps.length (strsV ps)∧Below w.heap.size w w'
theorem l4Read_c (s:ByteArray) (hs:s.size≤1048576) (w:World):
    Calls Tryz.prog 283 #[.string s] w fun e w'=>readPost w s (partOk s) e w':=by
  have hbx:Below w.heap.size w (w.alloc (.cells #[.int .i64 0,.int .i64 0,.int .i64 0,.slice none 0 0,.int .i64 0,.bool false] 324)):=(Below.refl _ _).alloc (Nat.le_refl _) _
  have R0:=six_new w 324 (.int .i64 0) (.int .i64 0) (.int .i64 0) (.slice none 0 0) (.int .i64 0) (.bool false)
  have HP:=specParse_o s hs (w.alloc (.cells #[.int .i64 0,.int .i64 0,.int .i64 0,.slice none 0 0,.int .i64 0,.bool false] 324))
  have hs0:(w.alloc (.cells #[.int .i64 0,.int .i64 0,.int .i64 0,.slice none 0 0,.int .i64 0,.bool false] 324)).heap.size=w.heap.size+1:=by simp
  unfold verOut at HP
  rw [hs0] at HP
  obtain ⟨y1,hy1⟩: ∃ y,y=resN s 0:=⟨_,rfl⟩
  obtain ⟨y2,hy2⟩: ∃ y,y=resN s 1:=⟨_,rfl⟩
  obtain ⟨y3,hy3⟩: ∃ y,y=resN s 2:=⟨_,rfl⟩
  obtain ⟨py,hpy⟩: ∃ y,y=resP s:=⟨_,rfl⟩
  obtain ⟨ok,hok⟩: ∃ y,y=resOk s:=⟨_,rfl⟩
  rw [←hy1, ←hy2, ←hy3, ←hpy, ←hok] at HP
  have HV:Hid (ok=true→partOk s=true∧partA s=y1∧partB' s=y2∧partC s=y3∧partT s=3∧partP s=py):=fun h=>by rw [hy1,hy2,hy3,hpy];exact partOk_ver (hok▸h)
  have HN:Hid (ok=false→partW (splitS s 46)=none→partOk s=false):=fun h h2=>partOk_none (hok▸h) h2
  have HM:Hid (ok=false→∀ a b t,partW (splitS s 46)=some (a,b,t)→partOk s=true∧partA s=a∧partB' s=b∧partC s=0∧partT s=t∧partP s=[]):=fun h a b t h2=>partOk_some (hok▸h) h2
  have HS:Hid (∀ w1,Calls Tryz.prog 127 #[.string s,.int .u8 46] w1 fun e w'=>∃ v,e=.returned v∧w'.ownsRow w1.heap.size 9 1 v (splitS s 46).length (strsV (splitS s 46))∧Below w1.heap.size w1 w'):=fun w1=>specSplit_c s 46 w1 hs
  have hL:=splitS_len s 46
  have hL0:=splitS_pos s 46
  have hpc:=splitS_piece s 46
  obtain ⟨ws,hws⟩: ∃ ws,ws=splitS s 46:=⟨_,rfl⟩
  rw [←hws] at HN HM HS hL hL0 hpc
  clear hy1 hy2 hy3 hpy hok hws
  obtain ⟨OK,hOK⟩: ∃ y,y=partOk s:=⟨_,rfl⟩
  rw [←hOK] at HV HN HM
  rw [←hOK]
  clear hOK
  go_enter Tryz.func283,Tryz.ntmps283
  go_wp2_with fail
  go_at_call 128
  refine HP.mono ?_
  rintro e w1 ⟨uy,rfl,oy,b1⟩
  have R1:Six w1 w.heap.size 324 (.int .i64 0) (.int .i64 0) (.int .i64 0) (.slice none 0 0) (.int .i64 0) (.bool false):=(b1.block _ (by omega)).trans R0
  have k1:=hbx.trans (b1.mono (by omega))
  obtain ⟨qy,ny,cy,hu⟩: ∃ q n c,uy=.slice q n c:=by rcases oy.2 with ⟨rfl,_⟩|⟨g,cap,cur,rfl,_⟩<;>exact ⟨_,_,_,rfl⟩
  subst hu
  have tA:Below w1.heap.size w1 (w1.alloc (.cells #[.int .i64 y1,.int .i64 y2,.int .i64 y3,.slice qy ny cy] 30)):=(Below.refl _ _).alloc (Nat.le_refl _) _
  have R2:=R1.keep tA
  have k2:=k1.trans (tA.mono k1.size)
  have oy2:=owns_of_below oy tA
  have l1:=R1.lt
  clear HP R0 b1 hbx
  cases ok with
  |true=>
    obtain ⟨eO,eR⟩:=HV.out rfl
    have HO:Hid (OK=true):=eO
    have HR:Hid (partA s=y1∧partB' s=y2∧partC s=y3∧partT s=3∧partP s=py):=eR
    obtain ⟨x0,x1,x2,x3,x4,x5⟩:=R1.cells
    have fx:=vblk_frozen R1
    clear HV HN HM HS eO eR
    go_wp2_with fail
    refine bodyPost_ret (v:=.agg #[.int .i64 y1,.int .i64 y2,.int .i64 y3,.slice qy ny cy,.int .i64 3,.bool true]) (by simp [results,Tryz.results283,go_sem,x0,x1,x2,x3,x4,x5,l1]) rfl ⟨y1,y2,y3,.slice qy ny cy,3,py,by rw [HO.out],fun _=>⟨HR.out.1.symm,HR.out.2.1.symm,HR.out.2.2.1.symm,HR.out.2.2.2.1.symm,HR.out.2.2.2.2.symm⟩,?_,?_⟩
    · refine owns_base (base:=w.heap.size+1) ?_ (by omega)
      refine World.ownsRow.alloc ?_ _
      repeat (refine owns_set ?_ (by simp) _)
      exact oy
    · refine Below.alloc ?_ (by simp;omega) _
      repeat (refine Below.setCell ?_ (by simp<;>omega) _)
      exact k1
  |false=>
  clear HV oy oy2 R1
  go_wp2_with fail
  generalize (w1.alloc (.cells #[.int .i64 y1,.int .i64 y2,.int .i64 y3,.slice qy ny cy] 30))=W2 at R2 k2 tA ⊢
  go_at_call 127
  refine (HS.out _).mono ?_
  rintro e w3 ⟨v3,rfl,o3,b3⟩
  have R3:=R2.keep b3
  have k3:=k2.trans (b3.mono k2.size)
  have rw3:=reads_of_owns o3
  obtain ⟨qw,cw,hv,hcw,hc3⟩:=reads_strs rw3
  subst hv
  have l3:=R3.lt
  clear HS R2 b3 k2 tA k1 o3
  rcases hc3 with hw0|⟨bq,off,rfl,hbq,hcell⟩
  · rw [hw0] at hL0;simp at hL0
  have tB:Below w3.heap.size w3 ((w3.alloc (.cells #[.int .i64 0,.int .i64 0,.int .i64 0,.slice none 0 0,.int .i64 0,.bool false] 324)).alloc (.cells #[.int .i64 0,.int .i64 0,.int .i64 0] 3)):=((Below.refl _ _).alloc (Nat.le_refl _) _).alloc (by simp) _
  have k4:=k3.trans (tB.mono k3.size)
  by_cases h3:3<ws.length
  · have h3':(3:Int)<(ws.length:Int):=by omega
    have HO:Hid (OK=false):=HN.out (by first|rfl|exact True.intro) (by rw [partW,if_pos (.inl h3)])
    obtain ⟨x0,x1,x2,x3,x4,x5⟩:=R3.cells
    have fx:=vblk_frozen R3
    clear hcell rw3 h3 HN HM
    go_wp2_with fail
    refine bodyPost_ret (v:=.agg #[.int .i64 0,.int .i64 0,.int .i64 0,.slice none 0 0,.int .i64 0,.bool false]) (by simp [results,Tryz.results283,go_sem,x0,x1,x2,x3,x4,x5,l3]) rfl ⟨0,0,0,.slice none 0 0,0,[],by rw [HO.out],fun h=>(by rw [HO.out] at h;exact Bool.noConfusion h),⟨rfl,.inl ⟨rfl,rfl⟩⟩,?_⟩
    refine Below.alloc ?_ (by simp<;>omega) _
    refine Below.alloc ?_ (by simp<;>omega) _
    iterate 6 (refine Below.setCell ?_ (by simp<;>omega) _)
    exact k3
  have h3': ¬(3:Int)<(ws.length:Int):=by omega
  obtain ⟨W4,hW4⟩: ∃ x,x=(w3.alloc (.cells #[.int .i64 0,.int .i64 0,.int .i64 0,.slice none 0 0,.int .i64 0,.bool false] 324)).alloc (.cells #[.int .i64 0,.int .i64 0,.int .i64 0] 3):=⟨_,rfl⟩
  have P0:Six ((w3.alloc (.cells #[.int .i64 0,.int .i64 0,.int .i64 0,.slice none 0 0,.int .i64 0,.bool false] 324)).alloc (.cells #[.int .i64 0,.int .i64 0,.int .i64 0] 3)) w3.heap.size 324 (.int .i64 0) (.int .i64 0) (.int .i64 0) (.slice none 0 0) (.int .i64 0) (.bool false):=(six_new w3 324 (.int .i64 0) (.int .i64 0) (.int .i64 0) (.slice none 0 0) (.int .i64 0) (.bool false)).keep ((Below.refl _ _).alloc (Nat.le_refl _) _)
  have T0:Three ((w3.alloc (.cells #[.int .i64 0,.int .i64 0,.int .i64 0,.slice none 0 0,.int .i64 0,.bool false] 324)).alloc (.cells #[.int .i64 0,.int .i64 0,.int .i64 0] 3)) (w3.heap.size+1) 3 (.int .i64 0) (.int .i64 0) (.int .i64 0):=by
    have h:=three_new (w3.alloc (.cells #[.int .i64 0,.int .i64 0,.int .i64 0,.slice none 0 0,.int .i64 0,.bool false] 324)) 3 (.int .i64 0) (.int .i64 0) (.int .i64 0)
    rw [show (w3.alloc (.cells #[.int .i64 0,.int .i64 0,.int .i64 0,.slice none 0 0,.int .i64 0,.bool false] 324)).heap.size=w3.heap.size+1 by simp] at h
    exact h
  go_wp2_with fail
  rw [←hW4] at tB k4 P0 T0
  rw [←hW4]
  clear hW4
  go_loopw [8,9] (fun v8 v9 wr=>∃ (k:Nat) (m0 m1 m2:Int),k≤ws.length∧Six wr w3.heap.size 324 (.int .i64 0) (.int .i64 0) (.int .i64 0) (.slice none 0 0) (.int .i64 (k:Int)) (.bool false)∧Three wr (w3.heap.size+1) 3 (.int .i64 m0) (.int .i64 m1) (.int .i64 m2)∧Hid ((∀ j,j<k→numGood (ws.getD j ⟨#[]⟩) 9999=true)∧(0<k→m0=numOut (ws.getD 0 ⟨#[]⟩) 9999)∧(1<k→m1=numOut (ws.getD 1 ⟨#[]⟩) 9999)∧(k≤1→m1=0)∧(k≤2→m2=0))∧Below w3.heap.size w3 wr) (fun _ _ wr=>match wr.cell? ⟨w3.heap.size,4,none⟩ with|some v=>ws.length-(intOf v).toNat|none=>0)
  case atStart=>exact ⟨0,0,0,0,Nat.zero_le _,P0,T0,⟨fun j h=>absurd h (by omega),fun h=>absurd h (by omega),fun h=>absurd h (by omega),fun _=>rfl,fun _=>rfl⟩,tB⟩
  case round=>
    obtain ⟨k,m0,m1,m2,hk,hP,hT,hh,hb3⟩:=hrel
    clear P0 T0 tB k4
    have kr:=k3.trans (hb3.mono k3.size)
    obtain ⟨x0,x1,x2,x3,x4,x5⟩:=(R3.keep hb3).cells
    have fx:=vblk_frozen (R3.keep hb3)
    obtain ⟨p0,p1,p2,p3,p4,p5⟩:=hP.cells
    have fp:=vblk_frozen hP
    obtain ⟨n0,n1,n2⟩:=hT.cells
    have fn:=vblk_frozen hT
    by_cases hlt:k<ws.length
    · have hcx:=(hb3.cell (by simpa using hbq)).trans (hcell k hlt)
      have hgk:ws.getD k ⟨#[]⟩=ws[k]:=by simp [List.getD_eq_getElem?_getD,hlt]
      have hxz:=hpc _ (List.getElem_mem hlt)
      obtain ⟨x,hx⟩: ∃ y,y=ws[k]:=⟨_,rfl⟩
      rw [←hx] at hcx hgk hxz
      have hkl':(k:Int)<(ws.length:Int):=by omega
      by_cases hxx:x=⟨#[120]⟩
      · have hst:Hid (k<ws.length→ws.getD k ⟨#[]⟩=xT):=fun _=>by rw [hgk];exact hxx
        subst hxx
        clear hgk hx
        go_wp2_with fail
        go_loop [10] (fun vi=>∃ i:Nat,k≤i∧i≤ws.length∧vi=.int .i64 (i:Int)∧Hid (∀ j,k≤j→j<i→ws.getD j ⟨#[]⟩=xT)) (fun vi=>ws.length-(intOf vi).toNat)
        case atStart=>exact ⟨k,Nat.le_refl _,hk,rfl,fun j h1 h2=>absurd h2 (by omega)⟩
        case round=>
          obtain ⟨i,hki,hil,rfl,hix⟩:=hrel
          by_cases hlt2:i<ws.length
          · have hcy:=(hb3.cell (by simpa using hbq)).trans (hcell i hlt2)
            have hgi:ws.getD i ⟨#[]⟩=ws[i]:=by simp [List.getD_eq_getElem?_getD,hlt2]
            obtain ⟨y,hy⟩: ∃ y,y=ws[i]:=⟨_,rfl⟩
            rw [←hy] at hcy hgi
            have hil':(i:Int)<(ws.length:Int):=by omega
            by_cases hyx:y=⟨#[120]⟩
            · have HX2:Hid (∀ j,k≤j→j<i+1→ws.getD j ⟨#[]⟩=xT):=fun j h1 h2=>by
                by_cases e:j=i
                · subst e;rw [hgi];exact hyx
                · exact hix.out j h1 (by omega)
              subst hyx
              clear hgi hy hix hcell
              go_wp2_with fail
              go_round
              case rel=>exact ⟨i+1,by omega,by omega,by go_num,HX2⟩
              case measure=>simp [intOf];omega
            · have HO : Hid (OK = false) := HN.out (by first | rfl | exact True.intro) (part_mixed ws (by omega) k i (hst.out (by omega)) (by
                have : i ≠ k := fun e => hyx (by rw [← hgi, e]; exact hst.out (by omega))
                omega) hlt2 (by rw [hgi]; exact hyx))
              have hyb:(y.toList == [120])=false:=by rw [beq_eq_false_iff_ne];intro h;exact hyx (bytes_eq_of_toList (by rw [h,ByteArray.toList_eq]))
              clear hgi hy hix hcell HN HM hyx
              go_wp2_with fail
              refine bodyPost_ret (v:=.agg #[.int .i64 0,.int .i64 0,.int .i64 0,.slice none 0 0,.int .i64 0,.bool false]) (by simp [results,Tryz.results283,go_sem,x0,x1,x2,x3,x4,x5]) rfl ⟨0,0,0,.slice none 0 0,0,[],by rw [HO.out],fun h=>(by rw [HO.out] at h;exact Bool.noConfusion h),⟨rfl,.inl ⟨rfl,rfl⟩⟩,?_⟩
              iterate 6 (refine Below.setCell ?_ (by simp<;>omega) _)
              exact kr
          · have hie:i=ws.length:=by omega
            subst hie
            have hil': ¬(ws.length:Int)<(ws.length:Int):=by omega
            have HPE:=part_end ws hL0 (by omega) k hk hh.out.1 (fun j h1 h2=>hix.out j h1 h2)
            have HE:Hid (OK=inB (k:Int) 1 2∧(OK=true→m0=partA s∧m1=partB' s∧m2=partC s∧(k:Int)=partT s∧[]=partP s)):=by
              obtain ⟨_,g0,g1,g2,g3⟩:=hh.out
              by_cases e1:k=1
              · rw [if_pos e1] at HPE
                obtain ⟨f0,f1,f2,f3,f4,f5⟩:=HM.out (by first|rfl|exact True.intro) _ _ _ HPE
                refine ⟨by rw [f0,e1];rfl,fun _=>⟨by rw [f1];exact g0 (by omega),by rw [f2];exact g2 (by omega),by rw [f3];exact g3 (by omega),by rw [f4,e1];rfl,f5.symm⟩⟩
              by_cases e2:k=2
              · rw [if_neg e1,if_pos e2] at HPE
                obtain ⟨f0,f1,f2,f3,f4,f5⟩:=HM.out (by first|rfl|exact True.intro) _ _ _ HPE
                refine ⟨by rw [f0,e2];rfl,fun _=>⟨by rw [f1];exact g0 (by omega),by rw [f2];exact g1 (by omega),by rw [f3];exact g3 (by omega),by rw [f4,e2];rfl,f5.symm⟩⟩
              rw [if_neg e1,if_neg e2] at HPE
              have f0:=HN.out (by first|rfl|exact True.intro) HPE
              refine ⟨?_,fun h=>by rw [f0] at h;exact Bool.noConfusion h⟩
              rw [f0]
              have:k=0∨k=3:=by omega
              rcases this with rfl|rfl<;>rfl
            clear HPE HN HM hix hcell hh hst
            go_wp2_with fail
            go_region
            go_wp2_with (go_at_call 111;refine (in_c _ _ _ _).mono ?_;rintro e w' ⟨rfl,rfl⟩)
            refine bodyPost_ret (v:=.agg #[.int .i64 m0,.int .i64 m1,.int .i64 m2,.slice none 0 0,.int .i64 (k:Int),.bool (inB (k:Int) 1 2)]) (by simp [results,Tryz.results283,go_sem,x0,x1,x2,x3,x4,x5,p0,p1,p2,p3,p4,p5]) rfl ⟨m0,m1,m2,.slice none 0 0,(k:Int),[],by rw [HE.out.1],HE.out.2,⟨rfl,.inl ⟨rfl,rfl⟩⟩,?_⟩
            refine Below.drew ?_
            repeat (refine Below.setCell ?_ (by simp<;>omega) _)
            exact kr
      · have hxb:(x.toList == [120])=false:=by rw [beq_eq_false_iff_ne];intro h;exact hxx (bytes_eq_of_toList (by rw [h,ByteArray.toList_eq]))
        have HNum:Hid (Calls Tryz.prog 200 #[.string x,.int .i64 9999] wr fun e w'=>e=.returned (.tuple #[.int .i64 (numOut x 9999),.bool (numGood x 9999)])∧wr=w'):=specNum_c x 9999 (by unfold maxLen;omega) wr
        obtain ⟨m,hm⟩: ∃ m,m=numOut x 9999:=⟨_,rfl⟩
        obtain ⟨gd,hgd⟩: ∃ m,m=numGood x 9999:=⟨_,rfl⟩
        rw [←hm, ←hgd] at HNum
        cases gd with
        |false=>
          have HO:Hid (OK=false):=HN.out (by first|rfl|exact True.intro) (part_bad ws (by omega) k hlt (by rw [hgk];exact hxx) (by rw [hgk];exact hgd.symm))
          clear HN HM hgk hx hxx hcell hm hgd hh
          go_wp2_with (go_at_call 200;refine HNum.out.mono ?_;rintro e w' ⟨rfl,rfl⟩)
          refine bodyPost_ret (v:=.agg #[.int .i64 0,.int .i64 0,.int .i64 0,.slice none 0 0,.int .i64 0,.bool false]) (by simp [results,Tryz.results283,go_sem,x0,x1,x2,x3,x4,x5]) rfl ⟨0,0,0,.slice none 0 0,0,[],by rw [HO.out],fun h=>(by rw [HO.out] at h;exact Bool.noConfusion h),⟨rfl,.inl ⟨rfl,rfl⟩⟩,?_⟩
          iterate 6 (refine Below.setCell ?_ (by simp<;>omega) _)
          exact kr
        |true=>
          have hg': ∀ j,j<k+1→numGood (ws.getD j ⟨#[]⟩) 9999=true:=fun j hj=>by
            by_cases e:j=k
            · subst e;rw [hgk];exact hgd.symm
            · exact hh.out.1 j (by omega)
          obtain ⟨_,g0,g1,g2,g3⟩:=hh.out
          have hmk:m=numOut (ws.getD k ⟨#[]⟩) 9999:=by rw [hgk];exact hm
          have hk3:k=0∨k=1∨k=2:=by omega
          rcases hk3 with rfl|rfl|rfl
          · have hcx':wr.cell? ⟨bq,off,none⟩=some (.string x):=hcx
            have p4':wr.cell? ⟨w3.heap.size,4,none⟩=some (.int .i64 0):=p4
            have hkl'':(0:Int)<(ws.length:Int):=hkl'
            have HH:Hid ((∀ j,j<1→numGood (ws.getD j ⟨#[]⟩) 9999=true)∧(0<1→m=numOut (ws.getD 0 ⟨#[]⟩) 9999)∧(1<1→m1=numOut (ws.getD 1 ⟨#[]⟩) 9999)∧(1≤1→m1=0)∧(1≤2→m2=0)):=⟨hg',fun _=>hmk,fun h=>absurd h (by omega),fun _=>g2 (by omega),fun _=>g3 (by omega)⟩
            clear hh hg' g0 g1 g2 g3 hmk hm hgd hgk hx hxx hcell HN HM
            go_wp2_with (go_at_call 200;refine HNum.out.mono ?_;rintro e w' ⟨rfl,rfl⟩)
            have P2:=(hP.far (N:=w3.heap.size+1) (j:=0) (by omega) (.int .i64 m)).set4 (.int .i64 1)
            have T2:=((hT.set (.int .i64 m)).1).far (N:=w3.heap.size) (j:=4) (by omega) (.int .i64 1)
            go_roundw
            case rel=>exact ⟨1,m,m1,m2,by omega,P2,T2,HH,(hb3.setCell (by simp) _).setCell (by simp) _⟩
            case measure=>have q4:=P2.cells.2.2.2.2.1;simp [q4,p4,intOf];omega
          · have HH:Hid ((∀ j,j<2→numGood (ws.getD j ⟨#[]⟩) 9999=true)∧(0<2→m0=numOut (ws.getD 0 ⟨#[]⟩) 9999)∧(1<2→m=numOut (ws.getD 1 ⟨#[]⟩) 9999)∧(2≤1→m=0)∧(2≤2→m2=0)):=⟨hg',fun _=>g0 (by omega),fun _=>hmk,fun h=>absurd h (by omega),fun _=>g3 (by omega)⟩
            clear hh hg' g0 g1 g2 g3 hmk hm hgd hgk hx hxx hcell HN HM
            go_wp2_with (go_at_call 200;refine HNum.out.mono ?_;rintro e w' ⟨rfl,rfl⟩)
            have P2:=(hP.far (N:=w3.heap.size+1) (j:=1) (by omega) (.int .i64 m)).set4 (.int .i64 2)
            have T2:=((hT.set (.int .i64 m)).2).far (N:=w3.heap.size) (j:=4) (by omega) (.int .i64 2)
            go_roundw
            case rel=>exact ⟨2,m0,m,m2,by omega,P2,T2,HH,(hb3.setCell (by simp) _).setCell (by simp) _⟩
            case measure=>have q4:=P2.cells.2.2.2.2.1;simp [q4,p4,intOf];omega
          · have HH:Hid ((∀ j,j<3→numGood (ws.getD j ⟨#[]⟩) 9999=true)∧(0<3→m0=numOut (ws.getD 0 ⟨#[]⟩) 9999)∧(1<3→m1=numOut (ws.getD 1 ⟨#[]⟩) 9999)∧(3≤1→m1=0)∧(3≤2→m=0)):=⟨hg',fun _=>g0 (by omega),fun _=>g1 (by omega),fun h=>absurd h (by omega),fun h=>absurd h (by omega)⟩
            clear hh hg' g0 g1 g2 g3 hmk hm hgd hgk hx hxx hcell HN HM
            go_wp2_with (go_at_call 200;refine HNum.out.mono ?_;rintro e w' ⟨rfl,rfl⟩)
            have P2:=(hP.far (N:=w3.heap.size+1) (j:=2) (by omega) (.int .i64 m)).set4 (.int .i64 3)
            have T2:=(hT.set2 (.int .i64 m)).far (N:=w3.heap.size) (j:=4) (by omega) (.int .i64 3)
            go_roundw
            case rel=>exact ⟨3,m0,m1,m,by omega,P2,T2,HH,(hb3.setCell (by simp) _).setCell (by simp) _⟩
            case measure=>have q4:=P2.cells.2.2.2.2.1;simp [q4,p4,intOf];omega
    · have hkl': ¬(k:Int)<(ws.length:Int):=by omega
      have hst:Hid (k<ws.length→ws.getD k ⟨#[]⟩=xT):=fun h=>absurd h (by omega)
      go_wp2_with fail
      go_loop [10] (fun vi=>∃ i:Nat,k≤i∧i≤ws.length∧vi=.int .i64 (i:Int)∧Hid (∀ j,k≤j→j<i→ws.getD j ⟨#[]⟩=xT)) (fun vi=>ws.length-(intOf vi).toNat)
      case atStart=>exact ⟨k,Nat.le_refl _,hk,rfl,fun j h1 h2=>absurd h2 (by omega)⟩
      case round=>
        obtain ⟨i,hki,hil,rfl,hix⟩:=hrel
        by_cases hlt2:i<ws.length
        · exact absurd hlt2 (by omega)
        · have hie:i=ws.length:=by omega
          subst hie
          have hil': ¬(ws.length:Int)<(ws.length:Int):=by omega
          have HPE:=part_end ws hL0 (by omega) k hk hh.out.1 (fun j h1 h2=>hix.out j h1 h2)
          have HE:Hid (OK=inB (k:Int) 1 2∧(OK=true→m0=partA s∧m1=partB' s∧m2=partC s∧(k:Int)=partT s∧[]=partP s)):=by
            obtain ⟨_,g0,g1,g2,g3⟩:=hh.out
            by_cases e1:k=1
            · rw [if_pos e1] at HPE
              obtain ⟨f0,f1,f2,f3,f4,f5⟩:=HM.out (by first|rfl|exact True.intro) _ _ _ HPE
              refine ⟨by rw [f0,e1];rfl,fun _=>⟨by rw [f1];exact g0 (by omega),by rw [f2];exact g2 (by omega),by rw [f3];exact g3 (by omega),by rw [f4,e1];rfl,f5.symm⟩⟩
            by_cases e2:k=2
            · rw [if_neg e1,if_pos e2] at HPE
              obtain ⟨f0,f1,f2,f3,f4,f5⟩:=HM.out (by first|rfl|exact True.intro) _ _ _ HPE
              refine ⟨by rw [f0,e2];rfl,fun _=>⟨by rw [f1];exact g0 (by omega),by rw [f2];exact g1 (by omega),by rw [f3];exact g3 (by omega),by rw [f4,e2];rfl,f5.symm⟩⟩
            rw [if_neg e1,if_neg e2] at HPE
            have f0:=HN.out (by first|rfl|exact True.intro) HPE
            refine ⟨?_,fun h=>by rw [f0] at h;exact Bool.noConfusion h⟩
            rw [f0]
            have:k=0∨k=3:=by omega
            rcases this with rfl|rfl<;>rfl
          clear HPE HN HM hix hcell hh hst
          go_wp2_with fail
          go_region
          go_wp2_with (go_at_call 111;refine (in_c _ _ _ _).mono ?_;rintro e w' ⟨rfl,rfl⟩)
          refine bodyPost_ret (v:=.agg #[.int .i64 m0,.int .i64 m1,.int .i64 m2,.slice none 0 0,.int .i64 (k:Int),.bool (inB (k:Int) 1 2)]) (by simp [results,Tryz.results283,go_sem,x0,x1,x2,x3,x4,x5,p0,p1,p2,p3,p4,p5]) rfl ⟨m0,m1,m2,.slice none 0 0,(k:Int),[],by rw [HE.out.1],HE.out.2,⟨rfl,.inl ⟨rfl,rfl⟩⟩,?_⟩
          refine Below.drew ?_
          repeat (refine Below.setCell ?_ (by simp<;>omega) _)
          exact kr
theorem sign_step (s:ByteArray) (k:Nat) (hk:k<7):signGo s (7-k)=if headB s (signsS.getD k ⟨#[]⟩) then (numsS.getD k 0,cutRest s (signsS.getD k ⟨#[]⟩)) else signGo s (7-(k+1)):=by
 have h:k=0∨k=1∨k=2∨k=3∨k=4∨k=5∨k=6:=by omega
 rcases h with rfl|rfl|rfl|rfl|rfl|rfl|rfl<;>rfl
theorem sign_hit (s:ByteArray) (k:Nat) (hk:k<8) (h:headB s (signsS.getD k ⟨#[]⟩)=true):signGo s (7-k)=(numsS.getD k 0,s.extract (signsS.getD k ⟨#[]⟩).size s.size):=by
 by_cases h7:k=7
 ·subst h7
  show ((0:Int),s)=(0,s.extract 0 s.size)
  simp
 ·rw [sign_step s k (by omega),if_pos h,cutRest,if_pos h]
theorem sign_none (s:ByteArray):headB s (signsS.getD 7 ⟨#[]⟩)=true:=by
 have h:(s.extract 0 0).toList=[]:=by rw [ByteArray.toList_eq];simp
 have h2:(⟨#[]⟩:ByteArray).toList=[]:=by rw [ByteArray.toList_eq]
 show (decide (0≤s.size)&&((s.extract 0 0).toList == (⟨#[]⟩:ByteArray).toList))=true
 rw [h,h2];simp
theorem signsS_small : ∀ k,k<8→(signsS.getD k ⟨#[]⟩).size≤2:=by decide+kernel
def wordS (s:ByteArray):Bool:=decide (s=⟨#[42]⟩)||partOk (signRest s)
theorem own_empty (w:World) (lo:Nat) (h:lo≤w.heap.size):CmpsOwn lo (w.alloc (.cells #[] 214)) (.slice (some ⟨w.heap.size,0,none⟩) 0 0) []:=
 ⟨[],fun _=>.slice none 0 0,World.ownsRow_lit w #[] 0 (base:=lo) (e:=214) (size:=5) h (by unfold maxLen;omega) rfl,fun i h=>absurd h (by simp),fun i j h=>absurd h (by simp)⟩
theorem signs_row (w:World): ∀ k,k<8→(w.alloc (.cells #[.string ⟨#[94]⟩,.string ⟨#[126]⟩,.string ⟨#[62,61]⟩,.string ⟨#[62]⟩,.string ⟨#[60,61]⟩,.string ⟨#[60]⟩,.string ⟨#[61]⟩,.string ⟨#[]⟩] 9)).cell? ⟨w.heap.size,k,none⟩=some (.string (signsS.getD k ⟨#[]⟩)):=fun k hk=>by
 have hh:=vblk_cell (vheap_new w (.cells #[.string ⟨#[94]⟩,.string ⟨#[126]⟩,.string ⟨#[62,61]⟩,.string ⟨#[62]⟩,.string ⟨#[60,61]⟩,.string ⟨#[60]⟩,.string ⟨#[61]⟩,.string ⟨#[]⟩] 9)) k
 rw [hh]
 have h:k=0∨k=1∨k=2∨k=3∨k=4∨k=5∨k=6∨k=7:=by omega
 rcases h with rfl|rfl|rfl|rfl|rfl|rfl|rfl|rfl<;>rfl
theorem l4Word_c (s:ByteArray) (hs:s.size≤1048576) (w:World):
  Calls Tryz.prog 236 #[.string s] w fun e w'=>∃ v,e=.returned (.tuple #[v,.bool (wordS s)])∧CmpsOwn w.heap.size w' v (wordD s)∧Below w.heap.size w w':=by
 by_cases hst:s=⟨#[42]⟩
 ·subst hst
  have e1:wordS ⟨#[42]⟩=true:=by rfl
  have e2:wordD ⟨#[42]⟩=[⟨4,0,0,0,[]⟩]:=by simp [wordD]
  rw [e1,e2]
  clear e1 e2
  go_enter Tryz.func236,Tryz.ntmps236
  go_wp2_with fail
  go_ret2
  exact ⟨_,rfl,one_own ⟨4,0,0,0,[]⟩ rfl (Nat.le_refl _) (owns_nil _ _),(Below.refl _ _).alloc (Nat.le_refl _) _⟩
 have hsb:(s.toList == [42])=false:=by rw [beq_eq_false_iff_ne];intro h;exact hst (bytes_eq_of_toList (by rw [h,ByteArray.toList_eq]))
 have HW:Hid (wordS s=partOk (signGo s 7).2∧wordD s=if partOk (signGo s 7).2 then makeC (signGo s 7).1 (partA (signGo s 7).2) (partB' (signGo s 7).2) (partC (signGo s 7).2) (partP (signGo s 7).2) (partT (signGo s 7).2) else []):=⟨by simp [wordS,hst,signRest],by rw [wordD,if_neg hst];rfl⟩
 obtain ⟨OK,hOK⟩: ∃ y,y=wordS s:=⟨_,rfl⟩
 obtain ⟨DS,hDS⟩: ∃ y,y=wordD s:=⟨_,rfl⟩
 rw [←hOK, ←hDS] at HW
 rw [←hOK, ←hDS]
 have hrow:=signs_row w
 have hW1:Below w.heap.size w (w.alloc (.cells #[.string ⟨#[94]⟩,.string ⟨#[126]⟩,.string ⟨#[62,61]⟩,.string ⟨#[62]⟩,.string ⟨#[60,61]⟩,.string ⟨#[60]⟩,.string ⟨#[61]⟩,.string ⟨#[]⟩] 9)):=(Below.refl _ _).alloc (Nat.le_refl _) _
 have hl1:w.heap.size<(w.alloc (.cells #[.string ⟨#[94]⟩,.string ⟨#[126]⟩,.string ⟨#[62,61]⟩,.string ⟨#[62]⟩,.string ⟨#[60,61]⟩,.string ⟨#[60]⟩,.string ⟨#[61]⟩,.string ⟨#[]⟩] 9)).heap.size:=by simp
 obtain ⟨W1,hW1d⟩: ∃ x,x=w.alloc (.cells #[.string ⟨#[94]⟩,.string ⟨#[126]⟩,.string ⟨#[62,61]⟩,.string ⟨#[62]⟩,.string ⟨#[60,61]⟩,.string ⟨#[60]⟩,.string ⟨#[61]⟩,.string ⟨#[]⟩] 9):=⟨_,rfl⟩
 rw [←hW1d] at hrow hW1 hl1
 clear hst hOK hDS
 go_enter Tryz.func236,Tryz.ntmps236
 go_wp2_with fail
 rw [←hW1d]
 clear hW1d
 go_loopw [5,6] (fun vi vn wr=>∃ k:Nat,k≤7∧vi=.int .i64 (k:Int)∧Hid (signGo s 7=signGo s (7-k))∧Below W1.heap.size W1 wr) (fun vi _ _=>8-(intOf vi).toNat)
 case atStart=>exact ⟨0,by omega,rfl,rfl,Below.refl _ _⟩
 case round=>
  obtain ⟨k,hk,rfl,hh,hbr⟩:=hrel
  have hk8:(k:Int)<8:=by omega
  have hck:=(hbr.cell (by simpa using hl1)).trans (hrow k (by omega))
  have kr:=hW1.trans (hbr.mono hW1.size)
  have hgz:=signsS_small k (by omega)
  have HHIT:Hid (headB s (signsS.getD k ⟨#[]⟩)=true→signGo s 7=(numsS.getD k 0,s.extract (signsS.getD k ⟨#[]⟩).size s.size)):=fun h=>by rw [hh.out];exact sign_hit s k (by omega) h
  have HMISS:Hid (headB s (signsS.getD k ⟨#[]⟩)=false→k+1≤7∧signGo s 7=signGo s (7-(k+1))):=fun h=>by
   have h7:k≠7:=fun e=>by subst e;rw [sign_none] at h;exact Bool.noConfusion h
   exact ⟨by omega,by rw [hh.out,sign_step s k (by omega),if_neg (by rw [h];simp)]⟩
  have HMK:Hid (∀ (lo:Nat) (a b c:Int) (u:Value) (ps:List ByteArray) (t:Int) (w:World),lo≤w.heap.size→numsOk a b c→(t=1∨t=2∨t=3)→w.ownsRow lo 9 1 u ps.length (strsV ps)→Calls Tryz.prog 284 #[.string (signsS.getD k ⟨#[]⟩),.agg #[.int .i64 a,.int .i64 b,.int .i64 c,u,.int .i64 t,.bool true]] w fun e w'=>∃ v,e=.returned v∧CmpsOwn lo w' v (makeC (numsS.getD k 0) a b c ps t)∧Below w.heap.size w w'):=fun lo a b c u ps t w h1 h2 h3 h4=>l4Make_c k (by omega) lo a b c u ps t true w h1 h2 h3 h4
  have hhe:headB s (signsS.getD k ⟨#[]⟩)=(decide ((signsS.getD k ⟨#[]⟩).size≤s.size)&&(s.extract 0 (signsS.getD k ⟨#[]⟩).size).toList == (signsS.getD k ⟨#[]⟩).toList):=rfl
  obtain ⟨sn,hsn⟩: ∃ x,x=numsS.getD k 0:=⟨_,rfl⟩
  obtain ⟨g,hg⟩: ∃ x,x=signsS.getD k ⟨#[]⟩:=⟨_,rfl⟩
  rw [←hg] at hck hgz HHIT HMISS hhe
  rw [←hg, ←hsn] at HMK
  rw [←hsn] at HHIT
  clear hg hsn hh hrow
  by_cases hle:g.size≤s.size
  ·have hle':(g.size:Int)≤(s.size:Int):=by omega
   cases hq:((s.extract 0 g.size).toList == g.toList) with
   |false=>
    obtain ⟨h7,hn⟩:=HMISS.out (by rw [hhe,hq];simp)
    have HN:Hid (signGo s 7=signGo s (7-(k+1))):=hn
    clear HMISS HHIT HMK hhe hn HW
    go_wp2_with fail
    go_quiet (fail)
    go_wp2_with fail
    go_roundw
    case rel=>exact ⟨k+1,h7,by go_num,HN,below_drewN' hbr _⟩
    case measure=>simp [intOf];omega
   |true=>
    have hsg:=HHIT.out (by rw [hhe,hq];simp [hle])
    have hrz:(s.extract g.size s.size).size≤1048576:=by rw [ByteArray.size_extract];omega
    have HRD:=l4Read_c (s.extract g.size s.size) hrz
    have HNM:= @part_nums (s.extract g.size s.size)
    rw [hsg] at HW
    obtain ⟨r,hr⟩: ∃ x,x=s.extract g.size s.size:=⟨_,rfl⟩
    rw [←hr] at HRD HNM HW
    have HRD2:Hid (∀ w1,Calls Tryz.prog 283 #[.string (s.extract g.size s.size)] w1 fun e w'=>readPost w1 r (partOk r) e w'):=by rw [←hr];exact HRD
    clear HMISS HHIT hhe hsg hrz HRD hr
    go_wp2_with fail
    go_quiet (fail)
    have kq:=below_drewN' kr nq
    have hcq:(wr.drewN nq).cell? ⟨w.heap.size,k,none⟩=some (.string g):=hck
    have hlq:w.heap.size<(wr.drewN nq).heap.size:=Nat.lt_of_lt_of_le hl1 hbr.size
    generalize wr.drewN nq=WQ at kq hcq hlq ⊢
    clear hck kr
    cases hok:partOk r with
    |false=>
     rw [hok] at HRD2 HW
     have HE:Hid (OK=false∧DS=[]):=by show _∧_;simpa using HW.out
     clear HW HNM HMK hok
     go_wp2_with fail
     go_at_call 283
     refine (HRD2.out _).mono ?_
     rintro e w2 ⟨a,b,c,u,t,ps,rfl,_,ou,b2⟩
     obtain ⟨uq,un,uc,hu⟩: ∃ q n c,u=.slice q n c:=by rcases ou.2 with ⟨rfl,_⟩|⟨g,cap,cur,rfl,_⟩<;>exact ⟨_,_,_,rfl⟩
     subst hu
     have k2:=kq.trans (b2.mono kq.size)
     go_wp2_with fail
     go_ret2
     refine ⟨_,by rw [HE.out.1];rfl,?_,?_⟩
     ·rw [HE.out.2]
      have hz: ∀ o,(w2.alloc o).heap.size=w2.heap.size+1:=fun o=>by simp
      have h:=fun o=>own_empty (w2.alloc o) w.heap.size (by rw [hz];have:=k2.size;omega)
      simp only [hz] at h
      exact h _
     ·exact (k2.alloc k2.size _).alloc (by rw [show ∀ o,(w2.alloc o).heap.size=w2.heap.size+1 from fun o=>by simp];have:=k2.size;omega) _
    |true=>
     rw [hok] at HRD2 HW
     have HE:Hid (OK=true∧DS=makeC sn (partA r) (partB' r) (partC r) (partP r) (partT r)):=by show _∧_;simpa using HW.out
     obtain ⟨hn1,hn2,_⟩:=HNM hok
     clear HW HNM hok
     go_wp2_with fail
     go_at_call 283
     refine (HRD2.out _).mono ?_
     rintro e w2 ⟨a,b,c,u,t,ps,rfl,hi,ou,b2⟩
     obtain ⟨ha,hb,hc,ht,hp⟩:=hi rfl
     obtain ⟨uq,un,uc,hu⟩: ∃ q n c,u=.slice q n c:=by rcases ou.2 with ⟨rfl,_⟩|⟨g,cap,cur,rfl,_⟩<;>exact ⟨_,_,_,rfl⟩
     subst hu
     have k2:=kq.trans (b2.mono kq.size)
     have hc2:=(b2.cell (by simpa using hlq)).trans hcq
     rw [←ha, ←hb, ←hc] at hn1
     rw [←ht] at hn2
     rw [←ha, ←hb, ←hc, ←ht, ←hp] at HE
     have HM2:Hid (∀ w1,Below w2.heap.size w2 w1→Calls Tryz.prog 284 #[.string g,.agg #[.int .i64 a,.int .i64 b,.int .i64 c,.slice uq un uc,.int .i64 t,.bool true]] w1 fun e w'=>∃ v,e=.returned v∧CmpsOwn w.heap.size w' v (makeC sn a b c ps t)∧Below w.heap.size w w'):=fun w1 h1=>(HMK.out w.heap.size a b c _ ps t w1 (Nat.le_trans k2.size h1.size) hn1 hn2 (owns_base (owns_of_below ou h1) kq.size)).mono (fun e w' ⟨v,h2,h3,h4⟩=>⟨v,h2,h3,(k2.trans (h1.mono k2.size)).trans (h4.mono (Nat.le_trans k2.size h1.size))⟩)
     have hA: ∀ o n,Below w2.heap.size w2 ((w2.alloc o).drewN n):=fun o n=>below_drewN' ((Below.refl _ _).alloc (Nat.le_refl _) _) n
     have hA1: ∀ o,Below w2.heap.size w2 ((w2.alloc o).drew):=fun o=>((Below.refl _ _).alloc (Nat.le_refl _) _).drew
     have hl2:w.heap.size<w2.heap.size:=Nat.lt_of_lt_of_le hlq b2.size
     have hc3: ∀ o,(w2.alloc o).cell? ⟨w.heap.size,k,none⟩=some (.string g):=fun o=>((((Below.refl w2.heap.size w2).alloc (Nat.le_refl _) o).cell (by simpa using hl2))).trans hc2
     have hc3': ∀ o,(w2.alloc o).drew.cell? ⟨w.heap.size,k,none⟩=some (.string g):=fun o=>hc3 o
     clear HMK ha hb hc ht hp hi hn1 hn2 hcq
     go_wp2_with fail
     go_region_with (go_at_call 284;refine (HM2.out _ (hA1 _)).mono ?_;rintro e w4 ⟨v4,rfl,o4,k4⟩;obtain ⟨q4,c4,us4,hq4,_,_⟩:=o4.at;subst hq4)
     all_goals go_wp2_with fail
     all_goals go_ret2
     all_goals exact ⟨_,by rw [HE.out.1];rfl,by rw [HE.out.2];exact o4,k4⟩
  ·have hle': ¬(g.size:Int)≤(s.size:Int):=by omega
   have hled:decide ((g.size:Int)≤(s.size:Int))=false:=by simpa using hle
   obtain ⟨h7,hn⟩:=HMISS.out (by rw [hhe];simp [hle])
   have HN:Hid (signGo s 7=signGo s (7-(k+1))):=hn
   clear HMISS HHIT HMK hhe hn HW
   go_wp2_with fail
   go_quiet (fail)
   go_wp2_with fail
   go_roundw
   case rel=>exact ⟨k+1,h7,by go_num,HN,below_drewN' hbr _⟩
   case measure=>simp [intOf];omega
end Go.Proofs.YtlfmefojcmpfeaaGreatDoor
