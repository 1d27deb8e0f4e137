/-
  Contracts for the walks and pure facts, several texts in one: each theorem says what it proves, and under which conditions.
-/
import Derived.Test.YtlfmefojcmpfeaaGreatDoorUT
import Derived.Test.YtlfmefojcmpfeaaGreatDoorU4
set_option linter.unusedSimpArgs false
set_option linter.unusedVariables false
set_option maxHeartbeats 16000000
set_option maxRecDepth 100000
namespace Go.Proofs.YtlfmefojcmpfeaaGreatDoor
open Go.RowKit
def wordL (s:ByteArray) (b i:Nat):List Int:=(s.extract b i).data.toList.map fun u=>(u.toNat:Int)
theorem word_str (s:ByteArray) (b i:Nat):strOfNums (wordL s b i)=s.extract b i:=by
 apply vext
 rw [strOfNums_data,wordL,List.map_map]
 conv=>rhs;rw [←List.map_id (s.extract b i).data.toList]
 apply List.map_congr_left
 intro u _
 simp
theorem word_nil (s:ByteArray) (b:Nat):wordL s b b=[]:=by rw [wordL,vextract,Nat.sub_self];rfl
theorem word_snoc (s:ByteArray) (b i:Nat) (hb:b≤i) (hi:i<s.size):wordL s b (i+1)=wordL s b i++[((s.data[i]!).toNat:Int)]:=by
 rw [wordL,wordL,vextract,vextract,show i+1-b=(i-b)+1 by omega,List.take_succ_eq_append_getElem (by rw [List.length_drop,vlen];omega),List.map_append,List.getElem_drop]
 have e:s.data.toList[b+(i-b)]'(by rw [vlen];omega)=s.data[i]! :=by
  rw [getElem!_pos s.data i hi]
  simp [show b+(i-b)=i by omega]
 rw [e];rfl
theorem word_len (s:ByteArray) (b i:Nat) (hb:b≤i) (hi:i≤s.size):(wordL s b i).length=i-b:=by
 rw [wordL,List.length_map,vlen,vsize s b i hb hi]
def endsB (c:Int) (inP:Bool):Bool:=c == 46||(c == 45&& !inP)
def takeOk (c:Int) (ns:List Int) (ps:List ByteArray) (inP:Bool) (t:ByteArray):Bool:=if endsB c inP then endOk ns ps inP t else preB c
def takeNs (c:Int) (ns:List Int) (inP:Bool) (t:ByteArray):List Int:=if endsB c inP then endNs ns inP t else ns
def takePs (c:Int) (ps:List ByteArray) (inP:Bool) (t:ByteArray):List ByteArray:=if endsB c inP then endPs ps inP t else ps
def takeIn (c:Int) (inP:Bool):Bool:=inP||c == 45
def takeWs (c:Int) (ws:List Int) (inP:Bool):List Int:=if endsB c inP then [] else ws++[c]
theorem takes_c (R base:Nat) (ws ns:List Int) (ps:List ByteArray) (inP:Bool) (c:Int) (w:World) (h:Rd w R base ws ns ps inP) (hR:R<base) (hbw:base≤w.heap.size) (hw:ws.length≤1048576) (hns:ns.length≤1048576) (hps:ps.length≤1048576):
  Calls Tryz.prog 292 #[.pointer (some ⟨R,0,none⟩),.int .i32 c] w fun e w'=>e=.returned (.bool (takeOk c ns ps inP (strOfNums ws)))∧(takeOk c ns ps inP (strOfNums ws)=true→Rd w' R base (takeWs c ws inP) (takeNs c ns inP (strOfNums ws)) (takePs c ps inP (strOfNums ws)) (takeIn c inP))∧Only R base w w':=by
 by_cases h1:c=46
 ·subst h1
  refine (takes_dot R base ws ns ps inP w h hR hbw hw hns hps).mono ?_
  rintro e w' ⟨rfl,h1,o1⟩
  have e:endsB 46 inP=true:=by simp [endsB]
  have e2:takeIn 46 inP=inP:=by simp [takeIn]
  rw [takeOk,takeWs,takeNs,takePs,e,e2]
  exact ⟨rfl,fun _=>h1,o1⟩
 ·by_cases h2:c=45∧inP=false
  ·obtain ⟨rfl,rfl⟩:=h2
   refine (takes_dash R base ws ns ps w h hR hbw hw hns hps).mono ?_
   rintro e w' ⟨rfl,h1,o1⟩
   exact ⟨rfl,fun _=>h1,o1⟩
  ·have e:endsB c inP=false:=by
    cases inP
    ·have: ¬c=45:=fun h=>h2 ⟨h,rfl⟩
     simp [endsB,h1,this]
    ·simp [endsB,h1]
   rw [takeOk,takeWs,takeNs,takePs,e]
   cases hp:preB c with
   |true=>
    refine (takes_sign R base ws ns ps inP c w h hR hbw hw h1 h2 hp).mono ?_
    rintro e w' ⟨rfl,h1,o1⟩
    have e2:takeIn c inP=inP:=by
     cases inP
     ·have: ¬c=45:=fun h=>h2 ⟨h,rfl⟩
      simp [takeIn,this]
     ·simp [takeIn]
    rw [e2]
    exact ⟨rfl,fun _=>h1,o1⟩
   |false=>
    have h3: ¬c=45:=fun h=>by subst h;exact absurd hp (by decide)
    refine (takes_bad R base ws ns ps inP c w h h1 h3 hp).mono ?_
    rintro e w' ⟨rfl,rfl⟩
    exact ⟨rfl,fun h=>by simp at h,Only.refl _ _ _⟩
theorem reads_step (s:ByteArray) (i b:Nat) (ns:List Int) (ps:List ByteArray) (inP:Bool) (hi:i<s.size) (c:Int) (hc:c=((s.data[i]!).toNat:Int)):
  reads s (s.size-i) i b ns ps inP=if takeOk c ns ps inP (s.extract b i) then reads s (s.size-(i+1)) (i+1) (if endsB c inP then i+1 else b) (takeNs c ns inP (s.extract b i)) (takePs c ps inP (s.extract b i)) (takeIn c inP) else none:=by
 subst hc
 rw [show s.size-i=(s.size-(i+1))+1 by omega,reads]
 generalize ((s.data[i]!).toNat:Int)=c
 by_cases h1:c=46
 ·subst h1
  simp [takeOk,takeNs,takePs,takeIn,endsB]
 ·rw [if_neg h1]
  by_cases h2:c=45∧inP=false
  ·obtain ⟨rfl,rfl⟩:=h2
   simp [takeOk,takeNs,takePs,takeIn,endsB]
  ·rw [if_neg h2]
   have e:endsB c inP=false:=by
    cases inP
    ·have: ¬c=45:=fun h=>h2 ⟨h,rfl⟩
     simp [endsB,h1,this]
    ·simp [endsB,h1]
   have e2:takeIn c inP=inP:=by
    cases inP
    ·have: ¬c=45:=fun h=>h2 ⟨h,rfl⟩
     simp [takeIn,this]
    ·simp [takeIn]
   rw [takeOk,takeNs,takePs,e,e2]
   simp
theorem take_len {c:Int} {ns:List Int} {ps:List ByteArray} {inP:Bool} {t:ByteArray} (h:takeOk c ns ps inP t=true) (hn:ns.length≤3) (hp:ps.length≤3):(takeNs c ns inP t).length≤3∧(takePs c ps inP t).length≤3:=by
 unfold takeOk takeNs takePs at*
 cases he:endsB c inP
 ·simp [he,hn,hp]
 ·rw [he] at h
  cases inP
  ·simp [endOk,endNs,endPs] at*;omega
  ·simp [endOk,endNs,endPs] at*;omega
theorem iter_four {w:World} {R k:Nat} {t:TypeId} {c0 c1 c2 c3:Value} (h:Four w R t c0 c1 c2 c3) (hk:R≠k) (s:ByteArray) (p:Nat):Four (w.iterAt k s p) R t c0 c1 c2 c3:=(Lib.iterAt_other w k R s p hk).trans h
theorem iter_owns {w:World} {base:Nat} {e:TypeId} {v:Value} {n:Nat} {xs:List Value} (h:w.ownsRow base e 1 v n xs) {k:Nat} (hk:k<base) (s:ByteArray) (p:Nat):(w.iterAt k s p).ownsRow base e 1 v n xs:=by
 obtain ⟨h1,h2⟩:=h
 refine ⟨h1,?_⟩
 rcases h2 with h2|⟨g,cap,cur,a,b,c,d⟩
 ·exact .inl h2
 ·exact .inr ⟨g,cap,cur,a,b,by rw [Lib.iterAt_other _ _ _ _ _ (by omega)];exact c,d⟩
theorem Rd.iter {w:World} {R base:Nat} {ws ns:List Int} {ps:List ByteArray} {inP:Bool} (h:Rd w R base ws ns ps inP) {k:Nat} (hk:k<base) (hR:R≠k) (s:ByteArray) (p:Nat):Rd (w.iterAt k s p) R base ws ns ps inP:=by
 obtain ⟨x1,x2,x3,y1,y2,y3,y4⟩:=h
 exact ⟨x1,x2,x3,iter_four y1 hR s p,iter_owns y2 hk s p,iter_owns y3 hk s p,iter_owns y4 hk s p⟩
def resAll (s:ByteArray):Option (List Int × List ByteArray):=reads s s.size 0 0 [] [] false
def resOk (s:ByteArray):Bool:=(resAll s).isSome
def resN (s:ByteArray) (j:Nat):Int:=match resAll s with|some (ns,_)=>ns.getD j 0|none=>0
def resP (s:ByteArray):List ByteArray:=match resAll s with|some (_,ps)=>ps|none=>[]
def verOut (s:ByteArray) (u:Value):Value:=.tuple #[.agg #[.int .i64 (resN s 0),.int .i64 (resN s 1),.int .i64 (resN s 2),u],.bool (resOk s)]
theorem out_none {s:ByteArray} (h:resAll s=none):verOut s (.slice none 0 0)=.tuple #[.agg #[.int .i64 0,.int .i64 0,.int .i64 0,.slice none 0 0],.bool false]∧resP s=[]:=by
 simp [verOut,resN,resOk,resP,h]
theorem out_some {s:ByteArray} {ns:List Int} {ps:List ByteArray} (h:resAll s=some (ns,ps)) (u:Value):verOut s u=.tuple #[.agg #[.int .i64 (ns.getD 0 0),.int .i64 (ns.getD 1 0),.int .i64 (ns.getD 2 0),u],.bool true]∧resP s=ps:=by
 simp [verOut,resN,resOk,resP,h]
theorem Only.four {R base N:Nat} {w w':World} {t:TypeId} {c0 c1 c2 c3:Value} (h:Only R base w w') (hF:Four w N t c0 c1 c2 c3) (hN:N<base) (hR:N≠R):Four w' N t c0 c1 c2 c3:=(h.block N hN hR).trans hF
theorem Only.belowW {R base B:Nat} {w0 w w':World} (h:Only R base w w') (hb:Below B w0 w) (hB:B≤base) (hR:B≤R):Below B w0 w':=
 hb.trans ⟨h.os,h.tape,h.output,h.size,fun k hk=>h.block k (by omega) (by omega)⟩
theorem far4 {w:World} {N g j:Nat} {v0 v1 v2 v3:Value} (h:g≠N):((((w.setCell ⟨N,0,none⟩ v0).setCell ⟨N,1,none⟩ v1).setCell ⟨N,2,none⟩ v2).setCell ⟨N,3,none⟩ v3).drew.cell? ⟨g,j,none⟩=w.cell? ⟨g,j,none⟩:=by
 have hh: ∀ (a:World) (i:Nat) (x:Value),(a.setCell ⟨N,i,none⟩ x).cell? ⟨g,j,none⟩=a.cell? ⟨g,j,none⟩:=fun a i x=>World.cell?_setCell_other _ _ _ _ (by intro e;injection e;omega)
 show ((((w.setCell ⟨N,0,none⟩ v0).setCell ⟨N,1,none⟩ v1).setCell ⟨N,2,none⟩ v2).setCell ⟨N,3,none⟩ v3).cell? ⟨g,j,none⟩=_
 rw [hh,hh,hh,hh]
theorem owns_lower {w:World} {base base':Nat} {e:TypeId} {v:Value} {n:Nat} {xs:List Value} (h:w.ownsRow base e 1 v n xs) (hb:base'≤base):w.ownsRow base' e 1 v n xs:=by
 obtain ⟨h1,h2⟩:=h
 refine ⟨h1,?_⟩
 rcases h2 with h2|⟨g,cap,cur,a,b,c⟩
 ·exact .inl h2
 ·exact .inr ⟨g,cap,cur,a,Nat.le_trans hb b,c⟩
theorem endNs_len {ns:List Int} {inP:Bool} {t:ByteArray} (h:ns.length≤3):(endNs ns inP t).length≤4:=by
 cases inP<;>simp [endNs]<;>omega
theorem two_new {w:World} (o o':Obj):Below w.heap.size w ((w.alloc o).alloc o'):=((Below.refl _ _).alloc (Nat.le_refl _) _).alloc (by simp) _
theorem implParse_c (s:ByteArray) (hs:s.size≤1048576) (w:World):
  Calls Tryz.prog 258 #[.string s] w fun e w'=>∃ u,e=.returned (verOut s u)∧w'.ownsRow w.heap.size 9 1 u (resP s).length (strsV (resP s))∧Below w.heap.size w w':=by
 obtain ⟨A0,B0⟩:=four_two w 30 335 (.int .i64 0) (.int .i64 0) (.int .i64 0) (.slice none 0 0) (.slice none 0 0) (.slice none 0 0) (.slice none 0 0) (.bool false)
 have hbW:=two_new (w:=w) (.cells #[.int .i64 0,.int .i64 0,.int .i64 0,.slice none 0 0] 30) (.cells #[.slice none 0 0,.slice none 0 0,.slice none 0 0,.bool false] 335)
 have hsW:((w.alloc (.cells #[.int .i64 0,.int .i64 0,.int .i64 0,.slice none 0 0] 30)).alloc (.cells #[.slice none 0 0,.slice none 0 0,.slice none 0 0,.bool false] 335)).heap.size=w.heap.size+1+1:=by simp
 go_enter Tryz.func258,Tryz.ntmps258
 go_wp2
 go_loopw [6] (fun _ wr=>∃ (pos b:Nat) (ns:List Int) (ps:List ByteArray) (inP:Bool),pos≤s.size∧b≤pos∧ns.length≤3∧ps.length≤3∧wr.heap[w.heap.size+1+1]?=some (.stringIter s pos)∧Rd wr (w.heap.size+1) (w.heap.size+1+1+1) (wordL s b pos) ns ps inP∧Hid (reads s (s.size-pos) pos b ns ps inP=resAll s)∧Below w.heap.size w wr∧Four wr w.heap.size 30 (.int .i64 0) (.int .i64 0) (.int .i64 0) (.slice none 0 0)∧w.heap.size+1+1+1≤wr.heap.size) (fun _ wr=>s.size-wr.iterPos (w.heap.size+1+1))
 case atStart=>
  refine ⟨0,0,[],[],false,Nat.zero_le _,Nat.le_refl _,by simp,by simp,?_,⟨_,_,_,four_old B0 _,?_,?_,?_⟩,rfl,hbW.alloc hbW.size _,four_old A0 _,by simp [World.iter]⟩
  ·have:=World.iter_heap ((w.alloc (.cells #[.int .i64 0,.int .i64 0,.int .i64 0,.slice none 0 0] 30)).alloc (.cells #[.slice none 0 0,.slice none 0 0,.slice none 0 0,.bool false] 335)) s 0
   rw [hsW] at this
   exact this
  ·rw [word_nil];exact World.ownsRow_nil _ _ _ _
  ·exact World.ownsRow_nil _ _ _ _
  ·exact World.ownsRow_nil _ _ _ _
 case round=>
  obtain ⟨pos,b,ns,ps,inP,hk,hbp,hns,hps,hit,hRd,hh,hbw,hA,hsz⟩:=hrel
  have hpos0:=iterPos_of hit
  clear A0 B0 hbW hsW
  by_cases hp:pos<s.size
  ·obtain ⟨c,d,hd,hc⟩: ∃ (c:Int) (d:Nat),(∀ ty,(Instr.next (.pointer (some ⟨w.heap.size+1+1,0,none⟩)) true ty).run Tryz.prog wr=.ok (.tuple #[.bool true,.int .i64 pos,.int .i32 c]) (wr.iterAt (w.heap.size+1+1) s (pos+d)))∧((c=((s.data[pos]!).toNat:Int)∧d=1)∨(128≤c∧128≤((s.data[pos]!).toNat:Int))):=by
    by_cases ha:(s[pos]).toNat<128
    ·exact ⟨_,1,fun ty=>Lib.run_next_ascii_at wr _ s pos ty hit hp ha,.inl ⟨by rw [byteBang s pos hp],rfl⟩⟩
    ·exact ⟨_,_,fun ty=>Lib.run_next_any_at wr _ s pos ty hit hp,.inr ⟨by have:=(decode_high s pos hp (by omega)).1;omega,by rw [byteBang s pos hp];omega⟩⟩
   have hit2:=Lib.iterAt_heap wr (w.heap.size+1+1) s pos (pos+d) hit
   have hbw2:=Lib.below_iterAt hbw (k:=w.heap.size+1+1) (by omega) s (pos+d)
   have hRd2:=hRd.iter (k:=w.heap.size+1+1) (by omega) (by omega) s (pos+d)
   have hA2:=iter_four hA (k:=w.heap.size+1+1) (by omega) s (pos+d)
   have hsz2:w.heap.size+1+1+1≤(wr.iterAt (w.heap.size+1+1) s (pos+d)).heap.size:=by
    have:=(Array.getElem?_eq_some_iff.1 hit2).1;omega
   obtain ⟨W1,hW1⟩: ∃ W1,W1=wr.iterAt (w.heap.size+1+1) s (pos+d):=⟨_,rfl⟩
   rw [←hW1] at hd hit2 hbw2 hRd2 hA2 hsz2
   clear hW1 hit hbw hRd hA hsz
   have HT:=takes_c (w.heap.size+1) (w.heap.size+1+1+1) (wordL s b pos) ns ps inP c W1 hRd2 (by omega) hsz2 (by rw [word_len s b pos hbp (by omega)];omega) (by omega) (by omega)
   rw [word_str] at HT
   have HH:Hid (takeOk c ns ps inP (s.extract b pos)=false→resAll s=none):=fun h=>by
    rw [←hh.out]
    rcases hc with ⟨hc,_⟩|⟨h1,h2⟩
    ·rw [reads_step s pos b ns ps inP hp c hc,if_neg (by rw [h];simp)]
    ·rw [reads_step s pos b ns ps inP hp _ rfl]
     have e:takeOk ((s.data[pos]!).toNat:Int) ns ps inP (s.extract b pos)=false:=by
      have e1:endsB ((s.data[pos]!).toNat:Int) inP=false:=by simp [endsB];omega
      rw [takeOk,e1,if_neg (by simp),pre_high h2]
     rw [if_neg (by rw [e];simp)]
   have HG:Hid (takeOk c ns ps inP (s.extract b pos)=true→d=1∧c=((s.data[pos]!).toNat:Int)):=fun h=>by
    rcases hc with ⟨hc,hd⟩|⟨h1,h2⟩
    ·exact ⟨hd,hc⟩
    ·have e1:endsB c inP=false:=by simp [endsB];omega
     rw [takeOk,e1,if_neg (by simp),pre_high h1] at h
     cases h
   clear hc hRd2
   obtain ⟨ok,hok⟩: ∃ ok,ok=takeOk c ns ps inP (s.extract b pos):=⟨_,rfl⟩
   rw [←hok] at HT HH HG
   have HOK:Hid (ok=takeOk c ns ps inP (s.extract b pos)):=hok
   clear hok
   cases ok with
   |false=>
    go_wp2_with fail
    go_at_call 292
    refine HT.mono ?_
    rintro e w2 ⟨rfl,_,o2⟩
    have hA3:=o2.four hA2 (by omega) (by omega)
    obtain ⟨x0,x1,x2,x3⟩:=hA3.cells
    have f0:=hA3.frozen
    have hb3:=o2.belowW hbw2 (by omega) (by omega)
    have hnone:=HH.out (by trivial)
    go_wp2_with fail
    obtain ⟨ho1,ho2⟩:=out_none hnone
    refine bodyPost_ret (v:=.tuple #[.agg #[.int .i64 0,.int .i64 0,.int .i64 0,.slice none 0 0],.bool false]) (by simp [results,Tryz.results258,go_sem,x0,x1,x2,x3]) rfl ⟨.slice none 0 0,by rw [ho1],?_,?_⟩
    ·rw [ho2];exact World.ownsRow_nil _ _ _ _
    ·exact (((hb3.setCell (by simp) _).setCell (by simp) _).setCell (by simp) _).setCell (by simp) _
   |true=>
    go_wp2_with fail
    go_at_call 292
    refine HT.mono ?_
    rintro e w2 ⟨rfl,hR3,o2⟩
    go_wp2_with fail
    obtain ⟨hd1,hc1⟩:=HG.out (by trivial)
    have hA3:=o2.four hA2 (by omega) (by omega)
    have hl:=take_len HOK.out.symm hns hps
    have hit3:=(o2.block (w.heap.size+1+1) (by omega) (by omega)).trans hit2
    subst hd1
    go_roundw
    case rel=>
     refine ⟨pos+1,if endsB c inP then pos+1 else b,takeNs c ns inP (s.extract b pos),takePs c ps inP (s.extract b pos),takeIn c inP,by omega,by split<;>omega,hl.1,hl.2,hit3,?_,?_,o2.belowW hbw2 (by omega) (by omega),hA3,Nat.le_trans hsz2 o2.size⟩
     ·have e:wordL s (if endsB c inP then pos+1 else b) (pos+1)=takeWs c (wordL s b pos) inP:=by
       unfold takeWs
       split
       ·rw [word_nil]
       ·rw [word_snoc s b pos hbp hp, ←hc1]
      rw [e];exact hR3 (by trivial)
     ·show _=_
      rw [←hh.out,reads_step s pos b ns ps inP hp c hc1,if_pos HOK.out.symm]
    case measure=>rw [iterPos_of hit3,hpos0];omega
  ·have hnx: ∀ ty,(Instr.next (.pointer (some ⟨w.heap.size+1+1,0,none⟩)) true ty).run Tryz.prog wr=_:=fun ty=>Lib.run_next_end_at wr (w.heap.size+1+1) s pos ty hit hp
   have he:pos=s.size:=by omega
   subst he
   have HE:=ends_c (w.heap.size+1) (w.heap.size+1+1+1) (wordL s b s.size) ns ps inP wr hRd (by omega) hsz (by rw [word_len s b s.size hbp (by omega)];omega) (by omega) (by omega)
   rw [word_str] at HE
   have HR:Hid (resAll s=if endOk ns ps inP (s.extract b s.size)&&decide (3≤(endNs ns inP (s.extract b s.size)).length) then some (endNs ns inP (s.extract b s.size),endPs ps inP (s.extract b s.size)) else none):=by
    show _=_
    rw [←hh.out,Nat.sub_self,reads]
   obtain ⟨ok,hok⟩: ∃ ok,ok=endOk ns ps inP (s.extract b s.size):=⟨_,rfl⟩
   obtain ⟨ns2,hns2⟩: ∃ x,x=endNs ns inP (s.extract b s.size):=⟨_,rfl⟩
   obtain ⟨ps2,hps2⟩: ∃ x,x=endPs ps inP (s.extract b s.size):=⟨_,rfl⟩
   have hl2:ns2.length≤4:=by rw [hns2];exact endNs_len hns
   rw [←hok, ←hns2, ←hps2] at HE HR
   clear hok hns2 hps2 hRd hh hit
   go_wp2_with fail
   go_at_call 293
   refine HE.mono ?_
   rintro e w2 ⟨rfl,⟨vw,vn,vp,hF,hWr,hNr,hPr⟩,o2⟩
   have hA3:=o2.four hA (by omega) (by omega)
   obtain ⟨x0,x1,x2,x3⟩:=hA3.cells
   have f0:=hA3.frozen
   have hb3:=o2.belowW hbw (by omega) (by omega)
   have hsz3:=Nat.le_trans hsz o2.size
   obtain ⟨k0,k1,k2,k3⟩:=hF.cells
   have hNN:vn=.slice none 0 0∧ns2=[]∨∃ g cap,vn=.slice (some ⟨g,0,none⟩) ns2.length cap∧∀ j (h:j<ns2.length),w2.cell? ⟨g,j,none⟩=some (.int .i64 ns2[j]):=by
    rcases hNr.2 with ⟨rfl,h0⟩|⟨g,cap,cur,rfl,_⟩
    ·exact .inl ⟨rfl,List.eq_nil_of_length_eq_zero h0⟩
    ·exact .inr ⟨g,cap,rfl,fun j h=>by rw [hNr.cellAt j (by simpa using h)];simp [intsV,h]⟩
   clear hA hbw hWr HE hF
   cases ok with
   |false=>
    have hnone:resAll s=none:=by rw [HR.out];rfl
    obtain ⟨ho1,ho2⟩:=out_none hnone
    go_wp2_with fail
    refine bodyPost_ret (v:=.tuple #[.agg #[.int .i64 0,.int .i64 0,.int .i64 0,.slice none 0 0],.bool false]) (by simp [results,Tryz.results258,go_sem,x0,x1,x2,x3]) rfl ⟨.slice none 0 0,by rw [ho1],?_,?_⟩
    ·rw [ho2];exact World.ownsRow_nil _ _ _ _
    ·exact (((hb3.setCell (by simp) _).setCell (by simp) _).setCell (by simp) _).setCell (by simp) _
   |true=>
    rcases hNN with ⟨rfl,rfl⟩|⟨gn,cap,rfl,hcn⟩
    ·have hnone:resAll s=none:=by rw [HR.out];rfl
     obtain ⟨ho1,ho2⟩:=out_none hnone
     go_wp2_with fail
     refine bodyPost_ret (v:=.tuple #[.agg #[.int .i64 0,.int .i64 0,.int .i64 0,.slice none 0 0],.bool false]) (by simp [results,Tryz.results258,go_sem,x0,x1,x2,x3]) rfl ⟨.slice none 0 0,by rw [ho1],?_,?_⟩
     ·rw [ho2];exact World.ownsRow_nil _ _ _ _
     ·exact (((hb3.setCell (by simp) _).setCell (by simp) _).setCell (by simp) _).setCell (by simp) _
    ·by_cases h3:ns2.length<3
     ·have h3':(ns2.length:Int)<3:=by omega
      have hnone:resAll s=none:=by rw [HR.out,if_neg (by simp;omega)]
      clear hcn
      obtain ⟨ho1,ho2⟩:=out_none hnone
      go_wp2_with fail
      refine bodyPost_ret (v:=.tuple #[.agg #[.int .i64 0,.int .i64 0,.int .i64 0,.slice none 0 0],.bool false]) (by simp [results,Tryz.results258,go_sem,x0,x1,x2,x3]) rfl ⟨.slice none 0 0,by rw [ho1],?_,?_⟩
      ·rw [ho2];exact World.ownsRow_nil _ _ _ _
      ·exact (((hb3.setCell (by simp) _).setCell (by simp) _).setCell (by simp) _).setCell (by simp) _
     ·have h3': ¬(ns2.length:Int)<3:=by omega
      have hsome:resAll s=some (ns2,ps2):=by rw [HR.out,if_pos (by simp;omega)]
      have y0:=hcn 0 (by omega)
      have y1:=hcn 1 (by omega)
      have y2:=hcn 2 (by omega)
      obtain ⟨m0,hm0⟩: ∃ m,m=ns2[0]:=⟨_,rfl⟩
      obtain ⟨m1,hm1⟩: ∃ m,m=ns2[1]:=⟨_,rfl⟩
      obtain ⟨m2,hm2⟩: ∃ m,m=ns2[2]:=⟨_,rfl⟩
      rw [←hm0] at y0
      rw [←hm1] at y1
      rw [←hm2] at y2
      have M0:Hid (ns2.getD 0 0=m0):=by show _=_;rw [hm0];simp [List.getD_eq_getElem?_getD,show 0<ns2.length by omega]
      have M1:Hid (ns2.getD 1 0=m1):=by show _=_;rw [hm1];simp [List.getD_eq_getElem?_getD,show 1<ns2.length by omega]
      have M2:Hid (ns2.getD 2 0=m2):=by show _=_;rw [hm2];simp [List.getD_eq_getElem?_getD,show 2<ns2.length by omega]
      have i1:(0:Int)<(ns2.length:Int):=by omega
      have i2:(1:Int)<(ns2.length:Int):=by omega
      have i3:(2:Int)<(ns2.length:Int):=by omega
      clear hcn hm0 hm1 hm2 HR
      obtain ⟨pa,pn,pc,rfl⟩: ∃ a n cap,vp=.slice a n cap:=by rcases hPr.2 with ⟨rfl,_⟩|⟨g,cap,cur,rfl,_⟩<;>exact ⟨_,_,_,rfl⟩
      have hgN:gn≠w.heap.size:=by have:=(hNr.lt gn rfl).1;omega
      have KEEP:Hid (∀ v0 v1 v2 v3,((((w2.setCell ⟨w.heap.size,0,none⟩ v0).setCell ⟨w.heap.size,1,none⟩ v1).setCell ⟨w.heap.size,2,none⟩ v2).setCell ⟨w.heap.size,3,none⟩ v3).drew.cell? ⟨w.heap.size+1,1,none⟩=some (.slice (some ⟨gn,0,none⟩) ns2.length cap)∧((((w2.setCell ⟨w.heap.size,0,none⟩ v0).setCell ⟨w.heap.size,1,none⟩ v1).setCell ⟨w.heap.size,2,none⟩ v2).setCell ⟨w.heap.size,3,none⟩ v3).drew.cell? ⟨w.heap.size+1,2,none⟩=some (.slice pa pn pc)∧((((w2.setCell ⟨w.heap.size,0,none⟩ v0).setCell ⟨w.heap.size,1,none⟩ v1).setCell ⟨w.heap.size,2,none⟩ v2).setCell ⟨w.heap.size,3,none⟩ v3).drew.cell? ⟨gn,0,none⟩=some (.int .i64 m0)∧((((w2.setCell ⟨w.heap.size,0,none⟩ v0).setCell ⟨w.heap.size,1,none⟩ v1).setCell ⟨w.heap.size,2,none⟩ v2).setCell ⟨w.heap.size,3,none⟩ v3).drew.cell? ⟨gn,1,none⟩=some (.int .i64 m1)∧((((w2.setCell ⟨w.heap.size,0,none⟩ v0).setCell ⟨w.heap.size,1,none⟩ v1).setCell ⟨w.heap.size,2,none⟩ v2).setCell ⟨w.heap.size,3,none⟩ v3).drew.cell? ⟨gn,2,none⟩=some (.int .i64 m2)):=fun v0 v1 v2 v3=>⟨(far4 (Nat.succ_ne_self _)).trans k1,(far4 (Nat.succ_ne_self _)).trans k2,(far4 hgN).trans y0,(far4 hgN).trans y1,(far4 hgN).trans y2⟩
      go_wp2_with fail
      go_region_held (fun w'=>w'.cell? ⟨w.heap.size+1,1,none⟩=some (.slice (some ⟨gn,0,none⟩) ns2.length cap)∧w'.cell? ⟨w.heap.size+1,2,none⟩=some (.slice pa pn pc)∧w'.cell? ⟨gn,0,none⟩=some (.int .i64 m0)∧w'.cell? ⟨gn,1,none⟩=some (.int .i64 m1)∧w'.cell? ⟨gn,2,none⟩=some (.int .i64 m2)) (first|(with_reducible exact KEEP.out _ _ _ _)|go_keep) (fail)
      obtain ⟨ho1,ho2⟩:=out_some hsome (.slice pa pn pc)
      go_wp2_with fail
      refine bodyPost_ret (v:=.tuple #[.agg #[.int .i64 m0,.int .i64 m1,.int .i64 m2,.slice pa pn pc],.bool true]) (by simp [results,Tryz.results258,go_sem,x0,x1,x2,x3]) rfl ⟨.slice pa pn pc,by rw [ho1,M0.out,M1.out,M2.out],?_,?_⟩
      ·rw [ho2]
       have h4:=owns_set (owns_set (owns_set (owns_set hPr (p:=⟨w.heap.size,0,none⟩) (by simp;omega) (.int .i64 m0)) (p:=⟨w.heap.size,1,none⟩) (by simp;omega) (.int .i64 m1)) (p:=⟨w.heap.size,2,none⟩) (by simp;omega) (.int .i64 m2)) (p:=⟨w.heap.size,3,none⟩) (by simp;omega) (.slice pa pn pc)
       exact owns_lower h4 (by omega)
      ·exact ((((hb3.setCell (by simp) _).setCell (by simp) _).setCell (by simp) _).setCell (by simp) _).drew
theorem vsplit_bulk (s:ByteArray) (c:Int): ∀ (n i b:Nat),n=s.size-i→b≤i→i≤s.size→bulkS (splitGo s c (s.size-i) i b)=s.size-b+1
 |0,i,b,hn,hb,hi=>by
  obtain rfl:i=s.size:=by omega
  rw [splitGo_end,bulkS]
  simp [vsize s b s.size hb (Nat.le_refl _)];omega
 |n+1,i,b,hn,hb,hi=>by
  have hlt:i<s.size:=by omega
  by_cases h:((s.data[i]!).toNat:Int)=c
  ·have ih:=vsplit_bulk s c n (i+1) (i+1) (by omega) (Nat.le_refl _) (by omega)
   rw [splitGo_hit s c i b hlt h]
   unfold bulkS at ih ⊢
   simp only [List.length_cons,List.map_cons,List.sum_cons]
   rw [vsize s b i hb (by omega)]
   omega
  ·rw [splitGo_miss s c i b hlt h]
   exact vsplit_bulk s c n (i+1) b (by omega) (by omega) (by omega)
theorem vsplitS_bulk (s:ByteArray) (c:Int):bulkS (splitS s c)=s.size+1:=vsplit_bulk s c s.size 0 0 rfl (Nat.le_refl _) (Nat.zero_le _)
theorem parts_take (ps:List ByteArray): ∀ n,n≤ps.length→partsUpto ps n=(ps.take n).all partB
 |0,_=>by simp [partsUpto]
 |n+1,h=>by
  rw [partsUpto,parts_take ps n (by omega),List.take_succ_eq_append_getElem h,List.all_append]
  simp [List.getD_eq_getElem?_getD,show n<ps.length by omega]
theorem parts_all (ps:List ByteArray):partsUpto ps ps.length=ps.all partB:=by rw [parts_take ps ps.length (Nat.le_refl _),List.take_length]
theorem num_in {t:ByteArray} (h:numGood t 9999=true):inB (numOut t 9999) 0 9999=true:=by
 rw [numOut_good h]
 have h0:=h
 simp only [numGood,Bool.and_eq_true,decide_eq_true_eq] at h
 have h1:allUpto okDigit t t.size=true:=by
  cases hq:allUpto okDigit t t.size
  ·rw [good_of_piece hq] at h0;cases h0
  ·rfl
 have hb:=numUpto_bounds t t.size h1
 have hm:numUpto t t.size≤9999:=by
  by_cases hq:numUpto t t.size≤9999
  ·exact hq
  ·rw [bad_most (by omega)] at h0;cases h0
 simp only [inB,Bool.and_eq_true,decide_eq_true_eq]
 omega
theorem res_spec (s:ByteArray) (k:Nat) (hk:k≤s.size) (hd:k<s.size→((s.data[k]!).toNat:Int)=45) (hn: ∀ j,j<k→¬((s.data[j]!).toNat:Int)=45) (L P:List ByteArray) (hL:L=splitS (s.extract 0 k) 46) (hP:P=if k<s.size then splitS (s.extract (k+1) s.size) 46 else []):
  resAll s=if L.all (fun t=>numGood t 9999)&&decide (L.length=3)&&P.all partB&&decide (P.length≤3) then some (L.map (fun t=>numOut t 9999),P) else none:=by
 have e1:L=numsAt s k:=by rw [hL,split_pieces s 0 k (Nat.zero_le _) hk,numsAt,Nat.sub_zero]
 have e2:P=presAt s k:=by
  rw [hP,presAt]
  by_cases h:k<s.size
  ·rw [if_pos h,if_pos h,split_pieces s (k+1) s.size (by omega) (Nat.le_refl _)]
  ·rw [if_neg h,if_neg h]
 rw [resAll,reads_all s k hk hd hn,e1,e2]
 rfl
theorem three_of {L:List ByteArray} (h:L.length=3): ∃ t0 t1 t2,L=[t0,t1,t2]:=by
 match L,h with
 |[t0,t1,t2],_=>exact ⟨t0,t1,t2,rfl⟩
theorem vempty_add (x:ByteArray):(⟨#[]⟩:ByteArray)++x=x:=by
 apply vext
 simp
theorem vjoinUpto_cons (x:ByteArray) (xs:List ByteArray) (t:ByteArray): ∀ k,joinUpto (x::xs) t (k+2)=x++t++joinUpto xs t (k+1)
 |0=>by
  simp [joinUpto,vempty_add]
 |k+1=>by
  rw [joinUpto,if_neg (by omega),vjoinUpto_cons x xs t k]
  conv=>rhs;rw [joinUpto,if_neg (by omega)]
  simp [List.getD_cons_succ,ByteArray.append_assoc]
theorem vjoinS_cons (x:ByteArray) (xs:List ByteArray) (t:ByteArray) (h:xs≠[]):joinS (x::xs) t=x++t++joinS xs t:=by
 obtain ⟨n,hn⟩: ∃ n,xs.length=n+1:=⟨xs.length-1,by have:=List.length_pos_iff.2 h;omega⟩
 rw [joinS,joinS,List.length_cons,hn]
 exact vjoinUpto_cons x xs t n
theorem vjoinS_one (x t:ByteArray):joinS [x] t=x:=by simp [joinS,joinUpto,vempty_add]
theorem vsplitGo_ne (s:ByteArray) (c:Int): ∀ n i b,splitGo s c n i b≠[]
 |0,i,b=>by simp [splitGo]
 |n+1,i,b=>by
  rw [splitGo]
  split
  ·simp
  ·exact vsplitGo_ne s c n (i+1) b
theorem vcut_back (s:ByteArray) (b i:Nat) (u:UInt8) (hb:b≤i) (hi:i<s.size) (hc:s.data[i]! =u):s.extract b i++⟨#[u]⟩++s.extract (i+1) s.size=s.extract b s.size:=by
 apply vext
 have hlen:=vlen s
 simp only [ByteArray.data_append,Array.toList_append,vextract]
 have h1:s.data.toList.drop i=s.data[i]! ::s.data.toList.drop (i+1):=by
  have h2:i<s.data.toList.length:=by omega
  rw [List.drop_eq_getElem_cons h2]
  congr 1
  rw [getElem!_pos s.data i hi]
  rfl
 have h3:(s.data.toList.drop b).take (s.size-b)=s.data.toList.drop b:=List.take_of_length_le (by simp)
 have h4:(s.data.toList.drop (i+1)).take (s.size-(i+1))=s.data.toList.drop (i+1):=List.take_of_length_le (by simp)
 rw [h3,h4,List.append_assoc,List.singleton_append, ←hc, ←h1]
 have h5:s.data.toList.drop i=(s.data.toList.drop b).drop (i-b):=by rw [List.drop_drop];congr 1;omega
 rw [h5,List.take_append_drop]
theorem byte_of {x:UInt8} {n:Nat} (h:(x.toNat:Int)=(n:Int)):x=UInt8.ofNat n:=by
 have:x.toNat=n:=by omega
 rw [←this];simp
theorem vsplit_back (s:ByteArray): ∀ (n i b:Nat),n=s.size-i→b≤i→i≤s.size→joinS (splitGo s 46 (s.size-i) i b) ⟨#[46]⟩=s.extract b s.size
 |0,i,b,hn,hb,hi=>by
  obtain rfl:i=s.size:=by omega
  rw [splitGo_end,vjoinS_one]
 |n+1,i,b,hn,hb,hi=>by
  have hlt:i<s.size:=by omega
  by_cases h:((s.data[i]!).toNat:Int)=46
  ·rw [splitGo_hit s 46 i b hlt h,vjoinS_cons _ _ _ (vsplitGo_ne _ _ _ _ _),vsplit_back s n (i+1) (i+1) (by omega) (Nat.le_refl _) (by omega)]
   exact vcut_back s b i 46 hb hlt (byte_of (n:=46) h)
  ·rw [splitGo_miss s 46 i b hlt h]
   exact vsplit_back s n (i+1) b (by omega) (by omega) (by omega)
theorem vwhole (s:ByteArray):s.extract 0 s.size=s:=by
 apply vext
 rw [vextract,List.drop_zero]
 exact List.take_of_length_le (by rw [vlen];omega)
theorem vsplit_join (s:ByteArray):joinS (splitS s 46) ⟨#[46]⟩=s:=by
 have:=vsplit_back s s.size 0 0 rfl (Nat.le_refl _) (Nat.zero_le _)
 have e:splitS s 46=splitGo s 46 (s.size-0) 0 0:=rfl
 rw [e,this,vwhole]
theorem text_back (s:ByteArray) (k:Nat) (hk:k≤s.size) (hd:k<s.size→((s.data[k]!).toNat:Int)=45) (t0 t1 t2:ByteArray) (P:List ByteArray) (hL:[t0,t1,t2]=splitS (s.extract 0 k) 46) (hP:P=if k<s.size then splitS (s.extract (k+1) s.size) 46 else [])
  (g0:numGood t0 9999=true) (g1:numGood t1 9999=true) (g2:numGood t2 9999=true) (gp:P.all partB=true) (gl:P.length≤3):verT (numOut t0 9999) (numOut t1 9999) (numOut t2 9999) P=s:=by
 have hv:verB (numOut t0 9999) (numOut t1 9999) (numOut t2 9999) P=true:=by
  rw [verB,parts_all,gp,num_in g0,num_in g1,num_in g2,decide_eq_true gl];rfl
 have hc:coreT (numOut t0 9999) (numOut t1 9999) (numOut t2 9999)=s.extract 0 k:=by
  rw [coreT,(num_str g0).1,(num_str g1).1,(num_str g2).1, ←join_three,hL,vsplit_join]
 rw [verT,hv,if_pos rfl,hc]
 by_cases h:k<s.size
 ·rw [if_pos h] at hP
  have hp:0<P.length:=by rw [hP];exact List.length_pos_iff.2 (vsplitGo_ne _ _ _ _ _)
  rw [if_pos hp,hP,vsplit_join,vcut_back s 0 k 45 (Nat.zero_le _) h (byte_of (n:=45) (hd h)),vwhole]
 ·rw [if_neg h] at hP
  subst hP
  rw [if_neg (by simp),show k=s.size by omega,vwhole]
theorem res_back (s:ByteArray) (ns:List Int) (ps:List ByteArray) (h:resAll s=some (ns,ps)): ∃ a b c,ns=[a,b,c]∧verT a b c ps=s:=by
 obtain ⟨k,hk,hd,hn⟩: ∃ k,k≤s.size∧(k<s.size→((s.data[k]!).toNat:Int)=45)∧∀ j,j<k→¬((s.data[j]!).toNat:Int)=45:=by
  have: ∀ n,n≤s.size→(∃ k,k≤n∧(k<n→((s.data[k]!).toNat:Int)=45)∧∀ j,j<k→¬((s.data[j]!).toNat:Int)=45):=by
   intro n
   induction n with
   |zero=>exact fun _=>⟨0,Nat.le_refl _,fun h=>by omega,fun j h=>by omega⟩
   |succ n ih=>
    intro hle
    obtain ⟨k,h1,h2,h3⟩:=ih (by omega)
    by_cases hkn:k<n
    ·exact ⟨k,by omega,fun _=>h2 hkn,h3⟩
    ·have:k=n:=by omega
     subst this
     by_cases hc:((s.data[k]!).toNat:Int)=45
     ·exact ⟨k,by omega,fun _=>hc,h3⟩
     ·refine ⟨k+1,Nat.le_refl _,fun h=>by omega,fun j hj=>?_⟩
      by_cases e:j=k
      ·subst e;exact hc
      ·exact h3 j (by omega)
  exact this s.size (Nat.le_refl _)
 obtain ⟨L,hL⟩: ∃ L,L=splitS (s.extract 0 k) 46:=⟨_,rfl⟩
 obtain ⟨P,hP⟩: ∃ P,P=if k<s.size then splitS (s.extract (k+1) s.size) 46 else []:=⟨_,rfl⟩
 rw [res_spec s k hk hd hn L P hL hP] at h
 split at h
 ·rename_i hg
  simp only [Bool.and_eq_true,decide_eq_true_eq] at hg
  obtain ⟨⟨⟨g1,g2⟩,g3⟩,g4⟩:=hg
  obtain ⟨t0,t1,t2,h3⟩:=three_of g2
  subst h3
  simp only [List.all_cons,List.all_nil,Bool.and_true,Bool.and_eq_true] at g1
  injection h with h
  injection h with h1 h2
  subst h1 h2
  exact ⟨_,_,_,rfl,text_back s k hk hd t0 t1 t2 _ hL hP g1.1 g1.2.1 g1.2.2 g3 g4⟩
 ·cases h
theorem vat_drop (s:ByteArray) (b i:Nat) (l:List UInt8) (h:s.data.toList.drop b=l) (hi:i<l.length):s.data[b+i]! =l[i]:=by
 subst h
 have h1:b+i<s.data.toList.length:=by rw [List.length_drop] at hi;omega
 have h2:b+i<s.data.size:=by rw [←Array.length_toList];exact h1
 rw [getElem!_pos s.data (b+i) h2,List.getElem_drop,Array.getElem_toList]
theorem vsplit_hit (s:ByteArray) (c:Int) (b m:Nat) (hm:m<s.size) (hc:((s.data[m]!).toNat:Int)=c): ∀ n i,n=m-i→i≤m→(∀ j,i≤j→j<m→¬((s.data[j]!).toNat:Int)=c)→splitGo s c (s.size-i) i b=s.extract b m::splitGo s c (s.size-(m+1)) (m+1) (m+1)
 |0,i,hn,hi,hj=>by
  obtain rfl:i=m:=by omega
  exact splitGo_hit s c i b hm hc
 |n+1,i,hn,hi,hj=>by
  rw [splitGo_miss s c i b (by omega) (hj i (Nat.le_refl _) (by omega))]
  exact vsplit_hit s c b m hm hc n (i+1) (by omega) (by omega) (fun j h1 h2=>hj j (by omega) h2)
theorem vsplit_end (s:ByteArray) (c:Int) (b:Nat): ∀ n i,n=s.size-i→i≤s.size→(∀ j,i≤j→j<s.size→¬((s.data[j]!).toNat:Int)=c)→splitGo s c (s.size-i) i b=[s.extract b s.size]
 |0,i,hn,hi,hj=>by
  obtain rfl:i=s.size:=by omega
  exact splitGo_end s c b
 |n+1,i,hn,hi,hj=>by
  rw [splitGo_miss s c i b (by omega) (hj i (Nat.le_refl _) (by omega))]
  exact vsplit_end s c b n (i+1) (by omega) (by omega) (fun j h1 h2=>hj j (by omega) h2)
def noneB (c:Nat) (x:ByteArray):Prop:=∀ u,u∈x.data.toList→u.toNat≠c
theorem vsplit_told (s:ByteArray): ∀ (ps:List ByteArray) (b:Nat),ps≠[]→(∀ x,x∈ps→noneB 46 x)→b≤s.size→s.data.toList.drop b=(joinS ps ⟨#[46]⟩).data.toList→splitGo s 46 (s.size-b) b b=ps
 |[],b,h,_,_,_=>absurd rfl h
 |[x],b,_,hx,hb,hs=>by
  rw [vjoinS_one] at hs
  have hl:s.size-b=x.size:=by rw [←vlen s, ←vlen x, ←hs,List.length_drop]
  rw [vsplit_end s 46 b (s.size-b) b rfl hb]
  ·congr 1
   apply vext
   rw [vextract,hs]
   exact List.take_of_length_le (by rw [vlen];omega)
  ·intro j h1 h2 h3
   have h4:j-b<x.data.toList.length:=by rw [vlen];omega
   have:=vat_drop s b (j-b) _ hs h4
   rw [show b+(j-b)=j by omega] at this
   rw [this] at h3
   exact hx x (by simp) _ (List.getElem_mem h4) (by omega)
 |x::y::xs,b,_,hx,hb,hs=>by
  rw [vjoinS_cons _ _ _ (by simp)] at hs
  obtain ⟨r,hr⟩: ∃ r,r=joinS (y::xs) ⟨#[46]⟩:=⟨_,rfl⟩
  rw [←hr] at hs
  simp only [ByteArray.data_append,Array.toList_append] at hs
  have hl:s.size-b=x.size+1+r.size:=by
   have:=congrArg List.length hs
   rw [List.length_drop,vlen,List.length_append,List.length_append,vlen,vlen] at this
   exact this
  have hm:((s.data[b+x.size]!).toNat:Int)=46:=by
   rw [vat_drop s b x.size _ hs (by rw [List.length_append,List.length_append,vlen];simp;omega)]
   rw [List.getElem_append_left (by rw [List.length_append,vlen];simp),List.getElem_append_right (by rw [vlen];exact Nat.le_refl _)]
   simp [vlen]
  rw [vsplit_hit s 46 b (b+x.size) (by omega) hm x.size b (by omega) (by omega)]
  ·congr 1
   ·apply vext
    rw [vextract,hs,List.append_assoc,show b+x.size-b=x.data.toList.length by rw [vlen];omega,List.take_left']
    rfl
   ·refine vsplit_told s (y::xs) (b+x.size+1) (by simp) (fun z hz=>hx z (by simp at hz ⊢;exact .inr hz)) (by omega) ?_
    rw [show b+x.size+1=b+(x.size+1) by omega, ←List.drop_drop,hs, ←hr]
    exact List.drop_left' (by rw [List.length_append,vlen];rfl)
  ·intro j h1 h2 h3
   have h4:j-b<x.data.toList.length:=by rw [vlen];omega
   have:=vat_drop s b (j-b) _ hs (by rw [List.length_append,List.length_append];omega)
   rw [show b+(j-b)=j by omega,List.getElem_append_left (by rw [List.length_append];omega),List.getElem_append_left h4] at this
   rw [this] at h3
   exact hx x (by simp) _ (List.getElem_mem h4) (by omega)
theorem vsplit_of_join (ps:List ByteArray) (h:ps≠[]) (hx: ∀ x,x∈ps→noneB 46 x):splitS (joinS ps ⟨#[46]⟩) 46=ps:=
 vsplit_told _ ps 0 h hx (Nat.zero_le _) (by simp)
theorem vdec_ne : ∀ n,0<(Lib.decDigits n).length:=by
 intro n
 by_cases h:n<10
 ·rw [vdec_one h];simp
 ·rw [vdec_step h];simp
theorem vdec_digit (n:Nat): ∀ u,u∈Lib.decDigits n→48≤u.toNat∧u.toNat≤57:=by
 induction n using Nat.strongRecOn with
 |ind n ih=>
  intro u hu
  by_cases h:n<10
  ·rw [vdec_one h,List.mem_singleton] at hu
   subst hu
   simp only [UInt8.toNat_ofNat']
   omega
  ·rw [vdec_step h,List.mem_append,List.mem_singleton] at hu
   rcases hu with hu|hu
   ·exact ih (n / 10) (by omega) u hu
   ·subst hu
    simp only [UInt8.toNat_ofNat']
    omega
theorem vdec_head (n:Nat) (hn:1≤n): ∀ u,(Lib.decDigits n)[0]?=some u→u.toNat≠48:=by
 induction n using Nat.strongRecOn with
 |ind n ih=>
  intro u hu
  by_cases h:n<10
  ·rw [vdec_one h,List.getElem?_cons_zero] at hu
   injection hu with hu
   subst hu
   simp only [UInt8.toNat_ofNat']
   omega
  ·rw [vdec_step h,List.getElem?_append_left (vdec_ne _)] at hu
   exact ih (n / 10) (by omega) (by omega) u hu
theorem vdec_num (s:ByteArray): ∀ n k,s.data.toList.take k=Lib.decDigits n→k≤s.size→numUpto s k=(n:Int):=by
 intro n
 induction n using Nat.strongRecOn with
 |ind n ih=>
  intro k hk hs
  cases k with
  |zero=>exact absurd (vdec_ne n) (by rw [←hk];simp)
  |succ k=>
   rw [vtake_snoc s k (by omega)] at hk
   have e:numUpto s (k+1)=numUpto s k*10+(((s.data[k]!).toNat:Int)-48):=rfl
   rw [e]
   by_cases h:n<10
   ·rw [vdec_one h] at hk
    have h1:=List.append_inj' (s₁:=s.data.toList.take k) (s₂:=[]) (t₁:=[s.data[k]!]) (t₂:=[UInt8.ofNat (48+n)]) (by simpa using hk) rfl
    have h2:k=0:=by
     have:=congrArg List.length h1.1
     rw [List.length_take,vlen,List.length_nil] at this
     omega
    subst h2
    have h3:s.data[0]! =UInt8.ofNat (48+n):=by simpa using h1.2
    rw [h3]
    simp only [UInt8.toNat_ofNat',numUpto]
    omega
   ·rw [vdec_step h] at hk
    have h1:=List.append_inj' hk rfl
    have h3:s.data[k]! =UInt8.ofNat (48+n % 10):=by simpa using h1.2
    rw [ih (n / 10) (by omega) k h1.1 (by omega),h3]
    simp only [UInt8.toNat_ofNat']
    omega
theorem told_num (n:Nat):numUpto (numStr n) (numStr n).size=(n:Int):=
  vdec_num (numStr n) n _ (by
    show (Lib.decDigits n).toArray.toList.take _ = _
    rw [List.take_of_length_le]
    exact Nat.le_of_eq (vlen (numStr n))) (Nat.le_refl _)
theorem told_none (c n:Nat) (hc:c<48):noneB c (numStr n):=fun u hu he=>by
 have:=vdec_digit n u hu
 omega
theorem allUpto_of {p:Nat→Int→Bool} {s:ByteArray}: ∀ {n:Nat},(∀ k,k<n→p k ((s.data[k]!).toNat:Int)=true)→allUpto p s n=true
 |0,_=>rfl
 |n+1,h=>by
  rw [allUpto,allUpto_of (fun k hk=>h k (by omega)),h n (by omega)];rfl
theorem vat_mem (s:ByteArray) (k:Nat) (h:k<s.size):s.data[k]! ∈s.data.toList:=by
 have h1:k<s.data.toList.length:=by rw [vlen];exact h
 have:=vat_drop s 0 k _ rfl (by simpa using h1)
 rw [Nat.zero_add] at this
 rw [this]
 simp
theorem told_good (n:Nat) (h:n≤9999):numGood (numStr n) 9999=true:=by
  have h1:1≤(numStr n).size:=by rw [←vlen];exact vdec_ne n
  have h2:=numStr_four n h
  have h3 : allUpto okDigit (numStr n) (numStr n).size = true := allUpto_of (fun k hk => by
    have := vdec_digit n _ (vat_mem (numStr n) k hk)
    rw [okDigit, digitB, decide_eq_true (by omega), decide_eq_true (by omega)]; rfl)
  have h4:(decide (1<(numStr n).size)&&(((numStr n).data[0]!).toNat:Int) == 48)=false:=by
    by_cases hl:1<(numStr n).size
    · have hn:1≤n:=by
        cases n with
        |zero=>
          rw [←vlen] at hl
          have e:(numStr 0).data.toList=Lib.decDigits 0:=rfl
          rw [e,vdec_one (by omega)] at hl
          simp at hl
        |succ n=>omega
      have h5:(Lib.decDigits n)[0]?=some ((numStr n).data[0]!):=by
        have:=vat_drop (numStr n) 0 0 (Lib.decDigits n) rfl (vdec_ne n)
        rw [Nat.add_zero] at this
        rw [this]
        exact List.getElem?_eq_getElem (vdec_ne n)
      have h6:=vdec_head n hn _ h5
      have h7: ¬(((numStr n).data[0]!).toNat:Int)=48:=by omega
      rw [beq_eq_false_iff_ne.2 h7,Bool.and_false]
    · rw [decide_eq_false hl];rfl
  rw [numGood,h3,h4,told_num,inB,decide_eq_true (by omega),decide_eq_true (by omega),decide_eq_true (by omega)];rfl
theorem told_out (n:Nat) (h:n≤9999):numOut (numStr n) 9999=(n:Int):=by
 rw [numOut_good (told_good n h),told_num]
theorem part_none {x:ByteArray} (h:partB x=true):noneB 46 x:=by
 intro u hu he
 simp only [partB,Bool.and_eq_true] at h
 obtain ⟨k,hk,e⟩:=List.getElem_of_mem hu
 have h1:=allUpto_at h.1.1 k (by rw [←vlen];exact hk)
 have h2:=vat_drop x 0 k _ rfl hk
 rw [Nat.zero_add] at h2
 rw [h2] at h1
 have h3:(x.data.toList.drop 0)[k]=u:=e
 rw [h3,okPre,preB,he] at h1
 exact absurd h1 (by decide)
theorem core_none (a b c:Int):noneB 45 (coreT a b c):=by
 intro u hu
 simp only [coreT,ByteArray.data_append,Array.toList_append,List.mem_append,List.mem_singleton] at hu
 rcases hu with (((hu|hu)|hu)|hu)|hu
 ·exact told_none 45 _ (by omega) u hu
 ·subst hu;decide
 ·exact told_none 45 _ (by omega) u hu
 ·subst hu;decide
 ·exact told_none 45 _ (by omega) u hu
theorem core_split (a b c:Int):splitS (coreT a b c) 46=[numStr a.toNat,numStr b.toNat,numStr c.toNat]:=by
 have e:coreT a b c=joinS [numStr a.toNat,numStr b.toNat,numStr c.toNat] ⟨#[46]⟩:=by rw [join_three];rfl
 rw [e]
 refine vsplit_of_join _ (by simp) (fun x hx=>?_)
 simp at hx
 rcases hx with rfl|rfl|rfl<;>exact told_none 46 _ (by omega)
theorem in_nat {a:Int} (h:inB a 0 9999=true):((a.toNat:Nat):Int)=a∧a.toNat≤9999:=by
 simp only [inB,Bool.and_eq_true,decide_eq_true_eq] at h
 omega
theorem res_told (a b c:Int) (ps:List ByteArray) (h:verB a b c ps=true):resAll (verT a b c ps)=some ([a,b,c],ps):=by
 have h0:=h
 simp only [verB,Bool.and_eq_true,decide_eq_true_eq,parts_all] at h
 obtain ⟨⟨⟨⟨gp,ga⟩,gb⟩,gc⟩,gl⟩:=h
 obtain ⟨ea,la⟩:=in_nat ga
 obtain ⟨eb,lb⟩:=in_nat gb
 obtain ⟨ec,lc⟩:=in_nat gc
 rw [verT,h0,if_pos rfl]
 have fin: ∀ (s:ByteArray) (k:Nat),k≤s.size→(k<s.size→((s.data[k]!).toNat:Int)=45)→(∀ j,j<k→¬((s.data[j]!).toNat:Int)=45)→s.extract 0 k=coreT a b c→(ps=if k<s.size then splitS (s.extract (k+1) s.size) 46 else [])→resAll s=some ([a,b,c],ps):=by
  intro s k hk hd hn h1 h2
  rw [res_spec s k hk hd hn [numStr a.toNat,numStr b.toNat,numStr c.toNat] ps (by rw [h1,core_split]) h2]
  rw [gp,decide_eq_true gl]
  simp only [List.all_cons,List.all_nil,List.map_cons,List.map_nil,told_good _ la,told_good _ lb,told_good _ lc,told_out _ la,told_out _ lb,told_out _ lc,ea,eb,ec,List.length_cons,List.length_nil]
  rfl
 by_cases hp:0<ps.length
 ·rw [if_pos hp]
  obtain ⟨r,hr⟩: ∃ r,r=joinS ps ⟨#[46]⟩:=⟨_,rfl⟩
  rw [←hr]
  have hd:(coreT a b c++⟨#[45]⟩++r).data.toList=(coreT a b c).data.toList++[45]++r.data.toList:=by
   simp only [ByteArray.data_append,Array.toList_append]
  have hcn:=core_none a b c
  generalize coreT a b c=K at*
  have hsz:(K++⟨#[45]⟩++r).size=K.size+1+r.size:=by
   rw [←vlen,hd,List.length_append,List.length_append,vlen,vlen];rfl
  generalize K++⟨#[45]⟩++r=s at*
  have hd0:s.data.toList.drop 0=K.data.toList++[45]++r.data.toList:=by rw [List.drop_zero,hd]
  refine fin s K.size (by omega) (fun _=>?_) (fun j hj he=>?_) ?_ ?_
  ·have:=vat_drop s 0 K.size _ hd0 (by rw [List.length_append,List.length_append,vlen];simp;omega)
   rw [Nat.zero_add] at this
   rw [this,List.getElem_append_left (by rw [List.length_append,vlen];simp),List.getElem_append_right (by rw [vlen];exact Nat.le_refl _)]
   simp [vlen]
  ·have h4:j<K.data.toList.length:=by rw [vlen];exact hj
   have:=vat_drop s 0 j _ hd0 (by rw [List.length_append,List.length_append];omega)
   rw [Nat.zero_add,List.getElem_append_left (by rw [List.length_append];omega),List.getElem_append_left h4] at this
   rw [this] at he
   exact hcn _ (List.getElem_mem h4) (by omega)
  ·apply vext
   rw [vextract,hd0,List.append_assoc,Nat.sub_zero]
   exact List.take_left' (vlen K)
  ·rw [if_pos (by omega)]
   have e:s.extract (K.size+1) s.size=r:=by
    apply vext
    rw [vextract,hd,List.drop_left' (by rw [List.length_append,vlen];rfl)]
    exact List.take_of_length_le (by rw [vlen];omega)
   rw [e,hr,vsplit_of_join ps (List.length_pos_iff.1 hp) (fun x hx=>part_none (List.all_eq_true.1 gp x hx))]
 ·rw [if_neg hp]
  have:ps=[]:=List.length_eq_zero_iff.1 (by omega)
  refine fin _ (coreT a b c).size (Nat.le_refl _) (fun h=>by omega) (fun j hj he=>?_) (vwhole _) (by rw [if_neg (by omega),this])
  exact core_none a b c _ (vat_mem _ j hj) (by omega)
theorem bk_back (t:ByteArray) (h:resOk t=true):verT (resN t 0) (resN t 1) (resN t 2) (resP t)=t:=by
 unfold resOk at h
 obtain ⟨⟨ns,ps⟩,hx⟩:=Option.isSome_iff_exists.1 h
 obtain ⟨a,b,c,rfl,hv⟩:=res_back t ns ps hx
 simp only [resN,resP,hx]
 exact hv
theorem bk_parts : ∀ ps:List ByteArray,(∀ x∈ps,x.size≤8)→(ps.map ByteArray.size).sum≤8*ps.length
 |[],_=>by simp
 |x::ps,h=>by
  have:=bk_parts ps (fun t ht=>h t (List.mem_cons_of_mem _ ht))
  have:=h x (List.mem_cons_self ..)
  simp only [List.map_cons,List.sum_cons,List.length_cons]
  omega
theorem bk_bulk {a b c:Int} {ps:List ByteArray} (h:verB a b c ps=true):bulkS ps≤27:=by
 have hp:partsUpto ps ps.length=true:=by
  cases hh:partsUpto ps ps.length with
  |true=>rfl
  |false=>rw [verB_parts hh] at h;exact absurd h (by decide)
 have hl:ps.length≤3:=by
  rw [verB_all hp] at h
  simp at h
  omega
 have hx: ∀ x∈ps,x.size≤8:=fun x hm=>by
  obtain ⟨k,hk,rfl⟩:=List.getElem_of_mem hm
  cases hb:partB ps[k] with
  |false=>rw [parts_end hk hb] at hp;exact absurd hp (by decide)
  |true=>
   simp only [partB,Bool.and_eq_true] at hb
   have h2:=hb.1.2
   simp [inB] at h2
   omega
 have:=bk_parts ps hx
 unfold bulkS
 omega
theorem bk_empty :resOk ⟨#[]⟩=false:=by decide+kernel
theorem bk_ver (t:ByteArray) (h:resOk t=true):verB (resN t 0) (resN t 1) (resN t 2) (resP t)=true:=by
 have hb:=bk_back t h
 cases hv:verB (resN t 0) (resN t 1) (resN t 2) (resP t) with
 |true=>rfl
 |false=>
  have e:verT (resN t 0) (resN t 1) (resN t 2) (resP t)=⟨#[]⟩:=by simp [verT,hv]
  rw [e] at hb
  rw [←hb,bk_empty] at h
  exact absurd h (by decide)
theorem bk_num {t:ByteArray} (h:numGood t 9999=true):0≤numOut t 9999∧numOut t 9999≤9999:=by
 refine ⟨(num_str h).2,?_⟩
 rw [numOut_good h]
 simp only [numGood,Bool.and_eq_true,decide_eq_true_eq] at h
 exact h.2
end Go.Proofs.YtlfmefojcmpfeaaGreatDoor
