/-
  Contracts for the walks and pure facts, several texts in one: each theorem says what it proves, and under which conditions.
-/
import Derived.Lib.IndexBytes
import Derived.Lib.SplitLaws
import Derived.Lib.CutLaws
import Derived.Test.YtlfmefojcmpfeaaGreatDoorUT
import Derived.Test.YtlfmefojcmpfeaaGreatDoorU14
set_option linter.unusedSimpArgs false
set_option linter.unusedVariables false
set_option maxHeartbeats 16000000
set_option maxRecDepth 100000
namespace Go.Proofs.YtlfmefojcmpfeaaGreatDoor
open Go.RowKit
theorem rowsG_apart {w:World} {base base' e e' sz sz':Nat} {v v':Value} {n n':Nat} {xs xs':List Value} (h:w.ownsRow base e sz v n xs) (h':w.ownsRow base' e' sz' v' n' xs') (hne:e≠e'):v'.ownBlock=none∨v'.ownBlock≠v.ownBlock:=by
 rcases h.2 with ⟨rfl,_⟩|⟨g,cap,cur,rfl,_,hg,_⟩
 ·rcases h'.2 with ⟨rfl,_⟩|⟨g',cap',cur',rfl,_,hg',_⟩
  ·exact .inl rfl
  ·exact .inr (by simp [Value.ownBlock])
 ·rcases h'.2 with ⟨rfl,_⟩|⟨g',cap',cur',rfl,_,hg',_⟩
  ·exact .inl rfl
  ·refine .inr fun e1=>hne ?_
   simp only [Value.ownBlock,Option.some.injEq] at e1
   subst e1
   rw [hg] at hg'
   simp only [Option.some.injEq,Obj.cells.injEq] at hg'
   exact hg'.2.1
def CmpsSeg (lo hi:Nat) (w:World) (v:Value) (ds:List CmpD):Prop:=
 ∃ (ys:List Value) (us:Nat→Value),w.ownsRow lo 214 5 v ds.length ys∧
  (∀ i (h:i<ds.length),FiveAt ys (i*5) (.int .i64 ds[i].o) (.int .i64 ds[i].a) (.int .i64 ds[i].b) (.int .i64 ds[i].c) (us i)∧w.ownsRow lo 9 1 (us i) ds[i].ps.length (strsV ds[i].ps))∧
  (∀ i j,i<ds.length→j<ds.length→i≠j→(us i).ownBlock=(us j).ownBlock→(us i).ownBlock=none)∧
  (∀ k,v.ownBlock=some k→k<hi)∧∀ i,i<ds.length→∀ k,(us i).ownBlock=some k→k<hi
theorem CmpsOwn.seg {lo:Nat} {w:World} {v:Value} {ds:List CmpD} (h:CmpsOwn lo w v ds):CmpsSeg lo w.heap.size w v ds:=by
 obtain ⟨ys,us,h1,h2,h3⟩:=h
 refine ⟨ys,us,h1,h2,h3,fun k hk=>?_,fun i hi k hk=>((h2 i hi).2.lt k hk).2⟩
 rcases h1.2 with ⟨rfl,_⟩|⟨g,cap,cur,rfl,_,hg,_⟩
 ·simp [Value.ownBlock] at hk
 ·simp only [Value.ownBlock,Option.some.injEq] at hk
  subst hk
  exact (Array.getElem?_eq_some_iff.1 hg).1
theorem CmpsSeg.below {lo hi:Nat} {w w':World} {v:Value} {ds:List CmpD} (h:CmpsSeg lo hi w v ds) (b:Below w.heap.size w w'):CmpsSeg lo hi w' v ds:=by
 obtain ⟨ys,us,h1,h2,h3⟩:=h
 exact ⟨ys,us,own_kept5 h1 b,fun i hi=>⟨(h2 i hi).1,owns_of_below (h2 i hi).2 b⟩,h3⟩
theorem CmpsSeg.grown {lo hi base n:Nat} {w w':World} {v r:Value} {ds:List CmpD} {xs:List Value} (h:CmpsSeg lo hi w v ds) (hr:w.ownsRow base 203 1 r n xs) (g:w.grownBy w' r.ownBlock):CmpsSeg lo hi w' v ds:=by
 obtain ⟨ys,us,h1,h2,h3⟩:=h
 exact ⟨ys,us,h1.kept g (rowsG_apart hr h1 (by decide)),fun i hi=>⟨(h2 i hi).1,(h2 i hi).2.kept g (rowsG_apart hr (h2 i hi).2 (by decide))⟩,h3⟩
def RangeOwn (lo:Nat) (w:World) (v:Value) (dss:List (List CmpD)):Prop:=
 ∃ (vs:List Value) (ls hs:Nat→Nat),w.ownsRow lo 203 1 v dss.length vs∧
  (∀ i (h:i<dss.length),∃ u,vs[i]?=some u∧lo≤ls i∧hs i≤w.heap.size∧CmpsSeg (ls i) (hs i) w u dss[i])∧∀ i j,i<j→j<dss.length→hs i≤ls j
theorem rangeOwn_nil (w:World) (lo:Nat):RangeOwn lo w (.slice none 0 0) []:=
 ⟨[],fun _=>0,fun _=>0,⟨rfl,.inl ⟨rfl,rfl⟩⟩,fun i h=>by simp at h,fun i j _ h=>by simp at h⟩
theorem RangeOwn.below {lo:Nat} {w w':World} {v:Value} {dss:List (List CmpD)} (h:RangeOwn lo w v dss) (b:Below w.heap.size w w'):RangeOwn lo w' v dss:=by
 obtain ⟨vs,ls,hs,h1,h2,h3⟩:=h
 refine ⟨vs,ls,hs,owns_of_below h1 b,fun i hi=>?_,h3⟩
 obtain ⟨u,e,a1,a2,a3⟩:=h2 i hi
 exact ⟨u,e,a1,Nat.le_trans a2 b.size,a3.below b⟩
theorem RangeOwn.lower {lo lo':Nat} {w:World} {v:Value} {dss:List (List CmpD)} (h:RangeOwn lo w v dss) (hl:lo'≤lo):RangeOwn lo' w v dss:=by
 obtain ⟨vs,ls,hs,h1,h2,h3⟩:=h
 refine ⟨vs,ls,hs,owns_base h1 hl,fun i hi=>?_,h3⟩
 obtain ⟨u,e,a1,a2,a3⟩:=h2 i hi
 exact ⟨u,e,Nat.le_trans hl a1,a2,a3⟩
theorem RangeOwn.snoc {lo:Nat} {wk w4:World} {v v4:Value} {dss:List (List CmpD)} {ds:List CmpD} (h:RangeOwn lo wk v dss) (hlo:lo≤wk.heap.size) (b:Below wk.heap.size wk w4) (h4:CmpsOwn wk.heap.size w4 v4 ds):
  ∃ vs,w4.ownsRow lo 203 1 v dss.length vs∧∀ o w6 v6,w6.ownsRow lo 203 1 v6 (dss.length+1) (vs++[v4])→(w4.alloc o).grownBy w6 v.ownBlock→RangeOwn lo w6 v6 (dss++[ds]):=by
 obtain ⟨vs,ls,hs,h1,h2,h3⟩:=h
 have h1':=owns_of_below h1 b
 refine ⟨vs,h1',fun o w6 v6 o6 gr=>?_⟩
 have tA:Below w4.heap.size w4 (w4.alloc o):=(Below.refl _ _).alloc (Nat.le_refl _) _
 have h1a:=owns_of_below h1' tA
 have hsz:w4.heap.size≤w6.heap.size:=Nat.le_trans tA.size gr.size
 have hvl:vs.length=dss.length:=by have:=h1.1;omega
 refine ⟨vs++[v4],fun i=>if i<dss.length then ls i else wk.heap.size,fun i=>if i<dss.length then hs i else w4.heap.size,by rw [List.length_append];exact o6,fun i hi=>?_,fun i j hij hj=>?_⟩
 ·by_cases hl:i<dss.length
  ·obtain ⟨u,e,a1,a2,a3⟩:=h2 i hl
   refine ⟨u,by rw [List.getElem?_append_left (by omega)];exact e,?_,?_,?_⟩
   ·simp only [hl,if_true];exact a1
   ·simp only [hl,if_true];exact Nat.le_trans a2 (Nat.le_trans b.size hsz)
   ·simp only [hl,if_true,List.getElem_append_left hl]
    exact ((a3.below b).below tA).grown h1a gr
  ·have hi':i=dss.length:=by simp at hi;omega
   subst hi'
   refine ⟨v4,by rw [List.getElem?_append_right (by omega),hvl];simp,?_,?_,?_⟩
   ·simp only [hl,if_false];exact hlo
   ·simp only [hl,if_false];exact hsz
   ·have eg:(dss++[ds])[dss.length]=ds:=by simp
    simp only [hl,if_false,eg]
    exact (h4.seg.below tA).grown h1a gr
 ·rw [List.length_append] at hj
  simp at hj
  by_cases hj1:j<dss.length
  ·have hi1:i<dss.length:=by omega
   simp only [hi1,hj1,if_true]
   exact h3 i j hij hj1
  ·have hi1:i<dss.length:=by omega
   obtain ⟨u,e,a1,a2,a3⟩:=h2 i hi1
   simp only [hi1,hj1,if_true,if_false]
   exact a2
def orT :ByteArray:=⟨#[124,124]⟩
def sidesI (s:ByteArray):List ByteArray:=Lib.splitB orT 0 (Lib.countB s orT) s
def foldR :List ByteArray→List (List CmpD)→Option (List (List CmpD))
 |[],acc=>some acc
 |t::ts,acc=>match listC (splitS (trimS t) 32) with|some ds=>foldR ts (acc++[ds])|none=>none
def rangeI (s:ByteArray):Option (List (List CmpD)):=if 4<(sidesI s).length then none else foldR (sidesI s) []
theorem splitB_piece (sep:ByteArray) (save:Nat) (hsv:save=0): ∀ (k:Nat) (s:ByteArray),∀ x∈Lib.splitB sep save k s,x.size≤s.size
 |0,s=>fun x hx=>by simp [Lib.splitB] at hx;subst hx;exact Nat.le_refl _
 |k+1,s=>fun x hx=>by
  rw [Lib.splitB] at hx
  split at hx
  ·simp at hx;subst hx;exact Nat.le_refl _
  ·rcases List.mem_cons.1 hx with rfl|hx
   ·rw [ByteArray.size_extract];omega
   ·refine Nat.le_trans (splitB_piece sep save hsv k _ x hx) ?_
    rw [ByteArray.size_extract];omega
theorem lit_row (w:World) (xs:List ByteArray) (t:TypeId): ∀ k (h:k<xs.length),(w.alloc (.cells (xs.map Value.string).toArray t)).cell? ⟨w.heap.size,k,none⟩=some (.string xs[k]):=fun k h=>by
 have e:(w.alloc (.cells (xs.map Value.string).toArray t)).cell? ⟨w.heap.size,k,none⟩=((xs.map Value.string).toArray)[k]? :=vblk_cell (vheap_new _ _) k
 rw [e]
 simp [h]
theorem cell_one_c (w:World) (v:Value) (t:TypeId): ∀ j u,([v]:List Value)[j]?=some u→(w.alloc (.cells #[v] t)).cell? ((⟨w.heap.size,0,none⟩:Addr).add j)=some u:=fun j u hj=>by
 have hj0:j=0:=by have:=(List.getElem?_eq_some_iff.1 hj).1;simp at this;omega
 subst hj0
 simp at hj
 subst hj
 have e:((⟨w.heap.size,0,none⟩:Addr).add 0)=⟨w.heap.size,0,none⟩:=by unfold Addr.add;split<;>simp_all
 rw [e]
 exact vblk_cell (vheap_new _ _) 0
theorem implRange_c (s:ByteArray) (hs:s.size≤1048576) (m:Int) (w:World) (hm:w.cell? ⟨2,0,none⟩=some (.int .i64 m)) (hsg: ∀ k (h:k<signsT.length),w.cell? ⟨1,k,none⟩=some (.string signsT[k])):
    Calls Tryz.prog 87 #[.string s] w fun e w'=>∃ v,e=.returned (.tuple #[v,.bool (rangeI s).isSome])∧RangeOwn w.heap.size w' v ((rangeI s).getD [])∧Below w.heap.size w w':=by
  have HS:Calls Tryz.prog 158 #[.string s,.string orT] w fun e w'=>e=.returned (.slice (some ⟨w.heap.size,0,none⟩) (sidesI s).length (sidesI s).length)∧w'=w.alloc (.cells ((sidesI s).map Value.string).toArray 9):=by
    have h:=Tryz.strings_Split s orT m w (by omega) hm (by decide)
    have hl:(sidesI s).length=Lib.countB s orT+1:=Lib.splitB_all orT (by decide) 0 _ s rfl
    rw [hl]
    exact h
  have hpc: ∀ x∈sidesI s,x.size≤s.size:=splitB_piece orT 0 rfl _ s
  have hll:(sidesI s).length≤1048577:=by
    have hl:(sidesI s).length=Lib.countB s orT+1:=Lib.splitB_all orT (by decide) 0 _ s rfl
    have:=Lib.countB_le orT (by decide) s.size s (Nat.le_refl _)
    omega
  have hgl:1<w.heap.size:=World.block_lt_of_cell? w _ (hsg 0 (by decide))
  have HG:Hid (∀ w1,Below w.heap.size w w1→∀ k (h:k<signsT.length),w1.cell? ⟨1,k,none⟩=some (.string signsT[k])):=fun w1 b k h=>(b.cell (p:=⟨1,k,none⟩) hgl).trans (hsg k h)
  have HR:Hid (rangeI s=if 4<(sidesI s).length then none else foldR (sidesI s) []):=rfl
  obtain ⟨ts,hts⟩: ∃ ts,ts=sidesI s:=⟨_,rfl⟩
  obtain ⟨R,hR⟩: ∃ R,R=rangeI s:=⟨_,rfl⟩
  rw [←hts] at HS hpc HR hll
  rw [←hR] at HR
  rw [←hR]
  clear hts hR hsg hgl hm
  have b3:Below w.heap.size w (w.alloc (.cells (ts.map Value.string).toArray 9)):=(Below.refl _ _).alloc (Nat.le_refl _) _
  have hcell:=lit_row w ts 9
  have hs3:(w.alloc (.cells (ts.map Value.string).toArray 9)).heap.size=w.heap.size+1:=by simp
  obtain ⟨i0,hi,hz0,hz1,hz2⟩:=info_parts infoCmps
  go_enter Tryz.func87,Tryz.ntmps87
  go_wp2_with fail
  go_at_call 158
  refine HS.mono ?_
  rintro e w' ⟨rfl,rfl⟩
  generalize (w.alloc (.cells (ts.map Value.string).toArray 9))=w3 at b3 hcell hs3 ⊢
  have hbq:w.heap.size<w3.heap.size:=by omega
  clear HS hs3
  by_cases h4:4<ts.length
  · have e:R=none:=by rw [HR.out,if_pos h4]
    have h4':(4:Int)<(ts.length:Int):=by omega
    subst e
    clear HR hcell
    go_wp2_with fail
    go_ret2
    exact ⟨_,rfl,rangeOwn_nil _ _,b3⟩
  have HF:Hid (R=foldR ts []):=by show _=_;rw [HR.out,if_neg h4]
  have h4': ¬(4:Int)<(ts.length:Int):=by omega
  have hl4:ts.length≤4:=by omega
  have HP:Hid (∀ x:ByteArray,x.size≤1048576→∀ w1,Below w.heap.size w w1→Calls Tryz.prog 159 #[.string x] w1 fun e w'=>∃ v,e=.returned (.tuple #[v,.bool (listC (splitS x 32)).isSome])∧CmpsOwn w1.heap.size w' v ((listC (splitS x 32)).getD [])∧Below w1.heap.size w1 w'):=fun x hx w1 b=>parseCmps_c x hx w1 (HG.out w1 b)
  clear HR h4 HG
  go_wp2_with fail
  go_loopw [5,17] (fun v5 vi wr=>∃ (k:Nat) (acc:List (List CmpD)),k≤ts.length∧vi=.int .i64 (k:Int)∧RangeOwn w3.heap.size wr v5 acc∧acc.length=k∧Hid (foldR (ts.drop k) acc=foldR ts [])∧Below w3.heap.size w3 wr) (fun _ vi _=>ts.length-(intOf vi).toNat)
  case atStart=>exact ⟨0,[],Nat.zero_le _,rfl,rangeOwn_nil _ _,rfl,rfl,Below.refl _ _⟩
  case round=>
    obtain ⟨k,acc,hk,rfl,hacc,hal,hf,hbr⟩:=hrel
    have hmr:=b3.trans (hbr.mono b3.size)
    obtain ⟨qv,nv,cv,hv5⟩: ∃ q n c,u5=.slice q n c:=by
      obtain ⟨vs,ls,hs,h1,_⟩:=hacc
      rcases h1.2 with ⟨h,_⟩|⟨g,cap,cur,h,_⟩
      · exact ⟨_,_,_,h⟩
      · exact ⟨_,_,_,h⟩
    subst hv5
    by_cases hlt:k<ts.length
    · have hcx:wr.cell? ⟨w.heap.size,k,none⟩=some (.string ts[k]):=(hbr.cell (p:=⟨w.heap.size,k,none⟩) hbq).trans (hcell k hlt)
      have hsk:ts[k].size≤1048576:=by have:=hpc ts[k] (List.getElem_mem _);omega
      have hdr:ts.drop k=ts[k]::ts.drop (k+1):=List.drop_eq_getElem_cons hlt
      rw [hdr,foldR] at hf
      obtain ⟨x,hx⟩: ∃ x,x=ts[k]:=⟨_,rfl⟩
      rw [←hx] at hcx hsk hf
      have HT:Hid (∀ w1,Calls Tryz.prog 160 #[.string x,.string ⟨#[32]⟩] w1 fun e w'=>e=.returned (.string (trimS x))∧Below w1.heap.size w1 w'):=fun w1=>trim_c x (by omega) w1
      have htz:(trimS x).size≤1048576:=Nat.le_trans (trimS_size x) hsk
      obtain ⟨y,hy⟩: ∃ y,y=trimS x:=⟨_,rfl⟩
      rw [←hy] at HT htz hf
      have HC:=HP.out y htz
      obtain ⟨L,hL⟩: ∃ L,L=listC (splitS y 32):=⟨_,rfl⟩
      rw [←hL] at HC hf
      have HC':Hid (∀ w1,Below w.heap.size w w1→Calls Tryz.prog 159 #[.string y] w1 fun e w'=>∃ v,e=.returned (.tuple #[v,.bool L.isSome])∧CmpsOwn w1.heap.size w' v (L.getD [])∧Below w1.heap.size w1 w'):=HC
      have hki:(k:Int)<(ts.length:Int):=by omega
      clear HC hx hy hL hdr hcell HP
      cases L with
      |none=>
        have e:R=none:=by rw [HF.out, ←hf.out]
        subst e
        clear hf HF
        go_wp2_with (first
          | (go_at_call 160; refine (HT.out _).mono ?_; rintro e w4 ⟨rfl, b4⟩; have hm4 := hmr.trans (b4.mono hmr.size))
          | (go_at_call 159; refine (HC'.out _ hm4).mono ?_; rintro e w5 ⟨v5, rfl, hv5, b5⟩; obtain ⟨q5, c5, us5, hq5, _, _⟩ := hv5.at; subst hq5))
        go_ret2
        exact ⟨_,rfl,rangeOwn_nil _ _,hm4.trans (b5.mono hm4.size)⟩
      |some ds=>
        have HN:Hid (foldR (ts.drop (k+1)) (acc++[ds])=foldR ts []):=hf
        have hlo:w3.heap.size≤wr.heap.size:=hbr.size
        have hrow: ∀ j,Value.ownBlock (.slice qv nv cv)=some j→w3.heap.size≤j:=fun j hj=>by
          obtain ⟨vs,ls,hs,h1,_⟩:=hacc
          exact (h1.lt j hj).1
        have HSN:Hid (∀ w4 w5 v4,Below wr.heap.size wr w4→CmpsOwn w4.heap.size w5 v4 ds→Below w4.heap.size w4 w5→∃ vs,w5.ownsRow w3.heap.size 203 1 (.slice qv nv cv) acc.length vs∧∀ o w6 v6,w6.ownsRow w3.heap.size 203 1 v6 (acc.length+1) (vs++[v4])→(w5.alloc o).grownBy w6 (Value.ownBlock (.slice qv nv cv))→RangeOwn w3.heap.size w6 v6 (acc++[ds])):=fun w4 w5 v4 b4 h4 b5=>(hacc.below b4).snoc (Nat.le_trans hlo b4.size) b5 h4
        have HRW:Hid (∀ j,Value.ownBlock (.slice qv nv cv)=some j→w3.heap.size≤j):=hrow
        clear hf hrow hacc
        go_wp2_with (first
          | (go_at_call 160; refine (HT.out _).mono ?_; rintro e w4 ⟨rfl, b4⟩; have hm4 := hmr.trans (b4.mono hmr.size))
          | (go_at_call 159; refine (HC'.out _ hm4).mono ?_; rintro e w5 ⟨v5, rfl, hv5, b5⟩; obtain ⟨q5, c5, us5, hq5, _, _⟩ := hv5.at; subst hq5; obtain ⟨vs, o5, hsn⟩ := HSN.out w4 w5 _ b4 hv5 b5; have HSN2 := hsn (.cells #[.slice q5 ((some ds).getD []).length c5] 203); have HSN3 : Hid (∀ w6 v6, w6.ownsRow w3.heap.size 203 1 v6 (acc.length + 1) (vs ++ [.slice q5 ((some ds).getD []).length c5]) → (w5.alloc (.cells #[.slice q5 ((some ds).getD []).length c5] 203)).grownBy w6 (Value.ownBlock (.slice qv nv cv)) → RangeOwn w3.heap.size w6 v6 (acc ++ [ds])) := HSN2; clear hsn HSN2 hv5)
          | (at_builtin; refine wpList_append_own _ rfl _ _ 116 rfl w3.heap.size 203 i0 (.slice none 0 0) 1 24 Tryz.underlying116 hi hz0 hz1 hz2 rfl (by decide) (.slice qv nv cv) acc.length vs rfl (o5.alloc _) ⟨w5.heap.size, 0, none⟩ 1 1 [.slice q5 ((some ds).getD []).length c5] rfl rfl (cell_one_c _ _ _) (fun u hu => by simp at hu; subst hu; rfl) (by unfold maxLen; omega) (by omega) (by have h1 := hlo; have h2 := b4.size; have h3 := b5.size; simp; omega) ?_))
        intro v6 w6 o6 gr6 _
        have kx:=(hbr.trans (b4.mono hlo)).trans (b5.mono (Nat.le_trans hlo b4.size))
        have k6:=below_turned (kx.alloc kx.size _) gr6 (by have:=kx.size;simp;omega) HRW.out
        have hown:=HSN3.out w6 v6 (by rw [hal];exact o6) gr6
        clear HSN3 HSN o5 o6 gr6
        go_wp2_with fail
        go_roundw
        case rel=>exact ⟨k+1,acc++[ds],by omega,by go_num,hown,by simp [hal],HN,k6⟩
        case measure=>simp [intOf];omega
    · have he:k=ts.length:=by omega
      subst he
      have e:R=some acc:=by rw [HF.out, ←hf.out,List.drop_length,foldR]
      subst e
      clear hf HF hcell HP
      go_wp2_with fail
      go_ret2
      exact ⟨_,rfl,hacc.lower b3.size,hmr⟩
theorem piece2 (t:ByteArray) (i:Nat) (h:i+2≤t.size):((t.extract i (i+2)).toList == orT.toList)=((((t[i]'(by omega)).toNat:Int) == 124)&&(((t[i+1]'(by omega)).toNat:Int) == 124)):=by
 have e:(t.extract i (i+2)).toList=[t[i]'(by omega),t[i+1]'(by omega)]:=by
  have hz:(t.extract i (i+2)).size=2:=by rw [ByteArray.size_extract];omega
  rw [ByteArray.toList_eq]
  apply List.ext_getElem
  ·rw [Array.length_toList];exact hz
  ·intro n h1 h2
   have hn:n=0∨n=1:=by simp at h2;omega
   have hg: ∀ k (hk:k<(t.extract i (i+2)).size),(t.extract i (i+2))[k]=t[i+k]'(by omega):=fun k hk=>ByteArray.getElem_extract ..
   rcases hn with rfl|rfl
   ·exact hg 0 (by omega)
   ·exact hg 1 (by omega)
 have hu: ∀ x:UInt8,(x == 124)=(((x.toNat:Int)) == 124):=fun x=>by
  rw [Bool.eq_iff_iff]
  simp only [beq_iff_eq]
  constructor
  ·rintro rfl;rfl
  ·intro h;apply UInt8.toNat_inj.1;simp;omega
 rw [e,show orT.toList=[124,124] by decide+kernel, ←hu, ←hu]
 simp [List.cons_beq_cons]
theorem sides_hit (t:ByteArray) (k:Nat) (hno:Lib.NoOccB t orT k) (hk:k+2≤t.size) (h1:(((t[k]'(by omega)).toNat:Int) == 124)=true) (h2:(((t[k+1]'(by omega)).toNat:Int) == 124)=true):sidesI t=t.extract 0 k::sidesI (t.extract (k+2) t.size):=by
  have hi : Lib.indexB t orT = k := Lib.hit t orT k hno hk (by
    have h := piece2 t k hk
    rw [h1, h2] at h
    exact h)
  rw [sidesI,Lib.countB_hit t orT k (by decide) hi,Nat.add_comm,Lib.splitB_hit orT 0 _ t k hi]
  rfl
theorem sides_end (t:ByteArray) (k:Nat) (hno:Lib.NoOccB t orT k) (h:t.size<k+2):sidesI t=[t]:=by
 rw [sidesI,Lib.splitB_miss orT 0 _ t (Lib.past t orT k hno (by decide) h)]
theorem sides_miss (t:ByteArray) (k:Nat) (hno:Lib.NoOccB t orT k) (hk:k+2≤t.size) (h:((((t[k]'(by omega)).toNat:Int) == 124)&&(((t[k+1]'(by omega)).toNat:Int) == 124))=false):Lib.NoOccB t orT (k+1):=
 Lib.miss_piece t orT k hno hk ((piece2 t k hk).trans h)
theorem at_rest (s:ByteArray) (b i:Nat) (hb:b≤i) (hi:i<s.size):((s.extract b s.size)[i-b]'(by rw [ByteArray.size_extract];omega))=s[i]:=by
 rw [ByteArray.getElem_extract]
 congr 1
 omega
theorem rest_cut (s:ByteArray) (b k:Nat) (hb:b≤s.size):(s.extract b s.size).extract k (s.extract b s.size).size=s.extract (b+k) s.size:=by
 rw [ByteArray.size_extract,ByteArray.extract_extract]
 congr 1
 omega
theorem rest_front (s:ByteArray) (b i:Nat) (hb:b≤i) (hi:i≤s.size):(s.extract b s.size).extract 0 (i-b)=s.extract b i:=by
 rw [ByteArray.extract_extract]
 congr 1<;>omega
theorem l4Sides_c (s:ByteArray) (hs:s.size≤1048576) (w:World):
  Calls Tryz.prog 165 #[.string s] w fun e w'=>∃ v,e=.returned v∧w'.ownsRow w.heap.size 9 1 v (sidesI s).length (strsV (sidesI s))∧Below w.heap.size w w':=by
 obtain ⟨i0,hi,hz0,hz1,hz2⟩:=info_parts infoS
 have ho:(w.alloc (.cells #[] 9)).ownsRow w.heap.size 9 1 (.slice (some ⟨w.heap.size,0,none⟩) 0 0) 0 []:=World.ownsRow_lit w #[] 0 (Nat.le_refl _) (by unfold maxLen;omega) rfl
 have h00:s.extract 0 s.size=s:=by simp
 go_enter Tryz.func165,Tryz.ntmps165
 go_wp2_with fail
 go_loopw [3,4,5] (fun vo vb vi wr=>∃ (i b:Nat) (xs:List ByteArray),vi=.int .i64 (i:Int)∧vb=.int .i64 (b:Int)∧i≤s.size∧b≤i∧xs.length≤i∧wr.ownsRow w.heap.size 9 1 vo xs.length (strsV xs)∧Hid (xs++sidesI (s.extract b s.size)=sidesI s∧Lib.NoOccB (s.extract b s.size) orT (i-b))∧Below w.heap.size w wr) (fun _ _ vi _=>s.size-(intOf vi).toNat)
 case atStart=>exact ⟨0,0,[],rfl,rfl,by omega,by omega,by simp,ho,⟨by rw [h00];rfl,fun j h=>absurd h (by omega)⟩,(Below.refl _ _).alloc (Nat.le_refl _) _⟩
 case round=>
  obtain ⟨i,b,xs,rfl,rfl,hi1,hbi,hxl,hown,hh,hbr⟩:=hrel
  clear ho h00
  have hrz:(s.extract b s.size).size=s.size-b:=by rw [ByteArray.size_extract];omega
  by_cases hlt:i+1<s.size
  ·have hlt':(i:Int)+1<(s.size:Int):=by omega
   have hbt:=at_rest s b i hbi (by omega)
   have hbt2:=at_rest s b (i+1) (by omega) hlt
   have hcc:(s.extract b s.size)[i-b+1]'(by omega)=s[i+1]:=by rw [←hbt2];congr 1;omega
   have HMISS:Hid ((((s[i]'(by omega)).toNat:Int) == 124&&(((s[i+1]'hlt).toNat:Int) == 124))=false→Lib.NoOccB (s.extract b s.size) orT (i+1-b)):=fun h=>by
    rw [show i+1-b=i-b+1 by omega]
    exact sides_miss _ _ hh.out.2 (by omega) (by rw [hbt,hcc];exact h)
   have HHIT:Hid ((((s[i]'(by omega)).toNat:Int) == 124)=true→(((s[i+1]'hlt).toNat:Int) == 124)=true→(xs++[s.extract b i])++sidesI (s.extract (i+2) s.size)=sidesI s):=fun h1 h2=>by
    rw [←hh.out.1,sides_hit _ _ hh.out.2 (by omega) (by rw [hbt];exact h1) (by rw [hcc];exact h2),rest_front s b i hbi hi1,rest_cut s b (i-b+2) (by omega),show b+(i-b+2)=i+2 by omega]
    simp
   have HS:Hid (xs++sidesI (s.extract b s.size)=sidesI s):=hh.out.1
   clear hh hbt hbt2 hcc hrz
   cases hc1:(((s[i]'(by omega)).toNat:Int) == 124) with
   |true=>
    cases hc2:(((s[i+1]'hlt).toNat:Int) == 124) with
    |true=>
     have HT:Hid ((xs++[s.extract b i])++sidesI (s.extract (i+2) s.size)=sidesI s):=HHIT.out hc1 hc2
     clear HHIT HMISS HS
     go_wp2_with (at_builtin;refine wpList_append_own _ rfl _ _ 28 rfl w.heap.size 9 i0 (.string ⟨#[]⟩) 1 16 Tryz.underlying28 hi hz0 hz1 hz2 rfl (by decide) _ xs.length (strsV xs) rfl (hown.alloc _) ⟨wr.heap.size,0,none⟩ 1 1 (strsV [s.extract b i]) rfl rfl (cell_one_new _ _ _) (fun u hu=>by simp [strsV] at hu;subst hu;rfl) (by unfold maxLen;omega) (by omega) (by have:=hbr.size;simp;omega) ?_)
     intro v2 w2 o2 gr2 _
     rw [strs_append] at o2
     have hb2:Below w.heap.size w w2:=Below.grown (hbr.alloc hbr.size _) gr2 (by have:=hbr.size;simp;omega) (fun j hj=>(hown.lt _ hj).1)
     have hl2:(xs++[s.extract b i]).length=xs.length+1:=by simp
     rw [←hl2] at o2
     clear gr2 hown hbr hl2
     go_wp2_with fail
     go_roundw
     case rel=>exact ⟨i+2,i+2,_,by go_num,by go_num,by omega,by omega,(by simp;omega),o2,⟨HT.out,fun j h=>absurd h (by omega)⟩,hb2⟩
     case measure=>simp [intOf];omega
    |false=>
     have HT:Hid (Lib.NoOccB (s.extract b s.size) orT (i+1-b)):=HMISS.out (by rw [hc1,hc2];rfl)
     clear HHIT HMISS
     go_wp2_with fail
     go_roundw
     case rel=>exact ⟨i+1,b,xs,by go_num,rfl,by omega,by omega,by omega,hown,⟨HS.out,HT.out⟩,hbr⟩
     case measure=>simp [intOf];omega
   |false=>
    have HT:Hid (Lib.NoOccB (s.extract b s.size) orT (i+1-b)):=HMISS.out (by rw [hc1];rfl)
    clear HHIT HMISS
    go_wp2_with fail
    go_roundw
    case rel=>exact ⟨i+1,b,xs,by go_num,rfl,by omega,by omega,by omega,hown,⟨HS.out,HT.out⟩,hbr⟩
    case measure=>simp [intOf];omega
  ·have hlt': ¬(i:Int)+1<(s.size:Int):=by omega
   have HT:Hid (xs++[s.extract b s.size]=sidesI s):=by
    show _=_
    rw [←hh.out.1,sides_end _ _ hh.out.2 (by omega)]
   clear hh
   go_wp2_with (at_builtin;refine wpList_append_own _ rfl _ _ 28 rfl w.heap.size 9 i0 (.string ⟨#[]⟩) 1 16 Tryz.underlying28 hi hz0 hz1 hz2 rfl (by decide) _ xs.length (strsV xs) rfl (hown.alloc _) ⟨wr.heap.size,0,none⟩ 1 1 (strsV [s.extract b s.size]) rfl rfl (cell_one_new _ _ _) (fun u hu=>by simp [strsV] at hu;subst hu;rfl) (by unfold maxLen;omega) (by omega) (by have:=hbr.size;simp;omega) ?_)
   intro v2 w2 o2 gr2 _
   rw [strs_append] at o2
   have hb2:Below w.heap.size w w2:=Below.grown (hbr.alloc hbr.size _) gr2 (by have:=hbr.size;simp;omega) (fun j hj=>(hown.lt _ hj).1)
   have hl2:(xs++[s.extract b s.size]).length=xs.length+1:=by simp
   rw [←hl2,HT.out] at o2
   clear gr2 hown hbr hl2
   go_wp2_with fail
   go_ret
   exact ⟨_,rfl,o2,hb2⟩
def bl (t:ByteArray) (i:Nat):Prop:=∃ h:i<t.size,((t[i]'h).toNat:Int)=32
theorem trimR_step' {t:ByteArray} (h:bl t (t.size-1)):trimRS t=trimRS (t.extract 0 (t.size-1)):=trimR_step (by have:=h.1;omega) h.2
theorem trimR_stop' {t:ByteArray} (h: ¬bl t (t.size-1)):trimRS t=t:=trimR_stop (fun h0 e=>h ⟨by omega,e⟩)
theorem trimL_step' {t:ByteArray} (h:bl t 0):trimLS t=trimLS (t.extract 1 t.size):=trimL_step h.1 h.2
theorem trimL_stop' {t:ByteArray} (h: ¬bl t 0):trimLS t=t:=trimL_stop (fun h0 e=>h ⟨h0,e⟩)
theorem bl_ex {t:ByteArray} {i j k:Nat} (hj:j≤t.size) (hk:i+k<j):bl (t.extract i j) k↔bl t (i+k):=by
 have hsz:(t.extract i j).size=j-i:=by rw [ByteArray.size_extract];omega
 constructor
 ·rintro ⟨h,e⟩;exact ⟨by omega,by rw [ByteArray.getElem_extract] at e;exact e⟩
 ·rintro ⟨h,e⟩;exact ⟨by omega,by rw [ByteArray.getElem_extract];exact e⟩
theorem size0_eq {a b:ByteArray} (ha:a.size=0) (hb:b.size=0):a=b:=by
 have h1:a.data=#[]:=Array.eq_empty_of_size_eq_zero ha
 have h2:b.data=#[]:=Array.eq_empty_of_size_eq_zero hb
 cases a;cases b
 simp at h1 h2
 rw [h1,h2]
theorem trimRL : ∀ (n:Nat) (t:ByteArray),t.size=n→bl t 0→
    ((trimRS t).size=0∧(trimRS (t.extract 1 t.size)).size=0)∨(bl (trimRS t) 0∧(trimRS t).extract 1 (trimRS t).size=trimRS (t.extract 1 t.size)):=by
  intro n
  induction n with
  |zero=>intro t hn hb;have:=hb.1;omega
  |succ n ih=>
    intro t hn hb
    have h1z:(t.extract 1 t.size).size=n:=by rw [ByteArray.size_extract];omega
    by_cases hl:bl t (t.size-1)
    · rw [trimR_step' hl]
      have h2z:(t.extract 0 (t.size-1)).size=n:=by rw [ByteArray.size_extract];omega
      by_cases h1:n=0
      · left
        have e1:trimRS (t.extract 0 (t.size-1))=t.extract 0 (t.size-1):=trimR_stop' (fun h=>by have:=h.1;omega)
        have e2:trimRS (t.extract 1 t.size)=t.extract 1 t.size:=trimR_stop' (fun h=>by have:=h.1;omega)
        rw [e1,e2]
        omega
      · have hb2:bl (t.extract 0 (t.size-1)) 0:=(bl_ex (by omega) (by omega)).2 (by simpa using hb)
        have hl2:bl (t.extract 1 t.size) ((t.extract 1 t.size).size-1):=(bl_ex (by omega) (by omega)).2 (by rw [h1z,show 1+(n-1)=t.size-1 by omega];exact hl)
        have e:(t.extract 0 (t.size-1)).extract 1 (t.extract 0 (t.size-1)).size=(t.extract 1 t.size).extract 0 ((t.extract 1 t.size).size-1):=by
          rw [h1z,h2z,ByteArray.extract_extract,ByteArray.extract_extract]
          congr 1<;>omega
        have:=ih _ h2z hb2
        rw [e, ←trimR_step' hl2] at this
        exact this
    · have h1:n≠0:=fun h=>hl (by rw [show t.size-1=0 by omega];exact hb)
      have hl2 : ¬ bl (t.extract 1 t.size) ((t.extract 1 t.size).size - 1) := fun h => hl (by
        have := (bl_ex (Nat.le_refl _) (by omega)).1 h
        rw [h1z, show 1 + (n - 1) = t.size - 1 by omega] at this
        exact this)
      rw [trimR_stop' hl,trimR_stop' hl2]
      exact .inr ⟨hb,rfl⟩
theorem trimR_front : ∀ (n:Nat) (t:ByteArray),t.size=n→bl (trimRS t) 0→bl t 0:=by
 intro n
 induction n with
 |zero=>intro t hn h;rw [trimR_stop' (fun h=>by have:=h.1;omega)] at h;exact h
 |succ n ih=>
  intro t hn h
  by_cases hl:bl t (t.size-1)
  ·rw [trimR_step' hl] at h
   have h2:=ih _ (by rw [ByteArray.size_extract];omega) h
   have h0:=h2.1
   rw [ByteArray.size_extract] at h0
   simpa using (bl_ex (by omega) (by omega)).1 h2
  ·rw [trimR_stop' hl] at h;exact h
theorem trim_turn : ∀ (n:Nat) (t:ByteArray),t.size=n→trimRS (trimLS t)=trimLS (trimRS t):=by
 intro n
 induction n with
 |zero=>
  intro t hn
  have h1: ¬bl t 0:=fun h=>by have:=h.1;omega
  have h2: ¬bl t (t.size-1):=fun h=>by have:=h.1;omega
  rw [trimL_stop' h1,trimR_stop' h2,trimL_stop' h1]
 |succ n ih=>
  intro t hn
  by_cases hb:bl t 0
  ·have hz:(t.extract 1 t.size).size=n:=by rw [ByteArray.size_extract];omega
   rw [trimL_step' hb,ih _ hz]
   rcases trimRL _ t rfl hb with ⟨h1,h2⟩|⟨h1,h2⟩
   ·rw [size0_eq h1 h2]
   ·rw [trimL_step' h1,h2]
  ·rw [trimL_stop' hb,trimL_stop' (fun h=>hb (trimR_front _ t rfl h))]
theorem trimS_turn (s:ByteArray):trimRS (trimLS s)=trimS s:=trim_turn _ s rfl
theorem l4Trim_c (s:ByteArray) (hs:s.size≤1099511627776) (w:World):
  Calls Tryz.prog 167 #[.string s] w fun e w'=>e=.returned (.string (trimS s))∧w=w':=by
 go_enter Tryz.func167,Tryz.ntmps167
 go_wp2_with fail
 go_loop [0] (fun v0=>∃ t:ByteArray,v0=.string t∧t.size≤1099511627776∧Hid (trimLS t=trimLS s)) (fun v0=>match v0 with| .string t=>t.size|_=>0)
 case atStart=>exact ⟨s,rfl,hs,rfl⟩
 case round=>
  obtain ⟨t,rfl,ht,hh⟩:=hrel
  by_cases h0:0<t.size
  ·have h0':(0:Int)<(t.size:Int):=by omega
   by_cases hb:((t[0]'(by omega)).toNat:Int)=32
   ·have HN:Hid (trimLS (t.extract 1 t.size)=trimLS s):=by show _=_;rw [←hh.out,trimL_step h0 hb]
    have hb':(((t[0]'(by omega)).toNat:Int) == 32)=true:=by simpa using hb
    clear hh hb
    go_wp2_with fail
    go_round
    case rel=>exact ⟨_,rfl,by rw [ByteArray.size_extract];omega,HN⟩
    case measure=>simp;omega
   ·have HN:Hid (trimRS t=trimS s):=by show _=_;rw [←trimS_turn, ←hh.out,trimL_stop (fun _=>hb)]
    have hb':(((t[0]'(by omega)).toNat:Int) == 32)=false:=by simpa using hb
    clear hh hb
    go_wp2_with fail
    go_loop [0] (fun v0=>∃ r:ByteArray,v0=.string r∧r.size≤1099511627776∧Hid (trimRS r=trimS s)) (fun v0=>match v0 with| .string r=>r.size|_=>0)
    case atStart=>exact ⟨t,rfl,ht,HN⟩
    case round=>
     obtain ⟨r,rfl,hr,hh2⟩:=hrel
     clear HN
     by_cases h02:0<r.size
     ·have h02':(0:Int)<(r.size:Int):=by omega
      have hm1:(r.size:Int)-1=((r.size-1:Nat):Int):=by omega
      have hm2:((r.size-1:Nat):Int)<(r.size:Int):=by omega
      by_cases hb2:((r[r.size-1]'(by omega)).toNat:Int)=32
      ·have HN2:Hid (trimRS (r.extract 0 (r.size-1))=trimS s):=by show _=_;rw [←hh2.out,trimR_step h02 hb2]
       have hb2':(((r[r.size-1]'(by omega)).toNat:Int) == 32)=true:=by simpa using hb2
       clear hh2 hb2
       go_wp2_with fail
       go_round
       case rel=>exact ⟨_,rfl,by rw [ByteArray.size_extract];omega,HN2⟩
       case measure=>simp;omega
      ·have HN2:Hid (trimS s=r):=by show _=_;rw [←hh2.out];exact trimR_stop (fun _=>hb2)
       have hb2':(((r[r.size-1]'(by omega)).toNat:Int) == 32)=false:=by simpa using hb2
       clear hh2 hb2
       go_wp2_with fail
       go_ret
       exact ⟨by rw [HN2.out];rfl,rfl⟩
     ·have h02': ¬(0:Int)<(r.size:Int):=by omega
      have HN2:Hid (trimS s=r):=by show _=_;rw [←hh2.out];exact trimR_stop (fun h=>absurd h h02)
      clear hh2
      go_wp2_with fail
      go_ret
      exact ⟨by rw [HN2.out];rfl,rfl⟩
  ·have h0': ¬(0:Int)<(t.size:Int):=by omega
   have HN:Hid (trimRS t=trimS s):=by show _=_;rw [←trimS_turn, ←hh.out,trimL_stop (fun h=>absurd h h0)]
   clear hh
   go_wp2_with fail
   go_loop [0] (fun v0=>∃ r:ByteArray,v0=.string r∧r.size≤1099511627776∧Hid (trimRS r=trimS s)) (fun v0=>match v0 with| .string r=>r.size|_=>0)
   case atStart=>exact ⟨t,rfl,ht,HN⟩
   case round=>
    obtain ⟨r,rfl,hr,hh2⟩:=hrel
    clear HN
    by_cases h02:0<r.size
    ·have h02':(0:Int)<(r.size:Int):=by omega
     have hm1:(r.size:Int)-1=((r.size-1:Nat):Int):=by omega
     have hm2:((r.size-1:Nat):Int)<(r.size:Int):=by omega
     by_cases hb2:((r[r.size-1]'(by omega)).toNat:Int)=32
     ·have HN2:Hid (trimRS (r.extract 0 (r.size-1))=trimS s):=by show _=_;rw [←hh2.out,trimR_step h02 hb2]
      have hb2':(((r[r.size-1]'(by omega)).toNat:Int) == 32)=true:=by simpa using hb2
      clear hh2 hb2
      go_wp2_with fail
      go_round
      case rel=>exact ⟨_,rfl,by rw [ByteArray.size_extract];omega,HN2⟩
      case measure=>simp;omega
     ·have HN2:Hid (trimS s=r):=by show _=_;rw [←hh2.out];exact trimR_stop (fun _=>hb2)
      have hb2':(((r[r.size-1]'(by omega)).toNat:Int) == 32)=false:=by simpa using hb2
      clear hh2 hb2
      go_wp2_with fail
      go_ret
      exact ⟨by rw [HN2.out];rfl,rfl⟩
    ·have h02': ¬(0:Int)<(r.size:Int):=by omega
     have HN2:Hid (trimS s=r):=by show _=_;rw [←hh2.out];exact trimR_stop (fun h=>absurd h h02)
     clear hh2
     go_wp2_with fail
     go_ret
     exact ⟨by rw [HN2.out];rfl,rfl⟩
theorem rangeOwn_empty (w:World) (lo:Nat) (h:lo≤w.heap.size):RangeOwn lo (w.alloc (.cells #[] 203)) (.slice (some ⟨w.heap.size,0,none⟩) 0 0) []:=
 ⟨[],fun _=>0,fun _=>0,World.ownsRow_lit w #[] 0 (base:=lo) (e:=203) (size:=1) h (by unfold maxLen;omega) rfl,fun i h=>by simp at h,fun i j _ h=>by simp at h⟩
theorem owns_slice {w:World} {base:Nat} {e:TypeId} {v:Value} {n:Nat} {xs:List Value} (h:w.ownsRow base e 1 v n xs): ∃ q m c,v=.slice q m c:=by
 rcases h.2 with ⟨h,_⟩|⟨g,cap,cur,h,_⟩
 ·exact ⟨_,_,_,h⟩
 ·exact ⟨_,_,_,h⟩
theorem word_bulk (x:ByteArray): ∀ d∈wordD x,bulkS d.ps≤1048576:=by
 unfold wordD
 split
 ·intro d hd
  simp at hd
  subst hd
  simp [bulkS]
 ·split
  ·rename_i hp
   exact make_bulk _ _ _ _ _ _ (part_nums hp).2.2
  ·intro d hd;simp at hd
theorem foldS_bulk : ∀ (ws:List ByteArray) (acc:List CmpD),(∀ d∈acc,bulkS d.ps≤1048576)→∀ d∈(foldS ws acc).2,bulkS d.ps≤1048576
  |[],acc=>fun h=>by simpa [foldS] using h
  |x::ws,acc=>fun h=>by
    rw [foldS]
    split
    · exact foldS_bulk ws _ (fun d hd => by
        rcases List.mem_append.1 hd with hd | hd
        · exact h d hd
        · exact word_bulk x d hd)
    · exact h
theorem res_bulk (x:ByteArray):bulkS (resP x)≤27:=by
 cases h:resOk x with
 |true=>exact bk_bulk (bk_ver x h)
 |false=>
  have:resAll x=none:=by
   cases hr:resAll x with
   |none=>rfl
   |some r=>simp [resOk,hr] at h
  simp [resP,this,bulkS]
theorem list_bulk (ws:List ByteArray): ∀ d∈(listS ws).2,bulkS d.ps≤1048576:=by
 unfold listS
 split
 ·intro d hd
  simp only [bothD,List.mem_cons,List.not_mem_nil,or_false] at hd
  rcases hd with rfl|rfl
  ·have:=res_bulk (ws.getD 0 ⟨#[]⟩);simp only;omega
  ·have:=res_bulk (ws.getD 2 ⟨#[]⟩);simp only;omega
 ·exact foldS_bulk ws [] (fun d hd=>by simp at hd)
theorem list_four (ws:List ByteArray) (h:(listS ws).1=true):(listS ws).2.length≤4:=by
 unfold listS at h ⊢
 split
 ·simp [bothD]
 ·rename_i hn
  rw [if_neg hn] at h
  exact foldS_four ws [] h
theorem foldR_len : ∀ (ts:List ByteArray) (acc dss:List (List CmpD)),foldR ts acc=some dss→dss.length=acc.length+ts.length
 |[],acc,dss=>fun h=>by simp [foldR] at h;subst h;simp
 |t::ts,acc,dss=>fun h=>by
  rw [foldR] at h
  split at h
  ·have:=foldR_len ts _ _ h
   simp at this ⊢
   omega
  ·simp at h
theorem specRange_c (s:ByteArray) (hs:s.size≤1048576) (w:World):
    Calls Tryz.prog 89 #[.string s] w fun e w'=>∃ v,e=.returned (.tuple #[v,.bool (rangeI s).isSome])∧RangeOwn w.heap.size w' v ((rangeI s).getD [])∧Below w.heap.size w w':=by
  have HS:=l4Sides_c s hs (w.alloc (.cells #[] 203))
  have hpc: ∀ x∈sidesI s,x.size≤s.size:=splitB_piece orT 0 rfl _ s
  have hl:(sidesI s).length=Lib.countB s orT+1:=Lib.splitB_all orT (by decide) 0 _ s rfl
  have hl0:0<(sidesI s).length:=by omega
  have hll:(sidesI s).length≤1048577:=by
    have:=Lib.countB_le orT (by decide) s.size s (Nat.le_refl _)
    omega
  have HR:Hid (rangeI s=if 4<(sidesI s).length then none else foldR (sidesI s) []):=rfl
  obtain ⟨ts,hts⟩: ∃ ts,ts=sidesI s:=⟨_,rfl⟩
  obtain ⟨R,hR⟩: ∃ R,R=rangeI s:=⟨_,rfl⟩
  rw [←hts] at HS hpc HR hll hl0
  rw [←hR] at HR
  rw [←hR]
  clear hts hR hl
  have b1:Below w.heap.size w (w.alloc (.cells #[] 203)):=(Below.refl _ _).alloc (Nat.le_refl _) _
  have O1:=rangeOwn_empty w w.heap.size (Nat.le_refl _)
  obtain ⟨i0,hi,hz0,hz1,hz2⟩:=info_parts infoCmps
  go_enter Tryz.func89,Tryz.ntmps89
  go_wp2_with fail
  go_at_call 165
  refine HS.mono ?_
  rintro e w3 ⟨v3,rfl,o3,b3⟩
  obtain ⟨qw,cw,hv,hcw,hc3⟩:=reads_strs (reads_of_owns o3)
  subst hv
  rcases hc3 with hw0|⟨bq,off,rfl,hbq,hcell⟩
  · rw [hw0] at hl0;simp at hl0
  have k3:=b1.trans (b3.mono b1.size)
  have O3:=O1.below b3
  have o3':=owns_base o3 b1.size
  clear HS o3 O1 b1 b3
  go_wp2_with fail
  go_loopw [4,6,7,8] (fun v4 vi v7 v8 wr=>∃ (k:Nat) (acc:List (List CmpD)),k≤ts.length∧vi=.int .i64 (k:Int)∧RangeOwn w.heap.size wr v4 acc∧acc.length=k∧Hid (foldR (ts.drop k) acc=foldR ts [])∧wr.ownsRow w.heap.size 9 1 (.slice (some ⟨bq,off,none⟩) ts.length cw) ts.length (strsV ts)∧Below w.heap.size w wr) (fun _ vi _ _ _=>ts.length-(intOf vi).toNat)
  case atStart=>exact ⟨0,[],Nat.zero_le _,rfl,O3,rfl,rfl,o3',k3⟩
  case round=>
    obtain ⟨k,acc,hk,rfl,hacc,hal,hf,oL,hbr⟩:=hrel
    clear O3 o3' hcell hbq
    obtain ⟨qz,cz,hvz,_,hcz⟩:=reads_strs (reads_of_owns oL)
    cases hvz
    rcases hcz with hz|⟨bz,oz,hqz,hbq,hcell⟩
    · rw [hz] at hl0;simp at hl0
    cases hqz
    obtain ⟨qv,nv,cv,hv5⟩: ∃ q n c,u4=.slice q n c:=by
      obtain ⟨vs,ls,hs,h1,_⟩:=hacc
      rcases h1.2 with ⟨h,_⟩|⟨g,cap,cur,h,_⟩
      · exact ⟨_,_,_,h⟩
      · exact ⟨_,_,_,h⟩
    subst hv5
    have hnv:nv=acc.length:=by
      obtain ⟨vs,ls,hs,h1,_⟩:=hacc
      rcases h1.2 with ⟨h,h'⟩|⟨g,cap,cur,h,_⟩
      · cases h;exact h'.symm
      · cases h;rfl
    subst hnv
    subst hal
    by_cases hlt:acc.length<ts.length
    · have hcx:wr.cell? ⟨bq,off+acc.length,none⟩=some (.string ts[acc.length]):=hcell acc.length hlt
      have hsk:ts[acc.length].size≤1048576:=by have:=hpc ts[acc.length] (List.getElem_mem _);omega
      have hdr:ts.drop acc.length=ts[acc.length]::ts.drop (acc.length+1):=List.drop_eq_getElem_cons hlt
      rw [hdr,foldR] at hf
      obtain ⟨x,hx⟩: ∃ x,x=ts[acc.length]:=⟨_,rfl⟩
      rw [←hx] at hcx hsk hf
      have HT:Hid (∀ w1,Calls Tryz.prog 167 #[.string x] w1 fun e w'=>e=.returned (.string (trimS x))∧w1=w'):=fun w1=>l4Trim_c x (by omega) w1
      have htz:(trimS x).size≤1048576:=Nat.le_trans (trimS_size x) hsk
      obtain ⟨y,hy⟩: ∃ y,y=trimS x:=⟨_,rfl⟩
      rw [←hy] at HT htz hf
      have HSp:Hid (∀ w1,Calls Tryz.prog 127 #[.string y,.int .u8 32] w1 fun e w'=>∃ v,e=.returned v∧w'.ownsRow w1.heap.size 9 1 v (splitS y 32).length (strsV (splitS y 32))∧Below w1.heap.size w1 w'):=fun w1=>specSplit_c y 32 w1 htz
      have hwl:(splitS y 32).length≤1048577:=by have:=splitS_len y 32;omega
      have hw0:=splitS_pos y 32
      have hwz: ∀ z∈splitS y 32,z.size≤1048576:=fun z hz=>Nat.le_trans (splitS_piece y 32 z hz) htz
      obtain ⟨ws,hws⟩: ∃ z,z=splitS y 32:=⟨_,rfl⟩
      rw [←hws] at HSp hwl hw0 hwz hf
      rw [list_same] at hf
      have hb4:=list_four ws
      have hbk:=list_bulk ws
      have HLs:Hid (∀ w1 v,Reads w1 v (strsV ws)→Calls Tryz.prog 166 #[v] w1 fun e w'=>∃ v',e=.returned (.tuple #[v',.bool (listS ws).1])∧CmpsOwn w1.heap.size w' v' (listS ws).2∧Below w1.heap.size w1 w'):=fun w1 v hv=>l4List_c ws hwl hwz hw0 v w1 hv
      obtain ⟨ok,hok⟩: ∃ z,z=(listS ws).1:=⟨_,rfl⟩
      obtain ⟨ds,hds⟩: ∃ z,z=(listS ws).2:=⟨_,rfl⟩
      rw [←hok, ←hds] at HLs hf hb4
      rw [←hds] at hbk
      have hki:(acc.length:Int)<(ts.length:Int):=by omega
      clear hx hy hws hok hds hdr hcell hwl hw0 hwz
      cases ok with
      |false=>
        have HN:Hid (R=none):=by
          show _=_
          rw [HR.out, ←hf.out];simp
        clear hf HR
        go_wp2_with (first
          | (go_at_call 167; refine (HT.out _).mono ?_; rintro e w' ⟨rfl, rfl⟩)
          | (go_at_call 127; refine (HSp.out _).mono ?_; rintro e w4 ⟨v4, rfl, o4, b4⟩; have R4 := reads_of_owns o4; obtain ⟨q4, n4, c4, hq4⟩ := owns_slice o4; subst hq4)
          | (go_at_call 166; refine (HLs.out _ _ R4).mono ?_; rintro e w5 ⟨v5, rfl, o5, b5⟩; obtain ⟨q5, c5, us5, hq5, _, _⟩ := o5.at; subst hq5))
        go_ret2
        have k5:=(hbr.trans (b4.mono hbr.size)).trans (b5.mono (Nat.le_trans hbr.size b4.size))
        exact ⟨_,by rw [HN.out];rfl,by rw [HN.out];exact rangeOwn_empty _ _ k5.size,k5.alloc k5.size _⟩
      |true=>
        have hd4:=hb4 rfl
        obtain ⟨gd,hgd⟩: ∃ z,z=ds.all goodD:=⟨_,rfl⟩
        have HGd:Hid (∀ lo w1 v,CmpsOwn lo w1 v ds→Calls Tryz.prog 168 #[v] w1 fun e w'=>e=.returned (.bool gd)∧Below w1.heap.size w1 w'):=fun lo w1 v hv=>by rw [hgd];exact l4Good_c lo v ds w1 hv (by omega) hbk
        rw [←hgd] at hf
        clear hgd hb4 hbk
        cases gd with
        |false=>
          have HN:Hid (R=none):=by
            show _=_
            rw [HR.out, ←hf.out];simp
          clear hf HR
          go_wp2_with (first
            | (go_at_call 167; refine (HT.out _).mono ?_; rintro e w' ⟨rfl, rfl⟩)
            | (go_at_call 127; refine (HSp.out _).mono ?_; rintro e w4 ⟨v4, rfl, o4, b4⟩; have R4 := reads_of_owns o4; obtain ⟨q4, n4, c4, hq4⟩ := owns_slice o4; subst hq4)
            | (go_at_call 166; refine (HLs.out _ _ R4).mono ?_; rintro e w5 ⟨v5, rfl, o5, b5⟩; obtain ⟨q5, c5, us5, hq5, _, _⟩ := o5.at; subst hq5)
            | (go_at_call 168; refine (HGd.out _ _ _ o5).mono ?_; rintro e w6 ⟨rfl, b6⟩))
          go_ret2
          have k5:=(hbr.trans (b4.mono hbr.size)).trans (b5.mono (Nat.le_trans hbr.size b4.size))
          have k6:=k5.trans (b6.mono k5.size)
          exact ⟨_,by rw [HN.out];rfl,by rw [HN.out];exact rangeOwn_empty _ _ k6.size,k6.alloc k6.size _⟩
        |true=>
          have HN:Hid (foldR (ts.drop (acc.length+1)) (acc++[ds])=foldR ts []):=by
            show _=_
            rw [←hf.out];simp
          have hlo:w.heap.size≤wr.heap.size:=hbr.size
          have HRW:Hid (∀ j,Value.ownBlock (.slice qv acc.length cv)=some j→w.heap.size≤j):=fun j hj=>by
            obtain ⟨vs,ls,hs,h1,_⟩:=hacc
            exact (h1.lt j hj).1
          have HSN:Hid (∀ w6 v4,Below wr.heap.size wr w6→CmpsOwn wr.heap.size w6 v4 ds→∃ vs,w6.ownsRow w.heap.size 203 1 (.slice qv acc.length cv) acc.length vs∧∀ o w7 v7,w7.ownsRow w.heap.size 203 1 v7 (acc.length+1) (vs++[v4])→(w6.alloc o).grownBy w7 (Value.ownBlock (.slice qv acc.length cv))→RangeOwn w.heap.size w7 v7 (acc++[ds])):=fun w6 v4 b h4=>hacc.snoc hlo b h4
          have HLK:Hid (∀ w6,Below wr.heap.size wr w6→∀ vs o w7,w6.ownsRow w.heap.size 203 1 (.slice qv acc.length cv) acc.length vs→(w6.alloc o).grownBy w7 (Value.ownBlock (.slice qv acc.length cv))→w7.ownsRow w.heap.size 9 1 (.slice (some ⟨bq,off,none⟩) ts.length cw) ts.length (strsV ts)):=fun w6 b vs o w7 o6 gr=>by
            have h1:=(owns_of_below oL b).alloc o
            exact h1.kept gr (rowsG_apart (o6.alloc o) h1 (by decide))
          clear hf hacc
          go_wp2_with (first
            | (go_at_call 167; refine (HT.out _).mono ?_; rintro e w' ⟨rfl, rfl⟩)
            | (go_at_call 127; refine (HSp.out _).mono ?_; rintro e w4 ⟨v4, rfl, o4, b4⟩; have R4 := reads_of_owns o4; obtain ⟨q4, n4, c4, hq4⟩ := owns_slice o4; subst hq4)
            | (go_at_call 166; refine (HLs.out _ _ R4).mono ?_; rintro e w5 ⟨v5, rfl, o5, b5⟩; obtain ⟨q5, c5, us5, hq5, _, _⟩ := o5.at; subst hq5)
            | (go_at_call 168; refine (HGd.out _ _ _ o5).mono ?_; rintro e w6 ⟨rfl, b6⟩; have b46 := b4.trans (b5.mono b4.size); have bw6 := b46.trans (b6.mono b46.size); obtain ⟨vs, o6, hsn⟩ := HSN.out w6 _ bw6 ((o5.below b6).lower b4.size); have HSN3 : Hid (∀ o w7 v7, w7.ownsRow w.heap.size 203 1 v7 (acc.length + 1) (vs ++ [.slice q5 ds.length c5]) → (w6.alloc o).grownBy w7 (Value.ownBlock (.slice qv acc.length cv)) → RangeOwn w.heap.size w7 v7 (acc ++ [ds])) := hsn; clear hsn)
            | (at_builtin; refine wpList_append_own _ rfl _ _ 116 rfl w.heap.size 203 i0 (.slice none 0 0) 1 24 Tryz.underlying116 hi hz0 hz1 hz2 rfl (by decide) (.slice qv acc.length cv) acc.length vs rfl (o6.alloc _) ⟨w6.heap.size, 0, none⟩ 1 1 [.slice q5 ds.length c5] rfl rfl (cell_one_c _ _ _) (fun u hu => by simp at hu; subst hu; rfl) (by unfold maxLen; omega) (by omega) (by have h1 := hlo; have h2 := bw6.size; simp; omega) ?_))
          intro v7 w7 o7 gr7 _
          have kx:=hbr.trans (bw6.mono hlo)
          have k7:=below_turned (kx.alloc kx.size _) gr7 (by have:=kx.size;simp;omega) HRW.out
          have hown:=HSN3.out _ w7 v7 o7 gr7
          have hL7:=HLK.out w6 bw6 vs _ w7 o6 gr7
          clear HSN3 HSN o6 o7 gr7
          go_wp2_with fail
          go_roundw
          case rel=>exact ⟨acc.length+1,acc++[ds],by omega,by go_num,hown,by simp,HN,hL7,k7⟩
          case measure=>simp [intOf];omega
    · have he:acc.length=ts.length:=by omega
      have hki: ¬(acc.length:Int)<(ts.length:Int):=by omega
      have HA:Hid (foldR ts []=some acc):=by show _=_;rw [←hf.out,he,List.drop_length,foldR]
      by_cases h4:4<acc.length
      · have HN:Hid (R=none):=by show _=_;rw [HR.out,if_pos (by omega)]
        have h4':(4:Int)<(acc.length:Int):=by omega
        clear hf HR HA hcell he
        go_wp2_with fail
        go_ret2
        exact ⟨_,by rw [HN.out];rfl,by rw [HN.out];exact rangeOwn_empty _ _ hbr.size,hbr.alloc hbr.size _⟩
      · have HN:Hid (R=some acc):=by show _=_;rw [HR.out,if_neg (by omega),HA.out]
        have h4': ¬(4:Int)<(acc.length:Int):=by omega
        clear hf HR HA hcell he
        go_wp2_with fail
        go_ret2
        exact ⟨_,by rw [HN.out];rfl,by rw [HN.out];exact hacc,hbr⟩
end Go.Proofs.YtlfmefojcmpfeaaGreatDoor
