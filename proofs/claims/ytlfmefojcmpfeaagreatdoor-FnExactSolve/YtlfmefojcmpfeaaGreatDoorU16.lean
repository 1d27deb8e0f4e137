/-
  Contracts for the walks and pure facts, several texts in one: each theorem says what it proves, and under which conditions.
-/
import Derived.Sort.Walk0
import Derived.Test.YtlfmefojcmpfeaaGreatDoorUT
import Derived.Test.YtlfmefojcmpfeaaGreatDoorU15
set_option linter.unusedSimpArgs false
set_option linter.unusedVariables false
set_option maxHeartbeats 16000000
set_option maxRecDepth 100000
namespace Go.Proofs.YtlfmefojcmpfeaaGreatDoor
open Go.RowKit
theorem sane_bulk {ps:List ByteArray} (h:bulkS ps≤1048576):saneP ps:=by
 refine ⟨?_,fun s hs=>?_⟩
 ·unfold bulkS at h;unfold maxLen;omega
 ·have:=size_of_bulk hs;unfold maxLen;omega
theorem CmpsSeg.cmpsIn {lo hi:Nat} {w:World} {v:Value} {ds:List CmpD} (h:CmpsSeg lo hi w v ds) (hl:ds.length≤4) (hb: ∀ d∈ds,bulkS d.ps≤1048576):CmpsIn (Ow lo w.heap.size) w v ds:=by
 obtain ⟨ys,us,h1,h2,_,_⟩:=h
 have hlen:=h1.1
 rcases h1.2 with ⟨rfl,hn⟩|⟨g,cap,cur,rfl,hg,hh,hx⟩
 ·have e:ds=[]:=List.eq_nil_of_length_eq_zero hn
  subst e
  exact ⟨none,0,rfl,by simp,by simp,.inl rfl⟩
 ·have hlt:=(Array.getElem?_eq_some_iff.1 hh).1
  refine ⟨_,cap,rfl,by unfold maxLen;omega,by omega,.inr ⟨g,0,us,rfl,⟨hg,hlt⟩,fun i hi=>?_⟩⟩
  rw [Nat.zero_add]
  obtain ⟨⟨f0,f1,f2,f3,f4⟩,ou⟩:=h2 i hi
  refine ⟨?_,?_,?_,?_,?_,rdB_owns ou,sane_bulk (hb _ (List.getElem_mem hi))⟩<;>rw [h1.cellAt _ (by omega)]<;>assumption
theorem RangeOwn.rangeIn {lo:Nat} {w:World} {v:Value} {dss:List (List CmpD)} (h:RangeOwn lo w v dss) (hl:dss.length≤4) (h4: ∀ ds∈dss,ds.length≤4) (hb: ∀ ds∈dss,∀ d∈ds,bulkS d.ps≤1048576):RangeIn (Ow lo w.heap.size) w v dss:=by
 obtain ⟨vs,ls,hs,h1,h2,_⟩:=h
 have hlen:=h1.1
 rcases h1.2 with ⟨rfl,hn⟩|⟨g,cap,cur,rfl,hg,hh,hx⟩
 ·have e:dss=[]:=List.eq_nil_of_length_eq_zero hn
  subst e
  exact ⟨none,0,rfl,by simp,by simp,.inl rfl⟩
 ·have hlt:=(Array.getElem?_eq_some_iff.1 hh).1
  refine ⟨_,cap,rfl,by unfold maxLen;omega,by omega,.inr ⟨g,0,fun i=>vs.getD i undef,rfl,⟨hg,hlt⟩,fun i hi=>?_⟩⟩
  obtain ⟨u,hu,hlo,hhi,hseg⟩:=h2 i hi
  have e:vs.getD i undef=u:=by simp [List.getD_eq_getElem?_getD,hu]
  show w.cell? ⟨g,0+i,none⟩=some (vs.getD i undef)∧CmpsIn (Ow lo w.heap.size) w (vs.getD i undef) dss[i]
  rw [e,Nat.zero_add]
  exact ⟨(h1.cellAt i (by omega)).trans hu,(hseg.cmpsIn (h4 _ (List.getElem_mem hi)) (hb _ (List.getElem_mem hi))).mono (Ow.mono hlo (Nat.le_refl _))⟩
theorem RangeOwn.slice {lo:Nat} {w:World} {v:Value} {dss:List (List CmpD)} (h:RangeOwn lo w v dss): ∃ q c,v=.slice q dss.length c:=by
 obtain ⟨_,_,_,ho,_⟩:=h
 rcases ho.2 with ⟨rfl,h0⟩|⟨g,c,cur,rfl,_⟩
 ·exact ⟨_,_,by rw [h0]⟩
 ·exact ⟨_,_,rfl⟩
theorem listC_small {ws:List ByteArray} {ds:List CmpD} (h:listC ws=some ds):ds.length≤4∧∀ d∈ds,goodD d=true:=by
 rw [list_same] at h
 split at h
 ·rename_i hc
  simp only [Option.some.injEq] at h
  subst h
  simp only [Bool.and_eq_true] at hc
  exact ⟨list_four ws hc.1,fun d hd=>List.all_eq_true.1 hc.2 d hd⟩
 ·simp at h
theorem foldR_small : ∀ (ts:List ByteArray) (acc dss:List (List CmpD)),foldR ts acc=some dss→(∀ ds∈acc,ds.length≤4∧∀ d∈ds,goodD d=true)→∀ ds∈dss,ds.length≤4∧∀ d∈ds,goodD d=true
  |[],acc,dss=>fun h ha=>by simp [foldR] at h;subst h;exact ha
  |t::ts,acc,dss=>fun h ha=>by
    rw [foldR] at h
    split at h
    · rename_i ds hds
      exact foldR_small ts _ _ h (fun e he => by
        rcases List.mem_append.1 he with he | he
        · exact ha e he
        · simp at he; subst he; exact listC_small hds)
    · simp at h
theorem range_small (s:ByteArray):((rangeI s).getD []).length≤4∧(∀ ds∈(rangeI s).getD [],ds.length≤4)∧∀ ds∈(rangeI s).getD [],∀ d∈ds,bulkS d.ps≤27:=by
 unfold rangeI
 split
 ·simp
 ·rename_i h4
  cases hf:foldR (sidesI s) [] with
  |none=>simp
  |some dss=>
   have hl:=foldR_len _ _ _ hf
   have hs:=foldR_small _ _ _ hf (fun ds hd=>by simp at hd)
   simp only [Option.getD_some]
   exact ⟨by simp at hl;omega,fun ds hd=>(hs ds hd).1,fun ds hd d hd'=>bk_bulk ((hs ds hd).2 d hd')⟩
theorem sum_le (l:List Nat) (m:Nat) (h: ∀ x∈l,x≤m):l.sum≤l.length*m:=by
 induction l with
 |nil=>simp
 |cons x l ih=>
  have h1:=h x (by simp)
  have h2:=ih (fun y hy=>h y (by simp [hy]))
  simp only [List.sum_cons,List.length_cons]
  rw [Nat.succ_mul]
  omega
theorem range_weight (s:ByteArray):wtR ((rangeI s).getD [])≤1048576:=by
  obtain ⟨h1,h2,h3⟩:=range_small s
  generalize (rangeI s).getD []=dss at h1 h2 h3
  have hc: ∀ ds∈dss,wtC ds≤112:=fun ds hd=>by
    have := sum_le (ds.map fun d => 1 + bulkS d.ps) 28 (fun x hx => by
      obtain ⟨d, hd', rfl⟩ := List.mem_map.1 hx
      have := h3 ds hd d hd'
      omega)
    rw [List.length_map] at this
    have h4:=h2 ds hd
    unfold wtC
    omega
  have := sum_le (dss.map fun ds => 1 + wtC ds) 113 (fun x hx => by
    obtain ⟨ds, hd', rfl⟩ := List.mem_map.1 hx
    have := hc ds hd'
    omega)
  rw [List.length_map] at this
  unfold wtR
  omega
theorem vltL_irrefl (x:List UInt8): ¬x<x:=List.lt_irrefl x
theorem vltL_trans {x y z:List UInt8} (h:x<y) (k:y<z):x<z:=List.lt_trans h k
theorem vltL_total {x y:List UInt8} (h: ¬x<y) (k: ¬y<x):x=y:=List.le_antisymm (by simpa using k) (by simpa using h)
def listB (s:ByteArray):List UInt8:=s.data.toList
theorem listB_inj {a b:ByteArray} (h:listB a=listB b):a=b:=ByteArray.ext (Array.toList_inj.1 h)
def ltS (a b:ByteArray):Bool:=Op.bytesLess a.toList b.toList
theorem ltS_iff (a b:ByteArray):ltS a b=decide (listB a<listB b):=by
 rw [ltS,ByteArray.toList_eq,ByteArray.toList_eq,bytesLess_eq];rfl
theorem gtS (a b:ByteArray):(!(Op.bytesLess a.toList b.toList||a.toList == b.toList))=ltS b a:=by
 rw [ltS_iff,ByteArray.toList_eq,ByteArray.toList_eq,bytesLess_eq]
 show _=decide (b.data.toList<a.data.toList)
 by_cases h:b.data.toList<a.data.toList
 ·have h1: ¬a.data.toList<b.data.toList:=fun k=>vltL_irrefl _ (vltL_trans h k)
  have h2: ¬a.data=b.data:=fun e=>by rw [e] at h;exact vltL_irrefl _ h
  simp [h,h1,h2]
 ·by_cases h1:a.data.toList<b.data.toList
  ·simp [h,h1]
  ·have h2:a.data.toList=b.data.toList:=vltL_total h1 h
   simp [h2,vltL_irrefl]
theorem ltS_irrefl (a:ByteArray):ltS a a=false:=by rw [ltS_iff];simp [vltL_irrefl]
theorem ltS_total {a b:ByteArray} (h:ltS a b=false) (k:ltS b a=false):a=b:=by
 rw [ltS_iff,decide_eq_false_iff_not] at*
 exact listB_inj (vltL_total h k)
def cmpI (a b:Int):Int:=if a<b then-1 else if b<a then 1 else 0
def cmpS (a b:ByteArray):Int:=if ltS a b then-1 else if ltS b a then 1 else 0
def orI :List Int→Int
 |[]=>0
 |z::zs=>if z=0 then orI zs else z
def cmpPart (a b:ByteArray):Int:=
 if digitsB a&&digitsB b then orI [cmpI a.size b.size,cmpS a b] else if digitsB a then-1 else if digitsB b then 1 else cmpS a b
def cmpPre :List ByteArray→List ByteArray→Int
 |[],[]=>0
 |[],_::_=> -1
 |_::_,[]=>1
 |a::xs,b::ys=>if cmpPart a b=0 then cmpPre xs ys else cmpPart a b
def cmpVer (a b c:Int) (ps:List ByteArray) (a' b' c':Int) (ps':List ByteArray):Int:=
 if orI [cmpI a a',cmpI b b',cmpI c c']=0 then (if ps.length=0∨ps'.length=0 then cmpI ps'.length ps.length else cmpPre ps ps') else orI [cmpI a a',cmpI b b',cmpI c c']
def lessPart (a b:ByteArray):Bool:=
 if digitsB a&&digitsB b then (if a.size=b.size then ltS a b else decide (a.size<b.size)) else if digitsB a=digitsB b then ltS a b else digitsB a
def lessGo :List ByteArray→List ByteArray→Bool
 |a::xs,b::ys=>if a=b then lessGo xs ys else lessPart a b
 |[],ys=>decide (0<ys.length)
 |_::_,[]=>false
def lessPre (ps ps':List ByteArray):Bool:=if ps.length=0∨ps'.length=0 then decide (0<ps.length)&&decide (ps'.length=0) else lessGo ps ps'
def lessB (a b c:Int) (ps:List ByteArray) (a' b' c':Int) (ps':List ByteArray):Bool:=
 if a=a' then (if b=b' then (if c=c' then lessPre ps ps' else decide (c<c')) else decide (b<b')) else decide (a<a')
theorem cmpI_zero (a b:Int):cmpI a b=0↔a=b:=by unfold cmpI;split<;>(try split)<;>omega
theorem cmpI_neg (a b:Int):cmpI a b<0↔a<b:=by unfold cmpI;split<;>(try split)<;>omega
theorem cmpS_zero (a b:ByteArray):cmpS a b=0↔a=b:=by
 unfold cmpS
 constructor
 ·intro h
  split at h
  ·omega
  ·split at h
   ·omega
   ·exact ltS_total (by simpa using ‹¬ltS a b=true›) (by simpa using ‹¬ltS b a=true›)
 ·rintro rfl
  simp [ltS_irrefl]
theorem cmpS_neg (a b:ByteArray):cmpS a b<0↔ltS a b=true:=by
 unfold cmpS
 constructor
 ·intro h
  split at h
  ·assumption
  ·split at h<;>omega
 ·intro h;rw [if_pos h];omega
theorem orI_two (x y:Int):orI [x,y]=if x=0 then (if y=0 then 0 else y) else x:=by simp [orI]
theorem cmpPart_zero (a b:ByteArray):cmpPart a b=0↔a=b:=by
 constructor
 ·intro h
  unfold cmpPart at h
  rw [orI_two] at h
  split at h
  ·split at h
   ·split at h
    ·exact (cmpS_zero a b).1 ‹_›
    ·exact (cmpS_zero a b).1 h
   ·exact absurd h ‹_›
  ·split at h
   ·omega
   ·split at h
    ·omega
    ·exact (cmpS_zero a b).1 h
 ·rintro rfl
  have h1:=(cmpS_zero a a).2 rfl
  have h2:=(cmpI_zero a.size a.size).2 rfl
  unfold cmpPart
  rw [orI_two,h1,h2]
  cases digitsB a<;>simp
theorem cmpPart_neg {a b:ByteArray} (hne: ¬a=b):decide (cmpPart a b<0)=lessPart a b:=by
 rw [Bool.eq_iff_iff,decide_eq_true_eq]
 unfold cmpPart lessPart
 rw [orI_two]
 have s0:=cmpS_zero a b
 have s1:=cmpS_neg a b
 have i0:=cmpI_zero a.size b.size
 have i1:=cmpI_neg a.size b.size
 cases ha:digitsB a<;>cases hb:digitsB b
 ·simpa using s1
 ·simp
 ·simp
 ·simp only [Bool.and_self,if_true]
  by_cases he:a.size=b.size
  ·have:cmpI a.size b.size=0:=i0.2 (by omega)
   rw [if_pos this,if_pos he,if_neg (fun h=>hne (s0.1 h))]
   exact s1
  ·have: ¬cmpI a.size b.size=0:=fun h=>he (by have:=i0.1 h;omega)
   rw [if_neg this,if_neg he,i1]
   simp
theorem cmpPre_neg : ∀ (ps ps':List ByteArray),decide (cmpPre ps ps'<0)=lessGo ps ps'
 |[],[]=>by simp [cmpPre,lessGo]
 |[],_::_=>by simp [cmpPre,lessGo]
 |_::_,[]=>by simp [cmpPre,lessGo]
 |a::xs,b::ys=>by
  rw [cmpPre,lessGo]
  by_cases h:a=b
  ·rw [if_pos ((cmpPart_zero a b).2 h),if_pos h];exact cmpPre_neg xs ys
  ·rw [if_neg (fun k=>h ((cmpPart_zero a b).1 k)),if_neg h];exact cmpPart_neg h
theorem cmpVer_neg (a b c:Int) (ps:List ByteArray) (a' b' c':Int) (ps':List ByteArray):decide (cmpVer a b c ps a' b' c' ps'<0)=lessB a b c ps a' b' c' ps':=by
 unfold cmpVer lessB
 have e:orI [cmpI a a',cmpI b b',cmpI c c']=if cmpI a a'=0 then (if cmpI b b'=0 then (if cmpI c c'=0 then 0 else cmpI c c') else cmpI b b') else cmpI a a':=by simp [orI]
 rw [e]
 by_cases ha:a=a'
 ·rw [if_pos ha,if_pos ((cmpI_zero a a').2 ha)]
  by_cases hb:b=b'
  ·rw [if_pos hb,if_pos ((cmpI_zero b b').2 hb)]
   by_cases hc:c=c'
   ·rw [if_pos hc,if_pos ((cmpI_zero c c').2 hc),if_pos rfl]
    unfold lessPre
    by_cases hp:ps.length=0∨ps'.length=0
    ·rw [if_pos hp,if_pos hp,Bool.eq_iff_iff,decide_eq_true_eq,cmpI_neg,Bool.and_eq_true,decide_eq_true_eq,decide_eq_true_eq]
     omega
    ·rw [if_neg hp,if_neg hp];exact cmpPre_neg ps ps'
   ·have h:=fun k=>hc ((cmpI_zero c c').1 k)
    rw [if_neg hc,if_neg h,if_neg h,Bool.eq_iff_iff,decide_eq_true_eq,decide_eq_true_eq]
    exact cmpI_neg c c'
  ·have h:=fun k=>hb ((cmpI_zero b b').1 k)
   rw [if_neg hb,if_neg h,if_neg h,Bool.eq_iff_iff,decide_eq_true_eq,decide_eq_true_eq]
   exact cmpI_neg b b'
 ·have h:=fun k=>ha ((cmpI_zero a a').1 k)
  rw [if_neg ha,if_neg h,if_neg h,Bool.eq_iff_iff,decide_eq_true_eq,decide_eq_true_eq]
  exact cmpI_neg a a'
theorem ret_int {k:IntKind} {a b:Int} (h:a=b):Ending.returned (.int k a)=.returned (.int k b):=by rw [h]
theorem nanInt_c (a:Int) (w:World):Calls Tryz.prog 214 #[.int .i64 a] w fun e w'=>e=.returned (.bool false)∧w=w':=by
 go_enter Tryz.func214,Tryz.ntmps214
 go_wp2
 go_ret
 exact ⟨by simp,rfl⟩
theorem nanStr_c (a:ByteArray) (w:World):Calls Tryz.prog 267 #[.string a] w fun e w'=>e=.returned (.bool false)∧w=w':=by
 go_enter Tryz.func267,Tryz.ntmps267
 go_wp2
 go_ret
 exact ⟨by simp,rfl⟩
theorem compareInt_c (a b:Int) (w:World):Calls Tryz.prog 150 #[.int .i64 a,.int .i64 b] w fun e w'=>e=.returned (.int .i64 (cmpI a b))∧w=w':=by
 go_enter Tryz.func150,Tryz.ntmps150
 go_wp2_with (go_at_call 214;refine (nanInt_c _ _).mono ?_;rintro e w' ⟨rfl,rfl⟩)
 all_goals go_ret
 all_goals exact ⟨ret_int (by unfold cmpI;split<;>(try split)<;>omega),rfl⟩
theorem cmpS_one {a b:ByteArray} (h:ltS a b=true):cmpS a b= -1:=by rw [cmpS,if_pos h]
theorem cmpS_two {a b:ByteArray} (h:ltS a b=false) (k:ltS b a=true):cmpS a b=1:=by rw [cmpS,if_neg (by simp [h]),if_pos k]
theorem cmpS_three {a b:ByteArray} (h:ltS a b=false) (k:ltS b a=false):cmpS a b=0:=by rw [cmpS,if_neg (by simp [h]),if_neg (by simp [k])]
theorem compareStr_c (a b:ByteArray) (w:World):Calls Tryz.prog 216 #[.string a,.string b] w fun e w'=>e=.returned (.int .i64 (cmpS a b))∧w=w':=by
 go_enter Tryz.func216,Tryz.ntmps216
 go_wp2_with (go_at_call 267;refine (nanStr_c _ _).mono ?_;rintro e w' ⟨rfl,rfl⟩)
 ·have h1:ltS a b=true:=by assumption
  go_ret
  exact ⟨ret_int (cmpS_one h1).symm,rfl⟩
 ·have h1:ltS a b=false:=by assumption
  have h2:(!a.toList == b.toList)=true:=by assumption
  have h3:ltS b a=true:=by rw [←gtS,show Op.bytesLess a.toList b.toList=false from h1];exact h2
  go_ret
  exact ⟨ret_int (cmpS_two h1 h3).symm,rfl⟩
 ·have h1:ltS a b=false:=by assumption
  have h2:(!a.toList == b.toList)=false:=by assumption
  have h3:ltS b a=false:=by rw [←gtS,show Op.bytesLess a.toList b.toList=false from h1];exact h2
  go_ret
  exact ⟨ret_int (cmpS_three h1 h3).symm,rfl⟩
theorem specLessPart_c (a b:ByteArray) (ha:a.size≤maxLen) (hb:b.size≤maxLen) (w:World):
  Calls Tryz.prog 219 #[.string a,.string b] w fun e w'=>e=.returned (.bool (lessPart a b))∧w=w':=by
 go_enter Tryz.func219,Tryz.ntmps219
 go_wp2_with (go_at_call 241;refine (specDigits_c _ (by assumption) _).mono ?_;rintro e w' ⟨rfl,rfl⟩)
 ·have h1:digitsB a=true:=by assumption
  have h2:digitsB b=true:=by assumption
  have h3:((a.size:Int) != (b.size:Int))=true:=by assumption
  have h4: ¬a.size=b.size:=by simp at h3;omega
  go_ret
  exact ⟨ret_bool (by rw [lessPart,h1,h2,if_pos (by rfl),if_neg h4]),rfl⟩
 ·have h1:digitsB a=true:=by assumption
  have h2:digitsB b=true:=by assumption
  have h3:((a.size:Int) != (b.size:Int))=false:=by assumption
  have h4:a.size=b.size:=by simp at h3;omega
  go_ret
  exact ⟨ret_bool (by rw [lessPart,h1,h2,if_pos (by rfl),if_pos h4];rfl),rfl⟩
 ·have h1:digitsB a=true:=by assumption
  have h2:digitsB b=false:=by assumption
  go_ret
  exact ⟨ret_bool (by rw [lessPart,h1,h2];rfl),rfl⟩
 ·have h1: ¬digitsB a=true:=by assumption
  have h2:digitsB b=true:=by assumption
  have h3:digitsB a=false:=by simpa using h1
  go_ret
  exact ⟨ret_bool (by rw [lessPart,h2,h3];rfl),rfl⟩
 ·have h1: ¬digitsB a=true:=by assumption
  have h2:digitsB b=false:=by assumption
  have h3:digitsB a=false:=by simpa using h1
  go_ret
  exact ⟨ret_bool (by rw [lessPart,h2,h3];rfl),rfl⟩
theorem sameTexts_c (v u:Value) (ss ts:List ByteArray) (w:World) (hv:Reads w v (strsV ss)) (hu:Reads w u (strsV ts)) (hn:ss.length≤1099511627776):
    Calls Tryz.prog 156 #[v,u] w fun e w'=>e=.returned (.bool (decide (ss=ts)))∧Below w.heap.size w w':=by
  obtain ⟨a,cap,rfl,_,hc⟩:=reads_strs hv
  obtain ⟨a2,cap2,rfl,_,hc2⟩:=reads_strs hu
  clear hv hu
  by_cases hl:ss.length=ts.length
  · rcases hc with rfl|⟨b,off,rfl,hlt,hc⟩
    · have:ts=[]:=List.eq_nil_of_length_eq_zero (by simpa using hl.symm)
      subst this
      go_enter Tryz.func156,Tryz.ntmps156
      go_wp2
      go_loopw [5] (fun vi wr=>vi=.int .i64 0∧wr=w) (fun _ _=>0)
      case atStart=>exact ⟨rfl,rfl⟩
      case round=>
        obtain ⟨rfl,rfl⟩:=hrel
        go_wp2
        go_ret
        exact ⟨rfl,Below.refl _ _⟩
    rcases hc2 with rfl|⟨b2,off2,rfl,hlt2,hc2⟩
    · have:ss=[]:=List.eq_nil_of_length_eq_zero (by simpa using hl)
      subst this
      go_enter Tryz.func156,Tryz.ntmps156
      go_wp2
      go_loopw [5] (fun vi wr=>vi=.int .i64 0∧wr=w) (fun _ _=>0)
      case atStart=>exact ⟨rfl,rfl⟩
      case round=>
        obtain ⟨rfl,rfl⟩:=hrel
        go_wp2
        go_ret
        exact ⟨rfl,Below.refl _ _⟩
    · have HL:Hid (ss.length=ts.length):=hl
      have hc2': ∀ k (h:k<ts.length),w.cell? ⟨b2,off2+k,none⟩=some (.string ts[k]):=hc2
      have HC2:Hid (∀ k (h:k<ts.length),w.cell? ⟨b2,off2+k,none⟩=some (.string ts[k])):=hc2'
      rw [←hl]
      clear hl hc2 hc2'
      go_enter Tryz.func156,Tryz.ntmps156
      go_wp2
      go_loopw [5] (fun vi wr=>∃ k:Nat,k≤ss.length∧vi=.int .i64 (k:Int)∧Hid (∀ j (h1:j<ss.length) (h2:j<ts.length),j<k→ss[j]=ts[j])∧Below w.heap.size w wr) (fun vi _=>ss.length-(intOf vi).toNat)
      case atStart=>exact ⟨0,Nat.zero_le _,rfl,fun j h1 h2 hj=>by omega,Below.refl _ _⟩
      case round=>
        obtain ⟨k,hk,rfl,hy,hbr⟩:=hrel
        by_cases hlt':k<ss.length
        · have hlt2':k<ts.length:=by have:=HL.out;omega
          have hcx:wr.cell? ⟨b,off+k,none⟩=some (.string ss[k]):=(hbr.cell (p:=⟨b,off+k,none⟩) hlt).trans (hc k hlt')
          have hcy:wr.cell? ⟨b2,off2+k,none⟩=some (.string ts[k]):=(hbr.cell (p:=⟨b2,off2+k,none⟩) hlt2).trans (HC2.out k hlt2')
          obtain ⟨x,hx⟩: ∃ x,x=ss[k]:=⟨_,rfl⟩
          obtain ⟨y,hy'⟩: ∃ y,y=ts[k]:=⟨_,rfl⟩
          rw [←hx] at hcx
          rw [←hy'] at hcy
          have HX:Hid (x=ss[k]):=hx
          have HY:Hid (y=ts[k]):=hy'
          have hki:(k:Int)<(ss.length:Int):=by omega
          clear hc hx hy'
          go_wp2
          go_quiet (fail)
          go_wp2
          · have hne:(!x.toList == y.toList)=true:=by assumption
            have hne': ¬ss=ts:=fun e=>by
              have e1:=HX.out;have e2:=HY.out;subst e;rw [←e2] at e1;subst e1;simp at hne
            go_ret
            exact ⟨by simp [hne'],below_drewN' hbr _⟩
          · have he:(!x.toList == y.toList)=false:=by assumption
            have he':x=y:=bytes_eq_of_toList (by simpa using he)
            go_roundw
            case rel => exact ⟨k + 1, by omega, by go_num, fun j h1 h2 hj => (by
              by_cases e : j = k
              · subst e; rw [← HX.out, ← HY.out]; exact he'
              · exact hy.out j h1 h2 (by omega)), below_drewN' hbr _⟩
            case measure=>simp [intOf];omega
        · clear hc
          have he:k=ss.length:=by omega
          subst he
          have e:ss=ts:=strs_done HL.out (fun j h1 h2=>hy.out j h1 h2 h1)
          go_wp2
          go_ret
          exact ⟨by simp [e],hbr⟩
  · have hne: ¬ss=ts:=fun e=>hl (by rw [e])
    have hl':((ss.length:Int) != (ts.length:Int))=true:=by simp;omega
    rw [decide_eq_false hne]
    clear hc hc2
    go_enter Tryz.func156,Tryz.ntmps156
    go_wp2
    go_ret
    exact ⟨rfl,Below.refl _ _⟩
theorem equalStrs_c (v u:Value) (ss ts:List ByteArray) (w:World) (hv:Reads w v (strsV ss)) (hu:Reads w u (strsV ts)) (hn:ss.length≤1099511627776):
    Calls Tryz.prog 183 #[v,u] w fun e w'=>e=.returned (.bool (decide (ss=ts)))∧Below w.heap.size w w':=by
  obtain ⟨a,cap,rfl,_,hc⟩:=reads_strs hv
  obtain ⟨a2,cap2,rfl,_,hc2⟩:=reads_strs hu
  clear hv hu
  by_cases hl:ss.length=ts.length
  · rcases hc with rfl|⟨b,off,rfl,hlt,hc⟩
    · have:ts=[]:=List.eq_nil_of_length_eq_zero (by simpa using hl.symm)
      subst this
      go_enter Tryz.func183,Tryz.ntmps183
      go_wp2
      go_loopw [5,13] (fun _ vi wr=>vi=.int .i64 0∧wr=w) (fun _ _ _=>0)
      case atStart=>exact ⟨rfl,rfl⟩
      case round=>
        obtain ⟨rfl,rfl⟩:=hrel
        go_wp2
        go_ret
        exact ⟨rfl,Below.refl _ _⟩
    rcases hc2 with rfl|⟨b2,off2,rfl,hlt2,hc2⟩
    · have:ss=[]:=List.eq_nil_of_length_eq_zero (by simpa using hl)
      subst this
      go_enter Tryz.func183,Tryz.ntmps183
      go_wp2
      go_loopw [5,13] (fun _ vi wr=>vi=.int .i64 0∧wr=w) (fun _ _ _=>0)
      case atStart=>exact ⟨rfl,rfl⟩
      case round=>
        obtain ⟨rfl,rfl⟩:=hrel
        go_wp2
        go_ret
        exact ⟨rfl,Below.refl _ _⟩
    · have HL:Hid (ss.length=ts.length):=hl
      have hc2': ∀ k (h:k<ts.length),w.cell? ⟨b2,off2+k,none⟩=some (.string ts[k]):=hc2
      have HC2:Hid (∀ k (h:k<ts.length),w.cell? ⟨b2,off2+k,none⟩=some (.string ts[k])):=hc2'
      rw [←hl]
      clear hl hc2 hc2'
      go_enter Tryz.func183,Tryz.ntmps183
      go_wp2
      go_loopw [5,13] (fun _ vi wr=>∃ k:Nat,k≤ss.length∧vi=.int .i64 (k:Int)∧Hid (∀ j (h1:j<ss.length) (h2:j<ts.length),j<k→ss[j]=ts[j])∧Below w.heap.size w wr) (fun _ vi _=>ss.length-(intOf vi).toNat)
      case atStart=>exact ⟨0,Nat.zero_le _,rfl,fun j h1 h2 hj=>by omega,Below.refl _ _⟩
      case round=>
        obtain ⟨k,hk,rfl,hy,hbr⟩:=hrel
        by_cases hlt':k<ss.length
        · have hlt2':k<ts.length:=by have:=HL.out;omega
          have hcx:wr.cell? ⟨b,off+k,none⟩=some (.string ss[k]):=(hbr.cell (p:=⟨b,off+k,none⟩) hlt).trans (hc k hlt')
          have hcy:wr.cell? ⟨b2,off2+k,none⟩=some (.string ts[k]):=(hbr.cell (p:=⟨b2,off2+k,none⟩) hlt2).trans (HC2.out k hlt2')
          obtain ⟨x,hx⟩: ∃ x,x=ss[k]:=⟨_,rfl⟩
          obtain ⟨y,hy'⟩: ∃ y,y=ts[k]:=⟨_,rfl⟩
          rw [←hx] at hcx
          rw [←hy'] at hcy
          have HX:Hid (x=ss[k]):=hx
          have HY:Hid (y=ts[k]):=hy'
          have hki:(k:Int)<(ss.length:Int):=by omega
          clear hc hx hy'
          go_wp2
          go_quiet (fail)
          go_wp2
          · have hne:(!x.toList == y.toList)=true:=by assumption
            have hne': ¬ss=ts:=fun e=>by
              have e1:=HX.out;have e2:=HY.out;subst e;rw [←e2] at e1;subst e1;simp at hne
            go_ret
            exact ⟨by simp [hne'],below_drewN' hbr _⟩
          · have he:(!x.toList == y.toList)=false:=by assumption
            have he':x=y:=bytes_eq_of_toList (by simpa using he)
            go_roundw
            case rel => exact ⟨k + 1, by omega, by go_num, fun j h1 h2 hj => (by
              by_cases e : j = k
              · subst e; rw [← HX.out, ← HY.out]; exact he'
              · exact hy.out j h1 h2 (by omega)), below_drewN' hbr _⟩
            case measure=>simp [intOf];omega
        · clear hc
          have he:k=ss.length:=by omega
          subst he
          have e:ss=ts:=strs_done HL.out (fun j h1 h2=>hy.out j h1 h2 h1)
          go_wp2
          go_ret
          exact ⟨by simp [e],hbr⟩
  · have hne: ¬ss=ts:=fun e=>hl (by rw [e])
    have hl':((ss.length:Int) != (ts.length:Int))=true:=by simp;omega
    rw [decide_eq_false hne]
    clear hc hc2
    go_enter Tryz.func183,Tryz.ntmps183
    go_wp2
    go_ret
    exact ⟨rfl,Below.refl _ _⟩
theorem boxes_pre {w w1:World} {c0 c1 c2 c3 d0 d1 d2 d3:Value} {t t':TypeId} (hb:Below ((w.alloc (.cells #[c0,c1,c2,c3] t)).alloc (.cells #[d0,d1,d2,d3] t')).heap.size ((w.alloc (.cells #[c0,c1,c2,c3] t)).alloc (.cells #[d0,d1,d2,d3] t')) w1):
  w1.cell? ⟨w.heap.size,3,none⟩=some c3∧w1.cell? ⟨w.heap.size+1,3,none⟩=some d3:=by
 have s1: ∀ o,(w.alloc o).heap.size=w.heap.size+1:=fun o=>by simp
 refine ⟨?_,?_⟩
 ·rw [hb.cell (p:=⟨w.heap.size,3,none⟩) (by simp;omega)]
  exact vblk_cell ((vheap_old _ _ (by simp)).trans (vheap_new _ _)) 3
 ·rw [hb.cell (p:=⟨w.heap.size+1,3,none⟩) (by simp)]
  have h:=vheap_new (w.alloc (.cells #[c0,c1,c2,c3] t)) (.cells #[d0,d1,d2,d3] t')
  rw [s1] at h
  exact vblk_cell h 3
def coreB (a b c a' b' c':Int):Bool:=a == a'&&b == b'&&c == c'
def sameB (a b c:Int) (ps:List ByteArray) (a' b' c':Int) (ps':List ByteArray):Bool:=coreB a b c a' b' c'&&decide (ps=ps')
theorem two_box {w:World} (o o':Obj):Below w.heap.size w ((w.alloc o).alloc o'):=((Below.refl _ _).alloc (Nat.le_refl _) _).alloc (by simp) _
theorem core_c (a b c:Int) (q:Option Addr) (n cap:Nat) (a' b' c':Int) (q':Option Addr) (n' cap':Nat) (w:World):
  Calls Tryz.prog 155 #[.agg #[.int .i64 a,.int .i64 b,.int .i64 c,.slice q n cap],.agg #[.int .i64 a',.int .i64 b',.int .i64 c',.slice q' n' cap']] w fun e w'=>e=.returned (.bool (coreB a b c a' b' c'))∧Below w.heap.size w w':=by
 cases ha:(a == a') with
 |false=>
  have e:coreB a b c a' b' c'=false:=by rw [coreB,ha];rfl
  rw [e]
  go_enter Tryz.func155,Tryz.ntmps155
  go_wp2
  go_ret
  exact ⟨rfl,two_box _ _⟩
 |true=>
 cases hb:(b == b') with
 |false=>
  have e:coreB a b c a' b' c'=false:=by rw [coreB,hb,Bool.and_false];rfl
  rw [e]
  go_enter Tryz.func155,Tryz.ntmps155
  go_wp2
  go_ret
  exact ⟨rfl,two_box _ _⟩
 |true=>
  have e:coreB a b c a' b' c'=(c == c'):=by rw [coreB,ha,hb];rfl
  rw [e]
  clear e
  go_enter Tryz.func155,Tryz.ntmps155
  go_wp2
  go_ret
  exact ⟨rfl,two_box _ _⟩
theorem specSame_c (a b c:Int) (u:Value) (ps:List ByteArray) (a' b' c':Int) (u':Value) (ps':List ByteArray) (w:World) (hu:Reads w u (strsV ps)) (hu':Reads w u' (strsV ps')) (hn:ps.length≤1048576):
    Calls Tryz.prog 82 #[.agg #[.int .i64 a,.int .i64 b,.int .i64 c,u],.agg #[.int .i64 a',.int .i64 b',.int .i64 c',u']] w fun e w'=>e=.returned (.bool (sameB a b c ps a' b' c' ps'))∧Below w.heap.size w w':=by
  have hru: ∀ w1,Below w.heap.size w w1→Reads w1 u (strsV ps)∧Reads w1 u' (strsV ps'):=fun w1 h=>⟨hu.below h,hu'.below h⟩
  have HS:Hid (∀ w1,Below w.heap.size w w1→Calls Tryz.prog 156 #[u,u'] w1 fun e w'=>e=.returned (.bool (decide (ps=ps')))∧Below w1.heap.size w1 w'):=fun w1 h=>sameTexts_c u u' ps ps' w1 (hru w1 h).1 (hru w1 h).2 (by omega)
  obtain ⟨q,cap,rfl,_,_⟩:=reads_strs hu
  obtain ⟨q',cap',rfl,_,_⟩:=reads_strs hu'
  clear hu hu' hru
  cases hc:coreB a b c a' b' c' with
  |false=>
    have e:sameB a b c ps a' b' c' ps'=false:=by rw [sameB,hc];rfl
    rw [e]
    go_enter Tryz.func82,Tryz.ntmps82
    go_wp2_with (go_at_call 155;refine (core_c _ _ _ _ _ _ _ _ _ _ _ _ _).mono ?_;rintro e w1 ⟨rfl,b1⟩)
    go_ret
    exact ⟨rfl,(two_box _ _).trans (b1.mono (by simp;omega))⟩
  |true=>
    have e:sameB a b c ps a' b' c' ps'=decide (ps=ps'):=by rw [sameB,hc];rfl
    rw [e]
    clear e
    go_enter Tryz.func82,Tryz.ntmps82
    go_wp2_with (first
      | (go_at_call 155; refine (core_c _ _ _ _ _ _ _ _ _ _ _ _ _).mono ?_; rintro e w1 ⟨rfl, b1⟩
         have hw1 : Below w.heap.size w w1 := (two_box _ _).trans (b1.mono (by simp; omega))
         obtain ⟨x3, y3⟩ := boxes_pre b1)
      | (go_at_call 156; refine (HS.out _ hw1).mono ?_; rintro e w2 ⟨rfl, b2⟩))
    go_ret
    exact ⟨rfl,hw1.trans (b2.mono hw1.size)⟩
theorem implSame_c (a b c:Int) (u:Value) (ps:List ByteArray) (a' b' c':Int) (u':Value) (ps':List ByteArray) (w:World) (hu:Reads w u (strsV ps)) (hu':Reads w u' (strsV ps')) (hn:ps.length≤1048576):
  Calls Tryz.prog 113 #[.agg #[.int .i64 a,.int .i64 b,.int .i64 c,u],.agg #[.int .i64 a',.int .i64 b',.int .i64 c',u']] w fun e w'=>e=.returned (.bool (sameB a b c ps a' b' c' ps'))∧Below w.heap.size w w':=by
 have hru: ∀ w1,Below w.heap.size w w1→Reads w1 u (strsV ps)∧Reads w1 u' (strsV ps'):=fun w1 h=>⟨hu.below h,hu'.below h⟩
 have HS:Hid (∀ w1,Below w.heap.size w w1→Calls Tryz.prog 183 #[u,u'] w1 fun e w'=>e=.returned (.bool (decide (ps=ps')))∧Below w1.heap.size w1 w'):=fun w1 h=>equalStrs_c u u' ps ps' w1 (hru w1 h).1 (hru w1 h).2 (by omega)
 obtain ⟨q,cap,rfl,_,_⟩:=reads_strs hu
 obtain ⟨q',cap',rfl,_,_⟩:=reads_strs hu'
 clear hu hu' hru
 have EF:Hid (coreB a b c a' b' c'=false→sameB a b c ps a' b' c' ps'=false):=fun h=>by rw [sameB,h];rfl
 cases ha:(a == a') with
 |false=>
  rw [EF.out (by rw [coreB,ha];rfl)]
  go_enter Tryz.func113,Tryz.ntmps113
  go_wp2
  go_ret
  exact ⟨rfl,two_box _ _⟩
 |true=>
 cases hb:(b == b') with
 |false=>
  rw [EF.out (by rw [coreB,hb,Bool.and_false];rfl)]
  go_enter Tryz.func113,Tryz.ntmps113
  go_wp2
  go_ret
  exact ⟨rfl,two_box _ _⟩
 |true=>
 cases hc:(c == c') with
 |false=>
  rw [EF.out (by rw [coreB,hc,Bool.and_false])]
  go_enter Tryz.func113,Tryz.ntmps113
  go_wp2
  go_ret
  exact ⟨rfl,two_box _ _⟩
 |true=>
  have e:sameB a b c ps a' b' c' ps'=decide (ps=ps'):=by rw [sameB,coreB,ha,hb,hc];rfl
  rw [e]
  clear e EF
  go_enter Tryz.func113,Tryz.ntmps113
  go_wp2_with (go_at_call 183;refine (HS.out _ (two_box _ _)).mono ?_;rintro e w2 ⟨rfl,b2⟩)
  go_ret
  exact ⟨rfl,(two_box _ _).trans (b2.mono (by simp;omega))⟩
theorem orI_drop (zs:List Int) (k:Nat) (h:k<zs.length):orI (zs.drop k)=if zs[k]=0 then orI (zs.drop (k+1)) else zs[k]:=by
 rw [List.drop_eq_getElem_cons h,orI]
theorem or_c (zs:List Int) (B cap:Nat) (w:World) (hn:zs.length≤1048576) (hcap:zs.length≤cap) (hc: ∀ k (h:k<zs.length),w.cell? ⟨B,k,none⟩=some (.int .i64 zs[k])):
  Calls Tryz.prog 149 #[.slice (some ⟨B,0,none⟩) zs.length cap] w fun e w'=>e=.returned (.int .i64 (orI zs))∧w=w':=by
 go_enter Tryz.func149,Tryz.ntmps149
 go_wp2
 go_loop [5,8] (fun _ vi=>∃ k:Nat,k≤zs.length∧vi=.int .i64 (k:Int)∧Hid (orI zs=orI (zs.drop k))) (fun _ vi=>zs.length-(intOf vi).toNat)
 case atStart=>exact ⟨0,Nat.zero_le _,rfl,rfl⟩
 case round=>
  obtain ⟨k,hk,rfl,hh⟩:=hrel
  by_cases hlt:k<zs.length
  ·have hcx:=hc k hlt
   have HD:Hid (orI (zs.drop k)=if zs[k]=0 then orI (zs.drop (k+1)) else zs[k]):=orI_drop zs k hlt
   obtain ⟨z,hz⟩: ∃ z,z=zs[k]:=⟨_,rfl⟩
   rw [←hz] at hcx
   have HZ:Hid (z=zs[k]):=hz
   have hki:(k:Int)<(zs.length:Int):=by omega
   clear hc hz
   go_wp2
   ·have h1:(z != 0)=true:=by assumption
    have h2: ¬z=0:=by simpa using h1
    go_ret
    exact ⟨ret_int (by rw [hh.out,HD.out, ←HZ.out,if_neg h2]),rfl⟩
   ·have h1:(z != 0)=false:=by assumption
    have h2:z=0:=by simpa using h1
    have HN:Hid (orI zs=orI (zs.drop (k+1))):=by show _=_;rw [hh.out,HD.out, ←HZ.out,if_pos h2]
    clear h2
    go_round
    case rel=>exact ⟨k+1,by omega,by go_num,HN⟩
    case measure=>simp [intOf];omega
  ·have he:k=zs.length:=by omega
   subst he
   clear hc
   have HE:Hid (orI zs=0):=by show _=_;rw [hh.out,List.drop_length];rfl
   go_wp2
   go_ret
   exact ⟨ret_int HE.out.symm,rfl⟩
theorem two_cells (w:World) (x y:Int) (t:TypeId): ∀ k (h:k<[x,y].length),(w.alloc (.cells #[.int .i64 x,.int .i64 y] t)).cell? ⟨w.heap.size,k,none⟩=some (.int .i64 [x,y][k]):=fun k h=>by
 have e:=vblk_cell (vheap_new w (.cells #[.int .i64 x,.int .i64 y] t)) k
 rw [e]
 match k,h with
 |0,_=>rfl
 |1,_=>rfl
theorem three_cells (w:World) (x y z:Int) (t:TypeId): ∀ k (h:k<[x,y,z].length),(w.alloc (.cells #[.int .i64 x,.int .i64 y,.int .i64 z] t)).cell? ⟨w.heap.size,k,none⟩=some (.int .i64 [x,y,z][k]):=fun k h=>by
 have e:=vblk_cell (vheap_new w (.cells #[.int .i64 x,.int .i64 y,.int .i64 z] t)) k
 rw [e]
 match k,h with
 |0,_=>rfl
 |1,_=>rfl
 |2,_=>rfl
theorem comparePart_c (a b:ByteArray) (ha:a.size≤maxLen) (hb:b.size≤maxLen) (w:World):
    Calls Tryz.prog 152 #[.string a,.string b] w fun e w'=>e=.returned (.int .i64 (cmpPart a b))∧Below w.heap.size w w':=by
  have HA:Hid (∀ w1,Calls Tryz.prog 215 #[.string a] w1 fun e w'=>e=.returned (.bool (digitsB a))∧w1=w'):=fun w1=>implDigits_c a ha w1
  have HB:Hid (∀ w1,Calls Tryz.prog 215 #[.string b] w1 fun e w'=>e=.returned (.bool (digitsB b))∧w1=w'):=fun w1=>implDigits_c b hb w1
  unfold maxLen at ha hb
  cases h1:digitsB a<;>cases h2:digitsB b
  · have e:cmpPart a b=cmpS a b:=by rw [cmpPart,h1,h2];rfl
    rw [e]
    rw [h1] at HA
    rw [h2] at HB
    go_enter Tryz.func152,Tryz.ntmps152
    go_wp2_with fail
    go_at_call 215
    refine (HA.out _).mono ?_
    rintro e w' ⟨rfl,rfl⟩
    go_wp2_with fail
    go_at_call 215
    refine (HB.out _).mono ?_
    rintro e w' ⟨rfl,rfl⟩
    go_wp2_with (go_at_call 216;refine (compareStr_c _ _ _).mono ?_;rintro e w' ⟨rfl,rfl⟩)
    go_ret
    exact ⟨rfl,Below.refl _ _⟩
  · have e:cmpPart a b=1:=by rw [cmpPart,h1,h2];rfl
    rw [e]
    rw [h1] at HA
    rw [h2] at HB
    go_enter Tryz.func152,Tryz.ntmps152
    go_wp2_with fail
    go_at_call 215
    refine (HA.out _).mono ?_
    rintro e w' ⟨rfl,rfl⟩
    go_wp2_with fail
    go_at_call 215
    refine (HB.out _).mono ?_
    rintro e w' ⟨rfl,rfl⟩
    go_wp2
    go_ret
    exact ⟨rfl,Below.refl _ _⟩
  · have e:cmpPart a b= -1:=by rw [cmpPart,h1,h2];rfl
    rw [e]
    rw [h1] at HA
    rw [h2] at HB
    go_enter Tryz.func152,Tryz.ntmps152
    go_wp2_with fail
    go_at_call 215
    refine (HA.out _).mono ?_
    rintro e w' ⟨rfl,rfl⟩
    go_wp2_with fail
    go_at_call 215
    refine (HB.out _).mono ?_
    rintro e w' ⟨rfl,rfl⟩
    go_wp2
    go_ret
    exact ⟨rfl,Below.refl _ _⟩
  · have e:cmpPart a b=orI [cmpI a.size b.size,cmpS a b]:=by rw [cmpPart,h1,h2];rfl
    rw [e]
    rw [h1] at HA
    rw [h2] at HB
    clear e
    go_enter Tryz.func152,Tryz.ntmps152
    go_wp2_with fail
    go_at_call 215
    refine (HA.out _).mono ?_
    rintro e w' ⟨rfl,rfl⟩
    go_wp2_with fail
    go_at_call 215
    refine (HB.out _).mono ?_
    rintro e w' ⟨rfl,rfl⟩
    go_wp2_with (first
      | (go_at_call 216; refine (compareStr_c _ _ _).mono ?_; rintro e w' ⟨rfl, rfl⟩)
      | (go_at_call 150; refine (compareInt_c _ _ _).mono ?_; rintro e w' ⟨rfl, rfl⟩)
      | (go_at_call 149; refine (or_c [cmpI a.size b.size, cmpS a b] _ _ _ (by simp) (by simp) (two_cells _ _ _ _)).mono ?_; rintro e w' ⟨rfl, rfl⟩))
    go_ret
    exact ⟨rfl,(Below.refl _ _).alloc (Nat.le_refl _) _⟩
theorem cmpPre_at (ps ps':List ByteArray) (k:Nat) (h:k<ps.length) (h':k<ps'.length):cmpPre (ps.drop k) (ps'.drop k)=if cmpPart ps[k] ps'[k]=0 then cmpPre (ps.drop (k+1)) (ps'.drop (k+1)) else cmpPart ps[k] ps'[k]:=by
 rw [List.drop_eq_getElem_cons h,List.drop_eq_getElem_cons h',cmpPre]
theorem cmpPre_past (ps ps':List ByteArray) (k:Nat) (h:k<ps.length) (h': ¬k<ps'.length):cmpPre (ps.drop k) (ps'.drop k)=1:=by
 rw [List.drop_eq_getElem_cons h,List.drop_eq_nil_of_le (show ps'.length≤k by omega),cmpPre]
theorem cmpPre_end (ps ps':List ByteArray):cmpPre (ps.drop ps.length) (ps'.drop ps.length)=if ps.length<ps'.length then-1 else 0:=by
 rw [List.drop_length]
 by_cases h:ps.length<ps'.length
 ·rw [List.drop_eq_getElem_cons h,cmpPre,if_pos h]
 ·rw [List.drop_eq_nil_of_le (show ps'.length≤ps.length by omega),cmpPre,if_neg h]
theorem compareFunc_c (u u':Value) (ps ps':List ByteArray) (w:World) (hu:Reads w u (strsV ps)) (hu':Reads w u' (strsV ps')) (hb:bulkS ps≤1048576) (hb':bulkS ps'≤1048576):
  Calls Tryz.prog 151 #[u,u',.func (.func 152) #[] #[]] w fun e w'=>e=.returned (.int .i64 (cmpPre ps ps'))∧Below w.heap.size w w':=by
 have hsz: ∀ s∈ps,s.size≤maxLen:=fun s hs=>by have:=size_of_bulk hs;unfold maxLen;omega
 have hsz': ∀ s∈ps',s.size≤maxLen:=fun s hs=>by have:=size_of_bulk hs;unfold maxLen;omega
 have hn:ps.length≤1048576:=by unfold bulkS at hb;omega
 have hn':ps'.length≤1048576:=by unfold bulkS at hb';omega
 obtain ⟨q,cap,rfl,_,hc⟩:=reads_strs hu
 obtain ⟨q',cap',rfl,_,hc'⟩:=reads_strs hu'
 clear hu hu' hb hb'
 go_enter Tryz.func151,Tryz.ntmps151
 go_wp2
 go_loopw [7,8,9,10,13] (fun _ _ _ _ vi wr=>∃ k:Nat,k≤ps.length∧vi=.int .i64 (k:Int)∧Hid (cmpPre (ps.drop k) (ps'.drop k)=cmpPre ps ps')∧Below w.heap.size w wr) (fun _ _ _ _ vi _=>ps.length-(intOf vi).toNat)
 case atStart=>exact ⟨0,Nat.zero_le _,rfl,rfl,Below.refl _ _⟩
 case round=>
  obtain ⟨k,hk,rfl,hh,hbr⟩:=hrel
  by_cases hlt:k<ps.length
  ·rcases hc with rfl|⟨bl,off,rfl,hlb,hc⟩
   ·simp at hlt
   have hcx:wr.cell? ⟨bl,off+k,none⟩=some (.string ps[k]):=(hbr.cell (p:=⟨bl,off+k,none⟩) hlb).trans (hc k hlt)
   have hsk:=hsz ps[k] (List.getElem_mem hlt)
   obtain ⟨t,ht⟩: ∃ t,t=ps[k]:=⟨_,rfl⟩
   rw [←ht] at hcx hsk
   have HT:Hid (t=ps[k]):=ht
   have hki:(k:Int)<(ps.length:Int):=by omega
   clear hc hsz ht
   by_cases hlt':k<ps'.length
   ·rcases hc' with rfl|⟨bl',off',rfl,hlb',hc'⟩
    ·simp at hlt'
    have hcx':wr.cell? ⟨bl',off'+k,none⟩=some (.string ps'[k]):=(hbr.cell (p:=⟨bl',off'+k,none⟩) hlb').trans (hc' k hlt')
    have hsk':=hsz' ps'[k] (List.getElem_mem hlt')
    obtain ⟨t',ht'⟩: ∃ t,t=ps'[k]:=⟨_,rfl⟩
    rw [←ht'] at hcx' hsk'
    have HT':Hid (t'=ps'[k]):=ht'
    have hki':(k:Int)<(ps'.length:Int):=by omega
    have HP:Hid (cmpPre (ps.drop k) (ps'.drop k)=if cmpPart t t'=0 then cmpPre (ps.drop (k+1)) (ps'.drop (k+1)) else cmpPart t t'):=by rw [HT.out,HT'.out];exact cmpPre_at ps ps' k hlt hlt'
    clear hc' hsz' ht'
    obtain ⟨z,hz⟩: ∃ z,z=cmpPart t t':=⟨_,rfl⟩
    have HC:Hid (∀ w1,Calls Tryz.prog 152 #[.string t,.string t'] w1 fun e w'=>e=.returned (.int .i64 z)∧Below w1.heap.size w1 w'):=fun w1=>by rw [hz];exact comparePart_c t t' hsk hsk' w1
    rw [←hz] at HP
    clear hz
    go_wp2_with (go_at_call 152;refine (HC.out _).mono ?_;rintro e w1 ⟨rfl,b1⟩)
    ·have h1:(z != 0)=true:=by assumption
     have h2: ¬z=0:=by simpa using h1
     go_ret
     exact ⟨ret_int (by rw [←hh.out,HP.out,if_neg h2]),hbr.trans (b1.mono hbr.size)⟩
    ·have h1:(z != 0)=false:=by assumption
     have h2:z=0:=by simpa using h1
     have HN:Hid (cmpPre (ps.drop (k+1)) (ps'.drop (k+1))=cmpPre ps ps'):=by show _=_;rw [←hh.out,HP.out,if_pos h2]
     clear h2
     go_roundw
     case rel=>exact ⟨k+1,by omega,by go_num,HN,hbr.trans (b1.mono hbr.size)⟩
     case measure=>simp [intOf];omega
   ·have hki': ¬(k:Int)<(ps'.length:Int):=by omega
    have hki2:(ps'.length:Int)≤(k:Int):=by omega
    clear hc' hsz'
    go_wp2
    go_ret
    exact ⟨ret_int (by rw [←hh.out];exact (cmpPre_past ps ps' k hlt hlt').symm),hbr⟩
  ·have he:k=ps.length:=by omega
   subst he
   have HE:Hid (cmpPre ps ps'=if ps.length<ps'.length then-1 else 0):=by show _=_;rw [←hh.out];exact cmpPre_end ps ps'
   clear hc hc' hsz hsz'
   by_cases hl:ps.length<ps'.length
   ·have hl':(ps.length:Int)<(ps'.length:Int):=by omega
    go_wp2
    go_ret
    exact ⟨ret_int (by rw [HE.out,if_pos hl]),hbr⟩
   ·have hl': ¬(ps.length:Int)<(ps'.length:Int):=by omega
    go_wp2
    go_ret
    exact ⟨ret_int (by rw [HE.out,if_neg hl]),hbr⟩
theorem three_cells_d (w:World) (x y z:Int) (t:TypeId): ∀ k (h:k<[x,y,z].length),(w.alloc (.cells #[.int .i64 x,.int .i64 y,.int .i64 z] t)).drew.cell? ⟨w.heap.size,k,none⟩=some (.int .i64 [x,y,z][k]):=three_cells w x y z t
theorem compareVers_c (a b c:Int) (u:Value) (ps:List ByteArray) (a' b' c':Int) (u':Value) (ps':List ByteArray) (w:World) (hu:Reads w u (strsV ps)) (hu':Reads w u' (strsV ps')) (hb:bulkS ps≤1048576) (hb':bulkS ps'≤1048576):
    Calls Tryz.prog 75 #[.agg #[.int .i64 a,.int .i64 b,.int .i64 c,u],.agg #[.int .i64 a',.int .i64 b',.int .i64 c',u']] w fun e w'=>e=.returned (.int .i64 (cmpVer a b c ps a' b' c' ps'))∧Below w.heap.size w w':=by
  have HF:Hid (∀ w1,Below w.heap.size w w1→Calls Tryz.prog 151 #[u,u',.func (.func 152) #[] #[]] w1 fun e w'=>e=.returned (.int .i64 (cmpPre ps ps'))∧Below w1.heap.size w1 w'):=fun w1 h=>compareFunc_c u u' ps ps' w1 (hu.below h) (hu'.below h) hb hb'
  have hn:ps.length≤1048576:=by unfold bulkS at hb;omega
  have hn':ps'.length≤1048576:=by unfold bulkS at hb';omega
  obtain ⟨q,cap,rfl,_,_⟩:=reads_strs hu
  obtain ⟨q',cap',rfl,_,_⟩:=reads_strs hu'
  clear hu hu' hb hb'
  obtain ⟨x,hx⟩: ∃ x,x=orI [cmpI a a',cmpI b b',cmpI c c']:=⟨_,rfl⟩
  have HV:Hid (cmpVer a b c ps a' b' c' ps'=if x=0 then (if ps.length=0∨ps'.length=0 then cmpI ps'.length ps.length else cmpPre ps ps') else x):=by show _=_;rw [cmpVer, ←hx]
  have HO:Hid (∀ B w1,(∀ k (h:k<[cmpI a a',cmpI b b',cmpI c c'].length),w1.cell? ⟨B,k,none⟩=some (.int .i64 [cmpI a a',cmpI b b',cmpI c c'][k]))→Calls Tryz.prog 149 #[.slice (some ⟨B,0,none⟩) 3 3] w1 fun e w'=>e=.returned (.int .i64 x)∧w1=w'):=fun B w1 h=>by rw [hx];exact or_c [cmpI a a',cmpI b b',cmpI c c'] B 3 w1 (by simp) (by simp) h
  clear hx
  have hb3: ∀ A R O,Below w.heap.size w (((w.alloc A).alloc R).alloc O):=fun A R O=>(((Below.refl _ _).alloc (Nat.le_refl _) _).alloc (by simp) _).alloc (by simp;omega) _
  go_enter Tryz.func75,Tryz.ntmps75
  go_wp2_with fail
  obtain ⟨A0,B0⟩:=four_two w 30 30 (.int .i64 a) (.int .i64 b) (.int .i64 c) (.slice q ps.length cap) (.int .i64 a') (.int .i64 b') (.int .i64 c') (.slice q' ps'.length cap')
  have hW:=two_box (w:=w) (.cells #[.int .i64 a,.int .i64 b,.int .i64 c,.slice q ps.length cap] 30) (.cells #[.int .i64 a',.int .i64 b',.int .i64 c',.slice q' ps'.length cap'] 30)
  generalize ((w.alloc (.cells #[.int .i64 a,.int .i64 b,.int .i64 c,.slice q ps.length cap] 30)).alloc (.cells #[.int .i64 a',.int .i64 b',.int .i64 c',.slice q' ps'.length cap'] 30))=W0 at A0 B0 hW ⊢
  obtain ⟨x0,x1,x2,x3⟩:=A0.cells
  obtain ⟨y0,y1,y2,y3⟩:=B0.cells
  have la:=A0.lt
  have lb:=B0.lt
  go_region_held (fun w' => w'.cell? ⟨w.heap.size, 0, none⟩ = some (.int .i64 a) ∧ w'.cell? ⟨w.heap.size, 1, none⟩ = some (.int .i64 b) ∧ w'.cell? ⟨w.heap.size, 2, none⟩ = some (.int .i64 c) ∧ w'.cell? ⟨w.heap.size, 3, none⟩ = some (.slice q ps.length cap) ∧ w'.cell? ⟨w.heap.size + 1, 0, none⟩ = some (.int .i64 a') ∧ w'.cell? ⟨w.heap.size + 1, 1, none⟩ = some (.int .i64 b') ∧ w'.cell? ⟨w.heap.size + 1, 2, none⟩ = some (.int .i64 c') ∧ w'.cell? ⟨w.heap.size + 1, 3, none⟩ = some (.slice q' ps'.length cap')) (go_keep) (first
    | (go_at_call 150
       refine (compareInt_c _ _ _).mono ?_
       rintro e w1 ⟨rfl, rfl⟩)
    | (go_at_call 149
       refine (HO.out _ _ (three_cells_d _ _ _ _ _)).mono ?_
       rintro e w1 ⟨rfl, rfl⟩))
  have hW2: ∀ o,Below w.heap.size w (W0.alloc o).drew:=fun o=>(hW.alloc hW.size _).drew
  by_cases h0:x=0
  · have HV2:Hid (cmpVer a b c ps a' b' c' ps'=if ps.length=0∨ps'.length=0 then cmpI ps'.length ps.length else cmpPre ps ps'):=by show _=_;rw [HV.out,if_pos h0]
    subst h0
    clear HV HO
    by_cases hp:ps.length=0
    · have hp1:((ps.length:Int) == 0)=true:=by simp [hp]
      have HP:Hid (cmpVer a b c ps a' b' c' ps'=cmpI ps'.length ps.length):=by show _=_;rw [HV2.out,if_pos (.inl hp)]
      clear hp
      go_wp2_with (go_at_call 150;refine (compareInt_c _ _ _).mono ?_;rintro e w1 ⟨rfl,rfl⟩)
      go_ret
      exact ⟨ret_int HP.out.symm,hW2 _⟩
    · have hp1:((ps.length:Int) == 0)=false:=by rw [beq_eq_false_iff_ne];omega
      by_cases hp':ps'.length=0
      · have hp2:((ps'.length:Int) == 0)=true:=by simp [hp']
        have HP:Hid (cmpVer a b c ps a' b' c' ps'=cmpI ps'.length ps.length):=by show _=_;rw [HV2.out,if_pos (.inr hp')]
        clear hp hp'
        go_wp2_with (go_at_call 150;refine (compareInt_c _ _ _).mono ?_;rintro e w1 ⟨rfl,rfl⟩)
        go_ret
        exact ⟨ret_int HP.out.symm,hW2 _⟩
      · have hp2:((ps'.length:Int) == 0)=false:=by rw [beq_eq_false_iff_ne];omega
        have HP:Hid (cmpVer a b c ps a' b' c' ps'=cmpPre ps ps'):=by show _=_;rw [HV2.out,if_neg (by omega)]
        clear hp hp'
        go_wp2_with (go_at_call 151;refine (HF.out _ (hW2 _)).mono ?_;rintro e w1 ⟨rfl,b1⟩)
        go_ret
        exact ⟨ret_int HP.out.symm,(hW2 _).trans (b1.mono (hW2 _).size)⟩
  · have h1:(x != 0)=true:=by simpa using h0
    go_wp2
    go_ret
    exact ⟨ret_int (by rw [HV.out,if_neg h0]),hW2 _⟩
theorem implLess_c (a b c:Int) (u:Value) (ps:List ByteArray) (a' b' c':Int) (u':Value) (ps':List ByteArray) (w:World) (hu:Reads w u (strsV ps)) (hu':Reads w u' (strsV ps')) (hb:bulkS ps≤1048576) (hb':bulkS ps'≤1048576):
  Calls Tryz.prog 20 #[.agg #[.int .i64 a,.int .i64 b,.int .i64 c,u],.agg #[.int .i64 a',.int .i64 b',.int .i64 c',u']] w fun e w'=>e=.returned (.bool (lessB a b c ps a' b' c' ps'))∧Below w.heap.size w w':=by
 have HF:Hid (∀ w1,Below w.heap.size w w1→Calls Tryz.prog 75 #[.agg #[.int .i64 a,.int .i64 b,.int .i64 c,u],.agg #[.int .i64 a',.int .i64 b',.int .i64 c',u']] w1 fun e w'=>e=.returned (.int .i64 (cmpVer a b c ps a' b' c' ps'))∧Below w1.heap.size w1 w'):=fun w1 h=>compareVers_c a b c u ps a' b' c' u' ps' w1 (hu.below h) (hu'.below h) hb hb'
 rw [←cmpVer_neg]
 obtain ⟨q,cap,rfl,_,_⟩:=reads_strs hu
 obtain ⟨q',cap',rfl,_,_⟩:=reads_strs hu'
 clear hu hu' hb hb'
 go_enter Tryz.func20,Tryz.ntmps20
 go_wp2_with (go_at_call 75;refine (HF.out _ (two_box _ _)).mono ?_;rintro e w1 ⟨rfl,b1⟩)
 go_ret
 exact ⟨rfl,(two_box _ _).trans (b1.mono (by simp;omega))⟩
end Go.Proofs.YtlfmefojcmpfeaaGreatDoor
