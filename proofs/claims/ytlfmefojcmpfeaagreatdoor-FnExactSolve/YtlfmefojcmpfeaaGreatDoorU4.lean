/-
  Contracts for the walks and pure facts, several texts in one: each theorem says what it proves, and under which conditions.
-/
import Derived.Deep.RegionHeld
import Derived.Lib.Builder
import Derived.Lib.AppendStr
import Derived.Lib.UnsafeStr
import Derived.Laws.Externs
import Derived.Sort.Grow
import Derived.Lib.AppendIntMem
import Derived.Maps.AppendAt
import Derived.Test.YtlfmefojcmpfeaaGreatDoorUT
import Derived.Test.YtlfmefojcmpfeaaGreatDoorU2
import Derived.Test.YtlfmefojcmpfeaaGreatDoorU3
set_option linter.unusedSimpArgs false
set_option linter.unusedVariables false
set_option maxHeartbeats 16000000
set_option maxRecDepth 100000
namespace Go.Proofs.YtlfmefojcmpfeaaGreatDoor
open Go.RowKit
theorem vext {a b:ByteArray} (h:a.data.toList=b.data.toList):a=b:=ByteArray.ext (Array.toList_inj.1 h)
theorem vextract (s:ByteArray) (a b:Nat):(s.extract a b).data.toList=(s.data.toList.drop a).take (b-a):=Lib.extract_data s a b
theorem vlen (s:ByteArray):s.data.toList.length=s.size:=by rw [Array.length_toList];rfl
theorem vsize (s:ByteArray) (a b:Nat) (h:a≤b) (hb:b≤s.size):(s.extract a b).size=b-a:=by
 rw [←vlen,vextract,List.length_take,List.length_drop,vlen];omega
theorem vget (s:ByteArray) (a b i:Nat) (h:a+i<b) (hb:b≤s.size):(s.extract a b).data[i]! =s.data[a+i]! :=by
 have h1:i<(s.extract a b).size:=by rw [vsize s a b (by omega) hb];omega
 have e1:(s.extract a b).data.toList[i]?=s.data.toList[a+i]? :=by
  rw [vextract,List.getElem?_take_of_lt (by omega),List.getElem?_drop]
 rw [Array.getElem?_toList,Array.getElem?_toList] at e1
 rw [getElem!_def,getElem!_def,e1]
theorem vsub (s:ByteArray) (a b c d:Nat) (h:a+d≤b) (hb:b≤s.size):(s.extract a b).extract c d=s.extract (a+c) (a+d):=by
 apply vext
 rw [vextract,vextract,vextract,List.drop_take,List.drop_drop,List.take_take]
 congr 1
 omega
def pieces (s:ByteArray) (hi:Nat):Nat→Nat→Nat→List ByteArray
 |0,_,b=>[s.extract b hi]
 |f+1,i,b=>if ((s.data[i]!).toNat:Int)=46 then s.extract b i::pieces s hi f (i+1) (i+1) else pieces s hi f (i+1) b
theorem pieces_split (s:ByteArray) (lo hi:Nat) (hl:lo≤hi) (hh:hi≤s.size): ∀ (f i b:Nat),f=(hi-lo)-i→i≤hi-lo→b≤i→splitGo (s.extract lo hi) 46 f i b=pieces s hi f (lo+i) (lo+b)
 |0,i,b,hf,hi',hb=>by
  rw [splitGo,pieces,vsize s lo hi hl hh,vsub s lo hi b (hi-lo) (by omega) hh,show lo+(hi-lo)=hi by omega]
 |f+1,i,b,hf,hi',hb=>by
  rw [splitGo,pieces,vget s lo hi i (by omega) hh]
  by_cases h:((s.data[lo+i]!).toNat:Int)=46
  ·rw [if_pos h,if_pos h,vsub s lo hi b i (by omega) hh,pieces_split s lo hi hl hh f (i+1) (i+1) (by omega) (by omega) (by omega)]
   rfl
  ·rw [if_neg h,if_neg h,pieces_split s lo hi hl hh f (i+1) b (by omega) (by omega) (by omega)]
   rfl
theorem split_pieces (s:ByteArray) (lo hi:Nat) (hl:lo≤hi) (hh:hi≤s.size):splitS (s.extract lo hi) 46=pieces s hi (hi-lo) lo lo:=by
 have h:=pieces_split s lo hi hl hh (hi-lo) 0 0 (by omega) (by omega) (by omega)
 rw [splitS,vsize s lo hi hl hh,h];rfl
theorem pieces_head (s:ByteArray) (hi:Nat): ∀ (f i b:Nat),f=hi-i→i≤hi→∃ e rest,i≤e∧e≤hi∧pieces s hi f i b=s.extract b e::rest
 |0,i,b,hf,hi'=>⟨hi,[],by omega,by omega,rfl⟩
 |f+1,i,b,hf,hi'=>by
  rw [pieces]
  by_cases h:((s.data[i]!).toNat:Int)=46
  ·rw [if_pos h];exact ⟨i,_,by omega,by omega,rfl⟩
  ·rw [if_neg h]
   obtain ⟨e,rest,h1,h2,h3⟩:=pieces_head s hi f (i+1) b (by omega) (by omega)
   exact ⟨e,rest,by omega,h2,h3⟩
theorem pieces_pos (s:ByteArray) (hi f i b:Nat) (hf:f=hi-i) (h:i≤hi):1≤(pieces s hi f i b).length:=by
 obtain ⟨e,rest,_,_,h3⟩:=pieces_head s hi f i b hf h
 rw [h3];simp
theorem piece_bad (p:Nat→Int→Bool) (s:ByteArray) (b e i:Nat) (hb:b≤i) (he:i<e) (hs:e≤s.size) (h: ∀ k,p k ((s.data[i]!).toNat:Int)=false):allUpto p (s.extract b e) (s.extract b e).size=false:=by
 have hz:=vsize s b e (by omega) hs
 refine allUpto_cut p _ (i-b) ?_ _ (by omega)
 rw [vget s b e (i-b) (by omega) hs,show b+(i-b)=i by omega]
 exact h _
def endNs (ns:List Int) (inP:Bool) (t:ByteArray):List Int:=if inP then ns else ns++[numOut t 9999]
def endPs (ps:List ByteArray) (inP:Bool) (t:ByteArray):List ByteArray:=if inP then ps++[t] else ps
def endOk (ns:List Int) (ps:List ByteArray) (inP:Bool) (t:ByteArray):Bool:=if inP then decide (ps.length+1≤3)&&partB t else numGood t 9999&&decide (ns.length+1≤3)
def reads (s:ByteArray):Nat→Nat→Nat→List Int→List ByteArray→Bool→Option (List Int × List ByteArray)
 |0,i,b,ns,ps,inP=>if endOk ns ps inP (s.extract b i)&&decide (3≤(endNs ns inP (s.extract b i)).length) then some (endNs ns inP (s.extract b i),endPs ps inP (s.extract b i)) else none
 |f+1,i,b,ns,ps,inP=>
  if ((s.data[i]!).toNat:Int)=46 then (if endOk ns ps inP (s.extract b i) then reads s f (i+1) (i+1) (endNs ns inP (s.extract b i)) (endPs ps inP (s.extract b i)) inP else none)
  else if ((s.data[i]!).toNat:Int)=45∧inP=false then (if endOk ns ps inP (s.extract b i) then reads s f (i+1) (i+1) (endNs ns inP (s.extract b i)) (endPs ps inP (s.extract b i)) true else none)
  else if preB ((s.data[i]!).toNat:Int) then reads s f (i+1) b ns ps inP else none
theorem all_partB_bad {l:List ByteArray} {t:ByteArray} (h:partB t=false):(t::l).all partB=false:=by simp [h]
theorem reads_pre (s:ByteArray) (ns:List Int): ∀ (f i b:Nat) (ps:List ByteArray),f=s.size-i→i≤s.size→b≤i→reads s f i b ns ps true=
  if (pieces s s.size f i b).all partB&&decide (ps.length+(pieces s s.size f i b).length≤3)&&decide (3≤ns.length) then some (ns,ps++pieces s s.size f i b) else none
 |0,i,b,ps,hf,hi,hb=>by
  have:i=s.size:=by omega
  subst this
  rw [reads,pieces]
  simp only [endOk,endNs,endPs,if_true,List.all_cons,List.all_nil,Bool.and_true,List.length_singleton]
  cases partB (s.extract b s.size)<;>simp [Bool.and_comm]
 |f+1,i,b,ps,hf,hi,hb=>by
  rw [reads,pieces]
  by_cases h:((s.data[i]!).toNat:Int)=46
  ·rw [if_pos h,if_pos h]
   simp only [endOk,endNs,endPs,if_true]
   rw [reads_pre s ns f (i+1) (i+1) (ps++[s.extract b i]) (by omega) (by omega) (by omega)]
   have hp:=pieces_pos s s.size f (i+1) (i+1) (by omega) (by omega)
   cases hx:partB (s.extract b i)
   ·simp [hx]
   ·by_cases hl:ps.length+1≤3
    ·simp only [hl,decide_true,Bool.and_self,if_true,List.all_cons,hx,Bool.true_and,List.length_append,List.length_cons,List.length_nil,List.append_assoc,List.cons_append,List.nil_append]
     have e:ps.length+(0+1)+(pieces s s.size f (i+1) (i+1)).length=ps.length+((pieces s s.size f (i+1) (i+1)).length+1):=by omega
     rw [e]
    ·have h2: ¬ps.length+((pieces s s.size f (i+1) (i+1)).length+1)≤3:=by omega
     simp [hl,h2]
  ·rw [if_neg h,if_neg h,if_neg (by simp)]
   by_cases hc:preB ((s.data[i]!).toNat:Int)=true
   ·rw [if_pos hc]
    exact reads_pre s ns f (i+1) b ps (by omega) (by omega) (by omega)
   ·rw [if_neg hc]
    obtain ⟨e,rest,h1,h2,h3⟩:=pieces_head s s.size f (i+1) b (by omega) (by omega)
    rw [h3,all_partB_bad (partB_bad (piece_bad okPre s b e i hb (by omega) h2 (fun _=>by simpa [okPre] using hc)))]
    simp
theorem good_of_piece {t:ByteArray} (h:allUpto okDigit t t.size=false):numGood t 9999=false:=by
 unfold numGood;rw [h];simp
theorem digit_pre {c:Int} (h:preB c=false):digitB c=false:=by
 simp only [preB,Bool.or_eq_false_iff] at h
 exact h.1.2
theorem reads_num (s:ByteArray) (k:Nat) (hk:k≤s.size) (hd:k<s.size→((s.data[k]!).toNat:Int)=45): ∀ (f i b:Nat) (ns:List Int),f=k-i→i≤k→b≤i→(∀ j,i≤j→j<k→¬((s.data[j]!).toNat:Int)=45)→
    reads s (s.size-i) i b ns [] false=if (pieces s k f i b).all (fun t=>numGood t 9999)&&decide (ns.length+(pieces s k f i b).length≤3) then
      (if k < s.size then reads s (s.size - (k + 1)) (k + 1) (k + 1) (ns ++ (pieces s k f i b).map (fun t => numOut t 9999)) [] true
       else if 3 ≤ ns.length + (pieces s k f i b).length then some (ns ++ (pieces s k f i b).map (fun t => numOut t 9999), []) else none) else none
  |0,i,b,ns,hf,hi,hb,hn=>by
    have:i=k:=by omega
    subst this
    rw [pieces]
    by_cases hlt:i<s.size
    · rw [show s.size-i=(s.size-(i+1))+1 by omega,reads,if_neg (by have:=hd hlt;omega),if_pos ⟨hd hlt,rfl⟩,if_pos hlt]
      simp [endOk,endNs,endPs]
    · have:i=s.size:=by omega
      rw [show s.size-i=0 by omega,reads,if_neg hlt]
      simp only [endOk,endNs,endPs,Bool.false_eq_true,if_false,List.all_cons,List.all_nil,Bool.and_true,List.length_singleton,List.map_cons,List.map_nil,List.length_append]
      cases numGood (s.extract b i) 9999
      · simp
      · by_cases h1:ns.length+1≤3<;>by_cases h2:3≤ns.length+1<;>simp [h1,h2]
  |f+1,i,b,ns,hf,hi,hb,hn=>by
    have hne:=hn i (by omega) (by omega)
    rw [show s.size-i=(s.size-(i+1))+1 by omega,reads,pieces]
    by_cases h:((s.data[i]!).toNat:Int)=46
    · rw [if_pos h,if_pos h]
      simp only [endOk,endNs,endPs,Bool.false_eq_true,if_false]
      rw [reads_num s k hk hd f (i+1) (i+1) (ns++[numOut (s.extract b i) 9999]) (by omega) (by omega) (by omega) (fun j h1 h2=>hn j (by omega) h2)]
      have hp:=pieces_pos s k f (i+1) (i+1) (by omega) (by omega)
      cases hx:numGood (s.extract b i) 9999
      · simp [hx]
      · by_cases hl:ns.length+1≤3
        · simp only [hl,decide_true,Bool.and_self,if_true,List.all_cons,hx,Bool.true_and,List.length_append,List.length_cons,List.length_nil,List.append_assoc,List.cons_append,List.nil_append,List.map_cons]
          have e:ns.length+(0+1)+(pieces s k f (i+1) (i+1)).length=ns.length+((pieces s k f (i+1) (i+1)).length+1):=by omega
          rw [e]
        · have h2: ¬ns.length+((pieces s k f (i+1) (i+1)).length+1)≤3:=by omega
          simp [hl,h2]
    · rw [if_neg h,if_neg h,if_neg (fun h=>hne h.1)]
      by_cases hc:preB ((s.data[i]!).toNat:Int)=true
      · rw [if_pos hc]
        exact reads_num s k hk hd f (i+1) b ns (by omega) (by omega) (by omega) (fun j h1 h2=>hn j (by omega) h2)
      · rw [if_neg hc]
        obtain ⟨e,rest,h1,h2,h3⟩:=pieces_head s k f (i+1) b (by omega) (by omega)
        have hbad:numGood (s.extract b e) 9999=false:=good_of_piece (piece_bad okDigit s b e i hb (by omega) (by omega) (fun _=>digit_pre (by simpa using hc)))
        rw [h3]
        simp [hbad]
def numsAt (s:ByteArray) (k:Nat):List ByteArray:=pieces s k k 0 0
def presAt (s:ByteArray) (k:Nat):List ByteArray:=if k<s.size then pieces s s.size (s.size-(k+1)) (k+1) (k+1) else []
def goodAt (s:ByteArray) (k:Nat):Bool:=(numsAt s k).all (fun t=>numGood t 9999)&&decide ((numsAt s k).length=3)&&(presAt s k).all partB&&decide ((presAt s k).length≤3)
theorem reads_all (s:ByteArray) (k:Nat) (hk:k≤s.size) (hd:k<s.size→((s.data[k]!).toNat:Int)=45) (hn: ∀ j,j<k→¬((s.data[j]!).toNat:Int)=45):
  reads s s.size 0 0 [] [] false=if goodAt s k then some ((numsAt s k).map (fun t=>numOut t 9999),presAt s k) else none:=by
 have h:=reads_num s k hk hd k 0 0 [] (by omega) (by omega) (by omega) (fun j _ h=>hn j h)
 rw [Nat.sub_zero] at h
 rw [h]
 unfold goodAt
 rw [show pieces s k k 0 0=numsAt s k from rfl]
 by_cases hlt:k<s.size
 ·rw [if_pos hlt,reads_pre s _ (s.size-(k+1)) (k+1) (k+1) [] (by omega) (by omega) (by omega)]
  rw [show pieces s s.size (s.size-(k+1)) (k+1) (k+1)=presAt s k by unfold presAt;rw [if_pos hlt]]
  simp only [List.nil_append,List.length_nil,Nat.zero_add,List.length_map]
  by_cases h3:(numsAt s k).length=3
  ·simp only [h3,Nat.le_refl,decide_true,Bool.and_true]
   cases (numsAt s k).all (fun t=>numGood t 9999)
   ·simp
   ·simp
  ·by_cases h4:(numsAt s k).length≤3
   ·have h5: ¬3≤(numsAt s k).length:=by omega
    simp [h3,h5]
   ·simp [h3,h4]
 ·rw [if_neg hlt]
  have hp:presAt s k=[]:=by unfold presAt;rw [if_neg hlt]
  rw [hp]
  simp only [List.nil_append,List.length_nil,Nat.zero_add,List.all_nil,Bool.and_true]
  by_cases h3:(numsAt s k).length=3
  ·simp [h3]
  ·by_cases h4:(numsAt s k).length≤3
   ·have h5: ¬3≤(numsAt s k).length:=by omega
    simp [h3,h5]
   ·simp [h3,h4]
def Four (w:World) (N:Nat) (t:TypeId) (c0 c1 c2 c3:Value):Prop:=w.heap[N]?=some (.cells #[c0,c1,c2,c3] t (0,0))
theorem Four.lt {w:World} {N:Nat} {t:TypeId} {c0 c1 c2 c3:Value} (h:Four w N t c0 c1 c2 c3):N<w.heap.size:=(Array.getElem?_eq_some_iff.1 h).1
theorem Four.keep {w w':World} {N:Nat} {t:TypeId} {c0 c1 c2 c3:Value} (h:Four w N t c0 c1 c2 c3) (b:Below w.heap.size w w'):Four w' N t c0 c1 c2 c3:=(b.block N h.lt).trans h
theorem Four.cells {w:World} {N:Nat} {t:TypeId} {c0 c1 c2 c3:Value} (h:Four w N t c0 c1 c2 c3):w.cell? ⟨N,0,none⟩=some c0∧w.cell? ⟨N,1,none⟩=some c1∧w.cell? ⟨N,2,none⟩=some c2∧w.cell? ⟨N,3,none⟩=some c3:=
 ⟨vblk_cell h 0,vblk_cell h 1,vblk_cell h 2,vblk_cell h 3⟩
theorem Four.drew {w:World} {N:Nat} {t:TypeId} {c0 c1 c2 c3:Value} (h:Four w N t c0 c1 c2 c3):Four w.drew N t c0 c1 c2 c3:=h
theorem four_new (w:World) (t:TypeId) (c0 c1 c2 c3:Value):Four (w.alloc (.cells #[c0,c1,c2,c3] t)) w.heap.size t c0 c1 c2 c3:=vheap_new _ _
theorem four_old {w:World} {N:Nat} {t:TypeId} {c0 c1 c2 c3:Value} (h:Four w N t c0 c1 c2 c3) (o:Obj):Four (w.alloc o) N t c0 c1 c2 c3:=(vheap_old w o h.lt).trans h
theorem four_two (w:World) (t t':TypeId) (c0 c1 c2 c3 d0 d1 d2 d3:Value):Four ((w.alloc (.cells #[c0,c1,c2,c3] t)).alloc (.cells #[d0,d1,d2,d3] t')) w.heap.size t c0 c1 c2 c3∧Four ((w.alloc (.cells #[c0,c1,c2,c3] t)).alloc (.cells #[d0,d1,d2,d3] t')) (w.heap.size+1) t' d0 d1 d2 d3:=by
 refine ⟨four_old (four_new _ _ _ _ _ _) _,?_⟩
 have h:=four_new (w.alloc (.cells #[c0,c1,c2,c3] t)) t' d0 d1 d2 d3
 have s1: ∀ o,(w.alloc o).heap.size=w.heap.size+1:=fun o=>by simp
 rw [s1] at h
 exact h
def joinUpto (ss:List ByteArray) (t:ByteArray):Nat→ByteArray
 |0=>⟨#[]⟩
 |k+1=>(if k=0 then joinUpto ss t k else joinUpto ss t k++t)++ss.getD k ⟨#[]⟩
def joinS (ss:List ByteArray) (t:ByteArray):ByteArray:=joinUpto ss t ss.length
def numStr (n:Nat):ByteArray:=⟨(Lib.decDigits n).toArray⟩
theorem numStr_four (n:Nat) (h:n≤9999):(numStr n).size≤4:=by
 have e:(numStr n).size=(Lib.decDigits n).length:=by simp [numStr,ByteArray.size]
 rw [e]
 have hl: ∀ m,¬m<10→(Lib.decDigits m).length=(Lib.decDigits (m / 10)).length+1:=fun m hm=>by rw [Lib.decDigits,dif_neg hm];simp
 have h0: ∀ m,m<10→(Lib.decDigits m).length=1:=fun m hm=>by rw [Lib.decDigits,dif_pos hm];simp
 by_cases h1:n<10
 ·rw [h0 n h1];omega
 ·rw [hl n h1]
  by_cases h2:n / 10<10
  ·rw [h0 _ h2];omega
  ·rw [hl _ h2]
   by_cases h3:n / 10 / 10<10
   ·rw [h0 _ h3];omega
   ·rw [hl _ h3,h0 _ (by omega)];omega
def coreT (a b c:Int):ByteArray:=numStr a.toNat++⟨#[46]⟩++numStr b.toNat++⟨#[46]⟩++numStr c.toNat
def verT (a b c:Int) (ps:List ByteArray):ByteArray:=if verB a b c ps then (if 0<ps.length then coreT a b c++⟨#[45]⟩++joinS ps ⟨#[46]⟩ else coreT a b c) else ⟨#[]⟩
theorem join_three (x y z t:ByteArray):joinS [x,y,z] t=x++t++y++t++z:=by
 have e:joinS [x,y,z] t=((⟨#[]⟩++x)++t++y)++t++z:=rfl
 rw [e]
 congr 4
theorem in_range {a:Int} (h:inB a 0 9999=true):0≤a∧a≤9999:=by simpa [inB] using h
theorem verB_nums {a b c:Int} {ps:List ByteArray} (h:verB a b c ps=true):inB a 0 9999=true∧inB b 0 9999=true∧inB c 0 9999=true:=by
 simp only [verB,Bool.and_eq_true] at h
 exact ⟨h.1.1.1.2,h.1.1.2,h.1.2⟩
theorem vdec_step {n:Nat} (h: ¬n<10):Lib.decDigits n=Lib.decDigits (n / 10)++[UInt8.ofNat (48+n % 10)]:=by
 conv=>lhs;rw [Lib.decDigits,dif_neg h]
theorem vdec_one {n:Nat} (h:n<10):Lib.decDigits n=[UInt8.ofNat (48+n)]:=by
 rw [Lib.decDigits,dif_pos h]
theorem allUpto_at {p:Nat→Int→Bool} {s:ByteArray}: ∀ {n:Nat},allUpto p s n=true→∀ k,k<n→p k ((s.data[k]!).toNat:Int)=true
 |0,_,k,hk=>by omega
 |n+1,h,k,hk=>by
  rw [allUpto,Bool.and_eq_true] at h
  by_cases e:k=n
  ·subst e;exact h.2
  ·exact allUpto_at h.1 k (by omega)
theorem vtake_snoc (s:ByteArray) (k:Nat) (h:k<s.size):s.data.toList.take (k+1)=s.data.toList.take k++[s.data[k]!]:=by
 rw [List.take_succ_eq_append_getElem (by rw [vlen];exact h)]
 congr 2
 rw [getElem!_pos s.data k h]
 rfl
theorem u8_back (u:UInt8) (h:48≤u.toNat):UInt8.ofNat (48+(u.toNat-48))=u:=by
 rw [show 48+(u.toNat-48)=u.toNat by omega]
 simp
theorem dec_back (s:ByteArray) (hd:allUpto okDigit s s.size=true) (hz:1<s.size→¬((s.data[0]!).toNat:Int)=48): ∀ k,k<s.size→0≤numUpto s (k+1)∧(1<s.size→1≤numUpto s (k+1))∧Lib.decDigits (numUpto s (k+1)).toNat=s.data.toList.take (k+1)
 |0,hk=>by
  have h0:=digit_bounds (allUpto_at hd 0 hk)
  have e:numUpto s (0+1)=((s.data[0]!).toNat:Int)-48:=by simp [numUpto]
  rw [e]
  refine ⟨by omega,fun h1=>by have:=hz h1;omega,?_⟩
  rw [vdec_one (by omega),vtake_snoc s 0 hk]
  have:(((s.data[0]!).toNat:Int)-48).toNat=(s.data[0]!).toNat-48:=by omega
  rw [this,u8_back _ (by omega)]
  rfl
 |k+1,hk=>by
  obtain ⟨h1,h2,h3⟩:=dec_back s hd hz k (by omega)
  have h2:=h2 (by omega)
  have hb:=digit_bounds (allUpto_at hd (k+1) hk)
  have e:numUpto s (k+1+1)=numUpto s (k+1)*10+(((s.data[k+1]!).toNat:Int)-48):=rfl
  rw [e]
  generalize numUpto s (k+1)=m at*
  refine ⟨by omega,fun _=>by omega,?_⟩
  rw [vdec_step (by omega),vtake_snoc s (k+1) hk, ←h3]
  have e1:(m*10+(((s.data[k+1]!).toNat:Int)-48)).toNat / 10=m.toNat:=by omega
  have e2:(m*10+(((s.data[k+1]!).toNat:Int)-48)).toNat % 10=(s.data[k+1]!).toNat-48:=by omega
  rw [e1,e2,u8_back _ (by omega)]
theorem num_str {t:ByteArray} {most:Int} (h:numGood t most=true):numStr (numOut t most).toNat=t∧0≤numOut t most:=by
 have h0:=h
 simp only [numGood,Bool.and_eq_true,Bool.not_eq_true'] at h
 obtain ⟨⟨⟨h1,h2⟩,h3⟩,h4⟩:=h
 have hs:=in17 h1
 have hz:1<t.size→¬((t.data[0]!).toNat:Int)=48:=fun hl he=>by
  rw [decide_eq_true hl,he] at h3
  simp at h3
 obtain ⟨p1,p2,p3⟩:=dec_back t h2 hz (t.size-1) (by omega)
 rw [show t.size-1+1=t.size by omega] at p1 p3
 rw [numOut_good h0]
 refine ⟨?_,p1⟩
 apply vext
 show (Lib.decDigits (numUpto t t.size).toNat).toArray.toList=_
 rw [p3]
 simp
 exact List.take_of_length_le (by rw [vlen];omega)
def intsV (zs:List Int):List Value:=zs.map (Value.int .i64)
@[simp] theorem length_intsV (zs:List Int):(intsV zs).length=zs.length:=by simp [intsV]
@[simp] theorem length_bytesV' (zs:List Int):(bytesV zs).length=zs.length:=by simp [bytesV]
theorem infoI :(Tryz.prog.info? 3).map (fun i=>(i.zero,i.size,i.bytes))=some (some (.int .i64 0),1,8):=by kernel_rfl
structure Only (R base:Nat) (w w':World):Prop where
 os:w'.os=w.os
 tape:w'.tape=w.tape
 output:w'.output=w.output
 size:w.heap.size≤w'.heap.size
 block: ∀ k,k<base→k≠R→w'.heap[k]?=w.heap[k]?
theorem Only.refl (R base:Nat) (w:World):Only R base w w:=⟨rfl,rfl,rfl,Nat.le_refl _,fun _ _ _=>rfl⟩
theorem Only.trans {R base:Nat} {a b c:World} (h:Only R base a b) (k:Only R base b c):Only R base a c:=
 ⟨k.os.trans h.os,k.tape.trans h.tape,k.output.trans h.output,Nat.le_trans h.size k.size,fun i h1 h2=>(k.block i h1 h2).trans (h.block i h1 h2)⟩
theorem Only.set {R base:Nat} (w:World) (j:Nat) (v:Value):Only R base w (w.setCell ⟨R,j,none⟩ v):=
 ⟨rfl,rfl,rfl,by simp [World.setCell],fun k _ hk=>Below.heap_setCell w ⟨R,j,none⟩ v k hk⟩
theorem Only.grown {R base:Nat} {w w':World} {row:Option Nat} (h:w.grownBy w' row) (hb:base≤w.heap.size) (hrow: ∀ k,row=some k→base≤k):Only R base w w':=
 ⟨h.os,h.tape,h.output,h.size,fun k h1 _=>h.block k (by omega) (fun e=>by have:=hrow k e.symm;omega)⟩
theorem Only.below {R base:Nat} {w w':World} (h:Below w.heap.size w w') (hb:base≤w.heap.size):Only R base w w':=
 ⟨h.os,h.tape,h.output,h.size,fun k h1 _=>h.block k (by omega)⟩
theorem Only.alloc {R base:Nat} {w:World} (o:Obj) (hb:base≤w.heap.size):Only R base w (w.alloc o):=Only.below ((Below.refl _ _).alloc (Nat.le_refl _) _) hb
theorem four_set {w:World} {R:Nat} {t:TypeId} {c0 c1 c2 c3:Value} (h:Four w R t c0 c1 c2 c3) (v:Value):
  Four (w.setCell ⟨R,0,none⟩ v) R t v c1 c2 c3∧Four (w.setCell ⟨R,1,none⟩ v) R t c0 v c2 c3∧Four (w.setCell ⟨R,2,none⟩ v) R t c0 c1 v c3∧Four (w.setCell ⟨R,3,none⟩ v) R t c0 c1 c2 v:=by
 refine ⟨?_,?_,?_,?_⟩<;>(unfold Four at*;rw [heap_setCell_same w R _ _ t v h];rfl)
theorem Four.grown {w w':World} {R base:Nat} {t:TypeId} {c0 c1 c2 c3:Value} {row:Option Nat} (h:Four w R t c0 c1 c2 c3) (hg:w.grownBy w' row) (hR:R<base) (hrow: ∀ k,row=some k→base≤k):Four w' R t c0 c1 c2 c3:=
 (hg.block R h.lt (fun e=>by have:=hrow R e.symm;omega)).trans h
theorem Four.frozen {w:World} {N:Nat} {t:TypeId} {c0 c1 c2 c3:Value} (h:Four w N t c0 c1 c2 c3) (j:Nat):w.frozen? ⟨N,j,none⟩=false:=vblk_frozen h j
theorem rows_apart {w:World} {base e e':Nat} {v v':Value} {n n':Nat} {xs xs':List Value} (h:w.ownsRow base e 1 v n xs) (h':w.ownsRow base e' 1 v' n' xs') (hne:e≠e'):v'.ownBlock=none∨v'.ownBlock≠v.ownBlock:=by
 rcases h.2 with ⟨rfl,_⟩|⟨g,cap,cur,rfl,_,hg,_⟩
 ·rcases h'.2 with ⟨rfl,_⟩|⟨g',cap',cur',rfl,_,hg',_⟩
  ·exact .inl rfl
  ·exact .inr (by simp [Value.ownBlock])
 ·rcases h'.2 with ⟨rfl,_⟩|⟨g',cap',cur',rfl,_,hg',_⟩
  ·exact .inl rfl
  ·refine .inr fun e1=>hne ?_
   simp only [Value.ownBlock,Option.some.injEq] at e1
   subst e1
   rw [hg] at hg'
   simp only [Option.some.injEq,Obj.cells.injEq] at hg'
   exact hg'.2.1
def Rd (w:World) (R base:Nat) (ws ns:List Int) (ps:List ByteArray) (inP:Bool):Prop:=
 ∃ vw vn vp,Four w R 335 vw vn vp (.bool inP)∧w.ownsRow base 5 1 vw ws.length (bytesV ws)∧w.ownsRow base 3 1 vn ns.length (intsV ns)∧w.ownsRow base 9 1 vp ps.length (strsV ps)
theorem row_empty {w:World} {base:Nat} {e:TypeId} {g n cap:Nat} {xs:List Value} (h:w.ownsRow base e 1 (.slice (some ⟨g,0,none⟩) n cap) n xs):w.ownsRow base e 1 (.slice (some ⟨g,0,none⟩) 0 cap) 0 []:=by
 rcases h.2 with ⟨h,_⟩|⟨g',cap',cur,hv,hb,hg,hn,hc,hs,ht⟩
 ·cases h
 ·cases hv
  exact ⟨rfl,.inr ⟨g,cap,cur,rfl,hb,hg,Nat.zero_le _,hc,hs,rfl⟩⟩
theorem conv_word {w:World} {base:Nat} {vw:Value} {ws:List Int} (h:w.ownsRow base 5 1 vw ws.length (bytesV ws)):(convert 22 9 vw).run Tryz.prog w=.ok (.string (strOfNums ws)) w:=by
 rcases h.2 with ⟨rfl,h0⟩|⟨g,cap,cur,rfl,hb,hg,hn,hc,hs,ht⟩
 ·have:ws=[]:=List.eq_nil_of_length_eq_zero h0
  subst this
  exact run_convert_bytes_nil w 22 5 Tryz.underlying22 Tryz.underlying5 0 0 9 Tryz.underlying9
 ·refine run_convert_bytes_arg _ 22 5 Tryz.underlying22 Tryz.underlying5 _ 0 ws.length cap ws rfl (fun i hi=>?_) 9 Tryz.underlying9
  rw [Nat.zero_add,h.cellAt i (by simpa using hi)]
  simp [bytesV,List.getD_eq_getElem?_getD,hi]
theorem cell_str (w:World) (t:ByteArray): ∀ j u,[Value.string t][j]?=some u→(w.alloc (.cells #[.string t] 9)).cell? ((⟨w.heap.size,0,none⟩:Addr).add j)=some u:=cell_one_new _ _ _
theorem ends_in (R base:Nat) (ws ns:List Int) (ps:List ByteArray) (w:World) (h:Rd w R base ws ns ps true) (hR:R<base) (hbw:base≤w.heap.size) (hw:ws.length≤1048576) (hps:ps.length≤1048576):
    Calls Tryz.prog 293 #[.pointer (some ⟨R,0,none⟩)] w fun e w'=>e=.returned (.bool (endOk ns ps true (strOfNums ws)))∧Rd w' R base [] (endNs ns true (strOfNums ws)) (endPs ps true (strOfNums ws)) true∧Only R base w w':=by
  obtain ⟨i0,hi,hz0,hz1,hz2⟩:=info_parts infoS
  obtain ⟨vw,vn,vp,hF,hWr,hNr,hPr⟩:=h
  have hcv:=conv_word hWr
  have htz:(strOfNums ws).size≤maxLen:=by rw [strOfNums_size];unfold maxLen;omega
  obtain ⟨t,ht⟩: ∃ t,t=strOfNums ws:=⟨_,rfl⟩
  rw [←ht] at hcv htz ⊢
  clear ht
  obtain ⟨v0,hv0,hW0⟩: ∃ v0,(vw=.slice none 0 0∧v0=.slice none 0 0∨∃ g n cap,vw=.slice (some ⟨g,0,none⟩) n cap∧v0=.slice (some ⟨g,0,none⟩) 0 cap∧n≤cap)∧w.ownsRow base 5 1 v0 0 []:=by
    rcases hWr.2 with ⟨rfl,_⟩|⟨g,cap,cur,rfl,_,_,hn,_⟩
    · exact ⟨_,.inl ⟨rfl,rfl⟩,World.ownsRow_nil _ _ _ _⟩
    · exact ⟨_,.inr ⟨g,ws.length,cap,rfl,rfl,hn⟩,row_empty hWr⟩
  have F1:=(four_set hF v0).1
  have hW1:=owns_set hW0 (p:=⟨R,0,none⟩) hR v0
  have hN1:=owns_set hNr (p:=⟨R,0,none⟩) hR v0
  have hP1:=owns_set hPr (p:=⟨R,0,none⟩) hR v0
  have O1:Only R base w (w.setCell ⟨R,0,none⟩ v0):=Only.set w 0 v0
  have hb1:base≤(w.setCell ⟨R,0,none⟩ v0).heap.size:=Nat.le_trans hbw O1.size
  obtain ⟨c0,c1,c2,c3⟩:=hF.cells
  have f0:=hF.frozen 0
  obtain ⟨d0,d1,d2,d3⟩:=F1.cells
  have g2:=F1.frozen 2
  have hlR:=F1.lt
  have hsz:(w.setCell ⟨R,0,none⟩ v0).heap.size=w.heap.size:=by simp [World.setCell]
  have hcs:=cell_str (w.setCell ⟨R,0,none⟩ v0) t
  rw [hsz] at hcs
  have HC:Hid (∀ j u,(strsV [t])[j]?=some u→((w.setCell ⟨R,0,none⟩ v0).alloc (.cells #[.string t] 9)).cell? ((⟨w.heap.size,0,none⟩:Addr).add j)=some u):=hcs
  have hPA:=hP1.alloc (.cells #[.string t] 9)
  have hNA:=hN1.alloc (.cells #[.string t] 9)
  have hWA:=hW1.alloc (.cells #[.string t] 9)
  have FA:=four_old F1 (.cells #[.string t] 9)
  have OA:Only R base w ((w.setCell ⟨R,0,none⟩ v0).alloc (.cells #[.string t] 9)):=O1.trans (Only.alloc _ hb1)
  have hbA:base≤((w.setCell ⟨R,0,none⟩ v0).alloc (.cells #[.string t] 9)).heap.size:=Nat.le_trans hbw OA.size
  have HP:Hid (((w.setCell ⟨R,0,none⟩ v0).alloc (.cells #[.string t] 9)).ownsRow base 9 1 vp ps.length (strsV ps)):=hPA
  obtain ⟨vpa,vpn,vpc,rfl⟩: ∃ a n cap,vp=.slice a n cap:=by rcases hPr.2 with ⟨rfl,_⟩|⟨g,cap,cur,rfl,_⟩<;>exact ⟨_,_,_,rfl⟩
  clear hWr hNr hPr hF hcs hP1 hN1 hW1 hPA hsz
  rcases hv0 with ⟨rfl,rfl⟩|⟨gb,n,cap,rfl,rfl,hn⟩
  all_goals (
    go_enter Tryz.func293, Tryz.ntmps293
    go_wp2_with (at_builtin; refine wpList_append_own _ rfl _ _ 28 rfl base 9 i0 (.string ⟨#[]⟩) 1 16 Tryz.underlying28 hi hz0 hz1 hz2 rfl (by decide) _ ps.length (strsV ps) rfl HP.out ⟨w.heap.size, 0, none⟩ 1 1 (strsV [t]) rfl rfl HC.out (fun u hu => by simp [strsV] at hu; subst hu; rfl) (by unfold maxLen; omega) (by omega) hbA ?_)
    intro v2 w2 o2 gr2 _
    rw [show strsV ps ++ strsV [t] = strsV (ps ++ [t]) by simp [strsV]] at o2
    have hrow : ∀ k, Value.ownBlock (.slice vpa vpn vpc) = some k → base ≤ k := fun k hk => (HP.out.lt k hk).1
    have F2 := FA.grown gr2 hR hrow
    have hN2 := hNA.kept gr2 (rows_apart HP.out hNA (by decide))
    have hW2 := hWA.kept gr2 (rows_apart HP.out hWA (by decide))
    have O2 := OA.trans (Only.grown gr2 hbA hrow)
    have hb2 := Nat.le_trans hbw O2.size
    clear gr2 HP hNA hWA FA OA hbA HC F1 O1
    obtain ⟨e0, e1, e2, e3⟩ := F2.cells
    have h2 := F2.frozen 2
    have F3 := (four_set F2 v2).2.2.1
    have hN3 := owns_set hN2 (p := ⟨R, 2, none⟩) hR v2
    have hW3 := owns_set hW2 (p := ⟨R, 2, none⟩) hR v2
    have hP3 := owns_set o2 (p := ⟨R, 2, none⟩) hR v2
    have O3 := O2.trans (Only.set w2 2 v2)
    have hb3 := Nat.le_trans hbw O3.size
    obtain ⟨k0, k1, k2, k3⟩ := F3.cells
    obtain ⟨q2, cap2, hv2⟩ : ∃ q cap, v2 = .slice q (ps.length + 1) cap := by
      rcases o2.2 with ⟨_, h⟩ | ⟨g, cap, cur, rfl, _⟩
      · omega
      · exact ⟨_, _, rfl⟩
    subst hv2
    clear o2 hN2 hW2 F2 O2 hb2 d0 d1 d2 d3 c0 c1 c2 c3
    have hRd : Rd (w2.setCell ⟨R, 2, none⟩ (.slice q2 (ps.length + 1) cap2)) R base [] ns (ps ++ [t]) true := ⟨_, _, _, F3, hW3, hN3, by simpa using hP3⟩
    clear F3 hN3 hW3 hP3
    by_cases hl : ps.length + 1 ≤ 3
    · have hl' : (ps.length : Int) + 1 ≤ 3 := by omega
      go_wp2_with (go_at_call 232; refine (implPart_c t htz _).mono ?_; rintro e w4 ⟨rfl, b4⟩)
      go_ret
      refine ⟨ret_bool (by simp [endOk, hl]), ?_, O3.trans (Only.below b4 hb3)⟩
      obtain ⟨x1, x2, x3, y1, y2, y3, y4⟩ := hRd
      exact ⟨x1, x2, x3, y1.keep b4, owns_of_below y2 b4, owns_of_below y3 b4, owns_of_below y4 b4⟩
    · have hl' : ¬ (ps.length : Int) + 1 ≤ 3 := by omega
      go_wp2
      go_ret
      exact ⟨ret_bool (by simp [endOk, hl]), hRd, O3⟩)
theorem cell_int (w:World) (n:Int): ∀ j u,[Value.int .i64 n][j]?=some u→(w.alloc (.cells #[.int .i64 n] 3)).cell? ((⟨w.heap.size,0,none⟩:Addr).add j)=some u:=cell_one_new _ _ _
theorem cell_byte (w:World) (n:Int): ∀ j u,[Value.int .u8 n][j]?=some u→(w.alloc (.cells #[.int .u8 n] 5)).cell? ((⟨w.heap.size,0,none⟩:Addr).add j)=some u:=cell_one_new _ _ _
theorem Rd.keep {w w':World} {R base:Nat} {ws ns:List Int} {ps:List ByteArray} {inP:Bool} (h:Rd w R base ws ns ps inP) (b:Below w.heap.size w w'):Rd w' R base ws ns ps inP:=by
 obtain ⟨x1,x2,x3,y1,y2,y3,y4⟩:=h
 exact ⟨x1,x2,x3,y1.keep b,owns_of_below y2 b,owns_of_below y3 b,owns_of_below y4 b⟩
theorem ends_out (R base:Nat) (ws ns:List Int) (ps:List ByteArray) (w:World) (h:Rd w R base ws ns ps false) (hR:R<base) (hbw:base≤w.heap.size) (hw:ws.length≤1048576) (hns:ns.length≤1048576):
    Calls Tryz.prog 293 #[.pointer (some ⟨R,0,none⟩)] w fun e w'=>e=.returned (.bool (endOk ns ps false (strOfNums ws)))∧Rd w' R base [] (endNs ns false (strOfNums ws)) (endPs ps false (strOfNums ws)) false∧Only R base w w':=by
  obtain ⟨i0,hi,hz0,hz1,hz2⟩:=info_parts infoI
  obtain ⟨vw,vn,vp,hF,hWr,hNr,hPr⟩:=h
  have hcv:=conv_word hWr
  have htz:(strOfNums ws).size≤maxLen:=by rw [strOfNums_size];unfold maxLen;omega
  obtain ⟨t,ht⟩: ∃ t,t=strOfNums ws:=⟨_,rfl⟩
  rw [←ht] at hcv htz ⊢
  clear ht
  obtain ⟨v0,hv0,hW0⟩: ∃ v0,(vw=.slice none 0 0∧v0=.slice none 0 0∨∃ g n cap,vw=.slice (some ⟨g,0,none⟩) n cap∧v0=.slice (some ⟨g,0,none⟩) 0 cap∧n≤cap)∧w.ownsRow base 5 1 v0 0 []:=by
    rcases hWr.2 with ⟨rfl,_⟩|⟨g,cap,cur,rfl,_,_,hn,_⟩
    · exact ⟨_,.inl ⟨rfl,rfl⟩,World.ownsRow_nil _ _ _ _⟩
    · exact ⟨_,.inr ⟨g,ws.length,cap,rfl,rfl,hn⟩,row_empty hWr⟩
  have F1:=(four_set hF v0).1
  have hW1:=owns_set hW0 (p:=⟨R,0,none⟩) hR v0
  have hN1:=owns_set hNr (p:=⟨R,0,none⟩) hR v0
  have hP1:=owns_set hPr (p:=⟨R,0,none⟩) hR v0
  have O1:Only R base w (w.setCell ⟨R,0,none⟩ v0):=Only.set w 0 v0
  have hb1:base≤(w.setCell ⟨R,0,none⟩ v0).heap.size:=Nat.le_trans hbw O1.size
  obtain ⟨c0,c1,c2,c3⟩:=hF.cells
  have f0:=hF.frozen 0
  obtain ⟨d0,d1,d2,d3⟩:=F1.cells
  have g2:=F1.frozen 1
  have hlR:=F1.lt
  obtain ⟨m,hm⟩: ∃ m,m=numOut t 9999:=⟨_,rfl⟩
  have HNum:Hid (∀ w1,Calls Tryz.prog 301 #[.string t,.int .i64 9999] w1 fun e w'=>e=.returned (.tuple #[.int .i64 m,.bool (numGood t 9999)])∧w1=w'):=fun w1=>by rw [hm];exact implNum_c t 9999 htz w1
  have HM:Hid (m=numOut t 9999):=hm
  clear hm
  have hsz:(w.setCell ⟨R,0,none⟩ v0).heap.size=w.heap.size:=by simp [World.setCell]
  have hcs:=cell_int (w.setCell ⟨R,0,none⟩ v0) m
  rw [hsz] at hcs
  have HC:Hid (∀ j u,(intsV [m])[j]?=some u→((w.setCell ⟨R,0,none⟩ v0).alloc (.cells #[.int .i64 m] 3)).cell? ((⟨w.heap.size,0,none⟩:Addr).add j)=some u):=hcs
  have hPA:=hP1.alloc (.cells #[.int .i64 m] 3)
  have hNA:=hN1.alloc (.cells #[.int .i64 m] 3)
  have hWA:=hW1.alloc (.cells #[.int .i64 m] 3)
  have FA:=four_old F1 (.cells #[.int .i64 m] 3)
  have OA:Only R base w ((w.setCell ⟨R,0,none⟩ v0).alloc (.cells #[.int .i64 m] 3)):=O1.trans (Only.alloc _ hb1)
  have hbA:base≤((w.setCell ⟨R,0,none⟩ v0).alloc (.cells #[.int .i64 m] 3)).heap.size:=Nat.le_trans hbw OA.size
  have HP:Hid (((w.setCell ⟨R,0,none⟩ v0).alloc (.cells #[.int .i64 m] 3)).ownsRow base 3 1 vn ns.length (intsV ns)):=hNA
  obtain ⟨vna,vnn,vnc,rfl⟩: ∃ a n cap,vn=.slice a n cap:=by rcases hNr.2 with ⟨rfl,_⟩|⟨g,cap,cur,rfl,_⟩<;>exact ⟨_,_,_,rfl⟩
  clear hWr hNr hPr hF hcs hP1 hN1 hW1 hNA hsz
  rcases hv0 with ⟨rfl,rfl⟩|⟨gb,n,cap,rfl,rfl,hn⟩
  all_goals (
    go_enter Tryz.func293, Tryz.ntmps293
    go_wp2_with (first
      | (go_at_call 301; refine (HNum.out _).mono ?_; rintro e w1 ⟨rfl, rfl⟩)
      | (at_builtin; refine wpList_append_own _ rfl _ _ 149 rfl base 3 i0 (.int .i64 0) 1 8 Tryz.underlying149 hi hz0 hz1 hz2 rfl (by decide) _ ns.length (intsV ns) rfl HP.out ⟨w.heap.size, 0, none⟩ 1 1 (intsV [m]) rfl rfl HC.out (fun u hu => by simp [intsV] at hu; subst hu; rfl) (by unfold maxLen; omega) (by omega) hbA ?_))
    intro v2 w2 o2 gr2 _
    rw [show intsV ns ++ intsV [m] = intsV (ns ++ [m]) by simp [intsV]] at o2
    have hrow : ∀ k, Value.ownBlock (.slice vna vnn vnc) = some k → base ≤ k := fun k hk => (HP.out.lt k hk).1
    have F2 := FA.grown gr2 hR hrow
    have hP2 := hPA.kept gr2 (rows_apart HP.out hPA (by decide))
    have hW2 := hWA.kept gr2 (rows_apart HP.out hWA (by decide))
    have O2 := OA.trans (Only.grown gr2 hbA hrow)
    have hb2 := Nat.le_trans hbw O2.size
    clear gr2 HP hPA hWA FA OA hbA HC F1 O1
    obtain ⟨e0, e1, e2, e3⟩ := F2.cells
    have h2 := F2.frozen 1
    have F3 := (four_set F2 v2).2.1
    have hN3 := owns_set o2 (p := ⟨R, 1, none⟩) hR v2
    have hW3 := owns_set hW2 (p := ⟨R, 1, none⟩) hR v2
    have hP3 := owns_set hP2 (p := ⟨R, 1, none⟩) hR v2
    have O3 := O2.trans (Only.set w2 1 v2)
    have hb3 := Nat.le_trans hbw O3.size
    obtain ⟨k0, k1, k2, k3⟩ := F3.cells
    obtain ⟨q2, cap2, hv2⟩ : ∃ q cap, v2 = .slice q (ns.length + 1) cap := by
      rcases o2.2 with ⟨_, h⟩ | ⟨g, cap, cur, rfl, _⟩
      · omega
      · exact ⟨_, _, rfl⟩
    subst hv2
    clear o2 hP2 hW2 F2 O2 hb2 d0 d1 d2 d3 c0 c1 c2 c3
    have hRd : Rd (w2.setCell ⟨R, 1, none⟩ (.slice q2 (ns.length + 1) cap2)) R base [] (ns ++ [m]) ps false := ⟨_, _, _, F3, hW3, by simpa using hN3, hP3⟩
    rw [HM.out] at hRd
    clear F3 hN3 hW3 hP3
    cases hg : numGood t 9999 with
    | true =>
      go_wp2
      go_ret
      refine ⟨ret_bool ?_, hRd, O3⟩
      rw [endOk, if_neg (by simp), hg, Bool.eq_iff_iff]
      simp; try omega
    | false =>
      go_wp2
      go_ret
      exact ⟨ret_bool (by rw [endOk, if_neg (by simp), hg]; rfl), hRd, O3⟩)
theorem ends_c (R base:Nat) (ws ns:List Int) (ps:List ByteArray) (inP:Bool) (w:World) (h:Rd w R base ws ns ps inP) (hR:R<base) (hbw:base≤w.heap.size) (hw:ws.length≤1048576) (hns:ns.length≤1048576) (hps:ps.length≤1048576):
  Calls Tryz.prog 293 #[.pointer (some ⟨R,0,none⟩)] w fun e w'=>e=.returned (.bool (endOk ns ps inP (strOfNums ws)))∧Rd w' R base [] (endNs ns inP (strOfNums ws)) (endPs ps inP (strOfNums ws)) inP∧Only R base w w':=by
 cases inP
 ·exact ends_out R base ws ns ps w h hR hbw hw hns
 ·exact ends_in R base ws ns ps w h hR hbw hw hps
theorem takes_dot (R base:Nat) (ws ns:List Int) (ps:List ByteArray) (inP:Bool) (w:World) (h:Rd w R base ws ns ps inP) (hR:R<base) (hbw:base≤w.heap.size) (hw:ws.length≤1048576) (hns:ns.length≤1048576) (hps:ps.length≤1048576):
  Calls Tryz.prog 292 #[.pointer (some ⟨R,0,none⟩),.int .i32 46] w fun e w'=>e=.returned (.bool (endOk ns ps inP (strOfNums ws)))∧Rd w' R base [] (endNs ns inP (strOfNums ws)) (endPs ps inP (strOfNums ws)) inP∧Only R base w w':=by
 have HE:=ends_c R base ws ns ps inP w h hR hbw hw hns hps
 clear h
 go_enter Tryz.func292,Tryz.ntmps292
 go_wp2_with (go_at_call 293;refine HE.mono ?_;rintro e w1 ⟨rfl,h1,o1⟩)
 go_ret
 exact ⟨rfl,h1,o1⟩
theorem takes_dash (R base:Nat) (ws ns:List Int) (ps:List ByteArray) (w:World) (h:Rd w R base ws ns ps false) (hR:R<base) (hbw:base≤w.heap.size) (hw:ws.length≤1048576) (hns:ns.length≤1048576) (hps:ps.length≤1048576):
  Calls Tryz.prog 292 #[.pointer (some ⟨R,0,none⟩),.int .i32 45] w fun e w'=>e=.returned (.bool (endOk ns ps false (strOfNums ws)))∧Rd w' R base [] (endNs ns false (strOfNums ws)) (endPs ps false (strOfNums ws)) true∧Only R base w w':=by
 have HE:=ends_c R base ws ns ps false w h hR hbw hw hns hps
 obtain ⟨vw,vn,vp,hF,hWr,hNr,hPr⟩:=h
 obtain ⟨c0,c1,c2,c3⟩:=hF.cells
 clear hWr hNr hPr hF
 go_enter Tryz.func292,Tryz.ntmps292
 go_wp2_with fail
 go_at_call 293
 refine HE.mono ?_
 rintro e w1 ⟨rfl,⟨vw',vn',vp',F1,hW1,hN1,hP1⟩,o1⟩
 obtain ⟨d0,d1,d2,d3⟩:=F1.cells
 have g3:=F1.frozen 3
 go_wp2_with fail
 go_ret
 exact ⟨rfl,⟨_,_,_,(four_set F1 (.bool true)).2.2.2,owns_set hW1 (p:=⟨R,3,none⟩) hR _,owns_set hN1 (p:=⟨R,3,none⟩) hR _,owns_set hP1 (p:=⟨R,3,none⟩) hR _⟩,o1.trans (Only.set w1 3 _)⟩
theorem pre_range {c:Int} (h:preB c=true):45≤c∧c≤122:=by
 simp [preB,smallB,inB,digitB] at h;omega
theorem takes_sign (R base:Nat) (ws ns:List Int) (ps:List ByteArray) (inP:Bool) (c:Int) (w:World) (h:Rd w R base ws ns ps inP) (hR:R<base) (hbw:base≤w.heap.size) (hw:ws.length≤1048576) (hc1: ¬c=46) (hc2: ¬(c=45∧inP=false)) (hp:preB c=true):
    Calls Tryz.prog 292 #[.pointer (some ⟨R,0,none⟩),.int .i32 c] w fun e w'=>e=.returned (.bool true)∧Rd w' R base (ws++[c]) ns ps inP∧Only R base w w':=by
  obtain ⟨i0,hi,hz0,hz1,hz2⟩:=info_parts info5
  have hcr:=pre_range hp
  obtain ⟨hcl,hch⟩:=hcr
  obtain ⟨vw,vn,vp,hF,hWr,hNr,hPr⟩:=h
  obtain ⟨c0,c1,c2,c3⟩:=hF.cells
  have f0:=hF.frozen 0
  have hlR:=hF.lt
  have e1:(c == 46)=false:=by simpa using hc1
  have HC:Hid (∀ j u,(bytesV [c])[j]?=some u→(w.alloc (.cells #[.int .u8 c] 5)).cell? ((⟨w.heap.size,0,none⟩:Addr).add j)=some u):=cell_byte w c
  have hPA:=hPr.alloc (.cells #[.int .u8 c] 5)
  have hNA:=hNr.alloc (.cells #[.int .u8 c] 5)
  have hWA:=hWr.alloc (.cells #[.int .u8 c] 5)
  have FA:=four_old hF (.cells #[.int .u8 c] 5)
  have OA:Only R base w (w.alloc (.cells #[.int .u8 c] 5)):=Only.alloc _ hbw
  have hbA:base≤(w.alloc (.cells #[.int .u8 c] 5)).heap.size:=Nat.le_trans hbw OA.size
  have HP:Hid ((w.alloc (.cells #[.int .u8 c] 5)).ownsRow base 5 1 vw ws.length (bytesV ws)):=hWA
  obtain ⟨vna,vnn,vnc,rfl⟩: ∃ a n cap,vw=.slice a n cap:=by rcases hWr.2 with ⟨rfl,_⟩|⟨g,cap,cur,rfl,_⟩<;>exact ⟨_,_,_,rfl⟩
  have hwu:IntKind.u8.wrap c=c:=by simp [IntKind.wrap,IntKind.signed,IntKind.bits];omega
  clear hWr hNr hPr hF hWA
  have hfin: ∀ v2 w2,w2.ownsRow base 5 1 v2 (ws.length+1) (bytesV ws++bytesV [c])→(w.alloc (.cells #[.int .u8 c] 5)).grownBy w2 (Value.ownBlock (.slice vna vnn vnc))→Four w2 R 335 (.slice vna vnn vnc) vn vp (.bool inP)∧Rd (w2.setCell ⟨R,0,none⟩ v2) R base (ws++[c]) ns ps inP∧Only R base w (w2.setCell ⟨R,0,none⟩ v2):=fun v2 w2 o2 gr2=>by
    have hrow: ∀ k,Value.ownBlock (.slice vna vnn vnc)=some k→base≤k:=fun k hk=>(HP.out.lt k hk).1
    have F2:=FA.grown gr2 hR hrow
    have hP2:=hPA.kept gr2 (rows_apart HP.out hPA (by decide))
    have hN2:=hNA.kept gr2 (rows_apart HP.out hNA (by decide))
    rw [show bytesV ws++bytesV [c]=bytesV (ws++[c]) by simp [bytesV]] at o2
    refine ⟨F2,⟨_,_,_,(four_set F2 v2).1,by simpa using owns_set o2 (p:=⟨R,0,none⟩) hR v2,owns_set hN2 (p:=⟨R,0,none⟩) hR v2,owns_set hP2 (p:=⟨R,0,none⟩) hR v2⟩,(OA.trans (Only.grown gr2 hbA hrow)).trans (Only.set w2 0 v2)⟩
  have HF:Hid (∀ v2 w2,w2.ownsRow base 5 1 v2 (ws.length+1) (bytesV ws++bytesV [c])→(w.alloc (.cells #[.int .u8 c] 5)).grownBy w2 (Value.ownBlock (.slice vna vnn vnc))→Four w2 R 335 (.slice vna vnn vnc) vn vp (.bool inP)∧Rd (w2.setCell ⟨R,0,none⟩ v2) R base (ws++[c]) ns ps inP∧Only R base w (w2.setCell ⟨R,0,none⟩ v2)):=hfin
  clear hfin hPA hNA FA OA
  by_cases hd:c=45
  · have hin:inP=true:=by cases inP with|true=>rfl|false=>exact absurd ⟨hd,rfl⟩ hc2
    subst hin
    have e2:(c == 45)=true:=by simpa using hd
    clear hd hc2 hc1
    go_enter Tryz.func292,Tryz.ntmps292
    go_wp2_with (first
      | (go_at_call 282; refine (isPreSign_c _ _).mono ?_; rintro e w1 ⟨rfl, rfl⟩)
      | (at_builtin; refine wpList_append_own _ rfl _ _ 22 rfl base 5 i0 (.int .u8 0) 1 1 Tryz.underlying22 hi hz0 hz1 hz2 rfl (by decide) _ ws.length (bytesV ws) rfl HP.out ⟨w.heap.size, 0, none⟩ 1 1 (bytesV [c]) rfl rfl HC.out (fun u hu => by simp [bytesV] at hu; subst hu; rfl) (by unfold maxLen; omega) (by omega) hbA ?_))
    intro v2 w2 o2 gr2 _
    obtain ⟨F2,hRd,O2⟩:=HF.out v2 w2 o2 gr2
    obtain ⟨d0,d1,d2,d3⟩:=F2.cells
    have g0:=F2.frozen 0
    obtain ⟨q2,cap2,hv2⟩: ∃ q cap,v2=.slice q (ws.length+1) cap:=by
      rcases o2.2 with ⟨_,h⟩|⟨g,cap,cur,rfl,_⟩
      · omega
      · exact ⟨_,_,rfl⟩
    subst hv2
    clear o2 gr2 HF HP HC
    go_wp2_with fail
    go_ret
    exact ⟨rfl,hRd,O2⟩
  · have e2:(c == 45)=false:=by simpa using hd
    clear hd hc2 hc1
    go_enter Tryz.func292,Tryz.ntmps292
    go_wp2_with (first
      | (go_at_call 282; refine (isPreSign_c _ _).mono ?_; rintro e w1 ⟨rfl, rfl⟩)
      | (at_builtin; refine wpList_append_own _ rfl _ _ 22 rfl base 5 i0 (.int .u8 0) 1 1 Tryz.underlying22 hi hz0 hz1 hz2 rfl (by decide) _ ws.length (bytesV ws) rfl HP.out ⟨w.heap.size, 0, none⟩ 1 1 (bytesV [c]) rfl rfl HC.out (fun u hu => by simp [bytesV] at hu; subst hu; rfl) (by unfold maxLen; omega) (by omega) hbA ?_))
    intro v2 w2 o2 gr2 _
    obtain ⟨F2,hRd,O2⟩:=HF.out v2 w2 o2 gr2
    obtain ⟨d0,d1,d2,d3⟩:=F2.cells
    have g0:=F2.frozen 0
    obtain ⟨q2,cap2,hv2⟩: ∃ q cap,v2=.slice q (ws.length+1) cap:=by
      rcases o2.2 with ⟨_,h⟩|⟨g,cap,cur,rfl,_⟩
      · omega
      · exact ⟨_,_,rfl⟩
    subst hv2
    clear o2 gr2 HF HP HC
    go_wp2_with fail
    go_ret
    exact ⟨rfl,hRd,O2⟩
theorem takes_bad (R base:Nat) (ws ns:List Int) (ps:List ByteArray) (inP:Bool) (c:Int) (w:World) (h:Rd w R base ws ns ps inP) (hc1: ¬c=46) (hc2: ¬c=45) (hp:preB c=false):
  Calls Tryz.prog 292 #[.pointer (some ⟨R,0,none⟩),.int .i32 c] w fun e w'=>e=.returned (.bool false)∧w=w':=by
 have e1:(c == 46)=false:=by simpa using hc1
 have e2:(c == 45)=false:=by simpa using hc2
 clear hc1 hc2 h
 go_enter Tryz.func292,Tryz.ntmps292
 go_wp2_with (go_at_call 282;refine (isPreSign_c _ _).mono ?_;rintro e w1 ⟨rfl,rfl⟩)
 go_ret
 exact ⟨rfl,rfl⟩
end Go.Proofs.YtlfmefojcmpfeaaGreatDoor
