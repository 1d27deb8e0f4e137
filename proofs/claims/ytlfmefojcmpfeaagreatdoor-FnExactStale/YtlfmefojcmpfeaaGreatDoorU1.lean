/-
  Contracts for the walks and pure facts, several texts in one: each theorem says what it proves, and under which conditions.
-/
import Derived.Test.YtlfmefojcmpfeaaGreatDoorRows
import Derived.WalkKit
import Derived.WalkSpells
import Derived.WalkLawsBesides
import Derived.Lib.Strings
import Derived.Deep.LoopGhost
import Derived.Deep.QuietTactic
import Derived.BigQuiet
import Derived.WalkSmall
import Derived.Laws.BytesArg
import Derived.Deep.RegionWith
import Derived.Lib.IndexLaws
import Derived.Shelf.Strings.Builder1
import Derived.Shelf.Small.Utf8
import Derived.Shelf.Small.Strs
import Derived.Shelf.Small.Wraps
import Derived.Shelf.Strings.BuilderF
import Derived.Shelf.Strconv.Itoa0
import Derived.Shelf.Strconv.Itoa1
import Derived.Shelf.LaysM
import Derived.Shelf.Strconv.Itoa2
import Derived.Shelf.Strconv.Itoa3
import Derived.Shelf.Strconv.Clone
import Derived.Shelf.Strings.Search1
import Derived.Shelf.Strings.Search2
import Derived.Shelf.Strings.Search3
import Derived.Shelf.Strings.Cut
import Derived.Shelf.Strings.Count
import Derived.Shelf.Strings.Shaped
import Derived.Shelf.Strings.Prefix
import Derived.Shelf.Strings.Split
import Derived.Shelf.Strings.SplitShaped
import Derived.Shelf.Strings.Runes
import Derived.Shelf.Strings.AsciiSet
import Derived.Shelf.Unicode.DecodeSlow
import Derived.Shelf.Slices.Equal
import Derived.Test.YtlfmefojcmpfeaaGreatDoorProg
import Derived.Test.YtlfmefojcmpfeaaGreatDoorUT
set_option linter.unusedSimpArgs false
set_option linter.unusedVariables false
set_option maxHeartbeats 16000000
set_option maxRecDepth 100000
namespace Go.Proofs.YtlfmefojcmpfeaaGreatDoor
open Go.RowKit
def smallB (c:Int):Bool:=decide (97≤c)&&decide (c≤122)
def digitB (c:Int):Bool:=decide (48≤c)&&decide (c≤57)
def inB (x lo hi:Int):Bool:=decide (lo≤x)&&decide (x≤hi)
def allUpto (p:Nat→Int→Bool) (s:ByteArray):Nat→Bool
 |0=>true
 |k+1=>allUpto p s k&&p k ((s.data[k]!).toNat:Int)
theorem byteBang (s:ByteArray) (j:Nat) (hj:j<s.size):s.data[j]! =s[j]:=by
 rw [getElem!_pos s.data j (by simpa using hj)];rfl
theorem allUpto_cut (p:Nat→Int→Bool) (s:ByteArray) (k:Nat) (h:p k ((s.data[k]!).toNat:Int)=false):
  ∀ n,k<n→allUpto p s n=false
 |0,h0=>by omega
 |n+1,hk=>by
  unfold allUpto
  by_cases e:k=n
  ·subst e;simp [h]
  ·rw [allUpto_cut p s k h n (by omega)];rfl
theorem step_true {p:Nat→Int→Bool} {s:ByteArray} {k:Nat} (hk:k<s.size) (hh:Hid (allUpto p s k=true)) (h:p k ((s[k]).toNat:Int)=true):Hid (allUpto p s (k+1)=true):=by
 show _=_
 rw [allUpto,hh.out,byteBang s k hk,h];rfl
theorem end_false {p:Nat→Int→Bool} {s:ByteArray} {k:Nat} (hk:k<s.size) (h:p k ((s[k]).toNat:Int)=false):allUpto p s s.size=false:=
 allUpto_cut p s k (by rw [byteBang s k hk];exact h) _ hk
theorem in_c (x lo hi:Int) (w:World):
  Calls Tryz.prog 111 #[.int .i64 x,.int .i64 lo,.int .i64 hi] w fun e w'=>e=.returned (.bool (inB x lo hi))∧w=w':=by
 by_cases h:lo≤x
 ·by_cases h2:x≤hi
  ·have hb:inB x lo hi=true:=by simp [inB,h,h2]
   rw [hb]
   go_enter Tryz.func111,Tryz.ntmps111
   go_wp2
   go_ret
   exact ⟨by simp [h2],rfl⟩
  ·have hb:inB x lo hi=false:=by simp [inB,h2]
   rw [hb]
   go_enter Tryz.func111,Tryz.ntmps111
   go_wp2
   go_ret
   exact ⟨by simp [h2],rfl⟩
 ·have hb:inB x lo hi=false:=by simp [inB,h]
  rw [hb]
  go_enter Tryz.func111,Tryz.ntmps111
  go_wp2
  go_ret
  exact ⟨rfl,rfl⟩
theorem small_c (c:Int) (h0:0≤c) (h1:c≤255) (w:World):
  Calls Tryz.prog 173 #[.int .u8 c] w fun e w'=>e=.returned (.bool (smallB c))∧w=w':=by
 go_enter Tryz.func173,Tryz.ntmps173
 go_wp2_with (go_at_call 111;refine (in_c _ _ _ _).mono ?_;rintro e w' ⟨rfl,rfl⟩)
 go_ret
 exact ⟨rfl,rfl⟩
theorem digit_c (c:Int) (h0:0≤c) (h1:c≤255) (w:World):
  Calls Tryz.prog 174 #[.int .u8 c] w fun e w'=>e=.returned (.bool (digitB c))∧w=w':=by
 go_enter Tryz.func174,Tryz.ntmps174
 go_wp2_with (go_at_call 111;refine (in_c _ _ _ _).mono ?_;rintro e w' ⟨rfl,rfl⟩)
 go_ret
 exact ⟨rfl,rfl⟩
theorem isSmall_c (c:Int) (w:World):
  Calls Tryz.prog 237 #[.int .u8 c] w fun e w'=>e=.returned (.bool (smallB c))∧w=w':=by
 by_cases h:97≤c
 ·have hb:smallB c=decide (c≤122):=by simp [smallB,h]
  rw [hb]
  go_enter Tryz.func237,Tryz.ntmps237
  go_wp2
  go_ret
  exact ⟨rfl,rfl⟩
 ·have hb:smallB c=false:=by simp [smallB,h]
  rw [hb]
  go_enter Tryz.func237,Tryz.ntmps237
  go_wp2
  go_ret
  exact ⟨rfl,rfl⟩
theorem isDigit_c (c:Int) (w:World):
  Calls Tryz.prog 238 #[.int .u8 c] w fun e w'=>e=.returned (.bool (digitB c))∧w=w':=by
 by_cases h:48≤c
 ·have hb:digitB c=decide (c≤57):=by simp [digitB,h]
  rw [hb]
  go_enter Tryz.func238,Tryz.ntmps238
  go_wp2
  go_ret
  exact ⟨rfl,rfl⟩
 ·have hb:digitB c=false:=by simp [digitB,h]
  rw [hb]
  go_enter Tryz.func238,Tryz.ntmps238
  go_wp2
  go_ret
  exact ⟨rfl,rfl⟩
theorem byte0 (u:UInt8):(0:Int)≤(u.toNat:Int):=by omega
theorem wrap_byte (u:UInt8):wrap64 (u.toNat:Int)=(u.toNat:Int):=by
 have:=u.toNat_lt
 rw [wrap64];omega
theorem byte255 (u:UInt8):(u.toNat:Int)≤255:=by have:=u.toNat_lt;omega
def okName (k:Nat) (c:Int):Bool:=smallB c||(k != 0&&(digitB c||c == 45))
def nameB (s:ByteArray):Bool:=allUpto okName s s.size&&inB s.size 1 10
theorem specName_c (s:ByteArray) (hs:s.size≤maxLen) (w:World):
    Calls Tryz.prog 94 #[.string s] w fun e w'=>e=.returned (.bool (nameB s))∧w=w':=by
  unfold maxLen at hs
  go_enter Tryz.func94,Tryz.ntmps94
  go_wp2
  go_loop [3] (fun vi=>∃ k:Nat,k≤s.size∧vi=.int .i64 (k:Int)∧Hid (allUpto okName s k=true)) (fun vi=>s.size-(intOf vi).toNat)
  case atStart=>exact ⟨0,Nat.zero_le _,rfl,rfl⟩
  case round=>
    obtain ⟨k,hk,rfl,hh⟩:=hrel
    go_wp2_with (first
      | (go_at_call 173; refine (small_c _ (byte0 _) (byte255 _) _).mono ?_; rintro e w' ⟨rfl, rfl⟩)
      | (go_at_call 174; refine (digit_c _ (byte0 _) (byte255 _) _).mono ?_; rintro e w' ⟨rfl, rfl⟩)
      | (go_at_call 111; refine (in_c _ _ _ _).mono ?_; rintro e w' ⟨rfl, rfl⟩))
    · have hlt:k<s.size:=by assumption
      go_round
      case rel=>exact ⟨k+1,by omega,by go_num,step_true hlt hh (by simp [okName, *])⟩
      case measure=>simp [intOf];omega
    · have hlt:k<s.size:=by assumption
      have h0:k=0:=by assumption
      have h1: ¬smallB ((s[k]).toNat:Int)=true:=by assumption
      go_ret
      exact ⟨by rw [nameB,end_false hlt (by subst h0;simpa [okName] using h1)];rfl,rfl⟩
    · have hlt:k<s.size:=by assumption
      go_round
      case rel=>exact ⟨k+1,by omega,by go_num,step_true hlt hh (by simp [okName, *])⟩
      case measure=>simp [intOf];omega
    · have hlt:k<s.size:=by assumption
      have h0: ¬k=0:=by assumption
      have h1: ¬smallB ((s[k]).toNat:Int)=true:=by assumption
      have h2: ¬digitB ((s[k]).toNat:Int)=true:=by assumption
      have h3:((k:Int) == 0)=true∨(((s[k]).toNat:Int) != 45)=true:=by assumption
      have h4:(((s[k]).toNat:Int) == 45)=false:=by
        rcases h3 with h3|h3
        · simp at h3;omega
        · simpa using h3
      go_ret
      exact ⟨by rw [nameB,end_false hlt (by simp only [okName,h1,h2,h4];simp)];rfl,rfl⟩
    · have hlt:k<s.size:=by assumption
      have h0: ¬k=0:=by assumption
      have h3:((k:Int) == 0)=false∧(((s[k]).toNat:Int) != 45)=false:=by assumption
      have h4:(((s[k]).toNat:Int) == 45)=true:=by simpa using h3.2
      go_round
      case rel=>exact ⟨k+1,by omega,by go_num,step_true hlt hh (by simp only [okName,h4];simp [h0])⟩
      case measure=>simp [intOf];omega
    · have he:k=s.size:=by omega
      subst he
      go_ret
      exact ⟨by rw [nameB,hh.out];rfl,rfl⟩
theorem size_ne {s:ByteArray} (h: ¬s.size=0):((s.size:Int) == 0)=false:=by
 rw [beq_eq_false_iff_ne];omega
theorem nameB_out {s:ByteArray} (h:s.size=0∨10<s.size):nameB s=false:=by
 have:inB s.size 1 10=false:=by
  simp only [inB,Bool.and_eq_false_iff,decide_eq_false_iff_not]
  omega
 rw [nameB,this,Bool.and_false]
theorem nameB_first {s:ByteArray} (h0:0<s.size) (h:smallB ((s[0]).toNat:Int)=false):nameB s=false:=by
 rw [nameB,end_false h0 (by simp [okName,h])];rfl
theorem nameB_in {s:ByteArray} (h0:0<s.size) (h1:s.size≤10) (h:allUpto okName s s.size=true):nameB s=true:=by
 have:inB s.size 1 10=true:=by
  simp only [inB,Bool.and_eq_true,decide_eq_true_eq]
  omega
 rw [nameB,this,h];rfl
theorem implName_c (s:ByteArray) (hs:s.size≤maxLen) (w:World):
    Calls Tryz.prog 171 #[.string s] w fun e w'=>e=.returned (.bool (nameB s))∧w=w':=by
  unfold maxLen at hs
  by_cases h0:s.size=0
  · have e:=nameB_out (.inl h0)
    rw [e]
    have h0':((s.size:Int) == 0)=true:=by simp [h0]
    go_enter Tryz.func171,Tryz.ntmps171
    go_wp2
    go_ret
    exact ⟨rfl,rfl⟩
  by_cases h10:10<s.size
  · have e:=nameB_out (.inr h10)
    rw [e]
    have h0':((s.size:Int) == 0)=false:=size_ne h0
    have h10':(10:Int)<(s.size:Int):=by omega
    go_enter Tryz.func171,Tryz.ntmps171
    go_wp2
    go_ret
    exact ⟨rfl,rfl⟩
  have hp:0<s.size:=by omega
  have h0':((s.size:Int) == 0)=false:=size_ne h0
  have h10': ¬(10:Int)<(s.size:Int):=by omega
  cases hf:smallB ((s[0]).toNat:Int) with
  |false=>
    rw [nameB_first hp hf]
    go_enter Tryz.func171,Tryz.ntmps171
    go_wp2_with (first
      | (go_at_call 237; refine (isSmall_c _ _).mono ?_; rintro e w' ⟨rfl, rfl⟩)
      | (go_at_call 238; refine (isDigit_c _ _).mono ?_; rintro e w' ⟨rfl, rfl⟩))
    go_ret
    exact ⟨rfl,rfl⟩
  |true=>
    go_enter Tryz.func171,Tryz.ntmps171
    go_wp2_with (first
      | (go_at_call 237; refine (isSmall_c _ _).mono ?_; rintro e w' ⟨rfl, rfl⟩)
      | (go_at_call 238; refine (isDigit_c _ _).mono ?_; rintro e w' ⟨rfl, rfl⟩))
    go_loop [20] (fun vi=>∃ k:Nat,k≤s.size∧vi=.int .i64 (k:Int)∧Hid (allUpto okName s k=true)) (fun vi=>s.size-(intOf vi).toNat)
    case atStart=>exact ⟨0,Nat.zero_le _,rfl,rfl⟩
    case round=>
      obtain ⟨k,hk,rfl,hh⟩:=hrel
      go_wp2_with (first
        | (go_at_call 237; refine (isSmall_c _ _).mono ?_; rintro e w' ⟨rfl, rfl⟩)
        | (go_at_call 238; refine (isDigit_c _ _).mono ?_; rintro e w' ⟨rfl, rfl⟩))
      · have hlt:k<s.size:=by assumption
        go_round
        case rel=>exact ⟨k+1,by omega,by go_num,step_true hlt hh (by simp [okName, *])⟩
        case measure=>simp [intOf];omega
      · have hlt:k<s.size:=by assumption
        have h1: ¬smallB ((s[k]).toNat:Int)=true:=by assumption
        have h2:digitB ((s[k]).toNat:Int)=true:=by assumption
        have h3: ¬k=0:=fun e=>by subst e;exact h1 hf
        go_round
        case rel=>exact ⟨k+1,by omega,by go_num,step_true hlt hh (by simp [okName,h2,h3])⟩
        case measure=>simp [intOf];omega
      · have hlt:k<s.size:=by assumption
        have h1: ¬smallB ((s[k]).toNat:Int)=true:=by assumption
        have h2: ¬digitB ((s[k]).toNat:Int)=true:=by assumption
        have h3:(((s[k]).toNat:Int) != 45)=true:=by assumption
        have h4:(((s[k]).toNat:Int) == 45)=false:=by simpa using h3
        go_ret
        exact ⟨by rw [nameB,end_false hlt (by simp only [okName,h1,h2,h4];simp)];rfl,rfl⟩
      · have hlt:k<s.size:=by assumption
        have h1: ¬smallB ((s[k]).toNat:Int)=true:=by assumption
        have h2:(((s[k]).toNat:Int) != 45)=false:=by assumption
        have h3: ¬k=0:=fun e=>by subst e;exact h1 hf
        have h4:(((s[k]).toNat:Int) == 45)=true:=by simpa using h2
        go_round
        case rel=>exact ⟨k+1,by omega,by go_num,step_true hlt hh (by simp only [okName,h4];simp [h3])⟩
        case measure=>simp [intOf];omega
      · have he:k=s.size:=by omega
        subst he
        go_ret
        exact ⟨by rw [nameB_in hp (by omega) hh.out];rfl,rfl⟩
def Reads (w:World) (v:Value) (xs:List Value):Prop:=
 ∃ a cap,v=.slice a xs.length cap∧xs.length≤cap∧(xs=[]∨∃ b off,a=some ⟨b,off,none⟩∧b<w.heap.size∧∀ i (h:i<xs.length),w.cell? ⟨b,off+i,none⟩=some xs[i])
theorem Reads.below {w w':World} {v:Value} {xs:List Value} (h:Reads w v xs) (hb:Below w.heap.size w w'):Reads w' v xs:=by
 obtain ⟨a,cap,hv,hcp,h|⟨b,off,ha,hlt,hc⟩⟩:=h
 ·exact ⟨a,cap,hv,hcp,.inl h⟩
 ·exact ⟨a,cap,hv,hcp,.inr ⟨b,off,ha,Nat.lt_of_lt_of_le hlt hb.size,fun i hi=>by rw [hb.cell (p:=⟨b,off+i,none⟩) hlt];exact hc i hi⟩⟩
theorem below_of_grown {w w':World} (h:w.grownBy w' none):Below w.heap.size w w':=⟨h.os,h.tape,h.output,h.size,fun k hk=>h.block k hk (by simp)⟩
theorem grown_of_below {w w':World} (h:Below w.heap.size w w') (row:Option Nat):w.grownBy w' row:=⟨h.os,h.tape,h.output,h.size,fun k hk _=>h.block k hk⟩
theorem reads_of_owns {w:World} {base:Nat} {e:TypeId} {v:Value} {n:Nat} {xs:List Value} (h:w.ownsRow base e 1 v n xs):Reads w v xs:=by
 obtain ⟨hl,h⟩:=h
 rw [Nat.mul_one] at hl
 rcases h with ⟨rfl,hn⟩|⟨g,cap,cur,rfl,hb,hg,hn,hcap,hsz,htake⟩
 ·have:xs=[]:=List.eq_nil_of_length_eq_zero (by omega)
  subst this
  exact ⟨none,0,rfl,Nat.le_refl _,.inl rfl⟩
 ·refine ⟨some ⟨g,0,none⟩,cap,by rw [hl],by omega,.inr ⟨g,0,rfl,(Array.getElem?_eq_some_iff.1 hg).1,fun i hi=>?_⟩⟩
  rw [Nat.zero_add]
  have:=World.ownsRow.cellAt (w:=w) (base:=base) (e:=e) (size:=1) (g:=g) (n:=n) (cap:=cap) (xs:=xs) ⟨by omega,.inr ⟨g,cap,cur,rfl,hb,hg,hn,hcap,hsz,htake⟩⟩ i (by omega)
  rw [this]
  simp [hi]
theorem owns_of_below {w w':World} {base:Nat} {e:TypeId} {v:Value} {n:Nat} {xs:List Value} (h:w.ownsRow base e 1 v n xs) (hb:Below w.heap.size w w'):w'.ownsRow base e 1 v n xs:=
 h.kept (grown_of_below hb none) (by cases hv:v.ownBlock<;>simp)
theorem owns_empty {w:World} {base:Nat} {e:TypeId} {v:Value} {xs:List Value} (h:w.ownsRow base e 1 v 0 xs):w.ownsRow base e 1 v 0 []:=by
 have:xs=[]:=List.eq_nil_of_length_eq_zero (by simpa using h.1)
 subst this
 exact h
theorem info5 :(Tryz.prog.info? 5).map (fun i=>(i.zero,i.size,i.bytes))=some (some (.int .u8 0),1,1):=by kernel_rfl
theorem set_step {ys xs:List Value} {n k:Nat} {u:Value} (hk:k<n) (h:ys.length=n∧∀ j,j<k→ys[j]?=xs[j]?) (hu:xs[k]?=some u):
  Hid ((ys.set k u).length=n∧∀ j,j<k+1→(ys.set k u)[j]?=xs[j]?):=by
 refine ⟨by simp [h.1],fun j hj=>?_⟩
 rw [List.getElem?_set]
 by_cases e:k=j
 ·subst e;simp [h.1,hk,hu]
 ·rw [if_neg e];exact h.2 j (by omega)
theorem list_done {ys xs:List Value} {n:Nat} (h1:ys.length=n) (h2:xs.length=n) (h: ∀ j,j<n→ys[j]?=xs[j]?):ys=xs:=by
 apply List.ext_getElem?
 intro j
 by_cases hj:j<n
 ·exact h j hj
 ·rw [List.getElem?_eq_none (by omega),List.getElem?_eq_none (by omega)]
def bytesV (zs:List Int):List Value:=zs.map (Value.int .u8)
@[simp] theorem length_bytesV (zs:List Int):(bytesV zs).length=zs.length:=by simp [bytesV]
theorem below_drewN' {B:Nat} {a w:World} (h:Below B a w) (n:Nat):Below B a (w.drewN n):=h.trans ⟨rfl,rfl,rfl,Nat.le_refl _,fun _ _=>rfl⟩
def marksB (k:Int) (n:Nat):List Int:=(List.range n).map fun (j:Nat)=>(k+(j:Int)) % 256
@[simp] theorem length_marksB (k:Int) (n:Nat):(marksB k n).length=n:=by simp [marksB]
def markLoop :Nat→Nat→ByteArray→ByteArray
 |0,_,out=>out
 |f+1,k,out=>if k=0 then out else markLoop f (k / 10) (strOfNums [48+(k:Int) % 10]++out)
def markStr (k:Nat):ByteArray:=⟨#[109]⟩++markLoop k k ⟨#[]⟩
def strsV (ss:List ByteArray):List Value:=ss.map Value.string
@[simp] theorem length_strsV (ss:List ByteArray):(strsV ss).length=ss.length:=by simp [strsV]
theorem strsV_at (ss:List ByteArray) (j:Nat) (h:j<ss.length):(strsV ss)[j]?=some (.string ss[j]):=by simp [strsV,h]
theorem infoS :(Tryz.prog.info? 9).map (fun i=>(i.zero,i.size,i.bytes))=some (some (.string ⟨#[]⟩),1,16):=by kernel_rfl
theorem reads_strs {w:World} {v:Value} {ss:List ByteArray} (h:Reads w v (strsV ss)):
  ∃ a cap,v=.slice a ss.length cap∧ss.length≤cap∧(ss=[]∨∃ b off,a=some ⟨b,off,none⟩∧b<w.heap.size∧∀ k (h:k<ss.length),w.cell? ⟨b,off+k,none⟩=some (.string ss[k])):=by
 obtain ⟨a,cap,hv,hcp,hc⟩:=h
 rw [length_strsV] at hv hcp
 refine ⟨a,cap,hv,hcp,?_⟩
 rcases hc with hc|⟨b,off,rfl,hlt,hc⟩
 ·exact .inl (by simpa [strsV] using hc)
 ·refine .inr ⟨b,off,rfl,hlt,fun k hk=>?_⟩
  rw [hc k (by simpa using hk)]
  simp [strsV]
theorem toStrs_c (v:Value) (ss:List ByteArray) (w:World) (hr:Reads w v (strsV ss)) (hn:ss.length≤1099511627776):
    Calls Tryz.prog 208 #[v] w fun e w'=>∃ g,e=.returned (.slice (some ⟨g,0,none⟩) ss.length ss.length)∧w'.ownsRow w.heap.size 9 1 (.slice (some ⟨g,0,none⟩) ss.length ss.length) ss.length (strsV ss)∧Below w.heap.size w w':=by
  obtain ⟨a,cap,rfl,_,hc⟩:=reads_strs hr
  clear hr
  obtain ⟨i0,hi,hz0,hz1,hz2⟩:=info_parts infoS
  rcases hc with rfl|⟨b,off,rfl,hlt,hc⟩
  · go_enter Tryz.func208,Tryz.ntmps208
    go_wp2_with (first
      | (at_make; refine wpList_make_full _ rfl _ _ 28 rfl w.heap.size 9 i0 (.string ⟨#[]⟩) 1 Tryz.underlying28 hi hz0 hz1 _ _ _ _ 0 rfl rfl rfl rfl (by omega) (by unfold maxLen; omega) (Nat.le_refl _) ?_))
    intro w1 hown hgrow
    have hb1:=below_of_grown hgrow
    go_wp2
    go_loopw [4] (fun vi wr=>vi=.int .i64 0∧wr=w1) (fun _ _=>0)
    case atStart=>exact ⟨rfl,rfl⟩
    case round=>
      obtain ⟨rfl,rfl⟩:=hrel
      go_wp2
      go_ret
      exact ⟨_,rfl,owns_empty hown,hb1⟩
  · go_enter Tryz.func208,Tryz.ntmps208
    go_wp2_with (first
      | (at_make; refine wpList_make_full _ rfl _ _ 28 rfl w.heap.size 9 i0 (.string ⟨#[]⟩) 1 Tryz.underlying28 hi hz0 hz1 _ _ _ _ ss.length rfl rfl rfl rfl (by rw [hz2]; omega) (by unfold maxLen; omega) (Nat.le_refl _) ?_))
    intro w1 hown hgrow
    have hb1:=below_of_grown hgrow
    obtain ⟨ys1,hl1,hown1⟩: ∃ ys,ys.length=ss.length∧w1.ownsRow w.heap.size 9 1 (.slice (some ⟨w.heap.size,0,none⟩) ss.length ss.length) ss.length ys:=⟨_,by simpa using hown.1,hown⟩
    clear hgrow hown
    go_wp2
    go_loopw [4] (fun vi wr=>∃ (k:Nat) (ys:List Value),k≤ss.length∧vi=.int .i64 (k:Int)∧wr.ownsRow w.heap.size 9 1 (.slice (some ⟨w.heap.size,0,none⟩) ss.length ss.length) ss.length ys∧Hid (ys.length=ss.length∧∀ j,j<k→ys[j]?=(strsV ss)[j]?)∧Below w.heap.size w wr) (fun vi _=>ss.length-(intOf vi).toNat)
    case atStart=>exact ⟨0,ys1,Nat.zero_le _,rfl,hown1,⟨hl1,fun j hj=>by omega⟩,hb1⟩
    case round=>
      obtain ⟨k,ys,hk,rfl,hownr,hy,hbr⟩:=hrel
      by_cases hlt':k<ss.length
      · have hcx:wr.cell? ⟨b,off+k,none⟩=some (.string ss[k]):=(hbr.cell (p:=⟨b,off+k,none⟩) hlt).trans (hc k hlt')
        have hcy:wr.cell? ⟨w.heap.size,k,none⟩=some (ys.getD k undef):=by
          rw [hownr.cellAt k (by omega)];simp [List.getD_eq_getElem?_getD,hy.out.1,hlt']
        have hfr:=hownr.frozenAt k
        have hat:=strsV_at ss k hlt'
        obtain ⟨t,ht⟩: ∃ t,t=ss[k]:=⟨_,rfl⟩
        rw [←ht] at hcx hat
        have HA:Hid ((strsV ss)[k]?=some (.string t)):=hat
        have hki:(k:Int)<(ss.length:Int):=by omega
        clear hc hown1 hb1 hi hz0 hz1 hz2 hl1 ht hat
        go_wp2
        go_roundw
        case rel=>exact ⟨k+1,ys.set k (.string t),by omega,by go_num,(hownr.stored k _).1,set_step hlt' hy.out HA.out,hbr.setCell (Nat.le_refl _) _⟩
        case measure=>simp [intOf];omega
      · have he:k=ss.length:=by omega
        subst he
        clear hc hown1 hb1 hi hz0 hz1 hz2 hl1
        go_wp2
        go_ret
        refine ⟨_,rfl,?_,hbr⟩
        have e:ys=strsV ss:=list_done hy.out.1 (by simp) hy.out.2
        rw [←e]
        exact hownr
theorem bytes_eq_of_toList {a b:ByteArray} (h:a.toList=b.toList):a=b:=by
 rw [ByteArray.toList_eq,ByteArray.toList_eq] at h
 exact ByteArray.ext (Array.toList_inj.1 h)
theorem strs_done {ss ts:List ByteArray} (hl:ss.length=ts.length) (h: ∀ j (h1:j<ss.length) (h2:j<ts.length),ss[j]=ts[j]):ss=ts:=List.ext_getElem hl h
theorem eqStrs_c (v u:Value) (ss ts:List ByteArray) (w:World) (hv:Reads w v (strsV ss)) (hu:Reads w u (strsV ts)) (hn:ss.length≤1099511627776):
    Calls Tryz.prog 210 #[v,u] w fun e w'=>e=.returned (.bool (decide (ss=ts)))∧Below w.heap.size w w':=by
  obtain ⟨a,cap,rfl,_,hc⟩:=reads_strs hv
  obtain ⟨a2,cap2,rfl,_,hc2⟩:=reads_strs hu
  clear hv hu
  by_cases hl:ss.length=ts.length
  · rcases hc with rfl|⟨b,off,rfl,hlt,hc⟩
    · have:ts=[]:=List.eq_nil_of_length_eq_zero (by simpa using hl.symm)
      subst this
      go_enter Tryz.func210,Tryz.ntmps210
      go_wp2
      go_loopw [5] (fun vi wr=>vi=.int .i64 0∧wr=w) (fun _ _=>0)
      case atStart=>exact ⟨rfl,rfl⟩
      case round=>
        obtain ⟨rfl,rfl⟩:=hrel
        go_wp2
        go_ret
        exact ⟨rfl,Below.refl _ _⟩
    rcases hc2 with rfl|⟨b2,off2,rfl,hlt2,hc2⟩
    · have:ss=[]:=List.eq_nil_of_length_eq_zero (by simpa using hl)
      subst this
      go_enter Tryz.func210,Tryz.ntmps210
      go_wp2
      go_loopw [5] (fun vi wr=>vi=.int .i64 0∧wr=w) (fun _ _=>0)
      case atStart=>exact ⟨rfl,rfl⟩
      case round=>
        obtain ⟨rfl,rfl⟩:=hrel
        go_wp2
        go_ret
        exact ⟨rfl,Below.refl _ _⟩
    · have HL:Hid (ss.length=ts.length):=hl
      have hc2': ∀ k (h:k<ts.length),w.cell? ⟨b2,off2+k,none⟩=some (.string ts[k]):=hc2
      have HC2:Hid (∀ k (h:k<ts.length),w.cell? ⟨b2,off2+k,none⟩=some (.string ts[k])):=hc2'
      rw [←hl]
      clear hl hc2 hc2'
      go_enter Tryz.func210,Tryz.ntmps210
      go_wp2
      go_loopw [5] (fun vi wr=>∃ k:Nat,k≤ss.length∧vi=.int .i64 (k:Int)∧Hid (∀ j (h1:j<ss.length) (h2:j<ts.length),j<k→ss[j]=ts[j])∧Below w.heap.size w wr) (fun vi _=>ss.length-(intOf vi).toNat)
      case atStart=>exact ⟨0,Nat.zero_le _,rfl,fun j h1 h2 hj=>by omega,Below.refl _ _⟩
      case round=>
        obtain ⟨k,hk,rfl,hy,hbr⟩:=hrel
        by_cases hlt':k<ss.length
        · have hlt2':k<ts.length:=by have:=HL.out;omega
          have hcx:wr.cell? ⟨b,off+k,none⟩=some (.string ss[k]):=(hbr.cell (p:=⟨b,off+k,none⟩) hlt).trans (hc k hlt')
          have hcy:wr.cell? ⟨b2,off2+k,none⟩=some (.string ts[k]):=(hbr.cell (p:=⟨b2,off2+k,none⟩) hlt2).trans (HC2.out k hlt2')
          obtain ⟨x,hx⟩: ∃ x,x=ss[k]:=⟨_,rfl⟩
          obtain ⟨y,hy'⟩: ∃ y,y=ts[k]:=⟨_,rfl⟩
          rw [←hx] at hcx
          rw [←hy'] at hcy
          have HX:Hid (x=ss[k]):=hx
          have HY:Hid (y=ts[k]):=hy'
          have hki:(k:Int)<(ss.length:Int):=by omega
          clear hc hx hy'
          go_wp2
          go_quiet (fail)
          go_wp2
          · have hne:(!x.toList == y.toList)=true:=by assumption
            have hne': ¬ss=ts:=fun e=>by
              have e1:=HX.out;have e2:=HY.out;subst e;rw [←e2] at e1;subst e1;simp at hne
            go_ret
            exact ⟨by simp [hne'],below_drewN' hbr _⟩
          · have he:(!x.toList == y.toList)=false:=by assumption
            have he':x=y:=bytes_eq_of_toList (by simpa using he)
            go_roundw
            case rel => exact ⟨k + 1, by omega, by go_num, fun j h1 h2 hj => (by
              by_cases e : j = k
              · subst e; rw [← HX.out, ← HY.out]; exact he'
              · exact hy.out j h1 h2 (by omega)), below_drewN' hbr _⟩
            case measure=>simp [intOf];omega
        · clear hc
          have he:k=ss.length:=by omega
          subst he
          have e:ss=ts:=strs_done HL.out (fun j h1 h2=>hy.out j h1 h2 h1)
          go_wp2
          go_ret
          exact ⟨by simp [e],hbr⟩
  · have hne: ¬ss=ts:=fun e=>hl (by rw [e])
    have hl':((ss.length:Int) != (ts.length:Int))=true:=by simp;omega
    rw [decide_eq_false hne]
    clear hc hc2
    go_enter Tryz.func210,Tryz.ntmps210
    go_wp2
    go_ret
    exact ⟨rfl,Below.refl _ _⟩
def marksS (k n:Nat):List ByteArray:=(List.range n).map fun j=>markStr (k+j)
@[simp] theorem length_marksS (k n:Nat):(marksS k n).length=n:=by simp [marksS]
def bulkS (ss:List ByteArray):Nat:=ss.length+(ss.map ByteArray.size).sum
theorem sum_take_succ (ss:List ByteArray) (k:Nat) (h:k<ss.length):((ss.take (k+1)).map ByteArray.size).sum=((ss.take k).map ByteArray.size).sum+ss[k].size:=by
 rw [List.take_succ_eq_append_getElem h,List.map_append,List.sum_append]
 simp
theorem sum_take_le (ss:List ByteArray) (k:Nat):((ss.take k).map ByteArray.size).sum≤(ss.map ByteArray.size).sum:=by
 have h:(ss.map ByteArray.size).sum=((ss.take k).map ByteArray.size).sum+((ss.drop k).map ByteArray.size).sum:=by
  rw [←List.sum_append, ←List.map_append,List.take_append_drop]
 omega
def leftS (ss:List ByteArray) (left:Int):Int:=if (bulkS ss:Int)≤left then left-(bulkS ss:Int) else-1
def headB (s p:ByteArray):Bool:=decide (p.size≤s.size)&&(s.extract 0 p.size).toList == p.toList
theorem hasPrefix_c (s p:ByteArray) (hs:s.size≤1099511627776) (hp:p.size≤1099511627776) (w:World):
  Calls Tryz.prog 331 #[.string s,.string p] w fun e w'=>e=.returned (.bool (headB s p))∧w=w':=by
 by_cases h:p.size≤s.size
 ·have e:headB s p=((s.extract 0 p.size).toList == p.toList):=by simp [headB,h]
  rw [e]
  clear e
  have h':(p.size:Int)≤(s.size:Int):=by omega
  go_enter Tryz.func331,Tryz.ntmps331
  go_wp2
  go_ret
  exact ⟨rfl,rfl⟩
 ·have e:headB s p=false:=by simp [headB,h]
  rw [e]
  clear e
  have h': ¬(p.size:Int)≤(s.size:Int):=by omega
  go_enter Tryz.func331,Tryz.ntmps331
  go_wp2
  go_ret
  exact ⟨rfl,rfl⟩
def cutRest (s p:ByteArray):ByteArray:=if headB s p then s.extract p.size s.size else s
theorem headB_le {s p:ByteArray} (h:headB s p=true):p.size≤s.size:=by
 simp [headB] at h
 exact h.1
theorem cutPrefixLite_c (s p:ByteArray) (hs:s.size≤1099511627776) (hp:p.size≤1099511627776) (w:World):
  Calls Tryz.prog 324 #[.string s,.string p] w fun e w'=>e=.returned (.tuple #[.string (cutRest s p),.bool (headB s p)])∧w=w':=by
 have HC:Hid (∀ w1,Calls Tryz.prog 331 #[.string s,.string p] w1 fun e w'=>e=.returned (.bool (headB s p))∧w1=w'):=fun w1=>hasPrefix_c s p hs hp w1
 have hle:= @headB_le s p
 have HR:Hid (cutRest s p=if headB s p then s.extract p.size s.size else s):=rfl
 obtain ⟨r,hr⟩: ∃ r,r=headB s p:=⟨_,rfl⟩
 obtain ⟨t,ht⟩: ∃ t,t=cutRest s p:=⟨_,rfl⟩
 rw [←hr] at HC HR hle
 rw [←ht] at HR
 rw [←hr, ←ht]
 clear hr ht
 cases r with
 |true=>
  have hl:(p.size:Int)≤(s.size:Int):=by have:=hle rfl;omega
  have e:t=s.extract p.size s.size:=HR.out
  subst e
  clear HR hle
  go_enter Tryz.func324,Tryz.ntmps324
  go_wp2_with (go_at_call 331;refine (HC.out _).mono ?_;rintro e w1 ⟨rfl,rfl⟩)
  go_ret2
  exact ⟨rfl,rfl⟩
 |false=>
  have e:t=s:=HR.out
  subst e
  clear HR hle
  go_enter Tryz.func324,Tryz.ntmps324
  go_wp2_with (go_at_call 331;refine (HC.out _).mono ?_;rintro e w1 ⟨rfl,rfl⟩)
  go_ret2
  exact ⟨rfl,rfl⟩
theorem cutPrefix_c (s p:ByteArray) (hs:s.size≤1099511627776) (hp:p.size≤1099511627776) (w:World):
  Calls Tryz.prog 300 #[.string s,.string p] w fun e w'=>e=.returned (.tuple #[.string (cutRest s p),.bool (headB s p)])∧w=w':=by
 have HC:Hid (∀ w1,Calls Tryz.prog 324 #[.string s,.string p] w1 fun e w'=>e=.returned (.tuple #[.string (cutRest s p),.bool (headB s p)])∧w1=w'):=fun w1=>cutPrefixLite_c s p hs hp w1
 go_enter Tryz.func300,Tryz.ntmps300
 go_wp2_with (go_at_call 324;refine (HC.out _).mono ?_;rintro e w1 ⟨rfl,rfl⟩)
 go_ret2
 exact ⟨rfl,rfl⟩
def signsT :List ByteArray:=[⟨#[61]⟩,⟨#[60]⟩,⟨#[60,61]⟩,⟨#[62]⟩,⟨#[62,61]⟩,⟨#[126]⟩,⟨#[94]⟩]
theorem signsT_small : ∀ k (h:k<signsT.length),signsT[k].size≤2:=by decide+kernel
def signGo (s:ByteArray):Nat→Int × ByteArray
 |0=>(0,s)
 |n+1=>if headB s (signsT.getD n ⟨#[]⟩) then ((n:Int),cutRest s (signsT.getD n ⟨#[]⟩)) else signGo s n
def signOf (s:ByteArray):Int:=(signGo s 7).1
def signRest (s:ByteArray):ByteArray:=(signGo s 7).2
theorem cutSign_c (s:ByteArray) (hs:s.size≤1048576) (w:World) (hsg: ∀ k (h:k<signsT.length),w.cell? ⟨1,k,none⟩=some (.string signsT[k])):
  Calls Tryz.prog 273 #[.string s] w fun e w'=>e=.returned (.tuple #[.int .i64 (signOf s),.string (signRest s)])∧w=w':=by
 have HC:Hid (∀ p:ByteArray,p.size≤2→∀ w1,Calls Tryz.prog 300 #[.string s,.string p] w1 fun e w'=>e=.returned (.tuple #[.string (cutRest s p),.bool (headB s p)])∧w1=w'):=fun p hp w1=>cutPrefix_c s p (by omega) (by omega) w1
 have HG:Hid (∀ k (h:k<signsT.length),w.cell? ⟨1,k,none⟩=some (.string signsT[k])):=hsg
 clear hsg
 go_enter Tryz.func273,Tryz.ntmps273
 go_wp2_with fail
 go_loop [4] (fun vi=>∃ n:Nat,n≤7∧vi=.int .i64 ((n:Int)-1)∧Hid (signGo s n=signGo s 7)) (fun vi=>(intOf vi+1).toNat)
 case atStart=>exact ⟨7,by omega,by simp,rfl⟩
 case round=>
  obtain ⟨n,hn,rfl,hh⟩:=hrel
  by_cases h0:n=0
  ·subst h0
   have e1:Hid (signOf s=0):=by show _=_;rw [signOf, ←hh.out];rfl
   have e2:Hid (signRest s=s):=by show _=_;rw [signRest, ←hh.out];rfl
   clear hh
   go_wp2_with fail
   go_ret2
   exact ⟨by rw [e1.out,e2.out];rfl,rfl⟩
  ·obtain ⟨m,rfl⟩: ∃ m,n=m+1:=⟨n-1,by omega⟩
   have hm:m<signsT.length:=by simp [signsT];omega
   have hcx:=HG.out m hm
   have hsz:=signsT_small m hm
   have hgd:signsT.getD m ⟨#[]⟩=signsT[m]:=by simp [List.getD_eq_getElem?_getD,hm]
   obtain ⟨p,hp⟩: ∃ p,p=signsT[m]:=⟨_,rfl⟩
   rw [←hp] at hcx hsz hgd
   have hst:signGo s (m+1)=if headB s p then ((m:Int),cutRest s p) else signGo s m:=by rw [signGo,hgd]
   have HS:Hid (signGo s 7=if headB s p then ((m:Int),cutRest s p) else signGo s m):=hh.out.symm.trans hst
   have HC2:=HC.out p hsz
   obtain ⟨r,hr⟩: ∃ r,r=headB s p:=⟨_,rfl⟩
   rw [←hr] at HS
   have HC3:Hid (∀ w1,Calls Tryz.prog 300 #[.string s,.string p] w1 fun e w'=>e=.returned (.tuple #[.string (cutRest s p),.bool r])∧w1=w'):=fun w1=>by rw [hr];exact HC2 w1
   have hmm:((m+1:Nat):Int)-1=(m:Int):=by omega
   have hm7:(m:Int)<7:=by omega
   rw [hmm]
   clear HC2 hr hst hgd hp hh hmm hm h0
   cases r with
   |true=>
    have e1:Hid (signOf s=(m:Int)):=by show _=_;rw [signOf,HS.out];rfl
    have e2:Hid (signRest s=cutRest s p):=by show _=_;rw [signRest,HS.out];rfl
    clear HS
    go_wp2_with (go_at_call 300;refine (HC3.out _).mono ?_;rintro e w1 ⟨rfl,rfl⟩)
    go_ret2
    exact ⟨by rw [e1.out,e2.out];rfl,rfl⟩
   |false=>
    have e3:Hid (signGo s m=signGo s 7):=by show _=_;rw [HS.out];rfl
    clear HS
    go_wp2_with (go_at_call 300;refine (HC3.out _).mono ?_;rintro e w1 ⟨rfl,rfl⟩)
    go_round
    case rel=>exact ⟨m,by omega,rfl,e3⟩
    case measure=>simp [intOf]
def splitGo (s:ByteArray) (c:Int):Nat→Nat→Nat→List ByteArray
 |0,_,b=>[s.extract b s.size]
 |f+1,i,b=>if ((s.data[i]!).toNat:Int)=c then s.extract b i::splitGo s c f (i+1) (i+1) else splitGo s c f (i+1) b
def splitS (s:ByteArray) (c:Int):List ByteArray:=splitGo s c s.size 0 0
theorem splitGo_hit (s:ByteArray) (c:Int) (i b:Nat) (hi:i<s.size) (h:((s.data[i]!).toNat:Int)=c):splitGo s c (s.size-i) i b=s.extract b i::splitGo s c (s.size-(i+1)) (i+1) (i+1):=by
 obtain ⟨f,hf⟩: ∃ f,s.size-i=f+1:=⟨s.size-i-1,by omega⟩
 rw [hf,splitGo,if_pos h,show s.size-(i+1)=f by omega]
theorem splitGo_miss (s:ByteArray) (c:Int) (i b:Nat) (hi:i<s.size) (h: ¬((s.data[i]!).toNat:Int)=c):splitGo s c (s.size-i) i b=splitGo s c (s.size-(i+1)) (i+1) b:=by
 obtain ⟨f,hf⟩: ∃ f,s.size-i=f+1:=⟨s.size-i-1,by omega⟩
 rw [hf,splitGo,if_neg h,show s.size-(i+1)=f by omega]
theorem splitGo_end (s:ByteArray) (c:Int) (b:Nat):splitGo s c (s.size-s.size) s.size b=[s.extract b s.size]:=by
 rw [Nat.sub_self,splitGo]
theorem strs_append (xs ys:List ByteArray):strsV xs++strsV ys=strsV (xs++ys):=by simp [strsV]
theorem specSplit_c (s:ByteArray) (c:Int) (w:World) (hs:s.size≤1048576):
  Calls Tryz.prog 127 #[.string s,.int .u8 c] w fun e w'=>∃ v,e=.returned v∧w'.ownsRow w.heap.size 9 1 v (splitS s c).length (strsV (splitS s c))∧Below w.heap.size w w':=by
 obtain ⟨i0,hi,hz0,hz1,hz2⟩:=info_parts infoS
 have ho:(w.alloc (.cells #[] 9)).ownsRow w.heap.size 9 1 (.slice (some ⟨w.heap.size,0,none⟩) 0 0) 0 []:=World.ownsRow_lit w #[] 0 (Nat.le_refl _) (by unfold maxLen;omega) rfl
 go_enter Tryz.func127,Tryz.ntmps127
 go_wp2
 go_loopw [5,6,7] (fun vo vb vi wr=>∃ (i b:Nat) (xs:List ByteArray),vi=.int .i64 (i:Int)∧vb=.int .i64 (b:Int)∧i≤s.size+1∧b≤i∧xs.length≤i∧wr.ownsRow w.heap.size 9 1 vo xs.length (strsV xs)∧Hid ((i≤s.size∧xs++splitGo s c (s.size-i) i b=splitS s c)∨(i=s.size+1∧xs=splitS s c))∧Below w.heap.size w wr) (fun _ _ vi _=>s.size+1-(intOf vi).toNat)
 case atStart=>exact ⟨0,0,[],rfl,rfl,by omega,by omega,by simp,ho,.inl ⟨by omega,rfl⟩,(Below.refl _ _).alloc (Nat.le_refl _) _⟩
 case round=>
  obtain ⟨i,b,xs,rfl,rfl,hi1,hbi,hxl,hown,hh,hbr⟩:=hrel
  clear ho
  by_cases hle:i≤s.size
  ·have hh1:xs++splitGo s c (s.size-i) i b=splitS s c:=by
    rcases hh.out with h|h
    ·exact h.2
    ·omega
   have HH:Hid (xs++splitGo s c (s.size-i) i b=splitS s c):=hh1
   have hlei:(i:Int)≤(s.size:Int):=by omega
   clear hh hh1
   by_cases heq:i=s.size
   ·subst heq
    have heq':((s.size:Int) == (s.size:Int))=true:=by simp
    go_wp2_with (at_builtin;refine wpList_append_own _ rfl _ _ 28 rfl w.heap.size 9 i0 (.string ⟨#[]⟩) 1 16 Tryz.underlying28 hi hz0 hz1 hz2 rfl (by decide) _ xs.length (strsV xs) rfl (hown.alloc _) ⟨wr.heap.size,0,none⟩ 1 1 (strsV [s.extract b s.size]) rfl rfl (cell_one_new _ _ _) (fun u hu=>by simp [strsV] at hu;subst hu;rfl) (by unfold maxLen;omega) (by omega) (by have:=hbr.size;simp;omega) ?_)
    intro v2 w2 o2 gr2 _
    rw [strs_append] at o2
    have hb2:Below w.heap.size w w2:=Below.grown (hbr.alloc hbr.size _) gr2 (by have:=hbr.size;simp;omega) (fun j hj=>(hown.lt _ hj).1)
    have HT:Hid (xs++[s.extract b s.size]=splitS s c):=by have:=HH.out;rw [splitGo_end] at this;exact this
    have hl2:(xs++[s.extract b s.size]).length=xs.length+1:=by simp
    rw [←hl2] at o2
    clear gr2 hown hbr hl2
    go_wp2
    go_roundw
    case rel=>exact ⟨s.size+1,s.size+1,_,by go_num,by go_num,by omega,by omega,(by simp;omega),o2,.inr ⟨rfl,HT.out⟩,hb2⟩
    case measure=>simp [intOf]
   ·have hlt:i<s.size:=by omega
    have heq':((i:Int) == (s.size:Int))=false:=by rw [beq_eq_false_iff_ne];omega
    have hbang:=byteBang s i hlt
    cases hc:(((s[i]).toNat:Int) == c) with
    |true=>
     have HT:Hid ((xs++[s.extract b i])++splitGo s c (s.size-(i+1)) (i+1) (i+1)=splitS s c):=by
      have:=HH.out
      rw [splitGo_hit s c i b hlt (by rw [hbang];simpa using hc)] at this
      show _=_
      rw [List.append_assoc];exact this
     clear hbang
     go_wp2_with (at_builtin;refine wpList_append_own _ rfl _ _ 28 rfl w.heap.size 9 i0 (.string ⟨#[]⟩) 1 16 Tryz.underlying28 hi hz0 hz1 hz2 rfl (by decide) _ xs.length (strsV xs) rfl (hown.alloc _) ⟨wr.heap.size,0,none⟩ 1 1 (strsV [s.extract b i]) rfl rfl (cell_one_new _ _ _) (fun u hu=>by simp [strsV] at hu;subst hu;rfl) (by unfold maxLen;omega) (by omega) (by have:=hbr.size;simp;omega) ?_)
     intro v2 w2 o2 gr2 _
     rw [strs_append] at o2
     have hb2:Below w.heap.size w w2:=Below.grown (hbr.alloc hbr.size _) gr2 (by have:=hbr.size;simp;omega) (fun j hj=>(hown.lt _ hj).1)
     have hl2:(xs++[s.extract b i]).length=xs.length+1:=by simp
     rw [←hl2] at o2
     clear gr2 hown hbr hl2
     go_wp2
     go_roundw
     case rel=>exact ⟨i+1,i+1,_,by go_num,by go_num,by omega,by omega,(by simp;omega),o2,.inl ⟨by omega,HT.out⟩,hb2⟩
     case measure=>simp [intOf];omega
    |false=>
     have HT:Hid (xs++splitGo s c (s.size-(i+1)) (i+1) b=splitS s c):=by
      have:=HH.out
      rw [splitGo_miss s c i b hlt (by rw [hbang];simpa using hc)] at this
      exact this
     clear hbang
     go_wp2
     go_roundw
     case rel=>exact ⟨i+1,b,xs,by go_num,rfl,by omega,by omega,by omega,hown,.inl ⟨by omega,HT.out⟩,hbr⟩
     case measure=>simp [intOf];omega
  ·have hlei: ¬(i:Int)≤(s.size:Int):=by omega
   have e:xs=splitS s c:=by
    rcases hh.out with h|h
    ·omega
    ·exact h.2
   go_wp2
   go_ret
   rw [←e]
   exact ⟨_,rfl,hown,hbr⟩
end Go.Proofs.YtlfmefojcmpfeaaGreatDoor
namespace Go.Proofs
open Go.Shelf
def Tryz.lays137_ren :Go.Shelf.Ren:=⟨fun|137=>272|217=>299|266=>323|n=>n,fun|9=>9|5=>5|3=>3|n=>n,fun|n=>n⟩
theorem Tryz.lays137 : Go.Proofs.Lays.n137 Tryz.prog Tryz.lays137_ren := {
  mixed := by kernel_rfl
  f137 := Tryz.func272.trans (congrArg some (by kernel_rfl))
  f217 := Tryz.func299.trans (congrArg some (by kernel_rfl))
  f266 := Tryz.func323.trans (congrArg some (by kernel_rfl))
  t3 := Tryz.underlying3
  a3 := Tryz.isAgg3
  z3 := Tryz.sizeOf3
  v3 := Tryz.zeroValue3
  t5 := Tryz.underlying5
  a5 := Tryz.isAgg5
  z5 := Tryz.sizeOf5
  v5 := Tryz.zeroValue5
  t9 := Tryz.underlying9
  a9 := Tryz.isAgg9
  z9 := Tryz.sizeOf9
  v9 := Tryz.zeroValue9 }
open Go.RowKit in
theorem Tryz.strings_IndexByte (s:ByteArray) (c:Int) (w:World):
  Calls Tryz.prog 272 #[.string s,.int .u8 c] w fun e w'=>e=.returned (.int .i64 (Lib.indexByte s.data.toList c.toNat.toUInt8))∧w'=w:=Any.strings_IndexByte Tryz.lays137 s c w
def Tryz.laysM316_ren :Go.Shelf.Ren:=⟨fun|316=>186|n=>n,fun|9=>9|3=>3|4=>4|37=>22|0=>0|127=>232|5=>5|n=>n,fun|n=>n⟩
theorem Tryz.laysM316 : Go.Proofs.LaysM.n316 Tryz.prog Tryz.laysM316_ren := {
  mixed := by kernel_rfl
  f316 := Tryz.func186.trans (congrArg some (by kernel_rfl))
  t0 := Tryz.underlying0
  a0 := Tryz.isAgg0
  z0 := Tryz.sizeOf0
  v0 := Tryz.zeroValue0
  t3 := Tryz.underlying3
  a3 := Tryz.isAgg3
  z3 := Tryz.sizeOf3
  v3 := Tryz.zeroValue3
  t4 := Tryz.underlying4
  a4 := Tryz.isAgg4
  z4 := Tryz.sizeOf4
  v4 := Tryz.zeroValue4
  t9 := Tryz.underlying9
  a9 := Tryz.isAgg9
  z9 := Tryz.sizeOf9
  v9 := Tryz.zeroValue9
  t37 := Tryz.underlying22
  a37 := Tryz.isAgg22
  z37 := Tryz.sizeOf22
  v37 := Tryz.zeroValue22
  t127 := Tryz.underlying232
  a127 := Tryz.isAgg232
  z127 := Tryz.sizeOf232
  v127 := Tryz.zeroValue232
  t5 := Tryz.underlying5
  a5 := Tryz.isAgg5
  z5 := Tryz.sizeOf5
  v5 := Tryz.zeroValue5
  i0 := by kernel_rfl
  i3 := by kernel_rfl
  i4 := by kernel_rfl
  i5 := by kernel_rfl
  i9 := by kernel_rfl
  i37 := by kernel_rfl
  i127 := by kernel_rfl }
open Go.RowKit in
theorem Tryz.stringslite_Clone (s:ByteArray) (w:World) (hlim:s.size≤281474976710656):
  Calls Tryz.prog 186 #[.string s] w fun e w'=>e=.returned (.string s)∧Below w.heap.size w w':=Any.stringslite_Clone Tryz.laysM316 s w hlim
end Go.Proofs
