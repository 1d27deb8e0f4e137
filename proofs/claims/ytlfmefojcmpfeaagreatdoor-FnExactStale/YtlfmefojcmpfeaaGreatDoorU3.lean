/-
  Contracts for the walks and pure facts, several texts in one: each theorem says what it proves, and under which conditions.
-/
import Derived.Lib.OthersKept
import Derived.Laws.RangeAny
import Derived.Test.YtlfmefojcmpfeaaGreatDoorUT
import Derived.Test.YtlfmefojcmpfeaaGreatDoorU1
set_option linter.unusedSimpArgs false
set_option linter.unusedVariables false
set_option maxHeartbeats 16000000
set_option maxRecDepth 100000
namespace Go.Proofs.YtlfmefojcmpfeaaGreatDoor
open Go.RowKit
def numUpto (s:ByteArray):Nat→Int
 |0=>0
 |k+1=>numUpto s k*10+(((s.data[k]!).toNat:Int)-48)
def okDigit (_:Nat) (c:Int):Bool:=digitB c
theorem digit_bounds {c:Int} (h:digitB c=true):48≤c∧c≤57:=by
 simpa [digitB] using h
theorem numUpto_bounds (s:ByteArray): ∀ k,allUpto okDigit s k=true→0≤numUpto s k∧numUpto s k<(10:Int) ^ k
 |0,_=>by simp [numUpto]
 |k+1,h=>by
  rw [allUpto,Bool.and_eq_true] at h
  have ih:=numUpto_bounds s k h.1
  have hd:=digit_bounds (c:=((s.data[k]!).toNat:Int)) h.2
  rw [numUpto,Int.pow_succ]
  omega
theorem numUpto_step {s:ByteArray} {k:Nat} (hk:k<s.size):numUpto s (k+1)=numUpto s k*10+(((s[k]).toNat:Int)-48):=by
 rw [numUpto,byteBang s k hk]
theorem num_small {s:ByteArray} {k:Nat} (h:allUpto okDigit s k=true) (h8:k≤8):0≤numUpto s k∧numUpto s k<100000000:=by
 have hb:=numUpto_bounds s k h
 have:(10:Int) ^ k≤10 ^ 8:=by
  have:(10:Nat) ^ k≤10 ^ 8:=Nat.pow_le_pow_right (by decide) h8
  exact_mod_cast this
 omega
def numGood (s:ByteArray) (most:Int):Bool:=
 inB s.size 1 7&&allUpto okDigit s s.size&& !(decide (1<s.size)&&((s.data[0]!).toNat:Int) == 48)&&decide (numUpto s s.size≤most)
def numOut (s:ByteArray) (most:Int):Int:=if numGood s most then numUpto s s.size else 0
theorem numOut_bad {s:ByteArray} {most:Int} (h:numGood s most=false):numOut s most=0:=by simp [numOut,h]
theorem numOut_good {s:ByteArray} {most:Int} (h:numGood s most=true):numOut s most=numUpto s s.size:=by simp [numOut,h]
theorem bad_digit {s:ByteArray} {most:Int} {k:Nat} (hk:k<s.size) (h:digitB ((s[k]).toNat:Int)=false):numGood s most=false:=by
 rw [numGood,end_false (p:=okDigit) hk h];simp
theorem bad_size {s:ByteArray} {most:Int} (h:inB s.size 1 7=false):numGood s most=false:=by
 rw [numGood,h];simp
theorem bad_nought {s:ByteArray} {most:Int} (h1:1<s.size) (h:(((s[0]).toNat:Int) == 48)=true):numGood s most=false:=by
 rw [numGood,byteBang s 0 (by omega),h,decide_eq_true h1];simp
theorem bad_most {s:ByteArray} {most:Int} (h:most<numUpto s s.size):numGood s most=false:=by
 rw [numGood,decide_eq_false (p:=numUpto s s.size≤most) (by omega)];simp
theorem good_all {s:ByteArray} {most:Int} (h1:inB s.size 1 7=true) (h2:allUpto okDigit s s.size=true) (h3: ∀ h:1<s.size,(((s[0]).toNat:Int) == 48)=false) (h4:numUpto s s.size≤most):numGood s most=true:=by
 rw [numGood,h1,h2,decide_eq_true h4]
 by_cases h:1<s.size
 ·rw [byteBang s 0 (by omega),h3 h];simp
 ·simp [h]
theorem in17 {s:ByteArray} (h:inB s.size 1 7=true):1≤s.size∧s.size≤7:=by
 simp only [inB,Bool.and_eq_true,decide_eq_true_eq] at h
 omega
theorem out17 {s:ByteArray} (h: ¬inB s.size 1 7=true):inB s.size 1 7=false:=by simpa using h
theorem pair_bad {s:ByteArray} {most:Int} (h:numGood s most=false):Ending.returned (.tuple #[.int .i64 0,.bool false])=Ending.returned (.tuple #[.int .i64 (numOut s most),.bool (numGood s most)]):=by
 rw [numOut_bad h,h]
theorem pair_good {s:ByteArray} {most n:Int} (h:numGood s most=true) (hn:n=numUpto s s.size):Ending.returned (.tuple #[.int .i64 n,.bool true])=Ending.returned (.tuple #[.int .i64 (numOut s most),.bool (numGood s most)]):=by
 rw [numOut_good h,h,hn]
theorem specNum_c (s:ByteArray) (most:Int) (hs:s.size≤maxLen) (w:World):
    Calls Tryz.prog 200 #[.string s,.int .i64 most] w fun e w'=>e=.returned (.tuple #[.int .i64 (numOut s most),.bool (numGood s most)])∧w=w':=by
  unfold maxLen at hs
  go_enter Tryz.func200,Tryz.ntmps200
  go_wp2
  go_loop [6,7] (fun vn vi=>∃ (k:Nat) (n:Int),k≤s.size∧k≤8∧vi=.int .i64 (k:Int)∧vn=.int .i64 n∧0≤n∧n<100000000∧Hid (n=numUpto s k)∧Hid (allUpto okDigit s k=true)) (fun _ vi=>s.size-(intOf vi).toNat)
  case atStart=>exact ⟨0,0,Nat.zero_le _,by omega,rfl,rfl,by omega,by omega,rfl,rfl⟩
  case round=>
    obtain ⟨k,n,hk,hk8,rfl,rfl,hn0,hn1,hn,hh⟩:=hrel
    go_wp2_with (first
      | (go_at_call 174; refine (digit_c _ (byte0 _) (byte255 _) _).mono ?_; rintro e w' ⟨rfl, rfl⟩)
      | (go_at_call 111; refine (in_c _ _ _ _).mono ?_; rintro e w' ⟨rfl, rfl⟩))
    · have hlt:k<s.size:=by assumption
      have h1:(!digitB ((s[k]).toNat:Int))=true:=by assumption
      go_ret2
      exact ⟨pair_bad (bad_digit hlt (by simpa using h1)),rfl⟩
    · have hlt:k<s.size:=by assumption
      have h8:(k:Int)<8:=by assumption
      have h1:(!digitB ((s[k]).toNat:Int))=false:=by assumption
      have h2:digitB ((s[k]).toNat:Int)=true:=by simpa using h1
      have hd:=digit_bounds h2
      have hh':=step_true (p:=okDigit) hlt hh h2
      have hb:=num_small hh'.out (by omega)
      have e:n*10+(((s[k]).toNat:Int)-48) % 256=numUpto s (k+1):=by
        rw [numUpto_step hlt, ←hn.out];omega
      go_round
      case rel=>exact ⟨k+1,numUpto s (k+1),by omega,by omega,by go_num,by rw [e],hb.1,hb.2,rfl,hh'⟩
      case measure=>simp [intOf];omega
    · exfalso;have:=in17 (s:=s) (by assumption);omega
    · exfalso;have:=in17 (s:=s) (by assumption);omega
    · exfalso;have:=in17 (s:=s) (by assumption);omega
    · have h1: ¬inB (s.size:Int) 1 7=true:=by assumption
      go_ret2
      exact ⟨pair_bad (bad_size (out17 h1)),rfl⟩
    · have h1:(1:Int)<(s.size:Int):=by assumption
      have h2:((s[0]).toNat:Int)=48:=by assumption
      go_ret2
      exact ⟨pair_bad (bad_nought (by omega) (by rw [h2];rfl)),rfl⟩
    · have he:k=s.size:=by omega
      subst he
      have h1:(((s[0]).toNat:Int) == 48)=true∨most<n:=by assumption
      have h2: ¬((s[0]).toNat:Int)=48:=by assumption
      have h3:most<n:=by
        rcases h1 with h1|h1
        · exact absurd (by simpa using h1) h2
        · exact h1
      go_ret2
      exact ⟨pair_bad (bad_most (by rw [←hn.out];exact h3)),rfl⟩
    · have he:k=s.size:=by omega
      subst he
      have h0:inB (s.size:Int) 1 7=true:=by assumption
      have h1:(((s[0]).toNat:Int) == 48)=false∧n≤most:=by assumption
      go_ret2
      exact ⟨pair_good (good_all h0 hh.out (fun _=>h1.1) (by rw [←hn.out];exact h1.2)) hn.out,rfl⟩
    · have he:k=s.size:=by omega
      subst he
      have h3:most<n:=by assumption
      go_ret2
      exact ⟨pair_bad (bad_most (by rw [←hn.out];exact h3)),rfl⟩
    · have he:k=s.size:=by omega
      subst he
      have h0:inB (s.size:Int) 1 7=true:=by assumption
      have h1:n≤most:=by assumption
      have h2:(s.size:Int)≤1:=by assumption
      go_ret2
      exact ⟨pair_good (good_all h0 hh.out (fun h=>by omega) (by rw [←hn.out];exact h1)) hn.out,rfl⟩
    · have h1: ¬inB (s.size:Int) 1 7=true:=by assumption
      go_ret2
      exact ⟨pair_bad (bad_size (out17 h1)),rfl⟩
theorem in_false {s:ByteArray} (h:s.size=0∨7<s.size):inB s.size 1 7=false:=by
 simp only [inB,Bool.and_eq_false_iff,decide_eq_false_iff_not]
 omega
theorem in_true {s:ByteArray} (h0:0<s.size) (h:s.size≤7):inB s.size 1 7=true:=by
 simp only [inB,Bool.and_eq_true,decide_eq_true_eq]
 omega
theorem implNum_c (s:ByteArray) (most:Int) (hs:s.size≤maxLen) (w:World):
  Calls Tryz.prog 301 #[.string s,.int .i64 most] w fun e w'=>e=.returned (.tuple #[.int .i64 (numOut s most),.bool (numGood s most)])∧w=w':=by
 unfold maxLen at hs
 by_cases h0:s.size=0
 ·rw [←pair_bad (bad_size (in_false (.inl h0)))]
  have h0':((s.size:Int) == 0)=true:=by simp [h0]
  go_enter Tryz.func301,Tryz.ntmps301
  go_wp2
  go_ret2
  exact ⟨rfl,rfl⟩
 have h0':((s.size:Int) == 0)=false:=size_ne h0
 by_cases h7:7<s.size
 ·rw [←pair_bad (bad_size (in_false (.inr h7)))]
  have h7':(7:Int)<(s.size:Int):=by omega
  go_enter Tryz.func301,Tryz.ntmps301
  go_wp2
  go_ret2
  exact ⟨rfl,rfl⟩
 have hp:0<s.size:=by omega
 have h7': ¬(7:Int)<(s.size:Int):=by omega
 by_cases hz:1<s.size∧(((s[0]).toNat:Int) == 48)=true
 ·rw [←pair_bad (bad_nought hz.1 hz.2)]
  have hz1:(1:Int)<(s.size:Int):=by omega
  have hz2:=hz.2
  clear hz
  go_enter Tryz.func301,Tryz.ntmps301
  go_wp2
  go_ret2
  exact ⟨rfl,rfl⟩
 have hz3: ∀ h:1<s.size,(((s[0]).toNat:Int) == 48)=false:=fun h=>by
  cases e:(((s[0]).toNat:Int) == 48) with
  |false=>rfl
  |true=>exact absurd ⟨h,e⟩ hz
 have HZ:Hid (∀ h:1<s.size,(((s[0]).toNat:Int) == 48)=false):=hz3
 have hg:(((s[0]).toNat:Int) == 48)=true→¬(1:Int)<(s.size:Int):=fun h h1=>hz ⟨by omega,h⟩
 clear hz hz3
 have hin:=in_true hp (by omega)
 have main: ∀ w,Calls Tryz.prog 301 #[.string s,.int .i64 most] w fun e w'=>e=.returned (.tuple #[.int .i64 (numOut s most),.bool (numGood s most)])∧w=w':=by
  intro w
  cases hc:(((s[0]).toNat:Int) == 48) with
  |true=>
   have hg1:=hg hc
   clear hg
   go_enter Tryz.func301,Tryz.ntmps301
   go_wp2
   go_loop [6,28] (fun vn vi=>∃ (k:Nat) (n:Int),k≤s.size∧vi=.int .i64 (k:Int)∧vn=.int .i64 n∧0≤n∧n<100000000∧Hid (n=numUpto s k)∧Hid (allUpto okDigit s k=true)) (fun _ vi=>s.size-(intOf vi).toNat)
   case atStart=>exact ⟨0,0,Nat.zero_le _,rfl,rfl,by omega,by omega,rfl,rfl⟩
   case round=>
    obtain ⟨k,n,hk,rfl,rfl,hn0,hn1,hn,hh⟩:=hrel
    go_wp2_with (go_at_call 238;refine (isDigit_c _ _).mono ?_;rintro e w' ⟨rfl,rfl⟩)
    ·have hlt:k<s.size:=by assumption
     have h1:(!digitB ((s[k]).toNat:Int))=true:=by assumption
     go_ret2
     exact ⟨pair_bad (bad_digit hlt (by simpa using h1)),rfl⟩
    ·have hlt:k<s.size:=by assumption
     have h1:(!digitB ((s[k]).toNat:Int))=false:=by assumption
     have h2:digitB ((s[k]).toNat:Int)=true:=by simpa using h1
     have hd:=digit_bounds h2
     have hh':=step_true (p:=okDigit) hlt hh h2
     have hb:=num_small hh'.out (by omega)
     have e:n*10+(((s[k]).toNat:Int)-48) % 256=numUpto s (k+1):=by
      rw [numUpto_step hlt, ←hn.out];omega
     go_round
     case rel=>exact ⟨k+1,numUpto s (k+1),by omega,by go_num,by rw [e],hb.1,hb.2,rfl,hh'⟩
     case measure=>simp [intOf];omega
    ·have he:k=s.size:=by omega
     subst he
     have h3:most<n:=by assumption
     go_ret2
     exact ⟨pair_bad (bad_most (by rw [←hn.out];exact h3)),rfl⟩
    ·have he:k=s.size:=by omega
     subst he
     have h3:n≤most:=by omega
     go_ret2
     exact ⟨pair_good (good_all hin hh.out HZ.out (by rw [←hn.out];exact h3)) hn.out,rfl⟩
  |false=>
   clear hg
   go_enter Tryz.func301,Tryz.ntmps301
   go_wp2
   go_loop [6,28] (fun vn vi=>∃ (k:Nat) (n:Int),k≤s.size∧vi=.int .i64 (k:Int)∧vn=.int .i64 n∧0≤n∧n<100000000∧Hid (n=numUpto s k)∧Hid (allUpto okDigit s k=true)) (fun _ vi=>s.size-(intOf vi).toNat)
   case atStart=>exact ⟨0,0,Nat.zero_le _,rfl,rfl,by omega,by omega,rfl,rfl⟩
   case round=>
    obtain ⟨k,n,hk,rfl,rfl,hn0,hn1,hn,hh⟩:=hrel
    go_wp2_with (go_at_call 238;refine (isDigit_c _ _).mono ?_;rintro e w' ⟨rfl,rfl⟩)
    ·have hlt:k<s.size:=by assumption
     have h1:(!digitB ((s[k]).toNat:Int))=true:=by assumption
     go_ret2
     exact ⟨pair_bad (bad_digit hlt (by simpa using h1)),rfl⟩
    ·have hlt:k<s.size:=by assumption
     have h1:(!digitB ((s[k]).toNat:Int))=false:=by assumption
     have h2:digitB ((s[k]).toNat:Int)=true:=by simpa using h1
     have hd:=digit_bounds h2
     have hh':=step_true (p:=okDigit) hlt hh h2
     have hb:=num_small hh'.out (by omega)
     have e:n*10+(((s[k]).toNat:Int)-48) % 256=numUpto s (k+1):=by
      rw [numUpto_step hlt, ←hn.out];omega
     go_round
     case rel=>exact ⟨k+1,numUpto s (k+1),by omega,by go_num,by rw [e],hb.1,hb.2,rfl,hh'⟩
     case measure=>simp [intOf];omega
    ·have he:k=s.size:=by omega
     subst he
     have h3:most<n:=by assumption
     go_ret2
     exact ⟨pair_bad (bad_most (by rw [←hn.out];exact h3)),rfl⟩
    ·have he:k=s.size:=by omega
     subst he
     have h3:n≤most:=by omega
     go_ret2
     exact ⟨pair_good (good_all hin hh.out HZ.out (by rw [←hn.out];exact h3)) hn.out,rfl⟩
 exact main w
def preB (c:Int):Bool:=smallB c||inB c 65 90||digitB c||c == 45
def okPre (_:Nat) (c:Int):Bool:=preB c
def digitsB (s:ByteArray):Bool:=allUpto okDigit s s.size
def firstB (s:ByteArray):Bool:=((s.data[0]!).toNat:Int) == 48
def partB (s:ByteArray):Bool:=allUpto okPre s s.size&&inB s.size 1 8&&(!digitsB s||decide (s.size=1)|| !firstB s)
theorem ret_bool {a b:Bool} (h:a=b):Ending.returned (.bool a)=.returned (.bool b):=by rw [h]
theorem isPreSign_c (c:Int) (w:World):
  Calls Tryz.prog 282 #[.int .i32 c] w fun e w'=>e=.returned (.bool (preB c))∧w=w':=by
 go_enter Tryz.func282,Tryz.ntmps282
 go_wp2
 all_goals (go_ret;refine ⟨ret_bool ?_,rfl⟩)
 all_goals (rw [Bool.eq_iff_iff];simp [preB,smallB,inB,digitB];try omega)
theorem specDigits_c (s:ByteArray) (hs:s.size≤maxLen) (w:World):
  Calls Tryz.prog 241 #[.string s] w fun e w'=>e=.returned (.bool (digitsB s))∧w=w':=by
 unfold maxLen at hs
 go_enter Tryz.func241,Tryz.ntmps241
 go_wp2
 go_loop [3] (fun vi=>∃ k:Nat,k≤s.size∧vi=.int .i64 (k:Int)∧Hid (allUpto okDigit s k=true)) (fun vi=>s.size-(intOf vi).toNat)
 case atStart=>exact ⟨0,Nat.zero_le _,rfl,rfl⟩
 case round=>
  obtain ⟨k,hk,rfl,hh⟩:=hrel
  go_wp2_with (go_at_call 174;refine (digit_c _ (byte0 _) (byte255 _) _).mono ?_;rintro e w' ⟨rfl,rfl⟩)
  ·have hlt:k<s.size:=by assumption
   have h1:(!digitB ((s[k]).toNat:Int))=true:=by assumption
   go_ret
   exact ⟨by rw [digitsB,end_false hlt (by simpa [okDigit] using h1)];rfl,rfl⟩
  ·have hlt:k<s.size:=by assumption
   have h1:(!digitB ((s[k]).toNat:Int))=false:=by assumption
   go_round
   case rel=>exact ⟨k+1,by omega,by go_num,step_true hlt hh (by simpa [okDigit] using h1)⟩
   case measure=>simp [intOf];omega
  ·have he:k=s.size:=by omega
   subst he
   go_ret
   exact ⟨by rw [digitsB,hh.out];rfl,rfl⟩
theorem implDigits_c (s:ByteArray) (hs:s.size≤maxLen) (w:World):
  Calls Tryz.prog 215 #[.string s] w fun e w'=>e=.returned (.bool (digitsB s))∧w=w':=by
 unfold maxLen at hs
 go_enter Tryz.func215,Tryz.ntmps215
 go_wp2
 go_loop [6] (fun vi=>∃ k:Nat,k≤s.size∧vi=.int .i64 (k:Int)∧Hid (allUpto okDigit s k=true)) (fun vi=>s.size-(intOf vi).toNat)
 case atStart=>exact ⟨0,Nat.zero_le _,rfl,rfl⟩
 case round=>
  obtain ⟨k,hk,rfl,hh⟩:=hrel
  go_wp2_with (go_at_call 238;refine (isDigit_c _ _).mono ?_;rintro e w' ⟨rfl,rfl⟩)
  ·have hlt:k<s.size:=by assumption
   have h1:(!digitB ((s[k]).toNat:Int))=true:=by assumption
   go_ret
   exact ⟨by rw [digitsB,end_false hlt (by simpa [okDigit] using h1)];rfl,rfl⟩
  ·have hlt:k<s.size:=by assumption
   have h1:(!digitB ((s[k]).toNat:Int))=false:=by assumption
   go_round
   case rel=>exact ⟨k+1,by omega,by go_num,step_true hlt hh (by simpa [okDigit] using h1)⟩
   case measure=>simp [intOf];omega
  ·have he:k=s.size:=by omega
   subst he
   go_ret
   exact ⟨by rw [digitsB,hh.out];rfl,rfl⟩
theorem pre_high {c:Int} (h:128≤c):preB c=false:=by
 rw [Bool.eq_false_iff];simp [preB,smallB,inB,digitB];omega
theorem partB_out {s:ByteArray} (h:s.size=0∨8<s.size):partB s=false:=by
 have:inB s.size 1 8=false:=by
  simp only [inB,Bool.and_eq_false_iff,decide_eq_false_iff_not]
  omega
 rw [partB,this,Bool.and_false,Bool.false_and]
theorem partB_bad {s:ByteArray} (h:allUpto okPre s s.size=false):partB s=false:=by rw [partB,h];rfl
theorem partB_in {s:ByteArray} (h0:0<s.size) (h1:s.size≤8) (h:allUpto okPre s s.size=true):partB s=(!digitsB s||decide (s.size=1)|| !firstB s):=by
 have:inB s.size 1 8=true:=by
  simp only [inB,Bool.and_eq_true,decide_eq_true_eq]
  omega
 rw [partB,this,h];rfl
theorem firstB_eq {s:ByteArray} (h0:0<s.size):firstB s=(((s[0]).toNat:Int) == 48):=by rw [firstB,byteBang s 0 h0]
theorem pre_1 {c:Int} (k:Nat) (h:digitB c=true):okPre k c=true:=by simp [okPre,preB,h]
theorem pre_2 {c:Int} (k:Nat) (h:smallB c=true):okPre k c=true:=by simp [okPre,preB,h]
theorem pre_3 {c:Int} (k:Nat) (h:inB c 65 90=true):okPre k c=true:=by simp [okPre,preB,h]
theorem pre_4 {c:Int} (k:Nat) (h:(c != 45)=false):okPre k c=true:=by
 have:(c == 45)=true:=by simpa using h
 simp only [okPre,preB,this,Bool.or_true]
theorem pre_none {c:Int} (k:Nat) (h1: ¬digitB c=true) (h2: ¬smallB c=true) (h3: ¬inB c 65 90=true) (h4:(c != 45)=true):okPre k c=false:=by
 have h5:(c == 45)=false:=by simpa using h4
 simp only [okPre,preB,h1,h2,h3,h5];rfl
theorem specPart_c (s:ByteArray) (hs:s.size≤maxLen) (w:World):
    Calls Tryz.prog 175 #[.string s] w fun e w'=>e=.returned (.bool (partB s))∧w=w':=by
  have hs0:=hs
  unfold maxLen at hs
  go_enter Tryz.func175,Tryz.ntmps175
  go_wp2
  go_loop [3] (fun vi=>∃ k:Nat,k≤s.size∧vi=.int .i64 (k:Int)∧Hid (allUpto okPre s k=true)) (fun vi=>s.size-(intOf vi).toNat)
  case atStart=>exact ⟨0,Nat.zero_le _,rfl,rfl⟩
  case round=>
    obtain ⟨k,hk,rfl,hh⟩:=hrel
    by_cases hlt:k<s.size
    · have hwb:=wrap_byte s[k]
      go_wp2_with (first
        | (go_at_call 173; refine (small_c _ (byte0 _) (byte255 _) _).mono ?_; rintro e w' ⟨rfl, rfl⟩)
        | (go_at_call 174; refine (digit_c _ (byte0 _) (byte255 _) _).mono ?_; rintro e w' ⟨rfl, rfl⟩)
        | (go_at_call 111; refine (in_c _ _ _ _).mono ?_; rintro e w' ⟨rfl, rfl⟩))
      · have h1:digitB ((s[k]).toNat:Int)=true:=by assumption
        go_round
        case rel=>exact ⟨k+1,by omega,by go_num,step_true hlt hh (pre_1 _ h1)⟩
        case measure=>simp [intOf];omega
      · have h1:smallB ((s[k]).toNat:Int)=true:=by assumption
        go_round
        case rel=>exact ⟨k+1,by omega,by go_num,step_true hlt hh (pre_2 _ h1)⟩
        case measure=>simp [intOf];omega
      · have h1:inB ((s[k]).toNat:Int) 65 90=true:=by assumption
        go_round
        case rel=>exact ⟨k+1,by omega,by go_num,step_true hlt hh (pre_3 _ h1)⟩
        case measure=>simp [intOf];omega
      · have h1: ¬digitB ((s[k]).toNat:Int)=true:=by assumption
        have h2: ¬smallB ((s[k]).toNat:Int)=true:=by assumption
        have h3: ¬inB ((s[k]).toNat:Int) 65 90=true:=by assumption
        have h4:(((s[k]).toNat:Int) != 45)=true:=by assumption
        go_ret
        exact ⟨ret_bool (partB_bad (end_false hlt (pre_none _ h1 h2 h3 h4))).symm,rfl⟩
      · have h1:(((s[k]).toNat:Int) != 45)=false:=by assumption
        go_round
        case rel=>exact ⟨k+1,by omega,by go_num,step_true hlt hh (pre_4 _ h1)⟩
        case measure=>simp [intOf];omega
    · have he:k=s.size:=by omega
      subst he
      have HA:Hid (allUpto okPre s s.size=true):=hh
      clear hh
      by_cases h0:s.size=0
      · have e1:inB (s.size:Int) 1 8=false:=by simp [inB];omega
        go_wp2_with (go_at_call 111;refine (in_c _ _ _ _).mono ?_;rintro e w' ⟨rfl,rfl⟩)
        go_ret
        exact ⟨ret_bool (partB_out (.inl h0)).symm,rfl⟩
      · have hp:0<s.size:=by omega
        have hpi:(0:Int)<(s.size:Int):=by omega
        have HF:Hid (firstB s=(((s[0]).toNat:Int) == 48)):=firstB_eq hp
        by_cases h8:8<s.size
        · have e1:inB (s.size:Int) 1 8=false:=by simp [inB];omega
          go_wp2_with (go_at_call 111;refine (in_c _ _ _ _).mono ?_;rintro e w' ⟨rfl,rfl⟩)
          go_ret
          exact ⟨ret_bool (partB_out (.inr h8)).symm,rfl⟩
        · have e1:inB (s.size:Int) 1 8=true:=by simp [inB];omega
          cases hd:digitsB s with
          |false=>
            go_wp2_with (first
              | (go_at_call 111; refine (in_c _ _ _ _).mono ?_; rintro e w' ⟨rfl, rfl⟩)
              | (go_at_call 241; refine (specDigits_c s hs0 _).mono ?_; rintro e w' ⟨rfl, rfl⟩))
            go_ret
            exact ⟨ret_bool (by rw [partB_in hp (by omega) HA.out,hd];rfl),rfl⟩
          |true=>
            by_cases h1:s.size=1
            · have h1':((s.size:Int) == 1)=true:=by simp [h1]
              go_wp2_with (first
                | (go_at_call 111; refine (in_c _ _ _ _).mono ?_; rintro e w' ⟨rfl, rfl⟩)
                | (go_at_call 241; refine (specDigits_c s hs0 _).mono ?_; rintro e w' ⟨rfl, rfl⟩))
              go_ret
              exact ⟨ret_bool (by rw [partB_in hp (by omega) HA.out,hd];simp [h1]),rfl⟩
            · have h1':((s.size:Int) == 1)=false:=by rw [beq_eq_false_iff_ne];omega
              go_wp2_with (first
                | (go_at_call 111; refine (in_c _ _ _ _).mono ?_; rintro e w' ⟨rfl, rfl⟩)
                | (go_at_call 241; refine (specDigits_c s hs0 _).mono ?_; rintro e w' ⟨rfl, rfl⟩))
              go_ret
              exact ⟨ret_bool (by rw [partB_in hp (by omega) HA.out,hd,HF.out];simp [h1,bne]),rfl⟩
theorem iterPos_of {w:World} {k:Nat} {s:ByteArray} {p:Nat} (h:w.heap[k]?=some (.stringIter s p)):w.iterPos k=p:=by simp [World.iterPos,h]
theorem rune_high (s:ByteArray) (pos:Nat) (h:pos<s.size) (ha:128≤(s[pos]).toNat):preB ((Utf8.decode s pos).1:Int)=false:=pre_high (by have:=(decode_high s pos h ha).1;omega)
theorem byte_high (s:ByteArray) (pos:Nat) (h:pos<s.size) (ha:128≤(s[pos]).toNat):preB ((s[pos]).toNat:Int)=false:=pre_high (by omega)
theorem implPart_c (s:ByteArray) (hs:s.size≤maxLen) (w:World):
  Calls Tryz.prog 232 #[.string s] w fun e w'=>e=.returned (.bool (partB s))∧Below w.heap.size w w':=by
 have hs0:=hs
 unfold maxLen at hs
 by_cases h0:s.size=0
 ·have h0':((s.size:Int) == 0)=true:=by simp [h0]
  go_enter Tryz.func232,Tryz.ntmps232
  go_wp2
  go_ret
  exact ⟨ret_bool (partB_out (.inl h0)).symm,Below.refl _ _⟩
 have h0':((s.size:Int) == 0)=false:=size_ne h0
 by_cases h8:8<s.size
 ·have h8':(8:Int)<(s.size:Int):=by omega
  go_enter Tryz.func232,Tryz.ntmps232
  go_wp2
  go_ret
  exact ⟨ret_bool (partB_out (.inr h8)).symm,Below.refl _ _⟩
 have h8': ¬(8:Int)<(s.size:Int):=by omega
 have hp0:0<s.size:=by omega
 have hpi:(0:Int)<(s.size:Int):=by omega
 have HF:Hid (firstB s=(((s[0]).toNat:Int) == 48)):=firstB_eq hp0
 go_enter Tryz.func232,Tryz.ntmps232
 go_wp2
 go_loopw [4] (fun _ wr=>∃ pos:Nat,pos≤s.size∧wr.heap[w.heap.size]?=some (.stringIter s pos)∧Hid (allUpto okPre s pos=true)∧Below w.heap.size w wr) (fun _ wr=>s.size-wr.iterPos w.heap.size)
 case atStart=>exact ⟨0,Nat.zero_le _,World.iter_heap w s 0,rfl,(Below.refl _ _).alloc (Nat.le_refl _) _⟩
 case round=>
  obtain ⟨pos,hk,hit,hh,hbw⟩:=hrel
  have hpos0:=iterPos_of hit
  by_cases hp:pos<s.size
  ·by_cases ha:(s[pos]).toNat<128
   ·have hnx: ∀ ty,(Instr.next (.pointer (some ⟨w.heap.size,0,none⟩)) true ty).run Tryz.prog wr=_:=fun ty=>Lib.run_next_ascii_at wr w.heap.size s pos ty hit hp ha
    have hit2:=Lib.iterAt_heap wr w.heap.size s pos (pos+1) hit
    have hbw2:=Lib.below_iterAt hbw (k:=w.heap.size) (Nat.le_refl _) s (pos+1)
    obtain ⟨W1,hW1⟩: ∃ W1,W1=wr.iterAt w.heap.size s (pos+1):=⟨_,rfl⟩
    rw [←hW1] at hnx hit2 hbw2
    clear hW1 hit hbw
    go_wp2_with (go_at_call 282;refine (isPreSign_c _ _).mono ?_;rintro e w' ⟨rfl,rfl⟩)
    ·have h1:(!preB ((s[pos]).toNat:Int))=true:=by assumption
     go_ret
     exact ⟨ret_bool (partB_bad (end_false hp (by simpa [okPre] using h1))).symm,hbw2⟩
    ·have h1:(!preB ((s[pos]).toNat:Int))=false:=by assumption
     go_roundw
     case rel=>exact ⟨pos+1,by omega,hit2,step_true hp hh (by simpa [okPre] using h1),hbw2⟩
     case measure=>rw [iterPos_of hit2,hpos0];omega
   ·have hnx: ∀ ty,(Instr.next (.pointer (some ⟨w.heap.size,0,none⟩)) true ty).run Tryz.prog wr=_:=fun ty=>Lib.run_next_any_at wr w.heap.size s pos ty hit hp
    have hbw2:=Lib.below_iterAt hbw (k:=w.heap.size) (Nat.le_refl _) s (pos+(Utf8.decode s pos).2)
    have hr:=rune_high s pos hp (by omega)
    have HB:=byte_high s pos hp (by omega)
    obtain ⟨r,hr'⟩: ∃ r:Int,r=((Utf8.decode s pos).1:Int):=⟨_,rfl⟩
    obtain ⟨W1,hW1⟩: ∃ W1,W1=wr.iterAt w.heap.size s (pos+(Utf8.decode s pos).2):=⟨_,rfl⟩
    rw [←hW1, ←hr'] at hnx
    rw [←hW1] at hbw2
    rw [←hr'] at hr
    have HB':Hid (preB ((s[pos]).toNat:Int)=false):=HB
    clear hW1 hit hbw hr' HB
    go_wp2_with (go_at_call 282;refine (isPreSign_c _ _).mono ?_;rintro e w' ⟨rfl,rfl⟩)
    go_ret
    exact ⟨ret_bool (partB_bad (end_false hp HB'.out)).symm,hbw2⟩
  ·have hnx: ∀ ty,(Instr.next (.pointer (some ⟨w.heap.size,0,none⟩)) true ty).run Tryz.prog wr=_:=fun ty=>Lib.run_next_end_at wr w.heap.size s pos ty hit hp
   have he:pos=s.size:=by omega
   subst he
   have HA:Hid (allUpto okPre s s.size=true):=hh
   clear hh hpos0
   by_cases h1:s.size=1
   ·have h1':((s.size:Int) == 1)=true:=by simp [h1]
    go_wp2
    go_ret
    exact ⟨ret_bool (by rw [partB_in hp0 (by omega) HA.out];simp [h1]),hbw⟩
   ·have h1':((s.size:Int) == 1)=false:=by rw [beq_eq_false_iff_ne];omega
    cases hf:(((s[0]).toNat:Int) == 48) with
    |true=>
     have hf':(((s[0]).toNat:Int) != 48)=false:=by rw [bne,hf];rfl
     go_wp2_with (go_at_call 215;refine (implDigits_c s hs0 _).mono ?_;rintro e w' ⟨rfl,rfl⟩)
     go_ret
     exact ⟨ret_bool (by rw [partB_in hp0 (by omega) HA.out,HF.out,hf];simp [h1]),hbw⟩
    |false=>
     have hf':(((s[0]).toNat:Int) != 48)=true:=by rw [bne,hf];rfl
     go_wp2
     go_ret
     exact ⟨ret_bool (by rw [partB_in hp0 (by omega) HA.out,HF.out,hf];simp [h1]),hbw⟩
def partsUpto (ps:List ByteArray):Nat→Bool
 |0=>true
 |k+1=>partsUpto ps k&&partB (ps.getD k ⟨#[]⟩)
def verB (a b c:Int) (ps:List ByteArray):Bool:=partsUpto ps ps.length&&inB a 0 9999&&inB b 0 9999&&inB c 0 9999&&decide (ps.length≤3)
theorem partsUpto_cut (ps:List ByteArray) (k:Nat) (h:partB (ps.getD k ⟨#[]⟩)=false): ∀ n,k<n→partsUpto ps n=false
 |0,h0=>by omega
 |n+1,hk=>by
  unfold partsUpto
  by_cases e:k=n
  ·subst e;rw [h,Bool.and_false]
  ·rw [partsUpto_cut ps k h n (by omega)];rfl
theorem parts_end {ps:List ByteArray} {k:Nat} (hk:k<ps.length) (h:partB ps[k]=false):partsUpto ps ps.length=false:=
 partsUpto_cut ps k (by simpa [List.getD_eq_getElem?_getD,hk] using h) _ hk
theorem parts_step {ps:List ByteArray} {k:Nat} (hk:k<ps.length) (hh:Hid (partsUpto ps k=true)) (h:partB ps[k]=true):Hid (partsUpto ps (k+1)=true):=by
 show _=_
 rw [partsUpto,hh.out]
 simpa [List.getD_eq_getElem?_getD,hk] using h
theorem verB_parts {a b c:Int} {ps:List ByteArray} (h:partsUpto ps ps.length=false):verB a b c ps=false:=by rw [verB,h];rfl
theorem verB_all {a b c:Int} {ps:List ByteArray} (h:partsUpto ps ps.length=true):verB a b c ps=(inB a 0 9999&&inB b 0 9999&&inB c 0 9999&&decide (ps.length≤3)):=by rw [verB,h];rfl
theorem verNum_c (n:Int) (w:World):
  Calls Tryz.prog 231 #[.int .i64 n] w fun e w'=>e=.returned (.bool (inB n 0 9999))∧w=w':=by
 by_cases h:0≤n
 ·have hb:inB n 0 9999=decide (n≤9999):=by simp [inB,h]
  rw [hb]
  go_enter Tryz.func231,Tryz.ntmps231
  go_wp2
  go_ret
  exact ⟨rfl,rfl⟩
 ·have hb:inB n 0 9999=false:=by simp [inB,h]
  rw [hb]
  go_enter Tryz.func231,Tryz.ntmps231
  go_wp2
  go_ret
  exact ⟨rfl,rfl⟩
theorem le_sum_of_mem : ∀ {ps:List ByteArray} {s:ByteArray},s∈ps→s.size≤(ps.map ByteArray.size).sum
 |p::ps,s,h=>by
  rw [List.map_cons,List.sum_cons]
  rcases List.mem_cons.1 h with rfl|h
  ·omega
  ·have:=le_sum_of_mem h;omega
theorem size_of_bulk {ps:List ByteArray} {s:ByteArray} (h:s∈ps):s.size≤bulkS ps:=by
 unfold bulkS
 have:=le_sum_of_mem h
 omega
theorem specVerOk_c (a b c:Int) (u:Value) (ps:List ByteArray) (w:World) (hu:Reads w u (strsV ps)) (hb:bulkS ps≤1048576):
  Calls Tryz.prog 95 #[.agg #[.int .i64 a,.int .i64 b,.int .i64 c,u]] w fun e w'=>e=.returned (.bool (verB a b c ps))∧Below w.heap.size w w':=by
 have hsz: ∀ s∈ps,s.size≤maxLen:=fun s hs=>by have:=size_of_bulk hs;unfold maxLen;omega
 have hn:ps.length≤1048576:=by unfold bulkS at hb;omega
 have hbx: ∀ o,Below w.heap.size w (w.alloc o):=fun o=>(Below.refl _ _).alloc (Nat.le_refl _) _
 obtain ⟨q,cap,rfl,_,hc⟩:=reads_strs hu
 clear hu hb
 go_enter Tryz.func95,Tryz.ntmps95
 go_wp2
 go_loop [3] (fun vi=>∃ k:Nat,k≤ps.length∧vi=.int .i64 (k:Int)∧Hid (partsUpto ps k=true)) (fun vi=>ps.length-(intOf vi).toNat)
 case atStart=>exact ⟨0,Nat.zero_le _,rfl,rfl⟩
 case round=>
  obtain ⟨k,hk,rfl,hh⟩:=hrel
  by_cases hlt:k<ps.length
  ·rcases hc with rfl|⟨bl,off,rfl,hlb,hc⟩
   ·simp at hlt
   have hcx:=hc k hlt
   have hcy: ∀ o,(w.alloc o).cell? ⟨bl,off+k,none⟩=some (.string ps[k]):=fun o=>((hbx o).cell (p:=⟨bl,off+k,none⟩) hlb).trans hcx
   have hsk:=hsz ps[k] (List.getElem_mem hlt)
   obtain ⟨t,ht⟩: ∃ t,t=ps[k]:=⟨_,rfl⟩
   rw [←ht] at hcx hcy hsk
   have HT:Hid (t=ps[k]):=ht
   have hki:(k:Int)<(ps.length:Int):=by omega
   clear hc hsz ht
   go_wp2_with (go_at_call 175;refine (specPart_c t hsk _).mono ?_;rintro e w' ⟨rfl,rfl⟩)
   ·have h1:(!partB t)=true:=by assumption
    go_ret
    exact ⟨ret_bool (verB_parts (parts_end hlt (by rw [←HT.out];simpa using h1))).symm,hbx _⟩
   ·have h1:(!partB t)=false:=by assumption
    go_round
    case rel=>exact ⟨k+1,by omega,by go_num,parts_step hlt hh (by rw [←HT.out];simpa using h1)⟩
    case measure=>simp [intOf];omega
  ·have he:k=ps.length:=by omega
   subst he
   have HA:Hid (partsUpto ps ps.length=true):=hh
   have hki: ¬(ps.length:Int)<(ps.length:Int):=by omega
   clear hc hsz hh
   cases ha:inB a 0 9999 with
   |false=>
    go_wp2_with (go_at_call 111;refine (in_c _ _ _ _).mono ?_;rintro e w' ⟨rfl,rfl⟩)
    go_ret
    exact ⟨ret_bool (by rw [verB_all HA.out,ha];rfl),hbx _⟩
   |true=>
    cases hb:inB b 0 9999 with
    |false=>
     go_wp2_with (go_at_call 111;refine (in_c _ _ _ _).mono ?_;rintro e w' ⟨rfl,rfl⟩)
     go_ret
     exact ⟨ret_bool (by rw [verB_all HA.out,ha,hb];rfl),hbx _⟩
    |true=>
     cases hc:inB c 0 9999 with
     |false=>
      go_wp2_with (go_at_call 111;refine (in_c _ _ _ _).mono ?_;rintro e w' ⟨rfl,rfl⟩)
      go_ret
      exact ⟨ret_bool (by rw [verB_all HA.out,ha,hb,hc];rfl),hbx _⟩
     |true=>
      go_wp2_with (go_at_call 111;refine (in_c _ _ _ _).mono ?_;rintro e w' ⟨rfl,rfl⟩)
      go_ret
      exact ⟨ret_bool (by rw [verB_all HA.out,ha,hb,hc,Bool.eq_iff_iff];simp;try omega),hbx _⟩
theorem verB_num {a b c:Int} {ps:List ByteArray} (h:inB a 0 9999=false∨inB b 0 9999=false∨inB c 0 9999=false∨3<ps.length):verB a b c ps=false:=by
 rw [verB]
 rcases h with h|h|h|h
 ·rw [h];simp
 ·rw [h];simp
 ·rw [h];simp
 ·have:decide (ps.length≤3)=false:=by simp;omega
  rw [this,Bool.and_false]
theorem implVerOk_c (a b c:Int) (u:Value) (ps:List ByteArray) (w:World) (hu:Reads w u (strsV ps)) (hb:bulkS ps≤1048576):
  Calls Tryz.prog 161 #[.agg #[.int .i64 a,.int .i64 b,.int .i64 c,u]] w fun e w'=>e=.returned (.bool (verB a b c ps))∧Below w.heap.size w w':=by
 have hsz: ∀ s∈ps,s.size≤maxLen:=fun s hs=>by have:=size_of_bulk hs;unfold maxLen;omega
 have hn:ps.length≤1048576:=by unfold bulkS at hb;omega
 have hbx: ∀ o,Below w.heap.size w (w.alloc o):=fun o=>(Below.refl _ _).alloc (Nat.le_refl _) _
 obtain ⟨q,cap,rfl,_,hc⟩:=reads_strs hu
 clear hu hb
 cases ha:inB a 0 9999 with
 |false=>
  clear hc
  go_enter Tryz.func161,Tryz.ntmps161
  go_wp2_with (go_at_call 231;refine (verNum_c _ _).mono ?_;rintro e w' ⟨rfl,rfl⟩)
  go_ret
  exact ⟨ret_bool (verB_num (.inl ha)).symm,hbx _⟩
 |true=>
 cases hb:inB b 0 9999 with
 |false=>
  clear hc
  go_enter Tryz.func161,Tryz.ntmps161
  go_wp2_with (go_at_call 231;refine (verNum_c _ _).mono ?_;rintro e w' ⟨rfl,rfl⟩)
  go_ret
  exact ⟨ret_bool (verB_num (.inr (.inl hb))).symm,hbx _⟩
 |true=>
 cases hcc:inB c 0 9999 with
 |false=>
  clear hc
  go_enter Tryz.func161,Tryz.ntmps161
  go_wp2_with (go_at_call 231;refine (verNum_c _ _).mono ?_;rintro e w' ⟨rfl,rfl⟩)
  go_ret
  exact ⟨ret_bool (verB_num (.inr (.inr (.inl hcc)))).symm,hbx _⟩
 |true=>
 by_cases h3:3<ps.length
 ·have h3':(3:Int)<(ps.length:Int):=by omega
  clear hc
  go_enter Tryz.func161,Tryz.ntmps161
  go_wp2_with (go_at_call 231;refine (verNum_c _ _).mono ?_;rintro e w' ⟨rfl,rfl⟩)
  go_ret
  exact ⟨ret_bool (verB_num (.inr (.inr (.inr h3)))).symm,hbx _⟩
 have h3': ¬(3:Int)<(ps.length:Int):=by omega
 have HV:Hid (partsUpto ps ps.length=true→verB a b c ps=true):=fun h=>by rw [verB_all h,ha,hb,hcc];simp;omega
 go_enter Tryz.func161,Tryz.ntmps161
 go_wp2_with (go_at_call 231;refine (verNum_c _ _).mono ?_;rintro e w' ⟨rfl,rfl⟩)
 go_loopw [4,30] (fun _ vi wr=>∃ k:Nat,k≤ps.length∧vi=.int .i64 (k:Int)∧Hid (partsUpto ps k=true)∧Below w.heap.size w wr) (fun _ vi _=>ps.length-(intOf vi).toNat)
 case atStart=>exact ⟨0,Nat.zero_le _,rfl,rfl,hbx _⟩
 case round=>
  obtain ⟨k,hk,rfl,hh,hbr⟩:=hrel
  by_cases hlt:k<ps.length
  ·rcases hc with rfl|⟨bl,off,rfl,hlb,hc⟩
   ·simp at hlt
   have hcx:wr.cell? ⟨bl,off+k,none⟩=some (.string ps[k]):=(hbr.cell (p:=⟨bl,off+k,none⟩) hlb).trans (hc k hlt)
   have hsk:=hsz ps[k] (List.getElem_mem hlt)
   obtain ⟨t,ht⟩: ∃ t,t=ps[k]:=⟨_,rfl⟩
   rw [←ht] at hcx hsk
   have HT:Hid (t=ps[k]):=ht
   have hki:(k:Int)<(ps.length:Int):=by omega
   clear hc hsz ht
   go_wp2_with (go_at_call 232;refine (implPart_c t hsk _).mono ?_;rintro e w1 ⟨rfl,b1⟩)
   ·have h1:(!partB t)=true:=by assumption
    go_ret
    exact ⟨ret_bool (verB_parts (parts_end hlt (by rw [←HT.out];simpa using h1))).symm,hbr.trans (b1.mono hbr.size)⟩
   ·have h1:(!partB t)=false:=by assumption
    go_roundw
    case rel=>exact ⟨k+1,by omega,by go_num,parts_step hlt hh (by rw [←HT.out];simpa using h1),hbr.trans (b1.mono hbr.size)⟩
    case measure=>simp [intOf];omega
  ·have he:k=ps.length:=by omega
   subst he
   clear hc hsz
   go_wp2
   go_ret
   exact ⟨ret_bool (HV.out hh.out).symm,hbr⟩
end Go.Proofs.YtlfmefojcmpfeaaGreatDoor
