/-
  Contracts for the walks and pure facts, several texts in one: each theorem says what it proves, and under which conditions.
-/
import Derived.Test.YtlfmefojcmpfeaaGreatDoorUT
import Derived.Test.YtlfmefojcmpfeaaGreatDoorU16
set_option linter.unusedSimpArgs false
set_option linter.unusedVariables false
set_option maxHeartbeats 16000000
set_option maxRecDepth 100000
namespace Go.Proofs.YtlfmefojcmpfeaaGreatDoor
open Go.RowKit
theorem quiet_ver {P:Program} {f:FuncId} {args:Array Value} {w:World} {n:Nat} {v:Value}
  (h:Calls P f args (w.drewN n) fun e w'=>e=.returned v∧w.drewN n=w'):Calls P f args (w.drewN n) fun e w''=>e=.returned v∧∃ m,w''=w.drewN m:=
 h.mono fun _ _ ⟨he,hm⟩=>⟨he,n,hm.symm⟩
theorem lessGo_at (ps ps':List ByteArray) (k:Nat) (h:k<ps.length) (h':k<ps'.length):lessGo (ps.drop k) (ps'.drop k)=if ps[k]=ps'[k] then lessGo (ps.drop (k+1)) (ps'.drop (k+1)) else lessPart ps[k] ps'[k]:=by
 rw [List.drop_eq_getElem_cons h,List.drop_eq_getElem_cons h',lessGo]
theorem lessGo_end (ps ps':List ByteArray) (k:Nat) (h:k≤ps.length) (h':k≤ps'.length) (he: ¬(k<ps.length∧k<ps'.length)):lessGo (ps.drop k) (ps'.drop k)=decide (ps.length<ps'.length):=by
 by_cases hk:k<ps.length
 ·have:ps'.length=k:=by omega
  rw [List.drop_eq_getElem_cons hk,List.drop_eq_nil_of_le (show ps'.length≤k by omega),lessGo,Bool.eq_iff_iff]
  simp;omega
 ·rw [List.drop_eq_nil_of_le (show ps.length≤k by omega),lessGo,Bool.eq_iff_iff]
  simp;omega
theorem lessPre_c (u u':Value) (ps ps':List ByteArray) (w:World) (hu:Reads w u (strsV ps)) (hu':Reads w u' (strsV ps')) (hb:bulkS ps≤1048576) (hb':bulkS ps'≤1048576):
  Calls Tryz.prog 157 #[u,u'] w fun e w'=>e=.returned (.bool (lessPre ps ps'))∧Below w.heap.size w w':=by
 have hsz: ∀ s∈ps,s.size≤maxLen:=fun s hs=>by have:=size_of_bulk hs;unfold maxLen;omega
 have hsz': ∀ s∈ps',s.size≤maxLen:=fun s hs=>by have:=size_of_bulk hs;unfold maxLen;omega
 have hn:ps.length≤1048576:=by unfold bulkS at hb;omega
 have hn':ps'.length≤1048576:=by unfold bulkS at hb';omega
 obtain ⟨q,cap,rfl,_,hc⟩:=reads_strs hu
 obtain ⟨q',cap',rfl,_,hc'⟩:=reads_strs hu'
 clear hu hu' hb hb'
 by_cases hp:ps.length=0
 ·have hp1:((ps.length:Int) == 0)=true:=by simp [hp]
  have hp2: ¬(0:Int)<(ps.length:Int):=by omega
  have HP:Hid (lessPre ps ps'=false):=by show _=_;rw [lessPre,if_pos (.inl hp)];simp [hp]
  clear hp hc hc'
  go_enter Tryz.func157,Tryz.ntmps157
  go_wp2
  go_ret
  exact ⟨ret_bool HP.out.symm,Below.refl _ _⟩
 have hp1:((ps.length:Int) == 0)=false:=by rw [beq_eq_false_iff_ne];omega
 by_cases hp':ps'.length=0
 ·have hp2:((ps'.length:Int) == 0)=true:=by simp [hp']
  have hp3:(0:Int)<(ps.length:Int):=by omega
  have HP:Hid (lessPre ps ps'=true):=by show _=_;rw [lessPre,if_pos (.inr hp')];simp [hp'];omega
  clear hp hp' hc hc'
  go_enter Tryz.func157,Tryz.ntmps157
  go_wp2
  go_ret
  exact ⟨ret_bool HP.out.symm,Below.refl _ _⟩
 have hp2:((ps'.length:Int) == 0)=false:=by rw [beq_eq_false_iff_ne];omega
 have HP:Hid (lessPre ps ps'=lessGo ps ps'):=by show _=_;rw [lessPre,if_neg (by omega)]
 rcases hc with rfl|⟨bl,off,rfl,hlb,hc⟩
 ·simp at hp
 rcases hc' with rfl|⟨bl',off',rfl,hlb',hc'⟩
 ·simp at hp'
 clear hp hp'
 go_enter Tryz.func157,Tryz.ntmps157
 go_wp2
 go_loopw [5] (fun vi wr=>∃ k:Nat,k≤ps.length∧k≤ps'.length∧vi=.int .i64 (k:Int)∧Hid (lessGo (ps.drop k) (ps'.drop k)=lessGo ps ps')∧Below w.heap.size w wr) (fun vi _=>ps.length-(intOf vi).toNat)
 case atStart=>exact ⟨0,Nat.zero_le _,Nat.zero_le _,rfl,rfl,Below.refl _ _⟩
 case round=>
  obtain ⟨k,hk,hk',rfl,hh,hbr⟩:=hrel
  by_cases hlt:k<ps.length
  ·have hki:(k:Int)<(ps.length:Int):=by omega
   by_cases hlt':k<ps'.length
   ·have hki':(k:Int)<(ps'.length:Int):=by omega
    have hcx:wr.cell? ⟨bl,off+k,none⟩=some (.string ps[k]):=(hbr.cell (p:=⟨bl,off+k,none⟩) hlb).trans (hc k hlt)
    have hsk:=hsz ps[k] (List.getElem_mem hlt)
    have hcx':wr.cell? ⟨bl',off'+k,none⟩=some (.string ps'[k]):=(hbr.cell (p:=⟨bl',off'+k,none⟩) hlb').trans (hc' k hlt')
    have hsk':=hsz' ps'[k] (List.getElem_mem hlt')
    have HG:=lessGo_at ps ps' k hlt hlt'
    obtain ⟨t,ht⟩: ∃ t,t=ps[k]:=⟨_,rfl⟩
    obtain ⟨t',ht'⟩: ∃ t,t=ps'[k]:=⟨_,rfl⟩
    rw [←ht] at hcx hsk HG
    rw [←ht'] at hcx' hsk' HG
    have HG:Hid (lessGo (ps.drop k) (ps'.drop k)=if t=t' then lessGo (ps.drop (k+1)) (ps'.drop (k+1)) else lessPart t t'):=HG
    clear hc hc' hsz hsz' ht ht'
    by_cases hne:t=t'
    ·have hq:(!t.toList == t'.toList)=false:=by rw [hne];simp
     have HN:Hid (lessGo (ps.drop (k+1)) (ps'.drop (k+1))=lessGo ps ps'):=by show _=_;rw [←hh.out,HG.out,if_pos hne]
     clear hne
     go_wp2
     go_quiet (fail)
     go_wp2
     go_roundw
     case rel=>exact ⟨k+1,by omega,by omega,by go_num,HN,below_drewN' hbr _⟩
     case measure=>simp [intOf];omega
    ·have hq:(!t.toList == t'.toList)=true:=by
      have: ¬t.toList=t'.toList:=fun e=>hne (bytes_eq_of_toList e)
      simpa using this
     have HQ:Hid (∀ w1,Calls Tryz.prog 219 #[.string t,.string t'] w1 fun e w'=>e=.returned (.bool (lessPart t t'))∧w1=w'):=fun w1=>specLessPart_c t t' hsk hsk' w1
     have HN:Hid (lessPart t t'=lessPre ps ps'):=by show _=_;rw [HP.out, ←hh.out,HG.out,if_neg hne]
     clear hne
     go_wp2
     go_quiet (fail)
     go_wp2
     have hbr2:=below_drewN' hbr nq
     have hcz:(wr.drewN nq).cell? ⟨bl,off+k,none⟩=some (.string t):=hcx
     have hcz':(wr.drewN nq).cell? ⟨bl',off'+k,none⟩=some (.string t'):=hcx'
     generalize wr.drewN nq=W1 at hbr2 hcz hcz' ⊢
     clear hcx hcx' hbr
     go_quiet (first|(go_at_call 219;exact quiet_ver (HQ.out _)))
     go_wp2
     go_ret
     exact ⟨ret_bool HN.out,below_drewN' hbr2 _⟩
   ·have hki': ¬(k:Int)<(ps'.length:Int):=by omega
    have HE:Hid (lessPre ps ps'=decide (ps.length<ps'.length)):=by show _=_;rw [HP.out, ←hh.out];exact lessGo_end ps ps' k hk hk' (by omega)
    clear hc hc' hsz hsz'
    go_wp2
    go_ret
    exact ⟨ret_bool (by rw [HE.out,Bool.eq_iff_iff];first|done|simp),hbr⟩
  ·have hki: ¬(k:Int)<(ps.length:Int):=by omega
   have HE:Hid (lessPre ps ps'=decide (ps.length<ps'.length)):=by show _=_;rw [HP.out, ←hh.out];exact lessGo_end ps ps' k hk hk' (by omega)
   clear hc hc' hsz hsz'
   go_wp2
   go_ret
   exact ⟨ret_bool (by rw [HE.out,Bool.eq_iff_iff];first|done|simp),hbr⟩
theorem specLess_c (a b c:Int) (u:Value) (ps:List ByteArray) (a' b' c':Int) (u':Value) (ps':List ByteArray) (w:World) (hu:Reads w u (strsV ps)) (hu':Reads w u' (strsV ps')) (hb:bulkS ps≤1048576) (hb':bulkS ps'≤1048576):
  Calls Tryz.prog 86 #[.agg #[.int .i64 a,.int .i64 b,.int .i64 c,u],.agg #[.int .i64 a',.int .i64 b',.int .i64 c',u']] w fun e w'=>e=.returned (.bool (lessB a b c ps a' b' c' ps'))∧Below w.heap.size w w':=by
 have HF:Hid (∀ w1,Below w.heap.size w w1→Calls Tryz.prog 157 #[u,u'] w1 fun e w'=>e=.returned (.bool (lessPre ps ps'))∧Below w1.heap.size w1 w'):=fun w1 h=>lessPre_c u u' ps ps' w1 (hu.below h) (hu'.below h) hb hb'
 obtain ⟨q,cap,rfl,_,_⟩:=reads_strs hu
 obtain ⟨q',cap',rfl,_,_⟩:=reads_strs hu'
 clear hu hu' hb hb'
 by_cases ha:a=a'
 ·by_cases hb:b=b'
  ·by_cases hc:c=c'
   ·have HE:Hid (lessB a b c ps a' b' c' ps'=lessPre ps ps'):=by show _=_;rw [lessB,if_pos ha,if_pos hb,if_pos hc]
    have e1:(a != a')=false:=by simp [ha]
    have e2:(b != b')=false:=by simp [hb]
    have e3:(c != c')=false:=by simp [hc]
    clear ha hb hc
    go_enter Tryz.func86,Tryz.ntmps86
    go_wp2_with (go_at_call 157;refine (HF.out _ (two_box _ _)).mono ?_;rintro e w1 ⟨rfl,b1⟩)
    go_ret
    exact ⟨ret_bool HE.out.symm,(two_box _ _).trans (b1.mono (by simp;omega))⟩
   ·have HE:Hid (lessB a b c ps a' b' c' ps'=decide (c<c')):=by show _=_;rw [lessB,if_pos ha,if_pos hb,if_neg hc]
    have e1:(a != a')=false:=by simp [ha]
    have e2:(b != b')=false:=by simp [hb]
    have e3:(c != c')=true:=by simpa using hc
    clear ha hb hc
    go_enter Tryz.func86,Tryz.ntmps86
    go_wp2
    go_ret
    exact ⟨ret_bool HE.out.symm,two_box _ _⟩
  ·have HE:Hid (lessB a b c ps a' b' c' ps'=decide (b<b')):=by show _=_;rw [lessB,if_pos ha,if_neg hb]
   have e1:(a != a')=false:=by simp [ha]
   have e2:(b != b')=true:=by simpa using hb
   clear ha hb
   go_enter Tryz.func86,Tryz.ntmps86
   go_wp2
   go_ret
   exact ⟨ret_bool HE.out.symm,two_box _ _⟩
 ·have HE:Hid (lessB a b c ps a' b' c' ps'=decide (a<a')):=by show _=_;rw [lessB,if_neg ha]
  have e1:(a != a')=true:=by simpa using ha
  clear ha
  go_enter Tryz.func86,Tryz.ntmps86
  go_wp2
  go_ret
  exact ⟨ret_bool HE.out.symm,two_box _ _⟩
theorem sameB_comm (a b c:Int) (ps:List ByteArray) (a' b' c':Int) (ps':List ByteArray):sameB a b c ps a' b' c' ps'=sameB a' b' c' ps' a b c ps:=by
 have e1:(a == a')=(a' == a):=BEq.comm
 have e2:(b == b')=(b' == b):=BEq.comm
 have e3:(c == c')=(c' == c):=BEq.comm
 have e4:decide (ps=ps')=decide (ps'=ps):=decide_eq_decide.2 eq_comm
 rw [sameB,sameB,coreB,coreB,e1,e2,e3,e4]
def cmpB (o a b c:Int) (ps:List ByteArray) (a' b' c':Int) (ps':List ByteArray):Bool:=
 if o=0 then sameB a b c ps a' b' c' ps' else if o=1 then lessB a' b' c' ps' a b c ps else if o=2 then !lessB a b c ps a' b' c' ps' else if o=3 then lessB a b c ps a' b' c' ps' else if o=4 then !lessB a' b' c' ps' a b c ps else false
theorem implCmpOk_c (o a b c:Int) (u:Value) (ps:List ByteArray) (a' b' c':Int) (u':Value) (ps':List ByteArray) (w:World) (hu:Reads w u (strsV ps)) (hu':Reads w u' (strsV ps')) (hb:bulkS ps≤1048576) (hb':bulkS ps'≤1048576):
  Calls Tryz.prog 234 #[.agg #[.int .i64 o,.int .i64 a,.int .i64 b,.int .i64 c,u],.agg #[.int .i64 a',.int .i64 b',.int .i64 c',u']] w fun e w'=>e=.returned (.bool (cmpB o a b c ps a' b' c' ps'))∧Below w.heap.size w w':=by
 have hn:ps.length≤1048576:=by unfold bulkS at hb;omega
 have hn':ps'.length≤1048576:=by unfold bulkS at hb';omega
 have HS:Hid (∀ w1,Below w.heap.size w w1→Calls Tryz.prog 113 #[.agg #[.int .i64 a',.int .i64 b',.int .i64 c',u'],.agg #[.int .i64 a,.int .i64 b,.int .i64 c,u]] w1 fun e w'=>e=.returned (.bool (sameB a b c ps a' b' c' ps'))∧Below w1.heap.size w1 w'):=fun w1 h=>by
  rw [sameB_comm]
  exact implSame_c a' b' c' u' ps' a b c u ps w1 (hu'.below h) (hu.below h) hn'
 have HL:Hid (∀ w1,Below w.heap.size w w1→Calls Tryz.prog 20 #[.agg #[.int .i64 a',.int .i64 b',.int .i64 c',u'],.agg #[.int .i64 a,.int .i64 b,.int .i64 c,u]] w1 fun e w'=>e=.returned (.bool (lessB a' b' c' ps' a b c ps))∧Below w1.heap.size w1 w'):=fun w1 h=>implLess_c a' b' c' u' ps' a b c u ps w1 (hu'.below h) (hu.below h) hb' hb
 have HM:Hid (∀ w1,Below w.heap.size w w1→Calls Tryz.prog 20 #[.agg #[.int .i64 a,.int .i64 b,.int .i64 c,u],.agg #[.int .i64 a',.int .i64 b',.int .i64 c',u']] w1 fun e w'=>e=.returned (.bool (lessB a b c ps a' b' c' ps'))∧Below w1.heap.size w1 w'):=fun w1 h=>implLess_c a b c u ps a' b' c' u' ps' w1 (hu.below h) (hu'.below h) hb hb'
 have HC:Hid (cmpB o a b c ps a' b' c' ps'=if o=0 then sameB a b c ps a' b' c' ps' else if o=1 then lessB a' b' c' ps' a b c ps else if o=2 then !lessB a b c ps a' b' c' ps' else if o=3 then lessB a b c ps a' b' c' ps' else if o=4 then !lessB a' b' c' ps' a b c ps else false):=rfl
 obtain ⟨r0,hr0⟩: ∃ r,r=sameB a b c ps a' b' c' ps':=⟨_,rfl⟩
 obtain ⟨r1,hr1⟩: ∃ r,r=lessB a' b' c' ps' a b c ps:=⟨_,rfl⟩
 obtain ⟨r2,hr2⟩: ∃ r,r=lessB a b c ps a' b' c' ps':=⟨_,rfl⟩
 obtain ⟨rc,hrc⟩: ∃ r,r=cmpB o a b c ps a' b' c' ps':=⟨_,rfl⟩
 rw [←hr0, ←hr1, ←hr2, ←hrc] at HC
 rw [←hr0] at HS
 rw [←hr1] at HL
 rw [←hr2] at HM
 rw [←hrc]
 obtain ⟨q,cap,rfl,_,_⟩:=reads_strs hu
 obtain ⟨q',cap',rfl,_,_⟩:=reads_strs hu'
 clear hu hu' hb hb' hr0 hr1 hr2 hrc
 by_cases h0:o=0
 ·have e:rc=(r0):=by rw [HC.out];simp [h0]
  rw [e]
  subst h0
  clear e HC
  go_enter Tryz.func234,Tryz.ntmps234
  go_wp2_with (go_at_call 113;refine (HS.out _ (two_box _ _)).mono ?_;rintro e w1 ⟨rfl,b1⟩)
  go_ret
  exact ⟨rfl,(two_box _ _).trans (b1.mono (by simp;omega))⟩
 by_cases h1:o=1
 ·have e:rc=(r1):=by rw [HC.out];simp [h1]
  rw [e]
  subst h1
  clear e HC
  go_enter Tryz.func234,Tryz.ntmps234
  go_wp2_with (go_at_call 20;refine (HL.out _ (two_box _ _)).mono ?_;rintro e w1 ⟨rfl,b1⟩)
  go_ret
  exact ⟨rfl,(two_box _ _).trans (b1.mono (by simp;omega))⟩
 by_cases h2:o=2
 ·have e:rc=(!r2):=by rw [HC.out];simp [h2]
  rw [e]
  subst h2
  clear e HC
  go_enter Tryz.func234,Tryz.ntmps234
  go_wp2_with (go_at_call 20;refine (HM.out _ (two_box _ _)).mono ?_;rintro e w1 ⟨rfl,b1⟩)
  go_ret
  exact ⟨rfl,(two_box _ _).trans (b1.mono (by simp;omega))⟩
 by_cases h3:o=3
 ·have e:rc=(r2):=by rw [HC.out];simp [h3]
  rw [e]
  subst h3
  clear e HC
  go_enter Tryz.func234,Tryz.ntmps234
  go_wp2_with (go_at_call 20;refine (HM.out _ (two_box _ _)).mono ?_;rintro e w1 ⟨rfl,b1⟩)
  go_ret
  exact ⟨rfl,(two_box _ _).trans (b1.mono (by simp;omega))⟩
 by_cases h4:o=4
 ·have e:rc=(!r1):=by rw [HC.out];simp [h4]
  rw [e]
  subst h4
  clear e HC
  go_enter Tryz.func234,Tryz.ntmps234
  go_wp2_with (go_at_call 20;refine (HL.out _ (two_box _ _)).mono ?_;rintro e w1 ⟨rfl,b1⟩)
  go_ret
  exact ⟨rfl,(two_box _ _).trans (b1.mono (by simp;omega))⟩
 have e:rc=false:=by rw [HC.out];simp [h0,h1,h2,h3,h4]
 rw [e]
 have k0:(o == 0)=false:=by simpa using h0
 have k1:(o == 1)=false:=by simpa using h1
 have k2:(o == 2)=false:=by simpa using h2
 have k3:(o == 3)=false:=by simpa using h3
 have k4:(o == 4)=false:=by simpa using h4
 clear e HC h0 h1 h2 h3 h4
 go_enter Tryz.func234,Tryz.ntmps234
 go_wp2
 go_ret
 exact ⟨rfl,two_box _ _⟩
theorem specCmpOk_c (o a b c:Int) (u:Value) (ps:List ByteArray) (a' b' c':Int) (u':Value) (ps':List ByteArray) (w:World) (hu:Reads w u (strsV ps)) (hu':Reads w u' (strsV ps')) (hb:bulkS ps≤1048576) (hb':bulkS ps'≤1048576):
  Calls Tryz.prog 169 #[.agg #[.int .i64 o,.int .i64 a,.int .i64 b,.int .i64 c,u],.agg #[.int .i64 a',.int .i64 b',.int .i64 c',u']] w fun e w'=>e=.returned (.bool (cmpB o a b c ps a' b' c' ps'))∧Below w.heap.size w w':=by
 have hn:ps.length≤1048576:=by unfold bulkS at hb;omega
 have hn':ps'.length≤1048576:=by unfold bulkS at hb';omega
 have HS:Hid (∀ w1,Below w.heap.size w w1→Calls Tryz.prog 82 #[.agg #[.int .i64 a,.int .i64 b,.int .i64 c,u],.agg #[.int .i64 a',.int .i64 b',.int .i64 c',u']] w1 fun e w'=>e=.returned (.bool (sameB a b c ps a' b' c' ps'))∧Below w1.heap.size w1 w'):=fun w1 h=>by
  skip
  exact specSame_c a b c u ps a' b' c' u' ps' w1 (hu.below h) (hu'.below h) hn
 have HL:Hid (∀ w1,Below w.heap.size w w1→Calls Tryz.prog 86 #[.agg #[.int .i64 a',.int .i64 b',.int .i64 c',u'],.agg #[.int .i64 a,.int .i64 b,.int .i64 c,u]] w1 fun e w'=>e=.returned (.bool (lessB a' b' c' ps' a b c ps))∧Below w1.heap.size w1 w'):=fun w1 h=>specLess_c a' b' c' u' ps' a b c u ps w1 (hu'.below h) (hu.below h) hb' hb
 have HM:Hid (∀ w1,Below w.heap.size w w1→Calls Tryz.prog 86 #[.agg #[.int .i64 a,.int .i64 b,.int .i64 c,u],.agg #[.int .i64 a',.int .i64 b',.int .i64 c',u']] w1 fun e w'=>e=.returned (.bool (lessB a b c ps a' b' c' ps'))∧Below w1.heap.size w1 w'):=fun w1 h=>specLess_c a b c u ps a' b' c' u' ps' w1 (hu.below h) (hu'.below h) hb hb'
 have HC:Hid (cmpB o a b c ps a' b' c' ps'=if o=0 then sameB a b c ps a' b' c' ps' else if o=1 then lessB a' b' c' ps' a b c ps else if o=2 then !lessB a b c ps a' b' c' ps' else if o=3 then lessB a b c ps a' b' c' ps' else if o=4 then !lessB a' b' c' ps' a b c ps else false):=rfl
 obtain ⟨r0,hr0⟩: ∃ r,r=sameB a b c ps a' b' c' ps':=⟨_,rfl⟩
 obtain ⟨r1,hr1⟩: ∃ r,r=lessB a' b' c' ps' a b c ps:=⟨_,rfl⟩
 obtain ⟨r2,hr2⟩: ∃ r,r=lessB a b c ps a' b' c' ps':=⟨_,rfl⟩
 obtain ⟨rc,hrc⟩: ∃ r,r=cmpB o a b c ps a' b' c' ps':=⟨_,rfl⟩
 rw [←hr0, ←hr1, ←hr2, ←hrc] at HC
 rw [←hr0] at HS
 rw [←hr1] at HL
 rw [←hr2] at HM
 rw [←hrc]
 obtain ⟨q,cap,rfl,_,_⟩:=reads_strs hu
 obtain ⟨q',cap',rfl,_,_⟩:=reads_strs hu'
 clear hu hu' hb hb' hr0 hr1 hr2 hrc
 by_cases h0:o=0
 ·have e:rc=(r0):=by rw [HC.out];simp [h0]
  rw [e]
  subst h0
  clear e HC
  go_enter Tryz.func169,Tryz.ntmps169
  go_wp2_with (go_at_call 82;refine (HS.out _ (two_box _ _)).mono ?_;rintro e w1 ⟨rfl,b1⟩)
  go_ret
  exact ⟨rfl,(two_box _ _).trans (b1.mono (by simp;omega))⟩
 by_cases h1:o=1
 ·have e:rc=(r1):=by rw [HC.out];simp [h1]
  rw [e]
  subst h1
  clear e HC
  go_enter Tryz.func169,Tryz.ntmps169
  go_wp2_with (go_at_call 86;refine (HL.out _ (two_box _ _)).mono ?_;rintro e w1 ⟨rfl,b1⟩)
  go_ret
  exact ⟨rfl,(two_box _ _).trans (b1.mono (by simp;omega))⟩
 by_cases h2:o=2
 ·have e:rc=(!r2):=by rw [HC.out];simp [h2]
  rw [e]
  subst h2
  clear e HC
  go_enter Tryz.func169,Tryz.ntmps169
  go_wp2_with (go_at_call 86;refine (HM.out _ (two_box _ _)).mono ?_;rintro e w1 ⟨rfl,b1⟩)
  go_ret
  exact ⟨rfl,(two_box _ _).trans (b1.mono (by simp;omega))⟩
 by_cases h3:o=3
 ·have e:rc=(r2):=by rw [HC.out];simp [h3]
  rw [e]
  subst h3
  clear e HC
  go_enter Tryz.func169,Tryz.ntmps169
  go_wp2_with (go_at_call 86;refine (HM.out _ (two_box _ _)).mono ?_;rintro e w1 ⟨rfl,b1⟩)
  go_ret
  exact ⟨rfl,(two_box _ _).trans (b1.mono (by simp;omega))⟩
 by_cases h4:o=4
 ·have e:rc=(!r1):=by rw [HC.out];simp [h4]
  rw [e]
  subst h4
  clear e HC
  go_enter Tryz.func169,Tryz.ntmps169
  go_wp2_with (go_at_call 86;refine (HL.out _ (two_box _ _)).mono ?_;rintro e w1 ⟨rfl,b1⟩)
  go_ret
  exact ⟨rfl,(two_box _ _).trans (b1.mono (by simp;omega))⟩
 have e:rc=false:=by rw [HC.out];simp [h0,h1,h2,h3,h4]
 rw [e]
 have k0:(o == 0)=false:=by simpa using h0
 have k1:(o == 1)=false:=by simpa using h1
 have k2:(o == 2)=false:=by simpa using h2
 have k3:(o == 3)=false:=by simpa using h3
 have k4:(o == 4)=false:=by simpa using h4
 clear e HC h0 h1 h2 h3 h4
 go_enter Tryz.func169,Tryz.ntmps169
 go_wp2
 go_ret
 exact ⟨rfl,two_box _ _⟩
def holdsD (a' b' c':Int) (ps':List ByteArray) (d:CmpD):Bool:=cmpB d.o d.a d.b d.c d.ps a' b' c' ps'
def asksD (a' b' c':Int) (d:CmpD):Bool:=decide (0<d.ps.length)&&coreB d.a d.b d.c a' b' c'
def takeB (a' b' c':Int) (ps':List ByteArray) (ds:List CmpD):Bool:=ds.all (holdsD a' b' c' ps')&&(decide (ps'.length=0)||ds.any (asksD a' b' c'))
def inRB (a' b' c':Int) (ps':List ByteArray) (dss:List (List CmpD)):Bool:=verB a' b' c' ps'&&dss.any (takeB a' b' c' ps')
theorem any_take {α:Type} (f:α→Bool) (l:List α) (k:Nat) (h:k<l.length):(l.take (k+1)).any f=((l.take k).any f||f l[k]):=by
 rw [List.take_succ_eq_append_getElem h,List.any_append];simp
theorem all_at {α:Type} (f:α→Bool) (l:List α) (k:Nat) (h:k<l.length) (hf:f l[k]=false):l.all f=false:=by
 rw [List.all_eq_false];exact ⟨l[k],List.getElem_mem h,by simp [hf]⟩
theorem all_take {α:Type} (f:α→Bool) (l:List α) (k:Nat) (h:k<l.length):(l.take (k+1)).all f=((l.take k).all f&&f l[k]):=by
 rw [List.take_succ_eq_append_getElem h,List.all_append];simp
theorem sameNums_c (a b c:Int) (q:Option Addr) (n cap:Nat) (a' b' c':Int) (q':Option Addr) (n' cap':Nat) (w:World):
  Calls Tryz.prog 235 #[.agg #[.int .i64 a,.int .i64 b,.int .i64 c,.slice q n cap],.agg #[.int .i64 a',.int .i64 b',.int .i64 c',.slice q' n' cap']] w fun e w'=>e=.returned (.bool (coreB a b c a' b' c'))∧Below w.heap.size w w':=by
 cases ha:(a == a') with
 |false=>
  have e:coreB a b c a' b' c'=false:=by rw [coreB,ha];rfl
  rw [e]
  go_enter Tryz.func235,Tryz.ntmps235
  go_wp2
  go_ret
  exact ⟨rfl,two_box _ _⟩
 |true=>
 cases hb:(b == b') with
 |false=>
  have e:coreB a b c a' b' c'=false:=by rw [coreB,hb,Bool.and_false];rfl
  rw [e]
  go_enter Tryz.func235,Tryz.ntmps235
  go_wp2
  go_ret
  exact ⟨rfl,two_box _ _⟩
 |true=>
  have e:coreB a b c a' b' c'=(c == c'):=by rw [coreB,ha,hb];rfl
  rw [e]
  clear e
  go_enter Tryz.func235,Tryz.ntmps235
  go_wp2
  go_ret
  exact ⟨rfl,two_box _ _⟩
theorem take_end (a' b' c':Int) (ps':List ByteArray) (ds:List CmpD) (h:(ds.take ds.length).all (holdsD a' b' c' ps')=true):takeB a' b' c' ps' ds=(decide (ps'.length=0)||(ds.take ds.length).any (asksD a' b' c')):=by
 rw [List.take_length] at h ⊢
 rw [takeB,h,Bool.true_and]
theorem len_beq (n:Nat):((n:Int) == 0)=decide (n=0):=by
 by_cases h:n=0
 ·simp [h]
 ·have: ¬(n:Int)=0:=by omega
  simp [h]
theorem allTake_c (S:Nat→Prop) (v:Value) (ds:List CmpD) (a' b' c':Int) (u':Value) (ps':List ByteArray) (w:World) (hv:CmpsIn S w v ds) (hB: ∀ b,S b→b<w.heap.size) (hw:wtC ds≤1048576) (hu':Reads w u' (strsV ps')) (hb':bulkS ps'≤1048576):
    Calls Tryz.prog 164 #[v,.agg #[.int .i64 a',.int .i64 b',.int .i64 c',u']] w fun e w'=>e=.returned (.bool (takeB a' b' c' ps' ds))∧Below w.heap.size w w':=by
  obtain ⟨a,cap,rfl,hl,hc,ha⟩:=hv
  unfold maxLen at hl
  have hrv: ∀ w1,Below w.heap.size w w1→Reads w1 u' (strsV ps'):=fun w1 h=>hu'.below h
  have hn':ps'.length≤1048576:=by unfold bulkS at hb';omega
  obtain ⟨q',cap',rfl,_,_⟩:=reads_strs hu'
  have HR:Hid (∀ w1,Below w.heap.size w w1→Reads w1 (.slice q' ps'.length cap') (strsV ps')):=hrv
  have F0:=four_new w 30 (.int .i64 a') (.int .i64 b') (.int .i64 c') (.slice q' ps'.length cap')
  have hbx: ∀ o,Below w.heap.size w (w.alloc o):=fun o=>(Below.refl _ _).alloc (Nat.le_refl _) _
  clear hu' hrv
  go_enter Tryz.func164,Tryz.ntmps164
  go_wp2_with fail
  go_loopw [5,14] (fun v5 vi wr=>∃ (k:Nat) (p:Bool),k≤ds.length∧vi=.int .i64 (k:Int)∧v5=.bool p∧Hid (p=(decide (ps'.length=0)||(ds.take k).any (asksD a' b' c')))∧Hid ((ds.take k).all (holdsD a' b' c' ps')=true)∧Below w.heap.size w wr∧Four wr w.heap.size 30 (.int .i64 a') (.int .i64 b') (.int .i64 c') (.slice q' ps'.length cap')) (fun _ vi _=>ds.length-(intOf vi).toNat)
  case atStart=>exact ⟨0,_,Nat.zero_le _,rfl,rfl,(by show _=_;rw [len_beq];simp),(by show _=_;simp),hbx _,F0⟩
  case round=>
    obtain ⟨k,p,hk,rfl,rfl,hp,hall,hbr,hF⟩:=hrel
    clear F0
    by_cases hlt':k<ds.length
    · rcases ha with rfl|⟨b,off,us,rfl,hlt,ha⟩
      · simp at hlt'
      obtain ⟨e0,e1,e2,e3,e4,hu,hsn⟩:=ha k hlt'
      have hlt2:b<w.heap.size:=hB b hlt
      rw [←hbr.cell (by simpa using hlt2)] at e0 e1 e2 e3 e4
      have hbk:bulkS ds[k].ps≤1048576:=by have:=bulk_wtC (List.getElem_mem hlt');omega
      have hpl:ds[k].ps.length≤1048576:=by unfold bulkS at hbk;omega
      have hr1: ∀ w1,Below wr.heap.size wr w1→Reads w1 (us k) (strsV ds[k].ps):=fun w1 h=>(hu.keep (.of (hbr.trans (h.mono hbr.size)) hB)).reads (fun b hb=>Nat.lt_of_lt_of_le (hB b hb) (Nat.le_trans hbr.size h.size))
      have HA:Hid (∀ q:Bool,q=holdsD a' b' c' ps' ds[k]→q=true→(ds.take (k+1)).all (holdsD a' b' c' ps')=true):=fun q h1 h2=>by rw [all_take _ _ _ hlt',hall.out, ←h1,h2];rfl
      have HX:Hid (holdsD a' b' c' ps' ds[k]=false→takeB a' b' c' ps' ds=false):=fun h=>by rw [takeB,all_at _ _ k hlt' h];rfl
      have HY:Hid (∀ q:Bool,q=(p||asksD a' b' c' ds[k])→q=(decide (ps'.length=0)||(ds.take (k+1)).any (asksD a' b' c'))):=fun q h=>by rw [any_take _ _ _ hlt', ←Bool.or_assoc, ←hp.out];exact h
      obtain ⟨d,hd⟩: ∃ d,d=ds[k]:=⟨_,rfl⟩
      rw [←hd] at e0 e1 e2 e3 hr1 hbk hpl HA HX HY
      obtain ⟨u,hu0⟩: ∃ u,u=us k:=⟨_,rfl⟩
      rw [←hu0] at e4 hr1
      obtain ⟨uq,ucap,hu2,_,_⟩:=reads_strs (hr1 wr (Below.refl _ _))
      subst hu2
      obtain ⟨r,hr⟩: ∃ r,r=holdsD a' b' c' ps' d:=⟨_,rfl⟩
      have HC:Hid (∀ w1,Below wr.heap.size wr w1→Calls Tryz.prog 234 #[.agg #[.int .i64 d.o,.int .i64 d.a,.int .i64 d.b,.int .i64 d.c,.slice uq d.ps.length ucap],.agg #[.int .i64 a',.int .i64 b',.int .i64 c',.slice q' ps'.length cap']] w1 fun e w'=>e=.returned (.bool r)∧Below w1.heap.size w1 w'):=fun w1 h=>by rw [hr];exact implCmpOk_c _ _ _ _ _ d.ps _ _ _ _ ps' w1 (hr1 w1 h) (HR.out w1 (hbr.trans (h.mono hbr.size))) hbk hb'
      rw [←hr] at HX
      have HA2:Hid (r=true→(ds.take (k+1)).all (holdsD a' b' c' ps')=true):=HA.out r hr
      have hbw: ∀ o,Below wr.heap.size wr (wr.alloc o):=fun o=>(Below.refl _ _).alloc (Nat.le_refl _) _
      have hC0:=five_new wr 214 (.int .i64 d.o) (.int .i64 d.a) (.int .i64 d.b) (.int .i64 d.c) (.slice uq d.ps.length ucap)
      have hF1:=hF.keep (hbw (.cells #[.int .i64 d.o,.int .i64 d.a,.int .i64 d.b,.int .i64 d.c,.slice uq d.ps.length ucap] 214))
      obtain ⟨x0,x1,x2,x3⟩:=hF.cells
      have hNw:w.heap.size<wr.heap.size:=hF.lt
      have hki:(k:Int)<(ds.length:Int):=by omega
      clear ha hu hd hu0 hr1 hr HA hsn hbk
      cases r with
      |false=>
        have HX2:Hid (takeB a' b' c' ps' ds=false):=HX.out rfl
        clear HX
        go_wp2_with (go_at_call 234;refine (HC.out _ (hbw _)).mono ?_;rintro e w1 ⟨rfl,b1⟩)
        go_ret
        exact ⟨by rw [HX2.out];rfl,hbr.trans (((hbw _).trans (b1.mono (by simp))).mono hbr.size)⟩
      |true=>
        have HA3:=HA2.out rfl
        have HA4:Hid ((ds.take (k+1)).all (holdsD a' b' c' ps')=true):=HA3
        clear HX HA2 HA3
        cases p with
        |true=>
          have HY2:Hid (true=(decide (ps'.length=0)||(ds.take (k+1)).any (asksD a' b' c'))):=HY.out true rfl
          clear HY
          go_wp2_with (go_at_call 234;refine (HC.out _ (hbw _)).mono ?_;rintro e w1 ⟨rfl,b1⟩;have G1:=hF1.keep b1)
          go_roundw
          case rel=>exact ⟨k+1,true,by omega,by go_num,rfl,HY2,HA4,hbr.trans (((hbw _).trans (b1.mono (by simp))).mono hbr.size),G1⟩
          case measure=>simp [intOf];omega
        |false=>
          by_cases hgt:0<d.ps.length
          · have hgt':(0:Int)<(d.ps.length:Int):=by omega
            obtain ⟨r2,hr2⟩: ∃ r,r=coreB d.a d.b d.c a' b' c':=⟨_,rfl⟩
            have HY2:Hid (r2=(decide (ps'.length=0)||(ds.take (k+1)).any (asksD a' b' c'))):=HY.out r2 (by rw [asksD,decide_eq_true hgt,hr2];rfl)
            have HN:Hid (∀ w1,Calls Tryz.prog 235 #[.agg #[.int .i64 d.a,.int .i64 d.b,.int .i64 d.c,.slice uq d.ps.length ucap],.agg #[.int .i64 a',.int .i64 b',.int .i64 c',.slice q' ps'.length cap']] w1 fun e w'=>e=.returned (.bool r2)∧Below w1.heap.size w1 w'):=fun w1=>by rw [hr2];exact sameNums_c _ _ _ _ _ _ _ _ _ _ _ _ w1
            clear HY hr2 hgt
            go_wp2_with (first
              | (go_at_call 234; refine (HC.out _ (hbw _)).mono ?_; rintro e w1 ⟨rfl, b1⟩; have G1 := hF1.keep b1; have D1 := hC0.keep b1; obtain ⟨y0, y1, y2, y3⟩ := G1.cells; obtain ⟨z0, z1, z2, z3, z4⟩ := D1.cells)
              | (go_at_call 235; refine (HN.out _).mono ?_; rintro e w2 ⟨rfl, b2⟩))
            go_roundw
            case rel=>exact ⟨k+1,r2,by omega,by go_num,rfl,HY2,HA4,hbr.trans ((((hbw _).trans (b1.mono (by simp))).trans (b2.mono (Nat.le_trans (hbw (.cells #[.int .i64 d.o,.int .i64 d.a,.int .i64 d.b,.int .i64 d.c,.slice uq d.ps.length ucap] 214)).size b1.size))).mono hbr.size),G1.keep b2⟩
            case measure=>simp [intOf];omega
          · have hgt': ¬(0:Int)<(d.ps.length:Int):=by omega
            have HY2:Hid (false=(decide (ps'.length=0)||(ds.take (k+1)).any (asksD a' b' c'))):=HY.out false (by rw [asksD,decide_eq_false hgt];rfl)
            clear HY hgt
            go_wp2_with (go_at_call 234;refine (HC.out _ (hbw _)).mono ?_;rintro e w1 ⟨rfl,b1⟩;have G1:=hF1.keep b1;have D1:=hC0.keep b1;obtain ⟨y0,y1,y2,y3⟩:=G1.cells;obtain ⟨z0,z1,z2,z3,z4⟩:=D1.cells)
            go_roundw
            case rel=>exact ⟨k+1,false,by omega,by go_num,rfl,HY2,HA4,hbr.trans (((hbw _).trans (b1.mono (by simp))).mono hbr.size),G1⟩
            case measure=>simp [intOf];omega
    · have he:k=ds.length:=by omega
      subst he
      have HE:Hid (takeB a' b' c' ps' ds=p):=by show _=_;rw [take_end _ _ _ _ _ hall.out, ←hp.out]
      clear ha hall hp
      go_wp2_with fail
      go_ret
      exact ⟨by rw [HE.out];rfl,hbr⟩
theorem inRangeFn_c (S:Nat→Prop) (v:Value) (ds:List CmpD) (B:Nat) (a' b' c':Int) (u':Value) (ps':List ByteArray) (w:World) (hv:CmpsIn S w v ds) (hB: ∀ b,S b→b<w.heap.size) (hw:wtC ds≤1048576) (hu':Reads w u' (strsV ps')) (hb':bulkS ps'≤1048576) (hF:Four w B 30 (.int .i64 a') (.int .i64 b') (.int .i64 c') u'):
  Calls Tryz.prog 163 #[v,.pointer (some ⟨B,0,none⟩)] w fun e w'=>e=.returned (.bool (takeB a' b' c' ps' ds))∧Below w.heap.size w w':=by
 have HA:Hid (Calls Tryz.prog 164 #[v,.agg #[.int .i64 a',.int .i64 b',.int .i64 c',u']] w fun e w'=>e=.returned (.bool (takeB a' b' c' ps' ds))∧Below w.heap.size w w'):=allTake_c S v ds a' b' c' u' ps' w hv hB hw hu' hb'
 obtain ⟨q',cap',rfl,_,_⟩:=reads_strs hu'
 obtain ⟨a,cap,rfl,_⟩:=hv
 obtain ⟨x0,x1,x2,x3⟩:=hF.cells
 clear hu' hF
 go_enter Tryz.func163,Tryz.ntmps163
 go_wp2_with (go_at_call 164;refine HA.out.mono ?_;rintro e w1 ⟨rfl,b1⟩)
 go_ret
 exact ⟨rfl,b1⟩
theorem any_at {α:Type} (f:α→Bool) (l:List α) (k:Nat) (h:k<l.length) (hf:f l[k]=true):l.any f=true:=by
 rw [List.any_eq_true];exact ⟨l[k],List.getElem_mem h,hf⟩
theorem indexRange_c (S:Nat→Prop) (v:Value) (dss:List (List CmpD)) (B:Nat) (a' b' c':Int) (u':Value) (ps':List ByteArray) (w:World) (hv:RangeIn S w v dss) (hB: ∀ b,S b→b<w.heap.size) (hw:wtR dss≤1048576) (hu':Reads w u' (strsV ps')) (hb':bulkS ps'≤1048576) (hF:Four w B 30 (.int .i64 a') (.int .i64 b') (.int .i64 c') u'):
  Calls Tryz.prog 233 #[v,.func (.func 163) #[] #[.pointer (some ⟨B,0,none⟩)]] w fun e w'=>∃ r:Int,e=.returned (.int .i64 r)∧decide (r≥0)=dss.any (takeB a' b' c' ps')∧Below w.heap.size w w':=by
 obtain ⟨a,cap,rfl,hl,hc,ha⟩:=hv
 unfold maxLen at hl
 go_enter Tryz.func233,Tryz.ntmps233
 go_wp2_with fail
 go_loopw [8] (fun vi wr=>∃ k:Nat,k≤dss.length∧vi=.int .i64 (k:Int)∧Hid ((dss.take k).any (takeB a' b' c' ps')=false)∧Below w.heap.size w wr) (fun vi _=>dss.length-(intOf vi).toNat)
 case atStart=>exact ⟨0,Nat.zero_le _,rfl,(by show _=_;simp),Below.refl _ _⟩
 case round=>
  obtain ⟨k,hk,rfl,hany,hbr⟩:=hrel
  by_cases hlt':k<dss.length
  ·rcases ha with rfl|⟨b,off,vs,rfl,hlt,ha⟩
   ·simp at hlt'
   obtain ⟨e0,hu⟩:=ha k hlt'
   have hlt2:b<w.heap.size:=hB b hlt
   rw [←hbr.cell (by simpa using hlt2)] at e0
   have hwt:wtC dss[k]≤1048576:=by have:=wtC_wtR (List.getElem_mem hlt');omega
   have hr1:CmpsIn S wr (vs k) dss[k]:=hu.keep (.of hbr hB)
   have hBr: ∀ b,S b→b<wr.heap.size:=fun b h=>Nat.lt_of_lt_of_le (hB b h) hbr.size
   have HT:Hid (takeB a' b' c' ps' dss[k]=true→dss.any (takeB a' b' c' ps')=true):=fun h=>any_at _ _ k hlt' h
   have HN:Hid (takeB a' b' c' ps' dss[k]=false→(dss.take (k+1)).any (takeB a' b' c' ps')=false):=fun h=>by rw [any_take _ _ _ hlt',hany.out,h];rfl
   obtain ⟨d,hd⟩: ∃ d,d=dss[k]:=⟨_,rfl⟩
   rw [←hd] at hr1 hwt HT HN
   obtain ⟨x,hx⟩: ∃ x,x=vs k:=⟨_,rfl⟩
   rw [←hx] at e0 hr1
   obtain ⟨r,hr⟩: ∃ r,r=takeB a' b' c' ps' d:=⟨_,rfl⟩
   rw [←hr] at HT HN
   have HC:Hid (Calls Tryz.prog 163 #[x,.pointer (some ⟨B,0,none⟩)] wr fun e w'=>e=.returned (.bool r)∧Below wr.heap.size wr w'):=by rw [hr];exact inRangeFn_c S x d B a' b' c' u' ps' wr hr1 hBr hwt (hu'.below hbr) hb' ((hbr.block B hF.lt).trans hF)
   obtain ⟨uq,ucap,hu3,_⟩:=id hr1
   subst hu3
   have hki:(k:Int)<(dss.length:Int):=by omega
   clear ha hu hd hx hr hr1 hu' hF
   cases r with
   |true=>
    have HT2:Hid (dss.any (takeB a' b' c' ps')=true):=HT.out rfl
    clear HT HN
    go_wp2_with (go_at_call 163;refine HC.out.mono ?_;rintro e w1 ⟨rfl,b1⟩)
    go_ret
    exact ⟨(k:Int),rfl,by rw [HT2.out];exact decide_eq_true (by omega),hbr.trans (b1.mono hbr.size)⟩
   |false=>
    have HN2:Hid ((dss.take (k+1)).any (takeB a' b' c' ps')=false):=HN.out rfl
    clear HT HN
    go_wp2_with (go_at_call 163;refine HC.out.mono ?_;rintro e w1 ⟨rfl,b1⟩)
    go_roundw
    case rel=>exact ⟨k+1,by omega,by go_num,HN2,hbr.trans (b1.mono hbr.size)⟩
    case measure=>simp [intOf];omega
  ·have he:k=dss.length:=by omega
   subst he
   have HE:Hid (dss.any (takeB a' b' c' ps')=false):=by have:=hany.out;rw [List.take_length] at this;exact this
   clear ha hany hu' hF
   go_wp2_with fail
   go_ret
   exact ⟨-1,rfl,by rw [HE.out];rfl,hbr⟩
theorem containsRange_c (S:Nat→Prop) (v:Value) (dss:List (List CmpD)) (B:Nat) (a' b' c':Int) (u':Value) (ps':List ByteArray) (w:World) (hv:RangeIn S w v dss) (hB: ∀ b,S b→b<w.heap.size) (hw:wtR dss≤1048576) (hu':Reads w u' (strsV ps')) (hb':bulkS ps'≤1048576) (hF:Four w B 30 (.int .i64 a') (.int .i64 b') (.int .i64 c') u'):
  Calls Tryz.prog 162 #[v,.func (.func 163) #[] #[.pointer (some ⟨B,0,none⟩)]] w fun e w'=>e=.returned (.bool (dss.any (takeB a' b' c' ps')))∧Below w.heap.size w w':=by
 have HA:=indexRange_c S v dss B a' b' c' u' ps' w hv hB hw hu' hb' hF
 obtain ⟨a,cap,rfl,_⟩:=hv
 obtain ⟨R,hR⟩: ∃ R,R=dss.any (takeB a' b' c' ps'):=⟨_,rfl⟩
 rw [←hR] at HA
 rw [←hR]
 have HA':Hid (Calls Tryz.prog 233 #[.slice a dss.length cap,.func (.func 163) #[] #[.pointer (some ⟨B,0,none⟩)]] w fun e w'=>∃ r:Int,e=.returned (.int .i64 r)∧decide (r≥0)=R∧Below w.heap.size w w'):=HA
 clear HA hR hu' hF
 go_enter Tryz.func162,Tryz.ntmps162
 go_wp2_with (go_at_call 233;refine HA'.out.mono ?_;rintro e w1 ⟨r,rfl,hr,b1⟩;have HR:Hid (decide (r≥0)=R):=hr;clear hr)
 go_ret
 exact ⟨by rw [←HR.out];rfl,b1⟩
theorem implInRange_c (S:Nat→Prop) (v:Value) (dss:List (List CmpD)) (a' b' c':Int) (u':Value) (ps':List ByteArray) (w:World) (hv:RangeIn S w v dss) (hB: ∀ b,S b→b<w.heap.size) (hw:wtR dss≤1048576) (hu':Reads w u' (strsV ps')) (hb':bulkS ps'≤1048576):
    Calls Tryz.prog 88 #[v,.agg #[.int .i64 a',.int .i64 b',.int .i64 c',u']] w fun e w'=>e=.returned (.bool (inRB a' b' c' ps' dss))∧Below w.heap.size w w':=by
  have hbx: ∀ o,Below w.heap.size w (w.alloc o):=fun o=>(Below.refl _ _).alloc (Nat.le_refl _) _
  have F0:=four_new w 30 (.int .i64 a') (.int .i64 b') (.int .i64 c') u'
  have hmf: ∀ (fn:Fn) (first cap:Array Value) (w:World),(Instr.makeFunc fn first cap).run Tryz.prog w=.ok (.func fn first cap) w:=fun _ _ _ _=>rfl
  have hB1: ∀ w1,Below w.heap.size w w1→∀ b,S b→b<w1.heap.size:=fun w1 h b hb=>Nat.lt_of_lt_of_le (hB b hb) h.size
  obtain ⟨r1,hr1⟩: ∃ r,r=verB a' b' c' ps':=⟨_,rfl⟩
  obtain ⟨r2,hr2⟩: ∃ r,r=dss.any (takeB a' b' c' ps'):=⟨_,rfl⟩
  have HV:Hid (∀ w1,Below w.heap.size w w1→Calls Tryz.prog 161 #[.agg #[.int .i64 a',.int .i64 b',.int .i64 c',u']] w1 fun e w'=>e=.returned (.bool r1)∧Below w1.heap.size w1 w'):=fun w1 h=>by rw [hr1];exact implVerOk_c a' b' c' u' ps' w1 (hu'.below h) hb'
  have HC:Hid (∀ w1,Below w.heap.size w w1→Four w1 w.heap.size 30 (.int .i64 a') (.int .i64 b') (.int .i64 c') u'→Calls Tryz.prog 162 #[v,.func (.func 163) #[] #[.pointer (some ⟨w.heap.size,0,none⟩)]] w1 fun e w'=>e=.returned (.bool r2)∧Below w1.heap.size w1 w'):=fun w1 h hF=>by rw [hr2];exact containsRange_c S v dss w.heap.size a' b' c' u' ps' w1 (hv.keep (.of h hB)) (hB1 w1 h) hw (hu'.below h) hb' hF
  have e:inRB a' b' c' ps' dss=(r1&&r2):=by rw [inRB,hr1,hr2]
  rw [e]
  obtain ⟨q',cap',rfl,_,_⟩:=reads_strs hu'
  obtain ⟨a,cap,rfl,_⟩:=hv
  clear hu' hr1 hr2 e
  cases r1 with
  |false=>
    rw [Bool.false_and]
    go_enter Tryz.func88,Tryz.ntmps88
    go_wp2_with (go_at_call 161;refine (HV.out _ (hbx _)).mono ?_;rintro e w1 ⟨rfl,b1⟩)
    go_ret
    exact ⟨rfl,(hbx _).trans (b1.mono (by simp))⟩
  |true=>
    rw [Bool.true_and]
    go_enter Tryz.func88,Tryz.ntmps88
    go_wp2_with (first
      | (go_at_call 161; refine (HV.out _ (hbx _)).mono ?_; rintro e w1 ⟨rfl, b1⟩; have F1 := F0.keep b1; have k1 := (hbx (.cells #[.int .i64 a', .int .i64 b', .int .i64 c', .slice q' ps'.length cap'] 30)).trans (b1.mono (by simp)))
      | (go_at_call 162; refine (HC.out _ k1 F1).mono ?_; rintro e w2 ⟨rfl, b2⟩))
    go_ret
    exact ⟨rfl,k1.trans (b2.mono k1.size)⟩
end Go.Proofs.YtlfmefojcmpfeaaGreatDoor
