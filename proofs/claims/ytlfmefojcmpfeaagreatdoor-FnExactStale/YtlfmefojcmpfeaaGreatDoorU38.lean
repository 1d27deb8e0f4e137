/-
  Contracts for the walks and pure facts, several texts in one: each theorem says what it proves, and under which conditions.
-/
import Derived.Test.YtlfmefojcmpfeaaGreatDoorUT
import Derived.Test.YtlfmefojcmpfeaaGreatDoorU4
set_option linter.unusedSimpArgs false
set_option linter.unusedVariables false
set_option maxHeartbeats 16000000
set_option maxRecDepth 100000
namespace Go.Proofs
open Go.Shelf
def Tryz.lays217_ren :Go.Shelf.Ren:=⟨fun|217=>299|266=>323|n=>n,fun|9=>9|5=>5|3=>3|n=>n,fun|n=>n⟩
theorem Tryz.lays217 : Go.Proofs.Lays.n217 Tryz.prog Tryz.lays217_ren := {
  mixed := by kernel_rfl
  f217 := Tryz.func299.trans (congrArg some (by kernel_rfl))
  f266 := Tryz.func323.trans (congrArg some (by kernel_rfl))
  t3 := Tryz.underlying3
  a3 := Tryz.isAgg3
  z3 := Tryz.sizeOf3
  v3 := Tryz.zeroValue3
  t5 := Tryz.underlying5
  a5 := Tryz.isAgg5
  z5 := Tryz.sizeOf5
  v5 := Tryz.zeroValue5
  t9 := Tryz.underlying9
  a9 := Tryz.isAgg9
  z9 := Tryz.sizeOf9
  v9 := Tryz.zeroValue9 }
open Go.RowKit Go.Lib in
theorem Tryz.stringslite_IndexByte (s:ByteArray) (c:Int) (w:World):
  Calls Tryz.prog 299 #[.string s,.int .u8 c] w fun e w'=>e=.returned (.int .i64 (Lib.indexByte s.data.toList c.toNat.toUInt8))∧w'=w:=Any.stringslite_IndexByte Tryz.lays217 s c w
end Go.Proofs
namespace Go.Proofs.YtlfmefojcmpfeaaGreatDoor
open Go.RowKit
def cutD (s:ByteArray) (c:UInt8):ByteArray × ByteArray × Bool:=if Lib.indexByte s.data.toList c= -1 then (s,⟨#[]⟩,false) else (s.extract 0 (Lib.indexByte s.data.toList c).toNat,s.extract ((Lib.indexByte s.data.toList c).toNat+1) s.size,true)
theorem cutD_none {s:ByteArray} {c:UInt8} (h:Lib.indexByte s.data.toList c= -1):cutD s c=(s,⟨#[]⟩,false):=by unfold cutD;rw [if_pos h]
theorem cutD_some {s:ByteArray} {c:UInt8} {k:Nat} (h:Lib.indexByte s.data.toList c=(k:Int)):cutD s c=(s.extract 0 k,s.extract (k+1) s.size,true):=by
 unfold cutD
 rw [if_neg (by omega),h]
 rfl
theorem index_lt {s:ByteArray} {c:UInt8} {k:Nat} (h:Lib.indexByte s.data.toList c=(k:Int)):k<s.size:=by
 have h1:=(Lib.indexByte_some h).1
 have h2:=(List.getElem?_eq_some_iff.1 h1).1
 have h3:s.data.toList.length=s.size:=by rw [Array.length_toList];rfl
 omega
theorem index10_c (s:ByteArray) (w:World) (hs:s.size≤1048576):
  Calls Tryz.prog 291 #[.string s,.string ⟨#[10]⟩] w fun e w'=>e=.returned (.int .i64 (Lib.indexByte s.data.toList 10))∧w=w':=by
 by_cases he:s=⟨#[10]⟩
 ·subst he
  go_enter Tryz.func291,Tryz.ntmps291
  go_wp2
  go_ret
  exact ⟨rfl,rfl⟩
 ·have hne:((⟨#[10]⟩:ByteArray).toList == s.toList)=false:=by
   rw [beq_eq_false_iff_ne]
   intro h
   have h2:[10]=s.data.toList:=by simpa [ByteArray.toList_eq] using h
   exact he (ByteArray.ext (Array.toList_inj.1 h2.symm))
  have e7:(⟨#[10]⟩:ByteArray).toList=[10]:=by simp [ByteArray.toList_eq]
  have hne2:([10] == s.toList)=false:=by rw [e7] at hne;exact hne
  clear e7
  have HI:=hidden (Tryz.stringslite_IndexByte s 10)
  have hu:(10:Int).toNat.toUInt8=10:=rfl
  rw [hu] at HI
  go_enter Tryz.func291,Tryz.ntmps291
  go_wp2_with (go_at_call 299;refine (HI.out _).mono ?_;rintro e w' ⟨rfl,rfl⟩)
  go_ret
  exact ⟨rfl,rfl⟩
theorem cutS10_c (s:ByteArray) (w:World) (hs:s.size≤1048576):
  Calls Tryz.prog 257 #[.string s,.string ⟨#[10]⟩] w fun e w'=>e=.returned (.tuple #[.string (cutD s 10).1,.string (cutD s 10).2.1,.bool (cutD s 10).2.2])∧Below w.heap.size w w':=by
 have HI:=hidden (fun w1=>index10_c s w1 hs)
 by_cases hm:Lib.indexByte s.data.toList 10= -1
 ·rw [hm] at HI
  rw [cutD_none hm]
  clear hm
  go_enter Tryz.func257,Tryz.ntmps257
  go_wp2_with (go_at_call 291;refine (HI.out _).mono ?_;rintro e w' ⟨rfl,rfl⟩)
  go_ret3
  exact ⟨rfl,Below.refl _ _⟩
 ·have hge:=Lib.indexByte_ge s.data.toList 10
  obtain ⟨k,hk⟩:=Int.eq_ofNat_of_zero_le (show 0≤Lib.indexByte s.data.toList 10 by omega)
  have hlt:=index_lt hk
  rw [hk] at HI
  rw [cutD_some hk]
  have h0:(0:Int)≤(k:Int):=by omega
  have h1:(k:Int)≤(s.size:Int):=by omega
  have h2:(k:Int)+1≤(s.size:Int):=by omega
  have h3:(0:Int)≤(k:Int)+1:=by omega
  have hwr:IntKind.i64.wrap ((k:Int)+1)=(k:Int)+1:=IntWalk.i64_in _ ⟨by omega,by omega⟩
  have htn:((k:Int)+1).toNat=k+1:=by omega
  clear hm hk hge
  go_enter Tryz.func257,Tryz.ntmps257
  go_wp2_with (go_at_call 291;refine (HI.out _).mono ?_;rintro e w' ⟨rfl,rfl⟩)
  refine wp_region_held_drew (S:=(fun _=>True)) (by kernel_rfl) ?SR10 (fun hHeld=>?_)
  case SR10=>(exact True.intro)
  refine tk 0 hHeld (h:=?_)
  refine tk 1 hHeld (h:=?_)
  refine tk 2 hHeld (h:=?_)
  refine tk 3 hHeld (h:=?_)
  refine tk 4 hHeld (h:=?_)
  refine tk 5 hHeld (h:=?_)
  refine tk 6 hHeld (h:=?_)
  refine tk 7 hHeld (h:=?_)
  refine tk 8 hHeld (h:=?_)
  refine tk 9 hHeld (h:=?_)
  refine tk 10 hHeld (h:=?_)
  refine tk 11 hHeld (h:=?_)
  refine wpAnyH_done (by kernel_rfl) ?_ _
  go_wp2_with fail
  go_ret3
  exact ⟨rfl,(Below.refl _ _).drew⟩
theorem cut10_c (s:ByteArray) (w:World) (hs:s.size≤1048576):
  Calls Tryz.prog 194 #[.string s,.string ⟨#[10]⟩] w fun e w'=>e=.returned (.tuple #[.string (cutD s 10).1,.string (cutD s 10).2.1,.bool (cutD s 10).2.2])∧Below w.heap.size w w':=by
 have HI:=cutS10_c s w hs
 obtain ⟨⟨x,y,z⟩,hx⟩: ∃ p,p=cutD s 10:=⟨_,rfl⟩
 rw [←hx] at HI ⊢
 clear hx
 have HI2:=hidden HI
 clear HI
 go_enter Tryz.func194,Tryz.ntmps194
 go_wp2_with (go_at_call 257;refine HI2.out.mono ?_;rintro e w' ⟨rfl,b1⟩)
 go_ret3
 exact ⟨rfl,b1⟩
theorem index64_c (s:ByteArray) (w:World) (hs:s.size≤1048576):
  Calls Tryz.prog 291 #[.string s,.string ⟨#[64]⟩] w fun e w'=>e=.returned (.int .i64 (Lib.indexByte s.data.toList 64))∧w=w':=by
 by_cases he:s=⟨#[64]⟩
 ·subst he
  go_enter Tryz.func291,Tryz.ntmps291
  go_wp2
  go_ret
  exact ⟨rfl,rfl⟩
 ·have hne:((⟨#[64]⟩:ByteArray).toList == s.toList)=false:=by
   rw [beq_eq_false_iff_ne]
   intro h
   have h2:[64]=s.data.toList:=by simpa [ByteArray.toList_eq] using h
   exact he (ByteArray.ext (Array.toList_inj.1 h2.symm))
  have e7:(⟨#[64]⟩:ByteArray).toList=[64]:=by simp [ByteArray.toList_eq]
  have hne2:([64] == s.toList)=false:=by rw [e7] at hne;exact hne
  clear e7
  have HI:=hidden (Tryz.stringslite_IndexByte s 64)
  have hu:(64:Int).toNat.toUInt8=64:=rfl
  rw [hu] at HI
  go_enter Tryz.func291,Tryz.ntmps291
  go_wp2_with (go_at_call 299;refine (HI.out _).mono ?_;rintro e w' ⟨rfl,rfl⟩)
  go_ret
  exact ⟨rfl,rfl⟩
theorem cutS64_c (s:ByteArray) (w:World) (hs:s.size≤1048576):
  Calls Tryz.prog 257 #[.string s,.string ⟨#[64]⟩] w fun e w'=>e=.returned (.tuple #[.string (cutD s 64).1,.string (cutD s 64).2.1,.bool (cutD s 64).2.2])∧Below w.heap.size w w':=by
 have HI:=hidden (fun w1=>index64_c s w1 hs)
 by_cases hm:Lib.indexByte s.data.toList 64= -1
 ·rw [hm] at HI
  rw [cutD_none hm]
  clear hm
  go_enter Tryz.func257,Tryz.ntmps257
  go_wp2_with (go_at_call 291;refine (HI.out _).mono ?_;rintro e w' ⟨rfl,rfl⟩)
  go_ret3
  exact ⟨rfl,Below.refl _ _⟩
 ·have hge:=Lib.indexByte_ge s.data.toList 64
  obtain ⟨k,hk⟩:=Int.eq_ofNat_of_zero_le (show 0≤Lib.indexByte s.data.toList 64 by omega)
  have hlt:=index_lt hk
  rw [hk] at HI
  rw [cutD_some hk]
  have h0:(0:Int)≤(k:Int):=by omega
  have h1:(k:Int)≤(s.size:Int):=by omega
  have h2:(k:Int)+1≤(s.size:Int):=by omega
  have h3:(0:Int)≤(k:Int)+1:=by omega
  have hwr:IntKind.i64.wrap ((k:Int)+1)=(k:Int)+1:=IntWalk.i64_in _ ⟨by omega,by omega⟩
  have htn:((k:Int)+1).toNat=k+1:=by omega
  clear hm hk hge
  go_enter Tryz.func257,Tryz.ntmps257
  go_wp2_with (go_at_call 291;refine (HI.out _).mono ?_;rintro e w' ⟨rfl,rfl⟩)
  refine wp_region_held_drew (S:=(fun _=>True)) (by kernel_rfl) ?SR20 (fun hHeld=>?_)
  case SR20=>(exact True.intro)
  refine tk 0 hHeld (h:=?_)
  refine tk 1 hHeld (h:=?_)
  refine tk 2 hHeld (h:=?_)
  refine tk 3 hHeld (h:=?_)
  refine tk 4 hHeld (h:=?_)
  refine tk 5 hHeld (h:=?_)
  refine tk 6 hHeld (h:=?_)
  refine tk 7 hHeld (h:=?_)
  refine tk 8 hHeld (h:=?_)
  refine tk 9 hHeld (h:=?_)
  refine tk 10 hHeld (h:=?_)
  refine tk 11 hHeld (h:=?_)
  refine wpAnyH_done (by kernel_rfl) ?_ _
  go_wp2_with fail
  go_ret3
  exact ⟨rfl,(Below.refl _ _).drew⟩
theorem cut64_c (s:ByteArray) (w:World) (hs:s.size≤1048576):
  Calls Tryz.prog 194 #[.string s,.string ⟨#[64]⟩] w fun e w'=>e=.returned (.tuple #[.string (cutD s 64).1,.string (cutD s 64).2.1,.bool (cutD s 64).2.2])∧Below w.heap.size w w':=by
 have HI:=cutS64_c s w hs
 obtain ⟨⟨x,y,z⟩,hx⟩: ∃ p,p=cutD s 64:=⟨_,rfl⟩
 rw [←hx] at HI ⊢
 clear hx
 have HI2:=hidden HI
 clear HI
 go_enter Tryz.func194,Tryz.ntmps194
 go_wp2_with (go_at_call 257;refine HI2.out.mono ?_;rintro e w' ⟨rfl,b1⟩)
 go_ret3
 exact ⟨rfl,b1⟩
theorem sizeStrsM_c (v:Value) (ss:List ByteArray) (w:World) (left:Int) (hl0:0≤left) (hl1:left≤1048576) (hv:Reads w v (strsV ss)) (hn:ss.length≤maxLen) (hs: ∀ s∈ss,s.size≤maxLen):
  Calls Tryz.prog 206 #[v,.int .i64 left] w fun e w'=>e=.returned (.int .i64 (leftS ss left))∧w=w':=by
 obtain ⟨a,cap,rfl,_,hc⟩:=reads_strs hv
 clear hv
 unfold maxLen at hn hs
 by_cases h0:left<(ss.length:Int)
 ·have hneg:left-(ss.length:Int)<0:=by omega
  have e:leftS ss left= -1:=by rw [leftS,bulkS,if_neg (by omega)]
  rw [e]
  clear hc hs
  go_enter Tryz.func206,Tryz.ntmps206
  go_wp2
  go_ret
  exact ⟨rfl,rfl⟩
 ·have hpos: ¬(left-(ss.length:Int)<0):=by omega
  rcases hc with rfl|⟨b,off,rfl,hlt,hc⟩
  ·go_enter Tryz.func206,Tryz.ntmps206
   go_wp2
   go_loop [1,5] (fun vl vi=>vl=.int .i64 left∧vi=.int .i64 0) (fun _ _=>0)
   case atStart=>exact ⟨rfl,rfl⟩
   case round=>
    obtain ⟨rfl,rfl⟩:=hrel
    go_wp2
    go_ret
    exact ⟨by rw [show leftS [] left=left by simp [leftS,bulkS,hl0]];rfl,rfl⟩
  ·go_enter Tryz.func206,Tryz.ntmps206
   go_wp2
   go_loop [1,5] (fun vl vi=>∃ (k:Nat) (l:Int),k≤ss.length∧vi=.int .i64 (k:Int)∧vl=.int .i64 l∧0≤l∧l≤1048576∧Hid (l=left-(ss.length:Int)-(((ss.take k).map ByteArray.size).sum:Int))) (fun _ vi=>ss.length-(intOf vi).toNat)
   case atStart=>exact ⟨0,_,Nat.zero_le _,rfl,rfl,by omega,by omega,by show _=_;simp⟩
   case round=>
    obtain ⟨k,l,hk,rfl,rfl,hq0,hq1,hl⟩:=hrel
    by_cases hlt':k<ss.length
    ·have hcx:=hc k hlt'
     have hsk:=hs ss[k] (List.getElem_mem hlt')
     have hsum:=sum_take_succ ss k hlt'
     obtain ⟨t,ht⟩: ∃ t,t=ss[k]:=⟨_,rfl⟩
     rw [←ht] at hcx hsk hsum
     have HS:Hid (((ss.take (k+1)).map ByteArray.size).sum=((ss.take k).map ByteArray.size).sum+t.size):=hsum
     have hki:(k:Int)<(ss.length:Int):=by omega
     clear hc hs ht hsum
     by_cases hneg:l-(t.size:Int)<0
     ·have e:leftS ss left= -1:=by
       have h1:=HS.out;have h2:=hl.out;have h3:=sum_take_le ss (k+1)
       rw [leftS,bulkS,if_neg (by omega)]
      have HE:Hid (leftS ss left= -1):=e
      clear e
      go_wp2
      go_ret
      exact ⟨by rw [HE.out];rfl,rfl⟩
     ·go_wp2
      go_round
      case rel=>exact ⟨k+1,l-(t.size:Int),by omega,by go_num,rfl,by omega,by omega,(by show _=_;rw [HS.out,hl.out];omega)⟩
      case measure=>simp [intOf];omega
    ·have he:k=ss.length:=by omega
     subst he
     have e:leftS ss left=l:=by
      have h2:=hl.out
      rw [List.take_length] at h2
      rw [leftS,bulkS,if_pos (by omega)];omega
     have HE:Hid (leftS ss left=l):=e
     clear hc hs e
     go_wp2
     go_ret
     exact ⟨by rw [HE.out];rfl,rfl⟩
structure CmdD where
 t:ByteArray
 acts:List ByteArray
def wtCmd (d:CmdD):Nat:=d.t.size+bulkS d.acts
def shCmd :Sh CmdD where
 n:=2
 lies S w cs d:=∃ u0,cs=[.string d.t,u0]∧d.t.size≤maxLen∧RdB S w u0 (strsV d.acts)∧saneP d.acts
 keep hk h:=by obtain ⟨u0,h0,h1,h2,h3⟩:=h;exact ⟨u0,h0,h1,h2.keep hk,h3⟩
 mono hS h:=by obtain ⟨u0,h0,h1,h2,h3⟩:=h;exact ⟨u0,h0,h1,h2.mono hS,h3⟩
def shCmdO :Sh CmdD where
 n:=2
 lies S w cs d:=∃ u0,cs=[.string d.t,u0]∧d.t.size≤maxLen∧StrsOwn S w u0 d.acts∧saneP d.acts
 keep hk h:=by obtain ⟨u0,h0,h1,h2,h3⟩:=h;exact ⟨u0,h0,h1,h2.keep hk,h3⟩
 mono hS h:=by obtain ⟨u0,h0,h1,h2,h3⟩:=h;exact ⟨u0,h0,h1,h2.mono hS,h3⟩
theorem liesCmd_plain {S:Nat→Prop} {w:World} {cs:List Value} {d:CmdD} (h:shCmdO.lies S w cs d):shCmd.lies S w cs d:=by
 obtain ⟨u0,e0,s_t,r0,p0⟩:=h
 exact ⟨u0,e0,s_t,r0.plain,p0⟩
structure PackD where
 name:ByteArray
 uses:List ByteArray
 needs:List NeedD
 cmds:List CmdD
def wtPack (d:PackD):Nat:=d.name.size+bulkS d.uses+wtRow wtNeed d.needs+wtRow wtCmd d.cmds
def shPack :Sh PackD where
 n:=4
 lies S w cs d:=∃ u0 u1 u2,cs=[.string d.name,u0,u1,u2]∧d.name.size≤maxLen∧RdB S w u0 (strsV d.uses)∧saneP d.uses∧RowIn shNeed S w u1 d.needs∧RowIn shCmd S w u2 d.cmds
 keep hk h:=by obtain ⟨u0,u1,u2,h0,h1,h2,h3,h4,h5⟩:=h;exact ⟨u0,u1,u2,h0,h1,h2.keep hk,h3,h4.keep hk,h5.keep hk⟩
 mono hS h:=by obtain ⟨u0,u1,u2,h0,h1,h2,h3,h4,h5⟩:=h;exact ⟨u0,u1,u2,h0,h1,h2.mono hS,h3,h4.mono hS,h5.mono hS⟩
def shPackO :Sh PackD where
 n:=4
 lies S w cs d:=∃ u0 u1 u2,cs=[.string d.name,u0,u1,u2]∧d.name.size≤maxLen∧StrsOwn S w u0 d.uses∧saneP d.uses∧RowOwn shNeed 39 S w u1 d.needs∧RowOwn shCmdO 305 S w u2 d.cmds
 keep hk h:=by obtain ⟨u0,u1,u2,h0,h1,h2,h3,h4,h5⟩:=h;exact ⟨u0,u1,u2,h0,h1,h2.keep hk,h3,h4.keep hk,h5.keep hk⟩
 mono hS h:=by obtain ⟨u0,u1,u2,h0,h1,h2,h3,h4,h5⟩:=h;exact ⟨u0,u1,u2,h0,h1,h2.mono hS,h3,h4.mono hS,h5.mono hS⟩
theorem liesPack_plain {S:Nat→Prop} {w:World} {cs:List Value} {d:PackD} (h:shPackO.lies S w cs d):shPack.lies S w cs d:=by
 obtain ⟨u0,u1,u2,e0,s_name,r0,p0,r1,r2⟩:=h
 exact ⟨u0,u1,u2,e0,s_name,r0.plain,p0,r1.plain,(RowIn.as (sh:=shCmdO) (sh':=shCmd) rfl (fun S w cs x h=>liesCmd_plain h) r2.plain)⟩
theorem not_any_notP {α:Type} (p:α→Bool) (xs:List α):(!(xs.any fun x=> !p x))=xs.all p:=by
 induction xs with
 |nil=>rfl
 |cons x xs ih=>simp only [List.any_cons,List.all_cons,Bool.not_or,Bool.not_not,ih]
theorem not_moreP (a b:Nat):(!decide (a<b))=decide (b≤a):=by
 by_cases h:a<b
 ·rw [decide_eq_true h,decide_eq_false (by omega)];rfl
 ·rw [decide_eq_false h,decide_eq_true (by omega)];rfl
theorem below_nextP {w w1 w2:World} (h:Below w.heap.size w w1) (h2:Below w1.heap.size w1 w2):Below w.heap.size w w2:=h.trans (h2.mono h.size)
def pickB (d:PickD):Bool:=nameB d.name&&verB d.vA d.vB d.vC d.vP
def picksB (l:List PickD):Bool:=rowB pickB PickD.name l&&decide (l.length≤12)
def picksI (l:List PickD):Bool:= !(decide (12<l.length)||l.any fun d=> !pickB d)&&ascB (l.map PickD.name)
theorem picks_alike (l:List PickD):picksI l=picksB l:=by
 unfold picksI picksB
 rw [rowB_split,Bool.not_or,not_any_notP,not_moreP]
 cases decide (l.length≤12)<;>cases l.all pickB<;>cases ascB (l.map PickD.name)<;>rfl
theorem wrongPick_c (S:Nat→Prop) (d:PickD) (cs:List Value) (w:World) (hd:shPick.lies S w cs d) (hB: ∀ b,S b→b<w.heap.size) (hw:bulkS d.vP≤1048576):
  Calls Tryz.prog 188 #[.agg cs.toArray] w fun e w'=>e=.returned (.bool (!pickB d))∧Below w.heap.size w w':=by
 obtain ⟨u0,rfl,s_n,r0,p0⟩:=hd
 have hbx: ∀ o,Below w.heap.size w (w.alloc o):=fun o=>(Below.refl _ _).alloc (Nat.le_refl _) _
 have hBn: ∀ w1,Below w.heap.size w w1→∀ b,S b→b<w1.heap.size:=fun w1 h b hb=>Nat.lt_of_lt_of_le (hB b hb) h.size
 have hbk:bulkS d.vP≤1048576:=hw
 have HN:=fun w1=>implName_c d.name s_n w1
 have H1: ∀ w1,Below w.heap.size w w1→Calls Tryz.prog 161 #[.agg #[.int .i64 d.vA,.int .i64 d.vB,.int .i64 d.vC,u0]] w1 fun e w'=>e=.returned (.bool (verB d.vA d.vB d.vC d.vP))∧Below w1.heap.size w1 w':=fun w1 h=>implVerOk_c _ _ _ u0 d.vP w1 ((r0.keep (.of h hB)).reads (hBn w1 h)) hbk
 unfold pickB
 obtain ⟨p,hp⟩: ∃ p,p=nameB d.name:=⟨_,rfl⟩
 obtain ⟨q,hq⟩: ∃ p,p=verB d.vA d.vB d.vC d.vP:=⟨_,rfl⟩
 simp only [←hp] at HN ⊢
 simp only [←hq] at H1 ⊢
 replace HN:=hidden HN
 replace H1:=hidden H1
 obtain ⟨a0,cap0,eu0,_⟩:=id r0
 rw [length_strsV] at eu0
 subst eu0
 clear r0 hp hq hbk hBn
 cases p with
 |false=>
  go_enter Tryz.func188,Tryz.ntmps188
  go_wp2_with fail
  go_at_call 171
  refine (HN.out _).mono ?_
  rintro e w' ⟨rfl,rfl⟩
  go_wp2_with fail
  go_ret
  exact ⟨rfl,hbx _⟩
 |true=>
  go_enter Tryz.func188,Tryz.ntmps188
  go_wp2_with fail
  go_at_call 171
  refine (HN.out _).mono ?_
  rintro e w' ⟨rfl,rfl⟩
  go_wp2_with fail
  go_at_call 161
  refine (H1.out _ (hbx _)).mono ?_
  rintro e w1 ⟨rfl,b1⟩
  have k1:Below w.heap.size w w1:=(hbx _).trans (b1.mono (hbx _).size)
  go_wp2_with fail
  go_ret
  exact ⟨by cases q<;>rfl,k1⟩
theorem idxPickW_c (S:Nat→Prop) (v:Value) (xs:List PickD) (w:World) (hv:RowIn shPick S w v xs) (hB: ∀ b,S b→b<w.heap.size) (hw: ∀ d∈xs,bulkS d.vP≤1048576):
  Calls Tryz.prog 255 #[v,.func (.func 188) #[] #[]] w fun e w'=>e=.returned (.int .i64 (firstI (fun d=> !pickB d) xs))∧Below w.heap.size w w':=by
 obtain ⟨a,cap,rfl,hl,hc,ha⟩:=hv
 unfold maxLen at hl
 obtain ⟨R,hR⟩: ∃ R,R=firstI (fun d=> !pickB d) xs:=⟨_,rfl⟩
 rw [←hR]
 have HR:=hidden hR
 clear hR
 go_enter Tryz.func255,Tryz.ntmps255
 go_wp2_with fail
 go_loopw [8] (fun vi wr=>∃ k:Nat,k≤xs.length∧vi=.int .i64 (k:Int)∧Hid (∀ j (hj:j<xs.length),j<k→(fun d=> !pickB d) xs[j]=false)∧Below w.heap.size w wr) (fun vi _=>xs.length-(intOf vi).toNat)
 case atStart=>exact ⟨0,Nat.zero_le _,rfl,(fun j hj h=>by omega),Below.refl _ _⟩
 case round=>
  obtain ⟨k,hk,rfl,hno,hbr⟩:=hrel
  by_cases hlt':k<xs.length
  ·rcases ha with rfl|⟨b,off,rfl,hlt,ha⟩
   ·simp at hlt'
   obtain ⟨cs,hL,hcell⟩:=ha k hlt'
   have hL2:=shPick.keep (.of hbr hB) hL
   have hcell2:=hcell.keep (.of hbr hB) hlt
   have hBr: ∀ b,S b→b<wr.heap.size:=fun b h=>Nat.lt_of_lt_of_le (hB b h) hbr.size
   have HT:Hid ((fun d=> !pickB d) xs[k]=true→R=(k:Int)):=fun h=>HR.out.trans (firstI_here hlt' h hno.out)
   have HN:Hid ((fun d=> !pickB d) xs[k]=false→∀ j (hj:j<xs.length),j<k+1→(fun d=> !pickB d) xs[j]=false):=fun h j hj hjk=>by
    by_cases e:j=k
    ·subst e;exact h
    ·exact hno.out j hj (by omega)
   have HC:Calls Tryz.prog 188 #[.agg cs.toArray] wr fun e w'=>e=.returned (.bool ((fun d=> !pickB d) xs[k]))∧Below wr.heap.size wr w':=wrongPick_c S xs[k] cs wr hL2 hBr (hw _ (List.getElem_mem hlt'))
   obtain ⟨d,hd⟩: ∃ d,d=xs[k]:=⟨_,rfl⟩
   rw [←hd] at hL2 HT HN HC
   obtain ⟨r,hr⟩: ∃ r,r=(fun d=> !pickB d) d:=⟨_,rfl⟩
   rw [←hr] at HT HN HC
   clear ha hL hcell hd hr hno
   obtain ⟨u0,rfl,s_name,r0,p0⟩:=hL2
   obtain ⟨a0,cap0,eu0,_⟩:=id r0
   rw [length_strsV] at eu0
   subst eu0
   have e0:wr.cell? ⟨b,off+k*5,none⟩=some (.string d.name):=hcell2 0 (by simp)
   have e1:wr.cell? ⟨b,off+k*5+1,none⟩=some (.int .i64 d.vA):=hcell2 1 (by simp)
   have e2:wr.cell? ⟨b,off+k*5+2,none⟩=some (.int .i64 d.vB):=hcell2 2 (by simp)
   have e3:wr.cell? ⟨b,off+k*5+3,none⟩=some (.int .i64 d.vC):=hcell2 3 (by simp)
   have e4:wr.cell? ⟨b,off+k*5+4,none⟩=some (.slice a0 d.vP.length cap0):=hcell2 4 (by simp)
   have HC2:=hidden HC
   have hki:(k:Int)<(xs.length:Int):=by omega
   clear hcell2 HC r0
   cases r with
   |true=>
    have HT2:=hidden (HT.out rfl)
    clear HT HN
    go_wp2_with (go_at_call 188;refine HC2.out.mono ?_;rintro e w1 ⟨rfl,b1⟩)
    go_ret
    exact ⟨by rw [HT2.out];rfl,hbr.trans (b1.mono hbr.size)⟩
   |false=>
    have HN2:=hidden (HN.out rfl)
    clear HT HN
    go_wp2_with (go_at_call 188;refine HC2.out.mono ?_;rintro e w1 ⟨rfl,b1⟩)
    go_roundw
    case rel=>exact ⟨k+1,by omega,by go_num,HN2.out,hbr.trans (b1.mono hbr.size)⟩
    case measure=>simp [intOf];omega
  ·have he:k=xs.length:=by omega
   subst he
   have HE:Hid (R= -1):=HR.out.trans (firstI_none (fun j hj=>hno.out j hj hj))
   clear ha hno HR
   go_wp2_with fail
   go_ret
   exact ⟨by rw [HE.out];rfl,hbr⟩
theorem anyPickW_c (S:Nat→Prop) (v:Value) (xs:List PickD) (w:World) (hv:RowIn shPick S w v xs) (hB: ∀ b,S b→b<w.heap.size) (hw: ∀ d∈xs,bulkS d.vP≤1048576):
  Calls Tryz.prog 187 #[v,.func (.func 188) #[] #[]] w fun e w'=>e=.returned (.bool (xs.any (fun d=> !pickB d)))∧Below w.heap.size w w':=by
 have HF:=idxPickW_c S v xs w hv hB hw
 have hA:=firstI_any (fun d=> !pickB d) xs
 obtain ⟨R,hR⟩: ∃ R,R=firstI (fun d=> !pickB d) xs:=⟨_,rfl⟩
 rw [←hR] at HF hA
 rw [←hA]
 have HF2:=hidden HF
 obtain ⟨a,cap,rfl⟩:=hv.slice
 clear hv hR hA HF
 by_cases h0:0≤R
 ·rw [decide_eq_true h0]
  go_enter Tryz.func187,Tryz.ntmps187
  go_wp2_with (go_at_call 255;refine HF2.out.mono ?_;rintro e w1 ⟨rfl,b1⟩)
  go_ret
  exact ⟨by first|rfl|simp [h0]|(simp;omega),b1⟩
 ·rw [decide_eq_false h0]
  go_enter Tryz.func187,Tryz.ntmps187
  go_wp2_with (go_at_call 255;refine HF2.out.mono ?_;rintro e w1 ⟨rfl,b1⟩)
  go_ret
  exact ⟨by first|rfl|simp [h0]|(simp;omega),b1⟩
theorem txtPick_c (S:Nat→Prop) (d:PickD) (cs:List Value) (w:World) (hd:shPick.lies S w cs d):
  Calls Tryz.prog 190 #[.agg cs.toArray] w fun e w'=>e=.returned (.string d.name)∧Below w.heap.size w w':=by
 obtain ⟨u0,rfl,s_n,r0,p0⟩:=hd
 obtain ⟨a0,c0,e0,_⟩:=id r0
 rw [length_strsV] at e0
 subst e0
 have kb: ∀ o,Below w.heap.size w (w.alloc o):=fun o=>(Below.refl w.heap.size w).alloc (Nat.le_refl _) o
 clear r0
 go_enter Tryz.func190,Tryz.ntmps190
 go_wp2_with fail
 go_ret
 exact ⟨rfl,kb _⟩
theorem ascPick_c (S:Nat→Prop) (v:Value) (xs:List PickD) (w:World) (hv:RowIn shPick S w v xs) (hB: ∀ b,S b→b<w.heap.size):
  Calls Tryz.prog 189 #[v,.func (.func 190) #[] #[]] w fun e w'=>e=.returned (.bool (ascB (xs.map PickD.name)))∧Below w.heap.size w w':=by
 obtain ⟨a,cap,rfl,hl,hc,ha⟩:=hv
 unfold maxLen at hl
 obtain ⟨R,hR⟩: ∃ R,R=ascB (xs.map PickD.name):=⟨_,rfl⟩
 rw [←hR]
 have HR:=hidden hR
 clear hR
 go_enter Tryz.func189,Tryz.ntmps189
 go_wp2_with fail
 go_loopw [5] (fun vi wr=>∃ k:Nat,1≤k∧(k≤xs.length∨k=1)∧vi=.int .i64 (k:Int)∧Hid (rowUpto (fun _=>true) id (xs.map PickD.name) k=true)∧Below w.heap.size w wr) (fun vi _=>xs.length-(intOf vi).toNat)
 case atStart=>exact ⟨1,Nat.le_refl _,.inr rfl,rfl,asc_one _,Below.refl _ _⟩
 case round=>
  obtain ⟨k,hk1,hk,rfl,hh,hbr⟩:=hrel
  by_cases hlt':k<xs.length
  ·rcases ha with rfl|⟨b,off,rfl,hlt,ha⟩
   ·simp at hlt'
   obtain ⟨j,rfl⟩: ∃ j,k=j+1:=⟨k-1,by omega⟩
   have hj':j<xs.length:=by omega
   obtain ⟨ycs,yL,hcelly⟩:=ha j hj'
   obtain ⟨xcs,xL,hcellx⟩:=ha (j+1) hlt'
   have hbb:b<wr.heap.size:=Nat.lt_of_lt_of_le (hB b hlt) hbr.size
   replace hcelly:=hcelly.keep (.of hbr hB) hlt
   replace hcellx:=hcellx.keep (.of hbr hB) hlt
   have HC1:Hid (∀ w1,Below wr.heap.size wr w1→Calls Tryz.prog 190 #[.agg ycs.toArray] w1 fun e w'=>e=.returned (.string xs[j].name)∧Below w1.heap.size w1 w'):=fun w1 h=>txtPick_c S xs[j] ycs w1 (shPick.keep (.of (hbr.trans (h.mono hbr.size)) hB) yL)
   have HC2:Hid (∀ w1,Below wr.heap.size wr w1→Calls Tryz.prog 190 #[.agg xcs.toArray] w1 fun e w'=>e=.returned (.string xs[j+1].name)∧Below w1.heap.size w1 w'):=fun w1 h=>txtPick_c S xs[j+1] xcs w1 (shPick.keep (.of (hbr.trans (h.mono hbr.size)) hB) xL)
   have hpre:preX (xs.map PickD.name) (j+1)=some xs[j].name:=by simp [preX,hj']
   have hat:(xs.map PickD.name)[j+1]'(by simpa using hlt')=xs[j+1].name:=by simp
   have HBD:Hid (Op.bytesLess xs[j].name.toList xs[j+1].name.toList=false→R=false):=fun h=>HR.out.trans (rowUpto_bad (by simpa using hlt') (by rw [hpre,hat];exact rowOk_less h) _ (by simpa using hlt'))
   have HGD:Hid (Op.bytesLess xs[j].name.toList xs[j+1].name.toList=true→rowUpto (fun _=>true) id (xs.map PickD.name) (j+1+1)=true):=fun h=>rowUpto_step (by simpa using hlt') hh.out (by rw [hpre,hat,rowOk_some rfl];exact h)
   obtain ⟨c,hc0⟩: ∃ c,c=xs[j]:=⟨_,rfl⟩
   obtain ⟨d,hd0'⟩: ∃ d,d=xs[j+1]:=⟨_,rfl⟩
   rw [←hc0] at yL HC1 HBD HGD
   rw [←hd0'] at xL HC2 HBD HGD
   clear ha hpre hat hc0 hd0' hh
   obtain ⟨yu0,rfl,ys_n,yr0,yp0⟩:=yL
   obtain ⟨ya0,yc0,ye0,_⟩:=id yr0
   rw [length_strsV] at ye0
   subst ye0
   obtain ⟨xu0,rfl,xs_n,xr0,xp0⟩:=xL
   obtain ⟨xa0,xc0,xe0,_⟩:=id xr0
   rw [length_strsV] at xe0
   subst xe0
   have yv0:wr.cell? ⟨b,off+j*5,none⟩=some (.string c.name):=hcelly 0 (by simp)
   have yv1:wr.cell? ⟨b,off+j*5+1,none⟩=some (.int .i64 c.vA):=hcelly 1 (by simp)
   have yv2:wr.cell? ⟨b,off+j*5+2,none⟩=some (.int .i64 c.vB):=hcelly 2 (by simp)
   have yv3:wr.cell? ⟨b,off+j*5+3,none⟩=some (.int .i64 c.vC):=hcelly 3 (by simp)
   have yv4:wr.cell? ⟨b,off+j*5+4,none⟩=some (.slice ya0 c.vP.length yc0):=hcelly 4 (by simp)
   have xv0:wr.cell? ⟨b,off+(j+1)*5,none⟩=some (.string d.name):=hcellx 0 (by simp)
   have xv1:wr.cell? ⟨b,off+(j+1)*5+1,none⟩=some (.int .i64 d.vA):=hcellx 1 (by simp)
   have xv2:wr.cell? ⟨b,off+(j+1)*5+2,none⟩=some (.int .i64 d.vB):=hcellx 2 (by simp)
   have xv3:wr.cell? ⟨b,off+(j+1)*5+3,none⟩=some (.int .i64 d.vC):=hcellx 3 (by simp)
   have xv4:wr.cell? ⟨b,off+(j+1)*5+4,none⟩=some (.slice xa0 d.vP.length xc0):=hcellx 4 (by simp)
   have hj0:(0:Int)≤(j:Int)+1:=by omega
   have hj2:(j:Int)+1<(xs.length:Int):=by omega
   have hj3:(j:Int)<(xs.length:Int):=by omega
   have hjw:IntKind.i64.wrap (j:Int)=(j:Int):=IntWalk.i64_in _ ⟨by omega,by omega⟩
   have hd0:Below wr.heap.size wr wr.drew:=(Below.refl _ _).drew
   have KEEP:Hid (∀ w1,Below wr.heap.size wr w1→w1.cell? ⟨b,off+j*5,none⟩=some (.string c.name)∧w1.cell? ⟨b,off+j*5+1,none⟩=some (.int .i64 c.vA)∧w1.cell? ⟨b,off+j*5+2,none⟩=some (.int .i64 c.vB)∧w1.cell? ⟨b,off+j*5+3,none⟩=some (.int .i64 c.vC)∧w1.cell? ⟨b,off+j*5+4,none⟩=some (.slice ya0 c.vP.length yc0)∧w1.cell? ⟨b,off+(j+1)*5,none⟩=some (.string d.name)∧w1.cell? ⟨b,off+(j+1)*5+1,none⟩=some (.int .i64 d.vA)∧w1.cell? ⟨b,off+(j+1)*5+2,none⟩=some (.int .i64 d.vB)∧w1.cell? ⟨b,off+(j+1)*5+3,none⟩=some (.int .i64 d.vC)∧w1.cell? ⟨b,off+(j+1)*5+4,none⟩=some (.slice xa0 d.vP.length xc0)):=fun w1 h=>⟨(h.cell (by simpa using hbb)).trans yv0,(h.cell (by simpa using hbb)).trans yv1,(h.cell (by simpa using hbb)).trans yv2,(h.cell (by simpa using hbb)).trans yv3,(h.cell (by simpa using hbb)).trans yv4,(h.cell (by simpa using hbb)).trans xv0,(h.cell (by simpa using hbb)).trans xv1,(h.cell (by simpa using hbb)).trans xv2,(h.cell (by simpa using hbb)).trans xv3,(h.cell (by simpa using hbb)).trans xv4⟩
   clear hcelly hcellx yv0 yv1 yv2 yv3 yv4 xv0 xv1 xv2 xv3 xv4 yr0 xr0
   go_wp2_with fail
   refine wp_region_held_drew (S:=(fun w'=>w'.cell? ⟨b,off+j*5,none⟩=some (.string c.name)∧w'.cell? ⟨b,off+j*5+1,none⟩=some (.int .i64 c.vA)∧w'.cell? ⟨b,off+j*5+2,none⟩=some (.int .i64 c.vB)∧w'.cell? ⟨b,off+j*5+3,none⟩=some (.int .i64 c.vC)∧w'.cell? ⟨b,off+j*5+4,none⟩=some (.slice ya0 c.vP.length yc0)∧w'.cell? ⟨b,off+(j+1)*5,none⟩=some (.string d.name)∧w'.cell? ⟨b,off+(j+1)*5+1,none⟩=some (.int .i64 d.vA)∧w'.cell? ⟨b,off+(j+1)*5+2,none⟩=some (.int .i64 d.vB)∧w'.cell? ⟨b,off+(j+1)*5+3,none⟩=some (.int .i64 d.vC)∧w'.cell? ⟨b,off+(j+1)*5+4,none⟩=some (.slice xa0 d.vP.length xc0))) (by kernel_rfl) ?SR10 (fun hHeld=>?_)
   case SR10=>(first|(with_reducible exact KEEP.out _ hd2)|(with_reducible exact KEEP.out _ hd1)|(with_reducible exact KEEP.out _ hd0))
   refine tk 0 hHeld (h:=?_)
   refine tk 1 hHeld (h:=?_)
   refine tk 2 hHeld (h:=?_)
   refine tk 3 hHeld (h:=?_)
   refine tk 4 hHeld (h:=?_)
   refine tk 5 hHeld (h:=?_)
   refine tk 7 hHeld (h:=?_)
   refine tk 8 hHeld (h:=?_)
   refine tk 9 hHeld (h:=?_)
   refine tk 10 hHeld (h:=?_)
   refine tk 11 hHeld (h:=?_)
   refine wpAnyH_ready (rs:=[6]) (by kernel_rfl) (by simp) ?_
   refine AllReadyH.cons rfl (fun K hK=>?_) AllReadyH.nil
   go_simp
   go_wp2_with (go_at_call 190;refine (HC1.out _ (by first|exact hd0|exact hd1)).mono ?_;rintro e w1 ⟨rfl,b1⟩;have hd1:Below wr.heap.size wr w1:=hd0.trans (b1.mono hd0.size))
   clear hHeld
   refine hK.out _ _ ?SR112 (fun hHeld=>?_)
   case SR112=>((try dsimp only);first|(with_reducible exact KEEP.out _ hd2)|(with_reducible exact KEEP.out _ hd1)|(with_reducible exact KEEP.out _ hd0))
   clear hK K
   refine wpAnyH_ready (rs:=[12]) (by kernel_rfl) (by simp) ?_
   refine AllReadyH.cons rfl (fun K hK=>?_) AllReadyH.nil
   go_simp
   go_wp2_with (go_at_call 190;refine (HC2.out _ hd1).mono ?_;rintro e w2 ⟨rfl,b2⟩;have hd2:Below wr.heap.size wr w2:=hd1.trans (b2.mono hd1.size))
   clear hHeld
   refine hK.out _ _ ?SR113 (fun hHeld=>?_)
   case SR113=>((try dsimp only);first|(with_reducible exact KEEP.out _ hd2)|(with_reducible exact KEEP.out _ hd1)|(with_reducible exact KEEP.out _ hd0))
   clear hK K
   refine tk 13 hHeld (h:=?_)
   refine wpAnyH_done (by kernel_rfl) ?_ _
   go_wp2_with fail
   ·have hlx:(!Op.bytesLess c.name.toList d.name.toList)=true:=by assumption
    go_ret
    exact ⟨by rw [HBD.out (by simpa using hlx)];rfl,hbr.trans (hd2.mono hbr.size)⟩
   ·have hlx:(!Op.bytesLess c.name.toList d.name.toList)=false:=by assumption
    go_roundw
    case rel=>exact ⟨j+1+1,by omega,.inl (by omega),by go_num,HGD.out (by simpa using hlx),hbr.trans (hd2.mono hbr.size)⟩
    case measure=>simp [intOf];omega
  ·have HE:Hid (R=true):=HR.out.trans (asc_end hk1 (by simpa using hlt') (by simpa using hk) hh.out)
   clear ha hh
   go_wp2_with fail
   go_ret
   exact ⟨by rw [HE.out];rfl,hbr⟩
theorem implPicksOk_c (S:Nat→Prop) (v:Value) (xs:List PickD) (w:World) (hv:RowIn shPick S w v xs) (hB: ∀ b,S b→b<w.heap.size) (hw: ∀ d∈xs,bulkS d.vP≤1048576):
  Calls Tryz.prog 121 #[v] w fun e w'=>e=.returned (.bool (picksI xs))∧Below w.heap.size w w':=by
 have HA: ∀ w1,Below w.heap.size w w1→Calls Tryz.prog 187 #[v,.func (.func 188) #[] #[]] w1 fun e w'=>e=.returned (.bool (xs.any (fun d=> !pickB d)))∧Below w1.heap.size w1 w':=fun w1 h=>anyPickW_c S v xs w1 (hv.keep (.of h hB)) (fun b hb=>Nat.lt_of_lt_of_le (hB b hb) h.size) hw
 have HC: ∀ w1,Below w.heap.size w w1→Calls Tryz.prog 189 #[v,.func (.func 190) #[] #[]] w1 fun e w'=>e=.returned (.bool (ascB (xs.map PickD.name)))∧Below w1.heap.size w1 w':=fun w1 h=>ascPick_c S v xs w1 (hv.keep (.of h hB)) (fun b hb=>Nat.lt_of_lt_of_le (hB b hb) h.size)
 unfold picksI
 obtain ⟨p,hp⟩: ∃ p,p=xs.any (fun d=> !pickB d):=⟨_,rfl⟩
 obtain ⟨q,hq⟩: ∃ q,q=ascB (xs.map PickD.name):=⟨_,rfl⟩
 simp only [←hp] at HA ⊢
 simp only [←hq] at HC ⊢
 replace HA:=hidden HA
 replace HC:=hidden HC
 have hl:=hv.len
 obtain ⟨a,cap,rfl⟩:=hv.slice
 unfold maxLen at hl
 clear hv hp hq
 by_cases h4:12<xs.length
 ·have h4':(12:Int)<(xs.length:Int):=by omega
  rw [decide_eq_true h4]
  go_enter Tryz.func121,Tryz.ntmps121
  go_wp2_with fail
  go_ret
  exact ⟨rfl,Below.refl _ _⟩
 ·have h4': ¬(12:Int)<(xs.length:Int):=by omega
  rw [decide_eq_false h4]
  cases p with
  |true=>
   go_enter Tryz.func121,Tryz.ntmps121
   go_wp2_with fail
   go_at_call 187
   refine (HA.out _ (Below.refl _ _)).mono ?_
   rintro e w1 ⟨rfl,b1⟩
   go_wp2_with fail
   go_ret
   exact ⟨rfl,b1⟩
  |false=>
   go_enter Tryz.func121,Tryz.ntmps121
   go_wp2_with fail
   go_at_call 187
   refine (HA.out _ (Below.refl _ _)).mono ?_
   rintro e w1 ⟨rfl,b1⟩
   go_wp2_with fail
   go_at_call 189
   refine (HC.out _ b1).mono ?_
   rintro e w2 ⟨rfl,b2⟩
   go_wp2_with fail
   go_ret
   exact ⟨by cases q<;>rfl,below_nextP b1 b2⟩
end Go.Proofs.YtlfmefojcmpfeaaGreatDoor
namespace Go.Proofs
open Go.Shelf
def Tryz.lays169_ren :Go.Shelf.Ren:=⟨fun|169=>124|n=>n,fun|70=>153|9=>9|0=>0|72=>155|37=>22|127=>232|3=>3|5=>5|n=>n,fun|n=>n⟩
theorem Tryz.lays169 : Go.Proofs.Lays.n169 Tryz.prog Tryz.lays169_ren := {
  mixed := by kernel_rfl
  f169 := Tryz.func124.trans (congrArg some (by kernel_rfl))
  t0 := Tryz.underlying0
  a0 := Tryz.isAgg0
  z0 := Tryz.sizeOf0
  v0 := Tryz.zeroValue0
  t3 := Tryz.underlying3
  a3 := Tryz.isAgg3
  z3 := Tryz.sizeOf3
  v3 := Tryz.zeroValue3
  t9 := Tryz.underlying9
  a9 := Tryz.isAgg9
  z9 := Tryz.sizeOf9
  v9 := Tryz.zeroValue9
  t37 := Tryz.underlying22
  a37 := Tryz.isAgg22
  z37 := Tryz.sizeOf22
  v37 := Tryz.zeroValue22
  t70 := Tryz.underlying153
  a70 := Tryz.isAgg153
  z70 := Tryz.sizeOf153
  v70 := Tryz.zeroValue153
  t72 := Tryz.underlying155
  a72 := Tryz.isAgg155
  z72 := Tryz.sizeOf155
  v72 := Tryz.zeroValue155
  t127 := Tryz.underlying232
  a127 := Tryz.isAgg232
  z127 := Tryz.sizeOf232
  v127 := Tryz.zeroValue232 }
theorem Tryz.Builder_Extra_169 : Builder.Extra Tryz.prog Tryz.lays169_ren := {
  sizeBuilder := by kernel_rfl
  liesBuilder := by kernel_rfl
  t5 := Tryz.underlying5
  a5 := Tryz.isAgg5
  z5 := Tryz.sizeOf5
  v5 := Tryz.zeroValue5
  infoByte := by kernel_rfl
  cellsByte := by kernel_rfl
  sizeByte := by kernel_rfl
  neB5 := by decide }
open Go.RowKit in
theorem Tryz.Builder_String_any (B b:Nat) (l:List UInt8) (w:World) (h:Lib.IsBuilder 155 5 B b (Lib.byteCells l) w) (hBw:B≤w.heap.size):
  Calls Tryz.prog 124 #[.pointer (some ⟨b,0,none⟩)] w fun e w'=>e=.returned (.string ⟨l.toArray⟩)∧Below B w w':=Any.Builder_String_any Tryz.lays169 Tryz.Builder_Extra_169 B b l w h hBw
end Go.Proofs
namespace Go.Proofs.YtlfmefojcmpfeaaGreatDoor
open Go.RowKit
theorem sizeBuilder :(Tryz.prog.info? 155).map (·.size)=some 2:=by kernel_rfl
theorem check_used (b:Nat) (w:World) (h0:w.cell? ⟨b,0,none⟩=some (.pointer (some ⟨b,0,none⟩))):
  Calls Tryz.prog 191 #[.pointer (some ⟨b,0,none⟩)] w fun e w'=>e=.returned (.tuple #[])∧w=w':=by
 obtain ⟨j,hj,_⟩:=Option.map_eq_some_iff.1 sizeBuilder
 have hne:=Lib.run_neq_ptr_same w (⟨b,0,none⟩:Addr) Tryz.underlying153 hj
 go_enter Tryz.func191,Tryz.ntmps191
 go_wp2
 go_end0
 exact ⟨rfl,rfl⟩
theorem check_fresh (b:Nat) (w:World) (h0:w.cell? ⟨b,0,none⟩=some (.pointer none)) (hsh:w.shape? b=some (155,2)) (hfz:w.frozen? ⟨b,0,none⟩=false):
  Calls Tryz.prog 191 #[.pointer (some ⟨b,0,none⟩)] w fun e w'=>e=.returned (.tuple #[])∧w.setCell ⟨b,0,none⟩ (.pointer (some ⟨b,0,none⟩))=w':=by
 obtain ⟨j,hj,hjs⟩:=Option.map_eq_some_iff.1 sizeBuilder
 have u1:=Lib.run_to_unsafe w ⟨b,0,none⟩ Tryz.underlying153 Tryz.underlying237 hj (by rw [hjs];decide) hsh (Nat.zero_lt_succ 1)
 have u2:=Lib.run_from_unsafe w ⟨b,0,none⟩ Tryz.underlying237 Tryz.underlying153 hj hsh (by kernel_rfl)
 have u3: ∀ v w,(callFunc 256 #[v]).run Tryz.prog w=.ok (.value v) w:=fun v w=>by
  rw [run_callFunc_extern Tryz.func256 (by kernel_rfl) (by kernel_rfl) (by kernel_rfl) (e:=Extern.AbiNoEscape.same) (by kernel_rfl),Lib.run_noEscape]
  rfl
 go_enter Tryz.func191,Tryz.ntmps191
 go_wp2
 go_end0
 exact ⟨rfl,rfl⟩
theorem check_c (B b:Nat) (bs:List Value) (w:World) (h:Lib.IsBuilder 155 5 B b bs w):
  Calls Tryz.prog 191 #[.pointer (some ⟨b,0,none⟩)] w fun e w'=>e=.returned (.tuple #[])∧(Lib.BuilderAt 155 5 B b (.pointer (some ⟨b,0,none⟩)) bs w'∧Below B w w'):=by
 rcases h with h|h
 ·exact (check_fresh b w h.cell0 h.shape h.frozen0).mono fun e w' ⟨h1,h2⟩=>by
   subst h2
   exact ⟨h1,h.used _,(Below.refl B w).setCell (p:=⟨b,0,none⟩) h.1 _⟩
 ·exact (check_used b w h.cell0).mono fun e w' ⟨h1,h2⟩=>by
   subst h2
   exact ⟨h1,h,Below.refl B _⟩
theorem write_c (B b:Nat) (bs:List Value) (s:ByteArray) (w:World) (h:Lib.IsBuilder 155 5 B b bs w) (hlen:bs.length+s.size≤140737488355328) (hBw:B≤w.heap.size):
    Calls Tryz.prog 122 #[.pointer (some ⟨b,0,none⟩),.string s] w fun e w'=>e=.returned (.tuple #[.int .i64 s.size,.nilIface])∧(Lib.BuilderAt 155 5 B b (.pointer (some ⟨b,0,none⟩)) (bs++Lib.strCells s) w'∧Below B w w'):=by
  obtain ⟨i0,hi,hz0,hz1,hz2⟩:=info_parts info5
  go_enter Tryz.func122,Tryz.ntmps122
  go_wp2_with (first
    | (go_at_call 191
       refine (check_c B b bs _ h).mono ?_
       rintro e w1 ⟨rfl, h1, hb1⟩
       obtain ⟨hB, v, hbk, hown, hne⟩ := h1
       have c0 : w1.cell? ⟨b, 0, none⟩ = some (.pointer (some ⟨b, 0, none⟩)) := by rw [Lib.cell_of_heap hbk]; rfl
       have c1 : w1.cell? ⟨b, 1, none⟩ = some v := by rw [Lib.cell_of_heap hbk]; rfl)
    | (at_builtin; refine Lib.wpList_append_own_string _ rfl _ _ 22 9 rfl B 5 i0 Tryz.underlying22 Tryz.underlying9 hi hz0 hz1 hz2 _ bs.length bs rfl hown s rfl (by unfold maxLen; omega) hlen (Nat.le_trans hBw hb1.size) ?_))
  intro v' w2 hown' hgrow hnil
  have hlt:b<w1.heap.size:=(Array.getElem?_eq_some_iff.1 hbk).1
  have hb2:w2.heap[b]?=some (.cells #[.pointer (some ⟨b,0,none⟩),v] 155 (0,0)):=by
    rw [hgrow.block b hlt (fun e=>hne e.symm)]
    exact hbk
  have d0:w2.cell? ⟨b,0,none⟩=some (.pointer (some ⟨b,0,none⟩)):=by rw [Lib.cell_of_heap hb2];rfl
  have d1:w2.cell? ⟨b,1,none⟩=some v:=by rw [Lib.cell_of_heap hb2];rfl
  have f1:w2.frozen? ⟨b,1,none⟩=false:=Lib.frozen_of_heap hb2 1
  have hex: ∃ ao cap,v'=.slice ao (bs.length+s.size) cap:=by
    rcases hown'.2 with ⟨hv,h0⟩|⟨g,cap,cur,hv,_⟩
    · exact ⟨none,0,by rw [hv,h0]⟩
    · exact ⟨_,cap,hv⟩
  have hbel:Below B w (w2.setCell ⟨b,1,none⟩ v'):=(hb1.grown hgrow (Nat.le_trans hBw hb1.size) (fun k hk=>(hown.lt k hk).1)).setCell (p:=⟨b,1,none⟩) hB _
  have hput:Lib.BuilderAt 155 5 B b (.pointer (some ⟨b,0,none⟩)) (bs++Lib.strCells s) (w2.setCell ⟨b,1,none⟩ v'):=
    Lib.BuilderAt.put hB hb2 (bs':=bs++Lib.strCells s) (by rw [List.length_append,Lib.strCells_length];exact hown') (by decide)
  obtain ⟨ao,cap,hv⟩:=hex
  subst hv
  clear hnil
  go_wp2
  go_ret2
  exact ⟨rfl,hput,hbel⟩
theorem fresh_builder (w:World):Lib.IsBuilder 155 5 w.heap.size w.heap.size [] (w.alloc (.cells #[.pointer none,.slice none 0 0] 155)):=
 .inl ⟨Nat.le_refl _,.slice none 0 0,heap_alloc_new w _,World.ownsRow_nil _ _ _ _,by simp [Value.ownBlock]⟩
end Go.Proofs.YtlfmefojcmpfeaaGreatDoor
namespace Go.Proofs
open Go.Shelf
def Tryz.laysM171_ren :Go.Shelf.Ren:=⟨fun|171=>217|243=>268|246=>296|283=>319|284=>320|285=>321|286=>322|129=>254|317=>327|318=>328|319=>329|320=>330|337=>332|338=>333|n=>n,fun|3=>3|9=>9|2=>2|4=>4|171=>356|0=>0|53=>284|37=>22|5=>5|173=>358|212=>367|51=>282|20=>20|213=>368|46=>226|232=>369|233=>370|n=>n,fun|17=>5|18=>6|19=>7|n=>n⟩
theorem Tryz.laysM171 : Go.Proofs.LaysM.n171 Tryz.prog Tryz.laysM171_ren := {
  mixed := by kernel_rfl
  f129 := Tryz.func254.trans (congrArg some (by kernel_rfl))
  f171 := Tryz.func217.trans (congrArg some (by kernel_rfl))
  f243 := Tryz.func268.trans (congrArg some (by kernel_rfl))
  f246 := Tryz.func296.trans (congrArg some (by kernel_rfl))
  f283 := Tryz.func319.trans (congrArg some (by kernel_rfl))
  f284 := Tryz.func320.trans (congrArg some (by kernel_rfl))
  f285 := Tryz.func321.trans (congrArg some (by kernel_rfl))
  f286 := Tryz.func322.trans (congrArg some (by kernel_rfl))
  f317 := Tryz.func327.trans (congrArg some (by kernel_rfl))
  f318 := Tryz.func328.trans (congrArg some (by kernel_rfl))
  f319 := Tryz.func329.trans (congrArg some (by kernel_rfl))
  f320 := Tryz.func330.trans (congrArg some (by kernel_rfl))
  f337 := Tryz.func332.trans (congrArg some (by kernel_rfl))
  f338 := Tryz.func333.trans (congrArg some (by kernel_rfl))
  t0 := Tryz.underlying0
  a0 := Tryz.isAgg0
  z0 := Tryz.sizeOf0
  v0 := Tryz.zeroValue0
  t2 := Tryz.underlying2
  a2 := Tryz.isAgg2
  z2 := Tryz.sizeOf2
  v2 := Tryz.zeroValue2
  t3 := Tryz.underlying3
  a3 := Tryz.isAgg3
  z3 := Tryz.sizeOf3
  v3 := Tryz.zeroValue3
  t4 := Tryz.underlying4
  a4 := Tryz.isAgg4
  z4 := Tryz.sizeOf4
  v4 := Tryz.zeroValue4
  t5 := Tryz.underlying5
  a5 := Tryz.isAgg5
  z5 := Tryz.sizeOf5
  v5 := Tryz.zeroValue5
  t9 := Tryz.underlying9
  a9 := Tryz.isAgg9
  z9 := Tryz.sizeOf9
  v9 := Tryz.zeroValue9
  t20 := Tryz.underlying20
  a20 := Tryz.isAgg20
  z20 := Tryz.sizeOf20
  v20 := Tryz.zeroValue20
  t37 := Tryz.underlying22
  a37 := Tryz.isAgg22
  z37 := Tryz.sizeOf22
  v37 := Tryz.zeroValue22
  t46 := Tryz.underlying226
  a46 := Tryz.isAgg226
  z46 := Tryz.sizeOf226
  v46 := Tryz.zeroValue226
  t51 := Tryz.underlying282
  a51 := Tryz.isAgg282
  z51 := Tryz.sizeOf282
  v51 := Tryz.zeroValue282
  t53 := Tryz.underlying284
  a53 := Tryz.isAgg284
  z53 := Tryz.sizeOf284
  v53 := Tryz.zeroValue284
  t171 := Tryz.underlying356
  a171 := Tryz.isAgg356
  z171 := Tryz.sizeOf356
  v171 := Tryz.zeroValue356
  t173 := Tryz.underlying358
  a173 := Tryz.isAgg358
  z173 := Tryz.sizeOf358
  v173 := Tryz.zeroValue358
  t212 := Tryz.underlying367
  a212 := Tryz.isAgg367
  z212 := Tryz.sizeOf367
  v212 := Tryz.zeroValue367
  t213 := Tryz.underlying368
  a213 := Tryz.isAgg368
  z213 := Tryz.sizeOf368
  t232 := Tryz.underlying369
  a232 := Tryz.isAgg369
  z232 := Tryz.sizeOf369
  v232 := Tryz.zeroValue369
  t233 := Tryz.underlying370
  a233 := Tryz.isAgg370
  z233 := Tryz.sizeOf370
  v233 := Tryz.zeroValue370
  g17 := by kernel_rfl
  g18 := by kernel_rfl
  g19 := by kernel_rfl
  i0 := by kernel_rfl
  i2 := by kernel_rfl
  i3 := by kernel_rfl
  i4 := by kernel_rfl
  i5 := by kernel_rfl
  i9 := by kernel_rfl
  i20 := by kernel_rfl
  i37 := by kernel_rfl
  i46 := by kernel_rfl
  i51 := by kernel_rfl
  i53 := by kernel_rfl
  i171 := by kernel_rfl
  i173 := by kernel_rfl
  i212 := by kernel_rfl
  i232 := by kernel_rfl
  i233 := by kernel_rfl
  m17 := by kernel_rfl
  m18 := by kernel_rfl
  m19 := by kernel_rfl }
open Go.RowKit Go.Sort Go.Lib in
theorem Tryz.strconv_Itoa (n:Int) (h0: -9223372036854775808≤n) (h1:n≤9223372036854775807) (w:World) (htab:Lib.TabIs Tryz.prog w "internal/strconv.uint64pow10" .u64 Lib.pow10Tab):
  Calls Tryz.prog 217 #[.int .i64 n] w fun e w'=>e=.returned (.string ⟨(Lib.itoa n).toArray⟩)∧∃ k os,w'=grow (w.drewN k) os:=Any.strconv_Itoa Tryz.laysM171 n h0 h1 w htab
end Go.Proofs
namespace Go.Proofs.YtlfmefojcmpfeaaGreatDoor
open Go.RowKit
theorem tabIs_below {w w':World} {n:String} {k:IntKind} {zs:List Int} (b:Below w.heap.size w w') (h:Lib.TabIs Tryz.prog w n k zs):Lib.TabIs Tryz.prog w' n k zs:=Lib.tabBelow_of_tabIs h w' b
theorem below_grow (w:World) (k:Nat) (os:Array Obj):Below w.heap.size w (Sort.grow (w.drewN k) os):=
 ⟨rfl,rfl,rfl,by rw [Sort.size_grow];exact Nat.le_add_right _ _,fun j hj=>Sort.heap_grow_old _ _ hj⟩
end Go.Proofs.YtlfmefojcmpfeaaGreatDoor
