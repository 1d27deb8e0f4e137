/-
  Contracts for the walks and pure facts, several texts in one: each theorem says what it proves, and under which conditions.
-/
import Derived.LaidLaws
import Derived.LaidHandle
import Derived.LaidSub
import Derived.Stop.Joined
import Derived.ProofKit
import Derived.OpenShut
import Derived.Lib.LaidTab
import Derived.Lib.ItoaNum
import Derived.Stop.LaidErr
import Derived.Test.YtlfmefojcmpfeaaGreatDoorUT
import Derived.Test.YtlfmefojcmpfeaaGreatDoorU18
import Derived.Test.YtlfmefojcmpfeaaGreatDoorU39
set_option linter.unusedSimpArgs false
set_option linter.unusedVariables false
set_option maxHeartbeats 16000000
set_option maxRecDepth 100000
namespace Go.Proofs.YtlfmefojcmpfeaaGreatDoor
open Go.RowKit
theorem lineP_some {l:ByteArray} (h:resOk (cutD l 64).2.1=true):lineP l=some (pickT (cutD l 64).1 (cutD l 64).2.1):=by unfold lineP;rw [if_pos h]
theorem lineP_none {l:ByteArray} (h:resOk (cutD l 64).2.1=false):lineP l=none:=by unfold lineP;rw [if_neg (by rw [h];decide)]
theorem lock_round (s:ByteArray) (b:Nat) (hb:b<s.size) (acc:List PickD) (line rest:ByteArray) (en:Bool) (hc:cutD (s.extract b s.size) 10=(line,rest,en)):
    line.size≤s.size∧(en=false→lockGo (splitGo s 10 (s.size-b) b b) acc=none)∧
    (en = true → ∃ b', b < b' ∧ b' ≤ s.size ∧ rest = s.extract b' s.size ∧
      (resOk (cutD line 64).2.1 = false → lockGo (splitGo s 10 (s.size - b) b b) acc = none) ∧
      (resOk (cutD line 64).2.1 = true → picksB (acc ++ [pickT (cutD line 64).1 (cutD line 64).2.1]) = false → lockGo (splitGo s 10 (s.size - b) b b) acc = none) ∧
      (resOk (cutD line 64).2.1 = true → picksB (acc ++ [pickT (cutD line 64).1 (cutD line 64).2.1]) = true → lockGo (splitGo s 10 (s.size - b) b b) acc = lockGo (splitGo s 10 (s.size - b') b' b') (acc ++ [pickT (cutD line 64).1 (cutD line 64).2.1]))) := by
  have hu:(10:Int).toNat.toUInt8=10:=rfl
  have hsz:=cutD_size (s.extract b s.size) 10
  rw [hc,vsize s b s.size (by omega) (Nat.le_refl _)] at hsz
  refine ⟨by have h1:line.size≤s.size-b:=hsz.1;omega,?_⟩
  rcases search s 10 b (by omega) (by decide) (by decide) with ⟨h1,h2⟩|⟨k,h1,hk,h2⟩
  · rw [hu] at h1
    rw [cutD_none h1] at hc
    injection hc with _ hc
    injection hc with _ hc
    refine ⟨fun _=>?_,fun h=>(by rw [h] at hc;cases hc)⟩
    rw [h2,lockGo_last,if_neg]
    rw [vsize s b s.size (by omega) (Nat.le_refl _)]
    omega
  · rw [hu] at h1
    rw [cutD_some h1] at hc
    injection hc with hl hc
    injection hc with hr hc
    refine ⟨fun h=>(by rw [h] at hc;cases hc),fun _=>⟨b+k+1,by omega,by omega,?_,?_⟩⟩
    · rw [←hr,vsize s b s.size (by omega) (Nat.le_refl _),vsub s b s.size (k+1) (s.size-b) (by omega) (Nat.le_refl _)]
      congr 1<;>omega
    · have hl2:line=s.extract b (b+k):=by
        rw [←hl,vsub s b s.size 0 k (by omega) (Nat.le_refl _)]
        rfl
      rw [h2,lockGo_more (vsplitGo_ne _ _ _ _ _), ←hl2]
      refine ⟨fun h=>by rw [lineP_none h],fun h hp=>?_,fun h hp=>?_⟩
      · rw [lineP_some h]
        show (if _ then _ else _)=_
        rw [if_neg (by rw [hp];decide)]
      · rw [lineP_some h]
        show (if _ then _ else _)=_
        rw [if_pos hp]
theorem lock_end (s:ByteArray) (acc:List PickD):lockGo (splitGo s 10 (s.size-s.size) s.size s.size) acc=some acc:=by
 rw [splitGo_end,lockGo_last,if_pos]
 rw [vsize s s.size s.size (Nat.le_refl _) (Nat.le_refl _)]
 omega
theorem pickT_bulk {t:ByteArray} (h:resOk t=true):bulkS (resP t)≤1048576:=by have:=bk_bulk (bk_ver t h);omega
theorem readLock_c (s:ByteArray) (hs:s.size≤1048576) (w:World):
  Calls Tryz.prog 125 #[.string s] w fun e w'=>((∃ v ps,lockR s=some (ps.map LC.d)∧e=.returned (.tuple #[v,.nilIface])∧RowL w.heap.size w' v ps∧SepL ps∧(∀ p∈ps,p.d.name.size≤1048576∧bulkS p.d.vP≤1048576)∧ps.length≤12)∨(lockR s=none∧∃ n:Int,e=.returned (.tuple #[.slice none 0 0,.iface 165 (.agg #[.int .i64 n])])))∧Below w.heap.size w w':=by
 obtain ⟨i0,hi0,hz0,hz1,hz2⟩:=info_parts infoPick
 have HG0:Hid (RowL w.heap.size w (.slice none 0 0) []):=⟨World.ownsRow_nil w _ _ _,fun p hp=>by simp at hp⟩
 have HL0:Hid (lockR s=lockGo (splitGo s 10 (s.size-0) 0 0) (([]:List LC).map LC.d)):=rfl
 have HW:=hidden (vwhole s)
 go_enter Tryz.func125,Tryz.ntmps125
 go_wp2_with fail
 go_loopw [0,4,5] (fun vs vo vi wr=>∃ (b k:Nat) (rs:ByteArray) (v:Value) (ps:List LC),b≤s.size∧k≤b∧vs=.string rs∧Hid (rs=s.extract b s.size)∧vo=v∧vi=.int .i64 (k:Int)∧Hid (lockR s=lockGo (splitGo s 10 (s.size-b) b b) (ps.map LC.d))∧Hid (RowL w.heap.size wr v ps)∧Hid (∀ p∈ps,p.d.name.size≤1048576∧bulkS p.d.vP≤1048576)∧ps.length≤12∧Hid (SepL ps)∧Hid (Below w.heap.size w wr)) (fun vs _ _ _=>match vs with| .string t=>t.size|_=>0)
 case atStart=>exact ⟨0,0,s,_,[],Nat.zero_le _,Nat.le_refl _,rfl,(by show _=_;rw [HW.out]),rfl,rfl,HL0,HG0,(fun p hp=>by simp at hp),by simp,SepL.nil,Below.refl _ _⟩
 case round=>
  clear HG0 HL0 HW
  obtain ⟨wo,hwo⟩: ∃ wo,wo=wr:=⟨_,rfl⟩
  subst hwo
  obtain ⟨b,k,rs,v,ps,hb,hkb,rfl,hrs,hvo,rfl,hlk,hrow,hps,hpl,hsep,HBR⟩:=hrel
  have hbr:=HBR.out
  obtain ⟨qo,co,hv⟩:=owns_sliceL hrow.out.1
  subst hvo
  subst hv
  have hrz:rs.size=s.size-b:=by rw [hrs.out,vsize s b s.size hb (Nat.le_refl _)]
  by_cases hlt:b<s.size
  ·have hrp:(0:Int)<(rs.size:Int):=by omega
   have hrle:rs.size≤1048576:=by omega
   have HC: ∀ w1,Calls Tryz.prog 194 #[.string rs,.string ⟨#[10]⟩] w1 fun e w'=>e=.returned (.tuple #[.string (cutD rs 10).1,.string (cutD rs 10).2.1,.bool (cutD rs 10).2.2])∧Below w1.heap.size w1 w':=fun w1=>cut10_c rs w1 hrle
   obtain ⟨⟨ln,rest,en⟩,hx⟩: ∃ p,p=cutD rs 10:=⟨_,rfl⟩
   rw [←hx] at HC
   dsimp only at HC
   have HRD:=lock_round s b hlt (ps.map LC.d) ln rest en (by rw [←hrs.out];exact hx.symm)
   obtain ⟨hlz,HRN,HRY⟩:=HRD
   have HP:=fun w1=>readPick_c ln (by omega) w1
   obtain ⟨hn7,ht7⟩:=cutD_size ln 64
   have HBK:=hidden (fun h=>pickT_bulk (t:=(cutD ln 64).2.1) h)
   have HPT:Hid (pickT (cutD ln 64).1 (cutD ln 64).2.1=⟨(cutD ln 64).1,resN (cutD ln 64).2.1 0,resN (cutD ln 64).2.1 1,resN (cutD ln 64).2.1 2,resP (cutD ln 64).2.1⟩):=rfl
   obtain ⟨nm,hnm⟩: ∃ z,z=(cutD ln 64).1:=⟨_,rfl⟩
   obtain ⟨ra,hra⟩: ∃ z,z=resN (cutD ln 64).2.1 0:=⟨_,rfl⟩
   obtain ⟨rb,hrb⟩: ∃ z,z=resN (cutD ln 64).2.1 1:=⟨_,rfl⟩
   obtain ⟨rc,hrc⟩: ∃ z,z=resN (cutD ln 64).2.1 2:=⟨_,rfl⟩
   obtain ⟨rk,hrk⟩: ∃ z,z=resOk (cutD ln 64).2.1:=⟨_,rfl⟩
   obtain ⟨rp,hrp2⟩: ∃ z,z=resP (cutD ln 64).2.1:=⟨_,rfl⟩
   obtain ⟨D,hD⟩: ∃ z,z=pickT (cutD ln 64).1 (cutD ln 64).2.1:=⟨_,rfl⟩
   simp only [←hD] at HRY HPT
   simp only [←hra, ←hrb, ←hrc, ←hrk, ←hrp2, ←hnm] at HP HRY HBK HPT
   rw [←hnm] at hn7
   have hnz:nm.size≤1048576:=by omega
   have HP2:Hid (∀ w1,Calls Tryz.prog 195 #[.string ln] w1 fun e w'=>∃ q c,e=.returned (.tuple #[.agg #[.string nm,.int .i64 ra,.int .i64 rb,.int .i64 rc,.slice q rp.length c],.bool rk])∧w'.ownsRow w1.heap.size 9 1 (.slice q rp.length c) rp.length (strsV rp)∧Below w1.heap.size w1 w'):=fun w1=>(HP w1).mono fun e w' ⟨u,h1,h2,h3⟩=>by
    obtain ⟨q,c,rfl⟩:=owns_sliceL h2
    exact ⟨q,c,h1,h2,h3⟩
   replace HC:=hidden HC
   replace HRN:=hidden HRN
   replace HRY:=hidden HRY
   obtain ⟨un,hun⟩: ∃ n,n=rp.length:=⟨_,rfl⟩
   have HUN:=hidden hun
   rw [←hun] at HP2
   clear hx hnm hra hrb hrc hrk hrp2 hD hun HP hn7 ht7 hlz hrs
   go_wp2_with fail
   go_at_call 194
   refine (HC.out _).mono ?_
   rintro e w1 ⟨rfl,b1⟩
   have k1:Below w.heap.size w w1:=hbr.trans (b1.mono hbr.size)
   have hrow1:=hidden (hrow.out.below b1)
   clear HC hrow b1 hbr HBR
   go_wp2_with fail
   go_at_call 195
   refine (HP2.out _).mono ?_
   rintro e w2 ⟨uq,uc,rfl,ho2,b2⟩
   have k2:Below w.heap.size w w2:=k1.trans (b2.mono k1.size)
   have hrow2:=hidden (hrow1.out.below b2)
   have HO2:=hidden (owns_lo k1.size ho2)
   have HSEP:Hid (SepL (ps++[⟨D,.slice uq un uc⟩])):=hsep.out.add (B:=w1.heap.size) (fun p hp g hg=>(owns_in (hrow1.out.2 p hp) g hg).2) (fun g hg=>(owns_in ho2 g hg).1)
   have hown2:=hrow2.out.1
   have kz:Below w.heap.size w ((w2.alloc (.cells #[.string nm,.int .i64 ra,.int .i64 rb,.int .i64 rc,.slice uq un uc] 59)).alloc (.cells #[.string nm,.int .i64 ra,.int .i64 rb,.int .i64 rc,.slice uq un uc] 59)):=(k2.alloc k2.size _).alloc (by have:=k2.size;simp;omega) _
   have kz2:Hid (Below w2.heap.size w2 ((w2.alloc (.cells #[.string nm,.int .i64 ra,.int .i64 rb,.int .i64 rc,.slice uq un uc] 59)).alloc (.cells #[.string nm,.int .i64 ra,.int .i64 rb,.int .i64 rc,.slice uq un uc] 59))):=((Below.refl _ _).alloc (Nat.le_refl _) _).alloc (by simp) _
   have hsrc: ∀ j u,[.string nm,.int .i64 ra,.int .i64 rb,.int .i64 rc,.slice uq un uc][j]?=some u→((w2.alloc (.cells #[.string nm,.int .i64 ra,.int .i64 rb,.int .i64 rc,.slice uq un uc] 59)).alloc (.cells #[.string nm,.int .i64 ra,.int .i64 rb,.int .i64 rc,.slice uq un uc] 59)).cell? ((⟨w2.heap.size+1,0,none⟩:Addr).add j)=some u:=by
    have h9:=src_newL (w2.alloc (.cells #[.string nm,.int .i64 ra,.int .i64 rb,.int .i64 rc,.slice uq un uc] 59)) [.string nm,.int .i64 ra,.int .i64 rb,.int .i64 rc,.slice uq un uc] 59
    simpa using h9
   have KZ:=hidden kz
   clear HP2 hrow1 b2 ho2 k1 kz
   go_wp2_with (at_builtin;refine wpList_append_own _ rfl _ _ 49 rfl w.heap.size 59 i0 (.agg #[.string ⟨#[]⟩,.int .i64 0,.int .i64 0,.int .i64 0,.slice none 0 0]) 5 64 Tryz.underlying49 hi0 hz0 hz1 hz2 rfl (by decide) _ ps.length (flatL ps) rfl ((hown2.alloc _).alloc _) ⟨w2.heap.size+1,0,none⟩ 1 1 [.string nm,.int .i64 ra,.int .i64 rb,.int .i64 rc,.slice uq un uc] rfl rfl hsrc (by intro u hu;simp at hu;rcases hu with rfl|rfl|rfl|rfl|rfl<;>rfl) (by unfold maxLen;omega) (by omega) (by have:=k2.size;simp;omega) ?_)
   intro v3 w3 o3 gr3 _
   have hb3:Below w.heap.size w w3:=KZ.out.grown gr3 KZ.out.size (fun j hj=>(hown2.lt j hj).1)
   have hrow3:RowL w.heap.size w3 v3 (ps++[⟨D,.slice uq un uc⟩]):=by
    refine ⟨?_,fun q hq=>?_⟩
    ·rw [flatL_append,List.length_append]
     have e9:flatL [(⟨D,.slice uq un uc⟩:LC)]=[.string nm,.int .i64 ra,.int .i64 rb,.int .i64 rc,.slice uq un uc]:=by show LC.cells _++[]=_;rw [List.append_nil,LC.cells,HPT.out]
     rw [e9]
     exact o3
    ·rcases List.mem_append.1 hq with h9|h9
     ·have h8:=owns_of_belowN (hrow2.out.2 q h9) kz2.out
      exact h8.kept gr3 (owns_apart h8 ((hown2.alloc _).alloc _) (by decide))
     ·rw [List.mem_singleton.1 h9]
      have h8:=owns_of_belowN HO2.out kz2.out
      have h7:=h8.kept gr3 (owns_apart h8 ((hown2.alloc _).alloc _) (by decide))
      show w3.ownsRow w.heap.size 9 1 (.slice uq un uc) D.vP.length (strsV D.vP)
      rw [HPT.out]
      show w3.ownsRow w.heap.size 9 1 (.slice uq un uc) rp.length (strsV rp)
      rw [←HUN.out]
      exact h7
   have HR3:=hidden hrow3
   have HB3:=hidden hb3
   have HMP:Hid ((ps++[(⟨D,.slice uq un uc⟩:LC)]).map LC.d=ps.map LC.d++[D]):=by show _=_;simp
   obtain ⟨q3,c3,hv3⟩:=owns_sliceL hrow3.1
   subst hv3
   have hl3:(ps++[(⟨D,.slice uq un uc⟩:LC)]).length=ps.length+1:=by simp
   rw [hl3] at HR3
   clear hrow3 hb3 o3 gr3 k2 hown2 HO2 kz2 hsrc KZ hrow2 HUN hl3
   cases en with
   |false=>
    have HN:=hidden (HRN.out rfl)
    clear HRN HRY
    go_wp2_with fail
    go_ret2
    exact ⟨.inr ⟨by rw [hlk.out,HN.out],_,rfl⟩,HB3.out⟩
   |true=>
    obtain ⟨b',hb1,hb2,hre,HY1,HY2,HY3⟩:=HRY.out rfl
    clear HRN HRY
    cases rk with
    |false=>
     have HN:=hidden (HY1 rfl)
     clear HY1 HY2 HY3 hre
     go_wp2_with fail
     go_ret2
     exact ⟨.inr ⟨by rw [hlk.out,HN.out],_,rfl⟩,HB3.out⟩
    |true=>
     have hbk:=HBK.out rfl
     have hps3: ∀ p∈ps++[(⟨D,.slice uq un uc⟩:LC)],p.d.name.size≤1048576∧bulkS p.d.vP≤1048576:=fun p hp=>by
      rcases List.mem_append.1 hp with h9|h9
      ·exact hps.out p h9
      ·rw [List.mem_singleton.1 h9]
       show D.name.size≤_∧bulkS D.vP≤_
       rw [HPT.out]
       exact ⟨hnz,hbk⟩
     have HOW:Hid (RowOwn shPickO 59 (Ow w.heap.size w3.heap.size) w3 (.slice q3 (ps.length+1) c3) ((ps++[(⟨D,.slice uq un uc⟩:LC)]).map LC.d)):=by
      have h8:=HR3.out
      exact RowL.own h8 hps3 (by unfold maxLen;simp;omega)
     have HPK:=implPicksOk_c (Ow w.heap.size w3.heap.size) _ _ w3 (rowL_plain HOW.out) (fun b hb=>hb.2) (fun d hd=>by obtain ⟨p,hp,rfl⟩:=List.mem_map.1 hd;exact (hps3 p hp).2)
     rw [picks_alike,HMP.out] at HPK
     have HPS3:=hidden hps3
     have HLE:=hidden (fun h:picksB (ps.map LC.d++[D])=true=>of_decide_eq_true (Bool.and_eq_true_iff.1 h).2)
     obtain ⟨pk,hpk⟩: ∃ z,z=picksB (ps.map LC.d++[D]):=⟨_,rfl⟩
     rw [←hpk] at HPK HY2 HY3 HLE
     replace HPK:=hidden HPK
     clear hpk hps3 HY1 hbk HOW
     cases pk with
     |false=>
      have HN:=hidden (HY2 rfl rfl)
      clear HY2 HY3 hre HLE
      go_wp2_with (go_at_call 121;refine HPK.out.mono ?_;rintro e w4 ⟨rfl,b4⟩)
      go_ret2
      exact ⟨.inr ⟨by rw [hlk.out,HN.out],_,rfl⟩,HB3.out.trans (b4.mono HB3.out.size)⟩
     |true=>
      have HN:=hidden (HY3 rfl rfl)
      have hle:=HLE.out rfl
      rw [List.length_append,List.length_map,List.length_singleton] at hle
      have HRE:=hidden hre
      have hrz2:rest.size=s.size-b':=by rw [hre,vsize s b' s.size hb2 (Nat.le_refl _)]
      have hk1:(k:Int)+1≤1048577:=by omega
      have HMS:Hid (rest.size<rs.size):=by show _<_;omega
      clear HY2 HY3 HLE hre hrz2
      go_wp2_with (go_at_call 121;refine HPK.out.mono ?_;rintro e w4 ⟨rfl,b4⟩)
      have HR4:=hidden (HR3.out.below b4)
      go_roundw
      case rel=>exact ⟨b',k+1,rest,_,ps++[⟨D,.slice uq un uc⟩],hb2,by omega,rfl,HRE,rfl,by go_num,(by show _=_;rw [hlk.out,HN.out,HMP.out]),HR4,HPS3,by simpa using hle,HSEP,HB3.out.trans (b4.mono HB3.out.size)⟩
      case measure=>exact HMS.out
  ·have he:b=s.size:=by omega
   have hz:rs.size=0:=by omega
   have hz2: ¬(0:Int)<(rs.size:Int):=by omega
   have HEN:Hid (lockR s=some (ps.map LC.d)):=by show _=_;rw [hlk.out,he,lock_end]
   clear hrz hz he hlk
   go_wp2_with fail
   go_ret2
   exact ⟨.inl ⟨_,_,HEN.out,rfl,hrow.out,hsep.out,hps.out,hpl⟩,hbr⟩
end Go.Proofs.YtlfmefojcmpfeaaGreatDoor
namespace Go.Proofs.YtlfmefojcmpfeaaGreatDoor
open Go.RowKit Go.Extern.Stop Go.Stop Go.Extern
theorem as_nil (t:Value) (w:World):
  Calls Tryz.prog 126 #[.nilIface,t] w fun e w'=>e=.returned (.bool false)∧w'=w:=by
 go_enter Tryz.func126,Tryz.ntmps126
 go_wp2
 go_ret
 exact ⟨rfl,rfl⟩
abbrev vPtr (a:Addr):Value:=.agg #[.pointer (some ⟨8,167,none⟩),.pointer (some a),.int .u64 150]
abbrev vErr (a:Addr):Value:=.agg #[.pointer (some ⟨8,165,none⟩),.pointer (some a),.int .u64 153]
abbrev vErrA (a:Addr):Value:=.agg #[.pointer (some ⟨8,165,none⟩),.pointer (some a),.int .u64 409]
abbrev tPtr :Value:=.agg #[.pointer (some ⟨8,167,none⟩)]
abbrev tErr :Value:=.agg #[.pointer (some ⟨8,165,none⟩)]
theorem asv_valueOfP (t:Addr) (w:World):(ReflectliteValue.unpack (.iface 167 (.pointer (some t)))).run Tryz.prog w
  =.ok (vPtr ⟨w.heap.size,0,none⟩) (w.alloc (.cells #[.pointer (some t)] 167)):=by kernel_rfl
theorem asv_typeP (a:Addr) (w:World):(ReflectliteValue.methodAny (ReflectliteValue.valueError "reflectlite.Value.Type" 0) (fun t _ _ _=>ReflectliteType.toType t) #[vPtr a]).run Tryz.prog w
  =.ok (.iface 288 tPtr) w:=by kernel_rfl
theorem asv_methodKind (h:Value) (w:World):(Go.method 497 288 (.agg #[h]) "Kind").run Tryz.prog w=.ok (348,h) w:=by kernel_rfl
theorem asv_kindP (w:World):((ReflectliteType.abiMethod fun t=>(fun a:Nat=>Value.int IntKind.u8 (a:Int))<$>Rtype.kind t) #[.pointer (some ⟨8,167,none⟩)]).run Tryz.prog w=.ok (.int .u8 22) w:=by kernel_rfl
theorem asv_kindE (w:World):((ReflectliteType.abiMethod fun t=>(fun a:Nat=>Value.int IntKind.u8 (a:Int))<$>Rtype.kind t) #[.pointer (some ⟨8,165,none⟩)]).run Tryz.prog w=.ok (.int .u8 25) w:=by kernel_rfl
theorem rlm (z:Sem Value) (f:TypeId→Addr→Nat→Nat→Sem Value) (v:Value):
  ReflectliteValue.method z f #[v]=(do match ←ReflectliteValue.parts v with|none=>z|some (t,a,fl)=>f t a fl (fl % 32)):=rfl
theorem asv_partsP (a:Addr) (w:World):(ReflectliteValue.parts (vPtr a)).run Tryz.prog w=.ok (some (167,a,150)) w:=by kernel_rfl
theorem asv_isNilP (a p:Addr) (W:World) (ha:W.cell? a=some (.pointer (some p))):
  (ReflectliteValue.method (ReflectliteValue.valueError "reflectlite.Value.IsNil" 0) ReflectliteValue.isNil #[vPtr a]).run Tryz.prog W=.ok (.bool false) W:=by
 rw [rlm]
 simp only [Sem.run_bind,asv_partsP,Result.andThen]
 simp [ReflectliteValue.isNil,loadVar,isAgg,underlying,Tryz.underlying167,ha,Result.andThen]
theorem asv_methodElem (h:Value) (w:World):(Go.method 497 288 (.agg #[h]) "Elem").run Tryz.prog w=.ok (359,.agg #[h]) w:=by kernel_rfl
theorem asv_methodImplements (h:Value) (w:World):(Go.method 497 288 (.agg #[h]) "Implements").run Tryz.prog w=.ok (360,.agg #[h]) w:=by kernel_rfl
theorem asv_methodAssignableTo (h:Value) (w:World):(Go.method 497 288 (.agg #[h]) "AssignableTo").run Tryz.prog w=.ok (357,.agg #[h]) w:=by kernel_rfl
theorem asv_elemP (w:World):(ReflectliteType.method ReflectliteType.elem #[tPtr]).run Tryz.prog w=.ok (.iface 288 tErr) w:=by kernel_rfl
theorem asv_implementsE (w:World):(ReflectliteType.relation "Implements" ReflectliteType.implements_ #[tErr,.iface 288 (.agg #[.pointer (some ⟨8,157,none⟩)])]).run Tryz.prog w=.ok (.bool true) w:=by kernel_rfl
theorem asv_typeOfE (v:Value) (w:World):(ReflectliteType.typeOf #[.iface 165 v]).run Tryz.prog w=.ok (.iface 288 tErr) w:=by kernel_rfl
theorem asv_assignableE (w:World):(ReflectliteType.relation "AssignableTo" ReflectliteType.assignableTo #[tErr,.iface 288 tErr]).run Tryz.prog w=.ok (.bool true) w:=by kernel_rfl
theorem asv_valueOfE (n:Int) (w:World):(ReflectliteValue.unpack (.iface 165 (.agg #[.int .i64 n]))).run Tryz.prog w
  =.ok (vErr ⟨w.heap.size,0,none⟩) (w.alloc (.cells #[.int .i64 n] 165)):=by kernel_rfl
theorem asv_elemOfP (w:World):(Rtype.elem? 167).run Tryz.prog w=.ok (some 165) w:=by kernel_rfl
theorem asv_mkE (p:Addr) (w:World):(ReflectliteValue.mk 165 p ReflectliteValue.flagAddr).run Tryz.prog w=.ok (vErrA p) w:=by kernel_rfl
theorem asv_elemVP (a p:Addr) (W:World) (ha:W.cell? a=some (.pointer (some p))):
  (ReflectliteValue.method (ReflectliteValue.valueError "reflectlite.Value.Elem" 0) ReflectliteValue.elem #[vPtr a]).run Tryz.prog W
   =.ok (vErrA p) W:=by
 rw [rlm]
 simp only [Sem.run_bind,asv_partsP,Result.andThen]
 simp [ReflectliteValue.elem,loadVar,isAgg,underlying,Tryz.underlying167,ha,Result.andThen,asv_elemOfP,asv_mkE]
theorem rls (v x : Value) : ReflectliteValue.set #[v, x] = (do
    let (some (dst, a, fl), some (src, b, _)) := (← ReflectliteValue.parts v, ← ReflectliteValue.parts x)
      | unsupported (.noEntry "extern/(internal/reflectlite.Value).Set.zeroValue")
    if fl / ReflectliteValue.flagAddr % 2 == 0 then unsupported (.noEntry "extern/(internal/reflectlite.Value).Set.unaddressable")
    let val ← loadVar src b
    if ← Rtype.directlyAssignable dst src then storeVar dst a val
    else if ← Rtype.implements dst src then
      if (← Rtype.kind src) == 20 then
        match val with
        | .nilIface => unsupported (.noEntry "extern/reflectlite: a nil value of one interface type handed on as a value of another")
        | _ => storeVar dst a val
      else storeVar dst a (.iface src val)
    else panicString ("reflectlite.Set: value of type " ++ (← Rtype.spelt src) ++ " is not assignable to type " ++ (← Rtype.spelt dst))
    pure (.tuple #[])) := rfl
theorem asv_partsEA (a:Addr) (w:World):(ReflectliteValue.parts (vErrA a)).run Tryz.prog w=.ok (some (165,a,409)) w:=by kernel_rfl
theorem asv_partsE (a:Addr) (w:World):(ReflectliteValue.parts (vErr a)).run Tryz.prog w=.ok (some (165,a,153)) w:=by kernel_rfl
theorem asv_directE (w:World):(Rtype.directlyAssignable 165 165).run Tryz.prog w=.ok true w:=by kernel_rfl
theorem asv_sizeE (w:World):(sizeOf 165).run Tryz.prog w=.ok 1 w:=by kernel_rfl
theorem asv_aggE (w:World):(isAgg 165).run Tryz.prog w=.ok true w:=by kernel_rfl
theorem asv_loadE (b:Addr) (n:Int) (W:World) (hb:W.cell? b=some (.int .i64 n)):(loadVar 165 b).run Tryz.prog W=.ok (.agg #[.int .i64 n]) W:=by
 simp [loadVar,asv_aggE,asv_sizeE,loadCells,loadCellsFrom,Result.andThen,hb,Addr.add]
theorem asv_setE (ta b:Addr) (n:Int) (old:Value) (W:World) (hb:W.cell? b=some (.int .i64 n)) (ht:W.cell? ta=some old) (hf:W.frozen? ta=false):
  (ReflectliteValue.set #[vErrA ta,vErr b]).run Tryz.prog W=.ok (.tuple #[]) (W.setCell ta (.int .i64 n)):=by
 rw [rls]
 simp only [Sem.run_bind,asv_partsEA,asv_partsE,Result.andThen]
 simp [ReflectliteValue.flagAddr,asv_loadE b n W hb,Result.andThen,asv_directE,asv_sizeE,storeVar,Value.cells,storeCells,Addr.add]
 rw [run_store Tryz.prog W ta _ _ (by rfl)]
 simp [ht,hf]
theorem as_hit (n:Int) (t:Addr) (old:Value) (w:World) (hg:w.cell? ⟨0,0,none⟩=some (.iface 288 (.agg #[.pointer (some ⟨8,157,none⟩)]))) (ht0:w.cell? t=some old) (hf0:w.frozen? t=false):
  Calls Tryz.prog 126 #[.iface 165 (.agg #[.int .i64 n]),.iface 167 (.pointer (some t))] w fun ev w'=>ev=.returned (.bool true)∧w'=((((w.alloc (.cells #[.pointer (some t)] 167)).alloc (.cells #[.pointer (some ⟨8,167,none⟩),.pointer (some ⟨w.heap.size,0,none⟩),.int .u64 150] 240)).alloc (.cells #[.pointer (some ⟨8,167,none⟩),.pointer (some ⟨w.heap.size,0,none⟩),.int .u64 150] 240)).alloc (.cells #[.int .i64 n] 165)).setCell t (.int .i64 n):=by
 have h6:= @run_callFunc_extern Tryz.prog 196 _ (fun args=>ReflectliteValue.unpack (args.getD 0 (.tuple #[]))) Tryz.func196 (by kernel_rfl) (by kernel_rfl) (by kernel_rfl) (by kernel_rfl)
 have h7:= @run_callFunc_extern Tryz.prog 197 _ (ReflectliteValue.methodAny (ReflectliteValue.valueError "reflectlite.Value.Type" 0) (fun t _ _ _=>ReflectliteType.toType t)) Tryz.func197 (by kernel_rfl) (by kernel_rfl) (by kernel_rfl) (by kernel_rfl)
 have h8:= @run_callFunc_extern Tryz.prog 198 _ (ReflectliteValue.method (ReflectliteValue.valueError "reflectlite.Value.IsNil" 0) ReflectliteValue.isNil) Tryz.func198 (by kernel_rfl) (by kernel_rfl) (by kernel_rfl) (by kernel_rfl)
 have h27:= @run_callFunc_extern Tryz.prog 348 _ (ReflectliteType.abiMethod fun t=>do pure (.int .u8 (←Rtype.kind t))) Tryz.func348 (by kernel_rfl) (by kernel_rfl) (by kernel_rfl) (by kernel_rfl)
 have h37:= @run_callFunc_extern Tryz.prog 359 _ (ReflectliteType.method ReflectliteType.elem) Tryz.func359 (by kernel_rfl) (by kernel_rfl) (by kernel_rfl) (by kernel_rfl)
 have h38:= @run_callFunc_extern Tryz.prog 360 _ (ReflectliteType.relation "Implements" ReflectliteType.implements_) Tryz.func360 (by kernel_rfl) (by kernel_rfl) (by kernel_rfl) (by kernel_rfl)
 have h10:= @run_callFunc_extern Tryz.prog 259 _ ReflectliteType.typeOf Tryz.func259 (by kernel_rfl) (by kernel_rfl) (by kernel_rfl) (by kernel_rfl)
 have h35:= @run_callFunc_extern Tryz.prog 357 _ (ReflectliteType.relation "AssignableTo" ReflectliteType.assignableTo) Tryz.func357 (by kernel_rfl) (by kernel_rfl) (by kernel_rfl) (by kernel_rfl)
 have h11:= @run_callFunc_extern Tryz.prog 260 _ (ReflectliteValue.method (ReflectliteValue.valueError "reflectlite.Value.Elem" 0) ReflectliteValue.elem) Tryz.func260 (by kernel_rfl) (by kernel_rfl) (by kernel_rfl) (by kernel_rfl)
 have h12:= @run_callFunc_extern Tryz.prog 261 _ ReflectliteValue.set Tryz.func261 (by kernel_rfl) (by kernel_rfl) (by kernel_rfl) (by kernel_rfl)
 have tO:=asv_typeOfE
 have mA:=asv_methodAssignableTo
 have a25:=asv_assignableE
 have v25:=asv_valueOfE
 have f6:=asv_valueOfP
 have f7:=asv_typeP
 have mK:=asv_methodKind
 have mE:=asv_methodElem
 have mI:=asv_methodImplements
 have k27:=asv_kindP
 have k25:=asv_kindE
 have e27:=asv_elemP
 have i25:=asv_implementsE
 have n8:=asv_isNilP ⟨w.heap.size,0,none⟩ t ((w.alloc (.cells #[.pointer (some t)] 167)).alloc (.cells #[.pointer (some ⟨8,167,none⟩),.pointer (some ⟨w.heap.size,0,none⟩),.int .u64 150] 240)) (by simp)
 have hlt:0<w.heap.size:=by simpa using World.block_lt_of_cell? w _ hg
 have hg2:((w.alloc (.cells #[.pointer (some t)] 167)).alloc (.cells #[.pointer (some ⟨8,167,none⟩),.pointer (some ⟨w.heap.size,0,none⟩),.int .u64 150] 240)).cell? ⟨0,0,none⟩=some (.iface 288 (.agg #[.pointer (some ⟨8,157,none⟩)])):=by
  rw [World.cell?_alloc_lt _ _ ⟨0,0,none⟩ (by first|(simp;done)|(simp;omega)),World.cell?_alloc_lt _ _ ⟨0,0,none⟩ hlt];exact hg
 have htl:t.block<w.heap.size:=by
  rcases Nat.lt_or_ge t.block w.heap.size with h|h
  ·exact h
  ·simp [World.cell?,Array.getElem?_eq_none h] at ht0
 have el:=asv_elemVP ⟨w.heap.size,0,none⟩ t (((w.alloc (.cells #[.pointer (some t)] 167)).alloc (.cells #[.pointer (some ⟨8,167,none⟩),.pointer (some ⟨w.heap.size,0,none⟩),.int .u64 150] 240)).alloc (.cells #[.pointer (some ⟨8,167,none⟩),.pointer (some ⟨w.heap.size,0,none⟩),.int .u64 150] 240)) (by rw [World.cell?_alloc_lt _ _ ⟨w.heap.size,0,none⟩ (by simp;omega)];simp)
 have st:=asv_setE t ⟨w.heap.size+1+1+1,0,none⟩ n old ((((w.alloc (.cells #[.pointer (some t)] 167)).alloc (.cells #[.pointer (some ⟨8,167,none⟩),.pointer (some ⟨w.heap.size,0,none⟩),.int .u64 150] 240)).alloc (.cells #[.pointer (some ⟨8,167,none⟩),.pointer (some ⟨w.heap.size,0,none⟩),.int .u64 150] 240)).alloc (.cells #[.int .i64 n] 165))
  (by rw [World.cell?_alloc_at _ _ _ _ (by simp)];rfl)
  (by rw [World.cell?_alloc_lt _ _ t (by simp;omega),World.cell?_alloc_lt _ _ t (by simp;omega),World.cell?_alloc_lt _ _ t (by simp;omega),World.cell?_alloc_lt _ _ t htl];exact ht0)
  (by rw [World.frozen?_alloc_old _ _ t (by simp;omega),World.frozen?_alloc_old _ _ t (by simp;omega),World.frozen?_alloc_old _ _ t (by simp;omega),World.frozen?_alloc_old _ _ t (Nat.ne_of_lt htl)];exact hf0)
 go_enter Tryz.func126,Tryz.ntmps126
 go_wp2
 refine wp_loop_rounds 1 ?_
 rw [rounds_succ]
 go_wp2
 go_ret
 exact ⟨rfl,rfl⟩
theorem as_hit_c (n:Int) (t:Addr) (old:Value) (w:World) (B:Nat) (hB:B≤t.block) (hBw:B≤w.heap.size) (hg:w.cell? ⟨0,0,none⟩=some (.iface 288 (.agg #[.pointer (some ⟨8,157,none⟩)]))) (ht0:w.cell? t=some old) (hf0:w.frozen? t=false):
  Calls Tryz.prog 126 #[.iface 165 (.agg #[.int .i64 n]),.iface 167 (.pointer (some t))] w fun ev w'=>ev=.returned (.bool true)∧Below B w w':=
 (as_hit n t old w hg ht0 hf0).mono fun e w' ⟨h1,h2⟩=>by
  subst h2
  exact ⟨h1,((((((Below.refl B w).alloc hBw _).alloc (by simp;omega) _).alloc (by simp;omega) _).alloc (by simp;omega) _).setCell hB _)⟩
end Go.Proofs.YtlfmefojcmpfeaaGreatDoor
namespace Go.Proofs.YtlfmefojcmpfeaaGreatDoor
open Go.RowKit
theorem rowOwn_up {w w':World} {lo:Nat} {v:Value} {xs:List PickD} (h:RowOwn shPickO 59 (Ow lo w.heap.size) w v xs) (hb:Below w.heap.size w w'):RowOwn shPickO 59 (Ow lo w'.heap.size) w' v xs:=
 (h.keep (.of hb (fun b h=>h.2))).mono (fun b h=>⟨h.1,Nat.lt_of_lt_of_le h.2 hb.size⟩)
theorem implLockL_c (s:ByteArray) (hs:s.size≤1048576) (w:World) (hg:ErrT w):
  Calls Tryz.prog 46 #[.string s] w fun e w'=>∃ q c ps,ps.map LC.d=(lockR s).getD []∧e=.returned (.tuple #[.slice q ((lockR s).getD []).length c,.bool (lockR s).isSome])∧RowL w.heap.size w' (.slice q ((lockR s).getD []).length c) ps∧SepL ps∧(∀ p∈ps,p.d.name.size≤1048576∧bulkS p.d.vP≤1048576)∧ps.length≤12∧Below w.heap.size w w':=by
 have HRL:=readLock_c s hs w
 obtain ⟨R,hR⟩: ∃ R,R=lockR s:=⟨_,rfl⟩
 rw [←hR] at HRL ⊢
 replace HRL:=hidden HRL
 have HG:=hidden hg
 clear hg hR
 go_enter Tryz.func46,Tryz.ntmps46
 go_wp2_with fail
 go_at_call 125
 refine HRL.out.mono ?_
 rintro e w1 ⟨h,b1⟩
 have kb:Below w1.heap.size w1 (w1.alloc (.cells #[.int .i64 0] 165)):=(Below.refl _ _).alloc (Nat.le_refl _) _
 have k2:Below w.heap.size w (w1.alloc (.cells #[.int .i64 0] 165)):=b1.trans (kb.mono b1.size)
 rcases h with ⟨v,ps,hl,rfl,ho,hsp,hsz,h12⟩|⟨hl,n,rfl⟩
 ·have HO:=hidden (ho.below kb)
  obtain ⟨q,c,hv⟩:=owns_sliceL ho.1
  subst hv
  subst hl
  have HSP:=hidden hsp
  have HSZ:=hidden hsz
  clear ho HRL hsp hsz
  go_wp2_with fail
  go_at_call 126
  refine (as_nil _ _).mono ?_
  rintro e w2 ⟨rfl,rfl⟩
  go_wp2_with fail
  go_ret2
  exact ⟨q,c,ps,rfl,by simp,by simpa using HO.out,HSP.out,HSZ.out,h12,k2⟩
 ·subst hl
  have HA:=hidden (as_hit_c n ⟨w1.heap.size,0,none⟩ (.int .i64 0) (w1.alloc (.cells #[.int .i64 0] 165)) w1.heap.size (Nat.le_refl _) (by simp) (HG.out.below k2) (vblk_cell (vheap_new _ _) 0) (vblk_frozen (vheap_new _ _) 0))
  clear HRL
  go_wp2_with fail
  go_at_call 126
  refine HA.out.mono ?_
  rintro e w2 ⟨rfl,b2⟩
  have k3:Below w.heap.size w w2:=k2.trans (b2.mono b1.size)
  go_wp2_with fail
  go_ret2
  exact ⟨none,0,[],rfl,rfl,⟨World.ownsRow_nil _ _ _ _,fun p hp=>by simp at hp⟩,SepL.nil,(fun p hp=>by simp at hp),by simp,k3⟩
theorem implLock_c (s:ByteArray) (hs:s.size≤1048576) (w:World) (hg:ErrT w):
  Calls Tryz.prog 46 #[.string s] w fun e w'=>∃ q c,e=.returned (.tuple #[.slice q ((lockR s).getD []).length c,.bool (lockR s).isSome])∧RowOwn shPickO 59 (Ow w.heap.size w'.heap.size) w' (.slice q ((lockR s).getD []).length c) ((lockR s).getD [])∧Below w.heap.size w w':=
 (implLockL_c s hs w hg).mono fun e w' ⟨q,c,ps,h1,h2,h3,h4,h5,h6,h7⟩=>⟨q,c,h2,by have h8:=RowL.own h3 h5 (by unfold maxLen;omega);rw [h1] at h8;exact h8,h7⟩
end Go.Proofs.YtlfmefojcmpfeaaGreatDoor
namespace Go.Proofs.YtlfmefojcmpfeaaGreatDoor
open Go.ChangeShapes Go.WideShapes Go.RowKit
namespace fnExactStale
theorem cells_of_texts {H:Type} {enc:TypeId × Value→H} {P:Program} {w:World} {base:Nat} {sp:Nat→Bool} {held:Bool} {fuel:Nat} {t e:TypeId} {n:Nat} {cs:List Value} {zs:List (List UInt8)} {p:List MemPlace}
  (ht:P.underlying t=some (.array n e)) (he:P.underlying e=some .string) (hce:P.cellsOf e=1) (hct:P.cellsOf t=n)
  (h:DataW.trod enc P w base sp held fuel t cs=some (.agg (zs.map fun z=>.lit (.string z)),p)):cs=zs.map fun z=>Value.string ⟨z.toArray⟩:=by
 cases fuel with
 |zero=>simp [DataW.trod] at h
 |succ fuel=>
  simp only [DataW.trod,ht,hce,hct,Nat.mul_one] at h
  split at h
  ·rename_i hl
   obtain ⟨xs,hm,hx⟩:=Option.map_eq_some_iff.1 h
   have hxs:xs.map (·.1)=zs.map fun z=>(DataW.lit (.string z):DataW H):=by
    have:=congrArg Prod.fst hx
    simpa using this
   have hxl:xs.length=n:=by simpa using Lib.mapM_length hm
   have hzl:zs.length=n:=by
    have:=congrArg List.length hxs
    simp at this
    omega
   apply List.ext_getElem?
   intro i
   by_cases hi:i<n
   ·obtain ⟨b,hb,hf⟩:=Lib.mapM_at hm i i (by simp [hi])
    obtain ⟨z,hc,rfl,_⟩:=DataW.trod_string he hf
    have h1:cs[i]?=some (.string z):=by
     have:=congrArg (·[0]?) hc
     simpa [List.getElem?_take,List.getElem?_drop] using this
    have h2:(xs.map (·.1))[i]?=some (DataW.lit (.string z.data.toList):DataW H):=by simp [hb]
    rw [hxs] at h2
    simp only [List.getElem?_map,Option.map_eq_some_iff,DataW.lit.injEq,Lit.string.injEq] at h2
    obtain ⟨z',hz',rfl⟩:=h2
    simp [h1,hz']
   ·rw [List.getElem?_eq_none (by omega),List.getElem?_eq_none (by simp;omega)]
  ·cases h
theorem six_laid {W:World} (h:laidMetH Tryz.prog Rows.fnExactStaleRow.laid W):laidMet Tryz.prog [("math/bits.deBruijn32tab",Rows.laid_math_bits_deBruijn32tab),("math/bits.deBruijn64tab",Rows.laid_math_bits_deBruijn64tab),("internal/strconv.uint64pow10",Rows.laid_internal_strconv_uint64pow10),("unicode/utf8.acceptRanges",Rows.laid_unicode_utf8_acceptRanges),("loop.example/g00464/impl.signTexts",Rows.laid_loop_example_g00464_impl_signTexts),("unicode/utf8.first",Rows.laid_unicode_utf8_first)] W∧handlesMet Tryz.prog [("errors.errorType",Rows.laid_errors_errorType)] W:=by
 have h1:=laidMetH_iff.1 h
 have e1:(Rows.fnExactStaleRow.laid.filter fun x=>x.2.handleName?.isNone)=[("math/bits.deBruijn32tab",Rows.laid_math_bits_deBruijn32tab),("math/bits.deBruijn64tab",Rows.laid_math_bits_deBruijn64tab),("internal/strconv.uint64pow10",Rows.laid_internal_strconv_uint64pow10),("unicode/utf8.acceptRanges",Rows.laid_unicode_utf8_acceptRanges),("loop.example/g00464/impl.signTexts",Rows.laid_loop_example_g00464_impl_signTexts),("unicode/utf8.first",Rows.laid_unicode_utf8_first)]:=by first|rfl|kernel_rfl
 have e2:(Rows.fnExactStaleRow.laid.filter fun x=>x.2.handleName?.isSome)=[("errors.errorType",Rows.laid_errors_errorType)]:=by first|rfl|kernel_rfl
 rw [e1,e2] at h1
 exact h1
theorem etGlob :Tryz.prog.globalNamed "errors.errorType" =some 0:=by kernel_rfl
theorem rtCut :(Tryz.prog.cutTypes.find? (·.1 == "internal/reflectlite.rtype")).map (·.2)=some 288:=by kernel_rfl
theorem errRow :((List.range 397).filter fun t=>Tryz.prog.rowNamed t [101,114,114,111,114])=[157]:=by kernel_rfl
theorem typesSize :Tryz.prog.types.size=397:=by kernel_rfl
theorem handle_of_laid {W:World} (h:laidMetH Tryz.prog Rows.fnExactStaleRow.laid W):ErrT W:=by
 have h':=(six_laid h).2
 obtain ⟨name,u,ty,e1,e2,e3,e4,e5⟩:=h' _ (List.mem_singleton.2 rfl)
 have en:name=[101,114,114,111,114]:=(Option.some.inj e1).symm
 subst en
 obtain rfl:=Option.some.inj (rtCut.symm.trans e2)
 have hm:ty∈(List.range 397).filter fun t=>Tryz.prog.rowNamed t [101,114,114,111,114]:=List.mem_filter.2 ⟨List.mem_range.2 (by rw [←typesSize];exact e3),e4⟩
 rw [errRow] at hm
 obtain rfl:=List.mem_singleton.1 hm
 have hh:typeHandle Tryz.prog 157=.pointer (some ⟨8,157,none⟩):=by kernel_rfl
 rw [hh] at e5
 simpa [ErrT] using World.var?_cell etGlob e5 0
theorem signs_laid {W:World} (h0:laidMetH Tryz.prog Rows.fnExactStaleRow.laid W): ∀ k (h:k<signsT.length),W.cell? ⟨1,k,none⟩=some (.string signsT[k]):=by
 have h:=(six_laid h0).1
 have h1:=laidMet.tail (laidMet.tail (laidMet.tail (laidMet.tail h)))
 obtain ⟨ps,⟨g',t',cs,fuel,p,q,hg',ht',hvar,hd,_,_⟩,_⟩:=h1
 have hg:Tryz.prog.globalNamed "loop.example/g00464/impl.signTexts" =some 1:=by kernel_rfl
 obtain rfl:=Option.some.inj (hg.symm.trans hg')
 have hty:(Tryz.prog.globals[1]?).map (·.type)=some 341:=by kernel_rfl
 obtain rfl:=Option.some.inj (hty.symm.trans ht')
 have hcs:=cells_of_texts (zs:=[[61],[60],[60,61],[62],[62,61],[126],[94]]) Tryz.underlying341 Tryz.underlying9 (by kernel_rfl) (by kernel_rfl) hd
 intro k hk
 rw [World.var?_cell hg hvar k, ←Array.getElem?_toList,hcs]
 have hk7:k<7:=hk
 match k,hk7 with
 |0,_=>rfl
 |1,_=>rfl
 |2,_=>rfl
 |3,_=>rfl
 |4,_=>rfl
 |5,_=>rfl
 |6,_=>rfl
theorem bound_shaped {W:World} (h:W.ShapedOpen Tryz.prog): ∃ m,W.cell? ⟨2,0,none⟩=some (.int .i64 m):=by
 obtain ⟨cs,hh,hs,hr⟩:=h.1 2 #[.int .i64 0] 3 (by decide+kernel) (by kernel_rfl)
 obtain ⟨ts,hts,_,hall⟩:=hr (by kernel_rfl)
 have hc:Tryz.prog.cellTypes Tryz.prog.depth 3=some [3]:=by kernel_rfl
 rw [hc] at hts
 cases hts
 have h1:0<cs.size:=by rw [hs];decide
 obtain ⟨u,hu',hok⟩:=hall 0 cs[0] (by simp [h1])
 have:u=3:=by simpa using hu'.symm
 subst this
 have hcell:W.cell? ⟨2,0,none⟩=some cs[0]:=by simp [World.cell?,hh,h1]
 rw [hcell]
 unfold Cell.ok at hok
 rw [Tryz.underlying3] at hok
 cases hv:cs[0]<;>rw [hv] at hok<;>simp at hok
 obtain ⟨rfl,_⟩:=hok
 exact ⟨_,rfl⟩
theorem powers_laid {W:World} (h0:laidMetH Tryz.prog Rows.fnExactStaleRow.laid W):Lib.TabIs Tryz.prog W "internal/strconv.uint64pow10" .u64 Lib.pow10Tab:=
 Lib.tabIs_of_head (show Tryz.prog.globalNamed "internal/strconv.uint64pow10" =some 5 by kernel_rfl) (by kernel_rfl) Tryz.underlying367 Tryz.underlying284 (by kernel_rfl) (by kernel_rfl) (laidMet.tail (laidMet.tail (six_laid h0).1))
end fnExactStale
end Go.Proofs.YtlfmefojcmpfeaaGreatDoor
namespace Go.Proofs.YtlfmefojcmpfeaaGreatDoor
open Go.RowKit
theorem eqCmd_c (S S':Nat→Prop) (d:CmdD) (cs cs':List Value) (w:World) (hd:shCmd.lies S w cs d) (hd':shCmd.lies S' w cs' d) (hB: ∀ b,S b→b<w.heap.size) (hB': ∀ b,S' b→b<w.heap.size) (hw:wtCmd d≤1048576):
  Calls Tryz.prog 265 #[.agg cs.toArray,.agg cs'.toArray] w fun e w'=>e=.returned (.bool true)∧Below w.heap.size w w':=by
 obtain ⟨xu0,rfl,xs_t,xr0,xp0⟩:=hd
 obtain ⟨yu0,rfl,ys_t,yr0,yp0⟩:=hd'
 have hb2: ∀ A R,Below w.heap.size w ((w.alloc A).alloc R):=fun A R=>((Below.refl _ _).alloc (Nat.le_refl _) _).alloc (by simp) _
 unfold wtCmd at hw
 have HS0:Hid (∀ w1,Below w.heap.size w w1→Calls Tryz.prog 210 #[xu0,yu0] w1 fun e w'=>e=.returned (.bool true)∧Below w1.heap.size w1 w'):=fun w1 hb=>by
  have:=eqStrs_c xu0 yu0 d.acts d.acts w1 ((xr0.keep (.of hb hB)).reads (fun b h=>Nat.lt_of_lt_of_le (hB b h) hb.size)) ((yr0.keep (.of hb hB')).reads (fun b h=>Nat.lt_of_lt_of_le (hB' b h) hb.size)) (by unfold bulkS at hw;omega)
  rwa [decide_eq_true rfl] at this
 obtain ⟨xa0,xc0,xe0,_⟩:=id xr0
 rw [length_strsV] at xe0
 subst xe0
 clear xr0
 obtain ⟨ya0,yc0,ye0,_⟩:=id yr0
 rw [length_strsV] at ye0
 subst ye0
 clear yr0
 go_enter Tryz.func265,Tryz.ntmps265
 go_wp2_with fail
 go_at_call 210
 refine (HS0.out _ (hb2 _ _)).mono ?_
 rintro e w1 ⟨rfl,b1⟩
 obtain ⟨hA1,hR1⟩:=boxTwo b1
 have k1:Below w.heap.size w w1:=(hb2 _ _).trans (b1.mono (hb2 _ _).size)
 go_wp2_with fail
 go_ret
 exact ⟨rfl,k1⟩
theorem eqCmdS_c (S S':Nat→Prop) (v u:Value) (xs:List CmdD) (w:World) (hv:RowIn shCmd S w v xs) (hv':RowIn shCmd S' w u xs) (hB: ∀ b,S b→b<w.heap.size) (hB': ∀ b,S' b→b<w.heap.size) (hw:wtRow wtCmd xs≤1048576):
  Calls Tryz.prog 211 #[v,u] w fun e w'=>e=.returned (.bool true)∧Below w.heap.size w w':=by
 obtain ⟨a,cap,rfl,hl,hc,ha⟩:=hv
 obtain ⟨a',cap',rfl,_,hc',ha'⟩:=hv'
 unfold maxLen at hl
 go_enter Tryz.func211,Tryz.ntmps211
 go_wp2_with fail
 go_loopw [5] (fun vi wr=>∃ k:Nat,k≤xs.length∧vi=.int .i64 (k:Int)∧Below w.heap.size w wr) (fun vi _=>xs.length-(intOf vi).toNat)
 case atStart=>exact ⟨0,Nat.zero_le _,rfl,Below.refl _ _⟩
 case round=>
  obtain ⟨k,hk,rfl,hbr⟩:=hrel
  by_cases hlt':k<xs.length
  ·rcases ha with rfl|⟨b,off,rfl,hlt,ha⟩
   ·simp at hlt'
   rcases ha' with rfl|⟨b',off',rfl,hlt3,ha'⟩
   ·simp at hlt'
   obtain ⟨cs,hL,hcell⟩:=ha k hlt'
   obtain ⟨cs',hL',hcell'⟩:=ha' k hlt'
   have hwt:wtCmd xs[k]≤1048576:=by have:=wt_wtRow wtCmd (List.getElem_mem hlt');omega
   have HC:=eqCmd_c S S' xs[k] cs cs' wr.drew (shCmd.keep (.of hbr.drew hB) hL) (shCmd.keep (.of hbr.drew hB') hL') (fun b h=>Nat.lt_of_lt_of_le (hB b h) hbr.size) (fun b h=>Nat.lt_of_lt_of_le (hB' b h) hbr.size) hwt
   replace hL:=shCmd.keep (.of hbr hB) hL
   replace hL':=shCmd.keep (.of hbr hB') hL'
   replace hcell:=hcell.keep (.of hbr hB) hlt
   replace hcell':=hcell'.keep (.of hbr hB') hlt3
   obtain ⟨d,hd⟩: ∃ d,d=xs[k]:=⟨_,rfl⟩
   rw [←hd] at hL hL' hwt
   clear ha ha' hd
   obtain ⟨xu0,rfl,xs_t,xr0,xp0⟩:=hL
   obtain ⟨yu0,rfl,ys_t,yr0,yp0⟩:=hL'
   clear xs_t xp0 ys_t yp0
   obtain ⟨xa0,xc0,xe0,_⟩:=id xr0
   rw [length_strsV] at xe0
   subst xe0
   clear xr0
   have xv0:wr.cell? ⟨b,off+k*2,none⟩=some (.string d.t):=hcell 0 (by simp)
   have xv1:wr.cell? ⟨b,off+k*2+1,none⟩=some (.slice xa0 d.acts.length xc0):=hcell 1 (by simp)
   obtain ⟨ya0,yc0,ye0,_⟩:=id yr0
   rw [length_strsV] at ye0
   subst ye0
   clear yr0
   have yv0:wr.cell? ⟨b',off'+k*2,none⟩=some (.string d.t):=hcell' 0 (by simp)
   have yv1:wr.cell? ⟨b',off'+k*2+1,none⟩=some (.slice ya0 d.acts.length yc0):=hcell' 1 (by simp)
   have HC2:=hidden HC
   have hki:(k:Int)<(xs.length:Int):=by omega
   clear hcell hcell' HC hwt
   go_wp2_with fail
   go_region_with (go_at_call 265;refine HC2.out.mono ?_;rintro e w2 ⟨rfl,hb2⟩)
   all_goals go_wp2_with fail
   all_goals go_roundw
   all_goals first
    |exact ⟨k+1,by omega,by go_num,hbr.drew.trans (hb2.mono hbr.size)⟩
    |(simp [intOf];omega)
  ·have he:k=xs.length:=by omega
   subst he
   clear ha ha'
   go_wp2_with fail
   go_ret
   exact ⟨rfl,hbr⟩
theorem implMay_c (n r:ByteArray) (a b c:Int) (u:Value) (ps:List ByteArray) (w:World) (hr:r.size≤1048576) (hu:Reads w u (strsV ps)) (hb:bulkS ps≤1048576) (hT:Tabs w):
  Calls Tryz.prog 23 #[.agg #[.string n,.string r],.agg #[.int .i64 a,.int .i64 b,.int .i64 c,u]] w fun e w'=>e=.returned (.bool (mayB r a b c ps))∧Below w.heap.size w w':=by
 have hb2: ∀ A R,Below w.heap.size w ((w.alloc A).alloc R):=fun A R=>((Below.refl _ _).alloc (Nat.le_refl _) _).alloc (by simp) _
 have HR: ∀ w1,Below w.heap.size w w1→Calls Tryz.prog 87 #[.string r] w1 fun e w'=>∃ v,e=.returned (.tuple #[v,.bool (rangeI r).isSome])∧RangeOwn w1.heap.size w' v ((rangeI r).getD [])∧Below w1.heap.size w1 w':=fun w1 h=>by
  obtain ⟨m,h1,h2⟩:=hT.below h
  exact implRange_c r hr m w1 h1 h2
 obtain ⟨hr1,hr2,hr3⟩:=range_small r
 have hwt:=range_weight r
 have HI: ∀ w1 lo v,Below w.heap.size w w1→RangeOwn lo w1 v ((rangeI r).getD [])→Calls Tryz.prog 88 #[v,.agg #[.int .i64 a,.int .i64 b,.int .i64 c,u]] w1 fun e w'=>e=.returned (.bool (inRB a b c ps ((rangeI r).getD [])))∧Below w1.heap.size w1 w':=fun w1 lo v h ho=>
  implInRange_c (Ow lo w1.heap.size) v _ a b c u ps w1 (ho.rangeIn hr1 hr2 (fun ds h1 d h2=>by have:=hr3 ds h1 d h2;omega)) (fun b h=>h.2) hwt (hu.below h) hb
 unfold mayB
 obtain ⟨ok,hok⟩: ∃ o,o=(rangeI r).isSome:=⟨_,rfl⟩
 obtain ⟨dss,hd⟩: ∃ d,d=(rangeI r).getD []:=⟨_,rfl⟩
 obtain ⟨R,hR⟩: ∃ R,R=inRB a b c ps dss:=⟨_,rfl⟩
 simp only [←hok, ←hd] at HR
 simp only [←hd, ←hR] at HI
 rw [←hok, ←hd, ←hR]
 replace HR:=hidden HR
 replace HI:=hidden HI
 obtain ⟨q,cap,rfl,_,_⟩:=reads_strs hu
 clear hok hd hR hu hr1 hr2 hr3 hwt hT
 cases ok with
 |false=>
  go_enter Tryz.func23,Tryz.ntmps23
  go_wp2_with fail
  go_at_call 87
  refine (HR.out _ (hb2 _ _)).mono ?_
  rintro e w1 ⟨v,rfl,O1,b1⟩
  obtain ⟨q1,c1,rfl⟩:=O1.slice
  go_wp2_with fail
  go_ret
  exact ⟨rfl,(hb2 _ _).trans (b1.mono (hb2 _ _).size)⟩
 |true=>
  go_enter Tryz.func23,Tryz.ntmps23
  go_wp2_with fail
  go_at_call 87
  refine (HR.out _ (hb2 _ _)).mono ?_
  rintro e w1 ⟨v,rfl,O1,b1⟩
  obtain ⟨q1,c1,rfl⟩:=O1.slice
  have k1:=(hb2 _ _).trans (b1.mono (hb2 _ _).size)
  obtain ⟨hA1,hR1⟩:=boxTwo b1
  have x0:=vblk_cell hR1 0
  have x1:=vblk_cell hR1 1
  have x2:=vblk_cell hR1 2
  have x3:=vblk_cell hR1 3
  simp only [List.getElem?_toArray,List.getElem?_cons_succ,List.getElem?_cons_zero] at x0 x1 x2 x3
  go_wp2_with fail
  go_at_call 88
  refine (HI.out _ _ _ k1 O1).mono ?_
  rintro e w2 ⟨rfl,b2⟩
  go_wp2_with fail
  go_ret
  exact ⟨by cases R<;>rfl,k1.trans (b2.mono k1.size)⟩
theorem cell_of_heap {w:World} {g:Nat} {cs:Array Value} {t:TypeId} (h:w.heap[g]?=some (.cells cs t (0,0))) (j:Nat):w.cell? ⟨g,j,none⟩=cs[j]? :=cell_of_row w g j cs t (0,0) h
end Go.Proofs.YtlfmefojcmpfeaaGreatDoor
