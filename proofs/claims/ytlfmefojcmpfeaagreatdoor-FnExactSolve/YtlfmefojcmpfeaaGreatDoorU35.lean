/-
  Contracts for the walks and pure facts, several texts in one: each theorem says what it proves, and under which conditions.
-/
import Derived.Laws.CopyOwn
import Derived.Shelf.SlGeneric
import Derived.Shelf.SlIter.Nil
import Derived.Ground.GgzProg
import Derived.Test.YtlfmefojcmpfeaaGreatDoorUT
import Derived.Test.YtlfmefojcmpfeaaGreatDoorU34
set_option linter.unusedSimpArgs false
set_option linter.unusedVariables false
set_option maxHeartbeats 16000000
set_option maxRecDepth 100000
namespace Go.Proofs.YtlfmefojcmpfeaaGreatDoor
open Go.RowKit Go.Sort
def sortL (L:List (List UInt8)):List (List UInt8):=L.mergeSort fun x y=>decide (x≤y)
theorem sortL_le (L:List (List UInt8)):(sortL L).Pairwise (· ≤ ·):=by
  have:=List.pairwise_mergeSort (le:=fun x y:List UInt8=>decide (x≤y)) (fun a b c h1 h2=>by simp at h1 h2 ⊢;exact List.le_trans h1 h2) (fun a b=>by simp;exact List.le_total a b) L
  exact this.imp (fun h=>by simpa using h)
theorem sortL_mem (L:List (List UInt8)) (x:List UInt8):x∈sortL L↔x∈L:=List.mem_mergeSort
theorem sortL_len (L:List (List UInt8)):(sortL L).length=L.length:=List.length_mergeSort L
def strOf' (l:List UInt8):ByteArray:=⟨l.toArray⟩
theorem bytesL_strOf (l:List UInt8):bytesL (strOf' l)=l:=by simp [bytesL,strOf']
theorem strOf_bytesL (s:ByteArray):strOf' (bytesL s)=s:=by simp [bytesL,strOf']
theorem enc_bytes (ss:List ByteArray):(ss.map bytesL).map encStr=strsV ss:=by
 simp [strsV,encStr,bytesL]
theorem enc_strs (C:List (List UInt8)):C.map encStr=strsV (C.map strOf'):=by
 simp [strsV,encStr,strOf']
theorem sort_c (base g cap:Nat) (ss:List ByteArray) (w:World) (ho:w.ownsRow base 9 1 (.slice (some ⟨g,0,none⟩) ss.length cap) ss.length (strsV ss)) (hn:ss.length≤1048576):
  Calls Tryz.prog 114 #[.slice (some ⟨g,0,none⟩) ss.length cap] w fun e w'=>e=.returned (.tuple #[])∧w'.ownsRow base 9 1 (.slice (some ⟨g,0,none⟩) ss.length cap) ss.length ((sortL (ss.map bytesL)).map encStr)∧w.grownBy w' (some g):=by
 rcases ho.2 with ⟨h',_⟩|⟨g',cap',cur,h',hb,hg,hn1,hc,hs,ht⟩
 ·simp at h'
 ·simp only [Value.slice.injEq,Option.some.injEq,Addr.mk.injEq,and_true,true_and] at h'
  obtain ⟨rfl,rfl⟩:=h'
  have hH:Holds encStr w g 0 (ss.map bytesL).toArray:=holds_of_block hg (by rw [List.length_map,enc_bytes];simpa using ht)
  have hc1:=Tryz.slices_Sort_string g 0 cap (ss.map bytesL) w hH (Array.getElem?_eq_some_iff.1 hg).1 (by rw [List.length_map];omega)
  rw [List.length_map] at hc1
  refine hc1.mono fun e w' ⟨h1,n,os,h2⟩=>?_
  subst h2
  refine ⟨h1,?_,grownBy_sorted _⟩
  have:=ownsRow_sorted (n:=n) (os:=os) (ss:=ss.map bytesL) (ts:=sortL (ss.map bytesL)) (sortL_len _) hb hg (by rw [List.length_map];exact hn1) hc hs
  rw [List.length_map] at this
  exact this
end Go.Proofs.YtlfmefojcmpfeaaGreatDoor
namespace Go.Proofs.YtlfmefojcmpfeaaGreatDoor
open Go.RowKit
theorem len64Nil_c (w:World):Calls Tryz.prog 254 #[.int .u64 0] w fun e w'=>(∃ k:Int,e=.returned (.int .i64 k))∧w=w':=by
 go_enter Tryz.func254,Tryz.ntmps254
 go_wp2
 go_ret
 exact ⟨⟨_,rfl⟩,rfl⟩
theorem lenNil_c (w:World):Calls Tryz.prog 185 #[.int .u64 0] w fun e w'=>(∃ k:Int,e=.returned (.int .i64 k))∧w=w':=by
 go_enter Tryz.func185,Tryz.ntmps185
 go_wp2_with (go_at_call 254;refine (len64Nil_c _).mono ?_;rintro e w1 ⟨⟨k1,rfl⟩,rfl⟩)
 go_ret
 exact ⟨⟨_,rfl⟩,rfl⟩
theorem insNil_c (w:World):Calls Tryz.prog 244 #[.slice none 0 0,.int .i64 0,.int .i64 0] w fun e w'=>e=.returned (.tuple #[])∧w=w':=by
 go_enter Tryz.func244,Tryz.ntmps244
 go_wp2_with fail
 go_loopw [6] (fun vi wr=>vi=.int .i64 1∧wr=w) (fun _ _=>0)
 case atStart=>exact ⟨rfl,rfl⟩
 case round=>
  obtain ⟨rfl,rfl⟩:=hrel
  go_wp2_with fail
  go_end0
  exact ⟨rfl,rfl⟩
theorem pdqNil_c (l:Int) (w:World):Calls Tryz.prog 184 #[.slice none 0 0,.int .i64 0,.int .i64 0,.int .i64 l] w fun e w'=>e=.returned (.tuple #[])∧w=w':=by
 go_enter Tryz.func184,Tryz.ntmps184
 go_wp2_with fail
 refine wp_loop_rounds 1 ?_
 rw [rounds_succ]
 go_wp2_with (go_at_call 244;refine (insNil_c _).mono ?_;rintro e w1 ⟨rfl,rfl⟩)
 refine bodyPost_ret (results_none rfl _ _ _) rfl ?_
 exact ⟨rfl,rfl⟩
theorem sortNil_c (w:World):Calls Tryz.prog 114 #[.slice none 0 0] w fun e w'=>e=.returned (.tuple #[])∧w=w':=by
 go_enter Tryz.func114,Tryz.ntmps114
 go_wp2_with fail
 go_at_call 185
 refine (lenNil_c _).mono ?_
 rintro e w1 ⟨⟨k1,rfl⟩,rfl⟩
 go_wp2_with fail
 go_at_call 184
 refine (pdqNil_c _ _).mono ?_
 rintro e w1 ⟨rfl,rfl⟩
 go_wp2_with fail
 go_end0
 exact ⟨rfl,rfl⟩
end Go.Proofs.YtlfmefojcmpfeaaGreatDoor
namespace Go.Proofs
open Go.Shelf
def Tryz.keysL_ren :Go.Shelf.Ren:=⟨fun|7=>181|10=>243|n=>n,fun|23=>131|26=>9|3=>30|28=>221|0=>0|27=>220|33=>123|4=>4|n=>n,fun|n=>n⟩
theorem Tryz.keysL : Go.Proofs.SlLaysZ.n7 Tryz.prog Tryz.keysL_ren := {
  mixed := by kernel_rfl
  f7 := ⟨Tryz.f181.name, by decide, Tryz.func181.trans (congrArg some (by kernel_rfl))⟩
  f10 := ⟨Tryz.f243.name, by decide, Tryz.func243.trans (congrArg some (by kernel_rfl))⟩
  t0 := Tryz.underlying0
  a0 := Tryz.isAgg0
  z0 := Tryz.sizeOf0
  v0 := Tryz.zeroValue0
  t4 := Tryz.underlying4
  a4 := Tryz.isAgg4
  z4 := Tryz.sizeOf4
  v4 := Tryz.zeroValue4
  t23 := Tryz.underlying131
  a23 := Tryz.isAgg131
  z23 := Tryz.sizeOf131
  v23 := Tryz.zeroValue131
  t26 := Tryz.underlying9
  a26 := Tryz.isAgg9
  z26 := Tryz.sizeOf9
  v26 := Tryz.zeroValue9
  t27 := Tryz.underlying220
  a27 := Tryz.isAgg220
  z27 := Tryz.sizeOf220
  v27 := Tryz.zeroValue220
  t28 := Tryz.underlying221
  a28 := Tryz.isAgg221
  z28 := Tryz.sizeOf221
  v28 := Tryz.zeroValue221
  t33 := Tryz.underlying123
  a33 := Tryz.isAgg123
  z33 := Tryz.sizeOf123
  v33 := Tryz.zeroValue123 }
def Tryz.collectL_ren :Go.Shelf.Ren:=⟨fun|8=>242|11=>285|n=>n,fun|26=>9|28=>221|24=>28|0=>0|33=>123|4=>4|n=>n,fun|n=>n⟩
theorem Tryz.collectL : Go.Proofs.SlLaysZ.n8 Tryz.prog Tryz.collectL_ren := {
  mixed := by kernel_rfl
  f8 := ⟨Tryz.f242.name, by decide, Tryz.func242.trans (congrArg some (by kernel_rfl))⟩
  f11 := ⟨Tryz.f285.name, by decide, Tryz.func285.trans (congrArg some (by kernel_rfl))⟩
  t0 := Tryz.underlying0
  a0 := Tryz.isAgg0
  z0 := Tryz.sizeOf0
  v0 := Tryz.zeroValue0
  t24 := Tryz.underlying28
  a24 := Tryz.isAgg28
  z24 := Tryz.sizeOf28
  v24 := Tryz.zeroValue28
  t26 := Tryz.underlying9
  a26 := Tryz.isAgg9
  z26 := Tryz.sizeOf9
  v26 := Tryz.zeroValue9
  t28 := Tryz.underlying221
  a28 := Tryz.isAgg221
  z28 := Tryz.sizeOf221
  v28 := Tryz.zeroValue221
  i26 := by kernel_rfl }
end Go.Proofs
namespace Go.Proofs.YtlfmefojcmpfeaaGreatDoor
open Go.RowKit Go.Maps Go.Sort Go.Shelf
theorem keysV_c (mb:Option Nat) (W:World):Calls Tryz.prog 181 #[.map mb] W fun e w'=>e=.returned (.func (.func 243) #[] #[.pointer (some ⟨W.heap.size,0,none⟩)])∧w'=W.alloc (.cells #[.map mb] 131):=
 (callsIn_wide (n:=5)).1 (AnyZ.keys_in Tryz.keysL Fence.wide 5 trivial rfl mb W)
theorem keyV_inv {key:Value} {kl:Lit} (h:keyOf Tryz.prog 9 key=some kl): ∃ x:ByteArray,key=.string x∧kl=klV x∧x.size≤maxLen:=by
 cases key<;>simp [keyOf,Tryz.underlying9,mapKey] at h
 rename_i x
 obtain ⟨h1,rfl⟩:=h
 exact ⟨x,rfl,rfl,h1⟩
theorem keysV_lit {w:World} {b n:Nat} {D:DataW Value} (h:w.ownsMap Tryz.prog 9 selfElem b n D): ∃ es,D=.map es∧es.Pairwise (fun p q=>p.1≠q.1)∧∀ q∈es,∃ x:ByteArray,q.1=klV x:=by
 obtain ⟨es0,h1,h2⟩:=h.tidy keyedV
 refine ⟨es0,h1,h2,?_⟩
 obtain ⟨es,clock,_,F,_,rfl⟩:=h
 injection h1 with h1
 subst h1
 intro q hq
 obtain ⟨x,hx,rfl⟩:=List.mem_map.1 (mem_sorted.1 hq)
 obtain ⟨y,hy⟩:=F.reads x hx
 rw [WideElems.rg_of hy]
 obtain ⟨z,_,hz,_⟩:=keyV_inv (WideElems.rd_key hy)
 exact ⟨z,hz⟩
theorem keysV_mem {w:World} {b n:Nat} {D:DataW Value} (h:w.ownsMap Tryz.prog 9 selfElem b n D) (p:ByteArray):bytesL p∈strKeys D↔Maps.has D (klV p)=true:=by
 obtain ⟨es,rfl,_,key⟩:=keysV_lit h
 show bytesL p∈List.map _ _↔List.any _ _=true
 rw [List.mem_map,List.any_eq_true]
 constructor
 ·rintro ⟨q,hq,he⟩
  obtain ⟨x,hx⟩:=key q hq
  refine ⟨q,hq,?_⟩
  rw [hx] at he ⊢
  have:x=p:=bytesL_inj he
  rw [this]
  exact WideAt.sameKey_self (klV_key p)
 ·rintro ⟨q,hq,he⟩
  refine ⟨q,hq,?_⟩
  rw [WideAt.sameKey_eq he]
  rfl
theorem keysV_nodup {w:World} {b n:Nat} {D:DataW Value} (h:w.ownsMap Tryz.prog 9 selfElem b n D):(strKeys D).Nodup:=by
 obtain ⟨es,rfl,h2,key⟩:=keysV_lit h
 show (List.map _ _).Nodup
 rw [List.Nodup,List.pairwise_map]
 refine List.Pairwise.imp_of_mem ?_ h2
 intro p q hp hq hne he
 obtain ⟨x,hx⟩:=key p hp
 obtain ⟨y,hy⟩:=key q hq
 rw [hx,hy] at he hne
 have:x=y:=bytesL_inj he
 exact hne (by rw [this])
theorem collectV_c (b n s:Nat) (m:ByteArray→Option Value) (w:World) (h:MapV w b n s m) (hn:n≤1048576):
  Calls Tryz.prog 242 #[.func (.func 243) #[] #[.pointer (some ⟨w.heap.size,0,none⟩)]] (w.alloc (.cells #[.map (some b)] 131)) fun e w'=>
   ∃ (v:Value) (ts:List ByteArray),e=.returned v∧(∀ p,p∈ts↔(m p).isSome=true)∧ts.Nodup∧ts.length≤n∧w'.ownsRow (w.alloc (.cells #[.map (some b)] 131)).heap.size 9 1 v ts.length (strsV ts)∧Below (w.alloc (.cells #[.map (some b)] 131)).heap.size (w.alloc (.cells #[.map (some b)] 131)) w':=by
 obtain ⟨D,hown,_,h2⟩:=h
 have hbl:=hown.lt
 have hsz:=hown.size_le
 have hseq:SeqGives Fence.wide 3 Tryz.prog 243 #[.pointer (some ⟨w.heap.size,0,none⟩)] encStr (fun ss=>ss.Perm (strKeys D)) (Maps.size D) (w.alloc (.cells #[.map (some b)] 131)):=
  AnyZ.keys_gives (ρ:=Tryz.keysL_ren) {Tryz.keysL with} Fence.wide _ trivial rfl (by omega) w.heap.size b n D _ (by simp) (by simp) (hown.alloc _)
 refine ((callsIn_wide (n:=5)).1 (AnyZ.collect_in Tryz.collectL Fence.wide 5 trivial trivial rfl (by omega) 243 #[.pointer (some ⟨w.heap.size,0,none⟩)] trivial (enters_of Tryz.func243 (by kernel_rfl) rfl) _ (Maps.size D) (by unfold maxLen;omega) (by omega) _ hseq)).mono ?_
 rintro e w' ⟨v,ss,rfl,hS,hrow,_,hb⟩
 refine ⟨v,ss.map strOf',rfl,fun p=>?_,?_,?_,?_,hb⟩
 ·rw [←(h2 p).1, ←keysV_mem hown p, ←hS.mem_iff,List.mem_map]
  constructor
  ·rintro ⟨s,hs,rfl⟩
   rw [bytesL_strOf];exact hs
  ·intro hs
   exact ⟨_,hs,strOf_bytesL p⟩
 ·have h3:ss.Nodup:=hS.nodup_iff.2 (keysV_nodup hown)
  rw [List.Nodup,List.pairwise_map]
  refine h3.imp ?_
  intro a b hab he
  have h4:=congrArg bytesL he
  rw [bytesL_strOf,bytesL_strOf] at h4
  exact hab h4
 ·have:ss.length=(strKeys D).length:=hS.length_eq
  rw [List.length_map,this]
  have hk:(strKeys D).length=Maps.size D:=by
   obtain ⟨es,clock,_,F,_,rfl⟩:=hown
   simp [strKeys,Maps.size]
  omega
 ·rw [List.length_map, ←enc_strs];exact hrow
def sortT (ts:List ByteArray):List ByteArray:=(sortL (ts.map bytesL)).map strOf'
theorem sortT_mem (ts:List ByteArray) (p:ByteArray):p∈sortT ts↔p∈ts:=by
 unfold sortT
 rw [List.mem_map]
 constructor
 ·rintro ⟨x,hx,rfl⟩
  rw [sortL_mem,List.mem_map] at hx
  obtain ⟨y,hy,rfl⟩:=hx
  rw [strOf_bytesL];exact hy
 ·intro h
  exact ⟨bytesL p,by rw [sortL_mem];exact List.mem_map_of_mem h,strOf_bytesL p⟩
theorem sortT_len (ts:List ByteArray):(sortT ts).length=ts.length:=by simp [sortT,sortL_len]
theorem sortT_bytes (ts:List ByteArray):(sortT ts).map bytesL=sortL (ts.map bytesL):=by
 unfold sortT
 rw [List.map_map]
 conv=>rhs;rw [←List.map_id (sortL (ts.map bytesL))]
 apply List.map_congr_left
 intro x _
 exact bytesL_strOf x
theorem sortT_asc (ts:List ByteArray) (hn:ts.Nodup):((sortT ts).map bytesL).Pairwise (· < ·):=by
  rw [sortT_bytes]
  have h1:=sortL_le (ts.map bytesL)
  have h2:(sortL (ts.map bytesL)).Nodup:=by
    have h3:(sortL (ts.map bytesL)).Perm (ts.map bytesL):=List.mergeSort_perm _ _
    refine h3.nodup_iff.2 ?_
    rw [List.Nodup,List.pairwise_map]
    exact hn.imp (fun {a b} hab he=>hab (bytesL_inj he))
  refine (h1.and h2).imp ?_
  rintro a b ⟨hab,hne⟩
  exact Std.lt_of_le_of_ne hab hne
theorem sortedV_c (b n s:Nat) (m:ByteArray→Option Value) (w:World) (h:MapV w b n s m) (hn:n≤1048576):
    Calls Tryz.prog 180 #[.func (.func 243) #[] #[.pointer (some ⟨w.heap.size,0,none⟩)]] (w.alloc (.cells #[.map (some b)] 131)) fun e w'=>
      ∃ (v:Value) (ns:List ByteArray),e=.returned v∧(∀ p,p∈ns↔(m p).isSome=true)∧(ns.map bytesL).Pairwise (· < ·)∧ns.length≤n∧w'.ownsRow w.heap.size 9 1 v ns.length (strsV ns)∧Below w.heap.size w w':=by
  have kA:Below w.heap.size w (w.alloc (.cells #[.map (some b)] 131)):=(Below.refl _ _).alloc (Nat.le_refl _) _
  have HC:=hidden (collectV_c b n s m w h hn)
  clear h
  generalize (w.alloc (.cells #[.map (some b)] 131))=W at HC kA ⊢
  go_enter Tryz.func180,Tryz.ntmps180
  go_wp2_with fail
  go_at_call 242
  refine HC.out.mono ?_
  rintro e w1 ⟨v1,ts,rfl,hm,hnd,hl,o1,b1⟩
  have k1:Below w.heap.size w w1:=kA.trans (b1.mono kA.size)
  rcases id o1.2 with ⟨rfl,hn0⟩|⟨g,cap,cur,rfl,hgl,_⟩
  · have hts:ts=[]:=List.eq_nil_of_length_eq_zero hn0
    subst hts
    go_wp2_with fail
    go_at_call 114
    refine (sortNil_c _).mono ?_
    rintro e w2 ⟨rfl,rfl⟩
    go_wp2_with fail
    go_ret
    exact ⟨_,[],rfl,hm,List.Pairwise.nil,Nat.zero_le _,owns_lo kA.size o1,k1⟩
  · have HS:=hidden (sort_c _ g cap ts w1 o1 (by omega))
    have HM:=hidden hm
    have hgl2:=kA.size
    clear HC hm
    go_wp2_with fail
    go_at_call 114
    refine HS.out.mono ?_
    rintro e w2 ⟨rfl,o2,g2⟩
    have k2:Below w.heap.size w w2:=Below.grown k1 g2 k1.size (fun j hj=>by have h9:=Option.some.inj hj;omega)
    have HO2:=hidden o2
    clear o2 g2 HS
    go_wp2_with fail
    go_ret
    refine ⟨_,sortT ts,rfl,fun p=>by rw [sortT_mem];exact HM.out p,sortT_asc ts hnd,by rw [sortT_len];exact hl,?_,k2⟩
    rw [sortT_len]
    have h9:strsV (sortT ts)=(sortL (ts.map bytesL)).map encStr:=by unfold sortT;rw [enc_strs]
    rw [h9]
    exact owns_lo hgl2 HO2.out
end Go.Proofs.YtlfmefojcmpfeaaGreatDoor
namespace Go.Proofs.YtlfmefojcmpfeaaGreatDoor
open Go.RowKit
def pickM (pm:ByteArray→Option VC) (nm:ByteArray):PickD:=match pm nm with
 |some x=>⟨nm,x.a,x.b,x.c,x.ps⟩
 |none=>⟨nm,0,0,0,[]⟩
theorem pickM_at {pm:ByteArray→Option VC} {nm:ByteArray} {x:VC} (h:pm nm=some x):pickM pm nm=⟨nm,x.a,x.b,x.c,x.ps⟩:=by unfold pickM;rw [h]
theorem MapV.look1 {w:World} {b n s:Nat} {m:ByteArray→Option Value} (h:MapV w b n s m) {p:ByteArray} (hp:p.size≤maxLen) {v:Value} (hv:m p=some v):(Instr.lookup 131 (.map (some b)) (.string p) false).run Tryz.prog w=.ok v w:=by
 obtain ⟨D,h,_,h2⟩:=h
 obtain ⟨v',ps,hrun,hv'⟩:=h.lookup keyedV Tryz.underlying131 (zeroVerV w) (zd:=.held zeroVV) (zp:=[]) rfl (WideMaps.keyOf_string_mk Tryz.underlying9 hp)
 rw [hrun]
 simp only [selfElem,Option.some.injEq,Prod.mk.injEq] at hv'
 change DataW.held v'=D.atKey (klV p) (DataW.held zeroVV)∧[]=ps at hv'
 rw [(h2 p).2 v hv] at hv'
 have:=hv'.1
 simp only [DataW.held.injEq] at this
 rw [this]
theorem rowL_addB {B:Nat} {w w2:World} {v v2:Value} {ps:List LC} {x:LC} (h:RowL B w v ps) (g:w.grownBy w2 v.ownBlock) (ho:w2.ownsRow B 59 5 v2 (ps.length+1) (flatL ps++x.cells)) (hx:w.ownsRow B 9 1 x.u0 x.d.vP.length (strsV x.d.vP)):RowL B w2 v2 (ps++[x]):=by
 refine ⟨?_,fun p hp=>?_⟩
 ·rw [List.length_append,flatL_append]
  have e:flatL [x]=x.cells:=by simp [flatL]
  rw [e]
  exact ho
 ·rcases List.mem_append.1 hp with h9|h9
  ·exact (h.2 p h9).kept g (owns_apart (h.2 p h9) h.1 (by decide))
  ·rw [List.mem_singleton.1 h9]
   exact hx.kept g (owns_apart hx h.1 (by decide))
theorem picksOf_c (mb n0 s0:Nat) (pm:ByteArray→Option VC) (w:World) (hm:MapV w mb n0 s0 (fun p=>(pm p).map VC.val)) (hp:PmOk w pm) (hn:n0≤10000) (hsz: ∀ p x,pm p=some x→p.size≤1048576):
    Calls Tryz.prog 105 #[.map (some mb)] w fun e w'=>∃ (v:Value) (ns:List ByteArray) (ps:List LC),e=.returned v∧(∀ p,p∈ns↔(pm p).isSome=true)∧(ns.map bytesL).Pairwise (· < ·)∧ns.length≤n0∧RowL w.heap.size w' v ps∧SepL ps∧ps.map LC.d=ns.map (pickM pm)∧Below w.heap.size w w':=by
  have kA:Below w.heap.size w (w.alloc (.cells #[.map (some mb)] 131)):=(Below.refl _ _).alloc (Nat.le_refl _) _
  have HSO:=hidden (sortedV_c mb n0 s0 _ w hm (by omega))
  have HMP:Hid (∀ W,Below w.heap.size w W→MapV W mb n0 s0 (fun p=>(pm p).map VC.val)∧PmOk W pm):=fun W h=>⟨hm.below h,hp.below h⟩
  obtain ⟨i0,hi0,hz0,hz1,hz2⟩:=info_parts infoPick
  have hml:=hm.lt
  have HSZ:=hidden hsz
  clear hm hp hsz
  go_enter Tryz.func105,Tryz.ntmps105
  go_wp2_with fail
  go_at_call 181
  refine (keysV_c (some mb) w).mono ?_
  rintro e w1 ⟨rfl,rfl⟩
  go_wp2_with fail
  go_at_call 180
  refine HSO.out.mono ?_
  rintro e w2 ⟨v2,ns,rfl,hmem,hasc,hnl,o2,b2⟩
  obtain ⟨nq,ncap,hv2⟩:=owns_sliceP o2
  subst hv2
  obtain ⟨M,hM⟩: ∃ M,M=ns.length:=⟨_,rfl⟩
  rw [←hM] at hnl o2 ⊢
  have HM:=hidden hM
  have HMEM:Hid (∀ p,p∈ns↔(pm p).isSome=true):=fun p=>by have h9:=hmem p;cases hpp:pm p<;>simp [hpp] at h9 ⊢ <;>exact h9
  have HASC:=hidden hasc
  have HO2:=hidden o2
  have HB2:=hidden b2
  have hb2s:=b2.size
  clear hM hmem hasc o2 b2 HSO kA
  go_wp2_with fail
  go_loopw [3,10] (fun vo vi wr=>∃ (i:Nat) (ps:List LC),i≤M∧vi=.int .i64 (i:Int)∧Hid (RowL w.heap.size wr vo ps)∧Hid (SepL ps)∧Hid (ps.map LC.d=(ns.take i).map (pickM pm))∧Hid (Below w.heap.size w wr)∧Hid (wr.ownsRow w.heap.size 9 1 (.slice nq M ncap) M (strsV ns))) (fun _ vi _=>M-(intOf vi).toNat)
  case atStart=>exact ⟨0,[],Nat.zero_le _,rfl,⟨World.ownsRow_nil _ _ _ _,fun p hp=>by simp at hp⟩,SepL.nil,rfl,HB2,HO2⟩
  case round=>
    obtain ⟨i,ps,hi,rfl,hrow,hsep,hps,hbr,hns⟩:=hrel
    have hpl:ps.length=i:=by have h9:=congrArg List.length hps.out;rw [List.length_map,List.length_map,List.length_take, ←HM.out] at h9;omega
    by_cases hlt:i<M
    · have hin:i<ns.length:=by rw [←HM.out];exact hlt
      have hki:(i:Int)<(M:Int):=by omega
      obtain ⟨g,rfl⟩: ∃ g,nq=some ⟨g,0,none⟩:=by
        rcases id hns.out.2 with ⟨h,_⟩|⟨g,cap,cur,h,_⟩
        · injection h with h1 h2 h3;omega
        · injection h with h1 h2 h3;exact ⟨g,h1⟩
      obtain ⟨nm,hnm⟩: ∃ x,x=ns[i]:=⟨_,rfl⟩
      have d0:wr.cell? ⟨g,i,none⟩=some (.string nm):=by rw [hns.out.cellAt i (by omega),hnm];simp [strsV,hin]
      have hmm:(pm nm).isSome=true:=(HMEM.out nm).1 (by rw [hnm];exact List.getElem_mem hin)
      obtain ⟨x,hx⟩:=Option.isSome_iff_exists.1 hmm
      obtain ⟨hMP,hPK⟩:=HMP.out _ hbr.out
      obtain ⟨hxo,hxb⟩:=hPK nm x hx
      have hnz:=HSZ.out nm x hx
      obtain ⟨xq,xc,hxu⟩:=owns_sliceP hxo
      have HLK:Hid (∀ W,Below wr.heap.size wr W→(Instr.lookup 131 (.map (some mb)) (.string nm) false).run Tryz.prog W=.ok (.agg #[.int .i64 x.a,.int .i64 x.b,.int .i64 x.c,.slice xq x.ps.length xc]) W):=fun W h=>by
        have h9:=(hMP.below h).look1 (p:=nm) (v:=x.val) (by unfold maxLen;omega) (by rw [hx];rfl)
        unfold VC.val at h9
        rw [hxu] at h9
        exact h9
      have LKW:Hid (∀ W,Below w.heap.size w W→(Instr.lookup 131 (.map (some mb)) (.string nm) false).run Tryz.prog W=.ok (.agg #[.int .i64 x.a,.int .i64 x.b,.int .i64 x.c,.slice xq x.ps.length xc]) W):=fun W h=>by
        have h9:=(HMP.out W h).1.look1 (p:=nm) (v:=x.val) (by unfold maxLen;omega) (by rw [hx];rfl)
        unfold VC.val at h9
        rw [hxu] at h9
        exact h9
      have HCV:Hid (∀ W,Below wr.heap.size wr W→Calls Tryz.prog 107 #[.agg #[.int .i64 x.a,.int .i64 x.b,.int .i64 x.c,.slice xq x.ps.length xc]] W fun e w'=>∃ u',e=.returned (.agg #[.int .i64 x.a,.int .i64 x.b,.int .i64 x.c,u'])∧w'.ownsRow W.heap.size 9 1 u' x.ps.length (strsV x.ps)∧Below W.heap.size W w'):=fun W h=>by
        rw [hxu] at hxo
        exact copyVer_c x.a x.b x.c _ x.ps W (reads_of_owns (owns_of_belowN hxo h)) hxb
      have HST:Hid ((ns.take (i+1)).map (pickM pm)=(ns.take i).map (pickM pm)++[⟨nm,x.a,x.b,x.c,x.ps⟩]):=by show _=_;rw [List.take_succ_eq_append_getElem hin,List.map_append, ←hnm];simp [pickM_at hx]
      have h0:Below wr.heap.size wr wr.drew:=(Below.refl _ _).drew
      have HWS:=hidden (Nat.le_trans (Nat.le_refl _) hbr.out.size)
      clear hMP hPK hxo hxb hmm hnm hin hxu hx
      go_wp2_with fail
      refine wp_region_held_drew (S:=(fun W=>(Instr.lookup 131 (.map (some mb)) (.string nm) false).run Tryz.prog W=.ok (.agg #[.int .i64 x.a,.int .i64 x.b,.int .i64 x.c,.slice xq x.ps.length xc]) W)) (by kernel_rfl) ?SZ0 (fun hHeld=>?_)
      case SZ0=>(exact HLK.out _ h0)
      generalize wr.drew=W1 at hHeld h0 ⊢
      refine tk 0 hHeld (h:=?_)
      refine tk 1 hHeld (h:=?_)
      refine tk 3 hHeld (h:=?_)
      refine tk 4 hHeld (h:=?_)
      refine wpAnyH_take (i:=5) (oi:=_) (v:=?vZ5) rfl (by kernel_rfl) (by kernel_rfl) (by kernel_rfl) (fun _ _ _ h=>h) (Or.inl ⟨by rfl,?yZ5⟩) hHeld ?_
      case yZ5=>(intro w hSw;(try dsimp only at hSw);go_simp;first|with_reducible rfl|(rw [hSw];done)|(simp only [hSw];done)|(rw [hSw];rfl))
      try simp only [Act.put,List.getElem_toArray,List.getElem_cons_zero,List.getElem_cons_succ,List.setIfInBounds_toArray,List.set_cons_zero,List.set_cons_succ]
      refine wpAnyH_ready (rs:=[2]) (by kernel_rfl) (by simp) ?_
      refine AllReadyH.cons rfl (fun K hK=>?_) AllReadyH.nil
      go_simp
      go_wp2_with (go_at_call 116;refine (clone_c nm _ hnz).mono ?_;rintro e w4 ⟨rfl,b4⟩;have h4:Below wr.heap.size wr w4:=h0.trans (b4.mono h0.size))
      clear hHeld
      refine hK.out _ _ ?SZ1 (fun hHeld=>?_)
      case SZ1=>(exact HLK.out _ h4)
      clear hK K
      try simp only [Act.put,List.getElem_toArray,List.getElem_cons_zero,List.getElem_cons_succ,List.setIfInBounds_toArray,List.set_cons_zero,List.set_cons_succ]
      refine wpAnyH_ready (rs:=[6]) (by kernel_rfl) (by simp) ?_
      refine AllReadyH.cons rfl (fun K hK=>?_) AllReadyH.nil
      go_simp
      go_wp2_with (go_at_call 107;refine (HCV.out _ h4).mono ?_;rintro e w5 ⟨u5,rfl,o5,b5⟩;obtain ⟨uq,uc,hu5⟩:=owns_sliceP o5;subst hu5;have h5:Below wr.heap.size wr w5:=h4.trans (b5.mono h4.size))
      clear hHeld
      refine hK.out _ _ ?SZ2 (fun hHeld=>?_)
      case SZ2=>(exact HLK.out _ h5)
      clear hK K
      try simp only [Act.put,List.getElem_toArray,List.getElem_cons_zero,List.getElem_cons_succ,List.setIfInBounds_toArray,List.set_cons_zero,List.set_cons_succ]
      refine tk 7 hHeld (h:=?_)
      refine wpAnyH_ready (rs:=[8]) (by kernel_rfl) (by simp) ?_
      refine AllReadyH.cons rfl (fun K hK=>?_) AllReadyH.nil
      go_simp
      clear hHeld
      have h6:Below wr.heap.size wr (w5.alloc (.cells #[.string nm,.int .i64 x.a,.int .i64 x.b,.int .i64 x.c,.slice uq x.ps.length uc] 59)):=h5.alloc h5.size _
      have k6:Below w5.heap.size w5 (w5.alloc (.cells #[.string nm,.int .i64 x.a,.int .i64 x.b,.int .i64 x.c,.slice uq x.ps.length uc] 59)):=(Below.refl _ _).alloc (Nat.le_refl _) _
      have HSRC:=hidden (src_newL w5 [.string nm,.int .i64 x.a,.int .i64 x.b,.int .i64 x.c,.slice uq x.ps.length uc] 59)
      refine hK.out _ (w5.alloc (.cells #[.string nm,.int .i64 x.a,.int .i64 x.b,.int .i64 x.c,.slice uq x.ps.length uc] 59)) ?SZ3 (fun hHeld=>?_)
      case SZ3=>(exact HLK.out _ h6)
      clear hK K
      try simp only [Act.put,List.getElem_toArray,List.getElem_cons_zero,List.getElem_cons_succ,List.setIfInBounds_toArray,List.set_cons_zero,List.set_cons_succ]
      obtain ⟨ge,hge⟩: ∃ g,g=w5.heap.size:=⟨_,rfl⟩
      obtain ⟨w6,hw6⟩: ∃ W,W=w5.alloc (.cells #[.string nm,.int .i64 x.a,.int .i64 x.b,.int .i64 x.c,.slice uq x.ps.length uc] 59):=⟨_,rfl⟩
      have HSRC2:Hid (∀ j u,([.string nm,.int .i64 x.a,.int .i64 x.b,.int .i64 x.c,.slice uq x.ps.length uc]:List Value)[j]?=some u→w6.cell? ((⟨ge,0,none⟩:Addr).add j)=some u):=by rw [hge,hw6];exact HSRC.out
      rw [←hge, ←hw6]
      rw [←hw6] at h6 k6 hHeld
      clear hge hw6 HSRC
      refine wpAnyH_ready (rs:=[9]) (by kernel_rfl) (by simp) ?_
      refine AllReadyH.cons rfl (fun K hK=>?_) AllReadyH.nil
      rw [if_pos (by rfl)]
      have hrow6:=hrow.out.below h6
      have hsz6:w.heap.size≤w6.heap.size:=Nat.le_trans HWS.out h6.size
      have hpl2:ps.length≤10000:=by omega
      refine wp_append_own _ _ _ 49 rfl w.heap.size 59 i0 (.agg #[.string ⟨#[]⟩,.int .i64 0,.int .i64 0,.int .i64 0,.slice none 0 0]) 5 64 Tryz.underlying49 hi0 hz0 hz1 hz2 rfl (by decide) _ ps.length (flatL ps) rfl hrow6.1 ⟨ge,0,none⟩ 1 1 ([.string nm,.int .i64 x.a,.int .i64 x.b,.int .i64 x.c,.slice uq x.ps.length uc]) rfl rfl HSRC2.out (by intro u hu;simp at hu;rcases hu with rfl|rfl|rfl|rfl|rfl<;>rfl) (by unfold maxLen;omega) (by omega) hsz6 ?_
      intro v7 w7 o7 g7 _
      have k7:Below w.heap.size w w7:=Below.grown (hbr.out.trans (h6.mono hbr.out.size)) g7 (Nat.le_trans (Nat.le_refl _) hsz6) (fun j hj=>(hrow6.1.lt j hj).1)
      have HR7:Hid (RowL w.heap.size w7 v7 (ps++[⟨⟨nm,x.a,x.b,x.c,x.ps⟩,.slice uq x.ps.length uc⟩])):=rowL_addB hrow6 g7 o7 (owns_lo (Nat.le_trans HWS.out h4.size) (owns_of_belowN o5 k6))
      have HSP7:Hid (SepL (ps++[⟨⟨nm,x.a,x.b,x.c,x.ps⟩,.slice uq x.ps.length uc⟩])):=SepL.add (B:=wr.heap.size) hsep.out (fun p hp g hg=>((hrow.out.2 p hp).lt g hg).2) (fun g hg=>Nat.le_trans h4.size (o5.lt g hg).1)
      have HNS7:Hid (w7.ownsRow w.heap.size 9 1 (.slice (some ⟨g,0,none⟩) M ncap) M (strsV ns)):=(owns_of_belowN hns.out h6).kept g7 (owns_apart (owns_of_belowN hns.out h6) hrow6.1 (by decide))
      have HPS7:Hid ((ps++[(⟨⟨nm,x.a,x.b,x.c,x.ps⟩,.slice uq x.ps.length uc⟩:LC)]).map LC.d=(ns.take (i+1)).map (pickM pm)):=by show _=_;rw [HST.out,List.map_append,hps.out];rfl
      have S7:(Instr.lookup 131 (.map (some mb)) (.string nm) false).run Tryz.prog w7=.ok (.agg #[.int .i64 x.a,.int .i64 x.b,.int .i64 x.c,.slice xq x.ps.length xc]) w7:=LKW.out _ k7
      clear hHeld
      refine hK.out _ _ ?SZ4 (fun hHeld=>?_)
      case SZ4=>(exact S7)
      clear hK K S7
      try simp only [Act.put,List.getElem_toArray,List.getElem_cons_zero,List.getElem_cons_succ,List.setIfInBounds_toArray,List.set_cons_zero,List.set_cons_succ]
      refine tk 10 hHeld (h:=?_)
      have HK7:=hidden k7
      clear o7 g7 k7 hrow6 k6 h6 h5 h4 h0 o5 b5 b4
      refine wpAnyH_done (by kernel_rfl) ?_ _
      go_wp2_with fail
      go_roundw
      case rel=>exact ⟨i+1,_,by omega,by go_num,HR7,HSP7,HPS7,HK7,HNS7⟩
      case measure=>simp [intOf];omega
    · have he:i=M:=by omega
      subst he
      have hfin:ps.map LC.d=ns.map (pickM pm):=by have h9:=hps.out;rw [HM.out,List.take_length] at h9;exact h9
      have HFIN:=hidden hfin
      clear hfin hps hpl
      go_wp2_with fail
      go_ret
      exact ⟨_,ns,ps,rfl,HMEM.out,HASC.out,by rw [←HM.out];exact hnl,hrow.out,hsep.out,HFIN.out,hbr.out⟩
end Go.Proofs.YtlfmefojcmpfeaaGreatDoor
namespace Go.Proofs.YtlfmefojcmpfeaaGreatDoor
open Go.RowKit Go.Sort Go.Proofs
theorem less_name (a b:ByteArray):Op.bytesLess a.toList b.toList=decide (bytesL a<bytesL b):=by
 rw [ByteArray.toList_eq,ByteArray.toList_eq,bytesLess_eq]
 rfl
def AscP (l:List PickD):Prop:=(l.map fun d=>bytesL d.name).Pairwise (· < ·)
theorem posR_hi {α:Type} (f:α→α→Bool) (ys:List α) (x:α): ∀ k,k≤ys.length→∀ j (hj:j<ys.length),posR f ys x k≤j→j<k→f ys[j] x=true
 |0,_,j,hj,_,h=>by omega
 |k+1,hk,j,hj,h1,h2=>by
  rw [posR_step f ys x k (by omega)] at h1
  by_cases hf:f ys[k] x=true
  ·rw [if_pos hf] at h1
   by_cases e:j=k
   ·subst e;exact hf
   ·exact posR_hi f ys x k (by omega) j hj h1 (by omega)
  ·rw [if_neg hf] at h1;omega
theorem posR_lo {α:Type} (f:α→α→Bool) (ys:List α) (x:α): ∀ k,k≤ys.length→∀ j (hj:j<ys.length),j+1=posR f ys x k→f ys[j] x=false
 |0,_,j,hj,h=>by simp [posR] at h
 |k+1,hk,j,hj,h=>by
  rw [posR_step f ys x k (by omega)] at h
  by_cases hf:f ys[k] x=true
  ·rw [if_pos hf] at h;exact posR_lo f ys x k (by omega) j hj h
  ·rw [if_neg hf] at h
   obtain rfl:j=k:=by omega
   simpa using hf
theorem asc_ins {l:List PickD} {nm:ByteArray} {e:EntryD} (h:AscP l) (hn:firstP l nm=none):AscP (insPick l (pickE nm e)):=by
 have hnm: ∀ d∈l,¬d.name=nm:=fun d hd=>by
  unfold firstP at hn
  rw [List.findIdx?_eq_none_iff] at hn
  simpa using hn d hd
 unfold AscP at h ⊢
 rw [List.pairwise_map] at h ⊢
 unfold insPick insG
 generalize hk:posR (fun a b=>Op.bytesLess b.name.toList a.name.toList) l (pickE nm e) l.length=k
 have hkl:k≤l.length:=by rw [←hk];exact posR_le _ _ _ _ (Nat.le_refl _)
 have hspl:(l.take k++l.drop k).Pairwise (fun a b=>bytesL a.name<bytesL b.name):=by rw [List.take_append_drop];exact h
 rw [List.pairwise_append] at hspl
 obtain ⟨s1,s2,s3⟩:=hspl
 have hlo: ∀ y∈l.take k,bytesL y.name<bytesL nm:=fun y hy=>by
  obtain ⟨j,hj,rfl⟩:=List.mem_iff_getElem.1 hy
  rw [List.length_take] at hj
  have hj2:j<l.length:=by omega
  have hk1:k-1<l.length:=by omega
  have h1:=posR_lo (fun a b=>Op.bytesLess b.name.toList a.name.toList) l (pickE nm e) l.length (Nat.le_refl _) (k-1) hk1 (by omega)
  simp only [pickE,less_name,decide_eq_false_iff_not] at h1
  have h2:bytesL l[k-1].name<bytesL nm:=by
   have h3:bytesL l[k-1].name≤bytesL nm:=List.not_lt.1 h1
   exact Std.lt_of_le_of_ne h3 (fun e9=>hnm _ (List.getElem_mem hk1) (bytesL_inj e9))
  rw [List.getElem_take]
  by_cases ej:j=k-1
  ·subst ej;exact h2
  ·have h4:=List.pairwise_iff_getElem.1 h j (k-1) hj2 hk1 (by omega)
   exact ltL_trans h4 h2
 have hhi: ∀ y∈l.drop k,bytesL nm<bytesL y.name:=fun y hy=>by
  obtain ⟨j,hj,rfl⟩:=List.mem_iff_getElem.1 hy
  rw [List.length_drop] at hj
  have h1:=posR_hi (fun a b=>Op.bytesLess b.name.toList a.name.toList) l (pickE nm e) l.length (Nat.le_refl _) (k+j) (by omega) (by omega) (by omega)
  simp only [pickE,less_name,decide_eq_true_eq] at h1
  rw [List.getElem_drop]
  exact h1
 rw [List.pairwise_append]
 refine ⟨s1,List.pairwise_cons.2 ⟨fun y hy=>hhi y hy,s2⟩,fun a ha b hb=>?_⟩
 rcases List.mem_cons.1 hb with rfl|hb
 ·exact hlo a ha
 ·exact s3 a ha b hb
theorem tryAll_good {go:Nat→EntryD→SoR} (hg: ∀ f e f',go f e=.none f'→f'≤f): ∀ (es:List EntryD) (f:Nat) (l':List PickD) (f':Nat),tryAll go es f=.good l' f'→∃ e∈es,∃ f1,f1<f∧go f1 e=.good l' f'
 |[],f,l',f',h=>by cases h
 |e::es,f,l',f',h=>by
  unfold tryAll at h
  by_cases h0:f=0
  ·rw [if_pos h0] at h;cases h
  ·rw [if_neg h0] at h
   cases hr:go (f-1) e with
   |none f2=>
    rw [hr] at h
    obtain ⟨e',he',f1,hf1,h1⟩:=tryAll_good hg es f2 l' f' h
    have:=hg _ _ _ hr
    exact ⟨e',by simp [he'],f1,by omega,h1⟩
   |good l2 f2=>
    rw [hr] at h
    exact ⟨e,by simp,f-1,by omega,by rw [hr];exact h⟩
   |fuel=>rw [hr] at h;cases h
theorem skip_sub {l:List PickD}: ∀ {left:List NeedD} {n:NeedD} {r:List NeedD},skipD l left=.opn n r→n∈left∧∀ d∈r,d∈left
 |[],n,r,h=>by cases h
 |d::left,n,r,h=>by
  unfold skipD at h
  split at h
  ·injection h with h3 h4
   subst h3
   subst h4
   exact ⟨by simp,fun d hd=>by simp [hd]⟩
  ·split at h
   ·obtain ⟨h1,h2⟩:=skip_sub h
    exact ⟨by simp [h1],fun d hd=>by simp [h2 d hd]⟩
   ·cases h
theorem way_inv (xs:List EntryD) (hxs: ∀ e∈xs,smallE e): ∀ (f:Nat) (l:List PickD) (left:List NeedD) (l':List PickD) (f':Nat),way xs f l left=.good l' f'→AscP l→(∀ p∈l,wtPick p≤37)→(∀ d∈left,smallN d)→AscP l'∧∀ p∈l',wtPick p≤37:=by
 intro f
 induction f using Nat.strongRecOn with
 |ind f ih=>
  intro l left l' f' h ha hw hs
  cases hk:skipD l left with
  |bad=>rw [way_bad hk] at h;cases h
  |done=>rw [way_done hk] at h;injection h with h1 h2;subst h1;exact ⟨ha,hw⟩
  |opn n r=>
   rw [way_open hk] at h
   obtain ⟨e,he,f1,hf1,h1⟩:=tryAll_good (fun f e f' h=>way_le h) _ _ _ _ h
   have hex:e∈xs:=newD_mem ((List.mem_filter.1 he).1)
   obtain ⟨hn1,hn2⟩:=skip_sub hk
   have hfn:firstP l n.n=none:=by
    cases hf:firstP l n.n with
    |none=>rfl
    |some i=>exact absurd (skip_open hk hf) id
   refine ih f1 hf1 _ _ l' f' h1 (asc_ins ha hfn) (fun p hp=>?_) (fun d hd=>?_)
   ·rcases mem_insG hp with h9|h9
    ·exact hw p h9
    ·rw [h9]
     show n.n.size+bulkS e.vP≤37
     have:=(hs n hn1).1
     have:=(hxs e hex).1
     omega
   ·rcases List.mem_append.1 hd with h9|h9
    ·exact hs d (hn2 d h9)
    ·exact (hxs e hex).2.2 d h9
theorem asc_eq : ∀ (a b:List (List UInt8)),a.Pairwise (· < ·)→b.Pairwise (· < ·)→(∀ x,x∈a↔x∈b)→a=b
  |[],[],_,_,_=>rfl
  |[],y::b,_,_,h=>by have:=(h y).2 (by simp);simp at this
  |x::a,[],_,_,h=>by have:=(h x).1 (by simp);simp at this
  |x::a,y::b,ha,hb,h=>by
    obtain ⟨h1,h2⟩:=List.pairwise_cons.1 ha
    obtain ⟨h3,h4⟩:=List.pairwise_cons.1 hb
    have hxy:x=y:=by
      rcases List.mem_cons.1 ((h x).1 (by simp)) with e|e
      · exact e
      · rcases List.mem_cons.1 ((h y).2 (by simp)) with e2|e2
        · exact e2.symm
        · exact absurd (ltL_trans (h1 y e2) (h3 x e)) (ltL_irrefl _)
    subst hxy
    rw [asc_eq a b h2 h4 (fun z=>?_)]
    constructor
    · intro hz
      rcases List.mem_cons.1 ((h z).1 (by simp [hz])) with e|e
      · rw [e] at hz;exact absurd (h1 x hz) (ltL_irrefl _)
      · exact e
    · intro hz
      rcases List.mem_cons.1 ((h z).2 (by simp [hz])) with e|e
      · rw [e] at hz;exact absurd (h3 x hz) (ltL_irrefl _)
      · exact e
theorem picks_eq {pm:ByteArray→Option VC} {l:List PickD} {ns:List ByteArray} (hr:RelP pm l) (ha:AscP l) (hm: ∀ p,p∈ns↔(pm p).isSome=true) (hn:(ns.map bytesL).Pairwise (· < ·)):ns.map (pickM pm)=l:=by
  have hmem: ∀ q,(pm q).isSome=true↔∃ d∈l,d.name=q:=fun q=>by
    have h1:=hr q
    unfold lookD at h1
    constructor
    · intro h
      obtain ⟨x,hx⟩:=Option.isSome_iff_exists.1 h
      rw [hx] at h1
      cases hf:l.find? (fun d=>decide (d.name=q)) with
      |none=>rw [hf] at h1;cases h1
      |some d=>exact ⟨d,List.mem_of_find?_eq_some hf,by have:=List.find?_some hf;simpa using this⟩
    · rintro ⟨d,hd,rfl⟩
      cases hf:l.find? (fun d'=>decide (d'.name=d.name)) with
      |none=>rw [List.find?_eq_none] at hf;have:=hf d hd;simp at this
      |some d'=>
        rw [hf] at h1
        cases hp:pm d.name with
        |none=>rw [hp] at h1;cases h1
        |some x=>rfl
  have hnames:ns=l.map (·.name):=by
    have h1:ns.map bytesL=l.map (fun d=>bytesL d.name):=by
      refine asc_eq _ _ hn ha (fun x=>?_)
      rw [List.mem_map,List.mem_map]
      constructor
      · rintro ⟨p,hp,rfl⟩
        obtain ⟨d,hd,e⟩:=(hmem p).1 ((hm p).1 hp)
        exact ⟨d,hd,by rw [e]⟩
      · rintro ⟨d,hd,rfl⟩
        exact ⟨d.name,(hm _).2 ((hmem _).2 ⟨d,hd,rfl⟩),rfl⟩
    have h2:=congrArg (List.map strOf') h1
    rw [List.map_map,List.map_map] at h2
    have e1:(strOf'∘bytesL)=id:=by funext p;exact strOf_bytesL p
    have e2:(strOf'∘fun (d:PickD)=>bytesL d.name)=fun d=>d.name:=by funext d;exact strOf_bytesL _
    rw [e1,e2,List.map_id] at h2
    exact h2
  rw [hnames,List.map_map]
  conv=>rhs;rw [←List.map_id l]
  apply List.map_congr_left
  intro d hd
  have h1:=hr d.name
  unfold lookD at h1
  have hf:l.find? (fun d'=>decide (d'.name=d.name))=some d:=by
    obtain ⟨j,hj,hjd⟩:=List.mem_iff_getElem.1 hd
    rw [List.find?_eq_some_iff_getElem]
    refine ⟨by simp,j,hj,hjd,fun i hi=>?_⟩
    have h2:bytesL l[i].name<bytesL l[j].name:=by
      unfold AscP at ha
      rw [List.pairwise_map] at ha
      exact List.pairwise_iff_getElem.1 ha i j (by omega) hj hi
    simp only [Bool.not_eq_true',decide_eq_false_iff_not]
    intro e
    rw [hjd,e] at h2
    exact ltL_irrefl _ h2
  rw [hf] at h1
  cases hp:pm d.name with
  |none=>rw [hp] at h1;cases h1
  |some x=>
    rw [hp] at h1
    have h3:(x.a,x.b,x.c,x.ps)=verOf d:=Option.some.inj h1
    injection h3 with e1 e2
    injection e2 with e2 e3
    injection e3 with e3 e4
    show pickM pm d.name=d
    rw [pickM_at hp,e1,e2,e3,e4]
end Go.Proofs.YtlfmefojcmpfeaaGreatDoor
