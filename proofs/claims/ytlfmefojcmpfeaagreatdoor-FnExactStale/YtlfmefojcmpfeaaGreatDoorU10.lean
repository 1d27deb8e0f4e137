/-
  Contracts for the walks and pure facts, several texts in one: each theorem says what it proves, and under which conditions.
-/
import Derived.Test.YtlfmefojcmpfeaaGreatDoorUT
import Derived.Test.YtlfmefojcmpfeaaGreatDoorU9
set_option linter.unusedSimpArgs false
set_option linter.unusedVariables false
set_option maxHeartbeats 16000000
set_option maxRecDepth 100000
namespace Go.Proofs.YtlfmefojcmpfeaaGreatDoor
open Go.RowKit
theorem rows5_apart {w:World} {base base' e e':Nat} {v v':Value} {n n':Nat} {xs xs':List Value} (h:w.ownsRow base e 5 v n xs) (h':w.ownsRow base' e' 1 v' n' xs') (hne:e≠e'):v'.ownBlock=none∨v'.ownBlock≠v.ownBlock:=by
 rcases h.2 with ⟨rfl,_⟩|⟨g,cap,cur,rfl,_,hg,_⟩
 ·rcases h'.2 with ⟨rfl,_⟩|⟨g',cap',cur',rfl,_,hg',_⟩
  ·exact .inl rfl
  ·exact .inr (by simp [Value.ownBlock])
 ·rcases h'.2 with ⟨rfl,_⟩|⟨g',cap',cur',rfl,_,hg',_⟩
  ·exact .inl rfl
  ·refine .inr fun e1=>hne ?_
   simp only [Value.ownBlock,Option.some.injEq] at e1
   subst e1
   rw [hg] at hg'
   simp only [Option.some.injEq,Obj.cells.injEq] at hg'
   exact hg'.2.1
theorem five_all {ys:List Value} {ds:List CmpD} {us:Nat→Value} (hl:ys.length=ds.length*5) (hu: ∀ i,i<ds.length→(us i).oneCell'=true) (h: ∀ i (h:i<ds.length),FiveAt ys (i*5) (.int .i64 ds[i].o) (.int .i64 ds[i].a) (.int .i64 ds[i].b) (.int .i64 ds[i].c) (us i)): ∀ u∈ys,u.oneCell'=true:=by
 intro u hm
 obtain ⟨j,hj,rfl⟩:=List.getElem_of_mem hm
 have hi:j / 5<ds.length:=by omega
 obtain ⟨f0,f1,f2,f3,f4⟩:=h (j / 5) hi
 have e:ys[j]?=some ys[j]:=List.getElem?_eq_getElem hj
 rcases (show j=j / 5*5∨j=j / 5*5+1∨j=j / 5*5+2∨j=j / 5*5+3∨j=j / 5*5+4 by omega) with hh|hh|hh|hh|hh
 ·rw [←hh,e] at f0;rw [Option.some.inj f0];rfl
 ·rw [←hh,e] at f1;rw [Option.some.inj f1];rfl
 ·rw [←hh,e] at f2;rw [Option.some.inj f2];rfl
 ·rw [←hh,e] at f3;rw [Option.some.inj f3];rfl
 ·rw [←hh,e] at f4;rw [Option.some.inj f4];exact hu _ hi
theorem CmpsOwn.app {lo:Nat} {wk w1:World} {v v':Value} {ds ds':List CmpD} (h:CmpsOwn lo wk v ds) (hlo:lo≤wk.heap.size) (b:Below wk.heap.size wk w1) (h':CmpsOwn wk.heap.size w1 v' ds') (hne:ds'≠[]):
  ∃ (ys ys':List Value) (g cap:Nat),w1.ownsRow lo 214 5 v ds.length ys∧v'=.slice (some ⟨g,0,none⟩) ds'.length cap∧ys'.length=ds'.length*5∧(∀ j u,ys'[j]?=some u→w1.cell? ((⟨g,0,none⟩:Addr).add j)=some u)∧(∀ u∈ys',u.oneCell'=true)∧
   ∀ w2 v2,w2.ownsRow lo 214 5 v2 (ds.length+ds'.length) (ys++ys')→w1.grownBy w2 v.ownBlock→CmpsOwn lo w2 v2 (ds++ds'):=by
 obtain ⟨ys,us,h1,h2,h3⟩:=h
 obtain ⟨ys',us',k1,k2,k3⟩:=h'
 have h1':=own_kept5 h1 b
 have hly:ys.length=ds.length*5:=h1.1
 have hly':ys'.length=ds'.length*5:=k1.1
 obtain ⟨g,cap,hv⟩: ∃ g cap,v'=.slice (some ⟨g,0,none⟩) ds'.length cap:=by
  rcases k1.2 with ⟨_,hn⟩|⟨g,cap,cur,rfl,_⟩
  ·exact absurd (List.eq_nil_of_length_eq_zero hn) hne
  ·exact ⟨g,cap,rfl⟩
 subst hv
 have hone: ∀ (u:Value) (n:Nat) (xs:List Value) base,w1.ownsRow base 9 1 u n xs→u.oneCell'=true:=fun u n xs base hu=>by
  rcases hu.2 with ⟨rfl,_⟩|⟨g,cap,cur,rfl,_⟩<;>rfl
 refine ⟨ys,ys',g,cap,h1',rfl,hly',fun j u hj=>?_,five_all hly' (fun i hi=>hone _ _ _ _ (k2 i hi).2) (fun i hi=>(k2 i hi).1),fun w2 v2 o2 gr=>?_⟩
 ·have hjl:j<ys'.length:=(List.getElem?_eq_some_iff.1 hj).1
  have e:((⟨g,0,none⟩:Addr).add j)=⟨g,j,none⟩:=by unfold Addr.add;split<;>simp_all
  rw [e,k1.cellAt j (by omega)]
  exact hj
 ·refine ⟨ys++ys',fun i=>if i<ds.length then us i else us' (i-ds.length),by rw [List.length_append];exact o2,fun i hi=>?_,fun i j hi hj hij he=>?_⟩
  ·by_cases hl:i<ds.length
   ·simp only [hl,if_true,List.getElem_append_left hl]
    obtain ⟨⟨f0,f1,f2,f3,f4⟩,fo⟩:=h2 i hl
    refine ⟨⟨?_,?_,?_,?_,?_⟩,?_⟩
    ·rw [List.getElem?_append_left (by omega)];exact f0
    ·rw [List.getElem?_append_left (by omega)];exact f1
    ·rw [List.getElem?_append_left (by omega)];exact f2
    ·rw [List.getElem?_append_left (by omega)];exact f3
    ·rw [List.getElem?_append_left (by omega)];exact f4
    ·have fo1:=owns_of_below fo b
     exact fo1.kept gr (rows5_apart h1' fo1 (by decide))
   ·have hi':i-ds.length<ds'.length:=by rw [List.length_append] at hi;omega
    have eg:(ds++ds')[i]=ds'[i-ds.length]:=List.getElem_append_right (by omega)
    simp only [hl,if_false,eg]
    obtain ⟨⟨f0,f1,f2,f3,f4⟩,fo⟩:=k2 (i-ds.length) hi'
    refine ⟨⟨?_,?_,?_,?_,?_⟩,?_⟩
    ·rw [List.getElem?_append_right (by omega),show i*5-ys.length=(i-ds.length)*5 by omega];exact f0
    ·rw [List.getElem?_append_right (by omega),show i*5+1-ys.length=(i-ds.length)*5+1 by omega];exact f1
    ·rw [List.getElem?_append_right (by omega),show i*5+2-ys.length=(i-ds.length)*5+2 by omega];exact f2
    ·rw [List.getElem?_append_right (by omega),show i*5+3-ys.length=(i-ds.length)*5+3 by omega];exact f3
    ·rw [List.getElem?_append_right (by omega),show i*5+4-ys.length=(i-ds.length)*5+4 by omega];exact f4
    ·exact (owns_base fo hlo).kept gr (rows5_apart h1' fo (by decide))
  ·rw [List.length_append] at hi hj
   have apart: ∀ i j,i<ds.length→¬j<ds.length→j-ds.length<ds'.length→(us i).ownBlock=(us' (j-ds.length)).ownBlock→(us i).ownBlock=none:=fun i j hi hj hj' he=>by
    cases hk:(us i).ownBlock with
    |none=>rfl
    |some k=>
     have a1:=((h2 i hi).2.lt k hk).2
     rw [hk] at he
     have a2:=((k2 _ hj').2.lt k he.symm).1
     omega
   by_cases hi1:i<ds.length
   ·by_cases hj1:j<ds.length
    ·simp only [hi1,hj1,if_true] at he ⊢
     exact h3 i j hi1 hj1 hij he
    ·simp only [hi1,hj1,if_true,if_false] at he ⊢
     exact apart i j hi1 hj1 (by omega) he
   ·by_cases hj1:j<ds.length
    ·simp only [hi1,hj1,if_true,if_false] at he ⊢
     rw [he]
     exact apart j i hj1 hi1 (by omega) he.symm
    ·simp only [hi1,hj1,if_false] at he ⊢
     exact k3 _ _ (by omega) (by omega) (by omega) he
def betweenOk (x y:ByteArray):Bool:=resOk x&&resOk y
def betweenD (x y:ByteArray):List CmpD:=if betweenOk x y then [⟨4,resN x 0,resN x 1,resN x 2,resP x⟩,⟨2,resN y 0,resN y 1,resN y 2,resP y⟩] else []
theorem cmpsBetween_c (x y:ByteArray) (hx:x.size≤1048576) (hy:y.size≤1048576) (w:World):
  Calls Tryz.prog 222 #[.string x,.string y] w fun e w'=>∃ v,e=.returned (.tuple #[v,.bool (betweenOk x y)])∧CmpsOwn w.heap.size w' v (betweenD x y)∧Below w.heap.size w w':=by
 have HX:Hid (∀ w1,Calls Tryz.prog 258 #[.string x] w1 fun e w'=>∃ u,e=.returned (verOut x u)∧w'.ownsRow w1.heap.size 9 1 u (resP x).length (strsV (resP x))∧Below w1.heap.size w1 w'):=fun w1=>implParse_c x hx w1
 have HY:Hid (∀ w1,Calls Tryz.prog 258 #[.string y] w1 fun e w'=>∃ u,e=.returned (verOut y u)∧w'.ownsRow w1.heap.size 9 1 u (resP y).length (strsV (resP y))∧Below w1.heap.size w1 w'):=fun w1=>implParse_c y hy w1
 have HD:Hid (betweenD x y=if resOk x&&resOk y then [⟨4,resN x 0,resN x 1,resN x 2,resP x⟩,⟨2,resN y 0,resN y 1,resN y 2,resP y⟩] else []):=rfl
 have HO:Hid (betweenOk x y=(resOk x&&resOk y)):=rfl
 unfold verOut at HX HY
 obtain ⟨D,hD⟩: ∃ D,D=betweenD x y:=⟨_,rfl⟩
 obtain ⟨K,hK⟩: ∃ K,K=betweenOk x y:=⟨_,rfl⟩
 rw [←hD] at HD
 rw [←hK] at HO
 rw [←hD, ←hK]
 obtain ⟨x1,hx1⟩: ∃ z,z=resN x 0:=⟨_,rfl⟩
 obtain ⟨x2,hx2⟩: ∃ z,z=resN x 1:=⟨_,rfl⟩
 obtain ⟨x3,hx3⟩: ∃ z,z=resN x 2:=⟨_,rfl⟩
 obtain ⟨px,hpx⟩: ∃ z,z=resP x:=⟨_,rfl⟩
 obtain ⟨okx,hokx⟩: ∃ z,z=resOk x:=⟨_,rfl⟩
 obtain ⟨y1,hy1⟩: ∃ z,z=resN y 0:=⟨_,rfl⟩
 obtain ⟨y2,hy2⟩: ∃ z,z=resN y 1:=⟨_,rfl⟩
 obtain ⟨y3,hy3⟩: ∃ z,z=resN y 2:=⟨_,rfl⟩
 obtain ⟨py,hpy⟩: ∃ z,z=resP y:=⟨_,rfl⟩
 obtain ⟨oky,hoky⟩: ∃ z,z=resOk y:=⟨_,rfl⟩
 rw [←hx1, ←hx2, ←hx3, ←hpx, ←hokx] at HX
 rw [←hy1, ←hy2, ←hy3, ←hpy, ←hoky] at HY
 rw [←hx1, ←hx2, ←hx3, ←hpx, ←hokx, ←hy1, ←hy2, ←hy3, ←hpy, ←hoky] at HD
 rw [←hokx, ←hoky] at HO
 clear hD hK hx1 hx2 hx3 hpx hokx hy1 hy2 hy3 hpy hoky
 go_enter Tryz.func222,Tryz.ntmps222
 go_wp2_with fail
 go_at_call 258
 refine (HX.out _).mono ?_
 rintro e w1 ⟨u1,rfl,o1,b1⟩
 obtain ⟨q1,n1,c1,hu⟩: ∃ q n c,u1=.slice q n c:=by rcases o1.2 with ⟨rfl,_⟩|⟨g,cap,cur,rfl,_⟩<;>exact ⟨_,_,_,rfl⟩
 subst hu
 have tA:Below w1.heap.size w1 (w1.alloc (.cells #[.int .i64 x1,.int .i64 x2,.int .i64 x3,.slice q1 n1 c1] 30)):=(Below.refl _ _).alloc (Nat.le_refl _) _
 have A1:=four_new w1 30 (.int .i64 x1) (.int .i64 x2) (.int .i64 x3) (.slice q1 n1 c1)
 have oA:=owns_of_below o1 tA
 have kA:=b1.trans (tA.mono b1.size)
 go_wp2_with fail
 obtain ⟨BA,hBA⟩: ∃ B,B=w1.heap.size:=⟨_,rfl⟩
 generalize (w1.alloc (.cells #[.int .i64 x1,.int .i64 x2,.int .i64 x3,.slice q1 n1 c1] 30))=W1 at tA A1 oA kA ⊢
 rw [←hBA] at A1 ⊢
 clear hBA tA o1 b1 HX
 go_at_call 258
 refine (HY.out _).mono ?_
 rintro e w2 ⟨u2,rfl,o2,b2⟩
 obtain ⟨q2,n2,c2,hu⟩: ∃ q n c,u2=.slice q n c:=by rcases o2.2 with ⟨rfl,_⟩|⟨g,cap,cur,rfl,_⟩<;>exact ⟨_,_,_,rfl⟩
 subst hu
 have tB:Below w2.heap.size w2 (w2.alloc (.cells #[.int .i64 y1,.int .i64 y2,.int .i64 y3,.slice q2 n2 c2] 30)):=(Below.refl _ _).alloc (Nat.le_refl _) _
 have A2:=(A1.keep b2).keep tB
 have oA2:=owns_of_below (owns_of_below oA b2) tB
 have oB2:=owns_of_below o2 tB
 have B2:=four_new w2 30 (.int .i64 y1) (.int .i64 y2) (.int .i64 y3) (.slice q2 n2 c2)
 have k2:=kA.trans (b2.mono kA.size)
 have k3:=k2.trans (tB.mono k2.size)
 have hap:Value.ownBlock (.slice q1 n1 c1)=Value.ownBlock (.slice q2 n2 c2)→Value.ownBlock (.slice q1 n1 c1)=none:=fun he=>by
  cases hk:Value.ownBlock (.slice q1 n1 c1) with
  |none=>rfl
  |some k=>
   have a1:=(oA.lt k hk).2
   rw [hk] at he
   have a2:=(o2.lt k he.symm).1
   omega
 have lA:=A2.lt
 have hAB:=(A1.keep b2).lt
 obtain ⟨xa0,xa1,xa2,xa3⟩:=(A1.keep b2).cells
 have hWl:=kA.size
 clear HY A1 oA b2 o2 kA
 cases okx with
 |false=>
  have e1:D=[]:=HD.out
  have e2:K=false:=HO.out
  subst e1 e2
  clear HD HO
  go_wp2_with fail
  go_ret2
  exact ⟨_,rfl,own_nilC _ _,k3⟩
 |true=>
  cases oky with
  |false=>
   have e1:D=[]:=HD.out
   have e2:K=false:=HO.out
   subst e1 e2
   clear HD HO
   go_wp2_with fail
   go_ret2
   exact ⟨_,rfl,own_nilC _ _,k3⟩
  |true=>
   have e1:D=[⟨4,x1,x2,x3,px⟩,⟨2,y1,y2,y3,py⟩]:=HD.out
   have e2:K=true:=HO.out
   subst e1 e2
   clear HD HO
   go_wp2_with fail
   go_ret2
   exact ⟨_,rfl,two_own ⟨4,x1,x2,x3,px⟩ ⟨2,y1,y2,y3,py⟩ (by simp) k3.size oA2 (owns_base oB2 hWl) hap,k3.alloc k3.size _⟩
theorem Four.turned {w w':World} {R:Nat} {t:TypeId} {c0 c1 c2 c3:Value} {row:Option Nat} (h:Four w R t c0 c1 c2 c3) (hg:w.grownBy w' row) (hne:row≠some R):Four w' R t c0 c1 c2 c3:=
 (hg.block R h.lt (fun e=>hne e.symm)).trans h
theorem below_turned {B:Nat} {w0 w w':World} {row:Option Nat} (h:Below B w0 w) (hg:w.grownBy w' row) (hB:B≤w.heap.size) (hrow: ∀ k,row=some k→B≤k):Below B w0 w':=
 h.trans ⟨hg.os,hg.tape,hg.output,hg.size,fun k hk=>hg.block k (by omega) (fun e=>by have:=hrow k e.symm;omega)⟩
def foldW :List ByteArray→List CmpD→Option (List CmpD)
 |[],acc=>some acc
 |x::ws,acc=>if wordOk x=true∧acc.length+(wordD x).length≤4 then foldW ws (acc++wordD x) else none
def listC (ws:List ByteArray):Option (List CmpD):=
 if ws.length=3∧ws.getD 1 ⟨#[]⟩=⟨#[45]⟩ then (if betweenOk (ws.getD 0 ⟨#[]⟩) (ws.getD 2 ⟨#[]⟩) then some (betweenD (ws.getD 0 ⟨#[]⟩) (ws.getD 2 ⟨#[]⟩)) else none) else foldW ws []
theorem makeC_ne (sign a b c:Int) (ps:List ByteArray) (t:Int):makeC sign a b c ps t≠[]:=by
  unfold makeC
  dsimp only
  repeat (split; · simp)
  simp
theorem wordD_len (x:ByteArray):(wordD x).length≤2:=by
 unfold wordD
 split
 ·simp
 split
 ·exact make_len _ _ _ _ _ _
 ·simp
theorem wordD_ne {x:ByteArray} (h:wordOk x=true):wordD x≠[]:=by
 unfold wordD
 split
 ·simp
 ·rename_i hs
  split
  ·exact makeC_ne _ _ _ _ _ _
  ·rename_i hp
   simp [wordOk,hs,hp] at h
theorem parseCmps_c (s:ByteArray) (hs:s.size≤1048576) (w:World) (hsg: ∀ k (h:k<signsT.length),w.cell? ⟨1,k,none⟩=some (.string signsT[k])):
  Calls Tryz.prog 159 #[.string s] w fun e w'=>∃ v,e=.returned (.tuple #[v,.bool (listC (splitS s 32)).isSome])∧CmpsOwn w.heap.size w' v ((listC (splitS s 32)).getD [])∧Below w.heap.size w w':=by
 have HS:=implSplit_c s 32 w hs (by omega) (by omega)
 have hL:=splitS_len s 32
 have hL0:=splitS_pos s 32
 have hpc:=splitS_piece s 32
 have hgl:1<w.heap.size:=World.block_lt_of_cell? w _ (hsg 0 (by decide))
 have HG:Hid (∀ w1,Below w.heap.size w w1→∀ k (h:k<signsT.length),w1.cell? ⟨1,k,none⟩=some (.string signsT[k])):=fun w1 b k h=>(b.cell (p:=⟨1,k,none⟩) hgl).trans (hsg k h)
 obtain ⟨ws,hws⟩: ∃ ws,ws=splitS s 32:=⟨_,rfl⟩
 rw [←hws] at HS hL hL0 hpc
 rw [←hws]
 clear hws hsg hgl
 obtain ⟨i0,hi,hz0,hz1,hz2⟩:=info_parts infoCmp
 go_enter Tryz.func159,Tryz.ntmps159
 go_wp2_with fail
 go_at_call 221
 refine HS.mono ?_
 rintro e w3 ⟨v3,rfl,o3,b3⟩
 obtain ⟨qw,cw,hv,hcw,hc3⟩:=reads_strs (reads_of_owns o3)
 subst hv
 rcases hc3 with hw0|⟨bq,off,rfl,hbq,hcell⟩
 ·rw [hw0] at hL0;simp at hL0
 clear HS o3
 have hsz: ∀ k (h:k<ws.length),ws[k].size≤1048576:=fun k h=>by have:=hpc ws[k] (List.getElem_mem _);omega
 have hgd: ∀ k (h:k<ws.length),ws.getD k ⟨#[]⟩=ws[k]:=fun k h=>by simp [List.getD_eq_getElem?_getD,h]
 by_cases hb:ws.length=3∧ws.getD 1 ⟨#[]⟩=⟨#[45]⟩
 ·obtain ⟨h3,hd⟩:=hb
  have c0:w3.cell? ⟨bq,off,none⟩=some (.string ws[0]):=hcell 0 (by omega)
  have c1:=hcell 1 (by omega)
  have c2:=hcell 2 (by omega)
  have HL:Hid (listC ws=if betweenOk ws[0] ws[2] then some (betweenD ws[0] ws[2]) else none):=by show _=_;rw [listC,if_pos ⟨h3,hd⟩,hgd 0 (by omega),hgd 2 (by omega)]
  have z0:=hsz 0 (by omega)
  have z2:=hsz 2 (by omega)
  rw [hgd 1 (by omega)] at hd
  rw [hd] at c1
  obtain ⟨x0,hx0⟩: ∃ x,x=ws[0]:=⟨_,rfl⟩
  obtain ⟨x2,hx2⟩: ∃ x,x=ws[2]:=⟨_,rfl⟩
  rw [←hx0] at c0 HL z0
  rw [←hx2] at c2 HL z2
  have h3':((ws.length:Int) == 3)=true:=by simp [h3]
  have hi0:(0:Int)<(ws.length:Int):=by omega
  have hi1:(1:Int)<(ws.length:Int):=by omega
  have hi2:(2:Int)<(ws.length:Int):=by omega
  have HB:Hid (∀ w1,Calls Tryz.prog 222 #[.string x0,.string x2] w1 fun e w'=>∃ v,e=.returned (.tuple #[v,.bool (betweenOk x0 x2)])∧CmpsOwn w1.heap.size w' v (betweenD x0 x2)∧Below w1.heap.size w1 w'):=fun w1=>cmpsBetween_c x0 x2 z0 z2 w1
  have HD:Hid (betweenOk x0 x2=false→betweenD x0 x2=[]):=fun h=>by rw [betweenD,h];rfl
  have c0d:w3.drew.cell? ⟨bq,off,none⟩=some (.string x0):=c0
  have c2d:w3.drew.cell? ⟨bq,off+2,none⟩=some (.string x2):=c2
  clear hcell hsz hgd hd hx0 hx2 HG hi hz0 hz1 hz2 hpc z0 z2
  go_wp2_with fail
  refine wp_region_held_drew (S:=(fun w'=>w'.cell? ⟨bq,off,none⟩=some (.string x0)∧w'.cell? ⟨bq,off+2,none⟩=some (.string x2))) (by kernel_rfl) ?SR10 (fun hHeld=>?_)
  case SR10=>(first|exact ⟨c0d,c2d⟩|exact ⟨(b4.cell (p:=⟨bq,off,none⟩) hbq).trans c0,(b4.cell (p:=⟨bq,off+2,none⟩) hbq).trans c2⟩)
  refine tk 0 hHeld (h:=?_)
  refine tk 1 hHeld (h:=?_)
  refine tk 2 hHeld (h:=?_)
  refine tk 3 hHeld (h:=?_)
  refine tk 4 hHeld (h:=?_)
  refine tk 5 hHeld (h:=?_)
  refine wpAnyH_ready (rs:=[6]) (by kernel_rfl) (by simp) ?_
  refine AllReadyH.cons rfl (fun K hK=>?_) AllReadyH.nil
  go_simp
  go_wp2_with (go_at_call 222;refine (HB.out _).mono ?_;rintro e w4 ⟨v,rfl,hv,b4⟩)
  clear hHeld
  refine hK.out _ _ ?SR17 (fun hHeld=>?_)
  case SR17=>((try dsimp only);first|exact ⟨c0d,c2d⟩|exact ⟨(b4.cell (p:=⟨bq,off,none⟩) hbq).trans c0,(b4.cell (p:=⟨bq,off+2,none⟩) hbq).trans c2⟩)
  clear hK K
  refine tk 7 hHeld (h:=?_)
  refine tk 8 hHeld (h:=?_)
  refine tk 9 hHeld (h:=?_)
  refine tk 10 hHeld (h:=?_)
  refine wpAnyH_done (by kernel_rfl) ?_ _
  have hr:(listC ws).isSome=betweenOk x0 x2∧(listC ws).getD []=betweenD x0 x2:=by
   rw [HL.out]
   cases hk:betweenOk x0 x2 with
   |true=>simp
   |false=>simp [HD.out hk]
  have HR:Hid ((listC ws).isSome=betweenOk x0 x2∧(listC ws).getD []=betweenD x0 x2):=hr
  clear hr
  go_wp2_with fail
  go_ret2
  exact ⟨v,by rw [HR.out.1];rfl,by rw [HR.out.2];exact hv.lower b3.size,(b3.drew).trans (b4.mono b3.size)⟩
 ·have HL:Hid (listC ws=foldW ws []):=by show _=_;rw [listC,if_neg hb]
  have HW:Hid (∀ x:ByteArray,x.size≤1048576→∀ w1,Below w.heap.size w w1→Calls Tryz.prog 223 #[.string x] w1 fun e w'=>∃ v,e=.returned (.tuple #[v,.bool (wordOk x)])∧CmpsOwn w1.heap.size w' v (wordD x)∧Below w1.heap.size w1 w'):=fun x hx w1 b=>cmpsOfWord_c x hx w1 (HG.out w1 b)
  by_cases h3:ws.length=3
  ·have hd: ¬ws[1]=⟨#[45]⟩:=fun h=>hb ⟨h3,by rw [hgd 1 (by omega)];exact h⟩
   have c1:=hcell 1 (by omega)
   obtain ⟨x1,hx1⟩: ∃ x,x=ws[1]:=⟨_,rfl⟩
   rw [←hx1] at c1 hd
   have hd':(x1.toList == [45])=false:=by rw [beq_eq_false_iff_ne];intro h;exact hd (bytes_eq_of_toList (by rw [h,ByteArray.toList_eq]))
   have h3':((ws.length:Int) == 3)=true:=by simp [h3]
   have hi1:(1:Int)<(ws.length:Int):=by omega
   clear hb hd hx1 hgd HG h3
   go_wp2_with fail
   go_loopw [5,32] (fun v5 vi wr=>∃ (k:Nat) (acc:List CmpD),k≤ws.length∧vi=.int .i64 (k:Int)∧CmpsOwn w3.heap.size wr v5 acc∧acc.length≤4∧Hid (foldW (ws.drop k) acc=foldW ws [])∧Below w3.heap.size w3 wr) (fun _ vi _=>ws.length-(intOf vi).toNat)
   case atStart=>exact ⟨0,[],Nat.zero_le _,rfl,own_nilC _ _,by simp,rfl,Below.refl _ _⟩
   case round=>
    obtain ⟨k,acc,hk,rfl,hacc,hal,hf,hbr⟩:=hrel
    have hmr:=b3.trans (hbr.mono b3.size)
    obtain ⟨qv,cv,us,hv5,_,_⟩:=hacc.at
    subst hv5
    by_cases hlt:k<ws.length
    ·have hcx:wr.cell? ⟨bq,off+k,none⟩=some (.string ws[k]):=(hbr.cell (p:=⟨bq,off+k,none⟩) hbq).trans (hcell k hlt)
     have hsk:=hsz k hlt
     have hdr:ws.drop k=ws[k]::ws.drop (k+1):=List.drop_eq_getElem_cons hlt
     rw [hdr,foldW] at hf
     obtain ⟨x,hx⟩: ∃ x,x=ws[k]:=⟨_,rfl⟩
     rw [←hx] at hcx hsk hf
     have HC:=HW.out x hsk wr hmr
     have hne:= @wordD_ne x
     have hDl:=wordD_len x
     obtain ⟨D,hD⟩: ∃ D,D=wordD x:=⟨_,rfl⟩
     obtain ⟨K,hK⟩: ∃ K,K=wordOk x:=⟨_,rfl⟩
     rw [←hD, ←hK] at HC hf hne
     rw [←hD] at hDl
     have HC':Hid (Calls Tryz.prog 223 #[.string x] wr fun e w'=>∃ v,e=.returned (.tuple #[v,.bool K])∧CmpsOwn wr.heap.size w' v D∧Below wr.heap.size wr w'):=HC
     have hki:(k:Int)<(ws.length:Int):=by omega
     clear HC hD hK hx hdr hcell hsz HW
     cases K with
     |false=>
      have HN:Hid (listC ws=none):=by show _=_;rw [HL.out, ←hf.out];simp
      clear hf HL
      go_wp2_with (go_at_call 223;refine HC'.out.mono ?_;rintro e w4 ⟨v4,rfl,hv4,b4⟩;obtain ⟨q4,c4,us4,hq4,_,_⟩:=hv4.at;subst hq4)
      go_ret2
      exact ⟨_,by rw [HN.out];rfl,by rw [HN.out];exact own_nilC _ _,hmr.trans (b4.mono hmr.size)⟩
     |true=>
      have hDne:=hne rfl
      by_cases h4:acc.length+D.length≤4
      ·have HN:Hid (foldW (ws.drop (k+1)) (acc++D)=foldW ws []):=by show _=_;rw [←hf.out,if_pos ⟨rfl,h4⟩]
       have h4': ¬(4:Int)<(acc.length:Int)+(D.length:Int):=by omega
       have hlo:w3.heap.size≤wr.heap.size:=hbr.size
       have hrow: ∀ j,Value.ownBlock (.slice qv acc.length cv)=some j→w3.heap.size≤j:=fun j hj=>by
        obtain ⟨ys,us,h1,_,_⟩:=hacc
        rcases h1.2 with ⟨h,_⟩|⟨g,cap,cur,h,hg,_⟩
        ·rw [h] at hj;simp [Value.ownBlock] at hj
        ·rw [h] at hj;simp [Value.ownBlock] at hj;omega
       have HAP:Hid (∀ w4 v4,Below wr.heap.size wr w4→CmpsOwn wr.heap.size w4 v4 D→∃ (ys ys':List Value) (g cap:Nat),w4.ownsRow w3.heap.size 214 5 (.slice qv acc.length cv) acc.length ys∧v4=.slice (some ⟨g,0,none⟩) D.length cap∧ys'.length=D.length*5∧(∀ j u,ys'[j]?=some u→w4.cell? ((⟨g,0,none⟩:Addr).add j)=some u)∧(∀ u∈ys',u.oneCell'=true)∧∀ w2 v2,w2.ownsRow w3.heap.size 214 5 v2 (acc.length+D.length) (ys++ys')→w4.grownBy w2 (Value.ownBlock (.slice qv acc.length cv))→CmpsOwn w3.heap.size w2 v2 (acc++D)):=fun w4 v4 b4 h4=>hacc.app hlo b4 h4 hDne
       have HRW:Hid (∀ j,Value.ownBlock (.slice qv acc.length cv)=some j→w3.heap.size≤j):=hrow
       clear hf hne hrow hacc
       go_wp2_with (first|(go_at_call 223;refine HC'.out.mono ?_;rintro e w4 ⟨v4,rfl,hv4,b4⟩;obtain ⟨ys,ys',g,cap,o4,hv,hly,hnw,hon,happ⟩:=HAP.out w4 v4 b4 hv4;subst hv;have HNW:Hid (∀ j u,ys'[j]?=some u→w4.cell? ((⟨g,0,none⟩:Addr).add j)=some u):=hnw;have HON:Hid (∀ u∈ys',u.oneCell'=true):=hon;have HAPP:Hid (∀ w2 v2,w2.ownsRow w3.heap.size 214 5 v2 (acc.length+D.length) (ys++ys')→w4.grownBy w2 (Value.ownBlock (.slice qv acc.length cv))→CmpsOwn w3.heap.size w2 v2 (acc++D)):=happ;clear hnw hon happ hv4)|(at_builtin;refine wpList_append_own _ rfl _ _ 203 rfl w3.heap.size 214 i0 _ 5 56 Tryz.underlying203 hi hz0 hz1 hz2 rfl (by decide) (.slice qv acc.length cv) acc.length ys rfl o4 ⟨g,0,none⟩ D.length cap ys' rfl hly HNW.out HON.out (by unfold maxLen;omega) (by omega) (Nat.le_trans hlo b4.size) ?_))
       intro v2 w2 o2 gr2 _
       have kx:=hbr.trans (b4.mono hlo)
       have k2:=below_turned kx gr2 kx.size HRW.out
       have hown:=HAPP.out w2 v2 o2 gr2
       clear HAPP HNW HON HAP o4 o2 gr2
       go_wp2_with fail
       go_roundw
       case rel=>exact ⟨k+1,acc++D,by omega,by go_num,hown,by rw [List.length_append];omega,HN,k2⟩
       case measure=>simp [intOf];omega
      ·have HN:Hid (listC ws=none):=by show _=_;rw [HL.out, ←hf.out,if_neg (fun h=>h4 h.2)]
       have h4':(4:Int)<(acc.length:Int)+(D.length:Int):=by omega
       clear hf HL hne h4
       go_wp2_with (go_at_call 223;refine HC'.out.mono ?_;rintro e w4 ⟨v4,rfl,hv4,b4⟩;obtain ⟨q4,c4,us4,hq4,_,_⟩:=hv4.at;subst hq4)
       go_ret2
       exact ⟨_,by rw [HN.out];rfl,by rw [HN.out];exact own_nilC _ _,hmr.trans (b4.mono hmr.size)⟩
    ·have he:k=ws.length:=by omega
     subst he
     have HN:Hid (listC ws=some acc):=by show _=_;rw [HL.out, ←hf.out,List.drop_length,foldW]
     clear hf HL hcell hsz HW
     go_wp2_with fail
     go_ret2
     exact ⟨_,by rw [HN.out];rfl,by rw [HN.out];exact hacc.lower b3.size,hmr⟩
  ·have h3':((ws.length:Int) == 3)=false:=by rw [beq_eq_false_iff_ne];omega
   clear hb hgd HG h3
   go_wp2_with fail
   go_loopw [5,32] (fun v5 vi wr=>∃ (k:Nat) (acc:List CmpD),k≤ws.length∧vi=.int .i64 (k:Int)∧CmpsOwn w3.heap.size wr v5 acc∧acc.length≤4∧Hid (foldW (ws.drop k) acc=foldW ws [])∧Below w3.heap.size w3 wr) (fun _ vi _=>ws.length-(intOf vi).toNat)
   case atStart=>exact ⟨0,[],Nat.zero_le _,rfl,own_nilC _ _,by simp,rfl,Below.refl _ _⟩
   case round=>
    obtain ⟨k,acc,hk,rfl,hacc,hal,hf,hbr⟩:=hrel
    have hmr:=b3.trans (hbr.mono b3.size)
    obtain ⟨qv,cv,us,hv5,_,_⟩:=hacc.at
    subst hv5
    by_cases hlt:k<ws.length
    ·have hcx:wr.cell? ⟨bq,off+k,none⟩=some (.string ws[k]):=(hbr.cell (p:=⟨bq,off+k,none⟩) hbq).trans (hcell k hlt)
     have hsk:=hsz k hlt
     have hdr:ws.drop k=ws[k]::ws.drop (k+1):=List.drop_eq_getElem_cons hlt
     rw [hdr,foldW] at hf
     obtain ⟨x,hx⟩: ∃ x,x=ws[k]:=⟨_,rfl⟩
     rw [←hx] at hcx hsk hf
     have HC:=HW.out x hsk wr hmr
     have hne:= @wordD_ne x
     have hDl:=wordD_len x
     obtain ⟨D,hD⟩: ∃ D,D=wordD x:=⟨_,rfl⟩
     obtain ⟨K,hK⟩: ∃ K,K=wordOk x:=⟨_,rfl⟩
     rw [←hD, ←hK] at HC hf hne
     rw [←hD] at hDl
     have HC':Hid (Calls Tryz.prog 223 #[.string x] wr fun e w'=>∃ v,e=.returned (.tuple #[v,.bool K])∧CmpsOwn wr.heap.size w' v D∧Below wr.heap.size wr w'):=HC
     have hki:(k:Int)<(ws.length:Int):=by omega
     clear HC hD hK hx hdr hcell hsz HW
     cases K with
     |false=>
      have HN:Hid (listC ws=none):=by show _=_;rw [HL.out, ←hf.out];simp
      clear hf HL
      go_wp2_with (go_at_call 223;refine HC'.out.mono ?_;rintro e w4 ⟨v4,rfl,hv4,b4⟩;obtain ⟨q4,c4,us4,hq4,_,_⟩:=hv4.at;subst hq4)
      go_ret2
      exact ⟨_,by rw [HN.out];rfl,by rw [HN.out];exact own_nilC _ _,hmr.trans (b4.mono hmr.size)⟩
     |true=>
      have hDne:=hne rfl
      by_cases h4:acc.length+D.length≤4
      ·have HN:Hid (foldW (ws.drop (k+1)) (acc++D)=foldW ws []):=by show _=_;rw [←hf.out,if_pos ⟨rfl,h4⟩]
       have h4': ¬(4:Int)<(acc.length:Int)+(D.length:Int):=by omega
       have hlo:w3.heap.size≤wr.heap.size:=hbr.size
       have hrow: ∀ j,Value.ownBlock (.slice qv acc.length cv)=some j→w3.heap.size≤j:=fun j hj=>by
        obtain ⟨ys,us,h1,_,_⟩:=hacc
        rcases h1.2 with ⟨h,_⟩|⟨g,cap,cur,h,hg,_⟩
        ·rw [h] at hj;simp [Value.ownBlock] at hj
        ·rw [h] at hj;simp [Value.ownBlock] at hj;omega
       have HAP:Hid (∀ w4 v4,Below wr.heap.size wr w4→CmpsOwn wr.heap.size w4 v4 D→∃ (ys ys':List Value) (g cap:Nat),w4.ownsRow w3.heap.size 214 5 (.slice qv acc.length cv) acc.length ys∧v4=.slice (some ⟨g,0,none⟩) D.length cap∧ys'.length=D.length*5∧(∀ j u,ys'[j]?=some u→w4.cell? ((⟨g,0,none⟩:Addr).add j)=some u)∧(∀ u∈ys',u.oneCell'=true)∧∀ w2 v2,w2.ownsRow w3.heap.size 214 5 v2 (acc.length+D.length) (ys++ys')→w4.grownBy w2 (Value.ownBlock (.slice qv acc.length cv))→CmpsOwn w3.heap.size w2 v2 (acc++D)):=fun w4 v4 b4 h4=>hacc.app hlo b4 h4 hDne
       have HRW:Hid (∀ j,Value.ownBlock (.slice qv acc.length cv)=some j→w3.heap.size≤j):=hrow
       clear hf hne hrow hacc
       go_wp2_with (first|(go_at_call 223;refine HC'.out.mono ?_;rintro e w4 ⟨v4,rfl,hv4,b4⟩;obtain ⟨ys,ys',g,cap,o4,hv,hly,hnw,hon,happ⟩:=HAP.out w4 v4 b4 hv4;subst hv;have HNW:Hid (∀ j u,ys'[j]?=some u→w4.cell? ((⟨g,0,none⟩:Addr).add j)=some u):=hnw;have HON:Hid (∀ u∈ys',u.oneCell'=true):=hon;have HAPP:Hid (∀ w2 v2,w2.ownsRow w3.heap.size 214 5 v2 (acc.length+D.length) (ys++ys')→w4.grownBy w2 (Value.ownBlock (.slice qv acc.length cv))→CmpsOwn w3.heap.size w2 v2 (acc++D)):=happ;clear hnw hon happ hv4)|(at_builtin;refine wpList_append_own _ rfl _ _ 203 rfl w3.heap.size 214 i0 _ 5 56 Tryz.underlying203 hi hz0 hz1 hz2 rfl (by decide) (.slice qv acc.length cv) acc.length ys rfl o4 ⟨g,0,none⟩ D.length cap ys' rfl hly HNW.out HON.out (by unfold maxLen;omega) (by omega) (Nat.le_trans hlo b4.size) ?_))
       intro v2 w2 o2 gr2 _
       have kx:=hbr.trans (b4.mono hlo)
       have k2:=below_turned kx gr2 kx.size HRW.out
       have hown:=HAPP.out w2 v2 o2 gr2
       clear HAPP HNW HON HAP o4 o2 gr2
       go_wp2_with fail
       go_roundw
       case rel=>exact ⟨k+1,acc++D,by omega,by go_num,hown,by rw [List.length_append];omega,HN,k2⟩
       case measure=>simp [intOf];omega
      ·have HN:Hid (listC ws=none):=by show _=_;rw [HL.out, ←hf.out,if_neg (fun h=>h4 h.2)]
       have h4':(4:Int)<(acc.length:Int)+(D.length:Int):=by omega
       clear hf HL hne h4
       go_wp2_with (go_at_call 223;refine HC'.out.mono ?_;rintro e w4 ⟨v4,rfl,hv4,b4⟩;obtain ⟨q4,c4,us4,hq4,_,_⟩:=hv4.at;subst hq4)
       go_ret2
       exact ⟨_,by rw [HN.out];rfl,by rw [HN.out];exact own_nilC _ _,hmr.trans (b4.mono hmr.size)⟩
    ·have he:k=ws.length:=by omega
     subst he
     have HN:Hid (listC ws=some acc):=by show _=_;rw [HL.out, ←hf.out,List.drop_length,foldW]
     clear hf HL hcell hsz HW
     go_wp2_with fail
     go_ret2
     exact ⟨_,by rw [HN.out];rfl,by rw [HN.out];exact hacc.lower b3.size,hmr⟩
theorem l4Next_c (a b c:Int) (u:Value) (t:Int) (ok:Bool) (hn:numsOk a b c) (ht:t=1∨t=2∨t=3) (w:World) (hu: ∃ q n cap,u=.slice q n cap):
  Calls Tryz.prog 313 #[.agg #[.int .i64 a,.int .i64 b,.int .i64 c,u,.int .i64 t,.bool ok]] w fun e w'=>e=.returned (.agg #[.int .i64 (nextA (min t 2) a),.int .i64 (nextB (min t 2) b),.int .i64 (nextC (min t 2) c),.slice none 0 0])∧Below w.heap.size w w':=by
 obtain ⟨q,n,cap,rfl⟩:=hu
 obtain ⟨⟨ha0,ha1⟩,⟨hb0,hb1⟩,hc0,hc1⟩:=hn
 by_cases h1:t=1
 ·have e:min t 2=1:=by omega
  rw [e]
  subst h1
  go_enter Tryz.func313,Tryz.ntmps313
  go_wp2
  exact bodyPost_ret (v:=.agg #[.int .i64 (a+1),.int .i64 0,.int .i64 0,.slice none 0 0]) (by simp [results,Tryz.results313,go_sem]) rfl ⟨by simp [nextA,nextB,nextC],box_two _ _⟩
 have e:min t 2=2:=by omega
 rw [e]
 have k1:(t == 1)=false:=by simpa using h1
 go_enter Tryz.func313,Tryz.ntmps313
 go_wp2
 exact bodyPost_ret (v:=.agg #[.int .i64 a,.int .i64 (b+1),.int .i64 0,.slice none 0 0]) (by simp [results,Tryz.results313,go_sem]) rfl ⟨by simp [nextA,nextB,nextC],box_two _ _⟩
theorem l4Tilde_c (a b c:Int) (u:Value) (t:Int) (ok:Bool) (hn:numsOk a b c) (ht:t=1∨t=2∨t=3) (w:World) (hu: ∃ q n cap,u=.slice q n cap):
  Calls Tryz.prog 312 #[.agg #[.int .i64 a,.int .i64 b,.int .i64 c,u,.int .i64 t,.bool ok]] w fun e w'=>e=.returned (.agg #[.int .i64 (nextA (min t 2) a),.int .i64 (nextB (min t 2) b),.int .i64 (nextC (min t 2) c),.slice none 0 0])∧Below w.heap.size w w':=by
 obtain ⟨q,n,cap,rfl⟩:=hu
 obtain ⟨⟨ha0,ha1⟩,⟨hb0,hb1⟩,hc0,hc1⟩:=hn
 by_cases h1:t=1
 ·have e:min t 2=1:=by omega
  rw [e]
  subst h1
  go_enter Tryz.func312,Tryz.ntmps312
  go_wp2
  exact bodyPost_ret (v:=.agg #[.int .i64 (a+1),.int .i64 0,.int .i64 0,.slice none 0 0]) (by simp [results,Tryz.results312,go_sem]) rfl ⟨by simp [nextA,nextB,nextC],box_two _ _⟩
 have e:min t 2=2:=by omega
 rw [e]
 have k1:(t == 1)=false:=by simpa using h1
 go_enter Tryz.func312,Tryz.ntmps312
 go_wp2
 exact bodyPost_ret (v:=.agg #[.int .i64 a,.int .i64 (b+1),.int .i64 0,.slice none 0 0]) (by simp [results,Tryz.results312,go_sem]) rfl ⟨by simp [nextA,nextB,nextC],box_two _ _⟩
theorem l4Caret_c (a b c:Int) (u:Value) (t:Int) (ok:Bool) (hn:numsOk a b c) (ht:t=1∨t=2∨t=3) (w:World) (hu: ∃ q n cap,u=.slice q n cap):
  Calls Tryz.prog 311 #[.agg #[.int .i64 a,.int .i64 b,.int .i64 c,u,.int .i64 t,.bool ok]] w fun e w'=>e=.returned (.agg #[.int .i64 (nextA (caretK a b t) a),.int .i64 (nextB (caretK a b t) b),.int .i64 (nextC (caretK a b t) c),.slice none 0 0])∧Below w.heap.size w w':=by
 obtain ⟨q,n,cap,rfl⟩:=hu
 obtain ⟨⟨ha0,ha1⟩,⟨hb0,hb1⟩,hc0,hc1⟩:=hn
 by_cases ha:a=0
 ·have ka:(a != 0)=false:=by simp [ha]
  by_cases h1:t=1
  ·have e:caretK a b t=1:=by simp [caretK,h1]
   rw [e]
   have k1:(t == 1)=true:=by simp [h1]
   clear e h1 ha
   go_enter Tryz.func311,Tryz.ntmps311
   go_wp2
   exact bodyPost_ret (v:=.agg #[.int .i64 (a+1),.int .i64 0,.int .i64 0,.slice none 0 0]) (by simp [results,Tryz.results311,go_sem]) rfl ⟨by simp [nextA,nextB,nextC],box_two _ _⟩
  have k1:(t == 1)=false:=by simpa using h1
  by_cases hb:b=0
  ·have kb:(b != 0)=false:=by simp [hb]
   by_cases h2:t=2
   ·have e:caretK a b t=2:=by simp [caretK,ha,h1,h2]
    rw [e]
    have k2:(t == 2)=true:=by simp [h2]
    have HA:Hid (a=0):=ha
    clear e h1 h2 ha hb
    go_enter Tryz.func311,Tryz.ntmps311
    go_wp2
    exact bodyPost_ret (v:=.agg #[.int .i64 0,.int .i64 (b+1),.int .i64 0,.slice none 0 0]) (by simp [results,Tryz.results311,go_sem]) rfl ⟨by simp [nextA,nextB,nextC,HA.out],box_two _ _⟩
   have e:caretK a b t=3:=by simp [caretK,ha,h1,hb,h2]
   rw [e]
   have k2:(t == 2)=false:=by simpa using h2
   have HA:Hid (a=0):=ha
   have HB:Hid (b=0):=hb
   clear e h1 h2 ha hb
   go_enter Tryz.func311,Tryz.ntmps311
   go_wp2
   exact bodyPost_ret (v:=.agg #[.int .i64 0,.int .i64 0,.int .i64 (c+1),.slice none 0 0]) (by simp [results,Tryz.results311,go_sem]) rfl ⟨by simp [nextA,nextB,nextC,HA.out,HB.out],box_two _ _⟩
  have e:caretK a b t=2:=by simp [caretK,ha,h1,hb]
  rw [e]
  have kb:(b != 0)=true:=by simpa using hb
  have HA:Hid (a=0):=ha
  clear e h1 ha hb
  go_enter Tryz.func311,Tryz.ntmps311
  go_wp2
  exact bodyPost_ret (v:=.agg #[.int .i64 0,.int .i64 (b+1),.int .i64 0,.slice none 0 0]) (by simp [results,Tryz.results311,go_sem]) rfl ⟨by simp [nextA,nextB,nextC,HA.out],box_two _ _⟩
 have e:caretK a b t=1:=by simp [caretK,ha]
 rw [e]
 have ka:(a != 0)=true:=by simpa using ha
 go_enter Tryz.func311,Tryz.ntmps311
 go_wp2
 exact bodyPost_ret (v:=.agg #[.int .i64 (a+1),.int .i64 0,.int .i64 0,.slice none 0 0]) (by simp [results,Tryz.results311,go_sem]) rfl ⟨by simp [nextA,nextB,nextC],box_two _ _⟩
theorem l4From_c (a b c:Int) (u:Value) (t:Int) (ok:Bool) (w:World) (hu: ∃ q n cap,u=.slice q n cap):
  Calls Tryz.prog 309 #[.agg #[.int .i64 a,.int .i64 b,.int .i64 c,u,.int .i64 t,.bool ok]] w fun e w'=>e=.returned (.agg #[.int .i64 4,.int .i64 a,.int .i64 b,.int .i64 c,u])∧Below w.heap.size w w':=by
 obtain ⟨q,n,cap,rfl⟩:=hu
 go_enter Tryz.func309,Tryz.ntmps309
 go_wp2
 exact bodyPost_ret (v:=.agg #[.int .i64 4,.int .i64 a,.int .i64 b,.int .i64 c,.slice q n cap]) (by simp [results,Tryz.results309,go_sem]) rfl ⟨rfl,box_two _ _⟩
theorem l4Below_c (a b c:Int) (u:Value) (w:World) (hu: ∃ q n cap,u=.slice q n cap):
  Calls Tryz.prog 310 #[.agg #[.int .i64 a,.int .i64 b,.int .i64 c,u]] w fun e w'=>∃ g,e=.returned (.agg #[.int .i64 1,.int .i64 a,.int .i64 b,.int .i64 c,.slice (some ⟨g,0,none⟩) 1 1])∧w'.ownsRow w.heap.size 9 1 (.slice (some ⟨g,0,none⟩) 1 1) 1 (strsV [zeroT])∧Below w.heap.size w w':=by
 obtain ⟨q,n,cap,rfl⟩:=hu
 go_enter Tryz.func310,Tryz.ntmps310
 go_wp2
 refine bodyPost_ret (v:=.agg #[.int .i64 1,.int .i64 a,.int .i64 b,.int .i64 c,.slice (some ⟨w.heap.size+1+1,0,none⟩) 1 1]) (by simp [results,Tryz.results310,go_sem]) rfl ⟨_,rfl,?_,?_⟩
 ·have s1: ∀ o o',((w.alloc o).alloc o').heap.size=w.heap.size+1+1:=fun o o'=>by simp
  have h:=fun o o'=>owns_lit1 ((w.alloc o).alloc o') ⟨#[48]⟩ w.heap.size (by simp;omega)
  simp only [s1] at h
  exact h _ _
 ·exact (box_two _ _).alloc (by simp;omega) _
theorem mk_caret (lo:Nat) (a b c:Int) (u:Value) (ps:List ByteArray) (t:Int) (ok:Bool) (w:World) (hlo:lo≤w.heap.size) (hnum:numsOk a b c) (ht:t=1∨t=2∨t=3) (hu:w.ownsRow lo 9 1 u ps.length (strsV ps)):
    Calls Tryz.prog 284 #[.string ⟨#[94]⟩,.agg #[.int .i64 a,.int .i64 b,.int .i64 c,u,.int .i64 t,.bool ok]] w fun e w'=>∃ v,e=.returned v∧CmpsOwn lo w' v (makeC 6 a b c ps t)∧Below w.heap.size w w':=by
  obtain ⟨q,n,cap,hq⟩: ∃ q n cap,u=.slice q n cap:=by rcases hu.2 with ⟨rfl,_⟩|⟨g,cap,cur,rfl,_⟩<;>exact ⟨_,_,_,rfl⟩
  subst hq
  have hWF:Below w.heap.size w (w.alloc (.cells #[.int .i64 a,.int .i64 b,.int .i64 c,.slice q n cap,.int .i64 t,.bool ok] 324)):=(Below.refl _ _).alloc (Nat.le_refl _) _
  have C0:(w.alloc (.cells #[.int .i64 a,.int .i64 b,.int .i64 c,.slice q n cap,.int .i64 t,.bool ok] 324)).cell? ⟨w.heap.size,0,none⟩=some (.int .i64 a)∧(w.alloc (.cells #[.int .i64 a,.int .i64 b,.int .i64 c,.slice q n cap,.int .i64 t,.bool ok] 324)).cell? ⟨w.heap.size,1,none⟩=some (.int .i64 b)∧(w.alloc (.cells #[.int .i64 a,.int .i64 b,.int .i64 c,.slice q n cap,.int .i64 t,.bool ok] 324)).cell? ⟨w.heap.size,2,none⟩=some (.int .i64 c)∧(w.alloc (.cells #[.int .i64 a,.int .i64 b,.int .i64 c,.slice q n cap,.int .i64 t,.bool ok] 324)).cell? ⟨w.heap.size,3,none⟩=some (.slice q n cap)∧(w.alloc (.cells #[.int .i64 a,.int .i64 b,.int .i64 c,.slice q n cap,.int .i64 t,.bool ok] 324)).cell? ⟨w.heap.size,4,none⟩=some (.int .i64 t)∧(w.alloc (.cells #[.int .i64 a,.int .i64 b,.int .i64 c,.slice q n cap,.int .i64 t,.bool ok] 324)).cell? ⟨w.heap.size,5,none⟩=some (.bool ok):=by
    have h:=vheap_new w (.cells #[.int .i64 a,.int .i64 b,.int .i64 c,.slice q n cap,.int .i64 t,.bool ok] 324)
    exact ⟨vblk_cell h 0,vblk_cell h 1,vblk_cell h 2,vblk_cell h 3,vblk_cell h 4,vblk_cell h 5⟩
  have hs1:(w.alloc (.cells #[.int .i64 a,.int .i64 b,.int .i64 c,.slice q n cap,.int .i64 t,.bool ok] 324)).heap.size=w.heap.size+1:=by simp
  have hap: ∀ g (w1:World) base,w.heap.size≤base→w1.ownsRow base 9 1 (.slice (some ⟨g,0,none⟩) 1 1) 1 (strsV [zeroT])→Value.ownBlock (.slice q n cap)=Value.ownBlock (.slice (some ⟨g,0,none⟩) 1 1)→Value.ownBlock (.slice q n cap)=none:=fun g w1 base hb og he=>by
    cases hk:Value.ownBlock (.slice q n cap) with
    |none=>rfl
    |some k=>
      have h1:=(hu.lt k hk).2
      rw [he] at hk
      have h2:=(og.lt k hk).1
      omega
  obtain ⟨WF,hWFd⟩: ∃ x,x=w.alloc (.cells #[.int .i64 a,.int .i64 b,.int .i64 c,.slice q n cap,.int .i64 t,.bool ok] 324):=⟨_,rfl⟩
  rw [←hWFd] at hWF C0 hs1
  have KEEP:Hid (∀ w1,Below WF.heap.size WF w1→w1.cell? ⟨w.heap.size,0,none⟩=some (.int .i64 a)∧w1.cell? ⟨w.heap.size,1,none⟩=some (.int .i64 b)∧w1.cell? ⟨w.heap.size,2,none⟩=some (.int .i64 c)∧w1.cell? ⟨w.heap.size,3,none⟩=some (.slice q n cap)∧w1.cell? ⟨w.heap.size,4,none⟩=some (.int .i64 t)∧w1.cell? ⟨w.heap.size,5,none⟩=some (.bool ok)):=fun w1 hb=>by
    have k: ∀ j,w1.cell? ⟨w.heap.size,j,none⟩=WF.cell? ⟨w.heap.size,j,none⟩:=fun j=>World.cell?_of_block (w:=WF) (hb.block w.heap.size (by omega))
    simp only [k];exact C0
  have em:makeC 6 a b c ps t=[⟨4,a,b,c,ps⟩,⟨1,nextA (caretK a b t) a,nextB (caretK a b t) b,nextC (caretK a b t) c,[zeroT]⟩]:=by rfl
  obtain ⟨x,hx⟩: ∃ x,x=nextA (caretK a b t) a:=⟨_,rfl⟩
  obtain ⟨y,hy⟩: ∃ x,x=nextB (caretK a b t) b:=⟨_,rfl⟩
  obtain ⟨z,hz⟩: ∃ x,x=nextC (caretK a b t) c:=⟨_,rfl⟩
  rw [em, ←hx, ←hy, ←hz]
  have HF:Hid (∀ w1,Below WF.heap.size WF w1→Calls Tryz.prog 309 #[.agg #[.int .i64 a,.int .i64 b,.int .i64 c,.slice q n cap,.int .i64 t,.bool ok]] w1 fun e w'=>e=.returned (.agg #[.int .i64 4,.int .i64 a,.int .i64 b,.int .i64 c,.slice q n cap])∧Below w1.heap.size w1 w'∧Below WF.heap.size WF w'∧w'.cell? ⟨w.heap.size,0,none⟩=some (.int .i64 a)∧w'.cell? ⟨w.heap.size,1,none⟩=some (.int .i64 b)∧w'.cell? ⟨w.heap.size,2,none⟩=some (.int .i64 c)∧w'.cell? ⟨w.heap.size,3,none⟩=some (.slice q n cap)∧w'.cell? ⟨w.heap.size,4,none⟩=some (.int .i64 t)∧w'.cell? ⟨w.heap.size,5,none⟩=some (.bool ok)):=fun w1 hb=>(l4From_c a b c _ t ok w1 ⟨_,_,_,rfl⟩).mono (fun e w' ⟨h1,h2⟩=>⟨h1,h2,hb.trans (h2.mono hb.size),KEEP.out w' (hb.trans (h2.mono hb.size))⟩)
  have HN:Hid (∀ w1,Below WF.heap.size WF w1→Calls Tryz.prog 311 #[.agg #[.int .i64 a,.int .i64 b,.int .i64 c,.slice q n cap,.int .i64 t,.bool ok]] w1 fun e w'=>e=.returned (.agg #[.int .i64 x,.int .i64 y,.int .i64 z,.slice none 0 0])∧Below w1.heap.size w1 w'∧Below WF.heap.size WF w'∧w'.cell? ⟨w.heap.size,0,none⟩=some (.int .i64 a)∧w'.cell? ⟨w.heap.size,1,none⟩=some (.int .i64 b)∧w'.cell? ⟨w.heap.size,2,none⟩=some (.int .i64 c)∧w'.cell? ⟨w.heap.size,3,none⟩=some (.slice q n cap)∧w'.cell? ⟨w.heap.size,4,none⟩=some (.int .i64 t)∧w'.cell? ⟨w.heap.size,5,none⟩=some (.bool ok)):=fun w1 hb=>(l4Caret_c a b c _ t ok hnum ht w1 ⟨_,_,_,rfl⟩).mono (fun e w' ⟨h1,h2⟩=>⟨by rw [h1, ←hx, ←hy, ←hz],h2,hb.trans (h2.mono hb.size),KEEP.out w' (hb.trans (h2.mono hb.size))⟩)
  have HB:Hid (∀ w1,Below WF.heap.size WF w1→Calls Tryz.prog 310 #[.agg #[.int .i64 x,.int .i64 y,.int .i64 z,.slice none 0 0]] w1 fun e w'=>∃ g,e=.returned (.agg #[.int .i64 1,.int .i64 x,.int .i64 y,.int .i64 z,.slice (some ⟨g,0,none⟩) 1 1])∧w'.ownsRow WF.heap.size 9 1 (.slice (some ⟨g,0,none⟩) 1 1) 1 (strsV [zeroT])∧Below WF.heap.size WF w'∧w'.cell? ⟨w.heap.size,0,none⟩=some (.int .i64 a)∧w'.cell? ⟨w.heap.size,1,none⟩=some (.int .i64 b)∧w'.cell? ⟨w.heap.size,2,none⟩=some (.int .i64 c)∧w'.cell? ⟨w.heap.size,3,none⟩=some (.slice q n cap)∧w'.cell? ⟨w.heap.size,4,none⟩=some (.int .i64 t)∧w'.cell? ⟨w.heap.size,5,none⟩=some (.bool ok)):=fun w1 hb=>(l4Below_c x y z _ w1 ⟨_,_,_,rfl⟩).mono (fun e w' ⟨g,h1,h2,h3⟩=>⟨g,h1,owns_base h2 hb.size,hb.trans (h3.mono hb.size),KEEP.out w' (hb.trans (h3.mono hb.size))⟩)
  have hd0:Below WF.heap.size WF WF.drew:=(Below.refl _ _).drew
  have D0:=KEEP.out _ hd0
  obtain ⟨d0,d1,d2,d3,d4,d5⟩:=D0
  obtain ⟨c0,c1,c2,c3,c4,c5⟩:=C0
  clear hx hy hz em hnum ht KEEP
  go_enter Tryz.func284,Tryz.ntmps284
  go_wp2_with fail
  rw [←hWFd]
  clear hWFd
  go_region_with (first
    | (go_at_call 309; refine (HF.out _ ?_).mono ?_; · assumption
       rintro e wF ⟨rfl, bF, BF, ⟨c0, c1, c2, c3, c4, c5⟩⟩)
    | (go_at_call 311; refine (HN.out _ ?_).mono ?_; · assumption
       rintro e wN ⟨rfl, bN, BN, ⟨c0, c1, c2, c3, c4, c5⟩⟩)
    | (go_at_call 310; refine (HB.out _ ?_).mono ?_; · assumption
       rintro e wB ⟨g, rfl, og, BB, ⟨c0, c1, c2, c3, c4, c5⟩⟩))
  all_goals go_wp2_with fail
  all_goals go_ret
  all_goals
    have hx:=hWF.trans (BB.mono hWF.size)
    exact ⟨_,rfl,two_own ⟨4,a,b,c,ps⟩ ⟨1,x,y,z,[zeroT]⟩ (by simp) (Nat.le_trans hlo hx.size) (owns_of_below hu hx) (owns_base og (Nat.le_trans hlo hWF.size)) (hap g _ _ hWF.size og),hx.alloc hx.size _⟩
end Go.Proofs.YtlfmefojcmpfeaaGreatDoor
