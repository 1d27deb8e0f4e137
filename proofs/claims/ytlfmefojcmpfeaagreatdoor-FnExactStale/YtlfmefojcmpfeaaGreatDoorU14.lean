/-
  Contracts for the walks and pure facts, several texts in one: each theorem says what it proves, and under which conditions.
-/
import Derived.Test.YtlfmefojcmpfeaaGreatDoorUT
import Derived.Test.YtlfmefojcmpfeaaGreatDoorU13
set_option linter.unusedSimpArgs false
set_option linter.unusedVariables false
set_option maxHeartbeats 16000000
set_option maxRecDepth 100000
namespace Go.Proofs.YtlfmefojcmpfeaaGreatDoor
open Go.RowKit
def foldS :List ByteArray→List CmpD→Bool × List CmpD
 |[],acc=>(decide (acc.length≤4),acc)
 |x::ws,acc=>if wordS x=true then foldS ws (acc++wordD x) else (false,acc)
theorem wordS_ne {x:ByteArray} (h:wordS x=true):wordD x≠[]:=by
 unfold wordD
 split
 ·simp
 ·rename_i hs
  split
  ·exact makeC_ne _ _ _ _ _ _
  ·rename_i hp
   simp [wordS,hs,hp] at h
theorem l4ListF_c (ws:List ByteArray) (hL:ws.length≤1048577) (hsz: ∀ x∈ws,x.size≤1048576) (hb: ¬(ws.length=3∧ws.getD 1 ⟨#[]⟩=⟨#[45]⟩)) (hL0:0<ws.length) (v:Value) (w:World) (hv:Reads w v (strsV ws)):
  Calls Tryz.prog 166 #[v] w fun e w'=>∃ v',e=.returned (.tuple #[v',.bool (foldS ws []).1])∧CmpsOwn w.heap.size w' v' (foldS ws []).2∧Below w.heap.size w w':=by
 obtain ⟨i0,hi,hz0,hz1,hz2⟩:=info_parts infoCmp
 obtain ⟨qw,cw,rfl,hcw,hc3⟩:=reads_strs hv
 rcases hc3 with hw0|⟨bq,off,rfl,hbq,hcell⟩
 ·rw [hw0] at hL0;simp at hL0
 have hgd: ∀ k (h:k<ws.length),ws.getD k ⟨#[]⟩=ws[k]:=fun k h=>by simp [List.getD_eq_getElem?_getD,h]
 have O1:CmpsOwn w.heap.size (w.alloc (.cells #[] 214)) (.slice (some ⟨w.heap.size,0,none⟩) 0 0) []:=own_empty w w.heap.size (Nat.le_refl _)
 have hW1:Below w.heap.size w (w.alloc (.cells #[] 214)):=(Below.refl _ _).alloc (Nat.le_refl _) _
 obtain ⟨W1,hW1d⟩: ∃ x,x=w.alloc (.cells #[] 214):=⟨_,rfl⟩
 obtain ⟨R,hR⟩: ∃ x,x=foldS ws []:=⟨_,rfl⟩
 have HR:Hid (foldS (ws.drop 0) []=R):=hR.symm
 rw [←hR]
 by_cases h3:ws.length=3
 ·have hd: ¬ws[1]=⟨#[45]⟩:=fun h=>hb ⟨h3,by rw [hgd 1 (by omega)];exact h⟩
  have c1:=hcell 1 (by omega)
  obtain ⟨x1,hx1⟩: ∃ x,x=ws[1]:=⟨_,rfl⟩
  rw [←hx1] at c1 hd
  have hd':(x1.toList == [45])=false:=by rw [beq_eq_false_iff_ne];intro h;exact hd (bytes_eq_of_toList (by rw [h,ByteArray.toList_eq]))
  have c1':W1.cell? ⟨bq,off+1,none⟩=some (.string x1):=by rw [hW1d];exact (hW1.cell (p:=⟨bq,off+1,none⟩) hbq).trans c1
  rw [hW1d] at c1'
  have h3':((ws.length:Int) == 3)=true:=by simp [h3]
  have hi1:(1:Int)<(ws.length:Int):=by omega
  clear hb hd hx1 hgd h3 hR hv
  rw [←hW1d] at O1 hW1
  go_enter Tryz.func166,Tryz.ntmps166
  go_wp2_with fail
  rw [←hW1d]
  clear hW1d
  go_loopw [4,9,10,11] (fun v4 vi v10 v11 wr=>∃ (k:Nat) (acc:List CmpD),k≤ws.length∧vi=.int .i64 (k:Int)∧CmpsOwn w.heap.size wr v4 acc∧acc.length≤2*k∧Hid (foldS (ws.drop k) acc=R)∧Below w.heap.size w wr) (fun _ vi _ _ _=>ws.length-(intOf vi).toNat)
  case atStart=>exact ⟨0,[],Nat.zero_le _,rfl,O1,by simp,HR,hW1⟩
  case round=>
   obtain ⟨k,acc,hk,rfl,hacc,hal,hf,hbr⟩:=hrel
   clear O1 hW1 HR
   obtain ⟨qv,cv,us,hv5,_,_⟩:=hacc.at
   subst hv5
   by_cases hlt:k<ws.length
   ·have hcx:wr.cell? ⟨bq,off+k,none⟩=some (.string ws[k]):=(hbr.cell (p:=⟨bq,off+k,none⟩) hbq).trans (hcell k hlt)
    have hsk:=hsz ws[k] (List.getElem_mem hlt)
    have hdr:ws.drop k=ws[k]::ws.drop (k+1):=List.drop_eq_getElem_cons hlt
    rw [hdr,foldS] at hf
    obtain ⟨x,hx⟩: ∃ x,x=ws[k]:=⟨_,rfl⟩
    rw [←hx] at hcx hsk hf
    have HC:=l4Word_c x hsk wr
    have hne:= @wordS_ne x
    have hDl:=wordD_len x
    obtain ⟨D,hD⟩: ∃ D,D=wordD x:=⟨_,rfl⟩
    obtain ⟨K,hK⟩: ∃ K,K=wordS x:=⟨_,rfl⟩
    rw [←hD, ←hK] at HC hf hne
    rw [←hD] at hDl
    have HC':Hid (Calls Tryz.prog 236 #[.string x] wr fun e w'=>∃ v,e=.returned (.tuple #[v,.bool K])∧CmpsOwn wr.heap.size w' v D∧Below wr.heap.size wr w'):=HC
    have hki:(k:Int)<(ws.length:Int):=by omega
    clear HC hD hK hx hdr hcell hsz
    cases K with
    |false=>
     have HN:Hid (R=(false,acc)):=by show _=_;rw [←hf.out];simp
     clear hf
     go_wp2_with (go_at_call 236;refine HC'.out.mono ?_;rintro e w4 ⟨v4,rfl,hv4,b4⟩;obtain ⟨q4,c4,us4,hq4,_,_⟩:=hv4.at;subst hq4)
     go_ret2
     exact ⟨_,by rw [HN.out];rfl,by rw [HN.out];exact hacc.below b4,hbr.trans (b4.mono hbr.size)⟩
    |true=>
     have hDne:=hne rfl
     have HN:Hid (foldS (ws.drop (k+1)) (acc++D)=R):=by show _=_;rw [←hf.out,if_pos rfl]
     have hlo:w.heap.size≤wr.heap.size:=hbr.size
     have hrow: ∀ j,Value.ownBlock (.slice qv acc.length cv)=some j→w.heap.size≤j:=fun j hj=>by
      obtain ⟨ys,us,h1,_,_⟩:=hacc
      rcases h1.2 with ⟨h,_⟩|⟨g,cap,cur,h,hg,_⟩
      ·rw [h] at hj;simp [Value.ownBlock] at hj
      ·rw [h] at hj;simp [Value.ownBlock] at hj;omega
     have HAP:Hid (∀ w4 v4,Below wr.heap.size wr w4→CmpsOwn wr.heap.size w4 v4 D→∃ (ys ys':List Value) (g cap:Nat),w4.ownsRow w.heap.size 214 5 (.slice qv acc.length cv) acc.length ys∧v4=.slice (some ⟨g,0,none⟩) D.length cap∧ys'.length=D.length*5∧(∀ j u,ys'[j]?=some u→w4.cell? ((⟨g,0,none⟩:Addr).add j)=some u)∧(∀ u∈ys',u.oneCell'=true)∧∀ w2 v2,w2.ownsRow w.heap.size 214 5 v2 (acc.length+D.length) (ys++ys')→w4.grownBy w2 (Value.ownBlock (.slice qv acc.length cv))→CmpsOwn w.heap.size w2 v2 (acc++D)):=fun w4 v4 b4 h4=>hacc.app hlo b4 h4 hDne
     have HRW:Hid (∀ j,Value.ownBlock (.slice qv acc.length cv)=some j→w.heap.size≤j):=hrow
     clear hf hne hrow hacc
     go_wp2_with (first|(go_at_call 236;refine HC'.out.mono ?_;rintro e w4 ⟨v4,rfl,hv4,b4⟩;obtain ⟨ys,ys',g,cap,o4,hv,hly,hnw,hon,happ⟩:=HAP.out w4 v4 b4 hv4;subst hv;have HNW:Hid (∀ j u,ys'[j]?=some u→w4.cell? ((⟨g,0,none⟩:Addr).add j)=some u):=hnw;have HON:Hid (∀ u∈ys',u.oneCell'=true):=hon;have HAPP:Hid (∀ w2 v2,w2.ownsRow w.heap.size 214 5 v2 (acc.length+D.length) (ys++ys')→w4.grownBy w2 (Value.ownBlock (.slice qv acc.length cv))→CmpsOwn w.heap.size w2 v2 (acc++D)):=happ;clear hnw hon happ hv4)|(at_builtin;refine wpList_append_own _ rfl _ _ 203 rfl w.heap.size 214 i0 _ 5 56 Tryz.underlying203 hi hz0 hz1 hz2 rfl (by decide) (.slice qv acc.length cv) acc.length ys rfl o4 ⟨g,0,none⟩ D.length cap ys' rfl hly HNW.out HON.out (by unfold maxLen;omega) (by omega) (Nat.le_trans hlo b4.size) ?_))
     intro v2 w2 o2 gr2 _
     have kx:=hbr.trans (b4.mono hlo)
     have k2:=below_turned kx gr2 kx.size HRW.out
     have hown:=HAPP.out w2 v2 o2 gr2
     clear HAPP HNW HON HAP o4 o2 gr2
     go_wp2_with fail
     go_roundw
     case rel=>exact ⟨k+1,acc++D,by omega,by go_num,hown,by rw [List.length_append];omega,HN,k2⟩
     case measure=>simp [intOf];omega
   ·have he:k=ws.length:=by omega
    subst he
    have HN:Hid (R=(decide (acc.length≤4),acc)):=by show _=_;rw [←hf.out,List.drop_length,foldS]
    have hdc:decide ((acc.length:Int)≤4)=decide (acc.length≤4):=by by_cases h:acc.length≤4<;>simp [h]<;>omega
    clear hf hcell hsz
    go_wp2_with fail
    go_ret2
    exact ⟨_,by rw [HN.out];simp [hdc];rfl,by rw [HN.out];exact hacc,hbr⟩
 ·have h3':((ws.length:Int) == 3)=false:=by rw [beq_eq_false_iff_ne];omega
  clear hb hgd h3 hR hv
  rw [←hW1d] at O1 hW1
  go_enter Tryz.func166,Tryz.ntmps166
  go_wp2_with fail
  rw [←hW1d]
  clear hW1d
  go_loopw [4,9,10,11] (fun v4 vi v10 v11 wr=>∃ (k:Nat) (acc:List CmpD),k≤ws.length∧vi=.int .i64 (k:Int)∧CmpsOwn w.heap.size wr v4 acc∧acc.length≤2*k∧Hid (foldS (ws.drop k) acc=R)∧Below w.heap.size w wr) (fun _ vi _ _ _=>ws.length-(intOf vi).toNat)
  case atStart=>exact ⟨0,[],Nat.zero_le _,rfl,O1,by simp,HR,hW1⟩
  case round=>
   obtain ⟨k,acc,hk,rfl,hacc,hal,hf,hbr⟩:=hrel
   clear O1 hW1 HR
   obtain ⟨qv,cv,us,hv5,_,_⟩:=hacc.at
   subst hv5
   by_cases hlt:k<ws.length
   ·have hcx:wr.cell? ⟨bq,off+k,none⟩=some (.string ws[k]):=(hbr.cell (p:=⟨bq,off+k,none⟩) hbq).trans (hcell k hlt)
    have hsk:=hsz ws[k] (List.getElem_mem hlt)
    have hdr:ws.drop k=ws[k]::ws.drop (k+1):=List.drop_eq_getElem_cons hlt
    rw [hdr,foldS] at hf
    obtain ⟨x,hx⟩: ∃ x,x=ws[k]:=⟨_,rfl⟩
    rw [←hx] at hcx hsk hf
    have HC:=l4Word_c x hsk wr
    have hne:= @wordS_ne x
    have hDl:=wordD_len x
    obtain ⟨D,hD⟩: ∃ D,D=wordD x:=⟨_,rfl⟩
    obtain ⟨K,hK⟩: ∃ K,K=wordS x:=⟨_,rfl⟩
    rw [←hD, ←hK] at HC hf hne
    rw [←hD] at hDl
    have HC':Hid (Calls Tryz.prog 236 #[.string x] wr fun e w'=>∃ v,e=.returned (.tuple #[v,.bool K])∧CmpsOwn wr.heap.size w' v D∧Below wr.heap.size wr w'):=HC
    have hki:(k:Int)<(ws.length:Int):=by omega
    clear HC hD hK hx hdr hcell hsz
    cases K with
    |false=>
     have HN:Hid (R=(false,acc)):=by show _=_;rw [←hf.out];simp
     clear hf
     go_wp2_with (go_at_call 236;refine HC'.out.mono ?_;rintro e w4 ⟨v4,rfl,hv4,b4⟩;obtain ⟨q4,c4,us4,hq4,_,_⟩:=hv4.at;subst hq4)
     go_ret2
     exact ⟨_,by rw [HN.out];rfl,by rw [HN.out];exact hacc.below b4,hbr.trans (b4.mono hbr.size)⟩
    |true=>
     have hDne:=hne rfl
     have HN:Hid (foldS (ws.drop (k+1)) (acc++D)=R):=by show _=_;rw [←hf.out,if_pos rfl]
     have hlo:w.heap.size≤wr.heap.size:=hbr.size
     have hrow: ∀ j,Value.ownBlock (.slice qv acc.length cv)=some j→w.heap.size≤j:=fun j hj=>by
      obtain ⟨ys,us,h1,_,_⟩:=hacc
      rcases h1.2 with ⟨h,_⟩|⟨g,cap,cur,h,hg,_⟩
      ·rw [h] at hj;simp [Value.ownBlock] at hj
      ·rw [h] at hj;simp [Value.ownBlock] at hj;omega
     have HAP:Hid (∀ w4 v4,Below wr.heap.size wr w4→CmpsOwn wr.heap.size w4 v4 D→∃ (ys ys':List Value) (g cap:Nat),w4.ownsRow w.heap.size 214 5 (.slice qv acc.length cv) acc.length ys∧v4=.slice (some ⟨g,0,none⟩) D.length cap∧ys'.length=D.length*5∧(∀ j u,ys'[j]?=some u→w4.cell? ((⟨g,0,none⟩:Addr).add j)=some u)∧(∀ u∈ys',u.oneCell'=true)∧∀ w2 v2,w2.ownsRow w.heap.size 214 5 v2 (acc.length+D.length) (ys++ys')→w4.grownBy w2 (Value.ownBlock (.slice qv acc.length cv))→CmpsOwn w.heap.size w2 v2 (acc++D)):=fun w4 v4 b4 h4=>hacc.app hlo b4 h4 hDne
     have HRW:Hid (∀ j,Value.ownBlock (.slice qv acc.length cv)=some j→w.heap.size≤j):=hrow
     clear hf hne hrow hacc
     go_wp2_with (first|(go_at_call 236;refine HC'.out.mono ?_;rintro e w4 ⟨v4,rfl,hv4,b4⟩;obtain ⟨ys,ys',g,cap,o4,hv,hly,hnw,hon,happ⟩:=HAP.out w4 v4 b4 hv4;subst hv;have HNW:Hid (∀ j u,ys'[j]?=some u→w4.cell? ((⟨g,0,none⟩:Addr).add j)=some u):=hnw;have HON:Hid (∀ u∈ys',u.oneCell'=true):=hon;have HAPP:Hid (∀ w2 v2,w2.ownsRow w.heap.size 214 5 v2 (acc.length+D.length) (ys++ys')→w4.grownBy w2 (Value.ownBlock (.slice qv acc.length cv))→CmpsOwn w.heap.size w2 v2 (acc++D)):=happ;clear hnw hon happ hv4)|(at_builtin;refine wpList_append_own _ rfl _ _ 203 rfl w.heap.size 214 i0 _ 5 56 Tryz.underlying203 hi hz0 hz1 hz2 rfl (by decide) (.slice qv acc.length cv) acc.length ys rfl o4 ⟨g,0,none⟩ D.length cap ys' rfl hly HNW.out HON.out (by unfold maxLen;omega) (by omega) (Nat.le_trans hlo b4.size) ?_))
     intro v2 w2 o2 gr2 _
     have kx:=hbr.trans (b4.mono hlo)
     have k2:=below_turned kx gr2 kx.size HRW.out
     have hown:=HAPP.out w2 v2 o2 gr2
     clear HAPP HNW HON HAP o4 o2 gr2
     go_wp2_with fail
     go_roundw
     case rel=>exact ⟨k+1,acc++D,by omega,by go_num,hown,by rw [List.length_append];omega,HN,k2⟩
     case measure=>simp [intOf];omega
   ·have he:k=ws.length:=by omega
    subst he
    have HN:Hid (R=(decide (acc.length≤4),acc)):=by show _=_;rw [←hf.out,List.drop_length,foldS]
    have hdc:decide ((acc.length:Int)≤4)=decide (acc.length≤4):=by by_cases h:acc.length≤4<;>simp [h]<;>omega
    clear hf hcell hsz
    go_wp2_with fail
    go_ret2
    exact ⟨_,by rw [HN.out];simp [hdc];rfl,by rw [HN.out];exact hacc,hbr⟩
def bothD (x y:ByteArray):List CmpD:=[⟨4,resN x 0,resN x 1,resN x 2,resP x⟩,⟨2,resN y 0,resN y 1,resN y 2,resP y⟩]
def listS (ws:List ByteArray):Bool × List CmpD:=
 if ws.length=3∧ws.getD 1 ⟨#[]⟩=⟨#[45]⟩ then (betweenOk (ws.getD 0 ⟨#[]⟩) (ws.getD 2 ⟨#[]⟩),bothD (ws.getD 0 ⟨#[]⟩) (ws.getD 2 ⟨#[]⟩)) else foldS ws []
theorem foldS_more : ∀ (ws:List ByteArray) (acc:List CmpD),∃ more,(foldS ws acc).2=acc++more
 |[],acc=>⟨[],by simp [foldS]⟩
 |x::ws,acc=>by
  rw [foldS]
  split
  ·obtain ⟨m,h⟩:=foldS_more ws (acc++wordD x)
   exact ⟨wordD x++m,by rw [h,List.append_assoc]⟩
  ·exact ⟨[],by simp⟩
theorem foldS_four : ∀ (ws:List ByteArray) (acc:List CmpD),(foldS ws acc).1=true→(foldS ws acc).2.length≤4
 |[],acc=>fun h=>by simpa [foldS] using h
 |x::ws,acc=>fun h=>by
  rw [foldS] at h ⊢
  split
  ·rename_i hw
   rw [if_pos hw] at h
   exact foldS_four ws _ h
  ·rename_i hw
   rw [if_neg hw] at h
   simp at h
theorem word_both (x:ByteArray):wordOk x=(wordS x&&(wordD x).all goodD):=by
 unfold wordOk wordS
 by_cases h:x=⟨#[42]⟩
 ·subst h
  have e:wordD ⟨#[42]⟩=[⟨4,0,0,0,[]⟩]:=by simp [wordD]
  rw [e]
  decide+kernel
 ·simp [h]
theorem fold_same : ∀ (ws:List ByteArray) (acc:List CmpD),acc.length≤4→acc.all goodD=true→foldW ws acc=if (foldS ws acc).1&&(foldS ws acc).2.all goodD then some (foldS ws acc).2 else none
 |[],acc=>fun h1 h2=>by
  have e:foldS [] acc=(true,acc):=by rw [foldS,decide_eq_true h1]
  rw [foldW,e,h2];rfl
 |x::ws,acc=>fun h1 h2=>by
  rw [foldW,word_both]
  cases hs:wordS x with
  |false=>
   have e:foldS (x::ws) acc=(false,acc):=by rw [foldS,hs];rfl
   rw [e];simp
  |true=>
   have e:foldS (x::ws) acc=foldS ws (acc++wordD x):=by rw [foldS,if_pos hs]
   rw [e]
   cases hg:(wordD x).all goodD with
   |false=>
    obtain ⟨m,hm⟩:=foldS_more ws (acc++wordD x)
    have:(foldS ws (acc++wordD x)).2.all goodD=false:=by rw [hm,List.all_append,List.all_append,hg];simp
    rw [this];simp
   |true=>
    by_cases h4:acc.length+(wordD x).length≤4
    ·rw [if_pos ⟨rfl,h4⟩]
     exact fold_same ws _ (by rw [List.length_append];exact h4) (by rw [List.all_append,h2,hg];rfl)
    ·rw [if_neg (fun h=>h4 h.2)]
     cases hf:(foldS ws (acc++wordD x)).1 with
     |false=>rfl
     |true=>
      obtain ⟨m,hm⟩:=foldS_more ws (acc++wordD x)
      have:=foldS_four ws _ hf
      rw [hm] at this
      simp at this
      omega
theorem list_same (ws:List ByteArray):listC ws=if (listS ws).1&&(listS ws).2.all goodD then some (listS ws).2 else none:=by
 unfold listC listS
 by_cases h:ws.length=3∧ws.getD 1 ⟨#[]⟩=⟨#[45]⟩
 ·rw [if_pos h,if_pos h]
  generalize ws.getD 0 ⟨#[]⟩=x
  generalize ws.getD 2 ⟨#[]⟩=y
  dsimp only
  cases hb:betweenOk x y with
  |false=>simp
  |true=>
   have hb':resOk x=true∧resOk y=true:=by simpa [betweenOk] using hb
   have hall:(bothD x y).all goodD=true:=by simp [bothD,goodD,bk_ver x hb'.1,bk_ver y hb'.2]
   rw [hall]
   simp [betweenD,hb,bothD]
 ·rw [if_neg h,if_neg h]
  exact fold_same ws [] (by simp) rfl
theorem l4ListB_c (ws:List ByteArray) (hsz: ∀ x∈ws,x.size≤1048576) (h3:ws.length=3) (hd:ws.getD 1 ⟨#[]⟩=⟨#[45]⟩) (v:Value) (w:World) (hv:Reads w v (strsV ws)):
  Calls Tryz.prog 166 #[v] w fun e w'=>∃ v',e=.returned (.tuple #[v',.bool (betweenOk (ws.getD 0 ⟨#[]⟩) (ws.getD 2 ⟨#[]⟩))])∧CmpsOwn w.heap.size w' v' (bothD (ws.getD 0 ⟨#[]⟩) (ws.getD 2 ⟨#[]⟩))∧Below w.heap.size w w':=by
 have hgd: ∀ k (h:k<ws.length),ws.getD k ⟨#[]⟩=ws[k]:=fun k h=>by simp [List.getD_eq_getElem?_getD,h]
 obtain ⟨qw,cw,rfl,hcw,hc3⟩:=reads_strs hv
 rcases hc3 with hw0|⟨bq,off,rfl,hbq,hcell⟩
 ·rw [hw0] at h3;simp at h3
 have c0:w.cell? ⟨bq,off,none⟩=some (.string ws[0]):=hcell 0 (by omega)
 have c1:=hcell 1 (by omega)
 have c2:=hcell 2 (by omega)
 rw [hgd 1 (by omega)] at hd
 rw [hd] at c1
 rw [hgd 0 (by omega),hgd 2 (by omega)]
 have z0:=hsz ws[0] (List.getElem_mem _)
 have z2:=hsz ws[2] (List.getElem_mem _)
 obtain ⟨x0,hx0⟩: ∃ x,x=ws[0]:=⟨_,rfl⟩
 obtain ⟨x2,hx2⟩: ∃ x,x=ws[2]:=⟨_,rfl⟩
 rw [←hx0] at c0 z0
 rw [←hx2] at c2 z2
 rw [←hx0, ←hx2]
 have h3':((ws.length:Int) == 3)=true:=by simp [h3]
 have hi0:(0:Int)<(ws.length:Int):=by omega
 have hi1:(1:Int)<(ws.length:Int):=by omega
 have hi2:(2:Int)<(ws.length:Int):=by omega
 have HP0:=specParse_o x0 z0
 have HP2:=specParse_o x2 z2
 unfold verOut at HP0 HP2
 unfold betweenOk bothD
 obtain ⟨a0,ha0⟩: ∃ y,y=resN x0 0:=⟨_,rfl⟩
 obtain ⟨b0,hb0⟩: ∃ y,y=resN x0 1:=⟨_,rfl⟩
 obtain ⟨e0,he0⟩: ∃ y,y=resN x0 2:=⟨_,rfl⟩
 obtain ⟨p0,hp0⟩: ∃ y,y=resP x0:=⟨_,rfl⟩
 obtain ⟨k0,hk0⟩: ∃ y,y=resOk x0:=⟨_,rfl⟩
 obtain ⟨a2,ha2⟩: ∃ y,y=resN x2 0:=⟨_,rfl⟩
 obtain ⟨b2,hb2⟩: ∃ y,y=resN x2 1:=⟨_,rfl⟩
 obtain ⟨e2,he2⟩: ∃ y,y=resN x2 2:=⟨_,rfl⟩
 obtain ⟨p2,hp2⟩: ∃ y,y=resP x2:=⟨_,rfl⟩
 obtain ⟨k2,hk2⟩: ∃ y,y=resOk x2:=⟨_,rfl⟩
 rw [←ha0, ←hb0, ←he0, ←hp0, ←hk0] at HP0
 rw [←ha2, ←hb2, ←he2, ←hp2, ←hk2] at HP2
 rw [←ha0, ←hb0, ←he0, ←hp0, ←hk0, ←ha2, ←hb2, ←he2, ←hp2, ←hk2]
 clear ha0 hb0 he0 hp0 hk0 ha2 hb2 he2 hp2 hk2 hsz hgd hd hx0 hx2 hcell hv z0 z2 h3
 have hA: ∀ o,Below w.heap.size w (w.alloc o):=fun o=>(Below.refl _ _).alloc (Nat.le_refl _) _
 have c0':(w.alloc (.cells #[] 214)).cell? ⟨bq,off,none⟩=some (.string x0):=((hA _).cell (p:=⟨bq,off,none⟩) hbq).trans c0
 have c1':(w.alloc (.cells #[] 214)).cell? ⟨bq,off+1,none⟩=some (.string ⟨#[45]⟩):=((hA _).cell (p:=⟨bq,off+1,none⟩) hbq).trans c1
 have H0:Hid (∀ w1,Calls Tryz.prog 128 #[.string x0] w1 fun e w'=>∃ u,e=.returned (.tuple #[.agg #[.int .i64 a0,.int .i64 b0,.int .i64 e0,u],.bool k0])∧w'.ownsRow w1.heap.size 9 1 u p0.length (strsV p0)∧Below w1.heap.size w1 w'):=HP0
 have H2:Hid (∀ w1,Calls Tryz.prog 128 #[.string x2] w1 fun e w'=>∃ u,e=.returned (.tuple #[.agg #[.int .i64 a2,.int .i64 b2,.int .i64 e2,u],.bool k2])∧w'.ownsRow w1.heap.size 9 1 u p2.length (strsV p2)∧Below w1.heap.size w1 w'):=HP2
 clear HP0 HP2
 go_enter Tryz.func166,Tryz.ntmps166
 go_wp2_with fail
 go_at_call 128
 refine (H0.out _).mono ?_
 rintro e w1 ⟨u0,rfl,ou0,b1⟩
 obtain ⟨q0,n0,d0,hu0⟩: ∃ q n c,u0=.slice q n c:=by rcases ou0.2 with ⟨rfl,_⟩|⟨g,cap,cur,rfl,_⟩<;>exact ⟨_,_,_,rfl⟩
 subst hu0
 have k1:=(hA (.cells #[] 214)).trans (b1.mono (hA (.cells #[] 214)).size)
 have F1:=four_new w1 30 (.int .i64 a0) (.int .i64 b0) (.int .i64 e0) (.slice q0 n0 d0)
 have hB:Below w1.heap.size w1 (w1.alloc (.cells #[.int .i64 a0,.int .i64 b0,.int .i64 e0,.slice q0 n0 d0] 30)):=(Below.refl _ _).alloc (Nat.le_refl _) _
 have kB:=k1.trans (hB.mono k1.size)
 have c2':=(kB.cell (p:=⟨bq,off+2,none⟩) hbq).trans c2
 have ou1:=owns_of_below ou0 hB
 go_wp2_with fail
 generalize (w1.alloc (.cells #[.int .i64 a0,.int .i64 b0,.int .i64 e0,.slice q0 n0 d0] 30))=W2 at F1 hB kB c2' ou1 ⊢
 go_at_call 128
 refine (H2.out _).mono ?_
 rintro e w3 ⟨u2,rfl,ou2,b3⟩
 obtain ⟨q2,n2,d2,hu2⟩: ∃ q n c,u2=.slice q n c:=by rcases ou2.2 with ⟨rfl,_⟩|⟨g,cap,cur,rfl,_⟩<;>exact ⟨_,_,_,rfl⟩
 subst hu2
 have F3:=F1.keep b3
 have hC:Below w3.heap.size w3 (w3.alloc (.cells #[.int .i64 a2,.int .i64 b2,.int .i64 e2,.slice q2 n2 d2] 30)):=(Below.refl _ _).alloc (Nat.le_refl _) _
 have k3:=kB.trans (b3.mono kB.size)
 have k4:=k3.trans (hC.mono k3.size)
 have ouA:=owns_of_below (owns_of_below ou1 b3) hC
 have ouB:=owns_of_below ou2 hC
 have hs0:w.heap.size≤(w.alloc (.cells #[] 214)).heap.size:=(hA _).size
 have hne:Value.ownBlock (.slice q0 n0 d0)=Value.ownBlock (.slice q2 n2 d2)→Value.ownBlock (.slice q0 n0 d0)=none:=fun he=>by
  cases hk:Value.ownBlock (.slice q0 n0 d0) with
  |none=>rfl
  |some j=>
   have h1:=(ou1.lt j hk).2
   rw [he] at hk
   have h2:=(ou2.lt j hk).1
   omega
 obtain ⟨y0,y1,y2,y3⟩:=(F3.keep hC).cells
 obtain ⟨z0,z1,z2,z3⟩:=F3.cells
 have HT:Hid (CmpsOwn w.heap.size ((w3.alloc (.cells #[.int .i64 a2,.int .i64 b2,.int .i64 e2,.slice q2 n2 d2] 30)).alloc (.cells #[.int .i64 4,.int .i64 a0,.int .i64 b0,.int .i64 e0,.slice q0 n0 d0,.int .i64 2,.int .i64 a2,.int .i64 b2,.int .i64 e2,.slice q2 n2 d2] 214)) (.slice (some ⟨w3.heap.size+1,0,none⟩) 2 2) [⟨4,a0,b0,e0,p0⟩,⟨2,a2,b2,e2,p2⟩]):=two_own ⟨4,a0,b0,e0,p0⟩ ⟨2,a2,b2,e2,p2⟩ (by simp) k4.size (owns_base ouA hs0) (owns_base ouB kB.size) hne
 have HB:Hid (∀ o,Below w.heap.size w ((w3.alloc (.cells #[.int .i64 a2,.int .i64 b2,.int .i64 e2,.slice q2 n2 d2] 30)).alloc o)):=fun o=>k4.alloc k4.size _
 clear hne ouA ouB ou0 ou1 ou2 F1 F3 hB hC kB k3 b1 b3
 cases k0 with
 |true=>
  go_wp2_with fail
  go_ret2
  exact ⟨_,rfl,HT.out,HB.out _⟩
 |false=>
  go_wp2_with fail
  go_ret2
  exact ⟨_,rfl,HT.out,HB.out _⟩
theorem l4List_c (ws:List ByteArray) (hL:ws.length≤1048577) (hsz: ∀ x∈ws,x.size≤1048576) (hL0:0<ws.length) (v:Value) (w:World) (hv:Reads w v (strsV ws)):
  Calls Tryz.prog 166 #[v] w fun e w'=>∃ v',e=.returned (.tuple #[v',.bool (listS ws).1])∧CmpsOwn w.heap.size w' v' (listS ws).2∧Below w.heap.size w w':=by
 by_cases hb:ws.length=3∧ws.getD 1 ⟨#[]⟩=⟨#[45]⟩
 ·have e:listS ws=(betweenOk (ws.getD 0 ⟨#[]⟩) (ws.getD 2 ⟨#[]⟩),bothD (ws.getD 0 ⟨#[]⟩) (ws.getD 2 ⟨#[]⟩)):=if_pos hb
  rw [e]
  exact l4ListB_c ws hsz hb.1 hb.2 v w hv
 ·have e:listS ws=foldS ws []:=if_neg hb
  rw [e]
  exact l4ListF_c ws hL hsz hb hL0 v w hv
def trimLGo :Nat→ByteArray→ByteArray
 |0,t=>t
 |f+1,t=>if h:0<t.size then (if ((t[0]'(by omega)).toNat:Int)=32 then trimLGo f (t.extract 1 t.size) else t) else t
def trimLS (s:ByteArray):ByteArray:=trimLGo s.size s
theorem trimL_step {t:ByteArray} (h:0<t.size) (hb:((t[0]'(by omega)).toNat:Int)=32):trimLS t=trimLS (t.extract 1 t.size):=by
 have hs:(t.extract 1 t.size).size=t.size-1:=by rw [ByteArray.size_extract];omega
 obtain ⟨f,hf⟩: ∃ f,t.size=f+1:=⟨t.size-1,by omega⟩
 rw [trimLS,trimLS,hs,show t.size-1=f by omega]
 conv=>lhs;rw [hf]
 rw [trimLGo,dif_pos h,if_pos hb]
theorem trimL_stop {t:ByteArray} (h: ∀ h:0<t.size,¬((t[0]'(by omega)).toNat:Int)=32):trimLS t=t:=by
 rw [trimLS]
 cases hf:t.size with
 |zero=>rfl
 |succ f=>rw [trimLGo,dif_pos (by omega),if_neg (h (by omega))]
theorem trimL_c (s:ByteArray) (hs:s.size≤1099511627776) (w:World):
  Calls Tryz.prog 224 #[.string s,.int .u8 32] w fun e w'=>e=.returned (.string (trimLS s))∧w=w':=by
 go_enter Tryz.func224,Tryz.ntmps224
 go_wp2_with fail
 go_loop [0] (fun v0=>∃ t:ByteArray,v0=.string t∧t.size≤1099511627776∧Hid (trimLS t=trimLS s)) (fun v0=>match v0 with| .string t=>t.size|_=>0)
 case atStart=>exact ⟨s,rfl,hs,rfl⟩
 case round=>
  obtain ⟨t,rfl,ht,hh⟩:=hrel
  by_cases h0:0<t.size
  ·have h0':(0:Int)<(t.size:Int):=by omega
   by_cases hb:((t[0]'(by omega)).toNat:Int)=32
   ·have HN:Hid (trimLS (t.extract 1 t.size)=trimLS s):=by show _=_;rw [←hh.out,trimL_step h0 hb]
    have hb':(((t[0]'(by omega)).toNat:Int) == 32)=true:=by simpa using hb
    clear hh hb
    go_wp2_with fail
    go_round
    case rel=>exact ⟨_,rfl,by rw [ByteArray.size_extract];omega,HN⟩
    case measure=>simp;omega
   ·have HN:Hid (trimLS s=t):=by show _=_;rw [←hh.out];exact trimL_stop (fun _=>hb)
    have hb':(((t[0]'(by omega)).toNat:Int) == 32)=false:=by simpa using hb
    clear hh hb
    go_wp2_with fail
    go_ret
    exact ⟨by rw [HN.out];rfl,rfl⟩
  ·have h0': ¬(0:Int)<(t.size:Int):=by omega
   have HN:Hid (trimLS s=t):=by show _=_;rw [←hh.out];exact trimL_stop (fun h=>absurd h h0)
   clear hh
   go_wp2_with fail
   go_ret
   exact ⟨by rw [HN.out];rfl,rfl⟩
def trimRGo :Nat→ByteArray→ByteArray
 |0,t=>t
 |f+1,t=>if h:0<t.size then (if ((t[t.size-1]'(by omega)).toNat:Int)=32 then trimRGo f (t.extract 0 (t.size-1)) else t) else t
def trimRS (s:ByteArray):ByteArray:=trimRGo s.size s
theorem trimR_step {t:ByteArray} (h:0<t.size) (hb:((t[t.size-1]'(by omega)).toNat:Int)=32):trimRS t=trimRS (t.extract 0 (t.size-1)):=by
 have hs:(t.extract 0 (t.size-1)).size=t.size-1:=by rw [ByteArray.size_extract];omega
 obtain ⟨f,hf⟩: ∃ f,t.size=f+1:=⟨t.size-1,by omega⟩
 rw [trimRS,trimRS,hs,show t.size-1=f by omega]
 conv=>lhs;rw [hf]
 rw [trimRGo,dif_pos h,if_pos hb]
 rw [show t.size-1=f by omega]
theorem trimR_stop {t:ByteArray} (h: ∀ h:0<t.size,¬((t[t.size-1]'(by omega)).toNat:Int)=32):trimRS t=t:=by
 rw [trimRS]
 cases hf:t.size with
 |zero=>rfl
 |succ f=>rw [trimRGo,dif_pos (by omega),if_neg (h (by omega))]
theorem trimR_c (s:ByteArray) (hs:s.size≤1099511627776) (w:World):
  Calls Tryz.prog 225 #[.string s,.int .u8 32] w fun e w'=>e=.returned (.string (trimRS s))∧w=w':=by
 go_enter Tryz.func225,Tryz.ntmps225
 go_wp2_with fail
 go_loop [0] (fun v0=>∃ t:ByteArray,v0=.string t∧t.size≤1099511627776∧Hid (trimRS t=trimRS s)) (fun v0=>match v0 with| .string t=>t.size|_=>0)
 case atStart=>exact ⟨s,rfl,hs,rfl⟩
 case round=>
  obtain ⟨t,rfl,ht,hh⟩:=hrel
  by_cases h0:0<t.size
  ·have h0':(0:Int)<(t.size:Int):=by omega
   by_cases hb:((t[t.size-1]'(by omega)).toNat:Int)=32
   ·have HN:Hid (trimRS (t.extract 0 (t.size-1))=trimRS s):=by show _=_;rw [←hh.out,trimR_step h0 hb]
    have hb':(((t[t.size-1]'(by omega)).toNat:Int) == 32)=true:=by simpa using hb
    have hm1:(t.size:Int)-1=((t.size-1:Nat):Int):=by omega
    have hm2:((t.size-1:Nat):Int)<(t.size:Int):=by omega
    clear hh hb
    go_wp2_with fail
    go_round
    case rel=>exact ⟨_,rfl,by rw [ByteArray.size_extract];omega,HN⟩
    case measure=>simp;omega
   ·have HN:Hid (trimRS s=t):=by show _=_;rw [←hh.out];exact trimR_stop (fun _=>hb)
    have hb':(((t[t.size-1]'(by omega)).toNat:Int) == 32)=false:=by simpa using hb
    have hm1:(t.size:Int)-1=((t.size-1:Nat):Int):=by omega
    have hm2:((t.size-1:Nat):Int)<(t.size:Int):=by omega
    clear hh hb
    go_wp2_with fail
    go_ret
    exact ⟨by rw [HN.out];rfl,rfl⟩
  ·have h0': ¬(0:Int)<(t.size:Int):=by omega
   have HN:Hid (trimRS s=t):=by show _=_;rw [←hh.out];exact trimR_stop (fun h=>absurd h h0)
   clear hh
   go_wp2_with fail
   go_ret
   exact ⟨by rw [HN.out];rfl,rfl⟩
theorem trimR_size (s:ByteArray):(trimRS s).size≤s.size:=by
 have h: ∀ f t,(trimRGo f t).size≤t.size:=fun f=>by
  induction f with
  |zero=>intro t;exact Nat.le_refl _
  |succ f ih=>
   intro t
   rw [trimRGo]
   split
   ·split
    ·refine Nat.le_trans (ih _) ?_
     rw [ByteArray.size_extract];omega
    ·exact Nat.le_refl _
   ·exact Nat.le_refl _
 exact h _ _
theorem trimL_size (s:ByteArray):(trimLS s).size≤s.size:=by
 have h: ∀ f t,(trimLGo f t).size≤t.size:=fun f=>by
  induction f with
  |zero=>intro t;exact Nat.le_refl _
  |succ f ih=>
   intro t
   rw [trimLGo]
   split
   ·split
    ·refine Nat.le_trans (ih _) ?_
     rw [ByteArray.size_extract];omega
    ·exact Nat.le_refl _
   ·exact Nat.le_refl _
 exact h _ _
def trimS (s:ByteArray):ByteArray:=trimLS (trimRS s)
theorem trimS_size (s:ByteArray):(trimS s).size≤s.size:=Nat.le_trans (trimL_size _) (trimR_size _)
theorem trim_c (s:ByteArray) (hs:s.size≤1099511627776) (w:World):
  Calls Tryz.prog 160 #[.string s,.string ⟨#[32]⟩] w fun e w'=>e=.returned (.string (trimS s))∧Below w.heap.size w w':=by
 by_cases h0:s=⟨#[]⟩
 ·subst h0
  have e:trimS ⟨#[]⟩=⟨#[]⟩:=rfl
  rw [e]
  clear e
  go_enter Tryz.func160,Tryz.ntmps160
  go_wp2_with fail
  go_ret
  exact ⟨rfl,Below.refl _ _⟩
 ·have hsb:(s.toList == [])=false:=by rw [beq_eq_false_iff_ne];intro h;exact h0 (bytes_eq_of_toList (by rw [h,ByteArray.toList_eq]))
  have HR:Hid (∀ w1,Calls Tryz.prog 225 #[.string s,.int .u8 32] w1 fun e w'=>e=.returned (.string (trimRS s))∧w1=w'):=fun w1=>trimR_c s hs w1
  have HL:Hid (∀ w1,Calls Tryz.prog 224 #[.string (trimRS s),.int .u8 32] w1 fun e w'=>e=.returned (.string (trimS s))∧w1=w'):=fun w1=>trimL_c _ (Nat.le_trans (trimR_size s) hs) w1
  clear h0
  go_enter Tryz.func160,Tryz.ntmps160
  go_wp2_with fail
  refine wp_region_held_drew (S:=(fun _=>True)) (by kernel_rfl) ?SR10 (fun hHeld=>?_)
  case SR10=>(first|done|exact True.intro)
  refine tk 0 hHeld (h:=?_)
  refine tk 1 hHeld (h:=?_)
  refine tk 2 hHeld (h:=?_)
  refine tk 4 hHeld (h:=?_)
  refine tk 5 hHeld (h:=?_)
  refine wpAnyH_ready (rs:=[3]) (by kernel_rfl) (by simp) ?_
  refine AllReadyH.cons rfl (fun K hK=>?_) AllReadyH.nil
  go_simp
  go_wp2_with (go_at_call 225;refine (HR.out _).mono ?_;rintro e w1 ⟨rfl,rfl⟩)
  clear hHeld
  refine hK.out _ _ ?SR16 (fun hHeld=>?_)
  case SR16=>((try dsimp only);first|done|exact True.intro)
  clear hK K
  refine wpAnyH_ready (rs:=[6]) (by kernel_rfl) (by simp) ?_
  refine AllReadyH.cons rfl (fun K hK=>?_) AllReadyH.nil
  go_simp
  go_wp2_with (go_at_call 224;refine (HL.out _).mono ?_;rintro e w2 ⟨rfl,rfl⟩)
  clear hHeld
  refine hK.out _ _ ?SR17 (fun hHeld=>?_)
  case SR17=>((try dsimp only);first|done|exact True.intro)
  clear hK K
  refine tk 7 hHeld (h:=?_)
  refine wpAnyH_done (by kernel_rfl) ?_ _
  go_wp2_with fail
  go_ret
  exact ⟨rfl,(Below.refl _ _).drew⟩
end Go.Proofs.YtlfmefojcmpfeaaGreatDoor
namespace Go.Proofs
open Go.Shelf
def Tryz.lays146_ren :Go.Shelf.Ren:=⟨fun|146=>158|221=>220|268=>269|138=>270|143=>271|195=>297|197=>279|218=>298|219=>291|260=>306|217=>299|225=>315|224=>316|267=>317|266=>323|314=>326|n=>n,fun|9=>9|31=>28|3=>3|4=>4|0=>0|105=>319|21=>21|5=>5|46=>226|119=>360|139=>363|138=>362|146=>364|51=>282|n=>n,fun|1=>2|3=>3|4=>4|n=>n⟩
theorem Tryz.lays146 : Go.Proofs.Lays.n146 Tryz.prog Tryz.lays146_ren := {
  mixed := by kernel_rfl
  f138 := Tryz.func270.trans (congrArg some (by kernel_rfl))
  f143 := Tryz.func271.trans (congrArg some (by kernel_rfl))
  f146 := Tryz.func158.trans (congrArg some (by kernel_rfl))
  f195 := Tryz.func297.trans (congrArg some (by kernel_rfl))
  f197 := Tryz.func279.trans (congrArg some (by kernel_rfl))
  f217 := Tryz.func299.trans (congrArg some (by kernel_rfl))
  f218 := Tryz.func298.trans (congrArg some (by kernel_rfl))
  f219 := Tryz.func291.trans (congrArg some (by kernel_rfl))
  f221 := Tryz.func220.trans (congrArg some (by kernel_rfl))
  f224 := Tryz.func316.trans (congrArg some (by kernel_rfl))
  f225 := Tryz.func315.trans (congrArg some (by kernel_rfl))
  f260 := Tryz.func306.trans (congrArg some (by kernel_rfl))
  f266 := Tryz.func323.trans (congrArg some (by kernel_rfl))
  f267 := Tryz.func317.trans (congrArg some (by kernel_rfl))
  f268 := Tryz.func269.trans (congrArg some (by kernel_rfl))
  f314 := Tryz.func326.trans (congrArg some (by kernel_rfl))
  t0 := Tryz.underlying0
  a0 := Tryz.isAgg0
  z0 := Tryz.sizeOf0
  v0 := Tryz.zeroValue0
  t3 := Tryz.underlying3
  a3 := Tryz.isAgg3
  z3 := Tryz.sizeOf3
  v3 := Tryz.zeroValue3
  t4 := Tryz.underlying4
  a4 := Tryz.isAgg4
  z4 := Tryz.sizeOf4
  v4 := Tryz.zeroValue4
  t5 := Tryz.underlying5
  a5 := Tryz.isAgg5
  z5 := Tryz.sizeOf5
  v5 := Tryz.zeroValue5
  t9 := Tryz.underlying9
  a9 := Tryz.isAgg9
  z9 := Tryz.sizeOf9
  v9 := Tryz.zeroValue9
  t21 := Tryz.underlying21
  a21 := Tryz.isAgg21
  z21 := Tryz.sizeOf21
  v21 := Tryz.zeroValue21
  t31 := Tryz.underlying28
  a31 := Tryz.isAgg28
  z31 := Tryz.sizeOf28
  v31 := Tryz.zeroValue28
  t46 := Tryz.underlying226
  a46 := Tryz.isAgg226
  z46 := Tryz.sizeOf226
  v46 := Tryz.zeroValue226
  t51 := Tryz.underlying282
  a51 := Tryz.isAgg282
  z51 := Tryz.sizeOf282
  v51 := Tryz.zeroValue282
  t105 := Tryz.underlying319
  a105 := Tryz.isAgg319
  z105 := Tryz.sizeOf319
  v105 := Tryz.zeroValue319
  t119 := Tryz.underlying360
  a119 := Tryz.isAgg360
  z119 := Tryz.sizeOf360
  t138 := Tryz.underlying362
  a138 := Tryz.isAgg362
  z138 := Tryz.sizeOf362
  v138 := Tryz.zeroValue362
  t139 := Tryz.underlying363
  a139 := Tryz.isAgg363
  z139 := Tryz.sizeOf363
  v139 := Tryz.zeroValue363
  t146 := Tryz.underlying364
  a146 := Tryz.isAgg364
  z146 := Tryz.sizeOf364
  v146 := Tryz.zeroValue364
  g1 := by kernel_rfl
  g3 := by kernel_rfl
  g4 := by kernel_rfl }
open Go.RowKit Go.Lib in
theorem Tryz.strings_Split (s sep:ByteArray) (m:Int) (w:World) (hs:s.size<4294967281) (hm:w.cell? ⟨2,0,none⟩=some (.int .i64 m)) (h1:1≤sep.size):
  Calls Tryz.prog 158 #[.string s,.string sep] w fun e w'=>
   e=.returned (.slice (some ⟨w.heap.size,0,none⟩) (Lib.countB s sep+1) (Lib.countB s sep+1))∧w'=w.alloc (.cells ((Lib.splitB sep 0 (Lib.countB s sep) s).map Value.string).toArray 9):=Any.strings_Split Tryz.lays146 (by kernel_rfl) s sep m w hs hm h1
end Go.Proofs
