/-
  Contracts for the walks and pure facts, several texts in one: each theorem says what it proves, and under which conditions.
-/
import Derived.Test.YtlfmefojcmpfeaaGreatDoorUT
import Derived.Test.YtlfmefojcmpfeaaGreatDoorU21
import Derived.Test.YtlfmefojcmpfeaaGreatDoorU45
import Derived.Test.YtlfmefojcmpfeaaGreatDoorU46
import Derived.Test.YtlfmefojcmpfeaaGreatDoorU47
set_option linter.unusedSimpArgs false
set_option linter.unusedVariables false
set_option maxHeartbeats 16000000
set_option maxRecDepth 100000
namespace Go.Proofs.YtlfmefojcmpfeaaGreatDoor
open Go.RowKit
theorem linesP_step (L:List ByteArray): ∀ i (h:i<L.length),linesP (L.take (i+1))=match linesP (L.take i),lineS L[i] with
  |some ps,some p=>some (ps++[p])
  |_,_=>none:=by
 induction L with
 |nil=>intro i h;simp at h
 |cons l r ih=>
  intro i h
  cases i with
  |zero=>
   simp only [List.take_succ_cons,List.take_zero,linesP,List.getElem_cons_zero]
   cases lineS l<;>rfl
  |succ i=>
   have h2:i<r.length:=by simpa using h
   simp only [List.take_succ_cons,linesP,List.getElem_cons_succ]
   have e:=ih i h2
   rw [e]
   cases lineS l with
   |none=>rfl
   |some p=>
    cases linesP (r.take i) with
    |none=>rfl
    |some ps=>cases lineS r[i]<;>rfl
theorem linesP_bad (L:List ByteArray) (i:Nat) (h:i<L.length) (hn:lineS L[i]=none):linesP L=none:=by
 induction L generalizing i with
 |nil=>simp at h
 |cons l r ih=>
  rw [linesP]
  cases i with
  |zero=>rw [List.getElem_cons_zero] at hn;rw [hn]
  |succ i=>
   rw [List.getElem_cons_succ] at hn
   rw [ih i (by simpa using h) hn]
   cases lineS l<;>rfl
theorem lockS_bad (L:List ByteArray) (i:Nat) (h:i+1<L.length) (hn:lineS (L[i]'(by omega))=none):lockS L=none:=by
 unfold lockS
 rw [linesP_bad L.dropLast i (by rw [List.length_dropLast];omega) (by rw [List.getElem_dropLast];exact hn)]
theorem lockS_end (L:List ByteArray) (h:0<L.length) (ps:List PickD) (hp:linesP (L.take (L.length-1))=some ps):lockS L=if (L[L.length-1]'(by omega)).size=0∧picksB ps=true then some ps else none:=by
 unfold lockS
 rw [List.dropLast_eq_take,hp]
 have e:L.getLastD ⟨#[]⟩=L[L.length-1]'(by omega):=by
  rw [List.getLastD_eq_getLast?,List.getLast?_eq_getElem?,List.getElem?_eq_getElem (by omega)]
  rfl
 rw [e]
theorem lineS_two {l n0 t:ByteArray} (h:splitS l 64=[n0,t]):lineS l=if resOk t=true then some (pickT n0 t) else none:=by unfold lineS;rw [h]
theorem lineS_not {l:ByteArray} (h:(splitS l 64).length≠2):lineS l=none:=by
 unfold lineS
 split
 ·rename_i e;rw [e] at h;simp at h
 ·rfl
theorem two_ofL {L:List ByteArray} (h:L.length=2): ∃ a b,L=[a,b]:=by
 match L,h with
 |[a,b],_=>exact ⟨a,b,rfl⟩
theorem specLock_c (s:ByteArray) (hs:s.size≤1048576) (w:World):
  Calls Tryz.prog 47 #[.string s] w fun e w'=>∃ q c,e=.returned (.tuple #[.slice q ((lockR s).getD []).length c,.bool (lockR s).isSome])∧RowOwn shPickO 59 (Ow w.heap.size w'.heap.size) w' (.slice q ((lockR s).getD []).length c) ((lockR s).getD [])∧Below w.heap.size w w':=by
 obtain ⟨i0,hi0,hz0,hz1,hz2⟩:=info_parts infoPick
 have HSP:=fun w1=>specSplit_c s 10 w1 hs
 have hpos:=splitS_pos s 10
 have hln:=splitS_len s 10
 have HPC:=hidden (splitS_piece s 10)
 rw [lock_alike]
 obtain ⟨L,hL⟩: ∃ L,L=splitS s 10:=⟨_,rfl⟩
 rw [←hL] at HSP HPC hpos hln ⊢
 obtain ⟨R,hR⟩: ∃ R,R=lockS L:=⟨_,rfl⟩
 have HSB:Hid (∀ i (h:i+1<L.length),lineS (L[i]'(by omega))=none→R=none):=fun i h hn=>hR.trans (lockS_bad L i h hn)
 have HSE:Hid (∀ ps,linesP (L.take (L.length-1))=some ps→R=if (L[L.length-1]'(by omega)).size=0∧picksB ps=true then some ps else none):=fun ps h=>hR.trans (lockS_end L hpos ps h)
 rw [←hR]
 replace HSP:=hidden HSP
 have he0:(w.alloc (.cells #[] 59)).ownsRow w.heap.size 59 5 (.slice (some ⟨w.heap.size,0,none⟩) 0 0) 0 []:=World.ownsRow_lit w #[] 0 (Nat.le_refl _) (by unfold maxLen;omega) rfl
 clear hL hR
 go_enter Tryz.func47,Tryz.ntmps47
 go_wp2_with fail
 go_at_call 127
 refine (HSP.out _).mono ?_
 rintro e w1 ⟨vl,rfl,ol,b1⟩
 have k1:Below w.heap.size w w1:=((Below.refl _ _).alloc (Nat.le_refl _) _).trans (b1.mono (by simp))
 have HG0:Hid (RowL w.heap.size w1 (.slice (some ⟨w.heap.size,0,none⟩) 0 0) []):=⟨owns_of_belowN he0 b1,fun p hp=>by simp at hp⟩
 replace ol:=owns_lo (lo':=w.heap.size) (by simp) ol
 obtain ⟨gl,cl,hvl⟩: ∃ g cap,vl=.slice (some ⟨g,0,none⟩) L.length cap:=by
  rcases ol.2 with ⟨_,h⟩|⟨g,cap,cur,hv,_⟩
  ·omega
  ·exact ⟨g,cap,hv⟩
 subst hvl
 have HOL:=hidden ol
 obtain ⟨n,hn⟩: ∃ n,n=L.length:=⟨_,rfl⟩
 have HN:=hidden hn
 rw [←hn] at HOL hpos hln ⊢
 have K1:=hidden k1
 clear hn ol b1 he0 HSP k1
 go_wp2_with fail
 go_loopw [4,6] (fun vo vi wr=>∃ (i:Nat) (v:Value) (ps:List LC),i+1≤n∧vi=.int .i64 (i:Int)∧vo=v∧Hid (linesP (L.take i)=some (ps.map LC.d))∧Hid (RowL w.heap.size wr v ps)∧Hid (∀ p∈ps,p.d.name.size≤1048576∧bulkS p.d.vP≤1048576)∧ps.length≤i∧Hid (wr.ownsRow w.heap.size 9 1 (.slice (some ⟨gl,0,none⟩) n cl) n (strsV L))∧Hid (Below w.heap.size w wr)) (fun _ vi _=>n-(intOf vi).toNat)
 case atStart=>exact ⟨0,_,[],hpos,rfl,rfl,(by show _=_;rw [List.take_zero];rfl),HG0,(fun p hp=>by simp at hp),by simp,HOL,K1⟩
 case round=>
  clear HG0 HOL K1
  obtain ⟨wo,hwo⟩: ∃ wo,wo=wr:=⟨_,rfl⟩
  subst hwo
  obtain ⟨i,v,ps,hin,rfl,hvo,hlp,hrow,hps,hpl,hol,HBR⟩:=hrel
  have hbr:=HBR.out
  obtain ⟨qo,co,hv⟩:=owns_sliceL hrow.out.1
  subst hvo
  subst hv
  by_cases hlt:i+1<n
  ·have hki:(i:Int)<(n:Int)-1:=by omega
   have hki2:(i:Int)<(n:Int):=by omega
   have hiL:i+1<L.length:=by rw [←HN.out];exact hlt
   have e0:wo.cell? ⟨gl,i,none⟩=some (.string L[i]):=by
    rw [hol.out.cellAt i (by omega)]
    simp [strsV]
   have hlz:L[i].size≤1048576:=Nat.le_trans (HPC.out _ (List.getElem_mem _)) hs
   have HB1:=hidden (HSB.out i hiL)
   have HST:=hidden (linesP_step L i (by omega))
   rw [hlp.out] at HST
   obtain ⟨l,hl⟩: ∃ l,l=L[i]:=⟨_,rfl⟩
   rw [←hl] at e0 hlz HB1 HST
   have HSW:=fun w1=>specSplit_c l 64 w1 hlz
   have hwz:=splitS_piece l 64
   have HL2:=hidden (fun a b h=>lineS_two (l:=l) (n0:=a) (t:=b) h)
   have HLN:=hidden (fun h=>lineS_not (l:=l) h)
   obtain ⟨W,hW⟩: ∃ W,W=splitS l 64:=⟨_,rfl⟩
   rw [←hW] at HSW hwz HL2 HLN
   replace HSW:=hidden HSW
   clear hl hW hiL
   go_wp2_with fail
   go_at_call 127
   refine (HSW.out _).mono ?_
   rintro e w2 ⟨vw,rfl,ow,b2⟩
   have k2:Below w.heap.size w w2:=hbr.trans (b2.mono hbr.size)
   have hrow2:=hidden (hrow.out.below b2)
   have hol2:=hidden (owns_of_belowN hol.out b2)
   replace ow:=owns_lo (lo':=w.heap.size) hbr.size ow
   clear HSW hrow hol hbr HBR b2 e0
   by_cases h2:W.length=2
   ·obtain ⟨n0,t0,hW2⟩:=two_ofL h2
    subst hW2
    have hn0:n0.size≤1048576:=Nat.le_trans (hwz n0 (by simp)) hlz
    have ht0:t0.size≤1048576:=Nat.le_trans (hwz t0 (by simp)) hlz
    have HLS:=hidden (HL2.out n0 t0 rfl)
    have HPV: ∀ w1,Calls Tryz.prog 128 #[.string t0] w1 fun e w'=>∃ q c,e=.returned (.tuple #[.agg #[.int .i64 (resN t0 0),.int .i64 (resN t0 1),.int .i64 (resN t0 2),.slice q (resP t0).length c],.bool (resOk t0)])∧w'.ownsRow w1.heap.size 9 1 (.slice q (resP t0).length c) (resP t0).length (strsV (resP t0))∧Below w1.heap.size w1 w':=fun w1=>(specParseN_c t0 ht0 w1).mono fun e w' ⟨u,h1,h2,h3⟩=>by
     obtain ⟨q,c,rfl⟩:=owns_sliceL h2
     exact ⟨q,c,h1,h2,h3⟩
    have HBK:=hidden (fun h=>pickT_bulk (t:=t0) h)
    have HPT:Hid (pickT n0 t0=⟨n0,resN t0 0,resN t0 1,resN t0 2,resP t0⟩):=rfl
    obtain ⟨ra,hra⟩: ∃ z,z=resN t0 0:=⟨_,rfl⟩
    obtain ⟨rb,hrb⟩: ∃ z,z=resN t0 1:=⟨_,rfl⟩
    obtain ⟨rc,hrc⟩: ∃ z,z=resN t0 2:=⟨_,rfl⟩
    obtain ⟨rk,hrk⟩: ∃ z,z=resOk t0:=⟨_,rfl⟩
    obtain ⟨rp,hrp2⟩: ∃ z,z=resP t0:=⟨_,rfl⟩
    obtain ⟨Dd,hD⟩: ∃ z,z=pickT n0 t0:=⟨_,rfl⟩
    rw [←hD] at HPT HLS
    simp only [←hra, ←hrb, ←hrc, ←hrk, ←hrp2] at HPV HBK HPT HLS
    obtain ⟨un,hun⟩: ∃ n,n=rp.length:=⟨_,rfl⟩
    have HUN:=hidden hun
    rw [←hun] at HPV
    replace HPV:=hidden HPV
    obtain ⟨gw,cw,hvw⟩: ∃ g cap,vw=.slice (some ⟨g,0,none⟩) 2 cap:=by
     rcases ow.2 with ⟨_,h⟩|⟨g,cap,cur,hv,_⟩
     ·simp at h
     ·exact ⟨g,cap,hv⟩
    subst hvw
    have ow2:w2.ownsRow w.heap.size 9 1 (.slice (some ⟨gw,0,none⟩) 2 cw) 2 (strsV [n0,t0]):=ow
    have HOW:=hidden ow2
    have y0:w2.cell? ⟨gw,0,none⟩=some (.string n0):=by rw [ow2.cellAt 0 (by simp)];rfl
    have y1:w2.cell? ⟨gw,1,none⟩=some (.string t0):=by rw [ow2.cellAt 1 (by simp)];rfl
    clear ow ow2 hra hrb hrc hrk hrp2 hD hun HL2 HLN hwz h2
    go_wp2_with fail
    go_at_call 128
    refine (HPV.out _).mono ?_
    rintro e w3 ⟨uq,uc,rfl,ou,b3⟩
    have k3:Below w.heap.size w w3:=k2.trans (b3.mono k2.size)
    have hrow3:=hidden (hrow2.out.below b3)
    have hol3:=hidden (owns_of_belowN hol2.out b3)
    have how3:=hidden (owns_of_belowN HOW.out b3)
    have HOU:=hidden (owns_lo k2.size ou)
    clear HPV hrow2 hol2 HOW b3 k2 ou y0 y1
    cases rk with
    |false=>
     have hRn:=HB1.out (by rw [HLS.out];rfl)
     subst hRn
     have k4:Below w.heap.size w (w3.alloc (.cells #[.int .i64 ra,.int .i64 rb,.int .i64 rc,.slice uq un uc] 30)):=k3.alloc k3.size _
     clear HSB HSE HB1 HST HLS HBK HPT hrow3 hol3 how3 HOU HUN hlp hps
     go_wp2_with fail
     go_ret2
     have hemp:=World.ownsRow_lit (e:=59) (size:=5) (w3.alloc (.cells #[.int .i64 ra,.int .i64 rb,.int .i64 rc,.slice uq un uc] 30)) #[] 0 k4.size (by unfold maxLen;omega) rfl
     exact ⟨some ⟨w3.heap.size+1,0,none⟩,0,rfl,RowL.own (ps:=[]) ⟨(by first|exact hemp|simpa [flatL] using hemp),fun p hp=>by simp at hp⟩ (fun p hp=>by simp at hp) (by unfold maxLen;simp),k4.alloc k4.size _⟩
    |true=>
     have hbk:=HBK.out rfl
     obtain ⟨W4,hW4⟩: ∃ W,W=w3.alloc (.cells #[.int .i64 ra,.int .i64 rb,.int .i64 rc,.slice uq un uc] 30):=⟨_,rfl⟩
     have b4:Below w3.heap.size w3 W4:=by rw [hW4];exact (Below.refl _ _).alloc (Nat.le_refl _) _
     have bx4:W4.heap[w3.heap.size]?=some (.cells #[.int .i64 ra,.int .i64 rb,.int .i64 rc,.slice uq un uc] 30):=by rw [hW4];exact vheap_new _ _
     have k4:Below w.heap.size w W4:=k3.trans (b4.mono k3.size)
     have b5:Below W4.heap.size W4 (W4.drew.alloc (.cells #[.string n0,.int .i64 ra,.int .i64 rb,.int .i64 rc,.slice uq un uc] 59)):=(Below.refl _ _).drew.alloc (Nat.le_refl _) _
     have b45:Below w3.heap.size w3 (W4.drew.alloc (.cells #[.string n0,.int .i64 ra,.int .i64 rb,.int .i64 rc,.slice uq un uc] 59)):=b4.trans (b5.mono b4.size)
     have KW5:Hid (Below w.heap.size w (W4.drew.alloc (.cells #[.string n0,.int .i64 ra,.int .i64 rb,.int .i64 rc,.slice uq un uc] 59))):=k4.trans (b5.mono k4.size)
     have KEEP:Hid (∀ w',Below W4.heap.size W4 w'→w'.cell? ⟨gw,0,none⟩=some (.string n0)∧w'.cell? ⟨w3.heap.size,0,none⟩=some (.int .i64 ra)∧w'.cell? ⟨w3.heap.size,1,none⟩=some (.int .i64 rb)∧w'.cell? ⟨w3.heap.size,2,none⟩=some (.int .i64 rc)∧w'.cell? ⟨w3.heap.size,3,none⟩=some (.slice uq un uc)):=fun w' h=>by
      have hx:=box_below bx4 h
      have ho:=owns_of_belowN (owns_of_belowN how3.out b4) h
      exact ⟨by rw [ho.cellAt 0 (by simp)];rfl,vblk_cell hx 0,vblk_cell hx 1,vblk_cell hx 2,vblk_cell hx 3⟩
     have hq5:=b5
     have HR5:=hidden (hrow3.out.below b45)
     have HOL5:=hidden (owns_of_belowN hol3.out b45)
     have HOU5:=hidden (owns_of_belowN HOU.out b45)
     have HSRC:Hid (∀ j u,[.string n0,.int .i64 ra,.int .i64 rb,.int .i64 rc,.slice uq un uc][j]?=some u→(W4.drew.alloc (.cells #[.string n0,.int .i64 ra,.int .i64 rb,.int .i64 rc,.slice uq un uc] 59)).cell? ((⟨W4.heap.size,0,none⟩:Addr).add j)=some u):=src_newL W4.drew [.string n0,.int .i64 ra,.int .i64 rb,.int .i64 rc,.slice uq un uc] 59
     have SEND:Hid (∀ w',(W4.drew.alloc (.cells #[.string n0,.int .i64 ra,.int .i64 rb,.int .i64 rc,.slice uq un uc] 59)).grownBy w' (Value.slice qo ps.length co).ownBlock→w'.cell? ⟨gw,0,none⟩=some (.string n0)∧w'.cell? ⟨w3.heap.size,0,none⟩=some (.int .i64 ra)∧w'.cell? ⟨w3.heap.size,1,none⟩=some (.int .i64 rb)∧w'.cell? ⟨w3.heap.size,2,none⟩=some (.int .i64 rc)∧w'.cell? ⟨w3.heap.size,3,none⟩=some (.slice uq un uc)):=fun w' gr=>by
      have hx5:=box_below bx4 b5
      have hx:=(gr.block _ (Array.getElem?_eq_some_iff.1 hx5).1 (fun e=>row_box HR5.out.1 hx5 (by decide) e.symm)).trans hx5
      have ho5:=owns_of_belowN how3.out b45
      have ho:=ho5.kept gr (owns_apart ho5 HR5.out.1 (by decide))
      exact ⟨by rw [ho.cellAt 0 (by simp)];rfl,vblk_cell hx 0,vblk_cell hx 1,vblk_cell hx 2,vblk_cell hx 3⟩
     have hq0:Below W4.heap.size W4 W4.drew:=(Below.refl _ _).drew
     have HW4:=hidden hW4
     have i1:(0:Int)<2:=by omega
     clear hW4 b4 bx4 b5 b45 how3 hrow3 hol3 HOU k3 k4 HB1
     go_wp2_with fail
     rw [←HW4.out]
     clear HW4
     refine wp_region_held_drew (S:=(fun w'=>w'.cell? ⟨gw,0,none⟩=some (.string n0)∧w'.cell? ⟨w3.heap.size,0,none⟩=some (.int .i64 ra)∧w'.cell? ⟨w3.heap.size,1,none⟩=some (.int .i64 rb)∧w'.cell? ⟨w3.heap.size,2,none⟩=some (.int .i64 rc)∧w'.cell? ⟨w3.heap.size,3,none⟩=some (.slice uq un uc))) (by kernel_rfl) ?SR10 (fun hHeld=>?_)
     case SR10=>(exact KEEP.out _ hq0)
     refine tk 0 hHeld (h:=?_)
     refine tk 1 hHeld (h:=?_)
     refine tk 2 hHeld (h:=?_)
     refine tk 3 hHeld (h:=?_)
     refine tk 4 hHeld (h:=?_)
     refine tk 5 hHeld (h:=?_)
     refine wpAnyH_ready (rs:=[6]) (by kernel_rfl) (by simp) ?_
     refine AllReadyH.cons rfl (fun K hK=>?_) AllReadyH.nil
     go_simp
     clear hHeld
     refine hK.out _ (W4.drew.alloc (.cells #[.string n0,.int .i64 ra,.int .i64 rb,.int .i64 rc,.slice uq un uc] 59)) ?SR1_6 (fun hHeld=>?_)
     case SR1_6=>(exact KEEP.out _ hq5)
     clear hK K
     try simp only [Act.put,List.getElem_toArray,List.getElem_cons_zero,List.getElem_cons_succ,List.setIfInBounds_toArray,List.set_cons_zero,List.set_cons_succ]
     refine wpAnyH_ready (rs:=[7]) (by kernel_rfl) (by simp) ?_
     refine AllReadyH.cons rfl (fun K hK=>?_) AllReadyH.nil
     rw [if_pos (by rfl)]
     refine wp_append_own _ _ _ 49 rfl w.heap.size 59 i0 (.agg #[.string ⟨#[]⟩,.int .i64 0,.int .i64 0,.int .i64 0,.slice none 0 0]) 5 64 Tryz.underlying49 hi0 hz0 hz1 hz2 rfl (by decide) _ ps.length (flatL ps) rfl HR5.out.1 ⟨W4.heap.size,0,none⟩ 1 1 ([.string n0,.int .i64 ra,.int .i64 rb,.int .i64 rc,.slice uq un uc]) rfl rfl HSRC.out (by intro u hu;simp at hu;rcases hu with rfl|rfl|rfl|rfl|rfl<;>rfl) (by unfold maxLen;omega) (by omega) KW5.out.size ?_
     intro v6 w6 o6 gr6 _
     clear hHeld
     refine hK.out _ _ ?TR1_6 (fun hHeld=>?_)
     case TR1_6=>(exact SEND.out _ gr6)
     clear hK K
     try simp only [Act.put,List.getElem_toArray,List.getElem_cons_zero,List.getElem_cons_succ,List.setIfInBounds_toArray,List.set_cons_zero,List.set_cons_succ]
     refine tk 8 hHeld (h:=?_)
     refine wpAnyH_done (by kernel_rfl) ?_ _
     have hb6:Below w.heap.size w w6:=KW5.out.grown gr6 KW5.out.size (fun j hj=>(HR5.out.1.lt j hj).1)
     have hrow6:RowL w.heap.size w6 v6 (ps++[⟨Dd,.slice uq un uc⟩]):=by
      refine ⟨?_,fun q hq=>?_⟩
      ·rw [flatL_append,List.length_append]
       have e9:flatL [(⟨Dd,.slice uq un uc⟩:LC)]=[.string n0,.int .i64 ra,.int .i64 rb,.int .i64 rc,.slice uq un uc]:=by show LC.cells _++[]=_;rw [List.append_nil,LC.cells,HPT.out]
       rw [e9]
       exact o6
      ·rcases List.mem_append.1 hq with h9|h9
       ·have h8:=HR5.out.2 q h9
        exact h8.kept gr6 (owns_apart h8 HR5.out.1 (by decide))
       ·rw [List.mem_singleton.1 h9]
        have h8:=HOU5.out
        have h7:=h8.kept gr6 (owns_apart h8 HR5.out.1 (by decide))
        show w6.ownsRow w.heap.size 9 1 (.slice uq un uc) Dd.vP.length (strsV Dd.vP)
        rw [HPT.out]
        show w6.ownsRow w.heap.size 9 1 (.slice uq un uc) rp.length (strsV rp)
        rw [←HUN.out]
        exact h7
     have hol6:=hidden (HOL5.out.kept gr6 (owns_apart HOL5.out HR5.out.1 (by decide)))
     have hps6:Hid (∀ p∈ps++[(⟨Dd,.slice uq un uc⟩:LC)],p.d.name.size≤1048576∧bulkS p.d.vP≤1048576):=fun p hp=>by
      rcases List.mem_append.1 hp with h9|h9
      ·exact hps.out p h9
      ·rw [List.mem_singleton.1 h9]
       show Dd.name.size≤_∧bulkS Dd.vP≤_
       rw [HPT.out]
       exact ⟨hn0,hbk⟩
     have hlp6:Hid (linesP (L.take (i+1))=some ((ps++[(⟨Dd,.slice uq un uc⟩:LC)]).map LC.d)):=by
      show _=_
      rw [HST.out,HLS.out]
      simp
     have HR6:=hidden hrow6
     have HB6:=hidden hb6
     clear hrow6 hb6 o6 gr6 KW5 HR5 HOL5 HOU5 HSRC SEND KEEP hq0 hq5
     go_wp2_with fail
     go_roundw
     case rel=>exact ⟨i+1,_,ps++[⟨Dd,.slice uq un uc⟩],by omega,by go_num,rfl,hlp6,HR6,hps6,by simp;omega,hol6,HB6⟩
     case measure=>simp [intOf];omega
   ·have hRn:=HB1.out (HLN.out h2)
    subst hRn
    have h2':((W.length:Int) != 2)=true:=by simp;omega
    obtain ⟨vq,vc,hvw⟩:=owns_sliceL ow
    subst hvw
    clear HSB HSE HB1 HST HL2 HLN hrow2 hol2 ow hlp hps
    go_wp2_with fail
    go_ret2
    have hemp:=World.ownsRow_lit (e:=59) (size:=5) w2 #[] 0 k2.size (by unfold maxLen;omega) rfl
    exact ⟨some ⟨w2.heap.size,0,none⟩,0,rfl,RowL.own (ps:=[]) ⟨(by first|exact hemp|simpa [flatL] using hemp),fun p hp=>by simp at hp⟩ (fun p hp=>by simp at hp) (by unfold maxLen;simp),k2.alloc k2.size _⟩
  ·obtain rfl:n=i+1:=by omega
   have hj0:(0:Int)≤(i:Int)+1:=by omega
   have hj2: ¬(i:Int)<(i:Int)+1-1:=by omega
   have hj3:(i:Int)<(i:Int)+1:=by omega
   have hj4:(i:Int)+1-1=(i:Int):=by omega
   have hjw:IntKind.i64.wrap (i:Int)=(i:Int):=IntWalk.i64_in _ ⟨by omega,by omega⟩
   have hiL:i<L.length:=by rw [←HN.out];omega
   have e0:wo.cell? ⟨gl,i,none⟩=some (.string L[i]):=by
    rw [hol.out.cellAt i (by omega)]
    simp [strsV]
   have HEN:=HSE.out (ps.map LC.d) (by rw [←HN.out];exact hlp.out)
   simp only [←HN.out,Nat.add_sub_cancel] at HEN
   replace HEN:=hidden HEN
   have HOK:=l10Ok_c (Ow w.heap.size wo.heap.size) _ _ wo (rowL_plain (RowL.own hrow.out hps.out (by unfold maxLen;omega))) (fun b hb=>hb.2) (fun d hd=>by obtain ⟨p,hp,rfl⟩:=List.mem_map.1 hd;exact (hps.out p hp).2)
   have HOW:=hidden (RowL.own hrow.out hps.out (by unfold maxLen;omega))
   obtain ⟨l,hl⟩: ∃ l,l=L[i]:=⟨_,rfl⟩
   rw [←hl] at e0 HEN
   obtain ⟨pk,hpk⟩: ∃ z,z=picksB (ps.map LC.d):=⟨_,rfl⟩
   rw [←hpk] at HEN HOK
   replace HOK:=hidden HOK
   clear hl hpk hlp hol HSB HSE hiL
   by_cases hz:l.size=0
   ·have hl0:l=⟨#[]⟩:=ByteArray.ext (Array.eq_empty_of_size_eq_zero hz)
    subst hl0
    cases pk with
    |false=>
     have hRn:R=none:=by rw [HEN.out,if_neg (fun h=>by cases h.2)]
     subst hRn
     clear HEN HOW
     go_wp2_with fail
     go_at_call 129
     refine HOK.out.mono ?_
     rintro e w2 ⟨rfl,b2⟩
     have k2:Below w.heap.size w w2:=hbr.trans (b2.mono hbr.size)
     go_wp2_with fail
     go_ret2
     have hemp:=World.ownsRow_lit (e:=59) (size:=5) w2 #[] 0 k2.size (by unfold maxLen;omega) rfl
     exact ⟨some ⟨w2.heap.size,0,none⟩,0,rfl,RowL.own (ps:=[]) ⟨(by first|exact hemp|simpa [flatL] using hemp),fun p hp=>by simp at hp⟩ (fun p hp=>by simp at hp) (by unfold maxLen;simp),k2.alloc k2.size _⟩
    |true=>
     have hRs:R=some (ps.map LC.d):=by rw [HEN.out,if_pos ⟨hz,rfl⟩]
     subst hRs
     clear HEN
     go_wp2_with fail
     go_at_call 129
     refine HOK.out.mono ?_
     rintro e w2 ⟨rfl,b2⟩
     have k2:Below w.heap.size w w2:=hbr.trans (b2.mono hbr.size)
     have HO2:=hidden (rowOwn_up HOW.out b2)
     go_wp2_with fail
     go_ret2
     exact ⟨qo,co,by simp,by simpa using HO2.out,k2⟩
   ·have hRn:R=none:=by rw [HEN.out,if_neg (fun h=>hz h.1)]
    subst hRn
    have hlt0:l.toList≠[]:=fun h=>hz (by have h2:=congrArg List.length h;simpa [ByteArray.toList_eq] using h2)
    have hl1:(l.toList == ([]:List UInt8))=false:=by simpa using hlt0
    have hl2:(l.toList != ([]:List UInt8))=true:=by simp [bne,hl1]
    clear HEN HOK HOW
    go_wp2_with fail
    go_ret2
    have hemp:=World.ownsRow_lit (e:=59) (size:=5) wo #[] 0 hbr.size (by unfold maxLen;omega) rfl
    exact ⟨some ⟨wo.heap.size,0,none⟩,0,rfl,RowL.own (ps:=[]) ⟨(by first|exact hemp|simpa [flatL] using hemp),fun p hp=>by simp at hp⟩ (fun p hp=>by simp at hp) (by unfold maxLen;simp),hbr.alloc hbr.size _⟩
theorem lockGo_picks : ∀ (L:List ByteArray) (acc ps:List PickD),picksB acc=true→lockGo L acc=some ps→picksB ps=true
  |[],acc,ps,h,e=>by first|(simp [lockGo] at e;done)|(simp [lockGo] at e;subst e;exact h)
  |[l],acc,ps,h,e=>by
    rw [lockGo_last] at e
    split at e
    · cases e;exact h
    · cases e
  |l::l2::r,acc,ps,h,e=>by
    rw [lockGo_more (by simp)] at e
    split at e
    · cases e
    · split at e
      · rename_i h2;exact lockGo_picks _ _ _ h2 e
      · cases e
theorem lockR_picks (s:ByteArray):picksB ((lockR s).getD [])=true:=by
 cases h:lockR s with
 |none=>rfl
 |some ps=>exact lockGo_picks _ _ _ (by rfl) h
theorem pickB_small {d:PickD} (h:pickB d=true):wtPick d≤37∧d.vP.length≤3:=by
  simp only [pickB,nameB,verB,Bool.and_eq_true,parts_all,inB,decide_eq_true_eq] at h
  obtain ⟨⟨_,_,h1⟩,⟨⟨⟨h2,_⟩,_⟩,_⟩,h3⟩:=h
  have h4:(d.vP.map ByteArray.size).sum≤d.vP.length*8:=by
    have h9 := sum_leP (d.vP.map ByteArray.size) 8 (fun x hx => by
      obtain ⟨y, hy, rfl⟩ := List.mem_map.1 hx
      have h8 := List.all_eq_true.1 h2 y hy
      simp only [partB, Bool.and_eq_true, inB, decide_eq_true_eq] at h8
      omega)
    simpa using h9
  refine ⟨?_,h3⟩
  unfold wtPick bulkS
  omega
theorem picks_small {l:List PickD} (h:picksB l=true):wtRow wtPick l≤456∧(l.map fun d=>4+d.vP.length).sum≤84:=by
  unfold picksB at h
  rw [rowB_split] at h
  simp only [Bool.and_eq_true,decide_eq_true_eq] at h
  obtain ⟨⟨h1,_⟩,h2⟩:=h
  have ha:=List.all_eq_true.1 h1
  have h3 := sum_leP (l.map fun x => 1 + wtPick x) 38 (fun x hx => by
    obtain ⟨y, hy, rfl⟩ := List.mem_map.1 hx
    have := (pickB_small (ha y hy)).1
    omega)
  have h4 := sum_leP (l.map fun d => 4 + d.vP.length) 7 (fun x hx => by
    obtain ⟨y, hy, rfl⟩ := List.mem_map.1 hx
    have := (pickB_small (ha y hy)).2
    omega)
  rw [List.length_map] at h3 h4
  refine ⟨?_,by omega⟩
  unfold wtRow
  omega
def staleB (r:List EntryD) (xs:List PackD) (s:ByteArray):Bool:= !(lockR s).isSome|| !solB r (allN xs) ((lockR s).getD [])
theorem pickB_wf {d:PickD} (h:pickB d=true):wfP d:=by
 simp only [pickB,nameB,verB,Bool.and_eq_true,inB,decide_eq_true_eq] at h
 obtain ⟨_,⟨⟨⟨_,h1⟩,h2⟩,h3⟩,_⟩:=h
 have hmin:IntKind.i64.min= -9223372036854775808:=by decide
 have hmax:IntKind.i64.max=9223372036854775807:=by decide
 refine ⟨?_,?_,?_⟩<;>(simp only [Lit.wf,hmin,hmax,Bool.and_eq_true,decide_eq_true_eq];omega)
theorem picks_wf {l:List PickD} (h:picksB l=true): ∀ d∈l,wfP d:=fun d hd=>by
 unfold picksB at h
 rw [rowB_split] at h
 simp only [Bool.and_eq_true] at h
 exact pickB_wf (List.all_eq_true.1 h.1.1 d hd)
theorem implStale_c (Sr Sl:Nat→Prop) (rv lv:Value) (r:List EntryD) (xs:List PackD) (s:ByteArray) (w:World) (hr:RowIn shEntry Sr w rv r) (hl:RowIn shPack Sl w lv xs)
  (hBr: ∀ b,Sr b→b<w.heap.size) (hBl: ∀ b,Sl b→b<w.heap.size) (hwr:wtRow wtEntry r≤1048576) (hwl:wtRow wtPack xs≤1048576) (hs:s.size≤1048576) (hfr: ∀ d∈r,wfE d) (hg:ErrT w) (hT:Tabs w) (htab:Lib.TabIs Tryz.prog w "internal/strconv.uint64pow10" .u64 Lib.pow10Tab):
  Calls Tryz.prog 53 #[rv,lv,.string s] w fun e w'=>e=.returned (.bool (staleB r xs s))∧Below w.heap.size w w':=by
 obtain ⟨hw1,_⟩:=picks_small (lockR_picks s)
 have hwf:=picks_wf (lockR_picks s)
 obtain ⟨z1,z2,z3⟩:=need_sizes hwl
 have HL:=implLock_c s hs w hg
 unfold staleB
 obtain ⟨R,hR⟩: ∃ R,R=(lockR s).getD []:=⟨_,rfl⟩
 obtain ⟨ok,hok⟩: ∃ ok,ok=(lockR s).isSome:=⟨_,rfl⟩
 simp only [←hR, ←hok] at HL hw1 hwf ⊢
 clear hR hok
 have HW:Hid (∀ w1,Below w.heap.size w w1→Calls Tryz.prog 131 #[lv] w1 fun e w'=>∃ u',e=.returned u'∧RowOwn shNeed 39 (Ow w1.heap.size w'.heap.size) w' u' (allN xs)∧Below w1.heap.size w1 w'):=fun w1 h=>
  (implWanted_c Sl lv xs w1 (hl.keep (.of h hBl)) (fun b hb=>Nat.lt_of_lt_of_le (hBl b hb) h.size) hwl).mono fun e w' ⟨u',h1,h2,h3⟩=>⟨u',h1,needs_own h2 z1 z2,h3⟩
 have HS:Hid (∀ W lo hi lo' hi' u v,Below w.heap.size w W→RowOwn shNeed 39 (Ow lo hi) W u (allN xs)→hi≤W.heap.size→RowOwn shPickO 59 (Ow lo' hi') W v R→hi'≤W.heap.size→Calls Tryz.prog 35 #[rv,u,v] W fun e w'=>e=.returned (.bool (solB r (allN xs) R))∧Below W.heap.size W w'):=fun W lo hi lo' hi' u v h h1 h2 h3 h4=>
  implSolves_c Sr (Ow lo hi) (Ow lo' hi') rv u v r (allN xs) R W (hr.keep (.of h hBr)) h1.plain (RowIn.as (sh:=shPickO) (sh':=shPick) rfl (fun S w cs x h=>liesPick_plain h) h3.plain) (fun b hb=>Nat.lt_of_lt_of_le (hBr b hb) h.size) (fun b hb=>Nat.lt_of_lt_of_le hb.2 h2) (fun b hb=>Nat.lt_of_lt_of_le hb.2 h4) hwr z3 (by omega) hfr hwf (hT.below h) (tabIs_below h htab)
 have HL2:=hidden HL
 obtain ⟨B,hB⟩: ∃ B,B=solB r (allN xs) R:=⟨_,rfl⟩
 rw [←hB] at HS ⊢
 clear HL hr hl hBr hBl hwr hwl hw1 hwf z1 z2 z3 hB
 go_enter Tryz.func53,Tryz.ntmps53
 go_wp2_with fail
 go_at_call 46
 refine HL2.out.mono ?_
 rintro e w1 ⟨q,c,rfl,o1,b1⟩
 cases ok with
 |false=>
  go_wp2_with fail
  go_ret
  exact ⟨by simp,b1⟩
 |true=>
  go_wp2_with fail
  go_at_call 131
  refine (HW.out _ b1).mono ?_
  rintro e w2 ⟨u2,rfl,o2,b2⟩
  have k2:Below w.heap.size w w2:=b1.trans (b2.mono b1.size)
  have o1b:=o1.keep (.of b2 (fun b hb=>hb.2))
  have z2:=b2.size
  go_wp2_with fail
  go_at_call 35
  refine (HS.out _ _ _ _ _ _ _ k2 o2 (Nat.le_refl _) o1b z2).mono ?_
  rintro e w3 ⟨rfl,b3⟩
  go_wp2_with fail
  go_ret
  exact ⟨by simp,k2.trans (b3.mono k2.size)⟩
theorem specStale_c (Sr Sl:Nat→Prop) (rv lv:Value) (r:List EntryD) (xs:List PackD) (s:ByteArray) (w:World) (hr:RowIn shEntryO Sr w rv r) (hl:RowIn shPackO Sl w lv xs)
  (hBr: ∀ b,Sr b→b<w.heap.size) (hBl: ∀ b,Sl b→b<w.heap.size) (hwr:wtRow wtEntry r≤1048576) (hwl:wtRow wtPack xs≤1048576) (hs:s.size≤1048576):
  Calls Tryz.prog 54 #[rv,lv,.string s] w fun e w'=>e=.returned (.bool (staleB r xs s))∧Below w.heap.size w w':=by
 obtain ⟨hw1,_⟩:=picks_small (lockR_picks s)
 have hwf:=picks_wf (lockR_picks s)
 obtain ⟨z1,z2,z3⟩:=need_sizes hwl
 have HL:=specLock_c s hs w
 unfold staleB
 obtain ⟨R,hR⟩: ∃ R,R=(lockR s).getD []:=⟨_,rfl⟩
 obtain ⟨ok,hok⟩: ∃ ok,ok=(lockR s).isSome:=⟨_,rfl⟩
 simp only [←hR, ←hok] at HL hw1 hwf ⊢
 clear hR hok
 have HW:Hid (∀ w1,Below w.heap.size w w1→Calls Tryz.prog 132 #[lv] w1 fun e w'=>∃ u',e=.returned u'∧RowOwn shNeed 39 (Ow w1.heap.size w'.heap.size) w' u' (allN xs)∧Below w1.heap.size w1 w'):=fun w1 h=>
  (specWanted_c Sl lv xs w1 (hl.keep (.of h hBl)) (fun b hb=>Nat.lt_of_lt_of_le (hBl b hb) h.size) hwl).mono fun e w' ⟨u',h1,h2,h3⟩=>⟨u',h1,needs_own h2 z1 z2,h3⟩
 have HS:Hid (∀ W lo hi lo' hi' u v,Below w.heap.size w W→RowOwn shNeed 39 (Ow lo hi) W u (allN xs)→hi≤W.heap.size→RowOwn shPickO 59 (Ow lo' hi') W v R→hi'≤W.heap.size→Calls Tryz.prog 42 #[rv,u,v] W fun e w'=>e=.returned (.bool (solB r (allN xs) R))∧Below W.heap.size W w'):=fun W lo hi lo' hi' u v h h1 h2 h3 h4=>
  specSolves_c Sr (Ow lo hi) (Ow lo' hi') rv u v r (allN xs) R W (hr.keep (.of h hBr)) h1.plain h3.plain (fun b hb=>Nat.lt_of_lt_of_le (hBr b hb) h.size) (fun b hb=>Nat.lt_of_lt_of_le hb.2 h2) (fun b hb=>Nat.lt_of_lt_of_le hb.2 h4) hwr z3 (by omega)
 have HL2:=hidden HL
 obtain ⟨B,hB⟩: ∃ B,B=solB r (allN xs) R:=⟨_,rfl⟩
 rw [←hB] at HS ⊢
 clear HL hr hl hBr hBl hwr hwl hw1 hwf z1 z2 z3 hB
 go_enter Tryz.func54,Tryz.ntmps54
 go_wp2_with fail
 go_at_call 47
 refine HL2.out.mono ?_
 rintro e w1 ⟨q,c,rfl,o1,b1⟩
 cases ok with
 |false=>
  go_wp2_with fail
  go_ret
  exact ⟨by simp,b1⟩
 |true=>
  go_wp2_with fail
  go_at_call 132
  refine (HW.out _ b1).mono ?_
  rintro e w2 ⟨u2,rfl,o2,b2⟩
  have k2:Below w.heap.size w w2:=b1.trans (b2.mono b1.size)
  have o1b:=o1.keep (.of b2 (fun b hb=>hb.2))
  have z2:=b2.size
  go_wp2_with fail
  go_at_call 42
  refine (HS.out _ _ _ _ _ _ _ k2 o2 (Nat.le_refl _) o1b z2).mono ?_
  rintro e w3 ⟨rfl,b3⟩
  go_wp2_with fail
  go_ret
  exact ⟨by simp,k2.trans (b3.mono k2.size)⟩
theorem leftW_pos {a:Nat} {left:Int} (h:(a:Int)≤left) (hl:left≤1048576):0≤leftW a left∧leftW a left≤1048576∧a≤1048576:=by
 rw [leftW_good h];omega
theorem stale_walk (a0 a1:Value) (z0:List EntryD) (z1:List PackD) (s:ByteArray) (w:World) (r0:RowIn shEntry (· <w.heap.size) w a0 z0) (r1:RowIn shPack (· <w.heap.size) w a1 z1) (hsm:s.size≤maxLen) (f0: ∀ d∈z0,wfE d) (hg:ErrT w) (hT:Tabs w) (htab:Lib.TabIs Tryz.prog w "internal/strconv.uint64pow10" .u64 Lib.pow10Tab):
    Calls Tryz.prog 10 #[a0,a1,.string s] w fun e w'=>e=.returned (.bool true)∧Below w.heap.size w w':=by
  have hin0: ∀ w1,Below w.heap.size w w1→RowIn shEntry (· <w1.heap.size) w1 a0 z0:=fun w1 h=>r0.below h
  have HZ0:Hid (∀ p,0≤p→p≤1048576→∀ w1,Below w.heap.size w w1→Calls Tryz.prog 55 #[a0,.int .i64 p] w1 fun e w'=>e=.returned (.int .i64 (leftW (wtRow wtEntry z0) p))∧Below w1.heap.size w1 w'):=fun p h0 h1 w1 h=>szEntryS_c _ _ z0 _ h0 h1 w1 (hin0 w1 h) (fun b h=>h)
  have hin1: ∀ w1,Below w.heap.size w w1→RowIn shPack (· <w1.heap.size) w1 a1 z1:=fun w1 h=>r1.below h
  have HZ1:Hid (∀ p,0≤p→p≤1048576→∀ w1,Below w.heap.size w w1→Calls Tryz.prog 66 #[a1,.int .i64 p] w1 fun e w'=>e=.returned (.int .i64 (leftW (wtRow wtPack z1) p))∧Below w1.heap.size w1 w'):=fun p h0 h1 w1 h=>szPackS_c _ _ z1 _ h0 h1 w1 (hin1 w1 h) (fun b h=>h)
  obtain ⟨q0,cap0,hq0⟩:=r0.slice
  subst hq0
  obtain ⟨q1,cap1,hq1⟩:=r1.slice
  subst hq1
  unfold maxLen at hsm
  by_cases hbigs:1048576<s.size
  · have hb2:(1048576:Int)<(s.size:Int):=by omega
    clear f0 hg hT htab hin0 r0 hin1 r1 HZ0 HZ1
    go_enter Tryz.func10,Tryz.ntmps10
    go_wp2_with fail
    go_ret
    exact ⟨rfl,Below.refl _ _⟩
  have hs:s.size≤1048576:=by omega
  have hnb: ¬(1048576:Int)<(s.size:Int):=by omega
  clear hbigs
  obtain ⟨p0,hp0e⟩: ∃ p:Int,p=1048576:=⟨_,rfl⟩
  have HP0:Hid (p0=1048576):=hp0e
  have hp0a:0≤p0:=by omega
  have hp0b:p0≤1048576:=by omega
  clear hp0e
  replace HZ0:=hidden (HZ0.out p0 hp0a hp0b)
  by_cases hbig0: ¬((wtRow wtEntry z0:Nat):Int)≤p0
  · have e1:leftW (wtRow wtEntry z0) p0= -1:=leftW_bad hbig0
    rw [e1] at HZ0
    simp only [HP0.out] at HZ0
    clear e1 hbig0 f0 hg hT htab hin0 r0 hin1 r1
    go_enter Tryz.func10,Tryz.ntmps10
    go_wp2_with fail
    go_at_call 55
    refine (HZ0.out _ (Below.refl w.heap.size w)).mono ?_
    rintro e w1 ⟨rfl,b1⟩
    have k1:=(Below.refl w.heap.size w).trans (b1.mono (Below.refl w.heap.size w).size)
    go_wp2_with fail
    go_ret
    exact ⟨rfl,k1⟩
  have hle0:=Decidable.not_not.1 hbig0
  obtain ⟨hn0,hm0,hw0⟩:=leftW_pos hle0 hp0b
  clear hbig0 hle0
  obtain ⟨p1,hp1⟩: ∃ p,p=leftW (wtRow wtEntry z0) p0:=⟨_,rfl⟩
  rw [←hp1] at HZ0 hn0 hm0
  clear hp1
  have hp1a:=hn0
  have hp1b:=hm0
  replace HZ1:=hidden (HZ1.out p1 hp1a hp1b)
  by_cases hbig1: ¬((wtRow wtPack z1:Nat):Int)≤p1
  · have e1:leftW (wtRow wtPack z1) p1= -1:=leftW_bad hbig1
    rw [e1] at HZ1
    simp only [HP0.out] at HZ0
    clear e1 hbig1 f0 hg hT htab hin0 r0 hin1 r1
    go_enter Tryz.func10,Tryz.ntmps10
    go_wp2_with fail
    go_at_call 55
    refine (HZ0.out _ (Below.refl w.heap.size w)).mono ?_
    rintro e w1 ⟨rfl,b1⟩
    have k1:=(Below.refl w.heap.size w).trans (b1.mono (Below.refl w.heap.size w).size)
    go_wp2_with fail
    go_at_call 66
    refine (HZ1.out _ (k1)).mono ?_
    rintro e w2 ⟨rfl,b2⟩
    have k2:=(k1).trans (b2.mono (k1).size)
    go_wp2_with fail
    go_ret
    exact ⟨rfl,k2⟩
  have hle1:=Decidable.not_not.1 hbig1
  obtain ⟨hn1,hm1,hw1⟩:=leftW_pos hle1 hp1b
  clear hbig1 hle1
  obtain ⟨p2,hp2⟩: ∃ p,p=leftW (wtRow wtPack z1) p1:=⟨_,rfl⟩
  rw [←hp2] at HZ1 hn1 hm1
  clear hp2
  simp only [HP0.out] at HZ0
  have HT0:Hid (∀ w1,Below w.heap.size w w1→Calls Tryz.prog 57 #[.slice q0 z0.length cap0] w1 fun e w'=>∃ g,e=.returned (.slice (some ⟨g,0,none⟩) z0.length z0.length)∧RowOwn shEntryO 35 (Ow w1.heap.size w'.heap.size) w' (.slice (some ⟨g,0,none⟩) z0.length z0.length) z0∧Below w1.heap.size w1 w'):=fun w1 h=>toEntryS_c _ _ z0 w1 (hin0 w1 h) (fun b h=>h) hw0
  have HE0:Hid (∀ W g g' l1 h1 l2 h2,RowOwn shEntryO 35 (Ow l1 h1) W (.slice (some ⟨g,0,none⟩) z0.length z0.length) z0→h1≤W.heap.size→RowOwn shEntryO 35 (Ow l2 h2) W (.slice (some ⟨g',0,none⟩) z0.length z0.length) z0→h2≤W.heap.size→Calls Tryz.prog 60 #[.slice (some ⟨g,0,none⟩) z0.length z0.length,.slice (some ⟨g',0,none⟩) z0.length z0.length] W fun e w'=>e=.returned (.bool true)∧Below W.heap.size W w'):=fun W g g' l1 h1 l2 h2 a c b d=>eqEntryS_c (Ow l1 h1) (Ow l2 h2) _ _ z0 W (RowIn.as (sh:=shEntryO) (sh':=shEntry) rfl (fun S w cs x h=>liesEntry_plain h) a.plain) (RowIn.as (sh:=shEntryO) (sh':=shEntry) rfl (fun S w cs x h=>liesEntry_plain h) b.plain) (fun b hb=>Nat.lt_of_lt_of_le hb.2 c) (fun b hb=>Nat.lt_of_lt_of_le hb.2 d) hw0
  have HT1:Hid (∀ w1,Below w.heap.size w w1→Calls Tryz.prog 67 #[.slice q1 z1.length cap1] w1 fun e w'=>∃ g,e=.returned (.slice (some ⟨g,0,none⟩) z1.length z1.length)∧RowOwn shPackO 189 (Ow w1.heap.size w'.heap.size) w' (.slice (some ⟨g,0,none⟩) z1.length z1.length) z1∧Below w1.heap.size w1 w'):=fun w1 h=>toPackS_c _ _ z1 w1 (hin1 w1 h) (fun b h=>h) hw1
  have HE1:Hid (∀ W g g' l1 h1 l2 h2,RowOwn shPackO 189 (Ow l1 h1) W (.slice (some ⟨g,0,none⟩) z1.length z1.length) z1→h1≤W.heap.size→RowOwn shPackO 189 (Ow l2 h2) W (.slice (some ⟨g',0,none⟩) z1.length z1.length) z1→h2≤W.heap.size→Calls Tryz.prog 68 #[.slice (some ⟨g,0,none⟩) z1.length z1.length,.slice (some ⟨g',0,none⟩) z1.length z1.length] W fun e w'=>e=.returned (.bool true)∧Below W.heap.size W w'):=fun W g g' l1 h1 l2 h2 a c b d=>eqPackS_c (Ow l1 h1) (Ow l2 h2) _ _ z1 W (RowIn.as (sh:=shPackO) (sh':=shPack) rfl (fun S w cs x h=>liesPack_plain h) a.plain) (RowIn.as (sh:=shPackO) (sh':=shPack) rfl (fun S w cs x h=>liesPack_plain h) b.plain) (fun b hb=>Nat.lt_of_lt_of_le hb.2 c) (fun b hb=>Nat.lt_of_lt_of_le hb.2 d) hw1
  obtain ⟨R,hR⟩: ∃ R,R=staleB z0 z1 s:=⟨_,rfl⟩
  have HS:Hid (∀ W g0 g1 l0 h0 l1 h1,RowOwn shEntryO 35 (Ow l0 h0) W (.slice (some ⟨g0,0,none⟩) z0.length z0.length) z0→h0≤W.heap.size→RowOwn shPackO 189 (Ow l1 h1) W (.slice (some ⟨g1,0,none⟩) z1.length z1.length) z1→h1≤W.heap.size→Calls Tryz.prog 54 #[.slice (some ⟨g0,0,none⟩) z0.length z0.length,.slice (some ⟨g1,0,none⟩) z1.length z1.length,.string s] W fun e w'=>e=.returned (.bool R)∧Below W.heap.size W w'):=fun W g0 g1 l0 h0 l1 h1 x0 y0 x1 y1=>by rw [hR];exact specStale_c (Ow l0 h0) (Ow l1 h1) _ _ z0 z1 s W x0.plain x1.plain (fun b hb=>Nat.lt_of_lt_of_le hb.2 y0) (fun b hb=>Nat.lt_of_lt_of_le hb.2 y1) hw0 hw1 hs
  have HI:Hid (∀ W g0 g1 l0 h0 l1 h1,Below w.heap.size w W→RowOwn shEntryO 35 (Ow l0 h0) W (.slice (some ⟨g0,0,none⟩) z0.length z0.length) z0→h0≤W.heap.size→RowOwn shPackO 189 (Ow l1 h1) W (.slice (some ⟨g1,0,none⟩) z1.length z1.length) z1→h1≤W.heap.size→Calls Tryz.prog 53 #[.slice (some ⟨g0,0,none⟩) z0.length z0.length,.slice (some ⟨g1,0,none⟩) z1.length z1.length,.string s] W fun e w'=>e=.returned (.bool R)∧Below W.heap.size W w'):=fun W g0 g1 l0 h0 l1 h1 hb x0 y0 x1 y1=>by rw [hR];exact implStale_c (Ow l0 h0) (Ow l1 h1) _ _ z0 z1 s W (RowIn.as (sh:=shEntryO) (sh':=shEntry) rfl (fun S w cs x h=>liesEntry_plain h) x0.plain) (RowIn.as (sh:=shPackO) (sh':=shPack) rfl (fun S w cs x h=>liesPack_plain h) x1.plain) (fun b hb=>Nat.lt_of_lt_of_le hb.2 y0) (fun b hb=>Nat.lt_of_lt_of_le hb.2 y1) hw0 hw1 hs f0 (hg.below hb) (hT.below hb) (tabIs_below hb htab)
  clear hR f0 hg hT htab hin0 hin1 r0 hw0 r1 hw1 hs hsm
  go_enter Tryz.func10,Tryz.ntmps10
  go_wp2_with fail
  go_at_call 55
  refine (HZ0.out _ (Below.refl w.heap.size w)).mono ?_
  rintro e v1 ⟨rfl,b1⟩
  have k1:=(Below.refl w.heap.size w).trans (b1.mono (Below.refl w.heap.size w).size)
  clear b1
  go_wp2_with fail
  go_at_call 66
  refine (HZ1.out _ (k1)).mono ?_
  rintro e v2 ⟨rfl,b2⟩
  have k2:=(k1).trans (b2.mono (k1).size)
  clear b2
  go_wp2_with fail
  go_at_call 57
  refine (HT0.out _ k2).mono ?_
  rintro e v3 ⟨gA0,rfl,FA0,b3⟩
  have k3:=k2.trans (b3.mono k2.size)
  have m3:=b3.size
  clear b3
  go_wp2_with fail
  go_at_call 67
  refine (HT1.out _ k3).mono ?_
  rintro e v4 ⟨gA1,rfl,FA1,b4⟩
  have k4:=k3.trans (b4.mono k3.size)
  have m4:=b4.size
  have FA0:=FA0.keep (Kp.of b4 (fun b hb=>by have:=hb.2;omega))
  clear b4
  go_wp2_with fail
  go_at_call 54
  refine (HS.out _ gA0 gA1 _ _ _ _ FA0 (by omega) FA1 (by omega)).mono ?_
  rintro e v5 ⟨rfl,b5⟩
  have k5:=k4.trans (b5.mono k4.size)
  have m5:=b5.size
  clear b5 FA0 FA1 HS
  go_wp2_with fail
  go_at_call 57
  refine (HT0.out _ k5).mono ?_
  rintro e v6 ⟨gB0,rfl,FB0,b6⟩
  have k6:=k5.trans (b6.mono k5.size)
  have m6:=b6.size
  clear b6
  go_wp2_with fail
  go_at_call 67
  refine (HT1.out _ k6).mono ?_
  rintro e v7 ⟨gB1,rfl,FB1,b7⟩
  have k7:=k6.trans (b7.mono k6.size)
  have m7:=b7.size
  have FB0:=FB0.keep (Kp.of b7 (fun b hb=>by have:=hb.2;omega))
  clear b7
  go_wp2_with fail
  go_at_call 53
  refine (HI.out _ gB0 gB1 _ _ _ _ k7 FB0 (by omega) FB1 (by omega)).mono ?_
  rintro e v8 ⟨rfl,b8⟩
  have k8:=k7.trans (b8.mono k7.size)
  have m8:=b8.size
  have FB0:=FB0.keep (Kp.of b8 (fun b hb=>by have:=hb.2;omega))
  have FB1:=FB1.keep (Kp.of b8 (fun b hb=>by have:=hb.2;omega))
  clear b8 HI
  have hRR:(R != R)=false:=by cases R<;>rfl
  go_wp2_with fail
  go_at_call 57
  refine (HT0.out _ k8).mono ?_
  rintro e v9 ⟨gC0,rfl,FC0,b9⟩
  have k9:=k8.trans (b9.mono k8.size)
  have m9:=b9.size
  have FB0:=FB0.keep (Kp.of b9 (fun b hb=>by have:=hb.2;omega))
  have FB1:=FB1.keep (Kp.of b9 (fun b hb=>by have:=hb.2;omega))
  clear b9
  go_wp2_with fail
  go_at_call 60
  refine (HE0.out _ gB0 gC0 _ _ _ _ FB0 (by omega) FC0 (by omega)).mono ?_
  rintro e v10 ⟨rfl,b10⟩
  have k10:=k9.trans (b10.mono k9.size)
  have m10:=b10.size
  have FB1:=FB1.keep (Kp.of b10 (fun b hb=>by have:=hb.2;omega))
  clear b10 FB0 FC0
  go_wp2_with fail
  go_at_call 67
  refine (HT1.out _ k10).mono ?_
  rintro e v11 ⟨gC1,rfl,FC1,b11⟩
  have k11:=k10.trans (b11.mono k10.size)
  have m11:=b11.size
  have FB1:=FB1.keep (Kp.of b11 (fun b hb=>by have:=hb.2;omega))
  clear b11
  go_wp2_with fail
  go_at_call 68
  refine (HE1.out _ gB1 gC1 _ _ _ _ FB1 (by omega) FC1 (by omega)).mono ?_
  rintro e v12 ⟨rfl,b12⟩
  have k12:=k11.trans (b12.mono k11.size)
  have m12:=b12.size
  clear b12 FB1 FC1
  go_wp2_with fail
  go_ret
  exact ⟨rfl,k12⟩
end Go.Proofs.YtlfmefojcmpfeaaGreatDoor
namespace Go.Proofs.YtlfmefojcmpfeaaGreatDoor
open Go.ChangeShapes Go.WideShapes Go.ChangeAt Go.RowKit
theorem olist4 {cs:List Value} (h:cs.length=4): ∃ c0 c1 c2 c3,cs=[c0,c1,c2,c3]:=by
 match cs,h with
 |[c0,c1,c2,c3],_=>exact ⟨c0,c1,c2,c3,rfl⟩
theorem cmd_of_trod {H:Type} {enc:TypeId × Value→H} {w:World} {spare:Nat→Bool} {held:Bool} (fuel:Nat) (cs:List Value) (x:DataW H × List MemPlace)
    (h:DataW.trod enc Tryz.prog w 0 spare held fuel 304 cs=some x): ∃ d:CmdD,shCmd.lies (· <w.heap.size) w cs d:=by
  obtain ⟨xs,n,rfl,_,hlen,hxl,hf⟩:=DataW.trod_struct Tryz.underlying304 h
  have hN:Tryz.prog.cellsOf 304=2:=by kernel_rfl
  obtain ⟨c0,c1,rfl⟩:=olist2 (hlen.trans hN)
  have hx: ∀ i,i<2→∃ y,xs[i]?=some y:=fun i hi=>⟨xs[i]'(by rw [hxl];exact hi),by rw [List.getElem?_eq_getElem]⟩
  obtain ⟨y0,e0⟩:=hx 0 (by omega)
  have k0:Tryz.prog.cellsOf 9=1:=by kernel_rfl
  have f0:DataW.trod enc Tryz.prog w 0 spare held n 9 [c0]=some y0:=by
    have h:DataW.trod enc Tryz.prog w 0 spare held n 9 ((([c0,c1]:List Value).drop 0).take (Tryz.prog.cellsOf 9))=some y0:=(hf 0 _ rfl).trans e0
    rw [k0] at h;exact h
  obtain ⟨y1,e1⟩:=hx 1 (by omega)
  have k1:Tryz.prog.cellsOf 28=1:=by kernel_rfl
  have f1:DataW.trod enc Tryz.prog w 0 spare held n 28 [c1]=some y1:=by
    have h:DataW.trod enc Tryz.prog w 0 spare held n 28 ((([c0,c1]:List Value).drop 1).take (Tryz.prog.cellsOf 28))=some y1:=(hf 1 _ rfl).trans e1
    rw [k1] at h;exact h
  obtain ⟨t0,ht0,_,hl0⟩:=DataW.trod_string Tryz.underlying9 f0
  simp at ht0
  subst ht0
  obtain ⟨t1,hr1,hs1⟩:=vreads_open f1
  exact ⟨⟨t0,t1⟩,_,rfl,hl0,RdB.of hr1,hs1⟩
theorem cmds_of_trod {H:Type} {enc:TypeId × Value→H} {w:World} {spare:Nat→Bool} {held:Bool} (fuel:Nat) (c:Value) (x:DataW H × List MemPlace)
    (h:DataW.trod enc Tryz.prog w 0 spare held fuel 184 [c]=some x): ∃ xs,RowIn shCmd (· <w.heap.size) w c xs:=
  rows_of_trod shCmd Tryz.underlying184 (by kernel_rfl) (by decide) (fun n cs y hh=>cmd_of_trod n cs y hh) fuel c x h
theorem pack_of_trod {H:Type} {enc:TypeId × Value→H} {w:World} {spare:Nat→Bool} {held:Bool} (fuel:Nat) (cs:List Value) (x:DataW H × List MemPlace)
    (h:DataW.trod enc Tryz.prog w 0 spare held fuel 186 cs=some x): ∃ d:PackD,shPack.lies (· <w.heap.size) w cs d:=by
  obtain ⟨xs,n,rfl,_,hlen,hxl,hf⟩:=DataW.trod_struct Tryz.underlying186 h
  have hN:Tryz.prog.cellsOf 186=4:=by kernel_rfl
  obtain ⟨c0,c1,c2,c3,rfl⟩:=olist4 (hlen.trans hN)
  have hx: ∀ i,i<4→∃ y,xs[i]?=some y:=fun i hi=>⟨xs[i]'(by rw [hxl];exact hi),by rw [List.getElem?_eq_getElem]⟩
  obtain ⟨y0,e0⟩:=hx 0 (by omega)
  have k0:Tryz.prog.cellsOf 9=1:=by kernel_rfl
  have f0:DataW.trod enc Tryz.prog w 0 spare held n 9 [c0]=some y0:=by
    have h:DataW.trod enc Tryz.prog w 0 spare held n 9 ((([c0,c1,c2,c3]:List Value).drop 0).take (Tryz.prog.cellsOf 9))=some y0:=(hf 0 _ rfl).trans e0
    rw [k0] at h;exact h
  obtain ⟨y1,e1⟩:=hx 1 (by omega)
  have k1:Tryz.prog.cellsOf 28=1:=by kernel_rfl
  have f1:DataW.trod enc Tryz.prog w 0 spare held n 28 [c1]=some y1:=by
    have h:DataW.trod enc Tryz.prog w 0 spare held n 28 ((([c0,c1,c2,c3]:List Value).drop 1).take (Tryz.prog.cellsOf 28))=some y1:=(hf 1 _ rfl).trans e1
    rw [k1] at h;exact h
  obtain ⟨y2,e2⟩:=hx 2 (by omega)
  have k2:Tryz.prog.cellsOf 82=1:=by kernel_rfl
  have f2:DataW.trod enc Tryz.prog w 0 spare held n 82 [c2]=some y2:=by
    have h:DataW.trod enc Tryz.prog w 0 spare held n 82 ((([c0,c1,c2,c3]:List Value).drop 2).take (Tryz.prog.cellsOf 82))=some y2:=(hf 2 _ rfl).trans e2
    rw [k2] at h;exact h
  obtain ⟨y3,e3⟩:=hx 3 (by omega)
  have k3:Tryz.prog.cellsOf 184=1:=by kernel_rfl
  have f3:DataW.trod enc Tryz.prog w 0 spare held n 184 [c3]=some y3:=by
    have h:DataW.trod enc Tryz.prog w 0 spare held n 184 ((([c0,c1,c2,c3]:List Value).drop 3).take (Tryz.prog.cellsOf 184))=some y3:=(hf 3 _ rfl).trans e3
    rw [k3] at h;exact h
  obtain ⟨t0,ht0,_,hl0⟩:=DataW.trod_string Tryz.underlying9 f0
  simp at ht0
  subst ht0
  obtain ⟨t1,hr1,hs1⟩:=vreads_open f1
  obtain ⟨t2,hr2⟩:=needs_of_trod n _ _ f2
  obtain ⟨t3,hr3⟩:=cmds_of_trod n _ _ f3
  exact ⟨⟨t0,t1,t2,t3⟩,_,_,_,rfl,hl0,RdB.of hr1,hs1,hr2,hr3⟩
theorem packs_of_trod {H:Type} {enc:TypeId × Value→H} {w:World} {spare:Nat→Bool} {held:Bool} (fuel:Nat) (c:Value) (x:DataW H × List MemPlace)
    (h:DataW.trod enc Tryz.prog w 0 spare held fuel 92 [c]=some x): ∃ xs,RowIn shPack (· <w.heap.size) w c xs:=
  rows_of_trod shPack Tryz.underlying92 (by kernel_rfl) (by decide) (fun n cs y hh=>pack_of_trod n cs y hh) fuel c x h
end Go.Proofs.YtlfmefojcmpfeaaGreatDoor
