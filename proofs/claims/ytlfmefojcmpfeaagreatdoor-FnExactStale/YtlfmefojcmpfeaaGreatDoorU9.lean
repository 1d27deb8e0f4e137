/-
  Contracts for the walks and pure facts, several texts in one: each theorem says what it proves, and under which conditions.
-/
import Derived.Test.YtlfmefojcmpfeaaGreatDoorUT
import Derived.Test.YtlfmefojcmpfeaaGreatDoorU8
set_option linter.unusedSimpArgs false
set_option linter.unusedVariables false
set_option maxHeartbeats 16000000
set_option maxRecDepth 100000
namespace Go.Proofs.YtlfmefojcmpfeaaGreatDoor
open Go.RowKit
theorem stripK_step {ws:List ByteArray} {k:Nat} (hk:1<k) (hl:k≤ws.length) (h:ws.getD (k-1) ⟨#[]⟩=xT):stripK ws k=stripK ws (k-1):=by
 obtain ⟨m,rfl⟩: ∃ m,k=m+1:=⟨k-1,by omega⟩
 rw [stripK,if_pos ⟨hk,by simpa using h⟩]
 rfl
theorem stripK_stop {ws:List ByteArray} {k:Nat} (hk:0<k) (h: ¬(1<k∧ws.getD (k-1) ⟨#[]⟩=xT)):stripK ws k=k:=by
 obtain ⟨m,rfl⟩: ∃ m,k=m+1:=⟨k-1,by omega⟩
 rw [stripK,if_neg (by simpa using h)]
theorem parsePart_c (s:ByteArray) (hs:s.size≤1048576) (w:World):
    Calls Tryz.prog 274 #[.string s] w fun e w'=>∃ u,e=.returned (partOut s u)∧w'.ownsRow w.heap.size 9 1 u (partP s).length (strsV (partP s))∧Below w.heap.size w w':=by
  have hbx:Below w.heap.size w (w.alloc (.cells #[.int .i64 0,.int .i64 0,.int .i64 0,.slice none 0 0,.int .i64 0] 313)):=(Below.refl _ _).alloc (Nat.le_refl _) _
  have R0:=five_new w 313 (.int .i64 0) (.int .i64 0) (.int .i64 0) (.slice none 0 0) (.int .i64 0)
  have HP:=implParse_c s hs (w.alloc (.cells #[.int .i64 0,.int .i64 0,.int .i64 0,.slice none 0 0,.int .i64 0] 313))
  have hs0:(w.alloc (.cells #[.int .i64 0,.int .i64 0,.int .i64 0,.slice none 0 0,.int .i64 0] 313)).heap.size=w.heap.size+1:=by simp
  unfold verOut at HP
  rw [hs0] at HP
  obtain ⟨y1,hy1⟩: ∃ y,y=resN s 0:=⟨_,rfl⟩
  obtain ⟨y2,hy2⟩: ∃ y,y=resN s 1:=⟨_,rfl⟩
  obtain ⟨y3,hy3⟩: ∃ y,y=resN s 2:=⟨_,rfl⟩
  obtain ⟨py,hpy⟩: ∃ y,y=resP s:=⟨_,rfl⟩
  obtain ⟨ok,hok⟩: ∃ y,y=resOk s:=⟨_,rfl⟩
  rw [←hy1, ←hy2, ←hy3, ←hpy, ←hok] at HP
  have HV:Hid (ok=true→∀ u,partOut s u=.tuple #[.agg #[.int .i64 y1,.int .i64 y2,.int .i64 y3,u,.int .i64 3],.bool true]∧partP s=py):=fun h u=>by rw [hy1,hy2,hy3,hpy];exact partOut_ver (hok▸h) u
  have HN:Hid (ok=false→partW (splitS s 46)=none→partOut s (.slice none 0 0)=.tuple #[.agg #[.int .i64 0,.int .i64 0,.int .i64 0,.slice none 0 0,.int .i64 0],.bool false]∧partP s=[]):=fun h h2=>partOut_none (hok▸h) h2
  have HM:Hid (ok=false→∀ a b t,partW (splitS s 46)=some (a,b,t)→partOut s (.slice none 0 0)=.tuple #[.agg #[.int .i64 a,.int .i64 b,.int .i64 0,.slice none 0 0,.int .i64 t],.bool true]∧partP s=[]):=fun h a b t h2=>partOut_some (hok▸h) h2
  have HS:Hid (∀ w1,Calls Tryz.prog 221 #[.string s,.int .u8 46] w1 fun e w'=>∃ v,e=.returned v∧w'.ownsRow w1.heap.size 9 1 v (splitS s 46).length (strsV (splitS s 46))∧Below w1.heap.size w1 w'):=fun w1=>implSplit_c s 46 w1 hs (by omega) (by omega)
  have hL:=splitS_len s 46
  have hL0:=splitS_pos s 46
  have hpc:=splitS_piece s 46
  obtain ⟨ws,hws⟩: ∃ ws,ws=splitS s 46:=⟨_,rfl⟩
  rw [←hws] at HN HM HS hL hL0 hpc
  clear hy1 hy2 hy3 hpy hok hws
  go_enter Tryz.func274,Tryz.ntmps274
  go_wp2_with fail
  go_at_call 258
  refine HP.mono ?_
  rintro e w1 ⟨uy,rfl,oy,b1⟩
  have R1:Five w1 w.heap.size 313 (.int .i64 0) (.int .i64 0) (.int .i64 0) (.slice none 0 0) (.int .i64 0):=(b1.block _ (by omega)).trans R0
  have k1:=hbx.trans (b1.mono (by omega))
  obtain ⟨qy,ny,cy,hu⟩: ∃ q n c,uy=.slice q n c:=by rcases oy.2 with ⟨rfl,_⟩|⟨g,cap,cur,rfl,_⟩<;>exact ⟨_,_,_,rfl⟩
  subst hu
  have tA:Below w1.heap.size w1 (w1.alloc (.cells #[.int .i64 y1,.int .i64 y2,.int .i64 y3,.slice qy ny cy] 30)):=(Below.refl _ _).alloc (Nat.le_refl _) _
  have R2:=R1.keep tA
  have k2:=k1.trans (tA.mono k1.size)
  have oy2:=owns_of_below oy tA
  have l1:=R1.lt
  clear HP R0 b1 hbx
  cases ok with
  |true=>
    obtain ⟨eO,eP⟩:=HV.out rfl (.slice qy ny cy)
    obtain ⟨x0,x1,x2,x3,x4⟩:=R1.cells
    have fx:=vblk_frozen R1
    have HP2:Hid (partP s=py):=eP
    have HO:Hid (partOut s (.slice qy ny cy)=.tuple #[.agg #[.int .i64 y1,.int .i64 y2,.int .i64 y3,.slice qy ny cy,.int .i64 3],.bool true]):=eO
    clear HV HN HM HS eO eP
    go_wp2_with fail
    refine bodyPost_ret (v:=.tuple #[.agg #[.int .i64 y1,.int .i64 y2,.int .i64 y3,.slice qy ny cy,.int .i64 3],.bool true]) (by simp [results,Tryz.results274,go_sem,x0,x1,x2,x3,x4,l1]) rfl ⟨.slice qy ny cy,by rw [HO.out],?_,?_⟩
    · rw [HP2.out]
      refine owns_base (base:=w.heap.size+1) ?_ (by omega)
      refine World.ownsRow.alloc ?_ _
      repeat (refine owns_set ?_ (by simp) _)
      exact oy
    · refine Below.alloc ?_ (by simp;omega) _
      repeat (refine Below.setCell ?_ (by simp<;>omega) _)
      exact k1
  |false=>
  clear HV oy oy2 R1
  go_wp2_with fail
  generalize (w1.alloc (.cells #[.int .i64 y1,.int .i64 y2,.int .i64 y3,.slice qy ny cy] 30))=W2 at R2 k2 tA ⊢
  go_at_call 221
  refine (HS.out _).mono ?_
  rintro e w3 ⟨v3,rfl,o3,b3⟩
  have R3:=R2.keep b3
  have k3:=k2.trans (b3.mono k2.size)
  have rw3:=reads_of_owns o3
  obtain ⟨qw,cw,hv,hcw,hc3⟩:=reads_strs rw3
  subst hv
  have l3:=R3.lt
  clear HS R2 b3 k2 tA k1 o3
  rcases hc3 with hw0|⟨bq,off,rfl,hbq,hcell⟩
  · rw [hw0] at hL0;simp at hL0
  go_wp2_with fail
  go_loop [7] (fun vk=>∃ k:Nat,1≤k∧k≤ws.length∧vk=.int .i64 (k:Int)∧Hid (stripK ws k=toldW ws)) (fun vk=>(intOf vk).toNat)
  case atStart=>exact ⟨ws.length,by omega,Nat.le_refl _,rfl,rfl⟩
  case round=>
    obtain ⟨k,hk1,hkL,rfl,hst⟩:=hrel
    by_cases h1:1<k
    · have hcx:=hcell (k-1) (by omega)
      have hgd:ws.getD (k-1) ⟨#[]⟩=ws[k-1]:=by simp [List.getD_eq_getElem?_getD,show k-1<ws.length by omega]
      have h1':(1:Int)<(k:Int):=by omega
      have hkm:(k:Int)-1=((k-1:Nat):Int):=by omega
      obtain ⟨x,hx⟩: ∃ x,x=ws[k-1]:=⟨_,rfl⟩
      rw [←hx] at hcx hgd
      by_cases hxx:x=⟨#[120]⟩
      · have HS2:Hid (stripK ws (k-1)=toldW ws):=by show _=_;rw [←hst.out,stripK_step h1 hkL (hgd.trans hxx)]
        subst hxx
        have hkn:((k-1:Nat):Int)<(ws.length:Int):=by omega
        clear hcell rw3 hgd hx hst
        go_wp2_with fail
        go_round
        case rel=>exact ⟨k-1,by omega,by omega,by go_num,HS2⟩
        case measure=>simp [intOf];omega
      · have HK:Hid (toldW ws=k):=by show _=_;rw [←hst.out];exact stripK_stop (by omega) (fun h=>hxx (hgd.symm.trans h.2))
        have hxb:(x.toList == [120])=false:=by rw [beq_eq_false_iff_ne];intro h;exact hxx (bytes_eq_of_toList (by rw [h,ByteArray.toList_eq]))
        have hkn:((k-1:Nat):Int)<(ws.length:Int):=by omega
        clear hst hx hgd
        by_cases h3:3<ws.length
        · have HPW:Hid (partW ws=none):=by show _=_;rw [partW,if_pos (.inl h3)]
          have h3':(3:Int)<(ws.length:Int):=by omega
          obtain ⟨x0,x1,x2,x3,x4⟩:=R3.cells
          have fx:=vblk_frozen R3
          clear hcell rw3 h3
          obtain ⟨eO,eP⟩:=HN.out (by first|rfl|exact True.intro) HPW.out
          have HO:Hid (partOut s (.slice none 0 0)=.tuple #[.agg #[.int .i64 0,.int .i64 0,.int .i64 0,.slice none 0 0,.int .i64 0],.bool false]):=eO
          have HP2:Hid (partP s=[]):=eP
          clear HN HM eO eP
          go_wp2_with fail
          refine bodyPost_ret (v:=.tuple #[.agg #[.int .i64 0,.int .i64 0,.int .i64 0,.slice none 0 0,.int .i64 0],.bool false]) (by simp [results,Tryz.results274,go_sem,x0,x1,x2,x3,x4]) rfl ⟨.slice none 0 0,by rw [HO.out],(by rw [HP2.out];exact ⟨rfl,.inl ⟨rfl,rfl⟩⟩),?_⟩
          repeat (refine Below.setCell ?_ (by simp<;>omega) _)
          exact k3
        by_cases he3:k=3
        · have HPW:Hid (partW ws=none):=by show _=_;rw [partW,if_pos (.inr (HK.out.trans he3))]
          subst he3
          have h3': ¬(3:Int)<(ws.length:Int):=by omega
          obtain ⟨x0,x1,x2,x3,x4⟩:=R3.cells
          have fx:=vblk_frozen R3
          clear hcell rw3 h3
          obtain ⟨eO,eP⟩:=HN.out (by first|rfl|exact True.intro) HPW.out
          have HO:Hid (partOut s (.slice none 0 0)=.tuple #[.agg #[.int .i64 0,.int .i64 0,.int .i64 0,.slice none 0 0,.int .i64 0],.bool false]):=eO
          have HP2:Hid (partP s=[]):=eP
          clear HN HM eO eP
          go_wp2_with fail
          refine bodyPost_ret (v:=.tuple #[.agg #[.int .i64 0,.int .i64 0,.int .i64 0,.slice none 0 0,.int .i64 0],.bool false]) (by simp [results,Tryz.results274,go_sem,x0,x1,x2,x3,x4]) rfl ⟨.slice none 0 0,by rw [HO.out],(by rw [HP2.out];exact ⟨rfl,.inl ⟨rfl,rfl⟩⟩),?_⟩
          repeat (refine Below.setCell ?_ (by simp<;>omega) _)
          exact k3
        have hk2:k≤2:=by omega
        have h3': ¬(3:Int)<(ws.length:Int):=by omega
        have he3':((k:Int) == 3)=false:=by rw [beq_eq_false_iff_ne];omega
        have hkc:(k:Int)≤(cw:Int):=by omega
        have tB:Below w3.heap.size w3 (w3.alloc (.cells #[.int .i64 0,.int .i64 0,.int .i64 0] 342)):=(Below.refl _ _).alloc (Nat.le_refl _) _
        have T0:=three_new w3 342 (.int .i64 0) (.int .i64 0) (.int .i64 0)
        have h3n:=h3
        clear h3 he3
        go_wp2_with fail
        go_loopw [49] (fun vi wr=>∃ (i:Nat) (c0 c1:Int),i≤k∧vi=.int .i64 (i:Int)∧Hid ((∀ j,j<i→numGood (ws.getD j ⟨#[]⟩) 9999=true)∧(0<i→c0=numOut (ws.getD 0 ⟨#[]⟩) 9999)∧(1<i→c1=numOut (ws.getD 1 ⟨#[]⟩) 9999)∧(i≤1→c1=0))∧Three wr w3.heap.size 342 (.int .i64 c0) (.int .i64 c1) (.int .i64 0)∧Below w3.heap.size w3 wr) (fun vi _=>k-(intOf vi).toNat)
        case atStart=>exact ⟨0,0,0,Nat.zero_le _,rfl,⟨fun j hj=>by omega,fun h=>by omega,fun h=>by omega,fun _=>rfl⟩,T0,tB⟩
        case round=>
          obtain ⟨i,c0,c1,hik,rfl,hh,hT,hbr⟩:=hrel
          have hR:=(hbr.block _ l3).trans R3
          have hRf:Five wr w.heap.size 313 (.int .i64 0) (.int .i64 0) (.int .i64 0) (.slice none 0 0) (.int .i64 0):=hR
          have hm:=k3.trans (hbr.mono k3.size)
          clear T0 tB hR
          by_cases hlt:i<k
          · have hcx:=hcell i (by omega)
            rw [←hbr.cell (p:=⟨bq,off+i,none⟩) hbq] at hcx
            have hsz:ws[i].size≤1048576:=by have:=hpc ws[i] (List.getElem_mem _);omega
            have hgd:ws.getD i ⟨#[]⟩=ws[i]:=by simp [List.getD_eq_getElem?_getD,show i<ws.length by omega]
            obtain ⟨x,hx⟩: ∃ x,x=ws[i]:=⟨_,rfl⟩
            rw [←hx] at hcx hsz hgd
            have HG:Hid (ws.getD i ⟨#[]⟩=x):=hgd
            obtain ⟨m,hm0⟩: ∃ m,m=numOut x 9999:=⟨_,rfl⟩
            obtain ⟨g,hg0⟩: ∃ g,g=numGood x 9999:=⟨_,rfl⟩
            have HC:Hid (∀ w1,Calls Tryz.prog 301 #[.string x,.int .i64 9999] w1 fun e w'=>e=.returned (.tuple #[.int .i64 m,.bool g])∧w1=w'):=fun w1=>by rw [hm0,hg0];exact implNum_c x 9999 (by unfold maxLen;omega) w1
            have HMG:Hid (m=numOut x 9999∧g=numGood x 9999):=⟨hm0,hg0⟩
            have hki:(i:Int)<(k:Int):=by omega
            obtain ⟨z0,z1,z2⟩:=hT.cells
            have fz:=vblk_frozen hT
            clear hcell rw3 hgd hx hm0 hg0
            cases g with
            |false=>
              have HPW:Hid (partW ws=none):=by
                show _=_
                have hb:numGood (ws.getD i ⟨#[]⟩) 9999=false:=by rw [HG.out];exact HMG.out.2.symm
                rw [partW,if_neg (by rw [HK.out];omega)]
                rcases (show k=1∨k=2 by omega) with h1|h2
                · rw [if_pos (HK.out.trans h1)]
                  have:i=0:=by omega
                  subst this
                  rw [hb];rfl
                · rw [if_neg (by rw [HK.out];omega)]
                  rcases (show i=0∨i=1 by omega) with h0|h0
                  · subst h0;rw [hb];rfl
                  · subst h0;rw [hb,Bool.and_false];rfl
              obtain ⟨x0,x1,x2,x3,x4⟩:=hRf.cells
              have fx:=vblk_frozen hRf
              obtain ⟨eO,eP⟩:=HN.out (by first|rfl|exact True.intro) HPW.out
              have HO:Hid (partOut s (.slice none 0 0)=.tuple #[.agg #[.int .i64 0,.int .i64 0,.int .i64 0,.slice none 0 0,.int .i64 0],.bool false]):=eO
              have HP2:Hid (partP s=[]):=eP
              clear HN HM eO eP
              go_wp2_with (go_at_call 301;refine (HC.out _).mono ?_;rintro e w9 ⟨rfl,rfl⟩)
              refine bodyPost_ret (v:=.tuple #[.agg #[.int .i64 0,.int .i64 0,.int .i64 0,.slice none 0 0,.int .i64 0],.bool false]) (by simp [results,Tryz.results274,go_sem,x0,x1,x2,x3,x4]) rfl ⟨.slice none 0 0,by rw [HO.out],(by rw [HP2.out];exact ⟨rfl,.inl ⟨rfl,rfl⟩⟩),?_⟩
              repeat (refine Below.setCell ?_ (by simp<;>omega) _)
              exact hm
            |true=>
              rcases (show i=0∨i=1 by omega) with h0|h0
              · subst h0
                try rw [Nat.add_zero] at hcx
                go_wp2_with (go_at_call 301;refine (HC.out _).mono ?_;rintro e w9 ⟨rfl,rfl⟩)
                go_roundw
                case rel=>exact ⟨1,m,c1,by omega,by go_num,⟨fun j hj=>(by have:j=0:=(by omega);subst this;rw [HG.out];exact HMG.out.2.symm),fun _=>(by rw [HG.out];exact HMG.out.1),fun h=>by omega,fun _=>hh.out.2.2.2 (by omega)⟩,(hT.set _).1,hbr.setCell (Nat.le_refl _) _⟩
                case measure=>simp [intOf];omega
              · subst h0
                go_wp2_with (go_at_call 301;refine (HC.out _).mono ?_;rintro e w9 ⟨rfl,rfl⟩)
                go_roundw
                case rel=>exact ⟨2,c0,m,by omega,by go_num,⟨fun j hj=>(by (by_cases e:j=1);(· subst e;rw [HG.out];exact HMG.out.2.symm);(· exact hh.out.1 j (by omega))),fun _=>hh.out.2.1 (by omega),fun _=>(by rw [HG.out];exact HMG.out.1),fun h=>by omega⟩,(hT.set _).2,hbr.setCell (Nat.le_refl _) _⟩
                case measure=>simp [intOf];omega
          · have he:i=k:=by omega
            subst he
            have HPW:Hid (partW ws=some (c0,c1,(i:Int))):=by
              show _=_
              obtain ⟨g1,g2,g3,g4⟩:=hh.out
              rw [partW,if_neg (by rw [HK.out];omega)]
              rcases (show i=1∨i=2 by omega) with h1|h2
              · have e1:(i:Int)=1:=by omega
                rw [if_pos (HK.out.trans h1),if_pos (g1 0 (by omega)),g2 (by omega),g4 (by omega),e1]
              · have e1:(i:Int)=2:=by omega
                rw [if_neg (by rw [HK.out];omega),g1 0 (by omega),g1 1 (by omega),g2 (by omega),g3 (by omega),e1]
                rfl
            obtain ⟨eO,eP⟩:=HM.out (by first|rfl|exact True.intro) _ _ _ HPW.out
            have HO:Hid (partOut s (.slice none 0 0)=.tuple #[.agg #[.int .i64 c0,.int .i64 c1,.int .i64 0,.slice none 0 0,.int .i64 (i:Int)],.bool true]):=eO
            have HP2:Hid (partP s=[]):=eP
            obtain ⟨z0,z1,z2⟩:=hT.cells
            obtain ⟨x0,x1,x2,x3,x4⟩:=hRf.cells
            have fx:=vblk_frozen hRf
            clear HN HM eO eP hcell rw3
            go_wp2_with fail
            refine bodyPost_ret (v:=.tuple #[.agg #[.int .i64 c0,.int .i64 c1,.int .i64 0,.slice none 0 0,.int .i64 (i:Int)],.bool true]) (by simp [results,Tryz.results274,go_sem,x0,x1,x2,x3,x4]) rfl ⟨.slice none 0 0,by rw [HO.out],(by rw [HP2.out];exact ⟨rfl,.inl ⟨rfl,rfl⟩⟩),?_⟩
            repeat (refine Below.setCell ?_ (by simp<;>omega) _)
            exact hm
    · have hk:k=1:=by omega
      have HK:Hid (toldW ws=k):=by show _=_;rw [←hst.out];exact stripK_stop (by omega) (fun h=>h1 h.1)
      have h1': ¬(1:Int)<(k:Int):=by omega
      clear hst hk
      by_cases h3:3<ws.length
      · have HPW:Hid (partW ws=none):=by show _=_;rw [partW,if_pos (.inl h3)]
        have h3':(3:Int)<(ws.length:Int):=by omega
        obtain ⟨x0,x1,x2,x3,x4⟩:=R3.cells
        have fx:=vblk_frozen R3
        clear hcell rw3 h3
        obtain ⟨eO,eP⟩:=HN.out (by first|rfl|exact True.intro) HPW.out
        have HO:Hid (partOut s (.slice none 0 0)=.tuple #[.agg #[.int .i64 0,.int .i64 0,.int .i64 0,.slice none 0 0,.int .i64 0],.bool false]):=eO
        have HP2:Hid (partP s=[]):=eP
        clear HN HM eO eP
        go_wp2_with fail
        refine bodyPost_ret (v:=.tuple #[.agg #[.int .i64 0,.int .i64 0,.int .i64 0,.slice none 0 0,.int .i64 0],.bool false]) (by simp [results,Tryz.results274,go_sem,x0,x1,x2,x3,x4]) rfl ⟨.slice none 0 0,by rw [HO.out],(by rw [HP2.out];exact ⟨rfl,.inl ⟨rfl,rfl⟩⟩),?_⟩
        repeat (refine Below.setCell ?_ (by simp<;>omega) _)
        exact k3
      by_cases he3:k=3
      · omega
      have hk2:k≤2:=by omega
      have h3': ¬(3:Int)<(ws.length:Int):=by omega
      have he3':((k:Int) == 3)=false:=by rw [beq_eq_false_iff_ne];omega
      have hkc:(k:Int)≤(cw:Int):=by omega
      have tB:Below w3.heap.size w3 (w3.alloc (.cells #[.int .i64 0,.int .i64 0,.int .i64 0] 342)):=(Below.refl _ _).alloc (Nat.le_refl _) _
      have T0:=three_new w3 342 (.int .i64 0) (.int .i64 0) (.int .i64 0)
      have h3n:=h3
      clear h3 he3
      go_wp2_with fail
      go_loopw [49] (fun vi wr=>∃ (i:Nat) (c0 c1:Int),i≤k∧vi=.int .i64 (i:Int)∧Hid ((∀ j,j<i→numGood (ws.getD j ⟨#[]⟩) 9999=true)∧(0<i→c0=numOut (ws.getD 0 ⟨#[]⟩) 9999)∧(1<i→c1=numOut (ws.getD 1 ⟨#[]⟩) 9999)∧(i≤1→c1=0))∧Three wr w3.heap.size 342 (.int .i64 c0) (.int .i64 c1) (.int .i64 0)∧Below w3.heap.size w3 wr) (fun vi _=>k-(intOf vi).toNat)
      case atStart=>exact ⟨0,0,0,Nat.zero_le _,rfl,⟨fun j hj=>by omega,fun h=>by omega,fun h=>by omega,fun _=>rfl⟩,T0,tB⟩
      case round=>
        obtain ⟨i,c0,c1,hik,rfl,hh,hT,hbr⟩:=hrel
        have hR:=(hbr.block _ l3).trans R3
        have hRf:Five wr w.heap.size 313 (.int .i64 0) (.int .i64 0) (.int .i64 0) (.slice none 0 0) (.int .i64 0):=hR
        have hm:=k3.trans (hbr.mono k3.size)
        clear T0 tB hR
        by_cases hlt:i<k
        · have hcx:=hcell i (by omega)
          rw [←hbr.cell (p:=⟨bq,off+i,none⟩) hbq] at hcx
          have hsz:ws[i].size≤1048576:=by have:=hpc ws[i] (List.getElem_mem _);omega
          have hgd:ws.getD i ⟨#[]⟩=ws[i]:=by simp [List.getD_eq_getElem?_getD,show i<ws.length by omega]
          obtain ⟨x,hx⟩: ∃ x,x=ws[i]:=⟨_,rfl⟩
          rw [←hx] at hcx hsz hgd
          have HG:Hid (ws.getD i ⟨#[]⟩=x):=hgd
          obtain ⟨m,hm0⟩: ∃ m,m=numOut x 9999:=⟨_,rfl⟩
          obtain ⟨g,hg0⟩: ∃ g,g=numGood x 9999:=⟨_,rfl⟩
          have HC:Hid (∀ w1,Calls Tryz.prog 301 #[.string x,.int .i64 9999] w1 fun e w'=>e=.returned (.tuple #[.int .i64 m,.bool g])∧w1=w'):=fun w1=>by rw [hm0,hg0];exact implNum_c x 9999 (by unfold maxLen;omega) w1
          have HMG:Hid (m=numOut x 9999∧g=numGood x 9999):=⟨hm0,hg0⟩
          have hki:(i:Int)<(k:Int):=by omega
          obtain ⟨z0,z1,z2⟩:=hT.cells
          have fz:=vblk_frozen hT
          clear hcell rw3 hgd hx hm0 hg0
          cases g with
          |false=>
            have HPW:Hid (partW ws=none):=by
              show _=_
              have hb:numGood (ws.getD i ⟨#[]⟩) 9999=false:=by rw [HG.out];exact HMG.out.2.symm
              rw [partW,if_neg (by rw [HK.out];omega)]
              rcases (show k=1∨k=2 by omega) with h1|h2
              · rw [if_pos (HK.out.trans h1)]
                have:i=0:=by omega
                subst this
                rw [hb];rfl
              · rw [if_neg (by rw [HK.out];omega)]
                rcases (show i=0∨i=1 by omega) with h0|h0
                · subst h0;rw [hb];rfl
                · subst h0;rw [hb,Bool.and_false];rfl
            obtain ⟨x0,x1,x2,x3,x4⟩:=hRf.cells
            have fx:=vblk_frozen hRf
            obtain ⟨eO,eP⟩:=HN.out (by first|rfl|exact True.intro) HPW.out
            have HO:Hid (partOut s (.slice none 0 0)=.tuple #[.agg #[.int .i64 0,.int .i64 0,.int .i64 0,.slice none 0 0,.int .i64 0],.bool false]):=eO
            have HP2:Hid (partP s=[]):=eP
            clear HN HM eO eP
            go_wp2_with (go_at_call 301;refine (HC.out _).mono ?_;rintro e w9 ⟨rfl,rfl⟩)
            refine bodyPost_ret (v:=.tuple #[.agg #[.int .i64 0,.int .i64 0,.int .i64 0,.slice none 0 0,.int .i64 0],.bool false]) (by simp [results,Tryz.results274,go_sem,x0,x1,x2,x3,x4]) rfl ⟨.slice none 0 0,by rw [HO.out],(by rw [HP2.out];exact ⟨rfl,.inl ⟨rfl,rfl⟩⟩),?_⟩
            repeat (refine Below.setCell ?_ (by simp<;>omega) _)
            exact hm
          |true=>
            rcases (show i=0∨i=1 by omega) with h0|h0
            · subst h0
              try rw [Nat.add_zero] at hcx
              go_wp2_with (go_at_call 301;refine (HC.out _).mono ?_;rintro e w9 ⟨rfl,rfl⟩)
              go_roundw
              case rel=>exact ⟨1,m,c1,by omega,by go_num,⟨fun j hj=>(by have:j=0:=(by omega);subst this;rw [HG.out];exact HMG.out.2.symm),fun _=>(by rw [HG.out];exact HMG.out.1),fun h=>by omega,fun _=>hh.out.2.2.2 (by omega)⟩,(hT.set _).1,hbr.setCell (Nat.le_refl _) _⟩
              case measure=>simp [intOf];omega
            · omega
        · have he:i=k:=by omega
          subst he
          have HPW:Hid (partW ws=some (c0,c1,(i:Int))):=by
            show _=_
            obtain ⟨g1,g2,g3,g4⟩:=hh.out
            rw [partW,if_neg (by rw [HK.out];omega)]
            rcases (show i=1∨i=2 by omega) with h1|h2
            · have e1:(i:Int)=1:=by omega
              rw [if_pos (HK.out.trans h1),if_pos (g1 0 (by omega)),g2 (by omega),g4 (by omega),e1]
            · have e1:(i:Int)=2:=by omega
              rw [if_neg (by rw [HK.out];omega),g1 0 (by omega),g1 1 (by omega),g2 (by omega),g3 (by omega),e1]
              rfl
          obtain ⟨eO,eP⟩:=HM.out (by first|rfl|exact True.intro) _ _ _ HPW.out
          have HO:Hid (partOut s (.slice none 0 0)=.tuple #[.agg #[.int .i64 c0,.int .i64 c1,.int .i64 0,.slice none 0 0,.int .i64 (i:Int)],.bool true]):=eO
          have HP2:Hid (partP s=[]):=eP
          obtain ⟨z0,z1,z2⟩:=hT.cells
          obtain ⟨x0,x1,x2,x3,x4⟩:=hRf.cells
          have fx:=vblk_frozen hRf
          clear HN HM eO eP hcell rw3
          go_wp2_with fail
          refine bodyPost_ret (v:=.tuple #[.agg #[.int .i64 c0,.int .i64 c1,.int .i64 0,.slice none 0 0,.int .i64 (i:Int)],.bool true]) (by simp [results,Tryz.results274,go_sem,x0,x1,x2,x3,x4]) rfl ⟨.slice none 0 0,by rw [HO.out],(by rw [HP2.out];exact ⟨rfl,.inl ⟨rfl,rfl⟩⟩),?_⟩
          repeat (refine Below.setCell ?_ (by simp<;>omega) _)
          exact hm
def goodD (d:CmpD):Bool:=verB d.a d.b d.c d.ps
theorem CmpsOwn.at {lo:Nat} {w:World} {v:Value} {ds:List CmpD} (h:CmpsOwn lo w v ds): ∃ (q:Option Addr) (cap:Nat) (us:Nat→Value),v=.slice q ds.length cap∧(ds=[]∨∃ g,q=some ⟨g,0,none⟩∧lo≤g∧g<w.heap.size∧∀ i (h:i<ds.length),w.cell? ⟨g,i*5,none⟩=some (.int .i64 ds[i].o)∧w.cell? ⟨g,i*5+1,none⟩=some (.int .i64 ds[i].a)∧w.cell? ⟨g,i*5+2,none⟩=some (.int .i64 ds[i].b)∧w.cell? ⟨g,i*5+3,none⟩=some (.int .i64 ds[i].c)∧w.cell? ⟨g,i*5+4,none⟩=some (us i))∧∀ i (h:i<ds.length),Reads w (us i) (strsV ds[i].ps):=by
 obtain ⟨ys,us,h1,h2,h3⟩:=h
 have hr: ∀ i (h:i<ds.length),Reads w (us i) (strsV ds[i].ps):=fun i hi=>reads_of_owns (h2 i hi).2
 have hlen:=h1.1
 rcases h1.2 with ⟨rfl,hn⟩|⟨g,cap,cur,rfl,hg,hh,hx⟩
 ·exact ⟨none,0,us,by rw [hn],.inl (List.eq_nil_of_length_eq_zero hn),hr⟩
 ·have hl:=(Array.getElem?_eq_some_iff.1 hh).1
  refine ⟨_,cap,us,rfl,.inr ⟨g,rfl,hg,hl,fun i hi=>?_⟩,hr⟩
  obtain ⟨f0,f1,f2,f3,f4⟩:=(h2 i hi).1
  refine ⟨?_,?_,?_,?_,?_⟩<;>rw [h1.cellAt _ (by omega)]<;>assumption
theorem badCmp_c (d:CmpD) (u:Value) (w:World) (hu:Reads w u (strsV d.ps)) (hb:bulkS d.ps≤1048576):
  Calls Tryz.prog 277 #[.agg #[.int .i64 d.o,.int .i64 d.a,.int .i64 d.b,.int .i64 d.c,u]] w fun e w'=>e=.returned (.bool (!goodD d))∧Below w.heap.size w w':=by
 have hbx: ∀ o,Below w.heap.size w (w.alloc o):=fun o=>(Below.refl _ _).alloc (Nat.le_refl _) _
 have HV:Hid (∀ o,Calls Tryz.prog 161 #[.agg #[.int .i64 d.a,.int .i64 d.b,.int .i64 d.c,u]] (w.alloc o) fun e w'=>e=.returned (.bool (goodD d))∧Below (w.alloc o).heap.size (w.alloc o) w'):=fun o=>implVerOk_c _ _ _ _ d.ps _ (hu.below (hbx o)) hb
 obtain ⟨q,cap,rfl,_,_⟩:=reads_strs hu
 clear hu
 go_enter Tryz.func277,Tryz.ntmps277
 go_wp2_with (go_at_call 161;refine (HV.out _).mono ?_;rintro e w1 ⟨rfl,b1⟩)
 go_ret
 exact ⟨rfl,(hbx _).trans (b1.mono (by simp))⟩
theorem indexBad_c (lo:Nat) (v:Value) (ds:List CmpD) (w:World) (hv:CmpsOwn lo w v ds) (hl:ds.length≤1048576) (hb: ∀ d∈ds,bulkS d.ps≤1048576):
  Calls Tryz.prog 305 #[v,.func (.func 277) #[] #[]] w fun e w'=>∃ r:Int,e=.returned (.int .i64 r)∧decide (r≥0)=(!ds.all goodD)∧Below w.heap.size w w':=by
 obtain ⟨q,cap,us,rfl,ha,hr⟩:=hv.at
 clear hv
 go_enter Tryz.func305,Tryz.ntmps305
 go_wp2_with fail
 go_loopw [8] (fun vi wr=>∃ k:Nat,k≤ds.length∧vi=.int .i64 (k:Int)∧Hid ((ds.take k).all goodD=true)∧Below w.heap.size w wr) (fun vi _=>ds.length-(intOf vi).toNat)
 case atStart=>exact ⟨0,Nat.zero_le _,rfl,(by show _=_;simp),Below.refl _ _⟩
 case round=>
  obtain ⟨k,hk,rfl,hall,hbr⟩:=hrel
  by_cases hlt:k<ds.length
  ·rcases ha with rfl|⟨g,rfl,_,hg,ha⟩
   ·simp at hlt
   obtain ⟨e0,e1,e2,e3,e4⟩:=ha k hlt
   rw [←hbr.cell (by simpa using hg)] at e0 e1 e2 e3 e4
   have hu:=(hr k hlt).below hbr
   have hbk:=hb _ (List.getElem_mem hlt)
   have HT:Hid (goodD ds[k]=true→(ds.take (k+1)).all goodD=true):=fun h=>by rw [List.take_succ_eq_append_getElem hlt,List.all_append,hall.out];simp [h]
   have HF:Hid (goodD ds[k]=false→ds.all goodD=false):=fun h=>by rw [List.all_eq_false];exact ⟨_,List.getElem_mem hlt,by simp [h]⟩
   obtain ⟨d,hd⟩: ∃ d,d=ds[k]:=⟨_,rfl⟩
   rw [←hd] at e0 e1 e2 e3 hu hbk HT HF
   obtain ⟨u,hu0⟩: ∃ u,u=us k:=⟨_,rfl⟩
   rw [←hu0] at e4 hu
   obtain ⟨r,hr0⟩: ∃ r,r=goodD d:=⟨_,rfl⟩
   have HC:Hid (Calls Tryz.prog 277 #[.agg #[.int .i64 d.o,.int .i64 d.a,.int .i64 d.b,.int .i64 d.c,u]] wr fun e w'=>e=.returned (.bool (!r))∧Below wr.heap.size wr w'):=by rw [hr0];exact badCmp_c d u wr hu hbk
   rw [←hr0] at HT HF
   obtain ⟨uq,ucap,hu2,_,_⟩:=reads_strs hu
   subst hu2
   have hki:(k:Int)<(ds.length:Int):=by omega
   clear ha hr hd hu0 hr0 hu hbk hb
   cases r with
   |false=>
    have HF2:Hid (ds.all goodD=false):=HF.out rfl
    clear HT HF
    go_wp2_with (go_at_call 277;refine HC.out.mono ?_;rintro e w1 ⟨rfl,b1⟩)
    go_ret
    exact ⟨(k:Int),rfl,by rw [HF2.out];exact decide_eq_true (by omega),hbr.trans (b1.mono hbr.size)⟩
   |true=>
    have HT2:Hid ((ds.take (k+1)).all goodD=true):=HT.out rfl
    clear HT HF
    go_wp2_with (go_at_call 277;refine HC.out.mono ?_;rintro e w1 ⟨rfl,b1⟩)
    go_roundw
    case rel=>exact ⟨k+1,by omega,by go_num,HT2,hbr.trans (b1.mono hbr.size)⟩
    case measure=>simp [intOf];omega
  ·have he:k=ds.length:=by omega
   subst he
   have HE:Hid (ds.all goodD=true):=by have:=hall.out;rw [List.take_length] at this;exact this
   clear ha hr hall
   go_wp2_with fail
   go_ret
   exact ⟨-1,rfl,by rw [HE.out];rfl,hbr⟩
theorem containsBad_c (lo:Nat) (v:Value) (ds:List CmpD) (w:World) (hv:CmpsOwn lo w v ds) (hl:ds.length≤1048576) (hb: ∀ d∈ds,bulkS d.ps≤1048576):
  Calls Tryz.prog 276 #[v,.func (.func 277) #[] #[]] w fun e w'=>e=.returned (.bool (!ds.all goodD))∧Below w.heap.size w w':=by
 have HA:=indexBad_c lo v ds w hv hl hb
 obtain ⟨q,cap,us,rfl,_,_⟩:=hv.at
 obtain ⟨R,hR⟩: ∃ R,R=(!ds.all goodD):=⟨_,rfl⟩
 rw [←hR] at HA
 rw [←hR]
 have HA':Hid (Calls Tryz.prog 305 #[.slice q ds.length cap,.func (.func 277) #[] #[]] w fun e w'=>∃ r:Int,e=.returned (.int .i64 r)∧decide (r≥0)=R∧Below w.heap.size w w'):=HA
 clear HA hR hv
 go_enter Tryz.func276,Tryz.ntmps276
 go_wp2_with (go_at_call 305;refine HA'.out.mono ?_;rintro e w1 ⟨r,rfl,hr,b1⟩;have HR:Hid (decide (r≥0)=R):=hr;clear hr)
 go_ret
 exact ⟨by rw [←HR.out];rfl,b1⟩
theorem part_nums {s:ByteArray} (h:partOk s=true):numsOk (partA s) (partB' s) (partC s)∧(partT s=1∨partT s=2∨partT s=3)∧bulkS (partP s)≤27:=by
 cases hr:resOk s with
 |true=>
  have hv:=bk_ver s hr
  obtain ⟨h1,h2,h3⟩:=verB_nums hv
  have hb:=bk_bulk hv
  simp only [partA,partB',partC,partT,partP,partAll,hr,if_true,Option.getD_some]
  exact ⟨⟨in_range h1,in_range h2,in_range h3⟩,.inr (.inr (by simp)),hb⟩
 |false=>
  cases hp:partW (splitS s 46) with
  |none=>simp [partOk,partAll,hr,hp] at h
  |some x=>
   obtain ⟨a,b,t⟩:=x
   have e:partAll s=some (a,b,0,[],t):=by simp [partAll,hr,hp]
   simp only [partA,partB',partC,partT,partP,e,Option.getD_some]
   have hx:(0≤a∧a≤9999)∧(0≤b∧b≤9999)∧(t=1∨t=2):=by
    unfold partW at hp
    split at hp
    ·simp at hp
    split at hp
    ·split at hp
     ·rename_i hg
      simp at hp
      obtain ⟨rfl,rfl,rfl⟩:=hp
      exact ⟨bk_num hg,by omega,.inl rfl⟩
     ·simp at hp
    ·split at hp
     ·rename_i hg
      simp at hp hg
      obtain ⟨rfl,rfl,rfl⟩:=hp
      exact ⟨bk_num hg.1,bk_num hg.2,.inr rfl⟩
     ·simp at hp
   refine ⟨⟨hx.1,hx.2.1,by omega,by omega⟩,?_,by simp [bulkS]⟩
   rcases hx.2.2 with h|h
   ·exact .inl h
   ·exact .inr (.inl h)
def wordD (s:ByteArray):List CmpD:=
 if s=⟨#[42]⟩ then [⟨4,0,0,0,[]⟩] else if partOk (signRest s) then makeC (signOf s) (partA (signRest s)) (partB' (signRest s)) (partC (signRest s)) (partP (signRest s)) (partT (signRest s)) else []
def wordOk (s:ByteArray):Bool:=decide (s=⟨#[42]⟩)||(partOk (signRest s)&&(wordD s).all goodD)
theorem signRest_size (s:ByteArray):(signRest s).size≤s.size:=by
 have h: ∀ n,(signGo s n).2.size≤s.size:=fun n=>by
  induction n with
  |zero=>exact Nat.le_refl _
  |succ n ih=>
   rw [signGo]
   split
   ·show (cutRest s _).size≤_
    unfold cutRest
    split<;>first|(rw [ByteArray.size_extract];omega)|exact Nat.le_refl _
   ·exact ih
 exact h 7
theorem make_bulk (sign a b c:Int) (ps:List ByteArray) (t:Int) (h:bulkS ps≤27): ∀ d∈makeC sign a b c ps t,bulkS d.ps≤1048576:=by
 have hz:bulkS [zeroT]≤1048576:=by decide
 have hn:bulkS ([]:List ByteArray)≤1048576:=by decide
 have hp:bulkS ps≤1048576:=by omega
 unfold makeC
 dsimp only
 intro d hd
 split at hd
 ·simp at hd;rcases hd with rfl|rfl<;>assumption
 split at hd
 ·simp at hd;rcases hd with rfl|rfl<;>assumption
 split at hd
 ·simp at hd;subst hd;assumption
 split at hd
 ·simp at hd;subst hd;assumption
 split at hd
 ·simp at hd;subst hd;assumption
 ·simp at hd;rcases hd with rfl|rfl<;>assumption
theorem make_len (sign a b c:Int) (ps:List ByteArray) (t:Int):(makeC sign a b c ps t).length≤2:=by
  unfold makeC
  dsimp only
  repeat (split; · simp)
  simp
theorem own_nilC (w:World) (lo:Nat):CmpsOwn lo w (.slice none 0 0) []:=
 ⟨[],fun _=>undef,⟨rfl,.inl ⟨rfl,rfl⟩⟩,fun i h=>by simp at h,fun i j h=>by simp at h⟩
theorem cmpsOfWord_c (s:ByteArray) (hs:s.size≤1048576) (w:World) (hsg: ∀ k (h:k<signsT.length),w.cell? ⟨1,k,none⟩=some (.string signsT[k])):
  Calls Tryz.prog 223 #[.string s] w fun e w'=>∃ v,e=.returned (.tuple #[v,.bool (wordOk s)])∧CmpsOwn w.heap.size w' v (wordD s)∧Below w.heap.size w w':=by
 by_cases hst:s=⟨#[42]⟩
 ·have e1:wordOk s=true:=by simp [wordOk,hst]
  have e2:wordD s=[⟨4,0,0,0,[]⟩]:=by simp [wordD,hst]
  rw [e1,e2]
  subst hst
  clear e1 e2 hsg
  go_enter Tryz.func223,Tryz.ntmps223
  go_wp2_with fail
  go_ret2
  exact ⟨_,rfl,one_own ⟨4,0,0,0,[]⟩ rfl (Nat.le_refl _) (owns_nil _ _),(Below.refl _ _).alloc (Nat.le_refl _) _⟩
 have hsb:(s.toList == [42])=false:=by rw [beq_eq_false_iff_ne];intro h;exact hst (bytes_eq_of_toList (by rw [h,ByteArray.toList_eq]))
 have HC:=cutSign_c s hs w hsg
 have hrs:(signRest s).size≤1048576:=Nat.le_trans (signRest_size s) hs
 have HP:Hid (∀ w1,Calls Tryz.prog 274 #[.string (signRest s)] w1 fun e w'=>∃ u,e=.returned (partOut (signRest s) u)∧w'.ownsRow w1.heap.size 9 1 u (partP (signRest s)).length (strsV (partP (signRest s)))∧Below w1.heap.size w1 w'):=fun w1=>parsePart_c _ hrs w1
 have HW:Hid (wordD s=if partOk (signRest s) then makeC (signOf s) (partA (signRest s)) (partB' (signRest s)) (partC (signRest s)) (partP (signRest s)) (partT (signRest s)) else []):=by show _=_;rw [wordD,if_neg hst]
 have HO:Hid (wordOk s=(partOk (signRest s)&&(wordD s).all goodD)):=by show _=_;rw [wordOk,decide_eq_false hst,Bool.false_or]
 have HQ:Hid (partOk (signRest s)=true→numsOk (partA (signRest s)) (partB' (signRest s)) (partC (signRest s))∧(partT (signRest s)=1∨partT (signRest s)=2∨partT (signRest s)=3)∧bulkS (partP (signRest s))≤27):=part_nums
 obtain ⟨D,hD⟩: ∃ D,D=wordD s:=⟨_,rfl⟩
 obtain ⟨K,hK⟩: ∃ K,K=wordOk s:=⟨_,rfl⟩
 rw [←hD, ←hK] at HO
 rw [←hD] at HW
 rw [←hD, ←hK]
 unfold partOut at HP
 obtain ⟨sg,hsg0⟩: ∃ x,x=signOf s:=⟨_,rfl⟩
 obtain ⟨rs,hrs0⟩: ∃ x,x=signRest s:=⟨_,rfl⟩
 rw [←hsg0, ←hrs0] at HC HW
 rw [←hrs0] at HP HO HQ
 obtain ⟨ok,hok⟩: ∃ x,x=partOk rs:=⟨_,rfl⟩
 obtain ⟨pa,hpa⟩: ∃ x,x=partA rs:=⟨_,rfl⟩
 obtain ⟨pb,hpb⟩: ∃ x,x=partB' rs:=⟨_,rfl⟩
 obtain ⟨pc,hpc⟩: ∃ x,x=partC rs:=⟨_,rfl⟩
 obtain ⟨pp,hpp⟩: ∃ x,x=partP rs:=⟨_,rfl⟩
 obtain ⟨pt,hpt⟩: ∃ x,x=partT rs:=⟨_,rfl⟩
 rw [←hok, ←hpa, ←hpb, ←hpc, ←hpp, ←hpt] at HP HQ HW
 rw [←hok] at HO
 clear hD hK hsg0 hrs0 hok hpa hpb hpc hpp hpt hst hsg hrs
 go_enter Tryz.func223,Tryz.ntmps223
 go_wp2_with fail
 go_at_call 273
 refine HC.mono ?_
 rintro e w0 ⟨rfl,rfl⟩
 go_wp2_with fail
 go_at_call 274
 refine (HP.out _).mono ?_
 rintro e w1 ⟨u,rfl,o1,b1⟩
 obtain ⟨q,n,cap,hu⟩: ∃ q n c,u=.slice q n c:=by rcases o1.2 with ⟨rfl,_⟩|⟨g,cap,cur,rfl,_⟩<;>exact ⟨_,_,_,rfl⟩
 subst hu
 have tA:Below w1.heap.size w1 (w1.alloc (.cells #[.int .i64 pa,.int .i64 pb,.int .i64 pc,.slice q n cap,.int .i64 pt] 313)):=(Below.refl _ _).alloc (Nat.le_refl _) _
 have k2:=b1.trans (tA.mono b1.size)
 have o2:=owns_of_below o1 tA
 clear HC HP
 cases ok with
 |false=>
  have e1:D=[]:=HW.out
  have e2:K=false:=HO.out
  subst e1 e2
  clear HW HO HQ o1 o2
  go_wp2_with fail
  go_ret2
  exact ⟨_,rfl,own_nilC _ _,k2⟩
 |true=>
  obtain ⟨hnum,ht,hbk⟩:=HQ.out rfl
  have e1:D=makeC sg pa pb pc pp pt:=HW.out
  have e2:K=D.all goodD:=HO.out
  have HM:Hid (∀ W,Below w1.heap.size w1 W→Calls Tryz.prog 275 #[.agg #[.int .i64 pa,.int .i64 pb,.int .i64 pc,.slice q n cap,.int .i64 pt],.int .i64 sg] W fun e w'=>∃ v,e=.returned v∧CmpsOwn w.heap.size w' v D∧Below W.heap.size W w'):=fun W h=>by rw [e1];exact cmps_c w.heap.size sg pa pb pc _ pp pt W (Nat.le_trans b1.size h.size) hnum ht (owns_of_below o1 h)
  have hDb: ∀ d∈D,bulkS d.ps≤1048576:=by rw [e1];exact make_bulk _ _ _ _ _ _ hbk
  have hDl:D.length≤1048576:=by rw [e1];have:=make_len sg pa pb pc pp pt;omega
  have HK:Hid (K=D.all goodD):=e2
  clear HW HO HQ e1 e2 hnum ht hbk o1 o2
  go_wp2_with fail
  generalize (w1.alloc (.cells #[.int .i64 pa,.int .i64 pb,.int .i64 pc,.slice q n cap,.int .i64 pt] 313))=W2 at tA k2 ⊢
  go_at_call 275
  refine (HM.out _ tA).mono ?_
  rintro e w3 ⟨v,rfl,hv,b3⟩
  have HB:=containsBad_c w.heap.size v D w3 hv hDl hDb
  rw [←HK.out] at HB
  have k3:=k2.trans (b3.mono k2.size)
  obtain ⟨vq,vcap,us,hv2,_,_⟩:=hv.at
  subst hv2
  go_wp2_with (go_at_call 276;refine HB.mono ?_;rintro e w4 ⟨rfl,b4⟩)
  go_ret2
  exact ⟨_,by simp,hv.below b4,k3.trans (b4.mono k3.size)⟩
end Go.Proofs.YtlfmefojcmpfeaaGreatDoor
