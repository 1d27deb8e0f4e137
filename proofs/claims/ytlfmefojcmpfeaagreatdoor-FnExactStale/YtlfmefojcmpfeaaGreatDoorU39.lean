/-
  Contracts for the walks and pure facts, several texts in one: each theorem says what it proves, and under which conditions.
-/
import Derived.Test.YtlfmefojcmpfeaaGreatDoorUT
import Derived.Test.YtlfmefojcmpfeaaGreatDoorU7
import Derived.Test.YtlfmefojcmpfeaaGreatDoorU38
set_option linter.unusedSimpArgs false
set_option linter.unusedVariables false
set_option maxHeartbeats 16000000
set_option maxRecDepth 100000
namespace Go.Proofs.YtlfmefojcmpfeaaGreatDoor
open Go.RowKit
def pickT (n t:ByteArray):PickD:=⟨n,resN t 0,resN t 1,resN t 2,resP t⟩
def lineP (l:ByteArray):Option PickD:=if resOk (cutD l 64).2.1=true then some (pickT (cutD l 64).1 (cutD l 64).2.1) else none
def lineS (l:ByteArray):Option PickD:=match splitS l 64 with
 |[n,t]=>if resOk t=true then some (pickT n t) else none
 |_=>none
theorem reads_signs (s:ByteArray): ∀ (f i b:Nat) (ns:List Int) (ps:List ByteArray) (inP:Bool) (r:List Int × List ByteArray),f=s.size-i→reads s f i b ns ps inP=some r→∀ j,i≤j→j<s.size→¬((s.data[j]!).toNat:Int)=64
 |0,i,b,ns,ps,inP,r,hf,h,j,hij,hj=>by omega
 |f+1,i,b,ns,ps,inP,r,hf,h,j,hij,hj=>by
  have hi:i<s.size:=by omega
  have hst:=reads_step s i b ns ps inP hi _ rfl
  rw [←hf] at hst
  rw [hst] at h
  split at h
  ·rename_i ht
   by_cases e:i=j
   ·subst e
    intro h64
    rw [h64] at ht
    unfold takeOk endsB at ht
    have hp:preB 64=false:=by decide
    cases inP<;>simp [hp] at ht
   ·exact reads_signs s _ (i+1) _ _ _ _ r (by omega) h j (by omega) hj
  ·cases h
theorem ok_signs {t:ByteArray} (h:resOk t=true): ∀ j,j<t.size→¬((t.data[j]!).toNat:Int)=64:=fun j hj=>by
 unfold resOk resAll at h
 obtain ⟨r,hr⟩:=Option.isSome_iff_exists.1 h
 exact reads_signs t t.size 0 0 [] [] false r (by omega) hr j (Nat.zero_le _) hj
theorem mem_at {t:ByteArray} {k:Nat} {u:UInt8} (h:t.data.toList[k]?=some u):k<t.size∧t.data[k]! =u:=by
 have h2:=(List.getElem?_eq_some_iff.1 h).1
 have h3:t.data.toList.length=t.size:=by rw [Array.length_toList];rfl
 refine ⟨by omega,?_⟩
 have h4:=bang_list t k (by omega)
 rw [h] at h4
 exact (Option.some.inj h4).symm
theorem line_alike (l:ByteArray):lineS l=lineP l:=by
 have hs:splitS l 64=splitGo l 64 (l.size-0) 0 0:=rfl
 have hu:(64:Int).toNat.toUInt8=64:=rfl
 rcases search l 64 0 (Nat.zero_le _) (by decide) (by decide) with ⟨h1,h2⟩|⟨k,h1,hk,h2⟩
 ·rw [vwhole,hu] at h1
  rw [vwhole] at h2
  unfold lineS lineP
  rw [hs,h2,cutD_none h1]
  simp [bk_empty]
 ·rw [vwhole,hu] at h1
  rw [Nat.zero_add] at h2 hk
  unfold lineS lineP
  rw [hs,h2,cutD_some h1]
  rcases search l 64 (k+1) (by omega) (by decide) (by decide) with ⟨h3,h4⟩|⟨k2,h3,hk2,h4⟩
  ·rw [h4]
  ·rw [h4]
   have hne:=vsplitGo_ne l 64 (l.size-(k+1+k2+1)) (k+1+k2+1) (k+1+k2+1)
   obtain ⟨x,xs,hx⟩:=List.exists_cons_of_ne_nil hne
   rw [hx]
   have hbad: ¬resOk (l.extract (k+1) l.size)=true:=fun hok=>by
    rw [hu] at h3
    obtain ⟨h5,h6⟩:=mem_at (Lib.indexByte_some h3).1
    exact ok_signs hok k2 h5 (by rw [h6];rfl)
   simp only [hbad]
   rfl
def lockGo :List ByteArray→List PickD→Option (List PickD)
 |[],_=>none
 |[l],acc=>if l.size=0 then some acc else none
 |l::l2::r,acc=>match lineP l with
  |none=>none
  |some p=>if picksB (acc++[p])=true then lockGo (l2::r) (acc++[p]) else none
def lockR (s:ByteArray):Option (List PickD):=lockGo (splitS s 10) []
theorem lockGo_last (l:ByteArray) (acc:List PickD):lockGo [l] acc=if l.size=0 then some acc else none:=rfl
theorem lockGo_more {L:List ByteArray} (h:L≠[]) (l:ByteArray) (acc:List PickD):lockGo (l::L) acc=match lineP l with
  |none=>none
  |some p=>if picksB (acc++[p])=true then lockGo L (acc++[p]) else none:=by
 obtain ⟨x,xs,rfl⟩:=List.exists_cons_of_ne_nil h
 rfl
theorem rowUpto_append {α:Type} (p:α→Bool) (key:α→ByteArray) (xs ys:List α): ∀ k,k≤xs.length→rowUpto p key (xs++ys) k=rowUpto p key xs k
 |0,_=>rfl
 |k+1,h=>by
  have hk:k<xs.length:=by omega
  have hp:preX (xs++ys) k=preX xs k:=by
   cases k with
   |zero=>rfl
   |succ j=>simp only [preX];rw [List.getElem?_append_left (by omega)]
  rw [rowUpto,rowUpto,rowUpto_append p key xs ys k (by omega),List.getElem?_append_left hk,hp]
theorem rowUpto_pre {α:Type} (p:α→Bool) (key:α→ByteArray) (xs:List α): ∀ n k,k≤n→rowUpto p key xs n=true→rowUpto p key xs k=true
  | 0, k, h, ht => by obtain rfl : k = 0 := by omega
                      exact ht
  |n+1,k,h,ht=>by
    by_cases e:k=n+1
    · subst e;exact ht
    · rw [rowUpto] at ht
      exact rowUpto_pre p key xs n k (by omega) (Bool.and_eq_true_iff.1 ht).1
theorem picksB_pre (xs ys:List PickD) (h:picksB (xs++ys)=true):picksB xs=true:=by
 unfold picksB rowB at h ⊢
 obtain ⟨h1,h2⟩:=Bool.and_eq_true_iff.1 h
 have h3:=of_decide_eq_true h2
 rw [List.length_append] at h1 h3
 rw [Bool.and_eq_true_iff]
 refine ⟨?_,decide_eq_true (by omega)⟩
 rw [←rowUpto_append pickB PickD.name xs ys xs.length (Nat.le_refl _)]
 exact rowUpto_pre _ _ _ _ _ (by omega) h1
def linesP :List ByteArray→Option (List PickD)
 |[]=>some []
 |l::r=>match lineS l with
  |none=>none
  |some p=>(linesP r).map (p:: ·)
def lockS (L:List ByteArray):Option (List PickD):=match linesP L.dropLast with
 |none=>none
 |some ps=>if (L.getLastD ⟨#[]⟩).size=0∧picksB ps=true then some ps else none
theorem lockGo_all : ∀ (L:List ByteArray) (acc:List PickD),L≠[]→picksB acc=true→lockGo L acc=match linesP L.dropLast with
  |none=>none
  |some ps=>if (L.getLastD ⟨#[]⟩).size=0∧picksB (acc++ps)=true then some (acc++ps) else none
 |[],acc,h,_=>absurd rfl h
 |[l],acc,_,ha=>by
  simp only [lockGo,List.dropLast,linesP,List.append_nil,ha,and_true]
  rfl
 |l::l2::r,acc,_,ha=>by
  rw [lockGo_more (by simp)]
  have e1:(l::l2::r).dropLast=l::(l2::r).dropLast:=rfl
  have e2:(l::l2::r).getLastD ⟨#[]⟩=(l2::r).getLastD ⟨#[]⟩:=rfl
  rw [e1,e2,linesP,line_alike]
  cases lineP l with
  |none=>rfl
  |some p=>
   show (if picksB (acc++[p])=true then lockGo (l2::r) (acc++[p]) else none)=_
   by_cases hp:picksB (acc++[p])=true
   ·rw [if_pos hp,lockGo_all (l2::r) (acc++[p]) (by simp) hp]
    cases linesP (l2::r).dropLast with
    |none=>rfl
    |some ps=>simp only [Option.map_some,List.append_assoc,List.singleton_append]
   ·rw [if_neg hp]
    cases linesP (l2::r).dropLast with
    |none=>rfl
    |some ps=>
     have hn: ¬picksB (acc++p::ps)=true:=fun h=>hp (picksB_pre (acc++[p]) ps (by simpa using h))
     simp [hn]
theorem lock_alike (s:ByteArray):lockR s=lockS (splitS s 10):=by
 unfold lockR lockS
 rw [lockGo_all _ [] (by have:=splitS_pos s 10;intro h;rw [h] at this;simp at this) (by decide)]
 simp only [List.nil_append]
theorem toCmd_c (S:Nat→Prop) (d:CmdD) (cs:List Value) (w:World) (hd:shCmd.lies S w cs d) (hB: ∀ b,S b→b<w.heap.size) (hw:wtCmd d≤1048576):
  Calls Tryz.prog 264 #[.agg cs.toArray] w fun e w'=>∃ cs',e=.returned (.agg cs'.toArray)∧shCmdO.lies (Ow w.heap.size w'.heap.size) w' cs' d∧Below w.heap.size w w':=by
 obtain ⟨u0,rfl,s_t,r0,p0⟩:=hd
 have hb3: ∀ A R O,Below w.heap.size w (((w.alloc A).alloc R).alloc O):=fun A R O=>(((Below.refl _ _).alloc (Nat.le_refl _) _).alloc (by simp) _).alloc (by simp;omega) _
 unfold wtCmd at hw
 have HS0:Hid (∀ w1,Below w.heap.size w w1→Calls Tryz.prog 208 #[u0] w1 fun e w'=>∃ g,e=.returned (.slice (some ⟨g,0,none⟩) d.acts.length d.acts.length)∧StrsOwn (Ow w1.heap.size w'.heap.size) w' (.slice (some ⟨g,0,none⟩) d.acts.length d.acts.length) d.acts∧Below w1.heap.size w1 w'):=fun w1 hb=>
  (toStrs_c u0 d.acts w1 ((r0.keep (.of hb hB)).reads (fun b h=>Nat.lt_of_lt_of_le (hB b h) hb.size)) (by unfold bulkS at hw;omega)).mono fun e w' ⟨g,h1,h2,h3⟩=>⟨g,h1,⟨owns_lo (Nat.zero_le _) h2,owns_in h2⟩,h3⟩
 obtain ⟨a0,cap0,eu0,_⟩:=id r0
 rw [length_strsV] at eu0
 subst eu0
 clear r0
 go_enter Tryz.func264,Tryz.ntmps264
 go_wp2_with fail
 go_at_call 208
 refine (HS0.out _ (hb3 _ _ _)).mono ?_
 rintro e w1 ⟨g1,rfl,R0,b1⟩
 obtain ⟨hA1,hR1,hO1⟩:=vthree b1
 have s3: ∀ A R O,(((w.alloc A).alloc R).alloc O).heap.size=w.heap.size+1+1+1:=fun A R O=>by simp
 rw [s3] at b1 R0
 have m1:w.heap.size+3≤w1.heap.size:=by have:=b1.size;rw [s3] at this;omega
 have kw1:Below w.heap.size w w1:=(hb3 _ _ _).trans (b1.mono (by omega))
 replace R0:=R0.mono (S':=Ow (w.heap.size+3) w1.heap.size) (Ow.mono (by omega) (Nat.le_refl _))
 have m1':w.heap.size+3≤w1.heap.size:=by omega
 have o0:=vblk_cell hO1 0
 have q0:=vblk_cell hR1 0
 have y0:=vblk_cell hA1 0
 have o1:=vblk_cell hO1 1
 have q1:=vblk_cell hR1 1
 have y1:=vblk_cell hA1 1
 have fo:=vblk_frozen hO1
 have fr:=vblk_frozen hR1
 simp only [List.getElem?_toArray,List.getElem?_cons_succ,List.getElem?_cons_zero,List.setIfInBounds_toArray,List.set_cons_succ,List.set_cons_zero] at o0 q0 y0 o1 q1 y1
 go_wp2_with fail
 refine bodyPost_ret (v:=.agg #[.string d.t,.slice (some ⟨g1,0,none⟩) d.acts.length d.acts.length]) (by simp [results,Tryz.results264,go_sem,o0,q0,o1,q1]) rfl ⟨[.string d.t,.slice (some ⟨g1,0,none⟩) d.acts.length d.acts.length],rfl,?_,?_⟩
 ·have hS: ∀ {W:World},w1.heap.size≤W.heap.size→∀ b,Ow (w.heap.size+3) w1.heap.size b→Ow w.heap.size W.heap.size b:=fun h=>Ow.mono (by omega) h
  refine ⟨_,rfl,s_t,(R0.keep ?_).mono (hS ?_),p0⟩
  all_goals first
   |(simp [World.setCell];done)
   |((repeat (refine Kp.trans ?_ (Kp.set (Ow.not (by omega)))));exact fun b hb=>rfl)
 ·refine ?_
  (repeat (refine Below.setCell ?_ (by simp<;>omega) _))
  exact kw1
theorem infoCmd :(Tryz.prog.info? 305).map (fun i=>(i.zero,i.size,i.bytes))=some (some (.agg #[.string ⟨#[]⟩,.slice none 0 0]),2,40):=by kernel_rfl
theorem toCmdS_c (S:Nat→Prop) (v:Value) (xs:List CmdD) (w:World) (hv:RowIn shCmd S w v xs) (hB: ∀ b,S b→b<w.heap.size) (hw:wtRow wtCmd xs≤1048576):
    Calls Tryz.prog 209 #[v] w fun e w'=>∃ g,e=.returned (.slice (some ⟨g,0,none⟩) xs.length xs.length)∧RowOwn shCmdO 305 (Ow w.heap.size w'.heap.size) w' (.slice (some ⟨g,0,none⟩) xs.length xs.length) xs∧Below w.heap.size w w':=by
  obtain ⟨a,cap,rfl,hl,hc,ha⟩:=hv
  have hn:=len_wtRow wtCmd xs
  have hlm:xs.length≤maxLen:=hl
  unfold maxLen at hl
  obtain ⟨i0,hi,hz0,hz1,hz2⟩:=info_parts infoCmd
  go_enter Tryz.func209,Tryz.ntmps209
  go_wp2_with (first
    | (at_make; refine wpList_make_full _ rfl _ _ 187 rfl w.heap.size 305 i0 _ 2 Tryz.underlying187 hi hz0 hz1 _ _ _ _ xs.length rfl rfl rfl rfl (by rw [hz2]; omega) (by unfold maxLen; omega) (Nat.le_refl _) ?_))
  intro w1 hown hgrow
  have hb1:=below_of_grown hgrow
  have hs1:w.heap.size+1≤w1.heap.size:=by
    rcases hown.2 with ⟨h,_⟩|⟨g,cap,cur,h,_,hg,_⟩
    · simp at h
    · simp at h
      have:=(Array.getElem?_eq_some_iff.1 hg).1
      omega
  obtain ⟨ys1,hown1⟩: ∃ ys,w1.ownsRow w.heap.size 305 2 (.slice (some ⟨w.heap.size,0,none⟩) xs.length xs.length) xs.length ys:=⟨_,hown⟩
  clear hgrow hown
  go_wp2_with fail
  go_loopw [4] (fun vi wr=>∃ (k:Nat) (ys:List Value),k≤xs.length∧vi=.int .i64 (k:Int)∧wr.ownsRow w.heap.size 305 2 (.slice (some ⟨w.heap.size,0,none⟩) xs.length xs.length) xs.length ys∧Hid (Laid shCmdO (Ow (w.heap.size+1) wr.heap.size) wr ys xs k)∧Below w.heap.size w wr∧w.heap.size+1≤wr.heap.size) (fun vi _=>xs.length-(intOf vi).toNat)
  case atStart=>exact ⟨0,ys1,Nat.zero_le _,rfl,hown1,(fun i h h0=>by omega),hb1,hs1⟩
  case round=>
    obtain ⟨k,ys,hk,rfl,hownr,hy,hbr,hsr⟩:=hrel
    by_cases hlt':k<xs.length
    · rcases ha with rfl|⟨b,off,rfl,hlt,ha⟩
      · simp at hlt'
      obtain ⟨cs,hL,hcell⟩:=ha k hlt'
      have hL2:=shCmd.keep (.of hbr hB) hL
      have hcell2:=hcell.keep (.of hbr hB) hlt
      have hBr: ∀ b,S b→b<wr.heap.size:=fun b h=>Nat.lt_of_lt_of_le (hB b h) hbr.size
      have hwt:wtCmd xs[k]≤1048576:=by have:=wt_wtRow wtCmd (List.getElem_mem hlt');omega
      have hown2: ∀ w2,Below wr.heap.size wr w2→w2.ownsRow w.heap.size 305 2 (.slice (some ⟨w.heap.size,0,none⟩) xs.length xs.length) xs.length ys:=fun w2 h2=>hownr.kept (grown_of_below h2 none) (by simp [Value.ownBlock])
      have hlen:=hownr.1
      have HC:Hid (∀ w2,Below wr.heap.size wr w2→∀ j,j<2→∃ x,w2.cell? ⟨w.heap.size,k*2+j,none⟩=some x):=fun w2 h2 j hj=>⟨ys.getD (k*2+j) undef,by rw [(hown2 w2 h2).cellAt _ (by omega)];simp [List.getD_eq_getElem?_getD,show k*2+j<ys.length by omega]⟩
      have HF:Hid (∀ w2,Below wr.heap.size wr w2→∀ j,w2.frozen? ⟨w.heap.size,j,none⟩=false):=fun w2 h2 j=>(hown2 w2 h2).frozenAt j
      have HO:Hid (∀ w2,Below wr.heap.size wr w2→w2.ownsRow w.heap.size 305 2 (.slice (some ⟨w.heap.size,0,none⟩) xs.length xs.length) xs.length ys):=hown2
      have HST:Hid (∀ w2 cs,Below wr.heap.size wr w2→cs.length=2→shCmdO.lies (Ow (w.heap.size+1) w2.heap.size) w2 cs xs[k]→Laid shCmdO (Ow (w.heap.size+1) (setW w2 w.heap.size (k*2) cs).heap.size) (setW w2 w.heap.size (k*2) cs) (putL ys (k*2) cs) xs (k+1)):=fun w2 cs h2 hc hr=>hy.out.step (sh:=shCmdO) hlt' hlen h2 (by omega) hc hr
      obtain ⟨d,hd⟩: ∃ d,d=xs[k]:=⟨_,rfl⟩
      rw [←hd] at hL2 hwt HST
      have HC1:=toCmd_c S d cs wr hL2 hBr hwt
      clear ha hL hcell hd hown2 hi hz0 hz1 hz2 hown1 hb1 hlen hwt
      obtain ⟨u0,rfl,s_t,r0,p0⟩:=hL2
      clear s_t p0
      obtain ⟨a0,cap0,eu0,_⟩:=id r0
      rw [length_strsV] at eu0
      subst eu0
      clear r0
      have e0:wr.cell? ⟨b,off+k*2,none⟩=some (.string d.t):=hcell2 0 (by simp)
      have e1:wr.cell? ⟨b,off+k*2+1,none⟩=some (.slice a0 d.acts.length cap0):=hcell2 1 (by simp)
      have HC2:=hidden HC1
      have hki:(k:Int)<(xs.length:Int):=by omega
      clear hcell2 HC1
      go_wp2_with (go_at_call 264;refine HC2.out.mono ?_;rintro e w2 ⟨cs,rfl,hX,hb2⟩;have HX:=hidden (HST.out w2 cs hb2 (by have h:=hX;obtain ⟨u0,h9,s_t,r0,p0⟩:=h;rw [h9];rfl) (shCmdO.mono (Ow.mono hsr (Nat.le_refl _)) hX));obtain ⟨u0,rfl,s_t,z0,p0⟩:=hX;obtain ⟨b0,bap0,ev0⟩:=z0.slice;subst ev0;obtain ⟨y0,d0⟩:=HC.out w2 hb2 0 (by omega);obtain ⟨y1,d1⟩:=HC.out w2 hb2 1 (by omega);rw [Nat.add_zero] at d0;have f9:=HF.out w2 hb2)
      go_roundw
      case rel=>
        refine ⟨k+1,_,by omega,by go_num,setW_owns [.string d.t,.slice b0 d.acts.length bap0] w2 ys (k*2) (HO.out w2 hb2),HX.out,setW_below (Nat.le_refl _) [.string d.t,.slice b0 d.acts.length bap0] w2 w (k*2) (hbr.trans (hb2.mono hbr.size)),?_⟩
        have h9:=setW_size [.string d.t,.slice b0 d.acts.length bap0] w2 w.heap.size (k*2)
        have:=hb2.size
        exact Nat.le_trans (show w.heap.size+1≤w2.heap.size by omega) (Nat.le_of_eq h9.symm)
      case measure=>simp [intOf];omega
    · have he:k=xs.length:=by omega
      subst he
      clear ha
      go_wp2_with fail
      go_ret
      exact ⟨_,rfl,rowOwn_of hownr hlm hy.out,hbr⟩
theorem cutD_size (l:ByteArray) (c:UInt8):(cutD l c).1.size≤l.size∧(cutD l c).2.1.size≤l.size:=by
 have hge:=Lib.indexByte_ge l.data.toList c
 by_cases hm:Lib.indexByte l.data.toList c= -1
 ·rw [cutD_none hm];exact ⟨Nat.le_refl _,Nat.zero_le _⟩
 ·obtain ⟨k,hk⟩:=Int.eq_ofNat_of_zero_le (show 0≤Lib.indexByte l.data.toList c by omega)
  have hlt:=index_lt hk
  rw [cutD_some hk]
  refine ⟨?_,?_⟩
  ·show (l.extract 0 k).size≤_;rw [vsize l 0 k (by omega) (by omega)];omega
  ·show (l.extract (k+1) l.size).size≤_;rw [vsize l (k+1) l.size (by omega) (Nat.le_refl _)];omega
theorem far1 {w:World} {N g i j:Nat} {v:Value} (h:g≠N):(w.setCell ⟨N,i,none⟩ v).cell? ⟨g,j,none⟩=w.cell? ⟨g,j,none⟩:=by
 unfold World.cell?
 rw [Below.heap_setCell _ _ _ _ (fun e=>h e)]
theorem far5 {w:World} {N g j:Nat} {v0 v1 v2 v3 v4:Value} (h:g≠N):(((((w.setCell ⟨N,0,none⟩ v0).setCell ⟨N,1,none⟩ v1).setCell ⟨N,2,none⟩ v2).setCell ⟨N,3,none⟩ v3).setCell ⟨N,4,none⟩ v4).cell? ⟨g,j,none⟩=w.cell? ⟨g,j,none⟩:=by
 rw [far1 h,far1 h,far1 h,far1 h,far1 h]
theorem owns_sliceL {w:World} {lo sz n:Nat} {e:TypeId} {v:Value} {xs:List Value} (h:w.ownsRow lo e sz v n xs): ∃ q c,v=.slice q n c:=by
 rcases h.2 with ⟨rfl,h0⟩|⟨g,cap,cur,rfl,_⟩
 ·exact ⟨none,0,by rw [h0]⟩
 ·exact ⟨_,cap,rfl⟩
theorem readPick_c (l:ByteArray) (hs:l.size≤1048576) (w:World):
  Calls Tryz.prog 195 #[.string l] w fun e w'=>∃ u,e=.returned (.tuple #[.agg #[.string (cutD l 64).1,.int .i64 (resN (cutD l 64).2.1 0),.int .i64 (resN (cutD l 64).2.1 1),.int .i64 (resN (cutD l 64).2.1 2),u],.bool (resOk (cutD l 64).2.1)])∧w'.ownsRow w.heap.size 9 1 u (resP (cutD l 64).2.1).length (strsV (resP (cutD l 64).2.1))∧Below w.heap.size w w':=by
 have HC: ∀ w1,Calls Tryz.prog 194 #[.string l,.string ⟨#[64]⟩] w1 fun e w'=>e=.returned (.tuple #[.string (cutD l 64).1,.string (cutD l 64).2.1,.bool (cutD l 64).2.2])∧Below w1.heap.size w1 w':=fun w1=>cut64_c l w1 hs
 obtain ⟨hn,ht⟩:=cutD_size l 64
 obtain ⟨⟨nm,tx,zz⟩,hx⟩: ∃ p,p=cutD l 64:=⟨_,rfl⟩
 rw [←hx] at HC hn ht ⊢
 dsimp only at HC hn ht ⊢
 have HP: ∀ w1,Calls Tryz.prog 258 #[.string tx] w1 fun e w'=>∃ q c,e=.returned (.tuple #[.agg #[.int .i64 (resN tx 0),.int .i64 (resN tx 1),.int .i64 (resN tx 2),.slice q (resP tx).length c],.bool (resOk tx)])∧w'.ownsRow w1.heap.size 9 1 (.slice q (resP tx).length c) (resP tx).length (strsV (resP tx))∧Below w1.heap.size w1 w':=fun w1=>(implParse_c tx (by omega) w1).mono fun e w' ⟨u,h1,h2,h3⟩=>by
  obtain ⟨q,c,rfl⟩:=owns_sliceL h2
  exact ⟨q,c,h1,h2,h3⟩
 have HK:=hidden (fun w1=>clone_c nm w1 (by omega))
 obtain ⟨ra,hra⟩: ∃ z,z=resN tx 0:=⟨_,rfl⟩
 obtain ⟨rb,hrb⟩: ∃ z,z=resN tx 1:=⟨_,rfl⟩
 obtain ⟨rc,hrc⟩: ∃ z,z=resN tx 2:=⟨_,rfl⟩
 obtain ⟨rk,hrk⟩: ∃ z,z=resOk tx:=⟨_,rfl⟩
 obtain ⟨rp,hrp⟩: ∃ z,z=resP tx:=⟨_,rfl⟩
 simp only [←hra, ←hrb, ←hrc, ←hrk, ←hrp] at HP ⊢
 obtain ⟨un,hun⟩: ∃ n,n=rp.length:=⟨_,rfl⟩
 rw [←hun] at HP ⊢
 replace HC:=hidden HC
 replace HP:=hidden HP
 clear hx hra hrb hrc hrk hrp hun hn ht hs
 go_enter Tryz.func195,Tryz.ntmps195
 go_wp2_with fail
 go_at_call 194
 refine (HC.out _).mono ?_
 rintro e w1 ⟨rfl,b1⟩
 have bx1:=boxAt b1
 have k1:Below w.heap.size w w1:=((Below.refl _ _).alloc (Nat.le_refl _) _).trans (b1.mono (by simp))
 have lt1:w.heap.size<w1.heap.size:=by have:=b1.size;simp at this;omega
 clear b1 HC
 go_wp2_with fail
 go_at_call 258
 refine (HP.out _).mono ?_
 rintro e w2 ⟨uq,uc,rfl,ho,b2⟩
 have bx2:=box_below bx1 b2
 have k2:Below w.heap.size w w2:=below_nextP k1 b2
 have lt2:w.heap.size<w2.heap.size:=Nat.lt_of_lt_of_le lt1 b2.size
 replace ho:=owns_lo (lo':=w.heap.size+1) lt1 ho
 clear b2 bx1 HP k1 lt1
 obtain ⟨O7,hO7⟩: ∃ O,O=Obj.cells #[.int .i64 ra,.int .i64 rb,.int .i64 rc,.slice uq un uc] 30:=⟨_,rfl⟩
 obtain ⟨W3,hW3⟩: ∃ W,W=w2.alloc O7:=⟨_,rfl⟩
 have b3:Below w2.heap.size w2 W3:=by rw [hW3];exact (Below.refl _ _).alloc (Nat.le_refl _) _
 have KEEP:Hid (∀ w',Below W3.heap.size W3 w'→w'.cell? ⟨w2.heap.size,0,none⟩=some (.int .i64 ra)∧w'.cell? ⟨w2.heap.size,1,none⟩=some (.int .i64 rb)∧w'.cell? ⟨w2.heap.size,2,none⟩=some (.int .i64 rc)∧w'.cell? ⟨w2.heap.size,3,none⟩=some (.slice uq un uc)):=fun w' h=>by
  rw [hW3] at h
  have hx:=boxAt h
  rw [hO7] at hx
  exact ⟨vblk_cell hx 0,vblk_cell hx 1,vblk_cell hx 2,vblk_cell hx 3⟩
 have BX:Hid (∀ w',Below W3.heap.size W3 w'→w'.heap[w.heap.size]?=some (.cells #[.string ⟨#[]⟩,.int .i64 0,.int .i64 0,.int .i64 0,.slice none 0 0] 59)):=fun w' h=>box_below (box_below bx2 b3) h
 have hq0:Below W3.heap.size W3 W3.drew:=(Below.refl _ _).drew
 have FAR:Hid (∀ W:World,W.cell? ⟨w2.heap.size,0,none⟩=some (.int .i64 ra)∧W.cell? ⟨w2.heap.size,1,none⟩=some (.int .i64 rb)∧W.cell? ⟨w2.heap.size,2,none⟩=some (.int .i64 rc)∧W.cell? ⟨w2.heap.size,3,none⟩=some (.slice uq un uc)→(((((W.setCell ⟨w.heap.size,0,none⟩ (.string nm)).setCell ⟨w.heap.size,1,none⟩ (.int .i64 ra)).setCell ⟨w.heap.size,2,none⟩ (.int .i64 rb)).setCell ⟨w.heap.size,3,none⟩ (.int .i64 rc)).setCell ⟨w.heap.size,4,none⟩ (.slice uq un uc)).cell? ⟨w2.heap.size,0,none⟩=some (.int .i64 ra)∧(((((W.setCell ⟨w.heap.size,0,none⟩ (.string nm)).setCell ⟨w.heap.size,1,none⟩ (.int .i64 ra)).setCell ⟨w.heap.size,2,none⟩ (.int .i64 rb)).setCell ⟨w.heap.size,3,none⟩ (.int .i64 rc)).setCell ⟨w.heap.size,4,none⟩ (.slice uq un uc)).cell? ⟨w2.heap.size,1,none⟩=some (.int .i64 rb)∧(((((W.setCell ⟨w.heap.size,0,none⟩ (.string nm)).setCell ⟨w.heap.size,1,none⟩ (.int .i64 ra)).setCell ⟨w.heap.size,2,none⟩ (.int .i64 rb)).setCell ⟨w.heap.size,3,none⟩ (.int .i64 rc)).setCell ⟨w.heap.size,4,none⟩ (.slice uq un uc)).cell? ⟨w2.heap.size,2,none⟩=some (.int .i64 rc)∧(((((W.setCell ⟨w.heap.size,0,none⟩ (.string nm)).setCell ⟨w.heap.size,1,none⟩ (.int .i64 ra)).setCell ⟨w.heap.size,2,none⟩ (.int .i64 rb)).setCell ⟨w.heap.size,3,none⟩ (.int .i64 rc)).setCell ⟨w.heap.size,4,none⟩ (.slice uq un uc)).cell? ⟨w2.heap.size,3,none⟩=some (.slice uq un uc)):=fun W h=>by
  obtain ⟨h0,h1,h2,h3⟩:=h
  have hne:w2.heap.size≠w.heap.size:=by omega
  exact ⟨(far5 hne).trans h0,(far5 hne).trans h1,(far5 hne).trans h2,(far5 hne).trans h3⟩
 have HS3:Hid (w2.heap.size<W3.heap.size):=by show _<_;rw [hW3];simp
 have HO7:=hidden hO7
 have HW3:=hidden hW3
 clear hO7 hW3 bx2
 go_wp2_with fail
 rw [←HO7.out, ←HW3.out]
 clear HO7 HW3
 refine wp_region_held_drew (S:=(fun w'=>w'.cell? ⟨w2.heap.size,0,none⟩=some (.int .i64 ra)∧w'.cell? ⟨w2.heap.size,1,none⟩=some (.int .i64 rb)∧w'.cell? ⟨w2.heap.size,2,none⟩=some (.int .i64 rc)∧w'.cell? ⟨w2.heap.size,3,none⟩=some (.slice uq un uc))) (by kernel_rfl) ?SR10 (fun hHeld=>?_)
 case SR10=>(exact KEEP.out _ hq0)
 refine tk 0 hHeld (h:=?_)
 refine tk 2 hHeld (h:=?_)
 refine tk 4 hHeld (h:=?_)
 refine wpAnyH_ready (rs:=[1]) (by kernel_rfl) (by simp) ?_
 refine AllReadyH.cons rfl (fun K hK=>?_) AllReadyH.nil
 go_simp
 go_wp2_with fail
 go_at_call 116
 refine (HK.out _).mono ?_
 rintro e w4 ⟨rfl,b4⟩
 have hq4:Below W3.heap.size W3 w4:=(Below.refl _ _).drew.trans b4
 have x7:=KEEP.out _ hq4
 have k24:Below w2.heap.size w2 w4:=below_nextP b3 hq4
 have h04:=BX.out _ hq4
 have f4:=vblk_frozen h04
 have c0:=vblk_cell h04 0
 have c1:=vblk_cell h04 1
 have c2:=vblk_cell h04 2
 have c3:=vblk_cell h04 3
 have c4:=vblk_cell h04 4
 simp only [List.getElem?_toArray,List.getElem?_cons_succ,List.getElem?_cons_zero] at c0 c1 c2 c3 c4
 go_wp2_with fail
 clear hHeld
 refine hK.out _ _ ?SR1_3 (fun hHeld=>?_)
 case SR1_3=>((try dsimp only);exact x7)
 clear hK K
 refine tk 3 hHeld (h:=?_)
 refine wpAnyH_ready (rs:=[5]) (by kernel_rfl) (by simp) ?_
 refine AllReadyH.cons rfl (fun K hK=>?_) AllReadyH.nil
 have f40:=f4 0
 have f41:=f4 1
 have f42:=f4 2
 have f43:=f4 3
 have f44:=f4 4
 go_simp
 clear hHeld
 refine hK.out _ _ ?SR1_5 (fun hHeld=>?_)
 case SR1_5=>((try dsimp only);exact FAR.out _ x7)
 clear hK K
 refine tk 6 hHeld (h:=?_)
 refine wpAnyH_done (by kernel_rfl) ?_ _
 go_wp2_with fail
 refine bodyPost_ret (v:=.tuple #[.agg #[.string nm,.int .i64 ra,.int .i64 rb,.int .i64 rc,.slice uq un uc],.bool rk]) (by simp [results,Tryz.results195,go_sem,c0,c1,c2,c3,c4]) rfl ⟨.slice uq un uc,rfl,?_,?_⟩
 ·have h4:=owns_of_below ho k24
  have h5:=owns_set (owns_set (owns_set (owns_set (owns_set h4 (p:=⟨w.heap.size,0,none⟩) (by simp) (.string nm)) (p:=⟨w.heap.size,1,none⟩) (by simp) (.int .i64 ra)) (p:=⟨w.heap.size,2,none⟩) (by simp) (.int .i64 rb)) (p:=⟨w.heap.size,3,none⟩) (by simp) (.int .i64 rc)) (p:=⟨w.heap.size,4,none⟩) (by simp) (.slice uq un uc)
  exact owns_lower h5 (by omega)
 ·exact (((((below_nextP k2 k24).setCell (Nat.le_refl _) _).setCell (Nat.le_refl _) _).setCell (Nat.le_refl _) _).setCell (Nat.le_refl _) _).setCell (Nat.le_refl _) _
theorem toPack_c (S:Nat→Prop) (d:PackD) (cs:List Value) (w:World) (hd:shPack.lies S w cs d) (hB: ∀ b,S b→b<w.heap.size) (hw:wtPack d≤1048576):
  Calls Tryz.prog 145 #[.agg cs.toArray] w fun e w'=>∃ cs',e=.returned (.agg cs'.toArray)∧shPackO.lies (Ow w.heap.size w'.heap.size) w' cs' d∧Below w.heap.size w w':=by
 obtain ⟨u0,u1,u2,rfl,s_name,r0,p0,r1,r2⟩:=hd
 have hb3: ∀ A R O,Below w.heap.size w (((w.alloc A).alloc R).alloc O):=fun A R O=>(((Below.refl _ _).alloc (Nat.le_refl _) _).alloc (by simp) _).alloc (by simp;omega) _
 unfold wtPack at hw
 have HS0:Hid (∀ w1,Below w.heap.size w w1→Calls Tryz.prog 208 #[u0] w1 fun e w'=>∃ g,e=.returned (.slice (some ⟨g,0,none⟩) d.uses.length d.uses.length)∧StrsOwn (Ow w1.heap.size w'.heap.size) w' (.slice (some ⟨g,0,none⟩) d.uses.length d.uses.length) d.uses∧Below w1.heap.size w1 w'):=fun w1 hb=>
  (toStrs_c u0 d.uses w1 ((r0.keep (.of hb hB)).reads (fun b h=>Nat.lt_of_lt_of_le (hB b h) hb.size)) (by unfold bulkS at hw;omega)).mono fun e w' ⟨g,h1,h2,h3⟩=>⟨g,h1,⟨owns_lo (Nat.zero_le _) h2,owns_in h2⟩,h3⟩
 obtain ⟨a0,cap0,eu0,_⟩:=id r0
 rw [length_strsV] at eu0
 have HS1:Hid (∀ w1,Below w.heap.size w w1→Calls Tryz.prog 58 #[u1] w1 fun e w'=>∃ g,e=.returned (.slice (some ⟨g,0,none⟩) d.needs.length d.needs.length)∧RowOwn shNeed 39 (Ow w1.heap.size w'.heap.size) w' (.slice (some ⟨g,0,none⟩) d.needs.length d.needs.length) d.needs∧Below w1.heap.size w1 w'):=fun w1 hb=>
  toNeedS_c S u1 d.needs w1 (r1.keep (.of hb hB)) (fun b h=>Nat.lt_of_lt_of_le (hB b h) hb.size) (by omega)
 obtain ⟨a1,cap1,eu1,_⟩:=id r1
 have HS2:Hid (∀ w1,Below w.heap.size w w1→Calls Tryz.prog 209 #[u2] w1 fun e w'=>∃ g,e=.returned (.slice (some ⟨g,0,none⟩) d.cmds.length d.cmds.length)∧RowOwn shCmdO 305 (Ow w1.heap.size w'.heap.size) w' (.slice (some ⟨g,0,none⟩) d.cmds.length d.cmds.length) d.cmds∧Below w1.heap.size w1 w'):=fun w1 hb=>
  toCmdS_c S u2 d.cmds w1 (r2.keep (.of hb hB)) (fun b h=>Nat.lt_of_lt_of_le (hB b h) hb.size) (by omega)
 obtain ⟨a2,cap2,eu2,_⟩:=id r2
 subst eu0
 clear r0
 subst eu1
 clear r1
 subst eu2
 clear r2
 go_enter Tryz.func145,Tryz.ntmps145
 go_wp2_with fail
 go_at_call 208
 refine (HS0.out _ (hb3 _ _ _)).mono ?_
 rintro e w1 ⟨g1,rfl,R0,b1⟩
 obtain ⟨hA1,hR1,hO1⟩:=vthree b1
 have s3: ∀ A R O,(((w.alloc A).alloc R).alloc O).heap.size=w.heap.size+1+1+1:=fun A R O=>by simp
 rw [s3] at b1 R0
 have m1:w.heap.size+3≤w1.heap.size:=by have:=b1.size;rw [s3] at this;omega
 have kw1:Below w.heap.size w w1:=(hb3 _ _ _).trans (b1.mono (by omega))
 replace R0:=R0.mono (S':=Ow (w.heap.size+3) w1.heap.size) (Ow.mono (by omega) (Nat.le_refl _))
 have m1':w.heap.size+3≤w1.heap.size:=by omega
 have o0:=vblk_cell hO1 0
 have q0:=vblk_cell hR1 0
 have y0:=vblk_cell hA1 0
 have o1:=vblk_cell hO1 1
 have q1:=vblk_cell hR1 1
 have y1:=vblk_cell hA1 1
 have o2:=vblk_cell hO1 2
 have q2:=vblk_cell hR1 2
 have y2:=vblk_cell hA1 2
 have o3:=vblk_cell hO1 3
 have q3:=vblk_cell hR1 3
 have y3:=vblk_cell hA1 3
 have fo:=vblk_frozen hO1
 have fr:=vblk_frozen hR1
 simp only [List.getElem?_toArray,List.getElem?_cons_succ,List.getElem?_cons_zero,List.setIfInBounds_toArray,List.set_cons_succ,List.set_cons_zero] at o0 q0 y0 o1 q1 y1 o2 q2 y2 o3 q3 y3
 have k1:Below w.heap.size w (w1.setCell ⟨w.heap.size+1+1,1,none⟩ (.slice (some ⟨g1,0,none⟩) d.uses.length d.uses.length)):=Below.setCell kw1 (by simp;omega) _
 go_wp2_with fail
 go_at_call 58
 refine (HS1.out _ k1).mono ?_
 rintro e w2 ⟨g2,rfl,R1,b2⟩
 have hA2:=(b2.block w.heap.size (by simp [World.setCell];omega)).trans ((Below.heap_setCell _ _ _ _ (by simp<;>omega)).trans hA1)
 have hR2:=(b2.block (w.heap.size+1) (by simp [World.setCell];omega)).trans ((Below.heap_setCell _ _ _ _ (by simp<;>omega)).trans hR1)
 have hO2:=(b2.block (w.heap.size+1+1) (by simp [World.setCell];omega)).trans (heap_setCell_same _ _ _ _ _ _ hO1)
 have m2:w1.heap.size≤w2.heap.size:=by have:=b2.size;simpa [World.setCell] using this
 have kw2:Below w.heap.size w w2:=k1.trans (b2.mono k1.size)
 replace R1:=R1.mono (S':=Ow (w.heap.size+3) w2.heap.size) (Ow.mono (by simp [World.setCell];omega) (Nat.le_refl _))
 replace R0:=(R0.keep ((Kp.set (Ow.not (by omega))).trans (Kp.of b2 (fun b h=>by have:=h.2;simp [World.setCell];omega)))).mono (S':=Ow (w.heap.size+3) w2.heap.size) (Ow.mono (Nat.le_refl _) (by omega))
 have m2':w.heap.size+3≤w2.heap.size:=by omega
 have o0:=vblk_cell hO2 0
 have q0:=vblk_cell hR2 0
 have y0:=vblk_cell hA2 0
 have o1:=vblk_cell hO2 1
 have q1:=vblk_cell hR2 1
 have y1:=vblk_cell hA2 1
 have o2:=vblk_cell hO2 2
 have q2:=vblk_cell hR2 2
 have y2:=vblk_cell hA2 2
 have o3:=vblk_cell hO2 3
 have q3:=vblk_cell hR2 3
 have y3:=vblk_cell hA2 3
 have fo:=vblk_frozen hO2
 have fr:=vblk_frozen hR2
 simp only [List.getElem?_toArray,List.getElem?_cons_succ,List.getElem?_cons_zero,List.setIfInBounds_toArray,List.set_cons_succ,List.set_cons_zero] at o0 q0 y0 o1 q1 y1 o2 q2 y2 o3 q3 y3
 have k2:Below w.heap.size w (w2.setCell ⟨w.heap.size+1+1,2,none⟩ (.slice (some ⟨g2,0,none⟩) d.needs.length d.needs.length)):=Below.setCell kw2 (by simp;omega) _
 go_wp2_with fail
 go_at_call 209
 refine (HS2.out _ k2).mono ?_
 rintro e w3 ⟨g3,rfl,R2,b3⟩
 have hA3:=(b3.block w.heap.size (by simp [World.setCell];omega)).trans ((Below.heap_setCell _ _ _ _ (by simp<;>omega)).trans hA2)
 have hR3:=(b3.block (w.heap.size+1) (by simp [World.setCell];omega)).trans ((Below.heap_setCell _ _ _ _ (by simp<;>omega)).trans hR2)
 have hO3:=(b3.block (w.heap.size+1+1) (by simp [World.setCell];omega)).trans (heap_setCell_same _ _ _ _ _ _ hO2)
 have m3:w2.heap.size≤w3.heap.size:=by have:=b3.size;simpa [World.setCell] using this
 have kw3:Below w.heap.size w w3:=k2.trans (b3.mono k2.size)
 replace R2:=R2.mono (S':=Ow (w.heap.size+3) w3.heap.size) (Ow.mono (by simp [World.setCell];omega) (Nat.le_refl _))
 replace R0:=(R0.keep ((Kp.set (Ow.not (by omega))).trans (Kp.of b3 (fun b h=>by have:=h.2;simp [World.setCell];omega)))).mono (S':=Ow (w.heap.size+3) w3.heap.size) (Ow.mono (Nat.le_refl _) (by omega))
 replace R1:=(R1.keep ((Kp.set (Ow.not (by omega))).trans (Kp.of b3 (fun b h=>by have:=h.2;simp [World.setCell];omega)))).mono (S':=Ow (w.heap.size+3) w3.heap.size) (Ow.mono (Nat.le_refl _) (by omega))
 have m3':w.heap.size+3≤w3.heap.size:=by omega
 have o0:=vblk_cell hO3 0
 have q0:=vblk_cell hR3 0
 have y0:=vblk_cell hA3 0
 have o1:=vblk_cell hO3 1
 have q1:=vblk_cell hR3 1
 have y1:=vblk_cell hA3 1
 have o2:=vblk_cell hO3 2
 have q2:=vblk_cell hR3 2
 have y2:=vblk_cell hA3 2
 have o3:=vblk_cell hO3 3
 have q3:=vblk_cell hR3 3
 have y3:=vblk_cell hA3 3
 have fo:=vblk_frozen hO3
 have fr:=vblk_frozen hR3
 simp only [List.getElem?_toArray,List.getElem?_cons_succ,List.getElem?_cons_zero,List.setIfInBounds_toArray,List.set_cons_succ,List.set_cons_zero] at o0 q0 y0 o1 q1 y1 o2 q2 y2 o3 q3 y3
 go_wp2_with fail
 refine bodyPost_ret (v:=.agg #[.string d.name,.slice (some ⟨g1,0,none⟩) d.uses.length d.uses.length,.slice (some ⟨g2,0,none⟩) d.needs.length d.needs.length,.slice (some ⟨g3,0,none⟩) d.cmds.length d.cmds.length]) (by simp [results,Tryz.results145,go_sem,o0,q0,o1,q1,o2,q2,o3,q3]) rfl ⟨[.string d.name,.slice (some ⟨g1,0,none⟩) d.uses.length d.uses.length,.slice (some ⟨g2,0,none⟩) d.needs.length d.needs.length,.slice (some ⟨g3,0,none⟩) d.cmds.length d.cmds.length],rfl,?_,?_⟩
 ·have hS: ∀ {W:World},w3.heap.size≤W.heap.size→∀ b,Ow (w.heap.size+3) w3.heap.size b→Ow w.heap.size W.heap.size b:=fun h=>Ow.mono (by omega) h
  refine ⟨_,_,_,rfl,s_name,(R0.keep ?_).mono (hS ?_),p0,(R1.keep ?_).mono (hS ?_),(R2.keep ?_).mono (hS ?_)⟩
  all_goals first
   |(simp [World.setCell];done)
   |((repeat (refine Kp.trans ?_ (Kp.set (Ow.not (by omega)))));exact fun b hb=>rfl)
 ·refine ?_
  (repeat (refine Below.setCell ?_ (by simp<;>omega) _))
  exact kw3
theorem infoPack :(Tryz.prog.info? 189).map (fun i=>(i.zero,i.size,i.bytes))=some (some (.agg #[.string ⟨#[]⟩,.slice none 0 0,.slice none 0 0,.slice none 0 0]),4,88):=by kernel_rfl
theorem toPackS_c (S:Nat→Prop) (v:Value) (xs:List PackD) (w:World) (hv:RowIn shPack S w v xs) (hB: ∀ b,S b→b<w.heap.size) (hw:wtRow wtPack xs≤1048576):
    Calls Tryz.prog 67 #[v] w fun e w'=>∃ g,e=.returned (.slice (some ⟨g,0,none⟩) xs.length xs.length)∧RowOwn shPackO 189 (Ow w.heap.size w'.heap.size) w' (.slice (some ⟨g,0,none⟩) xs.length xs.length) xs∧Below w.heap.size w w':=by
  obtain ⟨a,cap,rfl,hl,hc,ha⟩:=hv
  have hn:=len_wtRow wtPack xs
  have hlm:xs.length≤maxLen:=hl
  unfold maxLen at hl
  obtain ⟨i0,hi,hz0,hz1,hz2⟩:=info_parts infoPack
  go_enter Tryz.func67,Tryz.ntmps67
  go_wp2_with (first
    | (at_make; refine wpList_make_full _ rfl _ _ 73 rfl w.heap.size 189 i0 _ 4 Tryz.underlying73 hi hz0 hz1 _ _ _ _ xs.length rfl rfl rfl rfl (by rw [hz2]; omega) (by unfold maxLen; omega) (Nat.le_refl _) ?_))
  intro w1 hown hgrow
  have hb1:=below_of_grown hgrow
  have hs1:w.heap.size+1≤w1.heap.size:=by
    rcases hown.2 with ⟨h,_⟩|⟨g,cap,cur,h,_,hg,_⟩
    · simp at h
    · simp at h
      have:=(Array.getElem?_eq_some_iff.1 hg).1
      omega
  obtain ⟨ys1,hown1⟩: ∃ ys,w1.ownsRow w.heap.size 189 4 (.slice (some ⟨w.heap.size,0,none⟩) xs.length xs.length) xs.length ys:=⟨_,hown⟩
  clear hgrow hown
  go_wp2_with fail
  go_loopw [4] (fun vi wr=>∃ (k:Nat) (ys:List Value),k≤xs.length∧vi=.int .i64 (k:Int)∧wr.ownsRow w.heap.size 189 4 (.slice (some ⟨w.heap.size,0,none⟩) xs.length xs.length) xs.length ys∧Hid (Laid shPackO (Ow (w.heap.size+1) wr.heap.size) wr ys xs k)∧Below w.heap.size w wr∧w.heap.size+1≤wr.heap.size) (fun vi _=>xs.length-(intOf vi).toNat)
  case atStart=>exact ⟨0,ys1,Nat.zero_le _,rfl,hown1,(fun i h h0=>by omega),hb1,hs1⟩
  case round=>
    obtain ⟨k,ys,hk,rfl,hownr,hy,hbr,hsr⟩:=hrel
    by_cases hlt':k<xs.length
    · rcases ha with rfl|⟨b,off,rfl,hlt,ha⟩
      · simp at hlt'
      obtain ⟨cs,hL,hcell⟩:=ha k hlt'
      have hL2:=shPack.keep (.of hbr hB) hL
      have hcell2:=hcell.keep (.of hbr hB) hlt
      have hBr: ∀ b,S b→b<wr.heap.size:=fun b h=>Nat.lt_of_lt_of_le (hB b h) hbr.size
      have hwt:wtPack xs[k]≤1048576:=by have:=wt_wtRow wtPack (List.getElem_mem hlt');omega
      have hown2: ∀ w2,Below wr.heap.size wr w2→w2.ownsRow w.heap.size 189 4 (.slice (some ⟨w.heap.size,0,none⟩) xs.length xs.length) xs.length ys:=fun w2 h2=>hownr.kept (grown_of_below h2 none) (by simp [Value.ownBlock])
      have hlen:=hownr.1
      have HC:Hid (∀ w2,Below wr.heap.size wr w2→∀ j,j<4→∃ x,w2.cell? ⟨w.heap.size,k*4+j,none⟩=some x):=fun w2 h2 j hj=>⟨ys.getD (k*4+j) undef,by rw [(hown2 w2 h2).cellAt _ (by omega)];simp [List.getD_eq_getElem?_getD,show k*4+j<ys.length by omega]⟩
      have HF:Hid (∀ w2,Below wr.heap.size wr w2→∀ j,w2.frozen? ⟨w.heap.size,j,none⟩=false):=fun w2 h2 j=>(hown2 w2 h2).frozenAt j
      have HO:Hid (∀ w2,Below wr.heap.size wr w2→w2.ownsRow w.heap.size 189 4 (.slice (some ⟨w.heap.size,0,none⟩) xs.length xs.length) xs.length ys):=hown2
      have HST:Hid (∀ w2 cs,Below wr.heap.size wr w2→cs.length=4→shPackO.lies (Ow (w.heap.size+1) w2.heap.size) w2 cs xs[k]→Laid shPackO (Ow (w.heap.size+1) (setW w2 w.heap.size (k*4) cs).heap.size) (setW w2 w.heap.size (k*4) cs) (putL ys (k*4) cs) xs (k+1)):=fun w2 cs h2 hc hr=>hy.out.step (sh:=shPackO) hlt' hlen h2 (by omega) hc hr
      obtain ⟨d,hd⟩: ∃ d,d=xs[k]:=⟨_,rfl⟩
      rw [←hd] at hL2 hwt HST
      have HC1:=toPack_c S d cs wr hL2 hBr hwt
      clear ha hL hcell hd hown2 hi hz0 hz1 hz2 hown1 hb1 hlen hwt
      obtain ⟨u0,u1,u2,rfl,s_name,r0,p0,r1,r2⟩:=hL2
      clear s_name p0
      obtain ⟨a0,cap0,eu0,_⟩:=id r0
      rw [length_strsV] at eu0
      subst eu0
      clear r0
      obtain ⟨a1,cap1,eu1,_⟩:=id r1
      subst eu1
      clear r1
      obtain ⟨a2,cap2,eu2,_⟩:=id r2
      subst eu2
      clear r2
      have e0:wr.cell? ⟨b,off+k*4,none⟩=some (.string d.name):=hcell2 0 (by simp)
      have e1:wr.cell? ⟨b,off+k*4+1,none⟩=some (.slice a0 d.uses.length cap0):=hcell2 1 (by simp)
      have e2:wr.cell? ⟨b,off+k*4+2,none⟩=some (.slice a1 d.needs.length cap1):=hcell2 2 (by simp)
      have e3:wr.cell? ⟨b,off+k*4+3,none⟩=some (.slice a2 d.cmds.length cap2):=hcell2 3 (by simp)
      have HC2:=hidden HC1
      have hki:(k:Int)<(xs.length:Int):=by omega
      clear hcell2 HC1
      go_wp2_with (go_at_call 145;refine HC2.out.mono ?_;rintro e w2 ⟨cs,rfl,hX,hb2⟩;have HX:=hidden (HST.out w2 cs hb2 (by have h:=hX;obtain ⟨u0,u1,u2,h9,s_name,r0,p0,r1,r2⟩:=h;rw [h9];rfl) (shPackO.mono (Ow.mono hsr (Nat.le_refl _)) hX));obtain ⟨u0,u1,u2,rfl,s_name,z0,p0,z1,z2⟩:=hX;obtain ⟨b0,bap0,ev0⟩:=z0.slice;subst ev0;obtain ⟨b1,bap1,ev1⟩:=z1.slice;subst ev1;obtain ⟨b2,bap2,ev2⟩:=z2.slice;subst ev2;obtain ⟨y0,d0⟩:=HC.out w2 hb2 0 (by omega);obtain ⟨y1,d1⟩:=HC.out w2 hb2 1 (by omega);obtain ⟨y2,d2⟩:=HC.out w2 hb2 2 (by omega);obtain ⟨y3,d3⟩:=HC.out w2 hb2 3 (by omega);rw [Nat.add_zero] at d0;have f9:=HF.out w2 hb2)
      go_roundw
      case rel=>
        refine ⟨k+1,_,by omega,by go_num,setW_owns [.string d.name,.slice b0 d.uses.length bap0,.slice b1 d.needs.length bap1,.slice b2 d.cmds.length bap2] w2 ys (k*4) (HO.out w2 hb2),HX.out,setW_below (Nat.le_refl _) [.string d.name,.slice b0 d.uses.length bap0,.slice b1 d.needs.length bap1,.slice b2 d.cmds.length bap2] w2 w (k*4) (hbr.trans (hb2.mono hbr.size)),?_⟩
        have h9:=setW_size [.string d.name,.slice b0 d.uses.length bap0,.slice b1 d.needs.length bap1,.slice b2 d.cmds.length bap2] w2 w.heap.size (k*4)
        have:=hb2.size
        exact Nat.le_trans (show w.heap.size+1≤w2.heap.size by omega) (Nat.le_of_eq h9.symm)
      case measure=>simp [intOf];omega
    · have he:k=xs.length:=by omega
      subst he
      clear ha
      go_wp2_with fail
      go_ret
      exact ⟨_,rfl,rowOwn_of hownr hlm hy.out,hbr⟩
theorem rowL_plain {lo:Nat} {w:World} {v:Value} {xs:List PickD} (h:RowOwn shPickO 59 (Ow lo w.heap.size) w v xs):RowIn shPick (Ow lo w.heap.size) w v xs:=RowIn.as (sh:=shPickO) (sh':=shPick) rfl (fun S w cs x h=>liesPick_plain h) h.plain
end Go.Proofs.YtlfmefojcmpfeaaGreatDoor
