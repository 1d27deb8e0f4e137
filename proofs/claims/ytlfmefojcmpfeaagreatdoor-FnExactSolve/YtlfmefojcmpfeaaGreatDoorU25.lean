/-
  Contracts for the walks and pure facts, several texts in one: each theorem says what it proves, and under which conditions.
-/
import Derived.Test.YtlfmefojcmpfeaaGreatDoorUT
import Derived.Test.YtlfmefojcmpfeaaGreatDoorU24
set_option linter.unusedSimpArgs false
set_option linter.unusedVariables false
set_option maxHeartbeats 16000000
set_option maxRecDepth 100000
namespace Go.Proofs.YtlfmefojcmpfeaaGreatDoor
open Go.RowKit
theorem src_newN (w:World) (cs:List Value) (t:TypeId): ∀ j u,cs[j]?=some u→(w.alloc (.cells cs.toArray t)).cell? ((⟨w.heap.size,0,none⟩:Addr).add j)=some u:=fun j u hu=>by
 have e:((⟨w.heap.size,0,none⟩:Addr).add j)=⟨w.heap.size,j,none⟩:=by unfold Addr.add;split<;>simp_all
 rw [e,vblk_cell (vheap_new _ _) j]
 simpa using hu
theorem RowE.cell {B g n cap:Nat} {w:World} {ps:List EC} (h:RowE B w (.slice (some ⟨g,0,none⟩) n cap) ps) (hn:n=ps.length) {i:Nat} (hi:i<ps.length) (j:Nat) (hj:j<6):w.cell? ⟨g,i*6+j,none⟩=(ps[i].cells)[j]? :=by
 subst hn
 rw [h.1.cellAt _ (by omega),flatE_at ps i hi j hj]
theorem rowE_some {B:Nat} {w:World} {v:Value} {ps:List EC} (h:RowE B w v ps) (hp:0<ps.length): ∃ g cap,v=.slice (some ⟨g,0,none⟩) ps.length cap:=by
 rcases id h.1.2 with ⟨rfl,h0⟩|⟨g,cap,cur,rfl,_⟩
 ·omega
 ·exact ⟨g,cap,rfl⟩
theorem ent_slices {w:World} {p:EC} (h:EntOwn w p): ∃ q0 c0 q1 c1,p.u0=.slice q0 p.d.vP.length c0∧p.u1=.slice q1 p.d.needs.length c1:=by
 obtain ⟨q0,c0,e0⟩:=owns_sliceP h.1
 obtain ⟨q1,c1,e1⟩:=owns_sliceP h.2
 exact ⟨q0,c0,q1,c1,e0,e1⟩
theorem entC_of {S:Nat→Prop} {w:World} {cs:List Value} {d:EntryD} (h:shEntryO.lies S w cs d): ∃ p:EC,p.d=d∧cs=p.cells∧EntOwn w p:=by
 obtain ⟨u0,u1,rfl,_,r0,_,r1⟩:=h
 obtain ⟨_,ys,ho,_,hld⟩:=r1
 have hy:=laid_needs hld ho.1
 subst hy
 exact ⟨⟨d,u0,u1⟩,rfl,rfl,r0.1,ho⟩
theorem RowE.setN {B g n cap:Nat} {w:World} {ps:List EC} (h:RowE B w (.slice (some ⟨g,0,none⟩) n cap) ps) (hn:n=ps.length) {i:Nat} (hi:i<ps.length) {p:EC} (hp:EntOwn w p):RowE B (setW w g (i*6) p.cells) (.slice (some ⟨g,0,none⟩) n cap) (ps.set i p):=by
 subst hn
 have h9:=h.set hi hp
 rw [List.length_set] at h9
 exact h9
theorem insG_mem {α:Type} {f:α→α→Bool} {ys:List α} {x d:α} (h:d∈insG f ys x):d∈ys∨d=x:=by
 unfold insG at h
 rcases List.mem_append.1 h with h|h
 ·exact .inl (List.mem_of_mem_take h)
 ·rcases List.mem_cons.1 h with h|h
  ·exact .inr h
  ·exact .inl (List.mem_of_mem_drop h)
theorem fold_insG_mem {α:Type} {f:α→α→Bool} {d:α}: ∀ (l acc:List α),d∈l.foldl (insG f) acc→d∈acc∨d∈l:=by
 intro l
 induction l with
 |nil=>intro acc h;exact .inl h
 |cons x l ih=>
  intro acc h
  rcases ih _ h with h|h
  ·rcases insG_mem h with h|rfl
   ·exact .inl h
   ·exact .inr List.mem_cons_self
  ·exact .inr (List.mem_cons_of_mem _ h)
theorem newD_mem {xs:List EntryD} {n:ByteArray} {d:EntryD} (h:d∈newD xs n):d∈xs:=by
 rcases fold_insG_mem _ _ h with h|h
 ·cases h
 ·exact (List.mem_filter.1 h).1
theorem wtE_vP {d:EntryD} (h:wtEntry d≤1048576):bulkS d.vP≤1048576:=by
 have:d.name.size+bulkS d.vP+wtRow wtNeed d.needs≤1048576:=h
 omega
theorem hole_self (ys:List EC) (k:Nat) (z:EC) (h:k≤ys.length):(holeC ys k z)[k]?=some z:=by
 unfold holeC
 rw [List.getElem?_append_right (by simp;omega)]
 have:k-(ys.take k).length=0:=by simp;omega
 rw [this]
 rfl
theorem RowE.hole {B g n cap:Nat} {w:World} {ps:List EC} {k:Nat} {z:EC} (h:RowE B w (.slice (some ⟨g,0,none⟩) n cap) (holeC ps k z)) (hn:n=ps.length+1) (hk:k≤ps.length) (j:Nat) (hj:j<6):w.cell? ⟨g,k*6+j,none⟩=(z.cells)[j]? :=by
 have hl:=hole_len ps k z hk
 have hki:k<(holeC ps k z).length:=by omega
 have h9:=h.cell (by omega) (i:=k) hki j hj
 have e8:=hole_self ps k z hk
 rw [List.getElem?_eq_getElem hki] at e8
 rw [Option.some.inj e8] at h9
 exact h9
theorem RowE.frz {B g n cap:Nat} {w:World} {ps:List EC} (h:RowE B w (.slice (some ⟨g,0,none⟩) n cap) ps) (hn:n=ps.length) (j:Nat):w.frozen? ⟨g,j,none⟩=false:=by
 subst hn
 exact h.1.frozenAt j
theorem box_far {w:World} {N g:Nat} {o:Obj} (hn:N≠g) (cs:List Value): ∀ (w:World) (j:Nat),w.heap[N]?=some o→(setW w g j cs).heap[N]?=some o:=by
 intro w j h
 exact (setW_kp (S:=fun b=>b=N) (fun e=>hn e.symm) cs w j N rfl).trans h
theorem specNewest_c (S:Nat→Prop) (v:Value) (xs:List EntryD) (n:ByteArray) (w:World) (hv:RowIn shEntryO S w v xs) (hB: ∀ b,S b→b<w.heap.size) (hw:wtRow wtEntry xs≤1048576):
  Calls Tryz.prog 22 #[v,.string n] w fun e w'=>∃ v' ps,e=.returned v'∧RowE w.heap.size w' v' ps∧ps.map EC.d=newD xs n∧Below w.heap.size w w':=by
 obtain ⟨i0,hi0,hz0,hz1,hz2⟩:=info_parts infoEntry
 have hwe: ∀ d∈xs,wtEntry d≤1048576:=fun d hd=>Nat.le_trans (wt_wtRow wtEntry hd) hw
 have hlx:=len_wtRow wtEntry xs
 obtain ⟨av,cv,rfl,hl,hc,ha⟩:=hv
 unfold maxLen at hl
 have hbx:Below w.heap.size w (w.alloc (.cells #[] 35)):=(Below.refl _ _).alloc (Nat.le_refl _) _
 have hg0:RowE w.heap.size (w.alloc (.cells #[] 35)) (.slice (some ⟨w.heap.size,0,none⟩) 0 0) []:=⟨World.ownsRow_lit w #[] 0 (Nat.le_refl _) (by unfold maxLen;omega) rfl,fun p hp=>by simp at hp⟩
 have HWE:=hidden hwe
 clear hwe
 go_enter Tryz.func22,Tryz.ntmps22
 go_wp2_with fail
 go_loopw [5,6] (fun vx vi wr=>∃ (i:Nat) (vo:Value) (ps:List EC),i≤xs.length∧vi=.int .i64 (i:Int)∧vx=vo∧Hid (ps.map EC.d=newD (xs.take i) n)∧Hid (RowE w.heap.size wr vo ps)∧Below w.heap.size w wr) (fun _ vi _=>xs.length-(intOf vi).toNat)
 case atStart=>exact ⟨0,_,[],Nat.zero_le _,rfl,rfl,(by show _=_;simp [newD]),hg0,hbx⟩
 case round=>
  clear hbx hg0
  obtain ⟨wo,hwo⟩: ∃ wo,wo=wr:=⟨_,rfl⟩
  subst hwo
  obtain ⟨i,vo,ps,hil,rfl,hvx,hps,hrow,hbr⟩:=hrel
  have hpl:ps.length≤i:=by
   have h1:=newD_len xs n i hil
   have h2:=congrArg List.length hps.out
   rw [List.length_map] at h2
   omega
  have hwp:Hid (∀ q∈ps,bulkS q.d.vP≤1048576):=fun q hq=>by
   have h1:q.d∈ps.map EC.d:=List.mem_map_of_mem hq
   rw [hps.out] at h1
   exact wtE_vP (HWE.out _ (List.mem_of_mem_take (newD_mem h1)))
  obtain ⟨qo,co,hvo⟩:=owns_sliceP hrow.out.1
  subst hvx
  subst hvo
  by_cases hlt:i<xs.length
  ·rcases ha with rfl|⟨b,off,rfl,hlb,ha⟩
   ·simp at hlt
   obtain ⟨cs,hL,hcell⟩:=ha i hlt
   have hcell2:=hcell.keep (.of hbr hB) hlb
   replace hL:=shEntryO.keep (.of hbr hB) hL
   have hBr: ∀ b,S b→b<wo.heap.size:=fun b h=>Nat.lt_of_lt_of_le (hB b h) hbr.size
   have hwk:=HWE.out xs[i] (List.getElem_mem hlt)
   have HST:=hidden (newD_step xs n i hlt)
   obtain ⟨d,hd⟩: ∃ d,d=xs[i]:=⟨_,rfl⟩
   rw [←hd] at hL hwk HST
   have HCP': ∀ w1,Below wo.heap.size wo w1→Calls Tryz.prog 83 #[.agg cs.toArray] w1 fun e w'=>∃ cs',e=.returned (.agg cs'.toArray)∧shEntryO.lies (Ow w1.heap.size w'.heap.size) w' cs' d∧Below w1.heap.size w1 w':=fun w1 h=>l8Copy_c S d cs w1 (shEntryO.keep (.of h hBr) hL) (fun b hb=>Nat.lt_of_lt_of_le (hBr b hb) h.size) hwk
   obtain ⟨u0,u1,rfl,s_n,r0,p0,r1⟩:=hL
   obtain ⟨a0,cap0,eu0⟩:=r0.slice
   subst eu0
   obtain ⟨a1,cap1,eu1⟩:=r1.slice
   subst eu1
   have HCP:=hidden HCP'
   have e0:wo.cell? ⟨b,off+i*6,none⟩=some (.string d.name):=hcell2 0 (by simp)
   have e1:wo.cell? ⟨b,off+i*6+1,none⟩=some (.int .i64 d.vA):=hcell2 1 (by simp)
   have e2:wo.cell? ⟨b,off+i*6+2,none⟩=some (.int .i64 d.vB):=hcell2 2 (by simp)
   have e3:wo.cell? ⟨b,off+i*6+3,none⟩=some (.int .i64 d.vC):=hcell2 3 (by simp)
   have e4:wo.cell? ⟨b,off+i*6+4,none⟩=some (.slice a0 d.vP.length cap0):=hcell2 4 (by simp)
   have e5:wo.cell? ⟨b,off+i*6+5,none⟩=some (.slice a1 d.needs.length cap1):=hcell2 5 (by simp)
   have hki:(i:Int)<(xs.length:Int):=by omega
   have hal:=name_alike d.name n
   have hbkd:bulkS d.vP≤1048576:=by
    have:d.name.size+bulkS d.vP+wtRow wtNeed d.needs≤1048576:=hwk
    omega
   clear ha hd hcell hcell2 HCP' r0 r1 p0 s_n hwk
   by_cases hts:d.name=n
   case neg=>
    have hq:(d.name.toList == n.toList)=false:=by rw [hal];simpa using hts
    rw [if_neg hts] at HST
    clear hts hal HCP
    go_wp2_with fail
    go_roundw
    case rel=>exact ⟨i+1,_,ps,by omega,by go_num,rfl,(by show _=_;rw [HST.out];exact hps.out),hrow,hbr⟩
    case measure=>simp [intOf];omega
   case pos=>
   have hq:(d.name.toList == n.toList)=true:=by rw [hal];simpa using hts
   rw [if_pos hts] at HST
   clear hts hal
   go_wp2_with fail
   go_at_call 83
   refine (HCP.out _ (Below.refl _ _)).mono ?_
   rintro e w2 ⟨cs2,rfl,hX2,b2⟩
   obtain ⟨p,hpd,hpc,hpo⟩:=entC_of hX2
   subst hpc
   have hrow2:=hrow.out.below b2
   have k2:=hbr.trans (b2.mono hbr.size)
   obtain ⟨q0,c0,q1,c1,f0,f1⟩:=ent_slices hpo
   have hpcells:p.cells=[.string d.name,.int .i64 d.vA,.int .i64 d.vB,.int .i64 d.vC,.slice q0 d.vP.length c0,.slice q1 d.needs.length c1]:=by unfold EC.cells;rw [f0,f1,hpd]
   have HPC:=hidden hpcells
   rw [hpcells]
   have hown2:w2.ownsRow w.heap.size 35 6 (.slice qo ps.length co) ps.length (flatE ps):=hrow2.1
   have kz:Below w.heap.size w (w2.alloc (.cells #[.string d.name,.int .i64 d.vA,.int .i64 d.vB,.int .i64 d.vC,.slice q0 d.vP.length c0,.slice q1 d.needs.length c1] 35)):=k2.alloc k2.size _
   have HALL:Hid (∀ q∈ps,EntOwn w2 q):=hrow2.2
   clear HCP hX2 hrow hrow2 e0 e1 e2 e3 e4 e5
   go_wp2_with (at_builtin;refine wpList_append_own _ rfl _ _ 24 rfl w.heap.size 35 i0 (.agg #[.string ⟨#[]⟩,.int .i64 0,.int .i64 0,.int .i64 0,.slice none 0 0,.slice none 0 0]) 6 88 Tryz.underlying24 hi0 hz0 hz1 hz2 rfl (by decide) _ ps.length (flatE ps) rfl (hown2.alloc _) ⟨w2.heap.size,0,none⟩ 1 1 [.string d.name,.int .i64 d.vA,.int .i64 d.vB,.int .i64 d.vC,.slice q0 d.vP.length c0,.slice q1 d.needs.length c1] rfl rfl (src_newN _ [.string d.name,.int .i64 d.vA,.int .i64 d.vB,.int .i64 d.vC,.slice q0 d.vP.length c0,.slice q1 d.needs.length c1] _) (by intro u hu;simp at hu;rcases hu with rfl|rfl|rfl|rfl|rfl|rfl<;>rfl) (by unfold maxLen;omega) (by omega) (by have:=k2.size;simp;omega) ?_)
   intro v3 w3 o3 gr3 _
   have hb3:Below w.heap.size w w3:=kz.grown gr3 kz.size (fun j hj=>(hown2.lt j hj).1)
   have hrow3:RowE w.heap.size w3 v3 (ps++[p]):=by
    refine ⟨?_,fun q hq=>?_⟩
    ·rw [flatE_append,List.length_append]
     have e9:flatE [p]=[.string d.name,.int .i64 d.vA,.int .i64 d.vB,.int .i64 d.vC,.slice q0 d.vP.length c0,.slice q1 d.needs.length c1]:=by show p.cells++[]=_;rw [List.append_nil];exact HPC.out
     rw [e9]
     exact o3
    ·have kz2:Below w2.heap.size w2 (w2.alloc (.cells #[.string d.name,.int .i64 d.vA,.int .i64 d.vB,.int .i64 d.vC,.slice q0 d.vP.length c0,.slice q1 d.needs.length c1] 35)):=(Below.refl _ _).alloc (Nat.le_refl _) _
     rcases List.mem_append.1 hq with h9|h9
     ·exact ((HALL.out q h9).below kz2).grown (hown2.alloc _) gr3
     ·rw [List.mem_singleton.1 h9];exact (hpo.below kz2).grown (hown2.alloc _) gr3
   obtain ⟨g,cap3,hv3⟩:=rowE_some hrow3 (by simp)
   rw [List.length_append,List.length_singleton] at hv3
   subst hv3
   have hgl:w.heap.size≤g∧g<w3.heap.size:=(hrow3.1.lt g rfl)
   have hat: ∀ j,j<6→w3.cell? ⟨g,ps.length*6+j,none⟩=([.string d.name,.int .i64 d.vA,.int .i64 d.vB,.int .i64 d.vC,.slice q0 d.vP.length c0,.slice q1 d.needs.length c1]:List Value)[j]? :=fun j hj=>by
    have h9:=hrow3.cell (by simp) (i:=ps.length) (by simp) j hj
    have e9:(ps++[p])[ps.length]'(by simp)=p:=by simp
    rw [e9,HPC.out] at h9
    exact h9
   have c0_:w3.cell? ⟨g,ps.length*6,none⟩=some (.string d.name):=hat 0 (by omega)
   have c1_:w3.cell? ⟨g,ps.length*6+1,none⟩=some (.int .i64 d.vA):=hat 1 (by omega)
   have c2_:w3.cell? ⟨g,ps.length*6+2,none⟩=some (.int .i64 d.vB):=hat 2 (by omega)
   have c3_:w3.cell? ⟨g,ps.length*6+3,none⟩=some (.int .i64 d.vC):=hat 3 (by omega)
   have c4_:w3.cell? ⟨g,ps.length*6+4,none⟩=some (.slice q0 d.vP.length c0):=hat 4 (by omega)
   have c5_:w3.cell? ⟨g,ps.length*6+5,none⟩=some (.slice q1 d.needs.length c1):=hat 5 (by omega)
   have hown3:EntOwn w3 p:=hrow3.2 p (by simp)
   have HPS:=hidden hps.out
   have HPD:=hidden hpd
   have HR3:=hidden hrow3
   have HO3:=hidden hown3
   have HB3:=hidden hb3
   have HPX:=hidden f0
   have HPY:=hidden f1
   clear hat hrow3 hown3 hpo hown2 o3 gr3 HALL kz k2 b2 hps hpd hpcells hb3 f0 f1
   go_wp2_with fail
   have kz3:Below w3.heap.size w3 (w3.alloc (.cells #[.string d.name,.int .i64 d.vA,.int .i64 d.vB,.int .i64 d.vC,.slice q0 d.vP.length c0,.slice q1 d.needs.length c1] 35)):=(Below.refl _ _).alloc (Nat.le_refl _) _
   have HI0:Hid (RowE w.heap.size (w3.alloc (.cells #[.string d.name,.int .i64 d.vA,.int .i64 d.vB,.int .i64 d.vC,.slice q0 d.vP.length c0,.slice q1 d.needs.length c1] 35)) (.slice (some ⟨g,0,none⟩) (ps.length+1) cap3) (holeC ps ps.length p)):=by
    have h9:holeC ps ps.length p=ps++[p]:=by unfold holeC;rw [List.take_length,List.drop_length]
    rw [h9]
    exact HR3.out.below kz3
   have HX0:Hid ((w3.alloc (.cells #[.string d.name,.int .i64 d.vA,.int .i64 d.vB,.int .i64 d.vC,.slice q0 d.vP.length c0,.slice q1 d.needs.length c1] 35)).heap[w3.heap.size]?=some (.cells #[.string d.name,.int .i64 d.vA,.int .i64 d.vB,.int .i64 d.vC,.slice q0 d.vP.length c0,.slice q1 d.needs.length c1] 35 (0,0))):=vheap_new _ _
   have HO0:Hid (EntOwn (w3.alloc (.cells #[.string d.name,.int .i64 d.vA,.int .i64 d.vB,.int .i64 d.vC,.slice q0 d.vP.length c0,.slice q1 d.needs.length c1] 35)) p):=HO3.out.below kz3
   have HB0:Hid (Below w.heap.size w (w3.alloc (.cells #[.string d.name,.int .i64 d.vA,.int .i64 d.vB,.int .i64 d.vC,.slice q0 d.vP.length c0,.slice q1 d.needs.length c1] 35))):=HB3.out.alloc HB3.out.size _
   clear kz3 c0_ c1_ c2_ c3_ c4_ c5_ HR3 HO3
   go_loopw [7] (fun vk wr=>∃ (k:Nat) (z:EC),k≤ps.length∧vk=.int .i64 (k:Int)∧Hid (posR lessC ps p ps.length=posR lessC ps p k)∧Hid (RowE w.heap.size wr (.slice (some ⟨g,0,none⟩) (ps.length+1) cap3) (holeC ps k z))∧Hid (wr.heap[w3.heap.size]?=some (.cells #[.string d.name,.int .i64 d.vA,.int .i64 d.vB,.int .i64 d.vC,.slice q0 d.vP.length c0,.slice q1 d.needs.length c1] 35 (0,0)))∧Hid (EntOwn wr p)∧Hid (Below w.heap.size w wr)) (fun vk _=>(intOf vk).toNat)
   case atStart=>exact ⟨ps.length,p,Nat.le_refl _,rfl,rfl,HI0,HX0,HO0,HB0⟩
   case round=>
    clear HI0 HX0 HO0 HB0
    obtain ⟨k,z,hk,rfl,HP,HROW,HBX,HO,HBR⟩:=hrel
    rcases k with _|k
    ·rw [show ((0:Nat):Int)=0 from rfl]
     go_wp2_with fail
     refine wp_region_held_drew (S:=(fun _=>True)) (by kernel_rfl) ?SR10 (fun hHeld=>?_)
     case SR10=>(exact True.intro)
     refine tk 0 hHeld (h:=?_)
     refine tk 1 hHeld (h:=?_)
     refine tk 2 hHeld (h:=?_)
     refine tk 3 hHeld (v:=undef) (hy:=Or.inr ⟨by rfl,rfl⟩) (h:=?_)
     refine tk 4 hHeld (v:=undef) (hy:=Or.inr ⟨by rfl,rfl⟩) (h:=?_)
     refine tk 5 hHeld (v:=undef) (hy:=Or.inr ⟨by rfl,rfl⟩) (h:=?_)
     refine tk 6 hHeld (v:=undef) (hy:=Or.inr ⟨by rfl,rfl⟩) (h:=?_)
     refine tk 7 hHeld (v:=undef) (hy:=Or.inr ⟨by rfl,rfl⟩) (h:=?_)
     refine tk 8 hHeld (v:=undef) (hy:=Or.inr ⟨by rfl,rfl⟩) (h:=?_)
     refine tk 9 hHeld (v:=undef) (hy:=Or.inr ⟨by rfl,rfl⟩) (h:=?_)
     refine tk 10 hHeld (v:=undef) (hy:=Or.inr ⟨by rfl,rfl⟩) (h:=?_)
     refine tk 11 hHeld (v:=undef) (hy:=Or.inr ⟨by rfl,rfl⟩) (h:=?_)
     refine tk 12 hHeld (h:=?_)
     refine wpAnyH_done (by kernel_rfl) ?_ _
     have hd0:Below wr.heap.size wr wr.drew:=(Below.refl _ _).drew
     have hNr:w3.heap.size<wr.heap.size:=(Array.getElem?_eq_some_iff.1 HBX.out).1
     have hbx6:wr.drew.heap[w3.heap.size]?=some (.cells #[.string d.name,.int .i64 d.vA,.int .i64 d.vB,.int .i64 d.vC,.slice q0 d.vP.length c0,.slice q1 d.needs.length c1] 35 (0,0)):=(hd0.block _ hNr).trans HBX.out
     have HRW6:=hidden (HROW.out.below hd0)
     have HO6:=hidden (HO.out.below hd0)
     have hb6:Below w.heap.size w wr.drew:=HBR.out.drew
     obtain ⟨w7,hw7⟩: ∃ w7,w7=wr.drew:=⟨_,rfl⟩
     rw [←hw7] at hbx6 HRW6 HO6 hb6
     rw [←hw7]
     clear hw7 hd0 hNr
     have o0_:w7.cell? ⟨g,0,none⟩=some (.string z.d.name):=by have h9:=HRW6.out.hole rfl hk 0 (by omega);exact h9
     have o1_:w7.cell? ⟨g,1,none⟩=some (.int .i64 z.d.vA):=by have h9:=HRW6.out.hole rfl hk 1 (by omega);exact h9
     have o2_:w7.cell? ⟨g,2,none⟩=some (.int .i64 z.d.vB):=by have h9:=HRW6.out.hole rfl hk 2 (by omega);exact h9
     have o3_:w7.cell? ⟨g,3,none⟩=some (.int .i64 z.d.vC):=by have h9:=HRW6.out.hole rfl hk 3 (by omega);exact h9
     have o4_:w7.cell? ⟨g,4,none⟩=some (z.u0):=by have h9:=HRW6.out.hole rfl hk 4 (by omega);exact h9
     have o5_:w7.cell? ⟨g,5,none⟩=some (z.u1):=by have h9:=HRW6.out.hole rfl hk 5 (by omega);exact h9
     have hfz: ∀ j,w7.frozen? ⟨g,j,none⟩=false:=fun j=>HRW6.out.frz (hole_len ps _ z hk).symm j
     have b0_:w7.cell? ⟨w3.heap.size,0,none⟩=some (.string d.name):=vblk_cell hbx6 0
     have b1_:w7.cell? ⟨w3.heap.size,1,none⟩=some (.int .i64 d.vA):=vblk_cell hbx6 1
     have b2_:w7.cell? ⟨w3.heap.size,2,none⟩=some (.int .i64 d.vB):=vblk_cell hbx6 2
     have b3_:w7.cell? ⟨w3.heap.size,3,none⟩=some (.int .i64 d.vC):=vblk_cell hbx6 3
     have b4_:w7.cell? ⟨w3.heap.size,4,none⟩=some (.slice q0 d.vP.length c0):=vblk_cell hbx6 4
     have b5_:w7.cell? ⟨w3.heap.size,5,none⟩=some (.slice q1 d.needs.length c1):=vblk_cell hbx6 5
     have HFIN:Hid (RowE w.heap.size (setW w7 g (0*6) [.string d.name,.int .i64 d.vA,.int .i64 d.vB,.int .i64 d.vC,.slice q0 d.vP.length c0,.slice q1 d.needs.length c1]) (.slice (some ⟨g,0,none⟩) (ps.length+1) cap3) (holeC ps 0 p)):=by
      have h9:=HRW6.out.setN (hole_len ps 0 z hk).symm (i:=0) (by rw [hole_len ps 0 z hk];omega) HO6.out
      rw [hole_set ps 0 z p hk,HPC.out] at h9
      exact h9
     have HBL:Hid (Below w.heap.size w (setW w7 g (0*6) [.string d.name,.int .i64 d.vA,.int .i64 d.vB,.int .i64 d.vC,.slice q0 d.vP.length c0,.slice q1 d.needs.length c1])):=setW_below hgl.1 _ _ _ _ hb6
     have HNW:Hid ((holeC ps 0 p).map EC.d=newD (List.take (i+1) xs) n):=by
      show _=_
      have h9:holeC ps 0 p=insG lessC ps p:=by unfold insG;rw [HP.out];rfl
      rw [h9,insG_map,HPS.out,HPD.out,HST.out]
     clear hbx6 HRW6 HO6 HP HBX HROW HO
     go_wp2_with fail
     go_roundw
     case rel=>exact ⟨i+1,_,holeC ps 0 p,by omega,by go_num,rfl,HNW,HFIN,HBL.out⟩
     case measure=>simp [intOf];omega
    ·have ek:((k+1:Nat):Int)=(k:Int)+1:=by omega
     rw [ek]
     clear ek
     have hkl:k<ps.length:=by omega
     have hyo:EntOwn wr ps[k]:=HROW.out.2 _ (List.mem_of_getElem? (hole_at ps k z hkl))
     obtain ⟨s0,t0,s1,t1,y0,y1⟩:=ent_slices hyo
     have hyc: ∀ j,j<6→wr.cell? ⟨g,k*6+j,none⟩=(ps[k].cells)[j]? :=fun j hj=>by
      have hki9:k<(holeC ps (k+1) z).length:=by rw [hole_len ps (k+1) z hk];omega
      have h9:=HROW.out.cell (hole_len ps (k+1) z hk).symm (i:=k) hki9 j hj
      have e9:(holeC ps (k+1) z)[k]=ps[k]:=by
       have e8:=hole_at ps k z hkl
       rw [List.getElem?_eq_getElem hki9] at e8
       exact Option.some.inj e8
      rw [e9] at h9
      exact h9
     have hPO:=posR_step lessC ps p k hkl
     have hyb:bulkS ps[k].d.vP≤1048576:=hwp.out _ (List.getElem_mem hkl)
     have hsh:=hole_shift ps k hkl
     obtain ⟨yc,hyd⟩: ∃ yc,yc=ps[k]:=⟨_,rfl⟩
     rw [←hyd] at hyo y0 y1 hyc hPO hyb hsh
     obtain ⟨y,hy⟩: ∃ y,y=yc.d:=⟨_,rfl⟩
     rw [←hy] at y0 y1 hyb
     have hycl:yc.cells=[.string y.name,.int .i64 y.vA,.int .i64 y.vB,.int .i64 y.vC,.slice s0 y.vP.length t0,.slice s1 y.needs.length t1]:=by unfold EC.cells;rw [y0,y1, ←hy]
     have HYC:=hidden hycl
     rw [hycl] at hyc
     obtain ⟨LB,hLB⟩: ∃ LB,LB=lessB y.vA y.vB y.vC y.vP d.vA d.vB d.vC d.vP:=⟨_,rfl⟩
     have hPO2:posR lessC ps p (k+1)=if LB=true then posR lessC ps p k else k+1:=by
      rw [hPO]
      have e9:lessC yc p=LB:=by unfold lessC lessE;rw [←hy,HPD.out,hLB]
      rw [e9]
     have HPO:=hidden hPO2
     have HSH:=hidden hsh
     have HYO:=hidden hyo
     have hrY:Reads wr (.slice s0 y.vP.length t0) (strsV y.vP):=by have h9:=hyo.1;rw [y0, ←hy] at h9;exact reads_of_owns h9
     have hrX:Reads wr (.slice q0 d.vP.length c0) (strsV d.vP):=by have h9:=HO.out.1;rw [HPX.out,HPD.out] at h9;exact reads_of_owns h9
     have HLS': ∀ W,Below wr.heap.size wr W→Calls Tryz.prog 86 #[.agg #[.int .i64 y.vA,.int .i64 y.vB,.int .i64 y.vC,.slice s0 y.vP.length t0],.agg #[.int .i64 d.vA,.int .i64 d.vB,.int .i64 d.vC,.slice q0 d.vP.length c0]] W fun e w'=>e=.returned (.bool LB)∧Below W.heap.size W w':=fun W hW=>by
      rw [hLB]
      exact specLess_c y.vA y.vB y.vC _ y.vP d.vA d.vB d.vC _ d.vP W (hrY.below hW) (hrX.below hW) hyb hbkd
     have HLS:=hidden HLS'
     have hgr:g<wr.heap.size:=(HROW.out.1.lt g rfl).2
     have hNr:w3.heap.size<wr.heap.size:=(Array.getElem?_eq_some_iff.1 HBX.out).1
     have KEEP': ∀ W,Below wr.heap.size wr W→W.cell? ⟨g,k*6+1,none⟩=some (.int .i64 y.vA)∧W.cell? ⟨g,k*6+2,none⟩=some (.int .i64 y.vB)∧W.cell? ⟨g,k*6+3,none⟩=some (.int .i64 y.vC)∧W.cell? ⟨g,k*6+4,none⟩=some (.slice s0 y.vP.length t0)∧W.cell? ⟨w3.heap.size,1,none⟩=some (.int .i64 d.vA)∧W.cell? ⟨w3.heap.size,2,none⟩=some (.int .i64 d.vB)∧W.cell? ⟨w3.heap.size,3,none⟩=some (.int .i64 d.vC)∧W.cell? ⟨w3.heap.size,4,none⟩=some (.slice q0 d.vP.length c0):=fun W hW=>by
      have hY: ∀ j,W.cell? ⟨g,j,none⟩=wr.cell? ⟨g,j,none⟩:=fun j=>hW.cell (p:=⟨g,j,none⟩) hgr
      have hX:W.heap[w3.heap.size]?=some (.cells #[.string d.name,.int .i64 d.vA,.int .i64 d.vB,.int .i64 d.vC,.slice q0 d.vP.length c0,.slice q1 d.needs.length c1] 35 (0,0)):=(hW.block _ hNr).trans HBX.out
      refine ⟨?_,?_,?_,?_,vblk_cell hX 1,vblk_cell hX 2,vblk_cell hX 3,vblk_cell hX 4⟩<;>rw [hY]
      ·exact hyc 1 (by omega)
      ·exact hyc 2 (by omega)
      ·exact hyc 3 (by omega)
      ·exact hyc 4 (by omega)
     have KEEP:=hidden KEEP'
     have hd0:Below wr.heap.size wr wr.drew:=(Below.refl _ _).drew
     have hkw:IntKind.i64.wrap (k:Int)=(k:Int):=IntWalk.i64_in _ ⟨by omega,by omega⟩
     have hk0:(0:Int)≤(k:Int):=by omega
     have hk1:(k:Int)<(ps.length:Int)+1:=by omega
     have hk2:(0:Int)<(k:Int)+1:=by omega
     have HYA:=hidden hyc
     clear KEEP' HLS' hrY hrX hPO hPO2 hyc hsh hyo y0 y1 hycl hLB hy hyd hyb
     go_wp2_with fail
     refine wp_region_held_drew (S:=(fun W=>W.cell? ⟨g,k*6+1,none⟩=some (.int .i64 y.vA)∧W.cell? ⟨g,k*6+2,none⟩=some (.int .i64 y.vB)∧W.cell? ⟨g,k*6+3,none⟩=some (.int .i64 y.vC)∧W.cell? ⟨g,k*6+4,none⟩=some (.slice s0 y.vP.length t0)∧W.cell? ⟨w3.heap.size,1,none⟩=some (.int .i64 d.vA)∧W.cell? ⟨w3.heap.size,2,none⟩=some (.int .i64 d.vB)∧W.cell? ⟨w3.heap.size,3,none⟩=some (.int .i64 d.vC)∧W.cell? ⟨w3.heap.size,4,none⟩=some (.slice q0 d.vP.length c0))) (by kernel_rfl) ?SR20 (fun hHeld=>?_)
     case SR20=>(first|(with_reducible exact KEEP.out _ hd1)|(with_reducible exact KEEP.out _ hd0))
     refine tk 0 hHeld (h:=?_)
     refine tk 1 hHeld (h:=?_)
     refine tk 2 hHeld (h:=?_)
     refine tk 3 hHeld (h:=?_)
     refine tk 4 hHeld (h:=?_)
     refine tk 5 hHeld (h:=?_)
     refine tk 6 hHeld (h:=?_)
     refine tk 7 hHeld (h:=?_)
     refine tk 8 hHeld (h:=?_)
     refine tk 9 hHeld (h:=?_)
     refine tk 10 hHeld (h:=?_)
     refine wpAnyH_ready (rs:=[11]) (by kernel_rfl) (by simp) ?_
     refine AllReadyH.cons rfl (fun K hK=>?_) AllReadyH.nil
     go_simp
     go_wp2_with (go_at_call 86;refine (HLS.out _ hd0).mono ?_;rintro e w6 ⟨rfl,b6⟩;have hd1:Below wr.heap.size wr w6:=hd0.trans (b6.mono hd0.size))
     clear hHeld
     refine hK.out _ _ ?SR212 (fun hHeld=>?_)
     case SR212=>((try dsimp only);first|(with_reducible exact KEEP.out _ hd1)|(with_reducible exact KEEP.out _ hd0))
     clear hK K
     refine tk 12 hHeld (h:=?_)
     refine wpAnyH_done (by kernel_rfl) ?_ _
     have hbx6:w6.heap[w3.heap.size]?=some (.cells #[.string d.name,.int .i64 d.vA,.int .i64 d.vB,.int .i64 d.vC,.slice q0 d.vP.length c0,.slice q1 d.needs.length c1] 35 (0,0)):=(hd1.block _ hNr).trans HBX.out
     have HRW6:=hidden (HROW.out.below hd1)
     have HO6:=hidden (HO.out.below hd1)
     have hb6:Below w.heap.size w w6:=HBR.out.trans (hd1.mono HBR.out.size)
     clear HLS KEEP
     cases LB
     ·have HP2:Hid (posR lessC ps p ps.length=k+1):=by show _=_;rw [HP.out,HPO.out];rfl
      clear HP HPO HYA HYC HSH HYO
      rename Hid (posR lessC ps p ps.length=k+1)=>HP
      have o0_:w6.cell? ⟨g,(k+1)*6,none⟩=some (.string z.d.name):=by have h9:=HRW6.out.hole rfl hk 0 (by omega);exact h9
      have o1_:w6.cell? ⟨g,(k+1)*6+1,none⟩=some (.int .i64 z.d.vA):=by have h9:=HRW6.out.hole rfl hk 1 (by omega);exact h9
      have o2_:w6.cell? ⟨g,(k+1)*6+2,none⟩=some (.int .i64 z.d.vB):=by have h9:=HRW6.out.hole rfl hk 2 (by omega);exact h9
      have o3_:w6.cell? ⟨g,(k+1)*6+3,none⟩=some (.int .i64 z.d.vC):=by have h9:=HRW6.out.hole rfl hk 3 (by omega);exact h9
      have o4_:w6.cell? ⟨g,(k+1)*6+4,none⟩=some (z.u0):=by have h9:=HRW6.out.hole rfl hk 4 (by omega);exact h9
      have o5_:w6.cell? ⟨g,(k+1)*6+5,none⟩=some (z.u1):=by have h9:=HRW6.out.hole rfl hk 5 (by omega);exact h9
      have hfz: ∀ j,w6.frozen? ⟨g,j,none⟩=false:=fun j=>HRW6.out.frz (hole_len ps _ z hk).symm j
      have b0_:w6.cell? ⟨w3.heap.size,0,none⟩=some (.string d.name):=vblk_cell hbx6 0
      have b1_:w6.cell? ⟨w3.heap.size,1,none⟩=some (.int .i64 d.vA):=vblk_cell hbx6 1
      have b2_:w6.cell? ⟨w3.heap.size,2,none⟩=some (.int .i64 d.vB):=vblk_cell hbx6 2
      have b3_:w6.cell? ⟨w3.heap.size,3,none⟩=some (.int .i64 d.vC):=vblk_cell hbx6 3
      have b4_:w6.cell? ⟨w3.heap.size,4,none⟩=some (.slice q0 d.vP.length c0):=vblk_cell hbx6 4
      have b5_:w6.cell? ⟨w3.heap.size,5,none⟩=some (.slice q1 d.needs.length c1):=vblk_cell hbx6 5
      have HFIN:Hid (RowE w.heap.size (setW w6 g ((k+1)*6) [.string d.name,.int .i64 d.vA,.int .i64 d.vB,.int .i64 d.vC,.slice q0 d.vP.length c0,.slice q1 d.needs.length c1]) (.slice (some ⟨g,0,none⟩) (ps.length+1) cap3) (holeC ps (k+1) p)):=by
       have h9:=HRW6.out.setN (hole_len ps (k+1) z hk).symm (i:=k+1) (by rw [hole_len ps (k+1) z hk];omega) HO6.out
       rw [hole_set ps (k+1) z p hk,HPC.out] at h9
       exact h9
      have HBL:Hid (Below w.heap.size w (setW w6 g ((k+1)*6) [.string d.name,.int .i64 d.vA,.int .i64 d.vB,.int .i64 d.vC,.slice q0 d.vP.length c0,.slice q1 d.needs.length c1])):=setW_below hgl.1 _ _ _ _ hb6
      have HNW:Hid ((holeC ps (k+1) p).map EC.d=newD (List.take (i+1) xs) n):=by
       show _=_
       have h9:holeC ps (k+1) p=insG lessC ps p:=by unfold insG;rw [HP.out];rfl
       rw [h9,insG_map,HPS.out,HPD.out,HST.out]
      clear hbx6 HRW6 HO6 HP HBX HROW HO
      go_wp2_with fail
      go_roundw
      case rel=>exact ⟨i+1,_,holeC ps (k+1) p,by omega,by go_num,rfl,HNW,HFIN,HBL.out⟩
      case measure=>simp [intOf];omega
     ·have HPK:Hid (posR lessC ps p ps.length=posR lessC ps p k):=by show _=_;rw [HP.out,HPO.out];rfl
      have a0_:w6.cell? ⟨g,k*6,none⟩=some (.string y.name):=(hd1.cell (p:=⟨g,k*6+0,none⟩) hgr).trans (HYA.out 0 (by omega))
      have a1_:w6.cell? ⟨g,k*6+1,none⟩=some (.int .i64 y.vA):=(hd1.cell (p:=⟨g,k*6+1,none⟩) hgr).trans (HYA.out 1 (by omega))
      have a2_:w6.cell? ⟨g,k*6+2,none⟩=some (.int .i64 y.vB):=(hd1.cell (p:=⟨g,k*6+2,none⟩) hgr).trans (HYA.out 2 (by omega))
      have a3_:w6.cell? ⟨g,k*6+3,none⟩=some (.int .i64 y.vC):=(hd1.cell (p:=⟨g,k*6+3,none⟩) hgr).trans (HYA.out 3 (by omega))
      have a4_:w6.cell? ⟨g,k*6+4,none⟩=some (.slice s0 y.vP.length t0):=(hd1.cell (p:=⟨g,k*6+4,none⟩) hgr).trans (HYA.out 4 (by omega))
      have a5_:w6.cell? ⟨g,k*6+5,none⟩=some (.slice s1 y.needs.length t1):=(hd1.cell (p:=⟨g,k*6+5,none⟩) hgr).trans (HYA.out 5 (by omega))
      have o0_:w6.cell? ⟨g,(k+1)*6,none⟩=some (.string z.d.name):=HRW6.out.hole rfl hk 0 (by omega)
      have o1_:w6.cell? ⟨g,(k+1)*6+1,none⟩=some (.int .i64 z.d.vA):=HRW6.out.hole rfl hk 1 (by omega)
      have o2_:w6.cell? ⟨g,(k+1)*6+2,none⟩=some (.int .i64 z.d.vB):=HRW6.out.hole rfl hk 2 (by omega)
      have o3_:w6.cell? ⟨g,(k+1)*6+3,none⟩=some (.int .i64 z.d.vC):=HRW6.out.hole rfl hk 3 (by omega)
      have o4_:w6.cell? ⟨g,(k+1)*6+4,none⟩=some (z.u0):=HRW6.out.hole rfl hk 4 (by omega)
      have o5_:w6.cell? ⟨g,(k+1)*6+5,none⟩=some (z.u1):=HRW6.out.hole rfl hk 5 (by omega)
      have hfz: ∀ j,w6.frozen? ⟨g,j,none⟩=false:=fun j=>HRW6.out.frz (hole_len ps _ z hk).symm j
      have HFIN:Hid (RowE w.heap.size (setW w6 g ((k+1)*6) [.string y.name,.int .i64 y.vA,.int .i64 y.vB,.int .i64 y.vC,.slice s0 y.vP.length t0,.slice s1 y.needs.length t1]) (.slice (some ⟨g,0,none⟩) (ps.length+1) cap3) (holeC ps k yc)):=by
       have h9:=HRW6.out.setN (hole_len ps (k+1) z hk).symm (i:=k+1) (by rw [hole_len ps (k+1) z hk];omega) (HYO.out.below hd1)
       rw [hole_set ps (k+1) z yc hk,HSH.out,HYC.out] at h9
       exact h9
      have HBL:Hid (Below w.heap.size w (setW w6 g ((k+1)*6) [.string y.name,.int .i64 y.vA,.int .i64 y.vB,.int .i64 y.vC,.slice s0 y.vP.length t0,.slice s1 y.needs.length t1])):=setW_below hgl.1 _ _ _ _ hb6
      have HBB:Hid ((setW w6 g ((k+1)*6) [.string y.name,.int .i64 y.vA,.int .i64 y.vB,.int .i64 y.vC,.slice s0 y.vP.length t0,.slice s1 y.needs.length t1]).heap[w3.heap.size]?=some (.cells #[.string d.name,.int .i64 d.vA,.int .i64 d.vB,.int .i64 d.vC,.slice q0 d.vP.length c0,.slice q1 d.needs.length c1] 35 (0,0))):=box_far (w:=w6) (by omega) _ _ _ hbx6
      have HOO:Hid (EntOwn (setW w6 g ((k+1)*6) [.string y.name,.int .i64 y.vA,.int .i64 y.vB,.int .i64 y.vC,.slice s0 y.vP.length t0,.slice s1 y.needs.length t1]) p):=by
       have h8:=HRW6.out.1
       rw [hole_len ps (k+1) z hk] at h8
       exact EntOwn.puts _ HO6.out h8
      clear hbx6 HRW6 HO6 HP HBX HROW HO HPO HYA HYC HSH HYO hb6 hd1 hd0 b6
      go_wp2_with fail
      go_roundw
      case rel=>exact ⟨k,yc,by omega,by go_num,HPK,HFIN,HBB,HOO,HBL⟩
      case measure=>simp [intOf]
  ·have he:i=xs.length:=by omega
   subst he
   rw [List.take_length] at hps
   clear ha
   go_wp2_with fail
   go_ret
   exact ⟨_,ps,rfl,hrow.out,hps.out,hbr⟩
inductive SoR where
 |good (l:List PickD) (f:Nat)
 |none (f:Nat)
 |fuel
inductive SoS where
 |bad
 |done
 |opn (n:NeedD) (r:List NeedD)
def skipD (l:List PickD):List NeedD→SoS
  |[]=>.done
  |n::r=>match firstP l n.n with
    | .none=>.opn n r
    | .some _=>if met1 l n=true then skipD l r else .bad
def tryAll (go:Nat→EntryD→SoR):List EntryD→Nat→SoR
 |[],f=>.none f
 |e::es,f=>if f=0 then .fuel else match go (f-1) e with
  | .none f'=>tryAll go es f'
  |r=>r
theorem tryAll_le {go:Nat→EntryD→SoR} (hg: ∀ f e f',go f e=.none f'→f'≤f): ∀ (es:List EntryD) (f f':Nat),tryAll go es f=.none f'→f'≤f:=by
 intro es
 induction es with
 |nil=>intro f f' h;unfold tryAll at h;injection h with h;omega
 |cons e es ih=>
  intro f f' h
  unfold tryAll at h
  split at h
  ·cases h
  ·split at h
   ·rename_i f2 h2
    have h3:=hg _ _ _ h2
    have h4:=ih _ _ h
    omega
   ·rename_i r hr
    exact absurd h (hr f')
theorem tryAll_congr {go go':Nat→EntryD→SoR} (hg: ∀ f e f',go f e=.none f'→f'≤f): ∀ (es:List EntryD) (f:Nat),(∀ f' e,f'<f→go f' e=go' f' e)→tryAll go es f=tryAll go' es f:=by
 intro es
 induction es with
 |nil=>intro f _;rfl
 |cons e es ih=>
  intro f h
  unfold tryAll
  by_cases h0:f=0
  ·rw [if_pos h0,if_pos h0]
  ·rw [if_neg h0,if_neg h0, ←h (f-1) e (by omega)]
   cases hr:go (f-1) e with
   |none f2=>
    have h3:=hg _ _ _ hr
    exact ih f2 (fun f' e' hf=>h f' e' (by omega))
   |good l f2=>rfl
   |fuel=>rfl
def insPick (l:List PickD) (p:PickD):List PickD:=insG (fun a b=>Op.bytesLess b.name.toList a.name.toList) l p
def pickE (n:ByteArray) (e:EntryD):PickD:=⟨n,e.vA,e.vB,e.vC,e.vP⟩
def candD (xs:List EntryD) (n:NeedD):List EntryD:=(newD xs n.n).filter fun e=>mayB n.r e.vA e.vB e.vC e.vP
def wayB (xs:List EntryD):Nat→Nat→List PickD→List NeedD→SoR
 |0,f,l,left=>match skipD l left with
  | .bad=>.none f
  | .done=>.good l f
  | .opn n r=>tryAll (fun _ _=>.fuel) (candD xs n) f
 |b+1,f,l,left=>match skipD l left with
  | .bad=>.none f
  | .done=>.good l f
  | .opn n r=>tryAll (fun f' e=>wayB xs b f' (insPick l (pickE n.n e)) (r++e.needs)) (candD xs n) f
theorem wayB_le (xs:List EntryD): ∀ (b f:Nat) (l:List PickD) (left:List NeedD) (f':Nat),wayB xs b f l left=.none f'→f'≤f:=by
 intro b
 induction b with
 |zero=>
  intro f l left f' h
  unfold wayB at h
  split at h
  ·injection h with h;omega
  ·cases h
  ·exact tryAll_le (fun _ _ _ h=>by cases h) _ _ _ h
 |succ b ih=>
  intro f l left f' h
  unfold wayB at h
  split at h
  ·injection h with h;omega
  ·cases h
  ·exact tryAll_le (fun f e f' h=>ih _ _ _ _ h) _ _ _ h
theorem wayB_eq (xs:List EntryD): ∀ (b b' f:Nat) (l:List PickD) (left:List NeedD),f≤b→f≤b'→wayB xs b f l left=wayB xs b' f l left:=by
 intro b
 induction b with
 |zero=>
  intro b' f l left h h'
  cases b' with
  |zero=>rfl
  |succ b'=>
   unfold wayB
   cases skipD l left with
   |bad=>rfl
   |done=>rfl
   |opn n r=>exact tryAll_congr (fun _ _ _ h=>by cases h) _ _ (fun f' e hf=>by omega)
 |succ b ih=>
  intro b' f l left h h'
  cases b' with
  |zero=>
   unfold wayB
   cases skipD l left with
   |bad=>rfl
   |done=>rfl
   |opn n r=>exact tryAll_congr (fun _ _ _ h=>wayB_le _ _ _ _ _ _ h) _ _ (fun f' e hf=>by omega)
  |succ b'=>
   unfold wayB
   cases skipD l left with
   |bad=>rfl
   |done=>rfl
   |opn n r=>exact tryAll_congr (fun _ _ _ h=>wayB_le _ _ _ _ _ _ h) _ _ (fun f' e hf=>ih b' f' _ _ (by omega) (by omega))
def way (xs:List EntryD) (f:Nat) (l:List PickD) (left:List NeedD):SoR:=wayB xs f f l left
theorem way_le {xs:List EntryD} {f:Nat} {l:List PickD} {left:List NeedD} {f':Nat} (h:way xs f l left=.none f'):f'≤f:=wayB_le _ _ _ _ _ _ h
theorem way_bad {xs:List EntryD} {f:Nat} {l:List PickD} {left:List NeedD} (h:skipD l left=.bad):way xs f l left=.none f:=by
 unfold way
 cases f<;>(unfold wayB;rw [h])
theorem way_done {xs:List EntryD} {f:Nat} {l:List PickD} {left:List NeedD} (h:skipD l left=.done):way xs f l left=.good l f:=by
 unfold way
 cases f<;>(unfold wayB;rw [h])
theorem way_open {xs:List EntryD} {f:Nat} {l:List PickD} {left r:List NeedD} {n:NeedD} (h:skipD l left=.opn n r):way xs f l left=tryAll (fun f' e=>way xs f' (insPick l (pickE n.n e)) (r++e.needs)) (candD xs n) f:=by
 have e1:way xs f l left=wayB xs (f+1) f l left:=wayB_eq xs f (f+1) f l left (Nat.le_refl _) (by omega)
 rw [e1]
 unfold wayB
 rw [h]
 exact tryAll_congr (fun _ _ _ h=>wayB_le _ _ _ _ _ _ h) _ _ (fun f' e hf=>wayB_eq xs f f' f' _ _ (by omega) (Nat.le_refl _))
structure PC where
 d:PickD
 u0:Value
def PC.cells (p:PC):List Value:=[.string p.d.name,.int .i64 p.d.vA,.int .i64 p.d.vB,.int .i64 p.d.vC,p.u0]
def flatP (ps:List PC):List Value:=ps.flatMap PC.cells
theorem flatP_length (ps:List PC):(flatP ps).length=ps.length*5:=by
 induction ps with
 |nil=>rfl
 |cons p r ih=>simp only [flatP,List.flatMap_cons,List.length_append,List.length_cons] at*;rw [ih];simp [PC.cells];omega
theorem flatP_append (a b:List PC):flatP (a++b)=flatP a++flatP b:=by simp [flatP]
theorem flatP_at (ps:List PC) (i:Nat) (h:i<ps.length) (j:Nat) (hj:j<5):(flatP ps)[i*5+j]?=(ps[i].cells)[j]? :=by
 induction ps generalizing i with
 |nil=>simp at h
 |cons p r ih=>
  show (p.cells++flatP r)[i*5+j]?=_
  have hc:p.cells.length=5:=rfl
  cases i with
  |zero=>rw [Nat.zero_mul,Nat.zero_add,List.getElem?_append_left (by omega)];rfl
  |succ i=>
   rw [List.getElem?_append_right (by omega),hc,show (i+1)*5+j-5=i*5+j by omega]
   exact ih i (by simpa using h)
theorem flatP_put (ps:List PC) (i:Nat) (h:i<ps.length) (p:PC):putL (flatP ps) (i*5) p.cells=flatP (ps.set i p):=by
 apply List.ext_getElem?
 intro m
 have hl:=flatP_length ps
 have hc:p.cells.length=5:=rfl
 by_cases hm:m<ps.length*5
 ·obtain ⟨q,r,rfl,h6⟩: ∃ q r,m=q*5+r∧r<5:=⟨m / 5,m % 5,by omega,Nat.mod_lt _ (by omega)⟩
  have hq:q<ps.length:=by omega
  by_cases hi:i=q
  ·subst hi
   rw [flatP_at _ _ (by simpa using hq) _ h6,putL_in _ _ _ _ (by rw [hc,hl];omega) (by rw [hc];exact h6)]
   simp
  ·rw [putL_out _ _ _ _ (by rw [hc];omega),flatP_at _ _ hq _ h6,flatP_at _ _ (by simpa using hq) _ h6]
   simp [List.getElem_set,hi]
 ·rw [List.getElem?_eq_none (by rw [putL_length,hl];omega),List.getElem?_eq_none (by rw [flatP_length];simp;omega)]
def PicOwn (w:World) (p:PC):Prop:=w.ownsRow 0 9 1 p.u0 p.d.vP.length (strsV p.d.vP)
theorem PicOwn.below {w w':World} {p:PC} (h:PicOwn w p) (hb:Below w.heap.size w w'):PicOwn w' p:=owns_of_belowN h hb
theorem PicOwn.put {w:World} {p:PC} {lo n cap g j:Nat} {zs:List Value} {x:Value} (h:PicOwn w p) (hg:w.ownsRow lo 59 5 (.slice (some ⟨g,0,none⟩) n cap) n zs):PicOwn (w.setCell ⟨g,j,none⟩ x) p:=own_put h hg (by decide)
theorem PicOwn.puts {p:PC} {lo n cap g:Nat} (cs:List Value): ∀ {w:World} {zs:List Value} {j:Nat},PicOwn w p→w.ownsRow lo 59 5 (.slice (some ⟨g,0,none⟩) n cap) n zs→PicOwn (setW w g j cs) p:=by
 induction cs with
 |nil=>intro w zs j h _;exact h
 |cons c cs ih=>intro w zs j h hg;exact ih (h.put hg) (hg.stored j c).1
theorem PicOwn.grown {w w':World} {p:PC} {lo n:Nat} {v:Value} {zs:List Value} (h:PicOwn w p) (hv:w.ownsRow lo 59 5 v n zs) (hg:w.grownBy w' v.ownBlock):PicOwn w' p:=h.kept hg (owns_apart h hv (by decide))
def RowP (B:Nat) (w:World) (v:Value) (ps:List PC):Prop:=w.ownsRow B 59 5 v ps.length (flatP ps)∧∀ p∈ps,PicOwn w p
theorem RowP.below {B:Nat} {w w':World} {v:Value} {ps:List PC} (h:RowP B w v ps) (hb:Below w.heap.size w w'):RowP B w' v ps:=⟨owns_of_belowN h.1 hb,fun p hp=>(h.2 p hp).below hb⟩
theorem RowP.set {B g cap:Nat} {w:World} {ps:List PC} (h:RowP B w (.slice (some ⟨g,0,none⟩) ps.length cap) ps) {i:Nat} (hi:i<ps.length) {p:PC} (hp:PicOwn w p):RowP B (setW w g (i*5) p.cells) (.slice (some ⟨g,0,none⟩) (ps.set i p).length cap) (ps.set i p):=by
 constructor
 ·have h1:=setW_owns p.cells w (flatP ps) (i*5) h.1
  rw [flatP_put ps i hi p] at h1
  rw [List.length_set]
  exact h1
 ·intro q hq
  rcases List.mem_or_eq_of_mem_set hq with h2|rfl
  ·exact (h.2 q h2).puts p.cells h.1
  ·exact hp.puts q.cells h.1
def holeP (ys:List PC) (k:Nat) (z:PC):List PC:=ys.take k++z::ys.drop k
theorem holep_len (ys:List PC) (k:Nat) (z:PC) (h:k≤ys.length):(holeP ys k z).length=ys.length+1:=by
 simp [holeP];omega
theorem holep_at (ys:List PC) (k:Nat) (z:PC) (h:k<ys.length):(holeP ys (k+1) z)[k]?=some ys[k]:=by
 unfold holeP
 rw [List.getElem?_append_left (by simp;omega),List.getElem?_take_of_lt (by omega),List.getElem?_eq_getElem h]
theorem holep_set (ys:List PC) (k:Nat) (z x:PC) (h:k≤ys.length):(holeP ys k z).set k x=holeP ys k x:=by
 unfold holeP
 rw [List.set_append_right _ _ (by simp;omega)]
 have:k-(ys.take k).length=0:=by simp;omega
 rw [this]
 rfl
theorem holep_shift (ys:List PC) (k:Nat) (h:k<ys.length):holeP ys (k+1) ys[k]=holeP ys k ys[k]:=by
 unfold holeP
 rw [List.take_succ_eq_append_getElem h]
 conv=>rhs;rw [List.drop_eq_getElem_cons h]
 simp only [List.append_assoc,List.cons_append,List.nil_append]
theorem RowP.cell {B g n cap:Nat} {w:World} {ps:List PC} (h:RowP B w (.slice (some ⟨g,0,none⟩) n cap) ps) (hn:n=ps.length) {i:Nat} (hi:i<ps.length) (j:Nat) (hj:j<5):w.cell? ⟨g,i*5+j,none⟩=(ps[i].cells)[j]? :=by
 subst hn
 rw [h.1.cellAt _ (by omega),flatP_at ps i hi j hj]
theorem rowP_some {B:Nat} {w:World} {v:Value} {ps:List PC} (h:RowP B w v ps) (hp:0<ps.length): ∃ g cap,v=.slice (some ⟨g,0,none⟩) ps.length cap:=by
 rcases id h.1.2 with ⟨rfl,h0⟩|⟨g,cap,cur,rfl,_⟩
 ·omega
 ·exact ⟨g,cap,rfl⟩
theorem RowP.setN {B g n cap:Nat} {w:World} {ps:List PC} (h:RowP B w (.slice (some ⟨g,0,none⟩) n cap) ps) (hn:n=ps.length) {i:Nat} (hi:i<ps.length) {p:PC} (hp:PicOwn w p):RowP B (setW w g (i*5) p.cells) (.slice (some ⟨g,0,none⟩) n cap) (ps.set i p):=by
 subst hn
 have h9:=h.set hi hp
 rw [List.length_set] at h9
 exact h9
theorem holep_self (ys:List PC) (k:Nat) (z:PC) (h:k≤ys.length):(holeP ys k z)[k]?=some z:=by
 unfold holeP
 rw [List.getElem?_append_right (by simp;omega)]
 have:k-(ys.take k).length=0:=by simp;omega
 rw [this]
 rfl
theorem RowP.hole {B g n cap:Nat} {w:World} {ps:List PC} {k:Nat} {z:PC} (h:RowP B w (.slice (some ⟨g,0,none⟩) n cap) (holeP ps k z)) (hn:n=ps.length+1) (hk:k≤ps.length) (j:Nat) (hj:j<5):w.cell? ⟨g,k*5+j,none⟩=(z.cells)[j]? :=by
 have hl:=holep_len ps k z hk
 have hki:k<(holeP ps k z).length:=by omega
 have h9:=h.cell (by omega) (i:=k) hki j hj
 have e8:=holep_self ps k z hk
 rw [List.getElem?_eq_getElem hki] at e8
 rw [Option.some.inj e8] at h9
 exact h9
theorem RowP.frz {B g n cap:Nat} {w:World} {ps:List PC} (h:RowP B w (.slice (some ⟨g,0,none⟩) n cap) ps) (hn:n=ps.length) (j:Nat):w.frozen? ⟨g,j,none⟩=false:=by
 subst hn
 exact h.1.frozenAt j
theorem pic_slice {w:World} {p:PC} (h:PicOwn w p): ∃ q0 c0,p.u0=.slice q0 p.d.vP.length c0:=owns_sliceP h
end Go.Proofs.YtlfmefojcmpfeaaGreatDoor
