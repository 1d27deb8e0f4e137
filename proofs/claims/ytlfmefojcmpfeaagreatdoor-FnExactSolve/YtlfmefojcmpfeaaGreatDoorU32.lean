/-
  Contracts for the walks and pure facts, several texts in one: each theorem says what it proves, and under which conditions.
-/
import Derived.Test.YtlfmefojcmpfeaaGreatDoorUT
import Derived.Test.YtlfmefojcmpfeaaGreatDoorU31
set_option linter.unusedSimpArgs false
set_option linter.unusedVariables false
set_option maxHeartbeats 16000000
set_option maxRecDepth 100000
namespace Go.Proofs.YtlfmefojcmpfeaaGreatDoor
open Go.RowKit
def sortC (ps:List EC):List EC:=ps.foldl (insG lessC) []
theorem sortC_step (ps:List EC) (i:Nat) (h:i<ps.length):sortC (ps.take (i+1))=insG lessC (sortC (ps.take i)) ps[i]:=by
 unfold sortC
 rw [List.take_succ_eq_append_getElem h,List.foldl_append]
 rfl
theorem sortC_len (ps:List EC):(sortC ps).length=ps.length:=by
 have: ∀ (l acc:List EC),(l.foldl (insG lessC) acc).length=acc.length+l.length:=by
  intro l
  induction l with
  |nil=>intro acc;rfl
  |cons x l ih=>intro acc;show (l.foldl (insG lessC) (insG lessC acc x)).length=_;rw [ih,insG_len];simp;omega
 unfold sortC
 rw [this]
 simp
theorem sortC_mem {ps:List EC} {p:EC} (h:p∈sortC ps):p∈ps:=by
 rcases fold_insG_mem _ _ h with h|h
 ·cases h
 ·exact h
theorem sortC_one (ps:List EC):sortC (ps.take 1)++ps.drop 1=ps:=by
 cases ps with
 |nil=>rfl
 |cons p r=>rfl
theorem sortC_map (ps:List EC):(sortC ps).map EC.d=(ps.map EC.d).foldl (insG lessE) []:=by
 have: ∀ (l acc:List EC),(l.foldl (insG lessC) acc).map EC.d=(l.map EC.d).foldl (insG lessE) (acc.map EC.d):=by
  intro l
  induction l with
  |nil=>intro acc;rfl
  |cons x l ih=>intro acc;show (l.foldl (insG lessC) (insG lessC acc x)).map EC.d=_;rw [ih,insG_map];rfl
 exact this ps []
theorem holeR_at (ys r:List EC) (k:Nat) (x:EC) (h:k<ys.length):(holeC ys (k+1) x++r)[k]?=some ys[k]:=by
 rw [List.getElem?_append_left (by rw [hole_len _ _ _ (by omega)];omega)]
 exact hole_at ys k x h
theorem holeR_self (ys r:List EC) (k:Nat) (x:EC) (h:k≤ys.length):(holeC ys k x++r)[k]?=some x:=by
 rw [List.getElem?_append_left (by rw [hole_len _ _ _ (by omega)];omega)]
 exact hole_self ys k x h
theorem hole_swap (ys r:List EC) (k:Nat) (x:EC) (h:k<ys.length):((holeC ys (k+1) x++r).set (k+1) ys[k]).set k x=holeC ys k x++r:=by
 rw [List.set_append_left _ _ (by rw [hole_len _ _ _ (by omega)];omega),hole_set _ _ _ _ (by omega),hole_shift ys k h,List.set_append_left _ _ (by rw [hole_len _ _ _ (by omega)];omega),hole_set _ _ _ _ (by omega)]
theorem RowE.cellQ {B g n cap:Nat} {w:World} {ps:List EC} (h:RowE B w (.slice (some ⟨g,0,none⟩) n cap) ps) (hn:n=ps.length) {i:Nat} {p:EC} (hp:ps[i]?=some p) (j:Nat) (hj:j<6):w.cell? ⟨g,i*6+j,none⟩=(p.cells)[j]? :=by
 obtain ⟨hi,rfl⟩:=List.getElem?_eq_some_iff.1 hp
 exact h.cell hn hi j hj
theorem insSort_c (B g cap:Nat) (ps:List EC) (w:World) (hr:RowE B w (.slice (some ⟨g,0,none⟩) ps.length cap) ps) (hB:B≤w.heap.size) (hn:ps.length≤1099511627776) (hw: ∀ p∈ps,bulkS p.d.vP≤1048576):
  Calls Tryz.prog 212 #[.slice (some ⟨g,0,none⟩) ps.length cap,.int .i64 0,.int .i64 (ps.length:Int),.func (.func 74) #[] #[]] w fun e w'=>e=.returned (.tuple #[])∧RowE B w' (.slice (some ⟨g,0,none⟩) ps.length cap) (sortC ps)∧Below B w w':=by
 have hgl:B≤g∧g<w.heap.size:=hr.1.lt g rfl
 have HW:=hidden hw
 have HR0:Hid (RowE B w (.slice (some ⟨g,0,none⟩) ps.length cap) (sortC (ps.take 1)++ps.drop 1)):=by rw [sortC_one];exact hr
 clear hw hr
 go_enter Tryz.func212,Tryz.ntmps212
 go_wp2_with fail
 go_loopw [8] (fun vi wr=>∃ i:Nat,vi=.int .i64 (i:Int)∧(i≤ps.length∨i=1)∧Hid (RowE B wr (.slice (some ⟨g,0,none⟩) ps.length cap) (sortC (ps.take i)++ps.drop i))∧Hid (Below B w wr)) (fun vi _=>ps.length+1-(intOf vi).toNat)
 case atStart=>exact ⟨1,by go_num,.inr rfl,HR0,Below.refl _ _⟩
 case round=>
  clear HR0
  obtain ⟨wo,hwo⟩: ∃ wo,wo=wr:=⟨_,rfl⟩
  subst hwo
  obtain ⟨i,rfl,hi,HRO,HBO⟩:=hrel
  by_cases hlt:i<ps.length
  case neg=>
   have hq: ¬(i:Int)<(ps.length:Int):=by omega
   go_wp2_with fail
   go_end0
   refine ⟨rfl,?_,HBO.out⟩
   have h9:=HRO.out
   rw [List.take_of_length_le (by omega),List.drop_eq_nil_of_le (by omega),List.append_nil] at h9
   exact h9
  case pos=>
  have hq:(i:Int)<(ps.length:Int):=by omega
  have hal:(sortC (ps.take i)).length=i:=by rw [sortC_len,List.length_take];omega
  have HST:=hidden (sortC_step ps i hlt)
  have HDR:Hid (sortC (ps.take i)++ps.drop i=holeC (sortC (ps.take i)) i ps[i]++ps.drop (i+1)):=by
   show _=_
   have hdn:(sortC (ps.take i)).drop i=[]:=List.drop_eq_nil_of_le (by omega)
   unfold holeC
   rw [List.take_of_length_le (l:=sortC (ps.take i)) (i:=i) (by omega),hdn,List.drop_eq_getElem_cons hlt,List.append_assoc]
   rfl
  have HWA:Hid (∀ p∈sortC (ps.take i),bulkS p.d.vP≤1048576):=fun p hp=>HW.out p (List.mem_of_mem_take (sortC_mem hp))
  have hbx:bulkS ps[i].d.vP≤1048576:=HW.out _ (List.getElem_mem hlt)
  have hll:(sortC (ps.take i)).length+1+(ps.drop (i+1)).length=ps.length:=by rw [hal,List.length_drop];omega
  obtain ⟨ac,hac⟩: ∃ ac,ac=sortC (ps.take i):=⟨_,rfl⟩
  obtain ⟨x,hx⟩: ∃ x,x=ps[i]:=⟨_,rfl⟩
  obtain ⟨rs,hrs⟩: ∃ rs,rs=ps.drop (i+1):=⟨_,rfl⟩
  rw [HDR.out] at HRO
  rw [←hac, ←hx, ←hrs] at HRO
  rw [←hac] at hal HWA HST
  rw [←hx] at HST hbx
  rw [←hac, ←hrs] at hll
  have hxo:EntOwn wo x:=HRO.out.2 x (List.mem_append_left _ (List.mem_of_getElem? (hole_self ac i x (by omega))))
  obtain ⟨q0,c0,q1,c1,f0,f1⟩:=ent_slices hxo
  obtain ⟨d,hd⟩: ∃ d,d=x.d:=⟨_,rfl⟩
  rw [←hd] at f0 f1 hbx
  have hxc:x.cells=[.string d.name,.int .i64 d.vA,.int .i64 d.vB,.int .i64 d.vC,.slice q0 d.vP.length c0,.slice q1 d.needs.length c1]:=by unfold EC.cells;rw [f0,f1, ←hd]
  have HXC:=hidden hxc
  have HXD:=hidden hd
  have HF0:=hidden f0
  have HRS:=hidden hrs
  have HAL:=hidden hal
  clear hxo hxc hd f0 f1 HDR hac hx hrs
  go_wp2_with fail
  go_loopw [9] (fun vk wr=>∃ k:Nat,k≤i∧vk=.int .i64 (k:Int)∧Hid (posR lessC ac x ac.length=posR lessC ac x k)∧Hid (RowE B wr (.slice (some ⟨g,0,none⟩) ps.length cap) (holeC ac k x++rs))∧Hid (Below B w wr)) (fun vk _=>(intOf vk).toNat)
  case atStart=>exact ⟨i,Nat.le_refl _,rfl,(by show _=_;rw [HAL.out]),HRO,HBO⟩
  case round=>
   clear HRO HBO
   obtain ⟨k,hk,rfl,HP,HROW,HBR⟩:=hrel
   rcases k with _|k
   ·rw [show ((0:Nat):Int)=0 from rfl]
    have hb6:=HBR.out.drew
    have hrw6:=HROW.out.below ((Below.refl _ _).drew)
    have HFIN:Hid (RowE B wr.drew (.slice (some ⟨g,0,none⟩) ps.length cap) (sortC (ps.take (i+1))++ps.drop (i+1))):=by
     have h9:holeC ac 0 x=insG lessC ac x:=by unfold insG;rw [HP.out];rfl
     rw [HST.out, ←h9, ←HRS.out]
     exact hrw6
    have HBL:=hidden hb6
    clear hb6 hrw6
    go_wp2_with fail
    refine wp_region_held_drew (S:=(fun _=>True)) (by kernel_rfl) ?SR10 (fun hHeld=>?_)
    case SR10=>(exact True.intro)
    refine tk 0 hHeld (h:=?_)
    refine tk 1 hHeld (h:=?_)
    refine tk 2 hHeld (h:=?_)
    refine tk 3 hHeld (h:=?_)
    refine tk 4 hHeld (v:=undef) (hy:=Or.inr ⟨by rfl,rfl⟩) (h:=?_)
    refine tk 5 hHeld (v:=undef) (hy:=Or.inr ⟨by rfl,rfl⟩) (h:=?_)
    refine tk 6 hHeld (v:=undef) (hy:=Or.inr ⟨by rfl,rfl⟩) (h:=?_)
    refine tk 7 hHeld (v:=undef) (hy:=Or.inr ⟨by rfl,rfl⟩) (h:=?_)
    refine tk 8 hHeld (v:=undef) (hy:=Or.inr ⟨by rfl,rfl⟩) (h:=?_)
    refine tk 9 hHeld (v:=undef) (hy:=Or.inr ⟨by rfl,rfl⟩) (h:=?_)
    refine tk 10 hHeld (v:=undef) (hy:=Or.inr ⟨by rfl,rfl⟩) (h:=?_)
    refine tk 11 hHeld (v:=undef) (hy:=Or.inr ⟨by rfl,rfl⟩) (h:=?_)
    refine tk 12 hHeld (v:=undef) (hy:=Or.inr ⟨by rfl,rfl⟩) (h:=?_)
    refine tk 13 hHeld (v:=undef) (hy:=Or.inr ⟨by rfl,rfl⟩) (h:=?_)
    refine tk 14 hHeld (v:=undef) (hy:=Or.inr ⟨by rfl,rfl⟩) (h:=?_)
    refine tk 15 hHeld (v:=undef) (hy:=Or.inr ⟨by rfl,rfl⟩) (h:=?_)
    refine tk 16 hHeld (h:=?_)
    refine wpAnyH_done (by kernel_rfl) ?_ _
    go_wp2_with fail
    go_roundw
    case rel=>exact ⟨i+1,by go_num,by omega,HFIN,HBL⟩
    case measure=>simp [intOf];omega
   ·have ek:((k+1:Nat):Int)=(k:Int)+1:=by omega
    rw [ek]
    clear ek
    have hkl:k<ac.length:=by omega
    have hL:ps.length=(holeC ac (k+1) x++rs).length:=by rw [List.length_append,hole_len _ _ _ (by omega)];omega
    have hyo:EntOwn wr ac[k]:=HROW.out.2 _ (List.mem_of_getElem? (holeR_at ac rs k x hkl))
    have hxo:EntOwn wr x:=HROW.out.2 _ (List.mem_of_getElem? (holeR_self ac rs (k+1) x (by omega)))
    obtain ⟨s0,t0,s1,t1,y0,y1⟩:=ent_slices hyo
    have hyc: ∀ j,j<6→wr.cell? ⟨g,k*6+j,none⟩=(ac[k].cells)[j]? :=fun j hj=>HROW.out.cellQ hL (holeR_at ac rs k x hkl) j hj
    have hxc: ∀ j,j<6→wr.cell? ⟨g,(k+1)*6+j,none⟩=(x.cells)[j]? :=fun j hj=>HROW.out.cellQ hL (holeR_self ac rs (k+1) x (by omega)) j hj
    have hPO:=posR_step lessC ac x k hkl
    have hyb:bulkS ac[k].d.vP≤1048576:=HWA.out _ (List.getElem_mem hkl)
    have hsw:=hole_swap ac rs k x hkl
    obtain ⟨yc,hyd⟩: ∃ yc,yc=ac[k]:=⟨_,rfl⟩
    rw [←hyd] at hyo y0 y1 hyc hPO hyb hsw
    obtain ⟨y,hy⟩: ∃ y,y=yc.d:=⟨_,rfl⟩
    rw [←hy] at y0 y1 hyb
    have hycl:yc.cells=[.string y.name,.int .i64 y.vA,.int .i64 y.vB,.int .i64 y.vC,.slice s0 y.vP.length t0,.slice s1 y.needs.length t1]:=by unfold EC.cells;rw [y0,y1, ←hy]
    have HYC:=hidden hycl
    rw [hycl] at hyc
    rw [HXC.out] at hxc
    have hPO2:posR lessC ac x (k+1)=if lessE y d=true then posR lessC ac x k else k+1:=by
     rw [hPO]
     have e9:lessC yc x=lessE y d:=by unfold lessC;rw [←hy, ←HXD.out]
     rw [e9]
    have HPO:=hidden hPO2
    have HSW:=hidden hsw
    have hyk:=holeR_at ac rs k x hkl
    rw [←hyd] at hyk
    have HYK:=hidden hyk
    clear hyk
    have HYO:=hidden hyo
    have HXO:=hidden hxo
    have hrY:Reads wr (.slice s0 y.vP.length t0) (strsV y.vP):=by have h9:=hyo.1;rw [y0, ←hy] at h9;exact reads_of_owns h9
    have hrX:Reads wr (.slice q0 d.vP.length c0) (strsV d.vP):=by have h9:=hxo.1;rw [HF0.out, ←HXD.out] at h9;exact reads_of_owns h9
    have HLS': ∀ W,Below wr.heap.size wr W→Calls Tryz.prog 74 #[.agg #[.string d.name,.int .i64 d.vA,.int .i64 d.vB,.int .i64 d.vC,.slice q0 d.vP.length c0,.slice q1 d.needs.length c1],.agg #[.string y.name,.int .i64 y.vA,.int .i64 y.vB,.int .i64 y.vC,.slice s0 y.vP.length t0,.slice s1 y.needs.length t1]] W fun e w'=>∃ m:Int,e=.returned (.int .i64 m)∧decide (m<0)=lessE y d∧Below W.heap.size W w':=fun W hW=>cmpNew_c d y _ _ _ _ W (hrX.below hW) (hrY.below hW) hbx hyb
    have HLS:=hidden HLS'
    have hgr:g<wr.heap.size:=(HROW.out.1.lt g rfl).2
    have KEEP': ∀ W,Below wr.heap.size wr W→W.cell? ⟨g,k*6,none⟩=some (.string y.name)∧W.cell? ⟨g,k*6+1,none⟩=some (.int .i64 y.vA)∧W.cell? ⟨g,k*6+2,none⟩=some (.int .i64 y.vB)∧W.cell? ⟨g,k*6+3,none⟩=some (.int .i64 y.vC)∧W.cell? ⟨g,k*6+4,none⟩=some (.slice s0 y.vP.length t0)∧W.cell? ⟨g,k*6+5,none⟩=some (.slice s1 y.needs.length t1)∧W.cell? ⟨g,(k+1)*6,none⟩=some (.string d.name)∧W.cell? ⟨g,(k+1)*6+1,none⟩=some (.int .i64 d.vA)∧W.cell? ⟨g,(k+1)*6+2,none⟩=some (.int .i64 d.vB)∧W.cell? ⟨g,(k+1)*6+3,none⟩=some (.int .i64 d.vC)∧W.cell? ⟨g,(k+1)*6+4,none⟩=some (.slice q0 d.vP.length c0)∧W.cell? ⟨g,(k+1)*6+5,none⟩=some (.slice q1 d.needs.length c1):=fun W hW=>by
     have hY: ∀ j,W.cell? ⟨g,j,none⟩=wr.cell? ⟨g,j,none⟩:=fun j=>hW.cell (p:=⟨g,j,none⟩) hgr
     simp only [hY]
     exact ⟨hyc 0 (by omega),hyc 1 (by omega),hyc 2 (by omega),hyc 3 (by omega),hyc 4 (by omega),hyc 5 (by omega),hxc 0 (by omega),hxc 1 (by omega),hxc 2 (by omega),hxc 3 (by omega),hxc 4 (by omega),hxc 5 (by omega)⟩
    have KEEP:=hidden KEEP'
    have hd0:Below wr.heap.size wr wr.drew:=(Below.refl _ _).drew
    have hkw:IntKind.i64.wrap (k:Int)=(k:Int):=IntWalk.i64_in _ ⟨by omega,by omega⟩
    have hk0:(0:Int)≤(k:Int):=by omega
    have hk1:(k:Int)<(ps.length:Int):=by omega
    have hk2:(0:Int)<(k:Int)+1:=by omega
    have hk3:(0:Int)≤(k:Int)+1:=by omega
    have hk4:(k:Int)+1<(ps.length:Int):=by omega
    have HL:=hidden hL
    clear hL KEEP' HLS' hrY hrX hPO hPO2 hyc hxc hsw hyo hxo y0 y1 hycl hy hyd hyb
    go_wp2_with fail
    refine wp_region_held_drew (S:=(fun W=>W.cell? ⟨g,k*6,none⟩=some (.string y.name)∧W.cell? ⟨g,k*6+1,none⟩=some (.int .i64 y.vA)∧W.cell? ⟨g,k*6+2,none⟩=some (.int .i64 y.vB)∧W.cell? ⟨g,k*6+3,none⟩=some (.int .i64 y.vC)∧W.cell? ⟨g,k*6+4,none⟩=some (.slice s0 y.vP.length t0)∧W.cell? ⟨g,k*6+5,none⟩=some (.slice s1 y.needs.length t1)∧W.cell? ⟨g,(k+1)*6,none⟩=some (.string d.name)∧W.cell? ⟨g,(k+1)*6+1,none⟩=some (.int .i64 d.vA)∧W.cell? ⟨g,(k+1)*6+2,none⟩=some (.int .i64 d.vB)∧W.cell? ⟨g,(k+1)*6+3,none⟩=some (.int .i64 d.vC)∧W.cell? ⟨g,(k+1)*6+4,none⟩=some (.slice q0 d.vP.length c0)∧W.cell? ⟨g,(k+1)*6+5,none⟩=some (.slice q1 d.needs.length c1))) (by kernel_rfl) ?SR20 (fun hHeld=>?_)
    case SR20=>(first|(with_reducible exact KEEP.out _ hd1)|(with_reducible exact KEEP.out _ hd0))
    refine tk 0 hHeld (h:=?_)
    refine tk 1 hHeld (h:=?_)
    refine tk 2 hHeld (h:=?_)
    refine tk 3 hHeld (h:=?_)
    refine tk 4 hHeld (h:=?_)
    refine tk 5 hHeld (h:=?_)
    refine tk 6 hHeld (h:=?_)
    refine tk 7 hHeld (h:=?_)
    refine tk 8 hHeld (h:=?_)
    refine tk 9 hHeld (h:=?_)
    refine tk 10 hHeld (h:=?_)
    refine tk 11 hHeld (h:=?_)
    refine tk 12 hHeld (h:=?_)
    refine tk 13 hHeld (h:=?_)
    refine wpAnyH_ready (rs:=[14]) (by kernel_rfl) (by simp) ?_
    refine AllReadyH.cons rfl (fun K hK=>?_) AllReadyH.nil
    go_simp
    go_wp2_with (go_at_call 74;refine (HLS.out _ hd0).mono ?_;rintro e w6 ⟨m,rfl,hm,b6⟩;have hd1:Below wr.heap.size wr w6:=hd0.trans (b6.mono hd0.size);replace hm:=hidden hm)
    clear hHeld
    refine hK.out _ _ ?SR215 (fun hHeld=>?_)
    case SR215=>((try dsimp only);first|(with_reducible exact KEEP.out _ hd1)|(with_reducible exact KEEP.out _ hd0))
    clear hK K
    refine tk 15 hHeld (h:=?_)
    refine tk 16 hHeld (h:=?_)
    refine wpAnyH_done (by kernel_rfl) ?_ _
    have HRW6:=hidden (HROW.out.below hd1)
    have hb6:Below B w w6:=HBR.out.trans (hd1.mono (Nat.le_trans hB HBR.out.size))
    have HK6:=hidden (fun W (hW:Below w6.heap.size w6 W)=>KEEP.out W (hd1.trans (hW.mono hd1.size)))
    clear HLS
    by_cases hmz:m<0
    case neg=>
     have HP2:Hid (posR lessC ac x ac.length=k+1):=by
      show _=_
      have e9:lessE y d=false:=by rw [←hm.out];simp [hmz]
      rw [HP.out,HPO.out,e9]
      rfl
     have HFIN:Hid (RowE B w6 (.slice (some ⟨g,0,none⟩) ps.length cap) (sortC (ps.take (i+1))++ps.drop (i+1))):=by
      have h9:holeC ac (k+1) x=insG lessC ac x:=by unfold insG;rw [HP2.out];rfl
      rw [HST.out, ←h9, ←HRS.out]
      exact HRW6.out
     have HBL:=hidden hb6
     clear HP HPO HSW HYO HXO HYC HRW6 hb6 HK6 KEEP hd1 hd0 b6 hm HROW HBR
     go_wp2_with fail
     go_roundw
     case rel=>exact ⟨i+1,by go_num,by omega,HFIN,HBL⟩
     case measure=>simp [intOf];omega
    case pos=>
     have HPK:Hid (posR lessC ac x ac.length=posR lessC ac x k):=by
      show _=_
      have e9:lessE y d=true:=by rw [←hm.out];simp [hmz]
      rw [HP.out,HPO.out,e9]
      rfl
     have hL:=HL.out
     have hdr:Below w6.heap.size w6 w6.drew:=(Below.refl _ _).drew
     have R8:=HRW6.out.below hdr
     have hgB:B≤g:=hgl.1
     obtain ⟨w9,hw9⟩: ∃ w9,w9=((((((w6.setCell ⟨g,(k+1)*6,none⟩ (.string y.name)).setCell ⟨g,(k+1)*6+1,none⟩ (.int .i64 y.vA)).setCell ⟨g,(k+1)*6+2,none⟩ (.int .i64 y.vB)).setCell ⟨g,(k+1)*6+3,none⟩ (.int .i64 y.vC)).setCell ⟨g,(k+1)*6+4,none⟩ (.slice s0 y.vP.length t0)).setCell ⟨g,(k+1)*6+5,none⟩ (.slice s1 y.needs.length t1)).drew:=⟨_,rfl⟩
     obtain ⟨w10,hw10⟩: ∃ w10,w10=((((((w9.setCell ⟨g,k*6,none⟩ (.string d.name)).setCell ⟨g,k*6+1,none⟩ (.int .i64 d.vA)).setCell ⟨g,k*6+2,none⟩ (.int .i64 d.vB)).setCell ⟨g,k*6+3,none⟩ (.int .i64 d.vC)).setCell ⟨g,k*6+4,none⟩ (.slice q0 d.vP.length c0)).setCell ⟨g,k*6+5,none⟩ (.slice q1 d.needs.length c1)):=⟨_,rfl⟩
     have e9:w9=(setW w6 g ((k+1)*6) yc.cells).drew:=by rw [HYC.out];exact hw9
     have R9:RowE B w9 (.slice (some ⟨g,0,none⟩) ps.length cap) ((holeC ac (k+1) x++rs).set (k+1) yc):=by
      rw [e9]
      exact (HRW6.out.setN hL (i:=k+1) (by omega) (HYO.out.below hd1)).below ((Below.refl _ _).drew)
     have X9:EntOwn w9 x:=by
      have h8:=HRW6.out.1
      rw [←hL] at h8
      rw [e9]
      exact (EntOwn.puts _ (HXO.out.below hd1) h8).below ((Below.refl _ _).drew)
     have e10:w10=setW w9 g (k*6) x.cells:=by rw [HXC.out];exact hw10
     have R10:RowE B w10 (.slice (some ⟨g,0,none⟩) ps.length cap) (holeC ac k x++rs):=by
      rw [e10, ←HSW.out]
      exact R9.setN (by rw [List.length_set];exact hL) (i:=k) (by rw [List.length_set];omega) X9
     have HFIN:=hidden R10
     have HBL:Hid (Below B w w10):=by
      show Below B w w10
      rw [e10,e9]
      exact setW_below hgB _ _ _ _ (setW_below hgB _ _ _ _ hb6).drew
     have h9at:((holeC ac (k+1) x++rs).set (k+1) yc)[k]?=some yc:=by
      rw [List.getElem?_set_ne (by omega)]
      exact HYK.out
     have hc9: ∀ j,j<6→w9.cell? ⟨g,k*6+j,none⟩=([.string y.name,.int .i64 y.vA,.int .i64 y.vB,.int .i64 y.vC,.slice s0 y.vP.length t0,.slice s1 y.needs.length t1]:List Value)[j]? :=fun j hj=>by
      rw [←HYC.out]
      exact R9.cellQ (by rw [List.length_set];exact hL) h9at j hj
     obtain ⟨y0_,y1_,y2_,y3_,y4_,y5_,x0_,x1_,x2_,x3_,x4_,x5_⟩:=HK6.out _ hdr
     have z0_:w9.cell? ⟨g,k*6,none⟩=some (.string y.name):=hc9 0 (by omega)
     have z1_:w9.cell? ⟨g,k*6+1,none⟩=some (.int .i64 y.vA):=hc9 1 (by omega)
     have z2_:w9.cell? ⟨g,k*6+2,none⟩=some (.int .i64 y.vB):=hc9 2 (by omega)
     have z3_:w9.cell? ⟨g,k*6+3,none⟩=some (.int .i64 y.vC):=hc9 3 (by omega)
     have z4_:w9.cell? ⟨g,k*6+4,none⟩=some (.slice s0 y.vP.length t0):=hc9 4 (by omega)
     have z5_:w9.cell? ⟨g,k*6+5,none⟩=some (.slice s1 y.needs.length t1):=hc9 5 (by omega)
     have hf8: ∀ j,w6.drew.frozen? ⟨g,j,none⟩=false:=fun j=>R8.frz hL j
     have hf6: ∀ j,w6.frozen? ⟨g,j,none⟩=false:=fun j=>HRW6.out.frz hL j
     have hf9: ∀ j,w9.frozen? ⟨g,j,none⟩=false:=fun j=>R9.frz (by rw [List.length_set];exact hL) j
     have HW9:=hidden hw9
     have HW10:=hidden hw10
     clear hw9 hw10 e9 e10 R8 R9 R10 X9 h9at hc9 hL hdr HL HP HPO HSW HYO HXO HYC HRW6 hb6 HK6 KEEP hd1 hd0 b6 hm HROW HBR HYK
     go_wp2_with fail
     refine wp_region_held_drew (S:=(fun _=>True)) (by kernel_rfl) True.intro (fun hHeld=>?_)
     refine tk 0 hHeld (h:=?_)
     refine tk 1 hHeld (h:=?_)
     refine tk 2 hHeld (h:=?_)
     refine tk 3 hHeld (h:=?_)
     refine tk 4 hHeld (h:=?_)
     refine tk 5 hHeld (h:=?_)
     refine tk 6 hHeld (h:=?_)
     refine tk 7 hHeld (h:=?_)
     refine tk 8 hHeld (h:=?_)
     refine tk 10 hHeld (h:=?_)
     refine tk 11 hHeld (h:=?_)
     refine tk 12 hHeld (h:=?_)
     refine wpAnyH_ready (rs:=[9,13]) (by kernel_rfl) (by simp) ?_
     refine AllReadyH.cons rfl (fun K hK=>?_) (AllReadyH.cons rfl (fun K hK=>?_) AllReadyH.nil)
     ·go_simp
      clear hHeld
      refine hK.out _ _ True.intro (fun hHeld=>?_)
      clear hK K
      refine wpAnyH_ready (rs:=[13]) (by kernel_rfl) (by simp) ?_
      refine AllReadyH.cons rfl (fun K hK=>?_) AllReadyH.nil
      go_simp
      clear hHeld
      refine hK.out _ _ True.intro (fun hHeld=>?_)
      clear hK K
      refine tk 14 hHeld (h:=?_)
      refine wpAnyH_ready (rs:=[15]) (by kernel_rfl) (by simp) ?_
      refine AllReadyH.cons rfl (fun K hK=>?_) AllReadyH.nil
      go_simp
      clear hHeld
      refine hK.out _ _ True.intro (fun hHeld=>?_)
      clear hK K
      rw [←HW9.out]
      refine tk 16 hHeld (h:=?_)
      refine wpAnyH_ready (rs:=[17]) (by kernel_rfl) (by simp) ?_
      refine AllReadyH.cons rfl (fun K hK=>?_) AllReadyH.nil
      go_simp
      clear hHeld
      refine hK.out _ _ True.intro (fun hHeld=>?_)
      clear hK K
      rw [←HW10.out]
      refine wpAnyH_done (by kernel_rfl) ?_ _
      go_wp2_with fail
      go_roundw
      case rel=>exact ⟨k,by omega,by go_num,HPK,HFIN,HBL⟩
      case measure=>simp [intOf]
     ·go_simp
      clear hHeld
      refine hK.out _ _ True.intro (fun hHeld=>?_)
      clear hK K
      refine wpAnyH_ready (rs:=[9]) (by kernel_rfl) (by simp) ?_
      refine AllReadyH.cons rfl (fun K hK=>?_) AllReadyH.nil
      go_simp
      clear hHeld
      refine hK.out _ _ True.intro (fun hHeld=>?_)
      clear hK K
      refine tk 14 hHeld (h:=?_)
      refine wpAnyH_ready (rs:=[15]) (by kernel_rfl) (by simp) ?_
      refine AllReadyH.cons rfl (fun K hK=>?_) AllReadyH.nil
      go_simp
      clear hHeld
      refine hK.out _ _ True.intro (fun hHeld=>?_)
      clear hK K
      rw [←HW9.out]
      refine tk 16 hHeld (h:=?_)
      refine wpAnyH_ready (rs:=[17]) (by kernel_rfl) (by simp) ?_
      refine AllReadyH.cons rfl (fun K hK=>?_) AllReadyH.nil
      go_simp
      clear hHeld
      refine hK.out _ _ True.intro (fun hHeld=>?_)
      clear hK K
      rw [←HW10.out]
      refine wpAnyH_done (by kernel_rfl) ?_ _
      go_wp2_with fail
      go_roundw
      case rel=>exact ⟨k,by omega,by go_num,HPK,HFIN,HBL⟩
      case measure=>simp [intOf]
theorem insSort_nil (w:World):Calls Tryz.prog 212 #[.slice none 0 0,.int .i64 0,.int .i64 0,.func (.func 74) #[] #[]] w fun e w'=>e=.returned (.tuple #[])∧w'=w:=by
 go_enter Tryz.func212,Tryz.ntmps212
 go_wp2_with fail
 go_loopw [8] (fun vi wr=>vi=.int .i64 1∧wr=w) (fun _ _=>0)
 case atStart=>exact ⟨rfl,rfl⟩
 case round=>
  obtain ⟨rfl,rfl⟩:=hrel
  go_wp2_with fail
  go_end0
  exact ⟨rfl,rfl⟩
theorem insSort_any (B:Nat) (v:Value) (ps:List EC) (w:World) (hr:RowE B w v ps) (hB:B≤w.heap.size) (hn:ps.length<20) (hw: ∀ p∈ps,bulkS p.d.vP≤1048576):
  Calls Tryz.prog 212 #[v,.int .i64 0,.int .i64 (ps.length:Int),.func (.func 74) #[] #[]] w fun e w'=>e=.returned (.tuple #[])∧RowE B w' (v) (sortC ps)∧Below B w w':=by
 rcases id hr.1.2 with ⟨e,h0⟩|⟨g,cap,cur,e,_⟩
 ·have hp:ps=[]:=List.eq_nil_of_length_eq_zero h0
  subst hp
  subst e
  refine (insSort_nil w).mono ?_
  rintro e w' ⟨rfl,rfl⟩
  exact ⟨rfl,hr,Below.refl _ _⟩
 ·subst e
  exact insSort_c B g cap ps w hr hB (by omega) hw
theorem stable_c (B:Nat) (v:Value) (ps:List EC) (w:World) (hr:RowE B w v ps) (hB:B≤w.heap.size) (hn:ps.length<20) (hw: ∀ p∈ps,bulkS p.d.vP≤1048576):
  Calls Tryz.prog 148 #[v,.int .i64 (ps.length:Int),.func (.func 74) #[] #[]] w fun e w'=>e=.returned (.tuple #[])∧RowE B w' (v) (sortC ps)∧Below B w w':=by
 have HI:=hidden (insSort_any B v ps w hr hB hn hw)
 obtain ⟨qo,co,hvo⟩:=owns_sliceP hr.1
 subst hvo
 clear hr hw
 go_enter Tryz.func148,Tryz.ntmps148
 go_wp2_with fail
 go_loopw [7,8] (fun va vb wr=>va=.int .i64 0∧vb=.int .i64 20∧wr=w) (fun _ _ _=>0)
 case atStart=>exact ⟨rfl,rfl,rfl⟩
 case round=>
  obtain ⟨rfl,rfl,rfl⟩:=hrel
  have hq: ¬(20:Int)≤(ps.length:Int):=by omega
  have hq2: ¬(20:Int)<(ps.length:Int):=by omega
  go_wp2_with (go_at_call 212;refine HI.out.mono ?_;rintro e w1 ⟨rfl,r1,b1⟩;replace r1:=hidden r1;replace b1:=hidden b1)
  go_loopw [6,7,8] (fun vs va vb wr=>vs=.int .i64 20∧wr=w1) (fun _ _ _ _=>0)
  case atStart=>exact ⟨rfl,rfl⟩
  case round=>
   obtain ⟨rfl,rfl⟩:=hrel
   go_wp2_with fail
   go_end0
   exact ⟨rfl,r1.out,b1.out⟩
theorem sortStable_c (B:Nat) (v:Value) (ps:List EC) (w:World) (hr:RowE B w v ps) (hB:B≤w.heap.size) (hn:ps.length<20) (hw: ∀ p∈ps,bulkS p.d.vP≤1048576):
  Calls Tryz.prog 73 #[v,.func (.func 74) #[] #[]] w fun e w'=>e=.returned (.tuple #[])∧RowE B w' (v) (sortC ps)∧Below B w w':=by
 have HI:=hidden (stable_c B v ps w hr hB hn hw)
 obtain ⟨qo,co,hvo⟩:=owns_sliceP hr.1
 subst hvo
 clear hr hw
 go_enter Tryz.func73,Tryz.ntmps73
 go_wp2_with (go_at_call 148;refine HI.out.mono ?_;rintro e w1 ⟨rfl,r1,b1⟩;replace r1:=hidden r1;replace b1:=hidden b1)
 go_end0
 exact ⟨rfl,r1.out,b1.out⟩
def ofName (xs:List EntryD) (n:ByteArray):List EntryD:=xs.filter fun d=>decide (d.name=n)
theorem ofName_step (xs:List EntryD) (n:ByteArray) (i:Nat) (h:i<xs.length):ofName (xs.take (i+1)) n=if xs[i].name=n then ofName (xs.take i) n++[xs[i]] else ofName (xs.take i) n:=by
 unfold ofName
 rw [List.take_succ_eq_append_getElem h,List.filter_append]
 by_cases e:xs[i].name=n
 ·rw [if_pos e];simp [e]
 ·rw [if_neg e];simp [e]
theorem ofName_len (xs:List EntryD) (n:ByteArray):(ofName xs n).length≤xs.length:=List.length_filter_le _ _
theorem implNewest_c (S:Nat→Prop) (v:Value) (xs:List EntryD) (n:ByteArray) (w:World) (hv:RowIn shEntry S w v xs) (hB: ∀ b,S b→b<w.heap.size) (hw:wtRow wtEntry xs≤1048576) (hfew:(ofName xs n).length<20):
  Calls Tryz.prog 14 #[v,.string n] w fun e w'=>∃ v' ps,e=.returned v'∧RowE w.heap.size w' v' ps∧ps.map EC.d=newD xs n∧Below w.heap.size w w':=by
 obtain ⟨i0,hi0,hz0,hz1,hz2⟩:=info_parts infoEntry
 have hwe: ∀ d∈xs,wtEntry d≤1048576:=fun d hd=>Nat.le_trans (wt_wtRow wtEntry hd) hw
 have hlx:=len_wtRow wtEntry xs
 obtain ⟨av,cv,rfl,hl,hc,ha⟩:=hv
 unfold maxLen at hl
 have HG0:Hid (RowE w.heap.size w (.slice none 0 0) []):=⟨World.ownsRow_nil w _ _ _,fun p hp=>by simp at hp⟩
 have HWE:=hidden hwe
 have HFEW:=hidden hfew
 clear hwe hfew
 go_enter Tryz.func14,Tryz.ntmps14
 go_wp2_with fail
 go_loopw [5,10] (fun vx vi wr=>∃ (i:Nat) (vo:Value) (ps:List EC),i≤xs.length∧vi=.int .i64 (i:Int)∧vx=vo∧Hid (ps.map EC.d=ofName (xs.take i) n)∧Hid (RowE w.heap.size wr vo ps)∧Hid (Below w.heap.size w wr)) (fun _ vi _=>xs.length-(intOf vi).toNat)
 case atStart=>exact ⟨0,_,[],Nat.zero_le _,rfl,rfl,(by show _=_;simp [ofName]),HG0,Below.refl _ _⟩
 case round=>
  clear HG0
  obtain ⟨wo,hwo⟩: ∃ wo,wo=wr:=⟨_,rfl⟩
  subst hwo
  obtain ⟨i,vo,ps,hil,rfl,hvx,hps,hrow,HBR⟩:=hrel
  have hbr:=HBR.out
  have hpl:ps.length≤i:=by
   have h1:=ofName_len (xs.take i) n
   have h2:=congrArg List.length hps.out
   rw [List.length_map] at h2
   rw [List.length_take] at h1
   omega
  have hwp:Hid (∀ q∈ps,bulkS q.d.vP≤1048576):=fun q hq=>by
   have h1:q.d∈ps.map EC.d:=List.mem_map_of_mem hq
   rw [hps.out] at h1
   exact wtE_vP (HWE.out _ (List.mem_of_mem_take (List.mem_filter.1 h1).1))
  obtain ⟨qo,co,hvo⟩:=owns_sliceP hrow.out.1
  subst hvx
  subst hvo
  by_cases hlt:i<xs.length
  ·rcases ha with rfl|⟨b,off,rfl,hlb,ha⟩
   ·simp at hlt
   obtain ⟨cs,hL,hcell⟩:=ha i hlt
   have hcell2:=hcell.keep (.of hbr hB) hlb
   replace hL:=shEntry.keep (.of hbr hB) hL
   have hBr: ∀ b,S b→b<wo.heap.size:=fun b h=>Nat.lt_of_lt_of_le (hB b h) hbr.size
   have hwk:=HWE.out xs[i] (List.getElem_mem hlt)
   have HST:=hidden (ofName_step xs n i hlt)
   obtain ⟨d,hd⟩: ∃ d,d=xs[i]:=⟨_,rfl⟩
   rw [←hd] at hL hwk HST
   have HCP': ∀ w1,Below wo.heap.size wo w1→Calls Tryz.prog 72 #[.agg cs.toArray] w1 fun e w'=>∃ cs',e=.returned (.agg cs'.toArray)∧shEntryO.lies (Ow w1.heap.size w'.heap.size) w' cs' d∧Below w1.heap.size w1 w':=fun w1 h=>copyEntry_c S d cs w1 (shEntry.keep (.of h hBr) hL) (fun b hb=>Nat.lt_of_lt_of_le (hBr b hb) h.size) hwk
   obtain ⟨u0,u1,rfl,s_n,r0,p0,r1⟩:=hL
   obtain ⟨a0,cap0,eu0,_⟩:=id r0
   rw [length_strsV] at eu0
   subst eu0
   obtain ⟨a1,cap1,eu1,_⟩:=id r1
   subst eu1
   have HCP:=hidden HCP'
   have e0:wo.cell? ⟨b,off+i*6,none⟩=some (.string d.name):=hcell2 0 (by simp)
   have e1:wo.cell? ⟨b,off+i*6+1,none⟩=some (.int .i64 d.vA):=hcell2 1 (by simp)
   have e2:wo.cell? ⟨b,off+i*6+2,none⟩=some (.int .i64 d.vB):=hcell2 2 (by simp)
   have e3:wo.cell? ⟨b,off+i*6+3,none⟩=some (.int .i64 d.vC):=hcell2 3 (by simp)
   have e4:wo.cell? ⟨b,off+i*6+4,none⟩=some (.slice a0 d.vP.length cap0):=hcell2 4 (by simp)
   have e5:wo.cell? ⟨b,off+i*6+5,none⟩=some (.slice a1 d.needs.length cap1):=hcell2 5 (by simp)
   have b0_:(wo.alloc (.cells #[.string d.name,.int .i64 d.vA,.int .i64 d.vB,.int .i64 d.vC,.slice a0 d.vP.length cap0,.slice a1 d.needs.length cap1] 35)).cell? ⟨wo.heap.size,0,none⟩=some (.string d.name):=vblk_cell (vheap_new _ _) 0
   have b1_:(wo.alloc (.cells #[.string d.name,.int .i64 d.vA,.int .i64 d.vB,.int .i64 d.vC,.slice a0 d.vP.length cap0,.slice a1 d.needs.length cap1] 35)).cell? ⟨wo.heap.size,1,none⟩=some (.int .i64 d.vA):=vblk_cell (vheap_new _ _) 1
   have b2_:(wo.alloc (.cells #[.string d.name,.int .i64 d.vA,.int .i64 d.vB,.int .i64 d.vC,.slice a0 d.vP.length cap0,.slice a1 d.needs.length cap1] 35)).cell? ⟨wo.heap.size,2,none⟩=some (.int .i64 d.vB):=vblk_cell (vheap_new _ _) 2
   have b3_:(wo.alloc (.cells #[.string d.name,.int .i64 d.vA,.int .i64 d.vB,.int .i64 d.vC,.slice a0 d.vP.length cap0,.slice a1 d.needs.length cap1] 35)).cell? ⟨wo.heap.size,3,none⟩=some (.int .i64 d.vC):=vblk_cell (vheap_new _ _) 3
   have b4_:(wo.alloc (.cells #[.string d.name,.int .i64 d.vA,.int .i64 d.vB,.int .i64 d.vC,.slice a0 d.vP.length cap0,.slice a1 d.needs.length cap1] 35)).cell? ⟨wo.heap.size,4,none⟩=some (.slice a0 d.vP.length cap0):=vblk_cell (vheap_new _ _) 4
   have b5_:(wo.alloc (.cells #[.string d.name,.int .i64 d.vA,.int .i64 d.vB,.int .i64 d.vC,.slice a0 d.vP.length cap0,.slice a1 d.needs.length cap1] 35)).cell? ⟨wo.heap.size,5,none⟩=some (.slice a1 d.needs.length cap1):=vblk_cell (vheap_new _ _) 5
   have hki:(i:Int)<(xs.length:Int):=by omega
   have hal:=name_alike d.name n
   have kb:Below wo.heap.size wo (wo.alloc (.cells #[.string d.name,.int .i64 d.vA,.int .i64 d.vB,.int .i64 d.vC,.slice a0 d.vP.length cap0,.slice a1 d.needs.length cap1] 35)):=(Below.refl _ _).alloc (Nat.le_refl _) _
   have KB:=hidden kb
   have HBA:Hid (Below w.heap.size w (wo.alloc (.cells #[.string d.name,.int .i64 d.vA,.int .i64 d.vB,.int .i64 d.vC,.slice a0 d.vP.length cap0,.slice a1 d.needs.length cap1] 35))):=hbr.alloc hbr.size _
   have HRA:=hidden (hrow.out.below kb)
   clear ha hd hcell hcell2 HCP' r0 r1 p0 s_n hwk hrow hbr HBR kb
   by_cases hts:d.name=n
   case neg=>
    have hq:(d.name.toList == n.toList)=false:=by rw [hal];simpa using hts
    rw [if_neg hts] at HST
    clear hts hal HCP
    go_wp2_with fail
    go_roundw
    case rel=>exact ⟨i+1,_,ps,by omega,by go_num,rfl,(by show _=_;rw [HST.out];exact hps.out),HRA,HBA⟩
    case measure=>simp [intOf];omega
   case pos=>
   have hq:(d.name.toList == n.toList)=true:=by rw [hal];simpa using hts
   rw [if_pos hts] at HST
   clear hts hal
   go_wp2_with fail
   go_at_call 72
   refine (HCP.out _ KB.out).mono ?_
   rintro e w2 ⟨cs2,rfl,hX2,b2⟩
   obtain ⟨p,hpd,hpc,hpo⟩:=entC_of hX2
   subst hpc
   have hrow2:=HRA.out.below b2
   have k2:=HBA.out.trans (b2.mono HBA.out.size)
   obtain ⟨q0,c0,q1,c1,f0,f1⟩:=ent_slices hpo
   have hpcells:p.cells=[.string d.name,.int .i64 d.vA,.int .i64 d.vB,.int .i64 d.vC,.slice q0 d.vP.length c0,.slice q1 d.needs.length c1]:=by unfold EC.cells;rw [f0,f1,hpd]
   have HPC:=hidden hpcells
   rw [hpcells]
   have hown2:w2.ownsRow w.heap.size 35 6 (.slice qo ps.length co) ps.length (flatE ps):=hrow2.1
   have kz:Below w.heap.size w (w2.alloc (.cells #[.string d.name,.int .i64 d.vA,.int .i64 d.vB,.int .i64 d.vC,.slice q0 d.vP.length c0,.slice q1 d.needs.length c1] 35)):=k2.alloc k2.size _
   have HALL:Hid (∀ q∈ps,EntOwn w2 q):=hrow2.2
   clear HCP hX2 HRA hrow2 e0 e1 e2 e3 e4 e5 b0_ b1_ b2_ b3_ b4_ b5_ HBA KB
   go_wp2_with (at_builtin;refine wpList_append_own _ rfl _ _ 24 rfl w.heap.size 35 i0 (.agg #[.string ⟨#[]⟩,.int .i64 0,.int .i64 0,.int .i64 0,.slice none 0 0,.slice none 0 0]) 6 88 Tryz.underlying24 hi0 hz0 hz1 hz2 rfl (by decide) _ ps.length (flatE ps) rfl (hown2.alloc _) ⟨w2.heap.size,0,none⟩ 1 1 [.string d.name,.int .i64 d.vA,.int .i64 d.vB,.int .i64 d.vC,.slice q0 d.vP.length c0,.slice q1 d.needs.length c1] rfl rfl (src_newN _ [.string d.name,.int .i64 d.vA,.int .i64 d.vB,.int .i64 d.vC,.slice q0 d.vP.length c0,.slice q1 d.needs.length c1] _) (by intro u hu;simp at hu;rcases hu with rfl|rfl|rfl|rfl|rfl|rfl<;>rfl) (by unfold maxLen;omega) (by omega) (by have:=k2.size;simp;omega) ?_)
   intro v3 w3 o3 gr3 _
   have hb3:Below w.heap.size w w3:=kz.grown gr3 kz.size (fun j hj=>(hown2.lt j hj).1)
   have hrow3:RowE w.heap.size w3 v3 (ps++[p]):=by
    refine ⟨?_,fun q hq=>?_⟩
    ·rw [flatE_append,List.length_append]
     have e9:flatE [p]=[.string d.name,.int .i64 d.vA,.int .i64 d.vB,.int .i64 d.vC,.slice q0 d.vP.length c0,.slice q1 d.needs.length c1]:=by show p.cells++[]=_;rw [List.append_nil];exact HPC.out
     rw [e9]
     exact o3
    ·have kz2:Below w2.heap.size w2 (w2.alloc (.cells #[.string d.name,.int .i64 d.vA,.int .i64 d.vB,.int .i64 d.vC,.slice q0 d.vP.length c0,.slice q1 d.needs.length c1] 35)):=(Below.refl _ _).alloc (Nat.le_refl _) _
     rcases List.mem_append.1 hq with h9|h9
     ·exact ((HALL.out q h9).below kz2).grown (hown2.alloc _) gr3
     ·rw [List.mem_singleton.1 h9];exact (hpo.below kz2).grown (hown2.alloc _) gr3
   have HR3:=hidden hrow3
   have HB3:=hidden hb3
   have HNW:Hid ((ps++[p]).map EC.d=ofName (xs.take (i+1)) n):=by
    show _=_
    rw [HST.out,List.map_append,hps.out, ←hpd]
    rfl
   clear hrow3 hb3 o3 gr3 HALL kz k2 b2 hown2 hpo hps hpd hpcells f0 f1
   go_wp2_with fail
   go_roundw
   case rel=>exact ⟨i+1,_,ps++[p],by omega,by go_num,rfl,HNW,HR3,HB3⟩
   case measure=>simp [intOf];omega
  ·have he:i=xs.length:=by omega
   subst he
   rw [List.take_length] at hps
   have hlen:ps.length<20:=by
    have h2:=congrArg List.length hps.out
    rw [List.length_map] at h2
    have:=HFEW.out
    omega
   have HSS:=hidden (sortStable_c w.heap.size _ ps wo hrow.out hbr.size hlen hwp.out)
   have HND:Hid ((sortC ps).map EC.d=newD xs n):=by
    show _=_
    rw [sortC_map,hps.out]
    rfl
   clear ha hrow hwp hps hbr
   go_wp2_with (go_at_call 73;refine HSS.out.mono ?_;rintro e w1 ⟨rfl,r1,b1⟩;replace r1:=hidden r1;replace b1:=hidden b1)
   go_ret
   exact ⟨_,sortC ps,rfl,r1.out,HND.out,HBR.out.trans b1.out⟩
def BoxV (B:Nat) (t:TypeId) (w:World) (b:Nat) (v:Value):Prop:=w.ownsRow B t 1 (.slice (some ⟨b,0,none⟩) 1 1) 1 [v]
theorem BoxV.cell {B b:Nat} {t:TypeId} {w:World} {v:Value} (h:BoxV B t w b v):w.cell? ⟨b,0,none⟩=some v:=h.cellAt 0 (by omega)
theorem BoxV.frz {B b:Nat} {t:TypeId} {w:World} {v:Value} (h:BoxV B t w b v):w.frozen? ⟨b,0,none⟩=false:=World.ownsRow.frozenAt h 0
theorem BoxV.below {B b:Nat} {t:TypeId} {w w':World} {v:Value} (h:BoxV B t w b v) (hb:Below w.heap.size w w'):BoxV B t w' b v:=owns_of_belowN h hb
theorem BoxV.put {B b:Nat} {t:TypeId} {w:World} {v:Value} (h:BoxV B t w b v) (u:Value):BoxV B t (w.setCell ⟨b,0,none⟩ u) b u∧w.grownBy (w.setCell ⟨b,0,none⟩ u) (some b):=World.ownsRow.stored h 0 u
theorem BoxV.lt {B b:Nat} {t:TypeId} {w:World} {v:Value} (h:BoxV B t w b v):B≤b∧b<w.heap.size:=World.ownsRow.lt h b rfl
theorem boxV_new (w:World) (t:TypeId) (v:Value) (B:Nat) (hB:B≤w.heap.size):BoxV B t (w.alloc (.cells #[v] t)) w.heap.size v:=World.ownsRow_lit w #[v] 1 hB (by unfold maxLen;omega) rfl
def goodO (gw:Option Nat) (b:Nat):Obj→Prop
 | .cells _ e _=>e≠129∧e≠3∧(e≠136∨some b≠gw)
 |_=>False
structure FrT (B0:Nat) (gw:Option Nat) (w w':World):Prop where
 os:w'.os=w.os
 tape:w'.tape=w.tape
 output:w'.output=w.output
 size:w.heap.size≤w'.heap.size
 low: ∀ b,b<B0→w'.heap[b]?=w.heap[b]?
 good: ∀ b o,w.heap[b]?=some o→goodO gw b o→w'.heap[b]?=some o
theorem lt_of_heap {w:World} {b:Nat} {o:Obj} (h:w.heap[b]?=some o):b<w.heap.size:=(Array.getElem?_eq_some_iff.1 h).1
theorem FrT.below {B0:Nat} (gw:Option Nat) {w w':World} (h:Below w.heap.size w w') (hB:B0≤w.heap.size):FrT B0 gw w w':=⟨h.os,h.tape,h.output,h.size,fun b hb=>h.block b (Nat.lt_of_lt_of_le hb hB),fun b o ho _=>(h.block b (lt_of_heap ho)).trans ho⟩
theorem FrT.trans {B0:Nat} {gw gw2:Option Nat} {a b c:World} (h:FrT B0 gw a b) (k:FrT B0 gw2 b c) (hg:gw2=gw∨∀ g,gw2=some g→a.heap.size≤g):FrT B0 gw a c:=by
 refine ⟨k.os.trans h.os,k.tape.trans h.tape,k.output.trans h.output,Nat.le_trans h.size k.size,fun i hi=>(k.low i hi).trans (h.low i hi),fun i o ho hgo=>k.good i o (h.good i o ho hgo) ?_⟩
 cases o with
 |cells cs e fz=>
  refine ⟨hgo.1,hgo.2.1,?_⟩
  rcases hgo.2.2 with h1|h1
  ·exact .inl h1
  ·refine .inr (fun h2=>?_)
   rcases hg with rfl|hg
   ·exact h1 h2
   ·have h3:=hg i h2.symm
    have h4:=lt_of_heap ho
    omega
 |_=>exact hgo
theorem FrT.grown {B0:Nat} {gw:Option Nat} {w w':World} {e:TypeId} {sz n:Nat} {r:Value} {xs:List Value} (hr:w.ownsRow B0 e sz r n xs) (g:w.grownBy w' r.ownBlock) (hB:B0≤w.heap.size) (he:e=129∨e=3∨(e=136∧r.ownBlock=gw)):FrT B0 gw w w':=by
 refine ⟨g.os,g.tape,g.output,g.size,fun b hb=>?_,fun b o ho hgo=>?_⟩
 ·refine g.block b (Nat.lt_of_lt_of_le hb hB) (fun e9=>?_)
  have h9:=(hr.lt b e9.symm).1
  omega
 ·refine (g.block b (lt_of_heap ho) (fun e9=>?_)).trans ho
  rcases id hr.2 with ⟨rfl,_⟩|⟨gb,cap,cur,rfl,_,hb2,_⟩
  ·cases e9
  ·obtain rfl:b=gb:=Option.some.inj e9
   rw [hb2] at ho
   obtain rfl:=(Option.some.inj ho).symm
   obtain ⟨h1,h2,h3⟩:=hgo
   rcases he with rfl|rfl|⟨rfl,h4⟩
   ·exact h1 rfl
   ·exact h2 rfl
   ·rcases h3 with h3|h3
    ·exact h3 rfl
    ·exact h3 h4
theorem FrT.map {B0 b n s:Nat} {gw:Option Nat} {w w':World} {m:ByteArray→Option Value} (hm:MapV w b n s m) (g:w.grownBy w' (some b)) (hb:B0≤b):FrT B0 gw w w':=by
 refine ⟨g.os,g.tape,g.output,g.size,fun i hi=>?_,fun i o ho hgo=>?_⟩
 ·exact g.block i (by have:=hm.lt;omega) (fun e=>by have:=Option.some.inj e;omega)
 ·refine (g.block i (lt_of_heap ho) (fun e=>?_)).trans ho
  obtain rfl:=Option.some.inj e
  obtain ⟨D,⟨es,clock,h,_⟩,_⟩:=hm
  rw [h] at ho
  obtain rfl:=(Option.some.inj ho).symm
  exact hgo
theorem owns_frT {B0 lo sz n:Nat} {gw:Option Nat} {w w':World} {e:TypeId} {v:Value} {xs:List Value} (h:w.ownsRow lo e sz v n xs) (k:FrT B0 gw w w') (he:e≠129∧e≠3∧(e≠136∨v.ownBlock≠gw)):w'.ownsRow lo e sz v n xs:=by
 refine ⟨h.1,?_⟩
 rcases h.2 with h2|⟨g,cap,cur,rfl,h1,h2,h3⟩
 ·exact .inl h2
 ·exact .inr ⟨g,cap,cur,rfl,h1,k.good g _ h2 ⟨he.1,he.2.1,he.2.2⟩,h3⟩
theorem RangeOwn.frT {B0 lo:Nat} {gw:Option Nat} {w w':World} {v:Value} {dss:List (List CmpD)} (h:RangeOwn lo w v dss) (k:FrT B0 gw w w'):RangeOwn lo w' v dss:=by
 obtain ⟨vs,ls,hs,h1,h2,h3⟩:=h
 refine ⟨vs,ls,hs,owns_frT h1 k ⟨by decide,by decide,.inl (by decide)⟩,fun i hi=>?_,h3⟩
 obtain ⟨u,e,a1,a2,ys,us,c1,c2,c3⟩:=h2 i hi
 exact ⟨u,e,a1,Nat.le_trans a2 k.size,ys,us,owns_frT c1 k ⟨by decide,by decide,.inl (by decide)⟩,fun i hi=>⟨(c2 i hi).1,owns_frT (c2 i hi).2 k ⟨by decide,by decide,.inl (by decide)⟩⟩,c3⟩
theorem RowE.frT {B0 B:Nat} {gw:Option Nat} {w w':World} {v:Value} {ps:List EC} (h:RowE B w v ps) (k:FrT B0 gw w w'):RowE B w' v ps:=⟨owns_frT h.1 k ⟨by decide,by decide,.inl (by decide)⟩,fun p hp=>⟨owns_frT (h.2 p hp).1 k ⟨by decide,by decide,.inl (by decide)⟩,owns_frT (h.2 p hp).2 k ⟨by decide,by decide,.inl (by decide)⟩⟩⟩
theorem PmOk.frT {B0:Nat} {gw:Option Nat} {w w':World} {pm:ByteArray→Option VC} (h:PmOk w pm) (k:FrT B0 gw w w'):PmOk w' pm:=fun p x e=>⟨owns_frT (h p x e).1 k ⟨by decide,by decide,.inl (by decide)⟩,(h p x e).2⟩
def TabsB (B0:Nat) (w:World):Prop:=Tabs w∧2<B0∧1<B0
theorem TabsB.low {B0:Nat} {w w':World} (h:TabsB B0 w) (k: ∀ b,b<B0→w'.heap[b]?=w.heap[b]?):TabsB B0 w':=by
 obtain ⟨⟨m,h1,h2⟩,h3,h4⟩:=h
 exact ⟨⟨m,(World.cell?_of_block (w:=w) (k _ h3)).trans h1,fun j hj=>(World.cell?_of_block (w:=w) (k _ h4)).trans (h2 j hj)⟩,h3,h4⟩
def ptrV (b:Nat):Value:=.pointer (some ⟨b,0,none⟩)
structure TryS (B0 bw bp br bf bt mb:Nat) (rv:Value) (w:World) (f:Nat) (wv:Value) (ws:List WC) (pm:ByteArray→Option VC) (n s:Nat):Prop where
 boxw:BoxV B0 129 w bw wv
 boxp:BoxV B0 131 w bp (.map (some mb))
 boxr:BoxV B0 24 w br rv
 boxf:BoxV B0 3 w bf (.int .i64 (f:Int))
 boxt:BoxV B0 132 w bt (.func (.func 103) #[] #[ptrV bw,ptrV bp,ptrV br,ptrV bf,ptrV bt])
 row:RowW B0 w wv ws
 map:MapV w mb n s (fun p=>(pm p).map VC.val)
 pmok:PmOk w pm
 mlow:B0≤mb
 tabs:TabsB B0 w
theorem TryS.lows {B0 bw bp br bf bt mb f n s:Nat} {rv wv:Value} {w:World} {ws:List WC} {pm:ByteArray→Option VC} (h:TryS B0 bw bp br bf bt mb rv w f wv ws pm n s):B0≤w.heap.size:=by have:=h.mlow;have:=h.map.lt;omega
theorem TryS.below {B0 bw bp br bf bt mb f n s:Nat} {rv wv:Value} {w w':World} {ws:List WC} {pm:ByteArray→Option VC} (h:TryS B0 bw bp br bf bt mb rv w f wv ws pm n s) (k:Below w.heap.size w w'):TryS B0 bw bp br bf bt mb rv w' f wv ws pm n s:=
 ⟨h.boxw.below k,h.boxp.below k,h.boxr.below k,h.boxf.below k,h.boxt.below k,h.row.below k,h.map.below k,h.pmok.below k,h.mlow,h.tabs.low (fun b hb=>k.block b (Nat.lt_of_lt_of_le hb h.lows))⟩
def verOf (d:PickD):Int × Int × Int × List ByteArray:=(d.vA,d.vB,d.vC,d.vP)
def lookD (l:List PickD) (q:ByteArray):Option (Int × Int × Int × List ByteArray):=(l.find? fun d=>decide (d.name=q)).map verOf
def RelP (pm:ByteArray→Option VC) (l:List PickD):Prop:=∀ q,(pm q).map (fun x=>(x.a,x.b,x.c,x.ps))=lookD l q
theorem firstP_find (l:List PickD) (q:ByteArray):l.find? (fun d=>decide (d.name=q))=(firstP l q).map (fun _=>atP l (firstP l q)):=by
 unfold firstP atP
 cases h:l.findIdx? (fun d=>decide (d.name=q)) with
 |none=>
  rw [List.findIdx?_eq_none_iff] at h
  rw [Option.map_none,List.find?_eq_none]
  intro x hx
  simpa using h x hx
 |some i=>
  obtain ⟨hi,h1,h2⟩:=List.findIdx?_eq_some_iff_getElem.1 h
  have e9:((some i).bind (l[·]?)).getD zeroP=l[i]:=by simp [hi]
  rw [Option.map_some,e9,List.find?_eq_some_iff_getElem]
  refine ⟨h1,i,hi,rfl,fun j hj=>?_⟩
  simpa using h2 j hj
theorem rel_none {pm:ByteArray→Option VC} {l:List PickD} (h:RelP pm l) {q:ByteArray}:pm q=none↔firstP l q=none:=by
 have h1:=h q
 unfold lookD at h1
 rw [firstP_find] at h1
 cases hp:pm q<;>cases hf:firstP l q<;>simp [hp,hf] at h1 ⊢
theorem rel_some {pm:ByteArray→Option VC} {l:List PickD} (h:RelP pm l) {q:ByteArray} {x:VC} (hx:pm q=some x): ∃ i,firstP l q=some i∧verOf (atP l (firstP l q))=(x.a,x.b,x.c,x.ps):=by
 have h1:=h q
 unfold lookD at h1
 rw [firstP_find,hx] at h1
 cases hf:firstP l q with
 |none=>rw [hf] at h1;cases h1
 |some i=>rw [hf] at h1;exact ⟨i,rfl,(Option.some.inj h1).symm⟩
theorem mayB_in (r:ByteArray) (a b c:Int) (ps:List ByteArray):mayB r a b c ps=inRB a b c ps ((rangeI r).getD []):=by
 unfold mayB
 cases rangeI r with
 |none=>simp [inRB]
 |some R=>simp
theorem open_skip (pm:ByteArray→Option VC) (l:List PickD) (hr:RelP pm l): ∀ (left:List NeedD) (ws:List WC) (n0:Nat),ws.map WC.say=left.map wishD→
  match skipD l left with
  | .bad=>(goOpen pm ws n0).2=false
  | .done=>goOpen pm ws n0=(n0+ws.length,true)
  | .opn n r=>∃ k,goOpen pm ws n0=(n0+k,true)∧k<ws.length∧left.drop k=n::r:=by
 intro left
 induction left with
 |nil=>
  intro ws n0 h
  have:ws=[]:=by cases ws with|nil=>rfl|cons p r=>simp at h
  subst this
  rfl
 |cons d left ih=>
  intro ws n0 h
  cases ws with
  |nil=>simp at h
  |cons p ws=>
   simp only [List.map_cons,List.cons.injEq] at h
   obtain ⟨h1,h2⟩:=h
   have hpn:p.name=d.n:=congrArg Prod.fst h1
   have hpd:p.dss=(rangeI d.r).getD []:=congrArg Prod.snd h1
   unfold goOpen
   rw [hpn]
   cases hp:pm d.n with
   |none=>
    have hf:=(rel_none hr).1 hp
    have hs:skipD l (d::left)=.opn d left:=by
     show (match firstP l d.n with| .none=>SoS.opn d left| .some _=>if met1 l d=true then skipD l left else .bad)=_
     rw [hf]
    rw [hs]
    exact ⟨0,rfl,by simp,rfl⟩
   |some x=>
    obtain ⟨i,hf,hv⟩:=rel_some hr hp
    have hs:skipD l (d::left)=if met1 l d=true then skipD l left else .bad:=by
     show (match firstP l d.n with| .none=>SoS.opn d left| .some _=>if met1 l d=true then skipD l left else .bad)=_
     rw [hf]
    have hm:met1 l d=inRB x.a x.b x.c x.ps p.dss:=by
     unfold met1
     rw [hf]
     simp only [Option.isSome_some,Bool.true_and]
     rw [←hf]
     show mayB d.r _ _ _ _=_
     rw [mayB_in,hpd]
     injection hv with e1 e2
     injection e2 with e2 e3
     injection e3 with e3 e4
     rw [e1,e2,e3,e4]
    rw [hs,hm]
    simp only
    cases hb:inRB x.a x.b x.c x.ps p.dss with
    |false=>rfl
    |true=>
     simp only [if_true]
     have h3:=ih ws (n0+1) h2
     cases hk:skipD l left with
     |bad=>rw [hk] at h3;exact h3
     |done=>rw [hk] at h3;simp only at h3 ⊢;rw [h3];simp;omega
     |opn a b=>
      rw [hk] at h3
      obtain ⟨k,e1,e2,e3⟩:=h3
      exact ⟨k+1,by rw [e1];congr 1;omega,by simpa using e2,by simpa using e3⟩
end Go.Proofs.YtlfmefojcmpfeaaGreatDoor
