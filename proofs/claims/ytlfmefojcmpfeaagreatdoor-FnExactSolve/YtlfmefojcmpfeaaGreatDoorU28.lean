/-
  Contracts for the walks and pure facts, several texts in one: each theorem says what it proves, and under which conditions.
-/
import Derived.Test.YtlfmefojcmpfeaaGreatDoorUT
import Derived.Test.YtlfmefojcmpfeaaGreatDoorU27
set_option linter.unusedSimpArgs false
set_option linter.unusedVariables false
set_option maxHeartbeats 16000000
set_option maxRecDepth 100000
namespace Go.Proofs.YtlfmefojcmpfeaaGreatDoor
open Go.RowKit
theorem wpO_append_none {P:Program} {w:World} {o:Oper} {a:Act} {K:Act→World→Prop} {Q:Exit→Act→World→Prop} (s x:Operand) (t:TypeId)
  (ho:o.op=.call {callee:=.builtin .append,args:=#[s,x],argTypes:=#[t,t]})
  (base:Nat) (e:TypeId) (i:TypeInfo) (size:Nat) (ht:P.underlying t=some (.slice e)) (hi:P.info? e=some i)
  (v:Value) (n:Nat) (xs:List Value) (hs:a.eval s=v) (hown:w.ownsRow base e size v n xs) (hx:a.eval x=.slice none 0 0)
  (h:K (a.put o.dst v) w):o.wp P a w K Q:=by
 have hrun:=run_append_owned_none (P:=P) (w:=w) base t o.type e i size ht hi v n xs hown
 unfold Oper.wp
 simp [execOp,ho,resolve,invoke,builtin,hs,hx,hrun,Result.andThen]
 exact h
theorem wpO_append_row {P:Program} {w:World} {o:Oper} {a:Act} {K:Act→World→Prop} {Q:Exit→Act→World→Prop} (s x:Operand) (t:TypeId)
  (ho:o.op=.call {callee:=.builtin .append,args:=#[s,x],argTypes:=#[t,t]})
  (base:Nat) (e:TypeId) (i:TypeInfo) (z:Value) (size bytes:Nat) (ht:P.underlying t=some (.slice e)) (hi:P.info? e=some i) (hz:i.zero=some z)
  (hsize:i.size=size) (hby:i.bytes=bytes) (hzs:z.cells.size=size) (hsz:0<size)
  (v:Value) (n:Nat) (xs:List Value) (hs:a.eval s=v) (hown:w.ownsRow base e size v n xs)
  (u:Value) (m lo:Nat) (news:List Value) (hx:a.eval x=u) (hsrc:w.ownsRow lo e size u m news) (h1: ∀ u∈news,u.oneCell'=true)
  (h63:n+m≤maxLen) (hbytes:(n+m)*bytes≤140737488355328) (hbase:base≤w.heap.size)
  (h: ∀ v' w',w'.ownsRow base e size v' (n+m) (xs++news)→w.grownBy w' v.ownBlock→K (a.put o.dst v') w'):o.wp P a w K Q:=by
 rcases id hsrc.2 with ⟨rfl,rfl⟩|⟨g,cap,cur,rfl,hgl,hgb,hcap,hmax,_⟩
 ·have hn:news=[]:=List.eq_nil_of_length_eq_zero (by rw [hsrc.1];omega)
  subst hn
  refine wpO_append_none s x t ho base e i size ht hi v n xs hs hown hx ?_
  refine h v w ?_ (World.grownBy.refl _ _)
  rw [Nat.add_zero,List.append_nil]
  exact hown
 ·refine wp_append_own w s x t ho base e i z size bytes ht hi hz hsize hby hzs hsz v n xs hs hown ⟨g,0,none⟩ m cap news hx hsrc.1 (fun j u hu=>?_) h1 h63 hbytes hbase (fun v' w' a b _=>h v' w' a b)
  rw [addr_add0,hsrc.cellAt j (by rw [←hsrc.1];exact (List.getElem?_eq_some_iff.1 hu).1)]
  exact hu
theorem RowP.own {w:World} {v:Value} {ps:List PC} (h:RowP 0 w v ps) (hs: ∀ p∈ps,p.d.name.size≤1048576∧bulkS p.d.vP≤1048576) (hl:ps.length≤maxLen):RowOwn shPickO 59 (Ow 0 w.heap.size) w v (ps.map PC.d):=by
 refine ⟨by simpa using hl,flatP ps,?_,owns_in h.1,?_⟩
 ·rw [List.length_map];exact h.1
 ·intro i hi _
  have hi2:i<ps.length:=by simpa using hi
  have hm:=List.getElem_mem hi2
  have h1:=h.2 _ hm
  obtain ⟨h2,h3⟩:=hs _ hm
  have h4:saneP ps[i].d.vP:=by
   unfold bulkS at h3
   refine ⟨by unfold maxLen;omega,fun s hs=>?_⟩
   have h9:=size_of_bulk hs
   unfold bulkS at h9
   unfold maxLen
   omega
  refine ⟨ps[i].cells,rfl,?_,fun j hj=>?_⟩
  ·rw [List.getElem_map]
   exact ⟨ps[i].u0,rfl,by unfold maxLen;omega,⟨h1,owns_in h1⟩,h4⟩
  ·have hj5:j<5:=hj
   show (flatP ps)[i*5+j]?=_
   rw [flatP_at ps i hi2 j hj5,List.getElem?_eq_getElem]
structure WayK (xs:List EntryD) (Sr:Nat→Prop) (rv:Value) (lv:Value) (ps:List PC) (Sn:Nat→Prop) (tv:Value) (r:List NeedD) (N:Nat) (nm rg:ByteArray) (av:Value) (es:List EC) (W:World):Prop where
 reg:RowIn shEntryO Sr W rv xs
 row:RowP 0 W lv ps
 left:RowIn shNeed Sn W tv r
 n0:W.cell? ⟨N,0,none⟩=some (.string nm)
 n1:W.cell? ⟨N,1,none⟩=some (.string rg)
 all:RowE 0 W av es
theorem WayK.on {xs:List EntryD} {Sr Sn:Nat→Prop} {rv lv tv av:Value} {ps:List PC} {r:List NeedD} {N gx f:Nat} {nm rg:ByteArray} {es:List EC} {W W':World} {o:Bool} (h:WayK xs Sr rv lv ps Sn tv r N nm rg av es W) (hr:RunB W gx rv f o) (hg:W.grownBy W' (some gx)) (hN:N≠gx)
  (hSr: ∀ b,Sr b→b<W.heap.size∧b≠gx) (hSn: ∀ b,Sn b→b<W.heap.size∧b≠gx):WayK xs Sr rv lv ps Sn tv r N nm rg av es W':=
 ⟨h.reg.keep (kp_grown hg hSr),h.row.grown hr hg,h.left.keep (kp_grown hg hSn),hg.cell h.n0 (fun e=>hN (Option.some.inj e)),hg.cell h.n1 (fun e=>hN (Option.some.inj e)),h.all.grownX hr hg⟩
theorem picks_le37 {ps:List PC} (h: ∀ p∈ps,wtPick p.d≤37): ∀ p∈ps,p.d.name.size≤1048576∧bulkS p.d.vP≤1048576:=fun p hp=>by
 have h1:=h p hp
 unfold wtPick at h1
 omega
theorem atP_small {l:List PickD} (h: ∀ d∈l,wtPick d≤37) (o:Option Nat):bulkS (atP l o).vP≤1048576:=by
 unfold atP
 cases o with
 |none=>simp [zeroP,bulkS]
 |some k=>
  show bulkS ((l[k]?).getD zeroP).vP≤_
  cases hk:l[k]? with
  |none=>simp [zeroP,bulkS]
  |some d=>
   have h1:=h d (List.mem_of_getElem? hk)
   unfold wtPick at h1
   simp only [Option.getD_some]
   omega
theorem l9Way_nil (xs:List EntryD) (Sr:Nat→Prop) (rv:Value) (gx f:Nat):WayC xs Sr rv gx f []:=by
 intro w g cap ps Sn nv hrun hreg hSr hps hpw hpl hns hSn hsm hlen
 obtain ⟨q,ca,hv⟩:=hns.slice
 rw [List.length_nil] at hv
 subst hv
 rw [show way xs f (ps.map PC.d) []=.good (ps.map PC.d) f from way_done rfl]
 have HR:=hidden hrun
 have HP:=hidden hps
 clear hrun hreg hSr hps hpw hpl hns hSn hsm hlen
 go_enter Tryz.func112,Tryz.ntmps112
 go_wp2_with fail
 go_ret2
 exact ⟨_,_,rfl,World.grownBy.refl _ _,rfl,⟨ps,HP.out,rfl⟩,HR.out⟩
theorem l9Way_cons (xs:List EntryD) (Sr:Nat→Prop) (rv:Value) (gx f:Nat) (n:NeedD) (r:List NeedD) (hwx:wtRow wtEntry xs≤1048576) (hxs: ∀ e∈xs,smallE e) (IH: ∀ f',f'<f→∀ ns,WayC xs Sr rv gx f' ns) (IHr:WayC xs Sr rv gx f r):WayC xs Sr rv gx f (n::r):=by
 intro w g cap ps Sn nv hrun hreg hSr hps hpw hpl hns hSn hsm hlen
 obtain ⟨q,ca,hv⟩:=hns.slice
 rw [List.length_cons] at hv
 subst hv
 obtain ⟨b,off,hq,hb,c0,c1,hz1,hz2,hca,ht⟩:=rowIn_tail hns
 subst hq
 obtain ⟨hn1,hn2⟩:=hsm n (by simp)
 have hsr: ∀ d∈r,smallN d:=fun d hd=>hsm d (by simp [hd])
 rw [List.length_cons] at hlen
 obtain ⟨tq,htq⟩: ∃ q,(if ca=1 then some ⟨b,off,none⟩ else some ⟨b,off+2,none⟩:Option Addr)=q:=⟨_,rfl⟩
 rw [htq] at ht
 have hpl2:ps.length≤10000:=by omega
 have hwl:=wtP_sum hpw hpl2
 have hps':=picks_le37 hpw
 have hgxl:=hrun.lt
 have HPK:Hid (∀ W,Below w.heap.size w W→Calls Tryz.prog 32 #[.slice (some ⟨g,0,none⟩) ps.length cap,.string n.n] W fun e w'=>PickR W w' e (atP (ps.map PC.d) (firstP (ps.map PC.d) n.n)) (firstP (ps.map PC.d) n.n).isSome):=fun W h=>
  specPick_c (Ow 0 W.heap.size) _ (ps.map PC.d) n.n W (RowP.own (hps.below h) hps' (by unfold maxLen;omega)).plain (fun b hb=>hb.2) hwl
 have hDb:bulkS (atP (ps.map PC.d) (firstP (ps.map PC.d) n.n)).vP≤1048576:=atP_small (fun d hd=>by obtain ⟨p,hp,rfl⟩:=List.mem_map.1 hd;exact hpw p hp) _
 obtain ⟨DD,hDD⟩: ∃ D,D=atP (ps.map PC.d) (firstP (ps.map PC.d) n.n):=⟨_,rfl⟩
 rw [←hDD] at HPK hDb
 have HMT:Hid (∀ W u,Reads W u (strsV DD.vP)→Calls Tryz.prog 24 #[.agg #[.string n.n,.string n.r],.agg #[.int .i64 DD.vA,.int .i64 DD.vB,.int .i64 DD.vC,u]] W fun e w'=>e=.returned (.bool (mayP n DD))∧Below W.heap.size W w'):=fun W u h=>specMay_c n.n n.r DD.vA DD.vB DD.vC u DD.vP W hn2 h hDb
 obtain ⟨is,his⟩: ∃ i,i=(firstP (ps.map PC.d) n.n).isSome:=⟨_,rfl⟩
 rw [←his] at HPK
 have HIS:=hidden his
 have HDD:=hidden hDD
 have HRUN:=hidden hrun
 have HREG:=hidden hreg
 have HROW:=hidden hps
 have HLEFT:=hidden ht
 obtain ⟨nm,hnm⟩: ∃ x,x=n.n:=⟨_,rfl⟩
 obtain ⟨rg,hrg⟩: ∃ x,x=n.r:=⟨_,rfl⟩
 rw [←hnm] at c0 HPK HMT
 rw [←hrg] at c1 HMT
 have HNM:=hidden hnm
 have HRG:=hidden hrg
 have hlt:b<w.heap.size:=(hSn b hb).1
 have kA:Below w.heap.size w (w.alloc (.cells #[.string nm,.string rg] 39)):=(Below.refl _ _).alloc (Nat.le_refl _) _
 have zA:(w.alloc (.cells #[.string nm,.string rg] 39)).heap[w.heap.size]?=some (.cells #[.string nm,.string rg] 39 (0,0)):=vheap_new _ _
 have lA:w.heap.size<(w.alloc (.cells #[.string nm,.string rg] 39)).heap.size:=by simp
 clear hrun hreg hps hns ht hDD his hwl hps' hsm hnm hrg
 go_enter Tryz.func112,Tryz.ntmps112
 go_wp2_with fail
 go_at_call 32
 refine (HPK.out _ kA).mono ?_
 rintro e w1 ⟨u1,rfl,o1,b1⟩
 have k1:Below w.heap.size w w1:=kA.trans (b1.mono kA.size)
 obtain ⟨qu,cu,eu⟩:=owns_sliceP o1
 subst eu
 obtain ⟨N,hN⟩: ∃ N,N=w.heap.size:=⟨_,rfl⟩
 have zN:w1.heap[N]?=some (.cells #[.string nm,.string rg] 39 (0,0)):=by rw [hN];exact (b1.block _ lA).trans zA
 have hNl:N<w1.heap.size:=by rw [hN];exact Nat.lt_of_lt_of_le lA b1.size
 have hNg:N≠gx:=by omega
 have n0:w1.cell? ⟨N,0,none⟩=some (.string nm):=vblk_cell zN 0
 have n1:w1.cell? ⟨N,1,none⟩=some (.string rg):=vblk_cell zN 1
 rw [←hN]
 have HO1:=hidden o1
 have HZN:=hidden zN
 have HN:=hidden hN
 have HK1:=hidden k1
 have kV: ∀ o,Below w1.heap.size w1 (w1.alloc o):=fun o=>(Below.refl _ _).alloc (Nat.le_refl _) _
 have HKV:=hidden kV
 clear HPK kA zA lA b1 k1 o1 zN hN kV hlt
 cases is with
 |true=>
  have HRD:Hid (∀ o,Reads (w1.alloc o) (.slice qu DD.vP.length cu) (strsV DD.vP)):=fun o=>reads_of_owns (owns_of_belowN HO1.out (HKV.out o))
  have n0': ∀ o,(w1.alloc o).cell? ⟨N,0,none⟩=some (.string nm):=fun o=>(World.cell?_alloc_lt _ _ ⟨N,0,none⟩ hNl).trans n0
  have n1': ∀ o,(w1.alloc o).cell? ⟨N,1,none⟩=some (.string rg):=fun o=>(World.cell?_alloc_lt _ _ ⟨N,1,none⟩ hNl).trans n1
  go_wp2_with fail
  go_at_call 24
  refine (HMT.out _ _ (HRD.out _)).mono ?_
  rintro e w2 ⟨rfl,b2⟩
  have k2:Below w.heap.size w w2:=(HK1.out.trans ((HKV.out _).mono HK1.out.size)).trans (b2.mono (HK1.out.trans ((HKV.out _).mono HK1.out.size)).size)
  obtain ⟨fi,hfi⟩: ∃ i,firstP (ps.map PC.d) n.n=some i:=Option.isSome_iff_exists.1 HIS.out.symm
  have hmet:met1 (ps.map PC.d) n=mayP n DD:=by unfold met1;rw [←HIS.out, ←HDD.out];simp
  obtain ⟨B,hB⟩: ∃ B,B=mayP n DD:=⟨_,rfl⟩
  rw [←hB] at hmet ⊢
  clear hB HRD n0' n1' HMT b2
  cases B with
  |false=>
   have HWY:=hidden (way_stop (xs:=xs) (f:=f) (r:=r) hfi hmet)
   clear hfi hmet
   go_wp2_with fail
   go_ret2
   refine ⟨_,_,rfl,grown_of_below k2 _,?_⟩
   rw [HWY.out]
   exact ⟨rfl,HRUN.out.below k2⟩
  |true=>
   have HWY:=hidden (way_skip (xs:=xs) (f:=f) (r:=r) hfi hmet)
   have HR2:Hid (Calls Tryz.prog 112 #[.pointer (some ⟨gx,0,none⟩),.slice (some ⟨g,0,none⟩) ps.length cap,.slice tq r.length (ca-1)] w2 (WayPost gx rv w2 (way xs f (ps.map PC.d) r))):=
    IHr w2 g cap ps Sn _ (HRUN.out.below k2) (HREG.out.keep (.of k2 (fun b hb=>(hSr b hb).1))) (fun b hb=>⟨Nat.lt_of_lt_of_le (hSr b hb).1 k2.size,(hSr b hb).2⟩) (HROW.out.below k2) hpw hpl (HLEFT.out.keep (.of k2 (fun b hb=>(hSn b hb).1))) (fun b hb=>⟨Nat.lt_of_lt_of_le (hSn b hb).1 k2.size,(hSn b hb).2⟩) hsr (by omega)
   have hca1:1≤ca:=by omega
   clear hfi hmet hxs IH IHr hSr hSn hsr hpw
   go_wp2_with fail
   go_at_call 112
   refine HR2.out.mono ?_
   rintro e w3 ⟨v3,ok3,rfl,gr3,hp3⟩
   have HP3:=hidden hp3
   have HG3:=hidden (grown_trans (grown_of_below k2 (some gx)) gr3)
   clear hp3 gr3 HR2
   go_wp2_with fail
   go_ret2
   refine ⟨_,_,rfl,HG3.out,?_⟩
   rw [HWY.out]
   exact HP3.out
 |false=>
  have HFN:Hid (firstP (ps.map PC.d) n.n=none):=by
   show _=_
   have h9:=HIS.out
   cases hx:firstP (ps.map PC.d) n.n with
   |none=>rfl
   |some k=>rw [hx] at h9;cases h9
  have hn0': ∀ o,(w1.alloc o).cell? ⟨N,0,none⟩=some (.string nm):=fun o=>(World.cell?_alloc_lt _ _ ⟨N,0,none⟩ hNl).trans n0
  have hn1': ∀ o,(w1.alloc o).cell? ⟨N,1,none⟩=some (.string rg):=fun o=>(World.cell?_alloc_lt _ _ ⟨N,1,none⟩ hNl).trans n1
  have HNF:Hid (∀ W,Below w.heap.size w W→Calls Tryz.prog 22 #[rv,.string nm] W fun e w'=>∃ v' es,e=.returned v'∧RowE W.heap.size w' v' es∧es.map EC.d=newD xs nm∧Below W.heap.size W w'):=fun W h=>specNewest_c Sr rv xs nm W (HREG.out.keep (.of h (fun b hb=>(hSr b hb).1))) (fun b hb=>Nat.lt_of_lt_of_le (hSr b hb).1 h.size) hwx
  go_wp2_with fail
  have HZ:Hid (Below w.heap.size w (w1.alloc (.cells #[.int .i64 DD.vA,.int .i64 DD.vB,.int .i64 DD.vC,.slice qu DD.vP.length cu] 30))):=HK1.out.trans ((HKV.out _).mono HK1.out.size)
  have HZ0:=hidden (hn0' (.cells #[.int .i64 DD.vA,.int .i64 DD.vB,.int .i64 DD.vC,.slice qu DD.vP.length cu] 30))
  have HZ1:=hidden (hn1' (.cells #[.int .i64 DD.vA,.int .i64 DD.vB,.int .i64 DD.vC,.slice qu DD.vP.length cu] 30))
  have hZl:N<(w1.alloc (.cells #[.int .i64 DD.vA,.int .i64 DD.vB,.int .i64 DD.vC,.slice qu DD.vP.length cu] 30)).heap.size:=by simp;omega
  generalize (w1.alloc (.cells #[.int .i64 DD.vA,.int .i64 DD.vB,.int .i64 DD.vC,.slice qu DD.vP.length cu] 30))=Z0 at HZ HZ0 HZ1 hZl ⊢
  have KEEP:Hid (∀ W,Below Z0.heap.size Z0 W→W.cell? ⟨gx,0,none⟩=some rv∧W.cell? ⟨N,0,none⟩=some (.string nm)):=fun W h=>
   ⟨(HRUN.out.below (HZ.out.trans (h.mono HZ.out.size))).cells.1,(h.cell (p:=⟨N,0,none⟩) hZl).trans HZ0.out⟩
  have h0:Below Z0.heap.size Z0 Z0.drew:=(Below.refl _ _).drew
  clear hn0' hn1' n0 n1 HKV
  refine wp_region_held_drew (S:=(fun W=>W.cell? ⟨gx,0,none⟩=some rv∧W.cell? ⟨N,0,none⟩=some (.string nm))) (by kernel_rfl) ?SR10 (fun hHeld=>?_)
  case SR10=>(first|(with_reducible exact KEEP.out _ h1)|(with_reducible exact KEEP.out _ h0))
  refine tk 0 hHeld (h:=?_)
  refine tk 1 hHeld (h:=?_)
  refine tk 2 hHeld (h:=?_)
  refine tk 3 hHeld (h:=?_)
  refine tk 4 hHeld (h:=?_)
  refine tk 5 hHeld (h:=?_)
  refine wpAnyH_ready (rs:=[6]) (by kernel_rfl) (by simp) ?_
  refine AllReadyH.cons rfl (fun K hK=>?_) AllReadyH.nil
  go_simp
  go_wp2_with (go_at_call 22;refine (HNF.out _ (HZ.out.trans (h0.mono HZ.out.size))).mono ?_;rintro e w2 ⟨av,es,rfl,hE,hes,b2⟩;have h1:Below Z0.heap.size Z0 w2:=h0.trans (b2.mono h0.size))
  clear hHeld
  refine hK.out _ _ ?SR17 (fun hHeld=>?_)
  case SR17=>((try dsimp only);first|(with_reducible exact KEEP.out _ h1)|(with_reducible exact KEEP.out _ h0))
  clear hK K
  refine tk 7 hHeld (h:=?_)
  refine wpAnyH_done (by kernel_rfl) ?_ _
  have HZ2:=hidden (HZ.out.trans (h1.mono HZ.out.size))
  have hN2:N<w2.heap.size:=Nat.lt_of_lt_of_le hZl h1.size
  have hK0:WayK xs Sr rv (.slice (some ⟨g,0,none⟩) ps.length cap) ps Sn (.slice tq r.length (ca-1)) r N nm rg av es w2:=
   ⟨HREG.out.keep (.of HZ2.out (fun b hb=>(hSr b hb).1)),HROW.out.below HZ2.out,HLEFT.out.keep (.of HZ2.out (fun b hb=>(hSn b hb).1)),(h1.cell (p:=⟨N,0,none⟩) hZl).trans HZ0.out,(h1.cell (p:=⟨N,1,none⟩) hZl).trans HZ1.out,hE.zero⟩
  have hRun2:=HRUN.out.below HZ2.out
  have hSr2: ∀ b,Sr b→b<w2.heap.size∧b≠gx:=fun b hb=>⟨Nat.lt_of_lt_of_le (hSr b hb).1 HZ2.out.size,(hSr b hb).2⟩
  have hSn2: ∀ b,Sn b→b<w2.heap.size∧b≠gx:=fun b hb=>⟨Nat.lt_of_lt_of_le (hSn b hb).1 HZ2.out.size,(hSn b hb).2⟩
  have HKO:Hid (∀ W,w2.grownBy W (some gx)→WayK xs Sr rv (.slice (some ⟨g,0,none⟩) ps.length cap) ps Sn (.slice tq r.length (ca-1)) r N nm rg av es W):=fun W h=>hK0.on hRun2 h hNg hSr2 hSn2
  obtain ⟨RES,hRES⟩: ∃ R,R=way xs f (ps.map PC.d) (n::r):=⟨_,rfl⟩
  have HRW:=hidden hRES
  rw [way_new HFN.out] at hRES
  obtain ⟨GO,hGO⟩: ∃ G,G=fun f' (e:EntryD)=>way xs f' (insPick (ps.map PC.d) (pickE n.n e)) (r++e.needs):=⟨_,rfl⟩
  rw [←hGO, ←restD_zero] at hRES
  have HGO:Hid (∀ f' e,GO f' e=way xs f' (insPick (ps.map PC.d) (pickE n.n e)) (r++e.needs)):=fun f' e=>by rw [hGO]
  have HRES:=hidden hRES
  have hls:es.length=(newD xs nm).length:=by rw [←hes];simp
  have hml:(newD xs nm).length≤xs.length:=by have h9:=newD_len xs nm xs.length (Nat.le_refl _);rwa [List.take_length] at h9
  have hxl:=len_wtRow wtEntry xs
  obtain ⟨M,hM⟩: ∃ M,M=es.length:=⟨_,rfl⟩
  have hM2:M≤1048576:=by omega
  obtain ⟨aq,acap,hav⟩: ∃ q c,av=.slice q M c:=by rw [hM];exact owns_sliceP hE.1
  have HAV:Hid (0<M→∃ ga,aq=some ⟨ga,0,none⟩):=fun h=>by
   obtain ⟨ga,c,h9⟩:=rowE_some hE (by omega)
   rw [hav] at h9
   injection h9 with e1 e2 e3
   exact ⟨ga,e1⟩
  subst hav
  have HES:=hidden hes
  have HM:=hidden hM
  have HG2:Hid (w.grownBy w2 (some gx)):=grown_of_below HZ2.out _
  have HR0:=hidden hRun2
  have HSR:=hidden hSr2
  have HSN:=hidden hSn2
  have HIX:=hidden hxs
  have HIH:=hidden IH
  have HPW:=hidden hpw
  have HSS:=hidden hsr
  clear hK0 hRun2 hSr2 hSn2 hRES hGO hls hml hxl hM hE hes KEEP HNF hHeld h0 h1 b2 HREG HROW HLEFT HRUN HZ HZ0 HZ1 hZl HFN hSr hSn hxs IH IHr hpw hsr HIS HDD hwx HO1 HZN HK1
  go_wp2_with fail
  go_loopw [12] (fun vi wr=>∃ (i fi:Nat),i≤M∧vi=.int .i64 (i:Int)∧Hid (fi≤f)∧Hid (RunB wr gx rv fi false)∧Hid (w2.grownBy wr (some gx))∧Hid (RES=tryAll GO (restD xs n i) fi)) (fun vi _=>M-(intOf vi).toNat)
  case atStart=>exact ⟨0,f,Nat.zero_le _,rfl,Nat.le_refl _,HR0.out,World.grownBy.refl _ _,HRES.out⟩
  case round=>
   clear HR0 HRES
   obtain ⟨i,fi,hi,rfl,hff,hrun,hgr,hres⟩:=hrel
   have hW:=HKO.out _ hgr.out
   by_cases hlt:i<M
   ·obtain ⟨ga,rfl⟩:=HAV.out (by omega)
    have hki:(i:Int)<(M:Int):=by omega
    have hie:i<es.length:=by rw [←HM.out];exact hlt
    obtain ⟨p,hp⟩: ∃ p,p=es[i]:=⟨_,rfl⟩
    obtain ⟨q0,x0,q1,x1,f0,f1⟩:=ent_slices (hW.all.2 _ (List.getElem_mem hie))
    have hdi:(newD xs nm)[i]?=some es[i].d:=by rw [←HES.out];simp [hie]
    have hc:=fun j (hj:j<6)=>hW.all.cell HM.out hie j hj
    have hown:=hW.all.2 _ (List.getElem_mem hie)
    rw [←hp] at f0 f1 hdi hc hown
    obtain ⟨d,hd⟩: ∃ d,d=p.d:=⟨_,rfl⟩
    rw [←hd] at f0 f1 hdi
    have hxd:=HIX.out d (newD_mem (List.mem_of_getElem? hdi))
    have e0:wr.cell? ⟨ga,i*6+1,none⟩=some (.int .i64 d.vA):=by rw [hd];exact hc 1 (by omega)
    have e1:wr.cell? ⟨ga,i*6+2,none⟩=some (.int .i64 d.vB):=by rw [hd];exact hc 2 (by omega)
    have e2:wr.cell? ⟨ga,i*6+3,none⟩=some (.int .i64 d.vC):=by rw [hd];exact hc 3 (by omega)
    have e3:wr.cell? ⟨ga,i*6+4,none⟩=some (.slice q0 d.vP.length x0):=by rw [←f0];exact hc 4 (by omega)
    have e4:wr.cell? ⟨ga,i*6+5,none⟩=some (.slice q1 d.needs.length x1):=by rw [←f1];exact hc 5 (by omega)
    have hgal:ga<wr.heap.size:=by simpa using World.block_lt_of_cell? wr _ e0
    have hgag:ga≠gx:=runB_apartE hrun.out hW.all
    have hNw:N<wr.heap.size:=Nat.lt_of_lt_of_le hN2 hgr.out.size
    have HOW:Hid (wr.ownsRow 0 9 1 (.slice q0 d.vP.length x0) d.vP.length (strsV d.vP)∧wr.ownsRow 0 39 2 (.slice q1 d.needs.length x1) d.needs.length (needsV d.needs)):=by
     have h9:=hown
     unfold EntOwn at h9
     rw [f0,f1, ←hd] at h9
     exact h9
    have hvp:bulkS d.vP≤1048576:=by have:=hxd.1;omega
    have HMT2:Hid (∀ W,Below wr.heap.size wr W→Calls Tryz.prog 24 #[.agg #[.string nm,.string rg],.agg #[.int .i64 d.vA,.int .i64 d.vB,.int .i64 d.vC,.slice q0 d.vP.length x0]] W fun e w'=>e=.returned (.bool (mayB n.r d.vA d.vB d.vC d.vP))∧Below W.heap.size W w'):=fun W h=>by
     rw [HNM.out,HRG.out]
     exact specMay_c n.n n.r d.vA d.vB d.vC _ d.vP W hn2 (reads_of_owns (owns_of_belowN HOW.out.1 h)) hvp
    have HTK:=hidden (restD_take xs n i d (by rw [←HNM.out];exact hdi))
    obtain ⟨B,hB⟩: ∃ B,B=mayB n.r d.vA d.vB d.vC d.vP:=⟨_,rfl⟩
    rw [←hB] at HMT2 HTK
    have KEEP:Hid (∀ W,Below wr.heap.size wr W→(W.cell? ⟨N,0,none⟩=some (.string nm)∧W.cell? ⟨N,1,none⟩=some (.string rg))∧W.cell? ⟨ga,i*6+1,none⟩=some (.int .i64 d.vA)∧W.cell? ⟨ga,i*6+2,none⟩=some (.int .i64 d.vB)∧W.cell? ⟨ga,i*6+3,none⟩=some (.int .i64 d.vC)∧W.cell? ⟨ga,i*6+4,none⟩=some (.slice q0 d.vP.length x0)):=fun W h=>
     ⟨⟨(h.cell (p:=⟨N,0,none⟩) hNw).trans hW.n0,(h.cell (p:=⟨N,1,none⟩) hNw).trans hW.n1⟩,(h.cell (p:=⟨ga,_,none⟩) hgal).trans e0,(h.cell (p:=⟨ga,_,none⟩) hgal).trans e1,(h.cell (p:=⟨ga,_,none⟩) hgal).trans e2,(h.cell (p:=⟨ga,_,none⟩) hgal).trans e3⟩
    have HCE:=hidden (And.intro e0 (And.intro e1 (And.intro e2 (And.intro e3 e4))))
    have HWK:=hidden hW
    have HXD:=hidden hxd
    have HGAG:=hidden hgag
    have h0:Below wr.heap.size wr wr.drew:=(Below.refl _ _).drew
    clear hW hc hown hp f0 f1 hdi hd hxd e0 e1 e2 e3 e4 hB hvp hie hgag
    go_wp2_with fail
    refine wp_region_held_drew (S:=(fun W=>(W.cell? ⟨N,0,none⟩=some (.string nm)∧W.cell? ⟨N,1,none⟩=some (.string rg))∧W.cell? ⟨ga,i*6+1,none⟩=some (.int .i64 d.vA)∧W.cell? ⟨ga,i*6+2,none⟩=some (.int .i64 d.vB)∧W.cell? ⟨ga,i*6+3,none⟩=some (.int .i64 d.vC)∧W.cell? ⟨ga,i*6+4,none⟩=some (.slice q0 d.vP.length x0))) (by kernel_rfl) ?SR20 (fun hHeld=>?_)
    case SR20=>(first|(with_reducible exact KEEP.out _ h1)|(with_reducible exact KEEP.out _ h0))
    refine tk 0 hHeld (h:=?_)
    refine tk 1 hHeld (h:=?_)
    refine tk 2 hHeld (h:=?_)
    refine tk 3 hHeld (h:=?_)
    refine tk 4 hHeld (h:=?_)
    refine tk 5 hHeld (h:=?_)
    refine wpAnyH_ready (rs:=[6]) (by kernel_rfl) (by simp) ?_
    refine AllReadyH.cons rfl (fun K hK=>?_) AllReadyH.nil
    go_simp
    go_wp2_with (go_at_call 24;refine (HMT2.out _ h0).mono ?_;rintro e w3 ⟨rfl,b3⟩;have h1:Below wr.heap.size wr w3:=h0.trans (b3.mono h0.size))
    clear hHeld
    refine hK.out _ _ ?SR27 (fun hHeld=>?_)
    case SR27=>((try dsimp only);first|(with_reducible exact KEEP.out _ h1)|(with_reducible exact KEEP.out _ h0))
    clear hK K
    refine tk 7 hHeld (h:=?_)
    refine wpAnyH_done (by kernel_rfl) ?_ _
    clear hHeld HMT2
    have hrun3:=hrun.out.below h1
    obtain ⟨x0',x1',x2'⟩:=hrun3.cells
    have HR3:=hidden hrun3
    have HG3:Hid (w2.grownBy w3 (some gx)):=grown_trans hgr.out (grown_of_below h1 _)
    cases B with
    |false=>
     clear x0' x1' x2' hrun3
     go_wp2_with fail
     go_roundw
     case rel=>exact ⟨i+1,fi,by omega,by go_num,hff,HR3,HG3,by show _=_;rw [hres.out,HTK.out];simp⟩
     case measure=>simp [intOf];omega
    |true=>
     have HTK2:Hid (restD xs n i=d::restD xs n (i+1)):=by show _=_;rw [HTK.out];simp
     have fz: ∀ j,w3.frozen? ⟨gx,j,none⟩=false:=grown_frozen hrun3
     by_cases hz:fi=0
     ·subst hz
      have HOV:=hidden hrun3.over
      have x1z:w3.cell? ⟨gx,1,none⟩=some (.int .i64 0):=x1'
      have fz2:=fz 2
      clear fz hrun3 x1'
      go_wp2_with fail
      go_ret2
      refine ⟨_,_,rfl,grown_trans (grown_trans HG2.out HG3.out) HOV.out.2,?_⟩
      rw [←HRW.out,hres.out,HTK2.out,tryAll_zero]
      exact ⟨rfl,HOV.out.1⟩
     ·obtain ⟨k,rfl⟩: ∃ k,fi=k+1:=⟨fi-1,by omega⟩
      have x1k:w3.cell? ⟨gx,1,none⟩=some (.int .i64 ((k:Int)+1)):=by have h9:=x1';rw [show ((k+1:Nat):Int)=(k:Int)+1 by omega] at h9;exact h9
      have fz1:=fz 1
      have hk0: ¬(k:Int)+1≤0:=by omega
      have hkb:k<10000:=by have:=hff.out;omega
      clear x1' fz hz
      go_wp2_with fail
      obtain ⟨i0,hi0,hz0,hz1,hz2⟩:=info_parts infoNeed
      have hlss:=hrun3.less k
      obtain ⟨V,hV⟩: ∃ V,V=w3.setCell ⟨gx,1,none⟩ (.int .i64 (k:Int)):=⟨_,rfl⟩
      rw [←hV] at hlss ⊢
      have HGV:Hid (w2.grownBy V (some gx)):=grown_trans HG3.out hlss.2
      have gV:wr.grownBy V (some gx):=grown_trans (grown_of_below h1 _) hlss.2
      have hWV:=HKO.out _ HGV.out
      have hgxV:=hlss.1.lt
      have HOV:Hid (V.ownsRow 0 9 1 (.slice q0 d.vP.length x0) d.vP.length (strsV d.vP)∧V.ownsRow 0 39 2 (.slice q1 d.needs.length x1) d.needs.length (needsV d.needs)):=⟨HOW.out.1.kept gV (owns_apart HOW.out.1 hrun.out (by decide)),HOW.out.2.kept gV (owns_apart HOW.out.2 hrun.out (by decide))⟩
      have cV: ∀ W,V.grownBy W (some gx)→∀ j u,wr.cell? ⟨ga,j,none⟩=some u→W.cell? ⟨ga,j,none⟩=some u:=fun W h j u hu=>(grown_trans gV h).cell hu (fun e=>HGAG.out (Option.some.inj e))
      have K18:Hid (∀ W,Below V.heap.size V W→W.cell? ⟨ga,i*6+5,none⟩=some (.slice q1 d.needs.length x1)):=fun W h=>cV W (grown_of_below h _) _ _ HCE.out.2.2.2.2
      have K19:Hid (∀ W,V.grownBy W (some gx)→W.cell? ⟨N,0,none⟩=some (.string nm)∧W.cell? ⟨ga,i*6+1,none⟩=some (.int .i64 d.vA)∧W.cell? ⟨ga,i*6+2,none⟩=some (.int .i64 d.vB)∧W.cell? ⟨ga,i*6+3,none⟩=some (.int .i64 d.vC)∧W.cell? ⟨ga,i*6+4,none⟩=some (.slice q0 d.vP.length x0)):=fun W h=>
       ⟨(HKO.out _ (grown_trans HGV.out h)).n0,cV W h _ _ HCE.out.1,cV W h _ _ HCE.out.2.1,cV W h _ _ HCE.out.2.2.1,cV W h _ _ HCE.out.2.2.2.1⟩
      obtain ⟨ad,had⟩: ∃ ad,tq=some ad:=by rw [←htq];split<;>exact ⟨_,rfl⟩
      subst had
      have HSRC:Hid (∀ W,Below V.heap.size V W→∀ j u,(needsV r)[j]?=some u→W.cell? (ad.add j)=some u):=fun W h=>rowIn_src (HKO.out _ (grown_trans HGV.out (grown_of_below h _))).left
      have HSRC2:Hid (∀ W,Below V.heap.size V W→W.ownsRow 0 39 2 (.slice q1 d.needs.length x1) d.needs.length (needsV d.needs)):=fun W h=>owns_of_belowN HOV.out.2 h
      have hdn:d.needs.length≤1048576:=HXD.out.2.1
      have hrl:r.length+1048576≤1099511627776:=by
       have h9:=hff.out
       have h8:1*1048576≤f*1048576:=Nat.mul_le_mul_right _ (by omega)
       omega
      have HLS:=hidden hlss
      have HPCK:Hid (∀ W,Below V.heap.size V W→Calls Tryz.prog 182 #[.slice (some ⟨g,0,none⟩) ps.length cap,.agg #[.string nm,.int .i64 d.vA,.int .i64 d.vB,.int .i64 d.vC,.slice q0 d.vP.length x0]] W fun e w'=>∃ g' cap' qs,e=.returned (.slice (some ⟨g',0,none⟩) (ps.length+1) cap')∧RowP W.heap.size w' (.slice (some ⟨g',0,none⟩) (ps.length+1) cap') qs∧qs.map PC.d=insPick (ps.map PC.d) (pickE n.n d)∧Below W.heap.size W w'):=fun W h=>by
       rw [HNM.out]
       exact l9Pick_c g cap ps ⟨pickE n.n d,.slice q0 d.vP.length x0⟩ W (hWV.row.below h) (by omega) (owns_of_belowN HOV.out.1 h)
      have HREC:Hid (∀ W g' cap' qs v5,Below V.heap.size V W→RowP 0 W (.slice (some ⟨g',0,none⟩) (ps.length+1) cap') qs→qs.map PC.d=insPick (ps.map PC.d) (pickE n.n d)→W.ownsRow V.heap.size 39 2 v5 (r.length+d.needs.length) (needsV r++needsV d.needs)→Calls Tryz.prog 112 #[.pointer (some ⟨gx,0,none⟩),.slice (some ⟨g',0,none⟩) (ps.length+1) cap',v5] W (WayPost gx rv W (GO k d))):=fun W g' cap' qs v5 hb hq hqd hv5=>by
       have hql:qs.length=ps.length+1:=by
        have h9:=congrArg List.length hqd
        unfold insPick at h9
        rw [insG_length,List.length_map,List.length_map] at h9
        exact h9
       have hgW:w2.grownBy W (some gx):=grown_trans HGV.out (grown_of_below hb _)
       have hWK:=HKO.out _ hgW
       rw [HGO.out, ←hqd]
       rw [←hql] at hq ⊢
       have hsm2: ∀ x∈r++d.needs,smallN x:=fun x hx=>by
        rcases List.mem_append.1 hx with h|h
        ·exact HSS.out x h
        ·exact HXD.out.2.2 x h
       have hrow5:RowIn shNeed (Ow V.heap.size W.heap.size) W v5 (r++d.needs):=by
        refine (needs_own (lo:=V.heap.size) ?_ (by unfold maxLen;rw [List.length_append];omega) (fun x hx=>?_)).plain
        ·rw [List.length_append, ←needsV_append];exact hv5
        ·have:=hsm2 x hx;unfold smallN at this;unfold maxLen;omega
       refine HIH.out k (by have:=hff.out;omega) (r++d.needs) W g' cap' qs (Ow V.heap.size W.heap.size) v5 (HLS.out.1.below hb) hWK.reg (fun b hb'=>⟨Nat.lt_of_lt_of_le (HSR.out b hb').1 hgW.size,(HSR.out b hb').2⟩) hq (fun p hp=>?_) (by have:=hff.out;omega) hrow5 (fun b hb'=>⟨hb'.2,by have:=hb'.1;omega⟩) hsm2 ?_
       ·have h9:p.d∈insPick (ps.map PC.d) (pickE n.n d):=by rw [←hqd];exact List.mem_map_of_mem hp
        rcases mem_insG h9 with h|h
        ·obtain ⟨p',hp',e'⟩:=List.mem_map.1 h
         rw [←e'];exact HPW.out p' hp'
        ·rw [h]
         show n.n.size+bulkS d.vP≤37
         have:=HXD.out.1
         omega
       ·rw [List.length_append]
        have h9:=hff.out
        have h8:(k+1)*1048576≤f*1048576:=Nat.mul_le_mul_right _ h9
        rw [Nat.add_mul,Nat.one_mul] at h8
        omega
      have hca1:1≤ca:=by omega
      have h1r:(1:Int)≤(r.length:Int)+1:=by omega
      have h0':Below V.heap.size V V.drew:=(Below.refl _ _).drew
      clear hlss hWV cV gV hV HOW HCE KEEP h0 h1 b3 x0' x2' x1k fz1 hrun3 HWK
      refine wp_region_held_drew (S:=(fun W=>W.cell? ⟨ga,i*6+5,none⟩=some (.slice q1 d.needs.length x1))) (by kernel_rfl) ?SA0 (fun hHeld=>?_)
      case SA0=>(with_reducible exact K18.out _ h0')
      generalize V.drew=V1 at hHeld h0' ⊢
      refine tk 1 hHeld (h:=?_)
      refine wpAnyH_take (i:=2) (oi:=_) (v:=?vA2) rfl (by kernel_rfl) (by kernel_rfl) (by kernel_rfl) (fun _ _ _ h=>h) (Or.inl ⟨by rfl,?yA2⟩) hHeld ?_
      case yA2=>(intro w hSw;(try dsimp only at hSw);go_simp;first|with_reducible rfl|(rw [if_pos h1r]))
      try simp only [Act.put,List.getElem_toArray,List.getElem_cons_zero,List.getElem_cons_succ,List.setIfInBounds_toArray,List.set_cons_zero,List.set_cons_succ]
      refine tk 4 hHeld (h:=?_)
      refine tk 5 hHeld (h:=?_)
      refine tk 6 hHeld (h:=?_)
      refine tk 7 hHeld (h:=?_)
      refine tk 8 hHeld (h:=?_)
      refine wpAnyH_ready (rs:=[0]) (by kernel_rfl) (by simp) ?_
      refine AllReadyH.cons rfl (fun K hK=>?_) AllReadyH.nil
      go_simp
      clear hHeld
      have hA:Below V.heap.size V (V1.alloc (.cells #[] 39)):=h0'.alloc h0'.size _
      have eA:(V1.alloc (.cells #[] 39)).ownsRow V.heap.size 39 2 (.slice (some ⟨V1.heap.size,0,none⟩) 0 0) 0 []:=World.ownsRow_lit V1 #[] 0 h0'.size (by unfold maxLen;omega) rfl
      refine hK.out _ (V1.alloc (.cells #[] 39)) ?GA1 (fun hHeld=>?_)
      case GA1=>(exact K18.out _ hA)
      clear hK K
      try simp only [Act.put,List.getElem_toArray,List.getElem_cons_zero,List.getElem_cons_succ,List.setIfInBounds_toArray,List.set_cons_zero,List.set_cons_succ]
      obtain ⟨ge,hge⟩: ∃ x,x=V1.heap.size:=⟨_,rfl⟩
      obtain ⟨wA,hwA⟩: ∃ x,x=V1.alloc (.cells #[] 39):=⟨_,rfl⟩
      rw [←hge, ←hwA] at eA ⊢
      rw [←hwA] at hA hHeld
      clear hge hwA
      refine wpAnyH_ready (rs:=[3]) (by kernel_rfl) (by simp) ?_
      refine AllReadyH.cons rfl (fun K hK=>?_) AllReadyH.nil
      rw [if_pos (by rfl)]
      refine wp_append_own _ _ _ 33 rfl V.heap.size 39 i0 (.agg #[.string ⟨#[]⟩,.string ⟨#[]⟩]) 2 32 Tryz.underlying33 hi0 hz0 hz1 hz2 rfl (by decide) _ 0 ([]) rfl eA ad r.length (ca-1) (needsV r) rfl (needsV_length r) (HSRC.out _ hA) (needsV_one r) (by unfold maxLen;omega) (by omega) hA.size ?_
      intro v4 w4 o4 gr4 _
      rw [Nat.zero_add,List.nil_append] at o4
      have h4:Below V.heap.size V w4:=Below.grown hA gr4 hA.size (fun j hj=>(eA.lt j hj).1)
      clear hHeld
      refine hK.out _ _ ?GA2 (fun hHeld=>?_)
      case GA2=>(exact K18.out _ h4)
      clear hK K gr4 eA hA
      try simp only [Act.put,List.getElem_toArray,List.getElem_cons_zero,List.getElem_cons_succ,List.setIfInBounds_toArray,List.set_cons_zero,List.set_cons_succ]
      refine wpAnyH_ready (rs:=[9]) (by kernel_rfl) (by simp) ?_
      refine AllReadyH.cons rfl (fun K hK=>?_) AllReadyH.nil
      rw [if_pos (by rfl)]
      refine wpO_append_row _ _ 33 rfl V.heap.size 39 i0 (.agg #[.string ⟨#[]⟩,.string ⟨#[]⟩]) 2 32 Tryz.underlying33 hi0 hz0 hz1 hz2 rfl (by decide) _ r.length (needsV r) rfl o4 _ d.needs.length 0 (needsV d.needs) rfl (HSRC2.out _ h4) (needsV_one d.needs) (by unfold maxLen;omega) (by omega) h4.size ?_
      intro v5 w5 o5 gr5
      have h5:Below V.heap.size V w5:=Below.grown h4 gr5 h4.size (fun j hj=>(o4.lt j hj).1)
      clear hHeld
      refine hK.out _ _ ?GA3 (fun hHeld=>?_)
      case GA3=>(exact K18.out _ h5)
      clear hK K gr5 o4 h4
      try simp only [Act.put,List.getElem_toArray,List.getElem_cons_zero,List.getElem_cons_succ,List.setIfInBounds_toArray,List.set_cons_zero,List.set_cons_succ]
      refine tk 10 hHeld (h:=?_)
      refine wpAnyH_done (by kernel_rfl) ?_ _
      have h5':Below V.heap.size V w5.drew:=h5.drew
      clear hHeld HSRC HSRC2 K18
      go_wp2_with fail
      refine wp_region_held_drew (S:=(fun W=>W.cell? ⟨N,0,none⟩=some (.string nm)∧W.cell? ⟨ga,i*6+1,none⟩=some (.int .i64 d.vA)∧W.cell? ⟨ga,i*6+2,none⟩=some (.int .i64 d.vB)∧W.cell? ⟨ga,i*6+3,none⟩=some (.int .i64 d.vC)∧W.cell? ⟨ga,i*6+4,none⟩=some (.slice q0 d.vP.length x0))) (by kernel_rfl) ?SR30 (fun hHeld=>?_)
      case SR30=>(first|(with_reducible exact K19.out _ g7)|(with_reducible exact K19.out _ (grown_of_below h6 _))|(with_reducible exact K19.out _ (grown_of_below h5' _)))
      refine tk 0 hHeld (h:=?_)
      refine tk 1 hHeld (h:=?_)
      refine tk 2 hHeld (h:=?_)
      refine tk 3 hHeld (h:=?_)
      refine tk 4 hHeld (h:=?_)
      refine tk 5 hHeld (h:=?_)
      refine tk 6 hHeld (h:=?_)
      refine tk 7 hHeld (h:=?_)
      refine tk 8 hHeld (h:=?_)
      refine tk 9 hHeld (h:=?_)
      refine tk 11 hHeld (h:=?_)
      refine wpAnyH_ready (rs:=[10]) (by kernel_rfl) (by simp) ?_
      refine AllReadyH.cons rfl (fun K hK=>?_) AllReadyH.nil
      go_simp
      go_wp2_with (go_at_call 182;refine (HPCK.out _ h5').mono ?_;rintro e w6 ⟨g6,cap6,qs6,rfl,hq6,hqd6,b6⟩;have h6:Below V.heap.size V w6:=h5'.trans (b6.mono h5'.size))
      clear hHeld
      refine hK.out _ _ ?SR312 (fun hHeld=>?_)
      case SR312=>((try dsimp only);first|(with_reducible exact K19.out _ g7)|(with_reducible exact K19.out _ (grown_of_below h6 _))|(with_reducible exact K19.out _ (grown_of_below h5' _)))
      clear hK K
      refine wpAnyH_ready (rs:=[12]) (by kernel_rfl) (by simp) ?_
      refine AllReadyH.cons rfl (fun K hK=>?_) AllReadyH.nil
      go_simp
      go_wp2_with (go_at_call 112;refine (HREC.out _ _ _ _ _ h6 hq6.zero hqd6 (owns_of_belowN (owns_of_belowN o5 ((Below.refl _ _).drew)) b6)).mono ?_;rintro e w7 ⟨v7,ok7,rfl,gr7,hp7⟩;have g7:V.grownBy w7 (some gx):=grown_trans (grown_of_below h6 _) gr7)
      clear hHeld
      refine hK.out _ _ ?SR313 (fun hHeld=>?_)
      case SR313=>((try dsimp only);first|(with_reducible exact K19.out _ g7)|(with_reducible exact K19.out _ (grown_of_below h6 _))|(with_reducible exact K19.out _ (grown_of_below h5' _)))
      clear hK K
      refine tk 13 hHeld (h:=?_)
      refine tk 14 hHeld (h:=?_)
      refine tk 15 hHeld (h:=?_)
      refine tk 16 hHeld (h:=?_)
      refine tk 17 hHeld (h:=?_)
      refine wpAnyH_done (by kernel_rfl) ?_ _
      have HG7:Hid (w2.grownBy w7 (some gx)):=grown_trans HGV.out g7
      have HP7:=hidden hp7
      clear hHeld hp7 gr7 hq6 hqd6 b6 h6 h5 h5' o5 HREC HPCK K19
      cases hgo:GO k d with
      |good l' f'=>
       have h9:=HP7.out
       rw [hgo] at h9
       obtain ⟨rfl,h10,h11⟩:=h9
       have H10:=hidden h10
       have H11:=hidden h11
       have HGOK:=hidden hgo
       clear h10 h11 hgo HP7 g7
       go_wp2_with fail
       go_ret2
       refine ⟨_,_,rfl,grown_trans HG2.out HG7.out,?_⟩
       rw [←HRW.out,hres.out,HTK2.out,tryAll_succ,HGOK.out]
       exact ⟨rfl,H10.out,H11.out⟩
      |none f'=>
       have h9:=HP7.out
       rw [hgo] at h9
       obtain ⟨rfl,h11⟩:=h9
       have hle:f'≤k:=by rw [HGO.out] at hgo;exact way_le hgo
       obtain ⟨y0,y1,y2⟩:=h11.cells
       have H11:=hidden h11
       have HNX:Hid (RES=tryAll GO (restD xs n (i+1)) f'):=by show _=_;rw [hres.out,HTK2.out,tryAll_succ,hgo]
       clear hgo HP7 g7 h11 y0 y1
       go_wp2_with fail
       go_roundw
       case rel=>exact ⟨i+1,f',by omega,by go_num,(by show _≤_;have:=hff.out;omega),H11,HG7,HNX⟩
       case measure=>simp [intOf];omega
      |fuel=>
       have h9:=HP7.out
       rw [hgo] at h9
       obtain ⟨rfl,h11⟩:=h9
       obtain ⟨y0,y1,y2⟩:=h11.cells
       have H11:=hidden h11
       have HGOK:=hidden hgo
       clear hgo HP7 g7 h11 y0 y1
       go_wp2_with fail
       go_ret2
       refine ⟨_,_,rfl,grown_trans HG2.out HG7.out,?_⟩
       rw [←HRW.out,hres.out,HTK2.out,tryAll_succ,HGOK.out]
       exact ⟨rfl,H11.out⟩
   ·have he:i=M:=by omega
    subst he
    have HE0:Hid (restD xs n i=[]):=restD_end xs n i (by have h9:=congrArg List.length HES.out;rw [List.length_map, ←HM.out,HNM.out] at h9;omega)
    clear hW
    go_wp2_with fail
    go_ret2
    refine ⟨_,_,rfl,grown_trans HG2.out hgr.out,?_⟩
    rw [←HRW.out,hres.out,HE0.out,tryAll_nil]
    exact ⟨rfl,hrun.out⟩
theorem l9Way_c (xs:List EntryD) (Sr:Nat→Prop) (rv:Value) (gx:Nat) (hwx:wtRow wtEntry xs≤1048576) (hxs: ∀ e∈xs,smallE e): ∀ (f:Nat) (ns:List NeedD),WayC xs Sr rv gx f ns:=by
 intro f
 induction f using Nat.strongRecOn with
 |ind f ih=>
  intro ns
  induction ns with
  |nil=>exact l9Way_nil xs Sr rv gx f
  |cons n r ihr=>exact l9Way_cons xs Sr rv gx f n r hwx hxs (fun f' hf ns'=>ih f' hf ns') ihr
def relOk {α:Type} (p:α→Bool) (R:α→α→Bool) (d:α) (pre:Option α):Bool:=p d&&(match pre with|none=>true|some c=>R c d)
def relUpto {α:Type} (p:α→Bool) (R:α→α→Bool) (xs:List α):Nat→Bool
 |0=>true
 |k+1=>relUpto p R xs k&&(match xs[k]? with|none=>true|some d=>relOk p R d (preX xs k))
def relB {α:Type} (p:α→Bool) (R:α→α→Bool) (xs:List α):Bool:=relUpto p R xs xs.length
theorem relUpto_step {α:Type} {p:α→Bool} {R:α→α→Bool} {xs:List α} {k:Nat} (hk:k<xs.length) (h:relUpto p R xs k=true) (h2:relOk p R xs[k] (preX xs k)=true):relUpto p R xs (k+1)=true:=by
 rw [relUpto,h,List.getElem?_eq_getElem hk];simpa using h2
theorem relUpto_bad {α:Type} {p:α→Bool} {R:α→α→Bool} {xs:List α} {k:Nat} (hk:k<xs.length) (h2:relOk p R xs[k] (preX xs k)=false): ∀ n,k<n→relUpto p R xs n=false
 |0,h=>by omega
 |n+1,h=>by
  rw [relUpto]
  by_cases e:k=n
  ·subst e;rw [List.getElem?_eq_getElem hk];simp [h2]
  ·rw [relUpto_bad hk h2 n (by omega)];rfl
theorem relOk_no {α:Type} {p:α→Bool} {R:α→α→Bool} {d:α} {o:Option α} (h:p d=false):relOk p R d o=false:=by simp [relOk,h]
theorem relOk_first {α:Type} {p:α→Bool} {R:α→α→Bool} {d:α} (h:p d=true):relOk p R d none=true:=by simp [relOk,h]
theorem relOk_some {α:Type} {p:α→Bool} {R:α→α→Bool} {d c:α} (h:p d=true):relOk p R d (some c)=R c d:=by simp [relOk,h]
theorem relOk_less {α:Type} {p:α→Bool} {R:α→α→Bool} {d c:α} (h:R c d=false):relOk p R d (some c)=false:=by simp [relOk,h]
theorem rel_one {α:Type} (R:α→α→Bool) (ts:List α):relUpto (fun _=>true) R ts 1=true:=by
 rw [relUpto,relUpto]
 cases ts with
 |nil=>rfl
 |cons t ts=>rfl
theorem rel_end {α:Type} {R:α→α→Bool} {ts:List α} {k:Nat} (h1:1≤k) (h2: ¬k<ts.length) (h3:k≤ts.length∨k=1) (h:relUpto (fun _=>true) R ts k=true):relB (fun _=>true) R ts=true:=by
 cases ts with
 |nil=>rfl
 |cons t ts=>
  have:k=(t::ts).length:=by
   rcases h3 with h3|h3
   ·omega
   ·simp at h2 ⊢;omega
  rw [this] at h
  exact h
theorem relUpto_split {α:Type} (p:α→Bool) (R:α→α→Bool) (xs:List α): ∀ k,k≤xs.length→relUpto p R xs k=((xs.take k).all p&&relUpto (fun _=>true) R xs k)
 |0,_=>rfl
 |k+1,h=>by
  have hk:k<xs.length:=by omega
  rw [relUpto,relUpto_split p R xs k (by omega),List.getElem?_eq_getElem hk,List.take_succ_eq_append_getElem hk,List.all_append]
  have hm:xs[k]?=some xs[k]:=List.getElem?_eq_getElem hk
  simp only [relUpto,hm,relOk,List.all_cons,List.all_nil,Bool.and_true,Bool.true_and]
  cases preX xs k with
  |none=>simp only;cases (xs.take k).all p<;>cases relUpto (fun _=>true) R xs k<;>cases p xs[k]<;>rfl
  |some c=>simp only;cases (xs.take k).all p<;>cases relUpto (fun _=>true) R xs k<;>cases p xs[k]<;>cases R c xs[k]<;>rfl
theorem relB_split {α:Type} (p:α→Bool) (R:α→α→Bool) (xs:List α):relB p R xs=(xs.all p&&relB (fun _=>true) R xs):=by
 unfold relB
 rw [relUpto_split p R xs _ (Nat.le_refl _),List.take_length]
def entB (d:EntryD):Bool:=nameB d.name&&(verB d.vA d.vB d.vC d.vP&&needsB d.needs)
def entLess (c d:EntryD):Bool:=if c.name=d.name then lessB c.vA c.vB c.vC c.vP d.vA d.vB d.vC d.vP else Op.bytesLess c.name.toList d.name.toList
def regB (xs:List EntryD):Bool:=relB entB entLess xs&&decide (xs.length≤12)
def regI (xs:List EntryD):Bool:= !(decide (12<xs.length)||xs.any fun d=> !entB d)&&relB (fun _=>true) entLess xs
theorem reg_alike (xs:List EntryD):regI xs=regB xs:=by
 unfold regI regB
 rw [relB_split entB entLess xs,Bool.not_or,not_more,not_any_not]
 cases decide (xs.length≤12)<;>cases xs.all entB<;>cases relB (fun _=>true) entLess xs<;>rfl
end Go.Proofs.YtlfmefojcmpfeaaGreatDoor
