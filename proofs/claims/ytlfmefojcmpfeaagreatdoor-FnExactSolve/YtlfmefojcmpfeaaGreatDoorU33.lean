/-
  Contracts for the walks and pure facts, several texts in one: each theorem says what it proves, and under which conditions.
-/
import Derived.Test.YtlfmefojcmpfeaaGreatDoorUT
import Derived.Test.YtlfmefojcmpfeaaGreatDoorU32
set_option linter.unusedSimpArgs false
set_option linter.unusedVariables false
set_option maxHeartbeats 16000000
set_option maxRecDepth 100000
namespace Go.Proofs.YtlfmefojcmpfeaaGreatDoor
open Go.RowKit
theorem wpList_delete_V (w:World) {ops:Array Oper} {rest:List Oper} {o:Oper} {a:Act} {Q:Exit→Act→World→Prop} (hg:o.guard=none) (mo x:Operand) (hop:o.op=Op.call {callee:=Callee.builtin Builtin.delete,args:=#[mo,x],argTypes:=#[131,9]}) (b n s:Nat) (m:ByteArray→Option Value) (hm:a.eval mo=.map (some b)) (hown:MapV w b n s m) (p:ByteArray) (hx:a.eval x=.string p) (hp:p.size≤maxLen)
  (hK: ∀ w' s',MapV w' b n s' (fun q=>if q=p then none else m q)→w.grownBy w' (some b)→wpList Tryz.prog ops Q rest (a.put o.dst (.tuple #[])) w'):wpList Tryz.prog ops Q (o::rest) a w:=by
 obtain ⟨D,h,hs,h2⟩:=hown
 refine wpList_delete_own w hg mo x 131 9 hop 30 keyedV Tryz.underlying131 selfElem b n D hm h _ (klV p) hx (WideMaps.keyOf_string_mk Tryz.underlying9 hp) (fun w' h' ht=>hK w' _ ⟨_,h',rfl,fun q=>?_⟩ ht.grown)
 dsimp only
 by_cases e:q=p
 ·subst e
  rw [if_pos rfl]
  exact ⟨Maps.has_del_same,fun g hg=>by cases hg⟩
 ·have hne:klV q≠klV p:=fun h=>e (klV_inj h)
  rw [if_neg e,Maps.has_del_other hne]
  exact ⟨(h2 q).1,fun g hg z=>by rw [Maps.atKey_del_other hne];exact (h2 q).2 g hg z⟩
theorem append_blockS {P:Program} (w:World) (base:Nat) (t ty e:TypeId) (i:TypeInfo) (z:Value) (size bytes:Nat) (ht:P.underlying t=some (.slice e)) (hi:P.info? e=some i) (hz:i.zero=some z)
  (hsize:i.size=size) (hby:i.bytes=bytes) (hzs:z.cells.size=size) (hsz:0<size)
  (g n cap:Nat) (xs:List Value) (hown:w.ownsRow base e size (.slice (some ⟨g,0,none⟩) n cap) n xs)
  (a:Addr) (m c:Nat) (news:List Value) (hl:news.length=m*size) (hnews: ∀ j u,news[j]?=some u→w.cell? (a.add j)=some u) (h1: ∀ u∈news,u.oneCell'=true)
  (h63:n+m≤maxLen) (hbytes:(n+m)*bytes≤140737488355328) (v':Value) (w':World)
  (hr:(Builtin.append_ #[t,t] ty #[.slice (some ⟨g,0,none⟩) n cap,.slice (some a) m c]).run P w=.ok v' w'):v'.ownBlock=some g∨v'.ownBlock=some w.heap.size:=by
 subst hsize
 subst hby
 have hsmall:n+m≤9223372036854775807:=by simp only [maxLen] at h63;omega
 rcases id hown.2 with ⟨h,_⟩|⟨g',cap',cur,hv,hbg,hg,hnc,hcm,hcs,htake⟩
 ·cases h
 ·injection hv with e1 e2 e3
  obtain rfl:g=g':=by injection Option.some.inj e1
  subst e3
  by_cases hroom:n+m≤cap
  ·have hfit:n*i.size+news.length≤cur.size:=by rw [hl,hcs, ←Nat.add_mul];exact Nat.mul_le_mul_right _ hroom
   have h:=run_append_room (P:=P) w t ty e i ht hi g n cap cur hg a m c news hl hnews h1 hroom hfit
   rw [hr] at h
   obtain ⟨rfl,_⟩:=(Result.ok.injEq ..).mp h
   exact .inl rfl
  ·have h:=run_append_grow (P:=P) w t ty e i z ht hi hz ⟨g,0,none⟩ n cap xs hown.1 (hown.cells (g:=g) rfl) a m c news hl hnews (by omega) (by omega) (growslice_fits (by omega) hbytes)
   rw [hr] at h
   obtain ⟨rfl,_⟩:=(Result.ok.injEq ..).mp h
   exact .inr rfl
theorem wpO_append_rowB {P:Program} {w:World} {o:Oper} {a:Act} {K:Act→World→Prop} {Q:Exit→Act→World→Prop} (s x:Operand) (t:TypeId)
  (ho:o.op=.call {callee:=.builtin .append,args:=#[s,x],argTypes:=#[t,t]})
  (base:Nat) (e:TypeId) (i:TypeInfo) (z:Value) (size bytes:Nat) (ht:P.underlying t=some (.slice e)) (hi:P.info? e=some i) (hz:i.zero=some z)
  (hsize:i.size=size) (hby:i.bytes=bytes) (hzs:z.cells.size=size) (hsz:0<size)
  (g n cap:Nat) (xs:List Value) (hs:a.eval s=.slice (some ⟨g,0,none⟩) n cap) (hown:w.ownsRow base e size (.slice (some ⟨g,0,none⟩) n cap) n xs)
  (u:Value) (m lo:Nat) (news:List Value) (hx:a.eval x=u) (hsrc:w.ownsRow lo e size u m news) (h1: ∀ u∈news,u.oneCell'=true)
  (h63:n+m≤maxLen) (hbytes:(n+m)*bytes≤140737488355328) (hbase:base≤w.heap.size)
  (h: ∀ v' w',w'.ownsRow base e size v' (n+m) (xs++news)→w.grownBy w' (some g)→(v'.ownBlock=some g∨v'.ownBlock=some w.heap.size)→K (a.put o.dst v') w'):o.wp P a w K Q:=by
 rcases id hsrc.2 with ⟨rfl,rfl⟩|⟨gs,caps,cur,rfl,hgl,hgb,hcap,hmax,_⟩
 ·have hn:news=[]:=List.eq_nil_of_length_eq_zero (by rw [hsrc.1];omega)
  subst hn
  refine wpO_append_none s x t ho base e i size ht hi _ n xs hs hown hx ?_
  refine h _ w ?_ (World.grownBy.refl _ _) (.inl rfl)
  rw [Nat.add_zero,List.append_nil]
  exact hown
 ·have hsc: ∀ j u,news[j]?=some u→w.cell? ((⟨gs,0,none⟩:Addr).add j)=some u:=fun j u hu=>by
   rw [addr_add0,hsrc.cellAt j (by rw [←hsrc.1];exact (List.getElem?_eq_some_iff.1 hu).1)]
   exact hu
  obtain ⟨v',w',hr,h2,h3,_⟩:=run_append_own (P:=P) w base t o.type e i z size bytes ht hi hz hsize hby hzs hsz _ n xs hown ⟨gs,0,none⟩ m caps news hsrc.1 hsc h1 h63 hbytes hbase
  have h4:=append_blockS w base t o.type e i z size bytes ht hi hz hsize hby hzs hsz g n cap xs hown ⟨gs,0,none⟩ m caps news hsrc.1 hsc h1 h63 hbytes v' w' hr
  unfold Oper.wp execOp
  simp only [ho,resolve,invoke,builtin,Sem.run_bind,Sem.run_pure,Result.andThen_ok,List.map_toArray,List.map_cons,List.map_nil,hs,hx,hr]
  exact h v' w' h2 h3 h4
theorem owns_cut {w:World} {B sz g n cap k:Nat} {e:TypeId} {xs:List Value} (h:w.ownsRow B e sz (.slice (some ⟨g,0,none⟩) n cap) n xs) (hk:k≤n):w.ownsRow B e sz (.slice (some ⟨g,0,none⟩) k cap) k (xs.take (k*sz))∧k≤cap:=by
 have hle:k*sz≤n*sz:=Nat.mul_le_mul_right _ hk
 rcases h.2 with ⟨h,_⟩|⟨g',cap',cur,hv,hbg,hg,hnc,hcm,hcs,htake⟩
 ·cases h
 ·injection hv with e1 e2 e3
  subst e3
  refine ⟨⟨by rw [List.length_take,h.1];omega,.inr ⟨g',cap,cur,by rw [e1],hbg,hg,by omega,hcm,hcs,?_⟩⟩,by omega⟩
  rw [←htake,List.take_take,Nat.min_eq_left hle]
theorem flatW_take (ps qs:List WC):(flatW (ps++qs)).take (ps.length*2)=flatW ps:=by
 rw [flatW_append, ←flatW_length,List.take_left']
 rfl
theorem flatW_one {w:World} {ps:List WC} (h: ∀ p∈ps,RangeOwn 0 w p.u p.dss): ∀ u∈flatW ps,u.oneCell'=true:=fun u hu=>by
 obtain ⟨p,hp,hu⟩:=List.mem_flatMap.1 hu
 have h1:u=.string p.name∨u=p.u:=by simpa [WC.cells] using hu
 rcases h1 with rfl|rfl
 ·rfl
 ·obtain ⟨vs,ls,hs,h1,_⟩:=h p hp
  obtain ⟨q,c,h2⟩:=owns_sliceP h1
  rw [h2];rfl
theorem rel_ins {pm:ByteArray→Option VC} {l:List PickD} {nm:ByteArray} {x:VC} {e:EntryD} (h:RelP pm l) (hn:firstP l nm=none) (hx:(x.a,x.b,x.c,x.ps)=(e.vA,e.vB,e.vC,e.vP)):RelP (fun q=>if q=nm then some x else pm q) (insPick l (pickE nm e)):=by
 have hnm: ∀ d∈l,¬d.name=nm:=fun d hd=>by
  unfold firstP at hn
  rw [List.findIdx?_eq_none_iff] at hn
  simpa using hn d hd
 intro q
 unfold lookD insPick insG
 rw [List.find?_append,List.find?_cons]
 by_cases hq:q=nm
 ·subst hq
  have h1:(l.take (posR (fun a b=>Op.bytesLess b.name.toList a.name.toList) l (pickE q e) l.length)).find? (fun d=>decide (d.name=q))=none:=by
   rw [List.find?_eq_none]
   intro d hd
   simpa using hnm d (List.mem_of_mem_take hd)
  rw [h1]
  simp only [pickE,decide_true,Option.none_or,Option.map_some,if_true]
  rw [hx]
  rfl
 ·have hne:decide ((pickE nm e).name=q)=false:=decide_eq_false (fun h9=>hq h9.symm)
  rw [hne]
  simp only [if_neg hq]
  rw [←List.find?_append,List.take_append_drop]
  exact h q
theorem wok_of_say {p:WC} {d:NeedD} (h:p.say=wishD d) (hd:smallN d):WOk p:=by
 have h1:p.name=d.n:=congrArg Prod.fst h
 have h2:p.dss=(rangeI d.r).getD []:=congrArg Prod.snd h
 obtain ⟨r1,r2,r3⟩:=range_small d.r
 unfold WOk
 rw [h1,h2]
 refine ⟨by have:=hd.1;omega,r1,r2,fun ds hds d' hd'=>?_,range_weight d.r⟩
 have:=r3 ds hds d' hd'
 omega
theorem ne_map {w:World} {lo sz n b n2 s2:Nat} {e:TypeId} {v:Value} {xs:List Value} {m:ByteArray→Option Value} (h:w.ownsRow lo e sz v n xs) (hm:MapV w b n2 s2 m):v.ownBlock≠some b:=fun e9=>by
 obtain ⟨D,⟨es,clock,h2,_⟩,_⟩:=hm
 rcases id h.2 with ⟨rfl,_⟩|⟨g,cap,cur,rfl,_,hg,_⟩
 ·cases e9
 ·obtain rfl:g=b:=Option.some.inj e9
  rw [hg] at h2
  cases h2
section
variable {B0 bw bp br bf bt mb f n s:Nat} {rv wv:Value} {w w':World} {ws:List WC} {pm:ByteArray→Option VC}
theorem TryS.remap {pm':ByteArray→Option VC} {n' s':Nat} (h:TryS B0 bw bp br bf bt mb rv w f wv ws pm n s) (hm:MapV w' mb n' s' (fun p=>(pm' p).map VC.val)) (g:w.grownBy w' (some mb)) (hp:PmOk w pm'):TryS B0 bw bp br bf bt mb rv w' f wv ws pm' n' s'∧FrT B0 wv.ownBlock w w':=
 have fr:FrT B0 wv.ownBlock w w':=FrT.map h.map g h.mlow
 ⟨⟨h.boxw.kept g (.inr (ne_map h.boxw h.map)),h.boxp.kept g (.inr (ne_map h.boxp h.map)),h.boxr.kept g (.inr (ne_map h.boxr h.map)),h.boxf.kept g (.inr (ne_map h.boxf h.map)),h.boxt.kept g (.inr (ne_map h.boxt h.map)),⟨h.row.1.kept g (.inr (ne_map h.row.1 h.map)),fun p hp=>(h.row.2 p hp).frT fr⟩,hm,hp.frT fr,h.mlow,h.tabs.low fr.low⟩,fr⟩
theorem TryS.refuel (h:TryS B0 bw bp br bf bt mb rv w f wv ws pm n s) (f':Nat):TryS B0 bw bp br bf bt mb rv (w.setCell ⟨bf,0,none⟩ (.int .i64 (f':Int))) f' wv ws pm n s∧FrT B0 wv.ownBlock w (w.setCell ⟨bf,0,none⟩ (.int .i64 (f':Int))):=
 have hb:=h.boxf.put (.int .i64 (f':Int))
 have fr:FrT B0 wv.ownBlock w (w.setCell ⟨bf,0,none⟩ (.int .i64 (f':Int))):=FrT.grown h.boxf hb.2 h.lows (.inr (.inl rfl))
 ⟨⟨h.boxw.kept hb.2 (owns_apart h.boxw h.boxf (by decide)),h.boxp.kept hb.2 (owns_apart h.boxp h.boxf (by decide)),h.boxr.kept hb.2 (owns_apart h.boxr h.boxf (by decide)),hb.1,h.boxt.kept hb.2 (owns_apart h.boxt h.boxf (by decide)),⟨h.row.1.kept hb.2 (owns_apart h.row.1 h.boxf (by decide)),fun p hp=>(h.row.2 p hp).frT fr⟩,h.map.kept hb.2 (ne_map h.boxf h.map),h.pmok.frT fr,h.mlow,h.tabs.low fr.low⟩,fr⟩
theorem TryS.rewish {v':Value} {ws':List WC} (h:TryS B0 bw bp br bf bt mb rv w f wv ws pm n s) (g:w.grownBy w' wv.ownBlock) (hrow:w'.ownsRow B0 136 2 v' ws'.length (flatW ws')) (hran: ∀ p∈ws',RangeOwn 0 w p.u p.dss):TryS B0 bw bp br bf bt mb rv (w'.setCell ⟨bw,0,none⟩ v') f v' ws' pm n s∧FrT B0 wv.ownBlock w (w'.setCell ⟨bw,0,none⟩ v'):=
 have fr1:FrT B0 wv.ownBlock w w':=FrT.grown h.row.1 g h.lows (.inr (.inr ⟨rfl,rfl⟩))
 have bw1:BoxV B0 129 w' bw wv:=h.boxw.kept g (owns_apart h.boxw h.row.1 (by decide))
 have bf1:BoxV B0 3 w' bf (.int .i64 (f:Int)):=h.boxf.kept g (owns_apart h.boxf h.row.1 (by decide))
 have mp1:=h.map.kept g (ne_map h.row.1 h.map)
 have hb:=bw1.put v'
 have hl1:B0≤w'.heap.size:=Nat.le_trans h.lows g.size
 have fr2:FrT B0 wv.ownBlock w' (w'.setCell ⟨bw,0,none⟩ v'):=FrT.grown bw1 hb.2 hl1 (.inl rfl)
 have fr:=fr1.trans fr2 (.inl rfl)
 ⟨⟨hb.1,owns_frT h.boxp fr ⟨by decide,by decide,.inl (by decide)⟩,owns_frT h.boxr fr ⟨by decide,by decide,.inl (by decide)⟩,bf1.kept hb.2 (owns_apart bf1 bw1 (by decide)),owns_frT h.boxt fr ⟨by decide,by decide,.inl (by decide)⟩,⟨hrow.kept hb.2 (owns_apart hrow bw1 (by decide)),fun p hp=>(hran p hp).frT fr⟩,mp1.kept hb.2 (ne_map bw1 mp1),h.pmok.frT fr,h.mlow,h.tabs.low fr.low⟩,fr⟩
end
def TryPost (B0 bw bp br bf bt mb:Nat) (rv:Value) (w:World) (wv:Value) (ws:List WC) (pm:ByteArray→Option VC) (res:SoR) (e:Ending) (w':World):Prop:=
 ∃ c:Int,e=.returned (.int .i64 c)∧FrT B0 wv.ownBlock w w'∧match res with
 | .good l' _=>c=0∧∃ pm' n' s',MapV w' mb n' s' (fun p=>(pm' p).map VC.val)∧PmOk w' pm'∧RelP pm' l'∧n'≤10000
 | .none f'=>c=1∧∃ wv' more n' s',TryS B0 bw bp br bf bt mb rv w' f' wv' (ws++more) pm n' s'∧(wv'.ownBlock=wv.ownBlock∨∀ g,wv'.ownBlock=some g→w.heap.size≤g)∧n'+f'≤10000
 | .fuel=>c=2
def TryC (xs:List EntryD) (Sr:Nat→Prop) (rv:Value) (B0 bw bp br bf bt mb f:Nat):Prop:=
 ∀ (w:World) (at0:Nat) (wv:Value) (ws:List WC) (pm:ByteArray→Option VC) (n s:Nat) (l:List PickD) (left:List NeedD),
  TryS B0 bw bp br bf bt mb rv w f wv ws pm n s→RowIn shEntry Sr w rv xs→at0≤ws.length→(ws.drop at0).map WC.say=left.map wishD→RelP pm l→(∀ p∈ws,WOk p)→(∀ d∈left,smallN d)→ws.length+f*1048576≤1099511627776→n+f≤10000→
  Calls Tryz.prog 103 #[.int .i64 (at0:Int),ptrV bw,ptrV bp,ptrV br,ptrV bf,ptrV bt] w (TryPost B0 bw bp br bf bt mb rv w wv ws pm (way xs f l left))
end Go.Proofs.YtlfmefojcmpfeaaGreatDoor
