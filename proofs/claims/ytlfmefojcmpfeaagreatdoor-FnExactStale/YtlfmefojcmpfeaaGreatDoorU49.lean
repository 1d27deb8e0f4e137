/-
  Contracts for the walks and pure facts, several texts in one: each theorem says what it proves, and under which conditions.
-/
import Derived.Test.YtlfmefojcmpfeaaGreatDoorCards
import Derived.Test.YtlfmefojcmpfeaaGreatDoorTie
import Derived.OpenVars
import Derived.Deep.DeepHandedRow
import Derived.Deep.DeepLaidRun
import Derived.Below
import Derived.JoinedOf
import Derived.JoinedCond
import Derived.SevenTiedAt
import Derived.Test.YtlfmefojcmpfeaaGreatDoorUT
import Derived.Test.YtlfmefojcmpfeaaGreatDoorU48
set_option linter.unusedSimpArgs false
set_option linter.unusedVariables false
set_option maxHeartbeats 16000000
set_option maxRecDepth 100000
namespace Go.Proofs.YtlfmefojcmpfeaaGreatDoor
open Go.ChangeShapes Go.WideShapes Go.ChangeAt Go.RowKit
def shEntryW :Sh EntryD where
 n:=6
 lies S w cs d:=shEntry.lies S w cs d∧wfE d
 keep hk h:=⟨shEntry.keep hk h.1,h.2⟩
 mono hS h:=⟨shEntry.mono hS h.1,h.2⟩
theorem verW_of_trod {H:Type} {enc:TypeId × Value→H} {w:World} {spare:Nat→Bool} {held:Bool} (fuel:Nat) (cs:List Value) (x:DataW H × List MemPlace)
  (h:DataW.trod enc Tryz.prog w 0 spare held fuel 173 cs=some x): ∃ a b c u ps,cs=[.int .i64 a,.int .i64 b,.int .i64 c,u]∧Reads w u (strsV ps)∧saneP ps∧(Lit.int .i64 a).wf=true∧(Lit.int .i64 b).wf=true∧(Lit.int .i64 c).wf=true:=by
 obtain ⟨xs,n,rfl,_,hlen,hxl,hf⟩:=DataW.trod_struct Tryz.underlying173 h
 have h4:Tryz.prog.cellsOf 173=4:=by kernel_rfl
 obtain ⟨c0,c1,c2,c3,rfl⟩:=list4 (hlen.trans h4)
 have hx: ∀ i,i<4→∃ y,xs[i]?=some y:=fun i hi=>⟨xs[i]'(by rw [hxl];exact hi),by rw [List.getElem?_eq_getElem]⟩
 obtain ⟨y0,e0⟩:=hx 0 (by omega)
 obtain ⟨y1,e1⟩:=hx 1 (by omega)
 obtain ⟨y2,e2⟩:=hx 2 (by omega)
 obtain ⟨y3,e3⟩:=hx 3 (by omega)
 have k3:Tryz.prog.cellsOf 3=1:=by kernel_rfl
 have kS:Tryz.prog.cellsOf 28=1:=by kernel_rfl
 have f0:DataW.trod enc Tryz.prog w 0 spare held n 3 [c0]=some y0:=by
  have h:DataW.trod enc Tryz.prog w 0 spare held n 3 ((([c0,c1,c2,c3]:List Value).drop 0).take (Tryz.prog.cellsOf 3))=some y0:=(hf 0 _ rfl).trans e0
  rw [k3] at h;exact h
 have f1:DataW.trod enc Tryz.prog w 0 spare held n 3 [c1]=some y1:=by
  have h:DataW.trod enc Tryz.prog w 0 spare held n 3 ((([c0,c1,c2,c3]:List Value).drop 1).take (Tryz.prog.cellsOf 3))=some y1:=(hf 1 _ rfl).trans e1
  rw [k3] at h;exact h
 have f2:DataW.trod enc Tryz.prog w 0 spare held n 3 [c2]=some y2:=by
  have h:DataW.trod enc Tryz.prog w 0 spare held n 3 ((([c0,c1,c2,c3]:List Value).drop 2).take (Tryz.prog.cellsOf 3))=some y2:=(hf 2 _ rfl).trans e2
  rw [k3] at h;exact h
 have f3:DataW.trod enc Tryz.prog w 0 spare held n 28 [c3]=some y3:=by
  have h:DataW.trod enc Tryz.prog w 0 spare held n 28 ((([c0,c1,c2,c3]:List Value).drop 3).take (Tryz.prog.cellsOf 28))=some y3:=(hf 3 _ rfl).trans e3
  rw [kS] at h;exact h
 obtain ⟨k,hk,_,w0⟩:=DataW.trod_int Tryz.underlying3 f0
 obtain ⟨m,hm,_,w1⟩:=DataW.trod_int Tryz.underlying3 f1
 obtain ⟨r,hr,_,w2⟩:=DataW.trod_int Tryz.underlying3 f2
 simp at hk hm hr
 subst hk hm hr
 obtain ⟨ks,hr,hsane⟩:=vreads_open f3
 exact ⟨_,_,_,_,_,rfl,hr,hsane,w0,w1,w2⟩
theorem entryW_of_trod {H:Type} {enc:TypeId × Value→H} {w:World} {spare:Nat→Bool} {held:Bool} (fuel:Nat) (cs:List Value) (x:DataW H × List MemPlace)
    (h:DataW.trod enc Tryz.prog w 0 spare held fuel 175 cs=some x): ∃ d:EntryD,shEntryW.lies (· <w.heap.size) w cs d:=by
  obtain ⟨xs,n,rfl,_,hlen,hxl,hf⟩:=DataW.trod_struct Tryz.underlying175 h
  have hN:Tryz.prog.cellsOf 175=6:=by kernel_rfl
  obtain ⟨c0,c1,c2,c3,c4,c5,rfl⟩:=olist6 (hlen.trans hN)
  have hx: ∀ i,i<3→∃ y,xs[i]?=some y:=fun i hi=>⟨xs[i]'(by rw [hxl];exact hi),by rw [List.getElem?_eq_getElem]⟩
  obtain ⟨y0,e0⟩:=hx 0 (by omega)
  have k0:Tryz.prog.cellsOf 9=1:=by kernel_rfl
  have f0:DataW.trod enc Tryz.prog w 0 spare held n 9 [c0]=some y0:=by
    have h:DataW.trod enc Tryz.prog w 0 spare held n 9 ((([c0,c1,c2,c3,c4,c5]:List Value).drop 0).take (Tryz.prog.cellsOf 9))=some y0:=(hf 0 _ rfl).trans e0
    rw [k0] at h;exact h
  obtain ⟨y1,e1⟩:=hx 1 (by omega)
  have k1:Tryz.prog.cellsOf 173=4:=by kernel_rfl
  have f1:DataW.trod enc Tryz.prog w 0 spare held n 173 [c1,c2,c3,c4]=some y1:=by
    have h:DataW.trod enc Tryz.prog w 0 spare held n 173 ((([c0,c1,c2,c3,c4,c5]:List Value).drop 1).take (Tryz.prog.cellsOf 173))=some y1:=(hf 1 _ rfl).trans e1
    rw [k1] at h;exact h
  obtain ⟨y2,e2⟩:=hx 2 (by omega)
  have k2:Tryz.prog.cellsOf 82=1:=by kernel_rfl
  have f2:DataW.trod enc Tryz.prog w 0 spare held n 82 [c5]=some y2:=by
    have h:DataW.trod enc Tryz.prog w 0 spare held n 82 ((([c0,c1,c2,c3,c4,c5]:List Value).drop 5).take (Tryz.prog.cellsOf 82))=some y2:=(hf 2 _ rfl).trans e2
    rw [k2] at h;exact h
  obtain ⟨t0,ht0,_,hl0⟩:=DataW.trod_string Tryz.underlying9 f0
  simp at ht0
  subst ht0
  obtain ⟨va1,vb1,vc1,vu1,vp1,hv1,hr1,hs1,wa1,wb1,wc1⟩:=verW_of_trod n _ _ f1
  simp at hv1
  obtain ⟨rfl,rfl,rfl,rfl⟩:=hv1
  obtain ⟨t2,hr2⟩:=needs_of_trod n _ _ f2
  exact ⟨⟨t0,va1,vb1,vc1,vp1,t2⟩,⟨_,_,rfl,hl0,RdB.of hr1,hs1,hr2⟩,wa1,wb1,wc1⟩
theorem entrysW_of_trod {H:Type} {enc:TypeId × Value→H} {w:World} {spare:Nat→Bool} {held:Bool} (fuel:Nat) (c:Value) (x:DataW H × List MemPlace)
    (h:DataW.trod enc Tryz.prog w 0 spare held fuel 81 [c]=some x): ∃ xs,RowIn shEntry (· <w.heap.size) w c xs∧∀ d∈xs,wfE d:=by
  obtain ⟨xs,hx⟩:=rows_of_trod shEntryW Tryz.underlying81 (by kernel_rfl) (by decide) (fun n cs y hh=>entryW_of_trod n cs y hh) fuel c x h
  refine ⟨xs,RowIn.as (sh:=shEntryW) (sh':=shEntry) rfl (fun S w cs x h=>h.1) hx,fun d hd=>?_⟩
  obtain ⟨i,hi,rfl⟩:=List.mem_iff_getElem.1 hd
  obtain ⟨cs,h1⟩:=hx.at hi
  exact h1.2
end Go.Proofs.YtlfmefojcmpfeaaGreatDoor
namespace Go.Proofs.YtlfmefojcmpfeaaGreatDoor.fnExactStale
open Go.ChangeShapes Go.WideShapes Go.ChangeAt Go.RowKit
open Go.ChangeMaps (open_string shut_string)
theorem own :ownKnob Tryz.prog.godebug=none:=by kernel_rfl
theorem laidOut :laidOutB Tryz.prog=true:=by kernel_rfl
theorem walk (a0:Value) (z0:List EntryD) (a1:Value) (z1:List PackD) (a2:ByteArray) (w:World) (r0:RowIn shEntry (· <w.heap.size) w a0 z0) (f0: ∀ d∈z0,wfE d) (r1:RowIn shPack (· <w.heap.size) w a1 z1) (w2:a2.size≤maxLen) (m:Int) (hm:w.cell? ⟨2,0,none⟩=some (.int .i64 m)) (hsg: ∀ k (h:k<signsT.length),w.cell? ⟨1,k,none⟩=some (.string signsT[k])) (htab:Lib.TabIs Tryz.prog w "internal/strconv.uint64pow10" .u64 Lib.pow10Tab) (hg:ErrT w):
    Calls Tryz.prog 10 #[a0,a1,.string a2] w fun e w'=>e=.returned (.bool true)∧Below w.heap.size w w':=by
  exact stale_walk a0 a1 z0 z1 a2 w r0 r1 w2 f0 hg ⟨m,hm,hsg⟩ htab
theorem witnessWorld (os:Os) {H:Type} (enc:TypeId × Value→H): ∃ W0:World,W0.os=os∧(W0.forCall (fun _ _=>0) ⟨#[],#[.slice none 0 0,.slice none 0 0,.string ByteArray.empty],[]⟩).variablesB Tryz.prog=true∧
  ((W0.forCall (fun _ _=>0) ⟨#[],#[.slice none 0 0,.slice none 0 0,.string ByteArray.empty],[]⟩).heap.toList.drop Tryz.prog.globals.size).take ((begin Tryz.prog (fun _ _=>0) default).world.heap.size-Tryz.prog.globals.size)=(begin Tryz.prog (fun _ _=>0) default).world.heap.toList.drop Tryz.prog.globals.size∧
  Input.okWideB Tryz.prog (W0.forCall (fun _ _=>0) ⟨#[],#[.slice none 0 0,.slice none 0 0,.string ByteArray.empty],[]⟩) 10 ⟨#[],#[.slice none 0 0,.slice none 0 0,.string ByteArray.empty],[]⟩=true∧
  laidMetH Tryz.prog Rows.fnExactStaleRow.laid (W0.forCall (fun _ _=>0) ⟨#[],#[.slice none 0 0,.slice none 0 0,.string ByteArray.empty],[]⟩).memory∧
  ChangeSpec.sizedB enc Tryz.checked.prog Tryz.f10 (OpenSpec.ofChange Rows.fnExactStaleSpec).bare false (W0.forCall (fun _ _=>0) ⟨#[],#[.slice none 0 0,.slice none 0 0,.string ByteArray.empty],[]⟩).memory #[.slice none 0 0,.slice none 0 0,.string ByteArray.empty] 8=true∧
  ∃ places,DataW.whole enc Tryz.prog (W0.forCall (fun _ _=>0) ⟨#[],#[.slice none 0 0,.slice none 0 0,.string ByteArray.empty],[]⟩).memory Tryz.f10.params.toList Rows.fnExactStaleSpec.vars false (#[.slice none 0 0,.slice none 0 0,.string ByteArray.empty]:Array Value).toList 8=some ([.nil,.nil,.lit (.string [])],[.agg [.lit (.string [61]),.lit (.string [60]),.lit (.string [60,61]),.lit (.string [62]),.lit (.string [62,61]),.lit (.string [126]),.lit (.string [94])]],places):=
 ⟨{ World.holding Tryz.prog os ⟨#[], #[], []⟩ with heap := ((((((((World.holding Tryz.prog os ⟨#[], #[], []⟩).heap).modify 6 (fun | .cells _ t frozen => .cells #[.int .u8 0, .int .u8 1, .int .u8 28, .int .u8 2, .int .u8 29, .int .u8 14, .int .u8 24, .int .u8 3, .int .u8 30, .int .u8 22, .int .u8 20, .int .u8 15, .int .u8 25, .int .u8 17, .int .u8 4, .int .u8 8, .int .u8 31, .int .u8 27, .int .u8 13, .int .u8 23, .int .u8 21, .int .u8 19, .int .u8 16, .int .u8 7, .int .u8 26, .int .u8 12, .int .u8 18, .int .u8 6, .int .u8 11, .int .u8 5, .int .u8 10, .int .u8 9] t frozen | o => o)).modify 7 (fun | .cells _ t frozen => .cells #[.int .u8 0, .int .u8 1, .int .u8 56, .int .u8 2, .int .u8 57, .int .u8 49, .int .u8 28, .int .u8 3, .int .u8 61, .int .u8 58, .int .u8 42, .int .u8 50, .int .u8 38, .int .u8 29, .int .u8 17, .int .u8 4, .int .u8 62, .int .u8 47, .int .u8 59, .int .u8 36, .int .u8 45, .int .u8 43, .int .u8 51, .int .u8 22, .int .u8 53, .int .u8 39, .int .u8 33, .int .u8 30, .int .u8 24, .int .u8 18, .int .u8 12, .int .u8 5, .int .u8 63, .int .u8 55, .int .u8 48, .int .u8 27, .int .u8 60, .int .u8 41, .int .u8 37, .int .u8 16, .int .u8 46, .int .u8 35, .int .u8 44, .int .u8 21, .int .u8 52, .int .u8 32, .int .u8 23, .int .u8 11, .int .u8 54, .int .u8 26, .int .u8 40, .int .u8 15, .int .u8 34, .int .u8 20, .int .u8 31, .int .u8 10, .int .u8 25, .int .u8 14, .int .u8 19, .int .u8 9, .int .u8 13, .int .u8 8, .int .u8 7, .int .u8 6] t frozen | o => o)).modify 5 (fun | .cells _ t frozen => .cells #[.int .u64 1, .int .u64 10, .int .u64 100, .int .u64 1000, .int .u64 10000, .int .u64 100000, .int .u64 1000000, .int .u64 10000000, .int .u64 100000000, .int .u64 1000000000, .int .u64 10000000000, .int .u64 100000000000, .int .u64 1000000000000, .int .u64 10000000000000, .int .u64 100000000000000, .int .u64 1000000000000000, .int .u64 10000000000000000, .int .u64 100000000000000000, .int .u64 1000000000000000000, .int .u64 10000000000000000000] t frozen | o => o)).modify 4 (fun | .cells _ t frozen => .cells #[.int .u8 128, .int .u8 191, .int .u8 160, .int .u8 191, .int .u8 128, .int .u8 159, .int .u8 144, .int .u8 191, .int .u8 128, .int .u8 143, .int .u8 0, .int .u8 0, .int .u8 0, .int .u8 0, .int .u8 0, .int .u8 0, .int .u8 0, .int .u8 0, .int .u8 0, .int .u8 0, .int .u8 0, .int .u8 0, .int .u8 0, .int .u8 0, .int .u8 0, .int .u8 0, .int .u8 0, .int .u8 0, .int .u8 0, .int .u8 0, .int .u8 0, .int .u8 0] t frozen | o => o)).modify 1 (fun | .cells _ t frozen => .cells #[.string ⟨#[61]⟩, .string ⟨#[60]⟩, .string ⟨#[60, 61]⟩, .string ⟨#[62]⟩, .string ⟨#[62, 61]⟩, .string ⟨#[126]⟩, .string ⟨#[94]⟩] t frozen | o => o)).modify 0 (fun | .cells _ t frozen => .cells #[.iface 288 (.agg #[.pointer (some ⟨8, 157, none⟩)])] t frozen | o => o)).modify 3 (fun | .cells _ t frozen => .cells #[.int .u8 240, .int .u8 240, .int .u8 240, .int .u8 240, .int .u8 240, .int .u8 240, .int .u8 240, .int .u8 240, .int .u8 240, .int .u8 240, .int .u8 240, .int .u8 240, .int .u8 240, .int .u8 240, .int .u8 240, .int .u8 240, .int .u8 240, .int .u8 240, .int .u8 240, .int .u8 240, .int .u8 240, .int .u8 240, .int .u8 240, .int .u8 240, .int .u8 240, .int .u8 240, .int .u8 240, .int .u8 240, .int .u8 240, .int .u8 240, .int .u8 240, .int .u8 240, .int .u8 240, .int .u8 240, .int .u8 240, .int .u8 240, .int .u8 240, .int .u8 240, .int .u8 240, .int .u8 240, .int .u8 240, .int .u8 240, .int .u8 240, .int .u8 240, .int .u8 240, .int .u8 240, .int .u8 240, .int .u8 240, .int .u8 240, .int .u8 240, .int .u8 240, .int .u8 240, .int .u8 240, .int .u8 240, .int .u8 240, .int .u8 240, .int .u8 240, .int .u8 240, .int .u8 240, .int .u8 240, .int .u8 240, .int .u8 240, .int .u8 240, .int .u8 240, .int .u8 240, .int .u8 240, .int .u8 240, .int .u8 240, .int .u8 240, .int .u8 240, .int .u8 240, .int .u8 240, .int .u8 240, .int .u8 240, .int .u8 240, .int .u8 240, .int .u8 240, .int .u8 240, .int .u8 240, .int .u8 240, .int .u8 240, .int .u8 240, .int .u8 240, .int .u8 240, .int .u8 240, .int .u8 240, .int .u8 240, .int .u8 240, .int .u8 240, .int .u8 240, .int .u8 240, .int .u8 240, .int .u8 240, .int .u8 240, .int .u8 240, .int .u8 240, .int .u8 240, .int .u8 240, .int .u8 240, .int .u8 240, .int .u8 240, .int .u8 240, .int .u8 240, .int .u8 240, .int .u8 240, .int .u8 240, .int .u8 240, .int .u8 240, .int .u8 240, .int .u8 240, .int .u8 240, .int .u8 240, .int .u8 240, .int .u8 240, .int .u8 240, .int .u8 240, .int .u8 240, .int .u8 240, .int .u8 240, .int .u8 240, .int .u8 240, .int .u8 240, .int .u8 240, .int .u8 240, .int .u8 240, .int .u8 240, .int .u8 240, .int .u8 240, .int .u8 241, .int .u8 241, .int .u8 241, .int .u8 241, .int .u8 241, .int .u8 241, .int .u8 241, .int .u8 241, .int .u8 241, .int .u8 241, .int .u8 241, .int .u8 241, .int .u8 241, .int .u8 241, .int .u8 241, .int .u8 241, .int .u8 241, .int .u8 241, .int .u8 241, .int .u8 241, .int .u8 241, .int .u8 241, .int .u8 241, .int .u8 241, .int .u8 241, .int .u8 241, .int .u8 241, .int .u8 241, .int .u8 241, .int .u8 241, .int .u8 241, .int .u8 241, .int .u8 241, .int .u8 241, .int .u8 241, .int .u8 241, .int .u8 241, .int .u8 241, .int .u8 241, .int .u8 241, .int .u8 241, .int .u8 241, .int .u8 241, .int .u8 241, .int .u8 241, .int .u8 241, .int .u8 241, .int .u8 241, .int .u8 241, .int .u8 241, .int .u8 241, .int .u8 241, .int .u8 241, .int .u8 241, .int .u8 241, .int .u8 241, .int .u8 241, .int .u8 241, .int .u8 241, .int .u8 241, .int .u8 241, .int .u8 241, .int .u8 241, .int .u8 241, .int .u8 241, .int .u8 241, .int .u8 2, .int .u8 2, .int .u8 2, .int .u8 2, .int .u8 2, .int .u8 2, .int .u8 2, .int .u8 2, .int .u8 2, .int .u8 2, .int .u8 2, .int .u8 2, .int .u8 2, .int .u8 2, .int .u8 2, .int .u8 2, .int .u8 2, .int .u8 2, .int .u8 2, .int .u8 2, .int .u8 2, .int .u8 2, .int .u8 2, .int .u8 2, .int .u8 2, .int .u8 2, .int .u8 2, .int .u8 2, .int .u8 2, .int .u8 2, .int .u8 19, .int .u8 3, .int .u8 3, .int .u8 3, .int .u8 3, .int .u8 3, .int .u8 3, .int .u8 3, .int .u8 3, .int .u8 3, .int .u8 3, .int .u8 3, .int .u8 3, .int .u8 35, .int .u8 3, .int .u8 3, .int .u8 52, .int .u8 4, .int .u8 4, .int .u8 4, .int .u8 68, .int .u8 241, .int .u8 241, .int .u8 241, .int .u8 241, .int .u8 241, .int .u8 241, .int .u8 241, .int .u8 241, .int .u8 241, .int .u8 241, .int .u8 241] t frozen | o => o) },
  rfl, by kernel_rfl, by kernel_rfl, by kernel_rfl, laidMetH_of_parts (laidMet_of_run3 8 (by kernel_rfl) (by kernel_rfl) (by kernel_rfl)) (by kernel_rfl), by kernel_rfl, [.cell 1 0, .cell 1 1, .cell 1 2, .cell 1 3, .cell 1 4, .cell 1 5, .cell 1 6], by kernel_rfl⟩
theorem lifted (os:Os) (started:os.Started) (H:Type) (enc:TypeId × Value→H) (F:Stop.Interp):
    ReturnsInHanded {} Tryz.checked os 10 .any ((OpenSpec.ofChange Rows.fnExactStaleSpec).preRow enc Tryz.prog Tryz.f10 Rows.fnExactStaleRow.domain false Rows.fnExactStaleRow.laid) (((OpenSpec.ofChange Rows.fnExactStaleSpec).at F).post enc Tryz.prog Tryz.f10 false true false false):=by
  obtain ⟨W0,hos,hv,hr,hok,hlaid,hsz,places,hx⟩:=witnessWorld os enc
  refine returnsInHanded_of_row (C:=Tryz.checked) (s:=OpenSpec.ofChange Rows.fnExactStaleSpec) own started (by kernel_rfl) Tryz.func10
    (witness_row_at (enc := enc) (C := Tryz.checked) false W0 #[.slice none 0 0, .slice none 0 0, .string ByteArray.empty] hos hv hr hok
      (OpenSpec.preRow_of_cond 8 hx (by kernel_rfl) (fun k hk => by cases hk) hsz hlaid)) ?_
  intro W base args ds gs before hval0 hW _ _ _ hL hSh _
  have hval: ∀ (j:Nat) t v,Tryz.f10.params[j]?=some t→args[j]?=some v→Value.okWide Tryz.prog W .any base t v:=hval0
  have hW':=hW
  obtain ⟨p,q,hA0,hV,rfl,hfz,hnd⟩:=hW
  have hA:DataW.TrodAll enc Tryz.prog W 0 (fun _=>true) true Tryz.f10.params.toList args.toList ds p:=hA0
  rw [Tryz.params10] at hA hval
  obtain ⟨v0,vs0,d0,ds0,p0,q0,hargs,rfl,rfl,h0,r0⟩:=trodAll_cons hA
  obtain ⟨v1,vs1,d1,ds1,p1,q1,rfl,rfl,rfl,h1,r1⟩:=trodAll_cons r0
  obtain ⟨v2,vs2,d2,ds2,p2,q2,rfl,rfl,rfl,h2,r2⟩:=trodAll_cons r1
  obtain ⟨rfl,rfl,rfl⟩:=trodAll_nil r2
  obtain rfl:args=#[v0,v1,v2]:=by cases args;simp_all
  have hV1:=hV
  obtain ⟨_,_,_,_,dv,_,rfl,_⟩:=trodVars_one hV
  obtain ⟨m,hm⟩:=bound_shaped hSh
  obtain ⟨a0,len0,cap0,rfl⟩:=okWide_slice Tryz.underlying81 (hval 0 81 v0 rfl rfl)
  have k0:=h0
  have lt0: ∀ x∈p0,x.block<W.heap.size:=by obtain ⟨m,hm⟩:=k0;exact DataW.trod_lt m _ _ _ hm
  obtain ⟨z0,t0,f0⟩: ∃ xs,RowIn shEntry (· <W.heap.size) W (.slice a0 len0 cap0) xs∧∀ d∈xs,wfE d:=by
    obtain ⟨fuel,hf⟩:=h0
    exact entrysW_of_trod fuel _ _ hf
  obtain ⟨a1,len1,cap1,rfl⟩:=okWide_slice Tryz.underlying92 (hval 1 92 v1 rfl rfl)
  have k1:=h1
  have lt1: ∀ x∈p1,x.block<W.heap.size:=by obtain ⟨m,hm⟩:=k1;exact DataW.trod_lt m _ _ _ hm
  obtain ⟨z1,t1⟩: ∃ xs,RowIn shPack (· <W.heap.size) W (.slice a1 len1 cap1) xs:=by
    obtain ⟨fuel,hf⟩:=h1
    exact packs_of_trod fuel _ _ hf
  obtain ⟨a2,rfl,rfl,rfl,w2⟩:=open_string Tryz.underlying9 (hval 2 9 v2 rfl rfl) h2
  clear hA0 hval0
  refine (walk _ z0 _ z1 a2 W t0 f0 t1 w2 m hm (signs_laid hL) (powers_laid hL) (handle_of_laid hL)).mono fun e W' ⟨he,bel⟩=>?_
  subst he
  exact ⟨_,rfl,_,_,_,[],_,_,hW',trodAll_mk1 (shut_bool Tryz.underlying4 _),(trodAll_cons_mk (Below.trod laidOut (by kernel_rfl) (of_decide_eq_true (by kernel_rfl)) k0 bel lt0) (trodAll_cons_mk (Below.trod laidOut (by kernel_rfl) (of_decide_eq_true (by kernel_rfl)) k1 bel lt1) (trodAll_cons_mk (shut_string Tryz.underlying9 w2) trodAll_mk0))),Below.trodVars laidOut bel (by kernel_rfl) hV1,bel.frame _,fun h=>by cases h⟩
end Go.Proofs.YtlfmefojcmpfeaaGreatDoor.fnExactStale
namespace Go.Proofs.YtlfmefojcmpfeaaGreatDoor.fnExactStale
theorem band {a b:Bool} (h:a=true) (k:b=true):(a&&b)=true:=by rw [h,k];rfl
theorem closed :joinedFacts Tryz.prog 10 Tryz.f10 (OpenSpec.ofChange Rows.fnExactStaleSpec).bare Rows.fnExactStaleRow=true:=by
 unfold joinedFacts
 repeat' (with_reducible refine band ?_ ?_)
 all_goals (as_aux_lemma=>kernel_rfl)
theorem wfT :Rows.fnExactStaleRow.wfByText (OpenSpec.ofChange Rows.fnExactStaleSpec)=true:=by kernel_rfl
theorem goesT :false=Rows.fnExactStaleRow.goesBy Tryz.prog:=by kernel_rfl
end Go.Proofs.YtlfmefojcmpfeaaGreatDoor.fnExactStale
