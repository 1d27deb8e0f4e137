/-
  Contracts for the walks and pure facts, several texts in one: each theorem says what it proves, and under which conditions.
-/
import Derived.Test.YtlfmefojcmpfeaaGreatDoorUT
import Derived.Test.YtlfmefojcmpfeaaGreatDoorU20
import Derived.Test.YtlfmefojcmpfeaaGreatDoorU39
set_option linter.unusedSimpArgs false
set_option linter.unusedVariables false
set_option maxHeartbeats 16000000
set_option maxRecDepth 100000
namespace Go.Proofs.YtlfmefojcmpfeaaGreatDoor
open Go.RowKit
theorem kdec_len : ∀ n,(Lib.decDigits n).length≤n+1:=by
 intro n
 induction n using Nat.strongRecOn with
 |_ n ih=>
  rw [Lib.decDigits]
  split
  ·simp
  ·have:=ih (n / 10) (by omega)
   simp only [List.length_append,List.length_cons,List.length_nil]
   omega
def digVal (l:List UInt8):Nat:=l.foldl (fun a u=>a*10+(u.toNat-48)) 0
theorem digVal_dec : ∀ n,digVal (Lib.decDigits n)=n:=by
 intro n
 induction n using Nat.strongRecOn with
 |_ n ih=>
  rw [Lib.decDigits]
  split
  ·simp only [digVal,List.foldl_cons,List.foldl_nil,UInt8.toNat_ofNat']
   omega
  ·have h:=ih (n / 10) (by omega)
   unfold digVal at h ⊢
   rw [List.foldl_append,h]
   simp only [List.foldl_cons,List.foldl_nil,UInt8.toNat_ofNat']
   omega
theorem dec_inj {n m:Nat} (h:Lib.decDigits n=Lib.decDigits m):n=m:=by
 rw [←digVal_dec n,h,digVal_dec]
theorem dec_no : ∀ n,(58:UInt8)∉Lib.decDigits n:=by
 intro n
 induction n using Nat.strongRecOn with
 |_ n ih=>
  rw [Lib.decDigits]
  split
  ·intro h
   simp only [List.mem_cons,List.not_mem_nil,or_false] at h
   have:=congrArg UInt8.toNat h
   simp only [UInt8.toNat_ofNat'] at this
   have e:(58:UInt8).toNat=58:=rfl
   omega
  ·intro h
   rcases List.mem_append.1 h with h|h
   ·exact ih (n / 10) (by omega) h
   ·simp only [List.mem_cons,List.not_mem_nil,or_false] at h
    have:=congrArg UInt8.toNat h
    simp only [UInt8.toNat_ofNat'] at this
    have e:(58:UInt8).toNat=58:=rfl
    omega
theorem cut_inj : ∀ {x x' y y':List UInt8},(58:UInt8)∉x→(58:UInt8)∉x'→x++58::y=x'++58::y'→x=x'∧y=y'
 |[],[],y,y',_,_,h=>by simpa using h
 |[],b::x',y,y',_,h2,h=>by
  simp only [List.nil_append,List.cons_append,List.cons.injEq] at h
  exact absurd (by rw [h.1];simp) h2
 |a::x,[],y,y',h1,_,h=>by
  simp only [List.nil_append,List.cons_append,List.cons.injEq] at h
  exact absurd (by rw [←h.1];simp) h1
 |a::x,b::x',y,y',h1,h2,h=>by
  simp only [List.cons_append,List.cons.injEq] at h
  obtain ⟨e1,e2⟩:=cut_inj (fun hh=>h1 (List.mem_cons_of_mem _ hh)) (fun hh=>h2 (List.mem_cons_of_mem _ hh)) h.2
  exact ⟨by rw [h.1,e1],e2⟩
def pieceL (s:ByteArray):List UInt8:=Lib.decDigits s.size++58::s.data.toList
def preL (ps:List ByteArray):List UInt8:=ps.flatMap pieceL
theorem preL_inj : ∀ {a b:List ByteArray},preL a=preL b→a=b
 |[],[],_=>rfl
 |[],t::b,h=>by simp [preL,pieceL] at h
 |s::a,[],h=>by simp [preL,pieceL] at h
 |s::a,t::b,h=>by
  simp only [preL,List.flatMap_cons,pieceL,List.append_assoc,List.cons_append] at h
  obtain ⟨e1,e2⟩:=cut_inj (dec_no _) (dec_no _) h
  have hs:=dec_inj e1
  obtain ⟨e3,e4⟩:=List.append_inj e2 (by simpa using hs)
  have e5:s=t:=ByteArray.ext (Array.toList_inj.1 e3)
  rw [e5,preL_inj e4]
theorem preL_take (ps:List ByteArray) (k:Nat) (h:k<ps.length):preL (ps.take (k+1))=preL (ps.take k)++pieceL ps[k]:=by
 unfold preL
 rw [List.take_succ_eq_append_getElem h,List.flatMap_append]
 simp only [List.flatMap_cons,List.flatMap_nil,List.append_nil]
theorem pieceL_len (s:ByteArray):(pieceL s).length≤2*s.size+2:=by
 have:=kdec_len s.size
 simp only [pieceL,List.length_append,List.length_cons,Array.length_toList]
 have e:s.data.size=s.size:=rfl
 omega
theorem preL_len : ∀ ps:List ByteArray,(preL ps).length≤2*bulkS ps
 |[]=>by simp [preL]
 |s::ps=>by
  have h1:=preL_len ps
  have h2:=pieceL_len s
  have e:preL (s::ps)=pieceL s++preL ps:=by simp [preL]
  rw [e,List.length_append]
  unfold bulkS at*
  simp only [List.length_cons,List.map_cons,List.sum_cons]
  omega
theorem preL_take_len (ps:List ByteArray) (k:Nat):(preL (ps.take k)).length≤2*bulkS ps:=by
 have h1:=preL_len (ps.take k)
 have h2:=sum_take_le ps k
 have h3:(ps.take k).length≤ps.length:=by simp;omega
 unfold bulkS at*
 omega
theorem byte_src (w:World) (c:Int): ∀ j u,([.int .u8 c]:List Value)[j]?=some u→(w.alloc (.cells #[.int .u8 c] 5)).cell? ((⟨w.heap.size,0,none⟩:Addr).add j)=some u:=fun j u hu=>by
 have e:((⟨w.heap.size,0,none⟩:Addr).add j)=⟨w.heap.size,j,none⟩:=by unfold Addr.add;split<;>simp_all
 rw [e,vblk_cell (vheap_new _ _) j]
 simpa using hu
theorem writeByte_c (B b:Nat) (bs:List Value) (c:Int) (w:World) (h:Lib.IsBuilder 155 5 B b bs w) (hlen:bs.length+1≤140737488355328) (hBw:B≤w.heap.size):
    Calls Tryz.prog 218 #[.pointer (some ⟨b,0,none⟩),.int .u8 c] w fun e w'=>e=.returned .nilIface∧(Lib.BuilderAt 155 5 B b (.pointer (some ⟨b,0,none⟩)) (bs++[.int .u8 c]) w'∧Below B w w'):=by
  obtain ⟨i0,hi,hz0,hz1,hz2⟩:=info_parts info5
  go_enter Tryz.func218,Tryz.ntmps218
  go_wp2_with (first
    | (go_at_call 191
       refine (check_c B b bs _ h).mono ?_
       rintro e w1 ⟨rfl, h1, hb1⟩
       obtain ⟨hB, v, hbk, hown, hne⟩ := h1
       have c0 : w1.cell? ⟨b, 0, none⟩ = some (.pointer (some ⟨b, 0, none⟩)) := by rw [Lib.cell_of_heap hbk]; rfl
       have c1 : w1.cell? ⟨b, 1, none⟩ = some v := by rw [Lib.cell_of_heap hbk]; rfl)
    | (at_builtin; refine wpList_append_own _ rfl _ _ 22 rfl B 5 i0 (.int .u8 0) 1 1 Tryz.underlying22 hi hz0 hz1 hz2 rfl (by decide) _ bs.length bs rfl (hown.alloc _) ⟨w1.heap.size, 0, none⟩ 1 1 [.int .u8 c] rfl rfl (byte_src _ _) (by simp [Value.oneCell']) (by unfold maxLen; omega) (by omega) (by have := hb1.size; simp; omega) ?_))
  intro v' w2 hown' hgrow hnil
  have hlt:b<w1.heap.size:=(Array.getElem?_eq_some_iff.1 hbk).1
  have hb2:w2.heap[b]?=some (.cells #[.pointer (some ⟨b,0,none⟩),v] 155 (0,0)):=by
    rw [hgrow.block b (by simp;omega) (fun e=>hne e.symm),vheap_old _ _ hlt]
    exact hbk
  have d0:w2.cell? ⟨b,0,none⟩=some (.pointer (some ⟨b,0,none⟩)):=by rw [Lib.cell_of_heap hb2];rfl
  have d1:w2.cell? ⟨b,1,none⟩=some v:=by rw [Lib.cell_of_heap hb2];rfl
  have f1:w2.frozen? ⟨b,1,none⟩=false:=Lib.frozen_of_heap hb2 1
  have hex: ∃ ao cap,v'=.slice ao (bs.length+1) cap:=by
    rcases hown'.2 with ⟨hv,h0⟩|⟨g,cap,cur,hv,_⟩
    · exact ⟨none,0,by rw [hv,h0]⟩
    · exact ⟨_,cap,hv⟩
  have hbA:=hb1.alloc (Nat.le_trans hBw hb1.size) (.cells #[.int .u8 c] 5)
  have hbel:Below B w (w2.setCell ⟨b,1,none⟩ v'):=(hbA.grown hgrow (Nat.le_trans hBw hbA.size) (fun k hk=>(hown.lt k hk).1)).setCell (p:=⟨b,1,none⟩) hB _
  have hput:Lib.BuilderAt 155 5 B b (.pointer (some ⟨b,0,none⟩)) (bs++[.int .u8 c]) (w2.setCell ⟨b,1,none⟩ v'):=
    Lib.BuilderAt.put hB hb2 (bs':=bs++[.int .u8 c]) (by rw [List.length_append];exact hown') (by decide)
  obtain ⟨ao,cap,hv⟩:=hex
  subst hv
  clear hnil
  go_wp2
  go_ret
  exact ⟨rfl,hput,hbel⟩
theorem builder_below {T e:TypeId} {B b:Nat} {bs:List Value} {w w':World} (h:Lib.IsBuilder T e B b bs w) (k:Below w.heap.size w w'):Lib.IsBuilder T e B b bs w':=by
 rcases h with ⟨h1,v,h2,h3,h4⟩|⟨h1,v,h2,h3,h4⟩
 ·exact .inl ⟨h1,v,box_below h2 k,owns_of_below h3 k,h4⟩
 ·exact .inr ⟨h1,v,box_below h2 k,owns_of_below h3 k,h4⟩
theorem cells_piece (l:List UInt8) (s:ByteArray):((Lib.byteCells l++Lib.strCells ⟨(Lib.decDigits s.size).toArray⟩)++[.int .u8 58])++Lib.strCells s=Lib.byteCells (l++pieceL s):=by
 simp [Lib.byteCells,Lib.strCells,pieceL]
theorem preKey_c (v:Value) (ps:List ByteArray) (w:World) (hv:Reads w v (strsV ps)) (hb:bulkS ps≤1048576) (htab:Lib.TabIs Tryz.prog w "internal/strconv.uint64pow10" .u64 Lib.pow10Tab):
  Calls Tryz.prog 154 #[v] w fun e w'=>e=.returned (.string ⟨(preL ps).toArray⟩)∧Below w.heap.size w w':=by
 obtain ⟨a,cap,rfl,_,hc⟩:=reads_strs hv
 clear hv
 have hn:ps.length≤1048576:=by unfold bulkS at hb;omega
 have hfb:=fresh_builder w
 have hsz: ∀ t∈ps,t.size≤1048576:=fun t ht=>by
  have:t.size≤(ps.map ByteArray.size).sum:=List.single_le_sum_natC ht
  unfold bulkS at hb;omega
 have htab0:=hidden htab
 clear htab
 go_enter Tryz.func154,Tryz.ntmps154
 go_wp2
 go_loopw [8] (fun vi wr=>∃ (k:Nat),k≤ps.length∧vi=.int .i64 (k:Int)∧Lib.IsBuilder 155 5 w.heap.size w.heap.size (Lib.byteCells (preL (ps.take k))) wr∧Below w.heap.size w wr) (fun vi _=>ps.length-(intOf vi).toNat)
 case atStart=>exact ⟨0,Nat.zero_le _,rfl,(by rw [List.take_zero];exact hfb),(Below.refl _ _).alloc (Nat.le_refl _) _⟩
 case round=>
  obtain ⟨k,hk,rfl,hB,hbr⟩:=hrel
  clear hfb
  have hlk:=preL_take_len ps k
  by_cases hlt':k<ps.length
  ·rcases hc with rfl|⟨b,off,rfl,hlt,hc⟩
   ·simp at hlt'
   have hcx:wr.cell? ⟨b,off+k,none⟩=some (.string ps[k]):=(hbr.cell (p:=⟨b,off+k,none⟩) hlt).trans (hc k hlt')
   have hki:(k:Int)<(ps.length:Int):=by omega
   have hu:=hsz ps[k] (List.getElem_mem hlt')
   have HT:Hid (((Lib.byteCells (preL (ps.take k))++Lib.strCells ⟨(Lib.decDigits ps[k].size).toArray⟩)++[.int .u8 58])++Lib.strCells ps[k]=Lib.byteCells (preL (ps.take (k+1)))):=by show _=_;rw [cells_piece, ←preL_take]
   have hdl:=kdec_len ps[k].size
   obtain ⟨t,ht⟩: ∃ t,t=ps[k]:=⟨_,rfl⟩
   rw [←ht] at hcx hu HT hdl
   have HI:=fun w1 h=>Tryz.strconv_Itoa (t.size:Int) (by omega) (by omega) w1 h
   rw [Lib.itoa_nonneg] at HI
   replace HI:=hidden HI
   obtain ⟨B0,hB0⟩: ∃ B0,B0=Lib.byteCells (preL (ps.take k)):=⟨_,rfl⟩
   have hl0:B0.length≤2097152:=by rw [hB0];simp only [Lib.byteCells,List.length_map];omega
   rw [←hB0] at hB HT
   have hl1:(Lib.strCells ⟨(Lib.decDigits t.size).toArray⟩).length≤1048577:=by rw [Lib.strCells_length];show (Lib.decDigits t.size).toArray.size≤_;simp;omega
   have hd1:(⟨(Lib.decDigits t.size).toArray⟩:ByteArray).size≤1048577:=by show (Lib.decDigits t.size).toArray.size≤_;simp;omega
   obtain ⟨D,hD⟩: ∃ D:ByteArray,D=⟨(Lib.decDigits t.size).toArray⟩:=⟨_,rfl⟩
   rw [←hD] at HT HI hl1 hd1
   clear hc ht hB0 hD hdl hsz hlk
   go_wp2_with fail
   go_at_call 217
   refine (HI.out _ (tabIs_below hbr htab0.out)).mono ?_
   rintro e w1 ⟨rfl,q1,os1,hw1⟩
   have b1:Below wr.heap.size wr w1:=by rw [hw1];exact below_grow wr q1 os1
   clear hw1
   have k1:Below w.heap.size w w1:=hbr.trans (b1.mono hbr.size)
   have hB1:=builder_below hB b1
   go_wp2_with fail
   go_at_call 122
   refine (write_c w.heap.size w.heap.size _ D _ hB1 (by omega) k1.size).mono ?_
   rintro e w2 ⟨rfl,hB2,b2⟩
   have k2:=k1.trans b2
   go_wp2_with fail
   go_at_call 218
   refine (writeByte_c w.heap.size w.heap.size _ 58 _ (.inr hB2) (by rw [List.length_append];omega) k2.size).mono ?_
   rintro e w3 ⟨rfl,hB3,b3⟩
   have k3:=k2.trans b3
   go_wp2_with fail
   go_at_call 122
   refine (write_c w.heap.size w.heap.size _ t _ (.inr hB3) (by rw [List.length_append,List.length_append];simp only [List.length_cons,List.length_nil];omega) k3.size).mono ?_
   rintro e w4 ⟨rfl,hB4,b4⟩
   rw [HT.out] at hB4
   go_wp2_with fail
   go_roundw
   case rel=>exact ⟨k+1,by omega,by go_num,.inr hB4,k3.trans b4⟩
   case measure=>simp [intOf];omega
  ·have he:k=ps.length:=by omega
   subst he
   rw [List.take_length] at hB
   clear hc hlk
   go_wp2_with (go_at_call 124;refine (Tryz.Builder_String_any w.heap.size w.heap.size _ _ hB hbr.size).mono ?_;rintro e w1 ⟨rfl,b1⟩)
   go_ret
   exact ⟨rfl,hbr.trans b1⟩
theorem entryKey_c (n:ByteArray) (a b c:Int) (u:Value) (ps:List ByteArray) (w:World) (hu:Reads w u (strsV ps)) (hb:bulkS ps≤1048576) (htab:Lib.TabIs Tryz.prog w "internal/strconv.uint64pow10" .u64 Lib.pow10Tab):
  Calls Tryz.prog 81 #[.string n,.agg #[.int .i64 a,.int .i64 b,.int .i64 c,u]] w fun e w'=>e=.returned (.agg #[.string n,.int .i64 a,.int .i64 b,.int .i64 c,.string ⟨(preL ps).toArray⟩])∧Below w.heap.size w w':=by
 have hb2: ∀ A R,Below w.heap.size w ((w.alloc A).alloc R):=fun A R=>((Below.refl _ _).alloc (Nat.le_refl _) _).alloc (by simp) _
 have HP': ∀ w1,Below w.heap.size w w1→Calls Tryz.prog 154 #[u] w1 fun e w'=>e=.returned (.string ⟨(preL ps).toArray⟩)∧Below w1.heap.size w1 w':=fun w1 h=>preKey_c u ps w1 (hu.below h) hb (tabIs_below h htab)
 obtain ⟨q,cap,rfl,_,_⟩:=reads_strs hu
 clear hu htab
 obtain ⟨P,hP⟩: ∃ P:ByteArray,P=⟨(preL ps).toArray⟩:=⟨_,rfl⟩
 simp only [←hP] at HP'
 rw [←hP]
 clear hP
 obtain ⟨hAz,hRz⟩:=two_boxes (w:=w) (.cells #[.int .i64 a,.int .i64 b,.int .i64 c,.slice q ps.length cap] 30 (0,0)) (.cells #[.string ⟨#[]⟩,.int .i64 0,.int .i64 0,.int .i64 0,.string ⟨#[]⟩] 113 (0,0))
 have hwz:=hb2 (.cells #[.int .i64 a,.int .i64 b,.int .i64 c,.slice q ps.length cap] 30 (0,0)) (.cells #[.string ⟨#[]⟩,.int .i64 0,.int .i64 0,.int .i64 0,.string ⟨#[]⟩] 113 (0,0))
 have hsz:((w.alloc (.cells #[.int .i64 a,.int .i64 b,.int .i64 c,.slice q ps.length cap] 30 (0,0))).alloc (.cells #[.string ⟨#[]⟩,.int .i64 0,.int .i64 0,.int .i64 0,.string ⟨#[]⟩] 113 (0,0))).heap.size=w.heap.size+2:=by simp
 go_enter Tryz.func81,Tryz.ntmps81
 go_wp2_with fail
 obtain ⟨wz,hW⟩: ∃ wz,wz=(w.alloc (.cells #[.int .i64 a,.int .i64 b,.int .i64 c,.slice q ps.length cap] 30 (0,0))).alloc (.cells #[.string ⟨#[]⟩,.int .i64 0,.int .i64 0,.int .i64 0,.string ⟨#[]⟩] 113 (0,0)):=⟨_,rfl⟩
 rw [←hW] at hAz hRz hwz hsz
 rw [←hW]
 clear hW
 have HP:Hid (∀ w1,Below wz.heap.size wz w1→Calls Tryz.prog 154 #[.slice q ps.length cap] w1 fun e w'=>e=.returned (.string P)∧Below w1.heap.size w1 w'):=fun w1 h=>HP' w1 (hwz.trans (h.mono (by omega)))
 have h0:Below wz.heap.size wz wz.drew:=(Below.refl _ _).drew
 have KEEP:Hid (∀ w1,Below wz.heap.size wz w1→w1.cell? ⟨w.heap.size,0,none⟩=some (.int .i64 a)∧w1.cell? ⟨w.heap.size,1,none⟩=some (.int .i64 b)∧w1.cell? ⟨w.heap.size,2,none⟩=some (.int .i64 c)∧w1.cell? ⟨w.heap.size,3,none⟩=some (.slice q ps.length cap)):=fun w1 h=>by
  have hA:=(h.block w.heap.size (by omega)).trans hAz
  exact ⟨vblk_cell hA 0,vblk_cell hA 1,vblk_cell hA 2,vblk_cell hA 3⟩
 clear HP'
 refine wp_region_held_drew (S:=(fun w1=>w1.cell? ⟨w.heap.size,0,none⟩=some (.int .i64 a)∧w1.cell? ⟨w.heap.size,1,none⟩=some (.int .i64 b)∧w1.cell? ⟨w.heap.size,2,none⟩=some (.int .i64 c)∧w1.cell? ⟨w.heap.size,3,none⟩=some (.slice q ps.length cap))) (by kernel_rfl) ?SR10 (fun hHeld=>?_)
 case SR10=>(first|(with_reducible exact KEEP.out _ h1)|(with_reducible exact KEEP.out _ h0))
 refine tk 0 hHeld (h:=?_)
 refine tk 1 hHeld (h:=?_)
 refine tk 2 hHeld (h:=?_)
 refine tk 3 hHeld (h:=?_)
 refine tk 4 hHeld (h:=?_)
 refine tk 5 hHeld (h:=?_)
 refine tk 6 hHeld (h:=?_)
 refine tk 7 hHeld (h:=?_)
 refine tk 8 hHeld (h:=?_)
 refine wpAnyH_ready (rs:=[9]) (by kernel_rfl) (by simp) ?_
 refine AllReadyH.cons rfl (fun K hK=>?_) AllReadyH.nil
 go_simp
 go_wp2_with (go_at_call 154;refine (HP.out _ h0).mono ?_;rintro e w1 ⟨rfl,b1⟩;have h1:Below wz.heap.size wz w1:=h0.trans (b1.mono h0.size))
 clear hHeld
 refine hK.out _ _ ?SR110 (fun hHeld=>?_)
 case SR110=>((try dsimp only);first|(with_reducible exact KEEP.out _ h1)|(with_reducible exact KEEP.out _ h0))
 clear hK K
 refine tk 10 hHeld (h:=?_)
 have hR3:=(h1.block (w.heap.size+1) (by omega)).trans hRz
 have fy:=vblk_frozen hR3
 have y0:=vblk_cell hR3 0
 have y1:=vblk_cell hR3 1
 have y2:=vblk_cell hR3 2
 have y3:=vblk_cell hR3 3
 have y4:=vblk_cell hR3 4
 simp only [List.getElem?_toArray,List.getElem?_cons_succ,List.getElem?_cons_zero] at y0 y1 y2 y3 y4
 refine wpAnyH_ready (rs:=[11]) (by kernel_rfl) (by simp) ?_
 refine AllReadyH.cons rfl (fun K hK=>?_) AllReadyH.nil
 go_simp
 clear hHeld
 refine hK.out _ _ ?UR1_11 (fun hHeld=>?_)
 case UR1_11=>(have hA3:=(h1.block w.heap.size (by omega)).trans hAz;exact ⟨vblk_cell (cells_put (cells_put (cells_put (cells_put (cells_put hA3 (by omega) _ _) (by omega) _ _) (by omega) _ _) (by omega) _ _) (by omega) _ _) 0,vblk_cell (cells_put (cells_put (cells_put (cells_put (cells_put hA3 (by omega) _ _) (by omega) _ _) (by omega) _ _) (by omega) _ _) (by omega) _ _) 1,vblk_cell (cells_put (cells_put (cells_put (cells_put (cells_put hA3 (by omega) _ _) (by omega) _ _) (by omega) _ _) (by omega) _ _) (by omega) _ _) 2,vblk_cell (cells_put (cells_put (cells_put (cells_put (cells_put hA3 (by omega) _ _) (by omega) _ _) (by omega) _ _) (by omega) _ _) (by omega) _ _) 3⟩)
 clear hK K
 try simp only [Act.put,List.getElem_toArray,List.getElem_cons_zero,List.getElem_cons_succ,List.setIfInBounds_toArray,List.set_cons_zero,List.set_cons_succ]
 refine wpAnyH_done (by kernel_rfl) ?_ _
 clear HP KEEP b1 h0 hAz hRz hHeld
 go_wp2_with fail
 refine bodyPost_ret (v:=.agg #[.string n,.int .i64 a,.int .i64 b,.int .i64 c,.string P]) (by simp [results,Tryz.results81,go_sem,y0,y1,y2,y3,y4]) rfl ⟨rfl,?_⟩
 (repeat (refine Below.setCell ?_ (by simp) _))
 exact hwz.trans (h1.mono (by omega))
end Go.Proofs.YtlfmefojcmpfeaaGreatDoor
namespace Go.Proofs.YtlfmefojcmpfeaaGreatDoor
open Go.RowKit Go.Maps
theorem MapE_made (w:World):MapE (w.alloc (.map #[] 0)) w.heap.size 0 (fun _=>none):=⟨_,World.ownsMap_made w _ _ _,fun k _=>⟨rfl,fun f h=>by cases h⟩⟩
section
variable (w:World) {ops:Array Oper} {rest:List Oper} {o:Oper} {a:Act} {Q:Exit→Act→World→Prop}
theorem wpList_lookup_E (hg:o.guard=none) (mo x:Operand) (hop:o.op=Op.lookup 110 mo x true) (b n:Nat) (m:KeyE→Option Value) (hm:a.eval mo=.map (some b)) (hown:MapE w b n m) (k:KeyE) (hx:a.eval x=k.val) (hk:k.ok)
  (hK:wpList Tryz.prog ops Q rest (a.put o.dst (.tuple #[(m k).getD zeroE,.bool (m k).isSome])) w):wpList Tryz.prog ops Q (o::rest) a w:=by
 refine wpList_plain hg fun K' hK'=>?_
 have hrun:=hown.look hk
 unfold Oper.wp
 simp [execOp,hop,hm,hx,hrun,Result.andThen]
 exact hK' _ _ hK
theorem wpList_mapUpdate_E (hg:o.guard=none) (mo x v:Operand) (hop:o.op=Op.mapUpdate 110 mo x v) (b n:Nat) (m:KeyE→Option Value) (hm:a.eval mo=.map (some b)) (hown:MapE w b n m) (hn:n<maxLen) (k:KeyE) (hx:a.eval x=k.val) (hk:k.ok)
  (val:Value) (hv:a.eval v=val) (hK: ∀ w',MapE w' b (n+1) (fun q=>open Classical in if q=k then some val else m q)→w.grownBy w' (some b)→wpList Tryz.prog ops Q rest (a.put o.dst undef) w'):wpList Tryz.prog ops Q (o::rest) a w:=by
 obtain ⟨D,h,h2⟩:=hown
 refine wpList_mapUpdate_own w hg mo x v 110 hop 113 35 keyedE Tryz.underlying110 selfElem b n D hm h hn _ _ k.lit hx hv (KeyE.key hk) (.held val) [] rfl (fun w' h' hg'=>hK w' ⟨_,h',fun q hq=>?_⟩ hg')
 dsimp only
 by_cases e:q=k
 ·subst e
  rw [if_pos rfl]
  exact ⟨Maps.has_put_same h.isMap (keyedE.key (KeyE.key hk)) _,fun g hg z=>by rw [Maps.atKey_put_same h.isMap (keyedE.key (KeyE.key hk))];cases hg;rfl⟩
 ·have hne:q.lit≠k.lit:=fun h=>e (KeyE.inj hq hk h)
  rw [if_neg e,Maps.has_put_other hne]
  exact ⟨(h2 q hq).1,fun g hg z=>by rw [Maps.atKey_put_other hne];exact (h2 q hq).2 g hg z⟩
end
end Go.Proofs.YtlfmefojcmpfeaaGreatDoor
namespace Go.Proofs.YtlfmefojcmpfeaaGreatDoor
open Go.RowKit
def wfE (d:EntryD):Prop:=(Lit.int .i64 d.vA).wf=true∧(Lit.int .i64 d.vB).wf=true∧(Lit.int .i64 d.vC).wf=true
def keyD (d:EntryD):KeyE:=⟨d.name,d.vA,d.vB,d.vC,⟨(preL d.vP).toArray⟩⟩
def sameK (k:KeyE) (d:EntryD):Bool:=decide (d.name=k.n)&&(decide (d.vA=k.a)&&(decide (d.vB=k.b)&&(decide (d.vC=k.c)&&decide ((⟨(preL d.vP).toArray⟩:ByteArray)=k.p))))
theorem sameK_iff {k:KeyE} {d:EntryD}:sameK k d=true↔k=keyD d:=by
 obtain ⟨n,a,b,c,p⟩:=k
 simp only [sameK,keyD,Bool.and_eq_true,decide_eq_true_eq,KeyE.mk.injEq]
 constructor
 ·rintro ⟨rfl,rfl,rfl,rfl,rfl⟩;exact ⟨rfl,rfl,rfl,rfl,rfl⟩
 ·rintro ⟨rfl,rfl,rfl,rfl,rfl⟩;exact ⟨rfl,rfl,rfl,rfl,rfl⟩
def firstK (xs:List EntryD) (k:KeyE):Option Nat:=xs.findIdx? (sameK k)
theorem firstK_step (xs:List EntryD) (k:Nat) (h:k<xs.length) (q:KeyE):firstK (xs.take (k+1)) q=(firstK (xs.take k) q).or (if sameK q xs[k]=true then some k else none):=by
 unfold firstK
 rw [List.take_succ_eq_append_getElem h,List.findIdx?_append]
 congr 1
 simp only [List.findIdx?_cons,List.findIdx?_nil,List.length_take]
 by_cases e:sameK q xs[k]=true
 ·simp [e];omega
 ·simp [e]
theorem firstK_lt {xs:List EntryD} {q:KeyE} {i:Nat} (h:firstK xs q=some i): ∃ hi:i<xs.length,keyD xs[i]=q:=by
 obtain ⟨h1,h2,_⟩:=List.findIdx?_eq_some_iff_getElem.1 h
 exact ⟨h1,(sameK_iff.1 h2).symm⟩
theorem keyD_ok {d:EntryD} (hn:d.name.size≤maxLen) (hw:wfE d) (hb:bulkS d.vP≤1048576):(keyD d).ok:=by
 refine ⟨hn,hw.1,hw.2.1,hw.2.2,?_⟩
 have:=preL_len d.vP
 show (preL d.vP).toArray.size≤_
 unfold maxLen
 simp;omega
section
variable (w:World) {ops:Array Oper} {rest:List Oper} {o:Oper} {a:Act} {Q:Exit→Act→World→Prop}
theorem wpList_lookup_noE (hg:o.guard=none) (mo x:Operand) (hop:o.op=Op.lookup 110 mo x true) (b n:Nat) (m:KeyE→Option Value) (hm:a.eval mo=.map (some b)) (hown:MapE w b n m) (k:KeyE) (hx:a.eval x=k.val) (hk:k.ok) (hmk:m k=none)
  (hK:wpList Tryz.prog ops Q rest (a.put o.dst (.tuple #[.agg #[.string ⟨#[]⟩,.int .i64 0,.int .i64 0,.int .i64 0,.slice none 0 0,.slice none 0 0],.bool false])) w):wpList Tryz.prog ops Q (o::rest) a w:=
 wpList_lookup_E w hg mo x hop b n m hm hown k hx hk (by rw [hmk];exact hK)
theorem wpList_lookup_yesE (hg:o.guard=none) (mo x:Operand) (hop:o.op=Op.lookup 110 mo x true) (b n:Nat) (m:KeyE→Option Value) (hm:a.eval mo=.map (some b)) (hown:MapE w b n m) (k:KeyE) (hx:a.eval x=k.val) (hk:k.ok) (v:Value) (hmk:m k=some v)
  (hK:wpList Tryz.prog ops Q rest (a.put o.dst (.tuple #[v,.bool true])) w):wpList Tryz.prog ops Q (o::rest) a w:=
 wpList_lookup_E w hg mo x hop b n m hm hown k hx hk (by rw [hmk];exact hK)
end
theorem row_vals {S:Nat→Prop} {w:World} {b off:Nat} {xs:List EntryD} (ha: ∀ k (h:k<xs.length),∃ cs,shEntry.lies S w cs xs[k]∧CellsAt w b (off+k*6) cs):
  ∃ vs:Nat→Value,∀ k (h:k<xs.length),∃ cs:List Value,vs k=.agg cs.toArray∧shEntry.lies S w cs xs[k]∧CellsAt w b (off+k*6) cs:=
 ⟨fun k=>open Classical in if h:k<xs.length then .agg (Classical.choose (ha k h)).toArray else undef,fun k h=>⟨Classical.choose (ha k h),by simp [h],(Classical.choose_spec (ha k h)).1,(Classical.choose_spec (ha k h)).2⟩⟩
theorem byKey_c (S:Nat→Prop) (v:Value) (xs:List EntryD) (w:World) (hv:RowIn shEntry S w v xs) (hB: ∀ b,S b→b<w.heap.size) (hw:wtRow wtEntry xs≤1048576) (hwf: ∀ d∈xs,wfE d) (htab:Lib.TabIs Tryz.prog w "internal/strconv.uint64pow10" .u64 Lib.pow10Tab):
    Calls Tryz.prog 80 #[v] w fun e w'=>∃ vs:Nat→Value,e=.returned (.map (some w.heap.size))∧(∀ i (h:i<xs.length),∃ cs:List Value,vs i=.agg cs.toArray∧shEntry.lies S w cs xs[i])∧MapE w' w.heap.size xs.length (fun q=>(firstK xs q).map vs)∧Below w.heap.size w w':=by
  obtain ⟨a,cap,rfl,hl,hc,ha⟩:=hv
  have hn:=len_wtRow wtEntry xs
  have hwe: ∀ d∈xs,bulkS d.vP≤1048576:=fun d hd=>by
    have h9:d.name.size+bulkS d.vP+wtRow wtNeed d.needs≤wtRow wtEntry xs:=wt_wtRow wtEntry hd
    omega
  unfold maxLen at hl
  obtain ⟨vs,hvs,hcell⟩: ∃ vs:Nat→Value,(∀ i (h:i<xs.length),∃ cs:List Value,vs i=.agg cs.toArray∧shEntry.lies S w cs xs[i])∧(xs=[]∨∃ b off,a=some ⟨b,off,none⟩∧S b∧∀ k (h:k<xs.length),∃ cs:List Value,vs k=.agg cs.toArray∧shEntry.lies S w cs xs[k]∧CellsAt w b (off+k*6) cs):=by
    rcases ha with rfl|⟨b,off,rfl,hb,ha⟩
    · exact ⟨fun _=>undef,fun i h=>by simp at h,.inl rfl⟩
    · obtain ⟨vs,h⟩:=row_vals ha
      exact ⟨vs,fun i hi=>by obtain ⟨cs,h1,h2,_⟩:=h i hi;exact ⟨cs,h1,h2⟩,.inr ⟨b,off,rfl,hb,h⟩⟩
  have HVS:=hidden hvs
  have HTAB:=hidden htab
  clear ha hvs htab
  have hmm:= @run_makeMap Tryz.prog
  go_enter Tryz.func80,Tryz.ntmps80
  go_wp2_with fail
  go_loopw [12] (fun vi wr=>∃ k:Nat,k≤xs.length∧vi=.int .i64 (k:Int)∧MapE wr w.heap.size k (fun q=>(firstK (xs.take k) q).map vs)∧Below w.heap.size w wr) (fun vi _=>xs.length-(intOf vi).toNat)
  case atStart=>exact ⟨0,Nat.zero_le _,rfl,(MapE_made w).same (fun p _=>by simp [firstK]),(Below.refl _ _).alloc (Nat.le_refl _) _⟩
  case round=>
    obtain ⟨k,hk,rfl,hm,hbr⟩:=hrel
    clear hmm
    by_cases hlt':k<xs.length
    · rcases hcell with rfl|⟨b,off,rfl,hlt,ha⟩
      · simp at hlt'
      obtain ⟨cs,hvk,hL,hcl⟩:=ha k hlt'
      replace hcl:=hcl.keep (.of hbr hB) hlt
      have hwk:=hwf xs[k] (List.getElem_mem hlt')
      have hbk:=hwe xs[k] (List.getElem_mem hlt')
      have HST:Hid (∀ q,firstK (xs.take (k+1)) q=(firstK (xs.take k) q).or (if sameK q xs[k]=true then some k else none)):=firstK_step xs k hlt'
      have HOLD:Hid (∀ i,firstK (xs.take k) (keyD xs[k])=some i→∃ cs:List Value,vs i=.agg cs.toArray∧∃ e,shEntry.lies S w cs e):=fun i hi=>by
        obtain ⟨h1,_⟩:=firstK_lt hi
        have h2:i<xs.length:=by simp at h1;omega
        obtain ⟨cs,h3,h4⟩:=HVS.out i h2
        exact ⟨cs,h3,_,h4⟩
      obtain ⟨d,hd⟩: ∃ d,d=xs[k]:=⟨_,rfl⟩
      rw [←hd] at hL hwk hbk HST HOLD
      obtain ⟨u0,u1,rfl,s_n,r0,p0,r1⟩:=hL
      have hok:=keyD_ok s_n hwk hbk
      have HK': ∀ w1,Below w.heap.size w w1→Calls Tryz.prog 81 #[.string d.name,.agg #[.int .i64 d.vA,.int .i64 d.vB,.int .i64 d.vC,u0]] w1 fun e w'=>e=.returned (.agg #[.string d.name,.int .i64 d.vA,.int .i64 d.vB,.int .i64 d.vC,.string ⟨(preL d.vP).toArray⟩])∧Below w1.heap.size w1 w':=fun w1 h=>entryKey_c _ _ _ _ u0 d.vP w1 ((r0.keep (.of h hB)).reads (fun b hb=>Nat.lt_of_lt_of_le (hB b hb) h.size)) hbk (tabIs_below h HTAB.out)
      obtain ⟨KD,hKD⟩: ∃ KD,KD=keyD d:=⟨_,rfl⟩
      have HKD:=hidden hKD
      rw [←hKD] at hok HOLD
      obtain ⟨P,hP⟩: ∃ P:ByteArray,P=⟨(preL d.vP).toArray⟩:=⟨_,rfl⟩
      have hKV:KD.val=.agg #[.string d.name,.int .i64 d.vA,.int .i64 d.vB,.int .i64 d.vC,.string P]:=by rw [hKD,hP];rfl
      simp only [←hP] at HK'
      replace HK':=hidden HK'
      obtain ⟨a0,cap0,eu0,_⟩:=id r0
      rw [length_strsV] at eu0
      subst eu0
      clear r0
      obtain ⟨a1,cap1,eu1,_⟩:=id r1
      subst eu1
      clear r1
      have e0:wr.cell? ⟨b,off+k*6,none⟩=some (.string d.name):=hcl 0 (by simp)
      have e1:wr.cell? ⟨b,off+k*6+1,none⟩=some (.int .i64 d.vA):=hcl 1 (by simp)
      have e2:wr.cell? ⟨b,off+k*6+2,none⟩=some (.int .i64 d.vB):=hcl 2 (by simp)
      have e3:wr.cell? ⟨b,off+k*6+3,none⟩=some (.int .i64 d.vC):=hcl 3 (by simp)
      have e4:wr.cell? ⟨b,off+k*6+4,none⟩=some (.slice a0 d.vP.length cap0):=hcl 4 (by simp)
      have e5:wr.cell? ⟨b,off+k*6+5,none⟩=some (.slice a1 d.needs.length cap1):=hcl 5 (by simp)
      have hki:(k:Int)<(xs.length:Int):=by omega
      have kB:Below wr.heap.size wr (wr.alloc (.cells #[.string d.name,.int .i64 d.vA,.int .i64 d.vB,.int .i64 d.vC,.slice a0 d.vP.length cap0,.slice a1 d.needs.length cap1] 35 (0,0))):=(Below.refl _ _).alloc (Nat.le_refl _) _
      have hbr5:=hbr.trans (kB.mono hbr.size)
      have hbx5:(wr.alloc (.cells #[.string d.name,.int .i64 d.vA,.int .i64 d.vB,.int .i64 d.vC,.slice a0 d.vP.length cap0,.slice a1 d.needs.length cap1] 35 (0,0))).heap[wr.heap.size]?=some (.cells #[.string d.name,.int .i64 d.vA,.int .i64 d.vB,.int .i64 d.vC,.slice a0 d.vP.length cap0,.slice a1 d.needs.length cap1] 35 (0,0)):=vheap_new _ _
      have hm5:=hm.below kB
      clear ha hd hcl hm hP hKD p0 s_n hwk hbk hwe hwf
      go_wp2_with fail
      go_at_call 81
      refine (HK'.out _ hbr5).mono ?_
      rintro e w6 ⟨rfl,b6⟩
      have hbx6:=box_below hbx5 b6
      have hm6:=hm5.below b6
      have k6:=hbr5.trans (b6.mono hbr5.size)
      have kC:Below w6.heap.size w6 (w6.alloc (.cells #[.string d.name,.int .i64 d.vA,.int .i64 d.vB,.int .i64 d.vC,.string P] 113 (0,0))):=(Below.refl _ _).alloc (Nat.le_refl _) _
      have hm7:=hm6.below kC
      have k7:=k6.trans (kC.mono k6.size)
      have hbx7:=box_below hbx6 kC
      have hks:(w6.alloc (.cells #[.string d.name,.int .i64 d.vA,.int .i64 d.vB,.int .i64 d.vC,.string P] 113 (0,0))).heap[w6.heap.size]?=some (.cells #[.string d.name,.int .i64 d.vA,.int .i64 d.vB,.int .i64 d.vC,.string P] 113 (0,0)):=vheap_new _ _
      have x0:=vblk_cell hbx6 0
      have x1:=vblk_cell hbx6 1
      have x2:=vblk_cell hbx6 2
      have x3:=vblk_cell hbx6 3
      have x4:=vblk_cell hbx6 4
      have x5:=vblk_cell hbx6 5
      simp only [List.getElem?_toArray,List.getElem?_cons_succ,List.getElem?_cons_zero] at x0 x1 x2 x3 x4 x5
      have hltb:wr.heap.size<w6.heap.size:=(Array.getElem?_eq_some_iff.1 hbx6).1
      clear e0 e1 e2 e3 e4 e5 hbx5 hm5 b6 HK'
      cases hgd:firstK (xs.take k) KD with
      |none=>
        have HG:Hid ((firstK (xs.take k) KD).map vs=none):=by show _=_;rw [hgd];rfl
        have HG2:=hidden hgd
        clear hgd HOLD
        go_wp2_with (first
          | (at_lookup; refine wpList_lookup_noE _ rfl _ _ rfl w.heap.size k _ rfl hm7 KD hKV.symm hok HG.out ?_)
          | (at_mapUpdate; refine wpList_mapUpdate_E _ rfl _ _ _ rfl w.heap.size k _ rfl (hm7.below ((Below.refl _ _).alloc (Nat.le_refl _) _)) (by unfold maxLen; omega) KD hKV.symm hok (.agg #[.string d.name, .int .i64 d.vA, .int .i64 d.vB, .int .i64 d.vC, .slice a0 d.vP.length cap0, .slice a1 d.needs.length cap1]) rfl ?_; intro w1 hm1 hg1))
        go_roundw
        case rel=>
          refine ⟨k+1,by omega,by go_num,hm1.same (fun q hq=>?_),?_⟩
          · rw [HST.out q]
            by_cases e:q=KD
            · subst e
              rw [HG2.out,if_pos rfl,if_pos (sameK_iff.2 HKD.out)]
              simp only [Option.none_or,Option.map_some]
              rw [hvk]
            · rw [if_neg e,if_neg (fun h=>e ((sameK_iff.1 h).trans HKD.out.symm)),Option.or_none]
          · have hb9:=k7.alloc k7.size (.cells #[.string ⟨#[]⟩,.int .i64 0,.int .i64 0,.int .i64 0,.slice none 0 0,.slice none 0 0] 35)
            exact hb9.grown hg1 hb9.size (fun j hj=>by cases hj;exact Nat.le_refl _)
        case measure=>simp [intOf];omega
      |some i=>
        obtain ⟨cs9,hv9,e9,hl9⟩:=HOLD.out i hgd
        obtain ⟨t0,t1,rfl,_,tr0,_,tr1⟩:=hl9
        obtain ⟨ta0,tc0,te0,_⟩:=id tr0
        rw [length_strsV] at te0
        subst te0
        obtain ⟨ta1,tc1,te1,_⟩:=id tr1
        subst te1
        have HG:Hid ((firstK (xs.take k) KD).map vs=some (.agg #[.string e9.name,.int .i64 e9.vA,.int .i64 e9.vB,.int .i64 e9.vC,.slice ta0 e9.vP.length tc0,.slice ta1 e9.needs.length tc1])):=by show _=_;rw [hgd,Option.map_some,hv9]
        have HG2:=hidden hgd
        clear hgd HOLD tr0 tr1
        go_wp2_with (at_lookup;refine wpList_lookup_yesE _ rfl _ _ rfl w.heap.size k _ rfl hm7 KD hKV.symm hok _ HG.out ?_)
        go_roundw
        case rel=>
          refine ⟨k+1,by omega,by go_num,((hm7.below ((Below.refl _ _).alloc (Nat.le_refl _) _)).mono (Nat.le_succ k)).same (fun q hq=>?_),?_⟩
          · rw [HST.out q]
            by_cases e:q=KD
            · subst e;rw [HG2.out];rfl
            · rw [if_neg (fun h=>e ((sameK_iff.1 h).trans HKD.out.symm)),Option.or_none]
          · exact k7.alloc k7.size _
        case measure=>simp [intOf];omega
    · have he:k=xs.length:=by omega
      subst he
      rw [List.take_length] at hm
      clear hcell
      go_wp2_with fail
      go_ret
      exact ⟨vs,rfl,HVS.out,hm,hbr⟩
def zeroD :EntryD:=⟨⟨#[]⟩,0,0,0,[],[]⟩
def atD (xs:List EntryD) (o:Option Nat):EntryD:=(o.bind fun i=>xs[i]?).getD zeroD
end Go.Proofs.YtlfmefojcmpfeaaGreatDoor
