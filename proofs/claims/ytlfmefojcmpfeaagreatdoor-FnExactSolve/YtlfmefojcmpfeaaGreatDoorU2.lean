/-
  Contracts for the walks and pure facts, several texts in one: each theorem says what it proves, and under which conditions.
-/
import Derived.Test.YtlfmefojcmpfeaaGreatDoorUT
import Derived.Test.YtlfmefojcmpfeaaGreatDoorU1
set_option linter.unusedSimpArgs false
set_option linter.unusedVariables false
set_option maxHeartbeats 16000000
set_option maxRecDepth 100000
namespace Go.Proofs.YtlfmefojcmpfeaaGreatDoor
open Go.RowKit
theorem split_none (s:ByteArray) (c:Int) (b:Nat): ∀ (n i:Nat),n=s.size-i→i≤s.size→(∀ j,i≤j→j<s.size→¬((s.data[j]!).toNat:Int)=c)→splitGo s c (s.size-i) i b=[s.extract b s.size]
 |0,i,hn,hi,h=>by
  have:i=s.size:=by omega
  subst this
  exact splitGo_end s c b
 |n+1,i,hn,hi,h=>by
  rw [splitGo_miss s c i b (by omega) (h i (Nat.le_refl _) (by omega))]
  exact split_none s c b n (i+1) (by omega) (by omega) (fun j h1 h2=>h j (by omega) h2)
theorem split_some (s:ByteArray) (c:Int) (b j:Nat) (hj:j<s.size) (hc:((s.data[j]!).toNat:Int)=c): ∀ (n i:Nat),n=j-i→i≤j→(∀ k,i≤k→k<j→¬((s.data[k]!).toNat:Int)=c)→splitGo s c (s.size-i) i b=s.extract b j::splitGo s c (s.size-(j+1)) (j+1) (j+1)
 |0,i,hn,hi,h=>by
  have:i=j:=by omega
  subst this
  exact splitGo_hit s c i b hj hc
 |n+1,i,hn,hi,h=>by
  rw [splitGo_miss s c i b (by omega) (h i (Nat.le_refl _) (by omega))]
  exact split_some s c b j hj hc n (i+1) (by omega) (by omega) (fun k h1 h2=>h k (by omega) h2)
def strSize :Value→Nat| .string s=>s.size|_=>0
theorem ext_list {a b:ByteArray} (h:a.data.toList=b.data.toList):a=b:=ByteArray.ext (Array.toList_inj.1 h)
theorem extract_list (s:ByteArray) (a b:Nat):(s.extract a b).data.toList=(s.data.toList.drop a).take (b-a):=Lib.extract_data s a b
theorem len_list (s:ByteArray):s.data.toList.length=s.size:=by rw [Array.length_toList];rfl
theorem size_tail (s:ByteArray) (b:Nat) (h:b≤s.size):(s.extract b s.size).size=s.size-b:=by
 rw [←len_list,extract_list,List.length_take,List.length_drop,len_list];omega
theorem tail_list (s:ByteArray) (b:Nat):(s.extract b s.size).data.toList=s.data.toList.drop b:=by
 rw [extract_list,List.take_of_length_le (by rw [List.length_drop,len_list];omega)]
theorem tail_head (s:ByteArray) (b k:Nat):(s.extract b s.size).extract 0 k=s.extract b (b+k):=by
 apply ext_list
 rw [extract_list,tail_list,extract_list]
 simp
theorem tail_tail (s:ByteArray) (b k:Nat):(s.extract b s.size).extract k (s.extract b s.size).size=s.extract (b+k) s.size:=by
 apply ext_list
 rw [tail_list,tail_list,tail_list,List.drop_drop]
theorem bang_list (s:ByteArray) (j:Nat) (h:j<s.size):s.data.toList[j]?=some (s.data[j]!):=by
 rw [byteBang s j h,List.getElem?_eq_getElem (by rw [len_list];exact h)]
 rfl
theorem search (s:ByteArray) (c:Int) (b:Nat) (hb:b≤s.size) (h0:0≤c) (h1:c≤255):
  (Lib.indexByte (s.extract b s.size).data.toList c.toNat.toUInt8= -1∧splitGo s c (s.size-b) b b=[s.extract b s.size])∨
  ∃ k:Nat,Lib.indexByte (s.extract b s.size).data.toList c.toNat.toUInt8=(k:Int)∧b+k<s.size∧splitGo s c (s.size-b) b b=s.extract b (b+k)::splitGo s c (s.size-(b+k+1)) (b+k+1) (b+k+1):=by
 have hcn: ∀ u:UInt8,(u.toNat:Int)=c↔u=c.toNat.toUInt8:=fun u=>by
  have hu:=u.toNat_lt
  constructor
  ·intro e
   have:u.toNat=c.toNat:=by omega
   rw [←this];simp
  ·intro e
   subst e
   simp [UInt8.toNat_ofNat']
   omega
 rw [tail_list]
 have hge:=Lib.indexByte_ge (s.data.toList.drop b) c.toNat.toUInt8
 by_cases hm:Lib.indexByte (s.data.toList.drop b) c.toNat.toUInt8= -1
 ·refine .inl ⟨hm,split_none s c b _ b rfl hb (fun j h1 h2 e=>?_)⟩
  have:=Lib.indexByte_none hm (j-b)
  rw [List.getElem?_drop,show b+(j-b)=j by omega,bang_list s j h2] at this
  exact this (by rw [(hcn _).1 e])
 ·obtain ⟨k,hk⟩:=Int.eq_ofNat_of_zero_le (show 0≤Lib.indexByte (s.data.toList.drop b) c.toNat.toUInt8 by omega)
  obtain ⟨hh,hbef⟩:=Lib.indexByte_some hk
  rw [List.getElem?_drop] at hh
  have hlt:b+k<s.size:=by
   rw [←len_list]
   exact (List.getElem?_eq_some_iff.1 hh).1
  refine .inr ⟨k,hk,hlt,split_some s c b (b+k) hlt ?_ _ b rfl (by omega) (fun j h1 h2 e=>?_)⟩
  ·rw [bang_list s _ hlt] at hh
   exact (hcn _).2 (by simpa using hh)
  ·have:=hbef (j-b) (by omega)
   rw [List.getElem?_drop,show b+(j-b)=j by omega,bang_list s j (by omega)] at this
   exact this (by rw [(hcn _).1 e])
theorem clone_c (s:ByteArray) (w:World) (h:s.size≤1048576):Calls Tryz.prog 116 #[.string s] w fun e w'=>e=.returned (.string s)∧Below w.heap.size w w':=by
 go_enter Tryz.func116,Tryz.ntmps116
 go_wp2_with (go_at_call 186;refine (Tryz.stringslite_Clone s _ (by omega)).mono ?_;rintro e w1 ⟨rfl,b1⟩)
 go_ret
 exact ⟨rfl,b1⟩
theorem implSplit_c (s:ByteArray) (c:Int) (w:World) (hs:s.size≤1048576) (h0:0≤c) (h1:c≤255):
    Calls Tryz.prog 221 #[.string s,.int .u8 c] w fun e w'=>∃ v,e=.returned v∧w'.ownsRow w.heap.size 9 1 v (splitS s c).length (strsV (splitS s c))∧Below w.heap.size w w':=by
  obtain ⟨i0,hi,hz0,hz1,hz2⟩:=info_parts infoS
  go_enter Tryz.func221,Tryz.ntmps221
  go_wp2
  go_loopw [0,5] (fun vs vo wr=>∃ (b:Nat) (r:ByteArray) (xs:List ByteArray),vs=.string r∧b≤s.size∧xs.length≤b∧Hid (r=s.extract b s.size)∧wr.ownsRow w.heap.size 9 1 vo xs.length (strsV xs)∧Hid (xs++splitGo s c (s.size-b) b b=splitS s c)∧Below w.heap.size w wr) (fun vs _ _=>strSize vs)
  case atStart=>exact ⟨0,s,[],rfl,by omega,by simp,(by show _=_;simp),World.ownsRow_nil _ _ _ _,rfl,Below.refl _ _⟩
  case round=>
    obtain ⟨b,r,xs,rfl,hb,hxl,hr,hown,hh,hbr⟩:=hrel
    have hsr:r.size=s.size-b:=by rw [hr.out];exact size_tail s b hb
    have hs2:=search s c b hb h0 h1
    rw [←hr.out] at hs2
    rcases hs2 with ⟨hidx,hsp⟩|⟨k,hidx,hkl,hsp⟩
    · have HT:Hid (xs++[r]=splitS s c):=by have:=hh.out;rw [hsp] at this;exact this
      have hr20:r.size≤1048576:=by omega
      clear hsp hh hsr
      go_wp2_with (first
        | (go_at_call 272; refine (Tryz.strings_IndexByte r c _).mono ?_; rintro e w1 ⟨rfl, rfl⟩)
        | (go_at_call 116; refine (clone_c r _ hr20).mono ?_; rintro e w2 ⟨rfl, b2⟩
           have hown2 := owns_of_below hown b2)
        | (at_builtin; refine wpList_append_own _ rfl _ _ 28 rfl w.heap.size 9 i0 (.string ⟨#[]⟩) 1 16 Tryz.underlying28 hi hz0 hz1 hz2 rfl (by decide) _ xs.length (strsV xs) rfl (hown2.alloc _) ⟨w2.heap.size, 0, none⟩ 1 1 (strsV [r]) rfl rfl (cell_one_new _ _ _) (fun u hu => by simp [strsV] at hu; subst hu; rfl) (by unfold maxLen; omega) (by omega) (by have h1 := hbr.size; have h2 := b2.size; simp; omega) ?_))
      intro v3 w3 o3 gr3 _
      rw [strs_append] at o3
      have hb2:=hbr.trans (b2.mono hbr.size)
      have hb3:Below w.heap.size w w3:=Below.grown (hb2.alloc hb2.size _) gr3 (by have:=hb2.size;simp;omega) (fun j hj=>(hown2.lt _ hj).1)
      have hl3:(xs++[r]).length=xs.length+1:=by simp
      rw [←hl3,HT.out] at o3
      go_wp2
      go_ret
      exact ⟨_,rfl,o3,hb3⟩
    · have hkr:k<r.size:=by omega
      have HT:Hid ((xs++[r.extract 0 k])++splitGo s c (s.size-(b+k+1)) (b+k+1) (b+k+1)=splitS s c):=by
        have:=hh.out
        rw [hsp, ←tail_head, ←hr.out] at this
        show _=_
        rw [List.append_assoc];exact this
      have HR:Hid (r.extract (k+1) r.size=s.extract (b+k+1) s.size):=by
        show _=_
        rw [hr.out,tail_tail,Nat.add_assoc]
      have hz:(r.extract 0 k).size=k:=by
        rw [←len_list,extract_list];simp [len_list];omega
      have hz2':(r.extract (k+1) r.size).size=r.size-(k+1):=size_tail r (k+1) (by omega)
      have hk20:(r.extract 0 k).size≤1048576:=by omega
      have hkI:(k:Int)<(r.size:Int):=by omega
      have hkn: ¬((k:Int)<0):=by omega
      have hkm:k≤1048576:=by omega
      have hsr2:Hid (r.size=s.size-b):=hsr
      clear hsp hh hz hsr
      go_wp2_with (first
        | (go_at_call 272; refine (Tryz.strings_IndexByte r c _).mono ?_; rintro e w1 ⟨rfl, rfl⟩)
        | (go_at_call 116; refine (clone_c (r.extract 0 k) _ hk20).mono ?_; rintro e w2 ⟨rfl, b2⟩
           have hown2 := owns_of_below hown b2)
        | (at_builtin; refine wpList_append_own _ rfl _ _ 28 rfl w.heap.size 9 i0 (.string ⟨#[]⟩) 1 16 Tryz.underlying28 hi hz0 hz1 hz2 rfl (by decide) _ xs.length (strsV xs) rfl (hown2.alloc _) ⟨w2.heap.size, 0, none⟩ 1 1 (strsV [r.extract 0 k]) rfl rfl (cell_one_new _ _ _) (fun u hu => by simp [strsV] at hu; subst hu; rfl) (by unfold maxLen; omega) (by omega) (by have h1 := hbr.size; have h2 := b2.size; simp; omega) ?_))
      intro v3 w3 o3 gr3 _
      rw [strs_append] at o3
      have hb2:=hbr.trans (b2.mono hbr.size)
      have hb3:Below w.heap.size w w3:=Below.grown (hb2.alloc hb2.size _) gr3 (by have:=hb2.size;simp;omega) (fun j hj=>(hown2.lt _ hj).1)
      have hl3:(xs++[r.extract 0 k]).length=xs.length+1:=by simp
      rw [←hl3] at o3
      clear gr3 hown2 hown hbr hb2 b2 hl3
      go_wp2
      go_roundw
      case rel=>exact ⟨b+k+1,_,_,rfl,by omega,(by simp;omega),HR,o3,HT,hb3⟩
      case measure=>simp only [strSize];omega
def Kp (S:Nat→Prop) (w w':World):Prop:=∀ b,S b→w'.heap[b]?=w.heap[b]?
theorem Kp.cell {S:Nat→Prop} {w w':World} (h:Kp S w w') {b:Nat} (hb:S b) (o:Nat):w'.cell? ⟨b,o,none⟩=w.cell? ⟨b,o,none⟩:=World.cell?_of_block (w:=w) (h b hb)
theorem Kp.trans {S:Nat→Prop} {a b c:World} (h:Kp S a b) (k:Kp S b c):Kp S a c:=fun i hi=>(k i hi).trans (h i hi)
theorem Kp.of {S:Nat→Prop} {B:Nat} {w w':World} (hb:Below B w w') (hS: ∀ b,S b→b<B):Kp S w w':=fun b h=>hb.block b (hS b h)
theorem Kp.set {S:Nat→Prop} {w:World} {g j:Nat} {v:Value} (h: ¬S g):Kp S w (w.setCell ⟨g,j,none⟩ v):=fun b hb=>Below.heap_setCell w ⟨g,j,none⟩ v b (fun e=>by have e':b=g:=e;subst e';exact h hb)
def Ow (lo hi:Nat) (b:Nat):Prop:=lo≤b∧b<hi
theorem Ow.mono {lo lo' hi hi':Nat} (h1:lo'≤lo) (h2:hi≤hi'): ∀ b,Ow lo hi b→Ow lo' hi' b:=fun b h=>⟨Nat.le_trans h1 h.1,Nat.lt_of_lt_of_le h.2 h2⟩
theorem Ow.below {lo:Nat} {w w':World} (h:Below w.heap.size w w'):Kp (Ow lo w.heap.size) w w':=fun b hb=>h.block b hb.2
theorem Ow.not {lo hi g:Nat} (h:g<lo): ¬Ow lo hi g:=fun k=>by have:=k.1;omega
def RdB (S:Nat→Prop) (w:World) (v:Value) (xs:List Value):Prop:=
 ∃ a cap,v=.slice a xs.length cap∧xs.length≤cap∧(xs=[]∨∃ b off,a=some ⟨b,off,none⟩∧S b∧∀ k (h:k<xs.length),w.cell? ⟨b,off+k,none⟩=some xs[k])
theorem RdB.reads {S:Nat→Prop} {w:World} {v:Value} {xs:List Value} (h:RdB S w v xs) (hS: ∀ b,S b→b<w.heap.size):Reads w v xs:=by
 obtain ⟨a,cap,hv,hc,h⟩:=h
 refine ⟨a,cap,hv,hc,?_⟩
 rcases h with h|⟨b,off,ha,hb,h⟩
 ·exact .inl h
 ·exact .inr ⟨b,off,ha,hS b hb,h⟩
theorem RdB.of {w:World} {v:Value} {xs:List Value} (h:Reads w v xs):RdB (· <w.heap.size) w v xs:=h
theorem RdB.keep {S:Nat→Prop} {w w':World} {v:Value} {xs:List Value} (hb:Kp S w w') (h:RdB S w v xs):RdB S w' v xs:=by
 obtain ⟨a,cap,hv,hc,h⟩:=h
 refine ⟨a,cap,hv,hc,?_⟩
 rcases h with h|⟨b,off,ha,hlt,h⟩
 ·exact .inl h
 ·exact .inr ⟨b,off,ha,hlt,fun k hk=>(hb.cell hlt _).trans (h k hk)⟩
theorem RdB.mono {S S':Nat→Prop} {w:World} {v:Value} {xs:List Value} (hB: ∀ b,S b→S' b) (h:RdB S w v xs):RdB S' w v xs:=by
 obtain ⟨a,cap,hv,hc,h⟩:=h
 refine ⟨a,cap,hv,hc,?_⟩
 rcases h with h|⟨b,off,ha,hlt,h⟩
 ·exact .inl h
 ·exact .inr ⟨b,off,ha,hB b hlt,h⟩
theorem rdB_owns {w:World} {base:Nat} {e:TypeId} {v:Value} {n:Nat} {xs:List Value} (h:w.ownsRow base e 1 v n xs):RdB (Ow base w.heap.size) w v xs:=by
 have h0:=reads_of_owns h
 obtain ⟨a,cap,hv,hc,hx⟩:=h0
 refine ⟨a,cap,hv,hc,?_⟩
 rcases hx with hx|⟨b,off,rfl,hlt,hx⟩
 ·exact .inl hx
 ·refine .inr ⟨b,off,rfl,⟨?_,hlt⟩,hx⟩
  rcases h.2 with ⟨hn,_⟩|⟨g,cap',cur,hv',hg,_⟩
  ·rw [hn] at hv;simp at hv
  ·rw [hv'] at hv
   simp only [Value.slice.injEq,Option.some.injEq,Addr.mk.injEq] at hv
   omega
def leftW (n:Nat) (left:Int):Int:=if (n:Int)≤left then left-(n:Int) else-1
theorem leftW_good {n:Nat} {left:Int} (h:(n:Int)≤left):leftW n left=left-(n:Int):=if_pos h
theorem leftW_bad {n:Nat} {left:Int} (h: ¬(n:Int)≤left):leftW n left= -1:=if_neg h
theorem vheap_new (w:World) (o:Obj):(w.alloc o).heap[w.heap.size]?=some o:=by show (w.heap.push _)[w.heap.size]?=_;simp
theorem vheap_old (w:World) (o:Obj) {b:Nat} (h:b<w.heap.size):(w.alloc o).heap[b]?=w.heap[b]? :=Below.heap_alloc w o b h
theorem vblk_cell {w:World} {b:Nat} {cs:Array Value} {t:TypeId} (h:w.heap[b]?=some (.cells cs t (0,0))) (j:Nat):w.cell? ⟨b,j,none⟩=cs[j]? :=cell_of_row w b j cs t (0,0) h
theorem vblk_frozen {w:World} {b:Nat} {cs:Array Value} {t:TypeId} (h:w.heap[b]?=some (.cells cs t (0,0))) (j:Nat):w.frozen? ⟨b,j,none⟩=false:=frozen_of_row w b j cs t h
theorem hidden {p:Prop} (h:p):Hid p:=h
structure Sh (α:Type) where
 n:Nat
 lies:(Nat→Prop)→World→List Value→α→Prop
 keep: ∀ {S:Nat→Prop} {w w':World} {cs:List Value} {x:α},Kp S w w'→lies S w cs x→lies S w' cs x
 mono: ∀ {S S':Nat→Prop} {w:World} {cs:List Value} {x:α},(∀ b,S b→S' b)→lies S w cs x→lies S' w cs x
def CellsAt (w:World) (b j:Nat) (cs:List Value):Prop:=∀ i (h:i<cs.length),w.cell? ⟨b,j+i,none⟩=some cs[i]
theorem CellsAt.keep {S:Nat→Prop} {w w':World} {b j:Nat} {cs:List Value} (hk:Kp S w w') (hb:S b) (h:CellsAt w b j cs):CellsAt w' b j cs:=fun i hi=>(hk.cell hb _).trans (h i hi)
def RowIn {α:Type} (sh:Sh α) (S:Nat→Prop) (w:World) (v:Value) (xs:List α):Prop:=
 ∃ q cap,v=.slice q xs.length cap∧xs.length≤maxLen∧xs.length≤cap∧(xs=[]∨∃ (b off:Nat),q=some ⟨b,off,none⟩∧S b∧∀ k (h:k<xs.length),∃ cs,sh.lies S w cs xs[k]∧CellsAt w b (off+k*sh.n) cs)
theorem RowIn.keep {α:Type} {sh:Sh α} {S:Nat→Prop} {w w':World} {v:Value} {xs:List α} (hk:Kp S w w') (h:RowIn sh S w v xs):RowIn sh S w' v xs:=by
 obtain ⟨q,cap,hv,hm,hc,h⟩:=h
 refine ⟨q,cap,hv,hm,hc,?_⟩
 rcases h with h|⟨b,off,hq,hb,h⟩
 ·exact .inl h
 ·exact .inr ⟨b,off,hq,hb,fun k hh=>by obtain ⟨cs,h1,h2⟩:=h k hh;exact ⟨cs,sh.keep hk h1,h2.keep hk hb⟩⟩
theorem RowIn.mono {α:Type} {sh:Sh α} {S S':Nat→Prop} {w:World} {v:Value} {xs:List α} (hS: ∀ b,S b→S' b) (h:RowIn sh S w v xs):RowIn sh S' w v xs:=by
 obtain ⟨q,cap,hv,hm,hc,h⟩:=h
 refine ⟨q,cap,hv,hm,hc,?_⟩
 rcases h with h|⟨b,off,hq,hb,h⟩
 ·exact .inl h
 ·exact .inr ⟨b,off,hq,hS b hb,fun k hh=>by obtain ⟨cs,h1,h2⟩:=h k hh;exact ⟨cs,sh.mono hS h1,h2⟩⟩
theorem RowIn.below {α:Type} {sh:Sh α} {w w':World} {v:Value} {xs:List α} (h:RowIn sh (· <w.heap.size) w v xs) (hb:Below w.heap.size w w'):RowIn sh (· <w'.heap.size) w' v xs:=
  (h.keep (.of hb (fun b h=>h))).mono (fun b h=>Nat.lt_of_lt_of_le h hb.size)
theorem RowIn.as {α:Type} {sh sh':Sh α} {S:Nat→Prop} {w:World} {v:Value} {xs:List α} (hn:sh.n=sh'.n) (hl: ∀ S w cs x,sh.lies S w cs x→sh'.lies S w cs x) (h:RowIn sh S w v xs):RowIn sh' S w v xs:=by
 obtain ⟨q,cap,hv,hm,hc,h⟩:=h
 refine ⟨q,cap,hv,hm,hc,?_⟩
 rcases h with h|⟨b,off,hq,hb,h⟩
 ·exact .inl h
 ·exact .inr ⟨b,off,hq,hb,fun k hh=>by obtain ⟨cs,h1,h2⟩:=h k hh;exact ⟨cs,hl _ _ _ _ h1,by rw [←hn];exact h2⟩⟩
theorem RowIn.len {α:Type} {sh:Sh α} {S:Nat→Prop} {w:World} {v:Value} {xs:List α} (h:RowIn sh S w v xs):xs.length≤maxLen:=by
 obtain ⟨q,cap,hv,hm,hc,h⟩:=h;exact hm
theorem RowIn.slice {α:Type} {sh:Sh α} {S:Nat→Prop} {w:World} {v:Value} {xs:List α} (h:RowIn sh S w v xs): ∃ q cap,v=.slice q xs.length cap:=by
 obtain ⟨q,cap,hv,hm,hc,h⟩:=h;exact ⟨q,cap,hv⟩
theorem RowIn.at {α:Type} {sh:Sh α} {S:Nat→Prop} {w:World} {v:Value} {xs:List α} (h:RowIn sh S w v xs) {k:Nat} (hk:k<xs.length): ∃ cs,sh.lies S w cs xs[k]:=by
 obtain ⟨q,cap,hv,hm,hc,h⟩:=h
 rcases h with rfl|⟨b,off,hq,hb,h⟩
 ·simp at hk
 ·obtain ⟨cs,h1,_⟩:=h k hk;exact ⟨cs,h1⟩
def Laid {α:Type} (sh:Sh α) (S:Nat→Prop) (w:World) (ys:List Value) (xs:List α) (k:Nat):Prop:=
 ∀ i (h:i<xs.length),i<k→∃ cs,cs.length=sh.n∧sh.lies S w cs xs[i]∧∀ j (hj:j<cs.length),ys[i*sh.n+j]?=some cs[j]
def RowOwn {α:Type} (sh:Sh α) (t:TypeId) (S:Nat→Prop) (w:World) (v:Value) (xs:List α):Prop:=
 xs.length≤maxLen∧∃ ys,w.ownsRow 0 t sh.n v xs.length ys∧(∀ g,v.ownBlock=some g→S g)∧Laid sh S w ys xs xs.length
theorem owns_lo {w:World} {lo lo':Nat} {e:TypeId} {sz n:Nat} {v:Value} {xs:List Value} (h:lo'≤lo) (hg:w.ownsRow lo e sz v n xs):w.ownsRow lo' e sz v n xs:=by
 refine ⟨hg.1,?_⟩
 rcases hg.2 with h1|⟨g,cap,cur,h1,h2,h3⟩
 ·exact .inl h1
 ·exact .inr ⟨g,cap,cur,h1,by omega,h3⟩
theorem owns_kept {S:Nat→Prop} {w w':World} {lo:Nat} {e:TypeId} {sz n:Nat} {v:Value} {xs:List Value} (hk:Kp S w w') (hS: ∀ g,v.ownBlock=some g→S g) (hg:w.ownsRow lo e sz v n xs):w'.ownsRow lo e sz v n xs:=by
 refine ⟨hg.1,?_⟩
 rcases hg.2 with h1|⟨g,cap,cur,h1,h2,h3,h4⟩
 ·exact .inl h1
 ·exact .inr ⟨g,cap,cur,h1,h2,(hk g (hS g (by rw [h1];rfl))).trans h3,h4⟩
theorem owns_in {w:World} {lo:Nat} {e:TypeId} {sz n:Nat} {v:Value} {xs:List Value} (hg:w.ownsRow lo e sz v n xs): ∀ g,v.ownBlock=some g→Ow lo w.heap.size g:=fun g h=>by
 rcases hg.2 with ⟨h1,_⟩|⟨g',cap,cur,h1,h2,h3,h4⟩
 ·rw [h1] at h;simp [Value.ownBlock] at h
 ·rw [h1] at h;simp [Value.ownBlock] at h;subst h
  exact ⟨h2,(Array.getElem?_eq_some_iff.1 h3).1⟩
theorem Laid.keep {α:Type} {sh:Sh α} {S:Nat→Prop} {w w':World} {ys:List Value} {xs:List α} {k:Nat} (hk:Kp S w w') (h:Laid sh S w ys xs k):Laid sh S w' ys xs k:=fun i hi hik=>by
 obtain ⟨cs,h1,h2,h3⟩:=h i hi hik;exact ⟨cs,h1,sh.keep hk h2,h3⟩
theorem Laid.mono {α:Type} {sh:Sh α} {S S':Nat→Prop} {w:World} {ys:List Value} {xs:List α} {k:Nat} (hS: ∀ b,S b→S' b) (h:Laid sh S w ys xs k):Laid sh S' w ys xs k:=fun i hi hik=>by
 obtain ⟨cs,h1,h2,h3⟩:=h i hi hik;exact ⟨cs,h1,sh.mono hS h2,h3⟩
theorem RowOwn.keep {α:Type} {sh:Sh α} {t:TypeId} {S:Nat→Prop} {w w':World} {v:Value} {xs:List α} (hk:Kp S w w') (h:RowOwn sh t S w v xs):RowOwn sh t S w' v xs:=by
 obtain ⟨h0,ys,h1,h2,h3⟩:=h
 exact ⟨h0,ys,owns_kept hk h2 h1,h2,h3.keep hk⟩
theorem RowOwn.mono {α:Type} {sh:Sh α} {t:TypeId} {S S':Nat→Prop} {w:World} {v:Value} {xs:List α} (hS: ∀ b,S b→S' b) (h:RowOwn sh t S w v xs):RowOwn sh t S' w v xs:=by
 obtain ⟨h0,ys,h1,h2,h3⟩:=h
 exact ⟨h0,ys,h1,fun g hg=>hS g (h2 g hg),h3.mono hS⟩
theorem RowOwn.plain {α:Type} {sh:Sh α} {t:TypeId} {S:Nat→Prop} {w:World} {v:Value} {xs:List α} (h:RowOwn sh t S w v xs):RowIn sh S w v xs:=by
 obtain ⟨hm,ys,h1,h2,h3⟩:=h
 rcases id h1.2 with ⟨rfl,h0⟩|⟨g,cap,cur,rfl,_,hg,hc,_⟩
 ·exact ⟨none,0,by rw [h0],hm,by omega,.inl (List.eq_nil_of_length_eq_zero h0)⟩
 ·refine ⟨_,_,rfl,hm,hc,.inr ⟨g,0,rfl,h2 g rfl,fun k hk=>?_⟩⟩
  obtain ⟨cs,e1,e2,e3⟩:=h3 k hk hk
  refine ⟨cs,e2,fun i hi=>?_⟩
  have hlt:k*sh.n+i<xs.length*sh.n:=by
   have:(k+1)*sh.n≤xs.length*sh.n:=Nat.mul_le_mul_right _ hk
   rw [Nat.add_mul,Nat.one_mul] at this
   omega
  rw [Nat.zero_add,h1.cellAt _ hlt]
  exact e3 i hi
def putL (ys:List Value) (j:Nat):List Value→List Value
 |[]=>ys
 |c::cs=>putL (ys.set j c) (j+1) cs
def setW (w:World) (g j:Nat):List Value→World
 |[]=>w
 |c::cs=>setW (w.setCell ⟨g,j,none⟩ c) g (j+1) cs
theorem putL_out (cs:List Value): ∀ (ys:List Value) (j i:Nat),(i<j∨j+cs.length≤i)→(putL ys j cs)[i]?=ys[i]? :=by
 induction cs with
 |nil=>intro ys j i h;rfl
 |cons c cs ih=>
  intro ys j i h
  show (putL (ys.set j c) (j+1) cs)[i]?=_
  simp at h
  rw [ih _ _ _ (by omega),List.getElem?_set_ne (by omega)]
theorem putL_in (cs:List Value): ∀ (ys:List Value) (j i:Nat),j+cs.length≤ys.length→i<cs.length→(putL ys j cs)[j+i]?=cs[i]? :=by
 induction cs with
 |nil=>intro ys j i h hi;simp at hi
 |cons c cs ih=>
  intro ys j i h hi
  show (putL (ys.set j c) (j+1) cs)[j+i]?=_
  simp at h hi
  cases i with
  |zero=>rw [putL_out _ _ _ _ (by omega)];simp [List.getElem?_set,show j<ys.length by omega]
  |succ i=>rw [show j+(i+1)=(j+1)+i by omega,ih _ _ _ (by simp;omega) (by omega)];simp
theorem setW_size (cs:List Value): ∀ (w:World) (g j:Nat),(setW w g j cs).heap.size=w.heap.size:=by
 induction cs with
 |nil=>intro w g j;rfl
 |cons c cs ih=>intro w g j;show (setW (w.setCell ⟨g,j,none⟩ c) g (j+1) cs).heap.size=_;rw [ih];simp [World.setCell]
theorem setW_kp {S:Nat→Prop} {g:Nat} (hg: ¬S g) (cs:List Value): ∀ (w:World) (j:Nat),Kp S w (setW w g j cs):=by
 induction cs with
 |nil=>intro w j b hb;rfl
 |cons c cs ih=>intro w j;exact (Kp.set hg).trans (ih _ _)
theorem setW_below {B g:Nat} (hg:B≤g) (cs:List Value): ∀ (w w0:World) (j:Nat),Below B w0 w→Below B w0 (setW w g j cs):=by
 induction cs with
 |nil=>intro w w0 j h;exact h
 |cons c cs ih=>intro w w0 j h;exact ih _ _ _ (Below.setCell h hg _)
theorem setW_owns {lo g n cap sz:Nat} {t:TypeId} (cs:List Value): ∀ (w:World) (ys:List Value) (j:Nat),w.ownsRow lo t sz (.slice (some ⟨g,0,none⟩) n cap) n ys→(setW w g j cs).ownsRow lo t sz (.slice (some ⟨g,0,none⟩) n cap) n (putL ys j cs):=by
 induction cs with
 |nil=>intro w ys j h;exact h
 |cons c cs ih=>intro w ys j h;exact ih _ _ _ (h.stored j c).1
theorem Laid.step {α:Type} {sh:Sh α} {lo:Nat} {w w2:World} {ys:List Value} {xs:List α} {k:Nat} (h:Laid sh (Ow lo w.heap.size) w ys xs k) (hk:k<xs.length) (hy:ys.length=xs.length*sh.n) (hb:Below w.heap.size w w2) {g:Nat} (hg:g<lo) {cs:List Value}
  (hn:cs.length=sh.n) (hu:sh.lies (Ow lo w2.heap.size) w2 cs xs[k]):Laid sh (Ow lo (setW w2 g (k*sh.n) cs).heap.size) (setW w2 g (k*sh.n) cs) (putL ys (k*sh.n) cs) xs (k+1):=fun i hi hik=>by
 rw [setW_size]
 have hle:(k+1)*sh.n≤xs.length*sh.n:=Nat.mul_le_mul_right _ hk
 rw [Nat.add_mul,Nat.one_mul] at hle
 by_cases e:i=k
 ·subst e
  refine ⟨cs,hn,sh.keep (setW_kp (Ow.not hg) _ _ _) hu,fun j hj=>?_⟩
  rw [putL_in _ _ _ _ (by omega) hj,List.getElem?_eq_getElem]
 ·obtain ⟨cs',h1,h2,h3⟩:=h i hi (by omega)
  refine ⟨cs',h1,sh.keep (setW_kp (Ow.not hg) _ _ _) (sh.mono (Ow.mono (Nat.le_refl _) hb.size) (sh.keep (Ow.below hb) h2)),fun j hj=>?_⟩
  have hle2:(i+1)*sh.n≤k*sh.n:=Nat.mul_le_mul_right _ (by omega)
  rw [Nat.add_mul,Nat.one_mul] at hle2
  rw [putL_out _ _ _ _ (by omega)]
  exact h3 j hj
theorem rowOwn_of {α:Type} {sh:Sh α} {t:TypeId} {w:World} {lo g:Nat} {ys:List Value} {xs:List α} (hg:w.ownsRow lo t sh.n (.slice (some ⟨g,0,none⟩) xs.length xs.length) xs.length ys) (hl:xs.length≤maxLen)
  (h:Laid sh (Ow (lo+1) w.heap.size) w ys xs xs.length):RowOwn sh t (Ow lo w.heap.size) w (.slice (some ⟨g,0,none⟩) xs.length xs.length) xs:=
 ⟨hl,ys,owns_lo (Nat.zero_le _) hg,owns_in hg,h.mono (Ow.mono (by omega) (Nat.le_refl _))⟩
def wtRow {α:Type} (f:α→Nat) (xs:List α):Nat:=(xs.map fun x=>1+f x).sum
theorem wtRow_take {α:Type} (f:α→Nat) (xs:List α) (k:Nat) (h:k<xs.length):wtRow f (xs.take (k+1))=wtRow f (xs.take k)+(1+f xs[k]):=by
 rw [wtRow,wtRow,List.take_succ_eq_append_getElem h];simp only [List.map_append,List.sum_append,List.map_cons,List.map_nil,List.sum_cons,List.sum_nil,Nat.add_zero]
theorem wtRow_split {α:Type} (f:α→Nat) (xs:List α) (k:Nat):wtRow f xs=wtRow f (xs.take k)+wtRow f (xs.drop k):=by
 rw [wtRow,wtRow,wtRow, ←List.sum_append, ←List.map_append,List.take_append_drop]
theorem len_wtRow {α:Type} (f:α→Nat) (xs:List α):xs.length≤wtRow f xs:=by
 induction xs with
 |nil=>simp [wtRow]
 |cons d ds ih=>simp [wtRow] at ih ⊢;omega
theorem wt_wtRow {α:Type} (f:α→Nat) {xs:List α} {x:α} (h:x∈xs):f x≤wtRow f xs:=by
 induction xs with
 |nil=>simp at h
 |cons y xs ih=>
  simp [wtRow] at ih ⊢
  rcases List.mem_cons.1 h with rfl|h
  ·omega
  ·have:=ih h;omega
theorem boxAt {w w1:World} {o:Obj} (hb:Below (w.alloc o).heap.size (w.alloc o) w1):w1.heap[w.heap.size]?=some o:=by
 rw [hb.block _ (by simp),vheap_new]
theorem owns_set {w:World} {base:Nat} {e:TypeId} {v:Value} {n:Nat} {xs:List Value} (h:w.ownsRow base e 1 v n xs) {p:Addr} (hp:p.block<base) (x:Value):(w.setCell p x).ownsRow base e 1 v n xs:=by
 obtain ⟨h1,h2⟩:=h
 refine ⟨h1,?_⟩
 rcases h2 with h2|⟨g,cap,cur,a,b,c,d⟩
 ·exact .inl h2
 ·exact .inr ⟨g,cap,cur,a,b,by rw [Below.heap_setCell _ _ _ _ (by omega)];exact c,d⟩
def saneP (ps:List ByteArray):Prop:=ps.length≤maxLen∧∀ s∈ps,s.size≤maxLen
theorem sizeStrsL_c (v:Value) (ss:List ByteArray) (w:World) (left:Int) (hl0:0≤left) (hl1:left≤1048576) (hv:Reads w v (strsV ss)) (hn:ss.length≤maxLen) (hs: ∀ s∈ss,s.size≤maxLen):
  Calls Tryz.prog 206 #[v,.int .i64 left] w fun e w'=>e=.returned (.int .i64 (leftS ss left))∧w=w':=by
 obtain ⟨a,cap,rfl,_,hc⟩:=reads_strs hv
 clear hv
 unfold maxLen at hn hs
 by_cases h0:left<(ss.length:Int)
 ·have hneg:left-(ss.length:Int)<0:=by omega
  have e:leftS ss left= -1:=by rw [leftS,bulkS,if_neg (by omega)]
  rw [e]
  clear hc hs
  go_enter Tryz.func206,Tryz.ntmps206
  go_wp2
  go_ret
  exact ⟨rfl,rfl⟩
 ·have hpos: ¬(left-(ss.length:Int)<0):=by omega
  rcases hc with rfl|⟨b,off,rfl,hlt,hc⟩
  ·go_enter Tryz.func206,Tryz.ntmps206
   go_wp2
   go_loop [1,5] (fun vl vi=>vl=.int .i64 left∧vi=.int .i64 0) (fun _ _=>0)
   case atStart=>exact ⟨rfl,rfl⟩
   case round=>
    obtain ⟨rfl,rfl⟩:=hrel
    go_wp2
    go_ret
    exact ⟨by rw [show leftS [] left=left by simp [leftS,bulkS,hl0]];rfl,rfl⟩
  ·go_enter Tryz.func206,Tryz.ntmps206
   go_wp2
   go_loop [1,5] (fun vl vi=>∃ (k:Nat) (l:Int),k≤ss.length∧vi=.int .i64 (k:Int)∧vl=.int .i64 l∧0≤l∧l≤1048576∧Hid (l=left-(ss.length:Int)-(((ss.take k).map ByteArray.size).sum:Int))) (fun _ vi=>ss.length-(intOf vi).toNat)
   case atStart=>exact ⟨0,_,Nat.zero_le _,rfl,rfl,by omega,by omega,by show _=_;simp⟩
   case round=>
    obtain ⟨k,l,hk,rfl,rfl,hq0,hq1,hl⟩:=hrel
    by_cases hlt':k<ss.length
    ·have hcx:=hc k hlt'
     have hsk:=hs ss[k] (List.getElem_mem hlt')
     have hsum:=sum_take_succ ss k hlt'
     obtain ⟨t,ht⟩: ∃ t,t=ss[k]:=⟨_,rfl⟩
     rw [←ht] at hcx hsk hsum
     have HS:Hid (((ss.take (k+1)).map ByteArray.size).sum=((ss.take k).map ByteArray.size).sum+t.size):=hsum
     have hki:(k:Int)<(ss.length:Int):=by omega
     clear hc hs ht hsum
     by_cases hneg:l-(t.size:Int)<0
     ·have e:leftS ss left= -1:=by
       have h1:=HS.out;have h2:=hl.out;have h3:=sum_take_le ss (k+1)
       rw [leftS,bulkS,if_neg (by omega)]
      have HE:Hid (leftS ss left= -1):=e
      clear e
      go_wp2
      go_ret
      exact ⟨by rw [HE.out];rfl,rfl⟩
     ·go_wp2
      go_round
      case rel=>exact ⟨k+1,l-(t.size:Int),by omega,by go_num,rfl,by omega,by omega,(by show _=_;rw [HS.out,hl.out];omega)⟩
      case measure=>simp [intOf];omega
    ·have he:k=ss.length:=by omega
     subst he
     have e:leftS ss left=l:=by
      have h2:=hl.out
      rw [List.take_length] at h2
      rw [leftS,bulkS,if_pos (by omega)];omega
     have HE:Hid (leftS ss left=l):=e
     clear hc hs e
     go_wp2
     go_ret
     exact ⟨by rw [HE.out];rfl,rfl⟩
theorem szVer_c (a b c:Int) (u:Value) (ps:List ByteArray) (left:Int) (hl0:0≤left) (hl1:left≤1048576) (w:World) (hu:Reads w u (strsV ps)) (hs:saneP ps):
  Calls Tryz.prog 203 #[.agg #[.int .i64 a,.int .i64 b,.int .i64 c,u],.int .i64 left] w fun e w'=>e=.returned (.int .i64 (leftS ps left))∧Below w.heap.size w w':=by
 have hbx: ∀ o,Below w.heap.size w (w.alloc o):=fun o=>(Below.refl _ _).alloc (Nat.le_refl _) _
 have hr: ∀ o,Reads (w.alloc o) u (strsV ps):=fun o=>hu.below (hbx o)
 obtain ⟨p,hp⟩: ∃ p,p=leftS ps left:=⟨_,rfl⟩
 have HS:Hid (∀ o,Calls Tryz.prog 206 #[u,.int .i64 left] (w.alloc o) fun e w'=>e=.returned (.int .i64 p)∧w.alloc o=w'):=fun o=>by rw [hp];exact sizeStrsL_c u ps _ left hl0 hl1 (hr o) hs.1 hs.2
 have hneg:p<0→p= -1:=by
  rw [hp];unfold leftS;split<;>intro h
  ·omega
  ·rfl
 have HN:Hid (p<0→p= -1):=hneg
 rw [←hp]
 obtain ⟨q,cap,rfl,_,_⟩:=reads_strs hu
 clear hneg hp hu hr hs
 by_cases h:p<0
 ·have e:=HN.out h
  subst e
  go_enter Tryz.func203,Tryz.ntmps203
  go_wp2_with (go_at_call 206;refine (HS.out _).mono ?_;rintro e w1 ⟨rfl,rfl⟩)
  go_ret
  exact ⟨rfl,hbx _⟩
 ·go_enter Tryz.func203,Tryz.ntmps203
  go_wp2_with (go_at_call 206;refine (HS.out _).mono ?_;rintro e w1 ⟨rfl,rfl⟩)
  go_ret
  exact ⟨rfl,hbx _⟩
theorem eqVer_c (a b c:Int) (u u':Value) (ps:List ByteArray) (w:World) (hu:Reads w u (strsV ps)) (hu':Reads w u' (strsV ps)) (hn:ps.length≤1048576):
  Calls Tryz.prog 205 #[.agg #[.int .i64 a,.int .i64 b,.int .i64 c,u],.agg #[.int .i64 a,.int .i64 b,.int .i64 c,u']] w fun e w'=>e=.returned (.bool true)∧Below w.heap.size w w':=by
 have hbx: ∀ o o',Below w.heap.size w ((w.alloc o).alloc o'):=fun o o'=>((Below.refl _ _).alloc (Nat.le_refl _) _).alloc (by simp) _
 have HS:Hid (∀ o o',Calls Tryz.prog 210 #[u,u'] ((w.alloc o).alloc o') fun e w'=>e=.returned (.bool true)∧Below ((w.alloc o).alloc o').heap.size ((w.alloc o).alloc o') w'):=fun o o'=>by
  have:=eqStrs_c u u' ps ps _ (hu.below (hbx o o')) (hu'.below (hbx o o')) (by omega)
  rwa [decide_eq_true rfl] at this
 obtain ⟨q,cap,rfl,_,_⟩:=reads_strs hu
 obtain ⟨q',cap',rfl,_,_⟩:=reads_strs hu'
 clear hu hu'
 go_enter Tryz.func205,Tryz.ntmps205
 go_wp2_with (go_at_call 210;refine (HS.out _ _).mono ?_;rintro e w1 ⟨rfl,b1⟩)
 go_ret
 exact ⟨rfl,(hbx _ _).trans (b1.mono (by simp;omega))⟩
theorem vthree {w w1:World} {A R O:Obj} (hb:Below (((w.alloc A).alloc R).alloc O).heap.size (((w.alloc A).alloc R).alloc O) w1):
  w1.heap[w.heap.size]?=some A∧w1.heap[w.heap.size+1]?=some R∧w1.heap[w.heap.size+1+1]?=some O:=by
 have s1:(w.alloc A).heap.size=w.heap.size+1:=by simp
 have s2:((w.alloc A).alloc R).heap.size=w.heap.size+1+1:=by simp
 refine ⟨?_,?_,?_⟩
 ·rw [hb.block _ (by simp;omega),vheap_old _ _ (by simp;omega),vheap_old _ _ (by simp),vheap_new]
 ·rw [hb.block _ (by simp),vheap_old _ _ (by simp), ←s1,vheap_new]
 ·rw [hb.block _ (by simp), ←s2,vheap_new]
theorem lw (n:Nat) (l:Int):((n:Int)≤l∧leftW n l=l-(n:Int))∨(l<(n:Int)∧leftW n l= -1):=by
 by_cases h:(n:Int)≤l
 ·exact .inl ⟨h,leftW_good h⟩
 ·exact .inr ⟨by omega,leftW_bad h⟩
def StrsOwn (S:Nat→Prop) (w:World) (u:Value) (ss:List ByteArray):Prop:=w.ownsRow 0 9 1 u ss.length (strsV ss)∧∀ g,u.ownBlock=some g→S g
theorem StrsOwn.keep {S:Nat→Prop} {w w':World} {u:Value} {ss:List ByteArray} (hk:Kp S w w') (h:StrsOwn S w u ss):StrsOwn S w' u ss:=⟨owns_kept hk h.2 h.1,h.2⟩
theorem StrsOwn.mono {S S':Nat→Prop} {w:World} {u:Value} {ss:List ByteArray} (hS: ∀ b,S b→S' b) (h:StrsOwn S w u ss):StrsOwn S' w u ss:=⟨h.1,fun g hg=>hS g (h.2 g hg)⟩
theorem StrsOwn.plain {S:Nat→Prop} {w:World} {u:Value} {ss:List ByteArray} (h:StrsOwn S w u ss):RdB S w u (strsV ss):=by
 obtain ⟨a,cap,hv,hc,hx⟩:=reads_of_owns h.1
 refine ⟨a,cap,hv,hc,?_⟩
 rcases hx with hx|⟨b,off,rfl,hlt,hx⟩
 ·exact .inl hx
 ·exact .inr ⟨b,off,rfl,h.2 b (by rw [hv];rfl),hx⟩
structure NeedD where
 n:ByteArray
 r:ByteArray
def wtNeed (d:NeedD):Nat:=d.n.size+d.r.size
def shNeed :Sh NeedD where
 n:=2
 lies S w cs d:=cs=[.string d.n,.string d.r]∧d.n.size≤maxLen∧d.r.size≤maxLen
 keep hk h:=by obtain ⟨h0,h1,h2⟩:=h;exact ⟨h0,h1,h2⟩
 mono hS h:=by obtain ⟨h0,h1,h2⟩:=h;exact ⟨h0,h1,h2⟩
def rowOk {α:Type} (p:α→Bool) (key:α→ByteArray) (d:α) (pre:Option α):Bool:=p d&&(match pre with|none=>true|some c=>Op.bytesLess (key c).toList (key d).toList)
def preX {α:Type} (xs:List α):Nat→Option α
 |0=>none
 |j+1=>xs[j]?
def rowUpto {α:Type} (p:α→Bool) (key:α→ByteArray) (xs:List α):Nat→Bool
 |0=>true
 |k+1=>rowUpto p key xs k&&(match xs[k]? with|none=>true|some d=>rowOk p key d (preX xs k))
def rowB {α:Type} (p:α→Bool) (key:α→ByteArray) (xs:List α):Bool:=rowUpto p key xs xs.length
theorem rowUpto_step {α:Type} {p:α→Bool} {key:α→ByteArray} {xs:List α} {k:Nat} (hk:k<xs.length) (h:rowUpto p key xs k=true) (h2:rowOk p key xs[k] (preX xs k)=true):rowUpto p key xs (k+1)=true:=by
 rw [rowUpto,h,List.getElem?_eq_getElem hk];simpa using h2
theorem rowUpto_bad {α:Type} {p:α→Bool} {key:α→ByteArray} {xs:List α} {k:Nat} (hk:k<xs.length) (h2:rowOk p key xs[k] (preX xs k)=false): ∀ n,k<n→rowUpto p key xs n=false
 |0,h=>by omega
 |n+1,h=>by
  rw [rowUpto]
  by_cases e:k=n
  ·subst e;rw [List.getElem?_eq_getElem hk];simp [h2]
  ·rw [rowUpto_bad hk h2 n (by omega)];rfl
theorem rowOk_no {α:Type} {p:α→Bool} {key:α→ByteArray} {d:α} {o:Option α} (h:p d=false):rowOk p key d o=false:=by simp [rowOk,h]
theorem rowOk_first {α:Type} {p:α→Bool} {key:α→ByteArray} {d:α} (h:p d=true):rowOk p key d none=true:=by simp [rowOk,h]
theorem rowOk_some {α:Type} {p:α→Bool} {key:α→ByteArray} {d c:α} (h:p d=true):rowOk p key d (some c)=Op.bytesLess (key c).toList (key d).toList:=by simp [rowOk,h]
theorem rowOk_less {α:Type} {p:α→Bool} {key:α→ByteArray} {d c:α} (h:Op.bytesLess (key c).toList (key d).toList=false):rowOk p key d (some c)=false:=by simp [rowOk,h]
def ascB (ts:List ByteArray):Bool:=rowB (fun _=>true) id ts
theorem asc_one (ts:List ByteArray):rowUpto (fun _=>true) id ts 1=true:=by
 rw [rowUpto,rowUpto]
 cases ts with
 |nil=>rfl
 |cons t ts=>rfl
theorem asc_end {ts:List ByteArray} {k:Nat} (h1:1≤k) (h2: ¬k<ts.length) (h3:k≤ts.length∨k=1) (h:rowUpto (fun _=>true) id ts k=true):ascB ts=true:=by
 cases ts with
 |nil=>rfl
 |cons t ts=>
  have:k=(t::ts).length:=by
   rcases h3 with h3|h3
   ·omega
   ·simp at h2 ⊢;omega
  rw [this] at h
  exact h
theorem rowUpto_split {α:Type} (p:α→Bool) (key:α→ByteArray) (xs:List α): ∀ k,k≤xs.length→rowUpto p key xs k=((xs.take k).all p&&rowUpto (fun _=>true) id (xs.map key) k)
 |0,_=>rfl
 |k+1,h=>by
  have hk:k<xs.length:=by omega
  rw [rowUpto,rowUpto_split p key xs k (by omega),List.getElem?_eq_getElem hk,List.take_succ_eq_append_getElem hk,List.all_append]
  have hm:(xs.map key)[k]?=some (key xs[k]):=by simp [hk]
  have hp:preX (xs.map key) k=(preX xs k).map key:=by
   cases k with
   |zero=>rfl
   |succ j=>simp [preX]
  simp only [rowUpto,hm,hp,rowOk,List.all_cons,List.all_nil,Bool.and_true,Bool.true_and]
  cases preX xs k with
  |none=>simp only [Option.map_none];cases (xs.take k).all p<;>cases rowUpto (fun _=>true) id (xs.map key) k<;>cases p xs[k]<;>rfl
  |some c=>simp only [Option.map_some,id];cases (xs.take k).all p<;>cases rowUpto (fun _=>true) id (xs.map key) k<;>cases p xs[k]<;>cases Op.bytesLess (key c).toList (key xs[k]).toList<;>rfl
theorem rowB_split {α:Type} (p:α→Bool) (key:α→ByteArray) (xs:List α):rowB p key xs=(xs.all p&&ascB (xs.map key)):=by
 unfold rowB ascB rowB
 rw [rowUpto_split p key xs _ (Nat.le_refl _),List.take_length,List.length_map]
def firstI {α:Type} (p:α→Bool) (xs:List α):Int:=if xs.findIdx p<xs.length then (xs.findIdx p:Int) else-1
theorem firstI_here {α:Type} {p:α→Bool} {xs:List α} {k:Nat} (h:k<xs.length) (hy:p xs[k]=true) (hn: ∀ j (hj:j<xs.length),j<k→p xs[j]=false):firstI p xs=(k:Int):=by
 have e:xs.findIdx p=k:=by
  rw [List.findIdx_eq h]
  exact ⟨hy,fun j hj=>hn j (by omega) hj⟩
 unfold firstI
 rw [e,if_pos h]
theorem firstI_none {α:Type} {p:α→Bool} {xs:List α} (hn: ∀ j (hj:j<xs.length),p xs[j]=false):firstI p xs= -1:=by
 have e:xs.findIdx p=xs.length:=by
  rw [List.findIdx_eq_length]
  intro x hx
  obtain ⟨j,hj,rfl⟩:=List.mem_iff_getElem.1 hx
  exact hn j hj
 unfold firstI
 rw [e,if_neg (by omega)]
theorem firstI_any {α:Type} (p:α→Bool) (xs:List α):decide (0≤firstI p xs)=xs.any p:=by
 unfold firstI
 by_cases h:xs.findIdx p<xs.length
 ·rw [if_pos h,decide_eq_true (by omega)]
  have:=List.findIdx_lt_length.1 h
  obtain ⟨x,hx,hp⟩:=this
  exact (List.any_eq_true.2 ⟨x,hx,hp⟩).symm
 ·rw [if_neg h,decide_eq_false (by omega)]
  have e:xs.findIdx p=xs.length:=by have:=List.findIdx_le_length (xs:=xs) (p:=p);omega
  rw [List.findIdx_eq_length] at e
  cases ha:xs.any p with
  |false=>rfl
  |true=>
   obtain ⟨x,hx,hp⟩:=List.any_eq_true.1 ha
   have:=e x hx
   simp_all
structure PickD where
 name:ByteArray
 vA:Int
 vB:Int
 vC:Int
 vP:List ByteArray
def wtPick (d:PickD):Nat:=d.name.size+bulkS d.vP
def shPick :Sh PickD where
 n:=5
 lies S w cs d:=∃ u0,cs=[.string d.name,.int .i64 d.vA,.int .i64 d.vB,.int .i64 d.vC,u0]∧d.name.size≤maxLen∧RdB S w u0 (strsV d.vP)∧saneP d.vP
 keep hk h:=by obtain ⟨u0,h0,h1,h2,h3⟩:=h;exact ⟨u0,h0,h1,h2.keep hk,h3⟩
 mono hS h:=by obtain ⟨u0,h0,h1,h2,h3⟩:=h;exact ⟨u0,h0,h1,h2.mono hS,h3⟩
def shPickO :Sh PickD where
 n:=5
 lies S w cs d:=∃ u0,cs=[.string d.name,.int .i64 d.vA,.int .i64 d.vB,.int .i64 d.vC,u0]∧d.name.size≤maxLen∧StrsOwn S w u0 d.vP∧saneP d.vP
 keep hk h:=by obtain ⟨u0,h0,h1,h2,h3⟩:=h;exact ⟨u0,h0,h1,h2.keep hk,h3⟩
 mono hS h:=by obtain ⟨u0,h0,h1,h2,h3⟩:=h;exact ⟨u0,h0,h1,h2.mono hS,h3⟩
theorem liesPick_plain {S:Nat→Prop} {w:World} {cs:List Value} {d:PickD} (h:shPickO.lies S w cs d):shPick.lies S w cs d:=by
 obtain ⟨u0,e0,s_name,r0,p0⟩:=h
 exact ⟨u0,e0,s_name,r0.plain,p0⟩
end Go.Proofs.YtlfmefojcmpfeaaGreatDoor
