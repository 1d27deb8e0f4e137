/-
  The text of a value, as the program tells it: contracts; conditions: the value lies in memory, holds at most 2 to the 20, and the library's powers of ten are there.
-/
import Derived.Test.YtbolphjigjpmiaaDoorVtF4
import Derived.Test.YtbolphjigjpmiaaDoorVtF5
import Derived.Laws.BytesArg
import Derived.Laws.IdiomStrings
namespace Go.Proofs.YtbolphjigjpmiaaDoor
open Go.RowKit
set_option linter.unusedSimpArgs false
set_option linter.unusedVariables false

theorem as_nullv_boolv (y : Value) (w : World) : (Instr.typeAssert (.iface 68 y) 40 53 true).run Tryd.prog w = .ok (.tuple #[.bool false, .bool false]) w := by kernel_rfl
theorem as_nullv_numv (y : Value) (w : World) : (Instr.typeAssert (.iface 68 y) 40 55 true).run Tryd.prog w = .ok (.tuple #[.int .i64 0, .bool false]) w := by kernel_rfl
theorem as_nullv_textv (y : Value) (w : World) : (Instr.typeAssert (.iface 68 y) 40 57 true).run Tryd.prog w = .ok (.tuple #[.string ⟨#[]⟩, .bool false]) w := by kernel_rfl
theorem as_nullv_listv (y : Value) (w : World) : (Instr.typeAssert (.iface 68 y) 40 60 true).run Tryd.prog w = .ok (.tuple #[.slice none 0 0, .bool false]) w := by kernel_rfl
theorem as_nullv_mapv (y : Value) (w : World) : (Instr.typeAssert (.iface 68 y) 40 63 true).run Tryd.prog w = .ok (.tuple #[.slice none 0 0, .bool false]) w := by kernel_rfl
theorem as_boolv_boolv (y : Value) (w : World) : (Instr.typeAssert (.iface 53 y) 40 53 true).run Tryd.prog w = .ok (.tuple #[y, .bool true]) w := by kernel_rfl
theorem as_numv_boolv (y : Value) (w : World) : (Instr.typeAssert (.iface 55 y) 40 53 true).run Tryd.prog w = .ok (.tuple #[.bool false, .bool false]) w := by kernel_rfl
theorem as_numv_numv (y : Value) (w : World) : (Instr.typeAssert (.iface 55 y) 40 55 true).run Tryd.prog w = .ok (.tuple #[y, .bool true]) w := by kernel_rfl
theorem as_textv_boolv (y : Value) (w : World) : (Instr.typeAssert (.iface 57 y) 40 53 true).run Tryd.prog w = .ok (.tuple #[.bool false, .bool false]) w := by kernel_rfl
theorem as_textv_numv (y : Value) (w : World) : (Instr.typeAssert (.iface 57 y) 40 55 true).run Tryd.prog w = .ok (.tuple #[.int .i64 0, .bool false]) w := by kernel_rfl
theorem as_textv_textv (y : Value) (w : World) : (Instr.typeAssert (.iface 57 y) 40 57 true).run Tryd.prog w = .ok (.tuple #[y, .bool true]) w := by kernel_rfl
theorem as_listv_boolv (y : Value) (w : World) : (Instr.typeAssert (.iface 60 y) 40 53 true).run Tryd.prog w = .ok (.tuple #[.bool false, .bool false]) w := by kernel_rfl
theorem as_listv_numv (y : Value) (w : World) : (Instr.typeAssert (.iface 60 y) 40 55 true).run Tryd.prog w = .ok (.tuple #[.int .i64 0, .bool false]) w := by kernel_rfl
theorem as_listv_textv (y : Value) (w : World) : (Instr.typeAssert (.iface 60 y) 40 57 true).run Tryd.prog w = .ok (.tuple #[.string ⟨#[]⟩, .bool false]) w := by kernel_rfl
theorem as_listv_listv (y : Value) (w : World) : (Instr.typeAssert (.iface 60 y) 40 60 true).run Tryd.prog w = .ok (.tuple #[y, .bool true]) w := by kernel_rfl
theorem as_mapv_boolv (y : Value) (w : World) : (Instr.typeAssert (.iface 63 y) 40 53 true).run Tryd.prog w = .ok (.tuple #[.bool false, .bool false]) w := by kernel_rfl
theorem as_mapv_numv (y : Value) (w : World) : (Instr.typeAssert (.iface 63 y) 40 55 true).run Tryd.prog w = .ok (.tuple #[.int .i64 0, .bool false]) w := by kernel_rfl
theorem as_mapv_textv (y : Value) (w : World) : (Instr.typeAssert (.iface 63 y) 40 57 true).run Tryd.prog w = .ok (.tuple #[.string ⟨#[]⟩, .bool false]) w := by kernel_rfl
theorem as_mapv_listv (y : Value) (w : World) : (Instr.typeAssert (.iface 63 y) 40 60 true).run Tryd.prog w = .ok (.tuple #[.slice none 0 0, .bool false]) w := by kernel_rfl
theorem as_mapv_mapv (y : Value) (w : World) : (Instr.typeAssert (.iface 63 y) 40 63 true).run Tryd.prog w = .ok (.tuple #[y, .bool true]) w := by kernel_rfl
set_option maxHeartbeats 8000000 in
set_option maxRecDepth 100000 in
theorem putI_step (k n : Int) (s : ByteArray) (l : List Tree) (ks : List ByteArray) (ih : ∀ U ∈ l, PutIC U) : PutIC (.mk k n s l ks) := by
  intro B v x t w d hx hB hv hg hw hl htab
  obtain ⟨i0, hi, hz0, hz1, hz2⟩ := info_parts infoB
  have hv0 : w.ownsRow B 5 1 v t.size (Lib.strCells t) := hv
  rw [good_mk] at hg
  simp at hg
  obtain ⟨⟨_, hh⟩, hgl⟩ := hg
  rw [wt_mk] at hw
  have hwl : wtL l ≤ 1048576 := by omega
  have hwk : bulkS ks ≤ 1048576 := by omega
  have hws : s.size ≤ 1048576 := by omega
  obtain ⟨q0, c0, hq⟩ := owns_sliceP hv0
  subst hq
  rw [txt_mk] at hl
  rw [txt_mk]
  rcases hx.inv with ⟨rfl, rfl⟩ | ⟨rfl, rfl⟩ | ⟨rfl, rfl⟩ | ⟨rfl, rfl⟩ | ⟨rfl, a, cap, X, rfl, hc, ha, hX⟩ | ⟨rfl, a, cap, X, rfl, hc, ha, hX⟩
  · rw [if_pos rfl]
    rw [if_pos rfl] at hl
    have h4 : (⟨#[110, 117, 108, 108]⟩ : ByteArray).size = 4 := by decide
    clear ih hx hh hgl hv htab
    have F0 := as_nullv_boolv
    have F1 := as_nullv_numv
    have F2 := as_nullv_textv
    have F3 := as_nullv_listv
    have F4 := as_nullv_mapv
    go_enter Tryd.func16, Tryd.ntmps16
    go_wp2_with (at_builtin; refine Lib.wpList_append_own_string _ rfl _ _ 43 9 rfl B 5 i0 Tryd.underlying43 Tryd.underlying9 hi hz0 hz1 hz2 _ t.size _ rfl hv0 ⟨#[110, 117, 108, 108]⟩ rfl (by unfold maxLen; omega) (by omega) hB ?_)
    intro v1 w1 o1 gr1 _
    have r1 := RowS.app (m := ⟨#[110, 117, 108, 108]⟩) o1 rfl rfl
    have b1 : KB B w w1 := (KB.refl B w).grown hv0 gr1 hB
    go_wp2_with fail
    go_ret
    exact ⟨_, rfl, r1, b1⟩
  · rw [if_neg (by decide), if_pos rfl]
    have h5 : t.size + 5 ≤ 70368744177664 := by
      rw [if_neg (by decide), if_pos rfl] at hl
      omega
    have HC := hidden (appendBool_c B _ t (n == 1) w hv hB h5)
    have hbn : (if (n == 1) = true then (⟨#[116, 114, 117, 101]⟩ : ByteArray) else ⟨#[102, 97, 108, 115, 101]⟩) = if n = 1 then ⟨#[116, 114, 117, 101]⟩ else ⟨#[102, 97, 108, 115, 101]⟩ := by
      by_cases h : n = 1 <;> simp [h]
    rw [hbn] at HC
    obtain ⟨TB, hTB⟩ : ∃ T, T = t ++ (if n = 1 then (⟨#[116, 114, 117, 101]⟩ : ByteArray) else ⟨#[102, 97, 108, 115, 101]⟩) := ⟨_, rfl⟩
    rw [← hTB] at HC
    rw [← hTB]
    obtain ⟨bb, hbb⟩ : ∃ b, b = (n == 1) := ⟨_, rfl⟩
    rw [← hbb] at HC
    rw [← hbb]
    clear ih hx hh hgl hv htab hl hTB hbb hbn
    have F0 := as_boolv_boolv
    go_enter Tryd.func16, Tryd.ntmps16
    go_wp2_with (go_at_call 23; refine HC.out.mono ?_; rintro e w1 ⟨v1, rfl, r1, b1⟩)
    go_ret
    exact ⟨_, rfl, r1, b1⟩
  · rw [if_neg (by decide), if_neg (by decide), if_pos rfl]
    rw [if_neg (by decide), if_neg (by decide), if_pos rfl] at hl
    have hn : -999999 ≤ n ∧ n ≤ 999999 := by
      rcases kind_of hh with h | h | ⟨_, h0, h1⟩ | h | h | ⟨h, _⟩
      · cases h
      · cases h
      · exact ⟨h0, h1⟩
      · cases h
      · cases h
      · cases h
    have HC : Hid (Calls Tryd.prog 24 #[.slice q0 t.size c0, .int .i64 n, .int .i64 10] w fun e w' => ∃ v', e = .returned v' ∧ RowS B w' v' (t ++ numS n) ∧ KB B w w') := (Tryd.strconv_AppendInt_10 B t.size n (by omega) (by omega) _ _ w hv0 hB (by omega) htab).mono (by
      rintro e w' ⟨v', he, ho, hb, hk⟩
      exact ⟨v', he, RowS.app (m := numS n) ho rfl (by simp [numS, ByteArray.size]), ⟨hb, hk⟩⟩)
    obtain ⟨TB, hTB⟩ : ∃ T, T = t ++ numS n := ⟨_, rfl⟩
    rw [← hTB] at HC
    rw [← hTB]
    clear ih hx hh hgl hv htab hl hTB
    have F0 := as_numv_boolv
    have F1 := as_numv_numv
    go_enter Tryd.func16, Tryd.ntmps16
    go_wp2_with (go_at_call 24; refine HC.out.mono ?_; rintro e w1 ⟨v1, rfl, r1, b1⟩)
    go_ret
    exact ⟨_, rfl, r1, b1⟩
  · rw [if_neg (by decide), if_neg (by decide), if_neg (by decide), if_pos rfl]
    rw [if_neg (by decide), if_neg (by decide), if_neg (by decide), if_pos rfl] at hl
    have HC := hidden (putQuoted_c B _ t s w hv hB hws (by omega))
    obtain ⟨TB, hTB⟩ : ∃ T, T = t ++ quoteS s := ⟨_, rfl⟩
    rw [← hTB] at HC
    rw [← hTB]
    clear ih hx hh hgl hv htab hl hTB
    have F0 := as_textv_boolv
    have F1 := as_textv_numv
    have F2 := as_textv_textv
    go_enter Tryd.func16, Tryd.ntmps16
    go_wp2_with (go_at_call 25; refine HC.out.mono ?_; rintro e w1 ⟨v1, rfl, r1, b1⟩)
    go_ret
    exact ⟨_, rfl, r1, b1⟩
  · rw [if_neg (by decide), if_neg (by decide), if_neg (by decide), if_neg (by decide), if_neg (by decide)]
    rw [if_neg (by decide), if_neg (by decide), if_neg (by decide), if_neg (by decide), if_neg (by decide)] at hl
    have hl2 : t.size + (itemsTxt l true).size + 2 ≤ 35184372088832 := by
      simp only [ByteArray.size_append] at hl
      have e1 : (⟨#[91]⟩ : ByteArray).size = 1 := by decide
      have e2 : (⟨#[93]⟩ : ByteArray).size = 1 := by decide
      omega
    have HC := hidden (putList_c l ks ih B _ a cap X t w (d + 1) hc ha hX hB hv hgl hwl hwk trivial hl2 htab)
    obtain ⟨TB, hTB⟩ : ∃ T, T = t ++ (⟨#[91]⟩ ++ (itemsTxt l true ++ ⟨#[93]⟩)) := ⟨_, rfl⟩
    rw [← hTB] at HC
    rw [← hTB]
    have hll : l.length ≤ 1048576 := Nat.le_trans (length_le_wtL l) hwl
    clear ih hx hh hgl hv htab hl hTB ha hX
    have F0 := as_listv_boolv
    have F1 := as_listv_numv
    have F2 := as_listv_textv
    have F3 := as_listv_listv
    go_enter Tryd.func16, Tryd.ntmps16
    go_wp2_with (go_at_call 26; refine HC.out.mono ?_; rintro e w1 ⟨v1, rfl, r1, b1⟩)
    go_ret
    exact ⟨_, rfl, r1, b1⟩
  · rw [if_neg (by decide), if_neg (by decide), if_neg (by decide), if_neg (by decide), if_pos rfl]
    rw [if_neg (by decide), if_neg (by decide), if_neg (by decide), if_neg (by decide), if_pos rfl] at hl
    have hkl : ks.length = l.length := by
      rcases kind_of hh with h | h | ⟨h, _⟩ | h | h | ⟨_, h⟩
      · cases h
      · cases h
      · cases h
      · cases h
      · cases h
      · exact h
    have hl2 : t.size + (fieldsTxt l ks true).size + 2 ≤ 35184372088832 := by
      simp only [ByteArray.size_append] at hl
      have e1 : (⟨#[123]⟩ : ByteArray).size = 1 := by decide
      have e2 : (⟨#[125]⟩ : ByteArray).size = 1 := by decide
      omega
    have HC := hidden (putMap_c l ks ih B _ a cap X t w (d + 1) hc ha hX hB hv hgl hwl hwk hkl hl2 htab)
    obtain ⟨TB, hTB⟩ : ∃ T, T = t ++ (⟨#[123]⟩ ++ (fieldsTxt l ks true ++ ⟨#[125]⟩)) := ⟨_, rfl⟩
    rw [← hTB] at HC
    rw [← hTB]
    have hll : l.length ≤ 1048576 := Nat.le_trans (length_le_wtL l) hwl
    clear ih hx hh hgl hv htab hl hTB ha hX
    have F0 := as_mapv_boolv
    have F1 := as_mapv_numv
    have F2 := as_mapv_textv
    have F3 := as_mapv_listv
    have F4 := as_mapv_mapv
    go_enter Tryd.func16, Tryd.ntmps16
    go_wp2_with (go_at_call 27; refine HC.out.mono ?_; rintro e w1 ⟨v1, rfl, r1, b1⟩)
    go_ret
    exact ⟨_, rfl, r1, b1⟩
theorem putI_all : ∀ T, PutIC T := Tree.ind fun k n s l ks ih => putI_step k n s l ks ih

theorem conv_row {w : World} {B : Nat} {v : Value} {t : ByteArray} (h : RowS B w v t) : (convert 43 9 v).run Tryd.prog w = .ok (.string t) w := by
  have h0 : w.ownsRow B 5 1 v t.size (Lib.strCells t) := h
  rcases id h0.2 with ⟨rfl, hn⟩ | ⟨g, cap, cur, rfl, _⟩
  · rw [run_convert_bytes_nil w 43 5 Tryd.underlying43 Tryd.underlying5 0 0 9 Tryd.underlying9]
    have e : t = ByteArray.empty := by
      apply ByteArray.ext
      have : t.data.size = 0 := hn
      rw [Array.eq_empty_of_size_eq_zero this]
      rfl
    rw [e]
  · have hc := run_convert_bytes_back (P := Tryd.prog) w 43 9 5 ⟨g, 0, none⟩ cap t.data.toList Tryd.underlying43 Tryd.underlying5 Tryd.underlying9 (fun j hj => by
      have hj2 : j < t.size * 1 := by simpa using hj
      have e : ((⟨g, 0, none⟩ : Addr).add j) = ⟨g, j, none⟩ := by unfold Addr.add; split <;> simp_all
      rw [e, h0.cellAt j hj2]
      simp [Lib.strCells, List.getElem?_eq_getElem hj])
    have e2 : t.data.toList.length = t.size := Array.length_toList
    rw [e2] at hc
    exact hc

set_option maxHeartbeats 8000000 in
set_option maxRecDepth 100000 in
theorem implValText_c (T : Tree) (S : Nat → Prop) (v : Value) (w : World) (hv : Lies S w v T) (hB : ∀ b, S b → b < w.heap.size) (hw : T.wt ≤ 1048576) (htab : Lib.TabIs Tryd.prog w "internal/strconv.uint64pow10" .u64 Lib.pow10Tab) :
    Calls Tryd.prog 7 #[v] w fun e w' => e = .returned (.string (vtxt T)) ∧ Below w.heap.size w w' := by
  have hbx : ∀ o, Below w.heap.size w (w.alloc o) := fun o => (Below.refl _ _).alloc (Nat.le_refl _) _
  have HOF : Hid (∀ w1, Below w.heap.size w w1 → Calls Tryd.prog 15 #[v] w1 fun e w' => ∃ x, e = .returned (.tuple #[x, .bool T.ok]) ∧ Below w1.heap.size w1 w' ∧ (T.ok = true → XLies (Own w1.heap.size w'.heap.size) w' x T)) := fun w1 h => valueOf_c T S v w1 (hv.keep (.of h hB)) (fun b hb => Nat.lt_of_lt_of_le (hB b hb) h.size) hw
  have HTAB := hidden htab
  obtain ⟨k, n, s, a, m, cap, a', m', cap', rfl⟩ := hv.parts
  clear hv htab
  unfold vtxt
  cases hok : T.ok with
  | false =>
    rw [hok] at HOF
    rw [if_neg (by simp)]
    clear hok
    go_enter Tryd.func7, Tryd.ntmps7
    go_wp2_with (go_at_call 15; refine (HOF.out _ (hbx _)).mono ?_; rintro e w1 ⟨x, rfl, b1, _⟩)
    go_ret
    exact ⟨rfl, (hbx _).trans (b1.mono (hbx _).size)⟩
  | true =>
    rw [hok] at HOF
    rw [if_pos rfl]
    have hg : T.good 1 = true := by unfold Tree.ok at hok; simp at hok; exact hok.1
    have hts := txt_size T 1 hg
    have HPI : Hid (∀ w1 x, Below w.heap.size w w1 → XLies (· < w1.heap.size) w1 x T → Calls Tryd.prog 16 #[.slice none 0 0, x] w1 fun e w' => ∃ v', e = .returned v' ∧ RowS w1.heap.size w' v' T.txt ∧ KB w1.heap.size w1 w') := fun w1 x h hx => (putI_all T w1.heap.size (.slice none 0 0) x ⟨#[]⟩ w1 1 hx (Nat.le_refl _) (World.ownsRow_nil _ _ _ _) hg hw (by have : (⟨#[]⟩ : ByteArray).size = 0 := rfl; omega) (Lib.tabBelow_of_tabIs (tabIs_below h HTAB.out))).mono (by
      rintro e w' ⟨v', he, hr, hk⟩
      rw [empty_append'] at hr
      exact ⟨v', he, hr, hk⟩)
    obtain ⟨X, hX⟩ : ∃ X, X = T.txt := ⟨_, rfl⟩
    simp only [← hX] at HPI
    rw [← hX]
    clear hok hg hts hX
    go_enter Tryd.func7, Tryd.ntmps7
    go_wp2_with fail
    go_at_call 15
    refine (HOF.out _ (hbx _)).mono ?_
    rintro e w1 ⟨x, rfl, b1, hx⟩
    have hx1 := (hx (by first | rfl | trivial)).mono (S' := (· < w1.heap.size)) (fun b hb => hb.2)
    have k1 := (hbx (.cells #[.int .i64 k, .int .i64 n, .string s, .slice a m cap, .slice a' m' cap'] 30)).trans (b1.mono (hbx _).size)
    obtain ⟨ti, yi, hxe⟩ := hx1.boxed
    subst hxe
    have HP2 := hidden (HPI.out w1 _ k1 hx1)
    clear hx hx1 b1 HPI HOF
    go_wp2_with fail
    go_at_call 16
    refine HP2.out.mono ?_
    rintro e w2 ⟨v2, rfl, r2, b2⟩
    have hcv := conv_row r2
    have k2 := k1.trans (b2.b.mono k1.size)
    clear HP2 r2
    go_wp2_with fail
    go_ret
    exact ⟨rfl, k2⟩
end Go.Proofs.YtbolphjigjpmiaaDoor
