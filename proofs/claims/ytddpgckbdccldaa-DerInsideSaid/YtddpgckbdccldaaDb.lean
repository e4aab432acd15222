/- bits.Len of a word. der.Text and der.TextOf. der.lowest. der.Int. -/
import Derived.Test.YtddpgckbdccldaaDa
import Derived.Laws.IdiomStrings
import Derived.Laws.BytesArg
import Derived.Laws.BitsLemmas
namespace Go.Proofs.Ytddpgckbdccldaa
open Go.RowKit
set_option linter.unusedVariables false
set_option linter.unusedSimpArgs false
set_option maxRecDepth 100000
theorem len_any (x : Int) (w : World) (h0 : 0 ≤ x) (h1 : x ≤ 18446744073709551615) : Calls Try.prog 41 #[.int .u64 x] w fun e w' => e = .returned (.int .i64 (Lib.bitLen x.toNat)) ∧ w' = w := by
  have H := Lib.hid (len64_any x w h0 h1)
  have e1 : IntKind.u64.wrap x = x := by rw [IntKind.wrap_u64]; omega
  go_enter Try.func41, Try.ntmps41
  go_wp2_with fail
  refine (H.out).mono ?_
  rintro e w' ⟨rfl, rfl⟩
  go_wp2_with fail
  go_ret
  exact ⟨rfl, rfl⟩
end Go.Proofs.Ytddpgckbdccldaa
namespace Go.Proofs.Ytddpgckbdccldaa
open Go.RowKit
set_option linter.unusedVariables false
set_option linter.unusedSimpArgs false
set_option maxRecDepth 100000
/-- a text's bytes as numbers -/
def nums (s : ByteArray) : List Nat := s.data.toList.map UInt8.toNat
theorem nums_len (s : ByteArray) : (nums s).length = s.size := by unfold nums; simp
theorem nums_lim (s : ByteArray) : Lim 256 (nums s) := by
  intro x hx
  unfold nums at hx
  simp only [List.mem_map] at hx
  obtain ⟨b, _, rfl⟩ := hx
  exact b.toNat_lt
/-- the text of some bytes -/
def bstr (xs : List Nat) : ByteArray := strOfNums (xs.map fun x : Nat => (x : Int))
theorem conv_nb {w : World} {B n c b off : Nat} {xs : List Nat} (h : Nb w B (some ⟨b, off, none⟩) n c xs) : (convert 22 9 (.slice (some ⟨b, off, none⟩) n c)).run Try.prog w = .ok (.string (bstr xs)) w := by
  have h9 : Try.prog.underlying 9 = some .string := by kernel_rfl
  refine run_convert_bytes_arg w 22 5 Try.underlying22 Try.underlying5 b off n c (xs.map fun x : Nat => (x : Int)) (by simp [h.len]) (fun i hi => ?_) 9 h9
  obtain ⟨b', off', e, _, hc⟩ := h.at_ hi
  cases e
  rw [hc]
  have : i < xs.length := by rw [h.len]; exact hi
  simp [List.getD, List.getElem?_eq_getElem this]
theorem conv_zero (A : Option Addr) (c : Nat) (w : World) : (convert 22 9 (.slice A 0 c)).run Try.prog w = .ok (.string (bstr [])) w := by
  cases A <;> rfl
theorem conv_any {w : World} {B n c : Nat} {A : Option Addr} {xs : List Nat} (h : Nb w B A n c xs) : (convert 22 9 (.slice A n c)).run Try.prog w = .ok (.string (bstr xs)) w := by
  by_cases h0 : n = 0
  · subst h0
    rw [List.eq_nil_of_length_eq_zero h.len]
    exact conv_zero A c w
  · obtain ⟨b, off, rfl, _⟩ := h.cell (by omega)
    exact conv_nb h
theorem eq_self (S : ByteArray) : (S.toList == S.toList) = true := by simp
theorem bstr_nums (s : ByteArray) : bstr (nums s) = s := by
  apply ByteArray.ext
  apply Array.ext'
  unfold bstr nums
  rw [strOfNums_data]
  simp [List.map_map, Function.comp_def]
/-- '[]byte(s)' -/
theorem conv_back (s : ByteArray) (hs : s.size ≤ 1000) (w : World) : ∃ c w2, (convert 9 22 (.string s)).run Try.prog w = .ok (.slice (some ⟨w.heap.size, 0, none⟩) s.size c) w2 ∧ Nb w2 w2.heap.size (some ⟨w.heap.size, 0, none⟩) s.size c (nums s) ∧ Below w.heap.size w w2 := by
  refine ⟨_, _, run_bytes_of_string w 9 22 5 s (by kernel_rfl) Try.underlying22 Try.underlying5, ⟨nums_len s, grownCap_ge _ _ _ _, grownCap_le_maxLen _ _ _ _ (by unfold maxLen; omega), nums_lim s, fun h0 => ⟨_, 0, rfl, by simp, fun j x hx => ?_⟩⟩, ((Below.refl _ _).drew).alloc (Nat.le_refl _) _⟩
  have hj : j < s.data.size := by
    have := (List.getElem?_eq_some_iff.1 hx).1
    rw [nums_len] at this; exact this
  rw [Nat.zero_add, cell_of_row (w.drew.alloc _) w.heap.size j _ 5 _ (heap_alloc_new w.drew _)]
  unfold bytesRow
  unfold nums at hx
  simp only [List.getElem?_map, Option.map_eq_some_iff] at hx
  obtain ⟨b, hb, rfl⟩ := hx
  rw [Array.getElem?_append_left (by simpa using hj)]
  simp at hb ⊢
  exact ⟨b, hb, rfl⟩
/-- block g holds the three cells of a struct -/
def Bx (w : World) (g : Nat) (t : TypeId) (a b c : Value) : Prop := w.heap[g]? = some (.cells #[a, b, c] t (0, 0))
theorem Bx.cells {w : World} {g : Nat} {t : TypeId} {a b c : Value} (h : Bx w g t a b c) : w.cell? ⟨g, 0, none⟩ = some a ∧ w.cell? ⟨g, 1, none⟩ = some b ∧ w.cell? ⟨g, 2, none⟩ = some c ∧ w.frozen? ⟨g, 0, none⟩ = false ∧ w.frozen? ⟨g, 1, none⟩ = false ∧ w.frozen? ⟨g, 2, none⟩ = false := by
  unfold Bx at h
  refine ⟨?_, ?_, ?_, ?_, ?_, ?_⟩
  · rw [cell_of_row w g 0 _ t (0, 0) h]; rfl
  · rw [cell_of_row w g 1 _ t (0, 0) h]; rfl
  · rw [cell_of_row w g 2 _ t (0, 0) h]; rfl
  all_goals simp [World.frozen?, h]
theorem Bx.set {w : World} {g : Nat} {t : TypeId} {a b c : Value} (h : Bx w g t a b c) (x y z : Value) : Bx (((w.setCell ⟨g, 0, none⟩ x).setCell ⟨g, 1, none⟩ y).setCell ⟨g, 2, none⟩ z) g t x y z := by
  unfold Bx at h ⊢
  simp [World.setCell, Array.getElem?_modify, h]
theorem Bx.new (w : World) (t : TypeId) (a b c : Value) : Bx (w.alloc (.cells #[a, b, c] t)) w.heap.size t a b c := heap_alloc_new w _
theorem Bx.keep {w w' : World} {g B : Nat} {t : TypeId} {a b c : Value} (h : Bx w g t a b c) (hb : Below B w w') (hg : g < B) : Bx w' g t a b c := (hb.block g hg).trans h
theorem Bx.lt {w : World} {g : Nat} {t : TypeId} {a b c : Value} (h : Bx w g t a b c) : g < w.heap.size := by
  rcases Nat.lt_or_ge g w.heap.size with hlt | hge
  · exact hlt
  · unfold Bx at h; rw [Array.getElem?_eq_none hge] at h; cases h
theorem below_set3 {w : World} {B g : Nat} {W : World} (h : Below B W w) (hg : B ≤ g) (x y z : Value) : Below B W (((w.setCell ⟨g, 0, none⟩ x).setCell ⟨g, 1, none⟩ y).setCell ⟨g, 2, none⟩ z) :=
  ((h.setCell (p := ⟨g, 0, none⟩) hg x).setCell (p := ⟨g, 1, none⟩) hg y).setCell (p := ⟨g, 2, none⟩) hg z
theorem cell_set3 {w : World} {g : Nat} (x y z : Value) {p : Addr} (hp : p.block ≠ g) : (((w.setCell ⟨g, 0, none⟩ x).setCell ⟨g, 1, none⟩ y).setCell ⟨g, 2, none⟩ z).cell? p = w.cell? p := by
  have e : (((w.setCell ⟨g, 0, none⟩ x).setCell ⟨g, 1, none⟩ y).setCell ⟨g, 2, none⟩ z).heap[p.block]? = w.heap[p.block]? := by
    simp [World.setCell, Array.getElem?_modify, Ne.symm hp]
  unfold World.cell?
  rw [e]
theorem size_set3 {w : World} {g : Nat} (x y z : Value) : (((w.setCell ⟨g, 0, none⟩ x).setCell ⟨g, 1, none⟩ y).setCell ⟨g, 2, none⟩ z).heap.size = w.heap.size := by
  simp [World.setCell]
theorem Nb.away3 {w : World} {B b off g n c : Nat} {xs : List Nat} (h : Nb w B (some ⟨b, off, none⟩) n c xs) (hb : b ≠ g) (x y z : Value) : Nb (((w.setCell ⟨g, 0, none⟩ x).setCell ⟨g, 1, none⟩ y).setCell ⟨g, 2, none⟩ z) B (some ⟨b, off, none⟩) n c xs :=
  ⟨h.len, h.cap, h.room, h.lim, fun hn => by
    obtain ⟨b', off', e, hlt, hc⟩ := h.cell hn
    cases e
    exact ⟨b, off, rfl, hlt, fun j x' hx => (cell_set3 x y z hb).trans (hc j x' hx)⟩⟩
/-- what Text hands back of a text -/
def Txt1 (s : ByteArray) (w : World) (e : Ending) (w' : World) : Prop := ∃ g c, e = .returned (.tuple #[leaf 12 (some ⟨g, 0, none⟩) s.size c, .int .i64 0]) ∧ Nb w' w'.heap.size (some ⟨g, 0, none⟩) s.size c (nums s) ∧ Below w.heap.size w w'
set_option maxHeartbeats 1000000 in
theorem text_yes (s : ByteArray) (hs : s.size ≤ 1000) (ht : txt (nums s) = true) (w : World) : Calls Try.prog 17 #[.string s] w (Txt1 s w) := by
  have hb1 : Below w.heap.size w (w.alloc (.cells #[.int .i64 0, .slice none 0 0, .slice none 0 0] 25)) := (Below.refl _ _).alloc (Nat.le_refl _) _
  obtain ⟨c, w2, hrun, hnb, hbel⟩ := conv_back s hs (w.alloc (.cells #[.int .i64 0, .slice none 0 0, .slice none 0 0] 25))
  have hz : (w.alloc (.cells #[.int .i64 0, .slice none 0 0, .slice none 0 0] 25)).heap.size = w.heap.size + 1 := by simp
  rw [hz] at hrun hnb
  have hg : Bx w2 w.heap.size 25 (.int .i64 0) (.slice none 0 0) (.slice none 0 0) := (Bx.new w 25 _ _ _).keep hbel (by rw [hz]; omega)
  obtain ⟨c0, c1, c2, f0, f1, f2⟩ := hg.cells
  have HN := Lib.hid (hnb.away3 (g := w.heap.size) (by omega) (.int .i64 12) (.slice (some ⟨w.heap.size + 1, 0, none⟩) s.size c) (.slice none 0 0))
  have HZ := Lib.hid (size_set3 (w := w2) (g := w.heap.size) (.int .i64 12) (.slice (some ⟨w.heap.size + 1, 0, none⟩) s.size c) (.slice none 0 0))
  have HN2 := Lib.hid hnb
  have HB := Lib.hid (below_set3 (bthen hb1 hbel) (Nat.le_refl _) (.int .i64 12) (.slice (some ⟨w.heap.size + 1, 0, none⟩) s.size c) (.slice none 0 0))
  have HG := Lib.hid (hg.set (.int .i64 12) (.slice (some ⟨w.heap.size + 1, 0, none⟩) s.size c) (.slice none 0 0))
  have HT := Lib.hid ht
  have HS := Lib.hid (show s.size ≤ 281474976710656 by omega)
  clear hb1 hnb hbel hz hg ht hs
  go_enter Try.func17, Try.ntmps17
  go_wp2_with fail
  refine (isText_any HN2.out HS.out).mono ?_
  rw [HT.out]
  rintro e w' ⟨rfl, rfl⟩
  go_wp2_with fail
  refine bodyPost_ret (v := .tuple #[leaf 12 (some ⟨w.heap.size + 1, 0, none⟩) s.size c, .int .i64 0]) (by rw [results_cell_tmp rfl]; simp [asAddr, run_loadVar_row _ w.heap.size 25 25 _ (0, 0) _ HG.out Try.underlying25 rfl (by kernel_rfl)]; rfl) rfl ?_
  exact ⟨_, _, rfl, by rw [HZ.out]; exact HN.out, HB.out⟩
set_option maxHeartbeats 1000000 in
theorem text_no (s : ByteArray) (hs : s.size ≤ 1000) (ht : txt (nums s) = false) (w : World) : Calls Try.prog 17 #[.string s] w fun e w' => e = .returned (.tuple #[.agg #[.int .i64 0, .slice none 0 0, .slice none 0 0], .int .i64 1]) ∧ Below w.heap.size w w' := by
  have hb1 : Below w.heap.size w (w.alloc (.cells #[.int .i64 0, .slice none 0 0, .slice none 0 0] 25)) := (Below.refl _ _).alloc (Nat.le_refl _) _
  obtain ⟨c, w2, hrun, hnb, hbel⟩ := conv_back s hs (w.alloc (.cells #[.int .i64 0, .slice none 0 0, .slice none 0 0] 25))
  have hz : (w.alloc (.cells #[.int .i64 0, .slice none 0 0, .slice none 0 0] 25)).heap.size = w.heap.size + 1 := by simp
  rw [hz] at hrun hnb
  have hg : Bx w2 w.heap.size 25 (.int .i64 0) (.slice none 0 0) (.slice none 0 0) := (Bx.new w 25 _ _ _).keep hbel (by rw [hz]; omega)
  obtain ⟨c0, c1, c2, f0, f1, f2⟩ := hg.cells
  have HN2 := Lib.hid hnb
  have HB := Lib.hid (below_set3 (bthen hb1 hbel) (Nat.le_refl _) (.int .i64 0) (.slice none 0 0) (.slice none 0 0))
  have HG := Lib.hid (hg.set (.int .i64 0) (.slice none 0 0) (.slice none 0 0))
  have HT := Lib.hid ht
  have HS := Lib.hid (show s.size ≤ 281474976710656 by omega)
  clear hb1 hnb hbel hz hg ht hs
  go_enter Try.func17, Try.ntmps17
  go_wp2_with fail
  refine (isText_any HN2.out HS.out).mono ?_
  rw [HT.out]
  rintro e w' ⟨rfl, rfl⟩
  go_wp2_with fail
  refine bodyPost_ret (v := .tuple #[.agg #[.int .i64 0, .slice none 0 0, .slice none 0 0], .int .i64 1]) (by rw [results_cell_tmp rfl]; simp [asAddr, run_loadVar_row _ w.heap.size 25 25 _ (0, 0) _ HG.out Try.underlying25 rfl (by kernel_rfl)]) rfl ?_
  exact ⟨rfl, HB.out⟩
set_option maxHeartbeats 1000000 in
/-- TextOf of a right text -/
theorem textOf_ok {w : World} {A : Option Addr} {n c : Nat} {xs : List Nat} (h : Nb w w.heap.size A n c xs) (hn : n ≤ 281474976710656) (ht : txt xs = true) : Calls Try.prog 27 #[leaf 12 A n c] w fun e w' => e = .returned (.tuple #[.string (bstr xs), .int .i64 0]) ∧ Below w.heap.size w w' := by
  have hb : Below w.heap.size w (w.alloc (.cells #[.int .i64 12, .slice A n c, .slice none 0 0] 25)) := (Below.refl _ _).alloc (Nat.le_refl _) _
  have H2 := Lib.hid (fun W (b : Below w.heap.size w W) => h.up b)
  have HB := Lib.hid hb
  have HR := Lib.hid (fun W (b : Below w.heap.size w W) => right_text (h.up b) hn)
  have HT := Lib.hid ht
  have HX := Lib.hid (Bx.new w 25 (.int .i64 12) (.slice A n c) (.slice none 0 0))
  have HZ := Lib.hid (show (w.alloc (.cells #[.int .i64 12, .slice A n c, .slice none 0 0] 25)).heap.size = w.heap.size + 1 by simp)
  clear h hb ht
  unfold leaf at *
  go_enter Try.func27, Try.ntmps27
  go_wp2_with fail
  refine (HR.out _ HB.out).mono ?_
  rw [HT.out]
  rintro e w1 ⟨rfl, b1⟩
  have HB1 := Lib.hid (bthen HB.out b1)
  obtain ⟨c0, c1, c2, f0, f1, f2⟩ := (HX.out.keep b1 (by rw [HZ.out]; omega)).cells
  have hcv := conv_any (H2.out w1 HB1.out)
  clear b1
  go_wp2_with fail
  go_ret2
  exact ⟨rfl, HB1.out⟩
end Go.Proofs.Ytddpgckbdccldaa
namespace Go.Proofs.Ytddpgckbdccldaa
open Go.RowKit
set_option linter.unusedVariables false
set_option linter.unusedSimpArgs false
set_option maxRecDepth 100000
/-- a number as a word -/
def wd (a : Int) : Nat := (a % 18446744073709551616).toNat
theorem wd_byte (a : Int) {j : Nat} (hj : j < 8) : a / 2 ^ (8 * j) % 256 = ((wd a / 256 ^ j % 256 : Nat) : Int) := by
  have hw : ((wd a : Nat) : Int) = a % 18446744073709551616 := by unfold wd; omega
  have : j = 0 ∨ j = 1 ∨ j = 2 ∨ j = 3 ∨ j = 4 ∨ j = 5 ∨ j = 6 ∨ j = 7 := by omega
  generalize wd a = v at *
  rcases this with rfl | rfl | rfl | rfl | rfl | rfl | rfl | rfl <;> simp only [Nat.reduceMul, Nat.reducePow, Int.reducePow, Nat.pow_zero, Nat.mul_zero, Int.pow_zero] <;> omega
theorem low_round {w wr : World} {m j t v : Nat} {z : Int} (hm : m = t + 1 + j) (how : Ob wr w.heap.size (List.replicate (m - j) 0 ++ bts v j)) (hbel : Below w.heap.size w wr) (hb : z = ((v / 256 ^ j % 256 : Nat) : Int)) :
    ∃ j' : Nat, j' ≤ m ∧ Value.int .i64 ((j : Int) + 1) = .int .i64 j' ∧ Ob (wr.setCell ⟨w.heap.size, t, none⟩ (.int .u8 z)) w.heap.size (List.replicate (m - j') 0 ++ bts v j') ∧
      Below w.heap.size w (wr.setCell ⟨w.heap.size, t, none⟩ (.int .u8 z)) := by
  refine ⟨j + 1, by omega, by simp, ?_, hbel.setCell (Nat.le_refl _) _⟩
  subst hb
  have h1 := how.set_ t (v / 256 ^ j % 256)
  rw [hm, show t + 1 + j - j = t + 1 by omega, List.replicate_succ', List.append_assoc] at h1
  rw [hm, show t + 1 + j - (j + 1) = t by omega]
  have h2 : (List.replicate t 0 ++ ([0] ++ bts v j)).set t (v / 256 ^ j % 256) = List.replicate t 0 ++ bts v (j + 1) := by
    simp [bts]
  rw [h2] at h1
  exact h1
set_option maxHeartbeats 1000000 in
theorem lowest_any (a : Int) (ha0 : -9223372036854775808 ≤ a) (ha1 : a ≤ 9223372036854775807) (m : Nat) (hm : m ≤ 8) (w : World) : Calls Try.prog 42 #[.int .i64 a, .int .i64 (m : Int)] w fun e w' => e = .returned (.slice (some ⟨w.heap.size, 0, none⟩) m m) ∧ Ob w' w.heap.size (bts (wd a) m) ∧ Below w.heap.size w w' := by
  go_enter Try.func42, Try.ntmps42
  go_wp2_with (refine wpList_make_ub _ rfl _ _ rfl _ _ m rfl rfl rfl rfl (by omega) ?_; intro w1 hw1 hg1)
  go_loopw [10] (fun i wr => ∃ (j : Nat), j ≤ m ∧ i = .int .i64 j ∧ Ob wr w.heap.size (List.replicate (m - j) 0 ++ bts (wd a) j) ∧ Below w.heap.size w wr) (fun i _ => m - (intOf i).toNat)
  case atStart => exact ⟨0, Nat.zero_le _, rfl, by simpa [bts] using hw1, below_none hg1 (Nat.le_refl _)⟩
  case round =>
    obtain ⟨j, hj, rfl, how, hbel⟩ := hrel
    by_cases hlt : j < m
    · obtain ⟨t, ht⟩ : ∃ t, m = t + 1 + j := ⟨m - 1 - j, by omega⟩
      have ei : (m : Int) - 1 - (j : Int) = (t : Int) := by omega
      have Ht := Lib.hid ht
      have htm : t < m := by omega
      have hc1 : wr.cell? ⟨w.heap.size, t, none⟩ = some (.int .u8 ((0 : Nat) : Int)) := how.cell (by
        rw [ht, show t + 1 + j - j = t + 1 by omega, List.replicate_succ', List.append_assoc]; simp)
      have hf1 := how.frozen t
      have Hby := Lib.hid (wd_byte a (show j < 8 by omega))
      clear ht
      go_wp2_with fail
      go_roundw
      case rel => exact low_round Ht.out how hbel Hby.out
      case measure => simp [intOf]; omega
    · have hjm : m - j = 0 := by omega
      have how' : Ob wr w.heap.size (bts (wd a) m) := by
        have := how
        rw [hjm, show j = m by omega] at this
        simpa using this
      clear hjm how
      go_wp2
      go_ret
      exact ⟨rfl, how', hbel⟩
theorem bts_lim (v : Nat) : ∀ n, Lim 256 (bts v n)
  | 0 => Lim.nil _
  | n + 1 => fun x hx => by
    simp only [bts, List.mem_cons] at hx
    rcases hx with rfl | hx
    · omega
    · exact bts_lim v n x hx
end Go.Proofs.Ytddpgckbdccldaa
namespace Go.Proofs.Ytddpgckbdccldaa
open Go.RowKit
set_option linter.unusedVariables false
set_option linter.unusedSimpArgs false
set_option maxRecDepth 100000
theorem ofInt64 (a : Int) : (BitVec.ofInt 64 a).toNat = (a % 18446744073709551616).toNat := by
  rw [BitVec.toNat_ofInt]; rfl
theorem xor_pos (a : Int) (h0 : 0 ≤ a) (h1 : a ≤ 9223372036854775807) : bits .xor .i64 a 0 = a := by
  show IntKind.i64.wrap ((BitVec.ofInt 64 a ^^^ BitVec.ofInt 64 0).toNat : Int) = _
  have : BitVec.ofInt 64 0 = 0#64 := by decide
  rw [this, BitVec.xor_zero, ofInt64, IntKind.wrap_i64]
  omega
theorem xor_neg (a : Int) (h0 : a < 0) (h1 : -9223372036854775808 ≤ a) : bits .xor .i64 a (-1) = -a - 1 := by
  show IntKind.i64.wrap ((BitVec.ofInt 64 a ^^^ BitVec.ofInt 64 (-1)).toNat : Int) = _
  have : BitVec.ofInt 64 (-1) = BitVec.allOnes 64 := by decide
  rw [this, BitVec.xor_allOnes, BitVec.toNat_not, ofInt64, IntKind.wrap_i64]
  omega
/-- a number without its sign -/
def bare (a : Int) : Int := if a < 0 then -a - 1 else a
/-- how many bytes a number takes -/
def nby (a : Int) : Nat := Lib.bitLen (bare a).toNat / 8 + 1
theorem bare_bd {a : Int} (h0 : -9223372036854775808 ≤ a) (h1 : a ≤ 9223372036854775807) : 0 ≤ bare a ∧ bare a ≤ 9223372036854775807 := by
  unfold bare; split <;> omega
theorem bitLen_63 {x : Nat} (h : x ≤ 9223372036854775807) : Lib.bitLen x ≤ 63 ∧ x < 2 ^ Lib.bitLen x ∧ (0 < x → 1 ≤ Lib.bitLen x ∧ 2 ^ (Lib.bitLen x - 1) ≤ x) ∧ (x = 0 → Lib.bitLen x = 0) := by
  by_cases h0 : 0 < x
  · obtain ⟨h1, h2, h3⟩ := bitLen_bounds 64 x (Nat.le_refl _) (by omega) h0
    refine ⟨?_, h3, fun _ => ⟨h1, h2⟩, fun h => absurd h (by omega)⟩
    rcases Nat.lt_or_ge 63 (Lib.bitLen x) with h4 | h4
    · have : 2 ^ 63 ≤ 2 ^ (Lib.bitLen x - 1) := Nat.pow_le_pow_right (by omega) (by omega)
      omega
    · exact h4
  · obtain rfl : x = 0 := by omega
    exact ⟨by decide, by decide, fun h => absurd h (by omega), fun _ => by decide⟩
theorem nby_le {a : Int} (h0 : -9223372036854775808 ≤ a) (h1 : a ≤ 9223372036854775807) : 1 ≤ nby a ∧ nby a ≤ 8 := by
  have h2 := bare_bd h0 h1
  have := (bitLen_63 (x := (bare a).toNat) (by omega)).1
  unfold nby
  omega
theorem nby_fits {a : Int} (h0 : -9223372036854775808 ≤ a) (h1 : a ≤ 9223372036854775807) : bare a < 2 ^ (8 * nby a - 1) ∧ (2 ≤ nby a → (2 : Int) ^ (8 * (nby a - 1) - 1) ≤ bare a) := by
  have h2 := bare_bd h0 h1
  obtain ⟨b1, b2, b3, b4⟩ := bitLen_63 (x := (bare a).toNat) (by omega)
  have e : bare a = (((bare a).toNat : Nat) : Int) := by omega
  unfold nby
  generalize (bare a).toNat = x at *
  rw [e]
  generalize Lib.bitLen x = d at *
  constructor
  · have : 2 ^ d ≤ 2 ^ (8 * (d / 8 + 1) - 1) := Nat.pow_le_pow_right (by omega) (by omega)
    exact_mod_cast Nat.lt_of_lt_of_le b2 this
  · intro h
    have hx : 0 < x := by
      rcases Nat.eq_zero_or_pos x with h0 | h0
      · subst h0
        have := b4 rfl
        omega
      · exact h0
    have : 2 ^ (8 * (d / 8 + 1 - 1) - 1) ≤ 2 ^ (d - 1) := Nat.pow_le_pow_right (by omega) (by omega)
    exact_mod_cast Nat.le_trans this (b3 hx).2
theorem shrt_int {a : Int} (h0 : -9223372036854775808 ≤ a) (h1 : a ≤ 9223372036854775807) : shrt (bts (wd a) (nby a)) = true := by
  have hw : ((wd a : Nat) : Int) = a % 18446744073709551616 := by unfold wd; omega
  obtain ⟨f1, f2⟩ := nby_fits h0 h1
  obtain ⟨b0, b1⟩ := nby_le h0 h1
  have hb : bare a = if a < 0 then -a - 1 else a := rfl
  generalize bare a = x at *
  generalize wd a = v at *
  generalize nby a = m at *
  have : m = 1 ∨ m = 2 ∨ m = 3 ∨ m = 4 ∨ m = 5 ∨ m = 6 ∨ m = 7 ∨ m = 8 := by omega
  rcases this with rfl | rfl | rfl | rfl | rfl | rfl | rfl | rfl
  · rfl
  all_goals
    simp only [bts, shrt, Nat.reduceMul, Nat.reduceSub, Nat.reduceAdd, Nat.reducePow, Int.reducePow] at *
    have f2 := f2 (by omega)
    split at hb
    all_goals
      split
      · simp only [decide_eq_true_eq]; omega
      · split
        · simp only [decide_eq_true_eq]; omega
        · rfl
/-- what Int hands back -/
def IntN (a : Int) (w : World) (e : Ending) (w' : World) : Prop := ∃ g, e = .returned (leaf 2 (some ⟨g, 0, none⟩) (nby a) (nby a)) ∧ Nb w' w'.heap.size (some ⟨g, 0, none⟩) (nby a) (nby a) (bts (wd a) (nby a)) ∧ Below w.heap.size w w'
set_option maxHeartbeats 1000000 in
theorem int_any (a : Int) (h0 : -9223372036854775808 ≤ a) (h1 : a ≤ 9223372036854775807) (w : World) : Calls Try.prog 21 #[.int .i64 a] w (IntN a w) := by
  have hx : bits .xor .i64 a (a / 9223372036854775808) = bare a := by
    unfold bare
    split
    · rw [show a / 9223372036854775808 = -1 by omega]; exact xor_neg a (by omega) h0
    · rw [show a / 9223372036854775808 = 0 by omega]; exact xor_pos a (by omega) h1
  have hbd := bare_bd h0 h1
  have hn := nby_le h0 h1
  have HL := Lib.hid (fun w => len_any (bare a) w hbd.1 (by omega))
  have HW := Lib.hid (fun w => lowest_any a h0 h1 (nby a) hn.2 w)
  have hq : ((Lib.bitLen (bare a).toNat : Nat) : Int) / 8 + 1 = ((nby a : Nat) : Int) := by unfold nby; omega
  have hwr : IntKind.u64.wrap (bare a) = bare a := by rw [IntKind.wrap_u64]; omega
  generalize bare a = x at *
  clear hbd
  go_enter Try.func21, Try.ntmps21
  go_wp2_with fail
  refine (HL.out _).mono ?_
  rintro e w' ⟨rfl, rfl⟩
  go_wp2_with fail
  refine (HW.out _).mono ?_
  rintro e w2 ⟨rfl, o2, b2⟩
  have hz : (w.alloc (.cells #[.int .i64 0, .slice none 0 0, .slice none 0 0] 25)).heap.size = w.heap.size + 1 := by simp
  have hb1 : Below w.heap.size w (w.alloc (.cells #[.int .i64 0, .slice none 0 0, .slice none 0 0] 25)) := (Below.refl _ _).alloc (Nat.le_refl _) _
  have hg : Bx w2 w.heap.size 25 (.int .i64 0) (.slice none 0 0) (.slice none 0 0) := (Bx.new w 25 _ _ _).keep b2 (by rw [hz]; omega)
  obtain ⟨c0, c1, c2, f0, f1, f2⟩ := hg.cells
  have hnb := o2.nb (n := nby a) (length_bts _ _) (by unfold maxLen; omega) (bts_lim _ _)
  rw [hz] at hnb
  have HN := Lib.hid (hnb.away3 (g := w.heap.size) (by omega) (.int .i64 2) (.slice (some ⟨w.heap.size + 1, 0, none⟩) (nby a) (nby a)) (.slice none 0 0))
  have HZ := Lib.hid (size_set3 (w := w2) (g := w.heap.size) (.int .i64 2) (.slice (some ⟨w.heap.size + 1, 0, none⟩) (nby a) (nby a)) (.slice none 0 0))
  have HB := Lib.hid (below_set3 (bthen hb1 b2) (Nat.le_refl _) (.int .i64 2) (.slice (some ⟨w.heap.size + 1, 0, none⟩) (nby a) (nby a)) (.slice none 0 0))
  have HG := Lib.hid (hg.set (.int .i64 2) (.slice (some ⟨w.heap.size + 1, 0, none⟩) (nby a) (nby a)) (.slice none 0 0))
  clear hz hb1 hg hnb o2 b2 hq hwr hx
  go_wp2_with fail
  refine bodyPost_ret (results_cell_row rfl _ _ w.heap.size 25 _ (0, 0) _ rfl HG.out Try.underlying25 rfl (by kernel_rfl)) rfl ?_
  exact ⟨_, rfl, by rw [HZ.out]; exact HN.out, HB.out⟩
end Go.Proofs.Ytddpgckbdccldaa
