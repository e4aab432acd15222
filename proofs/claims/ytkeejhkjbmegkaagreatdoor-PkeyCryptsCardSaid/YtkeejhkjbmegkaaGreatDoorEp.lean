/- pkey: fillingOf; framed of what is encrypted. bytes.IndexByte, Index and Cut at a byte 0; pkey: unframed, framed. pkey: unframed; framed of what is encrypted; Right of any key. pkey: Right, secretRight, fits of any key. pkey: secretRight, fits, Encrypt, Decrypt of any key. -/
import Derived.Test.YtkeejhkjbmegkaaGreatDoorHs
import Derived.Test.YtkeejhkjbmegkaaGreatDoorTt
import Derived.Test.YtkeejhkjbmegkaaGreatDoorSh
import Derived.Lib.BytesEntry
import Derived.Deep.QuietTactic
import Derived.BigQuiet
import Derived.Test.YtkeejhkjbmegkaaGreatDoorH6
namespace Go.Proofs.YtkeejhkjbmegkaaGreatDoor
open Go.RowKit
set_option linter.unusedVariables false
set_option maxRecDepth 100000

theorem fillL_len {ds : List Nat} {n : Nat} : (fillL ds n).length ≤ n := by
  unfold fillL; rw [List.length_take]; omega
theorem fillL_nil (n : Nat) : fillL [] n = [] := by simp [fillL]
theorem fill_next {xs : List Nat} {n k x : Nat} (hk : k < xs.length) (hx : xs.getD k 0 = x) (hl : (fillL (xs.take k) n).length < n) : fillL (xs.take (k + 1)) n = if x = 0 then fillL (xs.take k) n else fillL (xs.take k) n ++ [x] := by
  have e : xs.take (k + 1) = xs.take k ++ [x] := by
    rw [List.take_succ_eq_append_getElem hk, ← hx]; simp [List.getD, List.getElem?_eq_getElem hk]
  rw [e, fillL_snoc, if_neg (by omega)]
theorem fill_done {xs : List Nat} {n k : Nat} (hl : (fillL (xs.take k) n).length = n) : fillL xs n = fillL (xs.take k) n := by
  have := fillL_full (ds := xs.take k) (es := xs.drop k) hl
  rwa [List.take_append_drop] at this
def FillIs (xs : List Nat) (n : Nat) (w : World) (e : Ending) (w' : World) : Prop := ∃ A m c, e = .returned (.slice A m c) ∧ m = (fillL xs n).length ∧ Sh.Nb w' w'.heap.size A m c (fillL xs n) ∧ Below w.heap.size w w'
set_option maxHeartbeats 4000000 in
theorem fillingOf_any {w : World} {A : Option Addr} {l c : Nat} {xs : List Nat} (h : Sh.Nb w w.heap.size A l c xs) (n : Nat) (hn : n ≤ 1000) :
    Calls Tryz.prog 51 #[.slice A l c, .int .i64 (n : Int)] w (FillIs xs n w) := by
  have hr := h.room
  have hl := h.len
  have hlim := h.lim
  have hcp := h.cap
  have Hl := Lib.hid hl
  have Hlim := Lib.hid hlim
  have Hh := Lib.hid h
  clear hl hlim h
  obtain ⟨i0, hi, hz0, hz1, hz2⟩ := info_parts Sh.Tryz.info5'
  go_enter Tryz.func51, Tryz.ntmps51
  go_wp2_with (refine wpList_make_own _ rfl _ _ 25 rfl w.heap.size 5 i0 (.int .u8 0) 1 Tryz.underlying25 hi hz0 hz1 .i64 .i64 (n : Int) n rfl rfl rfl (by rw [hz2]; omega) (by unfold maxLen; omega) (Nat.le_refl _) ?_; intro w1 ho1 hg1)
  have hG1 : Sh.Gb w1 w.heap.size (some ⟨w.heap.size, 0, none⟩) 0 n [] := ⟨rfl, ho1⟩
  have hB1 : Below w.heap.size w w1 := below_none hg1 (Nat.le_refl _)
  clear ho1 hg1 hi hz0 hz1 hz2
  go_loopw [12, 5] (fun i v wr => ∃ k m : Nat, k ≤ l ∧ i = .int .i64 k ∧ m ≤ n ∧ ∃ A2 c2, v = .slice A2 m c2 ∧ Hid (m = (fillL (xs.take k) n).length) ∧ Hid (Sh.Gb wr w.heap.size A2 m c2 (fillL (xs.take k) n)) ∧ Hid (Below w.heap.size w wr)) (fun i _ _ => l - (intOf i).toNat)
  case atStart => exact ⟨0, 0, by omega, rfl, by omega, _, _, rfl, Lib.hid (by simp [fillL_nil]), Lib.hid (by simpa [fillL_nil] using hG1), Lib.hid hB1⟩
  case round =>
    clear hG1 hB1
    obtain ⟨k, m, hk, rfl, hm, A2, c2, rfl, Hm, HG, HB⟩ := hrel
    by_cases hkl : k < l
    · obtain ⟨b, off, rfl, hlt, hcell⟩ := ((Hh.out.below HB.out)).cell (by omega)
      obtain ⟨x, hx⟩ : ∃ x, xs.getD k 0 = x := ⟨_, rfl⟩
      have hc := hcell k x (by rw [← hx]; simp [List.getD, List.getElem?_eq_getElem (show k < xs.length by rw [Hl.out]; exact hkl)])
      have hx2 : x < 256 := Hlim.out x (by rw [← hx]; simp [List.getD, List.getElem?_eq_getElem (show k < xs.length by rw [Hl.out]; exact hkl)])
      clear hcell
      by_cases hmn : m = n
      · have e1 : ((m : Int) == (n : Int)) = true := by simp [hmn]
        have Hmn := Lib.hid hmn
        clear hmn
        go_wp2_with fail
        go_ret
        have hf := fill_done (k := k) (xs := xs) (n := n) (by rw [← Hm.out, Hmn.out])
        exact ⟨_, _, _, rfl, by rw [hf]; exact Hm.out, by rw [hf]; exact HG.out.nb (fillL_lim (fun y hy => Hlim.out y (List.mem_of_mem_take hy))), HB.out⟩
      · have e1 : ((m : Int) == (n : Int)) = false := by simp; omega
        have hnx := fill_next (xs := xs) (n := n) (k := k) (by rw [Hl.out]; exact hkl) hx (by rw [← Hm.out]; omega)
        have HX := Lib.hid hx
        have hmlt : m < n := by omega
        clear hx hmn
        by_cases hx0 : x = 0
        · subst hx0
          rw [if_pos rfl] at hnx
          have Hnx := Lib.hid hnx
          clear hnx
          go_wp2_with fail
          go_roundw
          case rel => exact ⟨k + 1, m, by omega, by go_num, by omega, _, _, rfl, Lib.hid (by rw [Hnx.out]; exact Hm.out), Lib.hid (by rw [Hnx.out]; exact HG.out), HB⟩
          case measure => simp [intOf]; omega
        · rw [if_neg hx0] at hnx
          have Hnx := Lib.hid hnx
          have e2 : ((x : Int) != 0) = true := by simp; omega
          have hG' := HG.out.alloc (.cells #[.int .u8 (x : Int)] 5)
          have hs := HB.out.size
          have hB' := HB.out.alloc hs (.cells #[.int .u8 (x : Int)] 5)
          have hcn := Sh.cell_new wr (.int .u8 (x : Int)) 5
          clear hnx hx0
          go_wp2_with (refine Sh.wpList_app_b _ rfl (.tmp 22) (.tmp 24) rfl rfl hG' rfl hcn (by omega) hB' (by simp; omega) ?_; intro A7 c7 w7 hG7 hB7)
          go_roundw
          case rel => exact ⟨k + 1, m + 1, by omega, by go_num, by omega, _, _, rfl, Lib.hid (by rw [Hnx.out, List.length_append, ← Hm.out]; rfl), Lib.hid (by rw [Hnx.out]; exact hG7), Lib.hid hB7⟩
          case measure => simp [intOf]; omega
    · have e : k = l := by omega
      subst e
      go_wp2_with fail
      go_ret
      have hf : xs.take k = xs := List.take_of_length_le (by rw [Hl.out]; omega)
      exact ⟨_, _, _, rfl, by rw [Hm.out, hf], by have := HG.out.nb (fillL_lim (fun y hy => Hlim.out y (List.mem_of_mem_take hy))); rw [hf] at this; exact this, HB.out⟩
end Go.Proofs.YtkeejhkjbmegkaaGreatDoor
namespace Go.Proofs.YtkeejhkjbmegkaaGreatDoor
open Go.RowKit
set_option linter.unusedVariables false
set_option maxRecDepth 100000

theorem Sh.Nb.mn {w : World} {B n c : Nat} {A : Option Addr} {xs : List Nat} (h : Sh.Nb w B A n c xs) : Nb w B A n c xs := ⟨h.len, h.cap, h.room, h.lim, h.cell⟩
theorem scut_h {w : World} {B n c : Nat} {A : Option Addr} {xs : List Nat} (h : Sh.Nb w B A n c xs) (k : Nat) (hkn : k ≤ n) :
    ∃ A' c', (∀ W, (Instr.slice 25 (.slice A n c) none (some (.int .i64 (k : Int))) none).run Tryz.prog W = .ok (.slice A' k c') W) ∧ (∀ W, (Instr.sliceAt 25 (.slice A n c) none (some (.int .i64 (k : Int))) none).run Tryz.prog W = .ok (.slice A' k c') W) ∧ Sh.Nb w B A' k c' (xs.take k) := by
  have hc := h.cap
  have hn := Sh.cut_nb h 0 k (by omega) hkn
  rw [Nat.sub_zero, List.drop_zero, Nat.sub_zero] at hn
  refine ⟨_, _, fun W => ?_, fun W => ?_, hn⟩
  · rw [run_slice_h W 25 A n c Sh.und22 .i64 k (by omega) (by omega), Sh.size5]
    simp [Result.andThen, sliced]
  · rw [run_sliceAt_slice W 25 _ _ _ _ Sh.und22, run_slice_h W 25 A n c Sh.und22 .i64 k (by omega) (by omega), Sh.size5]
    simp [Result.andThen, sliced]
theorem scut_l {w : World} {B n c : Nat} {A : Option Addr} {xs : List Nat} (h : Sh.Nb w B A n c xs) (i : Nat) (hin : i ≤ n) :
    ∃ A' c', (∀ W, (Instr.slice 25 (.slice A n c) (some (.int .i64 (i : Int))) none none).run Tryz.prog W = .ok (.slice A' (n - i) c') W) ∧ (∀ W, (Instr.sliceAt 25 (.slice A n c) (some (.int .i64 (i : Int))) none none).run Tryz.prog W = .ok (.slice A' (n - i) c') W) ∧ Sh.Nb w B A' (n - i) c' (xs.drop i) := by
  have hc := h.cap
  have hn := Sh.cut_nb h i n hin (Nat.le_refl _)
  rw [List.take_of_length_le (by rw [List.length_drop, h.len]; omega)] at hn
  refine ⟨_, _, fun W => ?_, fun W => ?_, hn⟩
  · rw [run_slice_l W 25 A n c Sh.und22 .i64 i (by omega) (by omega), Sh.size5]
    simp [Result.andThen, sliced]
  · rw [run_sliceAt_slice W 25 _ _ _ _ Sh.und22, run_slice_l W 25 A n c Sh.und22 .i64 i (by omega) (by omega), Sh.size5]
    simp [Result.andThen, sliced]
/-- how many bytes stand ahead of the first 0 -/
def tw (xs : List Nat) : Nat := (xs.takeWhile fun x => decide (x ≠ 0)).length
theorem tw_le (xs : List Nat) : tw xs ≤ xs.length := by
  unfold tw; exact List.Sublist.length_le (List.takeWhile_sublist _)
theorem index_tw : ∀ {xs : List Nat} (_ : Lim 256 xs), Lib.indexByte (Lib.bytesOf (xs.map fun x : Nat => (x : Int))) (0 : Int).toNat.toUInt8 = if tw xs < xs.length then (tw xs : Int) else -1
  | [], _ => rfl
  | x :: xs, h => by
    have hx : x < 256 := h x (by simp)
    have ih := index_tw (xs := xs) (fun y hy => h y (by simp [hy]))
    have e : Lib.bytesOf ((x :: xs).map fun x : Nat => (x : Int)) = x.toUInt8 :: Lib.bytesOf (xs.map fun x : Nat => (x : Int)) := by simp [Lib.bytesOf]
    rw [e]
    unfold Lib.indexByte
    have e0 : (x.toUInt8 == (0 : Int).toNat.toUInt8) = decide (x = 0) := by
      rw [Bool.eq_iff_iff]
      simp only [beq_iff_eq, decide_eq_true_eq]
      constructor
      · intro hh
        have := congrArg UInt8.toNat hh
        simp at this
        omega
      · rintro rfl; rfl
    rw [e0, ih]
    by_cases h0 : x = 0
    · subst h0
      simp [tw]
    · have e1 : tw (x :: xs) = tw xs + 1 := by simp [tw, h0]
      rw [e1]
      simp only [h0, decide_false, Bool.false_eq_true, if_false, List.length_cons]
      by_cases h1 : tw xs < xs.length
      · rw [if_pos h1, if_pos (show tw xs + 1 < xs.length + 1 by omega)]
        have : ((tw xs : Int) == -1) = false := by simp
        rw [this]
        simp
      · rw [if_neg h1, if_neg (show ¬ tw xs + 1 < xs.length + 1 by omega)]
        rfl
theorem ixb_run {w : World} {B n c : Nat} {A : Option Addr} {xs : List Nat} (h : Sh.Nb w B A n c xs) (hA : ∀ a, A = some a → ∃ b off, a = ⟨b, off, none⟩) : (callFunc 184 #[.slice A n c, .int .u8 0]).run Tryz.prog w = .ok (.value (.int .i64 (if tw xs < n then (tw xs : Int) else -1))) w := by
  rw [run_callFunc_extern Tryz.func184 (by kernel_rfl) (by kernel_rfl) (by kernel_rfl) (e := Extern.BytealgIndexByte.indexByte) (by kernel_rfl)]
  rcases Nat.eq_zero_or_pos n with h0 | h0
  · subst h0
    obtain rfl : xs = [] := List.eq_nil_of_length_eq_zero h.len
    rcases A with _ | ad
    · rw [Lib.run_indexByteNil]; rfl
    · obtain ⟨b, off, e⟩ := hA _ rfl
      subst e
      have := Lib.run_indexByteSlice (P := Tryz.prog) (w := w) b off 0 c [] rfl (fun i hi => by omega) 0
      rw [this]; rfl
  · obtain ⟨b, off, rfl, _, hc⟩ := h.cell h0
    have := Lib.run_indexByteSlice (P := Tryz.prog) (w := w) b off n c (xs.map fun x : Nat => (x : Int)) (by simp [h.len]) (fun i hi => by
      obtain ⟨x, hx⟩ : ∃ x, xs[i]? = some x := ⟨_, List.getElem?_eq_getElem (by rw [h.len]; exact hi)⟩
      rw [hc i x hx]
      simp [List.getD, List.getElem?_map, hx]) 0
    rw [this, index_tw h.lim, h.len]
    rfl
theorem ixb_any {w : World} {B n c : Nat} {A : Option Addr} {xs : List Nat} (h : Sh.Nb w B A n c xs) (hA : ∀ a, A = some a → ∃ b off, a = ⟨b, off, none⟩) :
    Calls Tryz.prog 171 #[.slice A n c, .int .u8 0] w fun e w' => e = .returned (.int .i64 (if tw xs < n then (tw xs : Int) else -1)) ∧ w = w' := by
  have hr := ixb_run h hA
  clear hA
  obtain ⟨r, hrr⟩ : ∃ r, (if tw xs < n then (tw xs : Int) else -1) = r := ⟨_, rfl⟩
  rw [hrr] at hr ⊢
  clear hrr
  go_enter Tryz.func171, Tryz.ntmps171
  go_wp2
  go_ret
  exact ⟨rfl, rfl⟩
theorem ix_any {w : World} {B n c g c2 : Nat} {A : Option Addr} {xs : List Nat} (h : Sh.Nb w B A n c xs) (hA : ∀ a, A = some a → ∃ b off, a = ⟨b, off, none⟩) (hg : w.cell? ⟨g, 0, none⟩ = some (.int .u8 0)) :
    Calls Tryz.prog 137 #[.slice A n c, .slice (some ⟨g, 0, none⟩) 1 c2] w fun e w' => e = .returned (.int .i64 (if tw xs < n then (tw xs : Int) else -1)) ∧ w = w' := by
  have hr := ixb_any h hA
  clear hA
  obtain ⟨r, hrr⟩ : ∃ r, (if tw xs < n then (tw xs : Int) else -1) = r := ⟨_, rfl⟩
  rw [hrr] at hr ⊢
  have Hr := Lib.hid hr
  clear hrr hr
  go_enter Tryz.func137, Tryz.ntmps137
  go_wp2_with (go_at_call 171; refine Hr.out.mono ?_; rintro e w' ⟨rfl, rfl⟩)
  go_ret
  exact ⟨rfl, rfl⟩
set_option maxHeartbeats 1000000 in
theorem cut0_any {w : World} {n c g c2 : Nat} {A : Option Addr} {xs : List Nat} (h : Sh.Nb w w.heap.size A n c xs) (hA : ∀ a, A = some a → ∃ b off, a = ⟨b, off, none⟩) (hg : w.cell? ⟨g, 0, none⟩ = some (.int .u8 0)) (hn : n ≤ 1000000) :
    Calls Tryz.prog 95 #[.slice A n c, .slice (some ⟨g, 0, none⟩) 1 c2] w fun e w' => ∃ A1 c1 A2 n2 c2, e = .returned (.tuple #[.slice A1 (tw xs) c1, .slice A2 n2 c2, .bool (decide (tw xs < n))]) ∧ Sh.Nb w' w'.heap.size A2 n2 c2 (xs.drop (tw xs + 1)) ∧ ∃ d, w' = w.drewN d := by
  have hr := ix_any (c2 := c2) h hA hg
  clear hA
  have hl := h.len
  have hle := tw_le xs
  rw [hl] at hle
  have Hh := Lib.hid h
  have Hl := Lib.hid hl
  clear hl
  obtain ⟨t, ht⟩ : ∃ t, tw xs = t := ⟨_, rfl⟩
  rw [ht] at hr hle ⊢
  have Ht := Lib.hid ht
  clear ht h
  by_cases hlt : t < n
  · rw [if_pos hlt] at hr
    have Hr := Lib.hid hr
    clear hr
    obtain ⟨A1, c1, hs1, hs1', hn1⟩ := scut_h Hh.out t (by omega)
    obtain ⟨A2, c2', hs2, hs2', hn2⟩ := scut_l Hh.out (t + 1) (by omega)
    have hw : IntKind.i64.wrap ((t : Int) + 1) = ((t + 1 : Nat) : Int) := by rw [IntKind.wrap_i64]; omega
    have hcap := Hh.out.cap
    rw [show decide (t < n) = true by simp [hlt]]
    clear hn1 hn2 hs2 hs2'
    by_cases hct : c = t + 1
    · subst hct
      go_enter Tryz.func95, Tryz.ntmps95
      go_wp2_with (go_at_call 137; refine Hr.out.mono ?_; rintro e w' ⟨rfl, rfl⟩)
      go_quiet (fail)
      go_wp2_with fail
      go_ret3
      refine ⟨A1, c1, _, _, 0, rfl, ?_, _, rfl⟩
      rw [List.drop_of_length_le (by rw [Hl.out]; omega)]
      exact Sh.Nb.nil _ _ _ (by omega) _
    · have hnb := Sh.cut_nb Hh.out (t + 1) n (by omega) (Nat.le_refl _)
      rw [if_neg hct, List.take_of_length_le (by rw [List.length_drop, Hl.out]; omega)] at hnb
      obtain ⟨b, off, rfl, hb, _⟩ := Hh.out.cell (by omega)
      have Hnb := Lib.hid hnb
      clear hnb
      go_enter Tryz.func95, Tryz.ntmps95
      go_wp2_with (go_at_call 137; refine Hr.out.mono ?_; rintro e w' ⟨rfl, rfl⟩)
      go_quiet (fail)
      go_wp2_with fail
      go_ret3
      refine ⟨A1, c1, _, _, _, rfl, ?_, _, rfl⟩
      have := Hnb.out.dr (w := w)
      simpa [Addr.add] using this _
  · have e : t = n := by omega
    rw [if_neg hlt] at hr
    have Hr := Lib.hid hr
    rw [show decide (t < n) = false by simp [hlt]]
    clear hr
    subst e
    go_enter Tryz.func95, Tryz.ntmps95
    go_wp2_with (go_at_call 137; refine Hr.out.mono ?_; rintro e w' ⟨rfl, rfl⟩)
    go_ret3
    refine ⟨_, _, none, 0, 0, rfl, ?_, 0, rfl⟩
    rw [List.drop_of_length_le (by rw [Hl.out]; omega)]
    exact Sh.Nb.nil _ _ _ (by omega) _
end Go.Proofs.YtkeejhkjbmegkaaGreatDoor
namespace Go.Proofs.YtkeejhkjbmegkaaGreatDoor
open Go.RowKit
set_option linter.unusedVariables false
set_option maxRecDepth 100000

/-- the text behind the filling -/
def unfN (xs : List Nat) : Option (List Nat) := if xs.getD 0 0 = 0 ∧ xs.getD 1 0 = 2 ∧ 8 ≤ tw (xs.drop 2) ∧ tw (xs.drop 2) < xs.length - 2 then some ((xs.drop 2).drop (tw (xs.drop 2) + 1)) else none
def UnfIs (r : Option (List Nat)) (w : World) (e : Ending) (w' : World) : Prop := match r with
  | none => e = .returned (.tuple #[.slice none 0 0, .int .i64 51]) ∧ Below w.heap.size w w'
  | some ys => ∃ A m c, e = .returned (.tuple #[.slice A m c, .int .i64 0]) ∧ Sh.Nb w' w'.heap.size A m c ys ∧ Below w.heap.size w w'
set_option maxHeartbeats 4000000 in
theorem unframed_long {w : World} {g n : Nat} {xs : List Nat} (h : Ob w g xs) (hn : xs.length = n) (h2 : 2 < n) (hl : n ≤ 1000000) (hx : Lim 256 xs) :
    Calls Tryz.prog 53 #[.int .u8 2, .slice (some ⟨g, 0, none⟩) n n] w (UnfIs (unfN xs) w) := by
  obtain ⟨x0, e0⟩ : ∃ x, xs.getD 0 0 = x := ⟨_, rfl⟩
  obtain ⟨x1, e1⟩ : ∃ x, xs.getD 1 0 = x := ⟨_, rfl⟩
  have c0 := h.cell (j := 0) (x := x0) (by rw [← e0]; simp [List.getD, List.getElem?_eq_getElem (show 0 < xs.length by omega)])
  have c1 := h.cell (j := 1) (x := x1) (by rw [← e1]; simp [List.getD, List.getElem?_eq_getElem (show 1 < xs.length by omega)])
  have hnb := (h.nb hn (by unfold maxLen; omega) hx).sh
  have hn2 := Sh.cut_nb hnb 2 n (by omega) (Nat.le_refl _)
  rw [if_neg (by omega), List.take_of_length_le (by rw [List.length_drop, hn]; omega)] at hn2
  have hn2 : Sh.Nb w w.heap.size (some ⟨g, 2, none⟩) (n - 2) (n - 2) (xs.drop 2) := by simpa [Addr.add] using hn2
  have hn3 : ¬ n = 2 := by omega
  obtain ⟨r, hr⟩ : ∃ r, unfN xs = r := ⟨_, rfl⟩
  rw [hr]
  unfold unfN at hr
  rw [e0, e1, hn] at hr
  have Hr := Lib.hid hr
  have E0 := Lib.hid e0
  have E1 := Lib.hid e1
  have Hn := Lib.hid hn
  have Hn2 := Lib.hid hn2
  have hA : Hid (∀ a, some (⟨g, 2, none⟩ : Addr) = some a → ∃ b off, a = ⟨b, off, none⟩) := fun a ha => by cases ha; exact ⟨_, _, rfl⟩
  clear hr e0 e1 hn hn2 hnb h
  by_cases g0 : x0 = 0
  · subst g0
    by_cases g1 : x1 = 2
    · subst g1
      have b0 : Below w.heap.size w (w.alloc (.cells #[.int .u8 0] 5)) := (Below.refl _ _).alloc (Nat.le_refl _) _
      have hcn := Sh.cell_new w (.int .u8 0) 5
      have hcut := cut0_any (c2 := 1) (Hn2.out.go b0) hA.out hcn (by omega)
      obtain ⟨t, ht⟩ : ∃ t, tw (xs.drop 2) = t := ⟨_, rfl⟩
      have hr := Hr.out
      rw [ht] at hr hcut
      simp only [true_and] at hr
      have Hr' := Lib.hid hr
      have Hcut := Lib.hid hcut
      have Ht := Lib.hid ht
      have hle : t ≤ n - 2 := by have := tw_le (xs.drop 2); rw [ht, List.length_drop, Hn.out] at this; exact this
      clear hr ht hcut Hr hcn
      by_cases h1 : t < n - 2
      · have hd : decide (t < n - 2) = true := by simp [h1]
        by_cases h8 : 8 ≤ t
        · have hd8 : decide ((t : Int) < 8) = false := by simp; omega
          go_enter Tryz.func53, Tryz.ntmps53
          go_wp2_with (go_at_call 95; refine Hcut.out.mono ?_; rintro e w1 ⟨A4, c4, A5, n5, c5, rfl, m5, d, rfl⟩; have b5 := bdr b0 d)
          refine (Sh.clone_any m5 (by have := m5.len; rw [List.length_drop, List.length_drop, Hn.out] at this; omega)).mono ?_
          rintro e w2 ⟨A6, c6, rfl, m6, _, b6⟩
          go_wp2_with fail
          go_ret2
          rw [← Hr'.out, if_pos ⟨h8, h1⟩]
          exact ⟨_, _, _, rfl, m6, bthen b5 b6⟩
        · have hd8 : decide ((t : Int) < 8) = true := by simp; omega
          go_enter Tryz.func53, Tryz.ntmps53
          go_wp2_with (go_at_call 95; refine Hcut.out.mono ?_; rintro e w1 ⟨A4, c4, A5, n5, c5, rfl, m5, d, rfl⟩; have b5 := bdr b0 d)
          go_ret2
          rw [← Hr'.out, if_neg (by omega)]
          exact ⟨rfl, b5⟩
      · have hd : decide (t < n - 2) = false := by simp [h1]
        go_enter Tryz.func53, Tryz.ntmps53
        go_wp2_with (go_at_call 95; refine Hcut.out.mono ?_; rintro e w1 ⟨A4, c4, A5, n5, c5, rfl, m5, d, rfl⟩; have b5 := bdr b0 d)
        go_ret2
        rw [← Hr'.out, if_neg (by omega)]
        exact ⟨rfl, b5⟩
    · have k1 : ((x1 : Int) != 2) = true := by simp; omega
      go_enter Tryz.func53, Tryz.ntmps53
      go_wp2_with fail
      go_ret2
      rw [← Hr.out, if_neg (by omega)]
      exact ⟨rfl, Below.refl _ _⟩
  · have k0 : ((x0 : Int) != 0) = true := by simp; omega
    go_enter Tryz.func53, Tryz.ntmps53
    go_wp2_with fail
    go_ret2
    rw [← Hr.out, if_neg (by omega)]
    exact ⟨rfl, Below.refl _ _⟩
set_option maxHeartbeats 4000000 in
theorem unframed_two {w : World} {g : Nat} {xs : List Nat} (h : Ob w g xs) (hn : xs.length = 2) (hx : Lim 256 xs) :
    Calls Tryz.prog 53 #[.int .u8 2, .slice (some ⟨g, 0, none⟩) 2 2] w (UnfIs (unfN xs) w) := by
  obtain ⟨x0, e0⟩ : ∃ x, xs.getD 0 0 = x := ⟨_, rfl⟩
  obtain ⟨x1, e1⟩ : ∃ x, xs.getD 1 0 = x := ⟨_, rfl⟩
  have c0 := h.cell (j := 0) (x := x0) (by rw [← e0]; simp [List.getD, List.getElem?_eq_getElem (show 0 < xs.length by omega)])
  have c1 := h.cell (j := 1) (x := x1) (by rw [← e1]; simp [List.getD, List.getElem?_eq_getElem (show 1 < xs.length by omega)])
  have hr : unfN xs = none := by unfold unfN; rw [if_neg (by rw [hn]; omega)]
  rw [hr]
  have hg := h.lt
  clear hr e0 e1 hn h hx
  by_cases g0 : x0 = 0
  · subst g0
    by_cases g1 : x1 = 2
    · subst g1
      have b0 : Below w.heap.size w (w.alloc (.cells #[.int .u8 0] 5)) := (Below.refl _ _).alloc (Nat.le_refl _) _
      have hcn := Sh.cell_new w (.int .u8 0) 5
      have hnil : Sh.Nb (w.alloc (.cells #[.int .u8 0] 5)) (w.alloc (.cells #[.int .u8 0] 5)).heap.size (some ⟨g, 0, none⟩) 0 0 [] := Sh.Nb.nil _ _ _ (by omega) _
      have hcut := cut0_any (c2 := 1) hnil (fun a ha => by cases ha; exact ⟨_, _, rfl⟩) hcn (by omega)
      have Hcut := Lib.hid hcut
      clear hcut hcn hnil
      go_enter Tryz.func53, Tryz.ntmps53
      go_wp2_with (go_at_call 95; refine Hcut.out.mono ?_; rintro e w1 ⟨A4, c4, A5, n5, c5, rfl, m5, d, rfl⟩; have b5 := bdr b0 d)
      go_ret2
      exact ⟨rfl, b5⟩
    · have k1 : ((x1 : Int) != 2) = true := by simp; omega
      go_enter Tryz.func53, Tryz.ntmps53
      go_wp2_with fail
      go_ret2
      exact ⟨rfl, Below.refl _ _⟩
  · have k0 : ((x0 : Int) != 0) = true := by simp; omega
    go_enter Tryz.func53, Tryz.ntmps53
    go_wp2_with fail
    go_ret2
    exact ⟨rfl, Below.refl _ _⟩
theorem unframed_any {w : World} {g n : Nat} {xs : List Nat} (h : Ob w g xs) (hn : xs.length = n) (h2 : 2 ≤ n) (hl : n ≤ 1000000) (hx : Lim 256 xs) :
    Calls Tryz.prog 53 #[.int .u8 2, .slice (some ⟨g, 0, none⟩) n n] w (UnfIs (unfN xs) w) := by
  rcases Nat.lt_or_ge 2 n with h3 | h3
  · exact unframed_long h hn h3 hl hx
  · obtain rfl : n = 2 := by omega
    exact unframed_two h hn hx
theorem frame2_math (fs ts : List Nat) : splice (splice (vb ((List.replicate (3 + fs.length + ts.length) 0).set 1 2)) 2 (vb fs)) (3 + fs.length) (vb ts) = vb (cryptN fs ts) := by
  have e : (List.replicate (3 + fs.length + ts.length) 0).set 1 2 = 0 :: 2 :: List.replicate (1 + fs.length + ts.length) 0 := by
    rw [show 3 + fs.length + ts.length = (1 + fs.length + ts.length) + 1 + 1 by omega, List.replicate_succ, List.replicate_succ]
    rfl
  rw [e]
  have e1 : splice (vb (0 :: 2 :: List.replicate (1 + fs.length + ts.length) 0)) 2 (vb fs) = vb (0 :: 2 :: (fs ++ List.replicate (1 + ts.length) 0)) := by
    unfold splice
    rw [length_vb]
    have e3 : (vb (0 :: 2 :: List.replicate (1 + fs.length + ts.length) 0)).drop (2 + fs.length) = vb (List.replicate (1 + ts.length) 0) := by
      rw [show 2 + fs.length = fs.length + 1 + 1 by omega]
      simp only [vb, List.map_cons, List.drop_succ_cons, List.map_replicate, List.drop_replicate]
      congr 1
      omega
    rw [e3]
    simp [vb]
  rw [e1]
  unfold splice cryptN
  rw [length_vb]
  have e2 : (0 :: 2 :: (fs ++ List.replicate (1 + ts.length) 0) : List Nat) = (0 :: 2 :: (fs ++ [0])) ++ List.replicate ts.length 0 := by
    rw [show 1 + ts.length = ts.length + 1 by omega, List.replicate_succ]; simp
  have l3 : (vb (0 :: 2 :: (fs ++ [0]))).length = 3 + fs.length := by rw [length_vb]; simp; omega
  rw [e2, vb_append, List.take_append_of_le_length (by omega), List.take_of_length_le (by omega), List.drop_of_length_le (by rw [List.length_append, l3, length_vb]; simp), List.append_nil, ← vb_append]
  simp
set_option maxHeartbeats 4000000 in
theorem framed2_any {w : World} {A1 A2 : Option Addr} {n c m c2 : Nat} {fs ts : List Nat} (h : Sh.Nb w w.heap.size A1 n c fs) (h2 : Sh.Nb w w.heap.size A2 m c2 ts) (hn : n ≤ 1000) (hm : m ≤ 1000) (hn0 : 0 < n) :
    Calls Tryz.prog 52 #[.int .u8 2, .slice A1 n c, .slice A2 m c2] w fun e w' => ∃ g, e = .returned (.slice (some ⟨g, 0, none⟩) (3 + n + m) (3 + n + m)) ∧ w.heap.size ≤ g ∧ Ob w' g (cryptN fs ts) ∧ Below w.heap.size w w' := by
  have hr := h.room
  have hrc := h.cap
  have hr2 := h2.room
  have hrc2 := h2.cap
  have hl := h.len
  have hl2 := h2.len
  have hfm := frame2_math fs ts
  rw [hl, hl2] at hfm
  have Hfm := Lib.hid hfm
  have Hl := Lib.hid hl
  have Hl2 := Lib.hid hl2
  have Hh := Lib.hid h
  have Hh2 := Lib.hid h2
  clear hfm hl hl2 h h2
  rcases Nat.eq_zero_or_pos m with hm0 | hm0
  · subst hm0
    obtain rfl : ts = [] := List.eq_nil_of_length_eq_zero Hl2.out
    have Hfm2 : Hid (splice (vb ((List.replicate (3 + n) 0).set 1 2)) 2 (vb fs) = vb (cryptN fs [])) := by
      have h1 := Hfm.out
      have hx : ∀ l : List Value, ∀ k, splice l k (vb []) = l := fun l k => by simp [splice, vb]
      rw [hx] at h1
      exact h1
    have hs3 : ∀ W g, (Instr.slice 25 (.slice (some ⟨g, 0, none⟩) (3 + n + 0) (3 + n + 0)) (some (.int .i64 (3 + (n : Int)))) none none).run Tryz.prog W = .ok (.slice (some ⟨g, 0, none⟩) 0 0) W := fun W g => by
      have hq := run_slice_l W 25 (some ⟨g, 0, none⟩) (3 + n + 0) (3 + n + 0) Sh.und22 .i64 (3 + (n : Int)) (by omega) (by omega)
      rw [hq, Sh.size5]
      have : (3 + (n : Int)).toNat = 3 + n := by omega
      simp [Result.andThen, sliced, this]
    have hs4 : ∀ W g, (Instr.sliceAt 25 (.slice (some ⟨g, 0, none⟩) (3 + n + 0) (3 + n + 0)) (some (.int .i64 (3 + (n : Int)))) none none).run Tryz.prog W = .ok (.slice (some ⟨g, 0, none⟩) 0 0) W := fun W g => by rw [run_sliceAt_slice W 25 _ _ _ _ Sh.und22]; exact hs3 W g
    simp only [Nat.add_zero] at hs3 hs4
    go_enter Tryz.func52, Tryz.ntmps52
    go_wp2_with (first
      | (refine wpList_make_ub _ rfl _ _ rfl _ _ (3 + n) rfl rfl (by omega) (by omega) (by omega) ?_; intro w3 ho3 b3
         have B3 : Below w.heap.size w w3 := (Below.refl _ w).grown b3 (Nat.le_refl _) (fun k hk => by cases hk)
         have c1 : w3.cell? ⟨w.heap.size, 1, none⟩ = some (.int .u8 0) := ho3.cell (j := 1) (x := 0) (by rw [List.getElem?_replicate, if_pos (by omega)])
         have f1 := ho3.frozen 1)
      | (have hx4 : Ob (w3.setCell ⟨w.heap.size, 1, none⟩ (.int .u8 ((2 : Nat) : Int))) w.heap.size ((List.replicate (3 + n) 0).set 1 2) := ho3.set_ 1 2
         have B4 : Below w.heap.size w (w3.setCell ⟨w.heap.size, 1, none⟩ (.int .u8 ((2 : Nat) : Int))) := B3.setCell (by simp) _
         refine wpList_copy_splice rfl (.tmp 19) (.tmp 20) 25 25 rfl 5 Tryz.underlying25 (by kernel_rfl) (some ⟨w.heap.size, 2, none⟩) A1 (3 + n - 2) (3 + n - 2) n c rfl rfl w.heap.size 2 (vb ((List.replicate (3 + n) 0).set 1 2)) 5 hx4 (vb fs) (by rw [length_vb, Hl.out]; simp only [Nat.min_def]; split <;> omega) (fun _ => ⟨rfl, src_nb (Hh.out.below B4) hn0⟩) (by rw [length_vb, length_vb, Hl.out, List.length_set, List.length_replicate]; omega) (vb_one _) w.heap.size w B4 (Nat.le_refl _) ?_; intro w5 hw5 B5)
      | (refine wpList_copy_nothing rfl (.tmp 26) (.tmp 27) 25 25 rfl 5 Tryz.underlying25 (by kernel_rfl) (some ⟨w.heap.size, 0, none⟩) A2 0 0 0 c2 rfl rfl rfl ?_))
    go_ret
    have hf := hw5.out
    rw [Hfm2.out] at hf
    exact ⟨_, rfl, Nat.le_refl _, hf, B5⟩
  · go_enter Tryz.func52, Tryz.ntmps52
    go_wp2_with (first
      | (refine wpList_make_ub _ rfl _ _ rfl _ _ (3 + n + m) rfl rfl (by omega) (by omega) (by omega) ?_; intro w3 ho3 b3
         have B3 : Below w.heap.size w w3 := (Below.refl _ w).grown b3 (Nat.le_refl _) (fun k hk => by cases hk)
         have c1 : w3.cell? ⟨w.heap.size, 1, none⟩ = some (.int .u8 0) := ho3.cell (j := 1) (x := 0) (by rw [List.getElem?_replicate, if_pos (by omega)])
         have f1 := ho3.frozen 1)
      | (have hx4 : Ob (w3.setCell ⟨w.heap.size, 1, none⟩ (.int .u8 ((2 : Nat) : Int))) w.heap.size ((List.replicate (3 + n + m) 0).set 1 2) := ho3.set_ 1 2
         have B4 : Below w.heap.size w (w3.setCell ⟨w.heap.size, 1, none⟩ (.int .u8 ((2 : Nat) : Int))) := B3.setCell (by simp) _
         refine wpList_copy_splice rfl (.tmp 19) (.tmp 20) 25 25 rfl 5 Tryz.underlying25 (by kernel_rfl) (some ⟨w.heap.size, 2, none⟩) A1 (3 + n + m - 2) (3 + n + m - 2) n c rfl rfl w.heap.size 2 (vb ((List.replicate (3 + n + m) 0).set 1 2)) 5 hx4 (vb fs) (by rw [length_vb, Hl.out]; simp only [Nat.min_def]; split <;> omega) (fun _ => ⟨rfl, src_nb (Hh.out.below B4) hn0⟩) (by rw [length_vb, length_vb, Hl.out]; simp; omega) (vb_one _) w.heap.size w B4 (Nat.le_refl _) ?_; intro w5 hw5 B5)
      | (refine wpList_copy_splice rfl (.tmp 26) (.tmp 27) 25 25 rfl 5 Tryz.underlying25 (by kernel_rfl) (some ⟨w.heap.size, 3 + n, none⟩) A2 (3 + n + m - (3 + n)) (3 + n + m - (3 + n)) m c2 rfl rfl w.heap.size (3 + n) (splice (vb ((List.replicate (3 + n + m) 0).set 1 2)) 2 (vb fs)) 5 hw5.out (vb ts) (by rw [length_vb, Hl2.out]; simp only [Nat.min_def]; split <;> omega) (fun _ => ⟨rfl, src_nb (Hh2.out.below B5) hm0⟩) (by rw [length_splice _ _ _ (by rw [length_vb, length_vb, Hl.out]; simp; omega), length_vb, length_vb, Hl2.out]; simp) (vb_one _) w.heap.size w B5 (Nat.le_refl _) ?_; intro w6 hw6 B6))
    go_ret
    have hf := hw6.out
    rw [Hfm.out] at hf
    exact ⟨_, rfl, Nat.le_refl _, hf, B6⟩
end Go.Proofs.YtkeejhkjbmegkaaGreatDoor
namespace Go.Proofs.YtkeejhkjbmegkaaGreatDoor
open Go.RowKit
set_option linter.unusedVariables false
set_option maxRecDepth 100000

def rightK (N E D : Nat) : Bool := decide (N % 2 = 1 ∧ 16 ≤ bl N ∧ bl N ≤ 1024 ∧ E % 2 = 1 ∧ 1 < E ∧ E < N ∧ D < N)
theorem isOdd_no {w : World} {A : Option Addr} {n c N : Nat} {xs : List Nat} (h : Nt w w.heap.size A n c xs) (hN : val 18446744073709551616 xs = N) (ho : N % 2 = 0) :
    Calls Tryz.prog 89 #[.slice A n c] w fun e w' => e = .returned (.bool false) ∧ w = w' := by
  have hb := bit_any h 0 (by omega)
  rw [hN, show btN N 0 = N % 2 by simp [btN], ho] at hb
  have Hb := Lib.hid hb
  clear hb
  go_enter Tryz.func89, Tryz.ntmps89
  go_wp2_with fail
  refine Hb.out.mono ?_
  rintro e w1 ⟨rfl, rfl⟩
  go_wp2_with fail
  go_ret
  exact ⟨rfl, rfl⟩
set_option maxHeartbeats 4000000 in
theorem kright_b1 {w : World} {v : Value} {N E D : Nat} (h : Pr w v N E D) (hN2 : N % 2 = 0) :
    Calls Tryz.prog 45 #[v] w fun e w' => e = .returned (.int .i64 50) ∧ Below w.heap.size w w' := by
  obtain ⟨A1, n1, c1, x1, A2, n2, c2, x2, A3, n3, c3, x3, rfl, h1', e1, l1, h2', e2, l2, h3', e3, l3⟩ := h.ex
  clear h
  obtain ⟨w0, e0⟩ : ∃ w0, w0 = w.alloc (.cells #[Value.slice A1 n1 c1, .slice A2 n2 c2, .slice A3 n3 c3] 24) := ⟨_, rfl⟩
  obtain ⟨hx0, b0⟩ := box_new e0
  have h1 := h1'.up b0
  have h2 := h2'.up b0
  have h3 := h3'.up b0
  clear h1' h2' h3'
  have q0 := hx0.c0
  have q1 := hx0.c1
  have q2 := hx0.c2
  have hb := bits_any h1 (by omega)
  rw [e1] at hb
  have Hb := Lib.hid hb
  have Ho := Lib.hid (isOdd_no h1 e1 hN2)
  clear hb
  generalize bl N = k at *
  go_enter Tryz.func45, Tryz.ntmps45
  go_wp2_with fail
  rw [← e0]
  clear e0
  refine Hb.out.mono ?_
  rintro e w1 ⟨rfl, rfl⟩
  go_wp2_with fail
  refine Ho.out.mono ?_
  rintro e w1 ⟨rfl, rfl⟩
  go_wp2_with fail
  go_ret
  exact ⟨rfl, b0⟩
set_option maxHeartbeats 4000000 in
theorem kright_b2 {w : World} {v : Value} {N E D : Nat} (h : Pr w v N E D) (hN2 : N % 2 = 1) (hb1 : bl N < 16) :
    Calls Tryz.prog 45 #[v] w fun e w' => e = .returned (.int .i64 50) ∧ Below w.heap.size w w' := by
  obtain ⟨A1, n1, c1, x1, A2, n2, c2, x2, A3, n3, c3, x3, rfl, h1', e1, l1, h2', e2, l2, h3', e3, l3⟩ := h.ex
  clear h
  obtain ⟨w0, e0⟩ : ∃ w0, w0 = w.alloc (.cells #[Value.slice A1 n1 c1, .slice A2 n2 c2, .slice A3 n3 c3] 24) := ⟨_, rfl⟩
  obtain ⟨hx0, b0⟩ := box_new e0
  have h1 := h1'.up b0
  have h2 := h2'.up b0
  have h3 := h3'.up b0
  clear h1' h2' h3'
  have q0 := hx0.c0
  have q1 := hx0.c1
  have q2 := hx0.c2
  have hb := bits_any h1 (by omega)
  rw [e1] at hb
  have Hb := Lib.hid hb
  have Ho := Lib.hid (isOdd_yes h1 e1 hN2)
  clear hb
  generalize bl N = k at *
  go_enter Tryz.func45, Tryz.ntmps45
  go_wp2_with fail
  rw [← e0]
  clear e0
  refine Hb.out.mono ?_
  rintro e w1 ⟨rfl, rfl⟩
  go_wp2_with fail
  refine Ho.out.mono ?_
  rintro e w1 ⟨rfl, rfl⟩
  go_wp2_with fail
  go_ret
  exact ⟨rfl, b0⟩
set_option maxHeartbeats 4000000 in
theorem kright_b3 {w : World} {v : Value} {N E D : Nat} (h : Pr w v N E D) (hN2 : N % 2 = 1) (hb1 : 1024 < bl N) :
    Calls Tryz.prog 45 #[v] w fun e w' => e = .returned (.int .i64 50) ∧ Below w.heap.size w w' := by
  obtain ⟨A1, n1, c1, x1, A2, n2, c2, x2, A3, n3, c3, x3, rfl, h1', e1, l1, h2', e2, l2, h3', e3, l3⟩ := h.ex
  clear h
  obtain ⟨w0, e0⟩ : ∃ w0, w0 = w.alloc (.cells #[Value.slice A1 n1 c1, .slice A2 n2 c2, .slice A3 n3 c3] 24) := ⟨_, rfl⟩
  obtain ⟨hx0, b0⟩ := box_new e0
  have h1 := h1'.up b0
  have h2 := h2'.up b0
  have h3 := h3'.up b0
  clear h1' h2' h3'
  have q0 := hx0.c0
  have q1 := hx0.c1
  have q2 := hx0.c2
  have hb := bits_any h1 (by omega)
  rw [e1] at hb
  have Hb := Lib.hid hb
  have Ho := Lib.hid (isOdd_yes h1 e1 hN2)
  clear hb
  have hb0 : ¬ bl N < 16 := by omega
  generalize bl N = k at *
  go_enter Tryz.func45, Tryz.ntmps45
  go_wp2_with fail
  rw [← e0]
  clear e0
  refine Hb.out.mono ?_
  rintro e w1 ⟨rfl, rfl⟩
  go_wp2_with fail
  refine Ho.out.mono ?_
  rintro e w1 ⟨rfl, rfl⟩
  go_wp2_with fail
  go_ret
  exact ⟨rfl, b0⟩
set_option maxHeartbeats 4000000 in
theorem kright_b4 {w : World} {v : Value} {N E D : Nat} (h : Pr w v N E D) (hN2 : N % 2 = 1) (hb1 : 16 ≤ bl N) (hb2 : bl N ≤ 1024) (hE2 : E % 2 = 0) :
    Calls Tryz.prog 45 #[v] w fun e w' => e = .returned (.int .i64 50) ∧ Below w.heap.size w w' := by
  obtain ⟨A1, n1, c1, x1, A2, n2, c2, x2, A3, n3, c3, x3, rfl, h1', e1, l1, h2', e2, l2, h3', e3, l3⟩ := h.ex
  clear h
  obtain ⟨w0, e0⟩ : ∃ w0, w0 = w.alloc (.cells #[Value.slice A1 n1 c1, .slice A2 n2 c2, .slice A3 n3 c3] 24) := ⟨_, rfl⟩
  obtain ⟨hx0, b0⟩ := box_new e0
  have h1 := h1'.up b0
  have h2 := h2'.up b0
  have h3 := h3'.up b0
  clear h1' h2' h3'
  have q0 := hx0.c0
  have q1 := hx0.c1
  have q2 := hx0.c2
  have hb := bits_any h1 (by omega)
  rw [e1] at hb
  have Hb := Lib.hid hb
  have Ho := Lib.hid (isOdd_yes h1 e1 hN2)
  clear hb
  generalize bl N = k at *
  go_enter Tryz.func45, Tryz.ntmps45
  go_wp2_with fail
  rw [← e0]
  clear e0
  refine Hb.out.mono ?_
  rintro e w1 ⟨rfl, rfl⟩
  go_wp2_with fail
  refine Ho.out.mono ?_
  rintro e w1 ⟨rfl, rfl⟩
  go_wp2_with fail
  have hyd : Bx w0.drew w.heap.size (.slice A1 n1 c1) (.slice A2 n2 c2) (.slice A3 n3 c3) := ⟨hx0.lt, hx0.c0, hx0.c1, hx0.c2⟩
  have h1d := h1.drew
  have h2d := h2.drew
  have h3d := h3.drew
  have bd : Below w0.heap.size w0 w0.drew := (Below.refl _ _).drew
  have Ho2 := Lib.hid (isOdd_no h2d e2 hE2)
  have z0 := hyd.c0
  have z1 := hyd.c1
  have hwd : ∀ d, Bx (w0.drewN d) w.heap.size (.slice A1 n1 c1) (.slice A2 n2 c2) (.slice A3 n3 c3) := fun d => hx0.dr d
  first
   | (go_region_with ((first
      | (go_at_call 89; refine Ho2.out.mono ?_; rintro e w3 ⟨rfl, rfl⟩))))
   | fail
  all_goals
    go_wp2_with fail
    go_ret
    exact ⟨rfl, bthen b0 bd⟩
set_option maxHeartbeats 4000000 in
theorem kright_b5 {w : World} {v : Value} {N E D : Nat} (h : Pr w v N E D) (hN2 : N % 2 = 1) (hb1 : 16 ≤ bl N) (hb2 : bl N ≤ 1024) (hE2 : E % 2 = 1) (hE : E = 1) :
    Calls Tryz.prog 45 #[v] w fun e w' => e = .returned (.int .i64 50) ∧ Below w.heap.size w w' := by
  obtain ⟨A1, n1, c1, x1, A2, n2, c2, x2, A3, n3, c3, x3, rfl, h1', e1, l1, h2', e2, l2, h3', e3, l3⟩ := h.ex
  clear h
  obtain ⟨w0, e0⟩ : ∃ w0, w0 = w.alloc (.cells #[Value.slice A1 n1 c1, .slice A2 n2 c2, .slice A3 n3 c3] 24) := ⟨_, rfl⟩
  obtain ⟨hx0, b0⟩ := box_new e0
  have h1 := h1'.up b0
  have h2 := h2'.up b0
  have h3 := h3'.up b0
  clear h1' h2' h3'
  have q0 := hx0.c0
  have q1 := hx0.c1
  have q2 := hx0.c2
  have hb := bits_any h1 (by omega)
  rw [e1] at hb
  have Hb := Lib.hid hb
  have Ho := Lib.hid (isOdd_yes h1 e1 hN2)
  clear hb
  generalize bl N = k at *
  go_enter Tryz.func45, Tryz.ntmps45
  go_wp2_with fail
  rw [← e0]
  clear e0
  refine Hb.out.mono ?_
  rintro e w1 ⟨rfl, rfl⟩
  go_wp2_with fail
  refine Ho.out.mono ?_
  rintro e w1 ⟨rfl, rfl⟩
  go_wp2_with fail
  have hyd : Bx w0.drew w.heap.size (.slice A1 n1 c1) (.slice A2 n2 c2) (.slice A3 n3 c3) := ⟨hx0.lt, hx0.c0, hx0.c1, hx0.c2⟩
  have h1d := h1.drew
  have h2d := h2.drew
  have h3d := h3.drew
  have bd : Below w0.heap.size w0 w0.drew := (Below.refl _ _).drew
  have Ho2 := Lib.hid (isOdd_yes h2d e2 hE2)
  have z0 := hyd.c0
  have z1 := hyd.c1
  have hwd : ∀ d, Bx (w0.drewN d) w.heap.size (.slice A1 n1 c1) (.slice A2 n2 c2) (.slice A3 n3 c3) := fun d => hx0.dr d
  first
   | (go_region_with ((first
      | (go_at_call 89; refine Ho2.out.mono ?_; rintro e w3 ⟨rfl, rfl⟩)
      | (go_at_call 36; refine (of_any 1 _ rfl (by omega) _).mono ?_; rintro e w4 ⟨A4, n4, c4, x4, rfl, r4⟩
         have g4 := hyd.up r4.bel
         have g40 := g4.c0
         have g41 := g4.c1
         have v4 := r4.is)
      | (go_at_call 37; with_reducible refine (cmp_eq (h2d.up r4.bel) r4.nt (by rw [e2, v4]; exact hE)).mono ?_; rintro e w5 ⟨rfl, d5, rfl⟩
         have g5 := g4.dr d5
         have g50 := g5.c0
         have g51 := g5.c1))))
   | fail
  all_goals
    go_wp2_with fail
    go_ret
    exact ⟨rfl, bthen b0 (bdr (bthen bd r4.bel) d5)⟩
set_option maxHeartbeats 4000000 in
theorem kright_b6 {w : World} {v : Value} {N E D : Nat} (h : Pr w v N E D) (hN2 : N % 2 = 1) (hb1 : 16 ≤ bl N) (hb2 : bl N ≤ 1024) (hE2 : E % 2 = 1) (hE : 1 < E) (hEN : N < E) :
    Calls Tryz.prog 45 #[v] w fun e w' => e = .returned (.int .i64 50) ∧ Below w.heap.size w w' := by
  obtain ⟨A1, n1, c1, x1, A2, n2, c2, x2, A3, n3, c3, x3, rfl, h1', e1, l1, h2', e2, l2, h3', e3, l3⟩ := h.ex
  clear h
  obtain ⟨w0, e0⟩ : ∃ w0, w0 = w.alloc (.cells #[Value.slice A1 n1 c1, .slice A2 n2 c2, .slice A3 n3 c3] 24) := ⟨_, rfl⟩
  obtain ⟨hx0, b0⟩ := box_new e0
  have h1 := h1'.up b0
  have h2 := h2'.up b0
  have h3 := h3'.up b0
  clear h1' h2' h3'
  have q0 := hx0.c0
  have q1 := hx0.c1
  have q2 := hx0.c2
  have hb := bits_any h1 (by omega)
  rw [e1] at hb
  have Hb := Lib.hid hb
  have Ho := Lib.hid (isOdd_yes h1 e1 hN2)
  clear hb
  generalize bl N = k at *
  go_enter Tryz.func45, Tryz.ntmps45
  go_wp2_with fail
  rw [← e0]
  clear e0
  refine Hb.out.mono ?_
  rintro e w1 ⟨rfl, rfl⟩
  go_wp2_with fail
  refine Ho.out.mono ?_
  rintro e w1 ⟨rfl, rfl⟩
  go_wp2_with fail
  have hyd : Bx w0.drew w.heap.size (.slice A1 n1 c1) (.slice A2 n2 c2) (.slice A3 n3 c3) := ⟨hx0.lt, hx0.c0, hx0.c1, hx0.c2⟩
  have h1d := h1.drew
  have h2d := h2.drew
  have h3d := h3.drew
  have bd : Below w0.heap.size w0 w0.drew := (Below.refl _ _).drew
  have Ho2 := Lib.hid (isOdd_yes h2d e2 hE2)
  have z0 := hyd.c0
  have z1 := hyd.c1
  have hwd : ∀ d, Bx (w0.drewN d) w.heap.size (.slice A1 n1 c1) (.slice A2 n2 c2) (.slice A3 n3 c3) := fun d => hx0.dr d
  first
   | (go_region_with ((first
      | (go_at_call 89; refine Ho2.out.mono ?_; rintro e w3 ⟨rfl, rfl⟩)
      | (go_at_call 36; refine (of_any 1 _ rfl (by omega) _).mono ?_; rintro e w4 ⟨A4, n4, c4, x4, rfl, r4⟩
         have g4 := hyd.up r4.bel
         have g40 := g4.c0
         have g41 := g4.c1
         have v4 := r4.is)
      | (go_at_call 37; with_reducible refine (cmp_gt (h2d.up r4.bel) r4.nt (by rw [e2, v4]; exact hE)).mono ?_; rintro e w5 ⟨rfl, d5, rfl⟩
         have g5 := g4.dr d5
         have g50 := g5.c0
         have g51 := g5.c1)
      | (go_at_call 37; with_reducible refine (cmp_gt ((h2d.up r4.bel).dr d5) ((h1d.up r4.bel).dr d5) (by rw [e2, e1]; exact hEN)).mono ?_; rintro e w6 ⟨rfl, d6, rfl⟩))))
   | fail
  all_goals
    go_wp2_with fail
    go_ret
    exact ⟨rfl, bthen b0 (bdr (bthen bd r4.bel) (d5 + d6))⟩
set_option maxHeartbeats 4000000 in
theorem kright_b7 {w : World} {v : Value} {N E D : Nat} (h : Pr w v N E D) (hN2 : N % 2 = 1) (hb1 : 16 ≤ bl N) (hb2 : bl N ≤ 1024) (hE2 : E % 2 = 1) (hE : 1 < E) (hEN : E = N) :
    Calls Tryz.prog 45 #[v] w fun e w' => e = .returned (.int .i64 50) ∧ Below w.heap.size w w' := by
  obtain ⟨A1, n1, c1, x1, A2, n2, c2, x2, A3, n3, c3, x3, rfl, h1', e1, l1, h2', e2, l2, h3', e3, l3⟩ := h.ex
  clear h
  obtain ⟨w0, e0⟩ : ∃ w0, w0 = w.alloc (.cells #[Value.slice A1 n1 c1, .slice A2 n2 c2, .slice A3 n3 c3] 24) := ⟨_, rfl⟩
  obtain ⟨hx0, b0⟩ := box_new e0
  have h1 := h1'.up b0
  have h2 := h2'.up b0
  have h3 := h3'.up b0
  clear h1' h2' h3'
  have q0 := hx0.c0
  have q1 := hx0.c1
  have q2 := hx0.c2
  have hb := bits_any h1 (by omega)
  rw [e1] at hb
  have Hb := Lib.hid hb
  have Ho := Lib.hid (isOdd_yes h1 e1 hN2)
  clear hb
  generalize bl N = k at *
  go_enter Tryz.func45, Tryz.ntmps45
  go_wp2_with fail
  rw [← e0]
  clear e0
  refine Hb.out.mono ?_
  rintro e w1 ⟨rfl, rfl⟩
  go_wp2_with fail
  refine Ho.out.mono ?_
  rintro e w1 ⟨rfl, rfl⟩
  go_wp2_with fail
  have hyd : Bx w0.drew w.heap.size (.slice A1 n1 c1) (.slice A2 n2 c2) (.slice A3 n3 c3) := ⟨hx0.lt, hx0.c0, hx0.c1, hx0.c2⟩
  have h1d := h1.drew
  have h2d := h2.drew
  have h3d := h3.drew
  have bd : Below w0.heap.size w0 w0.drew := (Below.refl _ _).drew
  have Ho2 := Lib.hid (isOdd_yes h2d e2 hE2)
  have z0 := hyd.c0
  have z1 := hyd.c1
  have hwd : ∀ d, Bx (w0.drewN d) w.heap.size (.slice A1 n1 c1) (.slice A2 n2 c2) (.slice A3 n3 c3) := fun d => hx0.dr d
  first
   | (go_region_with ((first
      | (go_at_call 89; refine Ho2.out.mono ?_; rintro e w3 ⟨rfl, rfl⟩)
      | (go_at_call 36; refine (of_any 1 _ rfl (by omega) _).mono ?_; rintro e w4 ⟨A4, n4, c4, x4, rfl, r4⟩
         have g4 := hyd.up r4.bel
         have g40 := g4.c0
         have g41 := g4.c1
         have v4 := r4.is)
      | (go_at_call 37; with_reducible refine (cmp_gt (h2d.up r4.bel) r4.nt (by rw [e2, v4]; exact hE)).mono ?_; rintro e w5 ⟨rfl, d5, rfl⟩
         have g5 := g4.dr d5
         have g50 := g5.c0
         have g51 := g5.c1)
      | (go_at_call 37; with_reducible refine (cmp_eq ((h2d.up r4.bel).dr d5) ((h1d.up r4.bel).dr d5) (by rw [e2, e1]; exact hEN)).mono ?_; rintro e w6 ⟨rfl, d6, rfl⟩))))
   | fail
  all_goals
    go_wp2_with fail
    go_ret
    exact ⟨rfl, bthen b0 (bdr (bthen bd r4.bel) (d5 + d6))⟩
set_option maxHeartbeats 4000000 in
theorem kright_b8 {w : World} {v : Value} {N E D : Nat} (h : Pr w v N E D) (hN2 : N % 2 = 1) (hb1 : 16 ≤ bl N) (hb2 : bl N ≤ 1024) (hE2 : E % 2 = 1) (hE : 1 < E) (hEN : E < N) (hDN : N < D) :
    Calls Tryz.prog 45 #[v] w fun e w' => e = .returned (.int .i64 50) ∧ Below w.heap.size w w' := by
  obtain ⟨A1, n1, c1, x1, A2, n2, c2, x2, A3, n3, c3, x3, rfl, h1', e1, l1, h2', e2, l2, h3', e3, l3⟩ := h.ex
  clear h
  obtain ⟨w0, e0⟩ : ∃ w0, w0 = w.alloc (.cells #[Value.slice A1 n1 c1, .slice A2 n2 c2, .slice A3 n3 c3] 24) := ⟨_, rfl⟩
  obtain ⟨hx0, b0⟩ := box_new e0
  have h1 := h1'.up b0
  have h2 := h2'.up b0
  have h3 := h3'.up b0
  clear h1' h2' h3'
  have q0 := hx0.c0
  have q1 := hx0.c1
  have q2 := hx0.c2
  have hb := bits_any h1 (by omega)
  rw [e1] at hb
  have Hb := Lib.hid hb
  have Ho := Lib.hid (isOdd_yes h1 e1 hN2)
  clear hb
  generalize bl N = k at *
  go_enter Tryz.func45, Tryz.ntmps45
  go_wp2_with fail
  rw [← e0]
  clear e0
  refine Hb.out.mono ?_
  rintro e w1 ⟨rfl, rfl⟩
  go_wp2_with fail
  refine Ho.out.mono ?_
  rintro e w1 ⟨rfl, rfl⟩
  go_wp2_with fail
  have hyd : Bx w0.drew w.heap.size (.slice A1 n1 c1) (.slice A2 n2 c2) (.slice A3 n3 c3) := ⟨hx0.lt, hx0.c0, hx0.c1, hx0.c2⟩
  have h1d := h1.drew
  have h2d := h2.drew
  have h3d := h3.drew
  have bd : Below w0.heap.size w0 w0.drew := (Below.refl _ _).drew
  have Ho2 := Lib.hid (isOdd_yes h2d e2 hE2)
  have z0 := hyd.c0
  have z1 := hyd.c1
  have hwd : ∀ d, Bx (w0.drewN d) w.heap.size (.slice A1 n1 c1) (.slice A2 n2 c2) (.slice A3 n3 c3) := fun d => hx0.dr d
  first
   | (go_region_with ((first
      | (go_at_call 89; refine Ho2.out.mono ?_; rintro e w3 ⟨rfl, rfl⟩)
      | (go_at_call 36; refine (of_any 1 _ rfl (by omega) _).mono ?_; rintro e w4 ⟨A4, n4, c4, x4, rfl, r4⟩
         have g4 := hyd.up r4.bel
         have g40 := g4.c0
         have g41 := g4.c1
         have v4 := r4.is)
      | (go_at_call 37; with_reducible refine (cmp_gt (h2d.up r4.bel) r4.nt (by rw [e2, v4]; exact hE)).mono ?_; rintro e w5 ⟨rfl, d5, rfl⟩
         have g5 := g4.dr d5
         have g50 := g5.c0
         have g51 := g5.c1)
      | (go_at_call 37; with_reducible refine (cmp_lt ((h2d.up r4.bel).dr d5) ((h1d.up r4.bel).dr d5) (by rw [e2, e1]; exact hEN)).mono ?_; rintro e w6 ⟨rfl, d6, rfl⟩))))
   | fail
  all_goals
    have y := g4.dr (d5 + d6)
    have y0 := y.c0
    have y1 := y.c1
    have y2 := y.c2
    go_wp2_with fail
    refine (cmp_gt ((h3d.up r4.bel).dr (d5 + d6)) ((h1d.up r4.bel).dr (d5 + d6)) (by rw [e3, e1]; exact hDN)).mono ?_
    rintro e w7 ⟨rfl, d7, rfl⟩
    have B7 := bdr (w1 := _) (bthen bd r4.bel) (d5 + d6 + d7)
    go_wp2_with fail
    go_ret
    exact ⟨rfl, bthen b0 B7⟩
set_option maxHeartbeats 4000000 in
theorem kright_b9 {w : World} {v : Value} {N E D : Nat} (h : Pr w v N E D) (hN2 : N % 2 = 1) (hb1 : 16 ≤ bl N) (hb2 : bl N ≤ 1024) (hE2 : E % 2 = 1) (hE : 1 < E) (hEN : E < N) (hDN : D = N) :
    Calls Tryz.prog 45 #[v] w fun e w' => e = .returned (.int .i64 50) ∧ Below w.heap.size w w' := by
  obtain ⟨A1, n1, c1, x1, A2, n2, c2, x2, A3, n3, c3, x3, rfl, h1', e1, l1, h2', e2, l2, h3', e3, l3⟩ := h.ex
  clear h
  obtain ⟨w0, e0⟩ : ∃ w0, w0 = w.alloc (.cells #[Value.slice A1 n1 c1, .slice A2 n2 c2, .slice A3 n3 c3] 24) := ⟨_, rfl⟩
  obtain ⟨hx0, b0⟩ := box_new e0
  have h1 := h1'.up b0
  have h2 := h2'.up b0
  have h3 := h3'.up b0
  clear h1' h2' h3'
  have q0 := hx0.c0
  have q1 := hx0.c1
  have q2 := hx0.c2
  have hb := bits_any h1 (by omega)
  rw [e1] at hb
  have Hb := Lib.hid hb
  have Ho := Lib.hid (isOdd_yes h1 e1 hN2)
  clear hb
  generalize bl N = k at *
  go_enter Tryz.func45, Tryz.ntmps45
  go_wp2_with fail
  rw [← e0]
  clear e0
  refine Hb.out.mono ?_
  rintro e w1 ⟨rfl, rfl⟩
  go_wp2_with fail
  refine Ho.out.mono ?_
  rintro e w1 ⟨rfl, rfl⟩
  go_wp2_with fail
  have hyd : Bx w0.drew w.heap.size (.slice A1 n1 c1) (.slice A2 n2 c2) (.slice A3 n3 c3) := ⟨hx0.lt, hx0.c0, hx0.c1, hx0.c2⟩
  have h1d := h1.drew
  have h2d := h2.drew
  have h3d := h3.drew
  have bd : Below w0.heap.size w0 w0.drew := (Below.refl _ _).drew
  have Ho2 := Lib.hid (isOdd_yes h2d e2 hE2)
  have z0 := hyd.c0
  have z1 := hyd.c1
  have hwd : ∀ d, Bx (w0.drewN d) w.heap.size (.slice A1 n1 c1) (.slice A2 n2 c2) (.slice A3 n3 c3) := fun d => hx0.dr d
  first
   | (go_region_with ((first
      | (go_at_call 89; refine Ho2.out.mono ?_; rintro e w3 ⟨rfl, rfl⟩)
      | (go_at_call 36; refine (of_any 1 _ rfl (by omega) _).mono ?_; rintro e w4 ⟨A4, n4, c4, x4, rfl, r4⟩
         have g4 := hyd.up r4.bel
         have g40 := g4.c0
         have g41 := g4.c1
         have v4 := r4.is)
      | (go_at_call 37; with_reducible refine (cmp_gt (h2d.up r4.bel) r4.nt (by rw [e2, v4]; exact hE)).mono ?_; rintro e w5 ⟨rfl, d5, rfl⟩
         have g5 := g4.dr d5
         have g50 := g5.c0
         have g51 := g5.c1)
      | (go_at_call 37; with_reducible refine (cmp_lt ((h2d.up r4.bel).dr d5) ((h1d.up r4.bel).dr d5) (by rw [e2, e1]; exact hEN)).mono ?_; rintro e w6 ⟨rfl, d6, rfl⟩))))
   | fail
  all_goals
    have y := g4.dr (d5 + d6)
    have y0 := y.c0
    have y1 := y.c1
    have y2 := y.c2
    go_wp2_with fail
    refine (cmp_eq ((h3d.up r4.bel).dr (d5 + d6)) ((h1d.up r4.bel).dr (d5 + d6)) (by rw [e3, e1]; exact hDN)).mono ?_
    rintro e w7 ⟨rfl, d7, rfl⟩
    have B7 := bdr (w1 := _) (bthen bd r4.bel) (d5 + d6 + d7)
    go_wp2_with fail
    go_ret
    exact ⟨rfl, bthen b0 B7⟩
theorem kright_bad {w : World} {v : Value} {N E D : Nat} (h : Pr w v N E D) (hR : rightK N E D = false) :
    Calls Tryz.prog 45 #[v] w fun e w' => e = .returned (.int .i64 50) ∧ Below w.heap.size w w' := by
  unfold rightK at hR
  rw [decide_eq_false_iff_not] at hR
  by_cases h1 : N % 2 = 1
  · by_cases h2 : bl N < 16
    · exact kright_b2 h h1 h2
    · by_cases h3 : 1024 < bl N
      · exact kright_b3 h h1 h3
      · by_cases h4 : E % 2 = 1
        · by_cases h5 : E = 1
          · exact kright_b5 h h1 (by omega) (by omega) h4 h5
          · rcases Nat.lt_trichotomy E N with h6 | h6 | h6
            · rcases Nat.lt_trichotomy D N with h7 | h7 | h7
              · exact absurd ⟨h1, by omega, by omega, h4, by omega, h6, h7⟩ hR
              · exact kright_b9 h h1 (by omega) (by omega) h4 (by omega) h6 h7
              · exact kright_b8 h h1 (by omega) (by omega) h4 (by omega) h6 h7
            · exact kright_b7 h h1 (by omega) (by omega) h4 (by omega) h6
            · exact kright_b6 h h1 (by omega) (by omega) h4 (by omega) h6
        · exact kright_b4 h h1 (by omega) (by omega) (by omega)
  · exact kright_b1 h (by omega)
theorem kright_ok {w : World} {v : Value} {N E D : Nat} (h : Pr w v N E D) (hR : rightK N E D = true) :
    Calls Tryz.prog 45 #[v] w fun e w' => e = .returned (.int .i64 0) ∧ Below w.heap.size w w' := by
  unfold rightK at hR
  rw [decide_eq_true_iff] at hR
  obtain ⟨h1, h2, h3, h4, h5, h6, h7⟩ := hR
  exact kright_any h h1 h2 h3 h4 h5 h6 h7
theorem rightK_pos {N E D : Nat} (hR : rightK N E D = true) : 0 < N ∧ (bl N + 7) / 8 ≤ 128 ∧ 2 ≤ (bl N + 7) / 8 := by
  unfold rightK at hR
  rw [decide_eq_true_iff] at hR
  omega
end Go.Proofs.YtkeejhkjbmegkaaGreatDoor
namespace Go.Proofs.YtkeejhkjbmegkaaGreatDoor
open Go.RowKit
set_option linter.unusedVariables false
set_option maxRecDepth 100000

def RetPad (k : Int) (w : World) (e : Ending) (w' : World) : Prop := e = .returned (.tuple #[.slice none 0 0, .int .i64 k]) ∧ Below w.heap.size w w'
theorem fillingOf_at {w : World} {A : Option Addr} {l c : Nat} {xs : List Nat} (h : Sh.Nb w w.heap.size A l c xs) (n : Nat) (hn : n ≤ 1000) (x : Int) (hx : x = (n : Int)) :
    Calls Tryz.prog 51 #[.slice A l c, .int .i64 x] w (FillIs xs n w) := by
  subst hx
  exact fillingOf_any h n hn
set_option maxHeartbeats 1000000 in
theorem secret_zero {w : World} {v : Value} {N E : Nat} (h : Pr w v N E 0) :
    Calls Tryz.prog 38 #[v] w fun e w' => e = .returned (.int .i64 50) ∧ Below w.heap.size w w' := by
  have Hh := Lib.hid h
  obtain ⟨A1, n1, c1, x1, A2, n2, c2, x2, A3, n3, c3, x3, rfl, h1', e1, l1, h2', e2, l2, h3', e3, l3⟩ := h.ex
  clear h
  obtain ⟨w0, e0⟩ : ∃ w0, w0 = w.alloc (.cells #[Value.slice A1 n1 c1, .slice A2 n2 c2, .slice A3 n3 c3] 24) := ⟨_, rfl⟩
  obtain ⟨hx0, b0⟩ := box_new e0
  have h1 := h1'.up b0
  have h2 := h2'.up b0
  have h3 := h3'.up b0
  clear h1' h2' h3'
  have q0 := hx0.c0
  have q1 := hx0.c1
  have q2 := hx0.c2
  have hb := bits_any h3 (by omega)
  rw [e3, show bl 0 = 0 by rfl] at hb
  have Hb := Lib.hid hb
  clear hb
  go_enter Tryz.func38, Tryz.ntmps38
  go_wp2_with fail
  rw [← e0]
  clear e0
  refine Hb.out.mono ?_
  rintro e w1 ⟨rfl, rfl⟩
  go_wp2_with fail
  go_ret
  exact ⟨rfl, b0⟩
set_option maxHeartbeats 1000000 in
theorem secret_bad {w : World} {v : Value} {N E D : Nat} (h : Pr w v N E D) (hD : 0 < D) (hR : rightK N E D = false) :
    Calls Tryz.prog 38 #[v] w fun e w' => e = .returned (.int .i64 50) ∧ Below w.heap.size w w' := by
  have HR := Lib.hid hR
  clear hR
  have Hh := Lib.hid h
  obtain ⟨A1, n1, c1, x1, A2, n2, c2, x2, A3, n3, c3, x3, rfl, h1', e1, l1, h2', e2, l2, h3', e3, l3⟩ := h.ex
  clear h
  obtain ⟨w0, e0⟩ : ∃ w0, w0 = w.alloc (.cells #[Value.slice A1 n1 c1, .slice A2 n2 c2, .slice A3 n3 c3] 24) := ⟨_, rfl⟩
  obtain ⟨hx0, b0⟩ := box_new e0
  have h1 := h1'.up b0
  have h2 := h2'.up b0
  have h3 := h3'.up b0
  clear h1' h2' h3'
  have q0 := hx0.c0
  have q1 := hx0.c1
  have q2 := hx0.c2
  have hb := bits_any h3 (by omega)
  rw [e3] at hb
  have hp := bl_pos hD
  have Hb := Lib.hid hb
  clear hb
  generalize bl D = k at *
  have hk : ((k : Int) == 0) = false := by simp; omega
  go_enter Tryz.func38, Tryz.ntmps38
  go_wp2_with fail
  rw [← e0]
  clear e0
  refine Hb.out.mono ?_
  rintro e w1 ⟨rfl, rfl⟩
  go_wp2_with fail
  refine (kright_bad (Hh.out.up b0) HR.out).mono ?_
  rintro e w2 ⟨rfl, b2⟩
  go_wp2_with fail
  go_ret
  exact ⟨rfl, bthen b0 b2⟩
theorem secret_ok {w : World} {v : Value} {N E D : Nat} (h : Pr w v N E D) (hD : 0 < D) (hR : rightK N E D = true) :
    Calls Tryz.prog 38 #[v] w fun e w' => e = .returned (.int .i64 0) ∧ Below w.heap.size w w' := by
  unfold rightK at hR
  rw [decide_eq_true_iff] at hR
  obtain ⟨h1, h2, h3, h4, h5, h6, h7⟩ := hR
  exact secret_any h h1 h2 h3 h4 h5 h6 h7 hD
/-- is a key right, with a secret -/
def secK (N E D : Nat) : Bool := rightK N E D && decide (0 < D)
theorem secK_ok {w : World} {v : Value} {N E D : Nat} (h : Pr w v N E D) (hR : secK N E D = true) :
    Calls Tryz.prog 38 #[v] w fun e w' => e = .returned (.int .i64 0) ∧ Below w.heap.size w w' := by
  unfold secK at hR
  rw [Bool.and_eq_true, decide_eq_true_iff] at hR
  exact secret_ok h hR.2 hR.1
theorem secK_bad {w : World} {v : Value} {N E D : Nat} (h : Pr w v N E D) (hR : secK N E D = false) :
    Calls Tryz.prog 38 #[v] w fun e w' => e = .returned (.int .i64 50) ∧ Below w.heap.size w w' := by
  rcases Nat.eq_zero_or_pos D with h0 | h0
  · subst h0; exact secret_zero h
  · refine secret_bad h h0 ?_
    unfold secK at hR
    simpa [h0] using hR
set_option maxHeartbeats 4000000 in
theorem fits_wrong {w : World} {v : Value} {N E D s : Nat} (h : Pr w v N E D) (hs : (bl N + 7) / 8 = s) {A2 : Option Addr} {m c2 : Nat} (hm : m ≠ s) :
    Calls Tryz.prog 46 #[v, .slice A2 m c2] w fun e w' => e = .returned (.bool false) ∧ Below w.heap.size w w' := by
  have hsz := fun W (k : Pr W v N E D) => size_any k
  rw [hs] at hsz
  have Hsz := Lib.hid hsz
  have hmn : ((m : Int) == (s : Int)) = false := by simp; omega
  have Hh := Lib.hid h
  obtain ⟨A1, n1, c1, x1, A5, n5, c5, x2, A3, n3, c3, x3, rfl, h1', e1, l1, h2', e2, l2, h3', e3, l3⟩ := h.ex
  clear h hsz hs hm
  obtain ⟨w0, e0⟩ : ∃ w0, w0 = w.alloc (.cells #[Value.slice A1 n1 c1, .slice A5 n5 c5, .slice A3 n3 c3] 24) := ⟨_, rfl⟩
  obtain ⟨hx0, b0⟩ := box_new e0
  have h1 := h1'.up b0
  have h2 := h2'.up b0
  have h3 := h3'.up b0
  clear h1' h2' h3'
  have q0 := hx0.c0
  have q1 := hx0.c1
  have q2 := hx0.c2
  go_enter Tryz.func46, Tryz.ntmps46
  go_wp2_with fail
  rw [← e0]
  clear e0
  have p0 := (Hh.out.up b0).dr 1
  have hyd : Bx w0.drew w.heap.size (.slice A1 n1 c1) (.slice A5 n5 c5) (.slice A3 n3 c3) := ⟨hx0.lt, hx0.c0, hx0.c1, hx0.c2⟩
  have bd : Below w0.heap.size w0 w0.drew := (Below.refl _ _).drew
  have z0 := hyd.c0
  have z1 := hyd.c1
  have z2 := hyd.c2
  first
   | (go_region_with ((first
      | (go_at_call 20; refine (Hsz.out _ p0).mono ?_; rintro e w3 ⟨rfl, b3⟩
         have g3 := hyd.up b3
         have g30 := g3.c0
         have g31 := g3.c1
         have g32 := g3.c2))))
   | fail
  all_goals
    have B := bthen bd b3
    go_wp2_with fail
    go_ret
    exact ⟨rfl, bthen b0 B⟩
set_option maxHeartbeats 4000000 in
theorem enc_bad {w : World} {v : Value} {N E D s : Nat} (h : Pr w v N E D) {A4 : Option Addr} {m c4 : Nat} {ts : List Nat} (ht : Sh.Nb w w.heap.size A4 m c4 ts) {A5 : Option Addr} {l c5 : Nat} {ds : List Nat} (hd : Sh.Nb w w.heap.size A5 l c5 ds) (hR : rightK N E D = false) :
    Calls Tryz.prog 14 #[v, .slice A4 m c4, .slice A5 l c5] w (RetPad 50 w) := by
  have HR := Lib.hid hR
  clear hR
  have Hh := Lib.hid h
  obtain ⟨A1, n1, c1, x1, A2, n2, c2, x2, A3, n3, c3, x3, rfl, h1', e1, l1, h2', e2, l2, h3', e3, l3⟩ := h.ex
  clear h
  have rt := ht.room
  have rt2 := ht.cap
  have rd := hd.room
  obtain ⟨w0, e0⟩ : ∃ w0, w0 = w.alloc (.cells #[Value.slice A1 n1 c1, .slice A2 n2 c2, .slice A3 n3 c3] 24) := ⟨_, rfl⟩
  obtain ⟨hx0, b0⟩ := box_new e0
  have h1 := h1'.up b0
  have h2 := h2'.up b0
  have h3 := h3'.up b0
  clear h1' h2' h3'
  have q0 := hx0.c0
  have q1 := hx0.c1
  have q2 := hx0.c2
  have ht0 := ht.go b0
  have hd0 := hd.go b0
  go_enter Tryz.func14, Tryz.ntmps14
  go_wp2_with fail
  rw [← e0]
  clear e0
  refine (kright_bad (Hh.out.up b0) HR.out).mono ?_
  rintro e w2 ⟨rfl, b2⟩
  go_wp2_with fail
  go_ret2
  exact ⟨rfl, bthen b0 b2⟩
set_option maxHeartbeats 4000000 in
theorem enc_pad {w : World} {v : Value} {N E D s : Nat} (h : Pr w v N E D) {A4 : Option Addr} {m c4 : Nat} {ts : List Nat} (ht : Sh.Nb w w.heap.size A4 m c4 ts) {A5 : Option Addr} {l c5 : Nat} {ds : List Nat} (hd : Sh.Nb w w.heap.size A5 l c5 ds) (hR : rightK N E D = true) (hs : (bl N + 7) / 8 = s) (hm : s < 11 + m) (hm2 : m ≤ 1000) :
    Calls Tryz.prog 14 #[v, .slice A4 m c4, .slice A5 l c5] w (RetPad 51 w) := by
  have HR := Lib.hid hR
  have hsz := fun W (k : Pr W v N E D) => size_any k
  rw [hs] at hsz
  have Hsz := Lib.hid hsz
  have hs2 : s ≤ 128 := by have := rightK_pos hR; omega
  have hN0 : 0 < N := (rightK_pos hR).1
  have hwk := fun W (k : Pr W v N E D) {A n c pw xs} (kp : Nt W W.heap.size A n c xs) (ep : val 18446744073709551616 xs = pw) (lp : n ≤ 100) {A2 m c2 bs} (kb : Nb W W.heap.size A2 m c2 bs) (km : m ≤ 1000) => work_any k hN0 hs (by omega) kp ep lp kb km
  have Hwk := Lib.hid hwk
  clear hR hs hsz hwk
  have Hh := Lib.hid h
  obtain ⟨A1, n1, c1, x1, A2, n2, c2, x2, A3, n3, c3, x3, rfl, h1', e1, l1, h2', e2, l2, h3', e3, l3⟩ := h.ex
  clear h
  have rt := ht.room
  have rt2 := ht.cap
  have rd := hd.room
  obtain ⟨w0, e0⟩ : ∃ w0, w0 = w.alloc (.cells #[Value.slice A1 n1 c1, .slice A2 n2 c2, .slice A3 n3 c3] 24) := ⟨_, rfl⟩
  obtain ⟨hx0, b0⟩ := box_new e0
  have h1 := h1'.up b0
  have h2 := h2'.up b0
  have h3 := h3'.up b0
  clear h1' h2' h3'
  have q0 := hx0.c0
  have q1 := hx0.c1
  have q2 := hx0.c2
  have ht0 := ht.go b0
  have hd0 := hd.go b0
  go_enter Tryz.func14, Tryz.ntmps14
  go_wp2_with fail
  rw [← e0]
  clear e0
  refine (kright_ok (Hh.out.up b0) HR.out).mono ?_
  rintro e w2 ⟨rfl, b2⟩
  have hy := hx0.up b2
  have y0 := hy.c0
  have y1 := hy.c1
  have y2 := hy.c2
  go_wp2_with fail
  refine (Hsz.out _ ((Hh.out.up b0).up b2)).mono ?_
  rintro e w3 ⟨rfl, b3⟩
  have B3 := bthen b2 b3
  have hz := hx0.up B3
  have z0 := hz.c0
  have z1 := hz.c1
  have z2 := hz.c2
  have ht3 := ht0.go B3
  have hd3 := hd0.go B3
  go_wp2_with fail
  go_ret2
  exact ⟨rfl, bthen b0 B3⟩
set_option maxHeartbeats 4000000 in
theorem enc_few {w : World} {v : Value} {N E D s : Nat} (h : Pr w v N E D) {A4 : Option Addr} {m c4 : Nat} {ts : List Nat} (ht : Sh.Nb w w.heap.size A4 m c4 ts) {A5 : Option Addr} {l c5 : Nat} {ds : List Nat} (hd : Sh.Nb w w.heap.size A5 l c5 ds) (hR : rightK N E D = true) (hs : (bl N + 7) / 8 = s) {r : Nat} (hm : s = r + 3 + m) (h8 : 8 ≤ r) (hm6 : (fillL ds r).length < r) :
    Calls Tryz.prog 14 #[v, .slice A4 m c4, .slice A5 l c5] w (RetPad 52 w) := by
  have HR := Lib.hid hR
  have hsz := fun W (k : Pr W v N E D) => size_any k
  rw [hs] at hsz
  have Hsz := Lib.hid hsz
  have hs2 : s ≤ 128 := by have := rightK_pos hR; omega
  have hN0 : 0 < N := (rightK_pos hR).1
  have hwk := fun W (k : Pr W v N E D) {A n c pw xs} (kp : Nt W W.heap.size A n c xs) (ep : val 18446744073709551616 xs = pw) (lp : n ≤ 100) {A2 m c2 bs} (kb : Nb W W.heap.size A2 m c2 bs) (km : m ≤ 1000) => work_any k hN0 hs (by omega) kp ep lp kb km
  have Hwk := Lib.hid hwk
  clear hR hs hsz hwk
  have Hh := Lib.hid h
  obtain ⟨A1, n1, c1, x1, A2, n2, c2, x2, A3, n3, c3, x3, rfl, h1', e1, l1, h2', e2, l2, h3', e3, l3⟩ := h.ex
  clear h
  have rt := ht.room
  have rt2 := ht.cap
  have rd := hd.room
  obtain ⟨w0, e0⟩ : ∃ w0, w0 = w.alloc (.cells #[Value.slice A1 n1 c1, .slice A2 n2 c2, .slice A3 n3 c3] 24) := ⟨_, rfl⟩
  obtain ⟨hx0, b0⟩ := box_new e0
  have h1 := h1'.up b0
  have h2 := h2'.up b0
  have h3 := h3'.up b0
  clear h1' h2' h3'
  have q0 := hx0.c0
  have q1 := hx0.c1
  have q2 := hx0.c2
  have ht0 := ht.go b0
  have hd0 := hd.go b0
  go_enter Tryz.func14, Tryz.ntmps14
  go_wp2_with fail
  rw [← e0]
  clear e0
  refine (kright_ok (Hh.out.up b0) HR.out).mono ?_
  rintro e w2 ⟨rfl, b2⟩
  have hy := hx0.up b2
  have y0 := hy.c0
  have y1 := hy.c1
  have y2 := hy.c2
  go_wp2_with fail
  refine (Hsz.out _ ((Hh.out.up b0).up b2)).mono ?_
  rintro e w3 ⟨rfl, b3⟩
  have B3 := bthen b2 b3
  have hz := hx0.up B3
  have z0 := hz.c0
  have z1 := hz.c1
  have z2 := hz.c2
  have ht3 := ht0.go B3
  have hd3 := hd0.go B3
  go_wp2_with fail
  refine (fillingOf_at hd3 r (by omega) _ (by omega)).mono ?_
  rintro e w4 ⟨A6, m6, c6, rfl, em6, n6, b4⟩
  have B4 := bthen B3 b4
  have hf6 := hm6
  rw [← em6] at hf6
  have Em6 := Lib.hid em6
  clear em6 hm6
  go_wp2_with fail
  go_ret2
  exact ⟨rfl, bthen b0 B4⟩
set_option maxHeartbeats 4000000 in
theorem enc_ok {w : World} {v : Value} {N E D s : Nat} (h : Pr w v N E D) {A4 : Option Addr} {m c4 : Nat} {ts : List Nat} (ht : Sh.Nb w w.heap.size A4 m c4 ts) {A5 : Option Addr} {l c5 : Nat} {ds : List Nat} (hd : Sh.Nb w w.heap.size A5 l c5 ds) (hR : rightK N E D = true) (hs : (bl N + 7) / 8 = s) {r : Nat} (hm : s = r + 3 + m) (h8 : 8 ≤ r) (hm6 : (fillL ds r).length = r) :
    Calls Tryz.prog 14 #[v, .slice A4 m c4, .slice A5 l c5] w fun e w' => ∃ g, e = .returned (.tuple #[.slice (some ⟨g, 0, none⟩) s s, .int .i64 0]) ∧ w.heap.size ≤ g ∧ Ob w' g (bts (val 256 (cryptN (fillL ds r) ts).reverse ^ E % N) s) ∧ Below w.heap.size w w' := by
  have HR := Lib.hid hR
  have hsz := fun W (k : Pr W v N E D) => size_any k
  rw [hs] at hsz
  have Hsz := Lib.hid hsz
  have hs2 : s ≤ 128 := by have := rightK_pos hR; omega
  have hN0 : 0 < N := (rightK_pos hR).1
  have hwk := fun W (k : Pr W v N E D) {A n c pw xs} (kp : Nt W W.heap.size A n c xs) (ep : val 18446744073709551616 xs = pw) (lp : n ≤ 100) {A2 m c2 bs} (kb : Nb W W.heap.size A2 m c2 bs) (km : m ≤ 1000) => work_any k hN0 hs (by omega) kp ep lp kb km
  have Hwk := Lib.hid hwk
  clear hR hs hsz hwk
  have Hh := Lib.hid h
  obtain ⟨A1, n1, c1, x1, A2, n2, c2, x2, A3, n3, c3, x3, rfl, h1', e1, l1, h2', e2, l2, h3', e3, l3⟩ := h.ex
  clear h
  have rt := ht.room
  have rt2 := ht.cap
  have rd := hd.room
  obtain ⟨w0, e0⟩ : ∃ w0, w0 = w.alloc (.cells #[Value.slice A1 n1 c1, .slice A2 n2 c2, .slice A3 n3 c3] 24) := ⟨_, rfl⟩
  obtain ⟨hx0, b0⟩ := box_new e0
  have h1 := h1'.up b0
  have h2 := h2'.up b0
  have h3 := h3'.up b0
  clear h1' h2' h3'
  have q0 := hx0.c0
  have q1 := hx0.c1
  have q2 := hx0.c2
  have ht0 := ht.go b0
  have hd0 := hd.go b0
  go_enter Tryz.func14, Tryz.ntmps14
  go_wp2_with fail
  rw [← e0]
  clear e0
  refine (kright_ok (Hh.out.up b0) HR.out).mono ?_
  rintro e w2 ⟨rfl, b2⟩
  have hy := hx0.up b2
  have y0 := hy.c0
  have y1 := hy.c1
  have y2 := hy.c2
  go_wp2_with fail
  refine (Hsz.out _ ((Hh.out.up b0).up b2)).mono ?_
  rintro e w3 ⟨rfl, b3⟩
  have B3 := bthen b2 b3
  have hz := hx0.up B3
  have z0 := hz.c0
  have z1 := hz.c1
  have z2 := hz.c2
  have ht3 := ht0.go B3
  have hd3 := hd0.go B3
  go_wp2_with fail
  refine (fillingOf_at hd3 r (by omega) _ (by omega)).mono ?_
  rintro e w4 ⟨A6, m6, c6, rfl, em6, n6, b4⟩
  have B4 := bthen B3 b4
  have hf6 := hm6
  rw [← em6] at hf6
  have Em6 := Lib.hid em6
  clear em6 hm6
  have g6 := hx0.up B4
  have f0 := g6.c0
  have f1 := g6.c1
  have f2 := g6.c2
  obtain rfl : m6 = r := hf6
  have hkd : Bx w4.drew w.heap.size (.slice A1 n1 c1) (.slice A2 n2 c2) (.slice A3 n3 c3) := ⟨g6.lt, g6.c0, g6.c1, g6.c2⟩
  have k0 := hkd.c0
  have k1 := hkd.c1
  have bD : Below w4.heap.size w4 w4.drew := (Below.refl _ _).drew
  have B5 := bthen B4 bD
  have p5 := (Hh.out.up b0).up B5
  have h2d := h2.up B5
  have ht5 := ht0.go B5
  have n65 := n6.go bD
  have hsum : 3 + m6 + m = s := by omega
  have hfr := framed2_any n65 ht5 (by omega) (by omega) (by omega)
  rw [hsum] at hfr
  have Hfr := Lib.hid hfr
  have Hm := Lib.hid hm
  have hcl : (cryptN (fillL ds m6) ts).length = s := by rw [cryptN_length, ← Em6.out, ht.len]; exact hsum
  have Hcl := Lib.hid hcl
  have Hcm := Lib.hid (cryptN_lim n6.lim ht.lim)
  clear hsum hcl hm hfr
  go_wp2_with fail
  go_region_held3 (fun w' => w'.cell? ⟨w.heap.size, 0, none⟩ = some (Value.slice A1 n1 c1) ∧ w'.cell? ⟨w.heap.size, 1, none⟩ = some (Value.slice A2 n2 c2) ∧ w'.cell? ⟨w.heap.size, 2, none⟩ = some (Value.slice A3 n3 c3))
    (first | exact ⟨yy.c0, yy.c1, yy.c2⟩ | exact ⟨y.c0, y.c1, y.c2⟩ | exact ⟨hkd.c0, hkd.c1, hkd.c2⟩)
    ((first
      | (go_at_call 52; refine Hfr.out.mono ?_; rintro e w6 ⟨g7, rfl, hg7, ho7, b6⟩
         have y := hkd.up b6
         have y0 := y.c0
         have y1 := y.c1
         have y2 := y.c2)
      | (go_at_call 39; refine (Hwk.out _ (p5.up b6) (h2d.up b6) e2 l2 (ho7.nb Hcl.out (show s ≤ maxLen by unfold maxLen; omega) Hcm.out) (by omega)).mono ?_; rintro e w7 ⟨g8, rfl, hg8, ho8, b7⟩
         have yy := y.up b7)))
  all_goals
    have B := bthen (bthen B5 b6) b7
    go_wp2_with fail
    go_ret2
    have hsz := B5.size
    have hsz2 := b0.size
    have hsz3 := b6.size
    exact ⟨_, rfl, by omega, ho8, bthen b0 B⟩
set_option maxHeartbeats 4000000 in
theorem dec_bad {w : World} {v : Value} {N E D s : Nat} (h : Pr w v N E D) {A4 : Option Addr} {m c4 : Nat} {bs : List Nat} (ht : Nb w w.heap.size A4 m c4 bs) (hR : secK N E D = false) :
    Calls Tryz.prog 16 #[v, .slice A4 m c4] w (RetPad 50 w) := by
  have HR := Lib.hid hR
  clear hR
  have Hh := Lib.hid h
  obtain ⟨A1, n1, c1, x1, A2, n2, c2, x2, A3, n3, c3, x3, rfl, h1', e1, l1, h2', e2, l2, h3', e3, l3⟩ := h.ex
  clear h
  obtain ⟨w0, e0⟩ : ∃ w0, w0 = w.alloc (.cells #[Value.slice A1 n1 c1, .slice A2 n2 c2, .slice A3 n3 c3] 24) := ⟨_, rfl⟩
  obtain ⟨hx0, b0⟩ := box_new e0
  have h1 := h1'.up b0
  have h2 := h2'.up b0
  have h3 := h3'.up b0
  clear h1' h2' h3'
  have q0 := hx0.c0
  have q1 := hx0.c1
  have q2 := hx0.c2
  have ht0 := ht.up b0
  go_enter Tryz.func16, Tryz.ntmps16
  go_wp2_with fail
  rw [← e0]
  clear e0
  refine (secK_bad (Hh.out.up b0) HR.out).mono ?_
  rintro e w2 ⟨rfl, b2⟩
  go_wp2_with fail
  go_ret2
  exact ⟨rfl, bthen b0 b2⟩
set_option maxHeartbeats 4000000 in
theorem dec_len {w : World} {v : Value} {N E D s : Nat} (h : Pr w v N E D) {A4 : Option Addr} {m c4 : Nat} {bs : List Nat} (ht : Nb w w.heap.size A4 m c4 bs) (hR : secK N E D = true) (hs : (bl N + 7) / 8 = s) (hm : m ≠ s) :
    Calls Tryz.prog 16 #[v, .slice A4 m c4] w (RetPad 51 w) := by
  have HR := Lib.hid hR
  have hRk : rightK N E D = true := by unfold secK at hR; rw [Bool.and_eq_true] at hR; exact hR.1
  have hs2 : s ≤ 128 := by have := rightK_pos hRk; omega
  have hs3 : 2 ≤ s := by have := rightK_pos hRk; omega
  have hN0 : 0 < N := (rightK_pos hRk).1
  have hwk := fun W (k : Pr W v N E D) {A n c pw xs} (kp : Nt W W.heap.size A n c xs) (ep : val 18446744073709551616 xs = pw) (lp : n ≤ 100) {A2 m c2 bs} (kb : Nb W W.heap.size A2 m c2 bs) (km : m ≤ 1000) => work_any k hN0 hs (by omega) kp ep lp kb km
  have hft := fun W (k : Pr W v N E D) {A2 c2 bs} (kb : Nb W W.heap.size A2 s c2 bs) => fits_any k hs (by omega) kb
  have hfw := fun W (k : Pr W v N E D) {A2 : Option Addr} {m c2 : Nat} (km : m ≠ s) => fits_wrong (A2 := A2) (c2 := c2) k hs km
  have Hwk := Lib.hid hwk
  have Hft := Lib.hid hft
  have Hfw := Lib.hid hfw
  clear hR hRk hs hwk hft hfw
  have Hm := Lib.hid hm
  clear hm
  have Hh := Lib.hid h
  obtain ⟨A1, n1, c1, x1, A2, n2, c2, x2, A3, n3, c3, x3, rfl, h1', e1, l1, h2', e2, l2, h3', e3, l3⟩ := h.ex
  clear h
  obtain ⟨w0, e0⟩ : ∃ w0, w0 = w.alloc (.cells #[Value.slice A1 n1 c1, .slice A2 n2 c2, .slice A3 n3 c3] 24) := ⟨_, rfl⟩
  obtain ⟨hx0, b0⟩ := box_new e0
  have h1 := h1'.up b0
  have h2 := h2'.up b0
  have h3 := h3'.up b0
  clear h1' h2' h3'
  have q0 := hx0.c0
  have q1 := hx0.c1
  have q2 := hx0.c2
  have ht0 := ht.up b0
  go_enter Tryz.func16, Tryz.ntmps16
  go_wp2_with fail
  rw [← e0]
  clear e0
  refine (secK_ok (Hh.out.up b0) HR.out).mono ?_
  rintro e w2 ⟨rfl, b2⟩
  have hy := hx0.up b2
  have y0 := hy.c0
  have y1 := hy.c1
  have y2 := hy.c2
  have ht2 := ht0.up b2
  go_wp2_with fail
  refine (Hfw.out _ ((Hh.out.up b0).up b2) Hm.out).mono ?_
  rintro e w3 ⟨rfl, b3⟩
  have B3 := bthen b2 b3
  go_wp2_with fail
  go_ret2
  exact ⟨rfl, bthen b0 B3⟩
set_option maxHeartbeats 4000000 in
theorem dec_big {w : World} {v : Value} {N E D s : Nat} (h : Pr w v N E D) {A4 : Option Addr} {m c4 : Nat} {bs : List Nat} (ht : Nb w w.heap.size A4 m c4 bs) (hR : secK N E D = true) (hs : (bl N + 7) / 8 = s) (hm : m = s) (hv : N ≤ val 256 bs.reverse) :
    Calls Tryz.prog 16 #[v, .slice A4 m c4] w (RetPad 51 w) := by
  subst hm
  have HR := Lib.hid hR
  have hRk : rightK N E D = true := by unfold secK at hR; rw [Bool.and_eq_true] at hR; exact hR.1
  have hs2 : m ≤ 128 := by have := rightK_pos hRk; omega
  have hs3 : 2 ≤ m := by have := rightK_pos hRk; omega
  have hN0 : 0 < N := (rightK_pos hRk).1
  have hwk := fun W (k : Pr W v N E D) {A n c pw xs} (kp : Nt W W.heap.size A n c xs) (ep : val 18446744073709551616 xs = pw) (lp : n ≤ 100) {A2 m c2 bs} (kb : Nb W W.heap.size A2 m c2 bs) (km : m ≤ 1000) => work_any k hN0 hs (by omega) kp ep lp kb km
  have hft := fun W (k : Pr W v N E D) {A2 c2 bs} (kb : Nb W W.heap.size A2 m c2 bs) => fits_any k hs (by omega) kb
  have Hwk := Lib.hid hwk
  have Hft := Lib.hid hft
  clear hR hRk hs hwk hft
  have Hh := Lib.hid h
  obtain ⟨A1, n1, c1, x1, A2, n2, c2, x2, A3, n3, c3, x3, rfl, h1', e1, l1, h2', e2, l2, h3', e3, l3⟩ := h.ex
  clear h
  obtain ⟨w0, e0⟩ : ∃ w0, w0 = w.alloc (.cells #[Value.slice A1 n1 c1, .slice A2 n2 c2, .slice A3 n3 c3] 24) := ⟨_, rfl⟩
  obtain ⟨hx0, b0⟩ := box_new e0
  have h1 := h1'.up b0
  have h2 := h2'.up b0
  have h3 := h3'.up b0
  clear h1' h2' h3'
  have q0 := hx0.c0
  have q1 := hx0.c1
  have q2 := hx0.c2
  have ht0 := ht.up b0
  go_enter Tryz.func16, Tryz.ntmps16
  go_wp2_with fail
  rw [← e0]
  clear e0
  refine (secK_ok (Hh.out.up b0) HR.out).mono ?_
  rintro e w2 ⟨rfl, b2⟩
  have hy := hx0.up b2
  have y0 := hy.c0
  have y1 := hy.c1
  have y2 := hy.c2
  have ht2 := ht0.up b2
  go_wp2_with fail
  refine (Hft.out _ ((Hh.out.up b0).up b2) ht2).mono ?_
  rintro e w3 ⟨rfl, b3⟩
  have hdv : decide (val 256 bs.reverse < N) = false := by simp; omega
  rw [hdv]
  have B3 := bthen b2 b3
  go_wp2_with fail
  go_ret2
  exact ⟨rfl, bthen b0 B3⟩
set_option maxHeartbeats 4000000 in
theorem dec_ok {w : World} {v : Value} {N E D s : Nat} (h : Pr w v N E D) {A4 : Option Addr} {m c4 : Nat} {bs : List Nat} (ht : Nb w w.heap.size A4 m c4 bs) (hR : secK N E D = true) (hs : (bl N + 7) / 8 = s) (hm : m = s) (hv : val 256 bs.reverse < N) :
    Calls Tryz.prog 16 #[v, .slice A4 m c4] w (UnfIs (unfN (bts (val 256 bs.reverse ^ D % N) s)) w) := by
  subst hm
  obtain ⟨r, hr⟩ : ∃ r, unfN (bts (val 256 bs.reverse ^ D % N) m) = r := ⟨_, rfl⟩
  rw [hr]
  have HRr := Lib.hid hr
  clear hr
  have HR := Lib.hid hR
  have hRk : rightK N E D = true := by unfold secK at hR; rw [Bool.and_eq_true] at hR; exact hR.1
  have hs2 : m ≤ 128 := by have := rightK_pos hRk; omega
  have hs3 : 2 ≤ m := by have := rightK_pos hRk; omega
  have hN0 : 0 < N := (rightK_pos hRk).1
  have hwk := fun W (k : Pr W v N E D) {A n c pw xs} (kp : Nt W W.heap.size A n c xs) (ep : val 18446744073709551616 xs = pw) (lp : n ≤ 100) {A2 m c2 bs} (kb : Nb W W.heap.size A2 m c2 bs) (km : m ≤ 1000) => work_any k hN0 hs (by omega) kp ep lp kb km
  have hft := fun W (k : Pr W v N E D) {A2 c2 bs} (kb : Nb W W.heap.size A2 m c2 bs) => fits_any k hs (by omega) kb
  have Hwk := Lib.hid hwk
  have Hft := Lib.hid hft
  clear hR hRk hs hwk hft
  have Hh := Lib.hid h
  obtain ⟨A1, n1, c1, x1, A2, n2, c2, x2, A3, n3, c3, x3, rfl, h1', e1, l1, h2', e2, l2, h3', e3, l3⟩ := h.ex
  clear h
  obtain ⟨w0, e0⟩ : ∃ w0, w0 = w.alloc (.cells #[Value.slice A1 n1 c1, .slice A2 n2 c2, .slice A3 n3 c3] 24) := ⟨_, rfl⟩
  obtain ⟨hx0, b0⟩ := box_new e0
  have h1 := h1'.up b0
  have h2 := h2'.up b0
  have h3 := h3'.up b0
  clear h1' h2' h3'
  have q0 := hx0.c0
  have q1 := hx0.c1
  have q2 := hx0.c2
  have ht0 := ht.up b0
  go_enter Tryz.func16, Tryz.ntmps16
  go_wp2_with fail
  rw [← e0]
  clear e0
  refine (secK_ok (Hh.out.up b0) HR.out).mono ?_
  rintro e w2 ⟨rfl, b2⟩
  have hy := hx0.up b2
  have y0 := hy.c0
  have y1 := hy.c1
  have y2 := hy.c2
  have ht2 := ht0.up b2
  go_wp2_with fail
  refine (Hft.out _ ((Hh.out.up b0).up b2) ht2).mono ?_
  rintro e w3 ⟨rfl, b3⟩
  have hdv : decide (val 256 bs.reverse < N) = true := by simp; omega
  rw [hdv]
  have B3 := bthen b2 b3
  have hz := hx0.up B3
  have z0 := hz.c0
  have z1 := hz.c1
  have z2 := hz.c2
  go_wp2_with fail
  refine (Hwk.out _ ((Hh.out.up b0).up B3) (h3.up B3) e3 l3 (ht2.up b3) (by omega)).mono ?_
  rintro e w4 ⟨g4, rfl, hg4, ho4, b4⟩
  have B4 := bthen B3 b4
  go_wp2_with fail
  refine (unframed_any ho4 (length_bts _ _) (by omega) (by omega) (lim_bts _ _)).mono ?_
  intro e w5 hU
  rw [HRr.out] at hU
  cases r with
  | none =>
    obtain ⟨rfl, b5⟩ := hU
    go_wp2_with fail
    go_ret2
    exact ⟨rfl, bthen b0 (bthen B4 b5)⟩
  | some ys =>
    obtain ⟨A6, n6, c6, rfl, m6, b5⟩ := hU
    go_wp2_with fail
    go_ret2
    exact ⟨_, _, _, rfl, m6, bthen b0 (bthen B4 b5)⟩
end Go.Proofs.YtkeejhkjbmegkaaGreatDoor
