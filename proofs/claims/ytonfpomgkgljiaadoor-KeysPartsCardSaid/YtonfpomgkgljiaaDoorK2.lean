/- The own side: four numbers written, the beginning of a digest, session keys, next key numbers, cookies, sums. -/
import Derived.Test.YtonfpomgkgljiaaDoorK1
namespace Go.Proofs.YtonfpomgkgljiaaDoor
open Go.RowKit
set_option linter.unusedVariables false
set_option maxRecDepth 100000

theorem four_new (w : World) (x : Nat) : Nb (w.alloc (.cells #[.int .u8 (((by4 x).getD 0 0 : Nat) : Int), .int .u8 (((by4 x).getD 1 0 : Nat) : Int), .int .u8 (((by4 x).getD 2 0 : Nat) : Int), .int .u8 (((by4 x).getD 3 0 : Nat) : Int)] 5)) (w.heap.size + 1) (some ⟨w.heap.size, 0, none⟩) 4 4 (by4 x) := by
  refine ⟨rfl, Nat.le_refl _, by omega, by4_lim x, fun _ => ⟨w.heap.size, 0, rfl, Nat.lt_succ_self _, fun j y hj => ?_⟩⟩
  rw [cell_of_row _ _ _ _ 5 (0, 0) (heap_alloc_new w _)]
  match j, hj with
  | 0, hj => cases hj; rfl
  | 1, hj => cases hj; rfl
  | 2, hj => cases hj; rfl
  | 3, hj => cases hj; rfl
theorem flat_take (xs : List Nat) (k : Nat) (h : k < xs.length) : (xs.take (k + 1)).flatMap by4 = (xs.take k).flatMap by4 ++ by4 (xs.getD k 0) := by
  rw [take_next xs k h, List.flatMap_append]; simp
theorem flat_lim (xs : List Nat) : Lim 256 (xs.flatMap by4) := by
  intro y hy
  simp only [List.mem_flatMap] at hy
  obtain ⟨x, _, h⟩ := hy
  exact by4_lim x y h
theorem flat_len (xs : List Nat) : (xs.flatMap by4).length = 4 * xs.length := by
  induction xs with
  | nil => rfl
  | cons x xs ih => rw [List.flatMap_cons, List.length_append, ih]; simp [by4]; omega

set_option maxHeartbeats 1000000 in
theorem written_any {w : World} {B n c : Nat} {A : Option Addr} {xs : List Nat} (hx : Nw w B A n c xs) (hn : n ≤ 1000) (hB : B ≤ w.heap.size) :
    Calls Tryd.prog 28 #[.slice A n c] w fun e w' => ∃ A' c', e = .returned (.slice A' (4 * n) c') ∧ Nb w' w'.heap.size A' (4 * n) c' (xs.flatMap by4) ∧ Below w.heap.size w w' := by
  have gn := Gb.nil w w.heap.size
  have hxl := hx.len
  have hLx := hx.lim
  have HN := Lib.hid (flat_take xs)
  have HL := Lib.hid (flat_lim xs)
  have Hx := Lib.hid hx
  clear hx
  go_enter Tryd.func28, Tryd.ntmps28
  go_wp2
  go_loopw [8, 3] (fun i v wr => ∃ k : Nat, k ≤ n ∧ i = .int .i64 k ∧ ∃ A c, v = .slice A (4 * k) c ∧ Gb wr w.heap.size A (4 * k) c ((xs.take k).flatMap by4) ∧ Below w.heap.size w wr) (fun i _ _ => n - (intOf i).toNat)
  case atStart => exact ⟨0, by omega, rfl, none, 0, rfl, by simpa using gn, Below.refl _ _⟩
  case round =>
    obtain ⟨k, hk, rfl, A5, c5, rfl, hG, hB5⟩ := hrel
    have hs := hB5.size
    by_cases hkn : k < n
    · have hxk := Hx.out.keep (w' := wr) (fun p hp => hB5.cell (Nat.lt_of_lt_of_le hp hB))
      obtain ⟨b, off, rfl, hb, hc1⟩ := hxk.at_ hkn
      have Hn := Lib.hid (HN.out k (by omega))
      have hlt := getD_lim hLx (by omega) k
      generalize xs.getD k 0 = x at *
      have e0 : (x : Int) / 16777216 = (((by4 x).getD 0 0 : Nat) : Int) := by simp only [by4, List.getD, List.getElem?_cons_zero, Option.getD_some]; omega
      have e1 : (x : Int) / 65536 % 256 = (((by4 x).getD 1 0 : Nat) : Int) := by simp only [by4, List.getD, List.getElem?_cons_zero, List.getElem?_cons_succ, Option.getD_some]; omega
      have e2 : (x : Int) / 256 % 256 = (((by4 x).getD 2 0 : Nat) : Int) := by simp only [by4, List.getD, List.getElem?_cons_zero, List.getElem?_cons_succ, Option.getD_some]; omega
      have e3 : (x : Int) % 256 = (((by4 x).getD 3 0 : Nat) : Int) := by simp only [by4, List.getD, List.getElem?_cons_zero, List.getElem?_cons_succ, Option.getD_some]; omega
      have hw := four_new wr x
      generalize (by4 x).getD 0 0 = y0 at *
      generalize (by4 x).getD 1 0 = y1 at *
      generalize (by4 x).getD 2 0 = y2 at *
      generalize (by4 x).getD 3 0 = y3 at *
      have hG' := hG.alloc (.cells #[.int .u8 (y0 : Int), .int .u8 (y1 : Int), .int .u8 (y2 : Int), .int .u8 (y3 : Int)] 5)
      have hB' := hB5.alloc hs (.cells #[.int .u8 (y0 : Int), .int .u8 (y1 : Int), .int .u8 (y2 : Int), .int .u8 (y3 : Int)] 5)
      have Hw := Lib.hid hw
      clear hw HL hLx hG hxk
      go_wp2_with (refine wpList_app_row_b _ rfl (.tmp 12) (.tmp 24) rfl rfl hG' rfl Hw.out (by omega) hB' (by simp; omega) ?_; intro A7 c7 w7 hG7 hB7)
      go_roundw
      case rel => exact ⟨k + 1, by omega, by go_num, A7, c7, by go_num, by rw [Hn.out, show 4 * (k + 1) = 4 * k + 4 by omega]; exact hG7, hB7⟩
      case measure => simp [intOf]; omega
    · have e : k = n := by omega
      subst e
      rw [List.take_of_length_le (Nat.le_of_eq hxl)] at hG
      have HNb := Lib.hid (hG.nb HL.out)
      clear hG hkn
      go_wp2
      go_ret
      exact ⟨_, _, rfl, HNb.out, hB5⟩
end Go.Proofs.YtonfpomgkgljiaaDoor
