/- wire: the document's own bytes. -/
import Derived.Test.YthflafcjinpmnaaW7
namespace Go.Proofs.Ythflafcjinpmnaa
open Go.RowKit
set_option linter.unusedVariables false
set_option maxRecDepth 100000
theorem fill_any {n : Nat} (hn : n ≤ 1073741824) (w : World) : Calls Try.prog 35 #[.int .i64 (n : Int)] w fun e w' => e = .returned (.int .i64 ((fld n - n : Nat) : Int)) ∧ w' = w := by
  go_enter Try.func35, Try.ntmps35
  go_wp2_with fail
  go_loopw [3] (fun k wr => ∃ t : Nat, t ≤ fld n - n ∧ k = .int .i64 (t : Int) ∧ wr = w) (fun k _ => (4 - (match k with | .int _ z => z.toNat | _ => 0)))
  case atStart => exact ⟨0, Nat.zero_le _, rfl, rfl⟩
  case round =>
    obtain ⟨t, ht, rfl, rfl⟩ := hrel
    have l1 := fld_lim n
    have hd : fld n % 4 = 0 := by unfold fld; omega
    by_cases h : t < fld n - n
    · have e1 : ((n : Int) + (t : Int)) % 4 = 1 ∨ ((n : Int) + (t : Int)) % 4 = 2 ∨ ((n : Int) + (t : Int)) % 4 = 3 := by omega
      have e2 : ((n : Int) + (t : Int)).tmod 4 = ((n : Int) + (t : Int)) % 4 := Int.tmod_eq_emod_of_nonneg (by omega)
      have hF : t + 1 ≤ fld n - n := h
      have h4 : t < 4 := by omega
      clear hd l1 h ht
      generalize fld n - n = D at *
      rcases e1 with e1 | e1 | e1
      all_goals
        rw [e1] at e2
        clear e1
        go_wp2_with fail
        exact ⟨⟨t + 1, hF, rfl, by first | trivial | rfl⟩, by show 4 - ((t : Int) + 1).toNat < 4 - (t : Int).toNat; omega⟩
    · have e0 : t = fld n - n := by omega
      have e1 : (((n : Int) + (t : Int)) % 4 != 0) = false := by
        rw [bne_eq_false_iff_eq]; omega
      have h4 : t < 4 := by omega
      have e2 : ((n : Int) + (t : Int)).tmod 4 = ((n : Int) + (t : Int)) % 4 := Int.tmod_eq_emod_of_nonneg (by omega)
      have HE := Lib.hid e0
      clear hd l1 h ht e0
      go_wp2_with fail
      go_ret
      exact ⟨by rw [HE.out]; rfl, rfl⟩
/-- the document's Bytes -/
theorem bytes_any (x n : Nat) (h0 : 0 < n) (hn : n ≤ 8) (w : World) : Calls Try.prog 23 #[.int .u64 (x : Int), .int .i64 (n : Int)] w fun e w' => ∃ A c, e = .returned (.slice A n c) ∧ Gb w' w.heap.size A n c (be n (x : Int)) ∧ RowKit.Below w.heap.size w w' := by
  go_enter Try.func23, Try.ntmps23
  go_wp2_with fail
  go_loopw [6, 5] (fun i b wr => ∃ (t : Nat) (I : Int) (A : Option Addr) (c : Nat), t ≤ n ∧ I = (n : Int) - 1 - t ∧ i = .int .i64 I ∧ b = .slice A t c ∧ Gb wr w.heap.size A t c ((be n (x : Int)).take t) ∧ RowKit.Below w.heap.size w wr) (fun i _ _ => (match i with | .int _ z => (z + 1).toNat | _ => 0))
  case atStart => exact ⟨0, (n : Int) - 1, none, 0, Nat.zero_le _, by omega, rfl, rfl, by simpa using Gb.nil w w.heap.size, Below.refl _ _⟩
  case round =>
    obtain ⟨t, I, A, c, ht, hI, rfl, rfl, hg, hb⟩ := hrel
    have HG := Lib.hid hg
    have HB := Lib.hid hb
    have HI := Lib.hid hI
    clear hg hb
    by_cases h : t < n
    · obtain ⟨K, hK⟩ : ∃ K : Nat, I = (K : Int) := ⟨I.toNat, by omega⟩
      have hK8 : K < 8 := by omega
      have hKe : K = n - 1 - t := by omega
      subst hK
      obtain ⟨y, hy⟩ : ∃ y, y = by8 n (x : Int) t := ⟨_, rfl⟩
      have e8 : (x : Int) / 2 ^ (8 * K) % 256 = (y : Int) := by
        rw [hy, hKe]; unfold by8; exact (Int.toNat_of_nonneg (Int.emod_nonneg _ (by decide))).symm
      have HY := Lib.hid hy
      have HT := Lib.hid (be_take (x : Int) h)
      have hG' := HG.out.alloc (.cells #[.int .u8 (y : Int)] 5)
      have hB' := HB.out.alloc HB.out.size (.cells #[.int .u8 (y : Int)] 5)
      have hc := cell_new wr (.int .u8 (y : Int)) 5
      have hnt : t ≤ 1099511627776 := by omega
      clear hy hKe hI
      go_wp2_with (at_builtin; refine wpList_app_b _ rfl (.tmp 13) (.tmp 20) rfl rfl hG' rfl hc hnt hB' hB'.size ?_; intro A7 c7 w7 hG7 hB7)
      have HG7 := Lib.hid (show Gb w7 w.heap.size A7 (t + 1) c7 ((be n (x : Int)).take (t + 1)) by rw [HT.out, ← HY.out]; exact hG7)
      exact ⟨⟨t + 1, (K : Int) - 1, A7, c7, by omega, by have := HI.out; omega, rfl, rfl, HG7.out, hB7⟩, by show ((K : Int) - 1 + 1).toNat < ((K : Int) + 1).toNat; omega⟩
    · have hte : t = n := by omega
      have hI1 : I = -1 := by omega
      subst hI1
      subst hte
      have HG8 := Lib.hid (show Gb wr w.heap.size A t c (be t (x : Int)) by have := HG.out; rwa [List.take_of_length_le (by rw [be_length]; exact Nat.le_refl _)] at this)
      clear HI hI h
      go_wp2_with fail
      go_ret
      exact ⟨A, c, rfl, HG8.out, HB.out⟩
theorem data_any {w : World} {A : Option Addr} {n c : Nat} {ys : List Nat} (hy : Nb w w.heap.size A n c ys) (hn : n ≤ 1048576) :
    Calls Try.prog 36 #[.slice A n c] w fun e w' => ∃ A' c', e = .returned (.slice A' (4 + fld n) c') ∧ Gb w' w.heap.size A' (4 + fld n) c' (textB ys) ∧ RowKit.Below w.heap.size w w' := by
  have HY := Lib.hid hy
  have HP := Lib.hid (bytes_any n 4 (by omega) (by omega) w)
  have HL := Lib.hid hy.len
  have HFi := Lib.hid (fun w => fill_any (n := n) (by omega) w)
  clear hy
  go_enter Try.func36, Try.ntmps36
  go_wp2_with fail
  refine HP.out.mono ?_
  rintro e w1 ⟨A1, c1, rfl, hg1, hb1⟩
  have hy1 := HY.out.below hb1
  have hnm : 4 + n ≤ 1099511627776 := by omega
  go_wp2_with (at_builtin; refine wpList_app_row_b _ rfl (.tmp 9) (.tmp 10) rfl rfl hg1 rfl hy1 hnm hb1 hb1.size ?_; intro A2 c2 w2 hg2 hb2)
  have HG2 := Lib.hid hg2
  have HB2 := Lib.hid hb2
  have l1 := fld_lim n
  obtain ⟨D, hD⟩ : ∃ D, D = fld n - n := ⟨_, rfl⟩
  have hD3 : D ≤ 3 := by omega
  have HD := Lib.hid (show 4 + n + D = 4 + fld n by omega)
  have HDe := Lib.hid hD
  rw [← hD] at HFi
  clear hD l1 hg1 hb1 hg2 hb2 hy1 hnm
  go_loopw [4, 3] (fun i b wr => ∃ (t : Nat) (A : Option Addr) (c : Nat), t ≤ D ∧ i = .int .i64 (t : Int) ∧ b = .slice A (4 + n + t) c ∧ Gb wr w.heap.size A (4 + n + t) c (be 4 (n : Int) ++ ys ++ List.replicate t 0) ∧ RowKit.Below w.heap.size w wr) (fun i _ _ => (D - (match i with | .int _ z => z.toNat | _ => 0)))
  case atStart => exact ⟨0, A2, c2, Nat.zero_le _, rfl, rfl, by simpa using HG2.out, HB2.out⟩
  case round =>
    obtain ⟨t, A3, c3, ht, rfl, rfl, hg, hb⟩ := hrel
    have HG := Lib.hid hg
    have HB := Lib.hid hb
    clear hg hb
    by_cases h : t < D
    · have e1 : (t : Int) < (D : Int) := by omega
      have hG' := HG.out.alloc (.cells #[.int .u8 ((0 : Nat) : Int)] 5)
      have hB' := HB.out.alloc HB.out.size (.cells #[.int .u8 ((0 : Nat) : Int)] 5)
      have hc := cell_new wr (.int .u8 ((0 : Nat) : Int)) 5
      have hnt : 4 + n + t ≤ 1099511627776 := by omega
      go_wp2_with fail
      refine (HFi.out _).mono ?_
      rintro e w3 ⟨rfl, rfl⟩
      go_wp2_with (at_builtin; refine wpList_app_b _ rfl (.tmp 19) (.tmp 20) rfl rfl hG' rfl hc hnt hB' hB'.size ?_; intro A7 c7 w7 hG7 hB7)
      have HG7 := Lib.hid (show Gb w7 w.heap.size A7 (4 + n + (t + 1)) c7 (be 4 (n : Int) ++ ys ++ List.replicate (t + 1) 0) by rw [List.replicate_succ', ← List.append_assoc]; exact hG7)
      exact ⟨⟨t + 1, A7, c7, by omega, rfl, rfl, HG7.out, hB7⟩, by show D - ((t : Int) + 1).toNat < D - (t : Int).toNat; omega⟩
    · have e1 : ((t : Int) < (D : Int)) = False := by simp only [eq_iff_iff, iff_false]; omega
      have hte : t = D := by omega
      subst hte
      have HG8 := Lib.hid (show Gb wr w.heap.size A3 (4 + fld n) c3 (textB ys) by
        have := HG.out
        rw [HD.out] at this
        unfold textB
        rw [HL.out, ← HDe.out]
        exact this)
      go_wp2_with fail
      refine (HFi.out _).mono ?_
      rintro e w3 ⟨rfl, rfl⟩
      go_wp2_with fail
      go_ret
      exact ⟨A3, c3, by rw [← HD.out]; rfl, HG8.out, HB.out⟩
end Go.Proofs.Ythflafcjinpmnaa
