/- stamp.Print: noughts ahead are dropped; pieces are joined. -/
import Derived.Test.YtddjgjaifflpeaaDoorSame
import Derived.BigRegion
namespace Go.Proofs.YtddjgjaifflpeaaDoor
open Go.RowKit
set_option linter.unusedVariables false
set_option maxRecDepth 100000

/-- noughts ahead are dropped -/
def trim : List Nat → List Nat
  | [] => []
  | x :: xs => if x = 48 then trim xs else x :: xs
theorem trim_cons (x : Nat) (xs : List Nat) (h : x = 48) : trim (x :: xs) = trim xs := by rw [trim, if_pos h]
theorem trim_stop (xs : List Nat) (h : xs = [] ∨ xs.getD 0 0 ≠ 48) : trim xs = xs := by
  cases xs with
  | nil => rfl
  | cons x xs =>
    rcases h with h | h
    · cases h
    · rw [trim, if_neg (by simpa using h)]
theorem trim_drop (xs : List Nat) (k : Nat) (hk : k < xs.length) (h : xs.getD k 0 = 48) : trim (xs.drop k) = trim (xs.drop (k + 1)) := by
  have e : xs.getD k 0 = xs[k] := by simp [List.getD, List.getElem?_eq_getElem hk]
  rw [List.drop_eq_getElem_cons hk, trim_cons _ _ (by rw [← e]; exact h)]
/-- bytes.trimLeftByte -/
theorem trimByte_any {w : World} {B n c : Nat} {A : Option Addr} {xs : List Nat} (h : Nb w B A n c xs) (hn : n ≤ 1000) :
    Calls Tryd.prog 50 #[.slice A n c, .int .u8 48] w fun e w' => (∃ q, w' = w.drewN q) ∧ ∃ A' n' c', e = .returned (.slice A' n' c') ∧ Nb w' B A' n' c' (trim xs) := by
  have hr := h.room
  go_enter Tryd.func50, Tryd.ntmps50
  go_wp2
  go_loopw [0] (fun v wr => (∃ q, wr = w.drewN q) ∧ ∃ A' n' c' ys, v = .slice A' n' c' ∧ n' ≤ 1000 ∧ Nb wr B A' n' c' ys ∧ trim ys = trim xs) (fun v _ => match v with | .slice _ n _ => n | _ => 0)
  case atStart => exact ⟨⟨0, rfl⟩, A, n, c, xs, rfl, hn, h, rfl⟩
  case round =>
    obtain ⟨⟨q, rfl⟩, A', n', c', ys, rfl, hn', hy, ht⟩ := hrel
    have hr' := hy.room
    have hc' := hy.cap
    have hl' := hy.len
    by_cases h0 : n' = 0
    · subst h0
      have hys : ys = [] := List.eq_nil_of_length_eq_zero hl'
      subst hys
      go_wp2
      go_ret
      exact ⟨⟨q, rfl⟩, none, 0, 0, rfl, by rw [← ht]; exact Nb.nil _ _ 0 (by omega) none⟩
    · obtain ⟨b, off, rfl, hb, hcell⟩ := hy.at_ (k := 0) (by omega)
      rw [Nat.add_zero] at hcell
      have hy2 := cut_nb hy 1 n' (by omega) (Nat.le_refl _)
      rw [List.take_of_length_le (by rw [List.length_drop, hl']; omega)] at hy2
      have hlt : (ys.getD 0 0) < 256 := hy.lim.get (by omega) 0
      by_cases h48 : ys.getD 0 0 = 48
      · have htd := trim_drop ys 0 (by omega) h48
        rw [List.drop_zero] at htd
        have Htd := Lib.hid (htd.symm.trans ht)
        have Hy2 := Lib.hid hy2
        rw [h48] at hcell
        have hc48 : (w.drewN q).cell? ⟨b, off, none⟩ = some (.int .u8 48) := hcell
        clear hcell hy2 htd h48 ht hy hlt
        go_wp2
        go_roundw
        case rel =>
          exact ⟨⟨q, rfl⟩, _, _, _, ys.drop 1, rfl, by omega, by simpa [Addr.add] using Hy2.out, Htd.out⟩
        case measure => show n' - 1 < n'; omega
      · have Hst := Lib.hid (trim_stop ys (Or.inr h48))
        have Hy := Lib.hid hy
        have hne : (((ys.getD 0 0 : Nat) : Int) == 48) = false := by rw [beq_eq_false_iff_ne]; omega
        generalize ys.getD 0 0 = y at *
        have h0' : ((n' : Int) == 0) = false := by rw [beq_eq_false_iff_ne]; omega
        clear hy2 hy
        go_wp2
        all_goals first
          | (exfalso; simp_all; done)
          | (go_ret; exact ⟨⟨q, rfl⟩, _, _, _, rfl, by rw [← ht, Hst.out]; exact Hy.out⟩)
/-- bytes.TrimLeft at "0" -/
theorem trimLeft_any {w : World} {B n c : Nat} {A : Option Addr} {xs : List Nat} (h : Nb w B A n c xs) (h0 : 0 < n) (hn : n ≤ 1000) :
    Calls Tryd.prog 46 #[.slice A n c, .string ⟨#[48]⟩] w fun e w' => (∃ q, w' = w.drewN q) ∧ ∃ A' n' c', e = .returned (.slice A' n' c') ∧ Nb w' B A' n' c' (trim xs) := by
  have hr := h.room
  have H := Lib.hid (trimByte_any h hn)
  have hz : ((n : Int) == 0) = false := by rw [beq_eq_false_iff_ne]; omega
  clear h
  go_enter Tryd.func46, Tryd.ntmps46
  go_wp2_with (go_at_call 50; refine H.out.mono ?_; rintro e w' ⟨⟨q, rfl⟩, A', n', c', rfl, h'⟩)
  all_goals first
    | (exfalso; simp_all; done)
    | (go_ret; exact ⟨⟨q, rfl⟩, A', n', c', rfl, h'⟩)
/-- stamp.join of four pieces -/
theorem join_any {w : World} {g : Nat} {As : Nat → Option Addr} {ns cs : Nat → Nat} {xs J : Nat → List Nat} (hg : ∀ k, k < 4 → w.cell? ⟨g, k, none⟩ = some (.slice (As k) (ns k) (cs k)))
    (hx : ∀ k, k < 4 → Nb w w.heap.size (As k) (ns k) (cs k) (xs k)) (hn : ∀ k, k < 4 → ns k ≤ 1000) (j0 : J 0 = []) (js : ∀ k, k < 4 → J (k + 1) = J k ++ xs k) (hpos : 0 < (J 4).length) :
    Calls Tryd.prog 45 #[.slice (some ⟨g, 0, none⟩) 4 4] w fun e w' => e = .returned (.string (bstr (J 4))) ∧ Below w.heap.size w w' := by
  have hgs : g < w.heap.size := World.block_lt_of_cell? w _ (hg 0 (by omega))
  have Hg := Lib.hid hg
  have Hx := Lib.hid hx
  have Hj := Lib.hid js
  have Hn := Lib.hid hn
  clear hg hx js hn
  go_enter Tryd.func45, Tryd.ntmps45
  go_wp2
  go_loopw [8, 3] (fun i o wr => ∃ k : Nat, k ≤ 4 ∧ i = .int .i64 k ∧ ∃ A n c, o = .slice A n c ∧ n ≤ 1000 * k ∧ Gb wr w.heap.size A n c (J k) ∧ Lim 256 (J k) ∧ Below w.heap.size w wr) (fun i _ _ => 4 - (intOf i).toNat)
  case atStart => exact ⟨0, by omega, rfl, none, 0, 0, rfl, by omega, by rw [j0]; exact Gb.nil _ _, by rw [j0]; exact Lim.nil _, Below.refl _ _⟩
  case round =>
    obtain ⟨k, hk, rfl, A, n, c, rfl, hnk, hG, hL, hB⟩ := hrel
    by_cases hlt : k < 4
    · have hc := (hB.cell (p := ⟨g, k, none⟩) hgs).trans (Hg.out k hlt)
      have hN := (Hx.out k hlt).below hB
      have hnn := Hn.out k hlt
      have Hjj := Lib.hid (Hj.out k hlt)
      have hLx := (Hx.out k hlt).lim
      generalize As k = A1 at *
      generalize ns k = n1 at *
      generalize cs k = c1 at *
      generalize xs k = x1 at *
      have hsz := hB.size
      go_wp2_with (refine wpList_app_row_b _ rfl (.tmp 12) (.tmp 13) rfl rfl hG rfl hN (by omega) hB hsz ?_; intro A3 c3 w3 hG3 hB3)
      go_roundw
      case rel =>
        exact ⟨k + 1, by omega, by go_num, A3, n + n1, c3, rfl, by omega, by rw [Hjj.out]; exact hG3, by rw [Hjj.out]; exact hL.append hLx, hB3⟩
      case measure => simp [intOf]; omega
    · have e4 : k = 4 := by omega
      rw [e4] at hG hL
      have hlen := hG.1
      obtain ⟨b, off, rfl, -⟩ := (hG.nb hL).cell (by omega)
      have hcv := conv_nb (hG.nb hL)
      have hge : 4 ≤ k := by omega
      clear hlt e4
      go_wp2
      go_ret
      exact ⟨rfl, hB⟩
end Go.Proofs.YtddjgjaifflpeaaDoor
