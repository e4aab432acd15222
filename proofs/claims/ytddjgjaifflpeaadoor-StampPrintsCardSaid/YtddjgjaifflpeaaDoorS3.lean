/- the document's digits, and its Print. -/
import Derived.Test.YtddjgjaifflpeaaDoorS1
namespace Go.Proofs.YtddjgjaifflpeaaDoor
open Go.RowKit
set_option linter.unusedVariables false
set_option linter.unusedSimpArgs false
set_option maxRecDepth 100000
theorem bstr_append (xs ys : List Nat) : bstr xs ++ bstr ys = bstr (xs ++ ys) := by
  apply ext_data
  rw [data_bstr, ByteArray.data_append, Array.toList_append, data_bstr, data_bstr]
  unfold d8
  rw [List.map_append]
theorem dot_bstr : (⟨#[46]⟩ : ByteArray) = bstr [46] := rfl
theorem dec_len20 (n : Nat) (hn : n < 18446744073709551616) : (dec n).length ≤ 20 := dec_len 19 n (Nat.lt_of_lt_of_le hn (by decide))
set_option maxHeartbeats 2000000 in
theorem rdigits_any (n : Nat) : n < 18446744073709551616 → ∀ w, Calls Tryd.prog 47 #[.int .u64 (n : Int)] w fun e w' => e = .returned (.string (bstr (dec n))) ∧ Below w.heap.size w w' := by
  induction n using Nat.strongRecOn with
  | _ n ih =>
    intro hn w
    by_cases h : n < 10
    · have hd : decide ((n : Int) < 10) = true := by simp; omega
      rw [dec_small h]
      obtain ⟨d, hdd⟩ : ∃ d, d = 48 + n := ⟨_, rfl⟩
      have e7 : IntKind.u64.wrap (48 + (n : Int)) = (d : Int) := by rw [IntKind.wrap_u64]; omega
      have e8 : (d : Int) % 256 = (d : Int) := by omega
      have hdl : d < 256 := by omega
      rw [← hdd]
      have c0 : (w.alloc (.cells #[.int .u8 (d : Int)] 5)).cell? ⟨w.heap.size, 0, none⟩ = some (.int .u8 (d : Int)) := by
        rw [cell_of_row _ _ _ #[.int .u8 (d : Int)] 5 (0, 0) (heap_alloc_new w _)]; rfl
      have hb : Below w.heap.size w (w.alloc (.cells #[.int .u8 (d : Int)] 5)) := (Below.refl _ _).alloc (Nat.le_refl _) _
      have nb : Nb (w.alloc (.cells #[.int .u8 (d : Int)] 5)) (w.heap.size + 1) (some ⟨w.heap.size, 0, none⟩) 1 1 [d] := ⟨rfl, Nat.le_refl _, by omega, fun x hx => by rw [List.mem_singleton] at hx; omega, fun _ => ⟨_, 0, rfl, Nat.lt_succ_self _, fun j x hj => by
        rcases j with _ | j
        · simp only [List.getElem?_cons_zero, Option.some.injEq] at hj; rw [← hj]; exact c0
        · simp at hj⟩⟩
      have hc := conv_nb nb
      have HB := Lib.hid hb
      clear ih h c0 nb hb hdd
      go_enter Tryd.func47, Tryd.ntmps47
      go_wp2_with fail
      go_ret
      exact ⟨rfl, HB.out⟩
    · have hd : ((n : Int) < 10) = False := by simp only [eq_iff_iff, iff_false]; omega
      have h1 := ih (n / 10) (by omega) (by omega)
      have h2 := ih (n % 10) (by omega) (by omega)
      have l1 := dec_len20 (n / 10) (by omega)
      have l2 := dec_len20 (n % 10) (by omega)
      have s1 : ((bstr (dec (n / 10))).size : Int) ≤ 8388608 := by rw [size_bstr]; omega
      have s2 : ((bstr (dec (n % 10))).size : Int) ≤ 8388608 := by rw [size_bstr]; omega
      have e1 : (n : Int) / 10 = ((n / 10 : Nat) : Int) := by omega
      have e2 : (n : Int) % 10 = ((n % 10 : Nat) : Int) := by omega
      have ha : bstr (dec (n / 10)) ++ bstr (dec (n % 10)) = bstr (dec n) := by rw [bstr_append, dec_great h, dec_small (n := n % 10) (by omega)]
      have Ha := Lib.hid ha
      have H1 := Lib.hid h1
      have H2 := Lib.hid h2
      have E1 := Lib.hid e1
      have E2 := Lib.hid e2
      generalize n / 10 = q at *
      generalize n % 10 = r at *
      generalize bstr (dec q) = B1 at *
      generalize bstr (dec r) = B2 at *
      clear ih h l1 l2 ha h1 h2 e1 e2
      have x1 : B1.size + B2.size ≤ 9223372036854775807 := by omega
      go_enter Tryd.func47, Tryd.ntmps47
      go_wp2_with fail
      rw [E1.out]
      refine (H1.out _).mono ?_
      rintro e w1 ⟨rfl, b1⟩
      go_wp2_with fail
      rw [E2.out]
      refine (H2.out _).mono ?_
      rintro e w2 ⟨rfl, b2⟩
      have hs := run_string_add_sum (P := Tryd.prog) w2 B1 B2 x1
      have HB := Lib.hid (b1.trans (b2.mono b1.size))
      clear b1 b2
      go_wp2_with fail
      go_ret
      rw [Ha.out]
      exact ⟨rfl, HB.out⟩
end Go.Proofs.YtddjgjaifflpeaaDoor
