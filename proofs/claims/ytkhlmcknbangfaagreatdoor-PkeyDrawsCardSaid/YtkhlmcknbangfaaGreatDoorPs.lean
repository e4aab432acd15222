/- the document's good: which primes suit. the document's candidate: the digits, one by one. No program. the document's candidate. -/
import Derived.Test.YtkhlmcknbangfaaGreatDoorPp
import Derived.Test.YtkhlmcknbangfaaGreatDoorHq
import Derived.Test.YtkhlmcknbangfaaGreatDoorFa
import Derived.Test.YtkhlmcknbangfaaGreatDoorRd
namespace Go.Proofs.YtkhlmcknbangfaaGreatDoor
open Go.RowKit
set_option linter.unusedVariables false
set_option linter.unusedSimpArgs false
set_option maxRecDepth 100000
set_option maxHeartbeats 4000000 in
theorem good_any {w : World} {A : Option Addr} {n c q e : Nat} {xs : List Nat} (h : Nt w w.heap.size A n c xs) (hq : val 18446744073709551616 xs = q) (hn : n ≤ 100) (h1 : 1 ≤ q) (he : e < 18446744073709551616) :
    Calls Tryz.prog 46 #[.slice A n c, .int .u64 (e : Int)] w fun r w' => r = .returned (.bool (decide (Nat.gcd e (q - 1) = 1) && primeN q b12)) ∧ Below w.heap.size w w' := by
  go_enter Tryz.func46, Tryz.ntmps46
  go_wp2_with fail
  refine (rsmall_any e he _).mono ?_
  rintro r w1 ⟨A1, n1, c1, x1, rfl, r1⟩
  have v1 := r1.is
  have l1 : n1 ≤ 1 := r1.le (by omega)
  go_wp2_with fail
  refine (rless05_any (h.up r1.bel) hq (by omega) h1).mono ?_
  rintro r w2 ⟨A2, n2, c2, x2, rfl, r2⟩
  have v2 := r2.is
  have l2 : n2 ≤ n := r2.le (Nat.lt_of_le_of_lt (Nat.sub_le _ _) (hq ▸ h.below_pow (Nat.le_refl n)))
  go_wp2_with fail
  refine (rGcd_any (r1.nt.up r2.bel) r2.nt (by omega) (by omega)).mono ?_
  rintro r w3 ⟨A3, n3, c3, x3, rfl, r3⟩
  rw [v1, v2] at r3
  have v3 := r3.is
  have l3 : n3 ≤ n + 1 := r3.le (by
    have h5 : Nat.gcd e (q - 1) < 18446744073709551616 ∨ Nat.gcd e (q - 1) ≤ q - 1 := by
      rcases Nat.eq_zero_or_pos (q - 1) with h0 | h0
      · left; rw [h0, Nat.gcd_zero_right]; exact he
      · right; exact Nat.gcd_le_right _ h0
    have h6 := hq ▸ h.below_pow (Nat.le_succ n)
    rcases h5 with h5 | h5
    · exact Nat.lt_of_lt_of_le h5 (Nat.le_self_pow (by omega) _)
    · omega)
  have B3 := bthen (bthen r1.bel r2.bel) r3.bel
  go_wp2_with fail
  refine (rsmall_any 1 (by omega) _).mono ?_
  rintro r w4 ⟨A4, n4, c4, x4, rfl, r4⟩
  have v4 := r4.is
  have l4 : n4 ≤ 1 := r4.le (by omega)
  have B4 := bthen B3 r4.bel
  have m3 := r3.nt.up r4.bel
  have HB4 := Lib.hid B4
  go_wp2_with fail
  rcases Nat.lt_trichotomy (Nat.gcd e (q - 1)) 1 with hg | hg | hg
  · refine (rcmp_lt m3 r4.nt (by omega) (by omega) (by rw [v3, v4]; exact hg)).mono ?_
    rintro r w5 ⟨rfl, b5⟩
    have B5 := bthen HB4.out b5
    go_wp2_with fail
    go_ret
    exact ⟨by rw [decide_eq_false (Nat.ne_of_lt hg), Bool.false_and]; rfl, B5⟩
  · refine (rcmp_eq m3 r4.nt (by omega) (by omega) (by rw [v3, v4]; exact hg)).mono ?_
    rintro r w5 ⟨rfl, b5⟩
    have HB5 := Lib.hid (bthen HB4.out b5)
    go_wp2_with fail
    refine (rbases_any _).mono ?_
    rintro r w6 ⟨g, rfl, m6, b6⟩
    have HB6 := Lib.hid (bthen HB5.out b6)
    go_wp2_with fail
    refine (rprime_any (h.up HB6.out) m6 (by omega) (by omega)).mono ?_
    rintro r w7 ⟨rfl, b7⟩
    rw [hq]
    have HB7 := Lib.hid (bthen HB6.out b7)
    go_wp2_with fail
    go_ret
    exact ⟨by rw [decide_eq_true hg, Bool.true_and]; rfl, HB7.out⟩
  · refine (rcmp_gt m3 r4.nt (by omega) (by omega) (by rw [v3, v4]; exact hg)).mono ?_
    rintro r w5 ⟨rfl, b5⟩
    have B5 := bthen HB4.out b5
    go_wp2_with fail
    go_ret
    exact ⟨by rw [decide_eq_false (Nat.ne_of_gt hg), Bool.false_and]; rfl, B5⟩
end Go.Proofs.YtkhlmcknbangfaaGreatDoor
namespace Go.Proofs.YtkhlmcknbangfaaGreatDoor
open Go.RowKit
set_option linter.unusedVariables false
set_option maxRecDepth 100000
/-- which digits a candidate has -/
theorem cand_bit {V d : Nat} (hd : 2 ≤ d) (i : Nat) : (candV V d 2).testBit i = (decide (i < d) && V.testBit i || decide (i = 0) || decide (i = d - 1) || decide (i = d - 2)) := by
  unfold candV sets sets sets
  simp only [Nat.testBit_or, Nat.testBit_mod_two_pow, Nat.testBit_two_pow, Nat.testBit_one_eq_true_iff_self_eq_zero]
  rw [show (Nat.testBit 1 i) = decide (i = 0) by
    rw [show (1 : Nat) = 2 ^ 0 from rfl, Nat.testBit_two_pow]
    exact decide_eq_decide.2 ⟨fun h => h.symm, fun h => h.symm⟩]
  rw [show decide (d - 1 - 0 = i) = decide (i = d - 1) from decide_eq_decide.2 (by omega), show decide (d - 1 - 1 = i) = decide (i = d - 2) from decide_eq_decide.2 (by omega)]
/-- a number's byte k -/
theorem val_bytes (X : Nat) : ∀ n, val 256 ((List.range n).map fun k => X / 256 ^ k % 256) = X % 256 ^ n
  | 0 => by simp [val, Nat.mod_one]
  | n + 1 => by
    rw [List.range_succ, List.map_append, val_append, val_bytes X n, List.length_map, List.length_range]
    simp only [List.map_cons, List.map_nil, val, Nat.mul_zero, Nat.add_zero]
    rw [Nat.pow_succ, Nat.mod_mul]
/-- the greatest byte first -/
def bytesOf (X n : Nat) : List Nat := (List.range n).map fun i => X / 256 ^ (n - 1 - i) % 256
theorem nb_bytes {X n : Nat} (h : X < 256 ^ n) : nb (bytesOf X n) = X := by
  unfold nb bytesOf
  have e : ((List.range n).map fun i => X / 256 ^ (n - 1 - i) % 256).reverse = (List.range n).map fun k => X / 256 ^ k % 256 := by
    refine List.ext_getElem (by simp) fun i h1 h2 => ?_
    simp only [List.getElem_reverse, List.getElem_map, List.getElem_range, List.length_map, List.length_range] at *
    rw [show n - 1 - (n - 1 - i) = i by simp at h2; omega]
  rw [e, val_bytes, Nat.mod_eq_of_lt h]
theorem nb_testBit {bs : List Nat} (h : Lim 256 bs) {i j : Nat} (hi : i < bs.length) (hj : j < 8) : (nb bs).testBit (8 * (bs.length - 1 - i) + j) = (bs.getD i 0).testBit j := by
  unfold nb
  rw [tb_val _ (fun x hx => h x (List.mem_reverse.1 hx)), show (8 * (bs.length - 1 - i) + j) / 8 = bs.length - 1 - i by omega, show (8 * (bs.length - 1 - i) + j) % 8 = j by omega, getD_rev bs _ (by omega), show bs.length - 1 - (bs.length - 1 - i) = i by omega]
/-- one digit more of a byte -/
theorem byte_step (Y j : Nat) : 2 * (Y / 2 ^ (j + 1)) + Y / 2 ^ j % 2 = Y / 2 ^ j := by
  rw [Nat.pow_succ, ← Nat.div_div_eq_div_mul]
  omega
theorem byte_bit (X k j : Nat) (hj : j < 8) : X / 256 ^ k % 256 / 2 ^ j % 2 = (X.testBit (8 * k + j)).toNat := by
  have t : ∀ (Y i : Nat), Y / 2 ^ i % 2 = (Y.testBit i).toNat := fun Y i => by
    rw [Nat.testBit_eq_decide_div_mod_eq]
    rcases Nat.mod_two_eq_zero_or_one (Y / 2 ^ i) with h | h <;> rw [h] <;> rfl
  rw [t]
  congr 1
  rw [show X / 256 ^ k % 256 = X / 2 ^ (8 * k) % 2 ^ 8 by rw [Nat.pow_mul], Nat.testBit_mod_two_pow, decide_eq_true hj, Bool.true_and, Nat.testBit_div_two_pow]
  congr 1
  omega
end Go.Proofs.YtkhlmcknbangfaaGreatDoor
namespace Go.Proofs.YtkhlmcknbangfaaGreatDoor
open Go.RowKit
set_option linter.unusedVariables false
set_option linter.unusedSimpArgs false
set_option maxRecDepth 100000
theorem bytes_take {X n k : Nat} (h : k < n) : (bytesOf X n).take (k + 1) = (bytesOf X n).take k ++ [X / 256 ^ (n - 1 - k) % 256] := by
  unfold bytesOf
  rw [List.take_add_one, List.getElem?_map, List.getElem?_range h]
  rfl
theorem lim_bytes (X n : Nat) : Lim 256 (bytesOf X n) := fun x hx => by
  unfold bytesOf at hx
  obtain ⟨i, _, rfl⟩ := List.mem_map.1 hx
  exact Nat.mod_lt _ (by decide)
theorem toNat_bit (y j : Nat) : (y.testBit j).toNat = y / 2 ^ j % 2 := by
  rw [Nat.testBit_eq_decide_div_mod_eq]
  rcases Nat.mod_two_eq_zero_or_one (y / 2 ^ j) with h | h <;> rw [h] <;> rfl
theorem cand_digit {bs : List Nat} {n d k j a : Nat} (hL : Lim 256 bs) (hl : bs.length = n) (hk : k < n) (hj : j ≤ 7) (ha : a = 8 * (n - 1 - k) + j) (hd : 8 ≤ d) :
    ((candV (nb bs) d 2).testBit a).toNat = if a = 0 ∨ a = d - 1 ∨ a = d - 2 then 1 else if d ≤ a then 0 else bs.getD k 0 / 2 ^ j % 2 := by
  have h1 := nb_testBit hL (i := k) (j := j) (by omega) (by omega)
  rw [hl, ← ha] at h1
  rw [cand_bit (by omega), h1, ← toNat_bit]
  by_cases c : a = 0 ∨ a = d - 1 ∨ a = d - 2
  · rw [if_pos c]
    rcases c with c | c | c <;> simp [c]
  · rw [if_neg c]
    have n1 : ¬ a = 0 := fun h => c (.inl h)
    have n2 : ¬ a = d - 1 := fun h => c (.inr (.inl h))
    have n3 : ¬ a = d - 2 := fun h => c (.inr (.inr h))
    rw [decide_eq_false n1, decide_eq_false n2, decide_eq_false n3, Bool.or_false, Bool.or_false, Bool.or_false]
    by_cases c4 : d ≤ a
    · rw [if_pos c4, decide_eq_false (by omega), Bool.false_and]; rfl
    · rw [if_neg c4, decide_eq_true (by omega), Bool.true_and]
set_option maxHeartbeats 4000000 in
theorem rcand_any {w : World} {A : Option Addr} {n c d q : Nat} {bs : List Nat} (h : Nb w w.heap.size A n c bs) (hn : n ≤ 1000) (hq : q ≤ 7) (hd : d + q = 8 * n) (hd2 : 8 ≤ d) :
    Calls Tryz.prog 45 #[.slice A n c, .int .i64 (d : Int)] w (RetS (candV (nb bs) d 2) w) := by
  have hl := h.len
  have hr := h.rooms
  obtain ⟨X, hX⟩ : ∃ X, X = candV (nb bs) d 2 := ⟨_, rfl⟩
  have hXl : X < 256 ^ n := by
    have h1 := (cand_facts (V := nb bs) (d := d) (s := 2) (by omega) (by omega)).1
    rw [← hX] at h1
    refine Nat.lt_of_lt_of_le h1 ?_
    rw [show (256 : Nat) = 2 ^ 8 from rfl, ← Nat.pow_mul]
    exact Nat.pow_le_pow_right (by decide) (by omega)
  have Hh := Lib.hid h
  have HX := Lib.hid hX
  have HXl := Lib.hid hXl
  have Hl := Lib.hid hl
  rw [← hX]
  clear h hX hXl hl
  go_enter Tryz.func45, Tryz.ntmps45
  go_wp2_with fail
  go_loopw [5, 6] (fun b i wr => ∃ (k : Nat) (A' : Option Addr) (c' : Nat), k ≤ n ∧ i = .int .i64 (k : Int) ∧ b = .slice A' k c' ∧ Rn.Gb wr w.heap.size A' k c' ((bytesOf X n).take k) ∧ Below w.heap.size w wr) (fun _ i _ => n - (intOf i).toNat)
  case atStart => exact ⟨0, none, 0, Nat.zero_le _, by simp, rfl, Rn.Gb.nil _ _, Below.refl _ _⟩
  case round =>
    obtain ⟨k, A', c', hk, rfl, rfl, hG, hB⟩ := hrel
    have HG := Lib.hid hG
    have HB := Lib.hid hB
    clear hG hB
    by_cases hkn : k < n
    · obtain ⟨Y, hY⟩ : ∃ Y, Y = X / 256 ^ (n - 1 - k) % 256 := ⟨_, rfl⟩
      have HY := Lib.hid hY
      have hY8 : Y < 256 := by rw [hY]; exact Nat.mod_lt _ (by decide)
      clear hY
      obtain ⟨b, off, rfl, _, hxc⟩ := (Hh.out.below HB.out).at_ hkn
      have hx8 : bs.getD k 0 < 256 := Hh.out.lim.get (by decide) k
      obtain ⟨y, hy⟩ : ∃ y, y = bs.getD k 0 := ⟨_, rfl⟩
      rw [← hy] at hxc hx8
      have Hy := Lib.hid hy
      clear hy
      go_wp2_with fail
      go_loopw [7, 8] (fun xv jv w2 => ∃ t : Nat, t ≤ 8 ∧ jv = .int .i64 ((t : Int) - 1) ∧ xv = .int .i64 ((Y / 2 ^ t : Nat) : Int) ∧ wr = w2) (fun _ j _ => (intOf j + 1).toNat)
      case atStart => exact ⟨8, Nat.le_refl _, rfl, by rw [Nat.div_eq_of_lt hY8]; rfl, rfl⟩
      case round =>
        obtain ⟨t, ht, rfl, rfl, rfl⟩ := hrel
        rcases Nat.eq_zero_or_pos t with h0 | h0
        · subst h0
          have hG7 := HG.out.alloc (.cells #[.int .u8 (Y : Int)] 5)
          have hc7 := Rn.cell_new wr (.int .u8 (Y : Int)) 5
          have hB7 : Below w.heap.size w (wr.alloc (.cells #[.int .u8 (Y : Int)] 5)) := HB.out.alloc HB.out.size _
          have hs7 : w.heap.size ≤ (wr.alloc (.cells #[.int .u8 (Y : Int)] 5)).heap.size := hB7.size
          go_wp2_with (refine Rn.wpList_app_b _ rfl (.tmp 59) (.tmp 62) rfl rfl hG7 rfl hc7 (by omega) hB7 hs7 ?_; intro A8 c8 w8 hG8 hB8)
          have HG8 := Lib.hid hG8
          have HB8 := Lib.hid hB8
          clear hG7 hc7 hB7 hs7 hG8 hB8
          go_wp2_with fail
          refine ⟨⟨k + 1, A8, c8, hkn, by simp, rfl, ?_, HB8.out⟩, by simp [intOf]; omega⟩
          rw [bytes_take hkn, ← HY.out]
          exact HG8.out
        · obtain ⟨j, rfl⟩ : ∃ j, t = j + 1 := ⟨t - 1, by omega⟩
          have hj : j ≤ 7 := by omega
          have ej : (((j + 1 : Nat) : Int)) - 1 = (j : Int) := by omega
          rw [ej]
          have hZ : Y / 2 ^ (j + 1) < 256 := Nat.lt_of_le_of_lt (Nat.div_le_self _ _) hY8
          obtain ⟨Z, hZe⟩ : ∃ Z, Z = Y / 2 ^ (j + 1) := ⟨_, rfl⟩
          rw [← hZe] at hZ ⊢
          have HZ := Lib.hid hZe
          clear hZe
          obtain ⟨a, ha⟩ : ∃ a, a = 8 * (n - 1 - k) + j := ⟨_, rfl⟩
          have ea : 8 * ((n : Int) - 1 - (k : Int)) + (j : Int) = (a : Int) := by omega
          have ha8 : a ≤ 8000 := by omega
          have Ha := Lib.hid ha
          clear ha
          obtain ⟨z, hz⟩ : ∃ z, z = y / 2 ^ j % 2 := ⟨_, rfl⟩
          have hz1 : z ≤ 1 := by omega
          have Hz := Lib.hid hz
          have hdig := cand_digit (d := d) Hh.out.lim Hl.out hkn hj Ha.out hd2
          rw [← HX.out, ← Hy.out, ← Hz.out] at hdig
          have hst : 2 * Z + (X.testBit a).toNat = Y / 2 ^ j := by
            rw [Ha.out, ← byte_bit X (n - 1 - k) j (by omega), ← HY.out, HZ.out]
            exact byte_step Y j
          rw [hdig] at hst
          have Hst := Lib.hid hst
          clear hdig hst
          have sb : bits .and .u8 ((y : Int) / 2 ^ j) 1 = (z : Int) := by
            have e1 : (y : Int) / 2 ^ j = ((y / 2 ^ j : Nat) : Int) := by simp
            have e2 := bits_mask .u8 8 (by decide) wraps_u8 1 (by decide) ((y / 2 ^ j : Nat) : Int) (Int.natCast_nonneg _) (Int.ofNat_lt.2 (Nat.lt_of_le_of_lt (Nat.div_le_self _ _) hx8))
            rw [e1, Hz.out]
            refine e2.trans ?_
            rw [Int.natCast_emod]
            rfl
          by_cases c1 : a = 0
          · subst c1
            have hs2 := Hst.out
            rw [if_pos (.inl rfl)] at hs2
            go_wp2_with fail
            refine ⟨⟨j, by omega, rfl, ?_, trivial⟩, by simp [intOf]⟩
            rw [← hs2]
            simp
          · by_cases c2 : a = d - 1
            · have hs2 := Hst.out
              rw [if_pos (.inr (.inl c2))] at hs2
              have k1 : ((a : Int) == 0) = false := by simp; omega
              have k2 : ((a : Int) == (d : Int) - 1) = true := by simp; omega
              have k4 : a < d := by omega
              go_wp2_with fail
              refine ⟨⟨j, by omega, rfl, ?_, trivial⟩, by simp [intOf]⟩
              rw [← hs2]
              simp
            · by_cases c3 : a = d - 2
              · have hs2 := Hst.out
                rw [if_pos (.inr (.inr c3))] at hs2
                have k1 : ((a : Int) == 0) = false := by simp; omega
                have k2 : ((a : Int) == (d : Int) - 1) = false := by simp; omega
                have k3 : ((a : Int) == (d : Int) - 2) = true := by simp; omega
                have k5 : ((d : Int) - 2 == (d : Int) - 1) = false := by rw [beq_eq_false_iff_ne]; omega
                have k6 : ((d : Int) - 2 == 0) = false := by rw [beq_eq_false_iff_ne]; omega
                have k4 : a < d := by omega
                clear c1 c2 c3
                go_wp2_with fail
                refine ⟨⟨j, by omega, rfl, ?_, trivial⟩, by simp [intOf]⟩
                rw [← hs2]
                simp
              · have hs2 := Hst.out
                rw [if_neg (fun h => by rcases h with h | h | h <;> contradiction)] at hs2
                have k1 : ((a : Int) == 0) = false := by simp; omega
                have k2 : ((a : Int) == (d : Int) - 1) = false := by simp; omega
                have k3 : ((a : Int) == (d : Int) - 2) = false := by simp; omega
                by_cases c4 : d ≤ a
                · rw [if_pos c4] at hs2
                  go_wp2_with fail
                  refine ⟨⟨j, by omega, rfl, ?_, trivial⟩, by simp [intOf]⟩
                  rw [← hs2]
                  simp
                · rw [if_neg c4] at hs2
                  have k4 : a < d := by omega
                  go_wp2_with fail
                  refine ⟨⟨j, by omega, rfl, ?_, trivial⟩, by simp [intOf]⟩
                  rw [← hs2]
                  have sh : ((y : Int) / 2 ^ j) % 2 = (z : Int) := by rw [Hz.out]; simp
                  simp [sh]
    · have hkn2 : k = n := by omega
      subst hkn2
      have hG2 := HG.out
      rw [List.take_of_length_le (by unfold bytesOf; simp)] at hG2
      have hr2 := Rn.rread_any (hG2.nb (lim_bytes X k)) (by omega)
      have HR := Lib.hid hr2
      clear hr2 hG2
      go_wp2_with fail
      refine HR.out.mono ?_
      rintro r w9 hr9
      obtain ⟨A9, n9, c9, x9, rfl, m9, t9, v9, b9⟩ := hr9.s
      have v9' : val 18446744073709551616 x9 = X := v9.trans (nb_bytes HXl.out)
      go_wp2_with fail
      go_ret
      exact ⟨_, _, _, _, rfl, m9, t9, v9', bthen HB.out b9⟩

end Go.Proofs.YtkhlmcknbangfaaGreatDoor
