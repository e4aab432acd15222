/- the document's Parse. -/
import Derived.Test.YtddjgjaifflpeaaDoorS4
namespace Go.Proofs.YtddjgjaifflpeaaDoor
open Go.RowKit
set_option linter.unusedVariables false
set_option linter.unusedSimpArgs false
set_option maxRecDepth 100000
theorem und9 : Tryd.prog.underlying 9 = some .string := by kernel_rfl
theorem idx_run (s : ByteArray) (i : Nat) (h : i < s.size) (W : World) : (Instr.index 9 (.string s) (.int .i64 (i : Int))).run Tryd.prog W = .ok (.int .u8 (((sb s).getD i 0 : Nat) : Int)) W := by
  rw [run_index_string W 9 s .i64 (i : Int) und9, dif_pos ⟨by omega, by omega⟩]
  have hl : i < (sb s).length := by rw [length_sb]; exact h
  have e : (sb s).getD i 0 = (s[i]'h).toNat := by
    rw [List.getD, List.getElem?_eq_getElem hl]
    simp [sb]
    rfl
  rw [e]
  rfl
theorem leq_run {xs ys : List Nat} (hx : Lim 256 xs) (hy : Lim 256 ys) (W : World) : (binOp .leq 9 (.string (bstr xs)) (.string (bstr ys))).run Tryd.prog W = .ok (.bool (lessL xs ys || decide (xs = ys))) W := by
  rw [binOp_string_leq, leq_bstr hx hy]; rfl
theorem neq_run (a b : ByteArray) (W : World) : (binOp .neq 9 (.string a) (.string b)).run Tryd.prog W = .ok (.bool (!decide (a = b))) W := by
  rw [← eq_str]
  simp [binOp, Op.stringOp, go_sem]
theorem any_leq (a b : ByteArray) : ∃ c : Bool, ∀ W, (binOp .leq 9 (.string a) (.string b)).run Tryd.prog W = .ok (.bool c) W :=
  ⟨_, fun W => by rw [binOp_string_leq]; rfl⟩
theorem shl_run (k : Nat) (hk : k < 32) (W : World) : (binOp .shl 22 (.int .u64 1) (.int .u64 (k : Int))).run Tryd.prog W = .ok (.int .u64 ((2 ^ k : Nat) : Int)) W := by
  rw [binOp_shl, shift_shl_u64 (h₀ := by omega) (h₁ := by omega)]
  have h : 2 ^ k < 2 ^ 32 := Nat.pow_lt_pow_right (by decide) hk
  have e : IntKind.u64.wrap (1 * 2 ^ (k : Int).toNat) = ((2 ^ k : Nat) : Int) := by
    rw [Int.one_mul, Int.toNat_natCast, IntKind.wrap_u64]
    have : ((2 : Int) ^ k) = ((2 ^ k : Nat) : Int) := by simp
    rw [this]
    generalize 2 ^ k = P at *
    omega
  rw [e]; rfl
theorem rd_take {X : List Nat} {j : Nat} (h : j < X.length) : rd (X.take (j + 1)) = 10 * rd (X.take j) + (X.getD j 0 - 48) := by
  rw [List.take_succ_eq_append_getElem h, rd_snoc, List.getD, List.getElem?_eq_getElem h]
  rfl
theorem rd_lt : ∀ j (X : List Nat), (∀ k, k < j → 48 ≤ X.getD k 0 ∧ X.getD k 0 ≤ 57) → j ≤ X.length → rd (X.take j) < 10 ^ j
  | 0, _, _, _ => by simp [rd]
  | j + 1, X, h, hl => by
    have ih := rd_lt j X (fun k hk => h k (by omega)) (by omega)
    have hj := h j (by omega)
    rw [rd_take (by omega), Nat.pow_succ]
    omega
/-- where the digits of a printed time end -/
theorem scan_end {t j : Nat} (ht : t < 18446744073709551616) (hd : ∀ k, k < j → 48 ≤ (printed t).getD k 0 ∧ (printed t).getD k 0 ≤ 57) (hj : j ≤ (printed t).length) (hj2 : j ≤ 10) (hstop : ¬ (j < (printed t).length ∧ j < 10 ∧ 48 ≤ (printed t).getD j 0 ∧ (printed t).getD j 0 ≤ 57)) :
    rd ((printed t).take j) = t / 4294967296 := by
  have hp := printed_dec t ht
  have hlen := dec_len 9 (t / 4294967296) (by omega)
  obtain ⟨A, hA⟩ : ∃ A, dec (t / 4294967296) = A := ⟨_, rfl⟩
  have hrd := rd_dec (t / 4294967296)
  have hdig := dec_digit (t / 4294967296)
  rw [hA] at hp hlen hrd hdig
  rw [hp] at hd hj hstop ⊢
  rw [List.length_append, List.length_cons] at hj hstop
  have hle : j ≤ A.length := by
    rcases Nat.lt_or_ge A.length j with g | g
    · have := hd A.length g
      rw [List.getD, List.getElem?_append_right (Nat.le_refl _), Nat.sub_self] at this
      simp at this
    · exact g
  have hge : A.length ≤ j := by
    rcases Nat.lt_or_ge j A.length with g | g
    · refine absurd ⟨by omega, by omega, ?_⟩ hstop
      rw [List.getD, List.getElem?_append_left g, List.getElem?_eq_getElem g]
      exact hdig _ (List.getElem_mem g)
    · exact g
  obtain rfl : j = A.length := by omega
  rw [List.take_left]
  exact hrd
theorem Nat.div_div_eq_div_mul_comm_ (p : Nat) {a : Nat} : p / a / 2 = p / (2 * a) := by rw [Nat.div_div_eq_div_mul, Nat.mul_comm]
theorem halve_ {p q P a : Nat} (hP : P = a) (h6 : 0 < a) (hq : q = p / a / 2 * (2 * a)) : (if q + P ≤ p then q + P else q) = p / a * a := by
  subst hP
  have h1 := Nat.div_add_mod p P
  have h2 := Nat.mod_lt p h6
  have h3 := Nat.div_add_mod (p / P) 2
  have h4 := Nat.mod_lt (p / P) (show 0 < 2 by decide)
  generalize p / P = b at *
  generalize b / 2 = d at *
  have e1 : d * (2 * P) = P * (2 * d) := by rw [Nat.mul_comm d, Nat.mul_assoc, Nat.mul_left_comm]
  rcases (show b % 2 = 0 ∨ b % 2 = 1 by omega) with g | g
  · have hb : b = 2 * d := by omega
    have e2 : q = P * b := by rw [hq, e1, hb]
    rw [if_neg (by omega), e2, Nat.mul_comm]
  · have hb : b = 2 * d + 1 := by omega
    have e2 : q + P = P * b := by rw [hq, e1, hb, Nat.mul_add, Nat.mul_one]
    rw [if_pos (by omega), e2, Nat.mul_comm]
set_option maxHeartbeats 8000000 in
theorem rparse_hit (t : Nat) (ht : t < 18446744073709551616) (w : World) : Calls Tryd.prog 32 #[.string (bstr (printed t))] w fun e w' => e = .returned (.tuple #[.int .u64 (t : Int), .int .i64 0]) ∧ Below w.heap.size w w' := by
  obtain ⟨X, hX⟩ : ∃ X, printed t = X := ⟨_, rfl⟩
  have hlim := lim_printed t ht
  have hdec := printed_dec t ht
  have hXl : X.length = (bstr X).size := by rw [size_bstr]
  have hX21 : X.length ≤ 21 := hX ▸ printed_len t ht
  have hsbX : sb (bstr X) = X := sb_bstr X (hX ▸ hlim)
  obtain ⟨S, hS⟩ : ∃ S, S = t / 4294967296 := ⟨_, rfl⟩
  obtain ⟨p, hp0⟩ : ∃ p, p = t % 4294967296 := ⟨_, rfl⟩
  have htS : t = S * 4294967296 + p := by omega
  have lS : S < 4294967296 := by omega
  have hp : p < 4294967296 := by omega
  have HPr := Lib.hid (fun t (ht : t < 18446744073709551616) w => rprint_any t ht w)
  have hscan := fun j h1 h2 h3 h4 => scan_end (t := t) (j := j) ht h1 h2 h3 h4
  rw [hX, ← hS] at hscan
  rw [hX] at hlim hdec
  rw [← hS, ← hp0] at hdec
  have hpr : ∀ q, q < 4294967296 → printed (S * 4294967296 + q) = dec S ++ 46 :: fr q 10 := fun q hq => by
    rw [printed_dec _ (by omega), show (S * 4294967296 + q) / 4294967296 = S by omega, show (S * 4294967296 + q) % 4294967296 = q by omega]
  have hle : ∀ q, q < 4294967296 → (Op.bytesLess (bstr (printed (S * 4294967296 + q))).toList (bstr X).toList || (bstr (printed (S * 4294967296 + q))).toList == (bstr X).toList) = decide (q ≤ p) := fun q hq => by
    rw [leq_bstr (lim_printed _ (by omega)) hlim, hpr q hq, hdec, lessL_printed hq hp]
    have e : decide (dec S ++ 46 :: fr q 10 = dec S ++ 46 :: fr p 10) = decide (q = p) := decide_eq_decide.2 ⟨fun h => by
      have h1 := lessL_printed (s := S) hq hp
      have h2 := lessL_printed (s := S) hp hq
      rw [h] at h1
      rw [← h] at h2
      rw [h] at h2
      have h3 := lessL_printed (s := S) hp hp
      rw [h3] at h1 h2
      have a1 : ¬ q < p := fun g => by rw [decide_eq_true g, decide_eq_false (Nat.lt_irrefl p)] at h1; cases h1
      have a2 : ¬ p < q := fun g => by rw [decide_eq_true g, decide_eq_false (Nat.lt_irrefl p)] at h2; cases h2
      omega, fun h => by rw [h]⟩
    rw [e]
    rcases Nat.lt_trichotomy q p with g | g | g
    · rw [decide_eq_true g, decide_eq_true (Nat.le_of_lt g)]; rfl
    · rw [decide_eq_true g, decide_eq_true (Nat.le_of_eq g), Bool.or_true]
    · rw [decide_eq_false (by omega), decide_eq_false (by omega), decide_eq_false (by omega)]; rfl
  have hsz : ((bstr (printed (S * 4294967296))).size : Int) = ((bstr X).size : Int) := by
    have h0 := hpr 0 (by decide)
    rw [Nat.add_zero] at h0
    rw [size_bstr, size_bstr, h0, hdec, List.length_append, List.length_append, List.length_cons, List.length_cons, fr_low 10 0 (by decide), fr_low 10 p hp, length_low, length_low]
  have heq : bstr (printed (S * 4294967296 + p)) = bstr X := by rw [← htS, hX]
  have hnq : ∀ W, (binOp .neq 3 (.int .i64 ((bstr (printed (S * 4294967296))).size : Int)) (.int .i64 ((bstr X).size : Int))).run Tryd.prog W = .ok (.bool false) W := fun W => by
    rw [hsz]; simp [go_sem]
  have HIdx := Lib.hid (fun j (hj : j < (bstr X).size) W => by have := idx_run (bstr X) j hj W; rwa [hsbX] at this)
  have HS0 := Lib.hid hsz
  have HNq := Lib.hid hnq
  have HEq := Lib.hid heq
  have HLe := Lib.hid hle
  have HXl := Lib.hid hXl
  have HScan := Lib.hid (show ∀ j, (∀ k, k < j → 48 ≤ X.getD k 0 ∧ X.getD k 0 ≤ 57) → j ≤ (bstr X).size → j ≤ 10 → ¬ (j < (bstr X).size ∧ j < 10 ∧ 48 ≤ X.getD j 0 ∧ X.getD j 0 ≤ 57) → rd (X.take j) = S by rw [← hXl]; exact hscan)
  have HE0 := Lib.hid (show (S : Int) * 4294967296 = ((S * 4294967296 : Nat) : Int) by omega)
  rw [hX, htS]
  have hs21 : ((21 : Int) < ((bstr X).size : Int)) = False := by simp only [eq_iff_iff, iff_false]; rw [← hXl]; omega
  have hs22 : (bstr X).size ≤ 21 := by rw [← hXl]; exact hX21
  clear hX hlim hdec hXl hX21 hsbX hS hp0 htS hscan hpr hle hsz heq hnq ht
  generalize bstr X = s at *
  go_enter Tryd.func32, Tryd.ntmps32
  go_wp2_with fail
  go_loopw [4, 5] (fun n i wr => ∃ (j m : Nat), j ≤ s.size ∧ j ≤ 10 ∧ i = .int .i64 (j : Int) ∧ n = .int .u64 (m : Int) ∧ Hid (m = rd (X.take j)) ∧ Hid (∀ k, k < j → 48 ≤ X.getD k 0 ∧ X.getD k 0 ≤ 57) ∧ w = wr) (fun _ i _ => 10 - (intOf i).toNat)
  case atStart => exact ⟨0, 0, Nat.zero_le _, Nat.zero_le _, rfl, rfl, Lib.hid rfl, Lib.hid (fun k hk => absurd hk (Nat.not_lt_zero k)), rfl⟩
  case round =>
    obtain ⟨j, m, hjs, hj10, rfl, rfl, Hm, HD, rfl⟩ := hrel
    have hm10 : m < 10000000000 := by
      have h1 := rd_lt j X HD.out (by rw [HXl.out]; exact hjs)
      have h2 : 10 ^ j ≤ 10 ^ 10 := Nat.pow_le_pow_right (by decide) hj10
      rw [← Hm.out] at h1
      omega
    by_cases hc : j < s.size ∧ j < 10 ∧ 48 ≤ X.getD j 0 ∧ X.getD j 0 ≤ 57
    · obtain ⟨c1, c2, c3, c4⟩ := hc
      have hx := fun W => HIdx.out j c1 W
      have HR := Lib.hid (show 10 * m + (X.getD j 0 - 48) = rd (X.take (j + 1)) by rw [rd_take (by rw [HXl.out]; exact c1), ← Hm.out])
      have HD2 := Lib.hid (show ∀ k, k < j + 1 → 48 ≤ X.getD k 0 ∧ X.getD k 0 ≤ 57 from fun k hk => by
        rcases Nat.lt_or_ge k j with g | g
        · exact HD.out k g
        · rw [show k = j by omega]; exact ⟨c3, c4⟩)
      obtain ⟨x, hxx⟩ : ∃ x, X.getD j 0 = x := ⟨_, rfl⟩
      rw [hxx] at hx c3 c4 HR
      have d1 : decide ((j : Int) < (s.size : Int)) = true := by simp; omega
      have d2 : decide ((j : Int) < 10) = true := by simp; omega
      have d3 : decide ((48 : Int) ≤ (x : Int)) = true := by simp; omega
      have d4 : decide ((x : Int) ≤ 57) = true := by simp; omega
      have e9 : 10 * (m : Int) + (x : Int) - 48 = ((10 * m + (x - 48) : Nat) : Int) := by omega
      clear hxx
      go_wp2_with fail
      go_roundw
      case rel => exact ⟨j + 1, 10 * m + (x - 48), c1, c2, by simp, by first | rfl | (rw [e9]) | (simp; omega), HR, HD2, by first | trivial | rfl⟩
      case measure => simp [intOf]; omega
    have HC := Lib.hid hc
    by_cases c1 : j < s.size
    · have d1 : decide ((j : Int) < (s.size : Int)) = true := by simp; omega
      by_cases c2 : j < 10
      · have d2 : decide ((j : Int) < 10) = true := by simp; omega
        have hx := fun W => HIdx.out j c1 W
        obtain ⟨x, hxx⟩ : ∃ x, X.getD j 0 = x := ⟨_, rfl⟩
        rw [hxx] at hx hc
        by_cases c3 : 48 ≤ x
        · have d3 : decide ((48 : Int) ≤ (x : Int)) = true := by simp; omega
          have d4 : ((x : Int) ≤ 57) = False := by simp only [eq_iff_iff, iff_false]; omega
          clear hc hxx
          have hmS : m = S := by rw [Hm.out]; exact HScan.out j HD.out hjs hj10 HC.out
          subst hmS
          have f1 : ((4294967295 : Int) < (m : Int)) = False := by simp only [eq_iff_iff, iff_false]; omega
          go_wp2_with fail
          rw [HE0.out]
          refine (HPr.out (m * 4294967296) (by omega) _).mono ?_
          rintro e w2 ⟨rfl, b2⟩
          have HB2 := Lib.hid b2
          have hsz := HS0.out
          have hne := fun W => HNq.out W
          clear b2
          go_wp2_with fail
          go_loopw [6, 8] (fun tt kk wr => ∃ (c q : Nat) (z : Int), c ≤ 32 ∧ z = (c : Int) - 1 ∧ kk = .int .i64 z ∧ tt = .int .u64 ((m * 4294967296 + q : Nat) : Int) ∧ Hid (q = p / 2 ^ c * 2 ^ c) ∧ Hid (Below w.heap.size w wr)) (fun _ kk _ => ((intOf kk) + 1).toNat)
          case atStart => exact ⟨32, 0, 31, Nat.le_refl _, rfl, rfl, by simp, Lib.hid (by simp [Nat.div_eq_of_lt hp]), HB2⟩
          case round =>
            obtain ⟨c, q, z, hc32, hz, rfl, rfl, Hq, HB⟩ := hrel
            have hqp : q ≤ p := by rw [Hq.out]; exact Nat.div_mul_le_self _ _
            by_cases h0 : c = 0
            · have dz : (0 ≤ z) = False := by simp only [eq_iff_iff, iff_false]; omega
              have hq0 : q = p := by rw [Hq.out, h0]; simp
              subst hq0
              clear h0 hqp hz
              go_wp2_with fail
              refine (HPr.out (m * 4294967296 + q) (by omega) _).mono ?_
              rintro e w4 ⟨rfl, b4⟩
              have HB4 := Lib.hid (HB.out.trans (b4.mono HB.out.size))
              clear b4
              rw [HEq.out]
              go_wp2_with fail
              go_ret2
              exact ⟨rfl, HB4.out⟩
            · obtain ⟨k, rfl⟩ : ∃ k, c = k + 1 := ⟨c - 1, by omega⟩
              obtain rfl : z = (k : Int) := by omega
              have dz : decide ((0 : Int) ≤ (k : Int)) = true := by simp
              have hsh := fun W => shl_run k (by omega) W
              have hpk : 2 ^ k ≤ 2 ^ 31 := Nat.pow_le_pow_right (by decide) (by omega)
              obtain ⟨P, hP⟩ : ∃ P, P = 2 ^ k := ⟨_, rfl⟩
              have hqP : q + P < 4294967296 := by
                have h1 := Nat.div_add_mod p (2 ^ (k + 1))
                have h2 : q % 2 ^ (k + 1) = 0 := by rw [Hq.out]; exact Nat.mul_mod_left _ _
                have h3 : q / 2 ^ (k + 1) < 2 ^ (31 - k) := by
                  rw [Nat.div_lt_iff_lt_mul (Nat.two_pow_pos _), ← Nat.pow_add, show 31 - k + (k + 1) = 32 by omega]; omega
                have h4 := Nat.mul_le_mul_right (2 ^ (k + 1)) h3
                rw [← Nat.pow_add, show 31 - k + (k + 1) = 32 by omega, Nat.succ_mul, Nat.div_mul_cancel (Nat.dvd_of_mod_eq_zero h2)] at h4
                rw [hP]
                have h5 : 2 ^ (k + 1) = 2 * 2 ^ k := by rw [Nat.pow_succ, Nat.mul_comm]
                have h6 := Nat.two_pow_pos k
                omega
              have hle := HLe.out (q + P) hqP
              rw [← hP] at hsh
              have HQ2 := Lib.hid (show (if q + P ≤ p then q + P else q) = p / 2 ^ k * 2 ^ k from by
                have h5 : 2 ^ (k + 1) = 2 * 2 ^ k := by rw [Nat.pow_succ, Nat.mul_comm]
                have hq := Hq.out
                have h6 := Nat.two_pow_pos k
                rw [h5, ← Nat.div_div_eq_div_mul_comm_ p] at hq
                exact halve_ hP h6 hq)
              have e12 : IntKind.u64.wrap ((2 : Int) ^ k) = (P : Int) := by
                rw [IntKind.wrap_u64, hP]
                have : ((2 : Int) ^ k) = ((2 ^ k : Nat) : Int) := by simp
                rw [this]
                generalize 2 ^ k = A at *
                omega
              obtain ⟨Y, hY⟩ : ∃ Y, Y = m * 4294967296 + (q + P) := ⟨_, rfl⟩
              have hYl : Y < 18446744073709551616 := by omega
              rw [← hY] at hle
              generalize hT : m * 4294967296 + q = T at *
              have e13 : IntKind.u64.wrap ((T : Int) + (P : Int)) = (Y : Int) := by rw [IntKind.wrap_u64]; omega
              have HY := Lib.hid hY
              have HT := Lib.hid hT
              clear hP hpk hz h0 hY hT hsh
              go_wp2_with fail
              refine (HPr.out Y hYl _).mono ?_
              rintro e w4 ⟨rfl, b4⟩
              have HB4 := Lib.hid (HB.out.trans (b4.mono HB.out.size))
              clear b4
              by_cases hb : q + P ≤ p
              · rw [decide_eq_true hb] at hle
                have hq2 := HQ2.out
                rw [if_pos hb] at hq2
                have HQ3 := Lib.hid hq2
                clear hq2 hb
                go_wp2_with fail
                try any_goals (rename_i hh; exfalso; rcases Hb.out with h | h <;> simp [h] at hh; done)
                go_roundw
                case rel => exact ⟨k, q + P, (k : Int) - 1, by omega, rfl, rfl, by rw [← HY.out], HQ3, HB4⟩
                case measure => first | (simp [intOf]; done) | (simp [intOf]; omega)
              · rw [decide_eq_false hb] at hle
                have hq2 := HQ2.out
                rw [if_neg hb] at hq2
                have HQ3 := Lib.hid hq2
                clear hq2 hb
                go_wp2_with fail
                try any_goals (rename_i hh; exfalso; simp [Hb.out.1, Hb.out.2] at hh; done)
                go_roundw
                case rel => exact ⟨k, q, (k : Int) - 1, by omega, rfl, rfl, by rw [HT.out], HQ3, HB4⟩
                case measure => first | (simp [intOf]; done) | (simp [intOf]; omega)
        · have d3 : ((48 : Int) ≤ (x : Int)) = False := by simp only [eq_iff_iff, iff_false]; omega
          clear hc hxx
          have hmS : m = S := by rw [Hm.out]; exact HScan.out j HD.out hjs hj10 HC.out
          subst hmS
          have f1 : ((4294967295 : Int) < (m : Int)) = False := by simp only [eq_iff_iff, iff_false]; omega
          go_wp2_with fail
          rw [HE0.out]
          refine (HPr.out (m * 4294967296) (by omega) _).mono ?_
          rintro e w2 ⟨rfl, b2⟩
          have HB2 := Lib.hid b2
          have hsz := HS0.out
          have hne := fun W => HNq.out W
          clear b2
          go_wp2_with fail
          go_loopw [6, 8] (fun tt kk wr => ∃ (c q : Nat) (z : Int), c ≤ 32 ∧ z = (c : Int) - 1 ∧ kk = .int .i64 z ∧ tt = .int .u64 ((m * 4294967296 + q : Nat) : Int) ∧ Hid (q = p / 2 ^ c * 2 ^ c) ∧ Hid (Below w.heap.size w wr)) (fun _ kk _ => ((intOf kk) + 1).toNat)
          case atStart => exact ⟨32, 0, 31, Nat.le_refl _, rfl, rfl, by simp, Lib.hid (by simp [Nat.div_eq_of_lt hp]), HB2⟩
          case round =>
            obtain ⟨c, q, z, hc32, hz, rfl, rfl, Hq, HB⟩ := hrel
            have hqp : q ≤ p := by rw [Hq.out]; exact Nat.div_mul_le_self _ _
            by_cases h0 : c = 0
            · have dz : (0 ≤ z) = False := by simp only [eq_iff_iff, iff_false]; omega
              have hq0 : q = p := by rw [Hq.out, h0]; simp
              subst hq0
              clear h0 hqp hz
              go_wp2_with fail
              refine (HPr.out (m * 4294967296 + q) (by omega) _).mono ?_
              rintro e w4 ⟨rfl, b4⟩
              have HB4 := Lib.hid (HB.out.trans (b4.mono HB.out.size))
              clear b4
              rw [HEq.out]
              go_wp2_with fail
              go_ret2
              exact ⟨rfl, HB4.out⟩
            · obtain ⟨k, rfl⟩ : ∃ k, c = k + 1 := ⟨c - 1, by omega⟩
              obtain rfl : z = (k : Int) := by omega
              have dz : decide ((0 : Int) ≤ (k : Int)) = true := by simp
              have hsh := fun W => shl_run k (by omega) W
              have hpk : 2 ^ k ≤ 2 ^ 31 := Nat.pow_le_pow_right (by decide) (by omega)
              obtain ⟨P, hP⟩ : ∃ P, P = 2 ^ k := ⟨_, rfl⟩
              have hqP : q + P < 4294967296 := by
                have h1 := Nat.div_add_mod p (2 ^ (k + 1))
                have h2 : q % 2 ^ (k + 1) = 0 := by rw [Hq.out]; exact Nat.mul_mod_left _ _
                have h3 : q / 2 ^ (k + 1) < 2 ^ (31 - k) := by
                  rw [Nat.div_lt_iff_lt_mul (Nat.two_pow_pos _), ← Nat.pow_add, show 31 - k + (k + 1) = 32 by omega]; omega
                have h4 := Nat.mul_le_mul_right (2 ^ (k + 1)) h3
                rw [← Nat.pow_add, show 31 - k + (k + 1) = 32 by omega, Nat.succ_mul, Nat.div_mul_cancel (Nat.dvd_of_mod_eq_zero h2)] at h4
                rw [hP]
                have h5 : 2 ^ (k + 1) = 2 * 2 ^ k := by rw [Nat.pow_succ, Nat.mul_comm]
                have h6 := Nat.two_pow_pos k
                omega
              have hle := HLe.out (q + P) hqP
              rw [← hP] at hsh
              have HQ2 := Lib.hid (show (if q + P ≤ p then q + P else q) = p / 2 ^ k * 2 ^ k from by
                have h5 : 2 ^ (k + 1) = 2 * 2 ^ k := by rw [Nat.pow_succ, Nat.mul_comm]
                have hq := Hq.out
                have h6 := Nat.two_pow_pos k
                rw [h5, ← Nat.div_div_eq_div_mul_comm_ p] at hq
                exact halve_ hP h6 hq)
              have e12 : IntKind.u64.wrap ((2 : Int) ^ k) = (P : Int) := by
                rw [IntKind.wrap_u64, hP]
                have : ((2 : Int) ^ k) = ((2 ^ k : Nat) : Int) := by simp
                rw [this]
                generalize 2 ^ k = A at *
                omega
              obtain ⟨Y, hY⟩ : ∃ Y, Y = m * 4294967296 + (q + P) := ⟨_, rfl⟩
              have hYl : Y < 18446744073709551616 := by omega
              rw [← hY] at hle
              generalize hT : m * 4294967296 + q = T at *
              have e13 : IntKind.u64.wrap ((T : Int) + (P : Int)) = (Y : Int) := by rw [IntKind.wrap_u64]; omega
              have HY := Lib.hid hY
              have HT := Lib.hid hT
              clear hP hpk hz h0 hY hT hsh
              go_wp2_with fail
              refine (HPr.out Y hYl _).mono ?_
              rintro e w4 ⟨rfl, b4⟩
              have HB4 := Lib.hid (HB.out.trans (b4.mono HB.out.size))
              clear b4
              by_cases hb : q + P ≤ p
              · rw [decide_eq_true hb] at hle
                have hq2 := HQ2.out
                rw [if_pos hb] at hq2
                have HQ3 := Lib.hid hq2
                clear hq2 hb
                go_wp2_with fail
                try any_goals (rename_i hh; exfalso; rcases Hb.out with h | h <;> simp [h] at hh; done)
                go_roundw
                case rel => exact ⟨k, q + P, (k : Int) - 1, by omega, rfl, rfl, by rw [← HY.out], HQ3, HB4⟩
                case measure => first | (simp [intOf]; done) | (simp [intOf]; omega)
              · rw [decide_eq_false hb] at hle
                have hq2 := HQ2.out
                rw [if_neg hb] at hq2
                have HQ3 := Lib.hid hq2
                clear hq2 hb
                go_wp2_with fail
                try any_goals (rename_i hh; exfalso; simp [Hb.out.1, Hb.out.2] at hh; done)
                go_roundw
                case rel => exact ⟨k, q, (k : Int) - 1, by omega, rfl, rfl, by rw [HT.out], HQ3, HB4⟩
                case measure => first | (simp [intOf]; done) | (simp [intOf]; omega)
      · have d2 : ((j : Int) < 10) = False := by simp only [eq_iff_iff, iff_false]; omega
        clear hc
        have hmS : m = S := by rw [Hm.out]; exact HScan.out j HD.out hjs hj10 HC.out
        subst hmS
        have f1 : ((4294967295 : Int) < (m : Int)) = False := by simp only [eq_iff_iff, iff_false]; omega
        go_wp2_with fail
        rw [HE0.out]
        refine (HPr.out (m * 4294967296) (by omega) _).mono ?_
        rintro e w2 ⟨rfl, b2⟩
        have HB2 := Lib.hid b2
        have hsz := HS0.out
        have hne := fun W => HNq.out W
        clear b2
        go_wp2_with fail
        go_loopw [6, 8] (fun tt kk wr => ∃ (c q : Nat) (z : Int), c ≤ 32 ∧ z = (c : Int) - 1 ∧ kk = .int .i64 z ∧ tt = .int .u64 ((m * 4294967296 + q : Nat) : Int) ∧ Hid (q = p / 2 ^ c * 2 ^ c) ∧ Hid (Below w.heap.size w wr)) (fun _ kk _ => ((intOf kk) + 1).toNat)
        case atStart => exact ⟨32, 0, 31, Nat.le_refl _, rfl, rfl, by simp, Lib.hid (by simp [Nat.div_eq_of_lt hp]), HB2⟩
        case round =>
          obtain ⟨c, q, z, hc32, hz, rfl, rfl, Hq, HB⟩ := hrel
          have hqp : q ≤ p := by rw [Hq.out]; exact Nat.div_mul_le_self _ _
          by_cases h0 : c = 0
          · have dz : (0 ≤ z) = False := by simp only [eq_iff_iff, iff_false]; omega
            have hq0 : q = p := by rw [Hq.out, h0]; simp
            subst hq0
            clear h0 hqp hz
            go_wp2_with fail
            refine (HPr.out (m * 4294967296 + q) (by omega) _).mono ?_
            rintro e w4 ⟨rfl, b4⟩
            have HB4 := Lib.hid (HB.out.trans (b4.mono HB.out.size))
            clear b4
            rw [HEq.out]
            go_wp2_with fail
            go_ret2
            exact ⟨rfl, HB4.out⟩
          · obtain ⟨k, rfl⟩ : ∃ k, c = k + 1 := ⟨c - 1, by omega⟩
            obtain rfl : z = (k : Int) := by omega
            have dz : decide ((0 : Int) ≤ (k : Int)) = true := by simp
            have hsh := fun W => shl_run k (by omega) W
            have hpk : 2 ^ k ≤ 2 ^ 31 := Nat.pow_le_pow_right (by decide) (by omega)
            obtain ⟨P, hP⟩ : ∃ P, P = 2 ^ k := ⟨_, rfl⟩
            have hqP : q + P < 4294967296 := by
              have h1 := Nat.div_add_mod p (2 ^ (k + 1))
              have h2 : q % 2 ^ (k + 1) = 0 := by rw [Hq.out]; exact Nat.mul_mod_left _ _
              have h3 : q / 2 ^ (k + 1) < 2 ^ (31 - k) := by
                rw [Nat.div_lt_iff_lt_mul (Nat.two_pow_pos _), ← Nat.pow_add, show 31 - k + (k + 1) = 32 by omega]; omega
              have h4 := Nat.mul_le_mul_right (2 ^ (k + 1)) h3
              rw [← Nat.pow_add, show 31 - k + (k + 1) = 32 by omega, Nat.succ_mul, Nat.div_mul_cancel (Nat.dvd_of_mod_eq_zero h2)] at h4
              rw [hP]
              have h5 : 2 ^ (k + 1) = 2 * 2 ^ k := by rw [Nat.pow_succ, Nat.mul_comm]
              have h6 := Nat.two_pow_pos k
              omega
            have hle := HLe.out (q + P) hqP
            rw [← hP] at hsh
            have HQ2 := Lib.hid (show (if q + P ≤ p then q + P else q) = p / 2 ^ k * 2 ^ k from by
              have h5 : 2 ^ (k + 1) = 2 * 2 ^ k := by rw [Nat.pow_succ, Nat.mul_comm]
              have hq := Hq.out
              have h6 := Nat.two_pow_pos k
              rw [h5, ← Nat.div_div_eq_div_mul_comm_ p] at hq
              exact halve_ hP h6 hq)
            have e12 : IntKind.u64.wrap ((2 : Int) ^ k) = (P : Int) := by
              rw [IntKind.wrap_u64, hP]
              have : ((2 : Int) ^ k) = ((2 ^ k : Nat) : Int) := by simp
              rw [this]
              generalize 2 ^ k = A at *
              omega
            obtain ⟨Y, hY⟩ : ∃ Y, Y = m * 4294967296 + (q + P) := ⟨_, rfl⟩
            have hYl : Y < 18446744073709551616 := by omega
            rw [← hY] at hle
            generalize hT : m * 4294967296 + q = T at *
            have e13 : IntKind.u64.wrap ((T : Int) + (P : Int)) = (Y : Int) := by rw [IntKind.wrap_u64]; omega
            have HY := Lib.hid hY
            have HT := Lib.hid hT
            clear hP hpk hz h0 hY hT hsh
            go_wp2_with fail
            refine (HPr.out Y hYl _).mono ?_
            rintro e w4 ⟨rfl, b4⟩
            have HB4 := Lib.hid (HB.out.trans (b4.mono HB.out.size))
            clear b4
            by_cases hb : q + P ≤ p
            · rw [decide_eq_true hb] at hle
              have hq2 := HQ2.out
              rw [if_pos hb] at hq2
              have HQ3 := Lib.hid hq2
              clear hq2 hb
              go_wp2_with fail
              try any_goals (rename_i hh; exfalso; rcases Hb.out with h | h <;> simp [h] at hh; done)
              go_roundw
              case rel => exact ⟨k, q + P, (k : Int) - 1, by omega, rfl, rfl, by rw [← HY.out], HQ3, HB4⟩
              case measure => first | (simp [intOf]; done) | (simp [intOf]; omega)
            · rw [decide_eq_false hb] at hle
              have hq2 := HQ2.out
              rw [if_neg hb] at hq2
              have HQ3 := Lib.hid hq2
              clear hq2 hb
              go_wp2_with fail
              try any_goals (rename_i hh; exfalso; simp [Hb.out.1, Hb.out.2] at hh; done)
              go_roundw
              case rel => exact ⟨k, q, (k : Int) - 1, by omega, rfl, rfl, by rw [HT.out], HQ3, HB4⟩
              case measure => first | (simp [intOf]; done) | (simp [intOf]; omega)
    · have d1 : ((j : Int) < (s.size : Int)) = False := by simp only [eq_iff_iff, iff_false]; omega
      clear hc
      have hmS : m = S := by rw [Hm.out]; exact HScan.out j HD.out hjs hj10 HC.out
      subst hmS
      have f1 : ((4294967295 : Int) < (m : Int)) = False := by simp only [eq_iff_iff, iff_false]; omega
      go_wp2_with fail
      rw [HE0.out]
      refine (HPr.out (m * 4294967296) (by omega) _).mono ?_
      rintro e w2 ⟨rfl, b2⟩
      have HB2 := Lib.hid b2
      have hsz := HS0.out
      have hne := fun W => HNq.out W
      clear b2
      go_wp2_with fail
      go_loopw [6, 8] (fun tt kk wr => ∃ (c q : Nat) (z : Int), c ≤ 32 ∧ z = (c : Int) - 1 ∧ kk = .int .i64 z ∧ tt = .int .u64 ((m * 4294967296 + q : Nat) : Int) ∧ Hid (q = p / 2 ^ c * 2 ^ c) ∧ Hid (Below w.heap.size w wr)) (fun _ kk _ => ((intOf kk) + 1).toNat)
      case atStart => exact ⟨32, 0, 31, Nat.le_refl _, rfl, rfl, by simp, Lib.hid (by simp [Nat.div_eq_of_lt hp]), HB2⟩
      case round =>
        obtain ⟨c, q, z, hc32, hz, rfl, rfl, Hq, HB⟩ := hrel
        have hqp : q ≤ p := by rw [Hq.out]; exact Nat.div_mul_le_self _ _
        by_cases h0 : c = 0
        · have dz : (0 ≤ z) = False := by simp only [eq_iff_iff, iff_false]; omega
          have hq0 : q = p := by rw [Hq.out, h0]; simp
          subst hq0
          clear h0 hqp hz
          go_wp2_with fail
          refine (HPr.out (m * 4294967296 + q) (by omega) _).mono ?_
          rintro e w4 ⟨rfl, b4⟩
          have HB4 := Lib.hid (HB.out.trans (b4.mono HB.out.size))
          clear b4
          rw [HEq.out]
          go_wp2_with fail
          go_ret2
          exact ⟨rfl, HB4.out⟩
        · obtain ⟨k, rfl⟩ : ∃ k, c = k + 1 := ⟨c - 1, by omega⟩
          obtain rfl : z = (k : Int) := by omega
          have dz : decide ((0 : Int) ≤ (k : Int)) = true := by simp
          have hsh := fun W => shl_run k (by omega) W
          have hpk : 2 ^ k ≤ 2 ^ 31 := Nat.pow_le_pow_right (by decide) (by omega)
          obtain ⟨P, hP⟩ : ∃ P, P = 2 ^ k := ⟨_, rfl⟩
          have hqP : q + P < 4294967296 := by
            have h1 := Nat.div_add_mod p (2 ^ (k + 1))
            have h2 : q % 2 ^ (k + 1) = 0 := by rw [Hq.out]; exact Nat.mul_mod_left _ _
            have h3 : q / 2 ^ (k + 1) < 2 ^ (31 - k) := by
              rw [Nat.div_lt_iff_lt_mul (Nat.two_pow_pos _), ← Nat.pow_add, show 31 - k + (k + 1) = 32 by omega]; omega
            have h4 := Nat.mul_le_mul_right (2 ^ (k + 1)) h3
            rw [← Nat.pow_add, show 31 - k + (k + 1) = 32 by omega, Nat.succ_mul, Nat.div_mul_cancel (Nat.dvd_of_mod_eq_zero h2)] at h4
            rw [hP]
            have h5 : 2 ^ (k + 1) = 2 * 2 ^ k := by rw [Nat.pow_succ, Nat.mul_comm]
            have h6 := Nat.two_pow_pos k
            omega
          have hle := HLe.out (q + P) hqP
          rw [← hP] at hsh
          have HQ2 := Lib.hid (show (if q + P ≤ p then q + P else q) = p / 2 ^ k * 2 ^ k from by
            have h5 : 2 ^ (k + 1) = 2 * 2 ^ k := by rw [Nat.pow_succ, Nat.mul_comm]
            have hq := Hq.out
            have h6 := Nat.two_pow_pos k
            rw [h5, ← Nat.div_div_eq_div_mul_comm_ p] at hq
            exact halve_ hP h6 hq)
          have e12 : IntKind.u64.wrap ((2 : Int) ^ k) = (P : Int) := by
            rw [IntKind.wrap_u64, hP]
            have : ((2 : Int) ^ k) = ((2 ^ k : Nat) : Int) := by simp
            rw [this]
            generalize 2 ^ k = A at *
            omega
          obtain ⟨Y, hY⟩ : ∃ Y, Y = m * 4294967296 + (q + P) := ⟨_, rfl⟩
          have hYl : Y < 18446744073709551616 := by omega
          rw [← hY] at hle
          generalize hT : m * 4294967296 + q = T at *
          have e13 : IntKind.u64.wrap ((T : Int) + (P : Int)) = (Y : Int) := by rw [IntKind.wrap_u64]; omega
          have HY := Lib.hid hY
          have HT := Lib.hid hT
          clear hP hpk hz h0 hY hT hsh
          go_wp2_with fail
          refine (HPr.out Y hYl _).mono ?_
          rintro e w4 ⟨rfl, b4⟩
          have HB4 := Lib.hid (HB.out.trans (b4.mono HB.out.size))
          clear b4
          by_cases hb : q + P ≤ p
          · rw [decide_eq_true hb] at hle
            have hq2 := HQ2.out
            rw [if_pos hb] at hq2
            have HQ3 := Lib.hid hq2
            clear hq2 hb
            go_wp2_with fail
            try any_goals (rename_i hh; exfalso; rcases Hb.out with h | h <;> simp [h] at hh; done)
            go_roundw
            case rel => exact ⟨k, q + P, (k : Int) - 1, by omega, rfl, rfl, by rw [← HY.out], HQ3, HB4⟩
            case measure => first | (simp [intOf]; done) | (simp [intOf]; omega)
          · rw [decide_eq_false hb] at hle
            have hq2 := HQ2.out
            rw [if_neg hb] at hq2
            have HQ3 := Lib.hid hq2
            clear hq2 hb
            go_wp2_with fail
            try any_goals (rename_i hh; exfalso; simp [Hb.out.1, Hb.out.2] at hh; done)
            go_roundw
            case rel => exact ⟨k, q, (k : Int) - 1, by omega, rfl, rfl, by rw [HT.out], HQ3, HB4⟩
            case measure => first | (simp [intOf]; done) | (simp [intOf]; omega)
end Go.Proofs.YtddjgjaifflpeaaDoor
