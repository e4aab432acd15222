/- the document's Parse of a text that is no time's. -/
import Derived.Test.YtddjgjaifflpeaaDoorS5
namespace Go.Proofs.YtddjgjaifflpeaaDoor
open Go.RowKit
set_option linter.unusedVariables false
set_option linter.unusedSimpArgs false
set_option maxRecDepth 100000
set_option maxHeartbeats 8000000 in
theorem rparse_miss (s : ByteArray) (hl : s.size ≤ 100) (hno : ∀ t, t < 18446744073709551616 → s ≠ bstr (printed t)) (w : World) : Calls Tryd.prog 32 #[.string s] w fun e w' => e = none_ ∧ Below w.heap.size w w' := by
  obtain ⟨X, hX⟩ : ∃ X, sb s = X := ⟨_, rfl⟩
  have hXl : X.length = s.size := by rw [← hX, length_sb]
  have HPr := Lib.hid (fun t (ht : t < 18446744073709551616) w => rprint_any t ht w)
  have HIdx := Lib.hid (fun j (hj : j < s.size) W => by have := idx_run s j hj W; rwa [hX] at this)
  have HXl := Lib.hid hXl
  have HNo := Lib.hid hno
  clear hno hXl hX
  go_enter Tryd.func32, Tryd.ntmps32
  go_wp2_with fail
  go_loopw [4, 5] (fun n i wr => ∃ (j m : Nat), j ≤ s.size ∧ j ≤ 10 ∧ i = .int .i64 (j : Int) ∧ n = .int .u64 (m : Int) ∧ Hid (m = rd (X.take j)) ∧ Hid (∀ k, k < j → 48 ≤ X.getD k 0 ∧ X.getD k 0 ≤ 57) ∧ w = wr) (fun _ i _ => 10 - (intOf i).toNat)
  case atStart => exact ⟨0, 0, Nat.zero_le _, Nat.zero_le _, rfl, rfl, Lib.hid rfl, Lib.hid (fun k hk => absurd hk (Nat.not_lt_zero k)), rfl⟩
  case round =>
    obtain ⟨j, m, hjs, hj10, rfl, rfl, Hm, HD, rfl⟩ := hrel
    have hm10 : m < 10000000000 := by
      have h1 := rd_lt j X HD.out (by rw [HXl.out]; exact hjs)
      have h2 : 10 ^ j ≤ 10 ^ 10 := Nat.pow_le_pow_right (by decide) hj10
      rw [← Hm.out] at h1
      omega
    by_cases hc : j < s.size ∧ j < 10 ∧ 48 ≤ X.getD j 0 ∧ X.getD j 0 ≤ 57
    · obtain ⟨c1, c2, c3, c4⟩ := hc
      have hx := fun W => HIdx.out j c1 W
      have HR := Lib.hid (show 10 * m + (X.getD j 0 - 48) = rd (X.take (j + 1)) by rw [rd_take (by rw [HXl.out]; exact c1), ← Hm.out])
      have HD2 := Lib.hid (show ∀ k, k < j + 1 → 48 ≤ X.getD k 0 ∧ X.getD k 0 ≤ 57 from fun k hk => by
        rcases Nat.lt_or_ge k j with g | g
        · exact HD.out k g
        · rw [show k = j by omega]; exact ⟨c3, c4⟩)
      obtain ⟨x, hxx⟩ : ∃ x, X.getD j 0 = x := ⟨_, rfl⟩
      rw [hxx] at hx c3 c4 HR
      have d1 : decide ((j : Int) < (s.size : Int)) = true := by simp; omega
      have d2 : decide ((j : Int) < 10) = true := by simp; omega
      have d3 : decide ((48 : Int) ≤ (x : Int)) = true := by simp; omega
      have d4 : decide ((x : Int) ≤ 57) = true := by simp; omega
      have e9 : 10 * (m : Int) + (x : Int) - 48 = ((10 * m + (x - 48) : Nat) : Int) := by omega
      clear hxx
      go_wp2_with fail
      go_roundw
      case rel => exact ⟨j + 1, 10 * m + (x - 48), c1, c2, by simp, by first | rfl | (rw [e9]) | (simp; omega), HR, HD2, by first | trivial | rfl⟩
      case measure => simp [intOf]; omega
    have HC := Lib.hid hc
    by_cases c1 : j < s.size
    · have d1 : decide ((j : Int) < (s.size : Int)) = true := by simp; omega
      by_cases c2 : j < 10
      · have d2 : decide ((j : Int) < 10) = true := by simp; omega
        have hx := fun W => HIdx.out j c1 W
        obtain ⟨x, hxx⟩ : ∃ x, X.getD j 0 = x := ⟨_, rfl⟩
        rw [hxx] at hx hc
        by_cases c3 : 48 ≤ x
        · have d3 : decide ((48 : Int) ≤ (x : Int)) = true := by simp; omega
          have d4 : ((x : Int) ≤ 57) = False := by simp only [eq_iff_iff, iff_false]; omega
          clear hc hxx
          by_cases f1 : 4294967295 < m
          · have d5 : decide ((4294967295 : Int) < (m : Int)) = true := by simp; omega
            clear f1
            go_wp2_with fail
            go_ret2
            exact ⟨rfl, Below.refl _ _⟩
          have f1' : ((4294967295 : Int) < (m : Int)) = False := by simp only [eq_iff_iff, iff_false]; omega
          by_cases f2 : 21 < s.size
          · have d6 : decide ((21 : Int) < (s.size : Int)) = true := by simp; omega
            go_wp2_with fail
            go_ret2
            exact ⟨rfl, Below.refl _ _⟩
          have f2' : ((21 : Int) < (s.size : Int)) = False := by simp only [eq_iff_iff, iff_false]; omega
          have lS : m < 4294967296 := by omega
          have HE0 := Lib.hid (show (m : Int) * 4294967296 = ((m * 4294967296 : Nat) : Int) by omega)
          clear f1
          go_wp2_with fail
          rw [HE0.out]
          refine (HPr.out (m * 4294967296) (by omega) _).mono ?_
          rintro e w2 ⟨rfl, b2⟩
          have HB2 := Lib.hid b2
          clear b2
          by_cases f3 : (bstr (printed (m * 4294967296))).size = s.size
          case neg =>
            have hne : (((bstr (printed (m * 4294967296))).size : Int) = (s.size : Int)) = False := by simp only [eq_iff_iff, iff_false]; omega
            have hne2 : (((bstr (printed (m * 4294967296))).size : Int) != (s.size : Int)) = true := by simpa using hne
            clear f3
            go_wp2_with fail
            go_ret2
            exact ⟨rfl, HB2.out⟩
          have hsz : ((bstr (printed (m * 4294967296))).size : Int) = (s.size : Int) := by omega
          clear f3
          go_wp2_with fail
          go_loopw [6, 8] (fun tt kk wr => ∃ (c q : Nat) (z : Int), c ≤ 32 ∧ z = (c : Int) - 1 ∧ kk = .int .i64 z ∧ tt = .int .u64 ((m * 4294967296 + q : Nat) : Int) ∧ Hid (q + 2 ^ c ≤ 4294967296) ∧ Hid (Below w.heap.size w wr)) (fun _ kk _ => ((intOf kk) + 1).toNat)
          case atStart => exact ⟨32, 0, 31, Nat.le_refl _, rfl, rfl, by simp, Lib.hid (by omega), HB2⟩
          case round =>
            obtain ⟨c, q, z, hc32, hz, rfl, rfl, Hq, HB⟩ := hrel
            by_cases h0 : c = 0
            · have dz : (0 ≤ z) = False := by simp only [eq_iff_iff, iff_false]; omega
              have hq0 : q < 4294967296 := by have := Hq.out; rw [h0] at this; omega
              clear h0 hz
              generalize hT : m * 4294967296 + q = T at *
              have hTl : T < 18446744073709551616 := by omega
              clear hT
              go_wp2_with fail
              refine (HPr.out T hTl _).mono ?_
              rintro e w4 ⟨rfl, b4⟩
              have hn : ((bstr (printed T)).toList == s.toList) = false := by
                rw [eq_str, decide_eq_false (fun e => HNo.out _ hTl e.symm)]
              have HB4 := Lib.hid (HB.out.trans (b4.mono HB.out.size))
              clear b4
              generalize bstr (printed T) = A at *
              have hn2 : (A.toList != s.toList) = true := by simpa using hn
              go_wp2_with fail
              go_ret2
              exact ⟨rfl, HB4.out⟩
            · obtain ⟨k, rfl⟩ : ∃ k, c = k + 1 := ⟨c - 1, by omega⟩
              obtain rfl : z = (k : Int) := by omega
              have dz : decide ((0 : Int) ≤ (k : Int)) = true := by simp
              have hpk : 2 ^ k ≤ 2 ^ 31 := Nat.pow_le_pow_right (by decide) (by omega)
              obtain ⟨P, hP⟩ : ∃ P, P = 2 ^ k := ⟨_, rfl⟩
              have hqP : q + P + P ≤ 4294967296 := by
                have h4 := Hq.out
                rw [Nat.pow_succ, ← hP] at h4
                omega
              have hP0 : 0 < P := by rw [hP]; exact Nat.two_pow_pos k
              have e12 : IntKind.u64.wrap ((2 : Int) ^ k) = (P : Int) := by
                rw [IntKind.wrap_u64, hP]
                have : ((2 : Int) ^ k) = ((2 ^ k : Nat) : Int) := by simp
                rw [this]
                generalize 2 ^ k = A at *
                omega
              have HQ1 := Lib.hid (show q + P + 2 ^ k ≤ 4294967296 by rw [← hP]; exact hqP)
              have HQ2 := Lib.hid (show q + 2 ^ k ≤ 4294967296 by rw [← hP]; omega)
              obtain ⟨Y, hY⟩ : ∃ Y, Y = m * 4294967296 + (q + P) := ⟨_, rfl⟩
              have hYl : Y < 18446744073709551616 := by omega
              generalize hT : m * 4294967296 + q = T at *
              have e13 : IntKind.u64.wrap ((T : Int) + (P : Int)) = (Y : Int) := by rw [IntKind.wrap_u64]; omega
              have HY := Lib.hid hY
              have HT := Lib.hid hT
              clear hP hpk hz h0 hY hT hP0
              go_wp2_with fail
              refine (HPr.out Y hYl _).mono ?_
              rintro e w4 ⟨rfl, b4⟩
              have HB4 := Lib.hid (HB.out.trans (b4.mono HB.out.size))
              clear b4
              cases hle : (Op.bytesLess (bstr (printed Y)).toList s.toList || (bstr (printed Y)).toList == s.toList) with
              | true =>
                rw [Bool.or_eq_true] at hle
                have Hb := Lib.hid hle
                go_wp2_with fail
                try any_goals (rename_i hh; exfalso; rcases Hb.out with h | h <;> simp [h] at hh; done)
                go_roundw
                case rel => exact ⟨k, q + P, (k : Int) - 1, by omega, rfl, rfl, by rw [← HY.out], HQ1, HB4⟩
                case measure => first | (simp [intOf]; done) | (simp [intOf]; omega)
              | false =>
                rw [Bool.or_eq_false_iff] at hle
                have Hb := Lib.hid hle
                go_wp2_with fail
                try any_goals (rename_i hh; exfalso; simp [Hb.out.1, Hb.out.2] at hh; done)
                go_roundw
                case rel => exact ⟨k, q, (k : Int) - 1, by omega, rfl, rfl, by rw [HT.out], HQ2, HB4⟩
                case measure => first | (simp [intOf]; done) | (simp [intOf]; omega)
        · have d3 : ((48 : Int) ≤ (x : Int)) = False := by simp only [eq_iff_iff, iff_false]; omega
          clear hc hxx
          by_cases f1 : 4294967295 < m
          · have d5 : decide ((4294967295 : Int) < (m : Int)) = true := by simp; omega
            clear f1
            go_wp2_with fail
            go_ret2
            exact ⟨rfl, Below.refl _ _⟩
          have f1' : ((4294967295 : Int) < (m : Int)) = False := by simp only [eq_iff_iff, iff_false]; omega
          by_cases f2 : 21 < s.size
          · have d6 : decide ((21 : Int) < (s.size : Int)) = true := by simp; omega
            go_wp2_with fail
            go_ret2
            exact ⟨rfl, Below.refl _ _⟩
          have f2' : ((21 : Int) < (s.size : Int)) = False := by simp only [eq_iff_iff, iff_false]; omega
          have lS : m < 4294967296 := by omega
          have HE0 := Lib.hid (show (m : Int) * 4294967296 = ((m * 4294967296 : Nat) : Int) by omega)
          clear f1
          go_wp2_with fail
          rw [HE0.out]
          refine (HPr.out (m * 4294967296) (by omega) _).mono ?_
          rintro e w2 ⟨rfl, b2⟩
          have HB2 := Lib.hid b2
          clear b2
          by_cases f3 : (bstr (printed (m * 4294967296))).size = s.size
          case neg =>
            have hne : (((bstr (printed (m * 4294967296))).size : Int) = (s.size : Int)) = False := by simp only [eq_iff_iff, iff_false]; omega
            have hne2 : (((bstr (printed (m * 4294967296))).size : Int) != (s.size : Int)) = true := by simpa using hne
            clear f3
            go_wp2_with fail
            go_ret2
            exact ⟨rfl, HB2.out⟩
          have hsz : ((bstr (printed (m * 4294967296))).size : Int) = (s.size : Int) := by omega
          clear f3
          go_wp2_with fail
          go_loopw [6, 8] (fun tt kk wr => ∃ (c q : Nat) (z : Int), c ≤ 32 ∧ z = (c : Int) - 1 ∧ kk = .int .i64 z ∧ tt = .int .u64 ((m * 4294967296 + q : Nat) : Int) ∧ Hid (q + 2 ^ c ≤ 4294967296) ∧ Hid (Below w.heap.size w wr)) (fun _ kk _ => ((intOf kk) + 1).toNat)
          case atStart => exact ⟨32, 0, 31, Nat.le_refl _, rfl, rfl, by simp, Lib.hid (by omega), HB2⟩
          case round =>
            obtain ⟨c, q, z, hc32, hz, rfl, rfl, Hq, HB⟩ := hrel
            by_cases h0 : c = 0
            · have dz : (0 ≤ z) = False := by simp only [eq_iff_iff, iff_false]; omega
              have hq0 : q < 4294967296 := by have := Hq.out; rw [h0] at this; omega
              clear h0 hz
              generalize hT : m * 4294967296 + q = T at *
              have hTl : T < 18446744073709551616 := by omega
              clear hT
              go_wp2_with fail
              refine (HPr.out T hTl _).mono ?_
              rintro e w4 ⟨rfl, b4⟩
              have hn : ((bstr (printed T)).toList == s.toList) = false := by
                rw [eq_str, decide_eq_false (fun e => HNo.out _ hTl e.symm)]
              have HB4 := Lib.hid (HB.out.trans (b4.mono HB.out.size))
              clear b4
              generalize bstr (printed T) = A at *
              have hn2 : (A.toList != s.toList) = true := by simpa using hn
              go_wp2_with fail
              go_ret2
              exact ⟨rfl, HB4.out⟩
            · obtain ⟨k, rfl⟩ : ∃ k, c = k + 1 := ⟨c - 1, by omega⟩
              obtain rfl : z = (k : Int) := by omega
              have dz : decide ((0 : Int) ≤ (k : Int)) = true := by simp
              have hpk : 2 ^ k ≤ 2 ^ 31 := Nat.pow_le_pow_right (by decide) (by omega)
              obtain ⟨P, hP⟩ : ∃ P, P = 2 ^ k := ⟨_, rfl⟩
              have hqP : q + P + P ≤ 4294967296 := by
                have h4 := Hq.out
                rw [Nat.pow_succ, ← hP] at h4
                omega
              have hP0 : 0 < P := by rw [hP]; exact Nat.two_pow_pos k
              have e12 : IntKind.u64.wrap ((2 : Int) ^ k) = (P : Int) := by
                rw [IntKind.wrap_u64, hP]
                have : ((2 : Int) ^ k) = ((2 ^ k : Nat) : Int) := by simp
                rw [this]
                generalize 2 ^ k = A at *
                omega
              have HQ1 := Lib.hid (show q + P + 2 ^ k ≤ 4294967296 by rw [← hP]; exact hqP)
              have HQ2 := Lib.hid (show q + 2 ^ k ≤ 4294967296 by rw [← hP]; omega)
              obtain ⟨Y, hY⟩ : ∃ Y, Y = m * 4294967296 + (q + P) := ⟨_, rfl⟩
              have hYl : Y < 18446744073709551616 := by omega
              generalize hT : m * 4294967296 + q = T at *
              have e13 : IntKind.u64.wrap ((T : Int) + (P : Int)) = (Y : Int) := by rw [IntKind.wrap_u64]; omega
              have HY := Lib.hid hY
              have HT := Lib.hid hT
              clear hP hpk hz h0 hY hT hP0
              go_wp2_with fail
              refine (HPr.out Y hYl _).mono ?_
              rintro e w4 ⟨rfl, b4⟩
              have HB4 := Lib.hid (HB.out.trans (b4.mono HB.out.size))
              clear b4
              cases hle : (Op.bytesLess (bstr (printed Y)).toList s.toList || (bstr (printed Y)).toList == s.toList) with
              | true =>
                rw [Bool.or_eq_true] at hle
                have Hb := Lib.hid hle
                go_wp2_with fail
                try any_goals (rename_i hh; exfalso; rcases Hb.out with h | h <;> simp [h] at hh; done)
                go_roundw
                case rel => exact ⟨k, q + P, (k : Int) - 1, by omega, rfl, rfl, by rw [← HY.out], HQ1, HB4⟩
                case measure => first | (simp [intOf]; done) | (simp [intOf]; omega)
              | false =>
                rw [Bool.or_eq_false_iff] at hle
                have Hb := Lib.hid hle
                go_wp2_with fail
                try any_goals (rename_i hh; exfalso; simp [Hb.out.1, Hb.out.2] at hh; done)
                go_roundw
                case rel => exact ⟨k, q, (k : Int) - 1, by omega, rfl, rfl, by rw [HT.out], HQ2, HB4⟩
                case measure => first | (simp [intOf]; done) | (simp [intOf]; omega)
      · have d2 : ((j : Int) < 10) = False := by simp only [eq_iff_iff, iff_false]; omega
        clear hc
        by_cases f1 : 4294967295 < m
        · have d5 : decide ((4294967295 : Int) < (m : Int)) = true := by simp; omega
          clear f1
          go_wp2_with fail
          go_ret2
          exact ⟨rfl, Below.refl _ _⟩
        have f1' : ((4294967295 : Int) < (m : Int)) = False := by simp only [eq_iff_iff, iff_false]; omega
        by_cases f2 : 21 < s.size
        · have d6 : decide ((21 : Int) < (s.size : Int)) = true := by simp; omega
          go_wp2_with fail
          go_ret2
          exact ⟨rfl, Below.refl _ _⟩
        have f2' : ((21 : Int) < (s.size : Int)) = False := by simp only [eq_iff_iff, iff_false]; omega
        have lS : m < 4294967296 := by omega
        have HE0 := Lib.hid (show (m : Int) * 4294967296 = ((m * 4294967296 : Nat) : Int) by omega)
        clear f1
        go_wp2_with fail
        rw [HE0.out]
        refine (HPr.out (m * 4294967296) (by omega) _).mono ?_
        rintro e w2 ⟨rfl, b2⟩
        have HB2 := Lib.hid b2
        clear b2
        by_cases f3 : (bstr (printed (m * 4294967296))).size = s.size
        case neg =>
          have hne : (((bstr (printed (m * 4294967296))).size : Int) = (s.size : Int)) = False := by simp only [eq_iff_iff, iff_false]; omega
          have hne2 : (((bstr (printed (m * 4294967296))).size : Int) != (s.size : Int)) = true := by simpa using hne
          clear f3
          go_wp2_with fail
          go_ret2
          exact ⟨rfl, HB2.out⟩
        have hsz : ((bstr (printed (m * 4294967296))).size : Int) = (s.size : Int) := by omega
        clear f3
        go_wp2_with fail
        go_loopw [6, 8] (fun tt kk wr => ∃ (c q : Nat) (z : Int), c ≤ 32 ∧ z = (c : Int) - 1 ∧ kk = .int .i64 z ∧ tt = .int .u64 ((m * 4294967296 + q : Nat) : Int) ∧ Hid (q + 2 ^ c ≤ 4294967296) ∧ Hid (Below w.heap.size w wr)) (fun _ kk _ => ((intOf kk) + 1).toNat)
        case atStart => exact ⟨32, 0, 31, Nat.le_refl _, rfl, rfl, by simp, Lib.hid (by omega), HB2⟩
        case round =>
          obtain ⟨c, q, z, hc32, hz, rfl, rfl, Hq, HB⟩ := hrel
          by_cases h0 : c = 0
          · have dz : (0 ≤ z) = False := by simp only [eq_iff_iff, iff_false]; omega
            have hq0 : q < 4294967296 := by have := Hq.out; rw [h0] at this; omega
            clear h0 hz
            generalize hT : m * 4294967296 + q = T at *
            have hTl : T < 18446744073709551616 := by omega
            clear hT
            go_wp2_with fail
            refine (HPr.out T hTl _).mono ?_
            rintro e w4 ⟨rfl, b4⟩
            have hn : ((bstr (printed T)).toList == s.toList) = false := by
              rw [eq_str, decide_eq_false (fun e => HNo.out _ hTl e.symm)]
            have HB4 := Lib.hid (HB.out.trans (b4.mono HB.out.size))
            clear b4
            generalize bstr (printed T) = A at *
            have hn2 : (A.toList != s.toList) = true := by simpa using hn
            go_wp2_with fail
            go_ret2
            exact ⟨rfl, HB4.out⟩
          · obtain ⟨k, rfl⟩ : ∃ k, c = k + 1 := ⟨c - 1, by omega⟩
            obtain rfl : z = (k : Int) := by omega
            have dz : decide ((0 : Int) ≤ (k : Int)) = true := by simp
            have hpk : 2 ^ k ≤ 2 ^ 31 := Nat.pow_le_pow_right (by decide) (by omega)
            obtain ⟨P, hP⟩ : ∃ P, P = 2 ^ k := ⟨_, rfl⟩
            have hqP : q + P + P ≤ 4294967296 := by
              have h4 := Hq.out
              rw [Nat.pow_succ, ← hP] at h4
              omega
            have hP0 : 0 < P := by rw [hP]; exact Nat.two_pow_pos k
            have e12 : IntKind.u64.wrap ((2 : Int) ^ k) = (P : Int) := by
              rw [IntKind.wrap_u64, hP]
              have : ((2 : Int) ^ k) = ((2 ^ k : Nat) : Int) := by simp
              rw [this]
              generalize 2 ^ k = A at *
              omega
            have HQ1 := Lib.hid (show q + P + 2 ^ k ≤ 4294967296 by rw [← hP]; exact hqP)
            have HQ2 := Lib.hid (show q + 2 ^ k ≤ 4294967296 by rw [← hP]; omega)
            obtain ⟨Y, hY⟩ : ∃ Y, Y = m * 4294967296 + (q + P) := ⟨_, rfl⟩
            have hYl : Y < 18446744073709551616 := by omega
            generalize hT : m * 4294967296 + q = T at *
            have e13 : IntKind.u64.wrap ((T : Int) + (P : Int)) = (Y : Int) := by rw [IntKind.wrap_u64]; omega
            have HY := Lib.hid hY
            have HT := Lib.hid hT
            clear hP hpk hz h0 hY hT hP0
            go_wp2_with fail
            refine (HPr.out Y hYl _).mono ?_
            rintro e w4 ⟨rfl, b4⟩
            have HB4 := Lib.hid (HB.out.trans (b4.mono HB.out.size))
            clear b4
            cases hle : (Op.bytesLess (bstr (printed Y)).toList s.toList || (bstr (printed Y)).toList == s.toList) with
            | true =>
              rw [Bool.or_eq_true] at hle
              have Hb := Lib.hid hle
              go_wp2_with fail
              try any_goals (rename_i hh; exfalso; rcases Hb.out with h | h <;> simp [h] at hh; done)
              go_roundw
              case rel => exact ⟨k, q + P, (k : Int) - 1, by omega, rfl, rfl, by rw [← HY.out], HQ1, HB4⟩
              case measure => first | (simp [intOf]; done) | (simp [intOf]; omega)
            | false =>
              rw [Bool.or_eq_false_iff] at hle
              have Hb := Lib.hid hle
              go_wp2_with fail
              try any_goals (rename_i hh; exfalso; simp [Hb.out.1, Hb.out.2] at hh; done)
              go_roundw
              case rel => exact ⟨k, q, (k : Int) - 1, by omega, rfl, rfl, by rw [HT.out], HQ2, HB4⟩
              case measure => first | (simp [intOf]; done) | (simp [intOf]; omega)
    · have d1 : ((j : Int) < (s.size : Int)) = False := by simp only [eq_iff_iff, iff_false]; omega
      clear hc
      by_cases f1 : 4294967295 < m
      · have d5 : decide ((4294967295 : Int) < (m : Int)) = true := by simp; omega
        clear f1
        go_wp2_with fail
        go_ret2
        exact ⟨rfl, Below.refl _ _⟩
      have f1' : ((4294967295 : Int) < (m : Int)) = False := by simp only [eq_iff_iff, iff_false]; omega
      by_cases f2 : 21 < s.size
      · have d6 : decide ((21 : Int) < (s.size : Int)) = true := by simp; omega
        go_wp2_with fail
        go_ret2
        exact ⟨rfl, Below.refl _ _⟩
      have f2' : ((21 : Int) < (s.size : Int)) = False := by simp only [eq_iff_iff, iff_false]; omega
      have lS : m < 4294967296 := by omega
      have HE0 := Lib.hid (show (m : Int) * 4294967296 = ((m * 4294967296 : Nat) : Int) by omega)
      clear f1
      go_wp2_with fail
      rw [HE0.out]
      refine (HPr.out (m * 4294967296) (by omega) _).mono ?_
      rintro e w2 ⟨rfl, b2⟩
      have HB2 := Lib.hid b2
      clear b2
      by_cases f3 : (bstr (printed (m * 4294967296))).size = s.size
      case neg =>
        have hne : (((bstr (printed (m * 4294967296))).size : Int) = (s.size : Int)) = False := by simp only [eq_iff_iff, iff_false]; omega
        have hne2 : (((bstr (printed (m * 4294967296))).size : Int) != (s.size : Int)) = true := by simpa using hne
        clear f3
        go_wp2_with fail
        go_ret2
        exact ⟨rfl, HB2.out⟩
      have hsz : ((bstr (printed (m * 4294967296))).size : Int) = (s.size : Int) := by omega
      clear f3
      go_wp2_with fail
      go_loopw [6, 8] (fun tt kk wr => ∃ (c q : Nat) (z : Int), c ≤ 32 ∧ z = (c : Int) - 1 ∧ kk = .int .i64 z ∧ tt = .int .u64 ((m * 4294967296 + q : Nat) : Int) ∧ Hid (q + 2 ^ c ≤ 4294967296) ∧ Hid (Below w.heap.size w wr)) (fun _ kk _ => ((intOf kk) + 1).toNat)
      case atStart => exact ⟨32, 0, 31, Nat.le_refl _, rfl, rfl, by simp, Lib.hid (by omega), HB2⟩
      case round =>
        obtain ⟨c, q, z, hc32, hz, rfl, rfl, Hq, HB⟩ := hrel
        by_cases h0 : c = 0
        · have dz : (0 ≤ z) = False := by simp only [eq_iff_iff, iff_false]; omega
          have hq0 : q < 4294967296 := by have := Hq.out; rw [h0] at this; omega
          clear h0 hz
          generalize hT : m * 4294967296 + q = T at *
          have hTl : T < 18446744073709551616 := by omega
          clear hT
          go_wp2_with fail
          refine (HPr.out T hTl _).mono ?_
          rintro e w4 ⟨rfl, b4⟩
          have hn : ((bstr (printed T)).toList == s.toList) = false := by
            rw [eq_str, decide_eq_false (fun e => HNo.out _ hTl e.symm)]
          have HB4 := Lib.hid (HB.out.trans (b4.mono HB.out.size))
          clear b4
          generalize bstr (printed T) = A at *
          have hn2 : (A.toList != s.toList) = true := by simpa using hn
          go_wp2_with fail
          go_ret2
          exact ⟨rfl, HB4.out⟩
        · obtain ⟨k, rfl⟩ : ∃ k, c = k + 1 := ⟨c - 1, by omega⟩
          obtain rfl : z = (k : Int) := by omega
          have dz : decide ((0 : Int) ≤ (k : Int)) = true := by simp
          have hpk : 2 ^ k ≤ 2 ^ 31 := Nat.pow_le_pow_right (by decide) (by omega)
          obtain ⟨P, hP⟩ : ∃ P, P = 2 ^ k := ⟨_, rfl⟩
          have hqP : q + P + P ≤ 4294967296 := by
            have h4 := Hq.out
            rw [Nat.pow_succ, ← hP] at h4
            omega
          have hP0 : 0 < P := by rw [hP]; exact Nat.two_pow_pos k
          have e12 : IntKind.u64.wrap ((2 : Int) ^ k) = (P : Int) := by
            rw [IntKind.wrap_u64, hP]
            have : ((2 : Int) ^ k) = ((2 ^ k : Nat) : Int) := by simp
            rw [this]
            generalize 2 ^ k = A at *
            omega
          have HQ1 := Lib.hid (show q + P + 2 ^ k ≤ 4294967296 by rw [← hP]; exact hqP)
          have HQ2 := Lib.hid (show q + 2 ^ k ≤ 4294967296 by rw [← hP]; omega)
          obtain ⟨Y, hY⟩ : ∃ Y, Y = m * 4294967296 + (q + P) := ⟨_, rfl⟩
          have hYl : Y < 18446744073709551616 := by omega
          generalize hT : m * 4294967296 + q = T at *
          have e13 : IntKind.u64.wrap ((T : Int) + (P : Int)) = (Y : Int) := by rw [IntKind.wrap_u64]; omega
          have HY := Lib.hid hY
          have HT := Lib.hid hT
          clear hP hpk hz h0 hY hT hP0
          go_wp2_with fail
          refine (HPr.out Y hYl _).mono ?_
          rintro e w4 ⟨rfl, b4⟩
          have HB4 := Lib.hid (HB.out.trans (b4.mono HB.out.size))
          clear b4
          cases hle : (Op.bytesLess (bstr (printed Y)).toList s.toList || (bstr (printed Y)).toList == s.toList) with
          | true =>
            rw [Bool.or_eq_true] at hle
            have Hb := Lib.hid hle
            go_wp2_with fail
            try any_goals (rename_i hh; exfalso; rcases Hb.out with h | h <;> simp [h] at hh; done)
            go_roundw
            case rel => exact ⟨k, q + P, (k : Int) - 1, by omega, rfl, rfl, by rw [← HY.out], HQ1, HB4⟩
            case measure => first | (simp [intOf]; done) | (simp [intOf]; omega)
          | false =>
            rw [Bool.or_eq_false_iff] at hle
            have Hb := Lib.hid hle
            go_wp2_with fail
            try any_goals (rename_i hh; exfalso; simp [Hb.out.1, Hb.out.2] at hh; done)
            go_roundw
            case rel => exact ⟨k, q, (k : Int) - 1, by omega, rfl, rfl, by rw [HT.out], HQ2, HB4⟩
            case measure => first | (simp [intOf]; done) | (simp [intOf]; omega)
end Go.Proofs.YtddjgjaifflpeaaDoor
