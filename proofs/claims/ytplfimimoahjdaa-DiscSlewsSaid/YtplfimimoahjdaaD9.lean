/- disc: the document's own Slew. -/
import Derived.Test.YtplfimimoahjdaaD8
namespace Go.Proofs.Ytplfimimoahjdaa
open Go.RowKit
set_option linter.unusedVariables false
set_option linter.unusedSimpArgs false
set_option maxRecDepth 100000
theorem wo_in {x b : Int} (hx : in64 x) (hb : 0 ≤ b) (hb2 : b ≤ 1152921504606846976) : inB b x ↔ wo x ≤ b := by
  unfold in64 at hx
  unfold inB wo
  split
  · omega
  · split <;> omega
theorem rmay_iff {c : Ck} (hc : c.ok) : c.may ↔ wo c.f ≤ 2147483 ∧ wo c.l ≤ 1152921504606846976 ∧ wo c.a ≤ 1152921504606846976 ∧ 0 ≤ c.p ∧ c.p ≤ 17 := by
  unfold Ck.may
  rw [wo_in hc.1 (by omega) (by omega), wo_in hc.2.1 (by omega) (by omega), wo_in hc.2.2.1 (by omega) (by omega)]
set_option maxHeartbeats 1000000 in
theorem rmay_any (c : Ck) (hc : c.ok) (w : World) :
    Calls Try.prog 15 #[.agg #[.int .i64 c.f, .int .i64 c.l, .int .i64 c.a, .int .i64 c.p, .bool c.s]] w fun e w' => e = .returned (.bool (decide c.may)) ∧ RowKit.Below w.heap.size w w' := by
  obtain ⟨w1, hw1⟩ : ∃ w1, w1 = w.alloc (.cells #[.int .i64 c.f, .int .i64 c.l, .int .i64 c.a, .int .i64 c.p, .bool c.s] 23) := ⟨_, rfl⟩
  obtain ⟨b1, x1, s1⟩ := one_new (c := c) hw1
  obtain ⟨c0, c1, c2, c3, c4⟩ := x1.cells
  have HW := Lib.hid hw1
  have HB := Lib.hid b1
  have HM := Lib.hid (rmay_iff hc)
  have H1 := Lib.hid (fun w => worth_any hc.1 w)
  have H2 := Lib.hid (fun w => worth_any hc.2.1 w)
  have H3 := Lib.hid (fun w => worth_any hc.2.2.1 w)
  obtain ⟨q, hq⟩ : ∃ q, q = decide c.may := ⟨_, rfl⟩
  rw [← hq]
  have HQ := Lib.hid hq
  obtain ⟨A, hA⟩ : ∃ A, A = wo c.f := ⟨_, rfl⟩
  obtain ⟨B, hB⟩ : ∃ B, B = wo c.l := ⟨_, rfl⟩
  obtain ⟨C, hC⟩ : ∃ C, C = wo c.a := ⟨_, rfl⟩
  rw [← hA] at H1 HM
  rw [← hB] at H2 HM
  rw [← hC] at H3 HM
  clear hw1 b1 x1 s1 hq hc hA hB hC
  go_enter Try.func15, Try.ntmps15
  go_upto_region 1 with fail
  rw [← HW.out]
  by_cases h1 : A ≤ 2147483
  · by_cases h2 : B ≤ 1152921504606846976
    · by_cases h3 : C ≤ 1152921504606846976
      · by_cases h4 : 0 ≤ c.p
        · by_cases h5 : c.p ≤ 17
          · obtain rfl : q = true := by rw [HQ.out]; exact decide_eq_true (HM.out.2 ⟨h1, h2, h3, h4, h5⟩)
            clear HQ HM
            go_wp2_with ((go_at_call 13; (first | (with_reducible refine (H1.out _).mono ?_) | (with_reducible refine (H2.out _).mono ?_) | (with_reducible refine (H3.out _).mono ?_)); rintro e w2 ⟨rfl, hw2⟩; subst w2))
            go_ret
            exact ⟨rfl, HB.out⟩
          · have h5' : (c.p ≤ 17) = False := by simp only [h5]
            obtain rfl : q = false := by rw [HQ.out]; exact decide_eq_false (fun x => by have := HM.out.1 x; omega)
            clear HQ HM
            go_wp2_with ((go_at_call 13; (first | (with_reducible refine (H1.out _).mono ?_) | (with_reducible refine (H2.out _).mono ?_) | (with_reducible refine (H3.out _).mono ?_)); rintro e w2 ⟨rfl, hw2⟩; subst w2))
            go_ret
            exact ⟨rfl, HB.out⟩
        · have h4' : (0 ≤ c.p) = False := by simp only [h4]
          obtain rfl : q = false := by rw [HQ.out]; exact decide_eq_false (fun x => by have := HM.out.1 x; omega)
          clear HQ HM
          go_wp2_with ((go_at_call 13; (first | (with_reducible refine (H1.out _).mono ?_) | (with_reducible refine (H2.out _).mono ?_) | (with_reducible refine (H3.out _).mono ?_)); rintro e w2 ⟨rfl, hw2⟩; subst w2))
          go_ret
          exact ⟨rfl, HB.out⟩
      · have h3' : (C ≤ 1152921504606846976) = False := by simp only [h3]
        obtain rfl : q = false := by rw [HQ.out]; exact decide_eq_false (fun x => by have := HM.out.1 x; omega)
        clear HQ HM
        go_wp2_with ((go_at_call 13; (first | (with_reducible refine (H1.out _).mono ?_) | (with_reducible refine (H2.out _).mono ?_) | (with_reducible refine (H3.out _).mono ?_)); rintro e w2 ⟨rfl, hw2⟩; subst w2))
        go_ret
        exact ⟨rfl, HB.out⟩
    · have h2' : (B ≤ 1152921504606846976) = False := by simp only [h2]
      obtain rfl : q = false := by rw [HQ.out]; exact decide_eq_false (fun x => by have := HM.out.1 x; omega)
      clear HQ HM
      go_wp2_with ((go_at_call 13; (first | (with_reducible refine (H1.out _).mono ?_) | (with_reducible refine (H2.out _).mono ?_) | (with_reducible refine (H3.out _).mono ?_)); rintro e w2 ⟨rfl, hw2⟩; subst w2))
      go_ret
      exact ⟨rfl, HB.out⟩
  · have h1' : (A ≤ 2147483) = False := by simp only [h1]
    obtain rfl : q = false := by rw [HQ.out]; exact decide_eq_false (fun x => by have := HM.out.1 x; omega)
    clear HQ HM
    go_wp2_with ((go_at_call 13; (first | (with_reducible refine (H1.out _).mono ?_) | (with_reducible refine (H2.out _).mono ?_) | (with_reducible refine (H3.out _).mono ?_)); rintro e w2 ⟨rfl, hw2⟩; subst w2))
    go_ret
    exact ⟨rfl, HB.out⟩
theorem rmay_yes {c : Ck} (hc : c.ok) (h : c.may) (w : World) : Calls Try.prog 15 #[.agg #[.int .i64 c.f, .int .i64 c.l, .int .i64 c.a, .int .i64 c.p, .bool c.s]] w fun e w' => e = .returned (.bool true) ∧ RowKit.Below w.heap.size w w' := by
  have := rmay_any c hc w
  rwa [decide_eq_true h] at this
theorem rmay_no {c : Ck} (hc : c.ok) (h : ¬ c.may) (w : World) : Calls Try.prog 15 #[.agg #[.int .i64 c.f, .int .i64 c.l, .int .i64 c.a, .int .i64 c.p, .bool c.s]] w fun e w' => e = .returned (.bool false) ∧ RowKit.Below w.heap.size w w' := by
  have := rmay_any c hc w
  rwa [decide_eq_false h] at this
set_option maxHeartbeats 1000000 in
theorem rslew_no {c : Ck} (hc : c.ok) {n : Int} (h : ¬ c.slewOk n) (w : World) :
    Calls Try.prog 10 #[.agg #[.int .i64 c.f, .int .i64 c.l, .int .i64 c.a, .int .i64 c.p, .bool c.s], .int .i64 n] w fun e w' => e = .returned (.tuple #[.agg #[.int .i64 0, .int .i64 0, .int .i64 0, .int .i64 0, .bool false], .int .i64 0, .int .i64 1]) ∧ RowKit.Below w.heap.size w w' := by
  obtain ⟨w1, hw1⟩ : ∃ w1, w1 = (w.alloc (.cells #[.int .i64 c.f, .int .i64 c.l, .int .i64 c.a, .int .i64 c.p, .bool c.s] 23)).alloc (.cells #[.int .i64 0, .int .i64 0, .int .i64 0, .int .i64 0, .bool false] 23) := ⟨_, rfl⟩
  obtain ⟨b1, x1, y1, s1⟩ := two_new hw1
  have HW := Lib.hid hw1
  have HB := Lib.hid b1
  have HX := Lib.hid x1
  have HY := Lib.hid y1
  have HS := Lib.hid s1
  have HN := Lib.hid h
  obtain ⟨c0, c1, c2, c3, c4⟩ := x1.cells
  clear hw1 b1 x1 y1 s1 h
  go_enter Try.func10, Try.ntmps10
  go_upto_region 1 with fail
  rw [← HW.out]
  by_cases hm : c.may
  · have HM := Lib.hid (fun w => rmay_yes hc hm w)
    by_cases h0 : n < 0
    · go_wp2_with fail
      refine (HM.out _).mono ?_
      rintro e w2 ⟨rfl, hb⟩
      have HB2 := Lib.hid (HB.out.trans (hb.mono (by have := HS.out; omega)))
      have HY2 := Lib.hid (HY.out.below hb (by have := HS.out; omega))
      clear hb c0 c1 c2 c3 c4
      obtain ⟨c0, c1, c2, c3, c4⟩ := HY2.out.cells
      have f0 := HY2.out.fr
      go_wp2_with fail
      exact bodyPost_ret ((HY2.out.put Ck.zero).ret3 rfl 0 1 _ rfl rfl rfl) rfl ⟨rfl, below_put5 HB2.out (by omega) Ck.zero⟩
    · have h0' : (n < 0) = False := by simp only [h0]
      have h1 : 4096 < n := by
        refine Classical.byContradiction fun h1 => HN.out ⟨hm, by omega, by omega⟩
      go_wp2_with fail
      refine (HM.out _).mono ?_
      rintro e w2 ⟨rfl, hb⟩
      have HB2 := Lib.hid (HB.out.trans (hb.mono (by have := HS.out; omega)))
      have HY2 := Lib.hid (HY.out.below hb (by have := HS.out; omega))
      clear hb c0 c1 c2 c3 c4
      obtain ⟨c0, c1, c2, c3, c4⟩ := HY2.out.cells
      have f0 := HY2.out.fr
      go_wp2_with fail
      exact bodyPost_ret ((HY2.out.put Ck.zero).ret3 rfl 0 1 _ rfl rfl rfl) rfl ⟨rfl, below_put5 HB2.out (by omega) Ck.zero⟩
  · have HM := Lib.hid (fun w => rmay_no hc hm w)
    go_wp2_with fail
    refine (HM.out _).mono ?_
    rintro e w2 ⟨rfl, hb⟩
    have HB2 := Lib.hid (HB.out.trans (hb.mono (by have := HS.out; omega)))
    have HY2 := Lib.hid (HY.out.below hb (by have := HS.out; omega))
    clear hb c0 c1 c2 c3 c4
    obtain ⟨c0, c1, c2, c3, c4⟩ := HY2.out.cells
    have f0 := HY2.out.fr
    go_wp2_with fail
    exact bodyPost_ret ((HY2.out.put Ck.zero).ret3 rfl 0 1 _ rfl rfl rfl) rfl ⟨rfl, below_put5 HB2.out (by omega) Ck.zero⟩
set_option maxHeartbeats 2000000 in
theorem rslew_p {c : Ck} (hc : c.ok) {n : Int} (h : c.slewOk n) (hs : 0 ≤ c.l) (w : World) :
    Calls Try.prog 10 #[.agg #[.int .i64 c.f, .int .i64 c.l, .int .i64 c.a, .int .i64 c.p, .bool c.s], .int .i64 n] w fun e w' => e = .returned (.tuple #[.agg #[.int .i64 c.f, .int .i64 (slL n.toNat c.l), .int .i64 c.a, .int .i64 c.p, .bool c.s], .int .i64 (c.l - slL n.toNat c.l + n * c.f), .int .i64 0]) ∧ RowKit.Below w.heap.size w w' := by
  obtain ⟨w1, hw1⟩ : ∃ w1, w1 = (w.alloc (.cells #[.int .i64 c.f, .int .i64 c.l, .int .i64 c.a, .int .i64 c.p, .bool c.s] 23)).alloc (.cells #[.int .i64 0, .int .i64 0, .int .i64 0, .int .i64 0, .bool false] 23) := ⟨_, rfl⟩
  obtain ⟨b1, x1, y1, s1⟩ := two_new hw1
  obtain ⟨hm, hn0, hn1⟩ := h
  have HW := Lib.hid hw1
  have HB := Lib.hid b1
  have HX := Lib.hid x1
  have HY := Lib.hid y1
  have HS := Lib.hid s1
  have HL := Lib.hid hm
  obtain ⟨u, hu⟩ : ∃ u, u = c.l := ⟨_, rfl⟩
  have hli := hm.2.1
  unfold inB at hli
  have HU := Lib.hid hu
  have huu : 0 ≤ u ∧ u ≤ 1152921504606846976 := by omega
  have H2 := Lib.hid (fun w => worth_any hc.2.1 w)
  rw [show wo c.l = u by unfold wo; split <;> (try split) <;> omega] at H2
  obtain ⟨c0, c1, c2, c3, c4⟩ := x1.cells
  clear hw1 b1 x1 y1 s1 hu
  go_enter Try.func10, Try.ntmps10
  go_upto_region 1 with fail
  rw [← HW.out]
  have HM := Lib.hid (fun w => rmay_yes hc hm w)
  clear hm hc
  have h0 : (n < 0) = False := by simp only [eq_iff_iff, iff_false]; omega
  have h1 : (4096 < n) = False := by simp only [eq_iff_iff, iff_false]; omega
  go_wp2_with fail
  refine (HM.out _).mono ?_
  rintro e w2 ⟨rfl, hb⟩
  have HB2 := Lib.hid (HB.out.trans (hb.mono (by have := HS.out; omega)))
  have HX2 := Lib.hid (HX.out.below hb (by have := HS.out; omega))
  have HY2 := Lib.hid (HY.out.below hb (by have := HS.out; omega))
  clear hb c0 c1 c2 c3 c4 h0 h1
  obtain ⟨c0, c1, c2, c3, c4⟩ := HX2.out.cells
  go_wp2_with ((go_at_call 13; (with_reducible refine (H2.out _).mono ?_); rintro e w9 ⟨rfl, hw9⟩; subst w9))
  go_loopw [7, 8, 9] (fun a m i wr => ∃ k : Nat, (k : Int) ≤ n ∧ i = .int .i64 (k : Int) ∧ a = .int .i64 (slL k u) ∧ m = .int .i64 ((u - slL k u) + k * c.f) ∧ wr = w2) (fun _ _ i _ => (n.toNat - (match i with | .int _ z => z.toNat | _ => 0)))
  case atStart => exact ⟨0, by omega, rfl, rfl, by simp [slL], rfl⟩
  case round =>
    obtain ⟨k, hk, rfl, rfl, rfl, rfl⟩ := hrel
    have hz := (slL_lim k u).1 huu.1
    have hmz := (mv_lim (slL k u)).1 hz.1
    have HM1 := Lib.hid (show slL (k + 1) u = slL k u - mv (slL k u) from rfl)
    have HMV := Lib.hid (show mv (slL k u) = if (slL k u).tdiv 64 = 0 then slL k u else (slL k u).tdiv 64 from rfl)
    have ht := (tdiv64 (slL k u)).1 hz.1
    have hfi := HL.out.1
    have hkf := kf_lim (k := k) (n := n) (by omega) (by omega) hfi
    unfold inB at hfi
    have HK := Lib.hid (show (((k + 1 : Nat) : Int)) * c.f = k * c.f + c.f by rw [Int.natCast_add, Int.add_mul]; omega)
    obtain ⟨m, hm⟩ : ∃ m, m = mv (slL k u) := ⟨_, rfl⟩
    obtain ⟨z, hzz⟩ : ∃ z, z = slL k u := ⟨_, rfl⟩
    rw [← hm] at hmz HM1 HMV
    rw [← hzz] at hz hmz HM1 HMV ht
    obtain ⟨kf, hkk⟩ : ∃ kf, kf = (k : Int) * c.f := ⟨_, rfl⟩
    rw [← hkk] at hkf HK
    have HZ := Lib.hid hzz
    have HKK := Lib.hid hkk
    rw [← hzz, ← hkk]
    clear hm hzz hkk
    obtain ⟨M, hMM⟩ : ∃ M, M = (u - z) + kf := ⟨_, rfl⟩
    have hM : -3000000000000000000 ≤ M ∧ M ≤ 3000000000000000000 := by omega
    rw [← hMM]
    have HMM := Lib.hid hMM
    have HUU := Lib.hid huu
    clear hMM
    have hs2 : (c.l < 0) = False := by simp only [eq_iff_iff, iff_false]; omega
    have h64 : z.tdiv 64 = 0 ↔ z < 64 := by omega
    by_cases hkn : (k : Int) < n
    · have e1 : decide ((k : Int) < n) = true := by simpa using hkn
      by_cases e : z < 64
      · have em : m = z := by rw [HMV.out, if_pos (h64.2 e)]
        subst em
        clear ht h64
        go_wp2_with fail
        refine ⟨⟨k + 1, by omega, rfl, ?_, ?_, by first | trivial | rfl⟩, ?_⟩
        · have h1 := HM1.out
          congr 1
          omega
        · have h1 := HM1.out
          have h2 := HK.out
          have h3 := HMM.out
          have h4 := HZ.out
          have h5 := HKK.out
          congr 1
          omega
        · show n.toNat - ((k : Int) + 1).toNat < n.toNat - (k : Int).toNat
          omega
      · have em : m = z.tdiv 64 := by rw [HMV.out, if_neg (fun x => e (h64.1 x))]
        have e' : (z < 64) = False := by simp only [e]
        have ht' : z / 64 = m := by omega
        clear h64 ht em e
        go_wp2_with fail
        refine ⟨⟨k + 1, by omega, rfl, ?_, ?_, by first | trivial | rfl⟩, ?_⟩
        · have h1 := HM1.out
          congr 1
          omega
        · have h1 := HM1.out
          have h2 := HK.out
          have h3 := HMM.out
          have h4 := HZ.out
          have h5 := HKK.out
          congr 1
          omega
        · show n.toNat - ((k : Int) + 1).toNat < n.toNat - (k : Int).toNat
          omega
    · have e1 : ((k : Int) < n) = False := by simp only [eq_iff_iff, iff_false]; omega
      obtain ⟨d0, d1, d2, d3, d4⟩ := HY2.out.cells
      have g0 := HY2.out.fr
      have f0 := HX2.out.fr
      have ek : (k : Int) = n := by omega
      have HEK := Lib.hid ek
      clear ek hkn hmz h64 ht
      go_wp2_with fail
      have hr := (HY2.out.setO (k := w.heap.size) (by omega) 1 (.int .i64 z)).put ⟨c.f, z, c.a, c.p, c.s⟩
      refine bodyPost_ret (hr.ret3 rfl M 0 _ rfl rfl rfl) rfl ⟨?_, below_put5 (below_set HB2.out (Nat.le_refl _) 1 (.int .i64 z)) (by omega) ⟨c.f, z, c.a, c.p, c.s⟩⟩
      have h1 := HZ.out
      have h2 := HMM.out
      have h3 := HEK.out
      have h4 := HKK.out
      have h5 := HU.out
      have e2 : n.toNat = k := by omega
      have e3 : slL k c.l = z := by
        rw [← h5]; exact h1.symm
      unfold Ck.val
      rw [e2, e3, ← h3, ← h4]
      have e4 : M = c.l - z + kf := by omega
      rw [e4]
set_option maxHeartbeats 2000000 in
theorem rslew_n {c : Ck} (hc : c.ok) {n : Int} (h : c.slewOk n) (hs : c.l < 0) (w : World) :
    Calls Try.prog 10 #[.agg #[.int .i64 c.f, .int .i64 c.l, .int .i64 c.a, .int .i64 c.p, .bool c.s], .int .i64 n] w fun e w' => e = .returned (.tuple #[.agg #[.int .i64 c.f, .int .i64 (slL n.toNat c.l), .int .i64 c.a, .int .i64 c.p, .bool c.s], .int .i64 (c.l - slL n.toNat c.l + n * c.f), .int .i64 0]) ∧ RowKit.Below w.heap.size w w' := by
  obtain ⟨w1, hw1⟩ : ∃ w1, w1 = (w.alloc (.cells #[.int .i64 c.f, .int .i64 c.l, .int .i64 c.a, .int .i64 c.p, .bool c.s] 23)).alloc (.cells #[.int .i64 0, .int .i64 0, .int .i64 0, .int .i64 0, .bool false] 23) := ⟨_, rfl⟩
  obtain ⟨b1, x1, y1, s1⟩ := two_new hw1
  obtain ⟨hm, hn0, hn1⟩ := h
  have HW := Lib.hid hw1
  have HB := Lib.hid b1
  have HX := Lib.hid x1
  have HY := Lib.hid y1
  have HS := Lib.hid s1
  have HL := Lib.hid hm
  obtain ⟨u, hu⟩ : ∃ u, u = -c.l := ⟨_, rfl⟩
  have hli := hm.2.1
  unfold inB at hli
  have HU := Lib.hid hu
  have huu : 0 ≤ u ∧ u ≤ 1152921504606846976 := by omega
  have H2 := Lib.hid (fun w => worth_any hc.2.1 w)
  rw [show wo c.l = u by unfold wo; split <;> (try split) <;> omega] at H2
  obtain ⟨c0, c1, c2, c3, c4⟩ := x1.cells
  clear hw1 b1 x1 y1 s1 hu
  go_enter Try.func10, Try.ntmps10
  go_upto_region 1 with fail
  rw [← HW.out]
  have HM := Lib.hid (fun w => rmay_yes hc hm w)
  clear hm hc
  have h0 : (n < 0) = False := by simp only [eq_iff_iff, iff_false]; omega
  have h1 : (4096 < n) = False := by simp only [eq_iff_iff, iff_false]; omega
  go_wp2_with fail
  refine (HM.out _).mono ?_
  rintro e w2 ⟨rfl, hb⟩
  have HB2 := Lib.hid (HB.out.trans (hb.mono (by have := HS.out; omega)))
  have HX2 := Lib.hid (HX.out.below hb (by have := HS.out; omega))
  have HY2 := Lib.hid (HY.out.below hb (by have := HS.out; omega))
  clear hb c0 c1 c2 c3 c4 h0 h1
  obtain ⟨c0, c1, c2, c3, c4⟩ := HX2.out.cells
  go_wp2_with ((go_at_call 13; (with_reducible refine (H2.out _).mono ?_); rintro e w9 ⟨rfl, hw9⟩; subst w9))
  go_loopw [7, 8, 9] (fun a m i wr => ∃ k : Nat, (k : Int) ≤ n ∧ i = .int .i64 (k : Int) ∧ a = .int .i64 (slL k u) ∧ m = .int .i64 (k * c.f - (u - slL k u)) ∧ wr = w2) (fun _ _ i _ => (n.toNat - (match i with | .int _ z => z.toNat | _ => 0)))
  case atStart => exact ⟨0, by omega, rfl, rfl, by simp [slL], rfl⟩
  case round =>
    obtain ⟨k, hk, rfl, rfl, rfl, rfl⟩ := hrel
    have hz := (slL_lim k u).1 huu.1
    have hmz := (mv_lim (slL k u)).1 hz.1
    have HM1 := Lib.hid (show slL (k + 1) u = slL k u - mv (slL k u) from rfl)
    have HMV := Lib.hid (show mv (slL k u) = if (slL k u).tdiv 64 = 0 then slL k u else (slL k u).tdiv 64 from rfl)
    have ht := (tdiv64 (slL k u)).1 hz.1
    have hfi := HL.out.1
    have hkf := kf_lim (k := k) (n := n) (by omega) (by omega) hfi
    unfold inB at hfi
    have HK := Lib.hid (show (((k + 1 : Nat) : Int)) * c.f = k * c.f + c.f by rw [Int.natCast_add, Int.add_mul]; omega)
    obtain ⟨m, hm⟩ : ∃ m, m = mv (slL k u) := ⟨_, rfl⟩
    obtain ⟨z, hzz⟩ : ∃ z, z = slL k u := ⟨_, rfl⟩
    rw [← hm] at hmz HM1 HMV
    rw [← hzz] at hz hmz HM1 HMV ht
    obtain ⟨kf, hkk⟩ : ∃ kf, kf = (k : Int) * c.f := ⟨_, rfl⟩
    rw [← hkk] at hkf HK
    have HZ := Lib.hid hzz
    have HKK := Lib.hid hkk
    rw [← hzz, ← hkk]
    clear hm hzz hkk
    obtain ⟨M, hMM⟩ : ∃ M, M = kf - (u - z) := ⟨_, rfl⟩
    have hM : -3000000000000000000 ≤ M ∧ M ≤ 3000000000000000000 := by omega
    rw [← hMM]
    have HMM := Lib.hid hMM
    have HUU := Lib.hid huu
    clear hMM
    have hs2 : c.l < 0 := hs
    have h64 : z.tdiv 64 = 0 ↔ z < 64 := by omega
    by_cases hkn : (k : Int) < n
    · have e1 : decide ((k : Int) < n) = true := by simpa using hkn
      by_cases e : z < 64
      · have em : m = z := by rw [HMV.out, if_pos (h64.2 e)]
        subst em
        clear ht h64
        go_wp2_with fail
        refine ⟨⟨k + 1, by omega, rfl, ?_, ?_, by first | trivial | rfl⟩, ?_⟩
        · have h1 := HM1.out
          congr 1
          omega
        · have h1 := HM1.out
          have h2 := HK.out
          have h3 := HMM.out
          have h4 := HZ.out
          have h5 := HKK.out
          congr 1
          omega
        · show n.toNat - ((k : Int) + 1).toNat < n.toNat - (k : Int).toNat
          omega
      · have em : m = z.tdiv 64 := by rw [HMV.out, if_neg (fun x => e (h64.1 x))]
        have e' : (z < 64) = False := by simp only [e]
        have ht' : z / 64 = m := by omega
        clear h64 ht em e
        go_wp2_with fail
        refine ⟨⟨k + 1, by omega, rfl, ?_, ?_, by first | trivial | rfl⟩, ?_⟩
        · have h1 := HM1.out
          congr 1
          omega
        · have h1 := HM1.out
          have h2 := HK.out
          have h3 := HMM.out
          have h4 := HZ.out
          have h5 := HKK.out
          congr 1
          omega
        · show n.toNat - ((k : Int) + 1).toNat < n.toNat - (k : Int).toNat
          omega
    · have e1 : ((k : Int) < n) = False := by simp only [eq_iff_iff, iff_false]; omega
      obtain ⟨d0, d1, d2, d3, d4⟩ := HY2.out.cells
      have g0 := HY2.out.fr
      have f0 := HX2.out.fr
      have ek : (k : Int) = n := by omega
      have HEK := Lib.hid ek
      clear ek hkn hmz h64 ht
      go_wp2_with fail
      have hr := (HY2.out.setO (k := w.heap.size) (by omega) 1 (.int .i64 (-z))).put ⟨c.f, (-z), c.a, c.p, c.s⟩
      refine bodyPost_ret (hr.ret3 rfl M 0 _ rfl rfl rfl) rfl ⟨?_, below_put5 (below_set HB2.out (Nat.le_refl _) 1 (.int .i64 (-z))) (by omega) ⟨c.f, (-z), c.a, c.p, c.s⟩⟩
      have h1 := HZ.out
      have h2 := HMM.out
      have h3 := HEK.out
      have h4 := HKK.out
      have h5 := HU.out
      have e2 : n.toNat = k := by omega
      have e3 : slL k c.l = (-z) := by
        rw [show c.l = -u by omega, slL_neg, ← h1]
      unfold Ck.val
      rw [e2, e3, ← h3, ← h4]
      have e4 : M = c.l - (-z) + kf := by omega
      rw [e4]
theorem rslew_yes {c : Ck} (hc : c.ok) {n : Int} (h : c.slewOk n) (w : World) :
    Calls Try.prog 10 #[.agg #[.int .i64 c.f, .int .i64 c.l, .int .i64 c.a, .int .i64 c.p, .bool c.s], .int .i64 n] w fun e w' => e = .returned (.tuple #[.agg #[.int .i64 c.f, .int .i64 (slL n.toNat c.l), .int .i64 c.a, .int .i64 c.p, .bool c.s], .int .i64 (c.l - slL n.toNat c.l + n * c.f), .int .i64 0]) ∧ RowKit.Below w.heap.size w w' := by
  by_cases hs : 0 ≤ c.l
  · exact rslew_p hc h hs w
  · exact rslew_n hc h (by omega) w
end Go.Proofs.Ytplfimimoahjdaa
