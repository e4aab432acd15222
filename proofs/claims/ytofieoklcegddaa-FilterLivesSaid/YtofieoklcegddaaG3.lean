/- FilterTrue: the walk. -/
import Derived.Test.YtofieoklcegddaaG2
namespace Go.Proofs.Ytofieoklcegddaa
open Go.RowKit Go.Sort Go.Shelf Go.Lib
set_option linter.unusedVariables false
set_option linter.unusedSimpArgs false
set_option maxRecDepth 100000

theorem push_mem {s t : S4} {L : List S4} (h : t ∈ push s L) : t = s ∨ t ∈ L := by
  have := List.mem_of_mem_take h
  simpa using this
theorem fillL_mem {xs L : List S4} {s : S4} (h : s ∈ fillL L xs) : s ∈ L ∨ (s ∈ xs ∧ s.may) := by
  induction xs generalizing L with
  | nil => exact .inl h
  | cons x xs ih =>
    rcases ih (L := add1 L x) h with h | ⟨h, hm⟩
    · unfold add1 at h
      split at h
      · rename_i hx
        rcases push_mem h with rfl | h
        · exact .inr ⟨by simp, hx⟩
        · exact .inl h
      · exact .inl h
    · exact .inr ⟨by simp [h], hm⟩
theorem add1_ne {L : List S4} {x : S4} (h : L ≠ []) : add1 L x ≠ [] := by
  unfold add1
  split
  · simp [push]
  · exact h
theorem fillL_ne {xs L : List S4} (h : L ≠ []) : fillL L xs ≠ [] := by
  induction xs generalizing L with
  | nil => exact h
  | cons x xs ih => exact ih (add1_ne h)
theorem fillL_first {x : S4} {xs : List S4} (h : x.may) : fillL [] (x :: xs) ≠ [] := by
  show fillL (add1 [] x) xs ≠ []
  refine fillL_ne ?_
  unfold add1
  rw [if_pos h]
  simp [push]
/-- a sample is off from r by at most its distance -/
def near (now r : Int) (s : S4) : Prop := s.may ∧ s.o - r ≤ s.dist now ∧ -(s.o - r) ≤ s.dist now
theorem dist_lim {s : S4} (h : s.may) (now : Int) : 0 ≤ s.dist now ∧ s.dist now ≤ 3000000000000000000 := by
  have hl := aged_lim (now := now) h.2.1
  unfold S4.dist
  rw [if_pos h]
  have h1 := h.2.2.1
  have h2 := h.2.2.2.1
  have h3 := h.2.2.2.2.1
  have h4 := h.2.2.2.2.2
  unfold inB at h1 h3
  omega
theorem may_below (s : S4) (w : World) : Calls Try.prog 21 #[.agg #[.int .i64 s.o, .int .i64 s.d, .int .i64 s.p, .int .i64 s.a]] w fun e w' => e = .returned (.bool (decide s.may)) ∧ RowKit.Below w.heap.size w w' := by
  refine (rmay_any s w).mono ?_
  rintro e w' ⟨rfl, rfl⟩
  exact ⟨rfl, (Below.refl _ _).alloc (Nat.le_refl _) _⟩
theorem dist_below (s : S4) (now : Int) (w : World) : Calls Try.prog 10 #[.agg #[.int .i64 s.o, .int .i64 s.d, .int .i64 s.p, .int .i64 s.a], .int .i64 now] w fun e w' => e = .returned (.int .i64 (s.dist now)) ∧ RowKit.Below w.heap.size w w' := by
  refine (dist_any s now w).mono ?_
  rintro e w' ⟨rfl, q, os, hw⟩
  exact ⟨rfl, below_of_grow (Nat.le_refl _) hw⟩
theorem bthen {B : Nat} {w0 w w' : World} (h : RowKit.Below B w0 w) (k : RowKit.Below w.heap.size w w') (hB : B ≤ w0.heap.size) : RowKit.Below B w0 w' := h.trans (k.mono (Nat.le_trans hB h.size))
theorem Rd.cells {w : World} {B n : Nat} {A : Option Addr} {xs : List S4} (h : Rd w B A n xs) (h0 : 0 < n) : ∃ g off, A = some ⟨g, off, none⟩ ∧ g < B ∧ ∀ w', RowKit.Below B w w' → ∀ i s, xs[i]? = some s →
    w'.cell? ⟨g, off + i * 4, none⟩ = some (.int .i64 s.o) ∧ w'.cell? ⟨g, off + i * 4 + 1, none⟩ = some (.int .i64 s.d) ∧ w'.cell? ⟨g, off + i * 4 + 2, none⟩ = some (.int .i64 s.p) ∧ w'.cell? ⟨g, off + i * 4 + 3, none⟩ = some (.int .i64 s.a) := by
  rcases h.2 with h1 | ⟨g, off, rfl, hg, hc⟩
  · omega
  · refine ⟨g, off, rfl, hg, fun w' b i s hs => ?_⟩
    have h' := (h.below b (Nat.le_refl _)).2
    rcases h' with h1 | ⟨g', off', e, _, hc'⟩
    · omega
    · cases e
      exact hc' i s hs
theorem alive_then {w0 w : World} {B : Nat} (h : RowKit.Below B w0 w) (hB : B ≤ w0.heap.size) : Calls Try.prog 9 #[] w fun e w' => e = .returned (.bool true) ∧ RowKit.Below B w0 w' := by
  refine (alive_any w).mono ?_
  rintro e w' ⟨rfl, b⟩
  exact ⟨rfl, bthen h b hB⟩
set_option maxHeartbeats 4000000 in
theorem true_any {w : World} {A : Option Addr} {n c : Nat} {xs : List S4} (now right : Int) (h : Rd w w.heap.size A n xs) (hmx : n ≤ 9223372036854775807) :
    Calls Try.prog 6 #[.slice A n c, .int .i64 now, .int .i64 right] w (Yes w) := by
  obtain ⟨r, hr⟩ : ∃ r, r = right.tmod 1152921504606846976 := ⟨_, rfl⟩
  have hr1 : -1152921504606846976 < r := by rw [hr]; have := Int.lt_tmod_of_pos right (show (0 : Int) < 1152921504606846976 by omega); omega
  have hr2 : r < 1152921504606846976 := by rw [hr]; exact Int.tmod_lt_of_pos right (by omega)
  have HRr := Lib.hid hr
  have HR := Lib.hid h
  have HL := Lib.hid h.1
  clear hr h
  go_enter Try.func6, Try.ntmps6
  go_wp2_with fail
  rw [← HRr.out]
  go_loopw [7] (fun i wr => ∃ j : Nat, j ≤ n ∧ i = .int .i64 (j : Int) ∧ Hid (∀ (k : Nat) (s : S4), k < j → xs[k]? = some s → near now r s) ∧ RowKit.Below w.heap.size w wr) (fun i _ => (n - (match i with | .int _ z => z.toNat | _ => 0)))
  case atStart => exact ⟨0, by omega, rfl, fun k s hk => absurd hk (Nat.not_lt_zero _), Below.refl _ _⟩
  case round =>
    obtain ⟨j, hjn, rfl, HN, hb⟩ := hrel
    have HB := Lib.hid hb
    clear hb
    by_cases hj : j < n
    · have e1 : decide ((j : Int) < (n : Int)) = true := by simp; omega
      have e1' : (j : Int) < (n : Int) := by omega
      obtain ⟨s, hs⟩ : ∃ s, xs[j]? = some s := ⟨_, List.getElem?_eq_getElem (by have := HL.out; omega)⟩
      obtain ⟨g, off, rfl, hg, hc⟩ := HR.out.cells (by omega)
      obtain ⟨o, q, p, a⟩ := s
      have HC := Lib.hid (fun w' b => hc w' b j ⟨o, q, p, a⟩ hs)
      have HS := Lib.hid hs
      have HMa := Lib.hid (fun w => may_below ⟨o, q, p, a⟩ w)
      have HDi := Lib.hid (fun w => dist_below ⟨o, q, p, a⟩ now w)
      dsimp only at HC HMa HDi
      obtain ⟨c0, c1, c2, c3⟩ := HC.out wr HB.out
      clear hc hs
      by_cases hm : S4.may ⟨o, q, p, a⟩
      · rw [decide_eq_true hm] at HMa
        have hdl := dist_lim hm now
        have hoo : inB o := hm.1
        unfold inB at hoo
        have HNr := Lib.hid (show ∀ d, d = S4.dist now ⟨o, q, p, a⟩ → ((¬ d < o - r ∧ ¬ d < -(o - r)) → near now r ⟨o, q, p, a⟩) from fun d hd hh => ⟨hm, by show o - r ≤ _; omega, by show -(o - r) ≤ _; omega⟩)
        obtain ⟨d, hd⟩ : ∃ d, d = S4.dist now ⟨o, q, p, a⟩ := ⟨_, rfl⟩
        rw [← hd] at HDi hdl
        have HNr := Lib.hid (HNr.out d hd)
        clear hd hm
        by_cases h1 : d < o - r
        · go_wp2_with fail
          refine (HMa.out _).mono ?_
          rintro e wa ⟨rfl, ba⟩
          have HBa := Lib.hid (bthen HB.out ba (Nat.le_refl _))
          clear ba c0 c1 c2 c3
          obtain ⟨c0, c1, c2, c3⟩ := HC.out wa HBa.out
          go_wp2_with fail
          refine (HDi.out _).mono ?_
          rintro e wb ⟨rfl, bb⟩
          have HBb := Lib.hid (bthen HBa.out bb (Nat.le_refl _))
          clear bb c0 c1 c2 c3
          obtain ⟨c0, c1, c2, c3⟩ := HC.out wb HBb.out
          go_wp2_with fail
          refine (alive_then HBb.out (Nat.le_refl _)).mono ?_
          rintro e wz ⟨rfl, bz⟩
          have HBz := Lib.hid bz
          clear bz
          go_wp2_with fail
          go_ret
          exact ⟨rfl, HBz.out⟩
        · have h1' : (d < o - r) = False := by simp only [h1]
          by_cases h2 : d < -(o - r)
          · go_wp2_with fail
            refine (HMa.out _).mono ?_
            rintro e wa ⟨rfl, ba⟩
            have HBa := Lib.hid (bthen HB.out ba (Nat.le_refl _))
            clear ba c0 c1 c2 c3
            obtain ⟨c0, c1, c2, c3⟩ := HC.out wa HBa.out
            go_wp2_with fail
            refine (HDi.out _).mono ?_
            rintro e wb ⟨rfl, bb⟩
            have HBb := Lib.hid (bthen HBa.out bb (Nat.le_refl _))
            clear bb c0 c1 c2 c3
            obtain ⟨c0, c1, c2, c3⟩ := HC.out wb HBb.out
            go_wp2_with fail
            refine (HDi.out _).mono ?_
            rintro e wc ⟨rfl, bc⟩
            have HBc := Lib.hid (bthen HBb.out bc (Nat.le_refl _))
            clear bc c0 c1 c2 c3
            obtain ⟨c0, c1, c2, c3⟩ := HC.out wc HBc.out
            go_wp2_with fail
            refine (alive_then HBc.out (Nat.le_refl _)).mono ?_
            rintro e wz ⟨rfl, bz⟩
            have HBz := Lib.hid bz
            clear bz
            go_wp2_with fail
            go_ret
            exact ⟨rfl, HBz.out⟩
          · have h2' : (d < -(o - r)) = False := by simp only [h2]
            have HNn := Lib.hid (HNr.out ⟨h1, h2⟩)
            go_wp2_with fail
            refine (HMa.out _).mono ?_
            rintro e wa ⟨rfl, ba⟩
            have HBa := Lib.hid (bthen HB.out ba (Nat.le_refl _))
            clear ba c0 c1 c2 c3
            obtain ⟨c0, c1, c2, c3⟩ := HC.out wa HBa.out
            go_wp2_with fail
            refine (HDi.out _).mono ?_
            rintro e wb ⟨rfl, bb⟩
            have HBb := Lib.hid (bthen HBa.out bb (Nat.le_refl _))
            clear bb c0 c1 c2 c3
            obtain ⟨c0, c1, c2, c3⟩ := HC.out wb HBb.out
            go_wp2_with fail
            refine (HDi.out _).mono ?_
            rintro e wc ⟨rfl, bc⟩
            have HBc := Lib.hid (bthen HBb.out bc (Nat.le_refl _))
            clear bc c0 c1 c2 c3
            obtain ⟨c0, c1, c2, c3⟩ := HC.out wc HBc.out
            go_wp2_with fail
            exact ⟨⟨j + 1, by omega, rfl, fun k t hk ht => by
              rcases Nat.lt_or_eq_of_le (Nat.le_of_lt_succ hk) with hk | rfl
              · exact HN.out k t hk ht
              · rw [HS.out] at ht; cases ht; exact HNn.out, HBc.out⟩, by show n - ((j : Int) + 1).toNat < n - (j : Int).toNat; omega⟩
      · rw [decide_eq_false hm] at HMa
        clear hm
        go_wp2_with fail
        refine (HMa.out _).mono ?_
        rintro e wa ⟨rfl, ba⟩
        have HBa := Lib.hid (bthen HB.out ba (Nat.le_refl _))
        clear ba c0 c1 c2 c3
        obtain ⟨c0, c1, c2, c3⟩ := HC.out wa HBa.out
        go_wp2_with fail
        refine (alive_then HBa.out (Nat.le_refl _)).mono ?_
        rintro e wz ⟨rfl, bz⟩
        have HBz := Lib.hid bz
        clear bz
        go_wp2_with fail
        go_ret
        exact ⟨rfl, HBz.out⟩
    · have e1' : ((j : Int) < (n : Int)) = False := by simp only [eq_iff_iff, iff_false]; omega
      have HNa := Lib.hid (show ∀ s ∈ xs, near now r s from fun s hs => by
        obtain ⟨k, hk, rfl⟩ := List.getElem_of_mem hs
        exact HN.out k _ (by have := HL.out; omega) (List.getElem?_eq_getElem hk))
      clear HN hjn hj
      have HFi := Lib.hid (filled_any (c := c) (HR.out.below HB.out (Nat.le_refl _)) HB.out.size)
      go_wp2_with fail
      refine HFi.out.mono ?_
      rintro e w2 ⟨rfl, hf2, hb2⟩
      obtain ⟨L, hL⟩ : ∃ L, L = fillL [] (xs.take 100) := ⟨_, rfl⟩
      rw [← hL] at hf2
      have HBe := Lib.hid (best_any now (.inr ⟨wr.heap.size, rfl, hf2⟩ : Pf w2 (some ⟨wr.heap.size, 0, none⟩) L))
      have HB2 := Lib.hid (bthen HB.out hb2 (Nat.le_refl _))
      have HLL := Lib.hid hL
      clear hL hf2 hb2 HFi HB
      go_wp2_with fail
      refine HBe.out.mono ?_
      rintro e w3 ⟨rfl, hb3⟩
      have HB3 := Lib.hid (bthen HB2.out hb3 (Nat.le_refl _))
      clear hb3 HBe HB2
      by_cases hLe : L = []
      · have hn0 : n = 0 := by
          rcases Nat.eq_zero_or_pos n with h0 | h0
          · exact h0
          · exfalso
            have hxl := HL.out
            obtain ⟨x, T, hx⟩ : ∃ x T, xs = x :: T := by
              cases hxs : xs with
              | nil => rw [hxs] at hxl; simp at hxl; omega
              | cons x T => exact ⟨x, T, rfl⟩
            have := HLL.out
            rw [hLe, hx, show (x :: T).take 100 = x :: T.take 99 by rfl] at this
            exact fillL_first (HNa.out x (by rw [hx]; simp)).1 this.symm
        rw [hLe, sorted_nil, show (if ([] : List S4) = [] then (4 : Int) else 0) = 4 from rfl, show (headS []).val = .agg #[.int .i64 0, .int .i64 0, .int .i64 0, .int .i64 0] from rfl]
        clear HLL
        subst hn0
        obtain ⟨w4, hw4⟩ : ∃ w4, w4 = w3.alloc (.cells #[.int .i64 0, .int .i64 0, .int .i64 0, .int .i64 0] 23) := ⟨_, rfl⟩
        have HB4 := Lib.hid (show RowKit.Below w.heap.size w w4 by rw [hw4]; exact HB3.out.alloc HB3.out.size _)
        have HW4 := Lib.hid hw4
        clear hw4
        go_upto_region 9 with fail
        rw [← HW4.out]
        go_wp2_with fail
        refine (alive_then HB4.out (Nat.le_refl _)).mono ?_
        rintro e wz ⟨rfl, bz⟩
        have HBz := Lib.hid bz
        clear bz
        go_wp2_with fail
        go_ret
        exact ⟨rfl, HBz.out⟩
      · obtain ⟨s, hs⟩ : ∃ s, s = headS (sorted now L) := ⟨_, rfl⟩
        have hsn : near now r s := by
          have hf := sorted_facts now L
          have hmem : s ∈ sorted now L := by
            rw [hs]
            cases hM : sorted now L with
            | nil => rw [hM] at hf; exact absurd (List.length_eq_zero_iff.1 hf.1.symm) hLe
            | cons x T => simp [headS]
          have h2 := hf.2.1.mem_iff.1 hmem
          rw [HLL.out] at h2
          rcases fillL_mem h2 with h2 | ⟨h2, _⟩
          · cases h2
          · exact HNa.out s (List.mem_of_mem_take h2)
        rw [← hs, if_neg hLe]
        clear hs HLL
        obtain ⟨o, q, p, a⟩ := s
        have hdl := dist_lim hsn.1 now
        have hoo : inB o := hsn.1.1
        unfold inB at hoo
        have HDi := Lib.hid (fun w => dist_below ⟨o, q, p, a⟩ now w)
        dsimp only at HDi
        obtain ⟨d, hd⟩ : ∃ d, d = S4.dist now ⟨o, q, p, a⟩ := ⟨_, rfl⟩
        have h1 : o - r ≤ d := by rw [hd]; exact hsn.2.1
        have h2 : -(o - r) ≤ d := by rw [hd]; exact hsn.2.2
        rw [← hd] at HDi hdl
        clear hd hsn
        rw [show S4.val ⟨o, q, p, a⟩ = .agg #[.int .i64 o, .int .i64 q, .int .i64 p, .int .i64 a] from rfl]
        obtain ⟨w4, hw4⟩ : ∃ w4, w4 = w3.alloc (.cells #[.int .i64 o, .int .i64 q, .int .i64 p, .int .i64 a] 23) := ⟨_, rfl⟩
        have HB4 := Lib.hid (show RowKit.Below w.heap.size w w4 by rw [hw4]; exact HB3.out.alloc HB3.out.size _)
        have HX4 := Lib.hid (show Box w4 w3.heap.size ⟨o, q, p, a⟩ by rw [hw4]; exact World.alloc_heap_new w3 _)
        have HW4 := Lib.hid hw4
        have L4 := Lib.hid (show w3.heap.size < w4.heap.size from HX4.out.lt)
        obtain ⟨c0, c1, c2, c3⟩ := HX4.out.cells
        dsimp only at c0 c1 c2 c3
        clear hw4
        go_upto_region 9 with fail
        rw [← HW4.out]
        go_wp2_with fail
        refine (alive_any _).mono ?_
        rintro e w5 ⟨rfl, b5⟩
        have HX5 := Lib.hid (show Box w5 w3.heap.size ⟨o, q, p, a⟩ from (b5.block _ L4.out).trans HX4.out)
        have HB5 := Lib.hid (bthen HB4.out b5 (Nat.le_refl _))
        clear b5 c0 c1 c2 c3
        obtain ⟨c0, c1, c2, c3⟩ := HX5.out.cells
        dsimp only at c0 c1 c2 c3
        go_wp2_with fail
        refine (HDi.out _).mono ?_
        rintro e w6 ⟨rfl, b6⟩
        have HX6 := Lib.hid (show Box w6 w3.heap.size ⟨o, q, p, a⟩ from (b6.block _ HX5.out.lt).trans HX5.out)
        have HB6 := Lib.hid (bthen HB5.out b6 (Nat.le_refl _))
        clear b6 c0 c1 c2 c3
        obtain ⟨c0, c1, c2, c3⟩ := HX6.out.cells
        dsimp only at c0 c1 c2 c3
        go_wp2_with fail
        refine (HDi.out _).mono ?_
        rintro e w7 ⟨rfl, b7⟩
        have HB7 := Lib.hid (bthen HB6.out b7 (Nat.le_refl _))
        clear b7 c0 c1 c2 c3
        go_wp2_with fail
        go_ret
        exact ⟨rfl, HB7.out⟩
end Go.Proofs.Ytofieoklcegddaa
