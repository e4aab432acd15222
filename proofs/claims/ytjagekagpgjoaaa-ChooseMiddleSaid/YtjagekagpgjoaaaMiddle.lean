/- For every two lists of int64 and every int64 the Go function ChooseMiddle returns true and leaves its arguments as they were. No condition. -/
import Derived.Test.YtjagekagpgjoaaaC17
namespace Go.Proofs.Ytjagekagpgjoaaa.chooseMiddleP
open Go.ChangeShapes Go.WideShapes Go.ChangeAt Go.RowKit
set_option linter.unusedVariables false
set_option linter.unusedSimpArgs false
set_option maxRecDepth 100000

theorem mid_e1 {w : World} {A1 A2 : Option Addr} {n1 c1 n2 c2 : Nat} {os ds : List Int} (h1 : Ri w w.heap.size A1 n1 os) (h2 : Ri w w.heap.size A2 n2 ds) (y : Int) (z1 : ((n1 : Int) = 0) = False) (y1 : ((n1 : Int) == 0) = false) (HC : Hid (Calls Try.prog 20 #[.slice A1 n1 c1, .slice A2 n2 c2] w fun e w' => e = .returned (.tuple #[.int .i64 0, .int .i64 1]) ∧ w' = w)) : Calls Try.prog 8 #[.slice A1 n1 c1, .slice A2 n2 c2, .int .i64 y] w (Yes w) := by
  clear h1 h2
  go_enter Try.func8, Try.ntmps8
  go_wp2_with fail
  refine HC.out.mono ?_
  rintro e w2 ⟨rfl, e2⟩
  subst w2
  have HB2 := Lib.hid (Below.refl w.heap.size w)
  go_wp2_with fail
  refine (alive_any _).mono ?_
  rintro e wz ⟨rfl, bz⟩
  have HBz := Lib.hid (bthen HB2.out bz (Nat.le_refl _))
  clear bz
  go_wp2_with fail
  go_ret
  exact ⟨rfl, HBz.out⟩
theorem mid_e2 {w : World} {A1 A2 : Option Addr} {n1 c1 n2 c2 : Nat} {os ds : List Int} (h1 : Ri w w.heap.size A1 n1 os) (h2 : Ri w w.heap.size A2 n2 ds) (y : Int) (hz : n1 = 0) (z2 : ((n2 : Int) = 0) = False) (y2 : ((n2 : Int) == 0) = false) (HC : Hid (Calls Try.prog 20 #[.slice A1 n1 c1, .slice A2 n2 c2] w fun e w' => e = .returned (.tuple #[.int .i64 0, .int .i64 1]) ∧ w' = w)) : Calls Try.prog 8 #[.slice A1 n1 c1, .slice A2 n2 c2, .int .i64 y] w (Yes w) := by
  clear h1 h2
  subst hz
  go_enter Try.func8, Try.ntmps8
  go_wp2_with fail
  refine HC.out.mono ?_
  rintro e w2 ⟨rfl, e2⟩
  subst w2
  have HB2 := Lib.hid (Below.refl w.heap.size w)
  go_wp2_with fail
  refine (alive_any _).mono ?_
  rintro e wz ⟨rfl, bz⟩
  have HBz := Lib.hid (bthen HB2.out bz (Nat.le_refl _))
  clear bz
  go_wp2_with fail
  go_ret
  exact ⟨rfl, HBz.out⟩
theorem mid_e4 {w : World} {A1 A2 : Option Addr} {n1 c1 n2 c2 : Nat} {os ds : List Int} (h1 : Ri w w.heap.size A1 n1 os) (h2 : Ri w w.heap.size A2 n2 ds) (y : Int) (hz : n1 = 0) (hz2 : n2 = 0) (HC : Hid (Calls Try.prog 20 #[.slice A1 n1 c1, .slice A2 n2 c2] w fun e w' => e = .returned (.tuple #[.int .i64 0, .int .i64 4]) ∧ w' = w)) : Calls Try.prog 8 #[.slice A1 n1 c1, .slice A2 n2 c2, .int .i64 y] w (Yes w) := by
  clear h1 h2
  subst hz hz2
  go_enter Try.func8, Try.ntmps8
  go_wp2_with fail
  refine HC.out.mono ?_
  rintro e w2 ⟨rfl, e2⟩
  subst w2
  have HB2 := Lib.hid (Below.refl w.heap.size w)
  go_wp2_with fail
  refine (alive_any _).mono ?_
  rintro e wz ⟨rfl, bz⟩
  have HBz := Lib.hid (bthen HB2.out bz (Nat.le_refl _))
  clear bz
  go_wp2_with fail
  go_ret
  exact ⟨rfl, HBz.out⟩
theorem smz_move (l : List (Int × Int)) (y : Int) : smz (l.map fun p => (p.1 + y, p.2)) = smz l + y * wsz l := by
  induction l with
  | nil => simp [smz, wsz]
  | cons p l ih => rw [List.map_cons, smz_cons, ih, smz_cons, wsz_cons]; dsimp only; rw [Int.add_mul, Int.mul_add]; omega
theorem wsz_move (l : List (Int × Int)) (y : Int) : wsz (l.map fun p => (p.1 + y, p.2)) = wsz l := by
  induction l with
  | nil => rfl
  | cons p l ih => rw [List.map_cons, wsz_cons, wsz_cons, ih]
theorem smz_ge {l : List (Int × Int)} {lo hi : Int} (h : okZ l) (hb : ∀ p ∈ l, lo ≤ p.1 ∧ p.1 ≤ hi) : lo * wsz l ≤ smz l ∧ smz l ≤ hi * wsz l := by
  induction l with
  | nil => simp [smz, wsz]
  | cons p l ih =>
    have hp := h p (List.mem_cons_self ..)
    have hw := wt_lim hp.2.1
    have hq := hb p (List.mem_cons_self ..)
    have := ih (fun q hq => h q (List.mem_cons_of_mem _ hq)) (fun q hq => hb q (List.mem_cons_of_mem _ hq))
    have a : lo * wt p.2 ≤ p.1 * wt p.2 := Int.mul_le_mul_of_nonneg_right hq.1 (by omega)
    have b : p.1 * wt p.2 ≤ hi * wt p.2 := Int.mul_le_mul_of_nonneg_right hq.2 (by omega)
    rw [smz_cons, wsz_cons, Int.mul_add, Int.mul_add]
    omega
theorem zip_move (os ds : List Int) (y : Int) : (os.map (· + y)).zip ds = (os.zip ds).map fun p => (p.1 + y, p.2) := by
  induction os generalizing ds with
  | nil => rfl
  | cons o os ih =>
    cases ds with
    | nil => rfl
    | cons d ds => simp [ih]
theorem mean_lim {os ds : List Int} (hf : Fit os ds) (h0 : os ≠ []) {lo hi : Int} (hb : ∀ o ∈ os, lo ≤ o ∧ o ≤ hi) : lo ≤ smz (os.zip ds) / wsz (os.zip ds) ∧ smz (os.zip ds) / wsz (os.zip ds) ≤ hi ∧ 1 ≤ wsz (os.zip ds) := by
  have hz := okZ_zip hf.2.2.1 hf.2.2.2
  have hw := (wsz_lim hz).1
  have hl : (os.zip ds).length = os.length := by rw [List.length_zip, ← hf.1]; omega
  have hp : 0 < os.length := List.length_pos_iff.2 h0
  rw [hl] at hw
  have hw1 : 1 ≤ wsz (os.zip ds) := by omega
  have hs := smz_ge hz (fun p hp => by obtain ⟨o, d⟩ := p; exact hb o (List.of_mem_zip hp).1)
  refine ⟨?_, ?_, hw1⟩
  · exact (Int.le_ediv_iff_mul_le (by omega)).2 hs.1
  · have : smz (os.zip ds) / wsz (os.zip ds) < hi + 1 := (Int.ediv_lt_iff_lt_mul (by omega)).2 (by rw [Int.add_mul]; omega)
    omega
theorem mean_move {os ds : List Int} (y : Int) (hw : 1 ≤ wsz (os.zip ds)) : smz ((os.map (· + y)).zip ds) / wsz ((os.map (· + y)).zip ds) = smz (os.zip ds) / wsz (os.zip ds) + y := by
  rw [zip_move, smz_move, wsz_move, Int.add_mul_ediv_right _ _ (by omega)]
set_option maxHeartbeats 4000000 in
theorem mid_some {w : World} {A1 A2 : Option Addr} {n c1 c2 : Nat} {os ds : List Int} (h1 : Ri w w.heap.size A1 n os) (h2 : Ri w w.heap.size A2 n ds) (z : Int) (hf : Fit os ds) (h0 : 0 < n) : Calls Try.prog 8 #[.slice A1 n c1, .slice A2 n c2, .int .i64 z] w (Yes w) := by
  have hn : n ≤ 64 := by have := hf.2.1; rw [h1.1] at this; exact this
  have hne : os ≠ [] := fun e => by have := h1.1; rw [e] at this; simp at this; omega
  have HC := Lib.hid (comb_some (c1 := c1) (c2 := c2) h1 h2 hf h0)
  have HR1 := Lib.hid h1
  have HR2 := Lib.hid h2
  have HL1 := Lib.hid h1.1
  have HF := Lib.hid hf
  have HO := Lib.hid hf.2.2.1
  have HMl := Lib.hid (fun lo hi hb => mean_lim hf hne (lo := lo) (hi := hi) hb)
  have hml := mean_lim hf hne hf.2.2.1
  obtain ⟨y, hy⟩ : ∃ y, y = z.tmod 1099511627776 := ⟨_, rfl⟩
  have HMv := Lib.hid (mean_move y hml.2.2)
  have hyl : -1099511627776 < y ∧ y < 1099511627776 := by
    rw [hy]
    have a := Int.lt_tmod_of_pos z (show (0 : Int) < 1099511627776 by omega)
    have b := Int.tmod_lt_of_pos z (show (0 : Int) < 1099511627776 by omega)
    omega
  obtain ⟨C, hC⟩ : ∃ C, C = smz (os.zip ds) / wsz (os.zip ds) := ⟨_, rfl⟩
  rw [← hC] at HC HMl hml HMv
  have hyy := hy.symm
  obtain ⟨o0, ho0⟩ : ∃ o0, os[0]? = some o0 := ⟨_, List.getElem?_eq_getElem (by rw [h1.1]; exact h0)⟩
  obtain ⟨g1, off1, rfl, hg1, hc1⟩ := h1.cells h0
  have HC1 := Lib.hid hc1
  have a0 := hc1 w (Below.refl _ _) 0 o0 ho0
  have HO0 := Lib.hid ho0
  have hCl : -1099511627776 ≤ C ∧ C ≤ 1099511627776 := ⟨hml.1, hml.2.1⟩
  clear h1 h2 hf hne hC hc1 ho0 hy hml
  have hn0 : (n : Int) ≠ 0 := by omega
  rw [Nat.add_zero] at a0
  go_enter Try.func8, Try.ntmps8
  go_wp2_with fail
  refine HC.out.mono ?_
  rintro e w2 ⟨rfl, e2⟩
  subst w2
  go_wp2_with fail
  go_quiet (fail)
  go_wp2_with fail
  have hb0 := below_drewN (Below.refl w.heap.size w) nq
  obtain ⟨w3, e3⟩ : ∃ w3, w3 = w.drewN nq := ⟨_, rfl⟩
  rw [← e3] at hb0 ⊢
  have HB0 := Lib.hid hb0
  clear hb0 e3 a0
  go_loopw [9, 10, 11, 12] (fun lov hiv mv iv wr => ∃ j : Nat, ∃ lo hi : Int, ∃ A' c', j ≤ n ∧ iv = .int .i64 (j : Int) ∧ lov = .int .i64 lo ∧ hiv = .int .i64 hi ∧ mv = .slice A' j c' ∧ Gi 2 wr w.heap.size A' j c' ((os.take j).map (· + y)) ∧ Hid (∀ o ∈ os.take j, lo ≤ o ∧ o ≤ hi) ∧ RowKit.Below w.heap.size w wr) (fun _ _ _ iv _ => (n - (match iv with | .int _ z => z.toNat | _ => 0)))
  case atStart => exact ⟨0, o0, o0, none, 0, by omega, rfl, rfl, rfl, rfl, Gi.nil _ _ _, (fun o ho => by simp at ho), HB0.out⟩
  case round =>
    obtain ⟨j, lo, hi, A', c', hj, rfl, rfl, rfl, rfl, hg, HB, hb⟩ := hrel
    have HG := Lib.hid hg
    have HBr := Lib.hid hb
    clear hg hb
    by_cases hjn : j < n
    · have e1 : decide ((j : Int) < (n : Int)) = true := by simp; omega
      have e1' : (j : Int) < (n : Int) := by omega
      obtain ⟨o, ho⟩ : ∃ o, os[j]? = some o := ⟨_, List.getElem?_eq_getElem (by have := HL1.out; omega)⟩
      have a1 := HC1.out wr HBr.out j o ho
      have hoo := HO.out o (List.mem_of_getElem? ho)
      have HT := Lib.hid (show ∀ lo' hi' : Int, lo' ≤ lo → lo' ≤ o → hi ≤ hi' → o ≤ hi' → ∀ p ∈ os.take (j + 1), lo' ≤ p ∧ p ≤ hi' from fun lo' hi' q1 q2 q3 q4 p hp => by
        rw [List.take_add_one, ho] at hp
        rcases List.mem_append.1 hp with hp | hp
        · have := HB.out p hp
          omega
        · simp at hp
          subst hp
          omega)
      have HTm := Lib.hid (show (os.take (j + 1)).map (· + y) = (os.take j).map (· + y) ++ [o + y] by rw [List.take_add_one, ho]; simp)
      have HB4 := Lib.hid (HBr.out.alloc HBr.out.size (.cells #[.int .i64 (o + y)] 2))
      have HG4 := Lib.hid (HG.out.below ((Below.refl _ _).alloc (Nat.le_refl _) (.cells #[.int .i64 (o + y)] 2)))
      clear ho
      by_cases k1 : o < lo
      · by_cases k2 : hi < o
        · go_wp2_with (at_builtin; refine wpList_app_l (y := o + y) _ rfl (.tmp 75) (.tmp 82) rfl rfl HG4.out rfl (World.alloc_heap_new wr _) (by omega) HB4.out HB4.out.size ?_; intro A5 c5 w5 hg5 hb5)
          have HG5 := Lib.hid hg5
          have HB5 := Lib.hid hb5
          clear hg5 hb5
          go_wp2_with fail
          refine ⟨⟨j + 1, o, o, A5, c5, by omega, rfl, rfl, rfl, rfl, ?_, HT.out o o (by omega) (by omega) (by omega) (by omega), HB5.out⟩, by show n - ((j : Int) + 1).toNat < n - (j : Int).toNat; omega⟩
          rw [HTm.out]
          exact HG5.out
        · have k2' : (hi < o) = False := by simp only [k2]
          go_wp2_with (at_builtin; refine wpList_app_l (y := o + y) _ rfl (.tmp 75) (.tmp 82) rfl rfl HG4.out rfl (World.alloc_heap_new wr _) (by omega) HB4.out HB4.out.size ?_; intro A5 c5 w5 hg5 hb5)
          have HG5 := Lib.hid hg5
          have HB5 := Lib.hid hb5
          clear hg5 hb5
          go_wp2_with fail
          refine ⟨⟨j + 1, o, hi, A5, c5, by omega, rfl, rfl, rfl, rfl, ?_, HT.out o hi (by omega) (by omega) (by omega) (by omega), HB5.out⟩, by show n - ((j : Int) + 1).toNat < n - (j : Int).toNat; omega⟩
          rw [HTm.out]
          exact HG5.out
      · have k1' : (o < lo) = False := by simp only [k1]
        by_cases k2 : hi < o
        · go_wp2_with (at_builtin; refine wpList_app_l (y := o + y) _ rfl (.tmp 75) (.tmp 82) rfl rfl HG4.out rfl (World.alloc_heap_new wr _) (by omega) HB4.out HB4.out.size ?_; intro A5 c5 w5 hg5 hb5)
          have HG5 := Lib.hid hg5
          have HB5 := Lib.hid hb5
          clear hg5 hb5
          go_wp2_with fail
          refine ⟨⟨j + 1, lo, o, A5, c5, by omega, rfl, rfl, rfl, rfl, ?_, HT.out lo o (by omega) (by omega) (by omega) (by omega), HB5.out⟩, by show n - ((j : Int) + 1).toNat < n - (j : Int).toNat; omega⟩
          rw [HTm.out]
          exact HG5.out
        · have k2' : (hi < o) = False := by simp only [k2]
          go_wp2_with (at_builtin; refine wpList_app_l (y := o + y) _ rfl (.tmp 75) (.tmp 82) rfl rfl HG4.out rfl (World.alloc_heap_new wr _) (by omega) HB4.out HB4.out.size ?_; intro A5 c5 w5 hg5 hb5)
          have HG5 := Lib.hid hg5
          have HB5 := Lib.hid hb5
          clear hg5 hb5
          go_wp2_with fail
          refine ⟨⟨j + 1, lo, hi, A5, c5, by omega, rfl, rfl, rfl, rfl, ?_, HT.out lo hi (by omega) (by omega) (by omega) (by omega), HB5.out⟩, by show n - ((j : Int) + 1).toNat < n - (j : Int).toNat; omega⟩
          rw [HTm.out]
          exact HG5.out
    · have e1' : ((j : Int) < (n : Int)) = False := by simp only [eq_iff_iff, iff_false]; omega
      obtain rfl : j = n := by omega
      have hT : os.take j = os := List.take_of_length_le (by have := HL1.out; omega)
      rw [hT] at HG
      have hlim := HMl.out lo hi (by have := HB.out; rwa [hT] at this)
      have q1 : (C < lo) = False := by simp only [eq_iff_iff, iff_false]; omega
      have q2 : (hi < C) = False := by simp only [eq_iff_iff, iff_false]; omega
      have HRm := Lib.hid HG.out.ri
      have HR3 := Lib.hid ((HR2.out.below HBr.out (Nat.le_refl _)).le HBr.out.size)
      have HFm := Lib.hid (rfit_any (c1 := c') (c2 := c2) HRm.out HR3.out)
      clear hT hlim
      by_cases hfm : Fit (os.map (· + y)) ds
      · have HCm := Lib.hid (comb_some (c1 := c') (c2 := c2) HRm.out HR3.out hfm h0)
        rw [HMv.out] at HCm
        rw [decide_eq_true hfm] at HFm
        clear hfm
        go_wp2_with fail
        refine HCm.out.mono ?_
        rintro e w4 ⟨rfl, e4⟩
        subst w4
        go_wp2_with fail
        refine HFm.out.mono ?_
        rintro e w4 ⟨rfl, e4⟩
        subst w4
        go_wp2_with fail
        refine (alive_any _).mono ?_
        rintro e wz ⟨rfl, bz⟩
        have HBz := Lib.hid (bthen HBr.out bz (Nat.le_refl _))
        clear bz
        go_wp2_with fail
        go_ret
        exact ⟨rfl, HBz.out⟩
      · have HCm := Lib.hid (comb_bad (c1 := c') (c2 := c2) HRm.out HR3.out (by omega) (by omega) hfm)
        rw [decide_eq_false hfm] at HFm
        clear hfm
        go_wp2_with fail
        refine HCm.out.mono ?_
        rintro e w4 ⟨rfl, e4⟩
        subst w4
        go_wp2_with fail
        refine HFm.out.mono ?_
        rintro e w4 ⟨rfl, e4⟩
        subst w4
        go_wp2_with fail
        refine (alive_any _).mono ?_
        rintro e wz ⟨rfl, bz⟩
        have HBz := Lib.hid (bthen HBr.out bz (Nat.le_refl _))
        clear bz
        go_wp2_with fail
        go_ret
        exact ⟨rfl, HBz.out⟩
theorem law_any {w : World} {A1 A2 : Option Addr} {n1 c1 n2 c2 : Nat} {os ds : List Int} (h1 : Ri w w.heap.size A1 n1 os ∧ (∀ z ∈ os, in64 z) ∧ n1 ≤ maxLen) (h2 : Ri w w.heap.size A2 n2 ds ∧ (∀ z ∈ ds, in64 z) ∧ n2 ≤ maxLen) (y : Int) (hx : in64 y) : Calls Try.prog 8 #[.slice A1 n1 c1, .slice A2 n2 c2, .int .i64 y] w (Yes w) := by
  obtain ⟨h1, _, m1⟩ := h1
  obtain ⟨h2, _, m2⟩ := h2
  unfold maxLen at m1 m2
  have F : ∀ {p : Prop}, ¬ p → p = False := fun h => by simp only [h]
  by_cases hf : Fit os ds
  · by_cases h0 : n1 = 0
    · exact mid_e4 h1 h2 y h0 (by rw [← h2.1, ← hf.1, h1.1]; exact h0) (Lib.hid (comb_none h1 h2 (by omega) (by omega) hf h0))
    · have e : n1 = n2 := by rw [← h1.1, ← h2.1]; exact hf.1
      subst e
      exact mid_some h1 h2 y hf (by omega)
  · have hc := comb_bad (c1 := c1) (c2 := c2) h1 h2 (by omega) (by omega) hf
    by_cases h0 : n1 = 0
    · have h3 : n2 ≠ 0 := fun h3 => hf (by
        have e1 : os = [] := List.eq_nil_of_length_eq_zero (by rw [h1.1]; exact h0)
        have e2 : ds = [] := List.eq_nil_of_length_eq_zero (by rw [h2.1]; exact h3)
        subst e1 e2
        exact ⟨rfl, by simp, (fun o ho => by cases ho), (fun o ho => by cases ho)⟩)
      exact mid_e2 h1 h2 y h0 (F (by omega)) (by simp only [beq_eq_false_iff_ne, ne_eq]; omega) (Lib.hid hc)
    · exact mid_e1 h1 h2 y (F (by omega)) (by simp only [beq_eq_false_iff_ne, ne_eq]; omega) (Lib.hid hc)

set_option maxRecDepth 100000 in
theorem lifted (os : Os) (started : os.Started) (H : Type) (enc : TypeId × Value → H) :
    ReturnsInHanded {} Try.checked os 8 .any (Rows.chooseMiddleSpec.pre6 enc Try.prog Try.f8 Rows.chooseMiddleRow.domain false) (Rows.chooseMiddleSpec.post enc Try.prog Try.f8 false true false false) := by
  refine returnsInHanded_of_change (C := Try.checked) own started (by kernel_rfl) Try.func8
    (ChangeSpec.witness6 (enc := enc) (C := Try.checked) false ⟨#[], #[.slice none 0 0, .slice none 0 0, .int .i64 0], []⟩ 8 (by kernel_rfl) (by kernel_rfl) (by kernel_rfl) (by kernel_rfl)) ?_
  intro W base args ds gs before hval0 hW hcnd _
  have hval : ∀ (j : Nat) t v, Try.f8.params[j]? = some t → args[j]? = some v → Value.okWide Try.prog W .any base t v := hval0
  have hW' := hW
  obtain ⟨p, q, hA0, hV, rfl, hfz, hnd⟩ := hW
  have hA : DataW.TrodAll enc Try.prog W 0 (fun _ => true) true Try.f8.params.toList args.toList ds p := hA0
  rw [Try.params8] at hA hval
  obtain ⟨v0, vs0, d0, ds0, p0, q0, hargs, rfl, rfl, h0, r0⟩ := trodAll_cons hA
  obtain ⟨v1, vs1, d1, ds1, p1, q1, rfl, rfl, rfl, h1, r1⟩ := trodAll_cons r0
  obtain ⟨v2, vs2, d2, ds2, p2, q2, rfl, rfl, rfl, h2, r2⟩ := trodAll_cons r1
  obtain ⟨rfl, rfl, rfl⟩ := trodAll_nil r2
  obtain rfl : args = #[v0, v1, v2] := by cases args; simp_all
  obtain ⟨rfl, rfl⟩ := trodVars_none hV
  obtain ⟨a0, len0, cap0, rfl⟩ := okWide_slice Try.underlying33 (hval 0 33 v0 rfl rfl)
  have k0 := h0
  have lt0 : ∀ x ∈ p0, x.block < W.heap.size := by obtain ⟨m, hm⟩ := k0; exact DataW.trod_lt m _ _ _ hm
  obtain ⟨E0, w0⟩ := (show ∃ fuel, _ from h0).elim fun fuel hf => nums_open hf
  obtain ⟨a1, len1, cap1, rfl⟩ := okWide_slice Try.underlying33 (hval 1 33 v1 rfl rfl)
  have k1 := h1
  have lt1 : ∀ x ∈ p1, x.block < W.heap.size := by obtain ⟨m, hm⟩ := k1; exact DataW.trod_lt m _ _ _ hm
  obtain ⟨E1, w1⟩ := (show ∃ fuel, _ from h1).elim fun fuel hf => nums_open hf
  obtain ⟨a2, rfl, rfl, rfl, w2⟩ := open_int Try.underlying2 (hval 2 2 v2 rfl rfl) h2
  clear hA0 hval0
  refine (law_any w0 w1 a2 (in64_wf w2)).mono fun e W' ⟨he, bel⟩ => ?_
  subst he
  exact ⟨_, rfl, _, _, _, [], _, [], hW', trodAll_mk1 (shut_bool Try.underlying4 _), (trodAll_cons_mk (Below.trod laidOut (by kernel_rfl) (of_decide_eq_true (by kernel_rfl)) k0 bel lt0) (trodAll_cons_mk (Below.trod laidOut (by kernel_rfl) (of_decide_eq_true (by kernel_rfl)) k1 bel lt1) (trodAll_cons_mk (shut_int Try.underlying2 w2) trodAll_mk0))), rfl, bel.frame _, fun h => by cases h⟩

theorem chooseMiddle_holds : Rows.ChooseMiddleSaid :=
  OpenClaim.holds_of_wide 8 Try.f8 rfl rfl rfl rfl rfl rfl rfl ⟨rfl, rfl, rfl, rfl, rfl⟩ rfl rfl rfl rfl rfl (by kernel_rfl) Try.func8 (by kernel_rfl)
    (of_decide_eq_true (by kernel_rfl)) (by unfold Func.isWrapper; first | (rw [if_pos (by decide +kernel)]; kernel_rfl) | (rw [if_neg (by decide +kernel)]; exact ⟨rfl, rfl⟩))
    (fun os started H enc _ => lifted os started H enc)
#print axioms chooseMiddle_holds
end Go.Proofs.Ytjagekagpgjoaaa.chooseMiddleP
