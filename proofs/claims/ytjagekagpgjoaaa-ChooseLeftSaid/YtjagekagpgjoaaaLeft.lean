/- For every two lists of int64 and every int the Go function ChooseLeft returns true and leaves its arguments as they were. No condition. -/
import Derived.Test.YtjagekagpgjoaaaC28
namespace Go.Proofs.Ytjagekagpgjoaaa.chooseLeftP
open Go.ChangeShapes Go.WideShapes Go.ChangeAt Go.RowKit
set_option linter.unusedVariables false
set_option linter.unusedSimpArgs false
set_option maxRecDepth 100000

theorem left_long {w : World} {A1 A2 : Option Addr} {n1 c1 n2 c2 : Nat} {os ds : List Int} (h1 : Ri w w.heap.size A1 n1 os) (h2 : Ri w w.heap.size A2 n2 ds) (y : Int) (hn : (24 : Int) < (n1 : Int)) : Calls Try.prog 9 #[.slice A1 n1 c1, .slice A2 n2 c2, .int .i64 y] w (Yes w) := by
  clear h1 h2
  have HB2 := Lib.hid (Below.refl w.heap.size w)
  go_enter Try.func9, Try.ntmps9
  go_wp2_with fail
  refine (alive_any _).mono ?_
  rintro e wz ⟨rfl, bz⟩
  have HBz := Lib.hid (bthen HB2.out bz (Nat.le_refl _))
  clear bz
  go_wp2_with fail
  go_ret
  exact ⟨rfl, HBz.out⟩
theorem left_bad {w : World} {A1 A2 : Option Addr} {n1 c1 n2 c2 : Nat} {os ds : List Int} (h1 : Ri w w.heap.size A1 n1 os) (h2 : Ri w w.heap.size A2 n2 ds) (y : Int) (hn : ((24 : Int) < (n1 : Int)) = False) (m1 : n1 ≤ 9223372036854775807) (m2 : n2 ≤ 9223372036854775807) (hf : ¬ (Fit os ds ∧ 1 ≤ y)) : Calls Try.prog 9 #[.slice A1 n1 c1, .slice A2 n2 c2, .int .i64 y] w (Yes w) := by
  have HC := Lib.hid (clus_bad (c1 := c1) (c2 := c2) h1 h2 m1 m2 y hf)
  clear h1 h2 hf
  go_enter Try.func9, Try.ntmps9
  go_wp2_with fail
  refine HC.out.mono ?_
  rintro e w2 ⟨rfl, b2⟩
  have HB2 := Lib.hid b2
  clear b2
  go_wp2_with fail
  refine (alive_any _).mono ?_
  rintro e wz ⟨rfl, bz⟩
  have HBz := Lib.hid (bthen HB2.out bz (Nat.le_refl _))
  clear bz
  go_wp2_with fail
  go_ret
  exact ⟨rfl, HBz.out⟩
set_option maxHeartbeats 4000000 in
theorem left_main {w : World} {A1 A2 : Option Addr} {n c1 c2 : Nat} {os ds : List Int} (h1 : Ri w w.heap.size A1 n os) (h2 : Ri w w.heap.size A2 n ds) (y : Int) (hn : ((24 : Int) < (n : Int)) = False) (hf : Fit os ds) (hy : 1 ≤ y) (hy2 : y ≤ 9223372036854775807) : Calls Try.prog 9 #[.slice A1 n c1, .slice A2 n c2, .int .i64 y] w (Yes w) := by
  have hn24 : n ≤ 24 := by
    have : ¬ (24 : Int) < (n : Int) := by rw [hn]; exact id
    omega
  have HC := Lib.hid (clus_ok (c1 := c1) (c2 := c2) h1 h2 hf y hy hy2)
  have HR1 := Lib.hid h1
  have HR2 := Lib.hid h2
  have HL1 := Lib.hid h1.1
  have HF := Lib.hid (fit_neg hf)
  have HO := Lib.hid hf.2.2.1
  have hcl := clus_len os ds hy
  have HSt := Lib.hid (fun i p q h1 h2 => clus_step (os := os) (ds := ds) (least := y) (i := i) (p := p) (q := q) h1 h2)
  have HLt := Lib.hid (fun j h => clus_lt (os := os) (ds := ds) (least := y) (j := j) h)
  have HNg := Lib.hid (clus_neg os ds y)
  rw [h1.1] at hcl HLt
  obtain ⟨L, hL⟩ : ∃ L, L = clus os ds y := ⟨_, rfl⟩
  rw [← hL] at HC hcl HSt HLt HNg
  obtain ⟨m, hm⟩ : ∃ m, m = L.length := ⟨_, rfl⟩
  rw [← hm] at HC hcl
  have HM := Lib.hid hm
  obtain ⟨hcl1, hcl2⟩ := hcl
  have HCl := Lib.hid hcl1
  clear h1 h2 hf hL hm hcl1
  go_enter Try.func9, Try.ntmps9
  go_wp2_with fail
  refine HC.out.mono ?_
  rintro e w2 ⟨⟨g, cc, rfl, hgw, hlw⟩, b2⟩
  have HB2 := Lib.hid b2
  have HLw := Lib.hid hlw
  clear b2 hlw
  go_wp2_with fail
  go_loopw [9] (fun iv wr => ∃ j : Nat, j ≤ m ∧ iv = .int .i64 (j : Int) ∧ ∃ k, wr = w2.drewN k) (fun iv _ => (m - (match iv with | .int _ z => z.toNat | _ => 0)))
  case atStart => exact ⟨0, by omega, rfl, 0, rfl⟩
  case round =>
    obtain ⟨j, hj, rfl, k0, rfl⟩ := hrel
    by_cases hjm : j < m
    · have e1 : ((j : Int) < (m : Int)) = True := by simp only [eq_iff_iff, iff_true]; omega
      have e1' : (j : Int) < (m : Int) := by omega
      obtain ⟨q, hq⟩ : ∃ q, L[j]? = some q := ⟨_, List.getElem?_eq_getElem (by have := HM.out; omega)⟩
      have hqn : q < n := HLt.out q (List.mem_of_getElem? hq)
      obtain ⟨cur, hcu, _, _, hcv⟩ := HLw.out
      have a1 : w2.cell? ⟨g, j, none⟩ = some (.int .i64 (q : Int)) := blk_cell (w := w2) hcu (hcv j q hq)
      have q1 : ((q : Int) < 0) = False := by simp only [eq_iff_iff, iff_false]; omega
      have q2 : ((n : Int) ≤ (q : Int)) = False := by simp only [eq_iff_iff, iff_false]; omega
      by_cases hz : j = 0
      · subst hz
        clear hcv hcu hq
        go_wp2_with fail
        go_quiet (fail)
        go_wp2_with fail
        exact ⟨⟨1, by omega, rfl, k0 + nq, by first | rfl | exact World.drewN_drewN ..⟩, by show m - ((0 : Int) + 1).toNat < m - ((0 : Nat) : Int).toNat; omega⟩
      · obtain ⟨i, rfl⟩ : ∃ i, j = i + 1 := ⟨j - 1, by omega⟩
        obtain ⟨p, hp⟩ : ∃ p, L[i]? = some p := ⟨_, List.getElem?_eq_getElem (by have := HM.out; omega)⟩
        have a2 : w2.cell? ⟨g, i, none⟩ = some (.int .i64 (p : Int)) := blk_cell (w := w2) hcu (hcv i p hp)
        have hpq := HSt.out i p q hp hq
        have q3 : ((q : Int) ≤ (p : Int)) = False := by simp only [eq_iff_iff, iff_false]; omega
        have q4 : (0 : Int) < ((i + 1 : Nat) : Int) := by omega
        have him : i < m := by omega
        clear hcv hcu hq hp
        go_wp2_with fail
        go_quiet (fail)
        go_wp2_with fail
        exact ⟨⟨i + 1 + 1, by omega, rfl, k0 + nq, by first | rfl | exact World.drewN_drewN ..⟩, by show m - (((i + 1 : Nat) : Int) + 1).toNat < m - ((i + 1 : Nat) : Int).toNat; omega⟩
    · have e1' : ((j : Int) < (m : Int)) = False := by simp only [eq_iff_iff, iff_false]; omega
      have HB3 := Lib.hid (below_drewN HB2.out k0)
      have HLw3 := Lib.hid (show Lw (w2.drewN k0) g L cc from HLw.out)
      obtain ⟨w3, e3⟩ : ∃ w3, w3 = w2.drewN k0 := ⟨_, rfl⟩
      rw [← e3] at HB3 HLw3 ⊢
      clear e3
      by_cases hny : (n : Int) < y
      · have hvm : (n : Int) ≤ (m : Int) := by have := HCl.out; omega
        go_wp2_with fail
        go_loopw [11, 12] (fun mv iv wr => ∃ j : Nat, ∃ A' c', j ≤ n ∧ iv = .int .i64 (j : Int) ∧ mv = .slice A' j c' ∧ Gi 2 wr w3.heap.size A' j c' ((os.take j).map fun z => -z) ∧ RowKit.Below w3.heap.size w3 wr) (fun _ iv _ => (n - (match iv with | .int _ z => z.toNat | _ => 0)))
        case atStart => exact ⟨0, none, 0, by omega, rfl, rfl, Gi.nil _ _ _, Below.refl _ _⟩
        case round =>
          obtain ⟨j, A', c', hj, rfl, rfl, hg, hb⟩ := hrel
          have HG := Lib.hid hg
          have HBr := Lib.hid hb
          clear hg hb
          by_cases hjn : j < n
          · have e1 : ((j : Int) < (n : Int)) = True := by simp only [eq_iff_iff, iff_true]; omega
            have e1' : (j : Int) < (n : Int) := by omega
            obtain ⟨o, ho⟩ : ∃ o, os[j]? = some o := ⟨_, List.getElem?_eq_getElem (by have := HL1.out; omega)⟩
            obtain ⟨g1, off1, rfl, hg1, hc1⟩ := HR1.out.cells (by omega)
            have a1 := hc1 wr (bthen HB3.out HBr.out (Nat.le_refl _)) j o ho
            have hoo := HO.out o (List.mem_of_getElem? ho)
            have HTm := Lib.hid (show (os.take (j + 1)).map (fun z => -z) = (os.take j).map (fun z => -z) ++ [-o] by rw [List.take_add_one, ho]; simp)
            have k4 : RowKit.Below wr.heap.size wr (wr.alloc (.cells #[.int .i64 (-o)] 2)) := (Below.refl _ _).alloc (Nat.le_refl _) _
            have HB4 := Lib.hid (HBr.out.alloc HBr.out.size (.cells #[.int .i64 (-o)] 2))
            have HG4 := Lib.hid (HG.out.below k4)
            clear ho hc1 k4
            go_wp2_with (at_builtin; refine wpList_app_l (y := -o) _ rfl (.tmp 83) (.tmp 89) rfl rfl HG4.out rfl (World.alloc_heap_new wr _) (by omega) HB4.out HB4.out.size ?_; intro A5 c5 w5 hg5 hb5)
            have HG5 := Lib.hid hg5
            have HB5 := Lib.hid hb5
            clear hg5 hb5
            go_wp2_with fail
            refine ⟨⟨j + 1, A5, c5, by omega, rfl, rfl, ?_, HB5.out⟩, by show n - ((j : Int) + 1).toNat < n - (j : Int).toNat; omega⟩
            rw [HTm.out]
            exact HG5.out
          · have e1' : ((j : Int) < (n : Int)) = False := by simp only [eq_iff_iff, iff_false]; omega
            obtain rfl : j = n := by omega
            have hT : os.take j = os := List.take_of_length_le (by have := HL1.out; omega)
            rw [hT] at HG
            have HRm := Lib.hid HG.out.ri
            have HBw := Lib.hid (bthen HB3.out HBr.out (Nat.le_refl _))
            have hlr := HLw3.out.below HBr.out HLw3.out.lt
            have HLr := Lib.hid hlr
            have HR3 := Lib.hid ((HR2.out.below HBw.out (Nat.le_refl _)).le HBw.out.size)
            clear hlr
            have HC2 := Lib.hid (clus_ok (c1 := c') (c2 := c2) HRm.out HR3.out HF.out y hy hy2)
            rw [HNg.out, ← HM.out] at HC2
            clear hT
            go_wp2_with fail
            refine HC2.out.mono ?_
            rintro e w4 ⟨⟨gg, c4, rfl, hgw4, hlw4⟩, b4⟩
            have HB4 := Lib.hid (bthen HBw.out b4 (Nat.le_refl _))
            have HK4 := Lib.hid (HLr.out.below b4 HLr.out.lt)
            have HJ4 := Lib.hid hlw4
            clear b4 hlw4
            go_wp2_with fail
            refine (alive_any _).mono ?_
            rintro e w5 ⟨rfl, b5⟩
            have HB5 := Lib.hid (bthen HB4.out b5 (Nat.le_refl _))
            have hk5 := (HK4.out.below b5 HK4.out.lt).ri
            have hj5 := (HJ4.out.below b5 HJ4.out.lt).ri
            rw [← HM.out] at hk5 hj5
            have H8 := Lib.hid (ints_same (c1 := cc) (c2 := c4) hk5 hj5 (by omega))
            clear b5 hk5 hj5
            go_wp2_with fail
            refine H8.out.mono ?_
            rintro e w8 ⟨rfl, k8, rfl⟩
            go_wp2_with fail
            go_ret
            exact ⟨rfl, below_drewN HB5.out _⟩
      · have hny' : ((n : Int) < y) = False := by simp only [hny]
        have hvm : y ≤ (m : Int) := by have := HCl.out; omega
        go_wp2_with fail
        go_loopw [11, 12] (fun mv iv wr => ∃ j : Nat, ∃ A' c', j ≤ n ∧ iv = .int .i64 (j : Int) ∧ mv = .slice A' j c' ∧ Gi 2 wr w3.heap.size A' j c' ((os.take j).map fun z => -z) ∧ RowKit.Below w3.heap.size w3 wr) (fun _ iv _ => (n - (match iv with | .int _ z => z.toNat | _ => 0)))
        case atStart => exact ⟨0, none, 0, by omega, rfl, rfl, Gi.nil _ _ _, Below.refl _ _⟩
        case round =>
          obtain ⟨j, A', c', hj, rfl, rfl, hg, hb⟩ := hrel
          have HG := Lib.hid hg
          have HBr := Lib.hid hb
          clear hg hb
          by_cases hjn : j < n
          · have e1 : ((j : Int) < (n : Int)) = True := by simp only [eq_iff_iff, iff_true]; omega
            have e1' : (j : Int) < (n : Int) := by omega
            obtain ⟨o, ho⟩ : ∃ o, os[j]? = some o := ⟨_, List.getElem?_eq_getElem (by have := HL1.out; omega)⟩
            obtain ⟨g1, off1, rfl, hg1, hc1⟩ := HR1.out.cells (by omega)
            have a1 := hc1 wr (bthen HB3.out HBr.out (Nat.le_refl _)) j o ho
            have hoo := HO.out o (List.mem_of_getElem? ho)
            have HTm := Lib.hid (show (os.take (j + 1)).map (fun z => -z) = (os.take j).map (fun z => -z) ++ [-o] by rw [List.take_add_one, ho]; simp)
            have k4 : RowKit.Below wr.heap.size wr (wr.alloc (.cells #[.int .i64 (-o)] 2)) := (Below.refl _ _).alloc (Nat.le_refl _) _
            have HB4 := Lib.hid (HBr.out.alloc HBr.out.size (.cells #[.int .i64 (-o)] 2))
            have HG4 := Lib.hid (HG.out.below k4)
            clear ho hc1 k4
            go_wp2_with (at_builtin; refine wpList_app_l (y := -o) _ rfl (.tmp 83) (.tmp 89) rfl rfl HG4.out rfl (World.alloc_heap_new wr _) (by omega) HB4.out HB4.out.size ?_; intro A5 c5 w5 hg5 hb5)
            have HG5 := Lib.hid hg5
            have HB5 := Lib.hid hb5
            clear hg5 hb5
            go_wp2_with fail
            refine ⟨⟨j + 1, A5, c5, by omega, rfl, rfl, ?_, HB5.out⟩, by show n - ((j : Int) + 1).toNat < n - (j : Int).toNat; omega⟩
            rw [HTm.out]
            exact HG5.out
          · have e1' : ((j : Int) < (n : Int)) = False := by simp only [eq_iff_iff, iff_false]; omega
            obtain rfl : j = n := by omega
            have hT : os.take j = os := List.take_of_length_le (by have := HL1.out; omega)
            rw [hT] at HG
            have HRm := Lib.hid HG.out.ri
            have HBw := Lib.hid (bthen HB3.out HBr.out (Nat.le_refl _))
            have hlr := HLw3.out.below HBr.out HLw3.out.lt
            have HLr := Lib.hid hlr
            have HR3 := Lib.hid ((HR2.out.below HBw.out (Nat.le_refl _)).le HBw.out.size)
            clear hlr
            have HC2 := Lib.hid (clus_ok (c1 := c') (c2 := c2) HRm.out HR3.out HF.out y hy hy2)
            rw [HNg.out, ← HM.out] at HC2
            clear hT
            go_wp2_with fail
            refine HC2.out.mono ?_
            rintro e w4 ⟨⟨gg, c4, rfl, hgw4, hlw4⟩, b4⟩
            have HB4 := Lib.hid (bthen HBw.out b4 (Nat.le_refl _))
            have HK4 := Lib.hid (HLr.out.below b4 HLr.out.lt)
            have HJ4 := Lib.hid hlw4
            clear b4 hlw4
            go_wp2_with fail
            refine (alive_any _).mono ?_
            rintro e w5 ⟨rfl, b5⟩
            have HB5 := Lib.hid (bthen HB4.out b5 (Nat.le_refl _))
            have hk5 := (HK4.out.below b5 HK4.out.lt).ri
            have hj5 := (HJ4.out.below b5 HJ4.out.lt).ri
            rw [← HM.out] at hk5 hj5
            have H8 := Lib.hid (ints_same (c1 := cc) (c2 := c4) hk5 hj5 (by omega))
            clear b5 hk5 hj5
            go_wp2_with fail
            refine H8.out.mono ?_
            rintro e w8 ⟨rfl, k8, rfl⟩
            go_wp2_with fail
            go_ret
            exact ⟨rfl, below_drewN HB5.out _⟩
theorem law_any {w : World} {A1 A2 : Option Addr} {n1 c1 n2 c2 : Nat} {os ds : List Int} (h1 : Ri w w.heap.size A1 n1 os ∧ (∀ z ∈ os, in64 z) ∧ n1 ≤ maxLen) (h2 : Ri w w.heap.size A2 n2 ds ∧ (∀ z ∈ ds, in64 z) ∧ n2 ≤ maxLen) (y : Int) (hx : in64 y) : Calls Try.prog 9 #[.slice A1 n1 c1, .slice A2 n2 c2, .int .i64 y] w (Yes w) := by
  obtain ⟨h1, _, m1⟩ := h1
  obtain ⟨h2, _, m2⟩ := h2
  unfold maxLen at m1 m2
  unfold in64 at hx
  by_cases hn : (24 : Int) < (n1 : Int)
  · exact left_long h1 h2 y hn
  have hn' : ((24 : Int) < (n1 : Int)) = False := by simp only [hn]
  by_cases hf : Fit os ds ∧ 1 ≤ y
  · have e : n1 = n2 := by rw [← h1.1, ← h2.1]; exact hf.1.1
    subst e
    exact left_main h1 h2 y hn' hf.1 hf.2 (by omega)
  · exact left_bad h1 h2 y hn' (by omega) (by omega) hf

set_option maxRecDepth 100000 in
theorem lifted (os : Os) (started : os.Started) (H : Type) (enc : TypeId × Value → H) :
    ReturnsInHanded {} Try.checked os 9 .any (Rows.chooseLeftSpec.pre6 enc Try.prog Try.f9 Rows.chooseLeftRow.domain false) (Rows.chooseLeftSpec.post enc Try.prog Try.f9 false true false false) := by
  refine returnsInHanded_of_change (C := Try.checked) own started (by kernel_rfl) Try.func9
    (ChangeSpec.witness6 (enc := enc) (C := Try.checked) false ⟨#[], #[.slice none 0 0, .slice none 0 0, .int .i64 0], []⟩ 8 (by kernel_rfl) (by kernel_rfl) (by kernel_rfl) (by kernel_rfl)) ?_
  intro W base args ds gs before hval0 hW hcnd _
  have hval : ∀ (j : Nat) t v, Try.f9.params[j]? = some t → args[j]? = some v → Value.okWide Try.prog W .any base t v := hval0
  have hW' := hW
  obtain ⟨p, q, hA0, hV, rfl, hfz, hnd⟩ := hW
  have hA : DataW.TrodAll enc Try.prog W 0 (fun _ => true) true Try.f9.params.toList args.toList ds p := hA0
  rw [Try.params9] at hA hval
  obtain ⟨v0, vs0, d0, ds0, p0, q0, hargs, rfl, rfl, h0, r0⟩ := trodAll_cons hA
  obtain ⟨v1, vs1, d1, ds1, p1, q1, rfl, rfl, rfl, h1, r1⟩ := trodAll_cons r0
  obtain ⟨v2, vs2, d2, ds2, p2, q2, rfl, rfl, rfl, h2, r2⟩ := trodAll_cons r1
  obtain ⟨rfl, rfl, rfl⟩ := trodAll_nil r2
  obtain rfl : args = #[v0, v1, v2] := by cases args; simp_all
  obtain ⟨rfl, rfl⟩ := trodVars_none hV
  obtain ⟨a0, len0, cap0, rfl⟩ := okWide_slice Try.underlying33 (hval 0 33 v0 rfl rfl)
  have k0 := h0
  have lt0 : ∀ x ∈ p0, x.block < W.heap.size := by obtain ⟨m, hm⟩ := k0; exact DataW.trod_lt m _ _ _ hm
  obtain ⟨E0, w0⟩ := (show ∃ fuel, _ from h0).elim fun fuel hf => nums_open hf
  obtain ⟨a1, len1, cap1, rfl⟩ := okWide_slice Try.underlying33 (hval 1 33 v1 rfl rfl)
  have k1 := h1
  have lt1 : ∀ x ∈ p1, x.block < W.heap.size := by obtain ⟨m, hm⟩ := k1; exact DataW.trod_lt m _ _ _ hm
  obtain ⟨E1, w1⟩ := (show ∃ fuel, _ from h1).elim fun fuel hf => nums_open hf
  obtain ⟨a2, rfl, rfl, rfl, w2⟩ := open_int Try.underlying3 (hval 2 3 v2 rfl rfl) h2
  clear hA0 hval0
  refine (law_any w0 w1 a2 (in64_wf w2)).mono fun e W' ⟨he, bel⟩ => ?_
  subst he
  exact ⟨_, rfl, _, _, _, [], _, [], hW', trodAll_mk1 (shut_bool Try.underlying4 _), (trodAll_cons_mk (Below.trod laidOut (by kernel_rfl) (of_decide_eq_true (by kernel_rfl)) k0 bel lt0) (trodAll_cons_mk (Below.trod laidOut (by kernel_rfl) (of_decide_eq_true (by kernel_rfl)) k1 bel lt1) (trodAll_cons_mk (shut_int Try.underlying3 w2) trodAll_mk0))), rfl, bel.frame _, fun h => by cases h⟩

theorem chooseLeft_holds : Rows.ChooseLeftSaid :=
  OpenClaim.holds_of_wide 9 Try.f9 rfl rfl rfl rfl rfl rfl rfl ⟨rfl, rfl, rfl, rfl, rfl⟩ rfl rfl rfl rfl rfl (by kernel_rfl) Try.func9 (by kernel_rfl)
    (of_decide_eq_true (by kernel_rfl)) (by unfold Func.isWrapper; first | (rw [if_pos (by decide +kernel)]; kernel_rfl) | (rw [if_neg (by decide +kernel)]; exact ⟨rfl, rfl⟩))
    (fun os started H enc _ => lifted os started H enc)
#print axioms chooseLeft_holds
end Go.Proofs.Ytjagekagpgjoaaa.chooseLeftP
