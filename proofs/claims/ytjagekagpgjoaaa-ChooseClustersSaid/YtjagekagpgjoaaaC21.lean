/- choose: the document's own Region, walked. -/
import Derived.Test.YtjagekagpgjoaaaC20
namespace Go.Proofs.Ytjagekagpgjoaaa
open Go.RowKit
set_option linter.unusedVariables false
set_option linter.unusedSimpArgs false
set_option maxRecDepth 100000
theorem Rs.drewN {w : World} {B n : Nat} {A : Option Addr} {xs : List Sp} (h : Rs w B A n xs) (k : Nat) : Rs (w.drewN k) B A n xs := h
def RRes (xs : List Sp) (e : Ending) : Prop := ∃ lo hi er : Int, e = .returned (.tuple #[.int .i64 lo, .int .i64 hi, .int .i64 er]) ∧ RegIs xs lo hi er
set_option maxHeartbeats 2000000 in
theorem rregion_any {w : World} {A : Option Addr} {B n c : Nat} {xs : List Sp} (h : Rs w B A n xs) (hmx : n ≤ 9223372036854775807) :
    Calls Try.prog 12 #[.slice A n c] w fun e w' => RRes xs e ∧ ∃ k, w' = w.drewN k := by
  have HR := Lib.hid h
  have HL := Lib.hid h.1
  clear h
  by_cases hn : 64 < n
  · have hn1 : (64 : Int) < (n : Int) := by omega
    go_enter Try.func12, Try.ntmps12
    go_wp2_with fail
    go_ret3
    exact ⟨⟨0, 0, 1, rfl, .inl ⟨fun x => by have := HL.out; omega, rfl, rfl, rfl⟩⟩, 0, rfl⟩
  have hn1 : ((64 : Int) < (n : Int)) = False := by simp only [eq_iff_iff, iff_false]; omega
  go_enter Try.func12, Try.ntmps12
  go_wp2_with fail
  go_loopw [5] (fun iv wr => ∃ j : Nat, j ≤ n ∧ iv = .int .i64 (j : Int) ∧ Hid (∀ (k : Nat) (s : Sp), k < j → xs[k]? = some s → s.may) ∧ ∃ k, wr = w.drewN k) (fun iv _ => (n - (match iv with | .int _ z => z.toNat | _ => 0)))
  case atStart => exact ⟨0, by omega, rfl, fun k s hk => absurd hk (Nat.not_lt_zero _), 0, rfl⟩
  case round =>
    obtain ⟨j, hj, rfl, HN, k0, rfl⟩ := hrel
    by_cases hjn : j < n
    · have e1 : decide ((j : Int) < (n : Int)) = true := by simp; omega
      have e1' : (j : Int) < (n : Int) := by omega
      obtain ⟨s, hs⟩ : ∃ s, xs[j]? = some s := ⟨_, List.getElem?_eq_getElem (by have := HL.out; omega)⟩
      obtain ⟨g, off, rfl, hg, hc⟩ := HR.out.cells (by omega)
      obtain ⟨c0, c1, c2⟩ := hc w (Below.refl _ _) j s hs
      have HS := Lib.hid hs
      clear hc hs
      by_cases k1 : s.mid < s.lo
      · have HX := Lib.hid (show ¬ AllMay xs from fun x => by have := x s (List.mem_of_getElem? HS.out); unfold Sp.may at this; omega)
        go_wp2_with fail
        go_quiet (fail)
        go_wp2_with fail
        go_ret3
        exact ⟨⟨0, 0, 1, rfl, .inl ⟨fun x => HX.out x.2, rfl, rfl, rfl⟩⟩, _, World.drewN_drewN ..⟩
      · have k1' : (s.mid < s.lo) = False := by simp only [k1]
        by_cases k2 : s.hi < s.mid
        · have HX := Lib.hid (show ¬ AllMay xs from fun x => by have := x s (List.mem_of_getElem? HS.out); unfold Sp.may at this; omega)
          go_wp2_with fail
          go_quiet (fail)
          go_wp2_with fail
          go_ret3
          exact ⟨⟨0, 0, 1, rfl, .inl ⟨fun x => HX.out x.2, rfl, rfl, rfl⟩⟩, _, World.drewN_drewN ..⟩
        · have k2' : (s.hi < s.mid) = False := by simp only [k2]
          have HX := Lib.hid (show s.may from ⟨by omega, by omega⟩)
          go_wp2_with fail
          go_quiet (fail)
          go_wp2_with fail
          exact ⟨⟨j + 1, by omega, rfl, fun k t hk ht => by
            rcases Nat.lt_or_eq_of_le (Nat.le_of_lt_succ hk) with hk | rfl
            · exact HN.out k t hk ht
            · rw [HS.out] at ht; cases ht; exact HX.out, k0 + nq, by first | rfl | exact World.drewN_drewN ..⟩, by show n - ((j : Int) + 1).toNat < n - (j : Int).toNat; omega⟩
    · have e1' : ((j : Int) < (n : Int)) = False := by simp only [eq_iff_iff, iff_false]; omega
      have HM := Lib.hid (show AllMay xs from fun s hs => by
        obtain ⟨k, hk, rfl⟩ := List.getElem_of_mem hs
        exact HN.out k _ (by have := HL.out; omega) (List.getElem?_eq_getElem hk))
      clear HN hj hjn
      obtain ⟨w1, e2⟩ : ∃ w1, w1 = w.drewN k0 := ⟨_, rfl⟩
      have HW := Lib.hid (show ∃ k, w1 = w.drewN k from ⟨_, e2⟩)
      have HR1 := Lib.hid (show Rs w1 B A n xs by rw [e2]; exact HR.out.drewN k0)
      rw [← e2]
      clear e2 k0
      go_wp2_with fail
      go_loopw [6, 7, 8, 9, 10] (fun lov hiv fv iv _ wr => ∃ k : Nat, ∃ lo hi : Int, ∃ f : Bool, k ≤ 2 * n ∧ iv = .int .i64 (k : Int) ∧ lov = .int .i64 lo ∧ hiv = .int .i64 hi ∧ fv = .bool f ∧ Hid (Fnd xs k f lo hi) ∧ wr = w1) (fun _ _ _ iv _ _ => (2 * n - (match iv with | .int _ z => z.toNat | _ => 0)))
      case atStart => exact ⟨0, 0, 0, false, by omega, rfl, rfl, rfl, rfl, ⟨fun _ => ⟨rfl, rfl, fun i hi => by omega⟩, (fun e => by cases e)⟩, rfl⟩
      case round =>
        obtain ⟨k, lo, hi, f, hk, rfl, rfl, rfl, rfl, HF, rfl⟩ := hrel
        by_cases hkn : k < 2 * n
        · have e1 : decide ((k : Int) < 2 * (n : Int)) = true := by simp; omega
          have e1' : (k : Int) < 2 * (n : Int) := by omega
          obtain ⟨q, hq⟩ : ∃ q, q = k / 2 := ⟨_, rfl⟩
          have hqn : q < n := by omega
          have hq2 : (k : Int) / 2 = (q : Int) := by omega
          obtain ⟨s, hs⟩ : ∃ s, xs[q]? = some s := ⟨_, List.getElem?_eq_getElem (by have := HL.out; omega)⟩
          obtain ⟨g, off, rfl, hg, hc⟩ := HR1.out.cells (by omega)
          obtain ⟨c0, c1, c2⟩ := hc wr (Below.refl _ _) q s hs
          have HP := Lib.hid (show pt xs k = if k % 2 = 1 then s.hi else s.lo by unfold pt; rw [← hq, hs])
          have HCv := Lib.hid (fun x => rcover_any (c := c) x HR1.out (by omega))
          have hcl := fun x => cov_lim xs x
          have HMj := Lib.hid (show ∀ x, Maj xs x ↔ (n : Int) < 2 * cov xs x from fun x => by unfold Maj; rw [HL.out])
          clear hc hs hq
          by_cases hpar : k % 2 = 1
          · skip
            have hp : (k : Int) % 2 = 1 := by omega
            have HPt := Lib.hid (show pt xs k = s.hi by rw [HP.out]; rw [if_pos hpar])
            have HCx := Lib.hid (HCv.out s.hi)
            have hcx := hcl s.hi
            rw [HL.out] at hcx
            obtain ⟨C, hC⟩ : ∃ C, C = cov xs s.hi := ⟨_, rfl⟩
            rw [← hC] at HCx hcx
            have HM1 := Lib.hid (show Maj xs (pt xs k) ↔ (n : Int) < 2 * C by rw [HPt.out, HMj.out, hC])
            clear hC hcl
            by_cases k1 : 2 * C ≤ (n : Int)
            · have HN2 := Lib.hid (HF.out.skip (fun x => by have := HM1.out.1 x; omega))
              go_wp2_with (go_at_call 16; (with_reducible refine HCx.out.mono ?_); rintro e w9 ⟨rfl, h9⟩; subst w9)
              exact ⟨⟨k + 1, lo, hi, f, by omega, rfl, rfl, rfl, rfl, HN2.out, by first | trivial | rfl⟩, by show 2 * n - ((k : Int) + 1).toNat < 2 * n - (k : Int).toNat; omega⟩
            · have k1' : (2 * C ≤ (n : Int)) = False := by simp only [k1]
              have HMm := Lib.hid (HM1.out.2 (by omega))
              cases f
              · have HN2 := Lib.hid (HF.out.first HMm.out)
                rw [HPt.out] at HN2
                go_wp2_with (go_at_call 16; (with_reducible refine HCx.out.mono ?_); rintro e w9 ⟨rfl, h9⟩; subst w9)
                exact ⟨⟨k + 1, s.hi, s.hi, true, by omega, rfl, rfl, rfl, rfl, HN2.out, by first | trivial | rfl⟩, by show 2 * n - ((k : Int) + 1).toNat < 2 * n - (k : Int).toNat; omega⟩
              · have HN2 := Lib.hid (fun lo' hi' => HF.out.next HMm.out (lo' := lo') (hi' := hi'))
                rw [HPt.out] at HN2
                by_cases k2 : s.hi < lo
                · skip
                  by_cases k3 : hi < s.hi
                  · skip
                    go_wp2_with (go_at_call 16; (with_reducible refine HCx.out.mono ?_); rintro e w9 ⟨rfl, h9⟩; subst w9)
                    exact ⟨⟨k + 1, s.hi, s.hi, true, by omega, rfl, rfl, rfl, rfl, HN2.out _ _ (by split <;> omega) (by split <;> omega), by first | trivial | rfl⟩, by show 2 * n - ((k : Int) + 1).toNat < 2 * n - (k : Int).toNat; omega⟩
                  · have k3' : (hi < s.hi) = False := by simp only [k3]
                    go_wp2_with (go_at_call 16; (with_reducible refine HCx.out.mono ?_); rintro e w9 ⟨rfl, h9⟩; subst w9)
                    exact ⟨⟨k + 1, s.hi, hi, true, by omega, rfl, rfl, rfl, rfl, HN2.out _ _ (by split <;> omega) (by split <;> omega), by first | trivial | rfl⟩, by show 2 * n - ((k : Int) + 1).toNat < 2 * n - (k : Int).toNat; omega⟩
                · have k2' : (s.hi < lo) = False := by simp only [k2]
                  by_cases k3 : hi < s.hi
                  · skip
                    go_wp2_with (go_at_call 16; (with_reducible refine HCx.out.mono ?_); rintro e w9 ⟨rfl, h9⟩; subst w9)
                    exact ⟨⟨k + 1, lo, s.hi, true, by omega, rfl, rfl, rfl, rfl, HN2.out _ _ (by split <;> omega) (by split <;> omega), by first | trivial | rfl⟩, by show 2 * n - ((k : Int) + 1).toNat < 2 * n - (k : Int).toNat; omega⟩
                  · have k3' : (hi < s.hi) = False := by simp only [k3]
                    go_wp2_with (go_at_call 16; (with_reducible refine HCx.out.mono ?_); rintro e w9 ⟨rfl, h9⟩; subst w9)
                    exact ⟨⟨k + 1, lo, hi, true, by omega, rfl, rfl, rfl, rfl, HN2.out _ _ (by split <;> omega) (by split <;> omega), by first | trivial | rfl⟩, by show 2 * n - ((k : Int) + 1).toNat < 2 * n - (k : Int).toNat; omega⟩
          · skip
            have hp : (k : Int) % 2 = 0 := by omega
            have HPt := Lib.hid (show pt xs k = s.lo by rw [HP.out]; rw [if_neg (by omega)])
            have HCx := Lib.hid (HCv.out s.lo)
            have hcx := hcl s.lo
            rw [HL.out] at hcx
            obtain ⟨C, hC⟩ : ∃ C, C = cov xs s.lo := ⟨_, rfl⟩
            rw [← hC] at HCx hcx
            have HM1 := Lib.hid (show Maj xs (pt xs k) ↔ (n : Int) < 2 * C by rw [HPt.out, HMj.out, hC])
            clear hC hcl
            by_cases k1 : 2 * C ≤ (n : Int)
            · have HN2 := Lib.hid (HF.out.skip (fun x => by have := HM1.out.1 x; omega))
              go_wp2_with (go_at_call 16; (with_reducible refine HCx.out.mono ?_); rintro e w9 ⟨rfl, h9⟩; subst w9)
              exact ⟨⟨k + 1, lo, hi, f, by omega, rfl, rfl, rfl, rfl, HN2.out, by first | trivial | rfl⟩, by show 2 * n - ((k : Int) + 1).toNat < 2 * n - (k : Int).toNat; omega⟩
            · have k1' : (2 * C ≤ (n : Int)) = False := by simp only [k1]
              have HMm := Lib.hid (HM1.out.2 (by omega))
              cases f
              · have HN2 := Lib.hid (HF.out.first HMm.out)
                rw [HPt.out] at HN2
                go_wp2_with (go_at_call 16; (with_reducible refine HCx.out.mono ?_); rintro e w9 ⟨rfl, h9⟩; subst w9)
                exact ⟨⟨k + 1, s.lo, s.lo, true, by omega, rfl, rfl, rfl, rfl, HN2.out, by first | trivial | rfl⟩, by show 2 * n - ((k : Int) + 1).toNat < 2 * n - (k : Int).toNat; omega⟩
              · have HN2 := Lib.hid (fun lo' hi' => HF.out.next HMm.out (lo' := lo') (hi' := hi'))
                rw [HPt.out] at HN2
                by_cases k2 : s.lo < lo
                · skip
                  by_cases k3 : hi < s.lo
                  · skip
                    go_wp2_with (go_at_call 16; (with_reducible refine HCx.out.mono ?_); rintro e w9 ⟨rfl, h9⟩; subst w9)
                    exact ⟨⟨k + 1, s.lo, s.lo, true, by omega, rfl, rfl, rfl, rfl, HN2.out _ _ (by split <;> omega) (by split <;> omega), by first | trivial | rfl⟩, by show 2 * n - ((k : Int) + 1).toNat < 2 * n - (k : Int).toNat; omega⟩
                  · have k3' : (hi < s.lo) = False := by simp only [k3]
                    go_wp2_with (go_at_call 16; (with_reducible refine HCx.out.mono ?_); rintro e w9 ⟨rfl, h9⟩; subst w9)
                    exact ⟨⟨k + 1, s.lo, hi, true, by omega, rfl, rfl, rfl, rfl, HN2.out _ _ (by split <;> omega) (by split <;> omega), by first | trivial | rfl⟩, by show 2 * n - ((k : Int) + 1).toNat < 2 * n - (k : Int).toNat; omega⟩
                · have k2' : (s.lo < lo) = False := by simp only [k2]
                  by_cases k3 : hi < s.lo
                  · skip
                    go_wp2_with (go_at_call 16; (with_reducible refine HCx.out.mono ?_); rintro e w9 ⟨rfl, h9⟩; subst w9)
                    exact ⟨⟨k + 1, lo, s.lo, true, by omega, rfl, rfl, rfl, rfl, HN2.out _ _ (by split <;> omega) (by split <;> omega), by first | trivial | rfl⟩, by show 2 * n - ((k : Int) + 1).toNat < 2 * n - (k : Int).toNat; omega⟩
                  · have k3' : (hi < s.lo) = False := by simp only [k3]
                    go_wp2_with (go_at_call 16; (with_reducible refine HCx.out.mono ?_); rintro e w9 ⟨rfl, h9⟩; subst w9)
                    exact ⟨⟨k + 1, lo, hi, true, by omega, rfl, rfl, rfl, rfl, HN2.out _ _ (by split <;> omega) (by split <;> omega), by first | trivial | rfl⟩, by show 2 * n - ((k : Int) + 1).toNat < 2 * n - (k : Int).toNat; omega⟩
        · have e1' : ((k : Int) < 2 * (n : Int)) = False := by simp only [eq_iff_iff, iff_false]; omega
          have HW2 := Lib.hid (show RegIs xs lo hi (if f then 0 else 150) from by
            have h1 := HF.out
            rw [show k = 2 * xs.length by have := HL.out; omega] at h1
            exact h1.whole (by have := HL.out; omega) HM.out)
          cases f
          · obtain ⟨z1, z2, _⟩ := HF.out.1 rfl
            subst z1 z2
            go_wp2_with fail
            go_ret3
            exact ⟨⟨0, 0, 150, rfl, HW2.out⟩, HW.out⟩
          · go_wp2_with fail
            go_ret3
            exact ⟨⟨lo, hi, 0, rfl, HW2.out⟩, HW.out⟩
end Go.Proofs.Ytjagekagpgjoaaa
