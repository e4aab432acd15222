/- choose: the document's own: may offsets and distances be. -/
import Derived.Test.YtjagekagpgjoaaaC16
namespace Go.Proofs.Ytjagekagpgjoaaa
open Go.RowKit
set_option linter.unusedVariables false
set_option linter.unusedSimpArgs false
set_option maxRecDepth 100000
theorem fit_bad {os ds : List Int} {i : Nat} {o d : Int} (ho : os[i]? = some o) (hd : ds[i]? = some d) (h : ¬ ((-1099511627776 ≤ o ∧ o ≤ 1099511627776) ∧ 0 ≤ d ∧ d ≤ 1099511627776)) : ¬ Fit os ds := fun x => h ⟨x.2.2.1 o (List.mem_of_getElem? ho), x.2.2.2 d (List.mem_of_getElem? hd)⟩
set_option maxHeartbeats 2000000 in
theorem rfit_len {w : World} {A1 A2 : Option Addr} {B n c1 c2 : Nat} {os ds : List Int} (h1 : Ri w B A1 n os) (h2 : Ri w B A2 n ds) (hn : n ≤ 64) :
    Calls Try.prog 22 #[.slice A1 n c1, .slice A2 n c2] w fun e w' => e = .returned (.bool (decide (Fit os ds))) ∧ w' = w := by
  have HR1 := Lib.hid h1
  have HR2 := Lib.hid h2
  have HL1 := Lib.hid h1.1
  have HL2 := Lib.hid h2.1
  clear h1 h2
  obtain ⟨b, hb⟩ : ∃ b, b = decide (Fit os ds) := ⟨_, rfl⟩
  rw [← hb]
  have HB := Lib.hid hb
  clear hb
  go_enter Try.func22, Try.ntmps22
  go_wp2_with fail
  go_loopw [5] (fun iv wr => ∃ j : Nat, j ≤ n ∧ iv = .int .i64 (j : Int) ∧ Hid (∀ (k : Nat) (o d : Int), k < j → os[k]? = some o → ds[k]? = some d → (-1099511627776 ≤ o ∧ o ≤ 1099511627776) ∧ 0 ≤ d ∧ d ≤ 1099511627776) ∧ wr = w) (fun iv _ => (n - (match iv with | .int _ z => z.toNat | _ => 0)))
  case atStart => exact ⟨0, by omega, rfl, fun k o d hk => absurd hk (Nat.not_lt_zero _), rfl⟩
  case round =>
    obtain ⟨j, hj, rfl, HN, rfl⟩ := hrel
    by_cases hjn : j < n
    · have e1 : decide ((j : Int) < (n : Int)) = true := by simp; omega
      have e1' : (j : Int) < (n : Int) := by omega
      obtain ⟨o, ho⟩ : ∃ o, os[j]? = some o := ⟨_, List.getElem?_eq_getElem (by have := HL1.out; omega)⟩
      obtain ⟨d, hd⟩ : ∃ d, ds[j]? = some d := ⟨_, List.getElem?_eq_getElem (by have := HL2.out; omega)⟩
      obtain ⟨g1, off1, rfl, _, hc1⟩ := HR1.out.cells (by omega)
      obtain ⟨g2, off2, rfl, _, hc2⟩ := HR2.out.cells (by omega)
      have c1 := hc1 wr (Below.refl _ _) j o ho
      have c2 := hc2 wr (Below.refl _ _) j d hd
      have HO := Lib.hid ho
      have HD := Lib.hid hd
      clear hc1 hc2 ho hd
      by_cases k0 : o < -1099511627776
      · obtain rfl : b = false := by rw [HB.out]; exact decide_eq_false (fit_bad HO.out HD.out (by omega))
        go_wp2_with fail
        go_ret
        exact ⟨rfl, rfl⟩
      · have k0' : (o < -1099511627776) = False := by simp only [k0]
        by_cases k1 : 1099511627776 < o
        · obtain rfl : b = false := by rw [HB.out]; exact decide_eq_false (fit_bad HO.out HD.out (by omega))
          go_wp2_with fail
          go_ret
          exact ⟨rfl, rfl⟩
        · have k1' : (1099511627776 < o) = False := by simp only [k1]
          by_cases k2 : d < 0
          · obtain rfl : b = false := by rw [HB.out]; exact decide_eq_false (fit_bad HO.out HD.out (by omega))
            go_wp2_with fail
            go_ret
            exact ⟨rfl, rfl⟩
          · have k2' : (d < 0) = False := by simp only [k2]
            by_cases k3 : 1099511627776 < d
            · obtain rfl : b = false := by rw [HB.out]; exact decide_eq_false (fit_bad HO.out HD.out (by omega))
              go_wp2_with fail
              go_ret
              exact ⟨rfl, rfl⟩
            · have k3' : (1099511627776 < d) = False := by simp only [k3]
              have HX := Lib.hid (show (-1099511627776 ≤ o ∧ o ≤ 1099511627776) ∧ 0 ≤ d ∧ d ≤ 1099511627776 by omega)
              go_wp2_with fail
              exact ⟨⟨j + 1, by omega, rfl, fun k o' d' hk h1 h2 => by
                rcases Nat.lt_or_eq_of_le (Nat.le_of_lt_succ hk) with hk | rfl
                · exact HN.out k o' d' hk h1 h2
                · rw [HO.out] at h1; rw [HD.out] at h2; cases h1; cases h2; exact HX.out, by first | trivial | rfl⟩, by show n - ((j : Int) + 1).toNat < n - (j : Int).toNat; omega⟩
    · have e1' : ((j : Int) < (n : Int)) = False := by simp only [eq_iff_iff, iff_false]; omega
      obtain rfl : b = true := by
        rw [HB.out]
        refine decide_eq_true ⟨by rw [HL1.out, HL2.out], by rw [HL1.out]; exact hn, fun o ho => ?_, fun d hd => ?_⟩
        · obtain ⟨k, hk, rfl⟩ := List.getElem_of_mem ho
          have h1 := HL1.out
          have h2 := HL2.out
          exact (HN.out k _ _ (by omega) (List.getElem?_eq_getElem hk) (List.getElem?_eq_getElem (show k < ds.length by omega))).1
        · obtain ⟨k, hk, rfl⟩ := List.getElem_of_mem hd
          have h1 := HL1.out
          have h2 := HL2.out
          exact (HN.out k _ _ (by omega) (List.getElem?_eq_getElem (show k < os.length by omega)) (List.getElem?_eq_getElem hk)).2
      go_wp2_with fail
      go_ret
      exact ⟨rfl, rfl⟩
theorem rfit_any {w : World} {A1 A2 : Option Addr} {B n1 c1 n2 c2 : Nat} {os ds : List Int} (h1 : Ri w B A1 n1 os) (h2 : Ri w B A2 n2 ds) :
    Calls Try.prog 22 #[.slice A1 n1 c1, .slice A2 n2 c2] w fun e w' => e = .returned (.bool (decide (Fit os ds))) ∧ w' = w := by
  by_cases e : n1 = n2
  · subst e
    by_cases e2 : n1 ≤ 64
    · exact rfit_len h1 h2 e2
    · rw [decide_eq_false (fun x : Fit os ds => e2 (by rw [← h1.1]; exact x.2.1))]
      have e3 : (64 : Int) < (n1 : Int) := by omega
      clear h1 h2
      go_enter Try.func22, Try.ntmps22
      go_wp2_with fail
      go_ret
      exact ⟨rfl, rfl⟩
  · rw [decide_eq_false (fun x : Fit os ds => e (by rw [← h1.1, ← h2.1]; exact x.1))]
    have e1 : ((n1 : Int) = (n2 : Int)) = False := by simp only [eq_iff_iff, iff_false]; omega
    have e2 : ((n1 : Int) == (n2 : Int)) = false := by simp only [beq_eq_false_iff_ne, ne_eq]; omega
    clear h1 h2
    go_enter Try.func22, Try.ntmps22
    go_wp2_with fail
    go_ret
    exact ⟨rfl, rfl⟩
end Go.Proofs.Ytjagekagpgjoaaa
