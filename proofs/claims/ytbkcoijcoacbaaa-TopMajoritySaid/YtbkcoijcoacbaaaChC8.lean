/- choose: the region. -/
import Derived.Test.YtbkcoijcoacbaaaChC7
namespace Go.Proofs.Ytbkcoijcoacbaaa.Ch
open Go.RowKit
set_option linter.unusedVariables false
set_option linter.unusedSimpArgs false
set_option maxRecDepth 100000
/-- what Region tells -/
def RegIs (xs : List Sp) (lo hi er : Int) : Prop :=
  (¬ (xs.length ≤ 64 ∧ AllMay xs) ∧ lo = 0 ∧ hi = 0 ∧ er = 1) ∨ (xs.length ≤ 64 ∧ AllMay xs ∧ ((IsReg xs lo hi ∧ er = 0) ∨ ((∀ x, ¬ Maj xs x) ∧ lo = 0 ∧ hi = 0 ∧ er = 150)))
theorem drop_at {E : List Ev} {j : Nat} {e : Ev} (h : E[j]? = some e) : E.drop j = e :: E.drop (j + 1) := by
  obtain ⟨hlt, rfl⟩ := List.getElem?_eq_some_iff.1 h
  exact List.drop_eq_getElem_cons hlt
theorem run_skip {n : Int} {e : Ev} {E : List Ev} {had : Int} {f : Bool} {lo hi : Int} (h : 2 * max had (had + e.more) ≤ n) : run n (e :: E) had f lo hi = run n E (had + e.more) f lo hi := if_pos h
theorem run_take {n : Int} {e : Ev} {E : List Ev} {had : Int} {f : Bool} {lo hi : Int} (h : ¬ 2 * max had (had + e.more) ≤ n) : run n (e :: E) had f lo hi = run n E (had + e.more) true (if f then lo else e.at_) e.at_ := if_neg h
set_option maxHeartbeats 2000000 in
theorem region_ok {w : World} {A : Option Addr} {B n c : Nat} {xs : List Sp} (h : Rs w B A n xs) (hB : B ≤ w.heap.size) (hmx : n ≤ 64) (hm : AllMay xs) :
    Calls Try.prog 12 #[.slice A n c] w fun e w' => (∃ lo hi er : Int, e = .returned (.tuple #[.int .i64 lo, .int .i64 hi, .int .i64 er]) ∧ RegIs xs lo hi er) ∧ RowKit.Below w.heap.size w w' := by
  have HL := Lib.hid h.1
  have HC := Lib.hid (contains_any (c := c) h hB (by omega))
  rw [decide_eq_true hm] at HC
  have HR := Lib.hid h
  have HB := Lib.hid hB
  have HM := Lib.hid hm
  clear h hB hm
  have h64 : ((64 : Int) < (n : Int)) = False := by simp only [eq_iff_iff, iff_false]; omega
  go_enter Try.func12, Try.ntmps12
  go_wp2_with fail
  refine HC.out.mono ?_
  rintro e w2 ⟨rfl, b2⟩
  have HB2 := Lib.hid b2
  have HE := Lib.hid (ends_any (c := c) (HR.out.below b2 HB.out) (Nat.le_trans HB.out b2.size) hmx)
  clear b2 h64
  go_wp2_with fail
  refine HE.out.mono ?_
  rintro e w3 ⟨Ae, ce, E, rfl, hre, hpe, hse, b3⟩
  have HB3 := Lib.hid (bthen HB2.out b3 (Nat.le_refl _))
  have HRe := Lib.hid hre
  have HLe := Lib.hid hre.1
  have HRun := Lib.hid (run_reg HM.out hpe hse)
  have HMo := Lib.hid (fun e he => more_ends (hpe.mem_iff.1 he) : ∀ e ∈ E, e.more = 1 ∨ e.more = -1)
  clear hre hpe hse b3
  obtain ⟨R, hR⟩ : ∃ R, R = run (n : Int) E 0 false 0 0 := ⟨_, rfl⟩
  have HRr := Lib.hid hR
  clear hR
  go_wp2_with fail
  go_loopw [5, 6, 7, 8, 22] (fun vlo vhi vhad vf i wr => ∃ (j : Nat) (had : Int) (f : Bool) (lo hi : Int), j ≤ 2 * n ∧ i = .int .i64 (j : Int) ∧ vlo = .int .i64 lo ∧ vhi = .int .i64 hi ∧ vhad = .int .i64 had ∧ vf = .bool f ∧ Hid (run (n : Int) (E.drop j) had f lo hi = R) ∧ (-(j : Int) ≤ had ∧ had ≤ (j : Int)) ∧ RowKit.Below w3.heap.size w3 wr) (fun _ _ _ _ i _ => (2 * n - (match i with | .int _ z => z.toNat | _ => 0)))
  case atStart => exact ⟨0, 0, false, 0, 0, by omega, rfl, rfl, rfl, rfl, rfl, HRr.out.symm, by omega, Below.refl _ _⟩
  case round =>
    obtain ⟨j, had, f, lo, hi, hj, rfl, rfl, rfl, rfl, rfl, HRj, hha, hb⟩ := hrel
    have HBr := Lib.hid hb
    clear hb
    by_cases hjn : j < 2 * n
    · have e1 : decide ((j : Int) < ((2 * n : Nat) : Int)) = true := by simp; omega
      have e1' : (j : Int) < ((2 * n : Nat) : Int) := by omega
      obtain ⟨s, hs⟩ : ∃ s, E[j]? = some s := ⟨_, List.getElem?_eq_getElem (by have := HLe.out; omega)⟩
      obtain ⟨g, off, rfl, hg, hc⟩ := HRe.out.cells (by omega)
      obtain ⟨c0, c1⟩ := hc wr HBr.out j s hs
      have HS := Lib.hid hs
      have hmo := HMo.out s (List.mem_of_getElem? hs)
      obtain ⟨at_, more⟩ := s
      dsimp only at c0 c1 hmo
      clear hc hs
      rcases hmo with rfl | rfl
      · by_cases hc : 2 * (had + 1) ≤ (n : Int)
        · cases f
          · skip
            have q1 : (2 * (had + 1) ≤ (n : Int)) := by omega
            have HH := Lib.hid hc
            clear hc
            go_wp2_with fail
            all_goals first
              | (exfalso; have := HH.out; omega)
              | (refine ⟨⟨j + 1, had + 1, false, lo, hi, by omega, rfl, rfl, rfl, rfl, rfl, ?_, by omega, ?_⟩, by show 2 * n - ((j : Int) + 1).toNat < 2 * n - (j : Int).toNat; omega⟩
                 · have h1 := HRj.out
                   rw [drop_at HS.out, run_skip (by have := HH.out; show 2 * max had (had + 1) ≤ _; omega)] at h1
                   exact h1
                 · exact HBr.out.alloc HBr.out.size _)
          · skip
            have q1 : (2 * (had + 1) ≤ (n : Int)) := by omega
            have HH := Lib.hid hc
            clear hc
            go_wp2_with fail
            all_goals first
              | (exfalso; have := HH.out; omega)
              | (refine ⟨⟨j + 1, had + 1, true, lo, hi, by omega, rfl, rfl, rfl, rfl, rfl, ?_, by omega, ?_⟩, by show 2 * n - ((j : Int) + 1).toNat < 2 * n - (j : Int).toNat; omega⟩
                 · have h1 := HRj.out
                   rw [drop_at HS.out, run_skip (by have := HH.out; show 2 * max had (had + 1) ≤ _; omega)] at h1
                   exact h1
                 · exact HBr.out.alloc HBr.out.size _)
        · cases f
          · skip
            have q1 : (2 * (had + 1) ≤ (n : Int)) = False := by simp only [eq_iff_iff, iff_false]; omega
            have HH := Lib.hid hc
            clear hc
            go_wp2_with fail
            all_goals first
              | (exfalso; have := HH.out; omega)
              | (refine ⟨⟨j + 1, had + 1, true, at_, at_, by omega, rfl, rfl, rfl, rfl, rfl, ?_, by omega, ?_⟩, by show 2 * n - ((j : Int) + 1).toNat < 2 * n - (j : Int).toNat; omega⟩
                 · have h1 := HRj.out
                   rw [drop_at HS.out, run_take (by have := HH.out; show ¬ 2 * max had (had + 1) ≤ _; omega)] at h1
                   exact h1
                 · exact HBr.out.alloc HBr.out.size _)
          · skip
            have q1 : (2 * (had + 1) ≤ (n : Int)) = False := by simp only [eq_iff_iff, iff_false]; omega
            have HH := Lib.hid hc
            clear hc
            go_wp2_with fail
            all_goals first
              | (exfalso; have := HH.out; omega)
              | (refine ⟨⟨j + 1, had + 1, true, lo, at_, by omega, rfl, rfl, rfl, rfl, rfl, ?_, by omega, ?_⟩, by show 2 * n - ((j : Int) + 1).toNat < 2 * n - (j : Int).toNat; omega⟩
                 · have h1 := HRj.out
                   rw [drop_at HS.out, run_take (by have := HH.out; show ¬ 2 * max had (had + 1) ≤ _; omega)] at h1
                   exact h1
                 · exact HBr.out.alloc HBr.out.size _)
      · by_cases hc : 2 * (had) ≤ (n : Int)
        · cases f
          · skip
            have q1 : (2 * (had) ≤ (n : Int)) := by omega
            have HH := Lib.hid hc
            clear hc
            go_wp2_with fail
            all_goals first
              | (exfalso; have := HH.out; omega)
              | (refine ⟨⟨j + 1, had + -1, false, lo, hi, by omega, rfl, rfl, rfl, rfl, rfl, ?_, by omega, ?_⟩, by show 2 * n - ((j : Int) + 1).toNat < 2 * n - (j : Int).toNat; omega⟩
                 · have h1 := HRj.out
                   rw [drop_at HS.out, run_skip (by have := HH.out; show 2 * max had (had + -1) ≤ _; omega)] at h1
                   exact h1
                 · exact HBr.out.alloc HBr.out.size _)
          · skip
            have q1 : (2 * (had) ≤ (n : Int)) := by omega
            have HH := Lib.hid hc
            clear hc
            go_wp2_with fail
            all_goals first
              | (exfalso; have := HH.out; omega)
              | (refine ⟨⟨j + 1, had + -1, true, lo, hi, by omega, rfl, rfl, rfl, rfl, rfl, ?_, by omega, ?_⟩, by show 2 * n - ((j : Int) + 1).toNat < 2 * n - (j : Int).toNat; omega⟩
                 · have h1 := HRj.out
                   rw [drop_at HS.out, run_skip (by have := HH.out; show 2 * max had (had + -1) ≤ _; omega)] at h1
                   exact h1
                 · exact HBr.out.alloc HBr.out.size _)
        · cases f
          · skip
            have q1 : (2 * (had) ≤ (n : Int)) = False := by simp only [eq_iff_iff, iff_false]; omega
            have HH := Lib.hid hc
            clear hc
            go_wp2_with fail
            all_goals first
              | (exfalso; have := HH.out; omega)
              | (refine ⟨⟨j + 1, had + -1, true, at_, at_, by omega, rfl, rfl, rfl, rfl, rfl, ?_, by omega, ?_⟩, by show 2 * n - ((j : Int) + 1).toNat < 2 * n - (j : Int).toNat; omega⟩
                 · have h1 := HRj.out
                   rw [drop_at HS.out, run_take (by have := HH.out; show ¬ 2 * max had (had + -1) ≤ _; omega)] at h1
                   exact h1
                 · exact HBr.out.alloc HBr.out.size _)
          · skip
            have q1 : (2 * (had) ≤ (n : Int)) = False := by simp only [eq_iff_iff, iff_false]; omega
            have HH := Lib.hid hc
            clear hc
            go_wp2_with fail
            all_goals first
              | (exfalso; have := HH.out; omega)
              | (refine ⟨⟨j + 1, had + -1, true, lo, at_, by omega, rfl, rfl, rfl, rfl, rfl, ?_, by omega, ?_⟩, by show 2 * n - ((j : Int) + 1).toNat < 2 * n - (j : Int).toNat; omega⟩
                 · have h1 := HRj.out
                   rw [drop_at HS.out, run_take (by have := HH.out; show ¬ 2 * max had (had + -1) ≤ _; omega)] at h1
                   exact h1
                 · exact HBr.out.alloc HBr.out.size _)
    · have e1' : ((j : Int) < ((2 * n : Nat) : Int)) = False := by simp only [eq_iff_iff, iff_false]; omega
      have HF := Lib.hid (show (f, lo, hi) = R from by
        have h1 := HRj.out
        rw [List.drop_eq_nil_of_le (by have := HLe.out; omega)] at h1
        exact h1)
      have HB4 := Lib.hid (HB3.out.trans (HBr.out.mono (HB3.out.size)))
      have hn := HL.out
      cases f
      · go_wp2_with fail
        go_ret3
        refine ⟨⟨0, 0, 150, rfl, .inr ⟨by omega, HM.out, .inr ?_⟩⟩, HB4.out⟩
        rcases HRun.out with ⟨lo', hi', h1, h2⟩ | ⟨h1, h2⟩
        · exfalso
          have h3 := HF.out
          rw [HRr.out, ← hn, h1] at h3
          cases h3
        · exact ⟨h2, rfl, rfl, rfl⟩
      · go_wp2_with fail
        go_ret3
        refine ⟨⟨lo, hi, 0, rfl, .inr ⟨by omega, HM.out, .inl ?_⟩⟩, HB4.out⟩
        rcases HRun.out with ⟨lo', hi', h1, h2⟩ | ⟨h1, h2⟩
        · have h3 := HF.out
          rw [HRr.out, ← hn, h1] at h3
          cases h3
          exact ⟨h2, rfl⟩
        · exfalso
          have h3 := HF.out
          rw [HRr.out, ← hn, h1] at h3
          cases h3
theorem region_bad {w : World} {A : Option Addr} {B n c : Nat} {xs : List Sp} (h : Rs w B A n xs) (hB : B ≤ w.heap.size) (hmx : n ≤ 9223372036854775807) (hm : ¬ (n ≤ 64 ∧ AllMay xs)) :
    Calls Try.prog 12 #[.slice A n c] w fun e w' => (∃ lo hi er : Int, e = .returned (.tuple #[.int .i64 lo, .int .i64 hi, .int .i64 er]) ∧ RegIs xs lo hi er) ∧ RowKit.Below w.heap.size w w' := by
  have hl := h.1
  have HG := Lib.hid (show RegIs xs 0 0 1 from .inl ⟨fun x => hm ⟨by omega, x.2⟩, rfl, rfl, rfl⟩)
  have HC := Lib.hid (contains_any (c := c) h hB (by omega))
  by_cases h1 : 64 < n
  · have h64 : ((64 : Int) < (n : Int)) := by omega
    clear h hl hB
    go_enter Try.func12, Try.ntmps12
    go_wp2_with fail
    go_ret3
    exact ⟨⟨0, 0, 1, rfl, HG.out⟩, Below.refl _ _⟩
  · have h64 : ((64 : Int) < (n : Int)) = False := by simp only [eq_iff_iff, iff_false]; omega
    rw [decide_eq_false (fun x => hm ⟨by omega, x⟩)] at HC
    clear h hl hB
    go_enter Try.func12, Try.ntmps12
    go_wp2_with fail
    refine HC.out.mono ?_
    rintro e w2 ⟨rfl, b2⟩
    have HB := Lib.hid b2
    clear b2
    go_wp2_with fail
    go_ret3
    exact ⟨⟨0, 0, 1, rfl, HG.out⟩, HB.out⟩
theorem region_any {w : World} {A : Option Addr} {B n c : Nat} {xs : List Sp} (h : Rs w B A n xs) (hB : B ≤ w.heap.size) (hmx : n ≤ 9223372036854775807) :
    Calls Try.prog 12 #[.slice A n c] w fun e w' => (∃ lo hi er : Int, e = .returned (.tuple #[.int .i64 lo, .int .i64 hi, .int .i64 er]) ∧ RegIs xs lo hi er) ∧ RowKit.Below w.heap.size w w' := by
  by_cases hm : n ≤ 64 ∧ AllMay xs
  · exact region_ok h hB hm.1 hm.2
  · exact region_bad h hB hmx hm
end Go.Proofs.Ytbkcoijcoacbaaa.Ch
