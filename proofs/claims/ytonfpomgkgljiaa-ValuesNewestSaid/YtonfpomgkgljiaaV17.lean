/- The round of ValuesNewest. -/
import Derived.Test.YtonfpomgkgljiaaV16
import Derived.Test.YtonfpomgkgljiaaV14b
import Derived.Deep.RegionHeld3
import Derived.Deep.MidRow
namespace Go.Proofs.Ytonfpomgkgljiaa
open Go.RowKit
set_option linter.unusedVariables false
set_option maxRecDepth 100000

/-- what holds at the loop's head: j values were put -/
def Rel (W : World) (G m : Nat) (k : Int) (E : Nat → El) (j : Nat) (b : Value) (wr : World) : Prop :=
  Below W.heap.size W wr ∧ ((b = .int .i64 (-1) ∧ j = 0 ∧ Shelf1 wr G m #[] 0) ∨ ∃ q A' c' A2' c2', q < j ∧ b = .int .i64 (q : Int) ∧ (E q).n ≤ 2048 ∧ (E q).m ≤ 128 ∧
    Shelf1 wr G m (One k (E q).t (E q).f A' (E q).n c' A2' (E q).m c2') 1 ∧ Vb wr wr.heap.size (E q).val A' (E q).n c' A2' (E q).m c2')
theorem Shelf1.below {w w' : World} {g m : Nat} {es : Array MapEntry} {c : Nat} (h : Shelf1 w g m es c) (b : Below w.heap.size w w') : Shelf1 w' g m es c := h.grown ⟨b.os, b.tape, b.output, b.size, fun k hk _ => b.block k hk⟩
set_option maxHeartbeats 8000000 in
theorem law_any {W : World} {A : Option Addr} {n c : Nat} {E : Nat → El} (h : Lv W W.heap.size A n c E) (k : Nat) (hk : k ≤ 9223372036854775807) :
    Calls Try.prog 5 #[.slice A n c, .int .i64 (k : Int)] W (Yes W) := by
  have hcap := h.cap
  have hroom := h.room
  have HL := Lib.hid h
  have HA := Lib.hid alive_any
  have d0 : decide ((k : Int) < 0) = false := by simp
  clear h
  go_enter Try.func5, Try.ntmps5
  go_wp2_with (first
    | (go_at_call 7; refine (new_one W).mono ?_; rintro e w1 ⟨rfl, b1, s1, h1⟩))
  go_loopw [8, 7] (fun i b wr => ∃ j : Nat, j ≤ n ∧ j ≤ 40 ∧ i = .int .i64 (j : Int) ∧ Rel W (W.heap.size + 1) W.heap.size k E j b wr) (fun i _ _ => (40 - intOf i).toNat)
  case atStart => exact ⟨0, by omega, by omega, rfl, b1, Or.inl ⟨rfl, rfl, h1⟩⟩
  case round =>
    obtain ⟨j, hjn, hj40, rfl, hB, hrel⟩ := hrel
    clear b1 s1 h1
    have hs := hB.size
    by_cases hj : j < n ∧ j < 40
    · obtain ⟨h1, h2⟩ := hj
      have e1 : decide ((j : Int) < (n : Int)) = true := by simp; omega
      have e2 : decide ((j : Int) < 40) = true := by simp; omega
      obtain ⟨b, off, rfl, hbB, hrow⟩ := HL.out.row (by omega)
      have HR := Lib.hid (show ∀ w', Below W.heap.size W w' → w'.rangeAt b (off + j * 4) [.int .u32 ((E j).t : Int), .int .u32 ((E j).f : Int), .slice (E j).A (E j).n (E j).c, .slice (E j).B (E j).m (E j).e] from fun w' hb' i v hv => (hb'.cell (p := ⟨b, _, none⟩) hbB).trans (hrow j h1 i v hv))
      have HV := Lib.hid (show ∀ w', Below W.heap.size W w' → Vb w' w'.heap.size (E j).val (E j).A (E j).n (E j).c (E j).B (E j).m (E j).e from fun w' hb' => (HL.out.val j h1).far hb')
      have HQ := Lib.hid (show ∀ q, q < j → ∀ w', Below W.heap.size W w' → w'.rangeAt b (off + q * 4) [.int .u32 ((E q).t : Int), .int .u32 ((E q).f : Int), .slice (E q).A (E q).n (E q).c, .slice (E q).B (E q).m (E q).e] from fun q hq w' hb' i v hv => (hb'.cell (p := ⟨b, _, none⟩) hbB).trans (hrow q (by omega) i v hv))
      have R0 := HR.out wr hB
      have Ln := fun w => long_any ((E j).t : Int) ((E j).f : Int) (E j).A (E j).n (E j).c (E j).B (E j).m (E j).e w
      have Hj := Lib.hid h1
      clear hrow h1
      cases e3 : lg (E j).n (E j).m <;> cases e4 : decide (2048 < ((E j).n : Int)) <;> cases e5 : decide (128 < ((E j).m : Int))
      case false.false.false =>
        rw [e3] at Ln
        have hn : (E j).n ≤ 2048 := by simp at e4; omega
        have hm : (E j).m ≤ 128 := by simp at e5; omega
        rcases hrel with ⟨rfl, hj0, hsh⟩ | ⟨q, A', c', A2', c2', hq, rfl, hqn, hqm, hsh, hvq⟩
        · have Hj0 := Lib.hid hj0
          clear hj0
          go_wp2_with (first
            | (refine wpList_load_mid rfl 33 (.tmp 47) rfl b (off + j * 4) rfl [.int .u32 ((E j).t : Int), .int .u32 ((E j).f : Int), .slice (E j).A (E j).n (E j).c, .slice (E j).B (E j).m (E j).e] _ R0 Try.underlying33 rfl (by kernel_rfl) ?_)
            | (refine wpList_load_mid rfl 33 (.tmp 73) rfl b (off + j * 4) rfl [.int .u32 ((E j).t : Int), .int .u32 ((E j).f : Int), .slice (E j).A (E j).n (E j).c, .slice (E j).B (E j).m (E j).e] _ R5 Try.underlying33 rfl (by kernel_rfl) ?_)
            | (go_at_call 9; refine (Ln _).mono ?_; rintro e w5 ⟨rfl, b5⟩; have B5 := hB.trans (b5.mono hs); have R5 := HR.out w5 B5; have x2 := R5 2 _ rfl; have x3 := R5 3 _ rfl)
            | (go_at_call 12; refine (put_new (hsh.below b5) k hk (HV.out w5 B5) hn hm).mono ?_; rintro e w6 ⟨rfl, ⟨A6, c6, A26, c26, sh6, vb6⟩, q6⟩; have B6 := below_of_grown B5 q6 B5.size (fun k e => by cases e; exact Nat.le_refl _); clear q6)
            | fail)
          go_quiet (fail)
          have B7 : Below W.heap.size W (w6.drewN nq) := B6.trans (Joins.below_draws _ _ _)
          have sh7 := sh6.below (Joins.below_draws _ w6 nq)
          have vb7 := vb6.far (Joins.below_draws _ w6 nq)
          clear B6 sh6 vb6
          generalize w6.drewN nq = w7 at *
          go_wp2_with fail
          go_roundw
          case rel => exact ⟨j + 1, by have := Hj.out; omega, by omega, by simp, B7, Or.inr ⟨j, A6, c6, A26, c26, by omega, rfl, hn, hm, sh7, vb7⟩⟩
          case measure => simp [intOf]; omega
        · have RQ := HQ.out q hq
          have HRQ := Lib.hid RQ
          have sh5 := fun w5 b5 => hsh.below (w' := w5) b5
          have HSH := Lib.hid sh5
          have N := fun w => newer_any ((E j).t : Int) ((E j).f : Int) ((E q).t : Int) ((E q).f : Int) (E j).A (E j).n (E j).c (E j).B (E j).m (E j).e (E q).A (E q).n (E q).c (E q).B (E q).m (E q).e w
          have g1 : ((q : Int) < 0) = False := by simp
          have g2 : (q : Int) < (n : Int) := by have := Hj.out; omega
          have g3 : (0 : Int) ≤ (q : Int) := by omega
          have g4 : (j : Int) < (n : Int) := by have := Hj.out; omega
          have g5 : (0 : Int) ≤ (j : Int) := by omega
          clear RQ sh5
          cases hnw : nw ((E j).t : Int) ((E j).f : Int) ((E q).t : Int) ((E q).f : Int)
          · rw [hnw] at N
            have HN := Lib.hid N
            have Hnw := Lib.hid hnw
            clear N hnw
            go_wp2_with (first
              | (refine wpList_load_mid rfl 33 (.tmp 47) rfl b (off + j * 4) rfl [.int .u32 ((E j).t : Int), .int .u32 ((E j).f : Int), .slice (E j).A (E j).n (E j).c, .slice (E j).B (E j).m (E j).e] _ R0 Try.underlying33 rfl (by kernel_rfl) ?_)
              | (refine wpList_load_mid rfl 33 (.tmp 73) rfl b (off + j * 4) rfl [.int .u32 ((E j).t : Int), .int .u32 ((E j).f : Int), .slice (E j).A (E j).n (E j).c, .slice (E j).B (E j).m (E j).e] _ R5 Try.underlying33 rfl (by kernel_rfl) ?_)
              | (go_at_call 9; refine (Ln _).mono ?_; rintro e w5 ⟨rfl, b5⟩; have B5 := hB.trans (b5.mono hs); have R5 := HR.out w5 B5; have x2 := R5 2 _ rfl; have x3 := R5 3 _ rfl)
              | (go_at_call 12; refine (put_old (HSH.out w5 b5) (by omega) _ _ _ _ _ _ _ _ hn hm Hnw.out).mono ?_; rintro e w6 ⟨rfl, q6⟩; have b6 := below_none q6; have sh6 := (HSH.out w5 b5).below b6; have vb6 := (hvq.far b5).far b6; have B6 := B5.trans (b6.mono B5.size); clear q6 b6)
              | fail)
            have Tj0 : (w6.drew).cell? ⟨b, off + j * 4, none⟩ = some (.int .u32 ((E j).t : Int)) := HR.out _ B6.drew 0 _ rfl
            have Tj1 : (w6.drew).cell? ⟨b, off + j * 4 + 1, none⟩ = some (.int .u32 ((E j).f : Int)) := HR.out _ B6.drew 1 _ rfl
            have Tj2 : (w6.drew).cell? ⟨b, off + j * 4 + 2, none⟩ = some (.slice (E j).A (E j).n (E j).c) := HR.out _ B6.drew 2 _ rfl
            have Tj3 : (w6.drew).cell? ⟨b, off + j * 4 + 3, none⟩ = some (.slice (E j).B (E j).m (E j).e) := HR.out _ B6.drew 3 _ rfl
            have Tq0 : (w6.drew).cell? ⟨b, off + q * 4, none⟩ = some (.int .u32 ((E q).t : Int)) := HRQ.out _ B6.drew 0 _ rfl
            have Tq1 : (w6.drew).cell? ⟨b, off + q * 4 + 1, none⟩ = some (.int .u32 ((E q).f : Int)) := HRQ.out _ B6.drew 1 _ rfl
            have Tq2 : (w6.drew).cell? ⟨b, off + q * 4 + 2, none⟩ = some (.slice (E q).A (E q).n (E q).c) := HRQ.out _ B6.drew 2 _ rfl
            have Tq3 : (w6.drew).cell? ⟨b, off + q * 4 + 3, none⟩ = some (.slice (E q).B (E q).m (E q).e) := HRQ.out _ B6.drew 3 _ rfl
            clear R0 R5 x2 x3
            go_region_held3 (fun w' => w'.cell? ⟨b, off + j * 4, none⟩ = some (.int .u32 ((E j).t : Int)) ∧ w'.cell? ⟨b, off + j * 4 + 1, none⟩ = some (.int .u32 ((E j).f : Int)) ∧ w'.cell? ⟨b, off + j * 4 + 2, none⟩ = some (.slice (E j).A (E j).n (E j).c) ∧ w'.cell? ⟨b, off + j * 4 + 3, none⟩ = some (.slice (E j).B (E j).m (E j).e) ∧ w'.cell? ⟨b, off + q * 4, none⟩ = some (.int .u32 ((E q).t : Int)) ∧ w'.cell? ⟨b, off + q * 4 + 1, none⟩ = some (.int .u32 ((E q).f : Int)) ∧ w'.cell? ⟨b, off + q * 4 + 2, none⟩ = some (.slice (E q).A (E q).n (E q).c) ∧ w'.cell? ⟨b, off + q * 4 + 3, none⟩ = some (.slice (E q).B (E q).m (E q).e))
              (first | exact ⟨Uj0, Uj1, Uj2, Uj3, Uq0, Uq1, Uq2, Uq3⟩ | exact ⟨Tj0, Tj1, Tj2, Tj3, Tq0, Tq1, Tq2, Tq3⟩)
              ((first
              | (go_at_call 24; with_reducible refine (HN.out _).mono ?_; rintro e w9 ⟨rfl, b9⟩
                 have B9 := B6.drew.trans (b9.mono B6.drew.size)
                 have Uj0 : (w9).cell? ⟨b, off + j * 4, none⟩ = some (.int .u32 ((E j).t : Int)) := HR.out _ B9 0 _ rfl
                 have Uj1 : (w9).cell? ⟨b, off + j * 4 + 1, none⟩ = some (.int .u32 ((E j).f : Int)) := HR.out _ B9 1 _ rfl
                 have Uj2 : (w9).cell? ⟨b, off + j * 4 + 2, none⟩ = some (.slice (E j).A (E j).n (E j).c) := HR.out _ B9 2 _ rfl
                 have Uj3 : (w9).cell? ⟨b, off + j * 4 + 3, none⟩ = some (.slice (E j).B (E j).m (E j).e) := HR.out _ B9 3 _ rfl
                 have Uq0 : (w9).cell? ⟨b, off + q * 4, none⟩ = some (.int .u32 ((E q).t : Int)) := HRQ.out _ B9 0 _ rfl
                 have Uq1 : (w9).cell? ⟨b, off + q * 4 + 1, none⟩ = some (.int .u32 ((E q).f : Int)) := HRQ.out _ B9 1 _ rfl
                 have Uq2 : (w9).cell? ⟨b, off + q * 4 + 2, none⟩ = some (.slice (E q).A (E q).n (E q).c) := HRQ.out _ B9 2 _ rfl
                 have Uq3 : (w9).cell? ⟨b, off + q * 4 + 3, none⟩ = some (.slice (E q).B (E q).m (E q).e) := HRQ.out _ B9 3 _ rfl)))
            have sh9 := (sh6.below ((Below.refl _ _).drew)).below b9
            have vb9 := (vb6.far ((Below.refl _ _).drew)).far b9
            clear sh6 vb6 b9
            go_wp2_with fail
            go_roundw
            case rel => exact ⟨j + 1, by have := Hj.out; omega, by omega, by simp, B9, Or.inr ⟨q, A', c', A2', c2', by omega, rfl, hqn, hqm, sh9, vb9⟩⟩
            case measure => simp [intOf]; omega
          · rw [hnw] at N
            have HN := Lib.hid N
            have Hnw := Lib.hid hnw
            clear N hnw
            go_wp2_with (first
              | (refine wpList_load_mid rfl 33 (.tmp 47) rfl b (off + j * 4) rfl [.int .u32 ((E j).t : Int), .int .u32 ((E j).f : Int), .slice (E j).A (E j).n (E j).c, .slice (E j).B (E j).m (E j).e] _ R0 Try.underlying33 rfl (by kernel_rfl) ?_)
              | (refine wpList_load_mid rfl 33 (.tmp 73) rfl b (off + j * 4) rfl [.int .u32 ((E j).t : Int), .int .u32 ((E j).f : Int), .slice (E j).A (E j).n (E j).c, .slice (E j).B (E j).m (E j).e] _ R5 Try.underlying33 rfl (by kernel_rfl) ?_)
              | (go_at_call 9; refine (Ln _).mono ?_; rintro e w5 ⟨rfl, b5⟩; have B5 := hB.trans (b5.mono hs); have R5 := HR.out w5 B5; have x2 := R5 2 _ rfl; have x3 := R5 3 _ rfl)
              | (go_at_call 12; refine (put_upd (HSH.out w5 b5) (by omega) (HV.out w5 B5) hn hm Hnw.out).mono ?_; rintro e w6 ⟨rfl, ⟨A6, c6, A26, c26, sh6, vb6⟩, q6⟩; have B6 := below_of_grown B5 q6 B5.size (fun k e => by cases e; exact Nat.le_refl _); clear q6)
              | fail)
            have Tj0 : (w6.drew).cell? ⟨b, off + j * 4, none⟩ = some (.int .u32 ((E j).t : Int)) := HR.out _ B6.drew 0 _ rfl
            have Tj1 : (w6.drew).cell? ⟨b, off + j * 4 + 1, none⟩ = some (.int .u32 ((E j).f : Int)) := HR.out _ B6.drew 1 _ rfl
            have Tj2 : (w6.drew).cell? ⟨b, off + j * 4 + 2, none⟩ = some (.slice (E j).A (E j).n (E j).c) := HR.out _ B6.drew 2 _ rfl
            have Tj3 : (w6.drew).cell? ⟨b, off + j * 4 + 3, none⟩ = some (.slice (E j).B (E j).m (E j).e) := HR.out _ B6.drew 3 _ rfl
            have Tq0 : (w6.drew).cell? ⟨b, off + q * 4, none⟩ = some (.int .u32 ((E q).t : Int)) := HRQ.out _ B6.drew 0 _ rfl
            have Tq1 : (w6.drew).cell? ⟨b, off + q * 4 + 1, none⟩ = some (.int .u32 ((E q).f : Int)) := HRQ.out _ B6.drew 1 _ rfl
            have Tq2 : (w6.drew).cell? ⟨b, off + q * 4 + 2, none⟩ = some (.slice (E q).A (E q).n (E q).c) := HRQ.out _ B6.drew 2 _ rfl
            have Tq3 : (w6.drew).cell? ⟨b, off + q * 4 + 3, none⟩ = some (.slice (E q).B (E q).m (E q).e) := HRQ.out _ B6.drew 3 _ rfl
            clear R0 R5 x2 x3
            go_region_held3 (fun w' => w'.cell? ⟨b, off + j * 4, none⟩ = some (.int .u32 ((E j).t : Int)) ∧ w'.cell? ⟨b, off + j * 4 + 1, none⟩ = some (.int .u32 ((E j).f : Int)) ∧ w'.cell? ⟨b, off + j * 4 + 2, none⟩ = some (.slice (E j).A (E j).n (E j).c) ∧ w'.cell? ⟨b, off + j * 4 + 3, none⟩ = some (.slice (E j).B (E j).m (E j).e) ∧ w'.cell? ⟨b, off + q * 4, none⟩ = some (.int .u32 ((E q).t : Int)) ∧ w'.cell? ⟨b, off + q * 4 + 1, none⟩ = some (.int .u32 ((E q).f : Int)) ∧ w'.cell? ⟨b, off + q * 4 + 2, none⟩ = some (.slice (E q).A (E q).n (E q).c) ∧ w'.cell? ⟨b, off + q * 4 + 3, none⟩ = some (.slice (E q).B (E q).m (E q).e))
              (first | exact ⟨Uj0, Uj1, Uj2, Uj3, Uq0, Uq1, Uq2, Uq3⟩ | exact ⟨Tj0, Tj1, Tj2, Tj3, Tq0, Tq1, Tq2, Tq3⟩)
              ((first
              | (go_at_call 24; with_reducible refine (HN.out _).mono ?_; rintro e w9 ⟨rfl, b9⟩
                 have B9 := B6.drew.trans (b9.mono B6.drew.size)
                 have Uj0 : (w9).cell? ⟨b, off + j * 4, none⟩ = some (.int .u32 ((E j).t : Int)) := HR.out _ B9 0 _ rfl
                 have Uj1 : (w9).cell? ⟨b, off + j * 4 + 1, none⟩ = some (.int .u32 ((E j).f : Int)) := HR.out _ B9 1 _ rfl
                 have Uj2 : (w9).cell? ⟨b, off + j * 4 + 2, none⟩ = some (.slice (E j).A (E j).n (E j).c) := HR.out _ B9 2 _ rfl
                 have Uj3 : (w9).cell? ⟨b, off + j * 4 + 3, none⟩ = some (.slice (E j).B (E j).m (E j).e) := HR.out _ B9 3 _ rfl
                 have Uq0 : (w9).cell? ⟨b, off + q * 4, none⟩ = some (.int .u32 ((E q).t : Int)) := HRQ.out _ B9 0 _ rfl
                 have Uq1 : (w9).cell? ⟨b, off + q * 4 + 1, none⟩ = some (.int .u32 ((E q).f : Int)) := HRQ.out _ B9 1 _ rfl
                 have Uq2 : (w9).cell? ⟨b, off + q * 4 + 2, none⟩ = some (.slice (E q).A (E q).n (E q).c) := HRQ.out _ B9 2 _ rfl
                 have Uq3 : (w9).cell? ⟨b, off + q * 4 + 3, none⟩ = some (.slice (E q).B (E q).m (E q).e) := HRQ.out _ B9 3 _ rfl)))
            have sh9 := (sh6.below ((Below.refl _ _).drew)).below b9
            have vb9 := (vb6.far ((Below.refl _ _).drew)).far b9
            clear sh6 vb6 b9
            go_wp2_with fail
            go_roundw
            case rel => exact ⟨j + 1, by have := Hj.out; omega, by omega, by simp, B9, Or.inr ⟨j, A6, c6, A26, c26, by omega, rfl, hn, hm, sh9, vb9⟩⟩
            case measure => simp [intOf]; omega
      all_goals
        rw [e3] at Ln
        have hbv : ∃ z : Int, u7 = .int .i64 z := by
          rcases hrel with ⟨rfl, _⟩ | ⟨q, _, _, _, _, _, rfl, _⟩
          · exact ⟨_, rfl⟩
          · exact ⟨_, rfl⟩
        obtain ⟨z, rfl⟩ := hbv
        clear hrel
        go_wp2_with (first
          | (refine wpList_load_mid rfl 33 (.tmp 47) rfl b (off + j * 4) rfl [.int .u32 ((E j).t : Int), .int .u32 ((E j).f : Int), .slice (E j).A (E j).n (E j).c, .slice (E j).B (E j).m (E j).e] _ R0 Try.underlying33 rfl (by kernel_rfl) ?_)
          | (go_at_call 9; refine (Ln _).mono ?_; rintro e w5 ⟨rfl, b5⟩; have B5 := hB.trans (b5.mono hs); have R5 := HR.out w5 B5; have x2 := R5 2 _ rfl; have x3 := R5 3 _ rfl)
          | (go_at_call 10; refine (HA.out _).mono ?_; rintro e w6 ⟨rfl, b6⟩; have B6 := B5.trans (b6.mono B5.size))
          | fail)
        go_ret
        exact ⟨rfl, B6⟩
    · have hend : (¬ (j : Int) < (n : Int)) ∨ (¬ (j : Int) < 40) := by omega
      have e12 : (((j : Int) < (n : Int)) = False) ∨ ((j : Int) < (n : Int) ∧ ((j : Int) < 40) = False) := by
        by_cases h1 : (j : Int) < (n : Int)
        · right; exact ⟨h1, eq_false (by omega)⟩
        · left; exact eq_false h1
      have Hj := Lib.hid hj
      have Hjn := Lib.hid hjn
      clear hj hend
      rcases hrel with ⟨rfl, hj0, hsh⟩ | ⟨q, A', c', A2', c2', hq, rfl, hqn, hqm, hsh, hvq⟩
      · clear hj0
        have hN := get_none hsh
        unfold zeroV at hN
        have HN := Lib.hid hN
        clear hN
        rcases e12 with e1 | ⟨e1, e2⟩
        all_goals
          go_wp2_with (first
            | (go_at_call 14; refine (HN.out _).mono ?_; rintro e w5 ⟨rfl, b5⟩; have B5 := hB.trans (b5.mono hs); have B5' := fun X => B5.alloc B5.size X)
            | (go_at_call 10; refine (HA.out _).mono ?_; rintro e w6 ⟨rfl, b6⟩; have B6 := (B5' _).trans (b6.mono (B5' _).size))
            | fail)
          go_ret
          exact ⟨rfl, B6⟩
      · have hq1 : q < n := by have := Hjn.out; omega
        obtain ⟨b, off, rfl, hbB, hrow⟩ := HL.out.row (by omega)
        have HRQ := Lib.hid (show ∀ w', Below W.heap.size W w' → w'.rangeAt b (off + q * 4) [.int .u32 ((E q).t : Int), .int .u32 ((E q).f : Int), .slice (E q).A (E q).n (E q).c, .slice (E q).B (E q).m (E q).e] from fun w' hb' i v hv => (hb'.cell (p := ⟨b, _, none⟩) hbB).trans (hrow q hq1 i v hv))
        have HV := Lib.hid (show ∀ w', Below W.heap.size W w' → Vb w' w'.heap.size (E q).val (E q).A (E q).n (E q).c (E q).B (E q).m (E q).e from fun w' hb' => (HL.out.val q hq1).far hb')
        have g1 : ((q : Int) < 0) = False := by simp
        have g2 : (q : Int) < (n : Int) := by omega
        have g3 : (0 : Int) ≤ (q : Int) := by omega
        have hG := get_some (v := (E q).val) hsh hvq hqn hqm
        simp only [show ((E q).val).ts = (E q).t from rfl, show ((E q).val).fs = (E q).f from rfl] at hG
        have HG := Lib.hid hG
        clear hG
        clear hrow hq hsh hvq
        rcases e12 with e1 | ⟨e1, e2⟩
        all_goals
          go_wp2_with (first
            | (go_at_call 14; refine HG.out.mono ?_; rintro e w5 ⟨A5, c5, A25, c25, rfl, vb5, b5⟩; have B5 := hB.trans (b5.mono hs))
            | fail)
          obtain ⟨w8, hw8⟩ : ∃ w8, w5.alloc (.cells #[.int .u32 ((E q).t : Int), .int .u32 ((E q).f : Int), .slice A5 (E q).n c5, .slice A25 (E q).m c25] 33) = w8 := ⟨_, rfl⟩
          have bx8 : BoxAt w8 w5.heap.size (E q).t (E q).f (.slice A5 (E q).n c5) (.slice A25 (E q).m c25) := by rw [← hw8]; exact BoxAt.new w5 _ _ _ _
          have B8 : Below W.heap.size W w8 := by rw [← hw8]; exact B5.alloc B5.size _
          have b58 : Below w5.heap.size w5 w8 := by rw [← hw8]; exact (Below.refl _ _).alloc (Nat.le_refl _) _
          have vb8 := vb5.far b58
          rw [hw8]
          clear hw8 vb5 B5 b5 b58
          generalize w5.heap.size = s5 at *
          have bxd : BoxAt w8.drew s5 (E q).t (E q).f (.slice A5 (E q).n c5) (.slice A25 (E q).m c25) := bx8
          have Bd : Below W.heap.size W w8.drew := B8.drew
          have vbd : Vb w8.drew w8.drew.heap.size (E q).val A5 (E q).n c5 A25 (E q).m c25 := vb8.far (Below.refl _ _).drew
          clear bx8 B8 vb8
          obtain ⟨Tb0, Tb1, Tb2, Tb3⟩ := (bxd).cells
          have Tq0 : (w8.drew).cell? ⟨b, off + q * 4, none⟩ = some (.int .u32 ((E q).t : Int)) := HRQ.out _ Bd 0 _ rfl
          have Tq1 : (w8.drew).cell? ⟨b, off + q * 4 + 1, none⟩ = some (.int .u32 ((E q).f : Int)) := HRQ.out _ Bd 1 _ rfl
          have Tq2 : (w8.drew).cell? ⟨b, off + q * 4 + 2, none⟩ = some (.slice (E q).A (E q).n (E q).c) := HRQ.out _ Bd 2 _ rfl
          have Tq3 : (w8.drew).cell? ⟨b, off + q * 4 + 3, none⟩ = some (.slice (E q).B (E q).m (E q).e) := HRQ.out _ Bd 3 _ rfl
          go_region_held3 (fun w' => w'.cell? ⟨s5, 0, none⟩ = some (.int .u32 ((E q).t : Int)) ∧ w'.cell? ⟨s5, 1, none⟩ = some (.int .u32 ((E q).f : Int)) ∧ w'.cell? ⟨s5, 2, none⟩ = some (.slice A5 (E q).n c5) ∧ w'.cell? ⟨s5, 3, none⟩ = some (.slice A25 (E q).m c25) ∧ w'.cell? ⟨b, off + q * 4, none⟩ = some (.int .u32 ((E q).t : Int)) ∧ w'.cell? ⟨b, off + q * 4 + 1, none⟩ = some (.int .u32 ((E q).f : Int)) ∧ w'.cell? ⟨b, off + q * 4 + 2, none⟩ = some (.slice (E q).A (E q).n (E q).c) ∧ w'.cell? ⟨b, off + q * 4 + 3, none⟩ = some (.slice (E q).B (E q).m (E q).e))
            (first | exact ⟨Vb0, Vb1, Vb2, Vb3, Vq0, Vq1, Vq2, Vq3⟩ | exact ⟨Ub0, Ub1, Ub2, Ub3, Uq0, Uq1, Uq2, Uq3⟩ | exact ⟨Tb0, Tb1, Tb2, Tb3, Tq0, Tq1, Tq2, Tq3⟩)
            ((first
            | (go_at_call 10; refine (HA.out _).mono ?_; rintro e w9 ⟨rfl, b9⟩
               have B9 := Bd.trans (b9.mono Bd.size)
               have bx9 := bxd.below b9
               have vb9 := vbd.far b9
               obtain ⟨Ub0, Ub1, Ub2, Ub3⟩ := (bx9).cells
               have Uq0 : (w9).cell? ⟨b, off + q * 4, none⟩ = some (.int .u32 ((E q).t : Int)) := HRQ.out _ B9 0 _ rfl
               have Uq1 : (w9).cell? ⟨b, off + q * 4 + 1, none⟩ = some (.int .u32 ((E q).f : Int)) := HRQ.out _ B9 1 _ rfl
               have Uq2 : (w9).cell? ⟨b, off + q * 4 + 2, none⟩ = some (.slice (E q).A (E q).n (E q).c) := HRQ.out _ B9 2 _ rfl
               have Uq3 : (w9).cell? ⟨b, off + q * 4 + 3, none⟩ = some (.slice (E q).B (E q).m (E q).e) := HRQ.out _ B9 3 _ rfl)
            | (go_at_call 16; refine (same_same vb9 (HV.out _ B9)).mono ?_; rintro e w10 ⟨rfl, b10⟩
               have B10 := B9.trans (b10.mono B9.size)
               have bx10 := bx9.below b10
               obtain ⟨Vb0, Vb1, Vb2, Vb3⟩ := (bx10).cells
               have Vq0 : (w10).cell? ⟨b, off + q * 4, none⟩ = some (.int .u32 ((E q).t : Int)) := HRQ.out _ B10 0 _ rfl
               have Vq1 : (w10).cell? ⟨b, off + q * 4 + 1, none⟩ = some (.int .u32 ((E q).f : Int)) := HRQ.out _ B10 1 _ rfl
               have Vq2 : (w10).cell? ⟨b, off + q * 4 + 2, none⟩ = some (.slice (E q).A (E q).n (E q).c) := HRQ.out _ B10 2 _ rfl
               have Vq3 : (w10).cell? ⟨b, off + q * 4 + 3, none⟩ = some (.slice (E q).B (E q).m (E q).e) := HRQ.out _ B10 3 _ rfl)))
          go_wp2_with fail
          go_ret
          exact ⟨rfl, B10⟩
end Go.Proofs.Ytonfpomgkgljiaa
