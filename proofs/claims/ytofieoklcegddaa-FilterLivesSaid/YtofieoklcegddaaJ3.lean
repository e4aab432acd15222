/- FilterTells: the walk. -/
import Derived.Test.YtofieoklcegddaaJ2
namespace Go.Proofs.Ytofieoklcegddaa
open Go.RowKit Go.Sort Go.Shelf Go.Lib
set_option linter.unusedVariables false
set_option linter.unusedSimpArgs false
set_option maxRecDepth 100000

set_option maxHeartbeats 2000000 in
theorem row_nil (now : Int) (w : World) : Calls Try.prog 18 #[.pointer none, .int .i64 now] w fun e w' => e = .returned (.slice none 0 0) ∧ RowKit.Below w.heap.size w w' := by
  obtain ⟨w1, hw1⟩ : ∃ w1, w1 = w.alloc (.cells #[.int .i64 now] 2) := ⟨_, rfl⟩
  have HB := Lib.hid (show RowKit.Below w.heap.size w w1 by rw [hw1]; exact (Below.refl _ _).alloc (Nat.le_refl _) _)
  have HW := Lib.hid hw1
  clear hw1
  go_enter Try.func18, Try.ntmps18
  go_upto_region 1 with fail
  rw [← HW.out]
  go_wp2_with fail
  refine (latest_nil _).mono ?_
  rintro e w2 ⟨rfl, hw2⟩
  subst hw2
  go_wp2_with fail
  refine (stable_none _ _).mono ?_
  rintro e w3 ⟨rfl, hw3⟩
  subst hw3
  go_wp2_with fail
  go_ret
  exact ⟨rfl, HB.out⟩
theorem rdist_below (s : S4) (now : Int) (w : World) : Calls Try.prog 11 #[.agg #[.int .i64 s.o, .int .i64 s.d, .int .i64 s.p, .int .i64 s.a], .int .i64 now] w fun e w' => e = .returned (.int .i64 (s.dist now)) ∧ RowKit.Below w.heap.size w w' := by
  refine (rdist_any s now w).mono ?_
  rintro e w' ⟨rfl, q, os, hw⟩
  exact ⟨rfl, below_of_grow (Nat.le_refl _) hw⟩
theorem addnil_below (s : S4) (w : World) : Calls Try.prog 14 #[.pointer none, .agg #[.int .i64 s.o, .int .i64 s.d, .int .i64 s.p, .int .i64 s.a]] w fun e w' => e = .returned (.int .i64 6) ∧ RowKit.Below w.heap.size w w' := by
  refine (add_nil s w).mono ?_
  rintro e w' ⟨rfl, os, hw⟩
  exact ⟨rfl, below_of_grow (n := 0) (Nat.le_refl _) hw⟩
theorem pf_nil (w : World) : Pf w none [] := .inl ⟨rfl, rfl⟩
theorem jitter_nil (now : Int) (w : World) : Calls Try.prog 17 #[.pointer none, .int .i64 now] w fun e w' => e = .returned (.int .i64 0) ∧ RowKit.Below w.heap.size w w' := by
  have := jitter_any now (pf_nil w) (fun s hs => by cases hs)
  rw [sorted_nil] at this
  exact this
theorem disp_nil (now : Int) (w : World) : Calls Try.prog 19 #[.pointer none, .int .i64 now] w fun e w' => e = .returned (.int .i64 (dsum [] now 8)) ∧ RowKit.Below w.heap.size w w' := by
  have := disp_any now (pf_nil w) (fun s hs => by cases hs)
  rw [sorted_nil] at this
  exact this
theorem disp_new (now : Int) {w : World} {g : Nat} (h : Flt w g []) : Calls Try.prog 19 #[.pointer (some ⟨g, 0, none⟩), .int .i64 now] w fun e w' => e = .returned (.int .i64 (dsum [] now 8)) ∧ RowKit.Below w.heap.size w w' := by
  have := disp_any now (.inr ⟨g, rfl, h⟩ : Pf w (some ⟨g, 0, none⟩) []) (fun s hs => by cases hs)
  rw [sorted_nil] at this
  exact this
set_option maxHeartbeats 8000000 in
theorem tells_any (s : S4) (now : Int) (n : Nat) (hn : n < 18446744073709551616) (w : World) :
    Calls Try.prog 3 #[.agg #[.int .i64 s.o, .int .i64 s.d, .int .i64 s.p, .int .i64 s.a], .int .i64 now, .int .u64 (n : Int)] w (Yes w) := by
  obtain ⟨w1, hw1⟩ : ∃ w1, w1 = w.alloc (.cells #[.int .i64 s.o, .int .i64 s.d, .int .i64 s.p, .int .i64 s.a] 23) := ⟨_, rfl⟩
  have b1 : RowKit.Below w.heap.size w w1 := by rw [hw1]; exact (Below.refl _ _).alloc (Nat.le_refl _) _
  have x1 : Box w1 w.heap.size s := by rw [hw1]; exact World.alloc_heap_new w _
  have HBe := Lib.hid (best_any now (pf_nil w1))
  rw [sorted_nil] at HBe
  have HX1 := Lib.hid x1
  have HB1 := Lib.hid b1
  have HW1 := Lib.hid hw1
  clear hw1 b1 x1
  go_enter Try.func3, Try.ntmps3
  go_upto_region 1 with fail
  rw [← HW1.out]
  go_wp2_with fail
  refine HBe.out.mono ?_
  rintro e w2 ⟨rfl, b2⟩
  rw [show (headS []).val = .agg #[.int .i64 0, .int .i64 0, .int .i64 0, .int .i64 0] from rfl]
  obtain ⟨w3, hw3⟩ : ∃ w3, w3 = w2.alloc (.cells #[.int .i64 0, .int .i64 0, .int .i64 0, .int .i64 0] 23) := ⟨_, rfl⟩
  have b13 : RowKit.Below w1.heap.size w1 w3 := by rw [hw3]; exact b2.alloc b2.size _
  have x3 : Box w3 w.heap.size s := (b13.block _ HX1.out.lt).trans HX1.out
  have HB3 := Lib.hid (HB1.out.trans (b13.mono HB1.out.size))
  have HW3 := Lib.hid hw3
  have HX3 := Lib.hid x3
  clear hw3 b2 HBe b13
  obtain ⟨o, q, p, a⟩ := s
  obtain ⟨c0, c1, c2, c3⟩ := x3.cells
  dsimp only at c0 c1 c2 c3
  clear x3
  have HDi := Lib.hid (fun w => dist_below ⟨o, q, p, a⟩ now w)
  have HRd := Lib.hid (fun w => rdist_below ⟨o, q, p, a⟩ now w)
  have HAd := Lib.hid (fun w => addnil_below ⟨o, q, p, a⟩ w)
  dsimp only at HDi HRd HAd
  generalize S4.dist now ⟨o, q, p, a⟩ = dv at *
  have HRt := Lib.hid (fun w => root_rt n hn w)
  have HRr := Lib.hid (fun w => rroot_rt n hn w)
  have HDn := Lib.hid (fun w => disp_nil now w)
  have HDw := Lib.hid (fun (w : World) (g : Nat) (h : Flt w g []) => disp_new now h)
  generalize dsum [] now 8 = ds at *
  generalize rt n = rn at *
  clear hn
  have HBx := Lib.hid (show ∀ (wa wb : World), RowKit.Below wa.heap.size wa wb → Box wa w.heap.size ⟨o, q, p, a⟩ → Box wb w.heap.size ⟨o, q, p, a⟩ from fun _ _ b h => (b.block _ h.lt).trans h)
  go_upto_region 3 with fail
  rw [← HW3.out]
  go_region_held3 (fun w' => w'.cell? ⟨w.heap.size, 0, none⟩ = some (.int .i64 o) ∧ w'.cell? ⟨w.heap.size, 1, none⟩ = some (.int .i64 q) ∧ w'.cell? ⟨w.heap.size, 2, none⟩ = some (.int .i64 p) ∧ w'.cell? ⟨w.heap.size, 3, none⟩ = some (.int .i64 a))
    (first | exact ⟨c0, c1, c2, c3⟩ | exact xaa.out.cells | exact xab.out.cells | exact xac.out.cells | exact xad.out.cells | exact xae.out.cells | exact xaf.out.cells | exact xag.out.cells | exact xah.out.cells | exact xai.out.cells)
    ((first
      | (go_at_call 9; refine (alive_any _).mono ?_; rintro e wa ⟨rfl, ba⟩
         have xaa := Lib.hid (show Box wa w.heap.size ⟨o, q, p, a⟩ from HBx.out w3.drew _ ba HX3.out)
         have hba := Lib.hid (bthen HB3.out.drew ba (Nat.le_refl _))
         clear ba)
      | (go_at_call 10; refine (HDi.out _).mono ?_; rintro e wb ⟨rfl, ba⟩
         have xab := Lib.hid (HBx.out _ _ ba xaa.out)
         have hbb := Lib.hid (bthen hba.out ba (Nat.le_refl _))
         clear ba)
      | (go_at_call 11; refine (HRd.out _).mono ?_; rintro e wc ⟨rfl, ba⟩
         have xac := Lib.hid (HBx.out _ _ ba xab.out)
         have hbc := Lib.hid (bthen hbb.out ba (Nat.le_refl _))
         clear ba)
      | (go_at_call 12; refine (HRt.out _).mono ?_; rintro e wc' ⟨rfl, rfl⟩)
      | (go_at_call 13; refine (HRr.out _).mono ?_; rintro e wc'' ⟨rfl, rfl⟩)
      | (go_at_call 14; refine (HAd.out _).mono ?_; rintro e wd ⟨rfl, ba⟩
         have xad := Lib.hid (HBx.out _ _ ba xac.out)
         have hbd := Lib.hid (bthen hbc.out ba (Nat.le_refl _))
         clear ba)
      | (go_at_call 15; refine (reset_nil _).mono ?_; rintro e wd' ⟨rfl, rfl⟩)
      | (go_at_call 16; refine (len_nil _).mono ?_; rintro e wd'' ⟨rfl, rfl⟩)
      | (go_at_call 17; refine (jitter_nil _ _).mono ?_; rintro e we ⟨rfl, ba⟩
         have xae := Lib.hid (HBx.out _ _ ba xad.out)
         have hbe := Lib.hid (bthen hbd.out ba (Nat.le_refl _))
         clear ba)
      | (go_at_call 18; refine (row_nil _ _).mono ?_; rintro e wf ⟨rfl, ba⟩
         have xaf := Lib.hid (HBx.out _ _ ba xae.out)
         have hbf := Lib.hid (bthen hbe.out ba (Nat.le_refl _))
         clear ba)
      | (go_at_call 19; with_reducible refine (HDn.out _).mono ?_; rintro e wg ⟨rfl, ba⟩
         have xag := Lib.hid (HBx.out _ _ ba xaf.out)
         have hbg := Lib.hid (bthen hbf.out ba (Nat.le_refl _))
         clear ba)
      | (go_at_call 20; refine (new_any _).mono ?_; rintro e wh ⟨rfl, hfl, hwh⟩
         have ba : RowKit.Below wg.heap.size wg wh := by rw [hwh]; exact (Below.refl _ _).alloc (Nat.le_refl _) _
         have xah := Lib.hid (HBx.out _ _ ba xag.out)
         have hbh := Lib.hid (bthen hbg.out ba (Nat.le_refl _))
         have hfh := Lib.hid hfl
         clear ba hfl hwh)
      | (go_at_call 19; with_reducible refine (HDw.out _ _ hfh.out).mono ?_; rintro e wi ⟨rfl, ba⟩
         have xai := Lib.hid (HBx.out _ _ ba xah.out)
         have hbi := Lib.hid (bthen hbh.out ba (Nat.le_refl _))
         clear ba)))
  go_wp2_with fail
  go_ret
  exact ⟨rfl, hbi.out⟩
end Go.Proofs.Ytofieoklcegddaa
