/- For every three values the Go function ValuesOrder returns true and leaves its arguments as they were. No condition. -/
import Derived.Test.YtonfpomgkgljiaaV7
namespace Go.Proofs.Ytonfpomgkgljiaa.valuesOrderP
open Go.ChangeShapes Go.WideShapes Go.ChangeAt Go.RowKit
set_option linter.unusedVariables false

theorem boxes_three (W : World) (ta fa : Int) (Aa : Option Addr) (na ca : Nat) (Ba : Option Addr) (ma ea : Nat) (tb fb : Int) (Ab : Option Addr) (nb cb : Nat) (Bb : Option Addr) (mb eb : Nat) (tc fc : Int) (Ac : Option Addr) (nc cc : Nat) (Bc : Option Addr) (mc ec : Nat) {G : Nat} (hG : W.heap.size = G) :
    (((((W.alloc (.cells #[.int .u32 ta, .int .u32 fa, .slice Aa na ca, .slice Ba ma ea] 33)).alloc (.cells #[.int .u32 tb, .int .u32 fb, .slice Ab nb cb, .slice Bb mb eb] 33)).alloc (.cells #[.int .u32 tc, .int .u32 fc, .slice Ac nc cc, .slice Bc mc ec] 33)).cell? ⟨G, 0, none⟩ = some (.int .u32 ta) ∧ (((W.alloc (.cells #[.int .u32 ta, .int .u32 fa, .slice Aa na ca, .slice Ba ma ea] 33)).alloc (.cells #[.int .u32 tb, .int .u32 fb, .slice Ab nb cb, .slice Bb mb eb] 33)).alloc (.cells #[.int .u32 tc, .int .u32 fc, .slice Ac nc cc, .slice Bc mc ec] 33)).cell? ⟨G, 1, none⟩ = some (.int .u32 fa) ∧ (((W.alloc (.cells #[.int .u32 ta, .int .u32 fa, .slice Aa na ca, .slice Ba ma ea] 33)).alloc (.cells #[.int .u32 tb, .int .u32 fb, .slice Ab nb cb, .slice Bb mb eb] 33)).alloc (.cells #[.int .u32 tc, .int .u32 fc, .slice Ac nc cc, .slice Bc mc ec] 33)).cell? ⟨G, 2, none⟩ = some (.slice Aa na ca) ∧ (((W.alloc (.cells #[.int .u32 ta, .int .u32 fa, .slice Aa na ca, .slice Ba ma ea] 33)).alloc (.cells #[.int .u32 tb, .int .u32 fb, .slice Ab nb cb, .slice Bb mb eb] 33)).alloc (.cells #[.int .u32 tc, .int .u32 fc, .slice Ac nc cc, .slice Bc mc ec] 33)).cell? ⟨G, 3, none⟩ = some (.slice Ba ma ea) ∧ (((W.alloc (.cells #[.int .u32 ta, .int .u32 fa, .slice Aa na ca, .slice Ba ma ea] 33)).alloc (.cells #[.int .u32 tb, .int .u32 fb, .slice Ab nb cb, .slice Bb mb eb] 33)).alloc (.cells #[.int .u32 tc, .int .u32 fc, .slice Ac nc cc, .slice Bc mc ec] 33)).cell? ⟨G + 1, 0, none⟩ = some (.int .u32 tb) ∧ (((W.alloc (.cells #[.int .u32 ta, .int .u32 fa, .slice Aa na ca, .slice Ba ma ea] 33)).alloc (.cells #[.int .u32 tb, .int .u32 fb, .slice Ab nb cb, .slice Bb mb eb] 33)).alloc (.cells #[.int .u32 tc, .int .u32 fc, .slice Ac nc cc, .slice Bc mc ec] 33)).cell? ⟨G + 1, 1, none⟩ = some (.int .u32 fb) ∧ (((W.alloc (.cells #[.int .u32 ta, .int .u32 fa, .slice Aa na ca, .slice Ba ma ea] 33)).alloc (.cells #[.int .u32 tb, .int .u32 fb, .slice Ab nb cb, .slice Bb mb eb] 33)).alloc (.cells #[.int .u32 tc, .int .u32 fc, .slice Ac nc cc, .slice Bc mc ec] 33)).cell? ⟨G + 1, 2, none⟩ = some (.slice Ab nb cb) ∧ (((W.alloc (.cells #[.int .u32 ta, .int .u32 fa, .slice Aa na ca, .slice Ba ma ea] 33)).alloc (.cells #[.int .u32 tb, .int .u32 fb, .slice Ab nb cb, .slice Bb mb eb] 33)).alloc (.cells #[.int .u32 tc, .int .u32 fc, .slice Ac nc cc, .slice Bc mc ec] 33)).cell? ⟨G + 1, 3, none⟩ = some (.slice Bb mb eb) ∧ (((W.alloc (.cells #[.int .u32 ta, .int .u32 fa, .slice Aa na ca, .slice Ba ma ea] 33)).alloc (.cells #[.int .u32 tb, .int .u32 fb, .slice Ab nb cb, .slice Bb mb eb] 33)).alloc (.cells #[.int .u32 tc, .int .u32 fc, .slice Ac nc cc, .slice Bc mc ec] 33)).cell? ⟨G + 1 + 1, 0, none⟩ = some (.int .u32 tc) ∧ (((W.alloc (.cells #[.int .u32 ta, .int .u32 fa, .slice Aa na ca, .slice Ba ma ea] 33)).alloc (.cells #[.int .u32 tb, .int .u32 fb, .slice Ab nb cb, .slice Bb mb eb] 33)).alloc (.cells #[.int .u32 tc, .int .u32 fc, .slice Ac nc cc, .slice Bc mc ec] 33)).cell? ⟨G + 1 + 1, 1, none⟩ = some (.int .u32 fc) ∧ (((W.alloc (.cells #[.int .u32 ta, .int .u32 fa, .slice Aa na ca, .slice Ba ma ea] 33)).alloc (.cells #[.int .u32 tb, .int .u32 fb, .slice Ab nb cb, .slice Bb mb eb] 33)).alloc (.cells #[.int .u32 tc, .int .u32 fc, .slice Ac nc cc, .slice Bc mc ec] 33)).cell? ⟨G + 1 + 1, 2, none⟩ = some (.slice Ac nc cc) ∧ (((W.alloc (.cells #[.int .u32 ta, .int .u32 fa, .slice Aa na ca, .slice Ba ma ea] 33)).alloc (.cells #[.int .u32 tb, .int .u32 fb, .slice Ab nb cb, .slice Bb mb eb] 33)).alloc (.cells #[.int .u32 tc, .int .u32 fc, .slice Ac nc cc, .slice Bc mc ec] 33)).cell? ⟨G + 1 + 1, 3, none⟩ = some (.slice Bc mc ec)) ∧ (((W.alloc (.cells #[.int .u32 ta, .int .u32 fa, .slice Aa na ca, .slice Ba ma ea] 33)).alloc (.cells #[.int .u32 tb, .int .u32 fb, .slice Ab nb cb, .slice Bb mb eb] 33)).alloc (.cells #[.int .u32 tc, .int .u32 fc, .slice Ac nc cc, .slice Bc mc ec] 33)).heap.size = G + 3) ∧ Below W.heap.size W (((W.alloc (.cells #[.int .u32 ta, .int .u32 fa, .slice Aa na ca, .slice Ba ma ea] 33)).alloc (.cells #[.int .u32 tb, .int .u32 fb, .slice Ab nb cb, .slice Bb mb eb] 33)).alloc (.cells #[.int .u32 tc, .int .u32 fc, .slice Ac nc cc, .slice Bc mc ec] 33)) := by
  subst hG
  have x0 := World.alloc_heap_new W (.cells #[.int .u32 ta, .int .u32 fa, .slice Aa na ca, .slice Ba ma ea] 33)
  have x1 := World.alloc_heap_new (W.alloc (.cells #[.int .u32 ta, .int .u32 fa, .slice Aa na ca, .slice Ba ma ea] 33)) (.cells #[.int .u32 tb, .int .u32 fb, .slice Ab nb cb, .slice Bb mb eb] 33)
  have x2 := World.alloc_heap_new ((W.alloc (.cells #[.int .u32 ta, .int .u32 fa, .slice Aa na ca, .slice Ba ma ea] 33)).alloc (.cells #[.int .u32 tb, .int .u32 fb, .slice Ab nb cb, .slice Bb mb eb] 33)) (.cells #[.int .u32 tc, .int .u32 fc, .slice Ac nc cc, .slice Bc mc ec] 33)
  rw [World.size_alloc] at x1
  rw [World.size_alloc, World.size_alloc] at x2
  have y0 := (Below.heap_alloc ((W.alloc (.cells #[.int .u32 ta, .int .u32 fa, .slice Aa na ca, .slice Ba ma ea] 33)).alloc (.cells #[.int .u32 tb, .int .u32 fb, .slice Ab nb cb, .slice Bb mb eb] 33)) (.cells #[.int .u32 tc, .int .u32 fc, .slice Ac nc cc, .slice Bc mc ec] 33) W.heap.size (by simp; omega)).trans ((Below.heap_alloc (W.alloc (.cells #[.int .u32 ta, .int .u32 fa, .slice Aa na ca, .slice Ba ma ea] 33)) (.cells #[.int .u32 tb, .int .u32 fb, .slice Ab nb cb, .slice Bb mb eb] 33) W.heap.size (by simp)).trans x0)
  have y1 := (Below.heap_alloc ((W.alloc (.cells #[.int .u32 ta, .int .u32 fa, .slice Aa na ca, .slice Ba ma ea] 33)).alloc (.cells #[.int .u32 tb, .int .u32 fb, .slice Ab nb cb, .slice Bb mb eb] 33)) (.cells #[.int .u32 tc, .int .u32 fc, .slice Ac nc cc, .slice Bc mc ec] 33) (W.heap.size + 1) (by simp)).trans x1
  refine ⟨⟨⟨?_, ?_, ?_, ?_, ?_, ?_, ?_, ?_, ?_, ?_, ?_, ?_⟩, by simp⟩, (((Below.refl _ _).alloc (Nat.le_refl _) _).alloc (by simp) _).alloc (by simp; omega) _⟩
  all_goals (unfold World.cell?; first | (rw [y0]; rfl) | (rw [y1]; rfl) | (rw [x2]; rfl))

theorem nw_self (t f : Int) : nw t f t f = false := by simp [nw]
theorem nw_two (t f t' f' : Int) : (nw t f t' f' = true ∧ nw t' f' t f = false ∧ (f ≠ f' ∨ f = f' ∧ t ≠ t')) ∨ (nw t f t' f' = false ∧ nw t' f' t f = true ∧ (f ≠ f' ∨ f = f' ∧ t ≠ t')) ∨ (f = f' ∧ t = t') := by
  simp only [nw, Bool.or_eq_true, Bool.or_eq_false_iff, Bool.and_eq_true, Bool.and_eq_false_iff, decide_eq_true_eq, decide_eq_false_iff_not]
  omega
theorem nw_on (t f t' f' t2 f2 : Int) (h : nw t f t' f' = true) (k : nw t' f' t2 f2 = true) : nw t f t2 f2 = true := by
  simp only [nw, Bool.or_eq_true, Bool.and_eq_true, decide_eq_true_eq] at *
  omega

set_option maxHeartbeats 16000000 in
theorem law_any {W : World} (ta fa : Int) (Aa : Option Addr) (na ca : Nat) (Ba : Option Addr) (ma ea : Nat) (tb fb : Int) (Ab : Option Addr) (nb cb : Nat) (Bb : Option Addr) (mb eb : Nat) (tc fc : Int) (Ac : Option Addr) (nc cc : Nat) (Bc : Option Addr) (mc ec : Nat) :
    Calls Try.prog 6 #[.agg #[.int .u32 ta, .int .u32 fa, .slice Aa na ca, .slice Ba ma ea], .agg #[.int .u32 tb, .int .u32 fb, .slice Ab nb cb, .slice Bb mb eb], .agg #[.int .u32 tc, .int .u32 fc, .slice Ac nc cc, .slice Bc mc ec]] W (Yes W) := by
  obtain ⟨G, hG⟩ : ∃ G, W.heap.size = G := ⟨_, rfl⟩
  obtain ⟨⟨hcells, hsz⟩, hbel⟩ := boxes_three W ta fa Aa na ca Ba ma ea tb fb Ab nb cb Bb mb eb tc fc Ac nc cc Bc mc ec hG
  obtain ⟨w3, hw3⟩ : ∃ w3, w3 = (((W.alloc (.cells #[.int .u32 ta, .int .u32 fa, .slice Aa na ca, .slice Ba ma ea] 33)).alloc (.cells #[.int .u32 tb, .int .u32 fb, .slice Ab nb cb, .slice Bb mb eb] 33)).alloc (.cells #[.int .u32 tc, .int .u32 fc, .slice Ac nc cc, .slice Bc mc ec] 33)) := ⟨_, rfl⟩
  rw [← hw3] at hcells hsz hbel
  obtain ⟨ia0, ia1, ia2, ia3, ib0, ib1, ib2, ib3, ic0, ic1, ic2, ic3⟩ := hcells
  have hia : G < w3.heap.size := by omega
  have hib : G + 1 < w3.heap.size := by omega
  have hic : G + 1 + 1 < w3.heap.size := by omega
  have HW := Lib.hid hw3
  have N1 := Lib.hid (newer_any ta fa tb fb Aa na ca Ba ma ea Ab nb cb Bb mb eb)
  have N2 := Lib.hid (newer_any tb fb ta fa Ab nb cb Bb mb eb Aa na ca Ba ma ea)
  have N3 := Lib.hid (newer_any ta fa ta fa Aa na ca Ba ma ea Aa na ca Ba ma ea)
  have N4 := Lib.hid (newer_any tb fb tc fc Ab nb cb Bb mb eb Ac nc cc Bc mc ec)
  have N5 := Lib.hid (newer_any ta fa tc fc Aa na ca Ba ma ea Ac nc cc Bc mc ec)
  rw [nw_self] at N3
  have HG := Lib.hid hG
  have Hon := Lib.hid (nw_on ta fa tb fb tc fc)
  have HA := Lib.hid (fun w => alive_any w)
  clear hw3 hsz
  have h2 := nw_two ta fa tb fb
  go_enter Try.func6, Try.ntmps6
  go_wp2_with fail
  change Code.wp _ _ _ _ (((W.alloc (.cells #[.int .u32 ta, .int .u32 fa, .slice Aa na ca, .slice Ba ma ea] 33)).alloc (.cells #[.int .u32 tb, .int .u32 fb, .slice Ab nb cb, .slice Bb mb eb] 33)).alloc (.cells #[.int .u32 tc, .int .u32 fc, .slice Ac nc cc, .slice Bc mc ec] 33))
  rw [← HW.out]
  have da0 : w3.drew.cell? ⟨G, 0, none⟩ = some (.int .u32 ta) := ia0
  have da1 : w3.drew.cell? ⟨G, 1, none⟩ = some (.int .u32 fa) := ia1
  have da2 : w3.drew.cell? ⟨G, 2, none⟩ = some (.slice Aa na ca) := ia2
  have da3 : w3.drew.cell? ⟨G, 3, none⟩ = some (.slice Ba ma ea) := ia3
  have db0 : w3.drew.cell? ⟨G + 1, 0, none⟩ = some (.int .u32 tb) := ib0
  have db1 : w3.drew.cell? ⟨G + 1, 1, none⟩ = some (.int .u32 fb) := ib1
  have db2 : w3.drew.cell? ⟨G + 1, 2, none⟩ = some (.slice Ab nb cb) := ib2
  have db3 : w3.drew.cell? ⟨G + 1, 3, none⟩ = some (.slice Bb mb eb) := ib3
  have dc0 : w3.drew.cell? ⟨G + 1 + 1, 0, none⟩ = some (.int .u32 tc) := ic0
  have dc1 : w3.drew.cell? ⟨G + 1 + 1, 1, none⟩ = some (.int .u32 fc) := ic1
  have dc2 : w3.drew.cell? ⟨G + 1 + 1, 2, none⟩ = some (.slice Ac nc cc) := ic2
  have dc3 : w3.drew.cell? ⟨G + 1 + 1, 3, none⟩ = some (.slice Bc mc ec) := ic3
  have hda : G < w3.drew.heap.size := hia
  have hdb : G + 1 < w3.drew.heap.size := hib
  have hdc : G + 1 + 1 < w3.drew.heap.size := hic
  have Bd : Below W.heap.size W w3.drew := hbel.drew
  clear ia0 ia1 ia2 ia3 ib0 ib1 ib2 ib3 ic0 ic1 ic2 ic3 hia hib hic
  go_region_held (fun w' => w'.cell? ⟨G, 0, none⟩ = some (.int .u32 ta) ∧ w'.cell? ⟨G, 1, none⟩ = some (.int .u32 fa) ∧ w'.cell? ⟨G, 2, none⟩ = some (.slice Aa na ca) ∧ w'.cell? ⟨G, 3, none⟩ = some (.slice Ba ma ea) ∧ w'.cell? ⟨G + 1, 0, none⟩ = some (.int .u32 tb) ∧ w'.cell? ⟨G + 1, 1, none⟩ = some (.int .u32 fb) ∧ w'.cell? ⟨G + 1, 2, none⟩ = some (.slice Ab nb cb) ∧ w'.cell? ⟨G + 1, 3, none⟩ = some (.slice Bb mb eb) ∧ w'.cell? ⟨G + 1 + 1, 0, none⟩ = some (.int .u32 tc) ∧ w'.cell? ⟨G + 1 + 1, 1, none⟩ = some (.int .u32 fc) ∧ w'.cell? ⟨G + 1 + 1, 2, none⟩ = some (.slice Ac nc cc) ∧ w'.cell? ⟨G + 1 + 1, 3, none⟩ = some (.slice Bc mc ec))
    (first | exact ⟨qa0, qa1, qa2, qa3, qb0, qb1, qb2, qb3, qc0, qc1, qc2, qc3⟩ | exact ⟨pa0, pa1, pa2, pa3, pb0, pb1, pb2, pb3, pc0, pc1, pc2, pc3⟩ | exact ⟨da0, da1, da2, da3, db0, db1, db2, db3, dc0, dc1, dc2, dc3⟩)
    ((first
    | (go_at_call 24; with_reducible refine (N1.out _).mono ?_; rintro e w5 ⟨rfl, b5⟩
       have pa0 := (b5.cell (p := ⟨G, 0, none⟩) hda).trans da0
       have pa1 := (b5.cell (p := ⟨G, 1, none⟩) hda).trans da1
       have pa2 := (b5.cell (p := ⟨G, 2, none⟩) hda).trans da2
       have pa3 := (b5.cell (p := ⟨G, 3, none⟩) hda).trans da3
       have pb0 := (b5.cell (p := ⟨G + 1, 0, none⟩) hdb).trans db0
       have pb1 := (b5.cell (p := ⟨G + 1, 1, none⟩) hdb).trans db1
       have pb2 := (b5.cell (p := ⟨G + 1, 2, none⟩) hdb).trans db2
       have pb3 := (b5.cell (p := ⟨G + 1, 3, none⟩) hdb).trans db3
       have pc0 := (b5.cell (p := ⟨G + 1 + 1, 0, none⟩) hdc).trans dc0
       have pc1 := (b5.cell (p := ⟨G + 1 + 1, 1, none⟩) hdc).trans dc1
       have pc2 := (b5.cell (p := ⟨G + 1 + 1, 2, none⟩) hdc).trans dc2
       have pc3 := (b5.cell (p := ⟨G + 1 + 1, 3, none⟩) hdc).trans dc3
       have hpa : G < _ := Nat.lt_of_lt_of_le hda b5.size
       have hpb : G + 1 < _ := Nat.lt_of_lt_of_le hdb b5.size
       have hpc : G + 1 + 1 < _ := Nat.lt_of_lt_of_le hdc b5.size
       have B5 := Bd.trans (b5.mono Bd.size))
    | (go_at_call 24; with_reducible refine (N2.out _).mono ?_; rintro e w6 ⟨rfl, b6⟩
       have qa0 := (b6.cell (p := ⟨G, 0, none⟩) hpa).trans pa0
       have qa1 := (b6.cell (p := ⟨G, 1, none⟩) hpa).trans pa1
       have qa2 := (b6.cell (p := ⟨G, 2, none⟩) hpa).trans pa2
       have qa3 := (b6.cell (p := ⟨G, 3, none⟩) hpa).trans pa3
       have qb0 := (b6.cell (p := ⟨G + 1, 0, none⟩) hpb).trans pb0
       have qb1 := (b6.cell (p := ⟨G + 1, 1, none⟩) hpb).trans pb1
       have qb2 := (b6.cell (p := ⟨G + 1, 2, none⟩) hpb).trans pb2
       have qb3 := (b6.cell (p := ⟨G + 1, 3, none⟩) hpb).trans pb3
       have qc0 := (b6.cell (p := ⟨G + 1 + 1, 0, none⟩) hpc).trans pc0
       have qc1 := (b6.cell (p := ⟨G + 1 + 1, 1, none⟩) hpc).trans pc1
       have qc2 := (b6.cell (p := ⟨G + 1 + 1, 2, none⟩) hpc).trans pc2
       have qc3 := (b6.cell (p := ⟨G + 1 + 1, 3, none⟩) hpc).trans pc3
       have hqa : G < _ := Nat.lt_of_lt_of_le hpa b6.size
       have hqb : G + 1 < _ := Nat.lt_of_lt_of_le hpb b6.size
       have hqc : G + 1 + 1 < _ := Nat.lt_of_lt_of_le hpc b6.size
       have B6 := B5.trans (b6.mono B5.size))))
  clear da0 da1 da2 da3 db0 db1 db2 db3 dc0 dc1 dc2 dc3 hda hdb hdc
  clear pa0 pa1 pa2 pa3 pb0 pb1 pb2 pb3 pc0 pc1 pc2 pc3 hpa hpb hpc
  clear N1 N2 HW b5 b6 B5 Bd
  rcases h2 with ⟨hx, hy, hf | ⟨rfl, ht⟩⟩ | ⟨hx, hy, hf | ⟨rfl, ht⟩⟩ | ⟨rfl, rfl⟩
  · have hp : (fa == fb) = false := by simp [hf]
    go_wp2_with fail
    refine (N3.out _).mono ?_
    rintro e w7 ⟨rfl, b7⟩
    have ra0 := (b7.cell (p := ⟨G, 0, none⟩) hqa).trans qa0
    have ra1 := (b7.cell (p := ⟨G, 1, none⟩) hqa).trans qa1
    have ra2 := (b7.cell (p := ⟨G, 2, none⟩) hqa).trans qa2
    have ra3 := (b7.cell (p := ⟨G, 3, none⟩) hqa).trans qa3
    have rb0 := (b7.cell (p := ⟨G + 1, 0, none⟩) hqb).trans qb0
    have rb1 := (b7.cell (p := ⟨G + 1, 1, none⟩) hqb).trans qb1
    have rb2 := (b7.cell (p := ⟨G + 1, 2, none⟩) hqb).trans qb2
    have rb3 := (b7.cell (p := ⟨G + 1, 3, none⟩) hqb).trans qb3
    have rc0 := (b7.cell (p := ⟨G + 1 + 1, 0, none⟩) hqc).trans qc0
    have rc1 := (b7.cell (p := ⟨G + 1 + 1, 1, none⟩) hqc).trans qc1
    have rc2 := (b7.cell (p := ⟨G + 1 + 1, 2, none⟩) hqc).trans qc2
    have rc3 := (b7.cell (p := ⟨G + 1 + 1, 3, none⟩) hqc).trans qc3
    have hra : G < _ := Nat.lt_of_lt_of_le hqa b7.size
    have hrb : G + 1 < _ := Nat.lt_of_lt_of_le hqb b7.size
    have hrc : G + 1 + 1 < _ := Nat.lt_of_lt_of_le hqc b7.size
    have B7 := B6.trans (b7.mono B6.size)
    clear qa0 qa1 qa2 qa3 qb0 qb1 qb2 qb3 qc0 qc1 qc2 qc3 hqa hqb hqc
    clear B6 b7
    go_wp2_with fail
    refine (HA.out w7).mono ?_
    rintro e w8 ⟨rfl, b8⟩
    have sa0 := (b8.cell (p := ⟨G, 0, none⟩) hra).trans ra0
    have sa1 := (b8.cell (p := ⟨G, 1, none⟩) hra).trans ra1
    have sa2 := (b8.cell (p := ⟨G, 2, none⟩) hra).trans ra2
    have sa3 := (b8.cell (p := ⟨G, 3, none⟩) hra).trans ra3
    have sb0 := (b8.cell (p := ⟨G + 1, 0, none⟩) hrb).trans rb0
    have sb1 := (b8.cell (p := ⟨G + 1, 1, none⟩) hrb).trans rb1
    have sb2 := (b8.cell (p := ⟨G + 1, 2, none⟩) hrb).trans rb2
    have sb3 := (b8.cell (p := ⟨G + 1, 3, none⟩) hrb).trans rb3
    have sc0 := (b8.cell (p := ⟨G + 1 + 1, 0, none⟩) hrc).trans rc0
    have sc1 := (b8.cell (p := ⟨G + 1 + 1, 1, none⟩) hrc).trans rc1
    have sc2 := (b8.cell (p := ⟨G + 1 + 1, 2, none⟩) hrc).trans rc2
    have sc3 := (b8.cell (p := ⟨G + 1 + 1, 3, none⟩) hrc).trans rc3
    have hsa : G < _ := Nat.lt_of_lt_of_le hra b8.size
    have hsb : G + 1 < _ := Nat.lt_of_lt_of_le hrb b8.size
    have hsc : G + 1 + 1 < _ := Nat.lt_of_lt_of_le hrc b8.size
    have B8 := B7.trans (b8.mono B7.size)
    clear ra0 ra1 ra2 ra3 rb0 rb1 rb2 rb3 rc0 rc1 rc2 rc3 hra hrb hrc
    clear B7 b8
    cases hZ : nw tb fb tc fc with
    | false =>
      rw [hZ] at N4
      go_wp2_with fail
      refine (N4.out _).mono ?_
      rintro e w9 ⟨rfl, b9⟩
      have B9 := B8.trans (b9.mono B8.size)
      clear B8 b9
      go_wp2_with fail
      go_ret
      exact ⟨rfl, B9⟩
    | true =>
      have hT := Hon.out hx hZ
      rw [hZ] at N4
      rw [hT] at N5
      go_wp2_with fail
      refine (N4.out _).mono ?_
      rintro e w9 ⟨rfl, b9⟩
      have ua0 := (b9.cell (p := ⟨G, 0, none⟩) hsa).trans sa0
      have ua1 := (b9.cell (p := ⟨G, 1, none⟩) hsa).trans sa1
      have ua2 := (b9.cell (p := ⟨G, 2, none⟩) hsa).trans sa2
      have ua3 := (b9.cell (p := ⟨G, 3, none⟩) hsa).trans sa3
      have ub0 := (b9.cell (p := ⟨G + 1, 0, none⟩) hsb).trans sb0
      have ub1 := (b9.cell (p := ⟨G + 1, 1, none⟩) hsb).trans sb1
      have ub2 := (b9.cell (p := ⟨G + 1, 2, none⟩) hsb).trans sb2
      have ub3 := (b9.cell (p := ⟨G + 1, 3, none⟩) hsb).trans sb3
      have uc0 := (b9.cell (p := ⟨G + 1 + 1, 0, none⟩) hsc).trans sc0
      have uc1 := (b9.cell (p := ⟨G + 1 + 1, 1, none⟩) hsc).trans sc1
      have uc2 := (b9.cell (p := ⟨G + 1 + 1, 2, none⟩) hsc).trans sc2
      have uc3 := (b9.cell (p := ⟨G + 1 + 1, 3, none⟩) hsc).trans sc3
      have hua : G < _ := Nat.lt_of_lt_of_le hsa b9.size
      have hub : G + 1 < _ := Nat.lt_of_lt_of_le hsb b9.size
      have huc : G + 1 + 1 < _ := Nat.lt_of_lt_of_le hsc b9.size
      have B9 := B8.trans (b9.mono B8.size)
      clear B8 b9
      go_wp2_with fail
      refine (N5.out _).mono ?_
      rintro e w10 ⟨rfl, b10⟩
      have B10 := B9.trans (b10.mono B9.size)
      clear B9 b10
      go_wp2_with fail
      go_ret
      exact ⟨rfl, B10⟩
  · have hp : (ta == tb) = false := by simp [ht]
    go_wp2_with fail
    refine (N3.out _).mono ?_
    rintro e w7 ⟨rfl, b7⟩
    have ra0 := (b7.cell (p := ⟨G, 0, none⟩) hqa).trans qa0
    have ra1 := (b7.cell (p := ⟨G, 1, none⟩) hqa).trans qa1
    have ra2 := (b7.cell (p := ⟨G, 2, none⟩) hqa).trans qa2
    have ra3 := (b7.cell (p := ⟨G, 3, none⟩) hqa).trans qa3
    have rb0 := (b7.cell (p := ⟨G + 1, 0, none⟩) hqb).trans qb0
    have rb1 := (b7.cell (p := ⟨G + 1, 1, none⟩) hqb).trans qb1
    have rb2 := (b7.cell (p := ⟨G + 1, 2, none⟩) hqb).trans qb2
    have rb3 := (b7.cell (p := ⟨G + 1, 3, none⟩) hqb).trans qb3
    have rc0 := (b7.cell (p := ⟨G + 1 + 1, 0, none⟩) hqc).trans qc0
    have rc1 := (b7.cell (p := ⟨G + 1 + 1, 1, none⟩) hqc).trans qc1
    have rc2 := (b7.cell (p := ⟨G + 1 + 1, 2, none⟩) hqc).trans qc2
    have rc3 := (b7.cell (p := ⟨G + 1 + 1, 3, none⟩) hqc).trans qc3
    have hra : G < _ := Nat.lt_of_lt_of_le hqa b7.size
    have hrb : G + 1 < _ := Nat.lt_of_lt_of_le hqb b7.size
    have hrc : G + 1 + 1 < _ := Nat.lt_of_lt_of_le hqc b7.size
    have B7 := B6.trans (b7.mono B6.size)
    clear qa0 qa1 qa2 qa3 qb0 qb1 qb2 qb3 qc0 qc1 qc2 qc3 hqa hqb hqc
    clear B6 b7
    go_wp2_with fail
    refine (HA.out w7).mono ?_
    rintro e w8 ⟨rfl, b8⟩
    have sa0 := (b8.cell (p := ⟨G, 0, none⟩) hra).trans ra0
    have sa1 := (b8.cell (p := ⟨G, 1, none⟩) hra).trans ra1
    have sa2 := (b8.cell (p := ⟨G, 2, none⟩) hra).trans ra2
    have sa3 := (b8.cell (p := ⟨G, 3, none⟩) hra).trans ra3
    have sb0 := (b8.cell (p := ⟨G + 1, 0, none⟩) hrb).trans rb0
    have sb1 := (b8.cell (p := ⟨G + 1, 1, none⟩) hrb).trans rb1
    have sb2 := (b8.cell (p := ⟨G + 1, 2, none⟩) hrb).trans rb2
    have sb3 := (b8.cell (p := ⟨G + 1, 3, none⟩) hrb).trans rb3
    have sc0 := (b8.cell (p := ⟨G + 1 + 1, 0, none⟩) hrc).trans rc0
    have sc1 := (b8.cell (p := ⟨G + 1 + 1, 1, none⟩) hrc).trans rc1
    have sc2 := (b8.cell (p := ⟨G + 1 + 1, 2, none⟩) hrc).trans rc2
    have sc3 := (b8.cell (p := ⟨G + 1 + 1, 3, none⟩) hrc).trans rc3
    have hsa : G < _ := Nat.lt_of_lt_of_le hra b8.size
    have hsb : G + 1 < _ := Nat.lt_of_lt_of_le hrb b8.size
    have hsc : G + 1 + 1 < _ := Nat.lt_of_lt_of_le hrc b8.size
    have B8 := B7.trans (b8.mono B7.size)
    clear ra0 ra1 ra2 ra3 rb0 rb1 rb2 rb3 rc0 rc1 rc2 rc3 hra hrb hrc
    clear B7 b8
    cases hZ : nw tb fa tc fc with
    | false =>
      rw [hZ] at N4
      go_wp2_with fail
      refine (N4.out _).mono ?_
      rintro e w9 ⟨rfl, b9⟩
      have B9 := B8.trans (b9.mono B8.size)
      clear B8 b9
      go_wp2_with fail
      go_ret
      exact ⟨rfl, B9⟩
    | true =>
      have hT := Hon.out hx hZ
      rw [hZ] at N4
      rw [hT] at N5
      go_wp2_with fail
      refine (N4.out _).mono ?_
      rintro e w9 ⟨rfl, b9⟩
      have ua0 := (b9.cell (p := ⟨G, 0, none⟩) hsa).trans sa0
      have ua1 := (b9.cell (p := ⟨G, 1, none⟩) hsa).trans sa1
      have ua2 := (b9.cell (p := ⟨G, 2, none⟩) hsa).trans sa2
      have ua3 := (b9.cell (p := ⟨G, 3, none⟩) hsa).trans sa3
      have ub0 := (b9.cell (p := ⟨G + 1, 0, none⟩) hsb).trans sb0
      have ub1 := (b9.cell (p := ⟨G + 1, 1, none⟩) hsb).trans sb1
      have ub2 := (b9.cell (p := ⟨G + 1, 2, none⟩) hsb).trans sb2
      have ub3 := (b9.cell (p := ⟨G + 1, 3, none⟩) hsb).trans sb3
      have uc0 := (b9.cell (p := ⟨G + 1 + 1, 0, none⟩) hsc).trans sc0
      have uc1 := (b9.cell (p := ⟨G + 1 + 1, 1, none⟩) hsc).trans sc1
      have uc2 := (b9.cell (p := ⟨G + 1 + 1, 2, none⟩) hsc).trans sc2
      have uc3 := (b9.cell (p := ⟨G + 1 + 1, 3, none⟩) hsc).trans sc3
      have hua : G < _ := Nat.lt_of_lt_of_le hsa b9.size
      have hub : G + 1 < _ := Nat.lt_of_lt_of_le hsb b9.size
      have huc : G + 1 + 1 < _ := Nat.lt_of_lt_of_le hsc b9.size
      have B9 := B8.trans (b9.mono B8.size)
      clear B8 b9
      go_wp2_with fail
      refine (N5.out _).mono ?_
      rintro e w10 ⟨rfl, b10⟩
      have B10 := B9.trans (b10.mono B9.size)
      clear B9 b10
      go_wp2_with fail
      go_ret
      exact ⟨rfl, B10⟩
  · have hp : (fa == fb) = false := by simp [hf]
    go_wp2_with fail
    refine (N3.out _).mono ?_
    rintro e w7 ⟨rfl, b7⟩
    have ra0 := (b7.cell (p := ⟨G, 0, none⟩) hqa).trans qa0
    have ra1 := (b7.cell (p := ⟨G, 1, none⟩) hqa).trans qa1
    have ra2 := (b7.cell (p := ⟨G, 2, none⟩) hqa).trans qa2
    have ra3 := (b7.cell (p := ⟨G, 3, none⟩) hqa).trans qa3
    have rb0 := (b7.cell (p := ⟨G + 1, 0, none⟩) hqb).trans qb0
    have rb1 := (b7.cell (p := ⟨G + 1, 1, none⟩) hqb).trans qb1
    have rb2 := (b7.cell (p := ⟨G + 1, 2, none⟩) hqb).trans qb2
    have rb3 := (b7.cell (p := ⟨G + 1, 3, none⟩) hqb).trans qb3
    have rc0 := (b7.cell (p := ⟨G + 1 + 1, 0, none⟩) hqc).trans qc0
    have rc1 := (b7.cell (p := ⟨G + 1 + 1, 1, none⟩) hqc).trans qc1
    have rc2 := (b7.cell (p := ⟨G + 1 + 1, 2, none⟩) hqc).trans qc2
    have rc3 := (b7.cell (p := ⟨G + 1 + 1, 3, none⟩) hqc).trans qc3
    have hra : G < _ := Nat.lt_of_lt_of_le hqa b7.size
    have hrb : G + 1 < _ := Nat.lt_of_lt_of_le hqb b7.size
    have hrc : G + 1 + 1 < _ := Nat.lt_of_lt_of_le hqc b7.size
    have B7 := B6.trans (b7.mono B6.size)
    clear qa0 qa1 qa2 qa3 qb0 qb1 qb2 qb3 qc0 qc1 qc2 qc3 hqa hqb hqc
    clear B6 b7
    go_wp2_with fail
    refine (HA.out w7).mono ?_
    rintro e w8 ⟨rfl, b8⟩
    have sa0 := (b8.cell (p := ⟨G, 0, none⟩) hra).trans ra0
    have sa1 := (b8.cell (p := ⟨G, 1, none⟩) hra).trans ra1
    have sa2 := (b8.cell (p := ⟨G, 2, none⟩) hra).trans ra2
    have sa3 := (b8.cell (p := ⟨G, 3, none⟩) hra).trans ra3
    have sb0 := (b8.cell (p := ⟨G + 1, 0, none⟩) hrb).trans rb0
    have sb1 := (b8.cell (p := ⟨G + 1, 1, none⟩) hrb).trans rb1
    have sb2 := (b8.cell (p := ⟨G + 1, 2, none⟩) hrb).trans rb2
    have sb3 := (b8.cell (p := ⟨G + 1, 3, none⟩) hrb).trans rb3
    have sc0 := (b8.cell (p := ⟨G + 1 + 1, 0, none⟩) hrc).trans rc0
    have sc1 := (b8.cell (p := ⟨G + 1 + 1, 1, none⟩) hrc).trans rc1
    have sc2 := (b8.cell (p := ⟨G + 1 + 1, 2, none⟩) hrc).trans rc2
    have sc3 := (b8.cell (p := ⟨G + 1 + 1, 3, none⟩) hrc).trans rc3
    have hsa : G < _ := Nat.lt_of_lt_of_le hra b8.size
    have hsb : G + 1 < _ := Nat.lt_of_lt_of_le hrb b8.size
    have hsc : G + 1 + 1 < _ := Nat.lt_of_lt_of_le hrc b8.size
    have B8 := B7.trans (b8.mono B7.size)
    clear ra0 ra1 ra2 ra3 rb0 rb1 rb2 rb3 rc0 rc1 rc2 rc3 hra hrb hrc
    clear B7 b8
    go_wp2_with fail
    go_ret
    exact ⟨rfl, B8⟩
  · have hp : (ta == tb) = false := by simp [ht]
    go_wp2_with fail
    refine (N3.out _).mono ?_
    rintro e w7 ⟨rfl, b7⟩
    have ra0 := (b7.cell (p := ⟨G, 0, none⟩) hqa).trans qa0
    have ra1 := (b7.cell (p := ⟨G, 1, none⟩) hqa).trans qa1
    have ra2 := (b7.cell (p := ⟨G, 2, none⟩) hqa).trans qa2
    have ra3 := (b7.cell (p := ⟨G, 3, none⟩) hqa).trans qa3
    have rb0 := (b7.cell (p := ⟨G + 1, 0, none⟩) hqb).trans qb0
    have rb1 := (b7.cell (p := ⟨G + 1, 1, none⟩) hqb).trans qb1
    have rb2 := (b7.cell (p := ⟨G + 1, 2, none⟩) hqb).trans qb2
    have rb3 := (b7.cell (p := ⟨G + 1, 3, none⟩) hqb).trans qb3
    have rc0 := (b7.cell (p := ⟨G + 1 + 1, 0, none⟩) hqc).trans qc0
    have rc1 := (b7.cell (p := ⟨G + 1 + 1, 1, none⟩) hqc).trans qc1
    have rc2 := (b7.cell (p := ⟨G + 1 + 1, 2, none⟩) hqc).trans qc2
    have rc3 := (b7.cell (p := ⟨G + 1 + 1, 3, none⟩) hqc).trans qc3
    have hra : G < _ := Nat.lt_of_lt_of_le hqa b7.size
    have hrb : G + 1 < _ := Nat.lt_of_lt_of_le hqb b7.size
    have hrc : G + 1 + 1 < _ := Nat.lt_of_lt_of_le hqc b7.size
    have B7 := B6.trans (b7.mono B6.size)
    clear qa0 qa1 qa2 qa3 qb0 qb1 qb2 qb3 qc0 qc1 qc2 qc3 hqa hqb hqc
    clear B6 b7
    go_wp2_with fail
    refine (HA.out w7).mono ?_
    rintro e w8 ⟨rfl, b8⟩
    have sa0 := (b8.cell (p := ⟨G, 0, none⟩) hra).trans ra0
    have sa1 := (b8.cell (p := ⟨G, 1, none⟩) hra).trans ra1
    have sa2 := (b8.cell (p := ⟨G, 2, none⟩) hra).trans ra2
    have sa3 := (b8.cell (p := ⟨G, 3, none⟩) hra).trans ra3
    have sb0 := (b8.cell (p := ⟨G + 1, 0, none⟩) hrb).trans rb0
    have sb1 := (b8.cell (p := ⟨G + 1, 1, none⟩) hrb).trans rb1
    have sb2 := (b8.cell (p := ⟨G + 1, 2, none⟩) hrb).trans rb2
    have sb3 := (b8.cell (p := ⟨G + 1, 3, none⟩) hrb).trans rb3
    have sc0 := (b8.cell (p := ⟨G + 1 + 1, 0, none⟩) hrc).trans rc0
    have sc1 := (b8.cell (p := ⟨G + 1 + 1, 1, none⟩) hrc).trans rc1
    have sc2 := (b8.cell (p := ⟨G + 1 + 1, 2, none⟩) hrc).trans rc2
    have sc3 := (b8.cell (p := ⟨G + 1 + 1, 3, none⟩) hrc).trans rc3
    have hsa : G < _ := Nat.lt_of_lt_of_le hra b8.size
    have hsb : G + 1 < _ := Nat.lt_of_lt_of_le hrb b8.size
    have hsc : G + 1 + 1 < _ := Nat.lt_of_lt_of_le hrc b8.size
    have B8 := B7.trans (b8.mono B7.size)
    clear ra0 ra1 ra2 ra3 rb0 rb1 rb2 rb3 rc0 rc1 rc2 rc3 hra hrb hrc
    clear B7 b8
    go_wp2_with fail
    go_ret
    exact ⟨rfl, B8⟩
  · have hx := nw_self ta fa
    go_wp2_with fail
    refine (N3.out _).mono ?_
    rintro e w7 ⟨rfl, b7⟩
    have ra0 := (b7.cell (p := ⟨G, 0, none⟩) hqa).trans qa0
    have ra1 := (b7.cell (p := ⟨G, 1, none⟩) hqa).trans qa1
    have ra2 := (b7.cell (p := ⟨G, 2, none⟩) hqa).trans qa2
    have ra3 := (b7.cell (p := ⟨G, 3, none⟩) hqa).trans qa3
    have rb0 := (b7.cell (p := ⟨G + 1, 0, none⟩) hqb).trans qb0
    have rb1 := (b7.cell (p := ⟨G + 1, 1, none⟩) hqb).trans qb1
    have rb2 := (b7.cell (p := ⟨G + 1, 2, none⟩) hqb).trans qb2
    have rb3 := (b7.cell (p := ⟨G + 1, 3, none⟩) hqb).trans qb3
    have rc0 := (b7.cell (p := ⟨G + 1 + 1, 0, none⟩) hqc).trans qc0
    have rc1 := (b7.cell (p := ⟨G + 1 + 1, 1, none⟩) hqc).trans qc1
    have rc2 := (b7.cell (p := ⟨G + 1 + 1, 2, none⟩) hqc).trans qc2
    have rc3 := (b7.cell (p := ⟨G + 1 + 1, 3, none⟩) hqc).trans qc3
    have hra : G < _ := Nat.lt_of_lt_of_le hqa b7.size
    have hrb : G + 1 < _ := Nat.lt_of_lt_of_le hqb b7.size
    have hrc : G + 1 + 1 < _ := Nat.lt_of_lt_of_le hqc b7.size
    have B7 := B6.trans (b7.mono B6.size)
    clear qa0 qa1 qa2 qa3 qb0 qb1 qb2 qb3 qc0 qc1 qc2 qc3 hqa hqb hqc
    clear B6 b7
    go_wp2_with fail
    refine (HA.out w7).mono ?_
    rintro e w8 ⟨rfl, b8⟩
    have sa0 := (b8.cell (p := ⟨G, 0, none⟩) hra).trans ra0
    have sa1 := (b8.cell (p := ⟨G, 1, none⟩) hra).trans ra1
    have sa2 := (b8.cell (p := ⟨G, 2, none⟩) hra).trans ra2
    have sa3 := (b8.cell (p := ⟨G, 3, none⟩) hra).trans ra3
    have sb0 := (b8.cell (p := ⟨G + 1, 0, none⟩) hrb).trans rb0
    have sb1 := (b8.cell (p := ⟨G + 1, 1, none⟩) hrb).trans rb1
    have sb2 := (b8.cell (p := ⟨G + 1, 2, none⟩) hrb).trans rb2
    have sb3 := (b8.cell (p := ⟨G + 1, 3, none⟩) hrb).trans rb3
    have sc0 := (b8.cell (p := ⟨G + 1 + 1, 0, none⟩) hrc).trans rc0
    have sc1 := (b8.cell (p := ⟨G + 1 + 1, 1, none⟩) hrc).trans rc1
    have sc2 := (b8.cell (p := ⟨G + 1 + 1, 2, none⟩) hrc).trans rc2
    have sc3 := (b8.cell (p := ⟨G + 1 + 1, 3, none⟩) hrc).trans rc3
    have hsa : G < _ := Nat.lt_of_lt_of_le hra b8.size
    have hsb : G + 1 < _ := Nat.lt_of_lt_of_le hrb b8.size
    have hsc : G + 1 + 1 < _ := Nat.lt_of_lt_of_le hrc b8.size
    have B8 := B7.trans (b8.mono B7.size)
    clear ra0 ra1 ra2 ra3 rb0 rb1 rb2 rb3 rc0 rc1 rc2 rc3 hra hrb hrc
    clear B7 b8
    go_wp2_with fail
    go_ret
    exact ⟨rfl, B8⟩

set_option maxRecDepth 100000 in
theorem lifted (os : Os) (started : os.Started) (H : Type) (enc : TypeId × Value → H) :
    ReturnsInHanded {} Try.checked os 6 .any (Rows.valuesOrderSpec.pre6 enc Try.prog Try.f6 Rows.valuesOrderRow.domain false) (Rows.valuesOrderSpec.post enc Try.prog Try.f6 false true false false) := by
  refine returnsInHanded_of_change (C := Try.checked) own started (by kernel_rfl) Try.func6
    (ChangeSpec.witness6 (enc := enc) (C := Try.checked) false ⟨#[], #[.agg #[.int .u32 0, .int .u32 0, .slice none 0 0, .slice none 0 0], .agg #[.int .u32 0, .int .u32 0, .slice none 0 0, .slice none 0 0], .agg #[.int .u32 0, .int .u32 0, .slice none 0 0, .slice none 0 0]], []⟩ 8 (by kernel_rfl) (by kernel_rfl) (by kernel_rfl) (by kernel_rfl)) ?_
  intro W base args ds gs before hval0 hW hcnd _
  have hval : ∀ (j : Nat) t v, Try.f6.params[j]? = some t → args[j]? = some v → Value.okWide Try.prog W .any base t v := hval0
  have hW' := hW
  obtain ⟨p, q, hA0, hV, rfl, hfz, hnd⟩ := hW
  have hA : DataW.TrodAll enc Try.prog W 0 (fun _ => true) true Try.f6.params.toList args.toList ds p := hA0
  rw [Try.params6] at hA hval
  obtain ⟨v0, vs0, d0, ds0, p0, q0, hargs, rfl, rfl, h0, r0⟩ := trodAll_cons hA
  obtain ⟨v1, vs1, d1, ds1, p1, q1, rfl, rfl, rfl, h1, r1⟩ := trodAll_cons r0
  obtain ⟨v2, vs2, d2, ds2, p2, q2, rfl, rfl, rfl, h2, r2⟩ := trodAll_cons r1
  obtain ⟨rfl, rfl, rfl⟩ := trodAll_nil r2
  obtain rfl : args = #[v0, v1, v2] := by cases args; simp_all
  obtain ⟨rfl, rfl⟩ := trodVars_none hV
  obtain ⟨cs0, rfl, _⟩ := okWide_struct Try.underlying33 (hval 0 33 v0 rfl rfl)
  have k0 := h0
  have lt0 : ∀ x ∈ p0, x.block < W.heap.size := by obtain ⟨m, hm⟩ := k0; exact DataW.trod_lt m _ _ _ hm
  obtain ⟨t0, f0, A0, n0, c0, B0, m0, e0, rfl⟩ := val_open h0
  obtain ⟨cs1, rfl, _⟩ := okWide_struct Try.underlying33 (hval 1 33 v1 rfl rfl)
  have k1 := h1
  have lt1 : ∀ x ∈ p1, x.block < W.heap.size := by obtain ⟨m, hm⟩ := k1; exact DataW.trod_lt m _ _ _ hm
  obtain ⟨t1, f1, A1, n1, c1, B1, m1, e1, rfl⟩ := val_open h1
  obtain ⟨cs2, rfl, _⟩ := okWide_struct Try.underlying33 (hval 2 33 v2 rfl rfl)
  have k2 := h2
  have lt2 : ∀ x ∈ p2, x.block < W.heap.size := by obtain ⟨m, hm⟩ := k2; exact DataW.trod_lt m _ _ _ hm
  obtain ⟨t2, f2, A2, n2, c2, B2, m2, e2, rfl⟩ := val_open h2
  clear hA0 hval0
  refine (law_any t0 f0 A0 n0 c0 B0 m0 e0 t1 f1 A1 n1 c1 B1 m1 e1 t2 f2 A2 n2 c2 B2 m2 e2).mono fun e W' ⟨he, bel⟩ => ?_
  subst he
  exact ⟨_, rfl, _, _, _, [], _, [], hW', trodAll_mk1 (shut_bool Try.underlying4 _), (trodAll_cons_mk (Below.trod laidOut (by kernel_rfl) (of_decide_eq_true (by kernel_rfl)) k0 bel lt0) (trodAll_cons_mk (Below.trod laidOut (by kernel_rfl) (of_decide_eq_true (by kernel_rfl)) k1 bel lt1) (trodAll_cons_mk (Below.trod laidOut (by kernel_rfl) (of_decide_eq_true (by kernel_rfl)) k2 bel lt2) trodAll_mk0))), rfl, bel.frame _, fun h => by cases h⟩

theorem valuesOrder_holds : Rows.ValuesOrderSaid :=
  OpenClaim.holds_of_wide 6 Try.f6 rfl rfl rfl rfl rfl rfl rfl ⟨rfl, rfl, rfl, rfl, rfl⟩ rfl rfl rfl rfl rfl (by kernel_rfl) Try.func6 (by kernel_rfl)
    (of_decide_eq_true (by kernel_rfl)) (by unfold Func.isWrapper; first | (rw [if_pos (by decide +kernel)]; kernel_rfl) | (rw [if_neg (by decide +kernel)]; exact ⟨rfl, rfl⟩))
    (fun os started H enc _ => lifted os started H enc)
#print axioms valuesOrder_holds
end Go.Proofs.Ytonfpomgkgljiaa.valuesOrderP
