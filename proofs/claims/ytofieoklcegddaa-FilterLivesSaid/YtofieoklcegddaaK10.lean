/- FilterLives: the walk. -/
import Derived.Test.YtofieoklcegddaaK9
import Derived.Test.YtofieoklcegddaaJ5
import Derived.Deep.CutRange
namespace Go.Proofs.Ytofieoklcegddaa
open Go.RowKit Go.Sort Go.Shelf Go.Lib
set_option linter.unusedVariables false
set_option linter.unusedSimpArgs false
set_option maxRecDepth 100000

theorem add1_may {L : List S4} (h : ∀ s ∈ L, s.may) (x : S4) : ∀ s ∈ add1 L x, s.may := fun s hs => by
  unfold add1 at hs
  split at hs
  · rename_i hx
    rcases push_mem hs with rfl | h1
    · exact hx
    · exact h s h1
  · exact h s hs
set_option maxHeartbeats 8000000 in
theorem lives_any {w : World} {A At : Option Addr} {n c nt ct : Nat} {xs : List S4} {ts : List Int} (reset : Int) (h : Rd w w.heap.size A n xs) (ht : Ti w w.heap.size At nt ts) :
    Calls Try.prog 7 #[.slice A n c, .slice At nt ct, .int .i64 reset] w (Yes w) := by
  have HR := Lib.hid h
  have HT := Lib.hid ht
  have HL := Lib.hid h.1
  have HTl := Lib.hid ht.1
  clear h ht
  go_enter Try.func7, Try.ntmps7
  go_wp2_with fail
  refine (new_any w).mono ?_
  rintro e w1 ⟨rfl, hf1, hw1⟩
  have b1 : RowKit.Below w.heap.size w w1 := by rw [hw1]; exact (Below.refl _ _).alloc (Nat.le_refl _) _
  obtain ⟨w2, hw2⟩ : ∃ w2, w2 = w1.alloc (.cells #[.slice none 0 0] 49) := ⟨_, rfl⟩
  have b2 : RowKit.Below w1.heap.size w1 w2 := by rw [hw2]; exact (Below.refl _ _).alloc (Nat.le_refl _) _
  have HF2 := Lib.hid (hf1.below b2 hf1.lt)
  have HS2 := Lib.hid (show Rs w2 w1.heap.size [] by rw [hw2]; exact rs_new w1)
  have HG2 := Lib.hid hf1.lt
  have HB2 := Lib.hid (bthen b1 b2 (Nat.le_refl _))
  have HW2 := Lib.hid hw2
  clear hw1 hf1 b1 hw2 b2
  go_upto_region 2 with fail
  rw [← HW2.out]
  clear HW2
  generalize w1.heap.size = h1 at *
  go_wp2_with fail
  go_loopw [9, 8] (fun i x wr => ∃ (j hx : Nat) (L : List S4), j ≤ 24 ∧ j ≤ n ∧ i = .int .i64 (j : Int) ∧ x = .pointer (some ⟨hx, 0, none⟩) ∧ Flt wr w.heap.size L ∧ Rs wr hx L ∧ w.heap.size < hx ∧ Hid (∀ s ∈ L, s.may) ∧ RowKit.Below w.heap.size w wr) (fun i _ _ => (24 - (match i with | .int _ z => z.toNat | _ => 0)))
  case atStart => exact ⟨0, h1, [], by omega, by omega, rfl, rfl, HF2.out, HS2.out, HG2.out, fun s hs => (by cases hs), HB2.out⟩
  case round =>
    obtain ⟨j, hx, L, hj24, hjn, rfl, rfl, hf, hs, hg, HMy, hb⟩ := hrel
    have HF := Lib.hid hf
    have HS := Lib.hid hs
    have HG := Lib.hid hg
    have HB := Lib.hid hb
    clear hf hs hg hb
    by_cases hj : j < n ∧ j < 24
    · obtain ⟨e1', e2'⟩ := hj
      have e1 : (j : Int) < (n : Int) := by omega
      have e2 : (j : Int) < 24 := by omega
      obtain ⟨s, hs⟩ : ∃ s, xs[j]? = some s := ⟨_, List.getElem?_eq_getElem (by have := HL.out; omega)⟩
      obtain ⟨gl, off, rfl, hgl, hcl⟩ := HR.out.cells (by omega)
      have HC := Lib.hid (fun w' b => hcl w' b j s hs)
      obtain ⟨E, hE⟩ : ∃ E : Int, E = (if s.may then 0 else 1) := ⟨_, rfl⟩
      have HE := Lib.hid hE
      clear hcl hs hE
      by_cases hres : (j : Int) = reset
      case' pos =>
        subst hres
        have HRe := Lib.hid (reset_any HF.out)
        go_wp2_with fail
        refine HRe.out.mono ?_
        rintro e w3 ⟨rfl, hf3, ho3⟩
        have hb3 := only_below HB.out ho3 HB.out.size (Nat.le_refl _)
        obtain ⟨w4, hw4⟩ : ∃ w4, w4 = w3.alloc (.cells #[.slice none 0 0] 49) := ⟨_, rfl⟩
        have b4 : RowKit.Below w3.heap.size w3 w4 := by rw [hw4]; exact (Below.refl _ _).alloc (Nat.le_refl _) _
        have HF0 := Lib.hid (hf3.below b4 hf3.lt)
        have HS0 := Lib.hid (show Rs w4 w3.heap.size [] by rw [hw4]; exact rs_new w3)
        have HG0 := Lib.hid hf3.lt
        have HB0 := Lib.hid (bthen hb3 b4 (Nat.le_refl _))
        have HM0 : Hid (∀ s ∈ ([] : List S4), s.may) := fun s hs => (by cases hs)
        have HW4 := Lib.hid hw4
        clear hf3 ho3 hb3 hw4 b4 HRe HF HS HG HB HMy
        go_upto_region 11 with fail
        rw [← HW4.out]
        clear HW4
        generalize w3.heap.size = hx0 at *
      case' neg =>
        have hres' : ((j : Int) = reset) = False := by simp only [hres]
        have hbq : ((j : Int) == reset) = false := by simp [hres]
        have HF0 := HF
        have HS0 := HS
        have HG0 := HG
        have HB0 := HB
        have HM0 := HMy
        clear HF HS HG HB HMy
        generalize hx = hx0 at *
        go_upto_region 11 with fail
      all_goals (
        obtain ⟨d0, d1, d2, d3⟩ := HC.out _ HB0.out
        have HFd := Lib.hid (HF0.out.below ((Below.refl _ _).drew) HF0.out.lt)
        have HSd := Lib.hid (HS0.out.below ((Below.refl _ _).drew))
        have HBd := Lib.hid (HB0.out.drew)
        have HA := Lib.hid (add_all s HFd.out)
        rw [← HE.out, show s.val = .agg #[.int .i64 s.o, .int .i64 s.d, .int .i64 s.p, .int .i64 s.a] from rfl] at HA
        have HAdd := Lib.hid (add1_may HM0.out s)
        have HHx := Lib.hid HG0.out
        go_cut [60] from 38 to 60 (fun v w' => v = .bool false ∧ (∃ L1, Hid (∀ s ∈ L1, s.may) ∧ Flt w' w.heap.size L1 ∧ Rs w' hx0 L1) ∧ RowKit.Below w.heap.size w w')
        case first =>
          first | (go_region_with (first
            | (go_at_call 14; refine HA.out.mono ?_; rintro e wa ⟨rfl, hfa, hoa⟩
               have HBa := Lib.hid (only_below HBd.out hoa HBd.out.size (Nat.le_refl _))
               have HFa := Lib.hid hfa
               have HSa := Lib.hid (HSd.out.only hoa HG0.out)
               obtain ⟨da0, da1, da2, da3⟩ := HC.out _ HBa.out
               have HRa := Lib.hid (radd_all s HSa.out)
               rw [← HE.out] at HRa
               clear hfa hoa)
            | (go_at_call 24; refine HRa.out.mono ?_; rintro e wb ⟨rfl, hsb, hbb⟩
               have HBb := Lib.hid (HBa.out.trans (hbb.mono (Nat.le_of_lt HG0.out)))
               have HFb := Lib.hid (HFa.out.below hbb HG0.out)
               have HSb := Lib.hid hsb
               obtain ⟨Ab, nb, cb, hbb', hob, h8b⟩ := hsb
               have hnb := hob.len
               rw [List.length_reverse] at hnb
               have hcb := hbb'.cell
               have HLn := Lib.hid (len_any HFb.out)
               rw [hnb] at HLn
               clear hbb hob hbb' hnb)
            | (go_at_call 16; refine HLn.out.mono ?_; rintro e wc ⟨rfl, rfl⟩))) | fail
          all_goals (
            go_wp2_with fail
            go_meet
            exact ⟨rfl, ⟨_, HAdd.out, HFb.out, HSb.out⟩, HBb.out⟩)
        case rest =>
          obtain ⟨rfl, ⟨L1, HM1, hf1, hs1⟩, hb1⟩ := hcut
          have HF1 := Lib.hid hf1
          have HS1 := Lib.hid hs1
          have HB1 := Lib.hid hb1
          clear hf1 hs1 hb1 HFd HSd HBd HA HAdd HF0 HS0 HB0 HM0 d0 d1 d2 d3
          go_upto_if 64 with fail
          go_cut [10] from 61 to 68 (fun v w' => (∃ now : Int, v = .int .i64 now) ∧ Flt w' w.heap.size L1 ∧ Rs w' hx0 L1 ∧ RowKit.Below w.heap.size w w')
          case first =>
            by_cases hjt : (j : Int) < (nt : Int)
            · obtain ⟨t, htt⟩ : ∃ t, ts[j]? = some t := ⟨_, List.getElem?_eq_getElem (by have := HTl.out; omega)⟩
              have hT1 := (HT.out.below HB1.out (Nat.le_refl _)).2
              rcases hT1 with h0 | ⟨gt, offt, rfl, hgt, hct⟩
              · omega
              have d0 := hct j t htt
              clear hct htt
              go_wp2_with fail
              go_meet
              exact ⟨⟨t, rfl⟩, HF1.out, HS1.out, HB1.out⟩
            · have hjt' : ((j : Int) < (nt : Int)) = False := by simp only [hjt]
              go_wp2_with fail
              go_meet
              exact ⟨⟨0, rfl⟩, HF1.out, HS1.out, HB1.out⟩
          case rest =>
            obtain ⟨⟨now, rfl⟩, hf2, hs2, hb2⟩ := hcut
            have h8 : L1.length ≤ 8 := (show Pf wc (some ⟨w.heap.size, 0, none⟩) L1 from .inr ⟨_, rfl, hf2⟩).ct
            have HF3 := Lib.hid hf2
            have HS3 := Lib.hid hs2
            have HB3 := Lib.hid hb2
            have HBe := Lib.hid (best_any now (.inr ⟨_, rfl, hf2⟩ : Pf wc (some ⟨w.heap.size, 0, none⟩) L1))
            obtain ⟨y, hy⟩ : ∃ y, y = headS (sorted now L1) := ⟨_, rfl⟩
            obtain ⟨E2, hE2⟩ : ∃ E2 : Int, E2 = (if L1 = [] then 4 else 0) := ⟨_, rfl⟩
            rw [← hy, ← hE2] at HBe
            have HY := Lib.hid hy
            have HE2 := Lib.hid hE2
            clear hf2 hs2 hb2 hy hE2 HF1 HS1 HB1
            go_wp2_with fail
            refine HBe.out.mono ?_
            rintro e wa ⟨rfl, ba⟩
            rw [show y.val = .agg #[.int .i64 y.o, .int .i64 y.d, .int .i64 y.p, .int .i64 y.a] from rfl]
            obtain ⟨wb, hwb⟩ : ∃ wb, wb = wa.alloc (.cells #[.int .i64 y.o, .int .i64 y.d, .int .i64 y.p, .int .i64 y.a] 23) := ⟨_, rfl⟩
            have bb : RowKit.Below wa.heap.size wa wb := by rw [hwb]; exact (Below.refl _ _).alloc (Nat.le_refl _) _
            have bab := bthen ba bb (Nat.le_refl _)
            have HXb := Lib.hid (show Box wb wa.heap.size y by rw [hwb]; exact World.alloc_heap_new wa _)
            have HFb := Lib.hid (HF3.out.below bab HF3.out.lt)
            have HSb := Lib.hid (HS3.out.below bab)
            have HBb := Lib.hid (bthen HB3.out bab (Nat.le_refl _))
            have HRb := Lib.hid (rbest_any now HSb.out.rf)
            rw [← HY.out, ← HE2.out, show y.val = .agg #[.int .i64 y.o, .int .i64 y.d, .int .i64 y.p, .int .i64 y.a] from rfl] at HRb
            have HWb := Lib.hid hwb
            clear ba bb bab hwb HBe
            go_upto_region 17 with fail
            rw [← HWb.out]
            go_wp2_with fail
            refine HRb.out.mono ?_
            rintro e wd ⟨rfl, bd⟩
            obtain ⟨we, hwe⟩ : ∃ we, we = wd.alloc (.cells #[.int .i64 y.o, .int .i64 y.d, .int .i64 y.p, .int .i64 y.a] 23) := ⟨_, rfl⟩
            have be : RowKit.Below wd.heap.size wd we := by rw [hwe]; exact (Below.refl _ _).alloc (Nat.le_refl _) _
            have bde := bthen bd be (Nat.le_refl _)
            have hX1 : Box we wa.heap.size y := (bde.block _ HXb.out.lt).trans HXb.out
            have hX2 : Box we wd.heap.size y := by rw [hwe]; exact World.alloc_heap_new wd _
            have HFe := Lib.hid (HFb.out.below bde HFb.out.lt)
            have HSe := Lib.hid (HSb.out.below bde)
            have HBe := Lib.hid (bthen HBb.out bde (Nat.le_refl _))
            have HWe := Lib.hid hwe
            obtain ⟨d0, d1, d2, d3⟩ := hX1.cells
            obtain ⟨f0, f1, f2, f3⟩ := hX2.cells
            have hq := fun W => equalS y y W
            rw [(eqS_iff y y).2 rfl] at hq
            have hG2 := run_guardS
            have HRw := Lib.hid (row_any now (.inr ⟨_, rfl, HFe.out⟩ : Pf we (some ⟨w.heap.size, 0, none⟩) L1))
            clear bd be bde hwe hX1 hX2 HRb
            go_upto_region 18 with fail
            rw [← HWe.out]
            go_wp2_with fail
            refine HRw.out.mono ?_
            rintro e wf ⟨Ax, cx, rfl, hrx, hcx, bf⟩
            have HBf := Lib.hid (bthen HBe.out bf (Nat.le_refl _))
            have HFf := Lib.hid (HFe.out.below bf HFe.out.lt)
            have HSf := Lib.hid (HSe.out.below bf)
            have HRx := Lib.hid hrx
            have HRr := Lib.hid (rrow_rf now HSf.out.rf)
            clear bf hrx hcx d0 d1 d2 d3 f0 f1 f2 f3 hq hG2 HRw
            go_wp2_with fail
            refine HRr.out.mono ?_
            rintro e wg ⟨Ay, cy, rfl, hry, _, bg⟩
            have HBg := Lib.hid (bthen HBf.out bg (Nat.le_refl _))
            have HFg := Lib.hid (HFf.out.below bg HFf.out.lt)
            have HSg := Lib.hid (HSf.out.below bg)
            have HSm := Lib.hid (same_any (c := cx) (c' := cy) ((HRx.out.below bg (Nat.le_refl _)).le bg.size) hry (by omega))
            clear bg hry HRr
            go_wp2_with fail
            refine HSm.out.mono ?_
            rintro e wh ⟨rfl, bh⟩
            have HBh := Lib.hid (bthen HBg.out bh (Nat.le_refl _))
            have HFh := Lib.hid (HFg.out.below bh HFg.out.lt)
            have HSh := Lib.hid (HSg.out.below bh)
            have HJ1 := Lib.hid (jitter_any now (.inr ⟨_, rfl, HFh.out⟩ : Pf wh (some ⟨w.heap.size, 0, none⟩) L1) HM1.out)
            obtain ⟨jv, hjv⟩ : ∃ jv, jv = jit (sorted now L1) := ⟨_, rfl⟩
            rw [← hjv] at HJ1
            have HJv := Lib.hid hjv
            clear bh HSm hjv
            go_wp2_with fail
            refine HJ1.out.mono ?_
            rintro e wi ⟨rfl, bi⟩
            have HBi := Lib.hid (bthen HBh.out bi (Nat.le_refl _))
            have HFi := Lib.hid (HFh.out.below bi HFh.out.lt)
            have HSi := Lib.hid (HSh.out.below bi)
            have HJ2 := Lib.hid (rjitter_any now HSi.out.rf HM1.out)
            rw [← HJv.out] at HJ2
            clear bi HJ1
            go_wp2_with fail
            refine HJ2.out.mono ?_
            rintro e wj ⟨rfl, bj⟩
            have HBj := Lib.hid (bthen HBi.out bj (Nat.le_refl _))
            have HFj := Lib.hid (HFi.out.below bj HFi.out.lt)
            have HSj := Lib.hid (HSi.out.below bj)
            have HD1 := Lib.hid (disp_any now (.inr ⟨_, rfl, HFj.out⟩ : Pf wj (some ⟨w.heap.size, 0, none⟩) L1) HM1.out)
            obtain ⟨dv, hdv⟩ : ∃ dv, dv = dsum (sorted now L1) now 8 := ⟨_, rfl⟩
            rw [← hdv] at HD1
            have HDv := Lib.hid hdv
            clear bj HJ2 hdv
            go_wp2_with fail
            refine HD1.out.mono ?_
            rintro e wk ⟨rfl, bk⟩
            have HBk := Lib.hid (bthen HBj.out bk (Nat.le_refl _))
            have HFk := Lib.hid (HFj.out.below bk HFj.out.lt)
            have HSk := Lib.hid (HSj.out.below bk)
            have HD2 := Lib.hid (rdisp_any now HSk.out.rf HM1.out)
            rw [← HDv.out] at HD2
            clear bk HD1
            go_wp2_with fail
            refine HD2.out.mono ?_
            rintro e wl ⟨rfl, bl⟩
            have HBl := Lib.hid (bthen HBk.out bl (Nat.le_refl _))
            have HFl := Lib.hid (HFk.out.below bl HFk.out.lt)
            have HSl := Lib.hid (HSk.out.below bl)
            clear bl HD2
            go_wp2_with fail
            exact ⟨⟨j + 1, hx0, L1, by omega, by omega, rfl, rfl, HFl.out, HSl.out, HG0.out, HM1, HBl.out⟩, by show 24 - ((j : Int) + 1).toNat < 24 - (j : Int).toNat; omega⟩)
    · have HFin := Lib.hid (alive_then HB.out (Nat.le_refl _))
      by_cases e1 : (j : Int) < (n : Int)
      · have e2 : ((j : Int) < 24) = False := by simp only [eq_iff_iff, iff_false]; omega
        go_wp2_with fail
        refine HFin.out.mono ?_
        rintro e wz ⟨rfl, bz⟩
        have HBz := Lib.hid bz
        clear bz
        go_wp2_with fail
        go_ret
        exact ⟨rfl, HBz.out⟩
      · have e1' : ((j : Int) < (n : Int)) = False := by simp only [e1]
        go_wp2_with fail
        refine HFin.out.mono ?_
        rintro e wz ⟨rfl, bz⟩
        have HBz := Lib.hid bz
        clear bz
        go_wp2_with fail
        go_ret
        exact ⟨rfl, HBz.out⟩
end Go.Proofs.Ytofieoklcegddaa
