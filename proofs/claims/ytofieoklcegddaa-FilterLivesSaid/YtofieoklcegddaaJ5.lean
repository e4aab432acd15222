/- FilterForgets: the walk. -/
import Derived.Test.YtofieoklcegddaaJ4
namespace Go.Proofs.Ytofieoklcegddaa
open Go.RowKit Go.Sort Go.Shelf Go.Lib
set_option linter.unusedVariables false
set_option linter.unusedSimpArgs false
set_option maxRecDepth 100000

def cm (xs : List S4) : Nat := (xs.filter fun s => decide s.may).length
theorem cm_next {xs : List S4} {j : Nat} {s : S4} (h : xs[j]? = some s) : cm (xs.take (j + 1)) = cm (xs.take j) + (if s.may then 1 else 0) := by
  unfold cm
  rw [List.take_add_one, h, List.filter_append, List.length_append]
  congr 1
  by_cases hs : s.may <;> simp [hs]
theorem cm_le (xs : List S4) : cm xs ≤ xs.length := List.length_filter_le _ _
set_option maxHeartbeats 4000000 in
theorem forgets_any {w : World} {A A1 A2 : Option Addr} {n c n1 c1 n2 c2 : Nat} {xs us vs : List S4} (now : Int) (h1 : Rd w w.heap.size A1 n1 us) (h2 : Rd w w.heap.size A2 n2 vs) (h : Rd w w.heap.size A n xs) :
    Calls Try.prog 4 #[.slice A1 n1 c1, .slice A2 n2 c2, .slice A n c, .int .i64 now] w (Yes w) := by
  have HR := Lib.hid h
  have HR1 := Lib.hid h1
  have HR2 := Lib.hid h2
  have HL := Lib.hid h.1
  clear h h1 h2
  go_enter Try.func4, Try.ntmps4
  go_wp2_with fail
  go_loopw [10, 9] (fun i v wr => ∃ j : Nat, j ≤ n ∧ j ≤ 50 ∧ i = .int .i64 (j : Int) ∧ v = .int .i64 (cm (xs.take j) : Int) ∧ RowKit.Below w.heap.size w wr) (fun i _ _ => (50 - (match i with | .int _ z => z.toNat | _ => 0)))
  case atStart => exact ⟨0, by omega, by omega, rfl, rfl, Below.refl _ _⟩
  case round =>
    obtain ⟨j, hjn, hj5, rfl, rfl, hb⟩ := hrel
    have HB := Lib.hid hb
    have hcl5 : cm (xs.take j) ≤ 50 := Nat.le_trans (cm_le _) (by simp; omega)
    clear hb
    by_cases hj : j < n ∧ j < 50
    · obtain ⟨hj1, hj2⟩ := hj
      have e1 : (j : Int) < (n : Int) := by omega
      have e2 : (j : Int) < 50 := by omega
      obtain ⟨s, hs⟩ : ∃ s, xs[j]? = some s := ⟨_, List.getElem?_eq_getElem (by have := HL.out; omega)⟩
      obtain ⟨g, off, rfl, hg, hcl⟩ := HR.out.cells (by omega)
      obtain ⟨d0, d1, d2, d3⟩ := hcl wr HB.out j s hs
      have HM := Lib.hid (fun w => may_below s w)
      have HC := Lib.hid (cm_next hs)
      clear hcl hs
      generalize cm (xs.take j) = k at *
      cases hm : decide s.may
      · rw [hm] at HM
        have HC' := Lib.hid (show cm (xs.take (j + 1)) = k by have := HC.out; rw [if_neg (of_decide_eq_false hm)] at this; omega)
        clear HC hm
        go_wp2_with fail
        refine (HM.out _).mono ?_
        rintro e w2 ⟨rfl, b2⟩
        have HB2 := Lib.hid (bthen HB.out b2 (Nat.le_refl _))
        clear b2 d0 d1 d2 d3
        go_wp2_with fail
        exact ⟨⟨j + 1, by omega, by omega, rfl, by rw [HC'.out], HB2.out⟩, by show 50 - ((j : Int) + 1).toNat < 50 - (j : Int).toNat; omega⟩
      · rw [hm] at HM
        have HC' := Lib.hid (show cm (xs.take (j + 1)) = k + 1 by have := HC.out; rw [if_pos (of_decide_eq_true hm)] at this; omega)
        clear HC hm
        go_wp2_with fail
        refine (HM.out _).mono ?_
        rintro e w2 ⟨rfl, b2⟩
        have HB2 := Lib.hid (bthen HB.out b2 (Nat.le_refl _))
        clear b2 d0 d1 d2 d3
        go_wp2_with fail
        exact ⟨⟨j + 1, by omega, by omega, rfl, by rw [HC'.out]; rfl, HB2.out⟩, by show 50 - ((j : Int) + 1).toNat < 50 - (j : Int).toNat; omega⟩
    · have ht : xs.take j = xs.take 50 := by
        have := HL.out
        rcases Nat.lt_or_ge j n with h1 | h1
        · rw [show j = 50 by omega]
        · rw [List.take_of_length_le (by omega), List.take_of_length_le (by omega)]
      rw [ht] at hcl5 ⊢
      have HK : Hid (∀ (P : Prop), (∀ k, k ≤ 50 → k = cm (xs.take 50) → P) → P) := fun P h => h _ hcl5 rfl
      clear ht
      obtain ⟨k, hk⟩ : ∃ k, k = cm (xs.take 50) := ⟨_, rfl⟩
      rw [← hk] at hcl5 ⊢
      have HKe := Lib.hid hk
      clear hk HK
      have out : ∀ (b1 b2 : Bool), b1 = decide ((j : Int) < (n : Int)) → b2 = decide ((j : Int) < 50) → (b1 = false ∨ b2 = false) := fun b1 b2 h1 h2 => by
        rcases Nat.lt_or_ge j n with h | h
        · right; rw [h2]; simp; omega
        · left; rw [h1]; simp; omega
      clear out
      by_cases hk8 : k < 8
      · have hk8' : (k : Int) < 8 := by omega
        by_cases e1 : (j : Int) < (n : Int)
        · have e2 : ((j : Int) < 50) = False := by simp only [eq_iff_iff, iff_false]; omega
          go_wp2_with fail
          refine (alive_then HB.out (Nat.le_refl _)).mono ?_
          rintro e wz ⟨rfl, bz⟩
          have HBz := Lib.hid bz
          clear bz
          go_wp2_with fail
          go_ret
          exact ⟨rfl, HBz.out⟩
        · have e1' : ((j : Int) < (n : Int)) = False := by simp only [e1]
          go_wp2_with fail
          refine (alive_then HB.out (Nat.le_refl _)).mono ?_
          rintro e wz ⟨rfl, bz⟩
          have HBz := Lib.hid bz
          clear bz
          go_wp2_with fail
          go_ret
          exact ⟨rfl, HBz.out⟩
      · have hk8' : ((k : Int) < 8) = False := by simp only [eq_iff_iff, iff_false]; omega
        have HFa := Lib.hid (filled_any (c := c1) (HR1.out.below HB.out (Nat.le_refl _)) HB.out.size)
        have hcnt : 8 ≤ ((xs.take 50).filter fun s => decide s.may).length := by have := HKe.out; unfold cm at this; omega
        have HCn := Lib.hid hcnt
        clear hcnt
        by_cases e1 : (j : Int) < (n : Int)
        case' pos => have e2 : ((j : Int) < 50) = False := by simp only [eq_iff_iff, iff_false]; omega
        case' neg => have e1' : ((j : Int) < (n : Int)) = False := by simp only [e1]
        all_goals (
          clear hj hjn hj5
          go_wp2_with fail
          refine HFa.out.mono ?_
          rintro e w1 ⟨rfl, hf1, hb1⟩
          have HB1 := Lib.hid (bthen HB.out hb1 (Nat.le_refl _))
          have HF1 := Lib.hid hf1
          have HFb := Lib.hid (filled_any (c := c2) (HR2.out.below HB1.out (Nat.le_refl _)) HB1.out.size)
          clear hf1 hb1
          go_wp2_with fail
          refine HFb.out.mono ?_
          rintro e w2 ⟨rfl, hf2, hb2⟩
          have HB2 := Lib.hid (bthen HB1.out hb2 (Nat.le_refl _))
          have HF2 := Lib.hid hf2
          have HF12 := Lib.hid (HF1.out.below hb2 HF1.out.lt)
          have HNe := Lib.hid (show wr.heap.size ≠ w1.heap.size from Nat.ne_of_lt HF1.out.lt)
          obtain ⟨La, hLa⟩ : ∃ La, La = fillL [] (us.take 100) := ⟨_, rfl⟩
          obtain ⟨Lb, hLb⟩ : ∃ Lb, Lb = fillL [] (vs.take 100) := ⟨_, rfl⟩
          rw [← hLa] at HF12
          rw [← hLb] at HF2
          have HMa := Lib.hid (show ∀ s ∈ La, s.may by rw [hLa]; exact fillL_may (fun s hs => by cases hs))
          have HMb := Lib.hid (show ∀ s ∈ Lb, s.may by rw [hLb]; exact fillL_may (fun s hs => by cases hs))
          have Hga := Lib.hid (show w.heap.size ≤ wr.heap.size from HB.out.size)
          have Hgb := Lib.hid (show w.heap.size ≤ w1.heap.size from HB1.out.size)
          generalize wr.heap.size = ga at *
          generalize w1.heap.size = gb at *
          clear hf2 hb2 hLa hLb HF1 HFa HFb
          go_wp2_with fail
          go_loopw [13] (fun i wq => ∃ m : Nat, m ≤ n ∧ m ≤ 50 ∧ i = .int .i64 (m : Int) ∧ Flt wq ga (fillL La (xs.take m)) ∧ Flt wq gb (fillL Lb (xs.take m)) ∧ RowKit.Below w.heap.size w wq) (fun i _ => (50 - (match i with | .int _ z => z.toNat | _ => 0)))
          case atStart => exact ⟨0, by omega, by omega, rfl, HF12.out, HF2.out, HB2.out⟩
          case round =>
            obtain ⟨m, hmn, hm5, rfl, hfa, hfb, hbq⟩ := hrel
            have Hfa := Lib.hid hfa
            have Hfb := Lib.hid hfb
            have HBq := Lib.hid hbq
            clear hfa hfb hbq
            by_cases hm : m < n ∧ m < 50
            · obtain ⟨hm1, hm2⟩ := hm
              have k1 : (m : Int) < (n : Int) := by omega
              have k2 : (m : Int) < 50 := by omega
              obtain ⟨s, hs⟩ : ∃ s, xs[m]? = some s := ⟨_, List.getElem?_eq_getElem (by have := HL.out; omega)⟩
              obtain ⟨g, off, rfl, hg, hcl⟩ := HR.out.cells (by omega)
              have HC := Lib.hid (fun w' b => hcl w' b m s hs)
              obtain ⟨d0, d1, d2, d3⟩ := HC.out _ HBq.out
              have HTa := Lib.hid (fillL_take La xs hs)
              have HTb := Lib.hid (fillL_take Lb xs hs)
              have HA := Lib.hid (add_all s Hfa.out)
              rw [show s.val = .agg #[.int .i64 s.o, .int .i64 s.d, .int .i64 s.p, .int .i64 s.a] from rfl] at HA
              clear hcl hs
              go_wp2_with fail
              refine HA.out.mono ?_
              rintro e w3 ⟨he, hfa3, ho3⟩
              obtain ⟨E, hE⟩ : ∃ E : Int, E = (if s.may then 0 else 1) := ⟨_, rfl⟩
              rw [← hE] at he
              subst he
              clear hE
              have HB3 := Lib.hid (only_below HBq.out ho3 HBq.out.size Hga.out)
              have HF3 := Lib.hid hfa3
              have HG3 := Lib.hid (Hfb.out.only ho3 HNe.out.symm)
              have HA2 := Lib.hid (add_all s HG3.out)
              rw [show s.val = .agg #[.int .i64 s.o, .int .i64 s.d, .int .i64 s.p, .int .i64 s.a] from rfl] at HA2
              clear hfa3 ho3 HA d0 d1 d2 d3
              obtain ⟨d0, d1, d2, d3⟩ := HC.out _ HB3.out
              go_wp2_with fail
              refine HA2.out.mono ?_
              rintro e w4 ⟨he, hfb4, ho4⟩
              obtain ⟨E', hE⟩ : ∃ E : Int, E = (if s.may then 0 else 1) := ⟨_, rfl⟩
              rw [← hE] at he
              subst he
              clear hE
              have HB4 := Lib.hid (only_below HB3.out ho4 HB3.out.size Hgb.out)
              have HG4 := Lib.hid hfb4
              have HF4 := Lib.hid (HF3.out.only ho4 HNe.out)
              clear hfb4 ho4 HA2 d0 d1 d2 d3
              go_wp2_with fail
              exact ⟨⟨m + 1, by omega, by omega, rfl, by rw [HTa.out]; exact HF4.out, by rw [HTb.out]; exact HG4.out, HB4.out⟩, by show 50 - ((m : Int) + 1).toNat < 50 - (m : Int).toNat; omega⟩
            · have ht : xs.take m = xs.take 50 := by
                have := HL.out
                rcases Nat.lt_or_ge m n with h1 | h1
                · rw [show m = 50 by omega]
                · rw [List.take_of_length_le (by omega), List.take_of_length_le (by omega)]
              rw [ht] at Hfa Hfb
              have hfull := fillL_full La Lb (xs.take 50) (by have := HF12.out; exact (show Pf w2 (some ⟨ga, 0, none⟩) La from .inr ⟨ga, rfl, this⟩).ct) (by have := HF2.out; exact (show Pf w2 (some ⟨gb, 0, none⟩) Lb from .inr ⟨gb, rfl, this⟩).ct) HCn.out
              have hmay := fillL_may (xs := xs.take 50) HMa.out
              rw [← hfull.1] at Hfb
              obtain ⟨L, hL⟩ : ∃ L, L = fillL La (xs.take 50) := ⟨_, rfl⟩
              rw [← hL] at Hfa Hfb hfull hmay
              have HLen := Lib.hid hfull.2
              have HMay := Lib.hid hmay
              clear hfull hmay hL ht
              have PA := fun (w' : World) (h : Flt w' ga L) => (.inr ⟨ga, rfl, h⟩ : Pf w' (some ⟨ga, 0, none⟩) L)
              have PB := fun (w' : World) (h : Flt w' gb L) => (.inr ⟨gb, rfl, h⟩ : Pf w' (some ⟨gb, 0, none⟩) L)
              have HPA := Lib.hid PA
              have HPB := Lib.hid PB
              clear PA PB
              by_cases k1 : (m : Int) < (n : Int)
              case' pos => have k2 : ((m : Int) < 50) = False := by simp only [eq_iff_iff, iff_false]; omega
              case' neg => have k1' : ((m : Int) < (n : Int)) = False := by simp only [k1]
              all_goals (
                go_wp2_with fail
                refine (alive_any _).mono ?_
                rintro e wa ⟨rfl, ba⟩
                have HBa := Lib.hid (bthen HBq.out ba (Nat.le_refl _))
                have HFa := Lib.hid (Hfa.out.below ba Hfa.out.lt)
                have HGa := Lib.hid (Hfb.out.below ba Hfb.out.lt)
                have HRa := Lib.hid (row_any now (HPA.out _ HFa.out))
                rw [HLen.out] at HRa
                clear ba
                go_wp2_with fail
                refine HRa.out.mono ?_
                rintro e wb ⟨Ax, cx, rfl, hrx, hcx, bb⟩
                have HBb := Lib.hid (bthen HBa.out bb (Nat.le_refl _))
                have HFb := Lib.hid (HFa.out.below bb HFa.out.lt)
                have HGb := Lib.hid (HGa.out.below bb HGa.out.lt)
                have HRx := Lib.hid hrx
                have HRb := Lib.hid (row_any now (HPB.out _ HGb.out))
                rw [HLen.out] at HRb
                clear bb hrx hcx HRa
                go_wp2_with fail
                refine HRb.out.mono ?_
                rintro e wc ⟨Ay, cy, rfl, hry, hcy, bc⟩
                have HBc := Lib.hid (bthen HBb.out bc (Nat.le_refl _))
                have HFc := Lib.hid (HFb.out.below bc HFb.out.lt)
                have HGc := Lib.hid (HGb.out.below bc HGb.out.lt)
                have HSm := Lib.hid (same_any (c := cx) (c' := cy) ((HRx.out.below bc (Nat.le_refl _)).le bc.size) hry (by omega))
                clear bc hry hcy HRb
                go_wp2_with fail
                refine HSm.out.mono ?_
                rintro e wd ⟨rfl, bd⟩
                have HBd := Lib.hid (bthen HBc.out bd (Nat.le_refl _))
                have HFd := Lib.hid (HFc.out.below bd HFc.out.lt)
                have HGd := Lib.hid (HGc.out.below bd HGc.out.lt)
                have HJd := Lib.hid (jitter_any now (HPA.out _ HFd.out) HMay.out)
                clear bd HSm
                have HBd' := HBd
                go_wp2_with fail
                refine HJd.out.mono ?_
                rintro e we ⟨rfl, be⟩
                have HBe := Lib.hid (bthen HBd.out be (Nat.le_refl _))
                have HFe := Lib.hid (HFd.out.below be HFd.out.lt)
                have HGe := Lib.hid (HGd.out.below be HGd.out.lt)
                have HJe := Lib.hid (jitter_any now (HPB.out _ HGe.out) HMay.out)
                clear be HJd
                go_wp2_with fail
                refine HJe.out.mono ?_
                rintro e wf ⟨rfl, bf⟩
                have HBf := Lib.hid (bthen HBe.out bf (Nat.le_refl _))
                have HFf := Lib.hid (HFe.out.below bf HFe.out.lt)
                have HGf := Lib.hid (HGe.out.below bf HGe.out.lt)
                have HDf := Lib.hid (disp_any now (HPA.out _ HFf.out) HMay.out)
                clear bf HJe
                go_wp2_with fail
                refine HDf.out.mono ?_
                rintro e wg ⟨rfl, bg⟩
                have HBg := Lib.hid (bthen HBf.out bg (Nat.le_refl _))
                have HFg := Lib.hid (HFf.out.below bg HFf.out.lt)
                have HGg := Lib.hid (HGf.out.below bg HGf.out.lt)
                have HDg := Lib.hid (disp_any now (HPB.out _ HGg.out) HMay.out)
                clear bg HDf
                go_wp2_with fail
                refine HDg.out.mono ?_
                rintro e wh ⟨rfl, bh⟩
                have HBh := Lib.hid (bthen HBg.out bh (Nat.le_refl _))
                have HFh := Lib.hid (HFg.out.below bh HFg.out.lt)
                have HLh := Lib.hid (len_any HFh.out)
                rw [HLen.out] at HLh
                clear bh HDg
                go_wp2_with fail
                refine HLh.out.mono ?_
                rintro e wi ⟨rfl, hwi⟩
                subst hwi
                go_wp2_with fail
                go_ret
                exact ⟨rfl, HBh.out⟩))
end Go.Proofs.Ytofieoklcegddaa
