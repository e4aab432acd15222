/- top08: TopMean's walk. -/
import Derived.Test.YtbkcoijcoacbaaaM2
import Derived.Deep.Cut
namespace Go.Proofs.Ytbkcoijcoacbaaa
open Go.RowKit
set_option maxRecDepth 100000
set_option linter.unusedVariables false
set_option maxHeartbeats 4000000 in
theorem mean_law {w : World} {n c : Nat} {A : Option Addr} {la : List Int} (h : Ch.Ri w w.heap.size A n la) (x : Int) :
    Calls Try.prog 5 #[.slice A n c, .int .i64 x] w fun e w' => e = .returned (.bool true) ∧ RowKit.Below w.heap.size w w' := by
  have HA := Lib.hid h
  clear h
  go_enter Try.func5, Try.ntmps5
  by_cases e3 : n = 0
  case pos =>
    subst e3
    go_wp2_with fail
    refine (alive_any _).mono ?_
    rintro e w2 ⟨rfl, h5⟩
    have H5 := Lib.hid h5
    clear h5
    go_wp2_with fail
    go_ret
    exact ⟨rfl, H5.out⟩
  have e3' : ((n : Int) == 0) = false := by simpa using e3
  by_cases e1 : 64 < (n : Int)
  case pos =>
    go_wp2_with fail
    refine (alive_any _).mono ?_
    rintro e w2 ⟨rfl, h5⟩
    have H5 := Lib.hid h5
    clear h5
    go_wp2_with fail
    go_ret
    exact ⟨rfl, H5.out⟩
  have e1' : (64 < (n : Int)) = False := by simp only [e1]
  obtain ⟨xs, hxs⟩ : ∃ xs, xs = la.map nr := ⟨_, rfl⟩
  obtain ⟨D, hD⟩ : ∃ D, D = x % 68719476736 := ⟨_, rfl⟩
  have hxl : xs.length = n := by rw [hxs, List.length_map]; exact HA.out.1
  have HX := Lib.hid (show ∀ z ∈ xs, z.natAbs ≤ 68719476736 by rw [hxs]; intro z hz; obtain ⟨y, _, rfl⟩ := List.mem_map.1 hz; exact nr_lim y)
  have HD := Lib.hid (show x % 68719476736 = D ∧ 0 ≤ D ∧ D ≤ 68719476736 by omega)
  have HXS := Lib.hid hxs
  have HXL := Lib.hid hxl
  clear hxs hD hxl
  go_wp2_with fail
  go_loopw [5, 6, 7, 8, 9] (fun l a d vs i wr => ∃ (j : Nat) (A1 : Option Addr) (c1 : Nat) (A2 : Option Addr) (c2 : Nat) (A3 : Option Addr) (c3 : Nat) (S : Int), j ≤ n ∧ i = .int .i64 (j : Int) ∧ l = .slice A1 j c1 ∧ a = .slice A2 j c2 ∧ d = .slice A3 j c3 ∧ vs = .int .i64 S ∧ S = (xs.take j).sum ∧ Three w wr ((xs.take j).map (pt D)) (xs.take j) (List.replicate j D) A1 c1 A2 c2 A3 c3) (fun l a d vs i _ => (n - (match i with | .int _ z => z.toNat | _ => 0)))
  case atStart => exact ⟨0, none, 0, none, 0, none, 0, 0, by omega, rfl, rfl, rfl, rfl, rfl, rfl, ⟨Below.refl _ _, Gc.nil _ _, Gi.nil _ _, Gi.nil _ _, .inl rfl, .inl rfl, .inl rfl, .inl rfl, .inl rfl, .inl rfl⟩⟩
  case round =>
    obtain ⟨j, A1, c1, A4, c2, A3, c3, S, hjn, rfl, rfl, rfl, rfl, rfl, hS, hT⟩ := hrel
    have HT := Lib.hid hT
    have HS := Lib.hid hS
    clear hT hS
    have hla := HA.out.1
    by_cases e4 : (j : Int) < (n : Int)
    · obtain ⟨p, hp⟩ : ∃ z, la[j]? = some z := ⟨_, List.getElem?_eq_getElem (by omega)⟩
      have hz : xs[j]? = some (nr p) := by rw [HXS.out, List.getElem?_map, hp]; rfl
      rcases (HA.out.below HT.out.b (Nat.le_refl _)).2 with h00 | ⟨g, off, rfl, hg, hc⟩
      · omega
      have hcx := hc j p hp
      have HZ := Lib.hid hz
      have sl := sum_lim (l := xs.take j) (fun y hy => HX.out y (List.mem_of_mem_take hy))
      rw [← HS.out, List.length_take, HXL.out] at sl
      have pl := nr_lim p
      have SW := Lib.hid (show wrap64 (S + nr p) = S + nr p by unfold wrap64; omega)
      clear hc hp hz hla sl pl
      go_wp2_with fail
      refine (near_any _ _).mono ?_
      rintro e w2 ⟨rfl, rfl⟩
      obtain ⟨P, hP⟩ : ∃ P, P = nr p := ⟨_, rfl⟩
      rw [← hP] at HZ SW
      rw [show p.tmod 68719476736 = P from hP.symm]
      clear hP
      have L1 := Lib.hid (show (xs.take j).length = j by rw [List.length_take, HXL.out]; omega)
      have L0 := Lib.hid (show ((xs.take j).map (pt D)).length = j by rw [List.length_map]; exact L1.out)
      have L2 := Lib.hid (show (List.replicate j D).length = j by simp)
      have sw := SW.out
      have HG1 := Lib.hid (show Gi (w2.alloc (.cells #[.int .i64 P] 2)) w.heap.size A4 j c2 (xs.take j) by have := (HT.out.alloc (.cells #[.int .i64 P] 2)).g2; rwa [L1.out] at this)
      go_upto_region 11 with (at_builtin; refine wpList_appi (y := P) _ rfl (.tmp 35) (.tmp 37) rfl rfl HG1.out rfl (Boxed.new w2 2 (.int .i64 P)) (by omega) (HT.out.alloc (.cells #[.int .i64 P] 2)).b.size ?_; intro Ax cx w3 hg1 hk1 hat1)
      have HT3 := Lib.hid ((HT.out.alloc (.cells #[.int .i64 P] 2)).two (z := P) (by rw [L1.out]; exact hg1) hk1 hat1)
      clear hg1 hk1 hat1 HG1 HT
      have HG2 := Lib.hid (show Gi (w3.alloc (.cells #[.int .i64 D] 2)) w.heap.size A3 j c3 (List.replicate j D) by have := (HT3.out.alloc (.cells #[.int .i64 D] 2)).g3; rwa [L2.out] at this)
      go_upto_region 12 with (first
        | (go_at_call 13; refine (some_any _ _).mono ?_; rintro e w3 ⟨rfl, rfl⟩; rw [HD.out.1])
        | (at_builtin; refine wpList_appi (y := D) _ rfl (.tmp 39) (.tmp 42) rfl rfl HG2.out rfl (Boxed.new w3 2 (.int .i64 D)) (by omega) (HT3.out.alloc (.cells #[.int .i64 D] 2)).b.size ?_; intro Ay cy w4 hg1 hk1 hat1))
      have HT4 := Lib.hid ((HT3.out.alloc (.cells #[.int .i64 D] 2)).three (z := D) (by rw [L2.out]; exact hg1) hk1 hat1)
      clear hg1 hk1 hat1 HG2 HT3
      have HG3 := Lib.hid (show Gc (w4.alloc (.cells #[.complex .f64 (floatOfInt .f64 P) (floatOfInt .f64 D)] 54)) w.heap.size A1 j c1 ((xs.take j).map (pt D)) by have := (HT4.out.alloc (.cells #[.complex .f64 (floatOfInt .f64 P) (floatOfInt .f64 D)] 54)).g1; rwa [L0.out] at this)
      go_wp2_with (first
        | (go_at_call 13; refine (some_any _ _).mono ?_; rintro e w4 ⟨rfl, rfl⟩; rw [HD.out.1])
        | (go_at_call 17; refine (Pl.point_any _ _ _).mono ?_; rintro e w4 ⟨rfl, rfl⟩)
        | (at_builtin; refine wpList_appc (y := (floatOfInt .f64 P, floatOfInt .f64 D)) _ rfl (.tmp 44) (.tmp 49) rfl rfl HG3.out rfl (Boxed.new w4 54 (.complex .f64 (floatOfInt .f64 P) (floatOfInt .f64 D))) (by omega) (HT4.out.alloc (.cells #[.complex .f64 (floatOfInt .f64 P) (floatOfInt .f64 D)] 54)).b.size ?_; intro Az cz w5 hg1 hk1 hat1))
      have HT5 := Lib.hid ((HT4.out.alloc (.cells #[.complex .f64 (floatOfInt .f64 P) (floatOfInt .f64 D)] 54)).one (z := (floatOfInt .f64 P, floatOfInt .f64 D)) (by rw [L0.out]; exact hg1) hk1 hat1)
      clear hg1 hk1 hat1 HG3 HT4
      go_wp2_with fail
      refine ⟨⟨j + 1, _, _, _, _, _, _, _, by omega, rfl, rfl, rfl, rfl, rfl, ?_, ?_⟩, by show n - ((j : Int) + 1).toNat < n - (j : Int).toNat; omega⟩
      · have e9 : ((xs.take j) ++ [P]).sum = S + P := by rw [HS.out]; simp
        rw [List.take_add_one, HZ.out]
        show _ = ((xs.take j) ++ [P]).sum
        rw [e9]
        first | rfl | exact SW.out
      · have e1 : (xs.take (j + 1)) = xs.take j ++ [P] := by rw [List.take_add_one, HZ.out]; rfl
        rw [e1, List.map_append, List.replicate_succ']
        exact HT5.out
    · have e4' : ((j : Int) < (n : Int)) = False := by simp only [e4]
      have hj : j = n := by omega
      subst hj
      have hT := HT.out
      have hS := HS.out
      rw [List.take_of_length_le (by rw [HXL.out]; omega)] at hT hS
      have HT2 := Lib.hid hT
      have g1 := hT.g1
      rw [List.length_map, HXL.out] at g1
      have g2 := hT.g2
      rw [HXL.out] at g2
      have g3 := hT.g3
      rw [List.length_replicate] at g3
      have R1 := Lib.hid g1.rd
      have R2 := Lib.hid g2.rd
      have R3 := Lib.hid g3.rd
      have HB := Lib.hid hT.b
      have HS2 := Lib.hid hS
      clear hT hS HT HS g1 g2 g3 hla HA HT2 HXS
      by_cases dx : S.tmod (j : Int) = 0
      · have hS := tdiv_whole e3 dx
        obtain ⟨q, hq⟩ : ∃ q, q = S.tdiv (j : Int) := ⟨_, rfl⟩
        rw [← hq] at hS
        have hsum : xs.sum = q * xs.length := by rw [← HS2.out, HXL.out]; exact hS
        have HC := Lib.hid (comb_rep HX.out HD.out.2.1 HD.out.2.2 (by rw [HXL.out]; exact e3) (by rw [HXL.out]; omega) hsum)
        have HM1 := Lib.hid (Pl.mean_ofInt (f := 68719476736) (l := xs) (q := q) HX.out (by rw [HXL.out]; omega) (by rw [HXL.out]; exact e3) (by rw [HXL.out]; omega) hsum)
        have HM2 := Lib.hid (Pl.mean_ofInt (f := 68719476736) (l := List.replicate j D) (q := D) (by intro z hz; rw [List.mem_replicate] at hz; rw [hz.2]; have := HD.out; omega) (by rw [List.length_replicate]; omega) (by rw [List.length_replicate]; exact e3) (by rw [List.length_replicate]; omega) (by rw [sum_rep, List.length_replicate]))
        have hfit : Pl.fitE j = 0 := by unfold Pl.fitE; rw [if_neg (by omega), if_neg (by omega)]
        have HF := Lib.hid hfit
        clear hq hS hsum hfit
        have hc := HC.out
        rw [HXL.out] at hc
        have HC2 := Lib.hid (Ch.comb_any (c1 := c2) (c2 := c3) R2.out R3.out (by omega) (by omega))
        rw [hc] at HC2
        clear hc HC
        go_wp2_with fail
        refine HC2.out.mono ?_
        rintro e wr ⟨rfl, rfl⟩
        go_wp2_with fail
        refine (Pl.mean_yes R1.out (Nat.le_refl _) HF.out).mono ?_
        rintro e w2 ⟨⟨r1, r2, rfl, hr1, hr2⟩, hb2⟩
        have e5 : (xs.map (pt D)).map (·.1) = xs.map fun x => floatOfInt .f64 x := by rw [List.map_map]; rfl
        have e6 : (xs.map (pt D)).map (·.2) = (List.replicate j D).map fun x => floatOfInt .f64 x := by
          rw [List.map_map, ← HXL.out]
          simp [pt, Function.comp_def, List.map_const']
        rw [e5, HM1.out] at hr1
        rw [e6, HM2.out] at hr2
        have E1 := Lib.hid (show Pl.od r1 (floatOfInt .f64 q) = some .eq by rw [okF_eq hr1 (Pl.ofInt_nn _)]; exact Pl.od_self_eq.2 (Pl.ofInt_nn _))
        have E2 := Lib.hid (show Pl.od r2 (floatOfInt .f64 D) = some .eq by rw [okF_eq hr2 (Pl.ofInt_nn _)]; exact Pl.od_self_eq.2 (Pl.ofInt_nn _))
        have HB2 := Lib.hid (bthen HB.out hb2 (Nat.le_refl _))
        clear hr1 hr2 hb2 e5 e6 R1 R2 R3 HM1 HM2 HF HB HC2
        go_wp2_with fail
        refine (alive_any _).mono ?_
        rintro e w4 ⟨rfl, h5⟩
        have H5 := Lib.hid (bthen HB2.out h5 (Nat.le_refl _))
        clear h5 HB2
        go_wp2_with fail
        refine (some_any _ _).mono ?_
        rintro e w4 ⟨rfl, rfl⟩
        rw [HD.out.1]
        go_wp2_with fail
        refine (Pl.point_any _ _ _).mono ?_
        rintro e w4 ⟨rfl, rfl⟩
        go_wp2_with fail
        refine (same_yes E1.out E2.out _).mono ?_
        rintro e w4 ⟨rfl, rfl⟩
        go_wp2_with fail
        go_ret
        exact ⟨rfl, H5.out⟩
      · have d2 : (S.tmod (j : Int) == 0) = false := by simpa using dx
        go_wp2_with fail
        refine (alive_any _).mono ?_
        rintro e w4 ⟨rfl, h5⟩
        have H5 := Lib.hid (HB.out.trans (h5.mono HB.out.size))
        clear h5
        go_wp2_with fail
        go_ret
        exact ⟨rfl, H5.out⟩
end Go.Proofs.Ytbkcoijcoacbaaa
