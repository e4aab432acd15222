/- law10.WireBack: its walk. -/
import Derived.Test.YthflafcjinpmnaaR18
namespace Go.Proofs.Ythflafcjinpmnaa
open Go.RowKit
set_option linter.unusedVariables false
set_option maxRecDepth 100000
set_option maxHeartbeats 8000000 in
theorem back_any {w : World} (p : Pk) (l : List El) (ms : List Nat) {n c : Nat} {A : Option Addr} {xs : List Nat} (hok : p.ok) (hE : Es w w.heap.size p.A p.n l) (hts : ∀ e ∈ l, e.ts < 4294967296 ∧ e.fs < 4294967296) (hM : Nb w w.heap.size p.m.A p.m.n p.m.c ms) (hsz : p.n ≤ 140737488355328)
    (hb : Nb w w.heap.size A n c xs) : Calls Try.prog 4 #[pkV p, .slice A n c] w fun e w' => e = .returned (.bool true) ∧ RowKit.Below w.heap.size w w' := by
  obtain ⟨W, hW⟩ : ∃ W, W = w.alloc (.cells #[.int .i64 p.h.lp, .int .i64 p.h.ve, .int .i64 p.h.mo, .int .i64 p.h.st, .int .i64 p.h.po, .int .i64 p.h.pr, .int .u32 (p.h.dl : Int), .int .u32 (p.h.di : Int), .int .u32 (p.h.rf : Int), .int .u64 (p.h.re : Int), .int .u64 (p.h.og : Int), .int .u64 (p.h.rc : Int), .int .u64 (p.h.xm : Int), .slice p.A p.n p.c, .bool p.m.has, .int .u32 (p.m.key : Int), .slice p.m.A p.m.n p.m.c] 29) := ⟨_, rfl⟩
  have x1 : PBox W w.heap.size p := by rw [hW]; exact heap_alloc_new w _
  have b0 : RowKit.Below w.heap.size w W := by rw [hW]; exact (Below.refl _ _).alloc (Nat.le_refl _) _
  have HE := Lib.hid (Es.more (hE.below b0 (Nat.le_refl _)) b0.size)
  have HM := Lib.hid (hM.far b0)
  have HN := Lib.hid (hb.far b0)
  have HX := Lib.hid x1
  have HW := Lib.hid hW
  have HB := Lib.hid b0
  have HSz := Lib.hid hsz
  have HOk := Lib.hid hok
  have HTs := Lib.hid hts
  have HHv := Lib.hid (heavy_any p l HE.out hsz)
  clear hW x1 b0 hE hM hb hsz hok hts
  go_enter Try.func4, Try.ntmps4
  go_upto_region 1 with fail
  rw [← HW.out]
  go_wp2_with (refine wpList_load_row rfl 29 (.tmp 2) rfl w.heap.size rfl 29 (pkC p) (0, 0) _ HX.out Try.underlying29 rfl s29 ?_)
  refine HHv.out.mono ?_
  rintro e w1 ⟨⟨hv, rfl⟩, b1⟩
  have HB1 := Lib.hid (bthen HB.out b1 (Nat.le_refl _))
  have HX1 := Lib.hid (HX.out.below b1)
  have HE1 := Lib.hid (Es.more (HE.out.below b1 (Nat.le_refl _)) b1.size)
  have HM1 := Lib.hid (HM.out.far b1)
  have HN1 := Lib.hid (HN.out.far b1)
  clear b1 HB HX HE HM HN HHv HW
  cases hv with
  | true =>
    go_wp2_with fail
    refine (alive_any w1).mono ?_
    rintro e we ⟨rfl, be⟩
    have HBe := Lib.hid (bthen HB1.out be (Nat.le_refl _))
    clear be
    go_wp2_with fail
    go_ret
    exact ⟨rfl, HBe.out⟩
  | false =>
    by_cases h4 : (4000 : Int) < (n : Int)
    · go_wp2_with fail
      refine (alive_any w1).mono ?_
      rintro e we ⟨rfl, be⟩
      have HBe := Lib.hid (bthen HB1.out be (Nat.le_refl _))
      clear be
      go_wp2_with fail
      go_ret
      exact ⟨rfl, HBe.out⟩
    · have h2 := Lib.hid (show n ≤ 4000 by omega)
      have h4' : ((4000 : Int) < (n : Int)) = False := eq_false h4
      clear h4
      have HWr := Lib.hid (write_any p l ms HE1.out HM1.out)
      go_wp2_with (refine wpList_load_row rfl 29 (.tmp 2) rfl w.heap.size rfl 29 (pkC p) (0, 0) _ HX1.out Try.underlying29 rfl s29 ?_)
      refine HWr.out.mono ?_
      rintro e w2 (⟨hr, rfl, b2⟩ | ⟨hr, A2, c2, rfl, hg, b2⟩)
      · have HB8 := Lib.hid (bthen HB1.out b2 (Nat.le_refl _))
        have HN8 := Lib.hid (HN1.out.far b2)
        clear b2 HWr HE1 HM1 HX1 HB1 HN1 h4' hr
        have HR := Lib.hid (read_any (HN8.out) (by have := h2.out; omega))
        go_wp2_with fail
        refine HR.out.mono ?_
        rintro e w9 ⟨b9, q, en, a, k, rfl, hrd⟩
        obtain ⟨y1, y2, y3, y4⟩ := bx_at w9 q a k
        have b89 := bthen b9 y3 (Nat.le_refl _)
        have HB10 := Lib.hid (bthen HB8.out b89 (Nat.le_refl _))
        have HN10 := Lib.hid (HN8.out.far b89)
        have HRd := Lib.hid (hrd.below y3)
        have HQ10 := Lib.hid y1
        have HF10 := Lib.hid y2
        clear hrd b9 y1 y2 y3 y4 b89 HR HN8 HB8
        go_upto_region 9 with (first
          | (refine wpList_store_row rfl 29 (.tmp 9) (.tmp 43) rfl w9.heap.size (pkC q) rfl rfl 29 _ (bx_x w9) s29 rfl (pk_all _) ?_)
          | (refine wpList_store_row rfl 39 (.tmp 10) (.tmp 44) rfl (w9.heap.size + 1) (flC a k) rfl rfl 39 _ (bx_y w9 q) s39 rfl (fl_all _ _) ?_))
        rw [bx_def]
        generalize bx w9 q a k = w10 at *
        have hf1 := (fl_cells HF10.out).1
        have hf2 := (fl_cells HF10.out).2
        have hrd := HRd.out
        unfold Rd at hrd
        cases hp : prs xs with
        | bad a' k' =>
          rw [hp] at hrd
          obtain ⟨rfl, -, rfl, rfl⟩ := hrd
          have hk : ((k : Int) != 0) = true := by simp; exact (prs_code hp).1
          have ha : (0 : Int) ≤ (a : Int) := by omega
          have ha2 : (a : Int) ≤ (n : Int) := by have := (prs_code hp).2.1; rw [HN10.out.len] at this; omega
          clear hp HRd
          go_wp2_with fail
          refine (alive_any w10).mono ?_
          rintro e w11 ⟨rfl, b11⟩
          have HB11 := Lib.hid (bthen HB10.out b11 (Nat.le_refl _))
          have HQ11 := Lib.hid (HQ10.out.below b11)
          have hF11 := (b11.block _ (Array.getElem?_eq_some_iff.1 HF10.out).1).trans HF10.out
          have HF11 := Lib.hid hF11
          have hf1 := (fl_cells hF11).1
          have hf2 := (fl_cells hF11).2
          clear b11 hF11 HB10 HQ10 HF10
          have HS := Lib.hid (same_any (w := w11) pk0 [] [] pk0 [] [] ⟨rfl, (fun x hx => by cases hx), .inl rfl⟩ (Nb.nil _ _ 0 (by omega) none) ⟨rfl, (fun x hx => by cases hx), .inl rfl⟩ (Nb.nil _ _ 0 (by omega) none) (by show 0 ≤ 140737488355328; decide))
          rw [show sm pk0 [] [] pk0 [] [] = true from sm_of rfl rfl (fun x hx => by cases hx) (fun x hx => by cases hx) rfl rfl rfl rfl] at HS
          go_wp2_with (refine wpList_load_row_g rfl 29 (.tmp 9) rfl w9.heap.size rfl 29 (pkC pk0) (0, 0) _ HQ11.out Try.underlying29 rfl s29 ?_)
          refine HS.out.mono ?_
          rintro e w12 ⟨rfl, b12⟩
          have HB12 := Lib.hid (bthen HB11.out b12 (Nat.le_refl _))
          have hF12 := (b12.block _ (Array.getElem?_eq_some_iff.1 HF11.out).1).trans HF11.out
          have hf1 := (fl_cells hF12).1
          clear b12 hF12 HS
          go_wp2_with fail
          go_ret
          exact ⟨rfl, HB12.out⟩
        | ok hd es en' =>
          rw [hp] at hrd
          obtain ⟨rfl, rfl, rfl, -, -, -, els, ns, -, hmem, hpk, hrt, -, -, -⟩ := hrd
          obtain ⟨hEq, hNq⟩ := hmem w10 (Nat.le_refl _) fun _ _ _ => rfl
          have HEq := Lib.hid hEq
          have HPk := Lib.hid hpk
          have HRt := Lib.hid hrt
          have HWr := Lib.hid (write_any q els ns hEq hNq)
          clear hp HRd hmem hpk hrt hEq hNq
          go_wp2_with (refine wpList_load_row rfl 29 (.tmp 9) rfl w9.heap.size rfl 29 (pkC q) (0, 0) _ HQ10.out Try.underlying29 rfl s29 ?_)
          refine HWr.out.mono ?_
          rintro e w11 (⟨hbad, -, -⟩ | ⟨-, A3, c3, rfl, hg, b11⟩)
          · exact absurd HRt.out (by rw [hbad]; decide)
          rw [HPk.out] at hg
          have HG11 := Lib.hid (hg.nb HN10.out.lim)
          have HB11 := Lib.hid (bthen HB10.out b11 (Nat.le_refl _))
          have HN11 := Lib.hid (HN10.out.far b11)
          have HQ11 := Lib.hid (HQ10.out.below b11)
          have HE11 := Lib.hid (Es.more (HEq.out.below b11 (Nat.le_refl _)) b11.size)
          clear hg b11 HB10 HN10 HQ10 HEq HWr
          generalize szp q els = S3 at *
          go_wp2_with fail
          refine (alive_any w11).mono ?_
          rintro e w12 ⟨rfl, b12⟩
          have HB12 := Lib.hid (bthen HB11.out b12 (Nat.le_refl _))
          have HG12 := Lib.hid (HG11.out.far b12)
          have HN12 := Lib.hid (HN11.out.far b12)
          have HQ12 := Lib.hid (HQ11.out.below b12)
          have HRi := Lib.hid (right_any q els (Es.more (HE11.out.below b12 (Nat.le_refl _)) b12.size))
          rw [HRt.out] at HRi
          clear b12 HB11 HG11 HN11 HQ11 HE11
          unfold erI at HRi
          go_wp2_with (refine wpList_load_row_g rfl 29 (.tmp 9) rfl w9.heap.size rfl 29 (pkC q) (0, 0) _ HQ12.out Try.underlying29 rfl s29 ?_)
          refine HRi.out.mono ?_
          rintro e w13 ⟨rfl, b13⟩
          have HB13 := Lib.hid (bthen HB12.out b13 (Nat.le_refl _))
          have k1 := conv_any (HG12.out.far b13)
          have k2 := conv_any (HN12.out.far b13)
          have k3 := eq_self (bstr xs)
          clear b13 HRi
          go_wp2_with fail
          go_ret
          exact ⟨rfl, HB13.out⟩
      · have HB2 := Lib.hid (bthen HB1.out b2 (Nat.le_refl _))
        have HN2 := Lib.hid (HN1.out.far b2)
        have HX2 := Lib.hid (HX1.out.below b2)
        have HE2 := Lib.hid (Es.more (HE1.out.below b2 (Nat.le_refl _)) b2.size)
        have HM2 := Lib.hid (HM1.out.far b2)
        have HG2 := Lib.hid (hg.nb (packW_lim HE1.out.has HM1.out.lim))
        have HRr := Lib.hid hr
        have HS8 := Lib.hid (right_parts hr).2.2.2.2
        clear b2 HWr HE1 HM1 HX1 HB1 HN1 h4' hr hg
        have HR := Lib.hid (read_any HG2.out (by have := HS8.out; omega))
        generalize hS : szp p l = S at *
        clear hS
        go_wp2_with fail
        refine HR.out.mono ?_
        rintro e w3 ⟨b3, q0, en0, a0, k0, rfl, hrd⟩
        obtain ⟨rfl, rfl, els0, ns0, hmem, hsm⟩ := same_back HRr.out HE2.out.1 (fun x hx => ⟨HE2.out.has x hx, HTs.out x hx⟩) HOk.out HM2.out.len hrd
        obtain ⟨y1, y2, y3, y4⟩ := bx_at w3 q0 0 0
        have b23 := bthen b3 y3 (Nat.le_refl _)
        have HB4 := Lib.hid (bthen HB2.out b23 (Nat.le_refl _))
        have HN4 := Lib.hid (HN2.out.far b23)
        have HX4 := Lib.hid (HX2.out.below b23)
        have HE4 := Lib.hid (Es.more (HE2.out.below b23 (Nat.le_refl _)) b23.size)
        have HM4 := Lib.hid (HM2.out.far b23)
        have HQ4 := Lib.hid y1
        have HF4 := Lib.hid y2
        have HMm := Lib.hid (hmem (bx w3 q0 0 0) y3.size fun z _ hz => y3.block z hz)
        have HSm := Lib.hid hsm
        clear hrd hmem hsm y1 y2 y3 y4 b3 b23 HB2 HN2 HX2 HE2 HM2 HG2 HR HRr
        go_upto_region 6 with (first
          | (refine wpList_store_row rfl 29 (.tmp 7) (.tmp 29) rfl w3.heap.size (pkC q0) rfl rfl 29 _ (bx_x w3) s29 rfl (pk_all _) ?_)
          | (refine wpList_store_row rfl 39 (.tmp 8) (.tmp 30) rfl (w3.heap.size + 1) (flC (0 : Nat) (0 : Nat)) rfl rfl 39 _ (bx_y w3 q0) s39 rfl (fl_all _ _) ?_))
        rw [bx_def]
        generalize bx w3 q0 0 0 = w4 at *
        have hf2 : w4.cell? ⟨w3.heap.size + 1, 1, none⟩ = some (.int .i64 0) := (fl_cells HF4.out).2
        have HSa := Lib.hid (same_any (w := w4) p l ms q0 els0 ns0 HE4.out HM4.out HMm.out.1 HMm.out.2 HSz.out)
        rw [HSm.out] at HSa
        go_wp2_with (first
          | (refine wpList_load_row_g rfl 29 (.tmp 2) rfl w.heap.size rfl 29 (pkC p) (0, 0) _ HX4.out Try.underlying29 rfl s29 ?_)
          | (refine wpList_load_row_g rfl 29 (.tmp 7) rfl w3.heap.size rfl 29 (pkC q0) (0, 0) _ HQ4.out Try.underlying29 rfl s29 ?_))
        refine HSa.out.mono ?_
        rintro e w8 ⟨rfl, b8⟩
        have HB8 := Lib.hid (bthen HB4.out b8 (Nat.le_refl _))
        have HN8 := Lib.hid (HN4.out.far b8)
        clear b8 HB4 HN4 HX4 HE4 HM4 HQ4 HF4 HMm HSm HSa hf2 HTs HOk HSz
        have HR := Lib.hid (read_any (HN8.out) (by have := h2.out; omega))
        go_wp2_with fail
        refine HR.out.mono ?_
        rintro e w9 ⟨b9, q, en, a, k, rfl, hrd⟩
        obtain ⟨y1, y2, y3, y4⟩ := bx_at w9 q a k
        have b89 := bthen b9 y3 (Nat.le_refl _)
        have HB10 := Lib.hid (bthen HB8.out b89 (Nat.le_refl _))
        have HN10 := Lib.hid (HN8.out.far b89)
        have HRd := Lib.hid (hrd.below y3)
        have HQ10 := Lib.hid y1
        have HF10 := Lib.hid y2
        clear hrd b9 y1 y2 y3 y4 b89 HR HN8 HB8
        go_upto_region 9 with (first
          | (refine wpList_store_row rfl 29 (.tmp 9) (.tmp 43) rfl w9.heap.size (pkC q) rfl rfl 29 _ (bx_x w9) s29 rfl (pk_all _) ?_)
          | (refine wpList_store_row rfl 39 (.tmp 10) (.tmp 44) rfl (w9.heap.size + 1) (flC a k) rfl rfl 39 _ (bx_y w9 q) s39 rfl (fl_all _ _) ?_))
        rw [bx_def]
        generalize bx w9 q a k = w10 at *
        have hf1 := (fl_cells HF10.out).1
        have hf2 := (fl_cells HF10.out).2
        have hrd := HRd.out
        unfold Rd at hrd
        cases hp : prs xs with
        | bad a' k' =>
          rw [hp] at hrd
          obtain ⟨rfl, -, rfl, rfl⟩ := hrd
          have hk : ((k : Int) != 0) = true := by simp; exact (prs_code hp).1
          have ha : (0 : Int) ≤ (a : Int) := by omega
          have ha2 : (a : Int) ≤ (n : Int) := by have := (prs_code hp).2.1; rw [HN10.out.len] at this; omega
          clear hp HRd
          go_wp2_with fail
          refine (alive_any w10).mono ?_
          rintro e w11 ⟨rfl, b11⟩
          have HB11 := Lib.hid (bthen HB10.out b11 (Nat.le_refl _))
          have HQ11 := Lib.hid (HQ10.out.below b11)
          have hF11 := (b11.block _ (Array.getElem?_eq_some_iff.1 HF10.out).1).trans HF10.out
          have HF11 := Lib.hid hF11
          have hf1 := (fl_cells hF11).1
          have hf2 := (fl_cells hF11).2
          clear b11 hF11 HB10 HQ10 HF10
          have HS := Lib.hid (same_any (w := w11) pk0 [] [] pk0 [] [] ⟨rfl, (fun x hx => by cases hx), .inl rfl⟩ (Nb.nil _ _ 0 (by omega) none) ⟨rfl, (fun x hx => by cases hx), .inl rfl⟩ (Nb.nil _ _ 0 (by omega) none) (by show 0 ≤ 140737488355328; decide))
          rw [show sm pk0 [] [] pk0 [] [] = true from sm_of rfl rfl (fun x hx => by cases hx) (fun x hx => by cases hx) rfl rfl rfl rfl] at HS
          go_wp2_with (refine wpList_load_row_g rfl 29 (.tmp 9) rfl w9.heap.size rfl 29 (pkC pk0) (0, 0) _ HQ11.out Try.underlying29 rfl s29 ?_)
          refine HS.out.mono ?_
          rintro e w12 ⟨rfl, b12⟩
          have HB12 := Lib.hid (bthen HB11.out b12 (Nat.le_refl _))
          have hF12 := (b12.block _ (Array.getElem?_eq_some_iff.1 HF11.out).1).trans HF11.out
          have hf1 := (fl_cells hF12).1
          clear b12 hF12 HS
          go_wp2_with fail
          go_ret
          exact ⟨rfl, HB12.out⟩
        | ok hd es en' =>
          rw [hp] at hrd
          obtain ⟨rfl, rfl, rfl, -, -, -, els, ns, -, hmem, hpk, hrt, -, -, -⟩ := hrd
          obtain ⟨hEq, hNq⟩ := hmem w10 (Nat.le_refl _) fun _ _ _ => rfl
          have HEq := Lib.hid hEq
          have HPk := Lib.hid hpk
          have HRt := Lib.hid hrt
          have HWr := Lib.hid (write_any q els ns hEq hNq)
          clear hp HRd hmem hpk hrt hEq hNq
          go_wp2_with (refine wpList_load_row rfl 29 (.tmp 9) rfl w9.heap.size rfl 29 (pkC q) (0, 0) _ HQ10.out Try.underlying29 rfl s29 ?_)
          refine HWr.out.mono ?_
          rintro e w11 (⟨hbad, -, -⟩ | ⟨-, A3, c3, rfl, hg, b11⟩)
          · exact absurd HRt.out (by rw [hbad]; decide)
          rw [HPk.out] at hg
          have HG11 := Lib.hid (hg.nb HN10.out.lim)
          have HB11 := Lib.hid (bthen HB10.out b11 (Nat.le_refl _))
          have HN11 := Lib.hid (HN10.out.far b11)
          have HQ11 := Lib.hid (HQ10.out.below b11)
          have HE11 := Lib.hid (Es.more (HEq.out.below b11 (Nat.le_refl _)) b11.size)
          clear hg b11 HB10 HN10 HQ10 HEq HWr
          generalize szp q els = S3 at *
          go_wp2_with fail
          refine (alive_any w11).mono ?_
          rintro e w12 ⟨rfl, b12⟩
          have HB12 := Lib.hid (bthen HB11.out b12 (Nat.le_refl _))
          have HG12 := Lib.hid (HG11.out.far b12)
          have HN12 := Lib.hid (HN11.out.far b12)
          have HQ12 := Lib.hid (HQ11.out.below b12)
          have HRi := Lib.hid (right_any q els (Es.more (HE11.out.below b12 (Nat.le_refl _)) b12.size))
          rw [HRt.out] at HRi
          clear b12 HB11 HG11 HN11 HQ11 HE11
          unfold erI at HRi
          go_wp2_with (refine wpList_load_row_g rfl 29 (.tmp 9) rfl w9.heap.size rfl 29 (pkC q) (0, 0) _ HQ12.out Try.underlying29 rfl s29 ?_)
          refine HRi.out.mono ?_
          rintro e w13 ⟨rfl, b13⟩
          have HB13 := Lib.hid (bthen HB12.out b13 (Nat.le_refl _))
          have k1 := conv_any (HG12.out.far b13)
          have k2 := conv_any (HN12.out.far b13)
          have k3 := eq_self (bstr xs)
          clear b13 HRi
          go_wp2_with fail
          go_ret
          exact ⟨rfl, HB13.out⟩
end Go.Proofs.Ythflafcjinpmnaa
