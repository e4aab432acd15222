/- wire: the document's own Write. -/
import Derived.Test.YthflafcjinpmnaaW13
namespace Go.Proofs.Ythflafcjinpmnaa
open Go.RowKit
set_option linter.unusedVariables false
set_option linter.unusedSimpArgs false
set_option maxRecDepth 100000
theorem head_nums {h : Hd} (q : headB h = true) : 0 ≤ h.lp ∧ h.lp ≤ 3 ∧ h.ve = 4 ∧ 1 ≤ h.mo ∧ h.mo ≤ 5 ∧ 0 ≤ h.st ∧ h.st ≤ 16 ∧ 0 ≤ h.po ∧ h.po ≤ 17 ∧ -128 ≤ h.pr ∧ h.pr ≤ 127 := by
  have := headB_parts.1 q
  unfold wi at this
  simp only [decide_eq_true_eq] at this
  omega
theorem four_be {a b c d : Int} (ha : 0 ≤ a ∧ a < 256) (hb : 0 ≤ b ∧ b < 256) (hc : 0 ≤ c ∧ c < 256) : [a.toNat, b.toNat, c.toNat, (d % 256).toNat] = be 1 a ++ be 1 b ++ be 1 c ++ be 1 d := by
  rw [be1, be1, be1, be1, Int.emod_eq_of_lt ha.1 ha.2, Int.emod_eq_of_lt hb.1 hb.2, Int.emod_eq_of_lt hc.1 hc.2]; rfl
theorem nb_four (w : World) (a b c d : Int) (ys : List Nat) (ha : 0 ≤ a ∧ a < 256) (hb : 0 ≤ b ∧ b < 256) (hc : 0 ≤ c ∧ c < 256) (hd : 0 ≤ d ∧ d < 256) (hy : ys = [a.toNat, b.toNat, c.toNat, d.toNat]) :
    Nb (w.alloc (.cells #[.int .u8 a, .int .u8 b, .int .u8 c, .int .u8 d] 5)) (w.alloc (.cells #[.int .u8 a, .int .u8 b, .int .u8 c, .int .u8 d] 5)).heap.size (some ⟨w.heap.size, 0, none⟩) 4 4 ys := by
  subst hy
  have := nb_new w [a.toNat, b.toNat, c.toNat, d.toNat] 4 rfl (by decide) (fun x hx => by simp at hx; omega)
  rw [show (bs [a.toNat, b.toNat, c.toNat, d.toNat]).toArray = #[.int .u8 a, .int .u8 b, .int .u8 c, .int .u8 d] by simp [bs, Int.toNat_of_nonneg ha.1, Int.toNat_of_nonneg hb.1, Int.toNat_of_nonneg hc.1, Int.toNat_of_nonneg hd.1]] at this
  exact this
theorem ext_lim {x : El} (h1 : Lim 256 x.xs) (h2 : Lim 256 x.ys) : Lim 256 (extB x) := by
  unfold extB
  exact ((((((((be_lim _ _).append (be_lim _ _)).append (be_lim _ _)).append (be_lim _ _)).append (be_lim _ _)).append (be_lim _ _)).append (be_lim _ _)).append (text_lim h1)).append (text_lim h2)
theorem mcB_lim {m : Mc} {ms : List Nat} (h : Lim 256 ms) : Lim 256 (mcB m ms) := by
  unfold mcB
  split
  · exact (be_lim _ _).append h
  · exact Lim.nil _
theorem mcB_macW (p : Pk) (ms : List Nat) : mcB p.m ms = macW p ms := rfl
set_option maxHeartbeats 8000000 in
theorem write_ref {w : World} (p : Pk) (l : List El) (ms : List Nat) (hok : p.ok) (hE : Es w w.heap.size p.A p.n l) (hts : ∀ e ∈ l, e.ts < 4294967296 ∧ e.fs < 4294967296) (hM : Nb w w.heap.size p.m.A p.m.n p.m.c ms) (hli : light p l) :
    Calls Try.prog 11 #[pkV p] w fun e w' => (rightB p l = false ∧ e = .returned (.tuple #[.slice none 0 0, .int .i64 3]) ∧ RowKit.Below w.heap.size w w') ∨
      (rightB p l = true ∧ ∃ A c, e = .returned (.tuple #[.slice A (szp p l) c, .int .i64 0]) ∧ Gb w' w.heap.size A (szp p l) c (packW p l ms) ∧ RowKit.Below w.heap.size w w') := by
  obtain ⟨W, hW⟩ : ∃ W, W = w.alloc (.cells #[.int .i64 p.h.lp, .int .i64 p.h.ve, .int .i64 p.h.mo, .int .i64 p.h.st, .int .i64 p.h.po, .int .i64 p.h.pr, .int .u32 (p.h.dl : Int), .int .u32 (p.h.di : Int), .int .u32 (p.h.rf : Int), .int .u64 (p.h.re : Int), .int .u64 (p.h.og : Int), .int .u64 (p.h.rc : Int), .int .u64 (p.h.xm : Int), .slice p.A p.n p.c, .bool p.m.has, .int .u32 (p.m.key : Int), .slice p.m.A p.m.n p.m.c] 29) := ⟨_, rfl⟩
  have x1 : PBox W w.heap.size p := by rw [hW]; exact heap_alloc_new w _
  have b0 : RowKit.Below w.heap.size w W := by rw [hW]; exact (Below.refl _ _).alloc (Nat.le_refl _) _
  have HE := Lib.hid (Es.more (hE.below b0 (Nat.le_refl _)) b0.size)
  have HM := Lib.hid (hM.far b0)
  have HX := Lib.hid x1
  have HW := Lib.hid hW
  have HB := Lib.hid b0
  have HOk := Lib.hid hok
  have HTs := Lib.hid hts
  have HLi := Lib.hid hli
  have HR := Lib.hid (right_ref p l ms hok HE.out hts HM.out hli)
  clear hW x1 b0 hE hM hok hts hli
  go_enter Try.func11, Try.ntmps11
  go_upto_region 1 with fail
  rw [← HW.out]
  go_wp2_with (refine wpList_load_row rfl 29 (.tmp 1) rfl w.heap.size rfl 29 (pkC p) (0, 0) _ HX.out Try.underlying29 rfl s29 ?_)
  refine HR.out.mono ?_
  rintro e w1 ⟨rfl, b1⟩
  have HB1 := Lib.hid (bthen HB.out b1 (Nat.le_refl _))
  have HX1 := Lib.hid (HX.out.below b1)
  have HE1 := Lib.hid (Es.more (HE.out.below b1 (Nat.le_refl _)) b1.size)
  have HM1 := Lib.hid (HM.out.far b1)
  clear b1 HB HX HE HM HR HW
  cases hr : rightB p l with
  | false =>
    unfold erI
    go_wp2_with fail
    go_ret2
    exact .inl ⟨hr, rfl, HB1.out⟩
  | true =>
    unfold erI
    have HRr := Lib.hid hr
    obtain ⟨rh, rm, rn, rf, rs⟩ := right_parts hr
    have hn := head_nums rh
    have HRn := Lib.hid rn
    have HRf := Lib.hid rf
    have HRs := Lib.hid rs
    obtain ⟨F, hF⟩ : ∃ F, F = fh p.h := ⟨_, rfl⟩
    have hFb : 0 ≤ F ∧ F < 256 := by rw [hF]; unfold fh; omega
    have g1 : wrap64 (64 * p.h.lp) = 64 * p.h.lp := by unfold wrap64; omega
    have g2 : wrap64 (8 * p.h.ve) = 8 * p.h.ve := by unfold wrap64; omega
    have g3 : wrap64 (64 * p.h.lp + 8 * p.h.ve) = 64 * p.h.lp + 8 * p.h.ve := by unfold wrap64; omega
    have g4 : wrap64 (64 * p.h.lp + 8 * p.h.ve + p.h.mo) = F := by rw [hF]; unfold wrap64 fh; omega
    have g5 : IntKind.u8.wrap F = F := by rw [IntKind.wrap_u8]; omega
    have g6 : IntKind.u8.wrap p.h.st = p.h.st := by rw [IntKind.wrap_u8]; omega
    have g7 : IntKind.u8.wrap p.h.po = p.h.po := by rw [IntKind.wrap_u8]; omega
    have g8 : IntKind.u8.wrap p.h.pr = p.h.pr % 256 := by rw [IntKind.wrap_u8]
    have hnb := nb_four w1 F p.h.st p.h.po (p.h.pr % 256) _ hFb (by omega) (by omega) (by omega) (four_be (d := p.h.pr) hFb (by omega) (by omega)).symm
    have hb2 := (Below.refl w1.heap.size w1).alloc (Nat.le_refl _) (.cells #[.int .u8 F, .int .u8 p.h.st, .int .u8 p.h.po, .int .u8 (p.h.pr % 256)] 5)
    have hbs := hb2.size
    obtain ⟨c0, c1, c2, c3, c4, c5, c6, c7, c8, c9, c10, c11, c12, c13, c14, c15, c16⟩ := HX1.out.cells
    have HFe := Lib.hid hF
    clear rh rm rn rf rs hn hr hF hFb c6 c7 c8 c9 c10 c11 c12 c13 c14 c15 c16
    have hlm : 0 + 4 ≤ 1099511627776 := by decide
    go_upto_region 6 with (at_builtin; refine wpList_app_row_b (w0 := w1) _ rfl (.tmp 12) (.tmp 33) rfl rfl (Gb.nil _ w1.heap.size) rfl hnb hlm hb2 hbs ?_; intro A3 k3 w3 hg3 hb3)
    have HG3 := Lib.hid (show Gb w3 w1.heap.size A3 4 k3 (be 1 F ++ be 1 p.h.st ++ be 1 p.h.po ++ be 1 p.h.pr) from hg3)
    have HB3 := Lib.hid hb3
    clear hg3 hb3 hnb hb2 hbs hlm g1 g2 g3 g4 g5 g6 g7 g8 c0 c1 c2 c3 c4 c5
    obtain ⟨c0, c1, c2, c3, c4, c5, c6, c7, c8, c9, c10, c11, c12, c13, c14, c15, c16⟩ := (HX1.out.below HB3.out).cells
    have hz : IntKind.u64.wrap (p.h.dl : Int) = (p.h.dl : Int) := by rw [IntKind.wrap_u64]; have := HOk.out.h.d; omega
    have HP3 := Lib.hid (bstep HG3.out HB3.out HB3.out.size 4 (p.h.dl : Int) (by omega) (by omega) (by omega))
    clear c0 c1 c2 c3 c4 c5 c7 c8 c9 c10 c11 c12 c13 c14 c15 c16
    go_wp2_with fail
    refine HP3.out.mono ?_
    rintro e w4 ⟨A4, k4, rfl, hn4, hg4, hb4⟩
    have hbs := hb4.size
    have hlm : 4 + 4 ≤ 1099511627776 := by decide
    clear hz c6
    go_upto_region 7 with (at_builtin; refine wpList_app_row_b (w0 := w1) _ rfl (.tmp 35) (.tmp 39) rfl rfl hg4 rfl hn4 hlm hb4 hbs ?_; intro A5 k5 w5 hg5 hb5)
    have HG5 := Lib.hid (show Gb w5 w1.heap.size A5 8 k5 (be 1 F ++ be 1 p.h.st ++ be 1 p.h.po ++ be 1 p.h.pr ++ be 4 (p.h.dl : Int)) from hg5)
    have HB5 := Lib.hid hb5
    clear hg4 hn4 hb4 hg5 hb5 hbs hlm
    obtain ⟨c0, c1, c2, c3, c4, c5, c6, c7, c8, c9, c10, c11, c12, c13, c14, c15, c16⟩ := (HX1.out.below HB5.out).cells
    have hz : IntKind.u64.wrap (p.h.di : Int) = (p.h.di : Int) := by rw [IntKind.wrap_u64]; have := HOk.out.h.d; omega
    have HP5 := Lib.hid (bstep HG5.out HB5.out HB5.out.size 4 (p.h.di : Int) (by omega) (by omega) (by omega))
    clear c0 c1 c2 c3 c4 c5 c6 c8 c9 c10 c11 c12 c13 c14 c15 c16
    go_wp2_with fail
    refine HP5.out.mono ?_
    rintro e w6 ⟨A6, k6, rfl, hn6, hg6, hb6⟩
    have hbs := hb6.size
    have hlm : 8 + 4 ≤ 1099511627776 := by decide
    clear hz c7
    go_upto_region 8 with (at_builtin; refine wpList_app_row_b (w0 := w1) _ rfl (.tmp 41) (.tmp 45) rfl rfl hg6 rfl hn6 hlm hb6 hbs ?_; intro A7 k7 w7 hg7 hb7)
    have HG7 := Lib.hid (show Gb w7 w1.heap.size A7 12 k7 (be 1 F ++ be 1 p.h.st ++ be 1 p.h.po ++ be 1 p.h.pr ++ be 4 (p.h.dl : Int) ++ be 4 (p.h.di : Int)) from hg7)
    have HB7 := Lib.hid hb7
    clear hg6 hn6 hb6 hg7 hb7 hbs hlm
    obtain ⟨c0, c1, c2, c3, c4, c5, c6, c7, c8, c9, c10, c11, c12, c13, c14, c15, c16⟩ := (HX1.out.below HB7.out).cells
    have hz : IntKind.u64.wrap (p.h.rf : Int) = (p.h.rf : Int) := by rw [IntKind.wrap_u64]; have := HOk.out.h.d; omega
    have HP7 := Lib.hid (bstep HG7.out HB7.out HB7.out.size 4 (p.h.rf : Int) (by omega) (by omega) (by omega))
    clear c0 c1 c2 c3 c4 c5 c6 c7 c9 c10 c11 c12 c13 c14 c15 c16
    go_wp2_with fail
    refine HP7.out.mono ?_
    rintro e w8 ⟨A8, k8, rfl, hn8, hg8, hb8⟩
    have hbs := hb8.size
    have hlm : 12 + 4 ≤ 1099511627776 := by decide
    clear hz c8
    go_upto_region 9 with (at_builtin; refine wpList_app_row_b (w0 := w1) _ rfl (.tmp 47) (.tmp 51) rfl rfl hg8 rfl hn8 hlm hb8 hbs ?_; intro A9 k9 w9 hg9 hb9)
    have HG9 := Lib.hid (show Gb w9 w1.heap.size A9 16 k9 (be 1 F ++ be 1 p.h.st ++ be 1 p.h.po ++ be 1 p.h.pr ++ be 4 (p.h.dl : Int) ++ be 4 (p.h.di : Int) ++ be 4 (p.h.rf : Int)) from hg9)
    have HB9 := Lib.hid hb9
    clear hg8 hn8 hb8 hg9 hb9 hbs hlm
    obtain ⟨c0, c1, c2, c3, c4, c5, c6, c7, c8, c9, c10, c11, c12, c13, c14, c15, c16⟩ := (HX1.out.below HB9.out).cells
    have hz : IntKind.u64.wrap (p.h.re : Int) = (p.h.re : Int) := by rw [IntKind.wrap_u64]; have := HOk.out.h.t; omega
    have HP9 := Lib.hid (bstep HG9.out HB9.out HB9.out.size 8 (p.h.re : Int) (by omega) (by omega) (by omega))
    clear c0 c1 c2 c3 c4 c5 c6 c7 c8 c10 c11 c12 c13 c14 c15 c16
    go_wp2_with fail
    refine HP9.out.mono ?_
    rintro e w10 ⟨A10, k10, rfl, hn10, hg10, hb10⟩
    have hbs := hb10.size
    have hlm : 16 + 8 ≤ 1099511627776 := by decide
    clear hz c9
    go_upto_region 10 with (at_builtin; refine wpList_app_row_b (w0 := w1) _ rfl (.tmp 53) (.tmp 56) rfl rfl hg10 rfl hn10 hlm hb10 hbs ?_; intro A11 k11 w11 hg11 hb11)
    have HG11 := Lib.hid (show Gb w11 w1.heap.size A11 24 k11 (be 1 F ++ be 1 p.h.st ++ be 1 p.h.po ++ be 1 p.h.pr ++ be 4 (p.h.dl : Int) ++ be 4 (p.h.di : Int) ++ be 4 (p.h.rf : Int) ++ be 8 (p.h.re : Int)) from hg11)
    have HB11 := Lib.hid hb11
    clear hg10 hn10 hb10 hg11 hb11 hbs hlm
    obtain ⟨c0, c1, c2, c3, c4, c5, c6, c7, c8, c9, c10, c11, c12, c13, c14, c15, c16⟩ := (HX1.out.below HB11.out).cells
    have hz : IntKind.u64.wrap (p.h.og : Int) = (p.h.og : Int) := by rw [IntKind.wrap_u64]; have := HOk.out.h.t; omega
    have HP11 := Lib.hid (bstep HG11.out HB11.out HB11.out.size 8 (p.h.og : Int) (by omega) (by omega) (by omega))
    clear c0 c1 c2 c3 c4 c5 c6 c7 c8 c9 c11 c12 c13 c14 c15 c16
    go_wp2_with fail
    refine HP11.out.mono ?_
    rintro e w12 ⟨A12, k12, rfl, hn12, hg12, hb12⟩
    have hbs := hb12.size
    have hlm : 24 + 8 ≤ 1099511627776 := by decide
    clear hz c10
    go_upto_region 11 with (at_builtin; refine wpList_app_row_b (w0 := w1) _ rfl (.tmp 58) (.tmp 61) rfl rfl hg12 rfl hn12 hlm hb12 hbs ?_; intro A13 k13 w13 hg13 hb13)
    have HG13 := Lib.hid (show Gb w13 w1.heap.size A13 32 k13 (be 1 F ++ be 1 p.h.st ++ be 1 p.h.po ++ be 1 p.h.pr ++ be 4 (p.h.dl : Int) ++ be 4 (p.h.di : Int) ++ be 4 (p.h.rf : Int) ++ be 8 (p.h.re : Int) ++ be 8 (p.h.og : Int)) from hg13)
    have HB13 := Lib.hid hb13
    clear hg12 hn12 hb12 hg13 hb13 hbs hlm
    obtain ⟨c0, c1, c2, c3, c4, c5, c6, c7, c8, c9, c10, c11, c12, c13, c14, c15, c16⟩ := (HX1.out.below HB13.out).cells
    have hz : IntKind.u64.wrap (p.h.rc : Int) = (p.h.rc : Int) := by rw [IntKind.wrap_u64]; have := HOk.out.h.t; omega
    have HP13 := Lib.hid (bstep HG13.out HB13.out HB13.out.size 8 (p.h.rc : Int) (by omega) (by omega) (by omega))
    clear c0 c1 c2 c3 c4 c5 c6 c7 c8 c9 c10 c12 c13 c14 c15 c16
    go_wp2_with fail
    refine HP13.out.mono ?_
    rintro e w14 ⟨A14, k14, rfl, hn14, hg14, hb14⟩
    have hbs := hb14.size
    have hlm : 32 + 8 ≤ 1099511627776 := by decide
    clear hz c11
    go_upto_region 12 with (at_builtin; refine wpList_app_row_b (w0 := w1) _ rfl (.tmp 63) (.tmp 66) rfl rfl hg14 rfl hn14 hlm hb14 hbs ?_; intro A15 k15 w15 hg15 hb15)
    have HG15 := Lib.hid (show Gb w15 w1.heap.size A15 40 k15 (be 1 F ++ be 1 p.h.st ++ be 1 p.h.po ++ be 1 p.h.pr ++ be 4 (p.h.dl : Int) ++ be 4 (p.h.di : Int) ++ be 4 (p.h.rf : Int) ++ be 8 (p.h.re : Int) ++ be 8 (p.h.og : Int) ++ be 8 (p.h.rc : Int)) from hg15)
    have HB15 := Lib.hid hb15
    clear hg14 hn14 hb14 hg15 hb15 hbs hlm
    obtain ⟨c0, c1, c2, c3, c4, c5, c6, c7, c8, c9, c10, c11, c12, c13, c14, c15, c16⟩ := (HX1.out.below HB15.out).cells
    have hz : IntKind.u64.wrap (p.h.xm : Int) = (p.h.xm : Int) := by rw [IntKind.wrap_u64]; have := HOk.out.h.t; omega
    have HP15 := Lib.hid (bstep HG15.out HB15.out HB15.out.size 8 (p.h.xm : Int) (by omega) (by omega) (by omega))
    clear c0 c1 c2 c3 c4 c5 c6 c7 c8 c9 c10 c11 c13 c14 c15 c16
    go_wp2_with fail
    refine HP15.out.mono ?_
    rintro e w16 ⟨A16, k16, rfl, hn16, hg16, hb16⟩
    have hbs := hb16.size
    have hlm : 40 + 8 ≤ 1099511627776 := by decide
    clear hz c12
    go_upto_region 13 with (at_builtin; refine wpList_app_row_b (w0 := w1) _ rfl (.tmp 68) (.tmp 71) rfl rfl hg16 rfl hn16 hlm hb16 hbs ?_; intro A17 k17 w17 hg17 hb17)
    have HG17 := Lib.hid (show Gb w17 w1.heap.size A17 48 k17 (be 1 F ++ be 1 p.h.st ++ be 1 p.h.po ++ be 1 p.h.pr ++ be 4 (p.h.dl : Int) ++ be 4 (p.h.di : Int) ++ be 4 (p.h.rf : Int) ++ be 8 (p.h.re : Int) ++ be 8 (p.h.og : Int) ++ be 8 (p.h.rc : Int) ++ be 8 (p.h.xm : Int)) from hg17)
    have HB17 := Lib.hid hb17
    clear hg16 hn16 hb16 hg17 hb17 hbs hlm
    have HG := Lib.hid (show Gb w17 w1.heap.size A17 48 k17 (headW p.h) by have := HG17.out; rw [HFe.out] at this; exact this)
    have HLn := Lib.hid (HE1.out.1 : l.length = p.n)
    clear HG3 HG5 HG7 HG9 HG11 HG13 HG15 HG17
    go_upto_region 14 with fail
    go_loopw [5, 6] (fun b i wr => ∃ (j : Nat) (A' : Option Addr) (c' z : Nat), j ≤ p.n ∧ i = .int .i64 (j : Int) ∧ b = .slice A' z c' ∧ Hid (z = 48 + szs (l.take j)) ∧ Gb wr w1.heap.size A' z c' (headW p.h ++ (l.take j).flatMap extB) ∧ RowKit.Below w1.heap.size w1 wr) (fun _ i _ => (p.n - (match i with | .int _ z => z.toNat | _ => 0)))
    case atStart => exact ⟨0, A17, k17, 48, by omega, rfl, rfl, Lib.hid (by simp [szs_nil]), by simpa using HG.out, HB17.out⟩
    case round =>
      obtain ⟨j, A7, k7, z, hjn, rfl, rfl, HZ, hg7, hb7⟩ := hrel
      have HG7 := Lib.hid hg7
      have HB7 := Lib.hid hb7
      clear hg7 hb7
      obtain ⟨c0, c1, c2, c3, c4, c5, c6, c7, c8, c9, c10, c11, c12, c13, c14, c15, c16⟩ := (HX1.out.below HB7.out).cells
      by_cases hj : j < p.n
      · clear c0 c1 c2 c3 c4 c5 c6 c7 c8 c9 c10 c11 c12  c14 c15 c16
        have e1 : (j : Int) < (p.n : Int) := by omega
        obtain ⟨x, hx⟩ : ∃ x, l[j]? = some x := ⟨_, List.getElem?_eq_getElem (by have := HLn.out; omega)⟩
        have hEw := Es.more (HE1.out.below HB7.out (Nat.le_refl _)) HB7.out.size
        have hNx := hEw.2.1 x (List.mem_of_getElem? hx)
        obtain ⟨g, off, hA, hg, hcl⟩ := hEw.2.2.resolve_left (by omega)
        obtain ⟨d0, d1, d2, d3, d4, d5, d6, d7⟩ := hcl j x hx
        have hfd := HRf.out x (List.mem_of_getElem? hx)
        have ho : 0 ≤ x.op ∧ x.op < 64 := op_lim hfd
        have hfl := field_lim hfd
        have ha : 0 ≤ x.as_ ∧ x.as_ < 65536 := by unfold fieldB wi at hfd; simp only [Bool.and_eq_true, decide_eq_true_eq] at hfd; omega
        have HFr := Lib.hid (field_ref x hNx.1 hNx.2 ho ha (by omega) (by omega) (HTs.out x (List.mem_of_getElem? hx)))
        have HFt := Lib.hid (flat_take hx)
        have HSt := Lib.hid (szs_take hx)
        have HTot := Lib.hid (show szs (l.take j) + szf x ≤ 20 * 4136 by
          rw [← szs_take hx]
          refine Nat.le_trans (szs_lim (fun y hy => HRf.out y (List.mem_of_mem_take hy))) (Nat.mul_le_mul_right 4136 (?_ : _ ≤ 20))
          rw [List.length_take]
          have := HRn.out
          omega)
        have HLx := Lib.hid (⟨hNx.1.lim, hNx.2.lim⟩ : Lim 256 x.xs ∧ Lim 256 x.ys)
        have HJ := Lib.hid (⟨hjn, hj⟩ : j ≤ p.n ∧ j < p.n)
        have s0 := w64_one40 (j := j) (by have := HJ.out; have := HRn.out; omega)
        rw [hA] at c13
        clear hcl hx hA hj hjn hg hEw hNx hfd ho hfl ha
        go_wp2_with fail
        refine HFr.out.mono ?_
        rintro e w8 ⟨A8, k8, rfl, hg8, hb8⟩
        have HN8 := Lib.hid (hg8.nb (ext_lim HLx.out.1 HLx.out.2))
        have HG8 := Lib.hid (HG7.out.below hb8)
        have HB8 := Lib.hid (bthen HB7.out hb8 (Nat.le_refl _))
        have hbs := HB8.out.size
        have hlm : z + szf x ≤ 1099511627776 := by have := HTot.out; have := HZ.out; omega
        clear hg8 hb8 d0 d1 d2 d3 d4 d5 d6 d7 c13
        go_wp2_with (at_builtin; refine wpList_app_row_b (w0 := w1) _ rfl (.tmp 80) (.tmp 86) rfl rfl HG8.out rfl HN8.out hlm HB8.out hbs ?_; intro A9 k9 w9 hg9 hb9)
        have hjs := HJ.out
        exact ⟨⟨j + 1, A9, k9, z + szf x, by omega, congrArg (Value.int _) s0, rfl, Lib.hid (by rw [HSt.out, HZ.out]; omega), by rw [HFt.out, ← List.append_assoc]; exact hg9, hb9⟩, by show p.n - (wrap64 ((j : Int) + 1)).toNat < p.n - (j : Int).toNat; rw [s0]; omega⟩
      · have e1 : ((j : Int) < (p.n : Int)) = False := by simp only [eq_iff_iff, iff_false]; omega
        have hEq := (List.take_of_length_le (by have := HLn.out; omega) : l.take j = l)
        have hmn : p.m.n ≤ 4194304 := by have := HLi.out.2.1; omega
        have HMr := Lib.hid (mac_ref p.m ms (HM1.out.far HB7.out) HOk.out.key hmn)
        have HZ2 := Lib.hid (show z = 48 + szs l by rw [HZ.out, hEq])
        have HG9 := Lib.hid (show Gb wr w1.heap.size A7 z k7 (headW p.h ++ l.flatMap extB) by rw [← hEq]; exact HG7.out)
        have HSz := Lib.hid (show szp p l = z + mcL p.m by rw [HZ2.out]; unfold szp mcL; split <;> omega)
        clear c0 c1 c2 c3 c4 c5 c6 c7 c8 c9 c10 c11 c12     hEq hmn hj hjn HG7 HZ
        go_wp2_with fail
        refine HMr.out.mono ?_
        rintro e w8 ⟨A8, k8, rfl, hg8, hb8⟩
        have HN8 := Lib.hid (hg8.nb (mcB_lim HM1.out.lim))
        have HG8 := Lib.hid (HG9.out.below hb8)
        have HB8 := Lib.hid (bthen HB7.out hb8 (Nat.le_refl _))
        have hbs := HB8.out.size
        have hlm : z + mcL p.m ≤ 1099511627776 := by have := HSz.out; have := HRs.out; omega
        clear hg8 hb8 c13 c14 c15 c16
        go_wp2_with (at_builtin; refine wpList_app_row_b (w0 := w1) _ rfl (.tmp 88) (.tmp 91) rfl rfl HG8.out rfl HN8.out hlm HB8.out hbs ?_; intro A9 k9 w9 hg9 hb9)
        have HG10 := Lib.hid (show Gb w9 w.heap.size A9 (szp p l) k9 (packW p l ms) by rw [HSz.out]; exact hg9.weak' HB1.out.size)
        have HB10 := Lib.hid (bthen HB1.out hb9 (Nat.le_refl _))
        have HSz2 := HSz.out
        go_ret2
        exact .inr ⟨HRr.out, A9, k9, by rw [HSz2]; rfl, HG10.out, HB10.out⟩
end Go.Proofs.Ythflafcjinpmnaa
