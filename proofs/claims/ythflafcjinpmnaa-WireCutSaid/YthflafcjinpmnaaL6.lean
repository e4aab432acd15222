/- law10.WireCut: its walk. -/
import Derived.Test.YthflafcjinpmnaaR18
namespace Go.Proofs.Ythflafcjinpmnaa
open Go.RowKit
set_option linter.unusedVariables false
set_option maxRecDepth 100000
theorem prs_short {xs : List Nat} (h : xs.length < 48) : prs xs = .bad xs.length 72 := by
  unfold prs; rw [if_neg (by omega), if_pos h]
theorem prs_more {xs : List Nat} {y : Nat} (hL : Lim 256 xs) (hy : y < 256) (h4 : xs.length % 4 = 0) : ∃ a k, prs (xs ++ [y]) = .bad a k ∧ k ≠ 0 := by
  cases hp : prs (xs ++ [y]) with
  | bad a k => exact ⟨a, k, rfl, (prs_code hp).1⟩
  | ok h es en =>
    have := ok_mod (hL.append (Lim.one hy)) hp
    rw [List.length_append] at this
    simp at this
    omega
set_option maxHeartbeats 8000000 in
theorem cut_any {w : World} (p : Pk) (l : List El) (ms : List Nat) (cut : Int) (y : Nat) (hok : p.ok) (hE : Es w w.heap.size p.A p.n l) (hts : ∀ e ∈ l, e.ts < 4294967296 ∧ e.fs < 4294967296) (hM : Nb w w.heap.size p.m.A p.m.n p.m.c ms) (hsz : p.n ≤ 140737488355328)
    (hy : y < 256) : Calls Try.prog 6 #[pkV p, .int .i64 cut, .int .u8 (y : Int)] w fun e w' => e = .returned (.bool true) ∧ RowKit.Below w.heap.size w w' := by
  obtain ⟨W, hW⟩ : ∃ W, W = w.alloc (.cells #[.int .i64 p.h.lp, .int .i64 p.h.ve, .int .i64 p.h.mo, .int .i64 p.h.st, .int .i64 p.h.po, .int .i64 p.h.pr, .int .u32 (p.h.dl : Int), .int .u32 (p.h.di : Int), .int .u32 (p.h.rf : Int), .int .u64 (p.h.re : Int), .int .u64 (p.h.og : Int), .int .u64 (p.h.rc : Int), .int .u64 (p.h.xm : Int), .slice p.A p.n p.c, .bool p.m.has, .int .u32 (p.m.key : Int), .slice p.m.A p.m.n p.m.c] 29) := ⟨_, rfl⟩
  have x1 : PBox W w.heap.size p := by rw [hW]; exact heap_alloc_new w _
  have b0 : RowKit.Below w.heap.size w W := by rw [hW]; exact (Below.refl _ _).alloc (Nat.le_refl _) _
  have HE := Lib.hid (Es.more (hE.below b0 (Nat.le_refl _)) b0.size)
  have HM := Lib.hid (hM.far b0)
  have HX := Lib.hid x1
  have HW := Lib.hid hW
  have HB := Lib.hid b0
  have HSz := Lib.hid hsz
  have HY := Lib.hid hy
  have HHv := Lib.hid (heavy_any p l HE.out hsz)
  clear hW x1 b0 hE hM hsz hok hts hy
  go_enter Try.func6, Try.ntmps6
  go_upto_region 1 with fail
  rw [← HW.out]
  go_wp2_with (refine wpList_load_row rfl 29 (.tmp 3) rfl w.heap.size rfl 29 (pkC p) (0, 0) _ HX.out Try.underlying29 rfl s29 ?_)
  refine HHv.out.mono ?_
  rintro e w1 ⟨⟨hv, rfl⟩, b1⟩
  have HB1 := Lib.hid (bthen HB.out b1 (Nat.le_refl _))
  have HX1 := Lib.hid (HX.out.below b1)
  have HE1 := Lib.hid (Es.more (HE.out.below b1 (Nat.le_refl _)) b1.size)
  have HM1 := Lib.hid (HM.out.far b1)
  clear b1 HB HX HE HM HHv HW
  cases hv with
  | true =>
    go_wp2_with fail
    refine (alive_any w1).mono ?_
    rintro e we ⟨rfl, be⟩
    have HBe := Lib.hid (bthen HB1.out be (Nat.le_refl _))
    clear be
    go_wp2_with fail
    go_ret
    exact ⟨rfl, HBe.out⟩
  | false =>
    have HWr := Lib.hid (write_any p l ms HE1.out HM1.out)
    go_wp2_with (refine wpList_load_row rfl 29 (.tmp 3) rfl w.heap.size rfl 29 (pkC p) (0, 0) _ HX1.out Try.underlying29 rfl s29 ?_)
    refine HWr.out.mono ?_
    rintro e w2 (⟨hr, rfl, b2⟩ | ⟨hr, A2, c2, rfl, hg, b2⟩)
    · have HB2 := Lib.hid (bthen HB1.out b2 (Nat.le_refl _))
      clear b2 HWr HE1 HM1 HX1 HB1 hr
      go_wp2_with fail
      refine (alive_any w2).mono ?_
      rintro e we ⟨rfl, be⟩
      have HBe := Lib.hid (bthen HB2.out be (Nat.le_refl _))
      clear be
      go_wp2_with fail
      go_ret
      exact ⟨rfl, HBe.out⟩
    · have HB2 := Lib.hid (bthen HB1.out b2 (Nat.le_refl _))
      have HX2 := Lib.hid (HX1.out.below b2)
      have HE2 := Lib.hid (Es.more (HE1.out.below b2 (Nat.le_refl _)) b2.size)
      have HM2 := Lib.hid (HM1.out.far b2)
      have HG2 := Lib.hid (hg.nb (packW_lim HE1.out.has HM1.out.lim))
      have hS8 := (right_parts hr).2.2.2.2
      have hS4 := szp_mod (l := l) (right_parts hr).2.1
      have HL := Lib.hid HG2.out.lim
      have hlen := HG2.out.len
      have hge : 48 ≤ szp p l := by unfold szp; omega
      obtain ⟨xs, hxs⟩ : ∃ xs, xs = packW p l ms := ⟨_, rfl⟩
      rw [← hxs] at HL HG2 hlen
      have HXs := Lib.hid hxs
      clear b2 HWr HE1 HM1 HX1 HB1 hg hxs hr
      generalize hS : szp p l = S at *
      have HS := Lib.hid (⟨hS8, hS4, hge⟩ : S ≤ 8192 ∧ S % 4 = 0 ∧ 48 ≤ S)
      obtain ⟨a0, k0, hmore, hk0⟩ := prs_more (y := y) HL.out HY.out (by rw [hlen]; exact hS4)
      have HMore := Lib.hid hmore
      have hkk : ((k0 : Int) == 0) = false := by simp; exact hk0
      have hcap := HG2.out.cap
      have hA0 : pa A2 c2 0 = A2 := pa_zero A2 c2 fun ad e => by
        obtain ⟨b, off, e2, _⟩ := HG2.out.cell (by omega)
        exact ⟨b, off, Option.some.inj (e.symm.trans e2)⟩
      have HGe := Lib.hid (Gb.empty w2 w2.heap.size (Nat.le_refl _))
      have HBe := Lib.hid ((Below.refl w2.heap.size w2).alloc (Nat.le_refl _) (.cells #[] 5))
      have HNa := Lib.hid (HG2.out.far HBe.out)
      have hlim : 0 + S ≤ 1099511627776 := by omega
      have HLen := Lib.hid hlen
      clear hmore hk0 hS hlen hge hS8 hS4
      have hbs : w2.heap.size ≤ (w2.alloc (.cells #[] 5)).heap.size := by simp
      go_upto_region 7 with (at_builtin; refine wpList_app_row_b (w0 := w2) _ rfl (.tmp 25) (.tmp 26) rfl rfl HGe.out rfl HNa.out hlim HBe.out hbs ?_; intro A3 c3 w3 hg3 hb3)
      rw [Nat.zero_add] at hg3
      rw [List.nil_append] at hg3
      have HG3 := Lib.hid (hg3.alloc (.cells #[.int .u8 (y : Int)] 5))
      have HB3 := Lib.hid (hb3.alloc hb3.size (.cells #[.int .u8 (y : Int)] 5))
      have hc3 := cell_new w3 (.int .u8 (y : Int)) 5
      have hl3 : S ≤ 1099511627776 := by omega
      have hs3 := (hb3.alloc hb3.size (.cells #[.int .u8 (y : Int)] 5)).size
      clear hg3 hb3 HGe HBe HNa hlim hbs
      go_upto_region 8 with (at_builtin; refine wpList_app_b (w0 := w2) _ rfl (.tmp 28) (.tmp 30) rfl rfl HG3.out rfl hc3 hl3 HB3.out hs3 ?_; intro A4 c4 w4 hg4 hb4)
      have HG4 := Lib.hid (hg4.nb (HL.out.append (Lim.one HY.out)))
      have HB4 := Lib.hid (bthen HB2.out hb4 (Nat.le_refl _))
      have HX4 := Lib.hid (HX2.out.below hb4)
      have HE4 := Lib.hid (Es.more (HE2.out.below hb4 (Nat.le_refl _)) hb4.size)
      have HM4 := Lib.hid (HM2.out.far hb4)
      have HN4 := Lib.hid (HG2.out.far hb4)
      have HR := Lib.hid (read_any HG4.out (by have := HS.out; omega))
      clear hg4 hb4 HG3 HB3 hc3 hl3 hs3 HB2 HX2 HE2 HM2 HG2
      go_wp2_with fail
      refine HR.out.mono ?_
      rintro e w5 ⟨b5, q, en, a, k, rfl, hrd⟩
      unfold Rd at hrd
      rw [HMore.out] at hrd
      obtain ⟨rfl, -, rfl, rfl⟩ := hrd
      obtain ⟨y1, y2, y3, y4⟩ := bx_at w5 pk0 a k
      have b46 := bthen b5 y3 (Nat.le_refl _)
      have HB6 := Lib.hid (bthen HB4.out b46 (Nat.le_refl _))
      have HX6 := Lib.hid (HX4.out.below b46)
      have HE6 := Lib.hid (Es.more (HE4.out.below b46 (Nat.le_refl _)) b46.size)
      have HM6 := Lib.hid (HM4.out.far b46)
      have HN6 := Lib.hid (HN4.out.far b46)
      have HF6 := Lib.hid y2
      clear b5 y1 y2 y3 y4 b46 HR HB4 HX4 HE4 HM4 HN4 HG4 HMore
      go_upto_region 9 with (first
        | (refine wpList_store_row rfl 29 (.tmp 10) (.tmp 35) rfl w5.heap.size (pkC pk0) rfl rfl 29 _ (bx_x w5) s29 rfl (pk_all _) ?_)
        | (refine wpList_store_row rfl 39 (.tmp 11) (.tmp 36) rfl (w5.heap.size + 1) (flC a k) rfl rfl 39 _ (bx_y w5 pk0) s39 rfl (fl_all _ _) ?_))
      rw [bx_def]
      generalize bx w5 pk0 a k = w6 at *
      have hf2 := (fl_cells HF6.out).2
      by_cases hc0 : cut < 0
      · go_wp2_with fail
        refine (alive_any w6).mono ?_
        rintro e we ⟨rfl, be⟩
        have HBe := Lib.hid (bthen HB6.out be (Nat.le_refl _))
        clear be
        go_wp2_with fail
        go_ret
        exact ⟨rfl, HBe.out⟩
      · have hc0' : (cut < 0) = False := eq_false hc0
        by_cases hcS : (S : Int) ≤ cut
        · clear hc0
          go_wp2_with fail
          refine (alive_any w6).mono ?_
          rintro e we ⟨rfl, be⟩
          have HBe := Lib.hid (bthen HB6.out be (Nat.le_refl _))
          clear be
          go_wp2_with fail
          go_ret
          exact ⟨rfl, HBe.out⟩
        · have hcS' : ((S : Int) ≤ cut) = False := eq_false hcS
          obtain ⟨j, rfl⟩ := Int.eq_ofNat_of_zero_le (show 0 ≤ cut by omega)
          have hj : j < S := by omega
          have hNt : Nb w6 w6.heap.size A2 j c2 (xs.take j) := by
            have := HN6.out.part 0 j (by omega) (by omega)
            rw [hA0, List.drop_zero, Nat.sub_zero, Nat.sub_zero] at this
            exact this
          have g1 : ∀ W, (Instr.slice 25 (.slice A2 S c2) none (some (.int .i64 (j : Int))) none).run Try.prog W = .ok (.slice A2 j c2) W := fun W => by
            have := sl_to A2 S c2 j .i64 (by omega) W
            rw [hA0] at this
            exact this
          have HJ := Lib.hid hj
          have hlj : (xs.take j).length = j := hNt.len
          have HLj := Lib.hid hlj
          have HR := Lib.hid (read_any hNt (by have := HS.out; omega))
          clear hc0 hcS hj hNt hA0 hcap hlj HN6
          go_wp2_with fail
          refine HR.out.mono ?_
          rintro e w7 ⟨b7, q, en, a2, k2, rfl, hrd⟩
          obtain ⟨y1, y2, y3, y4⟩ := bx_at w7 q a2 k2
          have b68 := bthen b7 y3 (Nat.le_refl _)
          have HB8 := Lib.hid (bthen HB6.out b68 (Nat.le_refl _))
          have HX8 := Lib.hid (HX6.out.below b68)
          have HE8 := Lib.hid (Es.more (HE6.out.below b68 (Nat.le_refl _)) b68.size)
          have HM8 := Lib.hid (HM6.out.far b68)
          have HRd := Lib.hid (hrd.below y3)
          have HQ8 := Lib.hid y1
          have HF8 := Lib.hid y2
          clear b7 y1 y2 y3 y4 b68 hrd HR HB6 HX6 HE6 HM6 HF6 hf2 g1
          go_upto_region 14 with (first
            | (refine wpList_store_row rfl 29 (.tmp 12) (.tmp 54) rfl w7.heap.size (pkC q) rfl rfl 29 _ (bx_x w7) s29 rfl (pk_all _) ?_)
            | (refine wpList_store_row rfl 39 (.tmp 13) (.tmp 55) rfl (w7.heap.size + 1) (flC a2 k2) rfl rfl 39 _ (bx_y w7 q) s39 rfl (fl_all _ _) ?_))
          rw [bx_def]
          generalize bx w7 q a2 k2 = w8 at *
          by_cases h48 : (j : Int) < 48
          · have hrd := HRd.out
            unfold Rd at hrd
            rw [prs_short (by rw [HLj.out]; omega), HLj.out] at hrd
            obtain ⟨rfl, -, rfl, rfl⟩ := hrd
            clear HRd
            go_wp2_with fail
            refine (alive_any w8).mono ?_
            rintro e w9 ⟨rfl, b9⟩
            have HB9 := Lib.hid (bthen HB8.out b9 (Nat.le_refl _))
            have hF9 := (b9.block _ (Array.getElem?_eq_some_iff.1 HF8.out).1).trans HF8.out
            have hf1 : w9.cell? ⟨w7.heap.size + 1, 0, none⟩ = some (.int .i64 (a2 : Int)) := (fl_cells hF9).1
            have hf2 : w9.cell? ⟨w7.heap.size + 1, 1, none⟩ = some (.int .i64 72) := (fl_cells hF9).2
            have q1 := fun W => equal39 (a2 : Int) 72 (a2 : Int) 72 W
            rw [show ((a2 : Int) == (a2 : Int) && (72 : Int) == 72) = true by simp] at q1
            have q3 := run_guard39
            clear b9 hF9
            go_wp2_with fail
            go_ret
            exact ⟨rfl, HB9.out⟩
          · have h48' : ((j : Int) < 48) = False := eq_false h48
            clear h48
            have hrd := HRd.out
            unfold Rd at hrd
            cases hp : prs (xs.take j) with
            | bad a' k' =>
              rw [hp] at hrd
              obtain ⟨-, -, -, rfl⟩ := hrd
              have hk : ((k2 : Int) != 0) = true := by simp; exact (prs_code hp).1
              clear hp HRd
              go_wp2_with fail
              refine (alive_any w8).mono ?_
              rintro e w9 ⟨rfl, b9⟩
              have HB9 := Lib.hid (bthen HB8.out b9 (Nat.le_refl _))
              have hF9 := (b9.block _ (Array.getElem?_eq_some_iff.1 HF8.out).1).trans HF8.out
              have hf2 := (fl_cells hF9).2
              clear b9 hF9
              go_wp2_with fail
              go_ret
              exact ⟨rfl, HB9.out⟩
            | ok hd es en' =>
              rw [hp] at hrd
              obtain ⟨rfl, rfl, rfl, -, -, -, els, ns, -, hmem, hpk, hrt, -, -, -⟩ := hrd
              obtain ⟨hEq, hNq⟩ := hmem w8 (Nat.le_refl _) fun _ _ _ => rfl
              have hno : sm p l ms q els ns = false := by
                cases hs : sm p l ms q els ns with
                | false => rfl
                | true =>
                  have h1 := sm_packW HE8.out.has hEq.has HE8.out.1 hEq.1 HM8.out.lim hNq.lim hs
                  rw [hpk, ← HXs.out] at h1
                  have h2 := congrArg List.length h1
                  rw [HLj.out] at h2
                  have h3 := HLj.out
                  rw [List.length_take] at h3
                  have := HJ.out
                  have h4 : xs.length = S := HLen.out
                  omega
              have HEq := Lib.hid hEq
              have HNq := Lib.hid hNq
              have HNo := Lib.hid hno
              clear hp HRd hmem hpk hrt hEq hNq hno
              go_wp2_with fail
              refine (alive_any w8).mono ?_
              rintro e w9 ⟨rfl, b9⟩
              have HB9 := Lib.hid (bthen HB8.out b9 (Nat.le_refl _))
              have hF9 := (b9.block _ (Array.getElem?_eq_some_iff.1 HF8.out).1).trans HF8.out
              have hf2 : w9.cell? ⟨w7.heap.size + 1, 1, none⟩ = some (.int .i64 0) := (fl_cells hF9).2
              have HX9 := Lib.hid (HX8.out.below b9)
              have HQ9 := Lib.hid (HQ8.out.below b9)
              have HSa := Lib.hid (same_any (w := w9) p l ms q els ns (Es.more (HE8.out.below b9 (Nat.le_refl _)) b9.size) (HM8.out.far b9) (Es.more (HEq.out.below b9 (Nat.le_refl _)) b9.size) (HNq.out.far b9) HSz.out)
              rw [HNo.out] at HSa
              clear b9 hF9
              go_wp2_with (first
                | (refine wpList_load_row_g rfl 29 (.tmp 3) rfl w.heap.size rfl 29 (pkC p) (0, 0) _ HX9.out Try.underlying29 rfl s29 ?_)
                | (refine wpList_load_row_g rfl 29 (.tmp 12) rfl w7.heap.size rfl 29 (pkC q) (0, 0) _ HQ9.out Try.underlying29 rfl s29 ?_))
              refine HSa.out.mono ?_
              rintro e w10 ⟨rfl, b10⟩
              have HB10 := Lib.hid (bthen HB9.out b10 (Nat.le_refl _))
              clear b10
              go_wp2_with fail
              go_ret
              exact ⟨rfl, HB10.out⟩
end Go.Proofs.Ythflafcjinpmnaa
