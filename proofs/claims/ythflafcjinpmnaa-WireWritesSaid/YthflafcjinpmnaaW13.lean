/- wire: the document's own Right. -/
import Derived.Test.YthflafcjinpmnaaW12
import Derived.Test.YthflafcjinpmnaaS4
namespace Go.Proofs.Ythflafcjinpmnaa
open Go.RowKit
set_option linter.unusedVariables false
set_option linter.unusedSimpArgs false
set_option maxRecDepth 100000
theorem rightB_no {p : Pk} {l : List El} (h : ¬ (headB p.h = true ∧ macB p.m = true ∧ p.n ≤ 8 ∧ (∀ x ∈ l, fieldB x = true) ∧ szp p l ≤ 8192)) : rightB p l = false := by
  cases hr : rightB p l with
  | false => rfl
  | true => exact absurd (right_parts hr) h
theorem rightB_yes {p : Pk} {l : List El} (h : headB p.h = true ∧ macB p.m = true ∧ p.n ≤ 8 ∧ (∀ x ∈ l, fieldB x = true) ∧ szp p l ≤ 8192) : rightB p l = true := by
  unfold rightB
  rw [h.1, h.2.1, decide_eq_true h.2.2.1, List.all_eq_true.2 h.2.2.2.1, decide_eq_true h.2.2.2.2]
  rfl
theorem headB_parts {h : Hd} : headB h = true ↔ wi h.lp 0 3 = true ∧ h.ve = 4 ∧ wi h.mo 1 5 = true ∧ wi h.st 0 16 = true ∧ wi h.po 0 17 = true ∧ wi h.pr (-128) 127 = true := by
  unfold headB kindB
  simp only [Bool.and_eq_true, decide_eq_true_eq]
  constructor
  · rintro ⟨a, ⟨b, c⟩, d, e, f⟩; exact ⟨a, b, c, d, e, f⟩
  · rintro ⟨a, b, c, d, e, f⟩; exact ⟨a, ⟨b, c⟩, d, e, f⟩
set_option maxHeartbeats 8000000 in
theorem right_ref {w : World} (p : Pk) (l : List El) (ms : List Nat) (hok : p.ok) (hE : Es w w.heap.size p.A p.n l) (hts : ∀ e ∈ l, e.ts < 4294967296 ∧ e.fs < 4294967296) (hM : Nb w w.heap.size p.m.A p.m.n p.m.c ms) (hli : light p l) :
    Calls Try.prog 13 #[pkV p] w fun e w' => e = .returned (.int .i64 (erI (rightB p l))) ∧ RowKit.Below w.heap.size w w' := by
  obtain ⟨W, hW⟩ : ∃ W, W = w.alloc (.cells #[.int .i64 p.h.lp, .int .i64 p.h.ve, .int .i64 p.h.mo, .int .i64 p.h.st, .int .i64 p.h.po, .int .i64 p.h.pr, .int .u32 (p.h.dl : Int), .int .u32 (p.h.di : Int), .int .u32 (p.h.rf : Int), .int .u64 (p.h.re : Int), .int .u64 (p.h.og : Int), .int .u64 (p.h.rc : Int), .int .u64 (p.h.xm : Int), .slice p.A p.n p.c, .bool p.m.has, .int .u32 (p.m.key : Int), .slice p.m.A p.m.n p.m.c] 29) := ⟨_, rfl⟩
  have x1 : PBox W w.heap.size p := by rw [hW]; exact heap_alloc_new w _
  have b0 : RowKit.Below w.heap.size w W := by rw [hW]; exact (Below.refl _ _).alloc (Nat.le_refl _) _
  have HE := Lib.hid (Es.more (hE.below b0 (Nat.le_refl _)) b0.size)
  have HM := Lib.hid (hM.far b0)
  have HX := Lib.hid x1
  have HW := Lib.hid hW
  have HB := Lib.hid b0
  have HOk := Lib.hid hok
  have HTs := Lib.hid hts
  have HLi := Lib.hid hli
  obtain ⟨c0, c1, c2, c3, c4, c5, c6, c7, c8, c9, c10, c11, c12, c13, c14, c15, c16⟩ := x1.cells
  clear hW x1 b0 hE hM hok hts hli
  have H0 := Lib.hid (fun w => between_any p.h.lp 0 3 w)
  have H2 := Lib.hid (fun w => between_any p.h.mo 1 5 w)
  have H3 := Lib.hid (fun w => between_any p.h.st 0 16 w)
  have H4 := Lib.hid (fun w => between_any p.h.po 0 17 w)
  have H5 := Lib.hid (fun w => between_any p.h.pr (-128) 127 w)
  go_enter Try.func13, Try.ntmps13
  go_upto_region 1 with fail
  rw [← HW.out]
  generalize hb0 : wi p.h.lp 0 3 = b0 at H0
  go_wp2_with fail
  refine (H0.out _).mono ?_
  rintro e wq ⟨rfl, hwq⟩
  subst wq
  cases b0 with
  | false =>
    go_wp2_with fail
    go_ret
    exact ⟨by rw [show rightB p l = false from rightB_no fun h => by have := (headB_parts.1 h.1).1; rw [hb0] at this; cases this]; rfl, HB.out⟩
  | true =>
    by_cases hve : p.h.ve = 4
    rotate_left
    · have hve1 : (p.h.ve != 4) = true := by simpa using hve
      go_wp2_with fail
      go_ret
      exact ⟨by rw [show rightB p l = false from rightB_no fun h => hve (headB_parts.1 h.1).2.1]; rfl, HB.out⟩
    have hve1 : (p.h.ve != 4) = false := by simpa using hve
    generalize hb2 : wi p.h.mo 1 5 = b2 at H2
    go_wp2_with fail
    refine (H2.out _).mono ?_
    rintro e wq ⟨rfl, hwq⟩
    subst wq
    cases b2 with
    | false =>
      go_wp2_with fail
      go_ret
      exact ⟨by rw [show rightB p l = false from rightB_no fun h => by have := (headB_parts.1 h.1).2.2.1; rw [hb2] at this; cases this]; rfl, HB.out⟩
    | true =>
      generalize hb3 : wi p.h.st 0 16 = b3 at H3
      go_wp2_with fail
      refine (H3.out _).mono ?_
      rintro e wq ⟨rfl, hwq⟩
      subst wq
      cases b3 with
      | false =>
        go_wp2_with fail
        go_ret
        exact ⟨by rw [show rightB p l = false from rightB_no fun h => by have := (headB_parts.1 h.1).2.2.2.1; rw [hb3] at this; cases this]; rfl, HB.out⟩
      | true =>
        generalize hb4 : wi p.h.po 0 17 = b4 at H4
        go_wp2_with fail
        refine (H4.out _).mono ?_
        rintro e wq ⟨rfl, hwq⟩
        subst wq
        cases b4 with
        | false =>
          go_wp2_with fail
          go_ret
          exact ⟨by rw [show rightB p l = false from rightB_no fun h => by have := (headB_parts.1 h.1).2.2.2.2.1; rw [hb4] at this; cases this]; rfl, HB.out⟩
        | true =>
          generalize hb5 : wi p.h.pr (-128) 127 = b5 at H5
          go_wp2_with fail
          refine (H5.out _).mono ?_
          rintro e wq ⟨rfl, hwq⟩
          subst wq
          cases b5 with
          | false =>
            go_wp2_with fail
            go_ret
            exact ⟨by rw [show rightB p l = false from rightB_no fun h => by have := (headB_parts.1 h.1).2.2.2.2.2; rw [hb5] at this; cases this]; rfl, HB.out⟩
          | true =>
            by_cases hn8 : (8 : Int) < (p.n : Int)
            · go_wp2_with fail
              go_ret
              exact ⟨by rw [show rightB p l = false from rightB_no fun h => by have := h.2.2.1; omega]; rfl, HB.out⟩
            · have hn8' : ((8 : Int) < (p.n : Int)) = False := eq_false hn8
              have HHd := Lib.hid (headB_parts.2 ⟨hb0, hve, hb2, hb3, hb4, hb5⟩)
              have HN8 := Lib.hid (show p.n ≤ 8 by omega)
              clear hb0 hve hb2 hb3 hb4 hb5 hn8 H0 H2 H3 H4 H5
              have HMr := Lib.hid (mac_ref p.m ms HM.out HOk.out.key (by have := HLi.out.2.1; omega))
              go_wp2_with fail
              refine HMr.out.mono ?_
              rintro e w1 ⟨A1, k1, rfl, -, b1⟩
              have HB1 := Lib.hid b1
              have hml : mcL p.m ≤ 20004 := by have := HLi.out.2.1; unfold mcL; split <;> omega
              have s48 : wrap64 (48 + (mcL p.m : Int)) = ((48 + mcL p.m : Nat) : Int) := by unfold wrap64; omega
              have HMl := Lib.hid hml
              have HSzp := Lib.hid (show szp p l = 48 + mcL p.m + szs l by unfold szp mcL; split <;> omega)
              clear b1 hml c0 c1 c2 c3 c4 c5 c6 c7 c8 c9 c10 c11 c12 c13 c14 c15 c16
              go_upto_region 5 with fail
              rw [s48]
              clear s48 HW hve1 hn8' HMr
              obtain ⟨N0, hN0⟩ : ∃ N0, N0 = 48 + mcL p.m := ⟨_, rfl⟩
              rw [← hN0] at HSzp ⊢
              have HN0 := Lib.hid hN0
              clear hN0
              have HLn := Lib.hid HE.out.1
              go_loopw [3, 4] (fun n i wr => ∃ (j z : Nat), j ≤ p.n ∧ i = .int .i64 (j : Int) ∧ n = .int .i64 (z : Int) ∧ Hid (z = N0 + szs (l.take j) ∧ ∀ x ∈ l.take j, fieldB x = true) ∧ RowKit.Below W.heap.size W wr) (fun _ i _ => (p.n - (match i with | .int _ z => z.toNat | _ => 0)))
              case atStart => exact ⟨0, N0, by omega, rfl, rfl, Lib.hid ⟨by simp [szs_nil], (fun x hx => by cases hx)⟩, HB1.out⟩
              case round =>
                obtain ⟨j, z, hjn, rfl, rfl, HA, hb⟩ := hrel
                have HB2 := Lib.hid hb
                clear hb
                by_cases hj : j < p.n
                · obtain ⟨c0, c1, c2, c3, c4, c5, c6, c7, c8, c9, c10, c11, c12, c13, c14, c15, c16⟩ := (HX.out.below HB2.out).cells
                  clear c0 c1 c2 c3 c4 c5 c6 c7 c8 c9 c10 c11 c12  c14 c15 c16
                  have e1 : (j : Int) < (p.n : Int) := by omega
                  obtain ⟨x, hx⟩ : ∃ x, l[j]? = some x := ⟨_, List.getElem?_eq_getElem (by have := HLn.out; omega)⟩
                  have hEw := Es.more (HE.out.below HB2.out (Nat.le_refl _)) HB2.out.size
                  have HNx := Lib.hid (hEw.2.1 x (List.mem_of_getElem? hx))
                  obtain ⟨g, off, hA, hg, hcl⟩ := hEw.2.2.resolve_left (by omega)
                  obtain ⟨d0, d1, d2, d3, d4, d5, d6, d7⟩ := hcl j x hx
                  have HXm := Lib.hid (List.mem_of_getElem? hx)
                  have HTk := Lib.hid (show l.take (j + 1) = l.take j ++ [x] by rw [List.take_add_one, hx]; rfl)
                  have HSt := Lib.hid (szs_take hx)
                  have HJ := Lib.hid (⟨hjn, hj⟩ : j ≤ p.n ∧ j < p.n)
                  have s0 := w64_one40 (j := j) (by have := HJ.out; have := HN8.out; omega)
                  rw [hA] at c13
                  obtain ⟨V, hV⟩ : ∃ V, V = wr.alloc (.cells #[.int .i64 x.op, .bool x.resp, .bool x.bad, .int .i64 x.as_, .int .u32 (x.ts : Int), .int .u32 (x.fs : Int), .slice x.A x.n x.c, .slice x.B x.m x.e] 47) := ⟨_, rfl⟩
                  have xV : EBox V wr.heap.size x := by rw [hV]; exact heap_alloc_new wr _
                  have bV : RowKit.Below wr.heap.size wr V := by rw [hV]; exact (Below.refl _ _).alloc (Nat.le_refl _) _
                  have HV := Lib.hid hV
                  have HBV := Lib.hid (bthen HB2.out bV (Nat.le_refl _))
                  have HXV := Lib.hid xV
                  have HNV := Lib.hid (⟨HNx.out.1.far bV, HNx.out.2.far bV⟩ : Nb V V.heap.size x.A x.n x.c x.xs ∧ Nb V V.heap.size x.B x.m x.e x.ys)
                  have Ho := Lib.hid (fun w => between_any x.op 1 63 w)
                  have Ha := Lib.hid (fun w => between_any x.as_ 0 65535 w)
                  have HFd := Lib.hid (show fieldB x = (wi x.op 1 63 && (wi x.as_ 0 65535 && (decide (x.n ≤ 2048) && decide (x.m ≤ 2048)))) from rfl)
                  clear hcl hx hA hj hjn hg hEw hV xV bV
                  generalize hbo : wi x.op 1 63 = bo at Ho HFd
                  generalize hba : wi x.as_ 0 65535 = ba at Ha HFd
                  have Hbo := Lib.hid hbo
                  have Hba := Lib.hid hba
                  clear hbo hba
                  go_upto_region 8 with fail
                  rw [← HV.out]
                  clear d0 d1 d2 d3 d4 d5 d6 d7
                  obtain ⟨d0, d1, d2, d3, d4, d5, d6, d7⟩ := HXV.out.cells
                  go_wp2_with fail
                  refine (Ho.out _).mono ?_
                  rintro e wq ⟨rfl, hwq⟩
                  subst wq
                  cases bo with
                  | false =>
                    go_wp2_with fail
                    go_ret
                    exact ⟨by rw [show rightB p l = false from rightB_no fun h => by have := h.2.2.2.1 x HXm.out; rw [HFd.out] at this; cases this]; rfl, bthen HB.out HBV.out (Nat.le_refl _)⟩
                  | true =>
                    go_wp2_with fail
                    refine (Ha.out _).mono ?_
                    rintro e wq ⟨rfl, hwq⟩
                    subst wq
                    cases ba with
                    | false =>
                      go_wp2_with fail
                      go_ret
                      exact ⟨by rw [show rightB p l = false from rightB_no fun h => by have := h.2.2.2.1 x HXm.out; rw [HFd.out] at this; cases this]; rfl, bthen HB.out HBV.out (Nat.le_refl _)⟩
                    | true =>
                      by_cases h1 : (2048 : Int) < (x.n : Int)
                      · go_wp2_with fail
                        go_ret
                        exact ⟨by rw [show rightB p l = false from rightB_no fun h => by have := h.2.2.2.1 x HXm.out; rw [HFd.out, decide_eq_false (by omega)] at this; cases this]; rfl, bthen HB.out HBV.out (Nat.le_refl _)⟩
                      · have h1' : ((2048 : Int) < (x.n : Int)) = False := eq_false h1
                        by_cases h2 : (2048 : Int) < (x.m : Int)
                        · clear h1
                          go_wp2_with fail
                          go_ret
                          exact ⟨by rw [show rightB p l = false from rightB_no fun h => by have := h.2.2.2.1 x HXm.out; rw [HFd.out, decide_eq_false (p := x.m ≤ 2048) (by omega), Bool.and_false] at this; cases this]; rfl, bthen HB.out HBV.out (Nat.le_refl _)⟩
                        · have h2' : ((2048 : Int) < (x.m : Int)) = False := eq_false h2
                          have HFx := Lib.hid (show fieldB x = true by rw [HFd.out, decide_eq_true (by omega), decide_eq_true (by omega)]; rfl)
                          have ho : 0 ≤ x.op ∧ x.op < 64 := op_lim HFx.out
                          have ha : 0 ≤ x.as_ ∧ x.as_ < 65536 := by have := Hba.out; unfold wi at this; simp only [decide_eq_true_eq] at this; omega
                          have HFr := Lib.hid (field_ref x HNV.out.1 HNV.out.2 ho ha (by omega) (by omega) (HTs.out x HXm.out))
                          have hsz := szf_lim HFx.out
                          have hst := HSt.out
                          have hsl : szs (l.take (j + 1)) ≤ 20 * 4136 := by
                            rw [HTk.out]
                            refine Nat.le_trans (szs_lim (fun y hy => ?_)) (Nat.mul_le_mul_right 4136 (?_ : _ ≤ 20))
                            · rcases List.mem_append.1 hy with hy | hy
                              · exact HA.out.2 y hy
                              · simp at hy; subst hy; exact HFx.out
                            · simp
                              have := HJ.out; have := HN8.out
                              omega
                          have s5 : wrap64 ((z : Int) + (szf x : Int)) = ((N0 + szs (l.take (j + 1)) : Nat) : Int) := by have := HMl.out; have := HA.out.1; have := HN0.out; unfold wrap64; omega
                          clear h1 h2 ho ha hsz hst hsl
                          go_wp2_with fail
                          refine HFr.out.mono ?_
                          rintro e w3 ⟨A3, k3, rfl, -, b3⟩
                          have HB3 := Lib.hid (bthen HBV.out b3 (Nat.le_refl _))
                          clear b3 d0 d1 d2 d3 d4 d5 d6 d7 c13
                          go_wp2_with fail
                          have hjs := HJ.out
                          refine ⟨⟨j + 1, N0 + szs (l.take (j + 1)), by omega, congrArg (Value.int _) s0, congrArg (Value.int _) s5, Lib.hid ⟨rfl, fun y hy => ?_⟩, HB3.out⟩, by show p.n - (wrap64 ((j : Int) + 1)).toNat < p.n - (j : Int).toNat; rw [s0]; omega⟩
                          rw [HTk.out] at hy
                          rcases List.mem_append.1 hy with hy | hy
                          · exact HA.out.2 y hy
                          · simp at hy; subst hy; exact HFx.out
                · have e1 : ((j : Int) < (p.n : Int)) = False := by simp only [eq_iff_iff, iff_false]; omega
                  have hE := (List.take_of_length_le (by have := HLn.out; omega) : l.take j = l)
                  have HAl := Lib.hid (show ∀ x ∈ l, fieldB x = true by rw [← hE]; exact HA.out.2)
                  have hzS : z = szp p l := by rw [HSzp.out, HA.out.1, hE]
                  subst hzS
                  have HF := Lib.hid (bthen HB.out HB2.out (Nat.le_refl _))
                  obtain ⟨c0, c1, c2, c3, c4, c5, c6, c7, c8, c9, c10, c11, c12, c13, c14, c15, c16⟩ := (HX.out.below HB2.out).cells
                  clear c0 c1 c2 c3 c4 c5 c6 c7 c8 c9 c10 c11 c12     hE HA hj hjn
                  obtain ⟨S, hS⟩ : ∃ S, S = szp p l := ⟨_, rfl⟩
                  rw [← hS]
                  have HS := Lib.hid hS
                  clear hS
                  have yes : macB p.m = true → rightB p l = decide (S ≤ 8192) := fun hm => by
                    by_cases h : S ≤ 8192
                    · rw [decide_eq_true h]
                      exact rightB_yes ⟨HHd.out, hm, HN8.out, HAl.out, by rw [← HS.out]; exact h⟩
                    · rw [decide_eq_false h]
                      exact rightB_no fun q => h (by rw [HS.out]; exact q.2.2.2.2)
                  have no : macB p.m = false → rightB p l = false := fun hm => rightB_no fun q => by rw [hm] at q; cases q.2.1
                  have HYes := Lib.hid yes
                  have HNo := Lib.hid no
                  clear yes no
                  cases hh : p.m.has with
                  | true =>
                    rw [hh] at c14
                    by_cases h0 : p.m.n = 0
                    · have hmb : macB p.m = true := by unfold macB; rw [hh, h0]; rfl
                      have k0 : ((p.m.n : Int) != 0) = false := by simp; omega
                      clear h0
                      by_cases hS8 : (8192 : Int) < (S : Int)
                      · have hd : rightB p l = false := by rw [HYes.out hmb]; exact decide_eq_false (by omega)
                        have HD := Lib.hid hd
                        clear hd
                        go_wp2_with fail
                        go_ret
                        exact ⟨by rw [HD.out]; rfl, HF.out⟩
                      · have hd : rightB p l = true := by rw [HYes.out hmb]; exact decide_eq_true (by omega)
                        have HD := Lib.hid hd
                        have hS8' : ((8192 : Int) < (S : Int)) = False := eq_false hS8
                        clear hd hS8
                        go_wp2_with fail
                        go_ret
                        exact ⟨by rw [HD.out]; rfl, HF.out⟩
                    · have k0 : ((p.m.n : Int) != 0) = true := by simp; omega
                      by_cases h16 : p.m.n = 16
                      · have hmb : macB p.m = true := by unfold macB; rw [hh, h16]; rfl
                        have k1 : ((p.m.n : Int) != 16) = false := by simp; omega
                        clear h0 h16
                        by_cases hS8 : (8192 : Int) < (S : Int)
                        · have hd : rightB p l = false := by rw [HYes.out hmb]; exact decide_eq_false (by omega)
                          have HD := Lib.hid hd
                          clear hd
                          go_wp2_with fail
                          go_ret
                          exact ⟨by rw [HD.out]; rfl, HF.out⟩
                        · have hd : rightB p l = true := by rw [HYes.out hmb]; exact decide_eq_true (by omega)
                          have HD := Lib.hid hd
                          have hS8' : ((8192 : Int) < (S : Int)) = False := eq_false hS8
                          clear hd hS8
                          go_wp2_with fail
                          go_ret
                          exact ⟨by rw [HD.out]; rfl, HF.out⟩
                      · have hmb : macB p.m = false := by unfold macB; rw [hh, if_pos rfl]; exact decide_eq_false (by omega)
                        have k1 : ((p.m.n : Int) != 16) = true := by simp; omega
                        clear h0 h16
                        have HD := Lib.hid (HNo.out hmb)
                        clear hmb
                        go_wp2_with fail
                        go_ret
                        exact ⟨by rw [HD.out]; rfl, HF.out⟩
                  | false =>
                    rw [hh] at c14
                    by_cases h0 : 0 < p.m.n
                    · have hmb : macB p.m = false := by unfold macB; rw [hh, if_neg (by decide)]; exact decide_eq_false (by omega)
                      have HD := Lib.hid (HNo.out hmb)
                      clear hmb
                      go_wp2_with fail
                      go_ret
                      exact ⟨by rw [HD.out]; rfl, HF.out⟩
                    · have h0' : (0 < p.m.n) = False := eq_false h0
                      by_cases hk : p.m.key = 0
                      · have hmb : macB p.m = true := by unfold macB; rw [hh, if_neg (by decide)]; exact decide_eq_true (by omega)
                        have k1 : ((p.m.key : Int) != 0) = false := by simp; omega
                        clear h0 hk
                        by_cases hS8 : (8192 : Int) < (S : Int)
                        · have hd : rightB p l = false := by rw [HYes.out hmb]; exact decide_eq_false (by omega)
                          have HD := Lib.hid hd
                          clear hd
                          go_wp2_with fail
                          go_ret
                          exact ⟨by rw [HD.out]; rfl, HF.out⟩
                        · have hd : rightB p l = true := by rw [HYes.out hmb]; exact decide_eq_true (by omega)
                          have HD := Lib.hid hd
                          have hS8' : ((8192 : Int) < (S : Int)) = False := eq_false hS8
                          clear hd hS8
                          go_wp2_with fail
                          go_ret
                          exact ⟨by rw [HD.out]; rfl, HF.out⟩
                      · have hmb : macB p.m = false := by unfold macB; rw [hh, if_neg (by decide)]; exact decide_eq_false (by omega)
                        have k1 : ((p.m.key : Int) != 0) = true := by simp; omega
                        clear h0 hk
                        have HD := Lib.hid (HNo.out hmb)
                        clear hmb
                        go_wp2_with fail
                        go_ret
                        exact ⟨by rw [HD.out]; rfl, HF.out⟩
end Go.Proofs.Ythflafcjinpmnaa
