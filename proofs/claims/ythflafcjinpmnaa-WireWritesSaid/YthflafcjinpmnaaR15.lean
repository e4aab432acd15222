/- ref10.Same: do two packets say the same? -/
import Derived.Test.YthflafcjinpmnaaR14
import Derived.Test.YthflafcjinpmnaaG0
namespace Go.Proofs.Ythflafcjinpmnaa
open Go.RowKit
set_option linter.unusedVariables false
set_option maxRecDepth 100000
def sxs (l k : List El) : Bool := (l.zip k).all fun z => sx z.1 z.2
def sm (p : Pk) (l : List El) (ms : List Nat) (q : Pk) (k : List El) (ns : List Nat) : Bool := (!(p.h.lp != q.h.lp) && (!(p.h.ve != q.h.ve) && (!(p.h.mo != q.h.mo) && (!(p.h.st != q.h.st) && (!(p.h.po != q.h.po) && (!(p.h.pr != q.h.pr) && (!((p.h.dl : Int) != (q.h.dl : Int)) && (!((p.h.di : Int) != (q.h.di : Int)) && (!((p.h.rf : Int) != (q.h.rf : Int)) && (!((p.h.re : Int) != (q.h.re : Int)) && (!((p.h.og : Int) != (q.h.og : Int)) && (!((p.h.rc : Int) != (q.h.rc : Int)) && (!((p.h.xm : Int) != (q.h.xm : Int)) && (!((p.n : Int) != (q.n : Int)) && (sxs l k && ((p.m.has == q.m.has) && (((p.m.key : Int) == (q.m.key : Int)) && ((bstr ms).toList == (bstr ns).toList))))))))))))))))))
theorem zip_get {l k : List El} {j : Nat} {x y : El} (hx : l[j]? = some x) (hy : k[j]? = some y) : (l.zip k)[j]? = some (x, y) := by
  rw [List.getElem?_zip_eq_some]; exact ⟨hx, hy⟩
theorem all_no {α : Type} {L : List α} {f : α → Bool} {j : Nat} {x : α} (h : L[j]? = some x) (hf : f x = false) : L.all f = false :=
  List.all_eq_false.2 ⟨x, List.mem_of_getElem? h, by rw [hf]; decide⟩
theorem all_yes {α : Type} {L : List α} {f : α → Bool} {j : Nat} {x : α} (h : L[j]? = some x) (ha : (L.take j).all f = true) (hf : f x = true) : (L.take (j + 1)).all f = true := by
  rw [List.take_add_one, h, List.all_append, ha]
  simp [hf]
theorem w64_one40 {j : Nat} (h : j ≤ 140737488355328) : wrap64 ((j : Int) + 1) = ((j + 1 : Nat) : Int) := by unfold wrap64; omega
set_option maxHeartbeats 8000000 in
theorem same_any {w : World} (p : Pk) (l : List El) (ms : List Nat) (q : Pk) (k : List El) (ns : List Nat) (hl : Es w w.heap.size p.A p.n l) (hm : Nb w w.heap.size p.m.A p.m.n p.m.c ms) (hk : Es w w.heap.size q.A q.n k) (hn : Nb w w.heap.size q.m.A q.m.n q.m.c ns) (h8 : p.n ≤ 140737488355328) :
    Calls Try.prog 14 #[pkV p, pkV q] w fun e w' => e = .returned (.bool (sm p l ms q k ns)) ∧ RowKit.Below w.heap.size w w' := by
  obtain ⟨W1, hW1⟩ : ∃ W, W = w.alloc (.cells #[.int .i64 p.h.lp, .int .i64 p.h.ve, .int .i64 p.h.mo, .int .i64 p.h.st, .int .i64 p.h.po, .int .i64 p.h.pr, .int .u32 (p.h.dl : Int), .int .u32 (p.h.di : Int), .int .u32 (p.h.rf : Int), .int .u64 (p.h.re : Int), .int .u64 (p.h.og : Int), .int .u64 (p.h.rc : Int), .int .u64 (p.h.xm : Int), .slice p.A p.n p.c, .bool p.m.has, .int .u32 (p.m.key : Int), .slice p.m.A p.m.n p.m.c] 29) := ⟨_, rfl⟩
  obtain ⟨W, hW⟩ : ∃ W, W = W1.alloc (.cells #[.int .i64 q.h.lp, .int .i64 q.h.ve, .int .i64 q.h.mo, .int .i64 q.h.st, .int .i64 q.h.po, .int .i64 q.h.pr, .int .u32 (q.h.dl : Int), .int .u32 (q.h.di : Int), .int .u32 (q.h.rf : Int), .int .u64 (q.h.re : Int), .int .u64 (q.h.og : Int), .int .u64 (q.h.rc : Int), .int .u64 (q.h.xm : Int), .slice q.A q.n q.c, .bool q.m.has, .int .u32 (q.m.key : Int), .slice q.m.A q.m.n q.m.c] 29) := ⟨_, rfl⟩
  have hb1 : RowKit.Below w.heap.size w W1 := by rw [hW1]; exact (Below.refl _ _).alloc (Nat.le_refl _) _
  have hb : RowKit.Below w.heap.size w W := by rw [hW]; exact hb1.alloc hb1.size _
  have hs1 : W1.heap.size = w.heap.size + 1 := by rw [hW1]; simp
  have x1 : PBox W1 w.heap.size p := by rw [hW1]; exact heap_alloc_new w _
  have x2 : PBox W w.heap.size p := by rw [hW]; exact (Below.heap_alloc _ _ _ (by omega)).trans x1
  have y2 : PBox W (w.heap.size + 1) q := by rw [hW, ← hs1]; exact heap_alloc_new W1 _
  have HEl := Lib.hid (Es.more (hl.below hb (Nat.le_refl _)) hb.size)
  have HEk := Lib.hid (Es.more (hk.below hb (Nat.le_refl _)) hb.size)
  have HM := Lib.hid (hm.far hb)
  have HN := Lib.hid (hn.far hb)
  have HX := Lib.hid x2
  have HY := Lib.hid y2
  obtain ⟨c0, c1, c2, c3, c4, c5, c6, c7, c8, c9, c10, c11, c12, c13, c14, c15, c16⟩ := x2.cells
  obtain ⟨d0, d1, d2, d3, d4, d5, d6, d7, d8, d9, d10, d11, d12, d13, d14, d15, d16⟩ := y2.cells
  have HW := Lib.hid (hW1 ▸ hW)
  have HB := Lib.hid hb
  have H8 := Lib.hid h8
  clear hW1 hW hb1 hb hs1 x1 x2 y2 hl hk hm hn h8
  obtain ⟨b0, e0⟩ : ∃ b, (p.h.lp != q.h.lp) = b := ⟨_, rfl⟩
  obtain ⟨b1, e1⟩ : ∃ b, (p.h.ve != q.h.ve) = b := ⟨_, rfl⟩
  obtain ⟨b2, e2⟩ : ∃ b, (p.h.mo != q.h.mo) = b := ⟨_, rfl⟩
  obtain ⟨b3, e3⟩ : ∃ b, (p.h.st != q.h.st) = b := ⟨_, rfl⟩
  obtain ⟨b4, e4⟩ : ∃ b, (p.h.po != q.h.po) = b := ⟨_, rfl⟩
  obtain ⟨b5, e5⟩ : ∃ b, (p.h.pr != q.h.pr) = b := ⟨_, rfl⟩
  have HV := Lib.hid (show sm p l ms q k ns = (!b0 && (!b1 && (!b2 && (!b3 && (!b4 && (!b5 && (!((p.h.dl : Int) != (q.h.dl : Int)) && (!((p.h.di : Int) != (q.h.di : Int)) && (!((p.h.rf : Int) != (q.h.rf : Int)) && (!((p.h.re : Int) != (q.h.re : Int)) && (!((p.h.og : Int) != (q.h.og : Int)) && (!((p.h.rc : Int) != (q.h.rc : Int)) && (!((p.h.xm : Int) != (q.h.xm : Int)) && (!((p.n : Int) != (q.n : Int)) && (sxs l k && ((p.m.has == q.m.has) && (((p.m.key : Int) == (q.m.key : Int)) && ((bstr ms).toList == (bstr ns).toList)))))))))))))))))) by unfold sm; rw [e0, e1, e2, e3, e4, e5])
  cases b0 with
  | true =>
    clear e1 e2 e3 e4 e5
    go_enter Try.func14, Try.ntmps14
    go_upto_region 1 with fail
    rw [← HW.out]
    go_wp2_with fail
    go_ret
    exact ⟨by rw [HV.out]; rfl, HB.out⟩
  | false =>
    cases b1 with
    | true =>
      clear e2 e3 e4 e5
      go_enter Try.func14, Try.ntmps14
      go_upto_region 1 with fail
      rw [← HW.out]
      go_wp2_with fail
      go_ret
      exact ⟨by rw [HV.out]; rfl, HB.out⟩
    | false =>
      cases b2 with
      | true =>
        clear e3 e4 e5
        go_enter Try.func14, Try.ntmps14
        go_upto_region 1 with fail
        rw [← HW.out]
        go_wp2_with fail
        go_ret
        exact ⟨by rw [HV.out]; rfl, HB.out⟩
      | false =>
        cases b3 with
        | true =>
          clear e4 e5
          go_enter Try.func14, Try.ntmps14
          go_upto_region 1 with fail
          rw [← HW.out]
          go_wp2_with fail
          go_ret
          exact ⟨by rw [HV.out]; rfl, HB.out⟩
        | false =>
          cases b4 with
          | true =>
            clear e5
            go_enter Try.func14, Try.ntmps14
            go_upto_region 1 with fail
            rw [← HW.out]
            go_wp2_with fail
            go_ret
            exact ⟨by rw [HV.out]; rfl, HB.out⟩
          | false =>
            cases b5 with
            | true =>
              go_enter Try.func14, Try.ntmps14
              go_upto_region 1 with fail
              rw [← HW.out]
              go_wp2_with fail
              go_ret
              exact ⟨by rw [HV.out]; rfl, HB.out⟩
            | false =>
              go_enter Try.func14, Try.ntmps14
              go_upto_region 1 with fail
              rw [← HW.out]
              go_upto_region 3 with fail
              clear e0 e1 e2 e3 e4 e5
              obtain ⟨f0, g0⟩ : ∃ b, ((p.h.dl : Int) != (q.h.dl : Int)) = b := ⟨_, rfl⟩
              obtain ⟨f1, g1⟩ : ∃ b, ((p.h.di : Int) != (q.h.di : Int)) = b := ⟨_, rfl⟩
              obtain ⟨f2, g2⟩ : ∃ b, ((p.h.rf : Int) != (q.h.rf : Int)) = b := ⟨_, rfl⟩
              obtain ⟨f3, g3⟩ : ∃ b, ((p.h.re : Int) != (q.h.re : Int)) = b := ⟨_, rfl⟩
              obtain ⟨f4, g4⟩ : ∃ b, ((p.h.og : Int) != (q.h.og : Int)) = b := ⟨_, rfl⟩
              obtain ⟨f5, g5⟩ : ∃ b, ((p.h.rc : Int) != (q.h.rc : Int)) = b := ⟨_, rfl⟩
              obtain ⟨f6, g6⟩ : ∃ b, ((p.h.xm : Int) != (q.h.xm : Int)) = b := ⟨_, rfl⟩
              obtain ⟨f7, g7⟩ : ∃ b, ((p.n : Int) != (q.n : Int)) = b := ⟨_, rfl⟩
              rw [g0, g1, g2, g3, g4, g5, g6, g7] at HV
              cases f0 with
              | true =>
                clear g1 g2 g3 g4 g5 g6 g7
                go_wp2_with fail
                go_ret
                exact ⟨by rw [HV.out]; rfl, HB.out⟩
              | false =>
                cases f1 with
                | true =>
                  clear g2 g3 g4 g5 g6 g7
                  go_wp2_with fail
                  go_ret
                  exact ⟨by rw [HV.out]; rfl, HB.out⟩
                | false =>
                  cases f2 with
                  | true =>
                    clear g3 g4 g5 g6 g7
                    go_wp2_with fail
                    go_ret
                    exact ⟨by rw [HV.out]; rfl, HB.out⟩
                  | false =>
                    cases f3 with
                    | true =>
                      clear g4 g5 g6 g7
                      go_wp2_with fail
                      go_ret
                      exact ⟨by rw [HV.out]; rfl, HB.out⟩
                    | false =>
                      cases f4 with
                      | true =>
                        clear g5 g6 g7
                        go_wp2_with fail
                        go_ret
                        exact ⟨by rw [HV.out]; rfl, HB.out⟩
                      | false =>
                        cases f5 with
                        | true =>
                          clear g6 g7
                          go_wp2_with fail
                          go_ret
                          exact ⟨by rw [HV.out]; rfl, HB.out⟩
                        | false =>
                          cases f6 with
                          | true =>
                            clear g7
                            go_wp2_with fail
                            go_ret
                            exact ⟨by rw [HV.out]; rfl, HB.out⟩
                          | false =>
                            cases f7 with
                            | true =>
                              go_wp2_with fail
                              go_ret
                              exact ⟨by rw [HV.out]; rfl, HB.out⟩
                            | false =>
                              have hnn : p.n = q.n := by have := g7; simp only [bne_eq_false_iff_eq] at this; omega
                              go_upto_region 6 with fail
                              clear g0 g1 g2 g3 g4 g5 g6 g7 c0 c1 c2 c3 c4 c5 c6 c7 c8 c9 c10 c11 c12 c13 c14 c15 c16 d0 d1 d2 d3 d4 d5 d6 d7 d8 d9 d10 d11 d12 d13 d14 d15 d16
                              have HV2 := Lib.hid (show sm p l ms q k ns = (sxs l k && ((p.m.has == q.m.has) && (((p.m.key : Int) == (q.m.key : Int)) && ((bstr ms).toList == (bstr ns).toList)))) from HV.out)
                              have HLl := Lib.hid (HEl.out.1)
                              have HLk := Lib.hid (HEk.out.1)
                              have HNN := Lib.hid hnn
                              clear HV hnn HW
                              go_loopw [5] (fun i wr => ∃ j : Nat, j ≤ p.n ∧ i = .int .i64 (j : Int) ∧ Hid (((l.zip k).take j).all (fun z => sx z.1 z.2) = true) ∧ RowKit.Below W.heap.size W wr) (fun i _ => (p.n - (match i with | .int _ z => z.toNat | _ => 0)))
                              case atStart => exact ⟨0, by omega, rfl, Lib.hid rfl, Below.refl _ _⟩
                              case round =>
                                obtain ⟨j, hjn, rfl, HA, hb⟩ := hrel
                                have HB2 := Lib.hid hb
                                clear hb
                                obtain ⟨c0, c1, c2, c3, c4, c5, c6, c7, c8, c9, c10, c11, c12, c13, c14, c15, c16⟩ := (HX.out.below HB2.out).cells
                                obtain ⟨d0, d1, d2, d3, d4, d5, d6, d7, d8, d9, d10, d11, d12, d13, d14, d15, d16⟩ := (HY.out.below HB2.out).cells
                                by_cases hj : j < p.n
                                · have e1 : (j : Int) < (p.n : Int) := by omega
                                  have e2 : (j : Int) < (q.n : Int) := by have := HNN.out; omega
                                  obtain ⟨x, hx⟩ : ∃ x, l[j]? = some x := ⟨_, List.getElem?_eq_getElem (by have := HLl.out; omega)⟩
                                  obtain ⟨y, hy⟩ : ∃ y, k[j]? = some y := ⟨_, List.getElem?_eq_getElem (by have := HLk.out; have := HNN.out; omega)⟩
                                  have hEl : Es wr wr.heap.size p.A p.n l := Es.more (HEl.out.below HB2.out (Nat.le_refl _)) HB2.out.size
                                  have hEk : Es wr wr.heap.size q.A q.n k := Es.more (HEk.out.below HB2.out (Nat.le_refl _)) HB2.out.size
                                  have HSx := Lib.hid (fun pp : Bel wr.heap.size wr => Calls.bel (Nat.le_refl _) pp (sx_any (w := pp.w) (B := wr.heap.size) x y (((hEl.2.1 x (List.mem_of_getElem? hx)).1).below pp.h) (((hEl.2.1 x (List.mem_of_getElem? hx)).2).below pp.h) (((hEk.2.1 y (List.mem_of_getElem? hy)).1).below pp.h) (((hEk.2.1 y (List.mem_of_getElem? hy)).2).below pp.h) pp.h.size))
                                  obtain ⟨g, off, hA, hg, hcl⟩ := hEl.2.2.resolve_left (by omega)
                                  obtain ⟨g', off', hA', hg', hcl'⟩ := hEk.2.2.resolve_left (by have := HNN.out; omega)
                                  have HT := Lib.hid (zip_get hx hy)
                                  have kp : ∀ (pp : Bel wr.heap.size wr) (b o : Nat) (v : Value), b < wr.heap.size → wr.cell? ⟨b, o, none⟩ = some v → pp.w.cell? ⟨b, o, none⟩ = some v := fun pp b o v hb h => (pp.h.cell (p := ⟨b, o, none⟩) hb).trans h
                                  have qc : ∀ pp : Bel wr.heap.size wr, pp.w.cell? ⟨w.heap.size, 13, none⟩ = some (.slice p.A p.n p.c) := fun pp => kp pp _ _ _ (HX.out.below HB2.out).lt c13
                                  have qd : ∀ pp : Bel wr.heap.size wr, pp.w.cell? ⟨w.heap.size + 1, 13, none⟩ = some (.slice q.A q.n q.c) := fun pp => kp pp _ _ _ (HY.out.below HB2.out).lt d13
                                  obtain ⟨r0, r1, r2, r3, r4, r5, r6, r7⟩ := hcl j x hx
                                  obtain ⟨s0, s1, s2, s3, s4, s5, s6, s7⟩ := hcl' j y hy
                                  have u0 := fun pp : Bel wr.heap.size wr => kp pp _ _ _ hg r0
                                  have v0 := fun pp : Bel wr.heap.size wr => kp pp _ _ _ hg' s0
                                  have u1 := fun pp : Bel wr.heap.size wr => kp pp _ _ _ hg r1
                                  have v1 := fun pp : Bel wr.heap.size wr => kp pp _ _ _ hg' s1
                                  have u2 := fun pp : Bel wr.heap.size wr => kp pp _ _ _ hg r2
                                  have v2 := fun pp : Bel wr.heap.size wr => kp pp _ _ _ hg' s2
                                  have u3 := fun pp : Bel wr.heap.size wr => kp pp _ _ _ hg r3
                                  have v3 := fun pp : Bel wr.heap.size wr => kp pp _ _ _ hg' s3
                                  have u4 := fun pp : Bel wr.heap.size wr => kp pp _ _ _ hg r4
                                  have v4 := fun pp : Bel wr.heap.size wr => kp pp _ _ _ hg' s4
                                  have u5 := fun pp : Bel wr.heap.size wr => kp pp _ _ _ hg r5
                                  have v5 := fun pp : Bel wr.heap.size wr => kp pp _ _ _ hg' s5
                                  have u6 := fun pp : Bel wr.heap.size wr => kp pp _ _ _ hg r6
                                  have v6 := fun pp : Bel wr.heap.size wr => kp pp _ _ _ hg' s6
                                  have u7 := fun pp : Bel wr.heap.size wr => kp pp _ _ _ hg r7
                                  have v7 := fun pp : Bel wr.heap.size wr => kp pp _ _ _ hg' s7
                                  clear r0 r1 r2 r3 r4 r5 r6 r7 s0 s1 s2 s3 s4 s5 s6 s7 kp hcl hcl' hx hy hEl hEk d0 d1 d2 d3 d4 d5 d6 d7 d8 d9 d10 d11 d12  d14 d15 d16 c0 c1 c2 c3 c4 c5 c6 c7 c8 c9 c10 c11 c12  c14 c15 c16
                                  rw [hA] at qc c13
                                  rw [hA'] at qd d13
                                  generalize hsx : sx x y = b at *
                                  have HSv := Lib.hid hsx
                                  have HJ := Lib.hid (⟨hjn, hj⟩ : j ≤ p.n ∧ j < p.n)
                                  have HBw := Lib.hid (Below.refl wr.heap.size wr)
                                  clear hsx hA hA' hj hjn hg hg'
                                  have s0 := w64_one40 (j := j) (by have := HJ.out; have := H8.out; omega)
                                  go_upto_region 8 with fail
                                  refine wp_region_quiet_bel HBw.out (by kernel_rfl) (by kernel_rfl) ?_
                                  repeat (go_big_quiet_step (first | (go_at_call 30; with_reducible exact HSx.out _)))
                                  refine wpQuiet_nil ?_
                                  intro _ hw'
                                  obtain ⟨⟨w5, h5⟩, hw''⟩ := hw'
                                  subst hw''
                                  have HB5 := Lib.hid (bthen HB2.out h5 (Nat.le_refl _))
                                  clear qc qd u0 u1 u2 u3 u4 u5 u6 u7 v0 v1 v2 v3 v4 v5 v6 v7 h5
                                  cases b with
                                  | true =>
                                    go_wp2_with fail
                                    have hjs := HJ.out
                                    exact ⟨⟨j + 1, by omega, congrArg (Value.int _) s0, Lib.hid (all_yes HT.out HA.out HSv.out), HB5.out⟩, by show p.n - (wrap64 ((j : Int) + 1)).toNat < p.n - (j : Int).toNat; rw [s0]; omega⟩
                                  | false =>
                                    go_wp2_with fail
                                    go_ret
                                    exact ⟨by rw [HV2.out, show sxs l k = false from all_no HT.out HSv.out]; rfl, bthen HB.out HB5.out (Nat.le_refl _)⟩
                                · have e1 : ((j : Int) < (p.n : Int)) = False := by simp only [eq_iff_iff, iff_false]; omega
                                  have HAL := Lib.hid (show sxs l k = true by
                                    have h := HA.out
                                    rwa [List.take_of_length_le (by rw [List.length_zip]; have := HLl.out; omega)] at h)
                                  have k1 := conv_any (HM.out.below HB2.out)
                                  have k2 := conv_any (HN.out.below HB2.out)
                                  have HF := Lib.hid (bthen HB.out HB2.out (Nat.le_refl _))
                                  clear HEl HEk HA hj
                                  obtain ⟨b1, e2⟩ : ∃ b, (p.m.has == q.m.has) = b := ⟨_, rfl⟩
                                  obtain ⟨b2, e3⟩ : ∃ b, ((p.m.key : Int) == (q.m.key : Int)) = b := ⟨_, rfl⟩
                                  obtain ⟨b3, e4⟩ : ∃ b, ((bstr ms).toList == (bstr ns).toList) = b := ⟨_, rfl⟩
                                  rw [HAL.out, e2, e3, e4] at HV2
                                  cases b1 with
                                  | false =>
                                    clear e3 e4
                                    go_wp2_with fail
                                    go_ret
                                    exact ⟨by rw [HV2.out]; rfl, HF.out⟩
                                  | true =>
                                    cases b2 with
                                    | false =>
                                      clear e4
                                      go_wp2_with fail
                                      go_ret
                                      exact ⟨by rw [HV2.out]; rfl, HF.out⟩
                                    | true =>
                                      go_wp2_with fail
                                      go_ret
                                      exact ⟨by rw [HV2.out]; rfl, HF.out⟩
end Go.Proofs.Ythflafcjinpmnaa
