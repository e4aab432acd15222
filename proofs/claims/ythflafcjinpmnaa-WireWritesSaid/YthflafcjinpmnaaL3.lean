/- law10.WireWrites: its walk. -/
import Derived.Test.YthflafcjinpmnaaW15
import Derived.Test.YthflafcjinpmnaaR18
namespace Go.Proofs.Ythflafcjinpmnaa
open Go.RowKit
set_option linter.unusedVariables false
set_option linter.unusedSimpArgs false
set_option maxRecDepth 100000
theorem wpQuiet_row {P : Program} {ops : Array Oper} {C : World → Prop} {Q : Act → Prop} {rest : List Oper} {o : Oper} {a : Act} (hw : Region.wanted o (yielded ops a.tmps) = true) (ty : TypeId) (x : Operand) (ho : o.op = .load ty x)
    (g : Nat) (hx : a.eval x = .pointer (some ⟨g, 0, none⟩)) (t : TypeId) (cs : Array Value) (fr : Nat × Nat) (d : TypeDesc) (hg : ∀ w, C w → w.heap[g]? = some (.cells cs t fr))
    (hu : P.underlying ty = some d) (hd : (match d with | .struct _ | .array _ _ => true | _ => false) = true) (hi : (P.info? ty).map (·.size) = some cs.size)
    (h : wpQuiet P ops C Q rest (a.put o.dst (.agg cs))) : wpQuiet P ops C Q (o :: rest) a := by
  refine wpQuiet_step fun K hK => ?_
  rw [if_pos hw]
  refine ⟨.agg cs, fun w hC => ?_, hK _ h⟩
  unfold Oper.quietAt execOp
  simp only [ho, hx, Instr.loadAt, Instr.sureAddr, Sem.run_bind, Sem.run_pure, Result.andThen_ok, run_loadVar_row w g t ty cs fr d (hg w hC) hu hd hi]
  exact ⟨rfl, rfl⟩
theorem says_els : ∀ (l k : List El), (∀ x ∈ l, x.has) → (∀ x ∈ k, x.has) → l.map El.says = k.map El.says → l.flatMap extB = k.flatMap extB ∧ szs l = szs k ∧ l.all fieldB = k.all fieldB
  | [], [], _, _, _ => ⟨rfl, rfl, rfl⟩
  | [], _ :: _, _, _, h => by cases h
  | _ :: _, [], _, _, h => by cases h
  | x :: l, y :: k, hl, hk, h => by
    simp only [List.map_cons, List.cons.injEq] at h
    obtain ⟨i1, i2, i3⟩ := says_els l k (fun z hz => hl z (by simp [hz])) (fun z hz => hk z (by simp [hz])) h.2
    have hx := hl x (by simp)
    have hy := hk y (by simp)
    have he := says_ext hx hy h.1
    have hs := h.1
    unfold El.says at hs
    simp only [Prod.mk.injEq] at hs
    obtain ⟨h1, h2, h3, h4, h5, h6, h7, h8⟩ := hs
    have n1 : x.n = y.n := by rw [← hx.n1, ← hy.n1, h7]
    have n2 : x.m = y.m := by rw [← hx.n2, ← hy.n2, h8]
    refine ⟨by rw [List.flatMap_cons, List.flatMap_cons, he, i1], by rw [szs_cons, szs_cons, i2]; unfold szf; rw [n1, n2], ?_⟩
    rw [List.all_cons, List.all_cons, i3]
    unfold fieldB
    rw [h1, h4, n1, n2]
/-- a copy is written as what it was copied from -/
theorem copy_same {p q : Pk} {l els : List El} {ms : List Nat} (h1 : q.h = p.h) (h2 : q.n = p.n) (h3 : q.m.has = p.m.has) (h4 : q.m.key = p.m.key) (h5 : q.m.n = p.m.n) (h6 : els.map El.says = l.map El.says) (hl : ∀ x ∈ l, x.has) (hk : ∀ x ∈ els, x.has) :
    packW q els ms = packW p l ms ∧ rightB q els = rightB p l ∧ szp q els = szp p l ∧ sm q els ms p l ms = true := by
  obtain ⟨i1, i2, i3⟩ := says_els els l hk hl h6
  have hs : szp q els = szp p l := by unfold szp; rw [i2, h3, h5]
  refine ⟨by unfold packW macW; rw [h1, i1, h3, h4], ?_, hs, sm_of h1 h2 hk hl h6 h3 h4 rfl⟩
  unfold rightB macB
  rw [h1, h2, h3, h4, h5, i3, hs]
set_option maxHeartbeats 16000000 in
theorem writes_any {w : World} (p : Pk) (l : List El) (ms : List Nat) (hok : p.ok) (hE : Es w w.heap.size p.A p.n l) (hts : ∀ e ∈ l, e.ts < 4294967296 ∧ e.fs < 4294967296) (hM : Nb w w.heap.size p.m.A p.m.n p.m.c ms) (hsz : p.n ≤ 140737488355328)
    (hsx : ∀ x ∈ l, x.n ≤ 140737488355328 ∧ x.m ≤ 140737488355328) : Calls Try.prog 3 #[pkV p] w fun e w' => e = .returned (.bool true) ∧ RowKit.Below w.heap.size w w' := by
  obtain ⟨W, hW⟩ : ∃ W, W = w.alloc (.cells #[.int .i64 p.h.lp, .int .i64 p.h.ve, .int .i64 p.h.mo, .int .i64 p.h.st, .int .i64 p.h.po, .int .i64 p.h.pr, .int .u32 (p.h.dl : Int), .int .u32 (p.h.di : Int), .int .u32 (p.h.rf : Int), .int .u64 (p.h.re : Int), .int .u64 (p.h.og : Int), .int .u64 (p.h.rc : Int), .int .u64 (p.h.xm : Int), .slice p.A p.n p.c, .bool p.m.has, .int .u32 (p.m.key : Int), .slice p.m.A p.m.n p.m.c] 29) := ⟨_, rfl⟩
  have x1 : PBox W w.heap.size p := by rw [hW]; exact heap_alloc_new w _
  have b0 : RowKit.Below w.heap.size w W := by rw [hW]; exact (Below.refl _ _).alloc (Nat.le_refl _) _
  have HE := Lib.hid (Es.more (hE.below b0 (Nat.le_refl _)) b0.size)
  have HM := Lib.hid (hM.far b0)
  have HX := Lib.hid x1
  have HW := Lib.hid hW
  have HB := Lib.hid b0
  have HOk := Lib.hid hok
  have HTs := Lib.hid hts
  have HHv := Lib.hid (heavy_any2 p l HE.out hsz hsx)
  clear hW x1 b0 hE hM hsz hok hts hsx
  go_enter Try.func3, Try.ntmps3
  go_upto_region 1 with fail
  rw [← HW.out]
  go_wp2_with (refine wpList_load_row rfl 29 (.tmp 1) rfl w.heap.size rfl 29 (pkC p) (0, 0) _ HX.out Try.underlying29 rfl s29 ?_)
  refine HHv.out.mono ?_
  rintro e w1 ⟨⟨hv, rfl, hli⟩, b1⟩
  have HB1 := Lib.hid (bthen HB.out b1 (Nat.le_refl _))
  have HX1 := Lib.hid (HX.out.below b1)
  have HE1 := Lib.hid (Es.more (HE.out.below b1 (Nat.le_refl _)) b1.size)
  have HM1 := Lib.hid (HM.out.far b1)
  have HLi0 := Lib.hid hli
  clear b1 HB HX HE HM HHv HW hli
  cases hv with
  | true =>
    go_wp2_with fail
    refine (alive_any w1).mono ?_
    rintro e we ⟨rfl, be⟩
    have HBe := Lib.hid (bthen HB1.out be (Nat.le_refl _))
    clear be
    go_wp2_with fail
    go_ret
    exact ⟨rfl, HBe.out⟩
  | false =>
    have HLi := Lib.hid (HLi0.out rfl)
    clear HLi0
    have HCo := Lib.hid (copy_any p l ms HE1.out HM1.out HLi.out)
    go_wp2_with (refine wpList_load_row rfl 29 (.tmp 1) rfl w.heap.size rfl 29 (pkC p) (0, 0) _ HX1.out Try.underlying29 rfl s29 ?_)
    refine HCo.out.mono ?_
    rintro e w2 ⟨b2, q, els, rfl, h1, h2, h3, h4, h5, h6, hEq, hMq⟩
    obtain ⟨cs1, cs2, cs3, cs4⟩ := copy_same (ms := ms) h1 h2 h3 h4 h5 h6 HE1.out.has hEq.has
    obtain ⟨V, hV⟩ : ∃ V, V = (w2.alloc (.cells #[.int .i64 0, .int .i64 0, .int .i64 0, .int .i64 0, .int .i64 0, .int .i64 0, .int .u32 0, .int .u32 0, .int .u32 0, .int .u64 0, .int .u64 0, .int .u64 0, .int .u64 0, .slice none 0 0, .bool false, .int .u32 0, .slice none 0 0] 29)).setRow w2.heap.size (pkC q) := ⟨_, rfl⟩
    have pV : PBox V w2.heap.size q := by rw [hV]; exact setRow_heap _ _ _ _ _ _ (heap_alloc_new w2 _)
    have bV : RowKit.Below w2.heap.size w2 V := by rw [hV]; exact below_setRow ((Below.refl _ _).alloc (Nat.le_refl _) _) (Nat.le_refl _) _
    have b1V := bthen b2 bV (Nat.le_refl _)
    have HV := Lib.hid hV
    have HPV := Lib.hid pV
    have HBV := Lib.hid (bthen HB1.out b1V (Nat.le_refl _))
    have HXV := Lib.hid (HX1.out.below b1V)
    have HEV := Lib.hid (Es.more (HE1.out.below b1V (Nat.le_refl _)) b1V.size)
    have HMV := Lib.hid (HM1.out.far b1V)
    have HEqV := Lib.hid (Es.more (hEq.below bV (Nat.le_refl _)) bV.size)
    have HMqV := Lib.hid (hMq.far bV)
    have HP := Lib.hid cs1
    have HRr := Lib.hid cs2
    have HSz := Lib.hid cs3
    have HSm := Lib.hid cs4
    have HQn := Lib.hid (show q.n ≤ 140737488355328 by rw [h2]; have := HLi.out.1; omega)
    clear hV pV bV b1V b2 h1 h2 h3 h4 h5 h6 hEq hMq cs1 cs2 cs3 cs4 HB1 HX1 HE1 HM1 HCo
    have HWr := Lib.hid (write_any q els ms HEqV.out HMqV.out)
    go_wp2_with (first
      | (refine wpList_store_row rfl 29 (.tmp 3) (.tmp 12) rfl w2.heap.size (pkC q) rfl rfl 29 _ (heap_alloc_new w2 _) s29 rfl (pk_all _) ?_; rw [← HV.out])
      | (refine wpList_load_row rfl 29 (.tmp 3) rfl w2.heap.size rfl 29 (pkC q) (0, 0) _ HPV.out Try.underlying29 rfl s29 ?_))
    refine HWr.out.mono ?_
    rintro e w4 (⟨hr, rfl, b4⟩ | ⟨hr, A4, k4, rfl, hg4, b4⟩)
    · have HB4 := Lib.hid (bthen HBV.out b4 (Nat.le_refl _))
      have HX4 := Lib.hid (HXV.out.below b4)
      have HQ4 := Lib.hid (HPV.out.below b4)
      have HE4 := Lib.hid (Es.more (HEV.out.below b4 (Nat.le_refl _)) b4.size)
      have HM4 := Lib.hid (HMV.out.far b4)
      have HEq4 := Lib.hid (Es.more (HEqV.out.below b4 (Nat.le_refl _)) b4.size)
      have HMq4 := Lib.hid (HMqV.out.far b4)
      have HRq := Lib.hid hr
      have HRp := Lib.hid (HRr.out ▸ hr : rightB p l = false)
      clear b4 hr HWr HV HPV HBV HXV HEV HMV HEqV HMqV
      have HWf := Lib.hid (write_ref p l ms HOk.out HE4.out HTs.out HM4.out HLi.out)
      go_wp2_with (refine wpList_load_row rfl 29 (.tmp 1) rfl w.heap.size rfl 29 (pkC p) (0, 0) _ HX4.out Try.underlying29 rfl s29 ?_)
      refine HWf.out.mono ?_
      rintro e w5 (⟨-, rfl, b5⟩ | ⟨hr2, -⟩)
      · have HB5 := Lib.hid (bthen HB4.out b5 (Nat.le_refl _))
        have HX5 := Lib.hid (HX4.out.below b5)
        have HQ5 := Lib.hid (HQ4.out.below b5)
        have HE5 := Lib.hid (Es.more (HE4.out.below b5 (Nat.le_refl _)) b5.size)
        have HM5 := Lib.hid (HM4.out.far b5)
        have HEq5 := Lib.hid (Es.more (HEq4.out.below b5 (Nat.le_refl _)) b5.size)
        have HMq5 := Lib.hid (HMq4.out.far b5)
        clear b5 HWf HB4 HX4 HQ4 HE4 HM4 HEq4 HMq4
        have k3 := eq_self (bstr [])
        have HXp := Lib.hid (fun (z : World) (hz : ∃ pp : Bel w5.heap.size w5, z = pp.w) => (show z.heap[w.heap.size]? = some (.cells (pkC p) 29 (0, 0)) from by obtain ⟨pp, rfl⟩ := hz; exact (pp.h.block _ HX5.out.lt).trans HX5.out))
        have HQp := Lib.hid (fun (z : World) (hz : ∃ pp : Bel w5.heap.size w5, z = pp.w) => (show z.heap[w2.heap.size]? = some (.cells (pkC q) 29 (0, 0)) from by obtain ⟨pp, rfl⟩ := hz; exact (pp.h.block _ HQ5.out.lt).trans HQ5.out))
        have HAl := Lib.hid (fun pp : Bel w5.heap.size w5 => Calls.bel (Nat.le_refl _) pp (alive_any pp.w))
        have HRo := Lib.hid (fun pp : Bel w5.heap.size w5 => Calls.bel (Nat.le_refl _) pp (right_any q els (Es.more (HEq5.out.below pp.h (Nat.le_refl _)) pp.h.size)))
        have HRf := Lib.hid (fun pp : Bel w5.heap.size w5 => Calls.bel (Nat.le_refl _) pp (right_ref p l ms HOk.out (Es.more (HE5.out.below pp.h (Nat.le_refl _)) pp.h.size) HTs.out (HM5.out.far pp.h) HLi.out))
        have HSa := Lib.hid (fun pp : Bel w5.heap.size w5 => Calls.bel (Nat.le_refl _) pp (same_any (w := pp.w) q els ms p l ms (Es.more (HEq5.out.below pp.h (Nat.le_refl _)) pp.h.size) (HMq5.out.far pp.h) (Es.more (HE5.out.below pp.h (Nat.le_refl _)) pp.h.size) (HM5.out.far pp.h) HQn.out))
        have k1 := fun pp : Bel w5.heap.size w5 => conv_zero none 0 pp.w
        have k2 := fun pp : Bel w5.heap.size w5 => conv_zero none 0 pp.w
        rw [HRq.out] at HRo
        rw [HRp.out] at HRf
        rw [HSm.out] at HSa
        unfold erI at HRo HRf
        have HBw := Lib.hid (Below.refl w5.heap.size w5)
        go_upto_region 6 with fail
        refine wp_region_quiet_bel HBw.out (by kernel_rfl) (by kernel_rfl) ?_
        repeat (first
          | (refine wpQuiet_row rfl 29 (.tmp 3) rfl w2.heap.size rfl 29 (pkC q) (0, 0) _ HQp.out Try.underlying29 rfl s29 ?_; simp only [Act.put, List.setIfInBounds_toArray, List.set_cons_succ, List.set_cons_zero])
          | (refine wpQuiet_row rfl 29 (.tmp 1) rfl w.heap.size rfl 29 (pkC p) (0, 0) _ HXp.out Try.underlying29 rfl s29 ?_; simp only [Act.put, List.setIfInBounds_toArray, List.set_cons_succ, List.set_cons_zero])
          | go_big_quiet_step (first | (go_at_call 8; with_reducible exact HAl.out _) | (go_at_call 12; with_reducible exact HRo.out _) | (go_at_call 13; with_reducible exact HRf.out _) | (go_at_call 14; with_reducible exact HSa.out _)))
        refine wpQuiet_nil ?_
        intro _ hw'
        obtain ⟨⟨w6, h6⟩, hw''⟩ := hw'
        subst hw''
        have HB6 := Lib.hid (bthen HB5.out h6 (Nat.le_refl _))
        clear h6 k1 k2
        go_wp2_with fail
        go_ret
        exact ⟨rfl, HB6.out⟩
      · exact absurd hr2 (by rw [HRp.out]; decide)
    · have HB4 := Lib.hid (bthen HBV.out b4 (Nat.le_refl _))
      have HX4 := Lib.hid (HXV.out.below b4)
      have HQ4 := Lib.hid (HPV.out.below b4)
      have HE4 := Lib.hid (Es.more (HEV.out.below b4 (Nat.le_refl _)) b4.size)
      have HM4 := Lib.hid (HMV.out.far b4)
      have HEq4 := Lib.hid (Es.more (HEqV.out.below b4 (Nat.le_refl _)) b4.size)
      have HMq4 := Lib.hid (HMqV.out.far b4)
      have HRq := Lib.hid hr
      have HRp := Lib.hid (HRr.out ▸ hr : rightB p l = true)
      have HN4 := Lib.hid (hg4.nb (packW_lim HEqV.out.has HMqV.out.lim))
      clear b4 hr hg4 HWr HV HPV HBV HXV HEV HMV HEqV HMqV
      have HWf := Lib.hid (write_ref p l ms HOk.out HE4.out HTs.out HM4.out HLi.out)
      generalize hS1 : szp q els = S at *
      go_wp2_with (refine wpList_load_row rfl 29 (.tmp 1) rfl w.heap.size rfl 29 (pkC p) (0, 0) _ HX4.out Try.underlying29 rfl s29 ?_)
      refine HWf.out.mono ?_
      rintro e w5 (⟨hr2, -⟩ | ⟨-, A5, k5, rfl, hg5, b5⟩)
      · exact absurd hr2 (by rw [HRp.out]; decide)
      · have HB5 := Lib.hid (bthen HB4.out b5 (Nat.le_refl _))
        have HX5 := Lib.hid (HX4.out.below b5)
        have HQ5 := Lib.hid (HQ4.out.below b5)
        have HE5 := Lib.hid (Es.more (HE4.out.below b5 (Nat.le_refl _)) b5.size)
        have HM5 := Lib.hid (HM4.out.far b5)
        have HEq5 := Lib.hid (Es.more (HEq4.out.below b5 (Nat.le_refl _)) b5.size)
        have HMq5 := Lib.hid (HMq4.out.far b5)
        have HNa := Lib.hid (HN4.out.far b5)
        have HNb := Lib.hid (hg5.nb (packW_lim HE5.out.has HM5.out.lim))
        rw [HP.out] at HNa
        generalize packW p l ms = X at *
        generalize szp p l = S2 at *
        clear b5 HWf HB4 HX4 HQ4 HE4 HM4 HEq4 HMq4 HN4 hg5 HP HSz hS1
        have k3 := eq_self (bstr X)
        have HXp := Lib.hid (fun (z : World) (hz : ∃ pp : Bel w5.heap.size w5, z = pp.w) => (show z.heap[w.heap.size]? = some (.cells (pkC p) 29 (0, 0)) from by obtain ⟨pp, rfl⟩ := hz; exact (pp.h.block _ HX5.out.lt).trans HX5.out))
        have HQp := Lib.hid (fun (z : World) (hz : ∃ pp : Bel w5.heap.size w5, z = pp.w) => (show z.heap[w2.heap.size]? = some (.cells (pkC q) 29 (0, 0)) from by obtain ⟨pp, rfl⟩ := hz; exact (pp.h.block _ HQ5.out.lt).trans HQ5.out))
        have HAl := Lib.hid (fun pp : Bel w5.heap.size w5 => Calls.bel (Nat.le_refl _) pp (alive_any pp.w))
        have HRo := Lib.hid (fun pp : Bel w5.heap.size w5 => Calls.bel (Nat.le_refl _) pp (right_any q els (Es.more (HEq5.out.below pp.h (Nat.le_refl _)) pp.h.size)))
        have HRf := Lib.hid (fun pp : Bel w5.heap.size w5 => Calls.bel (Nat.le_refl _) pp (right_ref p l ms HOk.out (Es.more (HE5.out.below pp.h (Nat.le_refl _)) pp.h.size) HTs.out (HM5.out.far pp.h) HLi.out))
        have HSa := Lib.hid (fun pp : Bel w5.heap.size w5 => Calls.bel (Nat.le_refl _) pp (same_any (w := pp.w) q els ms p l ms (Es.more (HEq5.out.below pp.h (Nat.le_refl _)) pp.h.size) (HMq5.out.far pp.h) (Es.more (HE5.out.below pp.h (Nat.le_refl _)) pp.h.size) (HM5.out.far pp.h) HQn.out))
        have k1 := fun pp : Bel w5.heap.size w5 => conv_any (HNa.out.below pp.h)
        have k2 := fun pp : Bel w5.heap.size w5 => conv_any (HNb.out.below pp.h)
        rw [HRq.out] at HRo
        rw [HRp.out] at HRf
        rw [HSm.out] at HSa
        unfold erI at HRo HRf
        have HBw := Lib.hid (Below.refl w5.heap.size w5)
        go_upto_region 6 with fail
        refine wp_region_quiet_bel HBw.out (by kernel_rfl) (by kernel_rfl) ?_
        repeat (first
          | (refine wpQuiet_row rfl 29 (.tmp 3) rfl w2.heap.size rfl 29 (pkC q) (0, 0) _ HQp.out Try.underlying29 rfl s29 ?_; simp only [Act.put, List.setIfInBounds_toArray, List.set_cons_succ, List.set_cons_zero])
          | (refine wpQuiet_row rfl 29 (.tmp 1) rfl w.heap.size rfl 29 (pkC p) (0, 0) _ HXp.out Try.underlying29 rfl s29 ?_; simp only [Act.put, List.setIfInBounds_toArray, List.set_cons_succ, List.set_cons_zero])
          | go_big_quiet_step (first | (go_at_call 8; with_reducible exact HAl.out _) | (go_at_call 12; with_reducible exact HRo.out _) | (go_at_call 13; with_reducible exact HRf.out _) | (go_at_call 14; with_reducible exact HSa.out _)))
        refine wpQuiet_nil ?_
        intro _ hw'
        obtain ⟨⟨w6, h6⟩, hw''⟩ := hw'
        subst hw''
        have HB6 := Lib.hid (bthen HB5.out h6 (Nat.le_refl _))
        clear h6 k1 k2
        go_wp2_with fail
        go_ret
        exact ⟨rfl, HB6.out⟩
end Go.Proofs.Ythflafcjinpmnaa
