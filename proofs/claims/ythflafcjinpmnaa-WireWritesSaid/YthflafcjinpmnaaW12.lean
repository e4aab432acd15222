/- ref10.Heavy: what is not heavy is light. -/
import Derived.Test.YthflafcjinpmnaaW11
namespace Go.Proofs.Ythflafcjinpmnaa
open Go.RowKit
set_option linter.unusedVariables false
set_option maxRecDepth 100000
/-- heavy, or light -/
def HvP (p : Pk) (l : List El) (e : Ending) : Prop := ∃ b : Bool, e = .returned (.bool b) ∧ (b = false → light p l)
set_option maxHeartbeats 4000000 in
theorem heavy_any2 {w : World} (p : Pk) (l : List El) (hl : Es w w.heap.size p.A p.n l) (h8 : p.n ≤ 140737488355328) (h9 : ∀ x ∈ l, x.n ≤ 140737488355328 ∧ x.m ≤ 140737488355328) :
    Calls Try.prog 7 #[pkV p] w fun e w' => HvP p l e ∧ RowKit.Below w.heap.size w w' := by
  obtain ⟨W, hW⟩ : ∃ W, W = w.alloc (.cells #[.int .i64 p.h.lp, .int .i64 p.h.ve, .int .i64 p.h.mo, .int .i64 p.h.st, .int .i64 p.h.po, .int .i64 p.h.pr, .int .u32 (p.h.dl : Int), .int .u32 (p.h.di : Int), .int .u32 (p.h.rf : Int), .int .u64 (p.h.re : Int), .int .u64 (p.h.og : Int), .int .u64 (p.h.rc : Int), .int .u64 (p.h.xm : Int), .slice p.A p.n p.c, .bool p.m.has, .int .u32 (p.m.key : Int), .slice p.m.A p.m.n p.m.c] 29) := ⟨_, rfl⟩
  have x1 : PBox W w.heap.size p := by rw [hW]; exact heap_alloc_new w _
  have hb : RowKit.Below w.heap.size w W := by rw [hW]; exact (Below.refl _ _).alloc (Nat.le_refl _) _
  have HE := Lib.hid (Es.more (hl.below hb (Nat.le_refl _)) hb.size)
  have HX := Lib.hid x1
  have HW := Lib.hid hW
  have HB := Lib.hid hb
  have H8 := Lib.hid h8
  have H9 := Lib.hid h9
  obtain ⟨c0, c1, c2, c3, c4, c5, c6, c7, c8, c9, c10, c11, c12, c13, c14, c15, c16⟩ := x1.cells
  clear hW x1 hb hl h8 h9
  by_cases h1 : (20 : Int) < (p.n : Int)
  · go_enter Try.func7, Try.ntmps7
    go_upto_region 1 with fail
    rw [← HW.out]
    go_wp2_with fail
    go_ret
    exact ⟨⟨true, rfl, (fun h => by cases h)⟩, HB.out⟩
  · have h1' : ((20 : Int) < (p.n : Int)) = False := eq_false h1
    by_cases h2 : (20000 : Int) < (p.m.n : Int)
    · go_enter Try.func7, Try.ntmps7
      go_upto_region 1 with fail
      rw [← HW.out]
      go_wp2_with fail
      go_ret
      exact ⟨⟨true, rfl, (fun h => by cases h)⟩, HB.out⟩
    · have h2' : ((20000 : Int) < (p.m.n : Int)) = False := eq_false h2
      have HL1 := Lib.hid (⟨by omega, by omega⟩ : p.n ≤ 20 ∧ p.m.n ≤ 20000)
      clear h1 h2
      go_enter Try.func7, Try.ntmps7
      go_upto_region 1 with fail
      rw [← HW.out]
      go_upto_region 5 with fail
      clear c0 c1 c2 c3 c4 c5 c6 c7 c8 c9 c10 c11 c12 c13 c14 c15 c16 h1' h2' HW
      have HLn := Lib.hid HE.out.1
      go_loopw [3, 4] (fun n i wr => ∃ (j : Nat) (z : Nat), j ≤ p.n ∧ i = .int .i64 (j : Int) ∧ n = .int .i64 (z : Int) ∧ Hid (z ≤ 20000 ∧ ∀ x ∈ l.take j, x.n ≤ 20000 ∧ x.m ≤ 20000) ∧ RowKit.Below W.heap.size W wr) (fun _ i _ => (p.n - (match i with | .int _ z => z.toNat | _ => 0)))
      case atStart => exact ⟨0, _, by omega, rfl, rfl, Lib.hid ⟨HL1.out.2, (fun x hx => by cases hx)⟩, Below.refl _ _⟩
      case round =>
        obtain ⟨j, z, hjn, rfl, rfl, HA, hb⟩ := hrel
        have HB2 := Lib.hid hb
        clear hb
        obtain ⟨c0, c1, c2, c3, c4, c5, c6, c7, c8, c9, c10, c11, c12, c13, c14, c15, c16⟩ := (HX.out.below HB2.out).cells
        clear c0 c1 c2 c3 c4 c5 c6 c7 c8 c9 c10 c11 c12 c14 c15 c16
        by_cases hj : j < p.n
        · have e1 : (j : Int) < (p.n : Int) := by omega
          obtain ⟨x, hx⟩ : ∃ x, l[j]? = some x := ⟨_, List.getElem?_eq_getElem (by have := HLn.out; omega)⟩
          obtain ⟨g, off, hA, hg, hcl⟩ := (Es.more (HE.out.below HB2.out (Nat.le_refl _)) HB2.out.size).2.2.resolve_left (by omega)
          obtain ⟨-, -, -, -, -, -, s6, s7⟩ := hcl j x hx
          have HXl := Lib.hid (H9.out x (List.mem_of_getElem? hx))
          have HTk := Lib.hid (show l.take (j + 1) = l.take j ++ [x] by rw [List.take_add_one, hx]; rfl)
          have HJ := Lib.hid (⟨hjn, hj⟩ : j ≤ p.n ∧ j < p.n)
          have s0 := w64_one40 (j := j) (by have := HJ.out; have := H8.out; omega)
          rw [hA] at c13
          clear hcl hx hA hj hjn hg
          go_upto_region 7 with fail
          go_quiet (fail)
          generalize hw5 : World.drewN _ _ = w5
          have HB5 := Lib.hid (show RowKit.Below W.heap.size W w5 by rw [← hw5]; exact below_drewN' HB2.out _)
          clear hw5 c13 s6 s7
          have s1 : wrap64 ((z : Int) + (x.n : Int)) = ((z + x.n : Nat) : Int) := by have := HXl.out; have := HA.out.1; unfold wrap64; omega
          have s2 : wrap64 (((z + x.n : Nat) : Int) + (x.m : Int)) = ((z + x.n + x.m : Nat) : Int) := by have := HXl.out; have := HA.out.1; unfold wrap64; omega
          rw [s1, s2]
          obtain ⟨z2, hz2⟩ : ∃ z2, z2 = z + x.n + x.m := ⟨_, rfl⟩
          rw [← hz2]
          have HZ2 := Lib.hid hz2
          clear s1 s2 hz2
          by_cases h3 : (20000 : Int) < (z2 : Int)
          · go_wp2_with fail
            go_ret
            exact ⟨⟨true, rfl, (fun h => by cases h)⟩, bthen HB.out HB5.out (Nat.le_refl _)⟩
          · have h3' : ((20000 : Int) < (z2 : Int)) = False := eq_false h3
            have H3 := Lib.hid (show z2 ≤ 20000 by omega)
            clear h3
            go_wp2_with fail
            have hjs := HJ.out
            refine ⟨⟨j + 1, z2, by omega, congrArg (Value.int _) s0, rfl, Lib.hid ⟨H3.out, fun y hy => ?_⟩, HB5.out⟩, by show p.n - (wrap64 ((j : Int) + 1)).toNat < p.n - (j : Int).toNat; rw [s0]; omega⟩
            rw [HTk.out] at hy
            rcases List.mem_append.1 hy with hy | hy
            · exact HA.out.2 y hy
            · simp at hy; subst hy
              have := HZ2.out; have := H3.out
              omega
        · have e1 : ((j : Int) < (p.n : Int)) = False := by simp only [eq_iff_iff, iff_false]; omega
          go_wp2_with fail
          go_ret
          exact ⟨⟨false, rfl, fun _ => ⟨HL1.out.1, HL1.out.2, fun x hx => HA.out.2 x (by rw [List.take_of_length_le (by have := HLn.out; omega)]; exact hx)⟩⟩, bthen HB.out HB2.out (Nat.le_refl _)⟩
end Go.Proofs.Ythflafcjinpmnaa
