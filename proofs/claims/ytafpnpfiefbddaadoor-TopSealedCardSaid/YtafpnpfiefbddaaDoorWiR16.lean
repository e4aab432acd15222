/- ref10.Heavy, law10.plain. -/
import Derived.Test.YtafpnpfiefbddaaDoorWiR12
namespace Go.Proofs.YtafpnpfiefbddaaDoor.Wi
set_option linter.unusedSimpArgs false
set_option linter.unusedVariables false
open Go.RowKit
set_option linter.unusedVariables false
set_option maxRecDepth 100000
theorem w64_one40 {j : Nat} (h : j ≤ 140737488355328) : wrap64 ((j : Int) + 1) = ((j + 1 : Nat) : Int) := by unfold wrap64; omega
/-- true or false -/
def SomeB (e : Ending) : Prop := ∃ b : Bool, e = .returned (.bool b)
set_option maxHeartbeats 4000000 in
theorem heavy_any {w : World} (p : Pk) (l : List El) (hl : Es w w.heap.size p.A p.n l) (h8 : p.n ≤ 140737488355328) :
    Calls Tryd.prog 4 #[pkV p] w fun e w' => SomeB e ∧ RowKit.Below w.heap.size w w' := by
  obtain ⟨W, hW⟩ : ∃ W, W = w.alloc (.cells #[.int .i64 p.h.lp, .int .i64 p.h.ve, .int .i64 p.h.mo, .int .i64 p.h.st, .int .i64 p.h.po, .int .i64 p.h.pr, .int .u32 (p.h.dl : Int), .int .u32 (p.h.di : Int), .int .u32 (p.h.rf : Int), .int .u64 (p.h.re : Int), .int .u64 (p.h.og : Int), .int .u64 (p.h.rc : Int), .int .u64 (p.h.xm : Int), .slice p.A p.n p.c, .bool p.m.has, .int .u32 (p.m.key : Int), .slice p.m.A p.m.n p.m.c] 29) := ⟨_, rfl⟩
  have x1 : PBox W w.heap.size p := by rw [hW]; exact heap_alloc_new w _
  have hb : RowKit.Below w.heap.size w W := by rw [hW]; exact (Below.refl _ _).alloc (Nat.le_refl _) _
  have HE := Lib.hid (Es.more (hl.below hb (Nat.le_refl _)) hb.size)
  have HX := Lib.hid x1
  have HW := Lib.hid hW
  have HB := Lib.hid hb
  have H8 := Lib.hid h8
  obtain ⟨c0, c1, c2, c3, c4, c5, c6, c7, c8, c9, c10, c11, c12, c13, c14, c15, c16⟩ := x1.cells
  clear hW x1 hb hl h8
  by_cases h1 : (20 : Int) < (p.n : Int)
  · go_enter Tryd.func4, Tryd.ntmps4
    go_upto_region 1 with fail
    rw [← HW.out]
    go_wp2_with fail
    go_ret
    exact ⟨⟨_, rfl⟩, HB.out⟩
  · have h1' : ((20 : Int) < (p.n : Int)) = False := eq_false h1
    by_cases h2 : (20000 : Int) < (p.m.n : Int)
    · go_enter Tryd.func4, Tryd.ntmps4
      go_upto_region 1 with fail
      rw [← HW.out]
      go_wp2_with fail
      go_ret
      exact ⟨⟨_, rfl⟩, HB.out⟩
    · have h2' : ((20000 : Int) < (p.m.n : Int)) = False := eq_false h2
      clear h1 h2
      go_enter Tryd.func4, Tryd.ntmps4
      go_upto_region 1 with fail
      rw [← HW.out]
      go_upto_region 5 with fail
      clear c0 c1 c2 c3 c4 c5 c6 c7 c8 c9 c10 c11 c12 c13 c14 c15 c16 h1' h2' HW
      have HLn := Lib.hid HE.out.1
      go_loopw [3, 4] (fun n i wr => ∃ (j : Nat) (z : Int), j ≤ p.n ∧ i = .int .i64 (j : Int) ∧ n = .int .i64 z ∧ RowKit.Below W.heap.size W wr) (fun _ i _ => (p.n - (match i with | .int _ z => z.toNat | _ => 0)))
      case atStart => exact ⟨0, _, by omega, rfl, rfl, Below.refl _ _⟩
      case round =>
        obtain ⟨j, z, hjn, rfl, rfl, hb⟩ := hrel
        have HB2 := Lib.hid hb
        clear hb
        obtain ⟨c0, c1, c2, c3, c4, c5, c6, c7, c8, c9, c10, c11, c12, c13, c14, c15, c16⟩ := (HX.out.below HB2.out).cells
        clear c0 c1 c2 c3 c4 c5 c6 c7 c8 c9 c10 c11 c12 c14 c15 c16
        by_cases hj : j < p.n
        · have e1 : (j : Int) < (p.n : Int) := by omega
          obtain ⟨x, hx⟩ : ∃ x, l[j]? = some x := ⟨_, List.getElem?_eq_getElem (by have := HLn.out; omega)⟩
          obtain ⟨g, off, hA, hg, hcl⟩ := (Es.more (HE.out.below HB2.out (Nat.le_refl _)) HB2.out.size).2.2.resolve_left (by omega)
          obtain ⟨-, -, -, -, -, -, s6, s7⟩ := hcl j x hx
          have HJ := Lib.hid (⟨hjn, hj⟩ : j ≤ p.n ∧ j < p.n)
          have s0 := w64_one40 (j := j) (by have := HJ.out; have := H8.out; omega)
          rw [hA] at c13
          clear hcl hx hA hj hjn hg
          go_upto_region 7 with fail
          go_quiet (fail)
          generalize hw5 : World.drewN _ _ = w5
          have HB5 := Lib.hid (show RowKit.Below W.heap.size W w5 by rw [← hw5]; exact below_drewN' HB2.out _)
          clear hw5 c13 s6 s7
          obtain ⟨z2, hz2⟩ : ∃ z2, wrap64 (wrap64 (z + (x.n : Int)) + (x.m : Int)) = z2 := ⟨_, rfl⟩
          by_cases h3 : (20000 : Int) < z2
          · rw [← hz2] at h3
            go_wp2_with fail
            go_ret
            exact ⟨⟨_, rfl⟩, bthen HB.out HB5.out (Nat.le_refl _)⟩
          · have h3' : ((20000 : Int) < z2) = False := eq_false h3
            rw [← hz2] at h3'
            clear h3 hz2
            go_wp2_with fail
            have hjs := HJ.out
            exact ⟨⟨j + 1, _, by omega, congrArg (Value.int _) s0, rfl, HB5.out⟩, by show p.n - (wrap64 ((j : Int) + 1)).toNat < p.n - (j : Int).toNat; rw [s0]; omega⟩
        · have e1 : ((j : Int) < (p.n : Int)) = False := by simp only [eq_iff_iff, iff_false]; omega
          go_wp2_with fail
          go_ret
          exact ⟨⟨_, rfl⟩, bthen HB.out HB2.out (Nat.le_refl _)⟩
end Go.Proofs.YtafpnpfiefbddaaDoor.Wi
