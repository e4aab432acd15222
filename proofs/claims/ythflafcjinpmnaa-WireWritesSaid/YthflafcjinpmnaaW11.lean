/- wire: the document's own Mac; between; a packet that is not heavy. -/
import Derived.Test.YthflafcjinpmnaaW10
import Derived.Test.YthflafcjinpmnaaR16
namespace Go.Proofs.Ythflafcjinpmnaa
open Go.RowKit
set_option linter.unusedVariables false
set_option maxRecDepth 100000
theorem between_any (a l m : Int) (w : World) : Calls Try.prog 29 #[.int .i64 a, .int .i64 l, .int .i64 m] w fun e w' => e = .returned (.bool (wi a l m)) ∧ w' = w := by
  by_cases h1 : l ≤ a
  · by_cases h2 : a ≤ m
    · have HV := Lib.hid (show wi a l m = true by unfold wi; exact decide_eq_true ⟨h1, h2⟩)
      go_enter Try.func29, Try.ntmps29
      go_wp2_with fail
      go_ret
      exact ⟨by rw [HV.out]; rfl, rfl⟩
    · have HV := Lib.hid (show wi a l m = false by unfold wi; exact decide_eq_false fun h => h2 h.2)
      have h2' : (a ≤ m) = False := eq_false h2
      clear h2
      go_enter Try.func29, Try.ntmps29
      go_wp2_with fail
      go_ret
      exact ⟨by rw [HV.out]; rfl, rfl⟩
  · have HV := Lib.hid (show wi a l m = false by unfold wi; exact decide_eq_false fun h => h1 h.1)
    have h1' : (l ≤ a) = False := eq_false h1
    clear h1
    go_enter Try.func29, Try.ntmps29
    go_wp2_with fail
    go_ret
    exact ⟨by rw [HV.out]; rfl, rfl⟩
/-- a Mac's bytes -/
def mcB (m : Mc) (ms : List Nat) : List Nat := if m.has then be 4 (m.key : Nat) ++ ms else []
def mcL (m : Mc) : Nat := if m.has then 4 + m.n else 0
set_option maxHeartbeats 2000000 in
theorem mac_ref {w : World} (m : Mc) (ms : List Nat) (hm : Nb w w.heap.size m.A m.n m.c ms) (hk : m.key < 4294967296) (hn : m.n ≤ 4194304) :
    Calls Try.prog 25 #[m.val] w fun e w' => ∃ A c, e = .returned (.slice A (mcL m) c) ∧ Gb w' w.heap.size A (mcL m) c (mcB m ms) ∧ RowKit.Below w.heap.size w w' := by
  obtain ⟨has, key, A, n, c⟩ := m
  dsimp only at hm hk hn
  unfold Mc.val mcL mcB
  dsimp only
  obtain ⟨W, hW⟩ : ∃ W, W = w.alloc (.cells #[.bool has, .int .u32 (key : Int), .slice A n c] 27) := ⟨_, rfl⟩
  have hb : RowKit.Below w.heap.size w W := by rw [hW]; exact (Below.refl _ _).alloc (Nat.le_refl _) _
  have hx : W.heap[w.heap.size]? = some (.cells #[.bool has, .int .u32 (key : Int), .slice A n c] 27 (0, 0)) := by rw [hW]; exact heap_alloc_new w _
  have HX := Lib.hid hx
  have HB := Lib.hid hb
  have HM := Lib.hid (hm.far hb)
  have HN := Lib.hid hn
  have HK := Lib.hid hk
  have HW := Lib.hid hW
  clear hb hx hm hn hk hW
  obtain ⟨c0, c1, c2, -⟩ := box27 HX.out
  cases has with
  | false =>
    go_enter Try.func25, Try.ntmps25
    go_upto_region 1 with fail
    rw [← HW.out]
    go_wp2_with fail
    go_ret
    exact ⟨none, 0, rfl, Gb.nil _ _, HB.out⟩
  | true =>
    have hz : IntKind.u64.wrap (key : Int) = (key : Int) := by rw [IntKind.wrap_u64]; have := HK.out; omega
    have HP := Lib.hid (bstep (w0 := W) (w := W) (base := W.heap.size) (Gb.nil W W.heap.size) (Below.refl _ _) (Nat.le_refl _) 4 (key : Int) (by omega) (by omega) (by omega))
    go_enter Try.func25, Try.ntmps25
    go_upto_region 1 with fail
    rw [← HW.out]
    clear c2
    go_wp2_with fail
    refine HP.out.mono ?_
    rintro e w4 ⟨A4, k4, rfl, hn4, hg4, hb4⟩
    have hbs := hb4.size
    have hlm : 0 + 4 ≤ 1099511627776 := by decide
    clear c0 c1 hz
    go_upto_region 5 with (at_builtin; refine wpList_app_row_b (w0 := W) _ rfl (.tmp 8) (.tmp 12) rfl rfl hg4 rfl hn4 hlm hb4 hbs ?_; intro A5 k5 w5 hg5 hb5)
    have HG5 := Lib.hid hg5
    have HB5 := Lib.hid hb5
    obtain ⟨-, -, c2, -⟩ := box27 ((hb5.block _ (Array.getElem?_eq_some_iff.1 HX.out).1).trans HX.out)
    have hN := (HM.out.below hb5)
    have hbs := hb5.size
    have hlm : 0 + 4 + n ≤ 1099511627776 := by have := HN.out; omega
    clear hg4 hn4 hb4
    go_wp2_with (at_builtin; refine wpList_app_row_b (w0 := W) _ rfl (.tmp 14) (.tmp 16) rfl rfl hg5 rfl hN hlm hb5 hbs ?_; intro A6 k6 w6 hg6 hb6)
    go_ret
    exact ⟨A6, k6, by simp, by simpa using hg6.weak' HB.out.size, bthen HB.out hb6 (Nat.le_refl _)⟩
/-- not heavy -/
def light (p : Pk) (l : List El) : Prop := p.n ≤ 20 ∧ p.m.n ≤ 20000 ∧ ∀ x ∈ l, x.n ≤ 20000 ∧ x.m ≤ 20000
end Go.Proofs.Ythflafcjinpmnaa
