/- plane: closures over a factor; points scaled. -/
import Derived.Test.YtbkcoijcoacbaaaPlP3
import Derived.RangeFuncBox
namespace Go.Proofs.Ytbkcoijcoacbaaa.Pl
open Go.RowKit
set_option maxRecDepth 100000
set_option linter.unusedVariables false
def okF (r c : Nat) : Prop := r < 18446744073709551616 ∧ al r c
theorem mean1_any (x k : Nat) (g : Addr) (w : World) (hg : w.cell? g = some (.float .f64 k)) :
    Calls Try.prog 41 #[.float .f64 x, .pointer (some g)] w fun e w' => (∃ r, e = .returned (.float .f64 r) ∧ okF r (fc .quo x k)) ∧ ∃ n, w' = w.drewN n := by
  go_enter Try.func41, Try.ntmps41
  go_wp2_with fail
  go_ret
  exact ⟨⟨_, rfl, fv_al ..⟩, _, rfl⟩
theorem both_any (fid : FuncId) (g : Addr) (k : Nat) (f : Nat → Nat) (hr : ∀ args w, (callFunc fid args).run Try.prog w = .ok (.enter fid args) w)
    (hc : ∀ x w, w.cell? g = some (.float .f64 k) → Calls Try.prog fid #[.float .f64 x, .pointer (some g)] w fun e w' => (∃ r, e = .returned (.float .f64 r) ∧ okF r (f x)) ∧ ∃ n, w' = w.drewN n)
    (x y : Nat) (w : World) (hg : w.cell? g = some (.float .f64 k)) :
    Calls Try.prog 39 #[.complex .f64 x y, .func (.func fid) #[] #[.pointer (some g)]] w fun e w' => (∃ r s, e = .returned (.complex .f64 r s) ∧ okF r (f x) ∧ okF s (f y)) ∧ ∃ n, w' = w.drewN n := by
  go_enter Try.func39, Try.ntmps39
  go_wp2_with fail
  refine (hc _ _ hg).mono ?_
  rintro e w1 ⟨⟨r, rfl, hr1⟩, n1, rfl⟩
  have H1 := Lib.hid hr1
  clear hr1
  have hg1 : (w.drewN n1).cell? g = some (.float .f64 k) := by rw [World.cell?_drewN]; exact hg
  go_wp2_with fail
  refine (hc _ _ hg1).mono ?_
  rintro e w1 ⟨⟨s, rfl, hr1⟩, n2, rfl⟩
  have H2 := Lib.hid hr1
  clear hr1
  go_wp2_with fail
  go_ret
  exact ⟨⟨_, _, rfl, H1.out, H2.out⟩, _, rfl⟩
theorem enter_of {f : FuncId} {fn : Func} (hf : Try.prog.funcs[f]? = some fn) (hname : (fn.name == "runtime.NumGoroutine") = false) (hb : fn.body.isSome = true) (args : Array Value) (w : World) : (callFunc f args).run Try.prog w = .ok (.enter f args) w := by
  have h1 : fn.name ≠ "runtime.NumGoroutine" := by simpa using hname
  obtain ⟨b, h2⟩ := Option.isSome_iff_exists.1 hb
  simp [callFunc, hf, h1, h2]
theorem enter39 (args : Array Value) (w : World) : (callFunc 41 args).run Try.prog w = .ok (.enter 41 args) w := enter_of Try.func41 (by kernel_rfl) (by kernel_rfl) args w
end Go.Proofs.Ytbkcoijcoacbaaa.Pl
