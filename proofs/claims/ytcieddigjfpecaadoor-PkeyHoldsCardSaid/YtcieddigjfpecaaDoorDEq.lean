/- bytes told as a string; bytes.Equal; from nat's bytes to sha's. -/
import Derived.Test.YtcieddigjfpecaaDoorRead
import Derived.Test.YtcieddigjfpecaaDoorSh
import Derived.Laws.BytesArg
namespace Go.Proofs.YtcieddigjfpecaaDoor
open Go.RowKit
set_option linter.unusedVariables false
set_option maxRecDepth 100000

theorem Nb.sh {w : World} {B n c : Nat} {A : Option Addr} {xs : List Nat} (h : Nb w B A n c xs) : Sh.Nb w B A n c xs :=
  ⟨h.len, h.cap, h.rooms.2, h.lim, h.cell⟩
/-- the text of some bytes -/
def bstr (xs : List Nat) : ByteArray := strOfNums (xs.map fun x : Nat => (x : Int))
theorem conv_any {w : World} {B n c : Nat} {A : Option Addr} {xs : List Nat} (h : Sh.Nb w B A n c xs) : (convert 22 9 (.slice A n c)).run Tryd.prog w = .ok (.string (bstr xs)) w := by
  have h9 : Tryd.prog.underlying 9 = some .string := by kernel_rfl
  by_cases h0 : n = 0
  · subst h0
    rw [List.eq_nil_of_length_eq_zero h.len]
    cases A <;> rfl
  · obtain ⟨b, off, rfl, _⟩ := h.cell (by omega)
    refine run_convert_bytes_arg w 22 5 Tryd.underlying22 Tryd.underlying5 b off n c (xs.map fun x : Nat => (x : Int)) (by simp [h.len]) (fun i hi => ?_) 9 h9
    obtain ⟨b', off', e, _, hc⟩ := h.at_ hi
    cases e
    rw [hc]
    have : i < xs.length := by rw [h.len]; exact hi
    simp [List.getD, List.getElem?_eq_getElem this]
theorem eq_self (S : ByteArray) : (S.toList == S.toList) = true := by simp
set_option maxHeartbeats 1000000 in
/-- bytes.Equal -/
theorem equal_any {w : World} {B B2 : Nat} {A A2 : Option Addr} {n c n2 c2 : Nat} {xs ys : List Nat} (h : Sh.Nb w B A n c xs) (h2 : Sh.Nb w B2 A2 n2 c2 ys) :
    Calls Tryd.prog 37 #[.slice A n c, .slice A2 n2 c2] w fun e w' => e = .returned (.bool ((bstr xs).toList == (bstr ys).toList)) ∧ w = w' := by
  have k := conv_any h
  have k2 := conv_any h2
  generalize bstr xs = S at *
  generalize bstr ys = S2 at *
  go_enter Tryd.func37, Tryd.ntmps37
  go_wp2_with fail
  go_ret
  exact ⟨rfl, rfl⟩
end Go.Proofs.YtcieddigjfpecaaDoor
