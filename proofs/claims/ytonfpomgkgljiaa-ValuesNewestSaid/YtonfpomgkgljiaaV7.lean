/- A value that came in; values.Newer. -/
import Derived.Test.YtonfpomgkgljiaaV6
import Derived.Test.YtonfpomgkgljiaaRows
import Derived.ProofKit
import Derived.OpenShut
import Derived.ChangeOld
import Derived.Stop.Joined
import Derived.Lib.SmallJoins
namespace Go.Proofs.Ytonfpomgkgljiaa
open Go.ChangeShapes Go.WideShapes Go.ChangeAt Go.RowKit
set_option linter.unusedVariables false
set_option maxRecDepth 100000

theorem own : ownKnob Try.prog.godebug = none := by kernel_rfl
theorem laidOut : laidOutB Try.prog = true := by kernel_rfl
def Vv (t f : Nat) (A : Option Addr) (n c : Nat) (A2 : Option Addr) (n2 c2 : Nat) : Value := .agg #[.int .u32 (t : Int), .int .u32 (f : Int), .slice A n c, .slice A2 n2 c2]
theorem val_open {H : Type} {enc : TypeId × Value → H} {W : World} {cs : Array Value} {d : DataW H} {p : List MemPlace} (h : DataW.Trod enc Try.prog W 0 (fun _ => true) true 33 (.agg cs) d p) :
    ∃ t f A n c A2 n2 c2, cs = #[.int .u32 t, .int .u32 f, .slice A n c, .slice A2 n2 c2] := by
  obtain ⟨fuel, hf⟩ := h
  have key : ∀ {fuel : Nat} {c : List Value} {x : DataW H × List MemPlace}, DataW.trod enc Try.prog W 0 (fun _ => true) true fuel 31 c = some x → ∃ A n k, c = [.slice A n k] := fun hh => by
    rcases open_ints Try.underlying31 Try.underlying5 (by kernel_rfl) hh with ⟨hcs, _⟩ | ⟨x, l, c, zs, hcs, _⟩
    · exact ⟨_, _, _, hcs⟩
    · exact ⟨_, _, _, hcs⟩
  obtain ⟨y0, y1, y2, y3, n, _, hlen, h0, h1, h2, h3⟩ := Joins.trod_struct4 Try.underlying33 hf
  obtain ⟨t, e0, _⟩ := DataW.trod_int Try.underlying30 h0
  obtain ⟨f, e1, _⟩ := DataW.trod_int Try.underlying30 h1
  obtain ⟨A, n1, c1, e2⟩ := key h2
  obtain ⟨A2, n2, c2, e3⟩ := key h3
  refine ⟨t, f, A, n1, c1, A2, n2, c2, ?_⟩
  have hc : Try.prog.cellsOf 33 = 4 := by kernel_rfl
  have hc1 : Try.prog.cellsOf 31 = 1 := by kernel_rfl
  have hc2 : Try.prog.cellsOf 30 = 1 := by kernel_rfl
  rw [hc] at hlen
  simp only [Value.cells] at hlen e0 e1 e2 e3
  obtain ⟨l⟩ := cs
  match l, hlen with
  | [a, b, c, d], _ =>
    simp [hc1, hc2] at e0 e1 e2 e3
    rw [e0, e1, e2, e3]
/-- is (t, f) newer than (t', f')? -/
def nw (t f t' f' : Int) : Bool := decide (f' < f) || (decide (f = f') && decide (t' < t))
set_option maxHeartbeats 1000000 in
theorem newer_any (t f t' f' : Int) (A : Option Addr) (n c : Nat) (A2 : Option Addr) (n2 c2 : Nat) (A' : Option Addr) (n' c' : Nat) (A2' : Option Addr) (n2' c2' : Nat) (w : World) :
    Calls Try.prog 24 #[.agg #[.int .u32 t, .int .u32 f, .slice A n c, .slice A2 n2 c2], .agg #[.int .u32 t', .int .u32 f', .slice A' n' c', .slice A2' n2' c2']] w fun e w' => e = .returned (.bool (nw t f t' f')) ∧ Below w.heap.size w w' := by
  have b2 : ∀ X Y : Obj, Below w.heap.size w ((w.alloc X).alloc Y) := fun X Y => ((Below.refl _ _).alloc (Nat.le_refl _) _).alloc (by simp) _
  have HN := Lib.hid (show nw t f t' f' = (decide (f' < f) || (decide (f = f') && decide (t' < t))) from rfl)
  by_cases h1 : f' < f
  · have h1' : decide (f' < f) = true := by simp [h1]
    go_enter Try.func24, Try.ntmps24
    go_wp2
    go_ret
    exact ⟨by rw [HN.out]; simp [h1], b2 _ _⟩
  · by_cases h2 : f = f'
    · subst h2
      have h3 : nw t f t' f = decide (t' < t) := by rw [HN.out]; simp
      clear HN
      have h1' : decide (f < f) = false := by simp
      go_enter Try.func24, Try.ntmps24
      go_wp2
      go_ret
      exact ⟨rfl, b2 _ _⟩
    · have h1' : decide (f' < f) = false := by simp [h1]
      go_enter Try.func24, Try.ntmps24
      go_wp2
      go_ret
      exact ⟨by rw [HN.out]; simp [h1, h2], b2 _ _⟩
end Go.Proofs.Ytonfpomgkgljiaa
