/- disc: what a law's frame needs; a state that came in. -/
import Derived.Test.YtplfimimoahjdaaD5
import Derived.Test.YtplfimimoahjdaaRows
import Derived.ProofKit
import Derived.OpenShut
import Derived.ChangeOld
import Derived.Stop.Joined
import Derived.Lib.SmallJoins
import Derived.Deep.MidRow
import Derived.Deep.Slices
namespace Go.Proofs.Ytplfimimoahjdaa
open Go.ChangeShapes Go.WideShapes Go.ChangeAt Go.RowKit
set_option linter.unusedVariables false
set_option maxRecDepth 100000
def Yes (w : World) (e : Ending) (w' : World) : Prop := e = .returned (.bool true) ∧ RowKit.Below w.heap.size w w'
theorem own : ownKnob Try.prog.godebug = none := by kernel_rfl
theorem laidOut : laidOutB Try.prog = true := by kernel_rfl
def in64 (n : Int) : Prop := -9223372036854775808 ≤ n ∧ n ≤ 9223372036854775807
theorem in64_wf {a : Int} (w : (Lit.int .i64 a).wf = true) : in64 a := by
  simp [Lit.wf, IntKind.min, IntKind.max, IntKind.signed, IntKind.bits] at w
  unfold in64; omega
def Ck.ok (c : Ck) : Prop := in64 c.f ∧ in64 c.l ∧ in64 c.a ∧ in64 c.p
theorem ck_open {H : Type} {enc : TypeId × Value → H} {W : World} {cs : Array Value} {p : List MemPlace} {d : DataW H} (h : DataW.Trod enc Try.prog W 0 (fun _ => true) true 23 (.agg cs) d p) : ∃ c : Ck, cs = #[.int .i64 c.f, .int .i64 c.l, .int .i64 c.a, .int .i64 c.p, .bool c.s] ∧ c.ok := by
  obtain ⟨fuel, hf⟩ := h
  obtain ⟨xs, n, _, hx, hlen, hl, hf⟩ := DataW.trod_struct Try.underlying23 hf
  match xs, hl with
  | [y0, y1, y2, y3, y4], _ =>
    have h0 := hf 0 _ rfl
    have h1 := hf 1 _ rfl
    have h2 := hf 2 _ rfl
    have h3 := hf 3 _ rfl
    have h4 := hf 4 _ rfl
    obtain ⟨t0, e0, _, w0⟩ := DataW.trod_int Try.underlying2 h0
    obtain ⟨t1, e1, _, w1⟩ := DataW.trod_int Try.underlying2 h1
    obtain ⟨t2, e2, _, w2⟩ := DataW.trod_int Try.underlying2 h2
    obtain ⟨t3, e3, _, w3⟩ := DataW.trod_int Try.underlying3 h3
    obtain ⟨t4, e4, _⟩ := DataW.trod_bool Try.underlying4 h4
    refine ⟨⟨t0, t1, t2, t3, t4⟩, ?_, in64_wf w0, in64_wf w1, in64_wf w2, in64_wf w3⟩
    have hc : Try.prog.cellsOf 23 = 5 := by kernel_rfl
    have hc2 : Try.prog.cellsOf 2 = 1 := by kernel_rfl
    have hc3 : Try.prog.cellsOf 3 = 1 := by kernel_rfl
    have hc4 : Try.prog.cellsOf 4 = 1 := by kernel_rfl
    simp only [Value.cells] at *
    obtain ⟨l⟩ := cs
    rw [hc] at hlen
    match l, hlen with
    | [a, b, c, d, e], _ =>
      simp [hc2, hc3, hc4] at e0 e1 e2 e3 e4
      simp [e0, e1, e2, e3, e4]
end Go.Proofs.Ytplfimimoahjdaa
