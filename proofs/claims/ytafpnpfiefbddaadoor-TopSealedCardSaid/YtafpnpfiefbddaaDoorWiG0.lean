/- A region that draws its order, walked once: its operations read, its calls leave what lay below B as it was. -/
import Derived.Test.YtafpnpfiefbddaaDoorWiW1
import Derived.BigQuiet
import Derived.Below
namespace Go.Proofs.YtafpnpfiefbddaaDoor.Wi
set_option linter.unusedSimpArgs false
set_option linter.unusedVariables false
open Go.RowKit
set_option linter.unusedVariables false

/-- a world that differs from w0 at blocks from B on alone -/
structure Bel (B : Nat) (w0 : World) where
  w : World
  h : Below B w0 w
instance (B : Nat) (w0 : World) : Inhabited (Bel B w0) := ⟨⟨w0, Below.refl _ _⟩⟩
theorem wp_region_quiet_bel {P : Program} {id : Nat} {Q : Exit → Act → World → Prop} {a : Act} {w : World} {l : List Oper} {B : Nat} {w0 : World} (hw : Below B w0 w) (hm : P.follows .mixedOrders = true) (hB : Region.lexB .any l.toArray = true)
    (h : wpQuiet P l.toArray (fun w' => ∃ p : Bel B w0, w' = p.w) (fun a' => ∀ w', (∃ p : Bel B w0, w' = p.w) → Q .normal a' w') l a) : (Code.region id l.toArray true).wp P Q a w :=
  wp_region_quiet (C := fun w' => ∃ p : Bel B w0, w' = p.w) hm hB ⟨⟨_, hw.drew⟩, rfl⟩ (by simpa using h)
theorem Calls.bel {P : Program} {f : FuncId} {args : Array Value} {B : Nat} {w0 : World} (hB : B ≤ w0.heap.size) (p : Bel B w0) {v : Value} (h : Calls P f args p.w fun e w' => e = .returned v ∧ Below p.w.heap.size p.w w') :
    Calls P f args p.w fun e w' => e = .returned v ∧ ∃ q : Bel B w0, w' = q.w :=
  h.mono fun _ _ ⟨he, hb⟩ => ⟨he, ⟨⟨_, p.h.trans (hb.mono (Nat.le_trans hB p.h.size))⟩, rfl⟩⟩
theorem Calls.bel_same {P : Program} {f : FuncId} {args : Array Value} {B : Nat} {w0 : World} (p : Bel B w0) {v : Value} (h : Calls P f args p.w fun e w' => e = .returned v ∧ w' = p.w) :
    Calls P f args p.w fun e w' => e = .returned v ∧ ∃ q : Bel B w0, w' = q.w :=
  h.mono fun _ _ ⟨he, hb⟩ => ⟨he, ⟨p, hb⟩⟩
end Go.Proofs.YtafpnpfiefbddaaDoor.Wi
