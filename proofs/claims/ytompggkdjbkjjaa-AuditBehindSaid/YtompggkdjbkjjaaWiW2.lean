/- wire: packets, fields and Macs as values; which may be. -/
import Derived.Test.YtompggkdjbkjjaaWiW1
namespace Go.Proofs.Ytompggkdjbkjjaa.Wi
open Go.RowKit
set_option linter.unusedVariables false
set_option maxRecDepth 100000
/-- a number within bounds -/
def wi (a l m : Int) : Bool := decide (l ≤ a ∧ a ≤ m)
theorem within_any (a l m : Int) (w : World) : Calls Try.prog 54 #[.int .i64 a, .int .i64 l, .int .i64 m] w fun e w' => e = .returned (.bool (wi a l m)) ∧ w' = w := by
  go_enter Try.func54, Try.ntmps54
  by_cases h1 : l ≤ a
  · by_cases h2 : a ≤ m
    · have HV := Lib.hid (show wi a l m = true from decide_eq_true ⟨h1, h2⟩)
      go_wp2_with fail
      go_ret
      exact ⟨by rw [HV.out]; rfl, rfl⟩
    · have HV := Lib.hid (show wi a l m = false from decide_eq_false fun q => h2 q.2)
      have h2' : (a ≤ m) = False := by simp only [h2]
      go_wp2_with fail
      go_ret
      exact ⟨by rw [HV.out]; rfl, rfl⟩
  · have HV := Lib.hid (show wi a l m = false from decide_eq_false fun q => h1 q.1)
    have h1' : (l ≤ a) = False := by simp only [h1]
    go_wp2_with fail
    go_ret
    exact ⟨by rw [HV.out]; rfl, rfl⟩
/-- what a packet has ahead of its fields -/
structure Hd where
  (lp ve mo st po pr : Int)
  (dl di rf : Nat)
  (re og rc xm : Nat)
def Hd.pre (h : Hd) : List Value := [.int .i64 h.lp, .int .i64 h.ve, .int .i64 h.mo, .int .i64 h.st, .int .i64 h.po, .int .i64 h.pr, .int .u32 (h.dl : Int), .int .u32 (h.di : Int), .int .u32 (h.rf : Int), .int .u64 (h.re : Int), .int .u64 (h.og : Int), .int .u64 (h.rc : Int), .int .u64 (h.xm : Int)]
/-- a Mac -/
structure Mc where
  has : Bool
  key : Nat
  (A : Option Addr)
  (n c : Nat)
def Mc.val (m : Mc) : Value := .agg #[.bool m.has, .int .u32 (m.key : Int), .slice m.A m.n m.c]
/-- a packet: its head, its row of fields, its Mac -/
structure Pk where
  h : Hd
  (A : Option Addr)
  (n c : Nat)
  m : Mc
abbrev pkV (p : Pk) : Value := .agg #[.int .i64 p.h.lp, .int .i64 p.h.ve, .int .i64 p.h.mo, .int .i64 p.h.st, .int .i64 p.h.po, .int .i64 p.h.pr, .int .u32 (p.h.dl : Int), .int .u32 (p.h.di : Int), .int .u32 (p.h.rf : Int), .int .u64 (p.h.re : Int), .int .u64 (p.h.og : Int), .int .u64 (p.h.rc : Int), .int .u64 (p.h.xm : Int), .slice p.A p.n p.c, .bool p.m.has, .int .u32 (p.m.key : Int), .slice p.m.A p.m.n p.m.c]
/-- may a packet be of this Version and Mode? -/
def kindB (h : Hd) : Bool := decide (h.ve = 4) && wi h.mo 1 5
theorem kind_any (p : Pk) (w : World) : Calls Try.prog 44 #[pkV p] w fun e w' => e = .returned (.bool (kindB p.h)) ∧ RowKit.Below w.heap.size w w' := by
  by_cases h1 : p.h.ve = 4
  · obtain ⟨b, hb⟩ : ∃ b, b = wi p.h.mo 1 5 := ⟨_, rfl⟩
    have HV := Lib.hid (show kindB p.h = b by unfold kindB; rw [decide_eq_true h1, hb]; simp)
    have HW := Lib.hid (fun w => (hb ▸ within_any p.h.mo 1 5 w : Calls Try.prog 54 #[.int .i64 p.h.mo, .int .i64 1, .int .i64 5] w fun e w' => e = .returned (.bool b) ∧ w' = w))
    clear hb
    go_enter Try.func44, Try.ntmps44
    go_wp2_with fail
    refine (HW.out _).mono ?_
    rintro e w1 ⟨rfl, rfl⟩
    go_wp2_with fail
    go_ret
    exact ⟨by rw [HV.out]; rfl, (Below.refl _ _).alloc (Nat.le_refl _) _⟩
  · have HV := Lib.hid (show kindB p.h = false by unfold kindB; rw [decide_eq_false h1]; rfl)
    have h1' : (p.h.ve == 4) = false := by simpa using h1
    have h1'' : (p.h.ve = 4) = False := by simp only [h1]
    go_enter Try.func44, Try.ntmps44
    go_wp2_with fail
    go_ret
    exact ⟨by rw [HV.out]; rfl, (Below.refl _ _).alloc (Nat.le_refl _) _⟩
theorem stratum_any (a : Int) (w : World) : Calls Try.prog 45 #[.int .i64 a] w fun e w' => e = .returned (.bool (wi a 0 16)) ∧ w' = w := by
  go_enter Try.func45, Try.ntmps45
  go_wp2_with fail
  refine (within_any _ _ _ _).mono ?_
  rintro e w1 ⟨rfl, rfl⟩
  go_wp2_with fail
  go_ret
  exact ⟨rfl, rfl⟩
theorem poll_any (a : Int) (w : World) : Calls Try.prog 46 #[.int .i64 a] w fun e w' => e = .returned (.bool (wi a 0 17)) ∧ w' = w := by
  go_enter Try.func46, Try.ntmps46
  go_wp2_with fail
  refine (within_any _ _ _ _).mono ?_
  rintro e w1 ⟨rfl, rfl⟩
  go_wp2_with fail
  go_ret
  exact ⟨rfl, rfl⟩
/-- a packet in a box -/
def PBox (w : World) (g : Nat) (p : Pk) : Prop := w.heap[g]? = some (.cells #[.int .i64 p.h.lp, .int .i64 p.h.ve, .int .i64 p.h.mo, .int .i64 p.h.st, .int .i64 p.h.po, .int .i64 p.h.pr, .int .u32 (p.h.dl : Int), .int .u32 (p.h.di : Int), .int .u32 (p.h.rf : Int), .int .u64 (p.h.re : Int), .int .u64 (p.h.og : Int), .int .u64 (p.h.rc : Int), .int .u64 (p.h.xm : Int), .slice p.A p.n p.c, .bool p.m.has, .int .u32 (p.m.key : Int), .slice p.m.A p.m.n p.m.c] 79 (0, 0))
theorem PBox.lt {w : World} {g : Nat} {p : Pk} (h : PBox w g p) : g < w.heap.size := (Array.getElem?_eq_some_iff.1 h).1
theorem PBox.below {w w' : World} {g : Nat} {p : Pk} (h : PBox w g p) (b : RowKit.Below w.heap.size w w') : PBox w' g p := (b.block g h.lt).trans h
theorem PBox.cells {w : World} {g : Nat} {p : Pk} (h : PBox w g p) : w.cell? ⟨g, 0, none⟩ = some (.int .i64 p.h.lp) ∧ w.cell? ⟨g, 1, none⟩ = some (.int .i64 p.h.ve) ∧ w.cell? ⟨g, 2, none⟩ = some (.int .i64 p.h.mo) ∧ w.cell? ⟨g, 3, none⟩ = some (.int .i64 p.h.st) ∧ w.cell? ⟨g, 4, none⟩ = some (.int .i64 p.h.po) ∧ w.cell? ⟨g, 5, none⟩ = some (.int .i64 p.h.pr) ∧ w.cell? ⟨g, 6, none⟩ = some (.int .u32 (p.h.dl : Int)) ∧ w.cell? ⟨g, 7, none⟩ = some (.int .u32 (p.h.di : Int)) ∧ w.cell? ⟨g, 8, none⟩ = some (.int .u32 (p.h.rf : Int)) ∧ w.cell? ⟨g, 9, none⟩ = some (.int .u64 (p.h.re : Int)) ∧ w.cell? ⟨g, 10, none⟩ = some (.int .u64 (p.h.og : Int)) ∧ w.cell? ⟨g, 11, none⟩ = some (.int .u64 (p.h.rc : Int)) ∧ w.cell? ⟨g, 12, none⟩ = some (.int .u64 (p.h.xm : Int)) ∧ w.cell? ⟨g, 13, none⟩ = some (.slice p.A p.n p.c) ∧ w.cell? ⟨g, 14, none⟩ = some (.bool p.m.has) ∧ w.cell? ⟨g, 15, none⟩ = some (.int .u32 (p.m.key : Int)) ∧ w.cell? ⟨g, 16, none⟩ = some (.slice p.m.A p.m.n p.m.c) := by
  have h' : w.heap[g]? = _ := h
  refine ⟨?_, ?_, ?_, ?_, ?_, ?_, ?_, ?_, ?_, ?_, ?_, ?_, ?_, ?_, ?_, ?_, ?_⟩ <;> simp [World.cell?, h']
/-- may a packet have such a head? -/
def headB (h : Hd) : Bool := wi h.lp 0 3 && (kindB h && (wi h.st 0 16 && (wi h.po 0 17 && wi h.pr (-128) 127)))

/-- a Mac that may be -/
def macB (m : Mc) : Bool := if m.has then decide (m.n = 0 ∨ m.n = 16) else decide (m.key = 0 ∧ m.n = 0)

end Go.Proofs.Ytompggkdjbkjjaa.Wi
