/- top08: TopSets' walk. -/
import Derived.Test.YtbkcoijcoacbaaaT2
import Derived.Deep.RegionHeld3
namespace Go.Proofs.Ytbkcoijcoacbaaa
open Go.RowKit
set_option linter.unusedVariables false
set_option maxRecDepth 100000
theorem tmod36 (n : Int) : -68719476736 < n.tmod 68719476736 ∧ n.tmod 68719476736 < 68719476736 := by
  have := Int.natAbs_tmod n 68719476736
  have h := Nat.mod_lt n.natAbs (show 0 < 68719476736 by decide)
  have e : (68719476736 : Int).natAbs = 68719476736 := rfl
  rw [e] at this
  omega
theorem and15 (n : Int) : bits .and .i64 n 15 = n % 16 := by
  have h1 : (BitVec.ofInt 64 15).toNat = 2 ^ 4 - 1 := by decide
  have key : (BitVec.ofInt 64 n &&& BitVec.ofInt 64 15).toNat = (n % ((2 ^ 64 : Nat) : Int)).toNat % 2 ^ 4 := by
    rw [BitVec.toNat_and, BitVec.toNat_ofInt, h1, Nat.and_two_pow_sub_one_eq_mod]
  show IntKind.i64.wrap ((BitVec.ofInt 64 n &&& BitVec.ofInt 64 15).toNat : Nat) = n % 16
  rw [key, IntKind.wrap_i64]
  omega
set_option maxHeartbeats 4000000 in
theorem sets_law (t o way wait poll : Int) (w : World) :
    Calls Try.prog 4 #[.int .u64 t, .int .i64 o, .int .i64 way, .int .i64 wait, .int .i64 poll] w fun e w' => e = .returned (.bool true) ∧ RowKit.Below w.heap.size w w' := by
  have HP := Lib.hid (and15 poll)
  go_enter Try.func4, Try.ntmps4
  go_wp2_with fail
  refine (near_any _ _).mono ?_
  rintro e w ⟨rfl, rfl⟩
  obtain ⟨O, hO⟩ : ∃ O, O = o.tmod 68719476736 := ⟨_, rfl⟩
  have o1 : -68719476736 < O ∧ O < 68719476736 := hO ▸ tmod36 o
  rw [← hO]
  clear hO
  go_wp2_with fail
  refine (some_any _ _).mono ?_
  rintro e w ⟨rfl, rfl⟩
  obtain ⟨Y, hY⟩ : ∃ Y, Y = way % 68719476736 := ⟨_, rfl⟩
  have y1 : 0 ≤ Y ∧ Y < 68719476736 := by omega
  have y2 : Y % 68719476736 = Y := by omega
  rw [← hY]
  clear hY
  have HY := Lib.hid y1
  have HO := Lib.hid o1
  have HS := Lib.hid (show (2 * O + Y % 68719476736 - Y % 68719476736) / 2 = O ∧ Y % 68719476736 + Y % 68719476736 = 2 * Y by omega)
  clear y1 y2 o1
  go_wp2_with fail
  refine (sample_any _ _ _ _ _ (by have := HO.out; omega) (by have := HO.out; omega) _).mono ?_
  rintro e w2 ⟨rfl, b2⟩
  rw [HS.out.1, HS.out.2]
  have HB2 := Lib.hid b2
  clear b2
  go_wp2_with fail
  obtain ⟨W, hW⟩ : ∃ W, W = w2.alloc (Obj.cells #[Value.int IntKind.i64 O, Value.int IntKind.i64 (2 * Y), Value.int IntKind.i64 0, Value.int IntKind.i64 0] 34) := ⟨_, rfl⟩
  have x1 : Fi.Box W w2.heap.size ⟨O, 2 * Y, 0, 0⟩ := by rw [hW]; exact World.alloc_heap_new w2 _
  have hb : RowKit.Below w.heap.size w W := by rw [hW]; exact HB2.out.alloc HB2.out.size _
  obtain ⟨g, hg⟩ : ∃ g, g = w2.heap.size := ⟨_, rfl⟩
  have hgl : w.heap.size ≤ g := by rw [hg]; exact HB2.out.size
  rw [← hW]
  rw [← hg] at x1 ⊢
  clear hW hg HB2
  have X1 := Lib.hid x1
  have HB := Lib.hid hb
  have HG := Lib.hid hgl
  obtain ⟨c0, c1, _, _⟩ := x1.cells
  clear x1 hb hgl
  refine (some_any _ _).mono ?_
  rintro e W ⟨rfl, rfl⟩
  obtain ⟨Z, hZ⟩ : ∃ Z, Z = wait % 68719476736 := ⟨_, rfl⟩
  have z1 : 0 ≤ Z ∧ Z < 68719476736 := by omega
  rw [← hZ]
  clear hZ
  have HZ := Lib.hid z1
  have u1 : wrap64 (2 * Y) = 2 * Y := by have := HY.out; unfold wrap64; omega
  have u2 : wrap64 (2 * Y + Z) = 2 * Y + Z := by have := HY.out; unfold wrap64; omega
  have U1 := Lib.hid u1
  clear z1
  go_wp2_with fail
  clear u2
  refine (move_same _ _ _).mono ?_
  rintro e W ⟨rfl, rfl⟩
  obtain ⟨T, hT⟩ : ∃ T, T = St.mv t (2 * Y + Z) := ⟨_, rfl⟩
  rw [← hT]
  clear hT
  obtain ⟨P, hP⟩ : ∃ P, P = poll % 16 := ⟨_, rfl⟩
  have HPP := Lib.hid (show bits BinOp.and IntKind.i64 poll 15 = P ∧ 0 ≤ P ∧ P ≤ 15 by rw [hP]; exact ⟨HP.out, by omega, by omega⟩)
  clear hP HP
  go_wp2_with fail
  rw [HPP.out.1]
  refine (Di.upd_new (f := 0) (l := 0) (a := 0) (p := P) (o := O) (t := 0) (by have := HPP.out; unfold Di.Ck.may Di.inB; dsimp only; omega) (by have := HO.out; unfold Di.inB; omega) (by unfold Di.inB; omega) W).mono ?_
  rintro e w5 ⟨rfl, b5⟩
  have HB5 := Lib.hid (bthen HB.out b5 (Nat.le_refl _))
  have X5 := Lib.hid (show Fi.Box w5 g ⟨O, 2 * Y, 0, 0⟩ from (b5.block g X1.out.lt).trans X1.out)
  clear b5 X1 c0 c1
  simp only [Di.Ck.val]
  go_wp2_with fail
  obtain ⟨W5, hW5⟩ : ∃ W5, W5 = (w5.alloc (Obj.cells #[Value.int IntKind.i64 0, Value.int IntKind.i64 0, Value.int IntKind.i64 0, Value.int IntKind.i64 P, Value.bool true] 45)).alloc (Obj.cells #[Value.int IntKind.i64 1, Value.int IntKind.i64 O] 47) := ⟨_, rfl⟩
  have es : (w5.alloc (Obj.cells #[Value.int IntKind.i64 0, Value.int IntKind.i64 0, Value.int IntKind.i64 0, Value.int IntKind.i64 P, Value.bool true] 45)).heap.size = w5.heap.size + 1 := by show (w5.heap.push _).size = _; simp
  have hb : RowKit.Below w.heap.size w W5 := by rw [hW5]; exact (HB5.out.alloc HB5.out.size _).alloc (by have := HB5.out.size; omega) _
  have gr : RowKit.Below w5.heap.size w5 W5 := by rw [hW5]; exact ((Below.refl _ _).alloc (Nat.le_refl _) _).alloc (by omega) _
  have x1 : Fi.Box W5 g ⟨O, 2 * Y, 0, 0⟩ := (gr.block g X5.out.lt).trans X5.out
  have x2 : W5.heap[w5.heap.size]? = some (.cells #[.int .i64 0, .int .i64 0, .int .i64 0, .int .i64 P, .bool true] 45 (0, 0)) := by
    rw [hW5]
    exact ((World.grownBy_alloc (w5.alloc (Obj.cells #[Value.int IntKind.i64 0, Value.int IntKind.i64 0, Value.int IntKind.i64 0, Value.int IntKind.i64 P, Value.bool true] 45)) _ none).block w5.heap.size (by omega) (by simp)).trans (World.alloc_heap_new w5 _)
  have x3 : Di.Tb W5 (w5.heap.size + 1) 1 O := by rw [hW5, ← es]; exact World.alloc_heap_new _ _
  have lg : g < W5.heap.size := x1.lt
  have lk : w5.heap.size < W5.heap.size := (Array.getElem?_eq_some_iff.1 x2).1
  have lt' : w5.heap.size + 1 < W5.heap.size := x3.lt
  obtain ⟨c0, c1, _, _⟩ := x1.cells
  have c2 : W5.cell? ⟨w5.heap.size, 4, none⟩ = some (.bool true) := by simp [World.cell?, x2]
  obtain ⟨c3, c4⟩ := x3.cells
  rw [← hW5]
  obtain ⟨k, hk⟩ : ∃ k, k = w5.heap.size := ⟨_, rfl⟩
  rw [← hk] at c2 c3 c4 lk lt' ⊢
  have HBW := Lib.hid hb
  have HL := Lib.hid (And.intro lg (And.intro lk lt'))
  have U2 := Lib.hid (show St.df (St.mv T O) T = O by have := HO.out; unfold St.df St.mv; omega)
  have u1 := U1.out
  have u3 : IntKind.i64.wrap (2 * Y) = 2 * Y := by have := HY.out; rw [IntKind.wrap_i64]; omega
  clear x1 x2 x3 gr es hW5 hk hb lg lk lt' X5 HB5
  go_region_held3 (fun w' => w'.cell? ⟨g, 0, none⟩ = some (.int .i64 O) ∧ w'.cell? ⟨g, 1, none⟩ = some (.int .i64 (2 * Y)) ∧ w'.cell? ⟨k, 4, none⟩ = some (.bool true) ∧ w'.cell? ⟨k + 1, 0, none⟩ = some (.int .i64 1) ∧ w'.cell? ⟨k + 1, 1, none⟩ = some (.int .i64 O) ∧ RowKit.Below w.heap.size w w')
    (first | exact ⟨c0, c1, c2, c3, c4, below_drewN' HBW.out 1⟩ | exact ⟨d0, d1, d2, d3, d4, hbn⟩ | (go_split_ands; assumption))
    (first
    | (go_at_call 6; refine (alive_any _).mono ?_; rintro e wn ⟨rfl, bn⟩
       have d0 : wn.cell? ⟨g, 0, none⟩ = some (.int .i64 O) := (bn.cell (p := ⟨g, 0, none⟩) HL.out.1).trans c0
       have d1 : wn.cell? ⟨g, 1, none⟩ = some (.int .i64 (2 * Y)) := (bn.cell (p := ⟨g, 1, none⟩) HL.out.1).trans c1
       have d2 : wn.cell? ⟨k, 4, none⟩ = some (.bool true) := (bn.cell (p := ⟨k, 4, none⟩) HL.out.2.1).trans c2
       have d3 : wn.cell? ⟨k + 1, 0, none⟩ = some (.int .i64 1) := (bn.cell (p := ⟨k + 1, 0, none⟩) HL.out.2.2).trans c3
       have d4 : wn.cell? ⟨k + 1, 1, none⟩ = some (.int .i64 O) := (bn.cell (p := ⟨k + 1, 1, none⟩) HL.out.2.2).trans c4
       have hbn : RowKit.Below w.heap.size w wn := (below_drewN' HBW.out 1).trans (bn.mono (below_drewN' HBW.out 1).size)
       clear bn
       dsimp only)
    | (go_at_call 14; refine (move_same _ _ _).mono ?_; rintro e wn ⟨rfl, rfl⟩; dsimp only)
    | (go_at_call 16; refine ((St.diff_any _ _ _).mono fun _ _ ⟨he, hw⟩ => (⟨he, hw.symm⟩ : _ ∧ _)).mono ?_; rintro e wn ⟨rfl, rfl⟩; dsimp only))
  rw [U2.out]
  go_wp2_with fail
  go_ret
  exact ⟨by simp, hbn⟩
end Go.Proofs.Ytbkcoijcoacbaaa
