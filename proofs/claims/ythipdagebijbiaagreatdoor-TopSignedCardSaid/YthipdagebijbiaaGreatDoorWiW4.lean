/- wire: Right. -/
import Derived.Test.YthipdagebijbiaaGreatDoorWi
namespace Go.Proofs.YthipdagebijbiaaGreatDoor.Wi
set_option linter.unusedSimpArgs false
set_option linter.unusedVariables false
open Go.RowKit
set_option linter.unusedVariables false
set_option maxRecDepth 100000
/-- is a packet right? -/
def rightB (p : Pk) (l : List El) : Bool := headB p.h && (macB p.m && (decide (p.n ≤ 8) && (l.all fieldB && decide (szp p l ≤ 8192))))
def erI (b : Bool) : Int := if b then 0 else 3
theorem mac_lim {m : Mc} (h : macB m = true) : m.n ≤ 16 := by
  unfold macB at h
  split at h <;> simp at h <;> omega
theorem field_lim {x : El} (h : fieldB x = true) : x.n ≤ 2048 ∧ x.m ≤ 2048 := by
  unfold fieldB at h
  simp only [Bool.and_eq_true, decide_eq_true_eq] at h
  exact ⟨h.2.2.1, h.2.2.2⟩
theorem all_take_false {xs : List El} {j : Nat} {x : El} (hx : xs[j]? = some x) (h : fieldB x = false) : xs.all fieldB = false := by
  rw [List.all_eq_false]
  exact ⟨x, List.mem_of_getElem? hx, by simp [h]⟩
theorem all_take_true {xs : List El} {j : Nat} {x : El} (hx : xs[j]? = some x) (h1 : (xs.take j).all fieldB = true) (h : fieldB x = true) : (xs.take (j + 1)).all fieldB = true := by
  rw [List.take_add_one, hx]; simp only [Option.toList, List.all_append, h1, List.all_cons, h, List.all_nil, Bool.and_self]
theorem Es.more {w : World} {B C n : Nat} {A : Option Addr} {xs : List El} (h : Es w B A n xs) (hB : B ≤ C) : Es w C A n xs :=
  ⟨h.1, fun x hx => ⟨(h.2.1 x hx).1.more hB, (h.2.1 x hx).2.more hB⟩, h.2.2.imp id fun ⟨g, off, e, hg, hc⟩ => ⟨g, off, e, Nat.lt_of_lt_of_le hg hB, hc⟩⟩
theorem right_any (p : Pk) (l : List El) {w : World} (h : Es w w.heap.size p.A p.n l) :
    Calls Tryz.prog 37 #[pkV p] w fun e w' => e = .returned (.int .i64 (erI (rightB p l))) ∧ RowKit.Below w.heap.size w w' := by
  obtain ⟨W, hW⟩ : ∃ W, W = w.alloc (.cells #[.int .i64 p.h.lp, .int .i64 p.h.ve, .int .i64 p.h.mo, .int .i64 p.h.st, .int .i64 p.h.po, .int .i64 p.h.pr, .int .u32 (p.h.dl : Int), .int .u32 (p.h.di : Int), .int .u32 (p.h.rf : Int), .int .u64 (p.h.re : Int), .int .u64 (p.h.og : Int), .int .u64 (p.h.rc : Int), .int .u64 (p.h.xm : Int), .slice p.A p.n p.c, .bool p.m.has, .int .u32 (p.m.key : Int), .slice p.m.A p.m.n p.m.c] 51) := ⟨_, rfl⟩
  have x1 : PBox W w.heap.size p := by rw [hW]; exact heap_alloc_new w _
  have hb : RowKit.Below w.heap.size w W := by rw [hW]; exact (Below.refl _ _).alloc (Nat.le_refl _) _
  have hs1 : w.heap.size < W.heap.size := x1.lt
  have HE := Lib.hid (h.below hb (Nat.le_refl _))
  have HX := Lib.hid x1
  have HB := Lib.hid hb
  have HS := Lib.hid hs1
  have HLn := Lib.hid (h.1 : l.length = p.n)
  have HH := Lib.hid (fun w => head_any p w)
  have HM := Lib.hid (fun w => mac_any p.m w)
  have HV := Lib.hid (show rightB p l = (headB p.h && (macB p.m && (decide (p.n ≤ 8) && (l.all fieldB && decide (szp p l ≤ 8192))))) from rfl)
  obtain ⟨c0, c1, c2, c3, c4, c5, c6, c7, c8, c9, c10, c11, c12, c13, c14, c15, c16⟩ := x1.cells
  clear h x1 hb hs1
  go_enter Tryz.func37, Tryz.ntmps37
  go_wp2_with fail
  rw [← hW]
  clear hW
  refine (HH.out _).mono ?_
  rintro e w1 ⟨rfl, b1⟩
  have HB1 := Lib.hid b1
  obtain ⟨c0, c1, c2, c3, c4, c5, c6, c7, c8, c9, c10, c11, c12, c13, c14, c15, c16⟩ := (HX.out.below HB1.out).cells
  generalize hh1 : headB p.h = bh at *
  have HH1 := Lib.hid hh1
  clear b1 hh1
  cases bh with
  | false =>
    go_wp2_with fail
    go_ret
    exact ⟨by rw [HV.out]; rfl, bthen HB.out HB1.out (Nat.le_refl _)⟩
  | true =>
    go_wp2_with fail
    refine (HM.out _).mono ?_
    rintro e w2 ⟨rfl, b2⟩
    have HB2 := Lib.hid (bthen HB1.out b2 (Nat.le_refl _))
    obtain ⟨c0, c1, c2, c3, c4, c5, c6, c7, c8, c9, c10, c11, c12, c13, c14, c15, c16⟩ := (HX.out.below HB2.out).cells
    generalize hm1 : macB p.m = bm at *
    have HM1 := Lib.hid hm1
    clear b2 hm1
    cases bm with
    | false =>
      go_wp2_with fail
      go_ret
      exact ⟨by rw [HV.out]; rfl, bthen HB.out HB2.out (Nat.le_refl _)⟩
    | true =>
      by_cases hn : p.n ≤ 8
      · have hn' : ((8 : Int) < (p.n : Int)) = False := by rw [eq_iff_iff]; exact ⟨fun q => by omega, False.elim⟩
        have hn2 : ((p.n : Int) ≤ 8) := by omega
        rw [decide_eq_true hn] at HV
        have HN := Lib.hid hn
        clear hn
        go_wp2_with fail
        clear c0 c1 c2 c3 c4 c5 c6 c7 c8 c9 c10 c11 c12 c13 c14 c15 c16
        go_loopw [23] (fun i wr => ∃ j : Nat, j ≤ p.n ∧ i = .int .i64 (j : Int) ∧ Hid ((l.take j).all fieldB = true) ∧ RowKit.Below W.heap.size W wr) (fun i _ => (p.n - (match i with | .int _ z => z.toNat | _ => 0)))
        case atStart => exact ⟨0, by omega, rfl, Lib.hid (by simp), HB2.out⟩
        case round =>
          obtain ⟨j, hjn, rfl, HA, hb⟩ := hrel
          have HB3 := Lib.hid hb
          clear hb
          by_cases hj : j < p.n
          · have e1 : (j : Int) < (p.n : Int) := by omega
            obtain ⟨x, hx⟩ : ∃ x, l[j]? = some x := ⟨_, List.getElem?_eq_getElem (by have := HLn.out; omega)⟩
            obtain ⟨he1, he2, he3⟩ := HE.out.below HB3.out (Nat.le_of_lt HS.out)
            rcases he3 with he3 | ⟨g, off, hA, hg, hcl⟩
            · omega
            obtain ⟨d0, d1, d2, d3, d4, d5, d6, d7⟩ := hcl j x hx
            have HC := Lib.hid (fun w => field_any x w)
            have HT := Lib.hid hx
            clear hcl hx he1 he2
            rw [hA]
            generalize hf : fieldB x = bf at *
            have HF := Lib.hid hf
            clear hf
            cases bf with
            | false =>
              go_wp2_with fail
              refine (HC.out _).mono ?_
              rintro e w3 ⟨rfl, b3⟩
              have HB4 := Lib.hid (HB3.out.trans (((Below.refl _ wr).alloc HB3.out.size _).trans (b3.mono (Nat.le_trans HB3.out.size ((Below.refl wr.heap.size wr).alloc (Nat.le_refl _) _).size))))
              clear b3 d0 d1 d2 d3 d4 d5 d6 d7
              go_wp2_with fail
              go_ret
              exact ⟨by rw [HV.out, all_take_false HT.out HF.out]; rfl, bthen HB.out HB4.out (Nat.le_refl _)⟩
            | true =>
              go_wp2_with fail
              refine (HC.out _).mono ?_
              rintro e w3 ⟨rfl, b3⟩
              have HB4 := Lib.hid (HB3.out.trans (((Below.refl _ wr).alloc HB3.out.size _).trans (b3.mono (Nat.le_trans HB3.out.size ((Below.refl wr.heap.size wr).alloc (Nat.le_refl _) _).size))))
              clear b3 d0 d1 d2 d3 d4 d5 d6 d7
              go_wp2_with fail
              exact ⟨⟨j + 1, by omega, rfl, Lib.hid (all_take_true HT.out HA.out HF.out), HB4.out⟩, by show p.n - ((j : Int) + 1).toNat < p.n - (j : Int).toNat; omega⟩
          · have e1' : ((j : Int) < (p.n : Int)) = False := by simp only [eq_iff_iff, iff_false]; omega
            obtain ⟨c0, c1, c2, c3, c4, c5, c6, c7, c8, c9, c10, c11, c12, c13, c14, c15, c16⟩ := (HX.out.below HB3.out).cells
            have HAL := Lib.hid (show l.all fieldB = true by have := HA.out; rwa [List.take_of_length_le (by have := HLn.out; omega)] at this)
            have HEs := HE.out.below HB3.out (Nat.le_of_lt HS.out)
            have HZ := Lib.hid (size_any p l (HEs.more (Nat.le_trans (Nat.le_of_lt HS.out) HB3.out.size)) (Nat.le_trans HN.out (by decide)) (fun x hx => by have := field_lim (List.all_eq_true.1 HAL.out x hx); omega) (by have := mac_lim HM1.out; omega))
            have HF2 := Lib.hid (bthen HB.out HB3.out (Nat.le_refl _))
            clear HEs
            go_wp2_with fail
            refine HZ.out.mono ?_
            rintro e w3 ⟨rfl, b3⟩
            have HF3 := Lib.hid (bthen HF2.out b3 (Nat.le_refl _))
            generalize hS : szp p l = S at *
            rw [HAL.out] at HV
            clear b3 hS
            by_cases hS2 : S ≤ 8192
            · have k1 : ((8192 : Int) < (S : Int)) = False := by rw [eq_iff_iff]; exact ⟨fun q => by omega, False.elim⟩
              have k2 : (S : Int) ≤ 8192 := by omega
              rw [decide_eq_true hS2] at HV
              clear hS2
              go_wp2_with fail
              go_ret
              exact ⟨by rw [HV.out]; rfl, HF3.out⟩
            · have k1 : (8192 : Int) < (S : Int) := by omega
              have k2 : ((S : Int) ≤ 8192) = False := by rw [eq_iff_iff]; exact ⟨fun q => by omega, False.elim⟩
              rw [decide_eq_false hS2] at HV
              clear hS2
              go_wp2_with fail
              go_ret
              exact ⟨by rw [HV.out]; rfl, HF3.out⟩
      · have hn' : ((8 : Int) < (p.n : Int)) := by omega
        have hn2 : ((p.n : Int) ≤ 8) = False := by rw [eq_iff_iff]; exact ⟨fun q => by omega, False.elim⟩
        rw [decide_eq_false hn] at HV
        clear hn
        go_wp2_with fail
        go_ret
        exact ⟨by rw [HV.out]; rfl, bthen HB.out HB2.out (Nat.le_refl _)⟩
