/- modn: question of an odd number. -/
import Derived.Test.YtkhlmcknbangfaaGreatDoorM13
namespace Go.Proofs.YtkhlmcknbangfaaGreatDoor
set_option linter.unusedSimpArgs false
set_option linter.unusedVariables false
open Go.RowKit
set_option linter.unusedVariables false
set_option maxRecDepth 100000

theorem Nt.setCell {w : World} {B n c : Nat} {A : Option Addr} {xs : List Nat} (h : Nt w B A n c xs) (p : Addr) (v : Value) (hne : 0 < n → ∀ g off, A = some ⟨g, off, none⟩ → g ≠ p.block) : Nt (w.setCell p v) B A n c xs :=
  ⟨h.len, h.cap, h.room, h.lim, fun hn => by
    obtain ⟨b, off, e, hb, hc⟩ := h.cell hn
    exact ⟨b, off, e, hb, fun j x hx => keep_store (hc j x hx) (hne hn b off e)⟩⟩
theorem size_setCell (w : World) (p : Addr) (v : Value) : (w.setCell p v).heap.size = w.heap.size := by simp [World.setCell]

/-- what is known behind n less one -/
structure Pack (w F : World) (A : Option Addr) (n c : Nat) (A5 : Option Addr) (n5 c5 : Nat) (x5 : List Nat) (p : Nat) : Prop where
  b : Below w.heap.size w F
  cn : F.cell? ⟨w.heap.size, 0, none⟩ = some (.slice A n c)
  cp : F.cell? ⟨p, 0, none⟩ = some (.slice A5 n5 c5)
  nt : Nt F F.heap.size A5 n5 c5 x5
  lt : p < F.heap.size
  l0 : w.heap.size < F.heap.size

theorem pack_old {w W w3 : World} {A A5 : Option Addr} {n c n5 c5 p N : Nat} {x5 : List Nat} {v0 : Value} (hb : Below w.heap.size w W) (r : Res W w3 N A5 n5 c5 x5) (hp : w.heap.size < p) (hpW : p < W.heap.size) (hc : w3.cell? ⟨p, 0, none⟩ = some v0) (hn : w3.cell? ⟨w.heap.size, 0, none⟩ = some (.slice A n c)) :
    Pack w (w3.setCell ⟨p, 0, none⟩ (.slice A5 n5 c5)) A n c A5 n5 c5 x5 p := by
  have hs := r.bel.size
  refine ⟨(bthen hb r.bel).setCell (Nat.le_of_lt hp) _, keep_store hn (by show w.heap.size ≠ p; omega), World.cell?_setCell_same _ _ _ hc, ?_, by rw [size_setCell]; omega, by rw [size_setCell]; omega⟩
  rw [size_setCell]
  refine r.nt.setCell _ _ fun h0 g off e => ?_
  obtain ⟨g', cur, e', hg', _⟩ := r.fresh h0
  rw [e'] at e
  cases e
  show g ≠ p
  omega
theorem pack_new {w W w3 : World} {A A5 : Option Addr} {n c n5 c5 N : Nat} {x5 : List Nat} {t : TypeId} (hb : Below w.heap.size w W) (r : Res W w3 N A5 n5 c5 x5) (hs3 : w.heap.size < w3.heap.size) (hn : w3.cell? ⟨w.heap.size, 0, none⟩ = some (.slice A n c)) :
    Pack w (w3.alloc (.cells #[.slice A5 n5 c5] t)) A n c A5 n5 c5 x5 w3.heap.size := by
  have ha : (w3.alloc (.cells #[.slice A5 n5 c5] t)).cell? ⟨w3.heap.size, 0, none⟩ = some (.slice A5 n5 c5) := by rw [cell_of_row _ _ 0 #[.slice A5 n5 c5] t (0, 0) (heap_alloc_new w3 _)]; rfl
  have hbl : Below w3.heap.size w3 (w3.alloc (.cells #[.slice A5 n5 c5] t)) := (Below.refl _ _).alloc (Nat.le_refl _) _
  exact ⟨(bthen hb r.bel).alloc (Nat.le_of_lt hs3) _, (hbl.cell (by show w.heap.size < _; omega)).trans hn, ha, r.nt.up hbl, by simp, by simp; omega⟩

set_option maxHeartbeats 8000000 in
theorem question_odd {w : World} {A : Option Addr} {n c : Nat} {xs : List Nat} (h : Nt w w.heap.size A n c xs) (M : Nat) (hn : n ≤ M) (hM : M ≤ 1099511) (hev : ¬ (val 18446744073709551616 xs % 2 = 0 ∨ val 18446744073709551616 xs < 2)) :
    Calls Tryz.prog 162 #[.slice A n c] w (Asks (val 18446744073709551616 xs) M w) := by
  have hmf : ∀ (fn : Fn) (first cap : Array Value) (w : World), (Instr.makeFunc fn first cap).run Tryz.prog w = .ok (.func fn first cap) w := fun _ _ _ _ => rfl
  have hlt := h.below_pow hn
  obtain ⟨N, hN⟩ : ∃ N, val 18446744073709551616 xs = N := ⟨_, rfl⟩
  rw [hN] at hev hlt
  rw [hN]
  have htz := tz_le (n := N) (M := M) (by omega) hlt
  have Hlt := Lib.hid hlt
  obtain ⟨w1, e1⟩ : ∃ w1, w1 = w.alloc (Obj.cells #[Value.slice A n c] 22) := ⟨_, rfl⟩
  have hbx : w1.heap[w.heap.size]? = some (.cells #[Value.slice A n c] 22 (0, 0)) := e1 ▸ heap_alloc_new w _
  have hc1 : w1.cell? ⟨w.heap.size, 0, none⟩ = some (Value.slice A n c) := by rw [cell_of_row w1 _ 0 _ 22 (0, 0) hbx]; rfl
  have hb0 : Below w.heap.size w w1 := e1 ▸ (Below.refl _ w).alloc (Nat.le_refl _) _
  have hs1 : w.heap.size < w1.heap.size := by rw [e1]; simp
  have h1 := h.up hb0
  have hbt := bit_any h1 0 (by omega)
  rw [show btN (val 18446744073709551616 xs) 0 = val 18446744073709551616 xs / 2 ^ 0 % 2 from btN_of rfl, Nat.pow_zero, Nat.div_one, hN, show N % 2 = 1 by omega] at hbt
  have hbits := bits_any h1 (by omega)
  have hbl2 := bl_two_le (n := N) (by omega)
  rw [hN] at hbits
  obtain ⟨bN, hbN⟩ : ∃ bN, bl N = bN := ⟨_, rfl⟩
  rw [hbN] at hbits hbl2
  have Hbt := Lib.hid hbt
  have Hbits := Lib.hid hbits
  clear hbt hbits hlt
  have nc1 := new_cell1
  have nc2 := new_cell2
  have nf1 := new_free1
  have nf2 := new_free2
  have d1 : w1.drew.cell? ⟨w.heap.size, 0, none⟩ = some (Value.slice A n c) := hc1
  have hbd := hb0.drew
  go_enter Tryz.func162, Tryz.ntmps162
  go_wp2_with fail
  rw [← e1]
  have E1 := Lib.hid e1
  clear e1
  refine Hbt.out.mono ?_
  rintro e w2 ⟨rfl, rfl⟩
  go_wp2_with fail
  refine Hbits.out.mono ?_
  rintro e w2 ⟨rfl, rfl⟩
  go_wp2_with fail
  go_region_held3 (fun w' => w'.cell? ⟨w.heap.size, 0, none⟩ = some (Value.slice A n c))
    (first | assumption | go_keep | exact keep_store (by assumption) (by simp; omega))
    ((first
    | (go_at_call 23; refine (of_any 1 _ rfl (by omega) _).mono ?_; rintro e w2 ⟨A4, n4, c4, x4, rfl, r4⟩
       have b2 := bthen (by first | exact hbd | exact hbd.alloc (Nat.le_of_lt hs1) _) r4.bel
       have e2 : w2.cell? ⟨w.heap.size, 0, none⟩ = some (Value.slice A n c) := (r4.bel.cell (p := ⟨w.heap.size, 0, none⟩) (by simp; omega)).trans (by assumption)
       have s2 : w.heap.size < w2.heap.size := Nat.lt_of_lt_of_le (by simp; omega) r4.bel.size
       try have q2 : w2.heap[w1.heap.size]? = some (.cells #[.slice none 0 0] 22 (0, 0)) := (r4.bel.block _ (by simp)).trans (heap_alloc_new _ _))
    | (go_at_call 90; refine (sub_ok (h.up (by first | exact b2 | exact b2.alloc (Nat.le_of_lt s2) _)) (r4.nt.up (by first | exact Below.refl _ _ | exact (Below.refl _ _).alloc (Nat.le_refl _) _)) (by omega) (by rw [r4.is, hN]; omega)).mono ?_; rintro e w3 ⟨A5, n5, c5, x5, rfl, r5⟩
       have e3 : w3.cell? ⟨w.heap.size, 0, none⟩ = some (Value.slice A n c) := (r5.bel.cell (p := ⟨w.heap.size, 0, none⟩) (by first | exact s2 | (simp; omega))).trans (by assumption)
       have s3 : w.heap.size < w3.heap.size := Nat.lt_of_lt_of_le (by first | exact s2 | (simp; omega)) r5.bel.size
       try have q3 : w3.heap[w1.heap.size]? = some (.cells #[.slice none 0 0] 22 (0, 0)) := (r5.bel.block _ (Array.getElem?_eq_some_iff.1 q2).1).trans q2
       try have k3 : w3.heap[w2.heap.size]? = some (.cells #[.slice none 0 0] 22 (0, 0)) := (r5.bel.block _ (by simp)).trans (heap_alloc_new _ _)
       try have q3c : w3.cell? ⟨w1.heap.size, 0, none⟩ = some (.slice none 0 0) := by rw [cell_of_row w3 _ 0 _ 22 (0, 0) q3]; rfl
       try have q3f : w3.frozen? ⟨w1.heap.size, 0, none⟩ = false := by simp [World.frozen?, q3]
       try have k3c : w3.cell? ⟨w2.heap.size, 0, none⟩ = some (.slice none 0 0) := by rw [cell_of_row w3 _ 0 _ 22 (0, 0) k3]; rfl
       try have k3f : w3.frozen? ⟨w2.heap.size, 0, none⟩ = false := by simp [World.frozen?, k3])))
  all_goals
    have v5 : val 18446744073709551616 x5 = N - 1 := by rw [r5.is, hN, r4.is]
    have l5 : n5 ≤ M := r5.le (by rw [hN, r4.is]; have := Hlt.out; omega)
    first
      | (have HP := pack_new (t := 22) (by first | exact b2 | exact b2.alloc (Nat.le_of_lt s2) _) r5 s3 e3
         generalize w3.alloc (Obj.cells #[Value.slice A5 n5 c5] 22) = F at HP ⊢
         generalize w3.heap.size = p at HP ⊢
         fail_if_success (have := k3)
         fail_if_success (have := q3))
      | (have HP := pack_old b2 r5 hs1 (Array.getElem?_eq_some_iff.1 q2).1 q3c e3
         generalize w3.setCell ⟨w1.heap.size, 0, none⟩ (.slice A5 n5 c5) = F at HP ⊢
         generalize w1.heap.size = p at HP ⊢)
      | (have HP := pack_old (b2.alloc (Nat.le_of_lt s2) _) r5 s2 (by simp) k3c e3
         generalize w3.setCell ⟨w2.heap.size, 0, none⟩ (.slice A5 n5 c5) = F at HP ⊢
         generalize w2.heap.size = p at HP ⊢)
  all_goals
    have cp := HP.cp
    have cn := HP.cn
    have lp := HP.lt
    have l0 := HP.l0
    go_wp2_with fail
    refine (twosOf_any HP.nt (by omega) (by rw [v5]; omega)).mono ?_
    rintro e F' ⟨rfl, rfl⟩
    rw [v5]
    obtain ⟨s, hs⟩ : ∃ s, tz (N - 1) = s := ⟨_, rfl⟩
    rw [hs]
    rw [hs] at htz
    obtain ⟨F2, e2F⟩ : ∃ F2, F2 = F.alloc (Obj.cells #[Value.int .i64 (s : Int)] 3) := ⟨_, rfl⟩
    have hbF : Below F.heap.size F F2 := e2F ▸ ((Below.refl _ F).alloc (Nat.le_refl _) _)
    have hF2 : F.heap.size < F2.heap.size := by rw [e2F]; simp
    have cs : F2.cell? ⟨F.heap.size, 0, none⟩ = some (.int .i64 (s : Int)) := by
      rw [e2F]
      rw [cell_of_row _ _ 0 #[Value.int .i64 (s : Int)] 3 (0, 0) (heap_alloc_new F _)]; rfl
    have cp2 := (hbF.cell (p := ⟨p, 0, none⟩) lp).trans cp
    have cn2 := (hbF.cell (p := ⟨w.heap.size, 0, none⟩) l0).trans cn
    have hs64 : IntKind.i64.wrap (-(s : Int)) = -(s : Int) := IntWalk.i64_in _ (by omega)
    go_wp2_with fail
    rw [← e2F]
    refine (shift_any (HP.nt.up hbF) (by omega) (-(s : Int)) (by omega) (by omega)).mono ?_
    rintro e F3 ⟨A6, n6, c6, x6, rfl, r6⟩
    rw [v5] at r6
    go_wp2_with fail
    go_ret
    have hb3 := r6.bel
    have hs6 : shN (N - 1) (-(s : Int)) = (N - 1) / 2 ^ s := by
      rcases Nat.eq_zero_or_pos s with h0 | h0
      · rw [h0]; simp [shN]
      · unfold shN
        rw [if_neg (by omega)]
        congr 2
        omega
    rw [hs6] at r6
    have hbA : Below F3.heap.size F3 (F3.alloc (Obj.cells #[Value.slice A6 n6 c6] 22)) := (Below.refl _ F3).alloc (Nat.le_refl _) _
    have l6 : n6 ≤ M := r6.le (Nat.lt_of_le_of_lt (Nat.div_le_self _ _) (by have := Hlt.out; omega))
    have s3' := r6.bel.size
    have hall : Below w.heap.size w (F3.alloc (Obj.cells #[Value.slice A6 n6 c6] 22)) := bthen (bthen (bthen HP.b hbF) r6.bel) hbA
    have hF3A : Below F2.heap.size F2 (F3.alloc (Obj.cells #[Value.slice A6 n6 c6] 22)) := bthen r6.bel hbA
    refine ⟨_, rfl, .b w.heap.size F3.heap.size p F.heap.size A A6 A5 n c n6 c6 n5 c5 xs x6 x5 ?_ ?_ ?_ ?_ ?_ ?_ ?_ ?_ (h.up hall) (r6.nt.up hbA) ((HP.nt.up hbF).up hF3A) hN ?_ v5 hn l6 l5 hev, hall⟩
    · simp; omega
    · simp
    · simp; omega
    · simp; omega
    · exact (hF3A.cell (by show w.heap.size < _; omega)).trans cn2
    · rw [cell_of_row _ _ 0 #[Value.slice A6 n6 c6] 22 (0, 0) (heap_alloc_new F3 _)]; rfl
    · exact (hF3A.cell (by show p < _; omega)).trans cp2
    · rw [hs]; exact (hF3A.cell hF2).trans cs
    · rw [r6.is, hs]
end Go.Proofs.YtkhlmcknbangfaaGreatDoor
