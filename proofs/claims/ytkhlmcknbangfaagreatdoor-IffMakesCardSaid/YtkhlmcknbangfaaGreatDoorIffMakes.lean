/- For any bytes, any two numbers of digits and any parameters the Go function IffMakes returns true and leaves its arguments as they were. No condition but that the constants of sha are as they are laid at the start. iff: what is made of a candidate; the least power. iff: the least power. iff: the first candidate of which a prime is made. iff: Make. iff: Make, with arguments that fit. the document's candidate: the digits, one by one. No program. the document's candidate of parameters, and its least power. the document's Make of parameters. what Draw hands back, as limbs. both Makes of parameters: one answer. -/
import Derived.Test.YtkhlmcknbangfaaGreatDoorPr
import Derived.Test.YtkhlmcknbangfaaGreatDoorDf
import Derived.Deep.RegionHeld3
import Derived.WalkMore
import Derived.ScopeJumps
import Derived.RangeFuncBox
import Derived.Test.YtkhlmcknbangfaaGreatDoorHq
import Derived.Test.YtkhlmcknbangfaaGreatDoorFa
import Derived.Test.YtkhlmcknbangfaaGreatDoorEe
import Derived.Sort.CutIn
import Derived.Test.YtkhlmcknbangfaaGreatDoorSh
import Derived.Test.YtkhlmcknbangfaaGreatDoorTie

namespace Go.Proofs.YtkhlmcknbangfaaGreatDoor
open Go.RowKit
set_option linter.unusedVariables false
set_option linter.unusedSimpArgs false
set_option maxRecDepth 100000
/-- a number, trimmed, in memory of the call's own or an argument's -/
def RetN (N : Nat) (w : World) (e : Ending) (w' : World) : Prop := ∃ A n c xs, e = .returned (.slice A n c) ∧ Nt w' w'.heap.size A n c xs ∧ Trm xs ∧ val 18446744073709551616 xs = N ∧ Below w.heap.size w w'
theorem mul_len {a b : Nat} (ha : a < 18446744073709551616 ^ 100) (hb : b < 18446744073709551616 ^ 100) : a * b < 18446744073709551616 ^ 200 := by
  rw [show (200 : Nat) = 100 + 100 from rfl, Nat.pow_add]
  exact Nat.mul_lt_mul_of_lt_of_lt ha hb
theorem make1_any {w : World} {A : Option Addr} {n c : Nat} {xs : List Nat} (h : Nt w w.heap.size A n c xs) (t : Trm xs) : Calls Tryz.prog 53 #[.slice A n c] w (RetN (val 18446744073709551616 xs) w) := by
  go_enter Tryz.func53, Tryz.ntmps53
  go_wp2_with fail
  go_ret
  exact ⟨_, _, _, xs, rfl, h, t, rfl, Below.refl _ _⟩
set_option maxHeartbeats 4000000 in
theorem make2_any {w : World} {A Aq : Option Addr} {n c nq cq g : Nat} {xs xq : List Nat} (h : Nt w w.heap.size A n c xs) (hn : n ≤ 100) (h1 : 1 ≤ val 18446744073709551616 xs) (hc : w.cell? ⟨g, 0, none⟩ = some (.slice Aq nq cq)) (hq : Nt w w.heap.size Aq nq cq xq) (hnq : nq ≤ 100) :
    Calls Tryz.prog 54 #[.slice A n c, .pointer (some ⟨g, 0, none⟩)] w (RetN ((val 18446744073709551616 xs - 1) * val 18446744073709551616 xq + 1) w) := by
  have hg : g < w.heap.size := World.block_lt_of_cell? w _ hc
  have HB0 := Lib.hid (show Below w.heap.size w w.drew from (Below.refl _ _).drew)
  have HD := Lib.hid (h.up HB0.out)
  have HQ := Lib.hid (hq.up HB0.out)
  have hc0 : w.drew.cell? ⟨g, 0, none⟩ = some (.slice Aq nq cq) := hc
  have HC : Hid (∀ W, Below w.heap.size w W → W.cell? ⟨g, 0, none⟩ = some (.slice Aq nq cq)) := fun W b => (b.cell (p := ⟨g, 0, none⟩) hg).trans hc
  obtain ⟨X, hX⟩ : ∃ X, val 18446744073709551616 xs = X := ⟨_, rfl⟩
  obtain ⟨Y, hY⟩ : ∃ Y, val 18446744073709551616 xq = Y := ⟨_, rfl⟩
  rw [hX] at h1
  rw [hX, hY]
  have HX := Lib.hid hX
  have HY := Lib.hid hY
  clear h hq hX hY
  go_enter Tryz.func54, Tryz.ntmps54
  go_wp2_with fail
  go_region_held3 (fun w' => w'.cell? ⟨g, 0, none⟩ = some (Value.slice Aq nq cq))
    (first | exact c8 | exact c7 | exact c6 | exact c5 | exact hc0)
    ((first
      | (go_at_call 56; refine (lessOne_any HD.out HX.out (by omega) h1).mono ?_; rintro e w5 ⟨A5, n5, k5, x5, rfl, r5⟩
         have B5 := Lib.hid (bthen HB0.out r5.bel)
         have c5 := HC.out _ B5.out
         have R5 := Lib.hid r5
         clear r5)
      | (go_at_call 31; refine (mul_any R5.out.nt ((HQ.out).up R5.out.bel) (by have := R5.out.le (k := 100) (by have := HD.out.below_pow hn; rw [HX.out] at this; omega); omega) (by omega)).mono ?_; rintro e w6 ⟨A6, n6, k6, x6, rfl, r6⟩
         have B6 := Lib.hid (bthen B5.out r6.bel)
         have c6 := HC.out _ B6.out
         have R6 := Lib.hid r6
         have HL6 := Lib.hid (show n6 ≤ 1099511627776 from Nat.le_trans (r6.le (k := 200) (mul_len (by have := HD.out.below_pow hn; rw [HX.out] at this; rw [R5.out.is]; omega) (HQ.out.below_pow hnq))) (by omega))
         clear r6)
      | (go_at_call 23; refine (of_any 1 _ rfl (by omega) _).mono ?_; rintro e w7 ⟨A7, n7, k7, x7, rfl, r7⟩
         have B7 := Lib.hid (bthen B6.out r7.bel)
         have c7 := HC.out _ B7.out
         have R7 := Lib.hid r7
         clear r7)
      | (go_at_call 55; refine (add_any (R6.out.nt.up R7.out.bel) R7.out.nt HL6.out (by have := R7.out.le (k := 1) (by omega); omega)).mono ?_; rintro e w8 ⟨A8, n8, k8, x8, rfl, r8⟩
         have B8 := Lib.hid (bthen B7.out r8.bel)
         have c8 := HC.out _ B8.out
         have R8 := Lib.hid r8
         clear r8)))
  all_goals
    go_wp2_with fail
    go_ret
    refine ⟨_, _, _, _, rfl, R8.out.nt, R8.out.trm, ?_, B8.out⟩
    rw [R8.out.is, R6.out.is, R7.out.is, R5.out.is, HY.out]
end Go.Proofs.YtkhlmcknbangfaaGreatDoor
namespace Go.Proofs.YtkhlmcknbangfaaGreatDoor
open Go.RowKit
set_option linter.unusedVariables false
set_option linter.unusedSimpArgs false
set_option maxRecDepth 100000
/-- the least base whose power may be G, or none -/
def LeastP (ev P Q : Nat) (w : World) (r : Ending) (w' : World) : Prop :=
  ((∃ h, 2 ≤ h ∧ h ≤ 999 ∧ (∀ j, 2 ≤ j → j < h → genN P Q (j ^ ev % P) = false) ∧ genN P Q (h ^ ev % P) = true ∧ ∃ A n c xs, r = .returned (.tuple #[.slice A n c, .int .i64 0]) ∧ Nt w' w'.heap.size A n c xs ∧ Trm xs ∧ val 18446744073709551616 xs = h ^ ev % P) ∨
    ((∀ j, 2 ≤ j → j ≤ 999 → genN P Q (j ^ ev % P) = false) ∧ r = .returned (.tuple #[.slice none 0 0, .int .i64 60]))) ∧ Below w.heap.size w w'
set_option maxHeartbeats 8000000 in
theorem leastPower_any {w : World} {Ap Aq : Option Addr} {np cp nq cq P Q ev : Nat} {xp xq : List Nat} (hp : Nt w w.heap.size Ap np cp xp) (hq : Nt w w.heap.size Aq nq cq xq) (ep : val 18446744073709551616 xp = P) (eq : val 18446744073709551616 xq = Q) (hnp : np ≤ 100) (hnq : nq ≤ 100) (hP0 : 0 < P) (hQ0 : 0 < Q) (hev : (P - 1) / Q = ev) :
    Calls Tryz.prog 57 #[.slice Ap np cp, .slice Aq nq cq] w (LeastP ev P Q w) := by
  have LP0 := Lib.hid (show P < 18446744073709551616 ^ 100 by have := hp.below_pow hnp; rw [ep] at this; exact this)
  have Hp := Lib.hid hp
  have Hq := Lib.hid hq
  have VP := Lib.hid ep
  have VQ := Lib.hid eq
  have HE := Lib.hid hev
  have LP := LP0
  clear hp hq ep eq hev LP0
  go_enter Tryz.func57, Tryz.ntmps57
  go_wp2
  refine wp_scope_jumps 0 (fun a' w' => Below w.heap.size w w' ∧ ∃ h : Nat, 2 ≤ h ∧ h ≤ 999 ∧ (∀ j, 2 ≤ j → j < h → genN P Q (j ^ ev % P) = false) ∧ ∃ A6 n6 c6 x6, Nt w' w'.heap.size A6 n6 c6 x6 ∧ n6 ≤ 100 ∧ val 18446744073709551616 x6 = ev ∧ ∃ u7 u8 u10 u11 u12 u13 u14 u15 u16 u17 u18 u19 u20 u21 u22 u23 u24 u25 u26 u27 u28 u29 u30 u31 u32 u33 u34 u35 u36 u37 : Value, a' = { tmps := #[.slice Ap np cp, .slice Aq nq cq, undef, undef, .slice none 0 0, .int .i64 0, .slice A6 n6 c6, u7, u8, .int .u64 (h : Int), u10, u11, u12, u13, u14, u15, u16, u17, u18, u19, u20, u21, u22, u23, u24, u25, u26, u27, u28, u29, u30, u31, u32, u33, u34, u35, u36, u37], defers := [] }) (fun a' _ => 1000 - (intOf (a'.tmps.getD 9 undef)).toNat) rfl ?_ ?_
  · go_wp2_with fail
    refine (lessOne_any Hp.out VP.out (by omega) hP0).mono ?_
    rintro e w1 ⟨A1, n1, c1, x1, rfl, r1⟩
    have l1 : n1 ≤ 100 := r1.le (k := 100) (Nat.lt_of_le_of_lt (Nat.sub_le _ _) LP.out)
    have hdv := div_pos r1.nt (Hq.out.up r1.bel) (by omega) (by rw [VQ.out]; exact hQ0)
    rw [r1.is, VQ.out, HE.out] at hdv
    have Hdv := Lib.hid hdv
    have B1 := Lib.hid r1.bel
    clear hdv r1
    go_wp2_with fail
    refine Hdv.out.mono ?_
    rintro e W ⟨A6, n6, c6, x6, A7, n7, c7, x7, rfl, h6, t6, v6, h7, _, _, b2⟩
    have HB := Lib.hid (bthen B1.out b2)
    have H6 := Lib.hid h6
    have V6 := Lib.hid v6
    have hn6 : n6 ≤ 100 := by
      rw [← h6.len]
      refine length_of_val (β := 18446744073709551616) (by omega) t6 ?_
      rw [v6, ← HE.out]
      exact Nat.lt_of_le_of_lt (Nat.le_trans (Nat.div_le_self _ _) (Nat.sub_le _ _)) LP.out
    have HP := Lib.hid (Hp.out.up HB.out)
    have HQ := Lib.hid (Hq.out.up HB.out)
    clear Hdv h6 v6 h7 b2 t6
    obtain ⟨h, hh⟩ : ∃ h : Nat, h = 2 := ⟨_, rfl⟩
    go_wp2_with fail
    go_step3
    rw [show (2 : Int) = (h : Int) by rw [hh]; rfl]
    have hh2 : 2 ≤ h := by omega
    have hh9 : h ≤ 999 := by omega
    have HN : Hid (∀ j, 2 ≤ j → j < h → genN P Q (j ^ ev % P) = false) := fun j j2 jh => by omega
    clear hh
    have HJ5 := Lib.hid (Below.refl W.heap.size W)
    go_wp2_with fail
    refine (of_any h _ rfl (by omega) _).mono ?_
    rintro e w4 ⟨A4, n4, c4, x4, rfl, r4⟩
    have l4 : n4 ≤ 1 := r4.le (by omega)
    have v4 := Lib.hid r4.is
    have hm := mpow_pos r4.nt (H6.out.up r4.bel) (HP.out.up r4.bel) (by omega) (by omega) (by omega) (by rw [VP.out]; omega)
    have Hm := Lib.hid hm
    have B4 := Lib.hid r4.bel
    clear r4 hm
    go_wp2_with fail
    refine Hm.out.mono ?_
    rintro e w5 ⟨A5, n5, c5, x5, rfl, r5⟩
    rw [v4.out, V6.out, VP.out] at r5
    have B5 := Lib.hid (bthen B4.out r5.bel)
    have L5 := Lib.hid (show n5 ≤ 100 from r5.le (k := 100) (Nat.lt_trans (Nat.mod_lt _ hP0) LP.out))
    have hpr : Pr w5 (.agg #[.slice Ap np cp, .slice Aq nq cq, .slice A5 n5 c5]) P Q (h ^ ev % P) := ⟨_, _, _, _, _, _, _, _, _, _, _, _, rfl, HP.out.up B5.out, VP.out, hnp, HQ.out.up B5.out, VQ.out, hnq, r5.nt, r5.is, L5.out⟩
    have Hg := Lib.hid (generates_any hpr hP0)
    have R5 := Lib.hid r5
    clear r5 hpr Hm
    go_wp2_with fail
    refine Hg.out.mono ?_
    rintro e w6 ⟨rfl, b6⟩
    have B6 := Lib.hid (bthen B5.out b6)
    have Hb6 := Lib.hid b6
    clear b6 Hg
    cases hgen : genN P Q (h ^ ev % P) with
    | true =>
      have Hgen := Lib.hid hgen
      clear hgen
      go_wp2_with fail
      try simp only [Exit.jump]
      go_ret2
      exact ⟨.inl ⟨h, hh2, hh9, HN.out, Hgen.out, _, _, _, _, rfl, R5.out.nt.up Hb6.out, R5.out.trm, R5.out.is⟩, bthen HB.out B6.out⟩
    | false =>
      have Hgen := Lib.hid hgen
      clear hgen
      by_cases hlt : h < 999
      · have hd : decide ((h : Int) < 999) = true := by simp; omega
        go_wp2_with fail
        go_step3
        have hs : ∀ j, 2 ≤ j → j < h + 1 → genN P Q (j ^ ev % P) = false := fun j j2 jh => by
          rcases Nat.lt_or_ge j h with g | g
          · exact HN.out j j2 g
          · rw [show j = h by omega]; exact Hgen.out
        exact ⟨rfl, bthen HB.out B6.out, h + 1, by omega, by omega, hs, _, _, _, _, H6.out.up B6.out, hn6, V6.out, _, _, _, _, _, _, _, _, _, _, _, _, _, _, _, _, _, _, _, _, _, _, _, _, _, _, _, _, _, _, rfl⟩
      · obtain rfl : h = 999 := by omega
        have hd : decide (((999 : Nat) : Int) < 999) = false := rfl
        go_wp2_with fail
        try simp only [Exit.jump]
        go_ret2
        refine ⟨.inr ⟨fun j j2 j9 => ?_, rfl⟩, bthen HB.out B6.out⟩
        rcases Nat.lt_or_ge j 999 with g | g
        · exact HN.out j j2 g
        · rw [show j = 999 by omega]; exact Hgen.out

  · rintro a' W ⟨hB, h, hh2, hh9, hN, A6, n6, c6, x6, h6, hn6, v6, u7, u8, u10, u11, u12, u13, u14, u15, u16, u17, u18, u19, u20, u21, u22, u23, u24, u25, u26, u27, u28, u29, u30, u31, u32, u33, u34, u35, u36, u37, rfl⟩
    have HB := Lib.hid hB
    have HN := Lib.hid hN
    have H6 := Lib.hid h6
    have V6 := Lib.hid v6
    have HP := Lib.hid (Hp.out.up hB)
    have HQ := Lib.hid (Hq.out.up hB)
    clear hB hN h6 v6
    have HJ5 := Lib.hid (Below.refl W.heap.size W)
    go_wp2_with fail
    refine (of_any h _ rfl (by omega) _).mono ?_
    rintro e w4 ⟨A4, n4, c4, x4, rfl, r4⟩
    have l4 : n4 ≤ 1 := r4.le (by omega)
    have v4 := Lib.hid r4.is
    have hm := mpow_pos r4.nt (H6.out.up r4.bel) (HP.out.up r4.bel) (by omega) (by omega) (by omega) (by rw [VP.out]; omega)
    have Hm := Lib.hid hm
    have B4 := Lib.hid r4.bel
    clear r4 hm
    go_wp2_with fail
    refine Hm.out.mono ?_
    rintro e w5 ⟨A5, n5, c5, x5, rfl, r5⟩
    rw [v4.out, V6.out, VP.out] at r5
    have B5 := Lib.hid (bthen B4.out r5.bel)
    have L5 := Lib.hid (show n5 ≤ 100 from r5.le (k := 100) (Nat.lt_trans (Nat.mod_lt _ hP0) LP.out))
    have hpr : Pr w5 (.agg #[.slice Ap np cp, .slice Aq nq cq, .slice A5 n5 c5]) P Q (h ^ ev % P) := ⟨_, _, _, _, _, _, _, _, _, _, _, _, rfl, HP.out.up B5.out, VP.out, hnp, HQ.out.up B5.out, VQ.out, hnq, r5.nt, r5.is, L5.out⟩
    have Hg := Lib.hid (generates_any hpr hP0)
    have R5 := Lib.hid r5
    clear r5 hpr Hm
    go_wp2_with fail
    refine Hg.out.mono ?_
    rintro e w6 ⟨rfl, b6⟩
    have B6 := Lib.hid (bthen B5.out b6)
    have Hb6 := Lib.hid b6
    clear b6 Hg
    cases hgen : genN P Q (h ^ ev % P) with
    | true =>
      have Hgen := Lib.hid hgen
      clear hgen
      go_wp2_with fail
      try simp only [Exit.jump]
      go_ret2
      exact ⟨.inl ⟨h, hh2, hh9, HN.out, Hgen.out, _, _, _, _, rfl, R5.out.nt.up Hb6.out, R5.out.trm, R5.out.is⟩, bthen HB.out B6.out⟩
    | false =>
      have Hgen := Lib.hid hgen
      clear hgen
      by_cases hlt : h < 999
      · have hd : decide ((h : Int) < 999) = true := by simp; omega
        go_wp2_with fail
        go_step3
        have hs : ∀ j, 2 ≤ j → j < h + 1 → genN P Q (j ^ ev % P) = false := fun j j2 jh => by
          rcases Nat.lt_or_ge j h with g | g
          · exact HN.out j j2 g
          · rw [show j = h by omega]; exact Hgen.out
        refine ⟨rfl, ⟨bthen HB.out B6.out, h + 1, by omega, by omega, hs, _, _, _, _, H6.out.up B6.out, hn6, V6.out, _, _, _, _, _, _, _, _, _, _, _, _, _, _, _, _, _, _, _, _, _, _, _, _, _, _, _, _, _, _, rfl⟩, ?_⟩; simp [intOf]; omega
      · obtain rfl : h = 999 := by omega
        have hd : decide (((999 : Nat) : Int) < 999) = false := rfl
        go_wp2_with fail
        try simp only [Exit.jump]
        go_ret2
        refine ⟨.inr ⟨fun j j2 j9 => ?_, rfl⟩, bthen HB.out B6.out⟩
        rcases Nat.lt_or_ge j 999 with g | g
        · exact HN.out j j2 g
        · rw [show j = 999 by omega]; exact Hgen.out

end Go.Proofs.YtkhlmcknbangfaaGreatDoor
namespace Go.Proofs.YtkhlmcknbangfaaGreatDoor
open Go.RowKit Go.Shelf
set_option linter.unusedVariables false
set_option linter.unusedSimpArgs false
set_option maxRecDepth 100000
attribute [local go_sem] Oper.semAt_some
/-- candidates with the highest digit set -/
def c1N (bs : List Nat) (sz d k : Nat) : Nat := candV (nb ((bs.drop (k * sz)).take sz)) d 1
theorem c1N_lt (bs : List Nat) (sz d : Nat) (hd : 8 ≤ d) (hd2 : d ≤ 512) (k : Nat) : c1N bs sz d k < 18446744073709551616 ^ 8 ∧ 1 ≤ c1N bs sz d k := by
  obtain ⟨h1, h2, _⟩ := cand_facts (V := nb ((bs.drop (k * sz)).take sz)) (d := d) (s := 1) (by omega) (by omega)
  refine ⟨Nat.lt_of_lt_of_le h1 ?_, ?_⟩
  · exact Nat.le_trans (Nat.pow_le_pow_right (by decide) hd2) (by decide +kernel)
  · unfold c1N; omega
/-- firstPrime's variables -/
structure Vq (w W : World) (fv : Value) : Prop where
  v1 : W.heap[w.heap.size]? = some (.cells #[fv] 58 (0, 0))
  v2 : W.heap[w.heap.size + 1]? = some (.cells #[Value.slice none 0 0] 22 (0, 0))
  v3 : W.heap[w.heap.size + 2]? = some (.cells #[.int .i64 0] 3 (0, 0))
  size : w.heap.size + 3 ≤ W.heap.size
  bel : Below w.heap.size w W
theorem Vq.up {w W W' : World} {fv : Value} (h : Vq w W fv) (b : Below W.heap.size W W') : Vq w W' fv := by
  have hs := h.size
  exact ⟨(b.block _ (by omega)).trans h.v1, (b.block _ (by omega)).trans h.v2, (b.block _ (by omega)).trans h.v3, Nat.le_trans hs b.size, bthen h.bel b⟩
theorem Vq.own {w W W' : World} {fv : Value} {row : Option Nat} (h : Vq w W fv) (hg : W.grownBy W' row) (hr : ∀ r, row = some r → w.heap.size + 3 ≤ r ∧ ∃ o : Obj, W.heap[r]? = some o ∧ o.isCells = false) : Vq w W' fv := by
  have hs := h.size
  have hrow : ∀ q, q < w.heap.size + 3 → some q ≠ row := fun q hq e => by have := (hr q e.symm).1; omega
  exact ⟨(hg.block _ (by omega) (hrow _ (by omega))).trans h.v1, (hg.block _ (by omega) (hrow _ (by omega))).trans h.v2, (hg.block _ (by omega) (hrow _ (by omega))).trans h.v3,
    Nat.le_trans hs hg.size, h.bel.grown hg h.bel.size (fun k e => by have := (hr k e).1; omega)⟩
theorem Vq.new (w : World) (fv : Value) : Vq w (((w.alloc (.cells #[fv] 58)).alloc (.cells #[Value.slice none 0 0] 22)).alloc (.cells #[.int .i64 0] 3)) fv := by
  have hb : ∀ (u : World) (o : Obj) (q : Nat), q < u.heap.size → (u.alloc o).heap[q]? = u.heap[q]? := fun u o q hq => ((Below.refl u.heap.size u).alloc (Nat.le_refl _) o).block q hq
  have hw : ∀ (u : World) (o : Obj) (q : Nat), q = u.heap.size → (u.alloc o).heap[q]? = some o := fun u o q hq => hq ▸ heap_alloc_new u o
  refine ⟨?_, ?_, ?_, by simp, ?_⟩
  · rw [hb _ _ _ (by simp only [World.size_alloc]; omega), hb _ _ _ (by simp only [World.size_alloc]; omega)]; exact hw _ _ _ rfl
  · rw [hb _ _ _ (by simp only [World.size_alloc]; omega)]; exact hw _ _ _ (by simp only [World.size_alloc])
  · exact hw _ _ _ (by simp only [World.size_alloc])
  · exact (((Below.refl _ w).alloc (Nat.le_refl _) _).alloc (by simp) _).alloc (by simp; omega) _
/-- whatever is no variable of firstPrime's that changes -/
def okF (w : World) (b : Nat) : Prop := b ≤ w.heap.size ∨ w.heap.size + 3 ≤ b
/-- what firstPrime hands back lies in its variables -/
structure Dq (w W : World) (M : Nat) (u : Int) : Prop where
  ex : ∃ A n c xs, W.heap[w.heap.size + 1]? = some (.cells #[.slice A n c] 22 (0, 0)) ∧ W.heap[w.heap.size + 2]? = some (.cells #[.int .i64 u] 3 (0, 0)) ∧ Nt W W.heap.size A n c xs ∧ Trm xs ∧ val 18446744073709551616 xs = M
  size : w.heap.size + 3 ≤ W.heap.size
  bel : Below w.heap.size w W
theorem Dq.own {w W W' : World} {M : Nat} {u : Int} {row : Option Nat} (h : Dq w W M u) (hg : W.grownBy W' row) (hr : ∀ r, row = some r → w.heap.size + 3 ≤ r ∧ ∃ o : Obj, W.heap[r]? = some o ∧ o.isCells = false) : Dq w W' M u := by
  have hs := h.size
  have hrow : ∀ q, q < w.heap.size + 3 → some q ≠ row := fun q hq e => by have := (hr q e.symm).1; omega
  obtain ⟨A, n, c, xs, h1, h2, h3, h4, h5⟩ := h.ex
  exact ⟨⟨A, n, c, xs, (hg.block _ (by omega) (hrow _ (by omega))).trans h1, (hg.block _ (by omega) (hrow _ (by omega))).trans h2, h3.own hg (fun r e => (hr r e).2), h4, h5⟩, Nat.le_trans hs hg.size, h.bel.grown hg h.bel.size (fun k e => by have := (hr k e).1; omega)⟩
theorem results_two {w : World} {T : Array Value} {g : Nat} {v1 : Value} {us : Int} (t6 : T[6]?.getD undef = .pointer (some ⟨g + 1, 0, none⟩)) (t7 : T[7]?.getD undef = .pointer (some ⟨g + 2, 0, none⟩))
    (h1 : w.heap[g + 1]? = some (.cells #[v1] 22 (0, 0))) (h2 : w.heap[g + 2]? = some (.cells #[.int .i64 us] 3 (0, 0))) :
    (results Tryz.f52 T).run Tryz.prog w = .ok (.tuple #[v1, .int .i64 us]) w := by
  have c1 := (one_cell h1).1
  have c2 := (one_cell h2).1
  simp [results, Tryz.results52, go_sem, t6, t7, asAddr, c1, c2]
  try simp [Result.andThen, c1, c2]
/-- a prime of the first candidate that gives one, or none -/
def First (C F : Nat → Nat) (T sz : Nat) (w : World) (r : Ending) (w' : World) : Prop :=
  ((∃ k, k < T ∧ (∀ i, i < k → primeN (F (C i)) b12 = false) ∧ primeN (F (C k)) b12 = true ∧ ∃ A n c xs, r = .returned (.tuple #[.slice A n c, .int .i64 (((k + 1) * sz : Nat) : Int)]) ∧ Nt w' w'.heap.size A n c xs ∧ Trm xs ∧ val 18446744073709551616 xs = F (C k)) ∨
    ((∀ i, i < T → primeN (F (C i)) b12 = false) ∧ r = .returned (.tuple #[.slice none 0 0, .int .i64 0]))) ∧ Below w.heap.size w w'
theorem pr_snoc {C F : Nat → Nat} {k : Nat} (h : ∀ i, i < k → primeN (F (C i)) b12 = false) (h1 : primeN (F (C k)) b12 = false) : ∀ i, i < k + 1 → primeN (F (C i)) b12 = false := fun i hi => by
  rcases Nat.lt_or_ge i k with h2 | h2
  · exact h i h2
  · rw [show i = k by omega]; exact h1
theorem cands_yields1 {w0 w w3 : World} {A : Option Addr} {n c d q sz : Nat} {bs : List Nat} (h : Nb w w.heap.size A n c bs) (hn : n ≤ 1099511627776) (hd : 8 ≤ d) (hd2 : d ≤ 512) (hq : q ≤ 7) (hsz : d + q = 8 * sz) (hz : w.heap.size + 3 ≤ w0.heap.size) (hb0 : Below w.heap.size w w0) (hC : Cd w0 w3 A n c d 1) :
    Yields2 Fence.wide 8 Tryz.prog 107 #[.pointer (some ⟨w0.heap.size, 0, none⟩), .pointer (some ⟨w0.heap.size + 3, 0, none⟩), .pointer (some ⟨w0.heap.size + 1, 0, none⟩), .pointer (some ⟨w0.heap.size + 2, 0, none⟩)] w3.heap.size (n / sz) (Gc bs sz d 1) (Kc (okF w)) w3 := by
  intro l J Jx W hbW hJ hY h0
  have hs := hC.size
  have e1 : (d + 7) / 8 = sz := by omega
  have c2 := hC.c2
  rw [e1] at c2
  have hbw := bthen hb0 (bthen hC.bel hbW)
  refine cands_in l w0.heap.size (w0.heap.size + 3) (w0.heap.size + 1) (w0.heap.size + 2) hn (by omega) (by omega) hq hsz (by omega) (by omega) (okF w) (.inr hz) (.inr (by omega)) (.inr (by omega)) (.inr (by omega)) (n / sz) rfl J Jx hY hJ W
    ((hbW.cell (p := ⟨w0.heap.size, 0, none⟩) (by dsimp only; omega)).trans hC.c1) ((hbW.cell (p := ⟨w0.heap.size + 3, 0, none⟩) (by dsimp only; omega)).trans c2) ((hbW.cell (p := ⟨w0.heap.size + 1, 0, none⟩) (by dsimp only; omega)).trans hC.c3) ((hbW.cell (p := ⟨w0.heap.size + 2, 0, none⟩) (by dsimp only; omega)).trans hC.c4)
    (h.up hbw) (fun h0 => ?_) h0
  obtain ⟨b, off, hA, hb, _⟩ := h.cell h0
  exact ⟨b, off, hA, .inl (Nat.le_of_lt hb)⟩
set_option maxHeartbeats 4000000 in
theorem first_id {w : World} {A : Option Addr} {n c d q sz : Nat} {bs : List Nat} (h : Nb w w.heap.size A n c bs) (hn : n ≤ 1099511627776) (hd : 8 ≤ d) (hd2 : d ≤ 512) (hq : q ≤ 7) (hsz : d + q = 8 * sz) (F : Nat → Nat) (hFl : ∀ k, F (c1N bs sz d k) < 18446744073709551616 ^ 200)
    (hof : ∀ W A n c xs, Below w.heap.size w W → Nt W W.heap.size A n c xs → Trm xs → n ≤ 100 → 1 ≤ val 18446744073709551616 xs → Calls Tryz.prog 53 #[.slice A n c] W (RetN (F (val 18446744073709551616 xs)) W)) :
    Calls Tryz.prog 52 #[.slice A n c, .int .i64 (d : Int), .func (.func 53) #[] #[]] w (First (c1N bs sz d) F (n / sz) sz w) := by
  have HCd := Lib.hid (candidates_any A n c d 1 (by omega))
  have Hh := Lib.hid h
  have HOF := Lib.hid hof
  have HFl := Lib.hid hFl
  have hr : ∀ args w, (callFunc 53 args).run Tryz.prog w = .ok (.enter 53 args) w := fun args w => by kernel_rfl
  clear h hof hFl
  refine (callsIn_wide (n := 9)).1 ?_
  refine callsIn_of_wp_marks Tryz.func52 rfl trivial ?_ rfl
  simp only [Tryz.ntmps52, List.size_toArray, List.length_cons, List.length_nil, Nat.reduceAdd, Nat.reduceSub, Array.replicate_succ, Array.replicate_zero, List.push_toArray, List.append_toArray, List.nil_append, List.cons_append]
  gi_wp2_with fail
  obtain ⟨w2, e2⟩ : ∃ w2, w2 = ((w.alloc (.cells #[.func (.func 53) #[] #[]] 58)).alloc (.cells #[Value.slice none 0 0] 22)).alloc (.cells #[.int .i64 0] 3) := ⟨_, rfl⟩
  rw [← e2]
  refine ⟨trivial, (callsIn_wide.2 (HCd.out w2)).mono ?_⟩
  rintro r w3 ⟨rfl, hC⟩
  have HV0 := Lib.hid (show Vq w w2 (.func (.func 53) #[] #[]) from e2 ▸ Vq.new w _)
  clear e2
  have HY := Lib.hid (cands_yields1 Hh.out hn hd hd2 hq hsz HV0.out.size HV0.out.bel hC)
  have HV3 := Lib.hid (HV0.out.up hC.bel)
  clear hC
  gi_wp2_with fail
  obtain ⟨C, hCN⟩ : ∃ C, C = c1N bs sz d := ⟨_, rfl⟩
  have HCN := Lib.hid hCN
  have HS3 := Lib.hid HV3.out.size
  clear hCN
  refine range_val (N := n / sz) (G := Gc bs sz d 1) (Kp := Kc (okF w)) rfl (by omega) rfl trivial (fun args w => by kernel_rfl) HY.out ?hps ?hG (fun A B C h k => h.trans k) (fun A l r r' _ h => Kc.put h)
    (fun k W => Vq w W (.func (.func 53) #[] #[]) ∧ (∀ i, i < k → primeN (F (C i)) b12 = false) ∧ w3.heap.size ≤ W.heap.size)
    (fun k W => (∀ i, i < k → primeN (F (C i)) b12 = false) ∧ primeN (F (C k)) b12 = true ∧ Dq w W (F (C k)) (((k + 1) * sz : Nat) : Int)) ?hJ ?hJx ?h0
    (fun k vs => { tmps := List.toArray ((Value.slice A n c : Value) :: (.int .i64 (d : Int) : Value) :: (.func (.func 53) #[] #[] : Value) :: undef :: undef :: (.pointer (some ⟨w.heap.size, 0, none⟩) : Value) :: (.pointer (some ⟨w.heap.size + 1, 0, none⟩) : Value) :: (.pointer (some ⟨w.heap.size + 2, 0, none⟩) : Value) :: (vs.getD 0 undef : Value) :: (vs.getD 1 undef : Value) :: undef :: (.slice A n c : Value) :: (.int .i64 (d : Int) : Value) :: (.func (.func 107) #[] #[.pointer (some ⟨w2.heap.size, 0, none⟩), .pointer (some ⟨w2.heap.size + 3, 0, none⟩), .pointer (some ⟨w2.heap.size + 1, 0, none⟩), .pointer (some ⟨w2.heap.size + 2, 0, none⟩)] : Value) :: (vs.getD 0 undef : Value) :: (vs.getD 1 undef : Value) :: undef :: undef :: undef :: undef :: undef :: undef :: undef :: []), defers := [] })
    ?hassign ?hbody ?hdone ?hstop
  case hps =>
    rintro k vs W ⟨A1, n1, c1, xs, rfl, _⟩
    rfl
  case hG =>
    rintro k vs W W' row ⟨A1, n1, c1, xs, rfl, h1, h2, h3⟩ hg hr
    exact ⟨A1, n1, c1, xs, rfl, h1.own hg (fun r e => (hr r e).2), h2, h3⟩
  case hJ =>
    rintro k W W' row ⟨h1, h2, h3⟩ hg hr
    exact ⟨h1.own hg (fun r e => ⟨Nat.le_trans HS3.out (hr r e).1, (hr r e).2⟩), h2, Nat.le_trans h3 hg.size⟩
  case hJx =>
    rintro k W W' row ⟨h1, h2, h3⟩ hg hr
    exact ⟨h1, h2, h3.own hg (fun r e => ⟨Nat.le_trans HS3.out (hr r e).1, (hr r e).2⟩)⟩
  case h0 => exact ⟨HV3.out, fun i hi => absurd hi (Nat.not_lt_zero i), Nat.le_refl _⟩
  case hassign =>
    rintro l k vs W K ⟨A1, n1, c1, xs, rfl, _⟩ hK
    change K { tmps := List.toArray ((Value.slice A n c : Value) :: (.int .i64 (d : Int) : Value) :: (.func (.func 53) #[] #[] : Value) :: undef :: undef :: (.pointer (some ⟨w.heap.size, 0, none⟩) : Value) :: (.pointer (some ⟨w.heap.size + 1, 0, none⟩) : Value) :: (.pointer (some ⟨w.heap.size + 2, 0, none⟩) : Value) :: (.int .i64 (((k + 1) * sz : Nat) : Int) : Value) :: (.slice A1 n1 c1 : Value) :: undef :: (.slice A n c : Value) :: (.int .i64 (d : Int) : Value) :: (.func (.func 107) #[] #[.pointer (some ⟨w2.heap.size, 0, none⟩), .pointer (some ⟨w2.heap.size + 3, 0, none⟩), .pointer (some ⟨w2.heap.size + 1, 0, none⟩), .pointer (some ⟨w2.heap.size + 2, 0, none⟩)] : Value) :: (.int .i64 (((k + 1) * sz : Nat) : Int) : Value) :: (.slice A1 n1 c1 : Value) :: undef :: undef :: undef :: undef :: undef :: undef :: undef :: []), defers := [] } W at hK
    simp only [zip_two, List.setIfInBounds_toArray, List.set_cons_succ, List.set_cons_zero]
    gi_wp2
    exact hK
  case hbody =>
    rintro l k vs W ⟨h1, h2, h3⟩ hk ⟨A1, n1, c1, xs, rfl, m1, t1, u1⟩
    have hCk := c1N_lt bs sz d hd hd2 k
    have u1' : val 18446744073709551616 xs = C k := by rw [HCN.out]; exact u1
    rw [← HCN.out] at hCk
    have l1 : n1 ≤ 8 := len_le t1 m1.len (by rw [u1']; exact hCk.1)
    have q0 := (one_cell h1.v1).1
    have hcl := HOF.out W A1 n1 c1 xs h1.bel m1 t1 (by omega) (by rw [u1']; exact hCk.2)
    rw [u1'] at hcl
    have Hcl := Lib.hid hcl
    have H1 := Lib.hid h1
    have H2 := Lib.hid h2
    have H3 := Lib.hid h3
    have HFk : Hid (F (C k) < 18446744073709551616 ^ 200) := by rw [HCN.out]; exact HFl.out k
    clear h1 h2 h3 m1 t1 u1 u1' hCk hcl
    change Code.wpIn _ _ _ _ _ { tmps := List.toArray ((Value.slice A n c : Value) :: (.int .i64 (d : Int) : Value) :: (.func (.func 53) #[] #[] : Value) :: undef :: undef :: (.pointer (some ⟨w.heap.size, 0, none⟩) : Value) :: (.pointer (some ⟨w.heap.size + 1, 0, none⟩) : Value) :: (.pointer (some ⟨w.heap.size + 2, 0, none⟩) : Value) :: (.int .i64 (((k + 1) * sz : Nat) : Int) : Value) :: (.slice A1 n1 c1 : Value) :: undef :: (.slice A n c : Value) :: (.int .i64 (d : Int) : Value) :: (.func (.func 107) #[] #[.pointer (some ⟨w2.heap.size, 0, none⟩), .pointer (some ⟨w2.heap.size + 3, 0, none⟩), .pointer (some ⟨w2.heap.size + 1, 0, none⟩), .pointer (some ⟨w2.heap.size + 2, 0, none⟩)] : Value) :: (.int .i64 (((k + 1) * sz : Nat) : Int) : Value) :: (.slice A1 n1 c1 : Value) :: undef :: undef :: undef :: undef :: undef :: undef :: undef :: []), defers := [] } W
    gi_wp2_with fail
    refine ⟨trivial, (CallsIn.inRound l (callsIn_wide.2 Hcl.out)).mono ?_⟩
    rintro r w4 ⟨A4, n4, c4, x4, rfl, m4, t4, v4, b4⟩
    have l4 : n4 ≤ 200 := len_le t4 m4.len (by rw [v4]; exact HFk.out)
    have Hps := Lib.hid (passes_any m4 v4 (by omega))
    have HB4 := Lib.hid b4
    have M4 := Lib.hid m4
    have T4 := Lib.hid t4
    have U4 := Lib.hid v4
    clear m4 t4 v4 b4 q0
    gi_wp2_with fail
    refine ⟨trivial, (CallsIn.inRound l (callsIn_wide.2 Hps.out)).mono ?_⟩
    rintro r w5 ⟨rfl, b5⟩
    have HB5 := Lib.hid (bthen HB4.out b5)
    have M5 := Lib.hid (M4.out.up b5)
    have HV5 := Lib.hid (H1.out.up HB5.out)
    clear b5 Hps Hcl
    cases hgd : primeN (F (C k)) b12 with
    | false =>
      have Hgd := Lib.hid hgd
      clear hgd
      gi_wp2_with fail
      first
        | exact ⟨KeepsBook.of_below HB5.out, Kc.of_below HB5.out, HV5.out, pr_snoc H2.out Hgd.out, Nat.le_trans H3.out HB5.out.size⟩
        | (refine ⟨trivial, ?_⟩
           gi_wp2_with fail
           exact ⟨KeepsBook.of_below HB5.out, Kc.of_below HB5.out, HV5.out, pr_snoc H2.out Hgd.out, Nat.le_trans H3.out HB5.out.size⟩)
    | true =>
      have Hgd := Lib.hid hgd
      clear hgd
      obtain ⟨q1, q2⟩ := one_cell HV5.out.v2
      obtain ⟨q3, q4⟩ := one_cell HV5.out.v3
      gi_wp2_with fail
      have d1 := M5.out.not_box HV5.out.v2 (fun j x hj => by rcases j with _ | j <;> simp at hj)
      have d2 := M5.out.not_box HV5.out.v3 (fun j x hj => by rcases j with _ | j <;> simp at hj)
      have hs5 := HV5.out.size
      have y1 : ((w5.setCell ⟨w.heap.size + 1, 0, none⟩ (.slice A4 n4 c4)).setCell ⟨w.heap.size + 2, 0, none⟩ (.int .i64 (((k + 1) * sz : Nat) : Int))).heap[w.heap.size + 1]? = some (.cells #[.slice A4 n4 c4] 22 (0, 0)) := by
        rw [Below.heap_setCell _ _ _ _ (by simp)]; exact one_set HV5.out.v2
      have y2 : ((w5.setCell ⟨w.heap.size + 1, 0, none⟩ (.slice A4 n4 c4)).setCell ⟨w.heap.size + 2, 0, none⟩ (.int .i64 (((k + 1) * sz : Nat) : Int))).heap[w.heap.size + 2]? = some (.cells #[.int .i64 (((k + 1) * sz : Nat) : Int)] 3 (0, 0)) :=
        one_set (by rw [Below.heap_setCell _ _ _ _ (by simp)]; exact HV5.out.v3)
      have k1 : (w5.setCell ⟨w.heap.size + 1, 0, none⟩ (.slice A4 n4 c4)).heap[w.heap.size + 2]? = some (.cells #[.int .i64 0] 3 (0, 0)) := by rw [Below.heap_setCell _ _ _ _ (by simp)]; exact HV5.out.v3
      have y3 := (M5.out.away (k := 0) (v := .slice A4 n4 c4) d1).away (k := 0) (v := .int .i64 (((k + 1) * sz : Nat) : Int)) d2
      have hsz5 : ((w5.setCell ⟨w.heap.size + 1, 0, none⟩ (.slice A4 n4 c4)).setCell ⟨w.heap.size + 2, 0, none⟩ (.int .i64 (((k + 1) * sz : Nat) : Int))).heap.size = w5.heap.size := by simp
      have hb5 : Below w.heap.size w ((w5.setCell ⟨w.heap.size + 1, 0, none⟩ (.slice A4 n4 c4)).setCell ⟨w.heap.size + 2, 0, none⟩ (.int .i64 (((k + 1) * sz : Nat) : Int))) := (HV5.out.bel.setCell (by simp) _).setCell (by simp) _
      have hkb : KeepsBook W ((w5.setCell ⟨w.heap.size + 1, 0, none⟩ (.slice A4 n4 c4)).setCell ⟨w.heap.size + 2, 0, none⟩ (.int .i64 (((k + 1) * sz : Nat) : Int))) := ((KeepsBook.of_below HB5.out).trans (KeepsBook.set HV5.out.v2 _)).trans (KeepsBook.set k1 _)
      have hkc : Kc (okF w) W ((w5.setCell ⟨w.heap.size + 1, 0, none⟩ (.slice A4 n4 c4)).setCell ⟨w.heap.size + 2, 0, none⟩ (.int .i64 (((k + 1) * sz : Nat) : Int))) := ((Kc.of_below HB5.out).trans (Kc.set (by unfold okF; omega) _)).trans (Kc.set (by unfold okF; omega) _)
      rw [← hsz5] at y3
      have hdq : Dq w ((w5.setCell ⟨w.heap.size + 1, 0, none⟩ (.slice A4 n4 c4)).setCell ⟨w.heap.size + 2, 0, none⟩ (.int .i64 (((k + 1) * sz : Nat) : Int))) (F (C k)) (((k + 1) * sz : Nat) : Int) := ⟨⟨A4, n4, c4, x4, y1, y2, y3, T4.out, U4.out⟩, by rw [hsz5]; exact hs5, hb5⟩
      have e9 : ((k : Int) + 1) * (sz : Int) = (((k + 1) * sz : Nat) : Int) := by simp
      rw [e9]
      exact ⟨hkb, hkc, H2.out, Hgd.out, hdq⟩
  case hdone =>
    intro D W hD ⟨h1, h2, h3⟩ hd
    obtain ⟨q1, q2⟩ := one_cell h1.v2
    obtain ⟨q3, q4⟩ := one_cell h1.v3
    have H1 := Lib.hid h1
    have H2 := Lib.hid h2
    have HD := Lib.hid hd
    have HDl := Lib.hid hD
    clear h1 h2 hd hD
    change Exit.inBlock 0 _ Exit.normal { tmps := List.toArray ((Value.slice A n c : Value) :: (.int .i64 (d : Int) : Value) :: (.func (.func 53) #[] #[] : Value) :: undef :: undef :: (.pointer (some ⟨w.heap.size, 0, none⟩) : Value) :: (.pointer (some ⟨w.heap.size + 1, 0, none⟩) : Value) :: (.pointer (some ⟨w.heap.size + 2, 0, none⟩) : Value) :: (undef : Value) :: (undef : Value) :: undef :: (.slice A n c : Value) :: (.int .i64 (d : Int) : Value) :: (.func (.func 107) #[] #[.pointer (some ⟨w2.heap.size, 0, none⟩), .pointer (some ⟨w2.heap.size + 3, 0, none⟩), .pointer (some ⟨w2.heap.size + 1, 0, none⟩), .pointer (some ⟨w2.heap.size + 2, 0, none⟩)] : Value) :: (undef : Value) :: (undef : Value) :: undef :: undef :: undef :: undef :: undef :: undef :: undef :: []), defers := [{ target := .collected D, args := #[] }] } W
    gi_wp2_with fail
    have hw := H1.out.size
    have hS := HS3.out
    have hDl := HDl.out
    obtain ⟨W5, hW5⟩ : ∃ W5, W5 = (W.setCell ⟨w.heap.size + 1, 0, none⟩ (.slice none 0 0)).setCell ⟨w.heap.size + 2, 0, none⟩ (.int .i64 0) := ⟨_, rfl⟩
    rw [← hW5]
    have x1 : W5.heap[w.heap.size + 1]? = some (.cells #[.slice none 0 0] 22 (0, 0)) := by
      rw [hW5, Below.heap_setCell _ _ _ _ (by simp)]; exact one_set H1.out.v2
    have x2 : W5.heap[w.heap.size + 2]? = some (.cells #[.int .i64 0] 3 (0, 0)) := by
      rw [hW5]; exact one_set (by rw [Below.heap_setCell _ _ _ _ (by simp)]; exact H1.out.v3)
    have xD : W5.heap[D]? = some (.deferred (some [])) := by
      rw [hW5, Below.heap_setCell _ _ _ _ (by simp only; omega), Below.heap_setCell _ _ _ _ (by simp only; omega)]; exact HD.out
    have xb : Below w.heap.size w (W5.putObj D (.deferred none)) := by
      rw [hW5]
      exact ((H1.out.bel.setCell (by simp) _).setCell (by simp) _).grown (grownBy_putObj' _ D _) (Nat.le_trans H1.out.bel.size (by simp)) (fun k e => by cases e; omega)
    refine ⟨by simp, .inl ⟨_, _, rfl, run_takeDeferred xD, ?_⟩⟩
    refine ⟨_, results_two (g := w.heap.size) rfl rfl ((World.putObj_heap_other (by omega)).trans x1) ((World.putObj_heap_other (by omega)).trans x2), ?_⟩
    refine ⟨.inr ⟨?_, rfl⟩, xb⟩
    rw [← HCN.out]
    exact H2.out
  case hstop =>
    intro D k W hD hk ⟨h1, h2, h3⟩ hd
    have H1 := Lib.hid h1
    have H2 := Lib.hid h2
    have H3 := Lib.hid h3
    have HD := Lib.hid hd
    have HDl := Lib.hid hD
    clear h1 h2 hd hD h3
    change Code.wpIn _ _ _ _ _ { tmps := List.toArray ((Value.slice A n c : Value) :: (.int .i64 (d : Int) : Value) :: (.func (.func 53) #[] #[] : Value) :: undef :: undef :: (.pointer (some ⟨w.heap.size, 0, none⟩) : Value) :: (.pointer (some ⟨w.heap.size + 1, 0, none⟩) : Value) :: (.pointer (some ⟨w.heap.size + 2, 0, none⟩) : Value) :: (undef : Value) :: (undef : Value) :: undef :: (.slice A n c : Value) :: (.int .i64 (d : Int) : Value) :: (.func (.func 107) #[] #[.pointer (some ⟨w2.heap.size, 0, none⟩), .pointer (some ⟨w2.heap.size + 3, 0, none⟩), .pointer (some ⟨w2.heap.size + 1, 0, none⟩), .pointer (some ⟨w2.heap.size + 2, 0, none⟩)] : Value) :: (undef : Value) :: (undef : Value) :: undef :: undef :: undef :: undef :: undef :: undef :: undef :: []), defers := [{ target := .collected D, args := #[] }] } W
    gi_wp2_with fail
    have hS := HS3.out
    have hDl := HDl.out
    obtain ⟨A4, n4, c4, x4, x1, x2, x3, x5, x6⟩ := H3.out.ex
    have xb : Below w.heap.size w (W.putObj D (.deferred none)) := H3.out.bel.grown (grownBy_putObj' _ D _) H3.out.bel.size (fun k e => by cases e; omega)
    refine ⟨by simp, .inl ⟨_, _, rfl, run_takeDeferred HD.out, ?_⟩⟩
    refine ⟨_, results_two (g := w.heap.size) rfl rfl ((World.putObj_heap_other (by omega)).trans x1) ((World.putObj_heap_other (by omega)).trans x2), ?_⟩
    refine ⟨.inl ⟨k, hk, ?_, ?_, A4, n4, c4, x4, rfl, x3.own (grownBy_putObj' _ D _) (fun r e => by cases e; exact ⟨_, HD.out, rfl⟩), x5, ?_⟩, xb⟩
    · rw [← HCN.out]; exact H1.out
    · rw [← HCN.out]; exact H2.out
    · rw [← HCN.out]; exact x6
set_option maxHeartbeats 4000000 in
theorem first_mul {w : World} {A : Option Addr} {n c d q sz : Nat} {bs : List Nat} (h : Nb w w.heap.size A n c bs) (hn : n ≤ 1099511627776) (hd : 8 ≤ d) (hd2 : d ≤ 512) (hq : q ≤ 7) (hsz : d + q = 8 * sz) (F : Nat → Nat) (hFl : ∀ k, F (c1N bs sz d k) < 18446744073709551616 ^ 200) {gq : Nat}
    (hof : ∀ W A n c xs, Below w.heap.size w W → Nt W W.heap.size A n c xs → Trm xs → n ≤ 100 → 1 ≤ val 18446744073709551616 xs → Calls Tryz.prog 54 #[.slice A n c, .pointer (some ⟨gq, 0, none⟩)] W (RetN (F (val 18446744073709551616 xs)) W)) :
    Calls Tryz.prog 52 #[.slice A n c, .int .i64 (d : Int), .func (.func 54) #[] #[.pointer (some ⟨gq, 0, none⟩)]] w (First (c1N bs sz d) F (n / sz) sz w) := by
  have HCd := Lib.hid (candidates_any A n c d 1 (by omega))
  have Hh := Lib.hid h
  have HOF := Lib.hid hof
  have HFl := Lib.hid hFl
  have hr : ∀ args w, (callFunc 54 args).run Tryz.prog w = .ok (.enter 54 args) w := fun args w => by kernel_rfl
  clear h hof hFl
  refine (callsIn_wide (n := 9)).1 ?_
  refine callsIn_of_wp_marks Tryz.func52 rfl trivial ?_ rfl
  simp only [Tryz.ntmps52, List.size_toArray, List.length_cons, List.length_nil, Nat.reduceAdd, Nat.reduceSub, Array.replicate_succ, Array.replicate_zero, List.push_toArray, List.append_toArray, List.nil_append, List.cons_append]
  gi_wp2_with fail
  obtain ⟨w2, e2⟩ : ∃ w2, w2 = ((w.alloc (.cells #[.func (.func 54) #[] #[.pointer (some ⟨gq, 0, none⟩)]] 58)).alloc (.cells #[Value.slice none 0 0] 22)).alloc (.cells #[.int .i64 0] 3) := ⟨_, rfl⟩
  rw [← e2]
  refine ⟨trivial, (callsIn_wide.2 (HCd.out w2)).mono ?_⟩
  rintro r w3 ⟨rfl, hC⟩
  have HV0 := Lib.hid (show Vq w w2 (.func (.func 54) #[] #[.pointer (some ⟨gq, 0, none⟩)]) from e2 ▸ Vq.new w _)
  clear e2
  have HY := Lib.hid (cands_yields1 Hh.out hn hd hd2 hq hsz HV0.out.size HV0.out.bel hC)
  have HV3 := Lib.hid (HV0.out.up hC.bel)
  clear hC
  gi_wp2_with fail
  obtain ⟨C, hCN⟩ : ∃ C, C = c1N bs sz d := ⟨_, rfl⟩
  have HCN := Lib.hid hCN
  have HS3 := Lib.hid HV3.out.size
  clear hCN
  refine range_val (N := n / sz) (G := Gc bs sz d 1) (Kp := Kc (okF w)) rfl (by omega) rfl trivial (fun args w => by kernel_rfl) HY.out ?hps ?hG (fun A B C h k => h.trans k) (fun A l r r' _ h => Kc.put h)
    (fun k W => Vq w W (.func (.func 54) #[] #[.pointer (some ⟨gq, 0, none⟩)]) ∧ (∀ i, i < k → primeN (F (C i)) b12 = false) ∧ w3.heap.size ≤ W.heap.size)
    (fun k W => (∀ i, i < k → primeN (F (C i)) b12 = false) ∧ primeN (F (C k)) b12 = true ∧ Dq w W (F (C k)) (((k + 1) * sz : Nat) : Int)) ?hJ ?hJx ?h0
    (fun k vs => { tmps := List.toArray ((Value.slice A n c : Value) :: (.int .i64 (d : Int) : Value) :: (.func (.func 54) #[] #[.pointer (some ⟨gq, 0, none⟩)] : Value) :: undef :: undef :: (.pointer (some ⟨w.heap.size, 0, none⟩) : Value) :: (.pointer (some ⟨w.heap.size + 1, 0, none⟩) : Value) :: (.pointer (some ⟨w.heap.size + 2, 0, none⟩) : Value) :: (vs.getD 0 undef : Value) :: (vs.getD 1 undef : Value) :: undef :: (.slice A n c : Value) :: (.int .i64 (d : Int) : Value) :: (.func (.func 107) #[] #[.pointer (some ⟨w2.heap.size, 0, none⟩), .pointer (some ⟨w2.heap.size + 3, 0, none⟩), .pointer (some ⟨w2.heap.size + 1, 0, none⟩), .pointer (some ⟨w2.heap.size + 2, 0, none⟩)] : Value) :: (vs.getD 0 undef : Value) :: (vs.getD 1 undef : Value) :: undef :: undef :: undef :: undef :: undef :: undef :: undef :: []), defers := [] })
    ?hassign ?hbody ?hdone ?hstop
  case hps =>
    rintro k vs W ⟨A1, n1, c1, xs, rfl, _⟩
    rfl
  case hG =>
    rintro k vs W W' row ⟨A1, n1, c1, xs, rfl, h1, h2, h3⟩ hg hr
    exact ⟨A1, n1, c1, xs, rfl, h1.own hg (fun r e => (hr r e).2), h2, h3⟩
  case hJ =>
    rintro k W W' row ⟨h1, h2, h3⟩ hg hr
    exact ⟨h1.own hg (fun r e => ⟨Nat.le_trans HS3.out (hr r e).1, (hr r e).2⟩), h2, Nat.le_trans h3 hg.size⟩
  case hJx =>
    rintro k W W' row ⟨h1, h2, h3⟩ hg hr
    exact ⟨h1, h2, h3.own hg (fun r e => ⟨Nat.le_trans HS3.out (hr r e).1, (hr r e).2⟩)⟩
  case h0 => exact ⟨HV3.out, fun i hi => absurd hi (Nat.not_lt_zero i), Nat.le_refl _⟩
  case hassign =>
    rintro l k vs W K ⟨A1, n1, c1, xs, rfl, _⟩ hK
    change K { tmps := List.toArray ((Value.slice A n c : Value) :: (.int .i64 (d : Int) : Value) :: (.func (.func 54) #[] #[.pointer (some ⟨gq, 0, none⟩)] : Value) :: undef :: undef :: (.pointer (some ⟨w.heap.size, 0, none⟩) : Value) :: (.pointer (some ⟨w.heap.size + 1, 0, none⟩) : Value) :: (.pointer (some ⟨w.heap.size + 2, 0, none⟩) : Value) :: (.int .i64 (((k + 1) * sz : Nat) : Int) : Value) :: (.slice A1 n1 c1 : Value) :: undef :: (.slice A n c : Value) :: (.int .i64 (d : Int) : Value) :: (.func (.func 107) #[] #[.pointer (some ⟨w2.heap.size, 0, none⟩), .pointer (some ⟨w2.heap.size + 3, 0, none⟩), .pointer (some ⟨w2.heap.size + 1, 0, none⟩), .pointer (some ⟨w2.heap.size + 2, 0, none⟩)] : Value) :: (.int .i64 (((k + 1) * sz : Nat) : Int) : Value) :: (.slice A1 n1 c1 : Value) :: undef :: undef :: undef :: undef :: undef :: undef :: undef :: []), defers := [] } W at hK
    simp only [zip_two, List.setIfInBounds_toArray, List.set_cons_succ, List.set_cons_zero]
    gi_wp2
    exact hK
  case hbody =>
    rintro l k vs W ⟨h1, h2, h3⟩ hk ⟨A1, n1, c1, xs, rfl, m1, t1, u1⟩
    have hCk := c1N_lt bs sz d hd hd2 k
    have u1' : val 18446744073709551616 xs = C k := by rw [HCN.out]; exact u1
    rw [← HCN.out] at hCk
    have l1 : n1 ≤ 8 := len_le t1 m1.len (by rw [u1']; exact hCk.1)
    have q0 := (one_cell h1.v1).1
    have hcl := HOF.out W A1 n1 c1 xs h1.bel m1 t1 (by omega) (by rw [u1']; exact hCk.2)
    rw [u1'] at hcl
    have Hcl := Lib.hid hcl
    have H1 := Lib.hid h1
    have H2 := Lib.hid h2
    have H3 := Lib.hid h3
    have HFk : Hid (F (C k) < 18446744073709551616 ^ 200) := by rw [HCN.out]; exact HFl.out k
    clear h1 h2 h3 m1 t1 u1 u1' hCk hcl
    change Code.wpIn _ _ _ _ _ { tmps := List.toArray ((Value.slice A n c : Value) :: (.int .i64 (d : Int) : Value) :: (.func (.func 54) #[] #[.pointer (some ⟨gq, 0, none⟩)] : Value) :: undef :: undef :: (.pointer (some ⟨w.heap.size, 0, none⟩) : Value) :: (.pointer (some ⟨w.heap.size + 1, 0, none⟩) : Value) :: (.pointer (some ⟨w.heap.size + 2, 0, none⟩) : Value) :: (.int .i64 (((k + 1) * sz : Nat) : Int) : Value) :: (.slice A1 n1 c1 : Value) :: undef :: (.slice A n c : Value) :: (.int .i64 (d : Int) : Value) :: (.func (.func 107) #[] #[.pointer (some ⟨w2.heap.size, 0, none⟩), .pointer (some ⟨w2.heap.size + 3, 0, none⟩), .pointer (some ⟨w2.heap.size + 1, 0, none⟩), .pointer (some ⟨w2.heap.size + 2, 0, none⟩)] : Value) :: (.int .i64 (((k + 1) * sz : Nat) : Int) : Value) :: (.slice A1 n1 c1 : Value) :: undef :: undef :: undef :: undef :: undef :: undef :: undef :: []), defers := [] } W
    gi_wp2_with fail
    refine ⟨trivial, (CallsIn.inRound l (callsIn_wide.2 Hcl.out)).mono ?_⟩
    rintro r w4 ⟨A4, n4, c4, x4, rfl, m4, t4, v4, b4⟩
    have l4 : n4 ≤ 200 := len_le t4 m4.len (by rw [v4]; exact HFk.out)
    have Hps := Lib.hid (passes_any m4 v4 (by omega))
    have HB4 := Lib.hid b4
    have M4 := Lib.hid m4
    have T4 := Lib.hid t4
    have U4 := Lib.hid v4
    clear m4 t4 v4 b4 q0
    gi_wp2_with fail
    refine ⟨trivial, (CallsIn.inRound l (callsIn_wide.2 Hps.out)).mono ?_⟩
    rintro r w5 ⟨rfl, b5⟩
    have HB5 := Lib.hid (bthen HB4.out b5)
    have M5 := Lib.hid (M4.out.up b5)
    have HV5 := Lib.hid (H1.out.up HB5.out)
    clear b5 Hps Hcl
    cases hgd : primeN (F (C k)) b12 with
    | false =>
      have Hgd := Lib.hid hgd
      clear hgd
      gi_wp2_with fail
      first
        | exact ⟨KeepsBook.of_below HB5.out, Kc.of_below HB5.out, HV5.out, pr_snoc H2.out Hgd.out, Nat.le_trans H3.out HB5.out.size⟩
        | (refine ⟨trivial, ?_⟩
           gi_wp2_with fail
           exact ⟨KeepsBook.of_below HB5.out, Kc.of_below HB5.out, HV5.out, pr_snoc H2.out Hgd.out, Nat.le_trans H3.out HB5.out.size⟩)
    | true =>
      have Hgd := Lib.hid hgd
      clear hgd
      obtain ⟨q1, q2⟩ := one_cell HV5.out.v2
      obtain ⟨q3, q4⟩ := one_cell HV5.out.v3
      gi_wp2_with fail
      have d1 := M5.out.not_box HV5.out.v2 (fun j x hj => by rcases j with _ | j <;> simp at hj)
      have d2 := M5.out.not_box HV5.out.v3 (fun j x hj => by rcases j with _ | j <;> simp at hj)
      have hs5 := HV5.out.size
      have y1 : ((w5.setCell ⟨w.heap.size + 1, 0, none⟩ (.slice A4 n4 c4)).setCell ⟨w.heap.size + 2, 0, none⟩ (.int .i64 (((k + 1) * sz : Nat) : Int))).heap[w.heap.size + 1]? = some (.cells #[.slice A4 n4 c4] 22 (0, 0)) := by
        rw [Below.heap_setCell _ _ _ _ (by simp)]; exact one_set HV5.out.v2
      have y2 : ((w5.setCell ⟨w.heap.size + 1, 0, none⟩ (.slice A4 n4 c4)).setCell ⟨w.heap.size + 2, 0, none⟩ (.int .i64 (((k + 1) * sz : Nat) : Int))).heap[w.heap.size + 2]? = some (.cells #[.int .i64 (((k + 1) * sz : Nat) : Int)] 3 (0, 0)) :=
        one_set (by rw [Below.heap_setCell _ _ _ _ (by simp)]; exact HV5.out.v3)
      have k1 : (w5.setCell ⟨w.heap.size + 1, 0, none⟩ (.slice A4 n4 c4)).heap[w.heap.size + 2]? = some (.cells #[.int .i64 0] 3 (0, 0)) := by rw [Below.heap_setCell _ _ _ _ (by simp)]; exact HV5.out.v3
      have y3 := (M5.out.away (k := 0) (v := .slice A4 n4 c4) d1).away (k := 0) (v := .int .i64 (((k + 1) * sz : Nat) : Int)) d2
      have hsz5 : ((w5.setCell ⟨w.heap.size + 1, 0, none⟩ (.slice A4 n4 c4)).setCell ⟨w.heap.size + 2, 0, none⟩ (.int .i64 (((k + 1) * sz : Nat) : Int))).heap.size = w5.heap.size := by simp
      have hb5 : Below w.heap.size w ((w5.setCell ⟨w.heap.size + 1, 0, none⟩ (.slice A4 n4 c4)).setCell ⟨w.heap.size + 2, 0, none⟩ (.int .i64 (((k + 1) * sz : Nat) : Int))) := (HV5.out.bel.setCell (by simp) _).setCell (by simp) _
      have hkb : KeepsBook W ((w5.setCell ⟨w.heap.size + 1, 0, none⟩ (.slice A4 n4 c4)).setCell ⟨w.heap.size + 2, 0, none⟩ (.int .i64 (((k + 1) * sz : Nat) : Int))) := ((KeepsBook.of_below HB5.out).trans (KeepsBook.set HV5.out.v2 _)).trans (KeepsBook.set k1 _)
      have hkc : Kc (okF w) W ((w5.setCell ⟨w.heap.size + 1, 0, none⟩ (.slice A4 n4 c4)).setCell ⟨w.heap.size + 2, 0, none⟩ (.int .i64 (((k + 1) * sz : Nat) : Int))) := ((Kc.of_below HB5.out).trans (Kc.set (by unfold okF; omega) _)).trans (Kc.set (by unfold okF; omega) _)
      rw [← hsz5] at y3
      have hdq : Dq w ((w5.setCell ⟨w.heap.size + 1, 0, none⟩ (.slice A4 n4 c4)).setCell ⟨w.heap.size + 2, 0, none⟩ (.int .i64 (((k + 1) * sz : Nat) : Int))) (F (C k)) (((k + 1) * sz : Nat) : Int) := ⟨⟨A4, n4, c4, x4, y1, y2, y3, T4.out, U4.out⟩, by rw [hsz5]; exact hs5, hb5⟩
      have e9 : ((k : Int) + 1) * (sz : Int) = (((k + 1) * sz : Nat) : Int) := by simp
      rw [e9]
      exact ⟨hkb, hkc, H2.out, Hgd.out, hdq⟩
  case hdone =>
    intro D W hD ⟨h1, h2, h3⟩ hd
    obtain ⟨q1, q2⟩ := one_cell h1.v2
    obtain ⟨q3, q4⟩ := one_cell h1.v3
    have H1 := Lib.hid h1
    have H2 := Lib.hid h2
    have HD := Lib.hid hd
    have HDl := Lib.hid hD
    clear h1 h2 hd hD
    change Exit.inBlock 0 _ Exit.normal { tmps := List.toArray ((Value.slice A n c : Value) :: (.int .i64 (d : Int) : Value) :: (.func (.func 54) #[] #[.pointer (some ⟨gq, 0, none⟩)] : Value) :: undef :: undef :: (.pointer (some ⟨w.heap.size, 0, none⟩) : Value) :: (.pointer (some ⟨w.heap.size + 1, 0, none⟩) : Value) :: (.pointer (some ⟨w.heap.size + 2, 0, none⟩) : Value) :: (undef : Value) :: (undef : Value) :: undef :: (.slice A n c : Value) :: (.int .i64 (d : Int) : Value) :: (.func (.func 107) #[] #[.pointer (some ⟨w2.heap.size, 0, none⟩), .pointer (some ⟨w2.heap.size + 3, 0, none⟩), .pointer (some ⟨w2.heap.size + 1, 0, none⟩), .pointer (some ⟨w2.heap.size + 2, 0, none⟩)] : Value) :: (undef : Value) :: (undef : Value) :: undef :: undef :: undef :: undef :: undef :: undef :: undef :: []), defers := [{ target := .collected D, args := #[] }] } W
    gi_wp2_with fail
    have hw := H1.out.size
    have hS := HS3.out
    have hDl := HDl.out
    obtain ⟨W5, hW5⟩ : ∃ W5, W5 = (W.setCell ⟨w.heap.size + 1, 0, none⟩ (.slice none 0 0)).setCell ⟨w.heap.size + 2, 0, none⟩ (.int .i64 0) := ⟨_, rfl⟩
    rw [← hW5]
    have x1 : W5.heap[w.heap.size + 1]? = some (.cells #[.slice none 0 0] 22 (0, 0)) := by
      rw [hW5, Below.heap_setCell _ _ _ _ (by simp)]; exact one_set H1.out.v2
    have x2 : W5.heap[w.heap.size + 2]? = some (.cells #[.int .i64 0] 3 (0, 0)) := by
      rw [hW5]; exact one_set (by rw [Below.heap_setCell _ _ _ _ (by simp)]; exact H1.out.v3)
    have xD : W5.heap[D]? = some (.deferred (some [])) := by
      rw [hW5, Below.heap_setCell _ _ _ _ (by simp only; omega), Below.heap_setCell _ _ _ _ (by simp only; omega)]; exact HD.out
    have xb : Below w.heap.size w (W5.putObj D (.deferred none)) := by
      rw [hW5]
      exact ((H1.out.bel.setCell (by simp) _).setCell (by simp) _).grown (grownBy_putObj' _ D _) (Nat.le_trans H1.out.bel.size (by simp)) (fun k e => by cases e; omega)
    refine ⟨by simp, .inl ⟨_, _, rfl, run_takeDeferred xD, ?_⟩⟩
    refine ⟨_, results_two (g := w.heap.size) rfl rfl ((World.putObj_heap_other (by omega)).trans x1) ((World.putObj_heap_other (by omega)).trans x2), ?_⟩
    refine ⟨.inr ⟨?_, rfl⟩, xb⟩
    rw [← HCN.out]
    exact H2.out
  case hstop =>
    intro D k W hD hk ⟨h1, h2, h3⟩ hd
    have H1 := Lib.hid h1
    have H2 := Lib.hid h2
    have H3 := Lib.hid h3
    have HD := Lib.hid hd
    have HDl := Lib.hid hD
    clear h1 h2 hd hD h3
    change Code.wpIn _ _ _ _ _ { tmps := List.toArray ((Value.slice A n c : Value) :: (.int .i64 (d : Int) : Value) :: (.func (.func 54) #[] #[.pointer (some ⟨gq, 0, none⟩)] : Value) :: undef :: undef :: (.pointer (some ⟨w.heap.size, 0, none⟩) : Value) :: (.pointer (some ⟨w.heap.size + 1, 0, none⟩) : Value) :: (.pointer (some ⟨w.heap.size + 2, 0, none⟩) : Value) :: (undef : Value) :: (undef : Value) :: undef :: (.slice A n c : Value) :: (.int .i64 (d : Int) : Value) :: (.func (.func 107) #[] #[.pointer (some ⟨w2.heap.size, 0, none⟩), .pointer (some ⟨w2.heap.size + 3, 0, none⟩), .pointer (some ⟨w2.heap.size + 1, 0, none⟩), .pointer (some ⟨w2.heap.size + 2, 0, none⟩)] : Value) :: (undef : Value) :: (undef : Value) :: undef :: undef :: undef :: undef :: undef :: undef :: undef :: []), defers := [{ target := .collected D, args := #[] }] } W
    gi_wp2_with fail
    have hS := HS3.out
    have hDl := HDl.out
    obtain ⟨A4, n4, c4, x4, x1, x2, x3, x5, x6⟩ := H3.out.ex
    have xb : Below w.heap.size w (W.putObj D (.deferred none)) := H3.out.bel.grown (grownBy_putObj' _ D _) H3.out.bel.size (fun k e => by cases e; omega)
    refine ⟨by simp, .inl ⟨_, _, rfl, run_takeDeferred HD.out, ?_⟩⟩
    refine ⟨_, results_two (g := w.heap.size) rfl rfl ((World.putObj_heap_other (by omega)).trans x1) ((World.putObj_heap_other (by omega)).trans x2), ?_⟩
    refine ⟨.inl ⟨k, hk, ?_, ?_, A4, n4, c4, x4, rfl, x3.own (grownBy_putObj' _ D _) (fun r e => by cases e; exact ⟨_, HD.out, rfl⟩), x5, ?_⟩, xb⟩
    · rw [← HCN.out]; exact H1.out
    · rw [← HCN.out]; exact H2.out
    · rw [← HCN.out]; exact x6
end Go.Proofs.YtkhlmcknbangfaaGreatDoor
namespace Go.Proofs.YtkhlmcknbangfaaGreatDoor
open Go.RowKit
set_option linter.unusedVariables false
set_option linter.unusedSimpArgs false
set_option maxRecDepth 100000
/-- P of Q and a candidate -/
def pOf (Q c : Nat) : Nat := (c - 1) * Q + 1
def rNone (er : Int) : Ending := .returned (.tuple #[.agg #[.slice none 0 0, .slice none 0 0, .slice none 0 0], .int .i64 0, .int .i64 er])
/-- the parameters, with the least power, or none -/
def MadeG (P Q ev u : Nat) (r : Ending) (w' : World) : Prop :=
  ((∀ h, 2 ≤ h → h ≤ 999 → genN P Q (h ^ ev % P) = false) ∧ r = rNone 60) ∨
    ∃ h, 2 ≤ h ∧ h ≤ 999 ∧ (∀ i, 2 ≤ i → i < h → genN P Q (i ^ ev % P) = false) ∧ genN P Q (h ^ ev % P) = true ∧ ∃ A1 n1 c1 x1 A2 n2 c2 x2 A3 n3 c3 x3, r = .returned (.tuple #[.agg #[.slice A1 n1 c1, .slice A2 n2 c2, .slice A3 n3 c3], .int .i64 (u : Int), .int .i64 0]) ∧
      Nt w' w'.heap.size A1 n1 c1 x1 ∧ Trm x1 ∧ val 18446744073709551616 x1 = P ∧ Nt w' w'.heap.size A2 n2 c2 x2 ∧ Trm x2 ∧ val 18446744073709551616 x2 = Q ∧ Nt w' w'.heap.size A3 n3 c3 x3 ∧ Trm x3 ∧ val 18446744073709551616 x3 = h ^ ev % P
/-- the first P of Q, or none -/
def MadeP (bs : List Nat) (sz pd Q u : Nat) (r : Ending) (w' : World) : Prop :=
  ((∀ j, j < bs.length / sz → primeN (pOf Q (c1N bs sz pd j)) b12 = false) ∧ r = rNone 52) ∨
    ∃ j c, j < bs.length / sz ∧ (∀ i, i < j → primeN (pOf Q (c1N bs sz pd i)) b12 = false) ∧ c = c1N bs sz pd j ∧ primeN (pOf Q c) b12 = true ∧ MadeG (pOf Q c) Q (c - 1) (u + (j + 1) * sz) r w'
/-- the first Q, or none -/
def MadeQ (bs : List Nat) (sz qd sp pd : Nat) (w : World) (r : Ending) (w' : World) : Prop :=
  (((∀ i, i < bs.length / sz → primeN (c1N bs sz qd i) b12 = false) ∧ r = rNone 52) ∨
    ∃ k Q, k < bs.length / sz ∧ (∀ i, i < k → primeN (c1N bs sz qd i) b12 = false) ∧ Q = c1N bs sz qd k ∧ primeN Q b12 = true ∧ MadeP (bs.drop ((k + 1) * sz)) sp pd Q ((k + 1) * sz) r w') ∧ Below w.heap.size w w'
theorem results_iff {w : World} {T : Array Value} {g : Nat} {v1 v2 v3 : Value} {us er : Int} (t6 : T[6]?.getD undef = .pointer (some ⟨g, 0, none⟩)) (t7 : T[7]?.getD undef = .int .i64 us) (t8 : T[8]?.getD undef = .int .i64 er)
    (h1 : w.heap[g]? = some (.cells #[v1, v2, v3] 37 (0, 0))) : (results Tryz.f15 T).run Tryz.prog w = .ok (.tuple #[.agg #[v1, v2, v3], .int .i64 us, .int .i64 er]) w := by
  obtain ⟨a1, a2, a3, _, _, _⟩ := three_cells h1
  simp [results, Tryz.results15, go_sem, t6, t7, t8, asAddr, a1, a2, a3]
  try simp [Result.andThen, a1, a2, a3]
/-- what lies behind the first u bytes -/
theorem cut_at {A : Option Addr} {n c u : Nat} (hu : u ≤ n) : ∃ A', (∀ W, (Instr.slice 32 (.slice A n c) (some (.int .i64 (u : Int))) none none).run Tryz.prog W = .ok (.slice A' (n - u) (c - u)) W) ∧ ∀ {W : World} {B : Nat} {bs : List Nat}, Nb W B A n c bs → Nb W B A' (n - u) (c - u) (bs.drop u) := by
  refine ⟨if c = u then A else A.map (·.add (u * 1)), fun W => ?_, fun {W B bs} h => ?_⟩
  · have e5 : (sizeOf (Tryz.prog.elem 32)).run Tryz.prog W = .ok 1 W := by kernel_rfl
    rw [run_slice_l W 32 A n c (by kernel_rfl) .i64 (u : Int) (by omega) (by omega), e5]
    simp only [Result.andThen, sliced, Int.toNat_natCast]
  · have hl := h.len
    have hc := h.cap
    have hr := h.room
    refine ⟨by rw [List.length_drop]; omega, by omega, by omega, fun x hx => h.lim x (List.mem_of_mem_drop hx), fun h0 => ?_⟩
    obtain ⟨b, off, rfl, hb, hcl⟩ := h.cell (by omega)
    refine ⟨b, off + u, ?_, hb, fun j x hj => ?_⟩
    · rw [if_neg (by omega)]
      by_cases h0 : u = 0
      · subst h0; simp [Addr.add]
      · simp [Addr.add, h0]
    · rw [Nat.add_assoc]
      rw [List.getElem?_drop] at hj
      exact hcl _ _ hj
theorem qd_len {q : Nat} (h : q < 18446744073709551616 ^ 8) : q < 18446744073709551616 ^ 100 := Nat.lt_of_lt_of_le h (Nat.pow_le_pow_right (by decide) (by decide))
theorem pOf_len {Q c : Nat} (hQ : Q < 18446744073709551616 ^ 8) (hc : c < 18446744073709551616 ^ 8) : pOf Q c < 18446744073709551616 ^ 20 := by
  have h1 : (c - 1) * Q < 18446744073709551616 ^ 8 * 18446744073709551616 ^ 8 := Nat.mul_lt_mul_of_lt_of_lt (Nat.lt_of_le_of_lt (Nat.sub_le _ _) hc) hQ
  rw [← Nat.pow_add] at h1
  have h2 : 18446744073709551616 ^ (8 + 8) + 1 ≤ 18446744073709551616 ^ 20 := by decide +kernel
  unfold pOf
  omega
theorem pOf_ev {Q c : Nat} (hQ : 0 < Q) : (pOf Q c - 1) / Q = c - 1 := by
  unfold pOf
  rw [Nat.add_sub_cancel, Nat.mul_div_cancel _ hQ]
set_option maxHeartbeats 4000000 in
theorem imake_bad {w : World} {A : Option Addr} {n c : Nat} (qb pb : Int) (hq : -9223372036854775808 ≤ qb ∧ qb ≤ 9223372036854775807) (h : qb < 8 ∨ 256 < qb ∨ pb < qb + 8 ∨ 512 < pb) :
    Calls Tryz.prog 15 #[.slice A n c, .int .i64 qb, .int .i64 pb] w fun r w' => r = rNone 1 ∧ Below w.heap.size w w' := by
  have hx : (w.alloc (.cells #[Value.slice none 0 0, .slice none 0 0, .slice none 0 0] 37)).heap[w.heap.size]? = some (.cells #[Value.slice none 0 0, .slice none 0 0, .slice none 0 0] 37 (0, 0)) := heap_alloc_new w _
  have B0 := Lib.hid (show Below w.heap.size w (w.alloc (.cells #[Value.slice none 0 0, .slice none 0 0, .slice none 0 0] 37)) from (Below.refl _ w).alloc (Nat.le_refl _) _)
  obtain ⟨q0, q1, q2, q3, q4, q5⟩ := three_cells hx
  by_cases g1 : qb < 8
  · clear h hq
    go_enter Tryz.func15, Tryz.ntmps15
    go_wp2_with fail
    refine bodyPost_ret (v := .tuple #[.agg #[.slice none 0 0, .slice none 0 0, .slice none 0 0], .int .i64 0, .int .i64 1]) (results_iff rfl rfl rfl hx) rfl ?_
    exact ⟨rfl, B0.out⟩
  have k1 : (qb < 8) = False := by simpa using g1
  by_cases g2 : 256 < qb
  · clear h hq g1
    go_enter Tryz.func15, Tryz.ntmps15
    go_wp2_with fail
    refine bodyPost_ret (v := .tuple #[.agg #[.slice none 0 0, .slice none 0 0, .slice none 0 0], .int .i64 0, .int .i64 1]) (results_iff rfl rfl rfl hx) rfl ?_
    exact ⟨rfl, B0.out⟩
  have k2 : (256 < qb) = False := by simpa using g2
  by_cases g3 : pb < qb + 8
  · clear h hq
    go_enter Tryz.func15, Tryz.ntmps15
    go_wp2_with fail
    refine bodyPost_ret (v := .tuple #[.agg #[.slice none 0 0, .slice none 0 0, .slice none 0 0], .int .i64 0, .int .i64 1]) (results_iff rfl rfl rfl hx) rfl ?_
    exact ⟨rfl, B0.out⟩
  have k3 : (pb < qb + 8) = False := by simpa using g3
  have g4 : 512 < pb := by omega
  clear h hq
  go_enter Tryz.func15, Tryz.ntmps15
  go_wp2_with fail
  refine bodyPost_ret (v := .tuple #[.agg #[.slice none 0 0, .slice none 0 0, .slice none 0 0], .int .i64 0, .int .i64 1]) (results_iff rfl rfl rfl hx) rfl ?_
  exact ⟨rfl, B0.out⟩
end Go.Proofs.YtkhlmcknbangfaaGreatDoor
namespace Go.Proofs.YtkhlmcknbangfaaGreatDoor
open Go.RowKit
set_option linter.unusedVariables false
set_option linter.unusedSimpArgs false
set_option maxRecDepth 100000
set_option maxHeartbeats 8000000 in
theorem imake_any {w : World} {A : Option Addr} {n c qd pd q qp sz sp : Nat} {bs : List Nat} (h : Nb w w.heap.size A n c bs) (hn : n ≤ 1000000) (hq8 : 8 ≤ qd) (hq2 : qd ≤ 256) (hp8 : 8 ≤ pd) (hpb : qd + pd ≤ 512) (hq7 : q ≤ 7) (hqs : qd + q = 8 * sz) (hp7 : qp ≤ 7) (hps : pd + qp = 8 * sp) :
    Calls Tryz.prog 15 #[.slice A n c, .int .i64 (qd : Int), .int .i64 ((qd + pd : Nat) : Int)] w (MadeQ bs sz qd sp pd w) := by
  have hlen := h.len
  have hsz0 : 0 < sz := by omega
  have hsp0 : 0 < sp := by omega
  have g1 : ((qd : Int) < 8) = False := by simp only [eq_iff_iff, iff_false]; omega
  have g2 : ((256 : Int) < (qd : Int)) = False := by simp only [eq_iff_iff, iff_false]; omega
  have g3 : (((qd + pd : Nat) : Int) < (qd : Int) + 8) = False := by simp only [eq_iff_iff, iff_false]; omega
  have g4 : ((512 : Int) < ((qd + pd : Nat) : Int)) = False := by simp only [eq_iff_iff, iff_false]; omega
  have g5 : ((qd + pd : Nat) : Int) - (qd : Int) = (pd : Int) := by omega
  have g6 : ((qd + pd : Nat) : Int) ≤ 512 := by omega
  generalize ((qd + pd : Nat) : Int) = pb at *
  obtain ⟨w0, e0⟩ : ∃ w0, w0 = w.alloc (.cells #[Value.slice none 0 0, .slice none 0 0, .slice none 0 0] 37) := ⟨_, rfl⟩
  have hx0 : w0.heap[w.heap.size]? = some (.cells #[Value.slice none 0 0, .slice none 0 0, .slice none 0 0] 37 (0, 0)) := e0 ▸ heap_alloc_new w _
  have hs0 : w.heap.size < w0.heap.size := by rw [e0]; simp
  have b0 : Below w.heap.size w w0 := e0 ▸ (Below.refl _ w).alloc (Nat.le_refl _) _
  have HB0 := Lib.hid b0
  have HH := Lib.hid (h.up b0)
  have HX0 := Lib.hid hx0
  have HS0 := Lib.hid hs0
  have H1 := Lib.hid (first_id (F := fun c => c) HH.out (by omega) hq8 (by omega) hq7 hqs (fun k => Nat.lt_of_lt_of_le (c1N_lt bs sz qd hq8 (by omega) k).1 (Nat.pow_le_pow_right (by decide) (by decide))) (fun W A n c xs _ m t _ _ => make1_any m t))
  have HLen := Lib.hid hlen
  have HC1 := Lib.hid (fun k => (c1N_lt bs sz qd hq8 (by omega) k))
  have HC2 := Lib.hid (fun (bs' : List Nat) k => (c1N_lt bs' sp pd hp8 (by omega) k))
  have HP := Lib.hid (show pd + qp = 8 * sp from hps)
  have HP8 := Lib.hid hp8
  have HPB := Lib.hid (show pd ≤ 512 by omega)
  clear h b0 hx0 hs0 hlen hqs hps hp8 hpb hq8 hq2
  go_enter Tryz.func15, Tryz.ntmps15
  go_wp2_with fail
  rw [← e0]
  clear e0
  refine H1.out.mono ?_
  rintro r w1 ⟨hc, b1⟩
  have HB1 := Lib.hid b1
  clear b1 H1 g1 g2 g3 g4
  rcases hc with ⟨k, hk, hkl, hkp, A1, n1, c1, x1, rfl, m1, t1, v1⟩ | ⟨hno, rfl⟩
  · change ∀ i, i < k → primeN (c1N bs sz qd i) b12 = false at hkl
    change primeN (c1N bs sz qd k) b12 = true at hkp
    change val 18446744073709551616 x1 = c1N bs sz qd k at v1
    obtain ⟨Q, hQ⟩ : ∃ Q, Q = c1N bs sz qd k := ⟨_, rfl⟩
    obtain ⟨u, hu⟩ : ∃ u, u = (k + 1) * sz := ⟨_, rfl⟩
    have hun : u ≤ n := by rw [hu]; exact Nat.le_trans (Nat.mul_le_mul_right sz hk) (Nat.div_mul_le_self _ _)
    have hu0 : 0 < u := by rw [hu]; exact Nat.mul_pos (Nat.succ_pos k) hsz0
    rw [← hQ] at hkp v1
    rw [← hu]
    have hQ8 : Q < 18446744073709551616 ^ 8 := by rw [hQ]; exact (HC1.out k).1
    have hQ1 : 0 < Q := by rw [hQ]; exact (HC1.out k).2
    have l1 : n1 ≤ 8 := len_le t1 m1.len (by rw [v1]; exact hQ8)
    obtain ⟨w2, e2⟩ : ∃ w2, w2 = w1.alloc (.cells #[Value.slice A1 n1 c1] 22) := ⟨_, rfl⟩
    have c2 : w2.cell? ⟨w1.heap.size, 0, none⟩ = some (.slice A1 n1 c1) := e2 ▸ cell_new w1 _ _
    have b2 : Below w1.heap.size w1 w2 := e2 ▸ (Below.refl _ w1).alloc (Nat.le_refl _) _
    have hs2 : w1.heap.size < w2.heap.size := by rw [e2]; simp
    obtain ⟨A', hsl, hnb⟩ := cut_at (A := A) (n := n) (c := c) hun
    have M1 := Lib.hid (m1.up b2)
    have T1 := Lib.hid t1
    have V1 := Lib.hid v1
    have HC := Lib.hid (fun W (b : Below w2.heap.size w2 W) => (b.cell (p := ⟨w1.heap.size, 0, none⟩) hs2).trans c2)
    have HB2 := Lib.hid (bthen HB1.out b2)
    have hd := hnb (HH.out.up HB2.out)
    have hQ8' := Lib.hid hQ8
    have H2 := Lib.hid (first_mul (gq := w1.heap.size) (F := pOf Q) hd (by omega) HP8.out HPB.out hp7 HP.out (fun j => Nat.lt_of_lt_of_le (pOf_len hQ8 (HC2.out (bs.drop u) j).1) (Nat.pow_le_pow_right (by decide) (by decide)))
      (fun W A n c xs b m t hn h1 => by
        have := make2_any m hn h1 (HC.out W b) (M1.out.up b) (by omega)
        rw [V1.out] at this
        exact this))
    have HKL := Lib.hid hkl
    have HKP := Lib.hid hkp
    have HK := Lib.hid hk
    have HQ := Lib.hid hQ
    have HU := Lib.hid hu
    have HQ1 := Lib.hid hQ1
    have ku : ((u : Int) = 0) = False := by simp only [eq_iff_iff, iff_false]; omega
    have ku2 : ((u : Int) == 0) = false := by simpa using ku
    have kun : (u : Int) ≤ (n : Int) := by omega
    clear hk hkl hkp hQ hu hQ8 hQ1 m1 t1 v1 b2 hs2 hd hnb
    go_wp2_with (simp only [hsl])
    rw [← e2]
    clear e2
    refine H2.out.mono ?_
    rintro r w3 ⟨hc, b3⟩
    have HB3 := Lib.hid (bthen HB2.out b3)
    have C3 := HC.out w3 b3
    have HX3 := Lib.hid ((HB3.out.block w.heap.size HS0.out).trans HX0.out)
    have M3 := Lib.hid (M1.out.up b3)
    clear b3 H2 c2
    rcases hc with ⟨j, hj, hjl, hjp, A2, n2, c2, x2, rfl, m2, t2, v2⟩ | ⟨hno, rfl⟩
    · obtain ⟨cc, hcc⟩ : ∃ cc, cc = c1N (bs.drop u) sp pd j := ⟨_, rfl⟩
      obtain ⟨u2, hu2⟩ : ∃ u2, u2 = (j + 1) * sp := ⟨_, rfl⟩
      have hu20 : 0 < u2 := by rw [hu2]; exact Nat.mul_pos (Nat.succ_pos j) hsp0
      have hu2n : u2 ≤ n - u := by rw [hu2]; exact Nat.le_trans (Nat.mul_le_mul_right sp hj) (Nat.div_mul_le_self _ _)
      rw [← hcc] at hjp v2
      rw [← hu2]
      have hP20 : pOf Q cc < 18446744073709551616 ^ 20 := by rw [hcc]; exact pOf_len hQ8'.out (HC2.out (bs.drop u) j).1
      have l2 : n2 ≤ 20 := len_le t2 m2.len (by rw [v2]; exact hP20)
      have hP0 : 0 < pOf Q cc := Nat.succ_pos _
      have H3 := Lib.hid (leastPower_any m2 M3.out v2 V1.out (by omega) (by omega) hP0 HQ1.out (pOf_ev HQ1.out))
      have M2 := Lib.hid m2
      have T2 := Lib.hid t2
      have V2 := Lib.hid v2
      have HJ := Lib.hid hj
      have HJL := Lib.hid hjl
      have HJP := Lib.hid hjp
      have HCC := Lib.hid hcc
      have HU2 := Lib.hid hu2
      have kv : ((u2 : Int) = 0) = False := by simp only [eq_iff_iff, iff_false]; omega
      have kv2 : ((u2 : Int) == 0) = false := by simpa using kv
      have kvn : (u : Int) + (u2 : Int) ≤ (n : Int) := by omega
      clear hj hjl hjp hcc hu2 hP20 m2 t2 v2
      go_wp2_with fail
      refine H3.out.mono ?_
      rintro r w4 ⟨hc, b4⟩
      have HB4 := Lib.hid (bthen HB3.out b4)
      have hx := (b4.block w.heap.size (World.block_lt_of_cell? w3 _ (three_cells HX3.out).1)).trans HX3.out
      have C4 := (b4.cell (p := ⟨w1.heap.size, 0, none⟩) (World.block_lt_of_cell? w3 _ C3)).trans C3
      obtain ⟨q0, q1, q2, q3, q4, q5⟩ := three_cells hx
      have HXX := Lib.hid hx
      have M41 := Lib.hid (M3.out.up b4)
      have M42 := Lib.hid (M2.out.up b4)
      clear b4 hx C3 H3
      rcases hc with ⟨hh, h2, h9, hhl, hhg, A3, n3, c3, x3, rfl, m3, t3, v3⟩ | ⟨hno, rfl⟩
      · have M43 := Lib.hid m3
        have HG := Lib.hid (And.intro h2 (And.intro h9 (And.intro hhl (And.intro hhg (And.intro t3 v3)))))
        clear m3 h2 h9 hhl hhg t3 v3
        go_wp2_with fail
        have hg2 := three_fin (v1 := .slice A2 n2 c2) (v2 := .slice A1 n1 c1) (v3 := .slice A3 n3 c3) HXX.out
        refine bodyPost_ret (v := .tuple #[.agg #[.slice A2 n2 c2, .slice A1 n1 c1, .slice A3 n3 c3], .int .i64 ((u : Int) + (u2 : Int)), .int .i64 0]) (results_iff rfl rfl rfl hg2) rfl ?_
        obtain ⟨h2, h9, hhl, hhg, t3, v3⟩ := HG.out
        refine ⟨.inr ⟨k, Q, by rw [HLen.out]; exact HK.out, HKL.out, HQ.out, HKP.out, .inr ⟨j, cc, ?_, ?_, ?_, HJP.out, .inr ⟨hh, h2, h9, hhl, hhg, A2, n2, c2, x2, A1, n1, c1, x1, A3, n3, c3, x3, ?_, M42.out.away3 (B := 0) (M42.out.not_in HXX.out), T2.out, V2.out, M41.out.away3 (B := 0) (M41.out.not_in HXX.out), T1.out, V1.out, M43.out.away3 (B := 0) (M43.out.not_in HXX.out), t3, v3⟩⟩⟩, (((bthen HB0.out HB4.out).setCell (p := ⟨w.heap.size, 0, none⟩) (by simp) _).setCell (p := ⟨w.heap.size, 1, none⟩) (by simp) _).setCell (p := ⟨w.heap.size, 2, none⟩) (by simp) _⟩
        · rw [← HU.out, List.length_drop, HLen.out]; exact HJ.out
        · rw [← HU.out]; exact HJL.out
        · rw [← HU.out]; exact HCC.out
        · rw [← HU.out, ← HU2.out]; simp
      · have HN := Lib.hid hno
        clear hno
        go_wp2_with fail
        have hg2 := three_fin (v1 := .slice none 0 0) (v2 := .slice none 0 0) (v3 := .slice none 0 0) HXX.out
        refine bodyPost_ret (v := .tuple #[.agg #[.slice none 0 0, .slice none 0 0, .slice none 0 0], .int .i64 0, .int .i64 60]) (results_iff rfl rfl rfl hg2) rfl ?_
        refine ⟨.inr ⟨k, Q, by rw [HLen.out]; exact HK.out, HKL.out, HQ.out, HKP.out, .inr ⟨j, cc, ?_, ?_, ?_, HJP.out, .inl ⟨HN.out, rfl⟩⟩⟩, (((bthen HB0.out HB4.out).setCell (p := ⟨w.heap.size, 0, none⟩) (by simp) _).setCell (p := ⟨w.heap.size, 1, none⟩) (by simp) _).setCell (p := ⟨w.heap.size, 2, none⟩) (by simp) _⟩
        · rw [← HU.out, List.length_drop, HLen.out]; exact HJ.out
        · rw [← HU.out]; exact HJL.out
        · rw [← HU.out]; exact HCC.out
    · have HN := Lib.hid hno
      obtain ⟨q0, q1, q2, q3, q4, q5⟩ := three_cells HX3.out
      clear hno
      go_wp2_with fail
      have hg2 := three_fin (v1 := .slice none 0 0) (v2 := .slice none 0 0) (v3 := .slice none 0 0) HX3.out
      refine bodyPost_ret (v := .tuple #[.agg #[.slice none 0 0, .slice none 0 0, .slice none 0 0], .int .i64 0, .int .i64 52]) (results_iff rfl rfl rfl hg2) rfl ?_
      refine ⟨.inr ⟨k, Q, by rw [HLen.out]; exact HK.out, HKL.out, HQ.out, HKP.out, .inl ⟨?_, rfl⟩⟩, (((bthen HB0.out HB3.out).setCell (p := ⟨w.heap.size, 0, none⟩) (by simp) _).setCell (p := ⟨w.heap.size, 1, none⟩) (by simp) _).setCell (p := ⟨w.heap.size, 2, none⟩) (by simp) _⟩
      rw [← HU.out, List.length_drop, HLen.out]
      exact HN.out
  · change ∀ i, i < n / sz → primeN (c1N bs sz qd i) b12 = false at hno
    obtain ⟨w2, e2⟩ : ∃ w2, w2 = w1.alloc (.cells #[Value.slice none 0 0] 22) := ⟨_, rfl⟩
    have b2 : Below w1.heap.size w1 w2 := e2 ▸ (Below.refl _ w1).alloc (Nat.le_refl _) _
    have HB2 := Lib.hid (bthen HB1.out b2)
    have hx := (HB2.out.block w.heap.size HS0.out).trans HX0.out
    obtain ⟨q0, q1, q2, q3, q4, q5⟩ := three_cells hx
    have HN := Lib.hid hno
    have HXX := Lib.hid hx
    clear hno b2 hx
    subst e2
    go_wp2_with fail
    have hg2 := three_fin (v1 := .slice none 0 0) (v2 := .slice none 0 0) (v3 := .slice none 0 0) HXX.out
    refine bodyPost_ret (v := .tuple #[.agg #[.slice none 0 0, .slice none 0 0, .slice none 0 0], .int .i64 0, .int .i64 52]) (results_iff rfl rfl rfl hg2) rfl ?_
    exact ⟨.inl ⟨by rw [HLen.out]; exact HN.out, rfl⟩, (((bthen HB0.out HB2.out).setCell (p := ⟨w.heap.size, 0, none⟩) (by simp) _).setCell (p := ⟨w.heap.size, 1, none⟩) (by simp) _).setCell (p := ⟨w.heap.size, 2, none⟩) (by simp) _⟩
end Go.Proofs.YtkhlmcknbangfaaGreatDoor
namespace Go.Proofs.YtkhlmcknbangfaaGreatDoor
open Go.RowKit
set_option linter.unusedVariables false
set_option maxRecDepth 100000
/-- which digits a candidate has -/
theorem cand_bit {V d : Nat} (hd : 2 ≤ d) (i : Nat) : (candV V d 2).testBit i = (decide (i < d) && V.testBit i || decide (i = 0) || decide (i = d - 1) || decide (i = d - 2)) := by
  unfold candV sets sets sets
  simp only [Nat.testBit_or, Nat.testBit_mod_two_pow, Nat.testBit_two_pow]
  rw [show (Nat.testBit 1 i) = decide (i = 0) by
    rw [show (1 : Nat) = 2 ^ 0 from rfl, Nat.testBit_two_pow]
    exact decide_eq_decide.2 ⟨fun h => h.symm, fun h => h.symm⟩]
  rw [show decide (d - 1 - 0 = i) = decide (i = d - 1) from decide_eq_decide.2 (by omega), show decide (d - 1 - 1 = i) = decide (i = d - 2) from decide_eq_decide.2 (by omega)]
/-- a number's byte k -/
theorem val_bytes (X : Nat) : ∀ n, val 256 ((List.range n).map fun k => X / 256 ^ k % 256) = X % 256 ^ n
  | 0 => by simp [val, Nat.mod_one]
  | n + 1 => by
    rw [List.range_succ, List.map_append, val_append, val_bytes X n, List.length_map, List.length_range]
    simp only [List.map_cons, List.map_nil, val, Nat.mul_zero, Nat.add_zero]
    rw [Nat.pow_succ, Nat.mod_mul]
/-- the greatest byte first -/
def bytesOf (X n : Nat) : List Nat := (List.range n).map fun i => X / 256 ^ (n - 1 - i) % 256
theorem nb_bytes {X n : Nat} (h : X < 256 ^ n) : nb (bytesOf X n) = X := by
  unfold nb bytesOf
  have e : ((List.range n).map fun i => X / 256 ^ (n - 1 - i) % 256).reverse = (List.range n).map fun k => X / 256 ^ k % 256 := by
    refine List.ext_getElem (by simp) fun i h1 h2 => ?_
    simp only [List.getElem_reverse, List.getElem_map, List.getElem_range, List.length_map, List.length_range] at *
    rw [show n - 1 - (n - 1 - i) = i by simp at h2; omega]
  rw [e, val_bytes, Nat.mod_eq_of_lt h]
theorem nb_testBit {bs : List Nat} (h : Lim 256 bs) {i j : Nat} (hi : i < bs.length) (hj : j < 8) : (nb bs).testBit (8 * (bs.length - 1 - i) + j) = (bs.getD i 0).testBit j := by
  unfold nb
  rw [tb_val _ (fun x hx => h x (List.mem_reverse.1 hx)), show (8 * (bs.length - 1 - i) + j) / 8 = bs.length - 1 - i by omega, show (8 * (bs.length - 1 - i) + j) % 8 = j by omega, getD_rev bs _ (by omega), show bs.length - 1 - (bs.length - 1 - i) = i by omega]
/-- one digit more of a byte -/
theorem byte_step (Y j : Nat) : 2 * (Y / 2 ^ (j + 1)) + Y / 2 ^ j % 2 = Y / 2 ^ j := by
  rw [Nat.pow_succ, ← Nat.div_div_eq_div_mul]
  omega
theorem byte_bit (X k j : Nat) (hj : j < 8) : X / 256 ^ k % 256 / 2 ^ j % 2 = (X.testBit (8 * k + j)).toNat := by
  have t : ∀ (Y i : Nat), Y / 2 ^ i % 2 = (Y.testBit i).toNat := fun Y i => by
    rw [Nat.testBit_eq_decide_div_mod_eq]
    rcases Nat.mod_two_eq_zero_or_one (Y / 2 ^ i) with h | h <;> rw [h] <;> rfl
  rw [t]
  congr 1
  rw [show X / 256 ^ k % 256 = X / 2 ^ (8 * k) % 2 ^ 8 by rw [Nat.pow_mul], Nat.testBit_mod_two_pow, decide_eq_true hj, Bool.true_and, Nat.testBit_div_two_pow]
  congr 1
  omega
end Go.Proofs.YtkhlmcknbangfaaGreatDoor
namespace Go.Proofs.YtkhlmcknbangfaaGreatDoor
open Go.RowKit
set_option linter.unusedVariables false
set_option linter.unusedSimpArgs false
set_option maxRecDepth 100000
theorem or_one (x : Nat) : x ||| 1 = if x % 2 = 0 then x + 1 else x := by
  have h := Nat.two_pow_add_eq_or_of_lt (i := 1) (b := 1) (by decide) (x / 2)
  rw [Nat.pow_one] at h
  rcases Nat.mod_two_eq_zero_or_one x with h0 | h0
  · rw [if_pos h0]
    have e : x = 2 * (x / 2) := by omega
    rw [← e] at h
    exact h.symm
  · rw [if_neg (by omega)]
    have e : x = 2 * (x / 2) + 1 := by omega
    rw [← e] at h
    rw [h, Nat.or_assoc, Nat.or_self]
theorem piece_val {V d : Nat} (hd : 2 ≤ d) : 2 ^ (d - 1) + (if V % 2 ^ (d - 1) % 2 = 0 then V % 2 ^ (d - 1) + 1 else V % 2 ^ (d - 1)) = candV V d 1 := by
  rw [← or_one]
  have hlt : V % 2 ^ (d - 1) ||| 1 < 2 ^ (d - 1) := Nat.or_lt_two_pow (Nat.mod_lt _ (Nat.two_pow_pos _)) (Nat.one_lt_two_pow (by omega))
  have h := Nat.two_pow_add_eq_or_of_lt hlt 1
  rw [Nat.mul_one] at h
  rw [h]
  unfold candV sets sets
  refine Nat.eq_of_testBit_eq fun i => ?_
  simp only [Nat.testBit_or, Nat.testBit_mod_two_pow, Nat.testBit_two_pow, Nat.sub_zero]
  by_cases c : d - 1 = i
  · simp [c]
  · have e : decide (i < d - 1) = decide (i < d) := decide_eq_decide.2 ⟨fun h => by omega, fun h => by omega⟩
    rw [e, decide_eq_false c, Bool.false_or, Bool.or_false]
set_option maxHeartbeats 4000000 in
theorem piece_any {w : World} {A : Option Addr} {n c d : Nat} {bs : List Nat} (h : Nb w w.heap.size A n c bs) (hn : n ≤ 1000) (hd : 2 ≤ d) (hd2 : d ≤ 8000) :
    Calls Tryz.prog 58 #[.slice A n c, .int .i64 (d : Int)] w (RetN (candV (nb bs) d 1) w) := by
  have hv : val 256 bs.reverse < 256 ^ n := by
    have := val_lt (β := 256) (xs := bs.reverse) (fun x hx => h.lim x (List.mem_reverse.1 hx))
    rwa [List.length_reverse, h.len] at this
  have hv2 : val 256 bs.reverse < 18446744073709551616 ^ n := Nat.lt_of_lt_of_le hv (Nat.pow_le_pow_left (by decide) n)
  have hp2 : 2 ^ (d - 1) + (if nb bs % 2 ^ (d - 1) % 2 = 0 then nb bs % 2 ^ (d - 1) + 1 else nb bs % 2 ^ (d - 1)) = candV (nb bs) d 1 := piece_val hd
  have hb : ∀ k, k ≤ 8000 → 2 ^ k < 18446744073709551616 ^ 126 := fun k hk => Nat.lt_of_le_of_lt (Nat.pow_le_pow_right (by decide) hk) (by decide +kernel)
  have Hb := Lib.hid hb
  have Hv2 := Lib.hid hv2
  have HP := Lib.hid hp2
  have H := Lib.hid (Rn.rread_any h (by omega))
  have hsh : shN 1 ((d : Int) - 1) = 2 ^ (d - 1) := by
    unfold shN
    rw [if_pos (by omega), show ((d : Int) - 1).toNat = d - 1 by omega, Nat.min_eq_left (by omega), Nat.one_mul]
  have Hsh := Lib.hid hsh
  have hnb : val 256 bs.reverse = nb bs := rfl
  rw [hnb] at H Hv2
  clear h hv hv2 hp2 hb hsh hnb
  go_enter Tryz.func58, Tryz.ntmps58
  go_wp2_with fail
  refine H.out.mono ?_
  rintro r w1 ⟨A1, n1, c1, x1, rfl, m1, t1, v1, b1⟩
  have l1 : n1 ≤ 1000 := Nat.le_trans (by rw [← m1.len]; exact length_of_val (β := 18446744073709551616) (by omega) t1 (by rw [v1]; exact Hv2.out)) hn
  have M1 := Lib.hid m1
  have V1 := Lib.hid v1
  have B1 := Lib.hid b1
  clear m1 t1 v1 b1 H
  go_wp2_with fail
  refine (rone_any _).mono ?_
  rintro r w2 ⟨A2, n2, c2, x2, rfl, r2⟩
  have l2 : n2 ≤ 1 := r2.le (by omega)
  have hs := Rn.rshift_any r2.nt (by omega) ((d : Int) - 1) (by omega) (by omega)
  rw [r2.is, Hsh.out] at hs
  have Hs := Lib.hid hs
  have B2 := Lib.hid (bthen B1.out r2.bel)
  have M12 := Lib.hid (M1.out.up r2.bel)
  clear hs r2
  go_wp2_with fail
  refine Hs.out.mono ?_
  rintro r w3 ⟨A3, n3, c3, x3, rfl, m3, t3, v3, b3⟩
  have l3 : n3 ≤ 126 := by rw [← m3.len]; exact length_of_val (β := 18446744073709551616) (by omega) t3 (by rw [v3]; exact Hb.out _ (by omega))
  have hdv := Rn.rdiv_any (M12.out.up b3) m3 (by omega) (by omega)
  rw [V1.out, v3] at hdv
  have HD := Lib.hid hdv
  have B3 := Lib.hid (bthen B2.out b3)
  have M3 := Lib.hid m3
  have V3 := Lib.hid v3
  clear hdv m3 t3 v3 b3 Hs
  go_wp2_with fail
  refine HD.out.mono ?_
  rintro r w4 (⟨h0, _⟩ | ⟨_, A4, n4, c4, x4, A5, n5, c5, x5, rfl, m4, _, _, m5, t5, v5, b4⟩)
  · exact absurd h0 (Nat.pos_iff_ne_zero.1 (Nat.two_pow_pos _))
  have l5 : n5 ≤ 126 := by rw [← m5.len]; exact length_of_val (β := 18446744073709551616) (by omega) t5 (by rw [v5]; exact Nat.lt_trans (Nat.mod_lt _ (Nat.two_pow_pos _)) (Hb.out _ (by omega)))
  have hbt := Rn.rbit_any m5 (by omega) 0
  have hb0 : btN (nb bs % 2 ^ (d - 1)) 0 = nb bs % 2 ^ (d - 1) % 2 := by simp [btN]
  rw [v5, hb0] at hbt
  have HT := Lib.hid hbt
  have B4 := Lib.hid (bthen B3.out b4)
  have M34 := Lib.hid (M3.out.up b4)
  have M5 := Lib.hid m5
  have V5 := Lib.hid v5
  clear hbt hb0 m4 m5 t5 v5 b4 HD
  obtain ⟨L, hL⟩ : ∃ L, L = nb bs % 2 ^ (d - 1) := ⟨_, rfl⟩
  rw [← hL] at HT V5 HP
  clear hL
  go_wp2_with fail
  refine HT.out.mono ?_
  rintro r w5 ⟨rfl, b5⟩
  have B5 := Lib.hid (bthen B4.out b5)
  have M55 := Lib.hid (M5.out.up b5)
  have M35 := Lib.hid (M34.out.up b5)
  clear b5 HT
  by_cases h0 : L % 2 = 0
  · have hp := HP.out
    rw [if_pos h0] at hp
    have HP2 := Lib.hid hp
    rw [h0]
    clear hp h0
    go_wp2_with fail
    refine (rone_any _).mono ?_
    rintro r w6 ⟨A6, n6, c6, x6, rfl, r6⟩
    have l6 : n6 ≤ 1 := r6.le (by omega)
    have ha := Rn.radd_any (M55.out.up r6.bel) r6.nt (by omega) (by omega)
    rw [V5.out, r6.is] at ha
    have HA := Lib.hid ha
    have B6 := Lib.hid (bthen B5.out r6.bel)
    have M36 := Lib.hid (M35.out.up r6.bel)
    clear ha r6
    go_wp2_with fail
    refine HA.out.mono ?_
    rintro r w7 ⟨A7, n7, c7, x7, rfl, m7, t7, v7, b7⟩
    have ha := Rn.radd_any (M36.out.up b7) m7 (by omega) (by
      have hle : n7 ≤ 127 := by
        rw [← m7.len]
        refine length_of_val (β := 18446744073709551616) (by omega) t7 ?_
        rw [v7]
        have h1 := M55.out.below_pow l5
        rw [V5.out] at h1
        have h2 : 18446744073709551616 ^ 126 + 1 < 18446744073709551616 ^ 127 := by decide +kernel
        omega
      omega)
    rw [V3.out, v7] at ha
    have HA2 := Lib.hid ha
    have B7 := Lib.hid (bthen B6.out b7)
    clear ha m7 t7 v7 b7 HA
    go_wp2_with fail
    refine HA2.out.mono ?_
    rintro r w8 ⟨A8, n8, c8, x8, rfl, m8, t8, v8, b8⟩
    go_wp2_with fail
    go_ret
    exact ⟨_, _, _, _, rfl, m8, t8, v8.trans HP2.out, bthen B7.out b8⟩
  · have h1 : L % 2 = 1 := by omega
    have hp := HP.out
    rw [if_neg h0] at hp
    have HP2 := Lib.hid hp
    rw [h1]
    clear hp h0 h1
    have ha := Rn.radd_any M35.out M55.out (by omega) (by omega)
    rw [V3.out, V5.out] at ha
    have HA := Lib.hid ha
    clear ha
    go_wp2_with fail
    refine HA.out.mono ?_
    rintro r w8 ⟨A8, n8, c8, x8, rfl, m8, t8, v8, b8⟩
    go_wp2_with fail
    go_ret
    exact ⟨_, _, _, _, rfl, m8, t8, v8.trans HP2.out, bthen B5.out b8⟩
/-- the least power, as the document tells it -/
def LeastR (ev P Q : Nat) (w : World) (r : Ending) (w' : World) : Prop :=
  ((∃ h, 2 ≤ h ∧ h ≤ 999 ∧ (∀ j, 2 ≤ j → j < h → genN P Q (j ^ ev % P) = false) ∧ genN P Q (h ^ ev % P) = true ∧ ∃ A n c xs, r = .returned (.slice A n c) ∧ Nt w' w'.heap.size A n c xs ∧ Trm xs ∧ val 18446744073709551616 xs = h ^ ev % P) ∨
    ((∀ j, 2 ≤ j → j ≤ 999 → genN P Q (j ^ ev % P) = false) ∧ r = .returned (.slice none 0 0))) ∧ Below w.heap.size w w'
theorem cmp_one {w : World} {A A2 : Option Addr} {n c n2 c2 : Nat} {xs ys : List Nat} (h : Nt w w.heap.size A n c xs) (h2 : Nt w w.heap.size A2 n2 c2 ys) (hn : n ≤ 1000000) (hn2 : n2 ≤ 1000000) (h1 : val 18446744073709551616 ys = 1) :
    ∃ z : Int, (0 < z ↔ 1 < val 18446744073709551616 xs) ∧ (z = 0 ↔ val 18446744073709551616 xs = 1) ∧ Calls Tryz.prog 35 #[.slice A n c, .slice A2 n2 c2] w fun e w' => e = .returned (.int .i64 z) ∧ Below w.heap.size w w' := by
  rcases Nat.lt_trichotomy (val 18446744073709551616 xs) 1 with g | g | g
  · exact ⟨-1, ⟨fun h => by omega, fun h => by omega⟩, ⟨fun h => by omega, fun h => by omega⟩, rcmp_lt h h2 hn hn2 (by rw [h1]; exact g)⟩
  · exact ⟨0, ⟨fun h => by omega, fun h => by omega⟩, ⟨fun _ => g, fun _ => rfl⟩, rcmp_eq h h2 hn hn2 (by rw [h1]; exact g)⟩
  · exact ⟨1, ⟨fun _ => g, fun _ => by omega⟩, ⟨fun h => by omega, fun h => by omega⟩, rcmp_gt h h2 hn hn2 (by rw [h1]; exact g)⟩
set_option maxHeartbeats 8000000 in
theorem least_any {w : World} {Ae Ap Aq Ag : Option Addr} {ne ce np cp nq cq ng cg P Q ev : Nat} {xe xp xq : List Nat} (he : Nt w w.heap.size Ae ne ce xe) (hp : Nt w w.heap.size Ap np cp xp) (hq : Nt w w.heap.size Aq nq cq xq) (ee : val 18446744073709551616 xe = ev) (ep : val 18446744073709551616 xp = P) (eq : val 18446744073709551616 xq = Q) (hne : ne ≤ 100) (hnp : np ≤ 100) (hnq : nq ≤ 100) (hP0 : 0 < P) :
    Calls Tryz.prog 63 #[.slice Ae ne ce, .agg #[.slice Ap np cp, .slice Aq nq cq, .slice Ag ng cg]] w (LeastR ev P Q w) := by
  obtain ⟨w0, e0⟩ : ∃ w0, w0 = w.alloc (.cells #[Value.slice Ap np cp, .slice Aq nq cq, .slice Ag ng cg] 37) := ⟨_, rfl⟩
  obtain ⟨hx0, b0⟩ := box_new e0
  have LP := Lib.hid (show P < 18446744073709551616 ^ 100 by have := hp.below_pow hnp; rw [ep] at this; exact this)
  have HE := Lib.hid (he.up b0)
  have HP := Lib.hid (hp.up b0)
  have HQ := Lib.hid (hq.up b0)
  have VE := Lib.hid ee
  have VP := Lib.hid ep
  have VQ := Lib.hid eq
  have HB0 := Lib.hid b0
  have HX0 := Lib.hid hx0
  clear he hp hq ee ep eq b0 hx0
  go_enter Tryz.func63, Tryz.ntmps63
  go_wp2_with fail
  rw [← e0]
  clear e0
  go_loopw [5] (fun v wr => ∃ h : Nat, 2 ≤ h ∧ h ≤ 1000 ∧ v = .int .u64 (h : Int) ∧ (∀ j, 2 ≤ j → j < h → genN P Q (j ^ ev % P) = false) ∧ Below w0.heap.size w0 wr) (fun v _ => 1000 - (intOf v).toNat)
  case atStart => exact ⟨2, by omega, by omega, rfl, fun j j2 jh => by omega, Below.refl _ _⟩
  case round =>
    obtain ⟨h, hh2, hh9, rfl, hno, hb⟩ := hrel
    have HN := Lib.hid hno
    have HBr := Lib.hid hb
    by_cases hlt : h < 1000
    · have hd : decide ((h : Int) < 1000) = true := by simp; omega
      have bd : Below wr.heap.size wr wr.drew := (Below.refl _ _).drew
      have hbd := bthen hb bd
      have hyd := HX0.out.up hbd
      have HBd := Lib.hid hbd
      have E1 := Lib.hid (HE.out.up hbd)
      have P1 := Lib.hid (HP.out.up hbd)
      have Q1 := Lib.hid (HQ.out.up hbd)
      have z0 := hyd.c0
      have z1 := hyd.c1
      clear hno hb bd hbd
      go_wp2_with fail
      go_region_held3 (fun w' => w'.cell? ⟨w.heap.size, 0, none⟩ = some (Value.slice Ap np cp))
        (first | exact g5.c0 | exact g4.c0 | exact hyd.c0)
        ((first
          | (go_at_call 102; refine (rof_any h (by omega) _).mono ?_; rintro e w4 ⟨A4, n4, c4, x4, rfl, r4⟩
             have g4 := hyd.up r4.bel
             have g40 := g4.c0
             have v4 := Lib.hid r4.is
             have l4 : n4 ≤ 1 := r4.le (by omega)
             have R4 := Lib.hid r4)
          | (go_at_call 69; have hm := rpow_pos R4.out.nt (E1.out.up R4.out.bel) (P1.out.up R4.out.bel) (by omega) (by omega) (by omega) (by rw [VP.out]; omega); (with_reducible refine hm.mono ?_); clear hm; rintro e w5 ⟨A5, n5, c5, x5, rfl, r5⟩
             have g5 := g4.up r5.bel
             have g50 := g5.c0)))
      all_goals
        rw [v4.out, VE.out, VP.out] at r5
        have B5 := Lib.hid (bthen (bthen HBd.out R4.out.bel) r5.bel)
        have L5 := Lib.hid (show n5 ≤ 100 from r5.le (k := 100) (Nat.lt_trans (Nat.mod_lt _ hP0) LP.out))
        have g51 := g5.c1
        have HX5 := Lib.hid g5
        obtain ⟨G, hG⟩ : ∃ G, G = h ^ ev % P := ⟨_, rfl⟩
        rw [← hG] at r5
        have HG := Lib.hid hG
        have hm := rpow_pos r5.nt (HQ.out.up B5.out) (HP.out.up B5.out) (by have := L5.out; omega) (by omega) (by omega) (by rw [VP.out]; omega)
        rw [r5.is, VQ.out, VP.out] at hm
        have Hm := Lib.hid hm
        have R5 := Lib.hid r5
        clear hm r5 r4 g4 g40 z0 z1 hyd hG
        go_wp2_with fail
        refine Hm.out.mono ?_
        rintro e w6 ⟨A6, n6, c6, x6, rfl, r6⟩
        have B6 := Lib.hid (bthen B5.out r6.bel)
        have L6 := Lib.hid (show n6 ≤ 100 from r6.le (k := 100) (Nat.lt_trans (Nat.mod_lt _ hP0) LP.out))
        have M56 := Lib.hid (R5.out.nt.up r6.bel)
        have R6 := Lib.hid r6
        clear r6 Hm g5 g50 g51
        go_wp2_with fail
        refine (rone_any _).mono ?_
        rintro e w7 ⟨A7, n7, c7, x7, rfl, r7⟩
        have l7 : n7 ≤ 1 := r7.le (by omega)
        obtain ⟨z, hz, _, hc⟩ := cmp_one (M56.out.up r7.bel) r7.nt (by have := L5.out; omega) (by omega) r7.is
        rw [R5.out.is] at hz
        have HC := Lib.hid hc
        have HZ := Lib.hid hz
        have B7 := Lib.hid (bthen B6.out r7.bel)
        have M57 := Lib.hid (M56.out.up r7.bel)
        have M67 := Lib.hid (R6.out.nt.up r7.bel)
        clear hc hz r7
        go_wp2_with fail
        refine HC.out.mono ?_
        rintro e w8 ⟨rfl, b8⟩
        have B8 := Lib.hid (bthen B7.out b8)
        have M58 := Lib.hid (M57.out.up b8)
        have M68 := Lib.hid (M67.out.up b8)
        clear b8 HC
        by_cases hg1 : 1 < G
        · have kz : 0 < z := HZ.out.2 hg1
          have Hg1 := Lib.hid hg1
          clear hg1
          go_wp2_with fail
          refine (rone_any _).mono ?_
          rintro e w9 ⟨A9, n9, c9, x9, rfl, r9⟩
          have l9 : n9 ≤ 1 := r9.le (by omega)
          obtain ⟨y, _, hy, hc⟩ := cmp_one (M68.out.up r9.bel) r9.nt (by have := L6.out; omega) (by omega) r9.is
          rw [R6.out.is] at hy
          have HC := Lib.hid hc
          have HY := Lib.hid hy
          have B9 := Lib.hid (bthen B8.out r9.bel)
          have M59 := Lib.hid (M58.out.up r9.bel)
          clear hc hy r9
          go_wp2_with fail
          refine HC.out.mono ?_
          rintro e w10 ⟨rfl, b10⟩
          have B10 := Lib.hid (bthen B9.out b10)
          have M510 := Lib.hid (M59.out.up b10)
          clear b10 HC
          by_cases hx1 : G ^ Q % P = 1
          · have ky : y = 0 := HY.out.2 hx1
            have hgen : genN P Q G = true := by unfold genN; rw [decide_eq_true Hg1.out, decide_eq_true hx1]; rfl
            rw [HG.out] at hgen
            have HGen := Lib.hid hgen
            clear hgen hx1
            subst ky
            go_wp2_with fail
            go_ret
            exact ⟨.inl ⟨h, hh2, by omega, HN.out, HGen.out, _, _, _, _, rfl, M510.out, R5.out.trm, R5.out.is.trans HG.out⟩, bthen HB0.out B10.out⟩
          · have ky : (y = 0) = False := by simp only [eq_iff_iff, iff_false]; exact fun e => hx1 (HY.out.1 e)
            have ky2 : (y == 0) = false := by simpa using ky
            have hgen : genN P Q G = false := by unfold genN; rw [decide_eq_false hx1, Bool.and_false]
            rw [HG.out] at hgen
            have HGen := Lib.hid hgen
            clear hgen hx1
            go_wp2_with fail
            go_roundw
            case rel =>
              refine ⟨h + 1, by omega, by omega, by simp, fun j j2 jh => ?_, B10.out⟩
              rcases Nat.lt_or_ge j h with g | g
              · exact HN.out j j2 g
              · rw [show j = h by omega]; exact HGen.out
            case measure => simp [intOf]; omega
        · have kz : (0 < z) = False := by simp only [eq_iff_iff, iff_false]; exact fun e => hg1 (HZ.out.1 e)
          have hgen : genN P Q G = false := by unfold genN; rw [decide_eq_false hg1, Bool.false_and]
          rw [HG.out] at hgen
          have HGen := Lib.hid hgen
          clear hgen hg1
          go_wp2_with fail
          go_roundw
          case rel =>
            refine ⟨h + 1, by omega, by omega, by simp, fun j j2 jh => ?_, B8.out⟩
            rcases Nat.lt_or_ge j h with g | g
            · exact HN.out j j2 g
            · rw [show j = h by omega]; exact HGen.out
          case measure => simp [intOf]; omega
    · have hd : ((h : Int) < 1000) = False := by simp only [eq_iff_iff, iff_false]; omega
      clear hno hb
      go_wp2_with fail
      go_ret
      exact ⟨.inr ⟨fun j j2 j9 => HN.out j j2 (by omega), rfl⟩, bthen HB0.out HBr.out⟩
end Go.Proofs.YtkhlmcknbangfaaGreatDoor
namespace Go.Proofs.YtkhlmcknbangfaaGreatDoor
open Go.RowKit
set_option linter.unusedVariables false
set_option linter.unusedSimpArgs false
set_option maxRecDepth 100000
theorem results_riff {w : World} {T : Array Value} {g : Nat} {v1 v2 v3 : Value} {us er : Int} (t6 : T[6]?.getD undef = .pointer (some ⟨g, 0, none⟩)) (t7 : T[7]?.getD undef = .int .i64 us) (t8 : T[8]?.getD undef = .int .i64 er)
    (h1 : w.heap[g]? = some (.cells #[v1, v2, v3] 37 (0, 0))) : (results Tryz.f16 T).run Tryz.prog w = .ok (.tuple #[.agg #[v1, v2, v3], .int .i64 us, .int .i64 er]) w := by
  obtain ⟨a1, a2, a3, _, _, _⟩ := three_cells h1
  simp [results, Tryz.results16, go_sem, t6, t7, t8, asAddr, a1, a2, a3]
  try simp [Result.andThen, a1, a2, a3]
/-- the document's Make's variables in memory: what it hands back, and p -/
structure Bq (w W : World) (A1 : Option Addr) (n1 c1 : Nat) (A2 : Option Addr) (n2 c2 : Nat) : Prop where
  r : W.heap[w.heap.size]? = some (.cells #[Value.slice none 0 0, .slice none 0 0, .slice none 0 0] 37 (0, 0))
  p : W.heap[w.heap.size + 1]? = some (.cells #[Value.slice A1 n1 c1, .slice A2 n2 c2, .slice none 0 0] 37 (0, 0))
  size : w.heap.size + 2 ≤ W.heap.size
  bel : Below w.heap.size w W
theorem Bq.up {w W W' : World} {A1 A2 : Option Addr} {n1 c1 n2 c2 : Nat} (h : Bq w W A1 n1 c1 A2 n2 c2) (b : Below W.heap.size W W') : Bq w W' A1 n1 c1 A2 n2 c2 := by
  have hs := h.size
  exact ⟨(b.block _ (by omega)).trans h.r, (b.block _ (by omega)).trans h.p, Nat.le_trans hs b.size, bthen h.bel b⟩
theorem Bq.setP {w W : World} {A1 A2 A : Option Addr} {n1 c1 n2 c2 n c : Nat} (h : Bq w W A1 n1 c1 A2 n2 c2) : Bq w (W.setCell ⟨w.heap.size + 1, 0, none⟩ (.slice A n c)) A n c A2 n2 c2 :=
  ⟨(Below.heap_setCell _ _ _ _ (by simp)).trans h.r, by simp [World.setCell, Array.getElem?_modify, h.p], by simpa using h.size, h.bel.setCell (by simp) _⟩
theorem Bq.setQ {w W : World} {A1 A2 A : Option Addr} {n1 c1 n2 c2 n c : Nat} (h : Bq w W A1 n1 c1 A2 n2 c2) : Bq w (W.setCell ⟨w.heap.size + 1, 1, none⟩ (.slice A n c)) A1 n1 c1 A n c :=
  ⟨(Below.heap_setCell _ _ _ _ (by simp)).trans h.r, by simp [World.setCell, Array.getElem?_modify, h.p], by simpa using h.size, h.bel.setCell (by simp) _⟩
theorem Nt.fld {w : World} {g i n c : Nat} {A A1 A2 A3 : Option Addr} {n1 c1 n2 c2 n3 c3 : Nat} {xs : List Nat} {t : TypeId} {v : Value} (m : Nt w w.heap.size A n c xs) (hx : w.heap[g]? = some (.cells #[.slice A1 n1 c1, .slice A2 n2 c2, .slice A3 n3 c3] t (0, 0))) :
    Nt (w.setCell ⟨g, i, none⟩ v) (w.setCell ⟨g, i, none⟩ v).heap.size A n c xs := by
  rw [size_setCell]; exact m.away (m.not_in hx)
theorem ns_snoc {p : Nat → Bool} {k : Nat} (h : ∀ i, i < k → p i = false) (h1 : p k = false) : ∀ i, i < k + 1 → p i = false := fun i hi => by
  rcases Nat.lt_or_ge i k with h2 | h2
  · exact h i h2
  · rw [show i = k by omega]; exact h1
set_option maxHeartbeats 4000000 in
theorem rimake_bad {w : World} {A : Option Addr} {n c : Nat} (qb pb : Int) (hq : -9223372036854775808 ≤ qb ∧ qb ≤ 9223372036854775807) (h : qb < 8 ∨ 256 < qb ∨ pb < qb + 8 ∨ 512 < pb) :
    Calls Tryz.prog 16 #[.slice A n c, .int .i64 qb, .int .i64 pb] w fun r w' => r = rNone 1 ∧ Below w.heap.size w w' := by
  have hx : (w.alloc (.cells #[Value.slice none 0 0, .slice none 0 0, .slice none 0 0] 37)).heap[w.heap.size]? = some (.cells #[Value.slice none 0 0, .slice none 0 0, .slice none 0 0] 37 (0, 0)) := heap_alloc_new w _
  have B0 := Lib.hid (show Below w.heap.size w (w.alloc (.cells #[Value.slice none 0 0, .slice none 0 0, .slice none 0 0] 37)) from (Below.refl _ w).alloc (Nat.le_refl _) _)
  obtain ⟨q0, q1, q2, q3, q4, q5⟩ := three_cells hx
  by_cases g1 : qb < 8
  · clear h hq
    go_enter Tryz.func16, Tryz.ntmps16
    go_wp2_with fail
    refine bodyPost_ret (v := .tuple #[.agg #[.slice none 0 0, .slice none 0 0, .slice none 0 0], .int .i64 0, .int .i64 1]) (results_riff rfl rfl rfl hx) rfl ?_
    exact ⟨rfl, B0.out⟩
  have k1 : (qb < 8) = False := by simpa using g1
  by_cases g2 : 256 < qb
  · clear h hq g1
    go_enter Tryz.func16, Tryz.ntmps16
    go_wp2_with fail
    refine bodyPost_ret (v := .tuple #[.agg #[.slice none 0 0, .slice none 0 0, .slice none 0 0], .int .i64 0, .int .i64 1]) (results_riff rfl rfl rfl hx) rfl ?_
    exact ⟨rfl, B0.out⟩
  have k2 : (256 < qb) = False := by simpa using g2
  by_cases g3 : pb < qb + 8
  · clear h hq
    go_enter Tryz.func16, Tryz.ntmps16
    go_wp2_with fail
    refine bodyPost_ret (v := .tuple #[.agg #[.slice none 0 0, .slice none 0 0, .slice none 0 0], .int .i64 0, .int .i64 1]) (results_riff rfl rfl rfl hx) rfl ?_
    exact ⟨rfl, B0.out⟩
  have k3 : (pb < qb + 8) = False := by simpa using g3
  have g4 : 512 < pb := by omega
  clear h hq
  go_enter Tryz.func16, Tryz.ntmps16
  go_wp2_with fail
  refine bodyPost_ret (v := .tuple #[.agg #[.slice none 0 0, .slice none 0 0, .slice none 0 0], .int .i64 0, .int .i64 1]) (results_riff rfl rfl rfl hx) rfl ?_
  exact ⟨rfl, B0.out⟩
set_option maxHeartbeats 16000000 in
theorem rimake_any {w : World} {A : Option Addr} {n c qd pd q qp sz sp : Nat} {bs : List Nat} (h : Nb w w.heap.size A n c bs) (hn : n ≤ 1000000) (hq8 : 8 ≤ qd) (hq2 : qd ≤ 256) (hp8 : 8 ≤ pd) (hpb : qd + pd ≤ 512) (hq7 : q ≤ 7) (hqs : qd + q = 8 * sz) (hp7 : qp ≤ 7) (hps : pd + qp = 8 * sp) :
    Calls Tryz.prog 16 #[.slice A n c, .int .i64 (qd : Int), .int .i64 ((qd + pd : Nat) : Int)] w (MadeQ bs sz qd sp pd w) := by
  have hsz0 : 0 < sz := by omega
  have hsp0 : 0 < sp := by omega
  have hszl : sz ≤ 100 := by omega
  have hspl : sp ≤ 100 := by omega
  have g1 : ((qd : Int) < 8) = False := by simp only [eq_iff_iff, iff_false]; omega
  have g2 : ((256 : Int) < (qd : Int)) = False := by simp only [eq_iff_iff, iff_false]; omega
  have g3 : (((qd + pd : Nat) : Int) < (qd : Int) + 8) = False := by simp only [eq_iff_iff, iff_false]; omega
  have g4 : ((512 : Int) < ((qd + pd : Nat) : Int)) = False := by simp only [eq_iff_iff, iff_false]; omega
  have g5 : ((qd + pd : Nat) : Int) - (qd : Int) = (pd : Int) := by omega
  have g6 : ((qd + pd : Nat) : Int) ≤ 512 := by omega
  have g7 : ((qd : Int) + 7) / 8 = (sz : Int) := by omega
  have g8 : ((pd : Int) + 7) / 8 = (sp : Int) := by omega
  have hq600 : qd ≤ 8000 := by omega
  have hp600 : pd ≤ 8000 := by omega
  have hq2' : 2 ≤ qd := by omega
  have hp2' : 2 ≤ pd := by omega
  generalize ((qd + pd : Nat) : Int) = pb at *
  obtain ⟨w0, e0⟩ : ∃ w0, w0 = (w.alloc (.cells #[Value.slice none 0 0, .slice none 0 0, .slice none 0 0] 37)).alloc (.cells #[Value.slice none 0 0, .slice none 0 0, .slice none 0 0] 37) := ⟨_, rfl⟩
  have hbq : Bq w w0 none 0 0 none 0 0 := by
    rw [e0]
    refine ⟨?_, ?_, by simp, ((Below.refl _ w).alloc (Nat.le_refl _) _).alloc (by simp) _⟩
    · exact (((Below.refl _ (w.alloc (.cells #[Value.slice none 0 0, .slice none 0 0, .slice none 0 0] 37))).alloc (Nat.le_refl _) _).block w.heap.size (by simp)).trans (heap_alloc_new w _)
    · have := heap_alloc_new (w.alloc (.cells #[Value.slice none 0 0, .slice none 0 0, .slice none 0 0] 37)) (.cells #[Value.slice none 0 0, .slice none 0 0, .slice none 0 0] 37)
      rwa [World.size_alloc] at this
  have HB0 := Lib.hid hbq
  have HH := Lib.hid h
  have HLen := Lib.hid h.len
  have HC1 := Lib.hid (fun k => (c1N_lt bs sz qd hq8 (by omega) k))
  have HC2 := Lib.hid (fun (bs' : List Nat) k => (c1N_lt bs' sp pd hp8 (by omega) k))
  obtain ⟨T, hT⟩ : ∃ T, T = n / sz := ⟨_, rfl⟩
  have HT := Lib.hid hT
  clear h hqs hps hp8 hpb hq8 hq2 hbq hT hq7 hp7
  go_enter Tryz.func16, Tryz.ntmps16
  go_wp2_with fail
  rw [← e0]
  rw [g7, g8]
  clear e0 g7 g8
  go_loopw [12] (fun i wr => ∃ (k a : Nat) (A1 : Option Addr) (n1 c1 : Nat) (A2 : Option Addr) (n2 c2 : Nat), k ≤ T ∧ a ≤ n ∧ i = .int .i64 (a : Int) ∧ Hid (a = k * sz) ∧ Hid (∀ i, i < k → primeN (c1N bs sz qd i) b12 = false) ∧ Hid (Bq w wr A1 n1 c1 A2 n2 c2)) (fun i _ => n - (intOf i).toNat)
  case atStart => exact ⟨0, 0, _, _, _, _, _, _, Nat.zero_le _, Nat.zero_le _, rfl, Lib.hid (by simp), Lib.hid (fun i hi => absurd hi (Nat.not_lt_zero i)), HB0⟩
  case round =>
    obtain ⟨k, a, A1, n1, c1, A2, n2, c2, hk, han, rfl, Ha, HE, HB⟩ := hrel
    by_cases hkT : k < T
    · have f1 : a + sz ≤ n := by
        have h6 : k + 1 ≤ n / sz := by have := HT.out; omega
        have h5 := Nat.le_trans (Nat.mul_le_mul_right sz h6) (Nat.div_mul_le_self n sz)
        rw [Nat.add_mul, Nat.one_mul, ← Ha.out] at h5
        exact h5
      have hn0 : 0 < n := by omega
      have hcap := HH.out.cap
      have hW := HH.out.up HB.out.bel
      obtain ⟨b, off, rfl, hbl, hcl⟩ := hW.cell hn0
      have hsub := hW.cut_ rfl a sz f1 hsz0 hbl hcl
      have HCa := Lib.hid (piece_any hsub (by omega) hq2' hq600)
      obtain ⟨Q, hQ⟩ : ∃ Q, Q = c1N bs sz qd k := ⟨_, rfl⟩
      have HQ := Lib.hid hQ
      have HCe := Lib.hid (show candV (nb ((bs.drop a).take sz)) qd 1 = Q by rw [hQ, Ha.out]; rfl)
      have HQ8 := Lib.hid (show Q < 18446744073709551616 ^ 8 by rw [hQ]; exact (HC1.out k).1)
      have hQ1 : 0 < Q := by rw [hQ]; exact (HC1.out k).2
      have e9 : ((a : Int) + (sz : Int)).toNat - a = sz := by omega
      have hca : ¬ c = a := by omega
      clear hW hbl hcl hsub hQ
      go_wp2_with fail
      refine HCa.out.mono ?_
      rintro r w4 ⟨A4, n4, c4, x4, rfl, m4, t4, v4, b4⟩
      have X4 := HB.out.up b4
      obtain ⟨p0, p1, p2, p3, p4, p5⟩ := three_cells X4.p
      obtain ⟨w5, e5⟩ : ∃ w5, w5 = w4.setCell ⟨w.heap.size + 1, 1, none⟩ (.slice A4 n4 c4) := ⟨_, rfl⟩
      have X5 : Bq w w5 A1 n1 c1 A4 n4 c4 := e5 ▸ X4.setQ
      have m5 : Nt w5 w5.heap.size A4 n4 c4 x4 := e5 ▸ m4.fld X4.p
      have hv4 : val 18446744073709551616 x4 = Q := v4.trans HCe.out
      have l4 : n4 ≤ 8 := len_le t4 m4.len (by rw [hv4]; exact HQ8.out)
      have HPs := Lib.hid (rpasses_any m5 hv4 (by omega))
      have M5 := Lib.hid m5
      have T4 := Lib.hid t4
      have V4 := Lib.hid hv4
      have HX5 := Lib.hid X5
      clear m4 t4 v4 b4 X4 X5 m5 hv4 HCa
      go_wp2_with fail
      rw [← e5]
      clear e5 p0 p1 p2 p3 p4 p5
      refine HPs.out.mono ?_
      rintro r w6 ⟨rfl, b6⟩
      have HX6 := Lib.hid (HX5.out.up b6)
      have M6 := Lib.hid (M5.out.up b6)
      clear b6 HPs
      cases hgd : primeN Q b12 with
      | false =>
        have Hgd := Lib.hid hgd
        clear hgd
        go_wp2_with fail
        go_roundw
        case rel => exact ⟨k + 1, a + sz, _, _, _, _, _, _, hkT, f1, by simp, Lib.hid (by rw [Ha.out, Nat.add_mul, Nat.one_mul]), Lib.hid (ns_snoc HE.out (by rw [← HQ.out]; exact Hgd.out)), HX6⟩
        case measure => simp [intOf]; omega
      | true =>
        have Hgd := Lib.hid hgd
        clear hgd
        obtain ⟨u, hu⟩ : ∃ u, u = a + sz := ⟨_, rfl⟩
        have HU := Lib.hid (show u = (k + 1) * sz by rw [hu, Ha.out, Nat.add_mul, Nat.one_mul])
        obtain ⟨T2, hT2⟩ : ∃ T2, T2 = (n - u) / sp := ⟨_, rfl⟩
        have HT2 := Lib.hid hT2
        have hun : u ≤ n := by omega
        have Hu := Lib.hid hu
        clear hT2 hu
        go_wp2_with fail
        go_loopw [13] (fun i wr => ∃ (j d : Nat) (A1 : Option Addr) (n1 c1 : Nat), j ≤ T2 ∧ d ≤ n ∧ i = .int .i64 (d : Int) ∧ Hid (d = u + j * sp) ∧ Hid (∀ i, i < j → primeN (pOf Q (c1N (bs.drop u) sp pd i)) b12 = false) ∧ Hid (Bq w wr A1 n1 c1 A4 n4 c4) ∧ Hid (Nt wr wr.heap.size A4 n4 c4 x4)) (fun i _ => n - (intOf i).toNat)
        case atStart => exact ⟨0, u, _, _, _, Nat.zero_le _, hun, by rw [Hu.out]; simp, Lib.hid (by simp), Lib.hid (fun i hi => absurd hi (Nat.not_lt_zero i)), HX6, M6⟩
        case round =>
          obtain ⟨j, d, A7, n7, c7, hj, hdn, rfl, Hd, HF, HB7, M7⟩ := hrel
          by_cases hjT : j < T2
          · have f2 : d + sp ≤ n := by
              have h6 : j + 1 ≤ (n - u) / sp := by have := HT2.out; omega
              have h5 := Nat.le_trans (Nat.mul_le_mul_right sp h6) (Nat.div_mul_le_self (n - u) sp)
              rw [Nat.add_mul, Nat.one_mul] at h5
              have := Hd.out
              omega
            have hW := HH.out.up HB7.out.bel
            obtain ⟨b', off', eA, hbl, hcl⟩ := hW.cell hn0
            cases eA
            have hsub := hW.cut_ rfl d sp f2 hsp0 hbl hcl
            have HCa := Lib.hid (piece_any hsub (by omega) hp2' hp600)
            obtain ⟨C, hC⟩ : ∃ C, C = c1N (bs.drop u) sp pd j := ⟨_, rfl⟩
            have HC := Lib.hid hC
            have HCe := Lib.hid (show candV (nb ((bs.drop d).take sp)) pd 1 = C by rw [hC, Hd.out]; unfold c1N; rw [List.drop_drop])
            have HC8 := Lib.hid (show C < 18446744073709551616 ^ 8 by rw [hC]; exact (HC2.out _ j).1)
            have hC1 : 1 ≤ C := by rw [hC]; exact (HC2.out _ j).2
            have e10 : ((d : Int) + (sp : Int)).toNat - d = sp := by omega
            have hcd : ¬ c = d := by omega
            clear hW hbl hcl hsub hC
            go_wp2_with fail
            refine HCa.out.mono ?_
            rintro r w8 ⟨A8, n8, c8, x8, rfl, m8, t8, v8, b8⟩
            have l8 : n8 ≤ 8 := len_le t8 m8.len (by rw [v8, HCe.out]; exact HC8.out)
            have V8 := Lib.hid (v8.trans HCe.out)
            have M8 := Lib.hid m8
            have HX8 := Lib.hid (HB7.out.up b8)
            have M78 := Lib.hid (M7.out.up b8)
            clear m8 t8 v8 b8 HCa
            go_wp2_with fail
            refine (rone_any _).mono ?_
            rintro r w9 ⟨A9, n9, c9, x9, rfl, r9⟩
            have l9 : n9 ≤ 1 := r9.le (by omega)
            have hsb := rsub_ok (M8.out.up r9.bel) r9.nt (by omega) (by omega) (by rw [V8.out, r9.is]; exact hC1)
            rw [V8.out, r9.is] at hsb
            have HSb := Lib.hid hsb
            have HX9 := Lib.hid (HX8.out.up r9.bel)
            have M79 := Lib.hid (M78.out.up r9.bel)
            clear hsb r9
            go_wp2_with fail
            refine HSb.out.mono ?_
            rintro r w10 ⟨A10, n10, c10, x10, rfl, r10⟩
            have l10 : n10 ≤ 8 := r10.le (k := 8) (Nat.lt_of_le_of_lt (Nat.sub_le _ _) HC8.out)
            have V10 := Lib.hid r10.is
            have M10 := Lib.hid r10.nt
            have HX10 := Lib.hid (HX9.out.up r10.bel)
            have M710 := Lib.hid (M79.out.up r10.bel)
            clear r10 HSb
            obtain ⟨p0, p1, p2, p3, p4, p5⟩ := three_cells HX10.out.p
            have hml := Rn.rmul_any M10.out M710.out (by omega) (by omega)
            rw [V10.out, V4.out] at hml
            have HMl := Lib.hid hml
            clear hml
            go_wp2_with fail
            refine HMl.out.mono ?_
            rintro r w11 ⟨A11, n11, c11, x11, rfl, m11, t11, v11, b11⟩
            have hP20 := Lib.hid (pOf_len (Q := Q) HQ8.out HC8.out)
            have l11 : n11 ≤ 20 := len_le t11 m11.len (by rw [v11]; exact Nat.lt_of_le_of_lt (Nat.le_succ _) hP20.out)
            have V11 := Lib.hid v11
            have M11 := Lib.hid m11
            have HX11 := Lib.hid (HX10.out.up b11)
            have M711 := Lib.hid (M710.out.up b11)
            have M1011 := Lib.hid (M10.out.up b11)
            clear m11 t11 v11 b11 HMl p0 p1 p2 p3 p4 p5
            go_wp2_with fail
            refine (rone_any _).mono ?_
            rintro r w12 ⟨A12, n12, c12, x12, rfl, r12⟩
            have l12 : n12 ≤ 1 := r12.le (by omega)
            have had := Rn.radd_any (M11.out.up r12.bel) r12.nt (by omega) (by omega)
            rw [V11.out, r12.is] at had
            have HAd := Lib.hid had
            have HX12 := Lib.hid (HX11.out.up r12.bel)
            have M712 := Lib.hid (M711.out.up r12.bel)
            have M1012 := Lib.hid (M1011.out.up r12.bel)
            clear had r12
            go_wp2_with fail
            refine HAd.out.mono ?_
            rintro r w13 ⟨A13, n13, c13, x13, rfl, m13, t13, v13, b13⟩
            have X13 := HX12.out.up b13
            obtain ⟨p0, p1, p2, p3, p4, p5⟩ := three_cells X13.p
            obtain ⟨w14, e14⟩ : ∃ w14, w14 = w13.setCell ⟨w.heap.size + 1, 0, none⟩ (.slice A13 n13 c13) := ⟨_, rfl⟩
            have HX14 := Lib.hid (show Bq w w14 A13 n13 c13 A4 n4 c4 from e14 ▸ X13.setP)
            have l13 : n13 ≤ 20 := len_le t13 m13.len (by rw [v13]; exact hP20.out)
            have M14 := Lib.hid (show Nt w14 w14.heap.size A13 n13 c13 x13 from e14 ▸ m13.fld X13.p)
            have M714 := Lib.hid (show Nt w14 w14.heap.size A4 n4 c4 x4 from e14 ▸ (M712.out.up b13).fld X13.p)
            have M1014 := Lib.hid (show Nt w14 w14.heap.size A10 n10 c10 x10 from e14 ▸ (M1012.out.up b13).fld X13.p)
            have V13 := Lib.hid (show val 18446744073709551616 x13 = pOf Q C from v13)
            have T13 := Lib.hid t13
            have HPs := Lib.hid (rpasses_any M14.out V13.out (by omega))
            clear m13 t13 v13 b13 X13 HAd
            go_wp2_with fail
            rw [← e14]
            clear e14 p0 p1 p2 p3 p4 p5
            refine HPs.out.mono ?_
            rintro r w15 ⟨rfl, b15⟩
            have HX15 := Lib.hid (HX14.out.up b15)
            have M15 := Lib.hid (M14.out.up b15)
            have M715 := Lib.hid (M714.out.up b15)
            have M1015 := Lib.hid (M1014.out.up b15)
            clear b15 HPs
            cases hgp : primeN (pOf Q C) b12 with
            | false =>
              have Hgp := Lib.hid hgp
              clear hgp
              go_wp2_with fail
              go_roundw
              case rel => exact ⟨j + 1, d + sp, _, _, _, hjT, f2, by simp, Lib.hid (by rw [Hd.out, Nat.add_mul, Nat.one_mul, Nat.add_assoc]), Lib.hid (ns_snoc HF.out (by rw [← HC.out]; exact Hgp.out)), HX15, M715⟩
              case measure => simp [intOf]; omega
            | true =>
              have Hgp := Lib.hid hgp
              clear hgp
              have HLe := Lib.hid (least_any (Ag := none) (ng := 0) (cg := 0) M1015.out M15.out M715.out V10.out V13.out V4.out (by omega) (by omega) (by omega) (Nat.succ_pos _))
              obtain ⟨p0, p1, p2, p3, p4, p5⟩ := three_cells HX15.out.p
              go_wp2_with fail
              refine HLe.out.mono ?_
              rintro r w16 ⟨hc, b16⟩
              have HX16 := Lib.hid (HX15.out.up b16)
              have M16 := Lib.hid (M15.out.up b16)
              have M716 := Lib.hid (M715.out.up b16)
              clear b16 HLe p0 p1 p2 p3 p4 p5
              obtain ⟨p0, p1, p2, p3, p4, p5⟩ := three_cells HX16.out.p
              obtain ⟨q0, q1, q2, q3, q4, q5⟩ := three_cells HX16.out.r
              rcases hc with ⟨hh, h2, h9, hhl, hhg, A17, n17, c17, x17, rfl, m17, t17, v17⟩ | ⟨hno, rfl⟩
              · have hG1 : 1 < hh ^ (C - 1) % pOf Q C := by
                  have := hhg
                  unfold genN at this
                  rw [Bool.and_eq_true, decide_eq_true_iff] at this
                  exact this.1
                have hn17 : ¬ n17 = 0 := fun e => by
                  have e2 : x17 = [] := List.length_eq_zero_iff.1 (m17.len.trans e)
                  rw [e2] at v17
                  have : val 18446744073709551616 [] = 0 := rfl
                  omega
                have k17 : ((n17 : Int) = 0) = False := by simp only [eq_iff_iff, iff_false]; omega
                have k17b : ((n17 : Int) == 0) = false := by simpa using k17
                obtain ⟨w17, e17⟩ : ∃ w17, w17 = w16.setCell ⟨w.heap.size + 1, 2, none⟩ (.slice A17 n17 c17) := ⟨_, rfl⟩
                have hr17 : w17.heap[w.heap.size]? = some (.cells #[Value.slice none 0 0, .slice none 0 0, .slice none 0 0] 37 (0, 0)) := by rw [e17, Below.heap_setCell _ _ _ _ (by simp)]; exact HX16.out.r
                have M17 := Lib.hid (show Nt w17 w17.heap.size A17 n17 c17 x17 from e17 ▸ m17.fld HX16.out.p)
                have M1617 := Lib.hid (show Nt w17 w17.heap.size A13 n13 c13 x13 from e17 ▸ M16.out.fld HX16.out.p)
                have M717 := Lib.hid (show Nt w17 w17.heap.size A4 n4 c4 x4 from e17 ▸ M716.out.fld HX16.out.p)
                have HB17 := Lib.hid (show Below w.heap.size w w17 from e17 ▸ HX16.out.bel.setCell (by simp) _)
                have HR17 := Lib.hid hr17
                have HG := Lib.hid (And.intro h2 (And.intro h9 (And.intro hhl (And.intro hhg (And.intro t17 v17)))))
                clear m17 h2 h9 hhl hhg t17 v17 hr17 hn17 hG1
                go_wp2_with fail
                rw [← e17]
                clear e17
                have hg2 := three_fin (v1 := .slice A13 n13 c13) (v2 := .slice A4 n4 c4) (v3 := .slice A17 n17 c17) HR17.out
                refine bodyPost_ret (v := .tuple #[.agg #[.slice A13 n13 c13, .slice A4 n4 c4, .slice A17 n17 c17], .int .i64 ((d : Int) + (sp : Int)), .int .i64 0]) (results_riff rfl rfl rfl hg2) rfl ?_
                obtain ⟨h2, h9, hhl, hhg, t17, v17⟩ := HG.out
                refine ⟨.inr ⟨k, Q, by rw [HLen.out, ← HT.out]; exact hkT, HE.out, HQ.out, Hgd.out, .inr ⟨j, C, ?_, ?_, ?_, Hgp.out, .inr ⟨hh, h2, h9, hhl, hhg, A13, n13, c13, x13, A4, n4, c4, x4, A17, n17, c17, x17, ?_, M1617.out.away3 (B := 0) (M1617.out.not_in HR17.out), T13.out, V13.out, M717.out.away3 (B := 0) (M717.out.not_in HR17.out), T4.out, V4.out, M17.out.away3 (B := 0) (M17.out.not_in HR17.out), t17, v17⟩⟩⟩, (((HB17.out).setCell (p := ⟨w.heap.size, 0, none⟩) (by simp) _).setCell (p := ⟨w.heap.size, 1, none⟩) (by simp) _).setCell (p := ⟨w.heap.size, 2, none⟩) (by simp) _⟩
                · rw [← HU.out, List.length_drop, HLen.out, ← HT2.out]; exact hjT
                · rw [← HU.out]; exact HF.out
                · rw [← HU.out]; exact HC.out
                · have e11 : u + (j + 1) * sp = d + sp := by rw [Hd.out, Nat.add_mul, Nat.one_mul, Nat.add_assoc]
                  rw [← HU.out, e11]; simp
              · have HN := Lib.hid hno
                clear hno
                obtain ⟨w17, e17⟩ : ∃ w17, w17 = w16.setCell ⟨w.heap.size + 1, 2, none⟩ (.slice none 0 0) := ⟨_, rfl⟩
                have HR17 := Lib.hid (show w17.heap[w.heap.size]? = some (.cells #[Value.slice none 0 0, .slice none 0 0, .slice none 0 0] 37 (0, 0)) by rw [e17, Below.heap_setCell _ _ _ _ (by simp)]; exact HX16.out.r)
                have HB17 := Lib.hid (show Below w.heap.size w w17 from e17 ▸ HX16.out.bel.setCell (by simp) _)
                go_wp2_with fail
                rw [← e17]
                clear e17
                have hg2 := three_fin (v1 := .slice none 0 0) (v2 := .slice none 0 0) (v3 := .slice none 0 0) HR17.out
                refine bodyPost_ret (v := .tuple #[.agg #[.slice none 0 0, .slice none 0 0, .slice none 0 0], .int .i64 0, .int .i64 60]) (results_riff rfl rfl rfl hg2) rfl ?_
                refine ⟨.inr ⟨k, Q, by rw [HLen.out, ← HT.out]; exact hkT, HE.out, HQ.out, Hgd.out, .inr ⟨j, C, ?_, ?_, ?_, Hgp.out, .inl ⟨HN.out, rfl⟩⟩⟩, (((HB17.out).setCell (p := ⟨w.heap.size, 0, none⟩) (by simp) _).setCell (p := ⟨w.heap.size, 1, none⟩) (by simp) _).setCell (p := ⟨w.heap.size, 2, none⟩) (by simp) _⟩
                · rw [← HU.out, List.length_drop, HLen.out, ← HT2.out]; exact hjT
                · rw [← HU.out]; exact HF.out
                · rw [← HU.out]; exact HC.out
          · have hjT2 : j = T2 := by omega
            have f3 : ((d : Int) + (sp : Int) ≤ (n : Int)) = False := by
              simp only [eq_iff_iff, iff_false]
              have h5 := Nat.div_add_mod (n - u) sp
              have h6 := Nat.mod_lt (n - u) hsp0
              have h7 := Hd.out
              rw [hjT2, HT2.out, Nat.mul_comm] at h7
              omega
            obtain ⟨q0, q1, q2, q3, q4, q5⟩ := three_cells HB7.out.r
            have HF2 := Lib.hid (show ∀ i, i < T2 → primeN (pOf Q (c1N (bs.drop u) sp pd i)) b12 = false from hjT2 ▸ HF.out)
            clear hjT hjT2
            go_wp2_with fail
            have hg2 := three_fin (v1 := .slice none 0 0) (v2 := .slice none 0 0) (v3 := .slice none 0 0) HB7.out.r
            refine bodyPost_ret (v := .tuple #[.agg #[.slice none 0 0, .slice none 0 0, .slice none 0 0], .int .i64 0, .int .i64 52]) (results_riff rfl rfl rfl hg2) rfl ?_
            refine ⟨.inr ⟨k, Q, by rw [HLen.out, ← HT.out]; exact hkT, HE.out, HQ.out, Hgd.out, .inl ⟨?_, rfl⟩⟩, (((HB7.out.bel).setCell (p := ⟨w.heap.size, 0, none⟩) (by simp) _).setCell (p := ⟨w.heap.size, 1, none⟩) (by simp) _).setCell (p := ⟨w.heap.size, 2, none⟩) (by simp) _⟩
            rw [← HU.out, List.length_drop, HLen.out, ← HT2.out]
            exact HF2.out
    · have hkT2 : k = T := by omega
      have f3 : ((a : Int) + (sz : Int) ≤ (n : Int)) = False := by
        simp only [eq_iff_iff, iff_false]
        have h5 := Nat.div_add_mod n sz
        have h6 := Nat.mod_lt n hsz0
        have h7 := Ha.out
        rw [hkT2, HT.out, Nat.mul_comm] at h7
        omega
      obtain ⟨q0, q1, q2, q3, q4, q5⟩ := three_cells HB.out.r
      have HE2 := Lib.hid (show ∀ i, i < T → primeN (c1N bs sz qd i) b12 = false from hkT2 ▸ HE.out)
      clear hkT hkT2
      go_wp2_with fail
      have hg2 := three_fin (v1 := .slice none 0 0) (v2 := .slice none 0 0) (v3 := .slice none 0 0) HB.out.r
      refine bodyPost_ret (v := .tuple #[.agg #[.slice none 0 0, .slice none 0 0, .slice none 0 0], .int .i64 0, .int .i64 52]) (results_riff rfl rfl rfl hg2) rfl ?_
      exact ⟨.inl ⟨by rw [HLen.out, ← HT.out]; exact HE2.out, rfl⟩, (((HB.out.bel).setCell (p := ⟨w.heap.size, 0, none⟩) (by simp) _).setCell (p := ⟨w.heap.size, 1, none⟩) (by simp) _).setCell (p := ⟨w.heap.size, 2, none⟩) (by simp) _⟩
end Go.Proofs.YtkhlmcknbangfaaGreatDoor
namespace Go.Proofs.YtkhlmcknbangfaaGreatDoor
open Go.RowKit
set_option linter.unusedVariables false
set_option linter.unusedSimpArgs false
set_option maxRecDepth 100000
/-- a key of these limbs, how many bytes were used, an error -/
def Out (r : Ending) (W : World) (us er : Int) (x1 x2 x3 : List Nat) : Prop := ∃ A1 n1 c1 A2 n2 c2 A3 n3 c3, r = .returned (.tuple #[.agg #[.slice A1 n1 c1, .slice A2 n2 c2, .slice A3 n3 c3], .int .i64 us, .int .i64 er]) ∧
  Nt W W.heap.size A1 n1 c1 x1 ∧ Nt W W.heap.size A2 n2 c2 x2 ∧ Nt W W.heap.size A3 n3 c3 x3
theorem Out.none (W : World) (us er : Int) : Out (.returned (.tuple #[.agg #[.slice none 0 0, .slice none 0 0, .slice none 0 0], .int .i64 us, .int .i64 er])) W us er [] [] [] :=
  ⟨_, _, _, _, _, _, _, _, _, rfl, nt_nil _ _, nt_nil _ _, nt_nil _ _⟩
theorem DrawIs.spec_of {kb : Nat → Nat → Bool} {C : Nat → Nat} {T e sz : Nat} {w w' : World} {r : Ending} (h : DrawIs kb C T e sz w r w') :
    ∃ us er x1 x2 x3, ∀ {w w' : World} {r : Ending}, DrawIs kb C T e sz w r w' → Out r w' us er x1 x2 x3 := by
  rcases h.1 with ⟨k, hk, h1, h2, v1, v2, v3, us, er, rfl, hkd⟩ | ⟨h1, rfl⟩
  · obtain ⟨A1, n1, c1, x1, A2, n2, c2, x2, A3, n3, c3, x3, M, E, D, rfl, rfl, rfl, a1, a2, a3, a4, a5, a6, t1, t2, t3, kv, hus⟩ := hkd.ex
    refine ⟨us, er, x1, x2, x3, fun g => ?_⟩
    rcases g.1 with ⟨k', hk', g1, g2, u1, u2, u3, us', er', rfl, gkd⟩ | ⟨g1, rfl⟩
    · have e : k' = k := by
        rcases Nat.lt_trichotomy k' k with q | q | q
        · rw [h1 _ q] at g2; cases g2
        · exact q
        · rw [g1 _ q] at h2; cases h2
      subst e
      obtain ⟨B1, m1, d1, y1, B2, m2, d2, y2, B3, m3, d3, y3, M', E', D', rfl, rfl, rfl, b1, b2, b3, b4, b5, b6, s1, s2, s3, kv', hus'⟩ := gkd.ex
      obtain ⟨e1, e2, e3, e4⟩ := kv'.same kv
      subst e1 e2 e3 e4
      have f1 : y1 = x1 := trm_same s1 t1 b1.lim a1.lim (b2.trans a2.symm)
      have f2 : y2 = x2 := trm_same s2 t2 b3.lim a3.lim (b4.trans a4.symm)
      have f3 : y3 = x3 := trm_same s3 t3 b5.lim a5.lim (b6.trans a6.symm)
      subst f1 f2 f3
      rw [hus'.trans hus.symm]
      exact ⟨_, _, _, _, _, _, _, _, _, rfl, b1, b3, b5⟩
    · rw [g1 k hk] at h2; cases h2
  · refine ⟨0, 52, [], [], [], fun g => ?_⟩
    rcases g.1 with ⟨k', hk', g1, g2, _⟩ | ⟨g1, rfl⟩
    · rw [h1 _ hk'] at g2; cases g2
    · exact Out.none _ _ _
end Go.Proofs.YtkhlmcknbangfaaGreatDoor
namespace Go.Proofs.YtkhlmcknbangfaaGreatDoor
open Go.RowKit
set_option linter.unusedVariables false
set_option linter.unusedSimpArgs false
set_option maxRecDepth 100000
theorem params_same {w : World} {A1 A2 A3 B1 B2 B3 : Option Addr} {n1 c1 n2 c2 n3 c3 m1 d1 m2 d2 m3 d3 : Nat} {x1 x2 x3 : List Nat} (h1 : Nt w w.heap.size A1 n1 c1 x1) (h2 : Nt w w.heap.size A2 n2 c2 x2) (h3 : Nt w w.heap.size A3 n3 c3 x3)
    (k1 : Nt w w.heap.size B1 m1 d1 x1) (k2 : Nt w w.heap.size B2 m2 d2 x2) (k3 : Nt w w.heap.size B3 m3 d3 x3) :
    Calls Tryz.prog 17 #[.agg #[.slice A1 n1 c1, .slice A2 n2 c2, .slice A3 n3 c3], .agg #[.slice B1 m1 d1, .slice B2 m2 d2, .slice B3 m3 d3]] w (Yes w) := by
  obtain ⟨w0, e0⟩ : ∃ w0, w0 = w.alloc (.cells #[Value.slice A1 n1 c1, .slice A2 n2 c2, .slice A3 n3 c3] 37) := ⟨_, rfl⟩
  obtain ⟨w1, e1⟩ : ∃ w1, w1 = w0.alloc (.cells #[Value.slice B1 m1 d1, .slice B2 m2 d2, .slice B3 m3 d3] 37) := ⟨_, rfl⟩
  obtain ⟨hx0, b0⟩ := box_new e0
  obtain ⟨hy, b1⟩ := box_new e1
  have hx := hx0.up b1
  have B1' := bthen b0 b1
  have s0 : w0.heap.size = w.heap.size + 1 := by rw [e0]; simp
  have E1 := Lib.hid (show w1 = (w.alloc (.cells #[Value.slice A1 n1 c1, .slice A2 n2 c2, .slice A3 n3 c3] 37)).alloc (.cells #[Value.slice B1 m1 d1, .slice B2 m2 d2, .slice B3 m3 d3] 37) by rw [e1, e0])
  rw [s0] at hy
  have H1 := Lib.hid (fun (W : World) (b : Below w1.heap.size w1 W) => same_yes ((h1.up B1').up b) ((k1.up B1').up b) rfl)
  have H2 := Lib.hid (fun (W : World) (b : Below w1.heap.size w1 W) => same_yes ((h2.up B1').up b) ((k2.up B1').up b) rfl)
  have H3 := Lib.hid (fun (W : World) (b : Below w1.heap.size w1 W) => same_yes ((h3.up B1').up b) ((k3.up B1').up b) rfl)
  have y0 := hx.c0
  have y1 := hx.c1
  have y2 := hx.c2
  have z0 := hy.c0
  have z1 := hy.c1
  have z2 := hy.c2
  clear e0 e1 hx0 b0 b1 h1 h2 h3 k1 k2 k3 s0
  go_enter Tryz.func17, Tryz.ntmps17
  go_upto_region 1 with fail
  rw [← E1.out]
  go_wp2_with fail
  refine (H1.out _ (Below.refl _ _)).mono ?_
  rintro r w2 ⟨rfl, d2', rfl⟩
  go_wp2_with fail
  refine (H2.out _ (bdr (Below.refl _ _) d2')).mono ?_
  rintro r w3 ⟨rfl, d3', rfl⟩
  go_wp2_with fail
  refine (H3.out _ (bdr (Below.refl _ _) (d2' + d3'))).mono ?_
  rintro r w4 ⟨rfl, d4', rfl⟩
  go_wp2_with fail
  go_ret
  exact ⟨rfl, bdr B1' (d2' + d3' + d4')⟩
theorem at_one {p : Nat → Bool} {k k' : Nat} (h1 : ∀ i, i < k → p i = false) (h2 : p k = true) (h3 : ∀ i, i < k' → p i = false) (h4 : p k' = true) : k' = k := by
  rcases Nat.lt_trichotomy k' k with q | q | q
  · rw [h1 _ q] at h4; cases h4
  · exact q
  · rw [h3 _ q] at h2; cases h2
theorem at_two {p : Nat → Bool} {k k' : Nat} (g : 2 ≤ k) (g' : 2 ≤ k') (h1 : ∀ i, 2 ≤ i → i < k → p i = false) (h2 : p k = true) (h3 : ∀ i, 2 ≤ i → i < k' → p i = false) (h4 : p k' = true) : k' = k := by
  rcases Nat.lt_trichotomy k' k with q | q | q
  · rw [h1 _ g' q] at h4; cases h4
  · exact q
  · rw [h3 _ g q] at h2; cases h2
theorem Out.rNone (er : Int) (W : World) : Out (rNone er) W 0 er [] [] [] := Out.none _ _ _
theorem MadeG.spec_of {P Q ev u : Nat} {r : Ending} {w' : World} (h : MadeG P Q ev u r w') : ∃ us er x1 x2 x3, ∀ {r : Ending} {w' : World}, MadeG P Q ev u r w' → Out r w' us er x1 x2 x3 := by
  rcases h with ⟨h1, _⟩ | ⟨k, k2, k9, kl, kp, A1, n1, c1, x1, A2, n2, c2, x2, A3, n3, c3, x3, rfl, m1, t1, v1, m2, t2, v2, m3, t3, v3⟩
  · refine ⟨0, 60, [], [], [], fun g => ?_⟩
    rcases g with ⟨_, rfl⟩ | ⟨k, k2, k9, kl, kp, _⟩
    · exact Out.rNone _ _
    · rw [h1 k k2 k9] at kp; cases kp
  · refine ⟨u, 0, x1, x2, x3, fun g => ?_⟩
    rcases g with ⟨g1, _⟩ | ⟨h, h2, h9, hl, hp, B1, d1, e1, y1, B2, d2, e2, y2, B3, d3, e3, y3, rfl, o1, s1, u1, o2, s2, u2, o3, s3, u3⟩
    · rw [g1 k k2 k9] at kp; cases kp
    · have e := at_two (p := fun i => genN P Q (i ^ ev % P)) k2 h2 kl kp hl hp
      subst e
      have f1 : y1 = x1 := trm_same s1 t1 o1.lim m1.lim (u1.trans v1.symm)
      have f2 : y2 = x2 := trm_same s2 t2 o2.lim m2.lim (u2.trans v2.symm)
      have f3 : y3 = x3 := trm_same s3 t3 o3.lim m3.lim (u3.trans v3.symm)
      subst f1 f2 f3
      exact ⟨_, _, _, _, _, _, _, _, _, rfl, o1, o2, o3⟩
theorem MadeP.spec_of {bs : List Nat} {sz pd Q u : Nat} {r : Ending} {w' : World} (h : MadeP bs sz pd Q u r w') : ∃ us er x1 x2 x3, ∀ {r : Ending} {w' : World}, MadeP bs sz pd Q u r w' → Out r w' us er x1 x2 x3 := by
  rcases h with ⟨h1, _⟩ | ⟨j, c, hj, hl, rfl, hp, hg⟩
  · refine ⟨0, 52, [], [], [], fun g => ?_⟩
    rcases g with ⟨_, rfl⟩ | ⟨j, c, hj, hl, rfl, hp, hg⟩
    · exact Out.rNone _ _
    · rw [h1 j hj] at hp; cases hp
  · obtain ⟨us, er, x1, x2, x3, hs⟩ := hg.spec_of
    refine ⟨us, er, x1, x2, x3, fun g => ?_⟩
    rcases g with ⟨g1, _⟩ | ⟨j', c, hj', hl', rfl, hp', hg'⟩
    · rw [g1 j hj] at hp; cases hp
    · have e := at_one (p := fun i => primeN (pOf Q (c1N bs sz pd i)) b12) hl hp hl' hp'
      subst e
      exact hs hg'
theorem MadeQ.spec_of {bs : List Nat} {sz qd sp pd : Nat} {w w' : World} {r : Ending} (h : MadeQ bs sz qd sp pd w r w') : ∃ us er x1 x2 x3, ∀ {w w' : World} {r : Ending}, MadeQ bs sz qd sp pd w r w' → Out r w' us er x1 x2 x3 := by
  rcases h.1 with ⟨h1, _⟩ | ⟨k, Q, hk, hl, rfl, hp, hg⟩
  · refine ⟨0, 52, [], [], [], fun g => ?_⟩
    rcases g.1 with ⟨_, rfl⟩ | ⟨k, Q, hk, hl, rfl, hp, hg⟩
    · exact Out.rNone _ _
    · rw [h1 k hk] at hp; cases hp
  · obtain ⟨us, er, x1, x2, x3, hs⟩ := hg.spec_of
    refine ⟨us, er, x1, x2, x3, fun g => ?_⟩
    rcases g.1 with ⟨g1, _⟩ | ⟨k', Q, hk', hl', rfl, hp', hg'⟩
    · rw [g1 k hk] at hp; cases hp
    · have e := at_one (p := fun i => primeN (c1N bs sz qd i) b12) hl hp hl' hp'
      subst e
      exact hs hg'
theorem MadeQ.spec (bs : List Nat) (sz qd sp pd : Nat) : ∃ us er x1 x2 x3, ∀ {w w' : World} {r : Ending}, MadeQ bs sz qd sp pd w r w' → Out r w' us er x1 x2 x3 := by
  by_cases h : ∃ w r w', MadeQ bs sz qd sp pd w r w'
  · obtain ⟨w, r, w', h⟩ := h
    exact h.spec_of
  · exact ⟨0, 0, [], [], [], fun g => absurd ⟨_, _, _, g⟩ h⟩
def ObI (us er : Int) (x1 x2 x3 : List Nat) (w : World) (r : Ending) (w' : World) : Prop := Out r w' us er x1 x2 x3 ∧ Below w.heap.size w w'
theorem iff_both {w : World} {A : Option Addr} {n c : Nat} {bs : List Nat} (h : Nb w w.heap.size A n c bs) (hn : n ≤ 200) (qb pb : Int) (hq : -9223372036854775808 ≤ qb ∧ qb ≤ 9223372036854775807) :
    ∃ us er x1 x2 x3, Calls Tryz.prog 15 #[.slice A n c, .int .i64 qb, .int .i64 pb] w (ObI us er x1 x2 x3 w) ∧
      ∀ W, Below w.heap.size w W → Calls Tryz.prog 16 #[.slice A n c, .int .i64 qb, .int .i64 pb] W (ObI us er x1 x2 x3 W) := by
  by_cases g : qb < 8 ∨ 256 < qb ∨ pb < qb + 8 ∨ 512 < pb
  · exact ⟨0, 1, [], [], [], (imake_bad qb pb hq g).mono fun r w' hb => ⟨hb.1 ▸ Out.rNone _ _, hb.2⟩, fun W _ => (rimake_bad qb pb hq g).mono fun r w' hb => ⟨hb.1 ▸ Out.rNone _ _, hb.2⟩⟩
  · obtain ⟨qd, rfl⟩ : ∃ qd : Nat, qb = (qd : Int) := ⟨qb.toNat, by omega⟩
    obtain ⟨pd, rfl⟩ : ∃ pd : Nat, pb = ((qd + pd : Nat) : Int) := ⟨(pb - qd).toNat, by omega⟩
    obtain ⟨sz, hsz⟩ : ∃ sz, sz = (qd + 7) / 8 := ⟨_, rfl⟩
    obtain ⟨sp, hsp⟩ : ∃ sp, sp = (pd + 7) / 8 := ⟨_, rfl⟩
    obtain ⟨us, er, x1, x2, x3, hs⟩ := MadeQ.spec bs sz qd sp pd
    exact ⟨us, er, x1, x2, x3, (imake_any (sz := sz) (sp := sp) (q := 8 * sz - qd) (qp := 8 * sp - pd) h (by omega) (by omega) (by omega) (by omega) (by omega) (by omega) (by omega) (by omega) (by omega)).mono fun _ _ g => ⟨hs g, g.2⟩,
      fun W b => (rimake_any (sz := sz) (sp := sp) (q := 8 * sz - qd) (qp := 8 * sp - pd) (h.up b) (by omega) (by omega) (by omega) (by omega) (by omega) (by omega) (by omega) (by omega) (by omega)).mono fun _ _ g => ⟨hs g, g.2⟩⟩
end Go.Proofs.YtkhlmcknbangfaaGreatDoor
namespace Go.Proofs.YtkhlmcknbangfaaGreatDoor.iffMakesP
open Go.ChangeShapes Go.WideShapes Go.ChangeAt Go.RowKit
set_option linter.unusedVariables false
set_option maxRecDepth 100000

set_option maxHeartbeats 8000000 in
theorem law_any {w : World} (hk : Sh.Ks w) {A0 : Option Addr} {n0 c0 : Nat} {x0 : List Nat} (h0 : Nb w w.heap.size A0 n0 c0 x0) (qb : Int) (hqb : (Lit.int .i64 qb).wf = true) (pb : Int) (hpb : (Lit.int .i64 pb).wf = true) {A1 A2 A3 : Option Addr} {n1 c1 n2 c2 n3 c3 : Nat} {x1 x2 x3 : List Nat}
    (h1 : Nt w w.heap.size A1 n1 c1 x1) (h2 : Nt w w.heap.size A2 n2 c2 x2) (h3 : Nt w w.heap.size A3 n3 c3 x3) :
    Calls Tryz.prog 5 #[.slice A0 n0 c0, .int .i64 qb, .int .i64 pb, .agg #[.slice A1 n1 c1, .slice A2 n2 c2, .slice A3 n3 c3]] w (Yes w) := by
  have hq : -9223372036854775808 ≤ qb ∧ qb ≤ 9223372036854775807 := by
    simp [Lit.wf, IntKind.min, IntKind.max, IntKind.signed, IntKind.bits] at hqb
    exact hqb
  have HA := Lib.hid (fun (W : World) (h : Sh.Ks W) => alive_any h)
  have hr1 := h1.rooms
  have hr2 := h2.rooms
  have hr3 := h3.rooms
  have HHv := Lib.hid (fun W => heavyP_any A1 A2 A3 n1 c1 n2 c2 n3 c3 hr1.1 hr2.1 hr3.1 W)
  clear hqb hpb hr1 hr2 hr3
  obtain ⟨w0, e0⟩ : ∃ w0, w0 = w.alloc (.cells #[Value.slice A1 n1 c1, .slice A2 n2 c2, .slice A3 n3 c3] 37) := ⟨_, rfl⟩
  obtain ⟨hp0, b0⟩ := box_new e0
  have HK0 := Lib.hid (hk.bel b0)
  have HB0 := Lib.hid b0
  have HP0 := Lib.hid hp0
  have H0 := Lib.hid (h0.up b0)
  have H1 := Lib.hid (h1.up b0)
  have H2 := Lib.hid (h2.up b0)
  have H3 := Lib.hid (h3.up b0)
  have pc0 := hp0.c0
  have pc1 := hp0.c1
  have pc2 := hp0.c2
  clear hk h0 h1 h2 h3 b0 hp0
  by_cases g0 : 200 < n0
  · have k0 : 200 < (n0 : Int) := by omega
    clear g0 hq
    go_enter Tryz.func5, Tryz.ntmps5
    go_wp2_with fail
    rw [← e0]
    clear e0
    refine (HA.out _ HK0.out).mono ?_
    rintro r wz ⟨rfl, bz⟩
    go_wp2_with fail
    go_ret
    exact ⟨rfl, bthen HB0.out bz⟩
  have k0 : (200 < (n0 : Int)) = False := by simp only [eq_iff_iff, iff_false]; omega
  by_cases g1 : 80 < pb ∧ pb ≤ 512
  · obtain ⟨k1, k2⟩ := g1
    clear g0 hq
    go_enter Tryz.func5, Tryz.ntmps5
    go_wp2_with fail
    rw [← e0]
    clear e0
    refine (HA.out _ HK0.out).mono ?_
    rintro r wz ⟨rfl, bz⟩
    go_wp2_with fail
    go_ret
    exact ⟨rfl, bthen HB0.out bz⟩
  by_cases g2 : 80 < pb
  · have g3 : (pb ≤ 512) = False := by simp only [eq_iff_iff, iff_false]; exact fun h => g1 ⟨g2, h⟩
    clear g1
    go_enter Tryz.func5, Tryz.ntmps5
    go_wp2_with fail
    rw [← e0]
    clear e0
    refine (HHv.out _).mono ?_
    rintro r w1 ⟨rfl, b1⟩
    have HB1 := Lib.hid (bthen HB0.out b1)
    have HK1 := Lib.hid (HK0.out.bel b1)
    by_cases hv : 3 < n1 ∨ 3 < n2 ∨ 3 < n3
    · rw [decide_eq_true hv]
      clear b1 hv hq
      go_wp2_with fail
      refine (HA.out _ HK1.out).mono ?_
      rintro r wz ⟨rfl, bz⟩
      go_wp2_with fail
      go_ret
      exact ⟨rfl, bthen HB1.out bz⟩
    · rw [decide_eq_false hv]
      obtain ⟨us, er, y1, y2, y3, ho, hr⟩ := iff_both (H0.out.up b1) (by omega) qb pb hq
      have HO := Lib.hid ho
      have HR := Lib.hid hr
      have HP1 := Lib.hid (HP0.out.up b1)
      have M1 := Lib.hid (H1.out.up b1)
      have M2 := Lib.hid (H2.out.up b1)
      have M3 := Lib.hid (H3.out.up b1)
      have l1 : n1 ≤ 100 := by omega
      have l2 : n2 ≤ 100 := by omega
      have l3 : n3 ≤ 100 := by omega
      clear ho hr b1 hv hq pc0 pc1 pc2
      go_wp2_with fail
      refine HO.out.mono ?_
      rintro r w2 ⟨⟨B1, m1, d1, B2, m2, d2, B3, m3, d3, rfl, t1, t2, t3⟩, b2⟩
      obtain ⟨w3, e3⟩ : ∃ w3, w3 = w2.alloc (.cells #[Value.slice B1 m1 d1, .slice B2 m2 d2, .slice B3 m3 d3] 37) := ⟨_, rfl⟩
      obtain ⟨hx3, b3⟩ := box_new e3
      have B3' := bthen b2 b3
      have T1 := Lib.hid (t1.up b3)
      have T2 := Lib.hid (t2.up b3)
      have T3 := Lib.hid (t3.up b3)
      have HX3 := Lib.hid hx3
      have HB3 := Lib.hid B3'
      clear t1 t2 t3 hx3 B3' b2 b3
      go_wp2_with fail
      rw [← e3]
      clear e3
      refine (HR.out _ HB3.out).mono ?_
      rintro r w4 ⟨⟨C1, r1, f1, C2, r2, f2, C3, r3, f3, rfl, u1, u2, u3⟩, b4⟩
      obtain ⟨w5, e5⟩ : ∃ w5, w5 = w4.alloc (.cells #[Value.slice C1 r1 f1, .slice C2 r2 f2, .slice C3 r3 f3] 37) := ⟨_, rfl⟩
      obtain ⟨hy5, b5⟩ := box_new e5
      have b45 := bthen b4 b5
      have bd : Below w5.heap.size w5 w5.drew := (Below.refl _ _).drew
      have b4d := bthen b45 bd
      have b1d := bthen HB3.out b4d
      have hyd := hy5.up bd
      have hxd := HX3.out.up b4d
      have hpd := HP1.out.up b1d
      have HBd := Lib.hid (bthen HB1.out b1d)
      have HKd := Lib.hid (HK1.out.bel b1d)
      have U1 := Lib.hid ((u1.up b5).up bd)
      have U2 := Lib.hid ((u2.up b5).up bd)
      have U3 := Lib.hid ((u3.up b5).up bd)
      have V1 := Lib.hid (T1.out.up b4d)
      have V2 := Lib.hid (T2.out.up b4d)
      have V3 := Lib.hid (T3.out.up b4d)
      have hpr : Pr w5.drew (.agg #[.slice A1 n1 c1, .slice A2 n2 c2, .slice A3 n3 c3]) (val 18446744073709551616 x1) (val 18446744073709551616 x2) (val 18446744073709551616 x3) := ⟨_, _, _, _, _, _, _, _, _, _, _, _, rfl, M1.out.up b1d, rfl, l1, M2.out.up b1d, rfl, l2, M3.out.up b1d, rfl, l3⟩
      obtain ⟨rr, ho, hr⟩ : ∃ rr : Int, (∀ W, Below w5.drew.heap.size w5.drew W → Calls Tryz.prog 18 #[.agg #[.slice A1 n1 c1, .slice A2 n2 c2, .slice A3 n3 c3]] W fun e w' => e = .returned (.int .i64 rr) ∧ Below W.heap.size W w') ∧ (∀ W, Below w5.drew.heap.size w5.drew W → Calls Tryz.prog 19 #[.agg #[.slice A1 n1 c1, .slice A2 n2 c2, .slice A3 n3 c3]] W fun e w' => e = .returned (.int .i64 rr) ∧ Below W.heap.size W w') := by
        cases hR : rightN (val 18446744073709551616 x1) (val 18446744073709551616 x2) (val 18446744073709551616 x3) with
        | false => exact ⟨60, fun W b => by have := right_any (hpr.up b); rw [hR] at this; exact this, fun W b => rright_bad (hpr.up b) hR⟩
        | true => exact ⟨0, fun W b => by have := right_any (hpr.up b); rw [hR] at this; exact this, fun W b => rright_ok (hpr.up b) hR⟩
      have HRo := Lib.hid ho
      have HRr := Lib.hid hr
      have z0 := hyd.c0
      have z1 := hyd.c1
      have z2 := hyd.c2
      have z3 := hxd.c0
      have z4 := hxd.c1
      have z5 := hxd.c2
      have z6 := hpd.c0
      have z7 := hpd.c1
      have z8 := hpd.c2
      have he3 : ∀ z : Int, (z == z) = true := fun z => by simp
      clear ho hr u1 u2 u3 b4 b5 b45 bd b4d b1d hy5 hpr
      go_wp2_with fail
      rw [← e5]
      clear e5
      go_region_held3 (fun w' => w'.cell? ⟨w4.heap.size, 0, none⟩ = some (Value.slice C1 r1 f1) ∧ w'.cell? ⟨w4.heap.size, 1, none⟩ = some (Value.slice C2 r2 f2) ∧ w'.cell? ⟨w4.heap.size, 2, none⟩ = some (Value.slice C3 r3 f3) ∧
          w'.cell? ⟨w2.heap.size, 0, none⟩ = some (Value.slice B1 m1 d1) ∧ w'.cell? ⟨w2.heap.size, 1, none⟩ = some (Value.slice B2 m2 d2) ∧ w'.cell? ⟨w2.heap.size, 2, none⟩ = some (Value.slice B3 m3 d3) ∧
          w'.cell? ⟨w.heap.size, 0, none⟩ = some (Value.slice A1 n1 c1) ∧ w'.cell? ⟨w.heap.size, 1, none⟩ = some (Value.slice A2 n2 c2) ∧ w'.cell? ⟨w.heap.size, 2, none⟩ = some (Value.slice A3 n3 c3))
        (first | exact S9 | exact S8 | exact S7 | exact S6 | exact ⟨z0, z1, z2, z3, z4, z5, z6, z7, z8⟩)
        ((first
          | (go_at_call 14; refine (HA.out _ HKd.out).mono ?_; rintro r w6 ⟨rfl, b6⟩
             have yy6 := hyd.up b6
             have xx6 := hxd.up b6
             have pp6 := hpd.up b6
             obtain ⟨s0, s1, s2, s3, s4, s5, s6, s7, s8⟩ : w6.cell? ⟨w4.heap.size, 0, none⟩ = some (Value.slice C1 r1 f1) ∧ w6.cell? ⟨w4.heap.size, 1, none⟩ = some (Value.slice C2 r2 f2) ∧ w6.cell? ⟨w4.heap.size, 2, none⟩ = some (Value.slice C3 r3 f3) ∧ w6.cell? ⟨w2.heap.size, 0, none⟩ = some (Value.slice B1 m1 d1) ∧ w6.cell? ⟨w2.heap.size, 1, none⟩ = some (Value.slice B2 m2 d2) ∧ w6.cell? ⟨w2.heap.size, 2, none⟩ = some (Value.slice B3 m3 d3) ∧ w6.cell? ⟨w.heap.size, 0, none⟩ = some (Value.slice A1 n1 c1) ∧ w6.cell? ⟨w.heap.size, 1, none⟩ = some (Value.slice A2 n2 c2) ∧ w6.cell? ⟨w.heap.size, 2, none⟩ = some (Value.slice A3 n3 c3) := ⟨yy6.c0, yy6.c1, yy6.c2, xx6.c0, xx6.c1, xx6.c2, pp6.c0, pp6.c1, pp6.c2⟩
             have S6 := And.intro s0 (And.intro s1 (And.intro s2 (And.intro s3 (And.intro s4 (And.intro s5 (And.intro s6 (And.intro s7 s8)))))))
             have B6 := Lib.hid b6
             clear b6)
          | (go_at_call 17; refine (params_same (V1.out.up B6.out) (V2.out.up B6.out) (V3.out.up B6.out) (U1.out.up B6.out) (U2.out.up B6.out) (U3.out.up B6.out)).mono ?_; rintro r w7 ⟨rfl, b7⟩
             have yy7 := yy6.up b7
             have xx7 := xx6.up b7
             have pp7 := pp6.up b7
             have B7 := Lib.hid (bthen B6.out b7)
             have S7 := And.intro yy7.c0 (And.intro yy7.c1 (And.intro yy7.c2 (And.intro xx7.c0 (And.intro xx7.c1 (And.intro xx7.c2 (And.intro pp7.c0 (And.intro pp7.c1 pp7.c2)))))))
             obtain ⟨s10, s11, s12, s13, s14, s15, s16, s17, s18⟩ := id S7
             clear b7)
          | (go_at_call 18; refine (HRo.out _ B7.out).mono ?_; rintro r w8 ⟨rfl, b8⟩
             have yy8 := yy7.up b8
             have xx8 := xx7.up b8
             have pp8 := pp7.up b8
             have B8 := Lib.hid (bthen B7.out b8)
             have S8 := And.intro yy8.c0 (And.intro yy8.c1 (And.intro yy8.c2 (And.intro xx8.c0 (And.intro xx8.c1 (And.intro xx8.c2 (And.intro pp8.c0 (And.intro pp8.c1 pp8.c2)))))))
             obtain ⟨s20, s21, s22, s23, s24, s25, s26, s27, s28⟩ := id S8
             clear b8)
          | (go_at_call 19; refine (HRr.out _ B8.out).mono ?_; rintro r w9 ⟨rfl, b9⟩
             have yy9 := yy8.up b9
             have xx9 := xx8.up b9
             have pp9 := pp8.up b9
             have B9 := Lib.hid (bthen B8.out b9)
             have S9 := And.intro yy9.c0 (And.intro yy9.c1 (And.intro yy9.c2 (And.intro xx9.c0 (And.intro xx9.c1 (And.intro xx9.c2 (And.intro pp9.c0 (And.intro pp9.c1 pp9.c2)))))))
             obtain ⟨s30, s31, s32, s33, s34, s35, s36, s37, s38⟩ := id S9
             clear b9)))
      all_goals
        go_wp2_with fail
        go_ret
        exact ⟨rfl, bthen HBd.out B9.out⟩
  · have g3 : (80 < pb) = False := by simpa using g2
    clear g1 g2
    go_enter Tryz.func5, Tryz.ntmps5
    go_wp2_with fail
    rw [← e0]
    clear e0
    refine (HHv.out _).mono ?_
    rintro r w1 ⟨rfl, b1⟩
    have HB1 := Lib.hid (bthen HB0.out b1)
    have HK1 := Lib.hid (HK0.out.bel b1)
    by_cases hv : 3 < n1 ∨ 3 < n2 ∨ 3 < n3
    · rw [decide_eq_true hv]
      clear b1 hv hq
      go_wp2_with fail
      refine (HA.out _ HK1.out).mono ?_
      rintro r wz ⟨rfl, bz⟩
      go_wp2_with fail
      go_ret
      exact ⟨rfl, bthen HB1.out bz⟩
    · rw [decide_eq_false hv]
      obtain ⟨us, er, y1, y2, y3, ho, hr⟩ := iff_both (H0.out.up b1) (by omega) qb pb hq
      have HO := Lib.hid ho
      have HR := Lib.hid hr
      have HP1 := Lib.hid (HP0.out.up b1)
      have M1 := Lib.hid (H1.out.up b1)
      have M2 := Lib.hid (H2.out.up b1)
      have M3 := Lib.hid (H3.out.up b1)
      have l1 : n1 ≤ 100 := by omega
      have l2 : n2 ≤ 100 := by omega
      have l3 : n3 ≤ 100 := by omega
      clear ho hr b1 hv hq pc0 pc1 pc2
      go_wp2_with fail
      refine HO.out.mono ?_
      rintro r w2 ⟨⟨B1, m1, d1, B2, m2, d2, B3, m3, d3, rfl, t1, t2, t3⟩, b2⟩
      obtain ⟨w3, e3⟩ : ∃ w3, w3 = w2.alloc (.cells #[Value.slice B1 m1 d1, .slice B2 m2 d2, .slice B3 m3 d3] 37) := ⟨_, rfl⟩
      obtain ⟨hx3, b3⟩ := box_new e3
      have B3' := bthen b2 b3
      have T1 := Lib.hid (t1.up b3)
      have T2 := Lib.hid (t2.up b3)
      have T3 := Lib.hid (t3.up b3)
      have HX3 := Lib.hid hx3
      have HB3 := Lib.hid B3'
      clear t1 t2 t3 hx3 B3' b2 b3
      go_wp2_with fail
      rw [← e3]
      clear e3
      refine (HR.out _ HB3.out).mono ?_
      rintro r w4 ⟨⟨C1, r1, f1, C2, r2, f2, C3, r3, f3, rfl, u1, u2, u3⟩, b4⟩
      obtain ⟨w5, e5⟩ : ∃ w5, w5 = w4.alloc (.cells #[Value.slice C1 r1 f1, .slice C2 r2 f2, .slice C3 r3 f3] 37) := ⟨_, rfl⟩
      obtain ⟨hy5, b5⟩ := box_new e5
      have b45 := bthen b4 b5
      have bd : Below w5.heap.size w5 w5.drew := (Below.refl _ _).drew
      have b4d := bthen b45 bd
      have b1d := bthen HB3.out b4d
      have hyd := hy5.up bd
      have hxd := HX3.out.up b4d
      have hpd := HP1.out.up b1d
      have HBd := Lib.hid (bthen HB1.out b1d)
      have HKd := Lib.hid (HK1.out.bel b1d)
      have U1 := Lib.hid ((u1.up b5).up bd)
      have U2 := Lib.hid ((u2.up b5).up bd)
      have U3 := Lib.hid ((u3.up b5).up bd)
      have V1 := Lib.hid (T1.out.up b4d)
      have V2 := Lib.hid (T2.out.up b4d)
      have V3 := Lib.hid (T3.out.up b4d)
      have hpr : Pr w5.drew (.agg #[.slice A1 n1 c1, .slice A2 n2 c2, .slice A3 n3 c3]) (val 18446744073709551616 x1) (val 18446744073709551616 x2) (val 18446744073709551616 x3) := ⟨_, _, _, _, _, _, _, _, _, _, _, _, rfl, M1.out.up b1d, rfl, l1, M2.out.up b1d, rfl, l2, M3.out.up b1d, rfl, l3⟩
      obtain ⟨rr, ho, hr⟩ : ∃ rr : Int, (∀ W, Below w5.drew.heap.size w5.drew W → Calls Tryz.prog 18 #[.agg #[.slice A1 n1 c1, .slice A2 n2 c2, .slice A3 n3 c3]] W fun e w' => e = .returned (.int .i64 rr) ∧ Below W.heap.size W w') ∧ (∀ W, Below w5.drew.heap.size w5.drew W → Calls Tryz.prog 19 #[.agg #[.slice A1 n1 c1, .slice A2 n2 c2, .slice A3 n3 c3]] W fun e w' => e = .returned (.int .i64 rr) ∧ Below W.heap.size W w') := by
        cases hR : rightN (val 18446744073709551616 x1) (val 18446744073709551616 x2) (val 18446744073709551616 x3) with
        | false => exact ⟨60, fun W b => by have := right_any (hpr.up b); rw [hR] at this; exact this, fun W b => rright_bad (hpr.up b) hR⟩
        | true => exact ⟨0, fun W b => by have := right_any (hpr.up b); rw [hR] at this; exact this, fun W b => rright_ok (hpr.up b) hR⟩
      have HRo := Lib.hid ho
      have HRr := Lib.hid hr
      have z0 := hyd.c0
      have z1 := hyd.c1
      have z2 := hyd.c2
      have z3 := hxd.c0
      have z4 := hxd.c1
      have z5 := hxd.c2
      have z6 := hpd.c0
      have z7 := hpd.c1
      have z8 := hpd.c2
      have he3 : ∀ z : Int, (z == z) = true := fun z => by simp
      clear ho hr u1 u2 u3 b4 b5 b45 bd b4d b1d hy5 hpr
      go_wp2_with fail
      rw [← e5]
      clear e5
      go_region_held3 (fun w' => w'.cell? ⟨w4.heap.size, 0, none⟩ = some (Value.slice C1 r1 f1) ∧ w'.cell? ⟨w4.heap.size, 1, none⟩ = some (Value.slice C2 r2 f2) ∧ w'.cell? ⟨w4.heap.size, 2, none⟩ = some (Value.slice C3 r3 f3) ∧
          w'.cell? ⟨w2.heap.size, 0, none⟩ = some (Value.slice B1 m1 d1) ∧ w'.cell? ⟨w2.heap.size, 1, none⟩ = some (Value.slice B2 m2 d2) ∧ w'.cell? ⟨w2.heap.size, 2, none⟩ = some (Value.slice B3 m3 d3) ∧
          w'.cell? ⟨w.heap.size, 0, none⟩ = some (Value.slice A1 n1 c1) ∧ w'.cell? ⟨w.heap.size, 1, none⟩ = some (Value.slice A2 n2 c2) ∧ w'.cell? ⟨w.heap.size, 2, none⟩ = some (Value.slice A3 n3 c3))
        (first | exact S9 | exact S8 | exact S7 | exact S6 | exact ⟨z0, z1, z2, z3, z4, z5, z6, z7, z8⟩)
        ((first
          | (go_at_call 14; refine (HA.out _ HKd.out).mono ?_; rintro r w6 ⟨rfl, b6⟩
             have yy6 := hyd.up b6
             have xx6 := hxd.up b6
             have pp6 := hpd.up b6
             obtain ⟨s0, s1, s2, s3, s4, s5, s6, s7, s8⟩ : w6.cell? ⟨w4.heap.size, 0, none⟩ = some (Value.slice C1 r1 f1) ∧ w6.cell? ⟨w4.heap.size, 1, none⟩ = some (Value.slice C2 r2 f2) ∧ w6.cell? ⟨w4.heap.size, 2, none⟩ = some (Value.slice C3 r3 f3) ∧ w6.cell? ⟨w2.heap.size, 0, none⟩ = some (Value.slice B1 m1 d1) ∧ w6.cell? ⟨w2.heap.size, 1, none⟩ = some (Value.slice B2 m2 d2) ∧ w6.cell? ⟨w2.heap.size, 2, none⟩ = some (Value.slice B3 m3 d3) ∧ w6.cell? ⟨w.heap.size, 0, none⟩ = some (Value.slice A1 n1 c1) ∧ w6.cell? ⟨w.heap.size, 1, none⟩ = some (Value.slice A2 n2 c2) ∧ w6.cell? ⟨w.heap.size, 2, none⟩ = some (Value.slice A3 n3 c3) := ⟨yy6.c0, yy6.c1, yy6.c2, xx6.c0, xx6.c1, xx6.c2, pp6.c0, pp6.c1, pp6.c2⟩
             have S6 := And.intro s0 (And.intro s1 (And.intro s2 (And.intro s3 (And.intro s4 (And.intro s5 (And.intro s6 (And.intro s7 s8)))))))
             have B6 := Lib.hid b6
             clear b6)
          | (go_at_call 17; refine (params_same (V1.out.up B6.out) (V2.out.up B6.out) (V3.out.up B6.out) (U1.out.up B6.out) (U2.out.up B6.out) (U3.out.up B6.out)).mono ?_; rintro r w7 ⟨rfl, b7⟩
             have yy7 := yy6.up b7
             have xx7 := xx6.up b7
             have pp7 := pp6.up b7
             have B7 := Lib.hid (bthen B6.out b7)
             have S7 := And.intro yy7.c0 (And.intro yy7.c1 (And.intro yy7.c2 (And.intro xx7.c0 (And.intro xx7.c1 (And.intro xx7.c2 (And.intro pp7.c0 (And.intro pp7.c1 pp7.c2)))))))
             obtain ⟨s10, s11, s12, s13, s14, s15, s16, s17, s18⟩ := id S7
             clear b7)
          | (go_at_call 18; refine (HRo.out _ B7.out).mono ?_; rintro r w8 ⟨rfl, b8⟩
             have yy8 := yy7.up b8
             have xx8 := xx7.up b8
             have pp8 := pp7.up b8
             have B8 := Lib.hid (bthen B7.out b8)
             have S8 := And.intro yy8.c0 (And.intro yy8.c1 (And.intro yy8.c2 (And.intro xx8.c0 (And.intro xx8.c1 (And.intro xx8.c2 (And.intro pp8.c0 (And.intro pp8.c1 pp8.c2)))))))
             obtain ⟨s20, s21, s22, s23, s24, s25, s26, s27, s28⟩ := id S8
             clear b8)
          | (go_at_call 19; refine (HRr.out _ B8.out).mono ?_; rintro r w9 ⟨rfl, b9⟩
             have yy9 := yy8.up b9
             have xx9 := xx8.up b9
             have pp9 := pp8.up b9
             have B9 := Lib.hid (bthen B8.out b9)
             have S9 := And.intro yy9.c0 (And.intro yy9.c1 (And.intro yy9.c2 (And.intro xx9.c0 (And.intro xx9.c1 (And.intro xx9.c2 (And.intro pp9.c0 (And.intro pp9.c1 pp9.c2)))))))
             obtain ⟨s30, s31, s32, s33, s34, s35, s36, s37, s38⟩ := id S9
             clear b9)))
      all_goals
        go_wp2_with fail
        go_ret
        exact ⟨rfl, bthen HBd.out B9.out⟩

set_option maxRecDepth 100000 in
theorem door_met (os : Os) (args : Array Value) : laidMetH Tryz.prog [("clepsydra/sha.constants", Rows.laid_clepsydra_sha_constants)] ((World.doorLaid Tryz.prog 4000 os).forCall (fun _ _ => 0) ⟨#[], args, []⟩).memory :=
  laidMetH_of_parts3 (fuel := 8) (laidMet_of_run' 8 (by kernel_rfl) (by kernel_rfl)) (by kernel_rfl) (by kernel_rfl)
set_option maxRecDepth 100000 in
theorem lifted (os : Os) (started : os.Started) (H : Type) (enc : TypeId × Value → H) :
    ReturnsInHanded {} Tryz.checked os 5 .any (fun w args => (Rows.iffMakesSpec.pre enc Tryz.prog Tryz.f5 [] false w args ∧ laidMetH Tryz.prog [("clepsydra/sha.constants", Rows.laid_clepsydra_sha_constants)] w) ∧ sizedMet enc Tryz.prog Tryz.f5 (OpenSpec.ofChange Rows.iffMakesSpec) false w args)
      (Rows.iffMakesSpec.post enc Tryz.prog Tryz.f5 false true false false) := by
  refine returnsInHanded_of_change_and (C := Tryz.checked) (X := fun w _ => laidMetH Tryz.prog [("clepsydra/sha.constants", Rows.laid_clepsydra_sha_constants)] w) (fun _ _ _ hh h => h.of_heap hh) own started (by kernel_rfl) Tryz.func5
    (ChangeSpec.witness_shaped (enc := enc) (C := Tryz.checked) (os := os) (X := fun w _ => laidMetH Tryz.prog [("clepsydra/sha.constants", Rows.laid_clepsydra_sha_constants)] w) false (World.doorLaid Tryz.prog 4000 os) #[.slice none 0 0, .int .i64 0, .int .i64 0, .agg #[.slice none 0 0, .slice none 0 0, .slice none 0 0]] 8 rfl (World.shaped_of_RefB (by kernel_rfl) (by kernel_rfl)) (by kernel_rfl) (by kernel_rfl) (by kernel_rfl) (door_met os _)) ?_
  intro W base args ds gs before hval0 hW _ hsz0 hL _
  have hsz : (DataW.weightsEach Tryz.prog (Tryz.f5.params.toList ++ Rows.iffMakesSpec.plain.varTypes Tryz.prog) (ds ++ gs)).all (· ≤ reachBytes) = true := hsz0
  have hval : ∀ (j : Nat) t v, Tryz.f5.params[j]? = some t → args[j]? = some v → Value.okWide Tryz.prog W .any base t v := hval0
  have hW' := hW
  obtain ⟨p, q, hA0, hV, rfl, hfz, hnd⟩ := hW
  have hA : DataW.TrodAll enc Tryz.prog W 0 (fun _ => true) true Tryz.f5.params.toList args.toList ds p := hA0
  rw [Tryz.params5] at hA hval hsz
  obtain ⟨v0, vs0, d0, ds0, p0, q0, hargs, rfl, rfl, h0, r0⟩ := trodAll_cons hA
  obtain ⟨v1, vs1, d1, ds1, p1, q1, rfl, rfl, rfl, h1, r1⟩ := trodAll_cons r0
  obtain ⟨v2, vs2, d2, ds2, p2, q2, rfl, rfl, rfl, h2, r2⟩ := trodAll_cons r1
  obtain ⟨v3, vs3, d3, ds3, p3, q3, rfl, rfl, rfl, h3, r3⟩ := trodAll_cons r2
  obtain ⟨rfl, rfl, rfl⟩ := trodAll_nil r3
  obtain rfl : args = #[v0, v1, v2, v3] := by cases args; simp_all
  obtain ⟨rfl, rfl⟩ := trodVars_none hV
  obtain ⟨a0, len0, cap0, rfl⟩ := okWide_slice Tryz.underlying32 (hval 0 32 v0 rfl rfl)
  have k0 := h0
  have lt0 : ∀ x ∈ p0, x.block < W.heap.size := by obtain ⟨m, hm⟩ := k0; exact DataW.trod_lt m _ _ _ hm
  obtain ⟨z0, w0⟩ : ∃ zs, Nb W W.heap.size a0 len0 cap0 zs := by
    obtain ⟨fuel, hf⟩ := h0
    rcases open_ints Tryz.underlying32 Tryz.underlying5 (by kernel_rfl) hf with ⟨hcs, _⟩ | ⟨x, l, c, zs, hcs, _, hl, hm, hz, hd, hcell, hwz⟩
    · simp [Value.cells] at hcs
      obtain ⟨rfl, rfl, rfl⟩ := hcs
      exact ⟨[], nb_nil _ _⟩
    · simp [Value.cells] at hcs
      obtain ⟨rfl, rfl, rfl⟩ := hcs
      exact ⟨_, nb_of_row hl hm (by simpa using hz) hcell hwz⟩
  obtain ⟨a1, rfl, rfl, rfl, w1⟩ := open_int Tryz.underlying3 (hval 1 3 v1 rfl rfl) h1
  obtain ⟨a2, rfl, rfl, rfl, w2⟩ := open_int Tryz.underlying3 (hval 2 3 v2 rfl rfl) h2
  obtain ⟨cs3, rfl, _⟩ := okWide_struct Tryz.underlying37 (hval 3 37 v3 rfl rfl)
  have k3 := h3
  have lt3 : ∀ x ∈ p3, x.block < W.heap.size := by obtain ⟨m, hm⟩ := k3; exact DataW.trod_lt m _ _ _ hm
  obtain ⟨A1, n1, c1, x1, A2, n2, c2, x2, A3, n3, c3, x3, rfl, w3a, w3b, w3c⟩ := params_open h3
  clear hA0 hval0
  refine (law_any (of_laid hL) w0 a1 w1 a2 w2 w3a w3b w3c).mono fun e W' ⟨he, bel⟩ => ?_
  subst he
  exact ⟨_, rfl, _, _, _, [], _, [], hW', trodAll_mk1 (shut_bool Tryz.underlying4 _), (trodAll_cons_mk (Below.trod laidOut (by kernel_rfl) (of_decide_eq_true (by kernel_rfl)) k0 bel lt0) (trodAll_cons_mk (shut_int Tryz.underlying3 w1) (trodAll_cons_mk (shut_int Tryz.underlying3 w2) (trodAll_cons_mk (Below.trod laidOut (by kernel_rfl) (of_decide_eq_true (by kernel_rfl)) k3 bel lt3) trodAll_mk0)))), rfl, bel.frame _, fun h => by cases h⟩

theorem iffMakes_holds : Rows.IffMakesSaid :=
  OpenClaim.holds_of_wide 5 Tryz.f5 rfl rfl rfl rfl rfl rfl rfl ⟨rfl, rfl, rfl, rfl, rfl⟩ rfl rfl rfl rfl rfl (by kernel_rfl) Tryz.func5 (by kernel_rfl)
    (of_decide_eq_true (by kernel_rfl)) (by unfold Func.isWrapper; first | (rw [if_pos (by decide +kernel)]; kernel_rfl) | (rw [if_neg (by decide +kernel)]; exact ⟨rfl, rfl⟩))
    (fun os started H enc _ => lifted os started H enc)
theorem iffMakes_card : Rows.IffMakesCardSaid :=
  Claim7.holds_tied_plain_at .later [] [.data] true (true, "a77df78dea42f5a15d86f593e1b4f6cf4eda01eb2874b3eb65edb9fa1a9941cb") false
    iffMakes_holds (fun _ h => by cases h) (by kernel_rfl) (fun _ h => by cases h) iffMakes_row_tie rfl ⟨rfl, rfl⟩ (by kernel_rfl) rfl
    (fun f fn hf hfn => by
      obtain rfl : f = 5 := Option.some.inj ((show Tryz.prog.funcNamed "clepsydra/clepsydralaw06.IffMakes" = some 5 by kernel_rfl).symm.trans hf) |>.symm
      obtain rfl : fn = Tryz.f5 := (Option.some.inj (Tryz.func5.symm.trans hfn)).symm
      exact ⟨by kernel_rfl, fun j t ht => by
        rw [Tryz.params5] at ht
        have hm : t ∈ [32, 3, 3, 37] := by simpa using Array.mem_of_getElem? ht
        have hall : ([32, 3, 3, 37].all fun u => !Tryz.prog.wantsStandIn u) = true := by kernel_rfl
        exact (show Tryz.prog.wantsStandIn t = false by simpa using List.all_eq_true.1 hall t hm)⟩)
    (by kernel_rfl)
#print axioms iffMakes_card
end Go.Proofs.YtkhlmcknbangfaaGreatDoor.iffMakesP
