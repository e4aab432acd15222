/- modn: odd.times. -/
import Derived.Test.YtkhlmcknbangfaaGreatDoorM5
namespace Go.Proofs.YtkhlmcknbangfaaGreatDoor
set_option linter.unusedSimpArgs false
set_option linter.unusedVariables false
open Go.RowKit
set_option linter.unusedVariables false
set_option maxRecDepth 100000

/-- what holds at the loop's head: after j digits of b -/
structure Tm (w0 wr : World) (g L j : Nat) (X N Y out : List Nat) : Prop where
  ow : Ow wr g out
  gr : w0.grownBy wr (some g)
  len : out.length = L
  lim : Lim 18446744073709551616 out
  v : ∃ K, K < 18446744073709551616 ^ j ∧ val 18446744073709551616 out * 18446744073709551616 ^ j = val 18446744073709551616 X * val 18446744073709551616 (Y.take j) + val 18446744073709551616 N * K

theorem Tm.drew {w0 wr : World} {g L j : Nat} {X N Y out : List Nat} (h : Tm w0 wr g L j X N Y out) : Tm w0 wr.drew g L j X N Y out := ⟨h.ow.drew, only_drew h.gr, h.len, h.lim, h.v⟩
theorem Tm.less {w0 wr : World} {g L j : Nat} {X N Y out : List Nat} (h : Tm w0 wr g L j X N Y out) (hj : j ≤ Y.length) (hY : Lim 18446744073709551616 Y) (hX : val 18446744073709551616 X < 2 * val 18446744073709551616 N) : val 18446744073709551616 out < 3 * val 18446744073709551616 N := by
  obtain ⟨K, hK, hv⟩ := h.v
  have h1 := val_lt (hY.take j)
  rw [List.length_take, Nat.min_eq_left hj] at h1
  exact mont_less hv hX h1 hK
theorem Tm.step {w0 wr w' : World} {g L j T y o : Nat} {X N Y out out' : List Nat} (h : Tm w0 wr g L j X N Y out) (hj : j < Y.length) (hy : Y.getD j 0 = y) (ho : o < 18446744073709551616) (hT : T = val 18446744073709551616 out + y * val 18446744073709551616 X + o * val 18446744073709551616 N)
    (ha : Added wr w' g L T out') : Tm w0 w' g L (j + 1) X N Y out' := by
  refine ⟨ha.ow, only_trans h.gr ha.gr, ha.len, ha.lim, ?_⟩
  obtain ⟨K, hK, hv⟩ := h.v
  have e := ha.v
  rw [hT] at e
  have hd : (val 18446744073709551616 out + y * val 18446744073709551616 X + o * val 18446744073709551616 N) % 18446744073709551616 = 0 := by rw [← e]; exact Nat.mul_mod_left _ _
  have h1 := mont_next hv hd
  have h2 : (val 18446744073709551616 out + y * val 18446744073709551616 X + o * val 18446744073709551616 N) / 18446744073709551616 = val 18446744073709551616 out' := by rw [← e]; exact Nat.mul_div_cancel _ (by omega)
  rw [h2] at h1
  refine ⟨K + o * 18446744073709551616 ^ j, ?_, ?_⟩
  · rw [Nat.pow_succ]
    have := Nat.mul_le_mul_right (18446744073709551616 ^ j) (show o ≤ 18446744073709551615 by omega)
    omega
  · rw [Nat.pow_succ, val_take_succ, hy, Nat.mul_comm (18446744073709551616 ^ j) y]
    exact h1

set_option maxHeartbeats 4000000 in
theorem times_any {w : World} {L ac oc nb bc m : Nat} {aA oA bA : Option Addr} {X N Y : List Nat} (hX : Nt w w.heap.size aA L ac X) (hN : Nt w w.heap.size oA L oc N) (hY : Nt w w.heap.size bA nb bc Y)
    (hL0 : 1 ≤ L) (hL : L ≤ 1099511627776) (hnb : nb ≤ 1099511627776) (hm : m < 18446744073709551616) (hmn : (N.getD 0 0 * m + 1) % 18446744073709551616 = 0)
    (hA : val 18446744073709551616 X < 2 * val 18446744073709551616 N) (hR : 4 * val 18446744073709551616 N ≤ 18446744073709551616 ^ L) :
    Calls Tryz.prog 81 #[.agg #[.slice oA L oc, .int .u64 (m : Int)], .slice aA L ac, .slice bA nb bc] w fun e w' => ∃ g out, e = .returned (.slice (some ⟨g, 0, none⟩) L L) ∧ w.heap.size ≤ g ∧ Below w.heap.size w w' ∧
      Ow w' g out ∧ out.length = L ∧ Lim 18446744073709551616 out ∧ ∃ K, K < 18446744073709551616 ^ nb ∧ val 18446744073709551616 out * 18446744073709551616 ^ nb = val 18446744073709551616 X * val 18446744073709551616 Y + val 18446744073709551616 N * K := by
  have hNr := hN.rooms
  have hXr := hX.rooms
  have hYr := hY.rooms
  obtain ⟨w1, e1⟩ : ∃ w1, w1 = w.alloc (Obj.cells #[Value.slice oA L oc, Value.int IntKind.u64 ↑m] 90) := ⟨_, rfl⟩
  have hbx : w1.heap[w.heap.size]? = some (.cells #[Value.slice oA L oc, Value.int IntKind.u64 ↑m] 90 (0, 0)) := e1 ▸ heap_alloc_new w _
  have hc0 : w1.cell? ⟨w.heap.size, 0, none⟩ = some (Value.slice oA L oc) := by rw [cell_of_row w1 _ 0 _ 90 (0, 0) hbx]; rfl
  have hc1 : w1.cell? ⟨w.heap.size, 1, none⟩ = some (Value.int IntKind.u64 ↑m) := by rw [cell_of_row w1 _ 1 _ 90 (0, 0) hbx]; rfl
  have hb0 : Below w.heap.size w w1 := e1 ▸ (Below.refl _ w).alloc (Nat.le_refl _) _
  have hs1 : w.heap.size < w1.heap.size := by rw [e1]; simp
  go_enter Tryz.func81, Tryz.ntmps81
  go_wp2_with (first
    | (rw [← e1]; refine wpList_make_us _ rfl _ _ rfl _ _ L rfl rfl rfl rfl (by omega) ?_; intro w2 hw2 hg2))
  have hsz1 : w1.heap.size = w.heap.size + 1 := by rw [e1]; simp
  have E1 := Lib.hid e1
  clear e1
  have hb2 : Below w1.heap.size w1 w2 := below_none hg2 (Nat.le_refl _)
  rw [hsz1] at hw2
  have hd0 : Tm w2 w2 (w.heap.size + 1) L 0 X N Y (List.replicate L 0) := ⟨hw2, World.grownBy.refl _ _, by simp, lim_replicate (by omega) _, 0, by simp, by simp [val, val_replicate]⟩
  have hX2 := (hX.up hb0).up hb2
  have hN2 := (hN.up hb0).up hb2
  have hY2 := (hY.up hb0).up hb2
  have hX2' : Nt w2 w.heap.size aA L ac X := (hX.below hb0).below (hb2.mono (by omega))
  have hN2' : Nt w2 w.heap.size oA L oc N := (hN.below hb0).below (hb2.mono (by omega))
  have hY2' : Nt w2 w.heap.size bA nb bc Y := (hY.below hb0).below (hb2.mono (by omega))
  have hc02 := (hb2.cell (p := ⟨w.heap.size, 0, none⟩) hs1).trans hc0
  have hc12 := (hb2.cell (p := ⟨w.heap.size, 1, none⟩) hs1).trans hc1
  have hs2 := hb2.size
  go_loopw [15] (fun i wr => ∃ (j : Nat) (out : List Nat), j ≤ nb ∧ i = .int .i64 j ∧ Hid (Tm w2 wr (w.heap.size + 1) L j X N Y out)) (fun i _ => nb - (intOf i).toNat)
  case atStart => exact ⟨0, _, Nat.zero_le _, rfl, hd0⟩
  case round =>
    clear hd0
    obtain ⟨j, out, hj, rfl, HD⟩ := hrel
    have gr := HD.out.gr
    have hgr := gr.size
    by_cases hlt : j < nb
    · have hYl := hY.len
      have hXr := hX2'.only gr (Nat.le_succ _) (by omega)
      have hNr := hN2'.only gr (Nat.le_succ _) (by omega)
      have hYr := (hY2'.only gr (Nat.le_succ _) (by omega)).drew
      obtain ⟨yb, yoff, rfl, hyb, hyk⟩ := hYr.at_ hlt
      have c0 : wr.drew.cell? ⟨w.heap.size, 0, none⟩ = some (Value.slice oA L oc) := gr.cell hc02 (by simp)
      have c1 : wr.drew.cell? ⟨w.heap.size, 1, none⟩ = some (Value.int IntKind.u64 ↑m) := gr.cell hc12 (by simp)
      have hyl := hY.lim.get (by omega) j
      generalize hye : Y.getD j 0 = y at *
      have hlt3 := HD.out.less (by omega) hY.lim hA
      have hT := mont_room hlt3 hA hyl (oft_lt (out.getD 0 0) (X.getD 0 0) y m) hR
      have hcall := addDigit_any (w := wr.drew) HD.out.ow.drew HD.out.len HD.out.lim hXr.drew hNr.drew (Nat.le_succ _) hL0 hL hyl hm hmn hT
      have Hcall := Lib.hid hcall
      have Hye := Lib.hid hye
      clear hcall hT hye
      go_wp2
      go_region_with (go_at_call 133; refine Hcall.out.mono ?_; rintro e w6 ⟨rfl, U', hA6⟩)
      all_goals
        have hl : j < Y.length := by omega
        have HS := Lib.hid (HD.out.drew.step hl Hye.out (oft_lt _ _ _ _) rfl ⟨hA6.ow, hA6.gr, hA6.len, hA6.lim, hA6.v⟩)
        go_wp2
        go_roundw
        case rel => exact ⟨j + 1, _, by omega, by simp, HS⟩
        case measure => simp [intOf]; omega
    · have hjn : j = nb := by omega
      subst hjn
      go_wp2
      go_ret
      have HD' := HD.out
      obtain ⟨K, hK, hv⟩ := HD'.v
      rw [List.take_of_length_le (by rw [hY.len]; exact Nat.le_refl _)] at hv
      have hbl : Below w.heap.size w wr := (bthen hb0 hb2).trans (below_of_only gr (by omega) (by omega))
      exact ⟨_, out, rfl, by omega, hbl, HD'.ow, HD'.len, HD'.lim, K, hK, hv⟩
end Go.Proofs.YtkhlmcknbangfaaGreatDoor
