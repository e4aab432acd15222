/- modn: odd.enter, odd.leave. -/
import Derived.Test.YtkhlmcknbangfaaGreatDoorM7
import Derived.Test.YtkhlmcknbangfaaGreatDoorG1
import Derived.Deep.RegionHeld3
namespace Go.Proofs.YtkhlmcknbangfaaGreatDoor
set_option linter.unusedSimpArgs false
set_option linter.unusedVariables false
open Go.RowKit
set_option linter.unusedVariables false
set_option maxRecDepth 100000

theorem Ow.gu {w : World} {g n base : Nat} {xs : List Nat} (h : Ow w g xs) (hl : xs.length = n) (hb : base ≤ g) (hn : n ≤ maxLen) : Gu w base (some ⟨g, 0, none⟩) n n xs := by
  refine ⟨hl, ?_, ?_⟩
  · simp [us, hl]
  · exact .inr ⟨g, n, (us xs).toArray, rfl, hb, h, Nat.le_refl _, hn, by simp [us, hl], by rw [Nat.mul_one]; exact List.take_of_length_le (by simp [us, hl])⟩

theorem below_nt {w w' : World} {A : Option Addr} {n c : Nat} {xs : List Nat} (h : Nt w w.heap.size A n c xs) (hb : Below w.heap.size w w') : Nt w' w.heap.size A n c xs := h.below hb

set_option maxHeartbeats 4000000 in
theorem enter_any {w : World} {L oc n c m : Nat} {oA A : Option Addr} {N xs : List Nat} (hN : Nt w w.heap.size oA L oc N) (h : Nt w w.heap.size A n c xs) (hL : L ≤ 1099511627) (hn : n ≤ 1099511627) (hpos : 0 < val 18446744073709551616 N) :
    Calls Tryz.prog 80 #[.agg #[.slice oA L oc, .int .u64 (m : Int)], .slice A n c] w fun e w' => ∃ (g : Nat) (row : List Nat), e = .returned (.slice (some ⟨g, 0, none⟩) L L) ∧ Row w w' (val 18446744073709551616 xs * 18446744073709551616 ^ L % val 18446744073709551616 N) L g row := by
  have hNr := hN.rooms
  have hr := h.rooms
  have hNlt := hN.below_pow (Nat.le_refl _)
  obtain ⟨w1, e1⟩ : ∃ w1, w1 = w.alloc (Obj.cells #[Value.slice oA L oc, Value.int IntKind.u64 ↑m] 90) := ⟨_, rfl⟩
  have hbx : w1.heap[w.heap.size]? = some (.cells #[Value.slice oA L oc, Value.int IntKind.u64 ↑m] 90 (0, 0)) := e1 ▸ heap_alloc_new w _
  have hc0 : w1.cell? ⟨w.heap.size, 0, none⟩ = some (Value.slice oA L oc) := by rw [cell_of_row w1 _ 0 _ 90 (0, 0) hbx]; rfl
  have hb0 : Below w.heap.size w w1 := e1 ▸ (Below.refl _ w).alloc (Nat.le_refl _) _
  have hsz1 : w1.heap.size = w.heap.size + 1 := by rw [e1]; simp
  go_enter Tryz.func80, Tryz.ntmps80
  go_wp2_with (first
    | (rw [← e1]; refine wpList_make_us _ rfl _ _ rfl _ _ L rfl rfl rfl rfl (by omega) ?_; intro w2 hw2 hg2; have hb2 : Below w1.heap.size w1 w2 := below_none hg2 (Nat.le_refl _); have h2 := (h.up hb0).up hb2; have hG2 := hw2.gu (n := L) (base := w1.heap.size) (by simp) (Nat.le_refl _) (by unfold maxLen; omega); rw [hsz1] at hG2)
    | (refine wpList_app_row_u _ rfl _ _ rfl rfl hG2 rfl h2 (by omega) (Below.refl _ _) (by have := hb2.size; omega) ?_; intro A3 c3 w3 hG3 hB3; have hb13 : Below (w.heap.size + 1) w1 w3 := (hb2.mono (by omega)).trans hB3; have c03 : w3.cell? ⟨w.heap.size, 0, none⟩ = some (Value.slice oA L oc) := (hb13.cell (by simp)).trans hc0))
  have hL3 : Lim 18446744073709551616 (List.replicate L 0 ++ xs) := (lim_replicate (by omega) _).append h.lim
  have hN3 := hG3.nt hL3
  have hb02 : Below w.heap.size w w2 := bthen hb0 hb2
  have hb03 : Below w.heap.size w w3 := hb02.trans (hB3.mono (by omega))
  have hO3 := hN.up hb03
  have hv3 : val 18446744073709551616 (List.replicate L 0 ++ xs) = val 18446744073709551616 xs * 18446744073709551616 ^ L := by
    rw [val_append, val_replicate, List.length_replicate, Nat.zero_add, Nat.mul_comm]
  have Hv3 := Lib.hid hv3
  clear hv3
  go_wp2_with fail
  refine (mod_pos hN3 hO3 (by omega) hpos).mono ?_
  rintro e w4 ⟨A4, n4, c4, x4, rfl, r4⟩
  rw [Hv3.out] at r4
  have c04 : w4.cell? ⟨w.heap.size, 0, none⟩ = some (Value.slice oA L oc) := (r4.bel.cell (by have := hb13.size; show w.heap.size < _; omega)).trans c03
  have hb04 := bthen hb03 r4.bel
  go_wp2_with fail
  refine (filled_any r4.nt L (by omega) (by rw [r4.is]; exact Nat.lt_trans (Nat.mod_lt _ hpos) hNlt)).mono ?_
  rintro e w5 ⟨g, row, rfl, HR⟩
  go_wp2_with fail
  go_ret
  exact ⟨g, row, rfl, HR.ow, Nat.le_trans hb04.size HR.new, HR.len, HR.lim, by rw [HR.is, r4.is], bthen hb04 HR.bel⟩

theorem Row.nt {w w' : World} {N L g : Nat} {xs : List Nat} (h : Row w w' N L g xs) (hL : L ≤ 1099511627776) : Nt w' w'.heap.size (some ⟨g, 0, none⟩) L L xs :=
  (h.ow.whole (by rw [h.len]; unfold maxLen; omega) h.lim h.len.symm).more h.ow.lt

set_option maxHeartbeats 4000000 in
theorem leave_any {w : World} {L oc c m : Nat} {oA A : Option Addr} {N X : List Nat} (hN : Nt w w.heap.size oA L oc N) (hX : Nt w w.heap.size A L c X) (hL0 : 1 ≤ L) (hL : L ≤ 1099511627) (hm : m < 18446744073709551616) (hmn : (N.getD 0 0 * m + 1) % 18446744073709551616 = 0)
    (hA : val 18446744073709551616 X < 2 * val 18446744073709551616 N) (hR : 4 * val 18446744073709551616 N ≤ 18446744073709551616 ^ L) (hpos : 0 < val 18446744073709551616 N) :
    Calls Tryz.prog 79 #[.agg #[.slice oA L oc, .int .u64 (m : Int)], .slice A L c] w fun e w' => ∃ (r : Nat), RetS r w e w' ∧ ∃ out K, out * 18446744073709551616 ^ L = val 18446744073709551616 X * 1 + val 18446744073709551616 N * K ∧ r = out % val 18446744073709551616 N := by
  have hNr := hN.rooms
  have hr := hX.rooms
  obtain ⟨w1, e1⟩ : ∃ w1, w1 = w.alloc (Obj.cells #[Value.slice oA L oc, Value.int IntKind.u64 ↑m] 90) := ⟨_, rfl⟩
  have hbx : w1.heap[w.heap.size]? = some (.cells #[Value.slice oA L oc, Value.int IntKind.u64 ↑m] 90 (0, 0)) := e1 ▸ heap_alloc_new w _
  have hb0 : Below w.heap.size w w1 := e1 ▸ (Below.refl _ w).alloc (Nat.le_refl _) _
  have hsz1 : w1.heap.size = w.heap.size + 1 := by rw [e1]; simp
  have hbx1 : w1.drew.heap[w.heap.size]? = some (.cells #[Value.slice oA L oc, Value.int IntKind.u64 ↑m] 90 (0, 0)) := hbx
  have hbd : Below w.heap.size w w1.drew := hb0.drew
  have c0 : w1.drew.cell? ⟨w.heap.size, 0, none⟩ = some (Value.slice oA L oc) := by rw [cell_of_row _ _ 0 _ 90 (0, 0) hbx1]; rfl
  have c1 : w1.drew.cell? ⟨w.heap.size, 1, none⟩ = some (Value.int IntKind.u64 ↑m) := by rw [cell_of_row _ _ 1 _ 90 (0, 0) hbx1]; rfl
  go_enter Tryz.func79, Tryz.ntmps79
  go_wp2_with fail
  rw [← e1]
  have E1 := Lib.hid e1
  clear e1
  go_region_held3 (fun w' => w'.cell? ⟨w.heap.size, 0, none⟩ = some (Value.slice oA L oc) ∧ w'.cell? ⟨w.heap.size, 1, none⟩ = some (Value.int IntKind.u64 ↑m))
    (first | exact ⟨c05, c15⟩ | exact ⟨c04, c14⟩ | exact ⟨c03, c13⟩ | exact ⟨c02, c12⟩ | exact ⟨c0, c1⟩)
    ((first
    | (go_at_call 23; refine (of_any 1 _ rfl (by omega) _).mono ?_; rintro e w2 ⟨A2, n2, c2, x2, rfl, r2⟩
       have c02 := (r2.bel.cell (p := ⟨w.heap.size, 0, none⟩) (by simp [hsz1])).trans c0
       have c12 := (r2.bel.cell (p := ⟨w.heap.size, 1, none⟩) (by simp [hsz1])).trans c1
       have b2 := bthen hbd r2.bel
       have s2 : w.heap.size < w2.heap.size := by have := r2.bel.size; simp [hsz1] at this; omega)
    | (go_at_call 132; refine (filled_any r2.nt L (by omega) (by rw [r2.is]; exact Nat.one_lt_pow (by omega) (by omega))).mono ?_; rintro e w3 ⟨g3, row3, rfl, r3⟩
       have c03 := (r3.bel.cell (p := ⟨w.heap.size, 0, none⟩) s2).trans c02
       have c13 := (r3.bel.cell (p := ⟨w.heap.size, 1, none⟩) s2).trans c12
       have b3 := bthen b2 r3.bel
       have s3 : w.heap.size < w3.heap.size := by have := r3.bel.size; omega
       have v3 : val 18446744073709551616 row3 = 1 := r3.is.trans r2.is
       have r3n := r3.nt (by omega))
    | (go_at_call 81; refine (times_any (hX.up b3) (hN.up b3) r3n hL0 (by omega) (by omega) hm hmn hA hR).mono ?_; rintro e w4 ⟨g4, out, rfl, hg4, b43, ow4, l4, lim4, hK4⟩
       have c04 := (b43.cell (p := ⟨w.heap.size, 0, none⟩) s3).trans c03
       have c14 := (b43.cell (p := ⟨w.heap.size, 1, none⟩) s3).trans c13
       have b4 := bthen b3 b43
       have s4 : w.heap.size < w4.heap.size := by have := b43.size; omega
       have n4 := (ow4.whole (n := L) (by rw [l4]; unfold maxLen; omega) lim4 l4.symm).more ow4.lt
       have HK4 := Lib.hid hK4
       clear hK4)
    | (go_at_call 66; refine (mod_pos n4 (hN.up b4) (by omega) hpos).mono ?_; rintro e w5 ⟨A5, n5, c5, x5, rfl, r5⟩
       have c05 := (r5.bel.cell (p := ⟨w.heap.size, 0, none⟩) s4).trans c04
       have c15 := (r5.bel.cell (p := ⟨w.heap.size, 1, none⟩) s4).trans c14
       have b5 := bthen b4 r5.bel)))
  all_goals
    go_wp2
    go_ret
    obtain ⟨K, hK, hv⟩ := HK4.out
    rw [v3] at hv
    exact ⟨_, ⟨_, _, _, _, rfl, r5.nt, r5.trm, r5.is, b5⟩, _, K, hv, rfl⟩
end Go.Proofs.YtkhlmcknbangfaaGreatDoor
