/- modn: Pow. -/
import Derived.Test.YtkhlmcknbangfaaGreatDoorM9
namespace Go.Proofs.YtkhlmcknbangfaaGreatDoor
set_option linter.unusedSimpArgs false
set_option linter.unusedVariables false
open Go.RowKit
set_option linter.unusedVariables false
set_option maxRecDepth 100000

set_option maxHeartbeats 4000000 in
theorem pow_nil {w : World} {A A2 A3 : Option Addr} {n c n2 c2 n3 c3 : Nat} {xs zs : List Nat} (h : Nt w w.heap.size A n c xs) (h3 : Nt w w.heap.size A3 n3 c3 zs)
    (hn : n ≤ 1099511) (hb : val 18446744073709551616 zs = 0) :
    Calls Tryz.prog 22 #[.slice A n c, .slice A2 n2 c2, .slice A3 n3 c3] w (RetBad 11 w) := by
  obtain ⟨w1, e1⟩ : ∃ w1, w1 = w.alloc (Obj.cells #[Value.slice A3 n3 c3] 22) := ⟨_, rfl⟩
  have hb0 : Below w.heap.size w w1 := e1 ▸ (Below.refl _ w).alloc (Nat.le_refl _) _
  go_enter Tryz.func22, Tryz.ntmps22
  go_wp2_with fail
  rw [← e1]
  refine (mod_nil (h.up hb0) (h3.up hb0) (by omega) hb).mono ?_
  rintro e w2 ⟨rfl, b2⟩
  go_wp2_with fail
  go_ret2
  exact ⟨rfl, bthen hb0 b2⟩
set_option maxHeartbeats 4000000 in
theorem pow_even {w : World} {A A2 A3 : Option Addr} {n c n2 c2 n3 c3 : Nat} {xs es ns : List Nat} (h : Nt w w.heap.size A n c xs) (h2 : Nt w w.heap.size A2 n2 c2 es) (h3 : Nt w w.heap.size A3 n3 c3 ns)
    (hn : n ≤ 1099511) (hn2 : n2 ≤ 1099511) (hn3 : n3 ≤ 1099511) (hpos : 0 < val 18446744073709551616 ns) (hev : val 18446744073709551616 ns % 2 = 0) :
    Calls Tryz.prog 22 #[.slice A n c, .slice A2 n2 c2, .slice A3 n3 c3] w (RetT (val 18446744073709551616 xs ^ val 18446744073709551616 es % val 18446744073709551616 ns) w) := by
  have hmf : ∀ (fn : Fn) (first cap : Array Value) (w : World), (Instr.makeFunc fn first cap).run Tryz.prog w = .ok (.func fn first cap) w := fun _ _ _ _ => rfl
  obtain ⟨w1, e1⟩ : ∃ w1, w1 = w.alloc (Obj.cells #[Value.slice A3 n3 c3] 22) := ⟨_, rfl⟩
  have hbx : w1.heap[w.heap.size]? = some (.cells #[Value.slice A3 n3 c3] 22 (0, 0)) := e1 ▸ heap_alloc_new w _
  have hc1 : w1.cell? ⟨w.heap.size, 0, none⟩ = some (Value.slice A3 n3 c3) := by rw [cell_of_row w1 _ 0 _ 22 (0, 0) hbx]; rfl
  have hb0 : Below w.heap.size w w1 := e1 ▸ (Below.refl _ w).alloc (Nat.le_refl _) _
  have hs1 : w.heap.size < w1.heap.size := by rw [e1]; simp
  have hbt := fun W (k : Nt W W.heap.size A3 n3 c3 ns) => bit_any k 0 (by omega)
  rw [show btN (val 18446744073709551616 ns) 0 = val 18446744073709551616 ns / 2 ^ 0 % 2 from btN_of rfl, Nat.pow_zero, Nat.div_one, hev] at hbt
  have Hbt := Lib.hid hbt
  clear hbt
  go_enter Tryz.func22, Tryz.ntmps22
  go_wp2_with fail
  rw [← e1]
  have E1 := Lib.hid e1
  clear e1
  refine (mod_pos (h.up hb0) (h3.up hb0) (by omega) hpos).mono ?_
  rintro e w2 ⟨A4, n4, c4, x4, rfl, r4⟩
  have b2 := bthen hb0 r4.bel
  have c2' := (r4.bel.cell (p := ⟨w.heap.size, 0, none⟩) hs1).trans hc1
  have s2 : w.heap.size < w2.heap.size := Nat.lt_of_lt_of_le hs1 r4.bel.size
  go_wp2_with fail
  refine (Hbt.out _ (h3.up b2)).mono ?_
  rintro e w3 ⟨rfl, rfl⟩
  go_wp2_with fail
  refine (of_any 1 _ rfl (by omega) _).mono ?_
  rintro e w4 ⟨A5, n5, c5, x5, rfl, r5⟩
  have b4 := bthen b2 r5.bel
  have c4' := (r5.bel.cell (p := ⟨w.heap.size, 0, none⟩) s2).trans c2'
  have s4 : w.heap.size < w4.heap.size := Nat.lt_of_lt_of_le s2 r5.bel.size
  go_wp2_with fail
  refine (power_c c4' s4 (h3.up b4) hn3 hpos (a0 := val 18446744073709551616 xs) r5.nt ⟨r5.trm, by rw [r5.is, Nat.mod_eq_of_lt (by omega)]⟩ (r4.nt.up r5.bel) ⟨r4.trm, r4.is⟩ (h2.up b4) hn2).mono ?_
  rintro e w5 ⟨A6, n6, c6, x6, rfl, N6, k6, b5⟩
  go_wp2_with fail
  go_ret2
  exact ⟨_, _, _, _, rfl, N6, k6.trm, k6.is, bthen b4 b5⟩
set_option maxHeartbeats 4000000 in
theorem pow_odd {w : World} {A A2 A3 : Option Addr} {n c n2 c2 n3 c3 : Nat} {xs es ns : List Nat} (h : Nt w w.heap.size A n c xs) (h2 : Nt w w.heap.size A2 n2 c2 es) (h3 : Nt w w.heap.size A3 n3 c3 ns)
    (hn : n ≤ 1099511) (hn2 : n2 ≤ 1099511) (hn3 : n3 ≤ 1099511) (hev : val 18446744073709551616 ns % 2 = 1) :
    Calls Tryz.prog 22 #[.slice A n c, .slice A2 n2 c2, .slice A3 n3 c3] w (RetT (val 18446744073709551616 xs ^ val 18446744073709551616 es % val 18446744073709551616 ns) w) := by
  have hmf : ∀ (fn : Fn) (first cap : Array Value) (w : World), (Instr.makeFunc fn first cap).run Tryz.prog w = .ok (.func fn first cap) w := fun _ _ _ _ => rfl
  have hpos : 0 < val 18446744073709551616 ns := by omega
  obtain ⟨w1, e1⟩ : ∃ w1, w1 = w.alloc (Obj.cells #[Value.slice A3 n3 c3] 22) := ⟨_, rfl⟩
  have hbx : w1.heap[w.heap.size]? = some (.cells #[Value.slice A3 n3 c3] 22 (0, 0)) := e1 ▸ heap_alloc_new w _
  have hc1 : w1.cell? ⟨w.heap.size, 0, none⟩ = some (Value.slice A3 n3 c3) := by rw [cell_of_row w1 _ 0 _ 22 (0, 0) hbx]; rfl
  have hb0 : Below w.heap.size w w1 := e1 ▸ (Below.refl _ w).alloc (Nat.le_refl _) _
  have hs1 : w.heap.size < w1.heap.size := by rw [e1]; simp
  have hbt := fun W (k : Nt W W.heap.size A3 n3 c3 ns) => bit_any k 0 (by omega)
  rw [show btN (val 18446744073709551616 ns) 0 = val 18446744073709551616 ns / 2 ^ 0 % 2 from btN_of rfl, Nat.pow_zero, Nat.div_one, hev] at hbt
  have Hbt := Lib.hid hbt
  clear hbt
  go_enter Tryz.func22, Tryz.ntmps22
  go_wp2_with fail
  rw [← e1]
  have E1 := Lib.hid e1
  clear e1
  refine (mod_pos (h.up hb0) (h3.up hb0) (by omega) hpos).mono ?_
  rintro e w2 ⟨A4, n4, c4, x4, rfl, r4⟩
  have b2 := bthen hb0 r4.bel
  have c2' := (r4.bel.cell (p := ⟨w.heap.size, 0, none⟩) hs1).trans hc1
  have s2 : w.heap.size < w2.heap.size := Nat.lt_of_lt_of_le hs1 r4.bel.size
  have l4 : n4 ≤ n3 := r4.le (Nat.lt_trans (Nat.mod_lt _ hpos) (h3.below_pow (Nat.le_refl _)))
  go_wp2_with fail
  refine (Hbt.out _ (h3.up b2)).mono ?_
  rintro e w3 ⟨rfl, rfl⟩
  go_wp2_with fail
  refine (oddOf_any (h3.up b2) (by omega) hev).mono ?_
  rintro e w4 ⟨g, row, L, m, rfl, HO, hLn⟩
  have b4 := bthen b2 HO.rw_.bel
  have r4' := r4.nt.up HO.rw_.bel
  have hrow := HO.rw_.nt (by omega)
  go_wp2_with fail
  obtain ⟨w5, e5⟩ : ∃ w5, w5 = w4.alloc (Obj.cells #[Value.slice (some { block := g, off := 0 }) L L, Value.int IntKind.u64 ↑m] 90) := ⟨_, rfl⟩
  rw [← e5]
  have hbx5 : w5.heap[w4.heap.size]? = some (.cells #[Value.slice (some { block := g, off := 0 }) L L, Value.int IntKind.u64 ↑m] 90 (0, 0)) := e5 ▸ heap_alloc_new w4 _
  have c0 : w5.drew.cell? ⟨w4.heap.size, 0, none⟩ = some (Value.slice (some { block := g, off := 0 }) L L) := by show w5.cell? _ = _; rw [cell_of_row w5 _ 0 _ 90 (0, 0) hbx5]; rfl
  have c1 : w5.drew.cell? ⟨w4.heap.size, 1, none⟩ = some (Value.int IntKind.u64 ↑m) := by show w5.cell? _ = _; rw [cell_of_row w5 _ 1 _ 90 (0, 0) hbx5]; rfl
  have hb45 : Below w4.heap.size w4 w5.drew := (e5 ▸ (Below.refl _ w4).alloc (Nat.le_refl _) _ : Below w4.heap.size w4 w5).drew
  have hs5 : w4.heap.size < w5.drew.heap.size := by show _ < w5.heap.size; rw [e5]; simp
  have b5 : Below w.heap.size w w5.drew := bthen b4 hb45
  have hrow5 := hrow.up hb45
  have r45 := r4'.up hb45
  have hL1 : L ≤ 1099511627 := by omega
  have hm := HO.ml
  have hmn := HO.mn
  have hL0 := HO.l0
  have hR := HO.r
  have hrv := HO.rw_.is
  have hod : val 18446744073709551616 row % 2 = 1 := by rw [hrv]; exact hev
  have hrp : 0 < val 18446744073709551616 row := by omega
  rw [← hrv] at hR
  have HO' := Lib.hid HO
  have E5 := Lib.hid e5
  clear e5 HO
  go_region_held3 (fun w' => w'.cell? ⟨w4.heap.size, 0, none⟩ = some (Value.slice (some { block := g, off := 0 }) L L) ∧ w'.cell? ⟨w4.heap.size, 1, none⟩ = some (Value.int IntKind.u64 ↑m))
    (first | exact ⟨c0A, c1A⟩ | exact ⟨c09, c19⟩ | exact ⟨c08, c18⟩ | exact ⟨c07, c17⟩ | exact ⟨c06, c16⟩ | exact ⟨c0, c1⟩)
    ((first
    | (go_at_call 23; refine (of_any 1 _ rfl (by omega) _).mono ?_; rintro e w6 ⟨A6, n6, c6, x6, rfl, r6⟩
       have c06 := (r6.bel.cell (p := ⟨w4.heap.size, 0, none⟩) hs5).trans c0
       have c16 := (r6.bel.cell (p := ⟨w4.heap.size, 1, none⟩) hs5).trans c1
       have b6 := bthen b5 r6.bel
       have s6 : w4.heap.size < w6.heap.size := Nat.lt_of_lt_of_le hs5 r6.bel.size
       have l6 : n6 ≤ 1 := r6.le (by decide)
       have N6 := hrow5.up r6.bel)
    | (go_at_call_of 80 (Value.slice A6 n6 c6); refine (enter_any N6 r6.nt (by omega) (by omega) hrp).mono ?_; rintro e w7 ⟨g7, x7, rfl, r7⟩
       have c07 := (r7.bel.cell (p := ⟨w4.heap.size, 0, none⟩) s6).trans c06
       have c17 := (r7.bel.cell (p := ⟨w4.heap.size, 1, none⟩) s6).trans c16
       have b7 := bthen b6 r7.bel
       have s7 : w4.heap.size < w7.heap.size := Nat.lt_of_lt_of_le s6 r7.bel.size
       have N7 := N6.up r7.bel
       have a7 := (r45.up r6.bel).up r7.bel)
    | (go_at_call_of 80 (Value.slice A4 n4 c4); refine (enter_any N7 a7 (by omega) (by omega) hrp).mono ?_; rintro e w8 ⟨g8, x8, rfl, r8⟩
       have c08 := (r8.bel.cell (p := ⟨w4.heap.size, 0, none⟩) s7).trans c07
       have c18 := (r8.bel.cell (p := ⟨w4.heap.size, 1, none⟩) s7).trans c17
       have b8 := bthen b7 r8.bel
       have s8 : w4.heap.size < w8.heap.size := Nat.lt_of_lt_of_le s7 r8.bel.size
       have N8 := N7.up r8.bel
       have one8 := (r7.nt (by omega)).up r8.bel
       have k7 : RepM (val 18446744073709551616 row) L 1 x7 := ⟨r7.len, by rw [r7.is, r6.is]; exact ⟨by have := Nat.mod_lt (1 * 18446744073709551616 ^ L) hrp; omega, Nat.mod_mod _ _⟩⟩
       have k8 : RepM (val 18446744073709551616 row) L (val 18446744073709551616 xs) x8 := ⟨r8.len, by rw [r8.is, r4.is, hrv]; exact ⟨by have := Nat.mod_lt (val 18446744073709551616 xs % val 18446744073709551616 ns * 18446744073709551616 ^ L) hpos; omega, by rw [Nat.mod_mod, Nat.mod_mul_mod]⟩⟩)
    | (go_at_call 76; refine (power_m N8 hL0 (by omega) hm hmn hR hod one8 k7 (r8.nt (by omega)) k8 (h2.up b8) hn2).mono ?_; rintro e w9 ⟨A9, n9, c9, x9, rfl, N9, k9, b89⟩
       have c09 := (b89.cell (p := ⟨w4.heap.size, 0, none⟩) s8).trans c08
       have c19 := (b89.cell (p := ⟨w4.heap.size, 1, none⟩) s8).trans c18
       have b9 := bthen b8 b89
       have s9 : w4.heap.size < w9.heap.size := Nat.lt_of_lt_of_le s8 b89.size
       obtain rfl : n9 = L := N9.len.symm.trans k9.len)
    | (go_at_call 79; refine (leave_any (N8.up b89) N9 hL0 (by omega) hm hmn k9.is.1 hR hrp).mono ?_; rintro e wA ⟨r, ⟨AA, nA, cA, xA, rfl, rA⟩, out, K, hv, hr⟩
       have c0A := (rA.bel.cell (p := ⟨w4.heap.size, 0, none⟩) s9).trans c09
       have c1A := (rA.bel.cell (p := ⟨w4.heap.size, 1, none⟩) s9).trans c19
       have bA := bthen b9 rA.bel)))
  all_goals
    go_wp2
    go_ret2
    have e9 := stands_leave (coprime_base hod _) k9.is hv
    have eA := rA.is
    rw [hr, e9, hrv] at eA
    exact ⟨_, _, _, _, rfl, rA.nt, rA.trm, eA, bA⟩

theorem mpow_pos {w : World} {A A2 A3 : Option Addr} {n c n2 c2 n3 c3 : Nat} {xs es ns : List Nat} (h : Nt w w.heap.size A n c xs) (h2 : Nt w w.heap.size A2 n2 c2 es) (h3 : Nt w w.heap.size A3 n3 c3 ns)
    (hn : n ≤ 1099511) (hn2 : n2 ≤ 1099511) (hn3 : n3 ≤ 1099511) (hpos : 0 < val 18446744073709551616 ns) :
    Calls Tryz.prog 22 #[.slice A n c, .slice A2 n2 c2, .slice A3 n3 c3] w (RetT (val 18446744073709551616 xs ^ val 18446744073709551616 es % val 18446744073709551616 ns) w) := by
  rcases Nat.mod_two_eq_zero_or_one (val 18446744073709551616 ns) with h0 | h1
  · exact pow_even h h2 h3 hn hn2 hn3 hpos h0
  · exact pow_odd h h2 h3 hn hn2 hn3 h1
end Go.Proofs.YtkhlmcknbangfaaGreatDoor
