/- modn: oddOf, odd.enter, odd.leave. -/
import Derived.Test.YtkhlmcknbangfaaGreatDoorM6
namespace Go.Proofs.YtkhlmcknbangfaaGreatDoor
set_option linter.unusedSimpArgs false
set_option linter.unusedVariables false
open Go.RowKit
set_option linter.unusedVariables false
set_option maxRecDepth 100000

theorem lt_bl (v : Nat) : v < 2 ^ bl v := by
  unfold bl
  split
  · simp; omega
  · exact Nat.lt_log2_self
theorem bl_le {v k : Nat} (h : v < 2 ^ k) : bl v ≤ k := by
  unfold bl
  split
  · omega
  · have := (Nat.log2_lt (by omega)).2 h
    omega
/-- how many binary digits are right behind k steps -/
def rts : Nat → Nat
  | 0 => 3
  | 1 => 6
  | 2 => 12
  | 3 => 24
  | 4 => 48
  | _ => 64
theorem odd_start {x : Nat} (h : x % 2 = 1) : (2 : Int) ^ rts 0 ∣ (x : Int) * (x : Int) - 1 := by
  show (8 : Int) ∣ _
  obtain ⟨k, hk⟩ : ∃ k, x = 2 * k + 1 := ⟨x / 2, by omega⟩
  have h8 : x % 8 = 1 ∨ x % 8 = 3 ∨ x % 8 = 5 ∨ x % 8 = 7 := by omega
  apply Int.dvd_of_emod_eq_zero
  rw [Int.sub_emod, Int.mul_emod]
  have : ((x : Int) % 8) = 1 ∨ ((x : Int) % 8) = 3 ∨ ((x : Int) % 8) = 5 ∨ ((x : Int) % 8) = 7 := by omega
  rcases this with e | e | e | e <;> rw [e] <;> rfl
/-- the next one -/
def nxt (n x : Nat) : Nat := (((x : Int) * ((2 - (n : Int) * x % 18446744073709551616) % 18446744073709551616)) % 18446744073709551616).toNat
theorem nxt_lt (n x : Nat) : nxt n x < 18446744073709551616 := by unfold nxt; omega
theorem wrap_nxt (n x : Nat) : IntKind.u64.wrap ((x : Int) * IntKind.u64.wrap (2 - IntKind.u64.wrap ((n : Int) * (x : Int)))) = ((nxt n x : Nat) : Int) := by
  rw [IntKind.wrap_u64, IntKind.wrap_u64, IntKind.wrap_u64]
  unfold nxt
  omega
theorem nxt_dvd (n x : Nat) : (18446744073709551616 : Int) ∣ ((nxt n x : Nat) : Int) - (x : Int) * (2 - (n : Int) * x) := by
  unfold nxt
  rw [Int.toNat_of_nonneg (Int.emod_nonneg _ (by omega))]
  apply Int.dvd_of_emod_eq_zero
  apply Int.emod_eq_emod_iff_emod_sub_eq_zero.1
  rw [Int.emod_emod, Int.mul_emod, Int.emod_emod, Int.sub_emod, Int.emod_emod, ← Int.sub_emod, ← Int.mul_emod]
theorem nxt_step {n x k : Nat} (hk : k < 5) (h : (2 : Int) ^ rts k ∣ (n : Int) * x - 1) : (2 : Int) ^ rts (k + 1) ∣ (n : Int) * (nxt n x : Nat) - 1 := by
  refine newton h ?_ ?_ (nxt_dvd n x)
  · rcases (show k = 0 ∨ k = 1 ∨ k = 2 ∨ k = 3 ∨ k = 4 by omega) with rfl | rfl | rfl | rfl | rfl <;> decide
  · rcases (show k = 0 ∨ k = 1 ∨ k = 2 ∨ k = 3 ∨ k = 4 by omega) with rfl | rfl | rfl | rfl | rfl <;> decide
def ngt (x : Nat) : Nat := ((-(x : Int)) % 18446744073709551616).toNat
theorem ngt_lt (x : Nat) : ngt x < 18446744073709551616 := by unfold ngt; omega
theorem wrap_ngt (x : Nat) : IntKind.u64.wrap (-(x : Int)) = ((ngt x : Nat) : Int) := by
  rw [IntKind.wrap_u64]; unfold ngt; omega
theorem ngt_minus {n x : Nat} (h : (2 : Int) ^ rts 5 ∣ (n : Int) * x - 1) : (n * ngt x + 1) % 18446744073709551616 = 0 := by
  have h1 : (18446744073709551616 : Int) ∣ (n : Int) * x - 1 := h
  have h2 : (18446744073709551616 : Int) ∣ ((ngt x : Nat) : Int) + x := by
    unfold ngt
    omega
  have h3 := Int.dvd_sub (Int.dvd_mul_of_dvd_right (b := (n : Int)) h2) h1
  have e : (n : Int) * (((ngt x : Nat) : Int) + x) - ((n : Int) * x - 1) = ((n * ngt x + 1 : Nat) : Int) := by
    push_cast
    rw [Int.mul_add]
    omega
  rw [e] at h3
  have := Int.emod_eq_zero_of_dvd h3
  omega

/-- an odd number made ready -/
structure Odd (w w' : World) (N L g m : Nat) (row : List Nat) : Prop where
  rw_ : Row w w' N L g row
  ml : m < 18446744073709551616
  mn : (row.getD 0 0 * m + 1) % 18446744073709551616 = 0
  l0 : 1 ≤ L
  r : 4 * N ≤ 18446744073709551616 ^ L

theorem base_pow (k : Nat) : 18446744073709551616 ^ k = 2 ^ (64 * k) := by
  rw [show (18446744073709551616 : Nat) = 2 ^ 64 by decide, ← Nat.pow_mul]
set_option maxHeartbeats 4000000 in
theorem oddOf_any {w : World} {A : Option Addr} {n c : Nat} {xs : List Nat} (h : Nt w w.heap.size A n c xs) (hn : n ≤ 1099511627) (hodd : val 18446744073709551616 xs % 2 = 1) :
    Calls Tryz.prog 78 #[.slice A n c] w fun e w' => ∃ (g : Nat) (row : List Nat) (L m : Nat), e = .returned (.agg #[.slice (some ⟨g, 0, none⟩) L L, .int .u64 (m : Int)]) ∧ Odd w w' (val 18446744073709551616 xs) L g m row ∧ L ≤ n + 1 := by
  have hr := h.rooms
  have hn0 : 0 < n := by
    rcases Nat.eq_zero_or_pos n with h0 | h0
    · rw [List.eq_nil_of_length_eq_zero (h.len.trans h0)] at hodd; simp [val] at hodd
    · exact h0
  obtain ⟨ab, aoff, rfl, hab, ha0⟩ := h.at_ hn0
  obtain ⟨hm, he⟩ := val_head h.lim
  have hx0 : xs.getD 0 0 % 2 = 1 := by omega
  have hxl := h.lim.get (by omega) 0
  have hS := odd_start hx0
  generalize hxe : xs.getD 0 0 = x at *
  obtain ⟨N, hNe⟩ : ∃ N, val 18446744073709551616 xs = N := ⟨_, rfl⟩
  have hbl := lt_bl N
  have hbn : bl N ≤ 64 * n := bl_le (by rw [← base_pow, ← hNe]; exact h.below_pow (Nat.le_refl _))
  have hbits := fun W (k : Nt W W.heap.size (some ⟨ab, aoff, none⟩) n c xs) => bits_any k (by omega)
  rw [hNe] at hbits
  obtain ⟨b, hb⟩ : ∃ b, bl N = b := ⟨_, rfl⟩
  rw [hb] at hbits hbl hbn
  have Hbl := Lib.hid hbl
  have HS := Lib.hid hS
  have Hx := Lib.hid hxe
  have Hb := Lib.hid hbits
  clear hbl hS hm he hxe hx0 hbits
  rw [hNe]
  rw [Nat.add_zero] at ha0
  obtain ⟨w1, e1⟩ : ∃ w1, w1 = w.alloc (Obj.cells #[Value.slice none 0 0, Value.int IntKind.u64 0] 90) := ⟨_, rfl⟩
  have hbx : w1.heap[w.heap.size]? = some (.cells #[Value.slice none 0 0, Value.int IntKind.u64 0] 90 (0, 0)) := e1 ▸ heap_alloc_new w _
  have hb0 : Below w.heap.size w w1 := e1 ▸ (Below.refl _ w).alloc (Nat.le_refl _) _
  have hs1 : w1.heap.size = w.heap.size + 1 := by rw [e1]; simp
  have ha1 : w1.cell? ⟨ab, aoff, none⟩ = some (.int .u64 (x : Int)) := (hb0.cell (by show ab < _; omega)).trans ha0
  have h1 := h.up hb0
  go_enter Tryz.func78, Tryz.ntmps78
  go_wp2_with fail
  rw [← e1]
  have E1 := Lib.hid e1
  clear e1 ha0
  go_loopw [3, 8] (fun v i wr => ∃ k y : Nat, k ≤ 5 ∧ i = .int .i64 (k : Int) ∧ v = .int .u64 (y : Int) ∧ y < 18446744073709551616 ∧ wr = w1 ∧ Hid ((2 : Int) ^ rts k ∣ (x : Int) * y - 1)) (fun _ i _ => 5 - (intOf i).toNat)
  case atStart => exact ⟨0, x, by omega, rfl, rfl, hxl, rfl, HS.out⟩
  case round =>
    obtain ⟨k, y, hk, rfl, rfl, hy, rfl, HI⟩ := hrel
    by_cases hlt : k < 5
    · have HN := Lib.hid (nxt_step hlt HI.out)
      go_wp2_with fail
      simp only [wrap_nxt]
      go_roundw
      case rel => exact ⟨k + 1, nxt x y, by omega, by simp, rfl, nxt_lt _ _, by simp, HN⟩
      case measure => simp [intOf]; omega
    · have hk5 : k = 5 := by omega
      subst hk5
      have hmn := ngt_minus HI.out
      have hml := ngt_lt y
      have hwn := wrap_ngt y
      obtain ⟨m, hme⟩ : ∃ m, ngt y = m := ⟨_, rfl⟩
      rw [hme] at hmn hml hwn
      have Hmn := Lib.hid hmn
      clear hmn hme
      go_wp2_with fail
      refine (Hb.out _ h1).mono ?_
      rintro e w2 ⟨rfl, rfl⟩
      go_wp2_with fail
      obtain ⟨L, hL⟩ : ∃ L, (b + 65) / 64 = L := ⟨_, rfl⟩
      have hLe : ((b : Int) + 2 + 64 - 1) / 64 = (L : Int) := by omega
      have hb0' : 0 < b := by
        rcases Nat.eq_zero_or_pos b with h0 | h0
        · have := Hbl.out
          rw [h0] at this
          simp at this
          omega
        · exact h0
      have hL0 : 1 ≤ L := by omega
      have hLn : L ≤ n + 1 := by omega
      have hR : 4 * N ≤ 18446744073709551616 ^ L := by
        have e1 : 4 * N ≤ 2 ^ (b + 2) := by rw [Nat.pow_add]; have := Hbl.out; omega
        have e2 : (2 : Nat) ^ (b + 2) ≤ 2 ^ (64 * L) := Nat.pow_le_pow_right (by omega) (by omega)
        rw [base_pow]
        omega
      have hN0 : 0 < N := by omega
      rw [hLe]
      refine (filled_any h1 L (by omega) (by rw [hNe]; omega)).mono ?_
      rintro e w2 ⟨g, row, rfl, HR⟩
      rw [hNe] at HR
      have hbx2 : w2.heap[w.heap.size]? = some (.cells #[Value.slice none 0 0, Value.int IntKind.u64 0] 90 (0, 0)) := (HR.bel.block _ (by omega)).trans hbx
      have c0 : w2.cell? ⟨w.heap.size, 0, none⟩ = some (Value.slice none 0 0) := by rw [cell_of_row w2 _ 0 _ 90 (0, 0) hbx2]; rfl
      have c1 : w2.cell? ⟨w.heap.size, 1, none⟩ = some (Value.int IntKind.u64 0) := by rw [cell_of_row w2 _ 1 _ 90 (0, 0) hbx2]; rfl
      have f0 : w2.frozen? ⟨w.heap.size, 0, none⟩ = false := by simp [World.frozen?, hbx2]
      have f1 : w2.frozen? ⟨w.heap.size, 1, none⟩ = false := by simp [World.frozen?, hbx2]
      have HmN := Lib.hid HR.lim
      go_wp2_with fail
      have hfin : ((w2.setCell ⟨w.heap.size, 0, none⟩ (Value.slice (some ⟨g, 0, none⟩) L L)).setCell ⟨w.heap.size, 1, none⟩ (Value.int IntKind.u64 (m : Int))).heap[w.heap.size]? = some (.cells #[Value.slice (some ⟨g, 0, none⟩) L L, Value.int IntKind.u64 (m : Int)] 90 (0, 0)) := by
        simp [World.setCell, Array.getElem?_modify, hbx2]
      refine bodyPost_ret (results_cell_row rfl _ _ w.heap.size 90 _ (0, 0) _ rfl hfin Tryz.underlying90 rfl (by kernel_rfl)) rfl ?_
      have hgne : g ≠ w.heap.size := by have := HR.new; omega
      refine ⟨g, row, L, m, rfl, ⟨⟨(HR.ow.far (by simpa using hgne) _).far (by simpa using hgne) _, by have := HR.new; omega, HR.len, HR.lim, HR.is, ((bthen hb0 HR.bel).setCell (by simp) _).setCell (by simp) _⟩, hml, ?_, hL0, hR⟩, hLn⟩
      have e2 : row.getD 0 0 = x := by
        have a1 := (val_head HR.lim).1
        have a2 := (val_head h.lim).1
        rw [HR.is, ← hNe, a2, Hx.out] at a1
        exact a1.symm
      rw [e2]
      exact Hmn.out
end Go.Proofs.YtkhlmcknbangfaaGreatDoor
