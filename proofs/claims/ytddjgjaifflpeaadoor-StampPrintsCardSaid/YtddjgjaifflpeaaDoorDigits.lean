/- Ten digits of a number; a number of ten digits; the least part. -/
import Derived.Test.YtddjgjaifflpeaaDoorBase
import Derived.Laws.BitsAllLaws
namespace Go.Proofs.YtddjgjaifflpeaaDoor
open Go.RowKit
set_option linter.unusedVariables false
set_option maxRecDepth 100000

/-- the last k digits, as bytes -/
def low (n : Nat) : Nat → List Nat
  | 0 => []
  | k + 1 => (48 + n / 10 ^ k % 10) :: low n k
def ten (n : Nat) : List Nat := low n 10
theorem length_low (n k : Nat) : (low n k).length = k := by
  induction k with
  | zero => rfl
  | succ k ih => simp [low, ih]
theorem lim_low (n k : Nat) : Lim 256 (low n k) := by
  induction k with
  | zero => exact Lim.nil _
  | succ k ih =>
    intro x hx
    simp only [low, List.mem_cons] at hx
    rcases hx with rfl | hx
    · omega
    · exact ih x hx
theorem low_set (n k : Nat) (hk : k < 10) : (List.replicate (10 - k) 0 ++ low n k).set (9 - k) (48 + n / 10 ^ k % 10) = List.replicate (10 - (k + 1)) 0 ++ low n (k + 1) := by
  rw [show 10 - k = (9 - k) + 1 by omega, List.replicate_succ', List.append_assoc, List.set_append, if_neg (by simp), List.length_replicate, Nat.sub_self]
  rw [show 10 - (k + 1) = 9 - k by omega]
  rfl
theorem pow10_succ (n k : Nat) : n / 10 ^ k / 10 = n / 10 ^ (k + 1) := by rw [Nat.div_div_eq_div_mul, ← Nat.pow_succ]

/-- stamp.tenDigits -/
theorem tens_any (n : Nat) (hn : n < 18446744073709551616) (w : World) : Calls Tryd.prog 49 #[.int .u64 (n : Int)] w fun e w' => e = .returned (.agg (bs (ten n)).toArray) ∧ Below w.heap.size w w' := by
  obtain ⟨w0, hw0⟩ : ∃ w0, w0 = (w.alloc (Yb 51 (List.replicate 10 0))).alloc (Yb 51 (List.replicate 10 0)) := ⟨_, rfl⟩
  have b0 : Below w.heap.size w w0 := by rw [hw0]; exact ((Below.refl _ _).alloc (Nat.le_refl _) _).alloc (by simp) _
  have o0 : Bb w0 w.heap.size 51 (List.replicate 10 0) := by rw [hw0]; exact (alloc_bb w 51 _).alloc _
  have l0 : Bb w0 (w.heap.size + 1) 51 (List.replicate 10 0) := by
    rw [hw0]
    have := alloc_bb (w.alloc (Yb 51 (List.replicate 10 0))) 51 (List.replicate 10 0)
    rwa [World.size_alloc] at this
  have HW := Lib.hid hw0
  clear hw0
  go_enter Tryd.func49, Tryd.ntmps49
  go_wp2
  change Code.wp _ _ _ _ ((w.alloc (Yb 51 (List.replicate 10 0))).alloc (Yb 51 (List.replicate 10 0)))
  rw [← HW.out]
  clear HW
  go_loopw [5, 0] (fun i m wr => ∃ k : Nat, k ≤ 10 ∧ i = .int .i64 k ∧ m = .int .u64 ((n / 10 ^ k : Nat) : Int) ∧ Bb wr (w.heap.size + 1) 51 (List.replicate (10 - k) 0 ++ low n k) ∧ Bb wr w.heap.size 51 (List.replicate 10 0) ∧ Below w.heap.size w wr) (fun i _ _ => 10 - (intOf i).toNat)
  case atStart => exact ⟨0, by omega, rfl, by simp, l0, o0, b0⟩
  case round =>
    clear o0 l0 b0
    obtain ⟨k, hk, rfl, rfl, hl, ho, hB⟩ := hrel
    by_cases hlt : k < 10
    · have Hs := Lib.hid (low_set n k hlt)
      have Hp := Lib.hid (pow10_succ n k)
      have hc := hl.cellD (j := 9 - k) (by rw [List.length_append, List.length_replicate, length_low]; omega)
      have hf := hl.frozen (9 - k)
      have hm : n / 10 ^ k < 18446744073709551616 := Nat.lt_of_le_of_lt (Nat.div_le_self _ _) hn
      generalize n / 10 ^ k = m at *
      go_wp2
      go_roundw
      case rel =>
        have e4 : Value.int .u8 (48 + (m : Int) % 10) = .int .u8 ((48 + m % 10 : Nat) : Int) := by rw [show (48 : Int) + (m : Int) % 10 = ((48 + m % 10 : Nat) : Int) by omega]
        rw [e4]
        refine ⟨k + 1, by omega, by go_num, by rw [← Hp.out]; go_num, ?_, (Below.heap_setCell wr _ _ w.heap.size (by simp)).trans ho, hB.setCell (p := ⟨w.heap.size + 1, 9 - k, none⟩) (Nat.le_succ _) _⟩
        rw [← Hs.out]
        exact hl.set_ _ _
      case measure => simp [intOf]; omega
    · have hfin : Bb wr (w.heap.size + 1) 51 (ten n) := by
        rw [show k = 10 by omega] at hl
        simpa [ten] using hl
      have hDl : (bs (ten n)).length = 10 := by rw [length_bs, ten, length_low]
      have HDl := Lib.hid hDl
      have hge : 10 ≤ k := by omega
      clear hlt hl hDl
      go_wp2_with (first
        | (refine wpList_load_row rfl 51 (.tmp 3) rfl (w.heap.size + 1) rfl 51 (bs (ten n)).toArray (0, 0) _ hfin Tryd.underlying51 rfl (by rw [List.size_toArray, HDl.out]; kernel_rfl) ?_)
        | (refine wpList_store_row rfl rfl 51 (.tmp 2) (.tmp 18) rfl w.heap.size rfl (bs (ten n)) rfl 51 _ ho (bs_one _) (by rw [HDl.out]; simp [bs]) (by rw [HDl.out]; kernel_rfl) ?_))
      have hr1 := setRow_heap wr w.heap.size _ (bs (ten n)).toArray 51 (0, 0) ho
      exact bodyPost_ret (v := .agg (bs (ten n)).toArray) (results_cell_row rfl _ _ w.heap.size 51 _ (0, 0) _ rfl hr1 Tryd.underlying51 rfl (by rw [List.size_toArray, HDl.out]; kernel_rfl)) rfl ⟨rfl, below_setRow hB (Nat.le_refl _) _⟩



theorem sec_any (t : Nat) (ht : t < 18446744073709551616) (w : World) : Calls Tryd.prog 13 #[.int .u64 (t : Int)] w fun e w' => e = .returned (.int .u32 ((t / 4294967296 : Nat) : Int)) ∧ w = w' := by
  have e1 : IntKind.u32.wrap ((t : Int) / 4294967296) = ((t / 4294967296 : Nat) : Int) := by rw [IntKind.wrap_u32]; omega
  have E1 := Lib.hid e1
  clear e1
  go_enter Tryd.func13, Tryd.ntmps13
  go_wp2
  go_ret
  first | exact ⟨rfl, rfl⟩ | (rw [← E1.out]; refine ⟨by congr 3; omega, rfl⟩)
theorem part_any (t : Nat) (ht : t < 18446744073709551616) (w : World) : Calls Tryd.prog 14 #[.int .u64 (t : Int)] w fun e w' => e = .returned (.int .u32 ((t % 4294967296 : Nat) : Int)) ∧ w = w' := by
  go_enter Tryd.func14, Tryd.ntmps14
  go_wp2
  go_ret
  refine ⟨?_, rfl⟩
  congr 2
theorem or_u64 (s p : Nat) (hs : s < 4294967296) (hp : p < 4294967296) : bits BinOp.or IntKind.u64 ((s : Int) * 4294967296) (p : Int) = ((s * 4294967296 + p : Nat) : Int) := by
  have := u64_or_nat (s * 4294967296) p (by omega) (by omega)
  rw [nat_join 32 _ _ (by omega) hp] at this
  rw [← this]
  simp
theorem make_any (s p : Nat) (hs : s < 4294967296) (hp : p < 4294967296) (w : World) : Calls Tryd.prog 12 #[.int .u32 (s : Int), .int .u32 (p : Int)] w fun e w' => e = .returned (.int .u64 ((s * 4294967296 + p : Nat) : Int)) ∧ w = w' := by
  have h := Lib.hid (or_u64 s p hs hp)
  go_enter Tryd.func12, Tryd.ntmps12
  go_wp2
  go_ret
  exact ⟨by rw [h.out]; rfl, rfl⟩

/-- stamp.secDigits -/
theorem secDigits_any (t : Nat) (ht : t < 18446744073709551616) (w : World) : Calls Tryd.prog 43 #[.int .u64 (t : Int)] w fun e w' => e = .returned (.agg (bs (ten (t / 4294967296))).toArray) ∧ Below w.heap.size w w' := by
  obtain ⟨s, hs⟩ : ∃ s, t / 4294967296 = s := ⟨_, rfl⟩
  have h2 := sec_any t ht
  rw [hs] at h2
  have hlt : s < 4294967296 := by omega
  rw [hs]
  clear hs
  obtain ⟨D, hD⟩ : ∃ D, bs (ten s) = D := ⟨_, rfl⟩
  have hDl : D.length = 10 := by rw [← hD, length_bs, ten, length_low]
  have hD1 : ∀ v ∈ D, v.oneCell' = true := by rw [← hD]; exact bs_one _
  have h3 := tens_any s (by omega)
  rw [hD] at h3 ⊢
  clear hD
  have HDl := Lib.hid hDl
  have HD1 := Lib.hid hD1
  have o0 : Bb (w.alloc (Yb 51 (List.replicate 10 0))) w.heap.size 51 (List.replicate 10 0) := alloc_bb w 51 _
  have b0 : Below w.heap.size w (w.alloc (Yb 51 (List.replicate 10 0))) := (Below.refl _ _).alloc (Nat.le_refl _) _
  clear hDl hD1
  go_enter Tryd.func43, Tryd.ntmps43
  go_wp2_with fail
  change Calls _ _ _ (w.alloc (Yb 51 (List.replicate 10 0))) _
  refine (h2 _).mono ?_
  rintro e w1 ⟨rfl, rfl⟩
  go_wp2_with fail
  refine (h3 _).mono ?_
  rintro e w1 ⟨rfl, b1⟩
  have o1 := o0.below b1 o0.lt
  have B1 := b0.trans (b1.mono b0.size)
  clear o0 b0 b1 h2 h3
  go_wp2_with (refine wpList_store_row rfl rfl 51 (.tmp 2) (.tmp 6) rfl w.heap.size rfl D rfl 51 _ o1 HD1.out (by rw [HDl.out]; simp [bs]) (by rw [HDl.out]; kernel_rfl) ?_)
  have hr1 := setRow_heap w1 w.heap.size _ D.toArray 51 (0, 0) o1
  exact bodyPost_ret (v := .agg D.toArray) (results_cell_row rfl _ _ w.heap.size 51 _ (0, 0) _ rfl hr1 Tryd.underlying51 rfl (by rw [List.size_toArray, HDl.out]; kernel_rfl)) rfl ⟨rfl, below_setRow B1 (Nat.le_refl _) _⟩
/-- stamp.partDigits -/
theorem partDigits_any (t : Nat) (ht : t < 18446744073709551616) (w : World) : Calls Tryd.prog 44 #[.int .u64 (t : Int)] w fun e w' => e = .returned (.agg (bs (ten (t % 4294967296 * 9765625 / 4194304))).toArray) ∧ Below w.heap.size w w' := by
  obtain ⟨s, hs⟩ : ∃ s, t % 4294967296 = s := ⟨_, rfl⟩
  have h2 := part_any t ht
  rw [hs] at h2
  have hlt : s < 4294967296 := by omega
  rw [hs]
  clear hs
  obtain ⟨D, hD⟩ : ∃ D, bs (ten (s * 9765625 / 4194304)) = D := ⟨_, rfl⟩
  have hDl : D.length = 10 := by rw [← hD, length_bs, ten, length_low]
  have hD1 : ∀ v ∈ D, v.oneCell' = true := by rw [← hD]; exact bs_one _
  have h3 := tens_any (s * 9765625 / 4194304) (by omega)
  rw [hD] at h3 ⊢
  have e3 : ((s * 9765625 / 4194304 : Nat) : Int) = (s : Int) * 9765625 / 4194304 := by omega
  rw [e3] at h3
  clear hD e3
  have HDl := Lib.hid hDl
  have HD1 := Lib.hid hD1
  have o0 : Bb (w.alloc (Yb 51 (List.replicate 10 0))) w.heap.size 51 (List.replicate 10 0) := alloc_bb w 51 _
  have b0 : Below w.heap.size w (w.alloc (Yb 51 (List.replicate 10 0))) := (Below.refl _ _).alloc (Nat.le_refl _) _
  clear hDl hD1
  go_enter Tryd.func44, Tryd.ntmps44
  go_wp2_with fail
  change Calls _ _ _ (w.alloc (Yb 51 (List.replicate 10 0))) _
  refine (h2 _).mono ?_
  rintro e w1 ⟨rfl, rfl⟩
  go_wp2_with fail
  refine (h3 _).mono ?_
  rintro e w1 ⟨rfl, b1⟩
  have o1 := o0.below b1 o0.lt
  have B1 := b0.trans (b1.mono b0.size)
  clear o0 b0 b1 h2 h3
  go_wp2_with (refine wpList_store_row rfl rfl 51 (.tmp 2) (.tmp 8) rfl w.heap.size rfl D rfl 51 _ o1 HD1.out (by rw [HDl.out]; simp [bs]) (by rw [HDl.out]; kernel_rfl) ?_)
  have hr1 := setRow_heap w1 w.heap.size _ D.toArray 51 (0, 0) o1
  exact bodyPost_ret (v := .agg D.toArray) (results_cell_row rfl _ _ w.heap.size 51 _ (0, 0) _ rfl hr1 Tryd.underlying51 rfl (by rw [List.size_toArray, HDl.out]; kernel_rfl)) rfl ⟨rfl, below_setRow B1 (Nat.le_refl _) _⟩
/-- stamp.leastPart -/
def least (n : Nat) : Nat := (n * 4194304 + 9765624) % 18446744073709551616 / 9765625 % 4294967296
theorem least_any (n : Nat) (hn : n < 18446744073709551616) (w : World) : Calls Tryd.prog 42 #[.int .u64 (n : Int)] w fun e w' => e = .returned (.int .u32 ((least n : Nat) : Int)) ∧ w = w' := by
  obtain ⟨m, hm⟩ : ∃ m : Nat, (n * 4194304 + 9765624) % 18446744073709551616 = m := ⟨_, rfl⟩
  have hm64 : m < 18446744073709551616 := by omega
  have e1 : IntKind.u64.wrap (IntKind.u64.wrap (IntKind.u64.wrap ((n : Int) * 4194304) + 9765625) - 1) = (m : Int) := by
    simp only [IntKind.wrap_u64]; omega
  have e2 : Hid ((m : Int) / 9765625 % 4294967296 = ((least n : Nat) : Int)) := Lib.hid (by unfold least; rw [hm]; omega)
  clear hm
  go_enter Tryd.func42, Tryd.ntmps42
  go_wp2
  rw [e2.out]
  go_ret
  exact ⟨rfl, rfl⟩

/-- the number that ten bytes make, as stamp.number reckons it -/
@[irreducible] def nstep (n d : Nat) : Nat := (n * 10 + d + 18446744073709551568) % 18446744073709551616
def num (xs : List Nat) : Nat := xs.foldl nstep 0
theorem num_take (xs : List Nat) (k : Nat) (hk : k < xs.length) : num (xs.take (k + 1)) = nstep (num (xs.take k)) (xs.getD k 0) := by
  unfold num
  rw [List.take_succ_eq_append_getElem hk, List.foldl_append, List.foldl_cons, List.foldl_nil]
  have e : xs.getD k 0 = xs[k] := by simp [List.getD, List.getElem?_eq_getElem hk]
  rw [e]
theorem nstep_lt (n d : Nat) : nstep n d < 18446744073709551616 := by unfold nstep; omega
theorem fold_lt (ys : List Nat) : ∀ m : Nat, m < 18446744073709551616 → ys.foldl nstep m < 18446744073709551616 := by
  induction ys with
  | nil => intro m h; rw [List.foldl_nil]; exact h
  | cons y ys ih => intro m h; rw [List.foldl_cons]; exact ih _ (nstep_lt m y)
theorem num_lt (xs : List Nat) (k : Nat) : num (xs.take k) < 18446744073709551616 := by
  unfold num
  exact fold_lt _ 0 (by omega)
theorem idx_ten (xs : List Nat) (hx : xs.length = 10) (k : Nat) (hk : k < 10) (W : World) : (Instr.index 51 (.agg (bs xs).toArray) (.int .i64 (k : Int))).run Tryd.prog W = .ok (.int .u8 ((xs.getD k 0 : Nat) : Int)) W := by
  match xs, hx with
  | [x0, x1, x2, x3, x4, x5, x6, x7, x8, x9], _ =>
    have hh : k = 0 ∨ k = 1 ∨ k = 2 ∨ k = 3 ∨ k = 4 ∨ k = 5 ∨ k = 6 ∨ k = 7 ∨ k = 8 ∨ k = 9 := by omega
    rcases hh with rfl | rfl | rfl | rfl | rfl | rfl | rfl | rfl | rfl | rfl <;> rfl
/-- stamp.number -/
theorem number_any (xs : List Nat) (hx : xs.length = 10) (hL : Lim 256 xs) (w : World) : Calls Tryd.prog 41 #[.agg (bs xs).toArray] w fun e w' => e = .returned (.int .u64 ((num xs : Nat) : Int)) ∧ Below w.heap.size w w' := by
  have HI := Lib.hid (idx_ten xs hx)
  have HX := Lib.hid hx
  have HL := Lib.hid hL
  obtain ⟨V, hV⟩ : ∃ V, bs xs = V := ⟨_, rfl⟩
  have hVl : V.length = 10 := by rw [← hV, length_bs, hx]
  have HVl := Lib.hid hVl
  rw [hV] at HI ⊢
  clear hx hL hV hVl
  obtain ⟨w0, hw0⟩ : ∃ w0, w0 = w.alloc (.cells V.toArray 51) := ⟨_, rfl⟩
  have b0 : Below w.heap.size w w0 := by rw [hw0]; exact (Below.refl _ _).alloc (Nat.le_refl _) _
  have x0 : w0.heap[w.heap.size]? = some (.cells V.toArray 51 (0, 0)) := by rw [hw0]; exact heap_alloc_new w _
  have HW := Lib.hid hw0
  clear hw0
  go_enter Tryd.func41, Tryd.ntmps41
  go_wp2_with (change wpList _ _ _ _ _ (w.alloc (.cells V.toArray 51)); rw [← HW.out]; refine wpList_load_row rfl 51 (.tmp 1) rfl w.heap.size rfl 51 V.toArray (0, 0) _ x0 Tryd.underlying51 rfl (by rw [List.size_toArray, HVl.out]; kernel_rfl) ?_)
  clear HW x0
  go_loopw [7, 3] (fun i m wr => ∃ k : Nat, k ≤ 10 ∧ i = .int .i64 k ∧ m = .int .u64 ((num (xs.take k) : Nat) : Int) ∧ Below w.heap.size w wr) (fun i _ _ => 10 - (intOf i).toNat)
  case atStart => exact ⟨0, by omega, rfl, rfl, b0⟩
  case round =>
    clear b0
    obtain ⟨k, hk, rfl, rfl, hB⟩ := hrel
    by_cases hlt : k < 10
    · have hI := HI.out k hlt
      have Hs := Lib.hid (num_take xs k (by rw [HX.out]; exact hlt))
      have hm := num_lt xs k
      have hd := HL.out.get (by omega) k
      generalize num (xs.take k) = m at *
      generalize xs.getD k 0 = d at *
      go_wp2
      go_roundw
      case rel =>
        refine ⟨k + 1, by omega, by go_num, ?_, hB⟩
        rw [Hs.out]
        unfold nstep
        congr 1
        simp only [IntKind.wrap_u64]
        omega
      case measure => simp [intOf]; omega
    · have hge : 10 ≤ k := by omega
      have hx : xs.take k = xs := List.take_of_length_le (by rw [HX.out]; omega)
      rw [hx]
      clear hlt hx
      go_wp2
      go_ret
      exact ⟨rfl, hB⟩
end Go.Proofs.YtddjgjaifflpeaaDoor
