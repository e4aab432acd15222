/- der.IntOf of a right number. der.Nat. der.NatOf of a right number that is not below 0; the reference's Same. -/
import Derived.Test.YtddpgckbdccldaaDb
import Derived.Test.YtddpgckbdccldaaRead
namespace Go.Proofs.Ytddpgckbdccldaa
open Go.RowKit
set_option linter.unusedVariables false
set_option linter.unusedSimpArgs false
set_option maxRecDepth 100000
/-- the sign that some bytes have -/
def sgb (xs : List Nat) : Int := if 128 ≤ xs.headD 0 then -1 else 0
/-- the number with a sign that some bytes tell, from s on -/
def svf (s : Int) (xs : List Nat) : Int := xs.foldl (fun a (b : Nat) => wrap64 (a * 256 + (b : Int))) s
def sval (xs : List Nat) : Int := svf (sgb xs) xs
theorem svf_snoc (s : Int) (xs : List Nat) (x : Nat) : svf s (xs ++ [x]) = wrap64 (svf s xs * 256 + (x : Int)) := by
  unfold svf; rw [List.foldl_append]; rfl
theorem svf_take {xs : List Nat} {j x : Nat} (hx : xs[j]? = some x) (s : Int) : svf s (xs.take (j + 1)) = wrap64 (svf s (xs.take j) * 256 + (x : Int)) := by
  rw [List.take_add_one, hx]; exact svf_snoc _ _ _
def usv (s : Int) (xs : List Nat) : Int := xs.foldl (fun a (b : Nat) => a * 256 + (b : Int)) s
theorem svf_usv : ∀ (xs : List Nat) (s : Int), svf (wrap64 s) xs = wrap64 (usv s xs)
  | [], s => rfl
  | x :: xs, s => by
    show svf (wrap64 (wrap64 s * 256 + (x : Int))) xs = wrap64 (usv (s * 256 + (x : Int)) xs)
    rw [show wrap64 (wrap64 s * 256 + (x : Int)) = wrap64 (s * 256 + (x : Int)) by unfold wrap64; omega]
    exact svf_usv xs _
theorem usv_bts (v : Nat) : ∀ (m : Nat) (s : Int), usv s (bts v m) = s * 256 ^ m + ((v % 256 ^ m : Nat) : Int)
  | 0, s => by simp [usv, bts, Nat.mod_one]
  | m + 1, s => by
    show usv (s * 256 + ((v / 256 ^ m % 256 : Nat) : Int)) (bts v m) = _
    rw [usv_bts v m]
    have e : v % 256 ^ (m + 1) = v / 256 ^ m % 256 * 256 ^ m + v % 256 ^ m := by
      rw [Nat.pow_succ, Nat.mod_mul, Nat.add_comm, Nat.mul_comm]
    rw [e, Int.pow_succ]
    push_cast
    rw [Int.add_mul, Int.mul_assoc, Int.mul_comm 256 (256 ^ m), Int.add_assoc]
theorem sval_int {a : Int} (h0 : -9223372036854775808 ≤ a) (h1 : a ≤ 9223372036854775807) : sval (bts (wd a) (nby a)) = a := by
  have hw : ((wd a : Nat) : Int) = a % 18446744073709551616 := by unfold wd; omega
  obtain ⟨f1, f2⟩ := nby_fits h0 h1
  obtain ⟨b0, b1⟩ := nby_le h0 h1
  have hb : bare a = if a < 0 then -a - 1 else a := rfl
  unfold sval
  have hs : sgb (bts (wd a) (nby a)) = wrap64 (sgb (bts (wd a) (nby a))) := by unfold sgb wrap64; split <;> omega
  rw [hs, svf_usv, usv_bts]
  clear hs
  generalize bare a = x at *
  generalize wd a = v at *
  generalize nby a = m at *
  clear f2
  obtain ⟨s, hse, hs⟩ : ∃ s, sgb (bts v m) = s ∧ ((128 ≤ (bts v m).headD 0 ∧ s = -1) ∨ ((bts v m).headD 0 < 128 ∧ s = 0)) := ⟨_, rfl, by unfold sgb; split <;> omega⟩
  rw [hse]
  clear hse
  have : m = 1 ∨ m = 2 ∨ m = 3 ∨ m = 4 ∨ m = 5 ∨ m = 6 ∨ m = 7 ∨ m = 8 := by omega
  rcases this with rfl | rfl | rfl | rfl | rfl | rfl | rfl | rfl
  all_goals
    simp only [bts, sgb, List.headD_cons, Nat.reduceMul, Nat.reduceSub, Nat.reduceAdd, Nat.reducePow, Int.reducePow] at *
    unfold wrap64
    split at hb
    all_goals (rcases hs with ⟨hs, rfl⟩ | ⟨hs, rfl⟩ <;> omega)
theorem or_byte (q : Int) (b : Nat) (hb : b < 256) : bits .or .i64 (wrap64 (q * 256)) (b : Int) = wrap64 (q * 256 + (b : Int)) := by
  show IntKind.i64.wrap ((BitVec.ofInt 64 (wrap64 (q * 256)) ||| BitVec.ofInt 64 (b : Int)).toNat : Int) = _
  rw [BitVec.toNat_or, ofInt64, ofInt64, IntKind.wrap_i64]
  have e1 : ((b : Int) % 18446744073709551616).toNat = b := by omega
  obtain ⟨k, hk⟩ : ∃ k, (wrap64 (q * 256) % 18446744073709551616).toNat = 2 ^ 8 * k := ⟨(wrap64 (q * 256) % 18446744073709551616).toNat / 256, by unfold wrap64; omega⟩
  rw [e1, hk, ← Nat.two_pow_add_eq_or_of_lt (by omega) k]
  unfold wrap64 at *
  omega
theorem Nb.head {w : World} {B : Nat} {A : Option Addr} {n c : Nat} {xs : List Nat} (h : Nb w B A n c xs) (h0 : 0 < n) : ∃ b off, A = some ⟨b, off, none⟩ ∧ w.cell? ⟨b, off, none⟩ = some (.int .u8 ((xs.headD 0 : Nat) : Int)) := by
  obtain ⟨b, off, e, _, hc⟩ := h.at_ h0
  refine ⟨b, off, e, ?_⟩
  rw [Nat.add_zero] at hc
  rw [hc]
  cases xs <;> rfl
set_option maxHeartbeats 2000000 in
theorem intOf_ok {w : World} {A : Option Addr} {n c : Nat} {xs : List Nat} (h : Nb w w.heap.size A n c xs) (hn0 : 0 < n) (hn : n ≤ 8) (ht : shrt xs = true) : Calls Try.prog 19 #[leaf 2 A n c] w fun e w' => e = .returned (.tuple #[.int .i64 (sval xs), .int .i64 0]) ∧ Below w.heap.size w w' := by
  have hb : Below w.heap.size w (w.alloc (.cells #[.int .i64 2, .slice A n c, .slice none 0 0] 25)) := (Below.refl _ _).alloc (Nat.le_refl _) _
  have H2 := Lib.hid (fun W (b : Below w.heap.size w W) => h.up b)
  have HL := Lib.hid h.len
  have HM := Lib.hid h.lim
  have HB := Lib.hid hb
  have HR := Lib.hid (fun W (b : Below w.heap.size w W) => right_int (h.up b) (by omega))
  have HT := Lib.hid ht
  have HX := Lib.hid (Bx.new w 25 (.int .i64 2) (.slice A n c) (.slice none 0 0))
  have HZ := Lib.hid (show (w.alloc (.cells #[.int .i64 2, .slice A n c, .slice none 0 0] 25)).heap.size = w.heap.size + 1 by simp)
  obtain ⟨s, HS⟩ : ∃ s, Hid (sgb xs = s) := ⟨_, Lib.hid rfl⟩
  clear h hb ht
  unfold leaf at *
  go_enter Try.func19, Try.ntmps19
  go_wp2_with fail
  refine (HR.out _ HB.out).mono ?_
  rw [HT.out]
  rintro e w1 ⟨rfl, b1⟩
  have HB1 := Lib.hid (bthen HB.out b1)
  obtain ⟨c0, c1, c2, f0, f1, f2⟩ := (HX.out.keep b1 (by rw [HZ.out]; omega)).cells
  clear b1 f0 f1 f2
  have H3 := Lib.hid (H2.out w1 HB1.out)
  obtain ⟨g, off, rfl, q0⟩ := H3.out.head hn0
  have hd : ((8 : Int) < (n : Int)) = False := by simp only [eq_iff_iff, iff_false]; omega
  have key : ∀ s, sgb xs = s → (128 ≤ ((xs.headD 0 : Nat) : Int) ∧ s = -1) ∨ ((128 ≤ ((xs.headD 0 : Nat) : Int)) = False ∧ s = 0) := by
    intro s hs
    unfold sgb at hs
    split at hs
    · left; exact ⟨by omega, hs.symm⟩
    · right; exact ⟨by simp only [eq_iff_iff, iff_false]; omega, hs.symm⟩
  have key := key s HS.out
  generalize xs.headD 0 = x0 at *
  have HK := Lib.hid key
  clear key
  rcases HK.out with ⟨k1, rfl⟩ | ⟨k1, rfl⟩
  all_goals
    clear HK
    go_wp2_with fail
    go_loopw [4, 27] (fun a i wr => ∃ (j : Nat) (z : Int), j ≤ n ∧ i = .int .i64 (j : Int) ∧ a = .int .i64 z ∧ Hid (svf (sgb xs) (xs.take j) = z) ∧ wr = w1) (fun _ i _ => n - (intOf i).toNat)
    case atStart => exact ⟨0, _, Nat.zero_le _, rfl, rfl, Lib.hid (by rw [HS.out]; rfl), rfl⟩
    case round =>
      obtain ⟨j, z, hjn, rfl, rfl, hz, rfl⟩ := hrel
      by_cases hj : j < n
      · have e1 : (j : Int) < (n : Int) := by omega
        obtain ⟨b, off', hA, hb, hc⟩ := H3.out.at_ hj
        cases hA
        have hx2 : xs[j]? = some (xs.getD j 0) := by
          have := HL.out
          rw [List.getD_eq_getElem?_getD, List.getElem?_eq_getElem (by omega)]; rfl
        have hx3 := HM.out _ (List.mem_of_getElem? hx2)
        generalize xs.getD j 0 = x at *
        have s0 : wrap64 ((j : Int) + 1) = ((j + 1 : Nat) : Int) := by unfold wrap64; omega
        have HV := Lib.hid (svf_take hx2 (sgb xs))
        rw [hz.out] at HV
        have ho := or_byte z x hx3
        generalize wrap64 (z * 256 + (x : Int)) = z2 at *
        have HJ := Lib.hid hj
        clear hx2 hb hj
        go_wp2_with fail
        exact ⟨⟨j + 1, z2, HJ.out, by go_num, rfl, HV, trivial⟩, by show n - ((j : Int) + 1).toNat < n - (j : Int).toNat; have := HJ.out; omega⟩
      · have e1' : ((j : Int) < (n : Int)) = False := by simp only [eq_iff_iff, iff_false]; omega
        have HF := Lib.hid (show sval xs = z by have := hz.out; rwa [List.take_of_length_le (by have := HL.out; omega)] at this)
        clear hj
        go_wp2_with fail
        go_ret2
        exact ⟨by rw [HF.out]; rfl, HB1.out⟩
end Go.Proofs.Ytddpgckbdccldaa
namespace Go.Proofs.Ytddpgckbdccldaa
open Go.RowKit
set_option linter.unusedVariables false
set_option linter.unusedSimpArgs false
set_option maxRecDepth 100000
/-- how many bytes a natural number takes as a number with a sign -/
def ny (v : Nat) : Nat := bl v / 8 + 1
theorem bl_up (v : Nat) : v < 2 ^ bl v := by
  unfold bl
  split
  · subst_vars; simp
  · exact Nat.lt_log2_self
theorem bl_low {v : Nat} (h : v ≠ 0) : 1 ≤ bl v ∧ 2 ^ (bl v - 1) ≤ v := by
  unfold bl
  rw [if_neg h]
  exact ⟨by omega, by simpa using Nat.log2_self_le h⟩
theorem bl_le {v k : Nat} (h : v < 2 ^ k) : bl v ≤ k := by
  by_cases h0 : v = 0
  · subst h0; simp [bl]
  · obtain ⟨h1, h2⟩ := bl_low h0
    rcases Nat.lt_or_ge k (bl v) with h3 | h3
    · have : 2 ^ k ≤ 2 ^ (bl v - 1) := Nat.pow_le_pow_right (by omega) (by omega)
      omega
    · exact h3
theorem ny_le {xs : List Nat} (h : Lim 18446744073709551616 xs) : ny (val 18446744073709551616 xs) ≤ 8 * xs.length + 1 := by
  have := val_lt h
  have e : (18446744073709551616 : Nat) ^ xs.length = 2 ^ (64 * xs.length) := by rw [Nat.pow_mul]
  rw [e] at this
  have := bl_le this
  unfold ny
  omega
theorem shrt_nat (v : Nat) : shrt (bts v (ny v)) = true := by
  have hu := bl_up v
  have hl := bl_low (v := v)
  have h0 : v = 0 → bl v = 0 := fun h => by subst h; rfl
  unfold ny
  generalize bl v = d at *
  obtain ⟨i, hi⟩ : ∃ i, d / 8 + 1 = i + 1 := ⟨d / 8, rfl⟩
  rw [hi]
  cases i with
  | zero => rfl
  | succ i =>
    have hv : v ≠ 0 := by
      intro h
      have := h0 h
      omega
    obtain ⟨h1, h2⟩ := hl hv
    show shrt ((v / 256 ^ (i + 1) % 256) :: (v / 256 ^ i % 256) :: bts v i) = true
    have p1 : v < 2 ^ (8 * (i + 2) - 1) := Nat.lt_of_lt_of_le hu (Nat.pow_le_pow_right (by omega) (by omega))
    have p2 : 2 ^ (8 * (i + 1) - 1) ≤ v := Nat.le_trans (Nat.pow_le_pow_right (by omega) (by omega)) h2
    have e1 : 2 ^ (8 * (i + 2) - 1) = 32768 * 256 ^ i := by
      rw [show 8 * (i + 2) - 1 = 15 + 8 * i by omega, Nat.pow_add, Nat.pow_mul]
    have e2 : 2 ^ (8 * (i + 1) - 1) = 128 * 256 ^ i := by
      rw [show 8 * (i + 1) - 1 = 7 + 8 * i by omega, Nat.pow_add, Nat.pow_mul]
    rw [e1] at p1
    rw [e2] at p2
    have hp : 0 < 256 ^ i := Nat.pow_pos (by omega)
    have e3 : v / 256 ^ (i + 1) = v / 256 ^ i / 256 := by rw [Nat.pow_succ, Nat.div_div_eq_div_mul]
    rw [e3]
    have q1 : v / 256 ^ i < 32768 := (Nat.div_lt_iff_lt_mul hp).2 p1
    have q2 : 128 ≤ v / 256 ^ i := (Nat.le_div_iff_mul_le hp).2 p2
    generalize v / 256 ^ i = u at *
    simp only [shrt]
    split
    · simp only [decide_eq_true_eq]; omega
    · split
      · omega
      · rfl
theorem val_bts_mod (v : Nat) : ∀ n, val 256 (bts v n).reverse = v % 256 ^ n
  | 0 => by simp [bts, val, Nat.mod_one]
  | n + 1 => by
    simp only [bts, List.reverse_cons]
    rw [val_snoc, val_bts_mod v n, List.length_reverse, length_bts, Nat.pow_succ, Nat.mod_mul]
theorem ny_room (v : Nat) : v < 128 * 256 ^ (bl v / 8) := by
  have := Nat.lt_of_lt_of_le (bl_up v) (Nat.pow_le_pow_right (show 0 < 2 by omega) (show bl v ≤ 7 + 8 * (bl v / 8) by omega))
  rwa [Nat.pow_add, Nat.pow_mul] at this
theorem val_ny (v : Nat) : val 256 (bts v (ny v)).reverse = v := by
  rw [val_bts_mod]
  apply Nat.mod_eq_of_lt
  have := ny_room v
  unfold ny
  rw [Nat.pow_succ]
  omega
theorem head_ny (v : Nat) : (bts v (ny v)).headD 0 < 128 := by
  show v / 256 ^ (bl v / 8) % 256 < 128
  have h : v / 256 ^ (bl v / 8) < 128 := (Nat.div_lt_iff_lt_mul (Nat.pow_pos (by omega))).2 (ny_room v)
  generalize v / 256 ^ (bl v / 8) = u at *
  omega
/-- what Nat hands back -/
def NatN (v : Nat) (w : World) (e : Ending) (w' : World) : Prop := ∃ g, e = .returned (leaf 2 (some ⟨g, 0, none⟩) (ny v) (ny v)) ∧ Nb w' w'.heap.size (some ⟨g, 0, none⟩) (ny v) (ny v) (bts v (ny v)) ∧ Below w.heap.size w w'
set_option maxHeartbeats 2000000 in
theorem nat_any {w : World} {A : Option Addr} {n c : Nat} {xs : List Nat} (h : Nt w w.heap.size A n c xs) (hn : n ≤ 1000000) : Calls Try.prog 23 #[.slice A n c] w (NatN (val 18446744073709551616 xs) w) := by
  have hb1 : Below w.heap.size w (w.alloc (.cells #[.int .i64 0, .slice none 0 0, .slice none 0 0] 25)) := (Below.refl _ _).alloc (Nat.le_refl _) _
  have hz : (w.alloc (.cells #[.int .i64 0, .slice none 0 0, .slice none 0 0] 25)).heap.size = w.heap.size + 1 := by simp
  have hX := Bx.new w 25 (.int .i64 0) (.slice none 0 0) (.slice none 0 0)
  have h1 := h.bel hb1 (Nat.le_refl _)
  have hB := Lib.hid (bits_any h1 (by omega))
  have hle := ny_le h.lim
  rw [h.len] at hle
  obtain ⟨v, hv⟩ : ∃ v, Hid (val 18446744073709551616 xs = v) := ⟨_, Lib.hid rfl⟩
  rw [hv.out] at hle hB ⊢
  obtain ⟨k, hk⟩ : ∃ k, Hid (ny v = k) := ⟨_, Lib.hid rfl⟩
  have hq : ((bl v : Nat) : Int) / 8 + 1 = ((ny v : Nat) : Int) := by unfold ny; omega
  rw [hk.out] at hq hle
  have hk1 : 1 ≤ k := by rw [← hk.out]; unfold ny; omega
  generalize bl v = d at *
  go_enter Try.func23, Try.ntmps23
  go_wp2_with fail
  refine (hB.out).mono ?_
  rintro e w' ⟨rfl, hw'⟩
  obtain ⟨W, hW⟩ : ∃ W, Hid (w.alloc (.cells #[.int .i64 0, .slice none 0 0, .slice none 0 0] 25) = W) := ⟨_, Lib.hid rfl⟩
  rw [hW.out] at hw' hb1 hz hX h1
  subst hw'
  have HZ := Lib.hid hz
  clear hz
  obtain ⟨M, hM, hM1, hM2, hM3⟩ : ∃ M : Nat, min (k : Int) (8 * (n : Int)) = (M : Int) ∧ M ≤ k ∧ M ≤ 8 * n ∧ (M = k ∨ (M = 8 * n ∧ k = 8 * n + 1)) := by
    rcases Nat.lt_or_ge (8 * n) k with h | h
    · exact ⟨8 * n, by omega, by omega, Nat.le_refl _, Or.inr ⟨rfl, by omega⟩⟩
    · exact ⟨k, by omega, Nat.le_refl _, h, Or.inl rfl⟩
  have HM := Lib.hid hM3
  clear hM3
  go_wp2_with (refine wpList_make_ub _ rfl _ _ rfl _ _ k rfl rfl rfl rfl (by omega) ?_; intro w1 hw1 hg1)
  clear hM
  go_loopw [17] (fun i wr => ∃ j : Nat, j ≤ M ∧ i = .int .i64 (j : Int) ∧ Ob wr W.heap.size (List.replicate (k - j) 0 ++ bts v j) ∧ Below W.heap.size W wr) (fun i _ => M - (intOf i).toNat)
  case atStart => exact ⟨0, Nat.zero_le _, rfl, by simpa [bts] using hw1, below_none hg1 (Nat.le_refl _)⟩
  case round =>
    obtain ⟨j, hj, rfl, how, hbel⟩ := hrel
    by_cases hlt : j < M
    · obtain ⟨t, ht⟩ : ∃ t, k = t + 1 + j := ⟨k - 1 - j, by omega⟩
      have ei : (k : Int) - 1 - (j : Int) = (t : Int) := by omega
      have Ht := Lib.hid ht
      have htm : t < k := by omega
      have hc1 : wr.cell? ⟨W.heap.size, t, none⟩ = some (.int .u8 ((0 : Nat) : Int)) := how.cell (by
        rw [ht, show t + 1 + j - j = t + 1 by omega, List.replicate_succ', List.append_assoc]; simp)
      have hf1 := how.frozen t
      have hbr := h1.below hbel
      obtain ⟨b, off, hA, hbb, hx⟩ := hbr.at_ (show j / 8 < n by omega)
      have hby := byte_of h.lim j
      rw [hv.out] at hby
      generalize hxe : xs.getD (j / 8) 0 = x at *
      have hp : 8 * ((j : Int) % 8) = ((j % 8 * 8 : Nat) : Int) := by omega
      have hjn : j / 8 < n := by omega
      have hdv : (j : Int) / 8 = ((j / 8 : Nat) : Int) := by omega
      generalize j / 8 = q at *
      generalize hpe : j % 8 * 8 = p at *
      have Hby := Lib.hid hby
      have hp8 : p ≤ 56 := by omega
      have HJ := Lib.hid hlt
      have HA := Lib.hid hA
      rw [hA]
      clear ht hxe hby hpe hA
      go_wp2_with fail
      go_roundw
      case rel =>
        obtain ⟨j', _, e, hh⟩ := low_round (z := (x : Int) / 2 ^ p % 256) Ht.out how hbel (by rw [Hby.out]; simp)
        refine ⟨j', ?_, e, hh⟩
        have := HJ.out
        have e2 : (j : Int) + 1 = (j' : Int) := by injection e
        omega
      case measure => simp [intOf]; have := HJ.out; omega
    · have e1' : ((j : Int) < (M : Int)) = False := by simp only [eq_iff_iff, iff_false]; omega
      have how' : Ob wr W.heap.size (bts v k) := by
        obtain rfl : j = M := by omega
        rcases HM.out with rfl | ⟨e1, e2⟩
        · simpa using how
        · rw [e2, show 8 * n + 1 - j = 1 by omega] at how
          rw [e2]
          have hz : v / 256 ^ j % 256 = 0 := by
            have := val_lt h.lim
            rw [h.len, hv.out] at this
            have e3 : (18446744073709551616 : Nat) ^ n = 256 ^ j := by rw [show (18446744073709551616 : Nat) = 256 ^ 8 by rfl, ← Nat.pow_mul, e1]
            rw [Nat.div_eq_of_lt (by omega)]
          rw [← e1]
          show Ob wr W.heap.size ((v / 256 ^ j % 256) :: bts v j)
          rw [hz]
          exact how
      have hg : Bx wr w.heap.size 25 (.int .i64 0) (.slice none 0 0) (.slice none 0 0) := hX.keep hbel (by rw [HZ.out]; omega)
      obtain ⟨c0, c1, c2, f0, f1, f2⟩ := hg.cells
      have hnb := how'.nb (n := k) (length_bts _ _) (by unfold maxLen; omega) (bts_lim _ _)
      have hne : W.heap.size ≠ w.heap.size := by rw [HZ.out]; omega
      have HN := Lib.hid (hnb.away3 (g := w.heap.size) hne (.int .i64 2) (.slice (some ⟨W.heap.size, 0, none⟩) k k) (.slice none 0 0))
      have HZ := Lib.hid (size_set3 (w := wr) (g := w.heap.size) (.int .i64 2) (.slice (some ⟨W.heap.size, 0, none⟩) k k) (.slice none 0 0))
      have HB := Lib.hid (below_set3 (bthen hb1 hbel) (Nat.le_refl _) (.int .i64 2) (.slice (some ⟨W.heap.size, 0, none⟩) k k) (.slice none 0 0))
      have HG := Lib.hid (hg.set (.int .i64 2) (.slice (some ⟨W.heap.size, 0, none⟩) k k) (.slice none 0 0))
      clear hg hnb how' how hne hlt
      go_wp2_with fail
      refine bodyPost_ret (results_cell_row rfl _ _ w.heap.size 25 _ (0, 0) _ rfl HG.out Try.underlying25 rfl (by kernel_rfl)) rfl ?_
      exact ⟨_, by rw [hk.out]; rfl, by rw [HZ.out, hk.out]; exact HN.out, HB.out⟩
end Go.Proofs.Ytddpgckbdccldaa
namespace Go.Proofs.Ytddpgckbdccldaa
open Go.RowKit
set_option linter.unusedVariables false
set_option linter.unusedSimpArgs false
set_option maxRecDepth 100000
/-- what NatOf hands back -/
def NatR (v : Nat) (w : World) (e : Ending) (w' : World) : Prop := ∃ A n c xs, e = .returned (.tuple #[.slice A n c, .int .i64 0]) ∧ Nt w' w'.heap.size A n c xs ∧ Trm xs ∧ val 18446744073709551616 xs = v ∧ Below w.heap.size w w'
set_option maxHeartbeats 2000000 in
theorem natOf_ok {w : World} {A : Option Addr} {n c : Nat} {xs : List Nat} (h : Nb w w.heap.size A n c xs) (hn0 : 0 < n) (hn : n ≤ 1099511627776) (ht : shrt xs = true) (hh : xs.headD 0 < 128) : Calls Try.prog 25 #[leaf 2 A n c] w (NatR (val 256 xs.reverse) w) := by
  have hb : Below w.heap.size w (w.alloc (.cells #[.int .i64 2, .slice A n c, .slice none 0 0] 25)) := (Below.refl _ _).alloc (Nat.le_refl _) _
  have H2 := Lib.hid (fun W (b : Below w.heap.size w W) => h.up b)
  have HB := Lib.hid hb
  have HR := Lib.hid (fun W (b : Below w.heap.size w W) => right_int (h.up b) (by omega))
  have HT := Lib.hid ht
  have HX := Lib.hid (Bx.new w 25 (.int .i64 2) (.slice A n c) (.slice none 0 0))
  have HZ := Lib.hid (show (w.alloc (.cells #[.int .i64 2, .slice A n c, .slice none 0 0] 25)).heap.size = w.heap.size + 1 by simp)
  clear h hb ht
  unfold leaf at *
  go_enter Try.func25, Try.ntmps25
  go_wp2_with fail
  refine (HR.out _ HB.out).mono ?_
  rw [HT.out]
  rintro e w1 ⟨rfl, b1⟩
  have HB1 := Lib.hid (bthen HB.out b1)
  obtain ⟨c0, c1, c2, f0, f1, f2⟩ := (HX.out.keep b1 (by rw [HZ.out]; omega)).cells
  clear b1 f0 f1 f2
  have H3 := Lib.hid (H2.out w1 HB1.out)
  have HD := Lib.hid (read_any H3.out (by omega))
  obtain ⟨g, off, rfl, q0⟩ := H3.out.head hn0
  have k1 : ((128 : Int) ≤ ((xs.headD 0 : Nat) : Int)) = False := by simp only [eq_iff_iff, iff_false]; omega
  generalize xs.headD 0 = x0 at *
  clear hh
  go_wp2_with fail
  refine (HD.out).mono ?_
  rintro e w2 ⟨A2, n2, c2', ys, rfl, hr⟩
  have HR2 := Lib.hid hr
  clear hr
  go_wp2_with fail
  go_ret2
  exact ⟨_, _, _, _, rfl, HR2.out.nt, HR2.out.trm, HR2.out.is, bthen HB1.out HR2.out.bel⟩
set_option maxHeartbeats 1000000 in
theorem nsame_yes {w : World} {B : Nat} {A A2 : Option Addr} {n c n2 c2 : Nat} {xs ys : List Nat} (h : Nt w B A n c xs) (h2 : Nt w B A2 n2 c2 ys) (he : xs = ys) :
    Calls Try.prog 29 #[.slice A n c, .slice A2 n2 c2] w fun e w' => e = .returned (.bool true) ∧ ∃ d, w' = w.drewN d := by
  subst he
  obtain rfl : n = n2 := h.len.symm.trans h2.len
  have hr := h.rooms
  go_enter Try.func29, Try.ntmps29
  go_wp2
  go_loopw [5] (fun i wr => ∃ k d : Nat, k ≤ n ∧ i = .int .i64 k ∧ Hid (wr = w.drewN d)) (fun i _ => n - (intOf i).toNat)
  case atStart => exact ⟨0, 0, Nat.zero_le _, rfl, rfl⟩
  case round =>
    obtain ⟨k, d, hk, rfl, hW⟩ := hrel
    have hNr : Nt wr B A n c xs := by rw [hW.out]; exact h.drewN d
    have hNr2 : Nt wr B A2 n c2 xs := by rw [hW.out]; exact h2.drewN d
    by_cases hlt : k < n
    · obtain ⟨b, off, rfl, hb, hx⟩ := hNr.at_ hlt
      obtain ⟨b2, off2, rfl, hb2, hy⟩ := hNr2.at_ hlt
      generalize xs.getD k 0 = x at *
      have ht : ((x : Int) != (x : Int)) = false := by simp
      have s1 : (0 : Int) ≤ (k : Int) := by omega
      have s2 : (k : Int) < (n : Int) := by omega
      go_wp2
      go_quiet (fail)
      go_wp2
      go_roundw
      case rel => exact ⟨k + 1, d + nq, by omega, by go_num, by show _ = _; rw [hW.out, World.drewN_drewN]⟩
      case measure => simp [intOf]; omega
    · go_wp2
      go_ret
      exact ⟨rfl, d, hW.out⟩
end Go.Proofs.Ytddpgckbdccldaa
