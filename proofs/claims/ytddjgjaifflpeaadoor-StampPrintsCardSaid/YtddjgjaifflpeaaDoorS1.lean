/- Times and texts: digits one by one, and texts in their order. No program. -/
import Derived.Test.YtddjgjaifflpeaaDoorBack
namespace Go.Proofs.YtddjgjaifflpeaaDoor
open Go.RowKit
set_option linter.unusedVariables false
set_option maxRecDepth 100000
/-- a number's decimal digits -/
def dec (n : Nat) : List Nat := if h : n < 10 then [48 + n] else dec (n / 10) ++ [48 + n % 10]
termination_by n
decreasing_by omega
theorem dec_small {n : Nat} (h : n < 10) : dec n = [48 + n] := by rw [dec, dif_pos h]
theorem dec_great {n : Nat} (h : ¬ n < 10) : dec n = dec (n / 10) ++ [48 + n % 10] := by rw [dec, dif_neg h]
theorem dec_ne (n : Nat) : dec n ≠ [] := by
  by_cases h : n < 10
  · rw [dec_small h]; simp
  · rw [dec_great h]; simp
theorem low_snoc (n k : Nat) : low n (k + 1) = low (n / 10) k ++ [48 + n % 10] := by
  induction k with
  | zero => simp [low]
  | succ k ih =>
    rw [low, ih]
    conv => rhs; rw [low]
    rw [Nat.div_div_eq_div_mul, Nat.mul_comm 10, ← Nat.pow_succ]
    rfl
theorem trim_append (xs : List Nat) (y : Nat) : trim (xs ++ [y]) = if trim xs = [] then trim [y] else trim xs ++ [y] := by
  induction xs with
  | nil => simp [trim]
  | cons x xs ih =>
    by_cases h : x = 48
    · rw [List.cons_append, trim_cons _ _ h, trim_cons _ _ h, ih]
    · rw [List.cons_append, trim, if_neg h, trim, if_neg h]
      simp
theorem trim_low (k : Nat) : ∀ m, m < 10 ^ k → trim (low m k) = if m = 0 then [] else dec m := by
  induction k with
  | zero => intro m hm; obtain rfl : m = 0 := by omega
            rfl
  | succ k ih =>
    intro m hm
    rw [low_snoc, trim_append, ih (m / 10) (by rw [Nat.pow_succ] at hm; omega)]
    by_cases h : m / 10 = 0
    · rw [if_pos h, if_pos rfl]
      by_cases h0 : m = 0
      · subst h0; rfl
      · rw [if_neg h0, dec_small (by omega), trim, if_neg (by omega), Nat.mod_eq_of_lt (by omega)]
    · rw [if_neg h, if_neg (dec_ne _), if_neg (by omega), dec_great (n := m) (by omega)]
theorem head_dec (n : Nat) (hn : n < 10 ^ 10) : trim ((ten n).take 9) ++ (ten n).drop 9 = dec n := by
  have e : ten n = low (n / 10) 9 ++ [48 + n % 10] := low_snoc n 9
  have l := length_low (n / 10) 9
  rw [e, List.take_append_of_le_length (by omega), List.take_of_length_le (by omega), List.drop_append_of_le_length (by omega), List.drop_of_length_le (by omega), List.nil_append, trim_low 9 _ (by omega)]
  by_cases h : n / 10 = 0
  · rw [if_pos h, List.nil_append, dec_small (by omega), Nat.mod_eq_of_lt (by omega)]
  · rw [if_neg h, dec_great (n := n) (by omega)]
/-- the digits behind the point, one by one -/
def fr (p : Nat) : Nat → List Nat
  | 0 => []
  | k + 1 => (48 + 10 * p / 4294967296) :: fr (10 * p % 4294967296) k
theorem low_mod (n k : Nat) : low (n % 10 ^ k) k = low n k := by
  have key : ∀ j, j ≤ k → low (n % 10 ^ k) j = low n j := by
    intro j
    induction j with
    | zero => intro _; rfl
    | succ j ih =>
      intro hj
      rw [low, low, ih (by omega)]
      congr 2
      have e : (10 : Nat) ^ k = 10 ^ j * (10 * 10 ^ (k - j - 1)) := by
        rw [← Nat.mul_assoc, ← Nat.pow_succ, ← Nat.pow_add]; congr 1; omega
      rw [e, Nat.mod_mul_right_div_self, Nat.mod_mul_right_mod]
  exact key k (Nat.le_refl k)
theorem fr_low (k : Nat) : ∀ p, p < 4294967296 → fr p k = low (p * 10 ^ k / 4294967296) k := by
  induction k with
  | zero => intro p _; rfl
  | succ k ih =>
    intro p hp
    have hr := Nat.mod_lt (10 * p) (show 0 < 4294967296 by decide)
    have hd := Nat.div_add_mod (10 * p) 4294967296
    rw [fr, ih _ hr, low]
    generalize hq : 10 * p / 4294967296 = q at *
    generalize 10 * p % 4294967296 = r at *
    have e1 : p * 10 ^ (k + 1) = r * 10 ^ k + 4294967296 * (q * 10 ^ k) := by
      rw [Nat.pow_succ, Nat.mul_comm (10 ^ k) 10, ← Nat.mul_assoc, Nat.mul_comm p 10, ← hd, Nat.add_mul, Nat.mul_assoc, Nat.add_comm]
    have e2 : p * 10 ^ (k + 1) / 4294967296 = r * 10 ^ k / 4294967296 + q * 10 ^ k := by
      rw [e1, Nat.add_mul_div_left _ _ (by decide)]
    have h3 : r * 10 ^ k / 4294967296 < 10 ^ k := by
      rw [Nat.div_lt_iff_lt_mul (by decide), Nat.mul_comm]
      exact Nat.mul_lt_mul_of_pos_left hr (Nat.pow_pos (by decide))
    rw [e2]
    have e4 : (r * 10 ^ k / 4294967296 + q * 10 ^ k) / 10 ^ k = q := by
      rw [Nat.add_mul_div_right _ _ (Nat.pow_pos (by decide)), Nat.div_eq_of_lt h3, Nat.zero_add]
    have e5 : low (r * 10 ^ k / 4294967296 + q * 10 ^ k) k = low (r * 10 ^ k / 4294967296) k := by
      rw [← low_mod, Nat.add_mul_mod_self_right, low_mod]
    rw [e4, e5, Nat.mod_eq_of_lt (by omega)]
theorem fr_ten (p : Nat) (hp : p < 4294967296) : fr p 10 = ten (p * 9765625 / 4194304) := by
  rw [fr_low 10 p hp]
  unfold ten
  rw [show (10 : Nat) ^ 10 = 9765625 * 1024 from rfl, ← Nat.mul_assoc, show (4294967296 : Nat) = 4194304 * 1024 from rfl, Nat.mul_div_mul_right _ _ (by decide)]
theorem printed_dec (t : Nat) (ht : t < 18446744073709551616) : printed t = dec (t / 4294967296) ++ (46 :: fr (t % 4294967296) 10) := by
  unfold printed text
  rw [← List.append_assoc, head_dec _ (by omega), fr_ten _ (by omega)]
theorem dec_len (k : Nat) : ∀ n, n < 10 ^ (k + 1) → (dec n).length ≤ k + 1 := by
  induction k with
  | zero => intro n hn; rw [dec_small (by omega)]; simp
  | succ k ih =>
    intro n hn
    by_cases h : n < 10
    · rw [dec_small h]; simp
    · rw [dec_great h, List.length_append]
      have := ih (n / 10) (by rw [Nat.pow_succ] at hn; omega)
      simp; omega
theorem dec_digit : ∀ n, ∀ x ∈ dec n, 48 ≤ x ∧ x ≤ 57 := fun n => by
  induction n using Nat.strongRecOn with
  | _ n ih =>
    intro x hx
    by_cases h : n < 10
    · rw [dec_small h, List.mem_singleton] at hx; omega
    · rw [dec_great h, List.mem_append, List.mem_singleton] at hx
      rcases hx with hx | rfl
      · exact ih (n / 10) (by omega) x hx
      · omega
/-- what digits read one behind the other make -/
def rd (xs : List Nat) : Nat := xs.foldl (fun a x => 10 * a + (x - 48)) 0
theorem rd_snoc (xs : List Nat) (y : Nat) : rd (xs ++ [y]) = 10 * rd xs + (y - 48) := by simp [rd]
theorem rd_dec : ∀ n, rd (dec n) = n := fun n => by
  induction n using Nat.strongRecOn with
  | _ n ih =>
    by_cases h : n < 10
    · rw [dec_small h]; simp [rd]
    · rw [dec_great h, rd_snoc, ih _ (by omega)]; omega
/-- one row of bytes ahead of another one -/
def lessL : List Nat → List Nat → Bool
  | [], [] => false
  | [], _ :: _ => true
  | _ :: _, [] => false
  | x :: xs, y :: ys => if x < y then true else if y < x then false else lessL xs ys
theorem lessL_pre (zs xs ys : List Nat) : lessL (zs ++ xs) (zs ++ ys) = lessL xs ys := by
  induction zs with
  | nil => rfl
  | cons z zs ih => rw [List.cons_append, List.cons_append, lessL, if_neg (Nat.lt_irrefl z), if_neg (Nat.lt_irrefl z), ih]
theorem lessL_low (k : Nat) : ∀ n m, n < 10 ^ k → m < 10 ^ k → lessL (low n k) (low m k) = decide (n < m) := by
  induction k with
  | zero => intro n m hn hm; obtain rfl : n = 0 := by omega
            obtain rfl : m = 0 := by omega
            rfl
  | succ k ih =>
    intro n m hn hm
    rw [Nat.pow_succ] at hn hm
    have hk : 0 < 10 ^ k := Nat.pow_pos (by decide)
    have n1 : n / 10 ^ k < 10 := by rw [Nat.div_lt_iff_lt_mul hk]; omega
    have m1 : m / 10 ^ k < 10 := by rw [Nat.div_lt_iff_lt_mul hk]; omega
    have dn := Nat.div_add_mod n (10 ^ k)
    have dm := Nat.div_add_mod m (10 ^ k)
    have ln := Nat.mod_lt n hk
    have lm := Nat.mod_lt m hk
    rw [low, low, lessL, Nat.mod_eq_of_lt n1, Nat.mod_eq_of_lt m1, ← low_mod n, ← low_mod m, ih _ _ ln lm]
    generalize n / 10 ^ k = a at *
    generalize m / 10 ^ k = b at *
    generalize n % 10 ^ k = c at *
    generalize m % 10 ^ k = d at *
    generalize 10 ^ k = P at *
    rcases Nat.lt_trichotomy a b with g | g | g
    · rw [if_pos (by omega)]
      have := Nat.mul_le_mul_left P (show a + 1 ≤ b from g)
      rw [Nat.mul_add, Nat.mul_one] at this
      exact (decide_eq_true (by omega)).symm
    · subst g
      rw [if_neg (by omega), if_neg (by omega)]
      exact decide_eq_decide.2 ⟨fun h => by omega, fun h => by omega⟩
    · rw [if_neg (by omega), if_pos (by omega)]
      have := Nat.mul_le_mul_left P (show b + 1 ≤ a from g)
      rw [Nat.mul_add, Nat.mul_one] at this
      exact (decide_eq_false (by omega)).symm
/-- with the same seconds texts stand as their times do -/
theorem lessL_printed {s p q : Nat} (hp : p < 4294967296) (hq : q < 4294967296) : lessL (dec s ++ (46 :: fr p 10)) (dec s ++ (46 :: fr q 10)) = decide (p < q) := by
  rw [lessL_pre, lessL, if_neg (Nat.lt_irrefl _), if_neg (Nat.lt_irrefl _), fr_ten p hp, fr_ten q hq]
  unfold ten
  rw [lessL_low 10 _ _ (by omega) (by omega)]
  refine decide_eq_decide.2 ⟨fun h => ?_, fun h => ?_⟩
  · rcases Nat.lt_or_ge p q with g | g
    · exact g
    · have := Nat.div_le_div_right (c := 4194304) (Nat.mul_le_mul_right 9765625 g); omega
  · have h1 : p * 9765625 + 9765625 ≤ q * 9765625 := by have := Nat.mul_le_mul_right 9765625 (show p + 1 ≤ q from h); omega
    omega
theorem trim_rep (k : Nat) (ys : List Nat) : trim (List.replicate k 48 ++ ys) = trim ys := by
  induction k with
  | zero => rfl
  | succ k ih => rw [List.replicate_succ, List.cons_append, trim_cons _ _ rfl, ih]
theorem whole_back {A : List Nat} (h1 : 0 < A.length) (h2 : A.length ≤ 10) (h3 : A.length = 1 ∨ A.getD 0 0 ≠ 48) : trim ((List.replicate (10 - A.length) 48 ++ A).take 9) ++ (List.replicate (10 - A.length) 48 ++ A).drop 9 = A := by
  have e1 : (List.replicate (10 - A.length) 48 ++ A).take 9 = List.replicate (10 - A.length) 48 ++ A.take (A.length - 1) := by
    rw [List.take_append, List.take_of_length_le (by rw [List.length_replicate]; omega), List.length_replicate]
    congr 2; omega
  have e2 : (List.replicate (10 - A.length) 48 ++ A).drop 9 = A.drop (A.length - 1) := by
    rw [List.drop_append, List.drop_eq_nil_of_le (by rw [List.length_replicate]; omega), List.nil_append, List.length_replicate]
    congr 1; omega
  rw [e1, e2, trim_rep]
  have e3 : trim (A.take (A.length - 1)) = A.take (A.length - 1) := by
    rcases h3 with h | h
    · rw [h]; rfl
    · cases A with
      | nil => rfl
      | cons x xs =>
        cases xs with
        | nil => rfl
        | cons y ys =>
          rw [show (x :: y :: ys).length - 1 = ys.length + 1 by simp, List.take_succ_cons, trim, if_neg (by simpa using h)]
  rw [e3, List.take_append_drop]
theorem bstr_sb (s : ByteArray) : bstr (sb s) = s := by
  apply ext_data
  rw [data_bstr]
  unfold d8 sb
  rw [List.map_map]
  conv => rhs; rw [← List.map_id s.data.toList]
  refine List.map_congr_left fun x _ => ?_
  simp
/-- what stamp.Parse takes is the text of what it tells -/
theorem own_told {s a b : ByteArray} {i T : Nat} (hi : Lib.indexByte s.data.toList 46 = (i : Int)) (hl : i < s.size) (ha : s.extract 0 i = a) (hb : s.extract (i + 1) s.size = b) (hf : fits a b = true) (h1 : ten (T / 4294967296) = pad a) (h2 : ten (T % 4294967296 * 9765625 / 4194304) = pad b) : s = bstr (printed T) := by
  obtain ⟨X, hX⟩ : ∃ X, sb s = X := ⟨_, rfl⟩
  have hL : Lim 256 X := hX ▸ lim_sb s
  have hs : s = bstr X := by rw [← hX, bstr_sb]
  have hlen : X.length = s.size := by rw [← hX, length_sb]
  have hat : X[i]? = some 46 := by
    have h := (Lib.indexByte_some hi).1
    rw [← hX]
    unfold sb
    rw [List.getElem?_map, h]
    rfl
  have hsplit : X = X.take i ++ 46 :: X.drop (i + 1) := by
    have hlt : i < X.length := by omega
    have e : X[i] = 46 := by rw [List.getElem?_eq_getElem hlt] at hat; exact Option.some.inj hat
    conv => lhs; rw [← List.take_append_drop i X, List.drop_eq_getElem_cons hlt, e]
  have sa : sb a = X.take i := by
    rw [← ha, hs, extract_bstr, List.drop_zero, Nat.sub_zero, sb_bstr _ (fun x hx => hL x (List.mem_of_mem_take hx))]
  have sB : sb b = X.drop (i + 1) := by
    rw [← hb, ← hlen]
    conv => lhs; rw [hs]
    rw [extract_bstr, List.take_of_length_le (by rw [List.length_drop]; omega), sb_bstr _ (fun x hx => hL x (List.mem_of_mem_drop hx))]
  have la := length_sb a
  have lb := length_sb b
  unfold fits at hf
  rw [decide_eq_true_iff] at hf
  obtain ⟨g1, g2, g3, g4⟩ := hf
  have pb : pad b = sb b := by unfold pad; rw [g3]; rfl
  have pa : pad a = List.replicate (10 - (sb a).length) 48 ++ sb a := by unfold pad; rw [la]
  have hw := whole_back (A := sb a) (by omega) (by omega) (by rw [la]; exact g4)
  rw [hs]
  congr 1
  unfold printed text
  rw [h1, h2, pb, pa, ← List.append_assoc, hw, sa, sB]
  exact hsplit
theorem eq_str (a b : ByteArray) : (a.toList == b.toList) = decide (a = b) := by
  by_cases h : a = b
  · subst h; simp
  · have : a.toList ≠ b.toList := fun e => h (ext_data (by rw [← Lib.toList_data, ← Lib.toList_data, e]))
    rw [decide_eq_false h, beq_eq_false_iff_ne]; exact this
theorem bytesLess_d8 : ∀ xs ys : List Nat, Lim 256 xs → Lim 256 ys → Op.bytesLess (d8 xs) (d8 ys) = lessL xs ys
  | [], [], _, _ => rfl
  | [], _ :: _, _, _ => rfl
  | _ :: _, [], _, _ => rfl
  | x :: xs, y :: ys, hx, hy => by
    have ih := bytesLess_d8 xs ys (fun z hz => hx z (List.mem_cons_of_mem _ hz)) (fun z hz => hy z (List.mem_cons_of_mem _ hz))
    have lx := hx x List.mem_cons_self
    have ly := hy y List.mem_cons_self
    unfold d8 at ih ⊢
    rw [List.map_cons, List.map_cons, Op.bytesLess, ih, lessL]
    have e1 : decide (UInt8.ofNat x < UInt8.ofNat y) = decide (x < y) := decide_eq_decide.2 (by rw [UInt8.lt_iff_toNat_lt, UInt8.toNat_ofNat', UInt8.toNat_ofNat', Nat.mod_eq_of_lt lx, Nat.mod_eq_of_lt ly])
    have e2 : (UInt8.ofNat x == UInt8.ofNat y) = decide (x = y) := by
      by_cases h : x = y
      · subst h; simp
      · have : UInt8.ofNat x ≠ UInt8.ofNat y := fun e => h (by
          have := congrArg UInt8.toNat e
          rwa [UInt8.toNat_ofNat', UInt8.toNat_ofNat', Nat.mod_eq_of_lt lx, Nat.mod_eq_of_lt ly] at this)
        rw [decide_eq_false h, beq_eq_false_iff_ne]; exact this
    rw [e1, e2]
    rcases Nat.lt_trichotomy x y with g | g | g
    · rw [if_pos g, decide_eq_true g, Bool.true_or]
    · rw [if_neg (by omega), if_neg (by omega), decide_eq_false (by omega), decide_eq_true g, Bool.false_or, Bool.true_and]
    · rw [if_neg (by omega), if_pos g, decide_eq_false (by omega), decide_eq_false (by omega), Bool.false_and, Bool.or_false]
theorem leq_bstr {xs ys : List Nat} (hx : Lim 256 xs) (hy : Lim 256 ys) : (Op.bytesLess (bstr xs).toList (bstr ys).toList || (bstr xs).toList == (bstr ys).toList) = (lessL xs ys || decide (xs = ys)) := by
  rw [eq_str, Lib.toList_data, Lib.toList_data, data_bstr, data_bstr, bytesLess_d8 _ _ hx hy]
  congr 1
  exact decide_eq_decide.2 ⟨fun h => by rw [← sb_bstr xs hx, h, sb_bstr ys hy], fun h => by rw [h]⟩
theorem lim_dec (n : Nat) : Lim 256 (dec n) := fun x hx => by have := dec_digit n x hx; omega
theorem lim_fr (p : Nat) (hp : p < 4294967296) (k : Nat) : Lim 256 (fr p k) := by
  rw [fr_low k p hp]; exact lim_low _ _
theorem lim_printed (t : Nat) (ht : t < 18446744073709551616) : Lim 256 (printed t) := by
  rw [printed_dec t ht]
  refine Lim.append (lim_dec _) fun x hx => ?_
  rcases List.mem_cons.1 hx with h | h
  · omega
  · exact lim_fr _ (by omega) 10 x h
end Go.Proofs.YtddjgjaifflpeaaDoor
