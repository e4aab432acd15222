/- Plain arithmetic on rows of digits: their value, rows of one value, sums and products digit by digit. No program. Plain arithmetic: digits moved up and down. No program. Plain arithmetic: a quotient of two digits by one, half a digit at a time; a guessed digit. No program. Plain arithmetic: a long division, a digit a round. No program. Plain arithmetic: bytes and limbs. No program. Plain arithmetic: Fermat's theorem, the square roots of 1 modulo a prime, and which numbers below a million 2, 3, 5 or 7 tell of. No program. Plain arithmetic of Montgomery's way. No program. Plain arithmetic for numbers modulo a number: the way back of the divisions, Montgomery's way. No program. Plain arithmetic: who is a prime by powers (Pocklington); 2 to the 127, 107 and 89, less one, are primes. No program. -/
namespace Go.Proofs.YtkhlmcknbangfaaGreatDoor
set_option linter.unusedSimpArgs false
set_option linter.unusedVariables false

/-- the value of a row of digits to the base β, the least first -/
def val (β : Nat) : List Nat → Nat
  | [] => 0
  | x :: xs => x + β * val β xs

/-- each digit is below β -/
def Lim (β : Nat) (xs : List Nat) : Prop := ∀ x ∈ xs, x < β

theorem Lim.nil (β : Nat) : Lim β [] := fun _ h => by cases h
theorem Lim.append {β : Nat} {xs ys : List Nat} (h : Lim β xs) (k : Lim β ys) : Lim β (xs ++ ys) := fun x hx => (List.mem_append.1 hx).elim (h x) (k x)
theorem Lim.one {β x : Nat} (h : x < β) : Lim β [x] := fun y hy => by simp at hy; omega
theorem Lim.left {β : Nat} {xs ys : List Nat} (h : Lim β (xs ++ ys)) : Lim β xs := fun x hx => h x (List.mem_append.2 (.inl hx))
theorem Lim.right {β : Nat} {xs ys : List Nat} (h : Lim β (xs ++ ys)) : Lim β ys := fun x hx => h x (List.mem_append.2 (.inr hx))
theorem Lim.take {β : Nat} {xs : List Nat} (h : Lim β xs) (k : Nat) : Lim β (xs.take k) := fun x hx => h x (List.mem_of_mem_take hx)
theorem Lim.drop {β : Nat} {xs : List Nat} (h : Lim β xs) (k : Nat) : Lim β (xs.drop k) := fun x hx => h x (List.mem_of_mem_drop hx)
theorem Lim.get {β : Nat} {xs : List Nat} (h : Lim β xs) (hβ : 0 < β) (k : Nat) : xs.getD k 0 < β := by
  by_cases hk : k < xs.length
  · simp only [List.getD, List.getElem?_eq_getElem hk, Option.getD_some]
    exact h _ (List.getElem_mem hk)
  · simp only [List.getD, List.getElem?_eq_none (Nat.le_of_not_lt hk), Option.getD_none]
    exact hβ

theorem val_append (β : Nat) (xs ys : List Nat) : val β (xs ++ ys) = val β xs + β ^ xs.length * val β ys := by
  induction xs with
  | nil => simp [val]
  | cons x xs ih =>
    simp only [List.cons_append, val, ih, List.length_cons, Nat.pow_succ, Nat.mul_add]
    rw [Nat.mul_comm (β ^ xs.length) β, Nat.mul_assoc]
    omega
theorem val_one (β x : Nat) : val β [x] = x := by simp [val]
theorem val_snoc (β : Nat) (xs : List Nat) (x : Nat) : val β (xs ++ [x]) = val β xs + β ^ xs.length * x := by rw [val_append, val_one]
theorem val_take_succ (β : Nat) (xs : List Nat) (k : Nat) : val β (xs.take (k + 1)) = val β (xs.take k) + β ^ k * xs.getD k 0 := by
  by_cases hk : k < xs.length
  · rw [List.take_succ_eq_append_getElem hk, val_snoc]
    simp [List.getD, List.getElem?_eq_getElem hk, Nat.min_eq_left (Nat.le_of_lt hk)]
  · rw [List.take_of_length_le (by omega), List.take_of_length_le (by omega)]
    simp [List.getD, List.getElem?_eq_none (Nat.le_of_not_lt hk)]
theorem val_replicate (β n : Nat) : val β (List.replicate n 0) = 0 := by
  induction n with
  | zero => rfl
  | succ n ih => simp [List.replicate_succ, val, ih]
theorem val_lt {β : Nat} {xs : List Nat} (h : Lim β xs) : val β xs < β ^ xs.length := by
  induction xs with
  | nil => simp [val]
  | cons x xs ih =>
    have h1 : x < β := h x (by simp)
    have h2 := ih fun y hy => h y (by simp [hy])
    simp only [val, List.length_cons, Nat.pow_succ]
    have : β * (val β xs + 1) ≤ β * β ^ xs.length := Nat.mul_le_mul_left _ h2
    rw [Nat.mul_comm (β ^ xs.length) β]
    rw [Nat.mul_add] at this
    omega
theorem lim_replicate {β : Nat} (hβ : 0 < β) (n : Nat) : Lim β (List.replicate n 0) := fun x hx => by
  have := (List.mem_replicate.1 hx).2
  omega

/-- the digits of a number, without noughts behind -/
def digs (β : Nat) (fuel n : Nat) : List Nat :=
  match fuel with
  | 0 => []
  | fuel + 1 => if n = 0 then [] else (n % β) :: digs β fuel (n / β)
/-- a row without noughts at its end -/
def Trm (xs : List Nat) : Prop := ∀ ys x, xs = ys ++ [x] → x ≠ 0

theorem val_cut_zero {β : Nat} (xs : List Nat) (k : Nat) (hz : xs.getD k 0 = 0) : val β (xs.take (k + 1)) = val β (xs.take k) := by
  rw [val_take_succ, hz]; simp

/-- rows of one value, without noughts behind, are one -/
theorem trm_unique {β : Nat} (hβ : 1 < β) : ∀ {xs ys : List Nat}, Lim β xs → Lim β ys → Trm xs → Trm ys → val β xs = val β ys → xs = ys := by
  intro xs
  induction xs with
  | nil =>
    intro ys _ hy _ ty hv
    induction ys with
    | nil => rfl
    | cons y ys ih =>
      exfalso
      simp only [val] at hv
      have hy0 : y = 0 := by omega
      have hv0 : val β ys = 0 := by
        have : β * val β ys = 0 := by omega
        rcases Nat.mul_eq_zero.1 this with h | h
        · omega
        · exact h
      by_cases hys : ys = []
      · subst hys
        exact ty [] y rfl hy0
      · have := ih (fun x hx => hy x (by simp [hx])) (fun zs x e => ty (y :: zs) x (by rw [e]; rfl)) (by simp [val, hv0])
        exact hys this.symm
  | cons x xs ih =>
    intro ys hx hy tx ty hv
    cases ys with
    | nil =>
      exfalso
      simp only [val] at hv
      have key : ∀ zs : List Nat, Trm zs → val β zs = 0 → zs = [] := by
        intro zs
        induction zs with
        | nil => intros; rfl
        | cons z zs ihz =>
          intro tz hz
          exfalso
          simp only [val] at hz
          have hz0 : z = 0 := by omega
          have hv0 : val β zs = 0 := by
            have : β * val β zs = 0 := by omega
            rcases Nat.mul_eq_zero.1 this with h | h
            · omega
            · exact h
          have := ihz (fun us x e => tz (z :: us) x (by rw [e]; rfl)) hv0
          subst this
          exact tz [] z rfl hz0
      have := key (x :: xs) tx (by simp only [val]; omega)
      cases this
    | cons y ys =>
      simp only [val] at hv
      have h1 : x < β := hx x (by simp)
      have h2 : y < β := hy y (by simp)
      have e1 : (x + β * val β xs) % β = x := by rw [Nat.add_mul_mod_self_left]; exact Nat.mod_eq_of_lt h1
      have e2 : (y + β * val β ys) % β = y := by rw [Nat.add_mul_mod_self_left]; exact Nat.mod_eq_of_lt h2
      have exy : x = y := by rw [← e1, ← e2, hv]
      subst exy
      have hv' : val β xs = val β ys := Nat.eq_of_mul_eq_mul_left (show 0 < β by omega) (by omega)
      have txs : Trm xs := fun zs z e => tx (x :: zs) z (by rw [e]; rfl)
      have tys : Trm ys := fun zs z e => ty (x :: zs) z (by rw [e]; rfl)
      rw [ih (fun z hz => hx z (by simp [hz])) (fun z hz => hy z (by simp [hz])) txs tys hv']

/-- how many digits are left when the noughts behind place k are cut -/
def tl (xs : List Nat) : Nat → Nat
  | 0 => 0
  | k + 1 => if xs.getD k 0 = 0 then tl xs k else k + 1
theorem tl_le (xs : List Nat) : ∀ k, tl xs k ≤ k
  | 0 => Nat.le_refl _
  | k + 1 => by
    unfold tl
    split
    · exact Nat.le_succ_of_le (tl_le xs k)
    · exact Nat.le_refl _
def cutL (xs : List Nat) : List Nat := xs.take (tl xs xs.length)
theorem val_tl (β : Nat) (xs : List Nat) : ∀ k, val β (xs.take (tl xs k)) = val β (xs.take k)
  | 0 => rfl
  | k + 1 => by
    unfold tl
    split
    · next h => rw [val_tl β xs k, val_cut_zero xs k h]
    · rfl
theorem val_cutL (β : Nat) (xs : List Nat) : val β (cutL xs) = val β xs := by
  unfold cutL
  rw [val_tl, List.take_length]
theorem tl_top (xs : List Nat) : ∀ k, 0 < tl xs k → xs.getD (tl xs k - 1) 0 ≠ 0
  | 0 => fun h => absurd h (Nat.lt_irrefl _)
  | k + 1 => by
    unfold tl
    split
    · exact tl_top xs k
    · next h => intro _; simpa using h
theorem length_cutL (xs : List Nat) : (cutL xs).length = tl xs xs.length := by
  unfold cutL
  rw [List.length_take, Nat.min_eq_left (tl_le _ _)]
theorem trm_cutL (xs : List Nat) : Trm (cutL xs) := by
  intro ys x e
  have hl := length_cutL xs
  have h0 : 0 < tl xs xs.length := by rw [← hl, e]; simp
  have := tl_top xs _ h0
  have hx : (cutL xs)[tl xs xs.length - 1]? = some x := by
    rw [← hl, e]; simp
  have hx2 : xs[tl xs xs.length - 1]? = some x := by
    unfold cutL at hx
    rw [List.getElem?_take] at hx
    rw [if_pos (by omega)] at hx
    exact hx
  simp only [List.getD, hx2, Option.getD_some] at this
  exact this
theorem lim_cutL {β : Nat} {xs : List Nat} (h : Lim β xs) : Lim β (cutL xs) := h.take _
theorem cutL_of_trm {xs : List Nat} (h : Trm xs) : cutL xs = xs := by
  have hl := tl_le xs xs.length
  rcases Nat.eq_or_lt_of_le hl with e | hlt
  · unfold cutL; rw [e, List.take_length]
  · exfalso
    cases hn : xs.length with
    | zero => omega
    | succ m =>
      have hne : xs ≠ [] := by intro e; subst e; simp at hn
      have e := (List.dropLast_concat_getLast hne).symm
      have := h _ _ e
      have hg : xs.getD m 0 = xs.getLast hne := by
        rw [List.getLast_eq_getElem]
        have : m < xs.length := by omega
        simp only [List.getD, List.getElem?_eq_getElem this, Option.getD_some]
        congr 1; omega
      rw [hn] at hlt
      unfold tl at hlt
      rw [hg, if_neg this] at hlt
      omega

theorem add_step (β P vd s c' c vu vb x y : Nat) (h : s + c' * β = x + y + c) (hv : vd + c * P = vu + vb) : vd + P * s + c' * (P * β) = vu + P * x + (vb + P * y) := by
  have e : P * (s + c' * β) = P * (x + y + c) := by rw [h]
  simp only [Nat.mul_add] at e
  have e1 : P * (c' * β) = c' * (P * β) := by ac_rfl
  have e2 : P * c = c * P := Nat.mul_comm _ _
  omega
theorem sub_step (β P vd s c' c vu vb x y : Nat) (h : s + y + c = x + c' * β) (hv : vd + vb + 0 = vu + c * P) : vd + P * s + (vb + P * y) = vu + P * x + c' * (P * β) := by
  have e : P * (s + y + c) = P * (x + c' * β) := by rw [h]
  simp only [Nat.mul_add] at e
  have e1 : P * (c' * β) = c' * (P * β) := by ac_rfl
  have e2 : P * c = c * P := Nat.mul_comm _ _
  omega
/-- the digit and the carry of a sum of two digits; of a difference -/
def sm (x y c : Nat) : Nat := (x + y + c) % 18446744073709551616
def cr (x y c : Nat) : Nat := (x + y + c) / 18446744073709551616
def df (x y b : Nat) : Nat := (x + 18446744073709551616 - y - b) % 18446744073709551616
def bo (x y b : Nat) : Nat := if x < y + b then 1 else 0
theorem sm_lt (x y c : Nat) : sm x y c < 18446744073709551616 := by unfold sm; omega
theorem df_lt (x y c : Nat) : df x y c < 18446744073709551616 := by unfold df; omega
theorem cr_le {x y c : Nat} (hx : x < 18446744073709551616) (hy : y < 18446744073709551616) (hc : c ≤ 1) : cr x y c ≤ 1 := by unfold cr; omega
theorem bo_le (x y c : Nat) : bo x y c ≤ 1 := by unfold bo; split <;> omega
theorem sm_cr (x y c : Nat) : sm x y c + cr x y c * 18446744073709551616 = x + y + c := by unfold sm cr; omega
theorem df_bo {x y c : Nat} (hx : x < 18446744073709551616) (hy : y < 18446744073709551616) (hc : c ≤ 1) : df x y c + y + c = x + bo x y c * 18446744073709551616 := by
  unfold df bo; split <;> omega

theorem sum_in_two (β s1 c1 s2 c2 h l u p ov : Nat) (h1 : s1 + c1 * β = u + l + 0) (h2 : s2 + c2 * β = s1 + ov + 0) (h3 : l + h * β = p) :
    s2 + (h + c1 + c2) * β = u + p + ov := by
  rw [Nat.add_mul, Nat.add_mul]; omega
theorem top_of_sum (s t u p ov : Nat) (h : s + t * 18446744073709551616 = u + p + ov) (hu : u < 18446744073709551616) (ho : ov < 18446744073709551616) (hl : p ≤ 340282366920938463426481119284349108225) : t < 18446744073709551616 := by omega
theorem times_step (β P vd s o' o vu vb x y d : Nat) (h : s + o' * β = x + y * d + o) (hv : vd + o * P = vu + d * vb) : vd + P * s + o' * (P * β) = vu + P * x + d * (vb + P * y) := by
  have e : P * (s + o' * β) = P * (x + y * d + o) := by rw [h]
  simp only [Nat.mul_add] at e ⊢
  have e1 : P * (o' * β) = o' * (P * β) := by ac_rfl
  have e2 : P * o = o * P := Nat.mul_comm _ _
  have e3 : P * (y * d) = d * (P * y) := by ac_rfl
  omega

theorem low_in_two (β s1 c1 h l p ov : Nat) (h1 : s1 + c1 * β = l + ov + 0) (h3 : l + h * β = p) : s1 + (h + c1) * β = p + ov := by
  rw [Nat.add_mul]; omega
/-- one digit -/
theorem takes_step (β P vd u' b' h' b o vu vv u l y d : Nat) (h1 : u' + l + b = u + b' * β) (h2 : l + h' * β = y * d + o) (hv : vd + d * vv = vu + (b + o) * P) :
    vd + P * u' + d * (vv + P * y) = vu + P * u + (b' + h') * (P * β) := by
  have e1 : P * (u' + l + b) = P * (u + b' * β) := by rw [h1]
  have e2 : P * (l + h' * β) = P * (y * d + o) := by rw [h2]
  simp only [Nat.mul_add, Nat.add_mul] at e1 e2 hv ⊢
  have f1 : P * (b' * β) = b' * (P * β) := by ac_rfl
  have f2 : P * (h' * β) = h' * (P * β) := by ac_rfl
  have f3 : P * (y * d) = d * (P * y) := by ac_rfl
  have f4 : P * b = b * P := Nat.mul_comm _ _
  have f5 : P * o = o * P := Nat.mul_comm _ _
  omega

/-- a store into a row whose beginning is done -/
theorem set_mid {α : Type} (pre done rest post : List α) (x y : α) : (pre ++ (done ++ x :: rest) ++ post).set (pre.length + done.length) y = pre ++ (done ++ [y] ++ rest) ++ post := by
  simp [List.append_assoc]
theorem get_mid {α : Type} (pre done rest post : List α) (x : α) : (pre ++ (done ++ x :: rest) ++ post)[pre.length + done.length]? = some x := by
  simp [List.append_assoc]
end Go.Proofs.YtkhlmcknbangfaaGreatDoor
namespace Go.Proofs.YtkhlmcknbangfaaGreatDoor

theorem pow_split {p : Nat} (hp : p ≤ 64) : 18446744073709551616 = 2 ^ p * 2 ^ (64 - p) := by
  rw [← Nat.pow_add, show p + (64 - p) = 64 by omega]
theorem or_add {p y : Nat} (z : Nat) (hy : y < 2 ^ p) : y ||| (2 ^ p * z) = y + 2 ^ p * z := by
  rw [Nat.or_comm, ← Nat.two_pow_add_eq_or_of_lt hy z, Nat.add_comm]
theorem shl_mod {p : Nat} (x : Nat) (hp : p ≤ 64) : x * 2 ^ p % 18446744073709551616 = 2 ^ p * (x % 2 ^ (64 - p)) := by
  rw [pow_split hp, Nat.mul_comm x, Nat.mul_mod_mul_left]
theorem shl_div {p : Nat} (x : Nat) (hp : p ≤ 64) : x * 2 ^ p / 18446744073709551616 = x / 2 ^ (64 - p) := by
  rw [pow_split hp, Nat.mul_comm x, Nat.mul_div_mul_left _ _ (Nat.two_pow_pos p)]
theorem up_or {p t : Nat} (x : Nat) (hp : p ≤ 64) (ht : t < 2 ^ p) : t ||| (x * 2 ^ p % 18446744073709551616) = t + x * 2 ^ p % 18446744073709551616 := by
  rw [shl_mod x hp]; exact or_add _ ht
theorem up_sum {p : Nat} (t x : Nat) (hp : p ≤ 64) : (t + x * 2 ^ p % 18446744073709551616) + x / 2 ^ (64 - p) * 18446744073709551616 = t + x * 2 ^ p := by
  rw [← shl_div x hp]
  have := Nat.mod_add_div (x * 2 ^ p) 18446744073709551616
  rw [Nat.mul_comm] at this
  omega
theorem up_top {p x : Nat} (hp : p ≤ 64) (hx : x < 18446744073709551616) : x / 2 ^ (64 - p) < 2 ^ p := by
  rw [Nat.div_lt_iff_lt_mul (Nat.two_pow_pos _), ← pow_split hp]; exact hx
theorem up_lt {p t : Nat} (x : Nat) (hp : p ≤ 64) (ht : t < 2 ^ p) : t + x * 2 ^ p % 18446744073709551616 < 18446744073709551616 := by
  rw [shl_mod x hp]
  have h1 : x % 2 ^ (64 - p) + 1 ≤ 2 ^ (64 - p) := Nat.mod_lt _ (Nat.two_pow_pos _)
  have h2 : 2 ^ p * (x % 2 ^ (64 - p) + 1) ≤ 2 ^ p * 2 ^ (64 - p) := Nat.mul_le_mul_left _ h1
  rw [← pow_split hp, Nat.mul_add] at h2
  omega
theorem down_lt {p x : Nat} (hp : p ≤ 64) (hx : x < 18446744073709551616) : x / 2 ^ p < 2 ^ (64 - p) := by
  rw [Nat.div_lt_iff_lt_mul (Nat.two_pow_pos _), Nat.mul_comm, ← pow_split hp]; exact hx
theorem down_mod {p : Nat} (y : Nat) (hp : p ≤ 64) : y * 2 ^ (64 - p) % 18446744073709551616 = 2 ^ (64 - p) * (y % 2 ^ p) := by
  have := shl_mod (p := 64 - p) y (by omega)
  rwa [show 64 - (64 - p) = p by omega] at this
theorem down_or {p x : Nat} (y : Nat) (hp : p ≤ 64) (hx : x < 18446744073709551616) : x / 2 ^ p ||| (y * 2 ^ (64 - p) % 18446744073709551616) = x / 2 ^ p + 2 ^ (64 - p) * (y % 2 ^ p) := by
  rw [down_mod y hp]; exact or_add _ (down_lt hp hx)
theorem down_digit_lt {p x : Nat} (y : Nat) (hp : p ≤ 64) (hx : x < 18446744073709551616) : x / 2 ^ p + 2 ^ (64 - p) * (y % 2 ^ p) < 18446744073709551616 := by
  have h1 : y % 2 ^ p + 1 ≤ 2 ^ p := Nat.mod_lt _ (Nat.two_pow_pos _)
  have h2 : 2 ^ (64 - p) * (y % 2 ^ p + 1) ≤ 2 ^ (64 - p) * 2 ^ p := Nat.mul_le_mul_left _ h1
  rw [Nat.mul_comm _ (2 ^ p), ← pow_split hp, Nat.mul_add] at h2
  have h3 := down_lt hp hx
  omega
/-- one digit moved down -/
theorem down_sum {p x : Nat} (y : Nat) (hp : p ≤ 64) : (x / 2 ^ p + 2 ^ (64 - p) * (y % 2 ^ p)) * 2 ^ p + x % 2 ^ p = x + 18446744073709551616 * (y % 2 ^ p) := by
  have h1 := Nat.mod_add_div x (2 ^ p)
  rw [Nat.add_mul, Nat.mul_comm (x / 2 ^ p), Nat.mul_right_comm, Nat.mul_comm (2 ^ (64 - p)) (2 ^ p), ← pow_split hp]
  omega

/-- a step of shiftUp: L and t ahead, x comes -/
theorem up_step (β Pq vL t d t' v x k : Nat) (hv : vL + Pq * t = v) (hs : d + t' * β = t + x * k) : vL + Pq * d + Pq * β * t' = v + Pq * (x * k) := by
  have e : Pq * (d + t' * β) = Pq * (t + x * k) := by rw [hs]
  simp only [Nat.mul_add] at e
  have e1 : Pq * (t' * β) = Pq * β * t' := by ac_rfl
  omega
theorem down_step (β P vd d k a0 vY x r r' : Nat) (hv : vd * k + a0 = vY + P * r) (hs : d * k + r = x + β * r') : (vd + P * d) * k + a0 = vY + P * x + P * β * r' := by
  have e : P * (d * k + r) = P * (x + β * r') := by rw [hs]
  simp only [Nat.mul_add, Nat.add_mul] at e ⊢
  have e1 : P * (β * r') = P * β * r' := by ac_rfl
  have e2 : P * (d * k) = P * d * k := by ac_rfl
  omega
theorem val_zeros (β : Nat) (xs : List Nat) (n : Nat) : val β (xs ++ List.replicate n 0) = val β xs := by rw [val_append, val_replicate]; simp
theorem val_take_drop (β : Nat) (xs : List Nat) (k : Nat) (hk : k ≤ xs.length) : val β xs = val β (xs.take k) + β ^ k * val β (xs.drop k) := by
  have := val_append β (xs.take k) (xs.drop k)
  rw [List.take_append_drop, List.length_take, Nat.min_eq_left hk] at this
  exact this
theorem val_div_pow {β : Nat} {xs : List Nat} (h : Lim β xs) (hβ : 0 < β) (k : Nat) (hk : k ≤ xs.length) : val β xs / β ^ k = val β (xs.drop k) := by
  have h1 := val_take_drop β xs k hk
  have h2 := val_lt (h.take k)
  rw [List.length_take, Nat.min_eq_left hk] at h2
  rw [h1, Nat.add_mul_div_left _ _ (Nat.pow_pos hβ), Nat.div_eq_of_lt h2, Nat.zero_add]
theorem two_pow_limb (q p : Nat) : 2 ^ (64 * q + p) = 2 ^ p * 18446744073709551616 ^ q := by
  rw [Nat.pow_add, Nat.pow_mul, Nat.mul_comm]
theorem length_of_val {β : Nat} (hβ : 1 < β) {xs : List Nat} (ht : Trm xs) {k : Nat} (hv : val β xs < β ^ k) : xs.length ≤ k := by
  rcases Nat.lt_or_ge k xs.length with hlt | hge
  · exfalso
    have hne : xs ≠ [] := by intro e; subst e; simp at hlt
    have e := (List.dropLast_concat_getLast hne).symm
    have hx := ht _ _ e
    have h1 := val_snoc β xs.dropLast (xs.getLast hne)
    rw [← e, List.length_dropLast] at h1
    have h2 : β ^ k ≤ β ^ (xs.length - 1) := Nat.pow_le_pow_right (by omega) (by omega)
    have h3 : β ^ (xs.length - 1) * 1 ≤ β ^ (xs.length - 1) * xs.getLast hne := Nat.mul_le_mul_left _ (by omega)
    omega
  · exact hge
theorem val_ge {β : Nat} {xs : List Nat} (ht : Trm xs) (hne : 0 < xs.length) : β ^ (xs.length - 1) ≤ val β xs := by
  have hne' : xs ≠ [] := by intro e; subst e; simp at hne
  have e := (List.dropLast_concat_getLast hne').symm
  have hx := ht _ _ e
  have h1 := val_snoc β xs.dropLast (xs.getLast hne')
  rw [← e, List.length_dropLast] at h1
  have h3 : β ^ (xs.length - 1) * 1 ≤ β ^ (xs.length - 1) * xs.getLast hne' := Nat.mul_le_mul_left _ (by omega)
  omega
end Go.Proofs.YtkhlmcknbangfaaGreatDoor
namespace Go.Proofs.YtkhlmcknbangfaaGreatDoor

theorem half_true {hi q r y1 y0 u b : Nat} (h : hi = q * y1 + r) (hh : hi < y1 * b + y0) (hu : u < b) (hc : b ≤ q ∨ b * r + u < q * y0) : hi * b + u < q * (y1 * b + y0) := by
  rcases hc with hc | hc
  · have h1 : (hi + 1) * b ≤ (y1 * b + y0) * b := Nat.mul_le_mul_right _ hh
    have h2 : (y1 * b + y0) * b ≤ (y1 * b + y0) * q := Nat.mul_le_mul_left _ hc
    rw [Nat.add_mul] at h1
    rw [Nat.mul_comm q]
    omega
  · have e1 : hi * b = q * (y1 * b) + b * r := by rw [h, Nat.add_mul, Nat.mul_assoc, Nat.mul_comm r]
    rw [e1, Nat.mul_add]
    omega
theorem half_false {hi q r y1 y0 u b : Nat} (h : hi = q * y1 + r) (hc : q * y0 ≤ b * r + u) : q * (y1 * b + y0) ≤ hi * b + u := by
  have e1 : hi * b = q * (y1 * b) + b * r := by rw [h, Nat.add_mul, Nat.mul_assoc, Nat.mul_comm r]
  rw [e1, Nat.mul_add]
  omega
theorem half_break {hi q r y1 y0 u b : Nat} (h : hi = (q + 1) * y1 + r) (hr : b ≤ r + y1) (hq : q ≤ b) (hy0 : y0 < b) : q * (y1 * b + y0) ≤ hi * b + u := by
  refine half_false (r := r + y1) (by rw [h, Nat.add_mul]; omega) ?_
  have h1 : q * y0 ≤ b * b := Nat.mul_le_mul hq (Nat.le_of_lt hy0)
  have h2 : b * b ≤ b * (r + y1) := Nat.mul_le_mul_left _ hr
  omega
theorem half_start {hi y1 y0 u b : Nat} (hy : 0 < y1) (hu : u < b) : hi * b + u < (hi / y1 + 1) * (y1 * b + y0) := by
  have h1 : hi + 1 ≤ (hi / y1 + 1) * y1 := by
    have := Nat.lt_mul_div_succ hi hy
    rw [Nat.mul_comm] at this
    exact this
  have h2 := Nat.mul_le_mul_right b h1
  rw [Nat.add_mul] at h2
  rw [Nat.mul_add, ← Nat.mul_assoc]
  omega
theorem half_most {hi y1 y0 b : Nat} (hh : hi < y1 * b + y0) (hy0 : y0 < b) (hy : b ≤ 2 * y1) : hi / y1 ≤ b + 1 := by
  have hp : 0 < y1 := by omega
  rw [← Nat.lt_succ_iff, Nat.div_lt_iff_lt_mul hp]
  have : (b + 1).succ * y1 = y1 * b + 2 * y1 := by rw [Nat.succ_eq_add_one, Nat.add_mul, Nat.add_mul, Nat.mul_comm]; omega
  rw [this]
  omega
theorem half_done {hi q y u b : Nat} (h1 : q * y ≤ hi * b + u) (h2 : hi * b + u < (q + 1) * y) (hh : hi < y) (hu : u < b) : q < b ∧ ∃ s, hi * b + u = q * y + s ∧ s < y := by
  refine ⟨?_, hi * b + u - q * y, by omega, ?_⟩
  · have e : (hi + 1) * b ≤ y * b := Nat.mul_le_mul_right _ hh
    rw [Nat.add_mul] at e
    have : q * y < b * y := by rw [Nat.mul_comm b]; omega
    exact Nat.lt_of_mul_lt_mul_right this
  · rw [Nat.add_mul] at h2; omega
theorem half_all {hi q1 q0 y u1 u0 b s : Nat} (h1 : hi * b + u1 = q1 * y + s) (h2 : s * b + u0 < (q0 + 1) * y) : (hi * b + u1) * b + u0 < (q1 * b + q0 + 1) * y := by
  rw [h1, Nat.add_mul, show q1 * b + q0 + 1 = q1 * b + (q0 + 1) by omega, Nat.add_mul (q1 * b)]
  have : q1 * y * b = q1 * b * y := by ac_rfl
  omega
theorem half_pos {q r y0 u b : Nat} (hb : 0 < b) (hc : b ≤ q ∨ b * r + u < q * y0) : 1 ≤ q := by
  rcases Nat.eq_zero_or_pos q with h | h
  · subst h; rcases hc with hc | hc
    · omega
    · simp at hc
  · exact h

/-- the wraps of the remainder: it fits -/
theorem wrap_rest {hi q y u s : Nat} (h : hi * 4294967296 + u = q * y + s) (hs : s < 18446744073709551616) :
    (((hi * 4294967296 % 18446744073709551616 + u) % 18446744073709551616 : Nat) : Int) - ((q * y % 18446744073709551616 : Nat) : Int) = (s : Int) ∨
    (((hi * 4294967296 % 18446744073709551616 + u) % 18446744073709551616 : Nat) : Int) - ((q * y % 18446744073709551616 : Nat) : Int) = (s : Int) - 18446744073709551616 := by
  generalize q * y = p at *
  omega

/-- a digit that the highest limbs guess is not too small -/
theorem guess_max {U V β : Nat} (h : U < V * β) (hβ : 0 < β) : U < (β - 1 + 1) * V := by
  rw [Nat.sub_add_cancel hβ, Nat.mul_comm]; exact h
theorem guess_ok {U V u2 u1 v q P lowU lowV β : Nat} (hU : U = (u2 * β + u1) * P + lowU) (hl : lowU < P) (hV : V = v * P + lowV) (h : u2 * β + u1 < (q + 1) * v) : U < (q + 1) * V := by
  have h1 : (u2 * β + u1 + 1) * P ≤ (q + 1) * v * P := Nat.mul_le_mul_right _ h
  rw [Nat.add_mul] at h1
  rw [hU, hV, Nat.mul_add, ← Nat.mul_assoc]
  omega
end Go.Proofs.YtkhlmcknbangfaaGreatDoor
namespace Go.Proofs.YtkhlmcknbangfaaGreatDoor

theorem val_take_le (β : Nat) (xs : List Nat) (k : Nat) : val β (xs.take k) ≤ val β xs := by
  by_cases hk : k ≤ xs.length
  · rw [val_take_drop β xs k hk]; omega
  · rw [List.take_of_length_le (by omega)]; exact Nat.le_refl _
theorem val_drop_succ (β : Nat) (xs : List Nat) (t : Nat) (ht : t < xs.length) : val β (xs.drop t) = xs.getD t 0 + β * val β (xs.drop (t + 1)) := by
  rw [List.drop_eq_getElem_cons ht]
  simp [val, List.getD, List.getElem?_eq_getElem ht]

/-- what holds when t digits of the quotient are still to come -/
def DivInv (β U0 V t : Nat) (cur qs : List Nat) : Prop := U0 = val β cur + V * β ^ t * val β (qs.drop t) ∧ val β (cur.drop t) < V

theorem DivInv.room {β U0 V t n : Nat} {cur qs : List Nat} (h : DivInv β U0 V (t + 1) cur qs) (hl : t < cur.length) (hL : Lim β cur) (hβ : 0 < β) : val β ((cur.drop t).take n) < V * β := by
  refine Nat.lt_of_le_of_lt (val_take_le _ _ _) ?_
  rw [val_drop_succ β cur t hl]
  have h1 := hL.get hβ t
  have h2 : β * (val β (cur.drop (t + 1)) + 1) ≤ β * V := Nat.mul_le_mul_left _ h.2
  rw [Nat.mul_add] at h2
  rw [Nat.mul_comm V]
  omega
theorem DivInv.step {β U0 V t k q : Nat} {cur qs U' : List Nat} (h : DivInv β U0 V (t + 1) cur qs) (hl : t + k + 2 ≤ cur.length) (hq : t < qs.length) (hV : V < β ^ (k + 1)) (hU'l : U'.length = k + 2)
    (h1 : val β U' + q * V = val β ((cur.drop t).take (k + 2))) (h2 : val β U' < V) :
    DivInv β U0 V t (cur.take t ++ U' ++ cur.drop (t + k + 2)) (qs.set t q) := by
  obtain ⟨a, b⟩ := h
  -- what stands above the part is nought
  have hp : val β (cur.drop (t + k + 2)) = 0 := by
    have e := val_take_drop β (cur.drop (t + 1)) (k + 1) (by rw [List.length_drop]; omega)
    rw [List.drop_drop, show t + 1 + (k + 1) = t + k + 2 by omega] at e
    rcases Nat.eq_zero_or_pos (val β (cur.drop (t + k + 2))) with h0 | h0
    · exact h0
    · have : β ^ (k + 1) * 1 ≤ β ^ (k + 1) * val β (cur.drop (t + k + 2)) := Nat.mul_le_mul_left _ h0
      omega
  have hlt : (cur.take t).length = t := by rw [List.length_take]; omega
  have ec : val β cur = val β (cur.take t) + β ^ t * (val β ((cur.drop t).take (k + 2)) + β ^ (k + 2) * val β (cur.drop (t + k + 2))) := by
    rw [val_take_drop β cur t (by omega), val_take_drop β (cur.drop t) (k + 2) (by rw [List.length_drop]; omega), List.drop_drop, show t + (k + 2) = t + k + 2 by omega]
  constructor
  · have eq : val β ((qs.set t q).drop t) = q + β * val β (qs.drop (t + 1)) := by
      rw [val_drop_succ β _ t (by simpa using hq), List.drop_set]
      have : t + 1 > t := by omega
      simp [List.getD, hq]
    have g1 : val β (cur.take t ++ U' ++ cur.drop (t + k + 2)) = val β (cur.take t) + β ^ t * val β U' := by
      rw [List.append_assoc, val_append, val_append, hlt, hU'l, hp, Nat.mul_zero, Nat.add_zero]
    have g2 : val β cur = val β (cur.take t) + (β ^ t * val β U' + β ^ t * (q * V)) := by
      rw [ec, hp, Nat.mul_zero, Nat.add_zero, ← h1, Nat.mul_add]
    have e1 : β ^ t * (q * V) = V * β ^ t * q := by ac_rfl
    have e2 : V * (β ^ t * β) * val β (qs.drop (t + 1)) = V * β ^ t * (β * val β (qs.drop (t + 1))) := by ac_rfl
    rw [eq, g1, a, g2, e1, Nat.pow_succ, e2, Nat.mul_add]
    omega
  · rw [List.append_assoc, List.drop_append_of_le_length (by omega), List.drop_of_length_le (by omega), List.nil_append, val_append, hp, Nat.mul_zero, Nat.add_zero]
    exact h2
theorem DivInv.done {β a b p V : Nat} {cur qs : List Nat} (h : DivInv β (a * 2 ^ p) V 0 cur qs) (hV : V = b * 2 ^ p) : val β qs = a / b ∧ val β cur = a % b * 2 ^ p := by
  obtain ⟨h1, h2⟩ := h
  simp only [List.drop_zero, Nat.pow_zero, Nat.mul_one] at h1 h2
  have hp := Nat.two_pow_pos p
  have e1 : a * 2 ^ p / V = a / b := by rw [hV, Nat.mul_div_mul_right _ _ hp]
  have e2 : a * 2 ^ p % V = a % b * 2 ^ p := by rw [hV, Nat.mul_mod_mul_right]
  constructor
  · rw [← e1, h1, Nat.add_mul_div_left _ _ (by omega), Nat.div_eq_of_lt h2, Nat.zero_add]
  · rw [← e2, h1, Nat.add_mul_mod_self_left, Nat.mod_eq_of_lt h2]

/-- the divisor, moved up -/
theorem norm_len {xs : List Nat} {k v : Nat} (hL : Lim 18446744073709551616 xs) (ht : Trm xs) (hv : val 18446744073709551616 xs = v) (h1 : 9223372036854775808 * 18446744073709551616 ^ k ≤ v) (h2 : v < 18446744073709551616 ^ (k + 1)) : xs.length = k + 1 ∧ 9223372036854775808 ≤ xs.getD k 0 := by
  have hle := length_of_val (by omega) ht (show val 18446744073709551616 xs < 18446744073709551616 ^ (k + 1) by omega)
  have hge : k < xs.length := by
    rcases Nat.lt_or_ge k xs.length with h | h
    · exact h
    · exfalso
      have h3 := val_lt hL
      have h4 : (18446744073709551616 : Nat) ^ xs.length ≤ 18446744073709551616 ^ k := Nat.pow_le_pow_right (by omega) h
      have h5 : 1 * 18446744073709551616 ^ k ≤ 9223372036854775808 * 18446744073709551616 ^ k := Nat.mul_le_mul_right _ (by omega)
      omega
  refine ⟨by omega, ?_⟩
  have e := val_take_succ 18446744073709551616 xs k
  rw [List.take_of_length_le (by omega)] at e
  have h3 := val_lt (hL.take k)
  rw [List.length_take, Nat.min_eq_left (by omega)] at h3
  rcases Nat.lt_or_ge (xs.getD k 0) 9223372036854775808 with h | h
  · exfalso
    have h4 : 18446744073709551616 ^ k * (xs.getD k 0 + 1) ≤ 18446744073709551616 ^ k * 9223372036854775808 := Nat.mul_le_mul_left _ h
    rw [Nat.mul_add] at h4
    rw [Nat.mul_comm] at h1
    omega
  · exact h
end Go.Proofs.YtkhlmcknbangfaaGreatDoor
namespace Go.Proofs.YtkhlmcknbangfaaGreatDoor

theorem val_set (β : Nat) : ∀ (xs : List Nat) (k y : Nat), k < xs.length → val β (xs.set k y) + β ^ k * xs.getD k 0 = val β xs + β ^ k * y
  | x :: xs, 0, y, _ => by simp [val]; omega
  | x :: xs, k + 1, y, h => by
    have ih := val_set β xs k y (by simpa using h)
    simp only [List.set_cons_succ, val, List.getD_cons_succ]
    have e := congrArg (fun t => β * t) ih
    simp only [Nat.mul_add] at e
    have e1 : β * (β ^ k * xs.getD k 0) = β ^ (k + 1) * xs.getD k 0 := by rw [Nat.pow_succ]; ac_rfl
    have e2 : β * (β ^ k * y) = β ^ (k + 1) * y := by rw [Nat.pow_succ]; ac_rfl
    omega
theorem limb_of {β : Nat} (hβ : 1 < β) {xs : List Nat} (hL : Lim β xs) (k : Nat) : xs.getD k 0 = val β xs / β ^ k % β := by
  by_cases hk : k < xs.length
  · rw [val_div_pow hL (by omega) k (by omega), List.drop_eq_getElem_cons hk]
    simp only [val]
    rw [Nat.add_mul_mod_self_left, Nat.mod_eq_of_lt (hL _ (List.getElem_mem hk))]
    simp [List.getD, List.getElem?_eq_getElem hk]
  · have h1 := val_lt hL
    have h2 : β ^ xs.length ≤ β ^ k := Nat.pow_le_pow_right (by omega) (by omega)
    rw [Nat.div_eq_of_lt (by omega)]
    simp [List.getD, List.getElem?_eq_none (show xs.length ≤ k by omega)]
theorem pow_256 (i : Nat) : 256 ^ i = 18446744073709551616 ^ (i / 8) * 2 ^ (i % 8 * 8) := by
  rw [show (256 : Nat) = 2 ^ 8 from rfl, show (18446744073709551616 : Nat) = 2 ^ 64 from rfl, ← Nat.pow_mul, ← Nat.pow_mul, ← Nat.pow_add]
  congr 1; omega
/-- the limb into which the next byte goes is below its place -/
theorem limb_room {xs : List Nat} {i : Nat} (hL : Lim 18446744073709551616 xs) (hv : val 18446744073709551616 xs < 256 ^ i) : xs.getD (i / 8) 0 < 2 ^ (i % 8 * 8) := by
  rw [limb_of (by omega) hL]
  rw [pow_256] at hv
  have h1 : val 18446744073709551616 xs / 18446744073709551616 ^ (i / 8) < 2 ^ (i % 8 * 8) := by
    rw [Nat.div_lt_iff_lt_mul (Nat.pow_pos (by omega)), Nat.mul_comm]; exact hv
  exact Nat.lt_of_le_of_lt (Nat.mod_le _ _) h1
/-- one byte more -/
theorem byte_in {xs : List Nat} {i d v : Nat} (hL : Lim 18446744073709551616 xs) (hi : i / 8 < xs.length) (hv : val 18446744073709551616 xs = v) (hlt : v < 256 ^ i) (hd : d < 256) :
    xs.getD (i / 8) 0 ||| (d * 2 ^ (i % 8 * 8) % 18446744073709551616) = xs.getD (i / 8) 0 + d * 2 ^ (i % 8 * 8) ∧ xs.getD (i / 8) 0 + d * 2 ^ (i % 8 * 8) < 18446744073709551616 ∧
    val 18446744073709551616 (xs.set (i / 8) (xs.getD (i / 8) 0 + d * 2 ^ (i % 8 * 8))) = v + 256 ^ i * d := by
  have hr := limb_room hL (show val 18446744073709551616 xs < 256 ^ i by omega)
  have hp : i % 8 * 8 ≤ 56 := by omega
  have hs : (d + 1) * 2 ^ (i % 8 * 8) ≤ 18446744073709551616 := by
    have h1 : (d + 1) * 2 ^ (i % 8 * 8) ≤ 256 * 2 ^ 56 := Nat.mul_le_mul (by omega) (Nat.pow_le_pow_right (by omega) hp)
    exact h1
  rw [Nat.add_mul] at hs
  have hlt2 : xs.getD (i / 8) 0 + d * 2 ^ (i % 8 * 8) < 18446744073709551616 := by omega
  refine ⟨?_, hlt2, ?_⟩
  · rw [Nat.mod_eq_of_lt (by omega), Nat.mul_comm d]
    exact or_add d hr
  · have := val_set 18446744073709551616 xs (i / 8) (xs.getD (i / 8) 0 + d * 2 ^ (i % 8 * 8)) hi
    rw [Nat.mul_add, hv] at this
    have e : 18446744073709551616 ^ (i / 8) * (d * 2 ^ (i % 8 * 8)) = 256 ^ i * d := by rw [pow_256 i]; ac_rfl
    omega
end Go.Proofs.YtkhlmcknbangfaaGreatDoor
namespace Go.Proofs.YtkhlmcknbangfaaGreatDoor

theorem cancel_le {N R x y : Nat} (hc : Nat.Coprime N R) (h : x * R % N = y * R % N) (hl : x ≤ y) : x % N = y % N := by
  have h1 := Nat.sub_mod_eq_zero_of_mod_eq h.symm
  rw [← Nat.sub_mul] at h1
  have h2 := hc.dvd_of_dvd_mul_right (Nat.dvd_of_mod_eq_zero h1)
  obtain ⟨t, ht⟩ := h2
  have : y = x + N * t := by omega
  rw [this, Nat.add_mul_mod_self_left]
theorem cancel {N R x y : Nat} (hc : Nat.Coprime N R) (h : x * R % N = y * R % N) : x % N = y % N := by
  rcases Nat.le_total x y with hl | hl
  · exact cancel_le hc h hl
  · exact (cancel_le hc h.symm hl).symm

/-- a prime -/
def Prm (p : Nat) : Prop := 2 ≤ p ∧ ∀ m, m ∣ p → m = 1 ∨ m = p
theorem Prm.coprime {p a : Nat} (h : Prm p) (ha : ¬ p ∣ a) : Nat.Coprime p a := by
  rcases h.2 _ (Nat.gcd_dvd_left p a) with e | e
  · exact e
  · exact absurd (e ▸ Nat.gcd_dvd_right p a) ha
theorem Prm.dvd_mul {p a b : Nat} (h : Prm p) (hd : p ∣ a * b) : p ∣ a ∨ p ∣ b := by
  by_cases ha : p ∣ a
  · exact .inl ha
  · exact .inr ((h.coprime ha).dvd_of_dvd_mul_left hd)

/-- how many ways there are to choose -/
def ch : Nat → Nat → Nat
  | _, 0 => 1
  | 0, _ + 1 => 0
  | n + 1, k + 1 => ch n k + ch n (k + 1)
theorem ch_mul : ∀ n k, (k + 1) * ch (n + 1) (k + 1) = (n + 1) * ch n k := by
  intro n
  induction n with
  | zero =>
    intro k
    cases k with
    | zero => rfl
    | succ k => simp [ch]
  | succ n ih =>
    intro k
    cases k with
    | zero =>
      have := ih 0
      simp only [ch] at this ⊢
      simp at this ⊢
      omega
    | succ k =>
      have h1 := ih k
      have h2 := ih (k + 1)
      have e1 : ch (n + 1 + 1) (k + 1 + 1) = ch (n + 1) (k + 1) + ch (n + 1) (k + 1 + 1) := rfl
      have e2 : ch (n + 1) (k + 1) = ch n k + ch n (k + 1) := rfl
      rw [e1, Nat.mul_add, h2, show (k + 1 + 1) * ch (n + 1) (k + 1) = (k + 1) * ch (n + 1) (k + 1) + ch (n + 1) (k + 1) by rw [Nat.add_mul, Nat.one_mul], h1]
      rw [show (n + 1 + 1) * ch (n + 1) (k + 1) = (n + 1) * ch (n + 1) (k + 1) + ch (n + 1) (k + 1) by rw [Nat.add_mul, Nat.one_mul]]
      conv => rhs; rw [e2, Nat.mul_add]
      rw [← e2]
      omega
theorem ch_over : ∀ n k, n < k → ch n k = 0 := by
  intro n
  induction n with
  | zero => intro k hk; cases k with
    | zero => omega
    | succ k => rfl
  | succ n ih => intro k hk; cases k with
    | zero => omega
    | succ k => simp [ch, ih k (by omega), ih (k + 1) (by omega)]
theorem ch_all : ∀ n, ch n n = 1 := by
  intro n
  induction n with
  | zero => rfl
  | succ n ih => simp [ch, ih, ch_over n (n + 1) (by omega)]
/-- the first m terms of the sum -/
def bs (a n : Nat) : Nat → Nat
  | 0 => 0
  | m + 1 => bs a n m + ch n m * a ^ m
theorem bs_step (a n : Nat) : ∀ m, bs a (n + 1) (m + 1) = bs a n (m + 1) + a * bs a n m := by
  intro m
  induction m with
  | zero => simp [bs, ch]
  | succ m ih =>
    rw [bs, ih, bs.eq_2 a n (m + 1), bs.eq_2 a n m]
    simp only [ch, Nat.add_mul, Nat.mul_add, Nat.pow_succ]
    have : a * (ch n m * a ^ m) = ch n m * (a ^ m * a) := by rw [Nat.mul_left_comm, Nat.mul_comm a]
    rw [this]
    omega
theorem bs_all (a : Nat) : ∀ n, bs a n (n + 1) = (a + 1) ^ n := by
  intro n
  induction n with
  | zero => simp [bs, ch]
  | succ n ih =>
    rw [bs_step, bs, ch_over n (n + 1) (by omega), Nat.zero_mul, Nat.add_zero, ih, Nat.pow_succ, Nat.mul_add, Nat.mul_one, Nat.mul_comm a]
    omega
theorem Prm.ch {p : Nat} (h : Prm p) {k : Nat} (h0 : 0 < k) (hk : k < p) : p ∣ ch p k := by
  obtain ⟨q, rfl⟩ : ∃ q, p = q + 1 := ⟨p - 1, by have := h.1; omega⟩
  obtain ⟨j, rfl⟩ : ∃ j, k = j + 1 := ⟨k - 1, by omega⟩
  have := ch_mul q j
  rcases h.dvd_mul (a := j + 1) (b := Go.Proofs.YtkhlmcknbangfaaGreatDoor.ch (q + 1) (j + 1)) ⟨_, this⟩ with hd | hd
  · exact absurd (Nat.le_of_dvd (by omega) hd) (by omega)
  · exact hd
theorem Prm.bs {p : Nat} (h : Prm p) (a : Nat) : ∀ m, m < p → bs a p (m + 1) % p = 1 % p := by
  intro m
  induction m with
  | zero => intro _; simp [Go.Proofs.YtkhlmcknbangfaaGreatDoor.bs, Go.Proofs.YtkhlmcknbangfaaGreatDoor.ch]
  | succ m ih =>
    intro hm
    rw [Go.Proofs.YtkhlmcknbangfaaGreatDoor.bs, Nat.add_mod, ih (by omega), Nat.mul_mod, Nat.mod_eq_zero_of_dvd (h.ch (by omega) hm), Nat.zero_mul, Nat.zero_mod, Nat.add_zero, Nat.mod_mod]
theorem Prm.fermat {p : Nat} (h : Prm p) : ∀ a, a ^ p % p = a % p := by
  intro a
  have h2 := h.1
  induction a with
  | zero => rw [Nat.zero_pow (by omega)]
  | succ a ih =>
    rw [← bs_all, Go.Proofs.YtkhlmcknbangfaaGreatDoor.bs, ch_all, Nat.one_mul, Nat.add_mod, ih]
    obtain ⟨q, rfl⟩ : ∃ q, p = q + 1 := ⟨p - 1, by omega⟩
    rw [h.bs a q (by omega), ← Nat.add_mod, Nat.add_comm]
theorem Prm.little {p a : Nat} (h : Prm p) (ha : a % p ≠ 0) : a ^ (p - 1) % p = 1 := by
  have h2 := h.1
  have hf := h.fermat a
  obtain ⟨q, rfl⟩ : ∃ q, p = q + 1 := ⟨p - 1, by omega⟩
  have hc := h.coprime (a := a) (fun hd => ha (Nat.mod_eq_zero_of_dvd hd))
  have := cancel (x := a ^ q) (y := 1) hc (by rw [← Nat.pow_succ, hf, Nat.one_mul])
  rw [Nat.add_sub_cancel, this, Nat.mod_eq_of_lt (by omega)]
theorem Prm.root {p x : Nat} (h : Prm p) (hx : x * x % p = 1) : x % p = 1 ∨ x % p = p - 1 := by
  have h2 := h.1
  have hx0 : 0 < x := by
    rcases Nat.eq_zero_or_pos x with rfl | hh
    · simp at hx
    · exact hh
  obtain ⟨y, rfl⟩ : ∃ y, x = y + 1 := ⟨x - 1, by omega⟩
  have h1 : (y + 1) * (y + 1) % p = 1 % p := by rw [hx, Nat.mod_eq_of_lt (by omega)]
  have h3 := Nat.sub_mod_eq_zero_of_mod_eq h1
  have e : (y + 1) * (y + 1) - 1 = y * (y + 2) := by
    have e1 : (y + 1) * (y + 1) = y * y + y + y + 1 := by rw [Nat.add_mul, Nat.mul_add]; omega
    have e2 : y * (y + 2) = y * y + y * 2 := Nat.mul_add _ _ _
    omega
  rw [e] at h3
  rcases h.dvd_mul (Nat.dvd_of_mod_eq_zero h3) with ⟨t, ht⟩ | ⟨t, ht⟩
  · left; rw [ht, Nat.mul_add_mod, Nat.mod_eq_of_lt (by omega)]
  · right
    have ht0 : 0 < t := by
      rcases Nat.eq_zero_or_pos t with rfl | hh
      · simp at ht
      · exact hh
    obtain ⟨s, rfl⟩ : ∃ s, t = s + 1 := ⟨t - 1, by omega⟩
    rw [Nat.mul_add, Nat.mul_one] at ht
    rw [show y + 1 = p * s + (p - 1) by omega, Nat.mul_add_mod, Nat.mod_eq_of_lt (by omega)]

/-- what squaring makes of x -/
def sqs (x n : Nat) : Nat → Nat
  | 0 => x
  | i + 1 => sqs x n i * sqs x n i % n
theorem sqs_pow (a d n : Nat) : ∀ i, sqs (a ^ d % n) n i = a ^ (d * 2 ^ i) % n := by
  intro i
  induction i with
  | zero => simp [sqs]
  | succ i ih => rw [sqs, ih, ← Nat.mul_mod, ← Nat.pow_add]; congr 2; rw [Nat.pow_succ, ← Nat.mul_assoc]; omega
/-- is w among the first k squares -/
def among (x n w k : Nat) : Bool := (List.range k).any fun i => sqs x n i == w
/-- no base tells of a prime: the first one, or one of the squares is p - 1 -/
theorem Prm.passes {p a d s : Nat} (h : Prm p) (ha : a % p ≠ 0) (hd : d * 2 ^ s = p - 1) : a ^ d % p = 1 ∨ among (a ^ d % p) p (p - 1) s = true := by
  have hl := h.little ha
  rw [← hd] at hl
  have h2 := h.1
  have key : ∀ k, a ^ (d * 2 ^ k) % p = 1 → a ^ d % p = 1 ∨ ∃ i, i < k ∧ sqs (a ^ d % p) p i = p - 1 := by
    intro k
    induction k with
    | zero => intro hk; left; simpa using hk
    | succ k ih =>
      intro hk
      have e : a ^ (d * 2 ^ (k + 1)) = a ^ (d * 2 ^ k) * a ^ (d * 2 ^ k) := by rw [← Nat.pow_add]; congr 1; rw [Nat.pow_succ, ← Nat.mul_assoc]; omega
      rw [e] at hk
      rcases h.root hk with h1 | h1
      · rcases ih h1 with h3 | ⟨i, hi, h3⟩
        · exact .inl h3
        · exact .inr ⟨i, by omega, h3⟩
      · exact .inr ⟨k, by omega, by rw [sqs_pow]; exact h1⟩
  rcases key s hl with h1 | ⟨i, hi, h1⟩
  · exact .inl h1
  · right
    unfold among
    rw [List.any_eq_true]
    exact ⟨i, List.mem_range.2 hi, by simp [h1]⟩
end Go.Proofs.YtkhlmcknbangfaaGreatDoor
namespace Go.Proofs.YtkhlmcknbangfaaGreatDoor

theorem mont_next {out A N B d o P S K : Nat} (h : out * P = A * S + N * K) (hT : (out + d * A + o * N) % B = 0) :
    (out + d * A + o * N) / B * (P * B) = A * (S + d * P) + N * (K + o * P) := by
  have h1 : (out + d * A + o * N) / B * B = out + d * A + o * N := Nat.div_mul_cancel (Nat.dvd_of_mod_eq_zero hT)
  rw [Nat.mul_comm P B, ← Nat.mul_assoc, h1, Nat.add_mul, Nat.add_mul, h]
  simp only [Nat.mul_add, Nat.mul_comm, Nat.mul_left_comm]
  omega
theorem mont_less {out A N P S K : Nat} (h : out * P = A * S + N * K) (hA : A < 2 * N) (hS : S < P) (hK : K < P) : out < 3 * N := by
  apply Nat.lt_of_mul_lt_mul_right (a := P)
  have h1 : A * S ≤ 2 * N * S := Nat.mul_le_mul_right S (Nat.le_of_lt hA)
  have h2 : 2 * N * S ≤ 2 * N * P := Nat.mul_le_mul_left _ (Nat.le_of_lt hS)
  have h3 : N * K < N * P := Nat.mul_lt_mul_of_pos_left hK (by omega)
  have h4 : 3 * N * P = 2 * N * P + N * P := by rw [← Nat.add_mul]; congr 1; omega
  omega
theorem mont_room {out A N B d o R : Nat} (ho : out < 3 * N) (hA : A < 2 * N) (hd : d < B) (hoo : o < B) (hR : 4 * N ≤ R) : out + d * A + o * N < B * R := by
  obtain ⟨b, rfl⟩ : ∃ b, B = b + 1 := ⟨B - 1, by omega⟩
  have h1 : d * A ≤ b * (2 * N) := Nat.mul_le_mul (by omega) (Nat.le_of_lt hA)
  have h2 : o * N ≤ b * N := Nat.mul_le_mul_right N (by omega)
  have h3 : (b + 1) * (4 * N) ≤ (b + 1) * R := Nat.mul_le_mul_left _ hR
  have h4 : (b + 1) * (4 * N) = b * (2 * N) + b * N + b * N + 4 * N := by
    rw [Nat.add_mul, Nat.one_mul, show 4 * N = 2 * N + N + N by omega, Nat.mul_add, Nat.mul_add]
  omega
theorem mont_last {out A N R S K : Nat} (h : out * R = A * S + N * K) (hA : A < 2 * N) (hS : S < 2 * N) (hK : K < R) (hR : 4 * N ≤ R) : out < 2 * N := by
  apply Nat.lt_of_mul_lt_mul_right (a := R)
  have h1 : A * S ≤ 2 * N * S := Nat.mul_le_mul_right S (Nat.le_of_lt hA)
  have h2 : 2 * N * S ≤ 2 * N * (2 * N) := Nat.mul_le_mul_left _ (Nat.le_of_lt hS)
  have h3 : N * K < N * R := Nat.mul_lt_mul_of_pos_left hK (by omega)
  have h4 : 2 * N * (2 * N) = N * (4 * N) := by
    rw [Nat.mul_comm 2 N, Nat.mul_assoc]; congr 1; omega
  have h5 : N * (4 * N) ≤ N * R := Nat.mul_le_mul_left _ hR
  have h6 : 2 * N * R = N * R + N * R := by rw [Nat.two_mul, Nat.add_mul]
  omega
/-- the digit by which n is taken makes the lowest one 0 -/
theorem mont_often {u a d m n B : Nat} (h : (n * m + 1) % B = 0) : (u + d * a + (u + a * d) % B * m % B * n) % B = 0 := by
  have e : ((u + a * d) % B * m % B * n) % B = ((u + a * d) * (m * n)) % B := by
    rw [Nat.mod_mul_mod, Nat.mul_assoc, Nat.mod_mul_mod]
  rw [Nat.add_mod, e, ← Nat.add_mod, Nat.mul_comm d a]
  rw [show u + a * d + (u + a * d) * (m * n) = (u + a * d) * (n * m + 1) by rw [Nat.mul_add, Nat.mul_one, Nat.mul_comm m n]; omega]
  rw [Nat.mul_mod, h, Nat.mul_zero, Nat.zero_mod]
theorem two_dvd {i j : Nat} (h : i ≤ j) : (2 : Int) ^ i ∣ 2 ^ j := ⟨2 ^ (j - i), by rw [← Int.pow_add]; congr 1; omega⟩
/-- each step of the inverse makes twice as many digits right -/
theorem newton {n x y : Int} {j i : Nat} (h : (2 : Int) ^ j ∣ n * x - 1) (hi : i ≤ 2 * j) (hi64 : i ≤ 64) (hy : (18446744073709551616 : Int) ∣ y - x * (2 - n * x)) : (2 : Int) ^ i ∣ n * y - 1 := by
  have h1 : (2 : Int) ^ (2 * j) ∣ (n * x - 1) * (n * x - 1) := by
    rw [Nat.two_mul, Int.pow_add]
    exact Int.mul_dvd_mul h h
  have h2 : (2 : Int) ^ i ∣ (n * x - 1) * (n * x - 1) := Int.dvd_trans (two_dvd hi) h1
  have h3 : (2 : Int) ^ i ∣ y - x * (2 - n * x) := by
    refine Int.dvd_trans ?_ hy
    rw [show (18446744073709551616 : Int) = 2 ^ 64 by decide]
    exact two_dvd hi64
  have h4 := Int.dvd_sub (Int.dvd_mul_of_dvd_right (b := n) h3) h2
  have e : n * (y - x * (2 - n * x)) - (n * x - 1) * (n * x - 1) = n * y - 1 := by
    simp only [Int.mul_sub, Int.sub_mul, Int.mul_one, Int.one_mul]
    rw [show n * (x * 2) = n * x + n * x by rw [← Int.mul_assoc]; omega, show n * (x * (n * x)) = n * x * (n * x) by rw [Int.mul_assoc]]
    omega
  rw [← e]
  exact h4
theorem coprime_two {N : Nat} (h : N % 2 = 1) : Nat.Coprime N 2 := by
  have : Nat.gcd N 2 ∣ 2 := Nat.gcd_dvd_right N 2
  have h2 : Nat.gcd N 2 ∣ N := Nat.gcd_dvd_left N 2
  have h3 : Nat.gcd N 2 ≤ 2 := Nat.le_of_dvd (by omega) this
  have h4 : 0 < Nat.gcd N 2 := Nat.gcd_pos_of_pos_right _ (by omega)
  unfold Nat.Coprime
  rcases (show Nat.gcd N 2 = 1 ∨ Nat.gcd N 2 = 2 by omega) with e | e
  · exact e
  · rw [e] at h2
    have := Nat.mod_eq_zero_of_dvd h2
    omega
theorem coprime_base {N : Nat} (h : N % 2 = 1) (k : Nat) : Nat.Coprime N (18446744073709551616 ^ k) := by
  have e : (18446744073709551616 : Nat) = 2 ^ 64 := by decide
  rw [e, ← Nat.pow_mul]
  exact Nat.Coprime.pow_right _ (coprime_two h)
/-- x stands for v: below twice N, v times R modulo N -/
def Stands (N R v x : Nat) : Prop := x < 2 * N ∧ x % N = v * R % N
theorem stands_times {N R v u x y out K : Nat} (hc : Nat.Coprime N R) (hx : Stands N R v x) (hy : Stands N R u y) (h : out * R = x * y + N * K) (hK : K < R) (hR : 4 * N ≤ R) : Stands N R (v * u) out := by
  refine ⟨mont_last h hx.1 hy.1 hK hR, cancel hc ?_⟩
  rw [h, Nat.add_mul_mod_self_left, Nat.mul_mod, hx.2, hy.2, ← Nat.mul_mod]
  congr 1
  simp only [Nat.mul_comm, Nat.mul_left_comm]
theorem stands_leave {N R v x out K : Nat} (hc : Nat.Coprime N R) (hx : Stands N R v x) (h : out * R = x * 1 + N * K) : out % N = v % N := by
  refine cancel hc ?_
  rw [h, Nat.add_mul_mod_self_left, Nat.mul_one, hx.2]
end Go.Proofs.YtkhlmcknbangfaaGreatDoor
namespace Go.Proofs.YtkhlmcknbangfaaGreatDoor

/-- the loop of the way back: what is kept of the two factors; b: is the older one below 0 -/
structure Way (n a older old uo u : Nat) (b : Bool) : Prop where
  g : Nat.gcd older old = Nat.gcd n a
  s : older * u + old * uo = n
  le : uo ≤ n
  e1 : (n : Int) ∣ older + (if b then 1 else -1) * ((a : Int) * uo)
  e2 : (n : Int) ∣ old - (if b then 1 else -1) * ((a : Int) * u)

theorem Way.start (n a : Nat) : Way n a n a 0 1 true :=
  ⟨rfl, by simp, by simp, by simp, by simp⟩
theorem Way.step {n a older old uo u : Nat} {b : Bool} (h : Way n a older old uo u b) (ho : 0 < older) :
    Way n a old (older % old) u (uo + older / old * u) (!b) := by
  have hdm : (older : Int) % old = older - old * (older / old) := by rw [Int.emod_def]
  refine ⟨?_, ?_, ?_, ?_, ?_⟩
  · rw [← h.g, Nat.gcd_comm older old, Nat.gcd_rec old older, Nat.gcd_comm]
  · have e := Nat.div_add_mod older old
    have hs := h.s
    rw [Nat.mul_add, ← hs]
    conv => rhs; rw [← e]
    rw [Nat.add_mul, Nat.mul_assoc]
    omega
  · have hs := h.s
    have := Nat.mul_le_mul_right u ho
    omega
  · have := h.e2
    cases b <;> simpa [Int.sub_eq_add_neg] using this
  · have h1 := h.e1
    have h2 := h.e2
    have h3 := Int.dvd_sub h1 (Int.dvd_mul_of_dvd_right (b := ((older / old : Nat) : Int)) h2)
    have : ((older % old : Nat) : Int) - (if (!b) = true then 1 else -1) * ((a : Int) * ((uo + older / old * u : Nat) : Int)) =
        (older : Int) + (if b = true then 1 else -1) * ((a : Int) * uo) - (older / old : Nat) * (old - (if b = true then 1 else -1) * ((a : Int) * u)) := by
      push_cast
      rw [hdm]
      cases b
      · simp
        rw [Int.mul_add, Int.mul_add]
        have : (a : Int) * ((older : Int) / old * u) = (older : Int) / old * (a * u) := by rw [Int.mul_left_comm]
        rw [this, Int.mul_comm (older / old : Int) old]
        omega
      · simp
        rw [Int.mul_add, Int.mul_sub]
        have : (a : Int) * ((older : Int) / old * u) = (older : Int) / old * (a * u) := by rw [Int.mul_left_comm]
        rw [this, Int.mul_comm (older / old : Int) old]
        omega
    rw [this]
    exact h3
/-- what the loop leaves -/
theorem Way.done {n a older uo u : Nat} {b : Bool} (h : Way n a older 0 uo u b) :
    older = Nat.gcd n a ∧ a * ((if b then n - uo else uo) % n) % n = older % n := by
  have hg := h.g
  rw [Nat.gcd_zero_right] at hg
  refine ⟨hg, ?_⟩
  have h1 := h.e1
  have hl := h.le
  have key : ((n : Nat) : Int) ∣ ((a * ((if b then n - uo else uo)) : Nat) : Int) - (older : Int) := by
    cases b
    · simp at h1 ⊢
      have := Int.dvd_neg.2 h1
      rw [show (a : Int) * uo - older = -(older + -((a : Int) * uo)) by omega]
      exact this
    · simp at h1 ⊢
      have h2 : ((n - uo : Nat) : Int) = n - uo := by omega
      rw [h2, Int.mul_sub]
      have h3 := Int.dvd_sub (Int.dvd_mul_left (a : Int) n) h1
      rw [show (a : Int) * n - a * uo - older = a * n - (older + a * uo) by omega]
      exact h3
  rw [Nat.mul_mod_mod]
  have h6 := Int.emod_eq_emod_iff_emod_sub_eq_zero.2 (Int.emod_eq_zero_of_dvd key)
  exact_mod_cast h6
end Go.Proofs.YtkhlmcknbangfaaGreatDoor
namespace Go.Proofs.YtkhlmcknbangfaaGreatDoor
set_option linter.unusedVariables false
set_option maxRecDepth 100000

theorem Prm.some {n : Nat} : 2 ≤ n → ∃ p, Prm p ∧ p ∣ n := by
  induction n using Nat.strongRecOn with
  | ind n ih =>
    intro h
    by_cases hp : Prm n
    · exact ⟨n, hp, Nat.dvd_refl n⟩
    · have : ∃ m, m ∣ n ∧ m ≠ 1 ∧ m ≠ n := by
        apply Classical.byContradiction
        intro hc
        apply hp
        refine ⟨h, fun m hm => ?_⟩
        rcases Nat.decEq m 1 with h1 | h1
        · rcases Nat.decEq m n with h2 | h2
          · exact absurd ⟨m, hm, h1, h2⟩ hc
          · exact .inr h2
        · exact .inl h1
      obtain ⟨m, hm, h1, h2⟩ := this
      have hle := Nat.le_of_dvd (by omega) hm
      have h0 : m ≠ 0 := fun h0 => by subst h0; have := Nat.eq_zero_of_zero_dvd hm; omega
      obtain ⟨p, hp', hd⟩ := ih m (by omega) (by omega)
      exact ⟨p, hp', Nat.dvd_trans hd hm⟩
/-- a number all of whose prime divisors are above its root is a prime -/
theorem prm_of_large {n : Nat} (h2 : 2 ≤ n) (h : ∀ p, Prm p → p ∣ n → n < p * p) : Prm n := by
  refine ⟨h2, fun m hm => ?_⟩
  apply Classical.byContradiction
  intro hc
  have h1 : m ≠ 1 := fun e => hc (.inl e)
  have h3 : m ≠ n := fun e => hc (.inr e)
  obtain ⟨k, hk⟩ := hm
  have hm0 : m ≠ 0 := fun e => by subst e; simp at hk; omega
  have hk0 : k ≠ 0 := fun e => by subst e; simp at hk; omega
  have hk1 : k ≠ 1 := fun e => by subst e; simp at hk; omega
  obtain ⟨p, hp, hpd⟩ := Prm.some (show 2 ≤ m by omega)
  obtain ⟨q, hq, hqd⟩ := Prm.some (show 2 ≤ k by omega)
  have hpl := Nat.le_of_dvd (by omega) hpd
  have hql := Nat.le_of_dvd (by omega) hqd
  have hpq : p * q ≤ n := by rw [hk]; exact Nat.mul_le_mul hpl hql
  rcases Nat.le_total p q with hl | hl
  · have := h p hp (Nat.dvd_trans hpd ⟨k, hk⟩)
    have := Nat.mul_le_mul_left p hl
    omega
  · have := h q hq (Nat.dvd_trans hqd ⟨m, by rw [hk, Nat.mul_comm]⟩)
    have := Nat.mul_le_mul_right q hl
    omega
theorem pow_one_mul {a p x : Nat} (h : a ^ x % p = 1 % p) (k : Nat) : a ^ (x * k) % p = 1 % p := by
  rw [Nat.pow_mul, Nat.pow_mod, h, ← Nat.pow_mod, Nat.one_pow]
theorem pow_one_gcd {a p : Nat} : ∀ y x, a ^ x % p = 1 % p → a ^ y % p = 1 % p → a ^ Nat.gcd x y % p = 1 % p := by
  intro y
  induction y using Nat.strongRecOn with
  | ind y ih =>
    intro x hx hy
    rcases Nat.eq_zero_or_pos y with h0 | h0
    · subst h0; rw [Nat.gcd_zero_right]; exact hx
    · have e : Nat.gcd x y = Nat.gcd y (x % y) := by rw [Nat.gcd_comm x y, Nat.gcd_rec y x, Nat.gcd_comm]
      rw [e]
      refine ih (x % y) (Nat.mod_lt _ h0) y hy ?_
      have hd := Nat.div_add_mod x y
      rw [← hd, Nat.pow_add, Nat.mul_mod, pow_one_mul hy, ← Nat.mul_mod, Nat.one_mul] at hx
      exact hx
/-- Pocklington: a prime part q of n - 1 parts each prime divisor of n, less one -/
theorem pock {n a q p : Nat} (hn : 1 < n) (hq : Prm q) (hqn : (n - 1) % q = 0) (h1 : a ^ (n - 1) % n = 1) (hg : Nat.gcd (a ^ ((n - 1) / q) % n + (n - 1)) n = 1) (hp : Prm p) (hpn : p ∣ n) : q ∣ p - 1 := by
  apply Classical.byContradiction
  intro hc
  have hp2 := hp.1
  have e1 : a ^ (n - 1) % p = 1 % p := by
    rw [← Nat.mod_mod_of_dvd _ hpn, h1]
  have ha : a % p ≠ 0 := fun h0 => by
    rw [Nat.pow_mod, h0, Nat.zero_pow (by omega)] at e1
    rw [Nat.mod_eq_of_lt (show 1 < p by omega)] at e1
    simp at e1
  have e2 : a ^ (p - 1) % p = 1 % p := by rw [hp.little ha, Nat.mod_eq_of_lt (by omega)]
  have e3 := pow_one_gcd (p - 1) (n - 1) e1 e2
  have hco : Nat.Coprime q (Nat.gcd (n - 1) (p - 1)) := hq.coprime fun hd => hc (Nat.dvd_trans hd (Nat.gcd_dvd_right _ _))
  have hmul : n - 1 = q * ((n - 1) / q) := by
    have := Nat.div_add_mod (n - 1) q
    omega
  have hdv : Nat.gcd (n - 1) (p - 1) ∣ (n - 1) / q := by
    have h5 : Nat.gcd (n - 1) (p - 1) ∣ q * ((n - 1) / q) := by
      rw [← hmul]; exact Nat.gcd_dvd_left _ _
    exact Nat.Coprime.dvd_of_dvd_mul_left hco.symm h5
  obtain ⟨k, hk⟩ := hdv
  have e4 : a ^ ((n - 1) / q) % p = 1 % p := by
    rw [hk]; exact pow_one_mul e3 k
  have hpg : p ∣ Nat.gcd (a ^ ((n - 1) / q) % n + (n - 1)) n := by
    apply Nat.dvd_gcd _ hpn
    apply Nat.dvd_of_mod_eq_zero
    rw [Nat.add_mod, Nat.mod_mod_of_dvd _ hpn, e4, ← Nat.add_mod, show 1 + (n - 1) = n by omega]
    exact Nat.mod_eq_zero_of_dvd hpn
  rw [hg] at hpg
  have := Nat.le_of_dvd (by omega) hpg
  omega

/-- powers by squaring -/
def pwm (n : Nat) : Nat → Nat → Nat → Nat
  | 0, _, _ => 1 % n
  | f + 1, a, e => if e = 0 then 1 % n else if e % 2 = 0 then pwm n f (a * a % n) (e / 2) else a * pwm n f (a * a % n) (e / 2) % n
theorem pwm_is (n : Nat) : ∀ f a e, e < 2 ^ f → pwm n f a e = a ^ e % n := by
  intro f
  induction f with
  | zero =>
    intro a e h
    have : e = 0 := by simpa using h
    subst this
    simp [pwm]
  | succ f ih =>
    intro a e h
    have hh : e / 2 < 2 ^ f := by rw [Nat.pow_succ] at h; omega
    have e1 : (a * a % n) ^ (e / 2) % n = a ^ (2 * (e / 2)) % n := by
      rw [← Nat.pow_mod, ← Nat.pow_two, ← Nat.pow_mul]
    unfold pwm
    by_cases h0 : e = 0
    · subst h0; simp
    · rw [if_neg h0]
      by_cases h1 : e % 2 = 0
      · rw [if_pos h1, ih _ _ hh, e1, show 2 * (e / 2) = e by omega]
      · rw [if_neg h1, ih _ _ hh, e1, Nat.mul_mod_mod, ← Nat.pow_succ', show (2 * (e / 2)).succ = e by omega]
/-- is there no divisor up to the root? -/
def noDiv (n : Nat) : Nat → Nat → Bool
  | 0, _ => true
  | f + 1, d => n % d != 0 && noDiv n f (d + 1)
theorem noDiv_is {n : Nat} : ∀ f d, noDiv n f d = true → ∀ e, d ≤ e → e < d + f → n % e ≠ 0 := by
  intro f
  induction f with
  | zero => intro d _ e h1 h2; omega
  | succ f ih =>
    intro d h e h1 h2
    simp only [noDiv, Bool.and_eq_true] at h
    rcases Nat.eq_or_lt_of_le h1 with he | he
    · subst he; simpa using h.1
    · exact ih (d + 1) h.2 e he (by omega)
theorem prm_small {n : Nat} (h2 : 2 ≤ n) (f : Nat) (hf : n < (f + 2) * (f + 2)) (h : noDiv n f 2 = true) : Prm n :=
  prm_of_large h2 fun p hp hd => by
    rcases Nat.lt_or_ge p (f + 2) with hl | hl
    · exact absurd (Nat.mod_eq_zero_of_dvd hd) (noDiv_is f 2 h p hp.1 (by omega))
    · exact Nat.lt_of_lt_of_le hf (Nat.mul_le_mul hl hl)
/-- one step of Pocklington by reckoning -/
theorem pock_by {n q : Nat} (a f : Nat) (hq : Prm q) (hf : n < 2 ^ f) (hc : (decide (1 < n) && decide ((n - 1) % q = 0) && decide (pwm n f a (n - 1) = 1) && decide (Nat.gcd (pwm n f a ((n - 1) / q) + (n - 1)) n = 1)) = true) {p : Nat} (hp : Prm p) (hpn : p ∣ n) : q ∣ p - 1 := by
  simp only [Bool.and_eq_true, decide_eq_true_eq] at hc
  obtain ⟨⟨⟨h1, h2⟩, h3⟩, h4⟩ := hc
  rw [pwm_is n f a _ (by omega)] at h3
  rw [pwm_is n f a _ (Nat.lt_of_le_of_lt (Nat.div_le_self _ _) (by omega))] at h4
  exact pock h1 hq h2 h3 h4 hp hpn
theorem large_of_dvd {n F p : Nat} (hF : n ≤ F * F) (hd : F ∣ p - 1) (hp : Prm p) : n < p * p := by
  have h2 := hp.1
  have := Nat.le_of_dvd (by omega) hd
  have h3 := Nat.mul_le_mul (show F + 1 ≤ p by omega) (show F + 1 ≤ p by omega)
  have h4 : F * F < (F + 1) * (F + 1) := by rw [Nat.mul_add, Nat.add_mul]; omega
  omega
theorem Prm.apart {p q : Nat} (hp : Prm p) (hq : Prm q) (h : p ≠ q) : Nat.Coprime p q := hp.coprime fun hd => by
  rcases hq.2 _ hd with e | e
  · have := hp.1; omega
  · exact h e

theorem prm_649657 : Prm 649657 := prm_small (by omega) 806 (by omega) (by decide +kernel)
theorem prm_92737 : Prm 92737 := prm_small (by omega) 304 (by omega) (by decide +kernel)
theorem prm_699053 : Prm 699053 := prm_small (by omega) 836 (by omega) (by decide +kernel)
theorem prm_20394401 : Prm 20394401 := prm_small (by omega) 4516 (by omega) (by decide +kernel)
theorem prm_67254877 : Prm 67254877 := prm_small (by omega) 8200 (by omega) (by decide +kernel)
theorem prm_8707 : Prm 8707 := prm_small (by omega) 94 (by omega) (by decide +kernel)
theorem prm_1913 : Prm 1913 := prm_small (by omega) 44 (by omega) (by decide +kernel)
theorem prm_2113 : Prm 2113 := prm_small (by omega) 45 (by omega) (by decide +kernel)
theorem prm_683 : Prm 683 := prm_small (by omega) 26 (by omega) (by decide +kernel)
theorem prm_77158673929 : Prm 77158673929 := prm_of_large (by omega) fun p hp hd => large_of_dvd (F := 699053) (by omega) (pock_by 3 40 prm_699053 (by omega) (by decide +kernel) hp hd) hp
theorem prm_28059810762433 : Prm 28059810762433 := prm_of_large (by omega) fun p hp hd => large_of_dvd (F := 67254877) (by omega) (pock_by 3 50 prm_67254877 (by omega) (by decide +kernel) hp hd) hp
theorem prm_2931542417 : Prm 2931542417 := prm_of_large (by omega) fun p hp hd => large_of_dvd (F := 8707 * 1913) (by omega)
  (Nat.Coprime.mul_dvd_of_dvd_of_dvd (show Nat.gcd 8707 1913 = 1 by decide +kernel) (pock_by 3 40 prm_8707 (by omega) (by decide +kernel) hp hd) (pock_by 3 40 prm_1913 (by omega) (by decide +kernel) hp hd)) hp
theorem prm_127 : Prm 170141183460469231731687303715884105727 := prm_of_large (by omega) fun p hp hd => large_of_dvd (F := 77158673929 * 649657 * 92737) (by omega)
  (Nat.Coprime.mul_dvd_of_dvd_of_dvd (show Nat.gcd (77158673929 * 649657) 92737 = 1 by decide +kernel)
    (Nat.Coprime.mul_dvd_of_dvd_of_dvd (show Nat.gcd 77158673929 649657 = 1 by decide +kernel) (pock_by 3 128 prm_77158673929 (by omega) (by decide +kernel) hp hd) (pock_by 3 128 prm_649657 (by omega) (by decide +kernel) hp hd))
    (pock_by 3 128 prm_92737 (by omega) (by decide +kernel) hp hd)) hp
theorem prm_107 : Prm 162259276829213363391578010288127 := prm_of_large (by omega) fun p hp hd => large_of_dvd (F := 28059810762433 * 20394401) (by omega)
  (Nat.Coprime.mul_dvd_of_dvd_of_dvd (show Nat.gcd 28059810762433 20394401 = 1 by decide +kernel) (pock_by 3 128 prm_28059810762433 (by omega) (by decide +kernel) hp hd) (pock_by 3 128 prm_20394401 (by omega) (by decide +kernel) hp hd)) hp
theorem prm_89 : Prm 618970019642690137449562111 := prm_of_large (by omega) fun p hp hd => large_of_dvd (F := 2931542417 * 2113 * 683) (by omega)
  (Nat.Coprime.mul_dvd_of_dvd_of_dvd (show Nat.gcd (2931542417 * 2113) 683 = 1 by decide +kernel)
    (Nat.Coprime.mul_dvd_of_dvd_of_dvd (show Nat.gcd 2931542417 2113 = 1 by decide +kernel) (pock_by 3 128 prm_2931542417 (by omega) (by decide +kernel) hp hd) (pock_by 3 128 prm_2113 (by omega) (by decide +kernel) hp hd))
    (pock_by 3 128 prm_683 (by omega) (by decide +kernel) hp hd)) hp

theorem mod_eq_of_dvd {a b n : Nat} (hl : a ≤ b) (h : n ∣ b - a) : a % n = b % n := by
  obtain ⟨k, hk⟩ := h
  have : b = a + n * k := by omega
  rw [this, Nat.add_mul_mod_self_left]
/-- what is alike by two primes is alike by their product -/
theorem crt_le {p q a b : Nat} (hc : Nat.Coprime p q) (h1 : a % p = b % p) (h2 : a % q = b % q) (hl : a ≤ b) : a % (p * q) = b % (p * q) :=
  mod_eq_of_dvd hl (hc.mul_dvd_of_dvd_of_dvd (Nat.dvd_of_mod_eq_zero (Nat.sub_mod_eq_zero_of_mod_eq h1.symm)) (Nat.dvd_of_mod_eq_zero (Nat.sub_mod_eq_zero_of_mod_eq h2.symm)))
theorem crt {p q a b : Nat} (hc : Nat.Coprime p q) (h1 : a % p = b % p) (h2 : a % q = b % q) : a % (p * q) = b % (p * q) := by
  rcases Nat.le_total a b with hl | hl
  · exact crt_le hc h1 h2 hl
  · exact (crt_le hc h1.symm h2.symm hl).symm
theorem euler1 {p : Nat} (hp : Prm p) (x k : Nat) : x ^ ((p - 1) * k + 1) % p = x % p := by
  have h2 := hp.1
  by_cases h0 : x % p = 0
  · rw [Nat.pow_mod, h0, Nat.zero_pow (by omega), Nat.zero_mod]
  · have h1 := hp.little h0
    have h3 : x ^ (p - 1) % p = 1 % p := by rw [h1, Nat.mod_eq_of_lt (by omega)]
    rw [Nat.pow_succ, Nat.mul_mod, pow_one_mul h3 k, ← Nat.mul_mod, Nat.one_mul]
/-- the two works of a key of two primes undo each other -/
theorem euler2 {p q e d : Nat} (hp : Prm p) (hq : Prm q) (hne : p ≠ q) (h : e * d % ((p - 1) * (q - 1)) = 1) (x : Nat) : (x ^ e % (p * q)) ^ d % (p * q) = x % (p * q) := by
  rw [← Nat.pow_mod, ← Nat.pow_mul]
  have hd := Nat.div_add_mod (e * d) ((p - 1) * (q - 1))
  rw [h] at hd
  refine crt (hp.apart hq hne) ?_ ?_
  · rw [← hd, Nat.mul_assoc]; exact euler1 hp x _
  · rw [← hd, Nat.mul_comm (p - 1), Nat.mul_assoc]; exact euler1 hq x _
end Go.Proofs.YtkhlmcknbangfaaGreatDoor
