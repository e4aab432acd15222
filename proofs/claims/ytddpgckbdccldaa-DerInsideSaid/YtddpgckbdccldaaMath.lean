/- Plain arithmetic on rows of digits: their value, rows of one value, sums and products digit by digit. No program. -/
namespace Go.Proofs.Ytddpgckbdccldaa
set_option linter.unusedSimpArgs false
set_option linter.unusedVariables false

/-- the value of a row of digits to the base β, the least first -/
def val (β : Nat) : List Nat → Nat
  | [] => 0
  | x :: xs => x + β * val β xs

/-- each digit is below β -/
def Lim (β : Nat) (xs : List Nat) : Prop := ∀ x ∈ xs, x < β

theorem Lim.nil (β : Nat) : Lim β [] := fun _ h => by cases h
theorem Lim.append {β : Nat} {xs ys : List Nat} (h : Lim β xs) (k : Lim β ys) : Lim β (xs ++ ys) := fun x hx => (List.mem_append.1 hx).elim (h x) (k x)
theorem Lim.one {β x : Nat} (h : x < β) : Lim β [x] := fun y hy => by simp at hy; omega
theorem Lim.left {β : Nat} {xs ys : List Nat} (h : Lim β (xs ++ ys)) : Lim β xs := fun x hx => h x (List.mem_append.2 (.inl hx))
theorem Lim.right {β : Nat} {xs ys : List Nat} (h : Lim β (xs ++ ys)) : Lim β ys := fun x hx => h x (List.mem_append.2 (.inr hx))
theorem Lim.take {β : Nat} {xs : List Nat} (h : Lim β xs) (k : Nat) : Lim β (xs.take k) := fun x hx => h x (List.mem_of_mem_take hx)
theorem Lim.drop {β : Nat} {xs : List Nat} (h : Lim β xs) (k : Nat) : Lim β (xs.drop k) := fun x hx => h x (List.mem_of_mem_drop hx)
theorem Lim.get {β : Nat} {xs : List Nat} (h : Lim β xs) (hβ : 0 < β) (k : Nat) : xs.getD k 0 < β := by
  by_cases hk : k < xs.length
  · simp only [List.getD, List.getElem?_eq_getElem hk, Option.getD_some]
    exact h _ (List.getElem_mem hk)
  · simp only [List.getD, List.getElem?_eq_none (Nat.le_of_not_lt hk), Option.getD_none]
    exact hβ

theorem val_append (β : Nat) (xs ys : List Nat) : val β (xs ++ ys) = val β xs + β ^ xs.length * val β ys := by
  induction xs with
  | nil => simp [val]
  | cons x xs ih =>
    simp only [List.cons_append, val, ih, List.length_cons, Nat.pow_succ, Nat.mul_add]
    rw [Nat.mul_comm (β ^ xs.length) β, Nat.mul_assoc]
    omega
theorem val_one (β x : Nat) : val β [x] = x := by simp [val]
theorem val_snoc (β : Nat) (xs : List Nat) (x : Nat) : val β (xs ++ [x]) = val β xs + β ^ xs.length * x := by rw [val_append, val_one]
theorem val_take_succ (β : Nat) (xs : List Nat) (k : Nat) : val β (xs.take (k + 1)) = val β (xs.take k) + β ^ k * xs.getD k 0 := by
  by_cases hk : k < xs.length
  · rw [List.take_succ_eq_append_getElem hk, val_snoc]
    simp [List.getD, List.getElem?_eq_getElem hk, Nat.min_eq_left (Nat.le_of_lt hk)]
  · rw [List.take_of_length_le (by omega), List.take_of_length_le (by omega)]
    simp [List.getD, List.getElem?_eq_none (Nat.le_of_not_lt hk)]
theorem val_replicate (β n : Nat) : val β (List.replicate n 0) = 0 := by
  induction n with
  | zero => rfl
  | succ n ih => simp [List.replicate_succ, val, ih]
theorem val_lt {β : Nat} {xs : List Nat} (h : Lim β xs) : val β xs < β ^ xs.length := by
  induction xs with
  | nil => simp [val]
  | cons x xs ih =>
    have h1 : x < β := h x (by simp)
    have h2 := ih fun y hy => h y (by simp [hy])
    simp only [val, List.length_cons, Nat.pow_succ]
    have : β * (val β xs + 1) ≤ β * β ^ xs.length := Nat.mul_le_mul_left _ h2
    rw [Nat.mul_comm (β ^ xs.length) β]
    rw [Nat.mul_add] at this
    omega
theorem lim_replicate {β : Nat} (hβ : 0 < β) (n : Nat) : Lim β (List.replicate n 0) := fun x hx => by
  have := (List.mem_replicate.1 hx).2
  omega

/-- the digits of a number, without noughts behind -/
def digs (β : Nat) (fuel n : Nat) : List Nat :=
  match fuel with
  | 0 => []
  | fuel + 1 => if n = 0 then [] else (n % β) :: digs β fuel (n / β)
/-- a row without noughts at its end -/
def Trm (xs : List Nat) : Prop := ∀ ys x, xs = ys ++ [x] → x ≠ 0

theorem val_cut_zero {β : Nat} (xs : List Nat) (k : Nat) (hz : xs.getD k 0 = 0) : val β (xs.take (k + 1)) = val β (xs.take k) := by
  rw [val_take_succ, hz]; simp

/-- rows of one value, without noughts behind, are one -/
theorem trm_unique {β : Nat} (hβ : 1 < β) : ∀ {xs ys : List Nat}, Lim β xs → Lim β ys → Trm xs → Trm ys → val β xs = val β ys → xs = ys := by
  intro xs
  induction xs with
  | nil =>
    intro ys _ hy _ ty hv
    induction ys with
    | nil => rfl
    | cons y ys ih =>
      exfalso
      simp only [val] at hv
      have hy0 : y = 0 := by omega
      have hv0 : val β ys = 0 := by
        have : β * val β ys = 0 := by omega
        rcases Nat.mul_eq_zero.1 this with h | h
        · omega
        · exact h
      by_cases hys : ys = []
      · subst hys
        exact ty [] y rfl hy0
      · have := ih (fun x hx => hy x (by simp [hx])) (fun zs x e => ty (y :: zs) x (by rw [e]; rfl)) (by simp [val, hv0])
        exact hys this.symm
  | cons x xs ih =>
    intro ys hx hy tx ty hv
    cases ys with
    | nil =>
      exfalso
      simp only [val] at hv
      have key : ∀ zs : List Nat, Trm zs → val β zs = 0 → zs = [] := by
        intro zs
        induction zs with
        | nil => intros; rfl
        | cons z zs ihz =>
          intro tz hz
          exfalso
          simp only [val] at hz
          have hz0 : z = 0 := by omega
          have hv0 : val β zs = 0 := by
            have : β * val β zs = 0 := by omega
            rcases Nat.mul_eq_zero.1 this with h | h
            · omega
            · exact h
          have := ihz (fun us x e => tz (z :: us) x (by rw [e]; rfl)) hv0
          subst this
          exact tz [] z rfl hz0
      have := key (x :: xs) tx (by simp only [val]; omega)
      cases this
    | cons y ys =>
      simp only [val] at hv
      have h1 : x < β := hx x (by simp)
      have h2 : y < β := hy y (by simp)
      have e1 : (x + β * val β xs) % β = x := by rw [Nat.add_mul_mod_self_left]; exact Nat.mod_eq_of_lt h1
      have e2 : (y + β * val β ys) % β = y := by rw [Nat.add_mul_mod_self_left]; exact Nat.mod_eq_of_lt h2
      have exy : x = y := by rw [← e1, ← e2, hv]
      subst exy
      have hv' : val β xs = val β ys := Nat.eq_of_mul_eq_mul_left (show 0 < β by omega) (by omega)
      have txs : Trm xs := fun zs z e => tx (x :: zs) z (by rw [e]; rfl)
      have tys : Trm ys := fun zs z e => ty (x :: zs) z (by rw [e]; rfl)
      rw [ih (fun z hz => hx z (by simp [hz])) (fun z hz => hy z (by simp [hz])) txs tys hv']

/-- how many digits are left when the noughts behind place k are cut -/
def tl (xs : List Nat) : Nat → Nat
  | 0 => 0
  | k + 1 => if xs.getD k 0 = 0 then tl xs k else k + 1
theorem tl_le (xs : List Nat) : ∀ k, tl xs k ≤ k
  | 0 => Nat.le_refl _
  | k + 1 => by
    unfold tl
    split
    · exact Nat.le_succ_of_le (tl_le xs k)
    · exact Nat.le_refl _
def cutL (xs : List Nat) : List Nat := xs.take (tl xs xs.length)
theorem val_tl (β : Nat) (xs : List Nat) : ∀ k, val β (xs.take (tl xs k)) = val β (xs.take k)
  | 0 => rfl
  | k + 1 => by
    unfold tl
    split
    · next h => rw [val_tl β xs k, val_cut_zero xs k h]
    · rfl
theorem val_cutL (β : Nat) (xs : List Nat) : val β (cutL xs) = val β xs := by
  unfold cutL
  rw [val_tl, List.take_length]
theorem tl_top (xs : List Nat) : ∀ k, 0 < tl xs k → xs.getD (tl xs k - 1) 0 ≠ 0
  | 0 => fun h => absurd h (Nat.lt_irrefl _)
  | k + 1 => by
    unfold tl
    split
    · exact tl_top xs k
    · next h => intro _; simpa using h
theorem length_cutL (xs : List Nat) : (cutL xs).length = tl xs xs.length := by
  unfold cutL
  rw [List.length_take, Nat.min_eq_left (tl_le _ _)]
theorem trm_cutL (xs : List Nat) : Trm (cutL xs) := by
  intro ys x e
  have hl := length_cutL xs
  have h0 : 0 < tl xs xs.length := by rw [← hl, e]; simp
  have := tl_top xs _ h0
  have hx : (cutL xs)[tl xs xs.length - 1]? = some x := by
    rw [← hl, e]; simp
  have hx2 : xs[tl xs xs.length - 1]? = some x := by
    unfold cutL at hx
    rw [List.getElem?_take] at hx
    rw [if_pos (by omega)] at hx
    exact hx
  simp only [List.getD, hx2, Option.getD_some] at this
  exact this
theorem lim_cutL {β : Nat} {xs : List Nat} (h : Lim β xs) : Lim β (cutL xs) := h.take _
theorem cutL_of_trm {xs : List Nat} (h : Trm xs) : cutL xs = xs := by
  have hl := tl_le xs xs.length
  rcases Nat.eq_or_lt_of_le hl with e | hlt
  · unfold cutL; rw [e, List.take_length]
  · exfalso
    cases hn : xs.length with
    | zero => omega
    | succ m =>
      have hne : xs ≠ [] := by intro e; subst e; simp at hn
      have e := (List.dropLast_concat_getLast hne).symm
      have := h _ _ e
      have hg : xs.getD m 0 = xs.getLast hne := by
        rw [List.getLast_eq_getElem]
        have : m < xs.length := by omega
        simp only [List.getD, List.getElem?_eq_getElem this, Option.getD_some]
        congr 1; omega
      rw [hn] at hlt
      unfold tl at hlt
      rw [hg, if_neg this] at hlt
      omega

theorem add_step (β P vd s c' c vu vb x y : Nat) (h : s + c' * β = x + y + c) (hv : vd + c * P = vu + vb) : vd + P * s + c' * (P * β) = vu + P * x + (vb + P * y) := by
  have e : P * (s + c' * β) = P * (x + y + c) := by rw [h]
  simp only [Nat.mul_add] at e
  have e1 : P * (c' * β) = c' * (P * β) := by ac_rfl
  have e2 : P * c = c * P := Nat.mul_comm _ _
  omega
theorem sub_step (β P vd s c' c vu vb x y : Nat) (h : s + y + c = x + c' * β) (hv : vd + vb + 0 = vu + c * P) : vd + P * s + (vb + P * y) = vu + P * x + c' * (P * β) := by
  have e : P * (s + y + c) = P * (x + c' * β) := by rw [h]
  simp only [Nat.mul_add] at e
  have e1 : P * (c' * β) = c' * (P * β) := by ac_rfl
  have e2 : P * c = c * P := Nat.mul_comm _ _
  omega
/-- the digit and the carry of a sum of two digits; of a difference -/
def sm (x y c : Nat) : Nat := (x + y + c) % 18446744073709551616
def cr (x y c : Nat) : Nat := (x + y + c) / 18446744073709551616
def df (x y b : Nat) : Nat := (x + 18446744073709551616 - y - b) % 18446744073709551616
def bo (x y b : Nat) : Nat := if x < y + b then 1 else 0
theorem sm_lt (x y c : Nat) : sm x y c < 18446744073709551616 := by unfold sm; omega
theorem df_lt (x y c : Nat) : df x y c < 18446744073709551616 := by unfold df; omega
theorem cr_le {x y c : Nat} (hx : x < 18446744073709551616) (hy : y < 18446744073709551616) (hc : c ≤ 1) : cr x y c ≤ 1 := by unfold cr; omega
theorem bo_le (x y c : Nat) : bo x y c ≤ 1 := by unfold bo; split <;> omega
theorem sm_cr (x y c : Nat) : sm x y c + cr x y c * 18446744073709551616 = x + y + c := by unfold sm cr; omega
theorem df_bo {x y c : Nat} (hx : x < 18446744073709551616) (hy : y < 18446744073709551616) (hc : c ≤ 1) : df x y c + y + c = x + bo x y c * 18446744073709551616 := by
  unfold df bo; split <;> omega

theorem sum_in_two (β s1 c1 s2 c2 h l u p ov : Nat) (h1 : s1 + c1 * β = u + l + 0) (h2 : s2 + c2 * β = s1 + ov + 0) (h3 : l + h * β = p) :
    s2 + (h + c1 + c2) * β = u + p + ov := by
  rw [Nat.add_mul, Nat.add_mul]; omega
theorem top_of_sum (s t u p ov : Nat) (h : s + t * 18446744073709551616 = u + p + ov) (hu : u < 18446744073709551616) (ho : ov < 18446744073709551616) (hl : p ≤ 340282366920938463426481119284349108225) : t < 18446744073709551616 := by omega
theorem times_step (β P vd s o' o vu vb x y d : Nat) (h : s + o' * β = x + y * d + o) (hv : vd + o * P = vu + d * vb) : vd + P * s + o' * (P * β) = vu + P * x + d * (vb + P * y) := by
  have e : P * (s + o' * β) = P * (x + y * d + o) := by rw [h]
  simp only [Nat.mul_add] at e ⊢
  have e1 : P * (o' * β) = o' * (P * β) := by ac_rfl
  have e2 : P * o = o * P := Nat.mul_comm _ _
  have e3 : P * (y * d) = d * (P * y) := by ac_rfl
  omega

theorem low_in_two (β s1 c1 h l p ov : Nat) (h1 : s1 + c1 * β = l + ov + 0) (h3 : l + h * β = p) : s1 + (h + c1) * β = p + ov := by
  rw [Nat.add_mul]; omega
/-- one digit -/
theorem takes_step (β P vd u' b' h' b o vu vv u l y d : Nat) (h1 : u' + l + b = u + b' * β) (h2 : l + h' * β = y * d + o) (hv : vd + d * vv = vu + (b + o) * P) :
    vd + P * u' + d * (vv + P * y) = vu + P * u + (b' + h') * (P * β) := by
  have e1 : P * (u' + l + b) = P * (u + b' * β) := by rw [h1]
  have e2 : P * (l + h' * β) = P * (y * d + o) := by rw [h2]
  simp only [Nat.mul_add, Nat.add_mul] at e1 e2 hv ⊢
  have f1 : P * (b' * β) = b' * (P * β) := by ac_rfl
  have f2 : P * (h' * β) = h' * (P * β) := by ac_rfl
  have f3 : P * (y * d) = d * (P * y) := by ac_rfl
  have f4 : P * b = b * P := Nat.mul_comm _ _
  have f5 : P * o = o * P := Nat.mul_comm _ _
  omega

/-- a store into a row whose beginning is done -/
theorem set_mid {α : Type} (pre done rest post : List α) (x y : α) : (pre ++ (done ++ x :: rest) ++ post).set (pre.length + done.length) y = pre ++ (done ++ [y] ++ rest) ++ post := by
  simp [List.append_assoc]
theorem get_mid {α : Type} (pre done rest post : List α) (x : α) : (pre ++ (done ++ x :: rest) ++ post)[pre.length + done.length]? = some x := by
  simp [List.append_assoc]
end Go.Proofs.Ytddpgckbdccldaa
