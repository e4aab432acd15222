/- Plain arithmetic for numbers modulo a number: the way back of the divisions, Montgomery's way. No program. -/
namespace Go.Proofs.Ytnnnahhgpmkfbaa

/-- the loop of the way back: what is kept of the two factors; b: is the older one below 0 -/
structure Way (n a older old uo u : Nat) (b : Bool) : Prop where
  g : Nat.gcd older old = Nat.gcd n a
  s : older * u + old * uo = n
  le : uo ≤ n
  e1 : (n : Int) ∣ older + (if b then 1 else -1) * ((a : Int) * uo)
  e2 : (n : Int) ∣ old - (if b then 1 else -1) * ((a : Int) * u)

theorem Way.start (n a : Nat) : Way n a n a 0 1 true :=
  ⟨rfl, by simp, by simp, by simp, by simp⟩
theorem Way.step {n a older old uo u : Nat} {b : Bool} (h : Way n a older old uo u b) (ho : 0 < older) :
    Way n a old (older % old) u (uo + older / old * u) (!b) := by
  have hdm : (older : Int) % old = older - old * (older / old) := by rw [Int.emod_def]
  refine ⟨?_, ?_, ?_, ?_, ?_⟩
  · rw [← h.g, Nat.gcd_comm older old, Nat.gcd_rec old older, Nat.gcd_comm]
  · have e := Nat.div_add_mod older old
    have hs := h.s
    rw [Nat.mul_add, ← hs]
    conv => rhs; rw [← e]
    rw [Nat.add_mul, Nat.mul_assoc]
    omega
  · have hs := h.s
    have := Nat.mul_le_mul_right u ho
    omega
  · have := h.e2
    cases b <;> simpa [Int.sub_eq_add_neg] using this
  · have h1 := h.e1
    have h2 := h.e2
    have h3 := Int.dvd_sub h1 (Int.dvd_mul_of_dvd_right (b := ((older / old : Nat) : Int)) h2)
    have : ((older % old : Nat) : Int) - (if (!b) = true then 1 else -1) * ((a : Int) * ((uo + older / old * u : Nat) : Int)) =
        (older : Int) + (if b = true then 1 else -1) * ((a : Int) * uo) - (older / old : Nat) * (old - (if b = true then 1 else -1) * ((a : Int) * u)) := by
      push_cast
      rw [hdm]
      cases b
      · simp
        rw [Int.mul_add, Int.mul_add]
        have : (a : Int) * ((older : Int) / old * u) = (older : Int) / old * (a * u) := by rw [Int.mul_left_comm]
        rw [this, Int.mul_comm (older / old : Int) old]
        omega
      · simp
        rw [Int.mul_add, Int.mul_sub]
        have : (a : Int) * ((older : Int) / old * u) = (older : Int) / old * (a * u) := by rw [Int.mul_left_comm]
        rw [this, Int.mul_comm (older / old : Int) old]
        omega
    rw [this]
    exact h3
/-- what the loop leaves -/
theorem Way.done {n a older uo u : Nat} {b : Bool} (h : Way n a older 0 uo u b) :
    older = Nat.gcd n a ∧ a * ((if b then n - uo else uo) % n) % n = older % n := by
  have hg := h.g
  rw [Nat.gcd_zero_right] at hg
  refine ⟨hg, ?_⟩
  have h1 := h.e1
  have hl := h.le
  have key : ((n : Nat) : Int) ∣ ((a * ((if b then n - uo else uo)) : Nat) : Int) - (older : Int) := by
    cases b
    · simp at h1 ⊢
      have := Int.dvd_neg.2 h1
      rw [show (a : Int) * uo - older = -(older + -((a : Int) * uo)) by omega]
      exact this
    · simp at h1 ⊢
      have h2 : ((n - uo : Nat) : Int) = n - uo := by omega
      rw [h2, Int.mul_sub]
      have h3 := Int.dvd_sub (Int.dvd_mul_left (a : Int) n) h1
      rw [show (a : Int) * n - a * uo - older = a * n - (older + a * uo) by omega]
      exact h3
  rw [Nat.mul_mod_mod]
  have h6 := Int.emod_eq_emod_iff_emod_sub_eq_zero.2 (Int.emod_eq_zero_of_dvd key)
  exact_mod_cast h6
end Go.Proofs.Ytnnnahhgpmkfbaa
