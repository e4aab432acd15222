/- plane: the spread of whole numbers is nought just if they are all the same. -/
import Derived.Test.YtnjieddkphappaaX4
import Derived.Test.YtnjieddkphappaaS3
import Derived.Test.YtnjieddkphappaaT2
namespace Go.Proofs.Ytnjieddkphappaa
open Go.RowKit
set_option linter.unusedVariables false
set_option exponentiation.threshold 3000
set_option maxRecDepth 100000
abbrev sg (neg : Bool) (r : Nat) : Nat := (if neg then 9223372036854775808 else 0) + r
/-- a word that stands for a number, v in units of 2^-1074, that has no digit behind 2^-60 -/
def Nm (x : Nat) (v : Int) : Prop := ∃ s m i, Ieee.double.read x = .number s m i ∧ -1074 ≤ i ∧ (m = 0 ∨ -60 ≤ i) ∧ Ieee.signed s m (i + 1074).toNat = v
theorem Nm.ofInt {p : Int} (h : p.natAbs < 9007199254740992) : Nm (floatOfInt .f64 p) (p * ((2 ^ 1074 : Nat) : Int)) := by
  obtain ⟨m, i, hr, h1, h2⟩ := read_ofInt h
  obtain ⟨m', i', hr', _, _, hv⟩ := read_val h
  rw [hr] at hr'
  cases hr'
  refine ⟨_, m, i, hr, h1, ?_, hv⟩
  rcases h2 with ⟨_, r, _⟩ | ⟨_, r, _⟩
  · exact .inl r
  · right; omega
theorem Nm.mul {x : Nat} {v : Int} (h : Nm x v) : ∃ k : Int, v = k * ((2 ^ 1014 : Nat) : Int) := by
  obtain ⟨s, m, i, _, h1, h2, rfl⟩ := h
  rcases h2 with rfl | h2
  · exact ⟨0, by rw [signed_eq]; simp⟩
  · exact ⟨Ieee.signed s m (i + 60).toNat, by rw [← signed_up']; congr 1; omega⟩
theorem sub_part {x y : Nat} {vx vy : Int} (hx : Nm x vx) (hy : Nm y vy) : ∃ neg r, fc .sub x y = sg neg r ∧ ((vx = vy ∧ r = 0) ∨ (vx ≠ vy ∧ big (-60) r)) := by
  obtain ⟨a, ha⟩ := hx.mul
  obtain ⟨b, hb⟩ := hy.mul
  obtain ⟨s, m, i, ex, x1, x2, x3⟩ := hx
  obtain ⟨t, n, j, ey, y1, y2, y3⟩ := hy
  have hs := sub_ab ex ey
  have k1 : (i + 1074).toNat = (i - min i j).toNat + (min i j + 1074).toNat := by omega
  have k2 : (j + 1074).toNat = (j - min i j).toNat + (min i j + 1074).toNat := by omega
  rw [k1, signed_up'] at x3
  rw [k2, signed_up'] at y3
  refine ⟨_, _, by unfold fc; rw [hs, Option.getD_some, nearest_word], ?_⟩
  generalize Ieee.signed s m (i - min i j).toNat = p at *
  generalize Ieee.signed t n (j - min i j).toNat = q at *
  have hP := Nat.two_pow_pos (min i j + 1074).toNat
  have hd : vx - vy = (p - q) * ((2 ^ (min i j + 1074).toNat : Nat) : Int) := by rw [← x3, ← y3, Int.sub_mul]
  by_cases h0 : p - q = 0
  · left
    rw [h0, Int.zero_mul] at hd
    refine ⟨by omega, ?_⟩
    rw [h0]; exact rg_zero _
  · right
    have hne : vx ≠ vy := by
      intro r
      rw [r, Int.sub_self] at hd
      rcases Int.mul_eq_zero.1 hd.symm with c | c
      · exact h0 c
      · omega
    refine ⟨hne, ?_⟩
    have hT : (p - q).natAbs ≠ 0 := by omega
    generalize hTT : (p - q).natAbs = T at *
    have hlog : -60 - min i j ≤ (T.log2 : Int) := by
      by_cases c : -60 ≤ min i j
      · omega
      · have e1 : (a - b).natAbs * 2 ^ 1014 = T * 2 ^ (min i j + 1074).toNat := by
          have : (a - b) * ((2 ^ 1014 : Nat) : Int) = (p - q) * ((2 ^ (min i j + 1074).toNat : Nat) : Int) := by rw [Int.sub_mul, ← ha, ← hb, hd]
          have h2 := congrArg Int.natAbs this
          rw [Int.natAbs_mul, Int.natAbs_mul, Int.natAbs_natCast, Int.natAbs_natCast, hTT] at h2
          exact h2
        have e2 : (2 : Nat) ^ 1014 = 2 ^ (-60 - min i j).toNat * 2 ^ (min i j + 1074).toNat := by
          rw [← Nat.pow_add]; congr 1; omega
        rw [e2, ← Nat.mul_assoc] at e1
        have e3 := Nat.eq_of_mul_eq_mul_right hP e1
        have e4 : (a - b).natAbs ≠ 0 := by intro r; rw [r, Nat.zero_mul] at e3; omega
        have e5 : 2 ^ (-60 - min i j).toNat ≤ T := by
          rw [← e3]; exact Nat.le_mul_of_pos_left _ (by omega)
        have := log2_ge e5
        omega
    exact rg_big hT (by omega) (by omega) (by omega)
theorem part_cases {z m : Nat × Nat} {v1 v2 u1 u2 : Int} (h1 : Nm z.1 v1) (h2 : Nm z.2 v2) (k1 : Nm m.1 u1) (k2 : Nm m.2 u2) :
    (v1 = u1 ∧ v2 = u2 ∧ partC z m = 0) ∨ (¬ (v1 = u1 ∧ v2 = u2) ∧ big (-120) (partC z m)) := by
  obtain ⟨n1, r1, e1, c1⟩ := sub_part h1 k1
  obtain ⟨n2, r2, e2, c2⟩ := sub_part h2 k2
  have q : ∀ {neg : Bool} {r : Nat} {v u : Int}, ((v = u ∧ r = 0) ∨ (v ≠ u ∧ big (-60) r)) → (v = u ∧ fc .mul (sg neg r) (sg neg r) = 0) ∨ (v ≠ u ∧ big (-120) (fc .mul (sg neg r) (sg neg r))) := by
    intro neg r v u h
    rcases h with ⟨h, rfl⟩ | ⟨h, hb⟩
    · exact .inl ⟨h, sq_zero neg⟩
    · exact .inr ⟨h, (sq_big neg hb (by omega) (by omega)).mono (by omega)⟩
  have a := q (neg := n1) c1
  have b := q (neg := n2) c2
  unfold partC
  rw [e1, e2]
  rcases a with ⟨ha, a⟩ | ⟨ha, a⟩ <;> rcases b with ⟨hb, b⟩ | ⟨hb, b⟩
  · left; refine ⟨ha, hb, ?_⟩; rw [a, b]; exact add_zero'
  · right
    refine ⟨fun r => hb r.2, add_big (.inl a) (.inr b) (by omega) (by omega) fun r => ?_⟩
    have := b.1; rw [r.2] at this; omega
  · right
    refine ⟨fun r => ha r.1, add_big (.inr a) (.inl b) (by omega) (by omega) fun r => ?_⟩
    have := a.1; rw [r.1] at this; omega
  · right
    refine ⟨fun r => ha r.1, add_big (.inr a) (.inr b) (by omega) (by omega) fun r => ?_⟩
    have := a.1; rw [r.1] at this; omega
def fl2 (z : Int × Int) : Nat × Nat := (floatOfInt .f64 z.1, floatOfInt .f64 z.2)
theorem big_ne {e : Int} {w : Nat} (h : big e w) (g : -1022 ≤ e) : w ≠ 0 := by
  have := h.1
  have b : 1 ≤ (e + 1023).toNat := by omega
  have := Nat.mul_le_mul_right 4503599627370496 b
  omega
theorem fold_cases {m : Nat × Nat} {u1 u2 : Int} (k1 : Nm m.1 u1) (k2 : Nm m.2 u2) : ∀ (zs : List (Int × Int)) (s : Nat), (∀ z ∈ zs, z.1.natAbs < 9007199254740992 ∧ z.2.natAbs < 9007199254740992) → (s = 0 ∨ big (-120) s) →
    (s = 0 ∧ (∀ z ∈ zs, z.1 * ((2 ^ 1074 : Nat) : Int) = u1 ∧ z.2 * ((2 ^ 1074 : Nat) : Int) = u2) ∧ (zs.map fl2).foldl (fun s z => fc .add s (partC z m)) s = 0) ∨
    (¬ (s = 0 ∧ (∀ z ∈ zs, z.1 * ((2 ^ 1074 : Nat) : Int) = u1 ∧ z.2 * ((2 ^ 1074 : Nat) : Int) = u2)) ∧ big (-120) ((zs.map fl2).foldl (fun s z => fc .add s (partC z m)) s))
  | [], s, _, hs => by
    rcases hs with rfl | hs
    · left; exact ⟨rfl, fun z hz => by simp at hz, rfl⟩
    · right; exact ⟨fun r => big_ne hs (by omega) r.1, hs⟩
  | z :: zs, s, hz, hs => by
    have h1 := hz z (by simp)
    rw [List.map_cons, List.foldl_cons]
    rcases part_cases (z := fl2 z) (m := m) (Nm.ofInt h1.1) (Nm.ofInt h1.2) k1 k2 with ⟨a, b, c⟩ | ⟨a, c⟩
    · rw [c]
      have hs' : fc .add s 0 = 0 ∧ s = 0 ∨ s ≠ 0 ∧ big (-120) (fc .add s 0) := by
        rcases hs with rfl | hs
        · exact .inl ⟨add_zero', rfl⟩
        · exact .inr ⟨big_ne hs (by omega), add_big (.inr hs) (.inl rfl) (by omega) (by omega) fun r => big_ne hs (by omega) r.1⟩
      have ih := fold_cases k1 k2 zs (fc .add s 0) (fun y hy => hz y (List.mem_cons_of_mem _ hy)) (by rcases hs' with r | r; exact .inl r.1; exact .inr r.2)
      rcases ih with ⟨i1, i2, i3⟩ | ⟨i1, i2⟩
      · left
        refine ⟨?_, ?_, i3⟩
        · rcases hs' with r | r
          · exact r.2
          · exact absurd i1 (big_ne r.2 (by omega))
        · intro y hy
          rcases List.mem_cons.1 hy with rfl | hy
          · exact ⟨a, b⟩
          · exact i2 y hy
      · right
        refine ⟨fun r => i1 ⟨?_, fun y hy => r.2 y (List.mem_cons_of_mem _ hy)⟩, i2⟩
        rw [r.1]; exact add_zero'
    · have hb : big (-120) (fc .add s (partC (fl2 z) m)) := add_big hs (.inr c) (by omega) (by omega) fun r => big_ne c (by omega) r.2
      have ih := fold_cases k1 k2 zs (fc .add s (partC (fl2 z) m)) (fun y hy => hz y (List.mem_cons_of_mem _ hy)) (.inr hb)
      right
      rcases ih with ⟨i1, _, _⟩ | ⟨_, i2⟩
      · exact absurd i1 (big_ne hb (by omega))
      · exact ⟨fun r => a (r.2 z (by simp)), i2⟩
/-- how a mean of whole numbers is read -/
theorem mean_read {a : Int} {n : Nat} (ha : a.natAbs < 140737488355328) (hn : n ≠ 0) (hn2 : n ≤ 100) : ∃ v, Nm (fc .quo (floatOfInt .f64 a) (floatOfInt .f64 n)) v := by
  obtain ⟨mn, j, gr, _, g⟩ := read_ofInt (n := (n : Int)) (by simp; omega)
  rcases g with ⟨h, _⟩ | ⟨_, hj, hLn, hm, b1, b2⟩
  · omega
  simp only [Int.natAbs_natCast] at hj hLn hm
  have hLs : n.log2 ≤ 6 := by
    have := (Nat.log2_lt (n := n) (k := 7) hn).2 (by omega)
    omega
  rw [decide_eq_false (show ¬ (n : Int) < 0 by omega)] at gr
  have hmn : mn ≠ 0 := by omega
  by_cases h0 : a = 0
  · subst h0
    have := quo_ofInt (q := 0) hn (by omega) (by simp)
    rw [Int.zero_mul] at this
    rw [this]
    exact ⟨_, Nm.ofInt (by simp)⟩
  obtain ⟨m, i, hr, _, h⟩ := read_ofInt (n := a) (by omega)
  rcases h with ⟨h, _⟩ | ⟨_, hi, hL, hma, a1, a2⟩
  · exact absurd h h0
  have hLa : a.natAbs.log2 ≤ 46 := by
    have := (Nat.log2_lt (n := a.natAbs) (k := 47) (by omega)).2 (by omega)
    omega
  have hq : fb .quo (floatOfInt .f64 a) (floatOfInt .f64 n) = ((Ieee.Datum.quotient (Ieee.double.fractionBits + 2) (Ieee.double.read (floatOfInt .f64 a)) (Ieee.double.read (floatOfInt .f64 n)))).map Ieee.double.write := rfl
  unfold fc
  rw [hq, hr, gr, d_fb]
  simp only [Ieee.Datum.quotient, if_neg hmn, Bool.xor_false, Option.map_some, Ieee.Format.write, Option.getD_some]
  rw [log2_52 b1 b2, log2_52 a1 a2, nearest_word, Nat.shiftLeft_eq]
  obtain ⟨bb, hbb⟩ : ∃ bb : Nat, bb = (m * 2 ^ (52 + 2 + 52 - 52) % mn != 0).toNat := ⟨_, rfl⟩
  have hbb2 : bb ≤ 1 := by rw [hbb]; exact Bool.toNat_le _
  obtain ⟨Q, hQ⟩ : ∃ Q, Q = m * 2 ^ (52 + 2 + 52 - 52) / mn := ⟨_, rfl⟩
  rw [← hbb, ← hQ]
  have q1 : 2 ^ 53 ≤ Q := by
    rw [hQ, Nat.le_div_iff_mul_le (by omega)]
    have g1 : 2 ^ 53 * mn ≤ 2 ^ 53 * 2 ^ 53 := Nat.mul_le_mul_left _ (by omega)
    have g2 : 2 ^ 52 * 2 ^ 54 ≤ m * 2 ^ 54 := Nat.mul_le_mul_right _ (by omega)
    have e1 : (2 : Nat) ^ 53 * 2 ^ 53 = 2 ^ 52 * 2 ^ 54 := by decide
    rw [e1] at g1
    exact Nat.le_trans g1 g2
  have q3 : Q < 2 ^ 55 := by
    rw [hQ, Nat.div_lt_iff_lt_mul (by omega)]
    have g1 : 2 ^ 55 * 2 ^ 52 ≤ 2 ^ 55 * mn := Nat.mul_le_mul_left _ (by omega)
    have g2 : m * 2 ^ 54 < 2 ^ 53 * 2 ^ 54 := Nat.mul_lt_mul_of_pos_right (by omega) (by decide)
    have e1 : (2 : Nat) ^ 55 * 2 ^ 52 = 2 ^ 53 * 2 ^ 54 := by decide
    rw [e1] at g1
    exact Nat.lt_of_lt_of_le g2 g1
  have q2 : 2 ^ 54 ≤ 2 * Q + bb := by omega
  have q4 : (2 * Q + bb).log2 < 57 := (Nat.log2_lt (by omega)).2 (by omega)
  have q5 := log2_ge q2
  have hb : big (-7) (rg (2 * Q + bb) (i - j - ((52 + 2 + 52 - 52 : Nat) : Int) - 1)) := rg_big (by omega) (by omega) (by omega) (by omega)
  have hf : rg (2 * Q + bb) (i - j - ((52 + 2 + 52 - 52 : Nat) : Int) - 1) < 9218868437227405312 := rg_fin (by omega)
  generalize rg (2 * Q + bb) (i - j - ((52 + 2 + 52 - 52 : Nat) : Int) - 1) = R at *
  rcases read_big (decide (a < 0)) hb (by omega) with hinf | ⟨M, I, hM, c1, c2, c3⟩
  · rw [read_sign _ hb.2] at hinf
    split at hinf
    · cases hinf
    · first | cases hinf | (rw [if_pos hf] at hinf; cases hinf)
  · exact ⟨_, _, M, I, hM, by omega, .inr (by omega), rfl⟩
end Go.Proofs.Ytnjieddkphappaa
