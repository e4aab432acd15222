/- nat.step: v is taken from u as often as it goes. -/
import Derived.Test.YtkhlmcknbangfaaGreatDoorGuess
import Derived.Test.YtkhlmcknbangfaaGreatDoorAddTo
import Derived.ScopeJumps
import Derived.WalkMore
namespace Go.Proofs.YtkhlmcknbangfaaGreatDoor
set_option linter.unusedSimpArgs false
set_option linter.unusedVariables false
open Go.RowKit
set_option linter.unusedVariables false

/-- what stands at the label -/
def AtLabel (g : Nat) (pre U V post : List Nat) (w : World) (q b : Nat) (w' : World) : Prop :=
  ∃ U' : List Nat, Ow w' g (pre ++ U' ++ post) ∧ U'.length = U.length ∧ Lim 18446744073709551616 U' ∧ q < 18446744073709551616 ∧ b ≤ 1 ∧
    val 18446744073709551616 U' + q * val 18446744073709551616 V = val 18446744073709551616 U + b * 18446744073709551616 ^ U.length ∧ val 18446744073709551616 U < (q + 1) * val 18446744073709551616 V ∧ w.grownBy w' (some g)
def Step (g : Nat) (pre U V post : List Nat) (w : World) (e : Ending) (w' : World) : Prop :=
  ∃ (q : Nat) (U' : List Nat), e = .returned (.int .u64 (q : Int)) ∧ q < 18446744073709551616 ∧ Ow w' g (pre ++ U' ++ post) ∧ U'.length = U.length ∧ Lim 18446744073709551616 U' ∧
    val 18446744073709551616 U' + q * val 18446744073709551616 V = val 18446744073709551616 U ∧ val 18446744073709551616 U' < val 18446744073709551616 V ∧ w.grownBy w' (some g)

theorem AtLabel.done {g : Nat} {pre U V post : List Nat} {w w' : World} {q : Nat} (h : AtLabel g pre U V post w q 0 w') : Step g pre U V post w (.returned (.int .u64 (q : Int))) w' := by
  obtain ⟨U', h1, h2, h3, h4, _, h6, h7, h8⟩ := h
  refine ⟨q, U', rfl, h4, h1, h2, h3, by omega, ?_, h8⟩
  rw [Nat.add_mul] at h7
  omega
theorem AtLabel.pos {g : Nat} {pre U V post : List Nat} {w w' : World} {q : Nat} (h : AtLabel g pre U V post w q 1 w') : 1 ≤ q := by
  obtain ⟨U', h1, h2, h3, h4, _, h6, h7, h8⟩ := h
  rcases Nat.eq_zero_or_pos q with h0 | h0
  · exfalso
    subst h0
    have := val_lt h3
    rw [h2] at this
    omega
  · exact h0
theorem AtLabel.back {g : Nat} {pre U V post U' U2 : List Nat} {w w1 w2 : World} {q k : Nat} (h2 : U'.length = U.length) (h4 : q + 1 < 18446744073709551616)
    (h6 : val 18446744073709551616 U' + (q + 1) * val 18446744073709551616 V = val 18446744073709551616 U + 1 * 18446744073709551616 ^ U.length) (h3 : Lim 18446744073709551616 U') (h8 : w.grownBy w1 (some g))
    (a1 : Ow w2 g (pre ++ U2 ++ post)) (a2 : U2.length = U'.length) (a3 : Lim 18446744073709551616 U2) (a4 : k ≤ 1)
    (a5 : val 18446744073709551616 U2 + k * 18446744073709551616 ^ U'.length = val 18446744073709551616 U' + val 18446744073709551616 V) (a6 : w1.grownBy w2 (some g)) : AtLabel g pre U V post w q (1 - k) w2 := by
  have hv := val_lt h3
  rw [h2] at hv a5
  rw [Nat.add_mul] at h6
  have hk : k = 0 ∨ k = 1 := by omega
  refine ⟨U2, a1, a2.trans h2, a3, by omega, by omega, ?_, by rw [Nat.add_mul]; omega, only_trans h8 a6⟩
  rcases hk with rfl | rfl
  · simp only [Nat.zero_mul, Nat.sub_zero] at *; omega
  · simp only [Nat.sub_self, Nat.zero_mul] at *; omega

set_option maxHeartbeats 600000 in
theorem step_any {w : World} {B2 g n c n2 c2 m : Nat} {A A2 : Option Addr} {pre U V post : List Nat} (ho : Ow w g (pre ++ U ++ post)) (hA : A = some ⟨g, pre.length, none⟩) (hn : n = U.length) (hc : n ≤ c) (hc' : c ≤ maxLen) (hU : Lim 18446744073709551616 U)
    (hv : Nt w B2 A2 n2 c2 V) (hB2 : B2 ≤ g) (hn2 : n2 = m + 1) (hnu : n = m + 2) (htop : 9223372036854775808 ≤ V.getD m 0) (hlt : val 18446744073709551616 U < val 18446744073709551616 V * 18446744073709551616) :
    Calls Tryz.prog 159 #[.slice A n c, .slice A2 n2 c2] w (Step g pre U V post w) := by
  subst hA
  have hg := ho.lt
  have hu : Nt w (g + 1) (some ⟨g, pre.length, none⟩) n c U := ho.part (fun _ => rfl) hn.symm hc hc' hU
  have Hguess := Lib.hid (guess_any hu hv hn2 hnu htop hlt)
  have hle : n2 ≤ n := by omega
  have htk : n = n2 + 1 := by omega
  have Hn := Lib.hid hn
  have Htk := Lib.hid htk
  clear hn htk hn2 hnu hlt htop
  go_enter Tryz.func159, Tryz.ntmps159
  go_wp2
  refine wp_scope_jumps 0 (fun a' w' => ∃ (q b : Nat) (u7 u8 u9 u10 u11 u12 u13 u14 u15 u16 u17 u18 u19 u20 u21 u22 u23 : Value), a' = { tmps := #[.slice (some ⟨g, pre.length, none⟩) n c, .slice A2 n2 c2, undef, undef, .int .u64 0, .int .u64 (q : Int), .int .u64 (b : Int), u7, u8, u9, u10, u11, u12, u13, u14, u15, u16, u17, u18, u19, u20, u21, u22, u23], defers := [] } ∧ Hid (AtLabel g pre U V post w q b w')) (fun a' _ => (intOf (a'.tmps.getD 5 undef)).toNat) rfl ?_ ?_
  · go_wp2_with (first
      | (go_at_call 173; refine Hguess.out.mono ?_; rintro e w1 ⟨q, d, rfl, hq, hqq, hw1⟩; have ho1 : Ow w1 g (pre ++ U ++ post) := (by rw [hw1]; exact ho.drewN d); have hv1 : Nt w1 B2 A2 n2 c2 V := (by rw [hw1]; exact hv.drewN d); have hg1 : w.grownBy w1 (some g) := (by rw [hw1]; exact only_drewN (World.grownBy.refl w _) d); have Hqq := Lib.hid hqq; clear hqq hw1)
      | (go_at_call 174; refine (takeTimes_any ho1 rfl Hn.out hc hc' hU hv1 hB2 Htk.out hq).mono ?_; rintro e w2 ⟨U', b, rfl, how2, hl2, hL2, hb, hV2, hg2⟩; have HL : Hid (AtLabel g pre U V post w q b w2) := ⟨U', how2, hl2, hL2, hq, hb, hV2, Hqq.out, only_trans hg1 hg2⟩; clear how2 hl2 hL2 hV2 hg2))
    go_step3
    rcases (show b = 0 ∨ b = 1 by omega) with rfl | rfl
    · go_wp2
      simp only [Exit.jump]
      go_ret
      exact HL.out.done
    · obtain ⟨p, rfl⟩ : ∃ p, q = p + 1 := ⟨q - 1, by have := HL.out.pos; omega⟩
      obtain ⟨U2, h1, h2, h3, h4, h5, h6, h7, h8⟩ := HL.out
      have hv2 : Nt w2 B2 A2 n2 c2 V := hv.only h8 hB2 (by omega)
      have Hn2 : Hid (n = U2.length) := by rw [h2]; exact Hn.out
      have H2 := Lib.hid h2
      have H6 := Lib.hid h6
      clear h2 h6 h7 HL
      go_wp2_with (go_at_call 117; refine (addTo_any h1 (fun _ => rfl) Hn2.out hc hc' h3 hv2 hB2 hle).mono ?_; rintro e w3 ⟨U3, k, rfl, a1, a2, a3, a4, a5, a6⟩; have HB := Lib.hid (AtLabel.back H2.out h4 H6.out h3 h8 a1 a2 a3 a4 a5 a6); clear a1 a2 a3 a5 a6)
      have ek : (1 : Int) - (k : Int) = ((1 - k : Nat) : Int) := by omega
      rw [ek]
      clear ek
      go_step3
      exact ⟨rfl, p, 1 - k, _, _, _, _, _, _, _, _, _, _, _, _, _, _, _, _, _, rfl, HB⟩
  · rintro a' w' ⟨q, b, u7, u8, u9, u10, u11, u12, u13, u14, u15, u16, u17, u18, u19, u20, u21, u22, u23, rfl, HL⟩
    have hb : b ≤ 1 := by obtain ⟨_, _, _, _, _, hb, _⟩ := HL.out; exact hb
    rcases (show b = 0 ∨ b = 1 by omega) with rfl | rfl
    · go_wp2
      simp only [Exit.jump]
      go_ret
      exact HL.out.done
    · obtain ⟨p, rfl⟩ : ∃ p, q = p + 1 := ⟨q - 1, by have := HL.out.pos; omega⟩
      obtain ⟨U2, h1, h2, h3, h4, h5, h6, h7, h8⟩ := HL.out
      have hs' := h8.size
      have hv2 : Nt w' B2 A2 n2 c2 V := hv.only h8 hB2 (by omega)
      have Hn2 : Hid (n = U2.length) := by rw [h2]; exact Hn.out
      have H2 := Lib.hid h2
      have H6 := Lib.hid h6
      clear h2 h6 h7 HL
      go_wp2_with (go_at_call 117; refine (addTo_any h1 (fun _ => rfl) Hn2.out hc hc' h3 hv2 hB2 hle).mono ?_; rintro e w3 ⟨U3, k, rfl, a1, a2, a3, a4, a5, a6⟩; have HB := Lib.hid (AtLabel.back H2.out h4 H6.out h3 h8 a1 a2 a3 a4 a5 a6); clear a1 a2 a3 a5 a6)
      have ek : (1 : Int) - (k : Int) = ((1 - k : Nat) : Int) := by omega
      rw [ek]
      clear ek
      go_step3
      exact ⟨rfl, ⟨p, 1 - k, _, _, _, _, _, _, _, _, _, _, _, _, _, _, _, _, _, rfl, HB⟩, by simp [intOf]⟩
end Go.Proofs.YtkhlmcknbangfaaGreatDoor
