/- clepsydraref01.Sub, Cmp. -/
import Derived.Test.YtajppinnnmnjiaaRSub
namespace Go.Proofs.Ytajppinnnmnjiaa
open Go.RowKit

/-- two numbers as rows of digits -/
def RSub (a b : Nat) (w : World) (e : Ending) (w' : World) : Prop :=
  (b ≤ a ∧ ∃ A n c xs, e = .returned (.tuple #[.slice A n c, .int .i64 0]) ∧ Nt w' w'.heap.size A n c xs ∧ Trm xs ∧ val 18446744073709551616 xs = a - b ∧ Below w.heap.size w w') ∨
  (a < b ∧ e = .returned (.tuple #[.slice none 0 0, .int .i64 10]) ∧ Below w.heap.size w w')

theorem rsub_any {w : World} {A A2 : Option Addr} {n c n2 c2 : Nat} {xs ys : List Nat} (h : Nt w w.heap.size A n c xs) (h2 : Nt w w.heap.size A2 n2 c2 ys) (hn : n ≤ 1000000) (hn2 : n2 ≤ 1000000) :
    Calls Try.prog 16 #[.slice A n c, .slice A2 n2 c2] w (RSub (val 18446744073709551616 xs) (val 18446744073709551616 ys) w) := by
  go_enter Try.func16, Try.ntmps16
  go_wp2_with fail
  refine (digits_any h (by omega)).mono ?_
  rintro e w1 ⟨Ax, nx, cx, xb, rfl, hx1, tx, vx, bx⟩
  have h2' := h2.up bx
  have hnx : nx ≤ 64000000 := by
    have := len_bits tx h.lim vx
    rw [hx1.len, h.len] at this
    omega
  have Vx := Lib.hid vx
  clear vx tx
  go_wp2_with fail
  refine (digits_any h2' (by omega)).mono ?_
  rintro e w2 ⟨Ay, ny, cy, yb, rfl, hy2, ty, vy, by2⟩
  have hx2 := hx1.up by2
  have hb2 := bthen bx by2
  have Vy := Lib.hid vy
  clear vy ty hx1 h2'
  by_cases hlt : val 2 xb < val 2 yb
  · have hc := rless_any hx2 hy2
    rw [decide_eq_true hlt] at hc
    have Hc := Lib.hid hc
    have Hlt := Lib.hid hlt
    clear hc hlt
    go_wp2_with fail
    refine Hc.out.mono ?_
    rintro e w' ⟨rfl, rfl⟩
    go_wp2_with fail
    go_ret2
    exact .inr ⟨by rw [← Vx.out, ← Vy.out]; exact Hlt.out, rfl, hb2⟩
  · have hc := rless_any hx2 hy2
    rw [decide_eq_false hlt] at hc
    have Hc := Lib.hid hc
    have ht := rtake_any hx2 hy2 (by omega) (Nat.le_of_not_lt hlt)
    have Ht := Lib.hid ht
    have Hlt := Lib.hid (Nat.le_of_not_lt hlt)
    clear hc hlt ht
    go_wp2_with fail
    refine Hc.out.mono ?_
    rintro e w' ⟨rfl, rfl⟩
    go_wp2_with fail
    refine Ht.out.mono ?_
    rintro e w3 ⟨Az, nz, cz, zb, rfl, hz3, tz, vz, bz⟩
    have hb3 := bthen hb2 bz
    have hnz : nz ≤ 64000000 := by
      have := length_of_val (β := 2) (k := nx) (by omega) tz (by
        rw [vz]
        have := val_lt hx2.lim
        rw [hx2.len] at this
        omega)
      rw [hz3.len] at this
      omega
    have Vz := Lib.hid vz
    clear vz
    go_wp2_with fail
    refine (number_any hz3 (by omega)).mono ?_
    rintro e w5 ⟨A5, n5, c5, x5, rfl, h5, t5, v5, b5⟩
    go_wp2_with fail
    go_ret2
    exact .inl ⟨by rw [← Vx.out, ← Vy.out]; exact Hlt.out, _, _, _, _, rfl, h5, t5, by rw [v5, Vz.out, Vx.out, Vy.out], bthen hb3 b5⟩

theorem rcmp_any {w : World} {A A2 : Option Addr} {n c n2 c2 : Nat} {xs ys : List Nat} (h : Nt w w.heap.size A n c xs) (h2 : Nt w w.heap.size A2 n2 c2 ys) (hn : n ≤ 1000000) (hn2 : n2 ≤ 1000000) :
    Calls Try.prog 19 #[.slice A n c, .slice A2 n2 c2] w fun e w' => e = .returned (.int .i64 (sgn (val 18446744073709551616 xs : Int) (val 18446744073709551616 ys : Int))) ∧ Below w.heap.size w w' := by
  obtain ⟨a, ea⟩ : ∃ a, val 18446744073709551616 xs = a := ⟨_, rfl⟩
  obtain ⟨b, eb⟩ : ∃ b, val 18446744073709551616 ys = b := ⟨_, rfl⟩
  rw [ea, eb]
  have Ea := Lib.hid ea
  have Eb := Lib.hid eb
  clear ea eb
  go_enter Try.func19, Try.ntmps19
  go_wp2_with fail
  refine (digits_any h (by omega)).mono ?_
  rintro e w1 ⟨Ax, nx, cx, xb, rfl, hx1, tx, vx, bx⟩
  have h2' := h2.up bx
  have Vx := Lib.hid vx
  clear vx tx
  go_wp2_with fail
  refine (digits_any h2' (by omega)).mono ?_
  rintro e w2 ⟨Ay, ny, cy, yb, rfl, hy2, ty, vy, by2⟩
  have hx2 := hx1.up by2
  have hb2 := bthen bx by2
  have Vy := Lib.hid vy
  clear vy ty hx1 h2'
  have hc := rless_any hx2 hy2
  have hd := rless_any hy2 hx2
  rw [Vx.out, Vy.out, Ea.out, Eb.out] at hc hd
  rcases Nat.lt_trichotomy a b with hlt | heq | hgt
  · rw [decide_eq_true hlt] at hc
    have Hc := Lib.hid hc
    have Hs := Lib.hid (sgn_lt hlt)
    clear hc hd hlt
    go_wp2_with fail
    refine Hc.out.mono ?_
    rintro e w' ⟨rfl, rfl⟩
    go_wp2_with fail
    go_ret
    exact ⟨by rw [Hs.out]; rfl, hb2⟩
  · subst heq
    rw [decide_eq_false (Nat.lt_irrefl _)] at hc hd
    have Hc := Lib.hid hc
    have Hd := Lib.hid hd
    have Hs := Lib.hid (sgn_eq a)
    clear hc hd
    go_wp2_with fail
    refine Hc.out.mono ?_
    rintro e w' ⟨rfl, rfl⟩
    go_wp2_with fail
    refine Hd.out.mono ?_
    rintro e w' ⟨rfl, rfl⟩
    go_wp2_with fail
    go_ret
    exact ⟨by rw [Hs.out]; rfl, hb2⟩
  · rw [decide_eq_false (Nat.lt_asymm hgt)] at hc
    rw [decide_eq_true hgt] at hd
    have Hc := Lib.hid hc
    have Hd := Lib.hid hd
    have Hs := Lib.hid (sgn_gt hgt)
    clear hc hd hgt
    go_wp2_with fail
    refine Hc.out.mono ?_
    rintro e w' ⟨rfl, rfl⟩
    go_wp2_with fail
    refine Hd.out.mono ?_
    rintro e w' ⟨rfl, rfl⟩
    go_wp2_with fail
    go_ret
    exact ⟨by rw [Hs.out]; rfl, hb2⟩
end Go.Proofs.Ytajppinnnmnjiaa
