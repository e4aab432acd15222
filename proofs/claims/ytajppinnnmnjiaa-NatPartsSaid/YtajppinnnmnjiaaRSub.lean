/- clepsydraref01.less, take, Sub, Cmp. -/
import Derived.Test.YtajppinnnmnjiaaRMul
namespace Go.Proofs.Ytajppinnnmnjiaa
open Go.RowKit

theorem quo_step (v k : Nat) : v / 2 ^ k = v / 2 ^ (k + 1) * 2 + v / 2 ^ k % 2 := by
  rw [Nat.pow_succ, ← Nat.div_div_eq_div_mul]
  omega
theorem quo_lt {v u k : Nat} (h : v / 2 ^ k < u / 2 ^ k) : v < u := by
  rcases Nat.lt_or_ge v u with h1 | h1
  · exact h1
  · have := Nat.div_le_div_right (c := 2 ^ k) h1
    omega
theorem less_digit {v u k x y : Nat} (he : v / 2 ^ (k + 1) = u / 2 ^ (k + 1)) (hx : v / 2 ^ k % 2 = x) (hy : u / 2 ^ k % 2 = y) (hne : x ≠ y) : (v < u) ↔ x < y := by
  have a1 := quo_step v k
  have a2 := quo_step u k
  rw [he] at a1
  constructor
  · intro h
    have := Nat.div_le_div_right (c := 2 ^ k) (Nat.le_of_lt h)
    omega
  · intro h
    exact quo_lt (k := k) (by omega)

set_option maxHeartbeats 1600000 in
theorem rless_any {w : World} {B : Nat} {A A2 : Option Addr} {n c n2 c2 : Nat} {xs ys : List Nat} (h : Ni w B A n c xs) (h2 : Ni w B A2 n2 c2 ys) :
    Calls Try.prog 43 #[.slice A n c, .slice A2 n2 c2] w fun e w' => e = .returned (.bool (decide (val 2 xs < val 2 ys))) ∧ w = w' := by
  have hr := h.rooms
  have hr2 := h2.rooms
  have Hl := Lib.hid h.len
  have Hl2 := Lib.hid h2.len
  have hstart : ∀ m : Nat, n ≤ m → n2 ≤ m → val 2 xs / 2 ^ m = val 2 ys / 2 ^ m := fun m h1 h3 => by
    have b1 := val_lt h.lim
    have b2 := val_lt h2.lim
    rw [h.len] at b1
    rw [h2.len] at b2
    rw [Nat.div_eq_of_lt (Nat.lt_of_lt_of_le b1 (Nat.pow_le_pow_right (by omega) h1)), Nat.div_eq_of_lt (Nat.lt_of_lt_of_le b2 (Nat.pow_le_pow_right (by omega) h3))]
  have Hstart := Lib.hid hstart
  clear hstart
  obtain ⟨m, hm1, hm2, hm3⟩ : ∃ m : Nat, n ≤ m ∧ n2 ≤ m ∧ m ≤ 9223372036854775807 := ⟨max n n2, by omega, by omega, by omega⟩
  have Hcat := fun (i : Int) => Lib.hid (rat_any h i)
  have Hcat2 := fun (i : Int) => Lib.hid (rat_any h2 i)
  rcases Nat.lt_or_ge n n2 with hlt | hge
  all_goals
    try have hdn : decide (n < n2) = false := by simp; omega
    go_enter Try.func43, Try.ntmps43
    go_wp2
    go_loop [6] (fun i => ∃ t : Int, -1 ≤ t ∧ t < 9223372036854775807 ∧ i = .int .i64 t ∧ Hid (val 2 xs / 2 ^ (t + 1).toNat = val 2 ys / 2 ^ (t + 1).toNat)) (fun i => (intOf i + 1).toNat)
    case atStart => first
      | exact ⟨(n2 : Int) - 1, by omega, by omega, rfl, Hstart.out _ (by omega) (by omega)⟩
      | exact ⟨(n : Int) - 1, by omega, by omega, rfl, Hstart.out _ (by omega) (by omega)⟩
    case round =>
      obtain ⟨t, ht0, ht1, rfl, hE⟩ := hrel
      by_cases hpos : 0 ≤ t
      · have c1 := (Hcat t).out
        have c2' := (Hcat2 t).out
        rw [if_neg (by omega)] at c1 c2'
        have ex := limb_of (β := 2) (by omega) h.lim t.toNat
        have ey := limb_of (β := 2) (by omega) h2.lim t.toNat
        obtain ⟨x, hx⟩ : ∃ x, xs.getD t.toNat 0 = x := ⟨_, rfl⟩
        obtain ⟨y, hy⟩ : ∃ y, ys.getD t.toNat 0 = y := ⟨_, rfl⟩
        rw [hx] at c1 ex
        rw [hy] at c2' ey
        have C1 := Lib.hid c1
        have C2 := Lib.hid c2'
        have hE' := hE.out
        rw [show (t + 1).toNat = t.toNat + 1 by omega] at hE'
        by_cases hxy : x = y
        · subst hxy
          have HE : Hid (val 2 xs / 2 ^ (t - 1 + 1).toNat = val 2 ys / 2 ^ (t - 1 + 1).toNat) := by
            show _ = _
            rw [show (t - 1 + 1).toNat = t.toNat by omega, quo_step (val 2 xs), quo_step (val 2 ys), hE', ← ex, ← ey]
          have hb : ((x : Int) != (x : Int)) = false := by simp
          clear c1 c2' hx hy ex ey hE'
          go_wp2_with (first
            | (go_at_call_of 55 (Value.slice A n c); refine C1.out.mono ?_; rintro e w' ⟨rfl, rfl⟩)
            | (go_at_call_of 55 (Value.slice A2 n2 c2); refine C2.out.mono ?_; rintro e w' ⟨rfl, rfl⟩))
          go_round
          case rel => first
            | exact ⟨t - 1, by omega, by omega, rfl, HE⟩
            | (refine ⟨trivial, ?_⟩
               repeat apply Exists.intro
               exact ⟨⟨t - 1, by omega, by omega, rfl, HE⟩, rfl⟩)
          case measure => simp [intOf]; omega
        · have hb : ((x : Int) != (y : Int)) = true := by simp; omega
          have hl := less_digit hE' ex.symm ey.symm hxy
          have HL := Lib.hid hl
          clear c1 c2' hx hy ex ey hE' hl hxy
          go_wp2_with (first
            | (go_at_call_of 55 (Value.slice A n c); refine C1.out.mono ?_; rintro e w' ⟨rfl, rfl⟩)
            | (go_at_call_of 55 (Value.slice A2 n2 c2); refine C2.out.mono ?_; rintro e w' ⟨rfl, rfl⟩))
          go_ret
          refine ⟨?_, rfl⟩
          show Ending.returned (.bool (decide (x < y))) = _
          congr 2
          exact (decide_eq_decide.2 HL.out).symm
      · have ht : (t + 1).toNat = 0 := by omega
        have hv := hE.out
        rw [ht] at hv
        simp only [Nat.pow_zero, Nat.div_one] at hv
        have Hv := Lib.hid hv
        clear hv ht
        go_wp2
        go_ret
        refine ⟨?_, rfl⟩
        show Ending.returned (.bool false) = _
        rw [Hv.out]
        simp
theorem take_step (v m vy y vx x cy d P : Nat) (h : m + y + cy = x + 2 * d) (hv : v + vy = vx + cy * P) : v + P * m + (vy + P * y) = vx + P * x + d * (P * 2) := by
  have h1 := congrArg (fun z => P * z) h
  simp only [Nat.mul_add] at h1
  have e1 : d * (P * 2) = P * (2 * d) := by rw [Nat.mul_comm d, Nat.mul_assoc]
  rw [Nat.mul_comm cy P] at hv
  rw [e1]
  omega

/-- what a row of digits hands back, in new memory -/
def RetJ (N : Nat) (w : World) (e : Ending) (w' : World) : Prop := ∃ A n c ds, e = .returned (.slice A n c) ∧ Ni w' w'.heap.size A n c ds ∧ Trm ds ∧ val 2 ds = N ∧ Below w.heap.size w w' ∧ ∀ a, A = some a → w.heap.size ≤ a.block
theorem Gi.fresh {w : World} {base n c : Nat} {A : Option Addr} {xs : List Nat} (h : Gi w base A n c xs) (a : Addr) (e : A = some a) : base ≤ a.block := by
  subst e
  exact (h.2.lt a.block rfl).1

set_option maxHeartbeats 1600000 in
theorem rtake_new {w : World} {A A2 : Option Addr} {n c n2 c2 : Nat} {xs ys : List Nat} (h : Ni w w.heap.size A n c xs) (h2 : Ni w w.heap.size A2 n2 c2 ys) (hn : n ≤ 1099511627) (hle : val 2 ys ≤ val 2 xs) :
    Calls Try.prog 45 #[.slice A n c, .slice A2 n2 c2] w (RetJ (val 2 xs - val 2 ys) w) := by
  have hr := h.rooms
  have hr2 := h2.rooms
  have Hl := Lib.hid h.len
  have Hle := Lib.hid hle
  clear hle
  go_enter Try.func45, Try.ntmps45
  go_wp2
  go_loopw [5, 6, 7] (fun v cv i wr => ∃ (j cy : Nat) (A' : Option Addr) (c' : Nat) (ds : List Nat), j ≤ n ∧ cy ≤ 1 ∧ i = .int .i64 j ∧ cv = .int .i64 cy ∧ v = .slice A' j c' ∧ Gi wr w.heap.size A' j c' ds ∧ Lim 2 ds ∧ Below w.heap.size w wr ∧
      Hid (val 2 ds + val 2 (ys.take j) = val 2 (xs.take j) + cy * 2 ^ j)) (fun _ _ i _ => n - (intOf i).toNat)
  case atStart => exact ⟨0, 0, none, 0, [], by omega, by omega, rfl, rfl, rfl, Gi.nil _ _, Lim.nil _, Below.refl _ _, by simp [Hid, val]⟩
  case round =>
    obtain ⟨j, cy, A', c', ds, hj, hcy, rfl, rfl, rfl, hG, hLd, hB, hV⟩ := hrel
    have hs := hB.size
    by_cases hlt : j < n
    · have ht1 := rat_any (h.below hB) (j : Int)
      have ht2 := rat_any (h2.below hB) (j : Int)
      rw [if_neg (by omega), Int.toNat_natCast] at ht1 ht2
      have hx2 := h.lim.get (by omega) j
      have hy2 := h2.lim.get (by omega) j
      obtain ⟨x, hx⟩ : ∃ x, xs.getD j 0 = x := ⟨_, rfl⟩
      obtain ⟨y, hy⟩ : ∃ y, ys.getD j 0 = y := ⟨_, rfl⟩
      rw [hx] at ht1 hx2
      rw [hy] at ht2 hy2
      have Ht1 := Lib.hid ht1
      have Ht2 := Lib.hid ht2
      have Hx := Lib.hid hx
      have Hy := Lib.hid hy
      clear ht1 ht2 hx hy
      have hstep : ∀ (m d : Nat), m + y + cy = x + 2 * d → m < 2 → d ≤ 1 → ∀ (A3 : Option Addr) (c3 : Nat) (w3 : World), Gi w3 w.heap.size A3 (j + 1) c3 (ds ++ [m]) → Below w.heap.size w w3 → ∃ (j' cy' : Nat) (A' : Option Addr) (c' : Nat) (ds' : List Nat), j' ≤ n ∧ cy' ≤ 1 ∧ Value.int .i64 ((j : Int) + 1) = .int .i64 j' ∧ Value.int .i64 (d : Int) = .int .i64 cy' ∧ Value.slice A3 (j + 1) c3 = .slice A' j' c' ∧ Gi w3 w.heap.size A' j' c' ds' ∧ Lim 2 ds' ∧ Below w.heap.size w w3 ∧
          Hid (val 2 ds' + val 2 (ys.take j') = val 2 (xs.take j') + cy' * 2 ^ j') := fun m d hmd hm2 hd1 A3 c3 w3 hG3 hB3 => by
        refine ⟨j + 1, d, A3, c3, ds ++ [m], by omega, hd1, by simp, rfl, rfl, hG3, hLd.append (Lim.one hm2), hB3, ?_⟩
        show _ = _
        rw [val_snoc, hG.1, val_take_succ, val_take_succ, Hx.out, Hy.out, Nat.pow_succ]
        exact take_step _ _ _ _ _ _ _ _ _ hmd hV.out
      have Hstep := Lib.hid hstep
      clear hstep
      by_cases hneg : x < y + cy
      · obtain ⟨m, hm⟩ : ∃ m : Nat, m + y + cy = x + 2 := ⟨x + 2 - (y + cy), by omega⟩
        have em : (x : Int) - (y : Int) - (cy : Int) + 2 = (m : Int) := by omega
        have eneg : (x : Int) - (y : Int) - (cy : Int) < 0 := by omega
        have hm2 : m < 2 := by omega
        have Hm := Lib.hid hm
        clear hneg hm
        go_wp2_with (first
          | (go_at_call_of 55 (Value.slice A n c); refine Ht1.out.mono ?_; rintro e w' ⟨rfl, rfl⟩)
          | (go_at_call_of 55 (Value.slice A2 n2 c2); refine Ht2.out.mono ?_; rintro e w' ⟨rfl, rfl⟩)
          | (refine wpList_app_i (y := m) _ rfl _ _ rfl rfl (hG.alloc _) rfl (cell_new _ _ _) (by omega) (hB.alloc hs _) (by simp; omega) ?_; intro A3 c3 w3 hG3 hB3))
        go_roundw
        case rel => exact Hstep.out m 1 Hm.out hm2 (by omega) _ _ _ hG3 hB3
        case measure => simp [intOf]; omega
      · obtain ⟨m, hm⟩ : ∃ m : Nat, m + y + cy = x + 2 * 0 := ⟨x - (y + cy), by omega⟩
        have em : (x : Int) - (y : Int) - (cy : Int) = (m : Int) := by omega
        have hm2 : m < 2 := by omega
        have hmn : (0 : Int) ≤ (m : Int) := by omega
        have Hm := Lib.hid hm
        clear hneg hm
        go_wp2_with (first
          | (go_at_call_of 55 (Value.slice A n c); refine Ht1.out.mono ?_; rintro e w' ⟨rfl, rfl⟩)
          | (go_at_call_of 55 (Value.slice A2 n2 c2); refine Ht2.out.mono ?_; rintro e w' ⟨rfl, rfl⟩)
          | (refine wpList_app_i (y := m) _ rfl _ _ rfl rfl (hG.alloc _) rfl (cell_new _ _ _) (by omega) (hB.alloc hs _) (by simp; omega) ?_; intro A3 c3 w3 hG3 hB3))
        go_roundw
        case rel => exact Hstep.out m 0 Hm.out hm2 (by omega) _ _ _ hG3 hB3
        case measure => simp [intOf]; omega
    · obtain rfl : j = n := by omega
      have hv := hV.out
      have hcl := rcut_ni (hG.ni hLd)
      have Hcl := Lib.hid hcl
      rw [List.take_of_length_le (show xs.length ≤ j by rw [Hl.out]; exact Nat.le_refl _)] at hv
      have hyt : val 2 (ys.take j) = val 2 ys := by
        have b1 := val_lt h.lim
        rw [h.len] at b1
        have b2 : val 2 ys < 2 ^ j := Nat.lt_of_le_of_lt Hle.out b1
        rcases Nat.lt_or_ge ys.length j with h3 | h3
        · rw [List.take_of_length_le (by omega)]
        · have e := val_take_drop 2 ys j h3
          have : val 2 (ys.drop j) = 0 := by
            rcases Nat.eq_zero_or_pos (val 2 (ys.drop j)) with h0 | h0
            · exact h0
            · have := Nat.mul_le_mul_left (2 ^ j) h0
              omega
          rw [this] at e
          omega
      have hval : val 2 ds = val 2 xs - val 2 ys := by
        rw [hyt] at hv
        have b3 := val_lt hLd
        rw [hG.1] at b3
        have := Hle.out
        rcases Nat.eq_zero_or_pos cy with h0 | h0
        · subst h0; omega
        · obtain rfl : cy = 1 := by omega
          omega
      have Hval := Lib.hid hval
      clear hv hyt hval hcl
      go_wp2_with (go_at_call 54; refine Hcl.out.mono ?_; rintro e w' ⟨m, rfl, rfl, hm, hN⟩)
      go_ret
      exact ⟨_, _, _, _, rfl, hN, trm_cutL _, by rw [val_cutL, Hval.out], hB, hG.fresh⟩
theorem rtake_any {w : World} {A A2 : Option Addr} {n c n2 c2 : Nat} {xs ys : List Nat} (h : Ni w w.heap.size A n c xs) (h2 : Ni w w.heap.size A2 n2 c2 ys) (hn : n ≤ 1099511627) (hle : val 2 ys ≤ val 2 xs) :
    Calls Try.prog 45 #[.slice A n c, .slice A2 n2 c2] w (RetI (val 2 xs - val 2 ys) w) :=
  (rtake_new h h2 hn hle).mono fun _ _ ⟨A, n, c, ds, he, h1, h2, h3, h4, _⟩ => ⟨A, n, c, ds, he, h1, h2, h3, h4⟩
end Go.Proofs.Ytajppinnnmnjiaa
