/- clepsydraref01.number: the number of a row of binary digits. -/
import Derived.Test.YtddpgckbdccldaaDigits
import Derived.Test.YtddpgckbdccldaaMathE
namespace Go.Proofs.Ytddpgckbdccldaa
set_option linter.unusedSimpArgs false
set_option linter.unusedVariables false
open Go.RowKit

theorem Gu.at_ {w : World} {base n c : Nat} {A : Option Addr} {xs : List Nat} (h : Gu w base A n c xs) {k : Nat} (hk : k < n) :
    ∃ g, A = some ⟨g, 0, none⟩ ∧ base ≤ g ∧ w.cell? ⟨g, k, none⟩ = some (.int .u64 ((xs.getD k 0 : Nat) : Int)) ∧ w.frozen? ⟨g, k, none⟩ = false := by
  obtain ⟨hl, ho⟩ := h
  rcases ho.2 with ⟨_, rfl⟩ | ⟨g, cap, cur, e, hg, _⟩
  · omega
  · injection e with e1 e2 e3
    subst e1; subst e3
    refine ⟨g, rfl, hg, ?_, ho.frozenAt k⟩
    rw [ho.cellAt k (by omega)]
    have hk2 : k < xs.length := by omega
    simp [us, List.getD, List.getElem?_eq_getElem hk2]
theorem Gu.set_ {w : World} {base n c g : Nat} {xs : List Nat} (h : Gu w base (some ⟨g, 0, none⟩) n c xs) (k y : Nat) : Gu (w.setCell ⟨g, k, none⟩ (.int .u64 (y : Int))) base (some ⟨g, 0, none⟩) n c (xs.set k y) := by
  refine ⟨by simp [h.1], ?_⟩
  have := (h.2.stored k (.int .u64 (y : Int))).1
  rwa [show us (xs.set k y) = (us xs).set k (.int .u64 (y : Int)) by simp [us, List.map_set]]
theorem Gu.nt {w : World} {base n c : Nat} {A : Option Addr} {xs : List Nat} (h : Gu w base A n c xs) (hx : Lim 18446744073709551616 xs) : Nt w w.heap.size A n c xs := by
  obtain ⟨hl, ho⟩ := h
  rcases ho.2 with ⟨e, rfl⟩ | ⟨g, cap, cur, e, hg, hh, hnc, hcm, hsz, htk⟩
  · injection e with e1 e2 e3
    subst e1; subst e3
    exact ⟨hl, Nat.le_refl _, Nat.zero_le _, hx, fun h => absurd h (Nat.lt_irrefl _)⟩
  · injection e with e1 e2 e3
    subst e1; subst e3
    refine ⟨hl, hnc, hcm, hx, fun _ => ⟨g, 0, rfl, ho.lt g rfl |>.2, fun j x hj => ?_⟩⟩
    have := ho.cells (g := g) rfl j (.int .u64 (x : Int)) (by simp [us, hj])
    by_cases hj0 : j = 0
    · subst hj0; simpa [Addr.add] using this
    · simpa [Addr.add, hj0] using this

/-- what a number that is made by definition hands back -/
def RetN (N : Nat) (w : World) (e : Ending) (w' : World) : Prop := ∃ A n c xs, e = .returned (.slice A n c) ∧ Nt w' w'.heap.size A n c xs ∧ Trm xs ∧ val 18446744073709551616 xs = N ∧ Below w.heap.size w w'

theorem pow_two_limb (i : Nat) : 2 ^ i = 18446744073709551616 ^ (i / 64) * 2 ^ (i % 64) := by
  rw [show (18446744073709551616 : Nat) = 2 ^ 64 from rfl, ← Nat.pow_mul, ← Nat.pow_add, Nat.div_add_mod]
/-- one binary digit more -/
theorem bit_in {xs : List Nat} {i v : Nat} (hL : Lim 18446744073709551616 xs) (hi : i / 64 < xs.length) (hv : val 18446744073709551616 xs = v) (hlt : v < 2 ^ i) :
    xs.getD (i / 64) 0 + 2 ^ (i % 64) < 18446744073709551616 ∧ val 18446744073709551616 (xs.set (i / 64) (xs.getD (i / 64) 0 + 2 ^ (i % 64))) = v + 2 ^ i := by
  have hr : xs.getD (i / 64) 0 < 2 ^ (i % 64) := by
    rw [limb_of (by omega) hL, hv]
    rw [pow_two_limb] at hlt
    have h1 : v / 18446744073709551616 ^ (i / 64) < 2 ^ (i % 64) := by
      rw [Nat.div_lt_iff_lt_mul (Nat.pow_pos (by omega)), Nat.mul_comm]; exact hlt
    exact Nat.lt_of_le_of_lt (Nat.mod_le _ _) h1
  have hs : 2 ^ (i % 64) * 2 ≤ 18446744073709551616 := by
    rw [← Nat.pow_succ]
    exact Nat.le_trans (Nat.pow_le_pow_right (by omega) (show (i % 64).succ ≤ 64 by omega)) (by decide)
  refine ⟨by omega, ?_⟩
  have := val_set 18446744073709551616 xs (i / 64) (xs.getD (i / 64) 0 + 2 ^ (i % 64)) hi
  rw [Nat.mul_add, hv, ← pow_two_limb] at this
  omega
theorem trm_of_ge {xs : List Nat} (hL : Lim 18446744073709551616 xs) (h : 0 < xs.length → 18446744073709551616 ^ (xs.length - 1) ≤ val 18446744073709551616 xs) : Trm xs := by
  intro ys x e h0
  have hl : xs.length = ys.length + 1 := by rw [e]; simp
  have h1 := h (by omega)
  have h2 : Lim 18446744073709551616 ys := by rw [e] at hL; exact hL.left
  have h3 := val_lt h2
  rw [hl, e, val_snoc, h0, Nat.mul_zero, Nat.add_zero] at h1
  simp at h1
  omega

theorem two_lt {p : Nat} (hp : p < 64) : ∃ z : Nat, 2 ^ p = z ∧ IntKind.u64.wrap (2 ^ p) = (z : Int) ∧ IntKind.u64.wrap (1 * 2 ^ p) = (z : Int) := by
  have h : 2 ^ p < 18446744073709551616 := by
    rw [show (18446744073709551616 : Nat) = 2 ^ 64 from rfl]; exact Nat.pow_lt_pow_right (by omega) hp
  have e : ((2 : Int) ^ p) = ((2 ^ p : Nat) : Int) := by simp
  obtain ⟨z, hz⟩ : ∃ z, 2 ^ p = z := ⟨_, rfl⟩
  rw [hz] at h e
  refine ⟨z, hz, ?_, ?_⟩
  · rw [e, IntKind.wrap_u64]; omega
  · rw [Int.one_mul, e, IntKind.wrap_u64]; omega
/-- what holds behind a round, where the digit was 0 -/
theorem number_zero {w w3 : World} {j m q n3 c3 : Nat} {A3 : Option Addr} {es xs1 : List Nat} (hlt : j < m) (hq : j / 64 = q) (hG : Gu w3 w.heap.size A3 n3 c3 xs1) (hn3 : n3 = q + 1) (hL : Lim 18446744073709551616 xs1) (hB : Below w.heap.size w w3)
    (hV : val 18446744073709551616 xs1 = val 2 (es.take j)) (hd : es.getD j 0 = 0) :
    ∃ (j' : Nat) (A' : Option Addr) (n' c' : Nat) (xs : List Nat), j' ≤ m ∧ Value.int .i64 ((j : Int) + 1) = .int .i64 j' ∧ Value.slice A3 n3 c3 = .slice A' n' c' ∧ Hid (n' = (j' + 63) / 64) ∧ Gu w3 w.heap.size A' n' c' xs ∧ Lim 18446744073709551616 xs ∧ Below w.heap.size w w3 ∧ Hid (val 18446744073709551616 xs = val 2 (es.take j')) :=
  ⟨j + 1, A3, n3, c3, xs1, hlt, by simp, rfl, by show _ = _; omega, hG, hL, hB, by show _ = _; rw [val_take_succ, hd, hV]; simp⟩
theorem number_one {w w3 : World} {j m q p n3 c3 x z g : Nat} {es xs1 : List Nat} (hlt : j < m) (hq : j / 64 = q) (hp : j % 64 = p) (hz : 2 ^ p = z) (hG : Gu w3 w.heap.size (some ⟨g, 0, none⟩) n3 c3 xs1) (hg : w.heap.size ≤ g) (hn3 : n3 = q + 1) (hL : Lim 18446744073709551616 xs1) (hB : Below w.heap.size w w3)
    (hV : val 18446744073709551616 xs1 = val 2 (es.take j)) (hvj : val 2 (es.take j) < 2 ^ j) (hd : es.getD j 0 = 1) (hx : xs1.getD q 0 = x) :
    ∃ (j' : Nat) (A' : Option Addr) (n' c' : Nat) (xs : List Nat), j' ≤ m ∧ Value.int .i64 ((j : Int) + 1) = .int .i64 j' ∧ Value.slice (some ⟨g, 0, none⟩) n3 c3 = .slice A' n' c' ∧ Hid (n' = (j' + 63) / 64) ∧ Gu (w3.setCell ⟨g, q, none⟩ (.int .u64 ((x : Int) + (z : Int)))) w.heap.size A' n' c' xs ∧ Lim 18446744073709551616 xs ∧
      Below w.heap.size w (w3.setCell ⟨g, q, none⟩ (.int .u64 ((x : Int) + (z : Int)))) ∧ Hid (val 18446744073709551616 xs = val 2 (es.take j')) := by
  have hi := bit_in hL (show j / 64 < xs1.length by rw [hq, hG.1]; omega) hV hvj
  rw [hq, hp, hx, hz] at hi
  have hG3 := hG.set_ q (x + z)
  rw [show ((x + z : Nat) : Int) = (x : Int) + (z : Int) by simp] at hG3
  refine ⟨j + 1, _, n3, c3, xs1.set q (x + z), hlt, by simp, rfl, by show _ = _; omega, hG3, ?_, hB.setCell (by exact hg) _, ?_⟩
  · intro y hy
    rcases List.mem_or_eq_of_mem_set hy with hy | hy
    · exact hL y hy
    · omega
  · show _ = _
    rw [hi.2, val_take_succ, hd]; simp

set_option maxHeartbeats 800000 in
theorem number_any {w : World} {A : Option Addr} {n c : Nat} {ds : List Nat} (h : Ni w w.heap.size A n c ds) (hn : n ≤ 1099511627776) : Calls Try.prog 46 #[.slice A n c] w (RetN (val 2 ds) w) := by
  rw [← val_cutL 2 ds]
  have ht := trm_cutL ds
  obtain ⟨m, hm⟩ : ∃ m, m = tl ds n := ⟨_, rfl⟩
  have hmn : m ≤ n := by rw [hm]; exact tl_le _ _
  have hcut := rcut_any h
  rw [← hm] at hcut
  have Hcut := Lib.hid hcut
  have hN : Ni w w.heap.size A m c (cutL ds) := by
    refine ⟨by rw [length_cutL, h.len, hm], Nat.le_trans hmn h.cap, h.room, lim_cutL h.lim, fun h0 => ?_⟩
    obtain ⟨b, off, e, hb, hcell⟩ := h.cell (by omega)
    refine ⟨b, off, e, hb, fun j x hx => hcell j x ?_⟩
    unfold cutL at hx
    rw [List.getElem?_take] at hx
    split at hx
    · exact hx
    · cases hx
  clear hcut hm
  generalize cutL ds = es at *
  have hr := hN.rooms
  have Hlen := Lib.hid hN.len
  go_enter Try.func46, Try.ntmps46
  go_wp2_with (go_at_call 66; refine Hcut.out.mono ?_; rintro e w' ⟨rfl, rfl⟩)
  go_loopw [3, 4] (fun v i wr => ∃ (j : Nat) (A' : Option Addr) (n' c' : Nat) (xs : List Nat), j ≤ m ∧ i = .int .i64 j ∧ v = .slice A' n' c' ∧ Hid (n' = (j + 63) / 64) ∧ Gu wr w.heap.size A' n' c' xs ∧ Lim 18446744073709551616 xs ∧ Below w.heap.size w wr ∧ Hid (val 18446744073709551616 xs = val 2 (es.take j))) (fun _ i _ => m - (intOf i).toNat)
  case atStart => exact ⟨0, none, 0, 0, [], Nat.zero_le _, rfl, rfl, rfl, Gu.nil _ _, Lim.nil _, Below.refl _ _, by simp [Hid, val]⟩
  case round =>
    obtain ⟨j, A', n', c', xs, hj, rfl, rfl, hn', hG, hL, hB, hV⟩ := hrel
    by_cases hlt : j < m
    · obtain ⟨b, off, rfl, hb, hcellw⟩ := hN.at_ hlt
      have hd2 := hN.lim.get (by omega) j
      have hjl : j < es.length := by rw [Hlen.out]; exact hlt
      have hvj : val 2 (es.take j) < 2 ^ j := by
        have := val_lt (hN.lim.take j)
        rwa [List.length_take, Nat.min_eq_left (by omega)] at this
      obtain ⟨d, hd⟩ : ∃ d, es.getD j 0 = d := ⟨_, rfl⟩
      rw [hd] at hcellw hd2
      have hcell := (hB.cell (p := ⟨b, off + j, none⟩) hb).trans hcellw
      have Hd := Lib.hid hd
      have hs := hB.size
      have hn'b : n' ≤ 1099511627776 := by have := hn'.out; omega
      have em : (j : Int) % 64 = ((j % 64 : Nat) : Int) := by omega
      have ed : (j : Int) / 64 = ((j / 64 : Nat) : Int) := by omega
      obtain ⟨p, hp⟩ : ∃ p, j % 64 = p := ⟨_, rfl⟩
      obtain ⟨q, hq⟩ : ∃ q, j / 64 = q := ⟨_, rfl⟩
      rw [hp] at em
      rw [hq] at ed
      have hp64 : p < 64 := by omega
      have Hp := Lib.hid hp
      have Hq := Lib.hid hq
      clear hd hp hq hjl
      obtain ⟨z, hz, ez1, ez2⟩ := two_lt hp64
      have Hz := Lib.hid hz
      clear hz
      have hroom : ∀ ys : List Nat, Lim 18446744073709551616 ys → ys.length = q + 1 → val 18446744073709551616 ys = val 2 (es.take j) → ys.getD q 0 + z < 18446744073709551616 := fun ys h1 h2 h3 => by
        have := (bit_in h1 (show j / 64 < ys.length by rw [Hq.out]; omega) h3 hvj).1
        rwa [Hq.out, Hp.out, Hz.out] at this
      have Hroom := Lib.hid hroom
      have Hvj := Lib.hid hvj
      clear hroom hvj
      rcases Nat.eq_zero_or_pos p with hp0 | hp0
      · have hn3 : n' + 1 = q + 1 := by have := hn'.out; have := Hq.out; have := Hp.out; omega
        have hpz : ((p : Int) == 0) = true := by simp; omega
        clear hp0
        have Hn3 := Lib.hid hn3
        have hL1 : Lim 18446744073709551616 (xs ++ [0]) := hL.append (Lim.one (by omega))
        have HV1 : Hid (val 18446744073709551616 (xs ++ [0]) = val 2 (es.take j)) := by show _ = _; rw [val_snoc, hV.out]; simp
        have hqn : q < n' + 1 := by omega
        clear hn3
        rcases (show d = 0 ∨ d = 1 by omega) with rfl | rfl
        · go_wp2_with (refine wpList_app_u _ rfl _ _ rfl rfl (hG.alloc _) rfl (cell_new _ _ _) hn'b (hB.alloc hs _) (by simp; omega) ?_; intro A3 c3 w3 hG3 hB3; have hcell3 := (hB3.cell (p := ⟨b, off + j, none⟩) hb).trans hcellw)
          go_roundw
          case rel => exact number_zero hlt Hq.out hG3 Hn3.out hL1 hB3 HV1.out Hd.out
          case measure => simp [intOf]; omega
        · go_wp2_with (refine wpList_app_u _ rfl _ _ rfl rfl (hG.alloc _) rfl (cell_new _ _ _) hn'b (hB.alloc hs _) (by simp; omega) ?_; intro A3 c3 w3 hG3 hB3; have hcell3 := (hB3.cell (p := ⟨b, off + j, none⟩) hb).trans hcellw; obtain ⟨g, rfl, hg, hc3, hf3⟩ := hG3.at_ hqn; have hx3 := Hroom.out _ hL1 (by rw [hG3.1]; exact Hn3.out) HV1.out; obtain ⟨x, hx⟩ : ∃ x, (xs ++ [0]).getD q 0 = x := ⟨_, rfl⟩; rw [hx] at hc3 hx3; have Hx := Lib.hid hx; clear hx)
          go_roundw
          case rel => exact number_one hlt Hq.out Hp.out Hz.out hG3 hg Hn3.out hL1 hB3 HV1.out Hvj.out Hd.out Hx.out
          case measure => simp [intOf]; omega
      · have hn3 : n' = q + 1 := by have := hn'.out; have := Hq.out; have := Hp.out; omega
        have Hn3 := Lib.hid hn3
        have hqn : q < n' := by omega
        have hpz : ((p : Int) == 0) = false := by simp; omega
        obtain ⟨g, rfl, hg, hc3, hf3⟩ := hG.at_ hqn
        have hx3 := Hroom.out _ hL (by rw [hG.1]; exact hn3) hV.out
        obtain ⟨x, hx⟩ : ∃ x, xs.getD q 0 = x := ⟨_, rfl⟩
        rw [hx] at hc3 hx3
        have Hx := Lib.hid hx
        clear hx hn3
        rcases (show d = 0 ∨ d = 1 by omega) with rfl | rfl
        · go_wp2
          go_roundw
          case rel => exact number_zero hlt Hq.out hG Hn3.out hL hB hV.out Hd.out
          case measure => simp [intOf]; omega
        · go_wp2
          go_roundw
          case rel => exact number_one hlt Hq.out Hp.out Hz.out hG hg Hn3.out hL hB hV.out Hvj.out Hd.out Hx.out
          case measure => simp [intOf]; omega
    · have hjm : j = m := by omega
      have hv := hV.out
      rw [hjm, List.take_of_length_le (by rw [Hlen.out]; exact Nat.le_refl _)] at hv
      have Hv := Lib.hid hv
      have hlx : xs.length = (m + 63) / 64 := by rw [hG.1, ← hjm]; exact hn'.out
      have Hlx := Lib.hid hlx
      clear hv hjm hlx
      go_wp2
      go_ret
      refine ⟨_, _, _, xs, rfl, hG.nt hL, trm_of_ge hL fun h0 => ?_, Hv.out, hB⟩
      have hm0 : 0 < es.length := by have := Hlx.out; have := Hlen.out; omega
      have h1 := val_ge (β := 2) ht hm0
      rw [Hv.out]
      refine Nat.le_trans ?_ h1
      rw [show (18446744073709551616 : Nat) = 2 ^ 64 from rfl, ← Nat.pow_mul]
      exact Nat.pow_le_pow_right (by omega) (by have := Hlx.out; have := Hlen.out; omega)
end Go.Proofs.Ytddpgckbdccldaa
