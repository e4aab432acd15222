/- nat.Sub. -/
import Derived.Test.YtkhlmcknbangfaaGreatDoorSum
namespace Go.Proofs.YtkhlmcknbangfaaGreatDoor
set_option linter.unusedSimpArgs false
set_option linter.unusedVariables false
open Go.RowKit
set_option linter.unusedVariables false

theorem sub_round {w wr : World} {g n : Nat} {U vs post done : List Nat} {x cy : Nat} (hl : done.length < U.length) (hn : done.length < n) (hcy : cy ≤ 1) (hlim : Lim 18446744073709551616 done) (hU : Lim 18446744073709551616 U) (hvs : Lim 18446744073709551616 vs) (hg : w.heap.size ≤ g)
    (how : Ow wr g ([] ++ (done ++ x :: U.drop (done.length + 1)) ++ post)) (hbel : Below w.heap.size w wr) (hx : U[done.length] = x)
    (hV : val 18446744073709551616 done + val 18446744073709551616 (vs.take done.length) + 0 = val 18446744073709551616 (U.take done.length) + cy * 18446744073709551616 ^ done.length) :
    ∃ (done' : List Nat) (cy' : Nat), done'.length ≤ n ∧ Value.int .i64 ((done.length : Int) + 1) = .int .i64 done'.length ∧ Value.int .u64 ((bo x (vs[done.length]?.getD 0) cy : Nat) : Int) = .int .u64 (cy' : Int) ∧ cy' ≤ 1 ∧ Lim 18446744073709551616 done' ∧
      Ow (wr.setCell ⟨g, done.length, none⟩ (.int .u64 ((df x (vs[done.length]?.getD 0) cy : Nat) : Int))).drew g ([] ++ (done' ++ U.drop done'.length) ++ post) ∧ Below w.heap.size w (wr.setCell ⟨g, done.length, none⟩ (.int .u64 ((df x (vs[done.length]?.getD 0) cy : Nat) : Int))).drew ∧
      Hid (val 18446744073709551616 done' + val 18446744073709551616 (vs.take done'.length) + 0 = val 18446744073709551616 (U.take done'.length) + cy' * 18446744073709551616 ^ done'.length) := by
  have hy : vs[done.length]?.getD 0 < 18446744073709551616 := hvs.get (by omega) done.length
  have hxl : x < 18446744073709551616 := by rw [← hx]; exact hU _ (List.getElem_mem hl)
  have hxg : U.getD done.length 0 = x := by simp [List.getD, List.getElem?_eq_getElem hl, hx]
  refine ⟨done ++ [df x (vs[done.length]?.getD 0) cy], bo x (vs[done.length]?.getD 0) cy, by simp; omega, by simp, rfl, bo_le _ _ _, hlim.append (Lim.one (df_lt _ _ _)), ?_, (hbel.setCell (by exact hg) _).drew, ?_⟩
  · have := (how.set_ ([] ++ done).length (df x (vs[done.length]?.getD 0) cy)).drew
    rw [show ([] ++ done : List Nat).length = ([] : List Nat).length + done.length by simp, set_mid] at this
    simpa using this
  · show _ = _
    rw [List.length_append, List.length_singleton, val_snoc, val_take_succ, val_take_succ, hxg, Nat.pow_succ]
    have := sub_step _ _ _ _ _ _ _ _ _ _ (df_bo hxl hy hcy) hV
    exact this

set_option maxHeartbeats 400000 in
theorem trim_own {w : World} {B : Nat} {A : Option Addr} {n c : Nat} {xs : List Nat} (h : Nt w B A n c xs) (hB : B ≤ w.heap.size) (hn : n ≤ 1099511627776) :
    Calls Tryz.prog 144 #[.slice A n c] w fun e w' => ∃ m, e = .returned (.slice (some ⟨w.heap.size, 0, none⟩) m m) ∧ m ≤ n ∧ (cutL xs).length = m ∧ Ow w' w.heap.size (cutL xs) ∧ Below w.heap.size w w' := by
  have hr := h.rooms
  go_enter Tryz.func144, Tryz.ntmps144
  go_wp2_with (first
    | (go_at_call 82; refine (cut_nt h).mono ?_; rintro e w' ⟨m, rfl, rfl, hm, hN⟩)
    | (refine wpList_make_us _ rfl _ _ rfl _ _ m rfl rfl rfl rfl (by omega) ?_; intro w1 hw1 hg1)
    | (refine wpList_copy_us rfl _ _ rfl rfl rfl hw1 (by simp) (hN.below (below_none hg1 hB)) (Nat.le_refl _) ?_; intro w2 hw2 hg2))
  go_ret
  have e : cutL xs ++ List.drop m (List.replicate m 0) = cutL xs := by simp
  rw [e] at hw2
  have hb := (below_none hg1 (Nat.le_refl _)).grown hg2 hg1.size (fun k hk => by cases hk; exact Nat.le_refl _)
  exact ⟨m, rfl, hm, hN.len, hw2, hb⟩

/-- what Sub hands back where nothing is left over -/
def Sub (a b : Nat) (w : World) (e : Ending) (w' : World) : Prop :=
  (a < b ∧ e = .returned (.tuple #[.slice none 0 0, .int .i64 10]) ∧ Below w.heap.size w w') ∨
  (b ≤ a ∧ ∃ A n c xs, e = .returned (.tuple #[.slice A n c, .int .i64 0]) ∧ Res w w' (a - b) A n c xs)

theorem sub_end {N D V U cy P : Nat} (hV : D + V + 0 = U + cy * P) (hD : D < P) (hle : V ≤ U) (hN : N = U - V) : D = N := by
  rcases Nat.eq_zero_or_pos cy with h | h
  · subst h; omega
  · have : 1 * P ≤ cy * P := Nat.mul_le_mul_right _ h
    omega
theorem sgn_neg {x y : Nat} (h : x < y) : sgn (x : Int) (y : Int) < 0 := by rw [sgn_lt h]; omega
theorem sgn_nonneg {x y : Nat} (h : y ≤ x) : ¬ sgn (x : Int) (y : Int) < 0 := by unfold sgn; rw [if_neg (by omega)]; split <;> omega

set_option maxHeartbeats 2000000 in
theorem sub_any {w : World} {A A2 : Option Addr} {n c n2 c2 : Nat} {xs ys : List Nat} (h : Nt w w.heap.size A n c xs) (h2 : Nt w w.heap.size A2 n2 c2 ys) (hn : n ≤ 1099511627776) :
    Calls Tryz.prog 90 #[.slice A n c, .slice A2 n2 c2] w (Sub (val 18446744073709551616 xs) (val 18446744073709551616 ys) w) := by
  rcases Nat.lt_or_ge (val 18446744073709551616 xs) (val 18446744073709551616 ys) with hlt | hge
  · have hs := sgn_neg hlt
    have Hlt := Lib.hid hlt
    clear hlt
    go_enter Tryz.func90, Tryz.ntmps90
    go_wp2_with (go_at_call 26; refine (cmp_any h h2).mono ?_; rintro e w' ⟨rfl, d, rfl⟩)
    go_ret2
    exact .inl ⟨Hlt.out, rfl, below_drewN (Below.refl _ _) d⟩
  · have hs := sgn_nonneg hge
    have hcmp := cmp_any h h2
    generalize sgn (val 18446744073709551616 xs : Int) (val 18446744073709551616 ys : Int) = sg at *
    have Hcmp := Lib.hid hcmp
    have hsb : decide (sg < 0) = false := by simp; omega
    have Hge := Lib.hid hge
    clear hge hs hcmp
    go_enter Tryz.func90, Tryz.ntmps90
    go_wp2_with (first
      | (go_at_call 26; refine Hcmp.out.mono ?_; rintro e w' ⟨rfl, d, rfl⟩; have hd := h.drewN d; have hd2 := h2.drewN d)
      | (go_at_call 82; refine (cut_nt hd2).mono ?_; rintro e w' ⟨m2, rfl, rfl, hm2, hN2⟩)
      | (go_at_call 144; refine (trim_own hd (Nat.le_refl _) hn).mono ?_; rintro e w1 ⟨n1, rfl, hn1, hl1, how1, hb1⟩; have Hl1 := Lib.hid hl1; clear hl1))
    have hb0 : Below w.heap.size w w1 := (below_drewN (Below.refl _ _) d).trans hb1
    have hUL : Lim 18446744073709551616 (cutL xs) := lim_cutL h.lim
    have hv : val 18446744073709551616 (cutL xs) = val 18446744073709551616 xs := val_cutL _ xs
    have hv2 : val 18446744073709551616 (cutL ys) = val 18446744073709551616 ys := val_cutL _ ys
    rw [← hv, ← hv2] at Hge
    have Hv := Lib.hid hv
    have Hv2 := Lib.hid hv2
    have hlen : (cutL ys).length ≤ (cutL xs).length := by
      rcases Nat.lt_or_ge (cutL xs).length (cutL ys).length with hlt | hge
      · exfalso
        have := val_len_lt (by omega) hUL (trm_cutL ys) hlt
        have := Hge.out
        omega
      · exact hge
    have Hlen := Lib.hid hlen
    have how0 : Ow w1 w.heap.size ([] ++ cutL xs ++ []) := by simpa using how1
    clear hv hv2 hlen how1
    generalize cutL xs = us at *
    generalize cutL ys = vs at *
    go_loopw [7, 19] (fun cv i wr => ∃ (done : List Nat) (cy : Nat), done.length ≤ n1 ∧ i = .int .i64 done.length ∧ cv = .int .u64 (cy : Int) ∧ cy ≤ 1 ∧ Lim 18446744073709551616 done ∧
        Ow wr w.heap.size ([] ++ (done ++ us.drop done.length) ++ []) ∧ Below w.heap.size w wr ∧
        Hid (val 18446744073709551616 done + val 18446744073709551616 (vs.take done.length) + 0 = val 18446744073709551616 (us.take done.length) + cy * 18446744073709551616 ^ done.length))
      (fun _ i _ => n1 - (intOf i).toNat)
    case atStart => exact ⟨[], 0, Nat.zero_le _, rfl, rfl, by omega, Lim.nil _, by simpa using how0, hb0, by simp [Hid, val]⟩
    case round =>
      obtain ⟨done, cy, hd', rfl, rfl, hcy, hlim, how, hbel, hV⟩ := hrel
      by_cases hlt : done.length < n1
      · have hl : done.length < us.length := by have := Hl1.out; omega
        have how' : Ow wr w.heap.size ([] ++ (done ++ us[done.length] :: us.drop (done.length + 1)) ++ []) := by rw [← List.drop_eq_getElem_cons hl]; exact how
        have hx : wr.cell? ⟨w.heap.size, done.length, none⟩ = some (.int .u64 ((us[done.length] : Nat) : Int)) := how'.cell (by have := get_mid [] done (us.drop (done.length + 1)) [] us[done.length]; simpa using this)
        have hf : wr.frozen? ⟨w.heap.size, done.length, none⟩ = false := how.frozen _
        have hbr : Nt wr w.heap.size A2 m2 m2 vs := hN2.below ((below_drewN (Below.refl _ _) 0).trans ⟨hbel.os, hbel.tape, hbel.output, hbel.size, hbel.block⟩)
        generalize hxe : us[done.length] = x at *
        have Hxe := Lib.hid hxe
        clear hxe how
        go_wp2
        go_region_with (go_at_call 131; refine (limb_any hbr.drew _ (by omega)).mono ?_; rintro e w' ⟨rfl, rfl⟩)
        all_goals
          go_wp2
          go_roundw
          case rel => exact sub_round hl hlt hcy hlim hUL hbr.lim (Nat.le_refl _) how' hbel Hxe.out hV.out
          case measure => simp [intOf]; omega
      · have hll : done.length = n1 := by omega
        have hlu : us.length = done.length := by rw [hll]; exact Hl1.out
        have hv := hV.out
        rw [List.take_of_length_le (l := us) (by omega), List.take_of_length_le (l := vs) (by have := Hlen.out; omega)] at hv
        have hD := sub_end hv (val_lt hlim) Hge.out rfl
        have how' : Ow wr w.heap.size done := by
          have := how
          rw [← hlu, List.drop_length] at this
          simpa using this
        have Hcut := Lib.hid (cut_res how' (Nat.le_refl _) hbel (by rw [hll]; unfold maxLen; omega) hlim hll.symm hD)
        clear hll hlu hv hD
        go_wp2_with (go_at_call 82; refine Hcut.out.mono ?_; rintro e w' ⟨A', n', c', xs', rfl, hres⟩)
        go_ret2
        rw [Hv.out, Hv2.out] at hres Hge
        exact .inr ⟨Hge.out, _, _, _, _, rfl, hres⟩
end Go.Proofs.YtkhlmcknbangfaaGreatDoor
