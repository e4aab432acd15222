/- nat.Div: the quotient and what is left. -/
import Derived.Test.YtkhlmcknbangfaaGreatDoorStep
import Derived.Test.YtkhlmcknbangfaaGreatDoorMaths
namespace Go.Proofs.YtkhlmcknbangfaaGreatDoor
set_option linter.unusedSimpArgs false
set_option linter.unusedVariables false
open Go.RowKit
set_option linter.unusedVariables false

/-- what Div hands back -/
def Div (a b : Nat) (w : World) (e : Ending) (w' : World) : Prop :=
  (b = 0 ∧ e = .returned (.tuple #[.slice none 0 0, .slice none 0 0, .int .i64 11]) ∧ Below w.heap.size w w') ∨
  (0 < b ∧ ∃ A n c q A2 n2 c2 r, e = .returned (.tuple #[.slice A n c, .slice A2 n2 c2, .int .i64 0]) ∧ Nt w' w'.heap.size A n c q ∧ Trm q ∧ val 18446744073709551616 q = a / b ∧
    Nt w' w'.heap.size A2 n2 c2 r ∧ Trm r ∧ val 18446744073709551616 r = a % b ∧ Below w.heap.size w w')

theorem shN_up (v p : Nat) (hp : p < 64) : shN v (p : Int) = v * 2 ^ p := by
  unfold shN
  rw [if_pos (by omega), Int.toNat_natCast, Nat.min_eq_left (by omega)]
theorem shN_down (v p : Nat) : shN (v * 2 ^ p) (-(p : Int)) = v := by
  unfold shN
  by_cases h : p = 0
  · subst h; simp
  · rw [if_neg (by omega), show (-(-(p : Int))).toNat = p by omega, Nat.mul_div_cancel _ (Nat.two_pow_pos p)]

theorem top_bounds {xs : List Nat} {k x : Nat} (hl : xs.length = k + 1) (hL : Lim 18446744073709551616 xs) (hx : xs.getD k 0 = x) (h0 : 0 < x) (hx' : x < 18446744073709551616) :
    9223372036854775808 * 18446744073709551616 ^ k ≤ val 18446744073709551616 xs * 2 ^ lz x ∧ val 18446744073709551616 xs * 2 ^ lz x < 18446744073709551616 ^ (k + 1) := by
  have e := val_take_succ 18446744073709551616 xs k
  rw [List.take_of_length_le (by omega), hx] at e
  have h1 := val_lt (hL.take k)
  rw [List.length_take, Nat.min_eq_left (by omega)] at h1
  obtain ⟨t1, t2⟩ := lz_top h0 hx'
  have hz := lz_lt h0 hx'
  have p2 : 2 ^ (64 - lz x) * 2 ^ lz x = 18446744073709551616 := by rw [← Nat.pow_add, show 64 - lz x + lz x = 64 by omega]
  have q2 : x < 2 ^ (64 - lz x) := Nat.lt_of_mul_lt_mul_right (a := 2 ^ lz x) (by rw [p2]; exact t2)
  constructor
  · have := Nat.mul_le_mul_left (18446744073709551616 ^ k) t1
    rw [Nat.mul_comm 9223372036854775808, e, Nat.add_mul, Nat.mul_assoc]
    omega
  · have h2 : val 18446744073709551616 xs < 18446744073709551616 ^ k * 2 ^ (64 - lz x) := by
      have := Nat.mul_le_mul_left (18446744073709551616 ^ k) (show x + 1 ≤ 2 ^ (64 - lz x) from q2)
      rw [Nat.mul_add] at this
      omega
    have h3 := Nat.mul_lt_mul_of_pos_right h2 (Nat.two_pow_pos (lz x))
    rw [Nat.mul_assoc, p2, ← Nat.pow_succ] at h3
    exact h3

set_option maxHeartbeats 1000000 in
theorem div_zero_any {w : World} {A A2 : Option Addr} {n c n2 c2 : Nat} {xs ys : List Nat} (h : Nt w w.heap.size A n c xs) (h2 : Nt w w.heap.size A2 n2 c2 ys) (hz : cutL ys = []) :
    Calls Tryz.prog 118 #[.slice A n c, .slice A2 n2 c2] w (Div (val 18446744073709551616 xs) (val 18446744073709551616 ys) w) := by
  obtain ⟨m, hm, hN, Hc⟩ := cut_ex h
  obtain ⟨m2, hm2, hN2, Hc2⟩ := cut_ex h2
  have hl2 := hN2.len
  rw [hz] at hl2
  obtain rfl : m2 = 0 := hl2.symm
  have hv : val 18446744073709551616 ys = 0 := by rw [← val_cutL, hz]; rfl
  have Hv := Lib.hid hv
  clear hv hz hl2
  go_enter Tryz.func118, Tryz.ntmps118
  go_wp2_with (first
    | (go_at_call_of 82 (Value.slice A n c); refine Hc.out.mono ?_; rintro e w' ⟨rfl, rfl⟩)
    | (go_at_call_of 82 (Value.slice A2 n2 c2); refine Hc2.out.mono ?_; rintro e w' ⟨rfl, rfl⟩))
  go_ret3
  exact .inl ⟨Hv.out, rfl, Below.refl _ _⟩

set_option maxHeartbeats 1000000 in
theorem div_small_any {w : World} {A A2 : Option Addr} {n c n2 c2 : Nat} {xs ys : List Nat} (h : Nt w w.heap.size A n c xs) (h2 : Nt w w.heap.size A2 n2 c2 ys) (hn : n ≤ 1099511627776) (hlt : (cutL xs).length < (cutL ys).length) :
    Calls Tryz.prog 118 #[.slice A n c, .slice A2 n2 c2] w (Div (val 18446744073709551616 xs) (val 18446744073709551616 ys) w) := by
  obtain ⟨m, hm, hN, Hc⟩ := cut_ex h
  obtain ⟨m2, hm2, hN2, Hc2⟩ := cut_ex h2
  have hv := val_len_lt (by omega) hN.lim (trm_cutL ys) hlt
  rw [val_cutL, val_cutL] at hv
  rw [hN.len, hN2.len] at hlt
  have hr := hN.rooms
  have hr2 := hN2.rooms
  have hne : ((m2 : Int) == 0) = false := by simp; omega
  have Hv := Lib.hid hv
  clear hv
  go_enter Tryz.func118, Tryz.ntmps118
  go_wp2_with (first
    | (go_at_call_of 82 (Value.slice A n c); refine Hc.out.mono ?_; rintro e w' ⟨rfl, rfl⟩)
    | (go_at_call_of 82 (Value.slice A2 n2 c2); refine Hc2.out.mono ?_; rintro e w' ⟨rfl, rfl⟩)
    | (go_at_call 144; refine (trim_any hN (by omega)).mono ?_; rintro e w1 ⟨A1, n1, c1, us, rfl, hres⟩))
  go_ret3
  have e1 := hres.is
  rw [val_cutL] at e1
  have hv := Hv.out
  exact .inr ⟨by omega, none, 0, 0, [], A1, n1, c1, us, rfl, ⟨rfl, Nat.le_refl _, Nat.zero_le _, Lim.nil _, fun h => absurd h (Nat.lt_irrefl _)⟩, trm_nil, by rw [Nat.div_eq_of_lt hv]; rfl, hres.nt, hres.trm, by rw [Nat.mod_eq_of_lt hv]; exact e1, hres.bel⟩

/-- what holds at the loop's head -/
structure AtHead (w w1 wr : World) (gu gq k M t V U0 : Nat) (cur qs : List Nat) : Prop where
  u : Ow wr gu cur
  q : Ow wr gq qs
  ul : cur.length = M + k + 1
  ql : qs.length = M
  uL : Lim 18446744073709551616 cur
  qL : Lim 18446744073709551616 qs
  b : Below gu w1 wr
  b0 : Below w.heap.size w wr
  inv : DivInv 18446744073709551616 U0 V t cur qs

theorem Ow.far {w : World} {g : Nat} {xs : List Nat} (h : Ow w g xs) {p : Addr} (hp : g ≠ p.block) (u : Value) : Ow (w.setCell p u) g xs := (Below.heap_setCell w p u g hp).trans h
theorem AtHead.step {w w1 wr w6 : World} {gu gq k t j M V U0 q : Nat} {cur qs U' : List Nat} (h : AtHead w w1 wr gu gq k M (t + 1) V U0 cur qs) (hMt : t + 1 + j = M) (hne : gu < gq) (hw : w.heap.size ≤ gu) (hsz : w1.heap.size ≤ gu) (hgw : gu ≤ w1.heap.size) (hV : V < 18446744073709551616 ^ (k + 1))
    (how : Ow w6 gu (cur.take t ++ U' ++ cur.drop (t + k + 2))) (hl : U'.length = ((cur.drop t).take (k + 2)).length) (hL : Lim 18446744073709551616 U') (hq : q < 18446744073709551616)
    (h1 : val 18446744073709551616 U' + q * V = val 18446744073709551616 ((cur.drop t).take (k + 2))) (h2 : val 18446744073709551616 U' < V) (hg : wr.grownBy w6 (some gu)) :
    AtHead w w1 (w6.setCell ⟨gq, t, none⟩ (.int .u64 (q : Int))) gu gq k M t V U0 (cur.take t ++ U' ++ cur.drop (t + k + 2)) (qs.set t q) := by
  have hul := h.ul
  have hql := h.ql
  have hl' : U'.length = k + 2 := by rw [hl, List.length_take, List.length_drop]; omega
  have hs := hg.size
  have hb := h.b.size
  refine ⟨how.far (by simp; omega) _, (h.q.grown hg (by simp; omega)).set_ t q, ?_, by simp [hql], ((h.uL.take t).append hL).append (h.uL.drop _), ?_, ?_, ?_, ?_⟩
  · simp [hl']; omega
  · intro x hx
    rcases List.mem_or_eq_of_mem_set hx with hx | hx
    · exact h.qL x hx
    · omega
  · exact (h.b.trans (below_of_only hg (Nat.le_refl _) (by omega))).setCell (by simp; omega) _
  · exact (h.b0.trans (below_of_only hg hw (by have := h.b0.size; omega))).setCell (by simp; omega) _
  · exact h.inv.step (by omega) (by omega) hV hl' h1 h2

set_option maxHeartbeats 4000000 in
theorem div_any' {w : World} {A A2 : Option Addr} {n c n2 c2 : Nat} {xs ys : List Nat} (h : Nt w w.heap.size A n c xs) (h2 : Nt w w.heap.size A2 n2 c2 ys) (hn : n ≤ 1099511627776) (k M : Nat) (hM : 1 ≤ M) (hk1 : (cutL ys).length = k + 1) (hk2 : (cutL xs).length = M + k) :
    Calls Tryz.prog 118 #[.slice A n c, .slice A2 n2 c2] w (Div (val 18446744073709551616 xs) (val 18446744073709551616 ys) w) := by
  obtain ⟨m, hm, hN, Hc⟩ := cut_ex h
  obtain ⟨m2, hm2, hN2, Hc2⟩ := cut_ex h2
  obtain rfl : m2 = k + 1 := hN2.len.symm.trans hk1
  obtain rfl : m = M + k := hN.len.symm.trans hk2
  have hva : val 18446744073709551616 (cutL xs) = val 18446744073709551616 xs := val_cutL _ xs
  have hvb : val 18446744073709551616 (cutL ys) = val 18446744073709551616 ys := val_cutL _ ys
  have tb := trm_cutL ys
  have hr := hN.rooms
  have hr2 := hN2.rooms
  obtain ⟨b2, off2, rfl, hbb, hcell⟩ := hN2.at_ (show k < k + 1 by omega)
  have hx0 := trm_top tb hk1
  have hxl := hN2.lim.get (by omega) k
  generalize cutL xs = us at *
  generalize cutL ys = vs at *
  generalize hxe : vs.getD k 0 = x at *
  obtain ⟨hlo, hhi⟩ := top_bounds hk1 hN2.lim hxe hx0 hxl
  have hz := lz_lt hx0 hxl
  have hlza := fun W => lz_any x hx0 hxl W
  have hva' := val_lt hN.lim
  generalize lz x = p at *
  have Hlz := Lib.hid hlza
  have hne : ((k : Int) + 1 == 0) = false := by simp; omega
  have hd24 : decide ((M : Int) + (k : Int) < (k : Int) + 1) = false := by simp; omega
  have Hva := Lib.hid hva
  have Hvb := Lib.hid hvb
  have Hlo := Lib.hid hlo
  have Hhi := Lib.hid hhi
  have Hk1 := Lib.hid hk1
  have Hk2 := Lib.hid hk2
  clear hlza hva hvb hlo hhi hk1 hk2 hxe
  go_enter Tryz.func118, Tryz.ntmps118
  go_wp2_with (first
    | (go_at_call_of 82 (Value.slice A n c); refine Hc.out.mono ?_; rintro e w' ⟨rfl, rfl⟩)
    | (go_at_call_of 82 (Value.slice (some ⟨b2, off2, none⟩) n2 c2); refine Hc2.out.mono ?_; rintro e w' ⟨rfl, rfl⟩)
    | (go_at_call 122; refine (Hlz.out _).mono ?_; rintro e w' ⟨rfl, rfl⟩))
  refine (shift_any hN2 (by omega) (p : Int) (by omega) (by omega)).mono ?_
  rintro e w1 ⟨A3, n3, c3, ws, rfl, hres1⟩
  rw [shN_up _ p hz] at hres1
  have hnl := norm_len hres1.nt.lim hres1.trm hres1.is Hlo.out Hhi.out
  obtain rfl : n3 = k + 1 := hres1.nt.len.symm.trans hnl.1
  have htop := hnl.2
  have hv1 := hres1.nt
  have hvr := hv1.rooms
  have Hv1 := Lib.hid hres1.is
  have hb1 := hres1.bel
  clear hnl hres1
  go_wp2_with (first
    | (refine wpList_make_us _ rfl (.tmp 39) (.tmp 39) rfl _ _ (M + k + 1) rfl rfl (by omega) (by omega) (by omega) ?_; intro w2 hw2 hg2; have hb2 : Below w1.heap.size w1 w2 := below_none hg2 (Nat.le_refl _); have hN' : Nt w2 w2.heap.size A (M + k) (M + k) us := (hN.bel hb1 (Nat.le_refl _)).bel hb2 (Nat.le_refl _); have hsz2 : w1.heap.size < w2.heap.size := hw2.lt))
  refine (shift_any hN' (by omega) (p : Int) (by omega) (by omega)).mono ?_
  rintro e w3 ⟨A4, n4, c4, zs, rfl, hres3⟩
  rw [shN_up _ p hz] at hres3
  have hn4 : n4 ≤ M + k + 1 := by
    have hh := hres3.is
    rw [← hres3.nt.len]
    refine length_of_val (β := 18446744073709551616) (by omega) hres3.trm ?_
    rw [hh, Nat.pow_succ]
    have p2 : 2 ^ p ≤ 18446744073709551616 := by rw [show (18446744073709551616 : Nat) = 2 ^ 64 from rfl]; exact Nat.pow_le_pow_right (by omega) (by omega)
    rw [← Hk2.out]
    exact Nat.lt_of_lt_of_le (Nat.mul_lt_mul_of_pos_right hva' (Nat.two_pow_pos p)) (Nat.mul_le_mul_left _ p2)
  have how3 : Ow w3 w1.heap.size (List.replicate (M + k + 1) 0) := hw2.below hres3.bel (by omega)
  have hzn := hres3.nt
  have Hz := Lib.hid hres3.is
  have hb3 := hres3.bel
  clear hres3
  go_wp2_with (first
    | (refine wpList_copy_us rfl (.tmp 41) (.tmp 44) rfl rfl rfl how3 (by simp) hzn hn4 ?_; intro w4 hw4 hg4)
    | (refine wpList_make_us _ rfl (.tmp 51) (.tmp 51) rfl _ _ M rfl rfl (by omega) (by omega) (by omega) ?_; intro w5 hw5 hg5))
  obtain ⟨cur0, hcur0⟩ : ∃ cur0, cur0 = zs ++ (List.replicate (M + k + 1) 0).drop n4 := ⟨_, rfl⟩
  have hsz4 : w1.heap.size < w4.heap.size := (hcur0 ▸ hw4).lt
  have hA5 : AtHead w w1 w5 w1.heap.size w4.heap.size k M M (val 18446744073709551616 vs * 2 ^ p) (val 18446744073709551616 us * 2 ^ p) cur0 (List.replicate M 0) := by
    have hB3 : Below w1.heap.size w1 w3 := hb2.trans (hb3.mono hb2.size)
    have hB4 : Below w1.heap.size w1 w4 := hB3.trans (below_of_only hg4 (Nat.le_refl _) hB3.size)
    have hB5 : Below w1.heap.size w1 w5 := hB4.trans (below_none hg5 hB4.size)
    refine ⟨(hcur0 ▸ hw4).grown hg5 (by simp), hw5, ?_, by simp, ?_, lim_replicate (by omega) _, hB5, hb1.trans (hB5.mono hb1.size), ?_⟩
    · rw [hcur0, List.length_append, hzn.len, List.length_drop, List.length_replicate]; omega
    · rw [hcur0]; exact hzn.lim.append ((lim_replicate (by omega) _).drop _)
    · constructor
      · rw [hcur0, List.drop_replicate, val_zeros, Hz.out]
        rw [List.drop_replicate, val_replicate]
        simp
      · have hl : cur0.length = M + k + 1 := by rw [hcur0, List.length_append, hzn.len, List.length_drop, List.length_replicate]; omega
        have hv : val 18446744073709551616 cur0 = val 18446744073709551616 us * 2 ^ p := by rw [hcur0, List.drop_replicate, val_zeros, Hz.out]
        rw [← val_div_pow (by rw [hcur0]; exact hzn.lim.append ((lim_replicate (by omega) _).drop _)) (by omega) M (by omega), hv]
        rw [Nat.div_lt_iff_lt_mul (Nat.pow_pos (by omega))]
        have p2 : 2 ^ p ≤ 9223372036854775808 := by rw [show (9223372036854775808 : Nat) = 2 ^ 63 from rfl]; exact Nat.pow_le_pow_right (by omega) (by omega)
        have h1 := Nat.mul_lt_mul_of_pos_right hva' (Nat.two_pow_pos p)
        have h2 : 18446744073709551616 ^ us.length * 2 ^ p ≤ 18446744073709551616 ^ us.length * 9223372036854775808 := Nat.mul_le_mul_left _ p2
        have h3 := Nat.mul_le_mul_right (18446744073709551616 ^ M) Hlo.out
        rw [Hk2.out, Nat.add_comm M k, Nat.pow_add] at h1 h2
        rw [Nat.mul_assoc] at h3
        rw [Nat.mul_comm _ 9223372036854775808] at h2
        omega
  have HA5 := Lib.hid hA5
  clear hA5 hcur0 hw4 hw5 hw2 how3 hg2 hg4 hg5 hzn hn4 hva'
  go_loopw [55] (fun i wr => ∃ (j t : Nat) (cur qs : List Nat), i = .int .i64 j ∧ Hid (M = t + j) ∧ Hid (AtHead w w1 wr w1.heap.size w4.heap.size k M t (val 18446744073709551616 vs * 2 ^ p) (val 18446744073709551616 us * 2 ^ p) cur qs)) (fun i _ => M - (intOf i).toNat)
  case atStart => exact ⟨0, M, cur0, List.replicate M 0, rfl, rfl, HA5.out⟩
  case round =>
    clear HA5
    obtain ⟨j, t0, cur, qs, rfl, hMt, HA⟩ := hrel
    by_cases hlt : j < M
    · obtain ⟨t, rfl⟩ : ∃ t, t0 = t + 1 := ⟨t0 - 1, by have := hMt.out; omega⟩
      have hMa : t + 1 + j ≤ M := by have := hMt.out; omega
      have hMb : M ≤ t + 1 + j := by have := hMt.out; omega
      obtain ⟨hu, hq, hul, hql, huL, hqL, hbW, hb0, hinv⟩ := HA.out
      have ecur : cur = cur.take t ++ (cur.drop t).take (k + 2) ++ cur.drop (t + k + 2) := by
        rw [List.append_assoc, show cur.drop (t + k + 2) = (cur.drop t).drop (k + 2) by rw [List.drop_drop]; congr 1, List.take_append_drop, List.take_append_drop]
      have hpl : (cur.take t).length = t := by rw [List.length_take]; omega
      have hUl : ((cur.drop t).take (k + 2)).length = k + 2 := by rw [List.length_take, List.length_drop]; omega
      have how' : Ow wr w1.heap.size (cur.take t ++ (cur.drop t).take (k + 2) ++ cur.drop (t + k + 2)) := by rw [← ecur]; exact hu
      have hvr' : Nt wr w1.heap.size A3 (k + 1) c3 ws := hv1.below hbW
      have hroom := hinv.room (n := k + 2) (by omega) huL (by omega)
      rw [← Hv1.out] at hroom
      have htq : t < qs.length := by omega
      have hcq : wr.cell? ⟨w4.heap.size, t, none⟩ = some (.int .u64 ((qs.getD t 0 : Nat) : Int)) := hq.cell (by simp [List.getD, htq])
      have ei : (M : Int) - 1 - (j : Int) = (t : Int) := by omega
      have hcall := fun c (hc : k + 2 ≤ c) (hc' : c ≤ maxLen) => @step_any wr w1.heap.size w1.heap.size (k + 2) c (k + 1) c3 k _ A3 (cur.take t) ((cur.drop t).take (k + 2)) ws (cur.drop (t + k + 2)) how' rfl hUl.symm hc hc' ((huL.drop t).take _) hvr' (Nat.le_refl _) rfl rfl htop hroom
      rw [hpl] at hcall
      have Hcall := Lib.hid hcall
      have Hpl := Lib.hid hpl
      have HUl := Lib.hid hUl
      have hsq : w4.heap.size < wr.heap.size := hq.lt
      have hbs := hbW.size
      clear ecur hpl hUl how' hroom hcall hinv hul hql hu htq
      go_wp2_with fail
      rw [show t + (k + 1) + 1 - t = k + 2 by omega]
      refine (Hcall.out _ (by omega) (by unfold maxLen; omega)).mono ?_
      rintro e w6 ⟨q, U', rfl, hq6, how6, hl6, hL6, hV6, hlt6, hg6⟩
      have hc6 : w6.cell? ⟨w4.heap.size, t, none⟩ = some (.int .u64 ((qs.getD t 0 : Nat) : Int)) := hg6.cell hcq (by simp; omega)
      have hf6 : w6.frozen? ⟨w4.heap.size, t, none⟩ = false := (hq.grown hg6 (by simp; omega)).frozen t
      rw [Hv1.out] at hV6 hlt6
      have HS := Lib.hid (HA.out.step (by omega : t + 1 + j = M) hsz4 hb1.size (Nat.le_refl _) (Nat.le_refl _) Hhi.out how6 hl6 hL6 hq6 hV6 hlt6 hg6)
      clear hcq how6 hl6 hL6 hV6 hlt6
      go_wp2
      go_roundw
      case rel => exact ⟨j + 1, t, _, _, by go_num, by show _ = _; omega, HS⟩
      case measure => simp [intOf]; omega
    · have hjM : j = M := by have := hMt.out; omega
      have ht0 : t0 = 0 := by have := hMt.out; omega
      subst ht0
      obtain ⟨hu, hq, hul, hql, huL, hqL, hbW, hb0, hinv⟩ := HA.out
      have hvb0 : 0 < val 18446744073709551616 vs := by
        have := val_ge (β := 18446744073709551616) tb (by rw [Hk1.out]; omega)
        have h1 := Nat.pow_pos (n := vs.length - 1) (show 0 < 18446744073709551616 by omega)
        omega
      obtain ⟨hd1, hd2⟩ := hinv.done rfl
      have hlt0 := hinv.2
      rw [List.drop_zero] at hlt0
      have hk1 := Hhi.out
      have htk : val 18446744073709551616 (cur.take (k + 1)) = val 18446744073709551616 us % val 18446744073709551616 vs * 2 ^ p := by
        rw [← hd2]
        have e := val_take_drop 18446744073709551616 cur (k + 1) (by omega)
        rcases Nat.eq_zero_or_pos (val 18446744073709551616 (cur.drop (k + 1))) with h0 | h0
        · rw [h0] at e; omega
        · exfalso
          have := Nat.mul_le_mul_left (18446744073709551616 ^ (k + 1)) (show 1 ≤ val 18446744073709551616 (cur.drop (k + 1)) from h0)
          omega
      have hqa : Nt wr.drew wr.drew.heap.size (some ⟨w4.heap.size, 0, none⟩) M M qs := ((hq.whole (by rw [hql]; unfold maxLen; omega) hqL hql.symm).more hq.lt).drew
      have hud : Nt wr.drew wr.drew.heap.size (some ⟨w1.heap.size, 0, none⟩) (k + 1) (M + k + 1) (cur.take (k + 1)) := by
        have h1 : Ow wr w1.heap.size ([] ++ cur.take (k + 1) ++ cur.drop (k + 1)) := by simpa using hu
        exact ((h1.part (n := k + 1) (c := M + k + 1) (fun _ => rfl) (by rw [List.length_take]; omega) (by omega) (by unfold maxLen; omega) (huL.take _)).more hu.lt).drew
      have s1 : IntKind.i64.wrap (-(p : Int)) = -(p : Int) := IntWalk.i64_in _ (by omega)
      have Hd1 := Lib.hid hd1
      have Htk := Lib.hid htk
      have hbW0 : Below w.heap.size w wr.drew := hb0.drew
      have hbs := hbW0.size
      clear hd1 hd2 htk hlt0 hk1 hinv hul hql hu hq
      go_wp2
      go_region_with (first
        | (go_at_call 82; (first | (with_reducible refine (cut_nt hqa).mono ?_) | (with_reducible refine (cut_nt hqb).mono ?_)); rintro e w' ⟨mq, rfl, rfl, hmq, hNq⟩)
        | (go_at_call 158; refine (shift_any (w := wr.drew) hud (by omega) (-(p : Int)) (by omega) (by omega)).mono ?_; rintro e w7 ⟨A7, n7, c7, rs, rfl, hres7⟩; have hqb := hqa.bel hres7.bel (Nat.le_refl _)))
      all_goals go_wp2
      all_goals go_ret3
      all_goals
        have hNq7 : Nt w7 w7.heap.size (some ⟨w4.heap.size, 0, none⟩) mq mq (cutL qs) := by first | exact hNq | exact hNq.bel hres7.bel (Nat.le_refl _)
        have hv7 := hres7.is
        rw [Htk.out, shN_down, Hva.out, Hvb.out] at hv7
        exact .inr ⟨by rw [← Hvb.out]; exact hvb0, _, _, _, _, _, _, _, _, rfl, hNq7, trm_cutL qs, by rw [val_cutL, Hd1.out, Hva.out, Hvb.out], hres7.nt, hres7.trm, hv7, hbW0.trans (hres7.bel.mono hbW0.size)⟩

theorem div_any {w : World} {A A2 : Option Addr} {n c n2 c2 : Nat} {xs ys : List Nat} (h : Nt w w.heap.size A n c xs) (h2 : Nt w w.heap.size A2 n2 c2 ys) (hn : n ≤ 1099511627776) :
    Calls Tryz.prog 118 #[.slice A n c, .slice A2 n2 c2] w (Div (val 18446744073709551616 xs) (val 18446744073709551616 ys) w) := by
  rcases Nat.lt_or_ge (cutL xs).length (cutL ys).length with hlt | hge
  · exact div_small_any h h2 hn hlt
  · rcases Nat.eq_zero_or_pos (cutL ys).length with h0 | h0
    · exact div_zero_any h h2 (List.eq_nil_of_length_eq_zero h0)
    · exact div_any' h h2 hn ((cutL ys).length - 1) ((cutL xs).length + 1 - (cutL ys).length) (by omega) (by omega) (by omega)
end Go.Proofs.YtkhlmcknbangfaaGreatDoor
