/- modn: addDigit. -/
import Derived.Test.YtkhlmcknbangfaaGreatDoorM4
namespace Go.Proofs.YtkhlmcknbangfaaGreatDoor
open Go.RowKit
set_option linter.unusedSimpArgs false
set_option linter.unusedVariables false

theorem dig_step {B P vd vu vx vn d o x u n ov ovn : Nat} (hv : vd + (ov + ovn) * P = vu + d * vx + o * vn) :
    vd + P * ((n * o + (x * d + u + ov) % B + ovn) % B) + ((x * d + u + ov) / B + (n * o + (x * d + u + ov) % B + ovn) / B) * (P * B) = vu + P * u + d * (vx + P * x) + o * (vn + P * n) := by
  have e1 := Nat.mod_add_div (x * d + u + ov) B
  have e2 := Nat.mod_add_div (n * o + (x * d + u + ov) % B + ovn) B
  generalize (x * d + u + ov) % B = l1 at *
  generalize (x * d + u + ov) / B = h1 at *
  generalize (n * o + l1 + ovn) % B = l2 at *
  generalize (n * o + l1 + ovn) / B = h2 at *
  have e3 : P * (l2 + B * h2 + B * h1) = P * (n * o + ovn + (x * d + u + ov)) := by rw [e2]; congr 1; omega
  have e4 : (h1 + h2) * (P * B) = P * (B * h2) + P * (B * h1) := by
    rw [Nat.add_mul, Nat.add_comm]
    congr 1 <;> simp only [Nat.mul_comm, Nat.mul_left_comm]
  rw [e4]
  simp only [Nat.mul_add, Nat.add_mul] at e3 hv ⊢
  have e5 : d * (P * x) = P * (x * d) := by simp only [Nat.mul_comm, Nat.mul_left_comm]
  have e6 : o * (P * n) = P * (n * o) := by simp only [Nat.mul_comm, Nat.mul_left_comm]
  have e7 : ov * P = P * ov := Nat.mul_comm _ _
  have e8 : ovn * P = P * ovn := Nat.mul_comm _ _
  omega


/-- the digit by which n is taken -/
def oft (u x d m : Nat) : Nat := (u + x * d) % 18446744073709551616 * m % 18446744073709551616
theorem wrap_oft (u x d m : Nat) : IntKind.u64.wrap (IntKind.u64.wrap ((u : Int) + IntKind.u64.wrap ((x : Int) * (d : Int))) * (m : Int)) = ((oft u x d m : Nat) : Int) := by
  rw [mulN, wrapM, addN, wrapM, mulN, wrapM]
  unfold oft
  congr 1
  rw [Nat.add_mod_mod]
theorem oft_lt (u x d m : Nat) : oft u x d m < 18446744073709551616 := by unfold oft; omega
theorem carry_lt {x d u ov : Nat} (hx : x < 18446744073709551616) (hd : d < 18446744073709551616) (hu : u < 18446744073709551616) (ho : ov < 18446744073709551616) : (x * d + u + ov) / 18446744073709551616 < 18446744073709551616 := by
  rw [Nat.div_lt_iff_lt_mul (by omega)]
  have := Nat.mul_le_mul (show x ≤ 18446744073709551615 by omega) (show d ≤ 18446744073709551615 by omega)
  omega

/-- what holds at the loop's head -/
structure Dg (w0 wr : World) (g : Nat) (U X N done : List Nat) (d o ov ovn : Nat) : Prop where
  ow : Ow wr g (done ++ U.drop done.length)
  gr : w0.grownBy wr (some g)
  lim : Lim 18446744073709551616 done
  l1 : ov < 18446744073709551616
  l2 : ovn < 18446744073709551616
  v : val 18446744073709551616 done + (ov + ovn) * 18446744073709551616 ^ done.length = val 18446744073709551616 (U.take done.length) + d * val 18446744073709551616 (X.take done.length) + o * val 18446744073709551616 (N.take done.length)
theorem Dg.step {w0 wr : World} {g : Nat} {U X N done : List Nat} {d o ov ovn u x n : Nat} (h : Dg w0 wr g U X N done d o ov ovn) (hl : done.length < U.length) (hu : U.getD done.length 0 = u) (hx : X.getD done.length 0 = x) (hn : N.getD done.length 0 = n)
    (hul : u < 18446744073709551616) (hxl : x < 18446744073709551616) (hnl : n < 18446744073709551616) (hd : d < 18446744073709551616) (ho : o < 18446744073709551616) :
    Dg w0 (wr.setCell ⟨g, done.length, none⟩ (.int .u64 (((n * o + (x * d + u + ov) % 18446744073709551616 + ovn) % 18446744073709551616 : Nat) : Int))) g U X N (done ++ [(n * o + (x * d + u + ov) % 18446744073709551616 + ovn) % 18446744073709551616]) d o
      ((x * d + u + ov) / 18446744073709551616) ((n * o + (x * d + u + ov) % 18446744073709551616 + ovn) / 18446744073709551616) := by
  have e : U.drop done.length = U.getD done.length 0 :: U.drop (done.length + 1) := by
    rw [List.drop_eq_getElem_cons hl]
    simp [List.getD, List.getElem?_eq_getElem hl]
  refine ⟨?_, only_setCell h.gr (.inl rfl) _, h.lim.append (Lim.one (Nat.mod_lt _ (by omega))), carry_lt hxl hd hul h.l1, carry_lt hnl ho (Nat.mod_lt _ (by omega)) h.l2, ?_⟩
  · have := h.ow.set_ done.length ((n * o + (x * d + u + ov) % 18446744073709551616 + ovn) % 18446744073709551616)
    rw [e] at this
    have e2 : (done ++ U.getD done.length 0 :: U.drop (done.length + 1)).set done.length ((n * o + (x * d + u + ov) % 18446744073709551616 + ovn) % 18446744073709551616) = done ++ (n * o + (x * d + u + ov) % 18446744073709551616 + ovn) % 18446744073709551616 :: U.drop (done.length + 1) := by
      simp [List.set_append]
    rw [e2] at this
    simpa using this
  · rw [List.length_append, List.length_singleton, val_snoc, val_take_succ, val_take_succ, val_take_succ, hu, hx, hn, Nat.pow_succ]
    exact dig_step h.v

theorem Dg.drewN {w0 wr : World} {g : Nat} {U X N done : List Nat} {d o ov ovn : Nat} (h : Dg w0 wr g U X N done d o ov ovn) (n : Nat) : Dg w0 (wr.drewN n) g U X N done d o ov ovn :=
  ⟨h.ow.drewN n, only_drewN h.gr n, h.lim, h.l1, h.l2, h.v⟩
theorem val_head {xs : List Nat} (hL : Lim 18446744073709551616 xs) : val 18446744073709551616 xs % 18446744073709551616 = xs.getD 0 0 ∧ val 18446744073709551616 xs = xs.getD 0 0 + 18446744073709551616 * val 18446744073709551616 (xs.drop 1) := by
  cases xs with
  | nil => exact ⟨rfl, rfl⟩
  | cons x xs =>
    have := hL x (by simp)
    simp only [val, List.getD_cons_zero, List.drop_succ_cons, List.drop_zero]
    exact ⟨by omega, trivial⟩
/-- what addDigit has written -/
structure Added (w w' : World) (g L T : Nat) (U' : List Nat) : Prop where
  ow : Ow w' g U'
  gr : w.grownBy w' (some g)
  len : U'.length = L
  lim : Lim 18446744073709551616 U'
  v : val 18446744073709551616 U' * 18446744073709551616 = T
theorem Dg.fin {w0 wr : World} {g L : Nat} {U X N done : List Nat} {d m ov ovn : Nat} (h : Dg w0 wr g U X N done d (oft (U.getD 0 0) (X.getD 0 0) d m) ov ovn) (hL0 : 1 ≤ L) (hl : done.length = L) (hU : U.length = L) (hX : X.length = L) (hN : N.length = L)
    (hUl : Lim 18446744073709551616 U) (hXl : Lim 18446744073709551616 X) (hNl : Lim 18446744073709551616 N) (hmn : (N.getD 0 0 * m + 1) % 18446744073709551616 = 0)
    (hT : val 18446744073709551616 U + d * val 18446744073709551616 X + oft (U.getD 0 0) (X.getD 0 0) d m * val 18446744073709551616 N < 18446744073709551616 * 18446744073709551616 ^ L) :
    ov + ovn < 18446744073709551616 ∧ Ow wr g done ∧ Lim 18446744073709551616 (done.drop 1 ++ [ov + ovn]) ∧
      val 18446744073709551616 (done.drop 1 ++ [ov + ovn]) * 18446744073709551616 = val 18446744073709551616 U + d * val 18446744073709551616 X + oft (U.getD 0 0) (X.getD 0 0) d m * val 18446744073709551616 N := by
  have hv := h.v
  rw [hl, List.take_of_length_le (by omega), List.take_of_length_le (by omega), List.take_of_length_le (by omega)] at hv
  have hlt : ov + ovn < 18446744073709551616 := by
    apply Nat.lt_of_mul_lt_mul_right (a := 18446744073709551616 ^ L)
    omega
  have ho := h.ow
  rw [hl, List.drop_eq_nil_of_le (by omega), List.append_nil] at ho
  obtain ⟨hm, he⟩ := val_head h.lim
  obtain ⟨um, ue⟩ := val_head hUl
  obtain ⟨xm, xe⟩ := val_head hXl
  obtain ⟨nm, ne⟩ := val_head hNl
  have h0 : done.getD 0 0 = 0 := by
    rw [← hm]
    have e1 : val 18446744073709551616 done % 18446744073709551616 = (val 18446744073709551616 done + (ov + ovn) * 18446744073709551616 ^ L) % 18446744073709551616 := by
      obtain ⟨k, rfl⟩ : ∃ k, L = k + 1 := ⟨L - 1, by omega⟩
      rw [Nat.pow_succ, ← Nat.mul_assoc, Nat.add_mul_mod_self_right]
    rw [e1, hv]
    have e2 := mont_often (u := U.getD 0 0) (a := X.getD 0 0) (d := d) hmn
    change (U.getD 0 0 + d * X.getD 0 0 + oft (U.getD 0 0) (X.getD 0 0) d m * N.getD 0 0) % 18446744073709551616 = 0 at e2
    generalize oft (U.getD 0 0) (X.getD 0 0) d m = o at *
    rw [Nat.add_mod, Nat.add_mod (val 18446744073709551616 U), um, Nat.mul_mod d, xm, Nat.mul_mod o, nm]
    rw [Nat.add_mod, Nat.add_mod (U.getD 0 0), Nat.mul_mod d, Nat.mul_mod o] at e2
    have a1 : U.getD 0 0 % 18446744073709551616 = U.getD 0 0 := Nat.mod_eq_of_lt (hUl.get (by omega) 0)
    have a2 : X.getD 0 0 % 18446744073709551616 = X.getD 0 0 := Nat.mod_eq_of_lt (hXl.get (by omega) 0)
    have a3 : N.getD 0 0 % 18446744073709551616 = N.getD 0 0 := Nat.mod_eq_of_lt (hNl.get (by omega) 0)
    rw [a1, a2, a3] at e2
    exact e2
  refine ⟨hlt, ho, (h.lim.drop 1).append (Lim.one hlt), ?_⟩
  rw [val_snoc, ← hv, he, h0, List.length_drop, hl]
  obtain ⟨k, rfl⟩ : ∃ k, L = k + 1 := ⟨L - 1, by omega⟩
  rw [Nat.add_sub_cancel, Nat.pow_succ, Nat.add_mul, Nat.zero_add]
  simp only [Nat.mul_comm, Nat.mul_left_comm]

set_option maxHeartbeats 4000000 in
theorem addDigit_any {w : World} {B g L ac oc d m : Nat} {aA oA : Option Addr} {U X N : List Nat} (ho : Ow w g U) (hU : U.length = L) (hUl : Lim 18446744073709551616 U) (hX : Nt w B aA L ac X) (hN : Nt w B oA L oc N) (hBg : B ≤ g)
    (hL0 : 1 ≤ L) (hL : L ≤ 1099511627776) (hd : d < 18446744073709551616) (hm : m < 18446744073709551616) (hmn : (N.getD 0 0 * m + 1) % 18446744073709551616 = 0)
    (hT : val 18446744073709551616 U + d * val 18446744073709551616 X + oft (U.getD 0 0) (X.getD 0 0) d m * val 18446744073709551616 N < 18446744073709551616 * 18446744073709551616 ^ L) :
    Calls Tryz.prog 133 #[.agg #[.slice oA L oc, .int .u64 (m : Int)], .slice (some ⟨g, 0, none⟩) L L, .slice aA L ac, .int .u64 (d : Int)] w fun e w' => e = .returned (.tuple #[]) ∧ ∃ U', Added w w' g L (val 18446744073709551616 U + d * val 18446744073709551616 X + oft (U.getD 0 0) (X.getD 0 0) d m * val 18446744073709551616 N) U' := by
  have hg := ho.lt
  have hN' := hN
  have hX' := hX
  have hNr := hN.rooms
  have hXr := hX.rooms
  obtain ⟨ab, aoff, rfl, hab, ha0⟩ := hX.at_ (k := 0) (by omega)
  obtain ⟨ob, ooff, rfl, hob, ho0⟩ := hN.at_ (k := 0) (by omega)
  have hu0 : w.cell? ⟨g, 0, none⟩ = some (.int .u64 ((U.getD 0 0 : Nat) : Int)) := ho.cell (by simp [List.getD]; rw [List.getElem?_eq_getElem (by omega)]; simp)
  obtain ⟨w1, e1⟩ : ∃ w1, w1 = w.alloc (Obj.cells #[Value.slice (some { block := ob, off := ooff }) L oc, Value.int IntKind.u64 ↑m] 90) := ⟨_, rfl⟩
  have hb1 : w.grownBy w1 (some g) := e1 ▸ World.grownBy_alloc w _ _
  have hbx : w1.heap[w.heap.size]? = some (.cells #[Value.slice (some { block := ob, off := ooff }) L oc, Value.int IntKind.u64 ↑m] 90 (0, 0)) := e1 ▸ heap_alloc_new w _
  have hc0 : w1.cell? ⟨w.heap.size, 0, none⟩ = some (Value.slice (some { block := ob, off := ooff }) L oc) := by rw [cell_of_row w1 _ 0 _ 90 (0, 0) hbx]; rfl
  have hc1 : w1.cell? ⟨w.heap.size, 1, none⟩ = some (Value.int IntKind.u64 ↑m) := by rw [cell_of_row w1 _ 1 _ 90 (0, 0) hbx]; rfl
  have hb0 : Below w.heap.size w w1 := e1 ▸ (Below.refl _ w).alloc (Nat.le_refl _) _
  have ha1 : w1.cell? ⟨ab, aoff, none⟩ = some (.int .u64 ((X.getD 0 0 : Nat) : Int)) := (hb0.cell (by show ab < _; omega)).trans ha0
  have hu1 : w1.cell? ⟨g, 0, none⟩ = some (.int .u64 ((U.getD 0 0 : Nat) : Int)) := (hb0.cell hg).trans hu0
  have how1 : Ow w1 g U := ho.below hb0 hg
  have hX1 := hX.only hb1 hBg (by omega)
  have hN1 := hN.only hb1 hBg (by omega)
  have hs1 : w.heap.size < w1.heap.size := by rw [e1]; simp
  obtain ⟨u0, hu0e⟩ : ∃ u0, U.getD 0 0 = u0 := ⟨_, rfl⟩
  obtain ⟨x0, hx0e⟩ : ∃ x0, X.getD 0 0 = x0 := ⟨_, rfl⟩
  rw [hu0e, hx0e] at hT
  rw [hu0e] at hu1
  rw [hx0e] at ha1
  have HT := Lib.hid hT
  clear ha0 ho0 hu0 hT hb0 ho
  go_enter Tryz.func133, Tryz.ntmps133
  go_wp2
  rw [← e1]
  have E1 := Lib.hid e1
  clear e1
  go_quiet (fail)
  simp only [wrap_oft]
  have hol := oft_lt u0 x0 d m
  obtain ⟨o, Ho⟩ : ∃ o, oft u0 x0 d m = o := ⟨_, rfl⟩
  rw [Ho] at hol
  rw [Ho]
  go_wp2
  have hd0 : Dg w1 (w1.drewN nq) g U X N [] d o 0 0 := ⟨by simpa using how1.drewN nq, only_drewN (World.grownBy.refl w1 _) nq, Lim.nil _, by omega, by omega, by simp [val]⟩
  have hrm := hN1.rooms
  go_loopw [9, 10, 11, 27] (fun a b lo i wr => ∃ (done : List Nat) (ov ovn l : Nat), done.length ≤ L ∧ a = .int .u64 (ov : Int) ∧ b = .int .u64 (ovn : Int) ∧ lo = .int .u64 (l : Int) ∧ i = .int .i64 done.length ∧ Hid (Dg w1 wr g U X N done d o ov ovn)) (fun _ _ _ i _ => L - (intOf i).toNat)
  case atStart => exact ⟨[], 0, 0, 0, Nat.zero_le _, rfl, rfl, rfl, rfl, hd0⟩
  case round =>
    clear hd0
    obtain ⟨done, ov, ovn, l, hdn, rfl, rfl, rfl, rfl, HD⟩ := hrel
    have gr := HD.out.gr
    have hgr := gr.size
    have hb0r : wr.cell? ⟨w.heap.size, 0, none⟩ = some (Value.slice (some { block := ob, off := ooff }) L oc) := gr.cell hc0 (by simp; omega)
    by_cases hlt : done.length < L
    · have hXr := hX1.only gr hBg (by omega)
      have hNr := hN1.only gr hBg (by omega)
      obtain ⟨_, _, e1, hab1, hxk⟩ := hXr.at_ hlt
      cases e1
      obtain ⟨_, _, e1, hob1, hnk⟩ := hNr.at_ hlt
      cases e1
      have huk : wr.cell? ⟨g, done.length, none⟩ = some (.int .u64 ((U.getD done.length 0 : Nat) : Int)) := HD.out.ow.cell (by
        rw [List.getElem?_append_right (by omega), Nat.sub_self, List.getElem?_drop, Nat.add_zero]
        simp [List.getD, List.getElem?_eq_getElem (show done.length < U.length by omega)])
      have hfr : wr.frozen? ⟨g, done.length, none⟩ = false := HD.out.ow.frozen _
      have hxl := hX1.lim.get (by omega) done.length
      have hnl := hN1.lim.get (by omega) done.length
      have hul := hUl.get (by omega) done.length
      have l1 := HD.out.l1
      have l2 := HD.out.l2
      generalize hxe : X.getD done.length 0 = x at *
      generalize hne : N.getD done.length 0 = n at *
      generalize hue : U.getD done.length 0 = u at *
      have hl : done.length < U.length := by omega
      have Hxe := Lib.hid hxe
      have Hne := Lib.hid hne
      have Hue := Lib.hid hue
      clear hxe hne hue
      go_wp2
      go_quiet ((go_at_call 168; exact Calls.quiet_of_same ((plus_any _ _ _ _ hxl hd hul l1 _).mono fun _ _ ⟨he, hw⟩ => ⟨he, hw.symm⟩)))
      have HS := Lib.hid ((HD.out.drewN nq).step hl Hue.out Hxe.out Hne.out hul hxl hnl hd hol)
      go_wp2_with (first
        | (go_at_call 168; refine (plus_any _ _ _ _ hnl hol (Nat.mod_lt _ (by omega)) l2 _).mono ?_; rintro e w' ⟨rfl, rfl⟩))
      go_roundw
      case rel => exact ⟨done ++ [(n * o + (x * d + u + ov) % 18446744073709551616 + ovn) % 18446744073709551616], (x * d + u + ov) / 18446744073709551616, (n * o + (x * d + u + ov) % 18446744073709551616 + ovn) / 18446744073709551616, (x * d + u + ov) % 18446744073709551616, by simp; omega, by simp, by simp, by simp, by simp, by simpa using HS⟩
      case measure => simp [intOf]; omega
    · have hdl : done.length = L := by omega
      have hul0 : o = oft (U.getD 0 0) (X.getD 0 0) d m := by rw [hu0e, hx0e, Ho]
      have HD' := HD.out
      rw [hul0] at HD'
      obtain ⟨hlt2, how, hlim, hval⟩ := HD'.fin hL0 hdl hU hX1.len hN1.len hUl hX1.lim hN1.lim hmn (by rw [hu0e, hx0e]; exact HT.out)
      have hval := Lib.hid hval
      have hs : Ow wr g (done.take 1 ++ done.drop 1 ++ []) := by rw [List.append_nil, List.take_append_drop]; exact how
      have hi : (L : Int) - 1 = ((L - 1 : Nat) : Int) := by omega
      have he : done.drop 1 ++ done.drop (L - 1) = done.drop 1 ++ [done.getD (L - 1) 0] := by
        congr 1
        rw [List.drop_eq_getElem_cons (by omega), List.drop_eq_nil_of_le (by omega)]
        simp [List.getD, List.getElem?_eq_getElem (show L - 1 < done.length by omega)]
      have hkey : ∀ w2, Ow w2 g (done.drop 1 ++ done.drop (L - 1)) → wr.grownBy w2 (some g) → w2.cell? ⟨g, L - 1, none⟩ = some (.int .u64 ((done.getD (L - 1) 0 : Nat) : Int)) ∧ w2.frozen? ⟨g, L - 1, none⟩ = false ∧
          Added w (w2.setCell ⟨g, L - 1, none⟩ (.int .u64 ((ov + ovn : Nat) : Int))) g L (val 18446744073709551616 U + d * val 18446744073709551616 X + oft (U.getD 0 0) (X.getD 0 0) d m * val 18446744073709551616 N) (done.drop 1 ++ [ov + ovn]) := by
        intro w2 hw2 hg2
        rw [he] at hw2
        have hdl1 : (done.drop 1).length = L - 1 := by simp; omega
        refine ⟨hw2.cell (by rw [List.getElem?_append_right (by omega), hdl1, Nat.sub_self]; rfl), hw2.frozen _, ?_, only_setCell (only_trans hb1 (only_trans gr hg2)) (.inl rfl) _, by simp; omega, hlim, hval.out⟩
        have := hw2.set_ (L - 1) (ov + ovn)
        rwa [show (done.drop 1 ++ [done.getD (L - 1) 0]).set (L - 1) (ov + ovn) = done.drop 1 ++ [ov + ovn] by rw [List.set_append, if_neg (by omega), hdl1, Nat.sub_self]; rfl] at this
      have Hkey := Lib.hid hkey
      clear hkey hval he HD' hlim
      by_cases hL1 : L = 1
      · subst hL1
        have hp : ∀ A, Nt wr (g + 1) A 0 0 (done.drop 1) := fun A => by
          rw [List.drop_eq_nil_of_le (by omega)]
          exact ⟨rfl, Nat.le_refl _, Nat.zero_le _, Lim.nil _, fun h => absurd h (Nat.lt_irrefl _)⟩
        go_wp2_with (first
          | (refine wpList_copy_us rfl _ _ rfl rfl rfl how hdl (hp _) (by omega) ?_; intro w2 hw2 hg2; obtain ⟨c2, f2, A2⟩ := Hkey.out w2 hw2 hg2; simp only [Nat.sub_self] at c2 f2 A2))
        go_end0
        exact ⟨rfl, _, by simpa using A2⟩
      · have hp : Nt wr (g + 1) (some ⟨g, 1, none⟩) (L - 1) (L - 1) (done.drop 1) := by
          have := hs.part (n := L - 1) (c := L - 1) (fun _ => rfl) (by simp; omega) (by omega) (by unfold maxLen; omega) (HD.out.lim.drop 1)
          simpa [show min 1 done.length = 1 by omega] using this
        go_wp2_with (first
          | (refine wpList_copy_us rfl _ _ rfl rfl rfl how hdl hp (by omega) ?_; intro w2 hw2 hg2; obtain ⟨c2, f2, A2⟩ := Hkey.out w2 hw2 hg2))
        go_end0
        exact ⟨rfl, _, by simpa using A2⟩
end Go.Proofs.YtkhlmcknbangfaaGreatDoor
