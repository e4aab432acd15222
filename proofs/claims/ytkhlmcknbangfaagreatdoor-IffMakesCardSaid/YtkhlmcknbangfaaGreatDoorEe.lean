/- clepsydraref01.Div. clepsydraref06: Right. clepsydraref06: Right. clepsydraref06: Right. clepsydraref06: Right. clepsydraref06: Right. clepsydraref06: Right. -/
import Derived.Test.YtkhlmcknbangfaaGreatDoorRn
import Derived.Test.YtkhlmcknbangfaaGreatDoorFa
namespace Go.Proofs.YtkhlmcknbangfaaGreatDoor.Rn
set_option linter.unusedSimpArgs false
set_option linter.unusedVariables false
open Go.RowKit
set_option linter.unusedVariables false

theorem Gi.kept {w w' : World} {base n c : Nat} {A : Option Addr} {xs : List Nat} (h : Gi w base A n c xs) (hb : Below w.heap.size w w') : Gi w' base A n c xs := by
  refine ⟨h.1, h.2.1, ?_⟩
  rcases h.2.2 with hl | ⟨g, cap, cur, e, hg, hh, hr⟩
  · exact .inl hl
  · refine .inr ⟨g, cap, cur, e, hg, (hb.block g ?_).trans hh, hr⟩
    rcases Nat.lt_or_ge g w.heap.size with hlt | hge
    · exact hlt
    · rw [Array.getElem?_eq_none hge] at hh; cases hh
theorem Gi.mono {w : World} {base base' n c : Nat} {A : Option Addr} {xs : List Nat} (h : Gi w base A n c xs) (hb : base' ≤ base) : Gi w base' A n c xs := by
  refine ⟨h.1, h.2.1, ?_⟩
  rcases h.2.2 with hl | ⟨g, cap, cur, e, hg, hh, hr⟩
  · exact .inl hl
  · exact .inr ⟨g, cap, cur, e, Nat.le_trans hb hg, hh, hr⟩
theorem Gi.at_ {w : World} {base n c : Nat} {A : Option Addr} {xs : List Nat} (h : Gi w base A n c xs) {k : Nat} (hk : k < n) :
    ∃ g, A = some ⟨g, 0, none⟩ ∧ base ≤ g ∧ g < w.heap.size ∧ w.cell? ⟨g, k, none⟩ = some (.int .i64 ((xs.getD k 0 : Nat) : Int)) ∧ w.frozen? ⟨g, k, none⟩ = false := by
  obtain ⟨hl, ho⟩ := h
  rcases ho.2 with ⟨_, rfl⟩ | ⟨g, cap, cur, e, hg, _⟩
  · omega
  · injection e with e1 e2 e3
    subst e1; subst e3
    refine ⟨g, rfl, hg, (ho.lt g rfl).2, ?_, ho.frozenAt k⟩
    rw [ho.cellAt k (by omega)]
    have hk2 : k < xs.length := by omega
    simp [is, List.getD, List.getElem?_eq_getElem hk2]
theorem Gi.set_ {w : World} {base n c g : Nat} {xs : List Nat} (h : Gi w base (some ⟨g, 0, none⟩) n c xs) (k y : Nat) : Gi (w.setCell ⟨g, k, none⟩ (.int .i64 (y : Int))) base (some ⟨g, 0, none⟩) n c (xs.set k y) := by
  refine ⟨by simp [h.1], ?_⟩
  have := (h.2.stored k (.int .i64 (y : Int))).1
  rwa [show is (xs.set k y) = (is xs).set k (.int .i64 (y : Int)) by simp [is, List.map_set]]
theorem Gi.made (w : World) (base : Nat) (hb : base ≤ w.heap.size) : Gi (w.alloc (.cells #[] 3)) base (some ⟨w.heap.size, 0, none⟩) 0 0 [] :=
  ⟨rfl, World.ownsRow_made w #[] 0 hb (Nat.zero_le _) (by simp)⟩
theorem Ni.far {w : World} {B n c g j : Nat} {A : Option Addr} {xs : List Nat} (h : Ni w B A n c xs) (hg : ∀ a, A = some a → g < a.block) (u : Value) : Ni (w.setCell ⟨g, j, none⟩ u) B A n c xs :=
  ⟨h.len, h.cap, h.room, h.lim, fun hn => by
    obtain ⟨b, off, e, hb, hc⟩ := h.cell hn
    have hlt := hg _ e
    refine ⟨b, off, e, hb, fun j x hx => ?_⟩
    rw [World.cell?_of_block (w := w) (Below.heap_setCell w _ u b (by have : g < b := hlt; intro h; have : b = g := h; omega))]
    exact hc j x hx⟩
theorem Ni.cutL {w : World} {B n c : Nat} {A : Option Addr} {xs : List Nat} (h : Ni w B A n c xs) : Ni w B A (tl xs n) c (cutL xs) := by
  have hl := h.len
  have ht := tl_le xs n
  exact ⟨by rw [length_cutL, hl], Nat.le_trans ht h.cap, h.room, lim_cutL h.lim, fun h0 => by
    obtain ⟨b, off, e, hb, hcell⟩ := h.cell (by omega)
    refine ⟨b, off, e, hb, fun j x hx => hcell j x ?_⟩
    unfold Go.Proofs.YtkhlmcknbangfaaGreatDoor.cutL at hx
    rw [List.getElem?_take] at hx
    split at hx
    · exact hx
    · cases hx⟩
theorem val_drop_cons (β : Nat) {xs : List Nat} {k : Nat} (hk : k < xs.length) : val β (xs.drop k) = xs.getD k 0 + β * val β (xs.drop (k + 1)) := by
  rw [List.drop_eq_getElem_cons hk]
  simp [val, List.getD, List.getElem?_eq_getElem hk]
theorem drop_set_lt {xs : List Nat} {k x : Nat} : (xs.set k x).drop (k + 1) = xs.drop (k + 1) := by
  rw [List.drop_set]
  simp
theorem lim_set {β : Nat} {xs : List Nat} {k x : Nat} (h : Lim β xs) (hx : x < β) : Lim β (xs.set k x) := fun y hy => by
  rcases List.mem_or_eq_of_mem_set hy with hy | hy
  · exact h y hy
  · omega

/-- moved by nothing: a copy -/
theorem moved0_any {w : World} {A : Option Addr} {n c : Nat} {ds : List Nat} (h : Ni w w.heap.size A n c ds) (hn : n ≤ 1099511627) :
    Calls Tryz.prog 104 #[.slice A n c, .int .i64 0] w fun e w' => ∃ A' c', e = .returned (.slice A' n c') ∧ Gi w' w.heap.size A' n c' ds ∧ Below w.heap.size w w' := by
  have hr := h.rooms
  go_enter Tryz.func104, Tryz.ntmps104
  go_wp2
  go_loopw [5, 6] (fun v i wr => i = .int .i64 0 ∧ v = .slice none 0 0 ∧ wr = w) (fun _ _ _ => 0)
  case atStart => exact ⟨rfl, rfl, rfl⟩
  case round =>
    obtain ⟨rfl, rfl, rfl⟩ := hrel
    go_wp2_with (refine wpList_app_row_i _ rfl _ _ rfl rfl (Gi.nil _ wr.heap.size) rfl h (by omega) (Below.refl _ _) (Nat.le_refl _) ?_; intro A3 c3 w3 hG3 hB3)
    go_ret
    rw [Nat.zero_add, List.nil_append] at *
    exact ⟨_, _, rfl, hG3, hB3⟩

theorem div_step {X D Y r x v : Nat} (hE : X = D * Y + r) (hv : v = x + 2 * r) (hlt : v < Y) : x + 2 * X = (0 + 2 * D) * Y + v ∧ v < Y := by
  refine ⟨?_, hlt⟩
  subst hE; subst hv
  rw [Nat.zero_add, Nat.mul_add, Nat.mul_assoc]
  omega
theorem div_step1 {X D Y r x v : Nat} (hE : X = D * Y + r) (hr : r < Y) (hx : x < 2) (hv : v = x + 2 * r) (hle : Y ≤ v) : x + 2 * X = (1 + 2 * D) * Y + (v - Y) ∧ v - Y < Y := by
  subst hE; subst hv
  refine ⟨?_, by omega⟩
  rw [Nat.add_mul, Nat.one_mul, Nat.mul_add, Nat.mul_assoc]
  omega

set_option maxHeartbeats 4000000 in
theorem rdiv_any {w : World} {A A2 : Option Addr} {n c n2 c2 : Nat} {xs ys : List Nat} (h : Nt w w.heap.size A n c xs) (h2 : Nt w w.heap.size A2 n2 c2 ys) (hn : n ≤ 1000000) (hn2 : n2 ≤ 1000000) :
    Calls Tryz.prog 120 #[.slice A n c, .slice A2 n2 c2] w (Div (val 18446744073709551616 xs) (val 18446744073709551616 ys) w) := by
  go_enter Tryz.func120, Tryz.ntmps120
  go_wp2_with fail
  refine (digits_any h (by omega)).mono ?_
  rintro e w1 ⟨Ax, nx, cx, xb, rfl, hx1, tx, vx, bx⟩
  have h2' := h2.up bx
  have hnx : nx ≤ 64000000 := by
    have := len_bits tx h.lim vx
    rw [hx1.len, h.len] at this
    omega
  have Vx := Lib.hid vx
  clear vx tx
  go_wp2_with fail
  refine (digits_any h2' (by omega)).mono ?_
  rintro e w2 ⟨Ay, ny, cy, yb, rfl, hy2, ty, vy, by2⟩
  have hx2 := hx1.up by2
  have hb2 := bthen bx by2
  have hny : ny ≤ 64000000 := by
    have := len_bits ty h2.lim vy
    rw [hy2.len, h2.len] at this
    omega
  have Vy := Lib.hid vy
  clear vy hx1 h2'
  have hr := hx2.rooms
  have hry := hy2.rooms
  by_cases hy0 : ny = 0
  · subst hy0
    have hyv : val 18446744073709551616 ys = 0 := by
      rw [← Vy.out, List.eq_nil_of_length_eq_zero hy2.len]; rfl
    have Hyv := Lib.hid hyv
    clear hyv
    go_wp2_with fail
    go_ret3
    exact .inl ⟨Hyv.out, rfl, hb2⟩
  · have hym : ((ny : Int) == 0) = false := by simp; omega
    have hYpos : 0 < val 2 yb := by
      have h1 := val_ge (β := 2) ty (by rw [hy2.len]; omega)
      have := Nat.two_pow_pos (yb.length - 1)
      omega
    have HYpos := Lib.hid hYpos
    clear hy0 ty hYpos
    go_wp2_with (refine wpList_app_row_i _ rfl _ _ rfl rfl (Gi.made _ _ (Nat.le_refl _)) rfl (hx2.below (Below.alloc (Below.refl _ _) (Nat.le_refl _) _)) (by omega) (Below.alloc (Below.refl _ _) (Nat.le_refl _) _) (by simp) ?_; intro A3 c3 w3 hG3 hB3)
    rw [List.nil_append] at hG3
    have hm := moved0_any (hG3.ni (by rw [Nat.zero_add] at hG3; exact hx2.lim)) (by omega)
    rw [Nat.zero_add] at hm
    have Hm := Lib.hid hm
    have hl3 := hG3.1
    clear hm
    simp only [Nat.zero_add] at *
    go_wp2_with fail
    refine Hm.out.mono ?_
    rintro e w4 ⟨Aq, cq, rfl, hG4, hB4⟩
    have hb4 := bthen hB3 hB4
    have hQ0 : Gi w4 w2.heap.size Aq nx cq xb := hG4.mono hB3.size
    clear hG4 Hm hG3
    have Hlx := Lib.hid hx2.len
    obtain ⟨Y, hY⟩ : ∃ Y, val 2 yb = Y := ⟨_, rfl⟩
    have HY := Lib.hid hY
    have HYp : Hid (0 < Y) := by rw [← hY]; exact HYpos
    have hYl : Y < 2 ^ ny := by
      rw [← hY]
      have := val_lt hy2.lim
      rwa [hy2.len] at this
    have HYl := Lib.hid hYl
    clear hY hYl
    have hx2lim := Lib.hid hx2.lim
    go_wp2
    go_loopw [10, 11] (fun v i wr => ∃ (t : Int) (A' : Option Addr) (n' c' : Nat) (rs ds : List Nat), -1 ≤ t ∧ t < nx ∧ i = .int .i64 t ∧ v = .slice A' n' c' ∧ n' ≤ ny ∧ Ni wr wr.heap.size A' n' c' rs ∧ Gi wr w2.heap.size Aq nx cq ds ∧ Hid (Lim 2 ds) ∧ Below w2.heap.size w2 wr ∧ Hid (Trm rs) ∧
        Hid (val 2 (xb.drop (t + 1).toNat) = val 2 (ds.drop (t + 1).toNat) * Y + val 2 rs ∧ val 2 rs < Y)) (fun _ i _ => (intOf i + 1).toNat)
    case atStart =>
      refine ⟨(nx : Int) - 1, none, 0, 0, [], xb, by omega, by omega, rfl, rfl, Nat.zero_le _, ⟨rfl, Nat.le_refl _, Nat.zero_le _, Lim.nil _, fun h => absurd h (Nat.lt_irrefl _)⟩, hQ0, hx2lim, hb4, trm_nil, ?_⟩
      show _ ∧ _
      have e : ((nx : Int) - 1 + 1).toNat = nx := by omega
      rw [e, List.drop_of_length_le (by rw [Hlx.out]; exact Nat.le_refl _)]
      exact ⟨by simp [val], by simpa [val] using HYp.out⟩
    case round =>
      obtain ⟨t, A', n', c', rs, ds, ht0, ht1, rfl, rfl, hn', hN, hQ, hLq, hB, hT, hE⟩ := hrel
      by_cases hpos : 0 ≤ t
      · obtain ⟨j, rfl⟩ := Int.eq_ofNat_of_zero_le hpos
        have hjn : j < nx := by omega
        have hE' := hE.out
        rw [show ((j : Int) + 1).toNat = j + 1 by omega] at hE'
        have HE := Lib.hid hE'
        clear hE hE'
        obtain ⟨b, off, rfl, hb, hcellw⟩ := hx2.at_ hjn
        have hcell := (hB.cell (p := ⟨b, off + j, none⟩) hb).trans hcellw
        have hd2 := hx2lim.out.get (by omega) j
        obtain ⟨x, hx⟩ : ∃ x, xb.getD j 0 = x := ⟨_, rfl⟩
        rw [hx] at hcell hd2 hcellw
        have Hx := Lib.hid hx
        obtain ⟨g, rfl, hg, hgw, hqc, hqf⟩ := hQ.at_ hjn
        have hpos' : (0 : Int) ≤ (j : Int) := by omega
        have hv : val 2 ([x] ++ rs) = x + 2 * val 2 rs := by simp [val]
        have Hv := Lib.hid hv
        have hLn : Lim 2 ([x] ++ rs) := (Lim.one hd2).append hN.lim
        have HLn := Lib.hid hLn
        have hy := hy2.up hB
        clear hx hv hLn hpos
        have hsz := hB.size
        go_wp2_with (first
          | (refine wpList_app_i (y := x) _ rfl _ _ rfl rfl ((Gi.nil _ wr.heap.size).alloc _) rfl (cell_new _ _ _) (by omega) ((Below.refl _ _).alloc (Nat.le_refl _) _) (by simp) ?_; intro A3 c3 w5 hG3 hB3)
          | (refine wpList_app_row_i _ rfl _ _ rfl rfl hG3 rfl (hN.up hB3) (by omega) hB3 hB3.size ?_; intro A6 c6 w6 hG6 hB6)
          | fail)
        have hG7 : Gi w6 wr.heap.size A6 (1 + n') c6 (x :: rs) := by simpa using hG6
        have hN6 := hG7.ni HLn.out
        have hcut := rcut_any hN6
        have hN7 := hN6.cutL
        have hfr := hG7.fresh
        obtain ⟨m, hm⟩ : ∃ m, tl (x :: rs) (1 + n') = m := ⟨_, rfl⟩
        have hmn : m ≤ 1 + n' := by rw [← hm]; exact tl_le _ _
        rw [hm] at hcut hN7
        have Hcut := Lib.hid hcut
        have hqc6 := (hB6.cell (p := ⟨g, j, none⟩) hgw).trans hqc
        have hqf6 := (World.frozen?_of_block (a := ⟨g, j, none⟩) (hB6.block g hgw)).trans hqf
        have hvL : val 2 (cutL (x :: rs)) = x + 2 * val 2 rs := by rw [val_cutL]; exact Hv.out
        have HvL := Lib.hid hvL
        have hTL : Hid (Trm (cutL (x :: rs))) := trm_cutL _
        clear hcut hm hvL hG6 hN6
        generalize cutL (x :: rs) = L at *
        go_wp2_with fail
        refine Hcut.out.mono ?_
        rintro e w' ⟨rfl, rfl⟩
        have hQ6 : Gi (w6.setCell ⟨g, j, none⟩ (.int .i64 0)) w2.heap.size (some ⟨g, 0, none⟩) nx cq (ds.set j 0) := (hQ.kept hB6).set_ j 0
        have hN8 : Ni (w6.setCell ⟨g, j, none⟩ (.int .i64 0)) (w6.setCell ⟨g, j, none⟩ (.int .i64 0)).heap.size A6 m c6 L := (hN7.far (fun a e => Nat.lt_of_lt_of_le hgw (hfr a e)) _).more (Nat.le_of_eq (by simp [World.setCell]))
        have hB7 : Below w2.heap.size w2 (w6.setCell ⟨g, j, none⟩ (.int .i64 0)) := (bthen hB hB6).setCell hg _
        generalize hw7 : w6.setCell ⟨g, j, none⟩ (.int .i64 0) = w7 at hQ6 hN8 hB7
        have hy8 := hy2.up hB7
        have hless := rless_any hN8 hy8
        rw [HvL.out, HY.out] at hless
        obtain ⟨v, hv⟩ : ∃ v, x + 2 * val 2 rs = v := ⟨_, rfl⟩
        rw [hv] at hless
        have HV := Lib.hid hv
        clear hv hN7
        have hxd := val_drop_cons 2 (xs := xb) (k := j) (by rw [Hlx.out]; exact hjn)
        rw [Hx.out] at hxd
        have hjd : j < ds.length := by rw [hQ.1]; exact hjn
        have hd0 : ∀ z, z < 2 → val 2 ((ds.set j z).drop j) = z + 2 * val 2 (ds.drop (j + 1)) := fun z _ => by
          rw [val_drop_cons 2 (by simpa using hjd), drop_set_lt]
          simp [List.getD, hjd]
        have Hxd := Lib.hid hxd
        have Hd0 := Lib.hid hd0
        have em : ((j : Int) - 1 + 1).toNat = j := by omega
        have Hem := Lib.hid em
        clear hxd hd0 hjd em
        by_cases hlt : v < Y
        · rw [decide_eq_true hlt] at hless
          have Hless := Lib.hid hless
          have Hlt := Lib.hid hlt
          have hm2 : m ≤ ny := by
            rw [← hN8.len]
            exact length_of_val (β := 2) (by omega) hTL.out (by rw [HvL.out, HV.out]; exact Nat.lt_trans hlt HYl.out)
          clear hless hlt
          go_wp2_with fail
          refine Hless.out.mono ?_
          rintro e w' ⟨rfl, rfl⟩
          go_wp2
          go_roundw
          case rel =>
            refine ⟨(j : Int) - 1, A6, m, c6, L, ds.set j 0, by omega, by omega, rfl, rfl, hm2, hN8, hQ6, lim_set hLq.out (by omega), hB7, hTL, ?_⟩
            show _ ∧ _
            rw [Hem.out, Hxd.out, Hd0.out 0 (by omega), HvL.out, HV.out]
            exact div_step HE.out.1 HV.out.symm Hlt.out
          case measure => simp [intOf]
        · rw [decide_eq_false hlt] at hless
          have Hless := Lib.hid hless
          have hle := Nat.le_of_not_lt hlt
          have htk := rtake_new hN8 hy8 (by omega) (by rw [HvL.out, HV.out, HY.out]; exact hle)
          rw [HvL.out, HV.out, HY.out] at htk
          have Htk := Lib.hid htk
          have Hle := Lib.hid hle
          obtain ⟨g', hge, _, hgw7, hqc7, hqf7⟩ := hQ6.at_ hjn
          obtain rfl : g = g' := by injection hge with h1; injection h1
          clear hless hlt htk hle hge
          go_wp2_with fail
          refine Hless.out.mono ?_
          rintro e w' ⟨rfl, rfl⟩
          go_wp2_with fail
          refine Htk.out.mono ?_
          rintro e w9 ⟨A9, n9, c9, L9, rfl, hN9, hT9, hv9, hB9, hf9⟩
          have hqc9 := (hB9.cell (p := ⟨g, j, none⟩) hgw7).trans hqc7
          have hqf9 := (World.frozen?_of_block (a := ⟨g, j, none⟩) (hB9.block g hgw7)).trans hqf7
          have hE1 : Hid (x + 2 * val 2 (xb.drop (j + 1)) = (1 + 2 * val 2 (ds.drop (j + 1))) * Y + (v - Y) ∧ v - Y < Y) := div_step1 HE.out.1 HE.out.2 hd2 HV.out.symm Hle.out
          have hm2 : n9 ≤ ny := by
            rw [← hN9.len]
            exact length_of_val (β := 2) (by omega) hT9 (by rw [hv9]; exact Nat.lt_trans hE1.out.2 HYl.out)
          have Hv9 := Lib.hid hv9
          have HT9 := Lib.hid hT9
          clear hv9 hT9
          go_wp2
          have hQ9 : Gi (w9.setCell ⟨g, j, none⟩ (.int .i64 1)) w2.heap.size (some ⟨g, 0, none⟩) nx cq ((ds.set j 0).set j 1) := (hQ6.kept hB9).set_ j 1
          rw [List.set_set] at hQ9
          go_roundw
          case rel =>
            refine ⟨(j : Int) - 1, A9, n9, c9, L9, ds.set j 1, by omega, by omega, rfl, rfl, hm2, (hN9.far (fun a e => Nat.lt_of_lt_of_le hgw7 (hf9 a e)) _).more (Nat.le_of_eq (by simp [World.setCell])), hQ9, lim_set hLq.out (by omega), (bthen hB7 hB9).setCell hg _, HT9, ?_⟩
            show _ ∧ _
            rw [Hem.out, Hxd.out, Hd0.out 1 (by omega), Hv9.out]
            exact hE1.out
          case measure => simp [intOf]
      · have ht : (t + 1).toNat = 0 := by omega
        have hv := hE.out
        rw [ht, List.drop_zero, List.drop_zero, Vx.out] at hv
        have Hv := Lib.hid hv
        have hnum := number_any (hQ.ni hLq.out) (by omega)
        have Hnum := Lib.hid hnum
        have hVy := Vy.out
        rw [HY.out] at hVy
        have HVy := Lib.hid hVy
        have hb0 := bthen hb2 hB
        clear hv ht hnum hVy hE
        go_wp2_with fail
        refine Hnum.out.mono ?_
        rintro e w10 ⟨A10, n10, c10, L10, rfl, h10, t10, v10, b10⟩
        have hN10 := hN.up b10
        have V10 := Lib.hid v10
        clear v10
        go_wp2_with fail
        refine (number_any hN10 (by omega)).mono ?_
        rintro e w11 ⟨A11, n11, c11, L11, rfl, h11, t11, v11, b11⟩
        have V11 := Lib.hid v11
        clear v11
        go_wp2_with fail
        go_ret3
        have hdm := (Nat.div_mod_unique (a := val 18446744073709551616 xs) (b := Y) HYp.out (c := val 2 rs) (d := val 2 ds)).2 ⟨by rw [Hv.out.1, Nat.mul_comm]; omega, Hv.out.2⟩
        exact .inr ⟨by rw [← HVy.out]; exact HYp.out, _, _, _, _, _, _, _, _, rfl, h10.up b11, t10, by rw [V10.out, ← HVy.out]; exact hdm.1.symm, h11, t11, by rw [V11.out, ← HVy.out]; exact hdm.2.symm, bthen (bthen hb0 b10) b11⟩
end Go.Proofs.YtkhlmcknbangfaaGreatDoor.Rn
namespace Go.Proofs.YtkhlmcknbangfaaGreatDoor
open Go.RowKit
set_option linter.unusedVariables false
set_option maxRecDepth 100000

set_option maxHeartbeats 4000000 in
theorem rright_b1 {w : World} {v : Value} {P Q G : Nat} (h : Pr w v P Q G) (hb1 : 1024 < bl P) :
    Calls Tryz.prog 19 #[v] w fun e w' => e = .returned (.int .i64 60) ∧ Below w.heap.size w w' := by
  obtain ⟨A1, n1, c1, x1, A2, n2, c2, x2, A3, n3, c3, x3, rfl, h1', e1, l1, h2', e2, l2, h3', e3, l3⟩ := h.ex
  clear h
  obtain ⟨w0, e0⟩ : ∃ w0, w0 = w.alloc (.cells #[Value.slice A1 n1 c1, .slice A2 n2 c2, .slice A3 n3 c3] 37) := ⟨_, rfl⟩
  obtain ⟨hx0, b0⟩ := box_new e0
  have h1 := h1'.up b0
  have h2 := h2'.up b0
  have h3 := h3'.up b0
  clear h1' h2' h3'
  have q0 := hx0.c0
  have q1 := hx0.c1
  have q2 := hx0.c2
  have hb := Rn.rbits_any h1 (by omega)
  rw [e1] at hb
  have Hb := Lib.hid hb
  have hP := fun W A xs (k : Nt W W.heap.size A n1 c1 xs) (e : val 18446744073709551616 xs = P) => rpasses_any k e (by omega)
  have hQ := fun W A xs (k : Nt W W.heap.size A n2 c2 xs) (e : val 18446744073709551616 xs = Q) => rpasses_any k e (by omega)
  have HP := Lib.hid hP
  have HQ := Lib.hid hQ
  clear hb hP hQ
  obtain ⟨k, hk⟩ : ∃ k, bl P = k := ⟨_, rfl⟩
  rw [hk] at Hb hb1
  clear hk
  go_enter Tryz.func19, Tryz.ntmps19
  go_wp2_with fail
  rw [← e0]
  clear e0
  refine Hb.out.mono ?_
  rintro e w1 ⟨rfl, b1⟩
  have hx1 := hx0.up b1
  have p0 := hx1.c0
  have p1 := hx1.c1
  have p2 := hx1.c2
  have B1 := b1
  go_wp2_with fail
  go_ret
  exact ⟨rfl, bthen b0 B1⟩
set_option maxHeartbeats 4000000 in
theorem rright_b2 {w : World} {v : Value} {P Q G : Nat} (h : Pr w v P Q G) (hb1 : bl P ≤ 1024) (hpP : primeN P b12 = false) :
    Calls Tryz.prog 19 #[v] w fun e w' => e = .returned (.int .i64 60) ∧ Below w.heap.size w w' := by
  obtain ⟨A1, n1, c1, x1, A2, n2, c2, x2, A3, n3, c3, x3, rfl, h1', e1, l1, h2', e2, l2, h3', e3, l3⟩ := h.ex
  clear h
  obtain ⟨w0, e0⟩ : ∃ w0, w0 = w.alloc (.cells #[Value.slice A1 n1 c1, .slice A2 n2 c2, .slice A3 n3 c3] 37) := ⟨_, rfl⟩
  obtain ⟨hx0, b0⟩ := box_new e0
  have h1 := h1'.up b0
  have h2 := h2'.up b0
  have h3 := h3'.up b0
  clear h1' h2' h3'
  have q0 := hx0.c0
  have q1 := hx0.c1
  have q2 := hx0.c2
  have hb := Rn.rbits_any h1 (by omega)
  rw [e1] at hb
  have Hb := Lib.hid hb
  have hP := fun W A xs (k : Nt W W.heap.size A n1 c1 xs) (e : val 18446744073709551616 xs = P) => rpasses_any k e (by omega)
  have hQ := fun W A xs (k : Nt W W.heap.size A n2 c2 xs) (e : val 18446744073709551616 xs = Q) => rpasses_any k e (by omega)
  rw [hpP] at hP
  have HP := Lib.hid hP
  have HQ := Lib.hid hQ
  clear hb hP hQ
  obtain ⟨k, hk⟩ : ∃ k, bl P = k := ⟨_, rfl⟩
  rw [hk] at Hb hb1
  clear hk
  go_enter Tryz.func19, Tryz.ntmps19
  go_wp2_with fail
  rw [← e0]
  clear e0
  refine Hb.out.mono ?_
  rintro e w1 ⟨rfl, b1⟩
  have hx1 := hx0.up b1
  have p0 := hx1.c0
  have p1 := hx1.c1
  have p2 := hx1.c2
  have B1 := b1
  go_wp2_with fail
  refine (HP.out _ _ _ (h1.up B1) e1).mono ?_
  rintro e w2 ⟨rfl, b2⟩
  have B2 := bthen B1 b2
  have hx2 := hx0.up B2
  have r0 := hx2.c0
  have r1 := hx2.c1
  have r2 := hx2.c2
  go_wp2_with fail
  go_ret
  exact ⟨rfl, bthen b0 B2⟩
set_option maxHeartbeats 4000000 in
theorem rright_b3 {w : World} {v : Value} {P Q G : Nat} (h : Pr w v P Q G) (hb1 : bl P ≤ 1024) (hpP : primeN P b12 = true) (hpQ : primeN Q b12 = false) :
    Calls Tryz.prog 19 #[v] w fun e w' => e = .returned (.int .i64 60) ∧ Below w.heap.size w w' := by
  obtain ⟨A1, n1, c1, x1, A2, n2, c2, x2, A3, n3, c3, x3, rfl, h1', e1, l1, h2', e2, l2, h3', e3, l3⟩ := h.ex
  clear h
  obtain ⟨w0, e0⟩ : ∃ w0, w0 = w.alloc (.cells #[Value.slice A1 n1 c1, .slice A2 n2 c2, .slice A3 n3 c3] 37) := ⟨_, rfl⟩
  obtain ⟨hx0, b0⟩ := box_new e0
  have h1 := h1'.up b0
  have h2 := h2'.up b0
  have h3 := h3'.up b0
  clear h1' h2' h3'
  have q0 := hx0.c0
  have q1 := hx0.c1
  have q2 := hx0.c2
  have hb := Rn.rbits_any h1 (by omega)
  rw [e1] at hb
  have Hb := Lib.hid hb
  have hP := fun W A xs (k : Nt W W.heap.size A n1 c1 xs) (e : val 18446744073709551616 xs = P) => rpasses_any k e (by omega)
  have hQ := fun W A xs (k : Nt W W.heap.size A n2 c2 xs) (e : val 18446744073709551616 xs = Q) => rpasses_any k e (by omega)
  rw [hpP] at hP
  rw [hpQ] at hQ
  have HP := Lib.hid hP
  have HQ := Lib.hid hQ
  clear hb hP hQ
  obtain ⟨k, hk⟩ : ∃ k, bl P = k := ⟨_, rfl⟩
  rw [hk] at Hb hb1
  clear hk
  go_enter Tryz.func19, Tryz.ntmps19
  go_wp2_with fail
  rw [← e0]
  clear e0
  refine Hb.out.mono ?_
  rintro e w1 ⟨rfl, b1⟩
  have hx1 := hx0.up b1
  have p0 := hx1.c0
  have p1 := hx1.c1
  have p2 := hx1.c2
  have B1 := b1
  go_wp2_with fail
  refine (HP.out _ _ _ (h1.up B1) e1).mono ?_
  rintro e w2 ⟨rfl, b2⟩
  have B2 := bthen B1 b2
  have hx2 := hx0.up B2
  have r0 := hx2.c0
  have r1 := hx2.c1
  have r2 := hx2.c2
  go_wp2_with fail
  refine (HQ.out _ _ _ (h2.up B2) e2).mono ?_
  rintro e w3 ⟨rfl, b3⟩
  have B3 := bthen B2 b3
  have hx3 := hx0.up B3
  have s0 := hx3.c0
  have s1 := hx3.c1
  have s2 := hx3.c2
  go_wp2_with fail
  go_ret
  exact ⟨rfl, bthen b0 B3⟩
set_option maxHeartbeats 4000000 in
theorem rright_b4 {w : World} {v : Value} {P Q G : Nat} (h : Pr w v P Q G) (hb1 : bl P ≤ 1024) (hpP : primeN P b12 = true) (hpQ : primeN Q b12 = true) (hG : G < 1) :
    Calls Tryz.prog 19 #[v] w fun e w' => e = .returned (.int .i64 60) ∧ Below w.heap.size w w' := by
  obtain ⟨A1, n1, c1, x1, A2, n2, c2, x2, A3, n3, c3, x3, rfl, h1', e1, l1, h2', e2, l2, h3', e3, l3⟩ := h.ex
  clear h
  obtain ⟨w0, e0⟩ : ∃ w0, w0 = w.alloc (.cells #[Value.slice A1 n1 c1, .slice A2 n2 c2, .slice A3 n3 c3] 37) := ⟨_, rfl⟩
  obtain ⟨hx0, b0⟩ := box_new e0
  have h1 := h1'.up b0
  have h2 := h2'.up b0
  have h3 := h3'.up b0
  clear h1' h2' h3'
  have q0 := hx0.c0
  have q1 := hx0.c1
  have q2 := hx0.c2
  have hb := Rn.rbits_any h1 (by omega)
  rw [e1] at hb
  have Hb := Lib.hid hb
  have hP := fun W A xs (k : Nt W W.heap.size A n1 c1 xs) (e : val 18446744073709551616 xs = P) => rpasses_any k e (by omega)
  have hQ := fun W A xs (k : Nt W W.heap.size A n2 c2 xs) (e : val 18446744073709551616 xs = Q) => rpasses_any k e (by omega)
  rw [hpP] at hP
  rw [hpQ] at hQ
  have HP := Lib.hid hP
  have HQ := Lib.hid hQ
  clear hb hP hQ
  obtain ⟨k, hk⟩ : ∃ k, bl P = k := ⟨_, rfl⟩
  rw [hk] at Hb hb1
  clear hk
  go_enter Tryz.func19, Tryz.ntmps19
  go_wp2_with fail
  rw [← e0]
  clear e0
  refine Hb.out.mono ?_
  rintro e w1 ⟨rfl, b1⟩
  have hx1 := hx0.up b1
  have p0 := hx1.c0
  have p1 := hx1.c1
  have p2 := hx1.c2
  have B1 := b1
  go_wp2_with fail
  refine (HP.out _ _ _ (h1.up B1) e1).mono ?_
  rintro e w2 ⟨rfl, b2⟩
  have B2 := bthen B1 b2
  have hx2 := hx0.up B2
  have r0 := hx2.c0
  have r1 := hx2.c1
  have r2 := hx2.c2
  go_wp2_with fail
  refine (HQ.out _ _ _ (h2.up B2) e2).mono ?_
  rintro e w3 ⟨rfl, b3⟩
  have B3 := bthen B2 b3
  have hx3 := hx0.up B3
  have s0 := hx3.c0
  have s1 := hx3.c1
  have s2 := hx3.c2
  go_wp2_with fail
  have hyd : Bx w3.drew w.heap.size (.slice A1 n1 c1) (.slice A2 n2 c2) (.slice A3 n3 c3) := ⟨hx3.lt, hx3.c0, hx3.c1, hx3.c2⟩
  have bd : Below w3.heap.size w3 w3.drew := (Below.refl _ _).drew
  have B3d := bthen B3 bd
  have z0 := hyd.c0
  have z1 := hyd.c1
  have z2 := hyd.c2
  have h1d := h1.up B3d
  have h3d := h3.up B3d
  first
   | (go_region_with ((first
      | (go_at_call 61; refine (rone_any _).mono ?_; rintro e w4 ⟨A4, n4, c4, x4, rfl, r4⟩
         have g4 := hyd.up r4.bel
         have g40 := g4.c0
         have g41 := g4.c1
         have g42 := g4.c2
         have v4 := r4.is
         have l4 : n4 ≤ 1 := r4.le (by omega))
      | (go_at_call 35; with_reducible refine (rcmp_lt (h3d.up r4.bel) r4.nt (by omega) (by omega) (by rw [e3, v4]; exact hG)).mono ?_; rintro e w5 ⟨rfl, b5⟩
         have g5 := g4.up b5
         have g50 := g5.c0
         have g51 := g5.c1
         have g52 := g5.c2))))
   | fail
  all_goals
    go_wp2_with fail
    go_ret
    exact ⟨rfl, bthen b0 (bthen (bthen B3d r4.bel) b5)⟩
set_option maxHeartbeats 4000000 in
theorem rright_b5 {w : World} {v : Value} {P Q G : Nat} (h : Pr w v P Q G) (hb1 : bl P ≤ 1024) (hpP : primeN P b12 = true) (hpQ : primeN Q b12 = true) (hG : G = 1) :
    Calls Tryz.prog 19 #[v] w fun e w' => e = .returned (.int .i64 60) ∧ Below w.heap.size w w' := by
  obtain ⟨A1, n1, c1, x1, A2, n2, c2, x2, A3, n3, c3, x3, rfl, h1', e1, l1, h2', e2, l2, h3', e3, l3⟩ := h.ex
  clear h
  obtain ⟨w0, e0⟩ : ∃ w0, w0 = w.alloc (.cells #[Value.slice A1 n1 c1, .slice A2 n2 c2, .slice A3 n3 c3] 37) := ⟨_, rfl⟩
  obtain ⟨hx0, b0⟩ := box_new e0
  have h1 := h1'.up b0
  have h2 := h2'.up b0
  have h3 := h3'.up b0
  clear h1' h2' h3'
  have q0 := hx0.c0
  have q1 := hx0.c1
  have q2 := hx0.c2
  have hb := Rn.rbits_any h1 (by omega)
  rw [e1] at hb
  have Hb := Lib.hid hb
  have hP := fun W A xs (k : Nt W W.heap.size A n1 c1 xs) (e : val 18446744073709551616 xs = P) => rpasses_any k e (by omega)
  have hQ := fun W A xs (k : Nt W W.heap.size A n2 c2 xs) (e : val 18446744073709551616 xs = Q) => rpasses_any k e (by omega)
  rw [hpP] at hP
  rw [hpQ] at hQ
  have HP := Lib.hid hP
  have HQ := Lib.hid hQ
  clear hb hP hQ
  obtain ⟨k, hk⟩ : ∃ k, bl P = k := ⟨_, rfl⟩
  rw [hk] at Hb hb1
  clear hk
  go_enter Tryz.func19, Tryz.ntmps19
  go_wp2_with fail
  rw [← e0]
  clear e0
  refine Hb.out.mono ?_
  rintro e w1 ⟨rfl, b1⟩
  have hx1 := hx0.up b1
  have p0 := hx1.c0
  have p1 := hx1.c1
  have p2 := hx1.c2
  have B1 := b1
  go_wp2_with fail
  refine (HP.out _ _ _ (h1.up B1) e1).mono ?_
  rintro e w2 ⟨rfl, b2⟩
  have B2 := bthen B1 b2
  have hx2 := hx0.up B2
  have r0 := hx2.c0
  have r1 := hx2.c1
  have r2 := hx2.c2
  go_wp2_with fail
  refine (HQ.out _ _ _ (h2.up B2) e2).mono ?_
  rintro e w3 ⟨rfl, b3⟩
  have B3 := bthen B2 b3
  have hx3 := hx0.up B3
  have s0 := hx3.c0
  have s1 := hx3.c1
  have s2 := hx3.c2
  go_wp2_with fail
  have hyd : Bx w3.drew w.heap.size (.slice A1 n1 c1) (.slice A2 n2 c2) (.slice A3 n3 c3) := ⟨hx3.lt, hx3.c0, hx3.c1, hx3.c2⟩
  have bd : Below w3.heap.size w3 w3.drew := (Below.refl _ _).drew
  have B3d := bthen B3 bd
  have z0 := hyd.c0
  have z1 := hyd.c1
  have z2 := hyd.c2
  have h1d := h1.up B3d
  have h3d := h3.up B3d
  first
   | (go_region_with ((first
      | (go_at_call 61; refine (rone_any _).mono ?_; rintro e w4 ⟨A4, n4, c4, x4, rfl, r4⟩
         have g4 := hyd.up r4.bel
         have g40 := g4.c0
         have g41 := g4.c1
         have g42 := g4.c2
         have v4 := r4.is
         have l4 : n4 ≤ 1 := r4.le (by omega))
      | (go_at_call 35; with_reducible refine (rcmp_eq (h3d.up r4.bel) r4.nt (by omega) (by omega) (by rw [e3, v4]; exact hG)).mono ?_; rintro e w5 ⟨rfl, b5⟩
         have g5 := g4.up b5
         have g50 := g5.c0
         have g51 := g5.c1
         have g52 := g5.c2))))
   | fail
  all_goals
    go_wp2_with fail
    go_ret
    exact ⟨rfl, bthen b0 (bthen (bthen B3d r4.bel) b5)⟩
set_option maxHeartbeats 4000000 in
theorem rright_b6 {w : World} {v : Value} {P Q G : Nat} (h : Pr w v P Q G) (hb1 : bl P ≤ 1024) (hpP : primeN P b12 = true) (hpQ : primeN Q b12 = true) (hG : 1 < G) (hGP : P < G) :
    Calls Tryz.prog 19 #[v] w fun e w' => e = .returned (.int .i64 60) ∧ Below w.heap.size w w' := by
  obtain ⟨A1, n1, c1, x1, A2, n2, c2, x2, A3, n3, c3, x3, rfl, h1', e1, l1, h2', e2, l2, h3', e3, l3⟩ := h.ex
  clear h
  obtain ⟨w0, e0⟩ : ∃ w0, w0 = w.alloc (.cells #[Value.slice A1 n1 c1, .slice A2 n2 c2, .slice A3 n3 c3] 37) := ⟨_, rfl⟩
  obtain ⟨hx0, b0⟩ := box_new e0
  have h1 := h1'.up b0
  have h2 := h2'.up b0
  have h3 := h3'.up b0
  clear h1' h2' h3'
  have q0 := hx0.c0
  have q1 := hx0.c1
  have q2 := hx0.c2
  have hb := Rn.rbits_any h1 (by omega)
  rw [e1] at hb
  have Hb := Lib.hid hb
  have hP := fun W A xs (k : Nt W W.heap.size A n1 c1 xs) (e : val 18446744073709551616 xs = P) => rpasses_any k e (by omega)
  have hQ := fun W A xs (k : Nt W W.heap.size A n2 c2 xs) (e : val 18446744073709551616 xs = Q) => rpasses_any k e (by omega)
  rw [hpP] at hP
  rw [hpQ] at hQ
  have HP := Lib.hid hP
  have HQ := Lib.hid hQ
  clear hb hP hQ
  obtain ⟨k, hk⟩ : ∃ k, bl P = k := ⟨_, rfl⟩
  rw [hk] at Hb hb1
  clear hk
  go_enter Tryz.func19, Tryz.ntmps19
  go_wp2_with fail
  rw [← e0]
  clear e0
  refine Hb.out.mono ?_
  rintro e w1 ⟨rfl, b1⟩
  have hx1 := hx0.up b1
  have p0 := hx1.c0
  have p1 := hx1.c1
  have p2 := hx1.c2
  have B1 := b1
  go_wp2_with fail
  refine (HP.out _ _ _ (h1.up B1) e1).mono ?_
  rintro e w2 ⟨rfl, b2⟩
  have B2 := bthen B1 b2
  have hx2 := hx0.up B2
  have r0 := hx2.c0
  have r1 := hx2.c1
  have r2 := hx2.c2
  go_wp2_with fail
  refine (HQ.out _ _ _ (h2.up B2) e2).mono ?_
  rintro e w3 ⟨rfl, b3⟩
  have B3 := bthen B2 b3
  have hx3 := hx0.up B3
  have s0 := hx3.c0
  have s1 := hx3.c1
  have s2 := hx3.c2
  go_wp2_with fail
  have hyd : Bx w3.drew w.heap.size (.slice A1 n1 c1) (.slice A2 n2 c2) (.slice A3 n3 c3) := ⟨hx3.lt, hx3.c0, hx3.c1, hx3.c2⟩
  have bd : Below w3.heap.size w3 w3.drew := (Below.refl _ _).drew
  have B3d := bthen B3 bd
  have z0 := hyd.c0
  have z1 := hyd.c1
  have z2 := hyd.c2
  have h1d := h1.up B3d
  have h3d := h3.up B3d
  go_region_held3 (fun w' => w'.cell? ⟨w.heap.size, 0, none⟩ = some (Value.slice A1 n1 c1) ∧ w'.cell? ⟨w.heap.size, 1, none⟩ = some (Value.slice A2 n2 c2) ∧ w'.cell? ⟨w.heap.size, 2, none⟩ = some (Value.slice A3 n3 c3))
    (first | exact ⟨g6.c0, g6.c1, g6.c2⟩ | exact ⟨g5.c0, g5.c1, g5.c2⟩ | exact ⟨g4.c0, g4.c1, g4.c2⟩ | exact ⟨hyd.c0, hyd.c1, hyd.c2⟩)
    ((first
      | (go_at_call 61; refine (rone_any _).mono ?_; rintro e w4 ⟨A4, n4, c4, x4, rfl, r4⟩
         have g4 := hyd.up r4.bel
         have g40 := g4.c0
         have g41 := g4.c1
         have g42 := g4.c2
         have v4 := r4.is
         have l4 : n4 ≤ 1 := r4.le (by omega))
      | (go_at_call 35; with_reducible refine (rcmp_gt (h3d.up r4.bel) r4.nt (by omega) (by omega) (by rw [e3, v4]; exact hG)).mono ?_; rintro e w5 ⟨rfl, b5⟩
         have g5 := g4.up b5
         have g50 := g5.c0
         have g51 := g5.c1
         have g52 := g5.c2)
      | (go_at_call 35; with_reducible refine (rcmp_gt ((h3d.up r4.bel).up b5) ((h1d.up r4.bel).up b5) (by omega) (by omega) (by rw [e3, e1]; exact hGP)).mono ?_; rintro e w6 ⟨rfl, b6⟩
         have g6 := g5.up b6
         have g60 := g6.c0
         have g61 := g6.c1
         have g62 := g6.c2)))
  all_goals
    go_wp2_with fail
    go_ret
    exact ⟨rfl, bthen b0 (bthen (bthen (bthen B3d r4.bel) b5) b6)⟩
set_option maxHeartbeats 4000000 in
theorem rright_b7 {w : World} {v : Value} {P Q G : Nat} (h : Pr w v P Q G) (hb1 : bl P ≤ 1024) (hpP : primeN P b12 = true) (hpQ : primeN Q b12 = true) (hG : 1 < G) (hGP : G = P) :
    Calls Tryz.prog 19 #[v] w fun e w' => e = .returned (.int .i64 60) ∧ Below w.heap.size w w' := by
  obtain ⟨A1, n1, c1, x1, A2, n2, c2, x2, A3, n3, c3, x3, rfl, h1', e1, l1, h2', e2, l2, h3', e3, l3⟩ := h.ex
  clear h
  obtain ⟨w0, e0⟩ : ∃ w0, w0 = w.alloc (.cells #[Value.slice A1 n1 c1, .slice A2 n2 c2, .slice A3 n3 c3] 37) := ⟨_, rfl⟩
  obtain ⟨hx0, b0⟩ := box_new e0
  have h1 := h1'.up b0
  have h2 := h2'.up b0
  have h3 := h3'.up b0
  clear h1' h2' h3'
  have q0 := hx0.c0
  have q1 := hx0.c1
  have q2 := hx0.c2
  have hb := Rn.rbits_any h1 (by omega)
  rw [e1] at hb
  have Hb := Lib.hid hb
  have hP := fun W A xs (k : Nt W W.heap.size A n1 c1 xs) (e : val 18446744073709551616 xs = P) => rpasses_any k e (by omega)
  have hQ := fun W A xs (k : Nt W W.heap.size A n2 c2 xs) (e : val 18446744073709551616 xs = Q) => rpasses_any k e (by omega)
  rw [hpP] at hP
  rw [hpQ] at hQ
  have HP := Lib.hid hP
  have HQ := Lib.hid hQ
  clear hb hP hQ
  obtain ⟨k, hk⟩ : ∃ k, bl P = k := ⟨_, rfl⟩
  rw [hk] at Hb hb1
  clear hk
  go_enter Tryz.func19, Tryz.ntmps19
  go_wp2_with fail
  rw [← e0]
  clear e0
  refine Hb.out.mono ?_
  rintro e w1 ⟨rfl, b1⟩
  have hx1 := hx0.up b1
  have p0 := hx1.c0
  have p1 := hx1.c1
  have p2 := hx1.c2
  have B1 := b1
  go_wp2_with fail
  refine (HP.out _ _ _ (h1.up B1) e1).mono ?_
  rintro e w2 ⟨rfl, b2⟩
  have B2 := bthen B1 b2
  have hx2 := hx0.up B2
  have r0 := hx2.c0
  have r1 := hx2.c1
  have r2 := hx2.c2
  go_wp2_with fail
  refine (HQ.out _ _ _ (h2.up B2) e2).mono ?_
  rintro e w3 ⟨rfl, b3⟩
  have B3 := bthen B2 b3
  have hx3 := hx0.up B3
  have s0 := hx3.c0
  have s1 := hx3.c1
  have s2 := hx3.c2
  go_wp2_with fail
  have hyd : Bx w3.drew w.heap.size (.slice A1 n1 c1) (.slice A2 n2 c2) (.slice A3 n3 c3) := ⟨hx3.lt, hx3.c0, hx3.c1, hx3.c2⟩
  have bd : Below w3.heap.size w3 w3.drew := (Below.refl _ _).drew
  have B3d := bthen B3 bd
  have z0 := hyd.c0
  have z1 := hyd.c1
  have z2 := hyd.c2
  have h1d := h1.up B3d
  have h3d := h3.up B3d
  go_region_held3 (fun w' => w'.cell? ⟨w.heap.size, 0, none⟩ = some (Value.slice A1 n1 c1) ∧ w'.cell? ⟨w.heap.size, 1, none⟩ = some (Value.slice A2 n2 c2) ∧ w'.cell? ⟨w.heap.size, 2, none⟩ = some (Value.slice A3 n3 c3))
    (first | exact ⟨g6.c0, g6.c1, g6.c2⟩ | exact ⟨g5.c0, g5.c1, g5.c2⟩ | exact ⟨g4.c0, g4.c1, g4.c2⟩ | exact ⟨hyd.c0, hyd.c1, hyd.c2⟩)
    ((first
      | (go_at_call 61; refine (rone_any _).mono ?_; rintro e w4 ⟨A4, n4, c4, x4, rfl, r4⟩
         have g4 := hyd.up r4.bel
         have g40 := g4.c0
         have g41 := g4.c1
         have g42 := g4.c2
         have v4 := r4.is
         have l4 : n4 ≤ 1 := r4.le (by omega))
      | (go_at_call 35; with_reducible refine (rcmp_gt (h3d.up r4.bel) r4.nt (by omega) (by omega) (by rw [e3, v4]; exact hG)).mono ?_; rintro e w5 ⟨rfl, b5⟩
         have g5 := g4.up b5
         have g50 := g5.c0
         have g51 := g5.c1
         have g52 := g5.c2)
      | (go_at_call 35; with_reducible refine (rcmp_eq ((h3d.up r4.bel).up b5) ((h1d.up r4.bel).up b5) (by omega) (by omega) (by rw [e3, e1]; exact hGP)).mono ?_; rintro e w6 ⟨rfl, b6⟩
         have g6 := g5.up b6
         have g60 := g6.c0
         have g61 := g6.c1
         have g62 := g6.c2)))
  all_goals
    go_wp2_with fail
    go_ret
    exact ⟨rfl, bthen b0 (bthen (bthen (bthen B3d r4.bel) b5) b6)⟩
end Go.Proofs.YtkhlmcknbangfaaGreatDoor
namespace Go.Proofs.YtkhlmcknbangfaaGreatDoor
open Go.RowKit
set_option linter.unusedVariables false
set_option maxRecDepth 100000

set_option maxHeartbeats 4000000 in
theorem rright_b8 {w : World} {v : Value} {P Q G : Nat} (h : Pr w v P Q G) (hb1 : bl P ≤ 1024) (hpP : primeN P b12 = true) (hpQ : primeN Q b12 = true) (hG : 1 < G) (hGP : G < P) (hQ2 : 2 ≤ Q) (hM : (P - 1) % Q ≠ 0) :
    Calls Tryz.prog 19 #[v] w fun e w' => e = .returned (.int .i64 60) ∧ Below w.heap.size w w' := by
  obtain ⟨A1, n1, c1, x1, A2, n2, c2, x2, A3, n3, c3, x3, rfl, h1', e1, l1, h2', e2, l2, h3', e3, l3⟩ := h.ex
  clear h
  obtain ⟨w0, e0⟩ : ∃ w0, w0 = w.alloc (.cells #[Value.slice A1 n1 c1, .slice A2 n2 c2, .slice A3 n3 c3] 37) := ⟨_, rfl⟩
  obtain ⟨hx0, b0⟩ := box_new e0
  have h1 := h1'.up b0
  have h2 := h2'.up b0
  have h3 := h3'.up b0
  clear h1' h2' h3'
  have q0 := hx0.c0
  have q1 := hx0.c1
  have q2 := hx0.c2
  have hb := Rn.rbits_any h1 (by omega)
  rw [e1] at hb
  have Hb := Lib.hid hb
  have hP := fun W A xs (k : Nt W W.heap.size A n1 c1 xs) (e : val 18446744073709551616 xs = P) => rpasses_any k e (by omega)
  have hQ := fun W A xs (k : Nt W W.heap.size A n2 c2 xs) (e : val 18446744073709551616 xs = Q) => rpasses_any k e (by omega)
  rw [hpP] at hP
  rw [hpQ] at hQ
  have HP := Lib.hid hP
  have HQ := Lib.hid hQ
  clear hb hP hQ
  obtain ⟨k, hk⟩ : ∃ k, bl P = k := ⟨_, rfl⟩
  rw [hk] at Hb hb1
  clear hk
  go_enter Tryz.func19, Tryz.ntmps19
  go_wp2_with fail
  rw [← e0]
  clear e0
  refine Hb.out.mono ?_
  rintro e w1 ⟨rfl, b1⟩
  have hx1 := hx0.up b1
  have p0 := hx1.c0
  have p1 := hx1.c1
  have p2 := hx1.c2
  have B1 := b1
  go_wp2_with fail
  refine (HP.out _ _ _ (h1.up B1) e1).mono ?_
  rintro e w2 ⟨rfl, b2⟩
  have B2 := bthen B1 b2
  have hx2 := hx0.up B2
  have r0 := hx2.c0
  have r1 := hx2.c1
  have r2 := hx2.c2
  go_wp2_with fail
  refine (HQ.out _ _ _ (h2.up B2) e2).mono ?_
  rintro e w3 ⟨rfl, b3⟩
  have B3 := bthen B2 b3
  have hx3 := hx0.up B3
  have s0 := hx3.c0
  have s1 := hx3.c1
  have s2 := hx3.c2
  go_wp2_with fail
  have hyd : Bx w3.drew w.heap.size (.slice A1 n1 c1) (.slice A2 n2 c2) (.slice A3 n3 c3) := ⟨hx3.lt, hx3.c0, hx3.c1, hx3.c2⟩
  have bd : Below w3.heap.size w3 w3.drew := (Below.refl _ _).drew
  have B3d := bthen B3 bd
  have z0 := hyd.c0
  have z1 := hyd.c1
  have z2 := hyd.c2
  have h1d := h1.up B3d
  have h3d := h3.up B3d
  go_region_held3 (fun w' => w'.cell? ⟨w.heap.size, 0, none⟩ = some (Value.slice A1 n1 c1) ∧ w'.cell? ⟨w.heap.size, 1, none⟩ = some (Value.slice A2 n2 c2) ∧ w'.cell? ⟨w.heap.size, 2, none⟩ = some (Value.slice A3 n3 c3))
    (first | exact ⟨g6.c0, g6.c1, g6.c2⟩ | exact ⟨g5.c0, g5.c1, g5.c2⟩ | exact ⟨g4.c0, g4.c1, g4.c2⟩ | exact ⟨hyd.c0, hyd.c1, hyd.c2⟩)
    ((first
      | (go_at_call 61; refine (rone_any _).mono ?_; rintro e w4 ⟨A4, n4, c4, x4, rfl, r4⟩
         have g4 := hyd.up r4.bel
         have g40 := g4.c0
         have g41 := g4.c1
         have g42 := g4.c2
         have v4 := r4.is
         have l4 : n4 ≤ 1 := r4.le (by omega))
      | (go_at_call 35; with_reducible refine (rcmp_gt (h3d.up r4.bel) r4.nt (by omega) (by omega) (by rw [e3, v4]; exact hG)).mono ?_; rintro e w5 ⟨rfl, b5⟩
         have g5 := g4.up b5
         have g50 := g5.c0
         have g51 := g5.c1
         have g52 := g5.c2)
      | (go_at_call 35; with_reducible refine (rcmp_lt ((h3d.up r4.bel).up b5) ((h1d.up r4.bel).up b5) (by omega) (by omega) (by rw [e3, e1]; exact hGP)).mono ?_; rintro e w6 ⟨rfl, b6⟩
         have g6 := g5.up b6
         have g60 := g6.c0
         have g61 := g6.c1
         have g62 := g6.c2)))
  all_goals
    have B6 := bthen (bthen (bthen B3d r4.bel) b5) b6
    go_wp2_with fail
    have hyf : Bx w6.drew w.heap.size (.slice A1 n1 c1) (.slice A2 n2 c2) (.slice A3 n3 c3) := ⟨g6.lt, g6.c0, g6.c1, g6.c2⟩
    have bf : Below w6.heap.size w6 w6.drew := (Below.refl _ _).drew
    have B6d := bthen B6 bf
    have y0 := hyf.c0
    have y1 := hyf.c1
    have y2 := hyf.c2
    have h1f := h1.up B6d
    go_region_held3 (fun w' => w'.cell? ⟨w.heap.size, 0, none⟩ = some (Value.slice A1 n1 c1) ∧ w'.cell? ⟨w.heap.size, 1, none⟩ = some (Value.slice A2 n2 c2) ∧ w'.cell? ⟨w.heap.size, 2, none⟩ = some (Value.slice A3 n3 c3))
    (first | exact ⟨g8.c0, g8.c1, g8.c2⟩ | exact ⟨g7.c0, g7.c1, g7.c2⟩ | exact ⟨hyf.c0, hyf.c1, hyf.c2⟩)
    ((first
      | (go_at_call 61; refine (rone_any _).mono ?_; rintro e w7 ⟨A7, n7, c7, x7, rfl, r7⟩
         have g7 := hyf.up r7.bel
         have g70 := g7.c0
         have g71 := g7.c1
         have g72 := g7.c2
         have v7 := r7.is
         have l7 : n7 ≤ 1 := r7.le (by omega))
      | (go_at_call 60; refine (rsub_ok (h1f.up r7.bel) r7.nt (by omega) (by omega) (by rw [e1, v7]; omega)).mono ?_; rintro e w8 ⟨A8, n8, c8, x8, rfl, r8⟩
         rw [e1, v7] at r8
         have v8 := r8.is
         have l8 : n8 ≤ 100 := r8.le (Nat.lt_of_le_of_lt (Nat.sub_le _ _) (by rw [← e1]; exact h1f.below_pow l1))
         have g8 := g7.up r8.bel
         have g80 := g8.c0
         have g81 := g8.c1
         have g82 := g8.c2)))
    all_goals
      have B8 := bthen (bthen B6d r7.bel) r8.bel
      go_wp2_with fail
      refine (rmod_pos r8.nt (h2.up B8) (by omega) (by omega) (by rw [e2]; omega)).mono ?_
      rintro e w9 ⟨A9, n9, c9, x9, rfl, r9⟩
      rw [v8, e2] at r9
      have v9 := r9.is
      have l9 : n9 ≤ 100 := r9.le (Nat.lt_trans (Nat.mod_lt _ (by omega)) (by rw [← e2]; exact h2.below_pow l2))
      have B9 := bthen B8 r9.bel
      have g9 := g8.up r9.bel
      have g90 := g9.c0
      have g91 := g9.c1
      have g92 := g9.c2
      go_wp2_with fail
      refine (rpow_pos (h3.up B9) (h2.up B9) (h1.up B9) (by omega) (by omega) (by omega) (by rw [e1]; omega)).mono ?_
      rintro e w10 ⟨A10, n10, c10, x10, rfl, r10⟩
      rw [e1, e2, e3] at r10
      have v10 := r10.is
      have l10 : n10 ≤ 100 := r10.le (Nat.lt_trans (Nat.mod_lt _ (by omega)) (by rw [← e1]; exact h1.below_pow l1))
      have B10 := bthen B9 r10.bel
      have m9 := r9.nt.up r10.bel
      have hbt := Rn.rbits_any m9 (by omega)
      rw [v9] at hbt
      have hpz := bl_pos (Nat.pos_of_ne_zero hM)
      obtain ⟨kz, hkz⟩ : ∃ kz, bl ((P - 1) % Q) = kz := ⟨_, rfl⟩
      rw [hkz] at hbt hpz
      have hd0 : decide ((0 : Int) < (kz : Int)) = true := by simp; omega
      clear hkz
      have Hbt := Lib.hid hbt
      clear hbt
      go_wp2_with fail
      refine Hbt.out.mono ?_
      rintro e w11 ⟨rfl, b11⟩
      have B11 := bthen B10 b11
      go_wp2_with fail
      go_ret
      exact ⟨rfl, bthen b0 B11⟩
end Go.Proofs.YtkhlmcknbangfaaGreatDoor
namespace Go.Proofs.YtkhlmcknbangfaaGreatDoor
open Go.RowKit
set_option linter.unusedVariables false
set_option maxRecDepth 100000

set_option maxHeartbeats 4000000 in
theorem rright_b9 {w : World} {v : Value} {P Q G : Nat} (h : Pr w v P Q G) (hb1 : bl P ≤ 1024) (hpP : primeN P b12 = true) (hpQ : primeN Q b12 = true) (hG : 1 < G) (hGP : G < P) (hQ2 : 2 ≤ Q) (hM : (P - 1) % Q = 0) (hX : G ^ Q % P < 1) :
    Calls Tryz.prog 19 #[v] w fun e w' => e = .returned (.int .i64 60) ∧ Below w.heap.size w w' := by
  obtain ⟨A1, n1, c1, x1, A2, n2, c2, x2, A3, n3, c3, x3, rfl, h1', e1, l1, h2', e2, l2, h3', e3, l3⟩ := h.ex
  clear h
  obtain ⟨w0, e0⟩ : ∃ w0, w0 = w.alloc (.cells #[Value.slice A1 n1 c1, .slice A2 n2 c2, .slice A3 n3 c3] 37) := ⟨_, rfl⟩
  obtain ⟨hx0, b0⟩ := box_new e0
  have h1 := h1'.up b0
  have h2 := h2'.up b0
  have h3 := h3'.up b0
  clear h1' h2' h3'
  have q0 := hx0.c0
  have q1 := hx0.c1
  have q2 := hx0.c2
  have hb := Rn.rbits_any h1 (by omega)
  rw [e1] at hb
  have Hb := Lib.hid hb
  have hP := fun W A xs (k : Nt W W.heap.size A n1 c1 xs) (e : val 18446744073709551616 xs = P) => rpasses_any k e (by omega)
  have hQ := fun W A xs (k : Nt W W.heap.size A n2 c2 xs) (e : val 18446744073709551616 xs = Q) => rpasses_any k e (by omega)
  rw [hpP] at hP
  rw [hpQ] at hQ
  have HP := Lib.hid hP
  have HQ := Lib.hid hQ
  clear hb hP hQ
  obtain ⟨k, hk⟩ : ∃ k, bl P = k := ⟨_, rfl⟩
  rw [hk] at Hb hb1
  clear hk
  go_enter Tryz.func19, Tryz.ntmps19
  go_wp2_with fail
  rw [← e0]
  clear e0
  refine Hb.out.mono ?_
  rintro e w1 ⟨rfl, b1⟩
  have hx1 := hx0.up b1
  have p0 := hx1.c0
  have p1 := hx1.c1
  have p2 := hx1.c2
  have B1 := b1
  go_wp2_with fail
  refine (HP.out _ _ _ (h1.up B1) e1).mono ?_
  rintro e w2 ⟨rfl, b2⟩
  have B2 := bthen B1 b2
  have hx2 := hx0.up B2
  have r0 := hx2.c0
  have r1 := hx2.c1
  have r2 := hx2.c2
  go_wp2_with fail
  refine (HQ.out _ _ _ (h2.up B2) e2).mono ?_
  rintro e w3 ⟨rfl, b3⟩
  have B3 := bthen B2 b3
  have hx3 := hx0.up B3
  have s0 := hx3.c0
  have s1 := hx3.c1
  have s2 := hx3.c2
  go_wp2_with fail
  have hyd : Bx w3.drew w.heap.size (.slice A1 n1 c1) (.slice A2 n2 c2) (.slice A3 n3 c3) := ⟨hx3.lt, hx3.c0, hx3.c1, hx3.c2⟩
  have bd : Below w3.heap.size w3 w3.drew := (Below.refl _ _).drew
  have B3d := bthen B3 bd
  have z0 := hyd.c0
  have z1 := hyd.c1
  have z2 := hyd.c2
  have h1d := h1.up B3d
  have h3d := h3.up B3d
  go_region_held3 (fun w' => w'.cell? ⟨w.heap.size, 0, none⟩ = some (Value.slice A1 n1 c1) ∧ w'.cell? ⟨w.heap.size, 1, none⟩ = some (Value.slice A2 n2 c2) ∧ w'.cell? ⟨w.heap.size, 2, none⟩ = some (Value.slice A3 n3 c3))
    (first | exact ⟨g6.c0, g6.c1, g6.c2⟩ | exact ⟨g5.c0, g5.c1, g5.c2⟩ | exact ⟨g4.c0, g4.c1, g4.c2⟩ | exact ⟨hyd.c0, hyd.c1, hyd.c2⟩)
    ((first
      | (go_at_call 61; refine (rone_any _).mono ?_; rintro e w4 ⟨A4, n4, c4, x4, rfl, r4⟩
         have g4 := hyd.up r4.bel
         have g40 := g4.c0
         have g41 := g4.c1
         have g42 := g4.c2
         have v4 := r4.is
         have l4 : n4 ≤ 1 := r4.le (by omega))
      | (go_at_call 35; with_reducible refine (rcmp_gt (h3d.up r4.bel) r4.nt (by omega) (by omega) (by rw [e3, v4]; exact hG)).mono ?_; rintro e w5 ⟨rfl, b5⟩
         have g5 := g4.up b5
         have g50 := g5.c0
         have g51 := g5.c1
         have g52 := g5.c2)
      | (go_at_call 35; with_reducible refine (rcmp_lt ((h3d.up r4.bel).up b5) ((h1d.up r4.bel).up b5) (by omega) (by omega) (by rw [e3, e1]; exact hGP)).mono ?_; rintro e w6 ⟨rfl, b6⟩
         have g6 := g5.up b6
         have g60 := g6.c0
         have g61 := g6.c1
         have g62 := g6.c2)))
  all_goals
    have B6 := bthen (bthen (bthen B3d r4.bel) b5) b6
    go_wp2_with fail
    have hyf : Bx w6.drew w.heap.size (.slice A1 n1 c1) (.slice A2 n2 c2) (.slice A3 n3 c3) := ⟨g6.lt, g6.c0, g6.c1, g6.c2⟩
    have bf : Below w6.heap.size w6 w6.drew := (Below.refl _ _).drew
    have B6d := bthen B6 bf
    have y0 := hyf.c0
    have y1 := hyf.c1
    have y2 := hyf.c2
    have h1f := h1.up B6d
    go_region_held3 (fun w' => w'.cell? ⟨w.heap.size, 0, none⟩ = some (Value.slice A1 n1 c1) ∧ w'.cell? ⟨w.heap.size, 1, none⟩ = some (Value.slice A2 n2 c2) ∧ w'.cell? ⟨w.heap.size, 2, none⟩ = some (Value.slice A3 n3 c3))
    (first | exact ⟨g8.c0, g8.c1, g8.c2⟩ | exact ⟨g7.c0, g7.c1, g7.c2⟩ | exact ⟨hyf.c0, hyf.c1, hyf.c2⟩)
    ((first
      | (go_at_call 61; refine (rone_any _).mono ?_; rintro e w7 ⟨A7, n7, c7, x7, rfl, r7⟩
         have g7 := hyf.up r7.bel
         have g70 := g7.c0
         have g71 := g7.c1
         have g72 := g7.c2
         have v7 := r7.is
         have l7 : n7 ≤ 1 := r7.le (by omega))
      | (go_at_call 60; refine (rsub_ok (h1f.up r7.bel) r7.nt (by omega) (by omega) (by rw [e1, v7]; omega)).mono ?_; rintro e w8 ⟨A8, n8, c8, x8, rfl, r8⟩
         rw [e1, v7] at r8
         have v8 := r8.is
         have l8 : n8 ≤ 100 := r8.le (Nat.lt_of_le_of_lt (Nat.sub_le _ _) (by rw [← e1]; exact h1f.below_pow l1))
         have g8 := g7.up r8.bel
         have g80 := g8.c0
         have g81 := g8.c1
         have g82 := g8.c2)))
    all_goals
      have B8 := bthen (bthen B6d r7.bel) r8.bel
      go_wp2_with fail
      refine (rmod_pos r8.nt (h2.up B8) (by omega) (by omega) (by rw [e2]; omega)).mono ?_
      rintro e w9 ⟨A9, n9, c9, x9, rfl, r9⟩
      rw [v8, e2] at r9
      have v9 := r9.is
      have l9 : n9 ≤ 100 := r9.le (Nat.lt_trans (Nat.mod_lt _ (by omega)) (by rw [← e2]; exact h2.below_pow l2))
      have B9 := bthen B8 r9.bel
      have g9 := g8.up r9.bel
      have g90 := g9.c0
      have g91 := g9.c1
      have g92 := g9.c2
      go_wp2_with fail
      refine (rpow_pos (h3.up B9) (h2.up B9) (h1.up B9) (by omega) (by omega) (by omega) (by rw [e1]; omega)).mono ?_
      rintro e w10 ⟨A10, n10, c10, x10, rfl, r10⟩
      rw [e1, e2, e3] at r10
      have v10 := r10.is
      have l10 : n10 ≤ 100 := r10.le (Nat.lt_trans (Nat.mod_lt _ (by omega)) (by rw [← e1]; exact h1.below_pow l1))
      have B10 := bthen B9 r10.bel
      have m9 := r9.nt.up r10.bel
      have hbt := Rn.rbits_any m9 (by omega)
      rw [v9] at hbt
      rw [hM, show bl 0 = 0 by rfl] at hbt
      have Hbt := Lib.hid hbt
      clear hbt
      go_wp2_with fail
      refine Hbt.out.mono ?_
      rintro e w11 ⟨rfl, b11⟩
      have B11 := bthen B10 b11
      go_wp2_with fail
      refine (rone_any _).mono ?_
      rintro e w12 ⟨A12, n12, c12, x12, rfl, r12⟩
      have v12 := r12.is
      have l12 : n12 ≤ 1 := r12.le (by omega)
      have B12' := bthen B11 r12.bel
      go_wp2_with fail
      refine (rcmp_lt ((r10.nt.up b11).up r12.bel) r12.nt (by omega) (by omega) (by rw [v10, v12]; exact hX)).mono ?_
      rintro e w13 ⟨rfl, b13⟩
      have B13 := bthen B12' b13
      go_wp2_with fail
      go_ret
      exact ⟨rfl, bthen b0 B13⟩
end Go.Proofs.YtkhlmcknbangfaaGreatDoor
namespace Go.Proofs.YtkhlmcknbangfaaGreatDoor
open Go.RowKit
set_option linter.unusedVariables false
set_option maxRecDepth 100000

set_option maxHeartbeats 4000000 in
theorem rright_b10 {w : World} {v : Value} {P Q G : Nat} (h : Pr w v P Q G) (hb1 : bl P ≤ 1024) (hpP : primeN P b12 = true) (hpQ : primeN Q b12 = true) (hG : 1 < G) (hGP : G < P) (hQ2 : 2 ≤ Q) (hM : (P - 1) % Q = 0) (hX : 1 < G ^ Q % P) :
    Calls Tryz.prog 19 #[v] w fun e w' => e = .returned (.int .i64 60) ∧ Below w.heap.size w w' := by
  obtain ⟨A1, n1, c1, x1, A2, n2, c2, x2, A3, n3, c3, x3, rfl, h1', e1, l1, h2', e2, l2, h3', e3, l3⟩ := h.ex
  clear h
  obtain ⟨w0, e0⟩ : ∃ w0, w0 = w.alloc (.cells #[Value.slice A1 n1 c1, .slice A2 n2 c2, .slice A3 n3 c3] 37) := ⟨_, rfl⟩
  obtain ⟨hx0, b0⟩ := box_new e0
  have h1 := h1'.up b0
  have h2 := h2'.up b0
  have h3 := h3'.up b0
  clear h1' h2' h3'
  have q0 := hx0.c0
  have q1 := hx0.c1
  have q2 := hx0.c2
  have hb := Rn.rbits_any h1 (by omega)
  rw [e1] at hb
  have Hb := Lib.hid hb
  have hP := fun W A xs (k : Nt W W.heap.size A n1 c1 xs) (e : val 18446744073709551616 xs = P) => rpasses_any k e (by omega)
  have hQ := fun W A xs (k : Nt W W.heap.size A n2 c2 xs) (e : val 18446744073709551616 xs = Q) => rpasses_any k e (by omega)
  rw [hpP] at hP
  rw [hpQ] at hQ
  have HP := Lib.hid hP
  have HQ := Lib.hid hQ
  clear hb hP hQ
  obtain ⟨k, hk⟩ : ∃ k, bl P = k := ⟨_, rfl⟩
  rw [hk] at Hb hb1
  clear hk
  go_enter Tryz.func19, Tryz.ntmps19
  go_wp2_with fail
  rw [← e0]
  clear e0
  refine Hb.out.mono ?_
  rintro e w1 ⟨rfl, b1⟩
  have hx1 := hx0.up b1
  have p0 := hx1.c0
  have p1 := hx1.c1
  have p2 := hx1.c2
  have B1 := b1
  go_wp2_with fail
  refine (HP.out _ _ _ (h1.up B1) e1).mono ?_
  rintro e w2 ⟨rfl, b2⟩
  have B2 := bthen B1 b2
  have hx2 := hx0.up B2
  have r0 := hx2.c0
  have r1 := hx2.c1
  have r2 := hx2.c2
  go_wp2_with fail
  refine (HQ.out _ _ _ (h2.up B2) e2).mono ?_
  rintro e w3 ⟨rfl, b3⟩
  have B3 := bthen B2 b3
  have hx3 := hx0.up B3
  have s0 := hx3.c0
  have s1 := hx3.c1
  have s2 := hx3.c2
  go_wp2_with fail
  have hyd : Bx w3.drew w.heap.size (.slice A1 n1 c1) (.slice A2 n2 c2) (.slice A3 n3 c3) := ⟨hx3.lt, hx3.c0, hx3.c1, hx3.c2⟩
  have bd : Below w3.heap.size w3 w3.drew := (Below.refl _ _).drew
  have B3d := bthen B3 bd
  have z0 := hyd.c0
  have z1 := hyd.c1
  have z2 := hyd.c2
  have h1d := h1.up B3d
  have h3d := h3.up B3d
  go_region_held3 (fun w' => w'.cell? ⟨w.heap.size, 0, none⟩ = some (Value.slice A1 n1 c1) ∧ w'.cell? ⟨w.heap.size, 1, none⟩ = some (Value.slice A2 n2 c2) ∧ w'.cell? ⟨w.heap.size, 2, none⟩ = some (Value.slice A3 n3 c3))
    (first | exact ⟨g6.c0, g6.c1, g6.c2⟩ | exact ⟨g5.c0, g5.c1, g5.c2⟩ | exact ⟨g4.c0, g4.c1, g4.c2⟩ | exact ⟨hyd.c0, hyd.c1, hyd.c2⟩)
    ((first
      | (go_at_call 61; refine (rone_any _).mono ?_; rintro e w4 ⟨A4, n4, c4, x4, rfl, r4⟩
         have g4 := hyd.up r4.bel
         have g40 := g4.c0
         have g41 := g4.c1
         have g42 := g4.c2
         have v4 := r4.is
         have l4 : n4 ≤ 1 := r4.le (by omega))
      | (go_at_call 35; with_reducible refine (rcmp_gt (h3d.up r4.bel) r4.nt (by omega) (by omega) (by rw [e3, v4]; exact hG)).mono ?_; rintro e w5 ⟨rfl, b5⟩
         have g5 := g4.up b5
         have g50 := g5.c0
         have g51 := g5.c1
         have g52 := g5.c2)
      | (go_at_call 35; with_reducible refine (rcmp_lt ((h3d.up r4.bel).up b5) ((h1d.up r4.bel).up b5) (by omega) (by omega) (by rw [e3, e1]; exact hGP)).mono ?_; rintro e w6 ⟨rfl, b6⟩
         have g6 := g5.up b6
         have g60 := g6.c0
         have g61 := g6.c1
         have g62 := g6.c2)))
  all_goals
    have B6 := bthen (bthen (bthen B3d r4.bel) b5) b6
    go_wp2_with fail
    have hyf : Bx w6.drew w.heap.size (.slice A1 n1 c1) (.slice A2 n2 c2) (.slice A3 n3 c3) := ⟨g6.lt, g6.c0, g6.c1, g6.c2⟩
    have bf : Below w6.heap.size w6 w6.drew := (Below.refl _ _).drew
    have B6d := bthen B6 bf
    have y0 := hyf.c0
    have y1 := hyf.c1
    have y2 := hyf.c2
    have h1f := h1.up B6d
    go_region_held3 (fun w' => w'.cell? ⟨w.heap.size, 0, none⟩ = some (Value.slice A1 n1 c1) ∧ w'.cell? ⟨w.heap.size, 1, none⟩ = some (Value.slice A2 n2 c2) ∧ w'.cell? ⟨w.heap.size, 2, none⟩ = some (Value.slice A3 n3 c3))
    (first | exact ⟨g8.c0, g8.c1, g8.c2⟩ | exact ⟨g7.c0, g7.c1, g7.c2⟩ | exact ⟨hyf.c0, hyf.c1, hyf.c2⟩)
    ((first
      | (go_at_call 61; refine (rone_any _).mono ?_; rintro e w7 ⟨A7, n7, c7, x7, rfl, r7⟩
         have g7 := hyf.up r7.bel
         have g70 := g7.c0
         have g71 := g7.c1
         have g72 := g7.c2
         have v7 := r7.is
         have l7 : n7 ≤ 1 := r7.le (by omega))
      | (go_at_call 60; refine (rsub_ok (h1f.up r7.bel) r7.nt (by omega) (by omega) (by rw [e1, v7]; omega)).mono ?_; rintro e w8 ⟨A8, n8, c8, x8, rfl, r8⟩
         rw [e1, v7] at r8
         have v8 := r8.is
         have l8 : n8 ≤ 100 := r8.le (Nat.lt_of_le_of_lt (Nat.sub_le _ _) (by rw [← e1]; exact h1f.below_pow l1))
         have g8 := g7.up r8.bel
         have g80 := g8.c0
         have g81 := g8.c1
         have g82 := g8.c2)))
    all_goals
      have B8 := bthen (bthen B6d r7.bel) r8.bel
      go_wp2_with fail
      refine (rmod_pos r8.nt (h2.up B8) (by omega) (by omega) (by rw [e2]; omega)).mono ?_
      rintro e w9 ⟨A9, n9, c9, x9, rfl, r9⟩
      rw [v8, e2] at r9
      have v9 := r9.is
      have l9 : n9 ≤ 100 := r9.le (Nat.lt_trans (Nat.mod_lt _ (by omega)) (by rw [← e2]; exact h2.below_pow l2))
      have B9 := bthen B8 r9.bel
      have g9 := g8.up r9.bel
      have g90 := g9.c0
      have g91 := g9.c1
      have g92 := g9.c2
      go_wp2_with fail
      refine (rpow_pos (h3.up B9) (h2.up B9) (h1.up B9) (by omega) (by omega) (by omega) (by rw [e1]; omega)).mono ?_
      rintro e w10 ⟨A10, n10, c10, x10, rfl, r10⟩
      rw [e1, e2, e3] at r10
      have v10 := r10.is
      have l10 : n10 ≤ 100 := r10.le (Nat.lt_trans (Nat.mod_lt _ (by omega)) (by rw [← e1]; exact h1.below_pow l1))
      have B10 := bthen B9 r10.bel
      have m9 := r9.nt.up r10.bel
      have hbt := Rn.rbits_any m9 (by omega)
      rw [v9] at hbt
      rw [hM, show bl 0 = 0 by rfl] at hbt
      have Hbt := Lib.hid hbt
      clear hbt
      go_wp2_with fail
      refine Hbt.out.mono ?_
      rintro e w11 ⟨rfl, b11⟩
      have B11 := bthen B10 b11
      go_wp2_with fail
      refine (rone_any _).mono ?_
      rintro e w12 ⟨A12, n12, c12, x12, rfl, r12⟩
      have v12 := r12.is
      have l12 : n12 ≤ 1 := r12.le (by omega)
      have B12' := bthen B11 r12.bel
      go_wp2_with fail
      refine (rcmp_gt ((r10.nt.up b11).up r12.bel) r12.nt (by omega) (by omega) (by rw [v10, v12]; exact hX)).mono ?_
      rintro e w13 ⟨rfl, b13⟩
      have B13 := bthen B12' b13
      go_wp2_with fail
      go_ret
      exact ⟨rfl, bthen b0 B13⟩
end Go.Proofs.YtkhlmcknbangfaaGreatDoor
namespace Go.Proofs.YtkhlmcknbangfaaGreatDoor
open Go.RowKit
set_option linter.unusedVariables false
set_option maxRecDepth 100000

set_option maxHeartbeats 4000000 in
theorem rright_ok1 {w : World} {v : Value} {P Q G : Nat} (h : Pr w v P Q G) (hb1 : bl P ≤ 1024) (hpP : primeN P b12 = true) (hpQ : primeN Q b12 = true) (hG : 1 < G) (hGP : G < P) (hQ2 : 2 ≤ Q) (hM : (P - 1) % Q = 0) (hX : G ^ Q % P = 1) :
    Calls Tryz.prog 19 #[v] w fun e w' => e = .returned (.int .i64 0) ∧ Below w.heap.size w w' := by
  obtain ⟨A1, n1, c1, x1, A2, n2, c2, x2, A3, n3, c3, x3, rfl, h1', e1, l1, h2', e2, l2, h3', e3, l3⟩ := h.ex
  clear h
  obtain ⟨w0, e0⟩ : ∃ w0, w0 = w.alloc (.cells #[Value.slice A1 n1 c1, .slice A2 n2 c2, .slice A3 n3 c3] 37) := ⟨_, rfl⟩
  obtain ⟨hx0, b0⟩ := box_new e0
  have h1 := h1'.up b0
  have h2 := h2'.up b0
  have h3 := h3'.up b0
  clear h1' h2' h3'
  have q0 := hx0.c0
  have q1 := hx0.c1
  have q2 := hx0.c2
  have hb := Rn.rbits_any h1 (by omega)
  rw [e1] at hb
  have Hb := Lib.hid hb
  have hP := fun W A xs (k : Nt W W.heap.size A n1 c1 xs) (e : val 18446744073709551616 xs = P) => rpasses_any k e (by omega)
  have hQ := fun W A xs (k : Nt W W.heap.size A n2 c2 xs) (e : val 18446744073709551616 xs = Q) => rpasses_any k e (by omega)
  rw [hpP] at hP
  rw [hpQ] at hQ
  have HP := Lib.hid hP
  have HQ := Lib.hid hQ
  clear hb hP hQ
  obtain ⟨k, hk⟩ : ∃ k, bl P = k := ⟨_, rfl⟩
  rw [hk] at Hb hb1
  clear hk
  go_enter Tryz.func19, Tryz.ntmps19
  go_wp2_with fail
  rw [← e0]
  clear e0
  refine Hb.out.mono ?_
  rintro e w1 ⟨rfl, b1⟩
  have hx1 := hx0.up b1
  have p0 := hx1.c0
  have p1 := hx1.c1
  have p2 := hx1.c2
  have B1 := b1
  go_wp2_with fail
  refine (HP.out _ _ _ (h1.up B1) e1).mono ?_
  rintro e w2 ⟨rfl, b2⟩
  have B2 := bthen B1 b2
  have hx2 := hx0.up B2
  have r0 := hx2.c0
  have r1 := hx2.c1
  have r2 := hx2.c2
  go_wp2_with fail
  refine (HQ.out _ _ _ (h2.up B2) e2).mono ?_
  rintro e w3 ⟨rfl, b3⟩
  have B3 := bthen B2 b3
  have hx3 := hx0.up B3
  have s0 := hx3.c0
  have s1 := hx3.c1
  have s2 := hx3.c2
  go_wp2_with fail
  have hyd : Bx w3.drew w.heap.size (.slice A1 n1 c1) (.slice A2 n2 c2) (.slice A3 n3 c3) := ⟨hx3.lt, hx3.c0, hx3.c1, hx3.c2⟩
  have bd : Below w3.heap.size w3 w3.drew := (Below.refl _ _).drew
  have B3d := bthen B3 bd
  have z0 := hyd.c0
  have z1 := hyd.c1
  have z2 := hyd.c2
  have h1d := h1.up B3d
  have h3d := h3.up B3d
  go_region_held3 (fun w' => w'.cell? ⟨w.heap.size, 0, none⟩ = some (Value.slice A1 n1 c1) ∧ w'.cell? ⟨w.heap.size, 1, none⟩ = some (Value.slice A2 n2 c2) ∧ w'.cell? ⟨w.heap.size, 2, none⟩ = some (Value.slice A3 n3 c3))
    (first | exact ⟨g6.c0, g6.c1, g6.c2⟩ | exact ⟨g5.c0, g5.c1, g5.c2⟩ | exact ⟨g4.c0, g4.c1, g4.c2⟩ | exact ⟨hyd.c0, hyd.c1, hyd.c2⟩)
    ((first
      | (go_at_call 61; refine (rone_any _).mono ?_; rintro e w4 ⟨A4, n4, c4, x4, rfl, r4⟩
         have g4 := hyd.up r4.bel
         have g40 := g4.c0
         have g41 := g4.c1
         have g42 := g4.c2
         have v4 := r4.is
         have l4 : n4 ≤ 1 := r4.le (by omega))
      | (go_at_call 35; with_reducible refine (rcmp_gt (h3d.up r4.bel) r4.nt (by omega) (by omega) (by rw [e3, v4]; exact hG)).mono ?_; rintro e w5 ⟨rfl, b5⟩
         have g5 := g4.up b5
         have g50 := g5.c0
         have g51 := g5.c1
         have g52 := g5.c2)
      | (go_at_call 35; with_reducible refine (rcmp_lt ((h3d.up r4.bel).up b5) ((h1d.up r4.bel).up b5) (by omega) (by omega) (by rw [e3, e1]; exact hGP)).mono ?_; rintro e w6 ⟨rfl, b6⟩
         have g6 := g5.up b6
         have g60 := g6.c0
         have g61 := g6.c1
         have g62 := g6.c2)))
  all_goals
    have B6 := bthen (bthen (bthen B3d r4.bel) b5) b6
    go_wp2_with fail
    have hyf : Bx w6.drew w.heap.size (.slice A1 n1 c1) (.slice A2 n2 c2) (.slice A3 n3 c3) := ⟨g6.lt, g6.c0, g6.c1, g6.c2⟩
    have bf : Below w6.heap.size w6 w6.drew := (Below.refl _ _).drew
    have B6d := bthen B6 bf
    have y0 := hyf.c0
    have y1 := hyf.c1
    have y2 := hyf.c2
    have h1f := h1.up B6d
    go_region_held3 (fun w' => w'.cell? ⟨w.heap.size, 0, none⟩ = some (Value.slice A1 n1 c1) ∧ w'.cell? ⟨w.heap.size, 1, none⟩ = some (Value.slice A2 n2 c2) ∧ w'.cell? ⟨w.heap.size, 2, none⟩ = some (Value.slice A3 n3 c3))
    (first | exact ⟨g8.c0, g8.c1, g8.c2⟩ | exact ⟨g7.c0, g7.c1, g7.c2⟩ | exact ⟨hyf.c0, hyf.c1, hyf.c2⟩)
    ((first
      | (go_at_call 61; refine (rone_any _).mono ?_; rintro e w7 ⟨A7, n7, c7, x7, rfl, r7⟩
         have g7 := hyf.up r7.bel
         have g70 := g7.c0
         have g71 := g7.c1
         have g72 := g7.c2
         have v7 := r7.is
         have l7 : n7 ≤ 1 := r7.le (by omega))
      | (go_at_call 60; refine (rsub_ok (h1f.up r7.bel) r7.nt (by omega) (by omega) (by rw [e1, v7]; omega)).mono ?_; rintro e w8 ⟨A8, n8, c8, x8, rfl, r8⟩
         rw [e1, v7] at r8
         have v8 := r8.is
         have l8 : n8 ≤ 100 := r8.le (Nat.lt_of_le_of_lt (Nat.sub_le _ _) (by rw [← e1]; exact h1f.below_pow l1))
         have g8 := g7.up r8.bel
         have g80 := g8.c0
         have g81 := g8.c1
         have g82 := g8.c2)))
    all_goals
      have B8 := bthen (bthen B6d r7.bel) r8.bel
      go_wp2_with fail
      refine (rmod_pos r8.nt (h2.up B8) (by omega) (by omega) (by rw [e2]; omega)).mono ?_
      rintro e w9 ⟨A9, n9, c9, x9, rfl, r9⟩
      rw [v8, e2] at r9
      have v9 := r9.is
      have l9 : n9 ≤ 100 := r9.le (Nat.lt_trans (Nat.mod_lt _ (by omega)) (by rw [← e2]; exact h2.below_pow l2))
      have B9 := bthen B8 r9.bel
      have g9 := g8.up r9.bel
      have g90 := g9.c0
      have g91 := g9.c1
      have g92 := g9.c2
      go_wp2_with fail
      refine (rpow_pos (h3.up B9) (h2.up B9) (h1.up B9) (by omega) (by omega) (by omega) (by rw [e1]; omega)).mono ?_
      rintro e w10 ⟨A10, n10, c10, x10, rfl, r10⟩
      rw [e1, e2, e3] at r10
      have v10 := r10.is
      have l10 : n10 ≤ 100 := r10.le (Nat.lt_trans (Nat.mod_lt _ (by omega)) (by rw [← e1]; exact h1.below_pow l1))
      have B10 := bthen B9 r10.bel
      have m9 := r9.nt.up r10.bel
      have hbt := Rn.rbits_any m9 (by omega)
      rw [v9] at hbt
      rw [hM, show bl 0 = 0 by rfl] at hbt
      have Hbt := Lib.hid hbt
      clear hbt
      go_wp2_with fail
      refine Hbt.out.mono ?_
      rintro e w11 ⟨rfl, b11⟩
      have B11 := bthen B10 b11
      go_wp2_with fail
      refine (rone_any _).mono ?_
      rintro e w12 ⟨A12, n12, c12, x12, rfl, r12⟩
      have v12 := r12.is
      have l12 : n12 ≤ 1 := r12.le (by omega)
      have B12' := bthen B11 r12.bel
      go_wp2_with fail
      refine (rcmp_eq ((r10.nt.up b11).up r12.bel) r12.nt (by omega) (by omega) (by rw [v10, v12]; exact hX)).mono ?_
      rintro e w13 ⟨rfl, b13⟩
      have B13 := bthen B12' b13
      go_wp2_with fail
      go_ret
      exact ⟨rfl, bthen b0 B13⟩
end Go.Proofs.YtkhlmcknbangfaaGreatDoor
namespace Go.Proofs.YtkhlmcknbangfaaGreatDoor
open Go.RowKit
set_option linter.unusedVariables false
set_option maxRecDepth 100000

theorem rright_bad {w : World} {v : Value} {P Q G : Nat} (h : Pr w v P Q G) (hR : rightN P Q G = false) :
    Calls Tryz.prog 19 #[v] w fun e w' => e = .returned (.int .i64 60) ∧ Below w.heap.size w w' := by
  rw [← rightR_eq] at hR
  unfold rightR at hR
  rw [decide_eq_false_iff_not] at hR
  rcases Nat.lt_or_ge 1024 (bl P) with h1 | h1
  · exact rright_b1 h h1
  cases h2 : primeN P b12
  · exact rright_b2 h h1 h2
  cases h3 : primeN Q b12
  · exact rright_b3 h h1 h2 h3
  rcases Nat.lt_trichotomy 1 G with h4 | h4 | h4
  · rcases Nat.lt_trichotomy G P with h5 | h5 | h5
    · by_cases h6 : (P - 1) % Q = 0
      · rcases Nat.lt_trichotomy (G ^ Q % P) 1 with h7 | h7 | h7
        · exact rright_b9 h h1 h2 h3 h4 h5 (primeN_two h3) h6 h7
        · exact absurd ⟨h1, h2, h3, h4, h5, h6, h7⟩ hR
        · exact rright_b10 h h1 h2 h3 h4 h5 (primeN_two h3) h6 h7
      · exact rright_b8 h h1 h2 h3 h4 h5 (primeN_two h3) h6
    · exact rright_b7 h h1 h2 h3 h4 h5
    · exact rright_b6 h h1 h2 h3 h4 h5
  · exact rright_b5 h h1 h2 h3 h4.symm
  · exact rright_b4 h h1 h2 h3 h4
theorem rright_ok {w : World} {v : Value} {P Q G : Nat} (h : Pr w v P Q G) (hR : rightN P Q G = true) :
    Calls Tryz.prog 19 #[v] w fun e w' => e = .returned (.int .i64 0) ∧ Below w.heap.size w w' := by
  rw [← rightR_eq] at hR
  unfold rightR at hR
  rw [decide_eq_true_iff] at hR
  obtain ⟨h1, h2, h3, h4, h5, h6, h7⟩ := hR
  exact rright_ok1 h h1 h2 h3 h4 h5 (primeN_two h3) h6 h7
end Go.Proofs.YtkhlmcknbangfaaGreatDoor
