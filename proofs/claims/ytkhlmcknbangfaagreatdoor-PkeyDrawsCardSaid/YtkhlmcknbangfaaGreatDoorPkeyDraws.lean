/- For any bytes, any number of digits and any power the Go function PkeyDraws returns true and leaves its arguments as they were. No condition but that the constants of sha are as they are laid at the start. the document's Draw. the document's Draw of wrong arguments. both Draws: one answer. -/
import Derived.Test.YtkhlmcknbangfaaGreatDoorPr
import Derived.Test.YtkhlmcknbangfaaGreatDoorPs
import Derived.Sort.CutIn
import Derived.Test.YtkhlmcknbangfaaGreatDoorFa
import Derived.Test.YtkhlmcknbangfaaGreatDoorTie

namespace Go.Proofs.YtkhlmcknbangfaaGreatDoor
open Go.RowKit
set_option linter.unusedVariables false
set_option linter.unusedSimpArgs false
set_option maxRecDepth 100000
theorem results_cell2 {w : World} {T : Array Value} {g : Nat} {v1 v2 v3 : Value} {us er : Int} (t6 : T[6]?.getD undef = .pointer (some ⟨g, 0, none⟩)) (t7 : T[7]?.getD undef = .int .i64 us) (t8 : T[8]?.getD undef = .int .i64 er)
    (h1 : w.heap[g]? = some (.cells #[v1, v2, v3] 26 (0, 0))) : (results Tryz.f12 T).run Tryz.prog w = .ok (.tuple #[.agg #[v1, v2, v3], .int .i64 us, .int .i64 er]) w := by
  obtain ⟨a1, a2, a3, _, _, _⟩ := three_cells h1
  simp [results, Tryz.results12, go_sem, t6, t7, t8, asAddr, a1, a2, a3]
  try simp [Result.andThen, a1, a2, a3]
set_option maxHeartbeats 8000000 in
theorem rdraw_any {w : World} {A : Option Addr} {n c d e q sz : Nat} {bs : List Nat} (h : Nb w w.heap.size A n c bs) (hn : n ≤ 1099511627776) (hd : 8 ≤ d) (hd2 : d ≤ 512) (hq : q ≤ 7) (hsz : d + q = 8 * sz) (he : e < 18446744073709551616) (hok1 : e % 2 = 1) (hok2 : 3 ≤ e) (kb : Nat → Nat → Bool) (hkb : ∀ p q, MkB (kb p q) p q e) :
    Calls Tryz.prog 12 #[.slice A n c, .int .i64 ((2 * d : Nat) : Int), .int .u64 (e : Int)] w (DrawIs kb (cN bs sz d) (n / sz) e sz w) := by
  have Hh := Lib.hid h
  have g1 : ((2 * d : Nat) : Int) % 2 = 0 := by omega
  have g2 : ¬ (((2 * d : Nat) : Int) < 16) := by omega
  have g3 : ¬ ((1024 : Int) < ((2 * d : Nat) : Int)) := by omega
  have g4 : ((2 * d : Nat) : Int) / 2 = (d : Int) := by omega
  have g5 : (((d : Int) + 7) / 8) = (sz : Int) := by omega
  have g6 : (e : Int) % 2 = 1 := by omega
  have g7 : ¬ ((e : Int) < 3) := by omega
  have hr := h.rooms
  have hsz1 : sz ≤ 65 := by omega
  have hsz0 : 0 < sz := by omega
  obtain ⟨C, hC⟩ : ∃ C, C = cN bs sz d := ⟨_, rfl⟩
  obtain ⟨T, hT⟩ : ∃ T, T = n / sz := ⟨_, rfl⟩
  have HC := Lib.hid hC
  have HT := Lib.hid hT
  rw [← hC, ← hT]
  obtain ⟨w0, e0⟩ : ∃ w0, w0 = w.alloc (.cells #[Value.slice none 0 0, .slice none 0 0, .slice none 0 0] 26) := ⟨_, rfl⟩
  have hx0 : w0.heap[w.heap.size]? = some (.cells #[Value.slice none 0 0, .slice none 0 0, .slice none 0 0] 26 (0, 0)) := e0 ▸ heap_alloc_new w _
  have hs0 : w0.heap.size = w.heap.size + 1 := by rw [e0]; simp
  have b0 : Below w.heap.size w w0 := e0 ▸ (Below.refl _ w).alloc (Nat.le_refl _) _
  have Hx0 := Lib.hid hx0
  have HB0 := Lib.hid b0
  clear h hC hT hx0 b0
  generalize ((2 * d : Nat) : Int) = bits at *
  go_enter Tryz.func12, Tryz.ntmps12
  go_upto_region 1 with fail
  rw [← e0]
  clear e0
  go_wp2_with fail
  go_loopw [10, 11] (fun p i wr => ∃ (k a : Nat) (Ap : Option Addr) (np cp : Nat) (xp : List Nat), k ≤ T ∧ a ≤ n ∧ i = .int .i64 (a : Int) ∧ p = .slice Ap np cp ∧ Hid (a = k * sz) ∧ Hid (Nt wr wr.heap.size Ap np cp xp ∧ Trm xp ∧ val 18446744073709551616 xp = fstN C e k) ∧ Hid (∀ i, i < k → ends C e i = false) ∧ Hid (Below w0.heap.size w0 wr)) (fun _ i _ => n - (intOf i).toNat)
  case atStart => exact ⟨0, 0, none, 0, 0, [], Nat.zero_le _, Nat.zero_le _, rfl, rfl, Lib.hid (by simp), Lib.hid ⟨nt_nil _ _, trm_nil, rfl⟩, Lib.hid (fun i hi => absurd hi (Nat.not_lt_zero i)), Lib.hid (Below.refl _ _)⟩
  case round =>
    obtain ⟨k, a, Ap, np, cp, xp, hk, han, rfl, rfl, Ha, HP, HE, HB⟩ := hrel
    by_cases hkT : k < T
    · have f1 : a + sz ≤ n := by
        have h6 : k + 1 ≤ n / sz := by have := HT.out; omega
        have h5 := Nat.le_trans (Nat.mul_le_mul_right sz h6) (Nat.div_mul_le_self n sz)
        rw [Nat.add_mul, Nat.one_mul, ← Ha.out] at h5
        exact h5
      have hn0 : 0 < n := by omega
      have hcap := Hh.out.cap
      have hW := Hh.out.up (bthen HB0.out HB.out)
      obtain ⟨b, off, rfl, hbl, hcl⟩ := hW.cell hn0
      have hsub := hW.cut_ rfl a sz f1 hsz0 hbl hcl
      have HCa := Lib.hid (rcand_any hsub (by omega) hq hsz hd)
      have HCe := Lib.hid (show candV (nb ((bs.drop a).take sz)) d 2 = C k by rw [HC.out, Ha.out]; rfl)
      have e9 : ((a : Int) + (sz : Int)).toNat - a = sz := by omega
      have hca : ¬ c = a := by omega
      have hC8 := cN_lt bs sz d hd hd2 k
      rw [← HC.out] at hC8
      have hp8 : fstN C e k < 18446744073709551616 ^ 8 := fst_lt (by decide +kernel) (fun j => by rw [HC.out]; exact (cN_lt bs sz d hd hd2 j).1) k
      have HC8 := Lib.hid hC8
      have HP8 := Lib.hid hp8
      have lp : np ≤ 8 := len_le HP.out.2.1 HP.out.1.len (by rw [HP.out.2.2]; exact hp8)
      clear hW hbl hcl hsub hC8 hp8
      go_wp2_with fail
      refine HCa.out.mono ?_
      rintro r w4 ⟨A1, n1, c1, x1, rfl, r1⟩
      have u1 : val 18446744073709551616 x1 = C k := r1.is.trans HCe.out
      have l1 : n1 ≤ 8 := len_le r1.trm r1.nt.len (by rw [u1]; exact HC8.out.1)
      have M1 := Lib.hid r1.nt
      have T1 := Lib.hid r1.trm
      have U1 := Lib.hid u1
      have HB4 := Lib.hid r1.bel
      clear r1 u1
      have HGd := Lib.hid (fun (W : World) (bb : Below w4.heap.size w4 W) => good_any (e := e) (M1.out.up bb) U1.out (by omega) HC8.out.2 he)
      have hgood : goodN e (C k) = (decide (Nat.gcd e (C k - 1) = 1) && primeN (C k) b12) := rfl
      rw [← hgood] at HGd
      clear hgood
      by_cases hp0 : fstN C e k = 0
      · have hn5 : np = 0 := Nat.le_zero.1 (len_le (k := 0) HP.out.2.1 HP.out.1.len (by rw [HP.out.2.2, hp0]; decide))
        subst hn5
        go_wp2_with fail
        refine (HGd.out _ (Below.refl _ _)).mono ?_
        rintro r w5 ⟨rfl, b5⟩
        have HWX := Lib.hid (bthen HB4.out b5)
        have HM5 := Lib.hid (M1.out.up b5)
        clear b5
        cases hgd : goodN e (C k) with
        | false =>
          have HSk := Lib.hid (fst_skip (C := C) (e := e) (k := k) (by unfold skips; rw [hgd]; rfl))
          clear hgd
          go_wp2_with fail
          go_roundw
          case rel => exact ⟨k + 1, a + sz, Ap, 0, cp, xp, hkT, f1, by simp, rfl, Lib.hid (by rw [Ha.out, Nat.add_mul, Nat.one_mul]), Lib.hid ⟨HP.out.1.up HWX.out, HP.out.2.1, by rw [HSk.out.1]; exact HP.out.2.2⟩, Lib.hid (ends_snoc HE.out HSk.out.2), Lib.hid (bthen HB.out HWX.out)⟩
          case measure => simp [intOf]; omega
        | true =>
          have hne : ¬ fstN C e k = C k := fun h => by have := HC8.out.2; omega
          have Ht := Lib.hid (fst_take (C := C) (e := e) (k := k) (by unfold skips; rw [hgd, decide_eq_false hne]; rfl) hp0)
          clear hgd hne hp0
          go_wp2_with fail
          refine ⟨⟨k + 1, a + sz, A1, n1, c1, x1, hkT, f1, by simp, rfl, Lib.hid (by rw [Ha.out, Nat.add_mul, Nat.one_mul]), Lib.hid ⟨HM5.out, T1.out, by rw [Ht.out.1]; exact U1.out⟩, Lib.hid (ends_snoc HE.out Ht.out.2), Lib.hid (bthen HB.out HWX.out)⟩, by simp [intOf]; omega⟩
      · have hn5 : np ≠ 0 := fun h => hp0 (by
          rw [← HP.out.2.2, List.length_eq_zero_iff.1 (HP.out.1.len.trans h)]
          rfl)
        by_cases hpq : fstN C e k = C k
        · have HSk := Lib.hid (fst_skip (C := C) (e := e) (k := k) (by unfold skips; rw [decide_eq_true hpq, Bool.or_true]))
          go_wp2_with fail
          refine (rcmp_eq M1.out (HP.out.1.up HB4.out) (by omega) (by omega) (by rw [U1.out, HP.out.2.2, hpq])).mono ?_
          rintro r w5 ⟨rfl, b5⟩
          have HWX := Lib.hid (bthen HB4.out b5)
          clear b5
          go_wp2_with fail
          go_roundw
          case rel => exact ⟨k + 1, a + sz, Ap, np, cp, xp, hkT, f1, by simp, rfl, Lib.hid (by rw [Ha.out, Nat.add_mul, Nat.one_mul]), Lib.hid ⟨HP.out.1.up HWX.out, HP.out.2.1, by rw [HSk.out.1]; exact HP.out.2.2⟩, Lib.hid (ends_snoc HE.out HSk.out.2), Lib.hid (bthen HB.out HWX.out)⟩
          case measure => simp [intOf]; omega
        · have hcmp : ∃ z : Int, z ≠ 0 ∧ Calls Tryz.prog 35 #[.slice A1 n1 c1, .slice Ap np cp] w4 fun r w' => r = .returned (.int .i64 z) ∧ Below w4.heap.size w4 w' := by
            rcases Nat.lt_or_gt_of_ne hpq with h | h
            · exact ⟨_, by decide, rcmp_gt M1.out (HP.out.1.up HB4.out) (by omega) (by omega) (by rw [U1.out, HP.out.2.2]; exact h)⟩
            · exact ⟨_, by decide, rcmp_lt M1.out (HP.out.1.up HB4.out) (by omega) (by omega) (by rw [U1.out, HP.out.2.2]; exact h)⟩
          obtain ⟨z, hz, hc35⟩ := hcmp
          have hz2 : (z == 0) = false := by simpa using hz
          have Hc35 := Lib.hid hc35
          clear hc35
          go_wp2_with fail
          refine Hc35.out.mono ?_
          rintro r w5 ⟨rfl, b5⟩
          have HB5 := Lib.hid b5
          clear b5
          go_wp2_with fail
          refine (HGd.out _ HB5.out).mono ?_
          rintro r w6 ⟨rfl, b6⟩
          have HWX := Lib.hid (bthen (bthen HB4.out HB5.out) b6)
          have HM6 := Lib.hid (M1.out.up (bthen HB5.out b6))
          clear b6
          cases hgd : goodN e (C k) with
          | false =>
            have HSk := Lib.hid (fst_skip (C := C) (e := e) (k := k) (by unfold skips; rw [hgd]; rfl))
            clear hgd hpq
            go_wp2_with fail
            go_roundw
            case rel => exact ⟨k + 1, a + sz, Ap, np, cp, xp, hkT, f1, by simp, rfl, Lib.hid (by rw [Ha.out, Nat.add_mul, Nat.one_mul]), Lib.hid ⟨HP.out.1.up HWX.out, HP.out.2.1, by rw [HSk.out.1]; exact HP.out.2.2⟩, Lib.hid (ends_snoc HE.out HSk.out.2), Lib.hid (bthen HB.out HWX.out)⟩
            case measure => simp [intOf]; omega
          | true =>
            have Hen := Lib.hid (fst_ends (C := C) (e := e) (k := k) (by unfold skips; rw [hgd, decide_eq_false hpq]; rfl) hp0)
            have Hmk := Lib.hid ((hkb (fstN C e k) (C k)) (HP.out.1.up HWX.out) HM6.out HP.out.2.2 U1.out (by omega) (by omega)).2
            clear hgd hpq hp0
            go_wp2_with fail
            refine Hmk.out.mono ?_
            rintro r w7 ⟨B1, e1, f1', y1, B2, e2, f2', y2, B3, e3, f3', y3, N, E, D, er, rfl, a1, a2, a3, a4, a5, a6, a7, a8, a9, b7, hkv⟩
            obtain ⟨w8, e8⟩ : ∃ w8, w8 = w7.alloc (.cells #[Value.slice B1 e1 f1', .slice B2 e2 f2', .slice B3 e3 f3'] 26) := ⟨_, rfl⟩
            obtain ⟨hx8, b8⟩ := box_new e8
            have HB8 := Lib.hid (bthen HB.out (bthen (bthen HWX.out b7) b8))
            have hx := (HB8.out.block w.heap.size (by omega)).trans Hx0.out
            obtain ⟨z0, z1, z2, z3, z4, z5⟩ := three_cells hx
            have Hx := Lib.hid hx
            have p0 := hx8.c0
            have p1 := hx8.c1
            have p2 := hx8.c2
            have A1' := Lib.hid (a1.up b8)
            have A3' := Lib.hid (a3.up b8)
            have A5' := Lib.hid (a5.up b8)
            have HA := Lib.hid (And.intro a2 (And.intro a4 (And.intro a6 (And.intro a7 (And.intro a8 a9)))))
            clear a1 a2 a3 a4 a5 a6 a7 a8 a9 b7 b8 hx
            subst e8
            cases hb : kb (fstN C e k) (C k) with
            | false =>
              rw [hb] at hkv
              have her := (hkv.2 rfl).1
              subst her
              clear hkv
              go_wp2_with fail
              have hf := three_fin (v1 := .slice none 0 0) (v2 := .slice none 0 0) (v3 := .slice none 0 0) Hx.out
              refine bodyPost_ret (results_cell2 (g := w.heap.size) rfl rfl rfl hf) rfl ?_
              refine ⟨.inl ⟨k, hkT, HE.out, Hen.out, _, _, _, _, _, rfl, ?_⟩, (((bthen HB0.out HB8.out).setCell (p := ⟨w.heap.size, 0, none⟩) (by simp) _).setCell (p := ⟨w.heap.size, 1, none⟩) (by simp) _).setCell (p := ⟨w.heap.size, 2, none⟩) (by simp) _⟩
              rw [hb]
              exact ⟨⟨none, 0, 0, [], none, 0, 0, [], none, 0, 0, [], 0, 0, 0, rfl, rfl, rfl, nt_nil _ _, rfl, nt_nil _ _, rfl, nt_nil _ _, rfl, trm_nil, trm_nil, trm_nil, ⟨fun h => (by cases h), fun _ => ⟨rfl, rfl, rfl, rfl⟩⟩, rfl⟩⟩
            | true =>
              rw [hb] at hkv
              have her := (hkv.1 rfl).1
              subst her
              have HKv := Lib.hid hkv
              clear hkv
              go_wp2_with fail
              have hf := three_fin (v1 := .slice B1 e1 f1') (v2 := .slice B2 e2 f2') (v3 := .slice B3 e3 f3') Hx.out
              refine bodyPost_ret (results_cell2 (g := w.heap.size) rfl rfl rfl hf) rfl ?_
              refine ⟨.inl ⟨k, hkT, HE.out, Hen.out, _, _, _, _, _, rfl, ?_⟩, (((bthen HB0.out HB8.out).setCell (p := ⟨w.heap.size, 0, none⟩) (by simp) _).setCell (p := ⟨w.heap.size, 1, none⟩) (by simp) _).setCell (p := ⟨w.heap.size, 2, none⟩) (by simp) _⟩
              rw [hb]
              obtain ⟨i2, i4, i6, i7, i8, i9⟩ := HA.out
              have nb := fun (j : Nat) (x : Int) => (show (#[Value.slice none 0 0, .slice none 0 0, .slice none 0 0] : Array Value)[j]? ≠ some (.int .u64 x) from fun hj => by rcases j with _ | _ | _ | j <;> simp at hj)
              have m1 := ((A1'.out.away (k := 0) (v := .slice B1 e1 f1') (A1'.out.not_box Hx.out nb)).away (k := 1) (v := .slice B2 e2 f2') (A1'.out.not_box Hx.out nb)).away (k := 2) (v := .slice B3 e3 f3') (A1'.out.not_box Hx.out nb)
              have m2 := ((A3'.out.away (k := 0) (v := .slice B1 e1 f1') (A3'.out.not_box Hx.out nb)).away (k := 1) (v := .slice B2 e2 f2') (A3'.out.not_box Hx.out nb)).away (k := 2) (v := .slice B3 e3 f3') (A3'.out.not_box Hx.out nb)
              have m3 := ((A5'.out.away (k := 0) (v := .slice B1 e1 f1') (A5'.out.not_box Hx.out nb)).away (k := 1) (v := .slice B2 e2 f2') (A5'.out.not_box Hx.out nb)).away (k := 2) (v := .slice B3 e3 f3') (A5'.out.not_box Hx.out nb)
              exact ⟨⟨B1, e1, f1', y1, B2, e2, f2', y2, B3, e3, f3', y3, N, E, D, rfl, rfl, rfl, by simpa using m1, i2, by simpa using m2, i4, by simpa using m3, i6, i7, i8, i9, HKv.out, by rw [Ha.out, if_pos rfl, Nat.add_mul, Nat.one_mul]; simp⟩⟩
    · have f2 : n < a + sz := by
        have h7 : k = n / sz := by have := HT.out; omega
        have h5 := Nat.div_add_mod n sz
        have h6 := Nat.mod_lt n hsz0
        rw [← h7, Nat.mul_comm, ← Ha.out] at h5
        omega
      have hkT2 : k = T := by omega
      have hx := (HB.out.block w.heap.size (by omega)).trans Hx0.out
      obtain ⟨q0, q1, q2, q3, q4, q5⟩ := three_cells hx
      have Hx := Lib.hid hx
      clear hx
      go_wp2_with fail
      have hf := three_fin (v1 := .slice none 0 0) (v2 := .slice none 0 0) (v3 := .slice none 0 0) Hx.out
      refine bodyPost_ret (results_cell2 (g := w.heap.size) rfl rfl rfl hf) rfl ?_
      exact ⟨.inr ⟨by rw [← hkT2]; exact HE.out, rfl⟩, (((bthen HB0.out HB.out).setCell (p := ⟨w.heap.size, 0, none⟩) (by simp) (.slice none 0 0)).setCell (p := ⟨w.heap.size, 1, none⟩) (by simp) (.slice none 0 0)).setCell (p := ⟨w.heap.size, 2, none⟩) (by simp) (.slice none 0 0)⟩

end Go.Proofs.YtkhlmcknbangfaaGreatDoor
namespace Go.Proofs.YtkhlmcknbangfaaGreatDoor
open Go.RowKit
set_option linter.unusedVariables false
set_option linter.unusedSimpArgs false
set_option maxRecDepth 100000
set_option maxHeartbeats 4000000 in
theorem rdraw_bad {w : World} {A : Option Addr} {n c e : Nat} (bits : Int) (he : e < 18446744073709551616) (h : Int.tmod bits 2 ≠ 0 ∨ bits < 16 ∨ 1024 < bits ∨ e % 2 ≠ 1 ∨ e < 3) :
    Calls Tryz.prog 12 #[.slice A n c, .int .i64 bits, .int .u64 (e : Int)] w (DrawBad w) := by
  obtain ⟨w0, e0⟩ : ∃ w0, w0 = w.alloc (.cells #[Value.slice none 0 0, .slice none 0 0, .slice none 0 0] 26) := ⟨_, rfl⟩
  have hx0 : w0.heap[w.heap.size]? = some (.cells #[Value.slice none 0 0, .slice none 0 0, .slice none 0 0] 26 (0, 0)) := e0 ▸ heap_alloc_new w _
  have b0 : Below w.heap.size w w0 := e0 ▸ (Below.refl _ w).alloc (Nat.le_refl _) _
  have Hx0 := Lib.hid hx0
  have HB0 := Lib.hid b0
  clear hx0 b0
  go_enter Tryz.func12, Tryz.ntmps12
  go_upto_region 1 with fail
  rw [← e0]
  clear e0
  by_cases c1 : Int.tmod bits 2 = 0
  · by_cases c2 : bits < 16
    · clear h
      obtain ⟨q0, q1, q2, q3, q4, q5⟩ := three_cells Hx0.out
      go_wp2_with fail
      have hf := three_fin (v1 := .slice none 0 0) (v2 := .slice none 0 0) (v3 := .slice none 0 0) Hx0.out
      refine bodyPost_ret (results_cell2 (g := w.heap.size) rfl rfl rfl hf) rfl ?_
      exact ⟨rfl, ((HB0.out.setCell (p := ⟨w.heap.size, 0, none⟩) (by simp) _).setCell (p := ⟨w.heap.size, 1, none⟩) (by simp) _).setCell (p := ⟨w.heap.size, 2, none⟩) (by simp) _⟩
    · by_cases c3 : 1024 < bits
      · clear h
        obtain ⟨q0, q1, q2, q3, q4, q5⟩ := three_cells Hx0.out
        go_wp2_with fail
        have hf := three_fin (v1 := .slice none 0 0) (v2 := .slice none 0 0) (v3 := .slice none 0 0) Hx0.out
        refine bodyPost_ret (results_cell2 (g := w.heap.size) rfl rfl rfl hf) rfl ?_
        exact ⟨rfl, ((HB0.out.setCell (p := ⟨w.heap.size, 0, none⟩) (by simp) _).setCell (p := ⟨w.heap.size, 1, none⟩) (by simp) _).setCell (p := ⟨w.heap.size, 2, none⟩) (by simp) _⟩
      · by_cases c4 : e % 2 = 1
        · have c5 : (e : Int) < 3 := by
            rcases h with h | h | h | h | h
            · exact absurd c1 h
            · exact absurd h c2
            · exact absurd h c3
            · exact absurd c4 h
            · omega
          have c4' : (e : Int) % 2 = 1 := by omega
          clear h c4
          obtain ⟨q0, q1, q2, q3, q4, q5⟩ := three_cells Hx0.out
          go_wp2_with fail
          have hf := three_fin (v1 := .slice none 0 0) (v2 := .slice none 0 0) (v3 := .slice none 0 0) Hx0.out
          refine bodyPost_ret (results_cell2 (g := w.heap.size) rfl rfl rfl hf) rfl ?_
          exact ⟨rfl, ((HB0.out.setCell (p := ⟨w.heap.size, 0, none⟩) (by simp) _).setCell (p := ⟨w.heap.size, 1, none⟩) (by simp) _).setCell (p := ⟨w.heap.size, 2, none⟩) (by simp) _⟩
        · have c4' : (e : Int) % 2 = 0 := by omega
          clear h c4
          obtain ⟨q0, q1, q2, q3, q4, q5⟩ := three_cells Hx0.out
          go_wp2_with fail
          have hf := three_fin (v1 := .slice none 0 0) (v2 := .slice none 0 0) (v3 := .slice none 0 0) Hx0.out
          refine bodyPost_ret (results_cell2 (g := w.heap.size) rfl rfl rfl hf) rfl ?_
          exact ⟨rfl, ((HB0.out.setCell (p := ⟨w.heap.size, 0, none⟩) (by simp) _).setCell (p := ⟨w.heap.size, 1, none⟩) (by simp) _).setCell (p := ⟨w.heap.size, 2, none⟩) (by simp) _⟩
  · have c1' : (Int.tmod bits 2 != 0) = true := by simpa using c1
    clear h c1
    obtain ⟨q0, q1, q2, q3, q4, q5⟩ := three_cells Hx0.out
    go_wp2_with fail
    have hf := three_fin (v1 := .slice none 0 0) (v2 := .slice none 0 0) (v3 := .slice none 0 0) Hx0.out
    refine bodyPost_ret (results_cell2 (g := w.heap.size) rfl rfl rfl hf) rfl ?_
    exact ⟨rfl, ((HB0.out.setCell (p := ⟨w.heap.size, 0, none⟩) (by simp) _).setCell (p := ⟨w.heap.size, 1, none⟩) (by simp) _).setCell (p := ⟨w.heap.size, 2, none⟩) (by simp) _⟩
end Go.Proofs.YtkhlmcknbangfaaGreatDoor
namespace Go.Proofs.YtkhlmcknbangfaaGreatDoor
open Go.RowKit
set_option linter.unusedVariables false
set_option linter.unusedSimpArgs false
set_option maxRecDepth 100000
/-- a key of these limbs, how many bytes were used, an error -/
def Out (r : Ending) (W : World) (us er : Int) (x1 x2 x3 : List Nat) : Prop := ∃ A1 n1 c1 A2 n2 c2 A3 n3 c3, r = .returned (.tuple #[.agg #[.slice A1 n1 c1, .slice A2 n2 c2, .slice A3 n3 c3], .int .i64 us, .int .i64 er]) ∧
  Nt W W.heap.size A1 n1 c1 x1 ∧ Nt W W.heap.size A2 n2 c2 x2 ∧ Nt W W.heap.size A3 n3 c3 x3
theorem Out.none (W : World) (us er : Int) : Out (.returned (.tuple #[.agg #[.slice none 0 0, .slice none 0 0, .slice none 0 0], .int .i64 us, .int .i64 er])) W us er [] [] [] :=
  ⟨_, _, _, _, _, _, _, _, _, rfl, nt_nil _ _, nt_nil _ _, nt_nil _ _⟩
theorem DrawIs.spec_of {kb : Nat → Nat → Bool} {C : Nat → Nat} {T e sz : Nat} {w w' : World} {r : Ending} (h : DrawIs kb C T e sz w r w') :
    ∃ us er x1 x2 x3, ∀ {w w' : World} {r : Ending}, DrawIs kb C T e sz w r w' → Out r w' us er x1 x2 x3 := by
  rcases h.1 with ⟨k, hk, h1, h2, v1, v2, v3, us, er, rfl, hkd⟩ | ⟨h1, rfl⟩
  · obtain ⟨A1, n1, c1, x1, A2, n2, c2, x2, A3, n3, c3, x3, M, E, D, rfl, rfl, rfl, a1, a2, a3, a4, a5, a6, t1, t2, t3, kv, hus⟩ := hkd.ex
    refine ⟨us, er, x1, x2, x3, fun g => ?_⟩
    rcases g.1 with ⟨k', hk', g1, g2, u1, u2, u3, us', er', rfl, gkd⟩ | ⟨g1, rfl⟩
    · have e : k' = k := by
        rcases Nat.lt_trichotomy k' k with q | q | q
        · rw [h1 _ q] at g2; cases g2
        · exact q
        · rw [g1 _ q] at h2; cases h2
      subst e
      obtain ⟨B1, m1, d1, y1, B2, m2, d2, y2, B3, m3, d3, y3, M', E', D', rfl, rfl, rfl, b1, b2, b3, b4, b5, b6, s1, s2, s3, kv', hus'⟩ := gkd.ex
      obtain ⟨e1, e2, e3, e4⟩ := kv'.same kv
      subst e1 e2 e3 e4
      have f1 : y1 = x1 := trm_same s1 t1 b1.lim a1.lim (b2.trans a2.symm)
      have f2 : y2 = x2 := trm_same s2 t2 b3.lim a3.lim (b4.trans a4.symm)
      have f3 : y3 = x3 := trm_same s3 t3 b5.lim a5.lim (b6.trans a6.symm)
      subst f1 f2 f3
      rw [hus'.trans hus.symm]
      exact ⟨_, _, _, _, _, _, _, _, _, rfl, b1, b3, b5⟩
    · rw [g1 k hk] at h2; cases h2
  · refine ⟨0, 52, [], [], [], fun g => ?_⟩
    rcases g.1 with ⟨k', hk', g1, g2, _⟩ | ⟨g1, rfl⟩
    · rw [h1 _ hk'] at g2; cases g2
    · exact Out.none _ _ _
theorem DrawIs.spec (kb : Nat → Nat → Bool) (C : Nat → Nat) (T e sz : Nat) : ∃ us er x1 x2 x3, ∀ {w w' : World} {r : Ending}, DrawIs kb C T e sz w r w' → Out r w' us er x1 x2 x3 := by
  by_cases h : ∃ w r w', DrawIs kb C T e sz w r w'
  · obtain ⟨w, r, w', h⟩ := h
    exact h.spec_of
  · exact ⟨0, 0, [], [], [], fun g => absurd ⟨_, _, _, g⟩ h⟩
def OutB (us er : Int) (x1 x2 x3 : List Nat) (w : World) (r : Ending) (w' : World) : Prop := Out r w' us er x1 x2 x3 ∧ Below w.heap.size w w'
theorem draw_both {w : World} {A : Option Addr} {n c e : Nat} {bs : List Nat} (h : Nb w w.heap.size A n c bs) (hn : n ≤ 200) (bits : Int) (he : e < 18446744073709551616) :
    ∃ us er x1 x2 x3, Calls Tryz.prog 11 #[.slice A n c, .int .i64 bits, .int .u64 (e : Int)] w (OutB us er x1 x2 x3 w) ∧
      ∀ W, Below w.heap.size w W → Calls Tryz.prog 12 #[.slice A n c, .int .i64 bits, .int .u64 (e : Int)] W (OutB us er x1 x2 x3 W) := by
  by_cases g : Int.tmod bits 2 ≠ 0 ∨ bits < 16 ∨ 1024 < bits ∨ e % 2 ≠ 1 ∨ e < 3
  · have bad : ∀ {W W' : World} {r : Ending}, DrawBad W r W' → OutB 0 1 [] [] [] W r W' := fun hb => ⟨hb.1 ▸ Out.none _ _ _, hb.2⟩
    refine ⟨0, 1, [], [], [], (draw_bad bits he ?_).mono fun _ _ => bad, fun W _ => (rdraw_bad bits he g).mono fun _ _ => bad⟩
    rcases g with g | g | g | g | g
    · exact .inl g
    · exact .inr (.inl g)
    · exact .inr (.inr (.inl g))
    · exact .inr (.inr (.inr (by rw [decide_eq_false g, Bool.false_and])))
    · exact .inr (.inr (.inr (by rw [decide_eq_false (show ¬ 3 ≤ e by omega), Bool.and_false])))
  · have k1 : Int.tmod bits 2 = 0 := Classical.byContradiction fun h => g (.inl h)
    have k2 : ¬ bits < 16 := fun h => g (.inr (.inl h))
    have k3 : ¬ 1024 < bits := fun h => g (.inr (.inr (.inl h)))
    have k4 : e % 2 = 1 := Classical.byContradiction fun h => g (.inr (.inr (.inr (.inl h))))
    have k5 : 3 ≤ e := Nat.le_of_not_lt fun h => g (.inr (.inr (.inr (.inr h))))
    rw [Int.tmod_eq_emod_of_nonneg (by omega)] at k1
    obtain ⟨d, rfl⟩ : ∃ d : Nat, bits = ((2 * d : Nat) : Int) := ⟨(bits / 2).toNat, by omega⟩
    have hd : 8 ≤ d := by omega
    have hd2 : d ≤ 512 := by omega
    obtain ⟨sz, hsz⟩ : ∃ sz, sz = (d + 7) / 8 := ⟨_, rfl⟩
    obtain ⟨q, hq⟩ : ∃ q, q = 8 * sz - d := ⟨_, rfl⟩
    have hq7 : q ≤ 7 := by omega
    have hdq : d + q = 8 * sz := by omega
    have hkb : ∀ p q, MkB (Classical.choose (make_both p q e he)) p q e := fun p q => by
      intro w Ap Aq np cp nq cq xp xq hp hq ep eq lp lq
      exact Classical.choose_spec (make_both p q e he) hp hq ep eq lp lq
    obtain ⟨us, er, x1, x2, x3, hs⟩ := DrawIs.spec (fun p q => Classical.choose (make_both p q e he)) (cN bs sz d) (n / sz) e sz
    refine ⟨us, er, x1, x2, x3, (draw_any h (by omega) hd hd2 hq7 hdq he (by rw [decide_eq_true k4, decide_eq_true k5]; rfl) _ hkb).mono fun _ _ g => ⟨hs g, g.2⟩, fun W b => (rdraw_any (h.up b) (by omega) hd hd2 hq7 hdq he k4 k5 _ hkb).mono fun _ _ g => ⟨hs g, g.2⟩⟩
end Go.Proofs.YtkhlmcknbangfaaGreatDoor
namespace Go.Proofs.YtkhlmcknbangfaaGreatDoor.pkeyDrawsP
open Go.ChangeShapes Go.WideShapes Go.ChangeAt Go.RowKit
set_option linter.unusedVariables false
set_option maxRecDepth 100000

set_option maxHeartbeats 4000000 in
theorem law_any {w : World} (hk : Sh.Ks w) {A0 : Option Addr} {n0 c0 : Nat} {x0 : List Nat} (h0 : Nb w w.heap.size A0 n0 c0 x0) (bits : Int) (hbits : (Lit.int .i64 bits).wf = true) (a : Int) (ha : (Lit.int .u64 a).wf = true) :
    Calls Tryz.prog 4 #[.slice A0 n0 c0, .int .i64 bits, .int .u64 a] w (Yes w) := by
  obtain ⟨e, rfl, he⟩ : ∃ e : Nat, a = (e : Int) ∧ e < 18446744073709551616 := by
    simp [Lit.wf, IntKind.min, IntKind.max, IntKind.signed, IntKind.bits] at ha
    exact ⟨a.toNat, by omega, by omega⟩
  have HA := Lib.hid alive05_any
  clear hbits
  by_cases g0 : 200 < n0
  · have k0 : 200 < (n0 : Int) := by omega
    clear g0 h0
    go_enter Tryz.func4, Tryz.ntmps4
    go_wp2_with fail
    refine (HA.out _).mono ?_
    rintro r w1 ⟨rfl, b1⟩
    go_wp2_with fail
    go_ret
    exact ⟨rfl, b1⟩
  have k0 : (200 < (n0 : Int)) = False := by simp only [eq_iff_iff, iff_false]; omega
  by_cases g1 : 96 < bits ∧ bits ≤ 1024
  · obtain ⟨k1, k2⟩ := g1
    clear g0 h0
    go_enter Tryz.func4, Tryz.ntmps4
    go_wp2_with fail
    refine (HA.out _).mono ?_
    rintro r w1 ⟨rfl, b1⟩
    go_wp2_with fail
    go_ret
    exact ⟨rfl, b1⟩
  obtain ⟨us, er, x1, x2, x3, ho, hr⟩ := draw_both (e := e) h0 (by omega) bits he
  have HO := Lib.hid ho
  have HR := Lib.hid hr
  clear ho hr h0 g0
  by_cases g2 : 96 < bits
  · have g3 : ¬ bits ≤ 1024 := fun h => g1 ⟨g2, h⟩
    clear g1
    go_enter Tryz.func4, Tryz.ntmps4
    go_wp2_with fail
    refine HO.out.mono ?_
    rintro r w1 ⟨⟨A1, m1, d1, A2, m2, d2, A3, m3, d3, rfl, t1, t2, t3⟩, b1⟩
    obtain ⟨w2, e2⟩ : ∃ w2, w2 = w1.alloc (.cells #[Value.slice A1 m1 d1, .slice A2 m2 d2, .slice A3 m3 d3] 26) := ⟨_, rfl⟩
    obtain ⟨hx2, b2⟩ := box_new e2
    have B2 := bthen b1 b2
    go_wp2_with fail
    rw [← e2]
    clear e2
    refine (HR.out _ B2).mono ?_
    rintro r w3 ⟨⟨B1, m4, d4, B2', m5, d5, B3, m6, d6, rfl, u1, u2, u3⟩, b3⟩
    obtain ⟨w4, e4⟩ : ∃ w4, w4 = w3.alloc (.cells #[Value.slice B1 m4 d4, .slice B2' m5 d5, .slice B3 m6 d6] 26) := ⟨_, rfl⟩
    obtain ⟨hy4, b4⟩ := box_new e4
    have B3' := bthen B2 b3
    have B4 := bthen B3' b4
    have b34 := bthen b3 b4
    go_wp2_with fail
    rw [← e4]
    clear e4
    refine (HA.out _).mono ?_
    rintro r w5 ⟨rfl, b5⟩
    have B5 := bthen B4 b5
    have b35 := bthen b34 b5
    have hx := hx2.up b35
    have hy := hy4.up b5
    have x0' := hx.c0
    have x1' := hx.c1
    have x2' := hx.c2
    have y0' := hy.c0
    have y1' := hy.c1
    have y2' := hy.c2
    have b45 := bthen b4 b5
    have hks := key_same ((t1.up b2).up b35) ((t2.up b2).up b35) ((t3.up b2).up b35) (u1.up b45) (u2.up b45) (u3.up b45)
    have HK := Lib.hid hks
    have HB5 := Lib.hid B5
    clear hks t1 t2 t3 u1 u2 u3
    have he2 : (er == er) = true := by simp
    have he3 : (us == us) = true := by simp
    go_wp2_with fail
    refine HK.out.mono ?_
    rintro r w6 ⟨rfl, b6⟩
    go_wp2_with fail
    go_ret
    exact ⟨rfl, bthen HB5.out b6⟩
  · clear g1
    go_enter Tryz.func4, Tryz.ntmps4
    go_wp2_with fail
    refine HO.out.mono ?_
    rintro r w1 ⟨⟨A1, m1, d1, A2, m2, d2, A3, m3, d3, rfl, t1, t2, t3⟩, b1⟩
    obtain ⟨w2, e2⟩ : ∃ w2, w2 = w1.alloc (.cells #[Value.slice A1 m1 d1, .slice A2 m2 d2, .slice A3 m3 d3] 26) := ⟨_, rfl⟩
    obtain ⟨hx2, b2⟩ := box_new e2
    have B2 := bthen b1 b2
    go_wp2_with fail
    rw [← e2]
    clear e2
    refine (HR.out _ B2).mono ?_
    rintro r w3 ⟨⟨B1, m4, d4, B2', m5, d5, B3, m6, d6, rfl, u1, u2, u3⟩, b3⟩
    obtain ⟨w4, e4⟩ : ∃ w4, w4 = w3.alloc (.cells #[Value.slice B1 m4 d4, .slice B2' m5 d5, .slice B3 m6 d6] 26) := ⟨_, rfl⟩
    obtain ⟨hy4, b4⟩ := box_new e4
    have B3' := bthen B2 b3
    have B4 := bthen B3' b4
    have b34 := bthen b3 b4
    go_wp2_with fail
    rw [← e4]
    clear e4
    refine (HA.out _).mono ?_
    rintro r w5 ⟨rfl, b5⟩
    have B5 := bthen B4 b5
    have b35 := bthen b34 b5
    have hx := hx2.up b35
    have hy := hy4.up b5
    have x0' := hx.c0
    have x1' := hx.c1
    have x2' := hx.c2
    have y0' := hy.c0
    have y1' := hy.c1
    have y2' := hy.c2
    have b45 := bthen b4 b5
    have hks := key_same ((t1.up b2).up b35) ((t2.up b2).up b35) ((t3.up b2).up b35) (u1.up b45) (u2.up b45) (u3.up b45)
    have HK := Lib.hid hks
    have HB5 := Lib.hid B5
    clear hks t1 t2 t3 u1 u2 u3
    have he2 : (er == er) = true := by simp
    have he3 : (us == us) = true := by simp
    go_wp2_with fail
    refine HK.out.mono ?_
    rintro r w6 ⟨rfl, b6⟩
    go_wp2_with fail
    go_ret
    exact ⟨rfl, bthen HB5.out b6⟩

set_option maxRecDepth 100000 in
theorem door_met (os : Os) (args : Array Value) : laidMetH Tryz.prog [("clepsydra/sha.constants", Rows.laid_clepsydra_sha_constants)] ((World.doorLaid Tryz.prog 4000 os).forCall (fun _ _ => 0) ⟨#[], args, []⟩).memory :=
  laidMetH_of_parts3 (fuel := 8) (laidMet_of_run' 8 (by kernel_rfl) (by kernel_rfl)) (by kernel_rfl) (by kernel_rfl)
set_option maxRecDepth 100000 in
theorem lifted (os : Os) (started : os.Started) (H : Type) (enc : TypeId × Value → H) :
    ReturnsInHanded {} Tryz.checked os 4 .any (fun w args => (Rows.pkeyDrawsSpec.pre enc Tryz.prog Tryz.f4 [] false w args ∧ laidMetH Tryz.prog [("clepsydra/sha.constants", Rows.laid_clepsydra_sha_constants)] w) ∧ sizedMet enc Tryz.prog Tryz.f4 (OpenSpec.ofChange Rows.pkeyDrawsSpec) false w args)
      (Rows.pkeyDrawsSpec.post enc Tryz.prog Tryz.f4 false true false false) := by
  refine returnsInHanded_of_change_and (C := Tryz.checked) (X := fun w _ => laidMetH Tryz.prog [("clepsydra/sha.constants", Rows.laid_clepsydra_sha_constants)] w) (fun _ _ _ hh h => h.of_heap hh) own started (by kernel_rfl) Tryz.func4
    (ChangeSpec.witness_shaped (enc := enc) (C := Tryz.checked) (os := os) (X := fun w _ => laidMetH Tryz.prog [("clepsydra/sha.constants", Rows.laid_clepsydra_sha_constants)] w) false (World.doorLaid Tryz.prog 4000 os) #[.slice none 0 0, .int .i64 0, .int .u64 0] 8 rfl (World.shaped_of_RefB (by kernel_rfl) (by kernel_rfl)) (by kernel_rfl) (by kernel_rfl) (by kernel_rfl) (door_met os _)) ?_
  intro W base args ds gs before hval0 hW _ hsz0 hL _
  have hsz : (DataW.weightsEach Tryz.prog (Tryz.f4.params.toList ++ Rows.pkeyDrawsSpec.plain.varTypes Tryz.prog) (ds ++ gs)).all (· ≤ reachBytes) = true := hsz0
  have hval : ∀ (j : Nat) t v, Tryz.f4.params[j]? = some t → args[j]? = some v → Value.okWide Tryz.prog W .any base t v := hval0
  have hW' := hW
  obtain ⟨p, q, hA0, hV, rfl, hfz, hnd⟩ := hW
  have hA : DataW.TrodAll enc Tryz.prog W 0 (fun _ => true) true Tryz.f4.params.toList args.toList ds p := hA0
  rw [Tryz.params4] at hA hval hsz
  obtain ⟨v0, vs0, d0, ds0, p0, q0, hargs, rfl, rfl, h0, r0⟩ := trodAll_cons hA
  obtain ⟨v1, vs1, d1, ds1, p1, q1, rfl, rfl, rfl, h1, r1⟩ := trodAll_cons r0
  obtain ⟨v2, vs2, d2, ds2, p2, q2, rfl, rfl, rfl, h2, r2⟩ := trodAll_cons r1
  obtain ⟨rfl, rfl, rfl⟩ := trodAll_nil r2
  obtain rfl : args = #[v0, v1, v2] := by cases args; simp_all
  obtain ⟨rfl, rfl⟩ := trodVars_none hV
  obtain ⟨a0, len0, cap0, rfl⟩ := okWide_slice Tryz.underlying32 (hval 0 32 v0 rfl rfl)
  have k0 := h0
  have lt0 : ∀ x ∈ p0, x.block < W.heap.size := by obtain ⟨m, hm⟩ := k0; exact DataW.trod_lt m _ _ _ hm
  obtain ⟨z0, w0⟩ : ∃ zs, Nb W W.heap.size a0 len0 cap0 zs := by
    obtain ⟨fuel, hf⟩ := h0
    rcases open_ints Tryz.underlying32 Tryz.underlying5 (by kernel_rfl) hf with ⟨hcs, _⟩ | ⟨x, l, c, zs, hcs, _, hl, hm, hz, hd, hcell, hwz⟩
    · simp [Value.cells] at hcs
      obtain ⟨rfl, rfl, rfl⟩ := hcs
      exact ⟨[], nb_nil _ _⟩
    · simp [Value.cells] at hcs
      obtain ⟨rfl, rfl, rfl⟩ := hcs
      exact ⟨_, nb_of_row hl hm (by simpa using hz) hcell hwz⟩
  obtain ⟨a1, rfl, rfl, rfl, w1⟩ := open_int Tryz.underlying3 (hval 1 3 v1 rfl rfl) h1
  obtain ⟨a2, rfl, rfl, rfl, w2⟩ := open_int Tryz.underlying23 (hval 2 23 v2 rfl rfl) h2
  clear hA0 hval0
  refine (law_any (of_laid hL) w0 a1 w1 a2 w2).mono fun e W' ⟨he, bel⟩ => ?_
  subst he
  exact ⟨_, rfl, _, _, _, [], _, [], hW', trodAll_mk1 (shut_bool Tryz.underlying4 _), (trodAll_cons_mk (Below.trod laidOut (by kernel_rfl) (of_decide_eq_true (by kernel_rfl)) k0 bel lt0) (trodAll_cons_mk (shut_int Tryz.underlying3 w1) (trodAll_cons_mk (shut_int Tryz.underlying23 w2) trodAll_mk0))), rfl, bel.frame _, fun h => by cases h⟩

theorem pkeyDraws_holds : Rows.PkeyDrawsSaid :=
  OpenClaim.holds_of_wide 4 Tryz.f4 rfl rfl rfl rfl rfl rfl rfl ⟨rfl, rfl, rfl, rfl, rfl⟩ rfl rfl rfl rfl rfl (by kernel_rfl) Tryz.func4 (by kernel_rfl)
    (of_decide_eq_true (by kernel_rfl)) (by unfold Func.isWrapper; first | (rw [if_pos (by decide +kernel)]; kernel_rfl) | (rw [if_neg (by decide +kernel)]; exact ⟨rfl, rfl⟩))
    (fun os started H enc _ => lifted os started H enc)
theorem pkeyDraws_card : Rows.PkeyDrawsCardSaid :=
  Claim7.holds_tied_plain_at .later [] [.data] true (true, "a77df78dea42f5a15d86f593e1b4f6cf4eda01eb2874b3eb65edb9fa1a9941cb") false
    pkeyDraws_holds (fun _ h => by cases h) (by kernel_rfl) (fun _ h => by cases h) pkeyDraws_row_tie rfl ⟨rfl, rfl⟩ (by kernel_rfl) rfl
    (fun f fn hf hfn => by
      obtain rfl : f = 4 := Option.some.inj ((show Tryz.prog.funcNamed "clepsydra/clepsydralaw05.PkeyDraws" = some 4 by kernel_rfl).symm.trans hf) |>.symm
      obtain rfl : fn = Tryz.f4 := (Option.some.inj (Tryz.func4.symm.trans hfn)).symm
      exact ⟨by kernel_rfl, fun j t ht => by
        rw [Tryz.params4] at ht
        have hm : t ∈ [32, 3, 23] := by simpa using Array.mem_of_getElem? ht
        have hall : ([32, 3, 23].all fun u => !Tryz.prog.wantsStandIn u) = true := by kernel_rfl
        exact (show Tryz.prog.wantsStandIn t = false by simpa using List.all_eq_true.1 hall t hm)⟩)
    (by kernel_rfl)
#print axioms pkeyDraws_card
end Go.Proofs.YtkhlmcknbangfaaGreatDoor.pkeyDrawsP
