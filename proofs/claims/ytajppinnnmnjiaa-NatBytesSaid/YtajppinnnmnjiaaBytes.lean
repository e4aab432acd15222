/- For every row of bytes, every row of limbs and every int the Go function NatBytes returns true and leaves its arguments as they were. No condition. -/
import Derived.Test.YtajppinnnmnjiaaCases
import Derived.Test.YtajppinnnmnjiaaRBytes
namespace Go.Proofs.Ytajppinnnmnjiaa.natBytesP
open Go.ChangeShapes Go.WideShapes Go.ChangeAt Go.RowKit
set_option linter.unusedVariables false

theorem nb_of_row {W : World} {x : Addr} {len cap : Nat} {zs : List Int} (hl : len ≤ cap) (hm : cap ≤ maxLen) (hz : zs.length = cap) (hcell : ∀ i, i < zs.length → W.cell? (x.add i) = some (.int .u8 (zs.getD i 0))) (hwz : ∀ n ∈ zs, (Lit.int .u8 n).wf = true) :
    Nb W W.heap.size (some x) len cap ((zs.take len).map Int.toNat) := by
  have hb : ∀ n ∈ zs, 0 ≤ n ∧ n ≤ 255 := fun n hn => bounds_u8 (hwz n hn)
  refine ⟨by simp; omega, hl, hm, ?_, ?_⟩
  · intro y hy
    simp only [List.mem_map] at hy
    obtain ⟨n, hn, rfl⟩ := hy
    have := hb n (List.mem_of_mem_take hn)
    omega
  · intro h0
    have hc := hcell 0 (by omega)
    obtain ⟨b, off, spot⟩ := x
    have hspot : spot = none := by simpa [Addr.add] using World.cell?_spot hc
    subst hspot
    have hlt := World.block_lt_of_cell? W _ hc
    refine ⟨b, off, rfl, by simpa [Addr.add] using hlt, fun j y hj => ?_⟩
    simp only [List.getElem?_map, Option.map_eq_some_iff, List.getElem?_take] at hj
    obtain ⟨n, hn, rfl⟩ := hj
    split at hn
    · have hj2 : j < zs.length := by
        rcases Nat.lt_or_ge j zs.length with h | h
        · exact h
        · rw [List.getElem?_eq_none h] at hn; cases hn
      have h1 := hcell j hj2
      have h2 : zs.getD j 0 = n := by simp [List.getD, hn]
      rw [h2] at h1
      have h3 := hb n (List.mem_of_getElem? hn)
      rw [show ((n.toNat : Nat) : Int) = n by omega]
      by_cases hj0 : j = 0
      · subst hj0; simpa [Addr.add] using h1
      · simpa [Addr.add, hj0] using h1
    · cases hn
theorem res_same_n {w1 w1' : World} {N n c : Nat} {A : Option Addr} {xs ys : List Nat} (h : Res w1 w1' N A n c xs) (hL : Lim 18446744073709551616 ys) (ht : Trm ys) (hv : val 18446744073709551616 ys = N) : xs = ys :=
  trm_unique (β := 18446744073709551616) (by omega) h.nt.lim hL h.trm ht (by rw [h.is, hv])
section
variable {w : World} {A : Option Addr} {n c : Nat} {xs : List Nat} (h : Nt w w.heap.size A n c xs) (hn : n ≤ 1000000) (k : Int) (hk0 : -9223372036854775808 ≤ k) (hk1 : k ≤ 9223372036854775807)
include h hn hk0 hk1
theorem write_bad (hk : k < 0 ∨ 65536 < k) : Calls Try.prog 34 #[.slice A n c, .int .i64 k] w fun e w' => e = .returned (.tuple #[.slice none 0 0, .int .i64 1]) ∧ Below w.heap.size w w' :=
  (write_any h (by omega) k hk0 hk1).mono fun e w' hd => by
    rcases hd with ⟨_, hd⟩ | ⟨h0, _⟩ | ⟨h0, _⟩
    · exact hd
    · omega
    · omega
theorem rwrite_bad (hk : k < 0 ∨ 65536 < k) : Calls Try.prog 35 #[.slice A n c, .int .i64 k] w fun e w' => e = .returned (.tuple #[.slice none 0 0, .int .i64 1]) ∧ Below w.heap.size w w' :=
  (rwrite_any h (by omega) k hk0 hk1).mono fun e w' hd => by
    rcases hd with ⟨_, hd⟩ | ⟨h0, _⟩ | ⟨h0, _⟩
    · exact hd
    · omega
    · omega
theorem write_far (h0 : 0 ≤ k) (h1 : k ≤ 65536) (h2 : 8 * k < (bl (val 18446744073709551616 xs) : Int)) : Calls Try.prog 34 #[.slice A n c, .int .i64 k] w fun e w' => e = .returned (.tuple #[.slice none 0 0, .int .i64 12]) ∧ Below w.heap.size w w' :=
  (write_any h (by omega) k hk0 hk1).mono fun e w' hd => by
    rcases hd with ⟨h0, _⟩ | ⟨_, hd⟩ | ⟨h0, _⟩
    · omega
    · exact hd
    · omega
theorem rwrite_far (h0 : 0 ≤ k) (h1 : k ≤ 65536) (h2 : 8 * k < (bl (val 18446744073709551616 xs) : Int)) : Calls Try.prog 35 #[.slice A n c, .int .i64 k] w fun e w' => e = .returned (.tuple #[.slice none 0 0, .int .i64 12]) ∧ Below w.heap.size w w' :=
  (rwrite_any h (by omega) k hk0 hk1).mono fun e w' hd => by
    rcases hd with ⟨h0, _⟩ | ⟨_, hd⟩ | ⟨h0, _⟩
    · omega
    · exact hd
    · omega
theorem write_fit (h0 : 0 ≤ k) (h1 : k ≤ 65536) (h2 : (bl (val 18446744073709551616 xs) : Int) ≤ 8 * k) : Calls Try.prog 34 #[.slice A n c, .int .i64 k] w fun e w' => ∃ g m, e = .returned (.tuple #[.slice (some ⟨g, 0, none⟩) m m, .int .i64 0]) ∧ m = k.toNat ∧ Nb w' w'.heap.size (some ⟨g, 0, none⟩) m m (bts (val 18446744073709551616 xs) k.toNat) ∧ Below w.heap.size w w' :=
  (write_any h (by omega) k hk0 hk1).mono fun e w' hd => by
    rcases hd with ⟨h0, _⟩ | ⟨h0, _⟩ | ⟨_, he, ho, hb⟩
    · omega
    · omega
    · exact ⟨_, _, he, rfl, ho.nb (length_bts _ _) (by unfold maxLen; omega) (lim_bts8 _ _), hb⟩
theorem rwrite_fit (h0 : 0 ≤ k) (h1 : k ≤ 65536) (h2 : (bl (val 18446744073709551616 xs) : Int) ≤ 8 * k) : Calls Try.prog 35 #[.slice A n c, .int .i64 k] w fun e w' => ∃ A m c, e = .returned (.tuple #[.slice A m c, .int .i64 0]) ∧ Nb w' w'.heap.size A m c (bts (val 18446744073709551616 xs) k.toNat) ∧ (A = none ∧ m = 0 ∨ ∃ b, A = some ⟨b, 0, none⟩) ∧ Below w.heap.size w w' :=
  (rwrite_any h (by omega) k hk0 hk1).mono fun e w' hd => by
    rcases hd with ⟨h0, _⟩ | ⟨h0, _⟩ | ⟨_, A, c, he, ho, hA, hb⟩
    · omega
    · omega
    · exact ⟨A, _, c, he, ho, hA, hb⟩
end

set_option maxHeartbeats 4000000 in
theorem law_any {w : World} {B : Option Addr} {nb cb : Nat} {bs : List Nat} (hb : Nb w w.heap.size B nb cb bs) {A : Option Addr} {na ca : Nat} {x : List Nat} (ha : Nt w w.heap.size A na ca x) (n : Int) (hn : (Lit.int .i64 n).wf = true) :
    Calls Try.prog 7 #[.slice B nb cb, .slice A na ca, .int .i64 n] w (Yes w) := by
  have bn := bounds_i64 hn
  have hrb := hb.rooms
  by_cases y0 : 12 < na
  · have hr := ha.rooms
    go_enter Try.func7, Try.ntmps7
    go_wp2_with fail
    refine (heavy_yes A na ca y0 hr.1 _).mono ?_
    rintro e w' ⟨rfl, rfl⟩
    go_wp2_with fail
    refine (alive_any _).mono ?_
    rintro e w1 ⟨rfl, b1⟩
    go_wp2_with fail
    go_ret
    exact ⟨rfl, b1⟩
  by_cases y1 : 100 < nb
  · go_enter Try.func7, Try.ntmps7
    go_wp2_with fail
    refine (heavy_no A na ca (by omega) _).mono ?_
    rintro e w' ⟨rfl, rfl⟩
    go_wp2_with fail
    refine (alive_any _).mono ?_
    rintro e w1 ⟨rfl, b1⟩
    go_wp2_with fail
    go_ret
    exact ⟨rfl, b1⟩
  have z1 : nb ≤ 100 := by omega
  clear y1
  obtain ⟨a, ea⟩ : ∃ a, val 18446744073709551616 x = a := ⟨_, rfl⟩
  have Ea := Lib.hid ea
  clear ea
  by_cases g0 : n < 0
  · have g3 : n ≤ 200 := by omega
    go_enter Try.func7, Try.ntmps7
    go_wp2_with fail
    refine (heavy_no A na ca (by omega) _).mono ?_
    rintro e w' ⟨rfl, rfl⟩
    go_wp2_with fail
    refine (write_bad ha (by omega) n bn.1 bn.2 (by omega)).mono ?_
    rintro e W1 ⟨rfl, v1⟩
    have N1a := ha.up v1
    have N1b := hb.up v1
    have B1 := v1
    go_wp2_with fail
    refine (rwrite_bad N1a (by omega) n bn.1 bn.2 (by omega)).mono ?_
    rintro e W2 ⟨rfl, v2⟩
    have N2a := N1a.up v2
    have N2b := N1b.up v2
    have B2 := bthen B1 v2
    go_wp2_with fail
    refine (alive_any _).mono ?_
    rintro e W3 ⟨rfl, v3⟩
    have N3a := N2a.up v3
    have N3b := N2b.up v3
    have B3 := bthen B2 v3
    go_wp2_with fail
    refine (read_any N3b (by omega)).mono ?_
    rintro e W4 ⟨A4, n4, c4, x4, rfl, r4⟩
    have N4a := N3a.up r4.bel
    have N4b := N3b.up r4.bel
    have B4 := bthen B3 r4.bel
    go_wp2_with fail
    refine (rread_any N4b (by omega)).mono ?_
    rintro e W5 ⟨A5, n5, c5, x5, rfl, t5, tr5, vl5, v5⟩
    have Vl5 := Lib.hid vl5
    clear vl5
    have N5a := N4a.up v5
    have N5b := N4b.up v5
    have N5p := r4.nt.up v5
    have B5 := bthen B4 v5
    go_wp2_with fail
    refine (same_yes N5p t5 (res_same_n r4 t5.lim tr5 Vl5.out)).mono ?_
    rintro e W6 ⟨rfl, d6, rfl⟩
    have N6a := N5a.dr d6
    have N6b := N5b.dr d6
    have N6p := N5p.dr d6
    have N6q := t5.dr d6
    have B6 := bdr B5 d6
    have cw := conv_nb (nb_nil (W5.drewN d6) 0) (.inl ⟨rfl, rfl⟩)
    go_wp2_with fail
    go_ret
    exact ⟨rfl, B6⟩
  by_cases g1 : 65536 < n
  · have g3 : 200 < n := by omega
    go_enter Try.func7, Try.ntmps7
    go_wp2_with fail
    refine (heavy_no A na ca (by omega) _).mono ?_
    rintro e w' ⟨rfl, rfl⟩
    go_wp2_with fail
    refine (write_bad ha (by omega) n bn.1 bn.2 (by omega)).mono ?_
    rintro e W1 ⟨rfl, v1⟩
    have N1a := ha.up v1
    have N1b := hb.up v1
    have B1 := v1
    go_wp2_with fail
    refine (rwrite_bad N1a (by omega) n bn.1 bn.2 (by omega)).mono ?_
    rintro e W2 ⟨rfl, v2⟩
    have N2a := N1a.up v2
    have N2b := N1b.up v2
    have B2 := bthen B1 v2
    go_wp2_with fail
    refine (alive_any _).mono ?_
    rintro e W3 ⟨rfl, v3⟩
    have N3a := N2a.up v3
    have N3b := N2b.up v3
    have B3 := bthen B2 v3
    go_wp2_with fail
    refine (read_any N3b (by omega)).mono ?_
    rintro e W4 ⟨A4, n4, c4, x4, rfl, r4⟩
    have N4a := N3a.up r4.bel
    have N4b := N3b.up r4.bel
    have B4 := bthen B3 r4.bel
    go_wp2_with fail
    refine (rread_any N4b (by omega)).mono ?_
    rintro e W5 ⟨A5, n5, c5, x5, rfl, t5, tr5, vl5, v5⟩
    have Vl5 := Lib.hid vl5
    clear vl5
    have N5a := N4a.up v5
    have N5b := N4b.up v5
    have N5p := r4.nt.up v5
    have B5 := bthen B4 v5
    go_wp2_with fail
    refine (same_yes N5p t5 (res_same_n r4 t5.lim tr5 Vl5.out)).mono ?_
    rintro e W6 ⟨rfl, d6, rfl⟩
    have N6a := N5a.dr d6
    have N6b := N5b.dr d6
    have N6p := N5p.dr d6
    have N6q := t5.dr d6
    have B6 := bdr B5 d6
    have cw := conv_nb (nb_nil (W5.drewN d6) 0) (.inl ⟨rfl, rfl⟩)
    go_wp2_with fail
    go_ret
    exact ⟨rfl, B6⟩
  by_cases g2 : 200 < n
  · have g4 : n ≤ 65536 := by omega
    clear g1
    go_enter Try.func7, Try.ntmps7
    go_wp2_with fail
    refine (heavy_no A na ca (by omega) _).mono ?_
    rintro e w' ⟨rfl, rfl⟩
    go_wp2_with fail
    refine (alive_any _).mono ?_
    rintro e w1 ⟨rfl, b1⟩
    go_wp2_with fail
    go_ret
    exact ⟨rfl, b1⟩
  have g4 : n ≤ 200 := by omega
  have g5 : 0 ≤ n := by omega
  clear g0 g1 g2
  by_cases hbl : 8 * n < (bl a : Int)
  · have Hbl := Lib.hid hbl
    clear hbl
    go_enter Try.func7, Try.ntmps7
    go_wp2_with fail
    refine (heavy_no A na ca (by omega) _).mono ?_
    rintro e w' ⟨rfl, rfl⟩
    go_wp2_with fail
    refine (write_far ha (by omega) n bn.1 bn.2 (by omega) (by omega) (by rw [Ea.out]; exact Hbl.out)).mono ?_
    rintro e W1 ⟨rfl, v1⟩
    have N1a := ha.up v1
    have N1b := hb.up v1
    have B1 := v1
    go_wp2_with fail
    refine (rwrite_far N1a (by omega) n bn.1 bn.2 (by omega) (by omega) (by rw [Ea.out]; exact Hbl.out)).mono ?_
    rintro e W2 ⟨rfl, v2⟩
    have N2a := N1a.up v2
    have N2b := N1b.up v2
    have B2 := bthen B1 v2
    go_wp2_with fail
    refine (alive_any _).mono ?_
    rintro e W3 ⟨rfl, v3⟩
    have N3a := N2a.up v3
    have N3b := N2b.up v3
    have B3 := bthen B2 v3
    go_wp2_with fail
    refine (read_any N3b (by omega)).mono ?_
    rintro e W4 ⟨A4, n4, c4, x4, rfl, r4⟩
    have N4a := N3a.up r4.bel
    have N4b := N3b.up r4.bel
    have B4 := bthen B3 r4.bel
    go_wp2_with fail
    refine (rread_any N4b (by omega)).mono ?_
    rintro e W5 ⟨A5, n5, c5, x5, rfl, t5, tr5, vl5, v5⟩
    have Vl5 := Lib.hid vl5
    clear vl5
    have N5a := N4a.up v5
    have N5b := N4b.up v5
    have N5p := r4.nt.up v5
    have B5 := bthen B4 v5
    go_wp2_with fail
    refine (same_yes N5p t5 (res_same_n r4 t5.lim tr5 Vl5.out)).mono ?_
    rintro e W6 ⟨rfl, d6, rfl⟩
    have N6a := N5a.dr d6
    have N6b := N5b.dr d6
    have N6p := N5p.dr d6
    have N6q := t5.dr d6
    have B6 := bdr B5 d6
    have cw := conv_nb (nb_nil (W5.drewN d6) 0) (.inl ⟨rfl, rfl⟩)
    go_wp2_with fail
    go_ret
    exact ⟨rfl, B6⟩
  · have Hbl := Lib.hid (Int.not_lt.1 hbl)
    clear hbl
    go_enter Try.func7, Try.ntmps7
    go_wp2_with fail
    refine (heavy_no A na ca (by omega) _).mono ?_
    rintro e w' ⟨rfl, rfl⟩
    go_wp2_with fail
    refine (write_fit ha (by omega) n bn.1 bn.2 (by omega) (by omega) (by rw [Ea.out]; exact Hbl.out)).mono ?_
    rintro e W1 ⟨g1, m1, rfl, -, o1, v1⟩
    have N1a := ha.up v1
    have N1b := hb.up v1
    have B1 := v1
    go_wp2_with fail
    refine (rwrite_fit N1a (by omega) n bn.1 bn.2 (by omega) (by omega) (by rw [Ea.out]; exact Hbl.out)).mono ?_
    rintro e W2 ⟨A2, m2, c2, rfl, o2, pl2, v2⟩
    have N2a := N1a.up v2
    have N2b := N1b.up v2
    have N2w := o1.up v2
    have B2 := bthen B1 v2
    go_wp2_with fail
    refine (alive_any _).mono ?_
    rintro e W3 ⟨rfl, v3⟩
    have N3a := N2a.up v3
    have N3b := N2b.up v3
    have N3w := N2w.up v3
    have N3v := o2.up v3
    have B3 := bthen B2 v3
    go_wp2_with fail
    refine (read_any N3b (by omega)).mono ?_
    rintro e W4 ⟨A4, n4, c4, x4, rfl, r4⟩
    have N4a := N3a.up r4.bel
    have N4b := N3b.up r4.bel
    have N4w := N3w.up r4.bel
    have N4v := N3v.up r4.bel
    have B4 := bthen B3 r4.bel
    go_wp2_with fail
    refine (rread_any N4b (by omega)).mono ?_
    rintro e W5 ⟨A5, n5, c5, x5, rfl, t5, tr5, vl5, v5⟩
    have Vl5 := Lib.hid vl5
    clear vl5
    have N5a := N4a.up v5
    have N5b := N4b.up v5
    have N5w := N4w.up v5
    have N5v := N4v.up v5
    have N5p := r4.nt.up v5
    have B5 := bthen B4 v5
    go_wp2_with fail
    refine (same_yes N5p t5 (res_same_n r4 t5.lim tr5 Vl5.out)).mono ?_
    rintro e W6 ⟨rfl, d6, rfl⟩
    have N6a := N5a.dr d6
    have N6b := N5b.dr d6
    have N6w := N5w.dr d6
    have N6v := N5v.dr d6
    have N6p := N5p.dr d6
    have N6q := t5.dr d6
    have B6 := bdr B5 d6
    have cw := conv_nb N6w (.inr ⟨_, rfl⟩)
    have cv := conv_nb N6v pl2
    go_wp2_with fail
    go_ret
    exact ⟨rfl, B6⟩

set_option maxRecDepth 100000 in
theorem lifted (os : Os) (started : os.Started) (H : Type) (enc : TypeId × Value → H) :
    ReturnsInHanded {} Try.checked os 7 .any (Rows.natBytesSpec.pre6 enc Try.prog Try.f7 Rows.natBytesRow.domain false) (Rows.natBytesSpec.post enc Try.prog Try.f7 false true false false) := by
  refine returnsInHanded_of_change (C := Try.checked) own started (by kernel_rfl) Try.func7
    (ChangeSpec.witness6 (enc := enc) (C := Try.checked) false ⟨#[], #[.slice none 0 0, .slice none 0 0, .int .i64 0], []⟩ 8 (by kernel_rfl) (by kernel_rfl) (by kernel_rfl) (by kernel_rfl)) ?_
  intro W base args ds gs before hval0 hW hcnd _
  have hval : ∀ (j : Nat) t v, Try.f7.params[j]? = some t → args[j]? = some v → Value.okWide Try.prog W .any base t v := hval0
  have hW' := hW
  obtain ⟨p, q, hA0, hV, rfl, hfz, hnd⟩ := hW
  have hA : DataW.TrodAll enc Try.prog W 0 (fun _ => true) true Try.f7.params.toList args.toList ds p := hA0
  rw [Try.params7] at hA hval
  obtain ⟨v0, vs0, d0, ds0, p0, q0, hargs, rfl, rfl, h0, r0⟩ := trodAll_cons hA
  obtain ⟨v1, vs1, d1, ds1, p1, q1, rfl, rfl, rfl, h1, r1⟩ := trodAll_cons r0
  obtain ⟨v2, vs2, d2, ds2, p2, q2, rfl, rfl, rfl, h2, r2⟩ := trodAll_cons r1
  obtain ⟨rfl, rfl, rfl⟩ := trodAll_nil r2
  obtain rfl : args = #[v0, v1, v2] := by cases args; simp_all
  obtain ⟨rfl, rfl⟩ := trodVars_none hV
  obtain ⟨a0, len0, cap0, rfl⟩ := okWide_slice Try.underlying39 (hval 0 39 v0 rfl rfl)
  have k0 := h0
  have lt0 : ∀ x ∈ p0, x.block < W.heap.size := by obtain ⟨m, hm⟩ := k0; exact DataW.trod_lt m _ _ _ hm
  obtain ⟨z0, w0⟩ : ∃ zs, Nb W W.heap.size a0 len0 cap0 zs := by
    obtain ⟨fuel, hf⟩ := h0
    rcases open_ints Try.underlying39 Try.underlying5 (by kernel_rfl) hf with ⟨hcs, _⟩ | ⟨x, l, c, zs, hcs, _, hl, hm, hz, _, hcell, hwz⟩
    · simp [Value.cells] at hcs
      obtain ⟨rfl, rfl, rfl⟩ := hcs
      exact ⟨[], nb_nil _ _⟩
    · simp [Value.cells] at hcs
      obtain ⟨rfl, rfl, rfl⟩ := hcs
      exact ⟨_, nb_of_row hl hm (by simpa using hz) hcell hwz⟩
  obtain ⟨a1, len1, cap1, rfl⟩ := okWide_slice Try.underlying22 (hval 1 22 v1 rfl rfl)
  have k1 := h1
  have lt1 : ∀ x ∈ p1, x.block < W.heap.size := by obtain ⟨m, hm⟩ := k1; exact DataW.trod_lt m _ _ _ hm
  obtain ⟨z1, w1⟩ : ∃ zs, Nt W W.heap.size a1 len1 cap1 zs := by
    obtain ⟨fuel, hf⟩ := h1
    rcases open_ints Try.underlying22 Try.underlying32 (by kernel_rfl) hf with ⟨hcs, _⟩ | ⟨x, l, c, zs, hcs, _, hl, hm, hz, _, hcell, hwz⟩
    · simp [Value.cells] at hcs
      obtain ⟨rfl, rfl, rfl⟩ := hcs
      exact ⟨[], nt_nil _ _⟩
    · simp [Value.cells] at hcs
      obtain ⟨rfl, rfl, rfl⟩ := hcs
      exact ⟨_, nt_of_row hl hm (by simpa using hz) hcell hwz⟩
  obtain ⟨a2, rfl, rfl, rfl, w2⟩ := open_int Try.underlying3 (hval 2 3 v2 rfl rfl) h2
  clear hA0 hval0
  refine (law_any w0 w1 a2 w2).mono fun e W' ⟨he, bel⟩ => ?_
  subst he
  exact ⟨_, rfl, _, _, _, [], _, [], hW', trodAll_mk1 (shut_bool Try.underlying4 _), (trodAll_cons_mk (Below.trod laidOut (by kernel_rfl) (of_decide_eq_true (by kernel_rfl)) k0 bel lt0) (trodAll_cons_mk (Below.trod laidOut (by kernel_rfl) (of_decide_eq_true (by kernel_rfl)) k1 bel lt1) (trodAll_cons_mk (shut_int Try.underlying3 w2) trodAll_mk0))), rfl, bel.frame _, fun h => by cases h⟩

theorem natBytes_holds : Rows.NatBytesSaid :=
  OpenClaim.holds_of_wide 7 Try.f7 rfl rfl rfl rfl rfl rfl rfl ⟨rfl, rfl, rfl, rfl, rfl⟩ rfl rfl rfl rfl rfl (by kernel_rfl) Try.func7 (by kernel_rfl)
    (of_decide_eq_true (by kernel_rfl)) (by unfold Func.isWrapper; first | (rw [if_pos (by decide +kernel)]; kernel_rfl) | (rw [if_neg (by decide +kernel)]; exact ⟨rfl, rfl⟩))
    (fun os started H enc _ => lifted os started H enc)
#print axioms natBytes_holds
end Go.Proofs.Ytajppinnnmnjiaa.natBytesP
