/- law05.alive. What the laid variable gives; how rows and structs that came in are read. -/
import Derived.Test.YtkhlmcknbangfaaDoorPk
import Derived.Test.YtkhlmcknbangfaaDoorRows
import Derived.Test.YtkhlmcknbangfaaDoorCards
import Derived.Test.YtkhlmcknbangfaaDoorTie
import Derived.Test.YtkhlmcknbangfaaDoorRd
import Derived.Test.YtkhlmcknbangfaaDoorFew
import Derived.ProofKit
import Derived.LaidMore
import Derived.OpenShut
import Derived.ShutString
import Derived.ChangeOld
import Derived.Stop.Joined
import Derived.SevenTiedAt
import Derived.SizedLaws
import Derived.Deep.Strs
namespace Go.Proofs.YtkhlmcknbangfaaDoor
set_option linter.unusedSimpArgs false
set_option linter.unusedVariables false
open Go.RowKit
set_option linter.unusedVariables false
set_option maxRecDepth 100000

set_option maxHeartbeats 4000000 in
theorem make_twice {w : World} {Ap Aq : Option Addr} {np cp nq cq p : Nat} {xp xq : List Nat} (hp : Nt w w.heap.size Ap np cp xp) (hq : Nt w w.heap.size Aq nq cq xq) (ep : val 18446744073709551616 xp = p) (eq : val 18446744073709551616 xq = p)
    (lp : np ≤ 20) (lq : nq ≤ 20) (e : Nat) (bp : bl p ≤ 512) (pp : primeN p b12 = true) :
    Calls Tryd.prog 11 #[.slice Ap np cp, .slice Aq nq cq, .int .u64 (e : Int)] w fun r w' => r = .returned (.tuple #[.agg #[.slice none 0 0, .slice none 0 0, .slice none 0 0], .int .i64 50]) ∧ Below w.heap.size w w' := by
  have Pp := Lib.hid pp
  have Bp := Lib.hid bp
  clear pp bp
  obtain ⟨w0, e0⟩ : ∃ w0, w0 = w.alloc (.cells #[Value.slice none 0 0, .slice none 0 0, .slice none 0 0] 26) := ⟨_, rfl⟩
  have hx0 : w0.heap[w.heap.size]? = some (.cells #[Value.slice none 0 0, .slice none 0 0, .slice none 0 0] 26 (0, 0)) := e0 ▸ heap_alloc_new w _
  have hs0 : w.heap.size < w0.heap.size := by rw [e0]; simp
  have b0 : Below w.heap.size w w0 := e0 ▸ (Below.refl _ w).alloc (Nat.le_refl _) _
  have hp := hp.up b0
  have hq := hq.up b0
  go_enter Tryd.func11, Tryd.ntmps11
  go_wp2_with fail
  rw [← e0]
  clear e0
  refine (mayPrime_yes hp ep (by omega) Bp.out Pp.out).mono ?_
  rintro r w1 ⟨rfl, b1⟩
  go_wp2_with fail
  refine (mayPrime_yes (hq.up b1) eq (by omega) Bp.out Pp.out).mono ?_
  rintro r w2 ⟨rfl, b2⟩
  have B2 := bthen b1 b2
  go_wp2_with fail
  refine (cmp_eq (hp.up B2) (hq.up B2) (by rw [ep, eq])).mono ?_
  rintro r w3 ⟨rfl, d3, rfl⟩
  have B3 := bdr B2 d3
  have hx := (B3.block w.heap.size hs0).trans hx0
  obtain ⟨q0, q1, q2, q3, q4, q5⟩ := three_cells hx
  go_wp2_with fail
  have hg2 := three_fin (v1 := .slice none 0 0) (v2 := .slice none 0 0) (v3 := .slice none 0 0) ((show (w2.drewN d3).heap[w.heap.size]? = _ from hx))
  refine bodyPost_ret (v := .tuple #[.agg #[.slice none 0 0, .slice none 0 0, .slice none 0 0], .int .i64 50]) (by rw [results_cell_tmp rfl]; simp [asAddr, run_loadVar_row _ w.heap.size 26 26 _ (0, 0) _ hg2 Tryd.underlying26 rfl (by kernel_rfl)]) rfl ?_
  exact ⟨rfl, (((bthen b0 B3).setCell (p := ⟨w.heap.size, 0, none⟩) (by simp) _).setCell (p := ⟨w.heap.size, 1, none⟩) (by simp) _).setCell (p := ⟨w.heap.size, 2, none⟩) (by simp) _⟩
set_option maxHeartbeats 8000000 in
theorem alive05_any (w : World) : Calls Tryd.prog 4 #[] w (Yes w) := by
  go_enter Tryd.func4, Tryd.ntmps4
  go_wp2_with fail
  refine (of_any 251 _ rfl (by omega) _).mono ?_
  rintro e w1 ⟨A1, n1, c1, x1, rfl, r1⟩
  have l1 : n1 ≤ 1 := r1.le (by omega)
  go_wp2_with fail
  refine (of_any 257 _ rfl (by omega) _).mono ?_
  rintro e w2 ⟨A2, n2, c2, x2, rfl, r2⟩
  have l2 : n2 ≤ 1 := r2.le (by omega)
  have m1 := r1.nt.up r2.bel
  have hm := make_small m1 r2.nt r1.is r2.is (by omega) (by omega)
  have Hm := Lib.hid hm
  clear hm
  go_wp2_with fail
  refine Hm.out.mono ?_
  rintro e w3 ⟨K1, k1, t1, y1, K2, k2, t2, y2, K3, k3, t3, y3, d, rfl, N1, v1, b1, N2, v2, b2, N3, v3, b3, ht, hd, hde, bel⟩
  have hdd := d_small hd hde
  subst hdd
  clear hd hde
  have B3 := bthen (bthen r1.bel r2.bel) bel
  obtain ⟨w4, e4⟩ : ∃ w4, w4 = w3.alloc (.cells #[Value.slice K1 k1 t1, .slice K2 k2 t2, .slice K3 k3 t3] 26) := ⟨_, rfl⟩
  obtain ⟨hb4, b4⟩ := box_new e4
  have p4 : Pr w4 (.agg #[.slice K1 k1 t1, .slice K2 k2 t2, .slice K3 k3 t3]) 64507 17 26353 := ⟨_, _, _, _, _, _, _, _, _, _, _, _, rfl, N1.up b4, v1, b1, N2.up b4, v2, b2, N3.up b4, v3, b3⟩
  have hs := fun A n c => sign_short p4 (by omega) (by decide +kernel) (by decide +kernel) (by omega) (by omega) (by omega) (by omega) (by omega) A n c
  have Hs := Lib.hid hs
  have q0 := hb4.c0
  have q1 := hb4.c1
  have q2 := hb4.c2
  have M1 := N1.up b4
  have M3 := N3.up b4
  have B4 := bthen B3 b4
  have V1 := Lib.hid v1
  have V3 := Lib.hid v3
  clear hs v1 v2 v3 ht Hm
  go_wp2_with fail
  rw [← e4]
  clear e4
  refine (Hs.out _ _ _).mono ?_
  rintro e w5 ⟨rfl, b5⟩
  have B5 := bthen B4 b5
  go_wp2_with fail
  refine (of_any 251 _ rfl (by omega) _).mono ?_
  rintro e w6 ⟨A6, n6, c6, x6, rfl, r6⟩
  have l6 : n6 ≤ 1 := r6.le (by omega)
  go_wp2_with fail
  refine (of_any 251 _ rfl (by omega) _).mono ?_
  rintro e w7 ⟨A7, n7, c7, x7, rfl, r7⟩
  have l7 : n7 ≤ 1 := r7.le (by omega)
  have hm := make_twice (r6.nt.up r7.bel) r7.nt r6.is r7.is (by omega) (by omega) 17 (by decide +kernel) (by decide +kernel)
  have Hm := Lib.hid hm
  clear hm
  go_wp2_with fail
  refine Hm.out.mono ?_
  rintro e w8 ⟨rfl, b8⟩
  have B8 := bthen (bthen (bthen B5 r6.bel) r7.bel) b8
  have C8 := bthen (bthen (bthen b5 r6.bel) r7.bel) b8
  have g8 := hb4.up C8
  have g80 := g8.c0
  have g81 := g8.c1
  have g82 := g8.c2
  obtain ⟨w9, e9⟩ : ∃ w9, w9 = w8.alloc (.cells #[Value.slice none 0 0, .slice none 0 0, .slice none 0 0] 26) := ⟨_, rfl⟩
  have b9 : Below w8.heap.size w8 w9 := e9 ▸ (Below.refl _ w8).alloc (Nat.le_refl _) _
  have bD : Below w9.heap.size w9 w9.drew := (Below.refl _ _).drew
  have C9 := bthen (bthen C8 b9) bD
  have B9 := bthen (bthen B8 b9) bD
  have g9 := hb4.up C9
  have g90 := g9.c0
  have g91 := g9.c1
  have g92 := g9.c2
  have M19 := M1.up C9
  have M39 := M3.up C9
  have hsz := fun (W : World) (v : Value) (k : Pr W v 64507 17 26353) => size_any k
  rw [show (bl 64507 + 7) / 8 = 2 by decide +kernel] at hsz
  have Hsz := Lib.hid hsz
  clear hsz
  have P9 := Lib.hid (p4.up C9)
  go_wp2_with fail
  rw [← e9]
  clear e9
  go_region_held3 (fun w' => w'.cell? ⟨w3.heap.size, 0, none⟩ = some (Value.slice K1 k1 t1) ∧ w'.cell? ⟨w3.heap.size, 1, none⟩ = some (Value.slice K2 k2 t2) ∧ w'.cell? ⟨w3.heap.size, 2, none⟩ = some (Value.slice K3 k3 t3))
    (first | exact ⟨ge0, ge1, ge2⟩ | exact ⟨gd0, gd1, gd2⟩ | exact ⟨gc0, gc1, gc2⟩ | exact ⟨gb0, gb1, gb2⟩ | exact ⟨ga0, ga1, ga2⟩ | exact ⟨g90, g91, g92⟩)
    ((first
      | (go_at_call 9; refine (of_any 64507 _ rfl (by omega) _).mono ?_; rintro e wa ⟨Aa, na, ca, xa, rfl, ra⟩
         have va := ra.is
         have ga := g9.up ra.bel
         have ga0 := ga.c0
         have ga1 := ga.c1
         have ga2 := ga.c2)
      | (go_at_call 13; with_reducible refine (cmp_eq (M19.up ra.bel) ra.nt (by rw [V1.out, va])).mono ?_; rintro e wb ⟨rfl, db, rfl⟩
         have gb := ga.dr db
         have gb0 := gb.c0
         have gb1 := gb.c1
         have gb2 := gb.c2
         have Bb := bdr ra.bel db)
      | (go_at_call 9; refine (of_any 26353 _ rfl (by omega) _).mono ?_; rintro e wc ⟨Ac, nc, cc, xc, rfl, rc⟩
         have vc := rc.is
         have gc := gb.up rc.bel
         have gc0 := gc.c0
         have gc1 := gc.c1
         have gc2 := gc.c2
         have Bc := bthen Bb rc.bel)
      | (go_at_call 13; with_reducible refine (cmp_eq (M39.up Bc) rc.nt (by rw [V3.out, vc])).mono ?_; rintro e wd ⟨rfl, dd, rfl⟩
         have gd := gc.dr dd
         have gd0 := gd.c0
         have gd1 := gd.c1
         have gd2 := gd.c2
         have Bd := bdr Bc dd)
      | (go_at_call 14; refine (Hsz.out _ _ (P9.out.up Bd)).mono ?_; rintro e we ⟨rfl, be⟩
         have ge := gd.up be
         have ge0 := ge.c0
         have ge1 := ge.c1
         have ge2 := ge.c2)))
  all_goals
    have Be := bthen (bthen B9 Bd) be
    go_wp2_with fail
    go_ret
    exact ⟨rfl, Be⟩
end Go.Proofs.YtkhlmcknbangfaaDoor
namespace Go.Proofs.YtkhlmcknbangfaaDoor
open Go.ChangeShapes Go.WideShapes Go.ChangeAt Go.RowKit
set_option linter.unusedVariables false
set_option maxRecDepth 100000

theorem own : ownKnob Tryd.prog.godebug = none := by kernel_rfl
theorem laidOut : laidOutB Tryd.prog = true := by kernel_rfl
theorem gK : Tryd.prog.globalNamed "clepsydra/sha.constants" = some 3 := by kernel_rfl
theorem tK : (Tryd.prog.globals[3]?).map (·.type) = some 113 := by kernel_rfl
abbrev laidK (H : Type) : List (String × DataW H) := [("clepsydra/sha.constants", Rows.laid_clepsydra_sha_constants)]

theorem of_laid {W : World} (h : laidMetH Tryd.prog [("clepsydra/sha.constants", Rows.laid_clepsydra_sha_constants)] W) : Sh.Ks W := by
  rw [MakeChecks.laidMetH_plain _ _ _ (by kernel_rfl)] at h
  obtain ⟨ps, ⟨g0, t0, cs0, f0, p0, q0, hg0, ht0, hv0, hd0, _, _⟩, _, _⟩ := h
  obtain rfl := Option.some.inj (gK.symm.trans hg0)
  obtain rfl := Option.some.inj (tK.symm.trans ht0)
  obtain ⟨xs, m1, rfl, hx1, hlen, hn3, hel⟩ := DataW.trod_array Tryd.underlying113 hd0
  have c90 : Tryd.prog.cellsOf 94 = 1 := by kernel_rfl
  have hl : (Rows.laid_clepsydra_sha_constants : DataW Unit) = .agg (Sh.kk.map fun x : Nat => .lit (.int .u32 (x : Int))) := rfl
  rw [hl] at hx1
  simp only [Prod.mk.injEq, DataW.agg.injEq] at hx1
  have hlt : 3 < W.heap.size := by
    have := World.var?_cell hg0 hv0 0
    have hcs : 0 < cs0.size := by
      have : cs0.toList.length = 64 := hlen.trans (by kernel_rfl)
      simp at this; omega
    rw [Array.getElem?_eq_getElem hcs] at this
    exact World.block_lt_of_cell? W _ this
  refine ⟨hlt, fun t ht => ?_⟩
  have h0 := hel t ht
  have htx : t < xs.length := by omega
  rw [c90, Nat.mul_one, List.getElem?_eq_getElem htx] at h0
  obtain ⟨k, e1, e2, _⟩ := DataW.trod_int Tryd.underlying94 h0
  have e3 : (xs.map fun x => x.fst)[t]? = some (.lit (.int .u32 k)) := by
    rw [List.getElem?_map, List.getElem?_eq_getElem htx, e2]; rfl
  rw [← hx1.1] at e3
  have e4 : (k : Int) = ((Sh.kk.getD t 0 : Nat) : Int) := by
    rw [List.getElem?_map] at e3
    have hk : t < Sh.kk.length := ht
    rw [List.getElem?_eq_getElem hk] at e3
    simp only [Option.map_some, Option.some.injEq, DataW.lit.injEq, Lit.int.injEq, true_and] at e3
    rw [← e3]
    simp [List.getD, List.getElem?_eq_getElem hk]
  have e5 := World.var?_cell hg0 hv0 t
  rw [e5, ← e4]
  have e6 : (List.take 1 (List.drop t cs0.toList))[0]? = some (.int .u32 k) := by rw [e1]; rfl
  rw [List.getElem?_take, if_pos (by omega), List.getElem?_drop] at e6
  simpa using e6

theorem nt_of_row {W : World} {x : Addr} {len cap : Nat} {zs : List Int} (hl : len ≤ cap) (hm : cap ≤ maxLen) (hz : zs.length = cap) (hcell : ∀ i, i < zs.length → W.cell? (x.add i) = some (.int .u64 (zs.getD i 0))) (hwz : ∀ n ∈ zs, (Lit.int .u64 n).wf = true) :
    Nt W W.heap.size (some x) len cap ((zs.take len).map Int.toNat) := by
  have hb : ∀ n ∈ zs, 0 ≤ n ∧ n ≤ 18446744073709551615 := fun n hn => bounds_u64 (hwz n hn)
  refine ⟨by simp; omega, hl, hm, ?_, ?_⟩
  · intro y hy
    simp only [List.mem_map] at hy
    obtain ⟨n, hn, rfl⟩ := hy
    have := hb n (List.mem_of_mem_take hn)
    omega
  · intro h0
    have hc := hcell 0 (by omega)
    obtain ⟨b, off, spot⟩ := x
    have hspot : spot = none := by simpa [Addr.add] using World.cell?_spot hc
    subst hspot
    have hlt := World.block_lt_of_cell? W _ hc
    refine ⟨b, off, rfl, by simpa [Addr.add] using hlt, fun j y hj => ?_⟩
    simp only [List.getElem?_map, Option.map_eq_some_iff, List.getElem?_take] at hj
    obtain ⟨n, hn, rfl⟩ := hj
    split at hn
    · have hj2 : j < zs.length := by
        rcases Nat.lt_or_ge j zs.length with h | h
        · exact h
        · rw [List.getElem?_eq_none h] at hn; cases hn
      have h1 := hcell j hj2
      have h2 : zs.getD j 0 = n := by simp [List.getD, hn]
      rw [h2] at h1
      have h3 := hb n (List.mem_of_getElem? hn)
      rw [show ((n.toNat : Nat) : Int) = n by omega]
      by_cases hj0 : j = 0
      · subst hj0; simpa [Addr.add] using h1
      · simpa [Addr.add, hj0] using h1
    · cases hn

theorem nb_of_row {W : World} {x : Addr} {len cap : Nat} {zs : List Int} (hl : len ≤ cap) (hm : cap ≤ maxLen) (hz : zs.length = cap) (hcell : ∀ i, i < zs.length → W.cell? (x.add i) = some (.int .u8 (zs.getD i 0))) (hwz : ∀ n ∈ zs, (Lit.int .u8 n).wf = true) :
    Nb W W.heap.size (some x) len cap ((zs.take len).map Int.toNat) := by
  have hb : ∀ n ∈ zs, 0 ≤ n ∧ n ≤ 255 := fun n hn => by
    have := hwz n hn
    simp [Lit.wf, IntKind.min, IntKind.max, IntKind.signed, IntKind.bits] at this
    omega
  refine ⟨by simp; omega, hl, hm, ?_, ?_⟩
  · intro y hy
    simp only [List.mem_map] at hy
    obtain ⟨n, hn, rfl⟩ := hy
    have := hb n (List.mem_of_mem_take hn)
    omega
  · intro h0
    have hc := hcell 0 (by omega)
    obtain ⟨b, off, spot⟩ := x
    have hspot : spot = none := by simpa [Addr.add] using World.cell?_spot hc
    subst hspot
    have hlt := World.block_lt_of_cell? W _ hc
    refine ⟨b, off, rfl, by simpa [Addr.add] using hlt, fun j y hj => ?_⟩
    simp only [List.getElem?_map, Option.map_eq_some_iff, List.getElem?_take] at hj
    obtain ⟨n, hn, rfl⟩ := hj
    split at hn
    · have hj2 : j < zs.length := by
        rcases Nat.lt_or_ge j zs.length with h | h
        · exact h
        · rw [List.getElem?_eq_none h] at hn; cases hn
      have h1 := hcell j hj2
      have h2 : zs.getD j 0 = n := by simp [List.getD, hn]
      rw [h2] at h1
      have h3 := hb n (List.mem_of_getElem? hn)
      rw [show ((n.toNat : Nat) : Int) = n by omega]
      by_cases hj0 : j = 0
      · subst hj0; simpa [Addr.add] using h1
      · simpa [Addr.add, hj0] using h1
    · cases hn


end Go.Proofs.YtkhlmcknbangfaaDoor
