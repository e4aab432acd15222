/- plane: PlaneWhole's walk. -/
import Derived.Test.YtnjieddkphappaaX6
import Derived.Test.YtnjieddkphappaaNL
import Derived.Deep.RegionHeld3
namespace Go.Proofs.Ytnjieddkphappaa
open Go.RowKit
set_option maxRecDepth 100000
set_option linter.unusedVariables false
def zsl (la lb : List Int) : List (Int × Int) := (la.zip lb).map fun p => (p.1.tmod 1099511627776, p.2.tmod 1099511627776)
theorem nfl_zsl (la lb : List Int) : nfl la lb = (zsl la lb).map fl2 := by unfold nfl zsl; rw [List.map_map]; rfl
theorem zsl_lim (la lb : List Int) : ∀ z ∈ zsl la lb, z.1.natAbs ≤ 1099511627776 ∧ z.2.natAbs ≤ 1099511627776 := by
  intro z hz
  obtain ⟨p, _, rfl⟩ := List.mem_map.1 hz
  exact ⟨Nat.le_of_lt (near_lt _), Nat.le_of_lt (near_lt _)⟩
theorem sum_lim {l : List Int} (h : ∀ x ∈ l, x.natAbs ≤ 1099511627776) : l.sum.natAbs ≤ l.length * 1099511627776 := by
  induction l with
  | nil => simp
  | cons x l ih =>
    have a := ih (fun y hy => h y (List.mem_cons_of_mem _ hy))
    have b := h x (by simp)
    rw [List.sum_cons, List.length_cons, Nat.add_mul, Nat.one_mul]
    omega
/-- what stands behind j points -/
structure Wst (w0 w : World) (la lb : List Int) (j : Nat) (A : Option Addr) (c : Nat) (x y : Int) (sb : Bool) : Prop where
  hg : Gc w w0.heap.size A j c ((nfl la lb).take j)
  hb : RowKit.Below w0.heap.size w0 w
  hx : x = (((zsl la lb).take j).map (·.1)).sum
  hy : y = (((zsl la lb).take j).map (·.2)).sum
  hs : sb = decide (∀ z ∈ (zsl la lb).take j, z = (zsl la lb).getD 0 (0, 0))
theorem Wst.lim {w0 w : World} {la lb : List Int} {j : Nat} {A : Option Addr} {c : Nat} {x y : Int} {b : Bool} (h : Wst w0 w la lb j A c x y b) (hj : j ≤ 100) : -109951162777600 ≤ x ∧ x ≤ 109951162777600 ∧ -109951162777600 ≤ y ∧ y ≤ 109951162777600 := by
  have a := sum_lim (l := ((zsl la lb).take j).map (·.1)) (by intro x hx; obtain ⟨z, hz, rfl⟩ := List.mem_map.1 hx; exact (zsl_lim la lb z (List.mem_of_mem_take hz)).1)
  have d := sum_lim (l := ((zsl la lb).take j).map (·.2)) (by intro x hx; obtain ⟨z, hz, rfl⟩ := List.mem_map.1 hx; exact (zsl_lim la lb z (List.mem_of_mem_take hz)).2)
  rw [← h.hx, List.length_map, List.length_take] at a
  rw [← h.hy, List.length_map, List.length_take] at d
  omega
theorem Wst.next {w0 w w' : World} {la lb : List Int} {j : Nat} {A A' : Option Addr} {c c' : Nat} {x y : Int} {b : Bool} {p q : Int} (h : Wst w0 w la lb j A c x y b) (hz : (zsl la lb)[j]? = some (p, q))
    (hg : Gc w' w0.heap.size A' (j + 1) c' ((nfl la lb).take j ++ [fl2 (p, q)])) (hb : RowKit.Below w0.heap.size w0 w') :
    Wst w0 w' la lb (j + 1) A' c' (x + p) (y + q) (b && decide ((p, q) = (zsl la lb).getD 0 (0, 0))) := by
  have ht : (zsl la lb).take (j + 1) = (zsl la lb).take j ++ [(p, q)] := by rw [List.take_add_one, hz]; rfl
  have hn : (nfl la lb).take (j + 1) = (nfl la lb).take j ++ [fl2 (p, q)] := by
    rw [List.take_add_one, nfl_zsl, List.getElem?_map, hz]; rfl
  refine ⟨by rw [hn]; exact hg, hb, ?_, ?_, ?_⟩
  · rw [ht, h.hx]; simp
  · rw [ht, h.hy]; simp
  · rw [ht, h.hs, ← Bool.decide_and]
    congr 1
    rw [eq_iff_iff]
    constructor
    · rintro ⟨a, d⟩ z hz'
      rcases List.mem_append.1 hz' with r | r
      · exact a z r
      · rw [List.mem_singleton] at r; rw [r]; exact d
    · intro a
      exact ⟨fun z r => a z (List.mem_append_left _ r), a _ (by simp)⟩
theorem bthen' {w0 w w' : World} (h : RowKit.Below w0.heap.size w0 w) (k : RowKit.Below w.heap.size w w') : RowKit.Below w0.heap.size w0 w' := h.trans (k.mono h.size)
theorem same_yes {a b c d : Nat} (h : od a c = some .eq) (k : od b d = some .eq) (w : World) : Calls Try.prog 18 #[.complex .f64 a b, .complex .f64 c d] w fun e w' => e = .returned (.bool true) ∧ w' = w := by
  refine (same_any a b c d w).mono ?_
  rintro e w' ⟨rfl, rfl⟩
  rw [h, k]
  exact ⟨rfl, rfl⟩
theorem tdiv_whole {x : Int} {j : Nat} (h0 : j ≠ 0) (h : x.tmod (j : Int) = 0) : x = x.tdiv j * j := by
  have := Int.mul_tdiv_add_tmod x j
  rw [h, Int.add_zero, Int.mul_comm] at this
  exact this.symm
theorem tdiv_lim' {x : Int} {j : Nat} (h : -109951162777600 ≤ x) (h2 : x ≤ 109951162777600) : -109951162777600 ≤ x.tdiv j ∧ x.tdiv j ≤ 109951162777600 := by
  have := Int.natAbs_tdiv_le_natAbs x j
  omega
set_option maxHeartbeats 4000000 in
theorem whole_law {w : World} {n c m d : Nat} {A A2 : Option Addr} {la lb : List Int} (h : Ix w w.heap.size A n la) (h2 : Ix w w.heap.size A2 m lb) :
    Calls Try.prog 7 #[.slice A n c, .slice A2 m d] w fun e w' => e = .returned (.bool true) ∧ RowKit.Below w.heap.size w w' := by
  have HA := Lib.hid h
  have HB := Lib.hid h2
  clear h h2
  go_enter Try.func7, Try.ntmps7
  by_cases e1 : 100 < (n : Int)
  · go_wp2_with fail
    refine (alive_any _).mono ?_
    rintro e w2 ⟨rfl, h5⟩
    have H5 := Lib.hid h5
    clear h5
    go_wp2_with fail
    go_ret
    exact ⟨rfl, H5.out⟩
  · have e1' : (100 < (n : Int)) = False := by simp only [e1]
    by_cases e2 : n = m
    case neg =>
      have e2' : ((n : Int) = (m : Int)) = False := by rw [eq_iff_iff]; exact ⟨fun q => e2 (by omega), False.elim⟩
      have e2'' : ((n : Int) == (m : Int)) = false := by rw [beq_eq_false_iff_ne]; omega
      go_wp2_with fail
      refine (alive_any _).mono ?_
      rintro e w2 ⟨rfl, h5⟩
      have H5 := Lib.hid h5
      clear h5
      go_wp2_with fail
      go_ret
      exact ⟨rfl, H5.out⟩
    subst e2
    by_cases e3 : n = 0
    case pos =>
      subst e3
      go_wp2_with fail
      refine (alive_any _).mono ?_
      rintro e w2 ⟨rfl, h5⟩
      have H5 := Lib.hid h5
      clear h5
      go_wp2_with fail
      go_ret
      exact ⟨rfl, H5.out⟩
    have e3' : ((n : Int) == 0) = false := by simpa using e3
    go_wp2_with fail
    go_loopw [5, 6, 7, 8, 9] (fun l vx vy vb i wr => ∃ (j : Nat) (A1 : Option Addr) (c1 : Nat) (x y : Int) (b : Bool), j ≤ n ∧ i = .int .i64 (j : Int) ∧ l = .slice A1 j c1 ∧ vx = .int .i64 x ∧ vy = .int .i64 y ∧ vb = .bool b ∧ Wst w wr la lb j A1 c1 x y b) (fun l vx vy vb i _ => (n - (match i with | .int _ z => z.toNat | _ => 0)))
    case atStart => exact ⟨0, none, 0, 0, 0, true, by omega, rfl, rfl, rfl, rfl, rfl, ⟨Gc.nil _ _, Below.refl _ _, by simp, by simp, by simp⟩⟩
    case round =>
      obtain ⟨j, A1, c1, x, y, b, hjn, rfl, rfl, rfl, rfl, rfl, hW⟩ := hrel
      have HW := Lib.hid hW
      clear hW
      have hla := HA.out.1
      have hlb := HB.out.1
      by_cases e4 : (j : Int) < (n : Int)
      · obtain ⟨p, hp⟩ : ∃ z, la[j]? = some z := ⟨_, List.getElem?_eq_getElem (by omega)⟩
        obtain ⟨q, hq⟩ : ∃ z, lb[j]? = some z := ⟨_, List.getElem?_eq_getElem (by omega)⟩
        obtain ⟨p0, hp0⟩ : ∃ z, la[0]? = some z := ⟨_, List.getElem?_eq_getElem (by omega)⟩
        obtain ⟨q0, hq0⟩ : ∃ z, lb[0]? = some z := ⟨_, List.getElem?_eq_getElem (by omega)⟩
        have hz : (zsl la lb)[j]? = some (p.tmod 1099511627776, q.tmod 1099511627776) := by
          unfold zsl
          rw [List.getElem?_map, show (la.zip lb)[j]? = some (p, q) from by rw [List.getElem?_zip_eq_some]; exact ⟨hp, hq⟩]; rfl
        have hz0 : (zsl la lb).getD 0 (0, 0) = (p0.tmod 1099511627776, q0.tmod 1099511627776) := by
          unfold zsl
          rw [List.getD_eq_getElem?_getD, List.getElem?_map, show (la.zip lb)[0]? = some (p0, q0) from by rw [List.getElem?_zip_eq_some]; exact ⟨hp0, hq0⟩]; rfl
        rcases (HA.out.below HW.out.hb (Nat.le_refl _)).2 with h00 | ⟨g, off, rfl, hg, hc⟩
        · omega
        rcases (HB.out.below HW.out.hb (Nat.le_refl _)).2 with h00 | ⟨g2, off2, rfl, hg2, hc2⟩
        · omega
        have hcx := hc j p hp
        have hcy := hc2 j q hq
        have hcx0 := hc 0 p0 hp0
        have hcy0 := hc2 0 q0 hq0
        have HZ := Lib.hid hz
        have HZ0 := Lib.hid hz0
        clear hp hq hp0 hq0 hz hz0 hla hlb
        clear hc hc2
        go_wp2_with fail
        go_quiet ((go_at_call 28; exact Calls.quiet_of_same (near_any _ _)))
        obtain ⟨P, hP⟩ : ∃ P, P = p.tmod 1099511627776 := ⟨_, rfl⟩
        obtain ⟨Q, hQ⟩ : ∃ Q, Q = q.tmod 1099511627776 := ⟨_, rfl⟩
        obtain ⟨P0, hP0⟩ : ∃ P, P = p0.tmod 1099511627776 := ⟨_, rfl⟩
        obtain ⟨Q0, hQ0⟩ : ∃ Q, Q = q0.tmod 1099511627776 := ⟨_, rfl⟩
        have HN := Lib.hid (And.intro hP0 hQ0)
        have hlim := HW.out.lim (by omega)
        have hPl := near_lt p
        have hQl := near_lt q
        rw [← hP, ← hQ] at HZ
        rw [← hP0, ← hQ0] at HZ0
        rw [← hP] at hPl ⊢
        rw [← hQ] at hQl ⊢
        have s1 : wrap64 (x + P) = x + P := by unfold wrap64; omega
        have s2 : wrap64 (y + Q) = y + Q := by unfold wrap64; omega
        obtain ⟨w2, hw2⟩ : ∃ w2, w2 = wr.drewN nq := ⟨_, rfl⟩
        have k0 : w2.cell? ⟨g, off + 0, none⟩ = some (.int .i64 p0) := by rw [hw2]; exact hcx0
        have k1 : w2.cell? ⟨g2, off2 + 0, none⟩ = some (.int .i64 q0) := by rw [hw2]; exact hcy0
        have HG2 := Lib.hid (show Gc (w2.alloc (.cells #[.complex .f64 (floatOfInt .f64 P) (floatOfInt .f64 Q)] 23)) w.heap.size A1 j c1 ((nfl la lb).take j) by
          rw [hw2]
          exact Gc.kept (w := wr.drewN nq) HW.out.hg (World.grownBy_alloc _ _ none) (by cases blk A1 <;> simp))
        have HB2 := Lib.hid (show RowKit.Below w.heap.size w w2 by rw [hw2]; exact below_drewN HW.out.hb nq)
        rw [← hw2]
        clear hw2 hcx hcy hcx0 hcy0 hP hQ hP0 hQ0 hlim hPl hQl
        go_wp2_with fail
        refine (point_any _ _ _).mono ?_
        rintro e w2 ⟨rfl, rfl⟩
        go_upto_region 11 with (at_builtin; refine wpList_appc (y := (floatOfInt .f64 P, floatOfInt .f64 Q)) _ rfl (.tmp 49) (.tmp 53) rfl rfl HG2.out rfl (Boxed.new w2 23 (.complex .f64 (floatOfInt .f64 P) (floatOfInt .f64 Q))) (by omega) (HB2.out.alloc HB2.out.size _).size ?_; intro Ax cx w3 hg1 hk1 hat1)
        have hb3 : RowKit.Below w.heap.size w w3 := (HB2.out.alloc HB2.out.size _).grown hk1 (HB2.out.alloc HB2.out.size _).size fun k hk => (HG2.out.lt k hk).1
        have m0 : w3.cell? ⟨g, off + 0, none⟩ = some (.int .i64 p0) := (hb3.cell hg).trans ((HB2.out.cell (p := ⟨g, off + 0, none⟩) hg).symm.trans k0)
        have m1 : w3.cell? ⟨g2, off2 + 0, none⟩ = some (.int .i64 q0) := (hb3.cell hg2).trans ((HB2.out.cell (p := ⟨g2, off2 + 0, none⟩) hg2).symm.trans k1)
        simp only [Nat.add_zero] at m0 m1
        have S1 := Lib.hid s1
        have S2 := Lib.hid s2
        have NX := Lib.hid (show ∀ sb u v, u = x + P → v = y + Q → sb = (b && decide ((P, Q) = (P0, Q0))) → Wst w w3 la lb (j + 1) Ax cx u v sb by
          intro sb u v hu hv hsb
          rw [hu, hv, hsb, ← HZ0.out]
          exact HW.out.next HZ.out hg1 hb3)
        clear k0 k1 HG2 HB2 hg1 hk1 hat1 hb3 HW HZ HZ0
        cases b with
        | false =>
          go_wp2_with fail
          refine ⟨⟨j + 1, _, _, _, _, _, by omega, rfl, rfl, rfl, rfl, rfl, NX.out _ _ _ (by first | exact S1.out | rfl | (rw [← hpp]; exact S1.out) | rw [← hpp]) (by first | exact S2.out | rfl | (rw [← hqq]; exact S2.out) | rw [← hqq]) (by simp)⟩, by show n - ((j : Int) + 1).toNat < n - (j : Int).toNat; omega⟩
        | true =>
          by_cases hpp : P = P0
          · by_cases hqq : Q = Q0
            · go_wp2_with fail
              refine (near_any _ _).mono ?_
              rintro e w4 ⟨rfl, rfl⟩
              rw [← HN.out.1, ← hpp]
              go_wp2_with fail
              refine (near_any _ _).mono ?_
              rintro e w4 ⟨rfl, rfl⟩
              rw [← HN.out.2, ← hqq]
              go_wp2_with fail
              refine ⟨⟨j + 1, _, _, _, _, _, by omega, rfl, rfl, rfl, rfl, rfl, NX.out _ _ _ (by first | exact S1.out | rfl | (rw [← hpp]; exact S1.out) | rw [← hpp]) (by first | exact S2.out | rfl | (rw [← hqq]; exact S2.out) | rw [← hqq]) (by simp [hpp, hqq])⟩, by show n - ((j : Int) + 1).toNat < n - (j : Int).toNat; omega⟩
            · have q1 : (Q = Q0) = False := by simp only [hqq]
              have q2 : (Q == Q0) = false := by simpa using hqq
              go_wp2_with fail
              refine (near_any _ _).mono ?_
              rintro e w4 ⟨rfl, rfl⟩
              rw [← HN.out.1, ← hpp]
              go_wp2_with fail
              refine (near_any _ _).mono ?_
              rintro e w4 ⟨rfl, rfl⟩
              rw [← HN.out.2]
              go_wp2_with fail
              refine ⟨⟨j + 1, _, _, _, _, _, by omega, rfl, rfl, rfl, rfl, rfl, NX.out _ _ _ (by first | exact S1.out | rfl | (rw [← hpp]; exact S1.out) | rw [← hpp]) (by first | exact S2.out | rfl | (rw [← hqq]; exact S2.out) | rw [← hqq]) (by simp [hqq])⟩, by show n - ((j : Int) + 1).toNat < n - (j : Int).toNat; omega⟩
          · have q1 : (P = P0) = False := by simp only [hpp]
            have q2 : (P == P0) = false := by simpa using hpp
            go_wp2_with fail
            refine (near_any _ _).mono ?_
            rintro e w4 ⟨rfl, rfl⟩
            rw [← HN.out.1]
            go_wp2_with fail
            refine ⟨⟨j + 1, _, _, _, _, _, by omega, rfl, rfl, rfl, rfl, rfl, NX.out _ _ _ (by first | exact S1.out | rfl | (rw [← hpp]; exact S1.out) | rw [← hpp]) (by first | exact S2.out | rfl | (rw [← hqq]; exact S2.out) | rw [← hqq]) (by simp [hpp])⟩, by show n - ((j : Int) + 1).toNat < n - (j : Int).toNat; omega⟩
      · have e4' : ((j : Int) < (n : Int)) = False := by simp only [e4]
        have hj : j = n := by omega
        subst hj
        obtain ⟨zs, hzs⟩ : ∃ zs, zs = zsl la lb := ⟨_, rfl⟩
        have hzl : zs.length = j := by rw [hzs]; unfold zsl; rw [List.length_map, List.length_zip]; omega
        have HZL := Lib.hid (show ∀ z ∈ zs, z.1.natAbs ≤ 1099511627776 ∧ z.2.natAbs ≤ 1099511627776 by rw [hzs]; exact zsl_lim la lb)
        have h1 := HW.out.hg
        have h2 := HW.out.hx
        have h3 := HW.out.hy
        have h4 := HW.out.hs
        have h5 := HW.out.hb
        rw [nfl_zsl, ← hzs, List.take_of_length_le (by rw [List.length_map]; omega)] at h1
        rw [← hzs, List.take_of_length_le (by omega)] at h2 h3 h4
        have HR := Lib.hid h1.rd
        have HX := Lib.hid (And.intro h2 h3)
        have HS := Lib.hid h4
        have HBl := Lib.hid h5
        have HL := Lib.hid hzl
        clear h1 h2 h3 h4 h5 HW hzs hzl hla hlb HA HB
        have hfit : fitE j = 0 := by unfold fitE; rw [if_neg (by omega), if_neg (by omega)]
        have HF := Lib.hid hfit
        clear hfit
        go_wp2_with fail
        refine (mean_yes HR.out (Nat.le_refl _) HF.out).mono ?_
        rintro e w2 ⟨⟨r1, r2, rfl, hr1, hr2⟩, hb2⟩
        have HR1 := Lib.hid hr1
        have HR2 := Lib.hid hr2
        have HB2 := Lib.hid hb2
        clear hr1 hr2 hb2
        go_wp2_with fail
        refine (spread_yes (HR.out.below HB2.out (Nat.le_refl _)) HB2.out.size HF.out).mono ?_
        rintro e w3 ⟨⟨S, rfl, hS⟩, hb3⟩
        have HB3 := Lib.hid (bthen' HBl.out (HB2.out.trans (hb3.mono HB2.out.size)))
        have HSS := Lib.hid (show okF S (sprd zs) from hS)
        clear hS hb3 HB2
        have hz0 : zs.getD 0 (0, 0) ∈ zs := by
          rw [List.getD_eq_getElem?_getD, List.getElem?_eq_getElem (show 0 < zs.length by have := HL.out; omega)]
          exact List.getElem_mem _
        have hcase : ∃ o, FloatKind.f64.format.order S 0 = some o ∧ (o = .eq ∧ b = true ∨ o = .gt ∧ b = false) := by
          rcases spread_same HZL.out hz0 (by have := HL.out; omega) with ⟨a, d⟩ | ⟨a, d⟩
          · have e : S = 0 := okF_eq (a ▸ HSS.out) (by decide +kernel)
            subst e
            exact ⟨_, od_zero, .inl ⟨rfl, by rw [HS.out]; simpa using d⟩⟩
          · have e : S = sprd zs := okF_eq HSS.out (big_nn a)
            exact ⟨_, by rw [e]; exact od_big a (by omega), .inr ⟨rfl, by rw [HS.out]; simpa using d⟩⟩
        have hx := HX.out.1
        have hy := HX.out.2
        have xl := sum_lim (l := zs.map (·.1)) (by intro x hx; obtain ⟨z, hz, rfl⟩ := List.mem_map.1 hx; exact (HZL.out z hz).1)
        have yl := sum_lim (l := zs.map (·.2)) (by intro x hx; obtain ⟨z, hz, rfl⟩ := List.mem_map.1 hx; exact (HZL.out z hz).2)
        rw [← hx, List.length_map, HL.out] at xl
        rw [← hy, List.length_map, HL.out] at yl
        have hdiv : x.tmod (j : Int) = 0 → y.tmod (j : Int) = 0 → od r1 (floatOfInt .f64 (x.tdiv j)) = some .eq ∧ od r2 (floatOfInt .f64 (y.tdiv j)) = some .eq := by
          intro dx dy
          have e1 : (zs.map fl2).map (·.1) = (zs.map (·.1)).map fun x => floatOfInt .f64 x := by rw [List.map_map, List.map_map]; rfl
          have e2 : (zs.map fl2).map (·.2) = (zs.map (·.2)).map fun x => floatOfInt .f64 x := by rw [List.map_map, List.map_map]; rfl
          have g1 := HR1.out
          have g2 := HR2.out
          rw [e1, mean_ofInt (f := 1099511627776) (q := x.tdiv j) (by intro x hx; obtain ⟨z, hz, rfl⟩ := List.mem_map.1 hx; exact (HZL.out z hz).1) (by rw [List.length_map, HL.out]; omega) (by rw [List.length_map, HL.out]; exact e3) (by rw [List.length_map, HL.out]; omega) (by rw [List.length_map, HL.out, ← hx]; exact tdiv_whole e3 dx)] at g1
          rw [e2, mean_ofInt (f := 1099511627776) (q := y.tdiv j) (by intro x hx; obtain ⟨z, hz, rfl⟩ := List.mem_map.1 hx; exact (HZL.out z hz).2) (by rw [List.length_map, HL.out]; omega) (by rw [List.length_map, HL.out]; exact e3) (by rw [List.length_map, HL.out]; omega) (by rw [List.length_map, HL.out, ← hy]; exact tdiv_whole e3 dy)] at g2
          rw [okF_eq g1 (ofInt_nn _), okF_eq g2 (ofInt_nn _)]
          exact ⟨od_self_eq.2 (ofInt_nn _), od_self_eq.2 (ofInt_nn _)⟩
        have HD := Lib.hid hdiv
        have HXY := Lib.hid (show (-109951162777600 ≤ x ∧ x ≤ 109951162777600) ∧ -109951162777600 ≤ y ∧ y ≤ 109951162777600 by omega)
        clear hx hy xl yl hdiv hz0 HSS HR1 HR2 HZL HL HX HS HF HR HBl
        obtain ⟨o, ho, hc⟩ := hcase
        by_cases dx : x.tmod (j : Int) = 0
        · by_cases dy : y.tmod (j : Int) = 0
          · obtain ⟨E1, E2⟩ := HD.out dx dy
            have H1 := Lib.hid E1
            have H2 := Lib.hid E2
            have t1 : wrap64 (x.tdiv j) = x.tdiv j := by have := tdiv_lim' (j := j) HXY.out.1.1 HXY.out.1.2; unfold wrap64; omega
            have t2 : wrap64 (y.tdiv j) = y.tdiv j := by have := tdiv_lim' (j := j) HXY.out.2.1 HXY.out.2.2; unfold wrap64; omega
            have t3 : IntKind.i64.wrap (x.tdiv j) = x.tdiv j := by have := tdiv_lim' (j := j) HXY.out.1.1 HXY.out.1.2; rw [IntKind.wrap_i64]; omega
            have t4 : IntKind.i64.wrap (y.tdiv j) = y.tdiv j := by have := tdiv_lim' (j := j) HXY.out.2.1 HXY.out.2.2; rw [IntKind.wrap_i64]; omega
            clear E1 E2 HD
            have hb4 := below_drewN HB3.out 1
            rcases hc with ⟨rfl, rfl⟩ | ⟨rfl, rfl⟩
            · go_wp2_with fail
              go_region_held3 (fun w' => RowKit.Below w.heap.size w w')
                (first | exact hb4 | exact hbn | assumption)
                (first
                | (go_at_call 15; refine (alive_any _).mono ?_; rintro e wn ⟨rfl, bn⟩; have hbn : RowKit.Below w.heap.size w wn := hb4.trans (bn.mono hb4.size); clear bn; dsimp only)
                | (go_at_call 10; refine (point_any _ _ _).mono ?_; rintro e wn ⟨rfl, rfl⟩; dsimp only)
                | (go_at_call 18; refine (same_yes H1.out H2.out _).mono ?_; rintro e wn ⟨rfl, rfl⟩; dsimp only))
              go_wp2_with fail
              go_ret
              exact ⟨rfl, hbn⟩
            · go_wp2_with fail
              go_region_held3 (fun w' => RowKit.Below w.heap.size w w')
                (first | exact hb4 | exact hbn | assumption)
                (first
                | (go_at_call 15; refine (alive_any _).mono ?_; rintro e wn ⟨rfl, bn⟩; have hbn : RowKit.Below w.heap.size w wn := hb4.trans (bn.mono hb4.size); clear bn; dsimp only)
                | (go_at_call 10; refine (point_any _ _ _).mono ?_; rintro e wn ⟨rfl, rfl⟩; dsimp only)
                | (go_at_call 18; refine (same_yes H1.out H2.out _).mono ?_; rintro e wn ⟨rfl, rfl⟩; dsimp only))
              go_wp2_with fail
              go_ret
              exact ⟨rfl, hbn⟩
          · have d2 : (y.tmod (j : Int) == 0) = false := by simpa using dy
            rcases hc with ⟨rfl, rfl⟩ | ⟨rfl, rfl⟩
            all_goals
              go_wp2_with fail
              refine (alive_any _).mono ?_
              rintro e w4 ⟨rfl, h5⟩
              have H5 := Lib.hid (HB3.out.trans (h5.mono HB3.out.size))
              clear h5
              go_wp2_with fail
              go_ret
              exact ⟨rfl, H5.out⟩
        · have d2 : (x.tmod (j : Int) == 0) = false := by simpa using dx
          rcases hc with ⟨rfl, rfl⟩ | ⟨rfl, rfl⟩
          all_goals
            go_wp2_with fail
            refine (alive_any _).mono ?_
            rintro e w4 ⟨rfl, h5⟩
            have H5 := Lib.hid (HB3.out.trans (h5.mono HB3.out.size))
            clear h5
            go_wp2_with fail
            go_ret
            exact ⟨rfl, H5.out⟩
end Go.Proofs.Ytnjieddkphappaa
