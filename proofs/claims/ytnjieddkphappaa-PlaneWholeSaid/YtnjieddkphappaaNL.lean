/- plane: PlaneNear's walk. -/
import Derived.Test.YtnjieddkphappaaT3
import Derived.Test.YtnjieddkphappaaS3
namespace Go.Proofs.Ytnjieddkphappaa
open Go.RowKit
set_option maxRecDepth 100000
set_option linter.unusedVariables false
def Ix (w : World) (B : Nat) (A : Option Addr) (n : Nat) (xs : List Int) : Prop :=
  xs.length = n ∧ (n = 0 ∨ ∃ g off, A = some ⟨g, off, none⟩ ∧ g < B ∧ ∀ (i : Nat) (z : Int), xs[i]? = some z → w.cell? ⟨g, off + i, none⟩ = some (.int .i64 z))
theorem Ix.below {w w' : World} {B C n : Nat} {A : Option Addr} {xs : List Int} (h : Ix w B A n xs) (b : RowKit.Below C w w') (hB : B ≤ C) : Ix w' B A n xs := by
  refine ⟨h.1, h.2.imp id ?_⟩
  rintro ⟨g, off, rfl, hg, hc⟩
  exact ⟨g, off, rfl, hg, fun i z hz => by rw [b.cell (by show g < C; omega)]; exact hc i z hz⟩
theorem wp_appc (w : World) {o : Oper} {a : Act} {K : Act → World → Prop} {Q : Exit → Act → World → Prop} (s x : Operand)
    (ho : o.op = .call { callee := .builtin .append, args := #[s, x], argTypes := #[38, 38] }) {base n c g : Nat} {y : Nat × Nat} {A : Option Addr} {xs : List (Nat × Nat)} {w0 : World}
    (hs : a.eval s = .slice A n c) (hown : Gc w base A n c xs) (hx : a.eval x = .slice (some ⟨g, 0, none⟩) 1 1) (hc : Boxed w g 23 (.complex .f64 y.1 y.2))
    (hn : n ≤ 1099511627776) (hb : RowKit.Below base w0 w) (hbase : base ≤ w.heap.size)
    (h : ∀ A' c' w', Gc w' base A' (n + 1) c' (xs ++ [y]) → RowKit.Below base w0 w' → K (a.put o.dst (.slice A' (n + 1) c')) w') : Oper.wp Try.prog o a w K Q := by
  obtain ⟨i0, hi, hz0, hz1, hz2⟩ := info_parts i23
  obtain ⟨v', w', hr, h2, h3, _⟩ := run_append_own (P := Try.prog) w base 38 o.type 23 i0 (.complex .f64 0 0) 1 16 Try.underlying38 hi hz0 hz1 hz2 rfl (by decide) _ n (xs.map fun z => .complex .f64 z.1 z.2) hown.2 ⟨g, 0, none⟩ 1 1 [.complex .f64 y.1 y.2] (by rfl) (by
    intro j u hj
    have hc' : w.heap[g]? = _ := hc
    exact World.news_of_block hc' j u hj) (by intro u hu; simp at hu; subst hu; rfl) (by unfold maxLen; omega) (by omega) hbase
  obtain ⟨A', c', rfl⟩ := own_shape h2
  unfold Oper.wp execOp
  simp only [ho, resolve, invoke, builtin, Sem.run_bind, Sem.run_pure, Result.andThen_ok, List.map_toArray, List.map_cons, List.map_nil, hs, hx, hr]
  exact h A' c' w' ⟨by simp [hown.1], by rw [List.map_append]; exact h2⟩ (hb.grown h3 hbase fun k hk => (hown.2.lt k hk).1)
def nfl (la lb : List Int) : List (Nat × Nat) := (la.zip lb).map fun p => (nf p.1, nf p.2)
theorem far_fin_two {a b c d : Nat} (ha : isF a) (hb : isF b) (hc : isF c) (hd : isF d) (w : World) : Calls Try.prog 16 #[.complex .f64 a b, .complex .f64 c d] w fun e w' => e = .returned (.float .f64 (farC a b c d)) ∧ ∃ k, w' = w.drewN k := far_fin_any ha hb hc hd w
set_option maxHeartbeats 4000000 in
theorem near_law {w : World} {n c m d : Nat} {A A2 : Option Addr} {la lb : List Int} (h : Ix w w.heap.size A n la) (h2 : Ix w w.heap.size A2 m lb) (x y : Int) :
    Calls Try.prog 8 #[.slice A n c, .slice A2 m d, .int .i64 x, .int .i64 y] w fun e w' => e = .returned (.bool true) ∧ RowKit.Below w.heap.size w w' := by
  have HA := Lib.hid h
  have HB := Lib.hid h2
  clear h h2
  go_enter Try.func8, Try.ntmps8
  by_cases e1 : 100 < (n : Int)
  · go_wp2_with fail
    refine (alive_any _).mono ?_
    rintro e w2 ⟨rfl, h5⟩
    have H5 := Lib.hid h5
    clear h5
    go_wp2_with fail
    go_ret
    exact ⟨rfl, H5.out⟩
  · have e1' : (100 < (n : Int)) = False := by simp only [e1]
    by_cases e2 : n = m
    case neg =>
      have e2' : ((n : Int) = (m : Int)) = False := by rw [eq_iff_iff]; exact ⟨fun q => e2 (by omega), False.elim⟩
      have e2'' : ((n : Int) == (m : Int)) = false := by rw [beq_eq_false_iff_ne]; omega
      go_wp2_with fail
      refine (alive_any _).mono ?_
      rintro e w2 ⟨rfl, h5⟩
      have H5 := Lib.hid h5
      clear h5
      go_wp2_with fail
      go_ret
      exact ⟨rfl, H5.out⟩
    subst e2
    by_cases e3 : n = 0
    case pos =>
      subst e3
      go_wp2_with fail
      refine (alive_any _).mono ?_
      rintro e w2 ⟨rfl, h5⟩
      have H5 := Lib.hid h5
      clear h5
      go_wp2_with fail
      go_ret
      exact ⟨rfl, H5.out⟩
    have e3' : ((n : Int) == 0) = false := by simpa using e3
    go_wp2_with fail
    go_loopw [9, 10] (fun l i wr => ∃ (j : Nat) (A1 : Option Addr) (c1 : Nat), j ≤ n ∧ i = .int .i64 (j : Int) ∧ l = .slice A1 j c1 ∧ Gc wr w.heap.size A1 j c1 ((nfl la lb).take j) ∧ RowKit.Below w.heap.size w wr) (fun l i _ => (n - (match i with | .int _ z => z.toNat | _ => 0)))
    case atStart => exact ⟨0, none, 0, by omega, rfl, rfl, Gc.nil _ _, Below.refl _ _⟩
    case round =>
      obtain ⟨j, A1, c1, hjn, rfl, rfl, hG, hb⟩ := hrel
      have HG := Lib.hid hG
      have HBl := Lib.hid hb
      clear hG hb
      have hla := HA.out.1
      have hlb := HB.out.1
      by_cases e4 : (j : Int) < (n : Int)
      · obtain ⟨p, hp⟩ : ∃ z, la[j]? = some z := ⟨_, List.getElem?_eq_getElem (by omega)⟩
        obtain ⟨q, hq⟩ : ∃ z, lb[j]? = some z := ⟨_, List.getElem?_eq_getElem (by omega)⟩
        have hz : (nfl la lb)[j]? = some (nf p, nf q) := by
          unfold nfl
          rw [List.getElem?_map, show (la.zip lb)[j]? = some (p, q) from by rw [List.getElem?_zip_eq_some]; exact ⟨hp, hq⟩]; rfl
        rcases (HA.out.below HBl.out (Nat.le_refl _)).2 with h00 | ⟨g, off, rfl, hg, hc⟩
        · omega
        rcases (HB.out.below HBl.out (Nat.le_refl _)).2 with h00 | ⟨g2, off2, rfl, hg2, hc2⟩
        · omega
        have hcx := hc j p hp
        have hcy := hc2 j q hq
        have HZ := Lib.hid hz
        clear hc hc2 hp hq hz hla hlb
        go_wp2_with fail
        have HG2 := Lib.hid (show Gc (wr.alloc (.cells #[.complex .f64 (nf p) (nf q)] 23)) w.heap.size A1 j c1 ((nfl la lb).take j) from HG.out.kept (World.grownBy_alloc wr _ none) (by cases blk A1 <;> simp))
        have HB2 := Lib.hid (HBl.out.alloc HBl.out.size (.cells #[.complex .f64 (nf p) (nf q)] 23))
        go_region_law (first
          | (go_simp; go_at_call 28; refine (near_any _ _).mono ?_; rintro e wn ⟨rfl, rfl⟩; dsimp only)
          | (go_simp; go_at_call 10; refine (point_any _ _ _).mono ?_; rintro e wn ⟨rfl, rfl⟩; dsimp only)
          | (refine wp_appc (y := (nf p, nf q)) (w0 := w) _ (.tmp 37) (.tmp 49) rfl rfl HG2.out rfl (Boxed.new wr 23 (.complex .f64 (nf p) (nf q))) (by omega) HB2.out.drew HB2.out.drew.size ?_; intro A' c' w' hg hk))
        all_goals
          have HG3 := Lib.hid hg
          have HB3 := Lib.hid hk
          clear hg hk HG2 HB2
          go_wp2_with fail
          refine ⟨⟨j + 1, _, _, by omega, rfl, rfl, ?_, HB3.out⟩, by show n - ((j : Int) + 1).toNat < n - (j : Int).toNat; omega⟩
          rw [List.take_add_one, HZ.out]
          exact HG3.out
      · have e4' : ((j : Int) < (n : Int)) = False := by simp only [e4]
        have hj : j = n := by omega
        subst hj
        obtain ⟨L, hL⟩ : ∃ L, L = nfl la lb := ⟨_, rfl⟩
        have hLl : L.length = j := by rw [hL]; unfold nfl; rw [List.length_map, List.length_zip]; omega
        have hLf : ∀ i, isF (L.getD i (0, 0)).1 ∧ isF (L.getD i (0, 0)).2 := by
          intro i
          rw [hL, List.getD_eq_getElem?_getD]
          unfold nfl
          rw [List.getElem?_map]
          cases (la.zip lb)[i]? with
          | none => exact ⟨by unfold isF; decide, by unfold isF; decide⟩
          | some v => exact ⟨nf_fin _, nf_fin _⟩
        have HG2 := HG.out
        rw [← hL, List.take_of_length_le (by omega)] at HG2
        have HR := Lib.hid HG2.rd
        have HLf := Lib.hid hLf
        clear hL HG2 HG hLf hla hlb
        go_wp2_with fail
        refine (near_any _ _).mono ?_
        rintro e w1 ⟨rfl, rfl⟩
        go_wp2_with fail
        refine (near_any _ _).mono ?_
        rintro e w1 ⟨rfl, rfl⟩
        go_wp2_with fail
        refine (point_any _ _ _).mono ?_
        rintro e w1 ⟨rfl, rfl⟩
        obtain ⟨u, hu⟩ : ∃ u, u = nf x := ⟨_, rfl⟩
        obtain ⟨v, hv⟩ : ∃ v, v = nf y := ⟨_, rfl⟩
        rw [show floatOfInt FloatKind.f64 (x.tmod 1099511627776) = u from hu.symm, show floatOfInt FloatKind.f64 (y.tmod 1099511627776) = v from hv.symm]
        have FU := Lib.hid (show isF u by rw [hu]; exact nf_fin x)
        have FV := Lib.hid (show isF v by rw [hv]; exact nf_fin y)
        clear hu hv
        go_wp2_with fail
        have hfit : fitE j = 0 := by unfold fitE; rw [if_neg (by omega), if_neg (by omega)]
        refine (nearest_yes u v HR.out (Nat.le_refl _) hfit).mono ?_
        rintro e w2 ⟨rfl, hb2⟩
        obtain ⟨D, hD⟩ := od_ints j (fun i => farC (L.getD i (0, 0)).1 (L.getD i (0, 0)).2 u v) (fun i _ => far_nn (HLf.out i).1 (HLf.out i).2 FU.out FV.out)
        obtain ⟨hk, hmin⟩ := near_least (z := (u, v)) hD j (by omega) (Nat.le_refl _)
        obtain ⟨k, hkk⟩ : ∃ k, k = nearC L (u, v) j := ⟨_, rfl⟩
        rw [← hkk] at hk hmin ⊢
        have HD := Lib.hid hD
        have HM := Lib.hid hmin
        have HR2 := Lib.hid (HR.out.below hb2 (Nat.le_refl _))
        have HB2 := Lib.hid (HBl.out.trans (hb2.mono HBl.out.size))
        have k0 : ((k : Int) < 0) = False := by rw [eq_iff_iff]; exact ⟨fun q => by omega, False.elim⟩
        have k1 : ((j : Int) ≤ (k : Int)) = False := by rw [eq_iff_iff]; exact ⟨fun q => by omega, False.elim⟩
        have k2 : (k : Int) < (j : Int) := by omega
        have k3 : (0 : Int) ≤ (k : Int) := by omega
        clear hD hmin hkk hb2 hfit
        go_wp2_with fail
        have hl2 := HR2.out.1
        obtain ⟨b, off, rfl, _, hc⟩ := HR2.out.2.resolve_left (by omega)
        have HC := Lib.hid hc
        clear hc HR HR2
        go_loopw [14] (fun i wr => ∃ i0 : Nat, i0 ≤ j ∧ i = .int .i64 (i0 : Int) ∧ ∃ kk, wr = w2.drewN kk) (fun i _ => (j - (match i with | .int _ z => z.toNat | _ => 0)))
        case atStart => exact ⟨0, by omega, rfl, 0, rfl⟩
        case round =>
          obtain ⟨i0, hi0, rfl, kk, hwr⟩ := hrel
          have HW := Lib.hid hwr
          by_cases e5 : (i0 : Int) < (j : Int)
          · obtain ⟨⟨p1, p2⟩, hp⟩ : ∃ z, L[i0]? = some z := ⟨_, List.getElem?_eq_getElem (by omega)⟩
            obtain ⟨⟨q1, q2⟩, hq⟩ : ∃ z, L[k]? = some z := ⟨_, List.getElem?_eq_getElem (by omega)⟩
            have g1 : L.getD i0 (0, 0) = (p1, p2) := by rw [List.getD_eq_getElem?_getD, hp]; rfl
            have g2 : L.getD k (0, 0) = (q1, q2) := by rw [List.getD_eq_getElem?_getD, hq]; rfl
            have hcp := HC.out i0 _ hp
            have hcq := HC.out k _ hq
            rw [← World.cell?_drewN w2 kk, ← hwr] at hcp hcq
            clear hwr
            have P1 := Lib.hid (show isF p1 by have := (HLf.out i0).1; rwa [g1] at this)
            have P2 := Lib.hid (show isF p2 by have := (HLf.out i0).2; rwa [g1] at this)
            have Q1 := Lib.hid (show isF q1 by have := (HLf.out k).1; rwa [g2] at this)
            have Q2 := Lib.hid (show isF q2 by have := (HLf.out k).2; rwa [g2] at this)
            have hor := HD.out i0 k (by omega) hk
            simp only [g1, g2] at hor
            have hm := HM.out i0 (by omega)
            have HO : (∃ o, FloatKind.f64.format.order (farC p1 p2 u v) (farC q1 q2 u v) = some o ∧ (i0 < k ∧ o = .gt ∨ ¬ i0 < k ∧ (o = .eq ∨ o = .gt))) := by
              refine ⟨_, hor, ?_⟩
              by_cases h : i0 < k
              · exact .inl ⟨h, Int.compare_eq_gt.2 (hm.2 h)⟩
              · refine .inr ⟨h, ?_⟩
                rcases Int.lt_or_eq_of_le hm.1 with q | q
                · exact .inr (Int.compare_eq_gt.2 q)
                · exact .inl (Int.compare_eq_eq.2 q.symm)
            clear hor hm g1 g2 hp hq HLf HC HD HM
            obtain ⟨o, ho, hc⟩ := HO
            rcases hc with ⟨h1, rfl⟩ | ⟨h1, rfl | rfl⟩
            · have i1 : (i0 : Int) < (k : Int) := by omega
              clear h1
              go_wp2_with fail
              go_quiet ((go_at_call 16; (first | with_reducible exact Calls.quiet_of (far_fin_two (a := p1) (b := p2) P1.out P2.out FU.out FV.out _) | with_reducible exact Calls.quiet_of (far_fin_two (a := q1) (b := q2) Q1.out Q2.out FU.out FV.out _))))
              obtain rfl := HW.out
              go_wp2_with fail
              exact ⟨⟨i0 + 1, by omega, rfl, _, rfl⟩, by show j - ((i0 : Int) + 1).toNat < j - (i0 : Int).toNat; omega⟩
            · have i1 : ((i0 : Int) < (k : Int)) = False := by rw [eq_iff_iff]; exact ⟨fun q => by omega, False.elim⟩
              clear h1
              go_wp2_with fail
              go_quiet ((go_at_call 16; (first | with_reducible exact Calls.quiet_of (far_fin_two (a := p1) (b := p2) P1.out P2.out FU.out FV.out _) | with_reducible exact Calls.quiet_of (far_fin_two (a := q1) (b := q2) Q1.out Q2.out FU.out FV.out _))))
              obtain rfl := HW.out
              go_wp2_with fail
              exact ⟨⟨i0 + 1, by omega, rfl, _, rfl⟩, by show j - ((i0 : Int) + 1).toNat < j - (i0 : Int).toNat; omega⟩
            · have i1 : ((i0 : Int) < (k : Int)) = False := by rw [eq_iff_iff]; exact ⟨fun q => by omega, False.elim⟩
              clear h1
              go_wp2_with fail
              go_quiet ((go_at_call 16; (first | with_reducible exact Calls.quiet_of (far_fin_two (a := p1) (b := p2) P1.out P2.out FU.out FV.out _) | with_reducible exact Calls.quiet_of (far_fin_two (a := q1) (b := q2) Q1.out Q2.out FU.out FV.out _))))
              obtain rfl := HW.out
              go_wp2_with fail
              exact ⟨⟨i0 + 1, by omega, rfl, _, rfl⟩, by show j - ((i0 : Int) + 1).toNat < j - (i0 : Int).toNat; omega⟩
          · have e5' : ((i0 : Int) < (j : Int)) = False := by simp only [e5]
            subst hwr
            go_wp2_with fail
            refine (alive_any _).mono ?_
            rintro e w4 ⟨rfl, h5⟩
            have H5 := Lib.hid ((below_drewN HB2.out kk).trans (h5.mono HB2.out.size))
            clear h5
            go_wp2_with fail
            go_ret
            exact ⟨rfl, H5.out⟩
end Go.Proofs.Ytnjieddkphappaa
