/- plane: the spread's closure. -/
import Derived.Test.YtnjieddkphappaaR3
import Derived.Deep.RegionWith
import Derived.Test.YtnjieddkphappaaA4
namespace Go.Proofs.Ytnjieddkphappaa
open Go.RowKit
set_option maxRecDepth 100000
set_option linter.unusedVariables false
set_option maxHeartbeats 4000000 in
theorem spread1_any (j : Int) (x y : Nat) {w0 : World} {mb sb : Nat} {m1 m2 s m3 m4 S : Nat} (h1 : w0.heap.size ≤ mb) (h2 : w0.heap.size ≤ sb) (hne : mb ≠ sb) {w : World}
    (hb : RowKit.Below w0.heap.size w0 w) (b1 : Boxed w mb 23 (.complex .f64 m1 m2)) (b2 : Boxed w sb 24 (.float .f64 s)) (hm1 : al m1 m3) (hm2 : al m2 m4) (hs : okF s S) :
    Calls Try.prog 41 #[.int .i64 j, .complex .f64 x y, .pointer (some ⟨mb, 0, none⟩), .pointer (some ⟨sb, 0, none⟩)] w fun e w' => e = .returned (.tuple #[]) ∧ RowKit.Below w0.heap.size w0 w' ∧ Boxed w' mb 23 (.complex .f64 m1 m2) ∧ ∃ s', Boxed w' sb 24 (.float .f64 s') ∧ okF s' (fc .add S (partC (x, y) (m3, m4))) := by
  have HS := Lib.hid hs
  have HB := Lib.hid hb
  have HB1 := Lib.hid b1
  have HB2 := Lib.hid b2
  have c1 := b1.cell
  have c2 := b2.cell
  have f1 := b1.frozen
  have f2 := b2.frozen
  clear hb hs b1 b2
  go_enter Try.func41, Try.ntmps41
  go_wp2_with fail
  go_region
  · go_wp2_with fail
    obtain ⟨u, hu⟩ : ∃ u, u = fv .sub x m1 (w.drew) := ⟨_, rfl⟩
    obtain ⟨v, hv⟩ : ∃ v, v = fv .sub y m2 (w.drewN (1 + fk BinOp.sub x m1)) := ⟨_, rfl⟩
    rw [← hu, ← hv]
    have HU := Lib.hid (show al u (fc .sub x m3) by rw [hu]; exact fv_al2 (al.refl x) hm1 _)
    have HV := Lib.hid (show al v (fc .sub y m4) by rw [hv]; exact fv_al2 (al.refl y) hm2 _)
    clear hu hv hm1 hm2
    generalize 1 + fk BinOp.sub x m1 + fk BinOp.sub y m2 = kk
    go_region_with (go_at_call 31; refine (product_any _ _ _).mono ?_; rintro e wn ⟨⟨r, rfl, hr1, hr2⟩, kn, rfl⟩; dsimp only)
    all_goals
      rename_i ra ha1 ha2 kna
      have g1 := ha2
      rw [fc_al HU.out HU.out] at g1
      have g2 := hr2
      rw [fc_al HV.out HV.out] at g2
      have G1 := Lib.hid g1
      have G2 := Lib.hid g2
      clear g1 g2 ha2 hr2 ha1 hr1
      go_wp2_with fail
      go_end0
      exact ⟨rfl, below_set _ (below_drewN HB.out _) h2, bx_other (bx_drewN HB1.out _) hne, _, (bx_drewN HB2.out _).set _, fv_lt _ _ _ _, fv_al2 HS.out.2 (fv_al2 G1.out G2.out _) _⟩
  · go_wp2_with fail
    obtain ⟨u, hu⟩ : ∃ u, u = fv .sub x m1 (w.drewN (1 + fk BinOp.sub y m2)) := ⟨_, rfl⟩
    obtain ⟨v, hv⟩ : ∃ v, v = fv .sub y m2 (w.drew) := ⟨_, rfl⟩
    rw [← hu, ← hv]
    have HU := Lib.hid (show al u (fc .sub x m3) by rw [hu]; exact fv_al2 (al.refl x) hm1 _)
    have HV := Lib.hid (show al v (fc .sub y m4) by rw [hv]; exact fv_al2 (al.refl y) hm2 _)
    clear hu hv hm1 hm2
    generalize 1 + fk BinOp.sub y m2 + fk BinOp.sub x m1 = kk
    go_region_with (go_at_call 31; refine (product_any _ _ _).mono ?_; rintro e wn ⟨⟨r, rfl, hr1, hr2⟩, kn, rfl⟩; dsimp only)
    all_goals
      rename_i ra ha1 ha2 kna
      have g1 := ha2
      rw [fc_al HU.out HU.out] at g1
      have g2 := hr2
      rw [fc_al HV.out HV.out] at g2
      have G1 := Lib.hid g1
      have G2 := Lib.hid g2
      clear g1 g2 ha2 hr2 ha1 hr1
      go_wp2_with fail
      go_end0
      exact ⟨rfl, below_set _ (below_drewN HB.out _) h2, bx_other (bx_drewN HB1.out _) hne, _, (bx_drewN HB2.out _).set _, fv_lt _ _ _ _, fv_al2 HS.out.2 (fv_al2 G1.out G2.out _) _⟩
end Go.Proofs.Ytnjieddkphappaa
