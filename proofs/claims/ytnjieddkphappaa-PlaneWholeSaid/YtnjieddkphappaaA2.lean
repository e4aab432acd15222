/- plane: points out of rows of bits. -/
import Derived.Test.YtnjieddkphappaaA1
import Derived.Deep.Cut
namespace Go.Proofs.Ytnjieddkphappaa
open Go.RowKit
set_option maxRecDepth 100000
set_option linter.unusedVariables false
theorem points_any {w : World} {B n c C m d : Nat} {A A2 : Option Addr} {la lb : List Nat} (h : Ux w B A n la) (h2 : Ux w C A2 m lb) (hB : B ≤ w.heap.size) (hC : C ≤ w.heap.size) (hn : n ≤ 1099511627776) :
    Calls Try.prog 19 #[.slice A n c, .slice A2 m d] w fun e w' => ∃ A1 c1 A2 c2 A3 c3, e = .returned (.tuple #[.slice A1 (la.zip lb).length c1, .slice A2 (la.zip lb).length c2, .slice A3 (la.zip lb).length c3]) ∧ Three w w' (la.zip lb) ((la.zip lb).map (·.1)) ((la.zip lb).map (·.2)) A1 c1 A2 c2 A3 c3 := by
  have HA := Lib.hid h
  have HB := Lib.hid h2
  clear h h2
  go_enter Try.func19, Try.ntmps19
  go_wp2_with fail
  go_loopw [7, 8, 9, 10] (fun o p q i wr => ∃ j : Nat, i = .int .i64 (j : Int) ∧ j ≤ (la.zip lb).length ∧ ∃ A1 c1 A2 c2 A3 c3, o = .slice A1 j c1 ∧ p = .slice A2 j c2 ∧ q = .slice A3 j c3 ∧ Three w wr ((la.zip lb).take j) (((la.zip lb).map (·.1)).take j) (((la.zip lb).map (·.2)).take j) A1 c1 A2 c2 A3 c3) (fun o p q i _ => (n - (match i with | .int _ z => z.toNat | _ => 0)))
  case atStart => exact ⟨0, rfl, by omega, none, 0, none, 0, none, 0, rfl, rfl, rfl, ⟨Below.refl _ _, Gc.nil _ _, Gf.nil _ _, Gf.nil _ _, .inl rfl, .inl rfl, .inl rfl, .inl rfl, .inl rfl, .inl rfl⟩⟩
  case round =>
    obtain ⟨j, rfl, hjl, A1, c1, A4, c2, A3, c3, rfl, rfl, rfl, hT⟩ := hrel
    have HT := Lib.hid hT
    clear hT
    have hla := HA.out.1
    have hlb := HB.out.1
    have hlz : (la.zip lb).length = min n m := by rw [List.length_zip, hla, hlb]
    by_cases e1 : (j : Int) < (n : Int)
    · by_cases e2 : (j : Int) < (m : Int)
      · obtain ⟨x, hx⟩ : ∃ z, la[j]? = some z := ⟨_, List.getElem?_eq_getElem (by omega)⟩
        obtain ⟨y, hy⟩ : ∃ z, lb[j]? = some z := ⟨_, List.getElem?_eq_getElem (by omega)⟩
        have hz : (la.zip lb)[j]? = some (x, y) := by rw [List.getElem?_zip_eq_some]; exact ⟨hx, hy⟩
        rcases (HA.out.below HT.out.b hB).2 with h00 | ⟨g, off, rfl, hg, hc⟩
        · omega
        rcases (HB.out.below HT.out.b hC).2 with h00 | ⟨g2, off2, rfl, hg2, hc2⟩
        · omega
        have hcx := hc j x hx
        have hcy := hc2 j y hy
        have HZ := Lib.hid hz
        clear hc hc2 hx hy hz hlz hla hlb
        go_wp2_with fail
        have T1 := HT.out
        clear HT
        go_quiet (fail)
        obtain ⟨w2, hw2⟩ : ∃ w2, w2 = wr.drewN nq := ⟨_, rfl⟩
        have HT2 := Lib.hid (hw2 ▸ T1.drewN nq)
        rw [← hw2]
        clear hw2 hcx hcy T1
        have l1 : ((la.zip lb).take j).length = j := by rw [List.length_take]; omega
        have l2 : (((la.zip lb).map (·.1)).take j).length = j := by rw [List.length_take, List.length_map]; omega
        have l3 : (((la.zip lb).map (·.2)).take j).length = j := by rw [List.length_take, List.length_map]; omega
        have L1 := Lib.hid l1
        have L2 := Lib.hid l2
        have L3 := Lib.hid l3
        clear l1 l2 l3
        have HG1 := Lib.hid (show Gc (w2.alloc (.cells #[.complex .f64 x y] 23)) w.heap.size A1 j c1 ((la.zip lb).take j) by have := (HT2.out.alloc (.cells #[.complex .f64 x y] 23)).g1; rwa [L1.out] at this)
        go_upto_region 8 with (at_builtin; refine wpList_appc (y := (x, y)) _ rfl (.tmp 35) (.tmp 39) rfl rfl HG1.out rfl (Boxed.new w2 23 (.complex .f64 x y)) (by omega) (HT2.out.alloc (.cells #[.complex .f64 x y] 23)).b.size ?_; intro Ax cx w3 hg1 hk1 hat1)
        have HT3 := Lib.hid ((HT2.out.alloc (.cells #[.complex .f64 x y] 23)).one (z := (x, y)) (by rw [L1.out]; exact hg1) hk1 hat1)
        clear hg1 hk1 hat1 HG1
        have HG2 := Lib.hid (show Gf (w3.alloc (.cells #[.float .f64 x] 24)) w.heap.size A4 j c2 (((la.zip lb).map (·.1)).take j) by have := (HT3.out.alloc (.cells #[.float .f64 x] 24)).g2; rwa [L2.out] at this)
        go_upto_region 9 with (at_builtin; refine wpList_appf (y := x) _ rfl (.tmp 41) (.tmp 43) rfl rfl HG2.out rfl (Boxed.new w3 24 (.float .f64 x)) (by omega) (HT3.out.alloc (.cells #[.float .f64 x] 24)).b.size ?_; intro Ay cy w4 hg1 hk1 hat1)
        have HT4 := Lib.hid ((HT3.out.alloc (.cells #[.float .f64 x] 24)).two (z := x) (by rw [L2.out]; exact hg1) hk1 hat1)
        clear hg1 hk1 hat1 HG2
        have HG3 := Lib.hid (show Gf (w4.alloc (.cells #[.float .f64 y] 24)) w.heap.size A3 j c3 (((la.zip lb).map (·.2)).take j) by have := (HT4.out.alloc (.cells #[.float .f64 y] 24)).g3; rwa [L3.out] at this)
        go_wp2_with (at_builtin; refine wpList_appf (y := y) _ rfl (.tmp 45) (.tmp 47) rfl rfl HG3.out rfl (Boxed.new w4 24 (.float .f64 y)) (by omega) (HT4.out.alloc (.cells #[.float .f64 y] 24)).b.size ?_; intro Az cz w5 hg1 hk1 hat1)
        have HT5 := Lib.hid ((HT4.out.alloc (.cells #[.float .f64 y] 24)).three (z := y) (by rw [L3.out]; exact hg1) hk1 hat1)
        clear hg1 hk1 hat1 HG3
        go_wp2_with fail
        have hlt : j < (la.zip lb).length := (List.getElem?_eq_some_iff.1 HZ.out).1
        refine ⟨⟨j + 1, rfl, by omega, Ax, cx, Ay, cy, Az, cz, rfl, rfl, rfl, ?_⟩, by show n - ((j : Int) + 1).toNat < n - (j : Int).toNat; omega⟩
        have g1 : ((la.zip lb).map (·.1))[j]? = some x := by rw [List.getElem?_map, HZ.out]; rfl
        have g2 : ((la.zip lb).map (·.2))[j]? = some y := by rw [List.getElem?_map, HZ.out]; rfl
        rw [List.take_add_one, List.take_add_one, List.take_add_one, g1, g2, HZ.out]
        exact HT5.out
      · have e2' : ((j : Int) < (m : Int)) = False := by simp only [e2]
        have hj : j = (la.zip lb).length := by omega
        have HT' := Lib.hid (show Three w wr (la.zip lb) ((la.zip lb).map (·.1)) ((la.zip lb).map (·.2)) A1 c1 A4 c2 A3 c3 by
          have := HT.out
          rwa [List.take_of_length_le (by omega), List.take_of_length_le (by rw [List.length_map]; omega), List.take_of_length_le (by rw [List.length_map]; omega)] at this)
        rw [hj]
        clear HT
        go_wp2_with fail
        go_ret3
        exact ⟨_, _, _, _, _, _, rfl, HT'.out⟩
    · have e1' : ((j : Int) < (n : Int)) = False := by simp only [e1]
      have hj : j = (la.zip lb).length := by omega
      have HT' := Lib.hid (show Three w wr (la.zip lb) ((la.zip lb).map (·.1)) ((la.zip lb).map (·.2)) A1 c1 A4 c2 A3 c3 by
        have := HT.out
        rwa [List.take_of_length_le (by omega), List.take_of_length_le (by rw [List.length_map]; omega), List.take_of_length_le (by rw [List.length_map]; omega)] at this)
      rw [hj]
      clear HT
      go_wp2_with fail
      go_ret3
      exact ⟨_, _, _, _, _, _, rfl, HT'.out⟩
end Go.Proofs.Ytnjieddkphappaa
