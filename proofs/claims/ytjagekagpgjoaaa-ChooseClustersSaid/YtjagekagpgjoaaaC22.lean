/- choose: the document's own Survive; lists of ints held against each other. -/
import Derived.Test.YtjagekagpgjoaaaC21
namespace Go.Proofs.Ytjagekagpgjoaaa
open Go.RowKit
set_option linter.unusedVariables false
set_option linter.unusedSimpArgs false
set_option maxRecDepth 100000
theorem fnd_ex (xs : List Sp) (k : Nat) : ∃ f lo hi, Fnd xs k f lo hi := by
  induction k with
  | zero => exact ⟨false, 0, 0, ⟨fun _ => ⟨rfl, rfl, fun i hi => by omega⟩, (fun e => by cases e)⟩⟩
  | succ k ih =>
    obtain ⟨f, lo, hi, h⟩ := ih
    by_cases hm : Maj xs (pt xs k)
    · cases f
      · exact ⟨_, _, _, h.first hm⟩
      · exact ⟨_, _, _, h.next hm rfl rfl⟩
    · exact ⟨_, _, _, h.skip hm⟩
theorem reg_ex (xs : List Sp) : ∃ lo hi er, RegIs xs lo hi er := by
  by_cases h : xs.length ≤ 64 ∧ AllMay xs
  · obtain ⟨f, lo, hi, hf⟩ := fnd_ex xs (2 * xs.length)
    exact ⟨_, _, _, hf.whole h.1 h.2⟩
  · exact ⟨0, 0, 1, .inl ⟨h, rfl, rfl, rfl⟩⟩
theorem region_is {w : World} {A : Option Addr} {B n c : Nat} {xs : List Sp} {lo hi er : Int} (hr : RegIs xs lo hi er) (h : Rs w B A n xs) (hB : B ≤ w.heap.size) (hmx : n ≤ 9223372036854775807) : RegCall A n c lo hi er w := by
  refine (region_any (c := c) h hB hmx).mono ?_
  rintro e w' ⟨⟨a, b, d, rfl, k⟩, hb⟩
  obtain ⟨rfl, rfl, rfl⟩ := k.uniq hr
  exact ⟨rfl, hb⟩
theorem rregion_is {w : World} {A : Option Addr} {B n c : Nat} {xs : List Sp} {lo hi er : Int} (hr : RegIs xs lo hi er) (h : Rs w B A n xs) (hmx : n ≤ 9223372036854775807) :
    Calls Try.prog 12 #[.slice A n c] w fun e w' => e = .returned (.tuple #[.int .i64 lo, .int .i64 hi, .int .i64 er]) ∧ ∃ k, w' = w.drewN k := by
  refine (rregion_any (c := c) h hmx).mono ?_
  rintro e w' ⟨⟨a, b, d, rfl, k⟩, hb⟩
  obtain ⟨rfl, rfl, rfl⟩ := k.uniq hr
  exact ⟨rfl, hb⟩
theorem rsurv_err {w : World} {A : Option Addr} {B n c : Nat} {xs : List Sp} {lo hi er : Int} (hr : RegIs xs lo hi er) (h : Rs w B A n xs) (hmx : n ≤ 9223372036854775807) (he : ¬ er = 0) :
    Calls Try.prog 14 #[.slice A n c] w fun e w' => e = .returned (.tuple #[.slice none 0 0, .int .i64 er]) ∧ RowKit.Below w.heap.size w w' := by
  have HR := Lib.hid (rregion_is (c := c) hr h hmx)
  have h1 : (er = 0) = False := by simp only [he]
  have h2 : (er == 0) = false := by simp only [beq_eq_false_iff_ne]; exact he
  clear hr he h
  go_enter Try.func14, Try.ntmps14
  go_wp2_with fail
  refine HR.out.mono ?_
  rintro e w2 ⟨rfl, k, rfl⟩
  go_wp2_with fail
  go_ret2
  exact ⟨rfl, below_drewN (Below.refl _ _) _⟩
set_option maxHeartbeats 2000000 in
theorem rsurv_ok {w : World} {A : Option Addr} {B n c : Nat} {xs : List Sp} {lo hi : Int} (h : Rs w B A n xs) (hB : B ≤ w.heap.size) (hn : n ≤ 64) (hr : RegIs xs lo hi 0) :
    Calls Try.prog 14 #[.slice A n c] w fun e w' => ∃ A' c', e = .returned (.tuple #[.slice A' (svN xs lo hi n).length c', .int .i64 0]) ∧ Ri w' w'.heap.size A' (svN xs lo hi n).length (svN xs lo hi n) ∧ RowKit.Below w.heap.size w w' := by
  have HRg := Lib.hid (rregion_is (c := c) hr h (by omega))
  have HR := Lib.hid h
  have HL := Lib.hid h.1
  have HB := Lib.hid hB
  clear hr h hB
  go_enter Try.func14, Try.ntmps14
  go_wp2_with fail
  refine HRg.out.mono ?_
  rintro e w2 ⟨rfl, k0, e2⟩
  have b2 : RowKit.Below w.heap.size w w2 := by rw [e2]; exact below_drewN (Below.refl _ _) _
  have HR2 := Lib.hid (HR.out.below b2 HB.out)
  have HB2 := Lib.hid b2
  have hsz := b2.size
  have HS2 := Lib.hid (Nat.le_trans HB.out hsz)
  clear b2 e2
  go_wp2_with fail
  go_loopw [7, 8] (fun v i wr => ∃ j : Nat, ∃ A' m c', j ≤ n ∧ i = .int .i64 (j : Int) ∧ v = .slice A' m c' ∧ Gi 3 wr w2.heap.size A' m c' (svN xs lo hi j) ∧ RowKit.Below w2.heap.size w2 wr) (fun _ i _ => (n - (match i with | .int _ z => z.toNat | _ => 0)))
  case atStart => exact ⟨0, none, 0, 0, by omega, rfl, rfl, Gi.nil _ _ _, Below.refl _ _⟩
  case round =>
    obtain ⟨j, A', m, c', hjn, rfl, rfl, hgs, hb⟩ := hrel
    have HBr := Lib.hid hb
    have HG := Lib.hid hgs
    have hm : m ≤ j := by rw [← hgs.1]; exact svN_len _ _ _ _
    clear hb hgs
    by_cases hj : j < n
    · have e1 : decide ((j : Int) < (n : Int)) = true := by simp; omega
      have e1' : (j : Int) < (n : Int) := by omega
      obtain ⟨s, hs⟩ : ∃ s, xs[j]? = some s := ⟨_, List.getElem?_eq_getElem (by have := HL.out; omega)⟩
      obtain ⟨g, off, rfl, hg, hc⟩ := HR2.out.cells (by omega)
      obtain ⟨c0, c1, c2⟩ := hc wr (HBr.out.mono HS2.out) j s hs
      have HS := Lib.hid hs
      clear hc hs
      by_cases h1 : lo ≤ s.mid
      · by_cases h2 : s.mid ≤ hi
        · have HG4 := Lib.hid (HG.out.below ((Below.refl _ _).alloc (Nat.le_refl _) (.cells #[.int .i64 (j : Int)] 3)))
          have HB4 := Lib.hid (HBr.out.alloc HBr.out.size (.cells #[.int .i64 (j : Int)] 3))
          go_wp2_with (at_builtin; refine wpList_app_i (y := (j : Int)) _ rfl (.tmp 40) (.tmp 42) rfl rfl HG4.out rfl (World.alloc_heap_new wr _) (by omega) HB4.out HB4.out.size ?_; intro A2 c2 w5 hg5 hb5)
          have HG5 := Lib.hid hg5
          have HB5 := Lib.hid hb5
          clear hg5 hb5
          go_wp2_with fail
          refine ⟨⟨j + 1, A2, m + 1, c2, by omega, rfl, rfl, ?_, HB5.out⟩, by show n - ((j : Int) + 1).toNat < n - (j : Int).toNat; omega⟩
          rw [svN_in HS.out h1 h2]
          exact HG5.out
        · have h2' : (s.mid ≤ hi) = False := by simp only [h2]
          have HV := Lib.hid (svN_out (lo := lo) (hi := hi) HS.out (fun x => h2 x.2))
          go_wp2_with fail
          refine ⟨⟨j + 1, A', m, c', by omega, rfl, rfl, ?_, HBr.out⟩, by show n - ((j : Int) + 1).toNat < n - (j : Int).toNat; omega⟩
          rw [HV.out]
          exact HG.out
      · have h1' : (lo ≤ s.mid) = False := by simp only [h1]
        have HV := Lib.hid (svN_out (lo := lo) (hi := hi) HS.out (fun x => h1 x.1))
        go_wp2_with fail
        refine ⟨⟨j + 1, A', m, c', by omega, rfl, rfl, ?_, HBr.out⟩, by show n - ((j : Int) + 1).toNat < n - (j : Int).toNat; omega⟩
        rw [HV.out]
        exact HG.out
    · have e1' : ((j : Int) < (n : Int)) = False := by simp only [eq_iff_iff, iff_false]; omega
      have ej : j = n := by omega
      have HEj := Lib.hid ej
      go_wp2_with fail
      go_ret2
      have hg := HG.out
      rw [HEj.out] at hg
      have hm2 : m = (svN xs lo hi n).length := hg.1.symm
      rw [← hm2]
      exact ⟨A', c', rfl, hg.ri, HB2.out.trans (HBr.out.mono HB2.out.size)⟩
set_option maxHeartbeats 2000000 in
theorem ints_same {w : World} {A1 A2 : Option Addr} {B n c1 c2 : Nat} {L : List Int} (h1 : Ri w B A1 n L) (h2 : Ri w B A2 n L) (hn : n ≤ 4611686018427387904) :
    Calls Try.prog 17 #[.slice A1 n c1, .slice A2 n c2] w fun e w' => e = .returned (.bool true) ∧ ∃ k, w' = w.drewN k := by
  have HR1 := Lib.hid h1
  have HR2 := Lib.hid h2
  have HL := Lib.hid h1.1
  clear h1 h2
  go_enter Try.func17, Try.ntmps17
  go_wp2_with fail
  go_loopw [5] (fun iv wr => ∃ j : Nat, j ≤ n ∧ iv = .int .i64 (j : Int) ∧ ∃ k, wr = w.drewN k) (fun iv _ => (n - (match iv with | .int _ z => z.toNat | _ => 0)))
  case atStart => exact ⟨0, by omega, rfl, 0, rfl⟩
  case round =>
    obtain ⟨j, hj, rfl, k0, rfl⟩ := hrel
    by_cases hjn : j < n
    · have e1 : decide ((j : Int) < (n : Int)) = true := by simp; omega
      have e1' : (j : Int) < (n : Int) := by omega
      obtain ⟨z, hz⟩ : ∃ z, L[j]? = some z := ⟨_, List.getElem?_eq_getElem (by have := HL.out; omega)⟩
      obtain ⟨g1, off1, rfl, _, hc1⟩ := HR1.out.cells (by omega)
      obtain ⟨g2, off2, rfl, _, hc2⟩ := HR2.out.cells (by omega)
      have a1 := hc1 w (Below.refl _ _) j z hz
      have a2 := hc2 w (Below.refl _ _) j z hz
      clear hc1 hc2 hz
      go_wp2_with fail
      go_quiet (fail)
      go_wp2_with fail
      exact ⟨⟨j + 1, by omega, rfl, k0 + nq, by first | rfl | exact World.drewN_drewN ..⟩, by show n - ((j : Int) + 1).toNat < n - (j : Int).toNat; omega⟩
    · have e1' : ((j : Int) < (n : Int)) = False := by simp only [eq_iff_iff, iff_false]; omega
      go_wp2_with fail
      go_ret
      exact ⟨rfl, k0, rfl⟩
end Go.Proofs.Ytjagekagpgjoaaa
