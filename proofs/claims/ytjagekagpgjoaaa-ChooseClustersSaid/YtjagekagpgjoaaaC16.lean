/- choose: what survives. -/
import Derived.Test.YtjagekagpgjoaaaC15
namespace Go.Proofs.Ytjagekagpgjoaaa
open Go.RowKit
set_option linter.unusedVariables false
set_option linter.unusedSimpArgs false
set_option maxRecDepth 100000
def RegCall (A : Option Addr) (n c : Nat) (lo hi er : Int) (w : World) : Prop :=
  Calls Try.prog 11 #[.slice A n c] w fun e w' => e = .returned (.tuple #[.int .i64 lo, .int .i64 hi, .int .i64 er]) ∧ RowKit.Below w.heap.size w w'
theorem surv_err {w : World} {A : Option Addr} {n c : Nat} {lo hi er : Int} (hr : RegCall A n c lo hi er w) (he : ¬ er = 0) :
    Calls Try.prog 13 #[.slice A n c] w fun e w' => e = .returned (.tuple #[.slice none 0 0, .int .i64 er]) ∧ RowKit.Below w.heap.size w w' := by
  unfold RegCall at hr
  have HR := Lib.hid hr
  have h1 : (er = 0) = False := by simp only [he]
  have h2 : (er == 0) = false := by simp only [beq_eq_false_iff_ne]; exact he
  clear hr he
  go_enter Try.func13, Try.ntmps13
  go_wp2_with fail
  refine HR.out.mono ?_
  rintro e w2 ⟨rfl, b2⟩
  have HB := Lib.hid b2
  clear b2
  go_wp2_with fail
  go_ret2
  exact ⟨rfl, HB.out⟩
set_option maxHeartbeats 2000000 in
theorem surv_ok {w : World} {A : Option Addr} {B n c : Nat} {xs : List Sp} {lo hi : Int} (h : Rs w B A n xs) (hB : B ≤ w.heap.size) (hn : n ≤ 64) (hr : RegCall A n c lo hi 0 w) :
    Calls Try.prog 13 #[.slice A n c] w fun e w' => ∃ A' c', e = .returned (.tuple #[.slice A' (svN xs lo hi n).length c', .int .i64 0]) ∧ Ri w' w'.heap.size A' (svN xs lo hi n).length (svN xs lo hi n) ∧ RowKit.Below w.heap.size w w' := by
  unfold RegCall at hr
  have HRg := Lib.hid hr
  have HR := Lib.hid h
  have HL := Lib.hid h.1
  have HB := Lib.hid hB
  clear hr h hB
  go_enter Try.func13, Try.ntmps13
  go_wp2_with fail
  refine HRg.out.mono ?_
  rintro e w2 ⟨rfl, b2⟩
  have HR2 := Lib.hid (HR.out.below b2 HB.out)
  have HB2 := Lib.hid b2
  have hsz := b2.size
  have HS2 := Lib.hid (Nat.le_trans HB.out hsz)
  clear b2
  go_wp2_with fail
  go_loopw [7, 21] (fun v i wr => ∃ j : Nat, ∃ A' m c', j ≤ n ∧ i = .int .i64 (j : Int) ∧ v = .slice A' m c' ∧ Gi 3 wr w2.heap.size A' m c' (svN xs lo hi j) ∧ RowKit.Below w2.heap.size w2 wr) (fun _ i _ => (n - (match i with | .int _ z => z.toNat | _ => 0)))
  case atStart => exact ⟨0, none, 0, 0, by omega, rfl, rfl, Gi.nil _ _ _, Below.refl _ _⟩
  case round =>
    obtain ⟨j, A', m, c', hjn, rfl, rfl, hgs, hb⟩ := hrel
    have HBr := Lib.hid hb
    have HG := Lib.hid hgs
    have hm : m ≤ j := by rw [← hgs.1]; exact svN_len _ _ _ _
    clear hb hgs
    by_cases hj : j < n
    · have e1 : decide ((j : Int) < (n : Int)) = true := by simp; omega
      have e1' : (j : Int) < (n : Int) := by omega
      obtain ⟨s, hs⟩ : ∃ s, xs[j]? = some s := ⟨_, List.getElem?_eq_getElem (by have := HL.out; omega)⟩
      obtain ⟨g, off, rfl, hg, hc⟩ := HR2.out.cells (by omega)
      obtain ⟨c0, c1, c2⟩ := hc wr (HBr.out.mono HS2.out) j s hs
      have HS := Lib.hid hs
      clear hc hs
      go_upto_region 8 with fail
      obtain ⟨w3, e3⟩ : ∃ w3, w3 = wr.alloc (.cells #[.int .i64 s.lo, .int .i64 s.mid, .int .i64 s.hi] 39) := ⟨_, rfl⟩
      obtain ⟨b3, x3, s3⟩ := one_new e3
      rw [← e3]
      have HG3 := Lib.hid (HG.out.below b3)
      have HB3 := Lib.hid (bthen HBr.out b3 (Nat.le_refl _))
      obtain ⟨d0, d1, d2⟩ := x3.cells
      obtain ⟨g3, hg3⟩ : ∃ g3, g3 = wr.heap.size := ⟨_, rfl⟩
      rw [← hg3] at d0 d1 d2 ⊢
      clear c0 c1 c2 e3 b3 x3 s3 hg3
      by_cases h1 : lo ≤ s.mid
      · by_cases h2 : s.mid ≤ hi
        · have HG4 := Lib.hid (HG3.out.below ((Below.refl _ _).alloc (Nat.le_refl _) (.cells #[.int .i64 (j : Int)] 3)))
          have HB4 := Lib.hid (HB3.out.alloc HB3.out.size (.cells #[.int .i64 (j : Int)] 3))
          go_wp2_with (at_builtin; refine wpList_app_i (y := (j : Int)) _ rfl (.tmp 36) (.tmp 38) rfl rfl HG4.out rfl (World.alloc_heap_new w3 _) (by omega) HB4.out HB4.out.size ?_; intro A2 c2 w5 hg5 hb5)
          have HG5 := Lib.hid hg5
          have HB5 := Lib.hid hb5
          clear hg5 hb5
          go_wp2_with fail
          refine ⟨⟨j + 1, A2, m + 1, c2, by omega, rfl, rfl, ?_, HB5.out⟩, by show n - ((j : Int) + 1).toNat < n - (j : Int).toNat; omega⟩
          rw [svN_in HS.out h1 h2]
          exact HG5.out
        · have h2' : (s.mid ≤ hi) = False := by simp only [h2]
          go_wp2_with fail
          refine ⟨⟨j + 1, A', m, c', by omega, rfl, rfl, ?_, HB3.out⟩, by show n - ((j : Int) + 1).toNat < n - (j : Int).toNat; omega⟩
          rw [svN_out HS.out (fun x => h2 x.2)]
          exact HG3.out
      · have h1' : (lo ≤ s.mid) = False := by simp only [h1]
        go_wp2_with fail
        refine ⟨⟨j + 1, A', m, c', by omega, rfl, rfl, ?_, HB3.out⟩, by show n - ((j : Int) + 1).toNat < n - (j : Int).toNat; omega⟩
        rw [svN_out HS.out (fun x => h1 x.1)]
        exact HG3.out
    · have e1' : ((j : Int) < (n : Int)) = False := by simp only [eq_iff_iff, iff_false]; omega
      have ej : j = n := by omega
      have HEj := Lib.hid ej
      go_wp2_with fail
      go_ret2
      have hg := HG.out
      rw [HEj.out] at hg
      have hm2 : m = (svN xs lo hi n).length := hg.1.symm
      rw [← hm2]
      exact ⟨A', c', rfl, hg.ri, HB2.out.trans (HBr.out.mono HB2.out.size)⟩
end Go.Proofs.Ytjagekagpgjoaaa
