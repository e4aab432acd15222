/- law10.WireFront: its walk. -/
import Derived.Test.YthflafcjinpmnaaR18
namespace Go.Proofs.Ythflafcjinpmnaa
open Go.RowKit
set_option linter.unusedVariables false
set_option maxRecDepth 100000
/-- the front of what was written is what is written without the Mac -/
theorem front_of {p : Pk} {l : List El} {xs : List Nat} {key n c : Nat} {A : Option Addr} (hf : ∀ x ∈ l, x.fit) : (packW ⟨p.h, p.A, p.n, p.c, ⟨true, key, A, n, c⟩⟩ l xs).take (48 + szs l) = packW ⟨p.h, p.A, p.n, p.c, m0⟩ l [] := by
  unfold packW
  rw [take_pre (by rw [List.length_append, headW_length, flat_length l hf])]
  show _ = headW p.h ++ l.flatMap extB ++ macW ⟨p.h, p.A, p.n, p.c, m0⟩ []
  rw [show macW ⟨p.h, p.A, p.n, p.c, m0⟩ [] = [] from rfl, List.append_nil]
set_option maxHeartbeats 8000000 in
theorem front_law {w : World} (p : Pk) (l : List El) (ms : List Nat) (key : Nat) {n c : Nat} {A : Option Addr} {xs : List Nat} (hok : p.ok) (hE : Es w w.heap.size p.A p.n l) (hts : ∀ e ∈ l, e.ts < 4294967296 ∧ e.fs < 4294967296) (hM : Nb w w.heap.size p.m.A p.m.n p.m.c ms) (hsz : p.n ≤ 140737488355328)
    (hkey : key < 4294967296) (hb : Nb w w.heap.size A n c xs) : Calls Try.prog 5 #[pkV p, .int .u32 (key : Int), .slice A n c] w fun e w' => e = .returned (.bool true) ∧ RowKit.Below w.heap.size w w' := by
  obtain ⟨W, hW⟩ : ∃ W, W = w.alloc (.cells #[.int .i64 p.h.lp, .int .i64 p.h.ve, .int .i64 p.h.mo, .int .i64 p.h.st, .int .i64 p.h.po, .int .i64 p.h.pr, .int .u32 (p.h.dl : Int), .int .u32 (p.h.di : Int), .int .u32 (p.h.rf : Int), .int .u64 (p.h.re : Int), .int .u64 (p.h.og : Int), .int .u64 (p.h.rc : Int), .int .u64 (p.h.xm : Int), .slice p.A p.n p.c, .bool p.m.has, .int .u32 (p.m.key : Int), .slice p.m.A p.m.n p.m.c] 29) := ⟨_, rfl⟩
  have x1 : PBox W w.heap.size p := by rw [hW]; exact heap_alloc_new w _
  have b0 : RowKit.Below w.heap.size w W := by rw [hW]; exact (Below.refl _ _).alloc (Nat.le_refl _) _
  have HE := Lib.hid (Es.more (hE.below b0 (Nat.le_refl _)) b0.size)
  have HE0 := Lib.hid hE
  have HN0 := Lib.hid hb
  have HX := Lib.hid x1
  have HW := Lib.hid hW
  have HB := Lib.hid b0
  have HOk := Lib.hid hok
  have HTs := Lib.hid hts
  have HKey := Lib.hid hkey
  have HHv := Lib.hid (heavy_any p l HE.out hsz)
  clear hW x1 b0 hE hM hb hsz hok hts hkey
  go_enter Try.func5, Try.ntmps5
  go_upto_region 1 with fail
  rw [← HW.out]
  go_wp2_with (refine wpList_load_row rfl 29 (.tmp 3) rfl w.heap.size rfl 29 (pkC p) (0, 0) _ HX.out Try.underlying29 rfl s29 ?_)
  refine HHv.out.mono ?_
  rintro e w1 ⟨⟨hv, rfl⟩, b1⟩
  have HB1 := Lib.hid (bthen HB.out b1 (Nat.le_refl _))
  have HX1 := Lib.hid (HX.out.below b1)
  clear b1 HB HX HE HHv HW
  cases hv with
  | true =>
    go_wp2_with fail
    refine (alive_any w1).mono ?_
    rintro e we ⟨rfl, be⟩
    have HBe := Lib.hid (bthen HB1.out be (Nat.le_refl _))
    clear be
    go_wp2_with fail
    go_ret
    exact ⟨rfl, HBe.out⟩
  | false =>
    obtain ⟨-, -, -, -, -, -, -, -, -, -, -, -, -, -, c14, c15, c16⟩ := HX1.out.cells
    have f14 : w1.frozen? ⟨w.heap.size, 14, none⟩ = false := frozen_of_row w1 _ 14 _ 29 HX1.out
    have f15 : w1.frozen? ⟨w.heap.size, 15, none⟩ = false := frozen_of_row w1 _ 15 _ 29 HX1.out
    have f16 : w1.frozen? ⟨w.heap.size, 16, none⟩ = false := frozen_of_row w1 _ 16 _ 29 HX1.out
    go_upto_region 4 with fail
    obtain ⟨U, hU⟩ : ∃ U, U = ((w1.setCell ⟨w.heap.size, 14, none⟩ (.bool false)).setCell ⟨w.heap.size, 15, none⟩ (.int .u32 0)).setCell ⟨w.heap.size, 16, none⟩ (.slice none 0 0) := ⟨_, rfl⟩
    have pU : PBox U w.heap.size ⟨p.h, p.A, p.n, p.c, m0⟩ := by
      rw [hU]
      exact heap_setCell_same _ _ _ _ _ _ (heap_setCell_same _ _ _ _ _ _ (heap_setCell_same _ _ _ _ _ _ HX1.out))
    have bU : RowKit.Below w.heap.size w U := by rw [hU]; exact ((HB1.out.setCell (Nat.le_refl _) _).setCell (Nat.le_refl _) _).setCell (Nat.le_refl _) _
    rw [← hU]
    clear hU c14 c15 c16 f14 f15 f16 HX1 HB1
    have HPU := Lib.hid pU
    have HBU := Lib.hid bU
    have HEU := Lib.hid (Es.more (HE0.out.below bU (Nat.le_refl _)) bU.size)
    have HNU := Lib.hid (HN0.out.far bU)
    clear pU bU
    have HWr := Lib.hid (write_any ⟨p.h, p.A, p.n, p.c, m0⟩ l [] HEU.out (Nb.nil _ _ 0 (by omega) none))
    go_wp2_with (refine wpList_load_row rfl 29 (.tmp 3) rfl w.heap.size rfl 29 (pkC ⟨p.h, p.A, p.n, p.c, m0⟩) (0, 0) _ HPU.out Try.underlying29 rfl s29 ?_)
    refine (HWr.out.mono (R' := fun e w' => ∃ A1 n1 c1 k1, e = .returned (.tuple #[.slice A1 n1 c1, .int .i64 k1]) ∧ RowKit.Below U.heap.size U w' ∧ ((rightB ⟨p.h, p.A, p.n, p.c, m0⟩ l = false ∧ n1 = 0 ∧ k1 = 3) ∨ (rightB ⟨p.h, p.A, p.n, p.c, m0⟩ l = true ∧ n1 = 48 + szs l ∧ k1 = 0 ∧ Nb w' w'.heap.size A1 n1 c1 (packW ⟨p.h, p.A, p.n, p.c, m0⟩ l [])))) ?_).mono ?_
    · rintro e w' (⟨hr, rfl, b⟩ | ⟨hr, A1, c1, rfl, hg, b⟩)
      · exact ⟨none, 0, 0, 3, rfl, b, .inl ⟨hr, rfl, rfl⟩⟩
      · exact ⟨A1, szp ⟨p.h, p.A, p.n, p.c, m0⟩ l, c1, 0, rfl, b, .inr ⟨hr, rfl, rfl, hg.nb (packW_lim HEU.out.has (Lim.nil _))⟩⟩
    rintro e w2 ⟨A1, n1, c1, k1, rfl, b2, hr1⟩
    have HR1 := Lib.hid hr1
    have HP2 := Lib.hid (HPU.out.below b2)
    have HB2 := Lib.hid (bthen HBU.out b2 (Nat.le_refl _))
    have HE2 := Lib.hid (Es.more (HEU.out.below b2 (Nat.le_refl _)) b2.size)
    have HN2 := Lib.hid (HNU.out.far b2)
    clear b2 hr1 HWr HPU HBU HEU HNU
    obtain ⟨V, hV⟩ : ∃ V, V = (w2.alloc (.cells #[.int .i64 0, .int .i64 0, .int .i64 0, .int .i64 0, .int .i64 0, .int .i64 0, .int .u32 0, .int .u32 0, .int .u32 0, .int .u64 0, .int .u64 0, .int .u64 0, .int .u64 0, .slice none 0 0, .bool false, .int .u32 0, .slice none 0 0] 29)).setRow w2.heap.size (pkC ⟨p.h, p.A, p.n, p.c, m0⟩) := ⟨_, rfl⟩
    have pV : PBox V w2.heap.size ⟨p.h, p.A, p.n, p.c, m0⟩ := by rw [hV]; exact setRow_heap _ _ _ _ _ _ (heap_alloc_new w2 _)
    have bV : RowKit.Below w2.heap.size w2 V := by rw [hV]; exact below_setRow ((Below.refl _ _).alloc (Nat.le_refl _) _) (Nat.le_refl _) _
    have HV := Lib.hid hV
    have HPV := Lib.hid pV
    have HBV := Lib.hid bV
    clear hV pV bV
    go_upto_region 6 with (first
      | (refine wpList_load_row rfl 29 (.tmp 3) rfl w.heap.size rfl 29 (pkC ⟨p.h, p.A, p.n, p.c, m0⟩) (0, 0) _ HP2.out Try.underlying29 rfl s29 ?_)
      | (refine wpList_store_row rfl 29 (.tmp 9) (.tmp 24) rfl w2.heap.size (pkC ⟨p.h, p.A, p.n, p.c, m0⟩) rfl rfl 29 _ (heap_alloc_new w2 _) s29 rfl (pk_all _) ?_; rw [← HV.out]))
    obtain ⟨-, -, -, -, -, -, -, -, -, -, -, -, -, -, c14, c15, c16⟩ := HPV.out.cells
    have f14 : V.frozen? ⟨w2.heap.size, 14, none⟩ = false := frozen_of_row V _ 14 _ 29 HPV.out
    have f15 : V.frozen? ⟨w2.heap.size, 15, none⟩ = false := frozen_of_row V _ 15 _ 29 HPV.out
    have f16 : V.frozen? ⟨w2.heap.size, 16, none⟩ = false := frozen_of_row V _ 16 _ 29 HPV.out
    go_upto_region 7 with fail
    obtain ⟨U, hU⟩ : ∃ U, U = ((V.setCell ⟨w2.heap.size, 14, none⟩ (.bool true)).setCell ⟨w2.heap.size, 15, none⟩ (.int .u32 (key : Int))).setCell ⟨w2.heap.size, 16, none⟩ (.slice A n c) := ⟨_, rfl⟩
    have pU : PBox U w2.heap.size ⟨p.h, p.A, p.n, p.c, ⟨true, key, A, n, c⟩⟩ := by
      rw [hU]
      exact heap_setCell_same _ _ _ _ _ _ (heap_setCell_same _ _ _ _ _ _ (heap_setCell_same _ _ _ _ _ _ HPV.out))
    have bU : RowKit.Below w2.heap.size w2 U := by rw [hU]; exact ((HBV.out.setCell (Nat.le_refl _) _).setCell (Nat.le_refl _) _).setCell (Nat.le_refl _) _
    rw [← hU]
    clear hU c14 c15 c16 f14 f15 f16 HPV HBV HV
    have HPU := Lib.hid pU
    have HBU := Lib.hid (bthen HB2.out bU (Nat.le_refl _))
    have HEU := Lib.hid (Es.more (HE2.out.below bU (Nat.le_refl _)) bU.size)
    have HNU := Lib.hid (HN2.out.far bU)
    have HR1U := Lib.hid (HR1.out.imp id fun h => (⟨h.1, h.2.1, h.2.2.1, h.2.2.2.far bU⟩ : rightB ⟨p.h, p.A, p.n, p.c, m0⟩ l = true ∧ n1 = 48 + szs l ∧ k1 = 0 ∧ Nb U U.heap.size A1 n1 c1 (packW ⟨p.h, p.A, p.n, p.c, m0⟩ l [])))
    clear pU bU HP2 HB2 HE2 HN2 HR1
    have HWr := Lib.hid (write_any ⟨p.h, p.A, p.n, p.c, ⟨true, key, A, n, c⟩⟩ l xs HEU.out HNU.out)
    go_wp2_with (refine wpList_load_row rfl 29 (.tmp 9) rfl w2.heap.size rfl 29 (pkC ⟨p.h, p.A, p.n, p.c, ⟨true, key, A, n, c⟩⟩) (0, 0) _ HPU.out Try.underlying29 rfl s29 ?_)
    refine (HWr.out.mono (R' := fun e w' => ∃ A2 n2 c2 k2, e = .returned (.tuple #[.slice A2 n2 c2, .int .i64 k2]) ∧ RowKit.Below U.heap.size U w' ∧ ((rightB ⟨p.h, p.A, p.n, p.c, ⟨true, key, A, n, c⟩⟩ l = false ∧ n2 = 0 ∧ k2 = 3) ∨ (rightB ⟨p.h, p.A, p.n, p.c, ⟨true, key, A, n, c⟩⟩ l = true ∧ n2 = 48 + szs l + (4 + n) ∧ k2 = 0 ∧ Nb w' w'.heap.size A2 n2 c2 (packW ⟨p.h, p.A, p.n, p.c, ⟨true, key, A, n, c⟩⟩ l xs)))) ?_).mono ?_
    · rintro e w' (⟨hr, rfl, b⟩ | ⟨hr, A1, c1, rfl, hg, b⟩)
      · exact ⟨none, 0, 0, 3, rfl, b, .inl ⟨hr, rfl, rfl⟩⟩
      · exact ⟨A1, szp ⟨p.h, p.A, p.n, p.c, ⟨true, key, A, n, c⟩⟩ l, c1, 0, rfl, b, .inr ⟨hr, rfl, rfl, hg.nb (packW_lim HEU.out.has HNU.out.lim)⟩⟩
    rintro e w3 ⟨A2, n2, c2, k2, rfl, b3, hr2⟩
    have HB3 := Lib.hid (bthen HBU.out b3 (Nat.le_refl _))
    have HE3 := Lib.hid (Es.more (HEU.out.below b3 (Nat.le_refl _)) b3.size)
    have HN3 := Lib.hid (HNU.out.far b3)
    have hr1 := HR1U.out.imp id fun h => (⟨h.1, h.2.1, h.2.2.1, h.2.2.2.far b3⟩ : rightB ⟨p.h, p.A, p.n, p.c, m0⟩ l = true ∧ n1 = 48 + szs l ∧ k1 = 0 ∧ Nb w3 w3.heap.size A1 n1 c1 (packW ⟨p.h, p.A, p.n, p.c, m0⟩ l []))
    clear b3 HWr HPU HBU HEU HNU HR1U
    rcases hr1 with ⟨-, rfl, rfl⟩ | ⟨q1, h1, rfl, N1⟩
    · clear hr2
      go_wp2_with fail
      refine (alive_any w3).mono ?_
      rintro e we ⟨rfl, be⟩
      have HBe := Lib.hid (bthen HB3.out be (Nat.le_refl _))
      clear be
      have hz : wrap64 ((n2 : Int) * 0) = 0 := by rw [Int.mul_zero]; unfold wrap64; omega
      go_wp2_with fail
      go_ret
      exact ⟨rfl, HBe.out⟩
    · rcases hr2 with ⟨-, rfl, rfl⟩ | ⟨q2, h2, rfl, N2⟩
      · clear N1
        go_wp2_with fail
        refine (alive_any w3).mono ?_
        rintro e we ⟨rfl, be⟩
        have HBe := Lib.hid (bthen HB3.out be (Nat.le_refl _))
        clear be h1
        have hz : wrap64 (0 * (n1 : Int)) = 0 := by rw [Int.zero_mul]; unfold wrap64; omega
        go_wp2_with fail
        go_ret
        exact ⟨rfl, HBe.out⟩
      · have hs := (right_parts q2).2.2.2.2
        have hm := (right_parts q2).2.1
        have hfit : ∀ x ∈ l, x.fit := fun x hx => ⟨(right_parts q2).2.2.2.1 x hx, (HE3.out.has x hx).n1, (HE3.out.has x hx).n2, (HTs.out x hx).1, (HTs.out x hx).2⟩
        have hpr : prs (packW ⟨p.h, p.A, p.n, p.c, ⟨true, key, A, n, c⟩⟩ l xs) = .ok p.h (l.map toEx) (48 + szs l) := prs_fwd q2 HE3.out.1 hfit HOk.out.h HN3.out.len
        have hsz2 : szp ⟨p.h, p.A, p.n, p.c, ⟨true, key, A, n, c⟩⟩ l = 48 + szs l + (4 + n) := rfl
        have HFr := Lib.hid (front_any N2 (by omega))
        have HN1 := Lib.hid N1
        have HPr := Lib.hid hpr
        have HFo := Lib.hid (front_of (p := p) (l := l) (xs := xs) (key := key) (n := n) (c := c) (A := A) hfit)
        have HH := Lib.hid (⟨h1, h2, by omega⟩ : n1 = 48 + szs l ∧ n2 = 48 + szs l + (4 + n) ∧ n2 ≤ 8192)
        clear q1 q2 h1 h2 N1 N2 hs hm hfit hpr hsz2 HE3 HN3
        go_wp2_with fail
        refine HFr.out.mono ?_
        rintro e w4 ⟨b4, hpost⟩
        rw [HPr.out] at hpost
        obtain ⟨A4, c4, rfl, N4⟩ := hpost
        rw [HFo.out] at N4
        have HN4 := Lib.hid N4
        have HB4 := Lib.hid (bthen HB3.out b4 (Nat.le_refl _))
        have HN14 := Lib.hid (HN1.out.far b4)
        clear b4 N4 HN1 HFr
        go_wp2_with fail
        refine (alive_any w4).mono ?_
        rintro e we ⟨rfl, be⟩
        have HBe := Lib.hid (bthen HB4.out be (Nat.le_refl _))
        have k1 := conv_any (HN4.out.far be)
        have k2 := conv_any (HN14.out.far be)
        have k3 := eq_self (bstr (packW ⟨p.h, p.A, p.n, p.c, m0⟩ l []))
        have s1 : wrap64 (wrap64 ((n1 : Int) + 4) + (n : Int)) = (n2 : Int) := by have := HH.out; unfold wrap64; omega
        have s2 : ((n2 : Int) == (n2 : Int)) = true := by simp
        clear be HFo HPr HN4 HN14
        generalize szs l = S at *
        go_wp2_with fail
        go_ret
        exact ⟨rfl, HBe.out⟩
end Go.Proofs.Ythflafcjinpmnaa
