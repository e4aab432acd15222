/- wire: the document's own fields. -/
import Derived.Test.YthflafcjinpmnaaW9
import Derived.Test.YthflafcjinpmnaaS1
import Derived.Deep.QuietTactic
import Derived.BigQuiet
import Derived.Deep.Cut
namespace Go.Proofs.Ythflafcjinpmnaa
open Go.RowKit
set_option linter.unusedVariables false
set_option maxRecDepth 100000
theorem rep_lim (k : Nat) : Lim 256 (List.replicate k 0) := by
  intro x hx
  rw [(List.mem_replicate.1 hx).2]; decide
theorem text_lim {ys : List Nat} (h : Lim 256 ys) : Lim 256 (textB ys) := ((be_lim _ _).append h).append (rep_lim _)
theorem nb_new (w : World) (ys : List Nat) (m : Nat) (h : ys.length = m) (hm : m ≤ 4096) (hl : Lim 256 ys) : Nb (w.alloc (.cells (bs ys).toArray 5)) (w.alloc (.cells (bs ys).toArray 5)).heap.size (some ⟨w.heap.size, 0, none⟩) m m ys := by
  refine ⟨h, Nat.le_refl _, by omega, hl, fun _ => ⟨w.heap.size, 0, rfl, by simp, fun i y hi => ?_⟩⟩
  rw [cell_of_row _ _ (0 + i) _ 5 (0, 0) (heap_alloc_new w _)]
  simp [bs, hi]
theorem nb_two (w : World) (f : Int) (y : Nat) (hf : f = (y : Int)) (hy : y < 256) : Nb (w.alloc (.cells #[.int .u8 f, .int .u8 0] 5)) (w.alloc (.cells #[.int .u8 f, .int .u8 0] 5)).heap.size (some ⟨w.heap.size, 0, none⟩) 2 2 [y, 0] := by
  subst hf
  exact nb_new w [y, 0] 2 rfl (by omega) (fun x hx => by simp at hx; omega)
theorem Gb.weak' {w : World} {b b' n c : Nat} {A : Option Addr} {xs : List Nat} (h : Gb w b A n c xs) (hb : b' ≤ b) : Gb w b' A n c xs :=
  ⟨h.1, h.2.1, h.2.2.imp id fun ⟨g, cap, cur, e, hg, r⟩ => ⟨g, cap, cur, e, Nat.le_trans hb hg, r⟩⟩
theorem be20 : be 2 0 = [0, 0] := by rw [be2]; rfl
theorem bstep {w0 w : World} {base : Nat} {A : Option Addr} {n c : Nat} {xs : List Nat} (h : Gb w base A n c xs) (b : RowKit.Below base w0 w) (hb : base ≤ w.heap.size) (s : Nat) (z : Int) (hz : 0 ≤ z) (h0 : 0 < s) (h8 : s ≤ 8) :
    Calls Try.prog 23 #[.int .u64 z, .int .i64 (s : Nat)] w fun e w' => ∃ A' c', e = .returned (.slice A' s c') ∧ Nb w' w'.heap.size A' s c' (be s z) ∧ Gb w' base A n c xs ∧ RowKit.Below base w0 w' := by
  obtain ⟨x, rfl⟩ : ∃ x : Nat, z = (x : Int) := ⟨z.toNat, (Int.toNat_of_nonneg hz).symm⟩
  refine (bytes_any x s h0 h8 w).mono ?_
  rintro e w' ⟨A', c', rfl, hg, hbl⟩
  exact ⟨A', c', rfl, hg.nb (be_lim _ _), h.below hbl, b.trans (hbl.mono hb)⟩
theorem dstep {w0 w : World} {base : Nat} {A : Option Addr} {n c : Nat} {xs : List Nat} (h : Gb w base A n c xs) (b : RowKit.Below base w0 w) (hb : base ≤ w.heap.size) {B : Option Addr} {m d : Nat} {ys : List Nat} (hy : Nb w base B m d ys) (hm : m ≤ 1048576) :
    Calls Try.prog 36 #[.slice B m d] w fun e w' => ∃ A' c', e = .returned (.slice A' (4 + fld m) c') ∧ Nb w' w'.heap.size A' (4 + fld m) c' (textB ys) ∧ Gb w' base A n c xs ∧ RowKit.Below base w0 w' := by
  refine (data_any (hy.more hb) hm).mono ?_
  rintro e w' ⟨A', c', rfl, hg, hbl⟩
  exact ⟨A', c', rfl, hg.nb (text_lim hy.lim), h.below hbl, b.trans (hbl.mono hb)⟩
theorem b_be {F : Int} (h : 0 ≤ F ∧ F < 256) : [F.toNat, 0] = be 1 F ++ be 1 0 := by
  rw [be1, be1, Int.emod_eq_of_lt h.1 h.2]; rfl
theorem size5 {n m p q : Nat} (hn : n ≤ 4096) (hm : m ≤ 4096) (hp : p ≤ 3) (hq : q ≤ 3) : wrap64 (24 + (n : Int)) = 24 + (n : Int) ∧ wrap64 (24 + (n : Int) + (p : Int)) = 24 + (n : Int) + p ∧ wrap64 (24 + (n : Int) + p + (m : Int)) = 24 + (n : Int) + p + m ∧ wrap64 (24 + (n : Int) + p + m + (q : Int)) = 24 + (n : Int) + p + m + q := by
  unfold wrap64; omega
/-- the first byte with its bits -/
theorem fir_steps {x : El} (h : 0 ≤ x.op ∧ x.op < 64) : wrap64 (x.op + 128) = x.op + 128 ∧ wrap64 (x.op + (if x.resp then 128 else 0) + 64) = x.op + (if x.resp then 128 else 0) + 64 := by
  unfold wrap64; split <;> omega
set_option maxHeartbeats 4000000 in
theorem field_ref {w : World} (x : El) (hx : Nb w w.heap.size x.A x.n x.c x.xs) (hy : Nb w w.heap.size x.B x.m x.e x.ys) (ho : 0 ≤ x.op ∧ x.op < 64) (ha : 0 ≤ x.as_ ∧ x.as_ < 65536) (hn : x.n ≤ 4096) (hm : x.m ≤ 4096) (ht : x.ts < 4294967296 ∧ x.fs < 4294967296) :
    Calls Try.prog 24 #[elV x] w fun e w' => ∃ A c, e = .returned (.slice A (szf x) c) ∧ Gb w' w.heap.size A (szf x) c (extB x) ∧ RowKit.Below w.heap.size w w' := by
  obtain ⟨w1, hw1⟩ : ∃ w1, w1 = w.alloc (.cells #[.int .i64 x.op, .bool x.resp, .bool x.bad, .int .i64 x.as_, .int .u32 (x.ts : Int), .int .u32 (x.fs : Int), .slice x.A x.n x.c, .slice x.B x.m x.e] 47) := ⟨_, rfl⟩
  have x1 : EBox w1 w.heap.size x := by rw [hw1]; exact heap_alloc_new w _
  have hb1 : RowKit.Below w.heap.size w w1 := by rw [hw1]; exact (Below.refl _ _).alloc (Nat.le_refl _) _
  have HX1 := Lib.hid x1
  have HB1 := Lib.hid hb1
  have HF1 := Lib.hid (fun w => fill_any (n := x.n) (by omega) w)
  have HF2 := Lib.hid (fun w => fill_any (n := x.m) (by omega) w)
  obtain ⟨p, hp⟩ : ∃ p, p = fld x.n - x.n := ⟨_, rfl⟩
  obtain ⟨q, hq⟩ : ∃ p, p = fld x.m - x.m := ⟨_, rfl⟩
  have l1 := fld_lim x.n
  have l2 := fld_lim x.m
  have HS := Lib.hid (show szf x = 24 + x.n + p + x.m + q by unfold szf; omega)
  have hp3 : p ≤ 3 := by omega
  have hq3 : q ≤ 3 := by omega
  have HL3 := Lib.hid (⟨hn, hm⟩ : x.n ≤ 4096 ∧ x.m ≤ 4096)
  rw [← hp] at HF1
  rw [← hq] at HF2
  obtain ⟨c0, c1, c2, c3, c4, c5, c6, c7⟩ := x1.cells
  have HAs := Lib.hid ha
  have HXr := Lib.hid ((hx.below hb1).more hb1.size)
  have HYr := Lib.hid ((hy.below hb1).more hb1.size)
  have HFo := Lib.hid ho
  have HTs := Lib.hid ht
  have fs1 := (fir_steps ho).1
  have fs2 := (fir_steps ho).2
  obtain ⟨s1, s2, s3, s4⟩ := size5 hn hm hp3 hq3
  have HW1 := Lib.hid hw1
  clear x1 hb1 hp hq l1 l2 ha hx hy hw1 ho ht
  go_enter Try.func24, Try.ntmps24
  go_upto_region 1 with fail
  rw [← HW1.out]
  go_upto_if 9 with fail
  go_cut [3] from 6 (fun s wx => s = .int .i64 (x.op + (if x.resp then 128 else 0)) ∧ wx = w1)
  case first =>
    cases hr : x.resp
    all_goals
      go_wp2_with fail
      go_meet
      exact ⟨by simp [hr, fs1], rfl⟩
  case rest =>
    obtain ⟨rfl, hwc⟩ := hcut
    rw [hwc]
    clear hwc
    have hfir : fir x = x.op + (if x.resp then 128 else 0) + (if x.bad then 64 else 0) := rfl
    generalize hR : (if x.resp = true then (128 : Int) else 0) = R at *
    clear c1 hR
    go_upto_if 13 with fail
    go_cut [3] from 6 (fun s wy => s = .int .i64 (fir x) ∧ wy = w1)
    case first =>
      cases hr : x.bad
      all_goals
        go_wp2_with fail
        go_meet
        exact ⟨by simp [hfir, hr, fs2], rfl⟩
    case rest =>
      obtain ⟨rfl, hwc⟩ := hcut
      rw [hwc]
      clear hwc hfir
      have hF : 0 ≤ fir x ∧ fir x < 256 := by have := HFo.out; unfold fir; split <;> split <;> omega
      obtain ⟨F, hFe⟩ : ∃ F, F = fir x := ⟨_, rfl⟩
      rw [← hFe] at hF ⊢
      have HFe := Lib.hid hFe
      clear fs1 fs2 hFe
      go_upto_region 6 with fail
      go_quiet ((go_at_call 35; first | with_reducible exact Calls.quiet_of_same (HF1.out _) | with_reducible exact Calls.quiet_of_same (HF2.out _)))
      obtain ⟨w2, hw2⟩ : ∃ w2, w2 = w1.drewN nq := ⟨_, rfl⟩
      have hb2 : RowKit.Below w1.heap.size w1 w2 := by rw [hw2]; exact below_drewN' (Below.refl w1.heap.size w1) nq
      rw [← hw2]
      have HB2 := Lib.hid hb2
      have hnb := nb_two w2 F F.toNat (by omega) (by omega)
      have hb2' := hb2.alloc hb2.size (.cells #[.int .u8 F, .int .u8 0] 5)
      have hbs := hb2'.size
      clear hw2 hb2 c0 c2 c3 c4 c5 c6 c7 s1 s2 s3 s4
      have hFb : IntKind.u8.wrap F = F := by rw [IntKind.wrap_u8]; omega
      go_upto_region 9 with (at_builtin; refine wpList_app_row_b (w0 := w1) _ rfl (.tmp 34) (.tmp 37) rfl rfl (Gb.nil _ w1.heap.size) rfl hnb (by decide) hb2' hbs ?_; intro A3 k3 w3 hg3 hb3)
      have HG3 := Lib.hid (show Gb w3 w1.heap.size A3 2 k3 (be 1 F ++ be 1 0) by rw [← b_be hF]; exact hg3)
      have HB3 := Lib.hid hb3
      clear hg3 hb3 hnb hb2' hbs hFb
      obtain ⟨c0, c1, c2, c3, c4, c5, c6, c7⟩ := (HX1.out.below HB3.out).cells
      have hz : IntKind.u64.wrap (24 + (x.n : Int) + p + x.m + q) = 24 + (x.n : Int) + p + x.m + q := by rw [IntKind.wrap_u64]; have := HL3.out; omega
      have HP3 := Lib.hid (bstep HG3.out HB3.out HB3.out.size 2 (24 + (x.n : Int) + p + x.m + q) (by have := HL3.out; omega) (by omega) (by omega))
      clear c0 c1 c2 c3 c4 c5 c6 c7
      go_wp2_with fail
      refine HP3.out.mono ?_
      rintro e w4 ⟨A4, k4, rfl, hn4, hg4, hb4⟩
      have hbs := hb4.size
      have hlm : 2 + 2 ≤ 1099511627776 := by omega
      clear hz 
      go_upto_region 10 with (at_builtin; refine wpList_app_row_b (w0 := w1) _ rfl (.tmp 39) (.tmp 42) rfl rfl hg4 rfl hn4 hlm hb4 hbs ?_; intro A5 k5 w5 hg5 hb5)
      have HG5 := Lib.hid (show Gb w5 w1.heap.size A5 4 k5 (be 1 F ++ be 1 0 ++ be 2 (szf x : Nat)) from by rw [HS.out]; push_cast; exact hg5)
      have HB5 := Lib.hid hb5
      clear hg4 hn4 hb4 hg5 hb5 hbs hlm
      obtain ⟨c0, c1, c2, c3, c4, c5, c6, c7⟩ := (HX1.out.below HB5.out).cells
      have hz : IntKind.u64.wrap (x.as_) = x.as_ := by rw [IntKind.wrap_u64]; have := HAs.out; omega
      have HP5 := Lib.hid (bstep HG5.out HB5.out HB5.out.size 2 (x.as_) (by have := HAs.out; omega) (by omega) (by omega))
      clear c0 c1 c2 c4 c5 c6 c7
      go_wp2_with fail
      refine HP5.out.mono ?_
      rintro e w6 ⟨A6, k6, rfl, hn6, hg6, hb6⟩
      have hbs := hb6.size
      have hlm : 4 + 2 ≤ 1099511627776 := by omega
      clear hz c3
      go_upto_region 11 with (at_builtin; refine wpList_app_row_b (w0 := w1) _ rfl (.tmp 44) (.tmp 48) rfl rfl hg6 rfl hn6 hlm hb6 hbs ?_; intro A7 k7 w7 hg7 hb7)
      have HG7 := Lib.hid (show Gb w7 w1.heap.size A7 6 k7 (be 1 F ++ be 1 0 ++ be 2 (szf x : Nat) ++ be 2 x.as_) from hg7)
      have HB7 := Lib.hid hb7
      clear hg6 hn6 hb6 hg7 hb7 hbs hlm
      have hnb := nb_two w7 0 0 rfl (by decide)
      have hbz := HB7.out.alloc HB7.out.size (.cells #[.int .u8 0, .int .u8 0] 5)
      have hgz := HG7.out.alloc (.cells #[.int .u8 0, .int .u8 0] 5)
      have hbs := hbz.size
      go_upto_region 12 with (at_builtin; refine wpList_app_row_b (w0 := w1) _ rfl (.tmp 50) (.tmp 51) rfl rfl hgz rfl hnb (by decide) hbz hbs ?_; intro A8 k8 w8 hg8 hb8)
      have HG8 := Lib.hid (show Gb w8 w1.heap.size A8 8 k8 (be 1 F ++ be 1 0 ++ be 2 (szf x : Nat) ++ be 2 x.as_ ++ be 2 0) by rw [be20]; exact hg8)
      have HB8 := Lib.hid hb8
      clear hnb hbz hgz hbs hg8 hb8
      obtain ⟨c0, c1, c2, c3, c4, c5, c6, c7⟩ := (HX1.out.below HB8.out).cells
      have hz : IntKind.u64.wrap ((x.ts : Int)) = (x.ts : Int) := by rw [IntKind.wrap_u64]; have := HTs.out; omega
      have HP8 := Lib.hid (bstep HG8.out HB8.out HB8.out.size 4 ((x.ts : Int)) (by have := HTs.out; omega) (by omega) (by omega))
      clear c0 c1 c2 c3 c5 c6 c7
      go_wp2_with fail
      refine HP8.out.mono ?_
      rintro e w9 ⟨A9, k9, rfl, hn9, hg9, hb9⟩
      have hbs := hb9.size
      have hlm : 8 + 4 ≤ 1099511627776 := by omega
      clear hz c4
      go_upto_region 13 with (at_builtin; refine wpList_app_row_b (w0 := w1) _ rfl (.tmp 53) (.tmp 57) rfl rfl hg9 rfl hn9 hlm hb9 hbs ?_; intro A10 k10 w10 hg10 hb10)
      have HG10 := Lib.hid (show Gb w10 w1.heap.size A10 12 k10 (be 1 F ++ be 1 0 ++ be 2 (szf x : Nat) ++ be 2 x.as_ ++ be 2 0 ++ be 4 (x.ts : Int)) from hg10)
      have HB10 := Lib.hid hb10
      clear hg9 hn9 hb9 hg10 hb10 hbs hlm
      obtain ⟨c0, c1, c2, c3, c4, c5, c6, c7⟩ := (HX1.out.below HB10.out).cells
      have hz : IntKind.u64.wrap ((x.fs : Int)) = (x.fs : Int) := by rw [IntKind.wrap_u64]; have := HTs.out; omega
      have HP10 := Lib.hid (bstep HG10.out HB10.out HB10.out.size 4 ((x.fs : Int)) (by have := HTs.out; omega) (by omega) (by omega))
      clear c0 c1 c2 c3 c4 c6 c7
      go_wp2_with fail
      refine HP10.out.mono ?_
      rintro e w11 ⟨A11, k11, rfl, hn11, hg11, hb11⟩
      have hbs := hb11.size
      have hlm : 12 + 4 ≤ 1099511627776 := by omega
      clear hz c5
      go_upto_region 14 with (at_builtin; refine wpList_app_row_b (w0 := w1) _ rfl (.tmp 59) (.tmp 63) rfl rfl hg11 rfl hn11 hlm hb11 hbs ?_; intro A12 k12 w12 hg12 hb12)
      have HG12 := Lib.hid (show Gb w12 w1.heap.size A12 16 k12 (be 1 F ++ be 1 0 ++ be 2 (szf x : Nat) ++ be 2 x.as_ ++ be 2 0 ++ be 4 (x.ts : Int) ++ be 4 (x.fs : Int)) from hg12)
      have HB12 := Lib.hid hb12
      clear hg11 hn11 hb11 hg12 hb12 hbs hlm
      obtain ⟨c0, c1, c2, c3, c4, c5, c6, c7⟩ := (HX1.out.below HB12.out).cells
      have HP12 := Lib.hid (dstep HG12.out HB12.out HB12.out.size (HXr.out.below HB12.out) (by have := HL3.out; omega))
      clear c0 c1 c2 c3 c4 c5 c7
      go_wp2_with fail
      refine HP12.out.mono ?_
      rintro e w13 ⟨A13, k13, rfl, hn13, hg13, hb13⟩
      have hbs := hb13.size
      have hlm : 16 + (4 + fld x.n) ≤ 1099511627776 := by have := HL3.out; have := fld_lim x.n; have := fld_lim x.m; omega
      clear c6
      go_upto_region 15 with (at_builtin; refine wpList_app_row_b (w0 := w1) _ rfl (.tmp 65) (.tmp 68) rfl rfl hg13 rfl hn13 hlm hb13 hbs ?_; intro A14 k14 w14 hg14 hb14)
      have HG14 := Lib.hid (show Gb w14 w1.heap.size A14 (16 + (4 + fld x.n)) k14 (be 1 F ++ be 1 0 ++ be 2 (szf x : Nat) ++ be 2 x.as_ ++ be 2 0 ++ be 4 (x.ts : Int) ++ be 4 (x.fs : Int) ++ textB x.xs) from hg14)
      have HB14 := Lib.hid hb14
      clear hg13 hn13 hb13 hg14 hb14 hbs hlm
      obtain ⟨c0, c1, c2, c3, c4, c5, c6, c7⟩ := (HX1.out.below HB14.out).cells
      have HP14 := Lib.hid (dstep HG14.out HB14.out HB14.out.size (HYr.out.below HB14.out) (by have := HL3.out; omega))
      clear c0 c1 c2 c3 c4 c5 c6
      go_wp2_with fail
      refine HP14.out.mono ?_
      rintro e w15 ⟨A15, k15, rfl, hn15, hg15, hb15⟩
      have hbs := hb15.size
      have hlm : 16 + (4 + fld x.n) + (4 + fld x.m) ≤ 1099511627776 := by have := HL3.out; have := fld_lim x.n; have := fld_lim x.m; omega
      clear c7
      go_wp2_with (at_builtin; refine wpList_app_row_b (w0 := w1) _ rfl (.tmp 70) (.tmp 73) rfl rfl hg15 rfl hn15 hlm hb15 hbs ?_; intro A16 k16 w16 hg16 hb16)
      have HG16 := Lib.hid (show Gb w16 w1.heap.size A16 (16 + (4 + fld x.n) + (4 + fld x.m)) k16 (be 1 F ++ be 1 0 ++ be 2 (szf x : Nat) ++ be 2 x.as_ ++ be 2 0 ++ be 4 (x.ts : Int) ++ be 4 (x.fs : Int) ++ textB x.xs ++ textB x.ys) from hg16)
      have HB16 := Lib.hid hb16
      clear hg15 hn15 hb15 hg16 hb16 hbs hlm
      have hE := Lib.hid (show 16 + (4 + fld x.n) + (4 + fld x.m) = szf x by unfold szf; omega)
      have hL := Lib.hid (show be 1 F ++ be 1 0 ++ be 2 (szf x : Nat) ++ be 2 x.as_ ++ be 2 0 ++ be 4 (x.ts : Int) ++ be 4 (x.fs : Int) ++ textB x.xs ++ textB x.ys = extB x by rw [HFe.out]; rfl)
      go_ret
      exact ⟨A16, k16, by rw [← hE.out]; rfl, by rw [← hE.out, ← hL.out]; exact HG16.out.weak' HB1.out.size, bthen HB1.out HB16.out (Nat.le_refl _)⟩
end Go.Proofs.Ythflafcjinpmnaa
