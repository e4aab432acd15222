/- audit: AuditBehind's walk. -/
import Derived.Test.YtompggkdjbkjjaaB8
namespace Go.Proofs.Ytompggkdjbkjjaa
open Go.RowKit
set_option linter.unusedVariables false
set_option maxRecDepth 100000
theorem vs_get {L : List (Int × Int × Int)} {i : Nat} {v : Int × Int × Int} (h : L[i]? = some v) : (vs L)[i * 3]? = some (.int .i64 v.1) ∧ (vs L)[i * 3 + 1]? = some (.int .i64 v.2.1) ∧ (vs L)[i * 3 + 2]? = some (.int .i64 v.2.2) := by
  induction L generalizing i with
  | nil => cases h
  | cons y L ih =>
    cases i with
    | zero => cases h; simp [vs]
    | succ i =>
      have := ih (i := i) h
      simp only [vs, List.flatMap_cons] at this ⊢
      rw [List.getElem?_append_right (by simp; omega), List.getElem?_append_right (by simp; omega), List.getElem?_append_right (by simp; omega)]
      simp only [List.length_cons, List.length_nil]
      rw [show (i + 1) * 3 - (0 + 1 + 1 + 1) = i * 3 by omega, show (i + 1) * 3 + 1 - (0 + 1 + 1 + 1) = i * 3 + 1 by omega, show (i + 1) * 3 + 2 - (0 + 1 + 1 + 1) = i * 3 + 2 by omega]
      exact this
/-- a row of verdicts that can be read -/
def Vr (w : World) (B : Nat) (A : Option Addr) (n : Nat) (L : List (Int × Int × Int)) : Prop :=
  L.length = n ∧ (n = 0 ∨ ∃ g, A = some ⟨g, 0, none⟩ ∧ g < B ∧ ∀ i v, L[i]? = some v → w.cell? ⟨g, i * 3, none⟩ = some (.int .i64 v.1) ∧ w.cell? ⟨g, i * 3 + 1, none⟩ = some (.int .i64 v.2.1) ∧ w.cell? ⟨g, i * 3 + 2, none⟩ = some (.int .i64 v.2.2))
theorem Gw.vr {w : World} {base n c : Nat} {A : Option Addr} {L : List (Int × Int × Int)} (h : Gw w base 46 3 A n c (vs L)) (hn : L.length = n) : Vr w w.heap.size A n L := by
  refine ⟨hn, ?_⟩
  rcases Nat.eq_zero_or_pos n with h0 | h0
  · exact .inl h0
  · obtain ⟨g, e, _, hg, hc⟩ := h.cell h0 (by omega)
    exact .inr ⟨g, e, hg, fun i v hv => ⟨hc _ _ (vs_get hv).1, hc _ _ (vs_get hv).2.1, hc _ _ (vs_get hv).2.2⟩⟩
theorem Vr.below {w w' : World} {B C n : Nat} {A : Option Addr} {L : List (Int × Int × Int)} (h : Vr w B A n L) (b : RowKit.Below C w w') (hB : B ≤ C) : Vr w' B A n L := by
  refine ⟨h.1, h.2.imp id ?_⟩
  rintro ⟨g, e, hg, hc⟩
  have k : ∀ j, w'.cell? ⟨g, j, none⟩ = w.cell? ⟨g, j, none⟩ := fun j => (b.mono hB).cell (p := ⟨g, j, none⟩) hg
  exact ⟨g, e, hg, fun i v hv => ⟨(k _).trans (hc i v hv).1, (k _).trans (hc i v hv).2.1, (k _).trans (hc i v hv).2.2⟩⟩
theorem Vr.more {w : World} {B B' n : Nat} {A : Option Addr} {L : List (Int × Int × Int)} (h : Vr w B A n L) (hB : B ≤ B') : Vr w B' A n L := ⟨h.1, h.2.imp id fun ⟨g, e, hg, hc⟩ => ⟨g, e, by omega, hc⟩⟩
/-- the beginning of a log -/
theorem cut22 {w : World} {B n c : Nat} {A : Option Addr} {E : List Ev} (h : Lg w B A n E) (hc : n ≤ c) (k : Nat) (hk : k ≤ n) :
    ∃ A2, Lg w B A2 k (E.take k) ∧ (∀ W, (Instr.slice 22 (.slice A n c) none (some (.int .i64 (k : Int))) none).run Try.prog W = .ok (.slice A2 k c) W) := by
  have hz : ∀ W : World, (Go.sizeOf 54).run Try.prog W = .ok 5 W := fun W => by kernel_rfl
  have hkc : k ≤ c := by omega
  refine ⟨if c = 0 then A else A.map fun a => a.add 0, ?_, fun W => by simp [Instr.slice, run_underlying Try.underlying22, Instr.sliceBounds, Instr.sliceBound, asIntOf, hkc, hz]⟩
  have ht := h.take k hk
  rcases Nat.eq_zero_or_pos k with h0 | h0
  · subst h0
    exact ⟨ht.1, ht.2.1, .inl rfl⟩
  · rcases h.2.2 with h1 | ⟨g, off, hA, _⟩
    · omega
    · subst hA
      have e : (if c = 0 then some ⟨g, off, none⟩ else (some (⟨g, off, none⟩ : Addr)).map fun a => a.add 0) = some ⟨g, off, none⟩ := by
        split
        · rfl
        · simp [Addr.add]
      rw [e]
      exact ht
set_option maxHeartbeats 8000000 in
theorem behind_law {w : World} {n c m d : Nat} {A Af : Option Addr} {E : List Ev} {L : List Fc} (z : Int) (h : Lg w w.heap.size A n E) (hc : n ≤ c) (hl : ∀ x ∈ E, x.n ≤ 140737488355328) (hok : ∀ x ∈ E, x.ok)
    (hf : Lf w w.heap.size Af m L) (hfl : ∀ x ∈ L, x.n ≤ 140737488355328) (ha : ∀ x ∈ L, x.a < 4294967296) :
    Calls Try.prog 6 #[.slice A n c, .int .i64 z, .slice Af m d] w fun e w' => e = .returned (.bool true) ∧ RowKit.Below w.heap.size w w' := by
  have HLo := Lib.hid (fun (W : World) (hb : RowKit.Below w.heap.size w W) => long_any (c := c) (h.below hb (Nat.le_refl _)) hl)
  have HE := Lib.hid h
  have HK := Lib.hid hok
  cases hlong : longB E with
  | true =>
    rw [hlong] at HLo
    clear hlong h hl hok hf hfl ha
    go_enter Try.func6, Try.ntmps6
    go_wp2_with (first
      | (go_at_call 9; refine (HLo.out _ (Below.refl _ _)).mono ?_; rintro e w1 ⟨rfl, rfl⟩)
      | (go_at_call 10; refine (alive_any _).mono ?_; rintro e w2 ⟨rfl, hb2⟩; have HB2 := Lib.hid hb2; clear hb2))
    go_ret
    exact ⟨rfl, HB2.out⟩
  | false =>
    rw [hlong] at HLo
    by_cases hz : z < 0
    · have e1 : z < 0 := hz
      clear hlong h hl hok hf hfl ha hz
      go_enter Try.func6, Try.ntmps6
      go_wp2_with (first
        | (go_at_call 9; refine (HLo.out _ (Below.refl _ _)).mono ?_; rintro e w1 ⟨rfl, rfl⟩)
        | (go_at_call 10; refine (alive_any _).mono ?_; rintro e w2 ⟨rfl, hb2⟩; have HB2 := Lib.hid hb2; clear hb2))
      go_ret
      exact ⟨rfl, HB2.out⟩
    · obtain ⟨k, rfl⟩ : ∃ k : Nat, z = (k : Int) := ⟨z.toNat, by omega⟩
      have e1 : ((k : Int) < 0) = False := by simp only [eq_iff_iff, iff_false]; omega
      by_cases hkn : n < k
      · have e2 : (n : Int) < (k : Int) := by omega
        clear hlong h hl hok hf hfl ha hz hkn
        go_enter Try.func6, Try.ntmps6
        go_wp2_with (first
          | (go_at_call 9; refine (HLo.out _ (Below.refl _ _)).mono ?_; rintro e w1 ⟨rfl, rfl⟩)
          | (go_at_call 10; refine (alive_any _).mono ?_; rintro e w2 ⟨rfl, hb2⟩; have HB2 := Lib.hid hb2; clear hb2))
        go_ret
        exact ⟨rfl, HB2.out⟩
      · have e2 : ((n : Int) < (k : Int)) = False := by simp only [eq_iff_iff, iff_false]; omega
        by_cases hm : 20 < m
        · have e3 : 20 < (m : Int) := by omega
          clear hlong h hl hok hf hfl ha hz hkn hm
          go_enter Try.func6, Try.ntmps6
          go_wp2_with (first
            | (go_at_call 9; refine (HLo.out _ (Below.refl _ _)).mono ?_; rintro e w1 ⟨rfl, rfl⟩)
            | (go_at_call 10; refine (alive_any _).mono ?_; rintro e w2 ⟨rfl, hb2⟩; have HB2 := Lib.hid hb2; clear hb2))
          go_ret
          exact ⟨rfl, HB2.out⟩
        · have e3 : (20 < (m : Int)) = False := by simp only [eq_iff_iff, iff_false]; omega
          obtain ⟨hn, hx⟩ := short_of hlong
          rw [h.1] at hn
          have hx2 : ∀ x ∈ E, x.n ≤ 1073741824 := fun x hx' => Nat.le_trans (hx x hx') (by omega)
          obtain ⟨A2, hA2, hsl⟩ := cut22 h hc k (by omega)
          have hsl' : ∀ W, (Instr.sliceAt 22 (.slice A n c) none (some (.int .i64 (k : Int))) none).run Try.prog W = .ok (.slice A2 k c) W := fun W => (run_sliceAt_slice W 22 _ _ _ _ Try.underlying22).trans (hsl W)
          have htk : ∀ x ∈ E.take k, x.n ≤ 1073741824 := fun x hx' => hx2 x (List.mem_of_mem_take hx')
          have HO1 := Lib.hid (own_any (c := c) hA2 (Nat.le_refl _) (by omega) htk)
          have HO2 := Lib.hid (fun (W : World) (hb : RowKit.Below w.heap.size w W) => own_any (c := c) (h.below hb (Nat.le_refl _)) hb.size (by omega) hx2)
          have HF1 := Lib.hid (fun (W : World) (hb : RowKit.Below w.heap.size w W) => faces_any (c := d) (hf.below hb (Nat.le_refl _)) hb.size (by omega) hfl)
          have HJ1 := Lib.hid (fun W A' Af' c' d' E' L' b b2 hg he hf' hfm => own_judge (L := L) (m := m) hA2 (by omega) (by omega) htk (fun x hx' => hok x (List.mem_of_mem_take hx')) ha W A' Af' c' d' E' L' b b2 hg he hf' hfm)
          have HJ2 := Lib.hid (fun W A' Af' c' d' E' L' b b2 hg he hf' hfm => own_judge (L := L) (m := m) h (by omega) (by omega) hx2 hok ha W A' Af' c' d' E' L' b b2 hg he hf' hfm)
          have HTk := Lib.hid (show ∃ l, judged (L.map Fc.m) (E.map Ev.m) = judged (L.map Fc.m) ((E.take k).map Ev.m) ++ l by
            have := judged_take (L.map Fc.m) (E.map Ev.m) k (by simp [h.1]; omega)
            rwa [← List.map_take] at this)
          have HLn := Lib.hid (show (judged (L.map Fc.m) (E.map Ev.m)).length ≤ 50 by have h1 := (mrun_lens (E.map Ev.m)).1; have h2 := h.1; unfold judged; rw [List.length_map]; rw [List.length_map] at h1; omega)
          generalize judged (L.map Fc.m) (E.map Ev.m) = J2 at *
          generalize judged (L.map Fc.m) ((E.take k).map Ev.m) = J1 at *
          have e4 : ((J2.length : Int) < (J1.length : Int)) = False := by
            obtain ⟨l, hl⟩ := HTk.out
            have := congrArg List.length hl
            rw [List.length_append] at this
            simp only [eq_iff_iff, iff_false]; omega
          clear hlong h hl hok hf hfl ha hz hkn hm hn hx hx2 htk hA2 HE HK
          go_enter Try.func6, Try.ntmps6
          go_wp2_with (first
            | (go_at_call 9; refine (HLo.out _ (Below.refl _ _)).mono ?_; rintro e w1 ⟨rfl, rfl⟩)
            | (go_at_call 12; have _t := HB4; refine (HO2.out _ HB4.out).mono ?_
               rintro e w5 ⟨A5, c5, E5, rfl, hg5, hm5, hb5⟩
               have HG5 := Lib.hid hg5
               have HM5 := Lib.hid hm5
               have HBw5 := Lib.hid hb5
               have HB5 := Lib.hid (bthen HB4.out hb5 (Nat.le_refl _))
               clear hg5 hm5 hb5)
            | (go_at_call 12; refine HO1.out.mono ?_
               rintro e w2 ⟨Aa, c2, E2, rfl, hg2, hm2, hb2⟩
               have HG2 := Lib.hid hg2
               have HM2 := Lib.hid hm2
               have HB2 := Lib.hid hb2
               clear hg2 hm2 hb2)
            | (go_at_call 15; have _t := HB5; refine (HF1.out _ HB5.out).mono ?_
               rintro e w6 ⟨A6, c6, L6, rfl, hg6, hm6, hb6⟩
               have HG6 := Lib.hid hg6
               have HM6 := Lib.hid hm6
               have HBw6 := Lib.hid hb6
               have HB6 := Lib.hid (bthen HB5.out hb6 (Nat.le_refl _))
               clear hg6 hm6 hb6)
            | (go_at_call 15; refine (HF1.out _ HB2.out).mono ?_
               rintro e w3 ⟨A3, c3, L3, rfl, hg3, hm3, hb3⟩
               have HG3 := Lib.hid hg3
               have HM3 := Lib.hid hm3
               have HBw3 := Lib.hid hb3
               have HB3 := Lib.hid (bthen HB2.out hb3 (Nat.le_refl _))
               clear hg3 hm3 hb3)
            | (go_at_call 17; have _t := HB6; refine (HJ2.out _ _ _ _ _ _ _ _ _ (HG5.out.keepb HBw6.out) HM5.out HG6.out HM6.out).mono ?_
               rintro e w7 ⟨A7, c7, rfl, hg7, hb7⟩
               have HV7 := Lib.hid (hg7.vr rfl)
               have HV47 := Lib.hid (HV4.out.below (bthen (bthen HBw5.out HBw6.out (Nat.le_refl _)) hb7 (Nat.le_refl _)) (Nat.le_refl _))
               have HB7 := Lib.hid (bthen HB6.out hb7 (Nat.le_refl _))
               have HS7 := Lib.hid (show w4.heap.size ≤ w7.heap.size from Nat.le_trans HBw5.out.size (Nat.le_trans HBw6.out.size hb7.size))
               clear hg7 hb7)
            | (go_at_call 17; refine (HJ1.out _ _ _ _ _ _ _ _ _ (HG2.out.keepb HBw3.out) HM2.out HG3.out HM3.out).mono ?_
               rintro e w4 ⟨A4, c4, rfl, hg4, hb4⟩
               have HV4 := Lib.hid (hg4.vr rfl)
               have HB4 := Lib.hid (bthen HB3.out hb4 (Nat.le_refl _))
               clear hg4 hb4))
          clear hsl hsl' e1 e2 e3 e4 HLo HO1 HO2 HF1 HJ1 HJ2 HG2 HG3 HG5 HG6 HM2 HM3 HM5 HM6 HV4
          generalize hk1 : J1.length = k1 at *
          have hk50 : k1 ≤ 50 := by
            obtain ⟨l, hl⟩ := HTk.out
            have h1 := congrArg List.length hl
            have h2 := HLn.out
            rw [List.length_append] at h1
            omega
          have HK1 := Lib.hid hk1
          clear hk1
          go_loopw [9] (fun i wr => ∃ j, j ≤ k1 ∧ i = .int .i64 ((j : Nat) : Int) ∧ RowKit.Below w7.heap.size w7 wr) (fun i _ => (k1 - (match i with | .int _ z => z.toNat | _ => 0)))
          case atStart => exact ⟨0, by omega, rfl, Below.refl _ _⟩
          case round =>
            obtain ⟨j, hjk, rfl, hb⟩ := hrel
            have HBr := Lib.hid hb
            clear hb
            by_cases hj : j < k1
            · have f1 : (j : Int) < (k1 : Int) := by omega
              obtain ⟨v, hv⟩ : ∃ v, J1[j]? = some v := ⟨_, List.getElem?_eq_getElem (by have := HK1.out; omega)⟩
              have hv2 : J2[j]? = some v := by
                obtain ⟨l, hl⟩ := HTk.out
                rw [hl, List.getElem?_append_left (by have := HK1.out; omega)]
                exact hv
              have f2 : (j : Int) < (J2.length : Int) := by have := (List.getElem?_eq_some_iff.1 hv2).1; omega
              have h1 := HV47.out.below (HBr.out.mono HS7.out) (Nat.le_refl _)
              have h2 := HV7.out.below HBr.out (Nat.le_refl _)
              rcases h1.2 with h0 | ⟨g1, hA1, _, hc1⟩
              · omega
              rcases h2.2 with h0 | ⟨g2, hA2, _, hc2⟩
              · omega
              obtain ⟨d0, d1, d2⟩ := hc1 j v hv
              obtain ⟨q0, q1, q2⟩ := hc2 j v hv2
              rw [hA1, hA2]
              have HJ := Lib.hid hj
              have s0 : wrap64 ((j : Int) + 1) = ((j + 1 : Nat) : Int) := by unfold wrap64; omega
              generalize J2.length = k2 at *
              clear h1 h2 hc1 hc2 hv hv2 hj
              go_upto_region 9 with fail
              go_quiet (fail)
              generalize hwq : wr.drewN nq = wq
              have HBq := Lib.hid (show RowKit.Below w7.heap.size w7 wq by rw [← hwq]; exact ⟨HBr.out.os, HBr.out.tape, HBr.out.output, HBr.out.size, HBr.out.block⟩)
              clear hwq d0 d1 d2 q0 q1 q2 f2
              go_wp2_with fail
              exact ⟨⟨j + 1, HJ.out, by go_num, HBq.out⟩, by show k1 - ((j : Int) + 1).toNat < k1 - (j : Int).toNat; have := HJ.out; omega⟩
            · have f1 : ((j : Int) < (k1 : Int)) = False := by simp only [eq_iff_iff, iff_false]; omega
              go_wp2_with (go_at_call 10; refine (alive_any _).mono ?_; rintro e w8 ⟨rfl, hb8⟩; have HB8 := Lib.hid hb8; clear hb8)
              go_ret
              exact ⟨rfl, bthen (bthen HB7.out HBr.out (Nat.le_refl _)) HB8.out (Nat.le_refl _)⟩
end Go.Proofs.Ytompggkdjbkjjaa
