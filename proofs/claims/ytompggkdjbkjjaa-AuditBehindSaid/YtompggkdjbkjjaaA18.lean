/- audit: AuditOnce's walk. -/
import Derived.Test.YtompggkdjbkjjaaA17
namespace Go.Proofs.Ytompggkdjbkjjaa
open Go.RowKit
set_option linter.unusedVariables false
set_option maxRecDepth 100000
theorem tot_mem {E : List Ev} {x : Ev} (h : x ∈ E) : x.n ≤ tot E := by
  unfold tot
  induction E with
  | nil => cases h
  | cons y E ih =>
    simp only [List.map_cons, List.sum_cons]
    rcases List.mem_cons.1 h with rfl | h
    · omega
    · have := ih h; omega
theorem short_of {E : List Ev} (h : longB E = false) : E.length ≤ 50 ∧ ∀ x ∈ E, x.n ≤ 8000 := by
  unfold longB at h
  simp at h
  exact ⟨h.1, fun x hx => Nat.le_trans (tot_mem hx) h.2⟩
theorem lim_of {w : World} {B n : Nat} {A : Option Addr} {E : List Ev} (h : Lg w B A n E) : ∀ a ∈ E.map Ev.m, Lim 256 a.xs := by
  intro a ha
  simp only [List.mem_map] at ha
  obtain ⟨x, hx, rfl⟩ := ha
  exact (h.2.1 x hx).lim
theorem getm {E : List Ev} {i : Nat} {a : Em} (h : (E.map Ev.m)[i]? = some a) : ∃ x, E[i]? = some x ∧ x.m = a := by
  simpa only [List.getElem?_map, Option.map_eq_some_iff] using h
/-- Match of the program's own copy -/
theorem own_match {w : World} {n c : Nat} {A : Option Addr} {E : List Ev} (h : Lg w w.heap.size A n E) (hn : n ≤ 1000) (hl : ∀ x ∈ E, x.n ≤ 1073741824) (hok : ∀ x ∈ E, x.ok) :
    (Calls Try.prog 12 #[.slice A n c] w fun e w' => ∃ A' c' E', e = .returned (.slice A' n c') ∧ Ge w' w.heap.size A' n c' E' ∧ E'.map Ev.m = E.map Ev.m ∧ RowKit.Below w.heap.size w w') ∧
    ∀ (W : World) (A' : Option Addr) (c' : Nat) (E' : List Ev) (b : Nat), Ge W b A' n c' E' → E'.map Ev.m = E.map Ev.m →
      Calls Try.prog 11 #[.slice A' n c'] W fun e w' => ∃ A'' c'', e = .returned (.slice A'' (mrun (E.map Ev.m)).out.length c'') ∧ Gw w' W.heap.size 33 2 A'' (mrun (E.map Ev.m)).out.length c'' (ps (mrun (E.map Ev.m)).out) ∧ RowKit.Below W.heap.size W w' := by
  refine ⟨own_any h (Nat.le_refl _) hn hl, fun W A' c' E' b hg hm => ?_⟩
  have hel : ∀ x' ∈ E', x'.n ≤ 1073741824 ∧ x'.ok := by
    intro x' hx'
    obtain ⟨i, hi, rfl⟩ := List.getElem_of_mem hx'
    have hi2 : i < E.length := by have := congrArg List.length hm; simp at this; omega
    have e : E'[i].m = E[i].m := by
      have := congrArg (fun l => l[i]?) hm
      simpa [List.getElem?_eq_getElem hi, List.getElem?_eq_getElem hi2] using this
    have l1 := (hg.2.2 _ hx').1.len
    have l2 := (h.2.1 _ (List.getElem_mem hi2)).len
    have k1 := hl _ (List.getElem_mem hi2)
    have k2 := hok _ (List.getElem_mem hi2)
    simp only [Ev.m, Em.mk.injEq] at e
    unfold Ev.ok at k2 ⊢
    rw [e.1, e.2.1, e.2.2.1, e.2.2.2.1]
    refine ⟨?_, k2⟩
    rw [← l1, e.2.2.2.2, l2]; exact k1
  exact hm ▸ match_any (c := c') hg.lg (Nat.le_refl _) hn (fun x hx => (hel x hx).1) (fun x hx => (hel x hx).2)
set_option maxHeartbeats 8000000 in
theorem once_law {w : World} {n c : Nat} {A : Option Addr} {E : List Ev} (h : Lg w w.heap.size A n E) (hl : ∀ x ∈ E, x.n ≤ 140737488355328) (hok : ∀ x ∈ E, x.ok) :
    Calls Try.prog 5 #[.slice A n c] w fun e w' => e = .returned (.bool true) ∧ RowKit.Below w.heap.size w w' := by
  have HLo := Lib.hid (fun (W : World) (hb : RowKit.Below w.heap.size w W) => long_any (c := c) (h.below hb (Nat.le_refl _)) hl)
  have HE := Lib.hid h
  have HK := Lib.hid hok
  cases hlong : longB E with
  | true =>
    rw [hlong] at HLo
    clear hlong h hl hok
    go_enter Try.func5, Try.ntmps5
    go_wp2_with (first
      | (go_at_call 9; refine (HLo.out _ (Below.refl _ _)).mono ?_; rintro e w1 ⟨rfl, rfl⟩)
      | (go_at_call 10; refine (alive_any _).mono ?_; rintro e w2 ⟨rfl, hb2⟩; have HB2 := Lib.hid hb2; clear hb2))
    go_ret
    exact ⟨rfl, HB2.out⟩
  | false =>
    obtain ⟨hn, hx⟩ := short_of hlong
    rw [h.1] at hn
    rw [hlong] at HLo
    obtain ⟨ho, hm⟩ := own_match (c := c) h (by omega) (fun x hx' => Nat.le_trans (hx x hx') (by omega)) hok
    have HO := Lib.hid ho
    have HM := Lib.hid hm
    have HOn := Lib.hid (once_all (E.map Ev.m) (lim_of h))
    have HTo := Lib.hid (mrun_told (E.map Ev.m))
    have HLn := Lib.hid (show (mrun (E.map Ev.m)).out.length ≤ 50 by have := (mrun_lens (E.map Ev.m)).1; have := h.1; simp at *; omega)
    have HN := Lib.hid h.1
    clear hlong h hl hok ho hm hx
    generalize hmr : mrun (E.map Ev.m) = M at *
    clear hmr
    obtain ⟨L, out⟩ := M
    dsimp only at *
    go_enter Try.func5, Try.ntmps5
    go_wp2_with (first
      | (go_at_call 9; refine (HLo.out _ (Below.refl _ _)).mono ?_; rintro e w1 ⟨rfl, rfl⟩)
      | (go_at_call 12; refine HO.out.mono ?_
         rintro e w2 ⟨A2, c2, E2, rfl, hg2, hm2, hb2⟩
         have HG2 := Lib.hid hg2
         have HM2 := Lib.hid hm2
         have HB2 := Lib.hid hb2
         clear hg2 hm2 hb2)
      | (go_at_call 11; refine (HM.out _ _ _ _ _ HG2.out HM2.out).mono ?_
         rintro e w3 ⟨A3, c3, rfl, hg3, hb3⟩
         have HP := Lib.hid (hg3.pr rfl)
         have HB3 := Lib.hid (bthen HB2.out hb3 (Nat.le_refl _))
         clear hg3 hb3))
    generalize hk : out.length = k at HP HLn ⊢
    have HKk := Lib.hid hk
    clear hk
    have hk50 := HLn.out
    go_loopw [4] (fun i wr => ∃ j, j ≤ k ∧ i = .int .i64 ((j : Nat) : Int) ∧ RowKit.Below w3.heap.size w3 wr) (fun i _ => (k - (match i with | .int _ z => z.toNat | _ => 0)))
    case atStart => exact ⟨0, by omega, rfl, Below.refl _ _⟩
    case round =>
      obtain ⟨j, hjk, rfl, hb⟩ := hrel
      have HBr := Lib.hid hb
      clear hb
      by_cases hj : j < k
      · have e1 : (j : Int) < (k : Int) := by omega
        obtain ⟨p, hpp⟩ : ∃ p, out[j]? = some p := ⟨_, List.getElem?_eq_getElem (by have := HKk.out; omega)⟩
        have hpm := List.mem_of_getElem? hpp
        obtain ⟨b, hbm, hbk⟩ := HTo.out p hpm
        obtain ⟨y, hy, rfl⟩ := getm hbm
        have hp1 : p.1 < n := by have h1 := (List.getElem?_eq_some_iff.1 hy).1; have := HN.out; omega
        have hokp := HOn.out.ok p hpm
        have hpr := HP.out.below HBr.out (Nat.le_refl _)
        rcases hpr.2 with h0 | ⟨g, hA, hg, hcl⟩
        · omega
        obtain ⟨d0, d1⟩ := hcl j p hpp
        have HC := Lib.hid hcl
        rw [hA]
        have HJ := Lib.hid hj
        have HPp := Lib.hid hpp
        have HY := Lib.hid hy
        have HOp := Lib.hid hokp
        have s0 : wrap64 ((j : Int) + 1) = ((j + 1 : Nat) : Int) := by unfold wrap64; omega
        obtain ⟨p1, p2⟩ := p
        dsimp only at *
        have i1 : ((p1 : Int) < 0) = False := by simp only [eq_iff_iff, iff_false]; omega
        have i2 : ((n : Int) ≤ (p1 : Int)) = False := by simp only [eq_iff_iff, iff_false]; omega
        have i3 : ((p1 : Int) ≤ p2) = False := by have := hokp.1; simp only [eq_iff_iff, iff_false]; omega
        clear hcl hpr hpp hpm hbm hbk hy hokp hg hj
        go_upto_region 7 with fail
        go_quiet (fail)
        generalize hwq : wr.drewN nq = wq
        have q0 : wq.cell? ⟨g, j * 2, none⟩ = some (.int .i64 (p1 : Int)) := by rw [← hwq]; exact d0
        have q1 : wq.cell? ⟨g, j * 2 + 1, none⟩ = some (.int .i64 p2) := by rw [← hwq]; exact d1
        have HBq := Lib.hid (show RowKit.Below w3.heap.size w3 wq by rw [← hwq]; exact ⟨HBr.out.os, HBr.out.tape, HBr.out.output, HBr.out.size, HBr.out.block⟩)
        clear hwq d0 d1 i1 i2 i3
        by_cases hp : p2 < 0
        · go_wp2_with fail
          exact ⟨⟨j + 1, HJ.out, by go_num, HBq.out⟩, by show k - ((j : Int) + 1).toNat < k - (j : Int).toNat; have := HJ.out; omega⟩
        · have hp' : (p2 < 0) = False := by simp only [hp]
          obtain ⟨a, b, ha, hbb, hal⟩ := HOp.out.2 (by omega)
          obtain ⟨x, hx, rfl⟩ := getm ha
          obtain ⟨z, hz, rfl⟩ := getm hbb
          rw [HY.out] at hz
          cases hz
          obtain ⟨s, hs⟩ : ∃ s : Nat, p2 = (s : Int) := ⟨p2.toNat, by omega⟩
          subst hs
          rw [Int.toNat_natCast] at hx
          have hs1 : s < n := by have h1 := (List.getElem?_eq_some_iff.1 hx).1; have := HN.out; omega
          have hlg := HE.out.below (bthen HB3.out HBq.out (Nat.le_refl _)) (Nat.le_refl _)
          have HLg := Lib.hid hlg
          have hxt := hlg.2.1 x (List.mem_of_getElem? hx)
          have hyt := hlg.2.1 y (List.mem_of_getElem? HY.out)
          rcases hlg.2.2 with h0 | ⟨gl, off, hAl, hgl, hcl⟩
          · omega
          obtain ⟨x0, x1, x2, x3, x4⟩ := hcl s x hx
          obtain ⟨y0, y1, y2, y3, y4⟩ := hcl p1 y HY.out
          subst hAl
          have j1 : (s : Int) < (n : Int) := by omega
          have j2 : (p1 : Int) < (n : Int) := by omega
          have HAk := Lib.hid (fun (W : World) (hb : RowKit.Below wq.heap.size wq W) => (show Calls Try.prog 20 #[evV x, evV y] W fun e w' => e = .returned (.bool true) ∧ RowKit.Below W.heap.size W w' from
            hal ▸ alike_any x y (((hxt.more (bthen HB3.out HBq.out (Nat.le_refl _)).size).below hb).more hb.size) (((hyt.more (bthen HB3.out HBq.out (Nat.le_refl _)).size).below hb).more hb.size)))
          have HGl := Lib.hid hgl
          have HX := Lib.hid (⟨x0, x1, x2, x3, x4⟩ : _ ∧ _ ∧ _ ∧ _ ∧ _)
          have HYc := Lib.hid (⟨y0, y1, y2, y3, y4⟩ : _ ∧ _ ∧ _ ∧ _ ∧ _)
          have HQ := Lib.hid (⟨q0, q1⟩ : _ ∧ _)
          have HPw := Lib.hid HOn.out.pw
          have hgq : g < wq.heap.size := World.block_lt_of_cell? wq _ q0
          have hglq : gl < wq.heap.size := World.block_lt_of_cell? wq _ x0
          have HS := Lib.hid (fun (W : World) (hb : RowKit.Below wq.heap.size wq W) => (show (W.cell? ⟨g, j * 2, none⟩ = some (.int .i64 (p1 : Int)) ∧ W.cell? ⟨g, j * 2 + 1, none⟩ = some (.int .i64 (s : Int))) ∧ (W.cell? ⟨gl, off + s * 5, none⟩ = some (.int .i64 x.k) ∧ W.cell? ⟨gl, off + s * 5 + 1, none⟩ = some (.int .u32 (x.h : Int)) ∧ W.cell? ⟨gl, off + s * 5 + 2, none⟩ = some (.int .u32 (x.p : Int)) ∧ W.cell? ⟨gl, off + s * 5 + 3, none⟩ = some (.int .i64 x.at_) ∧ W.cell? ⟨gl, off + s * 5 + 4, none⟩ = some (.slice x.A x.n x.c)) ∧ (W.cell? ⟨gl, off + p1 * 5, none⟩ = some (.int .i64 y.k) ∧ W.cell? ⟨gl, off + p1 * 5 + 1, none⟩ = some (.int .u32 (y.h : Int)) ∧ W.cell? ⟨gl, off + p1 * 5 + 2, none⟩ = some (.int .u32 (y.p : Int)) ∧ W.cell? ⟨gl, off + p1 * 5 + 3, none⟩ = some (.int .i64 y.at_) ∧ W.cell? ⟨gl, off + p1 * 5 + 4, none⟩ = some (.slice y.A y.n y.c)) from
            have e := fun o => hb.cell (p := ⟨g, o, none⟩) hgq
            have f := fun o => hb.cell (p := ⟨gl, o, none⟩) hglq
            ⟨⟨(e _).trans q0, (e _).trans q1⟩, ⟨(f _).trans x0, (f _).trans x1, (f _).trans x2, (f _).trans x3, (f _).trans x4⟩, ⟨(f _).trans y0, (f _).trans y1, (f _).trans y2, (f _).trans y3, (f _).trans y4⟩⟩))
          clear hcl hlg hxt hyt ha hbb hal hx hgl HOp hp hs1 hp1 hgq hglq
          go_upto_region 10 with fail
          go_region_held3 (fun W => (W.cell? ⟨g, j * 2, none⟩ = some (.int .i64 (p1 : Int)) ∧ W.cell? ⟨g, j * 2 + 1, none⟩ = some (.int .i64 (s : Int))) ∧ (W.cell? ⟨gl, off + s * 5, none⟩ = some (.int .i64 x.k) ∧ W.cell? ⟨gl, off + s * 5 + 1, none⟩ = some (.int .u32 (x.h : Int)) ∧ W.cell? ⟨gl, off + s * 5 + 2, none⟩ = some (.int .u32 (x.p : Int)) ∧ W.cell? ⟨gl, off + s * 5 + 3, none⟩ = some (.int .i64 x.at_) ∧ W.cell? ⟨gl, off + s * 5 + 4, none⟩ = some (.slice x.A x.n x.c)) ∧ (W.cell? ⟨gl, off + p1 * 5, none⟩ = some (.int .i64 y.k) ∧ W.cell? ⟨gl, off + p1 * 5 + 1, none⟩ = some (.int .u32 (y.h : Int)) ∧ W.cell? ⟨gl, off + p1 * 5 + 2, none⟩ = some (.int .u32 (y.p : Int)) ∧ W.cell? ⟨gl, off + p1 * 5 + 3, none⟩ = some (.int .i64 y.at_) ∧ W.cell? ⟨gl, off + p1 * 5 + 4, none⟩ = some (.slice y.A y.n y.c)))
            (first | exact HS.out _ (Below.refl _ _) | exact HS.out _ (Below.refl _ _).drew | exact HS.out _ HB4.out)
            (first
              | (go_at_call 20; refine (HAk.out _ (Below.refl _ _).drew).mono ?_
                 rintro e w4 ⟨rfl, hb4⟩
                 have HB4 := Lib.hid (((Below.refl wq.heap.size wq).drew).trans hb4)
                 clear hb4))
          have HB5 := Lib.hid (bthen HBq.out HB4.out (Nat.le_refl _))
          have hj2 := HJ.out
          clear q0 q1 x0 x1 x2 x3 x4 y0 y1 y2 y3 y4
          go_wp2_with fail
          go_loopw [5] (fun i W => ∃ t, t ≤ j ∧ i = .int .i64 ((t : Nat) : Int) ∧ RowKit.Below w3.heap.size w3 W) (fun i _ => (j - (match i with | .int _ z => z.toNat | _ => 0)))
          case atStart => exact ⟨0, by omega, rfl, HB5.out⟩
          case round =>
            obtain ⟨t, htj, rfl, hb⟩ := hrel
            have HBt := Lib.hid hb
            clear hb
            by_cases ht : t < j
            · have t1 : (t : Int) < (j : Int) := by omega
              have t2 : (t : Int) < (k : Int) := by have := HJ.out; omega
              have hkk := HKk.out
              have hjj := HJ.out
              obtain ⟨q, hq⟩ : ∃ q, out[t]? = some q := ⟨_, List.getElem?_eq_getElem (by omega)⟩
              have hne : q.2 ≠ (s : Int) := by
                have hw := HPw.out
                rw [List.pairwise_iff_getElem] at hw
                have h1 := List.getElem?_eq_some_iff.1 hq
                have h2 := List.getElem?_eq_some_iff.1 HPp.out
                obtain ⟨l1, h1⟩ := h1
                obtain ⟨l2, h2⟩ := h2
                have := hw t j l1 l2 ht
                rw [h1, h2] at this
                exact this (by show (0 : Int) ≤ (s : Int); omega)
              have hpr := HP.out.below HBt.out (Nat.le_refl _)
              rcases hpr.2 with h0 | ⟨g', hA', hg', hcl'⟩
              · omega
              obtain rfl : g = g' := by have := hA.symm.trans hA'; simpa using this
              have r1 := (hcl' t q hq).2
              have r2 := (hcl' j _ HPp.out).2
              obtain ⟨qa, qb⟩ := q
              dsimp only at *
              have hne' : (qb == (s : Int)) = false := by simpa using hne
              have s1 : wrap64 ((t : Int) + 1) = ((t + 1 : Nat) : Int) := by unfold wrap64; omega
              have HT := Lib.hid ht
              have HR := Lib.hid (⟨r1, r2⟩ : _ ∧ _)
              clear hpr hcl' hq hne hkk hjj hg' ht
              go_upto_region 15 with fail
              go_quiet (fail)
              have HBu := Lib.hid (show RowKit.Below w3.heap.size w3 (wr.drewN nq) from ⟨HBt.out.os, HBt.out.tape, HBt.out.output, HBt.out.size, HBt.out.block⟩)
              clear r1 r2
              go_wp2_with fail
              exact ⟨⟨t + 1, HT.out, by go_num, HBu.out⟩, by show j - ((t : Int) + 1).toNat < j - (t : Int).toNat; have := HT.out; omega⟩
            · have t1' : ((t : Int) < (j : Int)) = False := by simp only [eq_iff_iff, iff_false]; omega
              go_wp2_with fail
              exact ⟨⟨j + 1, HJ.out, by go_num, HBt.out⟩, by show k - ((j : Int) + 1).toNat < k - (j : Int).toNat; have := HJ.out; omega⟩
      · have e1' : ((j : Int) < (k : Int)) = False := by simp only [eq_iff_iff, iff_false]; omega
        go_wp2_with (go_at_call 10; refine (alive_any _).mono ?_; rintro e w4 ⟨rfl, hb4⟩; have HB4 := Lib.hid hb4; clear hb4)
        go_ret
        exact ⟨rfl, bthen (bthen HB3.out HBr.out (Nat.le_refl _)) HB4.out (Nat.le_refl _)⟩
end Go.Proofs.Ytompggkdjbkjjaa
