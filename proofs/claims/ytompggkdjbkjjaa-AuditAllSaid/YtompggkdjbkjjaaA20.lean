/- audit: AuditAll's walk. -/
import Derived.Test.YtompggkdjbkjjaaA18
namespace Go.Proofs.Ytompggkdjbkjjaa
open Go.RowKit Go.ChangeShapes Go.WideShapes Go.ChangeAt
set_option linter.unusedVariables false
set_option maxRecDepth 100000
/-- whole numbers that can be read -/
def Ix (w : World) (A : Option Addr) (n : Nat) (zs : List Int) : Prop :=
  zs.length = n ∧ (n = 0 ∨ ∃ g off, A = some ⟨g, off, none⟩ ∧ g < w.heap.size ∧ ∀ i z, zs[i]? = some z → w.cell? ⟨g, off + i, none⟩ = some (.int .i64 z))
theorem Ix.below {w w' : World} {A : Option Addr} {n : Nat} {zs : List Int} (h : Ix w A n zs) (b : RowKit.Below w.heap.size w w') : Ix w' A n zs :=
  ⟨h.1, h.2.imp id fun ⟨g, off, e, hg, hc⟩ => ⟨g, off, e, Nat.lt_of_lt_of_le hg b.size, fun i z hz => (b.cell (p := ⟨g, _, none⟩) hg).trans (hc i z hz)⟩⟩
theorem ints_open {H : Type} {enc : TypeId × Value → H} {W : World} {A : Option Addr} {n c : Nat} {fuel : Nat} {x : DataW H × List MemPlace} (hh : DataW.trod enc Try.prog W 0 (fun _ => true) true fuel 30 [.slice A n c] = some x) :
    ∃ zs, Ix W A n zs := by
  rcases open_ints Try.underlying30 Try.underlying3 (by kernel_rfl) hh with ⟨hcs, _⟩ | ⟨x, l, c, zs, hcs, _, hl, hm, hz, hxx, hcell, hwz⟩
  · simp at hcs
    obtain ⟨rfl, rfl, rfl⟩ := hcs
    exact ⟨[], rfl, .inl rfl⟩
  · simp at hcs
    obtain ⟨rfl, rfl, rfl⟩ := hcs
    have hz' : zs.length = _ := hz
    simp only [if_true] at hz'
    refine ⟨zs.take n, by simp; omega, ?_⟩
    rcases Nat.eq_zero_or_pos n with h0 | h0
    · exact .inl h0
    · have hc := hcell 0 (by omega)
      obtain ⟨b, off, spot⟩ := x
      have hspot : spot = none := by simpa [Addr.add] using World.cell?_spot hc
      subst hspot
      have hlt := World.block_lt_of_cell? W _ hc
      refine .inr ⟨b, off, rfl, by simpa [Addr.add] using hlt, fun i z hi => ?_⟩
      rw [List.getElem?_take] at hi
      split at hi
      · have hi2 : i < zs.length := (List.getElem?_eq_some_iff.1 hi).1
        have h1 := hcell i hi2
        have h2 : zs.getD i 0 = z := by simp [List.getD, hi]
        rw [h2, addr_add] at h1
        exact h1
      · cases hi
theorem own_proper {w : World} {n c : Nat} {A : Option Addr} {E : List Ev} (h : Lg w w.heap.size A n E) (hn : n ≤ 1000) (hl : ∀ x ∈ E, x.n ≤ 1073741824) (hok : ∀ x ∈ E, x.ok) :
    ∀ (W : World) (A' : Option Addr) (c' : Nat) (E' : List Ev) (b : Nat), Ge W b A' n c' E' → E'.map Ev.m = E.map Ev.m →
      Calls Try.prog 19 #[.slice A' n c'] W fun e w' => e = .returned (.bool (propB (mrun (E.map Ev.m)).out)) ∧ RowKit.Below W.heap.size W w' := by
  refine fun W A' c' E' b hg hm => ?_
  have hel : ∀ x' ∈ E', x'.n ≤ 1073741824 ∧ x'.ok := by
    intro x' hx'
    obtain ⟨i, hi, rfl⟩ := List.getElem_of_mem hx'
    have hi2 : i < E.length := by have := congrArg List.length hm; simp at this; omega
    have e : E'[i].m = E[i].m := by
      have := congrArg (fun l => l[i]?) hm
      simpa [List.getElem?_eq_getElem hi, List.getElem?_eq_getElem hi2] using this
    have l1 := (hg.2.2 _ hx').1.len
    have l2 := (h.2.1 _ (List.getElem_mem hi2)).len
    have k1 := hl _ (List.getElem_mem hi2)
    have k2 := hok _ (List.getElem_mem hi2)
    simp only [Ev.m, Em.mk.injEq] at e
    unfold Ev.ok at k2 ⊢
    rw [e.1, e.2.1, e.2.2.1, e.2.2.2.1]
    refine ⟨?_, k2⟩
    rw [← l1, e.2.2.2.2, l2]; exact k1
  exact hm ▸ proper_any (c := c') hg.lg (Nat.le_refl _) hn (fun x hx => (hel x hx).1) (fun x hx => (hel x hx).2)
theorem take_em {E : List Ev} {j : Nat} {x : Ev} (h : E[j]? = some x) : (E.take (j + 1)).map Ev.m = (E.take j).map Ev.m ++ [x.m] := by
  rw [List.take_add_one, h, List.map_append]; rfl
set_option maxHeartbeats 16000000 in
theorem all_law {w : World} {n c m d : Nat} {A A2 : Option Addr} {E : List Ev} {zs : List Int} (h : Lg w w.heap.size A n E) (hl : ∀ x ∈ E, x.n ≤ 140737488355328) (hok : ∀ x ∈ E, x.ok) (hz : Ix w A2 m zs) :
    Calls Try.prog 8 #[.slice A n c, .slice A2 m d] w fun e w' => e = .returned (.bool true) ∧ RowKit.Below w.heap.size w w' := by
  have HLo := Lib.hid (fun (W : World) (hb : RowKit.Below w.heap.size w W) => long_any (c := c) (h.below hb (Nat.le_refl _)) hl)
  have HE := Lib.hid h
  have HK := Lib.hid hok
  have HZ := Lib.hid hz
  cases hlong : longB E with
  | true =>
    rw [hlong] at HLo
    clear hlong h hl hok hz
    go_enter Try.func8, Try.ntmps8
    go_wp2_with (first
      | (go_at_call 9; refine (HLo.out _ (Below.refl _ _)).mono ?_; rintro e w1 ⟨rfl, hw1⟩; subst w1)
      | (go_at_call 10; refine (alive_any _).mono ?_; rintro e w2 ⟨rfl, hb2⟩; have HB2 := Lib.hid hb2; clear hb2))
    go_ret
    exact ⟨rfl, HB2.out⟩
  | false =>
    obtain ⟨hn, hx⟩ := short_of hlong
    rw [h.1] at hn
    rw [hlong] at HLo
    have HXs := Lib.hid hx
    have HN := Lib.hid h.1
    clear hlong h hl hok hx hz
    go_enter Try.func8, Try.ntmps8
    go_wp2_with (go_at_call 9; refine (HLo.out _ (Below.refl _ _)).mono ?_; rintro e w1 ⟨rfl, hw1⟩; subst w1)
    go_loopw [5, 6] (fun v i wr => ∃ j t, j ≤ n ∧ i = .int .i64 ((j : Nat) : Int) ∧ v = .int .i64 ((t : Nat) : Int) ∧ t ≤ j ∧ t ≤ m ∧ t = tl ((E.take j).map Ev.m) ∧ (∀ z ∈ zs.take t, 0 ≤ z) ∧ Cov ((E.take j).map Ev.m) ((zs.take t).map Int.toNat) (mrun ((E.take j).map Ev.m)) ∧ RowKit.Below w.heap.size w wr) (fun _ i _ => (n - (match i with | .int _ z => z.toNat | _ => 0)))
    case atStart => exact ⟨0, 0, by omega, rfl, rfl, by omega, by omega, rfl, by simp, by simpa using cov_nil, Below.refl _ _⟩
    case round =>
      obtain ⟨j, t, hjn, rfl, rfl, htj, htm, htl, hnn, hcov, hb⟩ := hrel
      have HBr := Lib.hid hb
      have HCov := Lib.hid hcov
      have HTl := Lib.hid htl
      have HNn := Lib.hid hnn
      have HTm := Lib.hid htm
      clear hb hcov htl hnn
      by_cases hj : j < n
      · have e1 : (j : Int) < (n : Int) := by omega
        obtain ⟨x, hx⟩ : ∃ x, E[j]? = some x := ⟨_, List.getElem?_eq_getElem (by have := HN.out; omega)⟩
        have hlg := HE.out.below HBr.out (Nat.le_refl _)
        have hxt := hlg.2.1 x (List.mem_of_getElem? hx)
        rcases hlg.2.2 with he3 | ⟨g, off, hA, hg, hcl⟩
        · omega
        obtain ⟨x0, x1, x2, x3, x4⟩ := hcl j x hx
        have HX := Lib.hid hx
        have HCl := Lib.hid hcl
        have HXt := Lib.hid hxt
        have HJ := Lib.hid hj
        have s0 : wrap64 ((j : Int) + 1) = ((j + 1 : Nat) : Int) := by unfold wrap64; omega
        subst hA
        clear hcl hlg hx hxt hj hg
        by_cases h3 : x.k = 3
        · have k3 : (x.k == 3) = true := by simpa using h3
          have k4 : (x.k != 3) = false := by simpa using h3
          have HH3 := Lib.hid h3
          clear h3
          by_cases htm2 : t < m
          · have t1 : (t : Int) < (m : Int) := by omega
            have t2 : ((m : Int) ≤ (t : Int)) = False := by simp only [eq_iff_iff, iff_false]; omega
            have hz1 := (HZ.out.below HBr.out).2
            have hzl := HZ.out.1
            obtain ⟨z, hz⟩ : ∃ z, zs[t]? = some z := ⟨_, List.getElem?_eq_getElem (by omega)⟩
            rcases hz1 with h0 | ⟨gz, oz, hA2, hgz, hcz⟩
            · omega
            have z0 := hcz t z hz
            subst hA2
            have HCz := Lib.hid hcz
            have HZt := Lib.hid hz
            have HZl := Lib.hid hzl
            clear hcz hz hzl
            by_cases hz0 : z < 0
            · go_upto_region 8 with fail
              go_quiet (fail)
              have HBu := Lib.hid (show RowKit.Below w.heap.size w (wr.drewN nq) from ⟨HBr.out.os, HBr.out.tape, HBr.out.output, HBr.out.size, HBr.out.block⟩)
              go_wp2_with (go_at_call 10; refine (alive_any _).mono ?_; rintro e w2 ⟨rfl, hb2⟩; have HB2 := Lib.hid (bthen HBu.out hb2 (Nat.le_refl _)); clear hb2)
              go_ret
              exact ⟨rfl, HB2.out⟩
            · have hz0' : (z < 0) = False := by simp only [hz0]
              by_cases hzj : (j : Int) ≤ z
              · go_upto_region 8 with fail
                go_quiet (fail)
                have HBu := Lib.hid (show RowKit.Below w.heap.size w (wr.drewN nq) from ⟨HBr.out.os, HBr.out.tape, HBr.out.output, HBr.out.size, HBr.out.block⟩)
                go_wp2_with (go_at_call 10; refine (alive_any _).mono ?_; rintro e w2 ⟨rfl, hb2⟩; have HB2 := Lib.hid (bthen HBu.out hb2 (Nat.le_refl _)); clear hb2)
                go_ret
                exact ⟨rfl, HB2.out⟩
              · have hzj' : ((j : Int) ≤ z) = False := by simp only [hzj]
                obtain ⟨s, hs⟩ : ∃ s : Nat, z = (s : Int) := ⟨z.toNat, by omega⟩
                subst hs
                have hsj : s < j := by omega
                obtain ⟨y, hy⟩ : ∃ y, E[s]? = some y := ⟨_, List.getElem?_eq_getElem (by have := HN.out; omega)⟩
                have hlg := HE.out.below HBr.out (Nat.le_refl _)
                have hyt := hlg.2.1 y (List.mem_of_getElem? hy)
                obtain ⟨y0, y1, y2, y3, y4⟩ := HCl.out s y hy
                have j1 : (s : Int) < (n : Int) := by omega
                have HY := Lib.hid hy
                have HAk := Lib.hid (fun (W : World) (hb : RowKit.Below wr.heap.size wr W) => (alike_any (w := W) y x (((hyt.more HBr.out.size).below hb).more hb.size) (((HXt.out.more HBr.out.size).below hb).more hb.size)))
                have hgw : g < wr.heap.size := World.block_lt_of_cell? wr _ x0
                have hgz2 : gz < wr.heap.size := World.block_lt_of_cell? wr _ z0
                have HS := Lib.hid (fun (W : World) (hb : RowKit.Below wr.heap.size wr W) => (show W.cell? ⟨gz, oz + t, none⟩ = some (.int .i64 (s : Int)) ∧ (W.cell? ⟨g, off + s * 5, none⟩ = some (.int .i64 y.k) ∧ W.cell? ⟨g, off + s * 5 + 1, none⟩ = some (.int .u32 (y.h : Int)) ∧ W.cell? ⟨g, off + s * 5 + 2, none⟩ = some (.int .u32 (y.p : Int)) ∧ W.cell? ⟨g, off + s * 5 + 3, none⟩ = some (.int .i64 y.at_) ∧ W.cell? ⟨g, off + s * 5 + 4, none⟩ = some (.slice y.A y.n y.c)) ∧ (W.cell? ⟨g, off + j * 5, none⟩ = some (.int .i64 x.k) ∧ W.cell? ⟨g, off + j * 5 + 1, none⟩ = some (.int .u32 (x.h : Int)) ∧ W.cell? ⟨g, off + j * 5 + 2, none⟩ = some (.int .u32 (x.p : Int)) ∧ W.cell? ⟨g, off + j * 5 + 3, none⟩ = some (.int .i64 x.at_) ∧ W.cell? ⟨g, off + j * 5 + 4, none⟩ = some (.slice x.A x.n x.c)) from
                  have e := fun o => hb.cell (p := ⟨gz, o, none⟩) hgz2
                  have f := fun o => hb.cell (p := ⟨g, o, none⟩) hgw
                  ⟨(e _).trans z0, ⟨(f _).trans y0, (f _).trans y1, (f _).trans y2, (f _).trans y3, (f _).trans y4⟩, ⟨(f _).trans x0, (f _).trans x1, (f _).trans x2, (f _).trans x3, (f _).trans x4⟩⟩))
                have HSj := Lib.hid hsj
                obtain ⟨q, hq⟩ : ∃ q, q = alikeB y.m x.m := ⟨_, rfl⟩
                rw [← hq] at HAk
                have HQ := Lib.hid hq
                clear hlg hyt hy hgw hgz2 hz0 hzj hsj hq hgz
                go_upto_region 8 with fail
                go_region_held3 (fun W => W.cell? ⟨gz, oz + t, none⟩ = some (.int .i64 (s : Int)) ∧ (W.cell? ⟨g, off + s * 5, none⟩ = some (.int .i64 y.k) ∧ W.cell? ⟨g, off + s * 5 + 1, none⟩ = some (.int .u32 (y.h : Int)) ∧ W.cell? ⟨g, off + s * 5 + 2, none⟩ = some (.int .u32 (y.p : Int)) ∧ W.cell? ⟨g, off + s * 5 + 3, none⟩ = some (.int .i64 y.at_) ∧ W.cell? ⟨g, off + s * 5 + 4, none⟩ = some (.slice y.A y.n y.c)) ∧ (W.cell? ⟨g, off + j * 5, none⟩ = some (.int .i64 x.k) ∧ W.cell? ⟨g, off + j * 5 + 1, none⟩ = some (.int .u32 (x.h : Int)) ∧ W.cell? ⟨g, off + j * 5 + 2, none⟩ = some (.int .u32 (x.p : Int)) ∧ W.cell? ⟨g, off + j * 5 + 3, none⟩ = some (.int .i64 x.at_) ∧ W.cell? ⟨g, off + j * 5 + 4, none⟩ = some (.slice x.A x.n x.c)))
                  (first | exact HS.out _ (Below.refl _ _) | exact HS.out _ (Below.refl _ _).drew | exact HS.out _ HB4.out)
                  (first
                    | (go_at_call 20; refine (HAk.out _ (Below.refl _ _).drew).mono ?_
                       rintro e w4 ⟨rfl, hb4⟩
                       have HB4 := Lib.hid (((Below.refl wr.heap.size wr).drew).trans hb4)
                       clear hb4))
                have HBw4 := Lib.hid (bthen HBr.out HB4.out (Nat.le_refl _))
                clear x0 x1 x2 x3 x4 y0 y1 y2 y3 y4 z0
                cases q with
                | false =>
                  go_wp2_with (go_at_call 10; refine (alive_any _).mono ?_; rintro e w2 ⟨rfl, hb2⟩; have HB2 := Lib.hid (bthen HBw4.out hb2 (Nat.le_refl _)); clear hb2)
                  go_ret
                  exact ⟨rfl, HB2.out⟩
                | true =>
                  go_wp2_with fail
                  go_loopw [7] (fun v W => ∃ r, r ≤ t ∧ v = .int .i64 ((r : Nat) : Int) ∧ (∀ r' < r, zs[r']? ≠ some (s : Int)) ∧ RowKit.Below w.heap.size w W) (fun v _ => (t - (match v with | .int _ z => z.toNat | _ => 0)))
                  case atStart => exact ⟨0, by omega, rfl, fun r' hr' => by omega, HBw4.out⟩
                  case round =>
                    obtain ⟨r, hrt, rfl, hne, hb⟩ := hrel
                    have HBq := Lib.hid hb
                    have HNe := Lib.hid hne
                    clear hb hne
                    by_cases hr : r < t
                    · have r1 : (r : Int) < (t : Int) := by omega
                      have r2 : (r : Int) < (m : Int) := by omega
                      have hzl := HZl.out
                      obtain ⟨u, hu⟩ : ∃ u, zs[r]? = some u := ⟨_, List.getElem?_eq_getElem (by omega)⟩
                      rcases (HZ.out.below HBq.out).2 with h0 | ⟨gz', oz', hA2', hgz', hcz'⟩
                      · omega
                      simp only [Option.some.injEq, Addr.mk.injEq, and_true] at hA2'
                      obtain ⟨rfl, rfl⟩ := hA2'
                      have u0 := hcz' r u hu
                      have u1 := hcz' t _ HZt.out
                      have HU := Lib.hid hu
                      have s1 : wrap64 ((r : Int) + 1) = ((r + 1 : Nat) : Int) := by unfold wrap64; omega
                      have HRt := Lib.hid hr
                      clear hcz' hu hzl hgz' hr
                      by_cases hus : u = (s : Int)
                      · subst hus
                        go_upto_region 13 with fail
                        go_quiet (fail)
                        have HBu := Lib.hid (show RowKit.Below w.heap.size w (wr.drewN nq) from ⟨HBq.out.os, HBq.out.tape, HBq.out.output, HBq.out.size, HBq.out.block⟩)
                        clear u0 u1
                        go_wp2_with (go_at_call 10; refine (alive_any _).mono ?_; rintro e w2 ⟨rfl, hb2⟩; have HB2 := Lib.hid (bthen HBu.out hb2 (Nat.le_refl _)); clear hb2)
                        go_ret
                        exact ⟨rfl, HB2.out⟩
                      · have hus' : (u == (s : Int)) = false := by simpa using hus
                        have HNe2 := Lib.hid (show ∀ r' < r + 1, zs[r']? ≠ some (s : Int) from fun r' hr' => by
                          rcases Nat.lt_or_ge r' r with h | h
                          · exact HNe.out r' h
                          · have : r' = r := by omega
                            rw [this, HU.out]; simpa using hus)
                        clear hus
                        go_upto_region 13 with fail
                        go_quiet (fail)
                        have HBu := Lib.hid (show RowKit.Below w.heap.size w (wr.drewN nq) from ⟨HBq.out.os, HBq.out.tape, HBq.out.output, HBq.out.size, HBq.out.block⟩)
                        clear u0 u1
                        go_wp2_with fail
                        exact ⟨⟨r + 1, HRt.out, by go_num, HNe2.out, HBu.out⟩, by show t - ((r : Int) + 1).toNat < t - (r : Int).toNat; have := HRt.out; omega⟩
                    · have r1' : ((r : Int) < (t : Int)) = False := by simp only [eq_iff_iff, iff_false]; omega
                      have hrt2 : r = t := by omega
                      subst hrt2
                      have s2 : wrap64 ((r : Int) + 1) = ((r + 1 : Nat) : Int) := by unfold wrap64; omega
                      have hlen : r < zs.length := by have := HZl.out; omega
                      have hG : (zs.take (r + 1)).map Int.toNat = (zs.take r).map Int.toNat ++ [s] := by
                        rw [List.take_add_one, HZt.out, List.map_append]; simp
                      have HC2 := Lib.hid (show Cov ((E.take (j + 1)).map Ev.m) ((zs.take (r + 1)).map Int.toNat) (mrun ((E.take (j + 1)).map Ev.m)) by
                        rw [take_em HX.out, hG]
                        refine cov_told HCov.out (a := y.m) (g := s) ?_ HQ.out.symm ?_
                        · rw [List.getElem?_map, List.getElem?_take, if_pos HSj.out, HY.out]; rfl
                        · intro hmem
                          obtain ⟨z, hz, hzs⟩ := List.mem_map.1 hmem
                          have hz0 := HNn.out z hz
                          obtain ⟨i, hi, hiz⟩ := List.getElem_of_mem hz
                          simp at hi
                          refine HNe.out i (by omega) ?_
                          rw [List.getElem?_eq_getElem (by omega)]
                          rw [List.getElem_take] at hiz
                          rw [hiz]; congr 1; omega)
                      have HT2 := Lib.hid (show r + 1 = tl ((E.take (j + 1)).map Ev.m) by rw [take_em HX.out, tl_snoc, if_pos (show x.m.k = 3 from HH3.out), ← HTl.out])
                      have HN2 := Lib.hid (show ∀ z ∈ zs.take (r + 1), 0 ≤ z from fun z hz => by
                        rw [List.take_add_one, HZt.out] at hz
                        rcases List.mem_append.1 hz with hz | hz
                        · exact HNn.out z hz
                        · simp at hz; omega)
                      clear hG hlen
                      go_wp2_with fail
                      exact ⟨⟨j + 1, r + 1, HJ.out, by go_num, by go_num, by omega, by omega, HT2.out, HN2.out, HC2.out, HBq.out⟩, by show n - ((j : Int) + 1).toNat < n - (j : Int).toNat; have := HJ.out; omega⟩
          · have t2 : (m : Int) ≤ (t : Int) := by omega
            go_upto_region 8 with fail
            go_quiet (fail)
            have HBu := Lib.hid (show RowKit.Below w.heap.size w (wr.drewN nq) from ⟨HBr.out.os, HBr.out.tape, HBr.out.output, HBr.out.size, HBr.out.block⟩)
            go_wp2_with (go_at_call 10; refine (alive_any _).mono ?_; rintro e w2 ⟨rfl, hb2⟩; have HB2 := Lib.hid (bthen HBu.out hb2 (Nat.le_refl _)); clear hb2)
            go_ret
            exact ⟨rfl, HB2.out⟩
        · have k3 : (x.k == 3) = false := by simpa using h3
          have k4 : (x.k != 3) = true := by simpa using h3
          have HC2 := Lib.hid (show Cov ((E.take (j + 1)).map Ev.m) ((zs.take t).map Int.toNat) (mrun ((E.take (j + 1)).map Ev.m)) by rw [take_em HX.out]; exact cov_other HCov.out h3)
          have HT2 := Lib.hid (show t = tl ((E.take (j + 1)).map Ev.m) by rw [take_em HX.out, tl_snoc, if_neg (show ¬ x.m.k = 3 from h3)]; exact HTl.out)
          clear h3
          go_wp2_with fail
          exact ⟨⟨j + 1, t, HJ.out, by go_num, rfl, by omega, htm, HT2.out, HNn.out, HC2.out, HBr.out⟩, by show n - ((j : Int) + 1).toNat < n - (j : Int).toNat; have := HJ.out; omega⟩
      · have e1' : ((j : Int) < (n : Int)) = False := by simp only [eq_iff_iff, iff_false]; omega
        have hjn2 : j = n := by omega
        subst hjn2
        have htk : E.take j = E := List.take_of_length_le (by have := HN.out; omega)
        rw [htk] at HCov HTl
        obtain ⟨ho, _⟩ := own_match (c := c) HE.out (by omega) (fun x hx' => Nat.le_trans (HXs.out x hx') (by omega)) HK.out
        have HO := Lib.hid (fun (W : World) (hb : RowKit.Below w.heap.size w W) => own_any (c := c) (HE.out.below hb (Nat.le_refl _)) hb.size (by omega) (fun x hx' => Nat.le_trans (HXs.out x hx') (by omega)))
        have HP := Lib.hid (own_proper (c := c) HE.out (by omega) (fun x hx' => Nat.le_trans (HXs.out x hx') (by omega)) HK.out)
        rw [HCov.out.all] at HP
        have HMa := Lib.hid (fun (W : World) (hb : RowKit.Below w.heap.size w W) => matched_any (c := c) (HE.out.below hb (Nat.le_refl _)) hb.size (by omega) (fun x hx' => Nat.le_trans (HXs.out x hx') (by omega)) HK.out)
        rw [HCov.out.num, ← HTl.out] at HMa
        clear ho htk
        go_wp2_with (first
          | (go_at_call 10; refine (alive_any _).mono ?_; rintro e w2 ⟨rfl, hb2⟩; have HB2 := Lib.hid (bthen HBr.out hb2 (Nat.le_refl _)); clear hb2)
          | (go_at_call 12; refine (HO.out _ HB2.out).mono ?_
             rintro e w3 ⟨A3, c3, E3, rfl, hg3, hm3, hb3⟩
             have HG3 := Lib.hid hg3
             have HM3 := Lib.hid hm3
             have HB3 := Lib.hid (bthen HB2.out hb3 (Nat.le_refl _))
             clear hg3 hm3 hb3)
          | (go_at_call 19; refine (HP.out _ _ _ _ _ HG3.out HM3.out).mono ?_
             rintro e w4 ⟨rfl, hb4⟩
             have HB4 := Lib.hid (bthen HB3.out hb4 (Nat.le_refl _))
             clear hb4)
          | (go_at_call 21; refine (HMa.out _ HB4.out).mono ?_
             rintro e w5 ⟨rfl, hb5⟩
             have HB5 := Lib.hid (bthen HB4.out hb5 (Nat.le_refl _))
             clear hb5))
        go_ret
        exact ⟨rfl, HB5.out⟩
end Go.Proofs.Ytompggkdjbkjjaa
