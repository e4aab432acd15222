/- audit: verdicts. -/
import Derived.Test.YtompggkdjbkjjaaA13
namespace Go.Proofs.Ytompggkdjbkjjaa
open Go.RowKit Go.Maps Go.MapKept Go.ChangeMaps
open Go.WideMaps (KeyLaw)
set_option linter.unusedVariables false
set_option maxRecDepth 100000
theorem row61 : (61 : TypeId) < Try.prog.types.size := of_decide_eq_true (by kernel_rfl)
theorem deep61 : Try.prog.keyTypeAt (Try.prog.types.size + 1) 61 = true := by kernel_rfl
theorem law61 : KeyLaw Try.prog 61 := deep_law_laid laidOut (m := 2) (by omega) row61 (by kernel_rfl) (by kernel_rfl)
theorem zero3 (u : World) : (zeroValue 3).run Try.prog u = .ok (.int .i64 0) u := by kernel_rfl
/-- who answers, and who is told -/
def ke (a b : Nat) : Value := .agg #[.int .u32 (a : Int), .int .u32 (b : Int)]
theorem key61 {a b : Nat} (ha : a < 4294967296) (hb : b < 4294967296) : ∃ kl, keyOf Try.prog 61 (ke a b) = some kl := by
  unfold keyOf
  rw [Try.underlying61]
  have hkt : Try.prog.keyType 61 = true := deep61
  obtain ⟨n, hn⟩ := types_size
  simp only [hkt, Bool.true_and]
  rw [if_pos (by unfold ke Value.formed; rw [Try.underlying61]; simp [cells61]), hn]
  simp [Program.keyLits, ke, Value.cells, Try.underlying61, Try.underlying51, cells61, cells51, u32_wf ha, u32_wf hb]
theorem mrun_told (E : List Em) : ∀ p ∈ (mrun E).out, ∃ x, E[p.1]? = some x ∧ x.k = 3 := by
  refine mrun_ind (mo := fun E s => ∀ p ∈ s.out, ∃ x, E[p.1]? = some x ∧ x.k = 3) (fun p hp => by cases hp) (fun E x ih => ?_) E
  have old : ∀ p ∈ (mrun E).out, ∃ y, (E ++ [x])[p.1]? = some y ∧ y.k = 3 := fun p hp => by
    obtain ⟨y, hy, hk⟩ := ih p hp
    exact ⟨y, by rw [List.getElem?_append_left (List.getElem?_eq_some_iff.1 hy).1]; exact hy, hk⟩
  unfold mstep
  split
  · exact old
  · split
    · rename_i h1 h3
      intro p hp
      rcases List.mem_append.1 hp with hp | hp
      · exact old p hp
      · simp at hp; subst hp
        exact ⟨x, by simp, h3⟩
    · exact old
/-- what is said of an event Told -/
def vd (E : List Em) (fI : Value → Int) (g : Value → Bool) (p : Nat × Int) : Int × Int × Int :=
  if p.2 ≠ -1 then (1, p.1, p.2)
  else match E[p.1]? with
    | some x => if g (ke x.p x.h) = true ∧ fI (ke x.p x.h) < p.1 then (2, p.1, fI (ke x.p x.h)) else (3, p.1, -1)
    | none => (3, p.1, -1)
def vs (L : List (Int × Int × Int)) : List Value := L.flatMap fun v => [.int .i64 v.1, .int .i64 v.2.1, .int .i64 v.2.2]
theorem i46 : (Try.prog.info? 46).map (fun i => (i.zero, i.size, i.bytes)) = some (some (.agg #[.int .i64 0, .int .i64 0, .int .i64 0]), 3, 24) := by kernel_rfl
theorem Gw.weak {w : World} {base base' e size n c : Nat} {A : Option Addr} {cs : List Value} (h : Gw w base e size A n c cs) (hb : base' ≤ base) : Gw w base' e size A n c cs :=
  ⟨h.1, h.2.imp id fun ⟨g, cap, cur, a1, a2, a3⟩ => ⟨g, cap, cur, a1, by omega, a3⟩⟩
set_option maxHeartbeats 4000000 in
theorem judge_any {w : World} {n c m d N : Nat} {A Af : Option Addr} {E : List Ev} (h : Lg w w.heap.size A n E) (hn : n ≤ 1000) (hl : ∀ x ∈ E, x.n ≤ 1073741824) (hok : ∀ x ∈ E, x.ok) {f : Value → Value} {g : Value → Bool} {fI : Value → Int} (hf : ∀ q, f q = .int .i64 (fI q))
    (HFT : Calls Try.prog 29 #[.slice A n c, .slice Af m d] w fun e w' => ∃ b, e = .returned (.map (some b)) ∧ Mp Try.prog 61 (.int .i64 0) w' b N f g ∧ RowKit.Below w.heap.size w w') :
    Calls Try.prog 17 #[.slice A n c, .slice Af m d] w fun e w' => ∃ A' c', e = .returned (.slice A' (mrun (E.map Ev.m)).out.length c') ∧ Gw w' w.heap.size 46 3 A' (mrun (E.map Ev.m)).out.length c' (vs ((mrun (E.map Ev.m)).out.map (vd (E.map Ev.m) fI g))) ∧ RowKit.Below w.heap.size w w' := by
  have HM := Lib.hid (fun (W : World) (hb : RowKit.Below w.heap.size w W) => match_any (c := c) (h.below hb (Nat.le_refl _)) hb.size hn hl hok)
  have HLn := Lib.hid (show (mrun (E.map Ev.m)).out.length ≤ 1000 by have := (mrun_lens (E.map Ev.m)).1; have := h.1; simp at *; omega)
  have HTo := Lib.hid (show ∀ p ∈ (mrun (E.map Ev.m)).out, ∃ x, E[p.1]? = some x from fun p hp => by
    obtain ⟨x, hx, _⟩ := mrun_told _ p hp
    simp only [List.getElem?_map, Option.map_eq_some_iff] at hx
    obtain ⟨y, hy, _⟩ := hx
    exact ⟨y, hy⟩)
  have HE := Lib.hid h
  have HK := Lib.hid hok
  have HF := Lib.hid hf
  have HFt := Lib.hid HFT
  have HN := Lib.hid h.1
  clear h hl hok hf HFT
  generalize (mrun (E.map Ev.m)).out = out at *
  go_enter Try.func17, Try.ntmps17
  go_wp2_with (first
    | (go_at_call 29; refine HFt.out.mono ?_
       rintro e w1 ⟨b, rfl, hm1, hb1⟩
       have HMp := Lib.hid hm1
       have HB1 := Lib.hid hb1
       clear hm1 hb1)
    | (go_at_call 11; refine (HM.out _ HB1.out).mono ?_
       rintro e w2 ⟨A1, c1, rfl, hg2, hb2⟩
       have HP := Lib.hid (hg2.pr rfl)
       have HMp2 := Lib.hid (HMp.out.keep (hb2.block _ HMp.out.lt))
       have HB2 := Lib.hid (bthen HB1.out hb2 (Nat.le_refl _))
       clear hg2 hb2))
  generalize hm : out.length = k at HP HLn ⊢
  have HMm := Lib.hid hm
  clear hm
  go_loopw [5, 19] (fun v i wr => ∃ j A' c', j ≤ k ∧ i = .int .i64 ((j : Nat) : Int) ∧ v = .slice A' j c' ∧ Gw wr w2.heap.size 46 3 A' j c' (vs ((out.take j).map (vd (E.map Ev.m) fI g))) ∧ RowKit.Below w2.heap.size w2 wr) (fun _ i _ => (k - (match i with | .int _ z => z.toNat | _ => 0)))
  case atStart => exact ⟨0, none, 0, by omega, rfl, rfl, Gw.nil _ _ _ _, Below.refl _ _⟩
  case round =>
    obtain ⟨j, A2, c2, hjk, rfl, rfl, hg, hb⟩ := hrel
    have HG := Lib.hid hg
    have HBr := Lib.hid hb
    clear hg hb
    by_cases hj : j < k
    · have e1 : (j : Int) < (k : Int) := by omega
      have hk2 := HLn.out
      obtain ⟨p, hpp⟩ : ∃ p, out[j]? = some p := ⟨_, List.getElem?_eq_getElem (by have := HMm.out; omega)⟩
      obtain ⟨x, hx⟩ := HTo.out p (List.mem_of_getElem? hpp)
      have hpr := HP.out.below HBr.out (Nat.le_refl _)
      rcases hpr.2 with h0 | ⟨gb, hA, hgb, hcl⟩
      · omega
      obtain ⟨d0, d1⟩ := hcl j p hpp
      rw [hA]
      have hlt : p.1 < n := by have h1 := (List.getElem?_eq_some_iff.1 hx).1; have := HN.out; omega
      obtain ⟨wa, hwa⟩ : ∃ wa, wa = wr.alloc (.cells #[.int .i64 (p.1 : Int), .int .i64 p.2] 33) := ⟨_, rfl⟩
      have hbx : RowKit.Below wr.heap.size wr wa := by rw [hwa]; exact (Below.refl _ _).alloc (Nat.le_refl _) _
      have hbox : wa.heap[wr.heap.size]? = some (.cells #[.int .i64 (p.1 : Int), .int .i64 p.2] 33 (0, 0)) := by rw [hwa]; exact heap_alloc_new wr _
      have b0 : wa.cell? ⟨wr.heap.size, 0, none⟩ = some (.int .i64 (p.1 : Int)) := by simp [World.cell?, hbox]
      have b1 : wa.cell? ⟨wr.heap.size, 1, none⟩ = some (.int .i64 p.2) := by simp [World.cell?, hbox]
      have hBa := bthen HB2.out (bthen HBr.out hbx (Nat.le_refl _)) (Nat.le_refl _)
      have hlg := HE.out.below hBa (Nat.le_refl _)
      rcases hlg.2.2 with he3 | ⟨gl, off, hAl, hgl, hcll⟩
      · omega
      obtain ⟨f0, f1, f2, f3, f4⟩ := hcll p.1 x hx
      rw [hAl]
      have HKx := Lib.hid (HK.out x (List.mem_of_getElem? hx))
      obtain ⟨kl, hkl⟩ := key61 HKx.out.2.2.1 HKx.out.2.1
      have HBa := Lib.hid (show RowKit.Below w2.heap.size w2 wa from bthen HBr.out hbx (Nat.le_refl _))
      have HGa := Lib.hid (HG.out.below hbx)
      have HWa := Lib.hid hwa
      have HPp := Lib.hid hpp
      have HXx := Lib.hid hx
      have HJ := Lib.hid hj
      have HKl := Lib.hid hkl
      have i1 : (0 : Int) ≤ (p.1 : Int) := by omega
      have i2 : (p.1 : Int) < (n : Int) := by omega
      have i3' : ((p.1 : Int)).toNat = p.1 := by omega
      clear hbx hbox hBa hlg hpp hx hcl hcll hpr hwa hkl hj hgb hgl
      go_upto_region 6 with fail
      rw [← HWa.out]
      go_quiet (fail)
      generalize hwq : wa.drewN nq = wq
      have q0 : wq.cell? ⟨gl, off + p.1 * 5, none⟩ = some (.int .i64 x.k) := by rw [← hwq]; exact f0
      have q1 : wq.cell? ⟨gl, off + p.1 * 5 + 1, none⟩ = some (.int .u32 (x.h : Int)) := by rw [← hwq]; exact f1
      have q2 : wq.cell? ⟨gl, off + p.1 * 5 + 2, none⟩ = some (.int .u32 (x.p : Int)) := by rw [← hwq]; exact f2
      have q3 : wq.cell? ⟨gl, off + p.1 * 5 + 3, none⟩ = some (.int .i64 x.at_) := by rw [← hwq]; exact f3
      have q4 : wq.cell? ⟨gl, off + p.1 * 5 + 4, none⟩ = some (.slice x.A x.n x.c) := by rw [← hwq]; exact f4
      have HBq := Lib.hid (show RowKit.Below w2.heap.size w2 wq by rw [← hwq]; exact ⟨HBa.out.os, HBa.out.tape, HBa.out.output, HBa.out.size, HBa.out.block⟩)
      have HGq := Lib.hid (show Gw wq w2.heap.size 46 3 A2 j c2 (vs ((out.take j).map (vd (E.map Ev.m) fI g))) by rw [← hwq]; exact HGa.out.keep fun _ _ => rfl)
      have HTk := Lib.hid (show (out.take (j + 1)).map (vd (E.map Ev.m) fI g) = (out.take j).map (vd (E.map Ev.m) fI g) ++ [vd (E.map Ev.m) fI g p] by rw [List.take_add_one, HPp.out, List.map_append]; rfl)
      have HEx := Lib.hid (show (E.map Ev.m)[p.1]? = some x.m by rw [List.getElem?_map, HXx.out]; rfl)
      have HA2 := Lib.hid (fun (k' : Nat) (hk' : blk A2 = some k') => HG.out.blk_lt k' hk')
      have HFin := Lib.hid (fun (w5 : World) (A5 : Option Addr) (W5 : World) (hb : RowKit.Below w2.heap.size w2 W5) (hg : W5.grownBy w5 (blk A2)) => (show RowKit.Below w2.heap.size w2 w5 from hb.grown hg hb.size fun k' hk' => (HA2.out k' hk').1))
      have HLk := Lib.hid (fun (W4 : World) (hb : RowKit.Below wq.heap.size wq W4) => (by
        have hM := (HMp2.out.keep (w' := W4) ((hb.block _ (Nat.lt_of_lt_of_le HMp2.out.lt HBq.out.size)).trans (HBq.out.block _ HMp2.out.lt))).look_ok law61 Try.underlying87 (zero3 _) HKl.out
        rw [HF.out] at hM
        exact hM : (Instr.lookup 87 (.map (some b)) (.agg #[.int .u32 (x.p : Int), .int .u32 (x.h : Int)]) true).run Try.prog W4 = .ok (.tuple #[.int .i64 (fI (ke x.p x.h)), .bool (g (ke x.p x.h))]) W4))
      have HV0 := Lib.hid (show vd (E.map Ev.m) fI g p = if p.2 ≠ -1 then (1, (p.1 : Int), p.2) else (if g (ke x.p x.h) = true ∧ fI (ke x.p x.h) < p.1 then (2, (p.1 : Int), fI (ke x.p x.h)) else (3, (p.1 : Int), -1)) by unfold vd; rw [HEx.out]; rfl)
      clear hwq f0 f1 f2 f3 f4 b0 b1 d0 d1
      generalize fI (ke x.p x.h) = z at *
      generalize g (ke x.p x.h) = q at *
      obtain ⟨pt, ps⟩ := p
      dsimp only at *
      by_cases hs : ps = -1
      · subst hs
        cases q with
        | true =>
          by_cases hz : z < pt
          · have HV := Lib.hid (show vd (E.map Ev.m) fI g (pt, -1) = (2, (pt : Int), z) by rw [HV0.out]; simp [hz])
            go_wp2_with (first
                | (go_at_call 23; refine (teller_any x _).mono ?_
                   rintro e w4 ⟨rfl, hb4⟩
                   have HB4 := Lib.hid hb4
                   have hlk := HLk.out w4 hb4
                   clear hb4)
                | (at_builtin; refine wpList_push _ rfl (.tmp 58) (.tmp 62) 41 rfl Try.underlying41 i46 rfl (by decide) (by decide) [.int .i64 2, .int .i64 (pt : Int), .int .i64 z] rfl (((HGq.out.below HB4.out).below ((Below.refl w4.heap.size w4).alloc (Nat.le_refl _) _))) rfl rfl (heap_alloc_new _ _) (by intro u hu; simp at hu; rcases hu with rfl | rfl | rfl <;> rfl) (by omega) (Nat.le_trans HBq.out.size (Nat.le_trans HB4.out.size ((Below.refl w4.heap.size w4).alloc (Nat.le_refl _) _).size)) ?_
                   intro A5 c5 w5 hg5 hr5
                   have HG5 := Lib.hid hg5
                   have HB5 := Lib.hid ((bthen (bthen HBq.out HB4.out (Nat.le_refl _)) ((Below.refl w4.heap.size w4).alloc (Nat.le_refl _) (.cells #[.int .i64 2, .int .i64 (pt : Int), .int .i64 z] 46)) (Nat.le_refl _)))
                   have HB6 := Lib.hid (HFin.out w5 A5 _ HB5.out hr5.1)
                   clear hg5 hr5 hlk))
            exact ⟨⟨j + 1, A5, c5, HJ.out, by go_num, rfl, by rw [HTk.out, HV.out]; simpa [vs] using HG5.out, HB6.out⟩, by show k - ((j : Int) + 1).toNat < k - (j : Int).toNat; have := HJ.out; omega⟩
          · have hz' : (z < (pt : Int)) = False := by simp only [hz]
            have HV := Lib.hid (show vd (E.map Ev.m) fI g (pt, -1) = (3, (pt : Int), -1) by rw [HV0.out]; simp [hz])
            go_wp2_with (first
                | (go_at_call 23; refine (teller_any x _).mono ?_
                   rintro e w4 ⟨rfl, hb4⟩
                   have HB4 := Lib.hid hb4
                   have hlk := HLk.out w4 hb4
                   clear hb4)
                | (at_builtin; refine wpList_push _ rfl (.tmp 37) (.tmp 40) 41 rfl Try.underlying41 i46 rfl (by decide) (by decide) [.int .i64 3, .int .i64 (pt : Int), .int .i64 (-1)] rfl (((HGq.out.below HB4.out).below ((Below.refl w4.heap.size w4).alloc (Nat.le_refl _) _))) rfl rfl (heap_alloc_new _ _) (by intro u hu; simp at hu; rcases hu with rfl | rfl | rfl <;> rfl) (by omega) (Nat.le_trans HBq.out.size (Nat.le_trans HB4.out.size ((Below.refl w4.heap.size w4).alloc (Nat.le_refl _) _).size)) ?_
                   intro A5 c5 w5 hg5 hr5
                   have HG5 := Lib.hid hg5
                   have HB5 := Lib.hid ((bthen (bthen HBq.out HB4.out (Nat.le_refl _)) ((Below.refl w4.heap.size w4).alloc (Nat.le_refl _) (.cells #[.int .i64 3, .int .i64 (pt : Int), .int .i64 (-1)] 46)) (Nat.le_refl _)))
                   have HB6 := Lib.hid (HFin.out w5 A5 _ HB5.out hr5.1)
                   clear hg5 hr5 hlk))
            exact ⟨⟨j + 1, A5, c5, HJ.out, by go_num, rfl, by rw [HTk.out, HV.out]; simpa [vs] using HG5.out, HB6.out⟩, by show k - ((j : Int) + 1).toNat < k - (j : Int).toNat; have := HJ.out; omega⟩
        | false =>
          have HV := Lib.hid (show vd (E.map Ev.m) fI g (pt, -1) = (3, (pt : Int), -1) by rw [HV0.out]; simp)
          go_wp2_with (first
              | (go_at_call 23; refine (teller_any x _).mono ?_
                 rintro e w4 ⟨rfl, hb4⟩
                 have HB4 := Lib.hid hb4
                 have hlk := HLk.out w4 hb4
                 clear hb4)
              | (at_builtin; refine wpList_push _ rfl (.tmp 37) (.tmp 40) 41 rfl Try.underlying41 i46 rfl (by decide) (by decide) [.int .i64 3, .int .i64 (pt : Int), .int .i64 (-1)] rfl (((HGq.out.below HB4.out).below ((Below.refl w4.heap.size w4).alloc (Nat.le_refl _) _))) rfl rfl (heap_alloc_new _ _) (by intro u hu; simp at hu; rcases hu with rfl | rfl | rfl <;> rfl) (by omega) (Nat.le_trans HBq.out.size (Nat.le_trans HB4.out.size ((Below.refl w4.heap.size w4).alloc (Nat.le_refl _) _).size)) ?_
                 intro A5 c5 w5 hg5 hr5
                 have HG5 := Lib.hid hg5
                 have HB5 := Lib.hid ((bthen (bthen HBq.out HB4.out (Nat.le_refl _)) ((Below.refl w4.heap.size w4).alloc (Nat.le_refl _) (.cells #[.int .i64 3, .int .i64 (pt : Int), .int .i64 (-1)] 46)) (Nat.le_refl _)))
                 have HB6 := Lib.hid (HFin.out w5 A5 _ HB5.out hr5.1)
                 clear hg5 hr5 hlk))
          exact ⟨⟨j + 1, A5, c5, HJ.out, by go_num, rfl, by rw [HTk.out, HV.out]; simpa [vs] using HG5.out, HB6.out⟩, by show k - ((j : Int) + 1).toNat < k - (j : Int).toNat; have := HJ.out; omega⟩
      · have hs' : (ps == -1) = false := by simpa using hs
        have hs2 : (ps != -1) = true := by simpa using hs
        have HV := Lib.hid (show vd (E.map Ev.m) fI g (pt, ps) = (1, (pt : Int), ps) by rw [HV0.out]; simp [hs])
        go_wp2_with (first
            | (go_at_call 23; refine (teller_any x _).mono ?_
               rintro e w4 ⟨rfl, hb4⟩
               have HB4 := Lib.hid hb4
               have hlk := HLk.out w4 hb4
               clear hb4)
            | (at_builtin; refine wpList_push _ rfl (.tmp 45) (.tmp 49) 41 rfl Try.underlying41 i46 rfl (by decide) (by decide) [.int .i64 1, .int .i64 (pt : Int), .int .i64 ps] rfl (((HGq.out.below HB4.out).below ((Below.refl w4.heap.size w4).alloc (Nat.le_refl _) _))) rfl rfl (heap_alloc_new _ _) (by intro u hu; simp at hu; rcases hu with rfl | rfl | rfl <;> rfl) (by omega) (Nat.le_trans HBq.out.size (Nat.le_trans HB4.out.size ((Below.refl w4.heap.size w4).alloc (Nat.le_refl _) _).size)) ?_
               intro A5 c5 w5 hg5 hr5
               have HG5 := Lib.hid hg5
               have HB5 := Lib.hid ((bthen (bthen HBq.out HB4.out (Nat.le_refl _)) ((Below.refl w4.heap.size w4).alloc (Nat.le_refl _) (.cells #[.int .i64 1, .int .i64 (pt : Int), .int .i64 ps] 46)) (Nat.le_refl _)))
               have HB6 := Lib.hid (HFin.out w5 A5 _ HB5.out hr5.1)
               clear hg5 hr5 hlk))
        exact ⟨⟨j + 1, A5, c5, HJ.out, by go_num, rfl, by rw [HTk.out, HV.out]; simpa [vs] using HG5.out, HB6.out⟩, by show k - ((j : Int) + 1).toNat < k - (j : Int).toNat; have := HJ.out; omega⟩
    · have e1' : ((j : Int) < (k : Int)) = False := by simp only [eq_iff_iff, iff_false]; omega
      have hjn2 : out.length = j := by have := HMm.out; omega
      subst hjn2
      have HV := Lib.hid (show out.take out.length = out from List.take_of_length_le (Nat.le_refl _))
      rw [HV.out] at HG
      go_wp2_with fail
      go_ret
      exact ⟨A2, c2, rfl, HG.out.weak HB2.out.size, bthen HB2.out HBr.out (Nat.le_refl _)⟩
end Go.Proofs.Ytompggkdjbkjjaa
