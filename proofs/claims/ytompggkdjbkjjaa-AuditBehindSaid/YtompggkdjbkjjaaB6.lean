/- audit: the thefts of a log, one by one. -/
import Derived.Test.YtompggkdjbkjjaaB5
import Derived.Test.YtompggkdjbkjjaaB2
import Derived.Sort.CutIn
namespace Go.Proofs.Ytompggkdjbkjjaa
open Go.RowKit Go.Maps Go.MapKept Go.ChangeMaps Go.Shelf
set_option linter.unusedVariables false
set_option maxRecDepth 100000
/-- what the iterator leans on is as it was -/
structure Kq (W W' : World) (b : Nat) : Prop where
  size : W.heap.size ≤ W'.heap.size
  cell : ∀ p : Addr, p.block < W.heap.size → W'.cell? p = W.cell? p
  map : W'.heap[b]? = W.heap[b]?
theorem Kq.refl (W : World) (b : Nat) : Kq W W b := ⟨Nat.le_refl _, fun _ _ => rfl, rfl⟩
theorem Kq.below {W W' W'' : World} {b : Nat} (h : Kq W W' b) (hb : b < W.heap.size) (k : RowKit.Below W'.heap.size W' W'') : Kq W W'' b :=
  ⟨Nat.le_trans h.size k.size, fun p hp => (k.cell (Nat.lt_of_lt_of_le hp h.size)).trans (h.cell p hp), (k.block _ (Nat.lt_of_lt_of_le hb h.size)).trans h.map⟩
theorem Kq.kp {W W' W'' : World} {b b' : Nat} (h : Kq W W' b) (hb : b < W.heap.size) (hne : b ≠ b') (hm : ∃ es c, W.heap[b]? = some (.map es c)) (k : KpB b' W' W'') : Kq W W'' b :=
  ⟨Nat.le_trans h.size k.1, fun p hp => (k.2.1 p (Nat.lt_of_lt_of_le hp h.size)).trans (h.cell p hp), (k.2.2 b (Nat.lt_of_lt_of_le hb h.size) hne (by rw [h.map]; exact hm)).trans h.map⟩
theorem Mp.is_map {P : Program} {k : TypeId} {z : Value} {w : World} {b n : Nat} {f : Value → Value} {g : Value → Bool} (h : Mp P k z w b n f g) : ∃ es c, w.heap[b]? = some (.map es c) := by
  obtain ⟨D, ⟨es, c, h1, _⟩, _⟩ := h
  exact ⟨es, c, h1⟩
theorem grown_none {w w' : World} (h : RowKit.Below w.heap.size w w') : w.grownBy w' none := ⟨h.os, h.tape, h.output, h.size, fun k hk _ => h.block k hk⟩
set_option maxHeartbeats 4000000 in
theorem thefts_in (l Bf Bl b : Nat) {n c m d : Nat} {A Af : Option Addr} {E : List Ev} {L : List Fc} (hn : n ≤ 1000) (hm : m ≤ 1000) (hok : ∀ x ∈ E, x.ok) (hl : ∀ x ∈ E, x.n ≤ 1073741824) (hLa : ∀ x ∈ L, x.a < 4294967296)
    (T : List (Nat × Value)) (hT : T = tfu (L.map Fc.m) (E.map Ev.m) n) (J Jx : Nat → World → Prop)
    (hY : ∀ k t W, J k W → T[k]? = some t → YieldAt Fence.wide 7 Try.prog l #[.int .i64 (t.1 : Int), t.2] W fun e W' => (e = .returned (.bool true) ∧ J (k + 1) W' ∧ KpB b W W') ∨ (e = .returned (.bool false) ∧ Jx k W'))
    (hJ : ∀ k A B, J k A → A.grownBy B none → J k B)
    (w : World) (hb : b < w.heap.size) (hf : w.cell? ⟨Bf, 0, none⟩ = some (.slice Af m d)) (hc : w.cell? ⟨Bl, 0, none⟩ = some (.slice A n c)) (hE : Lg w w.heap.size A n E) (hL : Lf w w.heap.size Af m L) (h0 : J 0 w) :
    CallsIn Fence.wide 8 Try.prog 30 #[.func (.yield l) #[] #[], .pointer (some ⟨Bf, 0, none⟩), .pointer (some ⟨Bl, 0, none⟩)] w fun e W' => (∃ v, e = .returned v) ∧ (J T.length W' ∨ ∃ k, k < T.length ∧ Jx k W') := by
  have HY := Lib.hid hY
  have HJ := Lib.hid hJ
  have HT := Lib.hid hT
  have HE := Lib.hid hE
  have HL := Lib.hid hL
  have HOk := Lib.hid hok
  have HLn := Lib.hid hl
  have HN := Lib.hid hE.1
  have HF := Lib.hid (ffaces_any (c := d) hL hm hLa)
  have HBl := Lib.hid (World.block_lt_of_cell? w _ hc)
  have H0 := Lib.hid h0
  have HBb := Lib.hid hb
  clear hY hJ hT hE hL hok hl h0 hLa
  refine callsIn_of_wp Try.func30 rfl trivial ?_ rfl
  simp only [Try.ntmps30, List.size_toArray, List.length_cons, List.length_nil, Nat.reduceAdd, Nat.reduceSub, Array.replicate_succ, Array.replicate_zero, List.push_toArray, List.append_toArray, List.nil_append, List.cons_append]
  gi_wp2_with fail
  refine ⟨trivial, (callsIn_wide.2 HF.out).mono ?_⟩
  rintro e W ⟨rfl, hmp, hb1⟩
  have hc2 : W.cell? ⟨Bl, 0, none⟩ = some (.slice A n c) := (hb1.cell (p := ⟨Bl, 0, none⟩) HBl.out).trans hc
  have HMp := Lib.hid hmp
  have HB := Lib.hid hb1
  have HJ0 := Lib.hid (HJ.out 0 _ _ H0.out (grown_none hb1))
  have HNe := Lib.hid (show w.heap.size ≠ b by omega)
  clear hmp hb1 hf hc H0
  gi_wp2_with fail
  gi_loopw [11] (fun i wr => ∃ j k : Nat, j ≤ n ∧ i = .int .i64 ((j : Nat) : Int) ∧ k = (tfu (L.map Fc.m) (E.map Ev.m) j).length ∧ J k wr ∧ Kq W wr w.heap.size) (fun i _ => (n - (match i with | .int _ z => z.toNat | _ => 0)))
  case atStart => exact ⟨0, 0, by omega, rfl, rfl, HJ0.out, Kq.refl _ _⟩
  case round =>
    obtain ⟨j, k, hjn, rfl, hk, hJk, hq⟩ := hrel
    have HK := Lib.hid hk
    have HJk := Lib.hid hJk
    have HQ := Lib.hid hq
    clear hk hJk hq
    by_cases hj : j < n
    · have e1 : (j : Int) < (n : Int) := by omega
      obtain ⟨x, hx⟩ : ∃ x, E[j]? = some x := ⟨_, List.getElem?_eq_getElem (by have := HN.out; omega)⟩
      have hsz := HB.out.size
      have hlg : Lg wr w.heap.size A n E := HE.out.keep fun p hp => (HQ.out.cell p (Nat.lt_of_lt_of_le hp hsz)).trans (HB.out.cell hp)
      have hlf : Lf wr w.heap.size Af m L := HL.out.keep fun p hp => (HQ.out.cell p (Nat.lt_of_lt_of_le hp hsz)).trans (HB.out.cell hp)
      rcases hlg.2.2 with he3 | ⟨g, off, hA, hg, hcl⟩
      · omega
      obtain ⟨d0, d1, d2, d3, d4⟩ := hcl j x hx
      have hmem := List.mem_of_getElem? hx
      have hxb := hlg.2.1 x hmem
      obtain ⟨wa, hwa⟩ : ∃ wa, wa = wr.alloc (.cells #[.int .i64 x.k, .int .u32 (x.h : Int), .int .u32 (x.p : Int), .int .i64 x.at_, .slice x.A x.n x.c] 58) := ⟨_, rfl⟩
      have hbx : RowKit.Below wr.heap.size wr wa := by rw [hwa]; exact (Below.refl _ _).alloc (Nat.le_refl _) _
      have hEb : EBox wa wr.heap.size 58 x := by rw [hwa]; exact EBox.new wr 58 x
      have hqa := HQ.out.below HMp.out.lt hbx
      have hwsz : w.heap.size ≤ wr.heap.size := Nat.le_trans hsz HQ.out.size
      have HC := Lib.hid (asks_any (w := wa) x ((hxb.below (hbx.mono hwsz)).more (Nat.le_trans hwsz hbx.size)) (HOk.out x hmem) (HLn.out x hmem) (HMp.out.keep hqa.map) (fun y hy => ((hlf.2.1 y hy).below (hbx.mono hwsz)).more (Nat.le_trans hwsz hbx.size)))
      have HTj := Lib.hid (tfu_last (L.map Fc.m) (E := E.map Ev.m) (j := j) (x := x.m) (by rw [List.getElem?_map, hx]; rfl))
      have HTl := Lib.hid (tfu_le (L.map Fc.m) (E.map Ev.m) (show j + 1 ≤ n from hj))
      have HEb := Lib.hid hEb
      have HBx := Lib.hid hbx
      have HQa := Lib.hid hqa
      have HWa := Lib.hid hwa
      have HJ2 := Lib.hid hj
      have HJa := Lib.hid (HJ.out k _ _ HJk.out (grown_none hbx))
      have HTh := Lib.hid (show theftB (L.map Fc.m) x.m = (decide (x.k = 2) && asksB (L.map Fc.m) x.m) from rfl)
      have s0 : wrap64 ((j : Int) + 1) = ((j + 1 : Nat) : Int) := by unfold wrap64; omega
      obtain ⟨q0, q1, q2, q3, q4⟩ := hEb.cells
      rw [hA]
      clear hcl hx hlg hlf hg hmem hxb hwa hbx hEb hqa hj hsz hwsz
      generalize asksB (L.map Fc.m) x.m = r at *
      generalize theftB (L.map Fc.m) x.m = th at *
      by_cases h2 : x.k = 2
      · have k2 : (x.k != 2) = false := by simpa using h2
        have k3 : (x.k == 2) = true := by simpa using h2
        rw [decide_eq_true h2] at HTh
        clear h2
        cases r with
        | false =>
          have HKn := Lib.hid (show k = (tfu (L.map Fc.m) (E.map Ev.m) (j + 1)).length by rw [HTj.out, HTh.out, HK.out]; simp)
          gi_upto_region 4 with fail
          rw [← HWa.out]
          gi_wp2_with fail
          refine ⟨trivial, (callsIn_wide.2 HC.out).mono ?_⟩
          rintro e w5 ⟨rfl, hb5⟩
          have HB5 := Lib.hid hb5
          clear hb5
          gi_wp2_with fail
          go_roundw
          case rel => exact ⟨j + 1, k, HJ2.out, by go_num, HKn.out, HJ.out k _ _ HJa.out (grown_none HB5.out), HQa.out.below HMp.out.lt HB5.out⟩
          case measure => show n - ((j : Int) + 1).toNat < n - (j : Int).toNat; have := HJ2.out; omega
        | true =>
          have HKn := Lib.hid (show tfu (L.map Fc.m) (E.map Ev.m) (j + 1) = tfu (L.map Fc.m) (E.map Ev.m) j ++ [(j, ke x.h x.p)] by rw [HTj.out, HTh.out]; rfl)
          gi_upto_region 4 with fail
          rw [← HWa.out]
          gi_wp2_with fail
          refine ⟨trivial, (callsIn_wide.2 HC.out).mono ?_⟩
          rintro e w5 ⟨rfl, hb5⟩
          have HB5 := Lib.hid hb5
          have hlt := HEb.out.lt
          have r1 : w5.cell? ⟨wr.heap.size, 1, none⟩ = some (.int .u32 (x.h : Int)) := (hb5.cell (p := ⟨wr.heap.size, 1, none⟩) hlt).trans q1
          have r2 : w5.cell? ⟨wr.heap.size, 2, none⟩ = some (.int .u32 (x.p : Int)) := (hb5.cell (p := ⟨wr.heap.size, 2, none⟩) hlt).trans q2
          obtain ⟨l2, hl2, _⟩ := HTl.out
          have hTk : T[k]? = some (j, ke x.h x.p) := by rw [HT.out, hl2, HKn.out, HK.out]; simp
          have HTk := Lib.hid hTk
          have HY0 := Lib.hid (show YieldAt Fence.wide 7 Try.prog l #[.int .i64 (j : Int), .agg #[.int .u32 (x.h : Int), .int .u32 (x.p : Int)]] w5 _ from HY.out k _ w5 (HJ.out k _ _ HJa.out (grown_none hb5)) hTk)
          clear hb5 hlt hl2 hTk q0 q1 q2 q3 q4 d0 d1 d2 d3 d4
          obtain ⟨fn, tmps, assign, body, hy', hR⟩ := HY0.out
          gi_wp2
          refine hR.mono ?_
          rintro e w6 (⟨rfl, hJ6, hK6⟩ | ⟨rfl, hX⟩)
          · gi_wp2
            go_roundw
            case rel => exact ⟨j + 1, k + 1, HJ2.out, by go_num, by rw [HKn.out, List.length_append, ← HK.out]; rfl, hJ6, (HQa.out.below HMp.out.lt HB5.out).kp HMp.out.lt HNe.out HMp.out.is_map hK6⟩
            case measure => show n - ((j : Int) + 1).toNat < n - (j : Int).toNat; have := HJ2.out; omega
          · gi_wp2
            (try simp only [Exit.inBlock, Exit.then])
            refine bodyPost_ret (results_none rfl _ _ _) rfl ?_
            exact ⟨⟨_, rfl⟩, .inr ⟨k, (List.getElem?_eq_some_iff.1 HTk.out).1, hX⟩⟩
      · have k2 : (x.k != 2) = true := by simpa using h2
        have k3 : (x.k == 2) = false := by simpa using h2
        rw [decide_eq_false h2] at HTh
        have HKn := Lib.hid (show k = (tfu (L.map Fc.m) (E.map Ev.m) (j + 1)).length by rw [HTj.out, HTh.out, HK.out]; simp)
        clear h2
        gi_wp2_with fail
        refine ⟨trivial, ?_⟩
        gi_wp2_with fail
        go_roundw
        case rel => exact ⟨j + 1, k, HJ2.out, by go_num, HKn.out, by rw [← HWa.out]; exact HJa.out, by rw [← HWa.out]; exact HQa.out⟩
        case measure => show n - ((j : Int) + 1).toNat < n - (j : Int).toNat; have := HJ2.out; omega
    · have e1' : ((j : Int) < (n : Int)) = False := by simp only [eq_iff_iff, iff_false]; omega
      have hjn2 : j = n := by omega
      subst hjn2
      have HKn := Lib.hid (show k = T.length by rw [HT.out, HK.out])
      gi_wp2_with fail
      (try simp only [Exit.inBlock, Exit.then])
      refine bodyPost_end (v := .tuple #[]) (by simp [results, Try.results30, go_sem]) rfl ?_
      exact ⟨⟨_, rfl⟩, .inl (by rw [← HKn.out]; exact HJk.out)⟩
end Go.Proofs.Ytompggkdjbkjjaa
