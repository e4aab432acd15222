/- audit: the example. -/
import Derived.Test.YtompggkdjbkjjaaA14
import Derived.Lib.SlBytesConst
namespace Go.Proofs.Ytompggkdjbkjjaa
open Go.RowKit Go.Maps Go.MapKept Go.ChangeMaps
set_option linter.unusedVariables false
set_option maxRecDepth 100000
set_option maxHeartbeats 2000000 in
theorem theft_arg {w : World} {n c : Nat} {A : Option Addr} {E : List Ev} {x : Ev} (h : Lg w w.heap.size A n E) (hx : E[0]? = some x) (hk : x.k = 1) :
    Calls Try.prog 14 #[.slice A n c, .int .i64 0, .slice none 0 0] w fun e w' => e = .returned (.tuple #[.int .i64 0, .int .i64 1]) ∧ RowKit.Below w.heap.size w w' := by
  have hn : 0 < n := by have := (List.getElem?_eq_some_iff.1 hx).1; have := h.1; omega
  rcases h.2.2 with he3 | ⟨g, off, hA, hg, hcl⟩
  · omega
  obtain ⟨d0, d1, d2, d3, d4⟩ := hcl 0 x hx
  subst hA
  rw [hk] at d0
  obtain ⟨W, hW⟩ : ∃ W, W = (((w.alloc (.cells #[.slice (some ⟨g, off, none⟩) n c] 28)).alloc (.cells #[.int .i64 0] 3)).alloc (.cells #[.int .i64 0] 3)).alloc (.cells #[.int .i64 0] 34) := ⟨_, rfl⟩
  have hb : RowKit.Below w.heap.size w W := by rw [hW]; exact ((((Below.refl _ _).alloc (Nat.le_refl _) _).alloc (by simp) _).alloc (by simp; omega) _).alloc (by simp; omega) _
  have e1 : (0 : Int) < (n : Int) := by omega
  have hd : W.cell? ⟨g, off, none⟩ = some (.int .i64 1) := (hb.cell (p := ⟨g, off, none⟩) hg).trans (by simpa using d0)
  rw [hW] at hd hb
  have HB := Lib.hid hb
  clear d0 d1 d2 d3 d4 hcl h hx hk hW hb
  go_enter Try.func14, Try.ntmps14
  go_wp2_with fail
  refine bodyPost_ret (v := .tuple #[.int .i64 0, .int .i64 1]) (by simp [results, Try.results14, go_sem]) rfl ⟨rfl, ?_⟩
  exact ((((Below.refl _ _).alloc (Nat.le_refl _) _).alloc (by simp) _).alloc (by simp; omega) _).alloc (by simp; omega) _
def e0 (w : World) : Ev := ⟨1, 2, 1, 0, some ⟨w.heap.size, 0, none⟩, 1, 1, [120]⟩
def e1 (w : World) : Ev := ⟨3, 1, 2, 0, some ⟨w.heap.size + 1, 0, none⟩, 1, 1, [120]⟩
def e2 (w : World) : Ev := ⟨3, 1, 2, 0, some ⟨w.heap.size + 2, 0, none⟩, 1, 1, [120]⟩
theorem run3 (w : World) : (mrun ([e0 w, e1 w, e2 w].map Ev.m)).out = [(1, 0), (2, -1)] := by
  simp [mrun, mstep, Ev.m, e0, e1, e2, upd_same, headI]
theorem run2 (w : World) : (mrun ([e0 w, e1 w].map Ev.m)).out = [(1, 0)] := by
  simp [mrun, mstep, Ev.m, e0, e1, upd_same, headI]
theorem vd3 (w : World) (fI : Value → Int) : ([(1, 0), (2, -1)] : List (Nat × Int)).map (vd ([e0 w, e1 w, e2 w].map Ev.m) fI (fun _ => false)) = [(1, 1, 0), (3, 2, -1)] := by
  simp [vd, Ev.m, e0, e1, e2]
theorem lg3 {w W : World} (h : W = (((w.alloc (.cells #[.int .u8 120] 5 (1, 2))).alloc (.cells #[.int .u8 120] 5 (1, 2))).alloc (.cells #[.int .u8 120] 5 (1, 2))).alloc (.cells #[.int .i64 1, .int .u32 2, .int .u32 1, .int .i64 0, .slice (some ⟨w.heap.size, 0, none⟩) 1 1, .int .i64 3, .int .u32 1, .int .u32 2, .int .i64 0, .slice (some ⟨w.heap.size + 1, 0, none⟩) 1 1, .int .i64 3, .int .u32 1, .int .u32 2, .int .i64 0, .slice (some ⟨w.heap.size + 1 + 1, 0, none⟩) 1 1] 58)) :
    Lg W W.heap.size (some ⟨w.heap.size + 1 + 1 + 1, 0, none⟩) 3 [e0 w, e1 w, e2 w] := by
  obtain ⟨w1, hw1⟩ : ∃ w1, w1 = w.alloc (.cells #[.int .u8 120] 5 (1, 2)) := ⟨_, rfl⟩
  obtain ⟨w2, hw2⟩ : ∃ w2, w2 = w1.alloc (.cells #[.int .u8 120] 5 (1, 2)) := ⟨_, rfl⟩
  obtain ⟨w3, hw3⟩ : ∃ w3, w3 = w2.alloc (.cells #[.int .u8 120] 5 (1, 2)) := ⟨_, rfl⟩
  rw [← hw1, ← hw2, ← hw3] at h
  have z1 : w1.heap.size = w.heap.size + 1 := by rw [hw1]; simp
  have z2 : w2.heap.size = w.heap.size + 1 + 1 := by rw [hw2, World.size_alloc, z1]
  have z3 : w3.heap.size = w.heap.size + 1 + 1 + 1 := by rw [hw3, World.size_alloc, z2]
  have hz : W.heap.size = w.heap.size + 1 + 1 + 1 + 1 := by rw [h, World.size_alloc, z3]
  have g1 : w1.heap[w.heap.size]? = some (.cells #[.int .u8 120] 5 (1, 2)) := by rw [hw1]; exact heap_alloc_new w _
  have g2 : w2.heap[w.heap.size + 1]? = some (.cells #[.int .u8 120] 5 (1, 2)) := by rw [← z1, hw2]; exact heap_alloc_new w1 _
  have g3 : w3.heap[w.heap.size + 1 + 1]? = some (.cells #[.int .u8 120] 5 (1, 2)) := by rw [← z2, hw3]; exact heap_alloc_new w2 _
  have h3 : W.heap[w.heap.size + 1 + 1 + 1]? = some (.cells #[.int .i64 1, .int .u32 2, .int .u32 1, .int .i64 0, .slice (some ⟨w.heap.size, 0, none⟩) 1 1, .int .i64 3, .int .u32 1, .int .u32 2, .int .i64 0, .slice (some ⟨w.heap.size + 1, 0, none⟩) 1 1, .int .i64 3, .int .u32 1, .int .u32 2, .int .i64 0, .slice (some ⟨w.heap.size + 1 + 1, 0, none⟩) 1 1] 58 (0, 0)) := by rw [← z3, h]; exact heap_alloc_new w3 _
  have b2 : RowKit.Below w1.heap.size w1 w2 := by rw [hw2]; exact (Below.refl _ _).alloc (Nat.le_refl _) _
  have b3 : RowKit.Below w2.heap.size w2 w3 := by rw [hw3]; exact (Below.refl _ _).alloc (Nat.le_refl _) _
  have b4 : RowKit.Below w3.heap.size w3 W := by rw [h]; exact (Below.refl _ _).alloc (Nat.le_refl _) _
  have h0 := (b4.block _ (by omega)).trans ((b3.block _ (by omega)).trans ((b2.block _ (by omega)).trans g1))
  have h1 := (b4.block _ (by omega)).trans ((b3.block _ (by omega)).trans g2)
  have h2 := (b4.block _ (by omega)).trans g3
  clear h hw1 hw2 hw3 b2 b3 b4 g1 g2 g3
  have key : ∀ b, b < W.heap.size → W.heap[b]? = some (.cells #[.int .u8 120] 5 (1, 2)) → Nb W W.heap.size (some ⟨b, 0, none⟩) 1 1 [120] := fun b hb hh =>
    ⟨rfl, Nat.le_refl _, by omega, fun x hx => by simp at hx; omega, fun _ => ⟨b, 0, rfl, hb, fun j x hj => by
      match j, hj with
      | 0, hj => cases hj; simp [World.cell?, hh]⟩⟩
  refine ⟨rfl, fun x hx => ?_, .inr ⟨_, 0, rfl, by omega, fun i x hi => ?_⟩⟩
  · simp at hx
    rcases hx with rfl | rfl | rfl
    · exact key _ (by omega) h0
    · exact key _ (by omega) h1
    · exact key _ (by omega) h2
  · match i, hi with
    | 0, hi => cases hi; simp [World.cell?, h3, e0]
    | 1, hi => cases hi; simp [World.cell?, h3, e1]
    | 2, hi => cases hi; simp [World.cell?, h3, e2]
theorem below3 {w W : World} (h : W = (((w.alloc (.cells #[.int .u8 120] 5 (1, 2))).alloc (.cells #[.int .u8 120] 5 (1, 2))).alloc (.cells #[.int .u8 120] 5 (1, 2))).alloc (.cells #[.int .i64 1, .int .u32 2, .int .u32 1, .int .i64 0, .slice (some ⟨w.heap.size, 0, none⟩) 1 1, .int .i64 3, .int .u32 1, .int .u32 2, .int .i64 0, .slice (some ⟨w.heap.size + 1, 0, none⟩) 1 1, .int .i64 3, .int .u32 1, .int .u32 2, .int .i64 0, .slice (some ⟨w.heap.size + 1 + 1, 0, none⟩) 1 1] 58)) : RowKit.Below w.heap.size w W := by
  rw [h]
  exact ((((Below.refl _ _).alloc (Nat.le_refl _) _).alloc (by simp) _).alloc (by simp; omega) _).alloc (by simp; omega) _
set_option maxHeartbeats 4000000 in
theorem alive_any (w : World) : Calls Try.prog 10 #[] w fun e w' => e = .returned (.bool true) ∧ RowKit.Below w.heap.size w w' := by
  have hcv := fun (w : World) => Lib.run_convert_bytes_const (P := Try.prog) w 52 5 #[.int .u8 120] 1 1 Try.underlying52 Try.underlying5
  have c1 := hcv w
  have c2 := hcv (w.alloc (.cells #[.int .u8 120] 5 (1, 2)))
  have c3 := hcv ((w.alloc (.cells #[.int .u8 120] 5 (1, 2))).alloc (.cells #[.int .u8 120] 5 (1, 2)))
  simp only [World.size_alloc, List.size_toArray, List.length_cons, List.length_nil, Nat.reduceAdd, Nat.zero_add] at c1 c2 c3
  clear hcv
  obtain ⟨W, hW⟩ : ∃ W, W = (((w.alloc (.cells #[.int .u8 120] 5 (1, 2))).alloc (.cells #[.int .u8 120] 5 (1, 2))).alloc (.cells #[.int .u8 120] 5 (1, 2))).alloc (.cells #[.int .i64 1, .int .u32 2, .int .u32 1, .int .i64 0, .slice (some ⟨w.heap.size, 0, none⟩) 1 1, .int .i64 3, .int .u32 1, .int .u32 2, .int .i64 0, .slice (some ⟨w.heap.size + 1, 0, none⟩) 1 1, .int .i64 3, .int .u32 1, .int .u32 2, .int .i64 0, .slice (some ⟨w.heap.size + 1 + 1, 0, none⟩) 1 1] 58) := ⟨_, rfl⟩
  have HW := Lib.hid hW
  clear hW
  have hLg := lg3 HW.out
  have hb0 := below3 HW.out
  have HL := Lib.hid hLg
  have HB0 := Lib.hid hb0
  have hlen : ∀ x ∈ [e0 w, e1 w, e2 w], x.n ≤ 1073741824 := by intro x hx; simp at hx; rcases hx with rfl | rfl | rfl <;> simp [e0, e1, e2]
  have hok : ∀ x ∈ [e0 w, e1 w, e2 w], x.ok := by intro x hx; simp at hx; rcases hx with rfl | rfl | rfl <;> (unfold Ev.ok; simp [e0, e1, e2])
  have hk2 : ∀ x ∈ [e0 w, e1 w, e2 w], x.k ≠ 2 := by intro x hx; simp at hx; rcases hx with rfl | rfl | rfl <;> simp [e0, e1, e2]
  have HJ := Lib.hid (judge_any (c := 3) (Af := none) (m := 0) (d := 0) (fI := fun _ => 0) hLg (by omega) hlen hok (fun _ => rfl) (first_none hLg (by omega) hk2))
  rw [run3, vd3] at HJ
  have HT := Lib.hid (fun (W' : World) (hb : RowKit.Below W.heap.size W W') => theft_arg (c := 3) ((hLg.below hb (Nat.le_refl _)).more hb.size) (E := [e0 w, e1 w, e2 w]) rfl rfl)
  have HP3 := Lib.hid (fun (W' : World) (hb : RowKit.Below W.heap.size W W') => (show Calls Try.prog 19 #[.slice (some ⟨w.heap.size + 1 + 1 + 1, 0, none⟩) 3 3] W' fun e w' => e = .returned (.bool false) ∧ RowKit.Below W'.heap.size W' w' from
    (by have h := proper_any (c := 3) (hLg.below hb (Nat.le_refl _)) hb.size (by omega) hlen hok
        rw [run3] at h; exact h)))
  have HP2 := Lib.hid (fun (W' : World) (hb : RowKit.Below W.heap.size W W') => (show Calls Try.prog 19 #[.slice (some ⟨w.heap.size + 1 + 1 + 1, 0, none⟩) 2 3] W' fun e w' => e = .returned (.bool true) ∧ RowKit.Below W'.heap.size W' w' from
    (by have h := proper_any (c := 3) ((hLg.take 2 (by omega)).below hb (Nat.le_refl _)) hb.size (by omega) (fun x hx => hlen x (List.mem_of_mem_take hx)) (fun x hx => hok x (List.mem_of_mem_take hx))
        rw [show [e0 w, e1 w, e2 w].take 2 = [e0 w, e1 w] from rfl, run2] at h; exact h)))
  clear hLg hb0 hlen hok hk2
  go_enter Try.func10, Try.ntmps10
  go_upto_region 2 with fail
  rw [← HW.out]
  clear c1 c2 c3
  go_upto_region 4 with (first
    | (go_at_call 17; refine HJ.out.mono ?_
       rintro e w2 ⟨A2, c2, rfl, hg2, hb2⟩
       have HG2 := Lib.hid hg2
       have HB2 := Lib.hid hb2
       clear hg2 hb2)
    | (go_at_call 14; refine (HT.out _ HB2.out).mono ?_
       rintro e w3 ⟨rfl, hb3⟩
       have HG3 := Lib.hid (HG2.out.below hb3)
       have HB3 := Lib.hid (bthen HB2.out hb3 (Nat.le_refl _))
       clear hb3))
  obtain ⟨g, hA, _, _, hc⟩ := HG3.out.cell (by simp) (by omega)
  subst hA
  have k0 := hc 0 _ rfl
  have k1 := hc 1 _ rfl
  have k2 := hc 2 _ rfl
  have k3 := hc 3 _ rfl
  have k4 := hc 4 _ rfl
  have k5 := hc 5 _ rfl
  clear hc
  go_wp2_with (first
    | (go_at_call 19; (with_reducible refine (HP3.out _ HB3.out).mono ?_)
       rintro e w4 ⟨rfl, hb4⟩
       have HB4 := Lib.hid (bthen HB3.out hb4 (Nat.le_refl _))
       clear hb4)
    | (go_at_call 19; (with_reducible refine (HP2.out _ HB4.out).mono ?_)
       rintro e w5 ⟨rfl, hb5⟩
       have HB5 := Lib.hid (bthen HB4.out hb5 (Nat.le_refl _))
       clear hb5))
  go_ret
  exact ⟨rfl, bthen HB0.out HB5.out (Nat.le_refl _)⟩
end Go.Proofs.Ytompggkdjbkjjaa
