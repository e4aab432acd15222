/- sha.changeBy: what one block makes of the words. -/
import Derived.Test.YtafpnpfiefbddaaDoorSched
namespace Go.Proofs.YtafpnpfiefbddaaDoor
set_option linter.unusedSimpArgs false
set_option linter.unusedVariables false
open Go.RowKit
set_option linter.unusedVariables false
attribute [local go_sem] bits_wx bits_wa bits_wo bits_wn bits_wn2 add_ad wrap_ad mul_up div_dn div_8 div_1024

/-- the constants lie in memory -/
structure Ks (w : World) : Prop where
  size : 0 < w.heap.size
  cell : ∀ t, t < 64 → w.cell? ⟨0, t, none⟩ = some (.int .u32 ((kk.getD t 0 : Nat) : Int))
theorem Ks.below {w w' : World} {B : Nat} (h : Ks w) (hb : Below B w w') (hB : 0 < B) : Ks w' :=
  ⟨Nat.lt_of_lt_of_le h.size hb.size, fun t ht => (hb.cell (p := ⟨0, t, none⟩) hB).trans (h.cell t ht)⟩
theorem Ks.bel {w w' : World} (h : Ks w) (hb : Below w.heap.size w w') : Ks w' := h.below hb h.size

structure St.Ok (s : St) : Prop where
  a : s.a < 4294967296
  b : s.b < 4294967296
  c : s.c < 4294967296
  d : s.d < 4294967296
  e : s.e < 4294967296
  f : s.f < 4294967296
  g : s.g < 4294967296
  h : s.h < 4294967296
theorem rnd_ok {s : St} (hs : s.Ok) (k w : Nat) : (rnd s k w).Ok := by
  unfold rnd
  exact ⟨ad_lt (t1 s k w) (t2 s), hs.a, hs.b, hs.c, ad_lt s.d (t1 s k w), hs.e, hs.f, hs.g⟩
theorem rnds_ok {s : St} (hs : s.Ok) (ks ws : List Nat) (t : Nat) : (rnds ks ws s t).Ok := by
  induction t with
  | zero =>
    have e := rnds_zero ks ws s
    rw [e]; exact hs
  | succ t ih => rw [rnds_succ]; exact rnd_ok ih _ _
theorem plus_ok (x y : St) : (plus x y).Ok := by
  unfold plus
  exact ⟨ad_lt x.a y.a, ad_lt x.b y.b, ad_lt x.c y.c, ad_lt x.d y.d, ad_lt x.e y.e, ad_lt x.f y.f, ad_lt x.g y.g, ad_lt x.h y.h⟩
theorem chg_ok (s : St) (p : List Nat) : (chg s p).Ok := by rw [chg_is]; exact plus_ok _ _
theorem chgN_ok {s : St} (hs : s.Ok) (p : List Nat) (n : Nat) : (chgN s p n).Ok := by
  cases n with
  | zero => rw [chgN_zero]; exact hs
  | succ n => rw [chgN_succ]; exact chg_ok _ _

/-- a new block of words -/
def Ob (t : TypeId) (xs : List Nat) : Obj := .cells (wv xs).toArray t (0, 0)
/-- the words as a value -/
def sv (s : St) : Value := .agg #[.int .u32 (s.a : Int), .int .u32 (s.b : Int), .int .u32 (s.c : Int), .int .u32 (s.d : Int), .int .u32 (s.e : Int), .int .u32 (s.f : Int), .int .u32 (s.g : Int), .int .u32 (s.h : Int)]

theorem kk_lt (t : Nat) : kk.getD t 0 < 4294967296 := by
  have h : kk.all (fun x => decide (x < 4294967296)) = true := by decide +kernel
  exact Lim.get (n := 4294967296) (fun x hx => of_decide_eq_true (List.all_eq_true.1 h x hx)) (by omega) t
theorem sched_lim {p : List Nat} (h : Lim 256 p) : Lim 4294967296 (sched p) := by rw [sched]; exact lim_sched2 (lim_sched1 h 16) 48

set_option maxRecDepth 100000
set_option maxHeartbeats 2000000 in
theorem changeBy_any {w : World} {c : Nat} {A : Option Addr} {xs : List Nat} (hk : Ks w) (h : Nb w w.heap.size A 64 c xs) (s : St) (hs : s.Ok) :
    Calls Tryd.prog 57 #[sv s, .slice A 64 c] w fun e w' => e = .returned (sv (chg s xs)) ∧ Below w.heap.size w w' := by
  obtain ⟨R, hR⟩ : ∃ R, chg s xs = R := ⟨_, rfl⟩
  rw [hR]
  have hL := sched_lim h.lim
  have hl := length_sched xs
  have hr := h.room
  have hc := h.cap
  have hsz := hk.size
  obtain ⟨W, hW⟩ : ∃ W, sched xs = W := ⟨_, rfl⟩
  rw [chg_is, hW] at hR
  rw [hW] at hL hl
  have HR := Lib.hid hR
  have Hl := Lib.hid hl
  clear hR hl
  unfold sv
  obtain ⟨a, b, cc, d, ee, f, g, hh⟩ := s
  obtain ⟨h0, h1, h2, h3, h4, h5, h6, h7⟩ := hs
  dsimp only at h0 h1 h2 h3 h4 h5 h6 h7 ⊢
  go_enter Tryd.func57, Tryd.ntmps57
  go_wp2_with fail
  have hb1 : Below w.heap.size w ((w.alloc (Ob 84 [a, b, cc, d, ee, f, g, hh])).alloc (Ob 84 (List.replicate 8 0))) := ((Below.refl _ _).alloc (Nat.le_refl _) _).alloc (by simp) _
  have hx1 : Wb ((w.alloc (Ob 84 [a, b, cc, d, ee, f, g, hh])).alloc (Ob 84 (List.replicate 8 0))) w.heap.size 84 [a, b, cc, d, ee, f, g, hh] := Wb.alloc (heap_alloc_new w _) _
  have hy1 : Wb ((w.alloc (Ob 84 [a, b, cc, d, ee, f, g, hh])).alloc (Ob 84 (List.replicate 8 0))) (w.heap.size + 1) 84 (List.replicate 8 0) := by
    have := heap_alloc_new (w.alloc (Ob 84 [a, b, cc, d, ee, f, g, hh])) (Ob 84 (List.replicate 8 0))
    rwa [World.size_alloc] at this
  have hz1 : ((w.alloc (Ob 84 [a, b, cc, d, ee, f, g, hh])).alloc (Ob 84 (List.replicate 8 0))).heap.size = w.heap.size + 2 := by simp
  change Calls _ _ _ ((w.alloc (Ob 84 [a, b, cc, d, ee, f, g, hh])).alloc (Ob 84 (List.replicate 8 0))) _
  generalize (w.alloc (Ob 84 [a, b, cc, d, ee, f, g, hh])).alloc (Ob 84 (List.replicate 8 0)) = w1 at *
  refine (schedule_any ((h.below hb1).more hb1.size)).mono ?_
  rintro e w2 ⟨rfl, hB⟩
  rw [hW]
  have hx2 := hx1.below hB hx1.lt
  have hy2 := hy1.below hB hy1.lt
  have hb2 : Below w.heap.size w w2 := hb1.trans (hB.mono hb1.size)
  have hs2 := hB.size
  have Hz1 := Lib.hid hz1
  have hz2 : w.heap.size + 2 ≤ w2.heap.size := by omega
  clear hz1 hx1 hy1 hb1 hB h
  have HL : Hid ((wv W).length = 64) := by rw [length_wv]; exact Hl.out
  have hw3 : Wb (w2.alloc Zeros) w2.heap.size 120 (List.replicate 64 0) := alloc_wb w2
  have hx3 := hx2.alloc Zeros
  have hy3 := hy2.alloc Zeros
  have hb3 := hb2.alloc hb2.size Zeros
  go_wp2_with (change wpList _ _ _ _ _ (w2.alloc Zeros); refine wpList_store_row rfl rfl 120 (.tmp 5) (.tmp 20) rfl w2.heap.size rfl (wv W) rfl 120 _ hw3 (wv_one W) (by rw [HL.out]; simp [wv]) (by rw [HL.out]; kernel_rfl) ?_)
  have hw4 : Wb ((w2.alloc Zeros).setRow w2.heap.size (wv W).toArray) w2.heap.size 120 W := setRow_heap _ _ _ _ _ _ hw3
  have hx4 : Wb ((w2.alloc Zeros).setRow w2.heap.size (wv W).toArray) w.heap.size 84 [a, b, cc, d, ee, f, g, hh] := (setRow_other _ _ _ _ (by omega)).trans hx3
  have hy4 : Wb ((w2.alloc Zeros).setRow w2.heap.size (wv W).toArray) (w.heap.size + 1) 84 (List.replicate 8 0) := (setRow_other _ _ _ _ (by omega)).trans hy3
  have hb4 : Below w.heap.size w ((w2.alloc Zeros).setRow w2.heap.size (wv W).toArray) := below_setRow hb3 hb2.size _
  generalize (w2.alloc Zeros).setRow w2.heap.size (wv W).toArray = w4 at *
  generalize w2.heap.size = gw at *
  clear hw3 hx3 hy3 hb3 hx2 hy2 hb2
  have c0 : w4.cell? ⟨w.heap.size, 0, none⟩ = some (.int .u32 (a : Int)) := hx4.cell (j := 0) (by simp)
  have c1 : w4.cell? ⟨w.heap.size, 1, none⟩ = some (.int .u32 (b : Int)) := hx4.cell (j := 1) (by simp)
  have c2 : w4.cell? ⟨w.heap.size, 2, none⟩ = some (.int .u32 (cc : Int)) := hx4.cell (j := 2) (by simp)
  have c3 : w4.cell? ⟨w.heap.size, 3, none⟩ = some (.int .u32 (d : Int)) := hx4.cell (j := 3) (by simp)
  have c4 : w4.cell? ⟨w.heap.size, 4, none⟩ = some (.int .u32 (ee : Int)) := hx4.cell (j := 4) (by simp)
  have c5 : w4.cell? ⟨w.heap.size, 5, none⟩ = some (.int .u32 (f : Int)) := hx4.cell (j := 5) (by simp)
  have c6 : w4.cell? ⟨w.heap.size, 6, none⟩ = some (.int .u32 (g : Int)) := hx4.cell (j := 6) (by simp)
  have c7 : w4.cell? ⟨w.heap.size, 7, none⟩ = some (.int .u32 (hh : Int)) := hx4.cell (j := 7) (by simp)
  go_quiet (fail)
  have hw5 := hw4.drewN nq
  have hx5 := hx4.drewN nq
  have hy5 := hy4.drewN nq
  have hb5 := below_drewN hb4 nq
  clear c0 c1 c2 c3 c4 c5 c6 c7 hw4 hx4 hy4 hb4
  generalize w4.drewN nq = w5 at *
  have c0 : w5.cell? ⟨w.heap.size, 0, none⟩ = some (.int .u32 (a : Int)) := hx5.cell (j := 0) (by simp)
  have c1 : w5.cell? ⟨w.heap.size, 1, none⟩ = some (.int .u32 (b : Int)) := hx5.cell (j := 1) (by simp)
  have c2 : w5.cell? ⟨w.heap.size, 2, none⟩ = some (.int .u32 (cc : Int)) := hx5.cell (j := 2) (by simp)
  have c3 : w5.cell? ⟨w.heap.size, 3, none⟩ = some (.int .u32 (d : Int)) := hx5.cell (j := 3) (by simp)
  have c4 : w5.cell? ⟨w.heap.size, 4, none⟩ = some (.int .u32 (ee : Int)) := hx5.cell (j := 4) (by simp)
  have c5 : w5.cell? ⟨w.heap.size, 5, none⟩ = some (.int .u32 (f : Int)) := hx5.cell (j := 5) (by simp)
  have c6 : w5.cell? ⟨w.heap.size, 6, none⟩ = some (.int .u32 (g : Int)) := hx5.cell (j := 6) (by simp)
  have c7 : w5.cell? ⟨w.heap.size, 7, none⟩ = some (.int .u32 (hh : Int)) := hx5.cell (j := 7) (by simp)
  go_wp2
  go_quiet (fail)
  have hw6 := hw5.drewN nq
  have hx6 := hx5.drewN nq
  have hy6 := hy5.drewN nq
  have hb6 := below_drewN hb5 nq
  clear c0 c1 c2 c3 c4 c5 c6 c7 hw5 hx5 hy5 hb5
  generalize w5.drewN nq = w6 at *
  go_wp2
  obtain ⟨s0, hs0⟩ : ∃ s0 : St, s0 = ⟨a, b, cc, d, ee, f, g, hh⟩ := ⟨_, rfl⟩
  rw [← hs0] at HR
  have Hs0 := Lib.hid hs0
  have ok0 : s0.Ok := by rw [hs0]; exact ⟨h0, h1, h2, h3, h4, h5, h6, h7⟩
  clear hs0
  have hst : Hid (rnds kk W s0 0 = s0) := rnds_zero _ _ _
  go_loopw [6, 7, 8, 9, 10, 11, 12, 13, 37] (fun v6 v7 v8 v9 v10 v11 v12 v13 i wr => ∃ (k : Nat) (s : St), k ≤ 64 ∧ i = .int .i64 k ∧ v6 = .int .u32 (s.a : Int) ∧ v7 = .int .u32 (s.b : Int) ∧ v8 = .int .u32 (s.c : Int) ∧ v9 = .int .u32 (s.d : Int) ∧
      v10 = .int .u32 (s.e : Int) ∧ v11 = .int .u32 (s.f : Int) ∧ v12 = .int .u32 (s.g : Int) ∧ v13 = .int .u32 (s.h : Int) ∧ Hid (rnds kk W s0 k = s) ∧ s.Ok ∧ Wb wr gw 120 W ∧ Wb wr w.heap.size 84 [a, b, cc, d, ee, f, g, hh] ∧ Wb wr (w.heap.size + 1) 84 (List.replicate 8 0) ∧ Below w.heap.size w wr)
    (fun _ _ _ _ _ _ _ _ i _ => 64 - (intOf i).toNat)
  case atStart => exact ⟨0, ⟨a, b, cc, d, ee, f, g, hh⟩, by omega, rfl, rfl, rfl, rfl, rfl, rfl, rfl, rfl, rfl, by rw [← Hs0.out]; exact hst, ⟨h0, h1, h2, h3, h4, h5, h6, h7⟩, hw6, hx6, hy6, hb6⟩
  case round =>
    clear hw6 hx6 hy6 hb6 hst
    obtain ⟨k, ⟨sa, sb, sc, sd, se, sf, sg, sh⟩, hk64, rfl, rfl, rfl, rfl, rfl, rfl, rfl, rfl, rfl, Hs, ⟨k0, k1, k2, k3, k4, k5, k6, k7⟩, hw7, hx7, hy7, hb7⟩ := hrel
    dsimp only at k0 k1 k2 k3 k4 k5 k6 k7
    by_cases hlt : k < 64
    · have ck := (hk.below hb7 hsz).cell k hlt
      have cw := hw7.cell (j := k) (by rw [Hl.out]; exact hlt)
      have Hn : Hid (rnds kk W s0 (k + 1) = rnd ⟨sa, sb, sc, sd, se, sf, sg, sh⟩ (kk.getD k 0) (W.getD k 0)) := by show _ = _; rw [rnds_succ, Hs.out]
      have lk := kk_lt k
      have lw := hL.get (by omega) k
      generalize kk.getD k 0 = kv at *
      generalize W.getD k 0 = wk at *
      clear Hs
      go_wp2_with (go_at_call 67; refine (turned_any _ (by omega) _ (by omega) (by omega) _).mono ?_; rintro e w' ⟨rfl, rfl⟩)
      go_quiet (fail)
      have hw8 := hw7.drewN nq
      have hx8 := hx7.drewN nq
      have hy8 := hy7.drewN nq
      have hb8 := below_drewN hb7 nq
      clear ck cw hw7 hx7 hy7 hb7
      generalize wr.drewN nq = w8 at *
      go_wp2_with (go_at_call 67; refine (turned_any _ (by omega) _ (by omega) (by omega) _).mono ?_; rintro e w' ⟨rfl, rfl⟩)
      go_roundw
      case rel => exact ⟨k + 1, rnd ⟨sa, sb, sc, sd, se, sf, sg, sh⟩ kv wk, by omega, by go_num, rfl, rfl, rfl, rfl, rfl, rfl, rfl, rfl, Hn, rnd_ok ⟨k0, k1, k2, k3, k4, k5, k6, k7⟩ _ _, hw8, hx8, hy8, hb8⟩
      case measure => simp [intOf]; omega
    · have Hf : Hid (plus ⟨a, b, cc, d, ee, f, g, hh⟩ ⟨sa, sb, sc, sd, se, sf, sg, sh⟩ = R) := by
        have h64 : k = 64 := by omega
        have e := Hs.out
        rw [h64] at e
        show _ = _
        rw [← HR.out, e, Hs0.out]
      have hge : 64 ≤ k := by omega
      clear hlt Hs HR Hs0 ok0
      have c0 : wr.cell? ⟨w.heap.size, 0, none⟩ = some (.int .u32 (a : Int)) := hx7.cell (j := 0) (by simp)
      have c1 : wr.cell? ⟨w.heap.size, 1, none⟩ = some (.int .u32 (b : Int)) := hx7.cell (j := 1) (by simp)
      have c2 : wr.cell? ⟨w.heap.size, 2, none⟩ = some (.int .u32 (cc : Int)) := hx7.cell (j := 2) (by simp)
      have c3 : wr.cell? ⟨w.heap.size, 3, none⟩ = some (.int .u32 (d : Int)) := hx7.cell (j := 3) (by simp)
      have c4 : wr.cell? ⟨w.heap.size, 4, none⟩ = some (.int .u32 (ee : Int)) := hx7.cell (j := 4) (by simp)
      have c5 : wr.cell? ⟨w.heap.size, 5, none⟩ = some (.int .u32 (f : Int)) := hx7.cell (j := 5) (by simp)
      have c6 : wr.cell? ⟨w.heap.size, 6, none⟩ = some (.int .u32 (g : Int)) := hx7.cell (j := 6) (by simp)
      have c7 : wr.cell? ⟨w.heap.size, 7, none⟩ = some (.int .u32 (hh : Int)) := hx7.cell (j := 7) (by simp)
      go_wp2_with (refine wpList_store_row rfl rfl 84 (.tmp 4) (.tmp 134) rfl (w.heap.size + 1) rfl (wv (words (plus ⟨a, b, cc, d, ee, f, g, hh⟩ ⟨sa, sb, sc, sd, se, sf, sg, sh⟩))) rfl 84 _ hy7 (wv_one _) (by simp [wv, words]) (by kernel_rfl) ?_)
      have hr1 := setRow_heap wr (w.heap.size + 1) (wv (List.replicate 8 0)).toArray (wv (words (plus ⟨a, b, cc, d, ee, f, g, hh⟩ ⟨sa, sb, sc, sd, se, sf, sg, sh⟩))).toArray 84 (0, 0) hy7
      refine bodyPost_ret (v := .agg (wv (words (plus ⟨a, b, cc, d, ee, f, g, hh⟩ ⟨sa, sb, sc, sd, se, sf, sg, sh⟩))).toArray) (results_cell_row rfl _ _ (w.heap.size + 1) 84 _ (0, 0) _ rfl hr1 Tryd.underlying84 rfl (by kernel_rfl)) rfl ⟨?_, ?_⟩
      · rw [← Hf.out]; rfl
      · exact below_setRow hb7 (Nat.le_succ _) _
end Go.Proofs.YtafpnpfiefbddaaDoor
