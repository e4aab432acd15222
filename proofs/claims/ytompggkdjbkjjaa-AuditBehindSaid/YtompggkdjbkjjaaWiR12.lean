/- wire.Read: what is read of bytes, and the fault. -/
import Derived.Test.YtompggkdjbkjjaaWiR11
namespace Go.Proofs.Ytompggkdjbkjjaa.Wi
open Go.RowKit Go.Shelf
set_option linter.unusedVariables false
set_option linter.unusedSimpArgs false
set_option maxRecDepth 100000
attribute [local go_sem] Oper.semAt_some
theorem wp_gen4 {P : Program} {c : Code} {Q : Exit → Act → World → Prop} {a : Act} {w : World} {v2 v3 v4 v6 : Value} {n : Nat} (h2 : a.tmps[2]? = some v2) (h3 : a.tmps[3]? = some v3) (h4 : a.tmps[4]? = some v4) (h6 : a.tmps[6]? = some v6) (hs : a.tmps.size = n) (hd : a.defers = [])
    (h : ∀ a0 : Act, a0.tmps[2]? = some v2 → a0.tmps[3]? = some v3 → a0.tmps[4]? = some v4 → a0.tmps[6]? = some v6 → a0.tmps.size = n → a0.defers = [] → c.wp P Q a0 w) : c.wp P Q a w := h a h2 h3 h4 h6 hs hd
theorem res15 {D : World} {s : Nat} {p : Pk} {a e : Int} (hx : D.heap[s]? = some (.cells (pkC p) 79 (0, 0))) (hz : D.heap[s + 1]? = some (.cells (flC a e) 81 (0, 0))) (tmps : Array Value)
    (h2 : tmps[2]? = some (.pointer (some ⟨s, 0, none⟩))) (h3 : tmps[3]? = some (.pointer (some ⟨s + 1, 0, none⟩))) : (results Try.f34 tmps).run Try.prog D = .ok (.tuple #[pkV p, flV a e]) D := by
  have rl1 := run_loadVar_row (P := Try.prog) D s 79 79 _ (0, 0) _ hx Try.underlying79 rfl s29
  have rl2 := run_loadVar_row (P := Try.prog) D (s + 1) 81 81 _ (0, 0) _ hz Try.underlying81 rfl s39
  simp [results, Try.results15, asAddr, h2, h3, rl1, rl2]
set_option maxHeartbeats 4000000 in
theorem read_any {w : World} {n c : Nat} {A : Option Addr} {xs : List Nat} (h : Nb w w.heap.size A n c xs) (hn : n ≤ 1073741824) :
    Calls Try.prog 34 #[.slice A n c] w fun e w' => RowKit.Below w.heap.size w w' ∧ ∃ (p : Pk) (en a k : Nat), e = .returned (.tuple #[pkV p, flV (a : Int) (k : Int)]) ∧ Rd w.heap.size xs w' p en a k := by
  obtain ⟨W1, hW1⟩ : ∃ W, W = w.alloc (.cells #[.int .i64 0, .int .i64 0, .int .i64 0, .int .i64 0, .int .i64 0, .int .i64 0, .int .u32 0, .int .u32 0, .int .u32 0, .int .u64 0, .int .u64 0, .int .u64 0, .int .u64 0, .slice none 0 0, .bool false, .int .u32 0, .slice none 0 0] 79) := ⟨_, rfl⟩
  obtain ⟨W, hW⟩ : ∃ W, W = W1.alloc (.cells #[.int .i64 0, .int .i64 0] 81) := ⟨_, rfl⟩
  have hb1 : RowKit.Below w.heap.size w W1 := by rw [hW1]; exact (Below.refl _ _).alloc (Nat.le_refl _) _
  have hb : RowKit.Below w.heap.size w W := by rw [hW]; exact hb1.alloc hb1.size _
  have hs1 : W1.heap.size = w.heap.size + 1 := by rw [hW1]; simp
  have hs2 : W.heap.size = w.heap.size + 2 := by rw [hW]; simp [hs1]
  have hx1 : W1.heap[w.heap.size]? = some (.cells (pkC pk0) 79 (0, 0)) := by rw [hW1]; exact heap_alloc_new w _
  have hx : W.heap[w.heap.size]? = some (.cells (pkC pk0) 79 (0, 0)) := by rw [hW]; exact (Below.heap_alloc _ _ _ (by omega)).trans hx1
  have hy : W.heap[w.heap.size + 1]? = some (.cells (flC 0 0) 81 (0, 0)) := by rw [hW, ← hs1]; exact heap_alloc_new W1 _
  have HW := Lib.hid (hW1 ▸ hW)
  have HX := Lib.hid hx
  have HY := Lib.hid hy
  have HB := Lib.hid hb
  have HS := Lib.hid hs2
  have HR := Lib.hid (parse_rd (h.far hb) hn)
  clear hW1 hW hb1 hb hs1 hx1 hx hy h hs2
  go_enter Try.func34, Try.ntmps34
  go_upto_region 1 with fail
  rw [← HW.out]
  go_wp2_with fail
  refine HR.out.mono ?_
  rintro e w1 ⟨b1, p, en, a, k, rfl, hrd⟩
  have HRd := Lib.hid hrd
  have HB1 := Lib.hid b1
  have HX1 := Lib.hid ((b1.block _ (Array.getElem?_eq_some_iff.1 HX.out).1).trans HX.out)
  have HY1 := Lib.hid ((b1.block _ (Array.getElem?_eq_some_iff.1 HY.out).1).trans HY.out)
  clear hrd b1 HX HY HR HW
  unfold res3
  obtain ⟨V1, hV1⟩ : ∃ V, V = w1.alloc (.cells #[.int .i64 0, .int .i64 0, .int .i64 0, .int .i64 0, .int .i64 0, .int .i64 0, .int .u32 0, .int .u32 0, .int .u32 0, .int .u64 0, .int .u64 0, .int .u64 0, .int .u64 0, .slice none 0 0, .bool false, .int .u32 0, .slice none 0 0] 79) := ⟨_, rfl⟩
  obtain ⟨V2, hV2⟩ : ∃ V, V = V1.alloc (.cells #[.int .i64 0, .int .i64 0] 81) := ⟨_, rfl⟩
  have vs1 : V1.heap.size = w1.heap.size + 1 := by rw [hV1]; simp
  have vx1 : V1.heap[w1.heap.size]? = some (.cells (pkC pk0) 79 (0, 0)) := by rw [hV1]; exact heap_alloc_new w1 _
  have vx : V2.heap[w1.heap.size]? = some (.cells (pkC pk0) 79 (0, 0)) := by rw [hV2]; exact (Below.heap_alloc _ _ _ (by omega)).trans vx1
  have vy : V2.heap[w1.heap.size + 1]? = some (.cells (flC 0 0) 81 (0, 0)) := by rw [hV2, ← vs1]; exact heap_alloc_new V1 _
  have vb : RowKit.Below w1.heap.size w1 V2 := by rw [hV2, hV1]; exact ((Below.refl _ _).alloc (Nat.le_refl _) _).alloc (by simp) _
  have HV := Lib.hid (hV1 ▸ hV2)
  have VX := Lib.hid vx
  have VY := Lib.hid vy
  have VB := Lib.hid vb
  clear hV1 hV2 vs1 vx1 vx vy vb
  go_upto_region 2 with (first
    | (refine wpList_store_row rfl 79 (.tmp 4) (.tmp 10) rfl w1.heap.size (pkC p) rfl rfl 79 _ VX.out s29 rfl (pk_all _) ?_)
    | (refine wpList_store_row rfl 81 (.tmp 6) (.tmp 12) rfl (w1.heap.size + 1) (flC a k) rfl rfl 81 _ ((setRow_other V2 w1.heap.size (w1.heap.size + 1) (pkC p) (by omega)).trans VY.out) s39 rfl (fl_all _ _) ?_)
    | (rw [← HV.out]))
  rename_i Q' K hK
  obtain ⟨s, hs⟩ : ∃ s, s = w.heap.size := ⟨_, rfl⟩
  obtain ⟨g, hg⟩ : ∃ g, g = w1.heap.size := ⟨_, rfl⟩
  have hsg : s + 2 ≤ g := by have := HS.out; have := HB1.out.size; omega
  obtain ⟨D0, hD0⟩ : ∃ D, D = (V2.setRow w1.heap.size (pkC p)).setRow (w1.heap.size + 1) (flC a k) := ⟨_, rfl⟩
  have o0 : ∀ q, q < g → D0.heap[q]? = w1.heap[q]? := fun q hq => by
    rw [hD0]
    exact (setRow_other _ _ _ _ (by omega)).trans ((setRow_other _ _ _ _ (by omega)).trans (VB.out.block q (by omega)))
  have x2 : D0.drew.heap[s]? = some (.cells (pkC pk0) 79 (0, 0)) := (o0 s (by omega)).trans (by rw [hs]; exact HX1.out)
  have x3 : D0.drew.heap[s + 1]? = some (.cells (flC 0 0) 81 (0, 0)) := (o0 (s + 1) (by omega)).trans (by rw [hs]; exact HY1.out)
  have x4 : D0.drew.heap[g]? = some (.cells (pkC p) 79 (0, 0)) := by
    show D0.heap[g]? = _
    rw [hD0, hg]
    exact (setRow_other _ _ _ _ (by omega)).trans (setRow_heap _ _ _ _ _ _ VX.out)
  have x6 : D0.drew.heap[g + 1]? = some (.cells (flC a k) 81 (0, 0)) := by
    show D0.heap[g + 1]? = _
    rw [hD0, hg]
    exact setRow_heap _ _ _ _ _ _ ((setRow_other V2 w1.heap.size (w1.heap.size + 1) (pkC p) (by omega)).trans VY.out)
  have bD : RowKit.Below w1.heap.size w1 D0 := by rw [hD0]; exact below_setRow (below_setRow VB.out (Nat.le_refl _) _) (by omega) _
  rw [← hD0, ← hg, ← hs]
  clear hD0 o0 VX VY VB HV HX1 HY1
  have hfin : ∀ a' : Act, a'.tmps[2]? = some (.pointer (some ⟨s, 0, none⟩)) → a'.tmps[3]? = some (.pointer (some ⟨s + 1, 0, none⟩)) → a'.defers = [] →
      Exit.then K Q' .normal a' ((D0.drew.setRow s (pkC p)).setRow (s + 1) (flC a k)) := by
    intro a' t2 t3 td
    refine hK _ _ ?_
    have v2 : ((D0.drew.setRow s (pkC p)).setRow (s + 1) (flC a k)).heap[s]? = some (.cells (pkC p) 79 (0, 0)) := (setRow_other _ _ _ _ (by omega)).trans (setRow_heap _ _ _ _ _ _ x2)
    have v3 : ((D0.drew.setRow s (pkC p)).setRow (s + 1) (flC a k)).heap[s + 1]? = some (.cells (flC a k) 81 (0, 0)) := setRow_heap _ _ _ _ _ _ ((setRow_other _ _ _ _ (by omega)).trans x3)
    have bF : RowKit.Below s w ((D0.drew.setRow s (pkC p)).setRow (s + 1) (flC a k)) := by
      rw [hs]
      exact below_setRow (below_setRow (bthen (bthen HB.out HB1.out (Nat.le_refl _)) bD (Nat.le_refl _)).drew (Nat.le_refl _) _) (by omega) _
    obtain ⟨tm, ds⟩ := a'
    dsimp only at t2 t3 td
    subst td
    refine wp_ret ?_
    exact bodyPost_ret (res15 v2 v3 _ t2 t3) rfl ⟨by rw [← hs]; exact bF, p, en, a, k, rfl, by
      refine HRd.out.keep (by have := HS.out; omega) (by have := bD.size; simp; exact this) (fun q h1 h2 => ?_)
      have := HS.out
      exact (setRow_other _ _ _ _ (by omega)).trans ((setRow_other _ _ _ _ (by omega)).trans (bD.block q h2))⟩
  refine wp_gen4 (v2 := .pointer (some ⟨s, 0, none⟩)) (v3 := .pointer (some ⟨s + 1, 0, none⟩)) (v4 := .pointer (some ⟨g, 0, none⟩)) (v6 := .pointer (some ⟨g + 1, 0, none⟩)) (n := 15) rfl rfl rfl rfl rfl rfl (fun a0 q2 q3 q4 q6 qs qd => ?_)
  refine wp_region_any (by kernel_rfl) ?_
  change wpAny _ _ _ _ _ _ _ (World.drew _)
  refine wpAny_ready (rs := [0, 1]) (by kernel_rfl) (by simp) ?_
  refine AllReady.cons rfl (fun K hK => ?N_0) (AllReady.cons rfl (fun K hK => ?N_1) AllReady.nil)
  case N_0 =>
    rw [if_pos (by rfl)]
    change Oper.wp _ ⟨some 13, Op.load 79 (.tmp 4), _, _, _, _⟩ _ _ _ _
    refine wp_load_row 79 (.tmp 4) rfl g (ev_of (by simp (disch := (first | decide | (simp only [tm_size, qs]; decide))) only [tm_other, tm_same, put_none, q4])) 79 (pkC p) (0, 0) _ x4 Try.underlying79 rfl s29 ?_
    refine hK _ _ ?_
    clear hK K
    try dsimp only [put_none]
    refine wpAny_ready (rs := [1, 2]) (by kernel_rfl) (by simp) ?_
    refine AllReady.cons rfl (fun K hK => ?N0_1) (AllReady.cons rfl (fun K hK => ?N0_2) AllReady.nil)
    case N0_1 =>
      rw [if_pos (by rfl)]
      change Oper.wp _ ⟨some 14, Op.load 81 (.tmp 6), _, _, _, _⟩ _ _ _ _
      refine wp_load_row 81 (.tmp 6) rfl (g + 1) (ev_of (by simp (disch := (first | decide | (simp only [tm_size, qs]; decide))) only [tm_other, tm_same, put_none, q6])) 81 (flC a k) (0, 0) _ x6 Try.underlying81 rfl s39 ?_
      refine hK _ _ ?_
      clear hK K
      try dsimp only [put_none]
      refine wpAny_ready (rs := [2]) (by kernel_rfl) (by simp) ?_
      refine AllReady.cons rfl (fun K hK => ?N01_2) AllReady.nil
      case N01_2 =>
        rw [if_pos (by rfl)]
        change Oper.wp _ ⟨none, Op.store 79 (.tmp 2) (.tmp 13), _, _, _, _⟩ _ _ _ _
        refine wp_store_row 79 (.tmp 2) (.tmp 13) rfl s (pkC p) (ev_of (by simp (disch := (first | decide | (simp only [tm_size, qs]; decide))) only [tm_other, tm_same, put_none, q2])) (ev_of (by simp (disch := (first | decide | (simp only [tm_size, qs]; decide))) only [tm_other, tm_same, put_none])) 79 _ x2 s29 rfl (pk_all _) ?_
        refine hK _ _ ?_
        clear hK K
        try dsimp only [put_none]
        refine wpAny_ready (rs := [3]) (by kernel_rfl) (by simp) ?_
        refine AllReady.cons rfl (fun K hK => ?N012_3) AllReady.nil
        case N012_3 =>
          rw [if_pos (by rfl)]
          change Oper.wp _ ⟨none, Op.store 81 (.tmp 3) (.tmp 14), _, _, _, _⟩ _ _ _ _
          refine wp_store_row 81 (.tmp 3) (.tmp 14) rfl (s + 1) (flC a k) (ev_of (by simp (disch := (first | decide | (simp only [tm_size, qs]; decide))) only [tm_other, tm_same, put_none, q3])) (ev_of (by simp (disch := (first | decide | (simp only [tm_size, qs]; decide))) only [tm_other, tm_same, put_none])) 81 _ ((setRow_other _ _ _ _ (by omega)).trans x3) s39 rfl (fl_all _ _) ?_
          refine hK _ _ ?_
          clear hK K
          try dsimp only [put_none]
          refine wpAny_done (by kernel_rfl) ?_ _
          exact hfin _ (by simp (disch := (first | decide | (simp only [tm_size, qs]; decide))) only [tm_other, tm_same, put_none, q2]) (by simp (disch := (first | decide | (simp only [tm_size, qs]; decide))) only [tm_other, tm_same, put_none, q3]) (by simp only [tm_def, put_none, qd])
    case N0_2 =>
      rw [if_pos (by rfl)]
      change Oper.wp _ ⟨none, Op.store 79 (.tmp 2) (.tmp 13), _, _, _, _⟩ _ _ _ _
      refine wp_store_row 79 (.tmp 2) (.tmp 13) rfl s (pkC p) (ev_of (by simp (disch := (first | decide | (simp only [tm_size, qs]; decide))) only [tm_other, tm_same, put_none, q2])) (ev_of (by simp (disch := (first | decide | (simp only [tm_size, qs]; decide))) only [tm_other, tm_same, put_none])) 79 _ x2 s29 rfl (pk_all _) ?_
      refine hK _ _ ?_
      clear hK K
      try dsimp only [put_none]
      refine wpAny_ready (rs := [1]) (by kernel_rfl) (by simp) ?_
      refine AllReady.cons rfl (fun K hK => ?N02_1) AllReady.nil
      case N02_1 =>
        rw [if_pos (by rfl)]
        change Oper.wp _ ⟨some 14, Op.load 81 (.tmp 6), _, _, _, _⟩ _ _ _ _
        refine wp_load_row 81 (.tmp 6) rfl (g + 1) (ev_of (by simp (disch := (first | decide | (simp only [tm_size, qs]; decide))) only [tm_other, tm_same, put_none, q6])) 81 (flC a k) (0, 0) _ ((setRow_other _ _ _ _ (by omega)).trans x6) Try.underlying81 rfl s39 ?_
        refine hK _ _ ?_
        clear hK K
        try dsimp only [put_none]
        refine wpAny_ready (rs := [3]) (by kernel_rfl) (by simp) ?_
        refine AllReady.cons rfl (fun K hK => ?N021_3) AllReady.nil
        case N021_3 =>
          rw [if_pos (by rfl)]
          change Oper.wp _ ⟨none, Op.store 81 (.tmp 3) (.tmp 14), _, _, _, _⟩ _ _ _ _
          refine wp_store_row 81 (.tmp 3) (.tmp 14) rfl (s + 1) (flC a k) (ev_of (by simp (disch := (first | decide | (simp only [tm_size, qs]; decide))) only [tm_other, tm_same, put_none, q3])) (ev_of (by simp (disch := (first | decide | (simp only [tm_size, qs]; decide))) only [tm_other, tm_same, put_none])) 81 _ ((setRow_other _ _ _ _ (by omega)).trans x3) s39 rfl (fl_all _ _) ?_
          refine hK _ _ ?_
          clear hK K
          try dsimp only [put_none]
          refine wpAny_done (by kernel_rfl) ?_ _
          exact hfin _ (by simp (disch := (first | decide | (simp only [tm_size, qs]; decide))) only [tm_other, tm_same, put_none, q2]) (by simp (disch := (first | decide | (simp only [tm_size, qs]; decide))) only [tm_other, tm_same, put_none, q3]) (by simp only [tm_def, put_none, qd])
  case N_1 =>
    rw [if_pos (by rfl)]
    change Oper.wp _ ⟨some 14, Op.load 81 (.tmp 6), _, _, _, _⟩ _ _ _ _
    refine wp_load_row 81 (.tmp 6) rfl (g + 1) (ev_of (by simp (disch := (first | decide | (simp only [tm_size, qs]; decide))) only [tm_other, tm_same, put_none, q6])) 81 (flC a k) (0, 0) _ x6 Try.underlying81 rfl s39 ?_
    refine hK _ _ ?_
    clear hK K
    try dsimp only [put_none]
    refine wpAny_ready (rs := [0]) (by kernel_rfl) (by simp) ?_
    refine AllReady.cons rfl (fun K hK => ?N1_0) AllReady.nil
    case N1_0 =>
      rw [if_pos (by rfl)]
      change Oper.wp _ ⟨some 13, Op.load 79 (.tmp 4), _, _, _, _⟩ _ _ _ _
      refine wp_load_row 79 (.tmp 4) rfl g (ev_of (by simp (disch := (first | decide | (simp only [tm_size, qs]; decide))) only [tm_other, tm_same, put_none, q4])) 79 (pkC p) (0, 0) _ x4 Try.underlying79 rfl s29 ?_
      refine hK _ _ ?_
      clear hK K
      try dsimp only [put_none]
      refine wpAny_ready (rs := [2]) (by kernel_rfl) (by simp) ?_
      refine AllReady.cons rfl (fun K hK => ?N10_2) AllReady.nil
      case N10_2 =>
        rw [if_pos (by rfl)]
        change Oper.wp _ ⟨none, Op.store 79 (.tmp 2) (.tmp 13), _, _, _, _⟩ _ _ _ _
        refine wp_store_row 79 (.tmp 2) (.tmp 13) rfl s (pkC p) (ev_of (by simp (disch := (first | decide | (simp only [tm_size, qs]; decide))) only [tm_other, tm_same, put_none, q2])) (ev_of (by simp (disch := (first | decide | (simp only [tm_size, qs]; decide))) only [tm_other, tm_same, put_none])) 79 _ x2 s29 rfl (pk_all _) ?_
        refine hK _ _ ?_
        clear hK K
        try dsimp only [put_none]
        refine wpAny_ready (rs := [3]) (by kernel_rfl) (by simp) ?_
        refine AllReady.cons rfl (fun K hK => ?N102_3) AllReady.nil
        case N102_3 =>
          rw [if_pos (by rfl)]
          change Oper.wp _ ⟨none, Op.store 81 (.tmp 3) (.tmp 14), _, _, _, _⟩ _ _ _ _
          refine wp_store_row 81 (.tmp 3) (.tmp 14) rfl (s + 1) (flC a k) (ev_of (by simp (disch := (first | decide | (simp only [tm_size, qs]; decide))) only [tm_other, tm_same, put_none, q3])) (ev_of (by simp (disch := (first | decide | (simp only [tm_size, qs]; decide))) only [tm_other, tm_same, put_none])) 81 _ ((setRow_other _ _ _ _ (by omega)).trans x3) s39 rfl (fl_all _ _) ?_
          refine hK _ _ ?_
          clear hK K
          try dsimp only [put_none]
          refine wpAny_done (by kernel_rfl) ?_ _
          exact hfin _ (by simp (disch := (first | decide | (simp only [tm_size, qs]; decide))) only [tm_other, tm_same, put_none, q2]) (by simp (disch := (first | decide | (simp only [tm_size, qs]; decide))) only [tm_other, tm_same, put_none, q3]) (by simp only [tm_def, put_none, qd])
end Go.Proofs.Ytompggkdjbkjjaa.Wi
