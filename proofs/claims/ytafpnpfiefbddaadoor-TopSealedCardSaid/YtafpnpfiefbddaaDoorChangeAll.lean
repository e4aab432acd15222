/- sha.change: what all whole blocks of two pieces make of the words. -/
import Derived.Test.YtafpnpfiefbddaaDoorRange
namespace Go.Proofs.YtafpnpfiefbddaaDoor
set_option linter.unusedSimpArgs false
set_option linter.unusedVariables false
open Go.RowKit Go.Shelf
set_option linter.unusedVariables false
set_option maxRecDepth 100000
attribute [local go_sem] Oper.semAt_some

theorem wpListIn_load_row {F : Fence} {n : Nat} {P : Program} {ops : Array Oper} {rest : List Oper} {o : Oper} {a : Act} {w : World} {Q : Exit → Act → World → Prop} (hgd : o.guard = none) (ty : TypeId) (x : Operand) (ho : o.op = .load ty x)
    (g : Nat) (hx : a.eval x = .pointer (some ⟨g, 0, none⟩)) (t : TypeId) (cs : Array Value) (fr : Nat × Nat) (d : TypeDesc) (hg : w.heap[g]? = some (.cells cs t fr))
    (hu : P.underlying ty = some d) (hd : (match d with | .struct _ | .array _ _ => true | _ => false) = true) (hi : (P.info? ty).map (·.size) = some cs.size)
    (h : wpListIn F n P ops Q rest (a.put o.dst (.agg cs)) w) : wpListIn F n P ops Q (o :: rest) a w := by
  refine wpListIn_plain hgd fun K hK => ?_
  unfold Oper.wpIn
  refine ⟨?_, ?_⟩
  · simp [Oper.about, ho]
  · rw [Oper.semAt_plain F _ _ (by rw [ho]; intro c hc'; cases hc')]
    unfold execOp
    simp only [ho, hx, Instr.loadAt, Instr.sureAddr, Sem.run_bind, Sem.run_pure, Result.andThen_ok, run_loadVar_row w g t ty cs fr d hg hu hd hi]
    exact hK _ _ h
theorem wpListIn_store_row {F : Fence} {n : Nat} {P : Program} {ops : Array Oper} {rest : List Oper} {o : Oper} {a : Act} {w : World} {Q : Exit → Act → World → Prop} (hgd : o.guard = none) (hd : o.dst = none) (ty : TypeId) (x v : Operand) (ho : o.op = .store ty x v)
    (g : Nat) (hx : a.eval x = .pointer (some ⟨g, 0, none⟩)) (cs : List Value) (hv : a.eval v = .agg cs.toArray) (t : TypeId) (cur : Array Value) (hg : w.heap[g]? = some (.cells cur t (0, 0)))
    (h1 : ∀ v ∈ cs, v.oneCell' = true) (hs : cs.length = cur.size) (hi : (P.info? ty).map (·.size) = some cs.length)
    (h : wpListIn F n P ops Q rest a (w.setRow g cs.toArray)) : wpListIn F n P ops Q (o :: rest) a w := by
  refine wpListIn_plain hgd fun K hK => ?_
  unfold Oper.wpIn
  refine ⟨?_, ?_⟩
  · simp [Oper.about, ho]
  · rw [Oper.semAt_plain F _ _ (by rw [ho]; intro c hc'; cases hc')]
    unfold execOp
    simp only [ho, hx, hv, Instr.storeAt, Instr.sureAddr, Sem.run_bind, Sem.run_pure, Result.andThen_ok, run_storeVar_row w g ty cs t cur hg h1 hs hi]
    have := hK _ _ h
    simpa [Oper.uponIn, hd, Act.put] using this

theorem blocks_any (A1 A2 : Option Addr) (n c m c2 : Nat) (w : World) : Calls Tryd.prog 56 #[.slice A1 n c, .slice A2 m c2] w fun e w' =>
    e = .returned (.func (.func 65) #[] #[.pointer (some ⟨w.heap.size, 0, none⟩), .pointer (some ⟨w.heap.size + 1, 0, none⟩)]) ∧ w' = (w.alloc (.cells #[.slice A1 n c] 25)).alloc (.cells #[.slice A2 m c2] 25) := by
  go_enter Tryd.func56, Tryd.ntmps56
  go_wp2
  go_ret
  exact ⟨rfl, rfl⟩

theorem grown_setRow (w : World) (g : Nat) (cs : Array Value) : w.grownBy (w.setRow g cs) (some g) := ⟨rfl, rfl, rfl, by simp [World.setRow], fun k hk hne => setRow_other w g k _ (by intro e; subst e; exact hne rfl)⟩
theorem keeps_setRow {w : World} {g : Nat} (cs : Array Value) {cur : Array Value} {t : TypeId} {fr : Nat × Nat} (h : w.heap[g]? = some (.cells cur t fr)) : KeepsOthers w (w.setRow g cs) :=
  KeepsOthers.of_grownBy (grown_setRow w g cs) (fun j o e hj => by cases e; rw [h] at hj; cases hj; rfl)
/-- what a round is handed -/
def BlockIs (zs : List Nat) (k : Nat) (v : Value) (W : World) : Prop := ∃ A c, v = .slice A 64 c ∧ Nb W W.heap.size A 64 c ((zs.drop (64 * k)).take 64)
theorem BlockIs.put {zs : List Nat} {k : Nat} {v : Value} {A : World} {l : Nat} {o o' : Obj} (h : BlockIs zs k v A) (hl : A.heap[l]? = some o) (ho : o.isCells = false) : BlockIs zs k v (A.putObj l o') := by
  obtain ⟨ad, c, rfl, hn⟩ := h
  refine ⟨ad, c, rfl, hn.len, hn.cap, hn.room, hn.lim, fun h0 => ?_⟩
  obtain ⟨b, off, e, hb, hc⟩ := hn.cell h0
  exact ⟨b, off, e, by simpa using hb, fun j x hx => cell_kept (hc j x hx) (grownBy_putObj' _ l o') (fun r e => by cases e; exact ⟨o, hl, ho⟩)⟩

theorem blocks_yields {n c m c2 : Nat} {A1 A2 : Option Addr} {xs ys : List Nat} (hs : n + m ≤ 1099511627776) (n0 B1 B2 : Nat) (w : World) (hn0 : n0 ≤ w.heap.size) (hB1 : B1 < w.heap.size) (hB2 : B2 < w.heap.size)
    (hc1 : w.cell? ⟨B1, 0, none⟩ = some (.slice A1 n c)) (hc2 : w.cell? ⟨B2, 0, none⟩ = some (.slice A2 m c2)) (hx : Nb w n0 A1 n c xs) (hy : Nb w n0 A2 m c2 ys) :
    Yields Fence.wide 8 Tryd.prog 65 #[.pointer (some ⟨B1, 0, none⟩), .pointer (some ⟨B2, 0, none⟩)] w.heap.size ((n + m) / 64) (BlockIs (xs ++ ys)) (Keeps n0 B1 B2) w := by
  intro l J W hb hJ hY h0
  have hs' := hb.size
  exact blocks1_in l B1 B2 n0 hs J hJ (fun k A' c' W1 hj hk hn => hY k _ W1 hj hk ⟨A', c', rfl, hn⟩) W (by omega) (by omega) (by omega) ((hb.cell (p := ⟨B1, 0, none⟩) hB1).trans hc1) ((hb.cell (p := ⟨B2, 0, none⟩) hB2).trans hc2) (hx.below (hb.mono hn0)) (hy.below (hb.mono hn0)) h0

theorem changeBy_row {w : World} {c : Nat} {A : Option Addr} {xs : List Nat} (hk : Ks w) (h : Nb w w.heap.size A 64 c xs) (s : St) (hs : s.Ok) :
    Calls Tryd.prog 57 #[.agg (wv (words s)).toArray, .slice A 64 c] w fun e w' => e = .returned (.agg (wv (words (chg s xs))).toArray) ∧ Below w.heap.size w w' := changeBy_any hk h s hs

set_option maxHeartbeats 2000000 in
theorem change_any {w : World} (hk : Ks w) (s : St) (hs : s.Ok) {n c m c2 : Nat} {A1 A2 : Option Addr} {xs ys : List Nat} (hx : Nb w w.heap.size A1 n c xs) (hy : Nb w w.heap.size A2 m c2 ys) (hnm : n + m ≤ 1099511627776) :
    Calls Tryd.prog 38 #[.agg (wv (words s)).toArray, .slice A1 n c, .slice A2 m c2] w fun e w' => e = .returned (.agg (wv (words (chgN s (xs ++ ys) ((n + m) / 64)))).toArray) ∧ Below w.heap.size w w' := by
  have hsz := hk.size
  have hb1 : Below w.heap.size w (w.alloc (Ob 84 (words s))) := (Below.refl _ _).alloc (Nat.le_refl _) _
  have hb2 : Below w.heap.size w ((w.alloc (Ob 84 (words s))).alloc (Ob 84 (List.replicate 8 0))) := hb1.alloc (by simp) _
  have hx2 : Wb ((w.alloc (Ob 84 (words s))).alloc (Ob 84 (List.replicate 8 0))) w.heap.size 84 (words s) := Wb.alloc (alloc_ob _ _ _) _
  have hy2 : Wb ((w.alloc (Ob 84 (words s))).alloc (Ob 84 (List.replicate 8 0))) (w.heap.size + 1) 84 (List.replicate 8 0) := by
    have := alloc_ob (w.alloc (Ob 84 (words s))) 84 (List.replicate 8 0)
    rwa [World.size_alloc] at this
  have hz2 : ((w.alloc (Ob 84 (words s))).alloc (Ob 84 (List.replicate 8 0))).heap.size = w.heap.size + 2 := by simp
  obtain ⟨w2, hw2⟩ : ∃ w2, w2 = (w.alloc (Ob 84 (words s))).alloc (Ob 84 (List.replicate 8 0)) := ⟨_, rfl⟩
  rw [← hw2] at hb2 hx2 hy2 hz2
  have HW2 := Lib.hid hw2
  clear hw2 hb1
  refine (callsIn_wide (n := 9)).1 ?_
  refine callsIn_of_wp_marks Tryd.func38 rfl trivial ?_ rfl
  simp only [Tryd.ntmps38, List.size_toArray, List.length_cons, List.length_nil, Nat.reduceAdd, Nat.reduceSub, Array.replicate_succ, Array.replicate_zero, List.push_toArray, List.append_toArray, List.nil_append, List.cons_append]
  gi_wp2_with fail
  refine ⟨trivial, ?_⟩
  change CallsIn _ _ _ _ _ ((w.alloc (Ob 84 (words s))).alloc (Ob 84 (List.replicate 8 0))) _
  rw [← HW2.out]
  refine (callsIn_wide.2 (blocks_any A1 A2 n c m c2 w2)).mono ?_
  rintro e w3 ⟨rfl, hw3⟩
  have hb3 : Below w2.heap.size w2 w3 := by rw [hw3]; exact ((Below.refl _ _).alloc (Nat.le_refl _) _).alloc (by simp) _
  have hs3 : w3.heap.size = w2.heap.size + 2 := by rw [hw3]; simp
  have hc1 : w3.cell? ⟨w2.heap.size, 0, none⟩ = some (.slice A1 n c) := by
    rw [hw3]
    have h1 := cell_new w2 (.slice A1 n c) 25
    exact (((Below.refl (w2.heap.size + 1) (w2.alloc (.cells #[.slice A1 n c] 25))).alloc (by simp) _).cell (p := ⟨w2.heap.size, 0, none⟩) (Nat.lt_succ_self _)).trans h1
  have hc2 : w3.cell? ⟨w2.heap.size + 1, 0, none⟩ = some (.slice A2 m c2) := by
    rw [hw3]
    have h1 := cell_new (w2.alloc (.cells #[.slice A1 n c] 25)) (.slice A2 m c2) 25
    rwa [World.size_alloc] at h1
  have hx3 := hx2.below hb3 hx2.lt
  have hy3 := hy2.below hb3 hy2.lt
  have hB3 : Below w.heap.size w w3 := hb2.trans (hb3.mono (by omega))
  have hsz3 : w.heap.size + 4 = w3.heap.size := by omega
  have hyl := blocks_yields hnm w.heap.size w2.heap.size (w2.heap.size + 1) w3 hB3.size (by omega) (by omega) hc1 hc2 (hx.below hB3) (hy.below hB3)
  have Hyl := Lib.hid hyl
  clear hw3 hc1 hc2 hx2 hy2 hb2 hb3 hyl HW2 hx hy
  generalize w2.heap.size = g2 at *
  have hg2 : g2 = w.heap.size + 2 := hz2
  subst hg2
  clear hs3 hz2
  gi_wp2_with fail
  generalize hzs : xs ++ ys = zs at *
  have Hzs := Lib.hid hzs
  clear hzs
  refine range_all (J := fun k W => (Wb W w.heap.size 84 (words (chgN s zs k)) ∧ Wb W (w.heap.size + 1) 84 (List.replicate 8 0)) ∧ Below w.heap.size w W ∧ w.heap.size + 4 ≤ W.heap.size) rfl (by omega) (gf := 65) (lb := #[.pointer (some ⟨w.heap.size + 2, 0, none⟩), .pointer (some ⟨w.heap.size + 2 + 1, 0, none⟩)]) rfl trivial (enters_of Tryd.func65 (by kernel_rfl) rfl) Hyl.out
    (fun A B C h k => h.trans k) (fun A l o o' hl h ho => ⟨(Below.refl _ A).grown (grownBy_putObj' A l o') (by have := (Array.getElem?_eq_some_iff.1 h).1; omega) (fun k e => by cases e; omega), World.putObj_heap_other (by omega), World.putObj_heap_other (by omega)⟩)
    (fun k v A l o o' h _ hl ho => h.put hl ho) ?hJ ⟨⟨by rw [chgN_zero]; exact hx3, hy3⟩, hB3, by omega⟩
    (fun v => { tmps := #[.agg (wv (words s)).toArray, .slice A1 n c, .slice A2 m c2, .pointer (some ⟨w.heap.size, 0, none⟩), undef, undef, .pointer (some ⟨w.heap.size + 1, 0, none⟩), v, .slice A1 n c, .slice A2 m c2, .func (.func 65) #[] #[.pointer (some ⟨w.heap.size + 2, 0, none⟩), .pointer (some ⟨w.heap.size + 2 + 1, 0, none⟩)], v, undef, undef, undef, undef], defers := [] }) ?assign ?body ?done
  case hJ =>
    rintro k A B row ⟨⟨j1, j2⟩, j3, j4⟩ hg hr
    have hne : ∀ i, i < w3.heap.size → some i ≠ row := by
      intro i hi e
      have := (hr i e.symm).1
      omega
    have hA := j3.size
    exact ⟨⟨(hg.block _ j1.lt (hne _ (by omega))).trans j1, (hg.block _ j2.lt (hne _ (by omega))).trans j2⟩, j3.trans ⟨hg.os, hg.tape, hg.output, hg.size, fun i hi => hg.block i (by omega) (hne i (by omega))⟩, Nat.le_trans j4 hg.size⟩
  case assign =>
    intro l v W K hK
    gi_wp2
    exact hK
  case body =>
    rintro l k v W ⟨⟨j1, j2⟩, j3, q1⟩ hkN ⟨A, c', rfl, hn⟩
    have ok := chgN_ok hs zs k
    have hcb := changeBy_row (hk.below j3 hsz) hn (chgN s zs k) ok
    rw [← chgN_succ] at hcb
    have Hcb := Lib.hid hcb
    clear hcb hn ok
    gi_wp2_with (refine wpListIn_load_row rfl 84 (.tmp 3) rfl w.heap.size rfl 84 (wv (words (chgN s zs k))).toArray (0, 0) _ j1 Tryd.underlying84 rfl (by kernel_rfl) ?_)
    refine ⟨trivial, ?_⟩
    refine (CallsIn.inRound l (callsIn_wide.2 Hcb.out)).mono ?_
    rintro e w4 ⟨rfl, hb4⟩
    have i1 := j1.below hb4 j1.lt
    have i2 := j2.below hb4 j2.lt
    have i3 := j3.trans (hb4.mono (by omega))
    have i4 := hb4.size
    gi_wp2_with (refine wpListIn_store_row rfl rfl 84 (.tmp 3) (.tmp 14) rfl w.heap.size rfl (wv (words (chgN s zs (k + 1)))) rfl 84 _ i1 (wv_one _) (by simp [wv, words]) (by kernel_rfl) ?_)
    have r1 := setRow_heap w4 w.heap.size _ (wv (words (chgN s zs (k + 1)))).toArray 84 (0, 0) i1
    refine ⟨(KeepsOthers.of_grownBy (below_grown hb4) (fun j o e => by cases e)).trans (keeps_setRow _ i1), ⟨(hb4.mono (by omega)).trans (below_setRow (Below.refl _ _) (Nat.le_refl _) _), (setRow_other _ _ _ _ (by omega)).trans (hb4.block _ (by omega)), (setRow_other _ _ _ _ (by omega)).trans (hb4.block _ (by omega))⟩, ⟨r1, (setRow_other _ _ _ _ (by omega)).trans i2⟩, below_setRow i3 (Nat.le_refl _) _, by omega⟩
  case done =>
    rintro D W hD ⟨⟨j1, j2⟩, j3, q1⟩ hK
    gi_wp2_with (first
      | (refine wpListIn_load_row rfl 84 (.tmp 3) rfl w.heap.size rfl 84 (wv (words (chgN s zs ((n + m) / 64)))).toArray (0, 0) _ j1 Tryd.underlying84 rfl (by kernel_rfl) ?_)
      | (refine wpListIn_store_row rfl rfl 84 (.tmp 6) (.tmp 15) rfl (w.heap.size + 1) rfl (wv (words (chgN s zs ((n + m) / 64)))) rfl 84 _ j2 (wv_one _) (by simp [wv, words]) (by kernel_rfl) ?_))
    have hK2 : (W.setRow (w.heap.size + 1) (wv (words (chgN s zs ((n + m) / 64)))).toArray).heap[D]? = some (.deferred (some [])) := (setRow_other _ _ _ _ (by omega)).trans hK
    have r1 := setRow_heap W (w.heap.size + 1) _ (wv (words (chgN s zs ((n + m) / 64)))).toArray 84 (0, 0) j2
    have r2 : ((W.setRow (w.heap.size + 1) (wv (words (chgN s zs ((n + m) / 64)))).toArray).putObj D (.deferred none)).heap[w.heap.size + 1]? = _ := (World.putObj_heap_other (by omega)).trans r1
    refine ⟨by simp, .inl ⟨_, _, rfl, run_takeDeferred hK2, ?_⟩⟩
    exact ⟨_, results_cell_row rfl _ _ (w.heap.size + 1) 84 _ (0, 0) _ rfl r2 Tryd.underlying84 rfl (by kernel_rfl), by rw [Hzs.out], (below_setRow j3 (Nat.le_succ _) _).trans (belowK_b (w := w) (Nat.le_refl _) _ D _ _ (by omega) hK2 rfl rfl)⟩
end Go.Proofs.YtafpnpfiefbddaaDoor
