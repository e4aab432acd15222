/- sha.Expand. -/
import Derived.Test.YtnkkjfkchmlogaaDoorCuts
namespace Go.Proofs.YtnkkjfkchmlogaaDoor
open Go.RowKit
set_option linter.unusedVariables false
set_option maxRecDepth 100000

/-- the first digests of an expansion, one behind the other -/
def expN (seed : List Nat) : Nat → List Nat
  | 0 => []
  | k + 1 => expN seed k ++ sha (seed ++ by4 k)
theorem length_expN (seed : List Nat) (k : Nat) : (expN seed k).length = 32 * k := by
  induction k with
  | zero => rfl
  | succ k ih => rw [expN, List.length_append, ih, length_sha]; omega
/-- an expansion of n bytes -/
def expand (seed : List Nat) (n : Nat) : List Nat := (expN seed ((n + 31) / 32)).take n
theorem expN_mono (seed : List Nat) (j k : Nat) (h : j ≤ k) : ∃ r, expN seed k = expN seed j ++ r := by
  induction k with
  | zero => obtain rfl : j = 0 := by omega
            exact ⟨[], by simp⟩
  | succ k ih =>
    by_cases hj : j = k + 1
    · subst hj; exact ⟨[], by simp⟩
    · obtain ⟨r, hr⟩ := ih (by omega)
      exact ⟨r ++ sha (seed ++ by4 k), by rw [expN, hr, List.append_assoc]⟩
theorem length_expand (seed : List Nat) (n : Nat) : (expand seed n).length = n := by
  rw [expand, List.length_take, length_expN]; omega
theorem expand_begins (seed : List Nat) (n m : Nat) (h : n ≤ m) : (expand seed m).take n = expand seed n := by
  unfold expand
  rw [List.take_take, Nat.min_eq_left h]
  obtain ⟨r, hr⟩ := expN_mono seed ((n + 31) / 32) ((m + 31) / 32) (by omega)
  rw [hr, List.take_append_of_le_length (by rw [length_expN]; omega)]
theorem dig_lim {s : St} : Lim 256 (dig s) := by
  intro x hx
  simp only [dig, List.mem_flatMap, by4, List.mem_cons, List.not_mem_nil, or_false] at hx
  obtain ⟨a, _, h⟩ := hx
  omega
theorem sha_lim (b : List Nat) : Lim 256 (sha b) := by rw [sha_is]; exact dig_lim
theorem expN_lim (seed : List Nat) (k : Nat) : Lim 256 (expN seed k) := by
  induction k with
  | zero => exact Lim.nil _
  | succ k ih => exact ih.append (sha_lim _)
theorem by4_lim (k : Nat) : Lim 256 (by4 k) := by
  intro x hx
  simp only [by4, List.mem_cons, List.not_mem_nil, or_false] at hx
  omega

theorem expand_neg (A : Option Addr) (l c : Nat) (n : Int) (hn : n < 0) (hn' : -9223372036854775808 ≤ n) (w : World) : Calls Tryd.prog 25 #[.slice A l c, .int .i64 n] w fun e w' => e = .returned (.tuple #[.slice none 0 0, .int .i64 1]) ∧ w = w' := by
  go_enter Tryd.func25, Tryd.ntmps25
  go_wp2
  go_ret2
  exact ⟨rfl, rfl⟩
theorem expand_long (A : Option Addr) (l c : Nat) (n : Int) (hn : 4096 < n) (hn' : n ≤ 9223372036854775807) (w : World) : Calls Tryd.prog 25 #[.slice A l c, .int .i64 n] w fun e w' => e = .returned (.tuple #[.slice none 0 0, .int .i64 2]) ∧ w = w' := by
  go_enter Tryd.func25, Tryd.ntmps25
  go_wp2
  go_ret2
  exact ⟨rfl, rfl⟩

theorem HashAt.copy {w : World} {lo g : Nat} {text : List Nat} (h : HashAt w lo g text) {cs : List Value} (hc : w.heap[g]? = some (.cells cs.toArray 46 (0, 0))) {w' : World} {g' : Nat} (hg' : w.heap.size ≤ g') (hb : Below w.heap.size w w') (hn : w'.heap[g']? = some (.cells cs.toArray 46 (0, 0))) : HashAt w' lo g' text := by
  obtain ⟨s, A, n, c, h1, h2, h3, h4, h5⟩ := h.ex
  rw [hc] at h3
  have he : cs.toArray = (hcells s A n c text.length).toArray := by
    simp only [Option.some.injEq, Obj.cells.injEq, and_true] at h3
    exact h3
  rw [he] at hn
  have hlt : g' < w'.heap.size := by
    rcases Nat.lt_or_ge g' w'.heap.size with h | h
    · exact h
    · rw [Array.getElem?_eq_none h] at hn; cases hn
  refine ⟨⟨s, A, n, c, h1, h2, hn, (h4.below hb).more hb.size, fun h0 => ?_⟩, hlt, Nat.le_trans h.top hb.size, h.lim, h.short⟩
  obtain ⟨r, off, e, hle, hne⟩ := h5 h0
  obtain ⟨b, o, e', hb', _⟩ := h4.cell h0
  have e3 := e'.symm.trans e
  cases e3
  exact ⟨_, _, e', hle, by omega⟩
theorem HashAt.cells {w : World} {lo g : Nat} {text : List Nat} (h : HashAt w lo g text) : ∃ cs : List Value, cs.length = 10 ∧ (∀ v ∈ cs, v.oneCell' = true) ∧ w.heap[g]? = some (.cells cs.toArray 46 (0, 0)) := by
  obtain ⟨s, A, n, c, h1, h2, h3, h4, h5⟩ := h.ex
  exact ⟨_, rfl, hcells_one s A n c _, h3⟩

def ZeroH : Obj := .cells (hcells zeroSt none 0 0 0).toArray 46 (0, 0)
theorem splice_exp (seed : List Nat) (n k : Nat) (Dg : List Nat) (hD : Dg.length = 32) (hk : 32 * k < n) :
    splice (bs ((expN seed k).take n ++ List.replicate (n - 32 * k) 0)) (32 * k) (bs (Dg.take (n - 32 * k))) = bs ((expN seed k ++ Dg).take n ++ List.replicate (n - 32 * (k + 1)) 0) := by
  have hl := length_expN seed k
  have e1 : (expN seed k).take n = expN seed k := List.take_of_length_le (by omega)
  have e2 : (expN seed k ++ Dg).take n = expN seed k ++ Dg.take (n - 32 * k) := by
    rw [List.take_append, List.take_of_length_le (by omega), hl]
  rw [e1, e2]
  unfold splice
  simp only [bs, List.map_append, List.map_take, List.length_take, List.length_map, hD]
  rw [List.take_append_of_le_length (by simp [hl]), List.take_of_length_le (by simp [hl]), List.drop_append, List.drop_eq_nil_of_le (by simp [hl]), List.append_assoc, List.nil_append]
  congr 1
  congr 1
  simp only [List.map_replicate, List.drop_replicate, List.length_map, hl]
  congr 1
  simp only [Nat.min_def]; split <;> omega

theorem slice_out (g n k : Nat) (hk : 32 * k < n) (hn : n ≤ 4096) (W : World) : (Instr.sliceAt 22 (.slice (some ⟨g, 0, none⟩) n n) (some (.int .i64 (32 * (k : Int)))) none none).run Tryd.prog W = .ok (.slice (some ⟨g, 32 * k, none⟩) (n - 32 * k) (n - 32 * k)) W := by
  rw [run_sliceAt_slice W 22 _ _ _ _ und22, run_slice_l W 22 _ n n und22 .i64 (32 * (k : Int)) (by omega) (by omega), size5]
  have e : (32 * (k : Int)).toNat = 32 * k := by omega
  have hne : ¬ n = 32 * k := by omega
  simp only [Result.andThen, sliced, e, if_neg hne, Option.map_some, Nat.mul_one]
  by_cases h0 : k = 0
  · subst h0; simp [Addr.add]
  · have : ¬ 32 * k = 0 := by omega
    simp [Addr.add, this]
theorem slice_sum (g : Nat) (W : World) : (Instr.sliceAt 26 (.pointer (some ⟨g, 0, none⟩)) none none none).run Tryd.prog W = .ok (.slice (some ⟨g, 0, none⟩) 32 32) W := by rfl
set_option maxHeartbeats 4000000 in
theorem expand_fit {w : World} (hk : Ks w) {A : Option Addr} {l c : Nat} {seed : List Nat} (hx : Nb w w.heap.size A l c seed) (hl : l ≤ 1000000) (n : Nat) (hn : n ≤ 4096) :
    Calls Tryd.prog 25 #[.slice A l c, .int .i64 (n : Int)] w fun e w' => ∃ g, e = .returned (.tuple #[.slice (some ⟨g, 0, none⟩) n n, .int .i64 0]) ∧ w.heap.size ≤ g ∧ Bb w' g 5 (expand seed n) ∧ Below w.heap.size w w' := by
  have hsz := hk.size
  have Hl := Lib.hid hx.len
  go_enter Tryd.func25, Tryd.ntmps25
  go_wp2_with fail
  refine (new_any w).mono ?_
  rintro e w1 ⟨rfl, g1, b1⟩
  have hs1 := g1.lt
  go_wp2_with fail
  refine (write_any (hk.below b1 hsz) g1 (hx.far b1) (by simp; omega) (by omega)).mono ?_
  rintro e w2 ⟨rfl, g2, q2⟩
  rw [List.nil_append] at g2
  have B2 := below_write b1 q2 (Nat.le_refl _) (Nat.le_refl _)
  have hs2 := q2.size
  clear g1 q2 b1
  go_wp2_with (refine wpList_make_bs _ rfl (.tmp 20) (.tmp 20) rfl _ _ n rfl rfl rfl rfl (by omega) ?_; intro w3 hm hb3)
  have g3 := g2.below hb3
  have B3 := then_ B2 hb3
  have hgo : w2.heap.size < w3.heap.size := hm.lt
  have Hg2 := Lib.hid g2
  clear g2 B2
  go_loopw [8] (fun i wr => ∃ k : Nat, 32 * k ≤ n + 31 ∧ i = .int .i64 ((32 * k : Nat) : Int) ∧ Bb wr w2.heap.size 5 ((expN seed k).take n ++ List.replicate (n - 32 * k) 0) ∧ Below w2.heap.size w2 wr ∧ Below w.heap.size w wr) (fun i _ => n + 32 - (intOf i).toNat)
  case atStart => exact ⟨0, by omega, rfl, by simpa [expN] using hm, hb3, B3⟩
  case round =>
    clear hm g3 B3 hb3
    obtain ⟨k, hk32, rfl, ho, hb2, hB⟩ := hrel
    have hh := Hg2.out.below hb2
    have Hb2 := Lib.hid hb2
    clear hb2
    have hsr := hB.size
    have hor := ho.lt
    by_cases hlt : 32 * k < n
    · obtain ⟨cs, hcl, hc1, hcc⟩ := hh.cells
      have z0 : (wr.alloc ZeroH).heap[wr.heap.size]? = some (.cells (hcells zeroSt none 0 0 0).toArray 46 (0, 0)) := heap_alloc_new wr _
      have bz : Below wr.heap.size wr (wr.alloc ZeroH) := (Below.refl _ _).alloc (Nat.le_refl _) _
      have r1 : ((wr.alloc ZeroH).setRow wr.heap.size cs.toArray).heap[wr.heap.size]? = some (.cells cs.toArray 46 (0, 0)) := setRow_heap _ _ _ _ _ _ z0
      have b1 : Below wr.heap.size wr ((wr.alloc ZeroH).setRow wr.heap.size cs.toArray) := below_setRow bz (Nat.le_refl _) _
      have h1 : HashAt ((wr.alloc ZeroH).setRow wr.heap.size cs.toArray) w1.heap.size wr.heap.size seed := hh.copy hcc (Nat.le_refl _) b1 r1
      obtain ⟨wa, hwa⟩ : ∃ wa, (wr.alloc ZeroH).setRow wr.heap.size cs.toArray = wa := ⟨_, rfl⟩
      rw [hwa] at b1 h1
      have Hwa := Lib.hid hwa
      have Hcl := Lib.hid hcl
      have Hho := Lib.hid ho
      have Hhh := Lib.hid hh
      clear hwa bz r1 hcl ho hh
      have w32 : 32 * (k : Int) / 32 = (k : Int) := by omega
      go_wp2_with (first
        | (refine wpList_load_row rfl 46 (.tmp 28) rfl w.heap.size rfl 46 cs.toArray (0, 0) _ hcc Tryd.underlying46 rfl (by rw [List.size_toArray, Hcl.out]; kernel_rfl) ?_)
        | (change wpList _ _ _ _ _ (wr.alloc ZeroH); refine wpList_store_row rfl rfl 46 (.tmp 9) (.tmp 29) rfl wr.heap.size rfl cs rfl 46 _ z0 hc1 (by rw [Hcl.out]; rfl) (by rw [Hcl.out]; kernel_rfl) ?_; rw [Hwa.out]))
      refine (bytesOf_any k (by omega) wa).mono ?_
      rintro e wb ⟨rfl, bb⟩
      have B1 := then_ b1 bb
      have h2 := h1.below bb
      have y0 : Bb (wb.alloc (Yb 60 (List.replicate 4 0))) wb.heap.size 60 (List.replicate 4 0) := alloc_bb _ _ _
      have B2 : Below wr.heap.size wr ((wb.alloc (Yb 60 (List.replicate 4 0))).setRow wb.heap.size (bs (by4 k)).toArray) := below_setRow (B1.alloc B1.size _) B1.size _
      have y1 : Bb ((wb.alloc (Yb 60 (List.replicate 4 0))).setRow wb.heap.size (bs (by4 k)).toArray) wb.heap.size 60 (by4 k) := setRow_heap _ _ _ _ _ _ y0
      have h3 : HashAt ((wb.alloc (Yb 60 (List.replicate 4 0))).setRow wb.heap.size (bs (by4 k)).toArray) w1.heap.size wr.heap.size seed := h2.below (below_setRow ((Below.refl _ _).alloc (Nat.le_refl _) _) (Nat.le_refl _) _)
      obtain ⟨wc, hwc⟩ : ∃ wc, (wb.alloc (Yb 60 (List.replicate 4 0))).setRow wb.heap.size (bs (by4 k)).toArray = wc := ⟨_, rfl⟩
      rw [hwc] at B2 y1 h3
      have Hwc := Lib.hid hwc
      clear hwc
      go_wp2_with (change wpList _ _ _ _ _ (wb.alloc (Yb 60 (List.replicate 4 0))); refine wpList_store_row rfl rfl 60 (.tmp 10) (.tmp 33) rfl wb.heap.size rfl (bs (by4 k)) rfl 60 _ y0 (bs_one _) (by simp [bs, by4]) (by kernel_rfl) ?_; rw [Hwc.out])
      have yn := y1.nb 0 4 4 (by simp [by4]) (Nat.le_refl _) (by omega) (by4_lim k)
      rw [List.drop_zero, List.take_of_length_le (by simp [by4])] at yn
      refine (write_any (hk.below (hB.trans (B2.mono hsr)) hsz) h3 yn (by rw [Hl.out]; omega) (by omega)).mono ?_
      rintro e wd ⟨rfl, h4, q4⟩
      have B3 := below_write B2 q4 (Nat.le_refl _) (Nat.le_refl _)
      clear h1 h2 h3 y0 y1 yn q4 B1 B2 b1 bb z0 hcc hc1
      have hs := sumOf_any (hk.below (hB.trans (B3.mono hsr)) hsz) h4
      obtain ⟨Dg, hDg⟩ : ∃ Dg, sha (seed ++ by4 k) = Dg := ⟨_, rfl⟩
      rw [hDg] at hs
      have hDl : Dg.length = 32 := by rw [← hDg, length_sha]
      have hDL : Lim 256 Dg := by rw [← hDg]; exact sha_lim _
      have HDg := Lib.hid hDg
      clear hDg
      go_wp2_with fail
      refine hs.mono ?_
      rintro e we ⟨rfl, be⟩
      have B4 := then_ B3 be
      have t0 : Bb (we.alloc (Yb 26 (List.replicate 32 0))) we.heap.size 26 (List.replicate 32 0) := alloc_bb _ _ _
      have B5 : Below wr.heap.size wr ((we.alloc (Yb 26 (List.replicate 32 0))).setRow we.heap.size (bs Dg).toArray) := below_setRow (B4.alloc B4.size _) B4.size _
      have t1 : Bb ((we.alloc (Yb 26 (List.replicate 32 0))).setRow we.heap.size (bs Dg).toArray) we.heap.size 26 Dg := setRow_heap _ _ _ _ _ _ t0
      obtain ⟨wf, hwf⟩ : ∃ wf, (we.alloc (Yb 26 (List.replicate 32 0))).setRow we.heap.size (bs Dg).toArray = wf := ⟨_, rfl⟩
      rw [hwf] at B5 t1
      have Hwf := Lib.hid hwf
      have HDbl : Hid ((bs Dg).length = 32) := by show _ = _; rw [length_bs, hDl]
      have HDl := Lib.hid hDl
      clear hwf hs h4 hDl
      go_wp2_with (change wpList _ _ _ _ _ (we.alloc (Yb 26 (List.replicate 32 0))); refine wpList_store_row rfl rfl 26 (.tmp 11) (.tmp 36) rfl we.heap.size rfl (bs Dg) rfl 26 _ t0 (bs_one _) (by rw [HDbl.out]; simp [bs]) (by rw [HDbl.out]; kernel_rfl) ?_; rw [Hwf.out])
      have o5 : Bb wf w2.heap.size 5 _ := Hho.out.below B5 hor
      have B6 : Below w.heap.size w wf := hB.trans (B5.mono hsr)
      have Hst := Lib.hid (splice_exp seed n k Dg HDl.out hlt)
      have sl1 := fun W => slice_out w2.heap.size n k hlt hn W
      have sl2 := fun W => slice_sum we.heap.size W
      have hcl : (bs ((expN seed k).take n ++ List.replicate (n - 32 * k) 0)).length = n := by
        rw [length_bs, List.length_append, List.length_take, length_expN, List.length_replicate]
        simp only [Nat.min_def]; split <;> omega
      have Ho5 : Hid (wf.drew.heap[w2.heap.size]? = some (.cells (bs ((expN seed k).take n ++ List.replicate (n - 32 * k) 0)).toArray 5 (0, 0))) := o5
      have Hn : Hid ((bs (Dg.take (n - 32 * k))).length = Nat.min 32 (n - 32 * k)) := by
        show _ = _
        rw [length_bs, List.length_take, HDl.out]; exact Nat.min_comm _ _
      have Hpos : Hid (0 < (bs (Dg.take (n - 32 * k))).length → some (⟨w2.heap.size, 32 * k, none⟩ : Addr) = some ⟨w2.heap.size, 32 * k, none⟩ ∧ ∃ ad, some (⟨we.heap.size, 0, none⟩ : Addr) = some ad ∧ ∀ j v, (bs (Dg.take (n - 32 * k)))[j]? = some v → wf.drew.cell? (ad.add j) = some v) := fun _ => ⟨rfl, _, rfl, fun j v hj => by
        simp only [bs, List.getElem?_map, Option.map_eq_some_iff] at hj
        obtain ⟨y, hy, rfl⟩ := hj
        rw [List.getElem?_take] at hy
        split at hy
        · have := t1.drew.cell hy
          by_cases hj0 : j = 0
          · subst hj0; simpa [Addr.add] using this
          · simpa [Addr.add, hj0] using this
        · cases hy⟩
      have Hfit : Hid (32 * k + (bs (Dg.take (n - 32 * k))).length ≤ (bs ((expN seed k).take n ++ List.replicate (n - 32 * k) 0)).length) := by
        show _ ≤ _
        rw [hcl, length_bs, List.length_take, HDl.out]
        simp only [Nat.min_def]; split <;> omega
      have HY1 := Lib.hid (bs_one (Dg.take (n - 32 * k)))
      have Hb5 := Lib.hid (Hb2.out.trans (B5.mono (Nat.le_of_lt hor)))
      have HB6 := Lib.hid B6
      have hgw : w2.heap.size < wf.heap.size := o5.lt
      generalize hcur : bs ((expN seed k).take n ++ List.replicate (n - 32 * k) 0) = cur at *
      generalize hY : bs (Dg.take (n - 32 * k)) = Y at *
      have Hcur := Lib.hid hcur
      clear o5 B6 hcl hcur hY t1 B5 t0 B4 be B3 Hho
      go_region_law (refine step_copy_splice rfl (.tmp 39) (.tmp 40) 22 22 rfl 5 Tryd.underlying22 (by kernel_rfl) (some ⟨w2.heap.size, 32 * k, none⟩) (some ⟨we.heap.size, 0, none⟩) (n - 32 * k) (n - 32 * k) 32 32 (by simp [Act.eval, Act.put]) (by simp [Act.eval, Act.put]) w2.heap.size (32 * k) cur 5 Ho5.out Y Hn.out Hpos.out Hfit.out HY1.out w2.heap.size wf.drew (Below.refl _ _) (Nat.le_refl _) ?_; intro w4 hw4 hb4)
      all_goals go_wp2
      all_goals go_roundw
      case rel =>
        refine ⟨k + 1, by omega, by congr 1, ?_, Hb5.out.drew.trans hb4, HB6.out.drew.trans (hb4.mono (by omega))⟩
        have e := hw4.out
        rw [Hst.out, ← HDg.out] at e
        exact e
      case measure => simp [intOf]; omega
    · have hf : Bb wr w2.heap.size 5 (expand seed n) := by
        have h1 : n - 32 * k = 0 := by omega
        rw [h1, List.replicate_zero, List.append_nil] at ho
        have e : (expN seed k).take n = expand seed n := by
          obtain ⟨r, hr⟩ := expN_mono seed ((n + 31) / 32) k (by omega)
          rw [hr, List.take_append_of_le_length (by rw [length_expN]; omega)]; rfl
        rwa [e] at ho
      have hge : n ≤ 32 * k := by omega
      clear hlt ho
      go_wp2
      go_ret2
      exact ⟨w2.heap.size, rfl, by omega, hf, hB⟩
end Go.Proofs.YtnkkjfkchmlogaaDoor
