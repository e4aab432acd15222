/- Lists of key numbers: the own side. -/
import Derived.Test.YtonfpomgkgljiaaDoorK5
namespace Go.Proofs.YtonfpomgkgljiaaDoor
open Go.RowKit Go.Shelf
set_option linter.unusedVariables false
set_option maxRecDepth 100000
attribute [local go_sem] Oper.semAt_some

theorem numbers_any (a b c d n : Nat) (w : World) : Calls Tryd.prog 36 #[.int .u32 (a : Int), .int .u32 (b : Int), .int .u32 (c : Int), .int .u32 (d : Int), .int .i64 (n : Int)] w fun e w' =>
    e = .returned (.func (.func 53) #[] #[.pointer (some ⟨w.heap.size + 2, 0, none⟩), .pointer (some ⟨w.heap.size + 4, 0, none⟩), .pointer (some ⟨w.heap.size, 0, none⟩), .pointer (some ⟨w.heap.size + 1, 0, none⟩), .pointer (some ⟨w.heap.size + 3, 0, none⟩)]) ∧ Below w.heap.size w w' ∧ w'.heap.size = w.heap.size + 5 ∧ Boxes w' w.heap.size a b c d n := by
  obtain ⟨w1, hw1⟩ : ∃ w1, w1 = w.alloc (.cells #[.int .u32 (a : Int)] 22) := ⟨_, rfl⟩
  obtain ⟨w2, hw2⟩ : ∃ w2, w2 = w1.alloc (.cells #[.int .u32 (b : Int)] 22) := ⟨_, rfl⟩
  obtain ⟨w3, hw3⟩ : ∃ w3, w3 = w2.alloc (.cells #[.int .u32 (c : Int)] 22) := ⟨_, rfl⟩
  obtain ⟨w4, hw4⟩ : ∃ w4, w4 = w3.alloc (.cells #[.int .u32 (d : Int)] 22) := ⟨_, rfl⟩
  obtain ⟨w5, hw5⟩ : ∃ w5, w5 = w4.alloc (.cells #[.int .i64 (n : Int)] 3) := ⟨_, rfl⟩
  have s1 : w1.heap.size = w.heap.size + 1 := by rw [hw1]; simp
  have s2 : w2.heap.size = w.heap.size + 2 := by rw [hw2]; simp [s1]
  have s3 : w3.heap.size = w.heap.size + 3 := by rw [hw3]; simp [s2]
  have s4 : w4.heap.size = w.heap.size + 4 := by rw [hw4]; simp [s3]
  have s5 : w5.heap.size = w.heap.size + 5 := by rw [hw5]; simp [s4]
  have b1 : Below w.heap.size w w1 := by rw [hw1]; exact (Below.refl _ _).alloc (Nat.le_refl _) _
  have b2 : Below w1.heap.size w1 w2 := by rw [hw2]; exact (Below.refl _ _).alloc (Nat.le_refl _) _
  have b3 : Below w2.heap.size w2 w3 := by rw [hw3]; exact (Below.refl _ _).alloc (Nat.le_refl _) _
  have b4 : Below w3.heap.size w3 w4 := by rw [hw4]; exact (Below.refl _ _).alloc (Nat.le_refl _) _
  have b5 : Below w4.heap.size w4 w5 := by rw [hw5]; exact (Below.refl _ _).alloc (Nat.le_refl _) _
  have c1 : w1.cell? ⟨w.heap.size, 0, none⟩ = some (.int .u32 (a : Int)) := by rw [hw1]; exact cell_new w _ 22
  have c2 : w2.cell? ⟨w.heap.size + 1, 0, none⟩ = some (.int .u32 (b : Int)) := by rw [hw2, ← s1]; exact cell_new w1 _ 22
  have c3 : w3.cell? ⟨w.heap.size + 2, 0, none⟩ = some (.int .u32 (c : Int)) := by rw [hw3, ← s2]; exact cell_new w2 _ 22
  have c4 : w4.cell? ⟨w.heap.size + 3, 0, none⟩ = some (.int .u32 (d : Int)) := by rw [hw4, ← s3]; exact cell_new w3 _ 22
  have c5 : w5.cell? ⟨w.heap.size + 4, 0, none⟩ = some (.int .i64 (n : Int)) := by rw [hw5, ← s4]; exact cell_new w4 _ 3
  have m2 := b2
  have B25 : Below w1.heap.size w1 w5 := ((m2.trans (b3.mono (by omega))).trans (b4.mono (by omega))).trans (b5.mono (by omega))
  have B35 : Below w2.heap.size w2 w5 := (b3.trans (b4.mono (by omega))).trans (b5.mono (by omega))
  have B45 : Below w3.heap.size w3 w5 := b4.trans (b5.mono (by omega))
  have hfin : Below w.heap.size w w5 ∧ w5.heap.size = w.heap.size + 5 ∧ Boxes w5 w.heap.size a b c d n :=
    ⟨b1.trans (B25.mono (by omega)), s5, ⟨(B25.cell (p := ⟨_, 0, none⟩) (by simp; omega)).trans c1, (B35.cell (p := ⟨_, 0, none⟩) (by simp; omega)).trans c2, (B45.cell (p := ⟨_, 0, none⟩) (by simp; omega)).trans c3, (b5.cell (p := ⟨_, 0, none⟩) (by simp; omega)).trans c4, c5⟩⟩
  subst hw5 hw4 hw3 hw2 hw1
  have Hf := Lib.hid hfin
  clear s1 s2 s3 s4 s5 b1 b2 b3 b4 b5 c1 c2 c3 c4 c5 m2 B25 B35 B45 hfin
  go_enter Tryd.func36, Tryd.ntmps36
  go_wp2
  go_ret
  exact ⟨rfl, Hf.out⟩

theorem owns_kept {W W' : World} {base g n cap e k : Nat} {xs : List Value} {row : Option Nat} (h : W.ownsRow base e 1 (.slice (some ⟨g, 0, none⟩) n cap) k xs) (hg : W.grownBy W' row) (hne : some g ≠ row) : W'.ownsRow base e 1 (.slice (some ⟨g, 0, none⟩) n cap) k xs := by
  obtain ⟨h0, ⟨e, _⟩ | ⟨g, cap, cur, e, h3, hh, h5⟩⟩ := h
  · cases e
  · cases e; exact ⟨h0, Or.inr ⟨_, _, cur, rfl, h3, (hg.block _ (Array.getElem?_eq_some_iff.1 hh).1 hne).trans hh, h5⟩⟩
set_option maxHeartbeats 2000000 in
theorem list_any {w : World} (hk : Ks w) (a b c d n : Nat) (ha : a < 4294967296) (hb : b < 4294967296) (hc : c < 4294967296) (hd : d < 4294967296) (h1 : 1 ≤ n) (h2 : n ≤ 256) :
    Calls Tryd.prog 18 #[.int .u32 (a : Int), .int .u32 (b : Int), .int .u32 (c : Int), .int .u32 (d : Int), .int .i64 (n : Int)] w fun e w' => ∃ A' c', e = .returned (.tuple #[.slice A' n c', .int .i64 0]) ∧ Nw w' w'.heap.size A' n c' (lst a b d c n) ∧ Below w.heap.size w w' := by
  have hsz := hk.size
  have HcL := Lib.hid hc
  obtain ⟨i0, hi, hz0, hz1, hz2⟩ := info_parts Tryd.info22'
  refine (callsIn_wide (n := 9)).1 ?_
  refine callsIn_of_wp_marks Tryd.func18 rfl trivial ?_ rfl
  simp only [Tryd.ntmps18, List.size_toArray, List.length_cons, List.length_nil, Nat.reduceAdd, Nat.reduceSub, Array.replicate_succ, Array.replicate_zero, List.push_toArray, List.append_toArray, List.nil_append, List.cons_append]
  gi_wp2_with (gi_at_make; refine wpListIn_make_own _ rfl _ _ 30 rfl w.heap.size 22 i0 (.int .u32 0) 1 Tryd.underlying30 hi hz0 hz1 .i64 .i64 _ n rfl rfl rfl (by rw [hz2]; omega) (by unfold maxLen; omega) (Nat.le_refl _) ?_; intro w1 hown1 hgrow1)
  have hs1 := hgrow1.size
  have hsB : w.heap.size < w1.heap.size := by
    obtain ⟨_, ⟨e, _⟩ | ⟨g, cap, cur, e, _, hh, _⟩⟩ := hown1
    · cases e
    · cases e; exact (Array.getElem?_eq_some_iff.1 hh).1
  have b1 : Below w.heap.size w w1 := (Below.refl _ _).grown hgrow1 (Nat.le_refl _) (fun _ e => by cases e)
  have hbox : Boxed (w1.alloc (.cells #[.slice (some ⟨w.heap.size, 0, none⟩) 0 n] 30)) w1.heap.size 30 (.slice (some ⟨w.heap.size, 0, none⟩) 0 n) := Boxed.new _ _ _
  have hown2 := hown1.alloc (.cells #[.slice (some ⟨w.heap.size, 0, none⟩) 0 n] 30)
  have b2 := b1.alloc hs1 (.cells #[.slice (some ⟨w.heap.size, 0, none⟩) 0 n] 30)
  have hz2 : (w1.alloc (.cells #[.slice (some ⟨w.heap.size, 0, none⟩) 0 n] 30)).heap.size = w1.heap.size + 1 := by simp
  generalize w1.heap.size = G at *
  generalize w1.alloc (.cells #[.slice (some ⟨w.heap.size, 0, none⟩) 0 n] 30) = w2 at *
  clear hown1 hgrow1
  refine ⟨trivial, (callsIn_wide.2 (numbers_any a b c d n w2)).mono ?_⟩
  rintro e w3 ⟨rfl, b3, z3, x3⟩
  rw [hz2] at z3 x3 b3
  have hbox3 : Boxed w3 G 30 (.slice (some ⟨w.heap.size, 0, none⟩) 0 n) := (b3.block G (by omega)).trans hbox
  have hown3 : w3.ownsRow w.heap.size 22 1 (.slice (some ⟨w.heap.size, 0, none⟩) 0 n) 0 [] := by
    obtain ⟨h0, ⟨e, _⟩ | ⟨g, cap, cur, e, h3, hh, h5⟩⟩ := hown2
    · cases e
    · cases e; exact ⟨h0, Or.inr ⟨_, _, cur, rfl, h3, (b3.block _ (by omega)).trans hh, h5⟩⟩
  have B3 := b2.trans (b3.mono (by omega))
  have Hst := Lib.hid (numbers_stops (hk.below B3 hsz) w.heap.size (G + 1) a b c d n ha hb hc hd hsz B3.size (by omega) x3 (by omega))
  clear hbox hown2 b2 b1 b3 x3 ha hb hc hd
  rw [hz2] at *
  gi_wp2_with fail
  refine wpIn_rangeFunc_ownF (gf := 53) (lb := #[.pointer (some ⟨G + 1 + 2, 0, none⟩), .pointer (some ⟨G + 1 + 4, 0, none⟩), .pointer (some ⟨G + 1, 0, none⟩), .pointer (some ⟨G + 1 + 1, 0, none⟩), .pointer (some ⟨G + 1 + 3, 0, none⟩)]) rfl (by omega) rfl trivial (enters_of Tryd.func53 (by kernel_rfl) rfl) Hst.out
    (fun h k => h.trans k) (fun W l o o' hl h _ _ => ⟨(Below.refl _ W).grown (grownBy_putObj' W l o') (by have := (Array.getElem?_eq_some_iff.1 h).1; omega) (fun k e => by cases e; omega), fun i _ _ => World.putObj_heap_other (by omega)⟩) (Below.refl _ _) (fun x => rfl)
    (fun pre W => (Boxed W G 30 (.slice (some ⟨w.heap.size, 0, none⟩) pre.length n) ∧ W.ownsRow w.heap.size 22 1 (.slice (some ⟨w.heap.size, 0, none⟩) pre.length n) pre.length (wv (pre.map Prod.snd))) ∧ Below w.heap.size w W ∧ w3.heap.size ≤ W.heap.size)
    (fun _ _ _ => False) ?hI (fun c pre W W' row h => h.elim) ⟨⟨hbox3, hown3⟩, B3, Nat.le_refl _⟩
    (fun x => { tmps := #[.int .u32 (a : Int), .int .u32 (b : Int), .int .u32 (c : Int), .int .u32 (d : Int), .int .i64 (n : Int), undef, undef, undef, undef, undef, .slice none 0 0, .int .i64 0, .pointer (some ⟨G, 0, none⟩), undef, .int .u32 (x.2 : Int), .int .i64 (n : Int), .bool (decide ((n : Int) < 1)), .bool (decide ((n : Int) < 1)), .int .i64 (n : Int), .bool (decide (256 < (n : Int))), .bool (decide ((n : Int) < 1) || decide (256 < (n : Int))), .int .i64 (n : Int), .slice (some ⟨w.heap.size, 0, none⟩) 0 n, .int .u32 (a : Int), .int .u32 (b : Int), .int .u32 (c : Int), .int .u32 (d : Int), .int .i64 (n : Int), .func (.func 53) #[] #[.pointer (some ⟨G + 1 + 2, 0, none⟩), .pointer (some ⟨G + 1 + 4, 0, none⟩), .pointer (some ⟨G + 1, 0, none⟩), .pointer (some ⟨G + 1 + 1, 0, none⟩), .pointer (some ⟨G + 1 + 3, 0, none⟩)], .int .i64 (x.1 : Int), .int .u32 (x.2 : Int), undef, undef, undef, undef, undef], defers := [] }) ?assign ?body ?done ?stop
  case hI =>
    rintro pre W W' row ⟨⟨j1, j2⟩, j3, j4⟩ hg hr
    have hne : ∀ i, i < w3.heap.size → some i ≠ row := by
      intro i hi e
      have := (hr i e.symm).1
      omega
    have hB3 := B3.size
    refine ⟨⟨j1.kept hg (hne G (by omega)), ?_⟩, j3.grown hg (by omega) (fun k e => by have := (hr k e).1; omega), Nat.le_trans j4 hg.size⟩
    obtain ⟨h0, ⟨e, _⟩ | ⟨g, cap, cur, e, h3, hh, h5⟩⟩ := j2
    · cases e
    · cases e; exact ⟨h0, Or.inr ⟨_, _, cur, rfl, h3, (hg.block _ (by omega) (hne _ (by omega))).trans hh, h5⟩⟩
  case stop => intro D cc pre W _ _ h; exact h.elim
  case assign =>
    intro l v W K hK
    simp only [enc2]
    gi_wp2
    exact hK
  case body =>
    rintro l pre x W ⟨⟨j1, j2⟩, j3, j4⟩ hlen
    have hcB := j1.cell
    have hfB := j1.frozen
    have hj2 := j2.alloc (.cells #[.int .u32 (x.2 : Int)] 22)
    have hxn := cell_new W (.int .u32 (x.2 : Int)) 22
    generalize hv : wv (pre.map Prod.snd) = V at *
    have HV := Lib.hid hv
    clear hv
    gi_wp2_with (refine wpListIn_append_fits _ rfl (.tmp 31) (.tmp 33) 30 rfl w.heap.size 22 i0 1 Tryd.underlying30 hi hz1 w.heap.size pre.length n V rfl hj2 ⟨W.heap.size, 0, none⟩ 1 1 [.int .u32 (x.2 : Int)] rfl rfl (cell_one_new _ _ _) (by intro u hu; simp at hu; subst hu; rfl) (by omega) ?_; intro w7 hown7 hg7; have j7 := (j1.alloc (.cells #[.int .u32 (x.2 : Int)] 22)).kept hg7 (by simp; omega); have hc7 := j7.cell; have hf7 := j7.frozen)
    have hrow : ∀ (j : Nat) (o : Obj), some w.heap.size = some j → (W.alloc (.cells #[.int .u32 (x.2 : Int)] 22)).heap[j]? = some o → o.isCells = true := by
      rintro j o e ho
      cases e
      obtain ⟨_, ⟨e, _⟩ | ⟨g, cap, cur, e, _, hh, _⟩⟩ := hj2
      · cases e
      · cases e; rw [hh] at ho; cases ho; rfl
    have gA := World.grownBy_alloc W (.cells #[.int .u32 (x.2 : Int)] 22) none
    have gC := grown_setCell w7 ⟨G, 0, none⟩ (.slice (some ⟨w.heap.size, 0, none⟩) (pre.length + 1) n)
    have z1 := gA.size
    have z2 := hg7.size
    have z3 := gC.size
    have hB3 := B3.size
    have hblk : ∀ i, i < W.heap.size → i ≠ w.heap.size → i ≠ G → (w7.setCell ⟨G, 0, none⟩ (.slice (some ⟨w.heap.size, 0, none⟩) (pre.length + 1) n)).heap[i]? = W.heap[i]? := fun i h1 h2 h3 =>
      ((gC.block i (by omega) (fun e => by cases e; exact h3 rfl)).trans (hg7.block i (by omega) (fun e => by cases e; exact h2 rfl))).trans (gA.block i h1 (fun e => by cases e))
    have hBel : Below w.heap.size W (w7.setCell ⟨G, 0, none⟩ (.slice (some ⟨w.heap.size, 0, none⟩) (pre.length + 1) n)) :=
      (((Below.refl w.heap.size W).grown gA (by omega) (fun k e => by cases e)).grown hg7 (by omega) (fun k e => by cases e; exact Nat.le_refl _)).grown gC (by omega) (fun k e => by cases e; simp; omega)
    have hlist : wv ((pre ++ [x]).map Prod.snd) = V ++ [.int .u32 (x.2 : Int)] := by rw [← HV.out]; simp [wv]
    have hl1 : (pre ++ [x]).length = pre.length + 1 := by simp
    refine ⟨(KeepsOthers.alloc W _).trans ((KeepsOthers.of_grownBy hg7 hrow).trans (KeepsOthers.setCell _ _ _)), ⟨hBel, fun i h1 h2 => hblk i (by omega) (by omega) (by omega)⟩, ⟨?_, ?_⟩, j3.trans hBel, by omega⟩
    · rw [hl1]; exact j7.set _
    · rw [hl1, hlist]; exact owns_kept (row := some G) hown7 gC (fun e => by cases e; omega)
  case done =>
    rintro D xs W hD rfl ⟨⟨j1, j2⟩, j3, j4⟩ hK
    have hcB := j1.cell
    gi_wp2_with fail
    refine ⟨by simp, .inl ⟨_, _, rfl, run_takeDeferred hK, ?_⟩⟩
    refine ⟨_, results_tmp2 rfl _ _ _, ?_⟩
    have hDl := (Array.getElem?_eq_some_iff.1 hK).1
    have hlen := steps_len a b d c n
    have hsn := steps_snd a b d c n
    have hB3 := B3.size
    have j2' := owns_kept (row := some D) j2 (grownBy_putObj' W D (.deferred none)) (fun e => by cases e; omega)
    rw [hlen, hsn] at j2'
    obtain ⟨A', c', e', hn'⟩ := ownsRow_nw (lst_len a b d c n) (lst_lim a b d c n HcL.out) j2'
    cases e'
    exact ⟨_, _, congrArg (fun m : Nat => Ending.returned (.tuple #[.slice (some ⟨w.heap.size, 0, none⟩) m n, .int .i64 0])) hlen, hn', j3.grown (grownBy_putObj' W D _) (by omega) (fun k e => by cases e; omega)⟩
end Go.Proofs.YtonfpomgkgljiaaDoor
