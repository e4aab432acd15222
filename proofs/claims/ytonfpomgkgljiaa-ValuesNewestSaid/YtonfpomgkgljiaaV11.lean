/- values.copied at any value. -/
import Derived.Test.YtonfpomgkgljiaaV10
namespace Go.Proofs.Ytonfpomgkgljiaa
open Go.RowKit
set_option linter.unusedVariables false
set_option maxRecDepth 100000

theorem nb_other {w w' : World} {s n c : Nat} {A : Option Addr} {xs : List Nat} (h : Nb w w.heap.size A n c xs) (hz : w.heap.size ≤ w'.heap.size) (hnew : 0 < n → ∃ g off, A = some ⟨g, off, none⟩ ∧ g ≠ s ∧ g ≠ s + 1)
    (hcell : ∀ b j, b ≠ s → b ≠ s + 1 → w'.cell? ⟨b, j, none⟩ = w.cell? ⟨b, j, none⟩) : Nb w' w'.heap.size A n c xs :=
  ⟨h.len, h.cap, h.room, h.lim, fun h0 => by
    obtain ⟨b, off, e, hb, hc⟩ := h.cell h0
    obtain ⟨g, off', e', g1, g2⟩ := hnew h0
    rw [e] at e'
    cases e'
    exact ⟨b, off, e, by omega, fun j x hx => (hcell b _ g1 g2).trans (hc j x hx)⟩⟩
set_option maxHeartbeats 4000000 in
theorem copied_any {w : World} {v : Val} {A A2 : Option Addr} {n c n2 c2 : Nat} (h : Vb w w.heap.size v A n c A2 n2 c2) (hn : n ≤ 1000000) (hn2 : n2 ≤ 1000000) :
    Calls Try.prog 29 #[.agg #[.int .u32 (v.ts : Int), .int .u32 (v.fs : Int), .slice A n c, .slice A2 n2 c2]] w fun e w' => ∃ A' c' A2' c2', e = .returned (.agg #[.int .u32 (v.ts : Int), .int .u32 (v.fs : Int), .slice A' n c', .slice A2' n2 c2']) ∧ Vb w' w'.heap.size v A' n c' A2' n2 c2' ∧ Below w.heap.size w w' := by
  obtain ⟨w2, hw2⟩ : ∃ w2, w2 = (w.alloc (.cells #[.int .u32 (v.ts : Int), .int .u32 (v.fs : Int), .slice A n c, .slice A2 n2 c2] 33)).alloc (ObjV 0) := ⟨_, rfl⟩
  have x2 : BoxAt w2 w.heap.size v.ts v.fs (.slice A n c) (.slice A2 n2 c2) := by rw [hw2]; exact (BoxAt.new w _ _ _ _).alloc _
  have y2 : BoxAt w2 (w.heap.size + 1) 0 0 (.slice none 0 0) (.slice none 0 0) := by
    rw [hw2]
    have := BoxAt.new (w.alloc (.cells #[.int .u32 (v.ts : Int), .int .u32 (v.fs : Int), .slice A n c, .slice A2 n2 c2] 33)) 0 0 (.slice none 0 0) (.slice none 0 0)
    rwa [World.size_alloc] at this
  have b2 : Below w.heap.size w w2 := by rw [hw2]; exact ((Below.refl _ _).alloc (Nat.le_refl _) _).alloc (by simp) _
  have s2 : w2.heap.size = w.heap.size + 2 := by rw [hw2]; simp
  have HW := Lib.hid hw2
  have hd := h.d
  have hs := h.s
  have C1 := Lib.hid (fun (w' : World) (h1 : Nb w' w'.heap.size A n c v.data) => show Calls Try.prog 35 #[.slice A n c] w' (fun e w'' => ∃ A' c', e = .returned (.slice A' n c') ∧ Nb w'' w''.heap.size A' n c' v.data ∧ (0 < n → ∃ g off, A' = some ⟨g, off, none⟩ ∧ w'.heap.size ≤ g) ∧ Below w'.heap.size w' w'') from (clone_any h1 (by omega)).mono (fun e w'' ⟨A', c', h1, h2, h4, h3⟩ => ⟨A', c', h1, h2, h4, h3⟩))
  have C2 := Lib.hid (fun (w' : World) (h1 : Nb w' w'.heap.size A2 n2 c2 v.sig) => show Calls Try.prog 35 #[.slice A2 n2 c2] w' (fun e w'' => ∃ A' c', e = .returned (.slice A' n2 c') ∧ Nb w'' w''.heap.size A' n2 c' v.sig ∧ (0 < n2 → ∃ g off, A' = some ⟨g, off, none⟩ ∧ w'.heap.size ≤ g) ∧ Below w'.heap.size w' w'') from (clone_any h1 (by omega)).mono (fun e w'' ⟨A', c', h1, h2, h4, h3⟩ => ⟨A', c', h1, h2, h4, h3⟩))
  generalize v.ts = ts at *
  generalize v.fs = fs at *
  clear hw2 h
  go_enter Try.func29, Try.ntmps29
  go_wp2
  change Code.wp _ _ _ _ ((w.alloc (.cells #[.int .u32 (ts : Int), .int .u32 (fs : Int), .slice A n c, .slice A2 n2 c2] 33)).alloc (ObjV 0))
  rw [← HW.out]
  have xd : BoxAt w2.drew w.heap.size ts fs (.slice A n c) (.slice A2 n2 c2) := x2
  have yd : BoxAt w2.drew (w.heap.size + 1) 0 0 (.slice none 0 0) (.slice none 0 0) := y2
  have Bd : Below w.heap.size w w2.drew := b2.drew
  obtain ⟨a0, a1, a2, a3⟩ := xd.cells
  have D0 := Lib.hid (hd.far Bd)
  have S0 := Lib.hid (hs.far Bd)
  have Hs2 := Lib.hid (show w2.drew.heap.size = w.heap.size + 2 from s2)
  clear x2 y2 b2 s2 HW hd hs
  have Bds := Bd.size
  have Hse0 : Hid (w.heap.size = w.heap.size) := Lib.hid rfl
  obtain ⟨s, hse⟩ : ∃ s, w.heap.size = s := ⟨_, rfl⟩
  rw [hse] at xd yd Bd Bds a0 a1 a2 a3 Hs2
  have Hse := Lib.hid hse
  clear hse Hse0
  rw [Hse.out]
  go_region_with (first
    | (go_at_call 35; with_reducible refine (C1.out _ D0.out).mono ?_; rintro e w5 ⟨A5, c5, rfl, n5, w5n, b5⟩
       have x5 := xd.below b5
       have y5 := yd.below b5
       obtain ⟨p0, p1, p2, p3⟩ := x5.cells
       have S5 := Lib.hid (S0.out.far b5)
       have N5 := Lib.hid n5
       have W5 := Lib.hid w5n
       have B5 := Bd.trans (b5.mono Bds)
       have B5s := Nat.le_trans Bds b5.size)
    | (go_at_call 35; refine (C2.out _ S5.out).mono ?_; rintro e w6 ⟨A6, c6, rfl, n6, w6n, b6⟩
       have x6 := x5.below b6
       have y6 := y5.below b6
       obtain ⟨q0, q1, q2, q3⟩ := x6.cells
       have f2 := x6.froz 2
       have f3 := x6.froz 3
       have r2 := x6.set2 (.slice A5 n c5)
       have r3 := x6.set3 (.slice A6 n2 c6)
       obtain ⟨k0, k1, k2, k3⟩ := r2.cells
       obtain ⟨l0, l1, l2, l3⟩ := r3.cells
       have g3 := r2.froz 3
       have g2 := r3.froz 2
       have N6 := Lib.hid (N5.out.far b6)
       have M6 := Lib.hid n6
       have W6 := Lib.hid w6n
       have B6 := B5.trans (b6.mono B5s)))
  all_goals
    have z7 := r2.set3 (.slice A6 n2 c6)
    have h67 : ∀ k, k ≠ s → ((w6.setCell ⟨s, 2, none⟩ (.slice A5 n c5)).setCell ⟨s, 3, none⟩ (.slice A6 n2 c6)).heap[k]? = w6.heap[k]? := fun k hk => (Below.heap_setCell _ _ _ k (fun e => hk e)).trans (Below.heap_setCell _ _ _ k (fun e => hk e))
    have ho : ((w6.setCell ⟨s, 2, none⟩ (.slice A5 n c5)).setCell ⟨s, 3, none⟩ (.slice A6 n2 c6)).heap[s + 1]? = some (.cells #[.int .u32 0, .int .u32 0, .slice none 0 0, .slice none 0 0] 33 (0, 0)) := (h67 _ (by omega)).trans y6
    have B7 : Below s w ((w6.setCell ⟨s, 2, none⟩ (.slice A5 n c5)).setCell ⟨s, 3, none⟩ (.slice A6 n2 c6)) := (B6.setCell (p := ⟨s, 2, none⟩) (Nat.le_refl _) _).setCell (p := ⟨s, 3, none⟩) (Nat.le_refl _) _
    have z67 : w6.heap.size ≤ ((w6.setCell ⟨s, 2, none⟩ (.slice A5 n c5)).setCell ⟨s, 3, none⟩ (.slice A6 n2 c6)).heap.size := by simp [World.setCell]
    have hlow : ∀ b, b ≠ s → ∀ j, ((w6.setCell ⟨s, 2, none⟩ (.slice A5 n c5)).setCell ⟨s, 3, none⟩ (.slice A6 n2 c6)).cell? ⟨b, j, none⟩ = w6.cell? ⟨b, j, none⟩ := fun b hb j => cell_block (h67 b hb)
    generalize (w6.setCell ⟨s, 2, none⟩ (.slice A5 n c5)).setCell ⟨s, 3, none⟩ (.slice A6 n2 c6) = w7 at *
    obtain ⟨m0, m1, m2, m3⟩ := z7.cells
    have hr1 := setRow_heap w7 (s + 1) _ #[.int .u32 (ts : Int), .int .u32 (fs : Int), .slice A5 n c5, .slice A6 n2 c6] 33 (0, 0) ho
    clear p0 p1 p2 p3 q0 q1 q2 q3 k0 k1 k2 k3 l0 l1 l2 l3 f2 f3 g2 g3 a0 a1 a2 a3
    go_wp2_with (refine wpList_store_row rfl rfl 33 (.tmp 2) (.tmp 11) rfl (s + 1) rfl [.int .u32 (ts : Int), .int .u32 (fs : Int), .slice A5 n c5, .slice A6 n2 c6] rfl 33 _ ho (by intro v hv; simp at hv; rcases hv with rfl | rfl | rfl | rfl <;> rfl) rfl (by kernel_rfl) ?_)
    have hcell : ∀ b j, b ≠ s → b ≠ s + 1 → (w7.setRow (s + 1) #[.int .u32 (ts : Int), .int .u32 (fs : Int), .slice A5 n c5, .slice A6 n2 c6]).cell? ⟨b, j, none⟩ = w6.cell? ⟨b, j, none⟩ := fun b j h1 h2 => (cell_block (setRow_other _ _ _ _ h2)).trans (hlow b h1 j)
    have hz8 : w6.heap.size ≤ (w7.setRow (s + 1) #[.int .u32 (ts : Int), .int .u32 (fs : Int), .slice A5 n c5, .slice A6 n2 c6]).heap.size := by simpa [World.setRow] using z67
    have hb5z := b5.size
    have hs2' := Hs2.out
    refine bodyPost_ret (v := .agg #[.int .u32 (ts : Int), .int .u32 (fs : Int), .slice A5 n c5, .slice A6 n2 c6]) (results_cell_row rfl _ _ (s + 1) 33 _ (0, 0) _ rfl hr1 Try.underlying33 rfl (by kernel_rfl)) rfl ⟨A5, c5, A6, c6, rfl, ⟨?_, ?_⟩, by rw [Hse.out]; exact below_setRow B7 (Nat.le_succ _) _⟩
    · exact nb_other N6.out hz8 (fun h0 => by obtain ⟨g, off, e, hg⟩ := W5.out h0; exact ⟨g, off, e, by omega, by omega⟩) hcell
    · exact nb_other M6.out hz8 (fun h0 => by obtain ⟨g, off, e, hg⟩ := W6.out h0; exact ⟨g, off, e, by omega, by omega⟩) hcell
end Go.Proofs.Ytonfpomgkgljiaa
