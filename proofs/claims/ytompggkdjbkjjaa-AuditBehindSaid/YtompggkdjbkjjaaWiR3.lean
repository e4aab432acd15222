/- wire: the Mac that some bytes are. -/
import Derived.Test.YtompggkdjbkjjaaWiR2
namespace Go.Proofs.Ytompggkdjbkjjaa.Wi
open Go.RowKit
set_option linter.unusedVariables false
set_option maxRecDepth 100000
theorem s27 : (Try.prog.info? 77).map (·.size) = some 3 := by kernel_rfl
theorem all27 (key : Int) (A : Option Addr) (n c : Nat) : (#[Value.bool true, .int .u32 key, .slice A n c].all (·.oneCell')) = true := by simp [Value.oneCell']
theorem box27 {w : World} {g : Nat} {a b c : Value} (h : w.heap[g]? = some (.cells #[a, b, c] 77 (0, 0))) : w.cell? ⟨g, 0, none⟩ = some a ∧ w.cell? ⟨g, 1, none⟩ = some b ∧ w.cell? ⟨g, 2, none⟩ = some c ∧
    w.frozen? ⟨g, 0, none⟩ = false ∧ w.frozen? ⟨g, 1, none⟩ = false ∧ w.frozen? ⟨g, 2, none⟩ = false :=
  ⟨by simp [World.cell?, h], by simp [World.cell?, h], by simp [World.cell?, h], frozen_of_row w g 0 _ 77 h, frozen_of_row w g 1 _ 77 h, frozen_of_row w g 2 _ 77 h⟩
theorem Nb.keepb {w w' : World} {B n c : Nat} {A : Option Addr} {xs : List Nat} (h : Nb w B A n c xs) (hk : ∀ ad, A = some ad → w'.heap[ad.block]? = w.heap[ad.block]?) : Nb w' B A n c xs :=
  ⟨h.len, h.cap, h.room, h.lim, fun hn => by
    obtain ⟨b, off, e, hb, hc⟩ := h.cell hn
    exact ⟨b, off, e, hb, fun j x hx => (World.cell?_of_block (a := ⟨b, off + j, none⟩) (hk ⟨b, off, none⟩ e)).trans (hc j x hx)⟩⟩
theorem Nb.keep3 {w : World} {B n c g : Nat} {A : Option Addr} {xs : List Nat} (h : Nb w B A n c xs) (hk : ∀ ad, A = some ad → g < ad.block) (u v x : Value) : Nb (((w.setCell ⟨g, 0, none⟩ u).setCell ⟨g, 1, none⟩ v).setCell ⟨g, 2, none⟩ x) B A n c xs :=
  h.keepb fun ad e => by
    have := hk ad e
    rw [Below.heap_setCell _ _ _ _ (by dsimp only; omega), Below.heap_setCell _ _ _ _ (by dsimp only; omega), Below.heap_setCell _ _ _ _ (by dsimp only; omega)]
def MacPost (xs : List Nat) (w : World) (e : Ending) (w' : World) : Prop :=
  RowKit.Below w.heap.size w w' ∧
  ((xs.length = 0 ∧ e = .returned (.tuple #[.agg #[.bool false, .int .u32 0, .slice none 0 0], .bool true])) ∨
   ((xs.length = 4 ∨ xs.length = 20) ∧ ∃ A c, e = .returned (.tuple #[.agg #[.bool true, .int .u32 (num (xs.take 4) : Nat), .slice A (xs.length - 4) c], .bool true]) ∧ (∀ ad, A = some ad → w.heap.size ≤ ad.block) ∧ Nb w' w'.heap.size A (xs.length - 4) c (xs.drop 4)) ∨
   (xs.length ≠ 0 ∧ xs.length ≠ 4 ∧ xs.length ≠ 20 ∧ e = .returned (.tuple #[.agg #[.bool false, .int .u32 0, .slice none 0 0], .bool false])))
set_option maxHeartbeats 2000000 in
theorem mac_of_any {w : World} {B n c : Nat} {A : Option Addr} {xs : List Nat} (h : Nb w B A n c xs) (hB : B ≤ w.heap.size) (hn : n ≤ 1073741824) :
    Calls Try.prog 49 #[.slice A n c] w (MacPost xs w) := by
  have hl := h.len
  by_cases h0 : n = 0
  · subst h0
    have HL := Lib.hid hl
    clear hl h
    go_enter Try.func49, Try.ntmps49
    go_wp2_with fail
    refine bodyPost_ret (v := .tuple #[.agg #[.bool false, .int .u32 0, .slice none 0 0], .bool true]) (by simp [results, Try.results45, go_sem]) rfl ⟨?_, .inl ⟨HL.out, rfl⟩⟩
    exact (Below.refl _ _).alloc (Nat.le_refl _) _
  · by_cases h4 : n = 4 ∨ n = 20
    · obtain ⟨W, hW⟩ : ∃ W, W = w.alloc (.cells #[.bool false, .int .u32 0, .slice none 0 0] 77) := ⟨_, rfl⟩
      have hbW : RowKit.Below w.heap.size w W := by rw [hW]; exact (Below.refl _ _).alloc (Nat.le_refl _) _
      have hbox : W.heap[w.heap.size]? = some (.cells #[.bool false, .int .u32 0, .slice none 0 0] 77 (0, 0)) := by rw [hW]; exact heap_alloc_new w _
      have hlt : w.heap.size < W.heap.size := (Array.getElem?_eq_some_iff.1 hbox).1
      have hcap := h.cap
      have hA0 : pa A c 0 = A := pa_zero A c fun ad e => by
        obtain ⟨b, off, e2, _⟩ := h.cell (by omega)
        exact ⟨b, off, Option.some.inj (e.symm.trans e2)⟩
      have N1 := h.part 0 4 (by omega) (by omega)
      have N2 := h.part 4 n (by omega) (Nat.le_refl _)
      rw [hA0, List.drop_zero, Nat.sub_zero, Nat.sub_zero] at N1
      rw [List.take_of_length_le (show (xs.drop 4).length ≤ n - 4 by rw [List.length_drop, hl]; exact Nat.le_refl _)] at N2
      have g1 : ∀ W, (Instr.slice 52 (.slice A n c) none (some (.int .i64 4)) none).run Try.prog W = .ok (.slice A 4 c) W := fun W => by
        have := sl_to A n c 4 .i64 (by omega) W
        rw [hA0] at this; exact this
      have g2 : ∀ W, (Instr.slice 52 (.slice A n c) (some (.int .i64 4)) none none).run Try.prog W = .ok (.slice (pa A c 4) (n - 4) (c - 4)) W := fun W => sl_from A n c 4 .i64 (by omega) W
      have g1' : ∀ W, (Instr.sliceAt 52 (.slice A n c) none (some (.int .i64 4)) none).run Try.prog W = _ := fun W => (sl_at _ _ _ _ _ W).trans (g1 W)
      have g2' : ∀ W, (Instr.sliceAt 52 (.slice A n c) (some (.int .i64 4)) none none).run Try.prog W = _ := fun W => (sl_at _ _ _ _ _ W).trans (g2 W)
      generalize pa A c 4 = A2 at *
      have HWd := Lib.hid (fun (W' : World) (hb : RowKit.Below B w W') => word_any (w := W') (N1.below hb) (by omega))
      have HC := Lib.hid (fun (W' : World) (hb : RowKit.Below B w W') (hs : B ≤ W'.heap.size) => clone_any (w := W') (N2.below hb) hs (by omega))
      have HBW := Lib.hid hbW
      have HW := Lib.hid hW
      have HBx := Lib.hid hbox
      have HLt := Lib.hid hlt
      have HL := Lib.hid hl
      have H4 := Lib.hid h4
      have HBB := Lib.hid hB
      clear hW hbW hbox hlt N1 N2 hA0 h hcap
      generalize hkey : num (xs.take 4) = key at *
      have HKey := Lib.hid hkey
      clear hkey
      have k3 : ((n : Int) == 0) = false := by simp; omega
      have k4 : (n == 0) = false := by simp; omega
      rcases h4 with rfl | rfl
      all_goals
        go_enter Try.func49, Try.ntmps49
        go_upto_region 6 with fail
        rw [← HW.out]
        go_region_held3 (fun W => True) (trivial)
          (first
            | (go_at_call 52; refine (HWd.out _ (HBW.out.mono HBB.out).drew).mono ?_
               rintro e w3 ⟨rfl, hw3⟩; subst w3)
            | (go_at_call 57; refine (HC.out _ (HBW.out.mono HBB.out).drew (Nat.le_trans HBB.out HBW.out.size)).mono ?_
               rintro e w4 ⟨A5, c5, rfl, hn5, ha5, hb5⟩
               have HA5 := Lib.hid ha5
               have HN5 := Lib.hid hn5
               have HBx5 := Lib.hid ((hb5.block _ HLt.out).trans HBx.out)
               have HB5 := Lib.hid (bthen HBW.out (((Below.refl W.heap.size W).drew).trans hb5) (Nat.le_refl _))
               obtain ⟨z0, z1, z2, f0, f1, f2⟩ := box27 HBx5.out
               clear hn5 hb5 ha5))
      · go_wp2_with fail
        refine bodyPost_ret (v := .tuple #[.agg #[.bool true, .int .u32 (key : Int), .slice A5 0 c5], .bool true]) (by simp [results, Try.results45, go_sem, z0, z1, z2]) rfl ⟨?_, .inr (.inl ⟨by rw [HL.out]; exact .inl rfl, A5, c5, by rw [HL.out, HKey.out], fun ad e => Nat.le_of_lt (Nat.lt_of_lt_of_le HLt.out (HA5.out ad e)), ?_⟩)⟩
        · exact ((HB5.out.setCell (Nat.le_refl _) _).setCell (Nat.le_refl _) _).setCell (Nat.le_refl _) _
        · rw [HL.out]
          refine (HN5.out.keep3 (g := w.heap.size) (fun ad e => Nat.lt_of_lt_of_le HLt.out (HA5.out ad e)) _ _ _).more (by simp [World.setCell])
      · go_wp2_with fail
        refine bodyPost_ret (v := .tuple #[.agg #[.bool true, .int .u32 (key : Int), .slice A5 16 c5], .bool true]) (by simp [results, Try.results45, go_sem, z0, z1, z2]) rfl ⟨?_, .inr (.inl ⟨by rw [HL.out]; exact .inr rfl, A5, c5, by rw [HL.out, HKey.out], fun ad e => Nat.le_of_lt (Nat.lt_of_lt_of_le HLt.out (HA5.out ad e)), ?_⟩)⟩
        · exact ((HB5.out.setCell (Nat.le_refl _) _).setCell (Nat.le_refl _) _).setCell (Nat.le_refl _) _
        · rw [HL.out]
          refine (HN5.out.keep3 (g := w.heap.size) (fun ad e => Nat.lt_of_lt_of_le HLt.out (HA5.out ad e)) _ _ _).more (by simp [World.setCell])
    · have HL := Lib.hid (show xs.length ≠ 0 ∧ xs.length ≠ 4 ∧ xs.length ≠ 20 by omega)
      have k0 : (n == 0) = false := by simp; omega
      have k1 : ((n : Int) == 4) = false := by simp; omega
      have k2 : ((n : Int) == 20) = false := by simp; omega
      have k3 : ((n : Int) == 0) = false := by simp; omega
      clear hl h h0 h4
      go_enter Try.func49, Try.ntmps49
      go_wp2_with fail
      refine bodyPost_ret (v := .tuple #[.agg #[.bool false, .int .u32 0, .slice none 0 0], .bool false]) (by simp [results, Try.results45, go_sem]) rfl ⟨?_, .inr (.inr ⟨HL.out.1, HL.out.2.1, HL.out.2.2, rfl⟩)⟩
      exact (Below.refl _ _).alloc (Nat.le_refl _) _
end Go.Proofs.Ytompggkdjbkjjaa.Wi
