/- wire: the Mac that some bytes are. wire: the head that some bytes begin with. wire.fields: the fields behind the head come one by one. A range over a function whose body goes on, or returns for the function around it. wire: the field that some bytes are. wire: what parse answers of bytes that are no packet; the iterator over the fields. wire: what parse has read behind some fields, and where it lies. wire: what is written is what is read: numbers, texts, fields. wire: what is written is what is read: rows of fields, heads. wire.parse: a packet is read, or the first fault is told. wire: what is written is what is read: packets. wire: what parse answers, in one form. wire.Read: what is read of bytes, and the fault. wire: when two packets say the same. -/
import Derived.Test.YthipdagebijbiaaGreatDoorWi
import Derived.StillTailTactics
import Derived.Laws.Tables
import Derived.Laws.Rows
import Derived.Laws.CopyOwn
import Derived.RangeFuncNested
import Derived.RangeFuncBound
import Derived.RangeFuncCalls
import Derived.RangeFuncLeaves
import Derived.RangeFuncFrom
import Derived.Shelf.Abstract
import Derived.Shelf.RegionOpen
import Derived.OwnWalkIn
import Derived.TacticsInMore
import Derived.LoopNIn
import Derived.LoopIn
import Derived.Deep.Cut
import Derived.Test.YthipdagebijbiaaGreatDoorWiW5
import Derived.Maps.OwnIn
import Derived.Test.YthipdagebijbiaaGreatDoorWiW8
import Derived.Deep.AppendLies
import Derived.Lib.Bytes
namespace Go.Proofs.YthipdagebijbiaaGreatDoor.Wi
open Go.RowKit
set_option linter.unusedVariables false
set_option maxRecDepth 100000
theorem s27 : (Tryz.prog.info? 49).map (·.size) = some 3 := by kernel_rfl
theorem all27 (key : Int) (A : Option Addr) (n c : Nat) : (#[Value.bool true, .int .u32 key, .slice A n c].all (·.oneCell')) = true := by simp [Value.oneCell']
theorem box27 {w : World} {g : Nat} {a b c : Value} (h : w.heap[g]? = some (.cells #[a, b, c] 49 (0, 0))) : w.cell? ⟨g, 0, none⟩ = some a ∧ w.cell? ⟨g, 1, none⟩ = some b ∧ w.cell? ⟨g, 2, none⟩ = some c ∧
    w.frozen? ⟨g, 0, none⟩ = false ∧ w.frozen? ⟨g, 1, none⟩ = false ∧ w.frozen? ⟨g, 2, none⟩ = false :=
  ⟨by simp [World.cell?, h], by simp [World.cell?, h], by simp [World.cell?, h], frozen_of_row w g 0 _ 49 h, frozen_of_row w g 1 _ 49 h, frozen_of_row w g 2 _ 49 h⟩
theorem Nb.keepb {w w' : World} {B n c : Nat} {A : Option Addr} {xs : List Nat} (h : Nb w B A n c xs) (hk : ∀ ad, A = some ad → w'.heap[ad.block]? = w.heap[ad.block]?) : Nb w' B A n c xs :=
  ⟨h.len, h.cap, h.room, h.lim, fun hn => by
    obtain ⟨b, off, e, hb, hc⟩ := h.cell hn
    exact ⟨b, off, e, hb, fun j x hx => (World.cell?_of_block (a := ⟨b, off + j, none⟩) (hk ⟨b, off, none⟩ e)).trans (hc j x hx)⟩⟩
theorem Nb.keep3 {w : World} {B n c g : Nat} {A : Option Addr} {xs : List Nat} (h : Nb w B A n c xs) (hk : ∀ ad, A = some ad → g < ad.block) (u v x : Value) : Nb (((w.setCell ⟨g, 0, none⟩ u).setCell ⟨g, 1, none⟩ v).setCell ⟨g, 2, none⟩ x) B A n c xs :=
  h.keepb fun ad e => by
    have := hk ad e
    rw [Below.heap_setCell _ _ _ _ (by dsimp only; omega), Below.heap_setCell _ _ _ _ (by dsimp only; omega), Below.heap_setCell _ _ _ _ (by dsimp only; omega)]
def MacPost (xs : List Nat) (w : World) (e : Ending) (w' : World) : Prop :=
  RowKit.Below w.heap.size w w' ∧
  ((xs.length = 0 ∧ e = .returned (.tuple #[.agg #[.bool false, .int .u32 0, .slice none 0 0], .bool true])) ∨
   ((xs.length = 4 ∨ xs.length = 20) ∧ ∃ A c, e = .returned (.tuple #[.agg #[.bool true, .int .u32 (num (xs.take 4) : Nat), .slice A (xs.length - 4) c], .bool true]) ∧ (∀ ad, A = some ad → w.heap.size ≤ ad.block) ∧ Nb w' w'.heap.size A (xs.length - 4) c (xs.drop 4)) ∨
   (xs.length ≠ 0 ∧ xs.length ≠ 4 ∧ xs.length ≠ 20 ∧ e = .returned (.tuple #[.agg #[.bool false, .int .u32 0, .slice none 0 0], .bool false])))
set_option maxHeartbeats 2000000 in
theorem mac_of_any {w : World} {B n c : Nat} {A : Option Addr} {xs : List Nat} (h : Nb w B A n c xs) (hB : B ≤ w.heap.size) (hn : n ≤ 1073741824) :
    Calls Tryz.prog 84 #[.slice A n c] w (MacPost xs w) := by
  have hl := h.len
  by_cases h0 : n = 0
  · subst h0
    have HL := Lib.hid hl
    clear hl h
    go_enter Tryz.func84, Tryz.ntmps84
    go_wp2_with fail
    refine bodyPost_ret (v := .tuple #[.agg #[.bool false, .int .u32 0, .slice none 0 0], .bool true]) (by simp [results, Tryz.results45, go_sem]) rfl ⟨?_, .inl ⟨HL.out, rfl⟩⟩
    exact (Below.refl _ _).alloc (Nat.le_refl _) _
  · by_cases h4 : n = 4 ∨ n = 20
    · obtain ⟨W, hW⟩ : ∃ W, W = w.alloc (.cells #[.bool false, .int .u32 0, .slice none 0 0] 49) := ⟨_, rfl⟩
      have hbW : RowKit.Below w.heap.size w W := by rw [hW]; exact (Below.refl _ _).alloc (Nat.le_refl _) _
      have hbox : W.heap[w.heap.size]? = some (.cells #[.bool false, .int .u32 0, .slice none 0 0] 49 (0, 0)) := by rw [hW]; exact heap_alloc_new w _
      have hlt : w.heap.size < W.heap.size := (Array.getElem?_eq_some_iff.1 hbox).1
      have hcap := h.cap
      have hA0 : pa A c 0 = A := pa_zero A c fun ad e => by
        obtain ⟨b, off, e2, _⟩ := h.cell (by omega)
        exact ⟨b, off, Option.some.inj (e.symm.trans e2)⟩
      have N1 := h.part 0 4 (by omega) (by omega)
      have N2 := h.part 4 n (by omega) (Nat.le_refl _)
      rw [hA0, List.drop_zero, Nat.sub_zero, Nat.sub_zero] at N1
      rw [List.take_of_length_le (show (xs.drop 4).length ≤ n - 4 by rw [List.length_drop, hl]; exact Nat.le_refl _)] at N2
      have g1 : ∀ W, (Instr.slice 23 (.slice A n c) none (some (.int .i64 4)) none).run Tryz.prog W = .ok (.slice A 4 c) W := fun W => by
        have := sl_to A n c 4 .i64 (by omega) W
        rw [hA0] at this; exact this
      have g2 : ∀ W, (Instr.slice 23 (.slice A n c) (some (.int .i64 4)) none none).run Tryz.prog W = .ok (.slice (pa A c 4) (n - 4) (c - 4)) W := fun W => sl_from A n c 4 .i64 (by omega) W
      have g1' : ∀ W, (Instr.sliceAt 23 (.slice A n c) none (some (.int .i64 4)) none).run Tryz.prog W = _ := fun W => (sl_at _ _ _ _ _ W).trans (g1 W)
      have g2' : ∀ W, (Instr.sliceAt 23 (.slice A n c) (some (.int .i64 4)) none none).run Tryz.prog W = _ := fun W => (sl_at _ _ _ _ _ W).trans (g2 W)
      generalize pa A c 4 = A2 at *
      have HWd := Lib.hid (fun (W' : World) (hb : RowKit.Below B w W') => word_any (w := W') (N1.below hb) (by omega))
      have HC := Lib.hid (fun (W' : World) (hb : RowKit.Below B w W') (hs : B ≤ W'.heap.size) => clone_any (w := W') (N2.below hb) hs (by omega))
      have HBW := Lib.hid hbW
      have HW := Lib.hid hW
      have HBx := Lib.hid hbox
      have HLt := Lib.hid hlt
      have HL := Lib.hid hl
      have H4 := Lib.hid h4
      have HBB := Lib.hid hB
      clear hW hbW hbox hlt N1 N2 hA0 h hcap
      generalize hkey : num (xs.take 4) = key at *
      have HKey := Lib.hid hkey
      clear hkey
      have k3 : ((n : Int) == 0) = false := by simp; omega
      have k4 : (n == 0) = false := by simp; omega
      rcases h4 with rfl | rfl
      all_goals
        go_enter Tryz.func84, Tryz.ntmps84
        go_upto_region 6 with fail
        rw [← HW.out]
        go_region_held3 (fun W => True) (trivial)
          (first
            | (go_at_call 105; refine (HWd.out _ (HBW.out.mono HBB.out).drew).mono ?_
               rintro e w3 ⟨rfl, hw3⟩; subst w3)
            | (go_at_call 29; refine (HC.out _ (HBW.out.mono HBB.out).drew (Nat.le_trans HBB.out HBW.out.size)).mono ?_
               rintro e w4 ⟨A5, c5, rfl, hn5, ha5, hb5⟩
               have HA5 := Lib.hid ha5
               have HN5 := Lib.hid hn5
               have HBx5 := Lib.hid ((hb5.block _ HLt.out).trans HBx.out)
               have HB5 := Lib.hid (bthen HBW.out (((Below.refl W.heap.size W).drew).trans hb5) (Nat.le_refl _))
               obtain ⟨z0, z1, z2, f0, f1, f2⟩ := box27 HBx5.out
               clear hn5 hb5 ha5))
      · go_wp2_with fail
        refine bodyPost_ret (v := .tuple #[.agg #[.bool true, .int .u32 (key : Int), .slice A5 0 c5], .bool true]) (by simp [results, Tryz.results45, go_sem, z0, z1, z2]) rfl ⟨?_, .inr (.inl ⟨by rw [HL.out]; exact .inl rfl, A5, c5, by rw [HL.out, HKey.out], fun ad e => Nat.le_of_lt (Nat.lt_of_lt_of_le HLt.out (HA5.out ad e)), ?_⟩)⟩
        · exact ((HB5.out.setCell (Nat.le_refl _) _).setCell (Nat.le_refl _) _).setCell (Nat.le_refl _) _
        · rw [HL.out]
          refine (HN5.out.keep3 (g := w.heap.size) (fun ad e => Nat.lt_of_lt_of_le HLt.out (HA5.out ad e)) _ _ _).more (by simp [World.setCell])
      · go_wp2_with fail
        refine bodyPost_ret (v := .tuple #[.agg #[.bool true, .int .u32 (key : Int), .slice A5 16 c5], .bool true]) (by simp [results, Tryz.results45, go_sem, z0, z1, z2]) rfl ⟨?_, .inr (.inl ⟨by rw [HL.out]; exact .inr rfl, A5, c5, by rw [HL.out, HKey.out], fun ad e => Nat.le_of_lt (Nat.lt_of_lt_of_le HLt.out (HA5.out ad e)), ?_⟩)⟩
        · exact ((HB5.out.setCell (Nat.le_refl _) _).setCell (Nat.le_refl _) _).setCell (Nat.le_refl _) _
        · rw [HL.out]
          refine (HN5.out.keep3 (g := w.heap.size) (fun ad e => Nat.lt_of_lt_of_le HLt.out (HA5.out ad e)) _ _ _).more (by simp [World.setCell])
    · have HL := Lib.hid (show xs.length ≠ 0 ∧ xs.length ≠ 4 ∧ xs.length ≠ 20 by omega)
      have k0 : (n == 0) = false := by simp; omega
      have k1 : ((n : Int) == 4) = false := by simp; omega
      have k2 : ((n : Int) == 20) = false := by simp; omega
      have k3 : ((n : Int) == 0) = false := by simp; omega
      clear hl h h0 h4
      go_enter Tryz.func84, Tryz.ntmps84
      go_wp2_with fail
      refine bodyPost_ret (v := .tuple #[.agg #[.bool false, .int .u32 0, .slice none 0 0], .bool false]) (by simp [results, Tryz.results45, go_sem]) rfl ⟨?_, .inr (.inr ⟨HL.out.1, HL.out.2.1, HL.out.2.2, rfl⟩)⟩
      exact (Below.refl _ _).alloc (Nat.le_refl _) _
end Go.Proofs.YthipdagebijbiaaGreatDoor.Wi
namespace Go.Proofs.YthipdagebijbiaaGreatDoor.Wi
open Go.RowKit
set_option linter.unusedVariables false
set_option maxRecDepth 100000
theorem s29 : (Tryz.prog.info? 51).map (·.size) = some 17 := by kernel_rfl
/-- a packet's cells -/
abbrev pkC (p : Pk) : Array Value := #[.int .i64 p.h.lp, .int .i64 p.h.ve, .int .i64 p.h.mo, .int .i64 p.h.st, .int .i64 p.h.po, .int .i64 p.h.pr, .int .u32 (p.h.dl : Int), .int .u32 (p.h.di : Int), .int .u32 (p.h.rf : Int), .int .u64 (p.h.re : Int), .int .u64 (p.h.og : Int), .int .u64 (p.h.rc : Int), .int .u64 (p.h.xm : Int), .slice p.A p.n p.c, .bool p.m.has, .int .u32 (p.m.key : Int), .slice p.m.A p.m.n p.m.c]
theorem pk_all (p : Pk) : ((pkC p).all (·.oneCell')) = true := by simp [Value.oneCell']
/-- the number of some bytes within others -/
def nm (xs : List Nat) (i k : Nat) : Nat := num ((xs.drop i).take k)
def sg (x : Nat) : Int := if x < 128 then x else (x : Int) - 256
def hdOf (xs : List Nat) : Hd := ⟨(xs.getD 0 0 / 64 : Nat), (xs.getD 0 0 / 8 % 8 : Nat), (xs.getD 0 0 % 8 : Nat), (xs.getD 1 0 : Nat), (xs.getD 2 0 : Nat), sg (xs.getD 3 0), nm xs 4 4, nm xs 8 4, nm xs 12 4, nm xs 16 8, nm xs 24 8, nm xs 32 8, nm xs 40 8⟩
def m0 : Mc := ⟨false, 0, none, 0, 0⟩
theorem Nb.word {w : World} {B n c : Nat} {A : Option Addr} {xs : List Nat} (h : Nb w B A n c xs) (i : Nat) (hi : i + 4 ≤ n) {W : World} (hb : ∀ ad, A = some ad → W.heap[ad.block]? = w.heap[ad.block]?) :
    Calls Tryz.prog 105 #[.slice (pa A c i) 4 (c - i)] W fun e w' => e = .returned (.int .u32 (nm xs i 4 : Nat)) ∧ w' = W := by
  have := (h.keepb hb).part i (i + 4) (by omega) hi
  rw [show i + 4 - i = 4 by omega] at this
  exact word_any this (by omega)
theorem Nb.number {w : World} {B n c : Nat} {A : Option Addr} {xs : List Nat} (h : Nb w B A n c xs) (i k : Nat) (hi : i + k ≤ n) (hk : k ≤ 8) {W : World} (hb : ∀ ad, A = some ad → W.heap[ad.block]? = w.heap[ad.block]?) :
    Calls Tryz.prog 106 #[.slice (pa A c i) k (c - i)] W fun e w' => e = .returned (.int .u64 (nm xs i k : Nat)) ∧ w' = W := by
  have := (h.keepb hb).part i (i + k) (by omega) hi
  rw [show i + k - i = k by omega] at this
  exact number_any this hk
theorem top2 (x : Nat) (h : x < 256) : IntKind.i64.wrap ((x : Int) / 64) = ((x / 64 : Nat) : Int) := by rw [IntKind.wrap_i64]; omega
theorem mid3 (x : Nat) (h : x < 256) : IntKind.i64.wrap (bits .and .u8 ((x : Int) / 8) 7) = ((x / 8 % 8 : Nat) : Int) := by
  rw [show ((x : Int) / 8) = ((x / 8 : Nat) : Int) by omega, show (7 : Int) = ((7 : Nat) : Int) from rfl, u8_and_nat _ _ (by omega) (by omega), nat_mask3, IntKind.wrap_i64]; omega
theorem low3 (x : Nat) (h : x < 256) : IntKind.i64.wrap (bits .and .u8 (x : Int) 7) = ((x % 8 : Nat) : Int) := by
  rw [show (7 : Int) = ((7 : Nat) : Int) from rfl, u8_and_nat _ _ (by omega) (by omega), nat_mask3, IntKind.wrap_i64]; omega
theorem byte_i (x : Nat) (h : x < 256) : IntKind.i64.wrap (x : Int) = (x : Int) := by rw [IntKind.wrap_i64]; omega
theorem byte_s (x : Nat) (h : x < 256) : IntKind.i64.wrap (IntKind.i8.wrap (x : Int)) = sg x := by
  have e : IntKind.i8.wrap (x : Int) = sg x := by
    simp [IntKind.wrap, IntKind.bits, IntKind.signed]
    unfold sg
    split <;> omega
  rw [e, IntKind.wrap_i64]; unfold sg; split <;> omega
set_option maxHeartbeats 4000000 in
theorem head_of_any {w : World} {B n c : Nat} {A : Option Addr} {xs : List Nat} (h : Nb w B A n c xs) (hB : B ≤ w.heap.size) (hn : 48 ≤ n) :
    Calls Tryz.prog 78 #[.slice A n c] w fun e w' => e = .returned (pkV ⟨hdOf xs, none, 0, 0, m0⟩) ∧ RowKit.Below w.heap.size w w' := by
  have hcap := h.cap
  have hl := h.len
  obtain ⟨b, off, rfl, hb, hc⟩ := h.cell (by omega)
  have z : ∀ j, j < 48 → w.cell? ⟨b, off + j, none⟩ = some (.int .u8 (xs.getD j 0 : Nat)) := fun j hj => by
    apply hc
    rw [List.getD_eq_getElem?_getD]
    rw [List.getElem?_eq_getElem (by omega)]; rfl
  have z0 := z 0 (by omega)
  have z1 := z 1 (by omega)
  have z2 := z 2 (by omega)
  have z3 := z 3 (by omega)
  have H4 := Lib.hid (fun W hb => h.word (W := W) 4 (by omega) hb)
  have H8 := Lib.hid (fun W hb => h.word (W := W) 8 (by omega) hb)
  have H12 := Lib.hid (fun W hb => h.word (W := W) 12 (by omega) hb)
  have H16 := Lib.hid (fun W hb => h.number (W := W) 16 8 (by omega) (by omega) hb)
  have H24 := Lib.hid (fun W hb => h.number (W := W) 24 8 (by omega) (by omega) hb)
  have H32 := Lib.hid (fun W hb => h.number (W := W) 32 8 (by omega) (by omega) hb)
  have H40 := Lib.hid (fun W hb => h.number (W := W) 40 8 (by omega) (by omega) hb)
  have sl : ∀ i j : Nat, i ≤ j → j ≤ c → ∀ W, (Instr.sliceAt 23 (.slice (some ⟨b, off, none⟩) n c) (some (.int .i64 (i : Int))) (some (.int .i64 (j : Int))) none).run Tryz.prog W = .ok (.slice (pa (some ⟨b, off, none⟩) c i) (j - i) (c - i)) W := fun i j h1 h2 W => (sl_at _ _ _ _ _ W).trans (sl_both _ _ _ _ _ _ _ h1 h2 W)
  have s4 : ∀ W, (Instr.sliceAt 23 (.slice (some ⟨b, off, none⟩) n c) (some (.int .i64 4)) (some (.int .i64 8)) none).run Tryz.prog W = .ok (.slice (pa (some ⟨b, off, none⟩) c 4) 4 (c - 4)) W := sl 4 8 (by omega) (by omega)
  have s8 : ∀ W, (Instr.sliceAt 23 (.slice (some ⟨b, off, none⟩) n c) (some (.int .i64 8)) (some (.int .i64 12)) none).run Tryz.prog W = .ok (.slice (pa (some ⟨b, off, none⟩) c 8) 4 (c - 8)) W := sl 8 12 (by omega) (by omega)
  have s12 : ∀ W, (Instr.sliceAt 23 (.slice (some ⟨b, off, none⟩) n c) (some (.int .i64 12)) (some (.int .i64 16)) none).run Tryz.prog W = .ok (.slice (pa (some ⟨b, off, none⟩) c 12) 4 (c - 12)) W := sl 12 16 (by omega) (by omega)
  have s16 : ∀ W, (Instr.sliceAt 23 (.slice (some ⟨b, off, none⟩) n c) (some (.int .i64 16)) (some (.int .i64 24)) none).run Tryz.prog W = .ok (.slice (pa (some ⟨b, off, none⟩) c 16) 8 (c - 16)) W := sl 16 24 (by omega) (by omega)
  have s24 : ∀ W, (Instr.sliceAt 23 (.slice (some ⟨b, off, none⟩) n c) (some (.int .i64 24)) (some (.int .i64 32)) none).run Tryz.prog W = .ok (.slice (pa (some ⟨b, off, none⟩) c 24) 8 (c - 24)) W := sl 24 32 (by omega) (by omega)
  have s32 : ∀ W, (Instr.sliceAt 23 (.slice (some ⟨b, off, none⟩) n c) (some (.int .i64 32)) (some (.int .i64 40)) none).run Tryz.prog W = .ok (.slice (pa (some ⟨b, off, none⟩) c 32) 8 (c - 32)) W := sl 32 40 (by omega) (by omega)
  have s40 : ∀ W, (Instr.sliceAt 23 (.slice (some ⟨b, off, none⟩) n c) (some (.int .i64 40)) (some (.int .i64 48)) none).run Tryz.prog W = .ok (.slice (pa (some ⟨b, off, none⟩) c 40) 8 (c - 40)) W := sl 40 48 (by omega) (by omega)
  have k0 : 0 < n := by omega
  have k1 : (1 : Int) < (n : Int) := by omega
  have k2 : (2 : Int) < (n : Int) := by omega
  have k3 : (3 : Int) < (n : Int) := by omega
  have hz : ∀ W : World, (Go.sizeOf 5).run Tryz.prog W = .ok 1 W := fun W => by kernel_rfl
  have HV := Lib.hid (show hdOf xs = ⟨(xs.getD 0 0 / 64 : Nat), (xs.getD 0 0 / 8 % 8 : Nat), (xs.getD 0 0 % 8 : Nat), (xs.getD 1 0 : Nat), (xs.getD 2 0 : Nat), sg (xs.getD 3 0), nm xs 4 4, nm xs 8 4, nm xs 12 4, nm xs 16 8, nm xs 24 8, nm xs 32 8, nm xs 40 8⟩ from rfl)
  have q1 := top2 _ (h.lim.get (by omega) 0)
  have q2 := mid3 _ (h.lim.get (by omega) 0)
  have q3 := low3 _ (h.lim.get (by omega) 0)
  have q4 := byte_i _ (h.lim.get (by omega) 1)
  have q5 := byte_i _ (h.lim.get (by omega) 2)
  have q6 := byte_s _ (h.lim.get (by omega) 3)
  clear sl hc z
  generalize xs.getD 0 0 = x0 at *
  generalize xs.getD 1 0 = x1 at *
  generalize xs.getD 2 0 = x2 at *
  generalize xs.getD 3 0 = x3 at *
  generalize hdOf xs = hd at *
  go_enter Tryz.func78, Tryz.ntmps78
  go_upto_region 1 with fail
  obtain ⟨W, hW⟩ : ∃ W, W = w.alloc (.cells #[.int .i64 0, .int .i64 0, .int .i64 0, .int .i64 0, .int .i64 0, .int .i64 0, .int .u32 0, .int .u32 0, .int .u32 0, .int .u64 0, .int .u64 0, .int .u64 0, .int .u64 0, .slice none 0 0, .bool false, .int .u32 0, .slice none 0 0] 51) := ⟨_, rfl⟩
  have hbW : RowKit.Below w.heap.size w W := by rw [hW]; exact (Below.refl _ _).alloc (Nat.le_refl _) _
  have hbox : W.heap[w.heap.size]? = some (.cells #[.int .i64 0, .int .i64 0, .int .i64 0, .int .i64 0, .int .i64 0, .int .i64 0, .int .u32 0, .int .u32 0, .int .u32 0, .int .u64 0, .int .u64 0, .int .u64 0, .int .u64 0, .slice none 0 0, .bool false, .int .u32 0, .slice none 0 0] 51 (0, 0)) := by rw [hW]; exact heap_alloc_new w _
  rw [← hW]
  have hk : ∀ ad, some ({ block := b, off := off } : Addr) = some ad → W.drew.heap[ad.block]? = w.heap[ad.block]? := fun ad e => by
    obtain rfl := Option.some.inj e
    exact hbW.block b (by omega)
  have y0 : W.drew.cell? ⟨b, off, none⟩ = some (.int .u8 (x0 : Nat)) := (World.cell?_of_block (a := ⟨b, off, none⟩) (hk _ rfl)).trans z0
  have y1 : W.drew.cell? ⟨b, off + 1, none⟩ = some (.int .u8 (x1 : Nat)) := (World.cell?_of_block (a := ⟨b, off + 1, none⟩) (hk ⟨b, off, none⟩ rfl)).trans z1
  have y2 : W.drew.cell? ⟨b, off + 2, none⟩ = some (.int .u8 (x2 : Nat)) := (World.cell?_of_block (a := ⟨b, off + 2, none⟩) (hk ⟨b, off, none⟩ rfl)).trans z2
  have y3 : W.drew.cell? ⟨b, off + 3, none⟩ = some (.int .u8 (x3 : Nat)) := (World.cell?_of_block (a := ⟨b, off + 3, none⟩) (hk ⟨b, off, none⟩ rfl)).trans z3
  have C4 := H4.out W.drew hk
  have C8 := H8.out W.drew hk
  have C12 := H12.out W.drew hk
  have C16 := H16.out W.drew hk
  have C24 := H24.out W.drew hk
  have C32 := H32.out W.drew hk
  have C40 := H40.out W.drew hk
  clear H4 H8 H12 H16 H24 H32 H40 z0 z1 z2 z3 hk hW
  have hbD : RowKit.Below w.heap.size w W.drew := hbW.drew
  have hboxD : W.drew.heap[w.heap.size]? = _ := hbox
  have HBD := Lib.hid hbD
  have HBx := Lib.hid hboxD
  clear hbD hboxD hbW hbox hB hb h
  refine wp_region_still_tail 51 (by kernel_rfl) (by kernel_rfl) ?_
  simp only [List.take_succ_cons, List.take_zero, List.drop_succ_cons, List.drop_zero]
  generalize hD : ({ W with drawn := W.drawn + 1 } : World) = D
  rw [show W.drew = D from hD] at *
  clear hD W
  generalize pa (some { block := b, off := off }) c 4 = A4 at *
  generalize pa (some { block := b, off := off }) c 8 = A8 at *
  generalize pa (some { block := b, off := off }) c 12 = A12 at *
  generalize pa (some { block := b, off := off }) c 16 = A16 at *
  generalize pa (some { block := b, off := off }) c 24 = A24 at *
  generalize pa (some { block := b, off := off }) c 32 = A32 at *
  generalize pa (some { block := b, off := off }) c 40 = A40 at *
  iterate 29 still_step
  still_step
  still_step
  still_call C4
  clear C4 s4
  still_step
  still_step
  still_call C8
  clear C8 s8
  still_step
  still_step
  still_call C12
  clear C12 s12
  still_step
  still_step
  still_call C16
  clear C16 s16
  still_step
  still_step
  still_call C24
  clear C24 s24
  still_step
  still_step
  still_call C32
  clear C32 s32
  still_step
  still_step
  still_call C40
  clear C40 s40
  still_step
  refine wpStill_nil ?_
  refine wpList_store_row rfl 51 (.tmp 2) (.tmp 53) rfl w.heap.size (pkC ⟨hd, none, 0, 0, m0⟩) rfl (by rw [HV.out]; rfl) 51 _ HBx.out s29 rfl (pk_all _) ?_
  have hr := setRow_heap D w.heap.size _ (pkC ⟨hd, none, 0, 0, m0⟩) 51 (0, 0) HBx.out
  have hb := below_setRow HBD.out (Nat.le_refl _) (pkC ⟨hd, none, 0, 0, m0⟩)
  clear HBx HBD
  generalize D.setRow w.heap.size (pkC ⟨hd, none, 0, 0, m0⟩) = D2 at *
  go_wp2_with fail
  exact bodyPost_ret (v := .agg (pkC ⟨hd, none, 0, 0, m0⟩)) (results_cell_row rfl _ _ w.heap.size 51 _ (0, 0) _ rfl hr Tryz.underlying51 rfl s29) rfl ⟨rfl, hb⟩
end Go.Proofs.YthipdagebijbiaaGreatDoor.Wi
namespace Go.Proofs.YthipdagebijbiaaGreatDoor.Wi
open Go.RowKit Go.Shelf
set_option linter.unusedVariables false
set_option maxRecDepth 100000
attribute [local go_sem] Oper.semAt_some
theorem below_grown {W W' : World} (h : RowKit.Below W.heap.size W W') : W.grownBy W' none := ⟨h.os, h.tape, h.output, h.size, fun i hi _ => h.block i hi⟩
/-- what a round keeps: all below a block, and one block more -/
structure Keeps (n0 B1 : Nat) (W W' : World) : Prop where
  low : RowKit.Below n0 W W'
  one : W'.heap[B1]? = W.heap[B1]?
theorem Keeps.refl (n0 B1 : Nat) (W : World) : Keeps n0 B1 W W := ⟨RowKit.Below.refl _ _, rfl⟩
theorem Keeps.trans {n0 B1 : Nat} {A B C : World} (h : Keeps n0 B1 A B) (k : Keeps n0 B1 B C) : Keeps n0 B1 A C := ⟨h.low.trans k.low, k.one.trans h.one⟩
theorem Keeps.of {n0 B1 : Nat} {W W' : World} (h : RowKit.Below W.heap.size W W') (h0 : n0 ≤ W.heap.size) (h1 : B1 < W.heap.size) : Keeps n0 B1 W W' := ⟨h.mono h0, h.block _ h1⟩
theorem cell_of_block {W W' : World} {b j : Nat} (h : W'.heap[b]? = W.heap[b]?) : W'.cell? ⟨b, j, none⟩ = W.cell? ⟨b, j, none⟩ := by unfold World.cell?; rw [h]
/-- may a field behind `at` have so many bytes? -/
def badB (n at_ s : Nat) : Bool := !(s % 4 == 0) || (decide (s < 24) || decide (n - at_ < s))
/-- where the fields begin, and how many bytes they have; 0: there is none -/
def fds (xs : List Nat) : Nat → Nat → List (Nat × Nat)
  | 0, _ => []
  | f + 1, at_ => if xs.length - at_ ≤ 20 then [] else if badB xs.length at_ (nm xs (at_ + 2) 2) = true then [(at_, 0)] else (at_, nm xs (at_ + 2) 2) :: fds xs f (at_ + nm xs (at_ + 2) 2)
def fdV (A : Option Addr) (c : Nat) (p : Nat × Nat) : Array Value := #[.int .i64 (p.1 : Int), if p.2 = 0 then .slice none 0 0 else .slice (pa A c p.1) p.2 (c - p.1)]
theorem rem4 (s : Nat) (h : s < 65536) : Int.tmod (s : Int) 4 = ((s % 4 : Nat) : Int) := by
  rw [show (4 : Int) = ((4 : Nat) : Int) from rfl, ← Int.ofNat_tmod]
theorem drop_cons {α : Type} {L rest : List α} {x : α} {k : Nat} (h : L.drop k = x :: rest) : k < L.length ∧ L[k]? = some x ∧ L.drop (k + 1) = rest := by
  have hk : k < L.length := by
    rcases Nat.lt_or_ge k L.length with h1 | h1
    · exact h1
    · rw [List.drop_eq_nil_of_le h1] at h; cases h
  refine ⟨hk, ?_, ?_⟩
  · have := congrArg List.head? h
    rw [List.head?_drop] at this
    exact this
  · have := congrArg List.tail h
    rw [List.tail_drop] at this
    exact this
theorem drop_nil {α : Type} {L : List α} {k : Nat} (h : L.drop k = []) (hk : k ≤ L.length) : k = L.length := by
  have := congrArg List.length h
  rw [List.length_drop] at this
  simp at this
  omega
theorem w64_in (a : Nat) (b : Nat) (h : a + b ≤ 4294967296) : wrap64 ((a : Int) + (b : Int)) = ((a + b : Nat) : Int) := by unfold wrap64; omega
set_option maxHeartbeats 2000000 in
theorem fields_in (l B1 n0 : Nat) {A : Option Addr} {n c : Nat} {xs : List Nat} (hn : 48 ≤ n ∧ n ≤ 1073741824) (L : List (Nat × Nat)) (hL : L = fds xs n 48) (J Jx : Nat → World → Prop)
    (hY : ∀ k p W, J k W → L[k]? = some p → YieldAt Fence.wide 7 Tryz.prog l (fdV A c p) W fun e W' => (e = .returned (.bool true) ∧ J (k + 1) W' ∧ Keeps n0 B1 W W') ∨ (e = .returned (.bool false) ∧ Jx k W'))
    (hJ : ∀ k A B, J k A → A.grownBy B none → J k B)
    (W : World) (hn0 : n0 ≤ W.heap.size) (hB1 : B1 < W.heap.size) (hc1 : W.cell? ⟨B1, 0, none⟩ = some (.slice A n c)) (hx : Nb W n0 A n c xs) (h0 : J 0 W) :
    CallsIn Fence.wide 8 Tryz.prog 107 #[.func (.yield l) #[] #[], .pointer (some ⟨B1, 0, none⟩)] W fun e W' => (∃ v, e = .returned v) ∧ (J L.length W' ∨ ∃ k, k < L.length ∧ Jx k W') := by
  have HY := Lib.hid hY
  have HJ := Lib.hid hJ
  have HL := Lib.hid hL
  have hlen := hx.len
  have hcap := hx.cap
  clear hY hJ hL
  refine callsIn_of_wp Tryz.func107 rfl trivial ?_ rfl
  simp only [Tryz.ntmps107, List.size_toArray, List.length_cons, List.length_nil, Nat.reduceAdd, Nat.reduceSub, Array.replicate_succ, Array.replicate_zero, List.push_toArray, List.append_toArray, List.nil_append, List.cons_append]
  gi_wp2_with fail
  gi_loopw [3] (fun i wr => ∃ k a f : Nat, k ≤ L.length ∧ a ≤ n ∧ n ≤ a + f ∧ L.drop k = fds xs f a ∧ i = .int .i64 (a : Int) ∧ J k wr ∧ Keeps n0 B1 W wr) (fun i _ => n - (intOf i).toNat)
  case atStart => exact ⟨0, 48, n, Nat.zero_le _, hn.1, by omega, by rw [HL.out]; rfl, rfl, h0, Keeps.refl _ _ _⟩
  case round =>
    obtain ⟨k, a, f, hk, ha, hf, hd, rfl, hJk, hB⟩ := hrel
    have hb1 : wr.cell? ⟨B1, 0, none⟩ = some (.slice A n c) := (cell_of_block hB.one).trans hc1
    have s1 : wrap64 ((n : Int) - (a : Int)) = ((n - a : Nat) : Int) := w64_sub ha (by omega)
    by_cases h20 : n - a ≤ 20
    · have hD : L.drop k = [] := by
        rw [hd]
        cases f with
        | zero => rfl
        | succ f => unfold fds; rw [if_pos (by rw [hlen]; exact h20)]
      have hkl := drop_nil hD hk
      have q1 : (n : Int) - (a : Int) ≤ 20 := by omega
      have hf : J L.length wr := by rw [← hkl]; exact hJk
      clear h20 s1
      gi_wp2
      go_end0
      exact ⟨⟨_, rfl⟩, .inl hf⟩
    · have q1 : (20 : Int) < (n : Int) - (a : Int) := by omega
      have hs : ∀ W, (Instr.slice 23 (.slice A n c) (some (.int .i64 ((a : Int) + 2))) (some (.int .i64 ((a : Int) + 4))) none).run Tryz.prog W = .ok (.slice (pa A c (a + 2)) 2 (c - (a + 2))) W := fun W => by
        have := sl_both A n c (a + 2) (a + 4) .i64 .i64 (by omega) (by omega) W
        rw [show a + 4 - (a + 2) = 2 by omega] at this
        exact this
      have hs' : ∀ W, (Instr.sliceAt 23 (.slice A n c) (some (.int .i64 ((a : Int) + 2))) (some (.int .i64 ((a : Int) + 4))) none).run Tryz.prog W = .ok (.slice (pa A c (a + 2)) 2 (c - (a + 2))) W := fun W => (sl_at _ _ _ _ _ W).trans (hs W)
      have hxw := hx.below hB.low
      have HC := Lib.hid (hxw.number (W := wr) (a + 2) 2 (by omega) (by omega) fun ad e => rfl)
      have hsl : nm xs (a + 2) 2 < 65536 := Nat.lt_of_lt_of_le (num_lt _ (fun x hx => hxw.lim x (List.mem_of_mem_drop (List.mem_of_mem_take hx)))) (Nat.le_trans (Nat.pow_le_pow_right (by omega) (by rw [List.length_take]; omega)) (by decide : 256 ^ 2 ≤ 65536))
      obtain ⟨f, rfl⟩ : ∃ g, f = g + 1 := ⟨f - 1, by omega⟩
      have HD := Lib.hid (show L.drop k = _ from hd.trans (by unfold fds; rw [if_neg (by rw [hlen]; exact h20), hlen]))
      generalize nm xs (a + 2) 2 = s at *
      generalize pa A c (a + 2) = A2 at *
      generalize c - (a + 2) = c2 at *
      have hw : IntKind.i64.wrap (s : Int) = (s : Int) := by rw [IntKind.wrap_i64]; omega
      have HB := Lib.hid hB
      have r4 := rem4 s hsl
      have HS := Lib.hid hsl
      obtain ⟨m, hm⟩ : ∃ m, m = s % 4 := ⟨_, rfl⟩
      rw [← hm] at r4
      clear hd h20 s1 hB hxw hsl
      by_cases hbad : badB n a s = true
      · have hD := HD.out
        rw [if_pos hbad] at hD
        obtain ⟨hk1, hk2, hk3⟩ := drop_cons hD
        have HDn := Lib.hid (show k < L.length ∧ k + 1 = L.length from ⟨hk1, drop_nil hk3 hk1⟩)
        have HY0 := Lib.hid (show YieldAt Fence.wide 7 Tryz.prog l #[.int .i64 (a : Int), .slice none 0 0] wr _ from HY.out k (a, 0) wr hJk hk2)
        have hb3 : m ≠ 0 ∨ (m = 0 ∧ s < 24) ∨ (m = 0 ∧ 24 ≤ s ∧ n - a < s) := by
          unfold badB at hbad
          rw [← hm] at hbad
          simp only [Bool.or_eq_true, Bool.not_eq_true', beq_eq_false_iff_ne, decide_eq_true_eq] at hbad
          omega
        clear hD hk1 hk2 hk3 hbad HD hs' hm
        rcases hb3 with h4 | ⟨h4, h5⟩ | ⟨h4, h5, h6⟩
        · have m1 : ((m : Int) != 0) = true := by simpa using h4
          have m2 : ((m : Int) == 0) = false := by simpa using h4
          have m3 : (m = 0) = False := by simp only [h4]
          gi_wp2_with fail
          refine ⟨trivial, (callsIn_wide.2 HC.out).mono ?_⟩
          rintro e w1 ⟨rfl, hw1⟩
          subst w1
          obtain ⟨fn, tmps, assign, body, hy', hR⟩ := HY0.out
          gi_wp2
          refine hR.mono ?_
          rintro e w2 (⟨rfl, hJ2, hB2⟩ | ⟨rfl, hX2⟩)
          · gi_wp2
            (try simp only [Exit.inBlock, Exit.then])
            refine bodyPost_ret (results_none rfl _ _ _) rfl ?_
            exact ⟨⟨_, rfl⟩, .inl (by rw [← HDn.out.2]; exact hJ2)⟩
          · gi_wp2
            (try simp only [Exit.inBlock, Exit.then])
            refine bodyPost_ret (results_none rfl _ _ _) rfl ?_
            exact ⟨⟨_, rfl⟩, .inr ⟨k, HDn.out.1, hX2⟩⟩
        · subst h4
          have m1 : (s : Int) < 24 := by omega
          gi_wp2_with fail
          refine ⟨trivial, (callsIn_wide.2 HC.out).mono ?_⟩
          rintro e w1 ⟨rfl, hw1⟩
          subst w1
          obtain ⟨fn, tmps, assign, body, hy', hR⟩ := HY0.out
          gi_wp2
          refine hR.mono ?_
          rintro e w2 (⟨rfl, hJ2, hB2⟩ | ⟨rfl, hX2⟩)
          · gi_wp2
            (try simp only [Exit.inBlock, Exit.then])
            refine bodyPost_ret (results_none rfl _ _ _) rfl ?_
            exact ⟨⟨_, rfl⟩, .inl (by rw [← HDn.out.2]; exact hJ2)⟩
          · gi_wp2
            (try simp only [Exit.inBlock, Exit.then])
            refine bodyPost_ret (results_none rfl _ _ _) rfl ?_
            exact ⟨⟨_, rfl⟩, .inr ⟨k, HDn.out.1, hX2⟩⟩
        · subst h4
          have m1 : (24 : Int) ≤ (s : Int) := by omega
          have m2 : (n : Int) - (a : Int) < (s : Int) := by omega
          gi_wp2_with fail
          refine ⟨trivial, (callsIn_wide.2 HC.out).mono ?_⟩
          rintro e w1 ⟨rfl, hw1⟩
          subst w1
          obtain ⟨fn, tmps, assign, body, hy', hR⟩ := HY0.out
          gi_wp2
          refine hR.mono ?_
          rintro e w2 (⟨rfl, hJ2, hB2⟩ | ⟨rfl, hX2⟩)
          · gi_wp2
            (try simp only [Exit.inBlock, Exit.then])
            refine bodyPost_ret (results_none rfl _ _ _) rfl ?_
            exact ⟨⟨_, rfl⟩, .inl (by rw [← HDn.out.2]; exact hJ2)⟩
          · gi_wp2
            (try simp only [Exit.inBlock, Exit.then])
            refine bodyPost_ret (results_none rfl _ _ _) rfl ?_
            exact ⟨⟨_, rfl⟩, .inr ⟨k, HDn.out.1, hX2⟩⟩
      · have hD := HD.out
        rw [if_neg hbad] at hD
        obtain ⟨hk1, hk2, hk3⟩ := drop_cons hD
        have hb3 : m = 0 ∧ 24 ≤ s ∧ s ≤ n - a := by
          unfold badB at hbad
          rw [← hm] at hbad
          simp only [Bool.or_eq_true, Bool.not_eq_true', beq_eq_false_iff_ne, decide_eq_true_eq] at hbad
          omega
        obtain ⟨h4, h5, h6⟩ := hb3
        have HY0 := Lib.hid (show YieldAt Fence.wide 7 Tryz.prog l #[.int .i64 (a : Int), .slice (pa A c a) s (c - a)] wr _ from by
          have := HY.out k (a, s) wr hJk hk2
          rw [show fdV A c (a, s) = #[.int .i64 (a : Int), .slice (pa A c a) s (c - a)] by unfold fdV; rw [if_neg (show ¬ (s = 0) by omega)]] at this
          exact this)
        have g1 : ∀ W, (Instr.slice 23 (.slice A n c) (some (.int .i64 (a : Int))) (some (.int .i64 ((a : Int) + (s : Int)))) none).run Tryz.prog W = .ok (.slice (pa A c a) s (c - a)) W := fun W => by
          have := sl_both A n c a (a + s) .i64 .i64 (by omega) (by omega) W
          rw [show a + s - a = s by omega] at this
          exact this
        generalize pa A c a = A3 at *
        generalize c - a = c3 at *
        have HDn := Lib.hid (show k + 1 ≤ L.length ∧ a + s ≤ n ∧ n ≤ a + s + f ∧ L.drop (k + 1) = fds xs f (a + s) from ⟨hk1, by omega, by omega, hk3⟩)
        have HK1 := Lib.hid hk1
        subst h4
        have m1 : (24 : Int) ≤ (s : Int) := by omega
        have m2 : (s : Int) ≤ (n : Int) - (a : Int) := by omega
        have HM := Lib.hid (show a + s ≤ n ∧ 24 ≤ s from ⟨by omega, h5⟩)
        clear hD hk1 hk2 hk3 hbad HD hs' hm h5 h6
        gi_wp2_with fail
        refine ⟨trivial, (callsIn_wide.2 HC.out).mono ?_⟩
        rintro e w1 ⟨rfl, hw1⟩
        subst w1
        obtain ⟨fn, tmps, assign, body, hy', hR⟩ := HY0.out
        gi_wp2
        refine hR.mono ?_
        rintro e w2 (⟨rfl, hJ2, hB2⟩ | ⟨rfl, hX2⟩)
        · gi_wp2
          go_roundw
          case rel => exact ⟨k + 1, a + s, f, HDn.out.1, HDn.out.2.1, HDn.out.2.2.1, HDn.out.2.2.2, by congr 1, hJ2, HB.out.trans hB2⟩
          case measure => have := HM.out; simp [intOf]; omega
        · gi_wp2
          (try simp only [Exit.inBlock, Exit.then])
          refine bodyPost_ret (results_none rfl _ _ _) rfl ?_
          exact ⟨⟨_, rfl⟩, .inr ⟨k, HK1.out, hX2⟩⟩
end Go.Proofs.YthipdagebijbiaaGreatDoor.Wi
namespace Go.Proofs.YthipdagebijbiaaGreatDoor.Wi
open Go.RowKit Go.Shelf
set_option linter.unusedVariables false
set_option maxRecDepth 100000
/-- the iterator's word: N rounds, the k-th is handed vs k; a round may end it -/
def Yields (F : Fence) (n : Nat) (P : Program) (gf : FuncId) (lb : Array Value) (B0 N : Nat) (vs : Nat → Array Value) (Kp : World → World → Prop) (w : World) : Prop :=
  ∀ (l : Nat) (J Jx : Nat → World → Prop) (W : World), RowKit.Below B0 w W → (∀ k A B, J k A → A.grownBy B none → J k B) →
    (∀ k W1, J k W1 → k < N → YieldAt F (n - 1) P l (vs k) W1 fun e W' => (e = .returned (.bool true) ∧ J (k + 1) W' ∧ Kp W1 W') ∨ (e = .returned (.bool false) ∧ Jx k W')) →
    J 0 W → CallsIn F n P gf (#[.func (.yield l) #[] #[]] ++ lb) W fun e W' => (∃ v, e = .returned v) ∧ (J N W' ∨ ∃ k, k < N ∧ Jx k W')
theorem range_stops {P : Program} {F : Fence} {n : Nat} {g : Operand} {ps : Array Tmp} {assign body : Code} {Q : Exit → Act → World → Prop} {a : Act} {w : World}
    (hro : F.round = none) (h1 : 1 ≤ n) {gf : FuncId} {lb : Array Value} (hg : a.eval g = .func (.func gf) #[] lb) (hFg : F.fn gf) (eg : ∀ args w, (callFunc gf args).run P w = .ok (.enter gf args) w)
    {N : Nat} {vs : Nat → Array Value} {Kp : World → World → Prop} (hseq : Yields F (n - 1) P gf lb w.heap.size N vs Kp w) (hps : ∀ k, (vs k).size = ps.size)
    (hKt : ∀ A B C, Kp A B → Kp B C → Kp A C) (hKb : ∀ (A : World) (l : Nat) (o o' : Obj), w.heap.size ≤ l → A.heap[l]? = some o → o.isCells = false → Kp A (A.putObj l o'))
    (J Jx : Nat → World → Prop) (hJ : OwnFrom w.heap.size J) (hJx : OwnFrom w.heap.size Jx) (h0 : J 0 w) (a₁ : Nat → Act)
    (hassign : ∀ (l k : Nat) (W : World) (K : Act → World → Prop), K (a₁ k) W →
      assign.wpIn (F.inRound l) (n - 1 - 1) P (Exit.then K (fun _ _ _ => False)) { tmps := (ps.zip (vs k)).foldl (fun t (x : Tmp × Value) => t.setIfInBounds x.1 x.2) a.tmps, defers := [] } W)
    (hbody : ∀ (l k : Nat) (W : World), J k W → k < N →
      body.wpIn (F.inRound l) (n - 1 - 1) P (fun e _ W' => KeepsOthers W W' ∧ ((e = .normal ∧ Kp W W' ∧ J (k + 1) W') ∨ (e = .ret ∧ Jx k W'))) (a₁ k) W)
    (hdone : ∀ (D : Nat) (W : World), w.heap.size ≤ D → J N W → W.heap[D]? = some (.deferred (some [])) → Q .normal { a with defers := { target := .collected D, args := #[] } :: a.defers } W)
    (hstop : ∀ (D k : Nat) (W : World), w.heap.size ≤ D → k < N → Jx k W → W.heap[D]? = some (.deferred (some [])) → Code.ret.wpIn F n P Q { a with defers := { target := .collected D, args := #[] } :: a.defers } W) :
    (Code.rangeFunc g ps assign body).wpIn F n P Q a w := by
  refine wpIn_rangeFunc fun fn hfn => ?_
  rw [hro]
  obtain ⟨rec, hrec⟩ : ∃ rec : LoopState → Option Code → Loop, rec = fun st pe => { state := st, pending := pe, fn, tmps := a.tmps, params := ps, assign, body, defers := w.heap.size } := ⟨_, rfl⟩
  have hsize : ((w.alloc (.deferred (some []))).alloc (.loop (rec .ready none))).heap.size = w.heap.size + 2 := by simp
  have hbel : RowKit.Below w.heap.size w ((w.alloc (.deferred (some []))).alloc (.loop (rec .ready none))) := ((RowKit.Below.refl _ w).alloc (Nat.le_refl _) _).alloc (by simp) _
  have hloop : ((w.alloc (.deferred (some []))).alloc (.loop (rec .ready none))).heap[w.heap.size + 1]? = some (.loop (rec .ready none)) := by
    have := World.alloc_heap_new (w.alloc (.deferred (some []))) (.loop (rec .ready none))
    rwa [World.size_alloc] at this
  have hdef : ((w.alloc (.deferred (some []))).alloc (.loop (rec .ready none))).heap[w.heap.size]? = some (.deferred (some [])) := (Below.heap_alloc _ _ _ (by simp)).trans (World.alloc_heap_new w _)
  have hj1 : J 0 ((w.alloc (.deferred (some []))).alloc (.loop (rec .ready none))) := hJ.alloc _ (hJ.alloc _ h0)
  have henter := run_enterLoop_outer (P := P) (w := w) fn a.tmps ps assign body
  rw [show ({ state := .ready, pending := none, fn, tmps := a.tmps, params := ps, assign, body, defers := w.heap.size } : Loop) = rec .ready none by rw [hrec]] at henter
  generalize (w.alloc (.deferred (some []))).alloc (.loop (rec .ready none)) = w1 at *
  refine ⟨w.heap.size + 1, [{ target := .collected w.heap.size, args := #[] }], w1, { target := .fn (.func gf) lb, args := #[.func (.yield (w.heap.size + 1)) #[] #[]] }, w1, gf,
    #[.func (.yield (w.heap.size + 1)) #[] #[]] ++ lb, w1, henter, ?_, ?_, ?_, fun _ => h1, ?_⟩
  · simp only [resolve, hg]; simp [go_sem]
  · intro f' hf'; simp [Target.leads] at hf'; subst hf'; exact hFg
  · simp [invoke, go_sem, eg]
  let J2 : Nat → World → Prop := fun k W => J k W ∧ W.heap[w.heap.size + 1]? = some (.loop (rec .ready none)) ∧ W.heap[w.heap.size]? = some (.deferred (some []))
  let Jx2 : Nat → World → Prop := fun k W => Jx k W ∧ W.heap[w.heap.size + 1]? = some (.loop (rec .done (some .ret))) ∧ W.heap[w.heap.size]? = some (.deferred (some []))
  have hj2 : J2 0 w1 := ⟨hj1, hloop, hdef⟩
  refine (hseq (w.heap.size + 1) J2 Jx2 w1 hbel ?_ ?_ hj2).mono ?_
  · intro k A B h hg
    exact ⟨hJ k A B none h.1 hg (fun _ e => by cases e), (hg.block _ (Array.getElem?_eq_some_iff.1 h.2.1).1 (by simp)).trans h.2.1, (hg.block _ (Array.getElem?_eq_some_iff.1 h.2.2).1 (by simp)).trans h.2.2⟩
  · rintro k W ⟨hj, hl, hd⟩ hk
    have hlt : w.heap.size + 1 < W.heap.size := (Array.getElem?_eq_some_iff.1 hl).1
    have hy := run_yield (P := P) (args := vs k) hl (by rw [hrec]; exact hps k)
    rw [hrec] at hy
    refine ⟨fn, _, assign, body, hy, roundIn_of_wpIn hfn ?_⟩
    refine hassign (w.heap.size + 1) k W _ ?_
    refine ⟨_, run_beginRound hl (by rw [hrec]), ?_⟩
    have hb : ({ rec .ready none with state := .busy } : Loop) = rec .busy none := by rw [hrec]
    rw [hb]
    have hl2 : (W.putObj (w.heap.size + 1) (.loop (rec .busy none))).heap[w.heap.size + 1]? = some (.loop (rec .busy none)) := World.putObj_heap_same hlt
    have hd2 : (W.putObj (w.heap.size + 1) (.loop (rec .busy none))).heap[w.heap.size]? = some (.deferred (some [])) := (World.putObj_heap_other (by omega)).trans hd
    refine wpIn_mono (hbody _ k _ (hJ.putObj _ hj (by omega) hl rfl) hk) ?_
    rintro e a3 W3 ⟨hko, (⟨rfl, hbl, hj3⟩ | ⟨rfl, hx3⟩)⟩
    · have hl3 := hko.same _ _ hl2 rfl
      have he := run_endRound (P := P) none hl3
      have hb3 : ({ rec .busy none with state := (if (none : Option Code).isNone then .ready else .done), pending := none } : Loop) = rec .ready none := by rw [hrec]; rfl
      rw [hb3] at he
      exact ⟨_, _, he, .inl ⟨rfl, ⟨hJ.putObj _ hj3 (by omega) hl3 rfl, World.putObj_heap_same (Array.getElem?_eq_some_iff.1 hl3).1, (World.putObj_heap_other (by omega)).trans (hko.same _ _ hd2 rfl)⟩,
        hKt _ _ _ (hKt _ _ _ (hKb W _ _ _ (by omega) hl rfl) hbl) (hKb W3 _ _ _ (by omega) hl3 rfl)⟩⟩
    · have hl3 := hko.same _ _ hl2 rfl
      have he := run_endRound (P := P) (some .ret) hl3
      have hb3 : ({ rec .busy none with state := (if (some Code.ret : Option Code).isNone then .ready else .done), pending := some .ret } : Loop) = rec .done (some .ret) := by rw [hrec]; rfl
      rw [hb3] at he
      exact ⟨_, _, he, .inr ⟨rfl, hJx.putObj _ hx3 (by omega) hl3 rfl, World.putObj_heap_same (Array.getElem?_eq_some_iff.1 hl3).1, (World.putObj_heap_other (by omega)).trans (hko.same _ _ hd2 rfl)⟩⟩
  · rintro e W2 ⟨⟨v, rfl⟩, (⟨hj, hl, hd⟩ | ⟨k, hk, hj, hl, hd⟩)⟩
    · have he := run_endLoop (P := P) hl (by rw [hrec]; simp)
      rw [show (rec .ready none).pending = none by rw [hrec]] at he
      refine ⟨none, _, he, ?_⟩
      exact hdone _ _ (Nat.le_refl _) (hJ.putObj _ hj (by omega) hl rfl) ((World.putObj_heap_other (by omega)).trans hd)
    · have he := run_endLoop (P := P) hl (by rw [hrec]; simp)
      rw [show (rec .done (some .ret)).pending = some .ret by rw [hrec]] at he
      refine ⟨some .ret, _, he, ?_⟩
      exact hstop _ k _ (Nat.le_refl _) hk (hJx.putObj _ hj (by omega) hl rfl) ((World.putObj_heap_other (by omega)).trans hd)
end Go.Proofs.YthipdagebijbiaaGreatDoor.Wi
namespace Go.Proofs.YthipdagebijbiaaGreatDoor.Wi
open Go.RowKit
set_option linter.unusedVariables false
set_option maxRecDepth 100000
theorem s47 : (Tryz.prog.info? 45).map (·.size) = some 8 := by kernel_rfl
/-- a field's cells -/
abbrev elC (x : El) : Array Value := #[.int .i64 x.op, .bool x.resp, .bool x.bad, .int .i64 x.as_, .int .u32 (x.ts : Int), .int .u32 (x.fs : Int), .slice x.A x.n x.c, .slice x.B x.m x.e]
theorem el_all (x : El) : ((elC x).all (·.oneCell')) = true := by simp [Value.oneCell']
def e0 : El := ⟨0, false, false, 0, 0, 0, none, 0, 0, none, 0, 0, [], []⟩
/-- a field that was read -/
structure Ex where
  op : Nat
  (resp bad : Bool)
  (as_ ts fs : Nat)
  (xs ys : List Nat)
def exEl (x : Ex) (A : Option Addr) (c : Nat) (B : Option Addr) (d : Nat) : El := ⟨x.op, x.resp, x.bad, x.as_, x.ts, x.fs, A, x.xs.length, c, B, x.ys.length, d, x.xs, x.ys⟩
/-- the field that some bytes are -/
def exOf (xs : List Nat) : Option Ex :=
  if xs.length = 0 ∨ xs.getD 1 0 ≠ 0 ∨ xs.getD 6 0 ≠ 0 ∨ xs.getD 7 0 ≠ 0 then none
  else match txt (xs.drop 16) with
    | none => none
    | some (t, r) => match txt r with
      | none => none
      | some (t2, r2) => if 0 < r2.length ∨ xs.getD 0 0 % 64 = 0 then none else some ⟨xs.getD 0 0 % 64, decide (128 ≤ xs.getD 0 0), decide (xs.getD 0 0 / 64 % 2 = 1), nm xs 4 2, nm xs 8 4, nm xs 12 4, t, t2⟩
def exEnd (xs t t2 r2 : List Nat) : Option Ex := if 0 < r2.length ∨ xs.getD 0 0 % 64 = 0 then none else some ⟨xs.getD 0 0 % 64, decide (128 ≤ xs.getD 0 0), decide (xs.getD 0 0 / 64 % 2 = 1), nm xs 4 2, nm xs 8 4, nm xs 12 4, t, t2⟩
theorem exOf_of {xs : List Nat} (h0 : xs.length ≠ 0) (h1 : xs.getD 1 0 = 0) (h6 : xs.getD 6 0 = 0) (h7 : xs.getD 7 0 = 0) :
    (txt (xs.drop 16) = none → exOf xs = none) ∧ (∀ t r, txt (xs.drop 16) = some (t, r) → (txt r = none → exOf xs = none) ∧ ∀ t2 r2, txt r = some (t2, r2) → exOf xs = exEnd xs t t2 r2) := by
  have e : ¬ (xs.length = 0 ∨ xs.getD 1 0 ≠ 0 ∨ xs.getD 6 0 ≠ 0 ∨ xs.getD 7 0 ≠ 0) := by
    rintro (e | e | e | e)
    · exact h0 e
    · exact e h1
    · exact e h6
    · exact e h7
  refine ⟨fun ht => ?_, fun t r ht => ⟨fun hr => ?_, fun t2 r2 hr => ?_⟩⟩
  · unfold exOf; rw [if_neg e, ht]
  · unfold exOf; rw [if_neg e, ht]; simp only [hr]
  · unfold exOf; rw [if_neg e, ht]; simp only [hr, exEnd]
def ExtPost (xs : List Nat) (w : World) (e : Ending) (w' : World) : Prop :=
  RowKit.Below w.heap.size w w' ∧
  match exOf xs with
  | none => e = .returned (.tuple #[elV e0, .bool false])
  | some x => ∃ A c B d, e = .returned (.tuple #[elV (exEl x A c B d), .bool true]) ∧ (∀ ad, A = some ad → w.heap.size ≤ ad.block) ∧ (∀ ad, B = some ad → w.heap.size ≤ ad.block) ∧
      Nb w' w'.heap.size A x.xs.length c x.xs ∧ Nb w' w'.heap.size B x.ys.length d x.ys
theorem txt_le {xs t r : List Nat} (h : txt xs = some (t, r)) : r.length ≤ xs.length ∧ t.length ≤ 2048 := by
  unfold txt at h
  split at h
  · cases h
  · split at h
    · cases h
    · split at h
      · cases h
        refine ⟨by simp only [List.length_drop]; omega, ?_⟩
        rw [List.length_take]; omega
      · cases h
theorem text_of_any2 {w : World} {B n c : Nat} {A : Option Addr} {xs : List Nat} (h : Nb w B A n c xs) (hB : B ≤ w.heap.size) (hn : n ≤ 1073741824) :
    Calls Tryz.prog 108 #[.slice A n c] w fun e w' => RowKit.Below w.heap.size w w' ∧ ∃ A1 c1 t A2 c2 r, ∃ rb : Bool, e = .returned (.tuple #[.slice A1 t.length c1, .slice A2 r.length c2, .bool rb]) ∧ (∀ ad, A1 = some ad → w.heap.size ≤ ad.block) ∧
      Nb w' w'.heap.size A1 t.length c1 t ∧ Nb w' w'.heap.size A2 r.length c2 r ∧ txt xs = (if rb = true then some (t, r) else none) ∧ r.length ≤ n ∧ t.length ≤ 2048 := by
  refine (text_of_any h hB hn).mono ?_
  rintro e w' ⟨hb, hp⟩
  refine ⟨hb, ?_⟩
  cases ht : txt xs with
  | none =>
    rw [ht] at hp
    exact ⟨none, 0, [], none, 0, [], false, hp, (fun ad e => by cases e), Nb.nil _ _ 0 (by omega) none, Nb.nil _ _ 0 (by omega) none, rfl, Nat.zero_le _, Nat.zero_le _⟩
  | some p =>
    obtain ⟨t, r⟩ := p
    rw [ht] at hp
    obtain ⟨A1, c1, A2, c2, he, ha, h1, h2⟩ := hp
    have := txt_le ht
    exact ⟨A1, c1, t, A2, c2, r, true, he, ha, h1, h2, rfl, by rw [← h.len]; exact this.1, this.2⟩
theorem bt6 : ∀ x : Nat, x < 256 → IntKind.i64.wrap (bits BinOp.andNot IntKind.u8 (x : Int) 192) = ((x % 64 : Nat) : Int) := by decide +kernel
theorem bt7 : ∀ x : Nat, x < 256 → (bits BinOp.and IntKind.u8 (x : Int) 128 != 0) = decide (128 ≤ x) := by decide +kernel
theorem bt8 : ∀ x : Nat, x < 256 → (bits BinOp.and IntKind.u8 (x : Int) 64 != 0) = decide (x / 64 % 2 = 1) := by decide +kernel
theorem keep_alloc {W : World} {b off : Nat} {v : Value} {o : Obj} (h : W.cell? ⟨b, off, none⟩ = some v) (hb : b < W.heap.size) : (W.alloc o).cell? ⟨b, off, none⟩ = some v :=
  (World.cell?_of_block (a := ⟨b, off, none⟩) (Below.heap_alloc _ _ _ hb)).trans h
set_option maxHeartbeats 4000000 in
theorem ext_of_any {w : World} {B n c : Nat} {A : Option Addr} {xs : List Nat} (h : Nb w B A n c xs) (hB : B ≤ w.heap.size) (hn : n ≤ 1073741824) (h24 : n = 0 ∨ 24 ≤ n) :
    Calls Tryz.prog 83 #[.slice A n c] w (ExtPost xs w) := by
  obtain ⟨W, hW⟩ : ∃ W, W = w.alloc (.cells #[.int .i64 0, .bool false, .bool false, .int .i64 0, .int .u32 0, .int .u32 0, .slice none 0 0, .slice none 0 0] 45) := ⟨_, rfl⟩
  have hbW : RowKit.Below w.heap.size w W := by rw [hW]; exact (Below.refl _ _).alloc (Nat.le_refl _) _
  have hbox : W.heap[w.heap.size]? = some (.cells (elC e0) 45 (0, 0)) := by rw [hW]; exact heap_alloc_new w _
  have HW := Lib.hid hW
  have HbW := Lib.hid hbW
  have HBx := Lib.hid hbox
  clear hW hbW hbox
  rcases h24 with h0 | h24
  · subst h0
    have HV := Lib.hid (show exOf xs = none by unfold exOf; rw [if_pos (.inl h.len)])
    clear h
    go_enter Tryz.func83, Tryz.ntmps83
    go_upto_region 1 with fail
    rw [← HW.out]
    go_wp2_with (refine wpList_store_row rfl 45 (.tmp 2) (.tmp 30) rfl w.heap.size (elC e0) rfl rfl 45 _ HBx.out s47 rfl (el_all _) ?_)
    have hr := setRow_heap W w.heap.size _ (elC e0) 45 (0, 0) HBx.out
    have hb := below_setRow HbW.out (Nat.le_refl _) (elC e0)
    generalize W.setRow w.heap.size (elC e0) = D2 at *
    obtain ⟨z0, z1, z2, z3, z4, z5, z6, z7⟩ := EBox.cells (x := e0) hr
    refine bodyPost_ret (v := .tuple #[elV e0, .bool false]) (by simp [results, Tryz.results44, go_sem, z0, z1, z2, z3, z4, z5, z6, z7]) rfl ⟨hb, by rw [HV.out]⟩
  · have hcap := h.cap
    have hl := h.len
    have HH := Lib.hid h
    obtain ⟨b, off, rfl, hb, hc⟩ := h.cell (by omega)
    have z : ∀ j, j < 24 → W.cell? ⟨b, off + j, none⟩ = some (.int .u8 (xs.getD j 0 : Nat)) := fun j hj => by
      refine (World.cell?_of_block (a := ⟨b, off + j, none⟩) (HbW.out.block b (by omega))).trans (hc j _ ?_)
      rw [List.getD_eq_getElem?_getD, List.getElem?_eq_getElem (by omega)]; rfl
    have y1 := z 1 (by omega)
    have y6 := z 6 (by omega)
    have y7 := z 7 (by omega)
    have HZ := Lib.hid z
    have HV0 := Lib.hid (show exOf xs = _ from rfl)
    have l0 := h.lim.get (by omega : 0 < 256) 0
    have k0 : ((n : Int) == 0) = false := by simp; omega
    have k0' : (n == 0) = false := by simp; omega
    have k00 : 0 < n := by omega
    have k1 : (1 : Int) < (n : Int) := by omega
    have k6 : (6 : Int) < (n : Int) := by omega
    have k7 : (7 : Int) < (n : Int) := by omega
    have hz : ∀ W : World, (Go.sizeOf 5).run Tryz.prog W = .ok 1 W := fun W => by kernel_rfl
    have HHc := Lib.hid hc
    clear hc z h
    have X0 : xs.length ≠ 0 := by omega
    by_cases h1 : xs.getD 1 0 = 0
    · by_cases h6 : xs.getD 6 0 = 0
      · by_cases h7 : xs.getD 7 0 = 0
        · rw [h1] at y1
          rw [h6] at y6
          rw [h7] at y7
          have HE := Lib.hid (exOf_of X0 h1 h6 h7)
          have N1 := (HH.out.below (HbW.out.mono hB)).part 16 n (by omega) (Nat.le_refl _)
          have e1 : (xs.drop 16).take (n - 16) = xs.drop 16 := List.take_of_length_le (by rw [List.length_drop, hl]; exact Nat.le_refl _)
          rw [e1] at N1
          have g1 : ∀ W, (Instr.slice 23 (.slice (some ⟨b, off, none⟩) n c) (some (.int .i64 16)) none none).run Tryz.prog W = .ok (.slice (pa (some ⟨b, off, none⟩) c 16) (n - 16) (c - 16)) W := fun W => sl_from _ n c 16 .i64 (by omega) W
          generalize pa (some ⟨b, off, none⟩) c 16 = A16 at *
          have HT1 := Lib.hid (text_of_any2 N1 (Nat.le_trans hB HbW.out.size) (by omega))
          have HX0 := Lib.hid X0
          clear N1 e1 h1 h6 h7 X0 HV0
          go_enter Tryz.func83, Tryz.ntmps83
          go_upto_region 1 with fail
          rw [← HW.out]
          go_upto_region 4 with (go_at_call 108; refine HT1.out.mono ?_; rintro e w3 ⟨hb3, A1, c1, t, A2, c2, r, rb, rfl, ha1, n1, n2, ht, hr1, hr2⟩)
          have HB3 := Lib.hid (bthen HbW.out hb3 (Nat.le_refl _))
          have HBx3 := Lib.hid ((hb3.block _ (show w.heap.size < W.heap.size from (Array.getElem?_eq_some_iff.1 HBx.out).1)).trans HBx.out)
          cases rb with
          | false =>
            have HV := Lib.hid (HE.out.1 ht)
            clear ht
            go_wp2_with (refine wpList_store_row rfl 45 (.tmp 2) (.tmp 40) rfl w.heap.size (elC e0) rfl rfl 45 _ HBx3.out s47 rfl (el_all _) ?_)
            have hr := setRow_heap w3 w.heap.size _ (elC e0) 45 (0, 0) HBx3.out
            have hb := below_setRow HB3.out (Nat.le_refl _) (elC e0)
            generalize w3.setRow w.heap.size (elC e0) = D2 at *
            obtain ⟨z0, z1, z2, z3, z4, z5, z6, z7⟩ := EBox.cells (x := e0) hr
            refine bodyPost_ret (v := .tuple #[elV e0, .bool false]) (by simp [results, Tryz.results44, go_sem, z0, z1, z2, z3, z4, z5, z6, z7]) rfl ⟨hb, by rw [HV.out]⟩
          | true =>
            have HT2 := Lib.hid (text_of_any2 n2 (Nat.le_refl _) (by omega))
            have HE2 := Lib.hid (HE.out.2 t r ht)
            have HA1 := Lib.hid ha1
            have HN1 := Lib.hid n1
            clear n1 n2 ha1 ht y1 y6 y7 hb3
            go_upto_region 7 with (go_at_call 108; refine HT2.out.mono ?_; rintro e w4 ⟨hb4, A3, c3, t2, A4, c4, r2, rb2, rfl, ha2, m1, m2, ht2, hq1, hq2⟩)
            have HB4 := Lib.hid (bthen HB3.out hb4 (Nat.le_refl _))
            have HBx4 := Lib.hid ((hb4.block _ (show w.heap.size < w3.heap.size from (Array.getElem?_eq_some_iff.1 HBx3.out).1)).trans HBx3.out)
            have HN1' := Lib.hid (HN1.out.far hb4)
            have HM1 := Lib.hid m1
            have HM2 := Lib.hid m2
            have HA2 := Lib.hid ha2
            have HT2' := Lib.hid ht2
            clear m1 m2 ha2 ht2 hb4
            obtain ⟨o, ho⟩ : ∃ o, w.heap[b]? = some o := by
              cases e : w.heap[b]? with
              | none => have := HHc.out 0 _ (List.getElem?_eq_getElem (show 0 < xs.length by omega)); simp [World.cell?, e] at this
              | some o => exact ⟨o, rfl⟩
            have hkk : w4.heap[b]? = some o := (HB4.out.block b (by omega)).trans ho
            have y0 : w4.cell? ⟨b, off, none⟩ = some (.int .u8 (xs.getD 0 0 : Nat)) := (World.cell?_of_block (a := ⟨b, off, none⟩) (hkk.trans ho.symm)).trans (HHc.out 0 _ (by rw [List.getD_eq_getElem?_getD, List.getElem?_eq_getElem (by omega)]; rfl))
            have HC4 := Lib.hid (fun W' (e : W'.heap[b]? = some o) => HH.out.number (W := W') 4 2 (by omega) (by omega) (fun ad e2 => by obtain rfl := Option.some.inj e2; exact e.trans ho.symm))
            have HC8 := Lib.hid (fun W' (e : W'.heap[b]? = some o) => HH.out.word (W := W') 8 (by omega) (fun ad e2 => by obtain rfl := Option.some.inj e2; exact e.trans ho.symm))
            have HC12 := Lib.hid (fun W' (e : W'.heap[b]? = some o) => HH.out.word (W := W') 12 (by omega) (fun ad e2 => by obtain rfl := Option.some.inj e2; exact e.trans ho.symm))
            have hk4 : b < w4.heap.size := (Array.getElem?_eq_some_iff.1 hkk).1
            have HKK := Lib.hid hkk
            have s4 : ∀ W, (Instr.sliceAt 23 (.slice (some ⟨b, off, none⟩) n c) (some (.int .i64 4)) (some (.int .i64 6)) none).run Tryz.prog W = .ok (.slice (pa (some ⟨b, off, none⟩) c 4) 2 (c - 4)) W := fun W => (sl_at _ _ _ _ _ W).trans (sl_both _ n c 4 6 _ _ (by omega) (by omega) W)
            have s8 : ∀ W, (Instr.sliceAt 23 (.slice (some ⟨b, off, none⟩) n c) (some (.int .i64 8)) (some (.int .i64 12)) none).run Tryz.prog W = .ok (.slice (pa (some ⟨b, off, none⟩) c 8) 4 (c - 8)) W := fun W => (sl_at _ _ _ _ _ W).trans (sl_both _ n c 8 12 _ _ (by omega) (by omega) W)
            have s12 : ∀ W, (Instr.sliceAt 23 (.slice (some ⟨b, off, none⟩) n c) (some (.int .i64 12)) (some (.int .i64 16)) none).run Tryz.prog W = .ok (.slice (pa (some ⟨b, off, none⟩) c 12) 4 (c - 12)) W := fun W => (sl_at _ _ _ _ _ W).trans (sl_both _ n c 12 16 _ _ (by omega) (by omega) W)
            clear hkk ho HT1 HT2
            have HEN := Lib.hid HE2.out
            have HB3s := Lib.hid HB3.out.size
            have HLt := Lib.hid (show w.heap.size < W.heap.size from (Array.getElem?_eq_some_iff.1 HBx.out).1)
            have HLt3 := Lib.hid (show w.heap.size < w3.heap.size from (Array.getElem?_eq_some_iff.1 HBx3.out).1)
            have HEE := Lib.hid (show exEnd xs t t2 r2 = (if 0 < r2.length ∨ xs.getD 0 0 % 64 = 0 then none else some ⟨xs.getD 0 0 % 64, decide (128 ≤ xs.getD 0 0), decide (xs.getD 0 0 / 64 % 2 = 1), nm xs 4 2, nm xs 8 4, nm xs 12 4, t, t2⟩) from rfl)
            have q6 := bt6 _ l0
            have q7 := bt7 _ l0
            have q8 := bt8 _ l0
            have HQ := Lib.hid (show nm xs 4 2 < 65536 from Nat.lt_of_lt_of_le (num_lt _ (HH.out.part 4 6 (by omega) (by omega)).lim) (Nat.le_trans (Nat.pow_le_pow_right (by omega) (by rw [List.length_take]; omega)) (by decide : 256 ^ 2 ≤ 65536)))
            have q9 : IntKind.i64.wrap (nm xs 4 2 : Int) = (nm xs 4 2 : Int) := by rw [IntKind.wrap_i64]; have := HQ.out; omega
            generalize pa (some { block := b, off := off }) c 4 = A4' at *
            generalize pa (some { block := b, off := off }) c 8 = A8 at *
            generalize pa (some { block := b, off := off }) c 12 = A12 at *
            generalize xs.getD 0 0 = x0 at *
            generalize nm xs 4 2 = v4 at *
            generalize nm xs 8 4 = v8 at *
            generalize nm xs 12 4 = v12 at *
            clear HZ h24 hcap hl HE HE2 HX0 HH HHc hz HW HBx HB3 HBx3 HN1
            go_cut [8] from 45 (fun p wx => p = .pointer (some ⟨w4.heap.size, 0, none⟩) ∧ wx = (w4.alloc (.cells #[.int .i64 ((x0 : Int) % 64), .bool (decide (128 ≤ x0)), .bool (decide (x0 / 64 % 2 = 1)), .int .i64 (v4 : Int), .int .u32 (v8 : Int), .int .u32 (v12 : Int), .slice A1 t.length c1, .slice A3 t2.length c3] 45)).drew)
            case first =>
              go_region_held3 (fun W' => W'.cell? ⟨b, off, none⟩ = some (.int .u8 (x0 : Int)))
                (first | assumption | go_keep | exact keep_alloc (by assumption) hk4)
                (first
                  | (go_at_call 106; refine (HC4.out _ (by first | exact HKK.out | exact (Below.heap_alloc _ _ _ hk4).trans HKK.out)).mono ?_; rintro e w5 ⟨rfl, hw5⟩; subst w5)
                  | (go_at_call 105; refine (HC8.out _ (by first | exact HKK.out | exact (Below.heap_alloc _ _ _ hk4).trans HKK.out)).mono ?_; rintro e w5 ⟨rfl, hw5⟩; subst w5)
                  | (go_at_call 105; refine (HC12.out _ (by first | exact HKK.out | exact (Below.heap_alloc _ _ _ hk4).trans HKK.out)).mono ?_; rintro e w5 ⟨rfl, hw5⟩; subst w5))
              all_goals (go_wp2_with fail; go_meet; exact ⟨rfl, rfl⟩)
            case rest =>
              obtain ⟨rfl, hD⟩ := hcut
              have hbD : RowKit.Below w.heap.size w wc := by rw [hD]; exact (HB4.out.alloc HB4.out.size _).drew
              have hbox8 : EBox wc w4.heap.size (exEl ⟨x0 % 64, decide (128 ≤ x0), decide (x0 / 64 % 2 = 1), v4, v8, v12, t, t2⟩ A1 c1 A3 c3) := by rw [hD]; exact heap_alloc_new w4 _
              have hboxr : wc.heap[w.heap.size]? = some (.cells (elC e0) 45 (0, 0)) := by
                rw [hD]
                exact (Below.heap_alloc _ _ _ (show w.heap.size < w4.heap.size from (Array.getElem?_eq_some_iff.1 HBx4.out).1)).trans HBx4.out
              have hN1D : Nb wc wc.heap.size A1 t.length c1 t := by rw [hD]; exact HN1'.out.far ((Below.refl _ _).alloc (Nat.le_refl _) _).drew
              have hM1D : Nb wc wc.heap.size A3 t2.length c3 t2 := by rw [hD]; exact HM1.out.far ((Below.refl _ _).alloc (Nat.le_refl _) _).drew
              have HBD := Lib.hid hbD
              have HB8 := Lib.hid hbox8
              have HBr := Lib.hid hboxr
              have HN1D := Lib.hid hN1D
              have HM1D := Lib.hid hM1D
              clear hD hbD hbox8 hboxr hN1D hM1D HB4 HBx4 HN1' HM1 HM2 y0
              obtain ⟨c0', -⟩ := HB8.out.cells
              have c0 : wc.cell? ⟨w4.heap.size, 0, none⟩ = some (.int .i64 ((x0 % 64 : Nat) : Int)) := c0'
              clear c0'
              generalize hm2 : r2.length = m2 at *
              cases rb2 with
              | false =>
                have HV := Lib.hid (HEN.out.1 HT2'.out)
                go_wp2_with (refine wpList_store_row rfl 45 (.tmp 2) (.tmp 87) rfl w.heap.size (elC e0) rfl rfl 45 _ HBr.out s47 rfl (el_all _) ?_)
                have hr := setRow_heap wc w.heap.size _ (elC e0) 45 (0, 0) HBr.out
                have hb := below_setRow HBD.out (Nat.le_refl _) (elC e0)
                generalize wc.setRow w.heap.size (elC e0) = D2 at *
                obtain ⟨z0, z1, z2, z3, z4, z5, z6, z7⟩ := EBox.cells (x := e0) hr
                refine bodyPost_ret (v := .tuple #[elV e0, .bool false]) (by simp [results, Tryz.results44, go_sem, z0, z1, z2, z3, z4, z5, z6, z7]) rfl ⟨hb, by rw [HV.out]⟩
              | true =>
                have HV1 := Lib.hid ((HEN.out.2 t2 r2 HT2'.out).trans HEE.out)
                by_cases hr0 : 0 < m2
                · have hr0' : (0 : Int) < (m2 : Int) := by omega
                  have HV := Lib.hid (HV1.out.trans (if_pos (.inl hr0)))
                  go_wp2_with (refine wpList_store_row rfl 45 (.tmp 2) (.tmp 87) rfl w.heap.size (elC e0) rfl rfl 45 _ HBr.out s47 rfl (el_all _) ?_)
                  have hr := setRow_heap wc w.heap.size _ (elC e0) 45 (0, 0) HBr.out
                  have hb := below_setRow HBD.out (Nat.le_refl _) (elC e0)
                  generalize wc.setRow w.heap.size (elC e0) = D2 at *
                  obtain ⟨z0, z1, z2, z3, z4, z5, z6, z7⟩ := EBox.cells (x := e0) hr
                  refine bodyPost_ret (v := .tuple #[elV e0, .bool false]) (by simp [results, Tryz.results44, go_sem, z0, z1, z2, z3, z4, z5, z6, z7]) rfl ⟨hb, by rw [HV.out]⟩
                · have hr0'' : (0 < m2) = False := by simp only [hr0]
                  have hr0' : ((0 : Int) < (m2 : Int)) = False := by simp only [eq_iff_iff, iff_false]; omega
                  by_cases hx0 : x0 % 64 = 0
                  · have HV := Lib.hid (HV1.out.trans (if_pos (.inr hx0)))
                    clear hr0
                    rw [hx0] at c0
                    clear hx0
                    go_wp2_with (refine wpList_store_row rfl 45 (.tmp 2) (.tmp 87) rfl w.heap.size (elC e0) rfl rfl 45 _ HBr.out s47 rfl (el_all _) ?_)
                    have hr := setRow_heap wc w.heap.size _ (elC e0) 45 (0, 0) HBr.out
                    have hb := below_setRow HBD.out (Nat.le_refl _) (elC e0)
                    generalize wc.setRow w.heap.size (elC e0) = D2 at *
                    obtain ⟨z0, z1, z2, z3, z4, z5, z6, z7⟩ := EBox.cells (x := e0) hr
                    refine bodyPost_ret (v := .tuple #[elV e0, .bool false]) (by simp [results, Tryz.results44, go_sem, z0, z1, z2, z3, z4, z5, z6, z7]) rfl ⟨hb, by rw [HV.out]⟩
                  · have HV := Lib.hid (HV1.out.trans (if_neg (by rintro (e | e); exact hr0 e; exact hx0 e)))
                    have k9 : ((((x0 % 64 : Nat)) : Int) == 0) = false := by simp; omega
                    have k9' : (x0 % 64 == 0) = false := by simpa using hx0
                    obtain ⟨X, hX⟩ : ∃ X : Ex, X = ⟨x0 % 64, decide (128 ≤ x0), decide (x0 / 64 % 2 = 1), v4, v8, v12, t, t2⟩ := ⟨_, rfl⟩
                    have HX := Lib.hid hX
                    have HCs := HB8.out.cells
                    have d1 : wc.cell? ⟨w4.heap.size, 1, none⟩ = some (.bool (decide (128 ≤ x0))) := HCs.2.1
                    have d2 : wc.cell? ⟨w4.heap.size, 2, none⟩ = some (.bool (decide (x0 / 64 % 2 = 1))) := HCs.2.2.1
                    have d3 : wc.cell? ⟨w4.heap.size, 3, none⟩ = some (.int .i64 (v4 : Int)) := HCs.2.2.2.1
                    have d4 : wc.cell? ⟨w4.heap.size, 4, none⟩ = some (.int .u32 (v8 : Int)) := HCs.2.2.2.2.1
                    have d5 : wc.cell? ⟨w4.heap.size, 5, none⟩ = some (.int .u32 (v12 : Int)) := HCs.2.2.2.2.2.1
                    have d6 : wc.cell? ⟨w4.heap.size, 6, none⟩ = some (.slice A1 t.length c1) := HCs.2.2.2.2.2.2.1
                    have d7 : wc.cell? ⟨w4.heap.size, 7, none⟩ = some (.slice A3 t2.length c3) := HCs.2.2.2.2.2.2.2
                    rw [← hX] at HV
                    clear HCs hX hx0
                    generalize x0 % 64 = o0 at *
                    generalize decide (128 ≤ x0) = o1 at *
                    generalize decide (x0 / 64 % 2 = 1) = o2 at *
                    go_wp2_with (refine wpList_store_row rfl 45 (.tmp 2) (.tmp 88) rfl w.heap.size (elC (exEl X A1 c1 A3 c3)) rfl (by rw [HX.out]; rfl) 45 _ HBr.out s47 rfl (el_all _) ?_)
                    have hr := setRow_heap wc w.heap.size _ (elC (exEl X A1 c1 A3 c3)) 45 (0, 0) HBr.out
                    have hb := below_setRow HBD.out (Nat.le_refl _) (elC (exEl X A1 c1 A3 c3))
                    have hN1 : Nb (wc.setRow w.heap.size (elC (exEl X A1 c1 A3 c3))) wc.heap.size A1 t.length c1 t := HN1D.out.keepb fun ad e => setRow_other _ _ _ _ (by have := HA1.out ad e; have := HLt.out; omega)
                    have hM1 : Nb (wc.setRow w.heap.size (elC (exEl X A1 c1 A3 c3))) wc.heap.size A3 t2.length c3 t2 := HM1D.out.keepb fun ad e => setRow_other _ _ _ _ (by have := HA2.out ad e; have := HLt3.out; omega)
                    have hsz : (wc.setRow w.heap.size (elC (exEl X A1 c1 A3 c3))).heap.size = wc.heap.size := by simp [World.setRow]
                    generalize wc.setRow w.heap.size (elC (exEl X A1 c1 A3 c3)) = D2 at *
                    rw [← hsz] at hN1 hM1
                    obtain ⟨z0, z1, z2, z3, z4, z5, z6, z7⟩ := EBox.cells (x := exEl X A1 c1 A3 c3) hr
                    refine bodyPost_ret (v := .tuple #[elV (exEl X A1 c1 A3 c3), .bool true]) (by simp [results, Tryz.results44, go_sem, z0, z1, z2, z3, z4, z5, z6, z7]) rfl ⟨hb, ?_⟩
                    rw [HV.out]
                    refine ⟨A1, c1, A3, c3, rfl, fun ad e => Nat.le_trans HbW.out.size (HA1.out ad e), fun ad e => Nat.le_trans HB3s.out (HA2.out ad e), ?_, ?_⟩
                    · rw [HX.out]; exact hN1
                    · rw [HX.out]; exact hM1
        · have HV := Lib.hid (show exOf xs = none by unfold exOf; rw [if_pos (.inr (.inr (.inr h7)))])
          rw [h1] at y1
          rw [h6] at y6
          have j1 : ((xs.getD 7 0 : Int) != 0) = true := by simpa using h7
          have j2 : ((xs.getD 7 0 : Int) == 0) = false := by simpa using h7
          clear h7 HV0 X0 hl l0 h24
          generalize xs.getD 7 0 = x7 at *
          go_enter Tryz.func83, Tryz.ntmps83
          go_upto_region 1 with fail
          rw [← HW.out]
          go_wp2_with (refine wpList_store_row rfl 45 (.tmp 2) (.tmp 30) rfl w.heap.size (elC e0) rfl rfl 45 _ HBx.out s47 rfl (el_all _) ?_)
          have hr := setRow_heap W w.heap.size _ (elC e0) 45 (0, 0) HBx.out
          have hb := below_setRow HbW.out (Nat.le_refl _) (elC e0)
          generalize W.setRow w.heap.size (elC e0) = D2 at *
          obtain ⟨z0, z1, z2, z3, z4, z5, z6, z7⟩ := EBox.cells (x := e0) hr
          refine bodyPost_ret (v := .tuple #[elV e0, .bool false]) (by simp [results, Tryz.results44, go_sem, z0, z1, z2, z3, z4, z5, z6, z7]) rfl ⟨hb, by rw [HV.out]⟩
      · have HV := Lib.hid (show exOf xs = none by unfold exOf; rw [if_pos (.inr (.inr (.inl h6)))])
        rw [h1] at y1
        have j1 : ((xs.getD 6 0 : Int) != 0) = true := by simpa using h6
        have j2 : ((xs.getD 6 0 : Int) == 0) = false := by simpa using h6
        clear h6 HV0 X0 hl l0 h24
        generalize xs.getD 6 0 = x6 at *
        go_enter Tryz.func83, Tryz.ntmps83
        go_upto_region 1 with fail
        rw [← HW.out]
        go_wp2_with (refine wpList_store_row rfl 45 (.tmp 2) (.tmp 30) rfl w.heap.size (elC e0) rfl rfl 45 _ HBx.out s47 rfl (el_all _) ?_)
        have hr := setRow_heap W w.heap.size _ (elC e0) 45 (0, 0) HBx.out
        have hb := below_setRow HbW.out (Nat.le_refl _) (elC e0)
        generalize W.setRow w.heap.size (elC e0) = D2 at *
        obtain ⟨z0, z1, z2, z3, z4, z5, z6, z7⟩ := EBox.cells (x := e0) hr
        refine bodyPost_ret (v := .tuple #[elV e0, .bool false]) (by simp [results, Tryz.results44, go_sem, z0, z1, z2, z3, z4, z5, z6, z7]) rfl ⟨hb, by rw [HV.out]⟩
    · have HV := Lib.hid (show exOf xs = none by unfold exOf; rw [if_pos (.inr (.inl h1))])
      have j1 : ((xs.getD 1 0 : Int) != 0) = true := by simpa using h1
      have j2 : ((xs.getD 1 0 : Int) == 0) = false := by simpa using h1
      clear h1 HV0 X0 hl l0 h24
      generalize xs.getD 1 0 = x1 at *
      go_enter Tryz.func83, Tryz.ntmps83
      go_upto_region 1 with fail
      rw [← HW.out]
      go_wp2_with (refine wpList_store_row rfl 45 (.tmp 2) (.tmp 30) rfl w.heap.size (elC e0) rfl rfl 45 _ HBx.out s47 rfl (el_all _) ?_)
      have hr := setRow_heap W w.heap.size _ (elC e0) 45 (0, 0) HBx.out
      have hb := below_setRow HbW.out (Nat.le_refl _) (elC e0)
      generalize W.setRow w.heap.size (elC e0) = D2 at *
      obtain ⟨z0, z1, z2, z3, z4, z5, z6, z7⟩ := EBox.cells (x := e0) hr
      refine bodyPost_ret (v := .tuple #[elV e0, .bool false]) (by simp [results, Tryz.results44, go_sem, z0, z1, z2, z3, z4, z5, z6, z7]) rfl ⟨hb, by rw [HV.out]⟩
end Go.Proofs.YthipdagebijbiaaGreatDoor.Wi
namespace Go.Proofs.YthipdagebijbiaaGreatDoor.Wi
open Go.RowKit Go.Shelf
set_option linter.unusedVariables false
set_option maxRecDepth 100000
def hd0 : Hd := ⟨0, 0, 0, 0, 0, 0, 0, 0, 0, 0, 0, 0, 0⟩
def pk0 : Pk := ⟨hd0, none, 0, 0, m0⟩
/-- a fault -/
abbrev flV (a e : Int) : Value := .agg #[.int .i64 a, .int .i64 e]
abbrev flC (a e : Int) : Array Value := #[.int .i64 a, .int .i64 e]
theorem s39 : (Tryz.prog.info? 54).map (·.size) = some 2 := by kernel_rfl
theorem fl_all (a e : Int) : ((flC a e).all (·.oneCell')) = true := by simp [Value.oneCell']
def res3 (p : Pk) (k a e : Int) : Value := .tuple #[pkV p, .int .i64 k, flV a e]
set_option maxHeartbeats 1000000 in
theorem refused_any (a e : Int) (w : World) : Calls Tryz.prog 77 #[.int .i64 a, .int .i64 e] w fun en w' => en = .returned (res3 pk0 0 a e) ∧ RowKit.Below w.heap.size w w' := by
  obtain ⟨W1, hW1⟩ : ∃ W, W = w.alloc (.cells #[.int .i64 0, .int .i64 0, .int .i64 0, .int .i64 0, .int .i64 0, .int .i64 0, .int .u32 0, .int .u32 0, .int .u32 0, .int .u64 0, .int .u64 0, .int .u64 0, .int .u64 0, .slice none 0 0, .bool false, .int .u32 0, .slice none 0 0] 51) := ⟨_, rfl⟩
  obtain ⟨W, hW⟩ : ∃ W, W = W1.alloc (.cells #[.int .i64 0, .int .i64 0] 54) := ⟨_, rfl⟩
  have hb1 : RowKit.Below w.heap.size w W1 := by rw [hW1]; exact (Below.refl _ _).alloc (Nat.le_refl _) _
  have hb : RowKit.Below w.heap.size w W := by rw [hW]; exact hb1.alloc hb1.size _
  have hs1 : W1.heap.size = w.heap.size + 1 := by rw [hW1]; simp
  have hx1 : W1.heap[w.heap.size]? = some (.cells (pkC pk0) 51 (0, 0)) := by rw [hW1]; exact heap_alloc_new w _
  have hx : W.heap[w.heap.size]? = some (.cells (pkC pk0) 51 (0, 0)) := by rw [hW]; exact (Below.heap_alloc _ _ _ (by omega)).trans hx1
  have hy : W.heap[w.heap.size + 1]? = some (.cells (flC 0 0) 54 (0, 0)) := by rw [hW, ← hs1]; exact heap_alloc_new W1 _
  have HW := Lib.hid (hW1 ▸ hW)
  have HX := Lib.hid hx
  have HY := Lib.hid hy
  have HB := Lib.hid hb
  clear hW1 hW hb1 hb hs1 hx1 hx hy
  go_enter Tryz.func77, Tryz.ntmps77
  go_upto_region 1 with fail
  rw [← HW.out]
  go_wp2_with (first
    | (refine wpList_store_row rfl 51 (.tmp 4) (.tmp 7) rfl w.heap.size (pkC pk0) rfl rfl 51 _ HX.out s29 rfl (pk_all _) ?_)
    | (refine wpList_store_row rfl 54 (.tmp 6) (.tmp 10) rfl (w.heap.size + 1) (flC a e) rfl rfl 54 _ ((setRow_other W w.heap.size (w.heap.size + 1) (pkC pk0) (by omega)).trans HY.out) s39 rfl (fl_all _ _) ?_))
  obtain ⟨D1, hD1⟩ : ∃ D, D = W.setRow w.heap.size (pkC pk0) := ⟨_, rfl⟩
  have hy1 : D1.heap[w.heap.size + 1]? = some (.cells (flC 0 0) 54 (0, 0)) := by rw [hD1]; exact (setRow_other W w.heap.size (w.heap.size + 1) (pkC pk0) (by omega)).trans HY.out
  have hx1 : D1.heap[w.heap.size]? = some (.cells (pkC pk0) 51 (0, 0)) := by rw [hD1]; exact setRow_heap W w.heap.size _ (pkC pk0) 51 (0, 0) HX.out
  have hb1 : RowKit.Below w.heap.size w D1 := by rw [hD1]; exact below_setRow HB.out (Nat.le_refl _) _
  rw [← hD1]
  clear hD1 HX HY HB HW
  have hy2 := setRow_heap D1 (w.heap.size + 1) _ (flC a e) 54 (0, 0) hy1
  have hx2 := (setRow_other D1 (w.heap.size + 1) w.heap.size (flC a e) (by omega)).trans hx1
  have hb2 := below_setRow hb1 (Nat.le_succ _) (flC a e)
  generalize D1.setRow (w.heap.size + 1) (flC a e) = D2 at *
  have rl1 := run_loadVar_row (P := Tryz.prog) D2 w.heap.size 51 51 _ (0, 0) _ hx2 Tryz.underlying51 rfl s29
  have rl2 := run_loadVar_row (P := Tryz.prog) D2 (w.heap.size + 1) 54 54 _ (0, 0) _ hy2 Tryz.underlying54 rfl s39
  refine bodyPost_ret (v := res3 pk0 0 a e) ?_ rfl ⟨rfl, hb2⟩
  simp [results, Tryz.results41, asAddr, Act.put, rl1, rl2, res3]
theorem fields_any (A : Option Addr) (n c : Nat) (w : World) : Calls Tryz.prog 82 #[.slice A n c] w fun e w' => e = .returned (.func (.func 107) #[] #[.pointer (some ⟨w.heap.size, 0, none⟩)]) ∧ w' = w.alloc (.cells #[.slice A n c] 23) := by
  go_enter Tryz.func82, Tryz.ntmps82
  go_wp2_with fail
  go_ret
  exact ⟨rfl, rfl⟩
theorem fields_yields {A : Option Addr} {n c : Nat} {xs : List Nat} (hn : 48 ≤ n ∧ n ≤ 1073741824) (n0 B1 : Nat) (w : World) (hn0 : n0 ≤ w.heap.size) (hB1 : B1 < w.heap.size) (hc1 : w.cell? ⟨B1, 0, none⟩ = some (.slice A n c)) (hx : Nb w n0 A n c xs) :
    Yields Fence.wide 8 Tryz.prog 107 #[.pointer (some ⟨B1, 0, none⟩)] w.heap.size (fds xs n 48).length (fun k => fdV A c ((fds xs n 48).getD k (0, 0))) (Keeps n0 B1) w := by
  intro l J Jx W hb hJ hY h0
  have hs' := hb.size
  refine fields_in l B1 n0 hn _ rfl J Jx (fun k p W1 hj hp => ?_) hJ W (by omega) (by omega) ((hb.cell (p := ⟨B1, 0, none⟩) hB1).trans hc1) (hx.below (hb.mono hn0)) h0
  have hk : k < (fds xs n 48).length := (List.getElem?_eq_some_iff.1 hp).1
  have := hY k W1 hj hk
  simp only [List.getD_eq_getElem?_getD, hp, Option.getD_some] at this
  exact this
end Go.Proofs.YthipdagebijbiaaGreatDoor.Wi
namespace Go.Proofs.YthipdagebijbiaaGreatDoor.Wi
open Go.RowKit Go.Shelf
set_option linter.unusedVariables false
set_option maxRecDepth 100000
/-- an own row, in blocks from base on -/
def Gw (w : World) (base e size : Nat) (A : Option Addr) (n c : Nat) (cs : List Value) : Prop := w.ownsRow base e size (.slice A n c) n cs
theorem Gw.nil (w : World) (base e size : Nat) : Gw w base e size none 0 0 [] := World.ownsRow_nil w base e size
theorem Gw.alloc {w : World} {base e size n c : Nat} {A : Option Addr} {cs : List Value} (h : Gw w base e size A n c cs) (o : Obj) : Gw (w.alloc o) base e size A n c cs := World.ownsRow.alloc h o
theorem Gw.blk_lt {w : World} {base e size n c : Nat} {A : Option Addr} {cs : List Value} (h : Gw w base e size A n c cs) : ∀ k, blk A = some k → base ≤ k ∧ k < w.heap.size := by
  intro k hk
  rcases h.2 with ⟨e, _⟩ | ⟨g, cap, cur, e, hg, hh, _⟩
  · cases e; cases hk
  · cases e
    cases hk
    refine ⟨hg, ?_⟩
    rcases Nat.lt_or_ge g w.heap.size with hlt | hge
    · exact hlt
    · rw [Array.getElem?_eq_none hge] at hh; cases hh
theorem Gw.keep {w w' : World} {base e size n c : Nat} {A : Option Addr} {cs : List Value} (h : Gw w base e size A n c cs) (hk : ∀ k, blk A = some k → w'.heap[k]? = w.heap[k]?) : Gw w' base e size A n c cs := by
  refine ⟨h.1, ?_⟩
  rcases h.2 with h' | ⟨g, cap, cur, e, hg, hh, hr⟩
  · exact Or.inl h'
  · cases e
    exact Or.inr ⟨g, _, cur, rfl, hg, (hk g rfl).trans hh, hr⟩
theorem Gw.below {w w' : World} {base e size n c : Nat} {A : Option Addr} {cs : List Value} (h : Gw w base e size A n c cs) (b : RowKit.Below w.heap.size w w') : Gw w' base e size A n c cs :=
  h.keep fun k hk => b.block k (h.blk_lt k hk).2
theorem Gw.cell {w : World} {base e size n c : Nat} {A : Option Addr} {cs : List Value} (h : Gw w base e size A n c cs) (hn : 0 < n) (hs : 0 < size) : ∃ g, A = some ⟨g, 0, none⟩ ∧ base ≤ g ∧ g < w.heap.size ∧ ∀ j u, cs[j]? = some u → w.cell? ⟨g, j, none⟩ = some u := by
  rcases h.2 with ⟨e, h0⟩ | ⟨g, cap, cur, e, hg, hh, _, _, _, ht⟩
  · omega
  · cases e
    refine ⟨g, rfl, hg, ?_, fun j u hj => ?_⟩
    · rcases Nat.lt_or_ge g w.heap.size with hlt | hge
      · exact hlt
      · rw [Array.getElem?_eq_none hge] at hh; cases hh
    · rw [cell_of_row w g j cur e (0, 0) hh]
      rw [← ht, List.getElem?_take] at hj
      split at hj
      · simpa using hj
      · cases hj
theorem own_shape' {w : World} {base e size n : Nat} {v : Value} {xs : List Value} (h : w.ownsRow base e size v n xs) : ∃ A c, v = .slice A n c := by
  rcases h.2 with ⟨rfl, rfl⟩ | ⟨g, cap, cur, rfl, _⟩
  · exact ⟨_, _, rfl⟩
  · exact ⟨_, _, rfl⟩

/-- the bytes of a field -/
def fdx (xs : List Nat) (p : Nat × Nat) : List Nat := (xs.drop p.1).take p.2
/-- what is read of fields: where the first lies that is none, or they all, and where they end -/
def goF (xs : List Nat) : List (Nat × Nat) → List Ex → Nat → Nat ⊕ (List Ex × Nat)
  | [], acc, e => .inr (acc, e)
  | p :: r, acc, e => match exOf (fdx xs p) with
    | none => .inl p.1
    | some x => if acc.length = 8 then .inl p.1 else goF xs r (acc ++ [x]) (p.1 + p.2)
theorem fds_ok (xs : List Nat) (f : Nat) : ∀ a, a ≤ xs.length → ∀ p ∈ fds xs f a, p.1 ≤ xs.length ∧ (p.2 = 0 ∨ (24 ≤ p.2 ∧ p.1 + p.2 ≤ xs.length)) := by
  induction f with
  | zero => intro a _ p hp; cases hp
  | succ f ih =>
    intro a ha p hp
    unfold fds at hp
    split at hp
    · cases hp
    · split at hp
      · simp at hp; subst hp; exact ⟨ha, .inl rfl⟩
      · rename_i hbad
        have hb : 24 ≤ nm xs (a + 2) 2 ∧ a + nm xs (a + 2) 2 ≤ xs.length := by
          unfold badB at hbad
          simp only [Bool.or_eq_true, Bool.not_eq_true', beq_eq_false_iff_ne, decide_eq_true_eq] at hbad
          omega
        rcases List.mem_cons.1 hp with e | hp
        · subst e; exact ⟨ha, .inr hb⟩
        · exact ih _ hb.2 p hp
/-- what a field tells -/
def toEx (x : El) : Ex := ⟨x.op.toNat, x.resp, x.bad, x.as_.toNat, x.ts, x.fs, x.xs, x.ys⟩
theorem toEx_exEl (x : Ex) (A : Option Addr) (c : Nat) (B : Option Addr) (d : Nat) : toEx (exEl x A c B d) = x := rfl
/-- all but two blocks are as they were -/
structure Fr (W W' : World) (p e : Nat) : Prop where
  os : W'.os = W.os
  tape : W'.tape = W.tape
  output : W'.output = W.output
  size : W.heap.size ≤ W'.heap.size
  block : ∀ q, q < W.heap.size → q ≠ p → q ≠ e → W'.heap[q]? = W.heap[q]?
theorem Fr.refl (W : World) (p e : Nat) : Fr W W p e := ⟨rfl, rfl, rfl, Nat.le_refl _, fun _ _ _ _ => rfl⟩
theorem Fr.below {W W1 W2 : World} {p e : Nat} (h : Fr W W1 p e) (b : RowKit.Below W1.heap.size W1 W2) : Fr W W2 p e :=
  ⟨b.os.trans h.os, b.tape.trans h.tape, b.output.trans h.output, Nat.le_trans h.size b.size, fun q hq h1 h2 => (b.block q (Nat.lt_of_lt_of_le hq h.size)).trans (h.block q hq h1 h2)⟩
theorem Fr.grown {W W1 W2 : World} {p e : Nat} {row : Option Nat} (h : Fr W W1 p e) (g : W1.grownBy W2 row) (hr : ∀ r, row = some r → W.heap.size ≤ r ∨ r = p ∨ r = e) : Fr W W2 p e :=
  ⟨g.os.trans h.os, g.tape.trans h.tape, g.output.trans h.output, Nat.le_trans h.size g.size, fun q hq h1 h2 => (g.block q (Nat.lt_of_lt_of_le hq h.size) fun e' => by rcases hr q e'.symm with h3 | h3 | h3 <;> omega).trans (h.block q hq h1 h2)⟩
theorem kept_block {W W' : World} {row : Option Nat} {b : Nat} {o : Obj} (h : W.heap[b]? = some o) (ho : o.isCells = true) (hg : W.grownBy W' row) (hrow : ∀ r, row = some r → ∃ o : Obj, W.heap[r]? = some o ∧ o.isCells = false) : W'.heap[b]? = W.heap[b]? :=
  hg.block b (Array.getElem?_eq_some_iff.1 h).1 fun e => by
    obtain ⟨o2, h2, h3⟩ := hrow b e.symm
    rw [h] at h2
    cases h2
    rw [ho] at h3; cases h3
theorem Nb.own {W W' : World} {row : Option Nat} {n c : Nat} {A : Option Addr} {xs : List Nat} (h : Nb W W.heap.size A n c xs) (hg : W.grownBy W' row) (hrow : ∀ r, row = some r → ∃ o : Obj, W.heap[r]? = some o ∧ o.isCells = false) : Nb W' W'.heap.size A n c xs :=
  ⟨h.len, h.cap, h.room, h.lim, fun hn => by
    obtain ⟨b, off, e, hb, hc⟩ := h.cell hn
    exact ⟨b, off, e, Nat.lt_of_lt_of_le hb hg.size, fun j x hx => cell_kept (hc j x hx) hg hrow⟩⟩
/-- the texts of a field lie by themselves -/
structure Ft (W : World) (A : Option Addr) (lo : Nat) (x : El) : Prop where
  one : Nb W W.heap.size x.A x.n x.c x.xs
  two : Nb W W.heap.size x.B x.m x.e x.ys
  far1 : 0 < x.n → ∀ ad, x.A = some ad → lo ≤ ad.block ∧ blk A ≠ some ad.block
  far2 : 0 < x.m → ∀ ad, x.B = some ad → lo ≤ ad.block ∧ blk A ≠ some ad.block
  pos : 0 ≤ x.op ∧ 0 ≤ x.as_
/-- behind some fields: the packet's box at p, where the fields end at e -/
structure Ps (W0 W : World) (p e : Nat) (h : Hd) (es : List Ex) (en : Nat) : Prop where
  fr : Fr W0 W p e
  at_ : W.heap[e]? = some (.cells #[.int .i64 (en : Int)] 3 (0, 0))
  box : ∃ (A : Option Addr) (c : Nat) (els : List El), els.map toEx = es ∧ PBox W p ⟨h, A, es.length, c, m0⟩ ∧ Gw W W0.heap.size 45 8 A es.length c (els.flatMap El.cs) ∧ ∀ x ∈ els, Ft W A W0.heap.size x
theorem Gw.heap {w : World} {base e size n c : Nat} {A : Option Addr} {cs : List Value} (h : Gw w base e size A n c cs) : ∀ k, blk A = some k → ∃ o : Obj, w.heap[k]? = some o ∧ o.isCells = true := by
  intro k hk
  rcases h.2 with ⟨e, _⟩ | ⟨g, cap, cur, e, hg, hh, _⟩
  · cases e; cases hk
  · cases e
    cases hk
    exact ⟨_, hh, rfl⟩
theorem Ps.own {W0 : World} {p e : Nat} {h : Hd} {es : List Ex} {en : Nat} {W W' : World} {row : Option Nat} (s : Ps W0 W p e h es en) (hg : W.grownBy W' row) (hrow : ∀ r, row = some r → W0.heap.size ≤ r ∧ ∃ o : Obj, W.heap[r]? = some o ∧ o.isCells = false) : Ps W0 W' p e h es en := by
  have hr2 : ∀ r, row = some r → ∃ o : Obj, W.heap[r]? = some o ∧ o.isCells = false := fun r e => (hrow r e).2
  obtain ⟨A, c, els, h1, h2, h3, h4⟩ := s.box
  refine ⟨s.fr.grown hg fun r e => .inl (hrow r e).1, (kept_block s.at_ rfl hg hr2).trans s.at_, A, c, els, h1, (kept_block h2 rfl hg hr2).trans h2, h3.keep fun k hk => ?_, fun x hx => ?_⟩
  · obtain ⟨o, ho, hc⟩ := h3.heap k hk
    exact kept_block ho hc hg hr2
  · have := h4 x hx
    exact ⟨this.one.own hg hr2, this.two.own hg hr2, this.far1, this.far2, this.pos⟩
theorem Nb.keepn {w w' : World} {B n c : Nat} {A : Option Addr} {xs : List Nat} (h : Nb w B A n c xs) (hs : B ≤ w'.heap.size) (hk : 0 < n → ∀ ad, A = some ad → w'.heap[ad.block]? = w.heap[ad.block]?) : Nb w' w'.heap.size A n c xs :=
  ⟨h.len, h.cap, h.room, h.lim, fun hn => by
    obtain ⟨b, off, e, hb, hc⟩ := h.cell hn
    exact ⟨b, off, e, Nat.lt_of_lt_of_le hb hs, fun j x hx => (World.cell?_of_block (a := ⟨b, off + j, none⟩) (hk hn ⟨b, off, none⟩ e)).trans (hc j x hx)⟩⟩
theorem Nb.lt {w : World} {B n c : Nat} {A : Option Addr} {xs : List Nat} (h : Nb w B A n c xs) (hn : 0 < n) {ad : Addr} (e : A = some ad) : ad.block < B := by
  obtain ⟨b, off, e2, hb, _⟩ := h.cell hn
  rw [e] at e2
  cases e2
  exact hb
theorem Ft.keep {W W' : World} {A A' : Option Addr} {lo : Nat} {x : El} (h : Ft W A lo x) (hs : W.heap.size ≤ W'.heap.size) (hk : ∀ q, q < W.heap.size → lo ≤ q → blk A ≠ some q → W'.heap[q]? = W.heap[q]?) (hA : blk A' = blk A ∨ ∃ k, blk A' = some k ∧ W.heap.size ≤ k) : Ft W' A' lo x := by
  have far : ∀ q, q < W.heap.size → blk A ≠ some q → blk A' ≠ some q := fun q hq hne e => by
    rcases hA with h1 | ⟨k, h1, hk⟩
    · exact hne (h1.symm.trans e)
    · rw [h1] at e; cases e; omega
  exact ⟨h.one.keepn hs fun hn ad e => hk _ (h.one.lt hn e) (h.far1 hn ad e).1 (h.far1 hn ad e).2, h.two.keepn hs fun hn ad e => hk _ (h.two.lt hn e) (h.far2 hn ad e).1 (h.far2 hn ad e).2,
    fun hn ad e => ⟨(h.far1 hn ad e).1, far _ (h.one.lt hn e) (h.far1 hn ad e).2⟩, fun hn ad e => ⟨(h.far2 hn ad e).1, far _ (h.two.lt hn e) (h.far2 hn ad e).2⟩, h.pos⟩
theorem Ps.below {W0 W W' : World} {p e : Nat} {h : Hd} {es : List Ex} {en : Nat} (s : Ps W0 W p e h es en) (b : RowKit.Below W.heap.size W W') : Ps W0 W' p e h es en := by
  obtain ⟨A, c, els, h1, h2, h3, h4⟩ := s.box
  exact ⟨s.fr.below b, (b.block _ (Array.getElem?_eq_some_iff.1 s.at_).1).trans s.at_, A, c, els, h1, h2.below b, h3.below b, fun x hx => (h4 x hx).keep b.size (fun q hq _ _ => b.block q hq) (.inl rfl)⟩
/-- one field more -/
theorem Ps.grow {W0 W W' : World} {p e : Nat} {h : Hd} {es : List Ex} {en en' : Nat} {A A' : Option Addr} {c c' : Nat} {els : List El} {x : El} (hfr : Fr W0 W p e) (hat : W.heap[e]? = some (.cells #[.int .i64 (en : Int)] 3 (0, 0))) (hp : p < W0.heap.size) (he : e < W0.heap.size) (hpe : p ≠ e)
    (h1 : els.map toEx = es) (h2 : PBox W p ⟨h, A, es.length, c, m0⟩) (hbk : ∀ k, blk A = some k → W0.heap.size ≤ k) (h4 : ∀ y ∈ els, Ft W A W0.heap.size y) (hx : Ft W A W0.heap.size x)
    (hG : Gw W' W0.heap.size 45 8 A' (es.length + 1) c' (els.flatMap El.cs ++ x.cs)) (hgr : Gr W A W' A') :
    Ps W0 ((W'.setCell ⟨p, 13, none⟩ (.slice A' (es.length + 1) c')).setCell ⟨e, 0, none⟩ (.int .i64 (en' : Int))) p e h (es ++ [toEx x]) en' := by
  have hsz : ((W'.setCell ⟨p, 13, none⟩ (.slice A' (es.length + 1) c')).setCell ⟨e, 0, none⟩ (.int .i64 (en' : Int))).heap.size = W'.heap.size := by simp
  have hoth : ∀ q, q ≠ p → q ≠ e → ((W'.setCell ⟨p, 13, none⟩ (.slice A' (es.length + 1) c')).setCell ⟨e, 0, none⟩ (.int .i64 (en' : Int))).heap[q]? = W'.heap[q]? := fun q a b => by
    rw [heap_setCell_other _ _ _ _ (by exact b), heap_setCell_other _ _ _ _ (by exact a)]
  have np : ∀ q, q < W0.heap.size → blk A ≠ some q := fun q hq e' => by have := hbk q e'; omega
  have hP : W'.heap[p]? = _ := (hgr.1.block p h2.lt fun e' => np p hp e'.symm).trans h2
  have hE : W'.heap[e]? = _ := (hgr.1.block e (Array.getElem?_eq_some_iff.1 hat).1 fun e' => np e he e'.symm).trans hat
  have fr1 : Fr W0 W' p e := hfr.grown hgr.1 fun r e' => .inl (hbk r e')
  have hkeep : ∀ y, Ft W A W0.heap.size y → Ft ((W'.setCell ⟨p, 13, none⟩ (.slice A' (es.length + 1) c')).setCell ⟨e, 0, none⟩ (.int .i64 (en' : Int))) A' W0.heap.size y := fun y hy =>
    hy.keep (by rw [hsz]; exact hgr.1.size) (fun q hq hlo hne => (hoth q (by omega) (by omega)).trans (hgr.1.block q hq fun e' => hne e'.symm)) hgr.2
  refine ⟨⟨fr1.os, fr1.tape, fr1.output, by rw [hsz]; exact fr1.size, fun q hq a b => (hoth q a b).trans (fr1.block q hq a b)⟩, ?_, A', c', els ++ [x], by rw [List.map_append, h1]; rfl, ?_, ?_, ?_⟩
  · exact heap_setCell_same _ _ _ _ _ _ ((heap_setCell_other _ _ _ _ (by exact fun e' => hpe e'.symm)).trans hE)
  · unfold PBox
    rw [heap_setCell_other _ _ _ _ (by exact hpe), heap_setCell_same _ _ _ _ _ _ hP, List.length_append]
    rfl
  · rw [List.length_append, List.flatMap_append]
    refine Gw.keep (w := W') (by simpa using hG) fun k hk => hoth k ?_ ?_
    all_goals
      rcases hgr.2 with h5 | ⟨k', h5, hk'⟩
      · have := hbk k (h5.symm.trans hk); omega
      · rw [h5] at hk; cases hk
        have := hfr.size; omega
  · intro y hy
    rcases List.mem_append.1 hy with hy | hy
    · exact hkeep y (h4 y hy)
    · simp at hy; subst hy; exact hkeep y hx
end Go.Proofs.YthipdagebijbiaaGreatDoor.Wi
namespace Go.Proofs.YthipdagebijbiaaGreatDoor.Wi
open Go.RowKit
set_option linter.unusedVariables false
set_option linter.unusedSimpArgs false
theorem by8_lt (s : Nat) (z : Int) (i : Nat) : by8 s z i < 256 := by unfold by8; omega
theorem be_lim (s : Nat) (z : Int) : Lim 256 (be s z) := fun x hx => by
  unfold be at hx
  obtain ⟨i, _, rfl⟩ := List.mem_map.1 hx
  exact by8_lt s z i
theorem by8_succ {s i : Nat} (z : Int) (h : i < s) : by8 (s + 1) z i = by8 s (z / 256) i := by
  unfold by8
  rw [show 8 * (s + 1 - 1 - i) = 8 + 8 * (s - 1 - i) by omega, Int.pow_add, show (2 : Int) ^ 8 = 256 by decide, Int.ediv_ediv_of_nonneg (by decide)]
theorem be_succ (s : Nat) (z : Int) : be (s + 1) z = be s (z / 256) ++ [(z % 256).toNat] := by
  unfold be
  rw [List.range_succ, List.map_append]
  congr 1
  · exact List.map_congr_left fun i hi => by8_succ z (List.mem_range.1 hi)
  · simp [by8]
theorem be_zero (z : Int) : be 0 z = [] := rfl
theorem num_be (s : Nat) : ∀ k : Nat, k < 256 ^ s → num (be s (k : Int)) = k := by
  induction s with
  | zero => intro k h; simp at h; subst h; rfl
  | succ s ih =>
    intro k h
    rw [be_succ, num_snoc, show ((k : Int) / 256) = ((k / 256 : Nat) : Int) by omega, ih (k / 256) (by rw [Nat.pow_succ] at h; omega)]
    omega
theorem be_num : ∀ (s : Nat) (xs : List Nat), xs.length = s → Lim 256 xs → be s (num xs : Nat) = xs := by
  intro s
  induction s with
  | zero => intro xs h _; rw [List.eq_nil_of_length_eq_zero h]; rfl
  | succ s ih =>
    intro xs h hl
    obtain ⟨ys, x, rfl⟩ : ∃ ys x, xs = ys ++ [x] := ⟨xs.dropLast, xs.getLast (by intro e; subst e; simp at h), (List.dropLast_concat_getLast _).symm⟩
    have hx : x < 256 := hl x (by simp)
    rw [be_succ, num_snoc, show (((num ys * 256 + x : Nat) : Int) / 256) = (num ys : Int) by omega, ih ys (by simpa using h) (fun y hy => hl y (by simp [hy]))]
    congr 2
    omega
theorem be1 (z : Int) : be 1 z = [(z % 256).toNat] := by rw [be_succ]; rfl
theorem be2 (z : Int) : be 2 z = [(z / 256 % 256).toNat, (z % 256).toNat] := by rw [be_succ, be1]; rfl
theorem Lim.drop {n : Nat} {xs : List Nat} (h : Lim n xs) (k : Nat) : Lim n (xs.drop k) := fun x hx => h x (List.mem_of_mem_drop hx)
theorem take_pre {α : Type} {a b : List α} {n : Nat} (h : a.length = n) : (a ++ b).take n = a := List.take_left' h
theorem drop_pre {α : Type} {a b : List α} {n : Nat} (h : a.length = n) : (a ++ b).drop n = b := List.drop_left' h
theorem nm_pre {a b c : List Nat} {i k : Nat} (hi : a.length = i) (hk : b.length = k) : nm (a ++ (b ++ c)) i k = num b := by
  unfold nm; rw [drop_pre hi, take_pre hk]
/-- a text that was written is read -/
theorem txt_fwd (ys r : List Nat) (h : ys.length ≤ 2048) : txt (textB ys ++ r) = some (ys, r) := by
  have hn : num (be 4 (ys.length : Nat)) = ys.length := num_be 4 _ (by omega)
  have hl := (fld_lim ys.length).1
  unfold txt textB
  rw [List.append_assoc, List.append_assoc, take_pre (be_length 4 _), drop_pre (be_length 4 _), hn]
  have e1 : (ys ++ (List.replicate (fld ys.length - ys.length) 0 ++ r)).take ys.length = ys := take_pre rfl
  have e2 : (ys ++ (List.replicate (fld ys.length - ys.length) 0 ++ r)).drop ys.length = List.replicate (fld ys.length - ys.length) 0 ++ r := drop_pre rfl
  have e3 : (List.replicate (fld ys.length - ys.length) 0 ++ r).take (fld ys.length - ys.length) = List.replicate (fld ys.length - ys.length) 0 := take_pre (by simp)
  have e4 : (ys ++ (List.replicate (fld ys.length - ys.length) 0 ++ r)).drop (fld ys.length) = r := by
    rw [← List.append_assoc]; exact drop_pre (by simp; omega)
  rw [e2, e3, e1, e4, if_neg (by simp [be_length]), if_neg (by simp; omega), if_pos (by simp)]
/-- a text that is read was written -/
theorem txt_rev {xs t r : List Nat} (hL : Lim 256 xs) (h : txt xs = some (t, r)) : xs = textB t ++ r ∧ t.length ≤ 2048 := by
  unfold txt at h
  split at h
  · cases h
  · rename_i h4
    split at h
    · cases h
    · rename_i h5
      split at h
      · rename_i h6
        cases h
        obtain ⟨L, hLd⟩ : ∃ L, L = num (xs.take 4) := ⟨_, rfl⟩
        rw [← hLd] at h5 h6 ⊢
        have l4 : (xs.drop 4).length = xs.length - 4 := by simp
        have hf := fld_lim L
        have hlt : ((xs.drop 4).take L).length = L := by rw [List.length_take]; omega
        refine ⟨?_, by omega⟩
        unfold textB
        rw [hlt, hLd, be_num 4 _ (by simp; omega) (hL.take 4), ← hLd]
        have hz : ((xs.drop 4).drop L).take (fld L - L) = List.replicate (fld L - L) 0 := by
          refine List.eq_replicate_iff.2 ⟨by simp; omega, fun b hb => ?_⟩
          have := List.all_eq_true.1 h6 b hb
          simpa using this
        rw [← hz, List.append_assoc, List.append_assoc]
        have e1 : (xs.drop 4).drop (fld L) = ((xs.drop 4).drop L).drop (fld L - L) := by rw [List.drop_drop (l := xs.drop 4), show L + (fld L - L) = fld L by omega]
        rw [e1, List.take_append_drop, List.take_append_drop, List.take_append_drop]
      · cases h
/-- a field's first sixteen bytes -/
def hdr (x : El) : List Nat := be 1 (fir x) ++ be 1 0 ++ be 2 (szf x : Nat) ++ be 2 x.as_ ++ be 2 0 ++ be 4 (x.ts : Nat) ++ be 4 (x.fs : Nat)
theorem hdr_length (x : El) : (hdr x).length = 16 := by simp [hdr, be_length]
theorem extB_hdr (x : El) : extB x = hdr x ++ (textB x.xs ++ textB x.ys) := by simp [extB, hdr, List.append_assoc]
theorem hdr_eq (x : El) : hdr x = (fir x % 256).toNat :: 0 :: ((szf x : Int) / 256 % 256).toNat :: ((szf x : Int) % 256).toNat :: (x.as_ / 256 % 256).toNat :: (x.as_ % 256).toNat :: 0 :: 0 :: (be 4 (x.ts : Nat) ++ be 4 (x.fs : Nat)) := by
  simp [hdr, be1, be2]
/-- a field fit to be written and read -/
structure El.fit (x : El) : Prop where
  right : fieldB x = true
  one : x.xs.length = x.n
  two : x.ys.length = x.m
  ts : x.ts < 4294967296
  fs : x.fs < 4294967296
theorem El.fit.lims {x : El} (h : x.fit) : 1 ≤ x.op ∧ x.op ≤ 63 ∧ 0 ≤ x.as_ ∧ x.as_ ≤ 65535 ∧ x.n ≤ 2048 ∧ x.m ≤ 2048 := by
  have := h.right
  unfold fieldB wi at this
  simp only [Bool.and_eq_true, decide_eq_true_eq] at this
  omega
theorem fir_lim {x : El} (h : x.fit) : 0 ≤ fir x ∧ fir x < 256 ∧ (fir x).toNat % 64 = x.op.toNat ∧ decide (128 ≤ (fir x).toNat) = x.resp ∧ decide ((fir x).toNat / 64 % 2 = 1) = x.bad := by
  have := h.lims
  unfold fir
  cases x.resp <;> cases x.bad <;> simp <;> omega
theorem extB_length {x : El} (h : x.fit) : (extB x).length = szf x := by
  rw [extB_hdr, List.length_append, List.length_append, hdr_length, textB_length, textB_length, h.one, h.two]
  unfold szf; omega
theorem ex_fwd {x : El} (h : x.fit) : exOf (extB x) = some (toEx x) := by
  have hl := h.lims
  have hf := fir_lim h
  have e0 : (extB x).drop 16 = textB x.xs ++ (textB x.ys ++ []) := by rw [extB_hdr, drop_pre (hdr_length x), List.append_nil]
  have hts : nm (extB x) 8 4 = x.ts := by
    unfold nm
    rw [extB_hdr, hdr_eq]
    simp only [List.cons_append, List.append_assoc, List.drop_succ_cons, List.drop_zero]
    rw [take_pre (be_length 4 _), num_be 4 _ (by have := h.ts; omega)]
  have hfs : nm (extB x) 12 4 = x.fs := by
    unfold nm
    rw [extB_hdr, hdr_eq]
    simp only [List.cons_append, List.append_assoc, List.drop_succ_cons, List.drop_zero]
    rw [show (be 4 (x.ts : Int) ++ (be 4 (x.fs : Int) ++ (textB x.xs ++ textB x.ys))).drop 4 = be 4 (x.fs : Int) ++ (textB x.xs ++ textB x.ys) from drop_pre (be_length 4 _), take_pre (be_length 4 _), num_be 4 _ (by have := h.fs; omega)]
  have has : nm (extB x) 4 2 = x.as_.toNat := by
    unfold nm
    rw [extB_hdr, hdr_eq]
    simp only [List.cons_append, List.append_assoc, List.drop_succ_cons, List.drop_zero, List.take_succ_cons, List.take_zero]
    simp [num]; omega
  have g0 : (extB x).getD 0 0 = (fir x % 256).toNat := by rw [extB_hdr, hdr_eq]; rfl
  have g1 : (extB x).getD 1 0 = 0 := by rw [extB_hdr, hdr_eq]; rfl
  have g6 : (extB x).getD 6 0 = 0 := by rw [extB_hdr, hdr_eq]; rfl
  have g7 : (extB x).getD 7 0 = 0 := by rw [extB_hdr, hdr_eq]; rfl
  have hlen : (extB x).length ≠ 0 := by rw [extB_length h]; unfold szf; omega
  unfold exOf
  rw [if_neg (by simp only [g1, g6, g7]; simpa using hlen), e0, txt_fwd _ _ (by rw [h.one]; omega)]
  simp only []
  rw [txt_fwd _ _ (by rw [h.two]; omega)]
  simp only [g0]
  rw [show fir x % 256 = fir x by omega, if_neg (by simp only [List.length_nil]; omega), hts, hfs, has, hf.2.2.1, hf.2.2.2.1, hf.2.2.2.2]
  rfl
theorem hi_lo (a b : Nat) (ha : a < 256) (hb : b < 256) : (((a * 256 + b : Nat) : Int) / 256 % 256).toNat = a ∧ (((a * 256 + b : Nat) : Int) % 256).toNat = b := by omega
theorem eight {α : Type} (xs : List α) (h : 8 ≤ xs.length) : ∃ a b c d e f g i r, xs = a :: b :: c :: d :: e :: f :: g :: i :: r := by
  match xs, h with
  | a :: b :: c :: d :: e :: f :: g :: i :: r, _ => exact ⟨a, b, c, d, e, f, g, i, r, rfl⟩
/-- a field that is read was written, and is right -/
theorem ex_rev {xs : List Nat} {x : Ex} (hL : Lim 256 xs) (hs : xs.length = nm xs 2 2) (h : exOf xs = some x) : (exEl x none 0 none 0).fit ∧ extB (exEl x none 0 none 0) = xs := by
  unfold exOf at h
  split at h
  · cases h
  · rename_i hb
    split at h
    · cases h
    · rename_i t r h1
      split at h
      · cases h
      · rename_i t2 r2 h2
        split at h
        · cases h
        · rename_i h3
          have q1 := txt_rev (hL.drop 16) h1
          have hLr : Lim 256 r := fun y hy => hL y (List.mem_of_mem_drop (by rw [q1.1]; exact List.mem_append_right _ hy))
          have q2 := txt_rev hLr h2
          have r20 : r2 = [] := List.eq_nil_of_length_eq_zero (by omega)
          subst r20
          rw [List.append_nil] at q2
          have hlen : 24 ≤ xs.length := by
            have := congrArg List.length q1.1
            rw [q2.1] at this
            rw [List.length_drop, List.length_append, textB_length, textB_length] at this
            omega
          obtain ⟨b0, b1, b2, b3, b4, b5, b6, b7, rest, rfl⟩ := eight xs (by omega)
          cases h
          have l0 := hL b0 (by simp)
          have l2 := hL b2 (by simp)
          have l3 := hL b3 (by simp)
          have l4 := hL b4 (by simp)
          have l5 := hL b5 (by simp)
          simp only [not_or, Nat.not_lt] at hb h3
          simp only [List.getD_cons_succ, List.getD_cons_zero, Decidable.not_not] at hb h3
          obtain ⟨-, rfl, rfl, rfl⟩ := hb
          have n4 : nm (b0 :: 0 :: b2 :: b3 :: b4 :: b5 :: 0 :: 0 :: rest) 4 2 = b4 * 256 + b5 := by simp [nm, num]
          have n2 : nm (b0 :: 0 :: b2 :: b3 :: b4 :: b5 :: 0 :: 0 :: rest) 2 2 = b2 * 256 + b3 := by simp [nm, num]
          have n8 : nm (b0 :: 0 :: b2 :: b3 :: b4 :: b5 :: 0 :: 0 :: rest) 8 4 = num (rest.take 4) := by simp [nm]
          have n12 : nm (b0 :: 0 :: b2 :: b3 :: b4 :: b5 :: 0 :: 0 :: rest) 12 4 = num ((rest.drop 4).take 4) := by simp [nm]
          rw [n2] at hs
          have hrl : 16 ≤ rest.length := by simp at hlen; omega
          have hLrest : Lim 256 rest := fun y hy => hL y (by simp [hy])
          have lt1 : (rest.take 4).length = 4 := by simp; omega
          have lt2 : ((rest.drop 4).take 4).length = 4 := by simp; omega
          have hn8 := num_lt _ (hLrest.take 4)
          have hn12 := num_lt _ ((hLrest.drop 4).take 4)
          rw [lt1] at hn8
          rw [lt2] at hn12
          simp only [List.getD_cons_zero, n4, n8, n12]
          have hfit : (exEl ⟨b0 % 64, decide (128 ≤ b0), decide (b0 / 64 % 2 = 1), b4 * 256 + b5, num (rest.take 4), num ((rest.drop 4).take 4), t, t2⟩ none 0 none 0).fit :=
            ⟨by unfold fieldB wi exEl; simp only [Bool.and_eq_true, decide_eq_true_eq]; omega, rfl, rfl, hn8, hn12⟩
          refine ⟨hfit, ?_⟩
          have hd16 : (b0 :: 0 :: b2 :: b3 :: b4 :: b5 :: 0 :: 0 :: rest).drop 16 = rest.drop 8 := rfl
          rw [hd16, q2.1] at q1
          have hsz : szf (exEl ⟨b0 % 64, decide (128 ≤ b0), decide (b0 / 64 % 2 = 1), b4 * 256 + b5, num (rest.take 4), num ((rest.drop 4).take 4), t, t2⟩ none 0 none 0) = b2 * 256 + b3 := by
            rw [← hs]
            have := congrArg List.length q1.1
            rw [List.length_drop, List.length_append, textB_length, textB_length] at this
            simp only [List.length_cons, szf, exEl]
            omega
          have hfir : (fir (exEl ⟨b0 % 64, decide (128 ≤ b0), decide (b0 / 64 % 2 = 1), b4 * 256 + b5, num (rest.take 4), num ((rest.drop 4).take 4), t, t2⟩ none 0 none 0) % 256).toNat = b0 := by
            unfold fir exEl
            simp only [decide_eq_true_eq]
            split <;> split <;> omega
          rw [extB_hdr, hdr_eq, hfir, hsz]
          simp only [exEl]
          rw [be_num 4 (rest.take 4) lt1 (hLrest.take 4), be_num 4 ((rest.drop 4).take 4) lt2 ((hLrest.drop 4).take 4), ← q1.1]
          have d1 := (hi_lo b2 b3 l2 l3).1
          have d2 := (hi_lo b2 b3 l2 l3).2
          have d3 := (hi_lo b4 b5 l4 l5).1
          have d4 := (hi_lo b4 b5 l4 l5).2
          rw [d1, d2, d3, d4]
          simp only [List.cons_append, List.append_assoc]
          rw [show rest.drop 8 = (rest.drop 4).drop 4 by rw [List.drop_drop], List.take_append_drop, List.take_append_drop]
end Go.Proofs.YthipdagebijbiaaGreatDoor.Wi
namespace Go.Proofs.YthipdagebijbiaaGreatDoor.Wi
open Go.RowKit
set_option linter.unusedVariables false
set_option linter.unusedSimpArgs false
set_option maxRecDepth 100000
/-- a field that was read, without a place -/
def exE (x : Ex) : El := exEl x none 0 none 0
theorem szs_cons (x : El) (l : List El) : szs (x :: l) = szf x + szs l := by simp [szs]
theorem szs_nil : szs [] = 0 := rfl
theorem fld_mod (n : Nat) : fld n % 4 = 0 := by unfold fld; omega
theorem szf_mod (x : El) : szf x % 4 = 0 := by
  have h1 := fld_mod x.n
  have h2 := fld_mod x.m
  unfold szf; omega
theorem szf_ge (x : El) : 24 ≤ szf x := by unfold szf; omega
theorem szs_mod : ∀ l : List El, szs l % 4 = 0
  | [] => rfl
  | x :: l => by rw [szs_cons]; have := szf_mod x; have := szs_mod l; omega
theorem nm_ext {x : El} (h : x.fit) (r : List Nat) : nm (extB x ++ r) 2 2 = szf x := by
  have h1 := szf_lim h.right
  unfold nm
  rw [extB_hdr, hdr_eq]
  simp only [List.cons_append, List.append_assoc, List.drop_succ_cons, List.drop_zero, List.take_succ_cons, List.take_zero]
  simp [num]; omega
theorem nm_drop (xs : List Nat) (a i k : Nat) : nm xs (a + i) k = nm (xs.drop a) i k := by unfold nm; rw [List.drop_drop]
theorem go_fwd (xs mac : List Nat) (hm : mac.length ≤ 20) : ∀ (l : List El) (f a : Nat) (acc : List Ex), (∀ x ∈ l, x.fit) → l.length ≤ f → a ≤ xs.length → xs.drop a = l.flatMap extB ++ mac → acc.length + l.length ≤ 8 → goF xs (fds xs f a) acc a = .inr (acc ++ l.map toEx, a + szs l) := by
  intro l
  induction l with
  | nil =>
    intro f a acc _ _ ha hd _
    have hl := congrArg List.length hd
    simp only [List.length_drop, List.flatMap_nil, List.nil_append] at hl
    have : fds xs f a = [] := by
      cases f with
      | zero => rfl
      | succ f => unfold fds; rw [if_pos (by omega)]
    rw [this]
    simp [goF, szs_nil]
  | cons x l ih =>
    intro f a acc hf hlf ha hd h8
    obtain ⟨f, rfl⟩ : ∃ g, f = g + 1 := ⟨f - 1, by simp at hlf; omega⟩
    have hx := hf x (by simp)
    have hxl := extB_length hx
    have hge := szf_ge x
    have hmod := szf_mod x
    rw [List.flatMap_cons, List.append_assoc] at hd
    have hl := congrArg List.length hd
    rw [List.length_drop, List.length_append, hxl] at hl
    have hn : nm xs (a + 2) 2 = szf x := by rw [nm_drop, hd, nm_ext hx]
    have hfd : fds xs (f + 1) a = (a, szf x) :: fds xs f (a + szf x) := by
      rw [fds, hn, if_neg (by omega), if_neg]
      unfold badB
      simp only [Bool.or_eq_true, Bool.not_eq_true', beq_eq_false_iff_ne, decide_eq_true_eq]
      omega
    have hfx : fdx xs (a, szf x) = extB x := by unfold fdx; dsimp only; rw [hd]; exact take_pre hxl
    rw [hfd]
    unfold goF
    rw [hfx, ex_fwd hx]
    simp only []
    rw [if_neg (by simp at h8; omega)]
    have := ih f (a + szf x) (acc ++ [toEx x]) (fun y hy => hf y (by simp [hy])) (by simp at hlf; omega) (by omega) (by rw [← List.drop_drop, hd]; exact drop_pre hxl) (by simp at h8 ⊢; omega)
    rw [this, szs_cons]
    simp; omega
theorem nm_take {l : List Nat} {s : Nat} (h : 4 ≤ s) : nm (l.take s) 2 2 = nm l 2 2 := by
  unfold nm
  rw [List.drop_take, List.take_take, Nat.min_eq_left (by omega)]
theorem go_rev (xs : List Nat) (hL : Lim 256 xs) : ∀ (f a : Nat) (acc es : List Ex) (en : Nat), a ≤ xs.length → xs.length ≤ a + 20 + 24 * f → acc.length ≤ 8 → goF xs (fds xs f a) acc a = .inr (es, en) →
    ∃ l : List Ex, es = acc ++ l ∧ (∀ x ∈ l, (exE x).fit) ∧ xs.drop a = (l.map exE).flatMap extB ++ xs.drop en ∧ en ≤ xs.length ∧ xs.length ≤ en + 20 ∧ en = a + szs (l.map exE) ∧ es.length ≤ 8 := by
  intro f
  induction f with
  | zero =>
    intro a acc es en ha hl h8 h
    simp only [fds, goF] at h
    cases h
    exact ⟨[], by simp, by simp, by simp, ha, by omega, by simp [szs_nil], h8⟩
  | succ f ih =>
    intro a acc es en ha hl h8 h
    rw [fds] at h
    split at h
    · simp only [goF] at h
      cases h
      exact ⟨[], by simp, by simp, by simp, ha, by omega, by simp [szs_nil], h8⟩
    · split at h
      · unfold goF at h
        rw [show fdx xs (a, 0) = [] from List.take_zero, show exOf [] = none from rfl] at h
        simp only [] at h
        cases h
      · rename_i hb
        obtain ⟨s, hs⟩ : ∃ s, s = nm xs (a + 2) 2 := ⟨_, rfl⟩
        rw [← hs] at h hb
        have hb2 : s % 4 = 0 ∧ 24 ≤ s ∧ s ≤ xs.length - a := by
          unfold badB at hb
          simp only [Bool.or_eq_true, Bool.not_eq_true', beq_eq_false_iff_ne, decide_eq_true_eq] at hb
          omega
        unfold goF at h
        split at h
        · cases h
        · rename_i x hx
          split at h
          · cases h
          · rename_i hc
            have hfl : (fdx xs (a, s)).length = s := by unfold fdx; simp; omega
            have hr := ex_rev (xs := fdx xs (a, s)) ((hL.drop a).take s) (by rw [hfl]; unfold fdx; dsimp only; rw [nm_take (by omega), hs, nm_drop]) hx
            obtain ⟨l, h1, h2, h3, h4, h5, h6, h7⟩ := ih (a + s) (acc ++ [x]) es en (by omega) (by omega) (by simp; omega) h
            have hse : szf (exE x) = s := by
              have := extB_length hr.1
              rw [hr.2, hfl] at this
              exact this.symm
            refine ⟨x :: l, by rw [h1]; simp, ?_, ?_, h4, h5, ?_, h7⟩
            · intro y hy
              rcases List.mem_cons.1 hy with rfl | hy
              · exact hr.1
              · exact h2 y hy
            · rw [List.map_cons, List.flatMap_cons, List.append_assoc, ← h3, show extB (exE x) = fdx xs (a, s) from hr.2, ← List.drop_drop]
              exact (List.take_append_drop s (xs.drop a)).symm
            · rw [List.map_cons, szs_cons, hse, h6]; omega
/-- a head's numbers fit -/
structure Hd.ok (h : Hd) : Prop where
  d : h.dl < 4294967296 ∧ h.di < 4294967296 ∧ h.rf < 4294967296
  t : h.re < 18446744073709551616 ∧ h.og < 18446744073709551616 ∧ h.rc < 18446744073709551616 ∧ h.xm < 18446744073709551616
theorem headW_length (h : Hd) : (headW h).length = 48 := by simp [headW, be_length]
theorem sg_of (z : Int) (h : -128 ≤ z ∧ z ≤ 127) : sg (z % 256).toNat = z := by unfold sg; split <;> omega
theorem head_fwd {h : Hd} (hb : headB h = true) (hk : h.ok) (r : List Nat) : hdOf (headW h ++ r) = h := by
  have hb' : 0 ≤ h.lp ∧ h.lp ≤ 3 ∧ h.ve = 4 ∧ 1 ≤ h.mo ∧ h.mo ≤ 5 ∧ 0 ≤ h.st ∧ h.st ≤ 16 ∧ 0 ≤ h.po ∧ h.po ≤ 17 ∧ -128 ≤ h.pr ∧ h.pr ≤ 127 := by
    unfold headB kindB wi at hb
    simp only [Bool.and_eq_true, decide_eq_true_eq] at hb
    omega
  obtain ⟨d1, d2, d3⟩ := hk.d
  obtain ⟨t1, t2, t3, t4⟩ := hk.t
  have e4 : headW h ++ r = [(fh h % 256).toNat, (h.st % 256).toNat, (h.po % 256).toNat, (h.pr % 256).toNat] ++ (be 4 (h.dl : Nat) ++ (be 4 (h.di : Nat) ++ be 4 (h.rf : Nat) ++ be 8 (h.re : Nat) ++ be 8 (h.og : Nat) ++ be 8 (h.rc : Nat) ++ be 8 (h.xm : Nat) ++ r)) := by
    simp [headW, be1]
  have n4 : nm (headW h ++ r) 4 4 = h.dl := by rw [e4, nm_pre (by simp) (be_length 4 _), num_be 4 _ (by omega)]
  have n8 : nm (headW h ++ r) 8 4 = h.di := by
    rw [show headW h ++ r = (be 1 (fh h) ++ be 1 h.st ++ be 1 h.po ++ be 1 h.pr ++ be 4 (h.dl : Nat)) ++ (be 4 (h.di : Nat) ++ (be 4 (h.rf : Nat) ++ be 8 (h.re : Nat) ++ be 8 (h.og : Nat) ++ be 8 (h.rc : Nat) ++ be 8 (h.xm : Nat) ++ r)) by simp [headW], nm_pre (by simp [be_length]) (be_length 4 _), num_be 4 _ (by omega)]
  have n12 : nm (headW h ++ r) 12 4 = h.rf := by
    rw [show headW h ++ r = (be 1 (fh h) ++ be 1 h.st ++ be 1 h.po ++ be 1 h.pr ++ be 4 (h.dl : Nat) ++ be 4 (h.di : Nat)) ++ (be 4 (h.rf : Nat) ++ (be 8 (h.re : Nat) ++ be 8 (h.og : Nat) ++ be 8 (h.rc : Nat) ++ be 8 (h.xm : Nat) ++ r)) by simp [headW], nm_pre (by simp [be_length]) (be_length 4 _), num_be 4 _ (by omega)]
  have n16 : nm (headW h ++ r) 16 8 = h.re := by
    rw [show headW h ++ r = (be 1 (fh h) ++ be 1 h.st ++ be 1 h.po ++ be 1 h.pr ++ be 4 (h.dl : Nat) ++ be 4 (h.di : Nat) ++ be 4 (h.rf : Nat)) ++ (be 8 (h.re : Nat) ++ (be 8 (h.og : Nat) ++ be 8 (h.rc : Nat) ++ be 8 (h.xm : Nat) ++ r)) by simp [headW], nm_pre (by simp [be_length]) (be_length 8 _), num_be 8 _ (by omega)]
  have n24 : nm (headW h ++ r) 24 8 = h.og := by
    rw [show headW h ++ r = (be 1 (fh h) ++ be 1 h.st ++ be 1 h.po ++ be 1 h.pr ++ be 4 (h.dl : Nat) ++ be 4 (h.di : Nat) ++ be 4 (h.rf : Nat) ++ be 8 (h.re : Nat)) ++ (be 8 (h.og : Nat) ++ (be 8 (h.rc : Nat) ++ be 8 (h.xm : Nat) ++ r)) by simp [headW], nm_pre (by simp [be_length]) (be_length 8 _), num_be 8 _ (by omega)]
  have n32 : nm (headW h ++ r) 32 8 = h.rc := by
    rw [show headW h ++ r = (be 1 (fh h) ++ be 1 h.st ++ be 1 h.po ++ be 1 h.pr ++ be 4 (h.dl : Nat) ++ be 4 (h.di : Nat) ++ be 4 (h.rf : Nat) ++ be 8 (h.re : Nat) ++ be 8 (h.og : Nat)) ++ (be 8 (h.rc : Nat) ++ (be 8 (h.xm : Nat) ++ r)) by simp [headW], nm_pre (by simp [be_length]) (be_length 8 _), num_be 8 _ (by omega)]
  have n40 : nm (headW h ++ r) 40 8 = h.xm := by
    rw [show headW h ++ r = (be 1 (fh h) ++ be 1 h.st ++ be 1 h.po ++ be 1 h.pr ++ be 4 (h.dl : Nat) ++ be 4 (h.di : Nat) ++ be 4 (h.rf : Nat) ++ be 8 (h.re : Nat) ++ be 8 (h.og : Nat) ++ be 8 (h.rc : Nat)) ++ (be 8 (h.xm : Nat) ++ r) by simp [headW], nm_pre (by simp [be_length]) (be_length 8 _), num_be 8 _ (by omega)]
  have g0 : (headW h ++ r).getD 0 0 = (fh h % 256).toNat := by rw [e4]; rfl
  have g1 : (headW h ++ r).getD 1 0 = (h.st % 256).toNat := by rw [e4]; rfl
  have g2 : (headW h ++ r).getD 2 0 = (h.po % 256).toNat := by rw [e4]; rfl
  have g3 : (headW h ++ r).getD 3 0 = (h.pr % 256).toNat := by rw [e4]; rfl
  unfold hdOf
  rw [n4, n8, n12, n16, n24, n32, n40, g0, g1, g2, g3, sg_of h.pr (by omega)]
  have f0 : fh h = h.lp * 64 + 32 + h.mo := by unfold fh; omega
  have a1 : (((fh h % 256).toNat / 64 : Nat) : Int) = h.lp := by omega
  have a2 : (((fh h % 256).toNat / 8 % 8 : Nat) : Int) = h.ve := by omega
  have a3 : (((fh h % 256).toNat % 8 : Nat) : Int) = h.mo := by omega
  have a4 : (((h.st % 256).toNat : Nat) : Int) = h.st := by omega
  have a5 : (((h.po % 256).toNat : Nat) : Int) = h.po := by omega
  rw [a1, a2, a3, a4, a5]
theorem be_nm {xs : List Nat} (hL : Lim 256 xs) (i k : Nat) (h : i + k ≤ xs.length) : be k (nm xs i k : Nat) = (xs.drop i).take k :=
  be_num k _ (by simp; omega) ((hL.drop i).take k)
theorem take_plus (xs : List Nat) (i k : Nat) : xs.take (i + k) = xs.take i ++ (xs.drop i).take k := List.take_add
theorem sg_back (x : Nat) (h : x < 256) : (sg x % 256).toNat = x := by unfold sg; split <;> omega
theorem head_rev {xs : List Nat} (hL : Lim 256 xs) (h : 48 ≤ xs.length) : headW (hdOf xs) = xs.take 48 := by
  have e : xs.take 48 = xs.take 4 ++ (xs.drop 4).take 4 ++ (xs.drop 8).take 4 ++ (xs.drop 12).take 4 ++ (xs.drop 16).take 8 ++ (xs.drop 24).take 8 ++ (xs.drop 32).take 8 ++ (xs.drop 40).take 8 := by
    rw [← take_plus xs 4 4, ← take_plus xs 8 4, ← take_plus xs 12 4, ← take_plus xs 16 8, ← take_plus xs 24 8, ← take_plus xs 32 8, ← take_plus xs 40 8]
  have e4 : be 1 (fh (hdOf xs)) ++ be 1 (hdOf xs).st ++ be 1 (hdOf xs).po ++ be 1 (hdOf xs).pr = xs.take 4 := by
    obtain ⟨x0, x1, x2, x3, x4, x5, x6, x7, r, rfl⟩ := eight xs (by omega)
    have l0 := hL x0 (by simp)
    have l1 := hL x1 (by simp)
    have l2 := hL x2 (by simp)
    have l3 := hL x3 (by simp)
    rw [be1, be1, be1, be1]
    unfold hdOf fh
    simp only [List.getD_cons_zero, List.getD_cons_succ, List.take_succ_cons, List.take_zero, List.cons_append, List.nil_append]
    rw [sg_back x3 l3]
    have a0 : (((x0 / 64 : Nat) : Int) * 64 + ((x0 / 8 % 8 : Nat) : Int) * 8 + ((x0 % 8 : Nat) : Int)) % 256 = (x0 : Int) := by clear hL; omega
    have a1 : ((x1 : Int) % 256).toNat = x1 := by clear hL; omega
    have a2 : ((x2 : Int) % 256).toNat = x2 := by clear hL; omega
    rw [a0, a1, a2]
    rfl
  rw [e, ← be_nm hL 4 4 (by omega), ← be_nm hL 8 4 (by omega), ← be_nm hL 12 4 (by omega), ← be_nm hL 16 8 (by omega), ← be_nm hL 24 8 (by omega), ← be_nm hL 32 8 (by omega), ← be_nm hL 40 8 (by omega), ← e4]
  rfl
theorem hdOf_ok {xs : List Nat} (hL : Lim 256 xs) : (hdOf xs).ok := by
  have l : ∀ i k, k ≤ 8 → nm xs i k < 256 ^ k := fun i k hk => Nat.lt_of_lt_of_le (num_lt _ ((hL.drop i).take k)) (Nat.pow_le_pow_right (by decide) (by simp; omega))
  exact ⟨⟨l 4 4 (by decide), l 8 4 (by decide), l 12 4 (by decide)⟩, l 16 8 (by decide), l 24 8 (by decide), l 32 8 (by decide), l 40 8 (by decide)⟩
theorem getD_lt {xs : List Nat} (hL : Lim 256 xs) (i : Nat) : xs.getD i 0 < 256 := hL.get (by decide) i
theorem headB_of {xs : List Nat} (hL : Lim 256 xs) (h1 : kindB (hdOf xs) = true) (h2 : wi (hdOf xs).st 0 16 = true) (h3 : wi (hdOf xs).po 0 17 = true) : headB (hdOf xs) = true := by
  have l0 := getD_lt hL 0
  have l3 := getD_lt hL 3
  have hp : wi (hdOf xs).pr (-128) 127 = true := by
    unfold hdOf wi sg
    simp only [decide_eq_true_eq]
    split <;> omega
  have hl : wi (hdOf xs).lp 0 3 = true := by
    unfold hdOf wi
    simp only [decide_eq_true_eq]
    omega
  unfold headB
  rw [hl, h1, h2, h3, hp]
  rfl
/-- a field that a program made says the same as its reading -/
theorem ee {x : El} (h : 0 ≤ x.op ∧ 0 ≤ x.as_) (h1 : x.xs.length = x.n) (h2 : x.ys.length = x.m) : extB (exE (toEx x)) = extB x ∧ szf (exE (toEx x)) = szf x ∧ fieldB (exE (toEx x)) = fieldB x ∧ ((exE (toEx x)).fit → x.fit) := by
  obtain ⟨op, resp, bad, as_, ts, fs, A, n, c, B, m, e, xs, ys⟩ := x
  obtain ⟨ho, ha⟩ := h
  dsimp only at ho ha h1 h2
  subst h1 h2
  obtain ⟨op, rfl⟩ := Int.eq_ofNat_of_zero_le ho
  obtain ⟨as_, rfl⟩ := Int.eq_ofNat_of_zero_le ha
  exact ⟨rfl, rfl, rfl, fun f => ⟨f.right, rfl, rfl, f.ts, f.fs⟩⟩
end Go.Proofs.YthipdagebijbiaaGreatDoor.Wi
namespace Go.Proofs.YthipdagebijbiaaGreatDoor.Wi
open Go.RowKit Go.Shelf
set_option linter.unusedVariables false
set_option linter.unusedSimpArgs false
set_option maxRecDepth 100000
attribute [local go_sem] Oper.semAt_some
theorem wpListIn_store_row {F : Fence} {n : Nat} {P : Program} {ops : Array Oper} {rest : List Oper} {o : Oper} {a : Act} {w : World} {Q : Exit → Act → World → Prop} (hgd : o.guard = none) (ty : TypeId) (x v : Operand) (ho : o.op = .store ty x v)
    (g : Nat) (cells : Array Value) (hx : a.eval x = .pointer (some ⟨g, 0, none⟩)) (hv : a.eval v = .agg cells) (t : TypeId) (old : Array Value) (hg : w.heap[g]? = some (.cells old t (0, 0)))
    (hi : (P.info? ty).map (·.size) = some cells.size) (hold : old.size = cells.size) (h1 : cells.all (·.oneCell') = true)
    (h : wpListIn F n P ops Q rest (a.put o.dst undef) (w.setRow g cells)) : wpListIn F n P ops Q (o :: rest) a w := by
  refine wpListIn_plain hgd fun K hK => ?_
  unfold Oper.wpIn
  refine ⟨?_, ?_⟩
  · simp [Oper.about, ho]
  · rw [Oper.semAt_plain F _ _ (by rw [ho]; intro c hc'; cases hc')]
    unfold execOp
    simp only [ho, hx, hv, Instr.storeAt, Instr.sureAddr, Sem.run_bind, Sem.run_pure, Result.andThen_ok, run_storeVar_row w g t ty old cells hg hi hold h1]
    exact hK _ _ h
theorem wpListIn_load_row {F : Fence} {n : Nat} {P : Program} {ops : Array Oper} {rest : List Oper} {o : Oper} {a : Act} {w : World} {Q : Exit → Act → World → Prop} (hgd : o.guard = none) (ty : TypeId) (x : Operand) (ho : o.op = .load ty x)
    (g : Nat) (hx : a.eval x = .pointer (some ⟨g, 0, none⟩)) (t : TypeId) (cs : Array Value) (fr : Nat × Nat) (d : TypeDesc) (hg : w.heap[g]? = some (.cells cs t fr))
    (hu : P.underlying ty = some d) (hd : (match d with | .struct _ | .array _ _ => true | _ => false) = true) (hi : (P.info? ty).map (·.size) = some cs.size)
    (h : wpListIn F n P ops Q rest (a.put o.dst (.agg cs)) w) : wpListIn F n P ops Q (o :: rest) a w := by
  refine wpListIn_plain hgd fun K hK => ?_
  unfold Oper.wpIn
  refine ⟨?_, ?_⟩
  · simp [Oper.about, ho]
  · rw [Oper.semAt_plain F _ _ (by rw [ho]; intro c hc'; cases hc')]
    unfold execOp
    simp only [ho, hx, Instr.loadAt, Instr.sureAddr, Sem.run_bind, Sem.run_pure, Result.andThen_ok, run_loadVar_row w g t ty cs fr d hg hu hd hi]
    exact hK _ _ h
theorem refused2 (a e : Int) (w : World) : Calls Tryz.prog 77 #[.int .i64 a, .int .i64 e] w fun en w' => en = .returned (.tuple #[pkV pk0, .int .i64 0, flV a e]) ∧ RowKit.Below w.heap.size w w' := refused_any a e w
theorem res31 {D : World} {s : Nat} {p : Pk} {k a e : Int} (hx : D.heap[s]? = some (.cells (pkC p) 51 (0, 0))) (hy : D.heap[s + 1]? = some (.cells #[.int .i64 k] 3 (0, 0))) (hz : D.heap[s + 1 + 1]? = some (.cells (flC a e) 54 (0, 0))) (tmps : Array Value)
    (h2 : tmps[2]? = some (.pointer (some ⟨s, 0, none⟩))) (h3 : tmps[3]? = some (.pointer (some ⟨s + 1, 0, none⟩))) (h4 : tmps[4]? = some (.pointer (some ⟨s + 1 + 1, 0, none⟩))) : (results Tryz.f43 tmps).run Tryz.prog D = .ok (res3 p k a e) D := by
  have rl1 := run_loadVar_row (P := Tryz.prog) D s 51 51 _ (0, 0) _ hx Tryz.underlying51 rfl s29
  have rl2 := run_loadVar_row (P := Tryz.prog) D (s + 1 + 1) 54 54 _ (0, 0) _ hz Tryz.underlying54 rfl s39
  have c1 : D.cell? ⟨s + 1, 0, none⟩ = some (.int .i64 k) := by rw [cell_of_row D _ 0 _ 3 (0, 0) hy]; rfl
  have rl3 : (loadVar 3 ⟨s + 1, 0, none⟩).run Tryz.prog D = .ok (.int .i64 k) D := by simp [go_sem, c1]
  simp [results, Tryz.results31, asAddr, h2, h3, h4, rl1, rl2, rl3, res3]
/-- the world behind the three stores of a result -/
def bw (w1 : World) (s : Nat) (p : Pk) (k a e : Int) : World := ((w1.setRow s (pkC p)).setCell ⟨s + 1, 0, none⟩ (.int .i64 k)).setRow (s + 1 + 1) (flC a e)
theorem bw_mid {w1 : World} {s : Nat} {p : Pk} {k a e : Int} (hz : w1.heap[s + 1 + 1]? = some (.cells (flC a e) 54 (0, 0))) : ((w1.setRow s (pkC p)).setCell ⟨s + 1, 0, none⟩ (.int .i64 k)).heap[s + 1 + 1]? = some (.cells (flC a e) 54 (0, 0)) :=
  (heap_setCell_other _ _ _ _ (by dsimp only; omega)).trans ((setRow_other _ _ _ _ (by omega)).trans hz)
theorem bw_cell {w1 : World} {s : Nat} {p : Pk} {k : Int} (hy : w1.heap[s + 1]? = some (.cells #[.int .i64 k] 3 (0, 0))) : (w1.setRow s (pkC p)).cell? ⟨s + 1, 0, none⟩ = some (.int .i64 k) ∧ (w1.setRow s (pkC p)).frozen? ⟨s + 1, 0, none⟩ = false := by
  have h := (setRow_other w1 s (s + 1) (pkC p) (by omega)).trans hy
  exact ⟨by rw [cell_of_row _ _ 0 _ 3 (0, 0) h]; rfl, frozen_of_row _ _ 0 _ 3 h⟩
theorem bw_at {w1 : World} {s : Nat} {p p' : Pk} {k k' a e a' e' : Int} (hx : w1.heap[s]? = some (.cells (pkC p') 51 (0, 0))) (hy : w1.heap[s + 1]? = some (.cells #[.int .i64 k'] 3 (0, 0))) (hz : w1.heap[s + 1 + 1]? = some (.cells (flC a' e') 54 (0, 0))) :
    (bw w1 s p k a e).heap[s]? = some (.cells (pkC p) 51 (0, 0)) ∧ (bw w1 s p k a e).heap[s + 1]? = some (.cells #[.int .i64 k] 3 (0, 0)) ∧ (bw w1 s p k a e).heap[s + 1 + 1]? = some (.cells (flC a e) 54 (0, 0)) := by
  refine ⟨?_, ?_, ?_⟩
  · exact (setRow_other _ _ _ _ (by omega)).trans ((heap_setCell_other _ _ _ _ (by dsimp only; omega)).trans (setRow_heap _ _ _ _ _ _ hx))
  · exact (setRow_other _ _ _ _ (by omega)).trans (heap_setCell_same _ _ _ _ _ _ ((setRow_other _ _ _ _ (by omega)).trans hy))
  · exact setRow_heap _ _ _ _ _ _ (bw_mid hz)
theorem bw_below {w w1 : World} {s : Nat} {p : Pk} {k a e : Int} {B : Nat} (b : RowKit.Below B w w1) (hB : B ≤ s) : RowKit.Below B w (bw w1 s p k a e) :=
  below_setRow ((below_setRow b hB _).setCell (by dsimp only; omega) _) (by omega) _
theorem bw_other {w1 : World} {s q : Nat} {p : Pk} {k a e : Int} (h1 : q ≠ s) (h2 : q ≠ s + 1) (h3 : q ≠ s + 1 + 1) : (bw w1 s p k a e).heap[q]? = w1.heap[q]? :=
  (setRow_other _ _ _ _ h3).trans ((heap_setCell_other _ _ _ _ (by exact h2)).trans (setRow_other _ _ _ _ h1))
theorem bw_size (w1 : World) (s : Nat) (p : Pk) (k a e : Int) : (bw w1 s p k a e).heap.size = w1.heap.size := by simp [bw]
theorem range_stops2 {P : Program} {F : Fence} {n : Nat} {g : Operand} {p1 p2 q1 q2 : Tmp} {assign body : Code} {Q : Exit → Act → World → Prop} {a : Act} {w : World} (u1 u2 : Nat → Value)
    (hro : F.round = none) (h1 : 1 ≤ n) {gf : FuncId} {lb : Array Value} (hg : a.eval g = .func (.func gf) #[] lb) (hFg : F.fn gf) (eg : ∀ args w, (callFunc gf args).run P w = .ok (.enter gf args) w)
    {N : Nat} {Kp : World → World → Prop} (hseq : Yields F (n - 1) P gf lb w.heap.size N (fun k => #[u1 k, u2 k]) Kp w)
    (hKt : ∀ A B C, Kp A B → Kp B C → Kp A C) (hKb : ∀ (A : World) (l : Nat) (o o' : Obj), w.heap.size ≤ l → A.heap[l]? = some o → o.isCells = false → Kp A (A.putObj l o'))
    (J Jx : Nat → World → Prop) (hJ : OwnFrom w.heap.size J) (hJx : OwnFrom w.heap.size Jx) (h0 : J 0 w)
    (hassign : ∀ (l k : Nat) (W : World) (K : Act → World → Prop), K { tmps := (((a.tmps.setIfInBounds p1 (u1 k)).setIfInBounds p2 (u2 k)).setIfInBounds q1 (u1 k)).setIfInBounds q2 (u2 k), defers := [] } W →
      assign.wpIn (F.inRound l) (n - 1 - 1) P (Exit.then K (fun _ _ _ => False)) { tmps := (a.tmps.setIfInBounds p1 (u1 k)).setIfInBounds p2 (u2 k), defers := [] } W)
    (hbody : ∀ (l k : Nat) (W : World), J k W → k < N →
      body.wpIn (F.inRound l) (n - 1 - 1) P (fun e _ W' => KeepsOthers W W' ∧ ((e = .normal ∧ Kp W W' ∧ J (k + 1) W') ∨ (e = .ret ∧ Jx k W'))) { tmps := (((a.tmps.setIfInBounds p1 (u1 k)).setIfInBounds p2 (u2 k)).setIfInBounds q1 (u1 k)).setIfInBounds q2 (u2 k), defers := [] } W)
    (hdone : ∀ (D : Nat) (W : World), w.heap.size ≤ D → J N W → W.heap[D]? = some (.deferred (some [])) → Q .normal { a with defers := { target := .collected D, args := #[] } :: a.defers } W)
    (hstop : ∀ (D k : Nat) (W : World), w.heap.size ≤ D → k < N → Jx k W → W.heap[D]? = some (.deferred (some [])) → Code.ret.wpIn F n P Q { a with defers := { target := .collected D, args := #[] } :: a.defers } W) :
    (Code.rangeFunc g #[p1, p2] assign body).wpIn F n P Q a w :=
  range_stops hro h1 hg hFg eg hseq (fun k => rfl) hKt hKb J Jx hJ hJx h0 (fun k => { tmps := (((a.tmps.setIfInBounds p1 (u1 k)).setIfInBounds p2 (u2 k)).setIfInBounds q1 (u1 k)).setIfInBounds q2 (u2 k), defers := [] })
    (fun l k W K hK => by
      have := hassign l k W K hK
      simpa using this) hbody hdone hstop
theorem keeps_below {W W' : World} (h : RowKit.Below W.heap.size W W') : KeepsOthers W W' := KeepsOthers.of_grownBy (below_grown h) (fun j o e => by cases e)
theorem keeps_setRow {w : World} {g : Nat} (cs : Array Value) {cur : Array Value} {t : TypeId} {fr : Nat × Nat} (h : w.heap[g]? = some (.cells cur t fr)) : KeepsOthers w (w.setRow g cs) :=
  KeepsOthers.of_grownBy (row := some g) ⟨rfl, rfl, rfl, by simp [World.setRow], fun k hk hne => setRow_other w g k _ (by intro e; subst e; exact hne rfl)⟩ (fun j o e hj => by cases e; rw [h] at hj; cases hj; rfl)
theorem bw_keeps {w1 : World} {s : Nat} {p p' : Pk} {k a e a' e' : Int} (hx : w1.heap[s]? = some (.cells (pkC p') 51 (0, 0))) (hz : w1.heap[s + 1 + 1]? = some (.cells (flC a' e') 54 (0, 0))) : KeepsOthers w1 (bw w1 s p k a e) :=
  ((keeps_setRow _ hx).trans (KeepsOthers.setCell _ _ _)).trans (keeps_setRow (cur := flC a' e') (t := 54) (fr := (0, 0)) _ ((heap_setCell_other _ _ _ _ (by dsimp only; omega)).trans ((setRow_other _ _ _ _ (by omega)).trans hz)))
theorem grow_facts {w11 w12 : World} {p e m c3 en : Nat} {A3 A' : Option Addr} {h : Hd} (hP : PBox w11 p ⟨h, A3, m, c3, m0⟩) (hE : w11.heap[e]? = some (.cells #[.int .i64 (en : Int)] 3 (0, 0))) (hgr : Gr w11 A3 w12 A') (hbk : ∀ k, blk A3 = some k → p < k ∧ e < k) (hpe : p < e) (v : Value) :
    w12.cell? ⟨p, 13, none⟩ = some (.slice A3 m c3) ∧ w12.frozen? ⟨p, 13, none⟩ = false ∧ (w12.setCell ⟨p, 13, none⟩ v).cell? ⟨e, 0, none⟩ = some (.int .i64 (en : Int)) ∧ (w12.setCell ⟨p, 13, none⟩ v).frozen? ⟨e, 0, none⟩ = false := by
  have hP2 : PBox w12 p ⟨h, A3, m, c3, m0⟩ := (hgr.1.block p hP.lt fun e' => by have := (hbk p e'.symm).1; omega).trans hP
  have hE2 : w12.heap[e]? = some (.cells #[.int .i64 (en : Int)] 3 (0, 0)) := (hgr.1.block e (Array.getElem?_eq_some_iff.1 hE).1 fun e' => by have := (hbk e e'.symm).2; omega).trans hE
  have hE3 := (heap_setCell_other w12 ⟨p, 13, none⟩ e v (by dsimp only; omega)).trans hE2
  obtain ⟨-, -, -, -, -, -, -, -, -, -, -, -, -, c13, -⟩ := hP2.cells
  exact ⟨c13, frozen_of_row w12 p 13 _ 51 hP2, by rw [cell_of_row _ _ 0 _ 3 (0, 0) hE3]; rfl, frozen_of_row _ _ 0 _ 3 hE3⟩
theorem i47 : (Tryz.prog.info? 45).map (fun i => (i.zero, i.size, i.bytes)) = some (some (.agg (elC e0)), 8, 80) := by kernel_rfl
theorem cs_one (x : El) : ∀ u ∈ x.cs, u.oneCell' = true := by
  intro u hu
  simp [El.cs] at hu
  rcases hu with rfl | rfl | rfl | rfl | rfl | rfl | rfl | rfl <;> rfl
theorem wpListIn_push {F : Fence} {nF : Nat} {P : Program} (w : World) {ops : Array Oper} {rest : List Oper} {o : Oper} {a : Act} {Q : Exit → Act → World → Prop} (hgd : o.guard = none) (s x : Operand) (t : TypeId)
    (ho : o.op = .call { callee := .builtin .append, args := #[s, x], argTypes := #[t, t] }) {base e size bytes : Nat} {z : Value} (ht : P.underlying t = some (.slice e))
    (hinf : (P.info? e).map (fun i => (i.zero, i.size, i.bytes)) = some (some z, size, bytes)) (hzs : z.cells.size = size) (hsz : 0 < size) (hby : bytes ≤ 128)
    {n c g : Nat} {A : Option Addr} {cs : List Value} (news : List Value) {t2 : TypeId}
    (hs : a.eval s = .slice A n c) (hown : Gw w base e size A n c cs) (hx : a.eval x = .slice (some ⟨g, 0, none⟩) 1 1) (hl : news.length = size)
    (hc : w.heap[g]? = some (.cells news.toArray t2 (0, 0))) (h1 : ∀ u ∈ news, u.oneCell' = true) (hn : n ≤ 1099511627775) (hbase : base ≤ w.heap.size)
    (h : ∀ A' c' w', Gw w' base e size A' (n + 1) c' (cs ++ news) → Gr w A w' A' → wpListIn F nF P ops Q rest (a.put o.dst (.slice A' (n + 1) c')) w') : wpListIn F nF P ops Q (o :: rest) a w := by
  obtain ⟨i0, hi, hz0, hz1, hz2⟩ := info_parts hinf
  refine wpListIn_append_own_at w hgd s x t ho base e i0 z size bytes ht hi hz0 hz1 hz2 hzs hsz _ n cs hs hown ⟨g, 0, none⟩ 1 1 news hx (by omega) (World.news_of_block hc) h1 (by unfold maxLen; omega)
    (by have := Nat.mul_le_mul (show n + 1 ≤ 1099511627776 by omega) hby; omega) hbase ?_
  intro v' w' h2 h3 _ h5
  obtain ⟨A', c', rfl⟩ := own_shape' h2
  rw [own_blk] at h3
  rw [own_blk, own_blk] at h5
  exact h A' c' w' h2 ⟨h3, h5.imp id fun e => ⟨_, e, Nat.le_refl _⟩⟩
theorem still_load_row {P : Program} {o : Oper} {a : Act} {w : World} {K : Act → Prop} (ty : TypeId) (x : Operand) (ho : o.op = .load ty x)
    (g : Nat) (hx : a.eval x = .pointer (some ⟨g, 0, none⟩)) (t : TypeId) (cs : Array Value) (fr : Nat × Nat) (d : TypeDesc) (hg : w.heap[g]? = some (.cells cs t fr))
    (hu : P.underlying ty = some d) (hd : (match d with | .struct _ | .array _ _ => true | _ => false) = true) (hi : (P.info? ty).map (·.size) = some cs.size)
    (h : K (a.put o.dst (.agg cs))) : o.still P a w K := by
  unfold Oper.still execOp
  simp only [ho, hx, Instr.loadAt, Instr.sureAddr, Sem.run_bind, Sem.run_pure, Result.andThen_ok, run_loadVar_row w g t ty cs fr d hg hu hd hi]
  exact ⟨rfl, h⟩
theorem wp_load_one {o : Oper} {a : Act} {w : World} {K : Act → World → Prop} {Q : Exit → Act → World → Prop} (x : Operand) (ho : o.op = .load 3 x) {g : Nat} (hx : a.eval x = .pointer (some ⟨g, 0, none⟩)) {v : Value} (hc : w.cell? ⟨g, 0, none⟩ = some v) (h : K (a.put o.dst v) w) : o.wp Tryz.prog a w K Q := by
  have rl : (loadVar 3 ⟨g, 0, none⟩).run Tryz.prog w = .ok v w := by simp [go_sem, hc]
  unfold Oper.wp execOp
  simp only [ho, hx, Instr.loadAt, Instr.sureAddr, Sem.run_bind, Sem.run_pure, Result.andThen_ok, rl]
  exact h
theorem wp_store_one {o : Oper} {a : Act} {w : World} {K : Act → World → Prop} {Q : Exit → Act → World → Prop} (x y : Operand) (ho : o.op = .store 3 x y) {g : Nat} (hx : a.eval x = .pointer (some ⟨g, 0, none⟩)) {v : Int} (hv : a.eval y = .int .i64 v) {u : Value} (hc : w.cell? ⟨g, 0, none⟩ = some u) (hf : w.frozen? ⟨g, 0, none⟩ = false)
    (h : K (a.put o.dst undef) (w.setCell ⟨g, 0, none⟩ (.int .i64 v))) : o.wp Tryz.prog a w K Q := by
  have rs : (storeVar 3 ⟨g, 0, none⟩ (.int .i64 v)).run Tryz.prog w = .ok () (w.setCell ⟨g, 0, none⟩ (.int .i64 v)) := by simp [go_sem, hc, hf]
  unfold Oper.wp execOp
  simp only [ho, hx, hv, Instr.storeAt, Instr.sureAddr, Sem.run_bind, Sem.run_pure, Result.andThen_ok, rs]
  exact h
theorem wp_build39 {o : Oper} {a : Act} {w : World} {K : Act → World → Prop} {Q : Exit → Act → World → Prop} (ho : o.op = .build 54 #[]) (h : K (a.put o.dst (flV 0 0)) w) : o.wp Tryz.prog a w K Q := by
  have e : (Tryz.prog.built 54 ([] : List (Nat × Value))).getD #[] = flC 0 0 := by kernel_rfl
  refine wp_build 54 #[] ho (by kernel_rfl) ?_
  have e2 : (#[].map fun (x : Nat × Operand) => match x with | (i, x) => (i, a.eval x)).toList = ([] : List (Nat × Value)) := by simp
  rw [e2, e]
  exact h
theorem tm_other (a : Act) {d k : Nat} (v : Value) (h : k ≠ d) : (a.put (some d) v).tmps[k]? = a.tmps[k]? := by simp [Act.put, Ne.symm h]
theorem tm_same (a : Act) {d : Nat} (v : Value) (h : d < a.tmps.size) : (a.put (some d) v).tmps[d]? = some v := by simp [Act.put, h]
theorem tm_size (a : Act) (d : Nat) (v : Value) : (a.put (some d) v).tmps.size = a.tmps.size := by simp [Act.put]
theorem tm_def (a : Act) (d : Nat) (v : Value) : (a.put (some d) v).defers = a.defers := by simp [Act.put]
theorem put_none (a : Act) (v : Value) : a.put none v = a := rfl
theorem ev_of {a : Act} {k : Nat} {v : Value} (h : a.tmps[k]? = some v) : a.eval (.tmp k) = v := by
  simp [Act.eval, h]
theorem wp_gen {P : Program} {c : Code} {Q : Exit → Act → World → Prop} {a : Act} {w : World} {v2 v3 v4 v5 v6 : Value} {n : Nat} {ds : List Deferred} (h2 : a.tmps[2]? = some v2) (h3 : a.tmps[3]? = some v3) (h4 : a.tmps[4]? = some v4) (h5 : a.tmps[5]? = some v5) (h6 : a.tmps[6]? = some v6) (hs : a.tmps.size = n) (hd : a.defers = ds)
    (h : ∀ a0 : Act, a0.tmps[2]? = some v2 → a0.tmps[3]? = some v3 → a0.tmps[4]? = some v4 → a0.tmps[5]? = some v5 → a0.tmps[6]? = some v6 → a0.tmps.size = n → a0.defers = ds → c.wp P Q a0 w) : c.wp P Q a w := h a h2 h3 h4 h5 h6 hs hd
/-- a fault in a field: the results are laid -/
structure Jb (w W : World) (a : Int) : Prop where
  one : W.heap[w.heap.size]? = some (.cells (pkC pk0) 51 (0, 0))
  two : W.heap[w.heap.size + 1]? = some (.cells #[.int .i64 0] 3 (0, 0))
  three : W.heap[w.heap.size + 1 + 1]? = some (.cells (flC a 101) 54 (0, 0))
  bel : RowKit.Below w.heap.size w W
theorem Jb.own {w W W' : World} {a : Int} {row : Option Nat} (s : Jb w W a) (hg : W.grownBy W' row) (hrow : ∀ r, row = some r → w.heap.size ≤ r ∧ ∃ o : Obj, W.heap[r]? = some o ∧ o.isCells = false) : Jb w W' a := by
  have hr2 : ∀ r, row = some r → ∃ o : Obj, W.heap[r]? = some o ∧ o.isCells = false := fun r e => (hrow r e).2
  exact ⟨(kept_block s.one rfl hg hr2).trans s.one, (kept_block s.two rfl hg hr2).trans s.two, (kept_block s.three rfl hg hr2).trans s.three, s.bel.grown hg s.bel.size fun r e => (hrow r e).1⟩
/-- what is read of bytes -/
inductive Pr where
  | bad (a e : Nat)
  | ok (h : Hd) (es : List Ex) (en : Nat)
def macN (k : Nat) : Bool := k == 0 || (k == 4 || k == 20)
def prs (xs : List Nat) : Pr :=
  if 8192 < xs.length then .bad 0 2
  else if xs.length < 48 then .bad xs.length 72
  else if kindB (hdOf xs) = false then .bad 0 100
  else if wi (hdOf xs).st 0 16 = false then .bad 1 100
  else if wi (hdOf xs).po 0 17 = false then .bad 2 100
  else match goF xs (fds xs xs.length 48) [] 48 with
    | .inl a => .bad a 101
    | .inr (es, en) => if macN (xs.length - en) = true then .ok (hdOf xs) es en else .bad en 102
/-- the Mac that some bytes are, its sum in blocks from lo on -/
def McOf (w : World) (lo : Nat) (xs : List Nat) (m : Mc) : Prop := (xs.length = 0 ∧ m = m0) ∨ (xs.length ≠ 0 ∧ ∃ A c, m = ⟨true, num (xs.take 4), A, xs.length - 4, c⟩ ∧ (∀ ad, A = some ad → lo ≤ ad.block) ∧ Nb w w.heap.size A (xs.length - 4) c (xs.drop 4))
def PrPost (xs : List Nat) (w : World) (e : Ending) (w' : World) : Prop :=
  RowKit.Below w.heap.size w w' ∧
  match prs xs with
  | .bad a k => e = .returned (res3 pk0 0 a k)
  | .ok h es en => ∃ (A : Option Addr) (c : Nat) (els : List El) (m : Mc), e = .returned (res3 ⟨h, A, es.length, c, m⟩ en 0 0) ∧ els.map toEx = es ∧ Gw w' w.heap.size 45 8 A es.length c (els.flatMap El.cs) ∧ (∀ x ∈ els, Ft w' A w.heap.size x) ∧ McOf w' w.heap.size (xs.drop en) m
theorem Gw.weak {w : World} {b b' e size n c : Nat} {A : Option Addr} {cs : List Value} (h : Gw w b e size A n c cs) (hb : b' ≤ b) : Gw w b' e size A n c cs :=
  ⟨h.1, h.2.imp id fun ⟨g, cap, cur, e, hg, r⟩ => ⟨g, cap, cur, e, Nat.le_trans hb hg, r⟩⟩
theorem McOf.below {w w' : World} {lo : Nat} {xs : List Nat} {m : Mc} (h : McOf w lo xs m) (b : RowKit.Below w.heap.size w w') : McOf w' lo xs m := by
  rcases h with h | ⟨h, A, c, e, f, hn⟩
  · exact .inl h
  · exact .inr ⟨h, A, c, e, f, hn.far b⟩
theorem good_end {w W10 U : World} {s D p lo lo2 : Nat} {xs : List Nat} {hd : Hd} {A : Option Addr} {c en : Nat} {els : List El} {es : List Ex} {m : Mc}
    (hs : s = w.heap.size) (hlo : s + 2 < lo) (hp : p < lo) (hD : lo ≤ D) (hV : prs xs = .ok hd es en) (hB : RowKit.Below w.heap.size w U) (ho : ∀ q, q ≠ p → U.heap[q]? = W10.heap[q]?) (hsz : U.heap.size = W10.heap.size)
    (hK : W10.heap[D]? = some (.deferred (some []))) (h1 : els.map toEx = es) (h3 : Gw W10 lo 45 8 A es.length c (els.flatMap El.cs)) (h4 : ∀ x ∈ els, Ft W10 A lo x) (hm : McOf W10 lo2 (xs.drop en) m) (hlo2 : lo ≤ lo2) :
    PrPost xs w (.returned (res3 ⟨hd, A, es.length, c, m⟩ en 0 0)) ((bw U s ⟨hd, A, es.length, c, m⟩ en 0 0).putObj D (.deferred none)) := by
  obtain ⟨V, hVe⟩ : ∃ V, V = bw U s ⟨hd, A, es.length, c, m⟩ en 0 0 := ⟨_, rfl⟩
  have bV : RowKit.Below w.heap.size w V := by rw [hVe]; exact bw_below hB (by omega)
  have sV : V.heap.size = W10.heap.size := by rw [hVe, bw_size, hsz]
  have oV : ∀ q, lo ≤ q → V.heap[q]? = W10.heap[q]? := fun q hq => by
    rw [hVe, bw_other (by omega) (by omega) (by omega)]
    exact ho q (by omega)
  have kV : V.heap[D]? = some (.deferred (some [])) := (oV D hD).trans hK
  rw [← hVe]
  clear hVe
  have hg : V.grownBy (V.putObj D (.deferred none)) (some D) := grownBy_putObj' V D (.deferred none)
  have hr : ∀ r, some D = some r → ∃ o : Obj, V.heap[r]? = some o ∧ o.isCells = false := fun r e => by cases e; exact ⟨_, kV, rfl⟩
  refine ⟨bV.grown hg bV.size (fun r e => by cases e; omega), ?_⟩
  rw [hV]
  refine ⟨A, c, els, m, rfl, h1, ?_, fun x hx => ?_, ?_⟩
  · refine Gw.weak (b := lo) ?_ (by omega)
    have h3' : Gw V lo 45 8 A es.length c (els.flatMap El.cs) := h3.keep fun k hk => oV k (h3.blk_lt k hk).1
    refine h3'.keep fun k hk => ?_
    obtain ⟨o, ho2, hc⟩ := h3'.heap k hk
    exact kept_block ho2 hc hg hr
  · have f : Ft V A lo x := (h4 x hx).keep (by omega) (fun q _ hq _ => oV q hq) (.inl rfl)
    exact ⟨f.one.own hg hr, f.two.own hg hr, fun hn ad e => ⟨Nat.le_trans (by omega) (f.far1 hn ad e).1, (f.far1 hn ad e).2⟩, fun hn ad e => ⟨Nat.le_trans (by omega) (f.far2 hn ad e).1, (f.far2 hn ad e).2⟩, f.pos⟩
  · rcases hm with h | ⟨h, A5, c5, e, f, hn⟩
    · exact .inl h
    · refine .inr ⟨h, A5, c5, e, fun ad ea => by have := f ad ea; omega, ?_⟩
      have hn2 : Nb V V.heap.size A5 ((xs.drop en).length - 4) c5 ((xs.drop en).drop 4) := by
        have := hn.keepn (w' := V) (by omega) (fun _ ad ea => oV _ (by have := f ad ea; omega))
        exact this
      exact hn2.own hg hr
set_option maxHeartbeats 4000000 in
theorem parse_any {w : World} {n c : Nat} {A : Option Addr} {xs : List Nat} (h : Nb w w.heap.size A n c xs) (hn : n ≤ 1073741824) :
    Calls Tryz.prog 43 #[.slice A n c] w (PrPost xs w) := by
  obtain ⟨Wa, hWa⟩ : ∃ W, W = w.alloc (.cells #[.int .i64 0, .int .i64 0, .int .i64 0, .int .i64 0, .int .i64 0, .int .i64 0, .int .u32 0, .int .u32 0, .int .u32 0, .int .u64 0, .int .u64 0, .int .u64 0, .int .u64 0, .slice none 0 0, .bool false, .int .u32 0, .slice none 0 0] 51) := ⟨_, rfl⟩
  obtain ⟨Wb, hWb⟩ : ∃ W, W = Wa.alloc (.cells #[.int .i64 0] 3) := ⟨_, rfl⟩
  obtain ⟨W, hW⟩ : ∃ W, W = Wb.alloc (.cells #[.int .i64 0, .int .i64 0] 54) := ⟨_, rfl⟩
  have hb1 : RowKit.Below w.heap.size w Wa := by rw [hWa]; exact (Below.refl _ _).alloc (Nat.le_refl _) _
  have hs1 : Wa.heap.size = w.heap.size + 1 := by rw [hWa]; simp
  have hs2 : Wb.heap.size = w.heap.size + 2 := by rw [hWb]; simp [hs1]
  have hs3 : W.heap.size = w.heap.size + 3 := by rw [hW]; simp [hs2]
  have hb2 : RowKit.Below w.heap.size w Wb := by rw [hWb]; exact hb1.alloc (by omega) _
  have hb : RowKit.Below w.heap.size w W := by rw [hW]; exact hb2.alloc (by omega) _
  have hx1 : Wa.heap[w.heap.size]? = some (.cells (pkC pk0) 51 (0, 0)) := by rw [hWa]; exact heap_alloc_new w _
  have hx2 : Wb.heap[w.heap.size]? = some (.cells (pkC pk0) 51 (0, 0)) := by rw [hWb]; exact (Below.heap_alloc _ _ _ (by omega)).trans hx1
  have hX : W.heap[w.heap.size]? = some (.cells (pkC pk0) 51 (0, 0)) := by rw [hW]; exact (Below.heap_alloc _ _ _ (by omega)).trans hx2
  have hy2 : Wb.heap[w.heap.size + 1]? = some (.cells #[.int .i64 0] 3 (0, 0)) := by rw [hWb, ← hs1]; exact heap_alloc_new Wa _
  have hY : W.heap[w.heap.size + 1]? = some (.cells #[.int .i64 0] 3 (0, 0)) := by rw [hW]; exact (Below.heap_alloc _ _ _ (by omega)).trans hy2
  have hZ : W.heap[w.heap.size + 1 + 1]? = some (.cells (flC 0 0) 54 (0, 0)) := by rw [hW, show w.heap.size + 1 + 1 = Wb.heap.size by omega]; exact heap_alloc_new Wb _
  have HW := Lib.hid (show W = ((w.alloc (.cells #[.int .i64 0, .int .i64 0, .int .i64 0, .int .i64 0, .int .i64 0, .int .i64 0, .int .u32 0, .int .u32 0, .int .u32 0, .int .u64 0, .int .u64 0, .int .u64 0, .int .u64 0, .slice none 0 0, .bool false, .int .u32 0, .slice none 0 0] 51)).alloc (.cells #[.int .i64 0] 3)).alloc (.cells #[.int .i64 0, .int .i64 0] 54) by rw [hW, hWb, hWa])
  have HX := Lib.hid hX
  have HY := Lib.hid hY
  have HZ := Lib.hid hZ
  have HB := Lib.hid hb
  have HH := Lib.hid h
  have hlen := h.len
  clear hWa hWb hW hb1 hs1 hs2 hb2 hb hx1 hx2 hX hy2 hY hZ h
  refine (callsIn_wide (n := 9)).1 ?_
  refine callsIn_of_wp_marks Tryz.func43 rfl trivial ?_ rfl
  simp only [Tryz.ntmps43, List.size_toArray, List.length_cons, List.length_nil, Nat.reduceAdd, Nat.reduceSub, Array.replicate_succ, Array.replicate_zero, List.push_toArray, List.append_toArray, List.nil_append, List.cons_append]
  by_cases h1 : 8192 < n
  · have HV := Lib.hid (show prs xs = .bad 0 2 by unfold prs; rw [if_pos (by rw [hlen]; exact h1)])
    have k1 : (8192 : Int) < (n : Int) := by omega
    gi_wp2_with fail
    rw [← HW.out]
    refine ⟨trivial, (callsIn_wide.2 (refused2 0 2 W)).mono ?_⟩
    rintro e w1 ⟨rfl, b1⟩
    have x1 := (b1.block _ (Array.getElem?_eq_some_iff.1 HX.out).1).trans HX.out
    have y1 := (b1.block _ (Array.getElem?_eq_some_iff.1 HY.out).1).trans HY.out
    have z1 := (b1.block _ (Array.getElem?_eq_some_iff.1 HZ.out).1).trans HZ.out
    have B1 := bthen HB.out b1 (Nat.le_refl _)
    gi_wp2_with (first
      | (refine wpListIn_store_row rfl 51 (.tmp 2) (.tmp 17) rfl w.heap.size (pkC pk0) rfl rfl 51 _ x1 s29 rfl (pk_all _) ?_; obtain ⟨c2, f2⟩ := bw_cell (p := pk0) y1)
      | (refine wpListIn_store_row rfl 54 (.tmp 4) (.tmp 19) rfl (w.heap.size + 1 + 1) (flC 0 2) rfl rfl 54 _ (bw_mid z1) s39 rfl (fl_all _ _) ?_))
    obtain ⟨v1, v2, v3⟩ := bw_at (p := pk0) (k := 0) (a := 0) (e := 2) x1 y1 z1
    have B2 := bw_below (p := pk0) (k := 0) (a := 0) (e := 2) B1 (Nat.le_refl _)
    exact ⟨_, res31 v1 v2 v3 _ rfl rfl rfl, B2, by rw [HV.out]; rfl⟩
  · have k1 : (n : Int) ≤ 8192 := by omega
    by_cases h2 : n < 48
    · have HV := Lib.hid (show prs xs = .bad n 72 by unfold prs; rw [if_neg (by rw [hlen]; exact h1), if_pos (by rw [hlen]; exact h2), hlen])
      have k2 : (n : Int) < 48 := by omega
      gi_wp2_with fail
      rw [← HW.out]
      refine ⟨trivial, (callsIn_wide.2 (refused2 n 72 W)).mono ?_⟩
      rintro e w1 ⟨rfl, b1⟩
      have x1 := (b1.block _ (Array.getElem?_eq_some_iff.1 HX.out).1).trans HX.out
      have y1 := (b1.block _ (Array.getElem?_eq_some_iff.1 HY.out).1).trans HY.out
      have z1 := (b1.block _ (Array.getElem?_eq_some_iff.1 HZ.out).1).trans HZ.out
      have B1 := bthen HB.out b1 (Nat.le_refl _)
      gi_wp2_with (first
        | (refine wpListIn_store_row rfl 51 (.tmp 2) (.tmp 26) rfl w.heap.size (pkC pk0) rfl rfl 51 _ x1 s29 rfl (pk_all _) ?_; obtain ⟨c2, f2⟩ := bw_cell (p := pk0) y1)
        | (refine wpListIn_store_row rfl 54 (.tmp 4) (.tmp 28) rfl (w.heap.size + 1 + 1) (flC n 72) rfl rfl 54 _ (bw_mid z1) s39 rfl (fl_all _ _) ?_))
      obtain ⟨v1, v2, v3⟩ := bw_at (p := pk0) (k := 0) (a := n) (e := 72) x1 y1 z1
      have B2 := bw_below (p := pk0) (k := 0) (a := n) (e := 72) B1 (Nat.le_refl _)
      exact ⟨_, res31 v1 v2 v3 _ rfl rfl rfl, B2, by rw [HV.out]; rfl⟩
    · have k2 : (48 : Int) ≤ (n : Int) := by omega
      have HH2 := Lib.hid (HH.out.below HB.out)
      have HV0 := Lib.hid (show prs xs = (if kindB (hdOf xs) = false then .bad 0 100 else if wi (hdOf xs).st 0 16 = false then .bad 1 100 else if wi (hdOf xs).po 0 17 = false then .bad 2 100
        else match goF xs (fds xs n 48) [] 48 with
          | .inl a => .bad a 101
          | .inr (es, en) => if macN (n - en) = true then .ok (hdOf xs) es en else .bad en 102) by unfold prs; rw [if_neg (by rw [hlen]; exact h1), if_neg (by rw [hlen]; exact h2), hlen])
      have HHd := Lib.hid (head_of_any (w := W) HH2.out HB.out.size (by omega))
      have HP := Lib.hid (show 48 ≤ n by omega)
      clear h1 h2
      gi_wp2_with fail
      rw [← HW.out]
      refine ⟨trivial, (callsIn_wide.2 HHd.out).mono ?_⟩
      rintro e w1 ⟨rfl, b1⟩
      generalize hdOf xs = hd at *
      have x1 := Lib.hid ((b1.block _ (Array.getElem?_eq_some_iff.1 HX.out).1).trans HX.out)
      have y1 := Lib.hid ((b1.block _ (Array.getElem?_eq_some_iff.1 HY.out).1).trans HY.out)
      have z1 := Lib.hid ((b1.block _ (Array.getElem?_eq_some_iff.1 HZ.out).1).trans HZ.out)
      have B1 := Lib.hid (bthen HB.out b1 (Nat.le_refl _))
      clear b1 HX HY HZ HB HHd HH2
      obtain ⟨W5, hW5⟩ : ∃ W5, W5 = (w1.alloc (.cells #[.int .i64 0, .int .i64 0, .int .i64 0, .int .i64 0, .int .i64 0, .int .i64 0, .int .u32 0, .int .u32 0, .int .u32 0, .int .u64 0, .int .u64 0, .int .u64 0, .int .u64 0, .slice none 0 0, .bool false, .int .u32 0, .slice none 0 0] 51)).setRow w1.heap.size (pkC ⟨hd, none, 0, 0, m0⟩) := ⟨_, rfl⟩
      have p5 : PBox W5 w1.heap.size ⟨hd, none, 0, 0, m0⟩ := by rw [hW5]; exact setRow_heap _ _ _ _ _ _ (heap_alloc_new w1 _)
      have b5 : RowKit.Below w1.heap.size w1 W5 := by rw [hW5]; exact below_setRow ((Below.refl _ _).alloc (Nat.le_refl _) _) (Nat.le_refl _) _
      have HW5 := Lib.hid hW5
      have HP5 := Lib.hid p5
      have HB5 := Lib.hid b5
      have HKd := Lib.hid (kind_any ⟨hd, none, 0, 0, m0⟩ W5)
      clear hW5 p5 b5
      gi_wp2_with (first
        | (refine wpListIn_store_row rfl 51 (.tmp 5) (.tmp 30) rfl w1.heap.size (pkC ⟨hd, none, 0, 0, m0⟩) rfl rfl 51 _ (heap_alloc_new w1 _) s29 rfl (pk_all _) ?_; rw [← HW5.out])
        | (refine wpListIn_load_row rfl 51 (.tmp 5) rfl w1.heap.size rfl 51 (pkC ⟨hd, none, 0, 0, m0⟩) (0, 0) _ HP5.out Tryz.underlying51 rfl s29 ?_))
      refine ⟨trivial, (callsIn_wide.2 HKd.out).mono ?_⟩
      rintro e w6 ⟨rfl, b6⟩
      have HP6 := Lib.hid (HP5.out.below b6)
      have b16 := bthen HB5.out b6 (Nat.le_refl _)
      have X6 := Lib.hid ((b16.block _ (Array.getElem?_eq_some_iff.1 x1.out).1).trans x1.out)
      have Y6 := Lib.hid ((b16.block _ (Array.getElem?_eq_some_iff.1 y1.out).1).trans y1.out)
      have Z6 := Lib.hid ((b16.block _ (Array.getElem?_eq_some_iff.1 z1.out).1).trans z1.out)
      have B6 := Lib.hid (bthen B1.out b16 (Nat.le_refl _))
      have HLt := Lib.hid (show w1.heap.size < w6.heap.size ∧ w.heap.size + 3 ≤ w1.heap.size from ⟨HP6.out.lt, Nat.lt_of_le_of_lt (Nat.le_refl _) (Array.getElem?_eq_some_iff.1 z1.out).1⟩)
      obtain ⟨-, -, -, c3, c4, -⟩ := HP6.out.cells
      have c3' : w6.cell? ⟨w1.heap.size, 3, none⟩ = some (.int .i64 hd.st) := c3
      have c4' : w6.cell? ⟨w1.heap.size, 4, none⟩ = some (.int .i64 hd.po) := c4
      clear c3 c4 b6 b16 x1 y1 z1 B1 HB5 HW5 HKd HP5
      have HS := Lib.hid (stratum_any hd.st w6)
      have HO := Lib.hid (poll_any hd.po w6)
      change Hid (Calls Tryz.prog 80 #[.int .i64 hd.st] w6 _) at HS
      generalize wi hd.st 0 16 = sb at *
      generalize wi hd.po 0 17 = pb at *
      generalize kindB hd = kb at *
      cases kb with
      | false =>
        have HV := Lib.hid (show prs xs = .bad 0 100 by rw [HV0.out, if_pos rfl])
        gi_wp2_with fail
        refine ⟨trivial, (callsIn_wide.2 (refused2 0 100 w6)).mono ?_⟩
        rintro e wz ⟨rfl, b1⟩
        have x1 := (b1.block _ (Array.getElem?_eq_some_iff.1 X6.out).1).trans X6.out
        have y1 := (b1.block _ (Array.getElem?_eq_some_iff.1 Y6.out).1).trans Y6.out
        have z1 := (b1.block _ (Array.getElem?_eq_some_iff.1 Z6.out).1).trans Z6.out
        have B1 := bthen B6.out b1 (Nat.le_refl _)
        gi_wp2_with (first
          | (refine wpListIn_store_row rfl 51 (.tmp 2) (.tmp 36) rfl w.heap.size (pkC pk0) rfl rfl 51 _ x1 s29 rfl (pk_all _) ?_; obtain ⟨c2, f2⟩ := bw_cell (p := pk0) y1)
          | (refine wpListIn_store_row rfl 54 (.tmp 4) (.tmp 38) rfl (w.heap.size + 1 + 1) (flC 0 100) rfl rfl 54 _ (bw_mid z1) s39 rfl (fl_all _ _) ?_))
        obtain ⟨v1, v2, v3⟩ := bw_at (p := pk0) (k := 0) (a := 0) (e := 100) x1 y1 z1
        have B2 := bw_below (p := pk0) (k := 0) (a := 0) (e := 100) B1 (Nat.le_refl _)
        exact ⟨_, res31 v1 v2 v3 _ rfl rfl rfl, B2, by rw [HV.out]; rfl⟩
      | true =>
        gi_wp2_with fail
        refine ⟨trivial, (callsIn_wide.2 HS.out).mono ?_⟩
        rintro e w7 ⟨rfl, hw7⟩
        subst w7
        cases sb with
        | false =>
          have HV := Lib.hid (show prs xs = .bad 1 100 by rw [HV0.out, if_neg (by decide), if_pos rfl])
          gi_wp2_with fail
          refine ⟨trivial, (callsIn_wide.2 (refused2 1 100 w6)).mono ?_⟩
          rintro e wz ⟨rfl, b1⟩
          have x1 := (b1.block _ (Array.getElem?_eq_some_iff.1 X6.out).1).trans X6.out
          have y1 := (b1.block _ (Array.getElem?_eq_some_iff.1 Y6.out).1).trans Y6.out
          have z1 := (b1.block _ (Array.getElem?_eq_some_iff.1 Z6.out).1).trans Z6.out
          have B1 := bthen B6.out b1 (Nat.le_refl _)
          gi_wp2_with (first
            | (refine wpListIn_store_row rfl 51 (.tmp 2) (.tmp 45) rfl w.heap.size (pkC pk0) rfl rfl 51 _ x1 s29 rfl (pk_all _) ?_; obtain ⟨c2, f2⟩ := bw_cell (p := pk0) y1)
            | (refine wpListIn_store_row rfl 54 (.tmp 4) (.tmp 47) rfl (w.heap.size + 1 + 1) (flC 1 100) rfl rfl 54 _ (bw_mid z1) s39 rfl (fl_all _ _) ?_))
          obtain ⟨v1, v2, v3⟩ := bw_at (p := pk0) (k := 0) (a := 1) (e := 100) x1 y1 z1
          have B2 := bw_below (p := pk0) (k := 0) (a := 1) (e := 100) B1 (Nat.le_refl _)
          exact ⟨_, res31 v1 v2 v3 _ rfl rfl rfl, B2, by rw [HV.out]; rfl⟩
        | true =>
          gi_wp2_with fail
          refine ⟨trivial, (callsIn_wide.2 HO.out).mono ?_⟩
          rintro e w7 ⟨rfl, hw7⟩
          subst w7
          cases pb with
          | false =>
            have HV := Lib.hid (show prs xs = .bad 2 100 by rw [HV0.out, if_neg (by decide), if_neg (by decide), if_pos rfl])
            gi_wp2_with fail
            refine ⟨trivial, (callsIn_wide.2 (refused2 2 100 w6)).mono ?_⟩
            rintro e wz ⟨rfl, b1⟩
            have x1 := (b1.block _ (Array.getElem?_eq_some_iff.1 X6.out).1).trans X6.out
            have y1 := (b1.block _ (Array.getElem?_eq_some_iff.1 Y6.out).1).trans Y6.out
            have z1 := (b1.block _ (Array.getElem?_eq_some_iff.1 Z6.out).1).trans Z6.out
            have B1 := bthen B6.out b1 (Nat.le_refl _)
            gi_wp2_with (first
              | (refine wpListIn_store_row rfl 51 (.tmp 2) (.tmp 54) rfl w.heap.size (pkC pk0) rfl rfl 51 _ x1 s29 rfl (pk_all _) ?_; obtain ⟨c2, f2⟩ := bw_cell (p := pk0) y1)
              | (refine wpListIn_store_row rfl 54 (.tmp 4) (.tmp 56) rfl (w.heap.size + 1 + 1) (flC 2 100) rfl rfl 54 _ (bw_mid z1) s39 rfl (fl_all _ _) ?_))
            obtain ⟨v1, v2, v3⟩ := bw_at (p := pk0) (k := 0) (a := 2) (e := 100) x1 y1 z1
            have B2 := bw_below (p := pk0) (k := 0) (a := 2) (e := 100) B1 (Nat.le_refl _)
            exact ⟨_, res31 v1 v2 v3 _ rfl rfl rfl, B2, by rw [HV.out]; rfl⟩
          | true =>
            have HV := Lib.hid (HV0.out.trans (by rw [if_neg (by decide), if_neg (by decide), if_neg (by decide)]))
            gi_wp2_with fail
            obtain ⟨w8, hw8⟩ : ∃ w8, w8 = (w6.alloc (.cells #[.int .i64 48] 3)).alloc (.cells #[.slice A n c] 23) := ⟨_, rfl⟩
            have hs7 : (w6.alloc (.cells #[.int .i64 48] 3)).heap.size = w6.heap.size + 1 := by simp
            have b68 : RowKit.Below w6.heap.size w6 w8 := by rw [hw8]; exact ((Below.refl _ _).alloc (Nat.le_refl _) _).alloc (by simp) _
            have hs8 : w8.heap.size = w6.heap.size + 2 := by rw [hw8]; simp
            have hE8 : w8.heap[w6.heap.size]? = some (.cells #[.int .i64 48] 3 (0, 0)) := by rw [hw8]; exact (Below.heap_alloc _ _ _ (by simp)).trans (heap_alloc_new w6 _)
            have hB8 : w8.cell? ⟨w6.heap.size + 1, 0, none⟩ = some (.slice A n c) := by
              rw [hw8, ← hs7]
              exact cell_new _ _ _
            have hP8 := HP6.out.below b68
            have X8 := Lib.hid ((b68.block _ (Array.getElem?_eq_some_iff.1 X6.out).1).trans X6.out)
            have Y8 := Lib.hid ((b68.block _ (Array.getElem?_eq_some_iff.1 Y6.out).1).trans Y6.out)
            have Z8 := Lib.hid ((b68.block _ (Array.getElem?_eq_some_iff.1 Z6.out).1).trans Z6.out)
            have B8 := Lib.hid (bthen B6.out b68 (Nat.le_refl _))
            have hN8 := HH.out.below B8.out
            have HYl := Lib.hid (fields_yields (A := A) (c := c) (xs := xs) ⟨HP.out, hn⟩ w.heap.size (w6.heap.size + 1) w8 B8.out.size (by omega) hB8 hN8)
            have HP8 := Lib.hid hP8
            have HE8 := Lib.hid hE8
            have HS8 := Lib.hid hs8
            refine ⟨trivial, (callsIn_wide.2 (fields_any A n c _)).mono ?_⟩
            rintro e w8' ⟨rfl, hw8'⟩
            rw [← hw8] at hw8'
            subst w8'
            rw [hs7]
            clear b68 hE8 hB8 hP8 hN8 hw8 hs7 hs8 X6 Y6 Z6 B6 HP6 c3' c4' HS HO HW HV0
            obtain ⟨L, hL⟩ : ∃ L, L = fds xs n 48 := ⟨_, rfl⟩
            have HLo := Lib.hid (fun p (hp : p ∈ L) => (hlen ▸ fds_ok xs n 48 (by rw [hlen]; exact HP.out) p (hL ▸ hp) : p.1 ≤ n ∧ (p.2 = 0 ∨ (24 ≤ p.2 ∧ p.1 + p.2 ≤ n))))
            rw [← hL] at HYl HV
            clear hL
            gi_wp2_with fail
            have HL0 := Lib.hid (show w.heap.size + 3 ≤ w1.heap.size ∧ w1.heap.size < w6.heap.size ∧ w8.heap.size = w6.heap.size + 2 from ⟨HLt.out.2, HLt.out.1, HS8.out⟩)
            obtain ⟨u1, hu1⟩ : ∃ u : Nat → Value, u = fun k => .int .i64 ((L.getD k (0, 0)).1 : Int) := ⟨_, rfl⟩
            obtain ⟨u2, hu2⟩ : ∃ u : Nat → Value, u = fun k => if (L.getD k (0, 0)).2 = 0 then .slice none 0 0 else .slice (pa A c (L.getD k (0, 0)).1) (L.getD k (0, 0)).2 (c - (L.getD k (0, 0)).1) := ⟨_, rfl⟩
            have HYl2 := Lib.hid (show Yields Fence.wide 8 Tryz.prog 107 #[.pointer (some ⟨w6.heap.size + 1, 0, none⟩)] w8.heap.size L.length (fun k => #[u1 k, u2 k]) (Keeps w.heap.size (w6.heap.size + 1)) w8 by rw [hu1, hu2]; exact HYl.out)
            have HU1 := Lib.hid hu1
            have HU2 := Lib.hid hu2
            clear hu1 hu2 HYl
            refine range_stops2 (N := L.length) u1 u2 (q1 := 7) (q2 := 8) (Kp := Keeps w.heap.size (w6.heap.size + 1))
              rfl (by omega) (gf := 107) (lb := #[.pointer (some ⟨w6.heap.size + 1, 0, none⟩)]) rfl trivial (enters_of Tryz.func107 (by kernel_rfl) rfl) HYl2.out (fun A B C h k => h.trans k) ?hKb
              (fun k W => ∃ es en, goF xs L [] 48 = goF xs (L.drop k) es en ∧ es.length ≤ 8 ∧ en ≤ n ∧ Ps w8 W w1.heap.size w6.heap.size hd es en)
              (fun k W => ∃ a : Nat, goF xs L [] 48 = .inl a ∧ Jb w W a) ?hJ ?hJx ?h0 ?hassign ?hbody ?hdone ?hstop
            case hKb =>
              intro A l o o' hl h ho
              have hlt := (Array.getElem?_eq_some_iff.1 h).1
              have := HL0.out
              exact ⟨(RowKit.Below.refl _ A).grown (grownBy_putObj' A l o') (by omega) (fun k e => by cases e; omega), World.putObj_heap_other (by omega)⟩
            case hJ =>
              rintro k A B row ⟨es, en, h1, h2, h3, h4⟩ hg hr
              exact ⟨es, en, h1, h2, h3, h4.own hg hr⟩
            case hJx =>
              rintro k A B row ⟨a, h1, h2⟩ hg hr
              exact ⟨a, h1, h2.own hg fun r e => ⟨by have := (hr r e).1; have := HL0.out; omega, (hr r e).2⟩⟩
            case h0 => exact ⟨[], 48, rfl, Nat.zero_le _, HP.out, ⟨Fr.refl _ _ _, HE8.out, none, 0, [], rfl, HP8.out, Gw.nil _ _ _ _, fun x hx => by cases hx⟩⟩
            case hassign =>
              intro l k W K hK
              generalize u1 k = v1 at *
              generalize u2 k = v2 at *
              simp only [List.setIfInBounds_toArray, List.set_cons_succ, List.set_cons_zero] at hK
              gi_wp2
              exact hK
            case hbody =>
              rintro l k W ⟨es, en, hgo, hes, hen, hps⟩ hk
              obtain ⟨q, hq⟩ : ∃ q, q = L.getD k (0, 0) := ⟨_, rfl⟩
              have hqk : L[k]? = some q := by rw [hq, List.getD_eq_getElem?_getD, List.getElem?_eq_getElem hk]; rfl
              have hqm : q ∈ L := List.mem_of_getElem? hqk
              have hdr : L.drop k = q :: L.drop (k + 1) := by
                rw [List.drop_eq_getElem_cons hk]
                congr 1
                exact Option.some.inj ((List.getElem?_eq_getElem hk).symm.trans hqk)
              rw [show u1 k = .int .i64 (q.1 : Int) by rw [HU1.out, hq], show u2 k = (if q.2 = 0 then .slice none 0 0 else .slice (pa A c q.1) q.2 (c - q.1)) by rw [HU2.out, hq]]
              have hq2 := HLo.out q hqm
              rw [hdr] at hgo
              have hBW : RowKit.Below w.heap.size w W := by
                have f := hps.fr
                have := HL0.out
                exact ⟨f.os.trans B8.out.os, f.tape.trans B8.out.tape, f.output.trans B8.out.output, Nat.le_trans B8.out.size f.size, fun x hx => (f.block x (by have := B8.out.size; omega) (by omega) (by omega)).trans (B8.out.block x hx)⟩
              have hNW := HH.out.below hBW
              obtain ⟨v2, hv2⟩ : ∃ v : Value, v = (if q.2 = 0 then .slice none 0 0 else .slice (pa A c q.1) q.2 (c - q.1)) := ⟨_, rfl⟩
              rw [← hv2]
              have hV2 : ∃ Aq cq, v2 = .slice Aq q.2 cq ∧ Nb W w.heap.size Aq q.2 cq (fdx xs q) := by
                rcases hq2.2 with h0 | h0
                · exact ⟨none, 0, by rw [hv2, if_pos h0, h0], by rw [h0]; unfold fdx; rw [h0, List.take_zero]; exact Nb.nil _ _ 0 (by omega) none⟩
                · refine ⟨pa A c q.1, c - q.1, by rw [hv2, if_neg (by omega)], ?_⟩
                  have := hNW.part q.1 (q.1 + q.2) (by omega) h0.2
                  rw [show q.1 + q.2 - q.1 = q.2 by omega] at this
                  exact this
              obtain ⟨Aq, cq, rfl, hNq⟩ := hV2
              have HXq := Lib.hid (ext_of_any hNq hBW.size (by omega) (by omega))
              have HPs := Lib.hid hps
              have HGo := Lib.hid hgo
              have HBW := Lib.hid hBW
              have HK := Lib.hid hk
              clear hq hqk hqm hdr hNW hv2 hNq hps hgo hBW hk HYl2 HLo HV HU1 HU2
              gi_wp2_with fail
              refine ⟨trivial, (CallsIn.inRound l (callsIn_wide.2 HXq.out)).mono ?_⟩
              rintro e w9 ⟨b9, hp9⟩
              have KW := Lib.hid (keeps_below b9)
              have PW := Lib.hid (HPs.out.below b9)
              have BW9 := Lib.hid (bthen HBW.out b9 (Nat.le_refl _))
              have B9 := Lib.hid b9
              clear b9 HXq
              obtain ⟨Wx, hWx⟩ : ∃ Wx, Wx = w9 := ⟨_, rfl⟩
              cases hx : exOf (fdx xs q) with
              | none =>
                rw [hx] at hp9
                subst hp9
                have HG := Lib.hid (show goF xs L [] 48 = .inl q.1 by rw [HGo.out]; unfold goF; rw [hx])
                obtain ⟨W10, hW10⟩ : ∃ W10, W10 = (w9.alloc (.cells #[.int .i64 0, .bool false, .bool false, .int .i64 0, .int .u32 0, .int .u32 0, .slice none 0 0, .slice none 0 0] 45)).setRow w9.heap.size (elC (e0)) := ⟨_, rfl⟩
                have b10 : RowKit.Below w9.heap.size w9 W10 := by rw [hW10]; exact below_setRow ((Below.refl _ _).alloc (Nat.le_refl _) _) (Nat.le_refl _) _
                have hx10 : EBox W10 w9.heap.size (e0) := by rw [hW10]; exact setRow_heap _ _ _ _ _ _ (heap_alloc_new w9 _)
                have HW10 := Lib.hid hW10
                have HX10 := Lib.hid hx10
                have K10 := Lib.hid (KW.out.trans (keeps_below b10))
                have P10 := Lib.hid (PW.out.below b10)
                have BW10 := Lib.hid (bthen BW9.out b10 (Nat.le_refl _))
                have B10 := Lib.hid (bthen B9.out b10 (Nat.le_refl _))
                clear b10 hW10 hx10 KW PW BW9 B9
                gi_wp2_with (refine wpListIn_store_row rfl 45 (.tmp 9) (.tmp 64) rfl w9.heap.size (elC (e0)) rfl rfl 45 _ (heap_alloc_new w9 _) s47 rfl (el_all _) ?_; rw [← HW10.out])
                refine ⟨trivial, (CallsIn.inRound l (callsIn_wide.2 (refused2 q.1 101 W10))).mono ?_⟩
                rintro e w11 ⟨rfl, b11⟩
                have f10 := P10.out.fr
                have hl0 := HL0.out
                have x10 := (f10.block w.heap.size (by omega) (by omega) (by omega)).trans X8.out
                have y10 := (f10.block (w.heap.size + 1) (by omega) (by omega) (by omega)).trans Y8.out
                have z10 := (f10.block (w.heap.size + 1 + 1) (by omega) (by omega) (by omega)).trans Z8.out
                have x1 := (b11.block _ (Array.getElem?_eq_some_iff.1 x10).1).trans x10
                have y1 := (b11.block _ (Array.getElem?_eq_some_iff.1 y10).1).trans y10
                have z1 := (b11.block _ (Array.getElem?_eq_some_iff.1 z10).1).trans z10
                have B11 := bthen BW10.out b11 (Nat.le_refl _)
                have K11 := K10.out.trans (keeps_below b11)
                clear f10 x10 y10 z10 b11 hl0
                gi_wp2_with (first
                  | (refine wpListIn_store_row rfl 51 (.tmp 2) (.tmp 76) rfl w.heap.size (pkC pk0) rfl rfl 51 _ x1 s29 rfl (pk_all _) ?_; obtain ⟨c2, f2⟩ := bw_cell (p := pk0) y1)
                  | (refine wpListIn_store_row rfl 54 (.tmp 4) (.tmp 78) rfl (w.heap.size + 1 + 1) (flC q.1 101) rfl rfl 54 _ (bw_mid z1) s39 rfl (fl_all _ _) ?_))
                obtain ⟨v1, v2, v3⟩ := bw_at (p := pk0) (k := 0) (a := q.1) (e := 101) x1 y1 z1
                have B2 := bw_below (p := pk0) (k := 0) (a := q.1) (e := 101) B11 (Nat.le_refl _)
                exact ⟨K11.trans (bw_keeps x1 z1), ⟨q.1, HG.out, v1, v2, v3, B2⟩⟩
              | some x =>
                rw [hx] at hp9
                obtain ⟨Ax, cx, Bx, dx, rfl, f1, f2, n1, n2⟩ := hp9
                have HN1 := Lib.hid n1
                have HN2 := Lib.hid n2
                have HF1 := Lib.hid f1
                have HF2 := Lib.hid f2
                have HWs := Lib.hid PW.out.fr.size
                clear n1 n2 f1 f2
                obtain ⟨W10, hW10⟩ : ∃ W10, W10 = (w9.alloc (.cells #[.int .i64 0, .bool false, .bool false, .int .i64 0, .int .u32 0, .int .u32 0, .slice none 0 0, .slice none 0 0] 45)).setRow w9.heap.size (elC (exEl x Ax cx Bx dx)) := ⟨_, rfl⟩
                have b10 : RowKit.Below w9.heap.size w9 W10 := by rw [hW10]; exact below_setRow ((Below.refl _ _).alloc (Nat.le_refl _) _) (Nat.le_refl _) _
                have hx10 : EBox W10 w9.heap.size (exEl x Ax cx Bx dx) := by rw [hW10]; exact setRow_heap _ _ _ _ _ _ (heap_alloc_new w9 _)
                have HW10 := Lib.hid hW10
                have HX10 := Lib.hid hx10
                have K10 := Lib.hid (KW.out.trans (keeps_below b10))
                have P10 := Lib.hid (PW.out.below b10)
                have BW10 := Lib.hid (bthen BW9.out b10 (Nat.le_refl _))
                have B10 := Lib.hid (bthen B9.out b10 (Nat.le_refl _))
                have Hb10 := Lib.hid b10
                clear b10 hW10 hx10 KW PW BW9 B9
                obtain ⟨A3, c3, els, h31, h32', h33', h34'⟩ := HPs.out.box
                have HBk := Lib.hid h33'.blk_lt
                have h32 := h32'.below B10.out
                have h33 := h33'.below B10.out
                have h34 : ∀ y ∈ els, Ft W10 A3 w8.heap.size y := fun y hy => (h34' y hy).keep B10.out.size (fun q hq _ _ => B10.out.block q hq) (.inl rfl)
                clear h32' h33' h34'
                obtain ⟨-, -, -, -, -, -, -, -, -, -, -, -, -, c13, -⟩ := h32.cells
                have c13' : W10.cell? ⟨w1.heap.size, 13, none⟩ = some (.slice A3 es.length c3) := c13
                have HEs := Lib.hid hes
                have H31 := Lib.hid h31
                have H32 := Lib.hid h32
                have H33 := Lib.hid h33
                have H34 := Lib.hid h34
                clear c13 h31 h32 h33 h34
                generalize hel : es.length = m at *
                by_cases h8 : m = 8
                · subst h8
                  have HG := Lib.hid (show goF xs L [] 48 = .inl q.1 by rw [HGo.out]; unfold goF; rw [hx]; simp only []; rw [if_pos hel])
                  clear hes
                  gi_wp2_with (refine wpListIn_store_row rfl 45 (.tmp 9) (.tmp 64) rfl w9.heap.size (elC (exEl x Ax cx Bx dx)) rfl rfl 45 _ (heap_alloc_new w9 _) s47 rfl (el_all _) ?_; rw [← HW10.out])
                  refine ⟨trivial, (CallsIn.inRound l (callsIn_wide.2 (refused2 q.1 101 W10))).mono ?_⟩
                  rintro e w11 ⟨rfl, b11⟩
                  have f10 := P10.out.fr
                  have hl0 := HL0.out
                  have x10 := (f10.block w.heap.size (by omega) (by omega) (by omega)).trans X8.out
                  have y10 := (f10.block (w.heap.size + 1) (by omega) (by omega) (by omega)).trans Y8.out
                  have z10 := (f10.block (w.heap.size + 1 + 1) (by omega) (by omega) (by omega)).trans Z8.out
                  have x1 := (b11.block _ (Array.getElem?_eq_some_iff.1 x10).1).trans x10
                  have y1 := (b11.block _ (Array.getElem?_eq_some_iff.1 y10).1).trans y10
                  have z1 := (b11.block _ (Array.getElem?_eq_some_iff.1 z10).1).trans z10
                  have B11 := bthen BW10.out b11 (Nat.le_refl _)
                  have K11 := K10.out.trans (keeps_below b11)
                  clear f10 x10 y10 z10 b11 hl0
                  gi_wp2_with (first
                    | (refine wpListIn_store_row rfl 51 (.tmp 2) (.tmp 76) rfl w.heap.size (pkC pk0) rfl rfl 51 _ x1 s29 rfl (pk_all _) ?_; obtain ⟨c2, f2⟩ := bw_cell (p := pk0) y1)
                    | (refine wpListIn_store_row rfl 54 (.tmp 4) (.tmp 78) rfl (w.heap.size + 1 + 1) (flC q.1 101) rfl rfl 54 _ (bw_mid z1) s39 rfl (fl_all _ _) ?_))
                  obtain ⟨v1, v2, v3⟩ := bw_at (p := pk0) (k := 0) (a := q.1) (e := 101) x1 y1 z1
                  have B2 := bw_below (p := pk0) (k := 0) (a := q.1) (e := 101) B11 (Nat.le_refl _)
                  exact ⟨K11.trans (bw_keeps x1 z1), ⟨q.1, HG.out, v1, v2, v3, B2⟩⟩
                · have h8' : ((m : Int) == 8) = false := by simp; omega
                  have HG := Lib.hid (show goF xs L [] 48 = goF xs (L.drop (k + 1)) (es ++ [x]) (q.1 + q.2) by rw [HGo.out]; rw [show goF xs (q :: L.drop (k + 1)) es en = _ by unfold goF; rw [hx]]; simp only []; rw [if_neg (by rw [hel]; exact h8)])
                  have HX8 := Lib.hid (show Ft W10 A3 w8.heap.size (exEl x Ax cx Bx dx) from by
                      have lo8 := HPs.out.fr.size
                      refine ⟨HN1.out.far Hb10.out, HN2.out.far Hb10.out, fun _ ad e => ⟨Nat.le_trans lo8 (HF1.out ad e), fun e2 => ?_⟩, fun _ ad e => ⟨Nat.le_trans lo8 (HF2.out ad e), fun e2 => ?_⟩, ⟨Int.natCast_nonneg _, Int.natCast_nonneg _⟩⟩
                      · have := (HBk.out _ e2).2; have := HF1.out ad e; omega
                      · have := (HBk.out _ e2).2; have := HF2.out ad e; omega)
                  have HFr := Lib.hid P10.out.fr
                  have HAt := Lib.hid P10.out.at_
                  have HQ2 := Lib.hid hq2
                  have HM := Lib.hid (show m + 1 ≤ 8 by omega)
                  gi_wp2_with (first
                    | (refine wpListIn_store_row rfl 45 (.tmp 9) (.tmp 64) rfl w9.heap.size (elC (exEl x Ax cx Bx dx)) rfl rfl 45 _ (heap_alloc_new w9 _) s47 rfl (el_all _) ?_; rw [← HW10.out])
                    | (refine wpListIn_load_row rfl 45 (.tmp 9) rfl w9.heap.size rfl 45 (elC (exEl x Ax cx Bx dx)) (0, 0) _ HX10.out Tryz.underlying45 rfl s47 ?_)
                    | (gi_at_builtin; (refine wpListIn_push _ rfl (.tmp 80) (.tmp 82) 46 rfl Tryz.underlying46 i47 rfl (by decide) (by decide) (El.cs (exEl x Ax cx Bx dx)) rfl (H33.out.alloc _) rfl rfl (heap_alloc_new _ _) (cs_one _) (by omega) (Nat.le_trans HFr.out.size (by simp)) ?_)
                       intro A' c' w12 hG' hgr
                       obtain ⟨g1, g2, g3, g4⟩ := grow_facts ((Below.heap_alloc _ _ _ H32.out.lt).trans H32.out) ((Below.heap_alloc _ _ _ (Array.getElem?_eq_some_iff.1 HAt.out).1).trans HAt.out) hgr (fun k e => by have := (HBk.out k e).1; have := HL0.out; omega) (by have := HL0.out; omega) (.slice A' (m + 1) c')
                       have HG' := Lib.hid hG'
                       have HGr := Lib.hid hgr
                       clear hG' hgr))
                  have hl0 := HL0.out
                  have hBW := HBW.out.size
                  have hbk : ∀ k, blk A3 = some k → w8.heap.size ≤ k := fun k e => (HBk.out k e).1
                  have hq3 : q.1 + q.2 ≤ n := by
                    rcases HQ2.out.2 with h0 | h0
                    · rw [h0]; exact HQ2.out.1
                    · exact h0.2
                  have hgw := H33.out.heap
                  have hWs := HPs.out.fr.size
                  have hWt := B10.out.size
                  have hPs := Ps.grow (en' := q.1 + q.2) (x := exEl x Ax cx Bx dx) (HFr.out.below ((Below.refl _ _).alloc (Nat.le_refl _) _)) ((Below.heap_alloc _ _ _ (Array.getElem?_eq_some_iff.1 HAt.out).1).trans HAt.out) (by omega) (by omega) (by omega) H31.out (hel.symm ▸ (Below.heap_alloc _ _ _ H32.out.lt).trans H32.out) hbk
                    (fun y hy => (H34.out y hy).keep ((Below.refl _ _).alloc (Nat.le_refl _) _).size (fun z hz _ _ => Below.heap_alloc _ _ _ hz) (.inl rfl)) (HX8.out.keep ((Below.refl _ _).alloc (Nat.le_refl _) _).size (fun z hz _ _ => Below.heap_alloc _ _ _ hz) (.inl rfl)) (hel.symm ▸ HG'.out) HGr.out
                  rw [hel] at hPs
                  refine ⟨?_, ⟨?_, ?_⟩, es ++ [x], q.1 + q.2, HG.out, by simp [hel]; have := HM.out; omega, hq3, hPs⟩
                  · exact (((K10.out.trans (KeepsOthers.alloc _ _)).trans (KeepsOthers.of_grownBy HGr.out.1 (fun j o e hj => by
                      obtain ⟨o2, h2, h3⟩ := hgw j e
                      have h4 := (Below.heap_alloc _ _ _ (Array.getElem?_eq_some_iff.1 h2).1).symm.trans hj
                      rw [h2] at h4
                      cases h4
                      exact h3))).trans (KeepsOthers.setCell _ _ _)).trans (KeepsOthers.setCell _ _ _)
                  · exact (((((B10.out.mono hBW).alloc (Nat.le_trans hBW B10.out.size) _).grown HGr.out.1 (Nat.le_trans hBW (Nat.le_trans B10.out.size (by simp))) (fun k e => by have := hbk k e; omega)).setCell (by dsimp only; omega) _).setCell (by dsimp only; omega) _)
                  · exact (heap_setCell_other _ _ _ _ (by dsimp only; omega)).trans ((heap_setCell_other _ _ _ _ (by dsimp only; omega)).trans ((HGr.out.1.block _ (by simp; omega) (fun e => by have := hbk _ e.symm; omega)).trans ((Below.heap_alloc _ _ _ (by omega)).trans (B10.out.block _ (by omega)))))
            case hstop =>
              rintro D k W hD hk ⟨a, ha, hj⟩ hK
              have hl0 := HL0.out
              have HVb : prs xs = .bad a 101 := by rw [HV.out, ha]
              have hj2 := hj.own (grownBy_putObj' W D (.deferred none)) (fun r e => by cases e; exact ⟨by omega, _, hK, rfl⟩)
              refine wpIn_ret ?_
              refine ⟨by simp, .inl ⟨_, _, rfl, run_takeDeferred hK, ?_⟩⟩
              exact ⟨_, res31 hj2.one hj2.two hj2.three _ rfl rfl rfl, hj2.bel, by rw [HVb]; rfl⟩
            case hdone =>
              rintro D W hD ⟨es, en, hgo, hes, hen, hps⟩ hK
              have hl0 := HL0.out
              rw [List.drop_length] at hgo
              have HV2 := Lib.hid (show prs xs = if macN (n - en) = true then .ok hd es en else .bad en 102 by rw [HV.out, hgo]; rfl)
              have hBW : RowKit.Below w.heap.size w W := by
                have f := hps.fr
                exact ⟨f.os.trans B8.out.os, f.tape.trans B8.out.tape, f.output.trans B8.out.output, Nat.le_trans B8.out.size f.size, fun x hx => (f.block x (by have := B8.out.size; omega) (by omega) (by omega)).trans (B8.out.block x hx)⟩
              have hNW := HH.out.below hBW
              have hcap := HH.out.cap
              have hN2 := hNW.part en n hen (Nat.le_refl _)
              have e1 : (xs.drop en).take (n - en) = xs.drop en := List.take_of_length_le (by rw [List.length_drop, hlen]; exact Nat.le_refl _)
              rw [e1] at hN2
              have g1 : ∀ W, (Instr.slice 23 (.slice A n c) (some (.int .i64 (en : Int))) none none).run Tryz.prog W = .ok (.slice (pa A c en) (n - en) (c - en)) W := fun W => sl_from A n c en .i64 hen W
              have HMc := Lib.hid (mac_of_any hN2 hBW.size (by omega))
              generalize pa A c en = A2 at *
              have ce : W.cell? ⟨w6.heap.size, 0, none⟩ = some (.int .i64 (en : Int)) := by rw [cell_of_row W _ 0 _ 3 (0, 0) hps.at_]; rfl
              have HPs := Lib.hid hps
              have HBW := Lib.hid hBW
              have HK := Lib.hid hK
              have hxl : (xs.drop en).length = n - en := by rw [List.length_drop, hlen]
              have HXl := Lib.hid hxl
              clear hgo hps hBW hNW hN2 e1 hK hxl hcap HV HU1 HU2 HYl2 HLo
              gi_wp2_with fail
              refine ⟨trivial, (callsIn_wide.2 HMc.out).mono ?_⟩
              rintro e w9 ⟨b9, hm⟩
              rw [HXl.out] at hm
              have B9 := Lib.hid b9
              have P9 := Lib.hid (HPs.out.below b9)
              have BW9 := Lib.hid (bthen HBW.out b9 (Nat.le_refl _))
              have HD9 := Lib.hid ((b9.block _ (Array.getElem?_eq_some_iff.1 HK.out).1).trans HK.out)
              have ce9 : w9.cell? ⟨w6.heap.size, 0, none⟩ = some (.int .i64 (en : Int)) := by rw [cell_of_row w9 _ 0 _ 3 (0, 0) P9.out.at_]; rfl
              clear b9 HMc ce
              by_cases hmac : macN (n - en) = true
              · have HV := Lib.hid (show prs xs = .ok hd es en from HV2.out.trans (if_pos hmac))
                obtain ⟨m, he, hmc⟩ : ∃ m : Mc, e = .returned (.tuple #[.agg #[.bool m.has, .int .u32 (m.key : Int), .slice m.A m.n m.c], .bool true]) ∧ McOf w9 W.heap.size (xs.drop en) m := by
                  rcases hm with ⟨h, he⟩ | ⟨h, A5, c5, he, hf5, hn5⟩ | ⟨h1, h2, h3, _⟩
                  · exact ⟨m0, he, .inl ⟨by rw [HXl.out]; exact h, rfl⟩⟩
                  · exact ⟨⟨true, num ((xs.drop en).take 4), A5, n - en - 4, c5⟩, he, .inr ⟨by rw [HXl.out]; omega, A5, c5, by rw [HXl.out], hf5, by rw [HXl.out]; exact hn5⟩⟩
                  · exfalso
                    unfold macN at hmac
                    simp only [Bool.or_eq_true, beq_iff_eq] at hmac
                    omega
                subst he
                have HMc := Lib.hid hmc
                clear hm hmac hmc HV2
                obtain ⟨W10, hW10⟩ : ∃ W10, W10 = w9.alloc (.cells #[.bool m.has, .int .u32 (m.key : Int), .slice m.A m.n m.c] 49) := ⟨_, rfl⟩
                have b10 : RowKit.Below w9.heap.size w9 W10 := by rw [hW10]; exact (Below.refl _ _).alloc (Nat.le_refl _) _
                have P10 := P9.out.below b10
                have BW10 := Lib.hid (bthen BW9.out b10 (Nat.le_refl _))
                have HD10 := Lib.hid ((b10.block _ (Array.getElem?_eq_some_iff.1 HD9.out).1).trans HD9.out)
                obtain ⟨A3, c3, els, h31, h32, h33, h34⟩ := P10.box
                obtain ⟨-, -, -, -, -, -, -, -, -, -, -, -, -, -, c14, c15, c16⟩ := h32.cells
                have f14 : W10.frozen? ⟨w1.heap.size, 14, none⟩ = false := frozen_of_row W10 _ 14 _ 51 h32
                have f15 : W10.frozen? ⟨w1.heap.size, 15, none⟩ = false := frozen_of_row W10 _ 15 _ 51 h32
                have f16 : W10.frozen? ⟨w1.heap.size, 16, none⟩ = false := frozen_of_row W10 _ 16 _ 51 h32
                have HP10 := Lib.hid P10
                have H31 := Lib.hid h31
                have H32 := Lib.hid h32
                have H33 := Lib.hid h33
                have H34 := Lib.hid h34
                have Hb10 := Lib.hid b10
                have HW10 := Lib.hid hW10
                rw [hW10] at c14 c15 c16 f14 f15 f16
                clear b10 hW10 ce9 P10 h31 h32 h33 h34
                gi_wp2_with fail
                rename_i Kend hKend
                rw [← HW10.out]
                obtain ⟨W11, hW11⟩ : ∃ W11, W11 = ((W10.setCell ⟨w1.heap.size, 14, none⟩ (.bool m.has)).setCell ⟨w1.heap.size, 15, none⟩ (.int .u32 (m.key : Int))).setCell ⟨w1.heap.size, 16, none⟩ (.slice m.A m.n m.c) := ⟨_, rfl⟩
                have o11 : ∀ q, q ≠ w1.heap.size → W11.heap[q]? = W10.heap[q]? := fun q hq => by
                  rw [hW11]
                  exact (heap_setCell_other _ _ _ _ (by exact hq)).trans ((heap_setCell_other _ _ _ _ (by exact hq)).trans (heap_setCell_other _ _ _ _ (by exact hq)))
                have p11 : PBox W11 w1.heap.size ⟨hd, A3, es.length, c3, m⟩ := by
                  rw [hW11]
                  exact heap_setCell_same _ _ _ _ _ _ (heap_setCell_same _ _ _ _ _ _ (heap_setCell_same _ _ _ _ _ _ H32.out))
                have sz11 : W11.heap.size = W10.heap.size := by rw [hW11]; simp
                have B11 : RowKit.Below w.heap.size w W11 := by rw [hW11]; exact ((BW10.out.setCell (by dsimp only; omega) _).setCell (by dsimp only; omega) _).setCell (by dsimp only; omega) _
                rw [← hW11]
                clear hW11 c14 c15 c16 f14 f15 f16
                have f10 := HP10.out.fr
                have x10 : W11.drew.heap[w.heap.size]? = some (.cells (pkC pk0) 51 (0, 0)) := (o11 _ (by omega)).trans ((f10.block w.heap.size (by omega) (by omega) (by omega)).trans X8.out)
                have y10 : W11.drew.heap[w.heap.size + 1]? = _ := (o11 _ (by omega)).trans ((f10.block (w.heap.size + 1) (by omega) (by omega) (by omega)).trans Y8.out)
                have z10 : W11.drew.heap[w.heap.size + 1 + 1]? = _ := (o11 _ (by omega)).trans ((f10.block (w.heap.size + 1 + 1) (by omega) (by omega) (by omega)).trans Z8.out)
                have d10 : W11.drew.heap[D]? = _ := (o11 _ (by omega)).trans HD10.out
                have pD : W11.drew.heap[w1.heap.size]? = _ := p11
                have eD : W11.drew.heap[w6.heap.size]? = _ := (o11 _ (by omega)).trans HP10.out.at_
                have BD : RowKit.Below w.heap.size w W11.drew := B11.drew
                have oD : ∀ q, q ≠ w1.heap.size → W11.drew.heap[q]? = W10.heap[q]? := o11
                have szD : W11.drew.heap.size = W10.heap.size := sz11
                clear o11 p11 sz11 B11
                have ceD : W11.drew.cell? ⟨w6.heap.size, 0, none⟩ = some (.int .i64 (en : Int)) := by rw [cell_of_row W11.drew _ 0 _ 3 (0, 0) eD]; rfl
                have ceD2 : (W11.drew.setRow w.heap.size (pkC ⟨hd, A3, es.length, c3, m⟩)).cell? ⟨w6.heap.size, 0, none⟩ = some (.int .i64 (en : Int)) := by rw [cell_of_row _ _ 0 _ 3 (0, 0) ((setRow_other _ _ _ _ (by omega)).trans eD)]; rfl
                obtain ⟨c2, f2⟩ := bw_cell (p := ⟨hd, A3, es.length, c3, m⟩) y10
                have hfin : ∀ a' : Act, a'.tmps[2]? = some (.pointer (some ⟨w.heap.size, 0, none⟩)) → a'.tmps[3]? = some (.pointer (some ⟨w.heap.size + 1, 0, none⟩)) → a'.tmps[4]? = some (.pointer (some ⟨w.heap.size + 1 + 1, 0, none⟩)) → a'.defers = [{ target := .collected D, args := #[] }] →
                    Exit.then Kend (bodyPostM Fence.wide 9 Tryz.prog Tryz.f43 (PrPost xs w)) .normal a' (bw W11.drew w.heap.size ⟨hd, A3, es.length, c3, m⟩ en 0 0) := by
                  intro a' t2 t3 t4 td
                  refine hKend _ _ ?_
                  have lo8 := HPs.out.fr.size
                  have mW : McOf W10 W.heap.size (xs.drop en) m := HMc.out.below Hb10.out
                  obtain ⟨v1, v2, v3⟩ := bw_at (p := ⟨hd, A3, es.length, c3, m⟩) (k := en) (a := 0) (e := 0) x10 y10 z10
                  have d2 := (bw_other (w1 := W11.drew) (p := ⟨hd, A3, es.length, c3, m⟩) (k := en) (a := 0) (e := 0) (show D ≠ w.heap.size by omega) (by omega) (by omega)).trans d10
                  obtain ⟨tm, ds⟩ := a'
                  dsimp only at t2 t3 t4 td
                  subst td
                  refine wpIn_ret ?_
                  refine ⟨by simp, .inl ⟨_, _, rfl, run_takeDeferred d2, ?_⟩⟩
                  exact ⟨_, res31 ((World.putObj_heap_other (by omega)).trans v1) ((World.putObj_heap_other (by omega)).trans v2) ((World.putObj_heap_other (by omega)).trans v3) _ t2 t3 t4, good_end rfl (by omega) (by omega) hD HV.out BD oD szD HD10.out H31.out H33.out H34.out mW lo8⟩
                refine wpIn_wide.2 ?_
                refine wp_gen (v2 := .pointer (some ⟨w.heap.size, 0, none⟩)) (v3 := .pointer (some ⟨w.heap.size + 1, 0, none⟩)) (v4 := .pointer (some ⟨w.heap.size + 1 + 1, 0, none⟩)) (v5 := .pointer (some ⟨w1.heap.size, 0, none⟩)) (v6 := .pointer (some ⟨w6.heap.size, 0, none⟩)) (n := 108) (ds := [{ target := .collected D, args := #[] }]) rfl rfl rfl rfl rfl rfl rfl (fun a0 q2 q3 q4 q5 q6 qs qd => ?_)
                refine wp_region_any (by kernel_rfl) ?_
                change wpAny _ _ _ _ _ _ _ (World.drew _)
                refine wpAny_ready (rs := [0, 1, 2]) (by kernel_rfl) (by simp) ?_
                refine AllReady.cons rfl (fun K hK => ?N_0) (AllReady.cons rfl (fun K hK => ?N_1) (AllReady.cons rfl (fun K hK => ?N_2) AllReady.nil))
                case N_0 =>
                  rw [if_pos (by rfl)]
                  change Oper.wp _ ⟨some 105, Op.load 51 (.tmp 5), _, _, _, _⟩ _ _ _ _
                  refine wp_load_row 51 (.tmp 5) rfl w1.heap.size (ev_of (by simp (disch := (first | decide | (simp only [tm_size, qs]; decide))) only [tm_other, tm_same, put_none, q5])) 51 (pkC ⟨hd, A3, es.length, c3, m⟩) (0, 0) _ pD Tryz.underlying51 rfl s29 ?_
                  refine hK _ _ ?_
                  clear hK K
                  try dsimp only [put_none]
                  refine wpAny_ready (rs := [1, 2, 3]) (by kernel_rfl) (by simp) ?_
                  refine AllReady.cons rfl (fun K hK => ?N0_1) (AllReady.cons rfl (fun K hK => ?N0_2) (AllReady.cons rfl (fun K hK => ?N0_3) AllReady.nil))
                  case N0_1 =>
                    rw [if_pos (by rfl)]
                    change Oper.wp _ ⟨some 106, Op.load 3 (.tmp 6), _, _, _, _⟩ _ _ _ _
                    refine wp_load_one (.tmp 6) rfl (ev_of (by simp (disch := (first | decide | (simp only [tm_size, qs]; decide))) only [tm_other, tm_same, put_none, q6])) ceD ?_
                    refine hK _ _ ?_
                    clear hK K
                    try dsimp only [put_none]
                    refine wpAny_ready (rs := [2, 3]) (by kernel_rfl) (by simp) ?_
                    refine AllReady.cons rfl (fun K hK => ?N01_2) (AllReady.cons rfl (fun K hK => ?N01_3) AllReady.nil)
                    case N01_2 =>
                      rw [if_pos (by rfl)]
                      change Oper.wp _ ⟨some 107, Op.build 54 #[], _, _, _, _⟩ _ _ _ _
                      refine wp_build39 rfl ?_
                      refine hK _ _ ?_
                      clear hK K
                      try dsimp only [put_none]
                      refine wpAny_ready (rs := [3]) (by kernel_rfl) (by simp) ?_
                      refine AllReady.cons rfl (fun K hK => ?N012_3) AllReady.nil
                      case N012_3 =>
                        rw [if_pos (by rfl)]
                        change Oper.wp _ ⟨none, Op.store 51 (.tmp 2) (.tmp 105), _, _, _, _⟩ _ _ _ _
                        refine wp_store_row 51 (.tmp 2) (.tmp 105) rfl w.heap.size (pkC ⟨hd, A3, es.length, c3, m⟩) (ev_of (by simp (disch := (first | decide | (simp only [tm_size, qs]; decide))) only [tm_other, tm_same, put_none, q2])) (ev_of (by simp (disch := (first | decide | (simp only [tm_size, qs]; decide))) only [tm_other, tm_same, put_none])) 51 _ x10 s29 rfl (pk_all _) ?_
                        refine hK _ _ ?_
                        clear hK K
                        try dsimp only [put_none]
                        refine wpAny_ready (rs := [4]) (by kernel_rfl) (by simp) ?_
                        refine AllReady.cons rfl (fun K hK => ?N0123_4) AllReady.nil
                        case N0123_4 =>
                          rw [if_pos (by rfl)]
                          change Oper.wp _ ⟨none, Op.store 3 (.tmp 3) (.tmp 106), _, _, _, _⟩ _ _ _ _
                          refine wp_store_one (v := (en : Int)) (.tmp 3) (.tmp 106) rfl (ev_of (by simp (disch := (first | decide | (simp only [tm_size, qs]; decide))) only [tm_other, tm_same, put_none, q3])) (ev_of (by simp (disch := (first | decide | (simp only [tm_size, qs]; decide))) only [tm_other, tm_same, put_none])) c2 f2 ?_
                          refine hK _ _ ?_
                          clear hK K
                          try dsimp only [put_none]
                          refine wpAny_ready (rs := [5]) (by kernel_rfl) (by simp) ?_
                          refine AllReady.cons rfl (fun K hK => ?N01234_5) AllReady.nil
                          case N01234_5 =>
                            rw [if_pos (by rfl)]
                            change Oper.wp _ ⟨none, Op.store 54 (.tmp 4) (.tmp 107), _, _, _, _⟩ _ _ _ _
                            refine wp_store_row 54 (.tmp 4) (.tmp 107) rfl (w.heap.size + 1 + 1) (flC 0 0) (ev_of (by simp (disch := (first | decide | (simp only [tm_size, qs]; decide))) only [tm_other, tm_same, put_none, q4])) (ev_of (by simp (disch := (first | decide | (simp only [tm_size, qs]; decide))) only [tm_other, tm_same, put_none])) 54 _ (bw_mid z10) s39 rfl (fl_all _ _) ?_
                            refine hK _ _ ?_
                            clear hK K
                            try dsimp only [put_none]
                            refine wpAny_done (by kernel_rfl) ?_ _
                            exact hfin _ (by simp (disch := (first | decide | (simp only [tm_size, qs]; decide))) only [tm_other, tm_same, put_none, q2]) (by simp (disch := (first | decide | (simp only [tm_size, qs]; decide))) only [tm_other, tm_same, put_none, q3]) (by simp (disch := (first | decide | (simp only [tm_size, qs]; decide))) only [tm_other, tm_same, put_none, q4]) (by simp only [tm_def, put_none, qd])
                    case N01_3 =>
                      rw [if_pos (by rfl)]
                      change Oper.wp _ ⟨none, Op.store 51 (.tmp 2) (.tmp 105), _, _, _, _⟩ _ _ _ _
                      refine wp_store_row 51 (.tmp 2) (.tmp 105) rfl w.heap.size (pkC ⟨hd, A3, es.length, c3, m⟩) (ev_of (by simp (disch := (first | decide | (simp only [tm_size, qs]; decide))) only [tm_other, tm_same, put_none, q2])) (ev_of (by simp (disch := (first | decide | (simp only [tm_size, qs]; decide))) only [tm_other, tm_same, put_none])) 51 _ x10 s29 rfl (pk_all _) ?_
                      refine hK _ _ ?_
                      clear hK K
                      try dsimp only [put_none]
                      refine wpAny_ready (rs := [2, 4]) (by kernel_rfl) (by simp) ?_
                      refine AllReady.cons rfl (fun K hK => ?N013_2) (AllReady.cons rfl (fun K hK => ?N013_4) AllReady.nil)
                      case N013_2 =>
                        rw [if_pos (by rfl)]
                        change Oper.wp _ ⟨some 107, Op.build 54 #[], _, _, _, _⟩ _ _ _ _
                        refine wp_build39 rfl ?_
                        refine hK _ _ ?_
                        clear hK K
                        try dsimp only [put_none]
                        refine wpAny_ready (rs := [4]) (by kernel_rfl) (by simp) ?_
                        refine AllReady.cons rfl (fun K hK => ?N0132_4) AllReady.nil
                        case N0132_4 =>
                          rw [if_pos (by rfl)]
                          change Oper.wp _ ⟨none, Op.store 3 (.tmp 3) (.tmp 106), _, _, _, _⟩ _ _ _ _
                          refine wp_store_one (v := (en : Int)) (.tmp 3) (.tmp 106) rfl (ev_of (by simp (disch := (first | decide | (simp only [tm_size, qs]; decide))) only [tm_other, tm_same, put_none, q3])) (ev_of (by simp (disch := (first | decide | (simp only [tm_size, qs]; decide))) only [tm_other, tm_same, put_none])) c2 f2 ?_
                          refine hK _ _ ?_
                          clear hK K
                          try dsimp only [put_none]
                          refine wpAny_ready (rs := [5]) (by kernel_rfl) (by simp) ?_
                          refine AllReady.cons rfl (fun K hK => ?N01324_5) AllReady.nil
                          case N01324_5 =>
                            rw [if_pos (by rfl)]
                            change Oper.wp _ ⟨none, Op.store 54 (.tmp 4) (.tmp 107), _, _, _, _⟩ _ _ _ _
                            refine wp_store_row 54 (.tmp 4) (.tmp 107) rfl (w.heap.size + 1 + 1) (flC 0 0) (ev_of (by simp (disch := (first | decide | (simp only [tm_size, qs]; decide))) only [tm_other, tm_same, put_none, q4])) (ev_of (by simp (disch := (first | decide | (simp only [tm_size, qs]; decide))) only [tm_other, tm_same, put_none])) 54 _ (bw_mid z10) s39 rfl (fl_all _ _) ?_
                            refine hK _ _ ?_
                            clear hK K
                            try dsimp only [put_none]
                            refine wpAny_done (by kernel_rfl) ?_ _
                            exact hfin _ (by simp (disch := (first | decide | (simp only [tm_size, qs]; decide))) only [tm_other, tm_same, put_none, q2]) (by simp (disch := (first | decide | (simp only [tm_size, qs]; decide))) only [tm_other, tm_same, put_none, q3]) (by simp (disch := (first | decide | (simp only [tm_size, qs]; decide))) only [tm_other, tm_same, put_none, q4]) (by simp only [tm_def, put_none, qd])
                      case N013_4 =>
                        rw [if_pos (by rfl)]
                        change Oper.wp _ ⟨none, Op.store 3 (.tmp 3) (.tmp 106), _, _, _, _⟩ _ _ _ _
                        refine wp_store_one (v := (en : Int)) (.tmp 3) (.tmp 106) rfl (ev_of (by simp (disch := (first | decide | (simp only [tm_size, qs]; decide))) only [tm_other, tm_same, put_none, q3])) (ev_of (by simp (disch := (first | decide | (simp only [tm_size, qs]; decide))) only [tm_other, tm_same, put_none])) c2 f2 ?_
                        refine hK _ _ ?_
                        clear hK K
                        try dsimp only [put_none]
                        refine wpAny_ready (rs := [2]) (by kernel_rfl) (by simp) ?_
                        refine AllReady.cons rfl (fun K hK => ?N0134_2) AllReady.nil
                        case N0134_2 =>
                          rw [if_pos (by rfl)]
                          change Oper.wp _ ⟨some 107, Op.build 54 #[], _, _, _, _⟩ _ _ _ _
                          refine wp_build39 rfl ?_
                          refine hK _ _ ?_
                          clear hK K
                          try dsimp only [put_none]
                          refine wpAny_ready (rs := [5]) (by kernel_rfl) (by simp) ?_
                          refine AllReady.cons rfl (fun K hK => ?N01342_5) AllReady.nil
                          case N01342_5 =>
                            rw [if_pos (by rfl)]
                            change Oper.wp _ ⟨none, Op.store 54 (.tmp 4) (.tmp 107), _, _, _, _⟩ _ _ _ _
                            refine wp_store_row 54 (.tmp 4) (.tmp 107) rfl (w.heap.size + 1 + 1) (flC 0 0) (ev_of (by simp (disch := (first | decide | (simp only [tm_size, qs]; decide))) only [tm_other, tm_same, put_none, q4])) (ev_of (by simp (disch := (first | decide | (simp only [tm_size, qs]; decide))) only [tm_other, tm_same, put_none])) 54 _ (bw_mid z10) s39 rfl (fl_all _ _) ?_
                            refine hK _ _ ?_
                            clear hK K
                            try dsimp only [put_none]
                            refine wpAny_done (by kernel_rfl) ?_ _
                            exact hfin _ (by simp (disch := (first | decide | (simp only [tm_size, qs]; decide))) only [tm_other, tm_same, put_none, q2]) (by simp (disch := (first | decide | (simp only [tm_size, qs]; decide))) only [tm_other, tm_same, put_none, q3]) (by simp (disch := (first | decide | (simp only [tm_size, qs]; decide))) only [tm_other, tm_same, put_none, q4]) (by simp only [tm_def, put_none, qd])
                  case N0_2 =>
                    rw [if_pos (by rfl)]
                    change Oper.wp _ ⟨some 107, Op.build 54 #[], _, _, _, _⟩ _ _ _ _
                    refine wp_build39 rfl ?_
                    refine hK _ _ ?_
                    clear hK K
                    try dsimp only [put_none]
                    refine wpAny_ready (rs := [1, 3]) (by kernel_rfl) (by simp) ?_
                    refine AllReady.cons rfl (fun K hK => ?N02_1) (AllReady.cons rfl (fun K hK => ?N02_3) AllReady.nil)
                    case N02_1 =>
                      rw [if_pos (by rfl)]
                      change Oper.wp _ ⟨some 106, Op.load 3 (.tmp 6), _, _, _, _⟩ _ _ _ _
                      refine wp_load_one (.tmp 6) rfl (ev_of (by simp (disch := (first | decide | (simp only [tm_size, qs]; decide))) only [tm_other, tm_same, put_none, q6])) ceD ?_
                      refine hK _ _ ?_
                      clear hK K
                      try dsimp only [put_none]
                      refine wpAny_ready (rs := [3]) (by kernel_rfl) (by simp) ?_
                      refine AllReady.cons rfl (fun K hK => ?N021_3) AllReady.nil
                      case N021_3 =>
                        rw [if_pos (by rfl)]
                        change Oper.wp _ ⟨none, Op.store 51 (.tmp 2) (.tmp 105), _, _, _, _⟩ _ _ _ _
                        refine wp_store_row 51 (.tmp 2) (.tmp 105) rfl w.heap.size (pkC ⟨hd, A3, es.length, c3, m⟩) (ev_of (by simp (disch := (first | decide | (simp only [tm_size, qs]; decide))) only [tm_other, tm_same, put_none, q2])) (ev_of (by simp (disch := (first | decide | (simp only [tm_size, qs]; decide))) only [tm_other, tm_same, put_none])) 51 _ x10 s29 rfl (pk_all _) ?_
                        refine hK _ _ ?_
                        clear hK K
                        try dsimp only [put_none]
                        refine wpAny_ready (rs := [4]) (by kernel_rfl) (by simp) ?_
                        refine AllReady.cons rfl (fun K hK => ?N0213_4) AllReady.nil
                        case N0213_4 =>
                          rw [if_pos (by rfl)]
                          change Oper.wp _ ⟨none, Op.store 3 (.tmp 3) (.tmp 106), _, _, _, _⟩ _ _ _ _
                          refine wp_store_one (v := (en : Int)) (.tmp 3) (.tmp 106) rfl (ev_of (by simp (disch := (first | decide | (simp only [tm_size, qs]; decide))) only [tm_other, tm_same, put_none, q3])) (ev_of (by simp (disch := (first | decide | (simp only [tm_size, qs]; decide))) only [tm_other, tm_same, put_none])) c2 f2 ?_
                          refine hK _ _ ?_
                          clear hK K
                          try dsimp only [put_none]
                          refine wpAny_ready (rs := [5]) (by kernel_rfl) (by simp) ?_
                          refine AllReady.cons rfl (fun K hK => ?N02134_5) AllReady.nil
                          case N02134_5 =>
                            rw [if_pos (by rfl)]
                            change Oper.wp _ ⟨none, Op.store 54 (.tmp 4) (.tmp 107), _, _, _, _⟩ _ _ _ _
                            refine wp_store_row 54 (.tmp 4) (.tmp 107) rfl (w.heap.size + 1 + 1) (flC 0 0) (ev_of (by simp (disch := (first | decide | (simp only [tm_size, qs]; decide))) only [tm_other, tm_same, put_none, q4])) (ev_of (by simp (disch := (first | decide | (simp only [tm_size, qs]; decide))) only [tm_other, tm_same, put_none])) 54 _ (bw_mid z10) s39 rfl (fl_all _ _) ?_
                            refine hK _ _ ?_
                            clear hK K
                            try dsimp only [put_none]
                            refine wpAny_done (by kernel_rfl) ?_ _
                            exact hfin _ (by simp (disch := (first | decide | (simp only [tm_size, qs]; decide))) only [tm_other, tm_same, put_none, q2]) (by simp (disch := (first | decide | (simp only [tm_size, qs]; decide))) only [tm_other, tm_same, put_none, q3]) (by simp (disch := (first | decide | (simp only [tm_size, qs]; decide))) only [tm_other, tm_same, put_none, q4]) (by simp only [tm_def, put_none, qd])
                    case N02_3 =>
                      rw [if_pos (by rfl)]
                      change Oper.wp _ ⟨none, Op.store 51 (.tmp 2) (.tmp 105), _, _, _, _⟩ _ _ _ _
                      refine wp_store_row 51 (.tmp 2) (.tmp 105) rfl w.heap.size (pkC ⟨hd, A3, es.length, c3, m⟩) (ev_of (by simp (disch := (first | decide | (simp only [tm_size, qs]; decide))) only [tm_other, tm_same, put_none, q2])) (ev_of (by simp (disch := (first | decide | (simp only [tm_size, qs]; decide))) only [tm_other, tm_same, put_none])) 51 _ x10 s29 rfl (pk_all _) ?_
                      refine hK _ _ ?_
                      clear hK K
                      try dsimp only [put_none]
                      refine wpAny_ready (rs := [1]) (by kernel_rfl) (by simp) ?_
                      refine AllReady.cons rfl (fun K hK => ?N023_1) AllReady.nil
                      case N023_1 =>
                        rw [if_pos (by rfl)]
                        change Oper.wp _ ⟨some 106, Op.load 3 (.tmp 6), _, _, _, _⟩ _ _ _ _
                        refine wp_load_one (.tmp 6) rfl (ev_of (by simp (disch := (first | decide | (simp only [tm_size, qs]; decide))) only [tm_other, tm_same, put_none, q6])) ceD2 ?_
                        refine hK _ _ ?_
                        clear hK K
                        try dsimp only [put_none]
                        refine wpAny_ready (rs := [4]) (by kernel_rfl) (by simp) ?_
                        refine AllReady.cons rfl (fun K hK => ?N0231_4) AllReady.nil
                        case N0231_4 =>
                          rw [if_pos (by rfl)]
                          change Oper.wp _ ⟨none, Op.store 3 (.tmp 3) (.tmp 106), _, _, _, _⟩ _ _ _ _
                          refine wp_store_one (v := (en : Int)) (.tmp 3) (.tmp 106) rfl (ev_of (by simp (disch := (first | decide | (simp only [tm_size, qs]; decide))) only [tm_other, tm_same, put_none, q3])) (ev_of (by simp (disch := (first | decide | (simp only [tm_size, qs]; decide))) only [tm_other, tm_same, put_none])) c2 f2 ?_
                          refine hK _ _ ?_
                          clear hK K
                          try dsimp only [put_none]
                          refine wpAny_ready (rs := [5]) (by kernel_rfl) (by simp) ?_
                          refine AllReady.cons rfl (fun K hK => ?N02314_5) AllReady.nil
                          case N02314_5 =>
                            rw [if_pos (by rfl)]
                            change Oper.wp _ ⟨none, Op.store 54 (.tmp 4) (.tmp 107), _, _, _, _⟩ _ _ _ _
                            refine wp_store_row 54 (.tmp 4) (.tmp 107) rfl (w.heap.size + 1 + 1) (flC 0 0) (ev_of (by simp (disch := (first | decide | (simp only [tm_size, qs]; decide))) only [tm_other, tm_same, put_none, q4])) (ev_of (by simp (disch := (first | decide | (simp only [tm_size, qs]; decide))) only [tm_other, tm_same, put_none])) 54 _ (bw_mid z10) s39 rfl (fl_all _ _) ?_
                            refine hK _ _ ?_
                            clear hK K
                            try dsimp only [put_none]
                            refine wpAny_done (by kernel_rfl) ?_ _
                            exact hfin _ (by simp (disch := (first | decide | (simp only [tm_size, qs]; decide))) only [tm_other, tm_same, put_none, q2]) (by simp (disch := (first | decide | (simp only [tm_size, qs]; decide))) only [tm_other, tm_same, put_none, q3]) (by simp (disch := (first | decide | (simp only [tm_size, qs]; decide))) only [tm_other, tm_same, put_none, q4]) (by simp only [tm_def, put_none, qd])
                  case N0_3 =>
                    rw [if_pos (by rfl)]
                    change Oper.wp _ ⟨none, Op.store 51 (.tmp 2) (.tmp 105), _, _, _, _⟩ _ _ _ _
                    refine wp_store_row 51 (.tmp 2) (.tmp 105) rfl w.heap.size (pkC ⟨hd, A3, es.length, c3, m⟩) (ev_of (by simp (disch := (first | decide | (simp only [tm_size, qs]; decide))) only [tm_other, tm_same, put_none, q2])) (ev_of (by simp (disch := (first | decide | (simp only [tm_size, qs]; decide))) only [tm_other, tm_same, put_none])) 51 _ x10 s29 rfl (pk_all _) ?_
                    refine hK _ _ ?_
                    clear hK K
                    try dsimp only [put_none]
                    refine wpAny_ready (rs := [1, 2]) (by kernel_rfl) (by simp) ?_
                    refine AllReady.cons rfl (fun K hK => ?N03_1) (AllReady.cons rfl (fun K hK => ?N03_2) AllReady.nil)
                    case N03_1 =>
                      rw [if_pos (by rfl)]
                      change Oper.wp _ ⟨some 106, Op.load 3 (.tmp 6), _, _, _, _⟩ _ _ _ _
                      refine wp_load_one (.tmp 6) rfl (ev_of (by simp (disch := (first | decide | (simp only [tm_size, qs]; decide))) only [tm_other, tm_same, put_none, q6])) ceD2 ?_
                      refine hK _ _ ?_
                      clear hK K
                      try dsimp only [put_none]
                      refine wpAny_ready (rs := [2, 4]) (by kernel_rfl) (by simp) ?_
                      refine AllReady.cons rfl (fun K hK => ?N031_2) (AllReady.cons rfl (fun K hK => ?N031_4) AllReady.nil)
                      case N031_2 =>
                        rw [if_pos (by rfl)]
                        change Oper.wp _ ⟨some 107, Op.build 54 #[], _, _, _, _⟩ _ _ _ _
                        refine wp_build39 rfl ?_
                        refine hK _ _ ?_
                        clear hK K
                        try dsimp only [put_none]
                        refine wpAny_ready (rs := [4]) (by kernel_rfl) (by simp) ?_
                        refine AllReady.cons rfl (fun K hK => ?N0312_4) AllReady.nil
                        case N0312_4 =>
                          rw [if_pos (by rfl)]
                          change Oper.wp _ ⟨none, Op.store 3 (.tmp 3) (.tmp 106), _, _, _, _⟩ _ _ _ _
                          refine wp_store_one (v := (en : Int)) (.tmp 3) (.tmp 106) rfl (ev_of (by simp (disch := (first | decide | (simp only [tm_size, qs]; decide))) only [tm_other, tm_same, put_none, q3])) (ev_of (by simp (disch := (first | decide | (simp only [tm_size, qs]; decide))) only [tm_other, tm_same, put_none])) c2 f2 ?_
                          refine hK _ _ ?_
                          clear hK K
                          try dsimp only [put_none]
                          refine wpAny_ready (rs := [5]) (by kernel_rfl) (by simp) ?_
                          refine AllReady.cons rfl (fun K hK => ?N03124_5) AllReady.nil
                          case N03124_5 =>
                            rw [if_pos (by rfl)]
                            change Oper.wp _ ⟨none, Op.store 54 (.tmp 4) (.tmp 107), _, _, _, _⟩ _ _ _ _
                            refine wp_store_row 54 (.tmp 4) (.tmp 107) rfl (w.heap.size + 1 + 1) (flC 0 0) (ev_of (by simp (disch := (first | decide | (simp only [tm_size, qs]; decide))) only [tm_other, tm_same, put_none, q4])) (ev_of (by simp (disch := (first | decide | (simp only [tm_size, qs]; decide))) only [tm_other, tm_same, put_none])) 54 _ (bw_mid z10) s39 rfl (fl_all _ _) ?_
                            refine hK _ _ ?_
                            clear hK K
                            try dsimp only [put_none]
                            refine wpAny_done (by kernel_rfl) ?_ _
                            exact hfin _ (by simp (disch := (first | decide | (simp only [tm_size, qs]; decide))) only [tm_other, tm_same, put_none, q2]) (by simp (disch := (first | decide | (simp only [tm_size, qs]; decide))) only [tm_other, tm_same, put_none, q3]) (by simp (disch := (first | decide | (simp only [tm_size, qs]; decide))) only [tm_other, tm_same, put_none, q4]) (by simp only [tm_def, put_none, qd])
                      case N031_4 =>
                        rw [if_pos (by rfl)]
                        change Oper.wp _ ⟨none, Op.store 3 (.tmp 3) (.tmp 106), _, _, _, _⟩ _ _ _ _
                        refine wp_store_one (v := (en : Int)) (.tmp 3) (.tmp 106) rfl (ev_of (by simp (disch := (first | decide | (simp only [tm_size, qs]; decide))) only [tm_other, tm_same, put_none, q3])) (ev_of (by simp (disch := (first | decide | (simp only [tm_size, qs]; decide))) only [tm_other, tm_same, put_none])) c2 f2 ?_
                        refine hK _ _ ?_
                        clear hK K
                        try dsimp only [put_none]
                        refine wpAny_ready (rs := [2]) (by kernel_rfl) (by simp) ?_
                        refine AllReady.cons rfl (fun K hK => ?N0314_2) AllReady.nil
                        case N0314_2 =>
                          rw [if_pos (by rfl)]
                          change Oper.wp _ ⟨some 107, Op.build 54 #[], _, _, _, _⟩ _ _ _ _
                          refine wp_build39 rfl ?_
                          refine hK _ _ ?_
                          clear hK K
                          try dsimp only [put_none]
                          refine wpAny_ready (rs := [5]) (by kernel_rfl) (by simp) ?_
                          refine AllReady.cons rfl (fun K hK => ?N03142_5) AllReady.nil
                          case N03142_5 =>
                            rw [if_pos (by rfl)]
                            change Oper.wp _ ⟨none, Op.store 54 (.tmp 4) (.tmp 107), _, _, _, _⟩ _ _ _ _
                            refine wp_store_row 54 (.tmp 4) (.tmp 107) rfl (w.heap.size + 1 + 1) (flC 0 0) (ev_of (by simp (disch := (first | decide | (simp only [tm_size, qs]; decide))) only [tm_other, tm_same, put_none, q4])) (ev_of (by simp (disch := (first | decide | (simp only [tm_size, qs]; decide))) only [tm_other, tm_same, put_none])) 54 _ (bw_mid z10) s39 rfl (fl_all _ _) ?_
                            refine hK _ _ ?_
                            clear hK K
                            try dsimp only [put_none]
                            refine wpAny_done (by kernel_rfl) ?_ _
                            exact hfin _ (by simp (disch := (first | decide | (simp only [tm_size, qs]; decide))) only [tm_other, tm_same, put_none, q2]) (by simp (disch := (first | decide | (simp only [tm_size, qs]; decide))) only [tm_other, tm_same, put_none, q3]) (by simp (disch := (first | decide | (simp only [tm_size, qs]; decide))) only [tm_other, tm_same, put_none, q4]) (by simp only [tm_def, put_none, qd])
                    case N03_2 =>
                      rw [if_pos (by rfl)]
                      change Oper.wp _ ⟨some 107, Op.build 54 #[], _, _, _, _⟩ _ _ _ _
                      refine wp_build39 rfl ?_
                      refine hK _ _ ?_
                      clear hK K
                      try dsimp only [put_none]
                      refine wpAny_ready (rs := [1]) (by kernel_rfl) (by simp) ?_
                      refine AllReady.cons rfl (fun K hK => ?N032_1) AllReady.nil
                      case N032_1 =>
                        rw [if_pos (by rfl)]
                        change Oper.wp _ ⟨some 106, Op.load 3 (.tmp 6), _, _, _, _⟩ _ _ _ _
                        refine wp_load_one (.tmp 6) rfl (ev_of (by simp (disch := (first | decide | (simp only [tm_size, qs]; decide))) only [tm_other, tm_same, put_none, q6])) ceD2 ?_
                        refine hK _ _ ?_
                        clear hK K
                        try dsimp only [put_none]
                        refine wpAny_ready (rs := [4]) (by kernel_rfl) (by simp) ?_
                        refine AllReady.cons rfl (fun K hK => ?N0321_4) AllReady.nil
                        case N0321_4 =>
                          rw [if_pos (by rfl)]
                          change Oper.wp _ ⟨none, Op.store 3 (.tmp 3) (.tmp 106), _, _, _, _⟩ _ _ _ _
                          refine wp_store_one (v := (en : Int)) (.tmp 3) (.tmp 106) rfl (ev_of (by simp (disch := (first | decide | (simp only [tm_size, qs]; decide))) only [tm_other, tm_same, put_none, q3])) (ev_of (by simp (disch := (first | decide | (simp only [tm_size, qs]; decide))) only [tm_other, tm_same, put_none])) c2 f2 ?_
                          refine hK _ _ ?_
                          clear hK K
                          try dsimp only [put_none]
                          refine wpAny_ready (rs := [5]) (by kernel_rfl) (by simp) ?_
                          refine AllReady.cons rfl (fun K hK => ?N03214_5) AllReady.nil
                          case N03214_5 =>
                            rw [if_pos (by rfl)]
                            change Oper.wp _ ⟨none, Op.store 54 (.tmp 4) (.tmp 107), _, _, _, _⟩ _ _ _ _
                            refine wp_store_row 54 (.tmp 4) (.tmp 107) rfl (w.heap.size + 1 + 1) (flC 0 0) (ev_of (by simp (disch := (first | decide | (simp only [tm_size, qs]; decide))) only [tm_other, tm_same, put_none, q4])) (ev_of (by simp (disch := (first | decide | (simp only [tm_size, qs]; decide))) only [tm_other, tm_same, put_none])) 54 _ (bw_mid z10) s39 rfl (fl_all _ _) ?_
                            refine hK _ _ ?_
                            clear hK K
                            try dsimp only [put_none]
                            refine wpAny_done (by kernel_rfl) ?_ _
                            exact hfin _ (by simp (disch := (first | decide | (simp only [tm_size, qs]; decide))) only [tm_other, tm_same, put_none, q2]) (by simp (disch := (first | decide | (simp only [tm_size, qs]; decide))) only [tm_other, tm_same, put_none, q3]) (by simp (disch := (first | decide | (simp only [tm_size, qs]; decide))) only [tm_other, tm_same, put_none, q4]) (by simp only [tm_def, put_none, qd])
                case N_1 =>
                  rw [if_pos (by rfl)]
                  change Oper.wp _ ⟨some 106, Op.load 3 (.tmp 6), _, _, _, _⟩ _ _ _ _
                  refine wp_load_one (.tmp 6) rfl (ev_of (by simp (disch := (first | decide | (simp only [tm_size, qs]; decide))) only [tm_other, tm_same, put_none, q6])) ceD ?_
                  refine hK _ _ ?_
                  clear hK K
                  try dsimp only [put_none]
                  refine wpAny_ready (rs := [0, 2]) (by kernel_rfl) (by simp) ?_
                  refine AllReady.cons rfl (fun K hK => ?N1_0) (AllReady.cons rfl (fun K hK => ?N1_2) AllReady.nil)
                  case N1_0 =>
                    rw [if_pos (by rfl)]
                    change Oper.wp _ ⟨some 105, Op.load 51 (.tmp 5), _, _, _, _⟩ _ _ _ _
                    refine wp_load_row 51 (.tmp 5) rfl w1.heap.size (ev_of (by simp (disch := (first | decide | (simp only [tm_size, qs]; decide))) only [tm_other, tm_same, put_none, q5])) 51 (pkC ⟨hd, A3, es.length, c3, m⟩) (0, 0) _ pD Tryz.underlying51 rfl s29 ?_
                    refine hK _ _ ?_
                    clear hK K
                    try dsimp only [put_none]
                    refine wpAny_ready (rs := [2, 3]) (by kernel_rfl) (by simp) ?_
                    refine AllReady.cons rfl (fun K hK => ?N10_2) (AllReady.cons rfl (fun K hK => ?N10_3) AllReady.nil)
                    case N10_2 =>
                      rw [if_pos (by rfl)]
                      change Oper.wp _ ⟨some 107, Op.build 54 #[], _, _, _, _⟩ _ _ _ _
                      refine wp_build39 rfl ?_
                      refine hK _ _ ?_
                      clear hK K
                      try dsimp only [put_none]
                      refine wpAny_ready (rs := [3]) (by kernel_rfl) (by simp) ?_
                      refine AllReady.cons rfl (fun K hK => ?N102_3) AllReady.nil
                      case N102_3 =>
                        rw [if_pos (by rfl)]
                        change Oper.wp _ ⟨none, Op.store 51 (.tmp 2) (.tmp 105), _, _, _, _⟩ _ _ _ _
                        refine wp_store_row 51 (.tmp 2) (.tmp 105) rfl w.heap.size (pkC ⟨hd, A3, es.length, c3, m⟩) (ev_of (by simp (disch := (first | decide | (simp only [tm_size, qs]; decide))) only [tm_other, tm_same, put_none, q2])) (ev_of (by simp (disch := (first | decide | (simp only [tm_size, qs]; decide))) only [tm_other, tm_same, put_none])) 51 _ x10 s29 rfl (pk_all _) ?_
                        refine hK _ _ ?_
                        clear hK K
                        try dsimp only [put_none]
                        refine wpAny_ready (rs := [4]) (by kernel_rfl) (by simp) ?_
                        refine AllReady.cons rfl (fun K hK => ?N1023_4) AllReady.nil
                        case N1023_4 =>
                          rw [if_pos (by rfl)]
                          change Oper.wp _ ⟨none, Op.store 3 (.tmp 3) (.tmp 106), _, _, _, _⟩ _ _ _ _
                          refine wp_store_one (v := (en : Int)) (.tmp 3) (.tmp 106) rfl (ev_of (by simp (disch := (first | decide | (simp only [tm_size, qs]; decide))) only [tm_other, tm_same, put_none, q3])) (ev_of (by simp (disch := (first | decide | (simp only [tm_size, qs]; decide))) only [tm_other, tm_same, put_none])) c2 f2 ?_
                          refine hK _ _ ?_
                          clear hK K
                          try dsimp only [put_none]
                          refine wpAny_ready (rs := [5]) (by kernel_rfl) (by simp) ?_
                          refine AllReady.cons rfl (fun K hK => ?N10234_5) AllReady.nil
                          case N10234_5 =>
                            rw [if_pos (by rfl)]
                            change Oper.wp _ ⟨none, Op.store 54 (.tmp 4) (.tmp 107), _, _, _, _⟩ _ _ _ _
                            refine wp_store_row 54 (.tmp 4) (.tmp 107) rfl (w.heap.size + 1 + 1) (flC 0 0) (ev_of (by simp (disch := (first | decide | (simp only [tm_size, qs]; decide))) only [tm_other, tm_same, put_none, q4])) (ev_of (by simp (disch := (first | decide | (simp only [tm_size, qs]; decide))) only [tm_other, tm_same, put_none])) 54 _ (bw_mid z10) s39 rfl (fl_all _ _) ?_
                            refine hK _ _ ?_
                            clear hK K
                            try dsimp only [put_none]
                            refine wpAny_done (by kernel_rfl) ?_ _
                            exact hfin _ (by simp (disch := (first | decide | (simp only [tm_size, qs]; decide))) only [tm_other, tm_same, put_none, q2]) (by simp (disch := (first | decide | (simp only [tm_size, qs]; decide))) only [tm_other, tm_same, put_none, q3]) (by simp (disch := (first | decide | (simp only [tm_size, qs]; decide))) only [tm_other, tm_same, put_none, q4]) (by simp only [tm_def, put_none, qd])
                    case N10_3 =>
                      rw [if_pos (by rfl)]
                      change Oper.wp _ ⟨none, Op.store 51 (.tmp 2) (.tmp 105), _, _, _, _⟩ _ _ _ _
                      refine wp_store_row 51 (.tmp 2) (.tmp 105) rfl w.heap.size (pkC ⟨hd, A3, es.length, c3, m⟩) (ev_of (by simp (disch := (first | decide | (simp only [tm_size, qs]; decide))) only [tm_other, tm_same, put_none, q2])) (ev_of (by simp (disch := (first | decide | (simp only [tm_size, qs]; decide))) only [tm_other, tm_same, put_none])) 51 _ x10 s29 rfl (pk_all _) ?_
                      refine hK _ _ ?_
                      clear hK K
                      try dsimp only [put_none]
                      refine wpAny_ready (rs := [2, 4]) (by kernel_rfl) (by simp) ?_
                      refine AllReady.cons rfl (fun K hK => ?N103_2) (AllReady.cons rfl (fun K hK => ?N103_4) AllReady.nil)
                      case N103_2 =>
                        rw [if_pos (by rfl)]
                        change Oper.wp _ ⟨some 107, Op.build 54 #[], _, _, _, _⟩ _ _ _ _
                        refine wp_build39 rfl ?_
                        refine hK _ _ ?_
                        clear hK K
                        try dsimp only [put_none]
                        refine wpAny_ready (rs := [4]) (by kernel_rfl) (by simp) ?_
                        refine AllReady.cons rfl (fun K hK => ?N1032_4) AllReady.nil
                        case N1032_4 =>
                          rw [if_pos (by rfl)]
                          change Oper.wp _ ⟨none, Op.store 3 (.tmp 3) (.tmp 106), _, _, _, _⟩ _ _ _ _
                          refine wp_store_one (v := (en : Int)) (.tmp 3) (.tmp 106) rfl (ev_of (by simp (disch := (first | decide | (simp only [tm_size, qs]; decide))) only [tm_other, tm_same, put_none, q3])) (ev_of (by simp (disch := (first | decide | (simp only [tm_size, qs]; decide))) only [tm_other, tm_same, put_none])) c2 f2 ?_
                          refine hK _ _ ?_
                          clear hK K
                          try dsimp only [put_none]
                          refine wpAny_ready (rs := [5]) (by kernel_rfl) (by simp) ?_
                          refine AllReady.cons rfl (fun K hK => ?N10324_5) AllReady.nil
                          case N10324_5 =>
                            rw [if_pos (by rfl)]
                            change Oper.wp _ ⟨none, Op.store 54 (.tmp 4) (.tmp 107), _, _, _, _⟩ _ _ _ _
                            refine wp_store_row 54 (.tmp 4) (.tmp 107) rfl (w.heap.size + 1 + 1) (flC 0 0) (ev_of (by simp (disch := (first | decide | (simp only [tm_size, qs]; decide))) only [tm_other, tm_same, put_none, q4])) (ev_of (by simp (disch := (first | decide | (simp only [tm_size, qs]; decide))) only [tm_other, tm_same, put_none])) 54 _ (bw_mid z10) s39 rfl (fl_all _ _) ?_
                            refine hK _ _ ?_
                            clear hK K
                            try dsimp only [put_none]
                            refine wpAny_done (by kernel_rfl) ?_ _
                            exact hfin _ (by simp (disch := (first | decide | (simp only [tm_size, qs]; decide))) only [tm_other, tm_same, put_none, q2]) (by simp (disch := (first | decide | (simp only [tm_size, qs]; decide))) only [tm_other, tm_same, put_none, q3]) (by simp (disch := (first | decide | (simp only [tm_size, qs]; decide))) only [tm_other, tm_same, put_none, q4]) (by simp only [tm_def, put_none, qd])
                      case N103_4 =>
                        rw [if_pos (by rfl)]
                        change Oper.wp _ ⟨none, Op.store 3 (.tmp 3) (.tmp 106), _, _, _, _⟩ _ _ _ _
                        refine wp_store_one (v := (en : Int)) (.tmp 3) (.tmp 106) rfl (ev_of (by simp (disch := (first | decide | (simp only [tm_size, qs]; decide))) only [tm_other, tm_same, put_none, q3])) (ev_of (by simp (disch := (first | decide | (simp only [tm_size, qs]; decide))) only [tm_other, tm_same, put_none])) c2 f2 ?_
                        refine hK _ _ ?_
                        clear hK K
                        try dsimp only [put_none]
                        refine wpAny_ready (rs := [2]) (by kernel_rfl) (by simp) ?_
                        refine AllReady.cons rfl (fun K hK => ?N1034_2) AllReady.nil
                        case N1034_2 =>
                          rw [if_pos (by rfl)]
                          change Oper.wp _ ⟨some 107, Op.build 54 #[], _, _, _, _⟩ _ _ _ _
                          refine wp_build39 rfl ?_
                          refine hK _ _ ?_
                          clear hK K
                          try dsimp only [put_none]
                          refine wpAny_ready (rs := [5]) (by kernel_rfl) (by simp) ?_
                          refine AllReady.cons rfl (fun K hK => ?N10342_5) AllReady.nil
                          case N10342_5 =>
                            rw [if_pos (by rfl)]
                            change Oper.wp _ ⟨none, Op.store 54 (.tmp 4) (.tmp 107), _, _, _, _⟩ _ _ _ _
                            refine wp_store_row 54 (.tmp 4) (.tmp 107) rfl (w.heap.size + 1 + 1) (flC 0 0) (ev_of (by simp (disch := (first | decide | (simp only [tm_size, qs]; decide))) only [tm_other, tm_same, put_none, q4])) (ev_of (by simp (disch := (first | decide | (simp only [tm_size, qs]; decide))) only [tm_other, tm_same, put_none])) 54 _ (bw_mid z10) s39 rfl (fl_all _ _) ?_
                            refine hK _ _ ?_
                            clear hK K
                            try dsimp only [put_none]
                            refine wpAny_done (by kernel_rfl) ?_ _
                            exact hfin _ (by simp (disch := (first | decide | (simp only [tm_size, qs]; decide))) only [tm_other, tm_same, put_none, q2]) (by simp (disch := (first | decide | (simp only [tm_size, qs]; decide))) only [tm_other, tm_same, put_none, q3]) (by simp (disch := (first | decide | (simp only [tm_size, qs]; decide))) only [tm_other, tm_same, put_none, q4]) (by simp only [tm_def, put_none, qd])
                  case N1_2 =>
                    rw [if_pos (by rfl)]
                    change Oper.wp _ ⟨some 107, Op.build 54 #[], _, _, _, _⟩ _ _ _ _
                    refine wp_build39 rfl ?_
                    refine hK _ _ ?_
                    clear hK K
                    try dsimp only [put_none]
                    refine wpAny_ready (rs := [0]) (by kernel_rfl) (by simp) ?_
                    refine AllReady.cons rfl (fun K hK => ?N12_0) AllReady.nil
                    case N12_0 =>
                      rw [if_pos (by rfl)]
                      change Oper.wp _ ⟨some 105, Op.load 51 (.tmp 5), _, _, _, _⟩ _ _ _ _
                      refine wp_load_row 51 (.tmp 5) rfl w1.heap.size (ev_of (by simp (disch := (first | decide | (simp only [tm_size, qs]; decide))) only [tm_other, tm_same, put_none, q5])) 51 (pkC ⟨hd, A3, es.length, c3, m⟩) (0, 0) _ pD Tryz.underlying51 rfl s29 ?_
                      refine hK _ _ ?_
                      clear hK K
                      try dsimp only [put_none]
                      refine wpAny_ready (rs := [3]) (by kernel_rfl) (by simp) ?_
                      refine AllReady.cons rfl (fun K hK => ?N120_3) AllReady.nil
                      case N120_3 =>
                        rw [if_pos (by rfl)]
                        change Oper.wp _ ⟨none, Op.store 51 (.tmp 2) (.tmp 105), _, _, _, _⟩ _ _ _ _
                        refine wp_store_row 51 (.tmp 2) (.tmp 105) rfl w.heap.size (pkC ⟨hd, A3, es.length, c3, m⟩) (ev_of (by simp (disch := (first | decide | (simp only [tm_size, qs]; decide))) only [tm_other, tm_same, put_none, q2])) (ev_of (by simp (disch := (first | decide | (simp only [tm_size, qs]; decide))) only [tm_other, tm_same, put_none])) 51 _ x10 s29 rfl (pk_all _) ?_
                        refine hK _ _ ?_
                        clear hK K
                        try dsimp only [put_none]
                        refine wpAny_ready (rs := [4]) (by kernel_rfl) (by simp) ?_
                        refine AllReady.cons rfl (fun K hK => ?N1203_4) AllReady.nil
                        case N1203_4 =>
                          rw [if_pos (by rfl)]
                          change Oper.wp _ ⟨none, Op.store 3 (.tmp 3) (.tmp 106), _, _, _, _⟩ _ _ _ _
                          refine wp_store_one (v := (en : Int)) (.tmp 3) (.tmp 106) rfl (ev_of (by simp (disch := (first | decide | (simp only [tm_size, qs]; decide))) only [tm_other, tm_same, put_none, q3])) (ev_of (by simp (disch := (first | decide | (simp only [tm_size, qs]; decide))) only [tm_other, tm_same, put_none])) c2 f2 ?_
                          refine hK _ _ ?_
                          clear hK K
                          try dsimp only [put_none]
                          refine wpAny_ready (rs := [5]) (by kernel_rfl) (by simp) ?_
                          refine AllReady.cons rfl (fun K hK => ?N12034_5) AllReady.nil
                          case N12034_5 =>
                            rw [if_pos (by rfl)]
                            change Oper.wp _ ⟨none, Op.store 54 (.tmp 4) (.tmp 107), _, _, _, _⟩ _ _ _ _
                            refine wp_store_row 54 (.tmp 4) (.tmp 107) rfl (w.heap.size + 1 + 1) (flC 0 0) (ev_of (by simp (disch := (first | decide | (simp only [tm_size, qs]; decide))) only [tm_other, tm_same, put_none, q4])) (ev_of (by simp (disch := (first | decide | (simp only [tm_size, qs]; decide))) only [tm_other, tm_same, put_none])) 54 _ (bw_mid z10) s39 rfl (fl_all _ _) ?_
                            refine hK _ _ ?_
                            clear hK K
                            try dsimp only [put_none]
                            refine wpAny_done (by kernel_rfl) ?_ _
                            exact hfin _ (by simp (disch := (first | decide | (simp only [tm_size, qs]; decide))) only [tm_other, tm_same, put_none, q2]) (by simp (disch := (first | decide | (simp only [tm_size, qs]; decide))) only [tm_other, tm_same, put_none, q3]) (by simp (disch := (first | decide | (simp only [tm_size, qs]; decide))) only [tm_other, tm_same, put_none, q4]) (by simp only [tm_def, put_none, qd])
                case N_2 =>
                  rw [if_pos (by rfl)]
                  change Oper.wp _ ⟨some 107, Op.build 54 #[], _, _, _, _⟩ _ _ _ _
                  refine wp_build39 rfl ?_
                  refine hK _ _ ?_
                  clear hK K
                  try dsimp only [put_none]
                  refine wpAny_ready (rs := [0, 1]) (by kernel_rfl) (by simp) ?_
                  refine AllReady.cons rfl (fun K hK => ?N2_0) (AllReady.cons rfl (fun K hK => ?N2_1) AllReady.nil)
                  case N2_0 =>
                    rw [if_pos (by rfl)]
                    change Oper.wp _ ⟨some 105, Op.load 51 (.tmp 5), _, _, _, _⟩ _ _ _ _
                    refine wp_load_row 51 (.tmp 5) rfl w1.heap.size (ev_of (by simp (disch := (first | decide | (simp only [tm_size, qs]; decide))) only [tm_other, tm_same, put_none, q5])) 51 (pkC ⟨hd, A3, es.length, c3, m⟩) (0, 0) _ pD Tryz.underlying51 rfl s29 ?_
                    refine hK _ _ ?_
                    clear hK K
                    try dsimp only [put_none]
                    refine wpAny_ready (rs := [1, 3]) (by kernel_rfl) (by simp) ?_
                    refine AllReady.cons rfl (fun K hK => ?N20_1) (AllReady.cons rfl (fun K hK => ?N20_3) AllReady.nil)
                    case N20_1 =>
                      rw [if_pos (by rfl)]
                      change Oper.wp _ ⟨some 106, Op.load 3 (.tmp 6), _, _, _, _⟩ _ _ _ _
                      refine wp_load_one (.tmp 6) rfl (ev_of (by simp (disch := (first | decide | (simp only [tm_size, qs]; decide))) only [tm_other, tm_same, put_none, q6])) ceD ?_
                      refine hK _ _ ?_
                      clear hK K
                      try dsimp only [put_none]
                      refine wpAny_ready (rs := [3]) (by kernel_rfl) (by simp) ?_
                      refine AllReady.cons rfl (fun K hK => ?N201_3) AllReady.nil
                      case N201_3 =>
                        rw [if_pos (by rfl)]
                        change Oper.wp _ ⟨none, Op.store 51 (.tmp 2) (.tmp 105), _, _, _, _⟩ _ _ _ _
                        refine wp_store_row 51 (.tmp 2) (.tmp 105) rfl w.heap.size (pkC ⟨hd, A3, es.length, c3, m⟩) (ev_of (by simp (disch := (first | decide | (simp only [tm_size, qs]; decide))) only [tm_other, tm_same, put_none, q2])) (ev_of (by simp (disch := (first | decide | (simp only [tm_size, qs]; decide))) only [tm_other, tm_same, put_none])) 51 _ x10 s29 rfl (pk_all _) ?_
                        refine hK _ _ ?_
                        clear hK K
                        try dsimp only [put_none]
                        refine wpAny_ready (rs := [4]) (by kernel_rfl) (by simp) ?_
                        refine AllReady.cons rfl (fun K hK => ?N2013_4) AllReady.nil
                        case N2013_4 =>
                          rw [if_pos (by rfl)]
                          change Oper.wp _ ⟨none, Op.store 3 (.tmp 3) (.tmp 106), _, _, _, _⟩ _ _ _ _
                          refine wp_store_one (v := (en : Int)) (.tmp 3) (.tmp 106) rfl (ev_of (by simp (disch := (first | decide | (simp only [tm_size, qs]; decide))) only [tm_other, tm_same, put_none, q3])) (ev_of (by simp (disch := (first | decide | (simp only [tm_size, qs]; decide))) only [tm_other, tm_same, put_none])) c2 f2 ?_
                          refine hK _ _ ?_
                          clear hK K
                          try dsimp only [put_none]
                          refine wpAny_ready (rs := [5]) (by kernel_rfl) (by simp) ?_
                          refine AllReady.cons rfl (fun K hK => ?N20134_5) AllReady.nil
                          case N20134_5 =>
                            rw [if_pos (by rfl)]
                            change Oper.wp _ ⟨none, Op.store 54 (.tmp 4) (.tmp 107), _, _, _, _⟩ _ _ _ _
                            refine wp_store_row 54 (.tmp 4) (.tmp 107) rfl (w.heap.size + 1 + 1) (flC 0 0) (ev_of (by simp (disch := (first | decide | (simp only [tm_size, qs]; decide))) only [tm_other, tm_same, put_none, q4])) (ev_of (by simp (disch := (first | decide | (simp only [tm_size, qs]; decide))) only [tm_other, tm_same, put_none])) 54 _ (bw_mid z10) s39 rfl (fl_all _ _) ?_
                            refine hK _ _ ?_
                            clear hK K
                            try dsimp only [put_none]
                            refine wpAny_done (by kernel_rfl) ?_ _
                            exact hfin _ (by simp (disch := (first | decide | (simp only [tm_size, qs]; decide))) only [tm_other, tm_same, put_none, q2]) (by simp (disch := (first | decide | (simp only [tm_size, qs]; decide))) only [tm_other, tm_same, put_none, q3]) (by simp (disch := (first | decide | (simp only [tm_size, qs]; decide))) only [tm_other, tm_same, put_none, q4]) (by simp only [tm_def, put_none, qd])
                    case N20_3 =>
                      rw [if_pos (by rfl)]
                      change Oper.wp _ ⟨none, Op.store 51 (.tmp 2) (.tmp 105), _, _, _, _⟩ _ _ _ _
                      refine wp_store_row 51 (.tmp 2) (.tmp 105) rfl w.heap.size (pkC ⟨hd, A3, es.length, c3, m⟩) (ev_of (by simp (disch := (first | decide | (simp only [tm_size, qs]; decide))) only [tm_other, tm_same, put_none, q2])) (ev_of (by simp (disch := (first | decide | (simp only [tm_size, qs]; decide))) only [tm_other, tm_same, put_none])) 51 _ x10 s29 rfl (pk_all _) ?_
                      refine hK _ _ ?_
                      clear hK K
                      try dsimp only [put_none]
                      refine wpAny_ready (rs := [1]) (by kernel_rfl) (by simp) ?_
                      refine AllReady.cons rfl (fun K hK => ?N203_1) AllReady.nil
                      case N203_1 =>
                        rw [if_pos (by rfl)]
                        change Oper.wp _ ⟨some 106, Op.load 3 (.tmp 6), _, _, _, _⟩ _ _ _ _
                        refine wp_load_one (.tmp 6) rfl (ev_of (by simp (disch := (first | decide | (simp only [tm_size, qs]; decide))) only [tm_other, tm_same, put_none, q6])) ceD2 ?_
                        refine hK _ _ ?_
                        clear hK K
                        try dsimp only [put_none]
                        refine wpAny_ready (rs := [4]) (by kernel_rfl) (by simp) ?_
                        refine AllReady.cons rfl (fun K hK => ?N2031_4) AllReady.nil
                        case N2031_4 =>
                          rw [if_pos (by rfl)]
                          change Oper.wp _ ⟨none, Op.store 3 (.tmp 3) (.tmp 106), _, _, _, _⟩ _ _ _ _
                          refine wp_store_one (v := (en : Int)) (.tmp 3) (.tmp 106) rfl (ev_of (by simp (disch := (first | decide | (simp only [tm_size, qs]; decide))) only [tm_other, tm_same, put_none, q3])) (ev_of (by simp (disch := (first | decide | (simp only [tm_size, qs]; decide))) only [tm_other, tm_same, put_none])) c2 f2 ?_
                          refine hK _ _ ?_
                          clear hK K
                          try dsimp only [put_none]
                          refine wpAny_ready (rs := [5]) (by kernel_rfl) (by simp) ?_
                          refine AllReady.cons rfl (fun K hK => ?N20314_5) AllReady.nil
                          case N20314_5 =>
                            rw [if_pos (by rfl)]
                            change Oper.wp _ ⟨none, Op.store 54 (.tmp 4) (.tmp 107), _, _, _, _⟩ _ _ _ _
                            refine wp_store_row 54 (.tmp 4) (.tmp 107) rfl (w.heap.size + 1 + 1) (flC 0 0) (ev_of (by simp (disch := (first | decide | (simp only [tm_size, qs]; decide))) only [tm_other, tm_same, put_none, q4])) (ev_of (by simp (disch := (first | decide | (simp only [tm_size, qs]; decide))) only [tm_other, tm_same, put_none])) 54 _ (bw_mid z10) s39 rfl (fl_all _ _) ?_
                            refine hK _ _ ?_
                            clear hK K
                            try dsimp only [put_none]
                            refine wpAny_done (by kernel_rfl) ?_ _
                            exact hfin _ (by simp (disch := (first | decide | (simp only [tm_size, qs]; decide))) only [tm_other, tm_same, put_none, q2]) (by simp (disch := (first | decide | (simp only [tm_size, qs]; decide))) only [tm_other, tm_same, put_none, q3]) (by simp (disch := (first | decide | (simp only [tm_size, qs]; decide))) only [tm_other, tm_same, put_none, q4]) (by simp only [tm_def, put_none, qd])
                  case N2_1 =>
                    rw [if_pos (by rfl)]
                    change Oper.wp _ ⟨some 106, Op.load 3 (.tmp 6), _, _, _, _⟩ _ _ _ _
                    refine wp_load_one (.tmp 6) rfl (ev_of (by simp (disch := (first | decide | (simp only [tm_size, qs]; decide))) only [tm_other, tm_same, put_none, q6])) ceD ?_
                    refine hK _ _ ?_
                    clear hK K
                    try dsimp only [put_none]
                    refine wpAny_ready (rs := [0]) (by kernel_rfl) (by simp) ?_
                    refine AllReady.cons rfl (fun K hK => ?N21_0) AllReady.nil
                    case N21_0 =>
                      rw [if_pos (by rfl)]
                      change Oper.wp _ ⟨some 105, Op.load 51 (.tmp 5), _, _, _, _⟩ _ _ _ _
                      refine wp_load_row 51 (.tmp 5) rfl w1.heap.size (ev_of (by simp (disch := (first | decide | (simp only [tm_size, qs]; decide))) only [tm_other, tm_same, put_none, q5])) 51 (pkC ⟨hd, A3, es.length, c3, m⟩) (0, 0) _ pD Tryz.underlying51 rfl s29 ?_
                      refine hK _ _ ?_
                      clear hK K
                      try dsimp only [put_none]
                      refine wpAny_ready (rs := [3]) (by kernel_rfl) (by simp) ?_
                      refine AllReady.cons rfl (fun K hK => ?N210_3) AllReady.nil
                      case N210_3 =>
                        rw [if_pos (by rfl)]
                        change Oper.wp _ ⟨none, Op.store 51 (.tmp 2) (.tmp 105), _, _, _, _⟩ _ _ _ _
                        refine wp_store_row 51 (.tmp 2) (.tmp 105) rfl w.heap.size (pkC ⟨hd, A3, es.length, c3, m⟩) (ev_of (by simp (disch := (first | decide | (simp only [tm_size, qs]; decide))) only [tm_other, tm_same, put_none, q2])) (ev_of (by simp (disch := (first | decide | (simp only [tm_size, qs]; decide))) only [tm_other, tm_same, put_none])) 51 _ x10 s29 rfl (pk_all _) ?_
                        refine hK _ _ ?_
                        clear hK K
                        try dsimp only [put_none]
                        refine wpAny_ready (rs := [4]) (by kernel_rfl) (by simp) ?_
                        refine AllReady.cons rfl (fun K hK => ?N2103_4) AllReady.nil
                        case N2103_4 =>
                          rw [if_pos (by rfl)]
                          change Oper.wp _ ⟨none, Op.store 3 (.tmp 3) (.tmp 106), _, _, _, _⟩ _ _ _ _
                          refine wp_store_one (v := (en : Int)) (.tmp 3) (.tmp 106) rfl (ev_of (by simp (disch := (first | decide | (simp only [tm_size, qs]; decide))) only [tm_other, tm_same, put_none, q3])) (ev_of (by simp (disch := (first | decide | (simp only [tm_size, qs]; decide))) only [tm_other, tm_same, put_none])) c2 f2 ?_
                          refine hK _ _ ?_
                          clear hK K
                          try dsimp only [put_none]
                          refine wpAny_ready (rs := [5]) (by kernel_rfl) (by simp) ?_
                          refine AllReady.cons rfl (fun K hK => ?N21034_5) AllReady.nil
                          case N21034_5 =>
                            rw [if_pos (by rfl)]
                            change Oper.wp _ ⟨none, Op.store 54 (.tmp 4) (.tmp 107), _, _, _, _⟩ _ _ _ _
                            refine wp_store_row 54 (.tmp 4) (.tmp 107) rfl (w.heap.size + 1 + 1) (flC 0 0) (ev_of (by simp (disch := (first | decide | (simp only [tm_size, qs]; decide))) only [tm_other, tm_same, put_none, q4])) (ev_of (by simp (disch := (first | decide | (simp only [tm_size, qs]; decide))) only [tm_other, tm_same, put_none])) 54 _ (bw_mid z10) s39 rfl (fl_all _ _) ?_
                            refine hK _ _ ?_
                            clear hK K
                            try dsimp only [put_none]
                            refine wpAny_done (by kernel_rfl) ?_ _
                            exact hfin _ (by simp (disch := (first | decide | (simp only [tm_size, qs]; decide))) only [tm_other, tm_same, put_none, q2]) (by simp (disch := (first | decide | (simp only [tm_size, qs]; decide))) only [tm_other, tm_same, put_none, q3]) (by simp (disch := (first | decide | (simp only [tm_size, qs]; decide))) only [tm_other, tm_same, put_none, q4]) (by simp only [tm_def, put_none, qd])
              · have HV := Lib.hid (show prs xs = .bad en 102 from HV2.out.trans (if_neg hmac))
                have hne : n - en ≠ 0 ∧ n - en ≠ 4 ∧ n - en ≠ 20 := by
                  unfold macN at hmac
                  simp only [Bool.or_eq_true, beq_iff_eq] at hmac
                  omega
                have he : e = .returned (.tuple #[.agg #[.bool false, .int .u32 0, .slice none 0 0], .bool false]) := by
                  rcases hm with ⟨h, _⟩ | ⟨h, _⟩ | ⟨_, _, _, h⟩
                  · omega
                  · omega
                  · exact h
                subst he
                clear hm hmac hne HV2
                obtain ⟨W10, hW10⟩ : ∃ W10, W10 = w9.alloc (.cells #[.bool false, .int .u32 0, .slice none 0 0] 49) := ⟨_, rfl⟩
                have b10 : RowKit.Below w9.heap.size w9 W10 := by rw [hW10]; exact (Below.refl _ _).alloc (Nat.le_refl _) _
                have P10 := Lib.hid (P9.out.below b10)
                have BW10 := Lib.hid (bthen BW9.out b10 (Nat.le_refl _))
                have HD10 := Lib.hid ((b10.block _ (Array.getElem?_eq_some_iff.1 HD9.out).1).trans HD9.out)
                have ce10 : (w9.alloc (.cells #[.bool false, .int .u32 0, .slice none 0 0] 49)).cell? ⟨w6.heap.size, 0, none⟩ = some (.int .i64 (en : Int)) := by rw [← hW10, cell_of_row W10 _ 0 _ 3 (0, 0) P10.out.at_]; rfl
                have HW10 := Lib.hid hW10
                clear b10 hW10 ce9
                gi_wp2_with fail
                rw [← HW10.out]
                refine ⟨trivial, (callsIn_wide.2 (refused2 en 102 W10)).mono ?_⟩
                rintro e w11 ⟨rfl, b11⟩
                have f10 := P10.out.fr
                have x10 := (f10.block w.heap.size (by omega) (by omega) (by omega)).trans X8.out
                have y10 := (f10.block (w.heap.size + 1) (by omega) (by omega) (by omega)).trans Y8.out
                have z10 := (f10.block (w.heap.size + 1 + 1) (by omega) (by omega) (by omega)).trans Z8.out
                have x1 := (b11.block _ (Array.getElem?_eq_some_iff.1 x10).1).trans x10
                have y1 := (b11.block _ (Array.getElem?_eq_some_iff.1 y10).1).trans y10
                have z1 := (b11.block _ (Array.getElem?_eq_some_iff.1 z10).1).trans z10
                have d1 := (b11.block _ (Array.getElem?_eq_some_iff.1 HD10.out).1).trans HD10.out
                have B11 := bthen BW10.out b11 (Nat.le_refl _)
                clear f10 x10 y10 z10 b11 ce10
                gi_wp2_with (first
                  | (refine wpListIn_store_row rfl 51 (.tmp 2) (.tmp 100) rfl w.heap.size (pkC pk0) rfl rfl 51 _ x1 s29 rfl (pk_all _) ?_; obtain ⟨c2, f2⟩ := bw_cell (p := pk0) y1)
                  | (refine wpListIn_store_row rfl 54 (.tmp 4) (.tmp 102) rfl (w.heap.size + 1 + 1) (flC en 102) rfl rfl 54 _ (bw_mid z1) s39 rfl (fl_all _ _) ?_))
                obtain ⟨v1, v2, v3⟩ := bw_at (p := pk0) (k := 0) (a := en) (e := 102) x1 y1 z1
                have B2 := bw_below (p := pk0) (k := 0) (a := en) (e := 102) B11 (Nat.le_refl _)
                have d2 := (bw_other (w1 := w11) (p := pk0) (k := 0) (a := en) (e := 102) (show D ≠ w.heap.size by omega) (by omega) (by omega)).trans d1
                refine ⟨by simp, .inl ⟨_, _, rfl, run_takeDeferred d2, ?_⟩⟩
                exact ⟨_, res31 ((World.putObj_heap_other (by omega)).trans v1) ((World.putObj_heap_other (by omega)).trans v2) ((World.putObj_heap_other (by omega)).trans v3) _ rfl rfl rfl, B2.grown (grownBy_putObj' _ _ _) B2.size (fun r e => by cases e; omega), by rw [HV.out]; rfl⟩
end Go.Proofs.YthipdagebijbiaaGreatDoor.Wi
namespace Go.Proofs.YthipdagebijbiaaGreatDoor.Wi
open Go.RowKit
set_option linter.unusedVariables false
set_option linter.unusedSimpArgs false
set_option maxRecDepth 100000
theorem flat_length : ∀ (l : List El), (∀ x ∈ l, x.fit) → (l.flatMap extB).length = szs l
  | [], _ => rfl
  | x :: l, h => by rw [List.flatMap_cons, List.length_append, extB_length (h x (by simp)), szs_cons, flat_length l fun y hy => h y (by simp [hy])]
theorem macW_length (p : Pk) (ms : List Nat) : (macW p ms).length = if p.m.has then 4 + ms.length else 0 := by
  unfold macW; split <;> simp [be_length]
theorem mac_len {p : Pk} {ms : List Nat} (h : macB p.m = true) (hm : ms.length = p.m.n) : (macW p ms).length = 0 ∨ (macW p ms).length = 4 ∨ (macW p ms).length = 20 := by
  rw [macW_length]
  unfold macB at h
  split
  · rename_i hh
    rw [hh] at h
    simp at h
    omega
  · exact .inl rfl
theorem packW_length {p : Pk} {l : List El} {ms : List Nat} (hf : ∀ x ∈ l, x.fit) (hm : ms.length = p.m.n) : (packW p l ms).length = szp p l := by
  unfold packW szp
  rw [List.length_append, List.length_append, headW_length, flat_length l hf, macW_length, hm]
/-- a packet that was written is read -/
theorem prs_fwd {p : Pk} {l : List El} {ms : List Nat} (hr : rightB p l = true) (hl : l.length = p.n) (hf : ∀ x ∈ l, x.fit) (hk : p.h.ok) (hm : ms.length = p.m.n) :
    prs (packW p l ms) = .ok p.h (l.map toEx) (48 + szs l) := by
  obtain ⟨rh, rm, rn, rf, rs⟩ := right_parts hr
  have hlen := packW_length (p := p) (ms := ms) hf hm
  have hml := mac_len rm hm
  have hd : hdOf (packW p l ms) = p.h := by unfold packW; rw [List.append_assoc]; exact head_fwd rh hk _
  have hge : 48 + szs l + (macW p ms).length = szp p l := by
    rw [← hlen]; unfold packW
    rw [List.length_append, List.length_append, headW_length, flat_length l hf]
  have hd48 : (packW p l ms).drop 48 = l.flatMap extB ++ macW p ms := by unfold packW; rw [List.append_assoc]; exact drop_pre (headW_length _)
  have hlb : l.length ≤ szs l := by
    clear hd48 hge hd hml hlen hm rf hr
    have : ∀ l : List El, l.length ≤ szs l := fun l => by
      induction l with
      | nil => simp [szs_nil]
      | cons x l ih => rw [szs_cons, List.length_cons]; have := szf_ge x; omega
    exact this l
  have hgo := go_fwd (packW p l ms) (macW p ms) (by omega) l (packW p l ms).length 48 [] hf (by omega) (by omega) hd48 (by simp; omega)
  have hb := rh
  unfold headB at hb
  simp only [Bool.and_eq_true] at hb
  unfold prs
  rw [if_neg (by omega), if_neg (by omega), hd, if_neg (by rw [hb.2.1]; decide), if_neg (by rw [hb.2.2.1]; decide), if_neg (by rw [hb.2.2.2.1]; decide), hgo]
  simp only [List.nil_append]
  rw [if_pos]
  rw [hlen]
  unfold macN
  simp only [Bool.or_eq_true, beq_iff_eq]
  omega
/-- what is read was written -/
theorem prs_rev {xs : List Nat} {h : Hd} {es : List Ex} {en : Nat} (hL : Lim 256 xs) (hp : prs xs = .ok h es en) :
    h = hdOf xs ∧ headB h = true ∧ (∀ x ∈ es, (exE x).fit) ∧ es.length ≤ 8 ∧ xs = headW h ++ (es.map exE).flatMap extB ++ xs.drop en ∧ en = 48 + szs (es.map exE) ∧ en ≤ xs.length ∧ xs.length ≤ 8192 ∧ macN (xs.length - en) = true := by
  unfold prs at hp
  split at hp
  · cases hp
  · rename_i h1
    split at hp
    · cases hp
    · rename_i h2
      split at hp
      · cases hp
      · rename_i h3
        split at hp
        · cases hp
        · rename_i h4
          split at hp
          · cases hp
          · rename_i h5
            split at hp
            · cases hp
            · rename_i es' en' hgo
              split at hp
              · rename_i hmac
                cases hp
                simp only [Bool.not_eq_false] at h3 h4 h5
                obtain ⟨l, q1, q2, q3, q4, q5, q6, q7⟩ := go_rev xs hL xs.length 48 [] _ _ (by omega) (by omega) (by simp) hgo
                rw [List.nil_append] at q1
                subst q1
                refine ⟨rfl, headB_of hL h3 h4 h5, q2, q7, ?_, q6, q4, by omega, hmac⟩
                rw [head_rev hL (by omega), List.append_assoc, ← q3, List.take_append_drop]
              · cases hp
theorem els_map {els : List El} {es : List Ex} (h : els.map toEx = es) (hp : ∀ x ∈ els, 0 ≤ x.op ∧ 0 ≤ x.as_) (h1 : ∀ x ∈ els, x.xs.length = x.n) (h2 : ∀ x ∈ els, x.ys.length = x.m) (hf : ∀ x ∈ es, (exE x).fit) :
    (es.map exE).flatMap extB = els.flatMap extB ∧ szs (es.map exE) = szs els ∧ ∀ x ∈ els, x.fit := by
  subst h
  induction els with
  | nil => exact ⟨rfl, rfl, fun x hx => by cases hx⟩
  | cons x els ih =>
    obtain ⟨i1, i2, i3⟩ := ih (fun y hy => hp y (by simp [hy])) (fun y hy => h1 y (by simp [hy])) (fun y hy => h2 y (by simp [hy])) (fun y hy => hf y (by simp at hy ⊢; exact .inr hy))
    obtain ⟨e1, e2, -, e4⟩ := ee (hp x (by simp)) (h1 x (by simp)) (h2 x (by simp))
    refine ⟨?_, ?_, ?_⟩
    · simp only [List.map_cons, List.flatMap_cons]
      rw [e1, i1]
    · simp only [List.map_cons, szs_cons]
      rw [e2, i2]
    · intro y hy
      rcases List.mem_cons.1 hy with rfl | hy
      · exact e4 (hf _ (by simp))
      · exact i3 y hy
/-- the Mac's bytes -/
theorem mac_rev {w : World} {lo : Nat} {xs : List Nat} {m : Mc} (hm : McOf w lo xs m) (hL : Lim 256 xs) (hn : macN xs.length = true) (q : Pk) (hq : q.m = m) : ∃ ms : List Nat, ms.length = m.n ∧ Lim 256 ms ∧ macW q ms = xs ∧ macB m = true ∧ (if m.has then 4 + m.n else 0) = xs.length ∧ Nb w w.heap.size m.A m.n m.c ms ∧ m.key < 4294967296 ∧ (∀ ad, m.A = some ad → lo ≤ ad.block) := by
  subst hq
  rcases hm with ⟨h0, e⟩ | ⟨h0, A, c, e, hfr, hb⟩
  · have : xs = [] := List.eq_nil_of_length_eq_zero h0
    subst this
    exact ⟨[], by rw [e]; rfl, Lim.nil _, by unfold macW; rw [e]; rfl, by rw [e]; rfl, by rw [e]; rfl, by rw [e]; exact Nb.nil _ _ 0 (by omega) none, by rw [e]; decide, fun ad ea => by rw [e] at ea; cases ea⟩
  · have h4 : xs.length = 4 ∨ xs.length = 20 := by
      unfold macN at hn
      simp only [Bool.or_eq_true, beq_iff_eq] at hn
      omega
    have hk := num_lt _ (hL.take 4)
    rw [show (xs.take 4).length = 4 by simp; omega] at hk
    refine ⟨xs.drop 4, by rw [e, List.length_drop], hL.drop 4, ?_, ?_, ?_, by rw [e]; exact hb, by rw [e]; exact hk, fun ad ea => hfr ad (by rw [e] at ea; exact ea)⟩
    · unfold macW
      rw [e]
      simp only [if_true]
      rw [be_num 4 _ (by simp; omega) (hL.take 4), List.take_append_drop]
    · rw [e]; unfold macB; simp only [if_true, decide_eq_true_eq]; omega
    · rw [e]; simp only [if_true]; omega
/-- what was read is right, and is written as it stood -/
theorem back_of {w : World} {lo : Nat} {xs : List Nat} {h : Hd} {es : List Ex} {en : Nat} (hL : Lim 256 xs) (hp : prs xs = .ok h es en) {els : List El} (he : els.map toEx = es) (hpos : ∀ x ∈ els, 0 ≤ x.op ∧ 0 ≤ x.as_) (h1 : ∀ x ∈ els, x.xs.length = x.n) (h2 : ∀ x ∈ els, x.ys.length = x.m)
    (A : Option Addr) (c : Nat) {m : Mc} (hm : McOf w lo (xs.drop en) m) :
    ∃ ms : List Nat, ms.length = m.n ∧ Lim 256 ms ∧ Nb w w.heap.size m.A m.n m.c ms ∧ packW ⟨h, A, es.length, c, m⟩ els ms = xs ∧ rightB ⟨h, A, es.length, c, m⟩ els = true ∧ (∀ x ∈ els, x.fit) ∧ h.ok ∧ m.key < 4294967296 ∧ (∀ ad, m.A = some ad → lo ≤ ad.block) := by
  obtain ⟨q1, q2, q3, q4, q5, q6, q7, q8, q9⟩ := prs_rev hL hp
  obtain ⟨e1, e2, e3⟩ := els_map he hpos h1 h2 q3
  obtain ⟨ms, m1, m2, m3, m4, m5, m6, m7, m8⟩ := mac_rev hm (hL.drop en) (by rw [List.length_drop]; exact q9) ⟨h, A, es.length, c, m⟩ rfl
  rw [List.length_drop] at m5
  refine ⟨ms, m1, m2, m6, ?_, ?_, e3, by rw [q1]; exact hdOf_ok hL, m7, m8⟩
  · unfold packW
    rw [m3, ← e1]
    exact q5.symm
  · unfold rightB
    rw [Bool.and_eq_true, Bool.and_eq_true, Bool.and_eq_true, Bool.and_eq_true]
    refine ⟨q2, m4, decide_eq_true q4, List.all_eq_true.2 fun x hx => (e3 x hx).right, decide_eq_true ?_⟩
    unfold szp
    dsimp only
    rw [m5, ← e2]
    omega
/-- of every packet the bytes' number parts by four -/
theorem ok_mod {xs : List Nat} {h : Hd} {es : List Ex} {en : Nat} (hL : Lim 256 xs) (hp : prs xs = .ok h es en) : xs.length % 4 = 0 := by
  obtain ⟨q1, q2, q3, q4, q5, q6, q7, q8, q9⟩ := prs_rev hL hp
  have := szs_mod (es.map exE)
  unfold macN at q9
  simp only [Bool.or_eq_true, beq_iff_eq] at q9
  omega
theorem szp_mod {p : Pk} {l : List El} (h : macB p.m = true) : szp p l % 4 = 0 := by
  have := szs_mod l
  unfold macB at h
  unfold szp
  split at h <;> simp at h <;> split <;> simp_all <;> omega
end Go.Proofs.YthipdagebijbiaaGreatDoor.Wi
namespace Go.Proofs.YthipdagebijbiaaGreatDoor.Wi
open Go.RowKit Go.Shelf
set_option linter.unusedVariables false
set_option maxRecDepth 100000
theorem flat_get {l : List El} {i r : Nat} {x : El} (h : l[i]? = some x) (hr : r < 8) : (l.flatMap El.cs)[i * 8 + r]? = x.cs[r]? := by
  induction l generalizing i with
  | nil => cases h
  | cons y l ih =>
    rw [List.flatMap_cons]
    have hy : y.cs.length = 8 := rfl
    cases i with
    | zero =>
      simp at h; subst h
      rw [List.getElem?_append_left (by omega)]; simp
    | succ i =>
      rw [List.getElem?_append_right (by omega), show (i + 1) * 8 + r - y.cs.length = i * 8 + r by omega]
      exact ih (by simpa using h)
theorem es_of {w : World} {base n c : Nat} {A : Option Addr} {els : List El} (hn : els.length = n) (h : Gw w base 45 8 A n c (els.flatMap El.cs)) (hf : ∀ x ∈ els, Ft w A base x) : Es w w.heap.size A n els := by
  refine ⟨hn, fun x hx => ⟨(hf x hx).one, (hf x hx).two⟩, ?_⟩
  rcases Nat.eq_zero_or_pos n with h0 | h0
  · exact .inl h0
  · obtain ⟨g, hA, _, hg, hc⟩ := h.cell h0 (by decide)
    refine .inr ⟨g, 0, hA, hg, fun i x hx => ?_⟩
    have q : ∀ r u, r < 8 → x.cs[r]? = some u → w.cell? ⟨g, i * 8 + r, none⟩ = some u := fun r u hr hu => hc _ u ((flat_get hx hr).trans hu)
    simp only [Nat.zero_add]
    exact ⟨q 0 _ (by decide) rfl, q 1 _ (by decide) rfl, q 2 _ (by decide) rfl, q 3 _ (by decide) rfl, q 4 _ (by decide) rfl, q 5 _ (by decide) rfl, q 6 _ (by decide) rfl, q 7 _ (by decide) rfl⟩
/-- a packet's fields and sum lie in blocks from lo on -/
def Mem (lo : Nat) (w : World) (p : Pk) (els : List El) (ms : List Nat) : Prop :=
  ∀ w' : World, w.heap.size ≤ w'.heap.size → (∀ q, lo ≤ q → q < w.heap.size → w'.heap[q]? = w.heap[q]?) → Es w' w'.heap.size p.A p.n els ∧ Nb w' w'.heap.size p.m.A p.m.n p.m.c ms
/-- what was read of bytes: the packet, where its fields end, the fault -/
def Rd (lo : Nat) (xs : List Nat) (w : World) (p : Pk) (en : Nat) (a k : Nat) : Prop :=
  match prs xs with
  | .bad a' k' => p = pk0 ∧ en = 0 ∧ a = a' ∧ k = k'
  | .ok h es en' => a = 0 ∧ k = 0 ∧ en = en' ∧ p.h = h ∧ h.ok ∧ p.m.key < 4294967296 ∧ ∃ els ms, els.map toEx = es ∧ Mem lo w p els ms ∧ packW p els ms = xs ∧ rightB p els = true ∧ (∀ x ∈ els, x.fit) ∧ ms.length = p.m.n ∧ macW p ms = xs.drop en'
theorem Mem.keep {lo lo' : Nat} {w w' : World} {p : Pk} {els : List El} {ms : List Nat} (h : Mem lo w p els ms) (hl : lo' ≤ lo) (hs : w.heap.size ≤ w'.heap.size) (hk : ∀ q, lo ≤ q → q < w.heap.size → w'.heap[q]? = w.heap[q]?) : Mem lo' w' p els ms := fun w2 h1 h2 =>
  h w2 (Nat.le_trans hs h1) fun q q1 q2 => (h2 q (Nat.le_trans hl q1) (Nat.lt_of_lt_of_le q2 hs)).trans (hk q q1 q2)
theorem Rd.keep {lo lo' : Nat} {xs : List Nat} {w w' : World} {p : Pk} {en a k : Nat} (h : Rd lo xs w p en a k) (hl : lo' ≤ lo) (hs : w.heap.size ≤ w'.heap.size) (hk : ∀ q, lo ≤ q → q < w.heap.size → w'.heap[q]? = w.heap[q]?) : Rd lo' xs w' p en a k := by
  unfold Rd at h ⊢
  split at h
  · exact h
  · obtain ⟨h1, h2, h3, h4, h5, h5', els, ms, h6, h7, h9⟩ := h
    exact ⟨h1, h2, h3, h4, h5, h5', els, ms, h6, h7.keep hl hs hk, h9⟩
theorem Rd.below {lo : Nat} {xs : List Nat} {w w' : World} {p : Pk} {en a k : Nat} (h : Rd lo xs w p en a k) (b : RowKit.Below w.heap.size w w') : Rd lo xs w' p en a k := h.keep (Nat.le_refl _) b.size fun q _ hq => b.block q hq
theorem rd_of {xs : List Nat} {w w' : World} {e : Ending} (hL : Lim 256 xs) (h : PrPost xs w e w') : RowKit.Below w.heap.size w w' ∧ ∃ (p : Pk) (en a k : Nat), e = .returned (res3 p (en : Int) (a : Int) (k : Int)) ∧ Rd w.heap.size xs w' p en a k := by
  refine ⟨h.1, ?_⟩
  have h2 := h.2
  cases hp : prs xs with
  | bad a k =>
    rw [hp] at h2
    exact ⟨pk0, 0, a, k, h2, by unfold Rd; rw [hp]; exact ⟨rfl, rfl, rfl, rfl⟩⟩
  | ok hd es en =>
    rw [hp] at h2
    obtain ⟨A, c, els, m, rfl, e1, e2, e3, e4⟩ := h2
    obtain ⟨ms, m1, m2, m3, m4, m5, m6, m7, m8, m9⟩ := back_of hL hp e1 (fun x hx => (e3 x hx).pos) (fun x hx => (e3 x hx).one.len) (fun x hx => (e3 x hx).two.len) A c e4
    refine ⟨_, en, 0, 0, rfl, ?_⟩
    unfold Rd
    rw [hp]
    refine ⟨rfl, rfl, rfl, rfl, m7, m8, els, ms, e1, fun w2 s2 k2 => ⟨?_, ?_⟩, m4, m5, m6, m1, ?_⟩
    · exact es_of (by rw [← e1]; simp) (e2.keep fun k hk => k2 k (e2.blk_lt k hk).1 (e2.blk_lt k hk).2) fun x hx => (e3 x hx).keep s2 (fun q hq hlo _ => k2 q hlo hq) (.inl rfl)
    · exact m3.keepn s2 fun hn ad ea => k2 _ (m9 ad ea) (m3.lt hn ea)
    obtain ⟨q1, q2, q3, q4, q5, q6, q7, q8, q9⟩ := prs_rev hL hp
    have hl : (headW hd ++ els.flatMap extB).length = en := by
      obtain ⟨z1, z2, z3⟩ := els_map e1 (fun x hx => (e3 x hx).pos) (fun x hx => (e3 x hx).one.len) (fun x hx => (e3 x hx).two.len) q3
      rw [List.length_append, headW_length, flat_length els z3, ← z2]
      exact q6.symm
    rw [← m4]
    exact (drop_pre hl).symm
theorem parse_rd {w : World} {n c : Nat} {A : Option Addr} {xs : List Nat} (h : Nb w w.heap.size A n c xs) (hn : n ≤ 1073741824) :
    Calls Tryz.prog 43 #[.slice A n c] w fun e w' => RowKit.Below w.heap.size w w' ∧ ∃ (p : Pk) (en a k : Nat), e = .returned (res3 p (en : Int) (a : Int) (k : Int)) ∧ Rd w.heap.size xs w' p en a k :=
  (parse_any h hn).mono fun e w' hp => rd_of h.lim hp
end Go.Proofs.YthipdagebijbiaaGreatDoor.Wi
namespace Go.Proofs.YthipdagebijbiaaGreatDoor.Wi
open Go.RowKit Go.Shelf
set_option linter.unusedVariables false
set_option linter.unusedSimpArgs false
set_option maxRecDepth 100000
attribute [local go_sem] Oper.semAt_some
theorem wp_gen4 {P : Program} {c : Code} {Q : Exit → Act → World → Prop} {a : Act} {w : World} {v2 v3 v4 v6 : Value} {n : Nat} (h2 : a.tmps[2]? = some v2) (h3 : a.tmps[3]? = some v3) (h4 : a.tmps[4]? = some v4) (h6 : a.tmps[6]? = some v6) (hs : a.tmps.size = n) (hd : a.defers = [])
    (h : ∀ a0 : Act, a0.tmps[2]? = some v2 → a0.tmps[3]? = some v3 → a0.tmps[4]? = some v4 → a0.tmps[6]? = some v6 → a0.tmps.size = n → a0.defers = [] → c.wp P Q a0 w) : c.wp P Q a w := h a h2 h3 h4 h6 hs hd
theorem res15 {D : World} {s : Nat} {p : Pk} {a e : Int} (hx : D.heap[s]? = some (.cells (pkC p) 51 (0, 0))) (hz : D.heap[s + 1]? = some (.cells (flC a e) 54 (0, 0))) (tmps : Array Value)
    (h2 : tmps[2]? = some (.pointer (some ⟨s, 0, none⟩))) (h3 : tmps[3]? = some (.pointer (some ⟨s + 1, 0, none⟩))) : (results Tryz.f17 tmps).run Tryz.prog D = .ok (.tuple #[pkV p, flV a e]) D := by
  have rl1 := run_loadVar_row (P := Tryz.prog) D s 51 51 _ (0, 0) _ hx Tryz.underlying51 rfl s29
  have rl2 := run_loadVar_row (P := Tryz.prog) D (s + 1) 54 54 _ (0, 0) _ hz Tryz.underlying54 rfl s39
  simp [results, Tryz.results15, asAddr, h2, h3, rl1, rl2]
set_option maxHeartbeats 4000000 in
theorem read_any {w : World} {n c : Nat} {A : Option Addr} {xs : List Nat} (h : Nb w w.heap.size A n c xs) (hn : n ≤ 1073741824) :
    Calls Tryz.prog 17 #[.slice A n c] w fun e w' => RowKit.Below w.heap.size w w' ∧ ∃ (p : Pk) (en a k : Nat), e = .returned (.tuple #[pkV p, flV (a : Int) (k : Int)]) ∧ Rd w.heap.size xs w' p en a k := by
  obtain ⟨W1, hW1⟩ : ∃ W, W = w.alloc (.cells #[.int .i64 0, .int .i64 0, .int .i64 0, .int .i64 0, .int .i64 0, .int .i64 0, .int .u32 0, .int .u32 0, .int .u32 0, .int .u64 0, .int .u64 0, .int .u64 0, .int .u64 0, .slice none 0 0, .bool false, .int .u32 0, .slice none 0 0] 51) := ⟨_, rfl⟩
  obtain ⟨W, hW⟩ : ∃ W, W = W1.alloc (.cells #[.int .i64 0, .int .i64 0] 54) := ⟨_, rfl⟩
  have hb1 : RowKit.Below w.heap.size w W1 := by rw [hW1]; exact (Below.refl _ _).alloc (Nat.le_refl _) _
  have hb : RowKit.Below w.heap.size w W := by rw [hW]; exact hb1.alloc hb1.size _
  have hs1 : W1.heap.size = w.heap.size + 1 := by rw [hW1]; simp
  have hs2 : W.heap.size = w.heap.size + 2 := by rw [hW]; simp [hs1]
  have hx1 : W1.heap[w.heap.size]? = some (.cells (pkC pk0) 51 (0, 0)) := by rw [hW1]; exact heap_alloc_new w _
  have hx : W.heap[w.heap.size]? = some (.cells (pkC pk0) 51 (0, 0)) := by rw [hW]; exact (Below.heap_alloc _ _ _ (by omega)).trans hx1
  have hy : W.heap[w.heap.size + 1]? = some (.cells (flC 0 0) 54 (0, 0)) := by rw [hW, ← hs1]; exact heap_alloc_new W1 _
  have HW := Lib.hid (hW1 ▸ hW)
  have HX := Lib.hid hx
  have HY := Lib.hid hy
  have HB := Lib.hid hb
  have HS := Lib.hid hs2
  have HR := Lib.hid (parse_rd (h.far hb) hn)
  clear hW1 hW hb1 hb hs1 hx1 hx hy h hs2
  go_enter Tryz.func17, Tryz.ntmps17
  go_upto_region 1 with fail
  rw [← HW.out]
  go_wp2_with fail
  refine HR.out.mono ?_
  rintro e w1 ⟨b1, p, en, a, k, rfl, hrd⟩
  have HRd := Lib.hid hrd
  have HB1 := Lib.hid b1
  have HX1 := Lib.hid ((b1.block _ (Array.getElem?_eq_some_iff.1 HX.out).1).trans HX.out)
  have HY1 := Lib.hid ((b1.block _ (Array.getElem?_eq_some_iff.1 HY.out).1).trans HY.out)
  clear hrd b1 HX HY HR HW
  unfold res3
  obtain ⟨V1, hV1⟩ : ∃ V, V = w1.alloc (.cells #[.int .i64 0, .int .i64 0, .int .i64 0, .int .i64 0, .int .i64 0, .int .i64 0, .int .u32 0, .int .u32 0, .int .u32 0, .int .u64 0, .int .u64 0, .int .u64 0, .int .u64 0, .slice none 0 0, .bool false, .int .u32 0, .slice none 0 0] 51) := ⟨_, rfl⟩
  obtain ⟨V2, hV2⟩ : ∃ V, V = V1.alloc (.cells #[.int .i64 0, .int .i64 0] 54) := ⟨_, rfl⟩
  have vs1 : V1.heap.size = w1.heap.size + 1 := by rw [hV1]; simp
  have vx1 : V1.heap[w1.heap.size]? = some (.cells (pkC pk0) 51 (0, 0)) := by rw [hV1]; exact heap_alloc_new w1 _
  have vx : V2.heap[w1.heap.size]? = some (.cells (pkC pk0) 51 (0, 0)) := by rw [hV2]; exact (Below.heap_alloc _ _ _ (by omega)).trans vx1
  have vy : V2.heap[w1.heap.size + 1]? = some (.cells (flC 0 0) 54 (0, 0)) := by rw [hV2, ← vs1]; exact heap_alloc_new V1 _
  have vb : RowKit.Below w1.heap.size w1 V2 := by rw [hV2, hV1]; exact ((Below.refl _ _).alloc (Nat.le_refl _) _).alloc (by simp) _
  have HV := Lib.hid (hV1 ▸ hV2)
  have VX := Lib.hid vx
  have VY := Lib.hid vy
  have VB := Lib.hid vb
  clear hV1 hV2 vs1 vx1 vx vy vb
  go_upto_region 2 with (first
    | (refine wpList_store_row rfl 51 (.tmp 4) (.tmp 10) rfl w1.heap.size (pkC p) rfl rfl 51 _ VX.out s29 rfl (pk_all _) ?_)
    | (refine wpList_store_row rfl 54 (.tmp 6) (.tmp 12) rfl (w1.heap.size + 1) (flC a k) rfl rfl 54 _ ((setRow_other V2 w1.heap.size (w1.heap.size + 1) (pkC p) (by omega)).trans VY.out) s39 rfl (fl_all _ _) ?_)
    | (rw [← HV.out]))
  rename_i Q' K hK
  obtain ⟨s, hs⟩ : ∃ s, s = w.heap.size := ⟨_, rfl⟩
  obtain ⟨g, hg⟩ : ∃ g, g = w1.heap.size := ⟨_, rfl⟩
  have hsg : s + 2 ≤ g := by have := HS.out; have := HB1.out.size; omega
  obtain ⟨D0, hD0⟩ : ∃ D, D = (V2.setRow w1.heap.size (pkC p)).setRow (w1.heap.size + 1) (flC a k) := ⟨_, rfl⟩
  have o0 : ∀ q, q < g → D0.heap[q]? = w1.heap[q]? := fun q hq => by
    rw [hD0]
    exact (setRow_other _ _ _ _ (by omega)).trans ((setRow_other _ _ _ _ (by omega)).trans (VB.out.block q (by omega)))
  have x2 : D0.drew.heap[s]? = some (.cells (pkC pk0) 51 (0, 0)) := (o0 s (by omega)).trans (by rw [hs]; exact HX1.out)
  have x3 : D0.drew.heap[s + 1]? = some (.cells (flC 0 0) 54 (0, 0)) := (o0 (s + 1) (by omega)).trans (by rw [hs]; exact HY1.out)
  have x4 : D0.drew.heap[g]? = some (.cells (pkC p) 51 (0, 0)) := by
    show D0.heap[g]? = _
    rw [hD0, hg]
    exact (setRow_other _ _ _ _ (by omega)).trans (setRow_heap _ _ _ _ _ _ VX.out)
  have x6 : D0.drew.heap[g + 1]? = some (.cells (flC a k) 54 (0, 0)) := by
    show D0.heap[g + 1]? = _
    rw [hD0, hg]
    exact setRow_heap _ _ _ _ _ _ ((setRow_other V2 w1.heap.size (w1.heap.size + 1) (pkC p) (by omega)).trans VY.out)
  have bD : RowKit.Below w1.heap.size w1 D0 := by rw [hD0]; exact below_setRow (below_setRow VB.out (Nat.le_refl _) _) (by omega) _
  rw [← hD0, ← hg, ← hs]
  clear hD0 o0 VX VY VB HV HX1 HY1
  have hfin : ∀ a' : Act, a'.tmps[2]? = some (.pointer (some ⟨s, 0, none⟩)) → a'.tmps[3]? = some (.pointer (some ⟨s + 1, 0, none⟩)) → a'.defers = [] →
      Exit.then K Q' .normal a' ((D0.drew.setRow s (pkC p)).setRow (s + 1) (flC a k)) := by
    intro a' t2 t3 td
    refine hK _ _ ?_
    have v2 : ((D0.drew.setRow s (pkC p)).setRow (s + 1) (flC a k)).heap[s]? = some (.cells (pkC p) 51 (0, 0)) := (setRow_other _ _ _ _ (by omega)).trans (setRow_heap _ _ _ _ _ _ x2)
    have v3 : ((D0.drew.setRow s (pkC p)).setRow (s + 1) (flC a k)).heap[s + 1]? = some (.cells (flC a k) 54 (0, 0)) := setRow_heap _ _ _ _ _ _ ((setRow_other _ _ _ _ (by omega)).trans x3)
    have bF : RowKit.Below s w ((D0.drew.setRow s (pkC p)).setRow (s + 1) (flC a k)) := by
      rw [hs]
      exact below_setRow (below_setRow (bthen (bthen HB.out HB1.out (Nat.le_refl _)) bD (Nat.le_refl _)).drew (Nat.le_refl _) _) (by omega) _
    obtain ⟨tm, ds⟩ := a'
    dsimp only at t2 t3 td
    subst td
    refine wp_ret ?_
    exact bodyPost_ret (res15 v2 v3 _ t2 t3) rfl ⟨by rw [← hs]; exact bF, p, en, a, k, rfl, by
      refine HRd.out.keep (by have := HS.out; omega) (by have := bD.size; simp; exact this) (fun q h1 h2 => ?_)
      have := HS.out
      exact (setRow_other _ _ _ _ (by omega)).trans ((setRow_other _ _ _ _ (by omega)).trans (bD.block q h2))⟩
  refine wp_gen4 (v2 := .pointer (some ⟨s, 0, none⟩)) (v3 := .pointer (some ⟨s + 1, 0, none⟩)) (v4 := .pointer (some ⟨g, 0, none⟩)) (v6 := .pointer (some ⟨g + 1, 0, none⟩)) (n := 15) rfl rfl rfl rfl rfl rfl (fun a0 q2 q3 q4 q6 qs qd => ?_)
  refine wp_region_any (by kernel_rfl) ?_
  change wpAny _ _ _ _ _ _ _ (World.drew _)
  refine wpAny_ready (rs := [0, 1]) (by kernel_rfl) (by simp) ?_
  refine AllReady.cons rfl (fun K hK => ?N_0) (AllReady.cons rfl (fun K hK => ?N_1) AllReady.nil)
  case N_0 =>
    rw [if_pos (by rfl)]
    change Oper.wp _ ⟨some 13, Op.load 51 (.tmp 4), _, _, _, _⟩ _ _ _ _
    refine wp_load_row 51 (.tmp 4) rfl g (ev_of (by simp (disch := (first | decide | (simp only [tm_size, qs]; decide))) only [tm_other, tm_same, put_none, q4])) 51 (pkC p) (0, 0) _ x4 Tryz.underlying51 rfl s29 ?_
    refine hK _ _ ?_
    clear hK K
    try dsimp only [put_none]
    refine wpAny_ready (rs := [1, 2]) (by kernel_rfl) (by simp) ?_
    refine AllReady.cons rfl (fun K hK => ?N0_1) (AllReady.cons rfl (fun K hK => ?N0_2) AllReady.nil)
    case N0_1 =>
      rw [if_pos (by rfl)]
      change Oper.wp _ ⟨some 14, Op.load 54 (.tmp 6), _, _, _, _⟩ _ _ _ _
      refine wp_load_row 54 (.tmp 6) rfl (g + 1) (ev_of (by simp (disch := (first | decide | (simp only [tm_size, qs]; decide))) only [tm_other, tm_same, put_none, q6])) 54 (flC a k) (0, 0) _ x6 Tryz.underlying54 rfl s39 ?_
      refine hK _ _ ?_
      clear hK K
      try dsimp only [put_none]
      refine wpAny_ready (rs := [2]) (by kernel_rfl) (by simp) ?_
      refine AllReady.cons rfl (fun K hK => ?N01_2) AllReady.nil
      case N01_2 =>
        rw [if_pos (by rfl)]
        change Oper.wp _ ⟨none, Op.store 51 (.tmp 2) (.tmp 13), _, _, _, _⟩ _ _ _ _
        refine wp_store_row 51 (.tmp 2) (.tmp 13) rfl s (pkC p) (ev_of (by simp (disch := (first | decide | (simp only [tm_size, qs]; decide))) only [tm_other, tm_same, put_none, q2])) (ev_of (by simp (disch := (first | decide | (simp only [tm_size, qs]; decide))) only [tm_other, tm_same, put_none])) 51 _ x2 s29 rfl (pk_all _) ?_
        refine hK _ _ ?_
        clear hK K
        try dsimp only [put_none]
        refine wpAny_ready (rs := [3]) (by kernel_rfl) (by simp) ?_
        refine AllReady.cons rfl (fun K hK => ?N012_3) AllReady.nil
        case N012_3 =>
          rw [if_pos (by rfl)]
          change Oper.wp _ ⟨none, Op.store 54 (.tmp 3) (.tmp 14), _, _, _, _⟩ _ _ _ _
          refine wp_store_row 54 (.tmp 3) (.tmp 14) rfl (s + 1) (flC a k) (ev_of (by simp (disch := (first | decide | (simp only [tm_size, qs]; decide))) only [tm_other, tm_same, put_none, q3])) (ev_of (by simp (disch := (first | decide | (simp only [tm_size, qs]; decide))) only [tm_other, tm_same, put_none])) 54 _ ((setRow_other _ _ _ _ (by omega)).trans x3) s39 rfl (fl_all _ _) ?_
          refine hK _ _ ?_
          clear hK K
          try dsimp only [put_none]
          refine wpAny_done (by kernel_rfl) ?_ _
          exact hfin _ (by simp (disch := (first | decide | (simp only [tm_size, qs]; decide))) only [tm_other, tm_same, put_none, q2]) (by simp (disch := (first | decide | (simp only [tm_size, qs]; decide))) only [tm_other, tm_same, put_none, q3]) (by simp only [tm_def, put_none, qd])
    case N0_2 =>
      rw [if_pos (by rfl)]
      change Oper.wp _ ⟨none, Op.store 51 (.tmp 2) (.tmp 13), _, _, _, _⟩ _ _ _ _
      refine wp_store_row 51 (.tmp 2) (.tmp 13) rfl s (pkC p) (ev_of (by simp (disch := (first | decide | (simp only [tm_size, qs]; decide))) only [tm_other, tm_same, put_none, q2])) (ev_of (by simp (disch := (first | decide | (simp only [tm_size, qs]; decide))) only [tm_other, tm_same, put_none])) 51 _ x2 s29 rfl (pk_all _) ?_
      refine hK _ _ ?_
      clear hK K
      try dsimp only [put_none]
      refine wpAny_ready (rs := [1]) (by kernel_rfl) (by simp) ?_
      refine AllReady.cons rfl (fun K hK => ?N02_1) AllReady.nil
      case N02_1 =>
        rw [if_pos (by rfl)]
        change Oper.wp _ ⟨some 14, Op.load 54 (.tmp 6), _, _, _, _⟩ _ _ _ _
        refine wp_load_row 54 (.tmp 6) rfl (g + 1) (ev_of (by simp (disch := (first | decide | (simp only [tm_size, qs]; decide))) only [tm_other, tm_same, put_none, q6])) 54 (flC a k) (0, 0) _ ((setRow_other _ _ _ _ (by omega)).trans x6) Tryz.underlying54 rfl s39 ?_
        refine hK _ _ ?_
        clear hK K
        try dsimp only [put_none]
        refine wpAny_ready (rs := [3]) (by kernel_rfl) (by simp) ?_
        refine AllReady.cons rfl (fun K hK => ?N021_3) AllReady.nil
        case N021_3 =>
          rw [if_pos (by rfl)]
          change Oper.wp _ ⟨none, Op.store 54 (.tmp 3) (.tmp 14), _, _, _, _⟩ _ _ _ _
          refine wp_store_row 54 (.tmp 3) (.tmp 14) rfl (s + 1) (flC a k) (ev_of (by simp (disch := (first | decide | (simp only [tm_size, qs]; decide))) only [tm_other, tm_same, put_none, q3])) (ev_of (by simp (disch := (first | decide | (simp only [tm_size, qs]; decide))) only [tm_other, tm_same, put_none])) 54 _ ((setRow_other _ _ _ _ (by omega)).trans x3) s39 rfl (fl_all _ _) ?_
          refine hK _ _ ?_
          clear hK K
          try dsimp only [put_none]
          refine wpAny_done (by kernel_rfl) ?_ _
          exact hfin _ (by simp (disch := (first | decide | (simp only [tm_size, qs]; decide))) only [tm_other, tm_same, put_none, q2]) (by simp (disch := (first | decide | (simp only [tm_size, qs]; decide))) only [tm_other, tm_same, put_none, q3]) (by simp only [tm_def, put_none, qd])
  case N_1 =>
    rw [if_pos (by rfl)]
    change Oper.wp _ ⟨some 14, Op.load 54 (.tmp 6), _, _, _, _⟩ _ _ _ _
    refine wp_load_row 54 (.tmp 6) rfl (g + 1) (ev_of (by simp (disch := (first | decide | (simp only [tm_size, qs]; decide))) only [tm_other, tm_same, put_none, q6])) 54 (flC a k) (0, 0) _ x6 Tryz.underlying54 rfl s39 ?_
    refine hK _ _ ?_
    clear hK K
    try dsimp only [put_none]
    refine wpAny_ready (rs := [0]) (by kernel_rfl) (by simp) ?_
    refine AllReady.cons rfl (fun K hK => ?N1_0) AllReady.nil
    case N1_0 =>
      rw [if_pos (by rfl)]
      change Oper.wp _ ⟨some 13, Op.load 51 (.tmp 4), _, _, _, _⟩ _ _ _ _
      refine wp_load_row 51 (.tmp 4) rfl g (ev_of (by simp (disch := (first | decide | (simp only [tm_size, qs]; decide))) only [tm_other, tm_same, put_none, q4])) 51 (pkC p) (0, 0) _ x4 Tryz.underlying51 rfl s29 ?_
      refine hK _ _ ?_
      clear hK K
      try dsimp only [put_none]
      refine wpAny_ready (rs := [2]) (by kernel_rfl) (by simp) ?_
      refine AllReady.cons rfl (fun K hK => ?N10_2) AllReady.nil
      case N10_2 =>
        rw [if_pos (by rfl)]
        change Oper.wp _ ⟨none, Op.store 51 (.tmp 2) (.tmp 13), _, _, _, _⟩ _ _ _ _
        refine wp_store_row 51 (.tmp 2) (.tmp 13) rfl s (pkC p) (ev_of (by simp (disch := (first | decide | (simp only [tm_size, qs]; decide))) only [tm_other, tm_same, put_none, q2])) (ev_of (by simp (disch := (first | decide | (simp only [tm_size, qs]; decide))) only [tm_other, tm_same, put_none])) 51 _ x2 s29 rfl (pk_all _) ?_
        refine hK _ _ ?_
        clear hK K
        try dsimp only [put_none]
        refine wpAny_ready (rs := [3]) (by kernel_rfl) (by simp) ?_
        refine AllReady.cons rfl (fun K hK => ?N102_3) AllReady.nil
        case N102_3 =>
          rw [if_pos (by rfl)]
          change Oper.wp _ ⟨none, Op.store 54 (.tmp 3) (.tmp 14), _, _, _, _⟩ _ _ _ _
          refine wp_store_row 54 (.tmp 3) (.tmp 14) rfl (s + 1) (flC a k) (ev_of (by simp (disch := (first | decide | (simp only [tm_size, qs]; decide))) only [tm_other, tm_same, put_none, q3])) (ev_of (by simp (disch := (first | decide | (simp only [tm_size, qs]; decide))) only [tm_other, tm_same, put_none])) 54 _ ((setRow_other _ _ _ _ (by omega)).trans x3) s39 rfl (fl_all _ _) ?_
          refine hK _ _ ?_
          clear hK K
          try dsimp only [put_none]
          refine wpAny_done (by kernel_rfl) ?_ _
          exact hfin _ (by simp (disch := (first | decide | (simp only [tm_size, qs]; decide))) only [tm_other, tm_same, put_none, q2]) (by simp (disch := (first | decide | (simp only [tm_size, qs]; decide))) only [tm_other, tm_same, put_none, q3]) (by simp only [tm_def, put_none, qd])
end Go.Proofs.YthipdagebijbiaaGreatDoor.Wi
namespace Go.Proofs.YthipdagebijbiaaGreatDoor.Wi
open Go.RowKit
set_option linter.unusedVariables false
set_option linter.unusedSimpArgs false
set_option maxRecDepth 100000
/-- a field's texts are bytes, as many as it says -/
structure El.has (x : El) : Prop where
  l1 : Lim 256 x.xs
  l2 : Lim 256 x.ys
  n1 : x.xs.length = x.n
  n2 : x.ys.length = x.m
theorem Es.has {w : World} {B n : Nat} {A : Option Addr} {l : List El} (h : Es w B A n l) : ∀ x ∈ l, x.has := fun x hx =>
  ⟨(h.2.1 x hx).1.lim, (h.2.1 x hx).2.lim, (h.2.1 x hx).1.len, (h.2.1 x hx).2.len⟩
/-- Macs that are written alike are alike -/
theorem mac_eq {p q : Pk} {ms ns : List Nat} (h1 : macB p.m = true) (h2 : macB q.m = true) (l1 : ms.length = p.m.n) (l2 : ns.length = q.m.n) (k1 : p.m.key < 4294967296) (k2 : q.m.key < 4294967296) (h : macW p ms = macW q ns) : p.m.has = q.m.has ∧ p.m.key = q.m.key ∧ ms = ns := by
  unfold macW at h
  unfold macB at h1 h2
  cases hp : p.m.has with
  | true =>
    cases hq : q.m.has with
    | true =>
      rw [hp, hq] at h
      simp only [if_true] at h
      have ht := congrArg (List.take 4) h
      have hd := congrArg (List.drop 4) h
      rw [take_pre (be_length 4 _), take_pre (be_length 4 _)] at ht
      rw [drop_pre (be_length 4 _), drop_pre (be_length 4 _)] at hd
      have := congrArg num ht
      rw [num_be 4 _ (by omega), num_be 4 _ (by omega)] at this
      exact ⟨rfl, this, hd⟩
    | false =>
      rw [hp, hq] at h
      have := congrArg List.length h
      simp [be_length] at this
      try omega
  | false =>
    cases hq : q.m.has with
    | true =>
      rw [hp, hq] at h
      have := congrArg List.length h
      simp [be_length] at this
      omega
    | false =>
      rw [hp] at h1
      rw [hq] at h2
      simp only [Bool.false_eq_true, if_false, decide_eq_true_eq] at h1 h2
      refine ⟨rfl, by omega, ?_⟩
      rw [List.eq_nil_of_length_eq_zero (show ms.length = 0 by omega), List.eq_nil_of_length_eq_zero (show ns.length = 0 by omega)]
/-- a packet as it came: its numbers fit -/
structure Pk.ok (p : Pk) : Prop where
  h : p.h.ok
  key : p.m.key < 4294967296
theorem packW_lim {p : Pk} {l : List El} {ms : List Nat} (hl : ∀ x ∈ l, x.has) (hm : Lim 256 ms) : Lim 256 (packW p l ms) := by
  have hh : Lim 256 (headW p.h) := by
    unfold headW
    exact ((((((((((be_lim _ _).append (be_lim _ _)).append (be_lim _ _)).append (be_lim _ _)).append (be_lim _ _)).append (be_lim _ _)).append (be_lim _ _)).append (be_lim _ _)).append (be_lim _ _)).append (be_lim _ _)).append (be_lim _ _)
  have ht : ∀ ys : List Nat, Lim 256 ys → Lim 256 (textB ys) := fun ys hy => by
    unfold textB
    exact ((be_lim _ _).append hy).append fun x hx => by rw [List.eq_of_mem_replicate hx]; decide
  have hf : Lim 256 (l.flatMap extB) := fun y hy => by
    obtain ⟨x, hx, hy⟩ := List.mem_flatMap.1 hy
    rw [extB_hdr] at hy
    have hhd : Lim 256 (hdr x) := by
      unfold hdr
      exact ((((((be_lim _ _).append (be_lim _ _)).append (be_lim _ _)).append (be_lim _ _)).append (be_lim _ _)).append (be_lim _ _)).append (be_lim _ _)
    exact (hhd.append ((ht _ (hl x hx).l1).append (ht _ (hl x hx).l2))) y hy
  have hmac : Lim 256 (macW p ms) := by
    unfold macW
    split
    · exact (be_lim _ _).append hm
    · exact Lim.nil _
  unfold packW
  exact (hh.append hf).append hmac
end Go.Proofs.YthipdagebijbiaaGreatDoor.Wi
