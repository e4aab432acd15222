/- wire: the head that some bytes begin with. -/
import Derived.Test.YtompggkdjbkjjaaWiR3
import Derived.Test.YtompggkdjbkjjaaWiW2
import Derived.StillTailTactics
import Derived.Laws.Tables
import Derived.Laws.Rows
import Derived.Laws.CopyOwn
namespace Go.Proofs.Ytompggkdjbkjjaa.Wi
open Go.RowKit
set_option linter.unusedVariables false
set_option maxRecDepth 100000
theorem s29 : (Try.prog.info? 79).map (·.size) = some 17 := by kernel_rfl
/-- a packet's cells -/
abbrev pkC (p : Pk) : Array Value := #[.int .i64 p.h.lp, .int .i64 p.h.ve, .int .i64 p.h.mo, .int .i64 p.h.st, .int .i64 p.h.po, .int .i64 p.h.pr, .int .u32 (p.h.dl : Int), .int .u32 (p.h.di : Int), .int .u32 (p.h.rf : Int), .int .u64 (p.h.re : Int), .int .u64 (p.h.og : Int), .int .u64 (p.h.rc : Int), .int .u64 (p.h.xm : Int), .slice p.A p.n p.c, .bool p.m.has, .int .u32 (p.m.key : Int), .slice p.m.A p.m.n p.m.c]
theorem pk_all (p : Pk) : ((pkC p).all (·.oneCell')) = true := by simp [Value.oneCell']
/-- the number of some bytes within others -/
def nm (xs : List Nat) (i k : Nat) : Nat := num ((xs.drop i).take k)
def sg (x : Nat) : Int := if x < 128 then x else (x : Int) - 256
def hdOf (xs : List Nat) : Hd := ⟨(xs.getD 0 0 / 64 : Nat), (xs.getD 0 0 / 8 % 8 : Nat), (xs.getD 0 0 % 8 : Nat), (xs.getD 1 0 : Nat), (xs.getD 2 0 : Nat), sg (xs.getD 3 0), nm xs 4 4, nm xs 8 4, nm xs 12 4, nm xs 16 8, nm xs 24 8, nm xs 32 8, nm xs 40 8⟩
def m0 : Mc := ⟨false, 0, none, 0, 0⟩
theorem Nb.word {w : World} {B n c : Nat} {A : Option Addr} {xs : List Nat} (h : Nb w B A n c xs) (i : Nat) (hi : i + 4 ≤ n) {W : World} (hb : ∀ ad, A = some ad → W.heap[ad.block]? = w.heap[ad.block]?) :
    Calls Try.prog 52 #[.slice (pa A c i) 4 (c - i)] W fun e w' => e = .returned (.int .u32 (nm xs i 4 : Nat)) ∧ w' = W := by
  have := (h.keepb hb).part i (i + 4) (by omega) hi
  rw [show i + 4 - i = 4 by omega] at this
  exact word_any this (by omega)
theorem Nb.number {w : World} {B n c : Nat} {A : Option Addr} {xs : List Nat} (h : Nb w B A n c xs) (i k : Nat) (hi : i + k ≤ n) (hk : k ≤ 8) {W : World} (hb : ∀ ad, A = some ad → W.heap[ad.block]? = w.heap[ad.block]?) :
    Calls Try.prog 53 #[.slice (pa A c i) k (c - i)] W fun e w' => e = .returned (.int .u64 (nm xs i k : Nat)) ∧ w' = W := by
  have := (h.keepb hb).part i (i + k) (by omega) hi
  rw [show i + k - i = k by omega] at this
  exact number_any this hk
theorem top2 (x : Nat) (h : x < 256) : IntKind.i64.wrap ((x : Int) / 64) = ((x / 64 : Nat) : Int) := by rw [IntKind.wrap_i64]; omega
theorem mid3 (x : Nat) (h : x < 256) : IntKind.i64.wrap (bits .and .u8 ((x : Int) / 8) 7) = ((x / 8 % 8 : Nat) : Int) := by
  rw [show ((x : Int) / 8) = ((x / 8 : Nat) : Int) by omega, show (7 : Int) = ((7 : Nat) : Int) from rfl, u8_and_nat _ _ (by omega) (by omega), nat_mask3, IntKind.wrap_i64]; omega
theorem low3 (x : Nat) (h : x < 256) : IntKind.i64.wrap (bits .and .u8 (x : Int) 7) = ((x % 8 : Nat) : Int) := by
  rw [show (7 : Int) = ((7 : Nat) : Int) from rfl, u8_and_nat _ _ (by omega) (by omega), nat_mask3, IntKind.wrap_i64]; omega
theorem byte_i (x : Nat) (h : x < 256) : IntKind.i64.wrap (x : Int) = (x : Int) := by rw [IntKind.wrap_i64]; omega
theorem byte_s (x : Nat) (h : x < 256) : IntKind.i64.wrap (IntKind.i8.wrap (x : Int)) = sg x := by
  have e : IntKind.i8.wrap (x : Int) = sg x := by
    simp [IntKind.wrap, IntKind.bits, IntKind.signed]
    unfold sg
    split <;> omega
  rw [e, IntKind.wrap_i64]; unfold sg; split <;> omega
set_option maxHeartbeats 4000000 in
theorem head_of_any {w : World} {B n c : Nat} {A : Option Addr} {xs : List Nat} (h : Nb w B A n c xs) (hB : B ≤ w.heap.size) (hn : 48 ≤ n) :
    Calls Try.prog 43 #[.slice A n c] w fun e w' => e = .returned (pkV ⟨hdOf xs, none, 0, 0, m0⟩) ∧ RowKit.Below w.heap.size w w' := by
  have hcap := h.cap
  have hl := h.len
  obtain ⟨b, off, rfl, hb, hc⟩ := h.cell (by omega)
  have z : ∀ j, j < 48 → w.cell? ⟨b, off + j, none⟩ = some (.int .u8 (xs.getD j 0 : Nat)) := fun j hj => by
    apply hc
    rw [List.getD_eq_getElem?_getD]
    rw [List.getElem?_eq_getElem (by omega)]; rfl
  have z0 := z 0 (by omega)
  have z1 := z 1 (by omega)
  have z2 := z 2 (by omega)
  have z3 := z 3 (by omega)
  have H4 := Lib.hid (fun W hb => h.word (W := W) 4 (by omega) hb)
  have H8 := Lib.hid (fun W hb => h.word (W := W) 8 (by omega) hb)
  have H12 := Lib.hid (fun W hb => h.word (W := W) 12 (by omega) hb)
  have H16 := Lib.hid (fun W hb => h.number (W := W) 16 8 (by omega) (by omega) hb)
  have H24 := Lib.hid (fun W hb => h.number (W := W) 24 8 (by omega) (by omega) hb)
  have H32 := Lib.hid (fun W hb => h.number (W := W) 32 8 (by omega) (by omega) hb)
  have H40 := Lib.hid (fun W hb => h.number (W := W) 40 8 (by omega) (by omega) hb)
  have sl : ∀ i j : Nat, i ≤ j → j ≤ c → ∀ W, (Instr.sliceAt 52 (.slice (some ⟨b, off, none⟩) n c) (some (.int .i64 (i : Int))) (some (.int .i64 (j : Int))) none).run Try.prog W = .ok (.slice (pa (some ⟨b, off, none⟩) c i) (j - i) (c - i)) W := fun i j h1 h2 W => (sl_at _ _ _ _ _ W).trans (sl_both _ _ _ _ _ _ _ h1 h2 W)
  have s4 : ∀ W, (Instr.sliceAt 52 (.slice (some ⟨b, off, none⟩) n c) (some (.int .i64 4)) (some (.int .i64 8)) none).run Try.prog W = .ok (.slice (pa (some ⟨b, off, none⟩) c 4) 4 (c - 4)) W := sl 4 8 (by omega) (by omega)
  have s8 : ∀ W, (Instr.sliceAt 52 (.slice (some ⟨b, off, none⟩) n c) (some (.int .i64 8)) (some (.int .i64 12)) none).run Try.prog W = .ok (.slice (pa (some ⟨b, off, none⟩) c 8) 4 (c - 8)) W := sl 8 12 (by omega) (by omega)
  have s12 : ∀ W, (Instr.sliceAt 52 (.slice (some ⟨b, off, none⟩) n c) (some (.int .i64 12)) (some (.int .i64 16)) none).run Try.prog W = .ok (.slice (pa (some ⟨b, off, none⟩) c 12) 4 (c - 12)) W := sl 12 16 (by omega) (by omega)
  have s16 : ∀ W, (Instr.sliceAt 52 (.slice (some ⟨b, off, none⟩) n c) (some (.int .i64 16)) (some (.int .i64 24)) none).run Try.prog W = .ok (.slice (pa (some ⟨b, off, none⟩) c 16) 8 (c - 16)) W := sl 16 24 (by omega) (by omega)
  have s24 : ∀ W, (Instr.sliceAt 52 (.slice (some ⟨b, off, none⟩) n c) (some (.int .i64 24)) (some (.int .i64 32)) none).run Try.prog W = .ok (.slice (pa (some ⟨b, off, none⟩) c 24) 8 (c - 24)) W := sl 24 32 (by omega) (by omega)
  have s32 : ∀ W, (Instr.sliceAt 52 (.slice (some ⟨b, off, none⟩) n c) (some (.int .i64 32)) (some (.int .i64 40)) none).run Try.prog W = .ok (.slice (pa (some ⟨b, off, none⟩) c 32) 8 (c - 32)) W := sl 32 40 (by omega) (by omega)
  have s40 : ∀ W, (Instr.sliceAt 52 (.slice (some ⟨b, off, none⟩) n c) (some (.int .i64 40)) (some (.int .i64 48)) none).run Try.prog W = .ok (.slice (pa (some ⟨b, off, none⟩) c 40) 8 (c - 40)) W := sl 40 48 (by omega) (by omega)
  have k0 : 0 < n := by omega
  have k1 : (1 : Int) < (n : Int) := by omega
  have k2 : (2 : Int) < (n : Int) := by omega
  have k3 : (3 : Int) < (n : Int) := by omega
  have hz : ∀ W : World, (Go.sizeOf 5).run Try.prog W = .ok 1 W := fun W => by kernel_rfl
  have HV := Lib.hid (show hdOf xs = ⟨(xs.getD 0 0 / 64 : Nat), (xs.getD 0 0 / 8 % 8 : Nat), (xs.getD 0 0 % 8 : Nat), (xs.getD 1 0 : Nat), (xs.getD 2 0 : Nat), sg (xs.getD 3 0), nm xs 4 4, nm xs 8 4, nm xs 12 4, nm xs 16 8, nm xs 24 8, nm xs 32 8, nm xs 40 8⟩ from rfl)
  have q1 := top2 _ (h.lim.get (by omega) 0)
  have q2 := mid3 _ (h.lim.get (by omega) 0)
  have q3 := low3 _ (h.lim.get (by omega) 0)
  have q4 := byte_i _ (h.lim.get (by omega) 1)
  have q5 := byte_i _ (h.lim.get (by omega) 2)
  have q6 := byte_s _ (h.lim.get (by omega) 3)
  clear sl hc z
  generalize xs.getD 0 0 = x0 at *
  generalize xs.getD 1 0 = x1 at *
  generalize xs.getD 2 0 = x2 at *
  generalize xs.getD 3 0 = x3 at *
  generalize hdOf xs = hd at *
  go_enter Try.func43, Try.ntmps43
  go_upto_region 1 with fail
  obtain ⟨W, hW⟩ : ∃ W, W = w.alloc (.cells #[.int .i64 0, .int .i64 0, .int .i64 0, .int .i64 0, .int .i64 0, .int .i64 0, .int .u32 0, .int .u32 0, .int .u32 0, .int .u64 0, .int .u64 0, .int .u64 0, .int .u64 0, .slice none 0 0, .bool false, .int .u32 0, .slice none 0 0] 79) := ⟨_, rfl⟩
  have hbW : RowKit.Below w.heap.size w W := by rw [hW]; exact (Below.refl _ _).alloc (Nat.le_refl _) _
  have hbox : W.heap[w.heap.size]? = some (.cells #[.int .i64 0, .int .i64 0, .int .i64 0, .int .i64 0, .int .i64 0, .int .i64 0, .int .u32 0, .int .u32 0, .int .u32 0, .int .u64 0, .int .u64 0, .int .u64 0, .int .u64 0, .slice none 0 0, .bool false, .int .u32 0, .slice none 0 0] 79 (0, 0)) := by rw [hW]; exact heap_alloc_new w _
  rw [← hW]
  have hk : ∀ ad, some ({ block := b, off := off } : Addr) = some ad → W.drew.heap[ad.block]? = w.heap[ad.block]? := fun ad e => by
    obtain rfl := Option.some.inj e
    exact hbW.block b (by omega)
  have y0 : W.drew.cell? ⟨b, off, none⟩ = some (.int .u8 (x0 : Nat)) := (World.cell?_of_block (a := ⟨b, off, none⟩) (hk _ rfl)).trans z0
  have y1 : W.drew.cell? ⟨b, off + 1, none⟩ = some (.int .u8 (x1 : Nat)) := (World.cell?_of_block (a := ⟨b, off + 1, none⟩) (hk ⟨b, off, none⟩ rfl)).trans z1
  have y2 : W.drew.cell? ⟨b, off + 2, none⟩ = some (.int .u8 (x2 : Nat)) := (World.cell?_of_block (a := ⟨b, off + 2, none⟩) (hk ⟨b, off, none⟩ rfl)).trans z2
  have y3 : W.drew.cell? ⟨b, off + 3, none⟩ = some (.int .u8 (x3 : Nat)) := (World.cell?_of_block (a := ⟨b, off + 3, none⟩) (hk ⟨b, off, none⟩ rfl)).trans z3
  have C4 := H4.out W.drew hk
  have C8 := H8.out W.drew hk
  have C12 := H12.out W.drew hk
  have C16 := H16.out W.drew hk
  have C24 := H24.out W.drew hk
  have C32 := H32.out W.drew hk
  have C40 := H40.out W.drew hk
  clear H4 H8 H12 H16 H24 H32 H40 z0 z1 z2 z3 hk hW
  have hbD : RowKit.Below w.heap.size w W.drew := hbW.drew
  have hboxD : W.drew.heap[w.heap.size]? = _ := hbox
  have HBD := Lib.hid hbD
  have HBx := Lib.hid hboxD
  clear hbD hboxD hbW hbox hB hb h
  refine wp_region_still_tail 51 (by kernel_rfl) (by kernel_rfl) ?_
  simp only [List.take_succ_cons, List.take_zero, List.drop_succ_cons, List.drop_zero]
  generalize hD : ({ W with drawn := W.drawn + 1 } : World) = D
  rw [show W.drew = D from hD] at *
  clear hD W
  generalize pa (some { block := b, off := off }) c 4 = A4 at *
  generalize pa (some { block := b, off := off }) c 8 = A8 at *
  generalize pa (some { block := b, off := off }) c 12 = A12 at *
  generalize pa (some { block := b, off := off }) c 16 = A16 at *
  generalize pa (some { block := b, off := off }) c 24 = A24 at *
  generalize pa (some { block := b, off := off }) c 32 = A32 at *
  generalize pa (some { block := b, off := off }) c 40 = A40 at *
  iterate 29 still_step
  still_step
  still_step
  still_call C4
  clear C4 s4
  still_step
  still_step
  still_call C8
  clear C8 s8
  still_step
  still_step
  still_call C12
  clear C12 s12
  still_step
  still_step
  still_call C16
  clear C16 s16
  still_step
  still_step
  still_call C24
  clear C24 s24
  still_step
  still_step
  still_call C32
  clear C32 s32
  still_step
  still_step
  still_call C40
  clear C40 s40
  still_step
  refine wpStill_nil ?_
  refine wpList_store_row rfl 79 (.tmp 2) (.tmp 53) rfl w.heap.size (pkC ⟨hd, none, 0, 0, m0⟩) rfl (by rw [HV.out]; rfl) 79 _ HBx.out s29 rfl (pk_all _) ?_
  have hr := setRow_heap D w.heap.size _ (pkC ⟨hd, none, 0, 0, m0⟩) 79 (0, 0) HBx.out
  have hb := below_setRow HBD.out (Nat.le_refl _) (pkC ⟨hd, none, 0, 0, m0⟩)
  clear HBx HBD
  generalize D.setRow w.heap.size (pkC ⟨hd, none, 0, 0, m0⟩) = D2 at *
  go_wp2_with fail
  exact bodyPost_ret (v := .agg (pkC ⟨hd, none, 0, 0, m0⟩)) (results_cell_row rfl _ _ w.heap.size 79 _ (0, 0) _ rfl hr Try.underlying79 rfl s29) rfl ⟨rfl, hb⟩
end Go.Proofs.Ytompggkdjbkjjaa.Wi
