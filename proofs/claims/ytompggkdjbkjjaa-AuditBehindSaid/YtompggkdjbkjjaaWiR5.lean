/- wire: the field that some bytes are. -/
import Derived.Test.YtompggkdjbkjjaaWiR4
import Derived.Deep.Cut
namespace Go.Proofs.Ytompggkdjbkjjaa.Wi
open Go.RowKit
set_option linter.unusedVariables false
set_option maxRecDepth 100000
theorem s47 : (Try.prog.info? 85).map (·.size) = some 8 := by kernel_rfl
/-- a field's cells -/
abbrev elC (x : El) : Array Value := #[.int .i64 x.op, .bool x.resp, .bool x.bad, .int .i64 x.as_, .int .u32 (x.ts : Int), .int .u32 (x.fs : Int), .slice x.A x.n x.c, .slice x.B x.m x.e]
theorem el_all (x : El) : ((elC x).all (·.oneCell')) = true := by simp [Value.oneCell']
def e0 : El := ⟨0, false, false, 0, 0, 0, none, 0, 0, none, 0, 0, [], []⟩
/-- a field that was read -/
structure Ex where
  op : Nat
  (resp bad : Bool)
  (as_ ts fs : Nat)
  (xs ys : List Nat)
def exEl (x : Ex) (A : Option Addr) (c : Nat) (B : Option Addr) (d : Nat) : El := ⟨x.op, x.resp, x.bad, x.as_, x.ts, x.fs, A, x.xs.length, c, B, x.ys.length, d, x.xs, x.ys⟩
/-- the field that some bytes are -/
def exOf (xs : List Nat) : Option Ex :=
  if xs.length = 0 ∨ xs.getD 1 0 ≠ 0 ∨ xs.getD 6 0 ≠ 0 ∨ xs.getD 7 0 ≠ 0 then none
  else match txt (xs.drop 16) with
    | none => none
    | some (t, r) => match txt r with
      | none => none
      | some (t2, r2) => if 0 < r2.length ∨ xs.getD 0 0 % 64 = 0 then none else some ⟨xs.getD 0 0 % 64, decide (128 ≤ xs.getD 0 0), decide (xs.getD 0 0 / 64 % 2 = 1), nm xs 4 2, nm xs 8 4, nm xs 12 4, t, t2⟩
def exEnd (xs t t2 r2 : List Nat) : Option Ex := if 0 < r2.length ∨ xs.getD 0 0 % 64 = 0 then none else some ⟨xs.getD 0 0 % 64, decide (128 ≤ xs.getD 0 0), decide (xs.getD 0 0 / 64 % 2 = 1), nm xs 4 2, nm xs 8 4, nm xs 12 4, t, t2⟩
theorem exOf_of {xs : List Nat} (h0 : xs.length ≠ 0) (h1 : xs.getD 1 0 = 0) (h6 : xs.getD 6 0 = 0) (h7 : xs.getD 7 0 = 0) :
    (txt (xs.drop 16) = none → exOf xs = none) ∧ (∀ t r, txt (xs.drop 16) = some (t, r) → (txt r = none → exOf xs = none) ∧ ∀ t2 r2, txt r = some (t2, r2) → exOf xs = exEnd xs t t2 r2) := by
  have e : ¬ (xs.length = 0 ∨ xs.getD 1 0 ≠ 0 ∨ xs.getD 6 0 ≠ 0 ∨ xs.getD 7 0 ≠ 0) := by
    rintro (e | e | e | e)
    · exact h0 e
    · exact e h1
    · exact e h6
    · exact e h7
  refine ⟨fun ht => ?_, fun t r ht => ⟨fun hr => ?_, fun t2 r2 hr => ?_⟩⟩
  · unfold exOf; rw [if_neg e, ht]
  · unfold exOf; rw [if_neg e, ht]; simp only [hr]
  · unfold exOf; rw [if_neg e, ht]; simp only [hr, exEnd]
def ExtPost (xs : List Nat) (w : World) (e : Ending) (w' : World) : Prop :=
  RowKit.Below w.heap.size w w' ∧
  match exOf xs with
  | none => e = .returned (.tuple #[elV e0, .bool false])
  | some x => ∃ A c B d, e = .returned (.tuple #[elV (exEl x A c B d), .bool true]) ∧ (∀ ad, A = some ad → w.heap.size ≤ ad.block) ∧ (∀ ad, B = some ad → w.heap.size ≤ ad.block) ∧
      Nb w' w'.heap.size A x.xs.length c x.xs ∧ Nb w' w'.heap.size B x.ys.length d x.ys
theorem txt_le {xs t r : List Nat} (h : txt xs = some (t, r)) : r.length ≤ xs.length ∧ t.length ≤ 2048 := by
  unfold txt at h
  split at h
  · cases h
  · split at h
    · cases h
    · split at h
      · cases h
        refine ⟨by simp only [List.length_drop]; omega, ?_⟩
        rw [List.length_take]; omega
      · cases h
theorem text_of_any2 {w : World} {B n c : Nat} {A : Option Addr} {xs : List Nat} (h : Nb w B A n c xs) (hB : B ≤ w.heap.size) (hn : n ≤ 1073741824) :
    Calls Try.prog 56 #[.slice A n c] w fun e w' => RowKit.Below w.heap.size w w' ∧ ∃ A1 c1 t A2 c2 r, ∃ rb : Bool, e = .returned (.tuple #[.slice A1 t.length c1, .slice A2 r.length c2, .bool rb]) ∧ (∀ ad, A1 = some ad → w.heap.size ≤ ad.block) ∧
      Nb w' w'.heap.size A1 t.length c1 t ∧ Nb w' w'.heap.size A2 r.length c2 r ∧ txt xs = (if rb = true then some (t, r) else none) ∧ r.length ≤ n ∧ t.length ≤ 2048 := by
  refine (text_of_any h hB hn).mono ?_
  rintro e w' ⟨hb, hp⟩
  refine ⟨hb, ?_⟩
  cases ht : txt xs with
  | none =>
    rw [ht] at hp
    exact ⟨none, 0, [], none, 0, [], false, hp, (fun ad e => by cases e), Nb.nil _ _ 0 (by omega) none, Nb.nil _ _ 0 (by omega) none, rfl, Nat.zero_le _, Nat.zero_le _⟩
  | some p =>
    obtain ⟨t, r⟩ := p
    rw [ht] at hp
    obtain ⟨A1, c1, A2, c2, he, ha, h1, h2⟩ := hp
    have := txt_le ht
    exact ⟨A1, c1, t, A2, c2, r, true, he, ha, h1, h2, rfl, by rw [← h.len]; exact this.1, this.2⟩
theorem bt6 : ∀ x : Nat, x < 256 → IntKind.i64.wrap (bits BinOp.andNot IntKind.u8 (x : Int) 192) = ((x % 64 : Nat) : Int) := by decide +kernel
theorem bt7 : ∀ x : Nat, x < 256 → (bits BinOp.and IntKind.u8 (x : Int) 128 != 0) = decide (128 ≤ x) := by decide +kernel
theorem bt8 : ∀ x : Nat, x < 256 → (bits BinOp.and IntKind.u8 (x : Int) 64 != 0) = decide (x / 64 % 2 = 1) := by decide +kernel
theorem keep_alloc {W : World} {b off : Nat} {v : Value} {o : Obj} (h : W.cell? ⟨b, off, none⟩ = some v) (hb : b < W.heap.size) : (W.alloc o).cell? ⟨b, off, none⟩ = some v :=
  (World.cell?_of_block (a := ⟨b, off, none⟩) (Below.heap_alloc _ _ _ hb)).trans h
set_option maxHeartbeats 4000000 in
theorem ext_of_any {w : World} {B n c : Nat} {A : Option Addr} {xs : List Nat} (h : Nb w B A n c xs) (hB : B ≤ w.heap.size) (hn : n ≤ 1073741824) (h24 : n = 0 ∨ 24 ≤ n) :
    Calls Try.prog 48 #[.slice A n c] w (ExtPost xs w) := by
  obtain ⟨W, hW⟩ : ∃ W, W = w.alloc (.cells #[.int .i64 0, .bool false, .bool false, .int .i64 0, .int .u32 0, .int .u32 0, .slice none 0 0, .slice none 0 0] 85) := ⟨_, rfl⟩
  have hbW : RowKit.Below w.heap.size w W := by rw [hW]; exact (Below.refl _ _).alloc (Nat.le_refl _) _
  have hbox : W.heap[w.heap.size]? = some (.cells (elC e0) 85 (0, 0)) := by rw [hW]; exact heap_alloc_new w _
  have HW := Lib.hid hW
  have HbW := Lib.hid hbW
  have HBx := Lib.hid hbox
  clear hW hbW hbox
  rcases h24 with h0 | h24
  · subst h0
    have HV := Lib.hid (show exOf xs = none by unfold exOf; rw [if_pos (.inl h.len)])
    clear h
    go_enter Try.func48, Try.ntmps48
    go_upto_region 1 with fail
    rw [← HW.out]
    go_wp2_with (refine wpList_store_row rfl 85 (.tmp 2) (.tmp 30) rfl w.heap.size (elC e0) rfl rfl 85 _ HBx.out s47 rfl (el_all _) ?_)
    have hr := setRow_heap W w.heap.size _ (elC e0) 85 (0, 0) HBx.out
    have hb := below_setRow HbW.out (Nat.le_refl _) (elC e0)
    generalize W.setRow w.heap.size (elC e0) = D2 at *
    obtain ⟨z0, z1, z2, z3, z4, z5, z6, z7⟩ := EBox.cells (x := e0) hr
    refine bodyPost_ret (v := .tuple #[elV e0, .bool false]) (by simp [results, Try.results44, go_sem, z0, z1, z2, z3, z4, z5, z6, z7]) rfl ⟨hb, by rw [HV.out]⟩
  · have hcap := h.cap
    have hl := h.len
    have HH := Lib.hid h
    obtain ⟨b, off, rfl, hb, hc⟩ := h.cell (by omega)
    have z : ∀ j, j < 24 → W.cell? ⟨b, off + j, none⟩ = some (.int .u8 (xs.getD j 0 : Nat)) := fun j hj => by
      refine (World.cell?_of_block (a := ⟨b, off + j, none⟩) (HbW.out.block b (by omega))).trans (hc j _ ?_)
      rw [List.getD_eq_getElem?_getD, List.getElem?_eq_getElem (by omega)]; rfl
    have y1 := z 1 (by omega)
    have y6 := z 6 (by omega)
    have y7 := z 7 (by omega)
    have HZ := Lib.hid z
    have HV0 := Lib.hid (show exOf xs = _ from rfl)
    have l0 := h.lim.get (by omega : 0 < 256) 0
    have k0 : ((n : Int) == 0) = false := by simp; omega
    have k0' : (n == 0) = false := by simp; omega
    have k00 : 0 < n := by omega
    have k1 : (1 : Int) < (n : Int) := by omega
    have k6 : (6 : Int) < (n : Int) := by omega
    have k7 : (7 : Int) < (n : Int) := by omega
    have hz : ∀ W : World, (Go.sizeOf 5).run Try.prog W = .ok 1 W := fun W => by kernel_rfl
    have HHc := Lib.hid hc
    clear hc z h
    have X0 : xs.length ≠ 0 := by omega
    by_cases h1 : xs.getD 1 0 = 0
    · by_cases h6 : xs.getD 6 0 = 0
      · by_cases h7 : xs.getD 7 0 = 0
        · rw [h1] at y1
          rw [h6] at y6
          rw [h7] at y7
          have HE := Lib.hid (exOf_of X0 h1 h6 h7)
          have N1 := (HH.out.below (HbW.out.mono hB)).part 16 n (by omega) (Nat.le_refl _)
          have e1 : (xs.drop 16).take (n - 16) = xs.drop 16 := List.take_of_length_le (by rw [List.length_drop, hl]; exact Nat.le_refl _)
          rw [e1] at N1
          have g1 : ∀ W, (Instr.slice 52 (.slice (some ⟨b, off, none⟩) n c) (some (.int .i64 16)) none none).run Try.prog W = .ok (.slice (pa (some ⟨b, off, none⟩) c 16) (n - 16) (c - 16)) W := fun W => sl_from _ n c 16 .i64 (by omega) W
          generalize pa (some ⟨b, off, none⟩) c 16 = A16 at *
          have HT1 := Lib.hid (text_of_any2 N1 (Nat.le_trans hB HbW.out.size) (by omega))
          have HX0 := Lib.hid X0
          clear N1 e1 h1 h6 h7 X0 HV0
          go_enter Try.func48, Try.ntmps48
          go_upto_region 1 with fail
          rw [← HW.out]
          go_upto_region 4 with (go_at_call 56; refine HT1.out.mono ?_; rintro e w3 ⟨hb3, A1, c1, t, A2, c2, r, rb, rfl, ha1, n1, n2, ht, hr1, hr2⟩)
          have HB3 := Lib.hid (bthen HbW.out hb3 (Nat.le_refl _))
          have HBx3 := Lib.hid ((hb3.block _ (show w.heap.size < W.heap.size from (Array.getElem?_eq_some_iff.1 HBx.out).1)).trans HBx.out)
          cases rb with
          | false =>
            have HV := Lib.hid (HE.out.1 ht)
            clear ht
            go_wp2_with (refine wpList_store_row rfl 85 (.tmp 2) (.tmp 40) rfl w.heap.size (elC e0) rfl rfl 85 _ HBx3.out s47 rfl (el_all _) ?_)
            have hr := setRow_heap w3 w.heap.size _ (elC e0) 85 (0, 0) HBx3.out
            have hb := below_setRow HB3.out (Nat.le_refl _) (elC e0)
            generalize w3.setRow w.heap.size (elC e0) = D2 at *
            obtain ⟨z0, z1, z2, z3, z4, z5, z6, z7⟩ := EBox.cells (x := e0) hr
            refine bodyPost_ret (v := .tuple #[elV e0, .bool false]) (by simp [results, Try.results44, go_sem, z0, z1, z2, z3, z4, z5, z6, z7]) rfl ⟨hb, by rw [HV.out]⟩
          | true =>
            have HT2 := Lib.hid (text_of_any2 n2 (Nat.le_refl _) (by omega))
            have HE2 := Lib.hid (HE.out.2 t r ht)
            have HA1 := Lib.hid ha1
            have HN1 := Lib.hid n1
            clear n1 n2 ha1 ht y1 y6 y7 hb3
            go_upto_region 7 with (go_at_call 56; refine HT2.out.mono ?_; rintro e w4 ⟨hb4, A3, c3, t2, A4, c4, r2, rb2, rfl, ha2, m1, m2, ht2, hq1, hq2⟩)
            have HB4 := Lib.hid (bthen HB3.out hb4 (Nat.le_refl _))
            have HBx4 := Lib.hid ((hb4.block _ (show w.heap.size < w3.heap.size from (Array.getElem?_eq_some_iff.1 HBx3.out).1)).trans HBx3.out)
            have HN1' := Lib.hid (HN1.out.far hb4)
            have HM1 := Lib.hid m1
            have HM2 := Lib.hid m2
            have HA2 := Lib.hid ha2
            have HT2' := Lib.hid ht2
            clear m1 m2 ha2 ht2 hb4
            obtain ⟨o, ho⟩ : ∃ o, w.heap[b]? = some o := by
              cases e : w.heap[b]? with
              | none => have := HHc.out 0 _ (List.getElem?_eq_getElem (show 0 < xs.length by omega)); simp [World.cell?, e] at this
              | some o => exact ⟨o, rfl⟩
            have hkk : w4.heap[b]? = some o := (HB4.out.block b (by omega)).trans ho
            have y0 : w4.cell? ⟨b, off, none⟩ = some (.int .u8 (xs.getD 0 0 : Nat)) := (World.cell?_of_block (a := ⟨b, off, none⟩) (hkk.trans ho.symm)).trans (HHc.out 0 _ (by rw [List.getD_eq_getElem?_getD, List.getElem?_eq_getElem (by omega)]; rfl))
            have HC4 := Lib.hid (fun W' (e : W'.heap[b]? = some o) => HH.out.number (W := W') 4 2 (by omega) (by omega) (fun ad e2 => by obtain rfl := Option.some.inj e2; exact e.trans ho.symm))
            have HC8 := Lib.hid (fun W' (e : W'.heap[b]? = some o) => HH.out.word (W := W') 8 (by omega) (fun ad e2 => by obtain rfl := Option.some.inj e2; exact e.trans ho.symm))
            have HC12 := Lib.hid (fun W' (e : W'.heap[b]? = some o) => HH.out.word (W := W') 12 (by omega) (fun ad e2 => by obtain rfl := Option.some.inj e2; exact e.trans ho.symm))
            have hk4 : b < w4.heap.size := (Array.getElem?_eq_some_iff.1 hkk).1
            have HKK := Lib.hid hkk
            have s4 : ∀ W, (Instr.sliceAt 52 (.slice (some ⟨b, off, none⟩) n c) (some (.int .i64 4)) (some (.int .i64 6)) none).run Try.prog W = .ok (.slice (pa (some ⟨b, off, none⟩) c 4) 2 (c - 4)) W := fun W => (sl_at _ _ _ _ _ W).trans (sl_both _ n c 4 6 _ _ (by omega) (by omega) W)
            have s8 : ∀ W, (Instr.sliceAt 52 (.slice (some ⟨b, off, none⟩) n c) (some (.int .i64 8)) (some (.int .i64 12)) none).run Try.prog W = .ok (.slice (pa (some ⟨b, off, none⟩) c 8) 4 (c - 8)) W := fun W => (sl_at _ _ _ _ _ W).trans (sl_both _ n c 8 12 _ _ (by omega) (by omega) W)
            have s12 : ∀ W, (Instr.sliceAt 52 (.slice (some ⟨b, off, none⟩) n c) (some (.int .i64 12)) (some (.int .i64 16)) none).run Try.prog W = .ok (.slice (pa (some ⟨b, off, none⟩) c 12) 4 (c - 12)) W := fun W => (sl_at _ _ _ _ _ W).trans (sl_both _ n c 12 16 _ _ (by omega) (by omega) W)
            clear hkk ho HT1 HT2
            have HEN := Lib.hid HE2.out
            have HB3s := Lib.hid HB3.out.size
            have HLt := Lib.hid (show w.heap.size < W.heap.size from (Array.getElem?_eq_some_iff.1 HBx.out).1)
            have HLt3 := Lib.hid (show w.heap.size < w3.heap.size from (Array.getElem?_eq_some_iff.1 HBx3.out).1)
            have HEE := Lib.hid (show exEnd xs t t2 r2 = (if 0 < r2.length ∨ xs.getD 0 0 % 64 = 0 then none else some ⟨xs.getD 0 0 % 64, decide (128 ≤ xs.getD 0 0), decide (xs.getD 0 0 / 64 % 2 = 1), nm xs 4 2, nm xs 8 4, nm xs 12 4, t, t2⟩) from rfl)
            have q6 := bt6 _ l0
            have q7 := bt7 _ l0
            have q8 := bt8 _ l0
            have HQ := Lib.hid (show nm xs 4 2 < 65536 from Nat.lt_of_lt_of_le (num_lt _ (HH.out.part 4 6 (by omega) (by omega)).lim) (Nat.le_trans (Nat.pow_le_pow_right (by omega) (by rw [List.length_take]; omega)) (by decide : 256 ^ 2 ≤ 65536)))
            have q9 : IntKind.i64.wrap (nm xs 4 2 : Int) = (nm xs 4 2 : Int) := by rw [IntKind.wrap_i64]; have := HQ.out; omega
            generalize pa (some { block := b, off := off }) c 4 = A4' at *
            generalize pa (some { block := b, off := off }) c 8 = A8 at *
            generalize pa (some { block := b, off := off }) c 12 = A12 at *
            generalize xs.getD 0 0 = x0 at *
            generalize nm xs 4 2 = v4 at *
            generalize nm xs 8 4 = v8 at *
            generalize nm xs 12 4 = v12 at *
            clear HZ h24 hcap hl HE HE2 HX0 HH HHc hz HW HBx HB3 HBx3 HN1
            go_cut [8] from 85 (fun p wx => p = .pointer (some ⟨w4.heap.size, 0, none⟩) ∧ wx = (w4.alloc (.cells #[.int .i64 ((x0 : Int) % 64), .bool (decide (128 ≤ x0)), .bool (decide (x0 / 64 % 2 = 1)), .int .i64 (v4 : Int), .int .u32 (v8 : Int), .int .u32 (v12 : Int), .slice A1 t.length c1, .slice A3 t2.length c3] 85)).drew)
            case first =>
              go_region_held3 (fun W' => W'.cell? ⟨b, off, none⟩ = some (.int .u8 (x0 : Int)))
                (first | assumption | go_keep | exact keep_alloc (by assumption) hk4)
                (first
                  | (go_at_call 53; refine (HC4.out _ (by first | exact HKK.out | exact (Below.heap_alloc _ _ _ hk4).trans HKK.out)).mono ?_; rintro e w5 ⟨rfl, hw5⟩; subst w5)
                  | (go_at_call 52; refine (HC8.out _ (by first | exact HKK.out | exact (Below.heap_alloc _ _ _ hk4).trans HKK.out)).mono ?_; rintro e w5 ⟨rfl, hw5⟩; subst w5)
                  | (go_at_call 52; refine (HC12.out _ (by first | exact HKK.out | exact (Below.heap_alloc _ _ _ hk4).trans HKK.out)).mono ?_; rintro e w5 ⟨rfl, hw5⟩; subst w5))
              all_goals (go_wp2_with fail; go_meet; exact ⟨rfl, rfl⟩)
            case rest =>
              obtain ⟨rfl, hD⟩ := hcut
              have hbD : RowKit.Below w.heap.size w wc := by rw [hD]; exact (HB4.out.alloc HB4.out.size _).drew
              have hbox8 : EBox wc w4.heap.size (exEl ⟨x0 % 64, decide (128 ≤ x0), decide (x0 / 64 % 2 = 1), v4, v8, v12, t, t2⟩ A1 c1 A3 c3) := by rw [hD]; exact heap_alloc_new w4 _
              have hboxr : wc.heap[w.heap.size]? = some (.cells (elC e0) 85 (0, 0)) := by
                rw [hD]
                exact (Below.heap_alloc _ _ _ (show w.heap.size < w4.heap.size from (Array.getElem?_eq_some_iff.1 HBx4.out).1)).trans HBx4.out
              have hN1D : Nb wc wc.heap.size A1 t.length c1 t := by rw [hD]; exact HN1'.out.far ((Below.refl _ _).alloc (Nat.le_refl _) _).drew
              have hM1D : Nb wc wc.heap.size A3 t2.length c3 t2 := by rw [hD]; exact HM1.out.far ((Below.refl _ _).alloc (Nat.le_refl _) _).drew
              have HBD := Lib.hid hbD
              have HB8 := Lib.hid hbox8
              have HBr := Lib.hid hboxr
              have HN1D := Lib.hid hN1D
              have HM1D := Lib.hid hM1D
              clear hD hbD hbox8 hboxr hN1D hM1D HB4 HBx4 HN1' HM1 HM2 y0
              obtain ⟨c0', -⟩ := HB8.out.cells
              have c0 : wc.cell? ⟨w4.heap.size, 0, none⟩ = some (.int .i64 ((x0 % 64 : Nat) : Int)) := c0'
              clear c0'
              generalize hm2 : r2.length = m2 at *
              cases rb2 with
              | false =>
                have HV := Lib.hid (HEN.out.1 HT2'.out)
                go_wp2_with (refine wpList_store_row rfl 85 (.tmp 2) (.tmp 87) rfl w.heap.size (elC e0) rfl rfl 85 _ HBr.out s47 rfl (el_all _) ?_)
                have hr := setRow_heap wc w.heap.size _ (elC e0) 85 (0, 0) HBr.out
                have hb := below_setRow HBD.out (Nat.le_refl _) (elC e0)
                generalize wc.setRow w.heap.size (elC e0) = D2 at *
                obtain ⟨z0, z1, z2, z3, z4, z5, z6, z7⟩ := EBox.cells (x := e0) hr
                refine bodyPost_ret (v := .tuple #[elV e0, .bool false]) (by simp [results, Try.results44, go_sem, z0, z1, z2, z3, z4, z5, z6, z7]) rfl ⟨hb, by rw [HV.out]⟩
              | true =>
                have HV1 := Lib.hid ((HEN.out.2 t2 r2 HT2'.out).trans HEE.out)
                by_cases hr0 : 0 < m2
                · have hr0' : (0 : Int) < (m2 : Int) := by omega
                  have HV := Lib.hid (HV1.out.trans (if_pos (.inl hr0)))
                  go_wp2_with (refine wpList_store_row rfl 85 (.tmp 2) (.tmp 87) rfl w.heap.size (elC e0) rfl rfl 85 _ HBr.out s47 rfl (el_all _) ?_)
                  have hr := setRow_heap wc w.heap.size _ (elC e0) 85 (0, 0) HBr.out
                  have hb := below_setRow HBD.out (Nat.le_refl _) (elC e0)
                  generalize wc.setRow w.heap.size (elC e0) = D2 at *
                  obtain ⟨z0, z1, z2, z3, z4, z5, z6, z7⟩ := EBox.cells (x := e0) hr
                  refine bodyPost_ret (v := .tuple #[elV e0, .bool false]) (by simp [results, Try.results44, go_sem, z0, z1, z2, z3, z4, z5, z6, z7]) rfl ⟨hb, by rw [HV.out]⟩
                · have hr0'' : (0 < m2) = False := by simp only [hr0]
                  have hr0' : ((0 : Int) < (m2 : Int)) = False := by simp only [eq_iff_iff, iff_false]; omega
                  by_cases hx0 : x0 % 64 = 0
                  · have HV := Lib.hid (HV1.out.trans (if_pos (.inr hx0)))
                    clear hr0
                    rw [hx0] at c0
                    clear hx0
                    go_wp2_with (refine wpList_store_row rfl 85 (.tmp 2) (.tmp 87) rfl w.heap.size (elC e0) rfl rfl 85 _ HBr.out s47 rfl (el_all _) ?_)
                    have hr := setRow_heap wc w.heap.size _ (elC e0) 85 (0, 0) HBr.out
                    have hb := below_setRow HBD.out (Nat.le_refl _) (elC e0)
                    generalize wc.setRow w.heap.size (elC e0) = D2 at *
                    obtain ⟨z0, z1, z2, z3, z4, z5, z6, z7⟩ := EBox.cells (x := e0) hr
                    refine bodyPost_ret (v := .tuple #[elV e0, .bool false]) (by simp [results, Try.results44, go_sem, z0, z1, z2, z3, z4, z5, z6, z7]) rfl ⟨hb, by rw [HV.out]⟩
                  · have HV := Lib.hid (HV1.out.trans (if_neg (by rintro (e | e); exact hr0 e; exact hx0 e)))
                    have k9 : ((((x0 % 64 : Nat)) : Int) == 0) = false := by simp; omega
                    have k9' : (x0 % 64 == 0) = false := by simpa using hx0
                    obtain ⟨X, hX⟩ : ∃ X : Ex, X = ⟨x0 % 64, decide (128 ≤ x0), decide (x0 / 64 % 2 = 1), v4, v8, v12, t, t2⟩ := ⟨_, rfl⟩
                    have HX := Lib.hid hX
                    have HCs := HB8.out.cells
                    have d1 : wc.cell? ⟨w4.heap.size, 1, none⟩ = some (.bool (decide (128 ≤ x0))) := HCs.2.1
                    have d2 : wc.cell? ⟨w4.heap.size, 2, none⟩ = some (.bool (decide (x0 / 64 % 2 = 1))) := HCs.2.2.1
                    have d3 : wc.cell? ⟨w4.heap.size, 3, none⟩ = some (.int .i64 (v4 : Int)) := HCs.2.2.2.1
                    have d4 : wc.cell? ⟨w4.heap.size, 4, none⟩ = some (.int .u32 (v8 : Int)) := HCs.2.2.2.2.1
                    have d5 : wc.cell? ⟨w4.heap.size, 5, none⟩ = some (.int .u32 (v12 : Int)) := HCs.2.2.2.2.2.1
                    have d6 : wc.cell? ⟨w4.heap.size, 6, none⟩ = some (.slice A1 t.length c1) := HCs.2.2.2.2.2.2.1
                    have d7 : wc.cell? ⟨w4.heap.size, 7, none⟩ = some (.slice A3 t2.length c3) := HCs.2.2.2.2.2.2.2
                    rw [← hX] at HV
                    clear HCs hX hx0
                    generalize x0 % 64 = o0 at *
                    generalize decide (128 ≤ x0) = o1 at *
                    generalize decide (x0 / 64 % 2 = 1) = o2 at *
                    go_wp2_with (refine wpList_store_row rfl 85 (.tmp 2) (.tmp 88) rfl w.heap.size (elC (exEl X A1 c1 A3 c3)) rfl (by rw [HX.out]; rfl) 85 _ HBr.out s47 rfl (el_all _) ?_)
                    have hr := setRow_heap wc w.heap.size _ (elC (exEl X A1 c1 A3 c3)) 85 (0, 0) HBr.out
                    have hb := below_setRow HBD.out (Nat.le_refl _) (elC (exEl X A1 c1 A3 c3))
                    have hN1 : Nb (wc.setRow w.heap.size (elC (exEl X A1 c1 A3 c3))) wc.heap.size A1 t.length c1 t := HN1D.out.keepb fun ad e => setRow_other _ _ _ _ (by have := HA1.out ad e; have := HLt.out; omega)
                    have hM1 : Nb (wc.setRow w.heap.size (elC (exEl X A1 c1 A3 c3))) wc.heap.size A3 t2.length c3 t2 := HM1D.out.keepb fun ad e => setRow_other _ _ _ _ (by have := HA2.out ad e; have := HLt3.out; omega)
                    have hsz : (wc.setRow w.heap.size (elC (exEl X A1 c1 A3 c3))).heap.size = wc.heap.size := by simp [World.setRow]
                    generalize wc.setRow w.heap.size (elC (exEl X A1 c1 A3 c3)) = D2 at *
                    rw [← hsz] at hN1 hM1
                    obtain ⟨z0, z1, z2, z3, z4, z5, z6, z7⟩ := EBox.cells (x := exEl X A1 c1 A3 c3) hr
                    refine bodyPost_ret (v := .tuple #[elV (exEl X A1 c1 A3 c3), .bool true]) (by simp [results, Try.results44, go_sem, z0, z1, z2, z3, z4, z5, z6, z7]) rfl ⟨hb, ?_⟩
                    rw [HV.out]
                    refine ⟨A1, c1, A3, c3, rfl, fun ad e => Nat.le_trans HbW.out.size (HA1.out ad e), fun ad e => Nat.le_trans HB3s.out (HA2.out ad e), ?_, ?_⟩
                    · rw [HX.out]; exact hN1
                    · rw [HX.out]; exact hM1
        · have HV := Lib.hid (show exOf xs = none by unfold exOf; rw [if_pos (.inr (.inr (.inr h7)))])
          rw [h1] at y1
          rw [h6] at y6
          have j1 : ((xs.getD 7 0 : Int) != 0) = true := by simpa using h7
          have j2 : ((xs.getD 7 0 : Int) == 0) = false := by simpa using h7
          clear h7 HV0 X0 hl l0 h24
          generalize xs.getD 7 0 = x7 at *
          go_enter Try.func48, Try.ntmps48
          go_upto_region 1 with fail
          rw [← HW.out]
          go_wp2_with (refine wpList_store_row rfl 85 (.tmp 2) (.tmp 30) rfl w.heap.size (elC e0) rfl rfl 85 _ HBx.out s47 rfl (el_all _) ?_)
          have hr := setRow_heap W w.heap.size _ (elC e0) 85 (0, 0) HBx.out
          have hb := below_setRow HbW.out (Nat.le_refl _) (elC e0)
          generalize W.setRow w.heap.size (elC e0) = D2 at *
          obtain ⟨z0, z1, z2, z3, z4, z5, z6, z7⟩ := EBox.cells (x := e0) hr
          refine bodyPost_ret (v := .tuple #[elV e0, .bool false]) (by simp [results, Try.results44, go_sem, z0, z1, z2, z3, z4, z5, z6, z7]) rfl ⟨hb, by rw [HV.out]⟩
      · have HV := Lib.hid (show exOf xs = none by unfold exOf; rw [if_pos (.inr (.inr (.inl h6)))])
        rw [h1] at y1
        have j1 : ((xs.getD 6 0 : Int) != 0) = true := by simpa using h6
        have j2 : ((xs.getD 6 0 : Int) == 0) = false := by simpa using h6
        clear h6 HV0 X0 hl l0 h24
        generalize xs.getD 6 0 = x6 at *
        go_enter Try.func48, Try.ntmps48
        go_upto_region 1 with fail
        rw [← HW.out]
        go_wp2_with (refine wpList_store_row rfl 85 (.tmp 2) (.tmp 30) rfl w.heap.size (elC e0) rfl rfl 85 _ HBx.out s47 rfl (el_all _) ?_)
        have hr := setRow_heap W w.heap.size _ (elC e0) 85 (0, 0) HBx.out
        have hb := below_setRow HbW.out (Nat.le_refl _) (elC e0)
        generalize W.setRow w.heap.size (elC e0) = D2 at *
        obtain ⟨z0, z1, z2, z3, z4, z5, z6, z7⟩ := EBox.cells (x := e0) hr
        refine bodyPost_ret (v := .tuple #[elV e0, .bool false]) (by simp [results, Try.results44, go_sem, z0, z1, z2, z3, z4, z5, z6, z7]) rfl ⟨hb, by rw [HV.out]⟩
    · have HV := Lib.hid (show exOf xs = none by unfold exOf; rw [if_pos (.inr (.inl h1))])
      have j1 : ((xs.getD 1 0 : Int) != 0) = true := by simpa using h1
      have j2 : ((xs.getD 1 0 : Int) == 0) = false := by simpa using h1
      clear h1 HV0 X0 hl l0 h24
      generalize xs.getD 1 0 = x1 at *
      go_enter Try.func48, Try.ntmps48
      go_upto_region 1 with fail
      rw [← HW.out]
      go_wp2_with (refine wpList_store_row rfl 85 (.tmp 2) (.tmp 30) rfl w.heap.size (elC e0) rfl rfl 85 _ HBx.out s47 rfl (el_all _) ?_)
      have hr := setRow_heap W w.heap.size _ (elC e0) 85 (0, 0) HBx.out
      have hb := below_setRow HbW.out (Nat.le_refl _) (elC e0)
      generalize W.setRow w.heap.size (elC e0) = D2 at *
      obtain ⟨z0, z1, z2, z3, z4, z5, z6, z7⟩ := EBox.cells (x := e0) hr
      refine bodyPost_ret (v := .tuple #[elV e0, .bool false]) (by simp [results, Try.results44, go_sem, z0, z1, z2, z3, z4, z5, z6, z7]) rfl ⟨hb, by rw [HV.out]⟩
end Go.Proofs.Ytompggkdjbkjjaa.Wi
