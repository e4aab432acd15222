/- bytes.Repeat of one byte. pkey: framed, signed, work, fits. pkey: signed, work. pkey: fits, Sign. pkey: Verify. pkey: Public, Verify. PkeyHolds: its arithmetic. PkeyHolds: what Verify answers. -/
import Derived.Test.YthipdagebijbiaaGreatDoorPk
import Derived.Test.YthipdagebijbiaaGreatDoorMul64
import Derived.Lib.MakeNoZero
import Derived.Deep.RegionLawGrows
import Derived.Laws.CopyOwn
import Derived.Laws.Externs
import Derived.Deep.RegionHeld3
import Derived.Lib.Bytes
namespace Go.Proofs.YthipdagebijbiaaGreatDoor
set_option linter.unusedSimpArgs false
set_option linter.unusedVariables false
open Go.RowKit
set_option linter.unusedVariables false
set_option maxRecDepth 100000

set_option maxHeartbeats 1000000 in
theorem mul1_any (n : Nat) (hn : n ≤ 1000) (w : World) : Calls Tryz.prog 125 #[.int .u64 1, .int .u64 (n : Int)] w fun e w' => e = .returned (.tuple #[.int .u64 0, .int .u64 (n : Int)]) ∧ w = w' := by
  have hm := mul64_any 1 n (by omega) (by omega) w
  have e1 : mhi 1 n = 0 := by unfold mhi; omega
  have e2 : mlo 1 n = n := by unfold mlo; omega
  rw [e1, e2] at hm
  have Hm := Lib.hid hm
  clear hm
  go_enter Tryz.func125, Tryz.ntmps125
  go_wp2_with fail
  refine Hm.out.mono ?_
  rintro e w1 ⟨rfl, rfl⟩
  go_wp2_with fail
  go_ret2
  exact ⟨rfl, rfl⟩
theorem elem22 : Tryz.prog.elem 23 = 5 := by kernel_rfl
theorem und22 : Tryz.prog.underlying 23 = some (.slice (Tryz.prog.elem 23)) := by rw [elem22]; exact Tryz.underlying23
theorem size5 (W : World) : (sizeOf (Tryz.prog.elem 23)).run Tryz.prog W = .ok 1 W := by rw [elem22]; kernel_rfl
theorem tail_run (W : World) (g n bp : Nat) (h : bp < n) : (Instr.slice 23 (.slice (some ⟨g, 0, none⟩) n n) (some (.int .i64 (bp : Int))) none none).run Tryz.prog W = .ok (.slice (some ⟨g, bp, none⟩) (n - bp) (n - bp)) W := by
  rw [run_slice_l W 23 _ n n und22 .i64 bp (by omega) (by omega), size5]
  have : ¬ n = bp := by omega
  by_cases h0 : bp = 0
  · subst h0; simp [Result.andThen, sliced, Addr.add]
  · simp [Result.andThen, sliced, Addr.add, this, h0]
theorem head_run (W : World) (g n bp : Nat) (h : bp ≤ n) : (Instr.slice 23 (.slice (some ⟨g, 0, none⟩) n n) none (some (.int .i64 (bp : Int))) none).run Tryz.prog W = .ok (.slice (some ⟨g, 0, none⟩) bp n) W := by
  rw [run_slice_h W 23 _ n n und22 .i64 bp (by omega) (by omega), size5]
  simp [Result.andThen, sliced, Addr.add]
def v255 : Value := .int .u8 255
/-- what holds behind the first bp bytes -/
structure Rp (w wr : World) (g L n bp : Nat) (cur : List Value) : Prop where
  heap : wr.heap[g]? = some (.cells cur.toArray 5 (0, 0))
  len : cur.length = L
  full : cur.take bp = List.replicate bp v255
  b : Below w.heap.size w wr
theorem Rp.at_ {w wr : World} {g L n bp j : Nat} {cur : List Value} (h : Rp w wr g L n bp cur) (hj : j < bp) : wr.cell? ⟨g, j, none⟩ = some v255 := by
  rw [cell_of_row wr g j _ 5 (0, 0) h.heap]
  have h1 : (cur.take bp)[j]? = some v255 := by rw [h.full]; simp [hj]
  rw [List.getElem?_take, if_pos hj] at h1
  simpa using h1
theorem rep_step {cur : List Value} {L bp k : Nat} (hl : cur.length = L) (hf : cur.take bp = List.replicate bp v255) (hk : bp + k ≤ L) : (splice cur bp (List.replicate k v255)).length = L ∧ (splice cur bp (List.replicate k v255)).take (bp + k) = List.replicate (bp + k) v255 := by
  refine ⟨by rw [length_splice _ _ _ (by simp; omega), hl], ?_⟩
  unfold splice
  rw [hf, ← List.append_assoc, List.replicate_append_replicate, List.take_append_of_le_length (by simp), List.take_of_length_le (by simp)]
theorem one255 (k : Nat) : ∀ v ∈ List.replicate k v255, v.oneCell' = true := fun v hv => by
  rw [(List.mem_replicate.1 hv).2]; rfl
set_option maxHeartbeats 4000000 in
theorem repeat_any {w : World} {g : Nat} (hb : w.cell? ⟨g, 0, none⟩ = some (.int .u8 255)) (hg : g < w.heap.size) (n : Nat) (h0 : 0 < n) (hn : n ≤ 1000) :
    Calls Tryz.prog 96 #[.slice (some ⟨g, 0, none⟩) 1 1, .int .i64 (n : Int)] w fun e w' => ∃ g', e = .returned (.slice (some ⟨g', 0, none⟩) n n) ∧ Nb w' w'.heap.size (some ⟨g', 0, none⟩) n n (List.replicate n 255) ∧ Below w.heap.size w w' := by
  have hnz : ((n : Int) == 0) = false := by simp; omega
  obtain ⟨cs, hrunM, hle, _⟩ := Lib.run_makeNoZero (P := Tryz.prog) w #[3] 23 5 Tryz.underlying23 n (by omega)
  have hcall : (callFunc 126 #[.int .i64 (n : Int)]).run Tryz.prog w = .ok (.value (.slice (some ⟨w.heap.size, 0, none⟩) n cs.size)) ((w.alloc (.cells cs 5)).drewN 2) := by
    rw [run_callFunc_extern Tryz.func126 (by kernel_rfl) (by kernel_rfl) (by kernel_rfl) (e := Extern.BytealgMakeNoZero.makeNoZero #[3] #[23]) (by kernel_rfl), hrunM]
    rfl
  clear hrunM
  have i0 : (0 : Int) ≤ (n : Int) := by omega
  have i1 : (n : Int) ≤ (cs.size : Int) := by omega
  obtain ⟨w2, e2⟩ : ∃ w2, w2 = (w.alloc (.cells cs 5)).drewN 2 := ⟨_, rfl⟩
  have hx2 : w2.heap[w.heap.size]? = some (.cells cs.toList.toArray 5 (0, 0)) := by rw [e2]; simpa using heap_alloc_new w (.cells cs 5)
  have b2 : Below w.heap.size w w2 := e2 ▸ below_drewN ((Below.refl _ w).alloc (Nat.le_refl _) _) 2
  have hb2 : w2.cell? ⟨g, 0, none⟩ = some v255 := (b2.cell (p := ⟨g, 0, none⟩) hg).trans hb
  rw [← e2] at hcall
  clear e2
  have hcl : n ≤ cs.toList.length := by simpa using hle
  obtain ⟨L, hL⟩ : ∃ L, cs.toList.length = L := ⟨_, rfl⟩
  rw [hL] at hcl
  have Hb2 := Lib.hid hb2
  have Hx2 := Lib.hid hx2
  have HL := Lib.hid hL
  clear hx2 hb2 hL hb
  go_enter Tryz.func96, Tryz.ntmps96
  go_wp2_with fail
  refine (mul1_any n hn _).mono ?_
  rintro e w1 ⟨rfl, rfl⟩
  go_wp2_with (refine wpList_copy_splice rfl (.tmp 58) (.tmp 59) 23 23 rfl 5 Tryz.underlying23 (by kernel_rfl) (some ⟨w.heap.size, 0, none⟩) (some ⟨g, 0, none⟩) n n 1 1 rfl rfl w.heap.size 0 cs.toList 5 Hx2.out [v255] (by simp only [List.length_singleton, Nat.min_def]; split <;> omega) (fun _ => ⟨rfl, _, rfl, fun j v hj => by
      have hj0 : j = 0 ∧ v = v255 := by
        cases j with
        | zero => simpa using hj.symm
        | succ j => simp at hj
      obtain ⟨rfl, rfl⟩ := hj0
      simpa [Addr.add] using Hb2.out⟩) (by rw [HL.out]; simp; omega) (fun v hv => by simp at hv; subst hv; rfl) w.heap.size w b2 (Nat.le_refl _) ?_; intro w3 hw3 B3)
  have hR0 : Rp w w3 w.heap.size L n 1 (splice cs.toList 0 [v255]) := by
    obtain ⟨l1, l2⟩ := rep_step (k := 1) (bp := 0) HL.out (by simp) (by omega)
    exact ⟨hw3.out, l1, by simpa using l2, B3⟩
  have HR0 := Lib.hid hR0
  clear hR0 hw3 hcall
  go_loopw [10] (fun v wr => ∃ (bp : Nat) (cur : List Value), 1 ≤ bp ∧ bp ≤ n ∧ v = .int .i64 (bp : Int) ∧ Hid (Rp w wr w.heap.size L n bp cur)) (fun v _ => n - (intOf v).toNat)
  case atStart => exact ⟨1, _, by omega, h0, by simp, HR0⟩
  case round =>
    clear HR0 Hx2 Hb2 B3
    obtain ⟨bp, cur, hb1, hbn, rfl, HR⟩ := hrel
    by_cases hlt : bp < n
    · obtain ⟨k, hk⟩ : ∃ k, Nat.min bp (n - bp) = k := ⟨_, rfl⟩
      have hk1 : k ≤ bp := hk ▸ Nat.min_le_left _ _
      have hk2 : k ≤ n - bp := hk ▸ Nat.min_le_right _ _
      have hk0 : 0 < k := by rw [← hk]; exact Nat.lt_min.2 ⟨by omega, by omega⟩
      obtain ⟨l1, l2⟩ := rep_step (k := k) HR.out.len HR.out.full (by omega)
      have L1 := Lib.hid l1
      have L2 := Lib.hid l2
      have HK := Lib.hid hk
      clear l1 l2 hk
      have hmin : min (bp : Int) (n : Int) = (bp : Int) := by omega
      have hsl1 : ∀ W, (Instr.slice 23 (.slice (some ⟨w.heap.size, 0, none⟩) n n) (some (.int .i64 (bp : Int))) none none).run Tryz.prog W = .ok (.slice (some ⟨w.heap.size, bp, none⟩) (n - bp) (n - bp)) W := fun W => tail_run W _ n bp hlt
      have hsl2 : ∀ W, (Instr.slice 23 (.slice (some ⟨w.heap.size, 0, none⟩) n n) none (some (.int .i64 (bp : Int))) none).run Tryz.prog W = .ok (.slice (some ⟨w.heap.size, 0, none⟩) bp n) W := fun W => head_run W _ n bp (by omega)
      go_wp2_with fail
      have HRd : Hid (Rp w wr.drew w.heap.size L n bp cur) := ⟨HR.out.heap, HR.out.len, HR.out.full, HR.out.b.drew⟩
      go_region_law (refine step_copy_splice rfl (.tmp 70) (.tmp 73) 23 23 rfl 5 Tryz.underlying23 (by kernel_rfl) (some ⟨w.heap.size, bp, none⟩) (some ⟨w.heap.size, 0, none⟩) (n - bp) (n - bp) bp n (by simp [Act.eval, Act.put]) (by simp [Act.eval, Act.put]) w.heap.size bp cur 5 HRd.out.heap (List.replicate k v255) (by rw [List.length_replicate]; exact HK.out.symm) (fun _ => ⟨rfl, _, rfl, fun j v hj => by
          obtain ⟨hj1, hj2⟩ : j < k ∧ v = v255 := by
            rw [List.getElem?_replicate] at hj
            split at hj
            · exact ⟨by assumption, by simpa using hj.symm⟩
            · cases hj
          subst hj2
          have := HRd.out.at_ (j := j) (by omega)
          by_cases hj0 : j = 0
          · subst hj0; simpa [Addr.add] using this
          · simpa [Addr.add, hj0] using this⟩) (by rw [HRd.out.len, List.length_replicate]; omega) (one255 k) w.heap.size w HRd.out.b (Nat.le_refl _) ?_; intro w4 hw4 B4)
      all_goals
        have hR4 : Hid (Rp w w4 w.heap.size L n (bp + k) (splice cur bp (List.replicate k v255))) := ⟨hw4.out, L1.out, L2.out, B4⟩
        have hwr : IntKind.i64.wrap ((bp : Int) + (k : Int)) = ((bp + k : Nat) : Int) := by rw [IntKind.wrap_i64]; omega
        go_simp
        go_wp2
        go_roundw
        case rel => exact ⟨bp + k, _, by omega, by omega, by simp, hR4⟩
        case measure => simp only [intOf]; omega
    · have hbn' : bp = n := by omega
      subst hbn'
      go_wp2_with fail
      go_ret
      have hR := HR.out
      refine ⟨_, rfl, ⟨by simp, Nat.le_refl _, by unfold maxLen; omega, ?_, fun _ => ⟨_, 0, rfl, ?_, fun j x hj => ?_⟩⟩, hR.b⟩
      · intro x hx
        rw [(List.mem_replicate.1 hx).2]; omega
      · exact World.block_lt_of_cell? _ _ (hR.at_ (j := 0) (by omega))
      · obtain ⟨hj1, hj2⟩ : j < bp ∧ x = 255 := by
          rw [List.getElem?_replicate] at hj
          split at hj
          · exact ⟨by assumption, by simpa using hj.symm⟩
          · cases hj
        subst hj2
        rw [Nat.zero_add]
        exact hR.at_ hj1
end Go.Proofs.YthipdagebijbiaaGreatDoor
namespace Go.Proofs.YthipdagebijbiaaGreatDoor
open Go.RowKit
set_option linter.unusedVariables false
set_option maxRecDepth 100000

def vb (xs : List Nat) : List Value := xs.map fun x : Nat => .int .u8 (x : Int)
theorem length_vb (xs : List Nat) : (vb xs).length = xs.length := by simp [vb]
theorem vb_append (xs ys : List Nat) : vb (xs ++ ys) = vb xs ++ vb ys := by simp [vb]
theorem vb_one (xs : List Nat) : ∀ v ∈ vb xs, v.oneCell' = true := fun v hv => by
  simp only [vb, List.mem_map] at hv
  obtain ⟨x, _, rfl⟩ := hv
  rfl
/-- block g is just these bytes -/
theorem Ob.rows {w : World} {g : Nat} {xs : List Nat} (h : w.heap[g]? = some (.cells (vb xs).toArray 5 (0, 0))) : Ob w g xs := h
/-- what is signed: 0, the kind, the filling, 0, the text -/
def frameN (kind : Nat) (fs ts : List Nat) : List Nat := 0 :: kind :: (fs ++ 0 :: ts)
theorem frame_math (fs ts : List Nat) : splice (splice (vb ((List.replicate (3 + fs.length + ts.length) 0).set 1 1)) 2 (vb fs)) (3 + fs.length) (vb ts) = vb (frameN 1 fs ts) := by
  have e : (List.replicate (3 + fs.length + ts.length) 0).set 1 1 = 0 :: 1 :: List.replicate (1 + fs.length + ts.length) 0 := by
    rw [show 3 + fs.length + ts.length = (1 + fs.length + ts.length) + 1 + 1 by omega, List.replicate_succ, List.replicate_succ]
    rfl
  rw [e]
  have e1 : splice (vb (0 :: 1 :: List.replicate (1 + fs.length + ts.length) 0)) 2 (vb fs) = vb (0 :: 1 :: (fs ++ List.replicate (1 + ts.length) 0)) := by
    unfold splice
    rw [length_vb]
    have e3 : (vb (0 :: 1 :: List.replicate (1 + fs.length + ts.length) 0)).drop (2 + fs.length) = vb (List.replicate (1 + ts.length) 0) := by
      rw [show 2 + fs.length = fs.length + 1 + 1 by omega]
      simp only [vb, List.map_cons, List.drop_succ_cons, List.map_replicate, List.drop_replicate]
      congr 1
      omega
    rw [e3]
    simp [vb]
  rw [e1]
  unfold splice frameN
  rw [length_vb]
  have e2 : (0 :: 1 :: (fs ++ List.replicate (1 + ts.length) 0) : List Nat) = (0 :: 1 :: (fs ++ [0])) ++ List.replicate ts.length 0 := by
    rw [show 1 + ts.length = ts.length + 1 by omega, List.replicate_succ]; simp
  have l3 : (vb (0 :: 1 :: (fs ++ [0]))).length = 3 + fs.length := by rw [length_vb]; simp; omega
  rw [e2, vb_append, List.take_append_of_le_length (by omega), List.take_of_length_le (by omega), List.drop_of_length_le (by rw [List.length_append, l3, length_vb]; simp), List.append_nil, ← vb_append]
  simp
theorem src_nb {w : World} {B n c : Nat} {A : Option Addr} {xs : List Nat} (h : Sh.Nb w B A n c xs) (h0 : 0 < n) : ∃ ad, A = some ad ∧ ∀ j v, (vb xs)[j]? = some v → w.cell? (ad.add j) = some v := by
  obtain ⟨b, off, rfl, _, hc⟩ := h.cell h0
  refine ⟨_, rfl, fun j v hj => ?_⟩
  simp only [vb, List.getElem?_map, Option.map_eq_some_iff] at hj
  obtain ⟨x, hx, rfl⟩ := hj
  have := hc j x hx
  by_cases hj0 : j = 0
  · subst hj0; simpa [Addr.add] using this
  · simpa [Addr.add, hj0] using this
set_option maxHeartbeats 4000000 in
theorem framed_any {w : World} {A1 A2 : Option Addr} {n c m c2 : Nat} {fs ts : List Nat} (h : Sh.Nb w w.heap.size A1 n c fs) (h2 : Sh.Nb w w.heap.size A2 m c2 ts) (hn : n ≤ 1000) (hm : m ≤ 1000) (hn0 : 0 < n) (hm0 : 0 < m) :
    Calls Tryz.prog 97 #[.int .u8 1, .slice A1 n c, .slice A2 m c2] w fun e w' => ∃ g, e = .returned (.slice (some ⟨g, 0, none⟩) (3 + n + m) (3 + n + m)) ∧ w.heap.size ≤ g ∧ Ob w' g (frameN 1 fs ts) ∧ Below w.heap.size w w' := by
  have hr := h.room
  have hrc := h.cap
  have hr2 := h2.room
  have hrc2 := h2.cap
  have hl := h.len
  have hl2 := h2.len
  have hfm := frame_math fs ts
  rw [hl, hl2] at hfm
  have Hfm := Lib.hid hfm
  have Hl := Lib.hid hl
  have Hl2 := Lib.hid hl2
  have Hh := Lib.hid h
  have Hh2 := Lib.hid h2
  clear hfm hl hl2 h h2
  have hs1 : ∀ W, (Instr.sliceAt 23 (.slice (some ⟨w.heap.size, 0, none⟩) (3 + n + m) (3 + n + m)) (some (.int .i64 2)) none none).run Tryz.prog W = .ok (.slice (some ⟨w.heap.size, 2, none⟩) (3 + n + m - 2) (3 + n + m - 2)) W ∨ True := fun W => .inr trivial
  clear hs1
  go_enter Tryz.func97, Tryz.ntmps97
  go_wp2_with (first
    | (refine wpList_make_ub _ rfl _ _ rfl _ _ (3 + n + m) rfl rfl (by omega) (by omega) (by omega) ?_; intro w3 ho3 b3
       have B3 : Below w.heap.size w w3 := (Below.refl _ w).grown b3 (Nat.le_refl _) (fun k hk => by cases hk)
       have c1 : w3.cell? ⟨w.heap.size, 1, none⟩ = some (.int .u8 0) := ho3.cell (j := 1) (x := 0) (by rw [List.getElem?_replicate, if_pos (by omega)])
       have f1 := ho3.frozen 1
)
    | (have hx4 : Ob (w3.setCell ⟨w.heap.size, 1, none⟩ (.int .u8 ((1 : Nat) : Int))) w.heap.size ((List.replicate (3 + n + m) 0).set 1 1) := ho3.set_ 1 1
       have B4 : Below w.heap.size w (w3.setCell ⟨w.heap.size, 1, none⟩ (.int .u8 ((1 : Nat) : Int))) := B3.setCell (by simp) _
       refine wpList_copy_splice rfl (.tmp 19) (.tmp 20) 23 23 rfl 5 Tryz.underlying23 (by kernel_rfl) (some ⟨w.heap.size, 2, none⟩) A1 (3 + n + m - 2) (3 + n + m - 2) n c rfl rfl w.heap.size 2 (vb ((List.replicate (3 + n + m) 0).set 1 1)) 5 hx4 (vb fs) (by rw [length_vb, Hl.out]; simp only [Nat.min_def]; split <;> omega) (fun _ => ⟨rfl, src_nb (Hh.out.below B4) hn0⟩) (by rw [length_vb, length_vb, Hl.out]; simp; omega) (vb_one _) w.heap.size w B4 (Nat.le_refl _) ?_; intro w5 hw5 B5)
    | (refine wpList_copy_splice rfl (.tmp 26) (.tmp 27) 23 23 rfl 5 Tryz.underlying23 (by kernel_rfl) (some ⟨w.heap.size, 3 + n, none⟩) A2 (3 + n + m - (3 + n)) (3 + n + m - (3 + n)) m c2 rfl rfl w.heap.size (3 + n) (splice (vb ((List.replicate (3 + n + m) 0).set 1 1)) 2 (vb fs)) 5 hw5.out (vb ts) (by rw [length_vb, Hl2.out]; simp only [Nat.min_def]; split <;> omega) (fun _ => ⟨rfl, src_nb (Hh2.out.below B5) hm0⟩) (by rw [length_splice _ _ _ (by rw [length_vb, length_vb, Hl.out]; simp; omega), length_vb, length_vb, Hl2.out]; simp) (vb_one _) w.heap.size w B5 (Nat.le_refl _) ?_; intro w6 hw6 B6))
  go_ret
  have hf := hw6.out
  rw [Hfm.out] at hf
  exact ⟨_, rfl, Nat.le_refl _, hf, B6⟩
end Go.Proofs.YthipdagebijbiaaGreatDoor
namespace Go.Proofs.YthipdagebijbiaaGreatDoor
open Go.RowKit
set_option linter.unusedVariables false
set_option maxRecDepth 100000

/-- what is signed of a text -/
def signN (s : Nat) (xs : List Nat) : List Nat := frameN 1 (List.replicate (s - 19) 255) ((Sh.sha xs).take 16)
set_option maxHeartbeats 4000000 in
theorem signed_any {w : World} (hk : Sh.Ks w) {v : Value} {N E D s : Nat} (h : Pr w v N E D) (hs : (bl N + 7) / 8 = s) (hs1 : 20 ≤ s) (hs2 : s ≤ 500) {A : Option Addr} {n c : Nat} {xs : List Nat} (hx : Sh.Nb w w.heap.size A n c xs) (hn : n ≤ 1000) :
    Calls Tryz.prog 64 #[v, .slice A n c] w fun e w' => ∃ g, e = .returned (.slice (some ⟨g, 0, none⟩) s s) ∧ w.heap.size ≤ g ∧ Ob w' g (signN s xs) ∧ Below w.heap.size w w' := by
  have hsz := fun W (k : Pr W v N E D) => size_any k
  rw [hs] at hsz
  have Hsz := Lib.hid hsz
  have Hh := Lib.hid h
  obtain ⟨A1, n1, c1, x1, A3, n3, c3, x3, A4, n4, c4, x4, rfl, _, _, _, _, _, _, _, _, _⟩ := h.ex
  clear hsz h
  obtain ⟨w0, e0⟩ : ∃ w0, w0 = w.alloc (.cells #[Value.slice A1 n1 c1, .slice A3 n3 c3, .slice A4 n4 c4] 30) := ⟨_, rfl⟩
  obtain ⟨hx0, b0⟩ := box_new e0
  have ht := Sh.trunc_in (hk.bel b0) (hx.go b0) (by omega) 16 (by omega)
  have Ht := Lib.hid ht
  clear ht
  have q0 := hx0.c0
  have q1 := hx0.c1
  have q2 := hx0.c2
  go_enter Tryz.func64, Tryz.ntmps64
  go_wp2_with fail
  rw [← e0]
  clear e0
  refine Ht.out.mono ?_
  rintro e w1 ⟨A5, c5, rfl, hN1, b1⟩
  obtain ⟨w2, e2⟩ : ∃ w2, w2 = w1.alloc (.cells #[.int .u8 255] 5) := ⟨_, rfl⟩
  have b2 : Below w1.heap.size w1 w2 := e2 ▸ (Below.refl _ _).alloc (Nat.le_refl _) _
  have c255 : w2.cell? ⟨w1.heap.size, 0, none⟩ = some (.int .u8 255) := by rw [e2]; exact cell_new _ _ _
  have hg2 : w1.heap.size < w2.heap.size := by rw [e2]; simp
  have hy1 := hx0.up b1
  have y0 := hy1.c0
  have y1 := hy1.c1
  have y2 := hy1.c2
  have hz2 := hy1.up b2
  have z0 := hz2.c0
  have z1 := hz2.c1
  have z2 := hz2.c2
  rw [e2] at z0 z1 z2
  have E2 := Lib.hid e2
  clear e2
  go_wp2_with fail
  rw [← E2.out]
  clear E2
  refine (Hsz.out _ (((Hh.out.up b0).up b1).up b2)).mono ?_
  rintro e w3 ⟨rfl, b3⟩
  have h255 := (b3.cell (p := ⟨w1.heap.size, 0, none⟩) hg2).trans c255
  have hg3 : w1.heap.size < w3.heap.size := Nat.lt_of_lt_of_le hg2 b3.size
  have hrep := repeat_any h255 hg3 (s - 19) (by omega) (by omega)
  have es : ((s - 19 : Nat) : Int) = (s : Int) - 3 - 16 := by omega
  rw [es] at hrep
  have Hrep := Lib.hid hrep
  clear hrep es h255 c255
  go_wp2_with fail
  refine Hrep.out.mono ?_
  rintro e w4 ⟨g4, rfl, hN4, b4⟩
  have bA : Below w1.heap.size w1 w4 := bthen (bthen b2 b3) b4
  have hN14 := hN1.go bA
  have B4 := bthen (bthen b0 b1) bA
  go_wp2_with fail
  refine (framed_any hN4.sh hN14 (by omega) (by omega) (by omega) (by omega)).mono ?_
  rintro e w5 ⟨g5, rfl, hg5, ho5, b5⟩
  have B := bthen B4 b5
  have hsz4 := B4.size
  have e3 : 3 + (s - 19) + 16 = s := by omega
  rw [e3]
  go_wp2_with fail
  go_ret
  exact ⟨_, rfl, by omega, ho5, B⟩
set_option maxHeartbeats 4000000 in
theorem work_any {w : World} {v : Value} {N E D s : Nat} (h : Pr w v N E D) (hN0 : 0 < N) (hs : (bl N + 7) / 8 = s) (hs2 : s ≤ 500) {A : Option Addr} {n c pw : Nat} {xs : List Nat} (hp : Nt w w.heap.size A n c xs) (ep : val 18446744073709551616 xs = pw) (lp : n ≤ 100)
    {A2 : Option Addr} {m c2 : Nat} {bs : List Nat} (hb : Nb w w.heap.size A2 m c2 bs) (hm : m ≤ 1000) :
    Calls Tryz.prog 63 #[v, .slice A n c, .slice A2 m c2] w fun e w' => ∃ g, e = .returned (.slice (some ⟨g, 0, none⟩) s s) ∧ w.heap.size ≤ g ∧ Ob w' g (bts (val 256 bs.reverse ^ pw % N) s) ∧ Below w.heap.size w w' := by
  have hsz := fun W (k : Pr W v N E D) => size_any k
  rw [hs] at hsz
  have Hsz := Lib.hid hsz
  have Hh := Lib.hid h
  obtain ⟨A1, n1, c1, x1, A3, n3, c3, x3, A4, n4, c4, x4, rfl, h1', e1, l1, _, _, _, _, _, _⟩ := h.ex
  clear h hsz
  obtain ⟨w0, e0⟩ : ∃ w0, w0 = w.alloc (.cells #[Value.slice A1 n1 c1, .slice A3 n3 c3, .slice A4 n4 c4] 30) := ⟨_, rfl⟩
  obtain ⟨hx0, b0⟩ := box_new e0
  have h1 := (h1'.up b0).drew
  have hp0 := (hp.up b0).drew
  have hb0 := (hb.up b0).dr 1
  have p0 := (Hh.out.up b0).dr 1
  have hyd : Bx w0.drew w.heap.size (.slice A1 n1 c1) (.slice A3 n3 c3) (.slice A4 n4 c4) := ⟨hx0.lt, hx0.c0, hx0.c1, hx0.c2⟩
  have bd : Below w0.heap.size w0 w0.drew := (Below.refl _ _).drew
  have hbl : ∀ t, bl (t % N) ≤ 8 * s := fun t => by
    have h2 := lt_bl N
    have h3 : t % N < 2 ^ (8 * s) := Nat.lt_trans (Nat.mod_lt _ hN0) (Nat.lt_of_lt_of_le h2 (Nat.pow_le_pow_right (by omega) (by omega)))
    exact bl_le h3
  have Hbl := Lib.hid hbl
  have hRv : val 256 bs.reverse < 18446744073709551616 ^ 200 := by
    set_option exponentiation.threshold 70000 in
    have h2 := val_lt (β := 256) (xs := bs.reverse) (fun x hx => hb.lim x (List.mem_reverse.1 hx))
    rw [List.length_reverse, hb.len] at h2
    refine Nat.lt_of_lt_of_le h2 ?_
    rw [show (18446744073709551616 : Nat) = 256 ^ 8 by decide, ← Nat.pow_mul]
    exact Nat.pow_le_pow_right (by omega) (by omega)
  have HRv := Lib.hid hRv
  clear hbl hRv
  go_enter Tryz.func63, Tryz.ntmps63
  go_wp2_with fail
  rw [← e0]
  clear e0
  go_region_held3 (fun w' => w'.cell? ⟨w.heap.size, 0, none⟩ = some (Value.slice A1 n1 c1))
    (first | exact g4.c0 | exact g3.c0 | exact hyd.c0)
    ((first
      | (go_at_call 94; refine (read_any hb0 (by omega)).mono ?_; rintro e w3 ⟨A5, n5, c5, x5, rfl, r5⟩
         have g3 := hyd.up r5.bel
         have v5 := r5.is
         have l5 : n5 ≤ 200 := r5.le HRv.out)
      | (go_at_call 93; refine (mpow_pos r5.nt (hp0.up r5.bel) (h1.up r5.bel) (by omega) (by omega) (by omega) (by rw [e1]; exact hN0)).mono ?_; rintro e w4 ⟨A6, n6, c6, x6, rfl, r6⟩
         rw [v5, ep, e1] at r6
         have g4 := g3.up r6.bel)))
  all_goals
    have B4 := bthen (bthen bd r5.bel) r6.bel
    have p4 := (p0.up r5.bel).up r6.bel
    have z0 := g4.c0
    have z1 := g4.c1
    have z2 := g4.c2
    have v6 := r6.is
    have l6 : n6 ≤ 100 := r6.le (Nat.lt_trans (Nat.mod_lt _ hN0) (by rw [← e1]; exact h1'.below_pow l1))
    obtain ⟨res, hres⟩ : ∃ res, val 256 bs.reverse ^ pw % N = res := ⟨_, rfl⟩
    rw [hres] at v6
    have hblr : bl res ≤ 8 * s := hres ▸ Hbl.out _
    have Hres := Lib.hid hres
    clear hres
    go_wp2_with fail
    refine (Hsz.out _ p4).mono ?_
    rintro e w5 ⟨rfl, b5⟩
    go_wp2_with fail
    refine (write_ok (r6.nt.up b5) (by omega) s _ rfl (by omega) (by rw [v6]; exact hblr)).mono ?_
    rintro e w6 ⟨rfl, ho, b6⟩
    rw [v6, ← Hres.out] at ho
    have B6 := bthen (bthen B4 b5) b6
    have hsz5 := (bthen (bthen b0 B4) b5).size
    go_wp2_with fail
    go_ret
    exact ⟨_, rfl, hsz5, ho, bthen b0 B6⟩
end Go.Proofs.YthipdagebijbiaaGreatDoor
namespace Go.Proofs.YthipdagebijbiaaGreatDoor
open Go.RowKit
set_option linter.unusedVariables false
set_option maxRecDepth 100000

theorem cmp_dec {w : World} {B : Nat} {A A2 : Option Addr} {n c n2 c2 : Nat} {xs ys : List Nat} (h : Nt w B A n c xs) (h2 : Nt w B A2 n2 c2 ys) :
    Calls Tryz.prog 48 #[.slice A n c, .slice A2 n2 c2] w fun e w' => ∃ s : Int, e = .returned (.int .i64 s) ∧ (s < 0 ↔ val 18446744073709551616 xs < val 18446744073709551616 ys) ∧ ∃ d, w' = w.drewN d := by
  rcases Nat.lt_trichotomy (val 18446744073709551616 xs) (val 18446744073709551616 ys) with hv | hv | hv
  · exact (cmp_lt h h2 hv).mono fun e w' ⟨he, hd⟩ => ⟨_, he, by simp [hv], hd⟩
  · exact (cmp_eq h h2 hv).mono fun e w' ⟨he, hd⟩ => ⟨_, he, by simp; omega, hd⟩
  · exact (cmp_gt h h2 hv).mono fun e w' ⟨he, hd⟩ => ⟨_, he, by simp; omega, hd⟩
theorem len_signN {s : Nat} {xs : List Nat} (hs : 27 ≤ s) : (signN s xs).length = s := by
  have h : (Sh.sha xs).length = 32 := Sh.length_sha xs
  simp only [signN, frameN, List.length_cons, List.length_append, List.length_replicate, List.length_take, h]
  omega
theorem lim_signN (s : Nat) (xs : List Nat) : Lim 256 (signN s xs) := by
  intro x hx
  simp only [signN, frameN, List.mem_cons, List.mem_append, List.mem_replicate] at hx
  rcases hx with rfl | rfl | ⟨_, rfl⟩ | rfl | hx
  · omega
  · omega
  · omega
  · omega
  · exact Sh.sha_lim xs x (List.mem_of_mem_take hx)
set_option maxHeartbeats 4000000 in
theorem fits_any {w : World} {v : Value} {N E D s : Nat} (h : Pr w v N E D) (hs : (bl N + 7) / 8 = s) (hs2 : s ≤ 500)
    {A2 : Option Addr} {c2 : Nat} {bs : List Nat} (hb : Nb w w.heap.size A2 s c2 bs) :
    Calls Tryz.prog 65 #[v, .slice A2 s c2] w fun e w' => e = .returned (.bool (decide (val 256 bs.reverse < N))) ∧ Below w.heap.size w w' := by
  have hsz := fun W (k : Pr W v N E D) => size_any k
  rw [hs] at hsz
  have Hsz := Lib.hid hsz
  have Hh := Lib.hid h
  obtain ⟨A1, n1, c1, x1, A3, n3, c3, x3, A4, n4, c4, x4, rfl, h1', e1, l1, _, _, _, _, _, _⟩ := h.ex
  clear h hsz hs
  obtain ⟨w0, e0⟩ : ∃ w0, w0 = w.alloc (.cells #[Value.slice A1 n1 c1, .slice A3 n3 c3, .slice A4 n4 c4] 30) := ⟨_, rfl⟩
  obtain ⟨hx0, b0⟩ := box_new e0
  have h1 := h1'.up b0
  have hb0 := hb.up b0
  have q0 := hx0.c0
  have q1 := hx0.c1
  have q2 := hx0.c2
  clear h1'
  go_enter Tryz.func65, Tryz.ntmps65
  go_wp2_with fail
  rw [← e0]
  clear e0
  have p0 := (Hh.out.up b0).dr 1
  have hb1 := hb0.dr 1
  have h1d := h1.drew
  have hyd : Bx w0.drew w.heap.size (.slice A1 n1 c1) (.slice A3 n3 c3) (.slice A4 n4 c4) := ⟨hx0.lt, hx0.c0, hx0.c1, hx0.c2⟩
  have bd : Below w0.heap.size w0 w0.drew := (Below.refl _ _).drew
  have z0 := hyd.c0
  have z1 := hyd.c1
  have z2 := hyd.c2
  go_region_with ((first
      | (go_at_call 62; refine (Hsz.out _ p0).mono ?_; rintro e w3 ⟨rfl, b3⟩
         have g3 := hyd.up b3
         have g30 := g3.c0
         have g31 := g3.c1
         have g32 := g3.c2)
      | (go_at_call 94; refine (read_any (hb1.up b3) (by omega)).mono ?_; rintro e w4 ⟨A5, n5, c5, x5, rfl, r5⟩
         have v5 := r5.is
         have g4 := g3.up r5.bel
         have g40 := g4.c0
         have g41 := g4.c1
         have g42 := g4.c2)
      | (go_at_call 48; refine (cmp_dec r5.nt ((h1d.up b3).up r5.bel)).mono ?_; rintro e w5 ⟨cs, rfl, hcs, d5, rfl⟩
         rw [v5, e1] at hcs
         have hdc : decide (cs < 0) = decide (val 256 bs.reverse < N) := by simp [hcs]
         have Hdc := Lib.hid hdc
         clear hdc hcs)))
  all_goals
    have B := bdr (bthen (bthen bd b3) r5.bel) d5
    go_wp2_with fail
    go_ret
    rw [Hdc.out]
    exact ⟨rfl, bthen b0 B⟩
set_option maxHeartbeats 4000000 in
theorem sign_ok {w : World} (hk : Sh.Ks w) {v : Value} {N E D s : Nat} (h : Pr w v N E D) (hN2 : N % 2 = 1) (hb1 : 16 ≤ bl N) (hb2 : bl N ≤ 1024) (hE2 : E % 2 = 1) (hE : 1 < E) (hEN : E < N) (hDN : D < N) (hD : 0 < D)
    (hs : (bl N + 7) / 8 = s) (hs1 : 27 ≤ s) {A : Option Addr} {n c : Nat} {xs : List Nat} (hx : Sh.Nb w w.heap.size A n c xs) (hn : n ≤ 1000) :
    Calls Tryz.prog 28 #[v, .slice A n c] w fun e w' => ∃ g, e = .returned (.tuple #[.slice (some ⟨g, 0, none⟩) s s, .int .i64 0]) ∧ w.heap.size ≤ g ∧ Ob w' g (bts (val 256 (signN s xs).reverse ^ D % N) s) ∧ Below w.heap.size w w' := by
  have hs2 : s ≤ 200 := by omega
  have hr := fun W (k : Pr W v N E D) => secret_any k hN2 hb1 hb2 hE2 hE hEN hDN hD
  have hsz := fun W (k : Pr W v N E D) => size_any k
  rw [hs] at hsz
  have hsg := fun W (k : Pr W v N E D) (kk : Sh.Ks W) {A n c} (kx : Sh.Nb W W.heap.size A n c xs) (kn : n ≤ 1000) => signed_any kk k hs (by omega) (by omega) kx kn
  have hN0 : 0 < N := by omega
  have hwk := fun W (k : Pr W v N E D) {A n c pw xs} (kp : Nt W W.heap.size A n c xs) (ep : val 18446744073709551616 xs = pw) (lp : n ≤ 100) {A2 m c2 bs} (kb : Nb W W.heap.size A2 m c2 bs) (km : m ≤ 1000) => work_any k hN0 hs (by omega) kp ep lp kb km
  have Hr := Lib.hid hr
  have Hsz := Lib.hid hsz
  have Hh := Lib.hid h
  have Hsg := Lib.hid hsg
  have Hwk := Lib.hid hwk
  obtain ⟨A1, n1, c1, x1, A2, n2, c2, x2, A3, n3, c3, x3, rfl, h1', e1, l1, h2', e2, l2, h3', e3, l3⟩ := h.ex
  clear h hr hsz hsg hwk
  obtain ⟨w0, e0⟩ : ∃ w0, w0 = w.alloc (.cells #[Value.slice A1 n1 c1, .slice A2 n2 c2, .slice A3 n3 c3] 30) := ⟨_, rfl⟩
  obtain ⟨hx0, b0⟩ := box_new e0
  have q0 := hx0.c0
  have q1 := hx0.c1
  have q2 := hx0.c2
  have h3 := h3'.up b0
  have hx1 := hx.go b0
  have hk1 := hk.bel b0
  clear h1' h2' h3' hb1 hb2 hs
  go_enter Tryz.func28, Tryz.ntmps28
  go_wp2_with fail
  rw [← e0]
  clear e0
  refine (Hr.out _ (Hh.out.up b0)).mono ?_
  rintro e w2 ⟨rfl, b2⟩
  have hy := hx0.up b2
  have y0 := hy.c0
  have y1 := hy.c1
  have y2 := hy.c2
  go_wp2_with fail
  refine (Hsz.out _ ((Hh.out.up b0).up b2)).mono ?_
  rintro e w3 ⟨rfl, b3⟩
  go_wp2_with fail
  have bD : Below w3.heap.size w3 w3.drew := (Below.refl _ _).drew
  have B3 := bthen (bthen b2 b3) bD
  have hz := hx0.up B3
  have z0 := hz.c0
  have z1 := hz.c1
  have z2 := hz.c2
  have h3d := h3.up B3
  have p3 := (Hh.out.up b0).up B3
  have kk3 := hk1.bel B3
  have hx3 := hx1.go B3
  go_region_with ((first
      | (go_at_call 64; refine (Hsg.out _ p3 kk3 hx3 (by omega)).mono ?_; rintro e w4 ⟨g4, rfl, hg4, ho4, b4⟩
         have y := hz.up b4
         have y0 := y.c0
         have y1 := y.c1
         have y2 := y.c2)
      | (go_at_call 63; refine (Hwk.out _ (p3.up b4) (h3d.up b4) e3 l3 (ho4.nb (len_signN hs1) (show s ≤ maxLen by unfold maxLen; omega) (lim_signN s xs)) (by omega)).mono ?_; rintro e w5 ⟨g5, rfl, hg5, ho5, b5⟩)))
  all_goals
    have B := bthen (bthen B3 b4) b5
    go_wp2_with fail
    go_ret2
    exact ⟨_, rfl, by have := b0.size; have := B3.size; have := b4.size; omega, ho5, bthen b0 B⟩
end Go.Proofs.YthipdagebijbiaaGreatDoor
namespace Go.Proofs.YthipdagebijbiaaGreatDoor
open Go.RowKit
set_option linter.unusedVariables false
set_option maxRecDepth 100000

set_option maxHeartbeats 8000000 in
theorem verify_any {w : World} (hk : Sh.Ks w) {v : Value} {N E D s : Nat} (h : Pr w v N E D) (hN2 : N % 2 = 1) (hb1 : 16 ≤ bl N) (hb2 : bl N ≤ 1024) (hE2 : E % 2 = 1) (hE : 1 < E) (hEN : E < N) (hDN : D < N)
    (hs : (bl N + 7) / 8 = s) (hs1 : 27 ≤ s) {A : Option Addr} {n c : Nat} {xs : List Nat} (hx : Sh.Nb w w.heap.size A n c xs) (hn : n ≤ 1000) {A4 : Option Addr} {c4 : Nat} {bs : List Nat} (hb : Nb w w.heap.size A4 s c4 bs) :
    Calls Tryz.prog 30 #[v, .slice A n c, .slice A4 s c4] w fun e w' => e = .returned (.bool (decide (val 256 bs.reverse < N) && ((bstr (bts (val 256 bs.reverse ^ E % N) s)).toList == (bstr (signN s xs)).toList))) ∧ Below w.heap.size w w' := by
  have hs2 : s ≤ 200 := by omega
  have hr := fun W (k : Pr W v N E D) => kright_any k hN2 hb1 hb2 hE2 hE hEN hDN
  have hsz := fun W (k : Pr W v N E D) => size_any k
  rw [hs] at hsz
  have hft := fun W (k : Pr W v N E D) {A c bs} (kb : Nb W W.heap.size A s c bs) => fits_any k hs (by omega) kb
  have hsg := fun W (k : Pr W v N E D) (kk : Sh.Ks W) {A n c} (kx : Sh.Nb W W.heap.size A n c xs) (kn : n ≤ 1000) => signed_any kk k hs (by omega) (by omega) kx kn
  have hN0 : 0 < N := by omega
  have hwk := fun W (k : Pr W v N E D) {A n c pw xs} (kp : Nt W W.heap.size A n c xs) (ep : val 18446744073709551616 xs = pw) (lp : n ≤ 100) {A2 m c2 bs} (kb : Nb W W.heap.size A2 m c2 bs) (km : m ≤ 1000) => work_any k hN0 hs (by omega) kp ep lp kb km
  have Hr := Lib.hid hr
  have Hsz := Lib.hid hsz
  have Hft := Lib.hid hft
  have Hh := Lib.hid h
  have Hsg := Lib.hid hsg
  have Hwk := Lib.hid hwk
  obtain ⟨A1, n1, c1, x1, A2, n2, c2, x2, A3, n3, c3, x3, rfl, h1', e1, l1, h2', e2, l2, h3', e3, l3⟩ := h.ex
  clear h hr hsz hsg hwk hft
  obtain ⟨w0, e0⟩ : ∃ w0, w0 = w.alloc (.cells #[Value.slice A1 n1 c1, .slice A2 n2 c2, .slice A3 n3 c3] 30) := ⟨_, rfl⟩
  obtain ⟨hx0, b0⟩ := box_new e0
  have q0 := hx0.c0
  have q1 := hx0.c1
  have q2 := hx0.c2
  have h2 := h2'.up b0
  have hx1 := hx.go b0
  have hk1 := hk.bel b0
  have hb0 := hb.up b0
  clear h1' h2' h3' hb1 hb2 hs
  obtain ⟨res, hres⟩ : ∃ res, (decide (val 256 bs.reverse < N) && ((bstr (bts (val 256 bs.reverse ^ E % N) s)).toList == (bstr (signN s xs)).toList)) = res := ⟨_, rfl⟩
  rw [hres]
  have Hres := Lib.hid hres
  clear hres
  go_enter Tryz.func30, Tryz.ntmps30
  go_wp2_with fail
  rw [← e0]
  clear e0
  refine (Hr.out _ (Hh.out.up b0)).mono ?_
  rintro e w2 ⟨rfl, b2⟩
  have hy := hx0.up b2
  have y0 := hy.c0
  have y1 := hy.c1
  have y2 := hy.c2
  go_wp2_with fail
  refine (Hsz.out _ ((Hh.out.up b0).up b2)).mono ?_
  rintro e w3 ⟨rfl, b3⟩
  have hz := hy.up b3
  have z0 := hz.c0
  have z1 := hz.c1
  have z2 := hz.c2
  go_wp2_with fail
  have hb3 := (hb0.up b2).up b3
  have hfit := Hft.out _ (((Hh.out.up b0).up b2).up b3) hb3
  by_cases hS : val 256 bs.reverse < N
  · rw [decide_eq_true hS] at hfit
    have Hfit := Lib.hid hfit
    have HS := Lib.hid hS
    clear hfit hS
    refine Hfit.out.mono ?_
    rintro e w4 ⟨rfl, b4⟩
    have bD : Below w4.heap.size w4 w4.drew := (Below.refl _ _).drew
    have B4 := bthen (bthen (bthen b2 b3) b4) bD
    have g := hx0.up B4
    have g0 := g.c0
    have g1 := g.c1
    have g2 := g.c2
    have p4 := (Hh.out.up b0).up B4
    have h24 := h2.up B4
    have kk4 := hk1.bel B4
    have hx4 := hx1.go B4
    have hb4 := hb0.up B4
    have G := hx0.up (bthen (bthen b2 b3) b4)
    have G0 := G.c0
    have G1 := G.c1
    have G2 := G.c2
    go_wp2_with fail
    go_region_with ((first
      | (go_at_call 63; refine (Hwk.out _ p4 h24 e2 l2 hb4 (by omega)).mono ?_; rintro e w5 ⟨g5, rfl, hg5, ho5, b5⟩
         have j := g.up b5
         have j0 := j.c0
         have j1 := j.c1
         have j2 := j.c2)
      | (go_at_call 64; refine (Hsg.out _ (p4.up b5) (kk4.bel b5) (hx4.go b5) (by omega)).mono ?_; rintro e w6 ⟨g6, rfl, hg6, ho6, b6⟩
         have y := j.up b6
         have y0 := y.c0
         have y1 := y.c1
         have y2 := y.c2
         have N5 := ((ho5.nb (length_bts _ _) (show s ≤ maxLen by unfold maxLen; omega) (lim_bts _ _)).up b6).sh
         have N6 := (ho6.nb (len_signN hs1) (show s ≤ maxLen by unfold maxLen; omega) (lim_signN s xs)).sh
         have heq := equal_any N5 N6
         have Heq := Lib.hid heq
         clear heq)
      | (go_at_call 66; refine Heq.out.mono ?_; rintro e w7 ⟨rfl, rfl⟩)))
    all_goals
      have B := bthen (bthen B4 b5) b6
      go_wp2_with fail
      go_ret
      have hres := Hres.out
      rw [decide_eq_true HS.out, Bool.true_and] at hres
      rw [hres]
      exact ⟨rfl, bthen b0 B⟩
  · rw [decide_eq_false hS] at hfit
    have Hfit := Lib.hid hfit
    have HS := Lib.hid hS
    clear hfit hS
    refine Hfit.out.mono ?_
    rintro e w4 ⟨rfl, b4⟩
    go_wp2_with fail
    go_ret
    have hres := Hres.out
    rw [decide_eq_false HS.out, Bool.false_and] at hres
    rw [← hres]
    exact ⟨rfl, bthen b0 (bthen (bthen b2 b3) b4)⟩
end Go.Proofs.YthipdagebijbiaaGreatDoor
namespace Go.Proofs.YthipdagebijbiaaGreatDoor
open Go.RowKit
set_option linter.unusedVariables false
set_option maxRecDepth 100000

set_option maxHeartbeats 1000000 in
theorem copied_any {w : World} {A : Option Addr} {n c : Nat} {xs : List Nat} (h : Nt w w.heap.size A n c xs) (hn : n ≤ 1000) :
    Calls Tryz.prog 31 #[.slice A n c] w fun e w' => ∃ A5, e = .returned (.slice A5 n n) ∧ Nt w' w'.heap.size A5 n n xs ∧ Below w.heap.size w w' := by
  have hr := h.rooms
  go_enter Tryz.func31, Tryz.ntmps31
  go_wp2_with (first
    | (refine wpList_make_us _ rfl _ _ rfl _ _ n rfl rfl (by omega) (by omega) (by omega) ?_; intro w1 hw1 hg1)
    | (refine wpList_copy_us rfl _ _ rfl rfl rfl hw1 (by simp) (h.below (below_none hg1 (Nat.le_refl _))) (by omega) ?_; intro w2 hw2 hg2))
  go_ret
  have hb := (below_none hg1 (Nat.le_refl _)).grown hg2 hg1.size (fun k hk => by cases hk; exact Nat.le_refl _)
  rw [List.drop_replicate, Nat.sub_self, List.replicate_zero, List.append_nil] at hw2
  exact ⟨_, rfl, (hw2.whole (by rw [h.len]; unfold maxLen; omega) h.lim h.len.symm).more hw2.lt, hb⟩
set_option maxHeartbeats 4000000 in
theorem public_any {w : World} {v : Value} {N E D : Nat} (h : Pr w v N E D) :
    Calls Tryz.prog 10 #[v] w fun e w' => ∃ v', e = .returned v' ∧ Pr w' v' N E 0 ∧ Below w.heap.size w w' := by
  obtain ⟨A1, n1, c1, x1, A2, n2, c2, x2, A3, n3, c3, x3, rfl, h1', e1, l1, h2', e2, l2, h3', e3, l3⟩ := h.ex
  clear h
  obtain ⟨w0, e0⟩ : ∃ w0, w0 = w.alloc (.cells #[Value.slice A1 n1 c1, .slice A2 n2 c2, .slice A3 n3 c3] 30) := ⟨_, rfl⟩
  obtain ⟨hx0, b0⟩ := box_new e0
  have hsz : w0.heap.size = w.heap.size + 1 := by rw [e0]; simp
  obtain ⟨wz, ez⟩ : ∃ wz, wz = w0.alloc (.cells #[Value.slice none 0 0, .slice none 0 0, .slice none 0 0] 30) := ⟨_, rfl⟩
  have hz0 : wz.heap[w.heap.size + 1]? = some (.cells #[Value.slice none 0 0, .slice none 0 0, .slice none 0 0] 30 (0, 0)) := by rw [ez, ← hsz]; exact heap_alloc_new w0 _
  have hzs : w.heap.size + 1 < wz.heap.size := by rw [ez]; simp [hsz]
  have bz : Below w0.heap.size w0 wz := ez ▸ (Below.refl _ w0).alloc (Nat.le_refl _) _
  have bd : Below wz.heap.size wz wz.drew := (Below.refl _ _).drew
  have h1 := ((h1'.up b0).up bz).drew
  have h2 := ((h2'.up b0).up bz).drew
  have hy := hx0.up bz
  have hyd : Bx wz.drew w.heap.size (.slice A1 n1 c1) (.slice A2 n2 c2) (.slice A3 n3 c3) := ⟨hy.lt, hy.c0, hy.c1, hy.c2⟩
  have z0 := hyd.c0
  have z1 := hyd.c1
  clear h1' h2' h3' hx0 hy
  go_enter Tryz.func10, Tryz.ntmps10
  go_wp2_with fail
  rw [← e0]
  clear e0
  rw [← ez]
  clear ez
  go_region_with ((first
      | (go_at_call 31; with_reducible refine (copied_any h1 (by omega)).mono ?_; rintro e w3 ⟨A5, rfl, m3, b3⟩
         have g3 := hyd.up b3
         have g30 := g3.c0
         have g31 := g3.c1)
      | (go_at_call 31; with_reducible refine (copied_any (h2.up b3) (by omega)).mono ?_; rintro e w4 ⟨A6, rfl, m4, b4⟩
         have B4 := bthen (bthen bd b3) b4
         have hx := (B4.block (w.heap.size + 1) hzs).trans hz0
         have g4 := g3.up b4
         have g40 := g4.c0
         have g41 := g4.c1
         obtain ⟨q0, q1, q2, q3, q4, q5⟩ := three_cells hx)))
  all_goals
    go_wp2_with fail
    refine bodyPost_ret (results_cell_row rfl _ _ (w.heap.size + 1) 30 _ (0, 0) _ rfl (three_fin hx) Tryz.underlying30 rfl (by kernel_rfl)) rfl ?_
    have hb := (((bthen b0 (bthen bz B4)).setCell (p := ⟨w.heap.size + 1, 0, none⟩) (by simp) (.slice A5 n1 n1)).setCell (p := ⟨w.heap.size + 1, 1, none⟩) (by simp) (.slice A6 n2 n2)).setCell (p := ⟨w.heap.size + 1, 2, none⟩) (by simp) (.slice none 0 0)
    exact ⟨_, rfl, ⟨_, _, _, _, _, _, _, _, _, _, _, _, rfl, (m3.up b4).away3 (B := 0) ((m3.up b4).not_in hx), e1, l1, m4.away3 (B := 0) (m4.not_in hx), e2, l2, nt_nil _ _, rfl, by omega⟩, hb⟩
end Go.Proofs.YthipdagebijbiaaGreatDoor
namespace Go.Proofs.YthipdagebijbiaaGreatDoor
open Go.RowKit
set_option linter.unusedVariables false
set_option maxRecDepth 100000

theorem bts_mod (v : Nat) : ∀ n, val 256 (bts v n).reverse = v % 256 ^ n
  | 0 => by simp [bts, val, Nat.mod_one]
  | n + 1 => by
    rw [bts, List.reverse_cons, val_append, bts_mod v n, List.length_reverse, length_bts]
    simp only [val, Nat.mul_zero, Nat.add_zero]
    rw [Nat.pow_succ, Nat.mod_mul]
theorem bts_back {v n : Nat} (h : v < 256 ^ n) : val 256 (bts v n).reverse = v := by rw [bts_mod, Nat.mod_eq_of_lt h]
theorem bts_val : ∀ (l : List Nat), Lim 256 l → bts (val 256 l.reverse) l.length = l
  | [], _ => rfl
  | x :: l, h => by
    have hx : x < 256 := h x (by simp)
    have hl : Lim 256 l := fun y hy => h y (List.mem_cons_of_mem _ hy)
    have hlt : val 256 l.reverse < 256 ^ l.length := by
      have := val_lt (β := 256) (xs := l.reverse) (fun y hy => hl y (List.mem_reverse.1 hy))
      rwa [List.length_reverse] at this
    have e : val 256 (x :: l).reverse = val 256 l.reverse + 256 ^ l.length * x := by
      rw [List.reverse_cons, val_append, List.length_reverse]
      simp [val]
    rw [e, List.length_cons, bts]
    have h1 : (val 256 l.reverse + 256 ^ l.length * x) / 256 ^ l.length % 256 = x := by
      rw [Nat.add_mul_div_left _ _ (Nat.pow_pos (by omega)), Nat.div_eq_of_lt hlt, Nat.zero_add, Nat.mod_eq_of_lt hx]
    have h2 : ∀ (a b n : Nat), a % 256 ^ n = b % 256 ^ n → bts a n = bts b n := by
      intro a b n
      induction n with
      | zero => intro _; rfl
      | succ n ih =>
        intro hab
        rw [bts, bts]
        have h3 : a / 256 ^ n % 256 = b / 256 ^ n % 256 := by
          have ha := Nat.mod_mul_right_div_self a (256 ^ n) 256
          have hb := Nat.mod_mul_right_div_self b (256 ^ n) 256
          rw [Nat.pow_succ] at hab
          rw [← ha, ← hb, hab]
        have h4 : a % 256 ^ n = b % 256 ^ n := by
          have := congrArg (· % 256 ^ n) hab
          simp only [Nat.pow_succ] at this
          rwa [Nat.mod_mul_right_mod, Nat.mod_mul_right_mod] at this
        rw [h3, ih h4]
    rw [h1, h2 _ (val 256 l.reverse) l.length (by rw [Nat.add_mul_mod_self_left]), bts_val l hl]
theorem val_inj {a b : List Nat} (ha : Lim 256 a) (hb : Lim 256 b) (hl : a.length = b.length) (h : val 256 a.reverse = val 256 b.reverse) : a = b := by
  rw [← bts_val a ha, ← bts_val b hb, h, hl]
/-- the texts of bytes say which they are -/
theorem bstr_inj {a b : List Nat} (ha : Lim 256 a) (hb : Lim 256 b) (h : (bstr a).toList = (bstr b).toList) : a = b := by
  unfold bstr at h
  rw [Lib.strOfNums_toList, Lib.strOfNums_toList] at h
  have back : ∀ l : List Nat, Lim 256 l → (Lib.bytesOf (l.map fun x : Nat => (x : Int))).map (fun u => u.toNat) = l := by
    intro l hl
    induction l with
    | nil => rfl
    | cons x l ih =>
      have hx := hl x (by simp)
      simp only [Lib.bytesOf, List.map_cons, List.map_map] at ih ⊢
      rw [ih (fun y hy => hl y (List.mem_cons_of_mem _ hy))]
      congr 1
      simp only [Int.toNat_natCast, UInt8.toNat_ofNat']
      omega
  rw [← back a ha, ← back b hb, h]
theorem frame_lt (s : Nat) (hs : 27 ≤ s) (xs : List Nat) : val 256 (signN s xs).reverse < 2 * 256 ^ (s - 2) := by
  have hL := lim_signN s xs
  have hlen := len_signN (xs := xs) hs
  obtain ⟨r, hr⟩ : ∃ r, signN s xs = 0 :: 1 :: r := ⟨_, rfl⟩
  rw [hr] at hL hlen ⊢
  have hl : r.length = s - 2 := by simp at hlen; omega
  have hlt : val 256 r.reverse < 256 ^ (s - 2) := by
    have := val_lt (β := 256) (xs := r.reverse) (fun y hy => hL y (List.mem_cons_of_mem _ (List.mem_cons_of_mem _ (List.mem_reverse.1 hy))))
    rwa [List.length_reverse, hl] at this
  have e : val 256 (0 :: 1 :: r).reverse = val 256 r.reverse + 256 ^ (s - 2) := by
    rw [List.reverse_cons, List.reverse_cons, val_append, val_append]
    simp [val, hl]
  rw [e]; omega
def Known (p q : Nat) : Prop := p = 2 ^ 127 - 1 ∧ q = 2 ^ 107 - 1 ∨ p = 2 ^ 89 - 1 ∧ q = 2 ^ 127 - 1
theorem known_facts {p q : Nat} (h : Known p q) : p * q % 2 = 1 ∧ 16 ≤ bl (p * q) ∧ bl (p * q) ≤ 1024 ∧ 65537 < p * q ∧ (p - 1) * (q - 1) ≤ p * q ∧ 1 < (p - 1) * (q - 1) ∧
    27 ≤ (bl (p * q) + 7) / 8 ∧ (bl (p * q) + 7) / 8 ≤ 30 ∧ 2 * 256 ^ ((bl (p * q) + 7) / 8 - 2) ≤ p * q ∧ p * q ≤ 256 ^ ((bl (p * q) + 7) / 8) := by
  rcases h with ⟨h1, h2⟩ | ⟨h1, h2⟩ <;> (rw [h1, h2]; decide +kernel)
theorem known_undo {p q d : Nat} (h : Known p q) (hd : 65537 * d % ((p - 1) * (q - 1)) = 1) (r : Nat) :
    (r ^ 65537 % (p * q)) ^ d % (p * q) = r % (p * q) ∧ (r ^ d % (p * q)) ^ 65537 % (p * q) = r % (p * q) := by
  have hp : Prm p := by
    rcases h with ⟨h, _⟩ | ⟨h, _⟩ <;> rw [h]
    · exact prm_m127
    · exact prm_m89
  have hq : Prm q := by
    rcases h with ⟨_, h⟩ | ⟨_, h⟩ <;> rw [h]
    · exact prm_m107
    · exact prm_m127
  have hne : p ≠ q := by
    rcases h with ⟨h1, h2⟩ | ⟨h1, h2⟩ <;> (rw [h1, h2]; decide)
  exact ⟨euler2 hp hq hne hd r, euler2 (e := d) (d := 65537) hp hq hne (by rw [Nat.mul_comm d]; exact hd) r⟩
end Go.Proofs.YthipdagebijbiaaGreatDoor
namespace Go.Proofs.YthipdagebijbiaaGreatDoor
open Go.RowKit
set_option linter.unusedVariables false
set_option maxRecDepth 100000
set_option exponentiation.threshold 70000

/-- Verify's answer over a signature's bytes -/
def verB (M s : Nat) (xs bs : List Nat) : Bool := decide (val 256 bs.reverse < M) && ((bstr (bts (val 256 bs.reverse ^ 65537 % M) s)).toList == (bstr (signN s xs)).toList)
theorem sig_facts {M d s : Nat} {xs : List Nat} (f7 : 27 ≤ s) (f9 : 2 * 256 ^ (s - 2) ≤ M) (f10 : M ≤ 256 ^ s) :
    val 256 (signN s xs).reverse < M ∧ val 256 (bts (val 256 (signN s xs).reverse ^ d % M) s).reverse = val 256 (signN s xs).reverse ^ d % M ∧ val 256 (signN s xs).reverse ^ d % M < M := by
  have h1 := frame_lt s f7 xs
  have h2 : val 256 (signN s xs).reverse < M := Nat.lt_of_lt_of_le h1 f9
  have h3 : val 256 (signN s xs).reverse ^ d % M < M := Nat.mod_lt _ (by omega)
  exact ⟨h2, bts_back (Nat.lt_of_lt_of_le h3 f10), h3⟩
theorem ver_same {M d s : Nat} {xs ys : List Nat} (f7 : 27 ≤ s) (f9 : 2 * 256 ^ (s - 2) ≤ M) (f10 : M ≤ 256 ^ s) (hund : ∀ r : Nat, (r ^ 65537 % M) ^ d % M = r % M ∧ (r ^ d % M) ^ 65537 % M = r % M) :
    verB M s ys (bts (val 256 (signN s xs).reverse ^ d % M) s) = ((bstr (signN s xs)).toList == (bstr (signN s ys)).toList) := by
  obtain ⟨h1, h2, h3⟩ := sig_facts (d := d) (xs := xs) f7 f9 f10
  unfold verB
  rw [h2, decide_eq_true h3, Bool.true_and, (hund _).2, Nat.mod_eq_of_lt h1]
  have := bts_val (signN s xs) (lim_signN s xs)
  rw [len_signN f7] at this
  rw [this]
theorem ver_bad {M d s j x : Nat} {xs : List Nat} (f7 : 27 ≤ s) (f9 : 2 * 256 ^ (s - 2) ≤ M) (f10 : M ≤ 256 ^ s) (hund : ∀ r : Nat, (r ^ 65537 % M) ^ d % M = r % M ∧ (r ^ d % M) ^ 65537 % M = r % M)
    (hj : j < s) (hx : x < 256) (hne : (bts (val 256 (signN s xs).reverse ^ d % M) s)[j]? ≠ some x) :
    verB M s xs ((bts (val 256 (signN s xs).reverse ^ d % M) s).set j x) = false := by
  obtain ⟨h1, h2, h3⟩ := sig_facts (d := d) (xs := xs) f7 f9 f10
  obtain ⟨Sg, hSg⟩ : ∃ v, val 256 (signN s xs).reverse ^ d % M = v := ⟨_, rfl⟩
  obtain ⟨F, hF⟩ : ∃ F, signN s xs = F := ⟨_, rfl⟩
  have hlF := len_signN (xs := xs) f7
  have hLF := lim_signN s xs
  have hu := (hund (val 256 ((bts Sg s).set j x).reverse)).1
  rw [hF] at hSg hlF hLF h1 h2 h3 hne ⊢
  rw [hSg] at h2 h3 hne ⊢
  unfold verB
  by_cases hlt : val 256 ((bts Sg s).set j x).reverse < M
  · rw [decide_eq_true hlt, Bool.true_and, Bool.eq_false_iff]
    intro hc
    have he := bstr_inj (lim_bts _ _) (lim_signN s xs) (by simpa using hc)
    rw [hF] at he
    have hr : val 256 ((bts Sg s).set j x).reverse ^ 65537 % M < 256 ^ s := Nat.lt_of_lt_of_le (Nat.mod_lt _ (by omega)) f10
    have hv := bts_back hr
    rw [he] at hv
    rw [← hv, hSg, Nat.mod_eq_of_lt hlt] at hu
    have hL' : Lim 256 ((bts Sg s).set j x) := by
      intro y hy
      rcases List.mem_or_eq_of_mem_set hy with h | h
      · exact lim_bts _ _ y h
      · rw [h]; exact hx
    have := val_inj (lim_bts Sg s) hL' (by simp) (by rw [h2]; exact hu)
    apply hne
    rw [this, List.getElem?_set_self (by rw [length_bts]; exact hj)]
  · rw [decide_eq_false hlt, Bool.false_and]
theorem sign_mark {s : Nat} {xs ys : List Nat} : ((bstr (signN s xs)).toList == (bstr (signN s ys)).toList) = decide ((Sh.sha xs).take 16 = (Sh.sha ys).take 16) := by
  rw [Bool.eq_iff_iff]
  simp only [beq_iff_eq, decide_eq_true_eq]
  constructor
  · intro h
    have := bstr_inj (lim_signN s xs) (lim_signN s ys) h
    simpa [signN, frameN] using this
  · intro h
    simp only [signN, h]
end Go.Proofs.YthipdagebijbiaaGreatDoor
