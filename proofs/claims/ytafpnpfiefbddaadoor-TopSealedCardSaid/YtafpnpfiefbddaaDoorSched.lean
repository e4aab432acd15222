/- sha.schedule: a block's words. -/
import Derived.Test.YtafpnpfiefbddaaDoorArr
import Derived.LoopTactic
import Derived.StillTailTactics
import Derived.Deep.RegionWith
import Derived.OneCell
import Derived.RegionTactic
import Derived.IntWalk
namespace Go.Proofs.YtafpnpfiefbddaaDoor
set_option linter.unusedSimpArgs false
set_option linter.unusedVariables false
open Go.RowKit
set_option linter.unusedVariables false
attribute [local go_sem] bits_wx bits_wa bits_wo bits_wn add_ad wrap_ad mul_up div_dn div_8 div_1024

/-- the values of a row of words -/
def wv (xs : List Nat) : List Value := xs.map fun x : Nat => .int .u32 (x : Int)
theorem length_wv (xs : List Nat) : (wv xs).length = xs.length := by simp [wv]
theorem wv_one (xs : List Nat) : ∀ v ∈ wv xs, v.oneCell' = true := by
  intro v hv
  simp only [wv, List.mem_map] at hv
  obtain ⟨x, _, rfl⟩ := hv
  rfl
/-- block g is just the words xs, of an array type t -/
def Wb (w : World) (g t : Nat) (xs : List Nat) : Prop := w.heap[g]? = some (.cells (wv xs).toArray t (0, 0))
theorem Wb.lt {w : World} {g t : Nat} {xs : List Nat} (h : Wb w g t xs) : g < w.heap.size := by
  rcases Nat.lt_or_ge g w.heap.size with hlt | hge
  · exact hlt
  · unfold Wb at h; rw [Array.getElem?_eq_none hge] at h; cases h
theorem Wb.cell {w : World} {g t : Nat} {xs : List Nat} (h : Wb w g t xs) {j : Nat} (hj : j < xs.length) : w.cell? ⟨g, j, none⟩ = some (.int .u32 ((xs.getD j 0 : Nat) : Int)) := by
  rw [cell_of_row w g j (wv xs).toArray t (0, 0) h]
  simp [wv, List.getD, List.getElem?_eq_getElem hj]
theorem Wb.frozen {w : World} {g t : Nat} {xs : List Nat} (h : Wb w g t xs) (j : Nat) : w.frozen? ⟨g, j, none⟩ = false := by
  unfold Wb at h
  simp [World.frozen?, h]
theorem Wb.set_ {w : World} {g t : Nat} {xs : List Nat} (h : Wb w g t xs) (j x : Nat) : Wb (w.setCell ⟨g, j, none⟩ (.int .u32 (x : Int))) g t (xs.set j x) := by
  unfold Wb at h ⊢
  simp [World.setCell, Array.getElem?_modify, h, wv]
theorem Wb.drewN {w : World} {g t : Nat} {xs : List Nat} (h : Wb w g t xs) (n : Nat) : Wb (w.drewN n) g t xs := h
theorem Wb.drew {w : World} {g t : Nat} {xs : List Nat} (h : Wb w g t xs) : Wb w.drew g t xs := h
theorem Wb.alloc {w : World} {g t : Nat} {xs : List Nat} (h : Wb w g t xs) (o : Obj) : Wb (w.alloc o) g t xs := (Below.heap_alloc w o g h.lt).trans h
theorem Wb.below {w w' : World} {B g t : Nat} {xs : List Nat} (h : Wb w g t xs) (hb : Below B w w') (hg : g < B) : Wb w' g t xs := (hb.block g hg).trans h
theorem Wb.other {w : World} {g t : Nat} {xs : List Nat} (h : Wb w g t xs) {p : Addr} (hp : p.block ≠ g) (v : Value) : Wb (w.setCell p v) g t xs := (Below.heap_setCell w p v g (fun e => hp e.symm)).trans h

theorem below_drewN {B : Nat} {a w : World} (h : Below B a w) (n : Nat) : Below B a (w.drewN n) := ⟨h.os, h.tape, h.output, h.size, h.block⟩
theorem below_drew {B : Nat} {a w : World} (h : Below B a w) : Below B a w.drew := ⟨h.os, h.tape, h.output, h.size, h.block⟩

/-- a part of a row of bytes -/
theorem Nb.part {w : World} {B n c : Nat} {A : Option Addr} {xs : List Nat} (h : Nb w B A n c xs) {b off : Nat} (hA : A = some ⟨b, off, none⟩) (k m c' : Nat) (hk : k + m ≤ n) (hc : m ≤ c') (hc' : c' ≤ 9223372036854775807) :
    Nb w B (some ⟨b, off + k, none⟩) m c' ((xs.drop k).take m) :=
  ⟨by rw [List.length_take, List.length_drop, h.len]; omega, hc, hc', (h.lim.drop k).take m, fun hm => by
    obtain ⟨b', off', e, hb, hcell⟩ := h.cell (by omega)
    subst hA
    simp only [Option.some.injEq, Addr.mk.injEq, and_true] at e
    obtain ⟨rfl, rfl⟩ := e
    refine ⟨b, off + k, rfl, hb, fun j x hj => ?_⟩
    rw [List.getElem?_take] at hj
    split at hj
    · rw [List.getElem?_drop] at hj
      rw [Nat.add_assoc]
      exact hcell _ _ hj
    · cases hj⟩

theorem wordAt_part (xs : List Nat) (t : Nat) : word (((xs.drop (4 * t)).take 4).getD 0 0) (((xs.drop (4 * t)).take 4).getD 1 0) (((xs.drop (4 * t)).take 4).getD 2 0) (((xs.drop (4 * t)).take 4).getD 3 0) = wordAt xs t := by
  unfold wordAt
  simp [List.getD, List.getElem?_drop]

theorem set_at {ws : List Nat} {n j x : Nat} (h : ws.length = j) (hj : j < n) : (ws ++ List.replicate (n - j) 0).set j x = ws ++ [x] ++ List.replicate (n - (j + 1)) 0 := by
  obtain ⟨m, hm⟩ : ∃ m, n - j = m + 1 := ⟨n - j - 1, by omega⟩
  rw [hm, show n - (j + 1) = m by omega, List.replicate_succ]
  subst h
  simp
theorem getD_app {ws zs : List Nat} {k : Nat} (h : k < ws.length) : (ws ++ zs).getD k 0 = ws.getD k 0 := by
  simp [List.getD, List.getElem?_append_left h]

theorem wordAt_lt {p : List Nat} (h : Lim 256 p) (t : Nat) : wordAt p t < 4294967296 := word_lt (h.get (by omega) _) (h.get (by omega) _) (h.get (by omega) _) (h.get (by omega) _)
theorem lim_sched1 {p : List Nat} (h : Lim 256 p) (t : Nat) : Lim 4294967296 (sched1 p t) := by
  induction t with
  | zero => rw [sched1]; exact Lim.nil _
  | succ t ih => rw [sched1]; exact ih.append (Lim.one (wordAt_lt h t))
theorem lim_sched2 {w : List Nat} (h : Lim 4294967296 w) (t : Nat) : Lim 4294967296 (sched2 w t) := by
  induction t with
  | zero => rw [sched2]; exact h
  | succ t ih => rw [sched2]; exact ih.append (Lim.one (ad_lt _ _))
/-- what a schedule hands back -/
def Zeros : Obj := .cells (wv (List.replicate 64 0)).toArray 120 (0, 0)
theorem alloc_wb (w : World) : Wb (w.alloc Zeros) w.heap.size 120 (List.replicate 64 0) := by
  exact heap_alloc_new w _
set_option maxRecDepth 100000
set_option maxHeartbeats 1000000 in
theorem schedule_any {w : World} {c : Nat} {A : Option Addr} {xs : List Nat} (h : Nb w w.heap.size A 64 c xs) :
    Calls Tryd.prog 66 #[.slice A 64 c] w fun e w' => e = .returned (.agg (wv (sched xs)).toArray) ∧ Below w.heap.size w w' := by
  have hc := h.cap
  have hr := h.room
  obtain ⟨b, off, rfl, hb, -⟩ := h.cell (by omega)
  obtain ⟨S, hS⟩ : ∃ S, sched xs = S := ⟨_, rfl⟩
  rw [hS]
  have HS := Lib.hid hS
  clear hS
  have hz := alloc_wb w
  have hb0 : Below w.heap.size w (w.alloc Zeros) := (Below.refl _ _).alloc (Nat.le_refl _) _
  go_enter Tryd.func66, Tryd.ntmps66
  go_wp2
  have hs0 : ((w.alloc Zeros).alloc Zeros).heap.size = w.heap.size + 2 := by simp
  have hz1 : Wb ((w.alloc Zeros).alloc Zeros) (w.heap.size + 1) 120 (List.replicate 64 0) := by have := alloc_wb (w.alloc Zeros); simpa using this
  have hz0 : Wb ((w.alloc Zeros).alloc Zeros) w.heap.size 120 (List.replicate 64 0) := hz.alloc _
  have hb1 : Below w.heap.size w ((w.alloc Zeros).alloc Zeros) := hb0.alloc (by simp) _
  change Code.wp _ _ _ _ ((w.alloc Zeros).alloc Zeros)
  generalize (w.alloc Zeros).alloc Zeros = w1 at *
  go_loopw [8] (fun i wr => ∃ k : Nat, k ≤ 16 ∧ i = .int .i64 k ∧ Wb wr (w.heap.size + 1) 120 (sched1 xs k ++ List.replicate (64 - k) 0) ∧ Wb wr w.heap.size 120 (List.replicate 64 0) ∧ Below w.heap.size w wr) (fun i _ => 16 - (intOf i).toNat)
  case atStart => exact ⟨0, by omega, rfl, by rw [sched1]; exact hz1, hz0, hb1⟩
  case round =>
    obtain ⟨k, hk, rfl, hw1, hw0, hB⟩ := hrel
    by_cases hlt : k < 16
    · have hp := (h.below hB).part rfl (4 * k) 4 (c - 4 * k) (by omega) (by omega) (by omega)
      have Hv := Lib.hid (set_at (n := 64) (x := wordAt xs k) (length_sched1 xs k) (by omega))
      have Hwa := Lib.hid (wordAt_part xs k)
      have hcell := hw1.cell (j := k) (by rw [List.length_append, length_sched1, List.length_replicate]; omega)
      have hfz := hw1.frozen k
      generalize (xs.drop (4 * k)).take 4 = ys at *
      go_wp2_with fail
      refine (wordOf_any hp).mono ?_
      rintro e w2 ⟨⟨q, rfl⟩, rfl⟩
      rw [Hwa.out]
      go_wp2
      go_roundw
      case rel =>
        refine ⟨k + 1, by omega, by go_num, ?_, hw0.other (by simp) _, ?_⟩
        · rw [sched1, ← Hv.out]
          exact hw1.set_ k _
        · exact (below_drewN hB q).setCell (p := ⟨w.heap.size + 1, k, none⟩) (Nat.le_succ _) _
      case measure => simp [intOf]; omega
    · obtain rfl : k = 16 := by omega
      clear hlt
      go_wp2
      have hs16 : (sched1 xs 16).length = 16 := length_sched1 xs 16
      generalize hss : sched1 xs 16 = ss at *
      have Hs := Lib.hid hss
      clear hss
      go_loopw [5] (fun i wr => ∃ k : Nat, k ≤ 48 ∧ i = .int .i64 (k + 16 : Nat) ∧ Wb wr (w.heap.size + 1) 120 (sched2 ss k ++ List.replicate (48 - k) 0) ∧ Wb wr w.heap.size 120 (List.replicate 64 0) ∧ Below w.heap.size w wr) (fun i _ => 64 - (intOf i).toNat)
      case atStart => exact ⟨0, by omega, rfl, by rw [sched2]; exact hw1, hw0, hB⟩
      case round =>
        clear hw1 hw0 hB hz1 hz0 hb1
        obtain ⟨k, hk, rfl, hw1, hw0, hB⟩ := hrel
        have hl : (sched2 ss k).length = k + 16 := by rw [length_sched2, hs16]; omega
        by_cases hlt : k < 48
        · have hll : (sched2 ss k ++ List.replicate (48 - k) 0).length = 64 := by rw [List.length_append, hl, List.length_replicate]; omega
          have c15 := hw1.cell (j := k + 1) (by omega)
          have c2 := hw1.cell (j := k + 14) (by omega)
          have c7 := hw1.cell (j := k + 9) (by omega)
          have c16 := hw1.cell (j := k) (by omega)
          have c0 := hw1.cell (j := k + 16) (by omega)
          have hfz := hw1.frozen (k + 16)
          rw [getD_app (by omega)] at c15 c2 c7 c16
          have Hv := Lib.hid (set_at (n := 64) (x := nextW (sched2 ss k)) hl (by omega))
          have Hn : Hid (nextW (sched2 ss k) = ad (ad (ad (sg1 ((sched2 ss k).getD (k + 14) 0)) ((sched2 ss k).getD (k + 9) 0)) (sg0 ((sched2 ss k).getD (k + 1) 0))) ((sched2 ss k).getD k 0)) := by
            show _ = _
            rw [nextW, hl]; rfl
          have hL := lim_sched2 (lim_sched1 h.lim 16) k
          rw [Hs.out] at hL
          have l2 := hL.get (by omega) (k + 14)
          have l15 := hL.get (by omega) (k + 1)
          clear hL
          generalize (sched2 ss k).getD (k + 14) 0 = x2 at *
          generalize (sched2 ss k).getD (k + 9) 0 = x7 at *
          generalize (sched2 ss k).getD (k + 1) 0 = x15 at *
          generalize (sched2 ss k).getD k 0 = x16 at *
          have Hll := Lib.hid hll
          have Hl := Lib.hid hl
          clear hll hl hs16
          have w2 : IntKind.i64.wrap ((k : Int) + 16 - 2) = (k : Int) + 14 := (IntWalk.i64_in _ (by omega)).trans (by omega)
          go_wp2
          go_quiet ((go_at_call 67; exact Calls.quiet_of_same ((turned_any _ (by omega) _ (by omega) (by omega) _).mono fun _ _ ⟨he, hw⟩ => ⟨he, hw.symm⟩)))
          replace hB := below_drewN hB nq
          replace hw1 := hw1.drewN nq
          replace hw0 := hw0.drewN nq
          replace c2 : (wr.drewN nq).cell? _ = _ := c2
          replace c7 : (wr.drewN nq).cell? _ = _ := c7
          replace c15 : (wr.drewN nq).cell? _ = _ := c15
          replace c16 : (wr.drewN nq).cell? _ = _ := c16
          replace c0 : (wr.drewN nq).cell? _ = _ := c0
          replace hfz : (wr.drewN nq).frozen? _ = _ := hfz
          generalize wr.drewN nq = wq at *
          go_wp2
          go_quiet ((go_at_call 67; exact Calls.quiet_of_same ((turned_any _ (by omega) _ (by omega) (by omega) _).mono fun _ _ ⟨he, hw⟩ => ⟨he, hw.symm⟩)))
          replace hB := below_drewN hB nq
          replace hw1 := hw1.drewN nq
          replace hw0 := hw0.drewN nq
          replace c2 : (wq.drewN nq).cell? _ = _ := c2
          replace c7 : (wq.drewN nq).cell? _ = _ := c7
          replace c15 : (wq.drewN nq).cell? _ = _ := c15
          replace c16 : (wq.drewN nq).cell? _ = _ := c16
          replace c0 : (wq.drewN nq).cell? _ = _ := c0
          replace hfz : (wq.drewN nq).frozen? _ = _ := hfz
          generalize wq.drewN nq = ws at *
          go_wp2
          have w7 : IntKind.i64.wrap ((k : Int) + 16 - 7) = (k : Int) + 9 := (IntWalk.i64_in _ (by omega)).trans (by omega)
          have w16 : IntKind.i64.wrap ((k : Int) + 16 - 16) = (k : Int) := (IntWalk.i64_in _ (by omega)).trans (by omega)
          have w16' : IntKind.i64.wrap (k : Int) = (k : Int) := (IntWalk.i64_in _ (by omega))
          go_region
          all_goals go_wp2
          go_roundw
          case rel =>
            refine ⟨k + 1, by omega, by go_num, ?_, (hw0.other (Nat.succ_ne_self _) _).drew, below_drew (hB.setCell (p := ⟨w.heap.size + 1, k + 16, none⟩) (Nat.le_succ _) _)⟩
            rw [sched2, show 48 - (k + 1) = 64 - (k + 16 + 1) by omega, ← Hv.out, Hn.out]
            have := hw1.set_ (k + 16) (ad (ad (ad (sg1 x2) x7) (sg0 x15)) x16)
            rw [show 48 - k = 64 - (k + 16) by omega] at this
            exact this.drew
          case measure => simp [intOf]; omega
        · have hS : Wb wr (w.heap.size + 1) 120 S := by
            have h48 : k = 48 := by omega
            rw [h48, show 48 - 48 = 0 from rfl, List.replicate_zero, List.append_nil, ← Hs.out] at hw1
            rw [← HS.out, sched]
            exact hw1
          have hge : 48 ≤ k := by omega
          have HSl : Hid (S.length = 64) := by rw [← HS.out]; exact length_sched xs
          have hL : (wv S).length = 64 := by rw [length_wv]; exact HSl.out
          have HL := Lib.hid hL
          clear hlt hw1 hl HS Hs hs16 hL
          go_wp2_with (first
            | (refine wpList_load_row rfl 120 (.tmp 3) rfl (w.heap.size + 1) rfl 120 (wv S).toArray (0, 0) _ hS Tryd.underlying120 rfl (by rw [List.size_toArray, HL.out]; kernel_rfl) ?_)
            | (refine wpList_store_row rfl rfl 120 (.tmp 2) (.tmp 75) rfl w.heap.size rfl (wv S) rfl 120 _ hw0 (wv_one S) (by rw [HL.out]; simp [wv]) (by rw [HL.out]; kernel_rfl) ?_))
          have hr1 := setRow_heap wr w.heap.size (wv (List.replicate 64 0)).toArray (wv S).toArray 120 (0, 0) hw0
          refine bodyPost_ret (v := .agg (wv S).toArray) (results_cell_row rfl _ _ w.heap.size 120 (wv S).toArray (0, 0) _ rfl hr1 Tryd.underlying120 rfl (by rw [List.size_toArray, HL.out]; kernel_rfl)) rfl ⟨rfl, ?_⟩
          exact below_setRow hB (Nat.le_refl _) _
end Go.Proofs.YtafpnpfiefbddaaDoor
