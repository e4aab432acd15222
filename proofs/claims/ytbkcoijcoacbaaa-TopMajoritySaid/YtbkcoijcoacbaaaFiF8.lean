/- filter: a row of samples sorted by the library's stable sort. -/
import Derived.Test.YtbkcoijcoacbaaaFiF7
namespace Go.Proofs.Ytbkcoijcoacbaaa.Fi
open Go.RowKit Go.Sort Go.Shelf Go.Lib
set_option linter.unusedVariables false
set_option linter.unusedSimpArgs false
set_option maxRecDepth 100000

/-- samples that can be read: a row below block B -/
def Rd (w : World) (B : Nat) (A : Option Addr) (n : Nat) (xs : List S4) : Prop :=
  xs.length = n ∧ (n = 0 ∨ ∃ g off, A = some ⟨g, off, none⟩ ∧ g < B ∧ ∀ i s, xs[i]? = some s →
    w.cell? ⟨g, off + i * 4, none⟩ = some (.int .i64 s.o) ∧ w.cell? ⟨g, off + i * 4 + 1, none⟩ = some (.int .i64 s.d) ∧ w.cell? ⟨g, off + i * 4 + 2, none⟩ = some (.int .i64 s.p) ∧ w.cell? ⟨g, off + i * 4 + 3, none⟩ = some (.int .i64 s.a))
theorem Rd.below {w w' : World} {B C n : Nat} {A : Option Addr} {xs : List S4} (h : Rd w B A n xs) (b : Below C w w') (hB : B ≤ C) : Rd w' B A n xs := by
  refine ⟨h.1, h.2.imp id ?_⟩
  rintro ⟨g, off, rfl, hg, hc⟩
  refine ⟨g, off, rfl, hg, fun i s hs => ?_⟩
  obtain ⟨c0, c1, c2, c3⟩ := hc i s hs
  have e := b.block g (by omega)
  exact ⟨(World.cell?_of_block e).trans c0, (World.cell?_of_block e).trans c1, (World.cell?_of_block e).trans c2, (World.cell?_of_block e).trans c3⟩
theorem Rd.le {w : World} {B C n : Nat} {A : Option Addr} {xs : List S4} (h : Rd w B A n xs) (hB : B ≤ C) : Rd w C A n xs := by
  refine ⟨h.1, h.2.imp id ?_⟩
  rintro ⟨g, off, rfl, hg, hc⟩
  exact ⟨g, off, rfl, by omega, hc⟩
theorem sc_at (L : List S4) (t : Nat) (ht : t < 4 * L.length) : (sc L)[t]? = some ((S4.cs (L.toArray[t / 4]!))[t % 4]!) := by
  have h1 : t / 4 < L.length := by omega
  have e : L[t / 4]? = some (L.toArray[t / 4]!) := by
    rw [getElem!_pos L.toArray (t / 4) (by simpa using h1)]
    simp [h1]
  have := sc_get e (t % 4) (by omega)
  rw [show 4 * (t / 4) + t % 4 = t by omega] at this
  rw [this]
  have hl : t % 4 < (S4.cs (L.toArray[t / 4]!)).length := by show _ < 4; omega
  rw [getElem!_pos (S4.cs (L.toArray[t / 4]!)) (t % 4) hl, List.getElem?_eq_getElem hl]
theorem Gs.holds {w : World} {base n c : Nat} {A : Option Addr} {L : List S4} (h : Gs w base A n c L) (hn : 0 < n) : ∃ g, A = some ⟨g, 0, none⟩ ∧ base ≤ g ∧ g < w.heap.size ∧ HoldsK S4.cs 4 w g 0 L.toArray := by
  obtain ⟨hl, hx, h⟩ := h
  rcases h with ⟨_, h0⟩ | ⟨g, cap, cur, hv, hb, hg, hnc, hcm, hcs, htk⟩
  · omega
  · cases hv
    have hlt : g < w.heap.size := (Array.getElem?_eq_some_iff.1 hg).1
    refine ⟨g, rfl, hb, hlt, fun j hj => ?_⟩
    rw [size_flatK] at hj
    have hj' : j < 4 * L.length := by simp at hj; omega
    rw [get_flatK _ _ _ _ hj]
    have e := sc_at L j hj'
    rw [← htk, List.getElem?_take_of_lt (by omega)] at e
    refine ⟨?_, ?_⟩
    · have : cur[j]? = some ((S4.cs (L.toArray[j / 4]!))[j % 4]!) := by simpa using e
      simp only [World.cell?, hg, Nat.zero_add]
      simpa using this
    · simp [World.frozen?, hg]
theorem HoldsK.rd {w : World} {g : Nat} {d : Array S4} (h : HoldsK S4.cs 4 w g 0 d) (hg : g < w.heap.size) : Rd w w.heap.size (some ⟨g, 0, none⟩) d.size d.toList := by
  refine ⟨by simp, .inr ⟨g, 0, rfl, hg, fun i s hs => ?_⟩⟩
  have hi : i < d.size := by
    have := (List.getElem?_eq_some_iff.1 hs).1
    simpa using this
  have e : d[i]! = s := by
    rw [getElem!_pos d i hi]
    have := (List.getElem?_eq_some_iff.1 hs).2
    simpa using this
  have c0 := (HoldsK.cell h hi (show 0 < 4 by omega)).1
  have c1 := (HoldsK.cell h hi (show 1 < 4 by omega)).1
  have c2 := (HoldsK.cell h hi (show 2 < 4 by omega)).1
  have c3 := (HoldsK.cell h hi (show 3 < 4 by omega)).1
  rw [e] at c0 c1 c2 c3
  exact ⟨c0, c1, c2, c3⟩
theorem below_sortK {w : World} {B g n : Nat} {d : Array S4} {os : Array Obj} (hB : B ≤ w.heap.size) (hg : B ≤ g) : Below B w (sortWorldK S4.cs 4 w g 0 n d os) := by
  have hs : (putRowK S4.cs 4 (Sort.ahead w n) g 0 d).heap.size = w.heap.size := by simp [putRowK, putRow, mapBlock, Sort.ahead]
  refine ⟨rfl, rfl, rfl, ?_, fun k hk => ?_⟩
  · show _ ≤ (grow _ os).heap.size
    rw [size_grow, hs]; omega
  · show (grow _ os).heap[k]? = _
    rw [heap_grow_old _ _ (by rw [hs]; omega)]
    show ((Sort.ahead w n).heap.modify g _)[k]? = _
    rw [Array.getElem?_modify, if_neg (by omega)]
    rfl
theorem run_enter35 : ∀ args w, (callFunc 46 args).run Try.prog w = .ok (.enter 46 args) w := enters_of Try.func46 (by kernel_rfl) rfl
theorem cmpLays {w : World} {bn g : Nat} {now : Int} (size : Nat) (hn : w.cell? ⟨bn, 0, none⟩ = some (.int .i64 now)) (hb : bn < w.heap.size) (hne : bn ≠ g) : CmpLays Try.prog 46 #[.pointer (some ⟨bn, 0, none⟩)] S4.cs 4 (cfS now) g 0 size w := by
  intro m os dk hs x y
  have hs : (putRowK S4.cs 4 (Sort.ahead w m) g 0 dk).heap.size = w.heap.size := by simp [putRowK, putRow, mapBlock, Sort.ahead]
  refine closure_any x y _ ?_ ?_
  · show (grow _ os).cell? _ = _
    rw [cell?_grow _ _ _ (by rw [hs]; exact hb), cell?_putRowK_other _ _ _ _ _ _ _ hne]
    exact hn
  · show bn < (grow _ os).heap.size
    rw [size_grow, hs]; omega
def sorted (now : Int) (L : List S4) : List S4 := (insertionSort (ltOf (cfS now)) L.toArray 0 L.length).toList
set_option maxHeartbeats 2000000 in
theorem stableC_any {w : World} {bn g cap : Nat} {now : Int} {d : Array S4} (hn : w.cell? ⟨bn, 0, none⟩ = some (.int .i64 now)) (hb : bn < w.heap.size) (hne : bn ≠ g) (hH : HoldsK S4.cs 4 w g 0 d) (hg : g < w.heap.size) (hd : d.size ≤ 8) :
    Calls Try.prog 63 #[.slice (some ⟨g, 0, none⟩) d.size cap, .int .i64 (d.size : Int), .func (.func 46) #[] #[.pointer (some ⟨bn, 0, none⟩)]] w fun e w' => e = .returned (.tuple #[]) ∧ ∃ n os, w' = sortWorldK S4.cs 4 w g 0 n (insertionSort (ltOf (cfS now)) d 0 d.size) os := by
  have HI := Lib.hid (show Calls Try.prog 70 _ _ _ from AnyQ.insertionSortCmpFunc insLaid 4 Try.isAgg34 Try.sizeOf34 S4.cs (fun _ => rfl) (fun x v hv => by simp [S4.cs] at hv; rcases hv with rfl | rfl | rfl | rfl <;> rfl) (cfS now) 46 #[.pointer (some ⟨bn, 0, none⟩)] g 0 cap 0 d.size d w run_enter35 (cmpLays d.size hn hb hne) hH hg (Nat.zero_le _) (Nat.le_refl _) (by omega))
  clear hn hb hne hH hg
  have h20 : ((20 : Int) ≤ (d.size : Int)) = False := by simp only [eq_iff_iff, iff_false]; omega
  have h21 : ((20 : Int) < (d.size : Int)) = False := by simp only [eq_iff_iff, iff_false]; omega
  generalize insertionSort (ltOf (cfS now)) d 0 d.size = r at *
  generalize d.size = n at *
  go_enter Try.func63, Try.ntmps63
  go_wp2_with fail
  refine wp_loop_rounds 1 ?_
  rw [rounds_succ]
  go_wp2_with (go_at_call 70; refine HI.out.mono ?_; rintro e w' ⟨rfl, m, os, rfl⟩)
  refine wp_loop_rounds 1 ?_
  rw [rounds_succ]
  go_wp2_with fail
  go_end0
  exact ⟨rfl, m, os, rfl⟩
set_option maxHeartbeats 2000000 in
theorem stable_any {w : World} {bn g cap : Nat} {now : Int} {d : Array S4} (hn : w.cell? ⟨bn, 0, none⟩ = some (.int .i64 now)) (hb : bn < w.heap.size) (hne : bn ≠ g) (hH : HoldsK S4.cs 4 w g 0 d) (hg : g < w.heap.size) (hd : d.size ≤ 8) :
    Calls Try.prog 45 #[.slice (some ⟨g, 0, none⟩) d.size cap, .func (.func 46) #[] #[.pointer (some ⟨bn, 0, none⟩)]] w fun e w' => e = .returned (.tuple #[]) ∧ ∃ n os, w' = sortWorldK S4.cs 4 w g 0 n (insertionSort (ltOf (cfS now)) d 0 d.size) os := by
  have HI := Lib.hid (stableC_any (cap := cap) hn hb hne hH hg hd)
  clear hn hb hne hH hg
  generalize insertionSort (ltOf (cfS now)) d 0 d.size = r at *
  generalize d.size = n at *
  go_enter Try.func45, Try.ntmps45
  go_wp2_with (go_at_call 63; refine HI.out.mono ?_; rintro e w' ⟨rfl, m, os, rfl⟩)
  go_end0
  exact ⟨rfl, m, os, rfl⟩
/-- a nil slice -/
theorem ins_none (v : Value) (w : World) : Calls Try.prog 70 #[.slice none 0 0, .int .i64 0, .int .i64 0, v] w fun e w' => e = .returned (.tuple #[]) ∧ w' = w := by
  go_enter Try.func70, Try.ntmps70
  go_wp2_with fail
  refine wp_loop_rounds 1 ?_
  rw [rounds_succ]
  go_wp2_with fail
  go_end0
  exact ⟨rfl, rfl⟩
theorem stableC_none (v : Value) (w : World) : Calls Try.prog 63 #[.slice none 0 0, .int .i64 0, v] w fun e w' => e = .returned (.tuple #[]) ∧ w' = w := by
  go_enter Try.func63, Try.ntmps63
  go_wp2_with fail
  refine wp_loop_rounds 1 ?_
  rw [rounds_succ]
  go_wp2_with (go_at_call 70; refine (ins_none v _).mono ?_; rintro e w' ⟨rfl, hw'⟩; subst hw')
  refine wp_loop_rounds 1 ?_
  rw [rounds_succ]
  go_wp2_with fail
  go_end0
  exact ⟨rfl, rfl⟩
theorem stable_none (v : Value) (w : World) : Calls Try.prog 45 #[.slice none 0 0, v] w fun e w' => e = .returned (.tuple #[]) ∧ w' = w := by
  go_enter Try.func45, Try.ntmps45
  go_wp2_with (go_at_call 63; refine (stableC_none v _).mono ?_; rintro e w' ⟨rfl, hw'⟩; subst hw')
  go_end0
  exact ⟨rfl, rfl⟩
theorem latest_nil (w : World) : Calls Try.prog 44 #[.pointer none] w fun e w' => e = .returned (.slice none 0 0) ∧ w' = w := by
  go_enter Try.func44, Try.ntmps44
  go_wp2_with (go_at_call 62; refine (len_nil _).mono ?_; rintro e w' ⟨rfl, hw'⟩; subst hw')
  refine wp_loop_rounds 1 ?_
  rw [rounds_succ]
  go_wp2_with fail
  go_ret
  exact ⟨rfl, rfl⟩
end Go.Proofs.Ytbkcoijcoacbaaa.Fi
