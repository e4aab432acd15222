/- choose: the library's sort, laid at this program: the ends come out sorted. -/
import Derived.Test.YtbkcoijcoacbaaaChC4
import Derived.Shelf.SlSortCmp.WholeK
namespace Go.Proofs.Ytbkcoijcoacbaaa.Ch
open Go.RowKit Go.Sort Go.Shelf Go.Lib
set_option linter.unusedVariables false
set_option linter.unusedSimpArgs false
set_option maxRecDepth 100000
def srtRen : Ren := ⟨fun | 6 => 50 | 15 => 67 | 14 => 66 | 28 => 80 | 29 => 81 | 20 => 72 | 21 => 73 | 22 => 74 | 23 => 75 | 24 => 76 | 25 => 77 | 26 => 78 | 27 => 79 | 46 => 83 | 47 => 84 | 48 => 85 | 49 => 86 | 50 => 87 | 57 => 89 | n => n, fun | 22 => 76 | 24 => 79 | 25 => 100 | 39 => 89 | 45 => 116 | 46 => 117 | 50 => 121 | 53 => 124 | 55 => 22 | 66 => 126 | 70 => 130 | 76 => 132 | 77 => 133 | n => n, fun n => n⟩
set_option maxHeartbeats 4000000 in
theorem srtLaid : SlLaysF0.n6 Try.prog srtRen :=
  { mixed := by kernel_rfl
    f6 := ⟨Try.f50.name, by decide, Try.func50.trans (congrArg some (by kernel_rfl))⟩
    f14 := ⟨Try.f66.name, by decide, Try.func66.trans (congrArg some (by kernel_rfl))⟩
    f15 := Try.func67.trans (congrArg some (by kernel_rfl))
    f20 := ⟨Try.f72.name, by decide, Try.func72.trans (congrArg some (by kernel_rfl))⟩
    f21 := ⟨Try.f73.name, by decide, Try.func73.trans (congrArg some (by kernel_rfl))⟩
    f22 := ⟨Try.f74.name, by decide, Try.func74.trans (congrArg some (by kernel_rfl))⟩
    f23 := ⟨Try.f75.name, by decide, Try.func75.trans (congrArg some (by kernel_rfl))⟩
    f24 := ⟨Try.f76.name, by decide, Try.func76.trans (congrArg some (by kernel_rfl))⟩
    f25 := ⟨Try.f77.name, by decide, Try.func77.trans (congrArg some (by kernel_rfl))⟩
    f26 := ⟨Try.f78.name, by decide, Try.func78.trans (congrArg some (by kernel_rfl))⟩
    f27 := ⟨Try.f79.name, by decide, Try.func79.trans (congrArg some (by kernel_rfl))⟩
    f28 := Try.func80.trans (congrArg some (by kernel_rfl))
    f29 := Try.func81.trans (congrArg some (by kernel_rfl))
    f46 := ⟨Try.f83.name, by decide, Try.func83.trans (congrArg some (by kernel_rfl))⟩
    f47 := Try.func84.trans (congrArg some (by kernel_rfl))
    f48 := Try.func85.trans (congrArg some (by kernel_rfl))
    f49 := ⟨Try.f86.name, by decide, Try.func86.trans (congrArg some (by kernel_rfl))⟩
    f50 := ⟨Try.f87.name, by decide, Try.func87.trans (congrArg some (by kernel_rfl))⟩
    f57 := ⟨Try.f89.name, by decide, Try.func89.trans (congrArg some (by kernel_rfl))⟩
    t0 := Try.underlying0
    a0 := Try.isAgg0
    z0 := Try.sizeOf0
    v0 := Try.zeroValue0
    t3 := Try.underlying3
    a3 := Try.isAgg3
    z3 := Try.sizeOf3
    v3 := Try.zeroValue3
    t4 := Try.underlying4
    a4 := Try.isAgg4
    z4 := Try.sizeOf4
    v4 := Try.zeroValue4
    t5 := Try.underlying5
    a5 := Try.isAgg5
    z5 := Try.sizeOf5
    v5 := Try.zeroValue5
    t9 := Try.underlying9
    a9 := Try.isAgg9
    z9 := Try.sizeOf9
    v9 := Try.zeroValue9
    t22 := Try.underlying76
    a22 := Try.isAgg76
    z22 := Try.sizeOf76
    v22 := Try.zeroValue76
    t25 := Try.underlying100
    a25 := Try.isAgg100
    z25 := Try.sizeOf100
    v25 := Try.zeroValue100
    t39 := Try.underlying89
    a39 := Try.isAgg89
    z39 := Try.sizeOf89
    v39 := Try.zeroValue89
    t45 := Try.underlying116
    a45 := Try.isAgg116
    z45 := Try.sizeOf116
    v45 := Try.zeroValue116
    t46 := Try.underlying117
    a46 := Try.isAgg117
    z46 := Try.sizeOf117
    v46 := Try.zeroValue117
    t50 := Try.underlying121
    a50 := Try.isAgg121
    z50 := Try.sizeOf121
    v50 := Try.zeroValue121
    t53 := Try.underlying124
    a53 := Try.isAgg124
    z53 := Try.sizeOf124
    v53 := Try.zeroValue124
    t55 := Try.underlying22
    a55 := Try.isAgg22
    z55 := Try.sizeOf22
    v55 := Try.zeroValue22
    t66 := Try.underlying126
    a66 := Try.isAgg126
    z66 := Try.sizeOf126
    v66 := Try.zeroValue126
    t70 := Try.underlying130
    a70 := Try.isAgg130
    z70 := Try.sizeOf130
    v70 := Try.zeroValue130
    t76 := Try.underlying132
    a76 := Try.isAgg132
    z76 := Try.sizeOf132
    v76 := Try.zeroValue132
    t77 := Try.underlying133
    a77 := Try.isAgg133
    z77 := Try.sizeOf133
    v77 := Try.zeroValue133 }

theorem cmpI_facts (x y : Int) : (cmpI x y < 0 ↔ x < y) ∧ (cmpI x y = 0 ↔ x = y) := by
  unfold cmpI
  split
  · omega
  · split <;> omega
theorem cfE_lt (x y : Ev) : ltOf cfE x y = true ↔ x.at_ < y.at_ ∨ (x.at_ = y.at_ ∧ y.more < x.more) := by
  unfold ltOf cfE orI
  rw [decide_eq_true_iff]
  have h1 := cmpI_facts x.at_ y.at_
  have h2 := cmpI_facts y.more x.more
  split <;> omega
theorem cfE_swo : SWO (ltOf cfE) := by
  have key : ∀ x y, ltOf cfE x y = false ↔ ¬ (x.at_ < y.at_ ∨ (x.at_ = y.at_ ∧ y.more < x.more)) := fun x y => by
    rw [← cfE_lt]; simp
  constructor
  · intro x; rw [key]; omega
  · intro x y z; rw [cfE_lt, cfE_lt, cfE_lt]; omega
  · intro x y z; rw [key, key, key]; omega
theorem cs_len (x : Ev) : (Ev.cs x).length = 2 := rfl
theorem cs_one (x : Ev) : ∀ v ∈ Ev.cs x, v.oneCell' = true := by
  intro v hv
  simp [Ev.cs] at hv
  rcases hv with rfl | rfl <;> rfl
theorem sc_at (L : List Ev) (t : Nat) (ht : t < 2 * L.length) : (sc L)[t]? = some ((Ev.cs (L.toArray[t / 2]!))[t % 2]!) := by
  have h1 : t / 2 < L.length := by omega
  have e : L[t / 2]? = some (L.toArray[t / 2]!) := by
    rw [getElem!_pos L.toArray (t / 2) (by simpa using h1)]
    simp [h1]
  have := sc_get e (t % 2) (by omega)
  rw [show 2 * (t / 2) + t % 2 = t by omega] at this
  rw [this]
  have hl : t % 2 < (Ev.cs (L.toArray[t / 2]!)).length := by show _ < 2; omega
  rw [getElem!_pos (Ev.cs (L.toArray[t / 2]!)) (t % 2) hl, List.getElem?_eq_getElem hl]
theorem Gs.holds {w : World} {base n c : Nat} {A : Option Addr} {L : List Ev} (h : Gs w base A n c L) (hn : 0 < n) : ∃ g, A = some ⟨g, 0, none⟩ ∧ base ≤ g ∧ g < w.heap.size ∧ HoldsK Ev.cs 2 w g 0 L.toArray := by
  obtain ⟨hl, hx, h⟩ := h
  rcases h with ⟨_, h0⟩ | ⟨g, cap, cur, hv, hb, hg, hnc, hcm, hcs, htk⟩
  · omega
  · cases hv
    have hlt : g < w.heap.size := (Array.getElem?_eq_some_iff.1 hg).1
    refine ⟨g, rfl, hb, hlt, fun j hj => ?_⟩
    rw [size_flatK] at hj
    have hj' : j < 2 * L.length := by simp at hj; omega
    rw [get_flatK _ _ _ _ hj]
    have e := sc_at L j hj'
    rw [← htk, List.getElem?_take_of_lt (by omega)] at e
    refine ⟨?_, ?_⟩
    · have : cur[j]? = some ((Ev.cs (L.toArray[j / 2]!))[j % 2]!) := by simpa using e
      simp only [World.cell?, hg, Nat.zero_add]
      simpa using this
    · simp [World.frozen?, hg]
/-- ends that can be read: a row below block B -/
def Re (w : World) (B : Nat) (A : Option Addr) (n : Nat) (xs : List Ev) : Prop :=
  xs.length = n ∧ (n = 0 ∨ ∃ g off, A = some ⟨g, off, none⟩ ∧ g < B ∧ ∀ i s, xs[i]? = some s →
    w.cell? ⟨g, off + i * 2, none⟩ = some (.int .i64 s.at_) ∧ w.cell? ⟨g, off + i * 2 + 1, none⟩ = some (.int .i64 s.more))
theorem Re.below {w w' : World} {B C n : Nat} {A : Option Addr} {xs : List Ev} (h : Re w B A n xs) (b : RowKit.Below C w w') (hB : B ≤ C) : Re w' B A n xs := by
  refine ⟨h.1, h.2.imp id ?_⟩
  rintro ⟨g, off, rfl, hg, hc⟩
  refine ⟨g, off, rfl, hg, fun i s hs => ?_⟩
  obtain ⟨c0, c1⟩ := hc i s hs
  have e := b.block g (by omega)
  exact ⟨(World.cell?_of_block e).trans c0, (World.cell?_of_block e).trans c1⟩
theorem Re.cells {w : World} {B n : Nat} {A : Option Addr} {xs : List Ev} (h : Re w B A n xs) (h0 : 0 < n) : ∃ g off, A = some ⟨g, off, none⟩ ∧ g < B ∧ ∀ w', RowKit.Below B w w' → ∀ i s, xs[i]? = some s →
    w'.cell? ⟨g, off + i * 2, none⟩ = some (.int .i64 s.at_) ∧ w'.cell? ⟨g, off + i * 2 + 1, none⟩ = some (.int .i64 s.more) := by
  rcases h.2 with h1 | ⟨g, off, rfl, hg, hc⟩
  · omega
  · refine ⟨g, off, rfl, hg, fun w' b i s hs => ?_⟩
    have h' := (h.below b (Nat.le_refl _)).2
    rcases h' with h1 | ⟨g', off', e, _, hc'⟩
    · omega
    · cases e
      exact hc' i s hs
theorem HoldsK.rd {w : World} {g : Nat} {d : Array Ev} (h : HoldsK Ev.cs 2 w g 0 d) (hg : g < w.heap.size) : Re w w.heap.size (some ⟨g, 0, none⟩) d.size d.toList := by
  refine ⟨by simp, .inr ⟨g, 0, rfl, hg, fun i s hs => ?_⟩⟩
  have hi : i < d.size := by
    have := (List.getElem?_eq_some_iff.1 hs).1
    simpa using this
  have e : d[i]! = s := by
    rw [getElem!_pos d i hi]
    have := (List.getElem?_eq_some_iff.1 hs).2
    simpa using this
  have c0 := (HoldsK.cell h hi (show 0 < 2 by omega)).1
  have c1 := (HoldsK.cell h hi (show 1 < 2 by omega)).1
  rw [e] at c0 c1
  exact ⟨c0, c1⟩
theorem below_sortK {w : World} {B g n : Nat} {d : Array Ev} {os : Array Obj} (hB : B ≤ w.heap.size) (hg : B ≤ g) : RowKit.Below B w (sortWorldK Ev.cs 2 w g 0 n d os) := by
  have hs : (putRowK Ev.cs 2 (Sort.ahead w n) g 0 d).heap.size = w.heap.size := by simp [putRowK, putRow, mapBlock, Sort.ahead]
  refine ⟨rfl, rfl, rfl, ?_, fun k hk => ?_⟩
  · show _ ≤ (grow _ os).heap.size
    rw [size_grow, hs]; omega
  · show (grow _ os).heap[k]? = _
    rw [heap_grow_old _ _ (by rw [hs]; omega)]
    show ((Sort.ahead w n).heap.modify g _)[k]? = _
    rw [Array.getElem?_modify, if_neg (by omega)]
    rfl
theorem sort_none (c : Nat) (w : World) : Calls Try.prog 50 #[.slice none 0 c, .func (.func 51) #[] #[]] w fun e w' => e = .returned (.tuple #[]) ∧ w' = w := by
  have HB := Lib.hid (show ∀ W, Calls Try.prog 67 #[.int .u64 0] W fun e w' => e = .returned (.int .i64 (Lib.bitLen 0 : Nat)) ∧ w' = W from fun W => Any.bits_Len (SlLaysF0.n15.bits (P := Try.prog) (ρ := srtRen) { srtLaid with }) 0 W (by omega) (by omega))
  have HP := Lib.hid (show ∀ (k : Int) W, Calls Try.prog 66 #[.slice none 0 c, .int .i64 0, .int .i64 0, .int .i64 k, .func (.func 51) #[] #[]] W fun e w' => e = .returned (.tuple #[]) ∧ w' = W from fun k W => by
    have HI := Lib.hid (show ∀ W, Calls Try.prog 72 #[.slice none 0 c, .int .i64 0, .int .i64 0, .func (.func 51) #[] #[]] W fun e w' => e = .returned (.tuple #[]) ∧ w' = W from fun W => by
      go_enter Try.func72, Try.ntmps72
      go_wp2_with fail
      refine wp_loop_rounds 1 ?_
      rw [rounds_succ]
      go_wp2_with fail
      go_end0
      exact ⟨rfl, rfl⟩)
    go_enter Try.func66, Try.ntmps66
    go_wp2_with fail
    refine wp_loop_rounds 1 ?_
    rw [rounds_succ]
    go_wp2_with (go_at_call 72; (with_reducible refine (HI.out _).mono ?_); rintro e w9 ⟨rfl, h9⟩; subst w9)
    (try simp only [Exit.inBlock, Exit.then]); refine bodyPost_ret (results_none rfl _ _ _) rfl ?_
    exact ⟨rfl, rfl⟩)
  go_enter Try.func50, Try.ntmps50
  go_wp2_with (first
    | (go_at_call 67; refine (HB.out _).mono ?_; rintro e w9 ⟨rfl, h9⟩; subst w9)
    | (go_at_call 66; refine (HP.out _ _).mono ?_; rintro e w9 ⟨rfl, h9⟩; subst w9))
  go_end0
  exact ⟨rfl, rfl⟩
theorem sort_any {w : World} {g cap : Nat} {d : Array Ev} (h : HoldsK Ev.cs 2 w g 0 d) (hg : g < w.heap.size) (hs : d.size < 4611686018427387904) :
    Calls Try.prog 50 #[.slice (some ⟨g, 0, none⟩) d.size cap, .func (.func 51) #[] #[]] w fun e w' => e = .returned (.tuple #[]) ∧ ∃ d' : Array Ev, d'.toList.Perm d.toList ∧ d'.toList.Pairwise Ev.le ∧ Re w' w'.heap.size (some ⟨g, 0, none⟩) d.size d'.toList ∧ ∀ B, B ≤ g → RowKit.Below B w w' := by
  refine (AnyQ.slices_SortFunc (P := Try.prog) (ρ := srtRen) srtLaid 2 Try.isAgg79 Try.sizeOf79 Ev.cs cs_len cs_one cfE cfE_swo 51 #[] g 0 cap d w ?_ ?_ h hg hs).mono ?_
  · intro args w
    exact enters_of Try.func51 (by kernel_rfl) rfl args w
  · intro m os dk hdk x y
    exact cmp_any x y _
  · rintro e w' ⟨rfl, d', n, os, hp, hso, rfl⟩
    have hsz : d'.size = d.size := hp.1
    have hH := holdsK_sortWorldK_c Ev.cs 2 w g 0 d d' n os h hg hsz
    have hb : RowKit.Below 0 w (sortWorldK Ev.cs 2 w g 0 n d' os) := below_sortK (Nat.zero_le _) (Nat.zero_le _)
    refine ⟨rfl, d', ?_, ?_, ?_, fun B hB => below_sortK (by omega) hB⟩
    · have := hp.2.2
      rw [← hsz] at this
      have e1 : d'.toList.take d.size = d'.toList := List.take_of_length_le (by simp [hsz])
      have e2 : (d'.extract 0 d'.size).toList = d'.toList := by simp
      have e3 : (d.extract 0 d'.size).toList = d.toList := by rw [hsz]; simp
      rw [e2, e3] at this
      exact this
    · rw [List.pairwise_iff_getElem]
      intro i j hi hj hij
      have := hso i j (Nat.zero_le _) hij (by simpa [hsz] using hj)
      rw [getElem!_pos d' i (by simpa using hi), getElem!_pos d' j (by simpa using hj)] at this
      have h2 : ¬ ltOf cfE d'[j] d'[i] = true := by rw [this]; exact Bool.false_ne_true
      rw [cfE_lt] at h2
      unfold Ev.le
      simp only [Array.getElem_toList]
      omega
    · have := HoldsK.rd hH (Nat.lt_of_lt_of_le hg hb.size)
      rwa [hsz] at this
end Go.Proofs.Ytbkcoijcoacbaaa.Ch
