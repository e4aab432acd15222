/- audit: where nobody answered nothing was stolen. -/
import Derived.Test.YtompggkdjbkjjaaA12
import Derived.RangeFuncLeaves
import Derived.RangeFuncBox
import Derived.RangeFuncCalls
namespace Go.Proofs.Ytompggkdjbkjjaa
open Go.RowKit Go.Maps Go.MapKept Go.ChangeMaps
set_option linter.unusedVariables false
set_option maxRecDepth 100000
theorem range_none {P : Program} {F : Fence} {n : Nat} {g : Operand} {ps : Array Tmp} {assign body : Code} {Q : Exit → Act → World → Prop} {a : Act} {w : World}
    (hro : F.round = none) (h1 : 1 ≤ n) {gf : FuncId} {lb : Array Value} (hg : a.eval g = .func (.func gf) #[] lb) (hFg : F.fn gf) (eg : ∀ args w, (callFunc gf args).run P w = .ok (.enter gf args) w)
    (hcall : ∀ l W, RowKit.Below w.heap.size w W → CallsIn F (n - 1) P gf (#[.func (.yield l) #[] #[]] ++ lb) W fun e W' => (∃ v, e = .returned v) ∧ RowKit.Below W.heap.size W W')
    (hdone : ∀ (D : Nat) (W : World), w.heap.size ≤ D → RowKit.Below w.heap.size w W → W.heap[D]? = some (.deferred (some [])) → Q .normal { a with defers := { target := .collected D, args := #[] } :: a.defers } W) :
    (Code.rangeFunc g ps assign body).wpIn F n P Q a w := by
  refine wpIn_rangeFunc fun fn hfn => ?_
  rw [hro]
  obtain ⟨rec, hrec⟩ : ∃ rec : LoopState → Loop, ∀ st, rec st = { state := st, pending := none, fn, tmps := a.tmps, params := ps, assign, body, defers := w.heap.size } := ⟨_, fun _ => rfl⟩
  have hbel : RowKit.Below w.heap.size w ((w.alloc (.deferred (some []))).alloc (.loop (rec .ready))) := ((Below.refl _ w).alloc (Nat.le_refl _) _).alloc (by simp) _
  have hloop : ((w.alloc (.deferred (some []))).alloc (.loop (rec .ready))).heap[w.heap.size + 1]? = some (.loop (rec .ready)) := by
    have := World.alloc_heap_new (w.alloc (.deferred (some []))) (.loop (rec .ready))
    rwa [World.size_alloc] at this
  have hdef : ((w.alloc (.deferred (some []))).alloc (.loop (rec .ready))).heap[w.heap.size]? = some (.deferred (some [])) := (Below.heap_alloc _ _ _ (by simp)).trans (World.alloc_heap_new w _)
  have henter := run_enterLoop_outer (P := P) (w := w) fn a.tmps ps assign body
  rw [← hrec] at henter
  generalize (w.alloc (.deferred (some []))).alloc (.loop (rec .ready)) = w1 at *
  refine ⟨w.heap.size + 1, [{ target := .collected w.heap.size, args := #[] }], w1, { target := .fn (.func gf) lb, args := #[.func (.yield (w.heap.size + 1)) #[] #[]] }, w1, gf,
    #[.func (.yield (w.heap.size + 1)) #[] #[]] ++ lb, w1, henter, ?_, ?_, ?_, fun _ => h1, ?_⟩
  · simp only [resolve, hg]; simp [go_sem]
  · intro f' hf'; simp [Target.leads] at hf'; subst hf'; exact hFg
  · simp [invoke, go_sem, eg]
  have hlt : w.heap.size + 1 < w1.heap.size := (Array.getElem?_eq_some_iff.1 hloop).1
  refine (hcall (w.heap.size + 1) w1 hbel).mono ?_
  rintro e W2 ⟨⟨v, rfl⟩, hb⟩
  have hl := (hb.block _ hlt).trans hloop
  have hd := (hb.block _ (by omega)).trans hdef
  have he := run_endLoop (P := P) hl (by rw [hrec]; simp)
  rw [show (rec .ready).pending = none by rw [hrec]] at he
  refine ⟨none, _, he, ?_⟩
  refine hdone _ _ (Nat.le_refl _) ((hbel.trans (hb.mono hbel.size)).grown (grownBy_putObj' W2 _ _) (Nat.le_trans hbel.size hb.size) (fun k e => by cases e; omega)) ((World.putObj_heap_other (by omega)).trans hd)
theorem faces_nil (w : World) : Calls Try.prog 31 #[.slice none 0 0] w fun e w' => e = .returned (.map (some w.heap.size)) ∧ w' = w.alloc (.map #[] 0) := by
  have hmm := @run_makeMap Try.prog
  go_enter Try.func31, Try.ntmps31
  go_wp2_with fail
  go_loop [11] (fun i => i = .int .i64 0) (fun _ => 0)
  case atStart => rfl
  case round =>
    subst hrel
    go_wp2_with fail
    go_ret
    exact ⟨rfl, rfl⟩
set_option maxHeartbeats 2000000 in
theorem thefts1_none {w : World} (l Bf Bl : Nat) {n c : Nat} {A : Option Addr} {E : List Ev} (hf : w.cell? ⟨Bf, 0, none⟩ = some (.slice none 0 0)) (hc : w.cell? ⟨Bl, 0, none⟩ = some (.slice A n c)) (h : Lg w w.heap.size A n E) (hn : n ≤ 1000)
    (hk : ∀ x ∈ E, x.k ≠ 2) : Calls Try.prog 30 #[.func (.yield l) #[] #[], .pointer (some ⟨Bf, 0, none⟩), .pointer (some ⟨Bl, 0, none⟩)] w fun e w' => e = .returned (.tuple #[]) ∧ RowKit.Below w.heap.size w w' := by
  have HE := Lib.hid h
  have HK := Lib.hid hk
  have HN := Lib.hid h.1
  have hlt : Bl < w.heap.size := World.block_lt_of_cell? w _ hc
  obtain ⟨W, hW⟩ : ∃ W, W = w.alloc (.map #[] 0) := ⟨_, rfl⟩
  have hb : RowKit.Below w.heap.size w W := by rw [hW]; exact (Below.refl _ _).alloc (Nat.le_refl _) _
  have hc2 : W.cell? ⟨Bl, 0, none⟩ = some (.slice A n c) := (hb.cell (p := ⟨Bl, 0, none⟩) hlt).trans hc
  have HB := Lib.hid hb
  have HW := Lib.hid hW
  have HF := Lib.hid (faces_nil w)
  clear h hk hb hW hlt
  go_enter Try.func30, Try.ntmps30
  go_wp2_with (go_at_call 31; refine HF.out.mono ?_; rintro e w1 ⟨rfl, rfl⟩; rw [← HW.out])
  go_loopw [11] (fun i wr => ∃ j, j ≤ n ∧ i = .int .i64 ((j : Nat) : Int) ∧ RowKit.Below W.heap.size W wr) (fun i _ => (n - (match i with | .int _ z => z.toNat | _ => 0)))
  case atStart => exact ⟨0, by omega, rfl, Below.refl _ _⟩
  case round =>
    obtain ⟨j, hjn, rfl, hb⟩ := hrel
    have HBr := Lib.hid hb
    clear hb
    by_cases hj : j < n
    · have e1 : (j : Int) < (n : Int) := by omega
      obtain ⟨x, hx⟩ : ∃ x, E[j]? = some x := ⟨_, List.getElem?_eq_getElem (by have := HN.out; omega)⟩
      have hlg := HE.out.below (bthen HB.out HBr.out (Nat.le_refl _)) (Nat.le_refl _)
      rcases hlg.2.2 with he3 | ⟨g, off, hA, hg, hcl⟩
      · omega
      obtain ⟨d0, d1, d2, d3, d4⟩ := hcl j x hx
      have hxk := HK.out x (List.mem_of_getElem? hx)
      have k2 : (x.k != 2) = true := by simpa using hxk
      have k3 : (x.k == 2) = false := by simpa using hxk
      rw [hA]
      have s0 : wrap64 ((j : Int) + 1) = ((j + 1 : Nat) : Int) := by unfold wrap64; omega
      have HJ := Lib.hid hj
      have HBn := Lib.hid (HBr.out.alloc HBr.out.size (.cells #[.int .i64 x.k, .int .u32 (x.h : Int), .int .u32 (x.p : Int), .int .i64 x.at_, .slice x.A x.n x.c] 58))
      clear hcl hx hlg hg hj hxk hf hc hc2
      go_wp2_with fail
      exact ⟨⟨j + 1, HJ.out, by go_num, HBn.out⟩, by show n - ((j : Int) + 1).toNat < n - (j : Int).toNat; have := HJ.out; omega⟩
    · have e1' : ((j : Int) < (n : Int)) = False := by simp only [eq_iff_iff, iff_false]; omega
      go_wp2_with fail
      exact bodyPost_end (v := .tuple #[]) (by simp [results, Try.results30, go_sem]) rfl ⟨rfl, bthen HB.out HBr.out (Nat.le_refl _)⟩
theorem thefts_any (A Af : Option Addr) (n c m d : Nat) (w : World) : Calls Try.prog 26 #[.slice A n c, .slice Af m d] w fun e w' =>
    e = .returned (.func (.func 30) #[] #[.pointer (some ⟨w.heap.size + 1, 0, none⟩), .pointer (some ⟨w.heap.size, 0, none⟩)]) ∧ w' = (w.alloc (.cells #[.slice A n c] 28)).alloc (.cells #[.slice Af m d] 37) := by
  go_enter Try.func26, Try.ntmps26
  go_wp2
  go_ret
  exact ⟨rfl, rfl⟩
theorem cell_box (W : World) (v : Value) (t : TypeId) : (W.alloc (.cells #[v] t)).cell? ⟨W.heap.size, 0, none⟩ = some v := by
  rw [cell_of_row _ _ 0 #[v] t (0, 0) (heap_alloc_new W _)]; rfl
set_option maxHeartbeats 2000000 in
theorem first_none {w : World} {n c : Nat} {A : Option Addr} {E : List Ev} (h : Lg w w.heap.size A n E) (hn : n ≤ 1000) (hk : ∀ x ∈ E, x.k ≠ 2) :
    Calls Try.prog 29 #[.slice A n c, .slice none 0 0] w fun e w' => ∃ b, e = .returned (.map (some b)) ∧ Mp Try.prog 61 (.int .i64 0) w' b 0 (fun _ => .int .i64 0) (fun _ => false) ∧ RowKit.Below w.heap.size w w' := by
  have hmm := @run_makeMap Try.prog
  obtain ⟨W, hW⟩ : ∃ W, W = (w.alloc (.map #[] 0)).alloc (.cells #[.map (some w.heap.size)] 87) := ⟨_, rfl⟩
  have hb : RowKit.Below w.heap.size w W := by rw [hW]; exact ((Below.refl _ _).alloc (Nat.le_refl _) _).alloc (by simp) _
  have hsz : W.heap.size = w.heap.size + 2 := by rw [hW]; simp
  have hbox : W.cell? ⟨w.heap.size + 1, 0, none⟩ = some (.map (some w.heap.size)) := by
    rw [hW]; simp
  have hmp : Mp Try.prog 61 (.int .i64 0) W w.heap.size 0 (fun _ => .int .i64 0) (fun _ => false) :=
    (Mp.made Try.prog 61 (.int .i64 0) w).keep (by rw [hW]; exact ((Below.refl _ (w.alloc (.map #[] 0))).alloc (Nat.le_refl _) _).block _ (by simp))
  have HW := Lib.hid hW
  have HMp := Lib.hid hmp
  have HE := Lib.hid h
  have HK := Lib.hid hk
  have HB := Lib.hid hb
  have HS := Lib.hid hsz
  have HBx := Lib.hid hbox
  clear hW hmp h hk hb hsz hbox
  refine (callsIn_wide (n := 9)).1 ?_
  refine callsIn_of_wp_marks Try.func29 rfl trivial ?_ rfl
  simp only [Try.ntmps29, List.size_toArray, List.length_cons, List.length_nil, Nat.reduceAdd, Nat.reduceSub, Array.replicate_succ, Array.replicate_zero, List.push_toArray, List.append_toArray, List.nil_append, List.cons_append]
  gi_wp2_with fail
  clear hmm
  refine ⟨trivial, ?_⟩
  change CallsIn _ _ _ _ _ ((w.alloc (.map #[] 0)).alloc (.cells #[.map (some w.heap.size)] 87)) _
  rw [← HW.out]
  refine (callsIn_wide.2 (thefts_any A none n c 0 0 W)).mono ?_
  rintro e w3 ⟨rfl, hw3⟩
  have hb3 : RowKit.Below W.heap.size W w3 := by rw [hw3]; exact ((Below.refl _ _).alloc (Nat.le_refl _) _).alloc (by simp) _
  have hc1 : w3.cell? ⟨W.heap.size, 0, none⟩ = some (.slice A n c) := by
    rw [hw3]
    have h1 := cell_box W (.slice A n c) 28
    exact (((Below.refl (W.heap.size + 1) (W.alloc (.cells #[.slice A n c] 28))).alloc (by simp) _).cell (p := ⟨W.heap.size, 0, none⟩) (Nat.lt_succ_self _)).trans h1
  have hc2 : w3.cell? ⟨W.heap.size + 1, 0, none⟩ = some (.slice none 0 0) := by
    rw [hw3]
    have h1 := cell_box (W.alloc (.cells #[.slice A n c] 28)) (.slice none 0 0) 37
    rwa [World.size_alloc] at h1
  have HB3 := Lib.hid (bthen HB.out hb3 (Nat.le_refl _))
  have HBW := Lib.hid hb3
  have HC1 := Lib.hid hc1
  have HC2 := Lib.hid hc2
  clear hw3 hb3 hc1 hc2
  gi_wp2_with fail
  refine range_none rfl (by omega) rfl trivial (fun args w => by kernel_rfl) ?_ ?_
  · intro l W' hbW
    have h1 := HE.out.below (bthen HB3.out hbW (Nat.le_refl _)) (Nat.le_refl _)
    have hlt1 := World.block_lt_of_cell? w3 _ HC1.out
    have hlt2 := World.block_lt_of_cell? w3 _ HC2.out
    refine (callsIn_wide.2 (thefts1_none l (W.heap.size + 1) W.heap.size ((hbW.cell (p := ⟨W.heap.size + 1, 0, none⟩) hlt2).trans HC2.out) ((hbW.cell (p := ⟨W.heap.size, 0, none⟩) hlt1).trans HC1.out) (h1.more (bthen HB3.out hbW (Nat.le_refl _)).size) hn HK.out)).mono ?_
    rintro e W2 ⟨rfl, hb2⟩
    exact ⟨⟨_, rfl⟩, hb2⟩
  · intro D W' hD hb' hd
    have hlt : w.heap.size + 1 < W.heap.size := World.block_lt_of_cell? W _ HBx.out
    have hc5 : W'.cell? ⟨w.heap.size + 1, 0, none⟩ = some (.map (some w.heap.size)) := (hb'.cell (p := ⟨w.heap.size + 1, 0, none⟩) (Nat.lt_of_lt_of_le hlt HBW.out.size)).trans ((HBW.out.cell (p := ⟨w.heap.size + 1, 0, none⟩) hlt).trans HBx.out)
    have HMp2 := Lib.hid (HMp.out.keep (w' := W') ((hb'.block _ (Nat.lt_of_lt_of_le HMp.out.lt HBW.out.size)).trans (HBW.out.block _ HMp.out.lt)))
    have HBe := Lib.hid (bthen HB3.out hb' (Nat.le_refl _))
    have HD := Lib.hid hd
    have HDl := Lib.hid hD
    clear hd hb' hD hlt
    gi_wp2_with fail
    refine ⟨by simp, .inl ⟨_, _, rfl, run_takeDeferred HD.out, ?_⟩⟩
    have hD := HDl.out
    have hw3 := HB3.out.size
    have hM := HMp.out.lt
    have hWs := HBW.out.size
    refine ⟨.map (some w.heap.size), by simp [results, Try.results29, go_sem], w.heap.size, rfl, HMp2.out.keep (World.putObj_heap_other (by omega)), ?_⟩
    exact HBe.out.grown (grownBy_putObj' W' _ _) HBe.out.size (fun k e => by cases e; omega)
end Go.Proofs.Ytompggkdjbkjjaa
