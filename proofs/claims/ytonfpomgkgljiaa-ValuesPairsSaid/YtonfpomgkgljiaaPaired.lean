/- For every two uint32, every row of bytes and every int the Go function ValuesPairs returns true and leaves its arguments as they were. No condition. -/
import Derived.Test.YtonfpomgkgljiaaV9
namespace Go.Proofs.Ytonfpomgkgljiaa.valuesPairsP
open Go.ChangeShapes Go.WideShapes Go.ChangeAt Go.RowKit
set_option linter.unusedVariables false

theorem nb_of_row {W : World} {x : Addr} {len cap : Nat} {zs : List Int} (hl : len ≤ cap) (hm : cap ≤ maxLen) (hz : zs.length = cap) (hcell : ∀ i, i < zs.length → W.cell? (x.add i) = some (.int .u8 (zs.getD i 0))) (hwz : ∀ n ∈ zs, (Lit.int .u8 n).wf = true) :
    Nb W W.heap.size (some x) len cap ((zs.take len).map Int.toNat) := by
  have hb : ∀ n ∈ zs, 0 ≤ n ∧ n ≤ 255 := fun n hn => by
    have := hwz n hn
    simp [Lit.wf, IntKind.min, IntKind.max, IntKind.signed, IntKind.bits] at this
    omega
  refine ⟨by simp; omega, hl, hm, ?_, ?_⟩
  · intro y hy
    simp only [List.mem_map] at hy
    obtain ⟨n, hn, rfl⟩ := hy
    have := hb n (List.mem_of_mem_take hn)
    omega
  · intro h0
    have hc := hcell 0 (by omega)
    obtain ⟨b, off, spot⟩ := x
    have hspot : spot = none := by simpa [Addr.add] using World.cell?_spot hc
    subst hspot
    have hlt := World.block_lt_of_cell? W _ hc
    refine ⟨b, off, rfl, by simpa [Addr.add] using hlt, fun j y hj => ?_⟩
    simp only [List.getElem?_map, Option.map_eq_some_iff, List.getElem?_take] at hj
    obtain ⟨n, hn, rfl⟩ := hj
    split at hn
    · have hj2 : j < zs.length := by
        rcases Nat.lt_or_ge j zs.length with h | h
        · exact h
        · rw [List.getElem?_eq_none h] at hn; cases hn
      have h1 := hcell j hj2
      have h2 : zs.getD j 0 = n := by simp [List.getD, hn]
      rw [h2] at h1
      have h3 := hb n (List.mem_of_getElem? hn)
      rw [show ((n.toNat : Nat) : Int) = n by omega]
      by_cases hj0 : j = 0
      · subst hj0; simpa [Addr.add] using h1
      · simpa [Addr.add, hj0] using h1
    · cases hn

theorem u32_nat {a : Int} (w : (Lit.int .u32 a).wf = true) : ∃ y : Nat, a = (y : Int) ∧ y < 4294967296 := by
  simp [Lit.wf, IntKind.min, IntKind.max, IntKind.signed, IntKind.bits] at w
  exact ⟨a.toNat, by omega, by omega⟩
theorem nb_of_bb {w : World} {g t : Nat} {xs : List Nat} (h : Bb w g t xs) (hl : xs.length = 8) (hL : Lim 256 xs) : Nb w w.heap.size (some ⟨g, 0, none⟩) 8 8 xs :=
  ⟨hl, Nat.le_refl _, by omega, hL, fun _ => ⟨g, 0, rfl, h.lt, fun j x hx => by rw [Nat.zero_add]; exact h.cell hx⟩⟩
theorem pairs_both (n c : Nat) (A : Option Addr) (xs : List Nat) (hn : n ≤ 100) (hc : n ≤ c) (hcm : c ≤ 9223372036854775807) : ∃ (X Y : Nat) (E : Int),
    (∀ w, Nb w w.heap.size A n c xs → Calls Try.prog 20 #[.slice A n c] w fun e w' => e = .returned (.tuple #[.int .u32 (X : Int), .int .u32 (Y : Int), .int .i64 E]) ∧ Below w.heap.size w w') ∧
    (∀ w, Nb w w.heap.size A n c xs → Calls Try.prog 21 #[.slice A n c] w fun e w' => e = .returned (.tuple #[.int .u32 (X : Int), .int .u32 (Y : Int), .int .i64 E]) ∧ Below w.heap.size w w') := by
  by_cases h8 : n = 8
  · subst h8
    have key : ∀ w, Nb w w.heap.size A 8 c xs → ∃ g o, A = some ⟨g, o, none⟩ ∧ (∀ j, j < 8 → w.cell? ⟨g, o + j, none⟩ = some (.int .u8 ((xs.getD j 0 : Nat) : Int))) ∧ (∀ j, xs.getD j 0 < 256) := fun w h => by
      obtain ⟨g, o, e, _, _⟩ := h.cell (by omega)
      refine ⟨g, o, e, fun j hj => ?_, fun j => h.lim.get (by omega) j⟩
      obtain ⟨g', o', e', _, hcell⟩ := h.at_ hj
      rw [e] at e'
      cases e'
      exact hcell
    refine ⟨word (xs.getD 0 0) (xs.getD 1 0) (xs.getD 2 0) (xs.getD 3 0), word (xs.getD 4 0) (xs.getD 5 0) (xs.getD 6 0) (xs.getD 7 0), 0, fun w h => ?_, fun w h => ?_⟩
    · obtain ⟨g, o, rfl, h1, h2⟩ := key w h
      exact pairOf_eight hc hcm (fun j => xs.getD j 0) h1 h2
    · obtain ⟨g, o, rfl, h1, h2⟩ := key w h
      exact rpairOf_eight hc hcm (fun j => xs.getD j 0) h1 h2
  · refine ⟨0, 0, 3, fun w _ => (pairOf_bad A n c h8 (by omega) w).mono ?_, fun w _ => (rpairOf_bad A n c h8 (by omega) w).mono ?_⟩
    all_goals (rintro e w' ⟨rfl, rfl⟩; exact ⟨rfl, Below.refl _ _⟩)
set_option maxHeartbeats 16000000 in
theorem law_any {W : World} (a : Nat) (ha : a < 4294967296) (b : Nat) (hb : b < 4294967296) {A : Option Addr} {n cc : Nat} {x : List Nat} (hx : Nb W W.heap.size A n cc x) (k : Int) (wk : (Lit.int .i64 k).wf = true) :
    Calls Try.prog 4 #[.int .u32 (a : Int), .int .u32 (b : Int), .slice A n cc, .int .i64 k] W (Yes W) := by
  have hr := hx.room
  have hcp := hx.cap
  clear wk
  by_cases y0 : 100 < n
  · go_enter Try.func4, Try.ntmps4
    go_wp2_with fail
    refine (alive_any W).mono ?_
    rintro e w1 ⟨rfl, b1⟩
    go_wp2_with fail
    go_ret
    exact ⟨rfl, b1⟩
  obtain ⟨X, Y, E, Q1, Q2⟩ := pairs_both n cc A x (by omega) hcp hr
  obtain ⟨S, hS⟩ : ∃ S, bstr (by4 a ++ by4 b) = S := ⟨_, rfl⟩
  have HS := Lib.hid hS
  have hself := eq_self S
  have R1 := Lib.hid (fun w => pair_any a b ha hb w)
  have R2 := Lib.hid (fun w => rpair_any a b ha hb w)
  have L8 := Lib.hid (show (by4 a ++ by4 b).length = 8 from rfl)
  have LL := Lib.hid (show Lim 256 (by4 a ++ by4 b) from Lim.append (by4_lim a) (by4_lim b))
  have P1 := Lib.hid Q1
  have P2 := Lib.hid Q2
  clear hS Q1 Q2 ha hb
  go_enter Try.func4, Try.ntmps4
  go_wp2_with fail
  refine (P1.out W hx).mono ?_
  rintro e w1 ⟨rfl, B1⟩
  go_wp2_with fail
  refine (P2.out w1 (hx.far B1)).mono ?_
  rintro e w2 ⟨rfl, b2⟩
  have B2 := far_ B1 b2
  clear B1 b2 P1 P2 hx
  obtain ⟨w3, hw3⟩ : ∃ w3, w3 = w2.alloc (.cells #[.int .i64 0, .map none] 51) := ⟨_, rfl⟩
  have b3 : Below w2.heap.size w2 w3 := by rw [hw3]; exact (Below.refl _ _).alloc (Nat.le_refl _) _
  have t3 : Shelf0 w3 w2.heap.size := ⟨by
    have := World.alloc_heap_new w2 (.cells #[.int .i64 0, .map none] 51)
    rw [hw3]; unfold World.cell?; rw [this]; rfl⟩
  have B3 := far_ B2 b3
  have HW := Lib.hid hw3
  clear hw3 B2 b3
  go_wp2_with fail
  change Calls _ _ _ (w2.alloc (.cells #[.int .i64 0, .map none] 51)) _
  rw [← HW.out]
  generalize w2.heap.size = G at *
  clear HW
  refine (get_nil k w3).mono ?_
  rintro e w4 ⟨rfl, b4⟩
  have B4 := far_ B3 b4
  have t4 := t3.below b4
  clear B3 b4 t3
  unfold zeroV
  go_wp2_with fail
  change Calls _ _ _ (w4.alloc (ObjV 0)) _
  have q4 : Below w4.heap.size w4 (w4.alloc (ObjV 0)) := (Below.refl _ _).alloc (Nat.le_refl _) _
  have B4' := far_ B4 q4
  have t4' := t4.below q4
  clear q4 B4 t4
  generalize w4.alloc (ObjV 0) = v4 at *
  generalize w4.heap.size = G4 at *
  refine (get_zero t4' k).mono ?_
  rintro e w5 ⟨rfl, b5⟩
  have B5 := far_ B4' b5
  have t5 := t4'.below b5
  clear B4' b5 t4'
  unfold zeroV
  go_wp2_with fail
  change Code.wp _ _ _ _ (w5.alloc (ObjV 0))
  have q5 : Below w5.heap.size w5 (w5.alloc (ObjV 0)) := (Below.refl _ _).alloc (Nat.le_refl _) _
  have B6 := far_ B5 q5
  have t6 := t5.below q5
  clear q5 B5 t5
  generalize w5.alloc (ObjV 0) = v5 at *
  generalize w5.heap.size = G5 at *
  have Bd : Below W.heap.size W v5.drew := B6.drew
  have td : Shelf0 v5.drew G := ⟨t6.c0⟩
  clear B6 t6
  go_region_held (fun w' => True) (exact trivial)
    ((first
    | (go_at_call 10; refine (alive_any _).mono ?_; rintro e x1 ⟨rfl, b1⟩; have B1 := far_ Bd b1; have t1 := td.below b1)
    | (go_at_call 22; with_reducible refine (R1.out _).mono ?_; rintro e x2 ⟨g2, rfl, n2', b2⟩; have B2 := far_ B1 b2; have t2 := t1.below b2; have n2 := nb_of_bb n2' L8.out LL.out; have cv2 := conv_any n2; rw [HS.out] at cv2)
    | (go_at_call 23; with_reducible refine (R2.out _).mono ?_; rintro e x3 ⟨A3, c3, rfl, n3, b3⟩; have B3 := far_ B2 b3; have t3 := t2.below b3; have cv23 := conv_any (n2.far b3); rw [HS.out] at cv23; have cv3 := conv_any n3; rw [HS.out] at cv3)
    | (go_at_call 12; with_reducible refine (put_nil k _).mono ?_; rintro e x4 ⟨rfl, b4⟩; have B4 := far_ B3 b4; have t4 := t3.below b4)
    | (go_at_call 12; refine (put_zero t4 k).mono ?_; rintro e x5 ⟨rfl, b5⟩; have B5 := far_ B4 b5; have t5 := t4.below b5)
    | (go_at_call 18; with_reducible refine (sorts_nil _).mono ?_; rintro e x6 ⟨rfl, b6⟩; have B6 := far_ B5 b6; have t6 := t5.below b6)
    | (go_at_call 18; refine (sorts_zero t6).mono ?_; rintro e x7 ⟨rfl, b7⟩; have B7 := far_ B6 b7)))
  all_goals go_wp2
  all_goals go_ret
  all_goals exact ⟨rfl, B7⟩

set_option maxRecDepth 100000 in
theorem lifted (os : Os) (started : os.Started) (H : Type) (enc : TypeId × Value → H) :
    ReturnsInHanded {} Try.checked os 4 .any (Rows.valuesPairsSpec.pre6 enc Try.prog Try.f4 Rows.valuesPairsRow.domain false) (Rows.valuesPairsSpec.post enc Try.prog Try.f4 false true false false) := by
  refine returnsInHanded_of_change (C := Try.checked) own started (by kernel_rfl) Try.func4
    (ChangeSpec.witness6 (enc := enc) (C := Try.checked) false ⟨#[], #[.int .u32 0, .int .u32 0, .slice none 0 0, .int .i64 0], []⟩ 8 (by kernel_rfl) (by kernel_rfl) (by kernel_rfl) (by kernel_rfl)) ?_
  intro W base args ds gs before hval0 hW hcnd _
  have hval : ∀ (j : Nat) t v, Try.f4.params[j]? = some t → args[j]? = some v → Value.okWide Try.prog W .any base t v := hval0
  have hW' := hW
  obtain ⟨p, q, hA0, hV, rfl, hfz, hnd⟩ := hW
  have hA : DataW.TrodAll enc Try.prog W 0 (fun _ => true) true Try.f4.params.toList args.toList ds p := hA0
  rw [Try.params4] at hA hval
  obtain ⟨v0, vs0, d0, ds0, p0, q0, hargs, rfl, rfl, h0, r0⟩ := trodAll_cons hA
  obtain ⟨v1, vs1, d1, ds1, p1, q1, rfl, rfl, rfl, h1, r1⟩ := trodAll_cons r0
  obtain ⟨v2, vs2, d2, ds2, p2, q2, rfl, rfl, rfl, h2, r2⟩ := trodAll_cons r1
  obtain ⟨v3, vs3, d3, ds3, p3, q3, rfl, rfl, rfl, h3, r3⟩ := trodAll_cons r2
  obtain ⟨rfl, rfl, rfl⟩ := trodAll_nil r3
  obtain rfl : args = #[v0, v1, v2, v3] := by cases args; simp_all
  obtain ⟨rfl, rfl⟩ := trodVars_none hV
  obtain ⟨a0, rfl, rfl, rfl, w0⟩ := open_int Try.underlying30 (hval 0 30 v0 rfl rfl) h0
  obtain ⟨y0, rfl, u0⟩ := u32_nat w0
  obtain ⟨a1, rfl, rfl, rfl, w1⟩ := open_int Try.underlying30 (hval 1 30 v1 rfl rfl) h1
  obtain ⟨y1, rfl, u1⟩ := u32_nat w1
  obtain ⟨a2, len2, cap2, rfl⟩ := okWide_slice Try.underlying31 (hval 2 31 v2 rfl rfl)
  have k2 := h2
  have lt2 : ∀ x ∈ p2, x.block < W.heap.size := by obtain ⟨m, hm⟩ := k2; exact DataW.trod_lt m _ _ _ hm
  obtain ⟨z2, w2⟩ : ∃ zs, Nb W W.heap.size a2 len2 cap2 zs := by
    obtain ⟨fuel, hf⟩ := h2
    rcases open_ints Try.underlying31 Try.underlying5 (by kernel_rfl) hf with ⟨hcs, _⟩ | ⟨x, l, c, zs, hcs, _, hl, hm, hz, _, hcell, hwz⟩
    · simp [Value.cells] at hcs
      obtain ⟨rfl, rfl, rfl⟩ := hcs
      exact ⟨[], Nb.nil _ _ 0 (by omega) none⟩
    · simp [Value.cells] at hcs
      obtain ⟨rfl, rfl, rfl⟩ := hcs
      exact ⟨_, nb_of_row hl hm (by simpa using hz) hcell hwz⟩
  obtain ⟨a3, rfl, rfl, rfl, w3⟩ := open_int Try.underlying3 (hval 3 3 v3 rfl rfl) h3
  clear hA0 hval0
  refine (law_any y0 u0 y1 u1 w2 a3 w3).mono fun e W' ⟨he, bel⟩ => ?_
  subst he
  exact ⟨_, rfl, _, _, _, [], _, [], hW', trodAll_mk1 (shut_bool Try.underlying4 _), (trodAll_cons_mk (shut_int Try.underlying30 w0) (trodAll_cons_mk (shut_int Try.underlying30 w1) (trodAll_cons_mk (Below.trod laidOut (by kernel_rfl) (of_decide_eq_true (by kernel_rfl)) k2 bel lt2) (trodAll_cons_mk (shut_int Try.underlying3 w3) trodAll_mk0)))), rfl, bel.frame _, fun h => by cases h⟩

theorem valuesPairs_holds : Rows.ValuesPairsSaid :=
  OpenClaim.holds_of_wide 4 Try.f4 rfl rfl rfl rfl rfl rfl rfl ⟨rfl, rfl, rfl, rfl, rfl⟩ rfl rfl rfl rfl rfl (by kernel_rfl) Try.func4 (by kernel_rfl)
    (of_decide_eq_true (by kernel_rfl)) (by unfold Func.isWrapper; first | (rw [if_pos (by decide +kernel)]; kernel_rfl) | (rw [if_neg (by decide +kernel)]; exact ⟨rfl, rfl⟩))
    (fun os started H enc _ => lifted os started H enc)
#print axioms valuesPairs_holds
end Go.Proofs.Ytonfpomgkgljiaa.valuesPairsP
