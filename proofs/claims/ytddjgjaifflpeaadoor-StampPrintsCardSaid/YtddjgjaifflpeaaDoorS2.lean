/- stamp.Parse of a text that is no time's. -/
import Derived.Test.YtddjgjaifflpeaaDoorS1
namespace Go.Proofs.YtddjgjaifflpeaaDoor
open Go.RowKit
set_option linter.unusedVariables false
set_option linter.unusedSimpArgs false
set_option maxRecDepth 100000
section
variable {P : Program} {ops : Array Oper} {Q : Exit → Act → World → Prop} {md : Region.Mode}
theorem skip_op {i d : Nat} {o : Oper} {fuel : Nat} {listed : Array Bool} {a a' : Act} {w : World} (hi : ops[i]? = some o)
    (hs : Region.noSelect ops = true) (hf : Region.free md ops listed i = true) (hr : (Region.ready md ops listed).contains i = true)
    (hQ : ∀ c a w, Q (.panic c) (a.put (some d) undef) w → Q (.panic c) a w) (hdst : o.dst = some d)
    (hw : Region.wanted o (yielded ops a.tmps) = false) (hd : a.put (some d) undef = a')
    (g : wpAny P md ops Q fuel (listed.setIfInBounds i true) a' w) : wpAny P md ops Q (fuel + 1) listed a w :=
  wpAny_take hi hs hf hr (by rw [hdst]; exact hQ) (Or.inr ⟨hw, rfl⟩) (by rw [hdst, hd]; exact g)
end
set_option maxHeartbeats 4000000 in
theorem parse_no (s a b : ByteArray) (T : Nat) (hT : num (pad a) % 4294967296 * 4294967296 + least (num (pad b)) = T) (hne : ¬ (ten (T / 4294967296) = pad a ∧ ten (T % 4294967296 * 9765625 / 4194304) = pad b)) (H : ∀ w, Calls Tryd.prog 38 #[.string s, .string ⟨#[46]⟩] w fun e w' => (∃ q, w' = w.drewN q) ∧ e = .returned (.tuple #[.string a, .string b, .bool true])) (h : fits a b = true) (w : World) : Calls Tryd.prog 31 #[.string s] w fun e w' => e = none_ ∧ Below w.heap.size w w' := by
  have H := Lib.hid H
  have hF := Lib.hid h
  unfold fits at h
  rw [decide_eq_true_iff] at h
  obtain ⟨g1, g2, g3, g4⟩ := h
  obtain ⟨D, hD⟩ : ∃ D, pad a = D := ⟨_, rfl⟩
  obtain ⟨E, hE⟩ : ∃ E, pad b = E := ⟨_, rfl⟩
  have dA := digitsOf_any a g1 g2
  have dB := digitsOf_any b (by omega) (by omega)
  have lD : D.length = 10 := by rw [← hD]; exact length_pad a g2
  have lE : E.length = 10 := by rw [← hE]; exact length_pad b (by omega)
  have mD : Lim 256 D := by rw [← hD]; exact lim_pad a
  have mE : Lim 256 E := by rw [← hE]; exact lim_pad b
  rw [hD] at dA
  rw [hE] at dB
  have HdA := Lib.hid dA
  have HdB := Lib.hid dB
  have HlD := Lib.hid lD
  have HlE := Lib.hid lE
  have HmD := Lib.hid mD
  have HmE := Lib.hid mE
  obtain ⟨X, hX⟩ : ∃ X, num D = X := ⟨_, rfl⟩
  obtain ⟨Y, hY⟩ : ∃ Y, num E = Y := ⟨_, rfl⟩
  obtain ⟨S, hS⟩ : ∃ S, X % 4294967296 = S := ⟨_, rfl⟩
  obtain ⟨L, hL⟩ : ∃ L, least Y = L := ⟨_, rfl⟩
  rw [hD, hE] at hne
  rw [hD, hE, hX, hY, hS, hL] at hT
  have lX : X < 18446744073709551616 := by rw [← hX, ← List.take_of_length_le (Nat.le_of_eq lD)]; exact num_lt D 10
  have lY : Y < 18446744073709551616 := by rw [← hY, ← List.take_of_length_le (Nat.le_of_eq lE)]; exact num_lt E 10
  have lS : S < 4294967296 := by omega
  have lL : L < 4294967296 := by rw [← hL]; unfold least; omega
  have lT : T < 18446744073709551616 := by omega
  have e1 : IntKind.u32.wrap (X : Int) = (S : Int) := by rw [IntKind.wrap_u32]; omega
  have q1 := secDigits_any T lT
  have q2 := partDigits_any T lT
  obtain ⟨D2, hD2⟩ : ∃ D2, ten (T / 4294967296) = D2 := ⟨_, rfl⟩
  obtain ⟨E2, hE2⟩ : ∃ E2, ten (T % 4294967296 * 9765625 / 4194304) = E2 := ⟨_, rfl⟩
  have lD2 : D2.length = 10 := by rw [← hD2]; exact length_low _ _
  have lE2 : E2.length = 10 := by rw [← hE2]; exact length_low _ _
  have mD2 : Lim 256 D2 := by rw [← hD2]; exact lim_low _ _
  have mE2 : Lim 256 E2 := by rw [← hE2]; exact lim_low _ _
  rw [hD2] at q1
  rw [hE2] at q2
  rw [hD2, hE2] at hne
  have Hne := Lib.hid hne
  have Hsec := Lib.hid q1
  have Hpart := Lib.hid q2
  have hsD := Lib.hid (neq_ten D2 D lD2 lD mD2 mD)
  have hsE := Lib.hid (neq_ten E2 E lE2 lE mE2 mE)
  have n1 := number_any D lD mD
  have n2 := number_any E lE mE
  have n3 := least_any Y lY
  have n4 := make_any S L lS lL
  rw [hX] at n1
  rw [hY] at n2
  rw [hL] at n3
  rw [hT] at n4
  have Hn1 := Lib.hid n1
  have Hn2 := Lib.hid n2
  have Hlst := Lib.hid n3
  have Hmk := Lib.hid n4
  clear g1 g2 g3 g4 dA dB lD lE mD mE hD hE n1 n2 n3 n4 hX hY hS hL hT hne q1 q2 hD2 hE2 lD2 lE2 mD2 mE2
  go_enter Tryd.func31, Tryd.ntmps31
  go_wp2_with fail
  refine (H.out _).mono ?_
  rintro e w' ⟨⟨q, rfl⟩, rfl⟩
  go_wp2_with fail
  refine (fits_any _ _ _).mono ?_
  rintro e w' ⟨⟨q2, rfl⟩, rfl⟩
  rw [hF.out]
  have B0 : Below w.heap.size w ((w.drewN q).drewN q2) := below_drewN (below_drewN (Below.refl _ _) _) _
  generalize (w.drewN q).drewN q2 = w0 at *
  go_wp2_with fail
  refine (HdA.out _).mono ?_
  rintro e w1 ⟨rfl, b1⟩
  have B1 := B0.trans (b1.mono B0.size)
  clear b1 B0
  go_wp2_with fail
  refine (HdB.out _).mono ?_
  rintro e w2 ⟨rfl, b2⟩
  have B2 := B1.trans (b2.mono B1.size)
  clear b2 B1
  have n1 : Bb ((w2.alloc (Yb 51 (List.replicate 10 0))).alloc (Yb 51 (List.replicate 10 0))) w2.heap.size 51 (List.replicate 10 0) := (alloc_bb _ _ _).alloc _
  have n2 : Bb ((w2.alloc (Yb 51 (List.replicate 10 0))).alloc (Yb 51 (List.replicate 10 0))) (w2.heap.size + 1) 51 (List.replicate 10 0) := by
    have := alloc_bb (w2.alloc (Yb 51 (List.replicate 10 0))) 51 (List.replicate 10 0)
    rwa [World.size_alloc] at this
  have B3 : Below w.heap.size w ((w2.alloc (Yb 51 (List.replicate 10 0))).alloc (Yb 51 (List.replicate 10 0))) := (B2.alloc B2.size _).alloc (by simp; have := B2.size; omega) _
  have hs2 := B2.size
  obtain ⟨w3, hw3⟩ : ∃ w3, (w2.alloc (Yb 51 (List.replicate 10 0))).alloc (Yb 51 (List.replicate 10 0)) = w3 := ⟨_, rfl⟩
  rw [hw3] at n1 n2 B3
  have Hw3 := Lib.hid hw3
  clear hw3 B2
  have m1 : Bb (w3.setRow w2.heap.size (bs D).toArray) w2.heap.size 51 D := setRow_heap _ _ _ _ _ _ n1
  have n3 : Bb (w3.setRow w2.heap.size (bs D).toArray) (w2.heap.size + 1) 51 _ := (setRow_other _ _ _ _ (by omega)).trans n2
  have m2 : Bb ((w3.setRow w2.heap.size (bs D).toArray).setRow (w2.heap.size + 1) (bs E).toArray) (w2.heap.size + 1) 51 E := setRow_heap _ _ _ _ _ _ n3
  have m3 : Bb ((w3.setRow w2.heap.size (bs D).toArray).setRow (w2.heap.size + 1) (bs E).toArray) w2.heap.size 51 D := (setRow_other _ _ _ _ (by omega)).trans m1
  have B4 : Below w.heap.size w ((w3.setRow w2.heap.size (bs D).toArray).setRow (w2.heap.size + 1) (bs E).toArray) := below_setRow (below_setRow B3 hs2 _) (by omega) _
  obtain ⟨w4, hw4⟩ : ∃ w4, (w3.setRow w2.heap.size (bs D).toArray).setRow (w2.heap.size + 1) (bs E).toArray = w4 := ⟨_, rfl⟩
  rw [hw4] at m2 m3 B4
  have Hw4 := Lib.hid hw4
  clear hw4 B3
  have Hr1 := Lib.hid n1
  have Hr3 := Lib.hid n3
  clear n1 n2 n3 m1
  go_wp2_with (first
    | (change wpList _ _ _ _ _ ((w2.alloc (Yb 51 (List.replicate 10 0))).alloc (Yb 51 (List.replicate 10 0))); rw [Hw3.out]; refine wpList_store_row rfl rfl 51 (.tmp 7) (.tmp 21) rfl w2.heap.size rfl (bs D) rfl 51 _ Hr1.out (bs_one _) (by rw [length_bs, HlD.out]; simp [bs]) (by rw [length_bs, HlD.out]; kernel_rfl) ?_)
    | (refine wpList_store_row rfl rfl 51 (.tmp 8) (.tmp 23) rfl (w2.heap.size + 1) rfl (bs E) rfl 51 _ Hr3.out (bs_one _) (by rw [length_bs, HlE.out]; simp [bs]) (by rw [length_bs, HlE.out]; kernel_rfl) ?_; rw [Hw4.out]))
  refine wp_mono (Q := fun e9 a9 w9 => e9 = Exit.normal ∧ a9 = ⟨#[.string s, undef, .int .u64 0, .int .i64 0, .string a, .string b, .bool true, .pointer (some ⟨w2.heap.size, 0, none⟩), .pointer (some ⟨w2.heap.size + 1, 0, none⟩), .int .u64 T, .tuple #[.string a, .string b, .bool true], .string s, .tuple #[.string a, .string b, .bool true], .string a, .string b, .bool true, .string a, .string b, .bool true, .bool false, .string a, .agg (bs D).toArray, .string b, .agg (bs E).toArray, .agg (bs D).toArray, .int .u64 X, .int .u32 S, .agg (bs E).toArray, .int .u64 Y, .int .u32 L, .int .u64 T, undef, undef, undef, undef, undef, undef, undef, undef, undef, undef, undef], []⟩ ∧ Bb w9 w2.heap.size 51 D ∧ Bb w9 (w2.heap.size + 1) 51 E ∧ Below w.heap.size w w9) ?reg ?rest
  case reg =>
    refine wp_region_any (by kernel_rfl) ?_
    change wpAny _ _ _ _ _ _ _ (World.drew _)
    replace m2 := m2.drew
    replace m3 := m3.drew
    replace B4 := below_drew B4
    generalize w4.drew = w5 at *
    refine wpAny_ready (rs := [0, 3]) (by kernel_rfl) (by simp) ?_
    refine AllReady.cons rfl (fun K hK => ?A0_0) (AllReady.cons rfl (fun K hK => ?A0_3) AllReady.nil)
    case A0_0 =>
      rw [if_pos (by rfl)]
      change Oper.wp _ ⟨some 24, Op.load 51 (.tmp 7), _, _, _, _⟩ _ _ _ _
      refine wp_load_row (a' := _) rfl m3 HlD.out (by go_simp; exact rfl) ?_
      refine hK _ _ ?_
      clear hK K
      refine wpAny_ready (rs := [1, 3]) (by kernel_rfl) (by simp) ?_
      refine AllReady.cons rfl (fun K hK => ?A1_1) (AllReady.cons rfl (fun K hK => ?A1_3) AllReady.nil)
      case A1_1 =>
        go_simp
        go_at_call 41
        refine (Hn1.out _).mono ?_
        rintro e wn ⟨rfl, bb⟩
        have bn := bb
        replace m2 := m2.below bn m2.lt
        replace m3 := m3.below bn m3.lt
        replace B4 := B4.trans (bn.mono B4.size)
        clear bn bb
        dsimp only
        try go_simp
        refine hK _ _ ?_
        clear hK K
        refine take_op (i := 2) (d := 26) (v := .int .u32 S) (a' := _) (by rfl) (by kernel_rfl) (by kernel_rfl) (by kernel_rfl) (fun _ _ _ h => by cases h.1) (by rfl) (by rfl) (fun W => by go_simp; try rfl) (by go_simp; exact rfl) ?_
        refine wpAny_ready (rs := [3]) (by kernel_rfl) (by simp) ?_
        refine AllReady.cons rfl (fun K hK => ?A3_3) AllReady.nil
        case A3_3 =>
          rw [if_pos (by rfl)]
          change Oper.wp _ ⟨some 27, Op.load 51 (.tmp 8), _, _, _, _⟩ _ _ _ _
          refine wp_load_row (a' := _) rfl m2 HlE.out (by go_simp; exact rfl) ?_
          refine hK _ _ ?_
          clear hK K
          refine wpAny_ready (rs := [4]) (by kernel_rfl) (by simp) ?_
          refine AllReady.cons rfl (fun K hK => ?A4_4) AllReady.nil
          case A4_4 =>
            go_simp
            go_at_call 41
            refine (Hn2.out _).mono ?_
            rintro e wn ⟨rfl, bb⟩
            have bn := bb
            replace m2 := m2.below bn m2.lt
            replace m3 := m3.below bn m3.lt
            replace B4 := B4.trans (bn.mono B4.size)
            clear bn bb
            dsimp only
            try go_simp
            refine hK _ _ ?_
            clear hK K
            refine wpAny_ready (rs := [5]) (by kernel_rfl) (by simp) ?_
            refine AllReady.cons rfl (fun K hK => ?A5_5) AllReady.nil
            case A5_5 =>
              go_simp
              go_at_call 42
              refine (Hlst.out _).mono ?_
              rintro e wn ⟨rfl, rfl⟩
              dsimp only
              try go_simp
              refine hK _ _ ?_
              clear hK K
              refine wpAny_ready (rs := [6]) (by kernel_rfl) (by simp) ?_
              refine AllReady.cons rfl (fun K hK => ?A6_6) AllReady.nil
              case A6_6 =>
                go_simp
                go_at_call 12
                refine (Hmk.out _).mono ?_
                rintro e wn ⟨rfl, rfl⟩
                dsimp only
                try go_simp
                refine hK _ _ ?_
                clear hK K
                refine take_op (i := 7) (d := 9) (v := .int .u64 T) (a' := _) (by rfl) (by kernel_rfl) (by kernel_rfl) (by kernel_rfl) (fun _ _ _ h => by cases h.1) (by rfl) (by rfl) (fun W => by go_simp; try rfl) (by go_simp; exact rfl) ?_
                refine wpAny_done (by kernel_rfl) ?_ _
                exact ⟨rfl, rfl, m3, m2, B4⟩
      case A1_3 =>
        rw [if_pos (by rfl)]
        change Oper.wp _ ⟨some 27, Op.load 51 (.tmp 8), _, _, _, _⟩ _ _ _ _
        refine wp_load_row (a' := _) rfl m2 HlE.out (by go_simp; exact rfl) ?_
        refine hK _ _ ?_
        clear hK K
        refine wpAny_ready (rs := [1]) (by kernel_rfl) (by simp) ?_
        refine AllReady.cons rfl (fun K hK => ?A2_1) AllReady.nil
        case A2_1 =>
          go_simp
          go_at_call 41
          refine (Hn1.out _).mono ?_
          rintro e wn ⟨rfl, bb⟩
          have bn := bb
          replace m2 := m2.below bn m2.lt
          replace m3 := m3.below bn m3.lt
          replace B4 := B4.trans (bn.mono B4.size)
          clear bn bb
          dsimp only
          try go_simp
          refine hK _ _ ?_
          clear hK K
          refine take_op (i := 2) (d := 26) (v := .int .u32 S) (a' := _) (by rfl) (by kernel_rfl) (by kernel_rfl) (by kernel_rfl) (fun _ _ _ h => by cases h.1) (by rfl) (by rfl) (fun W => by go_simp; try rfl) (by go_simp; exact rfl) ?_
          refine wpAny_ready (rs := [4]) (by kernel_rfl) (by simp) ?_
          refine AllReady.cons rfl (fun K hK => ?A4_4) AllReady.nil
          case A4_4 =>
            go_simp
            go_at_call 41
            refine (Hn2.out _).mono ?_
            rintro e wn ⟨rfl, bb⟩
            have bn := bb
            replace m2 := m2.below bn m2.lt
            replace m3 := m3.below bn m3.lt
            replace B4 := B4.trans (bn.mono B4.size)
            clear bn bb
            dsimp only
            try go_simp
            refine hK _ _ ?_
            clear hK K
            refine wpAny_ready (rs := [5]) (by kernel_rfl) (by simp) ?_
            refine AllReady.cons rfl (fun K hK => ?A5_5) AllReady.nil
            case A5_5 =>
              go_simp
              go_at_call 42
              refine (Hlst.out _).mono ?_
              rintro e wn ⟨rfl, rfl⟩
              dsimp only
              try go_simp
              refine hK _ _ ?_
              clear hK K
              refine wpAny_ready (rs := [6]) (by kernel_rfl) (by simp) ?_
              refine AllReady.cons rfl (fun K hK => ?A6_6) AllReady.nil
              case A6_6 =>
                go_simp
                go_at_call 12
                refine (Hmk.out _).mono ?_
                rintro e wn ⟨rfl, rfl⟩
                dsimp only
                try go_simp
                refine hK _ _ ?_
                clear hK K
                refine take_op (i := 7) (d := 9) (v := .int .u64 T) (a' := _) (by rfl) (by kernel_rfl) (by kernel_rfl) (by kernel_rfl) (fun _ _ _ h => by cases h.1) (by rfl) (by rfl) (fun W => by go_simp; try rfl) (by go_simp; exact rfl) ?_
                refine wpAny_done (by kernel_rfl) ?_ _
                exact ⟨rfl, rfl, m3, m2, B4⟩
    case A0_3 =>
      rw [if_pos (by rfl)]
      change Oper.wp _ ⟨some 27, Op.load 51 (.tmp 8), _, _, _, _⟩ _ _ _ _
      refine wp_load_row (a' := _) rfl m2 HlE.out (by go_simp; exact rfl) ?_
      refine hK _ _ ?_
      clear hK K
      refine wpAny_ready (rs := [0]) (by kernel_rfl) (by simp) ?_
      refine AllReady.cons rfl (fun K hK => ?A1_0) AllReady.nil
      case A1_0 =>
        rw [if_pos (by rfl)]
        change Oper.wp _ ⟨some 24, Op.load 51 (.tmp 7), _, _, _, _⟩ _ _ _ _
        refine wp_load_row (a' := _) rfl m3 HlD.out (by go_simp; exact rfl) ?_
        refine hK _ _ ?_
        clear hK K
        refine wpAny_ready (rs := [1]) (by kernel_rfl) (by simp) ?_
        refine AllReady.cons rfl (fun K hK => ?A2_1) AllReady.nil
        case A2_1 =>
          go_simp
          go_at_call 41
          refine (Hn1.out _).mono ?_
          rintro e wn ⟨rfl, bb⟩
          have bn := bb
          replace m2 := m2.below bn m2.lt
          replace m3 := m3.below bn m3.lt
          replace B4 := B4.trans (bn.mono B4.size)
          clear bn bb
          dsimp only
          try go_simp
          refine hK _ _ ?_
          clear hK K
          refine take_op (i := 2) (d := 26) (v := .int .u32 S) (a' := _) (by rfl) (by kernel_rfl) (by kernel_rfl) (by kernel_rfl) (fun _ _ _ h => by cases h.1) (by rfl) (by rfl) (fun W => by go_simp; try rfl) (by go_simp; exact rfl) ?_
          refine wpAny_ready (rs := [4]) (by kernel_rfl) (by simp) ?_
          refine AllReady.cons rfl (fun K hK => ?A4_4) AllReady.nil
          case A4_4 =>
            go_simp
            go_at_call 41
            refine (Hn2.out _).mono ?_
            rintro e wn ⟨rfl, bb⟩
            have bn := bb
            replace m2 := m2.below bn m2.lt
            replace m3 := m3.below bn m3.lt
            replace B4 := B4.trans (bn.mono B4.size)
            clear bn bb
            dsimp only
            try go_simp
            refine hK _ _ ?_
            clear hK K
            refine wpAny_ready (rs := [5]) (by kernel_rfl) (by simp) ?_
            refine AllReady.cons rfl (fun K hK => ?A5_5) AllReady.nil
            case A5_5 =>
              go_simp
              go_at_call 42
              refine (Hlst.out _).mono ?_
              rintro e wn ⟨rfl, rfl⟩
              dsimp only
              try go_simp
              refine hK _ _ ?_
              clear hK K
              refine wpAny_ready (rs := [6]) (by kernel_rfl) (by simp) ?_
              refine AllReady.cons rfl (fun K hK => ?A6_6) AllReady.nil
              case A6_6 =>
                go_simp
                go_at_call 12
                refine (Hmk.out _).mono ?_
                rintro e wn ⟨rfl, rfl⟩
                dsimp only
                try go_simp
                refine hK _ _ ?_
                clear hK K
                refine take_op (i := 7) (d := 9) (v := .int .u64 T) (a' := _) (by rfl) (by kernel_rfl) (by kernel_rfl) (by kernel_rfl) (fun _ _ _ h => by cases h.1) (by rfl) (by rfl) (fun W => by go_simp; try rfl) (by go_simp; exact rfl) ?_
                refine wpAny_done (by kernel_rfl) ?_ _
                exact ⟨rfl, rfl, m3, m2, B4⟩
  rintro e9 a9 wn ⟨rfl, rfl, m3, m2, B4⟩
  go_wp2_with fail
  by_cases hc : D2 = D
  · obtain rfl : D = D2 := hc.symm
    have sD := hsD.out
    rw [decide_eq_false (by simp)] at sD
    have sE := hsE.out
    rw [decide_eq_true (show E2 ≠ E from fun e => Hne.out ⟨rfl, e⟩)] at sE
    clear hc
    refine wp_mono (Q := fun e9 a9 w9 => e9 = Exit.normal ∧ a9 = ⟨#[.string s, undef, .int .u64 0, .int .i64 0, .string a, .string b, .bool true, .pointer (some ⟨w2.heap.size, 0, none⟩), .pointer (some ⟨w2.heap.size + 1, 0, none⟩), .int .u64 T, .tuple #[.string a, .string b, .bool true], .string s, .tuple #[.string a, .string b, .bool true], .string a, .string b, .bool true, .string a, .string b, .bool true, .bool false, .string a, .agg (bs D).toArray, .string b, .agg (bs E).toArray, .agg (bs D).toArray, .int .u64 X, .int .u32 S, .agg (bs E).toArray, .int .u64 Y, .int .u32 L, .int .u64 T, .int .u64 T, .agg (bs D).toArray, .agg (bs D).toArray, .bool false, .bool false, .int .u64 T, .agg (bs E2).toArray, .agg (bs E).toArray, .bool true, .bool true, undef], []⟩ ∧ Bb w9 w2.heap.size 51 D ∧ Bb w9 (w2.heap.size + 1) 51 E ∧ Below w.heap.size w w9) ?reg7 ?rest7
    case reg7 =>
      refine wp_region_any (by kernel_rfl) ?_
      change wpAny _ _ _ _ _ _ _ (World.drew _)
      replace m2 := m2.drew
      replace m3 := m3.drew
      replace B4 := below_drew B4
      generalize wn.drew = w5 at *
      refine take_op (i := 0) (d := 31) (v := .int .u64 T) (a' := _) (by rfl) (by kernel_rfl) (by kernel_rfl) (by kernel_rfl) (fun _ _ _ h => by cases h.1) (by rfl) (by rfl) (fun W => by go_simp; try rfl) (by go_simp; exact rfl) ?_
      refine wpAny_ready (rs := [1, 2]) (by kernel_rfl) (by simp) ?_
      refine AllReady.cons rfl (fun K hK => ?A1_1) (AllReady.cons rfl (fun K hK => ?A1_2) AllReady.nil)
      case A1_1 =>
        go_simp
        go_at_call 43
        refine (Hsec.out _).mono ?_
        rintro e wn ⟨rfl, bb⟩
        have bn := bb
        replace m2 := m2.below bn m2.lt
        replace m3 := m3.below bn m3.lt
        replace B4 := B4.trans (bn.mono B4.size)
        clear bn bb
        dsimp only
        try go_simp
        refine hK _ _ ?_
        clear hK K
        refine wpAny_ready (rs := [2]) (by kernel_rfl) (by simp) ?_
        refine AllReady.cons rfl (fun K hK => ?A2_2) AllReady.nil
        case A2_2 =>
          rw [if_pos (by rfl)]
          change Oper.wp _ ⟨some 33, Op.load 51 (.tmp 7), _, _, _, _⟩ _ _ _ _
          refine wp_load_row (a' := _) rfl m3 HlD.out (by go_simp; exact rfl) ?_
          refine hK _ _ ?_
          clear hK K
          refine take_op (i := 3) (d := 34) (v := .bool false) (a' := _) (by rfl) (by kernel_rfl) (by kernel_rfl) (by kernel_rfl) (fun _ _ _ h => by cases h.1) (by rfl) (by rfl) (fun W => by go_simp; try rfl) (by go_simp; exact rfl) ?_
          refine take_op (i := 4) (d := 35) (v := .bool false) (a' := _) (by rfl) (by kernel_rfl) (by kernel_rfl) (by kernel_rfl) (fun _ _ _ h => by cases h.1) (by rfl) (by rfl) (fun W => by go_simp; try rfl) (by go_simp; exact rfl) ?_
          refine take_op (i := 5) (d := 36) (v := .int .u64 T) (a' := _) (by rfl) (by kernel_rfl) (by kernel_rfl) (by kernel_rfl) (fun _ _ _ h => by cases h.1) (by rfl) (by rfl) (fun W => by go_simp; try rfl) (by go_simp; exact rfl) ?_
          refine wpAny_ready (rs := [6, 7]) (by kernel_rfl) (by simp) ?_
          refine AllReady.cons rfl (fun K hK => ?A6_6) (AllReady.cons rfl (fun K hK => ?A6_7) AllReady.nil)
          case A6_6 =>
            go_simp
            go_at_call 44
            refine (Hpart.out _).mono ?_
            rintro e wn ⟨rfl, bb⟩
            have bn := bb
            replace m2 := m2.below bn m2.lt
            replace m3 := m3.below bn m3.lt
            replace B4 := B4.trans (bn.mono B4.size)
            clear bn bb
            dsimp only
            try go_simp
            refine hK _ _ ?_
            clear hK K
            refine wpAny_ready (rs := [7]) (by kernel_rfl) (by simp) ?_
            refine AllReady.cons rfl (fun K hK => ?A7_7) AllReady.nil
            case A7_7 =>
              rw [if_pos (by rfl)]
              change Oper.wp _ ⟨some 38, Op.load 51 (.tmp 8), _, _, _, _⟩ _ _ _ _
              refine wp_load_row (a' := _) rfl m2 HlE.out (by go_simp; exact rfl) ?_
              refine hK _ _ ?_
              clear hK K
              refine take_op (i := 8) (d := 39) (v := .bool true) (a' := _) (by rfl) (by kernel_rfl) (by kernel_rfl) (by kernel_rfl) (fun _ _ _ h => by cases h.1) (by rfl) (by rfl) (fun W => by go_simp; try rfl) (by go_simp; exact rfl) ?_
              refine take_op (i := 9) (d := 40) (v := .bool true) (a' := _) (by rfl) (by kernel_rfl) (by kernel_rfl) (by kernel_rfl) (fun _ _ _ h => by cases h.1) (by rfl) (by rfl) (fun W => by go_simp; try rfl) (by go_simp; exact rfl) ?_
              refine wpAny_done (by kernel_rfl) ?_ _
              exact ⟨rfl, rfl, m3, m2, B4⟩
          case A6_7 =>
            rw [if_pos (by rfl)]
            change Oper.wp _ ⟨some 38, Op.load 51 (.tmp 8), _, _, _, _⟩ _ _ _ _
            refine wp_load_row (a' := _) rfl m2 HlE.out (by go_simp; exact rfl) ?_
            refine hK _ _ ?_
            clear hK K
            refine wpAny_ready (rs := [6]) (by kernel_rfl) (by simp) ?_
            refine AllReady.cons rfl (fun K hK => ?A7_6) AllReady.nil
            case A7_6 =>
              go_simp
              go_at_call 44
              refine (Hpart.out _).mono ?_
              rintro e wn ⟨rfl, bb⟩
              have bn := bb
              replace m2 := m2.below bn m2.lt
              replace m3 := m3.below bn m3.lt
              replace B4 := B4.trans (bn.mono B4.size)
              clear bn bb
              dsimp only
              try go_simp
              refine hK _ _ ?_
              clear hK K
              refine take_op (i := 8) (d := 39) (v := .bool true) (a' := _) (by rfl) (by kernel_rfl) (by kernel_rfl) (by kernel_rfl) (fun _ _ _ h => by cases h.1) (by rfl) (by rfl) (fun W => by go_simp; try rfl) (by go_simp; exact rfl) ?_
              refine take_op (i := 9) (d := 40) (v := .bool true) (a' := _) (by rfl) (by kernel_rfl) (by kernel_rfl) (by kernel_rfl) (fun _ _ _ h => by cases h.1) (by rfl) (by rfl) (fun W => by go_simp; try rfl) (by go_simp; exact rfl) ?_
              refine wpAny_done (by kernel_rfl) ?_ _
              exact ⟨rfl, rfl, m3, m2, B4⟩
      case A1_2 =>
        rw [if_pos (by rfl)]
        change Oper.wp _ ⟨some 33, Op.load 51 (.tmp 7), _, _, _, _⟩ _ _ _ _
        refine wp_load_row (a' := _) rfl m3 HlD.out (by go_simp; exact rfl) ?_
        refine hK _ _ ?_
        clear hK K
        refine wpAny_ready (rs := [1]) (by kernel_rfl) (by simp) ?_
        refine AllReady.cons rfl (fun K hK => ?A2_1) AllReady.nil
        case A2_1 =>
          go_simp
          go_at_call 43
          refine (Hsec.out _).mono ?_
          rintro e wn ⟨rfl, bb⟩
          have bn := bb
          replace m2 := m2.below bn m2.lt
          replace m3 := m3.below bn m3.lt
          replace B4 := B4.trans (bn.mono B4.size)
          clear bn bb
          dsimp only
          try go_simp
          refine hK _ _ ?_
          clear hK K
          refine take_op (i := 3) (d := 34) (v := .bool false) (a' := _) (by rfl) (by kernel_rfl) (by kernel_rfl) (by kernel_rfl) (fun _ _ _ h => by cases h.1) (by rfl) (by rfl) (fun W => by go_simp; try rfl) (by go_simp; exact rfl) ?_
          refine take_op (i := 4) (d := 35) (v := .bool false) (a' := _) (by rfl) (by kernel_rfl) (by kernel_rfl) (by kernel_rfl) (fun _ _ _ h => by cases h.1) (by rfl) (by rfl) (fun W => by go_simp; try rfl) (by go_simp; exact rfl) ?_
          refine take_op (i := 5) (d := 36) (v := .int .u64 T) (a' := _) (by rfl) (by kernel_rfl) (by kernel_rfl) (by kernel_rfl) (fun _ _ _ h => by cases h.1) (by rfl) (by rfl) (fun W => by go_simp; try rfl) (by go_simp; exact rfl) ?_
          refine wpAny_ready (rs := [6, 7]) (by kernel_rfl) (by simp) ?_
          refine AllReady.cons rfl (fun K hK => ?A6_6) (AllReady.cons rfl (fun K hK => ?A6_7) AllReady.nil)
          case A6_6 =>
            go_simp
            go_at_call 44
            refine (Hpart.out _).mono ?_
            rintro e wn ⟨rfl, bb⟩
            have bn := bb
            replace m2 := m2.below bn m2.lt
            replace m3 := m3.below bn m3.lt
            replace B4 := B4.trans (bn.mono B4.size)
            clear bn bb
            dsimp only
            try go_simp
            refine hK _ _ ?_
            clear hK K
            refine wpAny_ready (rs := [7]) (by kernel_rfl) (by simp) ?_
            refine AllReady.cons rfl (fun K hK => ?A7_7) AllReady.nil
            case A7_7 =>
              rw [if_pos (by rfl)]
              change Oper.wp _ ⟨some 38, Op.load 51 (.tmp 8), _, _, _, _⟩ _ _ _ _
              refine wp_load_row (a' := _) rfl m2 HlE.out (by go_simp; exact rfl) ?_
              refine hK _ _ ?_
              clear hK K
              refine take_op (i := 8) (d := 39) (v := .bool true) (a' := _) (by rfl) (by kernel_rfl) (by kernel_rfl) (by kernel_rfl) (fun _ _ _ h => by cases h.1) (by rfl) (by rfl) (fun W => by go_simp; try rfl) (by go_simp; exact rfl) ?_
              refine take_op (i := 9) (d := 40) (v := .bool true) (a' := _) (by rfl) (by kernel_rfl) (by kernel_rfl) (by kernel_rfl) (fun _ _ _ h => by cases h.1) (by rfl) (by rfl) (fun W => by go_simp; try rfl) (by go_simp; exact rfl) ?_
              refine wpAny_done (by kernel_rfl) ?_ _
              exact ⟨rfl, rfl, m3, m2, B4⟩
          case A6_7 =>
            rw [if_pos (by rfl)]
            change Oper.wp _ ⟨some 38, Op.load 51 (.tmp 8), _, _, _, _⟩ _ _ _ _
            refine wp_load_row (a' := _) rfl m2 HlE.out (by go_simp; exact rfl) ?_
            refine hK _ _ ?_
            clear hK K
            refine wpAny_ready (rs := [6]) (by kernel_rfl) (by simp) ?_
            refine AllReady.cons rfl (fun K hK => ?A7_6) AllReady.nil
            case A7_6 =>
              go_simp
              go_at_call 44
              refine (Hpart.out _).mono ?_
              rintro e wn ⟨rfl, bb⟩
              have bn := bb
              replace m2 := m2.below bn m2.lt
              replace m3 := m3.below bn m3.lt
              replace B4 := B4.trans (bn.mono B4.size)
              clear bn bb
              dsimp only
              try go_simp
              refine hK _ _ ?_
              clear hK K
              refine take_op (i := 8) (d := 39) (v := .bool true) (a' := _) (by rfl) (by kernel_rfl) (by kernel_rfl) (by kernel_rfl) (fun _ _ _ h => by cases h.1) (by rfl) (by rfl) (fun W => by go_simp; try rfl) (by go_simp; exact rfl) ?_
              refine take_op (i := 9) (d := 40) (v := .bool true) (a' := _) (by rfl) (by kernel_rfl) (by kernel_rfl) (by kernel_rfl) (fun _ _ _ h => by cases h.1) (by rfl) (by rfl) (fun W => by go_simp; try rfl) (by go_simp; exact rfl) ?_
              refine wpAny_done (by kernel_rfl) ?_ _
              exact ⟨rfl, rfl, m3, m2, B4⟩
    rintro e9 a9 wn ⟨rfl, rfl, m3, m2, B4⟩
    go_wp2_with fail
    go_ret2
    exact ⟨rfl, B4⟩
  · have sD := hsD.out
    rw [decide_eq_true (show D2 ≠ D from hc)] at sD
    clear hc
    refine wp_mono (Q := fun e9 a9 w9 => e9 = Exit.normal ∧ a9 = ⟨#[.string s, undef, .int .u64 0, .int .i64 0, .string a, .string b, .bool true, .pointer (some ⟨w2.heap.size, 0, none⟩), .pointer (some ⟨w2.heap.size + 1, 0, none⟩), .int .u64 T, .tuple #[.string a, .string b, .bool true], .string s, .tuple #[.string a, .string b, .bool true], .string a, .string b, .bool true, .string a, .string b, .bool true, .bool false, .string a, .agg (bs D).toArray, .string b, .agg (bs E).toArray, .agg (bs D).toArray, .int .u64 X, .int .u32 S, .agg (bs E).toArray, .int .u64 Y, .int .u32 L, .int .u64 T, .int .u64 T, .agg (bs D2).toArray, .agg (bs D).toArray, .bool true, .bool true, undef, undef, undef, undef, .bool true, undef], []⟩ ∧ Bb w9 w2.heap.size 51 D ∧ Bb w9 (w2.heap.size + 1) 51 E ∧ Below w.heap.size w w9) ?reg6 ?rest6
    case reg6 =>
      refine wp_region_any (by kernel_rfl) ?_
      change wpAny _ _ _ _ _ _ _ (World.drew _)
      replace m2 := m2.drew
      replace m3 := m3.drew
      replace B4 := below_drew B4
      generalize wn.drew = w5 at *
      refine take_op (i := 0) (d := 31) (v := .int .u64 T) (a' := _) (by rfl) (by kernel_rfl) (by kernel_rfl) (by kernel_rfl) (fun _ _ _ h => by cases h.1) (by rfl) (by rfl) (fun W => by go_simp; try rfl) (by go_simp; exact rfl) ?_
      refine wpAny_ready (rs := [1, 2]) (by kernel_rfl) (by simp) ?_
      refine AllReady.cons rfl (fun K hK => ?A1_1) (AllReady.cons rfl (fun K hK => ?A1_2) AllReady.nil)
      case A1_1 =>
        go_simp
        go_at_call 43
        refine (Hsec.out _).mono ?_
        rintro e wn ⟨rfl, bb⟩
        have bn := bb
        replace m2 := m2.below bn m2.lt
        replace m3 := m3.below bn m3.lt
        replace B4 := B4.trans (bn.mono B4.size)
        clear bn bb
        dsimp only
        try go_simp
        refine hK _ _ ?_
        clear hK K
        refine wpAny_ready (rs := [2]) (by kernel_rfl) (by simp) ?_
        refine AllReady.cons rfl (fun K hK => ?A2_2) AllReady.nil
        case A2_2 =>
          rw [if_pos (by rfl)]
          change Oper.wp _ ⟨some 33, Op.load 51 (.tmp 7), _, _, _, _⟩ _ _ _ _
          refine wp_load_row (a' := _) rfl m3 HlD.out (by go_simp; exact rfl) ?_
          refine hK _ _ ?_
          clear hK K
          refine take_op (i := 3) (d := 34) (v := .bool true) (a' := _) (by rfl) (by kernel_rfl) (by kernel_rfl) (by kernel_rfl) (fun _ _ _ h => by cases h.1) (by rfl) (by rfl) (fun W => by go_simp; try rfl) (by go_simp; exact rfl) ?_
          refine take_op (i := 4) (d := 35) (v := .bool true) (a' := _) (by rfl) (by kernel_rfl) (by kernel_rfl) (by kernel_rfl) (fun _ _ _ h => by cases h.1) (by rfl) (by rfl) (fun W => by go_simp; try rfl) (by go_simp; exact rfl) ?_
          refine skip_op (i := 5) (d := 36) (a' := _) (by rfl) (by kernel_rfl) (by kernel_rfl) (by kernel_rfl) (fun _ _ _ h => by cases h.1) (by rfl) (by rfl) (by go_simp; exact rfl) ?_
          refine skip_op (i := 6) (d := 37) (a' := _) (by rfl) (by kernel_rfl) (by kernel_rfl) (by kernel_rfl) (fun _ _ _ h => by cases h.1) (by rfl) (by rfl) (by go_simp; exact rfl) ?_
          refine skip_op (i := 7) (d := 38) (a' := _) (by rfl) (by kernel_rfl) (by kernel_rfl) (by kernel_rfl) (fun _ _ _ h => by cases h.1) (by rfl) (by rfl) (by go_simp; exact rfl) ?_
          refine skip_op (i := 8) (d := 39) (a' := _) (by rfl) (by kernel_rfl) (by kernel_rfl) (by kernel_rfl) (fun _ _ _ h => by cases h.1) (by rfl) (by rfl) (by go_simp; exact rfl) ?_
          refine take_op (i := 9) (d := 40) (v := .bool true) (a' := _) (by rfl) (by kernel_rfl) (by kernel_rfl) (by kernel_rfl) (fun _ _ _ h => by cases h.1) (by rfl) (by rfl) (fun W => by go_simp; try rfl) (by go_simp; exact rfl) ?_
          refine wpAny_done (by kernel_rfl) ?_ _
          exact ⟨rfl, rfl, m3, m2, B4⟩
      case A1_2 =>
        rw [if_pos (by rfl)]
        change Oper.wp _ ⟨some 33, Op.load 51 (.tmp 7), _, _, _, _⟩ _ _ _ _
        refine wp_load_row (a' := _) rfl m3 HlD.out (by go_simp; exact rfl) ?_
        refine hK _ _ ?_
        clear hK K
        refine wpAny_ready (rs := [1]) (by kernel_rfl) (by simp) ?_
        refine AllReady.cons rfl (fun K hK => ?A2_1) AllReady.nil
        case A2_1 =>
          go_simp
          go_at_call 43
          refine (Hsec.out _).mono ?_
          rintro e wn ⟨rfl, bb⟩
          have bn := bb
          replace m2 := m2.below bn m2.lt
          replace m3 := m3.below bn m3.lt
          replace B4 := B4.trans (bn.mono B4.size)
          clear bn bb
          dsimp only
          try go_simp
          refine hK _ _ ?_
          clear hK K
          refine take_op (i := 3) (d := 34) (v := .bool true) (a' := _) (by rfl) (by kernel_rfl) (by kernel_rfl) (by kernel_rfl) (fun _ _ _ h => by cases h.1) (by rfl) (by rfl) (fun W => by go_simp; try rfl) (by go_simp; exact rfl) ?_
          refine take_op (i := 4) (d := 35) (v := .bool true) (a' := _) (by rfl) (by kernel_rfl) (by kernel_rfl) (by kernel_rfl) (fun _ _ _ h => by cases h.1) (by rfl) (by rfl) (fun W => by go_simp; try rfl) (by go_simp; exact rfl) ?_
          refine skip_op (i := 5) (d := 36) (a' := _) (by rfl) (by kernel_rfl) (by kernel_rfl) (by kernel_rfl) (fun _ _ _ h => by cases h.1) (by rfl) (by rfl) (by go_simp; exact rfl) ?_
          refine skip_op (i := 6) (d := 37) (a' := _) (by rfl) (by kernel_rfl) (by kernel_rfl) (by kernel_rfl) (fun _ _ _ h => by cases h.1) (by rfl) (by rfl) (by go_simp; exact rfl) ?_
          refine skip_op (i := 7) (d := 38) (a' := _) (by rfl) (by kernel_rfl) (by kernel_rfl) (by kernel_rfl) (fun _ _ _ h => by cases h.1) (by rfl) (by rfl) (by go_simp; exact rfl) ?_
          refine skip_op (i := 8) (d := 39) (a' := _) (by rfl) (by kernel_rfl) (by kernel_rfl) (by kernel_rfl) (fun _ _ _ h => by cases h.1) (by rfl) (by rfl) (by go_simp; exact rfl) ?_
          refine take_op (i := 9) (d := 40) (v := .bool true) (a' := _) (by rfl) (by kernel_rfl) (by kernel_rfl) (by kernel_rfl) (fun _ _ _ h => by cases h.1) (by rfl) (by rfl) (fun W => by go_simp; try rfl) (by go_simp; exact rfl) ?_
          refine wpAny_done (by kernel_rfl) ?_ _
          exact ⟨rfl, rfl, m3, m2, B4⟩
    rintro e9 a9 wn ⟨rfl, rfl, m3, m2, B4⟩
    go_wp2_with fail
    go_ret2
    exact ⟨rfl, B4⟩
end Go.Proofs.YtddjgjaifflpeaaDoor
