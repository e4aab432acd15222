/- The document's own digest: its constants, its first words, the padded text. -/
import Derived.Test.YtonfpomgkgljiaaDoorSteps
namespace Go.Proofs.YtonfpomgkgljiaaDoor
open Go.RowKit
set_option linter.unusedVariables false
set_option maxRecDepth 100000

theorem Wb.nw {w : World} {g : Nat} {xs : List Nat} (h : Wb w g 22 xs) (n : Nat) (hn : xs.length = n) (hm : n ≤ 1000) (hL : Lim 4294967296 xs) : Nw w w.heap.size (some ⟨g, 0, none⟩) n n xs :=
  ⟨hn, Nat.le_refl _, by omega, hL, fun h0 => ⟨g, 0, rfl, h.lt, fun j x hj => by
    have hl : j < xs.length := by
      rcases Nat.lt_or_ge j xs.length with h' | h'
      · exact h'
      · rw [List.getElem?_eq_none h'] at hj; cases hj
    have := h.cell (j := j) hl
    rw [Nat.zero_add, this]
    simp [List.getD, hj]⟩⟩
theorem constants_any (w : World) : Calls Tryd.prog 44 #[] w fun e w' => e = .returned (.slice (some ⟨w.heap.size, 0, none⟩) 64 64) ∧ Wb w' w.heap.size 22 kk ∧ Below w.heap.size w w' := by
  have h1 : Wb (w.alloc (Ob 22 kk)) w.heap.size 22 kk := alloc_ob w _ _
  have b1 : Below w.heap.size w (w.alloc (Ob 22 kk)) := (Below.refl _ _).alloc (Nat.le_refl _) _
  go_enter Tryd.func44, Tryd.ntmps44
  go_wp2
  change bodyPost _ _ _ _ _ (w.alloc (Ob 22 kk))
  go_ret
  exact ⟨rfl, h1, b1⟩
theorem rfirst_any (w : World) : Calls Tryd.prog 45 #[] w fun e w' => e = .returned (.slice (some ⟨w.heap.size, 0, none⟩) 8 8) ∧ Wb w' w.heap.size 22 (words first) ∧ Below w.heap.size w w' := by
  have h1 : Wb (w.alloc (Ob 22 (words first))) w.heap.size 22 (words first) := alloc_ob w _ _
  have b1 : Below w.heap.size w (w.alloc (Ob 22 (words first))) := (Below.refl _ _).alloc (Nat.le_refl _) _
  go_enter Tryd.func45, Tryd.ntmps45
  go_wp2
  change bodyPost _ _ _ _ _ (w.alloc (Ob 22 (words first)))
  go_ret
  exact ⟨rfl, h1, b1⟩
theorem join_any {w : World} {A1 A2 : Option Addr} {n c m c2 : Nat} {xs ys : List Nat} (hx : Nb w w.heap.size A1 n c xs) (hy : Nb w w.heap.size A2 m c2 ys) (hs : n + m ≤ 1000000000) :
    Calls Tryd.prog 35 #[.slice A1 n c, .slice A2 m c2] w fun e w' => ∃ A' c', e = .returned (.slice A' (n + m) c') ∧ Gb w' w.heap.size A' (n + m) c' (xs ++ ys) ∧ Below w.heap.size w w' := by
  have hr := hx.room
  have hr2 := hy.room
  have g0 := Gb.nil w w.heap.size
  go_enter Tryd.func35, Tryd.ntmps35
  go_wp2_with (first
    | (refine wpList_app_row_b _ rfl (.tmp 6) (.tmp 7) rfl rfl g0 rfl hx (by omega) (Below.refl _ _) (Nat.le_refl _) ?_; intro A3 c3 w3 hG3 hB3; have hy3 := hy.below hB3; have hs3 := hB3.size; rw [Nat.zero_add, List.nil_append] at hG3; rw [Nat.zero_add])
    | (refine wpList_app_row_b _ rfl (.tmp 9) (.tmp 10) rfl rfl hG3 rfl hy3 (by omega) hB3 hs3 ?_; intro A4 c4 w4 hG4 hB4))
  go_ret
  exact ⟨_, _, rfl, hG4, hB4⟩

/-- the padded text, as far as it is laid -/
theorem sub_z (n z : Nat) (hz : (119 - n % 64) % 64 = z) (k : Nat) (hk : k ≤ z) : ((n + 1 + k : Nat) : Int) % 64 = 56 ↔ k = z := by omega
theorem by8_at (N k : Nat) (hk : k < 8) : (by8 N).take (k + 1) = (by8 N).take k ++ [(by8 N).getD k 0] := by
  have hl : k < (by8 N).length := hk
  rw [List.take_succ_eq_append_getElem hl]
  simp [List.getD, List.getElem?_eq_getElem hl]
theorem by8_int (N k : Nat) (hk : k < 8) (hN : N < 9223372036854775808) : ((N : Int) / 2 ^ (8 * (7 - k))) % 256 = (((by8 N).getD k 0 : Nat) : Int) := by
  have := by8_get N (7 - k) (by omega)
  rw [this]
  congr 2
  omega
set_option maxHeartbeats 1000000 in
theorem padded_any {w : World} {A : Option Addr} {n c : Nat} {xs : List Nat} (hx : Nb w w.heap.size A n c xs) (hn : n ≤ 1000000) :
    Calls Tryd.prog 46 #[.slice A n c] w fun e w' => ∃ A' c', e = .returned (.slice A' (n + (pad n).length) c') ∧ Nb w' w'.heap.size A' (n + (pad n).length) c' (xs ++ pad n) ∧ (∃ g off, A' = some ⟨g, off, none⟩ ∧ w.heap.size ≤ g) ∧ Below w.heap.size w w' := by
  have hr := hx.room
  have hLx := hx.lim
  have g0 := Gb.nil w w.heap.size
  obtain ⟨z, hz⟩ : ∃ z, (119 - n % 64) % 64 = z := ⟨_, rfl⟩
  have hz64 : z < 64 := by omega
  have HP : Hid (pad n = 128 :: (List.replicate z 0 ++ by8 (8 * n))) := Lib.hid (by unfold pad; rw [hz])
  have HZ := Lib.hid (sub_z n z hz)
  clear hz
  go_enter Tryd.func46, Tryd.ntmps46
  go_wp2_with (first
    | (refine wpList_app_row_b _ rfl (.tmp 6) (.tmp 7) rfl rfl g0 rfl hx (by omega) (Below.refl _ _) (Nat.le_refl _) ?_; intro A3 c3 w3 hG3 hB3; have hs3 := hB3.size; rw [Nat.zero_add, List.nil_append] at hG3; rw [Nat.zero_add]; have hG3' := hG3.alloc (.cells #[.int .u8 128] 5); have hB3' := hB3.alloc hs3 (.cells #[.int .u8 128] 5); have hc3 := cell_new w3 (.int .u8 ((128 : Nat) : Int)) 5)
    | (refine wpList_app_b _ rfl (.tmp 9) (.tmp 10) rfl rfl hG3' rfl hc3 (by omega) hB3' (by simp; omega) ?_; intro A4 c4 w4 hG4 hB4))
  clear hG3 hG3' hB3 hB3' hc3
  go_loopw [3] (fun v wr => ∃ k : Nat, k ≤ z ∧ ∃ A c, v = .slice A (n + 1 + k) c ∧ Gb wr w.heap.size A (n + 1 + k) c (xs ++ [128] ++ List.replicate k 0) ∧ Below w.heap.size w wr) (fun v _ => match v with | .slice _ l _ => n + 1 + z - l | _ => 0)
  case atStart => exact ⟨0, by omega, _, _, rfl, by simpa using hG4, hB4⟩
  case round =>
    clear hG4 hB4 hs3
    obtain ⟨k, hk, A5, c5, rfl, hG, hB⟩ := hrel
    have hZk := HZ.out k hk
    have hs := hB.size
    by_cases hlt : k = z
    · subst hlt
      have e56 : ((n + 1 + k : Nat) : Int) % 64 = 56 := hZk.2 rfl
      have e56' : ((n : Int) + 1 + (k : Int)) % 64 = 56 := by omega
      clear hZk HZ
      go_wp2
      go_loopw [5, 3] (fun i v wr => ∃ j : Nat, j ≤ 8 ∧ i = .int .i64 (7 - (j : Int)) ∧ ∃ A c, v = .slice A (n + 1 + k + j) c ∧ Gb wr w.heap.size A (n + 1 + k + j) c (xs ++ [128] ++ List.replicate k 0 ++ (by8 (8 * n)).take j) ∧ Below w.heap.size w wr) (fun i _ _ => ((intOf i) + 1).toNat)
      case atStart => exact ⟨0, by omega, rfl, _, _, rfl, by simpa using hG, hB⟩
      case round =>
        clear hG hB hs
        obtain ⟨j, hj, rfl, A6, c6, rfl, hG, hB⟩ := hrel
        have hs := hB.size
        by_cases hl8 : j < 8
        · have Hb := Lib.hid (by8_int (8 * n) j hl8 (by omega))
          have Ht := Lib.hid (by8_at (8 * n) j hl8)
          obtain ⟨i, hi⟩ : ∃ i : Nat, 7 - j = i := ⟨_, rfl⟩
          have hi2 : 7 - (j : Int) = (i : Int) := by omega
          rw [hi] at Hb
          have h8 : (8 * (i : Int)).toNat = 8 * i := by omega
          have hv : 8 * (n : Int) / 2 ^ (8 * i) % 256 = (((by8 (8 * n)).getD j 0 : Nat) : Int) := by
            have := Hb.out
            rw [show ((8 * n : Nat) : Int) = 8 * (n : Int) by omega] at this
            exact this
          rw [hi2]
          generalize (by8 (8 * n)).getD j 0 = y at *
          have hG' := hG.alloc (.cells #[.int .u8 (y : Int)] 5)
          have hB' := hB.alloc hs (.cells #[.int .u8 (y : Int)] 5)
          have hc := cell_new wr (.int .u8 (y : Int)) 5
          have hi7 : i ≤ 7 := by omega
          have hr1 : Hid ((i : Int) - 1 = 7 - ((j + 1 : Nat) : Int)) := Lib.hid (by omega)
          have hm1 : Hid ((i : Int) = 7 - (j : Int)) := Lib.hid (by omega)
          clear hi hi2 e56 e56'
          go_wp2_with (refine wpList_app_b _ rfl (.tmp 26) (.tmp 33) rfl rfl hG' rfl hc (by omega) hB' (by simp; omega) ?_; intro A7 c7 w7 hG7 hB7)
          go_roundw
          case rel => exact ⟨j + 1, by omega, by rw [hr1.out], A7, c7, rfl, by rw [Ht.out, ← List.append_assoc]; exact hG7, hB7⟩
          case measure => show ((i : Int) - 1 + 1).toNat < ((i : Int) + 1).toNat; omega
        · have e8 : j = 8 := by omega
          subst e8
          have hL : Lim 256 (xs ++ pad n) := hLx.append (pad_lim n)
          have e : xs ++ [128] ++ List.replicate k 0 ++ (by8 (8 * n)).take 8 = xs ++ pad n := by rw [HP.out]; simp [by8]
          have el : n + 1 + k + 8 = n + (pad n).length := by rw [HP.out]; simp [by8]; omega
          rw [e] at hG
          have HG := Lib.hid (hG.nb hL)
          have HN := Lib.hid (hG.new (by omega))
          have HEL := Lib.hid el
          clear hG e el hl8 e56 e56' hL
          go_wp2
          go_ret
          exact ⟨A6, c6, by rw [← HEL.out]; rfl, by rw [← HEL.out]; exact HG.out, HN.out, hB⟩
    · have hne : ¬ ((n + 1 + k : Nat) : Int) % 64 = 56 := fun e => hlt (hZk.1 e)
      have hne' : (((n : Int) + 1 + (k : Int)) % 64 == 56) = false := by rw [beq_eq_false_iff_ne]; omega
      have hG' := hG.alloc (.cells #[.int .u8 0] 5)
      have hB' := hB.alloc hs (.cells #[.int .u8 0] 5)
      have hc := cell_new wr (.int .u8 ((0 : Nat) : Int)) 5
      have hRep : xs ++ [128] ++ List.replicate k 0 ++ [0] = xs ++ [128] ++ List.replicate (k + 1) 0 := by rw [List.replicate_succ', ← List.append_assoc]
      have HR := Lib.hid hRep
      clear hZk hRep
      go_wp2_with (refine wpList_app_b _ rfl (.tmp 16) (.tmp 17) rfl rfl hG' rfl hc (by omega) hB' (by simp; omega) ?_; intro A6 c6 w6 hG6 hB6)
      go_roundw
      case rel => exact ⟨k + 1, by omega, A6, c6, rfl, by rw [← HR.out]; exact hG6, hB6⟩
      case measure => show n + 1 + z - (n + 1 + k + 1) < n + 1 + z - (n + 1 + k); omega
end Go.Proofs.YtonfpomgkgljiaaDoor
