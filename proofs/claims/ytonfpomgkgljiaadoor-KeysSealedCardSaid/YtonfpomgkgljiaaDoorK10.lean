/- Keys and sums are the caller's own rows; one bit of a byte turned; the texts of bytes say which they are. -/
import Derived.Test.YtonfpomgkgljiaaDoorK9
import Derived.Lib.Bytes
namespace Go.Proofs.YtonfpomgkgljiaaDoor
open Go.RowKit
set_option linter.unusedVariables false
set_option maxRecDepth 100000

/-- a copy in new memory -/
def CopyOwn (xs : List Nat) (n : Nat) (w : World) (e : Ending) (w' : World) : Prop := ∃ A' c', e = .returned (.slice A' n c') ∧ Gb w' w.heap.size A' n c' xs ∧ Below w.heap.size w w'
set_option maxHeartbeats 1000000 in
theorem clone_own {w : World} {A : Option Addr} {n c : Nat} {xs : List Nat} (h : Nb w w.heap.size A n c xs) (hn : n ≤ 1099511627776) : Calls Tryd.prog 39 #[.slice A n c] w (CopyOwn xs n w) := by
  have hr := h.room
  have hc := h.cap
  have q22 : ∀ (w : World) (a : Option Addr) (n c n' c' : Nat), (binOp .eql 23 (.slice a n c) (.slice none n' c')).run Tryd.prog w = .ok (.bool a.isNone) w := fun w a n c n' c' => Lib.run_eql_slice_nil w _ _ a n c n' c' Tryd.underlying23
  rcases A with _ | ad
  · have hm : n = 0 := by
      rcases Nat.eq_zero_or_pos n with h0 | h0
      · exact h0
      · obtain ⟨b, off, e, _⟩ := h.cell h0
        cases e
    subst hm
    go_enter Tryd.func39, Tryd.ntmps39
    go_wp2
    go_ret
    rw [List.eq_nil_of_length_eq_zero h.len]
    exact ⟨_, _, rfl, Gb.nil _ _, Below.refl _ _⟩
  · have hown : Gb (w.alloc (Yb 5 [])) w.heap.size (some ⟨w.heap.size, 0, none⟩) 0 0 [] := ⟨rfl, World.ownsRow_made w _ 0 (Nat.le_refl _) (Nat.zero_le _) rfl⟩
    have hb1 : Below w.heap.size w (w.alloc (Yb 5 [])) := (Below.refl _ _).alloc (Nat.le_refl _) _
    go_enter Tryd.func39, Tryd.ntmps39
    go_wp2_with (change wpList _ _ _ _ _ (w.alloc (Yb 5 [])); refine wpList_app_row_b _ rfl (.tmp 5) (.tmp 6) rfl rfl hown rfl (h.below hb1) (by omega) hb1 (by simp) ?_; intro A3 c3 w3 hG3 hB3)
    go_ret
    rw [Nat.zero_add] at *
    rw [List.nil_append] at hG3
    exact ⟨_, _, rfl, hG3, hB3⟩
/-- 16 bytes of the caller's own -/
def Own16 (xs : List Nat) (w : World) (e : Ending) (w' : World) : Prop := ∃ A' c', e = .returned (.slice A' 16 c') ∧ Gb w' w.heap.size A' 16 c' xs ∧ Below w.heap.size w w'
theorem gb_mono {w : World} {b b' n c : Nat} {A : Option Addr} {xs : List Nat} (h : Gb w b A n c xs) (hb : b' ≤ b) : Gb w b' A n c xs := by
  refine ⟨h.1, h.2.1, ?_⟩
  rcases h.2.2 with h' | ⟨g, cap, cur, e, hg, hr⟩
  · exact Or.inl h'
  · exact Or.inr ⟨g, cap, cur, e, by omega, hr⟩
theorem beginning_own (D : List Nat) (hD : D.length = 32) (hL : Lim 256 D) (w : World) : Calls Tryd.prog 26 #[.agg (bs D).toArray] w (Own16 (D.take 16) w) := by
  have x0 : Bb (w.alloc (Yb 45 D)) w.heap.size 45 D := alloc_bb w 45 D
  have b0 : Below w.heap.size w (w.alloc (Yb 45 D)) := (Below.refl _ _).alloc (Nat.le_refl _) _
  have hs : (w.alloc (Yb 45 D)).heap.size = w.heap.size + 1 := by simp
  obtain ⟨w1, hw1⟩ : ∃ w1, w.alloc (Yb 45 D) = w1 := ⟨_, rfl⟩
  rw [hw1] at x0 b0 hs
  have n1 : Nb w1 w1.heap.size (some ⟨w.heap.size, 0, none⟩) 16 32 (D.take 16) := by
    have := nb_take (x0.nb 0 32 32 (by omega) (by omega) (by omega) hL) 16 (by omega)
    simpa [List.take_of_length_le (Nat.le_of_eq hD)] using this
  have H := Lib.hid (clone_own n1 (by omega))
  have HW := Lib.hid hw1
  clear hw1 n1 x0 hD hL
  go_enter Tryd.func26, Tryd.ntmps26
  go_wp2_with fail
  change Calls _ _ _ (w.alloc (Yb 45 D)) _
  rw [HW.out]
  refine H.out.mono ?_
  rintro e w2 ⟨A2, c2, rfl, n2, b2⟩
  have B2 := then_ b0 b2
  clear b0 b2
  go_wp2_with fail
  go_ret
  exact ⟨_, _, rfl, gb_mono n2 (by omega), B2⟩
theorem session_own {w : World} (hk : Ks w) (a b c d : Nat) (ha : a < 4294967296) (hb : b < 4294967296) (hc : c < 4294967296) (hd : d < 4294967296) :
    Calls Tryd.prog 10 #[.int .u32 (a : Int), .int .u32 (b : Int), .int .u32 (c : Int), .int .u32 (d : Int)] w (Own16 (sess a b c d) w) := by
  have H1 := Lib.hid (fun w => written4 w a b c d (lim4 ha hb hc hd))
  have Hs := Lib.hid (show sess a b c d = (sha (nums a b c d)).take 16 from rfl)
  have HB := Lib.hid (beginning_own (sha (nums a b c d)) (length_sha _) (sha_lim _))
  have hsz := hk.size
  clear ha hb hc hd
  go_enter Tryd.func10, Tryd.ntmps10
  go_wp2_with fail
  refine (H1.out _).mono ?_
  rintro e w1 ⟨A1, c1, rfl, n1, b1⟩
  go_wp2_with fail
  refine (sum_any (hk.below b1 hsz) n1 (by omega)).mono ?_
  rintro e w2 ⟨rfl, b2⟩
  have B2 := then_ b1 b2
  clear n1 b1 b2
  go_wp2_with fail
  refine (HB.out _).mono ?_
  rintro e w3 ⟨A3, c3, rfl, n3, b3⟩
  have B3 := then_ B2 b3
  have hB2 := B2.size
  clear B2 b3
  go_wp2_with fail
  go_ret
  exact ⟨_, _, rfl, gb_mono n3 hB2, B3⟩
theorem mac_own {w : World} (hk : Ks w) {A A2 : Option Addr} {n c n2 c2 : Nat} {xs ys : List Nat} (hx : Nb w w.heap.size A n c xs) (hy : Nb w w.heap.size A2 n2 c2 ys) (hn : n + n2 ≤ 100000) :
    Calls Tryd.prog 24 #[.slice A n c, .slice A2 n2 c2] w (Own16 (mac xs ys) w) := by
  have H1 := Lib.hid (keyed_any hk hx hy (by omega))
  have HB := Lib.hid (beginning_own (sha (xs ++ ys)) (length_sha _) (sha_lim _))
  have Hs := Lib.hid (show mac xs ys = (sha (xs ++ ys)).take 16 from rfl)
  clear hx hy
  go_enter Tryd.func24, Tryd.ntmps24
  go_wp2_with fail
  refine H1.out.mono ?_
  rintro e w2 ⟨rfl, b2⟩
  go_wp2_with fail
  refine (HB.out _).mono ?_
  rintro e w3 ⟨A3, c3, rfl, n3, b3⟩
  have B3 := then_ b2 b3
  have hB2 := b2.size
  clear b2 b3
  go_wp2_with fail
  go_ret
  exact ⟨_, _, rfl, gb_mono n3 hB2, B3⟩
/-- a row of the caller's own, by its block -/
theorem gb_open {w : World} {b n c : Nat} {A : Option Addr} {xs : List Nat} (h : Gb w b A n c xs) (h0 : 0 < n) : ∃ g, A = some ⟨g, 0, none⟩ ∧ b ≤ g ∧ g < w.heap.size := by
  rcases h.2.2 with ⟨_, he⟩ | ⟨g, cap, cur, e, hg, hh, _⟩
  · omega
  · cases e; exact ⟨g, rfl, hg, (Array.getElem?_eq_some_iff.1 hh).1⟩
theorem gb_cell {w : World} {b n c g : Nat} {xs : List Nat} (h : Gb w b (some ⟨g, 0, none⟩) n c xs) {j : Nat} (hj : j < n) : w.cell? ⟨g, j, none⟩ = some (.int .u8 ((xs.getD j 0 : Nat) : Int)) ∧ w.frozen? ⟨g, j, none⟩ = false := by
  obtain ⟨hl, _, ⟨e, _⟩ | ⟨g, cap, cur, e, hg, hh, hnc, hcm, hcs, hx⟩⟩ := h
  · cases e
  · cases e
    refine ⟨?_, by simp [World.frozen?, hh]⟩
    rw [cell_of_row w g j cur 5 (0, 0) hh]
    have : (List.take (n * 1) cur.toList)[j]? = some (.int .u8 ((xs.getD j 0 : Nat) : Int)) := by
      rw [hx]
      have hjl : j < xs.length := by omega
      simp [bs, List.getD, List.getElem?_eq_getElem hjl]
    rw [List.getElem?_take] at this
    split at this
    · simpa using this
    · cases this
theorem gb_other {w : World} {b n c g : Nat} {xs : List Nat} (h : Gb w b (some ⟨g, 0, none⟩) n c xs) {p : Addr} (hp : p.block ≠ g) (v : Value) : Gb (w.setCell p v) b (some ⟨g, 0, none⟩) n c xs := by
  obtain ⟨hl, h1, ⟨e, _⟩ | ⟨g, cap, cur, e, hg, hh, hr⟩⟩ := h
  · cases e
  · cases e
    exact ⟨hl, h1, Or.inr ⟨_, _, cur, rfl, hg, ((grown_setCell w p v).block _ (Array.getElem?_eq_some_iff.1 hh).1 (fun e => by cases e; exact hp rfl)).trans hh, hr⟩⟩
theorem gb_set {w : World} {b n c g : Nat} {xs : List Nat} (h : Gb w b (some ⟨g, 0, none⟩) n c xs) {j : Nat} (hj : j < n) (y : Nat) : Gb (w.setCell ⟨g, j, none⟩ (.int .u8 (y : Int))) b (some ⟨g, 0, none⟩) n c (xs.set j y) := by
  obtain ⟨hl, h1, ⟨e, _⟩ | ⟨g, cap, cur, e, hg, hh, hnc, hcm, hcs, hx⟩⟩ := h
  · cases e
  · cases e
    refine ⟨by simp [hl], by simpa [length_bs] using h1, Or.inr ⟨_, _, cur.setIfInBounds j (.int .u8 (y : Int)), rfl, hg, ?_, hnc, hcm, by simpa using hcs, ?_⟩⟩
    · obtain ⟨hlt, hk⟩ := Array.getElem?_eq_some_iff.1 hh
      show (w.heap.modify g _)[g]? = _
      rw [Array.getElem?_eq_getElem (by rw [Array.size_modify]; exact hlt), Array.getElem_modify_self, hk]
      rfl
    · rw [Array.toList_setIfInBounds, List.take_set, hx]
      simp [bs, List.map_set]
/-- the texts of bytes say which they are -/
theorem bstr_inj {a b : List Nat} (ha : Lim 256 a) (hb : Lim 256 b) (h : (bstr a).toList = (bstr b).toList) : a = b := by
  unfold bstr at h
  rw [Lib.strOfNums_toList, Lib.strOfNums_toList] at h
  have back : ∀ l : List Nat, Lim 256 l → (Lib.bytesOf (l.map fun x : Nat => (x : Int))).map (fun u => u.toNat) = l := by
    intro l hl
    induction l with
    | nil => rfl
    | cons x l ih =>
      have hx := hl x (by simp)
      simp only [Lib.bytesOf, List.map_cons, List.map_map] at ih ⊢
      rw [ih (fun y hy => hl y (List.mem_cons_of_mem _ hy))]
      congr 1
      simp only [Int.toNat_natCast, UInt8.toNat_ofNat']
      omega
  rw [← back a ha, ← back b hb, h]
theorem i64_and127 (n : Int) : bits .and .i64 n 127 = n % 128 := by
  have h1 : (BitVec.ofInt 64 127).toNat = 2 ^ 7 - 1 := by decide
  have key : (BitVec.ofInt 64 n &&& BitVec.ofInt 64 127).toNat = (n % ((2 ^ 64 : Nat) : Int)).toNat % 2 ^ 7 := by
    rw [BitVec.toNat_and, BitVec.toNat_ofInt, h1, Nat.and_two_pow_sub_one_eq_mod]
  show IntKind.i64.wrap ((BitVec.ofInt 64 n &&& BitVec.ofInt 64 127).toNat : Nat) = n % 128
  rw [key, IntKind.wrap_i64]
  omega
theorem i64_and7 (n : Int) : bits .and .i64 n 7 = n % 8 := by
  have h1 : (BitVec.ofInt 64 7).toNat = 2 ^ 3 - 1 := by decide
  have key : (BitVec.ofInt 64 n &&& BitVec.ofInt 64 7).toNat = (n % ((2 ^ 64 : Nat) : Int)).toNat % 2 ^ 3 := by
    rw [BitVec.toNat_and, BitVec.toNat_ofInt, h1, Nat.and_two_pow_sub_one_eq_mod]
  show IntKind.i64.wrap ((BitVec.ofInt 64 n &&& BitVec.ofInt 64 7).toNat : Nat) = n % 8
  rw [key, IntKind.wrap_i64]
  omega
theorem xor_bit_all : ∀ k < 8, ∀ x < 256, bits .xor .u8 ((x : Nat) : Int) (2 ^ k % 256) = (((bits .xor .u8 ((x : Nat) : Int) (2 ^ k % 256)).toNat : Nat) : Int) ∧ (bits .xor .u8 ((x : Nat) : Int) (2 ^ k % 256)).toNat < 256 ∧ (bits .xor .u8 ((x : Nat) : Int) (2 ^ k % 256)).toNat ≠ x := by decide +kernel
theorem xor_bit (k x : Nat) (hk : k < 8) (hx : x < 256) : ∃ y : Nat, bits .xor .u8 (x : Int) (2 ^ k % 256) = (y : Int) ∧ y < 256 ∧ y ≠ x :=
  ⟨_, xor_bit_all k hk x hx⟩
end Go.Proofs.YtonfpomgkgljiaaDoor
