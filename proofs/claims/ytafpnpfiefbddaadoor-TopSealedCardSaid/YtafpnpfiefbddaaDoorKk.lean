/- Layer 11's words over lists of bytes, and the reference's numbers, session keys and next key numbers. The own side: four numbers written, the beginning of a digest, session keys, next key numbers, cookies, sums. The own side: the beginning of a digest, session keys, next key numbers, cookies, sums. Next key numbers, cookies, sums and whether one is a front's: the own side and the reference's. The reference's lists and hops; equal lists; the cases out of reach. -/
import Derived.Test.YtafpnpfiefbddaaDoorText2
import Derived.Test.YtafpnpfiefbddaaDoorExpand
import Derived.Test.YtafpnpfiefbddaaDoorShell
namespace Go.Proofs.YtafpnpfiefbddaaDoor
set_option linter.unusedSimpArgs false
set_option linter.unusedVariables false
open Go.RowKit
set_option linter.unusedVariables false
set_option maxRecDepth 100000

/-- four numbers as bytes -/
def nums (a b c d : Nat) : List Nat := (by4 a ++ by4 b) ++ (by4 c ++ by4 d)
theorem nums_len (a b c d : Nat) : (nums a b c d).length = 16 := rfl
theorem nums_lim (a b c d : Nat) : Lim 256 (nums a b c d) := ((by4_lim a).append (by4_lim b)).append ((by4_lim c).append (by4_lim d))
/-- a session's key -/
def sess (a b c d : Nat) : List Nat := (sha (nums a b c d)).take 16
theorem sess_len (a b c d : Nat) : (sess a b c d).length = 16 := by simp [sess, length_sha]
theorem take_lim {L n : Nat} {xs : List Nat} (h : Lim L xs) : Lim L (xs.take n) := fun x hx => h x (List.mem_of_mem_take hx)
theorem sess_lim (a b c d : Nat) : Lim 256 (sess a b c d) := take_lim (sha_lim _)
/-- the number of the first four bytes -/
def num4 (xs : List Nat) : Nat := xs.getD 0 0 * 16777216 + xs.getD 1 0 * 65536 + xs.getD 2 0 * 256 + xs.getD 3 0
theorem getD_lim {L : Nat} {xs : List Nat} (h : Lim L xs) (hL : 0 < L) (j : Nat) : xs.getD j 0 < L := by
  simp only [List.getD]
  cases hx : xs[j]? with
  | none => simpa using hL
  | some x => simpa using h x (List.mem_of_getElem? hx)
theorem num4_lim {xs : List Nat} (h : Lim 256 xs) : num4 xs < 4294967296 := by
  have a := getD_lim h (by omega) 0
  have b := getD_lim h (by omega) 1
  have c := getD_lim h (by omega) 2
  have d := getD_lim h (by omega) 3
  unfold num4; omega
theorem num4_take {xs : List Nat} {n : Nat} (hn : 4 ≤ n) : num4 (xs.take n) = num4 xs := by
  have e : ∀ j, j < 4 → (xs.take n).getD j 0 = xs.getD j 0 := fun j hj => by
    simp only [List.getD, List.getElem?_take, if_pos (show j < n by omega)]
  unfold num4; rw [e 0 (by omega), e 1 (by omega), e 2 (by omega), e 3 (by omega)]
/-- the next key number -/
def nxt (a b d id : Nat) : Nat := num4 (sess a b id d)
theorem nxt_lim (a b d id : Nat) : nxt a b d id < 4294967296 := num4_lim (sess_lim _ _ _ _)
/-- the key number that so many hops lead to -/
def hop (a b d id : Nat) : Nat → Nat
  | 0 => id
  | k + 1 => nxt a b d (hop a b d id k)
theorem hop_lim (a b d id : Nat) (h : id < 4294967296) : ∀ k, hop a b d id k < 4294967296
  | 0 => h
  | k + 1 => nxt_lim _ _ _ _
theorem hop_add (a b d id i : Nat) : ∀ k, hop a b d (hop a b d id i) k = hop a b d id (i + k)
  | 0 => rfl
  | k + 1 => by rw [hop, hop_add a b d id i k]; rfl
/-- a list of key numbers -/
def lst (a b d id n : Nat) : List Nat := (List.range n).map (hop a b d id)
theorem lst_len (a b d id n : Nat) : (lst a b d id n).length = n := by simp [lst]
theorem lst_succ (a b d id n : Nat) : lst a b d id (n + 1) = lst a b d id n ++ [hop a b d id n] := by simp [lst, List.range_succ]
theorem lst_get (a b d id n j : Nat) (h : j < n) : (lst a b d id n).getD j 0 = hop a b d id j := by simp [lst, List.getD, h]
theorem lst_lim (a b d id n : Nat) (h : id < 4294967296) : Lim 4294967296 (lst a b d id n) := by
  intro x hx
  simp only [lst, List.mem_map] at hx
  obtain ⟨k, _, rfl⟩ := hx
  exact hop_lim a b d id h k

theorem nb_take {w : World} {B n c : Nat} {A : Option Addr} {xs : List Nat} (h : Nb w B A n c xs) (k : Nat) (hk : k ≤ n) : Nb w B A k c (xs.take k) := by
  refine ⟨by simp [h.len]; omega, Nat.le_trans hk h.cap, h.room, take_lim h.lim, fun h0 => ?_⟩
  obtain ⟨b, off, e, hb, hc⟩ := h.cell (by omega)
  refine ⟨b, off, e, hb, fun j x hx => hc j x ?_⟩
  rw [List.getElem?_take] at hx
  split at hx
  · exact hx
  · cases hx
end Go.Proofs.YtafpnpfiefbddaaDoor
namespace Go.Proofs.YtafpnpfiefbddaaDoor
open Go.RowKit
set_option linter.unusedVariables false
set_option maxRecDepth 100000

theorem take_next (D : List Nat) (k : Nat) (h : k < D.length) : D.take (k + 1) = D.take k ++ [D.getD k 0] := by
  rw [List.take_add_one, List.getElem?_eq_getElem h]; simp [List.getD, h]
theorem four_new (w : World) (x : Nat) : Nb (w.alloc (.cells #[.int .u8 (((by4 x).getD 0 0 : Nat) : Int), .int .u8 (((by4 x).getD 1 0 : Nat) : Int), .int .u8 (((by4 x).getD 2 0 : Nat) : Int), .int .u8 (((by4 x).getD 3 0 : Nat) : Int)] 5)) (w.heap.size + 1) (some ⟨w.heap.size, 0, none⟩) 4 4 (by4 x) := by
  refine ⟨rfl, Nat.le_refl _, by omega, by4_lim x, fun _ => ⟨w.heap.size, 0, rfl, Nat.lt_succ_self _, fun j y hj => ?_⟩⟩
  rw [cell_of_row _ _ _ _ 5 (0, 0) (heap_alloc_new w _)]
  match j, hj with
  | 0, hj => cases hj; rfl
  | 1, hj => cases hj; rfl
  | 2, hj => cases hj; rfl
  | 3, hj => cases hj; rfl
theorem flat_take (xs : List Nat) (k : Nat) (h : k < xs.length) : (xs.take (k + 1)).flatMap by4 = (xs.take k).flatMap by4 ++ by4 (xs.getD k 0) := by
  rw [take_next xs k h, List.flatMap_append]; simp
theorem flat_lim (xs : List Nat) : Lim 256 (xs.flatMap by4) := by
  intro y hy
  simp only [List.mem_flatMap] at hy
  obtain ⟨x, _, h⟩ := hy
  exact by4_lim x y h
theorem flat_len (xs : List Nat) : (xs.flatMap by4).length = 4 * xs.length := by
  induction xs with
  | nil => rfl
  | cons x xs ih => rw [List.flatMap_cons, List.length_append, ih]; simp [by4]; omega

set_option maxHeartbeats 1000000 in
theorem written_any {w : World} {B n c : Nat} {A : Option Addr} {xs : List Nat} (hx : Nw w B A n c xs) (hn : n ≤ 1000) (hB : B ≤ w.heap.size) :
    Calls Tryd.prog 23 #[.slice A n c] w fun e w' => ∃ A' c', e = .returned (.slice A' (4 * n) c') ∧ Nb w' w'.heap.size A' (4 * n) c' (xs.flatMap by4) ∧ Below w.heap.size w w' := by
  have gn := Gb.nil w w.heap.size
  have hxl := hx.len
  have hLx := hx.lim
  have HN := Lib.hid (flat_take xs)
  have HL := Lib.hid (flat_lim xs)
  have Hx := Lib.hid hx
  clear hx
  go_enter Tryd.func23, Tryd.ntmps23
  go_wp2
  go_loopw [8, 3] (fun i v wr => ∃ k : Nat, k ≤ n ∧ i = .int .i64 k ∧ ∃ A c, v = .slice A (4 * k) c ∧ Gb wr w.heap.size A (4 * k) c ((xs.take k).flatMap by4) ∧ Below w.heap.size w wr) (fun i _ _ => n - (intOf i).toNat)
  case atStart => exact ⟨0, by omega, rfl, none, 0, rfl, by simpa using gn, Below.refl _ _⟩
  case round =>
    obtain ⟨k, hk, rfl, A5, c5, rfl, hG, hB5⟩ := hrel
    have hs := hB5.size
    by_cases hkn : k < n
    · have hxk := Hx.out.keep (w' := wr) (fun p hp => hB5.cell (Nat.lt_of_lt_of_le hp hB))
      obtain ⟨b, off, rfl, hb, hc1⟩ := hxk.at_ hkn
      have Hn := Lib.hid (HN.out k (by omega))
      have hlt := getD_lim hLx (by omega) k
      generalize xs.getD k 0 = x at *
      have e0 : (x : Int) / 16777216 = (((by4 x).getD 0 0 : Nat) : Int) := by simp only [by4, List.getD, List.getElem?_cons_zero, Option.getD_some]; omega
      have e1 : (x : Int) / 65536 % 256 = (((by4 x).getD 1 0 : Nat) : Int) := by simp only [by4, List.getD, List.getElem?_cons_zero, List.getElem?_cons_succ, Option.getD_some]; omega
      have e2 : (x : Int) / 256 % 256 = (((by4 x).getD 2 0 : Nat) : Int) := by simp only [by4, List.getD, List.getElem?_cons_zero, List.getElem?_cons_succ, Option.getD_some]; omega
      have e3 : (x : Int) % 256 = (((by4 x).getD 3 0 : Nat) : Int) := by simp only [by4, List.getD, List.getElem?_cons_zero, List.getElem?_cons_succ, Option.getD_some]; omega
      have hw := four_new wr x
      generalize (by4 x).getD 0 0 = y0 at *
      generalize (by4 x).getD 1 0 = y1 at *
      generalize (by4 x).getD 2 0 = y2 at *
      generalize (by4 x).getD 3 0 = y3 at *
      have hG' := hG.alloc (.cells #[.int .u8 (y0 : Int), .int .u8 (y1 : Int), .int .u8 (y2 : Int), .int .u8 (y3 : Int)] 5)
      have hB' := hB5.alloc hs (.cells #[.int .u8 (y0 : Int), .int .u8 (y1 : Int), .int .u8 (y2 : Int), .int .u8 (y3 : Int)] 5)
      have Hw := Lib.hid hw
      clear hw HL hLx hG hxk
      go_wp2_with (refine wpList_app_row_b _ rfl (.tmp 12) (.tmp 24) rfl rfl hG' rfl Hw.out (by omega) hB' (by simp; omega) ?_; intro A7 c7 w7 hG7 hB7)
      go_roundw
      case rel => exact ⟨k + 1, by omega, by go_num, A7, c7, by go_num, by rw [Hn.out, show 4 * (k + 1) = 4 * k + 4 by omega]; exact hG7, hB7⟩
      case measure => simp [intOf]; omega
    · have e : k = n := by omega
      subst e
      rw [List.take_of_length_le (Nat.le_of_eq hxl)] at hG
      have HNb := Lib.hid (hG.nb HL.out)
      clear hG hkn
      go_wp2
      go_ret
      exact ⟨_, _, rfl, HNb.out, hB5⟩
end Go.Proofs.YtafpnpfiefbddaaDoor
namespace Go.Proofs.YtafpnpfiefbddaaDoor
open Go.RowKit
set_option linter.unusedVariables false
set_option maxRecDepth 100000

/-- a row of 16 bytes, all new -/
def New16 (xs : List Nat) (w : World) (e : Ending) (w' : World) : Prop := ∃ A' c', e = .returned (.slice A' 16 c') ∧ Nb w' w'.heap.size A' 16 c' xs ∧ (∃ g off, A' = some ⟨g, off, none⟩ ∧ w.heap.size ≤ g) ∧ Below w.heap.size w w'
theorem beginning_any (D : List Nat) (hD : D.length = 32) (hL : Lim 256 D) (w : World) : Calls Tryd.prog 20 #[.agg (bs D).toArray] w (New16 (D.take 16) w) := by
  have x0 : Bb (w.alloc (Yb 60 D)) w.heap.size 60 D := alloc_bb w 60 D
  have b0 : Below w.heap.size w (w.alloc (Yb 60 D)) := (Below.refl _ _).alloc (Nat.le_refl _) _
  have hs : (w.alloc (Yb 60 D)).heap.size = w.heap.size + 1 := by simp
  obtain ⟨w1, hw1⟩ : ∃ w1, w.alloc (Yb 60 D) = w1 := ⟨_, rfl⟩
  rw [hw1] at x0 b0 hs
  have n1 : Nb w1 w1.heap.size (some ⟨w.heap.size, 0, none⟩) 16 32 (D.take 16) := by
    have := nb_take (x0.nb 0 32 32 (by omega) (by omega) (by omega) hL) 16 (by omega)
    simpa [List.take_of_length_le (Nat.le_of_eq hD)] using this
  have H := Lib.hid (clone_any n1 (by omega))
  have HW := Lib.hid hw1
  clear hw1 n1 x0 hD hL
  go_enter Tryd.func20, Tryd.ntmps20
  go_wp2_with fail
  change Calls _ _ _ (w.alloc (Yb 60 D)) _
  rw [HW.out]
  refine H.out.mono ?_
  rintro e w2 ⟨A2, c2, rfl, n2, h2, b2⟩
  have B2 := then_ b0 b2
  obtain ⟨g, off, rfl, hg⟩ := h2 (by omega)
  clear b0 b2
  go_wp2_with fail
  go_ret
  exact ⟨_, _, rfl, n2, ⟨g, off, rfl, by omega⟩, B2⟩
theorem New16.any {xs : List Nat} {w w' : World} {e : Ending} (h : New16 xs w e w') : ∃ A' c', e = .returned (.slice A' 16 c') ∧ Nb w' w'.heap.size A' 16 c' xs ∧ Below w.heap.size w w' := by
  obtain ⟨A, c, e, n, _, b⟩ := h
  exact ⟨A, c, e, n, b⟩

/-- four words in a new row -/
theorem words_new (w : World) (a b c d : Nat) (hL : Lim 4294967296 [a, b, c, d]) : Nw (w.alloc (.cells #[.int .u32 (a : Int), .int .u32 (b : Int), .int .u32 (c : Int), .int .u32 (d : Int)] 22)) (w.heap.size + 1) (some ⟨w.heap.size, 0, none⟩) 4 4 [a, b, c, d] := by
  refine ⟨rfl, Nat.le_refl _, by omega, hL, fun _ => ⟨w.heap.size, 0, rfl, Nat.lt_succ_self _, fun j y hj => ?_⟩⟩
  rw [cell_of_row _ _ _ _ 22 (0, 0) (heap_alloc_new w _)]
  match j, hj with
  | 0, hj => cases hj; rfl
  | 1, hj => cases hj; rfl
  | 2, hj => cases hj; rfl
  | 3, hj => cases hj; rfl
theorem nums_flat (a b c d : Nat) : [a, b, c, d].flatMap by4 = nums a b c d := rfl
theorem written4 (w : World) (a b c d : Nat) (hL : Lim 4294967296 [a, b, c, d]) : Calls Tryd.prog 23 #[.slice (some ⟨w.heap.size, 0, none⟩) 4 4] (w.alloc (.cells #[.int .u32 (a : Int), .int .u32 (b : Int), .int .u32 (c : Int), .int .u32 (d : Int)] 22)) fun e w' => ∃ A' c', e = .returned (.slice A' 16 c') ∧ Nb w' w'.heap.size A' 16 c' (nums a b c d) ∧ Below w.heap.size w w' := by
  refine (written_any (words_new w a b c d hL) (by omega) (by simp)).mono ?_
  rintro e w' ⟨A, c', rfl, n1, b1⟩
  exact ⟨A, c', rfl, n1, ((Below.refl _ w).alloc (Nat.le_refl _) _).trans (b1.mono (by simp))⟩
theorem lim4 {a b c d : Nat} (ha : a < 4294967296) (hb : b < 4294967296) (hc : c < 4294967296) (hd : d < 4294967296) : Lim 4294967296 [a, b, c, d] := by
  intro x hx
  simp at hx
  rcases hx with rfl | rfl | rfl | rfl <;> assumption
theorem session_any {w : World} (hk : Ks w) (a b c d : Nat) (ha : a < 4294967296) (hb : b < 4294967296) (hc : c < 4294967296) (hd : d < 4294967296) :
    Calls Tryd.prog 8 #[.int .u32 (a : Int), .int .u32 (b : Int), .int .u32 (c : Int), .int .u32 (d : Int)] w (New16 (sess a b c d) w) := by
  have H1 := Lib.hid (fun w => written4 w a b c d (lim4 ha hb hc hd))
  have Hs := Lib.hid (show sess a b c d = (sha (nums a b c d)).take 16 from rfl)
  have HB := Lib.hid (beginning_any (sha (nums a b c d)) (length_sha _) (sha_lim _))
  have hsz := hk.size
  clear ha hb hc hd
  go_enter Tryd.func8, Tryd.ntmps8
  go_wp2_with fail
  refine (H1.out _).mono ?_
  rintro e w1 ⟨A1, c1, rfl, n1, b1⟩
  go_wp2_with fail
  refine (sum_any (hk.below b1 hsz) n1 (by omega)).mono ?_
  rintro e w2 ⟨rfl, b2⟩
  have B2 := then_ b1 b2
  clear n1 b1 b2
  go_wp2_with fail
  refine (HB.out _).mono ?_
  rintro e w3 ⟨A3, c3, rfl, n3, ⟨g, off, rfl, hg⟩, b3⟩
  have B3 := then_ B2 b3
  have hB2 := B2.size
  clear B2 b3
  go_wp2_with fail
  go_ret
  exact ⟨_, _, rfl, n3, ⟨g, off, rfl, by omega⟩, B3⟩
/-- keys.numberOf -/
theorem numberOf_any {w : World} {B n c : Nat} {A : Option Addr} {xs : List Nat} (h : Nb w B A n c xs) (hn : 4 ≤ n) :
    Calls Tryd.prog 62 #[.slice A n c] w fun e w' => (∃ q, w' = w.drewN q) ∧ e = .returned (.int .u32 ((num4 xs : Nat) : Int)) := by
  have hc := h.cap
  have hr := h.room
  obtain ⟨b, off, rfl, hb, h0⟩ := h.at_ (k := 0) (by omega)
  obtain ⟨b1, off1, e1, hb1, h1⟩ := h.at_ (k := 1) (by omega)
  obtain ⟨b2, off2, e2, hb2, h2⟩ := h.at_ (k := 2) (by omega)
  obtain ⟨b3, off3, e3, hb3, h3⟩ := h.at_ (k := 3) (by omega)
  simp only [Option.some.injEq, Addr.mk.injEq, and_true] at e1 e2 e3
  obtain ⟨rfl, rfl⟩ := e1
  obtain ⟨rfl, rfl⟩ := e2
  obtain ⟨rfl, rfl⟩ := e3
  have l0 := h.lim.get (by omega) 0
  have l1 := h.lim.get (by omega) 1
  have l2 := h.lim.get (by omega) 2
  have l3 := h.lim.get (by omega) 3
  have HN := Lib.hid (show num4 xs = word (xs.getD 0 0) (xs.getD 1 0) (xs.getD 2 0) (xs.getD 3 0) by unfold num4 word; omega)
  generalize num4 xs = M at *
  generalize xs.getD 0 0 = x0 at *
  generalize xs.getD 1 0 = x1 at *
  generalize xs.getD 2 0 = x2 at *
  generalize xs.getD 3 0 = x3 at *
  have Hw := Lib.hid (word_bits l0 l1 l2 l3)
  rw [Nat.add_zero] at h0
  clear h
  go_enter Tryd.func62, Tryd.ntmps62
  go_wp2
  go_quiet (fail)
  go_wp2
  go_ret
  rw [Hw.out, HN.out]
  exact ⟨⟨_, rfl⟩, rfl⟩
end Go.Proofs.YtafpnpfiefbddaaDoor
namespace Go.Proofs.YtafpnpfiefbddaaDoor
open Go.RowKit
set_option linter.unusedVariables false
set_option maxRecDepth 100000

theorem far_drewN (w : World) (q : Nat) : Below w.heap.size w (w.drewN q) := ⟨rfl, rfl, rfl, Nat.le_refl _, fun _ _ => rfl⟩
def Num (x : Nat) (w : World) (e : Ending) (w' : World) : Prop := e = .returned (.int .u32 (x : Int)) ∧ Below w.heap.size w w'
def U (a b c d : Nat) : Array Value := #[.int .u32 (a : Int), .int .u32 (b : Int), .int .u32 (c : Int), .int .u32 (d : Int)]
theorem next_any {w : World} (hk : Ks w) (a b c d : Nat) (ha : a < 4294967296) (hb : b < 4294967296) (hc : c < 4294967296) (hd : d < 4294967296) :
    Calls Tryd.prog 50 #[.int .u32 (a : Int), .int .u32 (b : Int), .int .u32 (c : Int), .int .u32 (d : Int)] w (Num (nxt a b d c) w) := by
  have H1 := Lib.hid (session_any hk a b c d ha hb hc hd)
  have hn : num4 (sess a b c d) = nxt a b d c := rfl
  have Hn := Lib.hid hn
  clear ha hb hc hd hn
  go_enter Tryd.func50, Tryd.ntmps50
  go_wp2_with fail
  refine H1.out.mono ?_
  rintro e w1 ⟨A1, c1, rfl, n1, _, b1⟩
  go_wp2_with fail
  refine (numberOf_any n1 (by omega)).mono ?_
  rintro e w2 ⟨⟨q, rfl⟩, rfl⟩
  rw [Hn.out]
  have B2 := then_ b1 (far_drewN w1 q)
  clear n1 b1
  go_wp2_with fail
  go_ret
  exact ⟨rfl, B2⟩
/-- a front's sum -/
def mac (k f : List Nat) : List Nat := (sha (k ++ f)).take 16
theorem mac_lim (k f : List Nat) : Lim 256 (mac k f) := take_lim (sha_lim _)
theorem mac_len (k f : List Nat) : (mac k f).length = 16 := by simp [mac, length_sha]
theorem mac_any {w : World} (hk : Ks w) {A A2 : Option Addr} {n c n2 c2 : Nat} {xs ys : List Nat} (hx : Nb w w.heap.size A n c xs) (hy : Nb w w.heap.size A2 n2 c2 ys) (hn : n + n2 ≤ 100000) :
    Calls Tryd.prog 7 #[.slice A n c, .slice A2 n2 c2] w (New16 (mac xs ys) w) := by
  have H1 := Lib.hid (keyed_any hk hx hy (by omega))
  have HB := Lib.hid (beginning_any (sha (xs ++ ys)) (length_sha _) (sha_lim _))
  have Hs := Lib.hid (show mac xs ys = (sha (xs ++ ys)).take 16 from rfl)
  clear hx hy
  go_enter Tryd.func7, Tryd.ntmps7
  go_wp2_with fail
  refine H1.out.mono ?_
  rintro e w2 ⟨rfl, b2⟩
  go_wp2_with fail
  refine (HB.out _).mono ?_
  rintro e w3 ⟨A3, c3, rfl, n3, ⟨g, off, rfl, hg⟩, b3⟩
  have B3 := then_ b2 b3
  have hB2 := b2.size
  clear b2 b3
  go_wp2_with fail
  go_ret
  exact ⟨_, _, rfl, n3, ⟨g, off, rfl, by omega⟩, B3⟩
set_option maxHeartbeats 1000000 in
/-- bytes.Equal -/
theorem equal_any {w : World} {B B2 : Nat} {A A2 : Option Addr} {n c n2 c2 : Nat} {xs ys : List Nat} (h : Nb w B A n c xs) (h2 : Nb w B2 A2 n2 c2 ys) :
    Calls Tryd.prog 26 #[.slice A n c, .slice A2 n2 c2] w fun e w' => e = .returned (.bool ((bstr xs).toList == (bstr ys).toList)) ∧ w = w' := by
  have k := conv_any h
  have k2 := conv_any h2
  generalize bstr xs = S at *
  generalize bstr ys = S2 at *
  go_enter Tryd.func26, Tryd.ntmps26
  go_wp2_with fail
  go_ret
  exact ⟨rfl, rfl⟩
theorem sealed_any {w : World} (hk : Ks w) (a b c d : Nat) (ha : a < 4294967296) (hb : b < 4294967296) (hc : c < 4294967296) (hd : d < 4294967296) {A A2 : Option Addr} {n cc n2 c2 : Nat} {xs ys : List Nat} (hx : Nb w w.heap.size A n cc xs) (hy : Nb w w.heap.size A2 n2 c2 ys) (hn : n ≤ 50000) :
    Calls Tryd.prog 11 #[.int .u32 (a : Int), .int .u32 (b : Int), .int .u32 (c : Int), .int .u32 (d : Int), .slice A n cc, .slice A2 n2 c2] w fun e w' => e = .returned (.bool ((bstr ys).toList == (bstr (mac (sess a b c d) xs)).toList)) ∧ Below w.heap.size w w' := by
  have H1 := Lib.hid (session_any hk a b c d ha hb hc hd)
  have hsz := hk.size
  clear ha hb hc hd
  go_enter Tryd.func11, Tryd.ntmps11
  go_wp2_with fail
  refine H1.out.mono ?_
  rintro e w1 ⟨A1, c1, rfl, n1, _, b1⟩
  have H2 := Lib.hid (mac_any (hk.below b1 hsz) n1 (hx.far b1) (by omega))
  clear n1 hx
  go_wp2_with fail
  refine H2.out.mono ?_
  rintro e w2 ⟨A3, c3, rfl, n2, _, b2⟩
  have B2 := then_ b1 b2
  have H3 := Lib.hid (equal_any (hy.far B2) n2)
  clear b1 b2 n2 hy
  go_wp2_with fail
  refine H3.out.mono ?_
  rintro e w3 ⟨rfl, rfl⟩
  go_wp2_with fail
  go_ret
  exact ⟨rfl, B2⟩
end Go.Proofs.YtafpnpfiefbddaaDoor
namespace Go.Proofs.YtafpnpfiefbddaaDoor
open Go.RowKit Go.Shelf
set_option linter.unusedVariables false
set_option maxRecDepth 100000

theorem list_out (a b c d : Nat) (n : Int) (h : n < 1 ∨ 256 < n) (w : World) : Calls Tryd.prog 12 #[.int .u32 (a : Int), .int .u32 (b : Int), .int .u32 (c : Int), .int .u32 (d : Int), .int .i64 n] w fun e w' => e = .returned (.tuple #[.slice none 0 0, .int .i64 1]) ∧ w = w' := by
  by_cases h1 : n < 1
  · go_enter Tryd.func12, Tryd.ntmps12
    go_wp2
    go_ret2
    exact ⟨rfl, rfl⟩
  · have h2 : 256 < n := by omega
    go_enter Tryd.func12, Tryd.ntmps12
    go_wp2
    go_ret2
    exact ⟨rfl, rfl⟩
end Go.Proofs.YtafpnpfiefbddaaDoor
