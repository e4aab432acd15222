/- Layer 11's words over lists of bytes, and the reference's numbers, session keys and next key numbers. -/
import Derived.Test.YtonfpomgkgljiaaDoorRef5
import Derived.Test.YtonfpomgkgljiaaDoorShell
namespace Go.Proofs.YtonfpomgkgljiaaDoor
open Go.RowKit
set_option linter.unusedVariables false
set_option maxRecDepth 100000

/-- four numbers as bytes -/
def nums (a b c d : Nat) : List Nat := (by4 a ++ by4 b) ++ (by4 c ++ by4 d)
theorem nums_len (a b c d : Nat) : (nums a b c d).length = 16 := rfl
theorem nums_lim (a b c d : Nat) : Lim 256 (nums a b c d) := ((by4_lim a).append (by4_lim b)).append ((by4_lim c).append (by4_lim d))
/-- a session's key -/
def sess (a b c d : Nat) : List Nat := (sha (nums a b c d)).take 16
theorem sess_len (a b c d : Nat) : (sess a b c d).length = 16 := by simp [sess, length_sha]
theorem take_lim {L n : Nat} {xs : List Nat} (h : Lim L xs) : Lim L (xs.take n) := fun x hx => h x (List.mem_of_mem_take hx)
theorem sess_lim (a b c d : Nat) : Lim 256 (sess a b c d) := take_lim (sha_lim _)
/-- the number of the first four bytes -/
def num4 (xs : List Nat) : Nat := xs.getD 0 0 * 16777216 + xs.getD 1 0 * 65536 + xs.getD 2 0 * 256 + xs.getD 3 0
theorem getD_lim {L : Nat} {xs : List Nat} (h : Lim L xs) (hL : 0 < L) (j : Nat) : xs.getD j 0 < L := by
  simp only [List.getD]
  cases hx : xs[j]? with
  | none => simpa using hL
  | some x => simpa using h x (List.mem_of_getElem? hx)
theorem num4_lim {xs : List Nat} (h : Lim 256 xs) : num4 xs < 4294967296 := by
  have a := getD_lim h (by omega) 0
  have b := getD_lim h (by omega) 1
  have c := getD_lim h (by omega) 2
  have d := getD_lim h (by omega) 3
  unfold num4; omega
theorem num4_take {xs : List Nat} {n : Nat} (hn : 4 ≤ n) : num4 (xs.take n) = num4 xs := by
  have e : ∀ j, j < 4 → (xs.take n).getD j 0 = xs.getD j 0 := fun j hj => by
    simp only [List.getD, List.getElem?_take, if_pos (show j < n by omega)]
  unfold num4; rw [e 0 (by omega), e 1 (by omega), e 2 (by omega), e 3 (by omega)]
/-- the next key number -/
def nxt (a b d id : Nat) : Nat := num4 (sess a b id d)
theorem nxt_lim (a b d id : Nat) : nxt a b d id < 4294967296 := num4_lim (sess_lim _ _ _ _)
/-- the key number that so many hops lead to -/
def hop (a b d id : Nat) : Nat → Nat
  | 0 => id
  | k + 1 => nxt a b d (hop a b d id k)
theorem hop_lim (a b d id : Nat) (h : id < 4294967296) : ∀ k, hop a b d id k < 4294967296
  | 0 => h
  | k + 1 => nxt_lim _ _ _ _
theorem hop_add (a b d id i : Nat) : ∀ k, hop a b d (hop a b d id i) k = hop a b d id (i + k)
  | 0 => rfl
  | k + 1 => by rw [hop, hop_add a b d id i k]; rfl
/-- a list of key numbers -/
def lst (a b d id n : Nat) : List Nat := (List.range n).map (hop a b d id)
theorem lst_len (a b d id n : Nat) : (lst a b d id n).length = n := by simp [lst]
theorem lst_succ (a b d id n : Nat) : lst a b d id (n + 1) = lst a b d id n ++ [hop a b d id n] := by simp [lst, List.range_succ]
theorem lst_get (a b d id n j : Nat) (h : j < n) : (lst a b d id n).getD j 0 = hop a b d id j := by simp [lst, List.getD, h]
theorem lst_lim (a b d id n : Nat) (h : id < 4294967296) : Lim 4294967296 (lst a b d id n) := by
  intro x hx
  simp only [lst, List.mem_map] at hx
  obtain ⟨k, _, rfl⟩ := hx
  exact hop_lim a b d id h k

theorem rnumbers_any (a b c d : Nat) (ha : a < 4294967296) (hb : b < 4294967296) (hc : c < 4294967296) (hd : d < 4294967296) (w : World) :
    Calls Tryd.prog 31 #[.int .u32 (a : Int), .int .u32 (b : Int), .int .u32 (c : Int), .int .u32 (d : Int)] w fun e w' => ∃ A' c', e = .returned (.slice A' 16 c') ∧ Nb w' w'.heap.size A' 16 c' (nums a b c d) ∧ Below w.heap.size w w' := by
  have H1 := Lib.hid (four_any a ha)
  have H2 := Lib.hid (four_any b hb)
  have H3 := Lib.hid (four_any c hc)
  have H4 := Lib.hid (four_any d hd)
  have L1 := Lib.hid ((by4_lim a).append (by4_lim b))
  have L2 := Lib.hid ((by4_lim c).append (by4_lim d))
  have L3 := Lib.hid (nums_lim a b c d)
  clear ha hb hc hd
  go_enter Tryd.func31, Tryd.ntmps31
  go_wp2_with fail
  refine (H1.out _).mono ?_
  rintro e w1 ⟨A1, c1, rfl, n1, b1⟩
  go_wp2_with fail
  refine (H2.out _).mono ?_
  rintro e w2 ⟨A2, c2, rfl, n2, b2⟩
  have n1' := n1.far b2
  have B2 := then_ b1 b2
  clear n1 b1 b2
  go_wp2_with fail
  refine (join_any n1' n2 (by omega)).mono ?_
  rintro e w3 ⟨A3, c3, rfl, g3, b3⟩
  have n3 := g3.nb L1.out
  have B3 := then_ B2 b3
  clear n1' n2 g3 B2 b3
  go_wp2_with fail
  refine (H3.out _).mono ?_
  rintro e w4 ⟨A4, c4, rfl, n4, b4⟩
  have n3' := n3.far b4
  have B4 := then_ B3 b4
  clear n3 B3 b4
  go_wp2_with fail
  refine (H4.out _).mono ?_
  rintro e w5 ⟨A5, c5, rfl, n5, b5⟩
  have n4' := n4.far b5
  have n3 := n3'.far b5
  have B5 := then_ B4 b5
  clear n4 n3' B4 b5
  go_wp2_with fail
  refine (join_any n4' n5 (by omega)).mono ?_
  rintro e w6 ⟨A6, c6, rfl, g6, b6⟩
  have n6 := g6.nb L2.out
  have n3' := n3.far b6
  have B6 := then_ B5 b6
  clear n4' n5 g6 n3 B5 b6
  go_wp2_with fail
  refine (join_any n3' n6 (by omega)).mono ?_
  rintro e w7 ⟨A7, c7, rfl, g7, b7⟩
  have n7 := g7.nb L3.out
  have B7 := then_ B6 b7
  clear n3' n6 g7 B6 b7
  go_wp2_with fail
  go_ret
  exact ⟨_, _, rfl, n7, B7⟩

theorem nb_take {w : World} {B n c : Nat} {A : Option Addr} {xs : List Nat} (h : Nb w B A n c xs) (k : Nat) (hk : k ≤ n) : Nb w B A k c (xs.take k) := by
  refine ⟨by simp [h.len]; omega, Nat.le_trans hk h.cap, h.room, take_lim h.lim, fun h0 => ?_⟩
  obtain ⟨b, off, e, hb, hc⟩ := h.cell (by omega)
  refine ⟨b, off, e, hb, fun j x hx => hc j x ?_⟩
  rw [List.getElem?_take] at hx
  split at hx
  · exact hx
  · cases hx
theorem rsession_any (a b c d : Nat) (ha : a < 4294967296) (hb : b < 4294967296) (hc : c < 4294967296) (hd : d < 4294967296) (w : World) :
    Calls Tryd.prog 11 #[.int .u32 (a : Int), .int .u32 (b : Int), .int .u32 (c : Int), .int .u32 (d : Int)] w fun e w' => ∃ A' c', e = .returned (.slice A' 16 c') ∧ Nb w' w'.heap.size A' 16 c' (sess a b c d) ∧ Below w.heap.size w w' := by
  have H1 := Lib.hid (rnumbers_any a b c d ha hb hc hd)
  have hs : sess a b c d = (sha (nums a b c d)).take 16 := rfl
  have hl := length_sha (nums a b c d)
  have hL := sha_lim (nums a b c d)
  obtain ⟨D, hD⟩ : ∃ D, sha (nums a b c d) = D := ⟨_, rfl⟩
  rw [hD] at hl hL hs
  have HD := Lib.hid hD
  have Hs := Lib.hid hs
  have HS := Lib.hid (rslice_any D hl hL)
  clear ha hb hc hd hD hl hs
  go_enter Tryd.func11, Tryd.ntmps11
  go_wp2_with fail
  refine (H1.out _).mono ?_
  rintro e w1 ⟨A1, c1, rfl, n1, b1⟩
  have hs := rsum_any n1 (by omega)
  rw [HD.out] at hs
  clear n1
  go_wp2_with fail
  refine hs.mono ?_
  rintro e w2 ⟨rfl, b2⟩
  have B2 := then_ b1 b2
  clear hs b1 b2
  go_wp2_with fail
  refine (HS.out _).mono ?_
  rintro e w3 ⟨A3, c3, rfl, n3, b3⟩
  have B3 := then_ B2 b3
  have n4 := nb_take n3 16 (by omega)
  have hc3 := n3.cap
  have hr3 := n3.room
  clear B2 b3 n3
  go_wp2_with fail
  go_ret
  exact ⟨_, _, rfl, by rw [Hs.out]; exact n4, B3⟩

theorem rfour_any {w : World} {B n c : Nat} {A : Option Addr} {xs : List Nat} (hx : Nb w B A n c xs) (hn : 4 ≤ n) (hB : B ≤ w.heap.size) :
    Calls Tryd.prog 33 #[.slice A n c] w fun e w' => e = .returned (.int .u32 ((num4 xs : Nat) : Int)) ∧ Below w.heap.size w w' := by
  have hL := hx.lim
  have x0 := getD_lim hL (by omega) 0
  have x1 := getD_lim hL (by omega) 1
  have x2 := getD_lim hL (by omega) 2
  have x3 := getD_lim hL (by omega) 3
  have hr := hx.room
  have hc := hx.cap
  have hcell : ∀ j, j < 4 → ∃ b off, A = some ⟨b, off, none⟩ ∧ b < B ∧ w.cell? ⟨b, off + j, none⟩ = some (.int .u8 ((xs.getD j 0 : Nat) : Int)) := fun j hj => hx.at_ (by omega)
  obtain ⟨b, off, rfl, hb, h0⟩ := hcell 0 (by omega)
  obtain ⟨_, _, e1, _, h1⟩ := hcell 1 (by omega)
  cases e1
  obtain ⟨_, _, e2, _, h2⟩ := hcell 2 (by omega)
  cases e2
  obtain ⟨_, _, e3, _, h3⟩ := hcell 3 (by omega)
  cases e3
  have HN := Lib.hid (show num4 xs = xs.getD 0 0 * 16777216 + xs.getD 1 0 * 65536 + xs.getD 2 0 * 256 + xs.getD 3 0 from rfl)
  generalize num4 xs = M at *
  generalize xs.getD 0 0 = y0 at *
  generalize xs.getD 1 0 = y1 at *
  generalize xs.getD 2 0 = y2 at *
  generalize xs.getD 3 0 = y3 at *
  clear hcell hx hL
  rw [Nat.add_zero] at h0
  go_enter Tryd.func33, Tryd.ntmps33
  go_wp2
  refine wp_loop_rounds 5 ?_
  rw [rounds_succ]; go_wp2
  rw [rounds_succ]; go_wp2
  rw [rounds_succ]; go_wp2
  rw [rounds_succ]; go_wp2
  rw [rounds_succ]; go_wp2
  go_ret
  refine ⟨?_, Below.refl _ _⟩
  have := HN.out
  have e : (256 * (256 * (256 * (y0 : Int) + y1) + y2) + y3) = (M : Int) := by omega
  exact congrArg (fun i : Int => Ending.returned (.int .u32 i)) e
end Go.Proofs.YtonfpomgkgljiaaDoor
