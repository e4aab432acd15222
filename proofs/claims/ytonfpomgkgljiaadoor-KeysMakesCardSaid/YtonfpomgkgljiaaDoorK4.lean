/- Next key numbers, cookies, sums and whether one is a front's: the own side and the reference's. -/
import Derived.Test.YtonfpomgkgljiaaDoorK3
import Derived.Test.YtonfpomgkgljiaaDoorRef4
namespace Go.Proofs.YtonfpomgkgljiaaDoor
open Go.RowKit
set_option linter.unusedVariables false
set_option maxRecDepth 100000

theorem far_drewN (w : World) (q : Nat) : Below w.heap.size w (w.drewN q) := ⟨rfl, rfl, rfl, Nat.le_refl _, fun _ _ => rfl⟩
def Num (x : Nat) (w : World) (e : Ending) (w' : World) : Prop := e = .returned (.int .u32 (x : Int)) ∧ Below w.heap.size w w'
def U (a b c d : Nat) : Array Value := #[.int .u32 (a : Int), .int .u32 (b : Int), .int .u32 (c : Int), .int .u32 (d : Int)]
theorem next_any {w : World} (hk : Ks w) (a b c d : Nat) (ha : a < 4294967296) (hb : b < 4294967296) (hc : c < 4294967296) (hd : d < 4294967296) :
    Calls Tryd.prog 12 #[.int .u32 (a : Int), .int .u32 (b : Int), .int .u32 (c : Int), .int .u32 (d : Int)] w (Num (nxt a b d c) w) := by
  have H1 := Lib.hid (session_any hk a b c d ha hb hc hd)
  have hn : num4 (sess a b c d) = nxt a b d c := rfl
  have Hn := Lib.hid hn
  clear ha hb hc hd hn
  go_enter Tryd.func12, Tryd.ntmps12
  go_wp2_with fail
  refine H1.out.mono ?_
  rintro e w1 ⟨A1, c1, rfl, n1, _, b1⟩
  go_wp2_with fail
  refine (numberOf_any n1 (by omega)).mono ?_
  rintro e w2 ⟨⟨q, rfl⟩, rfl⟩
  rw [Hn.out]
  have B2 := then_ b1 (far_drewN w1 q)
  clear n1 b1
  go_wp2_with fail
  go_ret
  exact ⟨rfl, B2⟩
theorem rnext_any {w : World} (a b c d : Nat) (ha : a < 4294967296) (hb : b < 4294967296) (hc : c < 4294967296) (hd : d < 4294967296) :
    Calls Tryd.prog 13 #[.int .u32 (a : Int), .int .u32 (b : Int), .int .u32 (c : Int), .int .u32 (d : Int)] w (Num (nxt a b d c) w) := by
  have H1 := Lib.hid (rsession_any a b c d ha hb hc hd w)
  have hn : num4 (sess a b c d) = nxt a b d c := rfl
  have Hn := Lib.hid hn
  clear ha hb hc hd hn
  go_enter Tryd.func13, Tryd.ntmps13
  go_wp2_with fail
  refine H1.out.mono ?_
  rintro e w1 ⟨A1, c1, rfl, n1, b1⟩
  go_wp2_with fail
  refine (rfour_any n1 (by omega) (Nat.le_refl _)).mono ?_
  rintro e w2 ⟨rfl, b2⟩
  rw [Hn.out]
  have B2 := then_ b1 b2
  clear n1 b1 b2
  go_wp2_with fail
  go_ret
  exact ⟨rfl, B2⟩
/-- a cookie -/
def ck (a b z : Nat) : Nat := num4 (sha (nums a b 0 z))
theorem cookie_any {w : World} (hk : Ks w) (a b c : Nat) (ha : a < 4294967296) (hb : b < 4294967296) (hc : c < 4294967296) :
    Calls Tryd.prog 14 #[.int .u32 (a : Int), .int .u32 (b : Int), .int .u32 (c : Int)] w (Num (ck a b c) w) := by
  have H1 := Lib.hid (fun w => written4 w a b 0 c (lim4 ha hb (by omega) hc))
  have hsz := hk.size
  have hl := length_sha (nums a b 0 c)
  have hL := sha_lim (nums a b 0 c)
  have hn : num4 (sha (nums a b 0 c)) = ck a b c := rfl
  obtain ⟨D, hD⟩ : ∃ D, sha (nums a b 0 c) = D := ⟨_, rfl⟩
  rw [hD] at hl hL hn
  have Hn := Lib.hid hn
  have HD := Lib.hid hD
  have HDl : Hid ((bs D).length = 32) := Lib.hid (by rw [length_bs, hl])
  clear ha hb hc hn hD
  go_enter Tryd.func14, Tryd.ntmps14
  go_wp2_with fail
  refine (H1.out _).mono ?_
  rintro e w1 ⟨A1, c1, rfl, n1, b1⟩
  have hs := sum_any (hk.below b1 hsz) n1 (by omega)
  rw [HD.out] at hs
  clear n1
  go_wp2_with fail
  refine hs.mono ?_
  rintro e w2 ⟨rfl, b2⟩
  have B2 := then_ b1 b2
  clear b1 b2 hs
  have t0 : Bb (w2.alloc (Yb 45 (List.replicate 32 0))) w2.heap.size 45 (List.replicate 32 0) := alloc_bb _ _ _
  have B4 : Below w.heap.size w ((w2.alloc (Yb 45 (List.replicate 32 0))).setRow w2.heap.size (bs D).toArray) := below_setRow (B2.alloc B2.size _) B2.size _
  have t4 : Bb ((w2.alloc (Yb 45 (List.replicate 32 0))).setRow w2.heap.size (bs D).toArray) w2.heap.size 45 D := setRow_heap _ _ _ _ _ _ t0
  obtain ⟨w4, hw4⟩ : ∃ w4, (w2.alloc (Yb 45 (List.replicate 32 0))).setRow w2.heap.size (bs D).toArray = w4 := ⟨_, rfl⟩
  rw [hw4] at B4 t4
  have Hw4 := Lib.hid hw4
  have Ht0 := Lib.hid t0
  have n4 : Nb w4 w4.heap.size (some ⟨w2.heap.size, 0, none⟩) 32 32 D := by
    have := t4.nb 0 32 32 (by omega) (by omega) (by omega) hL
    simpa [List.take_of_length_le (Nat.le_of_eq hl)] using this
  have hsl := fun W => slice_sum w2.heap.size W
  clear hw4 t0 t4 B2
  go_wp2_with (change wpList _ _ _ _ _ (w2.alloc (Yb 45 (List.replicate 32 0))); refine wpList_store_row rfl rfl 45 (.tmp 7) (.tmp 13) rfl w2.heap.size rfl (bs D) rfl 45 _ Ht0.out (bs_one _) (by rw [HDl.out]; simp [bs]) (by rw [HDl.out]; kernel_rfl) ?_; rw [Hw4.out])
  refine (numberOf_any n4 (by omega)).mono ?_
  rintro e w5 ⟨⟨q, rfl⟩, rfl⟩
  rw [Hn.out]
  have B5 := then_ B4 (far_drewN w4 q)
  clear n4 B4
  go_wp2_with fail
  go_ret
  exact ⟨rfl, B5⟩
/-- a cookie that is bound to a face -/
def bk (a b z : Nat) (f : List Nat) : Nat := num4 (sha (nums a b 1 z ++ f))
theorem bound_any {w : World} (hk : Ks w) (a b c : Nat) (ha : a < 4294967296) (hb : b < 4294967296) (hc : c < 4294967296) {A : Option Addr} {n cc : Nat} {xs : List Nat} (hx : Nb w w.heap.size A n cc xs) (hn : n ≤ 100000) :
    Calls Tryd.prog 16 #[.int .u32 (a : Int), .int .u32 (b : Int), .int .u32 (c : Int), .slice A n cc] w (Num (bk a b c xs) w) := by
  have H1 := Lib.hid (fun w => written4 w a b 1 c (lim4 ha hb (by omega) hc))
  have hsz := hk.size
  have hl := length_sha (nums a b 1 c ++ xs)
  have hL := sha_lim (nums a b 1 c ++ xs)
  have hn' : num4 (sha (nums a b 1 c ++ xs)) = bk a b c xs := rfl
  obtain ⟨D, hD⟩ : ∃ D, sha (nums a b 1 c ++ xs) = D := ⟨_, rfl⟩
  rw [hD] at hl hL hn'
  have Hn := Lib.hid hn'
  have HD := Lib.hid hD
  have HDl : Hid ((bs D).length = 32) := Lib.hid (by rw [length_bs, hl])
  clear ha hb hc hn' hD
  go_enter Tryd.func16, Tryd.ntmps16
  go_wp2_with fail
  refine (H1.out _).mono ?_
  rintro e w1 ⟨A1, c1, rfl, n1, b1⟩
  have hs := keyed_any (hk.below b1 hsz) n1 (hx.far b1) (by omega)
  rw [HD.out] at hs
  clear n1 hx
  go_wp2_with fail
  refine hs.mono ?_
  rintro e w2 ⟨rfl, b2⟩
  have B2 := then_ b1 b2
  clear b1 b2 hs
  have t0 : Bb (w2.alloc (Yb 45 (List.replicate 32 0))) w2.heap.size 45 (List.replicate 32 0) := alloc_bb _ _ _
  have B4 : Below w.heap.size w ((w2.alloc (Yb 45 (List.replicate 32 0))).setRow w2.heap.size (bs D).toArray) := below_setRow (B2.alloc B2.size _) B2.size _
  have t4 : Bb ((w2.alloc (Yb 45 (List.replicate 32 0))).setRow w2.heap.size (bs D).toArray) w2.heap.size 45 D := setRow_heap _ _ _ _ _ _ t0
  obtain ⟨w4, hw4⟩ : ∃ w4, (w2.alloc (Yb 45 (List.replicate 32 0))).setRow w2.heap.size (bs D).toArray = w4 := ⟨_, rfl⟩
  rw [hw4] at B4 t4
  have Hw4 := Lib.hid hw4
  have Ht0 := Lib.hid t0
  have n4 : Nb w4 w4.heap.size (some ⟨w2.heap.size, 0, none⟩) 32 32 D := by
    have := t4.nb 0 32 32 (by omega) (by omega) (by omega) hL
    simpa [List.take_of_length_le (Nat.le_of_eq hl)] using this
  have hsl := fun W => slice_sum w2.heap.size W
  clear hw4 t0 t4 B2
  go_wp2_with (change wpList _ _ _ _ _ (w2.alloc (Yb 45 (List.replicate 32 0))); refine wpList_store_row rfl rfl 45 (.tmp 9) (.tmp 16) rfl w2.heap.size rfl (bs D) rfl 45 _ Ht0.out (bs_one _) (by rw [HDl.out]; simp [bs]) (by rw [HDl.out]; kernel_rfl) ?_; rw [Hw4.out])
  refine (numberOf_any n4 (by omega)).mono ?_
  rintro e w5 ⟨⟨q, rfl⟩, rfl⟩
  rw [Hn.out]
  have B5 := then_ B4 (far_drewN w4 q)
  clear n4 B4
  go_wp2_with fail
  go_ret
  exact ⟨rfl, B5⟩
/-- a front's sum -/
def mac (k f : List Nat) : List Nat := (sha (k ++ f)).take 16
theorem mac_lim (k f : List Nat) : Lim 256 (mac k f) := take_lim (sha_lim _)
theorem mac_len (k f : List Nat) : (mac k f).length = 16 := by simp [mac, length_sha]
theorem mac_any {w : World} (hk : Ks w) {A A2 : Option Addr} {n c n2 c2 : Nat} {xs ys : List Nat} (hx : Nb w w.heap.size A n c xs) (hy : Nb w w.heap.size A2 n2 c2 ys) (hn : n + n2 ≤ 100000) :
    Calls Tryd.prog 24 #[.slice A n c, .slice A2 n2 c2] w (New16 (mac xs ys) w) := by
  have H1 := Lib.hid (keyed_any hk hx hy (by omega))
  have HB := Lib.hid (beginning_any (sha (xs ++ ys)) (length_sha _) (sha_lim _))
  have Hs := Lib.hid (show mac xs ys = (sha (xs ++ ys)).take 16 from rfl)
  clear hx hy
  go_enter Tryd.func24, Tryd.ntmps24
  go_wp2_with fail
  refine H1.out.mono ?_
  rintro e w2 ⟨rfl, b2⟩
  go_wp2_with fail
  refine (HB.out _).mono ?_
  rintro e w3 ⟨A3, c3, rfl, n3, ⟨g, off, rfl, hg⟩, b3⟩
  have B3 := then_ b2 b3
  have hB2 := b2.size
  clear b2 b3
  go_wp2_with fail
  go_ret
  exact ⟨_, _, rfl, n3, ⟨g, off, rfl, by omega⟩, B3⟩
theorem rmac_any {w : World} {A A2 : Option Addr} {n c n2 c2 : Nat} {xs ys : List Nat} (hx : Nb w w.heap.size A n c xs) (hy : Nb w w.heap.size A2 n2 c2 ys) (hn : n + n2 ≤ 100000) :
    Calls Tryd.prog 23 #[.slice A n c, .slice A2 n2 c2] w fun e w' => ∃ A' c', e = .returned (.slice A' 16 c') ∧ Nb w' w'.heap.size A' 16 c' (mac xs ys) ∧ Below w.heap.size w w' := by
  have H1 := Lib.hid (rkeyed_any hx hy (by omega))
  have HS := Lib.hid (rslice_any (sha (xs ++ ys)) (length_sha _) (sha_lim _))
  have Hs := Lib.hid (show mac xs ys = (sha (xs ++ ys)).take 16 from rfl)
  clear hx hy
  go_enter Tryd.func23, Tryd.ntmps23
  go_wp2_with fail
  refine H1.out.mono ?_
  rintro e w2 ⟨rfl, b2⟩
  go_wp2_with fail
  refine (HS.out _).mono ?_
  rintro e w3 ⟨A3, c3, rfl, n3, b3⟩
  have B3 := then_ b2 b3
  have n4 := nb_take n3 16 (by omega)
  have hc3 := n3.cap
  have hr3 := n3.room
  clear b2 b3 n3
  go_wp2_with fail
  go_ret
  exact ⟨_, _, rfl, by rw [Hs.out]; exact n4, B3⟩
set_option maxHeartbeats 1000000 in
/-- bytes.Equal -/
theorem equal_any {w : World} {B B2 : Nat} {A A2 : Option Addr} {n c n2 c2 : Nat} {xs ys : List Nat} (h : Nb w B A n c xs) (h2 : Nb w B2 A2 n2 c2 ys) :
    Calls Tryd.prog 38 #[.slice A n c, .slice A2 n2 c2] w fun e w' => e = .returned (.bool ((bstr xs).toList == (bstr ys).toList)) ∧ w = w' := by
  have k := conv_any h
  have k2 := conv_any h2
  generalize bstr xs = S at *
  generalize bstr ys = S2 at *
  go_enter Tryd.func38, Tryd.ntmps38
  go_wp2_with fail
  go_ret
  exact ⟨rfl, rfl⟩
theorem sealed_any {w : World} (hk : Ks w) (a b c d : Nat) (ha : a < 4294967296) (hb : b < 4294967296) (hc : c < 4294967296) (hd : d < 4294967296) {A A2 : Option Addr} {n cc n2 c2 : Nat} {xs ys : List Nat} (hx : Nb w w.heap.size A n cc xs) (hy : Nb w w.heap.size A2 n2 c2 ys) (hn : n ≤ 50000) :
    Calls Tryd.prog 25 #[.int .u32 (a : Int), .int .u32 (b : Int), .int .u32 (c : Int), .int .u32 (d : Int), .slice A n cc, .slice A2 n2 c2] w fun e w' => e = .returned (.bool ((bstr ys).toList == (bstr (mac (sess a b c d) xs)).toList)) ∧ Below w.heap.size w w' := by
  have H1 := Lib.hid (session_any hk a b c d ha hb hc hd)
  have hsz := hk.size
  clear ha hb hc hd
  go_enter Tryd.func25, Tryd.ntmps25
  go_wp2_with fail
  refine H1.out.mono ?_
  rintro e w1 ⟨A1, c1, rfl, n1, _, b1⟩
  have H2 := Lib.hid (mac_any (hk.below b1 hsz) n1 (hx.far b1) (by omega))
  clear n1 hx
  go_wp2_with fail
  refine H2.out.mono ?_
  rintro e w2 ⟨A3, c3, rfl, n2, _, b2⟩
  have B2 := then_ b1 b2
  have H3 := Lib.hid (equal_any (hy.far B2) n2)
  clear b1 b2 n2 hy
  go_wp2_with fail
  refine H3.out.mono ?_
  rintro e w3 ⟨rfl, rfl⟩
  go_wp2_with fail
  go_ret
  exact ⟨rfl, B2⟩
/-- the reference's cookies -/
theorem rcookie_any {w : World} (a b c : Nat) (ha : a < 4294967296) (hb : b < 4294967296) (hc : c < 4294967296) :
    Calls Tryd.prog 15 #[.int .u32 (a : Int), .int .u32 (b : Int), .int .u32 (c : Int)] w (Num (ck a b c) w) := by
  have H1 := Lib.hid (fun w => rnumbers_any a b 0 c ha hb (by omega) hc w)
  have Hn := Lib.hid (show num4 (sha (nums a b 0 c)) = ck a b c from rfl)
  have HS := Lib.hid (rslice_any (sha (nums a b 0 c)) (length_sha _) (sha_lim _))
  clear ha hb hc
  go_enter Tryd.func15, Tryd.ntmps15
  go_wp2_with fail
  refine (H1.out _).mono ?_
  rintro e w1 ⟨A1, c1, rfl, n1, b1⟩
  go_wp2_with fail
  refine (rsum_any n1 (by omega)).mono ?_
  rintro e w2 ⟨rfl, b2⟩
  have B2 := then_ b1 b2
  clear b1 b2 n1
  go_wp2_with fail
  refine (HS.out _).mono ?_
  rintro e w3 ⟨A3, c3, rfl, n3, b3⟩
  have B3 := then_ B2 b3
  clear B2 b3
  go_wp2_with fail
  refine (rfour_any n3 (by omega) (Nat.le_refl _)).mono ?_
  rintro e w4 ⟨rfl, b4⟩
  rw [Hn.out]
  have B4 := then_ B3 b4
  clear n3 B3 b4
  go_wp2_with fail
  go_ret
  exact ⟨rfl, B4⟩
theorem rbound_any {w : World} (a b c : Nat) (ha : a < 4294967296) (hb : b < 4294967296) (hc : c < 4294967296) {A : Option Addr} {n cc : Nat} {xs : List Nat} (hx : Nb w w.heap.size A n cc xs) (hn : n ≤ 100000) :
    Calls Tryd.prog 17 #[.int .u32 (a : Int), .int .u32 (b : Int), .int .u32 (c : Int), .slice A n cc] w (Num (bk a b c xs) w) := by
  have H1 := Lib.hid (fun w => rnumbers_any a b 1 c ha hb (by omega) hc w)
  have Hn := Lib.hid (show num4 (sha (nums a b 1 c ++ xs)) = bk a b c xs from rfl)
  have HS := Lib.hid (rslice_any (sha (nums a b 1 c ++ xs)) (length_sha _) (sha_lim _))
  clear ha hb hc
  go_enter Tryd.func17, Tryd.ntmps17
  go_wp2_with fail
  refine (H1.out _).mono ?_
  rintro e w1 ⟨A1, c1, rfl, n1, b1⟩
  have hL := n1.lim.append hx.lim
  have HJ := Lib.hid (join_any n1 (hx.far b1) (by omega))
  clear n1 hx
  go_wp2_with fail
  refine HJ.out.mono ?_
  rintro e w2 ⟨A2, c2, rfl, g2, b2⟩
  have B2 := then_ b1 b2
  have HR := Lib.hid (rsum_any (g2.nb hL) (by omega))
  clear b1 b2 g2
  go_wp2_with fail
  refine HR.out.mono ?_
  rintro e w2 ⟨rfl, b2⟩
  have B2 := then_ B2 b2
  clear b2
  go_wp2_with fail
  refine (HS.out _).mono ?_
  rintro e w3 ⟨A3, c3, rfl, n3, b3⟩
  have B3 := then_ B2 b3
  clear B2 b3
  go_wp2_with fail
  refine (rfour_any n3 (by omega) (Nat.le_refl _)).mono ?_
  rintro e w4 ⟨rfl, b4⟩
  rw [Hn.out]
  have B4 := then_ B3 b4
  clear n3 B3 b4
  go_wp2_with fail
  go_ret
  exact ⟨rfl, B4⟩
end Go.Proofs.YtonfpomgkgljiaaDoor
