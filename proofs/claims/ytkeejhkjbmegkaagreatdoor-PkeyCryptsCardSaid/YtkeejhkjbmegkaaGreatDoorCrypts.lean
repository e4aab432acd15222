/- For every key, every text, all draws and every ciphertext the Go function PkeyCrypts returns true and leaves its arguments as they were. No condition but the laid constants. clepsydraref05: Encrypt. clepsydraref05: Decrypt. clepsydraref05: Decrypt of what it decrypts. Encrypt and Decrypt of any key: what they tell. -/
import Derived.Test.YtkeejhkjbmegkaaGreatDoorFa

namespace Go.Proofs.YtkeejhkjbmegkaaGreatDoor
open Go.RowKit
set_option linter.unusedVariables false
set_option maxRecDepth 100000
set_option exponentiation.threshold 70000

theorem gb_bel {w w' : World} {base n c : Nat} {A : Option Addr} {xs : List Nat} (h : Sh.Gb w base A n c xs) (hb : Below w.heap.size w w') : Sh.Gb w' base A n c xs := by
  refine ⟨h.1, h.2.1, ?_⟩
  rcases h.2.2 with h0 | ⟨g, cap, cur, e, hg, ho, h4⟩
  · exact .inl h0
  · have hlt : g < w.heap.size := by
      rcases Nat.lt_or_ge g w.heap.size with h1 | h1
      · exact h1
      · rw [Array.getElem?_eq_none h1] at ho; cases ho
    exact .inr ⟨g, cap, cur, e, hg, by rw [hb.block g hlt]; exact ho, h4⟩
set_option maxHeartbeats 4000000 in
theorem renc_bad {w : World} {v : Value} {N E D s : Nat} (h : Pr w v N E D) {A4 : Option Addr} {m c4 : Nat} {ts : List Nat} (ht : Sh.Nb w w.heap.size A4 m c4 ts) {A5 : Option Addr} {l c5 : Nat} {ds : List Nat} (hd : Sh.Nb w w.heap.size A5 l c5 ds) (hR : rightK N E D = false) :
    Calls Tryz.prog 15 #[v, .slice A4 m c4, .slice A5 l c5] w (RetPad 50 w) := by
  have HR := Lib.hid hR
  clear hR
  have Hh := Lib.hid h
  have rt := ht.room
  have rt2 := ht.cap
  have rd := hd.room
  have rd2 := hd.cap
  obtain ⟨A1, n1, c1, x1, A2, n2, c2, x2, A3, n3, c3, x3, rfl, h1', e1, l1, h2', e2, l2, h3', e3, l3⟩ := h.ex
  clear h
  obtain ⟨w0, e0⟩ : ∃ w0, w0 = w.alloc (.cells #[Value.slice A1 n1 c1, .slice A2 n2 c2, .slice A3 n3 c3] 24) := ⟨_, rfl⟩
  obtain ⟨hx0, b0⟩ := box_new e0
  have h1 := h1'.up b0
  have h2 := h2'.up b0
  have h3 := h3'.up b0
  clear h1' h2' h3'
  have q0 := hx0.c0
  have q1 := hx0.c1
  have q2 := hx0.c2
  have ht0 := ht.go b0
  have hd0 := hd.go b0
  go_enter Tryz.func15, Tryz.ntmps15
  go_wp2_with fail
  rw [← e0]
  clear e0
  refine (rkright_bad (Hh.out.up b0) HR.out).mono ?_
  rintro e w1 ⟨rfl, b1⟩
  go_wp2_with fail
  go_ret2
  exact ⟨rfl, bthen b0 b1⟩
set_option maxHeartbeats 4000000 in
theorem renc_pad {w : World} {v : Value} {N E D s : Nat} (h : Pr w v N E D) {A4 : Option Addr} {m c4 : Nat} {ts : List Nat} (ht : Sh.Nb w w.heap.size A4 m c4 ts) {A5 : Option Addr} {l c5 : Nat} {ds : List Nat} (hd : Sh.Nb w w.heap.size A5 l c5 ds) (hR : rightK N E D = true) (hs : (bl N + 7) / 8 = s) (hm : s < 11 + m) (hm2 : m ≤ 1000) :
    Calls Tryz.prog 15 #[v, .slice A4 m c4, .slice A5 l c5] w (RetPad 51 w) := by
  have HR := Lib.hid hR
  have hsz := fun W (k : Pr W v N E D) => rSize_any k
  rw [hs] at hsz
  have Hsz := Lib.hid hsz
  have hs2 : s ≤ 128 := by have := rightK_pos hR; omega
  have hN0 : 0 < N := (rightK_pos hR).1
  have hwk := fun W (k : Pr W v N E D) {A n c pw xs} (kp : Nt W W.heap.size A n c xs) (ep : val 18446744073709551616 xs = pw) (lp : n ≤ 100) {A2 m c2 bs} (kb : Nb W W.heap.size A2 m c2 bs) (km : m ≤ 1000) => rwork_any k hN0 hs (by omega) kp ep lp kb km
  have Hwk := Lib.hid hwk
  clear hR hs hsz hwk
  have Hh := Lib.hid h
  have rt := ht.room
  have rt2 := ht.cap
  have rd := hd.room
  have rd2 := hd.cap
  obtain ⟨A1, n1, c1, x1, A2, n2, c2, x2, A3, n3, c3, x3, rfl, h1', e1, l1, h2', e2, l2, h3', e3, l3⟩ := h.ex
  clear h
  obtain ⟨w0, e0⟩ : ∃ w0, w0 = w.alloc (.cells #[Value.slice A1 n1 c1, .slice A2 n2 c2, .slice A3 n3 c3] 24) := ⟨_, rfl⟩
  obtain ⟨hx0, b0⟩ := box_new e0
  have h1 := h1'.up b0
  have h2 := h2'.up b0
  have h3 := h3'.up b0
  clear h1' h2' h3'
  have q0 := hx0.c0
  have q1 := hx0.c1
  have q2 := hx0.c2
  have ht0 := ht.go b0
  have hd0 := hd.go b0
  go_enter Tryz.func15, Tryz.ntmps15
  go_wp2_with fail
  rw [← e0]
  clear e0
  refine (rkright_ok (Hh.out.up b0) HR.out).mono ?_
  rintro e w1 ⟨rfl, b1⟩
  have hx1 := hx0.up b1
  have p0 := hx1.c0
  have p1 := hx1.c1
  have p2 := hx1.c2
  go_wp2_with fail
  refine (Hsz.out _ ((Hh.out.up b0).up b1)).mono ?_
  rintro e w2 ⟨rfl, b2⟩
  have B2 := bthen b1 b2
  have hx2 := hx0.up B2
  have r0 := hx2.c0
  have r1 := hx2.c1
  have r2 := hx2.c2
  have hdm : decide ((s : Int) - 11 < (m : Int)) = true := by simp; omega
  go_wp2_with fail
  go_ret2
  exact ⟨rfl, bthen b0 B2⟩
set_option maxHeartbeats 4000000 in
theorem renc_few {w : World} {v : Value} {N E D s : Nat} (h : Pr w v N E D) {A4 : Option Addr} {m c4 : Nat} {ts : List Nat} (ht : Sh.Nb w w.heap.size A4 m c4 ts) {A5 : Option Addr} {l c5 : Nat} {ds : List Nat} (hd : Sh.Nb w w.heap.size A5 l c5 ds) (hR : rightK N E D = true) (hs : (bl N + 7) / 8 = s) {r : Nat} (hm : s = r + 3 + m) (h8 : 8 ≤ r) (hm6 : (fillL ds r).length < r) :
    Calls Tryz.prog 15 #[v, .slice A4 m c4, .slice A5 l c5] w (RetPad 52 w) := by
  have HR := Lib.hid hR
  have hsz := fun W (k : Pr W v N E D) => rSize_any k
  rw [hs] at hsz
  have Hsz := Lib.hid hsz
  have hs2 : s ≤ 128 := by have := rightK_pos hR; omega
  have hN0 : 0 < N := (rightK_pos hR).1
  have hwk := fun W (k : Pr W v N E D) {A n c pw xs} (kp : Nt W W.heap.size A n c xs) (ep : val 18446744073709551616 xs = pw) (lp : n ≤ 100) {A2 m c2 bs} (kb : Nb W W.heap.size A2 m c2 bs) (km : m ≤ 1000) => rwork_any k hN0 hs (by omega) kp ep lp kb km
  have Hwk := Lib.hid hwk
  clear hR hs hsz hwk
  have Hh := Lib.hid h
  have rt := ht.room
  have rt2 := ht.cap
  have rd := hd.room
  have rd2 := hd.cap
  obtain ⟨A1, n1, c1, x1, A2, n2, c2, x2, A3, n3, c3, x3, rfl, h1', e1, l1, h2', e2, l2, h3', e3, l3⟩ := h.ex
  clear h
  obtain ⟨w0, e0⟩ : ∃ w0, w0 = w.alloc (.cells #[Value.slice A1 n1 c1, .slice A2 n2 c2, .slice A3 n3 c3] 24) := ⟨_, rfl⟩
  obtain ⟨hx0, b0⟩ := box_new e0
  have h1 := h1'.up b0
  have h2 := h2'.up b0
  have h3 := h3'.up b0
  clear h1' h2' h3'
  have q0 := hx0.c0
  have q1 := hx0.c1
  have q2 := hx0.c2
  have ht0 := ht.go b0
  have hd0 := hd.go b0
  go_enter Tryz.func15, Tryz.ntmps15
  go_wp2_with fail
  rw [← e0]
  clear e0
  refine (rkright_ok (Hh.out.up b0) HR.out).mono ?_
  rintro e w1 ⟨rfl, b1⟩
  have hx1 := hx0.up b1
  have p0 := hx1.c0
  have p1 := hx1.c1
  have p2 := hx1.c2
  go_wp2_with fail
  refine (Hsz.out _ ((Hh.out.up b0).up b1)).mono ?_
  rintro e w2 ⟨rfl, b2⟩
  have B2 := bthen b1 b2
  have hx2 := hx0.up B2
  have r0 := hx2.c0
  have r1 := hx2.c1
  have r2 := hx2.c2
  have hdm : decide ((s : Int) - 11 < (m : Int)) = false := by simp; omega
  have hG0 := Sh.Gb.nil (w2.alloc (.cells #[.int .u8 ((0 : Nat) : Int), .int .u8 ((2 : Nat) : Int)] 5)) w2.heap.size
  have hB0 : Below w2.heap.size w2 (w2.alloc (.cells #[.int .u8 ((0 : Nat) : Int), .int .u8 ((2 : Nat) : Int)] 5)) := (Below.refl _ _).alloc (Nat.le_refl _) _
  have htw := two_nb w2 0 2 (by omega) (by omega)
  have Hl := Lib.hid hd.len
  have Hlim := Lib.hid hd.lim
  have Hm6 := Lib.hid hm6
  have HM := Lib.hid hm
  have hms : m ≤ 128 := by omega
  have hrs : r ≤ 128 := by omega
  clear hm6 hm
  go_wp2_with (refine Sh.wpList_app_row_b _ rfl (.tmp 19) (.tmp 20) rfl rfl hG0 rfl htw (by omega) hB0 (by simp) ?_; intro A6 c6 w6 hG6 hB6)
  have HG6 : Hid (Sh.Gb w6 w2.heap.size A6 (2 + 0) c6 (0 :: 2 :: fillL (ds.take 0) r)) := Lib.hid (by simpa [fillL_nil] using hG6)
  have HB6 := Lib.hid hB6
  have Ht := Lib.hid (ht0.go B2)
  have Hd := Lib.hid (hd0.go B2)
  have Ht2 := Lib.hid ht.lim
  have Htl := Lib.hid ht.len
  clear hG6 hB6 hG0 hB0 htw hdm ht hd ht0 hd0
  go_loopw [9, 8] (fun i v wr => ∃ k q : Nat, k ≤ l ∧ i = .int .i64 k ∧ q ≤ r ∧ ∃ A7 c7, v = .slice A7 (2 + q) c7 ∧ Hid (q = (fillL (ds.take k) r).length) ∧ Hid (Sh.Gb wr w2.heap.size A7 (2 + q) c7 (0 :: 2 :: fillL (ds.take k) r)) ∧ Hid (Below w2.heap.size w2 wr)) (fun i _ _ => l - (intOf i).toNat)
  case atStart => exact ⟨0, 0, by omega, rfl, by omega, _, _, rfl, Lib.hid (by simp [fillL_nil]), HG6, HB6⟩
  case round =>
    clear HG6 HB6
    obtain ⟨k, q, hk, rfl, hq, A7, c7, rfl, Hq, HG, HB⟩ := hrel
    have B3 := bthen B2 HB.out
    have hx3 := hx0.up B3
    have t0 := hx3.c0
    have t1 := hx3.c1
    have t2 := hx3.c2
    have HS := Lib.hid (Hsz.out _ ((Hh.out.up b0).up B3))
    by_cases hkl : k < l
    · obtain ⟨x, hx⟩ : ∃ x, ds.getD k 0 = x := ⟨_, rfl⟩
      have hx2 : x < 256 := Hlim.out x (by rw [← hx]; simp [List.getD, List.getElem?_eq_getElem (show k < ds.length by rw [Hl.out]; exact hkl)])
      have d1 : decide ((k : Int) < (l : Int)) = true := by simp; omega
      by_cases hqr : q = r
      · have hfd := fill_done (k := k) (xs := ds) (n := r) (by rw [← Hq.out, hqr])
        have := Hm6.out
        rw [hfd, ← Hq.out] at this
        omega
      · have d2 : decide ((2 : Int) + (q : Int) < (s : Int) - 1 - (m : Int)) = true := by have := HM.out; simp; omega
        have hnx := fill_next (xs := ds) (n := r) (k := k) (by rw [Hl.out]; exact hkl) hx (by rw [← Hq.out]; omega)
        have HX := Lib.hid hx
        have hqlt : q < r := by omega
        clear hx hqr
        by_cases hx0 : x = 0
        · subst hx0
          rw [if_pos rfl] at hnx
          have Hnx := Lib.hid hnx
          clear hnx
          go_wp2_with fail
          refine HS.out.mono ?_
          rintro e w3 ⟨rfl, b3⟩
          have hG3 := gb_bel HG.out b3
          have hB3 := bthen HB.out b3
          obtain ⟨bb, off, rfl, hlt, hcell⟩ := (Hd.out.go hB3).cell (by omega)
          have hc := hcell k 0 (by rw [← HX.out]; simp [List.getD, List.getElem?_eq_getElem (show k < ds.length by rw [Hl.out]; exact hkl)])
          clear hcell
          go_wp2_with fail
          go_roundw
          case rel => exact ⟨k + 1, q, by omega, by go_num, by omega, _, _, rfl, Lib.hid (by rw [Hnx.out]; exact Hq.out), Lib.hid (by rw [Hnx.out]; exact hG3), Lib.hid hB3⟩
          case measure => simp [intOf]; omega
        · rw [if_neg hx0] at hnx
          have Hnx := Lib.hid hnx
          have e2 : ((x : Int) != 0) = true := by simp; omega
          clear hnx hx0
          go_wp2_with fail
          refine HS.out.mono ?_
          rintro e w3 ⟨rfl, b3⟩
          have hG3 := gb_bel HG.out b3
          have hB3 := bthen HB.out b3
          obtain ⟨bb, off, rfl, hlt, hcell⟩ := (Hd.out.go hB3).cell (by omega)
          have hc := hcell k x (by rw [← HX.out]; simp [List.getD, List.getElem?_eq_getElem (show k < ds.length by rw [Hl.out]; exact hkl)])
          clear hcell
          have hG' := hG3.alloc (.cells #[.int .u8 (x : Int)] 5)
          have hs' := hB3.size
          have hB' := hB3.alloc hs' (.cells #[.int .u8 (x : Int)] 5)
          have hcn := Sh.cell_new w3 (.int .u8 (x : Int)) 5
          go_wp2_with (refine Sh.wpList_app_b _ rfl (.tmp 44) (.tmp 49) rfl rfl hG' rfl hcn (by omega) hB' (by simp; omega) ?_; intro A8 c8 w8 hG8 hB8)
          go_roundw
          case rel => exact ⟨k + 1, q + 1, by omega, by go_num, by omega, _, _, rfl, Lib.hid (by rw [Hnx.out, List.length_append, ← Hq.out]; rfl), Lib.hid (by rw [Hnx.out]; exact hG8), Lib.hid hB8⟩
          case measure => simp [intOf]; omega
    · have e : k = l := by omega
      subst e
      have d1 : decide ((k : Int) < (k : Int)) = false := by simp
      have hf : ds.take k = ds := List.take_of_length_le (by rw [Hl.out]; omega)
      rw [hf] at Hq HG
      have hqlt : q < r := by rw [Hq.out]; exact Hm6.out
      have d2 : decide ((2 : Int) + (q : Int) < (s : Int) - 1 - (m : Int)) = true := by have := HM.out; simp; omega
      go_wp2_with fail
      refine HS.out.mono ?_
      rintro e w3 ⟨rfl, b3⟩
      go_wp2_with fail
      go_ret2
      exact ⟨rfl, bthen b0 (bthen B3 b3)⟩
set_option maxHeartbeats 4000000 in
theorem renc_ok {w : World} {v : Value} {N E D s : Nat} (h : Pr w v N E D) {A4 : Option Addr} {m c4 : Nat} {ts : List Nat} (ht : Sh.Nb w w.heap.size A4 m c4 ts) {A5 : Option Addr} {l c5 : Nat} {ds : List Nat} (hd : Sh.Nb w w.heap.size A5 l c5 ds) (hR : rightK N E D = true) (hs : (bl N + 7) / 8 = s) {r : Nat} (hm : s = r + 3 + m) (h8 : 8 ≤ r) (hm6 : (fillL ds r).length = r) :
    Calls Tryz.prog 15 #[v, .slice A4 m c4, .slice A5 l c5] w fun e w' => ∃ A6 c6, e = .returned (.tuple #[.slice A6 s c6, .int .i64 0]) ∧ Sh.Nb w' w'.heap.size A6 s c6 (bts (val 256 (cryptN (fillL ds r) ts).reverse ^ E % N) s) ∧ Below w.heap.size w w' := by
  have HR := Lib.hid hR
  have hsz := fun W (k : Pr W v N E D) => rSize_any k
  rw [hs] at hsz
  have Hsz := Lib.hid hsz
  have hs2 : s ≤ 128 := by have := rightK_pos hR; omega
  have hN0 : 0 < N := (rightK_pos hR).1
  have hwk := fun W (k : Pr W v N E D) {A n c pw xs} (kp : Nt W W.heap.size A n c xs) (ep : val 18446744073709551616 xs = pw) (lp : n ≤ 100) {A2 m c2 bs} (kb : Nb W W.heap.size A2 m c2 bs) (km : m ≤ 1000) => rwork_any k hN0 hs (by omega) kp ep lp kb km
  have Hwk := Lib.hid hwk
  clear hR hs hsz hwk
  have Hh := Lib.hid h
  have rt := ht.room
  have rt2 := ht.cap
  have rd := hd.room
  have rd2 := hd.cap
  obtain ⟨A1, n1, c1, x1, A2, n2, c2, x2, A3, n3, c3, x3, rfl, h1', e1, l1, h2', e2, l2, h3', e3, l3⟩ := h.ex
  clear h
  obtain ⟨w0, e0⟩ : ∃ w0, w0 = w.alloc (.cells #[Value.slice A1 n1 c1, .slice A2 n2 c2, .slice A3 n3 c3] 24) := ⟨_, rfl⟩
  obtain ⟨hx0, b0⟩ := box_new e0
  have h1 := h1'.up b0
  have h2 := h2'.up b0
  have h3 := h3'.up b0
  clear h1' h2' h3'
  have q0 := hx0.c0
  have q1 := hx0.c1
  have q2 := hx0.c2
  have ht0 := ht.go b0
  have hd0 := hd.go b0
  go_enter Tryz.func15, Tryz.ntmps15
  go_wp2_with fail
  rw [← e0]
  clear e0
  refine (rkright_ok (Hh.out.up b0) HR.out).mono ?_
  rintro e w1 ⟨rfl, b1⟩
  have hx1 := hx0.up b1
  have p0 := hx1.c0
  have p1 := hx1.c1
  have p2 := hx1.c2
  go_wp2_with fail
  refine (Hsz.out _ ((Hh.out.up b0).up b1)).mono ?_
  rintro e w2 ⟨rfl, b2⟩
  have B2 := bthen b1 b2
  have hx2 := hx0.up B2
  have r0 := hx2.c0
  have r1 := hx2.c1
  have r2 := hx2.c2
  have hdm : decide ((s : Int) - 11 < (m : Int)) = false := by simp; omega
  have hG0 := Sh.Gb.nil (w2.alloc (.cells #[.int .u8 ((0 : Nat) : Int), .int .u8 ((2 : Nat) : Int)] 5)) w2.heap.size
  have hB0 : Below w2.heap.size w2 (w2.alloc (.cells #[.int .u8 ((0 : Nat) : Int), .int .u8 ((2 : Nat) : Int)] 5)) := (Below.refl _ _).alloc (Nat.le_refl _) _
  have htw := two_nb w2 0 2 (by omega) (by omega)
  have Hl := Lib.hid hd.len
  have Hlim := Lib.hid hd.lim
  have Hm6 := Lib.hid hm6
  have HM := Lib.hid hm
  have hms : m ≤ 128 := by omega
  have hrs : r ≤ 128 := by omega
  clear hm6 hm
  go_wp2_with (refine Sh.wpList_app_row_b _ rfl (.tmp 19) (.tmp 20) rfl rfl hG0 rfl htw (by omega) hB0 (by simp) ?_; intro A6 c6 w6 hG6 hB6)
  have HG6 : Hid (Sh.Gb w6 w2.heap.size A6 (2 + 0) c6 (0 :: 2 :: fillL (ds.take 0) r)) := Lib.hid (by simpa [fillL_nil] using hG6)
  have HB6 := Lib.hid hB6
  have Ht := Lib.hid (ht0.go B2)
  have Hd := Lib.hid (hd0.go B2)
  have Ht2 := Lib.hid ht.lim
  have Htl := Lib.hid ht.len
  clear hG6 hB6 hG0 hB0 htw hdm ht hd ht0 hd0
  go_loopw [9, 8] (fun i v wr => ∃ k q : Nat, k ≤ l ∧ i = .int .i64 k ∧ q ≤ r ∧ ∃ A7 c7, v = .slice A7 (2 + q) c7 ∧ Hid (q = (fillL (ds.take k) r).length) ∧ Hid (Sh.Gb wr w2.heap.size A7 (2 + q) c7 (0 :: 2 :: fillL (ds.take k) r)) ∧ Hid (Below w2.heap.size w2 wr)) (fun i _ _ => l - (intOf i).toNat)
  case atStart => exact ⟨0, 0, by omega, rfl, by omega, _, _, rfl, Lib.hid (by simp [fillL_nil]), HG6, HB6⟩
  case round =>
    clear HG6 HB6
    obtain ⟨k, q, hk, rfl, hq, A7, c7, rfl, Hq, HG, HB⟩ := hrel
    have B3 := bthen B2 HB.out
    have hx3 := hx0.up B3
    have t0 := hx3.c0
    have t1 := hx3.c1
    have t2 := hx3.c2
    have HS := Lib.hid (Hsz.out _ ((Hh.out.up b0).up B3))
    by_cases hkl : k < l
    · obtain ⟨x, hx⟩ : ∃ x, ds.getD k 0 = x := ⟨_, rfl⟩
      have hx2 : x < 256 := Hlim.out x (by rw [← hx]; simp [List.getD, List.getElem?_eq_getElem (show k < ds.length by rw [Hl.out]; exact hkl)])
      have d1 : decide ((k : Int) < (l : Int)) = true := by simp; omega
      by_cases hqr : q = r
      · have Hqr := Lib.hid hqr
        have d2 : decide ((2 : Int) + (q : Int) < (s : Int) - 1 - (m : Int)) = false := by have := HM.out; have := Hqr.out; simp; omega
        have hfd := fill_done (k := k) (xs := ds) (n := r) (by rw [← Hq.out, hqr])
        have HG2 : Hid (Sh.Gb wr w2.heap.size A7 (2 + q) c7 (0 :: 2 :: fillL ds r)) := Lib.hid (by rw [hfd]; exact HG.out)
        clear HG hfd
        clear hqr
        go_wp2_with fail
        refine HS.out.mono ?_
        rintro e w3 ⟨rfl, b3⟩
        have B4 := bthen B3 b3
        have hx4 := hx0.up B4
        have u0 := hx4.c0
        have u1 := hx4.c1
        have u2 := hx4.c2
        have HS4 := Lib.hid (Hsz.out _ ((Hh.out.up b0).up B4))
        have HG3 := Lib.hid (gb_bel HG2.out b3)
        have HB3 := Lib.hid (bthen HB.out b3)
        go_wp2_with fail
        refine HS4.out.mono ?_
        rintro e w5 ⟨rfl, b5⟩
        have B5 := bthen B4 b5
        have HG5 := Lib.hid (gb_bel HG3.out b5)
        have HB5 := Lib.hid (bthen HB3.out b5)
        have hx5 := hx0.up B5
        have s0 := hx5.c0
        have s1 := hx5.c1
        have s2 := hx5.c2
        have hG' := HG5.out.alloc (.cells #[.int .u8 0] 5)
        have hs' := HB5.out.size
        have hB' := HB5.out.alloc hs' (.cells #[.int .u8 0] 5)
        have hcn := Sh.cell_new w5 (.int .u8 0) 5
        go_wp2_with (first
          | (refine Sh.wpList_app_b _ rfl (.tmp 60) (.tmp 61) rfl (y := 0) rfl hG' rfl hcn (by omega) hB' (by simp; omega) ?_; intro A8 c8 w8 hG8 hB8
             have ht8 := Ht.out.go hB8
             have hs8 := hB8.size)
          | (refine Sh.wpList_app_row_b _ rfl (.tmp 63) (.tmp 64) rfl rfl hG8 rfl ht8 (by omega) hB8 hs8 ?_; intro A9 c9 w9 hG9 hB9
             have hx9 := hx0.up (bthen B2 hB9)
             have v0 := hx9.c0
             have v1 := hx9.c1
             have v2 := hx9.c2))
        have hn : 2 + q + 1 + m = s := by have := HM.out; have := Hqr.out; omega
        have el : 0 :: 2 :: fillL ds r ++ [0] ++ ts = cryptN (fillL ds r) ts := by simp [cryptN]
        rw [el] at hG9
        have hN9 := nb_of_sh (hG9.nb (cryptN_lim (fillL_lim Hlim.out) Ht2.out))
        have hw := Hwk.out _ ((Hh.out.up b0).up (bthen B2 hB9)) (h2.up (bthen B2 hB9)) e2 l2 hN9 (by omega)
        refine hw.mono ?_
        rintro e w10 ⟨A10, c10, rfl, m10, _, b10⟩
        go_wp2_with fail
        go_ret2
        exact ⟨_, _, rfl, m10.sh, bthen b0 (bthen (bthen B2 hB9) b10)⟩
      · have d2 : decide ((2 : Int) + (q : Int) < (s : Int) - 1 - (m : Int)) = true := by have := HM.out; simp; omega
        have hnx := fill_next (xs := ds) (n := r) (k := k) (by rw [Hl.out]; exact hkl) hx (by rw [← Hq.out]; omega)
        have HX := Lib.hid hx
        have hqlt : q < r := by omega
        clear hx hqr
        by_cases hx0 : x = 0
        · subst hx0
          rw [if_pos rfl] at hnx
          have Hnx := Lib.hid hnx
          clear hnx
          go_wp2_with fail
          refine HS.out.mono ?_
          rintro e w3 ⟨rfl, b3⟩
          have hG3 := gb_bel HG.out b3
          have hB3 := bthen HB.out b3
          obtain ⟨bb, off, rfl, hlt, hcell⟩ := (Hd.out.go hB3).cell (by omega)
          have hc := hcell k 0 (by rw [← HX.out]; simp [List.getD, List.getElem?_eq_getElem (show k < ds.length by rw [Hl.out]; exact hkl)])
          clear hcell
          go_wp2_with fail
          go_roundw
          case rel => exact ⟨k + 1, q, by omega, by go_num, by omega, _, _, rfl, Lib.hid (by rw [Hnx.out]; exact Hq.out), Lib.hid (by rw [Hnx.out]; exact hG3), Lib.hid hB3⟩
          case measure => simp [intOf]; omega
        · rw [if_neg hx0] at hnx
          have Hnx := Lib.hid hnx
          have e2 : ((x : Int) != 0) = true := by simp; omega
          clear hnx hx0
          go_wp2_with fail
          refine HS.out.mono ?_
          rintro e w3 ⟨rfl, b3⟩
          have hG3 := gb_bel HG.out b3
          have hB3 := bthen HB.out b3
          obtain ⟨bb, off, rfl, hlt, hcell⟩ := (Hd.out.go hB3).cell (by omega)
          have hc := hcell k x (by rw [← HX.out]; simp [List.getD, List.getElem?_eq_getElem (show k < ds.length by rw [Hl.out]; exact hkl)])
          clear hcell
          have hG' := hG3.alloc (.cells #[.int .u8 (x : Int)] 5)
          have hs' := hB3.size
          have hB' := hB3.alloc hs' (.cells #[.int .u8 (x : Int)] 5)
          have hcn := Sh.cell_new w3 (.int .u8 (x : Int)) 5
          go_wp2_with (refine Sh.wpList_app_b _ rfl (.tmp 44) (.tmp 49) rfl rfl hG' rfl hcn (by omega) hB' (by simp; omega) ?_; intro A8 c8 w8 hG8 hB8)
          go_roundw
          case rel => exact ⟨k + 1, q + 1, by omega, by go_num, by omega, _, _, rfl, Lib.hid (by rw [Hnx.out, List.length_append, ← Hq.out]; rfl), Lib.hid (by rw [Hnx.out]; exact hG8), Lib.hid hB8⟩
          case measure => simp [intOf]; omega
    · have e : k = l := by omega
      subst e
      have d1 : decide ((k : Int) < (k : Int)) = false := by simp
      have hf : ds.take k = ds := List.take_of_length_le (by rw [Hl.out]; omega)
      rw [hf] at Hq HG
      have Hqr : Hid (q = r) := Lib.hid (by rw [Hq.out]; exact Hm6.out)
      have d2 : decide ((2 : Int) + (q : Int) < (s : Int) - 1 - (m : Int)) = false := by have := HM.out; have := Hqr.out; simp; omega
      go_wp2_with fail
      refine HS.out.mono ?_
      rintro e w5 ⟨rfl, b5⟩
      have B5 := bthen B3 b5
      have HG5 := Lib.hid (gb_bel HG.out b5)
      have HB5 := Lib.hid (bthen HB.out b5)
      have hx5 := hx0.up B5
      have s0 := hx5.c0
      have s1 := hx5.c1
      have s2 := hx5.c2
      have hG' := HG5.out.alloc (.cells #[.int .u8 0] 5)
      have hs' := HB5.out.size
      have hB' := HB5.out.alloc hs' (.cells #[.int .u8 0] 5)
      have hcn := Sh.cell_new w5 (.int .u8 0) 5
      go_wp2_with (first
        | (refine Sh.wpList_app_b _ rfl (.tmp 60) (.tmp 61) rfl (y := 0) rfl hG' rfl hcn (by omega) hB' (by simp; omega) ?_; intro A8 c8 w8 hG8 hB8
           have ht8 := Ht.out.go hB8
           have hs8 := hB8.size)
        | (refine Sh.wpList_app_row_b _ rfl (.tmp 63) (.tmp 64) rfl rfl hG8 rfl ht8 (by omega) hB8 hs8 ?_; intro A9 c9 w9 hG9 hB9
           have hx9 := hx0.up (bthen B2 hB9)
           have v0 := hx9.c0
           have v1 := hx9.c1
           have v2 := hx9.c2))
      have hn : 2 + q + 1 + m = s := by have := HM.out; have := Hqr.out; omega
      have el : 0 :: 2 :: fillL ds r ++ [0] ++ ts = cryptN (fillL ds r) ts := by simp [cryptN]
      rw [el] at hG9
      have hN9 := nb_of_sh (hG9.nb (cryptN_lim (fillL_lim Hlim.out) Ht2.out))
      have hw := Hwk.out _ ((Hh.out.up b0).up (bthen B2 hB9)) (h2.up (bthen B2 hB9)) e2 l2 hN9 (by omega)
      refine hw.mono ?_
      rintro e w10 ⟨A10, c10, rfl, m10, _, b10⟩
      go_wp2_with fail
      go_ret2
      exact ⟨_, _, rfl, m10.sh, bthen b0 (bthen (bthen B2 hB9) b10)⟩
end Go.Proofs.YtkeejhkjbmegkaaGreatDoor
namespace Go.Proofs.YtkeejhkjbmegkaaGreatDoor
open Go.RowKit
set_option linter.unusedVariables false
set_option maxRecDepth 100000
set_option exponentiation.threshold 70000

theorem tw_cons (x : Nat) (xs : List Nat) : tw (x :: xs) = if x = 0 then 0 else tw xs + 1 := by
  unfold tw
  by_cases h : x = 0
  · subst h; simp
  · rw [if_neg h, List.takeWhile_cons]; simp [h]
theorem tw_step : ∀ {zs : List Nat} {k : Nat}, k ≤ tw zs → zs.getD k 0 ≠ 0 → k + 1 ≤ tw zs
  | [], k, _, h => by simp at h
  | x :: xs, 0, _, h => by
    rw [tw_cons, if_neg (by simpa using h)]; omega
  | x :: xs, k + 1, h, h2 => by
    rw [tw_cons] at h ⊢
    by_cases h0 : x = 0
    · rw [if_pos h0] at h; omega
    · rw [if_neg h0] at h ⊢
      have := tw_step (zs := xs) (k := k) (by omega) (by simpa using h2)
      omega
theorem tw_stop : ∀ {zs : List Nat} {k : Nat}, k ≤ tw zs → zs.getD k 0 = 0 → tw zs = k
  | [], k, h, _ => by have : tw ([] : List Nat) = 0 := rfl; omega
  | x :: xs, 0, _, h => by
    rw [tw_cons, if_pos (by simpa using h)]
  | x :: xs, k + 1, h, h2 => by
    rw [tw_cons] at h ⊢
    by_cases h0 : x = 0
    · rw [if_pos h0] at h; omega
    · rw [if_neg h0] at h ⊢
      have := tw_stop (zs := xs) (k := k) (by omega) (by simpa using h2)
      omega
theorem unfN_none {X : List Nat} (h : X.getD 0 0 ≠ 0 ∨ X.getD 1 0 ≠ 2 ∨ tw (X.drop 2) < 8 ∨ X.length - 2 ≤ tw (X.drop 2)) : unfN X = none := by
  unfold unfN; rw [if_neg (by omega)]
theorem unfN_some {X : List Nat} {k : Nat} (h : X.getD 0 0 = 0) (h2 : X.getD 1 0 = 2) (h3 : 10 ≤ k) (h4 : tw (X.drop 2) = k - 2) (h5 : k < X.length) : unfN X = some (X.drop (k + 1)) := by
  unfold unfN; rw [if_pos ⟨h, h2, by omega, by omega⟩, List.drop_drop, h4, show 2 + (k - 2 + 1) = k + 1 by omega]
theorem getD_drop2 {X : List Nat} {k : Nat} (h : 2 ≤ k) : (X.drop 2).getD (k - 2) 0 = X.getD k 0 := by
  simp only [List.getD, List.getElem?_drop]
  rw [show 2 + (k - 2) = k by omega]
set_option maxHeartbeats 4000000 in
theorem rdec_bad {w : World} {v : Value} {N E D s : Nat} (h : Pr w v N E D) {A4 : Option Addr} {m c4 : Nat} {bs : List Nat} (hb : Nb w w.heap.size A4 m c4 bs) (hm : m ≤ 1000) (hR : secK N E D = false) :
    Calls Tryz.prog 17 #[v, .slice A4 m c4] w (RetPad 50 w) := by
  have HR := Lib.hid hR
  clear hR
  have Hh := Lib.hid h
  obtain ⟨A1, n1, c1, x1, A2, n2, c2, x2, A3, n3, c3, x3, rfl, h1', e1, l1, h2', e2, l2, h3', e3, l3⟩ := h.ex
  clear h
  obtain ⟨w0, e0⟩ : ∃ w0, w0 = w.alloc (.cells #[Value.slice A1 n1 c1, .slice A2 n2 c2, .slice A3 n3 c3] 24) := ⟨_, rfl⟩
  obtain ⟨hx0, b0⟩ := box_new e0
  have h1 := h1'.up b0
  have h2 := h2'.up b0
  have h3 := h3'.up b0
  clear h1' h2' h3'
  have q0 := hx0.c0
  have q1 := hx0.c1
  have q2 := hx0.c2
  have gb := hb.up b0
  go_enter Tryz.func17, Tryz.ntmps17
  go_wp2_with fail
  rw [← e0]
  clear e0
  refine (rsecret_any (Hh.out.up b0)).mono ?_
  rintro e w1 ⟨rfl, b1⟩
  rw [HR.out]
  have hx1 := hx0.up b1
  have p0 := hx1.c0
  have p1 := hx1.c1
  have p2 := hx1.c2
  go_wp2_with fail
  go_ret2
  exact ⟨rfl, bthen b0 b1⟩
set_option maxHeartbeats 4000000 in
theorem rdec_len {w : World} {v : Value} {N E D s : Nat} (h : Pr w v N E D) {A4 : Option Addr} {m c4 : Nat} {bs : List Nat} (hb : Nb w w.heap.size A4 m c4 bs) (hm : m ≤ 1000) (hR : secK N E D = true) (hs : (bl N + 7) / 8 = s) (hms : m ≠ s) :
    Calls Tryz.prog 17 #[v, .slice A4 m c4] w (RetPad 51 w) := by
  have HR := Lib.hid hR
  have hRk : rightK N E D = true := by unfold secK at hR; rw [Bool.and_eq_true] at hR; exact hR.1
  have hs2 : s ≤ 128 := by have := rightK_pos hRk; omega
  have hs3 : 2 ≤ s := by have := rightK_pos hRk; omega
  have hN0 : 0 < N := (rightK_pos hRk).1
  have Hs := Lib.hid hs
  have hmd : ((m : Int) != (s : Int)) = true := by simp; omega
  clear hR hs hms hRk
  have Hh := Lib.hid h
  obtain ⟨A1, n1, c1, x1, A2, n2, c2, x2, A3, n3, c3, x3, rfl, h1', e1, l1, h2', e2, l2, h3', e3, l3⟩ := h.ex
  clear h
  obtain ⟨w0, e0⟩ : ∃ w0, w0 = w.alloc (.cells #[Value.slice A1 n1 c1, .slice A2 n2 c2, .slice A3 n3 c3] 24) := ⟨_, rfl⟩
  obtain ⟨hx0, b0⟩ := box_new e0
  have h1 := h1'.up b0
  have h2 := h2'.up b0
  have h3 := h3'.up b0
  clear h1' h2' h3'
  have q0 := hx0.c0
  have q1 := hx0.c1
  have q2 := hx0.c2
  have gb := hb.up b0
  go_enter Tryz.func17, Tryz.ntmps17
  go_wp2_with fail
  rw [← e0]
  clear e0
  refine (rsecret_any (Hh.out.up b0)).mono ?_
  rintro e w1 ⟨rfl, b1⟩
  rw [HR.out]
  have hx1 := hx0.up b1
  have p0 := hx1.c0
  have p1 := hx1.c1
  have p2 := hx1.c2
  go_wp2_with fail
  have hyd : Bx w1.drew w.heap.size (.slice A1 n1 c1) (.slice A2 n2 c2) (.slice A3 n3 c3) := ⟨(hx0.up b1).lt, (hx0.up b1).c0, (hx0.up b1).c1, (hx0.up b1).c2⟩
  have bd : Below w1.heap.size w1 w1.drew := (Below.refl _ _).drew
  have Bd := bthen b1 bd
  have z0 := hyd.c0
  have z1 := hyd.c1
  have z2 := hyd.c2
  have pd := (Hh.out.up b0).up Bd
  have gbd := gb.up Bd
  have h1d := h1.up Bd
  have hzd := rSize_any pd
  rw [Hs.out] at hzd
  have Hzd := Lib.hid hzd
  clear hzd
  first
   | (go_region_with ((first
      | (go_at_call 42; refine Hzd.out.mono ?_; rintro e w5 ⟨rfl, b5⟩
         have g5 := hyd.up b5
         have g50 := g5.c0
         have g51 := g5.c1
         have g52 := g5.c2))))
   | fail
  all_goals
    go_wp2_with fail
    go_ret2
    exact ⟨rfl, bthen b0 (bthen Bd b5)⟩
set_option maxHeartbeats 4000000 in
theorem rdec_big {w : World} {v : Value} {N E D s : Nat} (h : Pr w v N E D) {A4 : Option Addr} {m c4 : Nat} {bs : List Nat} (hb : Nb w w.heap.size A4 m c4 bs) (hm : m ≤ 1000) (hR : secK N E D = true) (hs : (bl N + 7) / 8 = s) (hms : m = s) (hv : N < val 256 bs.reverse) :
    Calls Tryz.prog 17 #[v, .slice A4 m c4] w (RetPad 51 w) := by
  have HR := Lib.hid hR
  have hRk : rightK N E D = true := by unfold secK at hR; rw [Bool.and_eq_true] at hR; exact hR.1
  have hs2 : s ≤ 128 := by have := rightK_pos hRk; omega
  have hs3 : 2 ≤ s := by have := rightK_pos hRk; omega
  have hN0 : 0 < N := (rightK_pos hRk).1
  have hvb : val 256 bs.reverse < 18446744073709551616 ^ 1000 := by
    have h1 := val_lt (β := 256) (xs := bs.reverse) (fun y hy => hb.lim y (List.mem_reverse.1 hy))
    rw [List.length_reverse, hb.len] at h1
    refine Nat.lt_of_lt_of_le h1 ?_
    rw [show (256 : Nat) = 2 ^ 8 by rfl, show (18446744073709551616 : Nat) = 2 ^ 64 by rfl, ← Nat.pow_mul, ← Nat.pow_mul]
    exact Nat.pow_le_pow_right (by omega) (by omega)
  have Hvb := Lib.hid hvb
  clear hvb
  have Hs := Lib.hid hs
  have hmd : ((m : Int) != (s : Int)) = false := by simp; omega
  clear hR hs hms hRk
  have Hh := Lib.hid h
  obtain ⟨A1, n1, c1, x1, A2, n2, c2, x2, A3, n3, c3, x3, rfl, h1', e1, l1, h2', e2, l2, h3', e3, l3⟩ := h.ex
  clear h
  obtain ⟨w0, e0⟩ : ∃ w0, w0 = w.alloc (.cells #[Value.slice A1 n1 c1, .slice A2 n2 c2, .slice A3 n3 c3] 24) := ⟨_, rfl⟩
  obtain ⟨hx0, b0⟩ := box_new e0
  have h1 := h1'.up b0
  have h2 := h2'.up b0
  have h3 := h3'.up b0
  clear h1' h2' h3'
  have q0 := hx0.c0
  have q1 := hx0.c1
  have q2 := hx0.c2
  have gb := hb.up b0
  go_enter Tryz.func17, Tryz.ntmps17
  go_wp2_with fail
  rw [← e0]
  clear e0
  refine (rsecret_any (Hh.out.up b0)).mono ?_
  rintro e w1 ⟨rfl, b1⟩
  rw [HR.out]
  have hx1 := hx0.up b1
  have p0 := hx1.c0
  have p1 := hx1.c1
  have p2 := hx1.c2
  go_wp2_with fail
  have hyd : Bx w1.drew w.heap.size (.slice A1 n1 c1) (.slice A2 n2 c2) (.slice A3 n3 c3) := ⟨(hx0.up b1).lt, (hx0.up b1).c0, (hx0.up b1).c1, (hx0.up b1).c2⟩
  have bd : Below w1.heap.size w1 w1.drew := (Below.refl _ _).drew
  have Bd := bthen b1 bd
  have z0 := hyd.c0
  have z1 := hyd.c1
  have z2 := hyd.c2
  have pd := (Hh.out.up b0).up Bd
  have gbd := gb.up Bd
  have h1d := h1.up Bd
  have hzd := rSize_any pd
  rw [Hs.out] at hzd
  have Hzd := Lib.hid hzd
  clear hzd
  first
   | (go_region_held3 (fun w' => w'.cell? ⟨w.heap.size, 0, none⟩ = some (Value.slice A1 n1 c1) ∧ w'.cell? ⟨w.heap.size, 1, none⟩ = some (Value.slice A2 n2 c2) ∧ w'.cell? ⟨w.heap.size, 2, none⟩ = some (Value.slice A3 n3 c3))
    (first | exact ⟨g7.c0, g7.c1, g7.c2⟩ | exact ⟨g6.c0, g6.c1, g6.c2⟩ | exact ⟨g5.c0, g5.c1, g5.c2⟩ | exact ⟨g4.c0, g4.c1, g4.c2⟩ | exact ⟨g3.c0, g3.c1, g3.c2⟩ | exact ⟨hyd.c0, hyd.c1, hyd.c2⟩)
    ((first
      | (go_at_call 42; refine Hzd.out.mono ?_; rintro e w5 ⟨rfl, b5⟩
         have g5 := hyd.up b5
         have g50 := g5.c0
         have g51 := g5.c1
         have g52 := g5.c2)
      | (go_at_call 50; refine (Rn.rread_any (gbd.up b5) (by omega)).mono ?_; intro e w6 hr6; obtain ⟨A6, n6, c6, x6, rfl, r6⟩ := hr6.s
         have g6 := g5.up r6.bel
         have g60 := g6.c0
         have g61 := g6.c1
         have g62 := g6.c2
         have v6 := r6.is
         have l6 : n6 ≤ 1000 := r6.le Hvb.out)
      | (go_at_call 49; refine (rcmp_gt r6.nt ((h1d.up b5).up r6.bel) (by omega) (by omega) (by rw [v6, e1]; exact hv)).mono ?_; rintro e w7 ⟨rfl, b7⟩
         have g7 := g6.up b7
         have g70 := g7.c0
         have g71 := g7.c1
         have g72 := g7.c2))))
   | fail
  all_goals
    go_wp2_with fail
    go_ret2
    exact ⟨rfl, bthen b0 (bthen (bthen (bthen Bd b5) r6.bel) b7)⟩
set_option maxHeartbeats 4000000 in
theorem rdec_beq {w : World} {v : Value} {N E D s : Nat} (h : Pr w v N E D) {A4 : Option Addr} {m c4 : Nat} {bs : List Nat} (hb : Nb w w.heap.size A4 m c4 bs) (hm : m ≤ 1000) (hR : secK N E D = true) (hs : (bl N + 7) / 8 = s) (hms : m = s) (hv : val 256 bs.reverse = N) :
    Calls Tryz.prog 17 #[v, .slice A4 m c4] w (RetPad 51 w) := by
  have HR := Lib.hid hR
  have hRk : rightK N E D = true := by unfold secK at hR; rw [Bool.and_eq_true] at hR; exact hR.1
  have hs2 : s ≤ 128 := by have := rightK_pos hRk; omega
  have hs3 : 2 ≤ s := by have := rightK_pos hRk; omega
  have hN0 : 0 < N := (rightK_pos hRk).1
  have hvb : val 256 bs.reverse < 18446744073709551616 ^ 1000 := by
    have h1 := val_lt (β := 256) (xs := bs.reverse) (fun y hy => hb.lim y (List.mem_reverse.1 hy))
    rw [List.length_reverse, hb.len] at h1
    refine Nat.lt_of_lt_of_le h1 ?_
    rw [show (256 : Nat) = 2 ^ 8 by rfl, show (18446744073709551616 : Nat) = 2 ^ 64 by rfl, ← Nat.pow_mul, ← Nat.pow_mul]
    exact Nat.pow_le_pow_right (by omega) (by omega)
  have Hvb := Lib.hid hvb
  clear hvb
  have Hs := Lib.hid hs
  have hmd : ((m : Int) != (s : Int)) = false := by simp; omega
  clear hR hs hms hRk
  have Hh := Lib.hid h
  obtain ⟨A1, n1, c1, x1, A2, n2, c2, x2, A3, n3, c3, x3, rfl, h1', e1, l1, h2', e2, l2, h3', e3, l3⟩ := h.ex
  clear h
  obtain ⟨w0, e0⟩ : ∃ w0, w0 = w.alloc (.cells #[Value.slice A1 n1 c1, .slice A2 n2 c2, .slice A3 n3 c3] 24) := ⟨_, rfl⟩
  obtain ⟨hx0, b0⟩ := box_new e0
  have h1 := h1'.up b0
  have h2 := h2'.up b0
  have h3 := h3'.up b0
  clear h1' h2' h3'
  have q0 := hx0.c0
  have q1 := hx0.c1
  have q2 := hx0.c2
  have gb := hb.up b0
  go_enter Tryz.func17, Tryz.ntmps17
  go_wp2_with fail
  rw [← e0]
  clear e0
  refine (rsecret_any (Hh.out.up b0)).mono ?_
  rintro e w1 ⟨rfl, b1⟩
  rw [HR.out]
  have hx1 := hx0.up b1
  have p0 := hx1.c0
  have p1 := hx1.c1
  have p2 := hx1.c2
  go_wp2_with fail
  have hyd : Bx w1.drew w.heap.size (.slice A1 n1 c1) (.slice A2 n2 c2) (.slice A3 n3 c3) := ⟨(hx0.up b1).lt, (hx0.up b1).c0, (hx0.up b1).c1, (hx0.up b1).c2⟩
  have bd : Below w1.heap.size w1 w1.drew := (Below.refl _ _).drew
  have Bd := bthen b1 bd
  have z0 := hyd.c0
  have z1 := hyd.c1
  have z2 := hyd.c2
  have pd := (Hh.out.up b0).up Bd
  have gbd := gb.up Bd
  have h1d := h1.up Bd
  have hzd := rSize_any pd
  rw [Hs.out] at hzd
  have Hzd := Lib.hid hzd
  clear hzd
  first
   | (go_region_held3 (fun w' => w'.cell? ⟨w.heap.size, 0, none⟩ = some (Value.slice A1 n1 c1) ∧ w'.cell? ⟨w.heap.size, 1, none⟩ = some (Value.slice A2 n2 c2) ∧ w'.cell? ⟨w.heap.size, 2, none⟩ = some (Value.slice A3 n3 c3))
    (first | exact ⟨g7.c0, g7.c1, g7.c2⟩ | exact ⟨g6.c0, g6.c1, g6.c2⟩ | exact ⟨g5.c0, g5.c1, g5.c2⟩ | exact ⟨g4.c0, g4.c1, g4.c2⟩ | exact ⟨g3.c0, g3.c1, g3.c2⟩ | exact ⟨hyd.c0, hyd.c1, hyd.c2⟩)
    ((first
      | (go_at_call 42; refine Hzd.out.mono ?_; rintro e w5 ⟨rfl, b5⟩
         have g5 := hyd.up b5
         have g50 := g5.c0
         have g51 := g5.c1
         have g52 := g5.c2)
      | (go_at_call 50; refine (Rn.rread_any (gbd.up b5) (by omega)).mono ?_; intro e w6 hr6; obtain ⟨A6, n6, c6, x6, rfl, r6⟩ := hr6.s
         have g6 := g5.up r6.bel
         have g60 := g6.c0
         have g61 := g6.c1
         have g62 := g6.c2
         have v6 := r6.is
         have l6 : n6 ≤ 1000 := r6.le Hvb.out)
      | (go_at_call 49; refine (rcmp_eq r6.nt ((h1d.up b5).up r6.bel) (by omega) (by omega) (by rw [v6, e1]; exact hv)).mono ?_; rintro e w7 ⟨rfl, b7⟩
         have g7 := g6.up b7
         have g70 := g7.c0
         have g71 := g7.c1
         have g72 := g7.c2))))
   | fail
  all_goals
    go_wp2_with fail
    go_ret2
    exact ⟨rfl, bthen b0 (bthen (bthen (bthen Bd b5) r6.bel) b7)⟩
end Go.Proofs.YtkeejhkjbmegkaaGreatDoor
namespace Go.Proofs.YtkeejhkjbmegkaaGreatDoor
open Go.RowKit
set_option linter.unusedVariables false
set_option maxRecDepth 100000
set_option exponentiation.threshold 70000

set_option maxHeartbeats 4000000 in
theorem rdec_ok {w : World} {v : Value} {N E D s : Nat} (h : Pr w v N E D) {A4 : Option Addr} {m c4 : Nat} {bs : List Nat} (hb : Nb w w.heap.size A4 m c4 bs) (hm : m ≤ 1000) (hR : secK N E D = true) (hs : (bl N + 7) / 8 = s) (hms : m = s) (hv : val 256 bs.reverse < N) :
    Calls Tryz.prog 17 #[v, .slice A4 m c4] w (UnfIs (unfN (bts (val 256 bs.reverse ^ D % N) s)) w) := by
  have HR := Lib.hid hR
  have hRk : rightK N E D = true := by unfold secK at hR; rw [Bool.and_eq_true] at hR; exact hR.1
  have hs2 : s ≤ 128 := by have := rightK_pos hRk; omega
  have hs3 : 2 ≤ s := by have := rightK_pos hRk; omega
  have hN0 : 0 < N := (rightK_pos hRk).1
  have hvb : val 256 bs.reverse < 18446744073709551616 ^ 1000 := by
    have h1 := val_lt (β := 256) (xs := bs.reverse) (fun y hy => hb.lim y (List.mem_reverse.1 hy))
    rw [List.length_reverse, hb.len] at h1
    refine Nat.lt_of_lt_of_le h1 ?_
    rw [show (256 : Nat) = 2 ^ 8 by rfl, show (18446744073709551616 : Nat) = 2 ^ 64 by rfl, ← Nat.pow_mul, ← Nat.pow_mul]
    exact Nat.pow_le_pow_right (by omega) (by omega)
  have Hvb := Lib.hid hvb
  clear hvb
  have hwk := fun W (k : Pr W v N E D) {A n c pw xs} (kp : Nt W W.heap.size A n c xs) (ep : val 18446744073709551616 xs = pw) (lp : n ≤ 100) {A4 m c4 bs} (kb : Nb W W.heap.size A4 m c4 bs) (km : m ≤ 1000) => rwork_any k hN0 hs (by omega) kp ep lp kb km
  have Hwk := Lib.hid hwk
  clear hwk
  have Hs := Lib.hid hs
  have hmd : ((m : Int) != (s : Int)) = false := by simp; omega
  clear hR hs hms hRk
  have Hh := Lib.hid h
  obtain ⟨A1, n1, c1, x1, A2, n2, c2, x2, A3, n3, c3, x3, rfl, h1', e1, l1, h2', e2, l2, h3', e3, l3⟩ := h.ex
  clear h
  obtain ⟨w0, e0⟩ : ∃ w0, w0 = w.alloc (.cells #[Value.slice A1 n1 c1, .slice A2 n2 c2, .slice A3 n3 c3] 24) := ⟨_, rfl⟩
  obtain ⟨hx0, b0⟩ := box_new e0
  have h1 := h1'.up b0
  have h2 := h2'.up b0
  have h3 := h3'.up b0
  clear h1' h2' h3'
  have q0 := hx0.c0
  have q1 := hx0.c1
  have q2 := hx0.c2
  have gb := hb.up b0
  go_enter Tryz.func17, Tryz.ntmps17
  go_wp2_with fail
  rw [← e0]
  clear e0
  refine (rsecret_any (Hh.out.up b0)).mono ?_
  rintro e w1 ⟨rfl, b1⟩
  rw [HR.out]
  have hx1 := hx0.up b1
  have p0 := hx1.c0
  have p1 := hx1.c1
  have p2 := hx1.c2
  go_wp2_with fail
  have hyd : Bx w1.drew w.heap.size (.slice A1 n1 c1) (.slice A2 n2 c2) (.slice A3 n3 c3) := ⟨(hx0.up b1).lt, (hx0.up b1).c0, (hx0.up b1).c1, (hx0.up b1).c2⟩
  have bd : Below w1.heap.size w1 w1.drew := (Below.refl _ _).drew
  have Bd := bthen b1 bd
  have z0 := hyd.c0
  have z1 := hyd.c1
  have z2 := hyd.c2
  have pd := (Hh.out.up b0).up Bd
  have gbd := gb.up Bd
  have h1d := h1.up Bd
  have hzd := rSize_any pd
  rw [Hs.out] at hzd
  have Hzd := Lib.hid hzd
  clear hzd
  first
   | (go_region_held3 (fun w' => w'.cell? ⟨w.heap.size, 0, none⟩ = some (Value.slice A1 n1 c1) ∧ w'.cell? ⟨w.heap.size, 1, none⟩ = some (Value.slice A2 n2 c2) ∧ w'.cell? ⟨w.heap.size, 2, none⟩ = some (Value.slice A3 n3 c3))
    (first | exact ⟨g7.c0, g7.c1, g7.c2⟩ | exact ⟨g6.c0, g6.c1, g6.c2⟩ | exact ⟨g5.c0, g5.c1, g5.c2⟩ | exact ⟨g4.c0, g4.c1, g4.c2⟩ | exact ⟨g3.c0, g3.c1, g3.c2⟩ | exact ⟨hyd.c0, hyd.c1, hyd.c2⟩)
    ((first
      | (go_at_call 42; refine Hzd.out.mono ?_; rintro e w5 ⟨rfl, b5⟩
         have g5 := hyd.up b5
         have g50 := g5.c0
         have g51 := g5.c1
         have g52 := g5.c2)
      | (go_at_call 50; refine (Rn.rread_any (gbd.up b5) (by omega)).mono ?_; intro e w6 hr6; obtain ⟨A6, n6, c6, x6, rfl, r6⟩ := hr6.s
         have g6 := g5.up r6.bel
         have g60 := g6.c0
         have g61 := g6.c1
         have g62 := g6.c2
         have v6 := r6.is
         have l6 : n6 ≤ 1000 := r6.le Hvb.out)
      | (go_at_call 49; refine (rcmp_lt r6.nt ((h1d.up b5).up r6.bel) (by omega) (by omega) (by rw [v6, e1]; exact hv)).mono ?_; rintro e w7 ⟨rfl, b7⟩
         have g7 := g6.up b7
         have g70 := g7.c0
         have g71 := g7.c1
         have g72 := g7.c2))))
   | fail
  all_goals
    have B7 := bthen (bthen (bthen Bd b5) r6.bel) b7
    have pe := (Hh.out.up b0).up B7
    have gbe := gb.up B7
    have h3e := h3.up B7
    go_wp2_with fail
    refine (Hwk.out _ pe h3e e3 l3 gbe (by omega)).mono ?_
    rintro e w8 ⟨A8, c8, rfl, m8, _, b8⟩
    have B8 := bthen B7 b8
    have HX0 : ∃ X, bts (val 256 bs.reverse ^ D % N) s = X := ⟨_, rfl⟩
    obtain ⟨X, HX1⟩ := HX0
    have HX := Lib.hid HX1
    rw [HX1] at m8
    clear HX1
    obtain ⟨bb, off, rfl, hlt, hcell⟩ := m8.cell (by omega)
    have m8s := m8.sh
    have hlX := m8.len
    have hgX : ∀ j, j < s → X[j]? = some (X.getD j 0) := fun j hj => by simp [List.getD, List.getElem?_eq_getElem (show j < X.length by omega)]
    have hLX : ∀ j, j < s → X.getD j 0 < 256 := fun j hj => m8.lim _ (by simp [List.getD, List.getElem?_eq_getElem (show j < X.length by omega)])
    obtain ⟨x0, hx0⟩ : ∃ x, X.getD 0 0 = x := ⟨_, rfl⟩
    obtain ⟨x1, hx1'⟩ : ∃ x, X.getD 1 0 = x := ⟨_, rfl⟩
    have hc0 : w8.cell? ⟨bb, off, none⟩ = some (.int .u8 (x0 : Int)) := by have := hcell 0 x0 (by rw [hgX 0 (by omega), hx0]); simpa using this
    have hc1' : w8.cell? ⟨bb, off + 1, none⟩ = some (.int .u8 (x1 : Int)) := by have := hcell 1 x1 (by rw [hgX 1 (by omega), hx1']); simpa using this
    have hx02 : x0 < 256 := by rw [← hx0]; exact hLX 0 (by omega)
    have hx12 : x1 < 256 := by rw [← hx1']; exact hLX 1 (by omega)
    have htl : tw (X.drop 2) ≤ s - 2 := by have := tw_le (X.drop 2); rw [List.length_drop, hlX] at this; exact this
    have HC := Lib.hid hcell
    have HG := Lib.hid hgX
    have HL := Lib.hid hLX
    clear hcell hgX hLX
    go_wp2_with fail
    go_loopw [7] (fun v wr => ∃ k : Nat, 2 ≤ k ∧ k ≤ 2 + tw (X.drop 2) ∧ v = .int .i64 (k : Int) ∧ wr = w8) (fun v _ => s - (intOf v).toNat)
    case atStart => exact ⟨2, by omega, by omega, rfl, rfl⟩
    case round =>
      obtain ⟨k, hk2, hk, rfl, rfl⟩ := hrel
      by_cases hks : k < s
      · obtain ⟨x, hx⟩ : ∃ x, X.getD k 0 = x := ⟨_, rfl⟩
        have hck := HC.out k x (by rw [HG.out k hks, hx])
        have hxl : x < 256 := by rw [← hx]; exact HL.out k hks
        have d1 : decide ((k : Int) < (s : Int)) = true := by simp; omega
        have hgd := getD_drop2 (X := X) hk2
        rw [hx] at hgd
        by_cases hxz : x = 0
        · subst hxz
          have htw : tw (X.drop 2) = k - 2 := tw_stop (by omega) hgd
          have Hgd := Lib.hid hgd
          clear hgd hx
          by_cases y0 : x0 = 0
          · subst y0
            by_cases y1 : x1 = 2
            · subst y1
              by_cases y2 : k < 10
              · have f2 : decide ((k : Int) < 10) = true := by simp; omega
                go_wp2_with fail
                go_ret2
                rw [HX.out, unfN_none (by omega)]
                exact ⟨rfl, bthen b0 B8⟩
              · have f2 : decide ((k : Int) < 10) = false := by simp; omega
                have f3 : ((k : Int) == (s : Int)) = false := by simp; omega
                obtain ⟨A9, c9, hc1, hc2, n9⟩ := scut_l m8s (k + 1) (by omega)
                have hc3 : ∀ W, (Instr.slice 25 (.slice (some ⟨bb, off, none⟩) s c8) (some (.int .i64 ((k : Int) + 1))) none none).run Tryz.prog W = .ok (.slice A9 (s - (k + 1)) c9) W := hc1
                have hc4 : ∀ W, (Instr.sliceAt 25 (.slice (some ⟨bb, off, none⟩) s c8) (some (.int .i64 ((k : Int) + 1))) none none).run Tryz.prog W = .ok (.slice A9 (s - (k + 1)) c9) W := hc2
                clear hc1 hc2
                go_wp2_with fail
                go_ret2
                rw [HX.out, unfN_some (k := k) (by omega) (by omega) (by omega) (by omega) (by omega)]
                exact ⟨_, _, _, rfl, n9, bthen b0 B8⟩
            · have f1 : ((x1 : Int) != 2) = true := by simp; omega
              go_wp2_with fail
              go_ret2
              rw [HX.out, unfN_none (by omega)]
              exact ⟨rfl, bthen b0 B8⟩
          · have f0 : ((x0 : Int) != 0) = true := by simp; omega
            go_wp2_with fail
            go_ret2
            rw [HX.out, unfN_none (by omega)]
            exact ⟨rfl, bthen b0 B8⟩
        · have hst := tw_step (zs := X.drop 2) (k := k - 2) (by omega) (by rw [hgd]; exact hxz)
          have e9 : ((x : Int) != 0) = true := by simp; omega
          clear hgd hx
          go_wp2_with fail
          go_roundw
          case rel => exact ⟨k + 1, by omega, by omega, by go_num, by first | trivial | rfl⟩
          case measure => simp [intOf]; omega
      · have d1 : decide ((k : Int) < (s : Int)) = false := by simp; omega
        have htw : tw (X.drop 2) = k - 2 := by omega
        by_cases y0 : x0 = 0
        · subst y0
          by_cases y1 : x1 = 2
          · subst y1
            by_cases y2 : k < 10
            · have f2 : decide ((k : Int) < 10) = true := by simp; omega
              go_wp2_with fail
              go_ret2
              rw [HX.out, unfN_none (by omega)]
              exact ⟨rfl, bthen b0 B8⟩
            · have f2 : decide ((k : Int) < 10) = false := by simp; omega
              have f3 : ((k : Int) == (s : Int)) = true := by simp; omega
              go_wp2_with fail
              go_ret2
              rw [HX.out, unfN_none (by omega)]
              exact ⟨rfl, bthen b0 B8⟩
          · have f1 : ((x1 : Int) != 2) = true := by simp; omega
            go_wp2_with fail
            go_ret2
            rw [HX.out, unfN_none (by omega)]
            exact ⟨rfl, bthen b0 B8⟩
        · have f0 : ((x0 : Int) != 0) = true := by simp; omega
          go_wp2_with fail
          go_ret2
          rw [HX.out, unfN_none (by omega)]
          exact ⟨rfl, bthen b0 B8⟩
end Go.Proofs.YtkeejhkjbmegkaaGreatDoor
namespace Go.Proofs.YtkeejhkjbmegkaaGreatDoor
open Go.RowKit
set_option linter.unusedVariables false
set_option maxRecDepth 100000
set_option exponentiation.threshold 70000

/-- what Encrypt tells of any key -/
def ecOk (N E D s : Nat) (ts ds : List Nat) : Prop := rightK N E D = true ∧ 11 + ts.length ≤ s ∧ (fillL ds (s - 3 - ts.length)).length = s - 3 - ts.length
instance (N E D s : Nat) (ts ds : List Nat) : Decidable (ecOk N E D s ts ds) := by unfold ecOk; exact inferInstance
def ecL (N E D s : Nat) (ts ds : List Nat) : List Nat := if ecOk N E D s ts ds then bts (val 256 (cryptN (fillL ds (s - 3 - ts.length)) ts).reverse ^ E % N) s else []
def ecE (N E D s : Nat) (ts ds : List Nat) : Int := if rightK N E D = true then (if 11 + ts.length ≤ s then (if (fillL ds (s - 3 - ts.length)).length = s - 3 - ts.length then 0 else 52) else 51) else 50
def EcIs (N E D s : Nat) (ts ds : List Nat) (w : World) (e : Ending) (w' : World) : Prop := ∃ A m c, e = .returned (.tuple #[.slice A m c, .int .i64 (ecE N E D s ts ds)]) ∧ Sh.Nb w' w'.heap.size A m c (ecL N E D s ts ds) ∧ Below w.heap.size w w'
theorem ec_none {N E D s : Nat} {ts ds : List Nat} {w : World} {k : Int} (h : ¬ ecOk N E D s ts ds) (hk : ecE N E D s ts ds = k) : ∀ e w', RetPad k w e w' → EcIs N E D s ts ds w e w' := by
  rintro e w' ⟨rfl, b⟩
  unfold EcIs ecL
  rw [if_neg h, hk]
  exact ⟨none, 0, 0, rfl, Sh.Nb.nil _ _ _ (by omega) _, b⟩
theorem ec_some {N E D s : Nat} {ts ds : List Nat} {w w' : World} {A : Option Addr} {m c : Nat} (h : ecOk N E D s ts ds) (hn : Sh.Nb w' w'.heap.size A m c (bts (val 256 (cryptN (fillL ds (s - 3 - ts.length)) ts).reverse ^ E % N) s)) (b : Below w.heap.size w w') : EcIs N E D s ts ds w (.returned (.tuple #[.slice A m c, .int .i64 0])) w' := by
  have e : ecE N E D s ts ds = 0 := by unfold ecE; rw [if_pos h.1, if_pos h.2.1, if_pos h.2.2]
  unfold EcIs ecL
  rw [if_pos h, e]
  exact ⟨_, _, _, rfl, hn, b⟩
theorem enc_all {w : World} {v : Value} {N E D s : Nat} (h : Pr w v N E D) (hs : (bl N + 7) / 8 = s) {A4 : Option Addr} {m c4 : Nat} {ts : List Nat} (ht : Sh.Nb w w.heap.size A4 m c4 ts) (hm : m ≤ 1000) {A5 : Option Addr} {l c5 : Nat} {ds : List Nat} (hd : Sh.Nb w w.heap.size A5 l c5 ds) :
    Calls Tryz.prog 14 #[v, .slice A4 m c4, .slice A5 l c5] w (EcIs N E D s ts ds w) := by
  have hl := ht.len
  cases hR : rightK N E D with
  | false =>
    exact (enc_bad (s := s) h ht hd hR).mono (ec_none (fun k => by have := k.1; rw [hR] at this; cases this) (by unfold ecE; rw [if_neg (by rw [hR]; simp)]))
  | true =>
    by_cases h11 : 11 + m ≤ s
    · obtain ⟨r, hr⟩ : ∃ r, s - 3 - m = r := ⟨_, rfl⟩
      by_cases hf : (fillL ds r).length = r
      · refine (enc_ok h ht hd hR hs (r := r) (by omega) (by omega) hf).mono ?_
        rintro e w' ⟨g, rfl, hg, ho, b⟩
        have hs2 : s ≤ 128 := by have := rightK_pos hR; omega
        have n6 := (ho.nb (length_bts _ _) (show s ≤ maxLen by unfold maxLen; omega) (lim_bts _ _)).sh
        refine ec_some ⟨hR, by omega, by rw [hl, hr]; exact hf⟩ ?_ b
        rw [hl, hr]
        exact n6
      · refine (enc_few h ht hd hR hs (r := r) (by omega) (by omega) (by have := fillL_len (ds := ds) (n := r); omega)).mono (ec_none (fun k => hf (by have := k.2.2; rwa [hl, hr] at this)) ?_)
        unfold ecE
        rw [if_pos hR, if_pos (by omega), if_neg (by rw [hl, hr]; exact hf)]
    · refine (enc_pad h ht hd hR hs (by omega) hm).mono (ec_none (fun k => by have := k.2.1; omega) ?_)
      unfold ecE
      rw [if_pos hR, if_neg (by omega)]
theorem renc_all {w : World} {v : Value} {N E D s : Nat} (h : Pr w v N E D) (hs : (bl N + 7) / 8 = s) {A4 : Option Addr} {m c4 : Nat} {ts : List Nat} (ht : Sh.Nb w w.heap.size A4 m c4 ts) (hm : m ≤ 1000) {A5 : Option Addr} {l c5 : Nat} {ds : List Nat} (hd : Sh.Nb w w.heap.size A5 l c5 ds) :
    Calls Tryz.prog 15 #[v, .slice A4 m c4, .slice A5 l c5] w (EcIs N E D s ts ds w) := by
  have hl := ht.len
  cases hR : rightK N E D with
  | false =>
    exact (renc_bad (s := s) h ht hd hR).mono (ec_none (fun k => by have := k.1; rw [hR] at this; cases this) (by unfold ecE; rw [if_neg (by rw [hR]; simp)]))
  | true =>
    by_cases h11 : 11 + m ≤ s
    · obtain ⟨r, hr⟩ : ∃ r, s - 3 - m = r := ⟨_, rfl⟩
      by_cases hf : (fillL ds r).length = r
      · refine (renc_ok h ht hd hR hs (r := r) (by omega) (by omega) hf).mono ?_
        rintro e w' ⟨A6, c6, rfl, n6, b⟩
        refine ec_some ⟨hR, by omega, by rw [hl, hr]; exact hf⟩ ?_ b
        rw [hl, hr]
        exact n6
      · refine (renc_few h ht hd hR hs (r := r) (by omega) (by omega) (by have := fillL_len (ds := ds) (n := r); omega)).mono (ec_none (fun k => hf (by have := k.2.2; rwa [hl, hr] at this)) ?_)
        unfold ecE
        rw [if_pos hR, if_pos (by omega), if_neg (by rw [hl, hr]; exact hf)]
    · refine (renc_pad h ht hd hR hs (by omega) hm).mono (ec_none (fun k => by have := k.2.1; omega) ?_)
      unfold ecE
      rw [if_pos hR, if_neg (by omega)]
/-- what Decrypt tells of any key -/
def dcR (N D s : Nat) (bs : List Nat) : Option (List Nat) := if bs.length = s ∧ val 256 bs.reverse < N then unfN (bts (val 256 bs.reverse ^ D % N) s) else none
def dcK (r : Option (List Nat)) : Int := match r with | none => 51 | some _ => 0
def dcL (N E D s : Nat) (bs : List Nat) : List Nat := if secK N E D = true then (dcR N D s bs).getD [] else []
def dcE (N E D s : Nat) (bs : List Nat) : Int := if secK N E D = true then dcK (dcR N D s bs) else 50
def DcIs (N E D s : Nat) (bs : List Nat) (w : World) (e : Ending) (w' : World) : Prop := ∃ A m c, e = .returned (.tuple #[.slice A m c, .int .i64 (dcE N E D s bs)]) ∧ Sh.Nb w' w'.heap.size A m c (dcL N E D s bs) ∧ Below w.heap.size w w'
theorem dc_bad {N E D s : Nat} {bs : List Nat} {w : World} (h : secK N E D = false) : ∀ e w', RetPad 50 w e w' → DcIs N E D s bs w e w' := by
  rintro e w' ⟨rfl, b⟩
  unfold DcIs dcL dcE
  rw [if_neg (by rw [h]; simp), if_neg (by rw [h]; simp)]
  exact ⟨none, 0, 0, rfl, Sh.Nb.nil _ _ _ (by omega) _, b⟩
theorem dc_pad {N E D s : Nat} {bs : List Nat} {w : World} (h : secK N E D = true) (h2 : ¬ (bs.length = s ∧ val 256 bs.reverse < N)) : ∀ e w', RetPad 51 w e w' → DcIs N E D s bs w e w' := by
  rintro e w' ⟨rfl, b⟩
  unfold DcIs dcL dcE dcR
  rw [if_pos h, if_pos h, if_neg h2]
  exact ⟨none, 0, 0, rfl, Sh.Nb.nil _ _ _ (by omega) _, b⟩
theorem dc_ok {N E D s : Nat} {bs : List Nat} {w : World} (h : secK N E D = true) (h2 : bs.length = s ∧ val 256 bs.reverse < N) : ∀ e w', UnfIs (unfN (bts (val 256 bs.reverse ^ D % N) s)) w e w' → DcIs N E D s bs w e w' := by
  intro e w' hh
  unfold DcIs dcL dcE dcR
  rw [if_pos h, if_pos h, if_pos h2]
  cases hr : unfN (bts (val 256 bs.reverse ^ D % N) s) with
  | none =>
    rw [hr] at hh
    obtain ⟨rfl, b⟩ := hh
    exact ⟨none, 0, 0, rfl, Sh.Nb.nil _ _ _ (by omega) _, b⟩
  | some ys =>
    rw [hr] at hh
    obtain ⟨A, m, c, rfl, hn, b⟩ := hh
    exact ⟨A, m, c, rfl, hn, b⟩
theorem dec_all {w : World} {v : Value} {N E D s : Nat} (h : Pr w v N E D) (hs : (bl N + 7) / 8 = s) {A4 : Option Addr} {m c4 : Nat} {bs : List Nat} (hb : Nb w w.heap.size A4 m c4 bs) (hm : m ≤ 1000) :
    Calls Tryz.prog 16 #[v, .slice A4 m c4] w (DcIs N E D s bs w) := by
  have hl := hb.len
  cases hS : secK N E D with
  | false => exact (dec_bad (s := s) h hb hS).mono (dc_bad hS)
  | true =>
    by_cases hms : m = s
    · rcases Nat.lt_trichotomy (val 256 bs.reverse) N with hv | hv | hv
      · exact (dec_ok h hb hS hs hms hv).mono (dc_ok hS ⟨by omega, hv⟩)
      · exact (dec_big h hb hS hs hms (by omega)).mono (dc_pad hS (by omega))
      · exact (dec_big h hb hS hs hms (by omega)).mono (dc_pad hS (by omega))
    · exact (dec_len h hb hS hs hms).mono (dc_pad hS (by omega))
theorem rdec_all {w : World} {v : Value} {N E D s : Nat} (h : Pr w v N E D) (hs : (bl N + 7) / 8 = s) {A4 : Option Addr} {m c4 : Nat} {bs : List Nat} (hb : Nb w w.heap.size A4 m c4 bs) (hm : m ≤ 1000) :
    Calls Tryz.prog 17 #[v, .slice A4 m c4] w (DcIs N E D s bs w) := by
  have hl := hb.len
  cases hS : secK N E D with
  | false => exact (rdec_bad (s := s) h hb hm hS).mono (dc_bad hS)
  | true =>
    by_cases hms : m = s
    · rcases Nat.lt_trichotomy (val 256 bs.reverse) N with hv | hv | hv
      · exact (rdec_ok h hb hm hS hs hms hv).mono (dc_ok hS ⟨by omega, hv⟩)
      · exact (rdec_beq h hb hm hS hs hms hv).mono (dc_pad hS (by omega))
      · exact (rdec_big h hb hm hS hs hms hv).mono (dc_pad hS (by omega))
    · exact (rdec_len h hb hm hS hs hms).mono (dc_pad hS (by omega))
set_option maxHeartbeats 1000000 in
theorem heavyK2_any (A1 A2 A3 : Option Addr) (n1 c1 n2 c2 n3 c3 : Nat) (h1 : n1 ≤ 9223372036854775807) (h2 : n2 ≤ 9223372036854775807) (h3 : n3 ≤ 9223372036854775807) (w : World) :
    Calls Tryz.prog 8 #[.agg #[.slice A1 n1 c1, .slice A2 n2 c2, .slice A3 n3 c3]] w fun e w' => e = .returned (.bool (decide (4 < n1 ∨ 4 < n2 ∨ 4 < n3))) ∧ Below w.heap.size w w' := by
  obtain ⟨w0, e0⟩ : ∃ w0, w0 = w.alloc (.cells #[Value.slice A1 n1 c1, .slice A2 n2 c2, .slice A3 n3 c3] 24) := ⟨_, rfl⟩
  obtain ⟨hx0, b0⟩ := box_new e0
  have q0 := hx0.c0
  have q1 := hx0.c1
  have q2 := hx0.c2
  by_cases g1 : 4 < n1
  · rw [decide_eq_true (.inl g1)]
    have hd : decide ((4 : Int) < (n1 : Int)) = true := by simp; omega
    go_enter Tryz.func8, Tryz.ntmps8
    go_wp2_with fail
    rw [← e0]
    go_ret
    exact ⟨rfl, b0⟩
  · have hd1 : decide ((4 : Int) < (n1 : Int)) = false := by simp; omega
    by_cases g2 : 4 < n2
    · rw [decide_eq_true (.inr (.inl g2))]
      have hd : decide ((4 : Int) < (n2 : Int)) = true := by simp; omega
      go_enter Tryz.func8, Tryz.ntmps8
      go_wp2_with fail
      rw [← e0]
      go_ret
      exact ⟨rfl, b0⟩
    · have hd2 : decide ((4 : Int) < (n2 : Int)) = false := by simp; omega
      by_cases g3 : 4 < n3
      · rw [decide_eq_true (.inr (.inr g3))]
        have hd : decide ((4 : Int) < (n3 : Int)) = true := by simp; omega
        go_enter Tryz.func8, Tryz.ntmps8
        go_wp2_with fail
        rw [← e0]
        go_ret
        exact ⟨rfl, b0⟩
      · rw [decide_eq_false (by omega)]
        have hd : decide ((4 : Int) < (n3 : Int)) = false := by simp; omega
        go_enter Tryz.func8, Tryz.ntmps8
        go_wp2_with fail
        rw [← e0]
        go_ret
        exact ⟨rfl, b0⟩
end Go.Proofs.YtkeejhkjbmegkaaGreatDoor
namespace Go.Proofs.YtkeejhkjbmegkaaGreatDoor.pkeyCryptsP
open Go.ChangeShapes Go.WideShapes Go.ChangeAt Go.RowKit
set_option linter.unusedVariables false
set_option maxRecDepth 100000

set_option maxHeartbeats 8000000 in
theorem law_any {w : World} (hk : Sh.Ks w) {A1 A2 A3 A A5 B : Option Addr} {n1 c1 n2 c2 n3 c3 n c l5 c5 l d : Nat} {x1 x2 x3 ts ds bs : List Nat} (h1 : Nt w w.heap.size A1 n1 c1 x1) (h2 : Nt w w.heap.size A2 n2 c2 x2) (h3 : Nt w w.heap.size A3 n3 c3 x3) (hx : Nb w w.heap.size A n c ts) (hd : Nb w w.heap.size A5 l5 c5 ds) (hb : Nb w w.heap.size B l d bs) :
    Calls Tryz.prog 4 #[.agg #[.slice A1 n1 c1, .slice A2 n2 c2, .slice A3 n3 c3], .slice A n c, .slice A5 l5 c5, .slice B l d] w (Yes w) := by
  have hr1 := h1.rooms
  have hr2 := h2.rooms
  have hr3 := h3.rooms
  have hrx := hx.rooms
  have hrd := hd.rooms
  have hrb := hb.rooms
  obtain ⟨w0, e0⟩ : ∃ w0, w0 = w.alloc (.cells #[Value.slice A1 n1 c1, .slice A2 n2 c2, .slice A3 n3 c3] 24) := ⟨_, rfl⟩
  obtain ⟨hx0, b0⟩ := box_new e0
  have q0 := hx0.c0
  have q1 := hx0.c1
  have q2 := hx0.c2
  have HA := Lib.hid (fun W => alive05_any W)
  have HHv := Lib.hid (fun W => heavyK2_any A1 A2 A3 n1 c1 n2 c2 n3 c3 hr1.1 hr2.1 hr3.1 W)
  obtain ⟨hv, hhv⟩ : ∃ hv, decide (4 < n1 ∨ 4 < n2 ∨ 4 < n3) = hv := ⟨_, rfl⟩
  rw [hhv] at HHv
  have Hhv := Lib.hid hhv
  clear hhv
  cases hv with
  | true =>
    go_enter Tryz.func4, Tryz.ntmps4
    go_wp2_with fail
    rw [← e0]
    clear e0
    refine (HHv.out _).mono ?_
    rintro e W1 ⟨rfl, b1⟩
    go_wp2_with fail
    refine (HA.out _).mono ?_
    rintro e W2 ⟨rfl, b2⟩
    go_wp2_with fail
    go_ret
    exact ⟨rfl, bthen b0 (bthen b1 b2)⟩
  | false =>
  have hn := of_decide_eq_false Hhv.out
  have hn1 : n1 ≤ 4 := by omega
  have hn2 : n2 ≤ 4 := by omega
  have hn3 : n3 ≤ 4 := by omega
  clear hn
  by_cases y1 : 100 < n
  · have hd1 : decide ((100 : Int) < (n : Int)) = true := by simp; omega
    go_enter Tryz.func4, Tryz.ntmps4
    go_wp2_with fail
    rw [← e0]
    clear e0
    refine (HHv.out _).mono ?_
    rintro e W1 ⟨rfl, b1⟩
    go_wp2_with fail
    refine (HA.out _).mono ?_
    rintro e W2 ⟨rfl, b2⟩
    go_wp2_with fail
    go_ret
    exact ⟨rfl, bthen b0 (bthen b1 b2)⟩
  have hd1 : decide ((100 : Int) < (n : Int)) = false := by simp; omega
  by_cases y2 : 200 < l5
  · have hd2 : decide ((200 : Int) < (l5 : Int)) = true := by simp; omega
    go_enter Tryz.func4, Tryz.ntmps4
    go_wp2_with fail
    rw [← e0]
    clear e0
    refine (HHv.out _).mono ?_
    rintro e W1 ⟨rfl, b1⟩
    go_wp2_with fail
    refine (HA.out _).mono ?_
    rintro e W2 ⟨rfl, b2⟩
    go_wp2_with fail
    go_ret
    exact ⟨rfl, bthen b0 (bthen b1 b2)⟩
  have hd2 : decide ((200 : Int) < (l5 : Int)) = false := by simp; omega
  by_cases y3 : 100 < l
  · have hd3 : decide ((100 : Int) < (l : Int)) = true := by simp; omega
    go_enter Tryz.func4, Tryz.ntmps4
    go_wp2_with fail
    rw [← e0]
    clear e0
    refine (HHv.out _).mono ?_
    rintro e W1 ⟨rfl, b1⟩
    go_wp2_with fail
    refine (HA.out _).mono ?_
    rintro e W2 ⟨rfl, b2⟩
    go_wp2_with fail
    go_ret
    exact ⟨rfl, bthen b0 (bthen b1 b2)⟩
  have hd3 : decide ((100 : Int) < (l : Int)) = false := by simp; omega
  obtain ⟨N, e1⟩ : ∃ v, val 18446744073709551616 x1 = v := ⟨_, rfl⟩
  obtain ⟨E, e2⟩ : ∃ v, val 18446744073709551616 x2 = v := ⟨_, rfl⟩
  obtain ⟨D, e3⟩ : ∃ v, val 18446744073709551616 x3 = v := ⟨_, rfl⟩
  have hp0 : Pr w0 (.agg #[.slice A1 n1 c1, .slice A2 n2 c2, .slice A3 n3 c3]) N E D := ⟨_, _, _, _, _, _, _, _, _, _, _, _, rfl, h1.up b0, e1, by omega, h2.up b0, e2, by omega, h3.up b0, e3, by omega⟩
  obtain ⟨s, hs⟩ : ∃ s, (bl N + 7) / 8 = s := ⟨_, rfl⟩
  have gx := (hx.up b0).sh
  have gd := (hd.up b0).sh
  have gb := hb.up b0
  have Hs := Lib.hid hs
  have HP := Lib.hid hp0
  clear hs e1 e2 e3 h1 h2 h3 hp0
  go_enter Tryz.func4, Tryz.ntmps4
  go_wp2_with fail
  rw [← e0]
  clear e0
  refine (HHv.out _).mono ?_
  rintro e w1 ⟨rfl, b1⟩
  have i1 := hx0.up b1
  have i10 := i1.c0
  have i11 := i1.c1
  have i12 := i1.c2
  go_wp2_with fail
  refine (enc_all (HP.out.up b1) Hs.out (gx.go b1) (by omega) (gd.go b1)).mono ?_
  rintro e w2 ⟨A6, m6, c6, rfl, k6, b2⟩
  have B2 := bthen b1 b2
  have i2 := hx0.up B2
  have i20 := i2.c0
  have i21 := i2.c1
  have i22 := i2.c2
  obtain ⟨er, her⟩ : ∃ x, ecE N E D s ts ds = x := ⟨_, rfl⟩
  rw [her]
  have Her := Lib.hid her
  clear her
  go_wp2_with fail
  refine (renc_all (HP.out.up B2) Hs.out (gx.go B2) (by omega) (gd.go B2)).mono ?_
  rintro e w3 ⟨A7, m7, c7, rfl, k7, b3⟩
  rw [Her.out]
  have B3 := bthen B2 b3
  have i3 := hx0.up B3
  have i30 := i3.c0
  have i31 := i3.c1
  have i32 := i3.c2
  go_wp2_with fail
  refine (dec_all (HP.out.up B3) Hs.out (gb.up B3) (by omega)).mono ?_
  rintro e w4 ⟨A8, m8, c8, rfl, k8, b4⟩
  have B4 := bthen B3 b4
  have i4 := hx0.up B4
  have i40 := i4.c0
  have i41 := i4.c1
  have i42 := i4.c2
  obtain ⟨et, het⟩ : ∃ x, dcE N E D s bs = x := ⟨_, rfl⟩
  rw [het]
  have Het := Lib.hid het
  clear het
  go_wp2_with fail
  refine (rdec_all (HP.out.up B4) Hs.out (gb.up B4) (by omega)).mono ?_
  rintro e w5 ⟨A9, m9, c9, rfl, k9, b5⟩
  rw [Het.out]
  have B5 := bthen B4 b5
  obtain ⟨S, hS⟩ : ∃ S, bstr (ecL N E D s ts ds) = S := ⟨_, rfl⟩
  obtain ⟨T, hT⟩ : ∃ T, bstr (dcL N E D s bs) = T := ⟨_, rfl⟩
  have hSS : (S.toList == S.toList) = true := by simp
  have hTT : (T.toList == T.toList) = true := by simp
  have hee : (er == er) = true := by simp
  have hff : (et == et) = true := by simp
  have HS := Lib.hid hS
  have HT := Lib.hid hT
  clear hS hT
  go_wp2_with fail
  refine (HA.out _).mono ?_
  rintro e w6 ⟨rfl, b6⟩
  have cx := conv_any (((k6.go b3).go b4).go (bthen b5 b6))
  have cy := conv_any ((k7.go b4).go (bthen b5 b6))
  have cz := conv_any (k8.go (bthen b5 b6))
  have cu := conv_any (k9.go b6)
  rw [HS.out] at cx cy
  rw [HT.out] at cz cu
  go_wp2_with fail
  go_ret
  exact ⟨rfl, bthen b0 (bthen B5 b6)⟩

set_option maxRecDepth 100000 in
theorem door_met (os : Os) (args : Array Value) : laidMetH Tryz.prog [("clepsydra/sha.constants", Rows.laid_clepsydra_sha_constants)] ((World.doorLaid Tryz.prog 4000 os).forCall (fun _ _ => 0) ⟨#[], args, []⟩).memory :=
  laidMetH_of_parts3 (fuel := 8) (laidMet_of_run' 8 (by kernel_rfl) (by kernel_rfl)) (by kernel_rfl) (by kernel_rfl)
set_option maxRecDepth 100000 in
theorem lifted (os : Os) (started : os.Started) (H : Type) (enc : TypeId × Value → H) :
    ReturnsInHanded {} Tryz.checked os 4 .any (fun w args => (Rows.pkeyCryptsSpec.pre enc Tryz.prog Tryz.f4 [] false w args ∧ laidMetH Tryz.prog [("clepsydra/sha.constants", Rows.laid_clepsydra_sha_constants)] w) ∧ sizedMet enc Tryz.prog Tryz.f4 (OpenSpec.ofChange Rows.pkeyCryptsSpec) false w args)
      (Rows.pkeyCryptsSpec.post enc Tryz.prog Tryz.f4 false true false false) := by
  refine returnsInHanded_of_change_and (C := Tryz.checked) (X := fun w _ => laidMetH Tryz.prog [("clepsydra/sha.constants", Rows.laid_clepsydra_sha_constants)] w) (fun _ _ _ hh h => h.of_heap hh) own started (by kernel_rfl) Tryz.func4
    (ChangeSpec.witness_shaped (enc := enc) (C := Tryz.checked) (os := os) (X := fun w _ => laidMetH Tryz.prog [("clepsydra/sha.constants", Rows.laid_clepsydra_sha_constants)] w) false (World.doorLaid Tryz.prog 4000 os) #[.agg #[.slice none 0 0, .slice none 0 0, .slice none 0 0], .slice none 0 0, .slice none 0 0, .slice none 0 0] 8 rfl (World.shaped_of_RefB (by kernel_rfl) (by kernel_rfl)) (by kernel_rfl) (by kernel_rfl) (by kernel_rfl) (door_met os _)) ?_
  intro W base args ds gs before hval0 hW _ hsz0 hL _
  have hsz : (DataW.weightsEach Tryz.prog (Tryz.f4.params.toList ++ Rows.pkeyCryptsSpec.plain.varTypes Tryz.prog) (ds ++ gs)).all (· ≤ reachBytes) = true := hsz0
  have hval : ∀ (j : Nat) t v, Tryz.f4.params[j]? = some t → args[j]? = some v → Value.okWide Tryz.prog W .any base t v := hval0
  have hW' := hW
  obtain ⟨p, q, hA0, hV, rfl, hfz, hnd⟩ := hW
  have hA : DataW.TrodAll enc Tryz.prog W 0 (fun _ => true) true Tryz.f4.params.toList args.toList ds p := hA0
  rw [Tryz.params4] at hA hval hsz
  obtain ⟨v0, vs0, d0, ds0, p0, q0, hargs, rfl, rfl, h0, r0⟩ := trodAll_cons hA
  obtain ⟨v1, vs1, d1, ds1, p1, q1, rfl, rfl, rfl, h1, r1⟩ := trodAll_cons r0
  obtain ⟨v2, vs2, d2, ds2, p2, q2, rfl, rfl, rfl, h2, r2⟩ := trodAll_cons r1
  obtain ⟨v3, vs3, d3, ds3, p3, q3, rfl, rfl, rfl, h3, r3⟩ := trodAll_cons r2
  obtain ⟨rfl, rfl, rfl⟩ := trodAll_nil r3
  obtain rfl : args = #[v0, v1, v2, v3] := by cases args; simp_all
  obtain ⟨rfl, rfl⟩ := trodVars_none hV
  obtain ⟨cs0, rfl, _⟩ := okWide_struct Tryz.underlying24 (hval 0 24 v0 rfl rfl)
  have k0 := h0
  have lt0 : ∀ x ∈ p0, x.block < W.heap.size := by obtain ⟨m, hm⟩ := k0; exact DataW.trod_lt m _ _ _ hm
  obtain ⟨A1, n1, c1, x1, A2, n2, c2, x2, A3, n3, c3, x3, rfl, w0a, w0b, w0c⟩ := key_open h0
  obtain ⟨a1, len1, cap1, rfl⟩ := okWide_slice Tryz.underlying25 (hval 1 25 v1 rfl rfl)
  have k1 := h1
  have lt1 : ∀ x ∈ p1, x.block < W.heap.size := by obtain ⟨m, hm⟩ := k1; exact DataW.trod_lt m _ _ _ hm
  obtain ⟨z1, w1⟩ : ∃ zs, Nb W W.heap.size a1 len1 cap1 zs := by
    obtain ⟨fuel, hf⟩ := h1
    rcases open_ints Tryz.underlying25 Tryz.underlying5 (by kernel_rfl) hf with ⟨hcs, _⟩ | ⟨x, l, c, zs, hcs, _, hl, hm, hz, hd, hcell, hwz⟩
    · simp [Value.cells] at hcs
      obtain ⟨rfl, rfl, rfl⟩ := hcs
      exact ⟨[], nb_nil _ _⟩
    · simp [Value.cells] at hcs
      obtain ⟨rfl, rfl, rfl⟩ := hcs
      exact ⟨_, nb_of_row hl hm (by simpa using hz) hcell hwz⟩
  obtain ⟨a2, len2, cap2, rfl⟩ := okWide_slice Tryz.underlying25 (hval 2 25 v2 rfl rfl)
  have k2 := h2
  have lt2 : ∀ x ∈ p2, x.block < W.heap.size := by obtain ⟨m, hm⟩ := k2; exact DataW.trod_lt m _ _ _ hm
  obtain ⟨z2, w2⟩ : ∃ zs, Nb W W.heap.size a2 len2 cap2 zs := by
    obtain ⟨fuel, hf⟩ := h2
    rcases open_ints Tryz.underlying25 Tryz.underlying5 (by kernel_rfl) hf with ⟨hcs, _⟩ | ⟨x, l, c, zs, hcs, _, hl, hm, hz, hd, hcell, hwz⟩
    · simp [Value.cells] at hcs
      obtain ⟨rfl, rfl, rfl⟩ := hcs
      exact ⟨[], nb_nil _ _⟩
    · simp [Value.cells] at hcs
      obtain ⟨rfl, rfl, rfl⟩ := hcs
      exact ⟨_, nb_of_row hl hm (by simpa using hz) hcell hwz⟩
  obtain ⟨a3, len3, cap3, rfl⟩ := okWide_slice Tryz.underlying25 (hval 3 25 v3 rfl rfl)
  have k3 := h3
  have lt3 : ∀ x ∈ p3, x.block < W.heap.size := by obtain ⟨m, hm⟩ := k3; exact DataW.trod_lt m _ _ _ hm
  obtain ⟨z3, w3⟩ : ∃ zs, Nb W W.heap.size a3 len3 cap3 zs := by
    obtain ⟨fuel, hf⟩ := h3
    rcases open_ints Tryz.underlying25 Tryz.underlying5 (by kernel_rfl) hf with ⟨hcs, _⟩ | ⟨x, l, c, zs, hcs, _, hl, hm, hz, hd, hcell, hwz⟩
    · simp [Value.cells] at hcs
      obtain ⟨rfl, rfl, rfl⟩ := hcs
      exact ⟨[], nb_nil _ _⟩
    · simp [Value.cells] at hcs
      obtain ⟨rfl, rfl, rfl⟩ := hcs
      exact ⟨_, nb_of_row hl hm (by simpa using hz) hcell hwz⟩
  clear hA0 hval0
  refine (law_any (of_laid hL) w0a w0b w0c w1 w2 w3).mono fun e W' ⟨he, bel⟩ => ?_
  subst he
  exact ⟨_, rfl, _, _, _, [], _, [], hW', trodAll_mk1 (shut_bool Tryz.underlying4 _), (trodAll_cons_mk (Below.trod laidOut (by kernel_rfl) (of_decide_eq_true (by kernel_rfl)) k0 bel lt0) (trodAll_cons_mk (Below.trod laidOut (by kernel_rfl) (of_decide_eq_true (by kernel_rfl)) k1 bel lt1) (trodAll_cons_mk (Below.trod laidOut (by kernel_rfl) (of_decide_eq_true (by kernel_rfl)) k2 bel lt2) (trodAll_cons_mk (Below.trod laidOut (by kernel_rfl) (of_decide_eq_true (by kernel_rfl)) k3 bel lt3) trodAll_mk0)))), rfl, bel.frame _, fun h => by cases h⟩

theorem pkeyCrypts_holds : Rows.PkeyCryptsSaid :=
  OpenClaim.holds_of_wide 4 Tryz.f4 rfl rfl rfl rfl rfl rfl rfl ⟨rfl, rfl, rfl, rfl, rfl⟩ rfl rfl rfl rfl rfl (by kernel_rfl) Tryz.func4 (by kernel_rfl)
    (of_decide_eq_true (by kernel_rfl)) (by unfold Func.isWrapper; first | (rw [if_pos (by decide +kernel)]; kernel_rfl) | (rw [if_neg (by decide +kernel)]; exact ⟨rfl, rfl⟩))
    (fun os started H enc _ => lifted os started H enc)
theorem pkeyCrypts_card : Rows.PkeyCryptsCardSaid :=
  Claim7.holds_tied_plain_at .later [] [.data] true (true, "08b5c815c4ce98d0939ca56bd09f004e88258d10564a8ae8158c8b934526e78b") false
    pkeyCrypts_holds (fun _ h => by cases h) (by kernel_rfl) (fun _ h => by cases h) pkeyCrypts_row_tie rfl ⟨rfl, rfl⟩ (by kernel_rfl) rfl
    (fun f fn hf hfn => by
      obtain rfl : f = 4 := Option.some.inj ((show Tryz.prog.funcNamed "clepsydra/clepsydralaw05.PkeyCrypts" = some 4 by kernel_rfl).symm.trans hf) |>.symm
      obtain rfl : fn = Tryz.f4 := (Option.some.inj (Tryz.func4.symm.trans hfn)).symm
      exact ⟨by kernel_rfl, fun j t ht => by
        rw [Tryz.params4] at ht
        have hm : t ∈ [24, 25, 25, 25] := by simpa using Array.mem_of_getElem? ht
        have hall : ([24, 25, 25, 25].all fun u => !Tryz.prog.wantsStandIn u) = true := by kernel_rfl
        exact (show Tryz.prog.wantsStandIn t = false by simpa using List.all_eq_true.1 hall t hm)⟩)
    (by kernel_rfl)
#print axioms pkeyCrypts_card
end Go.Proofs.YtkeejhkjbmegkaaGreatDoor.pkeyCryptsP
