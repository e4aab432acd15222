/- choose: how strange an offset is; the greatest of some. -/
import Derived.Test.YtjagekagpgjoaaaC22
namespace Go.Proofs.Ytjagekagpgjoaaa
open Go.RowKit
set_option linter.unusedVariables false
set_option linter.unusedSimpArgs false
set_option maxRecDepth 100000
def ints (L : List Nat) : List Int := L.map fun (j : Nat) => (j : Int)
theorem ints_len (L : List Nat) : (ints L).length = L.length := by simp [ints]
theorem ints_get {L : List Nat} {i j : Nat} (h : L[i]? = some j) : (ints L)[i]? = some (j : Int) := by simp [ints, h]
def dif (a b : Int) : Int := max a b - min a b
/-- how strange an offset is among some -/
def str (os : List Int) (L : List Nat) (i : Nat) : Int := (L.map fun j => dif (os.getD i 0) (os.getD j 0)).sum
theorem str_take {os : List Int} {L : List Nat} {k j : Nat} (i : Nat) (h : L[k]? = some j) : str os (L.take (k + 1)) i = str os (L.take k) i + dif (os.getD i 0) (os.getD j 0) := by
  rw [List.take_add_one, h]
  simp [str]
theorem getD_ok {os : List Int} (h : okO os) (i : Nat) : -1099511627776 ≤ os.getD i 0 ∧ os.getD i 0 ≤ 1099511627776 := by
  rw [List.getD_eq_getElem?_getD]
  cases e : os[i]? with
  | none => simp
  | some z => exact h z (List.mem_of_getElem? e)
theorem dif_lim {a b : Int} (ha : -1099511627776 ≤ a ∧ a ≤ 1099511627776) (hb : -1099511627776 ≤ b ∧ b ≤ 1099511627776) : 0 ≤ dif a b ∧ dif a b ≤ 2199023255552 := by unfold dif; omega
theorem str_lim {os : List Int} (h : okO os) (L : List Nat) (i : Nat) : 0 ≤ str os L i ∧ str os L i ≤ 2199023255552 * (L.length : Int) := by
  induction L with
  | nil => simp [str]
  | cons j L ih =>
    have h1 := dif_lim (getD_ok h i) (getD_ok h j)
    have e : str os (j :: L) i = dif (os.getD i 0) (os.getD j 0) + str os L i := by simp [str]
    rw [e, List.length_cons, Int.natCast_add]
    omega
theorem Ri.drewN {w : World} {B n : Nat} {A : Option Addr} {zs : List Int} (h : Ri w B A n zs) (k : Nat) : Ri (w.drewN k) B A n zs := h
set_option maxHeartbeats 2000000 in
theorem str_any {w : World} {A1 A2 : Option Addr} {B n c1 m c2 i : Nat} {os : List Int} {L : List Nat} (h1 : Ri w B A1 n os) (h2 : Ri w B A2 m (ints L)) (hO : okO os) (hL : ∀ j ∈ L, j < n) (hi : i < n) (hm : m ≤ 64) :
    Calls Try.prog 28 #[.slice A1 n c1, .slice A2 m c2, .int .i64 (i : Int)] w fun e w' => e = .returned (.int .i64 (str os L i)) ∧ ∃ k, w' = w.drewN k := by
  have HR1 := Lib.hid h1
  have HR2 := Lib.hid h2
  have HL1 := Lib.hid h1.1
  have HL2 := Lib.hid (show L.length = m by have := h2.1; rwa [ints_len] at this)
  have HO := Lib.hid hO
  have HLt := Lib.hid hL
  obtain ⟨g1, off1, rfl, hg1, hc1⟩ := h1.cells (by omega)
  have a0 : os[i]? = some (os.getD i 0) := by
    rw [List.getD_eq_getElem?_getD, List.getElem?_eq_getElem (by rw [h1.1]; exact hi)]
    rfl
  have b0 := hc1 w (Below.refl _ _) i _ a0
  have HC1 := Lib.hid (hc1 w (Below.refl _ _))
  have hOi := getD_ok hO i
  obtain ⟨a, ha⟩ : ∃ a, a = os.getD i 0 := ⟨_, rfl⟩
  rw [← ha] at b0 hOi
  have HA := Lib.hid ha
  clear h1 h2 hO hL hc1 a0 ha
  go_enter Try.func28, Try.ntmps28
  go_wp2_with fail
  go_loopw [7, 12] (fun sv iv wr => ∃ j : Nat, j ≤ m ∧ iv = .int .i64 (j : Int) ∧ sv = .int .i64 (str os (L.take j) i) ∧ ∃ k, wr = w.drewN k) (fun _ iv _ => (m - (match iv with | .int _ z => z.toNat | _ => 0)))
  case atStart => exact ⟨0, by omega, rfl, rfl, 0, rfl⟩
  case round =>
    obtain ⟨j, hj, rfl, rfl, k0, rfl⟩ := hrel
    have hsl := str_lim HO.out (L.take j) i
    have hlen : (L.take j).length ≤ j := by rw [List.length_take]; omega
    obtain ⟨S, hS⟩ : ∃ S, S = str os (L.take j) i := ⟨_, rfl⟩
    rw [← hS] at hsl ⊢
    have HS := Lib.hid hS
    have hS2 : 0 ≤ S ∧ S ≤ 1000000000000000 := by omega
    clear hS hsl hlen
    by_cases hjm : j < m
    · have e1 : decide ((j : Int) < (m : Int)) = true := by simp; omega
      have e1' : (j : Int) < (m : Int) := by omega
      obtain ⟨q, hq⟩ : ∃ q, L[j]? = some q := ⟨_, List.getElem?_eq_getElem (by have := HL2.out; omega)⟩
      have hqn : q < n := HLt.out q (List.mem_of_getElem? hq)
      obtain ⟨g2, off2, rfl, _, hc2⟩ := HR2.out.cells (by omega)
      have b2 := hc2 w (Below.refl _ _) j _ (ints_get hq)
      have b3 := HC1.out q (os.getD q 0) (by
        rw [List.getD_eq_getElem?_getD, List.getElem?_eq_getElem (by rw [HL1.out]; exact hqn)]
        rfl)
      have hOq := getD_ok HO.out q
      have HT := Lib.hid (str_take (os := os) i hq)
      obtain ⟨b, hb⟩ : ∃ b, b = os.getD q 0 := ⟨_, rfl⟩
      rw [← hb] at b3 hOq
      have HB := Lib.hid hb
      clear hc2 hq hb
      have hd := dif_lim hOi hOq
      unfold dif at hd
      have HD := Lib.hid (show dif a b = max a b - min a b from rfl)
      rcases Int.le_total a b with hab | hab
      · have m1 : max a b = b := by omega
        have m2 : min a b = a := by omega
        rw [m1, m2] at hd
        have HM := Lib.hid (show dif a b = b - a by rw [HD.out, m1, m2])
        go_wp2_with fail
        go_quiet (fail)
        go_wp2_with fail
        exact ⟨⟨j + 1, by omega, rfl, by rw [HT.out, ← HS.out, ← HA.out, ← HB.out, HM.out], k0 + nq, by first | rfl | exact World.drewN_drewN ..⟩, by show m - ((j : Int) + 1).toNat < m - (j : Int).toNat; omega⟩
      · have m1 : max a b = a := by omega
        have m2 : min a b = b := by omega
        rw [m1, m2] at hd
        have HM := Lib.hid (show dif a b = a - b by rw [HD.out, m1, m2])
        go_wp2_with fail
        go_quiet (fail)
        go_wp2_with fail
        exact ⟨⟨j + 1, by omega, rfl, by rw [HT.out, ← HS.out, ← HA.out, ← HB.out, HM.out], k0 + nq, by first | rfl | exact World.drewN_drewN ..⟩, by show m - ((j : Int) + 1).toNat < m - (j : Int).toNat; omega⟩
    · have e1' : ((j : Int) < (m : Int)) = False := by simp only [eq_iff_iff, iff_false]; omega
      have HE := Lib.hid (show S = str os L i by rw [HS.out, List.take_of_length_le (by have := HL2.out; omega)])
      go_wp2_with fail
      go_ret
      exact ⟨by rw [← HE.out]; rfl, k0, rfl⟩
/-- of some the last one that is worth most -/
def grt (f : Nat → Int) : List Nat → Nat
  | [] => 0
  | a :: L => L.foldl (fun b x => if f b ≤ f x then x else b) a
theorem grt_take {f : Nat → Int} {L : List Nat} {j x : Nat} (h : L[j]? = some x) : grt f (L.take (j + 1)) = if j = 0 then x else if f (grt f (L.take j)) ≤ f x then x else grt f (L.take j) := by
  cases L with
  | nil => simp at h
  | cons a L =>
    cases j with
    | zero => simp at h; subst h; simp [grt]
    | succ j =>
      have h' : L[j]? = some x := by simpa using h
      rw [List.take_succ_cons, List.take_succ_cons, if_neg (by omega)]
      show List.foldl _ a (L.take (j + 1)) = _
      rw [List.take_add_one, h', List.foldl_append]
      rfl
theorem grt_mem {f : Nat → Int} {L : List Nat} (h : L ≠ []) : grt f L ∈ L := by
  cases L with
  | nil => exact absurd rfl h
  | cons a L =>
    show List.foldl _ a L ∈ a :: L
    clear h
    induction L generalizing a with
    | nil => simp
    | cons b L ih =>
      rw [List.foldl_cons]
      split
      · exact List.mem_cons_of_mem _ (ih b)
      · rcases List.mem_cons.1 (ih a) with e | e
        · rw [e]; exact List.mem_cons_self ..
        · exact List.mem_cons_of_mem _ (List.mem_cons_of_mem _ e)
/-- a closure that reads alone -/
def Reads (fid : FuncId) (cb : Array Value) (w : World) (L : List Nat) (f : Nat → Int) : Prop :=
  (∀ args w, (callFunc fid args).run Try.prog w = .ok (.enter fid args) w) ∧ ∀ j, j ∈ L → ∀ k, Calls Try.prog fid (#[.int .i64 (j : Int)] ++ cb) (w.drewN k) fun e w' => e = .returned (.int .i64 (f j)) ∧ ∃ k', w' = w.drewN k'
set_option maxHeartbeats 2000000 in
theorem grt_any1 {fid : FuncId} {p1 : Value} {w : World} {A : Option Addr} {B m c : Nat} {L : List Nat} {f : Nat → Int} (hr : Reads fid #[p1] w L f) (h : Ri w B A m (ints L)) (hm : m ≤ 64) (h0 : 0 < m) :
    Calls Try.prog 30 #[.slice A m c, .func (.func fid) #[] #[p1]] w fun e w' => e = .returned (.int .i64 (grt f L : Nat)) ∧ ∃ k, w' = w.drewN k := by
  obtain ⟨hent, hcall⟩ := hr
  have HR := Lib.hid h
  have HL := Lib.hid (show L.length = m by have := h.1; rwa [ints_len] at this)
  have HC := Lib.hid (show ∀ j, j ∈ L → ∀ k, Calls Try.prog fid #[.int .i64 (j : Int), p1] (w.drewN k) fun e w' => e = .returned (.int .i64 (f j)) ∧ ∃ k', w' = w.drewN k' from hcall)
  clear h hcall
  go_enter Try.func30, Try.ntmps30
  go_wp2_with fail
  go_loopw [5, 10] (fun bv iv wr => ∃ j b : Nat, j ≤ m ∧ iv = .int .i64 (j : Int) ∧ bv = .int .i64 (b : Int) ∧ Hid (b = grt f (L.take j)) ∧ Hid (0 < j → b ∈ L) ∧ ∃ k, wr = w.drewN k) (fun _ iv _ => (m - (match iv with | .int _ z => z.toNat | _ => 0)))
  case atStart => exact ⟨0, 0, by omega, rfl, rfl, rfl, fun h => absurd h (by omega), 0, rfl⟩
  case round =>
    obtain ⟨j, b, hj, rfl, rfl, HB, HI, k0, rfl⟩ := hrel
    by_cases hjm : j < m
    · have e1 : decide ((j : Int) < (m : Int)) = true := by simp; omega
      have e1' : (j : Int) < (m : Int) := by omega
      obtain ⟨q, hq⟩ : ∃ q, L[j]? = some q := ⟨_, List.getElem?_eq_getElem (by have := HL.out; omega)⟩
      obtain ⟨g2, off2, rfl, _, hc2⟩ := HR.out.cells (by omega)
      have b2 := hc2 w (Below.refl _ _) j _ (ints_get hq)
      have HQ := Lib.hid (List.mem_of_getElem? hq)
      have HT := Lib.hid (grt_take (f := f) hq)
      clear hc2 hq
      by_cases hz : j = 0
      · subst hz
        rw [Nat.add_zero] at b2
        go_wp2_with fail
        exact ⟨⟨1, q, by omega, rfl, rfl, by show q = _; rw [HT.out, if_pos rfl], fun _ => HQ.out, k0, rfl⟩, by show m - ((0 : Int) + 1).toNat < m - ((0 : Nat) : Int).toNat; omega⟩
      · have hz1 : ((j : Int) = 0) = False := by simp only [eq_iff_iff, iff_false]; omega
        have hz2 : ((j : Int) == 0) = false := by simp only [beq_eq_false_iff_ne, ne_eq]; omega
        have HC1 := Lib.hid (HC.out q HQ.out k0)
        obtain ⟨y, hy⟩ : ∃ y, y = f q := ⟨_, rfl⟩
        obtain ⟨x, hx⟩ : ∃ x, x = f b := ⟨_, rfl⟩
        rw [← hy] at HC1
        have HY := Lib.hid hy
        have HX := Lib.hid hx
        clear hy hx
        go_wp2_with fail
        refine HC1.out.mono ?_
        rintro e w2 ⟨rfl, k2, rfl⟩
        have HC2 := Lib.hid (HC.out b (HI.out (by omega)) k2)
        rw [← HX.out] at HC2
        go_wp2_with fail
        refine HC2.out.mono ?_
        rintro e w3 ⟨rfl, k3, rfl⟩
        by_cases hxy : x ≤ y
        · go_wp2_with fail
          exact ⟨⟨j + 1, q, by omega, rfl, rfl, by show q = _; rw [HT.out, if_neg hz, if_pos (by rw [← HB.out, ← HX.out, ← HY.out]; exact hxy)], fun _ => HQ.out, k3, rfl⟩, by show m - ((j : Int) + 1).toNat < m - (j : Int).toNat; omega⟩
        · have hxy' : (x ≤ y) = False := by simp only [hxy]
          go_wp2_with fail
          exact ⟨⟨j + 1, b, by omega, rfl, rfl, by show b = _; rw [HT.out, if_neg hz, if_neg (by rw [← HB.out, ← HX.out, ← HY.out]; omega)]; exact HB.out, fun _ => HI.out (by omega), k3, rfl⟩, by show m - ((j : Int) + 1).toNat < m - (j : Int).toNat; omega⟩
    · have e1' : ((j : Int) < (m : Int)) = False := by simp only [eq_iff_iff, iff_false]; omega
      have HE := Lib.hid (show b = grt f L by rw [HB.out, List.take_of_length_le (by have := HL.out; omega)])
      go_wp2_with fail
      go_ret
      exact ⟨by rw [← HE.out]; rfl, k0, rfl⟩
set_option maxHeartbeats 2000000 in
theorem grt_any2 {fid : FuncId} {p1 p2 : Value} {w : World} {A : Option Addr} {B m c : Nat} {L : List Nat} {f : Nat → Int} (hr : Reads fid #[p1, p2] w L f) (h : Ri w B A m (ints L)) (hm : m ≤ 64) (h0 : 0 < m) :
    Calls Try.prog 30 #[.slice A m c, .func (.func fid) #[] #[p1, p2]] w fun e w' => e = .returned (.int .i64 (grt f L : Nat)) ∧ ∃ k, w' = w.drewN k := by
  obtain ⟨hent, hcall⟩ := hr
  have HR := Lib.hid h
  have HL := Lib.hid (show L.length = m by have := h.1; rwa [ints_len] at this)
  have HC := Lib.hid (show ∀ j, j ∈ L → ∀ k, Calls Try.prog fid #[.int .i64 (j : Int), p1, p2] (w.drewN k) fun e w' => e = .returned (.int .i64 (f j)) ∧ ∃ k', w' = w.drewN k' from hcall)
  clear h hcall
  go_enter Try.func30, Try.ntmps30
  go_wp2_with fail
  go_loopw [5, 10] (fun bv iv wr => ∃ j b : Nat, j ≤ m ∧ iv = .int .i64 (j : Int) ∧ bv = .int .i64 (b : Int) ∧ Hid (b = grt f (L.take j)) ∧ Hid (0 < j → b ∈ L) ∧ ∃ k, wr = w.drewN k) (fun _ iv _ => (m - (match iv with | .int _ z => z.toNat | _ => 0)))
  case atStart => exact ⟨0, 0, by omega, rfl, rfl, rfl, fun h => absurd h (by omega), 0, rfl⟩
  case round =>
    obtain ⟨j, b, hj, rfl, rfl, HB, HI, k0, rfl⟩ := hrel
    by_cases hjm : j < m
    · have e1 : decide ((j : Int) < (m : Int)) = true := by simp; omega
      have e1' : (j : Int) < (m : Int) := by omega
      obtain ⟨q, hq⟩ : ∃ q, L[j]? = some q := ⟨_, List.getElem?_eq_getElem (by have := HL.out; omega)⟩
      obtain ⟨g2, off2, rfl, _, hc2⟩ := HR.out.cells (by omega)
      have b2 := hc2 w (Below.refl _ _) j _ (ints_get hq)
      have HQ := Lib.hid (List.mem_of_getElem? hq)
      have HT := Lib.hid (grt_take (f := f) hq)
      clear hc2 hq
      by_cases hz : j = 0
      · subst hz
        rw [Nat.add_zero] at b2
        go_wp2_with fail
        exact ⟨⟨1, q, by omega, rfl, rfl, by show q = _; rw [HT.out, if_pos rfl], fun _ => HQ.out, k0, rfl⟩, by show m - ((0 : Int) + 1).toNat < m - ((0 : Nat) : Int).toNat; omega⟩
      · have hz1 : ((j : Int) = 0) = False := by simp only [eq_iff_iff, iff_false]; omega
        have hz2 : ((j : Int) == 0) = false := by simp only [beq_eq_false_iff_ne, ne_eq]; omega
        have HC1 := Lib.hid (HC.out q HQ.out k0)
        obtain ⟨y, hy⟩ : ∃ y, y = f q := ⟨_, rfl⟩
        obtain ⟨x, hx⟩ : ∃ x, x = f b := ⟨_, rfl⟩
        rw [← hy] at HC1
        have HY := Lib.hid hy
        have HX := Lib.hid hx
        clear hy hx
        go_wp2_with fail
        refine HC1.out.mono ?_
        rintro e w2 ⟨rfl, k2, rfl⟩
        have HC2 := Lib.hid (HC.out b (HI.out (by omega)) k2)
        rw [← HX.out] at HC2
        go_wp2_with fail
        refine HC2.out.mono ?_
        rintro e w3 ⟨rfl, k3, rfl⟩
        by_cases hxy : x ≤ y
        · go_wp2_with fail
          exact ⟨⟨j + 1, q, by omega, rfl, rfl, by show q = _; rw [HT.out, if_neg hz, if_pos (by rw [← HB.out, ← HX.out, ← HY.out]; exact hxy)], fun _ => HQ.out, k3, rfl⟩, by show m - ((j : Int) + 1).toNat < m - (j : Int).toNat; omega⟩
        · have hxy' : (x ≤ y) = False := by simp only [hxy]
          go_wp2_with fail
          exact ⟨⟨j + 1, b, by omega, rfl, rfl, by show b = _; rw [HT.out, if_neg hz, if_neg (by rw [← HB.out, ← HX.out, ← HY.out]; omega)]; exact HB.out, fun _ => HI.out (by omega), k3, rfl⟩, by show m - ((j : Int) + 1).toNat < m - (j : Int).toNat; omega⟩
    · have e1' : ((j : Int) < (m : Int)) = False := by simp only [eq_iff_iff, iff_false]; omega
      have HE := Lib.hid (show b = grt f L by rw [HB.out, List.take_of_length_le (by have := HL.out; omega)])
      go_wp2_with fail
      go_ret
      exact ⟨by rw [← HE.out]; rfl, k0, rfl⟩
end Go.Proofs.Ytjagekagpgjoaaa
