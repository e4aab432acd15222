/- audit: whether all are matched, how many are; which events are alike. -/
import Derived.Test.YtompggkdjbkjjaaA10
namespace Go.Proofs.Ytompggkdjbkjjaa
open Go.RowKit Go.Maps Go.MapKept Go.ChangeMaps
set_option linter.unusedVariables false
set_option maxRecDepth 100000
/-- pairs in a row that can be read -/
def Pr (w : World) (B : Nat) (A : Option Addr) (n : Nat) (out : List (Nat × Int)) : Prop :=
  out.length = n ∧ (n = 0 ∨ ∃ g, A = some ⟨g, 0, none⟩ ∧ g < B ∧ ∀ i p, out[i]? = some p → w.cell? ⟨g, i * 2, none⟩ = some (.int .i64 (p.1 : Int)) ∧ w.cell? ⟨g, i * 2 + 1, none⟩ = some (.int .i64 p.2))
theorem Gw.pr {w : World} {base n c : Nat} {A : Option Addr} {out : List (Nat × Int)} (h : Gw w base 33 2 A n c (ps out)) (hn : out.length = n) : Pr w w.heap.size A n out := by
  refine ⟨hn, ?_⟩
  rcases Nat.eq_zero_or_pos n with h0 | h0
  · exact .inl h0
  · obtain ⟨g, e, _, hg, hc⟩ := h.cell h0 (by omega)
    exact .inr ⟨g, e, hg, fun i p hp => ⟨hc _ _ (ps_get hp).1, hc _ _ (ps_get hp).2⟩⟩
theorem Pr.below {w w' : World} {B C n : Nat} {A : Option Addr} {out : List (Nat × Int)} (h : Pr w B A n out) (b : RowKit.Below C w w') (hB : B ≤ C) : Pr w' B A n out := by
  refine ⟨h.1, h.2.imp id ?_⟩
  rintro ⟨g, e, hg, hc⟩
  have k : ∀ j, w'.cell? ⟨g, j, none⟩ = w.cell? ⟨g, j, none⟩ := fun j => (b.mono hB).cell (p := ⟨g, j, none⟩) hg
  exact ⟨g, e, hg, fun i p hp => ⟨(k _).trans (hc i p hp).1, (k _).trans (hc i p hp).2⟩⟩
def propB (out : List (Nat × Int)) : Bool := out.all fun p => p.2 != -1
def cnt (out : List (Nat × Int)) : Nat := (out.filter fun p => 0 ≤ p.2).length
theorem cnt_take {out : List (Nat × Int)} {j : Nat} {p : Nat × Int} (h : out[j]? = some p) : cnt (out.take (j + 1)) = cnt (out.take j) + if 0 ≤ p.2 then 1 else 0 := by
  unfold cnt
  rw [List.take_add_one, h, List.filter_append, List.length_append]
  congr 1
  by_cases h : 0 ≤ p.2 <;> simp [h]
theorem cnt_le (out : List (Nat × Int)) : cnt out ≤ out.length := List.length_filter_le _ _
theorem propB_take {out : List (Nat × Int)} {j : Nat} {p : Nat × Int} (h : out[j]? = some p) : propB (out.take (j + 1)) = (propB (out.take j) && (p.2 != -1)) := by
  unfold propB
  rw [List.take_add_one, h, List.all_append]
  simp
theorem propB_no {out : List (Nat × Int)} {j : Nat} {p : Nat × Int} (h : out[j]? = some p) (hp : p.2 = -1) : propB out = false := by
  unfold propB
  rw [List.all_eq_false]
  exact ⟨p, List.mem_of_getElem? h, by simp [hp]⟩
set_option maxHeartbeats 2000000 in
theorem proper_any {w : World} {B n c : Nat} {A : Option Addr} {E : List Ev} (h : Lg w B A n E) (hB : B ≤ w.heap.size) (hn : n ≤ 1000) (hl : ∀ x ∈ E, x.n ≤ 1073741824) (hok : ∀ x ∈ E, x.ok) :
    Calls Try.prog 19 #[.slice A n c] w fun e w' => e = .returned (.bool (propB (mrun (E.map Ev.m)).out)) ∧ RowKit.Below w.heap.size w w' := by
  have HM := Lib.hid (match_any (c := c) h hB hn hl hok)
  have HLn := Lib.hid (show (mrun (E.map Ev.m)).out.length ≤ 1000 by have := (mrun_lens (E.map Ev.m)).1; have := h.1; simp at *; omega)
  clear h hB hl hok
  generalize (mrun (E.map Ev.m)).out = out at *
  go_enter Try.func19, Try.ntmps19
  go_wp2_with (go_at_call 11; refine HM.out.mono ?_; rintro e w1 ⟨A1, c1, rfl, hg, hb⟩; have HP := Lib.hid (hg.pr rfl); have HB := Lib.hid hb; clear hg hb)
  generalize hm : out.length = m at HP HLn ⊢
  have HMm := Lib.hid hm
  clear hm
  go_loopw [8] (fun i wr => ∃ j, j ≤ m ∧ i = .int .i64 ((j : Nat) : Int) ∧ propB (out.take j) = true ∧ RowKit.Below w1.heap.size w1 wr) (fun i _ => (m - (match i with | .int _ z => z.toNat | _ => 0)))
  case atStart => exact ⟨0, by omega, rfl, rfl, Below.refl _ _⟩
  case round =>
    obtain ⟨j, hjm, rfl, hp, hb⟩ := hrel
    have HBr := Lib.hid hb
    have HPj := Lib.hid hp
    clear hb hp
    by_cases hj : j < m
    · have e1 : (j : Int) < (m : Int) := by omega
      have hml := HLn.out
      obtain ⟨p, hpp⟩ : ∃ p, out[j]? = some p := ⟨_, List.getElem?_eq_getElem (by have := HMm.out; omega)⟩
      have hpr := HP.out.below HBr.out (Nat.le_refl _)
      rcases hpr.2 with h0 | ⟨g, hA, hg, hcl⟩
      · omega
      obtain ⟨d0, d1⟩ := hcl j p hpp
      rw [hA]
      have s0 : wrap64 ((j : Int) + 1) = ((j + 1 : Nat) : Int) := by unfold wrap64; omega
      have HJ := Lib.hid hj
      have HBn := Lib.hid (HBr.out.alloc HBr.out.size (.cells #[.int .i64 (p.1 : Int), .int .i64 p.2] 33))
      have HT := Lib.hid (propB_take hpp)
      have HN := Lib.hid (propB_no hpp)
      clear hcl hpr hpp hg hj
      obtain ⟨p1, p2⟩ := p
      dsimp only at *
      by_cases h1 : p2 = -1
      · have HV := Lib.hid (HN.out h1)
        subst h1
        go_wp2_with fail
        go_ret
        exact ⟨by rw [HV.out]; rfl, bthen HB.out HBn.out (Nat.le_refl _)⟩
      · have h1' : (p2 == -1) = false := by simpa using h1
        have HV := Lib.hid (show propB (out.take (j + 1)) = true by rw [HT.out, HPj.out]; simpa using h1)
        go_wp2_with fail
        exact ⟨⟨j + 1, HJ.out, by go_num, HV.out, HBn.out⟩, by show m - ((j : Int) + 1).toNat < m - (j : Int).toNat; have := HJ.out; omega⟩
    · have e1' : ((j : Int) < (m : Int)) = False := by simp only [eq_iff_iff, iff_false]; omega
      have HV := Lib.hid (show propB out = true by rw [← HPj.out, List.take_of_length_le (by have := HMm.out; omega)])
      go_wp2_with fail
      go_ret
      exact ⟨by rw [HV.out]; rfl, bthen HB.out HBr.out (Nat.le_refl _)⟩
set_option maxHeartbeats 2000000 in
theorem matched_any {w : World} {B n c : Nat} {A : Option Addr} {E : List Ev} (h : Lg w B A n E) (hB : B ≤ w.heap.size) (hn : n ≤ 1000) (hl : ∀ x ∈ E, x.n ≤ 1073741824) (hok : ∀ x ∈ E, x.ok) :
    Calls Try.prog 21 #[.slice A n c] w fun e w' => e = .returned (.int .i64 (cnt (mrun (E.map Ev.m)).out : Nat)) ∧ RowKit.Below w.heap.size w w' := by
  have HO := Lib.hid (own_any (c := c) h hB hn hl)
  have HMa := Lib.hid (fun (W : World) (A' : Option Addr) (c' : Nat) (E' : List Ev) (b : Nat) (hg : Ge W b A' n c' E') (hm : E'.map Ev.m = E.map Ev.m) => (by
    have hel : ∀ x' ∈ E', x'.n ≤ 1073741824 ∧ x'.ok := by
      intro x' hx'
      obtain ⟨i, hi, rfl⟩ := List.getElem_of_mem hx'
      have hi2 : i < E.length := by have := congrArg List.length hm; simp at this; omega
      have e : E'[i].m = E[i].m := by
        have := congrArg (fun l => l[i]?) hm
        simpa [List.getElem?_eq_getElem hi, List.getElem?_eq_getElem hi2] using this
      have l1 := (hg.2.2 _ hx').1.len
      have l2 := (h.2.1 _ (List.getElem_mem hi2)).len
      have k1 := hl _ (List.getElem_mem hi2)
      have k2 := hok _ (List.getElem_mem hi2)
      simp only [Ev.m, Em.mk.injEq] at e
      unfold Ev.ok at k2 ⊢
      rw [e.1, e.2.1, e.2.2.1, e.2.2.2.1]
      refine ⟨?_, k2⟩
      rw [← l1, e.2.2.2.2, l2]; exact k1
    exact hm ▸ match_any (c := c') hg.lg (Nat.le_refl _) hn (fun x hx => (hel x hx).1) (fun x hx => (hel x hx).2) :
      Calls Try.prog 11 #[.slice A' n c'] W fun e w' => ∃ A'' c'', e = .returned (.slice A'' (mrun (E.map Ev.m)).out.length c'') ∧ Gw w' W.heap.size 33 2 A'' (mrun (E.map Ev.m)).out.length c'' (ps (mrun (E.map Ev.m)).out) ∧ RowKit.Below W.heap.size W w'))
  have HLn := Lib.hid (show (mrun (E.map Ev.m)).out.length ≤ 1000 by have := (mrun_lens (E.map Ev.m)).1; have := h.1; simp at *; omega)
  clear h hB hl hok
  generalize (mrun (E.map Ev.m)).out = out at *
  go_enter Try.func21, Try.ntmps21
  go_wp2_with (first
    | (go_at_call 12; refine HO.out.mono ?_
       rintro e w0 ⟨A0, c0, E0, rfl, hg0, hm0, hb0⟩
       have HG0 := Lib.hid hg0
       have HM0 := Lib.hid hm0
       have HB0 := Lib.hid hb0
       clear hg0 hm0 hb0)
    | (go_at_call 11; refine (HMa.out _ _ _ _ _ HG0.out HM0.out).mono ?_
       rintro e w1 ⟨A1, c1, rfl, hg, hb⟩
       have HP := Lib.hid (hg.pr rfl)
       have HB := Lib.hid (bthen HB0.out hb (Nat.le_refl _))
       clear hg hb))
  generalize hm : out.length = m at HP HLn ⊢
  have HMm := Lib.hid hm
  clear hm
  have hml := HLn.out
  go_loop [3, 5] (fun v i => ∃ j, j ≤ m ∧ i = .int .i64 ((j : Nat) : Int) ∧ v = .int .i64 ((cnt (out.take j) : Nat) : Int)) (fun _ i => (m - (match i with | .int _ z => z.toNat | _ => 0)))
  case atStart => exact ⟨0, by omega, rfl, rfl⟩
  case round =>
    obtain ⟨j, hjm, rfl, rfl⟩ := hrel
    have hcl0 : cnt (out.take j) ≤ j := Nat.le_trans (cnt_le _) (by simp; omega)
    by_cases hj : j < m
    · have e1 : (j : Int) < (m : Int) := by omega
      obtain ⟨p, hpp⟩ : ∃ p, out[j]? = some p := ⟨_, List.getElem?_eq_getElem (by have := HMm.out; omega)⟩
      rcases HP.out.2 with h0 | ⟨g, hA, hg, hcl⟩
      · omega
      obtain ⟨d0, d1⟩ := hcl j p hpp
      rw [hA]
      have s0 : wrap64 ((j : Int) + 1) = ((j + 1 : Nat) : Int) := by unfold wrap64; omega
      have s1 : wrap64 ((cnt (out.take j) : Nat) + 1) = ((cnt (out.take j) + 1 : Nat) : Int) := by unfold wrap64; omega
      have HJ := Lib.hid hj
      have HT := Lib.hid (cnt_take hpp)
      clear hcl hpp hg hj
      obtain ⟨p1, p2⟩ := p
      dsimp only at *
      by_cases h1 : 0 ≤ p2
      · have HV := Lib.hid (show cnt (out.take (j + 1)) = cnt (out.take j) + 1 by rw [HT.out, if_pos h1])
        clear hcl0
        generalize cnt (out.take j) = k at *
        go_wp2_with fail
        go_round
        case rel => exact ⟨j + 1, HJ.out, by go_num, by rw [HV.out]; go_num⟩
        case measure => show m - ((j : Int) + 1).toNat < m - (j : Int).toNat; have := HJ.out; omega
      · have h1' : (0 ≤ p2) = False := by simp only [h1]
        have HV := Lib.hid (show cnt (out.take (j + 1)) = cnt (out.take j) by rw [HT.out, if_neg h1]; rfl)
        clear hcl0
        generalize cnt (out.take j) = k at *
        go_wp2_with fail
        go_round
        case rel => exact ⟨j + 1, HJ.out, by go_num, by rw [HV.out]⟩
        case measure => show m - ((j : Int) + 1).toNat < m - (j : Int).toNat; have := HJ.out; omega
    · have e1' : ((j : Int) < (m : Int)) = False := by simp only [eq_iff_iff, iff_false]; omega
      have HV := Lib.hid (show out.take j = out from List.take_of_length_le (by have := HMm.out; omega))
      rw [HV.out]
      go_wp2_with fail
      go_ret
      exact ⟨rfl, HB.out⟩
end Go.Proofs.Ytompggkdjbkjjaa
