/- audit: events, logs of them, which are long. -/
import Derived.Test.YtompggkdjbkjjaaA1
import Derived.Deep.QuietTactic
import Derived.BigQuiet
import Derived.Deep.RegionHeld3
namespace Go.Proofs.Ytompggkdjbkjjaa
open Go.RowKit
set_option linter.unusedVariables false
set_option maxRecDepth 100000
/-- an event as it lies in memory, and the bytes that its row holds -/
structure Ev where
  k : Int
  (h p : Nat)
  at_ : Int
  A : Option Addr
  (n c : Nat)
  xs : List Nat
instance : Inhabited Ev := ⟨⟨0, 0, 0, 0, none, 0, 0, []⟩⟩
abbrev evV (x : Ev) : Value := .agg #[.int .i64 x.k, .int .u32 (x.h : Int), .int .u32 (x.p : Int), .int .i64 x.at_, .slice x.A x.n x.c]
def Ev.cs (x : Ev) : List Value := [.int .i64 x.k, .int .u32 (x.h : Int), .int .u32 (x.p : Int), .int .i64 x.at_, .slice x.A x.n x.c]
/-- its numbers fit -/
def Ev.ok (x : Ev) : Prop := (-9223372036854775808 ≤ x.k ∧ x.k ≤ 9223372036854775807) ∧ x.h < 4294967296 ∧ x.p < 4294967296 ∧ (-9223372036854775808 ≤ x.at_ ∧ x.at_ ≤ 9223372036854775807)
/-- a row of events that can be read -/
def Lg (w : World) (B : Nat) (A : Option Addr) (n : Nat) (E : List Ev) : Prop :=
  E.length = n ∧ (∀ x ∈ E, Nb w B x.A x.n x.c x.xs) ∧ (n = 0 ∨ ∃ g off, A = some ⟨g, off, none⟩ ∧ g < B ∧ ∀ i x, E[i]? = some x →
    w.cell? ⟨g, off + i * 5, none⟩ = some (.int .i64 x.k) ∧ w.cell? ⟨g, off + i * 5 + 1, none⟩ = some (.int .u32 (x.h : Int)) ∧ w.cell? ⟨g, off + i * 5 + 2, none⟩ = some (.int .u32 (x.p : Int)) ∧
    w.cell? ⟨g, off + i * 5 + 3, none⟩ = some (.int .i64 x.at_) ∧ w.cell? ⟨g, off + i * 5 + 4, none⟩ = some (.slice x.A x.n x.c))
theorem Lg.keep {w w' : World} {B n : Nat} {A : Option Addr} {E : List Ev} (h : Lg w B A n E) (hk : ∀ p : Addr, p.block < B → w'.cell? p = w.cell? p) : Lg w' B A n E := by
  refine ⟨h.1, fun x hx => (h.2.1 x hx).keep hk, h.2.2.imp id ?_⟩
  rintro ⟨g, off, rfl, hg, hc⟩
  refine ⟨g, off, rfl, hg, fun i x hx => ?_⟩
  obtain ⟨c0, c1, c2, c3, c4⟩ := hc i x hx
  have e : ∀ j, w'.cell? ⟨g, j, none⟩ = w.cell? ⟨g, j, none⟩ := fun j => hk ⟨g, j, none⟩ hg
  exact ⟨(e _).trans c0, (e _).trans c1, (e _).trans c2, (e _).trans c3, (e _).trans c4⟩
theorem Lg.below {w w' : World} {B C n : Nat} {A : Option Addr} {E : List Ev} (h : Lg w B A n E) (b : RowKit.Below C w w') (hB : B ≤ C) : Lg w' B A n E :=
  h.keep fun p hp => (b.mono hB).cell hp
theorem Lg.more {w : World} {B B' n : Nat} {A : Option Addr} {E : List Ev} (h : Lg w B A n E) (hB : B ≤ B') : Lg w B' A n E :=
  ⟨h.1, fun x hx => (h.2.1 x hx).more hB, h.2.2.imp id fun ⟨g, off, e, hg, hc⟩ => ⟨g, off, e, by omega, hc⟩⟩
theorem Lg.take {w : World} {B n : Nat} {A : Option Addr} {E : List Ev} (h : Lg w B A n E) (k : Nat) (hk : k ≤ n) : Lg w B A k (E.take k) := by
  refine ⟨by simp [h.1]; omega, fun x hx => h.2.1 x (List.mem_of_mem_take hx), ?_⟩
  rcases h.2.2 with h0 | ⟨g, off, e, hg, hc⟩
  · exact .inl (by omega)
  · refine .inr ⟨g, off, e, hg, fun i x hi => hc i x ?_⟩
    rw [List.getElem?_take] at hi
    split at hi
    · exact hi
    · cases hi
/-- how many bytes some events have -/
def tot (E : List Ev) : Nat := (E.map Ev.n).sum
theorem tot_take {E : List Ev} {j : Nat} {x : Ev} (h : E[j]? = some x) : tot (E.take (j + 1)) = tot (E.take j) + x.n := by
  unfold tot
  rw [List.take_add_one, h]; simp
theorem tot_drop (E : List Ev) (j : Nat) : tot E = tot (E.take j) + tot (E.drop j) := by
  unfold tot
  rw [← List.sum_append, ← List.map_append, List.take_append_drop]
/-- has a log more than a statement takes? -/
def longB (E : List Ev) : Bool := decide (50 < E.length) || decide (8000 < tot E)
set_option maxHeartbeats 1000000 in
theorem long_any {w : World} {B n c : Nat} {A : Option Addr} {E : List Ev} (h : Lg w B A n E) (hl : ∀ x ∈ E, x.n ≤ 140737488355328) :
    Calls Try.prog 9 #[.slice A n c] w fun e w' => e = .returned (.bool (longB E)) ∧ w' = w := by
  have hlen : E.length = n := h.1
  have HV := Lib.hid (show longB E = (decide (50 < n) || decide (8000 < tot E)) by unfold longB; rw [hlen])
  have HE := Lib.hid h
  have HL := Lib.hid hl
  have HN := Lib.hid hlen
  clear h hl hlen
  by_cases h50 : 50 < n
  · have e1 : 50 < (n : Int) := by omega
    go_enter Try.func9, Try.ntmps9
    go_wp2_with fail
    go_ret
    exact ⟨by rw [HV.out, decide_eq_true h50]; rfl, rfl⟩
  · have e1 : (50 < (n : Int)) = False := by simp only [eq_iff_iff, iff_false]; omega
    rw [decide_eq_false h50] at HV
    go_enter Try.func9, Try.ntmps9
    go_wp2_with fail
    go_loop [3, 4] (fun v i => ∃ j : Nat, j ≤ n ∧ i = .int .i64 (j : Int) ∧ v = .int .i64 ((tot (E.take j) : Nat) : Int) ∧ tot (E.take j) ≤ 8000) (fun _ i => (n - (match i with | .int _ z => z.toNat | _ => 0)))
    case atStart => exact ⟨0, by omega, rfl, rfl, by simp [tot]⟩
    case round =>
      obtain ⟨j, hjn, rfl, rfl, ht⟩ := hrel
      by_cases hj : j < n
      · have e1 : (j : Int) < (n : Int) := by omega
        obtain ⟨x, hx⟩ : ∃ x, E[j]? = some x := ⟨_, List.getElem?_eq_getElem (by have := HN.out; omega)⟩
        rcases HE.out.2.2 with he3 | ⟨g, off, hA, hg, hcl⟩
        · omega
        obtain ⟨d0, d1, d2, d3, d4⟩ := hcl j x hx
        have hxl := HL.out x (List.mem_of_getElem? hx)
        have HT := Lib.hid (tot_take hx)
        have HD := Lib.hid (tot_drop E (j + 1))
        rw [hA]
        have s0 : wrap64 ((j : Int) + 1) = ((j + 1 : Nat) : Int) := by unfold wrap64; omega
        have s1 : wrap64 ((tot (E.take j) : Nat) + (x.n : Int)) = ((tot (E.take j) + x.n : Nat) : Int) := by unfold wrap64; omega
        have HJ := Lib.hid hj
        have HX := Lib.hid (⟨hjn, ht⟩ : j ≤ n ∧ _)
        clear hcl hx hxl hj hjn
        generalize tot (E.take j) = k at *
        generalize x.n = m at *
        by_cases hk : 8000 < k + m
        · have e2 : 8000 < ((k + m : Nat) : Int) := by omega
          go_wp2_with fail
          go_ret
          refine ⟨?_, rfl⟩
          rw [HV.out, decide_eq_true (by have := HT.out; have := HD.out; omega)]
          rfl
        · have e2 : (8000 < ((k + m : Nat) : Int)) = False := by simp only [eq_iff_iff, iff_false]; omega
          go_wp2_with fail
          go_round
          case rel => exact ⟨j + 1, HJ.out, by go_num, by rw [HT.out]; go_num, by rw [HT.out]; omega⟩
          case measure => show n - ((j : Int) + 1).toNat < n - (j : Int).toNat; have := HJ.out; omega
      · have e1' : ((j : Int) < (n : Int)) = False := by simp only [eq_iff_iff, iff_false]; omega
        have hall : E.take j = E := List.take_of_length_le (by have := HN.out; omega)
        rw [hall] at ht
        go_wp2_with fail
        go_ret
        refine ⟨?_, rfl⟩
        rw [HV.out, decide_eq_false (by omega)]
        rfl
end Go.Proofs.Ytompggkdjbkjjaa
