/- sha.part, sha.wholeBytes, bytes.Clone, sha.leftOver. -/
import Derived.Test.YtafpnpfiefbddaaDoorDig
import Derived.Deep.RegionLawGrows
namespace Go.Proofs.YtafpnpfiefbddaaDoor
set_option linter.unusedSimpArgs false
set_option linter.unusedVariables false
open Go.RowKit
set_option linter.unusedVariables false
set_option maxRecDepth 100000

theorem whole_any (A A2 : Option Addr) (n c m c2 : Nat) (hn : n ≤ 140737488351232) (hm : m ≤ 140737488351232) (w : World) :
    Calls Tryd.prog 64 #[.slice A n c, .slice A2 m c2] w fun e w' => e = .returned (.int .i64 ((64 * ((n + m) / 64) : Nat) : Int)) ∧ w = w' := by
  have e : ((n : Int) + (m : Int)) / 64 * 64 = ((64 * ((n + m) / 64) : Nat) : Int) := by omega
  have E := Lib.hid e
  clear e
  go_enter Tryd.func64, Tryd.ntmps64
  go_wp2
  go_ret
  rw [E.out]
  exact ⟨rfl, rfl⟩

/-- what a part is -/
def PartIs (zs : List Nat) (f k : Nat) (w : World) (e : Ending) (w' : World) : Prop := ∃ A' c', e = .returned (.slice A' k c') ∧ Nb w' w'.heap.size A' k c' ((zs.drop f).take k) ∧ Below w.heap.size w w'

theorem nb_zero (w : World) (B : Nat) (A : Option Addr) (zs : List Nat) : Nb w B A 0 0 (zs.take 0) := by rw [List.take_zero]; exact Nb.nil w B 0 (by omega) A
theorem part1 {w : World} {A A2 : Option Addr} {n c m c2 : Nat} {xs : List Nat} (h : Nb w w.heap.size A n c xs) (hm : m ≤ 140737488351232) (ys : List Nat) (f k : Nat) (hk : f + k ≤ n) :
    Calls Tryd.prog 63 #[.slice A n c, .slice A2 m c2, .int .i64 (f : Int), .int .i64 ((f + k : Nat) : Int)] w (PartIs (xs ++ ys) f k w) := by
  have hc := h.cap
  have hr := h.room
  have e : ((xs ++ ys).drop f).take k = (xs.drop f).take k := by
    rw [List.drop_append_of_le_length (by rw [h.len]; omega), List.take_append_of_le_length (by rw [List.length_drop, h.len]; omega)]
  have E := Lib.hid e
  clear e
  by_cases h0 : k = 0
  · subst h0
    go_enter Tryd.func63, Tryd.ntmps63
    go_wp2
    go_ret
    exact ⟨_, _, rfl, nb_zero _ _ _ _, Below.refl _ _⟩
  · obtain ⟨b, off, rfl, hb, -⟩ := h.cell (by omega)
    have hne : ¬ f + k = f := by omega
    go_enter Tryd.func63, Tryd.ntmps63
    go_wp2
    go_ret
    refine ⟨some ⟨b, off + f, none⟩, k, ?_, ?_, Below.refl _ _⟩
    · show Ending.returned (Value.slice _ (f + k - f) (f + k - f)) = _
      rw [show f + k - f = k by omega]
    · rw [E.out]
      exact h.part rfl f k k (by omega) (Nat.le_refl _) (by omega)
theorem part2 {w : World} {A A2 : Option Addr} {n c m c2 : Nat} {xs ys : List Nat} (hl : xs.length = n) (hn : n ≤ 1099511627776) (h : Nb w w.heap.size A2 m c2 ys) (f k : Nat) (h0 : 0 < k) (hk : f + k ≤ m) :
    Calls Tryd.prog 63 #[.slice A n c, .slice A2 m c2, .int .i64 ((n + f : Nat) : Int), .int .i64 ((n + f + k : Nat) : Int)] w (PartIs (xs ++ ys) (n + f) k w) := by
  have hc := h.cap
  have hr := h.room
  have e : ((xs ++ ys).drop (n + f)).take k = (ys.drop f).take k := by
    rw [← hl, List.drop_append, List.drop_eq_nil_of_le (by omega), List.nil_append, Nat.add_sub_cancel_left]
  have E := Lib.hid e
  clear e hl
  obtain ⟨b, off, rfl, hb, -⟩ := h.cell (by omega)
  have hne : ¬ f + k = f := by omega
  have e1 : IntKind.i64.wrap ((n : Int) + (f : Int) - (n : Int)) = (f : Int) := (IntWalk.i64_in _ (by omega)).trans (by omega)
  have e2 : IntKind.i64.wrap ((n : Int) + (f : Int) + (k : Int) - (n : Int)) = (f : Int) + (k : Int) := (IntWalk.i64_in _ (by omega)).trans (by omega)
  go_enter Tryd.func63, Tryd.ntmps63
  go_wp2
  go_ret
  refine ⟨some ⟨b, off + f, none⟩, k, ?_, ?_, Below.refl _ _⟩
  · show Ending.returned (Value.slice _ (f + k - f) (f + k - f)) = _
    rw [show f + k - f = k by omega]
  · rw [E.out]
    exact h.part rfl f k k (by omega) (Nat.le_refl _) (by omega)
theorem ownsRow_nb {w : World} {base n : Nat} {v : Value} {xs : List Nat} (hl : xs.length = n) (hL : Lim 256 xs) (h : w.ownsRow base 5 1 v n (bs xs)) : ∃ A c, v = .slice A n c ∧ Nb w w.heap.size A n c xs := by
  rcases h.2 with ⟨rfl, he⟩ | ⟨g, cap, cur, rfl, hg, hheap, hnc, hcm, hcs, hx⟩
  · subst he
    exact ⟨_, _, rfl, hl, Nat.zero_le _, Nat.zero_le _, hL, fun h => absurd h (Nat.lt_irrefl _)⟩
  · refine ⟨_, _, rfl, hl, hnc, hcm, hL, fun h0 => ⟨g, 0, rfl, ?_, fun j x hj => ?_⟩⟩
    · rcases Nat.lt_or_ge g w.heap.size with hlt | hge
      · exact hlt
      · rw [Array.getElem?_eq_none hge] at hheap; cases hheap
    · rw [cell_of_row w g _ cur 5 (0, 0) hheap, Nat.zero_add]
      have : (List.take (n * 1) cur.toList)[j]? = some (.int .u8 (x : Int)) := by rw [hx]; simp [bs, hj]
      rw [List.getElem?_take] at this
      split at this
      · simpa using this
      · cases this
theorem Nb.olds {w : World} {B n c : Nat} {ad : Addr} {xs : List Nat} (h : Nb w B (some ad) n c xs) : ∀ j u, (bs xs)[j]? = some u → w.cell? (ad.add j) = some u := by
  intro j u hj
  simp only [bs, List.getElem?_map, Option.map_eq_some_iff] at hj
  obtain ⟨y, hy, rfl⟩ := hj
  have hjn : j < n := by
    rw [← h.len]
    rcases Nat.lt_or_ge j xs.length with h' | h'
    · exact h'
    · rw [List.getElem?_eq_none h'] at hy; cases hy
  obtain ⟨b, off, e, _, hc⟩ := h.cell (by omega)
  cases e
  by_cases hj0 : j = 0
  · subst hj0; simpa [Addr.add] using hc 0 y hy
  · simpa [Addr.add, hj0] using hc j y hy
theorem grown_below {B : Nat} {w w' : World} (h : w.grownBy w' none) : Below w.heap.size w w' := ⟨h.os, h.tape, h.output, h.size, fun i hi => h.block i hi (by simp)⟩
set_option maxHeartbeats 1000000 in
theorem part3 {w : World} {A A2 : Option Addr} {n c m c2 : Nat} {xs ys : List Nat} (h : Nb w w.heap.size A n c xs) (h2 : Nb w w.heap.size A2 m c2 ys) (f k k2 : Nat) (hf : f < n) (h0 : 0 < k2) (hk : k2 ≤ m) (hs : n + m ≤ 1099511627776) :
    Calls Tryd.prog 63 #[.slice A n c, .slice A2 m c2, .int .i64 (f : Int), .int .i64 ((n + k2 : Nat) : Int)] w (PartIs (xs ++ ys) f (n + k2 - f) w) := by
  have hc := h.cap
  have hr := h.room
  have hc2 := h2.cap
  have hr2 := h2.room
  have hl := Lib.hid h.len
  obtain ⟨b, off, rfl, hb, -⟩ := h.cell (by omega)
  obtain ⟨b2, off2, rfl, hb2, -⟩ := h2.cell (by omega)
  have e2 : IntKind.i64.wrap ((n : Int) + (k2 : Int) - (n : Int)) = (k2 : Int) := (IntWalk.i64_in _ (by omega)).trans (by omega)
  have hn : ¬ n = f := by omega
  have h1 : Nb w w.heap.size (some ⟨b, off + f, none⟩) (n - f) (n - f) (xs.drop f) := by
    have := h.part rfl f (n - f) (n - f) (by omega) (Nat.le_refl _) (by omega)
    rwa [List.take_of_length_le (by rw [List.length_drop, h.len]; omega)] at this
  go_enter Tryd.func63, Tryd.ntmps63
  go_wp2
  have ho : ∀ b', some (⟨b, off + f, none⟩ : Addr) = some b' → ∀ j u, (bs (xs.drop f))[j]? = some u → w.drew.cell? (b'.add j) = some u := by
    intro b' e; cases e; exact h1.olds
  have hs2 : ∀ j u, (bs (ys.take k2))[j]? = some u → w.drew.cell? ((⟨b2, off2, none⟩ : Addr).add j) = some u := by
    have h3 : Nb w w.heap.size (some ⟨b2, off2, none⟩) k2 c2 (ys.take k2) := by
      have := h2.part rfl 0 k2 c2 (by omega) (by omega) hr2
      simpa using this
    exact h3.olds
  have hlo : (bs (xs.drop f)).length = (n - f) * 1 := by rw [length_bs, h1.len, Nat.mul_one]
  have hln : (bs (ys.take k2)).length = k2 * 1 := by rw [length_bs, List.length_take, h2.len, Nat.mul_one]; omega
  have hfin : ∀ v' w', w'.ownsRow w.drew.heap.size 5 1 v' (n - f + k2) (bs (xs.drop f) ++ bs (ys.take k2)) → w.drew.grownBy w' none → PartIs (xs ++ ys) f (n + k2 - f) w (.returned v') w' := by
    intro v' w' hown hgrow
    rw [show bs (xs.drop f) ++ bs (ys.take k2) = bs (xs.drop f ++ ys.take k2) by simp [bs]] at hown
    obtain ⟨A', c', rfl, hnb⟩ := ownsRow_nb (by simpa [bs] using (show (xs.drop f ++ ys.take k2).length = n - f + k2 by rw [List.length_append, h1.len, ← length_bs (ys.take k2), hln, Nat.mul_one])) ((h.lim.drop f).append (h2.lim.take k2)) hown
    have ek : n + k2 - f = n - f + k2 := by omega
    refine ⟨A', c', by rw [ek], ?_, ?_⟩
    · have e : ((xs ++ ys).drop f).take (n + k2 - f) = xs.drop f ++ ys.take k2 := by
        rw [List.drop_append_of_le_length (by rw [hl.out]; omega), List.take_append, List.take_of_length_le (by rw [h1.len]; omega), h1.len, show n + k2 - f - (n - f) = k2 by omega]
      rw [e, ek]; exact hnb
    · exact ⟨hgrow.os, hgrow.tape, hgrow.output, hgrow.size, fun i hi => hgrow.block i hi (by simp)⟩
  have Ho := Lib.hid ho
  have Hs2 := Lib.hid hs2
  have Hlo := Lib.hid hlo
  have Hln := Lib.hid hln
  have Hfin := Lib.hid hfin
  clear ho hs2 hlo hln hfin h1 h h2 hl
  generalize bs (xs.drop f) = O at *
  have HN1 := Lib.hid (bs_one (ys.take k2))
  generalize bs (ys.take k2) = N at *
  obtain ⟨i0, hi, hz0, hz1, hz2⟩ := info_parts Tryd.info5
  have q1 : f ≤ n := by omega
  have q2 : k2 ≤ c2 := by omega
  go_region_law (refine step_append_grows rfl (.tmp 38) (.tmp 43) 25 rfl 5 i0 (.int .u8 0) 1 1 Tryd.underlying25 hi hz0 hz1 hz2 rfl (by decide) (some ⟨b, off + f, none⟩) (n - f) (n - f) O (by simp [Act.eval, Act.put]) (fun e => by cases e) Hlo.out Ho.out ⟨b2, off2, none⟩ k2 c2 N (by simp [Act.eval, Act.put]) Hln.out Hs2.out HN1.out (by omega) (by unfold maxLen; omega) (by omega) ?_; intro v' w' hown hgrow)
  all_goals go_wp2
  go_ret
  exact Hfin.out _ _ hown hgrow
end Go.Proofs.YtafpnpfiefbddaaDoor
