/- The reference's lists and hops; equal lists; the cases out of reach. -/
import Derived.Test.YtonfpomgkgljiaaDoorK6
namespace Go.Proofs.YtonfpomgkgljiaaDoor
open Go.RowKit Go.Shelf
set_option linter.unusedVariables false
set_option maxRecDepth 100000

theorem nw_far {W w : World} {A : Option Addr} {n c : Nat} {xs : List Nat} (h : Nw W W.heap.size A n c xs) (B : Below W.heap.size W w) : Nw w w.heap.size A n c xs := (h.below B).more B.size
theorem gw_below {w w' : World} {base n c : Nat} {A : Option Addr} {xs : List Nat} (h : Gw w base A n c xs) (b : Below w.heap.size w w') : Gw w' base A n c xs := by
  refine ⟨h.1, h.2.1, ?_⟩
  rcases h.2.2 with h' | ⟨g, cap, cur, e, hg, hh, hr⟩
  · exact Or.inl h'
  · exact Or.inr ⟨g, cap, cur, e, hg, (b.block g (Array.getElem?_eq_some_iff.1 hh).1).trans hh, hr⟩
set_option maxHeartbeats 1000000 in
theorem rlist_any {w : World} (a b c d n : Nat) (ha : a < 4294967296) (hb : b < 4294967296) (hc : c < 4294967296) (hd : d < 4294967296) (h1 : 1 ≤ n) (h2 : n ≤ 256) :
    Calls Tryd.prog 19 #[.int .u32 (a : Int), .int .u32 (b : Int), .int .u32 (c : Int), .int .u32 (d : Int), .int .i64 (n : Int)] w fun e w' => ∃ A' c', e = .returned (.tuple #[.slice A' n c', .int .i64 0]) ∧ Nw w' w'.heap.size A' n c' (lst a b d c n) ∧ Below w.heap.size w w' := by
  have gn := Gw.nil w w.heap.size
  have Hn := Lib.hid (fun (w' : World) (id : Nat) (hid : id < 4294967296) => rnext_any (w := w') a b id d ha hb hid hd)
  have Hlim := Lib.hid (hop_lim a b d c hc)
  have Hs := Lib.hid (lst_succ a b d c)
  have HL := Lib.hid (lst_lim a b d c n hc)
  have Hh := Lib.hid (show ∀ k, nxt a b d (hop a b d c k) = hop a b d c (k + 1) from fun k => rfl)
  have h0 : hop a b d c 0 = c := rfl
  have hl0 : lst a b d c 0 = [] := rfl
  clear ha hb hc hd
  go_enter Tryd.func19, Tryd.ntmps19
  go_wp2
  go_loopw [13, 12, 2] (fun i v x wr => ∃ k : Nat, k ≤ n ∧ i = .int .i64 (k : Int) ∧ x = .int .u32 ((hop a b d c k : Nat) : Int) ∧ ∃ A cc, v = .slice A k cc ∧ Gw wr w.heap.size A k cc (lst a b d c k) ∧ Below w.heap.size w wr) (fun i _ _ _ => n - (intOf i).toNat)
  case atStart => exact ⟨0, by omega, rfl, by rw [h0], none, 0, rfl, by rw [hl0]; exact gn, Below.refl _ _⟩
  case round =>
    obtain ⟨k, hk, rfl, rfl, A5, c5, rfl, hG, hB⟩ := hrel
    have hs := hB.size
    by_cases hlt : k < n
    · have hl := Hlim.out k
      have Hs1 := Lib.hid (Hs.out k)
      have Hh1 := Lib.hid (Hh.out k)
      generalize hop a b d c k = y at *
      have hG' := hG.alloc (.cells #[.int .u32 (y : Int)] 22)
      have hB' := hB.alloc hs (.cells #[.int .u32 (y : Int)] 22)
      have hcc := cell_new wr (.int .u32 (y : Int)) 22
      go_wp2_with (refine wpList_app_w _ rfl (.tmp 25) (.tmp 27) rfl rfl hG' rfl hcc (by omega) hB' (by simp; omega) ?_; intro A7 c7 w7 hG7 hB7)
      refine (Hn.out w7 y hl).mono ?_
      rintro e w8 ⟨rfl, b8⟩
      have hG8 := gw_below hG7 b8
      have hB8 := then_ hB7 b8
      rw [Hh1.out]
      clear hG' hB' hcc hG7 hB7 b8
      go_wp2
      go_roundw
      case rel => exact ⟨k + 1, by omega, by go_num, rfl, A7, c7, rfl, by rw [Hs1.out]; exact hG8, hB8⟩
      case measure => simp [intOf]; omega
    · have e : k = n := by omega
      subst e
      have HNb := Lib.hid (hG.nw HL.out)
      clear hG hlt
      go_wp2
      go_ret2
      exact ⟨_, _, rfl, HNb.out, hB⟩
theorem list_out (a b c d : Nat) (n : Int) (h : n < 1 ∨ 256 < n) (w : World) : Calls Tryd.prog 18 #[.int .u32 (a : Int), .int .u32 (b : Int), .int .u32 (c : Int), .int .u32 (d : Int), .int .i64 n] w fun e w' => e = .returned (.tuple #[.slice none 0 0, .int .i64 1]) ∧ w = w' := by
  by_cases h1 : n < 1
  · go_enter Tryd.func18, Tryd.ntmps18
    go_wp2
    go_ret2
    exact ⟨rfl, rfl⟩
  · have h2 : 256 < n := by omega
    go_enter Tryd.func18, Tryd.ntmps18
    go_wp2
    go_ret2
    exact ⟨rfl, rfl⟩
theorem rlist_out (a b c d : Nat) (n : Int) (h : n < 1 ∨ 256 < n) (w : World) : Calls Tryd.prog 19 #[.int .u32 (a : Int), .int .u32 (b : Int), .int .u32 (c : Int), .int .u32 (d : Int), .int .i64 n] w fun e w' => e = .returned (.tuple #[.slice none 0 0, .int .i64 1]) ∧ w = w' := by
  by_cases h1 : n < 1
  · go_enter Tryd.func19, Tryd.ntmps19
    go_wp2
    go_ret2
    exact ⟨rfl, rfl⟩
  · have h2 : 256 < n := by omega
    go_enter Tryd.func19, Tryd.ntmps19
    go_wp2
    go_ret2
    exact ⟨rfl, rfl⟩
/-- the fewest hops that lead there, or none -/
def HopIs (a b d id last most : Nat) (e : Ending) : Prop :=
  (∃ k : Nat, k ≤ most ∧ (∀ j, j < k → hop a b d id j ≠ last) ∧ hop a b d id k = last ∧ e = .returned (.tuple #[.int .i64 (k : Int), .int .i64 0])) ∨
  ((∀ j, j ≤ most → hop a b d id j ≠ last) ∧ e = .returned (.tuple #[.int .i64 0, .int .i64 110]))
theorem HopIs.one {a b d id last most : Nat} {e e' : Ending} (h : HopIs a b d id last most e) (h' : HopIs a b d id last most e') : e = e' := by
  rcases h with ⟨k, h1, h2, h3, rfl⟩ | ⟨h1, rfl⟩
  · rcases h' with ⟨k', h1', h2', h3', rfl⟩ | ⟨h1', rfl⟩
    · have : k = k' := by
        rcases Nat.lt_trichotomy k k' with h | h | h
        · exact absurd h3 (h2' k h)
        · exact h
        · exact absurd h3' (h2 k' h)
      rw [this]
    · exact absurd h3 (h1' k h1)
  · rcases h' with ⟨k', h1', h2', h3', rfl⟩ | ⟨h1', rfl⟩
    · exact absurd h3' (h1 k' h1')
    · rfl
set_option maxHeartbeats 1000000 in
theorem rhops_any {w : World} (a b c d l m : Nat) (ha : a < 4294967296) (hb : b < 4294967296) (hc : c < 4294967296) (hd : d < 4294967296) (h2 : m ≤ 256) :
    Calls Tryd.prog 21 #[.int .u32 (a : Int), .int .u32 (b : Int), .int .u32 (c : Int), .int .u32 (d : Int), .int .u32 (l : Int), .int .i64 (m : Int)] w fun e w' => HopIs a b d c l m e ∧ Below w.heap.size w w' := by
  have Hn := Lib.hid (fun (w' : World) (id : Nat) (hid : id < 4294967296) => rnext_any (w := w') a b id d ha hb hid hd)
  have Hlim := Lib.hid (hop_lim a b d c hc)
  have Hh := Lib.hid (show ∀ k, nxt a b d (hop a b d c k) = hop a b d c (k + 1) from fun k => rfl)
  have h0 : hop a b d c 0 = c := rfl
  have HH := Lib.hid (show ∀ e, HopIs a b d c l m e ↔ _ from fun e => Iff.rfl)
  clear ha hb hc hd
  go_enter Tryd.func21, Tryd.ntmps21
  go_wp2
  go_loopw [14, 2] (fun i x wr => ∃ k : Nat, k ≤ m + 1 ∧ i = .int .i64 (k : Int) ∧ x = .int .u32 ((hop a b d c k : Nat) : Int) ∧ Hid (∀ j, j < k → hop a b d c j ≠ l) ∧ Below w.heap.size w wr) (fun i _ _ => m + 1 - (intOf i).toNat)
  case atStart => exact ⟨0, by omega, rfl, by rw [h0], Lib.hid (fun j hj => absurd hj (Nat.not_lt_zero _)), Below.refl _ _⟩
  case round =>
    obtain ⟨k, hk, rfl, rfl, Hno, hB⟩ := hrel
    have hs := hB.size
    by_cases hlt : k ≤ m
    · have hl := Hlim.out k
      have Hh1 := Lib.hid (Hh.out k)
      by_cases he : hop a b d c k = l
      · have Hend := Lib.hid (show HopIs a b d c l m (.returned (.tuple #[.int .i64 (k : Int), .int .i64 0])) from Or.inl ⟨k, hlt, Hno.out, he, rfl⟩)
        clear HH
        rw [he]
        clear he
        go_wp2
        go_ret2
        exact ⟨Hend.out, hB⟩
      · have he' : ¬ ((hop a b d c k : Nat) : Int) = (l : Int) := by omega
        have Hno' := Lib.hid (show ∀ j, j < k + 1 → hop a b d c j ≠ l from fun j hj => by
          rcases Nat.lt_or_ge j k with h | h
          · exact Hno.out j h
          · rw [show j = k by omega]; exact he)
        generalize hop a b d c k = y at *
        clear he HH
        go_wp2_with fail
        refine (Hn.out wr y hl).mono ?_
        rintro e w8 ⟨rfl, b8⟩
        have hB8 := then_ hB b8
        rw [Hh1.out]
        clear b8
        go_wp2
        go_roundw
        case rel => exact ⟨k + 1, by omega, by go_num, rfl, Hno', hB8⟩
        case measure => simp [intOf]; omega
    · have Hend := Lib.hid (show HopIs a b d c l m (.returned (.tuple #[.int .i64 0, .int .i64 110])) from Or.inr ⟨fun j hj => Hno.out j (by omega), rfl⟩)
      clear HH
      go_wp2
      go_ret2
      exact ⟨Hend.out, hB⟩
theorem rhops_out (a b c d l : Nat) (n : Int) (h : n < 0 ∨ 256 < n) (w : World) : Calls Tryd.prog 21 #[.int .u32 (a : Int), .int .u32 (b : Int), .int .u32 (c : Int), .int .u32 (d : Int), .int .u32 (l : Int), .int .i64 n] w fun e w' => e = .returned (.tuple #[.int .i64 0, .int .i64 1]) ∧ w = w' := by
  by_cases h1 : n < 0
  · go_enter Tryd.func21, Tryd.ntmps21
    go_wp2
    go_ret2
    exact ⟨rfl, rfl⟩
  · have h2 : 256 < n := by omega
    go_enter Tryd.func21, Tryd.ntmps21
    go_wp2
    go_ret2
    exact ⟨rfl, rfl⟩
set_option maxHeartbeats 1000000 in
theorem same_any {w : World} {B n c n2 c2 : Nat} {A A2 : Option Addr} {xs : List Nat} (hx : Nw w B A n c xs) (hy : Nw w B A2 n2 c2 xs) :
    Calls Tryd.prog 22 #[.slice A n c, .slice A2 n2 c2] w fun e w' => e = .returned (.bool true) ∧ ∃ q, w' = w.drewN q := by
  have hr := hx.room
  have hcp := hx.cap
  have e2 : n2 = n := by rw [← hx.len, ← hy.len]
  subst e2
  have hr2 := hy.room
  have hcp2 := hy.cap
  have Hx := Lib.hid hx
  have Hy := Lib.hid hy
  clear hx hy
  go_enter Tryd.func22, Tryd.ntmps22
  go_wp2
  go_loopw [5] (fun i wr => ∃ k : Nat, k ≤ n2 ∧ i = .int .i64 (k : Int) ∧ ∃ q, wr = w.drewN q) (fun i _ => n2 - (intOf i).toNat)
  case atStart => exact ⟨0, by omega, rfl, 0, rfl⟩
  case round =>
    obtain ⟨k, hk, rfl, q, rfl⟩ := hrel
    by_cases hlt : k < n2
    · obtain ⟨b1, o1, rfl, _, hc1⟩ := Hx.out.at_ hlt
      obtain ⟨b2, o2, rfl, _, hc2⟩ := Hy.out.at_ hlt
      have hc1' : (w.drewN q).cell? ⟨b1, o1 + k, none⟩ = some (.int .u32 ((xs.getD k 0 : Nat) : Int)) := hc1
      have hc2' : (w.drewN q).cell? ⟨b2, o2 + k, none⟩ = some (.int .u32 ((xs.getD k 0 : Nat) : Int)) := hc2
      generalize xs.getD k 0 = y at *
      go_wp2
      go_quiet (fail)
      go_wp2
      go_roundw
      case rel => exact ⟨k + 1, by omega, by go_num, _, rfl⟩
      case measure => simp [intOf]; omega
    · go_wp2
      go_ret
      exact ⟨rfl, _, rfl⟩
end Go.Proofs.YtonfpomgkgljiaaDoor
