/- make, copy and what a call hands back: a new row without noughts at its end, of a known value. -/
import Derived.Test.YtddpgckbdccldaaOwn
namespace Go.Proofs.Ytddpgckbdccldaa
set_option linter.unusedSimpArgs false
set_option linter.unusedVariables false
open Go.RowKit

theorem Try.info66 : (Try.prog.info? 66).map (fun i => (i.zero, i.size, i.bytes)) = some (some (.int .u64 0), 1, 8) := by kernel_rfl

theorem us_replicate (n : Nat) : (us (List.replicate n 0)) = List.replicate n (.int .u64 0) := by simp [us]

theorem run_make_us (n : Nat) (hn : n ≤ 8796093022208) (w : World) : (Instr.makeSlice 33 (.int .i64 (n : Int)) (.int .i64 (n : Int))).run Try.prog w =
    .ok (.slice (some ⟨w.heap.size, 0, none⟩) n n) (w.alloc (.cells (us (List.replicate n 0)).toArray 66)) := by
  obtain ⟨i0, hi, hz0, hz1, hz2⟩ := info_parts Try.info66
  have hr := run_make (P := Try.prog) w 33 66 i0 (.int .u64 0) Try.underlying33 hi hz0 .i64 .i64 n n (by omega) (Int.le_refl _) (by rw [hz2]; omega) (by omega)
  simp only [Int.toNat_natCast] at hr
  rw [hr, hz1, Nat.mul_one]
  have : (madeCells (Value.int .u64 0).cells n) = (us (List.replicate n 0)).toArray := by
    rw [us_replicate]
    apply Array.ext'
    exact toList_madeCells_one _ _
  rw [this]

theorem wpList_make_us (w : World) {ops : Array Oper} {rest : List Oper} {o : Oper} {a : Act} {Q : Exit → Act → World → Prop}
    (hg : o.guard = none) (l c : Operand) (hop : o.op = Op.makeSlice 33 l c) (L C : Int) (n : Nat) (hl : a.eval l = .int .i64 L) (hc : a.eval c = .int .i64 C) (hL : L = (n : Int)) (hC : C = (n : Int)) (hn : n ≤ 8796093022208)
    (hK : ∀ w', Ow w' w.heap.size (List.replicate n 0) → w.grownBy w' none → wpList Try.prog ops Q rest (a.put o.dst (.slice (some ⟨w.heap.size, 0, none⟩) n n)) w') :
    wpList Try.prog ops Q (o :: rest) a w := by
  refine wpList_plain hg fun K hK' => ?_
  have hrun := run_make_us n hn w
  subst hL
  subst hC
  unfold Oper.wp
  simp [execOp, hop, hl, hc, hrun, Result.andThen]
  exact hK' _ _ (hK _ (heap_alloc_new w _) (World.grownBy_alloc w _ none))

theorem us_append (xs ys : List Nat) : us (xs ++ ys) = us xs ++ us ys := by simp [us]
theorem us_drop (xs : List Nat) (k : Nat) : us (xs.drop k) = (us xs).drop k := by simp [us]
theorem us_one (xs : List Nat) : ∀ v ∈ us xs, v.oneCell' = true := by
  intro v hv
  simp only [us, List.mem_map] at hv
  obtain ⟨x, _, rfl⟩ := hv
  rfl

theorem wpList_copy_us {w : World} {ops : Array Oper} {rest : List Oper} {o : Oper} {a : Act} {Q : Exit → Act → World → Prop} (hgd : o.guard = none) (d s : Operand)
    (ho : o.op = .call { callee := .builtin .copy, args := #[d, s], argTypes := #[33, 33] }) {g N dc n c B : Nat} {A : Option Addr} {cur xs : List Nat} (hd : a.eval d = .slice (some ⟨g, 0, none⟩) N dc) (hs : a.eval s = .slice A n c)
    (hw : Ow w g cur) (hN : cur.length = N) (hx : Nt w B A n c xs) (hn : n ≤ N)
    (h : ∀ w', Ow w' g (xs ++ cur.drop n) → w.grownBy w' (some g) → wpList Try.prog ops Q rest (a.put o.dst (goInt n)) w') :
    wpList Try.prog ops Q (o :: rest) a w := by
  have hsz : (Try.prog.info? 66).map (·.size) = some 1 := by kernel_rfl
  by_cases h0 : n = 0
  · subst h0
    refine wpList_copy_nothing hgd d s 33 33 ho 66 Try.underlying33 hsz _ _ _ _ _ _ hd hs (Nat.zero_min _) ?_
    have e : xs = [] := List.eq_nil_of_length_eq_zero hx.len
    exact h w (by simpa [e] using hw) (World.grownBy.refl w _)
  · obtain ⟨b, off, rfl, hb, hc⟩ := hx.cell (by omega)
    have hul : (us xs).length = n := by simp [us, hx.len]
    refine wpList_copy_own hgd d s 33 33 ho 66 Try.underlying33 hsz g 0 N dc ⟨b, off, none⟩ n c hd hs (us cur).toArray 66 hw (us xs) (by rw [hul]; exact (Nat.min_eq_left hn).symm) ?_ (by simp [us, hx.len, hN, hn]) (us_one xs) ?_
    · intro j v hv
      simp only [us, List.getElem?_map, Option.map_eq_some_iff] at hv
      obtain ⟨x, hx, rfl⟩ := hv
      by_cases hj : j = 0
      · subst hj; simpa [Addr.add] using hc 0 x hx
      · simpa [Addr.add, hj] using hc j x hx
    · rw [hul]
      refine h _ ?_ ⟨rfl, rfl, rfl, by simp [World.setRow], fun k hk hne => setRow_other w g k _ (by intro e; subst e; exact hne rfl)⟩
      have := setRow_heap w g (us cur).toArray (us (xs ++ cur.drop n)).toArray 66 (0, 0) hw
      rw [us_append, us_drop] at this
      simpa [Ow, us_append, us_drop, hul] using this

/-- what a call hands back -/
structure Res (w w' : World) (N : Nat) (A : Option Addr) (n c : Nat) (xs : List Nat) : Prop where
  nt : Nt w' w'.heap.size A n c xs
  trm : Trm xs
  is : val 18446744073709551616 xs = N
  fresh : 0 < n → ∃ g cur, A = some ⟨g, 0, none⟩ ∧ w.heap.size ≤ g ∧ Ow w' g cur ∧ cur.take n = xs
  bel : Below w.heap.size w w'
def Ret (N : Nat) (w : World) (e : Ending) (w' : World) : Prop := ∃ A n c xs, e = .returned (.slice A n c) ∧ Res w w' N A n c xs

theorem trm_nil : Trm [] := fun ys x e => by simp at e
theorem Res.nil {w : World} {N : Nat} (hN : N = 0) : Res w w N none 0 0 [] :=
  ⟨⟨rfl, Nat.le_refl _, Nat.zero_le _, Lim.nil _, fun h => absurd h (Nat.lt_irrefl _)⟩, trm_nil, hN.symm, fun h => absurd h (Nat.lt_irrefl _), Below.refl _ _⟩
/-- the row that is left when the noughts at the end of a new block are cut -/
theorem Res.cut {w w' : World} {g : Nat} {cur : List Nat} (h : Ow w' g cur) (hg : w.heap.size ≤ g) (hb : Below w.heap.size w w') (hl : cur.length ≤ maxLen) (hL : Lim 18446744073709551616 cur) {N : Nat} (hv : val 18446744073709551616 cur = N) :
    Res w w' N (some ⟨g, 0, none⟩) (tl cur cur.length) (tl cur cur.length) (cutL cur) := by
  have hn := h.nt hl hL (tl_le cur cur.length)
  exact ⟨⟨hn.len, Nat.le_refl _, Nat.le_trans (tl_le _ _) hl, hn.lim, (hn.more h.lt).cell⟩, trm_cutL cur, by rw [val_cutL]; exact hv, fun _ => ⟨g, cur, rfl, hg, h, rfl⟩, hb⟩
theorem Ow.whole {w : World} {g n : Nat} {xs : List Nat} (h : Ow w g xs) (hl : xs.length ≤ maxLen) (hx : Lim 18446744073709551616 xs) (hn : n = xs.length) : Nt w (g + 1) (some ⟨g, 0, none⟩) n n xs := by
  subst hn
  have := h.nt hl hx (Nat.le_refl _)
  rwa [List.take_length] at this

theorem Res.whole {w w' : World} {g n : Nat} {cur : List Nat} (h : Ow w' g cur) (hg : w.heap.size ≤ g) (hb : Below w.heap.size w w') (hl : cur.length ≤ maxLen) (hL : Lim 18446744073709551616 cur) (hn : n = cur.length) (ht : Trm cur) {N : Nat} (hv : val 18446744073709551616 cur = N) :
    Res w w' N (some ⟨g, 0, none⟩) n n cur := by
  have hw := h.whole hl hL hn
  exact ⟨hw.more h.lt, ht, hv, fun _ => ⟨g, cur, rfl, hg, h, by rw [hn, List.take_length]⟩, hb⟩

/-- 'cut' in one word -/
theorem cut_nt {w : World} {B : Nat} {A : Option Addr} {n c : Nat} {xs : List Nat} (h : Nt w B A n c xs) :
    Calls Try.prog 60 #[.slice A n c] w fun e w' => ∃ m, e = .returned (.slice A m m) ∧ w = w' ∧ m ≤ n ∧ Nt w B A m m (cutL xs) :=
  (cut_any h).mono fun e w' ⟨he, hw⟩ => ⟨tl xs n, he, hw, tl_le _ _, by
    have hl := h.len
    have ht := tl_le xs n
    exact ⟨by rw [length_cutL, hl], Nat.le_refl _, Nat.le_trans ht (Nat.le_trans h.cap h.room), lim_cutL h.lim, fun h0 => by
      obtain ⟨b, off, e, hb, hcell⟩ := h.cell (by omega)
      refine ⟨b, off, e, hb, fun j x hx => hcell j x ?_⟩
      unfold cutL at hx
      rw [List.getElem?_take] at hx
      split at hx
      · exact hx
      · cases hx⟩⟩
/-- 'cut' of a new block -/
theorem cut_res {w w' : World} {g n : Nat} {cur : List Nat} (h : Ow w' g cur) (hg : w.heap.size ≤ g) (hb : Below w.heap.size w w') (hl : cur.length ≤ maxLen) (hL : Lim 18446744073709551616 cur) (hn : n = cur.length) {N : Nat} (hv : val 18446744073709551616 cur = N) :
    Calls Try.prog 60 #[.slice (some ⟨g, 0, none⟩) n n] w' fun e w'' => Ret N w e w'' := by
  have h1 := h.whole hl hL hn
  subst hn
  exact (cut_any h1).mono fun e w'' ⟨he, hw⟩ => by
    subst hw
    exact ⟨_, _, _, _, he, Res.cut h hg hb hl hL hv⟩

theorem Nt.rooms {w : World} {B : Nat} {A : Option Addr} {n c : Nat} {xs : List Nat} (h : Nt w B A n c xs) : n ≤ 9223372036854775807 ∧ c ≤ 9223372036854775807 := by
  have := h.cap
  have hr := h.room
  unfold maxLen at hr
  omega
theorem below_none {w w' : World} {B : Nat} (h : w.grownBy w' none) (hB : B ≤ w.heap.size) : Below B w w' := (Below.refl _ _).grown h hB (fun _ h => by cases h)


end Go.Proofs.Ytddpgckbdccldaa
