/- reader.length: a goto with three labels. -/
import Derived.Test.YtddpgckbdccldaaF1
import Derived.WalkMore
import Derived.ScopeJumps
namespace Go.Proofs.Ytddpgckbdccldaa
open Go.RowKit
set_option linter.unusedVariables false
set_option linter.unusedSimpArgs false
set_option maxRecDepth 100000
/-- as Q; by a goto to a label l: J l -/
def jumps (J : Nat → Act → World → Prop) (Q : Exit → Act → World → Prop) : Exit → Act → World → Prop
  | .goto l, a, w => J l a w
  | e, a, w => Q e a w
/-- a scope with several labels: what holds at every jump, and a measure that every pass lowers -/
theorem wp_scope_labels {P : Program} {a : Act} {w : World} {Q : Exit → Act → World → Prop} {c : Code} (J : Nat → Act → World → Prop) (mu : Nat → Act → World → Nat) (hf : ∀ l a w, J l a w → ∃ rest, findLabel c l = some rest)
    (first : c.wp P (jumps J Q) a w)
    (pass : ∀ l rest a w, findLabel c l = some rest → J l a w → rest.wp P (jumps (fun l' a' w' => J l' a' w' ∧ mu l' a' w' < mu l a w) Q) a w) : (Code.scope c).wp P Q a w := by
  intro b k cs
  have key : ∀ n l rest a w, findLabel c l = some rest → mu l a w = n → J l a w → ∃ e a' w', Q e a' w' ∧ Arrives P (lone (b.at a (.code rest :: .inScope c :: k)) cs w) b k cs e a' w' := by
    intro n
    induction n using Nat.strongRecOn with
    | _ n ih =>
      intro l rest a w hl hn hJ
      obtain ⟨e, a₁, w₁, hq, harr⟩ := pass l rest a w hl hJ b (.inScope c :: k) cs
      cases e with
      | normal => exact ⟨.normal, a₁, w₁, hq, Steps.trans harr (.one step_inScope)⟩
      | exit id => exact ⟨.exit id, a₁, w₁, hq, fun k' hk => harr k' (by simp [exitTo, hk])⟩
      | goto l' =>
        obtain ⟨hJ', hlt⟩ := hq
        obtain ⟨rest', hr'⟩ := hf l' a₁ w₁ hJ'
        have hg : gotoIn l' (.inScope c :: k) = some (.code rest' :: .inScope c :: k) := by simp [gotoIn, hr']
        obtain ⟨e₂, a₂, w₂, hq₂, harr₂⟩ := ih _ (by omega) l' rest' a₁ w₁ hr' rfl hJ'
        exact ⟨e₂, a₂, w₂, hq₂, .of_steps (harr _ hg) harr₂⟩
      | ret => exact ⟨_, a₁, w₁, hq, harr⟩
      | panic ch => exact ⟨_, a₁, w₁, hq, harr⟩
      | outgrown => exact ⟨_, a₁, w₁, hq, harr⟩
  obtain ⟨e, a₁, w₁, hq, harr⟩ := first b (.inScope c :: k) cs
  cases e with
  | normal => exact ⟨.normal, a₁, w₁, hq, .head step_scope (Steps.trans harr (.one step_inScope))⟩
  | exit id => exact ⟨.exit id, a₁, w₁, hq, fun k' hk => .head step_scope (harr k' (by simp [exitTo, hk]))⟩
  | goto l' =>
    have hJ' : J l' a₁ w₁ := hq
    obtain ⟨rest', hr'⟩ := hf l' a₁ w₁ hJ'
    have hg : gotoIn l' (.inScope c :: k) = some (.code rest' :: .inScope c :: k) := by simp [gotoIn, hr']
    obtain ⟨e₂, a₂, w₂, hq₂, harr₂⟩ := key _ l' rest' a₁ w₁ hr' rfl hJ'
    exact ⟨e₂, a₂, w₂, hq₂, .of_steps (.head step_scope (harr _ hg)) harr₂⟩
  | ret => exact ⟨_, a₁, w₁, hq, .of_steps (.one step_scope) harr⟩
  | panic ch => exact ⟨_, a₁, w₁, hq, .of_steps (.one step_scope) harr⟩
  | outgrown => exact ⟨_, a₁, w₁, hq, .of_steps (.one step_scope) harr⟩
theorem wp_scope_labels2 {P : Program} {a : Act} {w : World} {Q : Exit → Act → World → Prop} {c : Code} (J : Nat → Act → World → Prop) (mu : Nat → Act → World → Nat) (hf : ∀ l a w, J l a w → ∃ rest, findLabel c l = some (.seq .skip rest))
    (pass : ∀ l rest a w, findLabel c l = some (.seq .skip rest) → J l a w → rest.wp P (jumps (fun l' a' w' => J l' a' w' ∧ mu l' a' w' < mu l a w) Q) a w)
    (first : Hid (∀ l rest a w, findLabel c l = some (.seq .skip rest) → J l a w → rest.wp P (jumps J Q) a w) → c.wp P (jumps J Q) a w) : (Code.scope c).wp P Q a w :=
  wp_scope_labels J mu (fun l a w h => by obtain ⟨r, e⟩ := hf l a w h; exact ⟨_, e⟩) (first fun l rest a w h1 h2 => Code.wp_mono (fun e a w q => by cases e <;> first | exact q | exact q.1) (pass l rest a w h1 h2))
    (fun l rest a w h1 h2 => by
      obtain ⟨r, e⟩ := hf l a w h2
      rw [e] at h1
      cases h1
      exact wp_seq (wp_skip (pass l r a w e h2)))
/-- the bytes of a length behind its first -/
def moreM (bs : List Nat) (f : Nat) : Nat → Nat → Nat → Except (Nat × Nat) (Nat × Nat)
  | 0, a, acc => if acc < 128 then .error (f, 71) else .ok (acc, a)
  | left + 1, a, acc => if a = bs.length then .error (bs.length, 72) else if acc * 256 + bs.getD a 0 = 0 then .error (f, 71) else moreM bs f left (a + 1) (acc * 256 + bs.getD a 0)
/-- what reading a length comes to -/
def lenM (bs : List Nat) (a : Nat) : Except (Nat × Nat) (Nat × Nat) :=
  if a = bs.length then .error (bs.length, 72)
  else if bs.getD a 0 < 128 then .ok (bs.getD a 0, a + 1)
  else if bs.getD a 0 = 128 ∨ 132 < bs.getD a 0 then .error (a, 71)
  else moreM bs a (bs.getD a 0 - 128) (a + 1) 0
def LenP (g : Nat) (A : Option Addr) (n c : Nat) (bs : List Nat) (a h : Nat) (w : World) (e : Ending) (w' : World) : Prop :=
  (∃ p q, lenM bs a = .error (p, q) ∧ q ≠ 0 ∧ e = .returned (.tuple #[.int .i64 0, .agg #[.int .i64 (p : Int), .int .i64 (q : Int)]]) ∧ Kp g w w' ∧ ∃ a', Rb w' g A n c a' h) ∨
  (∃ x a', lenM bs a = .ok (x, a') ∧ e = .returned (.tuple #[.int .i64 (x : Int), .agg #[.int .i64 0, .int .i64 0]]) ∧ Kp g w w' ∧ Rb w' g A n c a' h)
theorem rb_set1 {w1 : World} {g : Nat} {A : Option Addr} {n c a h : Nat} (R : Rb w1 g A n c a h) (a' : Nat) : Rb (w1.setCell ⟨g, 1, none⟩ (.int .i64 (a' : Int))) g A n c a' h := by
  unfold Rb Bx at R ⊢
  simp [World.setCell, Array.getElem?_modify, R]
theorem b2_set1 {w1 : World} {g s : Nat} {y z : Value} (X : B2 w1 s 47 y z) (hne : s ≠ g) (o : Nat) (v : Value) : B2 (w1.setCell ⟨g, o, none⟩ v) s 47 y z := by
  unfold B2 at X ⊢
  simp [World.setCell, Array.getElem?_modify, X, Ne.symm hne]
/-- what the world is at a label -/
structure At (w W : World) (g : Nat) (A : Option Addr) (n c a h : Nat) : Prop where
  kp : Kp g w W
  rb : Rb W g A n c a h
  bx : B2 W w.heap.size 47 (.int .i64 0) (.int .i64 0)
theorem At.drewN {w W : World} {g : Nat} {A : Option Addr} {n c a h : Nat} (H : At w W g A n c a h) (k : Nat) : At w (W.drewN k) g A n c a h := ⟨H.kp.drewN k, H.rb, H.bx⟩
theorem At.step {w W : World} {g : Nat} {A : Option Addr} {n c a h : Nat} (H : At w W g A n c a h) (hg : g < w.heap.size) : At w (W.setCell ⟨g, 1, none⟩ (.int .i64 ((a : Int) + 1))) g A n c (a + 1) h := by
  have e : ((a : Int) + 1) = ((a + 1 : Nat) : Int) := by omega
  rw [e]
  exact ⟨H.kp.set 1 _, rb_set1 H.rb _, b2_set1 H.bx (by omega) 1 _⟩
theorem At.fin {w W : World} {g : Nat} {A : Option Addr} {n c a h : Nat} (H : At w W g A n c a h) (hg : g < w.heap.size) (p q : Value) :
    Kp g w ((W.setCell ⟨w.heap.size, 0, none⟩ p).setCell ⟨w.heap.size, 1, none⟩ q) ∧ Rb ((W.setCell ⟨w.heap.size, 0, none⟩ p).setCell ⟨w.heap.size, 1, none⟩ q) g A n c a h ∧ B2 ((W.setCell ⟨w.heap.size, 0, none⟩ p).setCell ⟨w.heap.size, 1, none⟩ q) w.heap.size 47 p q := by
  refine ⟨⟨H.kp.os, H.kp.tape, H.kp.output, by simpa [World.setCell] using H.kp.size, fun b hb hbg => ?_⟩, ?_, H.bx.set p q⟩
  · rw [← H.kp.block b hb hbg, Below.heap_setCell _ _ _ _ (by show b ≠ w.heap.size; omega), Below.heap_setCell _ _ _ _ (by show b ≠ w.heap.size; omega)]
  · have hne : w.heap.size ≠ g := by omega
    have R := H.rb
    unfold Rb Bx at R ⊢
    simp [World.setCell, Array.getElem?_modify, R, hne]
theorem or_nat (q b : Nat) (hq : q < 4294967296) (hb : b < 256) : bits .or .i64 ((q : Int) * 256) (b : Int) = ((q * 256 + b : Nat) : Int) := by
  have h := or_byte (q : Int) b hb
  have e1 : wrap64 ((q : Int) * 256) = (q : Int) * 256 := by unfold wrap64; omega
  have e2 : wrap64 ((q : Int) * 256 + (b : Int)) = ((q * 256 + b : Nat) : Int) := by unfold wrap64; omega
  rw [e1, e2] at h
  exact h
theorem mkU {A : Act} (F : (Nat → Value) → Act) (h : A = F fun i => A.tmps.getD i undef) : ∃ U, A = F U := ⟨_, h⟩
/-- what holds at the labels -/
def Jl (w : World) (g : Nat) (A : Option Addr) (n c : Nat) (bs : List Nat) (a h : Nat) (l : Nat) (a' : Act) (W : World) : Prop :=
  (l = 0 ∧ lenM bs a = .error (bs.length, 72) ∧ ∃ p, At w W g A n c p h ∧ ∃ U : Nat → Value, a' = { tmps := List.toArray (Value.pointer (some ⟨g, 0, none⟩) :: undef :: Value.int .i64 0 :: Value.pointer (some ⟨w.heap.size, 0, none⟩) :: U 4 :: U 5 :: U 6 :: U 7 :: U 8 :: U 9 :: U 10 :: U 11 :: U 12 :: U 13 :: U 14 :: U 15 :: U 16 :: U 17 :: U 18 :: U 19 :: U 20 :: U 21 :: U 22 :: U 23 :: U 24 :: U 25 :: U 26 :: U 27 :: U 28 :: U 29 :: U 30 :: U 31 :: U 32 :: U 33 :: U 34 :: U 35 :: U 36 :: U 37 :: U 38 :: U 39 :: U 40 :: U 41 :: U 42 :: U 43 :: U 44 :: U 45 :: U 46 :: U 47 :: U 48 :: U 49 :: U 50 :: U 51 :: U 52 :: U 53 :: U 54 :: U 55 :: U 56 :: U 57 :: U 58 :: U 59 :: U 60 :: U 61 :: U 62 :: U 63 :: U 64 :: U 65 :: U 66 :: U 67 :: U 68 :: U 69 :: U 70 :: U 71 :: U 72 :: U 73 :: U 74 :: U 75 :: U 76 :: U 77 :: U 78 :: U 79 :: U 80 :: U 81 :: U 82 :: U 83 :: U 84 :: U 85 :: U 86 :: U 87 :: U 88 :: U 89 :: U 90 :: U 91 :: U 92 :: U 93 :: U 94 :: U 95 :: U 96 :: U 97 :: U 98 :: U 99 :: []), defers := [] }) ∨
  (l = 1 ∧ lenM bs a = .error (a, 71) ∧ ∃ p, At w W g A n c p h ∧ ∃ U : Nat → Value, a' = { tmps := List.toArray (Value.pointer (some ⟨g, 0, none⟩) :: undef :: Value.int .i64 0 :: Value.pointer (some ⟨w.heap.size, 0, none⟩) :: Value.int .i64 (a : Int) :: U 5 :: U 6 :: U 7 :: U 8 :: U 9 :: U 10 :: U 11 :: U 12 :: U 13 :: U 14 :: U 15 :: U 16 :: U 17 :: U 18 :: U 19 :: U 20 :: U 21 :: U 22 :: U 23 :: U 24 :: U 25 :: U 26 :: U 27 :: U 28 :: U 29 :: U 30 :: U 31 :: U 32 :: U 33 :: U 34 :: U 35 :: U 36 :: U 37 :: U 38 :: U 39 :: U 40 :: U 41 :: U 42 :: U 43 :: U 44 :: U 45 :: U 46 :: U 47 :: U 48 :: U 49 :: U 50 :: U 51 :: U 52 :: U 53 :: U 54 :: U 55 :: U 56 :: U 57 :: U 58 :: U 59 :: U 60 :: U 61 :: U 62 :: U 63 :: U 64 :: U 65 :: U 66 :: U 67 :: U 68 :: U 69 :: U 70 :: U 71 :: U 72 :: U 73 :: U 74 :: U 75 :: U 76 :: U 77 :: U 78 :: U 79 :: U 80 :: U 81 :: U 82 :: U 83 :: U 84 :: U 85 :: U 86 :: U 87 :: U 88 :: U 89 :: U 90 :: U 91 :: U 92 :: U 93 :: U 94 :: U 95 :: U 96 :: U 97 :: U 98 :: U 99 :: []), defers := [] }) ∨
  (l = 2 ∧ ∃ p left acc : Nat, At w W g A n c p h ∧ p ≤ n ∧ 1 ≤ left ∧ left ≤ 4 ∧ acc < 256 ^ (4 - left) ∧ moreM bs a left p acc = lenM bs a ∧ ∃ U : Nat → Value, a' = { tmps := List.toArray (Value.pointer (some ⟨g, 0, none⟩) :: undef :: Value.int .i64 0 :: Value.pointer (some ⟨w.heap.size, 0, none⟩) :: Value.int .i64 (a : Int) :: Value.int .i64 (left : Int) :: Value.int .i64 (acc : Int) :: U 7 :: U 8 :: U 9 :: U 10 :: U 11 :: U 12 :: U 13 :: U 14 :: U 15 :: U 16 :: U 17 :: U 18 :: U 19 :: U 20 :: U 21 :: U 22 :: U 23 :: U 24 :: U 25 :: U 26 :: U 27 :: U 28 :: U 29 :: U 30 :: U 31 :: U 32 :: U 33 :: U 34 :: U 35 :: U 36 :: U 37 :: U 38 :: U 39 :: U 40 :: U 41 :: U 42 :: U 43 :: U 44 :: U 45 :: U 46 :: U 47 :: U 48 :: U 49 :: U 50 :: U 51 :: U 52 :: U 53 :: U 54 :: U 55 :: U 56 :: U 57 :: U 58 :: U 59 :: U 60 :: U 61 :: U 62 :: U 63 :: U 64 :: U 65 :: U 66 :: U 67 :: U 68 :: U 69 :: U 70 :: U 71 :: U 72 :: U 73 :: U 74 :: U 75 :: U 76 :: U 77 :: U 78 :: U 79 :: U 80 :: U 81 :: U 82 :: U 83 :: U 84 :: U 85 :: U 86 :: U 87 :: U 88 :: U 89 :: U 90 :: U 91 :: U 92 :: U 93 :: U 94 :: U 95 :: U 96 :: U 97 :: U 98 :: U 99 :: []), defers := [] })
set_option maxHeartbeats 8000000 in
theorem length_any {w : World} {g : Nat} {A : Option Addr} {n c : Nat} {bs : List Nat} {a h : Nat} (R : Rb w g A n c a h) (N : Nb w g A n c bs) (ha : a ≤ n) (hn : n ≤ 65535) :
    Calls Try.prog 73 #[.pointer (some ⟨g, 0, none⟩)] w (LenP g A n c bs a h w) := by
  have hg := R.lt
  obtain ⟨w1, hw1⟩ : ∃ w1, w1 = w.alloc (.cells #[.int .i64 0, .int .i64 0] 47) := ⟨_, rfl⟩
  have hb1 : Below w.heap.size w w1 := by rw [hw1]; exact (Below.refl _ _).alloc (Nat.le_refl _) _
  have hx1 : B2 w1 w.heap.size 47 (.int .i64 0) (.int .i64 0) := by rw [hw1]; exact B2.new w 47 _ _
  have HA1 : Hid (At w w1 g A n c a h) := ⟨Kp.of hb1, Bx.keep R hb1 hg, hx1⟩
  obtain ⟨c0, c1, c2, f0, f1, f2⟩ := HA1.out.rb.cells
  have HN := Lib.hid N
  have HLen := Lib.hid N.len
  have HLm := Lib.hid N.lim
  have HG := Lib.hid hg
  have hne1 : (g = w.heap.size) = False := by simp; omega
  have hne2 : (w.heap.size = g) = False := by simp; omega
  clear R N hb1 hx1 hg
  go_enter Try.func73, Try.ntmps73
  go_wp2_with fail
  rw [← hw1]
  clear hw1
  refine wp_scope_labels2 (Jl w g A n c bs a h) (fun l a' _ => if l = 2 then (intOf (a'.tmps.getD 5 undef)).toNat + 1 else 0) ?_ ?_ ?_
  · rintro l a' W (⟨rfl, _⟩ | ⟨rfl, _⟩ | ⟨rfl, _⟩) <;> exact ⟨_, rfl⟩
  · rintro l rest a' W hf hJ
    rcases hJ with ⟨rfl, hT, p, hA, U, rfl⟩ | ⟨rfl, hT, p, hA, U, rfl⟩ | ⟨rfl, p, left, acc, hA, hpn, hl1, hl4, hacc4, hM, U, rfl⟩
    all_goals (cases hf)
    · have HT := Lib.hid hT
      have HA := Lib.hid hA
      obtain ⟨r0, r1, r2, g0, g1, g2⟩ := hA.rb.cells
      obtain ⟨s0, s1, s2, s3⟩ := hA.bx.cells
      have hll := HLen.out
      clear hT hA
      go_wp2_with fail
      go_region
      have HF := Lib.hid (HA.out.fin HG.out (.int .i64 (n : Int)) (.int .i64 72))
      go_wp2_with fail
      try simp only [jumps]
      refine bodyPost_ret (res_two rfl rfl rfl HF.out.2.2) rfl ?_
      exact .inl ⟨n, 72, by rw [HT.out, hll], by omega, rfl, HF.out.1.drew, p, HF.out.2.1⟩
    · have HT := Lib.hid hT
      have HA := Lib.hid hA
      obtain ⟨s0, s1, s2, s3⟩ := hA.bx.cells
      clear hT hA
      go_wp2_with fail
      have HF := Lib.hid (HA.out.fin HG.out (.int .i64 (a : Int)) (.int .i64 71))
      try simp only [jumps]
      refine bodyPost_ret (res_two rfl rfl rfl HF.out.2.2) rfl ?_
      exact .inl ⟨a, 71, HT.out, by omega, rfl, HF.out.1, p, HF.out.2.1⟩
    have HA := Lib.hid hA
    have HM := Lib.hid hM
    clear hA hM
    by_cases h1 : p = n
    · have hl' : ∃ l', left = l' + 1 := ⟨left - 1, by omega⟩
      have HT := Lib.hid (show lenM bs a = .error (bs.length, 72) by
        obtain ⟨l', e⟩ := hl'
        rw [← HM.out, e, moreM, if_pos (by rw [HLen.out]; exact h1)])
      obtain ⟨r0, r1, r2, g0, g1, g2⟩ := HA.out.rb.cells
      subst h1
      clear hl'
      go_wp2_with fail
      go_quiet (fail)
      go_wp2_with fail
      go_step3
      exact ⟨(.inl ⟨rfl, HT.out, _, HA.out.drewN _, mkU _ rfl⟩), by simp⟩
    have k0 : ((p : Int) == (n : Int)) = false := by simp; omega
    have k0' : ((p : Int) = (n : Int)) = False := by simp; omega
    have hlt : p < n := by omega
    obtain ⟨b, off, rfl, hb, hx⟩ := (HN.out.keep (HA.out.kp.low (by have := HG.out; omega))).at_ hlt
    have HY := Lib.hid (show bs.getD p 0 < 256 from HLm.out.get (by omega) p)
    obtain ⟨y, hye⟩ : ∃ y, Hid (bs.getD p 0 = y) := ⟨_, Lib.hid rfl⟩
    rw [hye.out] at hx HY
    have hy256 := HY.out
    obtain ⟨l', hl'⟩ : ∃ l', left = l' + 1 := ⟨left - 1, by omega⟩
    have HM2 : Hid ((if acc * 256 + y = 0 then .error (a, 71) else moreM bs a l' (p + 1) (acc * 256 + y)) = lenM bs a) := by
      have e := HM.out
      rw [hl', moreM, if_neg (by rw [HLen.out]; exact h1), hye.out] at e
      exact e
    have hacc : acc < 16777216 := by
      have := hacc4
      have h3 : left = 1 ∨ left = 2 ∨ left = 3 ∨ left = 4 := by omega
      rcases h3 with rfl | rfl | rfl | rfl <;> simp only [Nat.reduceSub, Nat.reducePow] at this <;> omega
    have ho := or_nat acc y (by omega) HY.out
    obtain ⟨z, hz⟩ : ∃ z, acc * 256 + y = z := ⟨_, rfl⟩
    rw [hz] at ho HM2
    have hz32 : z < 4294967296 := by omega
    have HZ4 := Lib.hid (show z < 256 ^ (4 - l') by
      have := hacc4
      have h3 : left = 1 ∨ left = 2 ∨ left = 3 ∨ left = 4 := by omega
      rcases h3 with rfl | rfl | rfl | rfl
      all_goals
        simp only [Nat.reduceSub, Nat.reducePow] at this
        have e9 := (Nat.succ.inj hl').symm
        subst e9
        simp only [Nat.reduceSub, Nat.reducePow]
        omega)
    have kl : (left : Int) - 1 = (l' : Int) := by omega
    have HLF := Lib.hid (show l' < left ∧ l' ≤ 3 by omega)
    obtain ⟨r0, r1, r2, g0, g1, g2⟩ := HA.out.rb.cells
    have HP1 := Lib.hid (show p + 1 ≤ n by omega)
    clear hl' hz hacc4 h1
    have HAs := Lib.hid (fun k => (HA.out.drewN k).step HG.out)
    by_cases z0 : z = 0
    · have HT := Lib.hid (show lenM bs a = .error (a, 71) by rw [← HM2.out, if_pos z0])
      subst z0
      go_wp2_with fail
      go_quiet (fail)
      generalize nq = q1
      go_wp2_with fail
      go_quiet (fail)
      go_wp2_with fail
      go_step3
      exact ⟨(.inr (.inl ⟨rfl, HT.out, _, HAs.out _, mkU _ rfl⟩)), by simp⟩
    have z1 : ((z : Int) == 0) = false := by simp; omega
    have z2 : ((z : Int) = 0) = False := by simp; omega
    have HM3 := Lib.hid (show moreM bs a l' (p + 1) z = lenM bs a by rw [← HM2.out, if_neg z0])
    clear z0
    by_cases l0 : 0 < l'
    · have kd : (0 : Int) < (l' : Int) := by omega
      have HL0 := Lib.hid l0
      go_wp2_with fail
      go_quiet (fail)
      generalize nq = q1
      go_wp2_with fail
      go_quiet (fail)
      go_wp2_with fail
      go_step3
      exact ⟨(.inr (.inr ⟨rfl, p + 1, l', z, HAs.out _, HP1.out, HL0.out, by have := HLF.out; omega, HZ4.out, HM3.out, mkU _ rfl⟩)), by have := HLF.out; simp [intOf]; omega⟩
    have kd : ((0 : Int) < (l' : Int)) = False := by simp; omega
    obtain rfl : l' = 0 := by omega
    by_cases zs : z < 128
    · have HT := Lib.hid (show lenM bs a = .error (a, 71) by rw [← HM3.out, moreM, if_pos zs])
      have ks : (z : Int) < 128 := by omega
      go_wp2_with fail
      go_quiet (fail)
      generalize nq = q1
      go_wp2_with fail
      go_quiet (fail)
      go_wp2_with fail
      go_step3
      exact ⟨(.inr (.inl ⟨rfl, HT.out, _, HAs.out _, mkU _ rfl⟩)), by simp⟩
    have ks : ((z : Int) < 128) = False := by simp; omega
    have HT := Lib.hid (show lenM bs a = .ok (z, p + 1) by rw [← HM3.out, moreM, if_neg zs])
    clear zs l0
    go_wp2_with fail
    go_quiet (fail)
    generalize nq = q1
    go_wp2_with fail
    go_quiet (fail)
    obtain ⟨s0, s1, s2, s3⟩ := HA.out.bx.cells
    go_wp2_with fail
    have HF := Lib.hid ((HAs.out (q1 + nq)).fin HG.out (.int .i64 0) (.int .i64 0))
    try simp only [jumps]
    refine bodyPost_ret (res_two rfl rfl rfl HF.out.2.2) rfl ?_
    exact .inr ⟨z, p + 1, HT.out, rfl, HF.out.1, HF.out.2.1⟩
  · intro hp
    by_cases h0 : a = n
    · have HT := Lib.hid (show lenM bs a = .error (bs.length, 72) by unfold lenM; rw [if_pos (by rw [HLen.out]; exact h0)])
      go_wp2_with fail
      go_quiet (fail)
      go_wp2_with fail
      go_step3
      exact .inl ⟨rfl, HT.out, _, HA1.out.drewN _, mkU _ rfl⟩
    have k0 : ((a : Int) == (n : Int)) = false := by simp; omega
    have k0' : ((a : Int) = (n : Int)) = False := by simp; omega
    have hlt : a < n := by omega
    obtain ⟨b, off, rfl, hb, hx⟩ := (HN.out.keep (HA1.out.kp.low (by have := HG.out; omega))).at_ hlt
    have HY := Lib.hid (show bs.getD a 0 < 256 from HLm.out.get (by omega) a)
    obtain ⟨y, hye⟩ : ∃ y, Hid (bs.getD a 0 = y) := ⟨_, Lib.hid rfl⟩
    rw [hye.out] at hx HY
    have hy256 := HY.out
    have HAs := Lib.hid (fun k => (HA1.out.drewN k).step HG.out)
    have HNE := Lib.hid (show a ≠ bs.length by rw [HLen.out]; exact h0)
    clear h0
    by_cases ys : y < 128
    · have HT := Lib.hid (show lenM bs a = .ok (y, a + 1) by unfold lenM; rw [if_neg HNE.out, hye.out, if_pos ys])
      have ks : (y : Int) < 128 := by omega
      obtain ⟨s0, s1, s2, s3⟩ := HA1.out.bx.cells
      clear ys
      go_wp2_with fail
      go_quiet (fail)
      generalize nq = q1
      go_wp2_with fail
      go_quiet (fail)
      go_wp2_with fail
      have HF := Lib.hid ((HAs.out (q1 + nq)).fin HG.out (.int .i64 0) (.int .i64 0))
      try simp only [jumps]
      refine bodyPost_ret (res_two rfl rfl rfl HF.out.2.2) rfl ?_
      exact .inr ⟨y, a + 1, HT.out, rfl, HF.out.1, HF.out.2.1⟩
    have ks : ((y : Int) < 128) = False := by simp; omega
    by_cases yw : y = 128 ∨ 132 < y
    · have HT := Lib.hid (show lenM bs a = .error (a, 71) by unfold lenM; rw [if_neg HNE.out, hye.out, if_neg ys, if_pos yw])
      by_cases y8 : y = 128
      · subst y8
        go_wp2_with fail
        go_quiet (fail)
        generalize nq = q1
        go_wp2_with fail
        go_quiet (fail)
        go_wp2_with fail
        go_step3
        exact .inr (.inl ⟨rfl, HT.out, _, HAs.out _, mkU _ rfl⟩)
      · have kd : ((y : Int) - 128 == 0) = false := by simp; omega
        have kd' : ((y : Int) - 128 = 0) = False := by simp; omega
        have ke : (4 : Int) < (y : Int) - 128 := by omega
        go_wp2_with fail
        go_quiet (fail)
        generalize nq = q1
        go_wp2_with fail
        go_quiet (fail)
        go_wp2_with fail
        go_step3
        exact .inr (.inl ⟨rfl, HT.out, _, HAs.out _, mkU _ rfl⟩)
    obtain ⟨left, hleft⟩ : ∃ left : Nat, y = left + 128 := ⟨y - 128, by omega⟩
    have hl1 : 1 ≤ left := by omega
    have hl4 : left ≤ 4 := by omega
    have HM := Lib.hid (show moreM bs a left (a + 1) 0 = lenM bs a by
      unfold lenM
      rw [if_neg HNE.out, hye.out, if_neg ys, if_neg yw, hleft, Nat.add_sub_cancel])
    have kL : (y : Int) - 128 = (left : Int) := by omega
    have kd : ((left : Int) == 0) = false := by simp; omega
    have kd' : ((left : Int) = 0) = False := by simp; omega
    have ke : ((4 : Int) < (left : Int)) = False := by simp; omega
    have hlt2 : a + 1 ≤ n := by omega
    clear hleft yw
    go_wp2_with fail
    go_quiet (fail)
    generalize nq = q1
    go_wp2_with fail
    go_quiet (fail)
    go_wp2_with fail
    rename_i hK
    exact wp_label (hK _ _ (hp.out 2 _ _ _ rfl (.inr (.inr ⟨rfl, a + 1, left, 0, HAs.out _, hlt2, hl1, hl4, Nat.pow_pos (by omega), HM.out, mkU _ rfl⟩))))
end Go.Proofs.Ytddpgckbdccldaa
