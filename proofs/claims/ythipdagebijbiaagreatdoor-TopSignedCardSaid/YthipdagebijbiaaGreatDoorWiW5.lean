/- wire: numbers at the end of bytes. -/
import Derived.Test.YthipdagebijbiaaGreatDoorWi
import Derived.Maps.AppendAt
namespace Go.Proofs.YthipdagebijbiaaGreatDoor.Wi
set_option linter.unusedSimpArgs false
set_option linter.unusedVariables false
open Go.RowKit
set_option linter.unusedVariables false
set_option maxRecDepth 100000
/-- the block that a row lies in -/
def blk (A : Option Addr) : Option Nat := A.map (·.block)
/-- a row grew: every other block that was there is as it was -/
def Gr (w : World) (A : Option Addr) (w' : World) (A' : Option Addr) : Prop := w.grownBy w' (blk A) ∧ (blk A' = blk A ∨ ∃ k, blk A' = some k ∧ w.heap.size ≤ k)
theorem own_blk (A : Option Addr) (n c : Nat) : (Value.slice A n c).ownBlock = blk A := by cases A <;> rfl
theorem Gr.refl (w : World) (A : Option Addr) : Gr w A w A := ⟨⟨rfl, rfl, rfl, Nat.le_refl _, fun _ _ _ => rfl⟩, .inl rfl⟩
theorem Gr.trans {w w' w'' : World} {A A' A'' : Option Addr} (h : Gr w A w' A') (k : Gr w' A' w'' A'') : Gr w A w'' A'' := by
  obtain ⟨g, h2⟩ := h
  obtain ⟨g', k2⟩ := k
  refine ⟨⟨g'.os.trans g.os, g'.tape.trans g.tape, g'.output.trans g.output, Nat.le_trans g.size g'.size, fun q hq hne => ?_⟩, ?_⟩
  · refine (g'.block q (Nat.lt_of_lt_of_le hq g.size) fun e => ?_).trans (g.block q hq hne)
    rcases h2 with h2 | ⟨j, h2, hj⟩
    · exact hne (e.trans h2)
    · rw [h2] at e; cases e; omega
  · rcases k2 with k2 | ⟨j, k2, hj⟩
    · rcases h2 with h2 | ⟨i, h2, hi⟩
      · exact .inl (k2.trans h2)
      · exact .inr ⟨i, k2.trans h2, hi⟩
    · exact .inr ⟨j, k2, Nat.le_trans g.size hj⟩
theorem Gr.alloc {w w' : World} {A A' : Option Addr} (h : Gr w A w' A') (o : Obj) : Gr w A (w'.alloc o) A' := by
  obtain ⟨g, h2⟩ := h
  have b := (Below.refl w'.heap.size w').alloc (Nat.le_refl _) o
  exact ⟨⟨b.os.trans g.os, b.tape.trans g.tape, b.output.trans g.output, Nat.le_trans g.size b.size, fun q hq hne => (b.block q (Nat.lt_of_lt_of_le hq g.size)).trans (g.block q hq hne)⟩, h2⟩
theorem Gr.cell {w w' : World} {A A' : Option Addr} (h : Gr w A w' A') {p : Addr} (hp : p.block < w.heap.size) (hne : blk A ≠ some p.block) : w'.cell? p = w.cell? p :=
  World.cell?_of_block (h.1.block p.block hp fun e => hne e.symm)
theorem Gr.below {w0 w w' : World} {A A' : Option Addr} {B : Nat} (h : Gr w A w' A') (b : RowKit.Below B w0 w) (hB : B ≤ w.heap.size) (hA : ∀ k, blk A = some k → B ≤ k) : RowKit.Below B w0 w' :=
  b.grown h.1 hB hA
theorem wpList_app_g (w : World) {ops : Array Oper} {rest : List Oper} {o : Oper} {a : Act} {Q : Exit → Act → World → Prop} (hgd : o.guard = none) (s x : Operand)
    (ho : o.op = .call { callee := .builtin .append, args := #[s, x], argTypes := #[23, 23] }) {base n c g y : Nat} {A A0 : Option Addr} {xs : List Nat} {w0 : World}
    (hs : a.eval s = .slice A n c) (hown : Gb w base A n c xs) (hx : a.eval x = .slice (some ⟨g, 0, none⟩) 1 1) (hc : w.cell? ⟨g, 0, none⟩ = some (.int .u8 (y : Int)))
    (hn : n ≤ 1099511627776) (hb : Gr w0 A0 w A) (hbase : base ≤ w.heap.size)
    (h : ∀ A' c' w', Gb w' base A' (n + 1) c' (xs ++ [y]) → Gr w0 A0 w' A' → wpList Tryz.prog ops Q rest (a.put o.dst (.slice A' (n + 1) c')) w') : wpList Tryz.prog ops Q (o :: rest) a w := by
  obtain ⟨i0, hi, hz0, hz1, hz2⟩ := info_parts Tryz.info5'
  refine wpList_append_own_at w hgd s x 23 ho base 5 i0 (.int .u8 0) 1 1 Tryz.underlying23 hi hz0 hz1 hz2 rfl (by decide) _ n (bs xs) hs hown.2 ⟨g, 0, none⟩ 1 1 [.int .u8 (y : Int)] hx rfl ?_ ?_ (by unfold maxLen; omega) (by omega) hbase ?_
  · intro j u hj
    match j, hj with
    | 0, hj => simp at hj; subst hj; simpa [Addr.add] using hc
  · intro u hu; simp at hu; subst hu; rfl
  · intro v' w' hown' hgrow _ hat
    obtain ⟨A', c', rfl⟩ := own_shape hown'
    rw [own_blk] at hgrow
    rw [own_blk, own_blk] at hat
    refine h A' c' w' ⟨by simp [hown.1], by rw [bs_append]; exact hown'⟩ (hb.trans ⟨hgrow, hat.imp id fun e => ⟨_, e, Nat.le_refl _⟩⟩)
/-- numbers in a row -/
def Zs (w : World) (k : IntKind) (B : Option Addr) (m : Nat) (zs : List Int) : Prop :=
  zs.length = m ∧ (m = 0 ∨ ∃ g off, B = some ⟨g, off, none⟩ ∧ g < w.heap.size ∧ ∀ i z, zs[i]? = some z → w.cell? ⟨g, off + i, none⟩ = some (.int k z))
/-- a number's bytes, the greatest first -/
def by8 (s : Nat) (z : Int) (i : Nat) : Nat := (z / 2 ^ (8 * (s - 1 - i)) % 256).toNat
def be (s : Nat) (z : Int) : List Nat := (List.range s).map (by8 s z)
theorem be_length (s : Nat) (z : Int) : (be s z).length = s := by simp [be]
theorem be_take {s i : Nat} (z : Int) (h : i < s) : (be s z).take (i + 1) = (be s z).take i ++ [by8 s z i] := by
  unfold be
  rw [List.take_add_one]
  simp [h]
theorem be_row {w : World} {base : Nat} {A : Option Addr} {N c s t j : Nat} {xs : List Nat} {zs : List Int} {z : Int} (hz : zs[j]? = some z) (ht : t = (be s z).length)
    (h : Gb w base A N c (xs ++ (zs.take j).flatMap (be s) ++ (be s z).take t)) : Gb w base A N c (xs ++ (zs.take (j + 1)).flatMap (be s)) := by
  rw [List.take_add_one, hz, List.flatMap_append]
  rw [ht, List.take_length, List.append_assoc] at h
  simpa using h
theorem put_any {w : World} {base : Nat} {A : Option Addr} {n c : Nat} {xs : List Nat} (s : Nat) {B : Option Addr} {m d : Nat} {zs : List Int} (h : Gb w base A n c xs) (hb : base ≤ w.heap.size)
    (hs : 0 < s) (hs8 : s ≤ 8) (hz : Zs w .i64 B m zs) (hAB : m = 0 ∨ blk A ≠ blk B) (hm : m ≤ 4096) (hn : n ≤ 1073741824) :
    Calls Tryz.prog 39 #[.slice A n c, .int .i64 (s : Nat), .slice B m d] w fun e w' => ∃ A' c', e = .returned (.slice A' (n + m * s) c') ∧ Gb w' base A' (n + m * s) c' (xs ++ zs.flatMap (be s)) ∧ Gr w A w' A' := by
  have HG := Lib.hid h
  have HZ := Lib.hid hz
  have HA := Lib.hid hAB
  have HBa := Lib.hid hb
  clear h hz hAB hb
  go_enter Tryz.func39, Tryz.ntmps39
  go_wp2_with fail
  go_loopw [12, 0] (fun i b wr => ∃ j A' c', j ≤ m ∧ i = .int .i64 ((j : Nat) : Int) ∧ b = .slice A' (n + j * s) c' ∧ Gb wr base A' (n + j * s) c' (xs ++ (zs.take j).flatMap (be s)) ∧ Gr w A wr A') (fun i _ _ => (m - (match i with | .int _ z => z.toNat | _ => 0)))
  case atStart => exact ⟨0, A, c, by omega, rfl, by rw [Nat.zero_mul]; rfl, by rw [Nat.zero_mul]; simpa using HG.out, Gr.refl _ _⟩
  case round =>
    obtain ⟨j, A1, c1, hjm, rfl, rfl, hg, hgr⟩ := hrel
    have HG1 := Lib.hid hg
    have HR1 := Lib.hid hgr
    clear hg hgr
    by_cases hj : j < m
    · have e1 : (j : Int) < (m : Int) := by omega
      obtain ⟨z, hz⟩ : ∃ z, zs[j]? = some z := ⟨_, List.getElem?_eq_getElem (by have := HZ.out.1; omega)⟩
      rcases HZ.out.2 with he3 | ⟨g, off, rfl, hg, hcl⟩
      · omega
      have d0 := (HR1.out.cell (p := ⟨g, off + j, none⟩) hg (HA.out.resolve_left (by omega))).trans (hcl j z hz)
      have HT := Lib.hid hz
      have HGl := Lib.hid hg
      have hjs : j * s ≤ 32768 := Nat.mul_le_mul (by omega : j ≤ 4096) hs8
      clear hcl hz hg
      obtain ⟨N, hN⟩ : ∃ N, N = n + j * s := ⟨_, rfl⟩
      rw [← hN] at HG1
      rw [← hN]
      have HN := Lib.hid hN
      have hN2 : N ≤ 2147483648 := by omega
      clear hN hjs
      go_wp2_with fail
      go_loopw [17, 0] (fun i b wq => ∃ t A' c', t ≤ s ∧ i = .int .i64 ((t : Nat) : Int) ∧ b = .slice A' (N + t) c' ∧ Gb wq base A' (N + t) c' (xs ++ (zs.take j).flatMap (be s) ++ (be s z).take t) ∧ Gr w A wq A') (fun i _ _ => (s - (match i with | .int _ z => z.toNat | _ => 0)))
      case atStart => exact ⟨0, A1, c1, by omega, rfl, rfl, by simpa using HG1.out, HR1.out⟩
      case round =>
        obtain ⟨t, A2, c2, hts, rfl, rfl, hg, hgr⟩ := hrel
        have HG2 := Lib.hid hg
        have HR2 := Lib.hid hgr
        clear hg hgr
        by_cases ht : t < s
        · have k1 : (t : Int) < (s : Int) := by omega
          obtain ⟨y, hy⟩ : ∃ y, y = by8 s z t := ⟨_, rfl⟩
          have e8 : z / 2 ^ (8 * (s - 1 - t)) % 256 = (y : Int) := by
            rw [hy]; unfold by8; exact (Int.toNat_of_nonneg (Int.emod_nonneg _ (by decide))).symm
          have HY := Lib.hid hy
          have HT2 := Lib.hid (be_take z ht)
          have hG' := HG2.out.alloc (.cells #[.int .u8 (y : Int)] 5)
          have hR' := HR2.out.alloc (.cells #[.int .u8 (y : Int)] 5)
          have hc := cell_new wr (.int .u8 (y : Int)) 5
          have hbs : base ≤ (wr.alloc (.cells #[.int .u8 (y : Int)] 5)).heap.size := Nat.le_trans HBa.out hR'.1.size
          have hnt : N + t ≤ 1099511627776 := by omega
          clear hy
          go_wp2_with (at_builtin; refine wpList_app_g _ rfl (.tmp 20) (.tmp 29) rfl rfl hG' rfl hc hnt hR' hbs ?_; intro A7 c7 w7 hG7 hR7)
          exact ⟨⟨t + 1, A7, c7, by omega, rfl, rfl, by rw [HT2.out, ← HY.out, ← List.append_assoc]; exact hG7, hR7⟩, by show s - ((t : Int) + 1).toNat < s - (t : Int).toNat; omega⟩
        · have k1 : ((t : Int) < (s : Int)) = False := by simp only [eq_iff_iff, iff_false]; omega
          have hts2 : t = s := by omega
          have hE : N + t = n + (j + 1) * s := by rw [HN.out, hts2, Nat.succ_mul]; omega
          have hG3 := Lib.hid (be_row HT.out (by rw [hts2]; exact (be_length s z).symm) (hE ▸ HG2.out))
          have HE := Lib.hid hE
          clear hts2 hE
          go_wp2_with fail
          exact ⟨⟨j + 1, A2, c2, by omega, rfl, by rw [HE.out], hG3.out, HR2.out⟩, by show m - ((j : Int) + 1).toNat < m - (j : Int).toNat; omega⟩
    · have e1' : ((j : Int) < (m : Int)) = False := by simp only [eq_iff_iff, iff_false]; omega
      have hjm2 : j = m := by omega
      subst hjm2
      have HG4 := Lib.hid (show Gb wr base A1 (n + j * s) c1 (xs ++ zs.flatMap (be s)) by
        have := HG1.out
        rwa [List.take_of_length_le (by have := HZ.out.1; omega)] at this)
      clear HZ HA
      go_wp2_with fail
      go_ret
      exact ⟨A1, c1, rfl, HG4.out, HR1.out⟩
theorem put20_any {w : World} {base : Nat} {A : Option Addr} {n c : Nat} {xs : List Nat} (s : Nat) {B : Option Addr} {m d : Nat} {zs : List Int} (h : Gb w base A n c xs) (hb : base ≤ w.heap.size)
    (hs : 0 < s) (hs8 : s ≤ 4) (hz : Zs w .u32 B m zs) (hAB : m = 0 ∨ blk A ≠ blk B) (hzp : ∀ z ∈ zs, 0 ≤ z) (hm : m ≤ 4096) (hn : n ≤ 1073741824) :
    Calls Tryz.prog 40 #[.slice A n c, .int .i64 (s : Nat), .slice B m d] w fun e w' => ∃ A' c', e = .returned (.slice A' (n + m * s) c') ∧ Gb w' base A' (n + m * s) c' (xs ++ zs.flatMap (be s)) ∧ Gr w A w' A' := by
  have HG := Lib.hid h
  have HP := Lib.hid hzp
  have HZ := Lib.hid hz
  have HA := Lib.hid hAB
  have HBa := Lib.hid hb
  clear h hz hAB hb hzp
  go_enter Tryz.func40, Tryz.ntmps40
  go_wp2_with fail
  go_loopw [12, 0] (fun i b wr => ∃ j A' c', j ≤ m ∧ i = .int .i64 ((j : Nat) : Int) ∧ b = .slice A' (n + j * s) c' ∧ Gb wr base A' (n + j * s) c' (xs ++ (zs.take j).flatMap (be s)) ∧ Gr w A wr A') (fun i _ _ => (m - (match i with | .int _ z => z.toNat | _ => 0)))
  case atStart => exact ⟨0, A, c, by omega, rfl, by rw [Nat.zero_mul]; rfl, by rw [Nat.zero_mul]; simpa using HG.out, Gr.refl _ _⟩
  case round =>
    obtain ⟨j, A1, c1, hjm, rfl, rfl, hg, hgr⟩ := hrel
    have HG1 := Lib.hid hg
    have HR1 := Lib.hid hgr
    clear hg hgr
    by_cases hj : j < m
    · have e1 : (j : Int) < (m : Int) := by omega
      obtain ⟨z, hz⟩ : ∃ z, zs[j]? = some z := ⟨_, List.getElem?_eq_getElem (by have := HZ.out.1; omega)⟩
      rcases HZ.out.2 with he3 | ⟨g, off, rfl, hg, hcl⟩
      · omega
      have d0 := (HR1.out.cell (p := ⟨g, off + j, none⟩) hg (HA.out.resolve_left (by omega))).trans (hcl j z hz)
      obtain ⟨v, rfl⟩ : ∃ v : Nat, z = (v : Int) := ⟨z.toNat, (Int.toNat_of_nonneg (HP.out z (List.mem_of_getElem? hz))).symm⟩
      have HT := Lib.hid hz
      have HGl := Lib.hid hg
      have hjs : j * s ≤ 32768 := Nat.mul_le_mul (by omega : j ≤ 4096) (by omega : s ≤ 8)
      clear hcl hz hg
      obtain ⟨N, hN⟩ : ∃ N, N = n + j * s := ⟨_, rfl⟩
      rw [← hN] at HG1
      rw [← hN]
      have HN := Lib.hid hN
      have hN2 : N ≤ 2147483648 := by omega
      clear hN hjs
      go_wp2_with fail
      go_loopw [17, 0] (fun i b wq => ∃ t A' c', t ≤ s ∧ i = .int .i64 ((t : Nat) : Int) ∧ b = .slice A' (N + t) c' ∧ Gb wq base A' (N + t) c' (xs ++ (zs.take j).flatMap (be s) ++ (be s (v : Int)).take t) ∧ Gr w A wq A') (fun i _ _ => (s - (match i with | .int _ z => z.toNat | _ => 0)))
      case atStart => exact ⟨0, A1, c1, by omega, rfl, rfl, by simpa using HG1.out, HR1.out⟩
      case round =>
        obtain ⟨t, A2, c2, hts, rfl, rfl, hg, hgr⟩ := hrel
        have HG2 := Lib.hid hg
        have HR2 := Lib.hid hgr
        clear hg hgr
        by_cases ht : t < s
        · have k1 : (t : Int) < (s : Int) := by omega
          obtain ⟨y, hy⟩ : ∃ y, y = by8 s v t := ⟨_, rfl⟩
          have e8 : (v : Int) / 2 ^ (8 * (s - 1 - t)) % 256 = (y : Int) := by
            rw [hy]; unfold by8; exact (Int.toNat_of_nonneg (Int.emod_nonneg _ (by decide))).symm
          have HY := Lib.hid hy
          have HT2 := Lib.hid (be_take (v : Int) ht)
          have hG' := HG2.out.alloc (.cells #[.int .u8 (y : Int)] 5)
          have hR' := HR2.out.alloc (.cells #[.int .u8 (y : Int)] 5)
          have hc := cell_new wr (.int .u8 (y : Int)) 5
          have hbs : base ≤ (wr.alloc (.cells #[.int .u8 (y : Int)] 5)).heap.size := Nat.le_trans HBa.out hR'.1.size
          have hnt : N + t ≤ 1099511627776 := by omega
          clear hy
          go_wp2_with (at_builtin; refine wpList_app_g _ rfl (.tmp 20) (.tmp 29) rfl rfl hG' rfl hc hnt hR' hbs ?_; intro A7 c7 w7 hG7 hR7)
          exact ⟨⟨t + 1, A7, c7, by omega, rfl, rfl, by rw [HT2.out, ← HY.out, ← List.append_assoc]; exact hG7, hR7⟩, by show s - ((t : Int) + 1).toNat < s - (t : Int).toNat; omega⟩
        · have k1 : ((t : Int) < (s : Int)) = False := by simp only [eq_iff_iff, iff_false]; omega
          have hts2 : t = s := by omega
          have hE : N + t = n + (j + 1) * s := by rw [HN.out, hts2, Nat.succ_mul]; omega
          have hG3 := Lib.hid (be_row HT.out (by rw [hts2]; exact (be_length s v).symm) (hE ▸ HG2.out))
          have HE := Lib.hid hE
          clear hts2 hE
          go_wp2_with fail
          exact ⟨⟨j + 1, A2, c2, by omega, rfl, by rw [HE.out], hG3.out, HR2.out⟩, by show m - ((j : Int) + 1).toNat < m - (j : Int).toNat; omega⟩
    · have e1' : ((j : Int) < (m : Int)) = False := by simp only [eq_iff_iff, iff_false]; omega
      have hjm2 : j = m := by omega
      subst hjm2
      have HG4 := Lib.hid (show Gb wr base A1 (n + j * s) c1 (xs ++ zs.flatMap (be s)) by
        have := HG1.out
        rwa [List.take_of_length_le (by have := HZ.out.1; omega)] at this)
      clear HZ HA
      go_wp2_with fail
      go_ret
      exact ⟨A1, c1, rfl, HG4.out, HR1.out⟩
theorem put21_any {w : World} {base : Nat} {A : Option Addr} {n c : Nat} {xs : List Nat} (s : Nat) {B : Option Addr} {m d : Nat} {zs : List Int} (h : Gb w base A n c xs) (hb : base ≤ w.heap.size)
    (hs : 0 < s) (hs8 : s ≤ 8) (hz : Zs w .u64 B m zs) (hAB : m = 0 ∨ blk A ≠ blk B) (hzp : ∀ z ∈ zs, 0 ≤ z) (hm : m ≤ 4096) (hn : n ≤ 1073741824) :
    Calls Tryz.prog 41 #[.slice A n c, .int .i64 (s : Nat), .slice B m d] w fun e w' => ∃ A' c', e = .returned (.slice A' (n + m * s) c') ∧ Gb w' base A' (n + m * s) c' (xs ++ zs.flatMap (be s)) ∧ Gr w A w' A' := by
  have HG := Lib.hid h
  have HP := Lib.hid hzp
  have HZ := Lib.hid hz
  have HA := Lib.hid hAB
  have HBa := Lib.hid hb
  clear h hz hAB hb hzp
  go_enter Tryz.func41, Tryz.ntmps41
  go_wp2_with fail
  go_loopw [12, 0] (fun i b wr => ∃ j A' c', j ≤ m ∧ i = .int .i64 ((j : Nat) : Int) ∧ b = .slice A' (n + j * s) c' ∧ Gb wr base A' (n + j * s) c' (xs ++ (zs.take j).flatMap (be s)) ∧ Gr w A wr A') (fun i _ _ => (m - (match i with | .int _ z => z.toNat | _ => 0)))
  case atStart => exact ⟨0, A, c, by omega, rfl, by rw [Nat.zero_mul]; rfl, by rw [Nat.zero_mul]; simpa using HG.out, Gr.refl _ _⟩
  case round =>
    obtain ⟨j, A1, c1, hjm, rfl, rfl, hg, hgr⟩ := hrel
    have HG1 := Lib.hid hg
    have HR1 := Lib.hid hgr
    clear hg hgr
    by_cases hj : j < m
    · have e1 : (j : Int) < (m : Int) := by omega
      obtain ⟨z, hz⟩ : ∃ z, zs[j]? = some z := ⟨_, List.getElem?_eq_getElem (by have := HZ.out.1; omega)⟩
      rcases HZ.out.2 with he3 | ⟨g, off, rfl, hg, hcl⟩
      · omega
      have d0 := (HR1.out.cell (p := ⟨g, off + j, none⟩) hg (HA.out.resolve_left (by omega))).trans (hcl j z hz)
      obtain ⟨v, rfl⟩ : ∃ v : Nat, z = (v : Int) := ⟨z.toNat, (Int.toNat_of_nonneg (HP.out z (List.mem_of_getElem? hz))).symm⟩
      have HT := Lib.hid hz
      have HGl := Lib.hid hg
      have hjs : j * s ≤ 32768 := Nat.mul_le_mul (by omega : j ≤ 4096) hs8
      clear hcl hz hg
      obtain ⟨N, hN⟩ : ∃ N, N = n + j * s := ⟨_, rfl⟩
      rw [← hN] at HG1
      rw [← hN]
      have HN := Lib.hid hN
      have hN2 : N ≤ 2147483648 := by omega
      clear hN hjs
      go_wp2_with fail
      go_loopw [17, 0] (fun i b wq => ∃ t A' c', t ≤ s ∧ i = .int .i64 ((t : Nat) : Int) ∧ b = .slice A' (N + t) c' ∧ Gb wq base A' (N + t) c' (xs ++ (zs.take j).flatMap (be s) ++ (be s (v : Int)).take t) ∧ Gr w A wq A') (fun i _ _ => (s - (match i with | .int _ z => z.toNat | _ => 0)))
      case atStart => exact ⟨0, A1, c1, by omega, rfl, rfl, by simpa using HG1.out, HR1.out⟩
      case round =>
        obtain ⟨t, A2, c2, hts, rfl, rfl, hg, hgr⟩ := hrel
        have HG2 := Lib.hid hg
        have HR2 := Lib.hid hgr
        clear hg hgr
        by_cases ht : t < s
        · have k1 : (t : Int) < (s : Int) := by omega
          obtain ⟨y, hy⟩ : ∃ y, y = by8 s v t := ⟨_, rfl⟩
          have e8 : (v : Int) / 2 ^ (8 * (s - 1 - t)) % 256 = (y : Int) := by
            rw [hy]; unfold by8; exact (Int.toNat_of_nonneg (Int.emod_nonneg _ (by decide))).symm
          have HY := Lib.hid hy
          have HT2 := Lib.hid (be_take (v : Int) ht)
          have hG' := HG2.out.alloc (.cells #[.int .u8 (y : Int)] 5)
          have hR' := HR2.out.alloc (.cells #[.int .u8 (y : Int)] 5)
          have hc := cell_new wr (.int .u8 (y : Int)) 5
          have hbs : base ≤ (wr.alloc (.cells #[.int .u8 (y : Int)] 5)).heap.size := Nat.le_trans HBa.out hR'.1.size
          have hnt : N + t ≤ 1099511627776 := by omega
          clear hy
          go_wp2_with (at_builtin; refine wpList_app_g _ rfl (.tmp 20) (.tmp 29) rfl rfl hG' rfl hc hnt hR' hbs ?_; intro A7 c7 w7 hG7 hR7)
          exact ⟨⟨t + 1, A7, c7, by omega, rfl, rfl, by rw [HT2.out, ← HY.out, ← List.append_assoc]; exact hG7, hR7⟩, by show s - ((t : Int) + 1).toNat < s - (t : Int).toNat; omega⟩
        · have k1 : ((t : Int) < (s : Int)) = False := by simp only [eq_iff_iff, iff_false]; omega
          have hts2 : t = s := by omega
          have hE : N + t = n + (j + 1) * s := by rw [HN.out, hts2, Nat.succ_mul]; omega
          have hG3 := Lib.hid (be_row HT.out (by rw [hts2]; exact (be_length s v).symm) (hE ▸ HG2.out))
          have HE := Lib.hid hE
          clear hts2 hE
          go_wp2_with fail
          exact ⟨⟨j + 1, A2, c2, by omega, rfl, by rw [HE.out], hG3.out, HR2.out⟩, by show m - ((j : Int) + 1).toNat < m - (j : Int).toNat; omega⟩
    · have e1' : ((j : Int) < (m : Int)) = False := by simp only [eq_iff_iff, iff_false]; omega
      have hjm2 : j = m := by omega
      subst hjm2
      have HG4 := Lib.hid (show Gb wr base A1 (n + j * s) c1 (xs ++ zs.flatMap (be s)) by
        have := HG1.out
        rwa [List.take_of_length_le (by have := HZ.out.1; omega)] at this)
      clear HZ HA
      go_wp2_with fail
      go_ret
      exact ⟨A1, c1, rfl, HG4.out, HR1.out⟩
end Go.Proofs.YthipdagebijbiaaGreatDoor.Wi
