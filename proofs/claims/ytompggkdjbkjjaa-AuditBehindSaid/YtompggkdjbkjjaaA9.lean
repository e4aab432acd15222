/- audit: who tells, and what is taken. -/
import Derived.Test.YtompggkdjbkjjaaA8
namespace Go.Proofs.Ytompggkdjbkjjaa
open Go.RowKit Go.Maps Go.MapKept Go.ChangeMaps
set_option linter.unusedVariables false
set_option maxRecDepth 100000
set_option maxHeartbeats 1000000 in
theorem teller_any (x : Ev) (w : World) : Calls Try.prog 23 #[evV x] w fun e w' => e = .returned (.agg #[.int .u32 (x.p : Int), .int .u32 (x.h : Int)]) ∧ RowKit.Below w.heap.size w w' := by
  go_enter Try.func23, Try.ntmps23
  go_wp2_with fail
  refine bodyPost_ret (v := .agg #[.int .u32 (x.p : Int), .int .u32 (x.h : Int)]) (by simp [results, Try.results23, go_sem]) rfl ⟨rfl, ?_⟩
  exact (((Below.refl _ _).alloc (Nat.le_refl _) _).alloc (by simp) _)
theorem addr_add (g off j : Nat) : (⟨g, off, none⟩ : Addr).add j = ⟨g, off + j, none⟩ := by
  unfold Addr.add
  split
  · simp_all
  · rfl
theorem cut_one (g off i c : Nat) (h1 : 1 ≤ i) (h2 : i ≤ c) (W : World) : (Instr.sliceAt 30 (.slice (some ⟨g, off, none⟩) i c) (some (.int .i64 1)) none none).run Try.prog W =
    .ok (.slice (some (if c = 1 then ⟨g, off, none⟩ else ⟨g, off + 1, none⟩)) (i - 1) (c - 1)) W := by
  have e1 : (1 : Int) ≤ (i : Int) := by omega
  have hz : (Go.sizeOf 3).run Try.prog W = .ok 1 W := by kernel_rfl
  simp [Instr.sliceAt, Instr.slice, run_underlying Try.underlying30, Instr.sliceBounds, Instr.sliceBound, asIntOf, e1, hz, addr_add]
  split <;> simp_all
theorem Sv.tail {w : World} {base : Nat} {v : Value} {y : Nat} {xs : List Nat} (h : Sv w base v (y :: xs)) :
    ∃ v', (∀ W, (Instr.sliceAt 30 v (some (.int .i64 1)) none none).run Try.prog W = .ok v' W) ∧ Sv w base v' xs ∧ v'.ownBlock = v.ownBlock := by
  rcases h with ⟨_, h0⟩ | ⟨g, off, c, rfl, h1, h2, h3, h4, h5, h6⟩
  · cases h0
  · simp only [List.length_cons] at h3
    refine ⟨_, fun W => cut_one g off _ c (by simp) (by simpa using h3) W, .inr ?_, ?_⟩
    · by_cases hc : c = 1
      · refine ⟨g, off, c - 1, by simp [hc], h1, h2, by omega, by omega, fun i hi => h5 i (by omega), fun i x hx => ?_⟩
        have : xs = [] := List.eq_nil_of_length_eq_zero (by omega)
        subst this
        cases hx
      · refine ⟨g, off + 1, c - 1, by simp [hc], h1, h2, by omega, by omega, fun i hi => ?_, fun i x hx => ?_⟩
        · have := h5 (i + 1) (by omega)
          rwa [show off + (i + 1) = off + 1 + i by omega] at this
        · have := h6 (i + 1) x (by simpa using hx)
          rwa [show off + (i + 1) = off + 1 + i by omega] at this
    · by_cases hc : c = 1 <;> simp [hc, Value.ownBlock]
theorem wp_tail {w : World} {o : Oper} {a : Act} {K : Act → World → Prop} {Q : Exit → Act → World → Prop} (m : Operand) (ho : o.op = Op.slice 30 m (some (.const (.int .i64 1))) none none)
    {v v' : Value} (hm : a.eval m = v) (hv : (Instr.sliceAt 30 v (some (.int .i64 1)) none none).run Try.prog w = .ok v' w) (h : K (a.put o.dst v') w) : Oper.wp Try.prog o a w K Q := by
  unfold Oper.wp execOp
  simp only [ho, hm]
  simp [hv, Result.andThen, Act.eval]
  exact h
theorem wp_mput {w : World} {o : Oper} {a : Act} {K : Act → World → Prop} {Q : Exit → Act → World → Prop} (m x v : Operand) (t : TypeId) (ho : o.op = Op.mapUpdate t m x v)
    {mv key val : Value} {w' : World} (hm : a.eval m = mv) (hx : a.eval x = key) (hv : a.eval v = val) (hr : (Instr.mapUpdate t mv key val).run Try.prog w = .ok () w') (h : K (a.put o.dst undef) w') : Oper.wp Try.prog o a w K Q := by
  unfold Oper.wp execOp
  simp only [ho, hm, hx, hv]
  simp [hr, Result.andThen]
  exact h
/-- what is taken of what waits -/
def headI : List Nat → Int
  | [] => -1
  | y :: _ => (y : Int)
theorem grown_of_below {B : Nat} {w w' : World} (h : RowKit.Below B w w') (hB : w.heap.size ≤ B) (r : Option Nat) : w.grownBy w' r := ⟨h.os, h.tape, h.output, h.size, fun k hk _ => h.block k (by omega)⟩
set_option maxHeartbeats 2000000 in
theorem take_any {w : World} {base b n : Nat} {O : Option Nat} {L : Value → List Nat} {F : Value → Value} (h : Pd w base b n O L F) (hO : ∀ k, O = some k → k < w.heap.size) (hn : n < 1000000)
    {f t : Nat} {xs : List Nat} (hf : f < 4294967296) (ht : t < 4294967296) (hx : xs.length ≤ maxLen) :
    Calls Try.prog 22 #[.map (some b), kv f t xs] w fun e w' => e = .returned (.int .i64 (headI (L (kv f t xs)))) ∧ (∃ F', Pd w' base b (n + 1) O (upd L (kv f t xs) (L (kv f t xs)).tail) F') ∧ w.grownBy w' (some b) := by
  obtain ⟨kl, hkl⟩ := key63 hf ht hx
  obtain ⟨W, hW⟩ : ∃ W, W = w.alloc (.cells #[.int .u32 (f : Int), .int .u32 (t : Int), .string (bstr xs)] 63) := ⟨_, rfl⟩
  have hb : RowKit.Below w.heap.size w W := by rw [hW]; exact (Below.refl _ _).alloc (Nat.le_refl _) _
  have hbox : W.heap[w.heap.size]? = some (.cells #[.int .u32 (f : Int), .int .u32 (t : Int), .string (bstr xs)] 63 (0, 0)) := by rw [hW]; exact heap_alloc_new w _
  have hP := h.below hb
  obtain ⟨g, hM⟩ := hP.map
  have hlook := hM.look law63 Try.underlying59 (zero30 W) hkl
  have hs : w.heap.size < W.heap.size := (Array.getElem?_eq_some_iff.1 hbox).1
  have c0 : W.cell? ⟨w.heap.size, 0, none⟩ = some (.int .u32 (f : Int)) := by simp [World.cell?, hbox]
  have c1 : W.cell? ⟨w.heap.size, 1, none⟩ = some (.int .u32 (t : Int)) := by simp [World.cell?, hbox]
  have c2 : W.cell? ⟨w.heap.size, 2, none⟩ = some (.string (bstr xs)) := by simp [World.cell?, hbox]
  have hput := fun (W' : World) (hW' : Mp Try.prog 63 (.slice none 0 0) W' b n F g) (v : Value) => hW'.put law63 Try.underlying59 (by unfold maxLen; omega) hkl v
  have hrow := hP.rows (kv f t xs)
  have HW := Lib.hid hW
  have HP := Lib.hid hP
  have HM := Lib.hid hM
  have HPut := Lib.hid hput
  have HB := Lib.hid hb
  have HO := Lib.hid hO
  have HRow := Lib.hid hrow
  have HS := Lib.hid hs
  have HBox := Lib.hid hbox
  clear hW hb hP hM hput hkl hs hrow hbox h hO
  obtain ⟨l, hl⟩ : ∃ l, l = L (kv f t xs) := ⟨_, rfl⟩
  obtain ⟨v, hv⟩ : ∃ v, v = F (kv f t xs) := ⟨_, rfl⟩
  rw [← hl] at HRow ⊢
  rw [← hv] at HRow hlook
  have HL := Lib.hid hl
  have HV := Lib.hid hv
  clear hl hv
  unfold kv at hlook ⊢
  cases l with
  | nil =>
    obtain ⟨A, c, rfl⟩ : ∃ A c, v = .slice A 0 c := by
      rcases HRow.out with ⟨e, _⟩ | ⟨g, off, c, e, _⟩
      · exact ⟨_, _, e⟩
      · exact ⟨_, _, e⟩
    go_enter Try.func22, Try.ntmps22
    go_upto_region 1 with fail
    rw [← HW.out]
    go_wp2_with fail
    go_ret
    refine ⟨rfl, ⟨F, ?_⟩, grown_of_below HB.out (Nat.le_refl _) _⟩
    have : upd L (kv f t xs) ([] : List Nat).tail = L := by
      funext q
      by_cases e : q = kv f t xs
      · rw [e, upd_same, ← HL.out]; rfl
      · rw [upd_other _ _ e]
    rw [show Value.agg #[.int .u32 (f : Int), .int .u32 (t : Int), .string (bstr xs)] = kv f t xs from rfl, this]
    exact HP.out.mono (Nat.le_succ n)
  | cons y l =>
    obtain ⟨v', hv', hsv', hblk⟩ := HRow.out.tail
    obtain ⟨g0, off, c, hvv, hb0, hg0, hlc, hcm, hcell, hval⟩ : ∃ g off c, v = .slice (some ⟨g, off, none⟩) (l.length + 1) c ∧ base ≤ g ∧ g < W.heap.size ∧ l.length + 1 ≤ c ∧ c ≤ maxLen ∧
        (∀ i, i < c → (W.cell? ⟨g, off + i, none⟩).isSome = true ∧ W.frozen? ⟨g, off + i, none⟩ = false) ∧ ∀ i x : Nat, (y :: l)[i]? = some x → W.cell? ⟨g, off + i, none⟩ = some (.int .i64 (x : Int)) := by
      rcases HRow.out with ⟨_, h0⟩ | h
      · cases h0
      · exact h
    obtain ⟨W3, hrun, hM3, hg3⟩ := HPut.out W.drew (HM.out.keep rfl) v'
    have hne : g0 ≠ b := by have := HP.out.lt; omega
    have d0 : W3.cell? ⟨g0, off, none⟩ = some (.int .i64 (y : Int)) := (World.cell?_of_block (a := ⟨g0, off, none⟩) (hg3.block g0 hg0 (by simpa using hne))).trans (hval 0 y rfl)
    have hbb : w.heap.size ≠ b := by
      have := HP.out.lt
      have h2 := (HM.out.keep (w' := W) rfl).lt
      intro e
      obtain ⟨D, ⟨es, clock, hh, _⟩, _⟩ := HM.out
      have h3 := HBox.out
      rw [e] at h3
      rw [hh] at h3
      cases h3
    have hbx3 : W3.heap[w.heap.size]? = some (.cells #[.int .u32 (f : Int), .int .u32 (t : Int), .string (bstr xs)] 63 (0, 0)) := (hg3.block _ HS.out (by simpa using hbb)).trans HBox.out
    have k0 : W3.cell? ⟨w.heap.size, 0, none⟩ = some (.int .u32 (f : Int)) := by simp [World.cell?, hbx3]
    have k1 : W3.cell? ⟨w.heap.size, 1, none⟩ = some (.int .u32 (t : Int)) := by simp [World.cell?, hbx3]
    have k2 : W3.cell? ⟨w.heap.size, 2, none⟩ = some (.string (bstr xs)) := by simp [World.cell?, hbx3]
    have HR := Lib.hid hrun
    have HT := Lib.hid hv'
    have HF : Pd W3 base b (n + 1) O (upd L (kv f t xs) l) (upd F (kv f t xs) v') :=
      HP.out.store (w1 := W.drew) (w2 := W.drew) ⟨rfl, rfl, rfl, Nat.le_refl _, fun _ _ _ => rfl⟩ ⟨rfl, rfl, rfl, Nat.le_refl _, fun _ _ _ => rfl⟩ (hsv'.keep (Nat.le_refl _) fun _ _ _ => rfl) (.inl (hblk.trans (by rw [HV.out]))) hg3 (fun k hk => Nat.lt_trans (HO.out k hk) HS.out) ⟨_, hM3⟩
    have HF' := Lib.hid HF
    have HG := Lib.hid (show w.grownBy W3 (some b) from ⟨hg3.os.trans HB.out.os, hg3.tape.trans HB.out.tape, hg3.output.trans HB.out.output, Nat.le_trans HB.out.size hg3.size, fun k hk hne => (hg3.block k (Nat.lt_of_lt_of_le hk HB.out.size) hne).trans (HB.out.block k hk)⟩)
    clear hrun hv' HF hcell hval hg3 hM3 hbx3 hblk hsv' hb0 hg0 hcm hne hbb
    subst hvv
    have e1 : ((l.length + 1 : Nat) : Int) ≠ 0 := by omega
    have e2 : (0 : Int) < ((l.length + 1 : Nat) : Int) := by omega
    have hs1 := HT.out
    have hr1 : (Instr.mapUpdate 59 (.map (some b)) (.agg #[.int .u32 (f : Int), .int .u32 (t : Int), .string (bstr xs)]) v').run Try.prog W.drew = .ok () W3 := HR.out
    have hs2 : ∀ W, (Instr.slice 30 (.slice (some ⟨g0, off, none⟩) (l.length + 1) c) (some (.int .i64 1)) none none).run Try.prog W = .ok v' W := fun W => by rw [← run_sliceAt_slice W 30 _ _ _ _ Try.underlying30]; exact hs1 W
    go_enter Try.func22, Try.ntmps22
    go_upto_region 1 with fail
    rw [← HW.out]
    go_upto_region 4 with fail
    go_region_held3 (fun w' => w'.cell? ⟨w.heap.size, 0, none⟩ = some (.int .u32 (f : Int)) ∧ w'.cell? ⟨w.heap.size, 1, none⟩ = some (.int .u32 (t : Int)) ∧ w'.cell? ⟨w.heap.size, 2, none⟩ = some (.string (bstr xs)))
      (first | exact ⟨c0, c1, c2⟩ | exact ⟨k0, k1, k2⟩)
      (fail)
    go_wp2_with fail
    go_ret
    exact ⟨rfl, ⟨_, HF'.out⟩, HG.out⟩
end Go.Proofs.Ytompggkdjbkjjaa
