/- bytes.Compare. reader.kids' closure. neighbours over places. -/
import Derived.Test.YtddpgckbdccldaaF5
import Derived.Lib.BytesEntry
import Derived.Laws.Externs
import Derived.Deep.RegionHeld3
namespace Go.Proofs.Ytddpgckbdccldaa
open Go.RowKit
set_option linter.unusedVariables false
set_option linter.unusedSimpArgs false
set_option maxRecDepth 100000
/-- how two rows of bytes compare -/
def cmpB : List Nat → List Nat → Int
  | [], [] => 0
  | [], _ :: _ => -1
  | _ :: _, [] => 1
  | x :: xs, y :: ys => if x < y then -1 else if y < x then 1 else cmpB xs ys
theorem cmpB_eq : ∀ {xs ys : List Nat}, Lim 256 xs → Lim 256 ys → Lib.compareBytes (Lib.bytesOf (xs.map fun x : Nat => (x : Int))) (Lib.bytesOf (ys.map fun x : Nat => (x : Int))) = cmpB xs ys
  | [], [], _, _ => rfl
  | [], _ :: _, _, _ => rfl
  | _ :: _, [], _, _ => rfl
  | x :: xs, y :: ys, hx, hy => by
    have ih := cmpB_eq (xs := xs) (ys := ys) (fun z hz => hx z (by simp [hz])) (fun z hz => hy z (by simp [hz]))
    have h1 : x < 256 := hx x (by simp)
    have h2 : y < 256 := hy y (by simp)
    have e1 : ∀ (z : Nat) (zs : List Nat), Lib.bytesOf ((z :: zs).map fun x : Nat => (x : Int)) = z.toUInt8 :: Lib.bytesOf (zs.map fun x : Nat => (x : Int)) := fun z zs => by simp [Lib.bytesOf]
    rw [e1, e1]
    unfold Lib.compareBytes cmpB
    rw [ih]
    have l1 : (x.toUInt8 < y.toUInt8) = (x < y) := by
      rw [UInt8.lt_iff_toNat_lt]
      simp only [Nat.toUInt8_eq, UInt8.toNat_ofNat', Nat.reducePow]
      rw [Nat.mod_eq_of_lt h1, Nat.mod_eq_of_lt h2]
    have l2 : (y.toUInt8 < x.toUInt8) = (y < x) := by
      rw [UInt8.lt_iff_toNat_lt]
      simp only [Nat.toUInt8_eq, UInt8.toNat_ofNat', Nat.reducePow]
      rw [Nat.mod_eq_of_lt h1, Nat.mod_eq_of_lt h2]
    simp only [l1, l2]
theorem bytesOf_run {w : World} {B : Nat} {A : Option Addr} {n c : Nat} {xs : List Nat} (h : Nb w B A n c xs) : (Extern.Bytes.bytesOf (.slice A n c)).run Try.prog w = .ok ⟨(Lib.bytesOf (xs.map fun x : Nat => (x : Int))).toArray⟩ w := by
  cases A with
  | none =>
    have h0 : n = 0 := by
      rcases Nat.eq_zero_or_pos n with h0 | h0
      · exact h0
      · obtain ⟨b, off, e, _⟩ := h.cell h0
        cases e
    subst h0
    rw [List.eq_nil_of_length_eq_zero h.len]
    rfl
  | some ad =>
    have hl := Lib.run_loadBytesX (P := Try.prog) w (xs.map fun x : Nat => (x : Int)) ad .empty (fun j x hj => by
      simp only [List.getElem?_map, Option.map_eq_some_iff] at hj
      obtain ⟨y, hy, rfl⟩ := hj
      exact h.olds j (.int .u8 (y : Int)) (by simp [bvs, hy]))
    rw [List.length_map, h.len] at hl
    show (Extern.Bytes.loadBytes ad n .empty).run Try.prog w = _
    rw [hl]
    congr 1
    apply ByteArray.ext
    show (#[] : Array UInt8) ++ _ = _
    simp
theorem compare_run {w : World} {B B' : Nat} {A A2 : Option Addr} {n c m d : Nat} {xs ys : List Nat} (h : Nb w B A n c xs) (k : Nb w B' A2 m d ys) : (callFunc 78 #[.slice A n c, .slice A2 m d]).run Try.prog w = .ok (.value (.int .i64 (cmpB xs ys))) w := by
  rw [run_callFunc_extern (P := Try.prog) (f := 78) (fn := Try.f78) (by kernel_rfl) (by kernel_rfl) (by kernel_rfl) (by kernel_rfl) (e := Extern.BytealgCompare.compare) (by kernel_rfl)]
  have : (Extern.BytealgCompare.compare #[.slice A n c, .slice A2 m d]).run Try.prog w = .ok (.int .i64 (cmpB xs ys)) w := by
    change Sem.run Try.prog (do pure (goInt (Extern.BytealgCompare.cmp (← Extern.Bytes.bytesOf (.slice A n c)) (← Extern.Bytes.bytesOf (.slice A2 m d))))) w = _
    simp only [Sem.run_bind, Sem.run_pure, bytesOf_run h, bytesOf_run k, Result.andThen]
    rw [Lib.cmp_eq]
    show Result.ok (goInt (Lib.compareBytes (Lib.bytesOf _) (Lib.bytesOf _))) w = _
    rw [cmpB_eq h.lim k.lim]
    rfl
  rw [this]
  rfl
theorem compare_any {w : World} {B B' : Nat} {A A2 : Option Addr} {n c m d : Nat} {xs ys : List Nat} (h : Nb w B A n c xs) (k : Nb w B' A2 m d ys) : Calls Try.prog 71 #[.slice A n c, .slice A2 m d] w fun e w' => e = .returned (.int .i64 (cmpB xs ys)) ∧ w' = w := by
  have hc := compare_run h k
  clear h k
  generalize cmpB xs ys = z at *
  go_enter Try.func71, Try.ntmps71
  go_wp2_with fail
  go_ret
  exact ⟨rfl, rfl⟩
end Go.Proofs.Ytddpgckbdccldaa
namespace Go.Proofs.Ytddpgckbdccldaa
open Go.RowKit
set_option linter.unusedVariables false
set_option linter.unusedSimpArgs false
set_option maxRecDepth 100000
/-- the bytes at a place -/
def cutP (bs : List Nat) (p : Nat × Nat) : List Nat := (bs.drop p.1).take (p.2 - p.1)
theorem B2.drew {w : World} {g : Nat} {t : TypeId} {a b : Value} (h : B2 w g t a b) (n : Nat) : B2 (w.drewN n) g t a b := h
set_option maxHeartbeats 4000000 in
theorem clo_any {w : World} {g k : Nat} {A : Option Addr} {n c : Nat} {bs : List Nat} {a h p1 p2 q1 q2 : Nat} (R : Rb w g A n c a h) (hk : w.cell? ⟨k, 0, none⟩ = some (.pointer (some ⟨g, 0, none⟩))) (hkl : k < w.heap.size) (N : Nb w g A n c bs)
    (hp : p1 ≤ p2) (hp2 : p2 ≤ n) (hq : q1 ≤ q2) (hq2 : q2 ≤ n) :
    Calls Try.prog 75 #[.agg #[.int .i64 (p1 : Int), .int .i64 (p2 : Int)], .agg #[.int .i64 (q1 : Int), .int .i64 (q2 : Int)], .pointer (some ⟨k, 0, none⟩)] w fun e w' => e = .returned (.bool (decide (cmpB (cutP bs (p1, p2)) (cutP bs (q1, q2)) ≤ 0))) ∧ Below w.heap.size w w' := by
  have hcap := N.cap
  obtain ⟨A1, hs1, hs2, -, hnb1⟩ := cut_lh A n c p1 p2 hp (by omega)
  obtain ⟨A2, ht1, ht2, -, hnb2⟩ := cut_lh A n c q1 q2 hq (by omega)
  obtain ⟨w1, hw1⟩ : ∃ w1, w1 = (w.alloc (.cells #[.int .i64 (p1 : Int), .int .i64 (p2 : Int)] 97)).alloc (.cells #[.int .i64 (q1 : Int), .int .i64 (q2 : Int)] 97) := ⟨_, rfl⟩
  have hb : Below w.heap.size w w1 := by rw [hw1]; exact ((Below.refl _ _).alloc (Nat.le_refl _) _).alloc (by simp) _
  have hbx1 : B2 w1 w.heap.size 97 (.int .i64 (p1 : Int)) (.int .i64 (p2 : Int)) := by
    rw [hw1]; exact (B2.new w 97 _ _).keep ((Below.refl _ _).alloc (Nat.le_refl _) _) (by simp)
  have hbx2 : B2 w1 (w.heap.size + 1) 97 (.int .i64 (q1 : Int)) (.int .i64 (q2 : Int)) := by
    rw [hw1]
    have := B2.new (w.alloc (.cells #[.int .i64 (p1 : Int), .int .i64 (p2 : Int)] 97)) 97 (.int .i64 (q1 : Int)) (.int .i64 (q2 : Int))
    simpa using this
  have hR1 : Rb w1 g A n c a h := Bx.keep R hb R.lt
  have hN1 : Nb w1 g A n c bs := N.below (hb.mono (by have := R.lt; omega))
  have hk1 : w1.cell? ⟨k, 0, none⟩ = some (.pointer (some ⟨g, 0, none⟩)) := (hb.cell (p := ⟨k, 0, none⟩) hkl).trans hk
  have HC := Lib.hid (fun j => compare_any ((hnb1 hN1 hp2).keep (w' := w1.drewN j) (fun _ _ => rfl)) ((hnb2 hN1 hq2).keep (w' := w1.drewN j) (fun _ _ => rfl)))
  obtain ⟨c0, c1, c2, -, -, -⟩ := hR1.cells
  obtain ⟨d0, d1, -, -⟩ := hbx1.cells
  obtain ⟨e0, e1, -, -⟩ := hbx2.cells
  have HB := Lib.hid hb
  have HZ : Hid (cmpB (cutP bs (p1, p2)) (cutP bs (q1, q2)) = cmpB ((bs.drop p1).take (p2 - p1)) ((bs.drop q1).take (q2 - q1))) := rfl
  clear hnb1 hnb2 hbx1 hbx2 hR1 hN1 R N hk hb
  rw [HZ.out]
  generalize cmpB ((bs.drop p1).take (p2 - p1)) ((bs.drop q1).take (q2 - q1)) = z at *
  obtain ⟨m1, hm1⟩ : ∃ m1, Hid (p2 - p1 = m1) := ⟨_, Lib.hid rfl⟩
  obtain ⟨m2, hm2⟩ : ∃ m2, Hid (q2 - q1 = m2) := ⟨_, Lib.hid rfl⟩
  simp only [hm1.out, hm2.out] at hs1 hs2 ht1 ht2 HC
  go_enter Try.func75, Try.ntmps75
  go_upto_region 1 with (fail)
  rw [← hw1]
  clear hw1
  go_quiet ((go_at_call 71; with_reducible exact Calls.quiet_of_same (HC.out _)))
  go_wp2_with fail
  go_ret
  exact ⟨rfl, below_drewN HB.out _⟩
end Go.Proofs.Ytddpgckbdccldaa
namespace Go.Proofs.Ytddpgckbdccldaa
open Go.RowKit
set_option linter.unusedVariables false
set_option linter.unusedSimpArgs false
set_option maxRecDepth 100000
/-- do the bytes at places rise? -/
def risesP (bs : List Nat) : List (Nat × Nat) → Bool
  | [] => true
  | [_] => true
  | p :: q :: r => decide (cmpB (cutP bs p) (cutP bs q) ≤ 0) && risesP bs (q :: r)
/-- places in memory -/
structure Pl (w : World) (B : Nat) (P : Option Addr) (m d : Nat) (ps : List (Nat × Nat)) : Prop where
  len : ps.length = m
  cap : m ≤ d
  room : d ≤ maxLen
  cell : 0 < m → ∃ g off, P = some ⟨g, off, none⟩ ∧ g < B ∧ ∀ i p, ps[i]? = some p → w.cell? ⟨g, off + i * 2, none⟩ = some (.int .i64 (p.1 : Int)) ∧ w.cell? ⟨g, off + i * 2 + 1, none⟩ = some (.int .i64 (p.2 : Int))
theorem Pl.keep {w w' : World} {B : Nat} {P : Option Addr} {m d : Nat} {ps : List (Nat × Nat)} (h : Pl w B P m d ps) (hk : ∀ p : Addr, p.block < B → w'.cell? p = w.cell? p) : Pl w' B P m d ps :=
  ⟨h.len, h.cap, h.room, fun h0 => by
    obtain ⟨g, off, e, hg, hc⟩ := h.cell h0
    exact ⟨g, off, e, hg, fun i p hp => ⟨(hk ⟨g, _, none⟩ hg).trans (hc i p hp).1, (hk ⟨g, _, none⟩ hg).trans (hc i p hp).2⟩⟩⟩
theorem enter_of {f : FuncId} {fn : Func} (hf : Try.prog.funcs[f]? = some fn) (hname : (fn.name == "runtime.NumGoroutine") = false) (hb : fn.body.isSome = true) (args : Array Value) (w : World) : (callFunc f args).run Try.prog w = .ok (.enter f args) w := by
  have h1 : fn.name ≠ "runtime.NumGoroutine" := by simpa using hname
  obtain ⟨b, hb'⟩ := Option.isSome_iff_exists.1 hb
  simp [callFunc, hf, h1, hb', mark, Sem.run]
theorem enter75 (args : Array Value) (w : World) : (callFunc 75 args).run Try.prog w = .ok (.enter 75 args) w := enter_of Try.func75 (by kernel_rfl) (by kernel_rfl) args w
theorem risesP_next {bs : List Nat} {ps : List (Nat × Nat)} {j : Nat} {p q : Nat × Nat} (hp : ps[j]? = some p) (hq : ps[j + 1]? = some q) : risesP bs (ps.drop j) = (decide (cmpB (cutP bs p) (cutP bs q) ≤ 0) && risesP bs (ps.drop (j + 1))) := by
  obtain ⟨hj, rfl⟩ := List.getElem?_eq_some_iff.1 hp
  obtain ⟨hj2, rfl⟩ := List.getElem?_eq_some_iff.1 hq
  rw [List.drop_eq_getElem_cons hj, List.drop_eq_getElem_cons hj2]
  rfl
theorem risesP_end {bs : List Nat} {ps : List (Nat × Nat)} {j : Nat} (h : ps.length ≤ j + 1) : risesP bs (ps.drop j) = true := by
  have : (ps.drop j).length ≤ 1 := by rw [List.length_drop]; omega
  match hd : ps.drop j, this with
  | [], _ => rfl
  | [_], _ => rfl
  | _ :: _ :: _, h => simp at h
set_option maxHeartbeats 4000000 in
theorem neighP_any {w : World} {g k : Nat} {A : Option Addr} {n c : Nat} {bs : List Nat} {a h : Nat} {P : Option Addr} {m d : Nat} {ps : List (Nat × Nat)} (R : Rb w g A n c a h) (hk : w.cell? ⟨k, 0, none⟩ = some (.pointer (some ⟨g, 0, none⟩))) (hkl : k < w.heap.size) (N : Nb w g A n c bs)
    (L : Pl w w.heap.size P m d ps) (hps : ∀ p, p ∈ ps → p.1 ≤ p.2 ∧ p.2 ≤ n) (hm : m ≤ 65535) :
    Calls Try.prog 74 #[.slice P m d, .func (.func 75) #[] #[.pointer (some ⟨k, 0, none⟩)]] w fun e w' => e = .returned (.bool (risesP bs ps)) ∧ Below w.heap.size w w' := by
  have hr := enter75
  have HL := Lib.hid L
  have HM := Lib.hid L.len
  have HC := Lib.hid (fun (W : World) (b : Below w.heap.size w W) (p q : Nat × Nat) (hp : p ∈ ps) (hq : q ∈ ps) => clo_any (p1 := p.1) (p2 := p.2) (q1 := q.1) (q2 := q.2) (Bx.keep R b R.lt) ((b.cell (p := ⟨k, 0, none⟩) hkl).trans hk) (Nat.lt_of_lt_of_le hkl b.size) (N.below (b.mono (by have := R.lt; omega))) (hps p hp).1 (hps p hp).2 (hps q hq).1 (hps q hq).2)
  clear R hk hkl N L hps
  go_enter Try.func74, Try.ntmps74
  go_wp2_with fail
  go_loopw [5] (fun i wr => ∃ j : Nat, 1 ≤ j ∧ j ≤ 65536 ∧ i = .int .i64 (j : Int) ∧ Hid (risesP bs (ps.drop (j - 1)) = risesP bs ps) ∧ Hid (Below w.heap.size w wr)) (fun i _ => m + 1 - (intOf i).toNat)
  case atStart => exact ⟨1, Nat.le_refl _, by omega, rfl, Lib.hid rfl, Lib.hid (Below.refl _ _)⟩
  case round =>
    obtain ⟨j, hj1, hj6, rfl, hR, hBr⟩ := hrel
    by_cases hlt : j < m
    · obtain ⟨i, hi⟩ : ∃ i, j = i + 1 := ⟨j - 1, by omega⟩
      obtain ⟨p, hp⟩ : ∃ p, ps[i]? = some p := ⟨_, List.getElem?_eq_getElem (by rw [HM.out]; omega)⟩
      obtain ⟨q, hq⟩ : ∃ q, ps[i + 1]? = some q := ⟨_, List.getElem?_eq_getElem (by rw [HM.out]; omega)⟩
      have hnx := risesP_next (bs := bs) hp hq
      rw [show i = j - 1 by omega, hR.out, show j - 1 + 1 = j + 1 - 1 by omega] at hnx
      obtain ⟨gp, off, rfl, hgp, hcell⟩ := (HL.out.keep (fun x hx => hBr.out.cell hx)).cell (by omega)
      obtain ⟨c0, c1⟩ := hcell i p hp
      obtain ⟨c2, c3⟩ := hcell (i + 1) q hq
      have HK := Lib.hid (HC.out wr.drew hBr.out.drew p q (List.mem_of_getElem? hp) (List.mem_of_getElem? hq))
      have HCE : Hid (∀ W, Below w.heap.size w W → W.cell? ⟨gp, off + i * 2, none⟩ = some (.int .i64 (p.1 : Int)) ∧ W.cell? ⟨gp, off + i * 2 + 1, none⟩ = some (.int .i64 (p.2 : Int)) ∧ W.cell? ⟨gp, off + (i + 1) * 2, none⟩ = some (.int .i64 (q.1 : Int)) ∧ W.cell? ⟨gp, off + (i + 1) * 2 + 1, none⟩ = some (.int .i64 (q.2 : Int))) := by
        intro W hW
        obtain ⟨g2, off2, e2, _, hc2⟩ := (HL.out.keep (fun x hx => hW.cell hx)).cell (by omega)
        cases e2
        exact ⟨(hc2 i p hp).1, (hc2 i p hp).2, (hc2 (i + 1) q hq).1, (hc2 (i + 1) q hq).2⟩
      have ei : (j : Int) - 1 = (i : Int) := by omega
      have ew : IntKind.i64.wrap ((j : Int) - 1) = (i : Int) := by rw [IntKind.wrap_i64]; omega
      have e1 : (j : Int) < (m : Int) := by omega
      have ew2 : IntKind.i64.wrap (i : Int) = (i : Int) := by rw [IntKind.wrap_i64]; omega
      have him : i < m := by omega
      have him2 : (i : Int) < (m : Int) := by omega
      have hi0 : (0 : Int) ≤ (i : Int) := by omega
      have hj0 : (0 : Int) ≤ (j : Int) := by omega
      have HX := Lib.hid hnx
      have HI := Lib.hid hi
      rw [← hi] at c2 c3 HCE
      clear hnx hcell hp hq hi
      obtain ⟨p1, p2⟩ := p
      obtain ⟨q1, q2⟩ := q
      dsimp only at *
      go_wp2_with fail
      go_region_held3 (fun w' => w'.cell? ⟨gp, off + i * 2, none⟩ = some (.int .i64 (p1 : Int)) ∧ w'.cell? ⟨gp, off + i * 2 + 1, none⟩ = some (.int .i64 (p2 : Int)) ∧ w'.cell? ⟨gp, off + j * 2, none⟩ = some (.int .i64 (q1 : Int)) ∧ w'.cell? ⟨gp, off + j * 2 + 1, none⟩ = some (.int .i64 (q2 : Int)))
        (first | exact ⟨c0, c1, c2, c3⟩ | exact HS2.out)
        (first
          | (go_at_call 75; (with_reducible refine HK.out.mono ?_)
             rintro r w2 ⟨rfl, b2⟩
             have HB2 : Hid (Below w.heap.size w w2) := bthen (w1 := wr.drew) hBr.out.drew b2
             have HS2 : Hid (w2.cell? ⟨gp, off + i * 2, none⟩ = some (.int .i64 (p1 : Int)) ∧ w2.cell? ⟨gp, off + i * 2 + 1, none⟩ = some (.int .i64 (p2 : Int)) ∧ w2.cell? ⟨gp, off + j * 2, none⟩ = some (.int .i64 (q1 : Int)) ∧ w2.cell? ⟨gp, off + j * 2 + 1, none⟩ = some (.int .i64 (q2 : Int))) := HCE.out w2 HB2.out
             clear b2))
      have HB2' := Lib.hid HB2.out
      clear HCE
      rcases hdc : decide (cmpB (cutP bs (p1, p2)) (cutP bs (q1, q2)) ≤ 0) with _ | _
      · rw [hdc] at HX
        have HF := Lib.hid (show risesP bs ps = false by rw [HX.out]; rfl)
        clear hdc
        go_wp2_with fail
        go_ret
        exact ⟨by rw [HF.out]; rfl, HB2'.out⟩
      · rw [hdc, Bool.true_and] at HX
        have HJ := Lib.hid hlt
        have HX2 := Lib.hid HX.out.symm
        clear hdc hlt
        go_wp2_with fail
        exact ⟨⟨j + 1, by omega, by have := HJ.out; omega, by go_num, HX2, HB2'⟩, by show m + 1 - ((j : Int) + 1).toNat < m + 1 - (j : Int).toNat; have := HJ.out; omega⟩
    · have e1' : ((j : Int) < (m : Int)) = False := by simp only [eq_iff_iff, iff_false]; omega
      have HF := Lib.hid (show risesP bs ps = true by rw [← hR.out]; exact risesP_end (by rw [HM.out]; omega))
      clear hlt
      go_wp2_with fail
      go_ret
      exact ⟨by rw [HF.out]; rfl, hBr.out⟩
end Go.Proofs.Ytddpgckbdccldaa
