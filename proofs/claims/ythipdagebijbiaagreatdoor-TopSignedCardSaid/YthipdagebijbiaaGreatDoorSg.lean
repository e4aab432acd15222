/- values.Signed of any value. -/
import Derived.Test.YthipdagebijbiaaGreatDoorVv
import Derived.Test.YthipdagebijbiaaGreatDoorWi
import Derived.ArgAppend
import Derived.Deep.Cut
import Derived.Deep.RegionHeld3
import Derived.Deep.RegionLawGrows
namespace Go.Proofs.YthipdagebijbiaaGreatDoor.Sg
open Go.RowKit
set_option linter.unusedVariables false
set_option linter.unusedSimpArgs false
set_option maxRecDepth 100000
open Go.Proofs.YthipdagebijbiaaGreatDoor.Vv (by4 bs Bb place_any then_ bs_splice)
theorem length_bs (xs : List Nat) : (bs xs).length = xs.length := by simp [bs]
theorem bb_nb {w : World} {g t n : Nat} {xs : List Nat} (h : Bb w g t xs) (hl : xs.length = n) (hL : Wi.Lim 256 xs) (hn : n ≤ 9223372036854775807) : Wi.Nb w w.heap.size (some ⟨g, 0, none⟩) n n xs :=
  ⟨hl, Nat.le_refl _, hn, hL, fun _ => ⟨g, 0, rfl, h.lt, fun j x hx => by rw [Nat.zero_add]; exact h.cell hx⟩⟩
theorem wp_app12 (w : World) {o : Oper} {a : Act} {K : Act → World → Prop} {Q : Exit → Act → World → Prop} (s x : Operand)
    (ho : o.op = .call { callee := .builtin .append, args := #[s, x], argTypes := #[23, 23] }) {base g t m c2 : Nat} {A2 : Option Addr} {xs ys : List Nat} {w0 : World}
    (hs : a.eval s = .slice (some ⟨g, 0, none⟩) 12 12) (hx12 : Bb w g t xs) (hl : xs.length = 12) (hL : Wi.Lim 256 xs) (hx : a.eval x = .slice A2 m c2) (hr : Wi.Nb w w.heap.size A2 m c2 ys)
    (hn : m ≤ 1099511627776) (hb : Below base w0 w) (hbase : base ≤ w.heap.size)
    (h : ∀ A' c' w', Wi.Nb w' w'.heap.size A' (12 + m) c' (xs ++ ys) → Below base w0 w' → K (a.put o.dst (.slice A' (12 + m) c')) w') : Oper.wp Tryz.prog o a w K Q := by
  obtain ⟨i0, hi, hz0, hz1, hz2⟩ := info_parts Go.Proofs.YthipdagebijbiaaGreatDoor.Wi.Tryz.info5'
  have hno := bb_nb hx12 hl hL (by omega)
  rcases Nat.eq_zero_or_pos m with hm | hm
  · subst hm
    have hy : ys = [] := List.eq_nil_of_length_eq_zero hr.len
    subst hy
    have hrun : (Builtin.append_ #[23, 23] o.type #[.slice (some ⟨g, 0, none⟩) 12 12, .slice A2 0 c2]).run Tryz.prog w = .ok (.slice (some ⟨g, 0, none⟩) 12 12) w := by
      cases A2 with
      | none => simp [Builtin.append_, run_underlying Tryz.underlying23, sizeOf, typeInfo, hi, Builtin.lenOf, Builtin.firstCells, storeCells]
      | some ad => exact run_append_room_cells w 23 o.type 5 i0 Tryz.underlying23 hi g 0 12 12 ad 0 c2 [] (by simp) (fun j u hj => by simp at hj) (fun u hu => by cases hu) (by omega) (fun j hj => by simp at hj) (fun j hj => by simp at hj)
    unfold Oper.wp execOp
    simp only [ho, resolve, invoke, builtin, Sem.run_bind, Sem.run_pure, Result.andThen_ok, List.map_toArray, List.map_cons, List.map_nil, hs, hx, hrun]
    exact h _ 12 w (by simpa using hno) hb
  · obtain ⟨b, off, rfl, hbb, hc⟩ := hr.cell hm
    obtain ⟨v', w', hrun, hown, hgrow⟩ := run_append_arg_grows (P := Tryz.prog) w 23 o.type 5 i0 (.int .u8 0) 1 1 Tryz.underlying23 hi hz0 hz1 hz2 rfl (by decide) ⟨g, 0, none⟩ 12 12 (bs xs) (by simp [length_bs, hl]) (fun j u hj => by
      simp only [bs, List.getElem?_map, Option.map_eq_some_iff] at hj
      obtain ⟨y, hy, rfl⟩ := hj
      have := hx12.cell hy
      rw [Addr.add_lit, Nat.zero_add]
      exact this) ⟨b, off, none⟩ m c2 (bs ys) (by simp [length_bs, hr.len]) (Wi.Nb.olds hr) (by omega) (by unfold maxLen; omega) (by omega)
    have hown' : w'.ownsRow w.heap.size 5 1 v' (12 + m) (Wi.bs (xs ++ ys)) := by
      have : Wi.bs (xs ++ ys) = bs xs ++ bs ys := by simp [bs, Wi.bs]
      rw [this]; exact hown
    obtain ⟨A', c', rfl, hN⟩ := Go.Proofs.YthipdagebijbiaaGreatDoor.Wi.ownsRow_nb (by simp [hl, hr.len]) (hL.append hr.lim) hown'
    unfold Oper.wp execOp
    simp only [ho, resolve, invoke, builtin, Sem.run_bind, Sem.run_pure, Result.andThen_ok, List.map_toArray, List.map_cons, List.map_nil, hs, hx, hrun]
    exact h A' c' w' hN (hb.grown hgrow hbase fun k hk => by cases hk)
def ObjW (ts fs : Nat) (A : Option Addr) (n c : Nat) (A2 : Option Addr) (n2 c2 : Nat) : Obj := .cells #[.int .u32 (ts : Int), .int .u32 (fs : Int), .slice A n c, .slice A2 n2 c2] 25
theorem objW_cells {w : World} {g ts fs n c n2 c2 : Nat} {A A2 : Option Addr} (h : w.heap[g]? = some (ObjW ts fs A n c A2 n2 c2)) : w.cell? ⟨g, 0, none⟩ = some (.int .u32 (ts : Int)) ∧ w.cell? ⟨g, 1, none⟩ = some (.int .u32 (fs : Int)) ∧ w.cell? ⟨g, 2, none⟩ = some (.slice A n c) := by
  refine ⟨?_, ?_, ?_⟩ <;> simp [World.cell?, h, ObjW]
def r0 : List Nat := List.replicate 12 0
def r1 (a : Nat) : List Nat := splice r0 0 (by4 a)
def r2 (a b : Nat) : List Nat := splice (r1 a) 4 (by4 b)
def r3 (a b c : Nat) : List Nat := splice (r2 a b) 8 (by4 c)
theorem r1_eq (a : Nat) : r1 a = by4 a ++ [0, 0, 0, 0, 0, 0, 0, 0] := rfl
theorem r2_eq (a b : Nat) : r2 a b = by4 a ++ by4 b ++ [0, 0, 0, 0] := rfl
theorem r3_eq (a b c : Nat) : r3 a b c = by4 a ++ by4 b ++ by4 c := rfl
theorem by4_lim (a : Nat) : Wi.Lim 256 (by4 a) := by
  intro x hx
  simp [by4] at hx
  omega
def sgn (ts fs : Nat) (xs : List Nat) : List Nat := by4 ts ++ by4 fs ++ by4 xs.length ++ xs
theorem sgn_lim {ts fs : Nat} {xs : List Nat} (h : Wi.Lim 256 xs) : Wi.Lim 256 (sgn ts fs xs) := (((by4_lim _).append (by4_lim _)).append (by4_lim _)).append h
set_option maxHeartbeats 4000000 in
theorem signed_any {w : World} {ts fs n c n2 c2 : Nat} {A A2 : Option Addr} {xs : List Nat} (hts : ts < 4294967296) (hfs : fs < 4294967296) (hx : Wi.Nb w w.heap.size A n c xs) (hn : n ≤ 1099511627) :
    Calls Tryz.prog 13 #[.agg #[.int .u32 (ts : Int), .int .u32 (fs : Int), .slice A n c, .slice A2 n2 c2]] w fun e w' => ∃ A' c', e = .returned (.slice A' (12 + n) c') ∧ Wi.Nb w' w'.heap.size A' (12 + n) c' (sgn ts fs xs) ∧ Below w.heap.size w w' := by
  obtain ⟨w2, hw2⟩ : ∃ w2, w2 = (w.alloc (ObjW ts fs A n c A2 n2 c2)).alloc (.cells (bs r0).toArray 77) := ⟨_, rfl⟩
  have b2 : Below w.heap.size w w2 := by rw [hw2]; exact ((Below.refl _ _).alloc (Nat.le_refl _) _).alloc (by simp) _
  have x2 : Bb w2 (w.heap.size + 1) 77 r0 := by
    rw [hw2]
    have := World.alloc_heap_new (w.alloc (ObjW ts fs A n c A2 n2 c2)) (.cells (bs r0).toArray 77)
    rwa [World.size_alloc] at this
  have v2 : w2.heap[w.heap.size]? = some (ObjW ts fs A n c A2 n2 c2) := by rw [hw2]; exact (Below.heap_alloc _ _ _ (by simp)).trans (World.alloc_heap_new w _)
  have HP := Lib.hid (fun (w3 : World) (o : Nat) (n : Nat) (c : Nat) (a : Nat) (xs : List Nat) (x3 : Bb w3 (w.heap.size + 1) 77 xs) (hl : xs.length = 12) (ha : a < 4294967296) (ho : o + 4 ≤ 12) (hn : 4 ≤ n) => place_any (a := a) (o := o) (n := n) (c := c) x3 ha hn (by omega))
  obtain ⟨N, hN⟩ : ∃ N, xs.length = N := ⟨_, rfl⟩
  have hnN : n = N := by rw [← hN]; exact hx.len.symm
  subst hnN
  have j0 : ∀ W : World, (Instr.index 78 (.agg #[.int .u32 (ts : Int), .int .u32 (fs : Int), .int .u32 (n : Int)]) (.int .i64 0)).run Tryz.prog W = .ok (.int .u32 (ts : Int)) W := fun W => by rfl
  have j1 : ∀ W : World, (Instr.index 78 (.agg #[.int .u32 (ts : Int), .int .u32 (fs : Int), .int .u32 (n : Int)]) (.int .i64 1)).run Tryz.prog W = .ok (.int .u32 (fs : Int)) W := fun W => by rfl
  have j2 : ∀ W : World, (Instr.index 78 (.agg #[.int .u32 (ts : Int), .int .u32 (fs : Int), .int .u32 (n : Int)]) (.int .i64 2)).run Tryz.prog W = .ok (.int .u32 (n : Int)) W := fun W => by rfl
  have hw32 : (n : Int) % 4294967296 = (n : Int) := by omega
  have HX := Lib.hid hx
  have HS := Lib.hid hN
  have HW := Lib.hid hw2
  have s2 : w2.heap.size = w.heap.size + 2 := by rw [hw2]; simp
  obtain ⟨m0, m1, m2⟩ := objW_cells v2
  clear hw2 hx hN
  go_enter Tryz.func13, Tryz.ntmps13
  go_upto_region 2 with fail
  change Code.wp _ _ _ _ ((w.alloc (ObjW ts fs A n c A2 n2 c2)).alloc (.cells (bs r0).toArray 77))
  rw [← HW.out]
  go_wp2_with fail
  refine wp_loop_rounds 4 ?_
  rw [rounds_succ]; go_wp2_with fail
  refine (HP.out w2 0 12 12 ts r0 x2 rfl hts (by omega) (by omega)).mono ?_
  rintro e w3 ⟨⟨q3, rfl⟩, x3, b3⟩
  have c3 := b2.trans (b3.mono (Nat.le_succ _))
  have v3 := (b3.block _ (Nat.lt_succ_self _)).trans v2
  clear b3 x2 b2 v2 m0 m1 m2
  go_wp2_with fail
  rw [rounds_succ]; go_wp2_with fail
  refine (HP.out w3 4 8 8 fs (r1 ts) x3 rfl hfs (by omega) (by omega)).mono ?_
  rintro e w4 ⟨⟨q4, rfl⟩, x4, b4⟩
  have c4 := c3.trans (b4.mono (Nat.le_succ _))
  have v4 := (b4.block _ (Nat.lt_succ_self _)).trans v3
  clear b4 x3 c3 v3
  go_wp2_with fail
  rw [rounds_succ]; go_wp2_with fail
  refine (HP.out w4 8 4 4 n (r2 ts fs) x4 rfl (by omega) (by omega) (by omega)).mono ?_
  rintro e w5 ⟨⟨q5, rfl⟩, x5, b5⟩
  have c5 := c4.trans (b5.mono (Nat.le_succ _))
  have v5 := (b5.block _ (Nat.lt_succ_self _)).trans v4
  clear b5 x4 c4 v4
  obtain ⟨m0, m1, m2⟩ := objW_cells v5
  have X5 := Lib.hid (show Bb w5.drew (w.heap.size + 1) 77 (r3 ts fs n) from x5)
  have m2' : w5.drew.cell? ⟨w.heap.size, 2, none⟩ = some (.slice A n c) := m2
  have c5' : Below w.heap.size w w5.drew := c5.drew
  have C5 := Lib.hid c5'
  have HN5 := Lib.hid (HX.out.far c5')
  have hlim : Wi.Lim 256 (r3 ts fs n) := ((by4_lim _).append (by4_lim _)).append (by4_lim _)
  clear c5 v5 x5 m0 m1
  go_wp2_with fail
  rw [rounds_succ]; go_wp2
  have hl5 : n ≤ 1099511627776 := by omega
  have hs5 : w.heap.size ≤ w5.drew.heap.size := C5.out.size
  go_region_law (first
    | (refine wp_app12 (w0 := w) _ (.tmp 25) (.tmp 27) rfl rfl X5.out rfl hlim rfl HN5.out hl5 C5.out hs5 ?_
       intro A6 c6 w6 hN6 hb6))
  go_wp2
  go_ret
  exact ⟨_, _, rfl, by unfold sgn; rw [HS.out]; exact hN6, hb6⟩
end Go.Proofs.YthipdagebijbiaaGreatDoor.Sg
