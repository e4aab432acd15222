/- Digests are compared. -/
import Derived.Test.YtafpnpfiefbddaaDoorWrite
import Derived.Laws.StructEq
namespace Go.Proofs.YtafpnpfiefbddaaDoor
set_option linter.unusedSimpArgs false
set_option linter.unusedVariables false
open Go.RowKit
set_option maxRecDepth 100000
theorem run_forIn_all {P : Program} {w : World} {α β : Type} (f : α → β → Sem (ForInStep β)) (s : β) : ∀ (l : List α), (∀ i ∈ l, (f i s).run P w = .ok (.yield s) w) → (forIn l s f).run P w = .ok s w
  | [], _ => by simp [Sem.run_pure]
  | i :: l, h => by
    rw [List.forIn_cons]
    simp only [Sem.run_bind, h i (by simp), Result.andThen]
    exact run_forIn_all f s l (fun j hj => h j (by simp [hj]))
theorem part_u8 (cs : Array Value) (i : Nat) (v : Value) (h : cs[i]? = some v) (W : World) : (part 5 cs i).run Tryd.prog W = .ok v W := by
  have ha : (isAgg 5).run Tryd.prog W = .ok false W := by kernel_rfl
  simp [part, Sem.run_bind, ha, h, Result.andThen, Sem.run_pure]
theorem eq_arr (D : List Nat) (hD : D.length = 32) (W : World) : (binOp .eql 60 (.agg (bs D).toArray) (.agg (bs D).toArray)).run Tryd.prog W = .ok (.bool true) W := by
  rw [run_eql_struct]
  have hs : (sizeOf 5).run Tryd.prog W = .ok 1 W := by kernel_rfl
  unfold Op.equalIn
  simp only [Sem.run_bind, run_underlying Tryd.underlying60, Result.andThen, hs, Std.Legacy.Range.forIn_eq_forIn_range']
  rw [run_forIn_all]
  · simp [Sem.run_pure]
  · intro i hi
    simp at hi
    have hb : (bs D).toArray[i]? = some (.int .u8 ((D.getD i 0 : Nat) : Int)) := by
      simp [bs, List.getD, List.getElem?_eq_getElem (show i < D.length by omega)]
    generalize D.getD i 0 = x at hb
    have e1 := part_u8 _ _ _ hb W
    have e2 : (Op.equalIn 9999 5 (.int .u8 (x : Int)) (.int .u8 (x : Int))).run Tryd.prog W = .ok true W := by
      rw [run_equalIn_int W 9998 5 .u8 .u8 _ _ Tryd.underlying5]; simp
    simp [Sem.run_bind, e1, e2, Result.andThen, Sem.run_pure]
theorem neq_arr (D : List Nat) (hD : D.length = 32) (W : World) : (binOp .neq 60 (.agg (bs D).toArray) (.agg (bs D).toArray)).run Tryd.prog W = .ok (.bool false) W := by
  have h := eq_arr D hD W
  rw [run_eql_struct] at h
  rw [run_neq_struct]
  cases hq : (Op.equalIn 10000 60 (Value.agg (bs D).toArray) (Value.agg (bs D).toArray)).run Tryd.prog W with
  | ok b w' =>
    rw [hq] at h
    simp only [Result.andThen, Result.ok.injEq, Value.bool.injEq] at h ⊢
    rw [h.1, h.2]
    exact ⟨rfl, rfl⟩
  | halt e w' => rw [hq] at h; simp [Result.andThen] at h
end Go.Proofs.YtafpnpfiefbddaaDoor
