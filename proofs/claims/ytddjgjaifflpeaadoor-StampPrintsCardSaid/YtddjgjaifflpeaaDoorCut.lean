/- A text cut at its point. -/
import Derived.Test.YtddjgjaifflpeaaDoorTexts
import Derived.Lib.Strings
import Derived.Lib.Bytealg
import Derived.Lib.Walk
import Derived.BigRegion
import Derived.BigCall
import Derived.BigGuard
namespace Go.Proofs.YtddjgjaifflpeaaDoor
open Go.RowKit
set_option linter.unusedVariables false
set_option maxRecDepth 100000

theorem indexByte_any (s : ByteArray) (c : Int) (w : World) : Calls Tryd.prog 58 #[.string s, .int .u8 c] w fun e w' => e = .returned (.int .i64 (Lib.indexByte s.data.toList c.toNat.toUInt8)) ∧ w = w' := by
  go_enter Tryd.func58, Tryd.ntmps58
  go_wp2
  rw [run_callFunc_extern Tryd.func63 (by kernel_rfl) (by kernel_rfl) (by kernel_rfl) (e := Extern.BytealgIndexByte.indexByte) (by kernel_rfl), Lib.run_indexByteString]
  simp only [Result.andThen]
  rw [Oper.upon_value]
  go_wp2
  go_ret
  exact ⟨rfl, rfl⟩
theorem index_any (s : ByteArray) (w : World) : Calls Tryd.prog 54 #[.string s, .string ⟨#[46]⟩] w fun e w' => e = .returned (.int .i64 (Lib.indexByte s.data.toList 46)) ∧ w = w' := by
  go_enter Tryd.func54, Tryd.ntmps54
  go_wp2_with (go_at_call 58; refine (indexByte_any _ _ _).mono ?_; rintro e w' ⟨rfl, rfl⟩)
  · have h : ([46] == s.toList) = true := by assumption
    go_ret
    refine ⟨?_, rfl⟩
    have e : s.data.toList = [46] := by rw [← Lib.toList_data]; exact (beq_iff_eq.1 h).symm
    rw [e]
    simp [Lib.indexByte]
  · go_ret
    exact ⟨rfl, rfl⟩
theorem cut_miss (s : ByteArray) (h : Lib.indexByte s.data.toList 46 = -1) (w : World) : Calls Tryd.prog 48 #[.string s, .string ⟨#[46]⟩] w fun e w' => (∃ q, w' = w.drewN q) ∧ e = .returned (.tuple #[.string s, .string ⟨#[]⟩, .bool false]) := by
  have H := Lib.hid h
  clear h
  go_enter Tryd.func48, Tryd.ntmps48
  go_wp2_with (go_at_call 54; refine (index_any _ _).mono ?_; rintro e w' ⟨rfl, rfl⟩; rw [H.out])
  go_ret3
  exact ⟨⟨0, rfl⟩, rfl⟩
theorem cut_hit (s : ByteArray) (i : Nat) (h : Lib.indexByte s.data.toList 46 = (i : Int)) (hi : i < s.size) (hs : s.size ≤ 1000) (w : World) : Calls Tryd.prog 48 #[.string s, .string ⟨#[46]⟩] w fun e w' => (∃ q, w' = w.drewN q) ∧ e = .returned (.tuple #[.string (s.extract 0 i), .string (s.extract (i + 1) s.size), .bool true]) := by
  have H := Lib.hid h
  clear h
  have c1 : (i : Int) ≤ (s.size : Int) := by omega
  have c2 : (i : Int) + 1 ≤ (s.size : Int) := by omega
  go_enter Tryd.func48, Tryd.ntmps48
  go_wp2_with (go_at_call 54; refine (index_any _ _).mono ?_; rintro e w' ⟨rfl, rfl⟩; rw [H.out])
  go_quiet (fail)
  go_wp2
  go_ret3
  exact ⟨⟨nq, rfl⟩, rfl⟩
theorem scut_miss (s : ByteArray) (h : Lib.indexByte s.data.toList 46 = -1) (w : World) : Calls Tryd.prog 38 #[.string s, .string ⟨#[46]⟩] w fun e w' => (∃ q, w' = w.drewN q) ∧ e = .returned (.tuple #[.string s, .string ⟨#[]⟩, .bool false]) := by
  have H := Lib.hid (cut_miss s h)
  clear h
  go_enter Tryd.func38, Tryd.ntmps38
  go_wp2_with (go_at_call 48; refine (H.out _).mono ?_; rintro e w' ⟨⟨q, rfl⟩, rfl⟩)
  go_ret3
  exact ⟨⟨q, rfl⟩, rfl⟩
theorem scut_hit (s : ByteArray) (i : Nat) (h : Lib.indexByte s.data.toList 46 = (i : Int)) (hi : i < s.size) (hs : s.size ≤ 1000) (w : World) : Calls Tryd.prog 38 #[.string s, .string ⟨#[46]⟩] w fun e w' => (∃ q, w' = w.drewN q) ∧ e = .returned (.tuple #[.string (s.extract 0 i), .string (s.extract (i + 1) s.size), .bool true]) := by
  have H := Lib.hid (cut_hit s i h hi hs)
  clear h
  go_enter Tryd.func38, Tryd.ntmps38
  go_wp2_with (go_at_call 48; refine (H.out _).mono ?_; rintro e w' ⟨⟨q, rfl⟩, rfl⟩)
  go_ret3
  exact ⟨⟨q, rfl⟩, rfl⟩
/-- have two texts a time's lengths, and no nought ahead that is not printed? -/
def fits (a b : ByteArray) : Bool := decide (0 < a.size ∧ a.size ≤ 10 ∧ b.size = 10 ∧ (a.size = 1 ∨ (sb a).getD 0 0 ≠ 48))
theorem getD_sb (a : ByteArray) (h : 0 < a.size) : (sb a).getD 0 0 = (a[0]'h).toNat := by
  have hl : 0 < a.data.toList.length := by rw [← Lib.size_eq]; exact h
  unfold sb
  simp [List.getD, List.getElem?_map, List.getElem?_eq_getElem hl]
  rfl
theorem fits_any (a b : ByteArray) (w : World) : Calls Tryd.prog 39 #[.string a, .string b] w fun e w' => (∃ q, w' = w.drewN q) ∧ e = .returned (.bool (fits a b)) := by
  by_cases h0 : a.size = 0
  · have hF := Lib.hid (show fits a b = false by unfold fits; rw [decide_eq_false_iff_not]; omega)
    go_enter Tryd.func39, Tryd.ntmps39
    go_wp2
    all_goals (go_ret; refine ⟨⟨0, rfl⟩, ?_⟩; rw [hF.out]; first | rfl | (exfalso; simp_all; done) | (exfalso; simp_all; omega) | (exfalso; omega) | (show Ending.returned (Value.bool _) = _; congr 2; simp_all; done) | (show Ending.returned (Value.bool _) = _; congr 2; simp; omega))
  by_cases h1 : 10 < a.size
  · have hF := Lib.hid (show fits a b = false by unfold fits; rw [decide_eq_false_iff_not]; omega)
    go_enter Tryd.func39, Tryd.ntmps39
    go_wp2
    all_goals (go_ret; refine ⟨⟨0, rfl⟩, ?_⟩; rw [hF.out]; first | rfl | (exfalso; simp_all; done) | (exfalso; simp_all; omega) | (exfalso; omega) | (show Ending.returned (Value.bool _) = _; congr 2; simp_all; done) | (show Ending.returned (Value.bool _) = _; congr 2; simp; omega))
  by_cases h2 : b.size = 10
  · by_cases h3 : a.size = 1
    · have hF := Lib.hid (show fits a b = true by unfold fits; rw [decide_eq_true_iff]; omega)
      go_enter Tryd.func39, Tryd.ntmps39
      go_wp2
      all_goals (go_ret; refine ⟨⟨0, rfl⟩, ?_⟩; rw [hF.out]; first | rfl | (exfalso; simp_all; done) | (exfalso; simp_all; omega) | (exfalso; omega) | (show Ending.returned (Value.bool _) = _; congr 2; simp_all; done) | (show Ending.returned (Value.bool _) = _; congr 2; simp; omega))
    · have hp : 0 < a.size := by omega
      have hg := getD_sb a hp
      by_cases h4 : (sb a).getD 0 0 = 48
      · have hF := Lib.hid (show fits a b = false by unfold fits; rw [decide_eq_false_iff_not]; omega)
        rw [h4] at hg
        have hg' : ((a[0]'hp).toNat : Int) = 48 := by omega
        go_enter Tryd.func39, Tryd.ntmps39
        go_wp2
        all_goals (go_ret; refine ⟨⟨0, rfl⟩, ?_⟩; rw [hF.out]; first | rfl | (exfalso; simp_all; done) | (exfalso; simp_all; omega) | (exfalso; omega) | (show Ending.returned (Value.bool _) = _; congr 2; simp_all; done) | (show Ending.returned (Value.bool _) = _; congr 2; simp; omega))
      · have hF := Lib.hid (show fits a b = true by unfold fits; rw [decide_eq_true_iff]; omega)
        rw [hg] at h4
        have h4' : (((a[0]'hp).toNat : Int) != 48) = true := by rw [bne_iff_ne]; omega
        go_enter Tryd.func39, Tryd.ntmps39
        go_wp2
        all_goals (go_ret; refine ⟨⟨0, rfl⟩, ?_⟩; rw [hF.out]; first | rfl | (show Ending.returned (Value.bool _) = _; congr 2; rw [h4', Bool.or_true]; done) | (exfalso; simp_all; done) | (exfalso; simp_all; omega) | (exfalso; omega) | (show Ending.returned (Value.bool _) = _; congr 2; simp_all; done) | (show Ending.returned (Value.bool _) = _; congr 2; simp; omega))
  · have hF := Lib.hid (show fits a b = false by unfold fits; rw [decide_eq_false_iff_not]; omega)
    have h2' : ((b.size : Int) != 10) = true := by rw [bne_iff_ne]; omega
    go_enter Tryd.func39, Tryd.ntmps39
    go_wp2
    all_goals (go_ret; refine ⟨⟨0, rfl⟩, ?_⟩; rw [hF.out]; first | rfl | (exfalso; simp_all; done) | (exfalso; simp_all; omega) | (exfalso; omega) | (show Ending.returned (Value.bool _) = _; congr 2; simp_all; done) | (show Ending.returned (Value.bool _) = _; congr 2; simp; omega))
end Go.Proofs.YtddjgjaifflpeaaDoor
