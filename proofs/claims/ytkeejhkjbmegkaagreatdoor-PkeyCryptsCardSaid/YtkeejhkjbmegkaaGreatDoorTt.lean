/- PkeyHolds: its arithmetic. PkeyBack: its arithmetic: what is encrypted and decrypted comes back. -/
import Derived.Test.YtkeejhkjbmegkaaGreatDoorHs
import Derived.Lib.Bytes
namespace Go.Proofs.YtkeejhkjbmegkaaGreatDoor
open Go.RowKit
set_option linter.unusedVariables false
set_option maxRecDepth 100000

theorem bts_mod (v : Nat) : ∀ n, val 256 (bts v n).reverse = v % 256 ^ n
  | 0 => by simp [bts, val, Nat.mod_one]
  | n + 1 => by
    rw [bts, List.reverse_cons, val_append, bts_mod v n, List.length_reverse, length_bts]
    simp only [val, Nat.mul_zero, Nat.add_zero]
    rw [Nat.pow_succ, Nat.mod_mul]
theorem bts_back {v n : Nat} (h : v < 256 ^ n) : val 256 (bts v n).reverse = v := by rw [bts_mod, Nat.mod_eq_of_lt h]
theorem bts_val : ∀ (l : List Nat), Lim 256 l → bts (val 256 l.reverse) l.length = l
  | [], _ => rfl
  | x :: l, h => by
    have hx : x < 256 := h x (by simp)
    have hl : Lim 256 l := fun y hy => h y (List.mem_cons_of_mem _ hy)
    have hlt : val 256 l.reverse < 256 ^ l.length := by
      have := val_lt (β := 256) (xs := l.reverse) (fun y hy => hl y (List.mem_reverse.1 hy))
      rwa [List.length_reverse] at this
    have e : val 256 (x :: l).reverse = val 256 l.reverse + 256 ^ l.length * x := by
      rw [List.reverse_cons, val_append, List.length_reverse]
      simp [val]
    rw [e, List.length_cons, bts]
    have h1 : (val 256 l.reverse + 256 ^ l.length * x) / 256 ^ l.length % 256 = x := by
      rw [Nat.add_mul_div_left _ _ (Nat.pow_pos (by omega)), Nat.div_eq_of_lt hlt, Nat.zero_add, Nat.mod_eq_of_lt hx]
    have h2 : ∀ (a b n : Nat), a % 256 ^ n = b % 256 ^ n → bts a n = bts b n := by
      intro a b n
      induction n with
      | zero => intro _; rfl
      | succ n ih =>
        intro hab
        rw [bts, bts]
        have h3 : a / 256 ^ n % 256 = b / 256 ^ n % 256 := by
          have ha := Nat.mod_mul_right_div_self a (256 ^ n) 256
          have hb := Nat.mod_mul_right_div_self b (256 ^ n) 256
          rw [Nat.pow_succ] at hab
          rw [← ha, ← hb, hab]
        have h4 : a % 256 ^ n = b % 256 ^ n := by
          have := congrArg (· % 256 ^ n) hab
          simp only [Nat.pow_succ] at this
          rwa [Nat.mod_mul_right_mod, Nat.mod_mul_right_mod] at this
        rw [h3, ih h4]
    rw [h1, h2 _ (val 256 l.reverse) l.length (by rw [Nat.add_mul_mod_self_left]), bts_val l hl]
theorem val_inj {a b : List Nat} (ha : Lim 256 a) (hb : Lim 256 b) (hl : a.length = b.length) (h : val 256 a.reverse = val 256 b.reverse) : a = b := by
  rw [← bts_val a ha, ← bts_val b hb, h, hl]
/-- the texts of bytes say which they are -/
theorem bstr_inj {a b : List Nat} (ha : Lim 256 a) (hb : Lim 256 b) (h : (bstr a).toList = (bstr b).toList) : a = b := by
  unfold bstr at h
  rw [Lib.strOfNums_toList, Lib.strOfNums_toList] at h
  have back : ∀ l : List Nat, Lim 256 l → (Lib.bytesOf (l.map fun x : Nat => (x : Int))).map (fun u => u.toNat) = l := by
    intro l hl
    induction l with
    | nil => rfl
    | cons x l ih =>
      have hx := hl x (by simp)
      simp only [Lib.bytesOf, List.map_cons, List.map_map] at ih ⊢
      rw [ih (fun y hy => hl y (List.mem_cons_of_mem _ hy))]
      congr 1
      simp only [Int.toNat_natCast, UInt8.toNat_ofNat']
      omega
  rw [← back a ha, ← back b hb, h]
theorem frame_lt (s : Nat) (hs : 27 ≤ s) (xs : List Nat) : val 256 (signN s xs).reverse < 2 * 256 ^ (s - 2) := by
  have hL := lim_signN s xs
  have hlen := len_signN (xs := xs) hs
  obtain ⟨r, hr⟩ : ∃ r, signN s xs = 0 :: 1 :: r := ⟨_, rfl⟩
  rw [hr] at hL hlen ⊢
  have hl : r.length = s - 2 := by simp at hlen; omega
  have hlt : val 256 r.reverse < 256 ^ (s - 2) := by
    have := val_lt (β := 256) (xs := r.reverse) (fun y hy => hL y (List.mem_cons_of_mem _ (List.mem_cons_of_mem _ (List.mem_reverse.1 hy))))
    rwa [List.length_reverse, hl] at this
  have e : val 256 (0 :: 1 :: r).reverse = val 256 r.reverse + 256 ^ (s - 2) := by
    rw [List.reverse_cons, List.reverse_cons, val_append, val_append]
    simp [val, hl]
  rw [e]; omega
def Known (p q : Nat) : Prop := p = 2 ^ 127 - 1 ∧ q = 2 ^ 107 - 1 ∨ p = 2 ^ 89 - 1 ∧ q = 2 ^ 127 - 1
theorem known_facts {p q : Nat} (h : Known p q) : p * q % 2 = 1 ∧ 16 ≤ bl (p * q) ∧ bl (p * q) ≤ 1024 ∧ 65537 < p * q ∧ (p - 1) * (q - 1) ≤ p * q ∧ 1 < (p - 1) * (q - 1) ∧
    27 ≤ (bl (p * q) + 7) / 8 ∧ (bl (p * q) + 7) / 8 ≤ 30 ∧ 2 * 256 ^ ((bl (p * q) + 7) / 8 - 2) ≤ p * q ∧ p * q ≤ 256 ^ ((bl (p * q) + 7) / 8) := by
  rcases h with ⟨h1, h2⟩ | ⟨h1, h2⟩ <;> (rw [h1, h2]; decide +kernel)
theorem known_undo {p q d : Nat} (h : Known p q) (hd : 65537 * d % ((p - 1) * (q - 1)) = 1) (r : Nat) :
    (r ^ 65537 % (p * q)) ^ d % (p * q) = r % (p * q) ∧ (r ^ d % (p * q)) ^ 65537 % (p * q) = r % (p * q) := by
  have hp : Prm p := by
    rcases h with ⟨h, _⟩ | ⟨h, _⟩ <;> rw [h]
    · exact prm_m127
    · exact prm_m89
  have hq : Prm q := by
    rcases h with ⟨_, h⟩ | ⟨_, h⟩ <;> rw [h]
    · exact prm_m107
    · exact prm_m127
  have hne : p ≠ q := by
    rcases h with ⟨h1, h2⟩ | ⟨h1, h2⟩ <;> (rw [h1, h2]; decide)
  exact ⟨euler2 hp hq hne hd r, euler2 (e := d) (d := 65537) hp hq hne (by rw [Nat.mul_comm d]; exact hd) r⟩
end Go.Proofs.YtkeejhkjbmegkaaGreatDoor
namespace Go.Proofs.YtkeejhkjbmegkaaGreatDoor
open Go.RowKit
set_option linter.unusedVariables false
set_option maxRecDepth 100000
set_option exponentiation.threshold 70000

/-- the filling: the first n bytes that are not 0, or as many as there are -/
def fillL (ds : List Nat) (n : Nat) : List Nat := (ds.filter fun x => decide (x ≠ 0)).take n
theorem fillL_ne {ds : List Nat} {n : Nat} : ∀ x ∈ fillL ds n, x ≠ 0 := by
  intro x hx
  have := List.mem_of_mem_take hx
  simpa using (List.mem_filter.1 this).2
theorem fillL_lim {ds : List Nat} {n : Nat} (h : Lim 256 ds) : Lim 256 (fillL ds n) := fun x hx => h x (List.mem_filter.1 (List.mem_of_mem_take hx)).1
/-- one byte more -/
theorem fillL_snoc (ds : List Nat) (n x : Nat) : fillL (ds ++ [x]) n = if (fillL ds n).length = n then fillL ds n else if x = 0 then fillL ds n else fillL ds n ++ [x] := by
  unfold fillL
  by_cases hx : x = 0
  · subst hx
    simp
  · rw [if_neg hx, List.filter_append]
    have e : [x].filter (fun x => decide (x ≠ 0)) = [x] := by simp [hx]
    rw [e]
    generalize (ds.filter fun x => decide (x ≠ 0)) = F
    rw [List.take_append]
    by_cases hl : (F.take n).length = n
    · rw [if_pos hl]
      rw [List.length_take] at hl
      rw [show n - F.length = 0 by omega]
      simp
    · rw [if_neg hl]
      rw [List.length_take] at hl
      rw [List.take_of_length_le (l := [x]) (by simp; omega)]
/-- full: what comes behind changes nothing -/
theorem fillL_full {ds es : List Nat} {n : Nat} (h : (fillL ds n).length = n) : fillL (ds ++ es) n = fillL ds n := by
  unfold fillL at h ⊢
  rw [List.length_take] at h
  rw [List.filter_append, List.take_append_of_le_length (by omega)]
/-- what is encrypted -/
def cryptN (fs ts : List Nat) : List Nat := 0 :: 2 :: (fs ++ 0 :: ts)
theorem cryptN_length (fs ts : List Nat) : (cryptN fs ts).length = 3 + fs.length + ts.length := by simp [cryptN]; omega
theorem cryptN_lim {fs ts : List Nat} (h : Lim 256 fs) (h2 : Lim 256 ts) : Lim 256 (cryptN fs ts) := by
  intro x hx
  simp only [cryptN, List.mem_cons, List.mem_append] at hx
  rcases hx with rfl | rfl | hx | rfl | hx
  · omega
  · omega
  · exact h x hx
  · omega
  · exact h2 x hx
theorem crypt_lt {fs ts : List Nat} {s : Nat} (h : Lim 256 fs) (h2 : Lim 256 ts) (hl : (cryptN fs ts).length = s) : val 256 (cryptN fs ts).reverse < 3 * 256 ^ (s - 2) := by
  have hL := cryptN_lim h h2
  obtain ⟨r, hr⟩ : ∃ r, cryptN fs ts = 0 :: 2 :: r := ⟨_, rfl⟩
  rw [hr] at hL hl ⊢
  have hl' : r.length = s - 2 := by simp at hl; omega
  have hlt : val 256 r.reverse < 256 ^ (s - 2) := by
    have := val_lt (β := 256) (xs := r.reverse) (fun y hy => hL y (List.mem_cons_of_mem _ (List.mem_cons_of_mem _ (List.mem_reverse.1 hy))))
    rwa [List.length_reverse, hl'] at this
  have e : val 256 (0 :: 2 :: r).reverse = val 256 r.reverse + 256 ^ (s - 2) * 2 := by
    rw [List.reverse_cons, List.reverse_cons, val_append, val_append]
    simp [val, hl']
  rw [e]; omega
theorem known_room {p q : Nat} (h : Known p q) : 3 * 256 ^ ((bl (p * q) + 7) / 8 - 2) ≤ p * q := by
  rcases h with ⟨h1, h2⟩ | ⟨h1, h2⟩ <;> (rw [h1, h2]; decide +kernel)
/-- decrypted, the bytes are those that were encrypted -/
theorem back_bytes {M d s : Nat} {L : List Nat} (hL : Lim 256 L) (hl : L.length = s) (hM : val 256 L.reverse < M) (f10 : M ≤ 256 ^ s) (hund : ∀ r : Nat, (r ^ 65537 % M) ^ d % M = r % M ∧ (r ^ d % M) ^ 65537 % M = r % M) :
    val 256 (bts (val 256 L.reverse ^ 65537 % M) s).reverse < M ∧ bts (val 256 (bts (val 256 L.reverse ^ 65537 % M) s).reverse ^ d % M) s = L := by
  have h3 : val 256 L.reverse ^ 65537 % M < M := Nat.mod_lt _ (by omega)
  rw [bts_back (Nat.lt_of_lt_of_le h3 f10), (hund _).1, Nat.mod_eq_of_lt hM]
  refine ⟨h3, ?_⟩
  have := bts_val L hL
  rwa [hl] at this
/-- where the filling ends -/
theorem cut_at {fs ts : List Nat} (h : ∀ x ∈ fs, x ≠ 0) : (fs ++ 0 :: ts).takeWhile (fun x => decide (x ≠ 0)) = fs ∧ (fs ++ 0 :: ts).drop (fs.length + 1) = ts := by
  constructor
  · rw [List.takeWhile_append_of_pos (fun x hx => by simpa using h x hx)]
    simp
  · rw [List.drop_append]
    simp
end Go.Proofs.YtkeejhkjbmegkaaGreatDoor
