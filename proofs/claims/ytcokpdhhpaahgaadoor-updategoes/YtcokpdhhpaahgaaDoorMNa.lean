/-
  Several texts in one: NaPlain, NaSmall, NaCount, NaBack; each says its own conditions.
-/
import Derived.Lib.MapLaws
import Derived.Laws.Cover4
import Derived.Test.YtcokpdhhpaahgaaDoorRows
import Derived.WalkKit
import Derived.WalkSmall
import Derived.Lib.Hide
import Derived.LoopTactic
namespace Go.Proofs.YtcokpdhhpaahgaaDoor.Nam
open Go.Lib

/-- The runes of a row of bytes, at most n of them. -/
def rsN : Nat → List UInt8 → List Int
  | 0, _ => []
  | n + 1, l => if l = [] then [] else ((decodeL l).1 : Int) :: rsN n (l.drop (decodeL l).2)
def rs (l : List UInt8) : List Int := rsN l.length l

theorem rsN_nil : ∀ n, rsN n [] = []
  | 0 => rfl
  | _ + 1 => by simp [rsN]
theorem rsN_fuel : ∀ (n m : Nat) (l : List UInt8), l.length ≤ n → l.length ≤ m → rsN n l = rsN m l
  | 0, m, l, hn, _ => by
    have : l = [] := List.eq_nil_of_length_eq_zero (by omega)
    subst this
    rw [rsN_nil, rsN_nil]
  | n + 1, 0, l, _, hm => by
    have : l = [] := List.eq_nil_of_length_eq_zero (by omega)
    subst this
    rw [rsN_nil, rsN_nil]
  | n + 1, m + 1, l, hn, hm => by
    by_cases hne : l = []
    · subst hne
      rw [rsN_nil, rsN_nil]
    · have hw := decodeL_width l
      have hl : 0 < l.length := List.length_pos_iff.2 hne
      simp only [rsN, if_neg hne]
      rw [rsN_fuel n m _ (by rw [List.length_drop]; omega) (by rw [List.length_drop]; omega)]
theorem rs_nil : rs [] = [] := rfl
theorem rs_step (l : List UInt8) (hne : l ≠ []) : rs l = ((decodeL l).1 : Int) :: rs (l.drop (decodeL l).2) := by
  have hw := decodeL_width l
  have hl : 0 < l.length := List.length_pos_iff.2 hne
  unfold rs
  obtain ⟨n, hn⟩ : ∃ n, l.length = n + 1 := ⟨l.length - 1, by omega⟩
  rw [hn]
  simp only [rsN, if_neg hne]
  rw [rsN_fuel n _ _ (by rw [List.length_drop]; omega) (Nat.le_refl _)]

/-- The runes from place pos of a string on. -/
def rest (s : ByteArray) (pos : Nat) : List Int := rs (s.data.toList.drop pos)
def all (s : ByteArray) : List Int := rs s.data.toList
theorem size_list (s : ByteArray) : s.data.toList.length = s.size := (size_eq s).symm
theorem rest_zero (s : ByteArray) : rest s 0 = all s := rfl
theorem rest_step (s : ByteArray) (pos : Nat) (h : pos < s.size) : rest s pos = ((Utf8.decode s pos).1 : Int) :: rest s (pos + (Utf8.decode s pos).2) := by
  have hne : s.data.toList.drop pos ≠ [] := by
    intro h0
    have := congrArg List.length h0
    rw [List.length_drop, size_list] at this
    simp at this
    omega
  unfold rest
  rw [rs_step _ hne, decodeL_drop, List.drop_drop]
theorem rest_end (s : ByteArray) (pos : Nat) (h : ¬ pos < s.size) : rest s pos = [] := by
  unfold rest
  rw [List.drop_eq_nil_of_le (by rw [size_list]; omega), rs_nil]
theorem width_in (s : ByteArray) (pos : Nat) (h : pos < s.size) : 1 ≤ (Utf8.decode s pos).2 ∧ pos + (Utf8.decode s pos).2 ≤ s.size := by
  have hne : s.data.toList.drop pos ≠ [] := by
    intro h0
    have := congrArg List.length h0
    rw [List.length_drop, size_list] at this
    simp at this
    omega
  have h1 := decodeL_le _ hne
  have h2 := decodeL_width (s.data.toList.drop pos)
  rw [decodeL_drop] at h1 h2
  rw [List.length_drop, size_list] at h1
  omega
theorem rs_len : ∀ (n : Nat) (l : List UInt8), l.length ≤ n → (rs l).length ≤ l.length
  | 0, l, h => by
    have : l = [] := List.eq_nil_of_length_eq_zero (by omega)
    subst this
    simp [rs_nil]
  | n + 1, l, h => by
    by_cases hne : l = []
    · subst hne; simp [rs_nil]
    · have hw := decodeL_width l
      have hl : 0 < l.length := List.length_pos_iff.2 hne
      rw [rs_step l hne, List.length_cons]
      have := rs_len n (l.drop (decodeL l).2) (by rw [List.length_drop]; omega)
      rw [List.length_drop] at this
      omega

/-- May a rune be in a name? -/
def goodB (r : Int) : Bool := decide ((97 ≤ r ∧ r ≤ 122) ∨ (48 ≤ r ∧ r ≤ 57) ∨ (945 ≤ r ∧ r ≤ 969))
def lowI (r : Int) : Int := if (65 ≤ r ∧ r ≤ 90) ∨ (913 ≤ r ∧ r ≤ 937 ∧ r ≠ 930) then r + 32 else r
def validL (l : List Int) : Bool := decide (1 ≤ l.length) && decide (l.length ≤ 8) && l.all goodB
def keep (l : List Int) : List Int := (l.map lowI).filter goodB
def cleanL (l : List Int) : List Int := (keep l).take 8
def cleanS (s : ByteArray) : ByteArray := runesBytes (cleanL (all s))

theorem keep_snoc (l : List Int) (r : Int) : keep (l ++ [r]) = keep l ++ if goodB (lowI r) = true then [lowI r] else [] := by
  unfold keep
  simp [List.filter_cons]
theorem cleanL_full (l m : List Int) (h : 8 ≤ (keep l).length) : cleanL (l ++ m) = (keep l).take 8 := by
  unfold cleanL keep
  rw [List.map_append, List.filter_append]
  exact List.take_append_of_le_length h
theorem cleanL_all (l : List Int) (h : (keep l).length ≤ 8) : cleanL l = keep l := List.take_of_length_le h
end Go.Proofs.YtcokpdhhpaahgaaDoor.Nam

namespace Go.Proofs.YtcokpdhhpaahgaaDoor.Nam
open Go.RowKit

theorem good_of {r : Int} (h : (97 ≤ r ∧ r ≤ 122) ∨ (48 ≤ r ∧ r ≤ 57) ∨ (945 ≤ r ∧ r ≤ 969)) : goodB r = true := by simp [goodB]; omega
theorem bad_of {r : Int} (h : ¬ ((97 ≤ r ∧ r ≤ 122) ∨ (48 ≤ r ∧ r ≤ 57) ∨ (945 ≤ r ∧ r ≤ 969))) : goodB r = false := by simp [goodB]; omega

theorem parts (r : Int) :
    (r < 48 ∧ decide (r ≤ 57) = true ∧ decide (r ≤ 122) = true ∧ decide (r ≤ 969) = true) ∨ ((48 ≤ r ∧ r ≤ 57) ∧ decide (r ≤ 57) = true ∧ decide (r ≤ 122) = true ∧ decide (r ≤ 969) = true) ∨
    ((57 < r ∧ r < 97) ∧ decide (r ≤ 57) = false ∧ decide (r ≤ 122) = true ∧ decide (r ≤ 969) = true) ∨ ((97 ≤ r ∧ r ≤ 122) ∧ decide (r ≤ 57) = false ∧ decide (r ≤ 122) = true ∧ decide (r ≤ 969) = true) ∨
    ((122 < r ∧ r < 945) ∧ decide (r ≤ 57) = false ∧ decide (r ≤ 122) = false ∧ decide (r ≤ 969) = true) ∨ ((945 ≤ r ∧ r ≤ 969) ∧ decide (r ≤ 57) = false ∧ decide (r ≤ 122) = false ∧ decide (r ≤ 969) = true) ∨
    (969 < r ∧ decide (r ≤ 57) = false ∧ decide (r ≤ 122) = false ∧ decide (r ≤ 969) = false) := by
  simp only [decide_eq_true_eq, decide_eq_false_iff_not]; omega

theorem allowed_any (r : Int) (w : World) : Calls Tryd.prog 90 #[.int .i32 r] w fun e w' => e = .returned (.bool (goodB r)) ∧ w = w' := by
  rcases parts r with ⟨h, h1, h2, h3⟩ | ⟨⟨h, h'⟩, h1, h2, h3⟩ | ⟨⟨h, h'⟩, h1, h2, h3⟩ | ⟨⟨h, h'⟩, h1, h2, h3⟩ | ⟨⟨h, h'⟩, h1, h2, h3⟩ | ⟨⟨h, h'⟩, h1, h2, h3⟩ | ⟨h, h1, h2, h3⟩
  all_goals
    first | rw [good_of (r := r) (by omega)] | rw [bad_of (r := r) (by omega)]
    go_enter Tryd.func90, Tryd.ntmps90
    go_wp2
    go_ret
    exact ⟨rfl, rfl⟩

theorem good_any (r : Int) (w : World) : Calls Tryd.prog 49 #[.int .i32 r] w fun e w' => e = .returned (.bool (goodB r)) ∧ w = w' := by
  rcases parts r with ⟨h, h1, h2, h3⟩ | ⟨⟨h, h'⟩, h1, h2, h3⟩ | ⟨⟨h, h'⟩, h1, h2, h3⟩ | ⟨⟨h, h'⟩, h1, h2, h3⟩ | ⟨⟨h, h'⟩, h1, h2, h3⟩ | ⟨⟨h, h'⟩, h1, h2, h3⟩ | ⟨h, h1, h2, h3⟩
  all_goals
    first | rw [good_of (r := r) (by omega)] | rw [bad_of (r := r) (by omega)]
    go_enter Tryd.func49, Tryd.ntmps49
    go_wp2
    go_ret
    exact ⟨rfl, rfl⟩

theorem low_of {r : Int} (h : (65 ≤ r ∧ r ≤ 90) ∨ (913 ≤ r ∧ r ≤ 937 ∧ r ≠ 930)) : lowI r = r + 32 := by simp [lowI, h]
theorem high_of {r : Int} (h : ¬ ((65 ≤ r ∧ r ≤ 90) ∨ (913 ≤ r ∧ r ≤ 937 ∧ r ≠ 930))) : lowI r = r := by simp [lowI, h]
theorem lparts (r : Int) :
    (r < 65 ∧ decide (r ≤ 90) = true ∧ decide (r ≤ 937) = true ∧ (r != 930) = true) ∨ ((65 ≤ r ∧ r ≤ 90) ∧ decide (r ≤ 90) = true ∧ decide (r ≤ 937) = true ∧ (r != 930) = true) ∨
    ((90 < r ∧ r < 913) ∧ decide (r ≤ 90) = false ∧ decide (r ≤ 937) = true ∧ (r != 930) = true) ∨ ((913 ≤ r ∧ r < 930) ∧ decide (r ≤ 90) = false ∧ decide (r ≤ 937) = true ∧ (r != 930) = true) ∨
    (r = 930 ∧ decide (r ≤ 90) = false ∧ decide (r ≤ 937) = true ∧ (r != 930) = false) ∨ ((930 < r ∧ r ≤ 937) ∧ decide (r ≤ 90) = false ∧ decide (r ≤ 937) = true ∧ (r != 930) = true) ∨
    (937 < r ∧ decide (r ≤ 90) = false ∧ decide (r ≤ 937) = false ∧ (r != 930) = true) := by
  simp only [decide_eq_true_eq, decide_eq_false_iff_not, bne_iff_ne, ne_eq, bne_eq_false_iff_eq]; omega

end Go.Proofs.YtcokpdhhpaahgaaDoor.Nam

namespace Go.Proofs.YtcokpdhhpaahgaaDoor.Nam
open Go.RowKit

theorem below_iter (w : World) (s : ByteArray) (pos : Nat) : Below w.heap.size w (w.iter s pos) := (Below.refl _ _).alloc (Nat.le_refl _) _
theorem iterPos_iter (w : World) (s : ByteArray) (pos : Nat) : (w.iter s pos).iterPos w.heap.size = pos := iterPos_of (World.iter_heap w s pos)
theorem ret_int {k : IntKind} {a b : Int} (h : a = b) : Ending.returned (.int k a) = .returned (.int k b) := by rw [h]

/-- k runes lie behind, all of them good. -/
def Behind (s : ByteArray) (pos k : Nat) : Prop := ∃ pre : List Int, pre.length = k ∧ pre.all goodB = true ∧ pre ++ rest s pos = all s
theorem behind_start (s : ByteArray) : Behind s 0 0 := ⟨[], rfl, rfl, by rw [rest_zero]; rfl⟩
theorem behind_step {s : ByteArray} {pos k : Nat} (h : Behind s pos k) (hp : pos < s.size) (hg : goodB (Utf8.decode s pos).1 = true) : Behind s (pos + (Utf8.decode s pos).2) (k + 1) := by
  obtain ⟨pre, h1, h2, h3⟩ := h
  refine ⟨pre ++ [((Utf8.decode s pos).1 : Int)], by simp [h1], by simp only [List.all_append, h2, List.all_cons, List.all_nil, hg]; rfl, ?_⟩
  rw [← h3, rest_step s pos hp, List.append_assoc]
  rfl
theorem behind_long {s : ByteArray} {pos : Nat} (h : Behind s pos 8) (hp : pos < s.size) : validL (all s) = false := by
  obtain ⟨pre, h1, h2, h3⟩ := h
  have hl : ¬ (all s).length ≤ 8 := by rw [← h3, rest_step s pos hp, List.length_append, List.length_cons, h1]; omega
  simp [validL, hl]
theorem behind_bad {s : ByteArray} {pos k : Nat} (h : Behind s pos k) (hp : pos < s.size) (hg : goodB (Utf8.decode s pos).1 = false) : validL (all s) = false := by
  obtain ⟨pre, h1, h2, h3⟩ := h
  have hl : (all s).all goodB = false := by rw [← h3, rest_step s pos hp, List.all_append, List.all_cons, hg]; simp
  simp [validL, hl]
theorem behind_end {s : ByteArray} {pos k : Nat} (h : Behind s pos k) (hp : ¬ pos < s.size) : validL (all s) = (decide (1 ≤ k) && decide (k ≤ 8)) := by
  obtain ⟨pre, h1, h2, h3⟩ := h
  rw [rest_end s pos hp, List.append_nil] at h3
  rw [← h3]
  simp [validL, h1, h2]
theorem ret_bool {a b : Bool} (h : a = b) : Ending.returned (.bool a) = .returned (.bool b) := by rw [h]

set_option maxRecDepth 100000 in
theorem valid_any (s : ByteArray) (w : World) :
    Calls Tryd.prog 78 #[.string s] w fun e w' => e = .returned (.bool (validL (all s))) ∧ Below w.heap.size w w' := by
  go_enter Tryd.func78, Tryd.ntmps78
  go_wp2
  go_loopw [3] (fun n wr => ∃ (pos k : Nat), wr = w.iter s pos ∧ n = .int .i64 (k : Int) ∧ k ≤ 8 ∧ Behind s pos k) (fun _ wr => s.size - wr.iterPos w.heap.size)
  case atStart => exact ⟨0, 0, rfl, rfl, Nat.zero_le _, behind_start s⟩
  case round =>
    obtain ⟨pos, k, rfl, rfl, hk, HB⟩ := hrel
    by_cases h : pos < s.size
    · have hnx : ∀ ty, (Instr.next (.pointer (some ⟨w.heap.size, 0, none⟩)) true ty).run Tryd.prog (w.iter s pos) = _ := fun ty => run_next_any w s pos ty h
      by_cases h8 : k = 8
      · subst h8
        go_wp2
        go_ret
        exact ⟨ret_bool (behind_long HB h).symm, below_iter w s _⟩
      · have hlt : k < 8 := by omega
        have hb : ((k : Int) == 8) = false := by simp; omega
        clear h8
        cases hg : goodB ((Utf8.decode s pos).1 : Int) with
        | false =>
          go_wp2_with (go_at_call 90; refine (allowed_any _ _).mono ?_; rintro e w' ⟨rfl, rfl⟩)
          go_ret
          exact ⟨ret_bool (behind_bad HB h hg).symm, below_iter w s _⟩
        | true =>
          go_wp2_with (go_at_call 90; refine (allowed_any _ _).mono ?_; rintro e w' ⟨rfl, rfl⟩)
          have hwd := width_in s pos h
          go_roundw
          case rel => exact ⟨pos + (Utf8.decode s pos).2, k + 1, rfl, by go_num, by omega, behind_step HB h hg⟩
          case measure =>
            rw [iterPos_iter, iterPos_iter]
            omega
    · have hnx : ∀ ty, (Instr.next (.pointer (some ⟨w.heap.size, 0, none⟩)) true ty).run Tryd.prog (w.iter s pos) = _ := fun ty => run_next_end w s pos ty h
      go_wp2
      go_ret
      refine ⟨ret_bool ?_, below_iter w s pos⟩
      rw [behind_end HB h]
      have : decide (k ≤ 8) = true := by simpa using hk
      rw [this]
      simp
      omega

set_option maxRecDepth 100000 in
theorem rvalid_any (s : ByteArray) (w : World) (hs : s.size ≤ maxLen) :
    Calls Tryd.prog 35 #[.string s] w fun e w' => e = .returned (.bool (validL (all s))) ∧ Below w.heap.size w w' := by
  unfold maxLen at hs
  go_enter Tryd.func35, Tryd.ntmps35
  go_wp2
  go_loopw [3] (fun n wr => ∃ (pos k : Nat), wr = w.iter s pos ∧ n = .int .i64 (k : Int) ∧ pos ≤ s.size ∧ k ≤ pos ∧ Behind s pos k) (fun _ wr => s.size - wr.iterPos w.heap.size)
  case atStart => exact ⟨0, 0, rfl, rfl, Nat.zero_le _, Nat.le_refl _, behind_start s⟩
  case round =>
    obtain ⟨pos, k, rfl, rfl, hp, hk, HB⟩ := hrel
    by_cases h : pos < s.size
    · have hnx : ∀ ty, (Instr.next (.pointer (some ⟨w.heap.size, 0, none⟩)) true ty).run Tryd.prog (w.iter s pos) = _ := fun ty => run_next_any w s pos ty h
      cases hg : goodB ((Utf8.decode s pos).1 : Int) with
      | false =>
        go_wp2_with (go_at_call 49; refine (good_any _ _).mono ?_; rintro e w' ⟨rfl, rfl⟩)
        go_ret
        exact ⟨ret_bool (behind_bad HB h hg).symm, below_iter w s _⟩
      | true =>
        go_wp2_with (go_at_call 49; refine (good_any _ _).mono ?_; rintro e w' ⟨rfl, rfl⟩)
        have hwd := width_in s pos h
        go_roundw
        case rel => exact ⟨pos + (Utf8.decode s pos).2, k + 1, rfl, by go_num, hwd.2, by omega, behind_step HB h hg⟩
        case measure =>
          rw [iterPos_iter, iterPos_iter]
          omega
    · have hnx : ∀ ty, (Instr.next (.pointer (some ⟨w.heap.size, 0, none⟩)) true ty).run Tryd.prog (w.iter s pos) = _ := fun ty => run_next_end w s pos ty h
      have HE := Lib.hid (behind_end HB h)
      by_cases h1 : 1 ≤ k
      · go_wp2
        go_ret
        refine ⟨ret_bool ?_, below_iter w s pos⟩
        rw [HE.out]
        simp [h1]
        try omega
      · go_wp2
        go_ret
        refine ⟨ret_bool ?_, below_iter w s pos⟩
        rw [HE.out]
        simp [h1]
end Go.Proofs.YtcokpdhhpaahgaaDoor.Nam

namespace Go.Proofs.YtcokpdhhpaahgaaDoor.Nam
open Go.Lib

def okR (r : Int) : Prop := 0 ≤ r ∧ r ≤ 1114111 ∧ ¬ (55296 ≤ r ∧ r ≤ 57343)

theorem u8_toNat (z : Int) (h0 : 0 ≤ z) (h1 : z < 256) : (z.toNat.toUInt8).toNat = z.toNat := by
  have : z.toNat < 256 := by omega
  simp [Nat.mod_eq_of_lt this]

theorem encode_list {r : Int} (h : okR r) : (Utf8.encode r).data.toList = encodeRune r := by
  obtain ⟨h0, h1, h2⟩ := h
  obtain ⟨n, rfl⟩ : ∃ n : Nat, r = (n : Int) := ⟨r.toNat, by omega⟩
  have v : Utf8.valid (n : Int) = true := by simp [Utf8.valid]; omega
  unfold encodeRune
  by_cases c1 : n < 128
  · rw [encodeRuneZ_one (by omega) (by omega)]
    simp [Utf8.encode, v, c1]
  by_cases c2 : n < 2048
  · rw [encodeRuneZ_two (by omega) (by omega)]
    simp only [Utf8.encode, v, c1, c2, if_true, if_false, Int.toNat_natCast, List.map_cons, List.map_nil]
    have e1 : (192 + (n : Int) / 64).toNat = 192 + n / 64 := by omega
    have e2 : (128 + (n : Int) % 64).toNat = 128 + n % 64 := by omega
    rw [e1, e2]
  by_cases c3 : n < 65536
  · rw [encodeRuneZ_three (by omega)]
    simp only [Utf8.encode, v, c1, c2, c3, if_true, if_false, Int.toNat_natCast, List.map_cons, List.map_nil]
    have e1 : (224 + (n : Int) / 4096).toNat = 224 + n / 4096 := by omega
    have e2 : (128 + (n : Int) / 64 % 64).toNat = 128 + n / 64 % 64 := by omega
    have e3 : (128 + (n : Int) % 64).toNat = 128 + n % 64 := by omega
    rw [e1, e2, e3]
  · rw [encodeRuneZ_four (by omega) (by omega)]
    simp only [Utf8.encode, v, c1, c2, c3, if_true, if_false, Int.toNat_natCast, List.map_cons, List.map_nil]
    have e1 : (240 + (n : Int) / 262144).toNat = 240 + n / 262144 := by omega
    have e2 : (128 + (n : Int) / 4096 % 64).toNat = 128 + n / 4096 % 64 := by omega
    have e3 : (128 + (n : Int) / 64 % 64).toNat = 128 + n / 64 % 64 := by omega
    have e4 : (128 + (n : Int) % 64).toNat = 128 + n % 64 := by omega
    rw [e1, e2, e3, e4]

theorem decode_encode {r : Int} (h : okR r) (t : List UInt8) : decodeL (encodeRune r ++ t) = (r.toNat, (encodeRune r).length) := by
  obtain ⟨h0, h1, h2⟩ := h
  rw [decodeL_N]
  unfold encodeRune
  by_cases c1 : r < 128
  · rw [encodeRuneZ_one (by omega) (by omega)]
    have b0 := u8_toNat r (by omega) (by omega)
    simp only [List.map_cons, List.map_nil, List.cons_append, List.nil_append, List.getD_cons_zero, List.length_cons, List.length_nil, b0]
    rw [decodeN, if_pos (by omega)]
  by_cases c2 : r < 2048
  · rw [encodeRuneZ_two (by omega) (by omega)]
    have b0 := u8_toNat (192 + r / 64) (by omega) (by omega)
    have b1 := u8_toNat (128 + r % 64) (by omega) (by omega)
    simp only [List.map_cons, List.map_nil, List.cons_append, List.nil_append, List.getD_cons_zero, List.getD_cons_succ, List.length_cons, List.length_nil, b0, b1]
    rw [decodeN, if_neg (by omega), if_pos (by omega), if_pos (by omega)]
    congr 1
    omega
  by_cases c3 : r < 65536
  · rw [encodeRuneZ_three (by omega)]
    have b0 := u8_toNat (224 + r / 4096) (by omega) (by omega)
    have b1 := u8_toNat (128 + r / 64 % 64) (by omega) (by omega)
    have b2 := u8_toNat (128 + r % 64) (by omega) (by omega)
    simp only [List.map_cons, List.map_nil, List.cons_append, List.nil_append, List.getD_cons_zero, List.getD_cons_succ, List.length_cons, List.length_nil, b0, b1, b2]
    rw [decodeN, if_neg (by omega), if_neg (by omega), if_pos (by omega), if_pos (by omega)]
    congr 1
    omega
  · rw [encodeRuneZ_four (by omega) (by omega)]
    have b0 := u8_toNat (240 + r / 262144) (by omega) (by omega)
    have b1 := u8_toNat (128 + r / 4096 % 64) (by omega) (by omega)
    have b2 := u8_toNat (128 + r / 64 % 64) (by omega) (by omega)
    have b3 := u8_toNat (128 + r % 64) (by omega) (by omega)
    simp only [List.map_cons, List.map_nil, List.cons_append, List.nil_append, List.getD_cons_zero, List.getD_cons_succ, List.length_cons, List.length_nil, b0, b1, b2, b3]
    rw [decodeN, if_neg (by omega), if_neg (by omega), if_neg (by omega), if_pos (by omega), if_pos (by omega)]
    congr 1
    omega

theorem encodeRune_ne (r : Int) : encodeRune r ≠ [] := by
  intro h
  have h1 := encodeRuneZ_length r
  have h2 := congrArg List.length h
  unfold encodeRune at h2
  rw [List.length_map, List.length_nil] at h2
  omega

theorem rs_cons {r : Int} (h : okR r) (t : List UInt8) : rs (encodeRune r ++ t) = r :: rs t := by
  have hne : encodeRune r ++ t ≠ [] := by
    intro e
    exact encodeRune_ne r (List.append_eq_nil_iff.1 e).1
  rw [rs_step _ hne, decode_encode h t]
  have e : ((r.toNat : Nat) : Int) = r := Int.toNat_of_nonneg h.1
  simp only [e, List.drop_left]

theorem rs_flat : ∀ ks : List Int, (∀ r ∈ ks, okR r) → rs (ks.flatMap encodeRune) = ks
  | [], _ => rfl
  | r :: ks, h => by
    rw [List.flatMap_cons, rs_cons (h r (by simp)), rs_flat ks (fun x hx => h x (by simp [hx]))]

theorem fold_list : ∀ (ks : List Int) (b : ByteArray), (∀ r ∈ ks, okR r) → (ks.foldl (fun r n => r ++ Utf8.encode n) b).data.toList = b.data.toList ++ ks.flatMap encodeRune
  | [], b, _ => by simp
  | r :: ks, b, h => by
    rw [List.foldl_cons, fold_list ks _ (fun x hx => h x (by simp [hx])), List.flatMap_cons, ByteArray.data_append, Array.toList_append, encode_list (h r (by simp)), List.append_assoc]

theorem bytes_list (ks : List Int) (h : ∀ r ∈ ks, okR r) : (runesBytes ks).data.toList = ks.flatMap encodeRune := by
  unfold runesBytes
  rw [fold_list ks _ h]
  rfl

theorem all_bytes (ks : List Int) (h : ∀ r ∈ ks, okR r) : all (runesBytes ks) = ks := by
  unfold all
  rw [bytes_list ks h, rs_flat ks h]

theorem rs_back : ∀ (n : Nat) (l : List UInt8), l.length ≤ n → (∀ r ∈ rs l, r ≠ 65533) → (rs l).flatMap encodeRune = l
  | 0, l, h, _ => by
    have : l = [] := List.eq_nil_of_length_eq_zero (by omega)
    subst this
    rfl
  | n + 1, l, h, hr => by
    by_cases hne : l = []
    · subst hne; rfl
    · have hw := decodeL_width l
      have hl : 0 < l.length := List.length_pos_iff.2 hne
      have e := rs_step l hne
      rw [e] at hr ⊢
      have h1 := hr _ (List.mem_cons_self)
      rw [List.flatMap_cons, encode_decode l hne (fun hh => h1 (by rw [hh.1]; rfl)), rs_back n _ (by rw [List.length_drop]; omega) (fun x hx => hr x (List.mem_cons_of_mem _ hx))]
      exact List.take_append_drop _ _

theorem good_ok {r : Int} (h : goodB r = true) : okR r ∧ r ≠ 65533 ∧ lowI r = r := by
  simp only [goodB, decide_eq_true_eq] at h
  refine ⟨⟨by omega, by omega, by omega⟩, by omega, ?_⟩
  unfold lowI
  rw [if_neg (by omega)]

theorem keep_good : ∀ ks : List Int, (∀ r ∈ ks, goodB r = true) → keep ks = ks
  | [], _ => rfl
  | r :: ks, h => by
    have hr := h r (by simp)
    have ih := keep_good ks (fun x hx => h x (by simp [hx]))
    unfold keep at *
    rw [List.map_cons, (good_ok hr).2.2, List.filter_cons, hr, if_pos rfl, ih]

theorem clean_good (l : List Int) : ∀ r ∈ cleanL l, goodB r = true := by
  intro r hr
  have h1 := List.mem_of_mem_take hr
  unfold keep at h1
  exact (List.mem_filter.1 h1).2
theorem clean_len (l : List Int) : (cleanL l).length ≤ 8 := by unfold cleanL; rw [List.length_take]; omega

/-- What is left of a text has just the runes that were kept. -/
theorem all_clean (s : ByteArray) : all (cleanS s) = cleanL (all s) := all_bytes _ (fun r hr => (good_ok (clean_good _ r hr)).1)
/-- It is left of itself. -/
theorem clean_clean (s : ByteArray) : cleanS (cleanS s) = cleanS s := by
  have e : cleanL (cleanL (all s)) = cleanL (all s) := by
    have h := keep_good _ (clean_good (all s))
    show (keep (cleanL (all s))).take 8 = _
    rw [h, List.take_of_length_le (clean_len _)]
  show runesBytes (cleanL (all (cleanS s))) = _
  rw [all_clean, e]
  rfl
/-- A name is left as it is. -/
theorem clean_valid (s : ByteArray) (h : validL (all s) = true) : cleanS s = s := by
  unfold validL at h
  simp only [Bool.and_eq_true, decide_eq_true_eq, List.all_eq_true] at h
  obtain ⟨⟨h1, h2⟩, h3⟩ := h
  have e : cleanL (all s) = all s := by
    show (keep (all s)).take 8 = _
    rw [keep_good _ h3, List.take_of_length_le h2]
  have e2 : (runesBytes (all s)).data.toList = s.data.toList := by
    rw [bytes_list _ (fun r hr => (good_ok (h3 r hr)).1)]
    exact rs_back _ _ (Nat.le_refl _) (fun r hr => (good_ok (h3 r hr)).2.1)
  unfold cleanS
  rw [e]
  exact ByteArray.ext (Array.toList_inj.1 e2)
/-- It is a name, or nothing. -/
theorem valid_clean (s : ByteArray) : cleanS s = ByteArray.empty ∨ validL (all (cleanS s)) = true := by
  rw [all_clean]
  by_cases h : cleanL (all s) = []
  · left
    unfold cleanS
    rw [h]
    rfl
  · right
    unfold validL
    have h1 : 0 < (cleanL (all s)).length := List.length_pos_iff.2 h
    have h2 := clean_len (all s)
    simp only [Bool.and_eq_true, decide_eq_true_eq, List.all_eq_true]
    exact ⟨⟨h1, h2⟩, clean_good _⟩
end Go.Proofs.YtcokpdhhpaahgaaDoor.Nam
