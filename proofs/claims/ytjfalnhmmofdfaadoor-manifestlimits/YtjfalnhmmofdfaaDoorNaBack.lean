/-
  Plain lists, no program: runes that are written and read again are as they were; a text whose runes may all be in a name is what they are written as; conditions: the runes are code points.
-/
import Derived.Test.YtjfalnhmmofdfaaDoorNaPlain
namespace Go.Proofs.YtjfalnhmmofdfaaDoor.Nam
open Go.Lib

def okR (r : Int) : Prop := 0 ≤ r ∧ r ≤ 1114111 ∧ ¬ (55296 ≤ r ∧ r ≤ 57343)

theorem u8_toNat (z : Int) (h0 : 0 ≤ z) (h1 : z < 256) : (z.toNat.toUInt8).toNat = z.toNat := by
  have : z.toNat < 256 := by omega
  simp [Nat.mod_eq_of_lt this]

theorem encode_list {r : Int} (h : okR r) : (Utf8.encode r).data.toList = encodeRune r := by
  obtain ⟨h0, h1, h2⟩ := h
  obtain ⟨n, rfl⟩ : ∃ n : Nat, r = (n : Int) := ⟨r.toNat, by omega⟩
  have v : Utf8.valid (n : Int) = true := by simp [Utf8.valid]; omega
  unfold encodeRune
  by_cases c1 : n < 128
  · rw [encodeRuneZ_one (by omega) (by omega)]
    simp [Utf8.encode, v, c1]
  by_cases c2 : n < 2048
  · rw [encodeRuneZ_two (by omega) (by omega)]
    simp only [Utf8.encode, v, c1, c2, if_true, if_false, Int.toNat_natCast, List.map_cons, List.map_nil]
    have e1 : (192 + (n : Int) / 64).toNat = 192 + n / 64 := by omega
    have e2 : (128 + (n : Int) % 64).toNat = 128 + n % 64 := by omega
    rw [e1, e2]
  by_cases c3 : n < 65536
  · rw [encodeRuneZ_three (by omega)]
    simp only [Utf8.encode, v, c1, c2, c3, if_true, if_false, Int.toNat_natCast, List.map_cons, List.map_nil]
    have e1 : (224 + (n : Int) / 4096).toNat = 224 + n / 4096 := by omega
    have e2 : (128 + (n : Int) / 64 % 64).toNat = 128 + n / 64 % 64 := by omega
    have e3 : (128 + (n : Int) % 64).toNat = 128 + n % 64 := by omega
    rw [e1, e2, e3]
  · rw [encodeRuneZ_four (by omega) (by omega)]
    simp only [Utf8.encode, v, c1, c2, c3, if_true, if_false, Int.toNat_natCast, List.map_cons, List.map_nil]
    have e1 : (240 + (n : Int) / 262144).toNat = 240 + n / 262144 := by omega
    have e2 : (128 + (n : Int) / 4096 % 64).toNat = 128 + n / 4096 % 64 := by omega
    have e3 : (128 + (n : Int) / 64 % 64).toNat = 128 + n / 64 % 64 := by omega
    have e4 : (128 + (n : Int) % 64).toNat = 128 + n % 64 := by omega
    rw [e1, e2, e3, e4]

theorem decode_encode {r : Int} (h : okR r) (t : List UInt8) : decodeL (encodeRune r ++ t) = (r.toNat, (encodeRune r).length) := by
  obtain ⟨h0, h1, h2⟩ := h
  rw [decodeL_N]
  unfold encodeRune
  by_cases c1 : r < 128
  · rw [encodeRuneZ_one (by omega) (by omega)]
    have b0 := u8_toNat r (by omega) (by omega)
    simp only [List.map_cons, List.map_nil, List.cons_append, List.nil_append, List.getD_cons_zero, List.length_cons, List.length_nil, b0]
    rw [decodeN, if_pos (by omega)]
  by_cases c2 : r < 2048
  · rw [encodeRuneZ_two (by omega) (by omega)]
    have b0 := u8_toNat (192 + r / 64) (by omega) (by omega)
    have b1 := u8_toNat (128 + r % 64) (by omega) (by omega)
    simp only [List.map_cons, List.map_nil, List.cons_append, List.nil_append, List.getD_cons_zero, List.getD_cons_succ, List.length_cons, List.length_nil, b0, b1]
    rw [decodeN, if_neg (by omega), if_pos (by omega), if_pos (by omega)]
    congr 1
    omega
  by_cases c3 : r < 65536
  · rw [encodeRuneZ_three (by omega)]
    have b0 := u8_toNat (224 + r / 4096) (by omega) (by omega)
    have b1 := u8_toNat (128 + r / 64 % 64) (by omega) (by omega)
    have b2 := u8_toNat (128 + r % 64) (by omega) (by omega)
    simp only [List.map_cons, List.map_nil, List.cons_append, List.nil_append, List.getD_cons_zero, List.getD_cons_succ, List.length_cons, List.length_nil, b0, b1, b2]
    rw [decodeN, if_neg (by omega), if_neg (by omega), if_pos (by omega), if_pos (by omega)]
    congr 1
    omega
  · rw [encodeRuneZ_four (by omega) (by omega)]
    have b0 := u8_toNat (240 + r / 262144) (by omega) (by omega)
    have b1 := u8_toNat (128 + r / 4096 % 64) (by omega) (by omega)
    have b2 := u8_toNat (128 + r / 64 % 64) (by omega) (by omega)
    have b3 := u8_toNat (128 + r % 64) (by omega) (by omega)
    simp only [List.map_cons, List.map_nil, List.cons_append, List.nil_append, List.getD_cons_zero, List.getD_cons_succ, List.length_cons, List.length_nil, b0, b1, b2, b3]
    rw [decodeN, if_neg (by omega), if_neg (by omega), if_neg (by omega), if_pos (by omega), if_pos (by omega)]
    congr 1
    omega

theorem encodeRune_ne (r : Int) : encodeRune r ≠ [] := by
  intro h
  have h1 := encodeRuneZ_length r
  have h2 := congrArg List.length h
  unfold encodeRune at h2
  rw [List.length_map, List.length_nil] at h2
  omega

theorem rs_cons {r : Int} (h : okR r) (t : List UInt8) : rs (encodeRune r ++ t) = r :: rs t := by
  have hne : encodeRune r ++ t ≠ [] := by
    intro e
    exact encodeRune_ne r (List.append_eq_nil_iff.1 e).1
  rw [rs_step _ hne, decode_encode h t]
  have e : ((r.toNat : Nat) : Int) = r := Int.toNat_of_nonneg h.1
  simp only [e, List.drop_left]

theorem rs_flat : ∀ ks : List Int, (∀ r ∈ ks, okR r) → rs (ks.flatMap encodeRune) = ks
  | [], _ => rfl
  | r :: ks, h => by
    rw [List.flatMap_cons, rs_cons (h r (by simp)), rs_flat ks (fun x hx => h x (by simp [hx]))]

theorem fold_list : ∀ (ks : List Int) (b : ByteArray), (∀ r ∈ ks, okR r) → (ks.foldl (fun r n => r ++ Utf8.encode n) b).data.toList = b.data.toList ++ ks.flatMap encodeRune
  | [], b, _ => by simp
  | r :: ks, b, h => by
    rw [List.foldl_cons, fold_list ks _ (fun x hx => h x (by simp [hx])), List.flatMap_cons, ByteArray.data_append, Array.toList_append, encode_list (h r (by simp)), List.append_assoc]

theorem bytes_list (ks : List Int) (h : ∀ r ∈ ks, okR r) : (runesBytes ks).data.toList = ks.flatMap encodeRune := by
  unfold runesBytes
  rw [fold_list ks _ h]
  rfl

theorem all_bytes (ks : List Int) (h : ∀ r ∈ ks, okR r) : all (runesBytes ks) = ks := by
  unfold all
  rw [bytes_list ks h, rs_flat ks h]

theorem rs_back : ∀ (n : Nat) (l : List UInt8), l.length ≤ n → (∀ r ∈ rs l, r ≠ 65533) → (rs l).flatMap encodeRune = l
  | 0, l, h, _ => by
    have : l = [] := List.eq_nil_of_length_eq_zero (by omega)
    subst this
    rfl
  | n + 1, l, h, hr => by
    by_cases hne : l = []
    · subst hne; rfl
    · have hw := decodeL_width l
      have hl : 0 < l.length := List.length_pos_iff.2 hne
      have e := rs_step l hne
      rw [e] at hr ⊢
      have h1 := hr _ (List.mem_cons_self)
      rw [List.flatMap_cons, encode_decode l hne (fun hh => h1 (by rw [hh.1]; rfl)), rs_back n _ (by rw [List.length_drop]; omega) (fun x hx => hr x (List.mem_cons_of_mem _ hx))]
      exact List.take_append_drop _ _

theorem good_ok {r : Int} (h : goodB r = true) : okR r ∧ r ≠ 65533 ∧ lowI r = r := by
  simp only [goodB, decide_eq_true_eq] at h
  refine ⟨⟨by omega, by omega, by omega⟩, by omega, ?_⟩
  unfold lowI
  rw [if_neg (by omega)]

theorem keep_good : ∀ ks : List Int, (∀ r ∈ ks, goodB r = true) → keep ks = ks
  | [], _ => rfl
  | r :: ks, h => by
    have hr := h r (by simp)
    have ih := keep_good ks (fun x hx => h x (by simp [hx]))
    unfold keep at *
    rw [List.map_cons, (good_ok hr).2.2, List.filter_cons, hr, if_pos rfl, ih]

theorem clean_good (l : List Int) : ∀ r ∈ cleanL l, goodB r = true := by
  intro r hr
  have h1 := List.mem_of_mem_take hr
  unfold keep at h1
  exact (List.mem_filter.1 h1).2
theorem clean_len (l : List Int) : (cleanL l).length ≤ 8 := by unfold cleanL; rw [List.length_take]; omega

/-- What is left of a text has just the runes that were kept. -/
theorem all_clean (s : ByteArray) : all (cleanS s) = cleanL (all s) := all_bytes _ (fun r hr => (good_ok (clean_good _ r hr)).1)
/-- It is left of itself. -/
theorem clean_clean (s : ByteArray) : cleanS (cleanS s) = cleanS s := by
  have e : cleanL (cleanL (all s)) = cleanL (all s) := by
    have h := keep_good _ (clean_good (all s))
    show (keep (cleanL (all s))).take 8 = _
    rw [h, List.take_of_length_le (clean_len _)]
  show runesBytes (cleanL (all (cleanS s))) = _
  rw [all_clean, e]
  rfl
/-- A name is left as it is. -/
theorem clean_valid (s : ByteArray) (h : validL (all s) = true) : cleanS s = s := by
  unfold validL at h
  simp only [Bool.and_eq_true, decide_eq_true_eq, List.all_eq_true] at h
  obtain ⟨⟨h1, h2⟩, h3⟩ := h
  have e : cleanL (all s) = all s := by
    show (keep (all s)).take 8 = _
    rw [keep_good _ h3, List.take_of_length_le h2]
  have e2 : (runesBytes (all s)).data.toList = s.data.toList := by
    rw [bytes_list _ (fun r hr => (good_ok (h3 r hr)).1)]
    exact rs_back _ _ (Nat.le_refl _) (fun r hr => (good_ok (h3 r hr)).2.1)
  unfold cleanS
  rw [e]
  exact ByteArray.ext (Array.toList_inj.1 e2)
/-- It is a name, or nothing. -/
theorem valid_clean (s : ByteArray) : cleanS s = ByteArray.empty ∨ validL (all (cleanS s)) = true := by
  rw [all_clean]
  by_cases h : cleanL (all s) = []
  · left
    unfold cleanS
    rw [h]
    rfl
  · right
    unfold validL
    have h1 : 0 < (cleanL (all s)).length := List.length_pos_iff.2 h
    have h2 := clean_len (all s)
    simp only [Bool.and_eq_true, decide_eq_true_eq, List.all_eq_true]
    exact ⟨⟨h1, h2⟩, clean_good _⟩
end Go.Proofs.YtjfalnhmmofdfaaDoor.Nam
