/-
  Plain mathematics: requests and answers, when they may be written, which bytes each is, what any bytes say; conditions: none.
-/
import Derived.Test.YtjfgnoidoeaaeaaPlain
import Derived.Laws.BytesArg
namespace Go.Proofs.Ytjfgnoidoeaaeaa

def I64 (x : Int) : Prop := -9223372036854775808 ≤ x ∧ x ≤ 9223372036854775807
/-- An answer; may it be written? Which bytes is it? -/
structure Rp where
  err : Int
  num : Int
  gott : Int
instance : DecidableEq Rp := fun a b => decidable_of_iff (a.err = b.err ∧ a.num = b.num ∧ a.gott = b.gott) (by cases a; cases b; simp)
def inB (x : Int) (l m : Int) : Bool := decide (l ≤ x ∧ x ≤ m)
theorem in_yes {x l m : Int} (h : inB x l m = true) : l ≤ x ∧ x ≤ m := of_decide_eq_true h
def respB (r : Rp) : Bool := inB r.err 0 16 && (inB r.num 0 2147483647 && inB r.gott 0 2147483647)
def respL (r : Rp) : List Int := numL r.err 1 ++ (numL r.num 4 ++ numL r.gott 4)
def respOut (r : Rp) : List Int := if respB r = true then respL r else []
/-- A request of a kind, a number and some bytes: likewise. -/
def reqB (k n : Int) (len : Nat) : Bool := inB k 1 9 && (inB n 0 2147483647 && decide ((len : Int) ≤ 1000))
def reqL (k n : Int) (bs : List Int) : List Int := numL k 1 ++ (numL n 4 ++ (numL (bs.length : Int) 2 ++ bs))
def reqOut (k n : Int) (bs : List Int) : List Int := if reqB k n bs.length = true then reqL k n bs else []
theorem resp_in {r : Rp} (h : respB r = true) : (0 ≤ r.err ∧ r.err ≤ 16) ∧ (0 ≤ r.num ∧ r.num ≤ 2147483647) ∧ (0 ≤ r.gott ∧ r.gott ≤ 2147483647) := by
  unfold respB at h
  rw [Bool.and_eq_true, Bool.and_eq_true] at h
  exact ⟨in_yes h.1, in_yes h.2.1, in_yes h.2.2⟩
theorem resp_of {r : Rp} (h1 : 0 ≤ r.err ∧ r.err ≤ 16) (h2 : 0 ≤ r.num ∧ r.num ≤ 2147483647) (h3 : 0 ≤ r.gott ∧ r.gott ≤ 2147483647) : respB r = true := by
  unfold respB inB
  rw [decide_eq_true h1, decide_eq_true h2, decide_eq_true h3]; rfl
theorem req_in {k n : Int} {len : Nat} (h : reqB k n len = true) : (1 ≤ k ∧ k ≤ 9) ∧ (0 ≤ n ∧ n ≤ 2147483647) ∧ len ≤ 1000 := by
  unfold reqB at h
  rw [Bool.and_eq_true, Bool.and_eq_true] at h
  exact ⟨in_yes h.1, in_yes h.2.1, by have := of_decide_eq_true h.2.2; omega⟩
theorem req_of {k n : Int} {len : Nat} (h1 : 1 ≤ k ∧ k ≤ 9) (h2 : 0 ≤ n ∧ n ≤ 2147483647) (h3 : len ≤ 1000) : reqB k n len = true := by
  unfold reqB inB
  rw [decide_eq_true h1, decide_eq_true h2, decide_eq_true (by omega : (len : Int) ≤ 1000)]; rfl
theorem resp_len (r : Rp) : (respL r).length = 9 := by simp [respL, num_len]
theorem req_len (k n : Int) (bs : List Int) : (reqL k n bs).length = 7 + bs.length := by simp [reqL, num_len]; omega
theorem resp_byt (r : Rp) : Byt (respL r) := byt_app (num_byt _ _) (byt_app (num_byt _ _) (num_byt _ _))
theorem req_byt (k n : Int) {bs : List Int} (h : Byt bs) : Byt (reqL k n bs) := byt_app (num_byt _ _) (byt_app (num_byt _ _) (byt_app (num_byt _ _) h))
/-- A reader's state behind so many bytes of a row; a number there. -/
def St (zs : List Int) (k : Nat) : Rs := if k ≤ zs.length then ⟨zs.drop k, false⟩ else ⟨[], true⟩
theorem st_zero (zs : List Int) : St zs 0 = ⟨zs, false⟩ := by unfold St; rw [if_pos (Nat.zero_le _)]; rfl
theorem st_aft (zs : List Int) (k n : Nat) : aft (St zs k) n = St zs (k + n) := by
  unfold St
  by_cases hk : k ≤ zs.length
  · rw [if_pos hk]
    by_cases hn : k + n ≤ zs.length
    · rw [if_pos hn, aft_yes rfl (by simp only [List.length_drop]; omega)]
      simp only [List.drop_drop]
    · rw [if_neg hn, aft_short (by simp only [List.length_drop]; omega)]
  · rw [if_neg hk, if_neg (by omega), aft_bad rfl]
theorem st_got {zs : List Int} {k n : Nat} (h : k + n ≤ zs.length) : got (St zs k) n = (zs.drop k).take n := by
  unfold St
  rw [if_pos (by omega), got_yes rfl (by simp only [List.length_drop]; omega)]
theorem st_low {zs : List Int} {k : Nat} (h : zs.length < k) : (St zs k).bad = true := by unfold St; rw [if_neg (by omega)]
theorem st_fine {zs : List Int} {k : Nat} (h : k ≤ zs.length) : (St zs k).bad = false := by unfold St; rw [if_pos h]
theorem st_left (zs : List Int) (k : Nat) : (St zs k).rest.length = zs.length - k := by
  unfold St
  split
  · simp
  · simp; omega
theorem st_ok {zs : List Int} (h : Byt zs) (k : Nat) : (St zs k).Ok := by
  unfold St
  split
  · exact ⟨byt_drop h k, fun h => by cases h⟩
  · exact ⟨byt_nil, fun _ => rfl⟩
def stN (zs : List Int) (k n : Nat) : Int := w64 (val (got (St zs k) n))
theorem i64_w64 (x : Int) : I64 (w64 x) := by
  unfold I64 w64
  rw [IntKind.wrap_i64]
  omega
theorem stN_i64 (zs : List Int) (k n : Nat) : I64 (stN zs k n) := i64_w64 _
theorem pw_le {a b : Nat} (h : a ≤ b) : (256 : Int) ^ a ≤ 256 ^ b := by
  obtain ⟨c, rfl⟩ := Nat.exists_eq_add_of_le h
  have h1 := pow_pos a
  have h2 := pow_pos c
  rw [Int.pow_add]
  have h3 := Int.mul_le_mul_of_nonneg_left (show (1 : Int) ≤ 256 ^ c by omega) (show (0 : Int) ≤ 256 ^ a by omega)
  rwa [Int.mul_one] at h3
theorem stN_lt {zs : List Int} (h : Byt zs) (k : Nat) {n : Nat} (hn : n ≤ 4) : 0 ≤ stN zs k n ∧ stN zs k n < 256 ^ n := by
  have hb := got_byt (st_ok h k) n
  have hl := got_len (St zs k) n
  have hv := val_pos hb
  have h2 : (256 : Int) ^ (got (St zs k) n).length ≤ 256 ^ n := pw_le hl
  have h3 : (256 : Int) ^ n ≤ 256 ^ 4 := pw_le hn
  rw [show (256 : Int) ^ 4 = 4294967296 from rfl] at h3
  unfold stN
  rw [w64_in (by omega)]
  omega
theorem num_snoc (n : Int) : ∀ k, numL n (k + 1) = numL (n / 256) k ++ [n % 256]
  | 0 => by simp [numL]
  | k + 1 => by
    rw [numL, num_snoc n k, numL, List.cons_append]
    congr 1
    rw [Int.pow_succ, Int.mul_comm, ← Int.ediv_ediv_of_nonneg (by omega : (0 : Int) ≤ 256)]
/-- A number's bytes are read back as bytes. -/
theorem num_val : ∀ (k : Nat) (zs : List Int), Byt zs → zs.length = k → numL (val zs) k = zs
  | 0, zs, _, hl => by rw [List.eq_nil_of_length_eq_zero hl]; rfl
  | k + 1, zs, h, hl => by
    have hne : zs ≠ [] := fun e => by rw [e] at hl; cases hl
    obtain ⟨ys, x, rfl⟩ : ∃ ys x, zs = ys ++ [x] := ⟨zs.dropLast, zs.getLast hne, (List.dropLast_concat_getLast hne).symm⟩
    have hx := h x (by simp)
    have hy : Byt ys := fun n hn => h n (List.mem_append_left _ hn)
    rw [num_snoc, val_more, show (val ys * 256 + x) / 256 = val ys by omega, show (val ys * 256 + x) % 256 = x by omega, num_val k ys hy (by simpa using hl)]
theorem stN_val {zs : List Int} (h : Byt zs) {k n : Nat} (hn : n ≤ 4) (hl : k + n ≤ zs.length) : stN zs k n = val ((zs.drop k).take n) := by
  unfold stN
  rw [st_got hl]
  have hb := byt_take (byt_drop h k) n
  have hv := val_pos hb
  have h2 : (256 : Int) ^ ((zs.drop k).take n).length ≤ 256 ^ 4 := pw_le (by rw [List.length_take]; omega)
  rw [show (256 : Int) ^ 4 = 4294967296 from rfl] at h2
  rw [w64_in (by omega)]
theorem num_of {zs : List Int} (h : Byt zs) {k n : Nat} (hn : n ≤ 4) (hl : k + n ≤ zs.length) : numL (stN zs k n) n = (zs.drop k).take n := by
  rw [stN_val h hn hl]
  exact num_val n _ (byt_take (byt_drop h k) n) (by rw [List.length_take, List.length_drop]; omega)
theorem fit_num {x : Int} {n : Nat} (hn : n ≤ 4) (h : 0 ≤ x ∧ x < 256 ^ n) : w64 (val (numL x n)) = x := by
  have h3 : (256 : Int) ^ n ≤ 256 ^ 4 := pw_le hn
  rw [show (256 : Int) ^ 4 = 4294967296 from rfl] at h3
  rw [val_fit h, w64_in (by omega)]
/-- What bytes say of an answer. -/
def respS (zs : List Int) : Rp := ⟨stN zs 0 1, stN zs 1 4, stN zs 5 4⟩
def GoodR (zs : List Int) : Prop := zs.length = 9 ∧ respB (respS zs) = true
instance (zs : List Int) : Decidable (GoodR zs) := by unfold GoodR; infer_instance
def zeroR : Rp := ⟨0, 0, 0⟩
def respR (zs : List Int) : Rp := if GoodR zs then respS zs else zeroR
def respE (zs : List Int) : Int := if GoodR zs then 0 else 6
theorem resp_back {r : Rp} (h : respB r = true) : GoodR (respL r) ∧ respS (respL r) = r := by
  obtain ⟨h1, h2, h3⟩ := resp_in h
  have hl := resp_len r
  have e : respS (respL r) = r := by
    unfold respS stN
    rw [st_got (by omega), st_got (by omega), st_got (by omega)]
    have p0 : ((respL r).drop 0).take 1 = numL r.err 1 := by unfold respL; rw [List.drop_zero, List.take_left' (num_len _ _)]
    have p1 : ((respL r).drop 1).take 4 = numL r.num 4 := by unfold respL; rw [List.drop_left' (num_len _ _), List.take_left' (num_len _ _)]
    have p2 : ((respL r).drop 5).take 4 = numL r.gott 4 := by
      unfold respL
      rw [← List.append_assoc, List.drop_left' (by rw [List.length_append, num_len, num_len]), List.take_of_length_le (by rw [num_len]; omega)]
    rw [p0, p1, p2, fit_num (by omega) ⟨h1.1, by rw [show (256 : Int) ^ 1 = 256 from rfl]; omega⟩, fit_num (by omega) ⟨h2.1, by rw [show (256 : Int) ^ 4 = 4294967296 from rfl]; omega⟩, fit_num (by omega) ⟨h3.1, by rw [show (256 : Int) ^ 4 = 4294967296 from rfl]; omega⟩]
  exact ⟨⟨hl, by rw [e]; exact h⟩, e⟩
theorem resp_bytes {zs : List Int} (hb : Byt zs) (h : GoodR zs) : respL (respS zs) = zs := by
  have hl := h.1
  unfold respL respS
  rw [num_of hb (by omega) (by omega), num_of hb (by omega) (by omega), num_of hb (by omega) (by omega), List.drop_zero, List.take_of_length_le (l := zs.drop 5) (by rw [List.length_drop]; omega)]
  rw [show zs.drop 5 = (zs.drop 1).drop 4 by rw [List.drop_drop], List.take_append_drop, List.take_append_drop]
/-- Bytes that are an answer are those of it; no other bytes are. -/
theorem resp_same {zs : List Int} (hb : Byt zs) : respOut (respS zs) = zs ∧ respOut (respS zs) ≠ [] ↔ GoodR zs := by
  constructor
  · rintro ⟨h1, h2⟩
    unfold respOut at h1 h2
    by_cases h : respB (respS zs) = true
    · rw [if_pos h] at h1
      exact ⟨by have := congrArg List.length h1; rw [resp_len] at this; omega, h⟩
    · rw [if_neg h] at h2
      exact absurd rfl h2
  · intro h
    unfold respOut
    rw [if_pos h.2, resp_bytes hb h]
    exact ⟨rfl, fun e => by have := h.1; rw [e] at this; cases this⟩
/-- What bytes say of a request. -/
def reqK (zs : List Int) : Int := stN zs 0 1
def reqN (zs : List Int) : Int := stN zs 1 4
def reqZ (zs : List Int) : Int := stN zs 5 2
def GoodQ (zs : List Int) : Prop := (zs.length : Int) = 7 + reqZ zs ∧ reqB (reqK zs) (reqN zs) (zs.length - 7) = true
instance (zs : List Int) : Decidable (GoodQ zs) := by unfold GoodQ; infer_instance
def toldK (zs : List Int) : Int := if GoodQ zs then reqK zs else 0
def toldN (zs : List Int) : Int := if GoodQ zs then reqN zs else 0
def toldB (zs : List Int) : List Int := if GoodQ zs then zs.drop 7 else []
def toldE (zs : List Int) : Int := if GoodQ zs then 0 else 6
theorem reqZ_lt {zs : List Int} (h : Byt zs) : 0 ≤ reqZ zs ∧ reqZ zs < 65536 := stN_lt h 5 (by omega)
theorem reqZ_short {zs : List Int} (h : zs.length < 7) : reqZ zs = 0 := by
  unfold reqZ stN
  have : got (St zs 5) 2 = [] := by
    unfold St
    split
    · exact got_short (by rw [List.length_drop]; omega)
    · exact got_bad rfl
  rw [this]; decide
theorem good_long {zs : List Int} (hb : Byt zs) (h : GoodQ zs) : 7 ≤ zs.length ∧ zs.length ≤ 1007 := by
  have h1 := h.1
  have h2 := req_in h.2
  have h3 := reqZ_lt hb
  omega
theorem req_back {k n : Int} {bs : List Int} (h : reqB k n bs.length = true) : GoodQ (reqL k n bs) ∧ reqK (reqL k n bs) = k ∧ reqN (reqL k n bs) = n ∧ (reqL k n bs).drop 7 = bs := by
  obtain ⟨h1, h2, h3⟩ := req_in h
  have hl := req_len k n bs
  have p0 : ((reqL k n bs).drop 0).take 1 = numL k 1 := by unfold reqL; rw [List.drop_zero, List.take_left' (num_len _ _)]
  have p1 : ((reqL k n bs).drop 1).take 4 = numL n 4 := by unfold reqL; rw [List.drop_left' (num_len _ _), List.take_left' (num_len _ _)]
  have q5 : (reqL k n bs).drop 5 = numL (bs.length : Int) 2 ++ bs := by
    unfold reqL
    rw [← List.append_assoc, List.drop_left' (by rw [List.length_append, num_len, num_len])]
  have p2 : ((reqL k n bs).drop 5).take 2 = numL (bs.length : Int) 2 := by rw [q5, List.take_left' (num_len _ _)]
  have p3 : (reqL k n bs).drop 7 = bs := by
    rw [show (reqL k n bs).drop 7 = ((reqL k n bs).drop 5).drop 2 by rw [List.drop_drop], q5, List.drop_left' (num_len _ _)]
  have e0 : reqK (reqL k n bs) = k := by unfold reqK stN; rw [st_got (by omega), p0, fit_num (by omega) ⟨by omega, by rw [show (256 : Int) ^ 1 = 256 from rfl]; omega⟩]
  have e1 : reqN (reqL k n bs) = n := by unfold reqN stN; rw [st_got (by omega), p1, fit_num (by omega) ⟨by omega, by rw [show (256 : Int) ^ 4 = 4294967296 from rfl]; omega⟩]
  have e2 : reqZ (reqL k n bs) = (bs.length : Int) := by unfold reqZ stN; rw [st_got (by omega), p2, fit_num (by omega) ⟨by omega, by rw [show (256 : Int) ^ 2 = 65536 from rfl]; omega⟩]
  refine ⟨⟨by rw [e2, hl]; omega, ?_⟩, e0, e1, p3⟩
  rw [e0, e1, hl, show 7 + bs.length - 7 = bs.length by omega]
  exact h
theorem req_bytes {zs : List Int} (hb : Byt zs) (h : GoodQ zs) : reqL (reqK zs) (reqN zs) (zs.drop 7) = zs := by
  have hl := good_long hb h
  have hz : (((zs.drop 7).length : Nat) : Int) = reqZ zs := by have := h.1; rw [List.length_drop]; omega
  unfold reqL
  rw [hz]
  unfold reqK reqN reqZ
  rw [num_of hb (by omega) (by omega), num_of hb (by omega) (by omega), num_of hb (by omega) (by omega), List.drop_zero]
  rw [show zs.drop 7 = (zs.drop 5).drop 2 by rw [List.drop_drop], List.take_append_drop, show zs.drop 5 = (zs.drop 1).drop 4 by rw [List.drop_drop], List.take_append_drop, List.take_append_drop]
/-- The bytes that a reader finds behind the numbers: all that there are, or none. -/
def reqD (zs : List Int) : List Int := if reqZ zs ≤ 1000 then got (St zs 7) (cutN (reqZ zs) 1000) else []
theorem reqD_good {zs : List Int} (hb : Byt zs) (h : GoodQ zs) : reqD zs = zs.drop 7 := by
  have h1 := h.1
  have h2 := req_in h.2
  have h3 := good_long hb h
  have hc : (cutN (reqZ zs) 1000 : Int) = reqZ zs := cut_mid (by omega) (by omega)
  unfold reqD
  rw [if_pos (by omega), st_got (by omega), List.take_of_length_le (by rw [List.length_drop]; omega)]
theorem req_same {zs : List Int} (hb : Byt zs) : reqOut (reqK zs) (reqN zs) (reqD zs) = zs ∧ reqOut (reqK zs) (reqN zs) (reqD zs) ≠ [] ↔ GoodQ zs := by
  constructor
  · rintro ⟨h1, h2⟩
    unfold reqOut at h1 h2
    by_cases h : reqB (reqK zs) (reqN zs) (reqD zs).length = true
    · rw [if_pos h] at h1
      have g := (req_back h).1
      rw [h1] at g
      exact g
    · rw [if_neg h] at h2
      exact absurd rfl h2
  · intro h
    have hl := good_long hb h
    unfold reqOut
    rw [reqD_good hb h, List.length_drop, if_pos h.2, req_bytes hb h]
    exact ⟨rfl, fun e => by rw [e] at hl; simp at hl⟩
/-- A row whose reader has come to its end, with the numbers right, is a request. -/
theorem good_end {zs : List Int} (hb : Byt zs) (h1 : reqZ zs ≤ 1000) (h2 : reqB (reqK zs) (reqN zs) (got (St zs 7) (cutN (reqZ zs) 1000)).length = true) (h3 : zs.length = 7 + cutN (reqZ zs) 1000) : GoodQ zs := by
  have hz := reqZ_lt hb
  have hc : (cutN (reqZ zs) 1000 : Int) = reqZ zs := cut_mid (by omega) (by omega)
  refine ⟨by omega, ?_⟩
  rw [st_got (by omega), List.length_take, List.length_drop] at h2
  rwa [Nat.min_eq_right (Nat.le_of_eq (by omega)), ] at h2
theorem not_nil_q : ¬ GoodQ [] := fun h => by have := h.1; rw [reqZ_short (by simp)] at this; simp at this
theorem good_not {k n : Int} {bs : List Int} (h : reqB k n bs.length = true) (hb : Byt bs) (j : Nat) (hj : j < 7 + bs.length) : ¬ GoodQ ((reqL k n bs).take j) := fun g => by
  have hl := req_len k n bs
  have hz := good_long (byt_take (req_byt k n hb) j) g
  have h1 := g.1
  rw [List.length_take] at h1 hz
  have e : reqZ ((reqL k n bs).take j) = reqZ (reqL k n bs) := by
    unfold reqZ stN
    rw [st_got (by rw [List.length_take]; omega), st_got (by omega), List.drop_take, List.take_take, Nat.min_eq_left (by omega)]
  have h2 := (req_back h).1.1
  rw [e] at h1
  omega
theorem good_more {k n : Int} {bs : List Int} (h : reqB k n bs.length = true) (x : Int) : ¬ GoodQ (reqL k n bs ++ [x]) := fun g => by
  have hl := req_len k n bs
  have h1 := g.1
  have e : reqZ (reqL k n bs ++ [x]) = reqZ (reqL k n bs) := by
    unfold reqZ stN
    rw [st_got (by rw [List.length_append]; omega), st_got (by omega), List.drop_append_of_le_length (by omega), List.take_append_of_le_length (by rw [List.length_drop]; omega)]
  have h2 := (req_back h).1.1
  rw [e, List.length_append] at h1
  simp at h1
  omega
theorem not_nine {zs : List Int} (h : zs.length ≠ 9) : ¬ GoodR zs := fun g => h g.1
end Go.Proofs.Ytjfgnoidoeaaeaa
