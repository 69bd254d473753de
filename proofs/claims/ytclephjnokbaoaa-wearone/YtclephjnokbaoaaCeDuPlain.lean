/-
  Plain mathematics: bytes with their opposites behind them, written and read, and what missing bits make of them; conditions: none.
-/
import Derived.Laws.BitsAllLaws
import Derived.Test.YtclephjnokbaoaaCePlain
namespace Go.Proofs.Ytclephjnokbaoaa

theorem ce_list_eq {xs ys : List Int} (hl : xs.length = ys.length) (h : ∀ j, j < xs.length → xs.getD j 0 = ys.getD j 0) : xs = ys := by
  refine List.ext_getElem hl fun i h1 h2 => ?_
  have := h i h1
  rw [List.getD_eq_getElem?_getD, List.getD_eq_getElem?_getD, List.getElem?_eq_getElem h1, List.getElem?_eq_getElem h2] at this
  exact this
theorem ce_getD_set (xs : List Int) (j i : Nat) (x : Int) (h : i < xs.length) : (xs.set j x).getD i 0 = if j = i then x else xs.getD i 0 := by
  rw [List.getD_eq_getElem?_getD, List.getElem?_set]
  by_cases e : j = i
  · subst e
    rw [if_pos rfl, if_pos rfl, if_pos h]
    rfl
  · rw [if_neg e, if_neg e, List.getD_eq_getElem?_getD]
theorem ce_getD_rep (n j : Nat) (x : Int) (h : j < n) : (List.replicate n x).getD j 0 = x := by
  rw [List.getD_eq_getElem?_getD, List.getElem?_replicate, if_pos h]
  rfl
/-- Of each byte it, and its opposite. -/
def putL (zs : List Int) : List Int := (List.range (2 * zs.length)).map fun i => if i % 2 = 0 then zs.getD (i / 2) 0 else 255 - zs.getD (i / 2) 0
/-- Each second byte, so many of them. -/
def evL (zs : List Int) (n : Nat) : List Int := (List.range n).map fun i => zs.getD (2 * i) 0
/-- So many pairs, from the first on, are a byte and its opposite. -/
def upto (zs : List Int) (n : Nat) : Prop := ∀ k, k < n → zs.getD (2 * k + 1) 0 = 255 - zs.getD (2 * k) 0
def Whole (zs : List Int) : Prop := zs.length % 2 = 0 ∧ upto zs (zs.length / 2)
/-- What is read, and whether. -/
def Read (zs rs : List Int) (b : Bool) : Prop := (Whole zs ∧ rs = evL zs (zs.length / 2) ∧ b = true) ∨ (¬ Whole zs ∧ rs = [] ∧ b = false)
theorem Read.same {zs rs rs' : List Int} {b b' : Bool} (h : Read zs rs b) (h' : Read zs rs' b') : rs = rs' ∧ b = b' := by
  rcases h with ⟨h1, h2, h3⟩ | ⟨h1, h2, h3⟩ <;> rcases h' with ⟨k1, k2, k3⟩ | ⟨k1, k2, k3⟩
  · exact ⟨h2.trans k2.symm, h3.trans k3.symm⟩
  · exact absurd h1 k1
  · exact absurd k1 h1
  · exact ⟨h2.trans k2.symm, h3.trans k3.symm⟩
theorem Read.none {zs rs : List Int} {b : Bool} (h : Read zs rs b) (hn : ¬ Whole zs) : rs = [] ∧ b = false := by
  rcases h with ⟨h1, h2, h3⟩ | ⟨h1, h2, h3⟩
  · exact absurd h1 hn
  · exact ⟨h2, h3⟩
theorem Read.some {zs rs : List Int} {b : Bool} (h : Read zs rs b) (hn : Whole zs) : rs = evL zs (zs.length / 2) ∧ b = true := by
  rcases h with ⟨h1, h2, h3⟩ | ⟨h1, h2, h3⟩
  · exact ⟨h2, h3⟩
  · exact absurd hn h1
theorem ce_put_len (zs : List Int) : (putL zs).length = 2 * zs.length := by simp [putL]
theorem put_get (zs : List Int) {i : Nat} (h : i < 2 * zs.length) : (putL zs).getD i 0 = if i % 2 = 0 then zs.getD (i / 2) 0 else 255 - zs.getD (i / 2) 0 := by
  simp [putL, List.getD_eq_getElem?_getD, List.getElem?_map, List.getElem?_range h]
theorem put_even (zs : List Int) {k : Nat} (h : k < zs.length) : (putL zs).getD (2 * k) 0 = zs.getD k 0 := by
  rw [put_get zs (by omega), if_pos (by omega), show 2 * k / 2 = k by omega]
theorem put_odd (zs : List Int) {k : Nat} (h : k < zs.length) : (putL zs).getD (2 * k + 1) 0 = 255 - zs.getD k 0 := by
  rw [put_get zs (by omega), if_neg (by omega), show (2 * k + 1) / 2 = k by omega]
theorem ce_put_byt {zs : List Int} (h : Byt zs) : Byt (putL zs) := by
  intro n hn
  obtain ⟨i, _, rfl⟩ := List.mem_map.1 hn
  have := byt_at h (i / 2)
  split <;> omega
theorem put_more (zs : List Int) (k : Nat) (h : k < zs.length) : putL (zs.take k) ++ [zs.getD k 0, 255 - zs.getD k 0] = putL (zs.take (k + 1)) := by
  have hl1 : (zs.take k).length = k := by rw [List.length_take]; omega
  have hl2 : (zs.take (k + 1)).length = k + 1 := by rw [List.length_take]; omega
  refine ce_list_eq (by rw [List.length_append, ce_put_len, ce_put_len, hl1, hl2]; simp; omega) fun j hj => ?_
  rw [List.length_append, ce_put_len, hl1] at hj
  simp only [List.length_cons, List.length_nil] at hj
  have gt : ∀ m i, i < m → (zs.take m).getD i 0 = zs.getD i 0 := fun m i hi => by simp [List.getD_eq_getElem?_getD, hi]
  rw [put_get (zs.take (k + 1)) (by rw [hl2]; omega), gt (k + 1) (j / 2) (by omega)]
  by_cases h2 : j < 2 * k
  · have e : (putL (zs.take k) ++ [zs.getD k 0, 255 - zs.getD k 0]).getD j 0 = (putL (zs.take k)).getD j 0 := by
      rw [List.getD_eq_getElem?_getD, List.getElem?_append_left (by rw [ce_put_len, hl1]; omega), List.getD_eq_getElem?_getD]
    rw [e, put_get (zs.take k) (by rw [hl1]; omega), gt k (j / 2) (by omega)]
  · have e : (putL (zs.take k) ++ [zs.getD k 0, 255 - zs.getD k 0]).getD j 0 = [zs.getD k 0, 255 - zs.getD k 0].getD (j - 2 * k) 0 := by
      rw [List.getD_eq_getElem?_getD, List.getElem?_append_right (by rw [ce_put_len, hl1]; omega), ce_put_len, hl1, ← List.getD_eq_getElem?_getD]
    rw [e]
    rcases (show j = 2 * k ∨ j = 2 * k + 1 by omega) with rfl | rfl
    · rw [if_pos (by omega), show 2 * k / 2 = k by omega, show 2 * k - 2 * k = 0 by omega]
      rfl
    · rw [if_neg (by omega), show (2 * k + 1) / 2 = k by omega, show 2 * k + 1 - 2 * k = 1 by omega]
      rfl
theorem put_none (zs : List Int) : putL (zs.take 0) = [] := by simp [putL]
theorem ev_len (zs : List Int) (n : Nat) : (evL zs n).length = n := by simp [evL]
theorem ev_more (zs : List Int) (k : Nat) : evL zs k ++ [zs.getD (2 * k) 0] = evL zs (k + 1) := by
  unfold evL
  rw [List.range_succ, List.map_append]
  rfl
theorem ev_byt {zs : List Int} (h : Byt zs) (n : Nat) : Byt (evL zs n) := by
  intro x hx
  obtain ⟨i, _, rfl⟩ := List.mem_map.1 hx
  exact byt_at h _
theorem ev_put (zs : List Int) : evL (putL zs) ((putL zs).length / 2) = zs := by
  have hl : (putL zs).length / 2 = zs.length := by rw [ce_put_len]; omega
  rw [hl]
  refine ce_list_eq (ev_len _ _) fun j hj => ?_
  rw [ev_len] at hj
  simp only [evL, List.getD_eq_getElem?_getD, List.getElem?_map, List.getElem?_range hj, Option.map_some, Option.getD_some]
  have := put_even zs hj
  rw [List.getD_eq_getElem?_getD, List.getD_eq_getElem?_getD] at this
  exact this
theorem put_whole (zs : List Int) : Whole (putL zs) := by
  refine ⟨by rw [ce_put_len]; omega, fun k hk => ?_⟩
  rw [ce_put_len] at hk
  rw [put_odd zs (by omega), put_even zs (by omega)]
theorem read_put {zs rs : List Int} {b : Bool} (h : Read (putL zs) rs b) : rs = zs ∧ b = true := by
  have := h.some (put_whole zs)
  rw [ev_put] at this
  exact this
theorem upto_more {zs : List Int} {k : Nat} (h : upto zs k) (h2 : zs.getD (2 * k + 1) 0 = 255 - zs.getD (2 * k) 0) : upto zs (k + 1) := by
  intro j hj
  by_cases e : j = k
  · subst e; exact h2
  · exact h j (by omega)
theorem upto_zero (zs : List Int) : upto zs 0 := fun k hk => by omega
theorem upto_no {zs : List Int} {k : Nat} (hk : 2 * k + 1 < zs.length) (h2 : zs.getD (2 * k + 1) 0 ≠ 255 - zs.getD (2 * k) 0) : ¬ Whole zs := fun h => h2 (h.2 k (by omega))
theorem odd_no {zs : List Int} (h : zs.length % 2 ≠ 0) : ¬ Whole zs := fun hw => h hw.1

/-- Some bits are set beside. -/
def orL (xs ms : List Int) (n j : Nat) : List Int := (List.range n).map fun i => if i < j then Go.bits .or .u8 (xs.getD i 0) (ms.getD i 0) else 0
theorem or_len (xs ms : List Int) (n j : Nat) : (orL xs ms n j).length = n := by simp [orL]
theorem or_get (xs ms : List Int) {n j i : Nat} (h : i < n) : (orL xs ms n j).getD i 0 = if i < j then Go.bits .or .u8 (xs.getD i 0) (ms.getD i 0) else 0 := by
  simp [orL, List.getD_eq_getElem?_getD, List.getElem?_map, List.getElem?_range h]
theorem or_at (xs ms : List Int) {n j i : Nat} (h : i < n) (h2 : i < j) : (orL xs ms n j).getD i 0 = Go.bits .or .u8 (xs.getD i 0) (ms.getD i 0) := by rw [or_get _ _ h, if_pos h2]
theorem or_none (xs ms : List Int) (n : Nat) : orL xs ms n 0 = List.replicate n 0 := by
  refine ce_list_eq (by rw [or_len, List.length_replicate]) fun j hj => ?_
  rw [or_len] at hj
  rw [or_get _ _ hj, if_neg (by omega), ce_getD_rep _ _ _ hj]
theorem or_more (xs ms : List Int) {n j : Nat} : (orL xs ms n j).set j (Go.bits .or .u8 (xs.getD j 0) (ms.getD j 0)) = orL xs ms n (j + 1) := by
  refine ce_list_eq (by rw [List.length_set, or_len, or_len]) fun i hi => ?_
  rw [List.length_set] at hi
  rw [ce_getD_set _ _ _ _ hi]
  rw [or_len] at hi
  rw [or_get _ _ hi, or_get _ _ hi]
  by_cases e : j = i
  · subst e
    rw [if_pos rfl, if_pos (by omega)]
  · rw [if_neg e]
    by_cases h2 : i < j
    · rw [if_pos h2, if_pos (by omega)]
    · rw [if_neg h2, if_neg (by omega)]
theorem bits_xor (x y : Int) (hx : 0 ≤ x ∧ x ≤ 255) (hy : 0 ≤ y ∧ y ≤ 255) : bits .xor .u8 x y = ((x.toNat ^^^ y.toNat : Nat) : Int) := u8_xor x y hx.1 (by omega) hy.1 (by omega)
theorem all_ones {x : Nat} (hx : x < 256) : x ^^^ 255 = 255 - x := by
  have h1 : (BitVec.ofNat 8 x ^^^ BitVec.allOnes 8) = ~~~ (BitVec.ofNat 8 x) := BitVec.xor_allOnes
  have h2 := congrArg BitVec.toNat h1
  rw [BitVec.toNat_xor, BitVec.toNat_not, BitVec.toNat_allOnes, BitVec.toNat_ofNat, Nat.mod_eq_of_lt (by omega)] at h2
  exact h2
theorem flip_right {x : Int} (hx : 0 ≤ x ∧ x ≤ 255) : bits .xor .u8 x 255 = 255 - x := by
  rw [bits_xor x 255 hx (by omega), show (255 : Int).toNat = 255 from rfl, all_ones (by omega)]
  omega
theorem flip_left {x : Int} (hx : 0 ≤ x ∧ x ≤ 255) : bits .xor .u8 255 x = 255 - x := by
  rw [bits_xor 255 x (by omega) hx, show (255 : Int).toNat = 255 from rfl, Nat.xor_comm, all_ones (by omega)]
  omega
theorem xor_all {x y : Int} (hx : 0 ≤ x ∧ x ≤ 255) (hy : 0 ≤ y ∧ y ≤ 255) : bits .xor .u8 x y = 255 ↔ y = 255 - x := by
  rw [bits_xor x y hx hy]
  constructor
  · intro h
    have h2 : x.toNat ^^^ y.toNat = 255 := by omega
    have h3 := congrArg (x.toNat ^^^ ·) h2
    simp only [← Nat.xor_assoc, Nat.xor_self, Nat.zero_xor] at h3
    rw [all_ones (by omega)] at h3
    omega
  · rintro rfl
    have : (255 - x).toNat = x.toNat ^^^ 255 := by rw [all_ones (by omega)]; omega
    rw [this, ← Nat.xor_assoc, Nat.xor_self, Nat.zero_xor]
    rfl
theorem or_ge {x y : Int} (hx : 0 ≤ x ∧ x ≤ 255) (hy : 0 ≤ y ∧ y ≤ 255) : x ≤ bits .or .u8 x y ∧ bits .or .u8 x y ≤ 255 := by
  rw [u8_or x y hx.1 (by omega) hy.1 (by omega)]
  have h1 : x.toNat ≤ x.toNat ||| y.toNat := Nat.left_le_or
  have h2 : x.toNat ||| y.toNat < 2 ^ 8 := Nat.or_lt_two_pow (by omega) (by omega)
  omega
theorem ce_or_byt {xs ms : List Int} (hx : Byt xs) (hm : Byt ms) (n j : Nat) : Byt (orL xs ms n j) := by
  intro v hv
  obtain ⟨i, _, rfl⟩ := List.mem_map.1 hv
  split
  · have := byt_at hx i
    have := or_ge (byt_at hx i) (byt_at hm i)
    omega
  · omega
/-- So many bytes are as they were. -/
def sameTo (xs ms : List Int) (n : Nat) : Prop := ∀ i, i < n → bits .or .u8 (xs.getD i 0) (ms.getD i 0) = xs.getD i 0
theorem same_all {xs ms : List Int} (h : sameTo xs ms xs.length) : orL xs ms xs.length xs.length = xs := by
  refine ce_list_eq (or_len ..) fun j hj => ?_
  rw [or_len] at hj
  rw [or_at _ _ hj hj, h j hj]
/-- A byte that lacks a bit is no pair's. -/
theorem cut_no {zs ms : List Int} (hz : Byt zs) (hm : Byt ms) {n : Nat} (hn : n = 2 * zs.length) (h : ¬ sameTo (putL zs) ms n) : ¬ Whole (orL (putL zs) ms n n) := by
  intro hw
  apply h
  intro i hi
  have hk : i / 2 < zs.length := by omega
  have hq := hw.2 (i / 2) (by rw [or_len]; omega)
  rw [or_at _ _ (by omega) (by omega), or_at _ _ (by omega) (by omega)] at hq
  have g1 := or_ge (byt_at (ce_put_byt hz) (2 * (i / 2))) (byt_at hm (2 * (i / 2)))
  have g2 := or_ge (byt_at (ce_put_byt hz) (2 * (i / 2) + 1)) (byt_at hm (2 * (i / 2) + 1))
  have e1 := put_even zs hk
  have e2 := put_odd zs hk
  rcases (show i = 2 * (i / 2) ∨ i = 2 * (i / 2) + 1 by omega) with e | e
  · rw [e]
    generalize bits .or .u8 ((putL zs).getD (2 * (i / 2)) 0) (ms.getD (2 * (i / 2)) 0) = p at *
    generalize bits .or .u8 ((putL zs).getD (2 * (i / 2) + 1) 0) (ms.getD (2 * (i / 2) + 1) 0) = q at *
    omega
  · rw [e]
    generalize bits .or .u8 ((putL zs).getD (2 * (i / 2)) 0) (ms.getD (2 * (i / 2)) 0) = p at *
    generalize bits .or .u8 ((putL zs).getD (2 * (i / 2) + 1) 0) (ms.getD (2 * (i / 2) + 1) 0) = q at *
    omega
theorem same_zero (xs ms : List Int) : sameTo xs ms 0 := fun i hi => by omega
theorem same_more {xs ms : List Int} {j : Nat} : sameTo xs ms (j + 1) ↔ sameTo xs ms j ∧ bits .or .u8 (xs.getD j 0) (ms.getD j 0) = xs.getD j 0 := by
  constructor
  · exact fun h => ⟨fun i hi => h i (by omega), h j (by omega)⟩
  · rintro ⟨h1, h2⟩ i hi
    by_cases e : i = j
    · subst e; exact h2
    · exact h1 i (by omega)
/-- Two that are the same are no pair. -/
theorem twin_no (zs : List Int) {k : Nat} (hk : k < zs.length) : ¬ Whole ((putL zs).set (2 * k + 1) ((putL zs).getD (2 * k) 0)) := by
  intro hw
  have hq := hw.2 k (by rw [List.length_set, ce_put_len]; omega)
  rw [ce_getD_set _ _ _ _ (by rw [ce_put_len]; omega), ce_getD_set _ _ _ _ (by rw [ce_put_len]; omega), if_pos rfl, if_neg (by omega)] at hq
  omega
theorem whole_nil : Whole [] := ⟨rfl, fun k hk => by simp at hk⟩
end Go.Proofs.Ytclephjnokbaoaa
