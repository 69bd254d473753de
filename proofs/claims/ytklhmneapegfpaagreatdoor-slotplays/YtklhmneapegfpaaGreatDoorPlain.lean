/-
  Plain mathematics: a flash as lists of numbers, what its calls do to it, and when two of them answer alike; conditions: none.
-/
import Derived.Laws.BitsAllLaws
namespace Go.Proofs.YtklhmneapegfpaaGreatDoor
set_option linter.unusedVariables false
set_option linter.unusedSimpArgs false

def Byt (zs : List Int) : Prop := ∀ n ∈ zs, 0 ≤ n ∧ n ≤ 255
theorem byt_at {zs : List Int} (h : Byt zs) (i : Nat) : 0 ≤ zs.getD i 0 ∧ zs.getD i 0 ≤ 255 := by
  rw [List.getD_eq_getElem?_getD]
  cases e : zs[i]? with
  | none => simp
  | some v => simpa using h v (List.mem_of_getElem? e)
theorem byt_take {zs : List Int} (h : Byt zs) (k : Nat) : Byt (zs.take k) := fun n hn => h n (List.mem_of_mem_take hn)
theorem byt_drop {zs : List Int} (h : Byt zs) (k : Nat) : Byt (zs.drop k) := fun n hn => h n (List.mem_of_mem_drop hn)
theorem byt_app {xs ys : List Int} (h1 : Byt xs) (h2 : Byt ys) : Byt (xs ++ ys) := by
  intro n hn
  rcases List.mem_append.1 hn with h | h
  · exact h1 n h
  · exact h2 n h
theorem byt_nil : Byt [] := fun n hn => by simp at hn
theorem byt_same (n : Nat) (x : Int) (h : 0 ≤ x ∧ x ≤ 255) : Byt (List.replicate n x) := fun y hy => by
  rw [List.eq_of_mem_replicate hy]; exact h

/-! ### Bytes -/
theorem flip255 : ∀ m : Fin 256, m.val ^^^ 255 = 255 - m.val := by decide +kernel
/-- The bits of x that o has not. -/
theorem clear_is {x o : Int} (hx : 0 ≤ x ∧ x ≤ 255) (ho : 0 ≤ o ∧ o ≤ 255) : bits .and .u8 x (bits .xor .u8 o 255) = bits .andNot .u8 x o := by
  obtain ⟨a, rfl⟩ := Int.eq_ofNat_of_zero_le hx.1
  obtain ⟨b, rfl⟩ := Int.eq_ofNat_of_zero_le ho.1
  have hb : b < 256 := by omega
  have e1 := u8_xor (b : Int) 255 (by omega) (by omega) (by omega) (by omega)
  have e2 : (b : Int).toNat ^^^ (255 : Int).toNat = 255 - b := flip255 ⟨b, hb⟩
  rw [e1, e2, u8_andNot_nat a b (by omega) hb, u8_and (a : Int) ((255 - b : Nat) : Int) (by omega) (by omega) (by omega) (by omega)]
  rfl
theorem and_byt {x y : Int} (hx : 0 ≤ x ∧ x ≤ 255) (hy : 0 ≤ y ∧ y ≤ 255) : 0 ≤ bits .and .u8 x y ∧ bits .and .u8 x y ≤ 255 := by
  rw [u8_and x y hx.1 (by omega) hy.1 (by omega)]
  have : x.toNat &&& y.toNat ≤ x.toNat := Nat.and_le_left
  omega
theorem andNot_byt {x y : Int} (hx : 0 ≤ x ∧ x ≤ 255) (hy : 0 ≤ y ∧ y ≤ 255) : 0 ≤ bits .andNot .u8 x y ∧ bits .andNot .u8 x y ≤ 255 := by
  rw [u8_andNot x y hx.1 (by omega) hy.1 (by omega)]
  have : x.toNat &&& (255 - y.toNat) ≤ x.toNat := Nat.and_le_left
  omega
theorem or_byt {x y : Int} (hx : 0 ≤ x ∧ x ≤ 255) (hy : 0 ≤ y ∧ y ≤ 255) : 0 ≤ bits .or .u8 x y ∧ bits .or .u8 x y ≤ 255 := by
  rw [u8_or x y hx.1 (by omega) hy.1 (by omega)]
  have : x.toNat ||| y.toNat < 2 ^ 8 := Nat.or_lt_two_pow (by omega) (by omega)
  omega
/-- What is there behind b over o, where the bits of m stay. -/
def mixI (o b m : Int) : Int := bits .or .u8 (bits .and .u8 o m) (bits .andNot .u8 b m)
theorem mix_byt {o b m : Int} (ho : 0 ≤ o ∧ o ≤ 255) (hb : 0 ≤ b ∧ b ≤ 255) (hm : 0 ≤ m ∧ m ≤ 255) : 0 ≤ mixI o b m ∧ mixI o b m ≤ 255 := or_byt (and_byt ho hm) (andNot_byt hb hm)
theorem mix_none {o b : Int} (ho : 0 ≤ o ∧ o ≤ 255) (hb : 0 ≤ b ∧ b ≤ 255) : mixI o b 0 = b := by
  obtain ⟨x, rfl⟩ := Int.eq_ofNat_of_zero_le ho.1
  obtain ⟨y, rfl⟩ := Int.eq_ofNat_of_zero_le hb.1
  have e1 : bits .and .u8 (x : Int) 0 = 0 := by
    rw [u8_and (x : Int) 0 (by omega) (by omega) (by omega) (by omega)]; simp
  have e2 : bits .andNot .u8 (y : Int) 0 = (y : Int) := by
    have := u8_andNot_nat y 0 (by omega) (by omega)
    have e : y &&& (255 - 0) = y := by
      have := Nat.and_two_pow_sub_one_eq_mod y 8
      rw [show (2 ^ 8 - 1 : Nat) = 255 - 0 from rfl] at this
      rw [this]; omega
    rw [e] at this
    exact this
  unfold mixI
  rw [e1, e2, u8_or 0 (y : Int) (by omega) (by omega) (by omega) (by omega)]
  simp

/-! ### A flash -/
structure Fs where
  mem : List Int
  wear : List Int
  ops : Nat
  off : Bool
  cut : Option (Nat × List Int)

def mAt (mask : List Int) (i : Nat) : Int := if mask.length = 0 then 0 else mask.getD (i % mask.length) 0
theorem mAt_nil (i : Nat) : mAt [] i = 0 := rfl
theorem mAt_byt {mask : List Int} (h : Byt mask) (i : Nat) : 0 ≤ mAt mask i ∧ mAt mask i ≤ 255 := by
  unfold mAt
  split
  · omega
  · exact byt_at h _
/-- k bytes of b are laid from a on. -/
def mixed (mem : List Int) (a : Nat) (b mask : List Int) (k : Nat) : List Int :=
  (List.range mem.length).map fun j => if a ≤ j ∧ j < a + k then mixI (mem.getD j 0) (b.getD (j - a) 0) (mAt mask (j - a)) else mem.getD j 0
theorem mixed_len (mem : List Int) (a : Nat) (b mask : List Int) (k : Nat) : (mixed mem a b mask k).length = mem.length := by simp [mixed]
theorem mixed_at (mem : List Int) (a : Nat) (b mask : List Int) (k j : Nat) (h : j < mem.length) :
    (mixed mem a b mask k).getD j 0 = if a ≤ j ∧ j < a + k then mixI (mem.getD j 0) (b.getD (j - a) 0) (mAt mask (j - a)) else mem.getD j 0 := by
  simp [mixed, List.getD_eq_getElem?_getD, List.getElem?_map, List.getElem?_range h]
theorem list_eq {xs ys : List Int} (hl : xs.length = ys.length) (h : ∀ j, j < xs.length → xs.getD j 0 = ys.getD j 0) : xs = ys := by
  apply List.ext_getElem hl
  intro j h1 h2
  have := h j h1
  rw [List.getD_eq_getElem?_getD, List.getD_eq_getElem?_getD, List.getElem?_eq_getElem h1, List.getElem?_eq_getElem h2] at this
  simpa using this
theorem getD_set (xs : List Int) (i j : Nat) (x : Int) (h : j < xs.length) : (xs.set i x).getD j 0 = if i = j then x else xs.getD j 0 := by
  rw [List.getD_eq_getElem?_getD, List.getD_eq_getElem?_getD, List.getElem?_set]
  split
  · simp [h, *]
  · rfl
theorem mixed_none (mem : List Int) (a : Nat) (b mask : List Int) : mixed mem a b mask 0 = mem := by
  refine list_eq (mixed_len ..) fun j hj => ?_
  rw [mixed_len] at hj
  rw [mixed_at _ _ _ _ _ _ hj, if_neg (by omega)]
theorem mixed_more (mem : List Int) (a : Nat) (b mask : List Int) (k : Nat) (h : a + k < mem.length) :
    (mixed mem a b mask k).set (a + k) (mixI (mem.getD (a + k) 0) (b.getD k 0) (mAt mask k)) = mixed mem a b mask (k + 1) := by
  refine list_eq (by rw [List.length_set, mixed_len, mixed_len]) fun j hj => ?_
  rw [List.length_set] at hj
  rw [getD_set _ _ _ _ hj]
  rw [mixed_len] at hj
  rw [mixed_at _ _ _ _ _ _ hj, mixed_at _ _ _ _ _ _ hj]
  by_cases e : a + k = j
  · subst e
    rw [if_pos rfl, if_pos (by omega), Nat.add_sub_cancel_left]
  · rw [if_neg e]
    by_cases h2 : a ≤ j ∧ j < a + k
    · rw [if_pos h2, if_pos (by omega)]
    · rw [if_neg h2, if_neg (by omega)]
theorem mixed_keep (mem : List Int) (a : Nat) (b mask : List Int) (k : Nat) (h : a + k < mem.length) : (mixed mem a b mask k).getD (a + k) 0 = mem.getD (a + k) 0 := by
  rw [mixed_at _ _ _ _ _ _ h, if_neg (by omega)]
theorem mixed_byt {mem b mask : List Int} (hm : Byt mem) (hb : Byt b) (hk : Byt mask) (a k : Nat) : Byt (mixed mem a b mask k) := by
  intro n hn
  obtain ⟨j, hj, rfl⟩ := List.mem_map.1 hn
  split
  · exact mix_byt (byt_at hm _) (byt_at hb _) (mAt_byt hk _)
  · exact byt_at hm _
/-- All of b is laid. -/
def put (mem : List Int) (a : Nat) (b mask : List Int) : List Int := mixed mem a b mask b.length
theorem put_len (mem : List Int) (a : Nat) (b mask : List Int) : (put mem a b mask).length = mem.length := mixed_len ..
theorem put_byt {mem b mask : List Int} (hm : Byt mem) (hb : Byt b) (hk : Byt mask) (a : Nat) : Byt (put mem a b mask) := mixed_byt hm hb hk a _
theorem put_at (mem : List Int) (a : Nat) (b mask : List Int) (j : Nat) (h : j < mem.length) :
    (put mem a b mask).getD j 0 = if a ≤ j ∧ j < a + b.length then mixI (mem.getD j 0) (b.getD (j - a) 0) (mAt mask (j - a)) else mem.getD j 0 := mixed_at mem a b mask b.length j h
theorem getD_left (xs ys : List Int) (j : Nat) (h : j < xs.length) : (xs ++ ys).getD j 0 = xs.getD j 0 := by
  rw [List.getD_eq_getElem?_getD, List.getD_eq_getElem?_getD, List.getElem?_append_left h]
theorem getD_right (xs ys : List Int) (j : Nat) (h : xs.length ≤ j) : (xs ++ ys).getD j 0 = ys.getD (j - xs.length) 0 := by
  rw [List.getD_eq_getElem?_getD, List.getD_eq_getElem?_getD, List.getElem?_append_right h]
theorem getD_drop (zs : List Int) (k j : Nat) : (zs.drop k).getD j 0 = zs.getD (k + j) 0 := by simp [List.getD_eq_getElem?_getD, List.getElem?_drop]
theorem getD_take (zs : List Int) (k j : Nat) (h : j < k) : (zs.take k).getD j 0 = zs.getD j 0 := by simp [List.getD_eq_getElem?_getD, List.getElem?_take, h]
/-- Where nothing is cut: b is there. -/
theorem put_plain {mem b : List Int} (hm : Byt mem) (hb : Byt b) (a : Nat) (h : a + b.length ≤ mem.length) : put mem a b [] = mem.take a ++ (b ++ mem.drop (a + b.length)) := by
  have hl : (mem.take a).length = a := by rw [List.length_take]; omega
  refine list_eq (by rw [put_len, List.length_append, List.length_append, List.length_drop, hl]; omega) fun j hj => ?_
  rw [put_len] at hj
  rw [put_at _ _ _ _ _ hj]
  by_cases h1 : j < a
  · rw [if_neg (by omega), getD_left _ _ _ (by omega), getD_take _ _ _ h1]
  · rw [getD_right _ _ _ (by omega), hl]
    by_cases h2 : j < a + b.length
    · rw [if_pos (by omega), getD_left _ _ _ (by omega), mAt_nil, mix_none (byt_at hm _) (byt_at hb _)]
    · rw [if_neg (by omega), getD_right _ _ _ (by omega), getD_drop]
      congr 1; omega

/-- A bit that is 0 would be 1, among the first k. -/
def setsN (mem : List Int) (a : Nat) (b : List Int) (k : Nat) : Bool := (List.range k).any fun i => bits .andNot .u8 (b.getD i 0) (mem.getD (a + i) 0) != 0
def sets (mem : List Int) (a : Nat) (b : List Int) : Bool := setsN mem a b b.length
theorem setsN_zero (mem : List Int) (a : Nat) (b : List Int) : setsN mem a b 0 = false := rfl
theorem setsN_more (mem : List Int) (a : Nat) (b : List Int) (k : Nat) (h : setsN mem a b k = false) (h2 : bits .andNot .u8 (b.getD k 0) (mem.getD (a + k) 0) = 0) : setsN mem a b (k + 1) = false := by
  unfold setsN at *
  rw [List.range_succ, List.any_append, h]
  simp only [List.any_cons, List.any_nil, h2]
  rfl
theorem sets_yes (mem : List Int) (a : Nat) (b : List Int) (k : Nat) (hk : k < b.length) (h2 : bits .andNot .u8 (b.getD k 0) (mem.getD (a + k) 0) ≠ 0) : sets mem a b = true := by
  unfold sets setsN
  rw [List.any_eq_true]
  exact ⟨k, List.mem_range.2 hk, by simpa using h2⟩
theorem sets_no {mem : List Int} {a : Nat} {b : List Int} (h : sets mem a b = false) (k : Nat) (hk : k < b.length) : bits .andNot .u8 (b.getD k 0) (mem.getD (a + k) 0) = 0 := by
  unfold sets setsN at h
  rw [List.any_eq_false] at h
  simpa using h k (List.mem_range.2 hk)

structure Fs.Ok (S : Fs) : Prop where
  byt : Byt S.mem
  len : S.mem.length = 320 * S.wear.length
  few : S.wear.length ≤ 400
  mask : ∀ k m, S.cut = some (k, m) → Byt m ∧ m.length ≤ 1000000

/-- A new one of n sectors. -/
def fresh (n : Nat) : Fs := { mem := List.replicate (320 * n) 255, wear := List.replicate n 0, ops := 0, off := false, cut := none }
theorem fresh_ok {n : Nat} (h : n ≤ 400) : (fresh n).Ok := ⟨byt_same _ _ (by omega), by simp [fresh], by simpa [fresh] using h, fun _ _ e => by cases e⟩
/-- n cut to 0 .. 400. -/
def sect (n : Int) : Nat := (min (max n 0) 400).toNat
theorem sect_le (n : Int) : sect n ≤ 400 := by unfold sect; omega

/-- An operation that nothing is against. -/
def work (S : Fs) (a : Nat) (b : List Int) : Int × Fs :=
  match S.cut with
  | none => (0, { S with mem := put S.mem a b [], ops := S.ops + 1 })
  | some (0, m) => (4, { S with mem := put S.mem a b m, ops := S.ops + 1, off := true, cut := none })
  | some (k + 1, m) => (0, { S with mem := put S.mem a b [], ops := S.ops + 1, cut := some (k, m) })
def fits (S : Fs) (a : Int) (n : Nat) : Prop := 0 ≤ a ∧ a + n ≤ S.mem.length
instance (S : Fs) (a : Int) (n : Nat) : Decidable (fits S a n) := inferInstanceAs (Decidable (_ ∧ _))
def prog (S : Fs) (a : Int) (b : List Int) : Int × Fs :=
  if S.off then (4, S) else if ¬ fits S a b.length then (2, S) else if sets S.mem a.toNat b then (3, S) else work S a.toNat b
def ffs : List Int := List.replicate 320 255
def worn (S : Fs) (s : Nat) : Fs := { S with wear := S.wear.set s (S.wear.getD s 0 + 1) }
def there (S : Fs) (s : Int) : Prop := 0 ≤ s ∧ s < S.wear.length
instance (S : Fs) (s : Int) : Decidable (there S s) := inferInstanceAs (Decidable (_ ∧ _))
def erase (S : Fs) (s : Int) : Int × Fs :=
  if S.off then (4, S) else if ¬ there S s then (2, S) else work (worn S s.toNat) (320 * s.toNat) ffs
def wearAt (S : Fs) (s : Int) : Int := if there S s then S.wear.getD s.toNat 0 else 0
def allFF (mem : List Int) (a k : Nat) : Bool := (List.range k).all fun i => mem.getD (a + i) 0 == 255
def blank (S : Fs) (s : Int) : Bool := if there S s then allFF S.mem (320 * s.toNat) 320 else false
def read (S : Fs) (a n : Int) : List Int := if 1 ≤ n ∧ 0 ≤ a ∧ a + n ≤ S.mem.length then (S.mem.drop a.toNat).take n.toNat else []
def cutAt (S : Fs) (k : Nat) (m : List Int) : Fs := { S with cut := some (k, m) }
def power (S : Fs) : Fs := { S with off := false, cut := none }

theorem work_ok {S : Fs} (h : S.Ok) (a : Nat) {b : List Int} (hb : Byt b) : (work S a b).2.Ok := by
  unfold work
  split
  · exact ⟨put_byt h.byt hb byt_nil a, by rw [put_len]; exact h.len, h.few, fun k m e => by simp_all⟩
  · rename_i m e
    exact ⟨put_byt h.byt hb (h.mask _ _ e).1 a, by rw [put_len]; exact h.len, h.few, fun k m e => by cases e⟩
  · rename_i k m e
    exact ⟨put_byt h.byt hb byt_nil a, by rw [put_len]; exact h.len, h.few, fun k' m' e' => by cases e'; exact h.mask _ _ e⟩
theorem prog_ok {S : Fs} (h : S.Ok) (a : Int) {b : List Int} (hb : Byt b) : (prog S a b).2.Ok := by
  unfold prog
  split
  · exact h
  · split
    · exact h
    · split
      · exact h
      · exact work_ok h _ hb
theorem byt_ffs : Byt ffs := byt_same _ _ (by omega)
theorem ffs_len : ffs.length = 320 := List.length_replicate
theorem mem_set {xs : List Int} {i : Nat} {y x : Int} (h : x ∈ xs.set i y) : x ∈ xs ∨ x = y := (List.mem_or_eq_of_mem_set h)
theorem getD_mem {xs : List Int} {i : Nat} (h : i < xs.length) : xs.getD i 0 ∈ xs := by
  rw [List.getD_eq_getElem?_getD, List.getElem?_eq_getElem h]; simp
theorem worn_ok {S : Fs} (h : S.Ok) (s : Nat) : (worn S s).Ok := ⟨h.byt, by simpa [worn] using h.len, by simpa [worn] using h.few, h.mask⟩
theorem erase_ok {S : Fs} (h : S.Ok) (s : Int) : (erase S s).2.Ok := by
  unfold erase
  split
  · exact h
  · split
    · exact h
    · exact work_ok (worn_ok h _) _ byt_ffs
/-- No sector was erased more often than there were operations. -/
def Few (S : Fs) : Prop := ∀ x ∈ S.wear, 0 ≤ x ∧ x ≤ (S.ops : Int)
theorem few_fresh (n : Nat) : Few (fresh n) := fun x hx => by rw [List.eq_of_mem_replicate hx]; simp [fresh]
theorem work_wear (S : Fs) (a : Nat) (b : List Int) : (work S a b).2.wear = S.wear ∧ (work S a b).2.ops = S.ops + 1 := by
  unfold work
  split <;> exact ⟨rfl, rfl⟩
theorem few_work {S : Fs} (h : Few S) (a : Nat) (b : List Int) : Few (work S a b).2 := fun x hx => by
  rw [(work_wear S a b).1] at hx
  rw [(work_wear S a b).2]
  have := h x hx; omega
theorem few_prog {S : Fs} (h : Few S) (a : Int) (b : List Int) : Few (prog S a b).2 := by
  unfold prog
  split
  · exact h
  · split
    · exact h
    · split
      · exact h
      · exact few_work h _ _
theorem few_erase {S : Fs} (h : Few S) (s : Int) : Few (erase S s).2 := by
  unfold erase
  split
  · exact h
  · split
    · exact h
    · rename_i _ hs
      simp only [Decidable.not_not] at hs
      intro x hx
      rw [(work_wear _ _ _).1] at hx
      rw [(work_wear _ _ _).2]
      rcases mem_set hx with hx | rfl
      · have := h x hx; simp only [worn]; omega
      · have := h _ (getD_mem (i := s.toNat) (by have := hs.1; have := hs.2; omega)); simp only [worn]; omega
theorem few_cut {S : Fs} (h : Few S) (k : Nat) (m : List Int) : Few (cutAt S k m) := h
theorem few_power {S : Fs} (h : Few S) : Few (power S) := h
theorem cutAt_ok {S : Fs} (h : S.Ok) (k : Nat) {m : List Int} (hm : Byt m) (hl : m.length ≤ 1000000) : (cutAt S k m).Ok := ⟨h.byt, h.len, h.few, fun k' m' e => by cases e; exact ⟨hm, hl⟩⟩
theorem power_ok {S : Fs} (h : S.Ok) : (power S).Ok := ⟨h.byt, h.len, h.few, fun k' m' e => by cases e⟩

/-! ### Two that answer alike -/
/-- The cuts that are to come in one and in the other do the same in the next d operations, on flashes of n bytes. -/
def CutSim (d n : Nat) : Option (Nat × List Int) → Option (Nat × List Int) → Prop
  | none, none => True
  | some (k, m), some (k', m') => (k = k' ∨ (d ≤ k ∧ d ≤ k')) ∧ ∀ i, i < n → mAt m i = mAt m' i
  | _, _ => False
structure Sim (d : Nat) (S R : Fs) : Prop where
  mem : S.mem = R.mem
  wear : S.wear = R.wear
  ops : S.ops = R.ops
  off : S.off = R.off
  cut : CutSim d S.mem.length S.cut R.cut
theorem put_alike {mem : List Int} {a : Nat} {b m m' : List Int} (h : ∀ i, i < mem.length → mAt m i = mAt m' i) : put mem a b m = put mem a b m' := by
  unfold put mixed
  refine List.map_congr_left fun j hj => ?_
  rw [h (j - a) (by have := List.mem_range.1 hj; omega)]
theorem work_sim {d : Nat} {S R : Fs} (h : Sim (d + 1) S R) (a : Nat) (b : List Int) : (work S a b).1 = (work R a b).1 ∧ Sim d (work S a b).2 (work R a b).2 := by
  obtain ⟨mem, wear, ops, off, cut⟩ := S
  obtain ⟨mem', wear', ops', off', cut'⟩ := R
  obtain ⟨h1, h2, h3, h4, h5⟩ := h
  simp only at h1 h2 h3 h4 h5
  subst h1 h2 h3 h4
  match cut, cut', h5 with
  | none, none, _ => exact ⟨rfl, rfl, rfl, rfl, rfl, trivial⟩
  | some (0, m), some (0, m'), h5 => exact ⟨rfl, put_alike h5.2, rfl, rfl, rfl, trivial⟩
  | some (0, m), some (k' + 1, m'), h5 => exact absurd h5.1 (by omega)
  | some (k + 1, m), some (0, m'), h5 => exact absurd h5.1 (by omega)
  | some (k + 1, m), some (k' + 1, m'), h5 =>
    refine ⟨rfl, rfl, rfl, rfl, rfl, ?_, ?_⟩
    · have := h5.1; omega
    · intro i hi
      rw [show (work _ a b).2.mem = put mem a b [] from rfl, put_len] at hi
      exact h5.2 i hi
theorem CutSim.less {d d' n : Nat} : ∀ {c c' : Option (Nat × List Int)}, CutSim d n c c' → d' ≤ d → CutSim d' n c c'
  | none, none, _, _ => trivial
  | some (_, _), some (_, _), h, hd => ⟨by have := h.1; omega, h.2⟩
theorem Sim.less {d d' : Nat} {S R : Fs} (h : Sim d S R) (hd : d' ≤ d) : Sim d' S R := ⟨h.mem, h.wear, h.ops, h.off, h.cut.less hd⟩
theorem prog_off {S : Fs} (h : S.off = true) (a : Int) (b : List Int) : prog S a b = (4, S) := by unfold prog; rw [if_pos h]
theorem prog_out {S : Fs} (h : S.off = false) {a : Int} {b : List Int} (h2 : ¬ fits S a b.length) : prog S a b = (2, S) := by unfold prog; rw [h, if_neg (by simp), if_pos h2]
theorem prog_set {S : Fs} (h : S.off = false) {a : Int} {b : List Int} (h2 : fits S a b.length) (h3 : sets S.mem a.toNat b = true) : prog S a b = (3, S) := by unfold prog; rw [h, if_neg (by simp), if_neg (by simpa using h2), if_pos h3]
theorem prog_ok' {S : Fs} (h : S.off = false) {a : Int} {b : List Int} (h2 : fits S a b.length) (h3 : sets S.mem a.toNat b = false) : prog S a b = work S a.toNat b := by unfold prog; rw [h, if_neg (by simp), if_neg (by simpa using h2), h3, if_neg (by simp)]
theorem erase_off {S : Fs} (h : S.off = true) (s : Int) : erase S s = (4, S) := by unfold erase; rw [if_pos h]
theorem erase_out {S : Fs} (h : S.off = false) {s : Int} (h2 : ¬ there S s) : erase S s = (2, S) := by unfold erase; rw [h, if_neg (by simp), if_pos h2]
theorem erase_ok' {S : Fs} (h : S.off = false) {s : Int} (h2 : there S s) : erase S s = work (worn S s.toNat) (320 * s.toNat) ffs := by unfold erase; rw [h, if_neg (by simp), if_neg (by simpa using h2)]
theorem Sim.fits {d : Nat} {S R : Fs} (h : Sim d S R) (a : Int) (n : Nat) : fits S a n ↔ fits R a n := by unfold YtklhmneapegfpaaGreatDoor.fits; rw [h.mem]
theorem Sim.there {d : Nat} {S R : Fs} (h : Sim d S R) (s : Int) : there S s ↔ there R s := by unfold YtklhmneapegfpaaGreatDoor.there; rw [h.wear]
theorem prog_sim {d : Nat} {S R : Fs} (h : Sim (d + 1) S R) (a : Int) (b : List Int) : (prog S a b).1 = (prog R a b).1 ∧ Sim d (prog S a b).2 (prog R a b).2 := by
  have hl := h.less (Nat.le_succ d)
  cases h1 : S.off with
  | true => rw [prog_off h1, prog_off (h.off ▸ h1)]; exact ⟨rfl, hl⟩
  | false =>
    have h1' : R.off = false := h.off ▸ h1
    by_cases h2 : YtklhmneapegfpaaGreatDoor.fits S a b.length
    · have h2' := (h.fits a b.length).1 h2
      cases h3 : sets S.mem a.toNat b with
      | true => rw [prog_set h1 h2 h3, prog_set h1' h2' (h.mem ▸ h3)]; exact ⟨rfl, hl⟩
      | false => rw [prog_ok' h1 h2 h3, prog_ok' h1' h2' (h.mem ▸ h3)]; exact work_sim h _ _
    · rw [prog_out h1 h2, prog_out h1' (fun x => h2 ((h.fits a b.length).2 x))]; exact ⟨rfl, hl⟩
theorem worn_sim {d : Nat} {S R : Fs} (h : Sim d S R) (s : Nat) : Sim d (worn S s) (worn R s) := ⟨h.mem, by unfold worn; rw [h.wear], h.ops, h.off, h.cut⟩
theorem erase_sim {d : Nat} {S R : Fs} (h : Sim (d + 1) S R) (s : Int) : (erase S s).1 = (erase R s).1 ∧ Sim d (erase S s).2 (erase R s).2 := by
  have hl := h.less (Nat.le_succ d)
  cases h1 : S.off with
  | true => rw [erase_off h1, erase_off (h.off ▸ h1)]; exact ⟨rfl, hl⟩
  | false =>
    have h1' : R.off = false := h.off ▸ h1
    by_cases h2 : YtklhmneapegfpaaGreatDoor.there S s
    · rw [erase_ok' h1 h2, erase_ok' h1' ((h.there s).1 h2)]
      exact work_sim (worn_sim h _) _ _
    · rw [erase_out h1 h2, erase_out h1' (fun x => h2 ((h.there s).2 x))]; exact ⟨rfl, hl⟩
theorem power_sim {d : Nat} {S R : Fs} (h : Sim d S R) : Sim d (power S) (power R) := ⟨h.mem, h.wear, h.ops, rfl, trivial⟩
theorem cutAt_sim {d k k' : Nat} {S R : Fs} (h : Sim d S R) (hk : k = k' ∨ (d ≤ k ∧ d ≤ k')) (m : List Int) : Sim d (cutAt S k (m.take S.mem.length)) (cutAt R k' m) := by
  refine ⟨h.mem, h.wear, h.ops, h.off, hk, fun i hi => ?_⟩
  have hi' : i < S.mem.length := hi
  unfold mAt
  by_cases hm : m.length ≤ S.mem.length
  · rw [List.take_of_length_le hm]
  · have e : (m.take S.mem.length).length = S.mem.length := by rw [List.length_take]; omega
    rw [e, if_neg (by omega), if_neg (by omega), Nat.mod_eq_of_lt hi', Nat.mod_eq_of_lt (by omega), getD_take _ _ _ hi']
theorem wearAt_sim {d : Nat} {S R : Fs} (h : Sim d S R) (s : Int) : wearAt S s = wearAt R s := by
  unfold wearAt
  by_cases h2 : YtklhmneapegfpaaGreatDoor.there S s
  · rw [if_pos h2, if_pos ((h.there s).1 h2), h.wear]
  · rw [if_neg h2, if_neg (fun x => h2 ((h.there s).2 x))]
theorem blank_sim {d : Nat} {S R : Fs} (h : Sim d S R) (s : Int) : blank S s = blank R s := by
  unfold blank
  by_cases h2 : YtklhmneapegfpaaGreatDoor.there S s
  · rw [if_pos h2, if_pos ((h.there s).1 h2), h.mem]
  · rw [if_neg h2, if_neg (fun x => h2 ((h.there s).2 x))]
theorem read_sim {d : Nat} {S R : Fs} (h : Sim d S R) (a n : Int) : read S a n = read R a n := by unfold read; rw [h.mem]
theorem fresh_sim (d n : Nat) : Sim d (fresh n) (fresh n) := ⟨rfl, rfl, rfl, rfl, trivial⟩
theorem allFF_zero (mem : List Int) (a : Nat) : allFF mem a 0 = true := rfl
theorem allFF_more (mem : List Int) (a k : Nat) (h : allFF mem a k = true) (h2 : mem.getD (a + k) 0 = 255) : allFF mem a (k + 1) = true := by
  unfold allFF at *
  rw [List.range_succ, List.all_append, h]
  simp only [List.all_cons, List.all_nil, h2]
  rfl
theorem allFF_no (mem : List Int) (a k i : Nat) (hi : i < k) (h2 : mem.getD (a + i) 0 ≠ 255) : allFF mem a k = false := by
  unfold allFF
  rw [List.all_eq_false]
  exact ⟨i, List.mem_range.2 hi, by simpa using h2⟩
theorem read_byt {S : Fs} (h : S.Ok) (a n : Int) : Byt (read S a n) := by
  unfold read
  split
  · exact byt_take (byt_drop h.byt _) _
  · exact byt_nil
end Go.Proofs.YtklhmneapegfpaaGreatDoor
