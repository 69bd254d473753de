/-
  Plain mathematics: the register of CRC-32, step by step, one-to-one and linear; bytes with their own sum behind; conditions: none.
-/
import Derived.Laws.BitsAllLaws
namespace Go.Proofs.Ytcdbfpfjackloaa

/-- One bit goes out of the register. -/
def stepN (x : Nat) : Nat := x / 2 ^^^ (if x % 2 = 1 then 3988292384 else 0)
def stepsN : Nat → Nat → Nat
  | 0, x => x
  | k + 1, x => stepN (stepsN k x)
def byteN (c z : Nat) : Nat := stepsN 8 (c ^^^ z)
def runN (c : Nat) (zs : List Int) : Nat := zs.foldl (fun c z => byteN c z.toNat) c
def flipN (x : Nat) : Nat := 4294967295 - x
def moreN (s : Nat) (zs : List Int) : Nat := flipN (runN (flipN s) zs)
def crcN (zs : List Int) : Nat := moreN 0 zs
def Byt (zs : List Int) : Prop := ∀ n ∈ zs, 0 ≤ n ∧ n ≤ 255
theorem byt_at {zs : List Int} (h : Byt zs) (i : Nat) : 0 ≤ zs.getD i 0 ∧ zs.getD i 0 ≤ 255 := by
  rw [List.getD_eq_getElem?_getD]
  cases e : zs[i]? with
  | none => simp
  | some v => simpa using h v (List.mem_of_getElem? e)
theorem byt_take {zs : List Int} (h : Byt zs) (k : Nat) : Byt (zs.take k) := fun n hn => h n (List.mem_of_mem_take hn)
theorem byt_drop {zs : List Int} (h : Byt zs) (k : Nat) : Byt (zs.drop k) := fun n hn => h n (List.mem_of_mem_drop hn)
theorem byt_app {xs ys : List Int} (h1 : Byt xs) (h2 : Byt ys) : Byt (xs ++ ys) := by
  intro n hn
  rcases List.mem_append.1 hn with h | h
  · exact h1 n h
  · exact h2 n h

theorem stepN_lt {x : Nat} (h : x < 2 ^ 32) : stepN x < 2 ^ 32 := by
  unfold stepN
  refine Nat.xor_lt_two_pow (by omega) ?_
  split <;> omega
theorem stepsN_lt {x : Nat} (h : x < 2 ^ 32) : ∀ k, stepsN k x < 2 ^ 32
  | 0 => h
  | k + 1 => stepN_lt (stepsN_lt h k)
theorem byteN_lt {c z : Nat} (hc : c < 2 ^ 32) (hz : z < 2 ^ 32) : byteN c z < 2 ^ 32 := stepsN_lt (Nat.xor_lt_two_pow hc hz) 8
theorem runN_lt {zs : List Int} (hb : Byt zs) : ∀ {c : Nat}, c < 2 ^ 32 → runN c zs < 2 ^ 32 := by
  induction zs with
  | nil => intro c hc; exact hc
  | cons z r ih =>
    intro c hc
    have hz := hb z (by simp)
    exact ih (fun n hn => hb n (by simp [hn])) (byteN_lt hc (by omega))
theorem flipN_lt (x : Nat) : flipN x < 2 ^ 32 := by unfold flipN; omega
theorem flip_flip {x : Nat} (h : x < 2 ^ 32) : flipN (flipN x) = x := by unfold flipN; omega
theorem moreN_lt (s : Nat) (zs : List Int) : moreN s zs < 2 ^ 32 := flipN_lt _
theorem crcN_lt (zs : List Int) : crcN zs < 2 ^ 32 := flipN_lt _

theorem runN_app (c : Nat) (xs ys : List Int) : runN c (xs ++ ys) = runN (runN c xs) ys := by unfold runN; rw [List.foldl_append]
theorem runN_snoc (c : Nat) (xs : List Int) (z : Int) : runN c (xs ++ [z]) = byteN (runN c xs) z.toNat := by rw [runN_app]; rfl
theorem run_take (c : Nat) (zs : List Int) (k : Nat) (h : k < zs.length) : runN c (zs.take (k + 1)) = byteN (runN c (zs.take k)) (zs.getD k 0).toNat := by
  rw [List.take_add_one, List.getD_eq_getElem?_getD, List.getElem?_eq_getElem h]
  simp only [Option.toList_some, Option.getD_some]
  rw [runN_snoc]
/-- The sum of two rows one behind the other. -/
theorem more_crc {xs : List Int} (hx : Byt xs) (ys : List Int) : moreN (crcN xs) ys = crcN (xs ++ ys) := by
  unfold crcN moreN
  rw [flip_flip (runN_lt hx (flipN_lt _)), runN_app]

/-- A step is one-to-one: the register's highest bit tells what went out. -/
theorem top_bit {x : Nat} (h : x < 2 ^ 32) : (stepN x).testBit 31 = decide (x % 2 = 1) := by
  unfold stepN
  rw [Nat.testBit_xor, Nat.testBit_lt_two_pow (show x / 2 < 2 ^ 31 by omega)]
  by_cases e : x % 2 = 1
  · rw [if_pos e]; simp [e]; decide
  · rw [if_neg e]; simp [e]
theorem xor_right {a b c : Nat} (h : a ^^^ c = b ^^^ c) : a = b := by
  have := congrArg (· ^^^ c) h
  simpa [Nat.xor_assoc] using this
theorem xor_left {a b c : Nat} (h : c ^^^ a = c ^^^ b) : a = b := by
  rw [Nat.xor_comm c a, Nat.xor_comm c b] at h
  exact xor_right h
theorem stepN_inj {x y : Nat} (hx : x < 2 ^ 32) (hy : y < 2 ^ 32) (h : stepN x = stepN y) : x = y := by
  have h1 : decide (x % 2 = 1) = decide (y % 2 = 1) := by rw [← top_bit hx, ← top_bit hy, h]
  have h2 : (x % 2 = 1) = (y % 2 = 1) := by simpa using h1
  unfold stepN at h
  simp only [h2] at h
  have h3 := xor_right h
  have h4 : x % 2 = 1 ↔ y % 2 = 1 := by rw [h2]
  omega
theorem stepsN_inj : ∀ (k : Nat) {x y : Nat}, x < 2 ^ 32 → y < 2 ^ 32 → stepsN k x = stepsN k y → x = y
  | 0, _, _, _, _, h => h
  | k + 1, _, _, hx, hy, h => stepsN_inj k hx hy (stepN_inj (stepsN_lt hx k) (stepsN_lt hy k) h)
theorem runN_inj {zs : List Int} (hb : Byt zs) : ∀ {c d : Nat}, c < 2 ^ 32 → d < 2 ^ 32 → runN c zs = runN d zs → c = d := by
  induction zs with
  | nil => intro c d _ _ h; exact h
  | cons z r ih =>
    intro c d hc hd h
    have hz := hb z (by simp)
    have hz' : z.toNat < 2 ^ 32 := by omega
    have := ih (fun n hn => hb n (by simp [hn])) (byteN_lt hc hz') (byteN_lt hd hz') h
    exact xor_right (stepsN_inj 8 (Nat.xor_lt_two_pow hc hz') (Nat.xor_lt_two_pow hd hz') this)
/-- One byte that is another turns the sum. -/
theorem crc_set {zs : List Int} (hb : Byt zs) {i : Nat} (hi : i < zs.length) {y : Int} (hy : 0 ≤ y ∧ y ≤ 255) (hne : zs.getD i 0 ≠ y) : crcN (zs.set i y) ≠ crcN zs := by
  intro h
  have hz := byt_at hb i
  have e1 : zs.set i y = zs.take i ++ (y :: zs.drop (i + 1)) := by rw [List.set_eq_take_append_cons_drop, if_pos hi]
  have e2 : zs = zs.take i ++ (zs.getD i 0 :: zs.drop (i + 1)) := by
    rw [List.getD_eq_getElem?_getD, List.getElem?_eq_getElem hi, Option.getD_some, List.getElem_cons_drop, List.take_append_drop]
  have hr : ∀ l, Byt l → runN (flipN 0) l < 2 ^ 32 := fun l hl => runN_lt hl (flipN_lt _)
  have hset : Byt (zs.set i y) := by
    intro n hn
    rcases List.mem_or_eq_of_mem_set hn with h | rfl
    · exact hb n h
    · exact hy
  have h1 : runN (flipN 0) (zs.set i y) = runN (flipN 0) zs := by
    have a1 := hr _ hset
    have a2 := hr _ hb
    unfold crcN moreN at h
    rw [← flip_flip a1, h, flip_flip a2]
  rw [e1] at h1
  conv at h1 => rhs; rw [e2]
  rw [runN_app, runN_app] at h1
  have hc := hr _ (byt_take hb i)
  have b1 : y.toNat < 2 ^ 32 := by omega
  have b2 : (zs.getD i 0).toNat < 2 ^ 32 := by omega
  have h2 := runN_inj (byt_drop hb (i + 1)) (byteN_lt hc b1) (byteN_lt hc b2) h1
  have h3 := xor_left (stepsN_inj 8 (Nat.xor_lt_two_pow hc b1) (Nat.xor_lt_two_pow hc b2) h2)
  omega

theorem xor_swap (a b c : Nat) : a ^^^ (b ^^^ c) = b ^^^ (a ^^^ c) := by rw [← Nat.xor_assoc, Nat.xor_comm a b, Nat.xor_assoc]
/-- A step is linear. -/
theorem stepN_xor (x y : Nat) : stepN (x ^^^ y) = stepN x ^^^ stepN y := by
  have e1 : (x ^^^ y) / 2 = x / 2 ^^^ y / 2 := Nat.xor_div_two
  have e2 : (x ^^^ y) % 2 = 1 ↔ ¬ (x % 2 = 1 ↔ y % 2 = 1) := by
    have := @Nat.xor_mod_two_eq_one x y
    omega
  have sw : ∀ a b c d : Nat, (a ^^^ b) ^^^ (c ^^^ d) = (a ^^^ c) ^^^ (b ^^^ d) := by intro a b c d; rw [Nat.xor_assoc, xor_swap b c d, ← Nat.xor_assoc]
  unfold stepN
  rw [e1, sw (x / 2)]
  congr 1
  by_cases hx : x % 2 = 1 <;> by_cases hy : y % 2 = 1
  · rw [if_neg (by rw [e2]; simp [hx, hy]), if_pos hx, if_pos hy, Nat.xor_self]
  · rw [if_pos (by rw [e2]; simp [hx, hy]), if_pos hx, if_neg hy, Nat.xor_zero]
  · rw [if_pos (by rw [e2]; simp [hx, hy]), if_neg hx, if_pos hy, Nat.zero_xor]
  · rw [if_neg (by rw [e2]; simp [hx, hy]), if_neg hx, if_neg hy, Nat.xor_zero]
theorem stepsN_xor (x y : Nat) : ∀ k, stepsN k (x ^^^ y) = stepsN k x ^^^ stepsN k y
  | 0 => rfl
  | k + 1 => by rw [stepsN, stepsN_xor x y k, stepN_xor]; rfl
theorem stepN_even (h : Nat) : stepN (2 * h) = h := by
  unfold stepN
  rw [if_neg (by omega), Nat.xor_zero]
  omega
theorem steps_high (h : Nat) : stepsN 8 (256 * h) = h := by
  show stepN (stepN (stepN (stepN (stepN (stepN (stepN (stepN (256 * h)))))))) = h
  rw [show 256 * h = 2 * (128 * h) by omega, stepN_even, show 128 * h = 2 * (64 * h) by omega, stepN_even, show 64 * h = 2 * (32 * h) by omega, stepN_even, show 32 * h = 2 * (16 * h) by omega, stepN_even,
    show 16 * h = 2 * (8 * h) by omega, stepN_even, show 8 * h = 2 * (4 * h) by omega, stepN_even, show 4 * h = 2 * (2 * h) by omega, stepN_even, stepN_even]
theorem low_flip : ∀ l : Fin 256, l.val ^^^ (255 - l.val) = 255 := by decide +kernel
theorem split_low (x : Nat) : x = 256 * (x / 256) ^^^ x % 256 := by
  have h := Nat.two_pow_add_eq_or_of_lt (i := 8) (b := x % 256) (by omega) (x / 256)
  have h2 : 2 ^ 8 * (x / 256) + x % 256 = x := by omega
  apply Nat.eq_of_testBit_eq
  intro i
  rw [Nat.testBit_xor]
  conv => lhs; rw [← h2, Nat.testBit_two_pow_mul_add _ (by omega)]
  rw [show 256 = 2 ^ 8 from rfl, Nat.testBit_two_pow_mul, Nat.testBit_mod_two_pow]
  by_cases hi : i < 8
  · simp [hi, show ¬ 8 ≤ i by omega]
  · simp [hi, show 8 ≤ i by omega]
/-- Behind the register x, turned by t, the byte that x's low one is not. -/
theorem end_step (x t : Nat) : byteN (x ^^^ t) (255 - x % 256) = x / 256 ^^^ stepsN 8 (t ^^^ 255) := by
  unfold byteN
  have e : (x ^^^ t) ^^^ (255 - x % 256) = 256 * (x / 256) ^^^ (t ^^^ 255) := by
    have h1 := low_flip ⟨x % 256, by omega⟩
    simp only [] at h1
    conv => lhs; rw [split_low x]
    rw [show (256 * (x / 256) ^^^ x % 256) % 256 = x % 256 by rw [← split_low]]
    generalize 255 - x % 256 = m at *
    generalize x % 256 = l at *
    generalize 256 * (x / 256) = g at *
    rw [← h1, Nat.xor_assoc, Nat.xor_assoc, xor_swap l t m]
  rw [e, stepsN_xor, steps_high]
/-- The four bytes of a word, the lowest first. -/
def low4 (s : Nat) : List Int := [((s % 256 : Nat) : Int), ((s / 256 % 256 : Nat) : Int), ((s / 65536 % 256 : Nat) : Int), ((s / 16777216 : Nat) : Int)]
theorem low4_byt {s : Nat} (h : s < 2 ^ 32) : Byt (low4 s) := by
  intro n hn
  simp only [low4, List.mem_cons, List.not_mem_nil, or_false] at hn
  omega
theorem end_run {c : Nat} (h : c < 2 ^ 32) : runN c (low4 (flipN c)) = 3736805603 := by
  show byteN (byteN (byteN (byteN c ((flipN c % 256 : Nat) : Int).toNat) ((flipN c / 256 % 256 : Nat) : Int).toNat) ((flipN c / 65536 % 256 : Nat) : Int).toNat) ((flipN c / 16777216 : Nat) : Int).toNat = _
  simp only [Int.toNat_natCast]
  rw [show flipN c % 256 = 255 - c % 256 by unfold flipN; omega, show flipN c / 256 % 256 = 255 - c / 256 % 256 by unfold flipN; omega, show flipN c / 65536 % 256 = 255 - c / 256 / 256 % 256 by unfold flipN; omega, show flipN c / 16777216 = 255 - c / 256 / 256 / 256 % 256 by unfold flipN; omega]
  have e0 := end_step c 0
  rw [Nat.xor_zero] at e0
  rw [e0, end_step, end_step, end_step, show c / 256 / 256 / 256 / 256 = 0 by omega]
  decide +kernel
/-- Bytes with their own sum behind. -/
theorem crc_end {zs : List Int} (hb : Byt zs) : crcN (zs ++ low4 (crcN zs)) = 558161692 := by
  have hr := runN_lt hb (flipN_lt 0)
  have e : crcN (zs ++ low4 (crcN zs)) = flipN (runN (runN (flipN 0) zs) (low4 (flipN (runN (flipN 0) zs)))) := by
    unfold crcN moreN
    rw [runN_app]
  rw [e, end_run hr]
  rfl
theorem crc_known : crcN [49, 50, 51, 52, 53, 54, 55, 56, 57] = 3421780262 := by decide +kernel
theorem crc_none : crcN [] = 0 := by decide +kernel
end Go.Proofs.Ytcdbfpfjackloaa
