/-
  Several texts in one: ShaPlain, ShaWords, ShaRun, ShaKey, ShaSmall, ShaBig, ShaMix, ShaMem, ShaOwn, ShaSched, ShaFold, ShaBlock, ShaMake, ShaSm, ShaWrite, ShaSum; each says its own conditions.
-/
import Derived.Laws.BitsAllLaws
import Derived.Test.YtcokpdhhpaahgaaDoorRows
import Derived.WalkKit
import Derived.WalkSmall
import Derived.Lib.Hide
import Derived.LoopTactic
import Derived.Laws.Rows
import Derived.Below
import Derived.Deep.Draws
import Derived.Laws.CopyOwn
import Derived.Maps.AppendAt
import Derived.OwnWalk
import Derived.StillTailTactics
import Derived.Deep.WholeRow
import Derived.Deep.RegionWith
import Derived.BigRegion
import Derived.Deep.RegionLaw
namespace Go.Proofs.YtcokpdhhpaahgaaDoor.Sha

/-- x turned round to the right by n bits, modulo 32. -/
def rotI (x n : Int) : Int := (((BitVec.ofInt 32 x).rotateRight (n % 32).toNat).toNat : Int)
theorem rotI_bd (x n : Int) : 0 ≤ rotI x n ∧ rotI x n ≤ 4294967295 := by
  have := ((BitVec.ofInt 32 x).rotateRight (n % 32).toNat).isLt
  unfold rotI; omega
theorem ofInt_rotI (x n : Int) : BitVec.ofInt 32 (rotI x n) = (BitVec.ofInt 32 x).rotateRight (n % 32).toNat := by
  unfold rotI; rw [BitVec.ofInt_natCast, BitVec.ofNat_toNat]; simp
theorem rot_rot (X : BitVec 32) (a b : Nat) (ha : a < 32) (hb : b < 32) : (X.rotateRight a).rotateRight b = X.rotateRight ((a + b) % 32) := by
  apply BitVec.eq_of_getElem_eq
  intro i hi
  have hm : (a + b) % 32 < 32 := Nat.mod_lt _ (by omega)
  have key : ∀ j k (hj : j < 32) (hk : k < 32), j = k → X[j] = X[k] := by intro j k hj hk e; subst e; rfl
  simp only [BitVec.getElem_rotateRight, Nat.mod_eq_of_lt ha, Nat.mod_eq_of_lt hb, Nat.mod_eq_of_lt hm]
  split <;> split <;> split <;> exact key _ _ _ _ (by omega)
theorem rotI_rotI (x n m : Int) : rotI (rotI x n) m = rotI x (n + m) := by
  have e : ((n % 32).toNat + (m % 32).toNat) % 32 = ((n + m) % 32).toNat := by omega
  rw [rotI, ofInt_rotI, rot_rot _ _ _ (by omega) (by omega), e]; rfl
theorem rotI_zero (x : Int) (h : 0 ≤ x ∧ x ≤ 4294967295) : rotI x 0 = x := by
  have e : ((0 : Int) % 32).toNat = 0 := rfl
  have e0 : (BitVec.ofInt 32 x).rotateRight 0 = BitVec.ofInt 32 x := by
    apply BitVec.eq_of_getElem_eq; intro i hi; simp [BitVec.getElem_rotateRight, hi]
  rw [rotI, e, e0, BitVec.toNat_ofInt]
  omega
theorem rotI_mod {x n m : Int} (h : n % 32 = m % 32) : rotI x n = rotI x m := by unfold rotI; rw [h]
theorem rotI_back (x n : Int) (h : 0 ≤ x ∧ x ≤ 4294967295) : rotI (rotI x n) (-n) = x := by
  rw [rotI_rotI, show n + -n = 0 by omega, rotI_zero x h]

theorem ofInt_toNat (x : Int) (h : 0 ≤ x ∧ x ≤ 4294967295) : (BitVec.ofInt 32 x).toNat = x.toNat := by
  rw [BitVec.toNat_ofInt]; omega
/-- x >> k | x << (32 - k), for k < 32. -/
theorem or_right (x : Int) (k : Nat) (hx : 0 ≤ x ∧ x ≤ 4294967295) (hk : k < 32) :
    bits .or .u32 (x / 2 ^ k) (x * 2 ^ (32 - k) % 4294967296) = (((BitVec.ofInt 32 x).rotateRight k).toNat : Int) := by
  obtain ⟨X, rfl⟩ := Int.eq_ofNat_of_zero_le hx.1
  rw [BitVec.toNat_rotateRight, ofInt_toNat _ hx, Nat.mod_eq_of_lt hk]
  have e1 : (X : Int) / 2 ^ k = ((X / 2 ^ k : Nat) : Int) := by push_cast; rfl
  have e2 : (X : Int) * 2 ^ (32 - k) % 4294967296 = ((X * 2 ^ (32 - k) % 4294967296 : Nat) : Int) := by
    have : (X : Int) * 2 ^ (32 - k) = ((X * 2 ^ (32 - k) : Nat) : Int) := by push_cast; rfl
    rw [this]; omega
  have b1 : X / 2 ^ k ≤ X := Nat.div_le_self _ _
  have b2 : X * 2 ^ (32 - k) % 4294967296 < 4294967296 := Nat.mod_lt _ (by omega)
  rw [e1, e2, u32_or_nat _ _ (by omega) b2, Nat.shiftRight_eq_div_pow, Nat.shiftLeft_eq]
  rfl
theorem or_left (x : Int) (k : Nat) (hx : 0 ≤ x ∧ x ≤ 4294967295) (hk : k < 32) :
    bits .or .u32 (x * 2 ^ k % 4294967296) (x / 2 ^ (32 - k)) = (((BitVec.ofInt 32 x).rotateRight ((32 - k) % 32)).toNat : Int) := by
  have hc : ∀ a b : Int, bits .or .u32 a b = bits .or .u32 b a := fun a b => by simp only [bits, BitVec.or_comm]
  rw [hc]
  by_cases h0 : k = 0
  · subst h0
    obtain ⟨X, rfl⟩ := Int.eq_ofNat_of_zero_le hx.1
    have e0 : (BitVec.ofInt 32 (X : Int)).rotateRight ((32 - 0) % 32) = BitVec.ofInt 32 (X : Int) := by
      apply BitVec.eq_of_getElem_eq; intro i hi; simp [BitVec.getElem_rotateRight, hi]
    rw [e0, ofInt_toNat _ hx, show (X : Int) / 2 ^ (32 - 0) = ((0 : Nat) : Int) by omega, show (X : Int) * 2 ^ 0 % 4294967296 = (X : Int) by omega, u32_or_nat _ _ (by omega) (by omega), Nat.zero_or]
    rfl
  · have := or_right x (32 - k) hx (by omega)
    rw [show 32 - (32 - k) = k by omega] at this
    rw [Nat.mod_eq_of_lt (by omega)]
    exact this
theorem right_is (x n : Int) (k : Nat) (hx : 0 ≤ x ∧ x ≤ 4294967295) (h : k = (n % 32).toNat) : bits .or .u32 (x / 2 ^ k) (x * 2 ^ (32 - k) % 4294967296) = rotI x n := by
  rw [or_right x k hx (by omega), h]; rfl
theorem left_is (x n : Int) (k : Nat) (hx : 0 ≤ x ∧ x ≤ 4294967295) (h : k = (n % 32).toNat) : bits .or .u32 (x * 2 ^ k % 4294967296) (x / 2 ^ (32 - k)) = rotI x (-n) := by
  rw [or_left x k hx (by omega), show (32 - k) % 32 = (-n % 32).toNat by omega]; rfl
theorem and31 (n : Int) : bits .and .u64 (IntKind.u64.wrap n) 31 = (((n % 32).toNat : Nat) : Int) := by
  rw [IntKind.wrap_u64, u64_and _ _ (by omega) (by omega) (by omega) (by omega)]
  show (((n % 18446744073709551616).toNat &&& 31 : Nat) : Int) = _
  rw [nat_mask5]
  omega
/-- The bit at 'a', turned round. -/
theorem bit_all : ∀ a : Fin 32, ∀ n : Fin 32, rotI (2 ^ a.val) n.val = 2 ^ ((a.val + 32 - n.val) % 32) := by decide +kernel
theorem rotI_bit (a n : Nat) (ha : a < 32) (hn : n < 32) : rotI (2 ^ a) n = 2 ^ ((a + 32 - n) % 32) := bit_all ⟨a, ha⟩ ⟨n, hn⟩

/-- The first four bytes, the highest first; bytes that are missing are 0. -/
def bigN (zs : List Int) : Nat → Int
  | 0 => 0
  | k + 1 => bigN zs k * 256 + zs.getD k 0
def bigI (zs : List Int) : Int := bigN zs 4
def Byt (zs : List Int) : Prop := ∀ n ∈ zs, 0 ≤ n ∧ n ≤ 255
theorem byt_at {zs : List Int} (h : Byt zs) (i : Nat) : 0 ≤ zs.getD i 0 ∧ zs.getD i 0 ≤ 255 := by
  rw [List.getD_eq_getElem?_getD]
  cases e : zs[i]? with
  | none => simp
  | some v => simpa using h v (List.mem_of_getElem? e)
theorem bigN_bd {zs : List Int} (h : Byt zs) : ∀ k, 0 ≤ bigN zs k ∧ bigN zs k < 256 ^ k
  | 0 => by simp [bigN]
  | k + 1 => by
    have h1 := bigN_bd h k
    have h2 := byt_at h k
    have e : (256 : Int) ^ (k + 1) = 256 ^ k * 256 := Int.pow_succ _ _
    rw [e]
    simp only [bigN]
    omega
theorem bigI_bd {zs : List Int} (h : Byt zs) : 0 ≤ bigI zs ∧ bigI zs ≤ 4294967295 := by
  have := bigN_bd h 4
  unfold bigI; omega
/-- A round of the reader. -/
theorem or_low (x z : Int) (hx : 0 ≤ x ∧ x ≤ 16777215) (hz : 0 ≤ z ∧ z ≤ 255) : bits .or .u32 (x * 256) z = x * 256 + z := by
  obtain ⟨X, rfl⟩ := Int.eq_ofNat_of_zero_le hx.1
  obtain ⟨Z, rfl⟩ := Int.eq_ofNat_of_zero_le hz.1
  have e : (X : Int) * 256 = ((X * 256 : Nat) : Int) := by omega
  rw [e, u32_or_nat _ _ (by omega) (by omega), nat_join 8 (X * 256) Z (by omega) (by omega)]
  omega
/-- The four bytes of a word, the highest first. -/
def bytes4 (x : Int) : List Int := [x / 16777216, x / 65536 % 256, x / 256 % 256, x % 256]
theorem bytes4_bd {x : Int} (h : 0 ≤ x ∧ x ≤ 4294967295) : Byt (bytes4 x) := by
  intro n hn
  simp only [bytes4, List.mem_cons, List.not_mem_nil, or_false] at hn
  omega
theorem big_bytes4 (x : Int) : bigI (bytes4 x) = x := by
  show (((0 * 256 + x / 16777216) * 256 + x / 65536 % 256) * 256 + x / 256 % 256) * 256 + x % 256 = x
  omega
theorem and255 (x : Int) (h : 0 ≤ x ∧ x ≤ 4294967295) : bits .and .u32 x 255 = x % 256 := by
  rw [u32_and _ _ (by omega) (by omega) (by omega) (by omega)]
  show (((x.toNat &&& 255 : Nat)) : Int) = _
  rw [nat_mask8]; omega
end Go.Proofs.YtcokpdhhpaahgaaDoor.Sha

namespace Go.Proofs.YtcokpdhhpaahgaaDoor.Sha

def add32 (a b : Int) : Int := (a + b) % 4294967296
def xor32 (a b : Int) : Int := bits .xor .u32 a b
def and32 (a b : Int) : Int := bits .and .u32 a b
def not32 (a : Int) : Int := bits .xor .u32 IntKind.u32.max a
def mixLow (x : Int) : Int := xor32 (xor32 (rotI x 2) (rotI x 13)) (rotI x 22)
def mixHigh (x : Int) : Int := xor32 (xor32 (rotI x 6) (rotI x 11)) (rotI x 25)
def spreadLow (x : Int) : Int := xor32 (xor32 (rotI x 7) (rotI x 18)) (x / 8)
def spreadHigh (x : Int) : Int := xor32 (xor32 (rotI x 17) (rotI x 19)) (x / 1024)
def choose (x y z : Int) : Int := xor32 (and32 x y) (and32 (not32 x) z)
def majority (x y z : Int) : Int := xor32 (xor32 (and32 x y) (and32 x z)) (and32 y z)

def Wd (x : Int) : Prop := 0 ≤ x ∧ x ≤ 4294967295
theorem wd_add (a b : Int) : Wd (add32 a b) := by unfold Wd add32; omega
theorem bits_u32 (op : BinOp) (a b : Int) (h : op = .xor ∨ op = .and) : Wd (bits op .u32 a b) := by
  have key : ∀ v : BitVec 32, Wd (IntKind.u32.wrap (v.toNat : Int)) := by
    intro v
    have := v.isLt
    rw [IntKind.wrap_u32']; unfold Wd; omega
  rcases h with rfl | rfl
  · exact key (BitVec.ofInt 32 a ^^^ BitVec.ofInt 32 b)
  · exact key (BitVec.ofInt 32 a &&& BitVec.ofInt 32 b)
theorem wd_xor (a b : Int) : Wd (xor32 a b) := bits_u32 .xor a b (.inl rfl)
theorem wd_and (a b : Int) : Wd (and32 a b) := bits_u32 .and a b (.inr rfl)
theorem wd_not (a : Int) : Wd (not32 a) := bits_u32 .xor _ a (.inl rfl)
theorem not32_ref (a : Int) : bits .xor .u32 a 4294967295 = not32 a := by
  unfold not32
  show IntKind.u32.wrap ((BitVec.ofInt 32 a ^^^ BitVec.ofInt 32 4294967295).toNat : Int) = IntKind.u32.wrap ((BitVec.ofInt 32 4294967295 ^^^ BitVec.ofInt 32 a).toNat : Int)
  rw [BitVec.xor_comm]

/-- The eight words of a state. -/
structure St where
  a : Int
  b : Int
  c : Int
  d : Int
  e : Int
  f : Int
  g : Int
  h : Int
def St.Ok (s : St) : Prop := Wd s.a ∧ Wd s.b ∧ Wd s.c ∧ Wd s.d ∧ Wd s.e ∧ Wd s.f ∧ Wd s.g ∧ Wd s.h
def one (k w : Int) (s : St) : Int := add32 (add32 (add32 (add32 s.h (mixHigh s.e)) (choose s.e s.f s.g)) k) w
def two (s : St) : Int := add32 (mixLow s.a) (majority s.a s.b s.c)
def rnd (k w : Int) (s : St) : St := ⟨add32 (one k w s) (two s), s.a, s.b, s.c, add32 s.d (one k w s), s.e, s.f, s.g⟩
theorem rnd_ok {s : St} (h : s.Ok) (k w : Int) : (rnd k w s).Ok := by
  obtain ⟨ha, hb, hc, hd, he, hf, hg, hh⟩ := h
  exact ⟨wd_add _ _, ha, hb, hc, wd_add _ _, he, hf, hg⟩
def constL : List Int := [1116352408, 1899447441, 3049323471, 3921009573, 961987163, 1508970993, 2453635748, 2870763221, 3624381080, 310598401, 607225278, 1426881987, 1925078388, 2162078206, 2614888103, 3248222580, 3835390401, 4022224774, 264347078, 604807628, 770255983, 1249150122, 1555081692, 1996064986, 2554220882, 2821834349, 2952996808, 3210313671, 3336571891, 3584528711, 113926993, 338241895, 666307205, 773529912, 1294757372, 1396182291, 1695183700, 1986661051, 2177026350, 2456956037, 2730485921, 2820302411, 3259730800, 3345764771, 3516065817, 3600352804, 4094571909, 275423344, 430227734, 506948616, 659060556, 883997877, 958139571, 1322822218, 1537002063, 1747873779, 1955562222, 2024104815, 2227730452, 2361852424, 2428436474, 2756734187, 3204031479, 3329325298]
def st0 : St := ⟨1779033703, 3144134277, 1013904242, 2773480762, 1359893119, 2600822924, 528734635, 1541459225⟩
def kI (i : Nat) : Int := constL.getD i 0
theorem kI_wd : ∀ i : Fin 64, 0 ≤ kI i.val ∧ kI i.val ≤ 4294967295 := by decide +kernel
theorem kI_ok (i : Nat) (h : i < 64) : Wd (kI i) := kI_wd ⟨i, h⟩
/-- The next word of the schedule, behind the words l. -/
def next (zs l : List Int) : Int :=
  if l.length < 16 then bigI (zs.drop (4 * l.length))
  else add32 (add32 (add32 (l.getD (l.length - 16) 0) (spreadLow (l.getD (l.length - 15) 0))) (l.getD (l.length - 7) 0)) (spreadHigh (l.getD (l.length - 2) 0))
def sched (zs : List Int) : Nat → List Int
  | 0 => []
  | i + 1 => sched zs i ++ [next zs (sched zs i)]
theorem sched_len (zs : List Int) : ∀ i, (sched zs i).length = i
  | 0 => rfl
  | i + 1 => by simp [sched, sched_len zs i]
def rounds (ws : List Int) (s : St) : Nat → St
  | 0 => s
  | i + 1 => rnd (kI i) (ws.getD i 0) (rounds ws s i)
theorem rounds_ok {s : St} (h : s.Ok) (ws : List Int) : ∀ i, (rounds ws s i).Ok
  | 0 => h
  | i + 1 => rnd_ok (rounds_ok h ws i) _ _
def sumSt (s t : St) : St := ⟨add32 s.a t.a, add32 s.b t.b, add32 s.c t.c, add32 s.d t.d, add32 s.e t.e, add32 s.f t.f, add32 s.g t.g, add32 s.h t.h⟩
/-- What a block of 64 bytes does to the words of a state. -/
def foldI (s : St) (zs : List Int) : St := sumSt s (rounds (sched zs 64) s 64)
theorem foldI_ok (s : St) (zs : List Int) : (foldI s zs).Ok := ⟨wd_add _ _, wd_add _ _, wd_add _ _, wd_add _ _, wd_add _ _, wd_add _ _, wd_add _ _, wd_add _ _⟩
theorem st0_ok : st0.Ok := by simp [St.Ok, Wd, st0]
theorem byt_drop {zs : List Int} (h : Byt zs) (k : Nat) : Byt (zs.drop k) := fun n hn => h n (List.mem_of_mem_drop hn)
theorem byt_take {zs : List Int} (h : Byt zs) (k : Nat) : Byt (zs.take k) := fun n hn => h n (List.mem_of_mem_take hn)
theorem byt_app {xs ys : List Int} (h : Byt xs) (k : Byt ys) : Byt (xs ++ ys) := fun n hn => (List.mem_append.1 hn).elim (h n) (k n)
def Wds (l : List Int) : Prop := ∀ n ∈ l, Wd n
theorem wds_at {l : List Int} (h : Wds l) (i : Nat) : Wd (l.getD i 0) := by
  rw [List.getD_eq_getElem?_getD]
  cases e : l[i]? with
  | none => simp [Wd]
  | some v => simpa using h v (List.mem_of_getElem? e)
theorem next_wd {zs l : List Int} (h : Byt zs) : Wd (next zs l) := by
  unfold next
  split
  · exact bigI_bd (byt_drop h _)
  · exact wd_add _ _
theorem sched_wd {zs : List Int} (h : Byt zs) : ∀ i, Wds (sched zs i)
  | 0 => fun n hn => by simp [sched] at hn
  | i + 1 => fun n hn => by
    simp only [sched, List.mem_append, List.mem_singleton] at hn
    rcases hn with hn | rfl
    · exact sched_wd h i n hn
    · exact next_wd h
end Go.Proofs.YtcokpdhhpaahgaaDoor.Sha

namespace Go.Proofs.YtcokpdhhpaahgaaDoor.Sha

def runF : Nat → St → List Int → St × List Int
  | 0, s, bs => (s, bs)
  | f + 1, s, bs => if 64 ≤ bs.length then runF f (foldI s (bs.take 64)) (bs.drop 64) else (s, bs)
/-- The state behind all full blocks of bs, and what is left of bs. -/
def run (s : St) (bs : List Int) : St × List Int := runF (bs.length / 64) s bs
theorem run_step (s : St) (bs : List Int) (h : 64 ≤ bs.length) : run s bs = run (foldI s (bs.take 64)) (bs.drop 64) := by
  have e : bs.length / 64 = (bs.drop 64).length / 64 + 1 := by rw [List.length_drop]; omega
  rw [run, e, runF, if_pos h]; rfl
theorem run_small (s : St) (bs : List Int) (h : bs.length < 64) : run s bs = (s, bs) := by
  have e : bs.length / 64 = 0 := by omega
  rw [run, e]; rfl
theorem run_join (ys : List Int) : ∀ (n : Nat) (s : St) (xs : List Int), xs.length ≤ n → run s (xs ++ ys) = run (run s xs).1 ((run s xs).2 ++ ys) := by
  intro n
  induction n with
  | zero =>
    intro s xs h
    rw [run_small s xs (by omega)]
  | succ n ih =>
    intro s xs h
    by_cases hl : 64 ≤ xs.length
    · have e1 : (xs ++ ys).take 64 = xs.take 64 := List.take_append_of_le_length hl
      have e2 : (xs ++ ys).drop 64 = xs.drop 64 ++ ys := List.drop_append_of_le_length hl
      rw [run_step s (xs ++ ys) (by rw [List.length_append]; omega), run_step s xs hl, e1, e2]
      exact ih _ _ (by rw [List.length_drop]; omega)
    · rw [run_small s xs (by omega)]
theorem run_app (s : St) (xs ys : List Int) : run s (xs ++ ys) = run (run s xs).1 ((run s xs).2 ++ ys) := run_join ys xs.length s xs (Nat.le_refl _)
theorem run_facts : ∀ (n : Nat) (s : St) (xs : List Int), xs.length ≤ n → s.Ok → Byt xs → (run s xs).1.Ok ∧ Byt (run s xs).2 ∧ (run s xs).2.length = xs.length % 64 := by
  intro n
  induction n with
  | zero =>
    intro s xs h hs hb
    rw [run_small s xs (by omega)]
    exact ⟨hs, hb, by simp; omega⟩
  | succ n ih =>
    intro s xs h hs hb
    by_cases hl : 64 ≤ xs.length
    · rw [run_step s xs hl]
      obtain ⟨h1, h2, h3⟩ := ih (foldI s (xs.take 64)) (xs.drop 64) (by rw [List.length_drop]; omega) (foldI_ok _ _) (byt_drop hb _)
      exact ⟨h1, h2, by rw [h3, List.length_drop]; omega⟩
    · rw [run_small s xs (by omega)]
      exact ⟨hs, hb, by simp; omega⟩
theorem run_ok {s : St} {xs : List Int} (hs : s.Ok) (hb : Byt xs) : (run s xs).1.Ok := (run_facts xs.length s xs (Nat.le_refl _) hs hb).1
theorem run_byt {s : St} {xs : List Int} (hs : s.Ok) (hb : Byt xs) : Byt (run s xs).2 := (run_facts xs.length s xs (Nat.le_refl _) hs hb).2.1
theorem run_len {s : St} {xs : List Int} (hs : s.Ok) (hb : Byt xs) : (run s xs).2.length = xs.length % 64 := (run_facts xs.length s xs (Nat.le_refl _) hs hb).2.2

def bytes8 (x : Int) : List Int := bytes4 (x / 4294967296) ++ bytes4 (x % 4294967296)
def bytes32 (s : St) : List Int := bytes4 s.a ++ bytes4 s.b ++ bytes4 s.c ++ bytes4 s.d ++ bytes4 s.e ++ bytes4 s.f ++ bytes4 s.g ++ bytes4 s.h
def zerosOf (n : Nat) : Nat := (119 - n % 64) % 64
def padI (n : Nat) : List Int := 128 :: List.replicate (zerosOf n) 0
def lastI (n : Nat) : List Int := padI n ++ bytes8 ((8 * n % 18446744073709551616 : Nat) : Int)
/-- The hash of a stream: its state, how many bytes were written, those that fill no block. -/
def sumI (H : St) (n : Nat) (rest : List Int) : List Int := bytes32 (run H (rest ++ lastI n)).1
def shaI (bs : List Int) : List Int := sumI (run st0 bs).1 bs.length (run st0 bs).2
def saveI (H : St) (n : Nat) (rest : List Int) : List Int := bytes32 H ++ bytes8 (n : Int) ++ rest
theorem len4 (x : Int) : (bytes4 x).length = 4 := rfl
theorem len8 (x : Int) : (bytes8 x).length = 8 := rfl
theorem len32 (s : St) : (bytes32 s).length = 32 := rfl
theorem byt4 {x : Int} (h : Wd x) : Byt (bytes4 x) := bytes4_bd h
theorem byt8 {x : Int} (h : 0 ≤ x ∧ x < 18446744073709551616) : Byt (bytes8 x) := byt_app (bytes4_bd (by omega)) (bytes4_bd (by omega))
theorem byt32 {s : St} (h : s.Ok) : Byt (bytes32 s) := by
  obtain ⟨ha, hb, hc, hd, he, hf, hg, hh⟩ := h
  exact byt_app (byt_app (byt_app (byt_app (byt_app (byt_app (byt_app (byt4 ha) (byt4 hb)) (byt4 hc)) (byt4 hd)) (byt4 he)) (byt4 hf)) (byt4 hg)) (byt4 hh)
theorem byt_pad (n : Nat) : Byt (padI n) := by
  intro x hx
  simp only [padI, List.mem_cons, List.mem_replicate] at hx
  omega
theorem byt_last (n : Nat) : Byt (lastI n) := byt_app (byt_pad n) (byt8 (by omega))
theorem len_pad (n : Nat) : (padI n).length = 1 + zerosOf n := by simp [padI]; omega
theorem pad_fits (n : Nat) : (n % 64 + (padI n).length + 8) % 64 = 0 := by rw [len_pad]; unfold zerosOf; omega
theorem len_last (n : Nat) : (n + (lastI n).length) % 64 = 0 := by
  have := pad_fits n
  rw [lastI, List.length_append, len8]; omega
set_option maxRecDepth 100000 in
theorem sha_abc : shaI [97, 98, 99] = [0xba, 0x78, 0x16, 0xbf, 0x8f, 0x01, 0xcf, 0xea, 0x41, 0x41, 0x40, 0xde, 0x5d, 0xae, 0x22, 0x23, 0xb0, 0x03, 0x61, 0xa3, 0x96, 0x17, 0x7a, 0x9c, 0xb4, 0x10, 0xff, 0x61, 0xf2, 0x00, 0x15, 0xad] := by decide +kernel
end Go.Proofs.YtcokpdhhpaahgaaDoor.Sha

namespace Go.Proofs.YtcokpdhhpaahgaaDoor.Sha
set_option linter.unusedVariables false
set_option linter.unusedSimpArgs false

def xorI (p x : Int) : Int := bits .xor .u8 x p
theorem bits_xor (x y : Int) (hx : 0 ≤ x ∧ x ≤ 255) (hy : 0 ≤ y ∧ y ≤ 255) : bits .xor .u8 x y = ((x.toNat ^^^ y.toNat : Nat) : Int) := u8_xor x y hx.1 (by omega) hy.1 (by omega)
theorem bits_or (x y : Int) (hx : 0 ≤ x ∧ x ≤ 255) (hy : 0 ≤ y ∧ y ≤ 255) : bits .or .u8 x y = ((x.toNat ||| y.toNat : Nat) : Int) := u8_or x y hx.1 (by omega) hy.1 (by omega)
theorem xor_byt {x y : Int} (hx : 0 ≤ x ∧ x ≤ 255) (hy : 0 ≤ y ∧ y ≤ 255) : 0 ≤ bits .xor .u8 x y ∧ bits .xor .u8 x y ≤ 255 := by
  rw [bits_xor x y hx hy]
  have : x.toNat ^^^ y.toNat < 2 ^ 8 := Nat.xor_lt_two_pow (by omega) (by omega)
  omega
theorem or_byt {x y : Int} (hx : 0 ≤ x ∧ x ≤ 255) (hy : 0 ≤ y ∧ y ≤ 255) : 0 ≤ bits .or .u8 x y ∧ bits .or .u8 x y ≤ 255 := by
  rw [bits_or x y hx hy]
  have : x.toNat ||| y.toNat < 2 ^ 8 := Nat.or_lt_two_pow (by omega) (by omega)
  omega
theorem xor_none {x y : Int} (hx : 0 ≤ x ∧ x ≤ 255) (hy : 0 ≤ y ∧ y ≤ 255) : bits .xor .u8 x y = 0 ↔ x = y := by
  rw [bits_xor x y hx hy]
  constructor
  · intro h
    have h2 : x.toNat ^^^ y.toNat = 0 := by omega
    have := congrArg (· ^^^ y.toNat) h2
    simp [Nat.xor_assoc] at this
    omega
  · rintro rfl
    simp
theorem or_none {x y : Int} (hx : 0 ≤ x ∧ x ≤ 255) (hy : 0 ≤ y ∧ y ≤ 255) : bits .or .u8 x y = 0 ↔ x = 0 ∧ y = 0 := by
  rw [bits_or x y hx hy]
  have := @Nat.or_eq_zero_iff x.toNat y.toNat
  omega

/-- What two rows differ in, over their first k bytes. -/
def diff (xs ys : List Int) : Nat → Int
  | 0 => 0
  | k + 1 => bits .or .u8 (diff xs ys k) (bits .xor .u8 (xs.getD k 0) (ys.getD k 0))
theorem diff_byt {xs ys : List Int} (hx : Byt xs) (hy : Byt ys) : ∀ k, 0 ≤ diff xs ys k ∧ diff xs ys k ≤ 255
  | 0 => ⟨Int.le_refl _, by simp [diff]⟩
  | k + 1 => or_byt (diff_byt hx hy k) (xor_byt (byt_at hx k) (byt_at hy k))
theorem diff_none {xs ys : List Int} (hx : Byt xs) (hy : Byt ys) : ∀ k, diff xs ys k = 0 ↔ ∀ j, j < k → xs.getD j 0 = ys.getD j 0
  | 0 => by simp [diff]
  | k + 1 => by
    rw [diff, or_none (diff_byt hx hy k) (xor_byt (byt_at hx k) (byt_at hy k)), diff_none hx hy k, xor_none (byt_at hx k) (byt_at hy k)]
    constructor
    · rintro ⟨h1, h2⟩ j hj
      by_cases e : j = k
      · subst e; exact h2
      · exact h1 j (by omega)
    · intro h
      exact ⟨fun j hj => h j (by omega), h k (by omega)⟩
theorem diff_all {xs ys : List Int} (hx : Byt xs) (hy : Byt ys) {n : Nat} (h1 : xs.length = n) (h2 : ys.length = n) : diff xs ys n = 0 ↔ xs = ys := by
  rw [diff_none hx hy]
  constructor
  · intro h
    refine List.ext_getElem (by omega) fun j hj hj' => ?_
    have := h j (by omega)
    rwa [List.getD_eq_getElem?_getD, List.getD_eq_getElem?_getD, List.getElem?_eq_getElem hj, List.getElem?_eq_getElem hj'] at this
  · rintro rfl j _
    rfl

/-- The key, or its hash if it is longer than a block. -/
def keyI (ks : List Int) : List Int := if 64 < ks.length then shaI ks else ks
/-- The key's block. -/
def blkI (ks : List Int) : List Int := keyI ks ++ List.replicate (64 - (keyI ks).length) 0
def keyed (p : Int) (ks : List Int) : List Int := (blkI ks).map (xorI p)
def tagI (ks bs : List Int) : List Int := shaI (keyed 92 ks ++ shaI (keyed 54 ks ++ bs))
theorem sha_len (bs : List Int) : (shaI bs).length = 32 := rfl
theorem key_len (ks : List Int) : (keyI ks).length ≤ 64 := by
  unfold keyI
  split
  · rw [sha_len]; omega
  · omega
theorem blk_len (ks : List Int) : (blkI ks).length = 64 := by
  have := key_len ks
  rw [blkI, List.length_append, List.length_replicate]; omega
theorem keyed_len (p : Int) (ks : List Int) : (keyed p ks).length = 64 := by rw [keyed, List.length_map, blk_len]
theorem tag_len (ks bs : List Int) : (tagI ks bs).length = 32 := rfl
theorem byt_rep (n : Nat) : Byt (List.replicate n 0) := by
  intro x hx
  simp only [List.mem_replicate] at hx
  omega
theorem byt_key {ks : List Int} (h : Byt ks) (hs : ∀ bs, Byt bs → Byt (shaI bs)) : Byt (keyI ks) := by
  unfold keyI
  split
  · exact hs _ h
  · exact h
theorem byt_blk {ks : List Int} (h : Byt ks) (hs : ∀ bs, Byt bs → Byt (shaI bs)) : Byt (blkI ks) := byt_app (byt_key h hs) (byt_rep _)
theorem byt_xor {p : Int} (hp : 0 ≤ p ∧ p ≤ 255) {bs : List Int} (h : Byt bs) : Byt (bs.map (xorI p)) := by
  intro x hx
  obtain ⟨y, hy, rfl⟩ := List.mem_map.1 hx
  exact xor_byt (h y hy) hp
/-- A key of up to a block is as with bytes 0 behind it. -/
theorem blk_zeros (ks : List Int) (j : Nat) (h : ks.length + j ≤ 64) : blkI (ks ++ List.replicate j 0) = blkI ks := by
  unfold blkI keyI
  rw [if_neg (show ¬ 64 < (ks ++ List.replicate j (0 : Int)).length by rw [List.length_append, List.length_replicate]; omega), if_neg (show ¬ 64 < ks.length by omega), List.length_append, List.length_replicate, List.append_assoc, List.replicate_append_replicate]
  congr 2
  omega
theorem tag_zeros (ks bs : List Int) (j : Nat) (h : ks.length + j ≤ 64) : tagI (ks ++ List.replicate j 0) bs = tagI ks bs := by
  unfold tagI keyed
  rw [blk_zeros ks j h]
/-- A key that is longer than a block is as its hash. -/
theorem tag_long (ks bs : List Int) (h : 64 < ks.length) : tagI (shaI ks) bs = tagI ks bs := by
  have e : blkI (shaI ks) = blkI ks := by
    unfold blkI keyI
    rw [if_pos h, if_neg (by rw [sha_len]; omega)]
  unfold tagI keyed
  rw [e]
/-- Bytes behind a block that was folded. -/
theorem sha_behind (X zs : List Int) (h2 : (run st0 X).2 = []) : sumI (run (run st0 X).1 zs).1 (X.length + zs.length) (run (run st0 X).1 zs).2 = shaI (X ++ zs) := by
  have e := run_app st0 X zs
  rw [h2, List.nil_append] at e
  unfold shaI
  rw [e, List.length_append]
end Go.Proofs.YtcokpdhhpaahgaaDoor.Sha

namespace Go.Proofs.YtcokpdhhpaahgaaDoor.Sha
open Go.RowKit

theorem ret_int {k : IntKind} {a b : Int} (h : a = b) : Ending.returned (.int k a) = .returned (.int k b) := by rw [h]

theorem rright_any (x n : Int) (w : World) (hx : 0 ≤ x ∧ x ≤ 4294967295) :
    Calls Tryd.prog 93 #[.int .u32 x, .int .i64 n] w fun e w' => e = .returned (.int .u32 (rotI x n)) ∧ w = w' := by
  obtain ⟨k, hk, hm⟩ : ∃ k : Nat, k = (n % 32).toNat ∧ bits .and .u64 (IntKind.u64.wrap n) 31 = (k : Int) := ⟨_, rfl, and31 n⟩
  have hlt : k < 32 := by omega
  have HK := Lib.hid hk
  clear hk
  by_cases h0 : k = 0
  · subst h0
    go_enter Tryd.func93, Tryd.ntmps93
    go_wp2
    go_ret
    exact ⟨ret_int (by rw [rotI_mod (m := 0) (by have := HK.out; omega), rotI_zero x hx]), rfl⟩
  · go_enter Tryd.func93, Tryd.ntmps93
    go_wp2
    go_ret
    exact ⟨ret_int (right_is x n k hx HK.out), rfl⟩
theorem wrap64_mod (n : Int) : wrap64 n % 32 = n % 32 := by unfold wrap64; omega
theorem rbytes_any (x : Int) (w : World) (hx : 0 ≤ x ∧ x ≤ 4294967295) :
    Calls Tryd.prog 85 #[.int .u32 x] w fun e w' => e = .returned (.slice (some ⟨w.heap.size, 0, none⟩) 4 4) ∧ w.alloc (.cells ((bytes4 x).map (Value.int .u8)).toArray 5) = w' := by
  have h1 := and255 x hx
  have h2 := and255 (x / 256) (by omega)
  have h3 := and255 (x / 65536) (by omega)
  go_enter Tryd.func85, Tryd.ntmps85
  go_wp2
  go_ret
  exact ⟨rfl, rfl⟩
end Go.Proofs.YtcokpdhhpaahgaaDoor.Sha

namespace Go.Proofs.YtcokpdhhpaahgaaDoor.Sha
open Go.RowKit

/-- A slice of n bytes that reads as the numbers zs (nil, or empty: whatever its address). -/
def Row (w : World) (a : Option Addr) (n : Nat) (zs : List Int) : Prop :=
  zs.length = n ∧ Byt zs ∧ (n = 0 ∨ ∃ b off, a = some ⟨b, off, none⟩ ∧ b < w.heap.size ∧ ∀ j, j < n → w.cell? ⟨b, off + j, none⟩ = some (.int .u8 (zs.getD j 0)))

theorem bigN_past {zs : List Int} (k : Nat) (h : zs.length ≤ k) : bigN zs (k + 1) = bigN zs k * 256 := by
  simp only [bigN, List.getD_eq_getElem?_getD, List.getElem?_eq_none h, Option.getD_none]; omega
theorem bigN_bd3 {zs : List Int} (h : Byt zs) (k : Nat) (hk : k < 4) : 0 ≤ bigN zs k ∧ bigN zs k ≤ 16777215 := by
  rcases (by omega : k = 0 ∨ k = 1 ∨ k = 2 ∨ k = 3) with rfl | rfl | rfl | rfl
  · have := bigN_bd h 0; omega
  · have := bigN_bd h 1; omega
  · have := bigN_bd h 2; omega
  · have := bigN_bd h 3; omega
theorem val_u32 {a b : Int} (h : a = b) : Value.int .u32 a = Value.int .u32 b := by rw [h]
theorem big_step {zs : List Int} (h : Byt zs) (k : Nat) (hk : k < 4) : bits .or .u32 (bigN zs k * 256) (zs[k]?.getD 0 % 4294967296) = bigN zs (k + 1) := by
  have hz := byt_at h k
  rw [List.getD_eq_getElem?_getD] at hz
  rw [Int.emod_eq_of_lt hz.1 (by omega), or_low _ _ (bigN_bd3 h k hk) hz]
  simp only [bigN, List.getD_eq_getElem?_getD]

set_option maxRecDepth 100000 in
theorem rbig_any (a : Option Addr) (n cap : Nat) (zs : List Int) (w : World) (hr : Row w a n zs) :
    Calls Tryd.prog 92 #[.slice a n cap] w fun e w' => e = .returned (.int .u32 (bigI zs)) ∧ w = w' := by
  obtain ⟨hl, hb, hc⟩ := hr
  have HL := Lib.hid hl
  clear hl
  go_enter Tryd.func92, Tryd.ntmps92
  go_wp2
  go_loop [3, 4] (fun x i => ∃ k : Nat, k ≤ 4 ∧ i = .int .i64 k ∧ x = .int .u32 (bigN zs k)) (fun _ i => 4 - (intOf i).toNat)
  case atStart => exact ⟨0, by omega, rfl, rfl⟩
  case round =>
    obtain ⟨k, hk, rfl, rfl⟩ := hrel
    by_cases h4 : k < 4
    · have hd := bigN_bd3 hb k h4
      by_cases hlt : k < n
      · rcases hc with h0 | ⟨b, off, rfl, hbw, hcell⟩
        · omega
        · have hck := hcell k hlt
          have hz := byt_at hb k
          clear hcell
          go_wp2
          go_round
          case rel => exact ⟨k + 1, by omega, by go_num, val_u32 (big_step hb k h4)⟩
          case measure => simp [intOf]; omega
      · clear hc
        go_wp2
        go_round
        case rel => exact ⟨k + 1, by omega, by go_num, val_u32 (bigN_past k (by have := HL.out; omega)).symm⟩
        case measure => simp [intOf]; omega
    · go_wp2
      go_ret
      exact ⟨ret_int (by rw [show k = 4 by omega]; rfl), rfl⟩
end Go.Proofs.YtcokpdhhpaahgaaDoor.Sha

namespace Go.Proofs.YtcokpdhhpaahgaaDoor.Sha
open Go.RowKit
set_option linter.unusedVariables false

end Go.Proofs.YtcokpdhhpaahgaaDoor.Sha

namespace Go.Proofs.YtcokpdhhpaahgaaDoor.Sha
open Go.RowKit
set_option linter.unusedSimpArgs false

/-- Block g is just these cells, none of them frozen. -/
def Has (w : World) (g : Nat) (t : TypeId) (cs : Array Value) : Prop := w.heap[g]? = some (.cells cs t (0, 0))
theorem Has.size {w : World} {g : Nat} {t : TypeId} {cs : Array Value} (h : Has w g t cs) : g < w.heap.size := by
  unfold Has at h
  exact (Array.getElem?_eq_some_iff.1 h).1
theorem Has.at {w : World} {g : Nat} {t : TypeId} {cs : Array Value} (h : Has w g t cs) (i : Nat) : w.cell? ⟨g, i, none⟩ = cs[i]? := cell_of_row w g i cs t (0, 0) h
theorem Has.soft {w : World} {g : Nat} {t : TypeId} {cs : Array Value} (h : Has w g t cs) (i : Nat) : w.frozen? ⟨g, i, none⟩ = false := frozen_of_row w g i cs t h
theorem has_new (w : World) (t : TypeId) (cs : Array Value) : Has (w.alloc (.cells cs t)) w.heap.size t cs := heap_alloc_new w _
theorem Has.more {w : World} {g : Nat} {t : TypeId} {cs : Array Value} (h : Has w g t cs) (o : Obj) : Has (w.alloc o) g t cs := (Below.heap_alloc w o g h.size).trans h
theorem Has.put {w : World} {g : Nat} {t : TypeId} {cs : Array Value} (h : Has w g t cs) (i : Nat) (v : Value) : Has (w.setCell ⟨g, i, none⟩ v) g t (cs.setIfInBounds i v) := heap_setCell_same w g i cs t v h
theorem Has.by {w : World} {g : Nat} {t : TypeId} {cs : Array Value} (h : Has w g t cs) {a : Addr} (hne : g ≠ a.block) (v : Value) : Has (w.setCell a v) g t cs := (heap_setCell_other w a g v hne).trans h
theorem Has.below {w w' : World} {g B : Nat} {t : TypeId} {cs : Array Value} (h : Has w g t cs) (hb : Below B w w') (hg : g < B) : Has w' g t cs := (hb.block g hg).trans h
theorem Has.kept {w w' : World} {g : Nat} {t : TypeId} {cs : Array Value} (h : Has w g t cs) (hb : Below w.heap.size w w') : Has w' g t cs := h.below hb h.size

theorem row_lt {w : World} {a : Option Addr} {n : Nat} {zs : List Int} {B : Nat} {w' : World} (h : Row w a n zs) (hB : w.heap.size ≤ B) (hb : Below B w w') : Row w' a n zs := by
  obtain ⟨h1, h2, h3⟩ := h
  refine ⟨h1, h2, ?_⟩
  rcases h3 with h0 | ⟨b, off, ha, hbw, hc⟩
  · exact .inl h0
  · exact .inr ⟨b, off, ha, Nat.lt_of_lt_of_le hbw hb.size, fun j hj => (hb.cell (p := ⟨b, off + j, none⟩) (Nat.lt_of_lt_of_le hbw hB)).trans (hc j hj)⟩
theorem row_below {w w' : World} {a : Option Addr} {n : Nat} {zs : List Int} (hb : Below w.heap.size w w') (h : Row w a n zs) : Row w' a n zs := row_lt h (Nat.le_refl _) hb
/-- A row of n bytes, n above 0: its address and its cells. -/
theorem row_open {w : World} {a : Option Addr} {n : Nat} {zs : List Int} (h : Row w a n zs) (hn : 0 < n) : ∃ b off, a = some ⟨b, off, none⟩ ∧ b < w.heap.size ∧ ∀ j, j < n → w.cell? ⟨b, off + j, none⟩ = some (.int .u8 (zs.getD j 0)) := by
  rcases h.2.2 with h0 | h1
  · omega
  · exact h1
theorem row_mk {w : World} {b off n : Nat} {zs : List Int} (hl : zs.length = n) (hb : Byt zs) (hw : b < w.heap.size) (hc : ∀ j, j < n → w.cell? ⟨b, off + j, none⟩ = some (.int .u8 (zs.getD j 0))) : Row w (some ⟨b, off, none⟩) n zs := ⟨hl, hb, .inr ⟨b, off, rfl, hw, hc⟩⟩
theorem getD_drop (zs : List Int) (k j : Nat) : (zs.drop k).getD j 0 = zs.getD (k + j) 0 := by simp [List.getD_eq_getElem?_getD, List.getElem?_drop]
theorem getD_take (zs : List Int) (k j : Nat) (h : j < k) : (zs.take k).getD j 0 = zs.getD j 0 := by simp [List.getD_eq_getElem?_getD, List.getElem?_take, h]
theorem row_from {w : World} {b off n : Nat} {zs : List Int} (h : Row w (some ⟨b, off, none⟩) n zs) (k : Nat) (hk : k < n) : Row w (some ⟨b, off + k, none⟩) (n - k) (zs.drop k) := by
  obtain ⟨b', off', e, hw, hc⟩ := row_open h (by omega)
  cases e
  exact row_mk (by rw [List.length_drop, h.1]) (byt_drop h.2.1 k) hw (fun j hj => by rw [getD_drop, show off + k + j = off + (k + j) by omega]; exact hc (k + j) (by omega))
theorem row_upto {w : World} {a : Option Addr} {n : Nat} {zs : List Int} (h : Row w a n zs) (k : Nat) (hk : k ≤ n) : Row w a k (zs.take k) := by
  refine ⟨by rw [List.length_take, h.1]; omega, byt_take h.2.1 k, ?_⟩
  by_cases h0 : k = 0
  · exact .inl h0
  · obtain ⟨b, off, rfl, hw, hc⟩ := row_open h (by omega)
    exact .inr ⟨b, off, rfl, hw, fun j hj => by rw [getD_take _ _ _ hj]; exact hc j (by omega)⟩

/-- 64 words: those of l, zeros behind. -/
def wcells (l : List Int) : Array Value := ((l ++ List.replicate (64 - l.length) 0).map (Value.int .u32)).toArray
theorem wcells_size {l : List Int} (h : l.length ≤ 64) : (wcells l).size = 64 := by simp [wcells]; omega
theorem wcells_at {l : List Int} (h : l.length ≤ 64) {i : Nat} (hi : i < 64) : (wcells l)[i]? = some (.int .u32 (l.getD i 0)) := by
  simp only [wcells, List.getElem?_toArray, List.getElem?_map, List.getElem?_append, List.getD_eq_getElem?_getD]
  by_cases hl : i < l.length
  · simp [hl]
  · simp [hl, List.getElem?_replicate, show i - l.length < 64 - l.length by omega]
theorem wcells_put {l : List Int} (h : l.length < 64) (x : Int) : (wcells l).setIfInBounds l.length (.int .u32 x) = wcells (l ++ [x]) := by
  apply Array.ext_getElem?
  intro i
  rw [Array.getElem?_setIfInBounds, wcells_size (by omega)]
  by_cases hi : i < 64
  · rw [wcells_at (l := l ++ [x]) (by rw [List.length_append]; simp; omega) hi, wcells_at (l := l) (by omega) hi]
    by_cases e : l.length = i
    · subst e; simp [h]
    · simp only [e, if_false, Option.some.injEq, Value.int.injEq, true_and, List.getD_eq_getElem?_getD, List.getElem?_append]
      by_cases hl : i < l.length
      · simp [hl]
      · rw [if_neg hl, List.getElem?_eq_none (by omega), List.getElem?_eq_none (by simp; omega)]
  · rw [Array.getElem?_eq_none (xs := wcells l) (by rw [wcells_size (by omega)]; omega), Array.getElem?_eq_none (xs := wcells (l ++ [x])) (by rw [wcells_size (by rw [List.length_append]; simp; omega)]; omega)]
    simp [show ¬ l.length = i by omega]
theorem wcells_full {l : List Int} (h : l.length = 64) : wcells l = (l.map (Value.int .u32)).toArray := by simp [wcells, h]
end Go.Proofs.YtcokpdhhpaahgaaDoor.Sha

namespace Go.Proofs.YtcokpdhhpaahgaaDoor.Sha
open Go.RowKit
set_option linter.unusedVariables false

theorem info5 : (Tryd.prog.info? 5).map (fun i => (i.zero, i.size, i.bytes)) = some (some (.int .u8 0), 1, 1) := by kernel_rfl
def nums (zs : List Int) : List Value := zs.map (Value.int .u8)
theorem nums_one (zs : List Int) : ∀ u ∈ nums zs, u.oneCell' = true := by
  intro u hu
  obtain ⟨x, _, rfl⟩ := List.mem_map.1 hu
  rfl
theorem nums_len (zs : List Int) : (nums zs).length = zs.length := by simp [nums]
theorem nums_app (xs ys : List Int) : nums xs ++ nums ys = nums (xs ++ ys) := by simp [nums]
/-- v is a slice of n bytes, the numbers zs, in a row of the call's own (from block 'base' on), or nil. -/
def Own (w : World) (base : Nat) (v : Value) (n : Nat) (zs : List Int) : Prop := w.ownsRow base 5 1 v n (nums zs) ∧ Byt zs
theorem Own.len {w : World} {base : Nat} {v : Value} {n : Nat} {zs : List Int} (h : Own w base v n zs) : zs.length = n := by
  have := h.1.1
  rw [nums_len] at this; omega
theorem Own.form {w : World} {base : Nat} {v : Value} {n : Nat} {zs : List Int} (h : Own w base v n zs) : ∃ A c, v = .slice A n c ∧ n ≤ c ∧ Row w A n zs ∧ (∀ x, A = some x → base ≤ x.block ∧ x.block < w.heap.size) := by
  have hl := h.len
  rcases h.1.2 with ⟨rfl, rfl⟩ | ⟨g, cap, cur, rfl, hb, hg, hn, hm, hs, ht⟩
  · exact ⟨none, 0, rfl, Nat.le_refl _, ⟨hl, h.2, .inl rfl⟩, fun x hx => by cases hx⟩
  · have hlt : g < w.heap.size := (Array.getElem?_eq_some_iff.1 hg).1
    refine ⟨_, cap, rfl, hn, row_mk hl h.2 hlt (fun j hj => ?_), fun x hx => by cases hx; exact ⟨hb, hlt⟩⟩
    rw [cell_of_row w g (0 + j) cur 5 (0, 0) hg, Nat.zero_add]
    have e1 : cur[j]? = (cur.toList.take (n * 1))[j]? := by
      rw [List.getElem?_take, if_pos (by omega)]; simp
    rw [e1, ht]
    simp only [nums, List.getElem?_map, List.getD_eq_getElem?_getD]
    rw [List.getElem?_eq_getElem (by omega)]
    rfl
theorem own_nil (w : World) (base : Nat) : Own w base (.slice none 0 0) 0 [] := ⟨World.ownsRow_nil w base 5 1, fun n hn => by simp at hn⟩
theorem own_lit (w : World) (base : Nat) (zs : List Int) (hb : Byt zs) (n : Nat) (hn : zs.length = n) (hm : n ≤ maxLen) (hw : base ≤ w.heap.size) : Own (w.alloc (.cells (nums zs).toArray 5)) base (.slice (some ⟨w.heap.size, 0, none⟩) n n) n zs := by
  have := World.ownsRow_lit (base := base) (e := 5) (size := 1) w (nums zs).toArray n hw hm (by simp [nums_len, hn])
  simp only [] at this
  refine ⟨?_, hb⟩
  simpa using this
theorem Own.kept {w w' : World} {base : Nat} {v : Value} {n : Nat} {zs : List Int} (h : Own w base v n zs) (hb : Below w.heap.size w w') : Own w' base v n zs := by
  obtain ⟨⟨h1, h2⟩, h3⟩ := h
  refine ⟨⟨h1, ?_⟩, h3⟩
  rcases h2 with h2 | ⟨g, cap, cur, e1, e2, e3, e4⟩
  · exact .inl h2
  · exact .inr ⟨g, cap, cur, e1, e2, (hb.block g (Array.getElem?_eq_some_iff.1 e3).1).trans e3, e4⟩
theorem Own.lower {w : World} {base base' : Nat} {v : Value} {n : Nat} {zs : List Int} (h : Own w base v n zs) (hb : base' ≤ base) : Own w base' v n zs := by
  obtain ⟨⟨h1, h2⟩, h3⟩ := h
  refine ⟨⟨h1, ?_⟩, h3⟩
  rcases h2 with h2 | ⟨g, cap, cur, e1, e2, e3⟩
  · exact .inl h2
  · exact .inr ⟨g, cap, cur, e1, by omega, e3⟩
theorem Own.block {w : World} {base : Nat} {v : Value} {n : Nat} {zs : List Int} (h : Own w base v n zs) : ∀ k, v.ownBlock = some k → base ≤ k := fun k hk => (h.1.lt k hk).1

/-- A slice that reads as bytes, as append's and copy's laws want its cells. -/
theorem row_cells {w : World} {ad : Addr} {n : Nat} {zs : List Int} (h : Row w (some ad) n zs) : ∀ j u, (nums zs)[j]? = some u → w.cell? (ad.add j) = some u := by
  intro j u hu
  have hj : j < n := by
    have := (List.getElem?_eq_some_iff.1 hu).1
    rw [nums_len, h.1] at this; exact this
  obtain ⟨b, off, e, hw, hc⟩ := row_open h (by omega)
  cases e
  have hadd : (⟨b, off, none⟩ : Addr).add j = ⟨b, off + j, none⟩ := by unfold Addr.add; split <;> simp_all
  rw [hadd, hc j hj, ← hu]
  simp only [nums, List.getElem?_map, List.getD_eq_getElem?_getD]
  rw [List.getElem?_eq_getElem (by rw [h.1]; exact hj)]
  rfl

theorem runs_app (w : World) (base : Nat) (ty : TypeId) (v : Value) (n : Nat) (xs : List Int) (hown : Own w base v n xs) (A : Option Addr) (m c : Nat) (ys : List Int) (hr : Row w A m ys) (hc : A = none → m = 0)
    (h63 : n + m ≤ 1000000) (hbase : base ≤ w.heap.size) :
    ∃ v' w', (Builtin.append_ #[28, 28] ty #[v, .slice A m c]).run Tryd.prog w = .ok v' w' ∧ Own w' base v' (n + m) (xs ++ ys) ∧ w.grownBy w' v.ownBlock := by
  obtain ⟨i, hi, hz0, hz1, hz2⟩ := info_parts info5
  cases A with
  | none =>
    obtain rfl := hc rfl
    obtain rfl : ys = [] := List.eq_nil_of_length_eq_zero hr.1
    refine ⟨v, w, ?_, by simpa using hown, ⟨rfl, rfl, rfl, Nat.le_refl _, fun _ _ _ => rfl⟩⟩
    rcases hown.1.2 with ⟨rfl, rfl⟩ | ⟨g, cap, cur, rfl, _, _, hnc, _⟩
    · simp [Builtin.append_, run_underlying Tryd.underlying28, sizeOf, typeInfo, hi, Builtin.lenOf, Builtin.firstCells]
    · simp [Builtin.append_, run_underlying Tryd.underlying28, sizeOf, typeInfo, hi, Builtin.lenOf, Builtin.firstCells, hnc, storeCells]
  | some ad =>
    obtain ⟨v', w', h1, h2, h3, _⟩ := run_append_own_at (P := Tryd.prog) w base 28 ty 5 i (.int .u8 0) 1 1 Tryd.underlying28 hi hz0 hz1 hz2 rfl (by decide) v n (nums xs) hown.1 ad m c (nums ys) (by rw [nums_len, hr.1]; omega) (row_cells hr) (nums_one ys) (by unfold maxLen; omega) (by omega) hbase
    exact ⟨v', w', h1, ⟨by rw [← nums_app]; exact h2, byt_app hown.2 hr.2.1⟩, h3⟩

/-- out = append(out, xs...) -/
theorem wpList_app {w : World} {ops : Array Oper} {rest : List Oper} {o : Oper} {a : Act} {Q : Exit → Act → World → Prop} (hgd : o.guard = none) (s x : Operand)
    (ho : o.op = .call { callee := .builtin .append, args := #[s, x], argTypes := #[28, 28] })
    (base : Nat) (v : Value) (n : Nat) (xs : List Int) (hs : a.eval s = v) (hown : Own w base v n xs) (A : Option Addr) (m c : Nat) (ys : List Int) (hx : a.eval x = .slice A m c) (hr : Row w A m ys) (hc : A = none → m = 0)
    (h63 : n + m ≤ 1000000) (hbase : base ≤ w.heap.size)
    (h : ∀ v' w', Own w' base v' (n + m) (xs ++ ys) → w.grownBy w' v.ownBlock → wpList Tryd.prog ops Q rest (a.put o.dst v') w') : wpList Tryd.prog ops Q (o :: rest) a w := by
  refine wpList_plain hgd fun K hK => ?_
  obtain ⟨v', w', hrun, h2, h3⟩ := runs_app w base o.type v n xs hown A m c ys hr hc h63 hbase
  unfold Oper.wp execOp
  simp only [ho, resolve, invoke, builtin, Sem.run_bind, Sem.run_pure, Result.andThen_ok, List.map_toArray, List.map_cons, List.map_nil, hs, hx, hrun]
  exact hK _ _ (h v' w' h2 h3)

/-- copy(d, s), d a part of a block that is known whole. -/
theorem wpList_cp {w : World} {ops : Array Oper} {rest : List Oper} {o : Oper} {a : Act} {Q : Exit → Act → World → Prop} (hgd : o.guard = none) (d s : Operand)
    (ho : o.op = .call { callee := .builtin .copy, args := #[d, s], argTypes := #[28, 28] })
    (k : Nat) (g off dLen dCap : Nat) (hd : a.eval d = .slice (some ⟨g, off, none⟩) dLen dCap) (A : Option Addr) (m c : Nat) (hs : a.eval s = .slice A m c) (ys : List Int) (hr : Row w A m ys)
    (hk : Nat.min m dLen = k) (cur : Array Value) (t : TypeId) (hg : Has w g t cur) (hfit : off + k ≤ cur.size)
    (h : wpList Tryd.prog ops Q rest (a.put o.dst (goInt (k : Int))) (w.setRow g (cur.toList.take off ++ (nums (ys.take k) ++ cur.toList.drop (off + k))).toArray)) : wpList Tryd.prog ops Q (o :: rest) a w := by
  subst hk
  have hl : (ys.take (Nat.min m dLen)).length = Nat.min m dLen := by
    rw [List.length_take, hr.1]; exact Nat.min_eq_left (Nat.min_le_left _ _)
  by_cases h0 : Nat.min m dLen = 0
  · refine wpList_copy_nothing hgd d s 28 28 ho 5 Tryd.underlying28 (by kernel_rfl) (some ⟨g, off, none⟩) A dLen dCap m c hd hs h0 ?_
    rw [h0] at h
    have e : (cur.toList.take off ++ (nums (ys.take 0) ++ cur.toList.drop (off + 0))).toArray = cur := by simp [nums]
    rw [e, setRow_self w g cur t (0, 0) hg] at h
    exact h
  · have hm : Nat.min m dLen ≤ m := Nat.min_le_left _ _
    have hr2 := row_upto hr (Nat.min m dLen) hm
    obtain ⟨b, off2, rfl, _, _⟩ := row_open hr2 (by omega)
    refine wpList_copy_own hgd d s 28 28 ho 5 Tryd.underlying28 (by kernel_rfl) g off dLen dCap ⟨b, off2, none⟩ m c hd hs cur t hg (nums (ys.take (Nat.min m dLen))) (by rw [nums_len, hl]) (row_cells hr2) (by rw [nums_len, hl]; exact hfit) (nums_one _) ?_
    rw [nums_len, hl]
    exact h

/-- The same two as one step of a region that draws its order. -/
theorem step_cp {w : World} {ops : Array Oper} {o : Oper} {a : Act} {K : Act → World → Prop} {Q : Exit → Act → World → Prop} {E : Prop} (hgd : o.guard = none) (d s : Operand)
    (ho : o.op = .call { callee := .builtin .copy, args := #[d, s], argTypes := #[28, 28] })
    (k : Nat) (g off dLen dCap : Nat) (hd : a.eval d = .slice (some ⟨g, off, none⟩) dLen dCap) (A : Option Addr) (m c : Nat) (hs : a.eval s = .slice A m c) (ys : List Int) (hr : Row w A m ys)
    (hk : Nat.min m dLen = k) (cur : Array Value) (t : TypeId) (hg : Has w g t cur) (hfit : off + k ≤ cur.size)
    (h : K (a.put o.dst (goInt (k : Int))) (w.setRow g (cur.toList.take off ++ (nums (ys.take k) ++ cur.toList.drop (off + k))).toArray)) :
    if Region.wanted o (yielded ops a.tmps) = true then Oper.wp Tryd.prog o a w K Q else E := by
  have hw : Region.wanted o (yielded ops a.tmps) = true := by simp [Region.wanted, hgd]
  rw [if_pos hw]
  subst hk
  have hl : (ys.take (Nat.min m dLen)).length = Nat.min m dLen := by
    rw [List.length_take, hr.1]; exact Nat.min_eq_left (Nat.min_le_left _ _)
  by_cases h0 : Nat.min m dLen = 0
  · have hrun := run_copy_none (P := Tryd.prog) w 28 28 o.type 5 (some ⟨g, off, none⟩) A dLen dCap m c Tryd.underlying28 (by kernel_rfl) h0
    rw [h0] at h
    have e : (cur.toList.take off ++ (nums (ys.take 0) ++ cur.toList.drop (off + 0))).toArray = cur := by simp [nums]
    rw [e, setRow_self w g cur t (0, 0) hg] at h
    unfold Oper.wp
    simp [execOp, ho, resolve, invoke, builtin, hd, hs, hrun, Result.andThen]
    exact h
  · have hm : Nat.min m dLen ≤ m := Nat.min_le_left _ _
    have hr2 := row_upto hr (Nat.min m dLen) hm
    obtain ⟨b, off2, rfl, _, _⟩ := row_open hr2 (by omega)
    have hrun := run_copy_row (P := Tryd.prog) w 28 28 o.type 5 g off dLen dCap ⟨b, off2, none⟩ m c cur t (nums (ys.take (Nat.min m dLen))) Tryd.underlying28 (by kernel_rfl) hg (by rw [nums_len, hl]) (row_cells hr2) (by rw [nums_len, hl]; exact hfit) (nums_one _)
    rw [nums_len, hl] at hrun
    unfold Oper.wp
    simp [execOp, ho, resolve, invoke, builtin, hd, hs, hrun, Result.andThen]
    exact h
theorem step_app {w : World} {ops : Array Oper} {o : Oper} {a : Act} {K : Act → World → Prop} {Q : Exit → Act → World → Prop} {E : Prop} (hgd : o.guard = none) (s x : Operand)
    (ho : o.op = .call { callee := .builtin .append, args := #[s, x], argTypes := #[28, 28] })
    (base : Nat) (v : Value) (n : Nat) (xs : List Int) (hs : a.eval s = v) (hown : Own w base v n xs) (A : Option Addr) (m c : Nat) (ys : List Int) (hx : a.eval x = .slice A m c) (hr : Row w A m ys) (hc : A = none → m = 0)
    (h63 : n + m ≤ 1000000) (hbase : base ≤ w.heap.size)
    (h : ∀ v' w', Own w' base v' (n + m) (xs ++ ys) → w.grownBy w' v.ownBlock → K (a.put o.dst v') w') :
    if Region.wanted o (yielded ops a.tmps) = true then Oper.wp Tryd.prog o a w K Q else E := by
  have hw : Region.wanted o (yielded ops a.tmps) = true := by simp [Region.wanted, hgd]
  rw [if_pos hw]
  obtain ⟨v', w', hrun, h2, h3⟩ := runs_app w base o.type v n xs hown A m c ys hr hc h63 hbase
  unfold Oper.wp execOp
  simp only [ho, resolve, invoke, builtin, Sem.run_bind, Sem.run_pure, Result.andThen_ok, List.map_toArray, List.map_cons, List.map_nil, hs, hx, hrun]
  exact h v' w' h2 h3
end Go.Proofs.YtcokpdhhpaahgaaDoor.Sha

namespace Go.Proofs.YtcokpdhhpaahgaaDoor.Sha
open Go.RowKit
set_option linter.unusedVariables false

def SW (w wr : World) (l : List Int) : Prop :=
  Below w.heap.size w wr ∧ wr.heap.size = w.heap.size + 2 ∧ Has wr w.heap.size 123 (wcells []) ∧ Has wr (w.heap.size + 1) 123 (wcells l)
theorem SW.start (w : World) : SW w ((w.alloc (.cells (wcells []) 123)).alloc (.cells (wcells []) 123)) [] := by
  refine ⟨((Below.refl _ _).alloc (Nat.le_refl _) _).alloc (by simp) _, by simp, (has_new w 123 _).more _, ?_⟩
  have := has_new (w.alloc (.cells (wcells []) 123)) 123 (wcells [])
  simpa using this
theorem SW.step {w wr : World} {l : List Int} (h : SW w wr l) (hl : l.length < 64) (x : Int) (k : Nat) (hk : k = l.length) : SW w (wr.setCell ⟨w.heap.size + 1, k, none⟩ (.int .u32 x)) (l ++ [x]) := by
  subst hk
  obtain ⟨h1, h2, h3, h4⟩ := h
  refine ⟨h1.setCell (by simp) _, by simpa using h2, h3.by (by simp) _, ?_⟩
  have := h4.put l.length (.int .u32 x)
  rwa [wcells_put hl] at this
theorem SW.drew {w wr : World} {l : List Int} (h : SW w wr l) : SW w wr.drew l := ⟨h.1.drew, h.2.1, h.2.2.1, h.2.2.2⟩
theorem SW.cell {w wr : World} {l : List Int} (h : SW w wr l) (hl : l.length ≤ 64) (i : Nat) (hi : i < 64) : wr.cell? ⟨w.heap.size + 1, i, none⟩ = some (.int .u32 (l.getD i 0)) := by
  rw [h.2.2.2.at, wcells_at hl hi]

theorem sched_low (zs : List Int) (k : Nat) (h : k < 16) : sched zs (k + 1) = sched zs k ++ [bigI (zs.drop (k * 4))] := by
  simp only [sched, next, sched_len, h, if_true, Nat.mul_comm 4 k]
theorem add_three (a b c d : Int) : add32 (add32 (add32 a b) c) d = (a + b + c + d) % 4294967296 := by unfold add32; omega
theorem sched_high (zs : List Int) (k : Nat) (h : 16 ≤ k) : sched zs (k + 1) = sched zs k ++ [((sched zs k)[k - 16]?.getD 0 + spreadLow ((sched zs k)[k - 15]?.getD 0) + (sched zs k)[k - 7]?.getD 0 + spreadHigh ((sched zs k)[k - 2]?.getD 0)) % 4294967296] := by
  rw [← add_three]
  simp only [sched, next, sched_len, if_neg (show ¬ k < 16 by omega), List.getD_eq_getElem?_getD]
theorem minus (k m : Nat) (q : Int) (hq : q = (m : Int)) (h : m ≤ k) (h2 : k < 64) : IntKind.i64.wrap ((k : Int) - q) = (k : Int) - q ∧ ((k : Int) - q).toNat = k - m ∧ (0 : Int) ≤ (k : Int) - q ∧ (k : Int) - q < 64 := by
  subst hq
  refine ⟨?_, by omega, by omega, by omega⟩
  rw [IntKind.wrap_i64]; omega
theorem all_words (l : List Int) : (wcells l).all (·.oneCell') = true := by
  rw [Array.all_eq_true_iff_forall_mem]
  intro v hv
  simp only [wcells, List.mem_toArray, List.mem_map] at hv
  obtain ⟨x, _, rfl⟩ := hv
  rfl
theorem size61 {l : List Int} (h : l.length ≤ 64) : (Tryd.prog.info? 123).map (·.size) = some (wcells l).size := by
  rw [wcells_size h]; kernel_rfl
theorem still_of {P : Program} {f : FuncId} {args : Array Value} {w : World} {v : Value} (h : Calls P f args w fun e w' => e = .returned v ∧ w = w') : Calls P f args w (fun e w'' => e = .returned v ∧ w'' = w) :=
  h.mono fun _ _ ⟨h1, h2⟩ => ⟨h1, h2.symm⟩

end Go.Proofs.YtcokpdhhpaahgaaDoor.Sha

namespace Go.Proofs.YtcokpdhhpaahgaaDoor.Sha
open Go.RowKit
set_option linter.unusedVariables false

/-- The package's two tables, as they were laid. -/
def Tabs (w : World) : Prop := 1 < w.heap.size ∧ (∀ i, i < 64 → w.cell? ⟨1, i, none⟩ = some (.int .u32 (kI i))) ∧
  w.cell? ⟨0, 0, none⟩ = some (.int .u32 st0.a) ∧ w.cell? ⟨0, 1, none⟩ = some (.int .u32 st0.b) ∧ w.cell? ⟨0, 2, none⟩ = some (.int .u32 st0.c) ∧ w.cell? ⟨0, 3, none⟩ = some (.int .u32 st0.d) ∧
  w.cell? ⟨0, 4, none⟩ = some (.int .u32 st0.e) ∧ w.cell? ⟨0, 5, none⟩ = some (.int .u32 st0.f) ∧ w.cell? ⟨0, 6, none⟩ = some (.int .u32 st0.g) ∧ w.cell? ⟨0, 7, none⟩ = some (.int .u32 st0.h)
theorem Tabs.below {w w' : World} {B : Nat} (h : Tabs w) (hb : Below B w w') (hB : 1 < B) : Tabs w' := by
  obtain ⟨h0, h1, h2⟩ := h
  have c : ∀ j, w'.cell? ⟨0, j, none⟩ = w.cell? ⟨0, j, none⟩ := fun j => hb.cell (p := ⟨0, j, none⟩) (by show 0 < B; omega)
  refine ⟨Nat.lt_of_lt_of_le h0 hb.size, fun i hi => (hb.cell (p := ⟨1, i, none⟩) (by show 1 < B; omega)).trans (h1 i hi), ?_⟩
  simp only [c]
  exact h2
theorem Tabs.kept {w w' : World} (h : Tabs w) (hb : Below w.heap.size w w') : Tabs w' := h.below hb h.1

/-- The cells of eight words. -/
def stCells (s : St) : Array Value := #[.int .u32 s.a, .int .u32 s.b, .int .u32 s.c, .int .u32 s.d, .int .u32 s.e, .int .u32 s.f, .int .u32 s.g, .int .u32 s.h]
theorem run_index_word (k : Nat) (cs : Array Value) (v : Value) (hk : k < 64) (h : cs[k]? = some v) (w : World) : (Instr.index 123 (.agg cs) (.int .i64 (k : Int))).run Tryd.prog w = .ok v w := by
  have hi : Tryd.prog.info? 106 = some (Tryd.prog.info? 106).get! := by kernel_rfl
  simp [Instr.index, run_underlying Tryd.underlying123, asIntOf, hk, go_sem, h]

theorem st_all (t : St) : (stCells t).all (·.oneCell') = true := by simp [stCells, Value.oneCell']
theorem size45 : (Tryd.prog.info? 107).map (·.size) = some 8 := by kernel_rfl
def zeroSt : St := ⟨0, 0, 0, 0, 0, 0, 0, 0⟩
def FW (s : St) (w wr : World) : Prop := Below w.heap.size w wr ∧ Has wr w.heap.size 107 (stCells s) ∧ Has wr (w.heap.size + 1) 107 (stCells zeroSt)
theorem FW.start (s : St) (w w1 : World) (h : Below ((w.alloc (.cells (stCells s) 107)).alloc (.cells (stCells zeroSt) 107)).drew.drew.heap.size ((w.alloc (.cells (stCells s) 107)).alloc (.cells (stCells zeroSt) 107)).drew.drew w1) : FW s w w1 := by
  have h1 : Below w.heap.size w ((w.alloc (.cells (stCells s) 107)).alloc (.cells (stCells zeroSt) 107)).drew.drew := ((((Below.refl _ _).alloc (Nat.le_refl _) _).alloc (by simp) _).drew).drew
  have h2 : Has ((w.alloc (.cells (stCells s) 107)).alloc (.cells (stCells zeroSt) 107)).drew.drew w.heap.size 107 (stCells s) := (has_new w 107 _).more _
  have h3 : Has ((w.alloc (.cells (stCells s) 107)).alloc (.cells (stCells zeroSt) 107)).drew.drew (w.heap.size + 1) 107 (stCells zeroSt) := by
    have := has_new (w.alloc (.cells (stCells s) 107)) 107 (stCells zeroSt)
    rw [World.size_alloc] at this
    exact this
  exact ⟨h1.trans (h.mono h1.size), h2.kept h, h3.kept h⟩
def AtRound (t : St) (a b c d e f g h : Value) : Prop := a = .int .u32 t.a ∧ b = .int .u32 t.b ∧ c = .int .u32 t.c ∧ d = .int .u32 t.d ∧ e = .int .u32 t.e ∧ f = .int .u32 t.f ∧ g = .int .u32 t.g ∧ h = .int .u32 t.h

end Go.Proofs.YtcokpdhhpaahgaaDoor.Sha

namespace Go.Proofs.YtcokpdhhpaahgaaDoor.Sha
open Go.RowKit
set_option linter.unusedVariables false

set_option maxRecDepth 100000 in
theorem consts_any (w : World) : Calls Tryd.prog 91 #[] w fun e w' => e = .returned (.slice (some ⟨w.heap.size, 0, none⟩) 64 64) ∧ w.alloc (.cells (constL.map (Value.int .u32)).toArray 106) = w' := by
  go_enter Tryd.func91, Tryd.ntmps91
  go_wp2
  go_ret
  exact ⟨rfl, rfl⟩

def BW (h : St) (l : List Int) (w wr : World) : Prop :=
  Below w.heap.size w wr ∧ wr.heap.size = w.heap.size + 1 + 1 + 1 + 1 ∧ Has wr w.heap.size 107 (stCells h) ∧ Has wr (w.heap.size + 1) 107 (stCells zeroSt) ∧
  Has wr (w.heap.size + 1 + 1) 106 (constL.map (Value.int .u32)).toArray ∧ Has wr (w.heap.size + 1 + 1 + 1) 123 (wcells l)
theorem BW.drew {h : St} {l : List Int} {w wr : World} (k : BW h l w wr) : BW h l w wr.drew := ⟨k.1.drew, k.2⟩
theorem BW.step {h : St} {l : List Int} {w wr : World} (q : BW h l w wr) (hl : l.length < 64) (x : Int) (k : Nat) (hk : k = l.length) : BW h (l ++ [x]) w (wr.setCell ⟨w.heap.size + 1 + 1 + 1, k, none⟩ (.int .u32 x)) := by
  subst hk
  obtain ⟨h1, h2, h3, h4, h5, h6⟩ := q
  refine ⟨h1.setCell (by show w.heap.size ≤ w.heap.size + 1 + 1 + 1; omega) _, by simpa using h2, h3.by (by show w.heap.size ≠ w.heap.size + 1 + 1 + 1; omega) _, h4.by (by show w.heap.size + 1 ≠ w.heap.size + 1 + 1 + 1; omega) _, h5.by (by simp) _, ?_⟩
  have := h6.put l.length (.int .u32 x)
  rwa [wcells_put hl] at this
theorem BW.cell {h : St} {l : List Int} {w wr : World} (q : BW h l w wr) (hl : l.length ≤ 64) (i : Nat) (hi : i < 64) : wr.cell? ⟨w.heap.size + 1 + 1 + 1, i, none⟩ = some (.int .u32 (l.getD i 0)) := by
  rw [q.2.2.2.2.2.at, wcells_at hl hi]
theorem BW.start (h : St) (w : World) : BW h [] w ((((w.alloc (.cells (stCells h) 107)).alloc (.cells (stCells zeroSt) 107)).alloc (.cells (constL.map (Value.int .u32)).toArray 106)).alloc (.cells (wcells []) 123)) := by
  have n1 := has_new (w.alloc (.cells (stCells h) 107)) 107 (stCells zeroSt)
  have n2 := has_new ((w.alloc (.cells (stCells h) 107)).alloc (.cells (stCells zeroSt) 107)) 106 (constL.map (Value.int .u32)).toArray
  have n3 := has_new (((w.alloc (.cells (stCells h) 107)).alloc (.cells (stCells zeroSt) 107)).alloc (.cells (constL.map (Value.int .u32)).toArray 106)) 123 (wcells [])
  simp only [World.size_alloc] at n1 n2 n3
  exact ⟨((((Below.refl _ _).alloc (Nat.le_refl _) _).alloc (by simp) _).alloc (by simp; omega) _).alloc (by simp; omega) _, by simp, (((has_new w 107 _).more _).more _).more _, (n1.more _).more _, n2.more _, n3⟩

/-- The document's own spelling of a round. -/
def refOne (k w : Int) (t : St) : Int := add32 (add32 (add32 (add32 t.h (mixHigh t.e)) (xor32 (and32 t.e t.f) (and32 (bits .xor .u32 t.e 4294967295) t.g))) k) w
def refRnd (k w : Int) (t : St) : St := ⟨add32 (refOne k w t) (two t), t.a, t.b, t.c, add32 t.d (refOne k w t), t.e, t.f, t.g⟩
theorem refRnd_eq (k w : Int) (t : St) : refRnd k w t = rnd k w t := by simp only [refRnd, refOne, not32_ref]; rfl
theorem one_form (k w : Int) (t : St) : IntKind.u32.wrap (IntKind.u32.wrap (IntKind.u32.wrap (IntKind.u32.wrap (t.h + bits .xor .u32 (bits .xor .u32 (rotI t.e 6) (rotI t.e 11)) (rotI t.e 25)) + bits .xor .u32 (bits .and .u32 t.e t.f) (bits .and .u32 (bits .xor .u32 t.e 4294967295) t.g)) + k) + w) = refOne k w t := by
  simp only [IntKind.wrap_u32']; rfl
theorem two_form (t : St) : IntKind.u32.wrap (bits .xor .u32 (bits .xor .u32 (rotI t.a 2) (rotI t.a 13)) (rotI t.a 22) + bits .xor .u32 (bits .xor .u32 (bits .and .u32 t.a t.b) (bits .and .u32 t.a t.c)) (bits .and .u32 t.b t.c)) = two t := by
  simp only [IntKind.wrap_u32']; rfl
def CW (h t : St) (l : List Int) (M : Nat) (w wq : World) : Prop :=
  Below w.heap.size w wq ∧ Has wq w.heap.size 107 (stCells h) ∧ Has wq (w.heap.size + 1) 107 (stCells zeroSt) ∧
  Has wq (w.heap.size + 1 + 1) 106 (constL.map (Value.int .u32)).toArray ∧ Has wq (w.heap.size + 1 + 1 + 1) 123 (wcells l) ∧ Has wq M 107 (stCells t) ∧ M = w.heap.size + 1 + 1 + 1 + 1
theorem CW.drew {h t : St} {l : List Int} {M : Nat} {w wq : World} (q : CW h t l M w wq) : CW h t l M w wq.drew := ⟨q.1.drew, q.2⟩
theorem CW.start {h : St} {l : List Int} {w wr : World} (q : BW h l w wr) : CW h h l wr.heap.size w (wr.alloc (.cells (stCells h) 107)) := by
  obtain ⟨h1, h2, h3, h4, h5, h6⟩ := q
  exact ⟨h1.alloc h1.size _, h3.more _, h4.more _, h5.more _, h6.more _, has_new wr 107 _, h2⟩
theorem CW.step {h t : St} {l : List Int} {M : Nat} {w wq : World} (q : CW h t l M w wq) (t' : St) : CW h t' l M w (wq.setRow M (stCells t')) := by
  obtain ⟨h1, h2, h3, h4, h5, h6, h7⟩ := q
  have o : ∀ g, g ≠ M → (wq.setRow M (stCells t')).heap[g]? = wq.heap[g]? := fun g hg => setRow_other wq M g _ hg
  exact ⟨below_setRow h1 (by omega) _, (o _ (by omega)).trans h2, (o _ (by omega)).trans h3, (o _ (by omega)).trans h4, (o _ (by omega)).trans h5, setRow_heap _ _ _ _ _ _ h6, h7⟩
def St.get (s : St) (j : Nat) : Int := [s.a, s.b, s.c, s.d, s.e, s.f, s.g, s.h].getD j 0
theorem eight_cases {P : Nat → Prop} (h0 : P 0) (h1 : P 1) (h2 : P 2) (h3 : P 3) (h4 : P 4) (h5 : P 5) (h6 : P 6) (h7 : P 7) : ∀ j, j < 8 → P j := by
  intro j hj
  rcases (by omega : j = 0 ∨ j = 1 ∨ j = 2 ∨ j = 3 ∨ j = 4 ∨ j = 5 ∨ j = 6 ∨ j = 7) with rfl | rfl | rfl | rfl | rfl | rfl | rfl | rfl <;> assumption
theorem st_at (t : St) : ∀ j, j < 8 → (stCells t)[j]? = some (.int .u32 (t.get j)) := eight_cases rfl rfl rfl rfl rfl rfl rfl rfl
def DW (h t : St) (k M : Nat) (w wq : World) : Prop :=
  Below w.heap.size w wq ∧ Has wq (w.heap.size + 1) 107 (stCells zeroSt) ∧ Has wq M 107 (stCells t) ∧ w.heap.size + 1 < M ∧
  ∃ cs : Array Value, Has wq w.heap.size 107 cs ∧ cs.size = 8 ∧ ∀ j, j < 8 → cs[j]? = some (.int .u32 (if j < k then add32 (h.get j) (t.get j) else h.get j))
theorem DW.drew {h t : St} {k M : Nat} {w wq : World} (q : DW h t k M w wq) : DW h t k M w wq.drew := ⟨q.1.drew, q.2⟩
theorem DW.start {h t : St} {l : List Int} {M : Nat} {w wq : World} (q : CW h t l M w wq) : DW h t 0 M w wq := by
  obtain ⟨h1, h2, h3, h4, h5, h6, h7⟩ := q
  exact ⟨h1, h3, h6, by omega, _, h2, rfl, fun j hj => by rw [st_at h j hj]; simp⟩
theorem DW.one {h t : St} {k M : Nat} {w wq : World} (q : DW h t k M w wq) (hk : k < 8) : wq.cell? ⟨w.heap.size, k, none⟩ = some (.int .u32 (h.get k)) ∧ wq.frozen? ⟨w.heap.size, k, none⟩ = false ∧ wq.cell? ⟨M, k, none⟩ = some (.int .u32 (t.get k)) := by
  obtain ⟨h1, h2, h3, h4, cs, h5, h6, h7⟩ := q
  exact ⟨by rw [h5.at, h7 k hk]; simp, h5.soft k, by rw [h3.at, st_at t k hk]⟩
theorem DW.step {h t : St} {k M : Nat} {w wq : World} (q : DW h t k M w wq) (hk : k < 8) : DW h t (k + 1) M w (wq.setCell ⟨w.heap.size, k, none⟩ (.int .u32 (add32 (h.get k) (t.get k)))) := by
  obtain ⟨h1, h2, h3, h4, cs, h5, h6, h7⟩ := q
  refine ⟨h1.setCell (Nat.le_refl _) _, h2.by (by simp) _, h3.by (by show M ≠ w.heap.size; omega) _, h4, _, h5.put k _, by simpa using h6, fun j hj => ?_⟩
  rw [Array.getElem?_setIfInBounds]
  by_cases e : k = j
  · subst e
    simp [h6, hk]
  · rw [if_neg e, h7 j hj]
    by_cases hjk : j < k
    · rw [if_pos hjk, if_pos (by omega)]
    · rw [if_neg hjk, if_neg (by omega)]
theorem DW.end_ {h t : St} {M : Nat} {w wq : World} (q : DW h t 8 M w wq) : Below w.heap.size w wq ∧ Has wq (w.heap.size + 1) 107 (stCells zeroSt) ∧ Has wq w.heap.size 107 (stCells (sumSt h t)) := by
  obtain ⟨h1, h2, h3, h4, cs, h5, h6, h7⟩ := q
  refine ⟨h1, h2, ?_⟩
  have : cs = stCells (sumSt h t) := by
    apply Array.ext_getElem?
    intro j
    by_cases hj : j < 8
    · rw [h7 j hj, if_pos hj, st_at _ j hj]
      exact eight_cases (P := fun j => some (Value.int .u32 (add32 (h.get j) (t.get j))) = some (.int .u32 ((sumSt h t).get j))) rfl rfl rfl rfl rfl rfl rfl rfl j hj
    · rw [Array.getElem?_eq_none (by omega), Array.getElem?_eq_none (by show 8 ≤ j; omega)]
  rw [← this]
  exact h5
theorem const_at (k : Nat) : (constL.map (Value.int .u32)).toArray[k]? = (constL[k]?).map (Value.int .u32) := by simp
theorem const_get (k : Nat) (h : k < 64) : (constL.map (Value.int .u32)).toArray[k]? = some (.int .u32 (kI k)) := by
  rw [const_at, kI, List.getD_eq_getElem?_getD, List.getElem?_eq_getElem (show k < constL.length from h)]; rfl

set_option maxRecDepth 100000 in
set_option maxHeartbeats 2000000 in
theorem block_any (s : St) (b off cap : Nat) (zs : List Int) (w : World) (hs : s.Ok) (hcap : 64 ≤ cap) (hr : Row w (some ⟨b, off, none⟩) 64 zs) :
    Calls Tryd.prog 83 #[.agg (stCells s), .slice (some ⟨b, off, none⟩) 64 cap] w fun e w' => e = .returned (.agg (stCells (foldI s zs))) ∧ Below w.heap.size w w' := by
  unfold stCells
  go_enter Tryd.func83, Tryd.ntmps83
  go_wp2_with (go_at_call 91; refine (consts_any _).mono ?_; rintro e w1 ⟨rfl, rfl⟩)
  go_loopw [7] (fun i wr => ∃ k : Nat, k ≤ 64 ∧ i = .int .i64 k ∧ BW s (sched zs k) w wr) (fun i _ => 64 - (intOf i).toNat)
  case atStart => exact ⟨0, by omega, rfl, BW.start s w⟩
  case round =>
    obtain ⟨k, hk, rfl, hsw⟩ := hrel
    by_cases hlt : k < 64
    · have hl := Lib.hid (sched_len zs k)
      have hc := hsw.cell (by have := hl.out; omega) k (by omega)
      have hf := hsw.2.2.2.2.2.soft k
      have ik : (k : Int) < 64 := by omega
      by_cases hlow : k < 16
      · have hr1 := row_from (row_below hsw.1 hr) (4 * k) (by omega)
        go_wp2_with ((go_at_call 92; (with_reducible refine (rbig_any _ _ _ _ _ hr1).mono ?_); rintro e w1 ⟨rfl, rfl⟩))
        go_roundw
        case rel =>
          refine ⟨k + 1, by omega, by go_num, ?_⟩
          have := hsw.step (by have := hl.out; omega) (bigI (zs.drop (4 * k))) k hl.out.symm
          rw [Nat.mul_comm 4 k, ← sched_low zs k hlow] at this
          rw [Nat.mul_comm 4 k]
          exact this
        case measure => simp [intOf]; omega
      · have hc16 := hsw.cell (by have := hl.out; omega) (k - 16) (by omega)
        have hc15 := hsw.cell (by have := hl.out; omega) (k - 15) (by omega)
        have hc7 := hsw.cell (by have := hl.out; omega) (k - 7) (by omega)
        have hc2 := hsw.cell (by have := hl.out; omega) (k - 2) (by omega)
        have w15 := wds_at (sched_wd hr.2.1 k) (k - 15)
        have w2 := wds_at (sched_wd hr.2.1 k) (k - 2)
        obtain ⟨e16, t16, p16, q16⟩ := minus k 16 16 rfl (by omega) hlt
        obtain ⟨e15, t15, p15, q15⟩ := minus k 15 15 rfl (by omega) hlt
        obtain ⟨e7, t7, p7, q7⟩ := minus k 7 7 rfl (by omega) hlt
        obtain ⟨e2, t2, p2, q2⟩ := minus k 2 2 rfl (by omega) hlt
        have i16 : (16 : Int) ≤ (k : Int) := by omega
        have i15 : (15 : Int) ≤ (k : Int) := by omega
        have i7 : (7 : Int) ≤ (k : Int) := by omega
        have i2 : (2 : Int) ≤ (k : Int) := by omega
        go_wp2_with fail
        refine wp_region_still_tail 29 (by kernel_rfl) (by kernel_rfl) ?_
        simp only [World.drew_eq]
        simp only [List.take_succ_cons, List.take_zero, List.drop_succ_cons, List.drop_zero]
        repeat still_step
        still_call (still_of (rright_any _ _ _ w15))
        repeat still_step
        still_call (still_of (rright_any _ _ _ w15))
        repeat still_step
        still_call (still_of (rright_any _ _ _ w2))
        repeat still_step
        still_call (still_of (rright_any _ _ _ w2))
        repeat still_step
        refine wpStill_nil ?_
        clear e16 t16 p16 q16 e15 t15 p15 q15 e7 t7 p7 q7 e2 t2 p2 q2
        go_wp2
        go_roundw
        case rel =>
          refine ⟨k + 1, by omega, by go_num, ?_⟩
          have := hsw.drew.step (by have := hl.out; omega) (((sched zs k)[k - 16]?.getD 0 + spreadLow ((sched zs k)[k - 15]?.getD 0) + (sched zs k)[k - 7]?.getD 0 + spreadHigh ((sched zs k)[k - 2]?.getD 0)) % 4294967296) k hl.out.symm
          rw [← sched_high zs k (by omega)] at this
          exact this
        case measure => simp [intOf]; omega
    · have h64 : k = 64 := by omega
      have hd : decide ((k : Int) < 64) = false := by simp; omega
      rw [h64] at hsw
      clear h64
      obtain ⟨wa, rfl⟩ : ∃ x, x = wr := ⟨_, rfl⟩
      have c0 : wa.cell? ⟨w.heap.size, 0, none⟩ = some (.int .u32 s.a) := hsw.2.2.1.at 0
      have c1 : wa.cell? ⟨w.heap.size, 1, none⟩ = some (.int .u32 s.b) := hsw.2.2.1.at 1
      have c2 : wa.cell? ⟨w.heap.size, 2, none⟩ = some (.int .u32 s.c) := hsw.2.2.1.at 2
      have c3 : wa.cell? ⟨w.heap.size, 3, none⟩ = some (.int .u32 s.d) := hsw.2.2.1.at 3
      have c4 : wa.cell? ⟨w.heap.size, 4, none⟩ = some (.int .u32 s.e) := hsw.2.2.1.at 4
      have c5 : wa.cell? ⟨w.heap.size, 5, none⟩ = some (.int .u32 s.f) := hsw.2.2.1.at 5
      have c6 : wa.cell? ⟨w.heap.size, 6, none⟩ = some (.int .u32 s.g) := hsw.2.2.1.at 6
      have c7 : wa.cell? ⟨w.heap.size, 7, none⟩ = some (.int .u32 s.h) := hsw.2.2.1.at 7
      have hcw := CW.start hsw
      have hlen := Lib.hid (sched_len zs 64)
      have hwd := sched_wd hr.2.1 64
      have hend := Lib.hid (show foldI s zs = sumSt s (rounds (sched zs 64) s 64) from rfl)
      generalize sched zs 64 = ws at *
      go_wp2_with fail
      clear c0 c1 c2 c3 c4 c5 c6 c7
      go_loopw [11] (fun i wr => ∃ k : Nat, k ≤ 64 ∧ i = .int .i64 k ∧ CW s (rounds ws s k) ws wa.heap.size w wr) (fun i _ => 64 - (intOf i).toNat)
      case atStart => exact ⟨0, by omega, rfl, hcw⟩
      case round =>
        clear hcw hk hlt hsw
        rename_i k0 _ _ _
        obtain ⟨k, hk, rfl, hcw⟩ := hrel
        by_cases hlt : k < 64
        · have tok := rounds_ok hs ws k
          have hnx := Lib.hid (show rounds ws s (k + 1) = rnd (kI k) (ws.getD k 0) (rounds ws s k) from rfl)
          generalize rounds ws s k = t at *
          obtain ⟨oa, ob, oc, od, oe, of, og, oh⟩ := tok
          have d0 : wr.cell? ⟨wa.heap.size, 0, none⟩ = some (.int .u32 t.a) := hcw.2.2.2.2.2.1.at 0
          have d1 : wr.cell? ⟨wa.heap.size, 1, none⟩ = some (.int .u32 t.b) := hcw.2.2.2.2.2.1.at 1
          have d2 : wr.cell? ⟨wa.heap.size, 2, none⟩ = some (.int .u32 t.c) := hcw.2.2.2.2.2.1.at 2
          have d3 : wr.cell? ⟨wa.heap.size, 3, none⟩ = some (.int .u32 t.d) := hcw.2.2.2.2.2.1.at 3
          have d4 : wr.cell? ⟨wa.heap.size, 4, none⟩ = some (.int .u32 t.e) := hcw.2.2.2.2.2.1.at 4
          have d5 : wr.cell? ⟨wa.heap.size, 5, none⟩ = some (.int .u32 t.f) := hcw.2.2.2.2.2.1.at 5
          have d6 : wr.cell? ⟨wa.heap.size, 6, none⟩ = some (.int .u32 t.g) := hcw.2.2.2.2.2.1.at 6
          have d7 : wr.cell? ⟨wa.heap.size, 7, none⟩ = some (.int .u32 t.h) := hcw.2.2.2.2.2.1.at 7
          have dk : wr.cell? ⟨w.heap.size + 1 + 1, k, none⟩ = some (.int .u32 (kI k)) := (hcw.2.2.2.1.at k).trans (const_get k hlt)
          have dw : wr.cell? ⟨w.heap.size + 1 + 1 + 1, k, none⟩ = some (.int .u32 (ws.getD k 0)) := (hcw.2.2.2.2.1.at k).trans (wcells_at (by have := hlen.out; omega) hlt)
          have ik : (k : Int) < 64 := by omega
          have ik0 : (0 : Int) ≤ (k : Int) := by omega
          go_wp2_with fail
          refine wp_region_still_lit (by kernel_rfl) (by kernel_rfl) ?_
          simp only [World.drew_eq]
          repeat still_step
          still_call (still_of (rright_any _ _ _ oe))
          repeat still_step
          still_call (still_of (rright_any _ _ _ oe))
          repeat still_step
          still_call (still_of (rright_any _ _ _ oe))
          repeat still_step
          refine wpStill_nil ?_
          go_wp2_with fail
          refine wp_region_still_lit (by kernel_rfl) (by kernel_rfl) ?_
          simp only [World.drew_eq]
          repeat still_step
          still_call (still_of (rright_any _ _ _ oa))
          repeat still_step
          still_call (still_of (rright_any _ _ _ oa))
          repeat still_step
          still_call (still_of (rright_any _ _ _ oa))
          repeat still_step
          refine wpStill_nil ?_
          rw [one_form, two_form]
          have hz := Lib.hid (show refRnd (kI k) (ws.getD k 0) t = ⟨add32 (refOne (kI k) (ws[k]?.getD 0) t) (two t), t.a, t.b, t.c, add32 t.d (refOne (kI k) (ws[k]?.getD 0) t), t.e, t.f, t.g⟩ from rfl)
          generalize refOne (kI k) (ws[k]?.getD 0) t = x1 at *
          generalize two t = x2 at *
          go_wp2_with (refine wpList_store_row rfl 107 _ _ rfl wa.heap.size (stCells ⟨add32 x1 x2, t.a, t.b, t.c, add32 t.d x1, t.e, t.f, t.g⟩) rfl rfl 107 _ hcw.2.2.2.2.2.1 size45 rfl (st_all _) ?_)
          go_roundw
          case rel =>
            refine ⟨k + 1, by omega, by go_num, ?_⟩
            rw [hnx.out, ← refRnd_eq, hz.out]
            exact hcw.drew.drew.step _
          case measure => simp [intOf]; omega
        · have h64 : k = 64 := by omega
          have hd2 : decide ((k : Int) < 64) = false := by simp; omega
          rw [h64] at hcw
          clear h64
          have hdw := DW.start hcw
          clear hcw
          generalize rounds ws s 64 = t at *
          go_wp2_with fail
          go_loopw [16] (fun i wr => ∃ k : Nat, k ≤ 8 ∧ i = .int .i64 k ∧ DW s t k wa.heap.size w wr) (fun i _ => 8 - (intOf i).toNat)
          case atStart => exact ⟨0, by omega, rfl, hdw⟩
          case round =>
            clear hdw hk hlt
            rename_i k1 _ _ _
            obtain ⟨k, hk, rfl, hdw⟩ := hrel
            by_cases hlt : k < 8
            · obtain ⟨d1, d2, d3⟩ := hdw.one hlt
              have ik : (k : Int) < 8 := by omega
              have ik0 : (0 : Int) ≤ (k : Int) := by omega
              go_wp2_with fail
              refine wp_region_still_tail 9 (by kernel_rfl) (by kernel_rfl) ?_
              simp only [World.drew_eq]
              simp only [List.take_succ_cons, List.take_zero, List.drop_succ_cons, List.drop_zero]
              repeat still_step
              refine wpStill_nil ?_
              go_wp2
              go_roundw
              case rel => exact ⟨k + 1, by omega, by go_num, hdw.drew.step hlt⟩
              case measure => simp [intOf]; omega
            · have h8 : k = 8 := by omega
              rw [h8] at hdw
              clear h8
              obtain ⟨z1, z2, z3⟩ := hdw.end_
              clear hdw
              rw [← hend.out] at z3
              go_wp2_with (first
                | (refine wpList_load_row rfl 107 _ rfl w.heap.size rfl 107 _ (0, 0) _ z3 Tryd.underlying107 rfl size45 ?_)
                | (refine wpList_store_row rfl 107 _ _ rfl (w.heap.size + 1) (stCells (foldI s zs)) rfl rfl 107 _ z2 size45 rfl (st_all _) ?_))
              refine bodyPost_ret (results_cell_row rfl _ _ (w.heap.size + 1) 107 (stCells (foldI s zs)) (0, 0) _ rfl (setRow_heap _ _ _ _ _ _ z2) Tryd.underlying107 rfl size45) rfl ⟨rfl, below_setRow z1 (by omega) _⟩
end Go.Proofs.YtcokpdhhpaahgaaDoor.Sha

namespace Go.Proofs.YtcokpdhhpaahgaaDoor.Sha
open Go.RowKit
set_option linter.unusedVariables false

/-- The call hands back n bytes, the numbers zs, in a row of its own; nothing that was there has turned. -/
def Gives (n : Nat) (zs : List Int) (w : World) (e : Ending) (w' : World) : Prop := ∃ v, e = .returned v ∧ Own w' w.heap.size v n zs ∧ Below w.heap.size w w'
def U64 (x : Int) : Prop := 0 ≤ x ∧ x < 18446744073709551616
theorem u64_hi {x : Int} (h : U64 x) : 0 ≤ x / 4294967296 ∧ x / 4294967296 ≤ 4294967295 := by unfold U64 at h; omega
theorem u64_lo (x : Int) : 0 ≤ x % 4294967296 ∧ x % 4294967296 ≤ 4294967295 := by omega

theorem row_lit4 (w : World) (x : Int) (hx : 0 ≤ x ∧ x ≤ 4294967295) : Row (w.alloc (.cells ((bytes4 x).map (Value.int .u8)).toArray 5)) (some ⟨w.heap.size, 0, none⟩) 4 (bytes4 x) := by
  obtain ⟨A, c, e, _, hr, _⟩ := (own_lit w 0 (bytes4 x) (bytes4_bd hx) 4 rfl (by unfold maxLen; omega) (Nat.zero_le _)).form
  cases e
  exact hr

theorem mask_lo {x : Int} (h : U64 x) : bits .and .u64 x 4294967295 = x % 4294967296 := by
  unfold U64 at h
  rw [u64_and _ _ (by omega) (by omega) (by omega) (by omega)]
  show (((x.toNat &&& 4294967295 : Nat)) : Int) = _
  have := Nat.and_two_pow_sub_one_eq_mod x.toNat 32
  rw [show (4294967295 : Nat) = 2 ^ 32 - 1 from rfl, this]
  omega
theorem zeros_is (n : Nat) (h : n < 2305843009213693952) : (55 - (n : Int)) % 18446744073709551616 % 64 = (zerosOf n : Int) := by unfold zerosOf; omega
theorem two_lits (w : World) (x y : Int) (hx : 0 ≤ x ∧ x ≤ 4294967295) (hy : 0 ≤ y ∧ y ≤ 4294967295) :
    Own ((w.alloc (.cells ((bytes4 x).map (Value.int .u8)).toArray 5)).alloc (.cells ((bytes4 y).map (Value.int .u8)).toArray 5)) w.heap.size (.slice (some ⟨w.heap.size, 0, none⟩) 4 4) 4 (bytes4 x) ∧
    Row ((w.alloc (.cells ((bytes4 x).map (Value.int .u8)).toArray 5)).alloc (.cells ((bytes4 y).map (Value.int .u8)).toArray 5)) (some ⟨w.heap.size + 1, 0, none⟩) 4 (bytes4 y) ∧
    Below w.heap.size w ((w.alloc (.cells ((bytes4 x).map (Value.int .u8)).toArray 5)).alloc (.cells ((bytes4 y).map (Value.int .u8)).toArray 5)) := by
  refine ⟨(own_lit w w.heap.size (bytes4 x) (bytes4_bd hx) 4 rfl (by unfold maxLen; omega) (Nat.le_refl _)).kept ((Below.refl _ _).alloc (Nat.le_refl _) _), ?_, ((Below.refl _ _).alloc (Nat.le_refl _) _).alloc (by simp) _⟩
  have := row_lit4 (w.alloc (.cells ((bytes4 x).map (Value.int .u8)).toArray 5)) y hy
  rw [World.size_alloc] at this
  exact this

set_option maxRecDepth 100000 in
theorem eight_any (x : Int) (w : World) (hx : U64 x) : Calls Tryd.prog 84 #[.int .u64 x] w (Gives 8 (bytes8 x) w) := by
  have h1 := u64_hi hx
  have h2 := u64_lo x
  have h0 : 0 ≤ x := hx.1
  have hm := mask_lo hx
  obtain ⟨ho, hr, hb⟩ := two_lits w _ _ h1 h2
  go_enter Tryd.func84, Tryd.ntmps84
  go_wp2_with (first
    | (go_at_call 85; (with_reducible refine (rbytes_any _ _ h1).mono ?_); rintro e w' ⟨rfl, rfl⟩)
    | (go_at_call 85; (with_reducible refine (rbytes_any _ _ h2).mono ?_); rintro e w' ⟨rfl, rfl⟩)
    | (at_builtin; refine wpList_app rfl _ _ rfl w.heap.size _ _ _ rfl ho _ _ _ _ rfl hr (fun h => by cases h) (by omega) hb.size ?_; intro v' w' h3 h4))
  go_ret
  exact ⟨v', rfl, h3, hb.grown h4 hb.size (fun k hk => by have hk' : some w.heap.size = some k := hk; cases hk'; exact Nat.le_refl _)⟩
def zeroBytes (c : Nat) : Array Value := (nums (List.replicate c 0)).toArray
theorem make_bytes (kl kc : IntKind) (l c : Nat) (hlc : l ≤ c) (hc : c ≤ 1000000) (w : World) : (Instr.makeSlice 28 (.int kl (l : Int)) (.int kc (c : Int))).run Tryd.prog w = .ok (.slice (some ⟨w.heap.size, 0, none⟩) l c) (w.alloc (.cells (zeroBytes c) 5)) := by
  obtain ⟨i, hi, hz0, hz1, hz2⟩ := info_parts info5
  have h := run_make (P := Tryd.prog) w 28 5 i (.int .u8 0) Tryd.underlying28 hi hz0 kl kc l c (by omega) (by omega) (by rw [hz2]; omega) (by omega)
  rw [h, hz1]
  have e : madeCells (Value.int .u8 0).cells (((c : Int)).toNat * 1) = zeroBytes c := by
    unfold zeroBytes
    apply Array.ext'
    rw [show (Value.int .u8 0).cells = #[Value.int .u8 0] from rfl, toList_madeCells_one]
    simp [nums]
  rw [e]
  simp
theorem zeros_lt (n : Nat) : zerosOf n < 64 := by unfold zerosOf; omega
theorem pad_cells (n z : Nat) (h : z = zerosOf n) : (zeroBytes (1 + z)).setIfInBounds 0 (.int .u8 128) = (nums (padI n)).toArray := by
  subst h
  rw [Nat.add_comm]
  simp [zeroBytes, nums, padI, List.replicate_succ]
theorem own_made (w : World) (base c : Nat) (hc : c ≤ 1000000) (hb : base ≤ w.heap.size) : Own (w.alloc (.cells (zeroBytes c) 5)) base (.slice (some ⟨w.heap.size, 0, none⟩) 0 c) 0 [] := by
  refine ⟨⟨by simp [nums], .inr ⟨w.heap.size, c, zeroBytes c, rfl, hb, heap_alloc_new w _, by omega, by unfold maxLen; omega, by simp [zeroBytes, nums], by simp [nums]⟩⟩, fun n hn => by simp at hn⟩
def wUp (s : St) : Nat → List Int
  | 0 => []
  | k + 1 => wUp s k ++ bytes4 (s.get k)
theorem wUp_all (s : St) : wUp s 8 = bytes32 s := rfl
theorem get_wd {s : St} (h : s.Ok) : ∀ j, j < 8 → 0 ≤ s.get j ∧ s.get j ≤ 4294967295 := by
  obtain ⟨ha, hb, hc, hd, he, hf, hg, hh⟩ := h
  exact eight_cases ha hb hc hd he hf hg hh
theorem run_index_eight (s : St) (k : Nat) (hk : k < 8) (w : World) : (Instr.index 107 (.agg (stCells s)) (.int .i64 (k : Int))).run Tryd.prog w = .ok (.int .u32 (s.get k)) w := by
  simp [Instr.index, run_underlying Tryd.underlying107, asIntOf, hk, go_sem, st_at s k hk]
end Go.Proofs.YtcokpdhhpaahgaaDoor.Sha

namespace Go.Proofs.YtcokpdhhpaahgaaDoor.Sha
open Go.RowKit
set_option linter.unusedVariables false
set_option linter.unusedSimpArgs false

/-- The cells of a stream that has begun: its words, its count, its rest. -/
def smCells (H : St) (n : Nat) (bf : List Int) : Array Value := (Value.bool true :: ((stCells H).toList ++ (Value.int .u64 (n : Int) :: nums bf))).toArray
theorem sm_size (H : St) (n : Nat) (bf : List Int) : (smCells H n bf).size = 10 + bf.length := by simp [smCells, stCells, nums]; omega
theorem sm_begun (H : St) (n : Nat) (bf : List Int) : (smCells H n bf)[0]? = some (.bool true) := by simp [smCells]
theorem sm_word (H : St) (n : Nat) (bf : List Int) : ∀ j, j < 8 → (smCells H n bf)[1 + j]? = some (.int .u32 (H.get j)) :=
  eight_cases (by simp [smCells, stCells]; rfl) (by simp [smCells, stCells]; rfl) (by simp [smCells, stCells]; rfl) (by simp [smCells, stCells]; rfl) (by simp [smCells, stCells]; rfl) (by simp [smCells, stCells]; rfl) (by simp [smCells, stCells]; rfl) (by simp [smCells, stCells]; rfl)
theorem sm_count (H : St) (n : Nat) (bf : List Int) : (smCells H n bf)[9]? = some (.int .u64 (n : Int)) := by simp [smCells, stCells]
theorem sm_rest (H : St) (n : Nat) (bf : List Int) (j : Nat) (hj : j < bf.length) : (smCells H n bf)[10 + j]? = some (.int .u8 (bf.getD j 0)) := by
  have e : 10 + j = j + 10 := by omega
  rw [e]
  simp [smCells, stCells, nums, List.getElem?_eq_getElem hj, List.getD_eq_getElem?_getD]
theorem sm_put (H : St) (n m : Nat) (bf : List Int) : (smCells H n bf).setIfInBounds 9 (.int .u64 (m : Int)) = smCells H m bf := by simp [smCells, stCells]
theorem sm_all (H : St) (n : Nat) (bf : List Int) : (smCells H n bf).all (·.oneCell') = true := by
  rw [Array.all_eq_true_iff_forall_mem]
  intro v hv
  simp only [smCells, List.mem_toArray, List.mem_cons, List.mem_append] at hv
  rcases hv with rfl | hv | rfl | hv
  · rfl
  · exact Array.all_eq_true_iff_forall_mem.1 (st_all H) v (by simpa using hv)
  · rfl
  · exact nums_one bf v hv
/-- The words anew. -/
theorem sm_words (H K : St) (n : Nat) (bf : List Int) : ((smCells H n bf).toList.take 1 ++ (stCells K).toList ++ (smCells H n bf).toList.drop (1 + 8)).toArray = smCells K n bf := by simp [smCells, stCells]
/-- The first k bytes of the rest anew, from the i-th on. -/
theorem sm_bytes (H : St) (n : Nat) (bf ys : List Int) (i k : Nat) (hk : ys.length = k) (hf : i + k ≤ bf.length) :
    ((smCells H n bf).toList.take (10 + i) ++ (nums ys ++ (smCells H n bf).toList.drop (10 + i + k))).toArray = smCells H n (bf.take i ++ ys ++ bf.drop (i + k)) := by
  have e1 : (smCells H n bf).toList.take (10 + i) = Value.bool true :: ((stCells H).toList ++ (Value.int .u64 (n : Int) :: nums (bf.take i))) := by
    rw [show 10 + i = i + 10 by omega]
    simp [smCells, stCells, nums, List.map_take]
  have e2 : (smCells H n bf).toList.drop (10 + i + k) = nums (bf.drop (i + k)) := by
    rw [show 10 + i + k = (i + k) + 10 by omega]
    simp [smCells, stCells, nums, List.map_drop]
  rw [e1, e2]
  simp [smCells, nums]

theorem addr_add (g o j : Nat) : (⟨g, o, none⟩ : Addr).add j = ⟨g, o + j, none⟩ := by unfold Addr.add; split <;> simp_all
/-- The stream's words, loaded out of its block. -/
theorem wpList_load_words {w : World} {ops : Array Oper} {rest : List Oper} {o : Oper} {a : Act} {Q : Exit → Act → World → Prop} (hgd : o.guard = none) (x : Operand) (ho : o.op = .load 107 x)
    (g : Nat) (hx : a.eval x = .pointer (some ⟨g, 1, none⟩)) (H : St) (n : Nat) (bf : List Int) (hg : Has w g 99 (smCells H n bf))
    (h : wpList Tryd.prog ops Q rest (a.put o.dst (.agg (stCells H))) w) : wpList Tryd.prog ops Q (o :: rest) a w := by
  refine wpList_plain hgd fun K hK => ?_
  have hl : (loadCells ⟨g, 1, none⟩ 8).run Tryd.prog w = .ok (stCells H) w := by
    have := run_loadCells_list (P := Tryd.prog) w ⟨g, 1, none⟩ (stCells H).toList (fun j v hv => by
      have hj : j < 8 := (List.getElem?_eq_some_iff.1 hv).1
      rw [addr_add, hg.at, sm_word H n bf j hj, ← st_at H j hj, ← hv]; simp)
    simp only [Array.length_toList, Array.toArray_toList] at this
    exact this
  obtain ⟨i, hi, hsz⟩ := Option.map_eq_some_iff.1 size45
  have hagg : (isAgg 107).run Tryd.prog w = .ok true w := by unfold isAgg; rw [Sem.run_bind, run_underlying Tryd.underlying107 w]; rfl
  have hv : (loadVar 107 ⟨g, 1, none⟩).run Tryd.prog w = .ok (.agg (stCells H)) w := by
    simp [loadVar, Sem.run_bind, hagg, sizeOf, typeInfo, hi, hsz, hl]
  unfold Oper.wp execOp
  simp only [ho, hx, Instr.loadAt, Instr.sureAddr, Sem.run_bind, Sem.run_pure, Result.andThen_ok, hv]
  exact hK _ _ h
/-- Words stored into the stream's block. -/
theorem wpList_store_words {w : World} {ops : Array Oper} {rest : List Oper} {o : Oper} {a : Act} {Q : Exit → Act → World → Prop} (hgd : o.guard = none) (x y : Operand) (ho : o.op = .store 107 x y)
    (g : Nat) (K : St) (hx : a.eval x = .pointer (some ⟨g, 1, none⟩)) (hy : a.eval y = .agg (stCells K)) (H : St) (n : Nat) (bf : List Int) (hg : Has w g 99 (smCells H n bf))
    (h : wpList Tryd.prog ops Q rest (a.put o.dst undef) (w.setRow g (smCells K n bf))) : wpList Tryd.prog ops Q (o :: rest) a w := by
  refine wpList_plain hgd fun K' hK => ?_
  have hst := run_storeCells_at (P := Tryd.prog) g 1 99 (stCells K).toList 0 (smCells H n bf) w hg (by rw [sm_size]; simp [stCells]; omega) (fun v hv => Array.all_eq_true_iff_forall_mem.1 (st_all K) v (by simpa using hv))
  rw [show 1 + 0 + (stCells K).toList.length = 1 + 8 from rfl, show (1 + 0 : Nat) = 1 from rfl, sm_words] at hst
  obtain ⟨i, hi, hsz⟩ := Option.map_eq_some_iff.1 size45
  unfold Oper.wp execOp
  simp only [ho, hx, hy, Instr.storeAt, Instr.sureAddr, Sem.run_bind, Sem.run_pure, Result.andThen_ok]
  have hv : (storeVar 107 ⟨g, 1, none⟩ (.agg (stCells K))).run Tryd.prog w = .ok () (w.setRow g (smCells K n bf)) := by
    have h8 : (stCells K).size = 8 := rfl
    simp [storeVar, sizeOf, typeInfo, hi, hsz, Value.cells, h8, hst]
  rw [hv]
  exact hK _ _ h

theorem wpList_build_to {w : World} {ops : Array Oper} {rest : List Oper} {o : Oper} {a : Act} {Q : Exit → Act → World → Prop} (hg : o.guard = none) (t : TypeId) (parts : Array (Nat × Operand)) (ho : o.op = .build t parts)
    (cells : Array Value) (hb : Tryd.prog.built t (parts.map fun (i, x) => (i, a.eval x)).toList = some cells) (h : wpList Tryd.prog ops Q rest (a.put o.dst (.agg cells)) w) : wpList Tryd.prog ops Q (o :: rest) a w :=
  wpList_build hg t parts ho (by rw [hb]; rfl) (by rw [hb]; exact h)
def noBytes : List Int := List.replicate 64 0
/-- The cells of a stream that was only declared. -/
def zero49 : Array Value := (Value.bool false :: ((stCells zeroSt).toList ++ (Value.int .u64 0 :: nums noBytes))).toArray
theorem zero49_size : zero49.size = 74 := by kernel_rfl
theorem no_len : noBytes.length = 64 := by simp [noBytes]
theorem no_byt : Byt noBytes := by
  intro n hn
  simp only [noBytes, List.mem_replicate] at hn
  omega
theorem old49 {H : St} {n : Nat} {bf : List Int} (h : bf.length = 64) : zero49.size = (smCells H n bf).size := by rw [zero49_size, sm_size, h]
/-- A new block that holds this stream. -/
def Made (H : St) (n : Nat) (bf : List Int) (w : World) (e : Ending) (w' : World) : Prop := ∃ b, e = .returned (.pointer (some ⟨b, 0, none⟩)) ∧ w.heap.size ≤ b ∧ Has w' b 99 (smCells H n bf) ∧ Below w.heap.size w w'
end Go.Proofs.YtcokpdhhpaahgaaDoor.Sha

namespace Go.Proofs.YtcokpdhhpaahgaaDoor.Sha
open Go.RowKit
set_option linter.unusedVariables false
set_option linter.unusedSimpArgs false

theorem only_refl (w : World) (r : Option Nat) : w.grownBy w r := ⟨rfl, rfl, rfl, Nat.le_refl _, fun _ _ _ => rfl⟩
theorem only_below {a w w' : World} {r : Option Nat} (h : a.grownBy w r) (hb : Below w.heap.size w w') : a.grownBy w' r :=
  ⟨hb.os.trans h.os, hb.tape.trans h.tape, hb.output.trans h.output, Nat.le_trans h.size hb.size, fun i hi hn => (hb.block i (Nat.lt_of_lt_of_le hi h.size)).trans (h.block i hi hn)⟩
theorem only_drew {a w : World} {r : Option Nat} (h : a.grownBy w r) : a.grownBy w.drew r := ⟨h.os, h.tape, h.output, h.size, h.block⟩
theorem only_row {a w : World} {b : Nat} (h : a.grownBy w (some b)) (cs : Array Value) : a.grownBy (w.setRow b cs) (some b) :=
  ⟨h.os, h.tape, h.output, by rw [setRow_size]; exact h.size, fun i hi hn => (setRow_other w b i cs (fun e => hn (by rw [e]))).trans (h.block i hi hn)⟩
theorem only_cell {a w : World} {b j : Nat} (h : a.grownBy w (some b)) (v : Value) : a.grownBy (w.setCell ⟨b, j, none⟩ v) (some b) :=
  ⟨h.os, h.tape, h.output, by simpa using h.size, fun i hi hn => (heap_setCell_other w _ i v (fun e => hn (by rw [e]))).trans (h.block i hi hn)⟩
theorem Tabs.only {w w' : World} {b : Nat} (h : Tabs w) (ho : w.grownBy w' (some b)) (hb : 1 < b) : Tabs w' :=
  h.below (B := 2) ⟨ho.os, ho.tape, ho.output, ho.size, fun k hk => ho.block k (by have := h.1; omega) (by intro e; injection e; omega)⟩ (by omega)
/-- The row of bytes lies elsewhere. -/
def Off (a : Option Addr) (n b : Nat) : Prop := 0 < n → ∀ x, a = some x → x.block ≠ b
theorem row_off {w : World} {a : Option Addr} {n b : Nat} {zs : List Int} (h : Row w a n zs) (hb : w.heap.size ≤ b) : Off a n b := by
  intro hn x hx
  obtain ⟨g, off, e, hw, _⟩ := row_open h hn
  rw [hx] at e
  cases e
  show g ≠ b
  omega
theorem row_only {w w' : World} {a : Option Addr} {n b : Nat} {zs : List Int} (h : Row w a n zs) (ho : w.grownBy w' (some b)) (hf : Off a n b) : Row w' a n zs := by
  obtain ⟨h1, h2, h3⟩ := h
  refine ⟨h1, h2, ?_⟩
  by_cases hn : n = 0
  · exact .inl hn
  · rcases h3 with h0 | ⟨g, off, rfl, hw, hc⟩
    · exact .inl h0
    · exact .inr ⟨g, off, rfl, Nat.lt_of_lt_of_le hw ho.size, fun j hj => (World.cell?_of_block (ho.block g hw (fun e => hf (by omega) _ rfl (by injection e)))).trans (hc j hj)⟩

theorem has_eight {w : World} {b n : Nat} {K : St} {bf : List Int} (h : Has w b 99 (smCells K n bf)) :
    w.cell? ⟨b, 1, none⟩ = some (.int .u32 K.a) ∧ w.cell? ⟨b, 2, none⟩ = some (.int .u32 K.b) ∧ w.cell? ⟨b, 3, none⟩ = some (.int .u32 K.c) ∧ w.cell? ⟨b, 4, none⟩ = some (.int .u32 K.d) ∧
    w.cell? ⟨b, 5, none⟩ = some (.int .u32 K.e) ∧ w.cell? ⟨b, 6, none⟩ = some (.int .u32 K.f) ∧ w.cell? ⟨b, 7, none⟩ = some (.int .u32 K.g) ∧ w.cell? ⟨b, 8, none⟩ = some (.int .u32 K.h) ∧
    w.frozen? ⟨b, 1, none⟩ = false ∧ w.frozen? ⟨b, 2, none⟩ = false ∧ w.frozen? ⟨b, 3, none⟩ = false ∧ w.frozen? ⟨b, 4, none⟩ = false ∧ w.frozen? ⟨b, 5, none⟩ = false ∧ w.frozen? ⟨b, 6, none⟩ = false ∧ w.frozen? ⟨b, 7, none⟩ = false ∧ w.frozen? ⟨b, 8, none⟩ = false :=
  ⟨(h.at 1).trans (sm_word K _ bf 0 (by omega)), (h.at 2).trans (sm_word K _ bf 1 (by omega)), (h.at 3).trans (sm_word K _ bf 2 (by omega)), (h.at 4).trans (sm_word K _ bf 3 (by omega)),
   (h.at 5).trans (sm_word K _ bf 4 (by omega)), (h.at 6).trans (sm_word K _ bf 5 (by omega)), (h.at 7).trans (sm_word K _ bf 6 (by omega)), (h.at 8).trans (sm_word K _ bf 7 (by omega)),
   h.soft 1, h.soft 2, h.soft 3, h.soft 4, h.soft 5, h.soft 6, h.soft 7, h.soft 8⟩
/-- Eight stores, one behind the other: the words anew. -/
def eightSet (w : World) (b : Nat) (X : St) : World := (((((((w.setCell ⟨b, 1, none⟩ (.int .u32 X.a)).setCell ⟨b, 2, none⟩ (.int .u32 X.b)).setCell ⟨b, 3, none⟩ (.int .u32 X.c)).setCell ⟨b, 4, none⟩ (.int .u32 X.d)).setCell ⟨b, 5, none⟩ (.int .u32 X.e)).setCell ⟨b, 6, none⟩ (.int .u32 X.f)).setCell ⟨b, 7, none⟩ (.int .u32 X.g)).setCell ⟨b, 8, none⟩ (.int .u32 X.h)
theorem eight_has {w : World} {b n : Nat} {K : St} {bf : List Int} (h : Has w b 99 (smCells K n bf)) (X : St) : Has (eightSet w b X) b 99 (smCells X n bf) := by
  have := (((((((h.put 1 (.int .u32 X.a)).put 2 (.int .u32 X.b)).put 3 (.int .u32 X.c)).put 4 (.int .u32 X.d)).put 5 (.int .u32 X.e)).put 6 (.int .u32 X.f)).put 7 (.int .u32 X.g)).put 8 (.int .u32 X.h)
  have e : ((((((((smCells K n bf).setIfInBounds 1 (.int .u32 X.a)).setIfInBounds 2 (.int .u32 X.b)).setIfInBounds 3 (.int .u32 X.c)).setIfInBounds 4 (.int .u32 X.d)).setIfInBounds 5 (.int .u32 X.e)).setIfInBounds 6 (.int .u32 X.f)).setIfInBounds 7 (.int .u32 X.g)).setIfInBounds 8 (.int .u32 X.h) = smCells X n bf := by simp [smCells, stCells]
  rw [e] at this
  exact this
theorem eight_only {a w : World} {b : Nat} (h : a.grownBy w (some b)) (X : St) : a.grownBy (eightSet w b X) (some b) := only_cell (only_cell (only_cell (only_cell (only_cell (only_cell (only_cell (only_cell h _) _) _) _) _) _) _) _
theorem sm_first (K : St) (N : Nat) (bf rem : List Int) (m : Nat) (hm : rem.length = m) (hf : m ≤ bf.length) : ((smCells K N bf).toList.take 10 ++ (nums (rem.take m) ++ (smCells K N bf).toList.drop (10 + m))).toArray = smCells K N (rem ++ bf.drop m) := by
  have := sm_bytes K N bf rem 0 m hm (by omega)
  rw [List.take_of_length_le (l := rem) (by omega)]
  simpa using this
def Wrote (b : Nat) (H : St) (n : Nat) (bf zs : List Int) (w : World) (e : Ending) (w' : World) : Prop :=
  e = .returned (.tuple #[]) ∧ ∃ bf' : List Int, bf'.length = 64 ∧ Byt bf' ∧ bf'.take ((n + zs.length) % 64) = (run H (bf.take (n % 64) ++ zs)).2 ∧
    Has w' b 99 (smCells (run H (bf.take (n % 64) ++ zs)).1 (n + zs.length) bf') ∧ w.grownBy w' (some b)
/-- The loop: what is left of the bytes, and the state so far. -/
def Left (b N : Nat) (goal : St × List Int) (w : World) (v : Value) (wr : World) : Prop :=
  ∃ (A : Option Addr) (m c : Nat) (rem : List Int) (K : St) (bf : List Int), v = .slice A m c ∧ m ≤ c ∧ Row wr A m rem ∧ Off A m b ∧ K.Ok ∧ run K rem = goal ∧ bf.length = 64 ∧ Byt bf ∧ Has wr b 99 (smCells K N bf) ∧ w.grownBy wr (some b)
def lenV : Value → Nat | .slice _ m _ => m | _ => 0

end Go.Proofs.YtcokpdhhpaahgaaDoor.Sha

namespace Go.Proofs.YtcokpdhhpaahgaaDoor.Sha
open Go.RowKit
set_option linter.unusedVariables false
set_option linter.unusedSimpArgs false

def zero24 : Array Value := (nums (List.replicate 32 0)).toArray
theorem zero24_run : ∀ w : World, (zeroValue 22).run Tryd.prog w = .ok (.agg zero24) w := (zero_of_info (P := Tryd.prog) (t := 22) (n := 32) (by kernel_rfl)).1
theorem size24 {zs : List Int} (h : zs.length = 32) : (Tryd.prog.info? 22).map (·.size) = some (nums zs).toArray.size := by
  rw [List.size_toArray, nums_len, h]; kernel_rfl
theorem nums_all (zs : List Int) : (nums zs).toArray.all (·.oneCell') = true := by
  rw [Array.all_eq_true_iff_forall_mem]
  intro v hv
  exact nums_one zs v (by simpa using hv)
theorem zero24_size : zero24.size = 32 := by simp [zero24, nums]
theorem below_only {B e : Nat} {w0 w w' : World} (h : Below B w0 w) (ho : w.grownBy w' (some e)) (he : B ≤ e) (hB : B ≤ w.heap.size) : Below B w0 w' := h.grown ho hB (fun k hk => by injection hk; omega)

/-- A whole value stored into a block that is known whole; the world behind it under a name. -/
theorem wpList_row {w : World} {ops : Array Oper} {rest : List Oper} {o : Oper} {a : Act} {Q : Exit → Act → World → Prop} (hgd : o.guard = none) (ty : TypeId) (x y : Operand) (ho : o.op = .store ty x y)
    (g : Nat) (cells : Array Value) (hx : a.eval x = .pointer (some ⟨g, 0, none⟩)) (hy : a.eval y = .agg cells) (t : TypeId) (old : Array Value) (hg : Has w g t old) (hi : (Tryd.prog.info? ty).map (·.size) = some cells.size)
    (hold : old.size = cells.size) (h1 : cells.all (·.oneCell') = true)
    (h : ∀ w', Has w' g t cells → w.grownBy w' (some g) → wpList Tryd.prog ops Q rest (a.put o.dst undef) w') : wpList Tryd.prog ops Q (o :: rest) a w :=
  wpList_store_row hgd ty x y ho g cells hx hy t old hg hi hold h1 (h _ (setRow_heap _ _ _ _ _ _ hg) (only_row (only_refl w (some g)) cells))

end Go.Proofs.YtcokpdhhpaahgaaDoor.Sha
