/-
  Plain mathematics: the words of SHA-256, its schedule, its rounds, what a block does; conditions: none.
-/
import Derived.Test.YtklhmneapegfpaaGreatDoorShaPlain
namespace Go.Proofs.YtklhmneapegfpaaGreatDoor.Sha

def add32 (a b : Int) : Int := (a + b) % 4294967296
def xor32 (a b : Int) : Int := bits .xor .u32 a b
def and32 (a b : Int) : Int := bits .and .u32 a b
def not32 (a : Int) : Int := bits .xor .u32 IntKind.u32.max a
def mixLow (x : Int) : Int := xor32 (xor32 (rotI x 2) (rotI x 13)) (rotI x 22)
def mixHigh (x : Int) : Int := xor32 (xor32 (rotI x 6) (rotI x 11)) (rotI x 25)
def spreadLow (x : Int) : Int := xor32 (xor32 (rotI x 7) (rotI x 18)) (x / 8)
def spreadHigh (x : Int) : Int := xor32 (xor32 (rotI x 17) (rotI x 19)) (x / 1024)
def choose (x y z : Int) : Int := xor32 (and32 x y) (and32 (not32 x) z)
def majority (x y z : Int) : Int := xor32 (xor32 (and32 x y) (and32 x z)) (and32 y z)

def Wd (x : Int) : Prop := 0 ≤ x ∧ x ≤ 4294967295
theorem wd_add (a b : Int) : Wd (add32 a b) := by unfold Wd add32; omega
theorem bits_u32 (op : BinOp) (a b : Int) (h : op = .xor ∨ op = .and) : Wd (bits op .u32 a b) := by
  have key : ∀ v : BitVec 32, Wd (IntKind.u32.wrap (v.toNat : Int)) := by
    intro v
    have := v.isLt
    rw [IntKind.wrap_u32']; unfold Wd; omega
  rcases h with rfl | rfl
  · exact key (BitVec.ofInt 32 a ^^^ BitVec.ofInt 32 b)
  · exact key (BitVec.ofInt 32 a &&& BitVec.ofInt 32 b)
theorem wd_xor (a b : Int) : Wd (xor32 a b) := bits_u32 .xor a b (.inl rfl)
theorem wd_and (a b : Int) : Wd (and32 a b) := bits_u32 .and a b (.inr rfl)
theorem wd_not (a : Int) : Wd (not32 a) := bits_u32 .xor _ a (.inl rfl)
theorem not32_ref (a : Int) : bits .xor .u32 a 4294967295 = not32 a := by
  unfold not32
  show IntKind.u32.wrap ((BitVec.ofInt 32 a ^^^ BitVec.ofInt 32 4294967295).toNat : Int) = IntKind.u32.wrap ((BitVec.ofInt 32 4294967295 ^^^ BitVec.ofInt 32 a).toNat : Int)
  rw [BitVec.xor_comm]

/-- The eight words of a state. -/
structure St where
  a : Int
  b : Int
  c : Int
  d : Int
  e : Int
  f : Int
  g : Int
  h : Int
def St.Ok (s : St) : Prop := Wd s.a ∧ Wd s.b ∧ Wd s.c ∧ Wd s.d ∧ Wd s.e ∧ Wd s.f ∧ Wd s.g ∧ Wd s.h
def one (k w : Int) (s : St) : Int := add32 (add32 (add32 (add32 s.h (mixHigh s.e)) (choose s.e s.f s.g)) k) w
def two (s : St) : Int := add32 (mixLow s.a) (majority s.a s.b s.c)
def rnd (k w : Int) (s : St) : St := ⟨add32 (one k w s) (two s), s.a, s.b, s.c, add32 s.d (one k w s), s.e, s.f, s.g⟩
theorem rnd_ok {s : St} (h : s.Ok) (k w : Int) : (rnd k w s).Ok := by
  obtain ⟨ha, hb, hc, hd, he, hf, hg, hh⟩ := h
  exact ⟨wd_add _ _, ha, hb, hc, wd_add _ _, he, hf, hg⟩
def constL : List Int := [1116352408, 1899447441, 3049323471, 3921009573, 961987163, 1508970993, 2453635748, 2870763221, 3624381080, 310598401, 607225278, 1426881987, 1925078388, 2162078206, 2614888103, 3248222580, 3835390401, 4022224774, 264347078, 604807628, 770255983, 1249150122, 1555081692, 1996064986, 2554220882, 2821834349, 2952996808, 3210313671, 3336571891, 3584528711, 113926993, 338241895, 666307205, 773529912, 1294757372, 1396182291, 1695183700, 1986661051, 2177026350, 2456956037, 2730485921, 2820302411, 3259730800, 3345764771, 3516065817, 3600352804, 4094571909, 275423344, 430227734, 506948616, 659060556, 883997877, 958139571, 1322822218, 1537002063, 1747873779, 1955562222, 2024104815, 2227730452, 2361852424, 2428436474, 2756734187, 3204031479, 3329325298]
def st0 : St := ⟨1779033703, 3144134277, 1013904242, 2773480762, 1359893119, 2600822924, 528734635, 1541459225⟩
def kI (i : Nat) : Int := constL.getD i 0
theorem kI_wd : ∀ i : Fin 64, 0 ≤ kI i.val ∧ kI i.val ≤ 4294967295 := by decide +kernel
theorem kI_ok (i : Nat) (h : i < 64) : Wd (kI i) := kI_wd ⟨i, h⟩
/-- The next word of the schedule, behind the words l. -/
def next (zs l : List Int) : Int :=
  if l.length < 16 then bigI (zs.drop (4 * l.length))
  else add32 (add32 (add32 (l.getD (l.length - 16) 0) (spreadLow (l.getD (l.length - 15) 0))) (l.getD (l.length - 7) 0)) (spreadHigh (l.getD (l.length - 2) 0))
def sched (zs : List Int) : Nat → List Int
  | 0 => []
  | i + 1 => sched zs i ++ [next zs (sched zs i)]
theorem sched_len (zs : List Int) : ∀ i, (sched zs i).length = i
  | 0 => rfl
  | i + 1 => by simp [sched, sched_len zs i]
def rounds (ws : List Int) (s : St) : Nat → St
  | 0 => s
  | i + 1 => rnd (kI i) (ws.getD i 0) (rounds ws s i)
theorem rounds_ok {s : St} (h : s.Ok) (ws : List Int) : ∀ i, (rounds ws s i).Ok
  | 0 => h
  | i + 1 => rnd_ok (rounds_ok h ws i) _ _
def sumSt (s t : St) : St := ⟨add32 s.a t.a, add32 s.b t.b, add32 s.c t.c, add32 s.d t.d, add32 s.e t.e, add32 s.f t.f, add32 s.g t.g, add32 s.h t.h⟩
/-- What a block of 64 bytes does to the words of a state. -/
def foldI (s : St) (zs : List Int) : St := sumSt s (rounds (sched zs 64) s 64)
theorem foldI_ok (s : St) (zs : List Int) : (foldI s zs).Ok := ⟨wd_add _ _, wd_add _ _, wd_add _ _, wd_add _ _, wd_add _ _, wd_add _ _, wd_add _ _, wd_add _ _⟩
theorem st0_ok : st0.Ok := by simp [St.Ok, Wd, st0]
theorem byt_drop {zs : List Int} (h : Byt zs) (k : Nat) : Byt (zs.drop k) := fun n hn => h n (List.mem_of_mem_drop hn)
theorem byt_take {zs : List Int} (h : Byt zs) (k : Nat) : Byt (zs.take k) := fun n hn => h n (List.mem_of_mem_take hn)
theorem byt_app {xs ys : List Int} (h : Byt xs) (k : Byt ys) : Byt (xs ++ ys) := fun n hn => (List.mem_append.1 hn).elim (h n) (k n)
def Wds (l : List Int) : Prop := ∀ n ∈ l, Wd n
theorem wds_at {l : List Int} (h : Wds l) (i : Nat) : Wd (l.getD i 0) := by
  rw [List.getD_eq_getElem?_getD]
  cases e : l[i]? with
  | none => simp [Wd]
  | some v => simpa using h v (List.mem_of_getElem? e)
theorem next_wd {zs l : List Int} (h : Byt zs) : Wd (next zs l) := by
  unfold next
  split
  · exact bigI_bd (byt_drop h _)
  · exact wd_add _ _
theorem sched_wd {zs : List Int} (h : Byt zs) : ∀ i, Wds (sched zs i)
  | 0 => fun n hn => by simp [sched] at hn
  | i + 1 => fun n hn => by
    simp only [sched, List.mem_append, List.mem_singleton] at hn
    rcases hn with hn | rfl
    · exact sched_wd h i n hn
    · exact next_wd h
end Go.Proofs.YtklhmneapegfpaaGreatDoor.Sha
