/-
  Plain mathematics: what a tenant keeps, when it may be kept, which bytes it is, what any bytes say; conditions: none.
-/
import Derived.Test.YthkgbcchnneloaaPlain
import Derived.Laws.BytesArg
namespace Go.Proofs.Ythkgbcchnneloaa


def I64 (x : Int) : Prop := -9223372036854775808 ≤ x ∧ x ≤ 9223372036854775807
/-- An image. -/
structure Im where
  ver : Int
  size : Int
  dig : List Int
instance : DecidableEq Im := fun a b => decidable_of_iff (a.ver = b.ver ∧ a.size = b.size ∧ a.dig = b.dig) (by cases a; cases b; simp)
/-- What a tenant keeps. -/
structure Mt where
  act : Int
  h0 : Im
  h1 : Im
  least : Int
  phase : Int
  com : Im
  gott : Int
  trials : Int
instance : DecidableEq Mt := fun a b => decidable_of_iff (a.act = b.act ∧ a.h0 = b.h0 ∧ a.h1 = b.h1 ∧ a.least = b.least ∧ a.phase = b.phase ∧ a.com = b.com ∧ a.gott = b.gott ∧ a.trials = b.trials) (by cases a; cases b; simp)
def Im.Ok (i : Im) : Prop := i.dig.length = 32 ∧ Byt i.dig ∧ I64 i.ver ∧ I64 i.size
structure Mt.Ok (m : Mt) : Prop where
  h0 : m.h0.Ok
  h1 : m.h1.Ok
  com : m.com.Ok
  act : I64 m.act
  least : I64 m.least
  phase : I64 m.phase
  gott : I64 m.gott
  trials : I64 m.trials
def zs32 : List Int := List.replicate 32 0
def zeroI : Im := ⟨0, 0, List.replicate 32 0⟩
def zeroT : Mt := ⟨0, zeroI, zeroI, 0, 0, zeroI, 0, 0⟩
theorem i64_zero : I64 0 := by unfold I64; omega
theorem zeroI_ok : zeroI.Ok := ⟨List.length_replicate, byt_rep _, i64_zero, i64_zero⟩
theorem zeroT_ok : zeroT.Ok := ⟨zeroI_ok, zeroI_ok, zeroI_ok, i64_zero, i64_zero, i64_zero, i64_zero, i64_zero⟩
/-- May it be an image, or none? -/
def okI (i : Im) : Bool := decide (i = zeroI) || decide (1 ≤ i.ver ∧ i.ver ≤ 1073741824 ∧ 1 ≤ i.size ∧ i.size ≤ 1920)
def Mt.own (m : Mt) : Im := if m.act = 0 then m.h0 else m.h1
def Mt.oth (m : Mt) : Im := if m.act = 0 then m.h1 else m.h0
def chunkN (n : Int) : Int := (n + 319) / 320
def canB (m : Mt) (o : Im) : Bool := (decide (m.com.ver ≠ 0) && decide (¬ o.ver ≠ 0)) && decide (m.trials = 0)
def inB (m : Mt) : Bool := decide (0 ≤ m.act ∧ m.act ≤ 1) && (okI m.h0 && (okI m.h1 && (okI m.com && (decide (m.own.ver ≠ 0) && (decide (0 ≤ m.least ∧ m.least ≤ 1073741824) && (decide (0 ≤ m.gott ∧ m.gott ≤ 6) && decide (0 ≤ m.trials ∧ m.trials ≤ 2)))))))
def fitB (m : Mt) : Bool :=
  if m.phase = 0 then (decide (m.com.ver = 0) && decide (m.gott = 0)) && decide (m.trials = 0)
  else if m.phase = 1 then canB m m.oth && decide (m.gott ≤ chunkN m.com.size)
  else if m.phase = 2 then canB m m.oth && decide (m.gott = chunkN m.com.size)
  else if m.phase = 3 then (decide (m.com.ver = 0) && decide (m.gott = 0)) && decide (m.oth.ver ≠ 0)
  else false
/-- May it be kept? -/
def rightB (m : Mt) : Bool := inB m && fitB m
theorem okI_fit {i : Im} (h : okI i = true) : (0 ≤ i.ver ∧ i.ver ≤ 1073741824) ∧ (0 ≤ i.size ∧ i.size ≤ 1920) := by
  unfold okI at h
  simp only [Bool.or_eq_true, decide_eq_true_eq] at h
  rcases h with rfl | h
  · simp [zeroI]
  · omega
/-- An image's version is not 0, then its size is not either. -/
theorem okI_ver {i : Im} (h : okI i = true) (hv : i.ver = 0) : i = zeroI := by
  unfold okI at h
  simp only [Bool.or_eq_true, decide_eq_true_eq] at h
  rcases h with h | h
  · exact h
  · omega
theorem okI_size {i : Im} (h : okI i = true) (hv : i.ver ≠ 0) : 1 ≤ i.size := by
  unfold okI at h
  simp only [Bool.or_eq_true, decide_eq_true_eq] at h
  rcases h with rfl | h
  · simp [zeroI] at hv
  · omega
/-- What holds of what is in its bounds. -/
structure In (m : Mt) : Prop where
  act : m.act = 0 ∨ m.act = 1
  h0 : okI m.h0 = true
  h1 : okI m.h1 = true
  com : okI m.com = true
  own : m.own.ver ≠ 0
  least : 0 ≤ m.least ∧ m.least ≤ 1073741824
  gott : 0 ≤ m.gott ∧ m.gott ≤ 6
  trials : 0 ≤ m.trials ∧ m.trials ≤ 2
theorem in_of {m : Mt} (h : inB m = true) : In m := by
  unfold inB at h
  simp only [Bool.and_eq_true, decide_eq_true_eq] at h
  obtain ⟨a, b, c, d, e, f, g, k⟩ := h
  exact ⟨by omega, b, c, d, e, f, g, k⟩
theorem right_in {m : Mt} (h : rightB m = true) : In m := by
  unfold rightB at h
  simp only [Bool.and_eq_true] at h
  exact in_of h.1
theorem fit_phase {m : Mt} (h : fitB m = true) : 0 ≤ m.phase ∧ m.phase ≤ 3 := by
  unfold fitB at h
  by_cases h0 : m.phase = 0
  · omega
  by_cases h1 : m.phase = 1
  · omega
  by_cases h2 : m.phase = 2
  · omega
  by_cases h3 : m.phase = 3
  · omega
  rw [if_neg h0, if_neg h1, if_neg h2, if_neg h3] at h
  cases h
theorem right_phase {m : Mt} (h : rightB m = true) : 0 ≤ m.phase ∧ m.phase ≤ 3 := by
  unfold rightB at h
  simp only [Bool.and_eq_true] at h
  exact fit_phase h.2

theorem raw_all {zs : List Int} {k : Nat} (h : zs.length = k) : rawL zs k = zs := by
  unfold rawL
  rw [List.take_of_length_le (by omega), h, Nat.sub_self]
  simp
/-- An image's bytes, and all of what is kept. -/
def imL (i : Im) : List Int := numL i.ver 4 ++ numL i.size 4 ++ rawL i.dig 32
def metaL (m : Mt) : List Int := [] ++ numL m.act 1 ++ imL m.h0 ++ imL m.h1 ++ numL m.least 4 ++ numL m.phase 1 ++ imL m.com ++ numL m.gott 1 ++ numL m.trials 1
theorem im_len (i : Im) : (imL i).length = 40 := by simp [imL, num_len, raw_len]
theorem meta_len (m : Mt) : (metaL m).length = 128 := by simp [metaL, im_len, num_len]
theorem im_byt {i : Im} (h : i.Ok) : Byt (imL i) := byt_app (byt_app (num_byt _ _) (num_byt _ _)) (raw_byt h.2.1 _)
theorem meta_byt {m : Mt} (h : m.Ok) : Byt (metaL m) :=
  byt_app (byt_app (byt_app (byt_app (byt_app (byt_app (byt_app (byt_app byt_nil (num_byt _ _)) (im_byt h.h0)) (im_byt h.h1)) (num_byt _ _)) (num_byt _ _)) (im_byt h.com)) (num_byt _ _)) (num_byt _ _)
def bytesM (m : Mt) : List Int := if rightB m = true then metaL m else []

/-- What is left behind k bytes. -/
def St (zs : List Int) (k : Nat) : Rs := if k ≤ zs.length then ⟨zs.drop k, false⟩ else ⟨[], true⟩
theorem st_zero (zs : List Int) : St zs 0 = ⟨zs, false⟩ := by unfold St; rw [if_pos (Nat.zero_le _)]; rfl
theorem st_aft (zs : List Int) (k n : Nat) (h : 0 < n) : aft (St zs k) n = St zs (k + n) := by
  unfold St
  by_cases hk : k ≤ zs.length
  · rw [if_pos hk]
    by_cases hn : k + n ≤ zs.length
    · rw [if_pos hn, aft_yes rfl (by simp only [List.length_drop]; omega)]
      simp only [List.drop_drop]
    · rw [if_neg hn, aft_short (by simp only [List.length_drop]; omega)]
  · rw [if_neg hk, if_neg (by omega), aft_bad rfl]
theorem st_got {zs : List Int} {k n : Nat} (h : k + n ≤ zs.length) : got (St zs k) n = (zs.drop k).take n := by
  unfold St
  rw [if_pos (by omega), got_yes rfl (by simp only [List.length_drop]; omega)]
theorem st_low {zs : List Int} {k : Nat} (h : zs.length < k) : (St zs k).bad = true := by unfold St; rw [if_neg (by omega)]
theorem st_fine {zs : List Int} {k : Nat} (h : k ≤ zs.length) : (St zs k).bad = false := by unfold St; rw [if_pos h]
theorem st_ok {zs : List Int} (h : Byt zs) (k : Nat) : (St zs k).Ok := by
  unfold St
  split
  · exact ⟨byt_drop h k, fun h => by cases h⟩
  · exact ⟨byt_nil, fun _ => rfl⟩
theorem st_take {zs : List Int} {k n c : Nat} (hc : c ≤ zs.length) (h : k + n ≤ c) : got (St (zs.take c) k) n = got (St zs k) n := by
  rw [st_got (by rw [List.length_take]; omega), st_got (by omega), List.drop_take, List.take_take, Nat.min_eq_left (by omega)]
def stN (zs : List Int) (k n : Nat) : Int := w64 (val (got (St zs k) n))
theorem i64_w64 (x : Int) : I64 (w64 x) := by
  unfold I64 w64
  rw [IntKind.wrap_i64]
  omega
/-- What an image's bytes say, and all of them. -/
def imgS (zs : List Int) (k : Nat) : Im := ⟨stN zs k 4, stN zs (k + 4) 4, rawL (got (St zs (k + 8)) 32) 32⟩
def toldS (zs : List Int) : Mt := ⟨stN zs 0 1, imgS zs 1, imgS zs 41, stN zs 81 4, stN zs 85 1, imgS zs 86, stN zs 126 1, stN zs 127 1⟩
theorem imgS_ok {zs : List Int} (h : Byt zs) (k : Nat) : (imgS zs k).Ok := ⟨raw_len _ _, raw_byt (got_byt (st_ok h _) _) _, i64_w64 _, i64_w64 _⟩
theorem toldS_ok {zs : List Int} (h : Byt zs) : (toldS zs).Ok := ⟨imgS_ok h _, imgS_ok h _, imgS_ok h _, i64_w64 _, i64_w64 _, i64_w64 _, i64_w64 _, i64_w64 _⟩
theorem stN_take {zs : List Int} {k n c : Nat} (hc : c ≤ zs.length) (h : k + n ≤ c) : stN (zs.take c) k n = stN zs k n := by unfold stN; rw [st_take hc h]
theorem imgS_take {zs : List Int} {k c : Nat} (hc : c ≤ zs.length) (h : k + 40 ≤ c) : imgS (zs.take c) k = imgS zs k := by
  unfold imgS
  rw [stN_take hc (by omega), stN_take hc (by omega), st_take hc (by omega)]
theorem toldS_take {zs : List Int} (hc : 128 ≤ zs.length) : toldS (zs.take 128) = toldS zs := by
  unfold toldS
  rw [stN_take hc (by omega), stN_take hc (by omega), stN_take hc (by omega), stN_take hc (by omega), stN_take hc (by omega), imgS_take hc (by omega), imgS_take hc (by omega), imgS_take hc (by omega)]
/-- Do any bytes say what may be kept? -/
def Good (zs : List Int) : Prop := 128 ≤ zs.length ∧ (zs.drop 128).all (fun x => x == 0) = true ∧ rightB (toldS zs) = true
instance (zs : List Int) : Decidable (Good zs) := by unfold Good; infer_instance
def readM (zs : List Int) : Mt := if Good zs then toldS zs else zeroT
def readE (zs : List Int) : Int := if Good zs then 0 else 6
theorem readM_no {zs : List Int} (h : ¬ Good zs) : readM zs = zeroT := if_neg h
theorem readE_no {zs : List Int} (h : ¬ Good zs) : readE zs = 6 := if_neg h
theorem readM_yes {zs : List Int} (h : Good zs) : readM zs = toldS zs := if_pos h
theorem readE_yes {zs : List Int} (h : Good zs) : readE zs = 0 := if_pos h
theorem readM_ok {zs : List Int} (h : Byt zs) : (readM zs).Ok := by
  unfold readM
  split
  · exact toldS_ok h
  · exact zeroT_ok

/-- The parts of the bytes. -/
theorem parts_of (m : Mt) (T : List Int) :
    ((metaL m ++ T).drop 0).take 1 = numL m.act 1 ∧ ((metaL m ++ T).drop 1).take 4 = numL m.h0.ver 4 ∧ ((metaL m ++ T).drop 5).take 4 = numL m.h0.size 4 ∧ ((metaL m ++ T).drop 9).take 32 = rawL m.h0.dig 32 ∧ ((metaL m ++ T).drop 41).take 4 = numL m.h1.ver 4 ∧ ((metaL m ++ T).drop 45).take 4 = numL m.h1.size 4 ∧ ((metaL m ++ T).drop 49).take 32 = rawL m.h1.dig 32 ∧ ((metaL m ++ T).drop 81).take 4 = numL m.least 4 ∧ ((metaL m ++ T).drop 85).take 1 = numL m.phase 1 ∧ ((metaL m ++ T).drop 86).take 4 = numL m.com.ver 4 ∧ ((metaL m ++ T).drop 90).take 4 = numL m.com.size 4 ∧ ((metaL m ++ T).drop 94).take 32 = rawL m.com.dig 32 ∧ ((metaL m ++ T).drop 126).take 1 = numL m.gott 1 ∧ ((metaL m ++ T).drop 127).take 1 = numL m.trials 1 ∧ (metaL m ++ T).drop 128 = T := by
  have l0 : (numL m.act 1).length = 1 := num_len _ _
  have l1 : (numL m.h0.ver 4).length = 4 := num_len _ _
  have l2 : (numL m.h0.size 4).length = 4 := num_len _ _
  have l3 : (rawL m.h0.dig 32).length = 32 := raw_len _ _
  have l4 : (numL m.h1.ver 4).length = 4 := num_len _ _
  have l5 : (numL m.h1.size 4).length = 4 := num_len _ _
  have l6 : (rawL m.h1.dig 32).length = 32 := raw_len _ _
  have l7 : (numL m.least 4).length = 4 := num_len _ _
  have l8 : (numL m.phase 1).length = 1 := num_len _ _
  have l9 : (numL m.com.ver 4).length = 4 := num_len _ _
  have l10 : (numL m.com.size 4).length = 4 := num_len _ _
  have l11 : (rawL m.com.dig 32).length = 32 := raw_len _ _
  have l12 : (numL m.gott 1).length = 1 := num_len _ _
  have l13 : (numL m.trials 1).length = 1 := num_len _ _
  have d0 : (metaL m ++ T).drop 0 = numL m.act 1 ++ (numL m.h0.ver 4 ++ (numL m.h0.size 4 ++ (rawL m.h0.dig 32 ++ (numL m.h1.ver 4 ++ (numL m.h1.size 4 ++ (rawL m.h1.dig 32 ++ (numL m.least 4 ++ (numL m.phase 1 ++ (numL m.com.ver 4 ++ (numL m.com.size 4 ++ (rawL m.com.dig 32 ++ (numL m.gott 1 ++ (numL m.trials 1 ++ T))))))))))))) := by
    unfold metaL imL
    simp only [List.nil_append, List.append_assoc, List.drop_zero]
  have d1 : (metaL m ++ T).drop 1 = numL m.h0.ver 4 ++ (numL m.h0.size 4 ++ (rawL m.h0.dig 32 ++ (numL m.h1.ver 4 ++ (numL m.h1.size 4 ++ (rawL m.h1.dig 32 ++ (numL m.least 4 ++ (numL m.phase 1 ++ (numL m.com.ver 4 ++ (numL m.com.size 4 ++ (rawL m.com.dig 32 ++ (numL m.gott 1 ++ (numL m.trials 1 ++ T)))))))))))) := by
    rw [show 1 = 0 + 1 from rfl, ← List.drop_drop, d0]; exact List.drop_left' l0
  have d2 : (metaL m ++ T).drop 5 = numL m.h0.size 4 ++ (rawL m.h0.dig 32 ++ (numL m.h1.ver 4 ++ (numL m.h1.size 4 ++ (rawL m.h1.dig 32 ++ (numL m.least 4 ++ (numL m.phase 1 ++ (numL m.com.ver 4 ++ (numL m.com.size 4 ++ (rawL m.com.dig 32 ++ (numL m.gott 1 ++ (numL m.trials 1 ++ T))))))))))) := by
    rw [show 5 = 1 + 4 from rfl, ← List.drop_drop, d1]; exact List.drop_left' l1
  have d3 : (metaL m ++ T).drop 9 = rawL m.h0.dig 32 ++ (numL m.h1.ver 4 ++ (numL m.h1.size 4 ++ (rawL m.h1.dig 32 ++ (numL m.least 4 ++ (numL m.phase 1 ++ (numL m.com.ver 4 ++ (numL m.com.size 4 ++ (rawL m.com.dig 32 ++ (numL m.gott 1 ++ (numL m.trials 1 ++ T)))))))))) := by
    rw [show 9 = 5 + 4 from rfl, ← List.drop_drop, d2]; exact List.drop_left' l2
  have d4 : (metaL m ++ T).drop 41 = numL m.h1.ver 4 ++ (numL m.h1.size 4 ++ (rawL m.h1.dig 32 ++ (numL m.least 4 ++ (numL m.phase 1 ++ (numL m.com.ver 4 ++ (numL m.com.size 4 ++ (rawL m.com.dig 32 ++ (numL m.gott 1 ++ (numL m.trials 1 ++ T))))))))) := by
    rw [show 41 = 9 + 32 from rfl, ← List.drop_drop, d3]; exact List.drop_left' l3
  have d5 : (metaL m ++ T).drop 45 = numL m.h1.size 4 ++ (rawL m.h1.dig 32 ++ (numL m.least 4 ++ (numL m.phase 1 ++ (numL m.com.ver 4 ++ (numL m.com.size 4 ++ (rawL m.com.dig 32 ++ (numL m.gott 1 ++ (numL m.trials 1 ++ T)))))))) := by
    rw [show 45 = 41 + 4 from rfl, ← List.drop_drop, d4]; exact List.drop_left' l4
  have d6 : (metaL m ++ T).drop 49 = rawL m.h1.dig 32 ++ (numL m.least 4 ++ (numL m.phase 1 ++ (numL m.com.ver 4 ++ (numL m.com.size 4 ++ (rawL m.com.dig 32 ++ (numL m.gott 1 ++ (numL m.trials 1 ++ T))))))) := by
    rw [show 49 = 45 + 4 from rfl, ← List.drop_drop, d5]; exact List.drop_left' l5
  have d7 : (metaL m ++ T).drop 81 = numL m.least 4 ++ (numL m.phase 1 ++ (numL m.com.ver 4 ++ (numL m.com.size 4 ++ (rawL m.com.dig 32 ++ (numL m.gott 1 ++ (numL m.trials 1 ++ T)))))) := by
    rw [show 81 = 49 + 32 from rfl, ← List.drop_drop, d6]; exact List.drop_left' l6
  have d8 : (metaL m ++ T).drop 85 = numL m.phase 1 ++ (numL m.com.ver 4 ++ (numL m.com.size 4 ++ (rawL m.com.dig 32 ++ (numL m.gott 1 ++ (numL m.trials 1 ++ T))))) := by
    rw [show 85 = 81 + 4 from rfl, ← List.drop_drop, d7]; exact List.drop_left' l7
  have d9 : (metaL m ++ T).drop 86 = numL m.com.ver 4 ++ (numL m.com.size 4 ++ (rawL m.com.dig 32 ++ (numL m.gott 1 ++ (numL m.trials 1 ++ T)))) := by
    rw [show 86 = 85 + 1 from rfl, ← List.drop_drop, d8]; exact List.drop_left' l8
  have d10 : (metaL m ++ T).drop 90 = numL m.com.size 4 ++ (rawL m.com.dig 32 ++ (numL m.gott 1 ++ (numL m.trials 1 ++ T))) := by
    rw [show 90 = 86 + 4 from rfl, ← List.drop_drop, d9]; exact List.drop_left' l9
  have d11 : (metaL m ++ T).drop 94 = rawL m.com.dig 32 ++ (numL m.gott 1 ++ (numL m.trials 1 ++ T)) := by
    rw [show 94 = 90 + 4 from rfl, ← List.drop_drop, d10]; exact List.drop_left' l10
  have d12 : (metaL m ++ T).drop 126 = numL m.gott 1 ++ (numL m.trials 1 ++ T) := by
    rw [show 126 = 94 + 32 from rfl, ← List.drop_drop, d11]; exact List.drop_left' l11
  have d13 : (metaL m ++ T).drop 127 = numL m.trials 1 ++ T := by
    rw [show 127 = 126 + 1 from rfl, ← List.drop_drop, d12]; exact List.drop_left' l12
  have d14 : (metaL m ++ T).drop 128 = T := by
    rw [show 128 = 127 + 1 from rfl, ← List.drop_drop, d13]; exact List.drop_left' l13
  exact ⟨by rw [d0]; exact List.take_left' l0, by rw [d1]; exact List.take_left' l1, by rw [d2]; exact List.take_left' l2, by rw [d3]; exact List.take_left' l3, by rw [d4]; exact List.take_left' l4, by rw [d5]; exact List.take_left' l5, by rw [d6]; exact List.take_left' l6, by rw [d7]; exact List.take_left' l7, by rw [d8]; exact List.take_left' l8, by rw [d9]; exact List.take_left' l9, by rw [d10]; exact List.take_left' l10, by rw [d11]; exact List.take_left' l11, by rw [d12]; exact List.take_left' l12, by rw [d13]; exact List.take_left' l13, d14⟩
theorem fit_four {x : Int} (h : 0 ≤ x ∧ x ≤ 1073741824) : w64 (val (numL x 4)) = x := by
  rw [val_fit ⟨h.1, by rw [show (256 : Int) ^ 4 = 4294967296 from rfl]; omega⟩, w64_in (by omega)]
theorem fit_one {x : Int} (h : 0 ≤ x ∧ x ≤ 255) : w64 (val (numL x 1)) = x := by
  rw [val_fit ⟨h.1, by rw [show (256 : Int) ^ 1 = 256 from rfl]; omega⟩, w64_in (by omega)]
/-- What may be kept is read as it was written. -/
theorem told_back {m : Mt} (hm : m.Ok) (h : rightB m = true) (T : List Int) : toldS (metaL m ++ T) = m := by
  have hl : 128 ≤ (metaL m ++ T).length := by rw [List.length_append, meta_len]; omega
  obtain ⟨p0, p1, p2, p3, p4, p5, p6, p7, p8, p9, p10, p11, p12, p13, _⟩ := parts_of m T
  have hi := right_in h
  have hp := right_phase h
  have n0 := okI_fit hi.h0
  have n1 := okI_fit hi.h1
  have n2 := okI_fit hi.com
  have b1 := hi.act
  have b2 := hi.least
  have b3 := hi.gott
  have b4 := hi.trials
  have e0 : stN (metaL m ++ T) 0 1 = m.act := by unfold stN; rw [st_got (by omega), p0, fit_one (by omega)]
  have e1 : imgS (metaL m ++ T) 1 = m.h0 := by
    unfold imgS stN
    rw [st_got (by omega), st_got (by omega), st_got (by omega), p1, p2, p3, fit_four (by omega), fit_four (by omega), raw_all (raw_len _ _), raw_all hm.h0.1]
  have e2 : imgS (metaL m ++ T) 41 = m.h1 := by
    unfold imgS stN
    rw [st_got (by omega), st_got (by omega), st_got (by omega), p4, p5, p6, fit_four (by omega), fit_four (by omega), raw_all (raw_len _ _), raw_all hm.h1.1]
  have e3 : stN (metaL m ++ T) 81 4 = m.least := by unfold stN; rw [st_got (by omega), p7, fit_four (by omega)]
  have e4 : stN (metaL m ++ T) 85 1 = m.phase := by unfold stN; rw [st_got (by omega), p8, fit_one (by omega)]
  have e5 : imgS (metaL m ++ T) 86 = m.com := by
    unfold imgS stN
    rw [st_got (by omega), st_got (by omega), st_got (by omega), p9, p10, p11, fit_four (by omega), fit_four (by omega), raw_all (raw_len _ _), raw_all hm.com.1]
  have e6 : stN (metaL m ++ T) 126 1 = m.gott := by unfold stN; rw [st_got (by omega), p12, fit_one (by omega)]
  have e7 : stN (metaL m ++ T) 127 1 = m.trials := by unfold stN; rw [st_got (by omega), p13, fit_one (by omega)]
  unfold toldS
  rw [e0, e1, e2, e3, e4, e5, e6, e7]
theorem good_back {m : Mt} (hm : m.Ok) (h : rightB m = true) {T : List Int} (hT : T.all (fun x => x == 0) = true) : Good (metaL m ++ T) ∧ toldS (metaL m ++ T) = m := by
  obtain ⟨_, _, _, _, _, _, _, _, _, _, _, _, _, _, p14⟩ := parts_of m T
  have e := told_back hm h T
  exact ⟨⟨by rw [List.length_append, meta_len]; omega, by rw [p14]; exact hT, by rw [e]; exact h⟩, e⟩
theorem not_short {zs : List Int} (h : zs.length < 128) : ¬ Good zs := fun g => by have := g.1; omega
theorem not_one (m : Mt) : ¬ Good (metaL m ++ [1]) := fun g => by
  obtain ⟨_, _, _, _, _, _, _, _, _, _, _, _, _, _, p14⟩ := parts_of m [1]
  have := g.2.1
  rw [p14] at this
  simp at this
end Go.Proofs.Ythkgbcchnneloaa
