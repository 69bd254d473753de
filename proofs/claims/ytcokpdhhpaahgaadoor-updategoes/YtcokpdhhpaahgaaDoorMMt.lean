/-
  Several texts in one: Mp, Mk, Eq, Sl, Rt, St, Ve, Vf, Ma, Di, Xo; each says its own conditions.
-/
import Derived.Test.YtcokpdhhpaahgaaDoorMFi
import Derived.Laws.BytesArg
import Derived.Laws.StructEq
import Derived.Laws.CopyRow
import Derived.Deep.MidRow
import Derived.Deep.WholeRow
import Derived.Deep.RegionHeld3
import Derived.Deep.Cut
import Derived.BigQuiet
import Derived.Laws.CopyOwn
import Derived.Deep.Strs
import Derived.ProofKit
namespace Go.Proofs.YtcokpdhhpaahgaaDoor


def I64 (x : Int) : Prop := -9223372036854775808 ≤ x ∧ x ≤ 9223372036854775807
/-- An image. -/
structure Im where
  ver : Int
  size : Int
  dig : List Int
instance : DecidableEq Im := fun a b => decidable_of_iff (a.ver = b.ver ∧ a.size = b.size ∧ a.dig = b.dig) (by cases a; cases b; simp)
/-- What a tenant keeps. -/
structure Mt where
  act : Int
  h0 : Im
  h1 : Im
  least : Int
  phase : Int
  com : Im
  gott : Int
  trials : Int
instance : DecidableEq Mt := fun a b => decidable_of_iff (a.act = b.act ∧ a.h0 = b.h0 ∧ a.h1 = b.h1 ∧ a.least = b.least ∧ a.phase = b.phase ∧ a.com = b.com ∧ a.gott = b.gott ∧ a.trials = b.trials) (by cases a; cases b; simp)
def Im.Ok (i : Im) : Prop := i.dig.length = 32 ∧ Byt i.dig ∧ I64 i.ver ∧ I64 i.size
structure Mt.Ok (m : Mt) : Prop where
  h0 : m.h0.Ok
  h1 : m.h1.Ok
  com : m.com.Ok
  act : I64 m.act
  least : I64 m.least
  phase : I64 m.phase
  gott : I64 m.gott
  trials : I64 m.trials
def zs32 : List Int := List.replicate 32 0
def zeroI : Im := ⟨0, 0, List.replicate 32 0⟩
def zeroT : Mt := ⟨0, zeroI, zeroI, 0, 0, zeroI, 0, 0⟩
theorem i64_zero : I64 0 := by unfold I64; omega
theorem zeroI_ok : zeroI.Ok := ⟨List.length_replicate, byt_rep _, i64_zero, i64_zero⟩
theorem zeroT_ok : zeroT.Ok := ⟨zeroI_ok, zeroI_ok, zeroI_ok, i64_zero, i64_zero, i64_zero, i64_zero, i64_zero⟩
/-- May it be an image, or none? -/
def okI (i : Im) : Bool := decide (i = zeroI) || decide (1 ≤ i.ver ∧ i.ver ≤ 1073741824 ∧ 1 ≤ i.size ∧ i.size ≤ 1920)
def Mt.own (m : Mt) : Im := if m.act = 0 then m.h0 else m.h1
def Mt.oth (m : Mt) : Im := if m.act = 0 then m.h1 else m.h0
def chunkN (n : Int) : Int := (n + 319) / 320
def canB (m : Mt) (o : Im) : Bool := (decide (m.com.ver ≠ 0) && decide (¬ o.ver ≠ 0)) && decide (m.trials = 0)
def inB (m : Mt) : Bool := decide (0 ≤ m.act ∧ m.act ≤ 1) && (okI m.h0 && (okI m.h1 && (okI m.com && (decide (m.own.ver ≠ 0) && (decide (0 ≤ m.least ∧ m.least ≤ 1073741824) && (decide (0 ≤ m.gott ∧ m.gott ≤ 6) && decide (0 ≤ m.trials ∧ m.trials ≤ 2)))))))
def fitB (m : Mt) : Bool :=
  if m.phase = 0 then (decide (m.com.ver = 0) && decide (m.gott = 0)) && decide (m.trials = 0)
  else if m.phase = 1 then canB m m.oth && decide (m.gott ≤ chunkN m.com.size)
  else if m.phase = 2 then canB m m.oth && decide (m.gott = chunkN m.com.size)
  else if m.phase = 3 then (decide (m.com.ver = 0) && decide (m.gott = 0)) && decide (m.oth.ver ≠ 0)
  else false
/-- May it be kept? -/
def rightB (m : Mt) : Bool := inB m && fitB m
theorem okI_fit {i : Im} (h : okI i = true) : (0 ≤ i.ver ∧ i.ver ≤ 1073741824) ∧ (0 ≤ i.size ∧ i.size ≤ 1920) := by
  unfold okI at h
  simp only [Bool.or_eq_true, decide_eq_true_eq] at h
  rcases h with rfl | h
  · simp [zeroI]
  · omega
/-- An image's version is not 0, then its size is not either. -/
theorem okI_ver {i : Im} (h : okI i = true) (hv : i.ver = 0) : i = zeroI := by
  unfold okI at h
  simp only [Bool.or_eq_true, decide_eq_true_eq] at h
  rcases h with h | h
  · exact h
  · omega
theorem okI_size {i : Im} (h : okI i = true) (hv : i.ver ≠ 0) : 1 ≤ i.size := by
  unfold okI at h
  simp only [Bool.or_eq_true, decide_eq_true_eq] at h
  rcases h with rfl | h
  · simp [zeroI] at hv
  · omega
/-- What holds of what is in its bounds. -/
structure In (m : Mt) : Prop where
  act : m.act = 0 ∨ m.act = 1
  h0 : okI m.h0 = true
  h1 : okI m.h1 = true
  com : okI m.com = true
  own : m.own.ver ≠ 0
  least : 0 ≤ m.least ∧ m.least ≤ 1073741824
  gott : 0 ≤ m.gott ∧ m.gott ≤ 6
  trials : 0 ≤ m.trials ∧ m.trials ≤ 2
theorem in_of {m : Mt} (h : inB m = true) : In m := by
  unfold inB at h
  simp only [Bool.and_eq_true, decide_eq_true_eq] at h
  obtain ⟨a, b, c, d, e, f, g, k⟩ := h
  exact ⟨by omega, b, c, d, e, f, g, k⟩
theorem right_in {m : Mt} (h : rightB m = true) : In m := by
  unfold rightB at h
  simp only [Bool.and_eq_true] at h
  exact in_of h.1
theorem fit_phase {m : Mt} (h : fitB m = true) : 0 ≤ m.phase ∧ m.phase ≤ 3 := by
  unfold fitB at h
  by_cases h0 : m.phase = 0
  · omega
  by_cases h1 : m.phase = 1
  · omega
  by_cases h2 : m.phase = 2
  · omega
  by_cases h3 : m.phase = 3
  · omega
  rw [if_neg h0, if_neg h1, if_neg h2, if_neg h3] at h
  cases h
theorem right_phase {m : Mt} (h : rightB m = true) : 0 ≤ m.phase ∧ m.phase ≤ 3 := by
  unfold rightB at h
  simp only [Bool.and_eq_true] at h
  exact fit_phase h.2

theorem raw_all {zs : List Int} {k : Nat} (h : zs.length = k) : rawL zs k = zs := by
  unfold rawL
  rw [List.take_of_length_le (by omega), h, Nat.sub_self]
  simp
/-- An image's bytes, and all of what is kept. -/
def imL (i : Im) : List Int := numL i.ver 4 ++ numL i.size 4 ++ rawL i.dig 32
def metaL (m : Mt) : List Int := [] ++ numL m.act 1 ++ imL m.h0 ++ imL m.h1 ++ numL m.least 4 ++ numL m.phase 1 ++ imL m.com ++ numL m.gott 1 ++ numL m.trials 1
theorem im_len (i : Im) : (imL i).length = 40 := by simp [imL, num_len, raw_len]
theorem meta_len (m : Mt) : (metaL m).length = 128 := by simp [metaL, im_len, num_len]
theorem im_byt {i : Im} (h : i.Ok) : Byt (imL i) := byt_app (byt_app (num_byt _ _) (num_byt _ _)) (raw_byt h.2.1 _)
theorem meta_byt {m : Mt} (h : m.Ok) : Byt (metaL m) :=
  byt_app (byt_app (byt_app (byt_app (byt_app (byt_app (byt_app (byt_app byt_nil (num_byt _ _)) (im_byt h.h0)) (im_byt h.h1)) (num_byt _ _)) (num_byt _ _)) (im_byt h.com)) (num_byt _ _)) (num_byt _ _)
def bytesM (m : Mt) : List Int := if rightB m = true then metaL m else []

/-- What is left behind k bytes. -/
def St (zs : List Int) (k : Nat) : Rs := if k ≤ zs.length then ⟨zs.drop k, false⟩ else ⟨[], true⟩
theorem st_zero (zs : List Int) : St zs 0 = ⟨zs, false⟩ := by unfold St; rw [if_pos (Nat.zero_le _)]; rfl
theorem st_aft (zs : List Int) (k n : Nat) (h : 0 < n) : aft (St zs k) n = St zs (k + n) := by
  unfold St
  by_cases hk : k ≤ zs.length
  · rw [if_pos hk]
    by_cases hn : k + n ≤ zs.length
    · rw [if_pos hn, aft_yes rfl (by simp only [List.length_drop]; omega)]
      simp only [List.drop_drop]
    · rw [if_neg hn, aft_short (by simp only [List.length_drop]; omega)]
  · rw [if_neg hk, if_neg (by omega), aft_bad rfl]
theorem st_got {zs : List Int} {k n : Nat} (h : k + n ≤ zs.length) : got (St zs k) n = (zs.drop k).take n := by
  unfold St
  rw [if_pos (by omega), got_yes rfl (by simp only [List.length_drop]; omega)]
theorem st_low {zs : List Int} {k : Nat} (h : zs.length < k) : (St zs k).bad = true := by unfold St; rw [if_neg (by omega)]
theorem st_fine {zs : List Int} {k : Nat} (h : k ≤ zs.length) : (St zs k).bad = false := by unfold St; rw [if_pos h]
theorem st_ok {zs : List Int} (h : Byt zs) (k : Nat) : (St zs k).Ok := by
  unfold St
  split
  · exact ⟨byt_drop h k, fun h => by cases h⟩
  · exact ⟨byt_nil, fun _ => rfl⟩
theorem st_take {zs : List Int} {k n c : Nat} (hc : c ≤ zs.length) (h : k + n ≤ c) : got (St (zs.take c) k) n = got (St zs k) n := by
  rw [st_got (by rw [List.length_take]; omega), st_got (by omega), List.drop_take, List.take_take, Nat.min_eq_left (by omega)]
def stN (zs : List Int) (k n : Nat) : Int := w64 (val (got (St zs k) n))
theorem i64_w64 (x : Int) : I64 (w64 x) := by
  unfold I64 w64
  rw [IntKind.wrap_i64]
  omega
/-- What an image's bytes say, and all of them. -/
def imgS (zs : List Int) (k : Nat) : Im := ⟨stN zs k 4, stN zs (k + 4) 4, rawL (got (St zs (k + 8)) 32) 32⟩
def toldS (zs : List Int) : Mt := ⟨stN zs 0 1, imgS zs 1, imgS zs 41, stN zs 81 4, stN zs 85 1, imgS zs 86, stN zs 126 1, stN zs 127 1⟩
theorem imgS_ok {zs : List Int} (h : Byt zs) (k : Nat) : (imgS zs k).Ok := ⟨raw_len _ _, raw_byt (got_byt (st_ok h _) _) _, i64_w64 _, i64_w64 _⟩
theorem toldS_ok {zs : List Int} (h : Byt zs) : (toldS zs).Ok := ⟨imgS_ok h _, imgS_ok h _, imgS_ok h _, i64_w64 _, i64_w64 _, i64_w64 _, i64_w64 _, i64_w64 _⟩
theorem stN_take {zs : List Int} {k n c : Nat} (hc : c ≤ zs.length) (h : k + n ≤ c) : stN (zs.take c) k n = stN zs k n := by unfold stN; rw [st_take hc h]
theorem imgS_take {zs : List Int} {k c : Nat} (hc : c ≤ zs.length) (h : k + 40 ≤ c) : imgS (zs.take c) k = imgS zs k := by
  unfold imgS
  rw [stN_take hc (by omega), stN_take hc (by omega), st_take hc (by omega)]
theorem toldS_take {zs : List Int} (hc : 128 ≤ zs.length) : toldS (zs.take 128) = toldS zs := by
  unfold toldS
  rw [stN_take hc (by omega), stN_take hc (by omega), stN_take hc (by omega), stN_take hc (by omega), stN_take hc (by omega), imgS_take hc (by omega), imgS_take hc (by omega), imgS_take hc (by omega)]
/-- Do any bytes say what may be kept? -/
def Good (zs : List Int) : Prop := 128 ≤ zs.length ∧ (zs.drop 128).all (fun x => x == 0) = true ∧ rightB (toldS zs) = true
instance (zs : List Int) : Decidable (Good zs) := by unfold Good; infer_instance
def readM (zs : List Int) : Mt := if Good zs then toldS zs else zeroT
def readE (zs : List Int) : Int := if Good zs then 0 else 6
theorem readM_no {zs : List Int} (h : ¬ Good zs) : readM zs = zeroT := if_neg h
theorem readE_no {zs : List Int} (h : ¬ Good zs) : readE zs = 6 := if_neg h
theorem readM_yes {zs : List Int} (h : Good zs) : readM zs = toldS zs := if_pos h
theorem readE_yes {zs : List Int} (h : Good zs) : readE zs = 0 := if_pos h
theorem readM_ok {zs : List Int} (h : Byt zs) : (readM zs).Ok := by
  unfold readM
  split
  · exact toldS_ok h
  · exact zeroT_ok

/-- The parts of the bytes. -/
theorem parts_of (m : Mt) (T : List Int) :
    ((metaL m ++ T).drop 0).take 1 = numL m.act 1 ∧ ((metaL m ++ T).drop 1).take 4 = numL m.h0.ver 4 ∧ ((metaL m ++ T).drop 5).take 4 = numL m.h0.size 4 ∧ ((metaL m ++ T).drop 9).take 32 = rawL m.h0.dig 32 ∧ ((metaL m ++ T).drop 41).take 4 = numL m.h1.ver 4 ∧ ((metaL m ++ T).drop 45).take 4 = numL m.h1.size 4 ∧ ((metaL m ++ T).drop 49).take 32 = rawL m.h1.dig 32 ∧ ((metaL m ++ T).drop 81).take 4 = numL m.least 4 ∧ ((metaL m ++ T).drop 85).take 1 = numL m.phase 1 ∧ ((metaL m ++ T).drop 86).take 4 = numL m.com.ver 4 ∧ ((metaL m ++ T).drop 90).take 4 = numL m.com.size 4 ∧ ((metaL m ++ T).drop 94).take 32 = rawL m.com.dig 32 ∧ ((metaL m ++ T).drop 126).take 1 = numL m.gott 1 ∧ ((metaL m ++ T).drop 127).take 1 = numL m.trials 1 ∧ (metaL m ++ T).drop 128 = T := by
  have l0 : (numL m.act 1).length = 1 := num_len _ _
  have l1 : (numL m.h0.ver 4).length = 4 := num_len _ _
  have l2 : (numL m.h0.size 4).length = 4 := num_len _ _
  have l3 : (rawL m.h0.dig 32).length = 32 := raw_len _ _
  have l4 : (numL m.h1.ver 4).length = 4 := num_len _ _
  have l5 : (numL m.h1.size 4).length = 4 := num_len _ _
  have l6 : (rawL m.h1.dig 32).length = 32 := raw_len _ _
  have l7 : (numL m.least 4).length = 4 := num_len _ _
  have l8 : (numL m.phase 1).length = 1 := num_len _ _
  have l9 : (numL m.com.ver 4).length = 4 := num_len _ _
  have l10 : (numL m.com.size 4).length = 4 := num_len _ _
  have l11 : (rawL m.com.dig 32).length = 32 := raw_len _ _
  have l12 : (numL m.gott 1).length = 1 := num_len _ _
  have l13 : (numL m.trials 1).length = 1 := num_len _ _
  have d0 : (metaL m ++ T).drop 0 = numL m.act 1 ++ (numL m.h0.ver 4 ++ (numL m.h0.size 4 ++ (rawL m.h0.dig 32 ++ (numL m.h1.ver 4 ++ (numL m.h1.size 4 ++ (rawL m.h1.dig 32 ++ (numL m.least 4 ++ (numL m.phase 1 ++ (numL m.com.ver 4 ++ (numL m.com.size 4 ++ (rawL m.com.dig 32 ++ (numL m.gott 1 ++ (numL m.trials 1 ++ T))))))))))))) := by
    unfold metaL imL
    simp only [List.nil_append, List.append_assoc, List.drop_zero]
  have d1 : (metaL m ++ T).drop 1 = numL m.h0.ver 4 ++ (numL m.h0.size 4 ++ (rawL m.h0.dig 32 ++ (numL m.h1.ver 4 ++ (numL m.h1.size 4 ++ (rawL m.h1.dig 32 ++ (numL m.least 4 ++ (numL m.phase 1 ++ (numL m.com.ver 4 ++ (numL m.com.size 4 ++ (rawL m.com.dig 32 ++ (numL m.gott 1 ++ (numL m.trials 1 ++ T)))))))))))) := by
    rw [show 1 = 0 + 1 from rfl, ← List.drop_drop, d0]; exact List.drop_left' l0
  have d2 : (metaL m ++ T).drop 5 = numL m.h0.size 4 ++ (rawL m.h0.dig 32 ++ (numL m.h1.ver 4 ++ (numL m.h1.size 4 ++ (rawL m.h1.dig 32 ++ (numL m.least 4 ++ (numL m.phase 1 ++ (numL m.com.ver 4 ++ (numL m.com.size 4 ++ (rawL m.com.dig 32 ++ (numL m.gott 1 ++ (numL m.trials 1 ++ T))))))))))) := by
    rw [show 5 = 1 + 4 from rfl, ← List.drop_drop, d1]; exact List.drop_left' l1
  have d3 : (metaL m ++ T).drop 9 = rawL m.h0.dig 32 ++ (numL m.h1.ver 4 ++ (numL m.h1.size 4 ++ (rawL m.h1.dig 32 ++ (numL m.least 4 ++ (numL m.phase 1 ++ (numL m.com.ver 4 ++ (numL m.com.size 4 ++ (rawL m.com.dig 32 ++ (numL m.gott 1 ++ (numL m.trials 1 ++ T)))))))))) := by
    rw [show 9 = 5 + 4 from rfl, ← List.drop_drop, d2]; exact List.drop_left' l2
  have d4 : (metaL m ++ T).drop 41 = numL m.h1.ver 4 ++ (numL m.h1.size 4 ++ (rawL m.h1.dig 32 ++ (numL m.least 4 ++ (numL m.phase 1 ++ (numL m.com.ver 4 ++ (numL m.com.size 4 ++ (rawL m.com.dig 32 ++ (numL m.gott 1 ++ (numL m.trials 1 ++ T))))))))) := by
    rw [show 41 = 9 + 32 from rfl, ← List.drop_drop, d3]; exact List.drop_left' l3
  have d5 : (metaL m ++ T).drop 45 = numL m.h1.size 4 ++ (rawL m.h1.dig 32 ++ (numL m.least 4 ++ (numL m.phase 1 ++ (numL m.com.ver 4 ++ (numL m.com.size 4 ++ (rawL m.com.dig 32 ++ (numL m.gott 1 ++ (numL m.trials 1 ++ T)))))))) := by
    rw [show 45 = 41 + 4 from rfl, ← List.drop_drop, d4]; exact List.drop_left' l4
  have d6 : (metaL m ++ T).drop 49 = rawL m.h1.dig 32 ++ (numL m.least 4 ++ (numL m.phase 1 ++ (numL m.com.ver 4 ++ (numL m.com.size 4 ++ (rawL m.com.dig 32 ++ (numL m.gott 1 ++ (numL m.trials 1 ++ T))))))) := by
    rw [show 49 = 45 + 4 from rfl, ← List.drop_drop, d5]; exact List.drop_left' l5
  have d7 : (metaL m ++ T).drop 81 = numL m.least 4 ++ (numL m.phase 1 ++ (numL m.com.ver 4 ++ (numL m.com.size 4 ++ (rawL m.com.dig 32 ++ (numL m.gott 1 ++ (numL m.trials 1 ++ T)))))) := by
    rw [show 81 = 49 + 32 from rfl, ← List.drop_drop, d6]; exact List.drop_left' l6
  have d8 : (metaL m ++ T).drop 85 = numL m.phase 1 ++ (numL m.com.ver 4 ++ (numL m.com.size 4 ++ (rawL m.com.dig 32 ++ (numL m.gott 1 ++ (numL m.trials 1 ++ T))))) := by
    rw [show 85 = 81 + 4 from rfl, ← List.drop_drop, d7]; exact List.drop_left' l7
  have d9 : (metaL m ++ T).drop 86 = numL m.com.ver 4 ++ (numL m.com.size 4 ++ (rawL m.com.dig 32 ++ (numL m.gott 1 ++ (numL m.trials 1 ++ T)))) := by
    rw [show 86 = 85 + 1 from rfl, ← List.drop_drop, d8]; exact List.drop_left' l8
  have d10 : (metaL m ++ T).drop 90 = numL m.com.size 4 ++ (rawL m.com.dig 32 ++ (numL m.gott 1 ++ (numL m.trials 1 ++ T))) := by
    rw [show 90 = 86 + 4 from rfl, ← List.drop_drop, d9]; exact List.drop_left' l9
  have d11 : (metaL m ++ T).drop 94 = rawL m.com.dig 32 ++ (numL m.gott 1 ++ (numL m.trials 1 ++ T)) := by
    rw [show 94 = 90 + 4 from rfl, ← List.drop_drop, d10]; exact List.drop_left' l10
  have d12 : (metaL m ++ T).drop 126 = numL m.gott 1 ++ (numL m.trials 1 ++ T) := by
    rw [show 126 = 94 + 32 from rfl, ← List.drop_drop, d11]; exact List.drop_left' l11
  have d13 : (metaL m ++ T).drop 127 = numL m.trials 1 ++ T := by
    rw [show 127 = 126 + 1 from rfl, ← List.drop_drop, d12]; exact List.drop_left' l12
  have d14 : (metaL m ++ T).drop 128 = T := by
    rw [show 128 = 127 + 1 from rfl, ← List.drop_drop, d13]; exact List.drop_left' l13
  exact ⟨by rw [d0]; exact List.take_left' l0, by rw [d1]; exact List.take_left' l1, by rw [d2]; exact List.take_left' l2, by rw [d3]; exact List.take_left' l3, by rw [d4]; exact List.take_left' l4, by rw [d5]; exact List.take_left' l5, by rw [d6]; exact List.take_left' l6, by rw [d7]; exact List.take_left' l7, by rw [d8]; exact List.take_left' l8, by rw [d9]; exact List.take_left' l9, by rw [d10]; exact List.take_left' l10, by rw [d11]; exact List.take_left' l11, by rw [d12]; exact List.take_left' l12, by rw [d13]; exact List.take_left' l13, d14⟩
theorem fit_four {x : Int} (h : 0 ≤ x ∧ x ≤ 1073741824) : w64 (val (numL x 4)) = x := by
  rw [val_fit ⟨h.1, by rw [show (256 : Int) ^ 4 = 4294967296 from rfl]; omega⟩, w64_in (by omega)]
theorem fit_one {x : Int} (h : 0 ≤ x ∧ x ≤ 255) : w64 (val (numL x 1)) = x := by
  rw [val_fit ⟨h.1, by rw [show (256 : Int) ^ 1 = 256 from rfl]; omega⟩, w64_in (by omega)]
/-- What may be kept is read as it was written. -/
theorem told_back {m : Mt} (hm : m.Ok) (h : rightB m = true) (T : List Int) : toldS (metaL m ++ T) = m := by
  have hl : 128 ≤ (metaL m ++ T).length := by rw [List.length_append, meta_len]; omega
  obtain ⟨p0, p1, p2, p3, p4, p5, p6, p7, p8, p9, p10, p11, p12, p13, _⟩ := parts_of m T
  have hi := right_in h
  have hp := right_phase h
  have n0 := okI_fit hi.h0
  have n1 := okI_fit hi.h1
  have n2 := okI_fit hi.com
  have b1 := hi.act
  have b2 := hi.least
  have b3 := hi.gott
  have b4 := hi.trials
  have e0 : stN (metaL m ++ T) 0 1 = m.act := by unfold stN; rw [st_got (by omega), p0, fit_one (by omega)]
  have e1 : imgS (metaL m ++ T) 1 = m.h0 := by
    unfold imgS stN
    rw [st_got (by omega), st_got (by omega), st_got (by omega), p1, p2, p3, fit_four (by omega), fit_four (by omega), raw_all (raw_len _ _), raw_all hm.h0.1]
  have e2 : imgS (metaL m ++ T) 41 = m.h1 := by
    unfold imgS stN
    rw [st_got (by omega), st_got (by omega), st_got (by omega), p4, p5, p6, fit_four (by omega), fit_four (by omega), raw_all (raw_len _ _), raw_all hm.h1.1]
  have e3 : stN (metaL m ++ T) 81 4 = m.least := by unfold stN; rw [st_got (by omega), p7, fit_four (by omega)]
  have e4 : stN (metaL m ++ T) 85 1 = m.phase := by unfold stN; rw [st_got (by omega), p8, fit_one (by omega)]
  have e5 : imgS (metaL m ++ T) 86 = m.com := by
    unfold imgS stN
    rw [st_got (by omega), st_got (by omega), st_got (by omega), p9, p10, p11, fit_four (by omega), fit_four (by omega), raw_all (raw_len _ _), raw_all hm.com.1]
  have e6 : stN (metaL m ++ T) 126 1 = m.gott := by unfold stN; rw [st_got (by omega), p12, fit_one (by omega)]
  have e7 : stN (metaL m ++ T) 127 1 = m.trials := by unfold stN; rw [st_got (by omega), p13, fit_one (by omega)]
  unfold toldS
  rw [e0, e1, e2, e3, e4, e5, e6, e7]
theorem good_back {m : Mt} (hm : m.Ok) (h : rightB m = true) {T : List Int} (hT : T.all (fun x => x == 0) = true) : Good (metaL m ++ T) ∧ toldS (metaL m ++ T) = m := by
  obtain ⟨_, _, _, _, _, _, _, _, _, _, _, _, _, _, p14⟩ := parts_of m T
  have e := told_back hm h T
  exact ⟨⟨by rw [List.length_append, meta_len]; omega, by rw [p14]; exact hT, by rw [e]; exact h⟩, e⟩
theorem not_short {zs : List Int} (h : zs.length < 128) : ¬ Good zs := fun g => by have := g.1; omega
theorem not_one (m : Mt) : ¬ Good (metaL m ++ [1]) := fun g => by
  obtain ⟨_, _, _, _, _, _, _, _, _, _, _, _, _, _, p14⟩ := parts_of m [1]
  have := g.2.1
  rw [p14] at this
  simp at this
end Go.Proofs.YtcokpdhhpaahgaaDoor

namespace Go.Proofs.YtcokpdhhpaahgaaDoor
open Go.RowKit
set_option linter.unusedVariables false
set_option linter.unusedSimpArgs false

/-- An image's cells, and what is kept. -/
def Im.list (i : Im) : List Value := Value.int .i64 i.ver :: Value.int .i64 i.size :: nums i.dig
def Im.cells (i : Im) : Array Value := i.list.toArray
def Mt.list (m : Mt) : List Value := Value.int .i64 m.act :: (m.h0.list ++ (m.h1.list ++ (Value.int .i64 m.least :: Value.int .i64 m.phase :: (m.com.list ++ [Value.int .i64 m.gott, Value.int .i64 m.trials]))))
def Mt.cells (m : Mt) : Array Value := m.list.toArray
theorem iml_len {i : Im} (h : i.Ok) : i.list.length = 34 := by simp [Im.list, nums, h.1]
theorem mtl_len {m : Mt} (h : m.Ok) : m.list.length = 107 := by simp [Mt.list, iml_len h.h0, iml_len h.h1, iml_len h.com]
theorem im_size {i : Im} (h : i.Ok) : i.cells.size = 34 := by simp [Im.cells, iml_len h]
theorem mt_size {m : Mt} (h : m.Ok) : m.cells.size = 107 := by simp [Mt.cells, mtl_len h]
theorem iml_one (i : Im) : ∀ v ∈ i.list, v.oneCell' = true := by
  intro v hv
  simp only [Im.list, List.mem_cons] at hv
  rcases hv with rfl | rfl | hv
  · rfl
  · rfl
  · exact nums_one _ v hv
theorem mtl_one (m : Mt) : ∀ v ∈ m.list, v.oneCell' = true := by
  intro v hv
  simp only [Mt.list, List.mem_cons, List.mem_append, List.not_mem_nil, or_false] at hv
  rcases hv with rfl | hv | hv | rfl | rfl | hv | rfl | rfl
  · rfl
  · exact iml_one _ v hv
  · exact iml_one _ v hv
  · rfl
  · rfl
  · exact iml_one _ v hv
  · rfl
  · rfl
theorem im_all (i : Im) : i.cells.all (·.oneCell') = true := all_oneCell_toArray (iml_one i)
theorem mt_all (m : Mt) : m.cells.all (·.oneCell') = true := all_oneCell_toArray (mtl_one m)
theorem size24 {i : Im} (h : i.Ok) : (Tryd.prog.info? 24).map (·.size) = some i.cells.size := by rw [im_size h]; kernel_rfl
theorem size24l {i : Im} (h : i.Ok) : (Tryd.prog.info? 24).map (·.size) = some i.list.length := by rw [iml_len h]; kernel_rfl
theorem size27 {m : Mt} (h : m.Ok) : (Tryd.prog.info? 27).map (·.size) = some m.cells.size := by rw [mt_size h]; kernel_rfl
theorem old24 {i k : Im} (h : i.Ok) (h' : k.Ok) : i.cells.size = k.cells.size := by rw [im_size h, im_size h']
theorem old27 {m k : Mt} (h : m.Ok) (h' : k.Ok) : m.cells.size = k.cells.size := by rw [mt_size h, mt_size h']
theorem zero24_run : ∀ w : World, (zeroValue 24).run Tryd.prog w = .ok (.agg zeroI.cells) w := (zero_of_info (P := Tryd.prog) (t := 24) (n := 34) (by kernel_rfl)).1
theorem zero27_run : ∀ w : World, (zeroValue 27).run Tryd.prog w = .ok (.agg zeroT.cells) w := (zero_of_info (P := Tryd.prog) (t := 27) (n := 107) (by kernel_rfl)).1
theorem built24 : Tryd.prog.built 24 [] = some zeroI.cells := by kernel_rfl
theorem built27 : Tryd.prog.built 27 [] = some zeroT.cells := by kernel_rfl
theorem built24b (v n : Int) : Tryd.prog.built 24 [(0, .int .i64 v), (1, .int .i64 n)] = some (Im.cells ⟨v, n, List.replicate 32 0⟩) := by kernel_rfl
theorem built27a (v : Int) : Tryd.prog.built 27 [(0, .int .i64 v)] = some (Mt.cells ⟨v, zeroI, zeroI, 0, 0, zeroI, 0, 0⟩) := by kernel_rfl

/-! Where each part lies -/
theorem mt_0 (m : Mt) : m.cells[0]? = some (.int .i64 m.act) := rfl
theorem mt_h0 {m : Mt} (h : m.Ok) (j : Nat) (hj : j < 34) : m.cells[1 + j]? = m.h0.list[j]? := by
  have l0 := iml_len h.h0
  simp only [Mt.cells, List.getElem?_toArray, Mt.list]
  rw [Nat.add_comm, List.getElem?_cons_succ, List.getElem?_append_left (by omega)]
theorem mt_h1 {m : Mt} (h : m.Ok) (j : Nat) (hj : j < 34) : m.cells[35 + j]? = m.h1.list[j]? := by
  have l0 := iml_len h.h0
  have l1 := iml_len h.h1
  simp only [Mt.cells, List.getElem?_toArray, Mt.list]
  rw [show 35 + j = (34 + j) + 1 by omega, List.getElem?_cons_succ, List.getElem?_append_right (by omega), List.getElem?_append_left (by omega)]
  congr 1; omega
theorem mt_tail {m : Mt} (h : m.Ok) (j : Nat) : m.cells[69 + j]? = (Value.int .i64 m.least :: Value.int .i64 m.phase :: (m.com.list ++ [Value.int .i64 m.gott, Value.int .i64 m.trials]))[j]? := by
  have l0 := iml_len h.h0
  have l1 := iml_len h.h1
  simp only [Mt.cells, List.getElem?_toArray, Mt.list]
  rw [show 69 + j = (68 + j) + 1 by omega, List.getElem?_cons_succ, List.getElem?_append_right (by omega), List.getElem?_append_right (by omega)]
  congr 1; omega
theorem mt_least {m : Mt} (h : m.Ok) : m.cells[69]? = some (.int .i64 m.least) := mt_tail h 0
theorem mt_phase {m : Mt} (h : m.Ok) : m.cells[70]? = some (.int .i64 m.phase) := mt_tail h 1
theorem mt_com {m : Mt} (h : m.Ok) (j : Nat) (hj : j < 34) : m.cells[71 + j]? = m.com.list[j]? := by
  have l2 := iml_len h.com
  rw [show 71 + j = 69 + (j + 2) by omega, mt_tail h, List.getElem?_cons_succ, List.getElem?_cons_succ, List.getElem?_append_left (by omega)]
theorem mt_gott {m : Mt} (h : m.Ok) : m.cells[105]? = some (.int .i64 m.gott) := by
  have l2 := iml_len h.com
  rw [show 105 = 69 + 36 by omega, mt_tail h, List.getElem?_cons_succ, List.getElem?_cons_succ, List.getElem?_append_right (by omega), l2]
  rfl
theorem mt_trials {m : Mt} (h : m.Ok) : m.cells[106]? = some (.int .i64 m.trials) := by
  have l2 := iml_len h.com
  rw [show 106 = 69 + 37 by omega, mt_tail h, List.getElem?_cons_succ, List.getElem?_cons_succ, List.getElem?_append_right (by omega), l2]
  rfl
theorem lt_list {i : Im} (h : i.Ok) {j : Nat} {v : Value} (hv : i.list[j]? = some v) : j < 34 := by
  have := (List.getElem?_eq_some_iff.1 hv).1
  rwa [iml_len h] at this
theorem rng_h0 {w : World} {g : Nat} {m : Mt} (hg : Has w g 27 m.cells) (h : m.Ok) : w.rangeAt g 1 m.h0.list := fun j v hv => by rw [hg.at, mt_h0 h j (lt_list h.h0 hv)]; exact hv
theorem rng_h1 {w : World} {g : Nat} {m : Mt} (hg : Has w g 27 m.cells) (h : m.Ok) : w.rangeAt g 35 m.h1.list := fun j v hv => by rw [hg.at, mt_h1 h j (lt_list h.h1 hv)]; exact hv
theorem rng_com {w : World} {g : Nat} {m : Mt} (hg : Has w g 27 m.cells) (h : m.Ok) : w.rangeAt g 71 m.com.list := fun j v hv => by rw [hg.at, mt_com h j (lt_list h.com hv)]; exact hv
theorem ld24 {w : World} {g o : Nat} {i : Im} (hr : w.rangeAt g o i.list) (h : i.Ok) : (Instr.loadAt 24 (.pointer (some ⟨g, o, none⟩))).run Tryd.prog w = .ok (.agg i.cells) w :=
  run_loadAt_mid w g o 24 i.list _ hr Tryd.underlying24 rfl (size24l h)
theorem ld24w {w : World} {g : Nat} {i : Im} (hg : Has w g 24 i.cells) (h : i.Ok) : (Instr.loadAt 24 (.pointer (some ⟨g, 0, none⟩))).run Tryd.prog w = .ok (.agg i.cells) w := by
  simp only [Instr.loadAt, Instr.sureAddr, Sem.run_bind, Sem.run_pure, Result.andThen_ok, run_loadVar_row w g 24 24 i.cells (0, 0) _ hg Tryd.underlying24 rfl (size24 h)]
theorem ld27 {w : World} {g : Nat} {m : Mt} (hg : Has w g 27 m.cells) (h : m.Ok) : (Instr.loadAt 27 (.pointer (some ⟨g, 0, none⟩))).run Tryd.prog w = .ok (.agg m.cells) w := by
  simp only [Instr.loadAt, Instr.sureAddr, Sem.run_bind, Sem.run_pure, Result.andThen_ok, run_loadVar_row w g 27 27 m.cells (0, 0) _ hg Tryd.underlying27 rfl (size27 h)]
/-- All that is read of what is kept, in a world. -/
structure Seen (w : World) (g : Nat) (m : Mt) : Prop where
  act : w.cell? ⟨g, 0, none⟩ = some (.int .i64 m.act)
  v0 : w.cell? ⟨g, 1, none⟩ = some (.int .i64 m.h0.ver)
  v1 : w.cell? ⟨g, 35, none⟩ = some (.int .i64 m.h1.ver)
  least : w.cell? ⟨g, 69, none⟩ = some (.int .i64 m.least)
  phase : w.cell? ⟨g, 70, none⟩ = some (.int .i64 m.phase)
  v2 : w.cell? ⟨g, 71, none⟩ = some (.int .i64 m.com.ver)
  s2 : w.cell? ⟨g, 72, none⟩ = some (.int .i64 m.com.size)
  gott : w.cell? ⟨g, 105, none⟩ = some (.int .i64 m.gott)
  trials : w.cell? ⟨g, 106, none⟩ = some (.int .i64 m.trials)
  l0 : (Instr.loadAt 24 (.pointer (some ⟨g, 1, none⟩))).run Tryd.prog w = .ok (.agg m.h0.cells) w
  l1 : (Instr.loadAt 24 (.pointer (some ⟨g, 35, none⟩))).run Tryd.prog w = .ok (.agg m.h1.cells) w
  l2 : (Instr.loadAt 24 (.pointer (some ⟨g, 71, none⟩))).run Tryd.prog w = .ok (.agg m.com.cells) w
  all : (Instr.loadAt 27 (.pointer (some ⟨g, 0, none⟩))).run Tryd.prog w = .ok (.agg m.cells) w
theorem seen_of {w : World} {g : Nat} {m : Mt} (hg : Has w g 27 m.cells) (h : m.Ok) : Seen w g m :=
  ⟨hg.at 0, (hg.at 1).trans (mt_h0 h 0 (by omega)), (hg.at 35).trans (mt_h1 h 0 (by omega)), (hg.at 69).trans (mt_least h), (hg.at 70).trans (mt_phase h), (hg.at 71).trans (mt_com h 0 (by omega)), (hg.at 72).trans (mt_com h 1 (by omega)),
    (hg.at 105).trans (mt_gott h), (hg.at 106).trans (mt_trials h), ld24 (rng_h0 hg h) h.h0, ld24 (rng_h1 hg h) h.h1, ld24 (rng_com hg h) h.com, ld27 hg h⟩

/-! How they compare -/
set_option maxRecDepth 100000 in
theorem eqItems_is (xs ys : List Int) (w : World) (d : Nat) : ∀ is : List Nat, (∀ i ∈ is, i < xs.length ∧ i < ys.length) → (Op.eqItems (d + 1) 5 1 (nums xs).toArray (nums ys).toArray is).run Tryd.prog w = .ok (decide (∀ i ∈ is, xs.getD i 0 = ys.getD i 0)) w
  | [], _ => by simp [Op.eqItems]
  | i :: is, hh => by
    obtain ⟨h1, h2⟩ := hh i (by simp)
    have hp : (part 5 (nums xs).toArray (i * 1)).run Tryd.prog w = .ok (.int .u8 xs[i]) w := by
      have hc : (nums xs).toArray[i]? = some (.int .u8 xs[i]) := by simp [nums, h1]
      simp [part, go_sem, hc]
    have hq : (part 5 (nums ys).toArray (i * 1)).run Tryd.prog w = .ok (.int .u8 ys[i]) w := by
      have hc : (nums ys).toArray[i]? = some (.int .u8 ys[i]) := by simp [nums, h2]
      simp [part, go_sem, hc]
    have he : (Op.equalIn (d + 1) 5 (.int .u8 xs[i]) (.int .u8 ys[i])).run Tryd.prog w = .ok (xs[i] == ys[i]) w := run_equalIn_int w d 5 .u8 .u8 _ _ Tryd.underlying5
    have ex : xs.getD i 0 = xs[i] := by simp [List.getD_eq_getElem?_getD, h1]
    have ey : ys.getD i 0 = ys[i] := by simp [List.getD_eq_getElem?_getD, h2]
    simp only [Op.eqItems, Sem.run_bind, hp, hq, Result.andThen_ok, he]
    by_cases e : xs[i] = ys[i]
    · simp only [e, beq_self_eq_true, Bool.not_true, Bool.false_eq_true, if_false]
      rw [eqItems_is xs ys w d is (fun j hj => hh j (by simp [hj]))]
      congr 1
      rw [decide_eq_decide]
      simp only [List.mem_cons, forall_eq_or_imp, ex, ey, e, true_and]
    · rw [beq_eq_false_iff_ne.2 e]
      simp only [Bool.not_false, if_true, Sem.run_pure]
      congr 1
      symm
      rw [decide_eq_false_iff_not]
      intro hall
      have := hall i (by simp)
      rw [ex, ey] at this
      exact e this
set_option maxRecDepth 100000 in
theorem eq22 {xs ys : List Int} (hx : xs.length = 32) (hy : ys.length = 32) (w : World) (d : Nat) : (Op.equalIn (d + 2) 22 (.agg (nums xs).toArray) (.agg (nums ys).toArray)).run Tryd.prog w = .ok (decide (xs = ys)) w := by
  obtain ⟨i, hi, _, _, _⟩ := info_parts info5
  rw [run_equalIn_array w (d + 1) (nums xs).toArray (nums ys).toArray Tryd.underlying22 hi, show Tryd.prog.cellsOf 5 = 1 by kernel_rfl, eqItems_is xs ys w d _ (fun i hi => by have := List.mem_range.1 hi; omega)]
  congr 1
  rw [decide_eq_decide]
  constructor
  · intro h
    refine List.ext_getElem (by omega) fun j h1 h2 => ?_
    have := h j (List.mem_range.2 (by omega))
    simpa [List.getD_eq_getElem?_getD, h1, h2] using this
  · rintro rfl j _
    rfl
end Go.Proofs.YtcokpdhhpaahgaaDoor

namespace Go.Proofs.YtcokpdhhpaahgaaDoor
open Go.RowKit
set_option linter.unusedVariables false
set_option linter.unusedSimpArgs false

theorem is_agg (t : TypeId) (d : TypeDesc) (h : Tryd.prog.underlying t = some d) (hd : d.isRow = true) (w : World) : (isAgg t).run Tryd.prog w = .ok true w := by
  unfold isAgg
  rw [Sem.run_bind, run_underlying h w]
  cases d <;> simp_all
theorem not_agg3 (w : World) : (isAgg 3).run Tryd.prog w = .ok false w := by unfold isAgg; rw [Sem.run_bind, run_underlying Tryd.underlying3 w]; rfl
theorem size_is (t : TypeId) (n : Nat) (h : (Tryd.prog.info? t).map (·.size) = some n) (w : World) : (sizeOf t).run Tryd.prog w = .ok n w := by
  obtain ⟨i, hi, hsz⟩ := Option.map_eq_some_iff.1 h
  simp [sizeOf, typeInfo, hi, hsz]
theorem part_agg (t : TypeId) (d : TypeDesc) (n k : Nat) (cs ds : Array Value) (h : Tryd.prog.underlying t = some d) (hd : d.isRow = true) (hs : (Tryd.prog.info? t).map (·.size) = some n) (e : cs.extract k (k + n) = ds) (w : World) : (part t cs k).run Tryd.prog w = .ok (.agg ds) w := by
  unfold part
  rw [Sem.run_bind, is_agg t d h hd]
  simp only [Result.andThen_ok, if_true, Sem.run_bind, size_is t n hs, Sem.run_pure, e]
theorem part_int (k : Nat) (cs : Array Value) (x : Int) (h : cs[k]? = some (.int .i64 x)) (w : World) : (part 3 cs k).run Tryd.prog w = .ok (.int .i64 x) w := by
  unfold part
  rw [Sem.run_bind, not_agg3]
  simp [h]
theorem im_dig {i : Im} (h : i.Ok) : i.cells.extract 2 (2 + 32) = (nums i.dig).toArray := by
  have h2 : (nums i.dig).length = 32 := by rw [nums_len, h.1]
  simp [Im.cells, Im.list]
  exact List.take_of_length_le (by omega)
theorem size22 : (Tryd.prog.info? 22).map (·.size) = some 32 := by kernel_rfl
theorem size24n : (Tryd.prog.info? 24).map (·.size) = some 34 := by kernel_rfl
theorem size25 : (Tryd.prog.info? 25).map (·.size) = some 68 := by kernel_rfl
theorem under24 : Tryd.prog.underlying 24 = some (.struct (Tryd.prog.fieldsOf 24)) := by kernel_rfl
theorem under27 : Tryd.prog.underlying 27 = some (.struct (Tryd.prog.fieldsOf 27)) := by kernel_rfl
theorem stood24 : Tryd.prog.stoodInHeld 24 = false := by kernel_rfl
theorem stood27 : Tryd.prog.stoodInHeld 27 = false := by kernel_rfl
theorem eq24d {i k : Im} (hi : i.Ok) (hk : k.Ok) (w : World) (d : Nat) : (Op.equalIn (d + 3) 24 (.agg i.cells) (.agg k.cells)).run Tryd.prog w = .ok (decide (i = k)) w := by
  have a0 := fun w => part_int 0 i.cells i.ver rfl w
  have a1 := fun w => part_int 1 i.cells i.size rfl w
  have a2 := fun w => part_agg 22 _ 32 2 i.cells _ Tryd.underlying22 rfl size22 (im_dig hi) w
  have b0 := fun w => part_int 0 k.cells k.ver rfl w
  have b1 := fun w => part_int 1 k.cells k.size rfl w
  have b2 := fun w => part_agg 22 _ 32 2 k.cells _ Tryd.underlying22 rfl size22 (im_dig hk) w
  have q := fun w => eq22 hi.1 hk.1 w d
  rw [run_equalIn_agg w (d + 2) 24 _ _ under24 stood24]
  simp only [Program.fieldsOf, Tryd.underlying24, Op.eqFields, ne_eq, reduceCtorEq, not_false_eq_true, if_true, Sem.run_bind, a0, a1, a2, b0, b1, b2, Result.andThen_ok, run_equalIn_int w (d + 1) 3 .i64 .i64 _ _ Tryd.underlying3, q, Sem.run_pure, Sem.run_ite]
  have hik : i = k ↔ i.ver = k.ver ∧ i.size = k.size ∧ i.dig = k.dig := by
    cases i; cases k; simp
  by_cases e0 : i.ver = k.ver
  · by_cases e1 : i.size = k.size
    · by_cases e2 : i.dig = k.dig
      · have e3 : i = k := hik.2 ⟨e0, e1, e2⟩
        subst e3
        simp
      · have e3 : ¬ i = k := fun h => e2 (hik.1 h).2.2
        simp [e0, e1, e2, e3]
    · have e3 : ¬ i = k := fun h => e1 (hik.1 h).2.1
      simp [e0, e1, e3]
  · have e3 : ¬ i = k := fun h => e0 (hik.1 h).1
    simp [e0, e3]
theorem eq24 {i k : Im} (hi : i.Ok) (hk : k.Ok) (w : World) : (Op.equalIn 10000 24 (.agg i.cells) (.agg k.cells)).run Tryd.prog w = .ok (decide (i = k)) w := eq24d hi hk w 9997
theorem mt_have {m : Mt} (h : m.Ok) : m.cells.extract 1 (1 + 68) = (m.h0.list ++ m.h1.list).toArray := by
  have l0 := iml_len h.h0
  have l1 := iml_len h.h1
  simp only [Mt.cells, Mt.list, List.extract_toArray, List.extract_eq_take_drop, List.drop_succ_cons, List.drop_zero]
  rw [← List.append_assoc, List.take_append_of_le_length (by rw [List.length_append]; omega), List.take_of_length_le (by rw [List.length_append]; omega)]
theorem mt_coming {m : Mt} (h : m.Ok) : m.cells.extract 71 (71 + 34) = m.com.cells := by
  apply Array.ext'
  refine List.ext_getElem? fun j => ?_
  have l2 := iml_len h.com
  have hs := mt_size h
  by_cases hj : j < 34
  · have := mt_com h j hj
    simp only [Array.getElem?_toList, Array.getElem?_extract]
    rw [if_pos (by omega), this]
    simp [Im.cells]
  · simp only [Array.getElem?_toList, Array.getElem?_extract]
    rw [if_neg (by omega)]
    simp [Im.cells]
    omega
theorem have_0 {m : Mt} (h : m.Ok) : (m.h0.list ++ m.h1.list).toArray.extract 0 (0 + 34) = m.h0.cells := by
  have l0 := iml_len h.h0
  simp only [List.extract_toArray, List.extract_eq_take_drop, List.drop_zero, Im.cells]
  rw [List.take_append_of_le_length (by omega), List.take_of_length_le (by omega)]
theorem have_1 {m : Mt} (h : m.Ok) : (m.h0.list ++ m.h1.list).toArray.extract 34 (34 + 34) = m.h1.cells := by
  have l0 := iml_len h.h0
  have l1 := iml_len h.h1
  simp only [List.extract_toArray, List.extract_eq_take_drop, Im.cells]
  rw [List.drop_left' l0, List.take_of_length_le (by omega)]
theorem same25 {m : Mt} (h : m.Ok) (w : World) (d : Nat) : (Op.equalIn (d + 4) 25 (.agg (m.h0.list ++ m.h1.list).toArray) (.agg (m.h0.list ++ m.h1.list).toArray)).run Tryd.prog w = .ok true w := by
  obtain ⟨i, hi, _⟩ := Option.map_eq_some_iff.1 size24n
  have p0 : (part 24 (m.h0.list ++ m.h1.list).toArray (0 * 34)).run Tryd.prog w = .ok (.agg m.h0.cells) w := part_agg 24 _ 34 0 _ _ Tryd.underlying24 rfl size24n (have_0 h) w
  have p1 : (part 24 (m.h0.list ++ m.h1.list).toArray (1 * 34)).run Tryd.prog w = .ok (.agg m.h1.cells) w := part_agg 24 _ 34 34 _ _ Tryd.underlying24 rfl size24n (have_1 h) w
  have q0 := eq24d h.h0 h.h0 w d
  have q1 := eq24d h.h1 h.h1 w d
  rw [decide_eq_true rfl] at q0 q1
  rw [run_equalIn_array w (d + 3) _ _ Tryd.underlying25 hi, show Tryd.prog.cellsOf 24 = 34 by kernel_rfl, show List.range 2 = [0, 1] from rfl]
  simp only [Op.eqItems, Sem.run_bind, p0, p1, q0, q1, Result.andThen_ok, Bool.not_true, Bool.false_eq_true, if_false, Sem.run_pure]
/-- What is kept is the same as itself. -/
theorem same27 {m : Mt} (h : m.Ok) (w : World) : (Op.equalIn 10000 27 (.agg m.cells) (.agg m.cells)).run Tryd.prog w = .ok true w := by
  have p0 := fun w => part_int 0 m.cells m.act rfl w
  have p1 := fun w => part_agg 25 _ 68 1 m.cells _ Tryd.underlying25 rfl size25 (mt_have h) w
  have p2 := fun w => part_int 69 m.cells m.least (mt_least h) w
  have p3 := fun w => part_int 70 m.cells m.phase (mt_phase h) w
  have p4 := fun w => part_agg 24 _ 34 71 m.cells _ Tryd.underlying24 rfl size24n (mt_coming h) w
  have p5 := fun w => part_int 105 m.cells m.gott (mt_gott h) w
  have p6 := fun w => part_int 106 m.cells m.trials (mt_trials h) w
  have q1 := fun w => same25 h w 9995
  have q4 := fun w => eq24d h.com h.com w 9996
  simp only [decide_true] at q4
  rw [show (10000 : Nat) = 9999 + 1 from rfl, run_equalIn_agg w 9999 27 _ _ under27 stood27]
  simp only [Program.fieldsOf, Tryd.underlying27, Op.eqFields, ne_eq, reduceCtorEq, not_false_eq_true, if_true, Sem.run_bind, p0, p1, p2, p3, p4, p5, p6, Result.andThen_ok, run_equalIn_int w 9998 3 .i64 .i64 _ _ Tryd.underlying3, q1, q4, beq_self_eq_true, Bool.not_true, Bool.false_eq_true, if_false, Sem.run_pure, Sem.run_ite]
  rfl

/-! What is written into it -/
theorem mt_set0 (m : Mt) (v : Int) : m.cells.setIfInBounds 0 (.int .i64 v) = Mt.cells { m with act := v } := by simp [Mt.cells, Mt.list]
theorem set_tail (m : Mt) (v : Value) (j : Nat) (h : m.Ok) : m.cells.setIfInBounds (69 + j) v = (Value.int .i64 m.act :: (m.h0.list ++ (m.h1.list ++ ((Value.int .i64 m.least :: Value.int .i64 m.phase :: (m.com.list ++ [Value.int .i64 m.gott, Value.int .i64 m.trials])).set j v)))).toArray := by
  have l0 := iml_len h.h0
  have l1 := iml_len h.h1
  simp only [Mt.cells, Mt.list, List.setIfInBounds_toArray]
  rw [show 69 + j = (68 + j) + 1 by omega, List.set_cons_succ, List.set_append_right _ _ (by omega), List.set_append_right _ _ (by omega), show 68 + j - m.h0.list.length - m.h1.list.length = j by omega]
theorem mt_set69 {m : Mt} (v : Int) (h : m.Ok) : m.cells.setIfInBounds 69 (.int .i64 v) = Mt.cells { m with least := v } := set_tail m _ 0 h
theorem mt_set70 {m : Mt} (v : Int) (h : m.Ok) : m.cells.setIfInBounds 70 (.int .i64 v) = Mt.cells { m with phase := v } := set_tail m _ 1 h
theorem mt_set105 {m : Mt} (v : Int) (h : m.Ok) : m.cells.setIfInBounds 105 (.int .i64 v) = Mt.cells { m with gott := v } := by
  have l2 := iml_len h.com
  rw [show 105 = 69 + 36 by omega, set_tail m _ 36 h, List.set_cons_succ, List.set_cons_succ, List.set_append_right _ _ (by omega), l2]
  rfl
theorem mt_set106 {m : Mt} (v : Int) (h : m.Ok) : m.cells.setIfInBounds 106 (.int .i64 v) = Mt.cells { m with trials := v } := by
  have l2 := iml_len h.com
  rw [show 106 = 69 + 37 by omega, set_tail m _ 37 h, List.set_cons_succ, List.set_cons_succ, List.set_append_right _ _ (by omega), l2]
  rfl
theorem mt_put0 {m : Mt} (i : Im) (h : m.Ok) (hi : i.Ok) : (m.cells.toList.take 1 ++ i.list ++ m.cells.toList.drop (1 + i.list.length)).toArray = Mt.cells { m with h0 := i } := by
  have l0 := iml_len h.h0
  have l := iml_len hi
  simp only [Mt.cells, Mt.list, List.take_succ_cons, List.take_zero, l]
  rw [show 1 + 34 = 34 + 1 from rfl, List.drop_succ_cons, List.drop_left' l0]
  simp
theorem mt_put1 {m : Mt} (i : Im) (h : m.Ok) (hi : i.Ok) : (m.cells.toList.take 35 ++ i.list ++ m.cells.toList.drop (35 + i.list.length)).toArray = Mt.cells { m with h1 := i } := by
  have l0 := iml_len h.h0
  have l1 := iml_len h.h1
  have l := iml_len hi
  simp only [Mt.cells, Mt.list, l]
  rw [show 35 + 34 = (34 + 34) + 1 from rfl, List.drop_succ_cons, show 35 = 34 + 1 from rfl, List.take_succ_cons, List.take_left' l0, ← List.drop_drop, List.drop_left' l0, List.drop_left' l1]
  simp
theorem mt_put2 {m : Mt} (i : Im) (h : m.Ok) (hi : i.Ok) : (m.cells.toList.take 71 ++ i.list ++ m.cells.toList.drop (71 + i.list.length)).toArray = Mt.cells { m with com := i } := by
  have l0 := iml_len h.h0
  have l1 := iml_len h.h1
  have l2 := iml_len h.com
  have l := iml_len hi
  obtain ⟨A, hA⟩ : ∃ A, A = Value.int .i64 m.act :: (m.h0.list ++ (m.h1.list ++ [Value.int .i64 m.least, Value.int .i64 m.phase])) := ⟨_, rfl⟩
  have lA : A.length = 71 := by simp [hA, l0, l1]
  have e : ∀ c : Im, (Mt.cells { m with com := c }).toList = A ++ (c.list ++ [Value.int .i64 m.gott, Value.int .i64 m.trials]) := by
    intro c
    simp [Mt.cells, Mt.list, hA]
  have e1 : m.cells.toList = A ++ (m.com.list ++ [Value.int .i64 m.gott, Value.int .i64 m.trials]) := e m.com
  apply Array.ext'
  rw [e i, e1, List.take_left' lA, ← List.drop_drop, List.drop_left' lA, l, List.drop_left' l2]
  simp
end Go.Proofs.YtcokpdhhpaahgaaDoor

namespace Go.Proofs.YtcokpdhhpaahgaaDoor
open Go.RowKit
set_option linter.unusedVariables false
set_option linter.unusedSimpArgs false

theorem ret_bool {a b : Bool} (h : a = b) : Ending.returned (.bool a) = .returned (.bool b) := by rw [h]
theorem ret_int {a b : Int} (h : a = b) : Ending.returned (.int .i64 a) = .returned (.int .i64 b) := by rw [h]
theorem wpList_build_to {w : World} {ops : Array Oper} {rest : List Oper} {o : Oper} {a : Act} {Q : Exit → Act → World → Prop} (hg : o.guard = none) (t : TypeId) (parts : Array (Nat × Operand)) (ho : o.op = .build t parts)
    (cells : Array Value) (hb : Tryd.prog.built t (parts.map fun (i, x) => (i, a.eval x)).toList = some cells) (h : wpList Tryd.prog ops Q rest (a.put o.dst (.agg cells)) w) : wpList Tryd.prog ops Q (o :: rest) a w :=
  wpList_build hg t parts ho (by rw [hb]; rfl) (by rw [hb]; exact h)
/-- A load whose run is known, guarded or not. -/
theorem wpList_ld {w : World} {ops : Array Oper} {rest : List Oper} {o : Oper} {a : Act} {Q : Exit → Act → World → Prop} (ty : TypeId) (x : Operand) (ho : o.op = .load ty x) (p v : Value) (hr : (Instr.loadAt ty p).run Tryd.prog w = .ok v w) (hx : a.eval x = p) (hw : Region.wanted o (yielded ops a.tmps) = true)
    (h : wpList Tryd.prog ops Q rest (a.put o.dst v) w) : wpList Tryd.prog ops Q (o :: rest) a w :=
  wpList_step fun K hK => by
    rw [if_pos hw]
    unfold Oper.wp execOp
    simp only [ho, hx, Sem.run_bind, hr, Result.andThen_ok]
    exact hK _ _ h
theorem wpList_eqI {w : World} {ops : Array Oper} {rest : List Oper} {o : Oper} {a : Act} {Q : Exit → Act → World → Prop} (hg : o.guard = none) (x y : Operand) (ho : o.op = .binOp .eql 24 x y 24) (i k : Im) (hx : a.eval x = .agg i.cells) (hy : a.eval y = .agg k.cells) (hi : i.Ok) (hk : k.Ok) (z : Bool) (hz : decide (i = k) = z)
    (h : wpList Tryd.prog ops Q rest (a.put o.dst (.bool z)) w) : wpList Tryd.prog ops Q (o :: rest) a w :=
  wpList_plain hg fun K hK => by
    have h1 := run_eqGuard_agg (P := Tryd.prog) w .eql 24 x y i.cells k.cells (by kernel_rfl)
    have h2 := run_eql_struct (P := Tryd.prog) w 24 i.cells k.cells
    rw [eq24 hi hk w, hz] at h2
    unfold Oper.wp execOp
    simp only [ho, hx, hy, Sem.run_bind, h1, h2, Result.andThen_ok]
    exact hK _ _ h
theorem within_any (x y : Int) (w : World) : Calls Tryd.prog 53 #[.int .i64 x, .int .i64 y] w fun e w' => e = .returned (.bool (decide (0 ≤ x ∧ x ≤ y))) ∧ w = w' := by
  by_cases h1 : 0 ≤ x
  · by_cases h2 : x ≤ y
    · have d2 : decide (x ≤ y) = true := decide_eq_true h2
      rw [decide_eq_true (⟨h1, h2⟩ : 0 ≤ x ∧ x ≤ y)]
      go_enter Tryd.func53, Tryd.ntmps53
      go_wp2
      go_ret
      exact ⟨rfl, rfl⟩
    · have d2 : decide (x ≤ y) = false := decide_eq_false h2
      rw [decide_eq_false (fun h : 0 ≤ x ∧ x ≤ y => h2 h.2)]
      go_enter Tryd.func53, Tryd.ntmps53
      go_wp2
      go_ret
      exact ⟨rfl, rfl⟩
  · rw [decide_eq_false (fun h : 0 ≤ x ∧ x ≤ y => h1 h.1)]
    go_enter Tryd.func53, Tryd.ntmps53
    go_wp2
    go_ret
    exact ⟨rfl, rfl⟩
theorem im_0 (i : Im) : i.cells[0]? = some (.int .i64 i.ver) := rfl
theorem im_1 (i : Im) : i.cells[1]? = some (.int .i64 i.size) := rfl
theorem isOne_any (i : Im) (w : World) : Calls Tryd.prog 55 #[.agg i.cells] w fun e w' => e = .returned (.bool (decide (i.ver ≠ 0))) ∧ Below w.heap.size w w' := by
  have hb : Below w.heap.size w (w.alloc (.cells i.cells 24)) := (Below.refl _ _).alloc (Nat.le_refl _) _
  have c0 : (w.alloc (.cells i.cells 24)).cell? ⟨w.heap.size, 0, none⟩ = some (.int .i64 i.ver) := (has_new w 24 i.cells).at 0
  go_enter Tryd.func55, Tryd.ntmps55
  go_wp2
  go_ret
  exact ⟨ret_bool (by by_cases e : i.ver = 0 <;> simp [e]), hb⟩
theorem chunks_any (i : Im) (w : World) (h0 : 0 ≤ i.size ∧ i.size ≤ 1920) : Calls Tryd.prog 57 #[.agg i.cells] w fun e w' => e = .returned (.int .i64 (chunkN i.size)) ∧ Below w.heap.size w w' := by
  have hb : Below w.heap.size w (w.alloc (.cells i.cells 24)) := (Below.refl _ _).alloc (Nat.le_refl _) _
  have c1 : (w.alloc (.cells i.cells 24)).cell? ⟨w.heap.size, 1, none⟩ = some (.int .i64 i.size) := (has_new w 24 i.cells).at 1
  obtain ⟨h1, h2⟩ := h0
  go_enter Tryd.func57, Tryd.ntmps57
  go_wp2
  go_ret
  exact ⟨ret_int (by unfold chunkN; omega), hb⟩
theorem okI_zero {i : Im} (h : i.ver = 0 ∨ i.size = 0) : okI i = decide (i = zeroI) := by
  unfold okI
  rw [decide_eq_false (show ¬ (1 ≤ i.ver ∧ i.ver ≤ 1073741824 ∧ 1 ≤ i.size ∧ i.size ≤ 1920) by omega), Bool.or_false]
theorem okI_more {i : Im} (h : ¬ i.ver = 0) (h' : ¬ i.size = 0) : okI i = (decide (0 ≤ i.ver ∧ i.ver ≤ 1073741824) && decide (0 ≤ i.size ∧ i.size ≤ 1920)) := by
  unfold okI
  rw [decide_eq_false (show ¬ i = zeroI from fun e => h (by rw [e]; rfl)), Bool.false_or, Bool.eq_iff_iff]
  simp only [Bool.and_eq_true, decide_eq_true_eq]
  omega
set_option maxRecDepth 100000 in
theorem rightImage_any (i : Im) (w : World) (hi : i.Ok) : Calls Tryd.prog 54 #[.agg i.cells] w fun e w' => e = .returned (.bool (okI i)) ∧ Below w.heap.size w w' := by
  have hb : Below w.heap.size w (w.alloc (.cells i.cells 24)) := (Below.refl _ _).alloc (Nat.le_refl _) _
  have hh := has_new w 24 i.cells
  have c0 : (w.alloc (.cells i.cells 24)).cell? ⟨w.heap.size, 0, none⟩ = some (.int .i64 i.ver) := hh.at 0
  have c1 : (w.alloc (.cells i.cells 24)).cell? ⟨w.heap.size, 1, none⟩ = some (.int .i64 i.size) := hh.at 1
  by_cases h0 : i.ver = 0
  · rw [okI_zero (.inl h0)]
    go_enter Tryd.func54, Tryd.ntmps54
    go_wp2_with (first
      | (refine wpList_load_row rfl 24 _ rfl w.heap.size rfl 24 _ (0, 0) _ hh Tryd.underlying24 rfl (size24 hi) ?_)
      | (refine wpList_build_to rfl 24 _ rfl _ built24 ?_)
      | (refine wpList_eqI rfl (.tmp 11) (.tmp 12) rfl i zeroI rfl rfl hi zeroI_ok _ rfl ?_))
    go_ret
    exact ⟨rfl, hb⟩
  · by_cases h1 : i.size = 0
    · rw [okI_zero (.inr h1)]
      go_enter Tryd.func54, Tryd.ntmps54
      go_wp2_with (first
        | (refine wpList_load_row rfl 24 _ rfl w.heap.size rfl 24 _ (0, 0) _ hh Tryd.underlying24 rfl (size24 hi) ?_)
        | (refine wpList_build_to rfl 24 _ rfl _ built24 ?_)
        | (refine wpList_eqI rfl (.tmp 11) (.tmp 12) rfl i zeroI rfl rfl hi zeroI_ok _ rfl ?_))
      go_ret
      exact ⟨rfl, hb⟩
    · rw [okI_more h0 h1]
      have d0 : (i.ver == 0) = false := by simp [h0]
      have d1 : (i.size == 0) = false := by simp [h1]
      have HW1 := Lib.hid (within_any i.ver 1073741824 (w.alloc (.cells i.cells 24)))
      have HW2 := Lib.hid (within_any i.size 1920 (w.alloc (.cells i.cells 24)))
      cases e1 : decide (0 ≤ i.ver ∧ i.ver ≤ 1073741824) with
      | false =>
        rw [e1] at HW1
        clear e1
        go_enter Tryd.func54, Tryd.ntmps54
        go_wp2_with (first
          | (go_at_call 53; (with_reducible refine HW1.out.mono ?_); rintro e w1 ⟨rfl, rfl⟩))
        go_ret
        exact ⟨rfl, hb⟩
      | true =>
        rw [e1] at HW1
        clear e1
        cases e2 : decide (0 ≤ i.size ∧ i.size ≤ 1920) with
        | false =>
          rw [e2] at HW2
          clear e2
          go_enter Tryd.func54, Tryd.ntmps54
          go_wp2_with (first
            | (go_at_call 53; (with_reducible refine HW1.out.mono ?_); rintro e w1 ⟨rfl, rfl⟩; clear HW1)
            | (go_at_call 53; (with_reducible refine HW2.out.mono ?_); rintro e w1 ⟨rfl, rfl⟩))
          go_ret
          exact ⟨rfl, hb⟩
        | true =>
          rw [e2] at HW2
          clear e2
          go_enter Tryd.func54, Tryd.ntmps54
          go_wp2_with (first
            | (go_at_call 53; (with_reducible refine HW1.out.mono ?_); rintro e w1 ⟨rfl, rfl⟩; clear HW1)
            | (go_at_call 53; (with_reducible refine HW2.out.mono ?_); rintro e w1 ⟨rfl, rfl⟩))
          go_ret
          exact ⟨rfl, hb⟩
end Go.Proofs.YtcokpdhhpaahgaaDoor

namespace Go.Proofs.YtcokpdhhpaahgaaDoor
open Go.RowKit
set_option linter.unusedVariables false
set_option linter.unusedSimpArgs false

set_option maxRecDepth 100000 in
theorem canCome_any (m : Mt) (o : Im) (w : World) (hm : m.Ok) (ho : o.Ok) : Calls Tryd.prog 56 #[.agg m.cells, .agg o.cells] w fun e w' => e = .returned (.bool (canB m o)) ∧ Below w.heap.size w w' := by
  have ba : Below w.heap.size w (w.alloc (.cells m.cells 27)) := (Below.refl _ _).alloc (Nat.le_refl _) _
  have hb : Below w.heap.size w ((w.alloc (.cells m.cells 27)).alloc (.cells o.cells 24)) := ba.alloc ba.size _
  have hh : Has ((w.alloc (.cells m.cells 27)).alloc (.cells o.cells 24)) w.heap.size 27 m.cells := (has_new w 27 m.cells).more _
  have ho0 := has_new (w.alloc (.cells m.cells 27)) 24 o.cells
  rw [World.size_alloc] at ho0
  have S0 := seen_of hh hm
  have HI := Lib.hid (isOne_any m.com ((w.alloc (.cells m.cells 27)).alloc (.cells o.cells 24)))
  unfold canB
  cases e1 : decide (m.com.ver ≠ 0) with
  | false =>
    rw [e1] at HI
    clear e1
    go_enter Tryd.func56, Tryd.ntmps56
    go_wp2_with (first
      | (refine wpList_ld 24 _ rfl _ _ S0.l2 rfl rfl ?_)
      | (go_at_call 55; (with_reducible refine HI.out.mono ?_); rintro e w1 ⟨rfl, b1⟩; clear HI; have c1 := hb.trans (b1.mono hb.size); have h1 := hh.kept b1; have o1 := ho0.kept b1; have S1 := ld24w o1 ho; have HJ := Lib.hid (isOne_any o w1)))
    go_ret
    exact ⟨rfl, c1⟩
  | true =>
    rw [e1] at HI
    clear e1
    cases e2 : decide (o.ver ≠ 0) with
    | true =>
      rw [show decide (¬ o.ver ≠ 0) = false from decide_eq_false (fun h => h (of_decide_eq_true e2))]
      have E2 := Lib.hid e2
      clear e2
      go_enter Tryd.func56, Tryd.ntmps56
      go_wp2_with (first
        | (refine wpList_ld 24 _ rfl _ _ S0.l2 rfl rfl ?_)
        | (go_at_call 55; (with_reducible refine HI.out.mono ?_); rintro e w1 ⟨rfl, b1⟩; clear HI; have c1 := hb.trans (b1.mono hb.size); have h1 := hh.kept b1; have o1 := ho0.kept b1; have S1 := ld24w o1 ho; have HJ := Lib.hid (isOne_any o w1); rw [E2.out] at HJ)
        | (refine wpList_ld 24 _ rfl _ _ S1 rfl rfl ?_)
        | (go_at_call 55; (with_reducible refine HJ.out.mono ?_); rintro e w2 ⟨rfl, b2⟩; clear HJ; have c2 := c1.trans (b2.mono c1.size)))
      go_ret
      exact ⟨rfl, c2⟩
    | false =>
      rw [show decide (¬ o.ver ≠ 0) = true from decide_eq_true (of_decide_eq_false e2)]
      have E2 := Lib.hid e2
      clear e2
      go_enter Tryd.func56, Tryd.ntmps56
      go_wp2_with (first
        | (refine wpList_ld 24 _ rfl _ _ S0.l2 rfl rfl ?_)
        | (go_at_call 55; (with_reducible refine HI.out.mono ?_); rintro e w1 ⟨rfl, b1⟩; clear HI; have c1 := hb.trans (b1.mono hb.size); have h1 := hh.kept b1; have o1 := ho0.kept b1; have S1 := ld24w o1 ho; have HJ := Lib.hid (isOne_any o w1); rw [E2.out] at HJ)
        | (refine wpList_ld 24 _ rfl _ _ S1 rfl rfl ?_)
        | (go_at_call 55; (with_reducible refine HJ.out.mono ?_); rintro e w2 ⟨rfl, b2⟩; clear HJ; have c2 := c1.trans (b2.mono c1.size); have q2 := (seen_of (h1.kept b2) hm).trials))
      go_ret
      exact ⟨ret_bool (by by_cases e : m.trials = 0 <;> simp [e]), c2⟩
end Go.Proofs.YtcokpdhhpaahgaaDoor

namespace Go.Proofs.YtcokpdhhpaahgaaDoor
open Go.RowKit
set_option linter.unusedVariables false
set_option linter.unusedSimpArgs false

/-- A whole value stored into a block that is known whole; the world behind it under a name. -/
theorem wpList_row {w : World} {ops : Array Oper} {rest : List Oper} {o : Oper} {a : Act} {Q : Exit → Act → World → Prop} (hgd : o.guard = none) (ty : TypeId) (x y : Operand) (ho : o.op = .store ty x y)
    (g : Nat) (cells : Array Value) (hx : a.eval x = .pointer (some ⟨g, 0, none⟩)) (hy : a.eval y = .agg cells) (t : TypeId) (old : Array Value) (hg : Has w g t old) (hi : (Tryd.prog.info? ty).map (·.size) = some cells.size)
    (hold : old.size = cells.size) (h1 : cells.all (·.oneCell') = true)
    (h : ∀ w', Has w' g t cells → Only (fun b => b = g) w w' → wpList Tryd.prog ops Q rest (a.put o.dst undef) w') : wpList Tryd.prog ops Q (o :: rest) a w :=
  wpList_store_row hgd ty x y ho g cells hx hy t old hg hi hold h1 (h _ (setRow_heap _ _ _ _ _ _ hg) ((Only.refl (fun b => b = g) w).setRow rfl _))
theorem yields_ld {ops : Array Oper} {S : World → Prop} {o : Oper} {a : Act} (hw : Region.wanted o (yielded ops a.tmps) = true) (ty : TypeId) (x : Operand) (ho : o.op = .load ty x) (p v : Value)
    (hS : ∀ W, S W → (Instr.loadAt ty p).run Tryd.prog W = .ok v W) (hx : a.eval x = p) : YieldsIf Tryd.prog ops S o v a :=
  Or.inl ⟨hw, fun W hW => by
    unfold execOp
    simp only [ho, hx, Sem.run_bind, hS W hW, Result.andThen_ok, Sem.run_pure]⟩
theorem beq_dec (a b : Int) : (a == b) = decide (a = b) := by rw [Bool.eq_iff_iff]; simp
theorem ld3 {W : World} {g k : Nat} {x : Int} (h : W.cell? ⟨g, k, none⟩ = some (.int .i64 x)) : (Instr.loadAt 3 (.pointer (some ⟨g, k, none⟩))).run Tryd.prog W = .ok (.int .i64 x) W := by
  go_simp
end Go.Proofs.YtcokpdhhpaahgaaDoor

namespace Go.Proofs.YtcokpdhhpaahgaaDoor
open Go.RowKit
set_option linter.unusedVariables false
set_option linter.unusedSimpArgs false

/-- Which version may come. -/
def mayV (m : Mt) (v : Int) : Bool := decide (1 ≤ v ∧ v ≤ 1073741824 ∧ m.least ≤ v)
/-- The least one from then on. -/
def confN (m : Mt) : Int := if m.oth.ver ≤ 0 then m.least else if m.least < m.oth.ver then m.oth.ver else m.least

theorem may_any (m : Mt) (v : Int) (w : World) (hm : m.Ok) : Calls Tryd.prog 63 #[.agg m.cells, .int .i64 v] w fun e w' => e = .returned (.bool (mayV m v)) ∧ Below w.heap.size w w' := by
  have hb : Below w.heap.size w (w.alloc (.cells m.cells 27)) := (Below.refl _ _).alloc (Nat.le_refl _) _
  have c0 := (seen_of (has_new w 27 m.cells) hm).least
  by_cases h1 : 1 ≤ v
  · by_cases h2 : v ≤ 1073741824
    · have d2 : decide (v ≤ 1073741824) = true := decide_eq_true h2
      by_cases h3 : m.least ≤ v
      · have d3 : decide (m.least ≤ v) = true := decide_eq_true h3
        rw [show mayV m v = true from decide_eq_true ⟨h1, h2, h3⟩]
        go_enter Tryd.func63, Tryd.ntmps63
        go_wp2
        go_ret
        exact ⟨rfl, hb⟩
      · have d3 : decide (m.least ≤ v) = false := decide_eq_false h3
        rw [show mayV m v = false from decide_eq_false fun h => h3 h.2.2]
        go_enter Tryd.func63, Tryd.ntmps63
        go_wp2
        go_ret
        exact ⟨rfl, hb⟩
    · have d2 : decide (v ≤ 1073741824) = false := decide_eq_false h2
      rw [show mayV m v = false from decide_eq_false fun h => h2 h.2.1]
      go_enter Tryd.func63, Tryd.ntmps63
      go_wp2
      go_ret
      exact ⟨rfl, hb⟩
  · rw [show mayV m v = false from decide_eq_false fun h => h1 h.1]
    go_enter Tryd.func63, Tryd.ntmps63
    go_wp2
    go_ret
    exact ⟨rfl, hb⟩
theorem rmay_any (m : Mt) (v : Int) (w : World) (hm : m.Ok) : Calls Tryd.prog 47 #[.agg m.cells, .int .i64 v] w fun e w' => e = .returned (.bool (mayV m v)) ∧ Below w.heap.size w w' := by
  have hb : Below w.heap.size w (w.alloc (.cells m.cells 27)) := (Below.refl _ _).alloc (Nat.le_refl _) _
  have c0 := (seen_of (has_new w 27 m.cells) hm).least
  by_cases h1 : 1 ≤ v
  · by_cases h2 : v ≤ 1073741824
    · have d2 : decide (v ≤ 1073741824) = true := decide_eq_true h2
      by_cases h3 : m.least ≤ v
      · have d3 : decide (m.least ≤ v) = true := decide_eq_true h3
        rw [show mayV m v = true from decide_eq_true ⟨h1, h2, h3⟩]
        go_enter Tryd.func47, Tryd.ntmps47
        go_wp2
        go_ret
        exact ⟨rfl, hb⟩
      · have d3 : decide (m.least ≤ v) = false := decide_eq_false h3
        rw [show mayV m v = false from decide_eq_false fun h => h3 h.2.2]
        go_enter Tryd.func47, Tryd.ntmps47
        go_wp2
        go_ret
        exact ⟨rfl, hb⟩
    · have d2 : decide (v ≤ 1073741824) = false := decide_eq_false h2
      rw [show mayV m v = false from decide_eq_false fun h => h2 h.2.1]
      go_enter Tryd.func47, Tryd.ntmps47
      go_wp2
      go_ret
      exact ⟨rfl, hb⟩
  · rw [show mayV m v = false from decide_eq_false fun h => h1 h.1]
    go_enter Tryd.func47, Tryd.ntmps47
    go_wp2
    go_ret
    exact ⟨rfl, hb⟩
set_option maxRecDepth 100000 in
theorem wait_any (m : Mt) (w : World) (hm : m.Ok) : Calls Tryd.prog 64 #[.agg m.cells] w fun e w' => e = .returned (.agg m.oth.cells) ∧ Below w.heap.size w w' := by
  have hz24 := zero24_run
  have hb : Below w.heap.size w ((w.alloc (.cells m.cells 27)).alloc (.cells zeroI.cells 24)) := ((Below.refl _ _).alloc (Nat.le_refl _) _).alloc (by simp) _
  have g9 : Has ((w.alloc (.cells m.cells 27)).alloc (.cells zeroI.cells 24)) (w.heap.size + 1) 24 zeroI.cells := by have := has_new (w.alloc (.cells m.cells 27)) 24 zeroI.cells; rwa [World.size_alloc] at this
  have S := seen_of ((has_new w 27 m.cells).more (.cells zeroI.cells 24)) hm
  have c0 := S.act
  have l0 := S.l0
  have l1 := S.l1
  unfold Mt.oth
  by_cases h : m.act = 0
  · rw [if_pos h]
    go_enter Tryd.func64, Tryd.ntmps64
    go_wp2_with (first
      | (refine wpList_ld 24 _ rfl _ _ l1 rfl rfl ?_)
      | (refine wpList_store_row rfl 24 _ _ rfl (w.heap.size + 1) m.h1.cells rfl rfl 24 _ g9 (size24 hm.h1) (old24 zeroI_ok hm.h1) (im_all _) ?_))
    exact bodyPost_ret (results_cell_row rfl _ _ (w.heap.size + 1) 24 m.h1.cells (0, 0) _ rfl (setRow_heap _ _ _ _ _ _ g9) Tryd.underlying24 rfl (size24 hm.h1)) rfl ⟨rfl, below_setRow hb (by omega) _⟩
  · rw [if_neg h]
    have d0 : (m.act == 0) = false := by simp [h]
    go_enter Tryd.func64, Tryd.ntmps64
    go_wp2_with (first
      | (refine wpList_ld 24 _ rfl _ _ l0 rfl rfl ?_)
      | (refine wpList_store_row rfl 24 _ _ rfl (w.heap.size + 1) m.h0.cells rfl rfl 24 _ g9 (size24 hm.h0) (old24 zeroI_ok hm.h0) (im_all _) ?_))
    exact bodyPost_ret (results_cell_row rfl _ _ (w.heap.size + 1) 24 m.h0.cells (0, 0) _ rfl (setRow_heap _ _ _ _ _ _ g9) Tryd.underlying24 rfl (size24 hm.h0)) rfl ⟨rfl, below_setRow hb (by omega) _⟩
theorem oth_ok {m : Mt} (h : m.Ok) : m.oth.Ok := by unfold Mt.oth; by_cases e : m.act = 0 <;> simp [e, h.h0, h.h1]
set_option maxRecDepth 100000 in
theorem rconfirm_any (m : Mt) (w : World) (hm : m.Ok) : Calls Tryd.prog 48 #[.agg m.cells] w fun e w' => e = .returned (.int .i64 (confN m)) ∧ Below w.heap.size w w' := by
  have hb : Below w.heap.size w (w.alloc (.cells m.cells 27)) := (Below.refl _ _).alloc (Nat.le_refl _) _
  have S := seen_of (has_new w 27 m.cells) hm
  have c0 := S.act
  have v0 := S.v0
  have v1 := S.v1
  have c69 := S.least
  clear S
  have EF : Hid (confN m = if m.oth.ver ≤ 0 then m.least else if m.least < m.oth.ver then m.oth.ver else m.least) := Lib.hid rfl
  obtain ⟨cn, hcn⟩ : ∃ x, confN m = x := ⟨_, rfl⟩
  rw [hcn] at EF ⊢
  clear hcn
  by_cases h0 : m.act = 0
  · have eo : m.oth = m.h1 := if_pos h0
    rw [eo] at EF
    clear eo
    have d0 : (m.act == 0) = true := by simp [h0]
    have d0' : (m.act != 0) = false := by simp [h0]
    by_cases h2 : m.least < m.h1.ver
    · by_cases h1 : 0 < m.h1.ver
      · have d1 : decide (0 < m.h1.ver) = true := decide_eq_true h1
        have E := Lib.hid (EF.out.trans ((if_neg (by omega)).trans (if_pos h2)))
        clear EF
        go_enter Tryd.func48, Tryd.ntmps48
        go_wp2_with (go_quiet (fail))
        go_ret
        exact ⟨ret_int E.out.symm, below_drewN hb _⟩
      · have d1 : decide (0 < m.h1.ver) = false := decide_eq_false h1
        have E := Lib.hid (EF.out.trans (if_pos (by omega)))
        clear EF
        go_enter Tryd.func48, Tryd.ntmps48
        go_wp2_with (go_quiet (fail))
        go_ret
        exact ⟨ret_int E.out.symm, below_drewN hb _⟩
    · have E : Hid (cn = m.least) := Lib.hid (by rw [EF.out]; split <;> first | rfl | exact if_neg h2)
      clear EF
      go_enter Tryd.func48, Tryd.ntmps48
      go_wp2_with (go_quiet (fail))
      go_ret
      exact ⟨ret_int E.out.symm, below_drewN hb _⟩
  · have eo : m.oth = m.h0 := if_neg h0
    rw [eo] at EF
    clear eo
    have d0 : (m.act == 0) = false := by simp [h0]
    have d0' : (m.act != 0) = true := by simp [h0]
    by_cases h2 : m.least < m.h0.ver
    · by_cases h1 : 0 < m.h0.ver
      · have d1 : decide (0 < m.h0.ver) = true := decide_eq_true h1
        have E := Lib.hid (EF.out.trans ((if_neg (by omega)).trans (if_pos h2)))
        clear EF
        go_enter Tryd.func48, Tryd.ntmps48
        go_wp2_with (go_quiet (fail))
        go_ret
        exact ⟨ret_int E.out.symm, below_drewN hb _⟩
      · have d1 : decide (0 < m.h0.ver) = false := decide_eq_false h1
        have E := Lib.hid (EF.out.trans (if_pos (by omega)))
        clear EF
        go_enter Tryd.func48, Tryd.ntmps48
        go_wp2_with (go_quiet (fail))
        go_ret
        exact ⟨ret_int E.out.symm, below_drewN hb _⟩
    · have E : Hid (cn = m.least) := Lib.hid (by rw [EF.out]; split <;> first | rfl | exact if_neg h2)
      clear EF
      go_enter Tryd.func48, Tryd.ntmps48
      go_wp2_with (go_quiet (fail))
      go_ret
      exact ⟨ret_int E.out.symm, below_drewN hb _⟩
end Go.Proofs.YtcokpdhhpaahgaaDoor

namespace Go.Proofs.YtcokpdhhpaahgaaDoor
open Go.RowKit
set_option linter.unusedVariables false
set_option linter.unusedSimpArgs false

set_option maxRecDepth 100000 in
theorem field_ver (i : Im) : ∀ W : World, (Instr.field 24 (.agg i.cells) 0).run Tryd.prog W = .ok (.int .i64 i.ver) W := by
  intro W
  unfold Instr.field
  rw [Sem.run_bind, run_underlying Tryd.underlying24 W]
  exact part_int 0 i.cells i.ver rfl W
set_option maxRecDepth 100000 in
theorem confirm_any (m : Mt) (w : World) (hm : m.Ok) : Calls Tryd.prog 45 #[.agg m.cells] w fun e w' => e = .returned (.int .i64 (confN m)) ∧ Below w.heap.size w w' := by
  have hb : Below w.heap.size w (w.alloc (.cells m.cells 27)) := (Below.refl _ _).alloc (Nat.le_refl _) _
  have H0 := has_new w 27 m.cells
  have L0 := ld27 H0 hm
  have HW := Lib.hid (wait_any m (w.alloc (.cells m.cells 27)) hm)
  have f0 := field_ver m.oth
  have EF : Hid (confN m = if m.oth.ver ≤ 0 then m.least else if m.least < m.oth.ver then m.oth.ver else m.least) := Lib.hid rfl
  obtain ⟨o, ho⟩ : ∃ o, m.oth = o := ⟨_, rfl⟩
  rw [ho] at HW f0 EF
  obtain ⟨cn, hcn⟩ : ∃ x, confN m = x := ⟨_, rfl⟩
  rw [hcn] at EF ⊢
  clear ho hcn
  by_cases h1 : o.ver ≤ 0
  · have E := Lib.hid (EF.out.trans (if_pos h1))
    clear EF
    go_enter Tryd.func45, Tryd.ntmps45
    go_wp2_with (first
      | (refine wpList_ld 27 _ rfl _ _ L0 rfl rfl ?_)
      | (go_at_call 64; (with_reducible refine HW.out.mono ?_); rintro e w1 ⟨rfl, b1⟩; clear HW L0; have c1 := hb.trans (b1.mono hb.size); have c69 := (seen_of (H0.kept b1) hm).least))
    go_ret
    exact ⟨ret_int E.out.symm, c1⟩
  · by_cases h2 : m.least < o.ver
    · have E := Lib.hid (EF.out.trans ((if_neg h1).trans (if_pos h2)))
      clear EF
      go_enter Tryd.func45, Tryd.ntmps45
      go_wp2_with (first
        | (refine wpList_ld 27 _ rfl _ _ L0 rfl rfl ?_)
        | (go_at_call 64; (with_reducible refine HW.out.mono ?_); rintro e w1 ⟨rfl, b1⟩; clear HW L0; have c1 := hb.trans (b1.mono hb.size); have c69 := (seen_of (H0.kept b1) hm).least))
      go_ret
      exact ⟨ret_int (by rw [E.out]), c1⟩
    · have E := Lib.hid (EF.out.trans ((if_neg h1).trans (if_neg h2)))
      clear EF
      go_enter Tryd.func45, Tryd.ntmps45
      go_wp2_with (first
        | (refine wpList_ld 27 _ rfl _ _ L0 rfl rfl ?_)
        | (go_at_call 64; (with_reducible refine HW.out.mono ?_); rintro e w1 ⟨rfl, b1⟩; clear HW L0; have c1 := hb.trans (b1.mono hb.size); have c69 := (seen_of (H0.kept b1) hm).least))
      go_ret
      exact ⟨ret_int (by rw [E.out]), c1⟩
theorem i64_two : I64 2 := by unfold I64; omega
end Go.Proofs.YtcokpdhhpaahgaaDoor

namespace Go.Proofs.YtcokpdhhpaahgaaDoor
open Go.ChangeShapes Go.WideShapes Go.ChangeAt Go.RowKit
set_option linter.unusedVariables false
set_option linter.unusedSimpArgs false

set_option maxRecDepth 100000 in
theorem dig_of {H : Type} {enc : TypeId × Value → H} {w : World} {fuel : Nat} {l : List Value} {x : DataW H × List MemPlace} (h : DataW.trod enc Tryd.prog w 0 (fun _ => true) true fuel 22 l = some x) : ∃ ds : List Int, l = nums ds ∧ ds.length = 32 ∧ Byt ds := by
  have e22 : Tryd.prog.cellsOf 22 = 32 := by kernel_rfl
  have e5 : Tryd.prog.cellsOf 5 = 1 := by kernel_rfl
  obtain ⟨xs, m, _, _, hl, hxl, hel⟩ := DataW.trod_array Tryd.underlying22 h
  rw [e22] at hl
  have key : ∀ i, i < 32 → ∃ z : Int, l[i]? = some (.int .u8 z) ∧ 0 ≤ z ∧ z ≤ 255 := by
    intro i hi
    have hE := hel i hi
    rw [e5, Nat.mul_one, List.getElem?_eq_getElem (by omega)] at hE
    obtain ⟨z, e1, _, hw⟩ := DataW.trod_int Tryd.underlying5 hE
    have h0 : ((l.drop i).take 1)[0]? = some (.int .u8 z) := by rw [e1]; rfl
    exact ⟨z, by simpa using h0, bounds_u8 hw⟩
  refine ⟨l.map (fun v => match v with | .int _ z => z | _ => 0), ?_, by rw [List.length_map, hl], ?_⟩
  · refine List.ext_getElem? fun i => ?_
    by_cases hi : i < 32
    · obtain ⟨z, e, _⟩ := key i hi
      simp [nums, e]
    · rw [List.getElem?_eq_none (by omega), List.getElem?_eq_none (by simp [nums]; omega)]
  · intro n hn
    obtain ⟨v, hv, rfl⟩ := List.mem_map.1 hn
    obtain ⟨i, hi, rfl⟩ := List.mem_iff_getElem.1 hv
    obtain ⟨z, e, hz⟩ := key i (by omega)
    rw [List.getElem?_eq_getElem hi] at e
    rw [Option.some.inj e]
    exact hz
theorem cut_at (l : List Value) (k n : Nat) : l.drop k = (l.drop k).take n ++ l.drop (k + n) := by rw [← List.drop_drop, List.take_append_drop]
theorem int_of {H : Type} {enc : TypeId × Value → H} {w : World} {fuel : Nat} {l : List Value} {x : DataW H × List MemPlace} (h : DataW.trod enc Tryd.prog w 0 (fun _ => true) true fuel 3 l = some x) : ∃ v : Int, l = [.int .i64 v] ∧ I64 v := by
  obtain ⟨v, c, _, hv⟩ := DataW.trod_int Tryd.underlying3 h
  have hb := bounds_i64 hv
  exact ⟨v, c, hb.1, hb.2⟩
set_option maxRecDepth 100000 in
theorem im_of {H : Type} {enc : TypeId × Value → H} {w : World} {fuel : Nat} {l : List Value} {x : DataW H × List MemPlace} (h : DataW.trod enc Tryd.prog w 0 (fun _ => true) true fuel 24 l = some x) : ∃ i : Im, l = i.list ∧ i.Ok := by
  have e24 : Tryd.prog.cellsOf 24 = 34 := by kernel_rfl
  have e22 : Tryd.prog.cellsOf 22 = 32 := by kernel_rfl
  have e3 : Tryd.prog.cellsOf 3 = 1 := by kernel_rfl
  obtain ⟨z0, z1, z2, k, _, hl, g0, g1, g2⟩ := Deep.trod_struct3 Tryd.underlying24 h
  rw [e24] at hl
  simp only [e3, e22] at g0 g1 g2
  obtain ⟨v, c0, hv⟩ := int_of g0
  obtain ⟨n, c1, hn⟩ := int_of g1
  obtain ⟨ds, c2, hd, hb⟩ := dig_of g2
  refine ⟨⟨v, n, ds⟩, ?_, hd, hb, hv, hn⟩
  have e : l = (l.drop 0).take 1 ++ ((l.drop 1).take 1 ++ ((l.drop 2).take 32 ++ l.drop 34)) := by
    rw [← cut_at l 2 32, ← cut_at l 1 1, ← cut_at l 0 1, List.drop_zero]
  rw [e, c0, c1, c2, List.drop_eq_nil_of_le (by omega)]
  simp [Im.list]
set_option maxRecDepth 100000 in
theorem two_of {H : Type} {enc : TypeId × Value → H} {w : World} {fuel : Nat} {l : List Value} {x : DataW H × List MemPlace} (h : DataW.trod enc Tryd.prog w 0 (fun _ => true) true fuel 25 l = some x) : ∃ i k : Im, l = i.list ++ k.list ∧ i.Ok ∧ k.Ok := by
  have e25 : Tryd.prog.cellsOf 25 = 68 := by kernel_rfl
  have e24 : Tryd.prog.cellsOf 24 = 34 := by kernel_rfl
  obtain ⟨xs, m, _, _, hl, hxl, hel⟩ := DataW.trod_array Tryd.underlying25 h
  rw [e25] at hl
  have h0 := hel 0 (by omega)
  have h1 := hel 1 (by omega)
  rw [e24, List.getElem?_eq_getElem (by omega)] at h0 h1
  obtain ⟨i, c0, hi⟩ := im_of h0
  obtain ⟨k, c1, hk⟩ := im_of h1
  refine ⟨i, k, ?_, hi, hk⟩
  have e : l = (l.drop (0 * 34)).take 34 ++ ((l.drop (1 * 34)).take 34 ++ l.drop 68) := by
    rw [show 1 * 34 = 34 from rfl, ← cut_at l 34 34, Nat.zero_mul, ← cut_at l 0 34, List.drop_zero]
  rw [e, c0, c1, List.drop_eq_nil_of_le (by omega)]
  simp
set_option maxRecDepth 100000 in
theorem mt_of {H : Type} {enc : TypeId × Value → H} {w : World} {fuel : Nat} {cs : Array Value} {x : DataW H × List MemPlace} (h : DataW.trod enc Tryd.prog w 0 (fun _ => true) true fuel 27 (Value.agg cs).cells.toList = some x) : ∃ m : Mt, cs = m.cells ∧ m.Ok := by
  have e27 : Tryd.prog.cellsOf 27 = 107 := by kernel_rfl
  have e25 : Tryd.prog.cellsOf 25 = 68 := by kernel_rfl
  have e24 : Tryd.prog.cellsOf 24 = 34 := by kernel_rfl
  have e3 : Tryd.prog.cellsOf 3 = 1 := by kernel_rfl
  obtain ⟨xs, n, _, _, hl, hxl, hel⟩ := DataW.trod_struct Tryd.underlying27 h
  rw [e27] at hl
  have hx : xs.length = 7 := hxl
  have f0 : DataW.trod enc Tryd.prog w 0 (fun _ => true) true n 3 (((Value.agg cs).cells.toList.drop 0).take (Tryd.prog.cellsOf 3)) = some xs[0] := by
    have g := hel 0 _ rfl
    rw [List.getElem?_eq_getElem (by omega)] at g
    exact g
  have f1 : DataW.trod enc Tryd.prog w 0 (fun _ => true) true n 25 (((Value.agg cs).cells.toList.drop 1).take (Tryd.prog.cellsOf 25)) = some xs[1] := by
    have g := hel 1 _ rfl
    rw [List.getElem?_eq_getElem (by omega)] at g
    exact g
  have f2 : DataW.trod enc Tryd.prog w 0 (fun _ => true) true n 3 (((Value.agg cs).cells.toList.drop 69).take (Tryd.prog.cellsOf 3)) = some xs[2] := by
    have g := hel 2 _ rfl
    rw [List.getElem?_eq_getElem (by omega)] at g
    exact g
  have f3 : DataW.trod enc Tryd.prog w 0 (fun _ => true) true n 3 (((Value.agg cs).cells.toList.drop 70).take (Tryd.prog.cellsOf 3)) = some xs[3] := by
    have g := hel 3 _ rfl
    rw [List.getElem?_eq_getElem (by omega)] at g
    exact g
  have f4 : DataW.trod enc Tryd.prog w 0 (fun _ => true) true n 24 (((Value.agg cs).cells.toList.drop 71).take (Tryd.prog.cellsOf 24)) = some xs[4] := by
    have g := hel 4 _ rfl
    rw [List.getElem?_eq_getElem (by omega)] at g
    exact g
  have f5 : DataW.trod enc Tryd.prog w 0 (fun _ => true) true n 3 (((Value.agg cs).cells.toList.drop 105).take (Tryd.prog.cellsOf 3)) = some xs[5] := by
    have g := hel 5 _ rfl
    rw [List.getElem?_eq_getElem (by omega)] at g
    exact g
  have f6 : DataW.trod enc Tryd.prog w 0 (fun _ => true) true n 3 (((Value.agg cs).cells.toList.drop 106).take (Tryd.prog.cellsOf 3)) = some xs[6] := by
    have g := hel 6 _ rfl
    rw [List.getElem?_eq_getElem (by omega)] at g
    exact g
  rw [e3] at f0 f2 f3 f5 f6
  rw [e25] at f1
  rw [e24] at f4
  obtain ⟨v0, c0, h0⟩ := int_of f0
  obtain ⟨i, k, c1, hi, hk⟩ := two_of f1
  obtain ⟨v2, c2, h2⟩ := int_of f2
  obtain ⟨v3, c3, h3⟩ := int_of f3
  obtain ⟨j, c4, hj⟩ := im_of f4
  obtain ⟨v5, c5, h5⟩ := int_of f5
  obtain ⟨v6, c6, h6⟩ := int_of f6
  refine ⟨⟨v0, i, k, v2, v3, j, v5, v6⟩, ?_, ⟨hi, hk, hj, h0, h2, h3, h5, h6⟩⟩
  apply Array.ext'
  have hl' : cs.toList.length = 107 := hl
  show cs.toList = _
  try simp only [Value.cells] at c0 c1 c2 c3 c4 c5 c6
  generalize cs.toList = l at *
  have e : l = (l.drop 0).take 1 ++ ((l.drop 1).take 68 ++ ((l.drop 69).take 1 ++ ((l.drop 70).take 1 ++ ((l.drop 71).take 34 ++ ((l.drop 105).take 1 ++ ((l.drop 106).take 1 ++ l.drop 107)))))) := by
    rw [← cut_at l 106 1, ← cut_at l 105 1, ← cut_at l 71 34, ← cut_at l 70 1, ← cut_at l 69 1, ← cut_at l 1 68, ← cut_at l 0 1, List.drop_zero]
  rw [e, c0, c1, c2, c3, c4, c5, c6, List.drop_eq_nil_of_le (by omega)]
  simp [Mt.cells, Mt.list]
theorem bytes_of {H : Type} {enc : TypeId × Value → H} {w : World} {n : Nat} {v : Value} {y : DataW H × List MemPlace} (h : DataW.trod enc Tryd.prog w 0 (fun _ => true) true n 28 [v] = some y) : ∃ A L C zs, v = .slice A L C ∧ Row w A L zs ∧ L ≤ C := by
  rcases open_ints Tryd.underlying28 Tryd.underlying5 (by kernel_rfl) h with ⟨hcs, _⟩ | ⟨x, l, c, zs, hcs, _, hl, hm, hz, _, hcell, hwz⟩
  · simp only [List.cons.injEq, and_true] at hcs
    exact ⟨none, 0, 0, [], hcs, row_nil w, Nat.le_refl _⟩
  · simp only [List.cons.injEq, and_true] at hcs
    exact ⟨some x, l, c, zs.take l, hcs, row_of (cap := c) (.inr ⟨x, rfl, hl, hm, by simpa using hz, hcell, hwz⟩), hl⟩
end Go.Proofs.YtcokpdhhpaahgaaDoor

namespace Go.Proofs.YtcokpdhhpaahgaaDoor
open Go.RowKit
set_option linter.unusedVariables false
set_option linter.unusedSimpArgs false

theorem rchunks_any (n : Int) (w : World) (h : 0 ≤ n ∧ n ≤ 1920) : Calls Tryd.prog 13 #[.int .i64 n] w fun e w' => e = .returned (.int .i64 (chunkN n)) ∧ w = w' := by
  obtain ⟨h1, h2⟩ := h
  by_cases h0 : n < 1
  · have e : chunkN n = 0 := by unfold chunkN; omega
    rw [e]
    clear e
    go_enter Tryd.func13, Tryd.ntmps13
    go_wp2
    go_ret
    exact ⟨rfl, rfl⟩
  · go_enter Tryd.func13, Tryd.ntmps13
    go_wp2
    go_ret
    exact ⟨ret_int (by unfold chunkN; omega), rfl⟩
theorem okI_no {i : Im} (h : ¬ i = zeroI) (h' : ¬ (1 ≤ i.ver ∧ i.ver ≤ 1073741824 ∧ 1 ≤ i.size ∧ i.size ≤ 1920)) : okI i = false := by
  unfold okI
  rw [decide_eq_false h, decide_eq_false h', Bool.or_false]
theorem okI_rest {i : Im} (h : ¬ i = zeroI) (h1 : 1 ≤ i.ver) (h2 : i.ver ≤ 1073741824) (h3 : 1 ≤ i.size) : okI i = decide (i.size ≤ 1920) := by
  unfold okI
  rw [decide_eq_false h, Bool.false_or, decide_eq_decide]
  exact ⟨fun h => h.2.2.2, fun h => ⟨h1, h2, h3, h⟩⟩
set_option maxRecDepth 100000 in
theorem image_none (i : Im) (w : World) (hi : i.Ok) (h0 : ¬ 0 < i.ver) : Calls Tryd.prog 34 #[.agg i.cells, .bool true] w fun e w' => e = .returned (.bool (okI i)) ∧ Below w.heap.size w w' := by
  have hb : Below w.heap.size w (w.alloc (.cells i.cells 24)) := (Below.refl _ _).alloc (Nat.le_refl _) _
  have hh := has_new w 24 i.cells
  have c0 : (w.alloc (.cells i.cells 24)).cell? ⟨w.heap.size, 0, none⟩ = some (.int .i64 i.ver) := hh.at 0
  have c1 : (w.alloc (.cells i.cells 24)).cell? ⟨w.heap.size, 1, none⟩ = some (.int .i64 i.size) := hh.at 1
  by_cases z : i = zeroI
  · have e : okI i = true := by rw [z]; rfl
    have HZ := Lib.hid (decide_eq_true z)
    rw [e]
    clear e z
    go_enter Tryd.func34, Tryd.ntmps34
    go_wp2_with (first
        | (refine wpList_load_row rfl 24 _ rfl w.heap.size rfl 24 _ (0, 0) _ hh Tryd.underlying24 rfl (size24 hi) ?_)
        | (refine wpList_build_to rfl 24 _ rfl _ built24 ?_)
        | (refine wpList_eqI rfl (.tmp 5) (.tmp 6) rfl i zeroI rfl rfl hi zeroI_ok _ HZ.out ?_))
    go_ret
    exact ⟨rfl, hb⟩
  · have e : okI i = false := okI_no z (by omega)
    have HZ := Lib.hid (decide_eq_false z)
    rw [e]
    clear e z
    go_enter Tryd.func34, Tryd.ntmps34
    go_wp2_with (first
        | (refine wpList_load_row rfl 24 _ rfl w.heap.size rfl 24 _ (0, 0) _ hh Tryd.underlying24 rfl (size24 hi) ?_)
        | (refine wpList_build_to rfl 24 _ rfl _ built24 ?_)
        | (refine wpList_eqI rfl (.tmp 5) (.tmp 6) rfl i zeroI rfl rfl hi zeroI_ok _ HZ.out ?_))
    go_ret
    exact ⟨rfl, hb⟩
set_option maxRecDepth 100000 in
theorem image_one (i : Im) (w : World) (hi : i.Ok) : Calls Tryd.prog 34 #[.agg i.cells, .bool false] w fun e w' => e = .returned (.bool (okI i)) ∧ Below w.heap.size w w' := by
  have hb : Below w.heap.size w (w.alloc (.cells i.cells 24)) := (Below.refl _ _).alloc (Nat.le_refl _) _
  have hh := has_new w 24 i.cells
  have c0 : (w.alloc (.cells i.cells 24)).cell? ⟨w.heap.size, 0, none⟩ = some (.int .i64 i.ver) := hh.at 0
  have c1 : (w.alloc (.cells i.cells 24)).cell? ⟨w.heap.size, 1, none⟩ = some (.int .i64 i.size) := hh.at 1
  by_cases z : i = zeroI
  · have e : okI i = true := by rw [z]; rfl
    have HZ := Lib.hid (decide_eq_true z)
    rw [e]
    clear e z
    go_enter Tryd.func34, Tryd.ntmps34
    go_wp2_with (first
        | (refine wpList_load_row rfl 24 _ rfl w.heap.size rfl 24 _ (0, 0) _ hh Tryd.underlying24 rfl (size24 hi) ?_)
        | (refine wpList_build_to rfl 24 _ rfl _ built24 ?_)
        | (refine wpList_eqI rfl (.tmp 5) (.tmp 6) rfl i zeroI rfl rfl hi zeroI_ok _ HZ.out ?_))
    go_ret
    exact ⟨rfl, hb⟩
  · have HZ := Lib.hid (decide_eq_false z)
    by_cases h0 : 1 ≤ i.ver
    rotate_left
    · have e : okI i = false := okI_no z (by omega)
      have g0 : decide (1 ≤ i.ver) = false := decide_eq_false h0
      rw [e]
      clear e z
      go_enter Tryd.func34, Tryd.ntmps34
      go_wp2_with (first
            | (refine wpList_load_row rfl 24 _ rfl w.heap.size rfl 24 _ (0, 0) _ hh Tryd.underlying24 rfl (size24 hi) ?_)
            | (refine wpList_build_to rfl 24 _ rfl _ built24 ?_)
            | (refine wpList_eqI rfl (.tmp 5) (.tmp 6) rfl i zeroI rfl rfl hi zeroI_ok _ HZ.out ?_))
      go_ret
      exact ⟨rfl, hb⟩
    have g0 : decide (1 ≤ i.ver) = true := decide_eq_true h0
    by_cases h1 : i.ver ≤ 1073741824
    rotate_left
    · have e : okI i = false := okI_no z (by omega)
      have g1 : decide (i.ver ≤ 1073741824) = false := decide_eq_false h1
      rw [e]
      clear e z
      go_enter Tryd.func34, Tryd.ntmps34
      go_wp2_with (first
            | (refine wpList_load_row rfl 24 _ rfl w.heap.size rfl 24 _ (0, 0) _ hh Tryd.underlying24 rfl (size24 hi) ?_)
            | (refine wpList_build_to rfl 24 _ rfl _ built24 ?_)
            | (refine wpList_eqI rfl (.tmp 5) (.tmp 6) rfl i zeroI rfl rfl hi zeroI_ok _ HZ.out ?_))
      go_ret
      exact ⟨rfl, hb⟩
    have g1 : decide (i.ver ≤ 1073741824) = true := decide_eq_true h1
    by_cases h2 : 1 ≤ i.size
    rotate_left
    · have e : okI i = false := okI_no z (by omega)
      have g2 : decide (1 ≤ i.size) = false := decide_eq_false h2
      rw [e]
      clear e z
      go_enter Tryd.func34, Tryd.ntmps34
      go_wp2_with (first
            | (refine wpList_load_row rfl 24 _ rfl w.heap.size rfl 24 _ (0, 0) _ hh Tryd.underlying24 rfl (size24 hi) ?_)
            | (refine wpList_build_to rfl 24 _ rfl _ built24 ?_)
            | (refine wpList_eqI rfl (.tmp 5) (.tmp 6) rfl i zeroI rfl rfl hi zeroI_ok _ HZ.out ?_))
      go_ret
      exact ⟨rfl, hb⟩
    have g2 : decide (1 ≤ i.size) = true := decide_eq_true h2
    rw [okI_rest z h0 h1 h2]
    clear z
    go_enter Tryd.func34, Tryd.ntmps34
    go_wp2_with (first
        | (refine wpList_load_row rfl 24 _ rfl w.heap.size rfl 24 _ (0, 0) _ hh Tryd.underlying24 rfl (size24 hi) ?_)
        | (refine wpList_build_to rfl 24 _ rfl _ built24 ?_)
        | (refine wpList_eqI rfl (.tmp 5) (.tmp 6) rfl i zeroI rfl rfl hi zeroI_ok _ HZ.out ?_))
    go_ret
    exact ⟨rfl, hb⟩
end Go.Proofs.YtcokpdhhpaahgaaDoor

namespace Go.Proofs.YtcokpdhhpaahgaaDoor
open Go.RowKit
set_option linter.unusedVariables false
set_option linter.unusedSimpArgs false

/-- The active slot's version, in memory. -/
theorem own_at {w : World} {g : Nat} {m : Mt} {kk : Nat} (hg : Has w g 27 m.cells) (h : m.Ok) (hk : m.act = (kk : Int)) (h2 : kk < 2) : w.cell? ⟨g, 1 + kk * 34, none⟩ = some (.int .i64 m.own.ver) := by
  match kk, h2 with
  | 0, _ => rw [show m.own = m.h0 by unfold Mt.own; rw [if_pos (by omega)]]; exact (seen_of hg h).v0
  | 1, _ => rw [show m.own = m.h1 by unfold Mt.own; rw [if_neg (by omega)]]; exact (seen_of hg h).v1
end Go.Proofs.YtcokpdhhpaahgaaDoor
