/-
  The walk of the law AreaApart: what is done in one area turns nothing of another one; conditions: at most sixty calls, a gap of up to three (more the law lets by).
-/
import Derived.Test.YtgignmjojlolfaaDoorActs
import Derived.Test.YtgignmjojlolfaaDoorSame
import Derived.Test.YtgignmjojlolfaaDoorAbl
import Derived.Test.YtgignmjojlolfaaDoorCut
namespace Go.Proofs.YtgignmjojlolfaaDoor
open Go.RowKit
set_option linter.unusedVariables false
set_option linter.unusedSimpArgs false

/-- A whole array is loaded, in a region that draws its order. -/
theorem yields_row {ops : Array Oper} {S : World → Prop} {o : Oper} {a : Act} (hw : Region.wanted o (yielded ops a.tmps) = true) (x : Operand) (ho : o.op = .load 49 x) (g : Nat) (hx : a.eval x = .pointer (some ⟨g, 0, none⟩)) (zs : List Int)
    (hS : ∀ W, S W → Has W g 49 (Sha.nums zs).toArray) (hl : zs.length = 32) : YieldsIf Tryd.prog ops S o (.agg (Sha.nums zs).toArray) a :=
  Or.inl ⟨hw, fun W hW => by
    have hr := run_loadVar_row W g 49 49 (Sha.nums zs).toArray (0, 0) _ (hS W hW) Tryd.underlying49 rfl (Sha.size24 hl)
    unfold execOp
    simp only [ho, hx, Instr.loadAt, Instr.sureAddr, Sem.run_bind, Sem.run_pure, Result.andThen_ok, hr]⟩
theorem byt_kept : Byt [107, 101, 112, 116] := by
  intro n hn
  simp at hn
  omega
theorem made_a : Pt.made 8 0 2 9 = ⟨0, 2, 9⟩ := rfl
theorem made_b {gp : Nat} (h : gp ≤ 3) : Pt.made 8 (2 + (gp : Int)) 3 9 = ⟨2 + gp, 3, 9⟩ := by
  unfold Pt.made
  rw [if_pos (by omega)]
  have e1 : (2 + (gp : Int)).toNat = 2 + gp := by omega
  have e2 : (min (3 : Int) (((8 : Nat) : Int) - (2 + (gp : Int)))).toNat = 3 := by omega
  rw [e1, e2]
  rfl
theorem ok_a : Pt.Ok ⟨0, 2, 9⟩ 8 := ⟨by decide, by decide, by decide⟩
theorem ok_b {gp : Nat} (h : gp ≤ 3) : Pt.Ok ⟨2 + gp, 3, 9⟩ 8 := ⟨by simp only []; omega, by decide, by simp only []; omega⟩
/-- The flash, both areas and the hash, as they are looked at. -/
structure ApSt (w : World) (T g m k xa xb db : Nat) (P : Pt) (dig : List Int) (S : Fs) (wx : World) : Prop where
  f : Fl wx T g m k S
  a : Ar wx xa g ⟨0, 2, 9⟩
  b : Ar wx xb g P
  d : Has wx db 49 (Sha.nums dig).toArray
  low : Below w.heap.size w wx
  top : T ≤ wx.heap.size
  few : Few S
  wl : S.wear.length = 8
  dg : aDig S P = dig
/-- Where all lies. -/
structure ApAt (w : World) (T g m k xa xb db : Nat) : Prop where
  low : ∀ b, In3 g m k b → w.heap.size ≤ b ∧ b < T
  xa : T ≤ xa
  xb : T ≤ xb
  db : T ≤ db
theorem ApSt.kept {w wx w' : World} {T g m k xa xb db : Nat} {P : Pt} {dig : List Int} {S : Fs} (h : ApSt w T g m k xa xb db P dig S wx) (hb : Below wx.heap.size wx w') : ApSt w T g m k xa xb db P dig S w' :=
  ⟨h.f.kept hb, h.a.kept hb, h.b.kept hb, h.d.kept hb, h.low.trans (hb.mono h.low.size), Nat.le_trans h.top hb.size, h.few, h.wl, h.dg⟩
theorem ApSt.to {w wx w' : World} {T g m k xa xb db : Nat} {P : Pt} {dig : List Int} {S S' : Fs} (h : ApSt w T g m k xa xb db P dig S wx) (q : ApAt w T g m k xa xb db) (ht : FlTo T g m k S' wx w') (hf : Few S') (hs : SameFrom 2 S S') (hp : 2 ≤ P.fst) : ApSt w T g m k xa xb db P dig S' w' :=
  ⟨ht.1, h.a.only ht.2 (fun e => by have := (q.low _ e).2; have := q.xa; omega), h.b.only ht.2 (fun e => by have := (q.low _ e).2; have := q.xb; omega), h.d.only ht.2 (fun e => by have := (q.low _ e).2; have := q.db; omega), h.low.trans (ht.2.to_below h.low.size fun b hb => (q.low b hb).1), Nat.le_trans h.top ht.2.size, hf, hs.wl.symm.trans h.wl, (dig_same hs hp).symm.trans h.dg⟩
/-- What stands ahead of each call. -/
def Aparts (w : World) (T g m k xa xb db : Nat) (P : Pt) (dig : List Int) (len : Nat) (v : Value) (wr : World) : Prop :=
  ∃ (j : Nat) (S : Fs), v = .int .i64 (j : Int) ∧ j ≤ len ∧ S.ops ≤ j + 2 ∧ ApSt w T g m k xa xb db P dig S wr
theorem same_power (l : Nat) (S : Fs) : SameFrom l S (power S) := ⟨rfl, rfl, fun _ _ => rfl, fun _ _ => rfl⟩
theorem same_cut (l : Nat) (S : Fs) (q : Nat) (ms : List Int) : SameFrom l S (cutAt S q ms) := ⟨rfl, rfl, fun _ _ => rfl, fun _ _ => rfl⟩
set_option maxRecDepth 100000 in
set_option maxHeartbeats 4000000 in
theorem apart_within (a : Option Addr) (len cap gp : Nat) (w : World) (hacts : Acts w a len) (h60 : len ≤ 60) (h3 : gp ≤ 3) (ht : Sha.Tabs w) :
    Calls Tryd.prog 4 #[.slice a len cap, .int .i64 (gp : Int)] w fun e w' => e = .returned (.bool true) ∧ Below w.heap.size w w' := by
  have d1 : decide (60 < len) = false := by simp; omega
  have d2 : ¬ (60 : Int) < (len : Int) := by omega
  have d3 : decide ((gp : Int) < 0) = false := by simp
  have d4 : ¬ (3 : Int) < (gp : Int) := by omega
  have d5 : decide ((3 : Int) < (gp : Int)) = false := by simpa using d4
  have q1 : IntKind.i64.wrap (2 + (gp : Int)) = 2 + (gp : Int) := by rw [IntKind.wrap_i64]; omega
  have HACTS := Lib.hid hacts
  have HT := Lib.hid ht
  have HMB := Lib.hid (made_b h3)
  have HOB := Lib.hid (ok_b h3)
  have hz2 := Sha.zero24_run
  clear hacts ht
  obtain ⟨P, hP⟩ : ∃ P : Pt, (⟨2 + gp, 3, 9⟩ : Pt) = P := ⟨_, rfl⟩
  rw [hP] at HMB HOB
  have hP2 : 2 ≤ P.fst := by rw [← hP]; simp only []; omega
  clear hP
  go_enter Tryd.func4, Tryd.ntmps4
  go_wp2_with (first
    | (go_at_call 5; refine (alive_any _).mono ?_; rintro e W1 ⟨rfl, H1⟩; have N1 := Lib.hid (new_any 8 W1))
    | (go_at_call 6; (with_reducible refine N1.out.mono ?_); rintro e W2 ⟨g, m, k, rfl, hg, hm, hk, f2, b2⟩; rw [show sect 8 = 8 from rfl] at f2; have HNA := newArea_any 0 0 2 9 W2 f2 ⟨i64_small (by omega), i64_small (by omega), i64_small (by omega)⟩; rw [fresh_wear, made_a] at HNA; unfold capCells at HNA)
    | (go_at_call 8; (with_reducible refine HNA.mono ?_); rintro e W3 ⟨xa, rfl, hxa, a3, b3⟩; have HNB := newArea_any 0 (2 + (gp : Int)) 3 9 W3 (f2.kept b3) ⟨i64_small (by omega), i64_small (by omega), i64_small (by omega)⟩; rw [fresh_wear, HMB.out] at HNB; unfold capCells at HNB)
    | (go_at_call 8; (with_reducible refine HNB.mono ?_); rintro e W4 ⟨xb, rfl, hxb, a4, b4⟩; clear HNA HNB; have b24 := b3.trans (b4.mono b3.size); have NB := Lib.hid (not_in f2 (x := xb) (Nat.le_trans b3.size hxb)); have NA := Lib.hid (not_in f2 (x := xa) hxa); have LOW := Lib.hid (show ∀ b, In3 g m k b → w.heap.size ≤ b from fun b hb => by have h9 := H1.size; rcases hb with rfl | rfl | rfl <;> omega); have F4 := Lib.hid (f2.kept b24); have A4 := Lib.hid (a3.kept b4); have X4 := Lib.hid a4; have BW := Lib.hid (H1.trans ((b2.trans (b24.mono b2.size)).mono H1.size)); have hcv := Lib.run_convert_bytes_const (P := Tryd.prog) W4 36 5 #[.int .u8 107, .int .u8 101, .int .u8 112, .int .u8 116] 4 4 Tryd.underlying36 Tryd.underlying5; have PR := Lib.hid (aprogram_any 0 3 (some ⟨W4.heap.size, 0, none⟩) 4 4 [107, 101, 112, 116] (W4.alloc (.cells #[.int .u8 107, .int .u8 101, .int .u8 112, .int .u8 116] 5 (4, 5))) (X4.out.kept ((Below.refl _ W4).alloc (Nat.le_refl _) _)) (F4.out.lit _) (by rw [fresh_wear]; exact HOB.out) (i64_small (by omega)) (row_text W4 [107, 101, 112, 116] byt_kept 4 rfl (4, 5)) (.inr (F4.out.away (Nat.le_refl _))) (by simp [fresh])))
    | (go_at_call 13; (with_reducible refine PR.out.mono ?_); rintro e W5 ⟨rfl, f5, o5⟩; have X5 := Lib.hid ((X4.out.kept ((Below.refl _ W4).alloc (Nat.le_refl _) _)).only o5 NB.out); have A5 := Lib.hid ((A4.out.kept ((Below.refl _ W4).alloc (Nat.le_refl _) _)).only o5 NA.out); have S5 := Lib.hid (aProg_wears (fresh 8) P 0 3 [107, 101, 112, 116]); have HE5 := Lib.hid (few_aProg (few_fresh 8) P 0 3 [107, 101, 112, 116]); have B5 := Lib.hid ((below_lit BW.out _).trans (o5.to_below (below_lit BW.out _).size fun b hb => LOW.out b hb)); have F5 := Lib.hid f5; have T5 := Lib.hid (Nat.le_trans (Nat.le_trans b24.size (by simp)) o5.size); generalize (aProg (fresh 8) P 0 3 [107, 101, 112, 116]).2 = S1 at *; have ER := Lib.hid (aerase_any 1 W5 X5.out F5.out HE5.out (by have := S5.out.2; have : (fresh 8).ops = 0 := rfl; omega) (by rw [S5.out.1, fresh_wear]; exact HOB.out)); clear f5 o5 PR hcv)
    | (go_at_call 15; (with_reducible refine ER.out.mono ?_); rintro e W6 ⟨rfl, f6, o6⟩; have X6 := Lib.hid (X5.out.only o6 NB.out); have A6 := Lib.hid (A5.out.only o6 NA.out); have S6 := Lib.hid (aErase_wears S1 P 1); have HE6 := Lib.hid (few_aErase HE5.out P 1); have B6 := Lib.hid (B5.out.trans (o6.to_below B5.out.size fun b hb => LOW.out b hb)); have F6 := Lib.hid f6; have T6 := Lib.hid (Nat.le_trans T5.out o6.size); generalize (aErase S1 P 1).2 = S2 at *; have HO2 := Lib.hid (show S2.ops ≤ 2 by have h1 := S6.out.2; have h2 := S5.out.2; have h0 : (fresh 8).ops = 0 := rfl; omega); have HW2 := Lib.hid (show S2.wear.length = 8 by rw [S6.out.1, S5.out.1, fresh_wear]); have DG := Lib.hid (adigest_any W6 X6.out F6.out (by rw [HW2.out]; exact HOB.out) HE6.out (by have := HO2.out; omega) (HT.out.kept B6.out)); obtain ⟨dig, hdig⟩ : ∃ d, aDig S2 P = d := ⟨_, rfl⟩; rw [hdig] at DG; have HDG := Lib.hid hdig; have hsl := Lib.hid (show dig.length = 32 by rw [← hdig]; rfl); clear f6 o6 ER hdig)
    | (go_at_call 27; (with_reducible refine DG.out.mono ?_); rintro e W7 ⟨rfl, b7⟩; have hn7 := has_new W7 49 Sha.zero24)
    | (refine wpList_store_row rfl 49 _ _ rfl W7.heap.size (Sha.nums dig).toArray rfl rfl 49 _ hn7 (Sha.size24 hsl.out) (by rw [Sha.zero24_size, List.size_toArray, Sha.nums_len, hsl.out]) (Sha.nums_all _) ?_))
  have bz : Below W7.heap.size W7 ((W7.alloc (.cells Sha.zero24 49)).setRow W7.heap.size (Sha.nums dig).toArray) := below_setRow ((Below.refl _ W7).alloc (Nat.le_refl _) _) (Nat.le_refl _) _
  have b67 := b7.trans (bz.mono b7.size)
  have hst : Aparts w W2.heap.size g m k xa xb W7.heap.size P dig len (.int .i64 0) ((W7.alloc (.cells Sha.zero24 49)).setRow W7.heap.size (Sha.nums dig).toArray) :=
    ⟨0, S2, rfl, Nat.zero_le _, HO2.out, ⟨F6.out.kept b67, A6.out.kept b67, X6.out.kept b67, setRow_heap _ _ _ _ _ _ hn7, B6.out.trans (b67.mono B6.out.size), Nat.le_trans T6.out b67.size, HE6.out, HW2.out, HDG.out⟩⟩
  have HAT := Lib.hid (show ApAt w W2.heap.size g m k xa xb W7.heap.size from ⟨fun b hb => ⟨LOW.out b hb, f2.in b hb⟩, hxa, Nat.le_trans b3.size hxb, Nat.le_trans T6.out b7.size⟩)
  generalize W7.heap.size = db at *
  generalize W2.heap.size = T at *
  clear bz b67 hn7 b7 a3 a4 b2 b3 b4 b24 f2 H1 hg hm hk hxa hxb F4 A4 X4 BW F5 A5 X5 B5 T5 S5 HE5 F6 A6 X6 B6 T6 S6 HE6 HO2 HW2 HDG LOW NA NB DG N1 HMB
  go_loopw [10] (fun v wr => Aparts w T g m k xa xb db P dig len v wr) (fun v _ => len - (intOf v).toNat)
  case atStart => exact hst
  case round =>
    clear hst
    obtain ⟨j, S, rfl, hj, hS, h3x⟩ := hrel
    obtain ⟨Wz, rfl⟩ : ∃ x, x = wr := ⟨_, rfl⟩
    have j0 : (0 : Int) ≤ (j : Int) := by omega
    by_cases hlt : j < len
    · have j1 : (j : Int) < (len : Int) := by omega
      obtain ⟨b, off, ha, hA⟩ : ∃ b off, a = some ⟨b, off, none⟩ ∧ ∃ way at' n BA BL BC bs MA ML MC ms ot, ActAt w b (off + j * 6) way at' n BA BL BC bs MA ML MC ms ot := by
        rcases HACTS.out with h | ⟨b, off, h1, h2⟩
        · omega
        · exact ⟨b, off, h1, h2 j hlt⟩
      obtain ⟨way, at', q, BA, BL, BC, bs, MA, ML, MC, ms, ot, hA⟩ := hA
      subst ha
      have hA1 := hA.kept h3x.low
      have c0 := hA1.c0
      have c1 := hA1.c1
      have c2 := hA1.c2
      have c3 := hA1.c3
      have c4 := hA1.c4
      have c5 := hA1.c5
      have HA := Lib.hid hA
      have H3 := Lib.hid h3x
      clear hA hA1 h3x HACTS
      by_cases g0 : 700 < BL
      · have e0 : decide (700 < BL) = true := by simpa using g0
        have e1 : (700 : Int) < (BL : Int) := by omega
        go_wp2_with fail
        go_ret
        exact ⟨rfl, H3.out.low.alloc H3.out.low.size _⟩
      have e0 : decide (700 < BL) = false := by simpa using g0
      have e1 : ¬ (700 : Int) < (BL : Int) := by omega
      by_cases g1 : 50 < ML
      · have e2 : decide (50 < ML) = true := by simpa using g1
        have e3 : (50 : Int) < (ML : Int) := by omega
        go_wp2_with fail
        go_ret
        exact ⟨rfl, H3.out.low.alloc H3.out.low.size _⟩
      have e2 : decide (50 < ML) = false := by simpa using g1
      have e3 : ¬ (50 : Int) < (ML : Int) := by omega
      have H3a := Lib.hid (H3.out.kept ((Below.refl _ Wz).alloc (Nat.le_refl _) (.cells (actCells way at' q BA BL BC MA ML MC ot) 38)))
      have HBa := Lib.hid H3a.out.low
      unfold actCells at H3a HBa
      by_cases w0 : way = 0
      · subst w0
        have HC := Lib.hid (aprogram_any q at' BA BL BC bs _ H3a.out.a H3a.out.f (by rw [H3a.out.wl]; exact ok_a) HA.out.i1 (row_below HBa.out HA.out.rb) (clear_in HA.out.rb (fun b hb => (HAT.out.low b hb).1)) (by omega))
        have HST := Lib.hid (few_aProg H3a.out.few ⟨0, 2, 9⟩ q at' bs)
        have HSA := Lib.hid (aProg_same (S := S) (P := ⟨0, 2, 9⟩) (l := 2) (by simp only []; omega) q at' bs)
        have hpo := (aProg_wears S ⟨0, 2, 9⟩ q at' bs).2
        clear HBa
        go_wp2_with (go_at_call 13; (with_reducible refine HC.out.mono ?_); rintro e w9 ⟨rfl, f9, o9⟩)
        have H39 := Lib.hid (H3a.out.to HAT.out ⟨f9, o9⟩ HST.out HSA.out hP2)
        clear f9 o9
        go_roundw
        case rel => exact ⟨j + 1, _, by go_num, by omega, by omega, H39.out⟩
        case measure => simp [intOf]; omega
      by_cases w1 : way = 1
      · subst w1
        have HC := Lib.hid (aerase_any q _ H3a.out.a H3a.out.f H3a.out.few (by omega) (by rw [H3a.out.wl]; exact ok_a))
        have HST := Lib.hid (few_aErase H3a.out.few ⟨0, 2, 9⟩ q)
        have HSA := Lib.hid (aErase_same (S := S) (P := ⟨0, 2, 9⟩) (l := 2) (by simp only []; omega) q)
        have hpo := (aErase_wears S ⟨0, 2, 9⟩ q).2
        clear HBa
        go_wp2_with (go_at_call 15; (with_reducible refine HC.out.mono ?_); rintro e w9 ⟨rfl, f9, o9⟩)
        have H39 := Lib.hid (H3a.out.to HAT.out ⟨f9, o9⟩ HST.out HSA.out hP2)
        clear f9 o9
        go_roundw
        case rel => exact ⟨j + 1, _, by go_num, by omega, by omega, H39.out⟩
        case measure => simp [intOf]; omega
      by_cases w2 : way = 2
      · subst w2
        have HC := Lib.hid (cut_any q MA ML MC ms _ HA.out.i2 H3a.out.f (row_below HBa.out HA.out.rm) HA.out.lm (by omega) H3a.out.top)
        have HST := Lib.hid (few_cut H3a.out.few (max q 0).toNat (ms.take S.mem.length))
        have HSA := Lib.hid (same_cut 2 S (max q 0).toNat (ms.take S.mem.length))
        have hpo : (cutAt S (max q 0).toNat (ms.take S.mem.length)).ops ≤ S.ops + 1 := by show S.ops ≤ _; omega
        clear HBa
        go_wp2_with (go_at_call 17; (with_reducible refine HC.out.mono ?_); rintro e w9 ⟨rfl, f9, o9⟩)
        have H39 := Lib.hid (H3a.out.to HAT.out ⟨f9, o9⟩ HST.out HSA.out hP2)
        clear f9 o9
        go_roundw
        case rel => exact ⟨j + 1, _, by go_num, by omega, by omega, H39.out⟩
        case measure => simp [intOf]; omega
      by_cases w3 : way = 3
      · subst w3
        have HC := Lib.hid (power_any _ H3a.out.f)
        have HST := Lib.hid (few_power H3a.out.few)
        have HSA := Lib.hid (same_power 2 S)
        have hpo : (power S).ops ≤ S.ops + 1 := by show S.ops ≤ _; omega
        clear HBa
        go_wp2_with (go_at_call 19; (with_reducible refine HC.out.mono ?_); rintro e w9 ⟨rfl, f9, o9⟩)
        have H39 := Lib.hid (H3a.out.to HAT.out ⟨f9, o9⟩ HST.out HSA.out hP2)
        clear f9 o9
        go_roundw
        case rel => exact ⟨j + 1, _, by go_num, by omega, by omega, H39.out⟩
        case measure => simp [intOf]; omega
      have v0 : (way == 0) = false := by simpa using w0
      have v1 : (way == 1) = false := by simpa using w1
      have v2 : (way == 2) = false := by simpa using w2
      have v3 : (way == 3) = false := by simpa using w3
      clear HBa
      go_wp2_with fail
      go_roundw
      case rel => exact ⟨j + 1, _, by go_num, by omega, by omega, H3a.out⟩
      case measure => simp [intOf]; omega
    · obtain rfl : j = len := by omega
      have HKD := Lib.hid (show ∀ W, Below Wz.heap.size Wz W → Calls Tryd.prog 27 #[.pointer (some ⟨xb, 0, none⟩)] W fun e w' => e = .returned (.agg (Sha.nums dig).toArray) ∧ Below W.heap.size W w' from fun W hW => by
        have hk := h3x.kept hW
        have := adigest_any W hk.b hk.f (by rw [hk.wl]; exact HOB.out) hk.few (by omega) (HT.out.kept hk.low)
        rw [hk.dg] at this
        exact this)
      have HS7 := Lib.hid (show Has Wz.drew db 49 (Sha.nums dig).toArray from h3x.d)
      have heq := Sha.eq24 dig hsl.out
      have HLW := Lib.hid h3x.low
      clear h3x
      go_wp2_with fail
      refine wp_region_held_drew (S := fun W => Has W db 49 (Sha.nums dig).toArray) (by kernel_rfl) HS7.out ?_
      intro _
      refine wpAnyH_take (i := 0) (v := .pointer (some ⟨xb, 0, none⟩)) rfl (by kernel_rfl) (by kernel_rfl) (by kernel_rfl) (fun _ _ _ h => h) (Or.inl ⟨by rfl, (fun W _ => by go_simp)⟩) HS7.out ?_
      simp only [List.getElem_toArray, List.getElem_cons_succ, List.getElem_cons_zero, Act.put, List.setIfInBounds_toArray, List.set_cons_zero, List.set_cons_succ]
      refine wpAnyH_take (i := 2) (v := .agg (Sha.nums dig).toArray) rfl (by kernel_rfl) (by kernel_rfl) (by kernel_rfl) (fun _ _ _ h => h) (yields_row (by rfl) (.tmp 9) rfl db rfl dig (fun W hW => hW) hsl.out) HS7.out ?_
      simp only [List.getElem_toArray, List.getElem_cons_succ, List.getElem_cons_zero, Act.put, List.setIfInBounds_toArray, List.set_cons_zero, List.set_cons_succ]
      refine wpAnyH_ready (rs := [1]) (by kernel_rfl) (by simp) ?_
      refine AllReadyH.cons rfl (fun K hK => ?_) AllReadyH.nil
      go_simp
      refine (HKD.out Wz.drew ((Below.refl _ Wz).drew)).mono ?_
      rintro e w8 ⟨rfl, b8⟩
      have HS8 := Lib.hid (HS7.out.kept b8)
      refine hK.out _ _ HS8.out (fun _ => ?_)
      clear hK K
      refine wpAnyH_take (i := 3) (v := .bool true) rfl (by kernel_rfl) (by kernel_rfl) (by kernel_rfl) (fun _ _ _ h => h) (Or.inl ⟨by rfl, (fun W _ => by go_simp)⟩) HS8.out ?_
      simp only [List.getElem_toArray, List.getElem_cons_succ, List.getElem_cons_zero, Act.put, List.setIfInBounds_toArray, List.set_cons_zero, List.set_cons_succ]
      refine wpAnyH_take (i := 4) (v := .bool true) rfl (by kernel_rfl) (by kernel_rfl) (by kernel_rfl) (fun _ _ _ h => h) (Or.inl ⟨by rfl, (fun W _ => by go_simp)⟩) HS8.out ?_
      simp only [List.getElem_toArray, List.getElem_cons_succ, List.getElem_cons_zero, Act.put, List.setIfInBounds_toArray, List.set_cons_zero, List.set_cons_succ]
      refine wpAnyH_done (by kernel_rfl) ?_ _
      have hfin := HLW.out.drew.trans (b8.mono HLW.out.size)
      clear heq
      go_wp2_with fail
      go_ret
      exact ⟨rfl, hfin⟩
end Go.Proofs.YtgignmjojlolfaaDoor
