/-
  What the program's Write does to a stream; conditions: the stream has begun, the bytes lie elsewhere, the count stays small.
-/
import Derived.Test.YtklhmneapegfpaaGreatDoorShaSm
import Derived.Deep.RegionWith
import Derived.BigRegion
namespace Go.Proofs.YtklhmneapegfpaaGreatDoor.Sha
open Go.RowKit
set_option linter.unusedVariables false
set_option linter.unusedSimpArgs false

theorem only_refl (w : World) (r : Option Nat) : w.grownBy w r := ⟨rfl, rfl, rfl, Nat.le_refl _, fun _ _ _ => rfl⟩
theorem only_below {a w w' : World} {r : Option Nat} (h : a.grownBy w r) (hb : Below w.heap.size w w') : a.grownBy w' r :=
  ⟨hb.os.trans h.os, hb.tape.trans h.tape, hb.output.trans h.output, Nat.le_trans h.size hb.size, fun i hi hn => (hb.block i (Nat.lt_of_lt_of_le hi h.size)).trans (h.block i hi hn)⟩
theorem only_drew {a w : World} {r : Option Nat} (h : a.grownBy w r) : a.grownBy w.drew r := ⟨h.os, h.tape, h.output, h.size, h.block⟩
theorem only_row {a w : World} {b : Nat} (h : a.grownBy w (some b)) (cs : Array Value) : a.grownBy (w.setRow b cs) (some b) :=
  ⟨h.os, h.tape, h.output, by rw [setRow_size]; exact h.size, fun i hi hn => (setRow_other w b i cs (fun e => hn (by rw [e]))).trans (h.block i hi hn)⟩
theorem only_cell {a w : World} {b j : Nat} (h : a.grownBy w (some b)) (v : Value) : a.grownBy (w.setCell ⟨b, j, none⟩ v) (some b) :=
  ⟨h.os, h.tape, h.output, by simpa using h.size, fun i hi hn => (heap_setCell_other w _ i v (fun e => hn (by rw [e]))).trans (h.block i hi hn)⟩
theorem Tabs.only {w w' : World} {b : Nat} (h : Tabs w) (ho : w.grownBy w' (some b)) (hb : 2 < b) : Tabs w' :=
  h.below (B := 3) ⟨ho.os, ho.tape, ho.output, ho.size, fun k hk => ho.block k (by have := h.1; omega) (by intro e; injection e; omega)⟩ (by omega)
/-- The row of bytes lies elsewhere. -/
def Off (a : Option Addr) (n b : Nat) : Prop := 0 < n → ∀ x, a = some x → x.block ≠ b
theorem row_off {w : World} {a : Option Addr} {n b : Nat} {zs : List Int} (h : Row w a n zs) (hb : w.heap.size ≤ b) : Off a n b := by
  intro hn x hx
  obtain ⟨g, off, e, hw, _⟩ := row_open h hn
  rw [hx] at e
  cases e
  show g ≠ b
  omega
theorem row_only {w w' : World} {a : Option Addr} {n b : Nat} {zs : List Int} (h : Row w a n zs) (ho : w.grownBy w' (some b)) (hf : Off a n b) : Row w' a n zs := by
  obtain ⟨h1, h2, h3⟩ := h
  refine ⟨h1, h2, ?_⟩
  by_cases hn : n = 0
  · exact .inl hn
  · rcases h3 with h0 | ⟨g, off, rfl, hw, hc⟩
    · exact .inl h0
    · exact .inr ⟨g, off, rfl, Nat.lt_of_lt_of_le hw ho.size, fun j hj => (World.cell?_of_block (ho.block g hw (fun e => hf (by omega) _ rfl (by injection e)))).trans (hc j hj)⟩

theorem fold_lit (s X : St) (zs : List Int) (hX : X = foldI s zs) (b off cap : Nat) (w : World) (hs : s.Ok) (hcap : 64 ≤ cap) (hr : Row w (some ⟨b, off, none⟩) 64 zs) (ht : Tabs w) :
    Calls Tryz.prog 82 #[.agg #[.int .u32 s.a, .int .u32 s.b, .int .u32 s.c, .int .u32 s.d, .int .u32 s.e, .int .u32 s.f, .int .u32 s.g, .int .u32 s.h], .slice (some ⟨b, off, none⟩) 64 cap] w fun e w' =>
      e = .returned (.agg #[.int .u32 X.a, .int .u32 X.b, .int .u32 X.c, .int .u32 X.d, .int .u32 X.e, .int .u32 X.f, .int .u32 X.g, .int .u32 X.h]) ∧ Below w.heap.size w w' := by
  subst hX
  exact fold_any s b off cap zs w hs hcap hr ht
theorem has_eight {w : World} {b n : Nat} {K : St} {bf : List Int} (h : Has w b 96 (smCells K n bf)) :
    w.cell? ⟨b, 1, none⟩ = some (.int .u32 K.a) ∧ w.cell? ⟨b, 2, none⟩ = some (.int .u32 K.b) ∧ w.cell? ⟨b, 3, none⟩ = some (.int .u32 K.c) ∧ w.cell? ⟨b, 4, none⟩ = some (.int .u32 K.d) ∧
    w.cell? ⟨b, 5, none⟩ = some (.int .u32 K.e) ∧ w.cell? ⟨b, 6, none⟩ = some (.int .u32 K.f) ∧ w.cell? ⟨b, 7, none⟩ = some (.int .u32 K.g) ∧ w.cell? ⟨b, 8, none⟩ = some (.int .u32 K.h) ∧
    w.frozen? ⟨b, 1, none⟩ = false ∧ w.frozen? ⟨b, 2, none⟩ = false ∧ w.frozen? ⟨b, 3, none⟩ = false ∧ w.frozen? ⟨b, 4, none⟩ = false ∧ w.frozen? ⟨b, 5, none⟩ = false ∧ w.frozen? ⟨b, 6, none⟩ = false ∧ w.frozen? ⟨b, 7, none⟩ = false ∧ w.frozen? ⟨b, 8, none⟩ = false :=
  ⟨(h.at 1).trans (sm_word K _ bf 0 (by omega)), (h.at 2).trans (sm_word K _ bf 1 (by omega)), (h.at 3).trans (sm_word K _ bf 2 (by omega)), (h.at 4).trans (sm_word K _ bf 3 (by omega)),
   (h.at 5).trans (sm_word K _ bf 4 (by omega)), (h.at 6).trans (sm_word K _ bf 5 (by omega)), (h.at 7).trans (sm_word K _ bf 6 (by omega)), (h.at 8).trans (sm_word K _ bf 7 (by omega)),
   h.soft 1, h.soft 2, h.soft 3, h.soft 4, h.soft 5, h.soft 6, h.soft 7, h.soft 8⟩
/-- Eight stores, one behind the other: the words anew. -/
def eightSet (w : World) (b : Nat) (X : St) : World := (((((((w.setCell ⟨b, 1, none⟩ (.int .u32 X.a)).setCell ⟨b, 2, none⟩ (.int .u32 X.b)).setCell ⟨b, 3, none⟩ (.int .u32 X.c)).setCell ⟨b, 4, none⟩ (.int .u32 X.d)).setCell ⟨b, 5, none⟩ (.int .u32 X.e)).setCell ⟨b, 6, none⟩ (.int .u32 X.f)).setCell ⟨b, 7, none⟩ (.int .u32 X.g)).setCell ⟨b, 8, none⟩ (.int .u32 X.h)
theorem eight_has {w : World} {b n : Nat} {K : St} {bf : List Int} (h : Has w b 96 (smCells K n bf)) (X : St) : Has (eightSet w b X) b 96 (smCells X n bf) := by
  have := (((((((h.put 1 (.int .u32 X.a)).put 2 (.int .u32 X.b)).put 3 (.int .u32 X.c)).put 4 (.int .u32 X.d)).put 5 (.int .u32 X.e)).put 6 (.int .u32 X.f)).put 7 (.int .u32 X.g)).put 8 (.int .u32 X.h)
  have e : ((((((((smCells K n bf).setIfInBounds 1 (.int .u32 X.a)).setIfInBounds 2 (.int .u32 X.b)).setIfInBounds 3 (.int .u32 X.c)).setIfInBounds 4 (.int .u32 X.d)).setIfInBounds 5 (.int .u32 X.e)).setIfInBounds 6 (.int .u32 X.f)).setIfInBounds 7 (.int .u32 X.g)).setIfInBounds 8 (.int .u32 X.h) = smCells X n bf := by simp [smCells, stCells]
  rw [e] at this
  exact this
theorem eight_only {a w : World} {b : Nat} (h : a.grownBy w (some b)) (X : St) : a.grownBy (eightSet w b X) (some b) := only_cell (only_cell (only_cell (only_cell (only_cell (only_cell (only_cell (only_cell h _) _) _) _) _) _) _) _
theorem sm_first (K : St) (N : Nat) (bf rem : List Int) (m : Nat) (hm : rem.length = m) (hf : m ≤ bf.length) : ((smCells K N bf).toList.take 10 ++ (nums (rem.take m) ++ (smCells K N bf).toList.drop (10 + m))).toArray = smCells K N (rem ++ bf.drop m) := by
  have := sm_bytes K N bf rem 0 m hm (by omega)
  rw [List.take_of_length_le (l := rem) (by omega)]
  simpa using this
def Wrote (b : Nat) (H : St) (n : Nat) (bf zs : List Int) (w : World) (e : Ending) (w' : World) : Prop :=
  e = .returned (.tuple #[]) ∧ ∃ bf' : List Int, bf'.length = 64 ∧ Byt bf' ∧ bf'.take ((n + zs.length) % 64) = (run H (bf.take (n % 64) ++ zs)).2 ∧
    Has w' b 96 (smCells (run H (bf.take (n % 64) ++ zs)).1 (n + zs.length) bf') ∧ w.grownBy w' (some b)
/-- The loop: what is left of the bytes, and the state so far. -/
def Left (b N : Nat) (goal : St × List Int) (w : World) (v : Value) (wr : World) : Prop :=
  ∃ (A : Option Addr) (m c : Nat) (rem : List Int) (K : St) (bf : List Int), v = .slice A m c ∧ m ≤ c ∧ Row wr A m rem ∧ Off A m b ∧ K.Ok ∧ run K rem = goal ∧ bf.length = 64 ∧ Byt bf ∧ Has wr b 96 (smCells K N bf) ∧ w.grownBy wr (some b)
def lenV : Value → Nat | .slice _ m _ => m | _ => 0

set_option maxRecDepth 100000 in
set_option maxHeartbeats 2000000 in
theorem write_any (b n : Nat) (H : St) (bf : List Int) (a : Option Addr) (m cap : Nat) (zs : List Int) (w : World)
    (hH : H.Ok) (hbf : bf.length = 64) (hbb : Byt bf) (hs : Has w b 96 (smCells H n bf)) (hr : Row w a m zs) (hcap : m ≤ cap) (hoff : Off a m b) (ht : Tabs w) (hb1 : 2 < b) (hn : n + m < 1152921504606846976) :
    Calls Tryz.prog 66 #[.pointer (some ⟨b, 0, none⟩), .slice a m cap] w (Wrote b H n bf zs w) := by
  have c0 : w.cell? ⟨b, 0, none⟩ = some (.bool true) := (hs.at 0).trans (sm_begun H n bf)
  have c9 : w.cell? ⟨b, 9, none⟩ = some (.int .u64 (n : Int)) := (hs.at 9).trans (sm_count H n bf)
  have f9 := hs.soft 9
  have HBF := Lib.hid hbf
  clear hbf
  have hs1 := hs.put 9 (.int .u64 ((n : Int) + (m : Int)))
  rw [← show ((n + m : Nat) : Int) = (n : Int) + (m : Int) by omega, sm_put, show ((n + m : Nat) : Int) = (n : Int) + (m : Int) by omega] at hs1
  have hon1 := only_cell (j := 9) (only_refl w (some b)) (.int .u64 ((n : Int) + (m : Int)))
  have hr1 := row_only hr hon1 hoff
  have hfil := filled_any b n H bf w hs
  obtain ⟨f, hf⟩ : ∃ f, n % 64 = f := ⟨_, rfl⟩
  rw [hf] at hfil
  have HF := Lib.hid hf
  have hf64 : f < 64 := by omega
  clear hf
  by_cases h0 : f = 0
  · have hleft : Left b (n + m) (run H (bf.take (n % 64) ++ zs)) w (.slice a m cap) (w.setCell ⟨b, 9, none⟩ (.int .u64 ((n : Int) + (m : Int)))) := ⟨a, m, cap, zs, H, bf, rfl, hcap, hr1, hoff, hH, by rw [HF.out, h0]; rfl, HBF.out, hbb, hs1, hon1⟩
    subst h0
    go_enter Tryz.func66, Tryz.ntmps66
    go_wp2_with (go_at_call 81; (with_reducible refine hfil.mono ?_); rintro e w1 ⟨rfl, rfl⟩)
    go_loopw [1] (fun v wr => Left b (n + m) (run H (bf.take (n % 64) ++ zs)) w v wr) (fun v _ => lenV v)
    case atStart => exact hleft
    case round =>
      clear hleft
      obtain ⟨A, m', c', rem, K, bf', rfl, hmc, hrr, hoff', hK, hrun, hl', hb', hst, hon⟩ := hrel
      by_cases h64 : 64 ≤ m'
      · obtain ⟨rb, ro, rfl, hrw, _⟩ := row_open hrr (by omega)
        have hrun2 := Lib.hid (run_step K rem (by rw [hrr.1]; exact h64))
        have HR := Lib.hid hrun
        have HL := Lib.hid hl'
        clear hrun hl'
        have htr := (ht.only hon hb1)
        have hr64 := row_upto hrr 64 h64
        have g1 : wr.cell? ⟨b, 1, none⟩ = some (.int .u32 K.a) := (hst.at 1).trans (sm_word K _ bf' 0 (by omega))
        have g2 : wr.cell? ⟨b, 2, none⟩ = some (.int .u32 K.b) := (hst.at 2).trans (sm_word K _ bf' 1 (by omega))
        have g3 : wr.cell? ⟨b, 3, none⟩ = some (.int .u32 K.c) := (hst.at 3).trans (sm_word K _ bf' 2 (by omega))
        have g4 : wr.cell? ⟨b, 4, none⟩ = some (.int .u32 K.d) := (hst.at 4).trans (sm_word K _ bf' 3 (by omega))
        have g5 : wr.cell? ⟨b, 5, none⟩ = some (.int .u32 K.e) := (hst.at 5).trans (sm_word K _ bf' 4 (by omega))
        have g6 : wr.cell? ⟨b, 6, none⟩ = some (.int .u32 K.f) := (hst.at 6).trans (sm_word K _ bf' 5 (by omega))
        have g7 : wr.cell? ⟨b, 7, none⟩ = some (.int .u32 K.g) := (hst.at 7).trans (sm_word K _ bf' 6 (by omega))
        have g8 : wr.cell? ⟨b, 8, none⟩ = some (.int .u32 K.h) := (hst.at 8).trans (sm_word K _ bf' 7 (by omega))
        have i64 : (64 : Int) ≤ (m' : Int) := by omega
        have i65 : (64 : Int) ≤ (c' : Int) := by omega
        go_wp2_with fail
        have hfold := fold_lit K (foldI K (rem.take 64)) (rem.take 64) rfl rb ro c' wr.drew hK (by omega) (row_below ((Below.refl _ wr).drew) hr64) (htr.kept ((Below.refl _ wr).drew))
        have hXok := foldI_ok K (rem.take 64)
        generalize foldI K (rem.take 64) = X at *
        go_region_with ((go_at_call 82; (refine hfold.mono ?_); rintro e w1 ⟨rfl, H1⟩; have hst1 := Has.kept (w := wr.drew) hst H1; obtain ⟨k1, k2, k3, k4, k5, k6, k7, k8, l1, l2, l3, l4, l5, l6, l7, l8⟩ := has_eight hst1))
        have hst2 := eight_has hst1 X
        have hon2 := eight_only (only_below (only_drew hon) H1) X
        have hrr2 := row_only hrr (eight_only (only_below (only_drew (only_refl wr (some b))) H1) X) hoff'
        change Exit.then _ _ _ _ (eightSet w1 b X)
        generalize eightSet w1 b X = w2 at *
        clear k1 k2 k3 k4 k5 k6 k7 k8 l1 l2 l3 l4 l5 l6 l7 l8 g1 g2 g3 g4 g5 g6 g7 g8 hst1 H1 hfold
        by_cases hc64 : c' = 64
        · have hm64 : m' = 64 := by omega
          go_wp2
          go_roundw
          case rel => exact ⟨_, _, _, rem.drop 64, X, bf', rfl, by omega, ⟨by rw [List.length_drop, hrr.1]; omega, byt_drop hrr.2.1 _, .inl rfl⟩, (fun h => absurd h (by omega)), hXok, hrun2.out.symm.trans HR.out, HL.out, hb', hst2, hon2⟩
          case measure => simp [lenV]; omega
        · have hrr3 := fun h => row_from hrr2 64 h
          go_wp2
          go_roundw
          case rel =>
            by_cases hm64 : m' = 64
            · exact ⟨_, _, _, rem.drop 64, X, bf', rfl, by omega, ⟨by rw [List.length_drop, hrr.1], byt_drop hrr.2.1 _, .inl (by omega)⟩, (fun _ x hx => by cases hx; exact hoff' (by omega) ⟨rb, ro, none⟩ rfl), hXok, hrun2.out.symm.trans HR.out, HL.out, hb', hst2, hon2⟩
            · exact ⟨_, _, _, rem.drop 64, X, bf', rfl, by omega, hrr3 (by omega), (fun _ x hx => by cases hx; exact hoff' (by omega) ⟨rb, ro, none⟩ rfl), hXok, hrun2.out.symm.trans HR.out, HL.out, hb', hst2, hon2⟩
          case measure => simp [lenV]; omega
      · have hsm := run_small K rem (by rw [hrr.1]; omega)
        have HR := Lib.hid (hsm.symm.trans hrun)
        have HL := Lib.hid hl'
        have HM := Lib.hid (show Nat.min m' 64 = m' from Nat.min_eq_left (by omega))
        clear hrun hl' hsm
        go_wp2_with (with_reducible refine wpList_cp rfl _ _ rfl m' b 10 64 64 rfl A m' c' rfl rem hrr HM.out (smCells K (n + m) bf') 96 hst ?_ ?_)
        · rw [sm_size, HL.out]; omega
        · rw [sm_first K (n + m) bf' rem m' hrr.1 (by rw [HL.out]; omega)]
          go_end0
          have hrl := run_len (s := H) (xs := bf.take (n % 64) ++ zs) hH (byt_app (byt_take hbb _) hr.2.1)
          rw [← HR.out, List.length_append, List.length_take, HBF.out, hr.1] at hrl
          have hm' : (n + zs.length) % 64 = m' := by
            have e1 : rem.length = m' := hrr.1
            have e2 : rem.length = (min (n % 64) 64 + m) % 64 := hrl
            rw [hr.1]; omega
          refine ⟨rfl, rem ++ bf'.drop m', by rw [List.length_append, List.length_drop, hrr.1, HL.out]; omega, byt_app hrr.2.1 (byt_drop hb' _), ?_, ?_, only_row hon _⟩
          · rw [← HR.out, hm', List.take_left' hrr.1]
          · rw [← HR.out, hr.1]
            exact setRow_heap _ _ _ _ _ _ hst
  · have hf0 : 0 < f := by omega
    have if0 : (0 : Int) < (f : Int) := by omega
    have if64 : (f : Int) ≤ 64 := by omega
    by_cases hlt : f + m < 64
    · have HM := Lib.hid (show Nat.min m (64 - f) = m from Nat.min_eq_left (by omega))
      have ilt : (f : Int) + (m : Int) < 64 := by omega
      go_enter Tryz.func66, Tryz.ntmps66
      go_wp2_with (first
        | (go_at_call 81; (with_reducible refine hfil.mono ?_); rintro e w1 ⟨rfl, rfl⟩)
        | (with_reducible refine wpList_cp rfl _ _ rfl m b (10 + f) (64 - f) (64 - f) rfl a m cap rfl zs hr1 HM.out (smCells H (n + m) bf) 96 hs1 (by rw [sm_size, HBF.out]; omega) ?_))
      rw [List.take_of_length_le (l := zs) (by rw [hr.1]; exact Nat.le_refl _), sm_bytes H (n + m) bf zs f m hr.1 (by rw [HBF.out]; omega)]
      refine bodyPost_ret (results_none rfl _ _ _) rfl ?_
      have hsm := run_small H (bf.take (n % 64) ++ zs) (by rw [HF.out, List.length_append, List.length_take, HBF.out, hr.1]; omega)
      refine ⟨rfl, bf.take f ++ zs ++ bf.drop (f + m), ?_, byt_app (byt_app (byt_take hbb _) hr.2.1) (byt_drop hbb _), ?_, ?_, only_row hon1 _⟩
      · simp only [List.length_append, List.length_take, List.length_drop, HBF.out, hr.1]; omega
      · rw [hsm, HF.out, hr.1, List.take_left']
        rw [List.length_append, List.length_take, HBF.out, hr.1]
        have := HF.out
        omega
      · rw [hsm, hr.1]
        exact setRow_heap _ _ _ _ _ _ hs1
    · obtain ⟨rb, ro, rfl, hrw, _⟩ := row_open hr (by omega)
      obtain ⟨k, hk⟩ : ∃ k, 64 - f = k := ⟨_, rfl⟩
      have HK := Lib.hid hk
      have hfk1 : f + k ≤ 64 := by omega
      have hfk2 : 64 ≤ f + k := by omega
      have hkm : k ≤ m := by omega
      have HM := Lib.hid (show Nat.min m (64 - f) = k by rw [hk]; exact Nat.min_eq_right hkm)
      clear hk
      have ilt : (64 : Int) ≤ (f : Int) + (k : Int) := by omega
      have hdd : decide ((f : Int) + (k : Int) < 64) = false := by simp; omega
      have ikm : (k : Int) ≤ (m : Int) := by omega
      have ikc : (k : Int) ≤ (cap : Int) := by omega
      have hzl : (zs.take k).length = k := by rw [List.length_take, hr.1]; omega
      have HZ := Lib.hid hzl
      clear hzl
      obtain ⟨bf2, hbf2⟩ : ∃ bf2, bf.take f ++ zs.take k ++ bf.drop (f + k) = bf2 := ⟨_, rfl⟩
      have hl2 := Lib.hid (show bf2.length = 64 by rw [← hbf2]; simp only [List.length_append, List.length_take, List.length_drop, HBF.out, HZ.out]; omega)
      have hb2 : Byt bf2 := by rw [← hbf2]; exact byt_app (byt_app (byt_take hbb _) (byt_take hr.2.1 _)) (byt_drop hbb _)
      have hcat := Lib.hid (show bf.take (n % 64) ++ zs = bf2 ++ zs.drop k by
        rw [← hbf2, HF.out, List.drop_of_length_le (l := bf) (by rw [HBF.out]; omega), List.append_nil, List.append_assoc, List.take_append_drop])
      have hsb := Lib.hid (sm_bytes H (n + m) bf (zs.take k) f k HZ.out (by rw [HBF.out]; omega))
      rw [hbf2] at hsb
      clear hbf2
      go_enter Tryz.func66, Tryz.ntmps66
      go_wp2_with (first
        | (go_at_call 81; (with_reducible refine hfil.mono ?_); rintro e w1 ⟨rfl, rfl⟩)
        | (with_reducible refine wpList_cp rfl _ _ rfl k b (10 + f) (64 - f) (64 - f) rfl _ m cap rfl zs hr1 HM.out (smCells H (n + m) bf) 96 hs1 (by rw [sm_size, HBF.out]; omega) ?_))
      rw [hsb.out]
      have hs3 := setRow_heap _ _ _ (smCells H (n + m) bf2) _ _ hs1
      have hon3 := only_row hon1 (smCells H (n + m) bf2)
      have hr3 := row_only hr hon3 hoff
      have ht3 := ht.only hon3 hb1
      have hl3 := hs1.size
      generalize (w.setCell ⟨b, 9, none⟩ (.int .u64 ((n : Int) + (m : Int)))).setRow b (smCells H (n + m) bf2) = w3 at *
      have hbig : Has w3 b 96 (smCells H (n + m) bf2) := hs3
      have hrow : Row w3 (some ⟨b, 10, none⟩) 64 bf2 := row_mk hl2.out hb2 hbig.size (fun j hj => (hbig.at (10 + j)).trans (sm_rest H _ bf2 j (by rw [hl2.out]; exact hj)))
      obtain ⟨g1, g2, g3, g4, g5, g6, g7, g8, _, _, _, _, _, _, _, _⟩ := has_eight hbig
      have hfold := fold_lit H (foldI H bf2) bf2 rfl b 10 64 w3.drew hH (Nat.le_refl _) (row_below ((Below.refl _ w3).drew) hrow) (ht3.kept ((Below.refl _ w3).drew))
      have hXok := foldI_ok H bf2
      have hgoal := Lib.hid (show run (foldI H bf2) (zs.drop k) = run H (bf.take (n % 64) ++ zs) by
        rw [hcat.out, run_step H (bf2 ++ zs.drop k) (by rw [List.length_append, hl2.out]; omega), List.take_left' hl2.out, List.drop_left' hl2.out])
      generalize foldI H bf2 = X at *
      clear hs3 hs1 hon1 hr1 hs c0 c9 f9 hfil hsb hcat
      go_region_with ((go_at_call 82; (refine hfold.mono ?_); rintro e w1 ⟨rfl, H1⟩; have hst1 := Has.kept (w := w3.drew) hbig H1; obtain ⟨k1, k2, k3, k4, k5, k6, k7, k8, l1, l2, l3, l4, l5, l6, l7, l8⟩ := has_eight hst1))
      have hst2 := eight_has hst1 X
      have hon2 := eight_only (only_below (only_drew hon3) H1) X
      have hrr2 := row_only hr3 (eight_only (only_below (only_drew (only_refl w3 (some b))) H1) X) hoff
      change Exit.then _ _ _ _ (eightSet w1 b X)
      generalize eightSet w1 b X = w2 at *
      clear k1 k2 k3 k4 k5 k6 k7 k8 l1 l2 l3 l4 l5 l6 l7 l8 g1 g2 g3 g4 g5 g6 g7 g8 hst1 H1 hfold hrow hbig hon3 hr3
      by_cases hck : cap = k
      · have hmk : m = k := by omega
        go_wp2_with fail
        go_loopw [1] (fun v wr => Left b (n + m) (run H (bf.take (n % 64) ++ zs)) w v wr) (fun v _ => lenV v)
        case atStart => exact ⟨_, _, _, zs.drop k, X, bf2, rfl, by omega, ⟨by rw [List.length_drop, hr.1]; omega, byt_drop hr.2.1 _, .inl rfl⟩, (fun h => absurd h (by omega)), hXok, hgoal.out, hl2.out, hb2, hst2, hon2⟩
        case round =>
          clear hst2 hon2 hrr2 hck hmk
          obtain ⟨A, m', c', rem, K, bf', rfl, hmc, hrr, hoff', hK, hrun, hl', hb', hst, hon⟩ := hrel
          by_cases h64 : 64 ≤ m'
          · obtain ⟨rb, ro, rfl, hrw, _⟩ := row_open hrr (by omega)
            have hrun2 := Lib.hid (run_step K rem (by rw [hrr.1]; exact h64))
            have HR := Lib.hid hrun
            have HL := Lib.hid hl'
            clear hrun hl'
            have htr := (ht.only hon hb1)
            have hr64 := row_upto hrr 64 h64
            have g1 : wr.cell? ⟨b, 1, none⟩ = some (.int .u32 K.a) := (hst.at 1).trans (sm_word K _ bf' 0 (by omega))
            have g2 : wr.cell? ⟨b, 2, none⟩ = some (.int .u32 K.b) := (hst.at 2).trans (sm_word K _ bf' 1 (by omega))
            have g3 : wr.cell? ⟨b, 3, none⟩ = some (.int .u32 K.c) := (hst.at 3).trans (sm_word K _ bf' 2 (by omega))
            have g4 : wr.cell? ⟨b, 4, none⟩ = some (.int .u32 K.d) := (hst.at 4).trans (sm_word K _ bf' 3 (by omega))
            have g5 : wr.cell? ⟨b, 5, none⟩ = some (.int .u32 K.e) := (hst.at 5).trans (sm_word K _ bf' 4 (by omega))
            have g6 : wr.cell? ⟨b, 6, none⟩ = some (.int .u32 K.f) := (hst.at 6).trans (sm_word K _ bf' 5 (by omega))
            have g7 : wr.cell? ⟨b, 7, none⟩ = some (.int .u32 K.g) := (hst.at 7).trans (sm_word K _ bf' 6 (by omega))
            have g8 : wr.cell? ⟨b, 8, none⟩ = some (.int .u32 K.h) := (hst.at 8).trans (sm_word K _ bf' 7 (by omega))
            have i64 : (64 : Int) ≤ (m' : Int) := by omega
            have i65 : (64 : Int) ≤ (c' : Int) := by omega
            go_wp2_with fail
            have hfold := fold_lit K (foldI K (rem.take 64)) (rem.take 64) rfl rb ro c' wr.drew hK (by omega) (row_below ((Below.refl _ wr).drew) hr64) (htr.kept ((Below.refl _ wr).drew))
            have hXok := foldI_ok K (rem.take 64)
            generalize foldI K (rem.take 64) = X at *
            go_region_with ((go_at_call 82; (refine hfold.mono ?_); rintro e w1 ⟨rfl, H1⟩; have hst1 := Has.kept (w := wr.drew) hst H1; obtain ⟨k1, k2, k3, k4, k5, k6, k7, k8, l1, l2, l3, l4, l5, l6, l7, l8⟩ := has_eight hst1))
            have hst2 := eight_has hst1 X
            have hon2 := eight_only (only_below (only_drew hon) H1) X
            have hrr2 := row_only hrr (eight_only (only_below (only_drew (only_refl wr (some b))) H1) X) hoff'
            change Exit.then _ _ _ _ (eightSet w1 b X)
            generalize eightSet w1 b X = w2 at *
            clear k1 k2 k3 k4 k5 k6 k7 k8 l1 l2 l3 l4 l5 l6 l7 l8 g1 g2 g3 g4 g5 g6 g7 g8 hst1 H1 hfold
            by_cases hc64 : c' = 64
            · have hm64 : m' = 64 := by omega
              go_wp2
              go_roundw
              case rel => exact ⟨_, _, _, rem.drop 64, X, bf', rfl, by omega, ⟨by rw [List.length_drop, hrr.1]; omega, byt_drop hrr.2.1 _, .inl rfl⟩, (fun h => absurd h (by omega)), hXok, hrun2.out.symm.trans HR.out, HL.out, hb', hst2, hon2⟩
              case measure => simp [lenV]; omega
            · have hrr3 := fun h => row_from hrr2 64 h
              go_wp2
              go_roundw
              case rel =>
                by_cases hm64 : m' = 64
                · exact ⟨_, _, _, rem.drop 64, X, bf', rfl, by omega, ⟨by rw [List.length_drop, hrr.1], byt_drop hrr.2.1 _, .inl (by omega)⟩, (fun _ x hx => by cases hx; exact hoff' (by omega) ⟨rb, ro, none⟩ rfl), hXok, hrun2.out.symm.trans HR.out, HL.out, hb', hst2, hon2⟩
                · exact ⟨_, _, _, rem.drop 64, X, bf', rfl, by omega, hrr3 (by omega), (fun _ x hx => by cases hx; exact hoff' (by omega) ⟨rb, ro, none⟩ rfl), hXok, hrun2.out.symm.trans HR.out, HL.out, hb', hst2, hon2⟩
              case measure => simp [lenV]; omega
          · have hsm := run_small K rem (by rw [hrr.1]; omega)
            have HR := Lib.hid (hsm.symm.trans hrun)
            have HL := Lib.hid hl'
            have HM := Lib.hid (show Nat.min m' 64 = m' from Nat.min_eq_left (by omega))
            clear hrun hl' hsm
            go_wp2_with (with_reducible refine wpList_cp rfl _ _ rfl m' b 10 64 64 rfl A m' c' rfl rem hrr HM.out (smCells K (n + m) bf') 96 hst ?_ ?_)
            · rw [sm_size, HL.out]; omega
            · rw [sm_first K (n + m) bf' rem m' hrr.1 (by rw [HL.out]; omega)]
              go_end0
              have hrl := run_len (s := H) (xs := bf.take (n % 64) ++ zs) hH (byt_app (byt_take hbb _) hr.2.1)
              rw [← HR.out, List.length_append, List.length_take, HBF.out, hr.1] at hrl
              have hm' : (n + zs.length) % 64 = m' := by
                have e1 : rem.length = m' := hrr.1
                have e2 : rem.length = (min (n % 64) 64 + m) % 64 := hrl
                rw [hr.1]; omega
              refine ⟨rfl, rem ++ bf'.drop m', by rw [List.length_append, List.length_drop, hrr.1, HL.out]; omega, byt_app hrr.2.1 (byt_drop hb' _), ?_, ?_, only_row hon _⟩
              · rw [← HR.out, hm', List.take_left' hrr.1]
              · rw [← HR.out, hr.1]
                exact setRow_heap _ _ _ _ _ _ hst
      · go_wp2_with fail
        go_loopw [1] (fun v wr => Left b (n + m) (run H (bf.take (n % 64) ++ zs)) w v wr) (fun v _ => lenV v)
        case atStart => exact ⟨_, _, _, zs.drop k, X, bf2, rfl, by omega, (if hq : k = m then ⟨by rw [List.length_drop, hr.1], byt_drop hr.2.1 _, .inl (by omega)⟩ else row_from hrr2 k (by omega)), (fun _ x hx => by cases hx; exact hoff (by omega) ⟨rb, ro, none⟩ rfl), hXok, hgoal.out, hl2.out, hb2, hst2, hon2⟩
        case round =>
          clear hst2 hon2 hrr2
          obtain ⟨A, m', c', rem, K, bf', rfl, hmc, hrr, hoff', hK, hrun, hl', hb', hst, hon⟩ := hrel
          by_cases h64 : 64 ≤ m'
          · obtain ⟨rb, ro, rfl, hrw, _⟩ := row_open hrr (by omega)
            have hrun2 := Lib.hid (run_step K rem (by rw [hrr.1]; exact h64))
            have HR := Lib.hid hrun
            have HL := Lib.hid hl'
            clear hrun hl'
            have htr := (ht.only hon hb1)
            have hr64 := row_upto hrr 64 h64
            have g1 : wr.cell? ⟨b, 1, none⟩ = some (.int .u32 K.a) := (hst.at 1).trans (sm_word K _ bf' 0 (by omega))
            have g2 : wr.cell? ⟨b, 2, none⟩ = some (.int .u32 K.b) := (hst.at 2).trans (sm_word K _ bf' 1 (by omega))
            have g3 : wr.cell? ⟨b, 3, none⟩ = some (.int .u32 K.c) := (hst.at 3).trans (sm_word K _ bf' 2 (by omega))
            have g4 : wr.cell? ⟨b, 4, none⟩ = some (.int .u32 K.d) := (hst.at 4).trans (sm_word K _ bf' 3 (by omega))
            have g5 : wr.cell? ⟨b, 5, none⟩ = some (.int .u32 K.e) := (hst.at 5).trans (sm_word K _ bf' 4 (by omega))
            have g6 : wr.cell? ⟨b, 6, none⟩ = some (.int .u32 K.f) := (hst.at 6).trans (sm_word K _ bf' 5 (by omega))
            have g7 : wr.cell? ⟨b, 7, none⟩ = some (.int .u32 K.g) := (hst.at 7).trans (sm_word K _ bf' 6 (by omega))
            have g8 : wr.cell? ⟨b, 8, none⟩ = some (.int .u32 K.h) := (hst.at 8).trans (sm_word K _ bf' 7 (by omega))
            have i64 : (64 : Int) ≤ (m' : Int) := by omega
            have i65 : (64 : Int) ≤ (c' : Int) := by omega
            go_wp2_with fail
            have hfold := fold_lit K (foldI K (rem.take 64)) (rem.take 64) rfl rb ro c' wr.drew hK (by omega) (row_below ((Below.refl _ wr).drew) hr64) (htr.kept ((Below.refl _ wr).drew))
            have hXok := foldI_ok K (rem.take 64)
            generalize foldI K (rem.take 64) = X at *
            go_region_with ((go_at_call 82; (refine hfold.mono ?_); rintro e w1 ⟨rfl, H1⟩; have hst1 := Has.kept (w := wr.drew) hst H1; obtain ⟨k1, k2, k3, k4, k5, k6, k7, k8, l1, l2, l3, l4, l5, l6, l7, l8⟩ := has_eight hst1))
            have hst2 := eight_has hst1 X
            have hon2 := eight_only (only_below (only_drew hon) H1) X
            have hrr2 := row_only hrr (eight_only (only_below (only_drew (only_refl wr (some b))) H1) X) hoff'
            change Exit.then _ _ _ _ (eightSet w1 b X)
            generalize eightSet w1 b X = w2 at *
            clear k1 k2 k3 k4 k5 k6 k7 k8 l1 l2 l3 l4 l5 l6 l7 l8 g1 g2 g3 g4 g5 g6 g7 g8 hst1 H1 hfold
            by_cases hc64 : c' = 64
            · have hm64 : m' = 64 := by omega
              go_wp2
              go_roundw
              case rel => exact ⟨_, _, _, rem.drop 64, X, bf', rfl, by omega, ⟨by rw [List.length_drop, hrr.1]; omega, byt_drop hrr.2.1 _, .inl rfl⟩, (fun h => absurd h (by omega)), hXok, hrun2.out.symm.trans HR.out, HL.out, hb', hst2, hon2⟩
              case measure => simp [lenV]; omega
            · have hrr3 := fun h => row_from hrr2 64 h
              go_wp2
              go_roundw
              case rel =>
                by_cases hm64 : m' = 64
                · exact ⟨_, _, _, rem.drop 64, X, bf', rfl, by omega, ⟨by rw [List.length_drop, hrr.1], byt_drop hrr.2.1 _, .inl (by omega)⟩, (fun _ x hx => by cases hx; exact hoff' (by omega) ⟨rb, ro, none⟩ rfl), hXok, hrun2.out.symm.trans HR.out, HL.out, hb', hst2, hon2⟩
                · exact ⟨_, _, _, rem.drop 64, X, bf', rfl, by omega, hrr3 (by omega), (fun _ x hx => by cases hx; exact hoff' (by omega) ⟨rb, ro, none⟩ rfl), hXok, hrun2.out.symm.trans HR.out, HL.out, hb', hst2, hon2⟩
              case measure => simp [lenV]; omega
          · have hsm := run_small K rem (by rw [hrr.1]; omega)
            have HR := Lib.hid (hsm.symm.trans hrun)
            have HL := Lib.hid hl'
            have HM := Lib.hid (show Nat.min m' 64 = m' from Nat.min_eq_left (by omega))
            clear hrun hl' hsm
            go_wp2_with (with_reducible refine wpList_cp rfl _ _ rfl m' b 10 64 64 rfl A m' c' rfl rem hrr HM.out (smCells K (n + m) bf') 96 hst ?_ ?_)
            · rw [sm_size, HL.out]; omega
            · rw [sm_first K (n + m) bf' rem m' hrr.1 (by rw [HL.out]; omega)]
              go_end0
              have hrl := run_len (s := H) (xs := bf.take (n % 64) ++ zs) hH (byt_app (byt_take hbb _) hr.2.1)
              rw [← HR.out, List.length_append, List.length_take, HBF.out, hr.1] at hrl
              have hm' : (n + zs.length) % 64 = m' := by
                have e1 : rem.length = m' := hrr.1
                have e2 : rem.length = (min (n % 64) 64 + m) % 64 := hrl
                rw [hr.1]; omega
              refine ⟨rfl, rem ++ bf'.drop m', by rw [List.length_append, List.length_drop, hrr.1, HL.out]; omega, byt_app hrr.2.1 (byt_drop hb' _), ?_, ?_, only_row hon _⟩
              · rw [← HR.out, hm', List.take_left' hrr.1]
              · rw [← HR.out, hr.1]
                exact setRow_heap _ _ _ _ _ _ hst
end Go.Proofs.YtklhmneapegfpaaGreatDoor.Sha
