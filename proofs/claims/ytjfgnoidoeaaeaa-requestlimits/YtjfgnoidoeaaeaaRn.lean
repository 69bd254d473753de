/-
  What a reader tells: numbers, how much is left, whether bytes were missing; the program's and the document's own; conditions: the reader is there.
-/
import Derived.Test.YtjfgnoidoeaaeaaRd
namespace Go.Proofs.Ytjfgnoidoeaaeaa
open Go.RowKit
set_option linter.unusedVariables false
set_option linter.unusedSimpArgs false

theorem w64_is (n : Int) : wrap64 n = IntKind.i64.wrap n := by rw [IntKind.wrap_i64]; unfold wrap64; rfl
/-- What Num answers. -/
def GivesN (x : Int) (X : World → Prop) (e : Ending) (w' : World) : Prop := e = .returned (.int .i64 x) ∧ X w'
def Numming (xs : List Int) (w1 : World) (v i : Value) (wr : World) : Prop := ∃ k : Nat, k ≤ xs.length ∧ v = .int .i64 (w64 (val (xs.take k))) ∧ i = .int .i64 (k : Int) ∧ wr = w1
set_option maxRecDepth 100000 in
theorem num_any {p T : Nat} {S : Rs} (s : Int) (w : World) (hS : Rd w p T S) : Calls Try.prog 36 #[.pointer (some ⟨p, 0, none⟩), .int .i64 s] w (GivesN (w64 (val (got S (cutN s 8)))) (RdTo p T (aft S (cutN s 8)) w)) := by
  have HC := Lib.hid (cut8 s w)
  have hcl := cut_le s 8
  have HT := Lib.hid (take_any (cutN s 8) w hS (by omega))
  have hgl := got_len S (cutN s 8)
  clear hS
  generalize cutN s 8 = k at *
  generalize hxs : got S k = xs at *
  have HX := Lib.hid (show Took S p T k w = fun e w' => ∃ A c, e = .returned (.slice A xs.length c) ∧ Row w' A xs.length xs ∧ RdTo p T (aft S k) w w' by unfold Took; rw [hxs])
  rw [HX.out] at HT
  clear hxs HX
  go_enter Try.func36, Try.ntmps36
  go_wp2_with (first
    | (go_at_call 31; (with_reducible refine HC.out.mono ?_); rintro e w1 ⟨rfl, rfl⟩)
    | (go_at_call 40; (with_reducible refine HT.out.mono ?_); rintro e w1 ⟨A1, c1, rfl, hr1, hrd⟩))
  have HD := Lib.hid hrd
  clear HC HT hrd
  go_loopw [5, 13] (fun v i wr => Numming xs w1 v i wr) (fun _ i _ => xs.length - (intOf i).toNat)
  case atStart => exact ⟨0, by omega, rfl, rfl, rfl⟩
  case round =>
    obtain ⟨j, hj, rfl, rfl, rfl⟩ := hrel
    by_cases hlt : j < xs.length
    · obtain ⟨b, off, rfl, hbw, hcell⟩ := row_open hr1 (by omega)
      have hck := hcell j hlt
      have hz := byt_at hr1.2.1 j
      have HV := Lib.hid (show w64 (w64 (val (xs.take j)) * 256 + xs.getD j 0) = w64 (val (xs.take (j + 1))) by rw [w64_step, ← val_more, take_more xs j hlt])
      clear hcell
      generalize xs.getD j 0 = z at *
      generalize w64 (val (xs.take j)) = y at *
      have hor := or_i64 y z hz
      have i0 : (0 : Int) ≤ (j : Int) := by omega
      have i1 : (j : Int) < (xs.length : Int) := by omega
      go_wp2
      go_roundw
      case rel => exact ⟨j + 1, by omega, by rw [← HV.out, ← hor]; exact congrArg _ (congrArg (fun q => bits .or .i64 q z) (w64_is (y * 256))), by go_num, rfl⟩
      case measure => simp [intOf]; omega
    · rw [List.take_of_length_le (by omega)]
      go_wp2
      go_ret
      exact ⟨rfl, HD.out⟩
theorem left_any {p T : Nat} {S : Rs} (w : World) (hS : Rd w p T S) : Calls Try.prog 35 #[.pointer (some ⟨p, 0, none⟩)] w fun e w' => e = .returned (.int .i64 (S.rest.length : Int)) ∧ w = w' := by
  obtain ⟨hok, hT, hle, A, c, hh, hr, hc, hA⟩ := hS
  have q0 : w.cell? ⟨p, 0, none⟩ = some (.slice A S.rest.length c) := hh.at 0
  go_enter Try.func35, Try.ntmps35
  go_wp2
  go_ret
  exact ⟨rfl, rfl⟩
theorem bad_any {p T : Nat} {S : Rs} (w : World) (hS : Rd w p T S) : Calls Try.prog 34 #[.pointer (some ⟨p, 0, none⟩)] w fun e w' => e = .returned (.bool S.bad) ∧ w = w' := by
  obtain ⟨hok, hT, hle, A, c, hh, hr, hc, hA⟩ := hS
  have q1 : w.cell? ⟨p, 1, none⟩ = some (.bool S.bad) := hh.at 1
  go_enter Try.func34, Try.ntmps34
  go_wp2
  go_ret
  exact ⟨rfl, rfl⟩
theorem rnewReader_any (A : Option Addr) (n c : Nat) (zs : List Int) (w : World) (hr : Row w A n zs) (hn : n ≤ 1000000) (hc : n ≤ c) (T : Nat) (hT : T ≤ w.heap.size) (hA : Lies A n T) :
    Calls Try.prog 23 #[.slice A n c] w fun e w' => e = .returned (.pointer (some ⟨w.heap.size, 0, none⟩)) ∧ Rr w' w.heap.size T ⟨zs, false⟩ ∧ Below w.heap.size w w' := by
  have HE := Lib.hid (show Rr (w.alloc (.cells #[.slice A n c, .bool false] 78)) w.heap.size T ⟨zs, false⟩ from
    ⟨⟨hr.2.1, fun h => by cases h⟩, hT, by simp only []; have := hr.1; omega, A, n, c, zs, has_new _ _ _, row_below ((Below.refl _ _).alloc (Nat.le_refl _) _) hr, hc, hA, fun _ => rfl⟩)
  go_enter Try.func23, Try.ntmps23
  go_wp2
  go_ret
  exact ⟨rfl, HE.out, (Below.refl _ w).alloc (Nat.le_refl _) _⟩
theorem rbad_any {p T : Nat} {S : Rs} (w : World) (hS : Rr w p T S) : Calls Try.prog 26 #[.pointer (some ⟨p, 0, none⟩)] w fun e w' => e = .returned (.bool S.bad) ∧ w = w' := by
  obtain ⟨hok, hT, hle, A, n, c, zs, hh, hr, hc, hA, hz⟩ := hS
  have q1 : w.cell? ⟨p, 1, none⟩ = some (.bool S.bad) := hh.at 1
  go_enter Try.func26, Try.ntmps26
  go_wp2
  go_ret
  exact ⟨rfl, rfl⟩
set_option maxRecDepth 100000 in
theorem rraw_any {p T : Nat} {S : Rs} (s : Int) (w : World) (hS : Rr w p T S) : Calls Try.prog 25 #[.pointer (some ⟨p, 0, none⟩), .int .i64 s] w (GivesR (got S (cutN s 1000)) w (RrTo p T (aft S (cutN s 1000)) w)) := by
  have HC := Lib.hid (rcut1000 s w)
  have hcl := cut_le s 1000
  generalize cutN s 1000 = k at *
  obtain ⟨hok, hT, hle, A, n, c, zs, hh, hr, hc, hA, hz⟩ := hS
  have q0 : w.cell? ⟨p, 0, none⟩ = some (.slice A n c) := hh.at 0
  have q1 : w.cell? ⟨p, 1, none⟩ = some (.bool S.bad) := hh.at 1
  have f0 := hh.soft 0
  have f1 := hh.soft 1
  have o1 : Only (fun b => b = p) w (w.setCell ⟨p, 1, none⟩ (.bool true)) := (Only.refl (fun b => b = p) w).setCell rfl _
  have hr1 : Row (w.setCell ⟨p, 1, none⟩ (.bool true)) A n zs := row_under hr hA o1 (fun b e => by omega)
  have hput := hh.put 1 (.bool true)
  have HF := Lib.hid (show Rr (w.setCell ⟨p, 1, none⟩ (.bool true)) p T ⟨[], true⟩ ∧ Only (fun b => b = p) w (w.setCell ⟨p, 1, none⟩ (.bool true)) from
    ⟨⟨⟨byt_nil, fun _ => rfl⟩, hT, by simp, A, n, c, zs, hput, hr1, hc, hA, fun h => by cases h⟩, o1⟩)
  clear o1 hr1 hput
  cases hb : S.bad with
  | true =>
    rw [got_bad hb, aft_bad hb]
    rw [hb] at q1
    go_enter Try.func25, Try.ntmps25
    go_wp2_with (go_at_call 38; (with_reducible refine HC.out.mono ?_); rintro e w1 ⟨rfl, rfl⟩)
    go_ret
    exact ⟨_, rfl, own_nil _ _, HF.out⟩
  | false =>
    rw [hb] at q1
    obtain rfl := hz hb
    have hl := hr.1
    by_cases hlt : n < k
    · rw [got_short (by omega), aft_short (by omega)]
      go_enter Try.func25, Try.ntmps25
      go_wp2_with (go_at_call 38; (with_reducible refine HC.out.mono ?_); rintro e w1 ⟨rfl, rfl⟩)
      go_ret
      exact ⟨_, rfl, own_nil _ _, HF.out⟩
    · have hkn : k ≤ n := by omega
      rw [got_yes hb (by omega), aft_yes hb (by omega)]
      obtain ⟨A1, e1, r1, l1⟩ := row_head hr hA k hkn hc
      obtain ⟨A2, e2, r2, l2⟩ := row_cut hr hA k hkn hc
      have R1 := run_upto w A n c .i64 k (by omega)
      have R2 := fun W => run_from W A n c .i64 k hkn hc
      rw [e1] at R1
      simp only [e2] at R2
      have ho0 := own_nil w w.heap.size
      have HK := Lib.hid (fun (w1 : World) (v : Value) (h3 : Own w1 w.heap.size v k (S.rest.take k)) (h4 : Below w.heap.size w w1) => show GivesR (S.rest.take k) w (RrTo p T ⟨S.rest.drop k, false⟩ w) (.returned v) (w1.setCell ⟨p, 0, none⟩ (.slice A2 (n - k) (c - k))) by
        have hl1 : (S.rest.take k).length = k := by rw [List.length_take]; omega
        have oo : Only (fun b => b = p) w1 (w1.setCell ⟨p, 0, none⟩ (.slice A2 (n - k) (c - k))) := (Only.refl (fun b => b = p) w1).setCell rfl _
        have hput := (hh.kept h4).put 0 (.slice A2 (n - k) (c - k))
        rw [hb] at hput
        have hps := hh.size
        have g4 : Own (w1.setCell ⟨p, 0, none⟩ (.slice A2 (n - k) (c - k))) w.heap.size v k (S.rest.take k) := by
          obtain ⟨⟨u1, u2⟩, u3⟩ := h3
          refine ⟨⟨u1, ?_⟩, u3⟩
          rcases u2 with u2 | ⟨g, cap, cur, y1, y2, y3, y4⟩
          · exact .inl u2
          · exact .inr ⟨g, cap, cur, y1, y2, (heap_setCell_other w1 _ g _ (by simp only []; omega)).trans y3, y4⟩
        refine ⟨v, rfl, by rw [hl1]; exact g4, ⟨⟨byt_drop hok.1 _, fun h => by cases h⟩, hT, by simp only [List.length_drop]; omega, A2, n - k, c - k, _, hput, row_under (row_below h4 r2) l2 oo (fun b e => by omega), by omega, l2, fun _ => rfl⟩, ((Only.refl _ w).below h4).trans oo⟩)
      have hq0 : ∀ w1, Below w.heap.size w w1 → w1.cell? ⟨p, 0, none⟩ = some (.slice A n c) := fun w1 hb1 => (hh.kept hb1).at 0
      have hf0 : ∀ w1, Below w.heap.size w w1 → w1.frozen? ⟨p, 0, none⟩ = false := fun w1 hb1 => (hh.kept hb1).soft 0
      have hbel : ∀ w1, w.grownBy w1 (Value.slice none 0 0).ownBlock → Below w.heap.size w w1 := fun w1 h4 => below_own (Below.refl _ w) ho0 h4 (Nat.le_refl _) (Nat.le_refl _)
      clear hr hA hc hT l1 r2 l2 e1 e2 hh
      go_enter Try.func25, Try.ntmps25
      go_wp2_with (first
        | (go_at_call 38; (with_reducible refine HC.out.mono ?_); rintro e w1 ⟨rfl, rfl⟩)
        | (at_builtin; (with_reducible refine wpList_app rfl _ _ rfl w.heap.size (.slice none 0 0) 0 [] rfl ho0 _ _ _ (S.rest.take k) rfl r1 (row_none r1) (by omega) (Nat.le_refl _) ?_); intro v' w' h3 h4; rw [Nat.zero_add] at h3; have hb4 := hbel w' h4; have q0' := hq0 w' hb4; have f0' := hf0 w' hb4))
      go_ret
      exact HK.out w' v' h3 hb4
def Rumming (xs : List Int) (w1 : World) (v i : Value) (wr : World) : Prop := ∃ k : Nat, k ≤ xs.length ∧ v = .int .u64 (IntKind.u64.wrap (val (xs.take k))) ∧ i = .int .i64 (k : Int) ∧ wr = w1
set_option maxRecDepth 100000 in
theorem rnum_any {p T : Nat} {S : Rs} (s : Int) (w : World) (hS : Rr w p T S) : Calls Try.prog 24 #[.pointer (some ⟨p, 0, none⟩), .int .i64 s] w (GivesN (w64 (val (got S (cutN s 8)))) (RrTo p T (aft S (cutN s 8)) w)) := by
  have HC := Lib.hid (rcut8 s w)
  have hcl := cut_le s 8
  have HT0 := rraw_any (cutN s 8 : Int) w hS
  rw [cut_cut _ _ _ (by omega)] at HT0
  have HT := Lib.hid HT0
  have hgl := got_len S (cutN s 8)
  clear hS HT0
  generalize cutN s 8 = k at *
  generalize got S k = xs at *
  go_enter Try.func24, Try.ntmps24
  go_wp2_with (first
    | (go_at_call 38; (with_reducible refine HC.out.mono ?_); rintro e w1 ⟨rfl, rfl⟩)
    | (go_at_call 25; (with_reducible refine HT.out.mono ?_); rintro e w1 ⟨v, rfl, ho, hrd⟩; obtain ⟨A1, c1, rfl, hc1, hr1, _⟩ := ho.form))
  have HD := Lib.hid hrd
  clear HC HT hrd ho
  go_loopw [6, 7] (fun v i wr => Rumming xs w1 v i wr) (fun _ i _ => xs.length - (intOf i).toNat)
  case atStart => exact ⟨0, by omega, rfl, rfl, rfl⟩
  case round =>
    obtain ⟨j, hj, rfl, rfl, rfl⟩ := hrel
    by_cases hlt : j < xs.length
    · obtain ⟨b, off, rfl, hbw, hcell⟩ := row_open hr1 (by omega)
      have hck := hcell j hlt
      have hz := byt_at hr1.2.1 j
      have HV := Lib.hid (show IntKind.u64.wrap (IntKind.u64.wrap (val (xs.take j)) * 256 + xs.getD j 0) = IntKind.u64.wrap (val (xs.take (j + 1))) by rw [u64_step, ← val_more, take_more xs j hlt])
      clear hcell
      generalize xs.getD j 0 = z at *
      generalize IntKind.u64.wrap (val (xs.take j)) = y at *
      have hor := or_u64 y z hz
      have i0 : (0 : Int) ≤ (j : Int) := by omega
      have i1 : (j : Int) < (xs.length : Int) := by omega
      go_wp2
      go_roundw
      case rel => exact ⟨j + 1, by omega, by rw [← HV.out, ← hor, IntKind.wrap_u64], by go_num, rfl⟩
      case measure => simp [intOf]; omega
    · rw [List.take_of_length_le (by omega)]
      have HV := Lib.hid (w64_u64 (val xs))
      generalize IntKind.u64.wrap (val xs) = y at *
      go_wp2
      go_ret
      exact ⟨by rw [← HV.out]; exact congrArg (fun q => Ending.returned (.int .i64 q)) (w64_is y), HD.out⟩
end Go.Proofs.Ytjfgnoidoeaaeaa
