/-
  The program's operations: work, Program, Erase, Cut; conditions: the flash is there, fewer than a million operations were done, the row does not lie in the flash.
-/
import Derived.Test.YtklhmneapegfpaaGreatDoorWork
namespace Go.Proofs.YtklhmneapegfpaaGreatDoor
open Go.RowKit
set_option linter.unusedVariables false
set_option linter.unusedSimpArgs false

/-- A slice that does not lie in a flash. -/
def Away (g m k : Nat) (A : Option Addr) : Prop := ∀ x, A = some x → ¬ In3 g m k x.block
/-- A slice that is empty, or does not lie in a flash. -/
def Clear (g m k : Nat) (A : Option Addr) (n : Nat) : Prop := n = 0 ∨ Away g m k A
theorem row_clear {w w' : World} {g m k : Nat} {A : Option Addr} {n : Nat} {zs : List Int} (h : Row w A n zs) (o : Only (In3 g m k) w w') (hA : Clear g m k A n) : Row w' A n zs := by
  rcases hA with h0 | hA
  · exact ⟨h.1, h.2.1, .inl h0⟩
  · exact row_keep h o hA
/-- The bytes zs are copied over those from a on. -/
theorem fl_copy {w : World} {T g m k : Nat} {S : Fs} (hf : Fl w T g m k S) {a n : Nat} {zs : List Int} (hl : zs.length = n) (hb : Byt zs) (ha : a + n ≤ S.mem.length) {cur : Array Value} (hc : Has w m 5 cur) (hct : cur.toList.take S.mem.length = nums S.mem) :
    a + n ≤ cur.size ∧ FlTo T g m k { S with mem := put S.mem a zs [] } w (w.setRow m (cur.toList.take a ++ (nums (zs.take n) ++ cur.toList.drop (a + n))).toArray) := by
  have hN : S.mem.length ≤ cur.size := by
    have := congrArg List.length hct
    rw [List.length_take, nums_len, Array.length_toList] at this
    omega
  refine ⟨by omega, fl_mem hf ((Only.refl (fun b => b = m) w).setRow rfl _) (put_byt hf.ok.byt hb byt_nil a) (put_len ..) ⟨_, setRow_heap _ _ _ _ _ _ hc, ?_⟩⟩
  rw [put_plain hf.ok.byt hb a (by omega), hl]
  have e1 : (nums (S.mem.take a ++ (zs ++ S.mem.drop (a + n)))).length = S.mem.length := by
    rw [nums_len, List.length_append, List.length_append, List.length_take, List.length_drop, hl]; omega
  rw [e1]
  have e2 : cur.toList.take a = nums (S.mem.take a) := by
    have : cur.toList.take a = (cur.toList.take S.mem.length).take a := by rw [List.take_take, Nat.min_eq_left (by omega)]
    rw [this, hct]; simp [nums, List.map_take]
  have e3 : cur.toList.drop (a + n) = nums (S.mem.drop (a + n)) ++ cur.toList.drop S.mem.length := by
    have : cur.toList = nums S.mem ++ cur.toList.drop S.mem.length := by rw [← hct, List.take_append_drop]
    conv => lhs; rw [this]
    rw [List.drop_append_of_le_length (by rw [nums_len]; omega)]
    simp [nums, List.map_drop]
  rw [e2, e3, List.take_of_length_le (show zs.length ≤ n by omega)]
  show List.take _ (nums (S.mem.take a) ++ (nums zs ++ (nums (S.mem.drop (a + n)) ++ cur.toList.drop S.mem.length))) = _
  rw [← List.append_assoc, ← List.append_assoc, nums_app, nums_app, List.append_assoc, List.take_left' e1]
theorem work_none {S : Fs} (h : S.cut = none) (a : Nat) (b : List Int) : work S a b = (0, { S with mem := put S.mem a b [], ops := S.ops + 1 }) := by unfold work; rw [h]
theorem work_now {S : Fs} {ms : List Int} (h : S.cut = some (0, ms)) (a : Nat) (b : List Int) : work S a b = (4, { S with mem := put S.mem a b ms, ops := S.ops + 1, off := true, cut := none }) := by unfold work; rw [h]
theorem work_later {S : Fs} {q : Nat} {ms : List Int} (h : S.cut = some (q + 1, ms)) (a : Nat) (b : List Int) : work S a b = (0, { S with mem := put S.mem a b [], ops := S.ops + 1, cut := some (q, ms) }) := by unfold work; rw [h]
theorem Fl.cells {w : World} {T g m k : Nat} {S : Fs} (hf : Fl w T g m k S) : w.cell? ⟨g, 0, none⟩ = some (.slice (some ⟨m, 0, none⟩) S.mem.length S.mem.length) ∧ w.cell? ⟨g, 1, none⟩ = some (.slice (some ⟨k, 0, none⟩) S.wear.length S.wear.length) ∧ w.cell? ⟨g, 2, none⟩ = some (.int .i64 (S.ops : Int)) ∧ w.cell? ⟨g, 3, none⟩ = some (.bool S.off) ∧ ∀ i, w.frozen? ⟨g, i, none⟩ = false := by
  obtain ⟨_, _, _, _, _, h, _⟩ := hf
  obtain ⟨c0, c1, c2, c3, _⟩ := fl_cells h.str
  exact ⟨c0, c1, c2, c3, fun i => h.str.soft i⟩
theorem Fl.curs {w : World} {T g m k : Nat} {S : Fs} (hf : Fl w T g m k S) : ∃ cur, Has w m 5 cur ∧ cur.toList.take S.mem.length = nums S.mem := by
  obtain ⟨_, _, _, _, _, h, _⟩ := hf
  obtain ⟨cur, h1, h2⟩ := h.mem
  exact ⟨cur, h1, by rw [nums_len] at h2; exact h2⟩
theorem Fl.quiet {w : World} {T g m k : Nat} {S : Fs} (hf : Fl w T g m k S) (h : S.cut = none) : w.cell? ⟨g, 4, none⟩ = some (.bool false) := by
  obtain ⟨_, _, _, _, _, h1, h2⟩ := hf
  rw [h] at h2
  obtain rfl := h2
  exact (fl_cells h1.str).2.2.2.2.1
theorem Fl.due {w : World} {T g m k : Nat} {S : Fs} (hf : Fl w T g m k S) {q : Nat} {ms : List Int} (h : S.cut = some (q, ms)) : w.cell? ⟨g, 4, none⟩ = some (.bool true) ∧ w.cell? ⟨g, 5, none⟩ = some (.int .i64 (q : Int)) ∧ Fits63 q := by
  obtain ⟨_, _, _, _, _, h1, h2⟩ := hf
  rw [h] at h2
  obtain ⟨rfl, rfl, h3, _⟩ := h2
  exact ⟨(fl_cells h1.str).2.2.2.2.1, (fl_cells h1.str).2.2.2.2.2.1, h3⟩
theorem Fl.small {w : World} {T g m k : Nat} {S : Fs} (hf : Fl w T g m k S) : S.mem.length ≤ 128000 := by have := hf.ok.len; have := hf.ok.few; omega
theorem away_m {g m k : Nat} {A : Option Addr} {n : Nat} (h : Clear g m k A n) : n = 0 ∨ ∀ x, A = some x → x.block ≠ m := h.imp id fun h x hx e => h x hx (.inr (.inl e))
set_option maxRecDepth 100000 in
set_option maxHeartbeats 2000000 in
theorem work_any {T g m k : Nat} {S : Fs} (a : Nat) (A : Option Addr) (n z : Nat) (zs : List Int) (w : World) (hf : Fl w T g m k S) (hr : Row w A n zs) (ha : a + n ≤ S.mem.length) (hA : Clear g m k A n) (hops : S.ops ≤ 1000000) :
    Calls Tryz.prog 92 #[.pointer (some ⟨g, 0, none⟩), .int .i64 (a : Int), .slice A n z] w fun e w' => e = .returned (.int .i64 (work S a zs).1) ∧ FlTo T g m k (work S a zs).2 w w' := by
  have F1 := fl_ops hf
  obtain ⟨_, _, c2, _, fz⟩ := hf.cells
  have s2 := fz 2
  have hN := hf.small
  generalize hw1 : w.setCell ⟨g, 2, none⟩ (.int .i64 ((S.ops : Int) + 1)) = w1 at *
  obtain ⟨f1, o1⟩ := F1
  have hr1 := row_clear hr o1 hA
  have hl := hr.1
  have i0 : (S.ops : Int) ≤ 1000000 := by omega
  have hw : IntKind.i64.wrap ((S.ops : Int) + 1) = (S.ops : Int) + 1 := by rw [IntKind.wrap_i64]; omega
  have a0 : (0 : Int) ≤ (a : Int) := by omega
  have a1 : (a : Int) ≤ (S.mem.length : Int) := by omega
  clear fz
  match hc : S.cut with
  | none =>
    rw [work_none hc]
    have c4 := f1.quiet (show _ = none from hc)
    obtain ⟨c0, _⟩ := f1.cells
    obtain ⟨cur, hcur, hct⟩ := f1.curs
    obtain ⟨hfit, F2⟩ := fl_copy f1 hl hr.2.1 ha hcur hct
    have FIN := Lib.hid (show FlTo T g m k { S with mem := put S.mem a zs [], ops := S.ops + 1 } w _ from ⟨F2.1, o1.trans F2.2⟩)
    clear hct F2 f1 o1 hf hr hc
    have c0' : w1.cell? ⟨g, 0, none⟩ = some (.slice (some ⟨m, 0, none⟩) S.mem.length S.mem.length) := c0
    clear c0
    generalize hNe : S.mem.length = N at c0' ha hN a1
    clear hNe
    by_cases hNa : N = a
    · obtain rfl : n = 0 := by omega
      subst hNa
      have HE := Lib.hid (show ∀ j : Nat, (cur.toList.take j ++ (nums (zs.take 0) ++ cur.toList.drop (j + 0))).toArray = cur from fun j => by simp [nums])
      go_enter Tryz.func92, Tryz.ntmps92
      go_wp2_with (first
        | (go_at_call 99; refine (due_none g _ c4).mono ?_; rintro e w1 ⟨rfl, rfl⟩)
        | ((with_reducible refine wpList_cp rfl _ _ rfl 0 m 0 0 0 rfl A 0 z rfl zs hr1 rfl cur 5 hcur (Nat.zero_le _) ?_); rw [HE.out 0]))
      go_ret
      have F := FIN.out
      rw [HE.out N] at F
      exact ⟨rfl, F⟩
    · have HM := Lib.hid (show Nat.min n (N - a) = n from Nat.min_eq_left (by omega))
      go_enter Tryz.func92, Tryz.ntmps92
      go_wp2_with (first
        | (go_at_call 99; refine (due_none g _ c4).mono ?_; rintro e w1 ⟨rfl, rfl⟩)
        | (with_reducible refine wpList_cp rfl _ _ rfl n m a (N - a) (N - a) rfl A n z rfl zs hr1 HM.out cur 5 hcur hfit ?_))
      go_ret
      exact ⟨rfl, FIN.out⟩
  | some (0, ms) =>
    rw [work_now hc]
    obtain ⟨c4, c5, _⟩ := f1.due (show _ = some (0, ms) from hc)
    have WC := Lib.hid (workCut_any (S := { S with ops := S.ops + 1 }) 0 ms (show _ = some (0, ms) from hc) a A n z zs w1 f1 hr1 ha (away_m hA))
    clear f1 hf hr hr1 hc
    go_enter Tryz.func92, Tryz.ntmps92
    go_wp2_with (first
      | (go_at_call 99; refine (due_now g _ c4 c5).mono ?_; rintro e w2 ⟨rfl, rfl⟩)
      | (go_at_call 100; refine WC.out.mono ?_; rintro e w2 ⟨rfl, F2⟩))
    go_ret
    exact ⟨rfl, F2.1, o1.trans F2.2⟩
  | some (q + 1, ms) =>
    rw [work_later hc]
    obtain ⟨c4, c5, h63⟩ := f1.due (show _ = some (q + 1, ms) from hc)
    have F2 := fl_ahead f1 (show _ = some (q + 1, ms) from hc)
    have s5 : w1.frozen? ⟨g, 5, none⟩ = false := f1.cells.2.2.2.2 5
    have DL := Lib.hid (due_later g q w1 c4 c5 h63 s5)
    generalize hw2 : w1.setCell ⟨g, 5, none⟩ (.int .i64 (q : Int)) = w2 at *
    obtain ⟨f2, o2⟩ := F2
    have hr2 := row_clear hr1 o2 hA
    obtain ⟨c0, _⟩ := f2.cells
    obtain ⟨cur, hcur, hct⟩ := f2.curs
    obtain ⟨hfit, F3⟩ := fl_copy f2 hl hr.2.1 ha hcur hct
    have FIN := Lib.hid (show FlTo T g m k { S with mem := put S.mem a zs [], ops := S.ops + 1, cut := some (q, ms) } w _ from ⟨F3.1, (o1.trans o2).trans F3.2⟩)
    have c0' : w2.cell? ⟨g, 0, none⟩ = some (.slice (some ⟨m, 0, none⟩) S.mem.length S.mem.length) := c0
    clear hct F3 f1 o1 hf hr hc c0 c4 c5 s5 f2 o2 hr1
    generalize hNe : S.mem.length = N at c0' ha hN a1
    clear hNe
    by_cases hNa : N = a
    · obtain rfl : n = 0 := by omega
      subst hNa
      have HE := Lib.hid (show ∀ j : Nat, (cur.toList.take j ++ (nums (zs.take 0) ++ cur.toList.drop (j + 0))).toArray = cur from fun j => by simp [nums])
      go_enter Tryz.func92, Tryz.ntmps92
      go_wp2_with (first
        | (go_at_call 99; refine DL.out.mono ?_; rintro e w1 ⟨rfl, rfl⟩)
        | ((with_reducible refine wpList_cp rfl _ _ rfl 0 m 0 0 0 rfl A 0 z rfl zs hr2 rfl cur 5 hcur (Nat.zero_le _) ?_); rw [HE.out 0]))
      go_ret
      have F := FIN.out
      rw [HE.out N] at F
      exact ⟨rfl, F⟩
    · have HM := Lib.hid (show Nat.min n (N - a) = n from Nat.min_eq_left (by omega))
      go_enter Tryz.func92, Tryz.ntmps92
      go_wp2_with (first
        | (go_at_call 99; refine DL.out.mono ?_; rintro e w1 ⟨rfl, rfl⟩)
        | (with_reducible refine wpList_cp rfl _ _ rfl n m a (N - a) (N - a) rfl A n z rfl zs hr2 HM.out cur 5 hcur hfit ?_))
      go_ret
      exact ⟨rfl, FIN.out⟩
end Go.Proofs.YtklhmneapegfpaaGreatDoor
