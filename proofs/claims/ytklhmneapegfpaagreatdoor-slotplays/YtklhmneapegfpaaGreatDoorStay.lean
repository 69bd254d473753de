/-
  The inner calls of the program's flash: stay, due, sets; conditions: the flash is there, the row does not lie in it.
-/
import Derived.Test.YtklhmneapegfpaaGreatDoorBlank
namespace Go.Proofs.YtklhmneapegfpaaGreatDoor
open Go.RowKit
set_option linter.unusedVariables false
set_option linter.unusedSimpArgs false

theorem tmod_nat (i n : Nat) : (i : Int).tmod (n : Int) = ((i % n : Nat) : Int) := by
  rw [Int.tmod_eq_emod_of_nonneg (by omega)]; omega
set_option maxRecDepth 100000 in
set_option maxHeartbeats 1000000 in
theorem stay_any (g : Nat) (A : Option Addr) (n z : Nat) (ms : List Int) (i : Nat) (w : World) (hc : w.cell? ⟨g, 6, none⟩ = some (.slice A n z)) (hr : Row w A n ms) (hn : n ≤ 1000000) (hi : i ≤ 1000000) :
    Calls Tryz.prog 105 #[.pointer (some ⟨g, 4, none⟩), .int .i64 (i : Int)] w fun e w' => e = .returned (.int .u8 (mAt ms i)) ∧ Below w.heap.size w w' := by
  by_cases h0 : n = 0
  · subst h0
    have e : mAt ms i = 0 := by unfold mAt; rw [if_pos hr.1]
    rw [e]
    go_enter Tryz.func105, Tryz.ntmps105
    go_wp2
    go_ret
    exact ⟨rfl, Below.refl _ _⟩
  · have hl := hr.1
    have e : mAt ms i = ms.getD (i % n) 0 := by unfold mAt; rw [if_neg (by omega), hl]
    rw [e]
    have hlt : i % n < n := Nat.mod_lt _ (by omega)
    obtain ⟨b, off, rfl, hw, hcell⟩ := row_open hr (by omega)
    have q := hcell (i % n) hlt
    have ht := tmod_nat i n
    have h1 : ¬ (n : Int) = 0 := by omega
    have h2 : ((n : Int) == 0) = false := by simpa using h1
    clear e hl hr hcell
    generalize ms.getD (i % n) 0 = x at *
    generalize i % n = r at *
    have h3 : (0 : Int) ≤ (r : Int) := by omega
    have h4 : (r : Int) < (n : Int) := by omega
    go_enter Tryz.func105, Tryz.ntmps105
    go_wp2_with fail
    go_region
    go_wp2
    go_ret
    exact ⟨rfl, (Below.refl _ _).drew⟩
theorem due_none (g : Nat) (w : World) (hc : w.cell? ⟨g, 4, none⟩ = some (.bool false)) : Calls Tryz.prog 99 #[.pointer (some ⟨g, 4, none⟩)] w fun e w' => e = .returned (.bool false) ∧ w = w' := by
  go_enter Tryz.func99, Tryz.ntmps99
  go_wp2
  go_ret
  exact ⟨rfl, rfl⟩
theorem due_now (g : Nat) (w : World) (hc : w.cell? ⟨g, 4, none⟩ = some (.bool true)) (hq : w.cell? ⟨g, 5, none⟩ = some (.int .i64 0)) : Calls Tryz.prog 99 #[.pointer (some ⟨g, 4, none⟩)] w fun e w' => e = .returned (.bool true) ∧ w = w' := by
  go_enter Tryz.func99, Tryz.ntmps99
  go_wp2
  go_ret
  exact ⟨rfl, rfl⟩
theorem due_later (g q : Nat) (w : World) (hc : w.cell? ⟨g, 4, none⟩ = some (.bool true)) (hq : w.cell? ⟨g, 5, none⟩ = some (.int .i64 ((q : Int) + 1))) (hl : Fits63 (q + 1)) (hs : w.frozen? ⟨g, 5, none⟩ = false) : Calls Tryz.prog 99 #[.pointer (some ⟨g, 4, none⟩)] w fun e w' => e = .returned (.bool false) ∧ w' = w.setCell ⟨g, 5, none⟩ (.int .i64 (q : Int)) := by
  have h1 : ¬ (q : Int) + 1 = 0 := by omega
  have h2 : (((q : Int) + 1) == 0) = false := by simpa using h1
  unfold Fits63 at hl
  have h3 : IntKind.i64.wrap ((q : Int) + 1 - 1) = (q : Int) := by rw [IntKind.wrap_i64]; omega
  go_enter Tryz.func99, Tryz.ntmps99
  go_wp2
  go_ret
  exact ⟨rfl, rfl⟩
set_option maxRecDepth 100000 in
set_option maxHeartbeats 1000000 in
theorem sets_any {T g m k : Nat} {S : Fs} (a : Nat) (A : Option Addr) (n z : Nat) (zs : List Int) (w : World) (hf : Fl w T g m k S) (hr : Row w A n zs) (ha : a + n ≤ S.mem.length) :
    Calls Tryz.prog 93 #[.pointer (some ⟨g, 0, none⟩), .int .i64 (a : Int), .slice A n z] w fun e w' => e = .returned (.bool (sets S.mem a zs)) ∧ w = w' := by
  obtain ⟨c, h, B, n', z', hat, hcut⟩ := hf
  obtain ⟨c0, c1, c2, c3, c4, c5, c6⟩ := fl_cells hat.str
  have hmem := hat.mem
  have hok := hat.ok
  have hN : S.mem.length ≤ 128000 := by have := hok.len; have := hok.few; omega
  clear hat hcut c3 c2 c4 c5 c6 c1
  have hl := hr.1
  have q : ∀ j, j < n → w.cell? ⟨m, a + j, none⟩ = some (.int .u8 (S.mem.getD (a + j) 0)) := fun j hj => bk_byte hmem _ (by omega)
  have Q := Lib.hid q
  have HR := Lib.hid hr
  have HL := Lib.hid hl
  clear q hmem hok hr hl
  generalize hNe : S.mem.length = N at *
  clear hNe
  go_enter Tryz.func93, Tryz.ntmps93
  go_wp2_with fail
  go_loop [11] (fun i => ∃ j : Nat, j ≤ n ∧ i = .int .i64 (j : Int) ∧ Hid (setsN S.mem a zs j = false)) (fun i => n - (intOf i).toNat)
  case atStart => exact ⟨0, by omega, rfl, Lib.hid (setsN_zero _ _ _)⟩
  case round =>
    obtain ⟨j, hj, rfl, HA⟩ := hrel
    have j0 : (0 : Int) ≤ (j : Int) := by omega
    by_cases hlt : j < n
    · have j1 : (j : Int) < (n : Int) := by omega
      have qj := Q.out j hlt
      obtain ⟨b, off, rfl, hw, hcell⟩ := row_open HR.out (by omega)
      have qb := hcell j hlt
      have i5 : (a : Int) + (j : Int) < (N : Int) := by omega
      have i6 : (0 : Int) ≤ (a : Int) + (j : Int) := by omega
      have e7 : ((a : Int) + (j : Int)).toNat = a + j := by omega
      by_cases hx : bits .andNot .u8 (zs.getD j 0) (S.mem.getD (a + j) 0) = 0
      · have HN := Lib.hid (setsN_more _ _ _ _ HA.out hx)
        generalize S.mem.getD (a + j) 0 = y at *
        generalize zs.getD j 0 = x at *
        clear hcell
        go_wp2
        go_round
        case rel => exact ⟨j + 1, by omega, by go_num, HN⟩
        case measure => simp [intOf]; omega
      · have HN := Lib.hid (sets_yes S.mem a zs j (by rw [HL.out]; exact hlt) hx)
        generalize S.mem.getD (a + j) 0 = y at *
        generalize zs.getD j 0 = x at *
        have hb : (bits .andNot .u8 x y != 0) = true := by simpa using hx
        clear hcell
        go_wp2
        go_ret
        exact ⟨ret_bool HN.out.symm, rfl⟩
    · obtain rfl : j = n := by omega
      have HN := Lib.hid (show sets S.mem a zs = false by unfold sets; rw [HL.out]; exact HA.out)
      go_wp2
      go_ret
      exact ⟨ret_bool HN.out.symm, rfl⟩
end Go.Proofs.YtklhmneapegfpaaGreatDoor
