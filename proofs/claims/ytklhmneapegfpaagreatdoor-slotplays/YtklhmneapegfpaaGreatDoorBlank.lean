/-
  Blank and Read of the program's flash and of the document's; conditions: the flash is there.
-/
import Derived.Test.YtklhmneapegfpaaGreatDoorNew
namespace Go.Proofs.YtklhmneapegfpaaGreatDoor
open Go.RowKit
set_option linter.unusedVariables false
set_option linter.unusedSimpArgs false

set_option maxRecDepth 100000 in
set_option maxHeartbeats 1000000 in
theorem blank_any {T g m k : Nat} {S : Fs} (s : Int) (w : World) (hf : Fl w T g m k S) : Calls Tryz.prog 76 #[.pointer (some ⟨g, 0, none⟩), .int .i64 s] w fun e w' => e = .returned (.bool (blank S s)) ∧ w = w' := by
  obtain ⟨c, h, A, n, z, ha, hcut⟩ := hf
  obtain ⟨c0, c1, c2, c3, c4, c5, c6⟩ := fl_cells ha.str
  have hmem := ha.mem
  have hok := ha.ok
  clear ha hcut c3 c2 c4 c5 c6
  unfold blank
  by_cases hs : there S s
  · rw [if_pos hs]
    obtain ⟨s, rfl⟩ := Int.eq_ofNat_of_zero_le hs.1
    have hlt : s < S.wear.length := by have := hs.2; omega
    have hN := hok.len
    have hL := hok.few
    rw [Int.toNat_natCast]
    rw [Nat.mul_comm 320 s]
    have q : ∀ j, j < 320 → w.cell? ⟨m, s * 320 + j, none⟩ = some (.int .u8 (S.mem.getD (s * 320 + j) 0)) := fun j hj => bk_byte hmem _ (by omega)
    have h1 : 320 * s + 320 ≤ S.mem.length := by omega
    have h2 : S.mem.length ≤ 128000 := by omega
    clear hmem hok hs hN
    generalize S.wear.length = L at *
    generalize S.mem.length = N at *
    have i0 : (0 : Int) ≤ (s : Int) := by omega
    have i1 : (s : Int) * 320 ≤ (N : Int) := by omega
    have i2 : (s : Int) ≤ 400 := by omega
    have i3 : ¬ N = 320 * s := by omega
    have i4 : (320 : Int) ≤ (N : Int) - (s : Int) * 320 := by omega
    have Q := Lib.hid q
    clear q
    go_enter Tryz.func76, Tryz.ntmps76
    go_wp2_with (first
      | (go_at_call 30; refine (there_any g _).mono ?_; rintro e w1 ⟨rfl, rfl⟩)
      | (go_at_call 72; refine (has_yes g k L s _ c1 hlt).mono ?_; rintro e w1 ⟨rfl, rfl⟩))
    go_loop [22] (fun i => ∃ j : Nat, j ≤ 320 ∧ i = .int .i64 (j : Int) ∧ Hid (allFF S.mem (s * 320) j = true)) (fun i => 320 - (intOf i).toNat)
    case atStart => exact ⟨0, by omega, rfl, Lib.hid (allFF_zero _ _)⟩
    case round =>
      obtain ⟨j, hj, rfl, HA⟩ := hrel
      have j0 : (0 : Int) ≤ (j : Int) := by omega
      by_cases hlt2 : j < 320
      · have qj := Q.out j hlt2
        by_cases hx : S.mem.getD (s * 320 + j) 0 = 255
        · have HN := Lib.hid (allFF_more _ _ _ HA.out hx)
          rw [hx] at qj
          clear hx
          go_wp2
          go_round
          case rel => exact ⟨j + 1, by omega, by go_num, HN⟩
          case measure => simp [intOf]; omega
        · have HN := Lib.hid (allFF_no S.mem (s * 320) 320 j hlt2 hx)
          generalize S.mem.getD (s * 320 + j) 0 = x at *
          have hb : (x != 255) = true := by simpa using hx
          go_wp2
          go_ret
          exact ⟨ret_bool HN.out.symm, rfl⟩
      · obtain rfl : j = 320 := by omega
        go_wp2
        go_ret
        exact ⟨ret_bool HA.out.symm, rfl⟩
  · rw [if_neg hs]
    go_enter Tryz.func76, Tryz.ntmps76
    go_wp2_with (first
      | (go_at_call 30; refine (there_any g _).mono ?_; rintro e w1 ⟨rfl, rfl⟩)
      | (go_at_call 72; refine (has_no g k S.wear.length s _ c1 hs).mono ?_; rintro e w1 ⟨rfl, rfl⟩))
    go_ret
    exact ⟨rfl, rfl⟩
set_option maxRecDepth 100000 in
set_option maxHeartbeats 1000000 in
theorem rblank_any {T g m k : Nat} {S : Fs} (s : Int) (w : World) (hf : Rl w T g m k S) : Calls Tryz.prog 58 #[.pointer (some ⟨g, 0, none⟩), .int .i64 s] w fun e w' => e = .returned (.bool (blank S s)) ∧ w = w' := by
  obtain ⟨c, h, A, n, z, ha, hcut⟩ := hf
  obtain ⟨c0, c1, c2, c3, c4, c5, c6⟩ := rl_cells ha.str
  have hmem := ha.mem
  have hok := ha.ok
  clear ha hcut c3 c2 c4 c5 c6
  unfold blank
  by_cases h0 : s < 0
  · rw [if_neg (fun x => by have := x.1; omega)]
    go_enter Tryz.func58, Tryz.ntmps58
    go_wp2
    go_ret
    exact ⟨rfl, rfl⟩
  obtain ⟨s, rfl⟩ := Int.eq_ofNat_of_zero_le (show 0 ≤ s by omega)
  by_cases hs : there S s
  · rw [if_pos hs]
    have hlt : s < S.wear.length := by have := hs.2; omega
    have hN := hok.len
    have hL := hok.few
    rw [Int.toNat_natCast]
    rw [Nat.mul_comm 320 s]
    have q : ∀ j, j < 320 → w.cell? ⟨m, s * 320 + j, none⟩ = some (.int .u8 (S.mem.getD (s * 320 + j) 0)) := fun j hj => bk_byte hmem _ (by omega)
    have h1 : 320 * s + 320 ≤ S.mem.length := by omega
    have h2 : S.mem.length ≤ 128000 := by omega
    clear hmem hok hs hN
    generalize S.wear.length = L at *
    generalize S.mem.length = N at *
    have hge : ¬ L ≤ s := by omega
    have hge2 : decide ((L : Int) ≤ (s : Int)) = false := by simp; omega
    have hge3 : decide (L ≤ s) = false := by simp; omega
    have h03 : decide ((s : Int) < 0) = false := by simp
    have i0 : (0 : Int) ≤ (s : Int) := by omega
    have i2 : (s : Int) ≤ 400 := by omega
    have Q := Lib.hid q
    clear q
    go_enter Tryz.func58, Tryz.ntmps58
    go_wp2
    go_loop [5] (fun i => ∃ j : Nat, j ≤ 320 ∧ i = .int .i64 (j : Int) ∧ Hid (allFF S.mem (s * 320) j = true)) (fun i => 320 - (intOf i).toNat)
    case atStart => exact ⟨0, by omega, rfl, Lib.hid (allFF_zero _ _)⟩
    case round =>
      obtain ⟨j, hj, rfl, HA⟩ := hrel
      have j0 : (0 : Int) ≤ (j : Int) := by omega
      by_cases hlt2 : j < 320
      · have qj := Q.out j hlt2
        have i5 : (s : Int) * 320 + (j : Int) < (N : Int) := by omega
        have i6 : (0 : Int) ≤ (s : Int) * 320 + (j : Int) := by omega
        have e7 : ((s : Int) * 320 + (j : Int)).toNat = s * 320 + j := by omega
        by_cases hx : S.mem.getD (s * 320 + j) 0 = 255
        · have HN := Lib.hid (allFF_more _ _ _ HA.out hx)
          rw [hx] at qj
          clear hx
          go_wp2
          go_round
          case rel => exact ⟨j + 1, by omega, by go_num, HN⟩
          case measure => simp [intOf]; omega
        · have HN := Lib.hid (allFF_no S.mem (s * 320) 320 j hlt2 hx)
          generalize S.mem.getD (s * 320 + j) 0 = x at *
          have hb : (x != 255) = true := by simpa using hx
          go_wp2
          go_ret
          exact ⟨ret_bool HN.out.symm, rfl⟩
      · obtain rfl : j = 320 := by omega
        go_wp2
        go_ret
        exact ⟨ret_bool HA.out.symm, rfl⟩
  · rw [if_neg hs]
    have hge : S.wear.length ≤ s := by
      by_cases h : S.wear.length ≤ s
      · exact h
      · exact absurd ⟨by omega, by omega⟩ hs
    go_enter Tryz.func58, Tryz.ntmps58
    go_wp2
    go_ret
    exact ⟨rfl, rfl⟩
end Go.Proofs.YtklhmneapegfpaaGreatDoor
