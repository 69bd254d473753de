/-
  Whether two rows of bytes are the same, as the program tells it; conditions: both read as rows of bytes.
-/
import Derived.Test.YtjfalnhmmofdfaaDoorShaKey
import Derived.Test.YtjfalnhmmofdfaaDoorShaOwn
import Derived.StillTailTactics
namespace Go.Proofs.YtjfalnhmmofdfaaDoor.Sha
open Go.RowKit
set_option linter.unusedVariables false
set_option linter.unusedSimpArgs false

theorem ret_bool {a b : Bool} (h : a = b) : Ending.returned (.bool a) = .returned (.bool b) := by rw [h]
theorem row_bytes {w : World} {a : Option Addr} {n : Nat} {zs : List Int} (h : Row w a n zs) : Byt zs := h.2.1
set_option maxRecDepth 100000 in
set_option maxHeartbeats 1000000 in
theorem same_any (a : Option Addr) (m c : Nat) (xs : List Int) (a' : Option Addr) (m' c' : Nat) (ys : List Int) (w : World) (hx : Row w a m xs) (hy : Row w a' m' ys) (hc : m ≤ c) (hc' : m' ≤ c') (hm : m ≤ 1000000) :
    Calls Tryd.prog 35 #[.slice a m c, .slice a' m' c'] w fun e w' => e = .returned (.bool (decide (xs = ys))) ∧ Below w.heap.size w w' := by
  by_cases hlen : m = m'
  · subst hlen
    go_enter Tryd.func35, Tryd.ntmps35
    go_wp2
    go_loopw [5, 14] (fun d i wr => ∃ k : Nat, k ≤ m ∧ i = .int .i64 k ∧ d = .int .u8 (diff xs ys k) ∧ Below w.heap.size w wr) (fun _ i _ => m - (intOf i).toNat)
    case atStart => exact ⟨0, by omega, rfl, rfl, Below.refl _ _⟩
    case round =>
      obtain ⟨k, hk, rfl, rfl, hb⟩ := hrel
      by_cases hlt : k < m
      · obtain ⟨b, off, rfl, hbw, hcx⟩ := row_open hx (by omega)
        obtain ⟨b', off', rfl, hbw', hcy⟩ := row_open hy (by omega)
        have q1 : wr.cell? ⟨b, off + k, none⟩ = some (.int .u8 (xs.getD k 0)) := (hb.cell (p := ⟨b, off + k, none⟩) hbw).trans (hcx k hlt)
        have q2 : wr.cell? ⟨b', off' + k, none⟩ = some (.int .u8 (ys.getD k 0)) := (hb.cell (p := ⟨b', off' + k, none⟩) hbw').trans (hcy k hlt)
        clear hcx hcy
        have i3 : (k : Int) < (m : Int) := by omega
        have i4 : (0 : Int) ≤ (k : Int) := by omega
        go_wp2
        go_region
        go_wp2
        go_roundw
        case rel => exact ⟨k + 1, by omega, by go_num, rfl, hb.drew⟩
        case measure => simp [intOf]; omega
      · obtain rfl : k = m := by omega
        have hd := diff_all hx.2.1 hy.2.1 hx.1 hy.1
        go_wp2
        go_ret
        exact ⟨ret_bool (by rw [Bool.eq_iff_iff]; simp [hd]), hb⟩
  · have hne : xs ≠ ys := by
      rintro rfl
      exact hlen (hx.1.symm.trans hy.1)
    have hi : (m : Int) ≠ (m' : Int) := by omega
    go_enter Tryd.func35, Tryd.ntmps35
    go_wp2
    go_ret
    exact ⟨ret_bool (by simp [hne]), Below.refl _ _⟩
end Go.Proofs.YtjfalnhmmofdfaaDoor.Sha
