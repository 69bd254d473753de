/-
  Calls of Go's package bytes that a manifest's reading makes: whether two rows are the same, whether one begins so, bytes 0 at the end taken off; conditions: the rows read as bytes.
-/
import Derived.Test.YtjfalnhmmofdfaaDoorSl
namespace Go.Proofs.YtjfalnhmmofdfaaDoor
open Go.RowKit
set_option linter.unusedVariables false
set_option linter.unusedSimpArgs false

theorem str_beq {xs ys : List Int} (hx : Byt xs) (hy : Byt ys) : ((strOfNums xs).toList == (strOfNums ys).toList) = decide (xs = ys) := by
  rw [Bool.eq_iff_iff, beq_iff_eq, decide_eq_true_eq, ByteArray.toList_eq, ByteArray.toList_eq, Array.toList_inj]
  exact ⟨fun h => (str_same hx hy).1 (ByteArray.ext h), fun h => by rw [h]⟩
theorem equal_any (a : Option Addr) (m c : Nat) (xs : List Int) (a' : Option Addr) (m' c' : Nat) (ys : List Int) (w : World) (hx : Row w a m xs) (hy : Row w a' m' ys) :
    Calls Tryd.prog 39 #[.slice a m c, .slice a' m' c'] w fun e w' => e = .returned (.bool (decide (xs = ys))) ∧ w = w' := by
  have h1 := conv_row (c := c) hx
  have h2 := conv_row (c := c') hy
  have hE := Lib.hid (str_beq hx.2.1 hy.2.1)
  clear hx hy
  go_enter Tryd.func39, Tryd.ntmps39
  go_wp2
  go_ret
  exact ⟨ret_bool hE.out, rfl⟩
theorem prefix_any (A : Option Addr) (n c : Nat) (zs : List Int) (B : Option Addr) (ys : List Int) (w : World) (hr : Row w A n zs) (h4 : 4 ≤ n) (hc : n ≤ c) (hy : Row w B 4 ys) :
    Calls Tryd.prog 19 #[.slice A n c, .slice B 4 4] w fun e w' => e = .returned (.bool (decide (zs.take 4 = ys))) ∧ w = w' := by
  have hh := row_upto hr 4 h4
  have HE := Lib.hid (equal_any A 4 c (zs.take 4) B 4 4 ys w hh hy)
  have hn : (4 : Int) ≤ (n : Int) := by omega
  clear hr hy hh
  go_enter Tryd.func19, Tryd.ntmps19
  go_wp2_with (go_at_call 39; (with_reducible refine HE.out.mono ?_); rintro e w1 ⟨rfl, rfl⟩)
  go_ret
  exact ⟨rfl, rfl⟩
def sLen : Value → Nat
  | .slice _ n _ => n
  | _ => 0
set_option maxRecDepth 100000 in
theorem trimByte_any (b off n c : Nat) (xs : List Int) (w : World) (hr : Row w (some ⟨b, off, none⟩) n xs) (hc : n ≤ c) (hn : n ≤ 1000000) :
    Calls Tryd.prog 56 #[.slice (some ⟨b, off, none⟩) n c, .int .u8 0] w fun e w' => e = .returned (.slice (some ⟨b, off, none⟩) (trimN xs n) c) ∧ w = w' := by
  have HC : ∀ j, j < n → w.cell? ⟨b, off + j, none⟩ = some (.int .u8 (xs.getD j 0)) := by
    intro j hj
    obtain ⟨b', off', e, _, h⟩ := row_open hr (by omega)
    cases e
    exact h j hj
  have HH := Lib.hid HC
  clear HC hr
  go_enter Tryd.func56, Tryd.ntmps56
  go_wp2
  go_loopw [0] (fun v wr => ∃ k : Nat, v = .slice (some ⟨b, off, none⟩) k c ∧ k ≤ n ∧ Hid (trimN xs k = trimN xs n) ∧ wr = w) (fun v _ => sLen v)
  case atStart => exact ⟨n, rfl, Nat.le_refl _, Lib.hid rfl, rfl⟩
  case round =>
    obtain ⟨k, rfl, hk, HT, rfl⟩ := hrel
    cases k with
    | zero =>
      go_wp2
      go_ret
      exact ⟨by rw [← HT.out]; rfl, rfl⟩
    | succ k =>
      have hcell := HH.out k (by omega)
      have hk3 : k + 1 ≤ 1000000 := by omega
      have hrun := run_upto wr (some ⟨b, off, none⟩) (k + 1) c .i64 k (by omega)
      by_cases h0 : xs.getD k 0 = 0
      · rw [h0] at hcell
        have HZ := Lib.hid (trimN_zero h0)
        clear h0
        go_wp2
        go_roundw
        case rel => exact ⟨k, rfl, by omega, Lib.hid (HZ.out.symm.trans HT.out), trivial⟩
        case measure => simp [sLen]
      · have HZ := Lib.hid (trimN_some h0)
        obtain ⟨x, hx⟩ : ∃ x, xs.getD k 0 = x := ⟨_, rfl⟩
        rw [hx] at hcell h0
        have hb : (x == 0) = false := by simpa using h0
        clear h0 hx
        go_wp2
        go_ret
        exact ⟨by rw [← HT.out, HZ.out]; rfl, rfl⟩
set_option maxRecDepth 100000 in
theorem trim_any (b off n c : Nat) (xs : List Int) (w : World) (hr : Row w (some ⟨b, off, none⟩) n xs) (hc : n ≤ c) (hn : n ≤ 1000000) (h0 : 0 < n) :
    Calls Tryd.prog 41 #[.slice (some ⟨b, off, none⟩) n c, .string ⟨#[0]⟩] w fun e w' => e = .returned (.slice (some ⟨b, off, none⟩) (trimN xs n) c) ∧ w = w' := by
  have HT := Lib.hid (trimByte_any b off n c xs w hr hc hn)
  have hne : ((n : Int) == 0) = false := by simp; omega
  have hz : (((({ data := #[0] } : ByteArray)[0]'(by decide)).toNat : Nat) : Int) = 0 := rfl
  clear hr
  go_enter Tryd.func41, Tryd.ntmps41
  go_wp2_with (go_at_call 56; (with_reducible refine HT.out.mono ?_); rintro e w1 ⟨rfl, rfl⟩)
  go_ret
  exact ⟨rfl, rfl⟩
end Go.Proofs.YtjfalnhmmofdfaaDoor
