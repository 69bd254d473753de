/-
  The document's reader at a place of a row, whether bytes are missing or left; conditions: the row reads as bytes.
-/
import Derived.Test.YtjfalnhmmofdfaaDoorSg
namespace Go.Proofs.YtjfalnhmmofdfaaDoor
open Go.RowKit
set_option linter.unusedVariables false
set_option linter.unusedSimpArgs false

/-- What is left behind k bytes. -/
def St (zs : List Int) (k : Nat) : Rs := if k ≤ zs.length then ⟨zs.drop k, false⟩ else ⟨[], true⟩
theorem st_zero (zs : List Int) : St zs 0 = ⟨zs, false⟩ := by unfold St; rw [if_pos (Nat.zero_le _)]; rfl
theorem st_aft (zs : List Int) (k n : Nat) (h : 0 < n) : aft (St zs k) n = St zs (k + n) := by
  unfold St
  by_cases hk : k ≤ zs.length
  · rw [if_pos hk]
    by_cases hn : k + n ≤ zs.length
    · rw [if_pos hn, aft_yes rfl (by simp only [List.length_drop]; omega)]
      simp only [List.drop_drop]
    · rw [if_neg hn, aft_short (by simp only [List.length_drop]; omega)]
  · rw [if_neg hk, if_neg (by omega), aft_bad rfl]
theorem st_got {zs : List Int} {k n : Nat} (h : k + n ≤ zs.length) : got (St zs k) n = (zs.drop k).take n := by
  unfold St
  rw [if_pos (by omega), got_yes rfl (by simp only [List.length_drop]; omega)]
theorem st_low {zs : List Int} {k : Nat} (h : zs.length < k) : (St zs k).bad = true := by unfold St; rw [if_neg (by omega)]
theorem st_fine {zs : List Int} {k : Nat} (h : k ≤ zs.length) : (St zs k).bad = false ∧ (St zs k).rest.length = zs.length - k := by
  unfold St
  rw [if_pos h]
  exact ⟨rfl, List.length_drop⟩
theorem drr_k {p T : Nat} {zs : List Int} (k n : Nat) (s : Int) (hs : cutN s 1000 = n) (h0 : 0 < n) (w : World) (hS : Rr w p T (St zs k)) :
    Calls Tryd.prog 25 #[.pointer (some ⟨p, 0, none⟩), .int .i64 s] w (GivesR (got (St zs k) n) w (RrTo p T (St zs (k + n)) w)) := by
  have h := rraw_any s w hS
  rw [hs, st_aft zs k n h0] at h
  exact h
theorem drn_k {p T : Nat} {zs : List Int} (k : Nat) (w : World) (hS : Rr w p T (St zs k)) :
    Calls Tryd.prog 26 #[.pointer (some ⟨p, 0, none⟩), .int .i64 4] w (GivesN (w64 (val (got (St zs k) 4))) (RrTo p T (St zs (k + 4)) w)) := by
  have h := rnum_any 4 w hS
  rw [cutN48, st_aft zs k 4 (by omega)] at h
  exact h
theorem rleft_any {p T : Nat} {S : Rs} (w : World) (hS : Rr w p T S) : Calls Tryd.prog 28 #[.pointer (some ⟨p, 0, none⟩)] w fun e w' => e = .returned (.int .i64 (S.rest.length : Int)) ∧ w = w' := by
  obtain ⟨hok, hT, hle, A, n, c, zs, hh, hr, hc, hA, hz⟩ := hS
  have q0 : w.cell? ⟨p, 0, none⟩ = some (.slice A n c) := hh.at 0
  have q1 : w.cell? ⟨p, 1, none⟩ = some (.bool S.bad) := hh.at 1
  cases hb : S.bad with
  | false =>
    rw [hb] at q1
    have hl := hr.1
    rw [hz hb] at hl
    rw [hl]
    go_enter Tryd.func28, Tryd.ntmps28
    go_wp2
    go_ret
    exact ⟨rfl, rfl⟩
  | true =>
    rw [hb] at q1
    rw [hok.2 hb]
    go_enter Tryd.func28, Tryd.ntmps28
    go_wp2
    go_ret
    exact ⟨rfl, rfl⟩
theorem rbad_any {p T : Nat} {S : Rs} (w : World) (hS : Rr w p T S) : Calls Tryd.prog 27 #[.pointer (some ⟨p, 0, none⟩)] w fun e w' => e = .returned (.bool S.bad) ∧ w = w' := by
  obtain ⟨hok, hT, hle, A, n, c, zs, hh, hr, hc, hA, hz⟩ := hS
  have q1 : w.cell? ⟨p, 1, none⟩ = some (.bool S.bad) := hh.at 1
  go_enter Tryd.func27, Tryd.ntmps27
  go_wp2
  go_ret
  exact ⟨rfl, rfl⟩
theorem row_not {w w' : World} {p B : Nat} {a : Option Addr} {n : Nat} {zs : List Int} (h : Row w a n zs) (o : Only (fun b => b = p) w w') (hB : ∀ x, a = some x → B ≤ x.block ∧ x.block < w.heap.size) (hp : p < B) : Row w' a n zs :=
  row_keep h o (fun x hx e => by have := (hB x hx).1; omega)
theorem Rr.at {w : World} {p T : Nat} {S : Rs} (h : Rr w p T S) : p < w.heap.size := by
  obtain ⟨_, _, _, A, n, c, zs, h4, _⟩ := h
  exact h4.size
/-- The mark, as a text. -/
theorem mark_txt : strOfNums markL = ⟨#[87, 76, 77, 49]⟩ := rfl
end Go.Proofs.YtjfalnhmmofdfaaDoor
