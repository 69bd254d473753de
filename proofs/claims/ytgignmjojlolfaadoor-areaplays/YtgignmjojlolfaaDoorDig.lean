/-
  Plain mathematics: what an area's digest is of; the hash's words and the flash's ones are the same; conditions: none.
-/
import Derived.Test.YtgignmjojlolfaaDoorShaLaid
import Derived.Test.YtgignmjojlolfaaDoorRna
import Derived.Test.YtgignmjojlolfaaDoorFacts
namespace Go.Proofs.YtgignmjojlolfaaDoor
open Go.RowKit
set_option linter.unusedVariables false
set_option linter.unusedSimpArgs false

/-- The bytes of the first k sectors. -/
def dSec (S : Fs) (P : Pt) (k : Nat) : List Int := (S.mem.drop (P.fst * 320)).take (k * 320)
/-- The wears of the first k sectors. -/
def dWear (S : Fs) (P : Pt) : Nat → List Int
  | 0 => []
  | k + 1 => dWear S P k ++ Sha.bytes4 (wearAt S ((P.fst : Int) + (k : Int)))
def dRow (S : Fs) (P : Pt) : List Int := dSec S P P.cnt ++ dWear S P P.cnt
def aDig (S : Fs) (P : Pt) : List Int := Sha.shaI (dRow S P)
theorem dWear_len (S : Fs) (P : Pt) : ∀ k, (dWear S P k).length = 4 * k
  | 0 => rfl
  | k + 1 => by rw [dWear, List.length_append, dWear_len S P k]; show 4 * k + 4 = _; omega
theorem dSec_len {S : Fs} {P : Pt} (hS : S.Ok) (hp : P.Ok S.wear.length) {k : Nat} (hk : k ≤ P.cnt) : (dSec S P k).length = k * 320 := by
  unfold dSec
  have := hp.in'
  rw [List.length_take, List.length_drop, hS.len]
  omega
theorem dSec_more {S : Fs} {P : Pt} (hS : S.Ok) (hp : P.Ok S.wear.length) {k : Nat} (hk : k < P.cnt) : dSec S P (k + 1) = dSec S P k ++ read S ((((P.fst : Int) + (k : Int)) * 320)) 320 := by
  have h := hp.in'
  have hl := hS.len
  have e : (((P.fst : Int) + (k : Int)) * 320) = (((P.fst + k) * 320 : Nat) : Int) := by omega
  rw [e, show ((320 : Int)) = ((320 : Nat) : Int) from rfl, read_yes (by omega) (by omega)]
  unfold dSec
  rw [show (k + 1) * 320 = k * 320 + 320 by omega, List.take_add, List.drop_drop, show P.fst * 320 + k * 320 = (P.fst + k) * 320 by omega]
theorem dSec_all {S : Fs} {P : Pt} (hS : S.Ok) (hp : P.Ok S.wear.length) (hc : 0 < P.cnt) : dSec S P P.cnt = read S ((P.fst * 320 : Nat) : Int) ((P.cnt * 320 : Nat) : Int) := by
  have h := hp.in'
  have hl := hS.len
  rw [read_yes (by omega) (by omega)]
  rfl
theorem dSec_byt {S : Fs} (hS : S.Ok) (P : Pt) (k : Nat) : Byt (dSec S P k) := byt_take (byt_drop hS.byt _) _
theorem wear_word {S : Fs} (h : Few S) (ho : S.ops ≤ 1000000) (s : Int) : 0 ≤ wearAt S s ∧ wearAt S s ≤ 4294967295 := by have := wear_few h s; omega
theorem dWear_byt {S : Fs} (h : Few S) (ho : S.ops ≤ 1000000) (P : Pt) : ∀ k, Byt (dWear S P k)
  | 0 => byt_nil
  | k + 1 => byt_app (dWear_byt h ho P k) (Sha.bytes4_bd (wear_word h ho _))
theorem dRow_sim {d : Nat} {S R : Fs} (h : Sim d S R) (P : Pt) : aDig S P = aDig R P := by
  have e : ∀ k, dWear S P k = dWear R P k := fun k => by
    induction k with
    | zero => rfl
    | succ k ih => rw [dWear, dWear, ih, wearAt_sim h]
  unfold aDig dRow dSec
  rw [e, h.mem]
theorem aDig_like {P Q : Pt} (h : Like P Q) (S : Fs) : aDig S P = aDig S Q := by
  by_cases hc : 0 < P.cnt
  · rw [h.2 hc]
  · have h1 : P.cnt = 0 := by omega
    have h2 : Q.cnt = 0 := by rw [← h.1]; exact h1
    unfold aDig dRow dSec
    rw [h1, h2, Nat.zero_mul, List.take_zero, List.take_zero]
    rfl
theorem row_sha {w : World} {a : Option Addr} {n : Nat} {zs : List Int} (h : Row w a n zs) : Sha.Row w a n zs := h
theorem own_sha {w : World} {b n : Nat} {v : Value} {zs : List Int} (h : Own w b v n zs) : Sha.Own w b v n zs := h
theorem has_sha {w : World} {g : Nat} {t : TypeId} {cs : Array Value} (h : Has w g t cs) : Sha.Has w g t cs := h
theorem sha_has {w : World} {g : Nat} {t : TypeId} {cs : Array Value} (h : Sha.Has w g t cs) : Has w g t cs := h
end Go.Proofs.YtgignmjojlolfaaDoor
