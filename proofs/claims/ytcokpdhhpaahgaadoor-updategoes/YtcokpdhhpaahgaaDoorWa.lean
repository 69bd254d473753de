/-
  The document's RightConfig of a config with a key and a first image of one byte each: whether its name is a name; conditions: as stated.
-/
import Derived.Test.YtcokpdhhpaahgaaDoorVg
import Derived.Test.YtcokpdhhpaahgaaDoorMMb
namespace Go.Proofs.YtcokpdhhpaahgaaDoor
open Go.RowKit
set_option linter.unusedVariables false
set_option linter.unusedSimpArgs false

def cfC (s : ByteArray) (k f : Option Addr) (c1 c2 : Nat) : Array Value := #[.string s, .slice k 1 c1, .int .i64 1, .int .i64 0, .int .i64 1, .int .i64 0, .slice f 1 c2]
set_option maxRecDepth 100000 in
set_option maxHeartbeats 4000000 in
theorem rconf_any (s : ByteArray) (k f : Option Addr) (c1 c2 : Nat) (w : World) (hs : s.size ≤ maxLen) (b : Bool) (e0 : Nam.validL (Nam.all s) = b) :
    Calls Tryd.prog 17 #[.agg (cfC s k f c1 c2)] w fun e w' => e = .returned (.bool b) ∧ Below w.heap.size w w' := by
  have hb0 : Below w.heap.size w (w.alloc (.cells (cfC s k f c1 c2) 49)) := (Below.refl _ _).alloc (Nat.le_refl _) _
  have hh : Has (w.alloc (.cells (cfC s k f c1 c2) 49)) w.heap.size 49 (cfC s k f c1 c2) := has_new w 49 _
  have HV := Lib.hid (Nam.rvalid_any s (w.alloc (.cells (cfC s k f c1 c2) 49)) hs)
  rw [e0] at HV
  clear e0
  have k0 : (w.alloc (.cells (cfC s k f c1 c2) 49)).cell? ⟨w.heap.size, 0, none⟩ = some (.string s) := (hh.at 0).trans rfl
  have HH := Lib.hid hh
  have HB := Lib.hid hb0
  clear hh hb0
  generalize hcf : cfC s k f c1 c2 = cf at *
  cases b with
  | false =>
    go_enter Tryd.func17, Tryd.ntmps17
    go_wp2_with (go_at_call 35; (with_reducible refine HV.out.mono ?_); rintro e w1 ⟨rfl, b1⟩; have C1 := Lib.hid (HB.out.trans (b1.mono HB.out.size)); clear HV b1)
    go_ret
    exact ⟨rfl, C1.out⟩
  | true =>
    go_enter Tryd.func17, Tryd.ntmps17
    go_wp2_with (go_at_call 35; (with_reducible refine HV.out.mono ?_); rintro e w1 ⟨rfl, b1⟩; have C1 := Lib.hid (HB.out.trans (b1.mono HB.out.size)); have S1 := HH.out.kept b1; subst hcf; have q1 : w1.cell? ⟨w.heap.size, 1, none⟩ = some (.slice k 1 c1) := (S1.at 1).trans rfl; have q2 : w1.cell? ⟨w.heap.size, 2, none⟩ = some (.int .i64 1) := (S1.at 2).trans rfl; have q3 : w1.cell? ⟨w.heap.size, 3, none⟩ = some (.int .i64 0) := (S1.at 3).trans rfl; have q4 : w1.cell? ⟨w.heap.size, 4, none⟩ = some (.int .i64 1) := (S1.at 4).trans rfl; have q5 : w1.cell? ⟨w.heap.size, 5, none⟩ = some (.int .i64 0) := (S1.at 5).trans rfl; have q6 : w1.cell? ⟨w.heap.size, 6, none⟩ = some (.slice f 1 c2) := (S1.at 6).trans rfl; clear HV b1 S1)
    go_ret
    exact ⟨rfl, C1.out⟩
end Go.Proofs.YtcokpdhhpaahgaaDoor
