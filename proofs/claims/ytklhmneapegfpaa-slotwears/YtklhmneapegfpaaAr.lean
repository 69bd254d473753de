/-
  An area in memory, and the small calls of package area: handed, whose, sectors, Len, has, within, place, left; conditions: as each states.
-/
import Derived.Test.YtklhmneapegfpaaApl
import Derived.Test.YtklhmneapegfpaaOps
import Derived.Handy
namespace Go.Proofs.Ytklhmneapegfpaa
open Go.RowKit
set_option linter.unusedVariables false
set_option linter.unusedSimpArgs false

/-- The struct that tells a flash's sectors. -/
def fsCells (F : Value) (f c b : Int) : Array Value := #[F, .int .i64 f, .int .i64 c, .int .i64 b]
def partV (g : Nat) (P : Pt) : Value := if 0 < P.cnt then .iface 50 (.agg (fsCells (.pointer (some ⟨g, 0, none⟩)) P.fst P.cnt P.bud)) else .iface 44 (.agg #[])
def whoV (g : Nat) (P : Pt) : Array Value := if 0 < P.cnt then fsCells (.pointer (some ⟨g, 0, none⟩)) P.fst P.cnt P.bud else fsCells (.pointer none) 0 0 0
theorem partV_yes {g : Nat} {P : Pt} (h : 0 < P.cnt) : partV g P = .iface 50 (.agg (fsCells (.pointer (some ⟨g, 0, none⟩)) P.fst P.cnt P.bud)) := if_pos h
theorem partV_no {g : Nat} {P : Pt} (h : ¬ 0 < P.cnt) : partV g P = .iface 44 (.agg #[]) := if_neg h
theorem whoV_yes {g : Nat} {P : Pt} (h : 0 < P.cnt) : whoV g P = fsCells (.pointer (some ⟨g, 0, none⟩)) P.fst P.cnt P.bud := if_pos h
theorem whoV_no {g : Nat} {P : Pt} (h : ¬ 0 < P.cnt) : whoV g P = fsCells (.pointer none) 0 0 0 := if_neg h
/-- The area at block x. -/
def Ar (w : World) (x g : Nat) (P : Pt) : Prop := Has w x 48 #[partV g P]
theorem size53 (F : Value) (f c b : Int) : (Try.prog.info? 50).map (·.size) = some (fsCells F f c b).size := by
  show _ = some 4
  kernel_rfl
theorem handed_any {x g : Nat} {P : Pt} (w : World) (h : Ar w x g P) : Calls Try.prog 29 #[.pointer (some ⟨x, 0, none⟩)] w fun e w' => e = .returned (partV g P) ∧ w = w' := by
  have c0 : w.cell? ⟨x, 0, none⟩ = some (partV g P) := h.at 0
  unfold partV at *
  by_cases hc : 0 < P.cnt
  · rw [if_pos hc] at c0 ⊢
    unfold fsCells at *
    go_enter Try.func29, Try.ntmps29
    go_wp2
    go_ret
    exact ⟨rfl, rfl⟩
  · rw [if_neg hc] at c0 ⊢
    go_enter Try.func29, Try.ntmps29
    go_wp2
    go_ret
    exact ⟨rfl, rfl⟩
theorem handed_nil (w : World) : Calls Try.prog 29 #[.pointer none] w fun e w' => e = .returned (.iface 44 (.agg #[])) ∧ w = w' := by
  go_enter Try.func29, Try.ntmps29
  go_wp2
  go_ret
  exact ⟨rfl, rfl⟩
theorem ahas_any (F : Value) (f c b s : Int) (w : World) : Calls Try.prog 35 #[.agg (fsCells F f c b), .int .i64 s] w fun e w' => e = .returned (.bool (decide (0 ≤ s ∧ s < c))) ∧ Below w.heap.size w w' := by
  have hb : Below w.heap.size w (w.alloc (.cells (fsCells F f c b) 50)) := (Below.refl _ _).alloc (Nat.le_refl _) _
  unfold fsCells at *
  by_cases h1 : 0 ≤ s
  · by_cases h2 : s < c
    · have e : decide (0 ≤ s ∧ s < c) = true := by simp [h1, h2]
      rw [e]
      go_enter Try.func35, Try.ntmps35
      go_wp2
      go_ret
      exact ⟨rfl, hb⟩
    · have e : decide (0 ≤ s ∧ s < c) = false := by simp [h2]
      rw [e]
      go_enter Try.func35, Try.ntmps35
      go_wp2
      go_ret
      exact ⟨rfl, hb⟩
  · have e : decide (0 ≤ s ∧ s < c) = false := by simp [h1]
    rw [e]
    go_enter Try.func35, Try.ntmps35
    go_wp2
    go_ret
    exact ⟨rfl, hb⟩
theorem place_any (F : Value) (f c b s a : Int) (w : World) (hf : 0 ≤ f ∧ f ≤ 1000) (hs : 0 ≤ s ∧ s ≤ 1000) (ha : 0 ≤ a ∧ a ≤ 1000) : Calls Try.prog 32 #[.agg (fsCells F f c b), .int .i64 s, .int .i64 a] w fun e w' => e = .returned (.int .i64 ((f + s) * 320 + a)) ∧ Below w.heap.size w w' := by
  have hb : Below w.heap.size w (w.alloc (.cells (fsCells F f c b) 50)) := (Below.refl _ _).alloc (Nat.le_refl _) _
  have q1 : IntKind.i64.wrap (f + s) = f + s := by rw [IntKind.wrap_i64]; omega
  have q2 : IntKind.i64.wrap ((f + s) * 320) = (f + s) * 320 := by rw [IntKind.wrap_i64]; omega
  have q3 : IntKind.i64.wrap ((f + s) * 320 + a) = (f + s) * 320 + a := by rw [IntKind.wrap_i64]; omega
  unfold fsCells at *
  go_enter Try.func32, Try.ntmps32
  go_wp2
  go_ret
  exact ⟨rfl, hb⟩
end Go.Proofs.Ytklhmneapegfpaa
