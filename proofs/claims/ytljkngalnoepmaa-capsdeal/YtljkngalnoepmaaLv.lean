/-
  Is the chapter's package alive? The law's own call; conditions: none.
-/
import Derived.Test.YtljkngalnoepmaaDe
import Derived.Lib.SlBytesConst
namespace Go.Proofs.Ytljkngalnoepmaa
open Go.RowKit
set_option linter.unusedVariables false
set_option linter.unusedSimpArgs false

/-- A tenant named so, whose key and first image are one byte each. -/
def oneC (s : ByteArray) (g h : Nat) : Cf := ⟨s, some ⟨g, 0, none⟩, 1, 1, 1, 0, 1, 0, some ⟨h, 0, none⟩, 1, 1⟩
theorem oneC_ok {s : ByteArray} (hs : s.size ≤ maxLen) (g h : Nat) : (oneC s g h).Ok := ⟨hs, ⟨by simp [oneC], by simp [oneC]⟩, ⟨by simp [oneC], by simp [oneC]⟩, ⟨by simp [oneC], by simp [oneC]⟩, ⟨by simp [oneC], by simp [oneC]⟩⟩
theorem oneC_right {s : ByteArray} (hv : Nam.validL (Nam.all s) = true) (g h : Nat) : rightB (oneC s g h) = true := by
  unfold rightB
  rw [show (oneC s g h).name = s from rfl, hv]
  rfl
theorem oneC_need (s : ByteArray) (g h : Nat) : needN (oneC s g h) = 6 := rfl
def sA : ByteArray := ⟨#[97]⟩
theorem validA : Nam.validL (Nam.all sA) = true := by decide +kernel
theorem lone_one (c : Cf) : ¬ Twice [c] := by
  rintro ⟨i, k, x, y, hk, hi, hd, e⟩
  have := (List.getElem?_eq_some_iff.1 hi).1
  simp at this
  omega
theorem deal_one (g h : Nat) : errN [oneC sA g h] = 0 ∧ dealL [oneC sA g h] = [⟨0, 0, 6⟩] := by
  have := err_none (cs := [oneC sA g h]) rfl (by rw [List.all_cons, oneC_right validA]; rfl) (share_no (lone_one _))
  exact this
theorem err_nil : errN [] = 1 ∧ dealL [] = [] := err_arg rfl
theorem cfs_lit (w : World) (c : Cf) : Cfs (w.alloc (.cells c.cells 38)) (w.heap.size + 1) (some ⟨w.heap.size, 0, none⟩) 1 [c] :=
  ⟨⟨rfl, .inr ⟨_, 0, rfl, by omega, by have := Has.run (cs := c.list) (has_new w 38 c.cells); simpa [cfs] using this⟩⟩, rfl⟩
theorem conv_1 (w : World) (x : Int) : (convert 36 36 (.slice (some ⟨w.heap.size, 0, none⟩) 1 1)).run Try.prog (w.alloc (.cells #[.int .u8 x] 5)) = .ok (.slice (some ⟨w.heap.size, 0, none⟩) 1 1) (w.alloc (.cells #[.int .u8 x] 5 (1, 2))) :=
  Lib.run_convert_bytes_const w 36 5 #[.int .u8 x] 1 1 Try.underlying36 Try.underlying5
theorem conv_2 (w : World) (o : Obj) (x : Int) : (convert 36 36 (.slice (some ⟨w.heap.size + 1, 0, none⟩) 1 1)).run Try.prog ((w.alloc o).alloc (.cells #[.int .u8 x] 5)) = .ok (.slice (some ⟨w.heap.size + 1, 0, none⟩) 1 1) ((w.alloc o).alloc (.cells #[.int .u8 x] 5 (1, 2))) := by
  have := conv_1 (w.alloc o) x
  rwa [World.size_alloc] at this
/-- The world in which one tenant's config lies in a row. -/
def laidA (w : World) : World := ((w.alloc (.cells #[.int .u8 107] 5 (1, 2))).alloc (.cells #[.int .u8 120] 5 (1, 2))).alloc (.cells (oneC sA w.heap.size (w.heap.size + 1)).cells 38)
theorem laidA_size (w : World) : (laidA w).heap.size = w.heap.size + 1 + 1 + 1 := by simp [laidA]
theorem laidA_cfs (w : World) : Cfs (laidA w) (w.heap.size + 1 + 1 + 1) (some ⟨w.heap.size + 1 + 1, 0, none⟩) 1 [oneC sA w.heap.size (w.heap.size + 1)] := by
  have := cfs_lit ((w.alloc (.cells #[.int .u8 107] 5 (1, 2))).alloc (.cells #[.int .u8 120] 5 (1, 2))) (oneC sA w.heap.size (w.heap.size + 1))
  rwa [World.size_alloc, World.size_alloc] at this
theorem laidA_below (w : World) : Below w.heap.size w (laidA w) := by
  have b1 := (Below.refl w.heap.size w).alloc (Nat.le_refl _) (.cells #[.int .u8 107] 5 (1, 2))
  have b2 := b1.alloc b1.size (.cells #[.int .u8 120] 5 (1, 2))
  exact b2.alloc b2.size _
set_option maxRecDepth 100000 in
theorem alive_any (w : World) : Calls Try.prog 7 #[] w fun e w' => e = .returned (.bool true) ∧ Below w.heap.size w w' := by
  have HD := Lib.hid (deal_any none 0 0 [] w.heap.size w (cfs_none _ _ _) (Nat.le_refl _) (Nat.le_refl _) (fun c hc => by simp at hc) (Nat.zero_le _))
  go_enter Try.func7, Try.ntmps7
  go_wp2_with (first
    | (go_at_call_of 9 (Value.slice none 0 0); (with_reducible refine HD.out.mono ?_); rintro e w1 ⟨⟨v1, rfl, o1⟩, b1⟩; rw [err_nil.1]; have B1 := Lib.hid b1; have k1 := conv_1 w1 107; have k2 := conv_2 w1 (.cells #[.int .u8 107] 5 (1, 2)) 120; clear b1 o1 HD; have HE := Lib.hid (deal_any (some ⟨w1.heap.size + 1 + 1, 0, none⟩) 1 1 [oneC sA w1.heap.size (w1.heap.size + 1)] _ (laidA w1) (laidA_cfs w1) (Nat.le_of_eq (laidA_size w1).symm) (Nat.le_refl _) (fun c hc => by rw [List.mem_singleton.1 hc]; exact oneC_ok (by unfold maxLen sA; decide) _ _) (by unfold maxLen; omega)))
    | (go_at_call 9; refine HE.out.mono ?_; rintro e w2 ⟨⟨v2, rfl, o2⟩, b2⟩; rw [(deal_one _ _).1]; rw [(deal_one _ _).2] at o2; have B2 := Lib.hid (belowThen (B1.out.trans ((laidA_below w1).mono B1.out.size)) b2 (Nat.le_trans B1.out.size (laidA_below w1).size)); obtain ⟨A2, c2, rfl, _, hp⟩ := ownP_cps o2; obtain ⟨b, off, rfl, _, hrun⟩ := hp.1.open (by simp); have z2 := (cps_see (i := 0) hrun rfl).c2; rw [Nat.zero_mul, Nat.add_zero] at z2; clear b2 o2 hp hrun HE)
    | (go_at_call 11; (with_reducible refine (num_any _ _).mono ?_); rintro e w3 ⟨rfl, rfl⟩))
  all_goals go_ret
  all_goals exact ⟨rfl, B2.out⟩
end Go.Proofs.Ytljkngalnoepmaa
