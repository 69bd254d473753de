/-
  What is proved: for all rows of bytes the law CrcEnd answers true: bytes with their own sum behind, the lowest byte first, always have one sum (rows of up to 1000 bytes; longer ones the law lets by). Conditions: none.
-/
import Derived.Test.YtcdbfpfjackloaaOwn
import Derived.Test.YtcdbfpfjackloaaRows
import Derived.WalkKit
import Derived.ProofKit
import Derived.OpenShut
import Derived.ShutString
import Derived.ChangeOld
import Derived.Below
namespace Go.Proofs.Ytcdbfpfjackloaa.crcEnd
open Go.ChangeShapes Go.WideShapes Go.ChangeAt Go.RowKit
open Go.ChangeMaps (open_string shut_string)
set_option linter.unusedVariables false

theorem own : ownKnob Try.prog.godebug = none := by kernel_rfl
theorem laidOut : laidOutB Try.prog = true := by kernel_rfl

/-- WHAT THE WALK IS TOLD OF A SLICE OF INTEGERS THAT CAME IN: it is nil; or it leads to a row of 'cap' cells, the numbers 'zs' (the first 'len' are its elements, the rest its spare room), each fitting its kind. -/
def IsRow (k : IntKind) (w : World) (a : Option Addr) (len cap : Nat) (zs : List Int) : Prop :=
  (a = none ∧ len = 0 ∧ cap = 0 ∧ zs = []) ∨
  ∃ x, a = some x ∧ len ≤ cap ∧ cap ≤ maxLen ∧ zs.length = cap ∧ (∀ i, i < zs.length → w.cell? (x.add i) = some (.int k (zs.getD i 0))) ∧ ∀ n ∈ zs, (Lit.int k n).wf = true

theorem and_low (x : Nat) (hx : x < 2 ^ 32) : bits .and .u32 (x : Int) 255 = ((x % 256 : Nat) : Int) := by
  have := u32_and_nat x 255 (by omega) (by omega)
  rw [nat_mask8] at this
  exact this
/-- The bytes of a sum, as the law writes them. -/
theorem masks {s : Nat} (h : s < 2 ^ 32) : ∃ m0 m1 m2 : Int, bits .and .u32 (s : Int) 255 = m0 ∧ bits .and .u32 ((s : Int) / 256) 255 = m1 ∧ bits .and .u32 ((s : Int) / 65536) 255 = m2 ∧ (0 ≤ m0 ∧ m0 ≤ 255) ∧ (0 ≤ m1 ∧ m1 ≤ 255) ∧ (0 ≤ m2 ∧ m2 ≤ 255) ∧ Hid (low4 s = [m0, m1, m2, (s : Int) / 16777216]) := by
  refine ⟨((s % 256 : Nat) : Int), ((s / 256 % 256 : Nat) : Int), ((s / 65536 % 256 : Nat) : Int), and_low s h, ?_, ?_, by omega, by omega, by omega, Lib.hid ?_⟩
  · exact and_low (s / 256) (by omega)
  · exact and_low (s / 65536) (by omega)
  · unfold low4
    rw [show ((s / 16777216 : Nat) : Int) = (s : Int) / 16777216 by omega]
set_option maxRecDepth 100000 in
set_option maxHeartbeats 1000000 in
theorem walk (a0 : Option Addr) (len0 cap0 : Nat) (z0 : List Int) (w : World) (w0 : IsRow .u8 w a0 len0 cap0 z0) :
    Calls Try.prog 6 #[.slice a0 len0 cap0] w fun e w' => e = .returned (.bool true) ∧ Below w.heap.size w w' := by
  have hr := row_of w0
  clear w0
  generalize z0.take len0 = zs at *
  by_cases h0 : len0 ≤ 1000
  · have i0 : ¬ (1000 : Int) < (len0 : Int) := by omega
    have HE := Lib.hid (crc_end hr.2.1)
    have hlt := crcN_lt zs
    generalize hs : crcN zs = s at *
    have HS := Lib.hid hs
    clear hs
    obtain ⟨m0, m1, m2, e0, e1, e2, d0, d1, d2, HM⟩ := masks hlt
    have hbm := low4_byt hlt
    rw [HM.out] at hbm
    go_enter Try.func6, Try.ntmps6
    go_wp2_with (first
      | (go_at_call 7; refine (alive_any _).mono ?_; rintro e w1 ⟨rfl, H1⟩; have hr1 := row_below H1 hr; have n1 := own_nil w1 w1.heap.size)
      | (go_at_call_of 8 (Value.slice a0 len0 cap0); refine (sum_any _ _ _ zs _ hr1 (by omega)).mono ?_; rintro e w2 ⟨rfl, rfl⟩; rw [HS.out])
      | (at_builtin; (with_reducible refine wpList_app rfl _ _ rfl w1.heap.size (.slice none 0 0) 0 [] rfl n1 _ _ _ zs rfl hr1 (row_none hr1) (by omega) (Nat.le_refl _) ?_); intro v2 w2 o2 g2; have b2 := below_own (Below.refl _ w1) n1 g2 (Nat.le_refl _) (Nat.le_refl _); rw [Nat.zero_add, List.nil_append] at o2; have ba : Below w2.heap.size w2 (w2.alloc (.cells #[.int .u8 m0, .int .u8 m1, .int .u8 m2, .int .u8 ((s : Int) / 16777216)] 5)) := (Below.refl w2.heap.size w2).alloc (Nat.le_refl _) _; have o2a := o2.kept ba; have hm2 : Row (w2.alloc (.cells #[.int .u8 m0, .int .u8 m1, .int .u8 m2, .int .u8 ((s : Int) / 16777216)] 5)) (some ⟨w2.heap.size, 0, none⟩) 4 [m0, m1, m2, (s : Int) / 16777216] := row_text w2 _ hbm 4 rfl (0, 0); have b2a := b2.trans (ba.mono b2.size))
      | (at_builtin; (with_reducible refine wpList_app rfl _ _ rfl w1.heap.size v2 len0 zs rfl o2a _ _ _ [m0, m1, m2, (s : Int) / 16777216] rfl hm2 (row_none hm2) (by omega) b2a.size ?_); intro v3 w3 o3 g3; have b3 := below_own b2a o2a g3 (Nat.le_refl _) b2a.size; obtain ⟨A3, c3, rfl, hc3, hr3, _⟩ := o3.form; rw [← HM.out] at hr3)
      | (go_at_call 8; refine (sum_any _ _ _ (zs ++ low4 s) _ hr3 (by omega)).mono ?_; rintro e w4 ⟨rfl, rfl⟩; rw [HE.out]))
    go_ret
    exact ⟨rfl, H1.trans (b3.mono H1.size)⟩
  · have i0 : (1000 : Int) < (len0 : Int) := by omega
    go_enter Try.func6, Try.ntmps6
    go_wp2_with (go_at_call 7; refine (alive_any _).mono ?_; rintro e w1 ⟨rfl, H1⟩)
    go_ret
    exact ⟨rfl, H1⟩

/-! ### THE ROW's STEP: WRITTEN OUT: LEAVE IT -/
set_option maxRecDepth 100000 in
theorem lifted (os : Os) (started : os.Started) (H : Type) (enc : TypeId × Value → H) :
    ReturnsInHanded {} Try.checked os 6 .any (Rows.crcEndSpec.pre6 enc Try.prog Try.f6 Rows.crcEndRow.domain false) (Rows.crcEndSpec.post enc Try.prog Try.f6 false true false false) := by
  refine returnsInHanded_of_change (C := Try.checked) own started (by kernel_rfl) Try.func6
    (ChangeSpec.witness6 (enc := enc) (C := Try.checked) false ⟨#[], #[.slice none 0 0], []⟩ 8 (by kernel_rfl) (by kernel_rfl) (by kernel_rfl) (by kernel_rfl)) ?_
  intro W base args ds gs before hval0 hW hcnd _
  have hval : ∀ (j : Nat) t v, Try.f6.params[j]? = some t → args[j]? = some v → Value.okWide Try.prog W .any base t v := hval0
  have hW' := hW
  obtain ⟨p, q, hA0, hV, rfl, hfz, hnd⟩ := hW
  have hA : DataW.TrodAll enc Try.prog W 0 (fun _ => true) true Try.f6.params.toList args.toList ds p := hA0
  rw [Try.params6] at hA hval
  obtain ⟨v0, vs0, d0, ds0, p0, q0, hargs, rfl, rfl, h0, r0⟩ := trodAll_cons hA
  obtain ⟨rfl, rfl, rfl⟩ := trodAll_nil r0
  obtain rfl : args = #[v0] := by cases args; simp_all
  obtain ⟨rfl, rfl⟩ := trodVars_none hV
  obtain ⟨a0, len0, cap0, rfl⟩ := okWide_slice Try.underlying22 (hval 0 22 v0 rfl rfl)
  have k0 := h0
  have lt0 : ∀ x ∈ p0, x.block < W.heap.size := by obtain ⟨m, hm⟩ := k0; exact DataW.trod_lt m _ _ _ hm
  obtain ⟨z0, w0⟩ : ∃ zs, IsRow .u8 W a0 len0 cap0 zs := by
    obtain ⟨fuel, hf⟩ := h0
    rcases open_ints Try.underlying22 Try.underlying5 (by kernel_rfl) hf with ⟨hcs, _⟩ | ⟨x, l, c, zs, hcs, _, hl, hm, hz, _, hcell, hwz⟩
    · simp [Value.cells] at hcs
      obtain ⟨rfl, rfl, rfl⟩ := hcs
      exact ⟨[], .inl ⟨rfl, rfl, rfl, rfl⟩⟩
    · simp [Value.cells] at hcs
      obtain ⟨rfl, rfl, rfl⟩ := hcs
      exact ⟨zs, .inr ⟨_, rfl, hl, hm, by simpa using hz, hcell, hwz⟩⟩
  clear hA0 hval0
  refine (walk a0 len0 cap0 z0 W w0).mono fun e W' ⟨he, bel⟩ => ?_
  subst he
  exact ⟨_, rfl, _, _, _, [], _, [], hW', trodAll_mk1 (shut_bool Try.underlying4 _), (trodAll_cons_mk (Below.trod laidOut (by kernel_rfl) (of_decide_eq_true (by kernel_rfl)) k0 bel lt0) trodAll_mk0), rfl, bel.frame _, fun h => by cases h⟩

theorem over : Rows.crcEndRow.holds Try.pinned (OpenSpec.ofChange Rows.crcEndSpec) :=
  OpenClaim.holds_of_wide 6 Try.f6 rfl rfl rfl rfl rfl rfl rfl ⟨rfl, rfl, rfl, rfl, rfl⟩ rfl rfl rfl rfl rfl (by kernel_rfl) Try.func6 (by kernel_rfl)
    (of_decide_eq_true (by kernel_rfl)) (by unfold Func.isWrapper; first | (rw [if_pos (by decide +kernel)]; kernel_rfl) | (rw [if_neg (by decide +kernel)]; exact ⟨rfl, rfl⟩))
    (fun os started H enc _ => lifted os started H enc)

/-- ████ THE STATEMENT ████ -/
theorem proved : Rows.CrcEndSaid := over
end Go.Proofs.Ytcdbfpfjackloaa.crcEnd
namespace Go.Proofs.Ytcdbfpfjackloaa
theorem CrcEnd_holds : Rows.CrcEndSaid := crcEnd.proved
#print axioms CrcEnd_holds
end Go.Proofs.Ytcdbfpfjackloaa
