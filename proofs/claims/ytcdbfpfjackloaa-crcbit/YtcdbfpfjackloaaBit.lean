/-
  What is proved: for all rows of bytes and all numbers the law CrcBit answers true: one bit that is turned turns the sum, wherever it is (rows of 1 to 1000 bytes, places from 0 on; others the law lets by). Conditions: none.
-/
import Derived.Test.YtcdbfpfjackloaaOwn
import Derived.Test.YtcdbfpfjackloaaRows
import Derived.WalkKit
import Derived.ProofKit
import Derived.OpenShut
import Derived.ShutString
import Derived.ChangeOld
import Derived.Below
namespace Go.Proofs.Ytcdbfpfjackloaa.crcBit
open Go.ChangeShapes Go.WideShapes Go.ChangeAt Go.RowKit
open Go.ChangeMaps (open_string shut_string)
set_option linter.unusedVariables false

theorem own : ownKnob Try.prog.godebug = none := by kernel_rfl
theorem laidOut : laidOutB Try.prog = true := by kernel_rfl

/-- WHAT THE WALK IS TOLD OF A SLICE OF INTEGERS THAT CAME IN: it is nil; or it leads to a row of 'cap' cells, the numbers 'zs' (the first 'len' are its elements, the rest its spare room), each fitting its kind. -/
def IsRow (k : IntKind) (w : World) (a : Option Addr) (len cap : Nat) (zs : List Int) : Prop :=
  (a = none ∧ len = 0 ∧ cap = 0 ∧ zs = []) ∨
  ∃ x, a = some x ∧ len ≤ cap ∧ cap ≤ maxLen ∧ zs.length = cap ∧ (∀ i, i < zs.length → w.cell? (x.add i) = some (.int k (zs.getD i 0))) ∧ ∀ n ∈ zs, (Lit.int k n).wf = true

theorem and7 (n : Int) : bits .and .i64 n 7 = n % 8 := by
  have h7 : (BitVec.ofInt 64 7).toNat = 2 ^ 3 - 1 := by decide
  have key : (BitVec.ofInt 64 n &&& BitVec.ofInt 64 7).toNat = (n % ((2 ^ 64 : Nat) : Int)).toNat % 2 ^ 3 := by
    rw [BitVec.toNat_and, BitVec.toNat_ofInt, h7, Nat.and_two_pow_sub_one_eq_mod]
  show IntKind.i64.wrap ((BitVec.ofInt 64 n &&& BitVec.ofInt 64 7).toNat : Nat) = n % 8
  rw [key, IntKind.wrap_i64]
  omega
theorem ret_bool {a b : Bool} (h : a = b) : Ending.returned (.bool a) = .returned (.bool b) := by rw [h]
theorem told_apart {x y : Nat} (h : x ≠ y) : ((x : Int) != (y : Int)) = true := by
  rw [bne_iff_ne]
  omega
theorem pow_all : ∀ k : Fin 8, (2 : Int) ^ k.val % 256 = 2 ^ k.val ∧ 0 ≤ (2 : Int) ^ k.val ∧ (2 : Int) ^ k.val ≤ 255 ∧ (2 : Int) ^ k.val ≠ 0 := by decide +kernel
theorem bits_xor (x y : Int) (hx : 0 ≤ x ∧ x ≤ 255) (hy : 0 ≤ y ∧ y ≤ 255) : bits .xor .u8 x y = ((x.toNat ^^^ y.toNat : Nat) : Int) := u8_xor x y hx.1 (by omega) hy.1 (by omega)
theorem xor_byt {x y : Int} (hx : 0 ≤ x ∧ x ≤ 255) (hy : 0 ≤ y ∧ y ≤ 255) : 0 ≤ bits .xor .u8 x y ∧ bits .xor .u8 x y ≤ 255 := by
  rw [bits_xor x y hx hy]
  have : x.toNat ^^^ y.toNat < 2 ^ 8 := Nat.xor_lt_two_pow (by omega) (by omega)
  omega
theorem xor_other {z x : Int} (hz : 0 ≤ z ∧ z ≤ 255) (hx : 0 ≤ x ∧ x ≤ 255) (h : x ≠ 0) : z ≠ bits .xor .u8 z x := by
  intro e
  rw [bits_xor z x hz hx] at e
  have e2 : z.toNat = z.toNat ^^^ x.toNat := by omega
  have e3 := congrArg (z.toNat ^^^ ·) e2
  simp [← Nat.xor_assoc] at e3
  omega
set_option maxRecDepth 100000 in
set_option maxHeartbeats 1000000 in
theorem walk (a0 : Option Addr) (len0 cap0 : Nat) (z0 : List Int) (a1 : Int) (a2 : Int) (w : World) (w0 : IsRow .u8 w a0 len0 cap0 z0) (w1 : (Lit.int .i64 a1).wf = true) (w2 : (Lit.int .i64 a2).wf = true) :
    Calls Try.prog 5 #[.slice a0 len0 cap0, .int .i64 a1, .int .i64 a2] w fun e w' => e = .returned (.bool true) ∧ Below w.heap.size w w' := by
  have hr := row_of w0
  have hat := bounds_i64 w1
  clear w0 w1
  generalize z0.take len0 = xs at *
  by_cases h0 : len0 < 1
  · have i0 : (len0 : Int) < 1 := by omega
    go_enter Try.func5, Try.ntmps5
    go_wp2_with (go_at_call 7; refine (alive_any _).mono ?_; rintro e w1 ⟨rfl, H1⟩)
    go_ret
    exact ⟨rfl, H1⟩
  have i0 : ¬ (len0 : Int) < 1 := by omega
  by_cases h1 : 1000 < len0
  · have i1 : (1000 : Int) < (len0 : Int) := by omega
    go_enter Try.func5, Try.ntmps5
    go_wp2_with (go_at_call 7; refine (alive_any _).mono ?_; rintro e w1 ⟨rfl, H1⟩)
    go_ret
    exact ⟨rfl, H1⟩
  have i1 : ¬ (1000 : Int) < (len0 : Int) := by omega
  by_cases h2 : a1 < 0
  · go_enter Try.func5, Try.ntmps5
    go_wp2_with (go_at_call 7; refine (alive_any _).mono ?_; rintro e w1 ⟨rfl, H1⟩)
    go_ret
    exact ⟨rfl, H1⟩
  have j0 : (len0 : Int) ≠ 0 := by omega
  have hlb : ((len0 : Int) == 0) = false := by simpa using j0
  obtain ⟨k, hk8, ek⟩ : ∃ k : Nat, k < 8 ∧ bits .and .i64 a2 7 = (k : Int) := ⟨(a2 % 8).toNat, by omega, by rw [and7]; omega⟩
  obtain ⟨p1, p2, p3, p4⟩ := pow_all ⟨k, hk8⟩
  simp only [] at p1 p2 p3 p4
  go_enter Try.func5, Try.ntmps5
  go_wp2_with (first
    | (go_at_call 7; refine (alive_any _).mono ?_; rintro e w1 ⟨rfl, H1⟩; have hr1 := row_below H1 hr; have n1 := own_nil w1 w1.heap.size)
    | (at_builtin; (with_reducible refine wpList_app rfl _ _ rfl w1.heap.size (.slice none 0 0) 0 [] rfl n1 _ _ _ xs rfl hr1 (row_none hr1) (by omega) (Nat.le_refl _) ?_); intro v2 w2 o2 g2; have b2 := below_own (Below.refl _ w1) n1 g2 (Nat.le_refl _) (Nat.le_refl _); rw [Nat.zero_add, List.nil_append] at o2))
  obtain ⟨g, cap, cur, rfl, hgb, hG, hcn, hcm, hcs, hct⟩ : ∃ g cap cur, v2 = .slice (some ⟨g, 0, none⟩) len0 cap ∧ w1.heap.size ≤ g ∧ Has w2 g 5 cur ∧ len0 ≤ cap ∧ cap ≤ maxLen ∧ cur.size = cap ∧ cur.toList.take len0 = nums xs := by
    rcases o2.1.2 with ⟨_, e⟩ | ⟨g, cap, cur, e1, e2, e3, e4, e5, e6, e7⟩
    · omega
    · exact ⟨g, cap, cur, e1, e2, e3, e4, e5, by simpa using e6, by simpa using e7⟩
  obtain ⟨K, hKe, hKN⟩ : ∃ K : Nat, a1 % (len0 : Int) = (K : Int) ∧ K < len0 := ⟨(a1 % (len0 : Int)).toNat, by have := Int.emod_nonneg a1 j0; omega, by have := Int.emod_nonneg a1 j0; have := Int.emod_lt_of_pos a1 (show (0 : Int) < len0 by omega); omega⟩
  have hKt : a1.tmod (len0 : Int) = (K : Int) := by rw [Int.tmod_eq_emod_of_nonneg (by omega)]; exact hKe
  have hxl := hr.1
  have qK : w2.cell? ⟨g, K, none⟩ = some (.int .u8 (xs.getD K 0)) := by
    rw [hG.at]
    have e1 : cur[K]? = (cur.toList.take len0)[K]? := by rw [List.getElem?_take, if_pos hKN]; simp
    rw [e1, hct]
    simp only [nums, List.getElem?_map, List.getD_eq_getElem?_getD]
    rw [List.getElem?_eq_getElem (by omega)]
    rfl
  have qF := hG.soft K
  have iK0 : (0 : Int) ≤ (K : Int) := by omega
  have iK1 : (K : Int) < (len0 : Int) := by omega
  have hzb := byt_at hr.2.1 K
  have hyb := xor_byt hzb ⟨p2, p3⟩
  have HNO := Lib.hid (crc_set hr.2.1 (show K < xs.length by omega) hyb (xor_other hzb ⟨p2, p3⟩ p4))
  have hrw := set_row hG hct hxl hKN hr.2.1 _ hyb
  have hb3 := b2.setCell (p := ⟨g, K, none⟩) hgb (.int .u8 (bits .xor .u8 (xs.getD K 0) (2 ^ k)))
  generalize xs.getD K 0 = z at *
  generalize hbz : bits .xor .u8 z (2 ^ k) = y at *
  generalize hw3 : w2.setCell ⟨g, K, none⟩ (.int .u8 y) = w3 at *
  have HR := Lib.hid (row_below ((Below.refl _ w3).drew) hrw)
  have HK2 := Lib.hid (row_below hb3.drew hr1)
  clear hct hxl hG o2 hKe hr1 g2 n1 hrw
  go_region
  go_wp2_with (first
    | (go_at_call_of 8 (Value.slice a0 len0 cap0); refine (sum_any _ _ _ xs _ HK2.out (by omega)).mono ?_; rintro e w4 ⟨rfl, rfl⟩)
    | (go_at_call 8; refine (sum_any _ _ _ (xs.set K y) _ HR.out (by omega)).mono ?_; rintro e w4 ⟨rfl, rfl⟩))
  go_ret
  exact ⟨ret_bool (told_apart HNO.out), H1.trans (hb3.drew.mono H1.size)⟩

/-! ### THE ROW's STEP: WRITTEN OUT: LEAVE IT -/
set_option maxRecDepth 100000 in
theorem lifted (os : Os) (started : os.Started) (H : Type) (enc : TypeId × Value → H) :
    ReturnsInHanded {} Try.checked os 5 .any (Rows.crcBitSpec.pre6 enc Try.prog Try.f5 Rows.crcBitRow.domain false) (Rows.crcBitSpec.post enc Try.prog Try.f5 false true false false) := by
  refine returnsInHanded_of_change (C := Try.checked) own started (by kernel_rfl) Try.func5
    (ChangeSpec.witness6 (enc := enc) (C := Try.checked) false ⟨#[], #[.slice none 0 0, .int .i64 0, .int .i64 0], []⟩ 8 (by kernel_rfl) (by kernel_rfl) (by kernel_rfl) (by kernel_rfl)) ?_
  intro W base args ds gs before hval0 hW hcnd _
  have hval : ∀ (j : Nat) t v, Try.f5.params[j]? = some t → args[j]? = some v → Value.okWide Try.prog W .any base t v := hval0
  have hW' := hW
  obtain ⟨p, q, hA0, hV, rfl, hfz, hnd⟩ := hW
  have hA : DataW.TrodAll enc Try.prog W 0 (fun _ => true) true Try.f5.params.toList args.toList ds p := hA0
  rw [Try.params5] at hA hval
  obtain ⟨v0, vs0, d0, ds0, p0, q0, hargs, rfl, rfl, h0, r0⟩ := trodAll_cons hA
  obtain ⟨v1, vs1, d1, ds1, p1, q1, rfl, rfl, rfl, h1, r1⟩ := trodAll_cons r0
  obtain ⟨v2, vs2, d2, ds2, p2, q2, rfl, rfl, rfl, h2, r2⟩ := trodAll_cons r1
  obtain ⟨rfl, rfl, rfl⟩ := trodAll_nil r2
  obtain rfl : args = #[v0, v1, v2] := by cases args; simp_all
  obtain ⟨rfl, rfl⟩ := trodVars_none hV
  obtain ⟨a0, len0, cap0, rfl⟩ := okWide_slice Try.underlying22 (hval 0 22 v0 rfl rfl)
  have k0 := h0
  have lt0 : ∀ x ∈ p0, x.block < W.heap.size := by obtain ⟨m, hm⟩ := k0; exact DataW.trod_lt m _ _ _ hm
  obtain ⟨z0, w0⟩ : ∃ zs, IsRow .u8 W a0 len0 cap0 zs := by
    obtain ⟨fuel, hf⟩ := h0
    rcases open_ints Try.underlying22 Try.underlying5 (by kernel_rfl) hf with ⟨hcs, _⟩ | ⟨x, l, c, zs, hcs, _, hl, hm, hz, _, hcell, hwz⟩
    · simp [Value.cells] at hcs
      obtain ⟨rfl, rfl, rfl⟩ := hcs
      exact ⟨[], .inl ⟨rfl, rfl, rfl, rfl⟩⟩
    · simp [Value.cells] at hcs
      obtain ⟨rfl, rfl, rfl⟩ := hcs
      exact ⟨zs, .inr ⟨_, rfl, hl, hm, by simpa using hz, hcell, hwz⟩⟩
  obtain ⟨a1, rfl, rfl, rfl, w1⟩ := open_int Try.underlying3 (hval 1 3 v1 rfl rfl) h1
  obtain ⟨a2, rfl, rfl, rfl, w2⟩ := open_int Try.underlying3 (hval 2 3 v2 rfl rfl) h2
  clear hA0 hval0
  refine (walk a0 len0 cap0 z0 a1 a2 W w0 w1 w2).mono fun e W' ⟨he, bel⟩ => ?_
  subst he
  exact ⟨_, rfl, _, _, _, [], _, [], hW', trodAll_mk1 (shut_bool Try.underlying4 _), (trodAll_cons_mk (Below.trod laidOut (by kernel_rfl) (of_decide_eq_true (by kernel_rfl)) k0 bel lt0) (trodAll_cons_mk (shut_int Try.underlying3 w1) (trodAll_cons_mk (shut_int Try.underlying3 w2) trodAll_mk0))), rfl, bel.frame _, fun h => by cases h⟩

theorem over : Rows.crcBitRow.holds Try.pinned (OpenSpec.ofChange Rows.crcBitSpec) :=
  OpenClaim.holds_of_wide 5 Try.f5 rfl rfl rfl rfl rfl rfl rfl ⟨rfl, rfl, rfl, rfl, rfl⟩ rfl rfl rfl rfl rfl (by kernel_rfl) Try.func5 (by kernel_rfl)
    (of_decide_eq_true (by kernel_rfl)) (by unfold Func.isWrapper; first | (rw [if_pos (by decide +kernel)]; kernel_rfl) | (rw [if_neg (by decide +kernel)]; exact ⟨rfl, rfl⟩))
    (fun os started H enc _ => lifted os started H enc)

/-- ████ THE STATEMENT ████ -/
theorem proved : Rows.CrcBitSaid := over
end Go.Proofs.Ytcdbfpfjackloaa.crcBit
namespace Go.Proofs.Ytcdbfpfjackloaa
theorem CrcBit_holds : Rows.CrcBitSaid := crcBit.proved
#print axioms CrcBit_holds
end Go.Proofs.Ytcdbfpfjackloaa
